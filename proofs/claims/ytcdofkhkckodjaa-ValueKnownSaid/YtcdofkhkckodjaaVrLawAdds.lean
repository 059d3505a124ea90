/- ValueAdds: the stage's theorem: Add is the same in whatever order, and however rows are cut; Less undoes it; rows that are the same are sorted alike. -/
import Derived.Test.YtcdofkhkckodjaaVrWorks
import Derived.SizedLaws
namespace Go.Proofs.Ytcdofkhkckodjaa
open Go.ChangeShapes Go.WideShapes Go.ChangeAt Go.RowKit Go.BigFrame
open Vr
set_option linter.unusedVariables false
set_option maxRecDepth 100000
namespace valueAdds
theorem m_slice {P : Program} {K : Value → World → Prop} {o : Oper} {a : Act} {w : World} {v : Value} (t : TypeId) (x : Operand) (lo hi mx : Option Operand) (X : Value) (L H M : Option Value) (ho : o.op = .slice t x lo hi mx) (hx : a.eval x = X)
    (hl : lo.map a.eval = L) (hh : hi.map a.eval = H) (hm : mx.map a.eval = M) (hr : (Instr.sliceAt t X L H M).run P w = .ok v w) (h : K v w) : Free.gets P K ((execOp a.eval o).run P w) := by
  unfold execOp; simp only [ho, hx, hl, hh, hm, Sem.run_bind, hr, Result.andThen_ok, Sem.run_pure, Free.gets]; exact h
theorem slice_lo {w : World} {A : Option Addr} {l : List Rd} {d k : Nat} (h : RowV w (.slice A l.length d) l) (hk : k ≤ l.length) :
    ∃ v, (∀ w', (Instr.sliceAt 22 (.slice A l.length d) (some (.int .i64 (k : Nat))) none none).run Try.prog w' = .ok v w') ∧ RowV w v (l.drop k) := by
  obtain ⟨A', d', e, hT, hn, h1, h2⟩ := h
  cases e
  refine ⟨.slice (if d = k then A else A.map (·.add (k * 2))) (l.length - k) (d - k), fun w' => ?_, (if d = k then A else A.map (·.add (k * 2))), d - k, by rw [List.length_drop], ?_, ?_, by rw [List.length_drop]; omega, by omega⟩
  · have hkz : (k : Int) ≤ (l.length : Int) := by omega
    go_simp
  · by_cases hd : d = k
    · have : l.drop k = [] := List.drop_eq_nil_of_le (by omega)
      rw [this]; exact fun hn => absurd hn (by simp)
    · rw [if_neg hd]
      intro hne
      have hl : 0 < l.length := by rw [List.length_drop] at hne; omega
      obtain ⟨b, o, rfl, _, _⟩ := hT hl
      have h := hT.drop k hne
      rw [show kindR.K = 2 from rfl] at h
      have e : (⟨b, o, none⟩ : Addr).add (k * 2) = ⟨b, o + k * 2, none⟩ := by simp [Addr.add]
      rw [Option.map_some, e]
      exact h
  · intro e
    have hA : A = none := by
      by_cases hd : d = k
      · rw [if_pos hd] at e; exact e
      · rw [if_neg hd] at e; simpa using e
    obtain ⟨h3, h4⟩ := hn hA
    exact ⟨by omega, by rw [h4]; simp⟩
theorem slice_hi {w : World} {A : Option Addr} {l : List Rd} {d k : Nat} (h : RowV w (.slice A l.length d) l) (hk : k ≤ l.length) :
    ∃ v, (∀ w', (Instr.sliceAt 22 (.slice A l.length d) none (some (.int .i64 (k : Nat))) none).run Try.prog w' = .ok v w') ∧ RowV w v (l.take k) := by
  obtain ⟨A', d', e, hT, hn, h1, h2⟩ := h
  cases e
  refine ⟨.slice (if d = 0 then A else A.map (·.add (0 * 2))) (k - 0) (d - 0), fun w' => ?_, (if d = 0 then A else A.map (·.add (0 * 2))), d - 0, by rw [List.length_take]; congr 1; omega, ?_, ?_, by rw [List.length_take]; omega, by omega⟩
  · have hkz : (k : Int) ≤ (d : Int) := by omega
    go_simp
  · by_cases hd : d = 0
    · rw [if_pos hd]; exact hT.take k
    · rw [if_neg hd]
      intro hne
      have hl : 0 < l.length := by rw [List.length_take] at hne; omega
      obtain ⟨b, o, rfl, _, _⟩ := hT hl
      have h := hT.take k hne
      exact h
  · intro e
    have hA : A = none := by
      by_cases hd : d = 0
      · rw [if_pos hd] at e; exact e
      · rw [if_neg hd] at e; simpa using e
    obtain ⟨h3, h4⟩ := hn hA
    exact ⟨by omega, by rw [h4]; simp⟩
theorem cut_sum (la lb lc : List Rd) (k : Nat) : sortR ([lb, la.drop k, sortR lc, la.take k] : List (List Rd)).flatten = sortR ([la, lb, lc] : List (List Rd)).flatten := by
  refine sortR_iff.2 (List.perm_iff_count.2 fun x => ?_)
  have h1 := (sortR_perm (l := lc)).count_eq x
  have h2 := congrArg (List.count x) (List.take_append_drop k la)
  rw [List.count_append] at h2
  simp only [List.flatten_cons, List.flatten_nil, List.append_nil, List.count_append]
  omega
theorem turn_sum (la lb lc : List Rd) : sortR ([lc, la, lb] : List (List Rd)).flatten = sortR ([la, lb, lc] : List (List Rd)).flatten := by
  refine sortR_iff.2 (List.perm_iff_count.2 fun x => ?_)
  simp only [List.flatten_cons, List.flatten_nil, List.append_nil, List.count_append]
  omega
theorem one_sum (lc : List Rd) : sortR ([lc, []] : List (List Rd)).flatten = sortR lc := by
  simp only [List.flatten_cons, List.flatten_nil, List.append_nil]
theorem less_all (la lb lc : List Rd) : lessR (sortR ([la, lb, lc] : List (List Rd)).flatten) lb = some (sortR ([la, lc] : List (List Rd)).flatten) := by
  refine lessR_add (sortR_perm.trans (List.perm_iff_count.2 fun x => ?_))
  simp only [List.flatten_cons, List.flatten_nil, List.append_nil, List.count_append]
  omega
theorem less_one (la lc : List Rd) : lessR (sortR ([la, lc] : List (List Rd)).flatten) la = some (sortR lc) := by
  refine lessR_add (sortR_perm.trans (List.perm_iff_count.2 fun x => ?_))
  simp only [List.flatten_cons, List.flatten_nil, List.append_nil, List.count_append]
theorem less_more (la : List Rd) (x : Rd) : lessR la (sortR ([la, [x]] : List (List Rd)).flatten) = none := by
  cases h : lessR la (sortR ([la, [x]] : List (List Rd)).flatten) with
  | none => rfl
  | some p =>
    have h1 := (lessR_length h).2
    rw [sortR_perm.length_eq] at h1
    simp at h1
    omega
def tbAd (A B C A1 : Option Addr) (ca cb cc c1 k : Nat) (la lb lc s tc : List Rd) (v54 v60 : Value) (i : Nat) : World → Value → Prop := match i with
  | 4 => fun w v => LitV w v [lc, la, lb]
  | 5 => fun w v => RowV w v s
  | 15 => fun w v => LitV w v [lc, []]
  | 16 => fun w v => RowV w v tc
  | 20 => fun w v => LitV w v [lb, (la.drop k), tc, (la.take k)]
  | 21 => fun w v => RowV w v s
  | 28 => fun w v => RowV w v s
  | _ => fun _ _ => True
def vtAd (A B C A1 : Option Addr) (ca cb cc c1 k : Nat) (la lb lc s tc : List Rd) (v54 v60 : Value) (i : Nat) (v : Value) : Prop := match i with
  | 0 => v = .slice A1 s.length c1
  | 1 => v = .slice C lc.length cc
  | 2 => v = .slice A la.length ca
  | 3 => v = .slice B lb.length cb
  | 6 => v = .bool true
  | 7 => v = .bool false
  | 8 => v = .bool false
  | 9 => v = .slice A1 s.length c1
  | 10 => v = .slice B lb.length cb
  | 11 => v = .slice A la.length ca
  | 12 => v = .int .i64 (k : Nat)
  | 13 => v = v54
  | 14 => v = .slice C lc.length cc
  | 17 => v = .slice A la.length ca
  | 18 => v = .int .i64 (k : Nat)
  | 19 => v = v60
  | 22 => v = .bool true
  | 23 => v = .bool false
  | 24 => v = .bool false
  | 25 => v = .bool false
  | 26 => v = .slice A1 s.length c1
  | 27 => v = .slice A1 s.length c1
  | 29 => v = .bool true
  | 30 => v = .bool false
  | 31 => v = .bool false
  | _ => True
theorem tbAd_keep (A B C A1 : Option Addr) (ca cb cc c1 k : Nat) (la lb lc s tc : List Rd) (v54 v60 : Value) : ∀ i, Kept (tbAd A B C A1 ca cb cc c1 k la lb lc s tc v54 v60 i) := fun i => by
  unfold tbAd
  split <;> first | exact kept_row _ | exact kept_lit _ | exact kept_byt _ | exact kept_true
theorem tbAd_end (A B C A1 : Option Addr) (ca cb cc c1 k : Nat) (la lb lc s tc : List Rd) (v54 v60 : Value) : ∀ i w v, 32 ≤ i → tbAd A B C A1 ca cb cc c1 k la lb lc s tc v54 v60 i w v := fun i w v h => by
  unfold tbAd
  split <;> first | trivial | (exfalso; omega)
set_option maxHeartbeats 16000000 in
theorem walk (A B C : Option Addr) (la lb lc : List Rd) (ca cb cc : Nat) (i0 : Int) (hi0 : -9223372036854775808 ≤ i0 ∧ i0 ≤ 9223372036854775807) (w : World)
    (hA : RowV w (.slice A la.length ca) la) (hB : RowV w (.slice B lb.length cb) lb) (hC : RowV w (.slice C lc.length cc) lc) :
    Calls Try.prog 5 #[.slice A la.length ca, .slice B lb.length cb, .slice C lc.length cc, .int .i64 i0] w fun e w' => e = .returned (.bool true) ∧ Below w.heap.size w w' := by
  have HA := Lib.hid hA; have HB := Lib.hid hB; have HC := Lib.hid hC; have HI := Lib.hid hi0; clear hA hB hC hi0
  have Hb := Lib.hid (Below.refl w.heap.size w)
  by_cases hx : 60 < la.length
  · have hzla : (60 : Int) < (la.length : Int) := by omega
    have dla : decide ((60 : Int) < (la.length : Int)) = true := by simp; omega
    go_enter Try.func5, Try.ntmps5
    have hc := works_any w
    have HC := Lib.hid hc; clear hc
    go_wp2_with fail
    refine HC.out.mono ?_; rintro e w2 ⟨rfl, hb0⟩
    clear HC
    have hb := hb0
    clear hb0
    have h := HA.out.below hb; clear HA; have HA := Lib.hid h; clear h
    have h := HB.out.below hb; clear HB; have HB := Lib.hid h; clear h
    have h := HC.out.below hb; clear HC; have HC := Lib.hid h; clear h
    have h := Hb.out.trans (hb.mono Hb.out.size); clear Hb hb; have Hb := Lib.hid h; clear h
    dsimp only
    go_wp2_with fail
    go_ret
    exact ⟨rfl, Hb.out⟩
  · have hzla : ¬ (60 : Int) < (la.length : Int) := by omega
    have dla : decide ((60 : Int) < (la.length : Int)) = false := by simp; omega
    have hla : la.length ≤ 60 := by omega
    clear hx
    by_cases hx : 60 < lb.length
    · have hzlb : (60 : Int) < (lb.length : Int) := by omega
      have dlb : decide ((60 : Int) < (lb.length : Int)) = true := by simp; omega
      go_enter Try.func5, Try.ntmps5
      have hc := works_any w
      have HC := Lib.hid hc; clear hc
      go_wp2_with fail
      refine HC.out.mono ?_; rintro e w2 ⟨rfl, hb0⟩
      clear HC
      have hb := hb0
      clear hb0
      have h := HA.out.below hb; clear HA; have HA := Lib.hid h; clear h
      have h := HB.out.below hb; clear HB; have HB := Lib.hid h; clear h
      have h := HC.out.below hb; clear HC; have HC := Lib.hid h; clear h
      have h := Hb.out.trans (hb.mono Hb.out.size); clear Hb hb; have Hb := Lib.hid h; clear h
      dsimp only
      go_wp2_with fail
      go_ret
      exact ⟨rfl, Hb.out⟩
    · have hzlb : ¬ (60 : Int) < (lb.length : Int) := by omega
      have dlb : decide ((60 : Int) < (lb.length : Int)) = false := by simp; omega
      have hlb : lb.length ≤ 60 := by omega
      clear hx
      by_cases hx : 60 < lc.length
      · have hzlc : (60 : Int) < (lc.length : Int) := by omega
        have dlc : decide ((60 : Int) < (lc.length : Int)) = true := by simp; omega
        go_enter Try.func5, Try.ntmps5
        have hc := works_any w
        have HC := Lib.hid hc; clear hc
        go_wp2_with fail
        refine HC.out.mono ?_; rintro e w2 ⟨rfl, hb0⟩
        clear HC
        have hb := hb0
        clear hb0
        have h := HA.out.below hb; clear HA; have HA := Lib.hid h; clear h
        have h := HB.out.below hb; clear HB; have HB := Lib.hid h; clear h
        have h := HC.out.below hb; clear HC; have HC := Lib.hid h; clear h
        have h := Hb.out.trans (hb.mono Hb.out.size); clear Hb hb; have Hb := Lib.hid h; clear h
        dsimp only
        go_wp2_with fail
        go_ret
        exact ⟨rfl, Hb.out⟩
      · have hzlc : ¬ (60 : Int) < (lc.length : Int) := by omega
        have dlc : decide ((60 : Int) < (lc.length : Int)) = false := by simp; omega
        have hlc : lc.length ≤ 60 := by omega
        clear hx
        have hs : (sortR ([la, lb, lc] : List (List Rd)).flatten).length ≤ 180 := by rw [sortR_perm.length_eq]; simp; omega
        have htc : (sortR lc).length ≤ 60 := by rw [sortR_perm.length_eq]; exact hlc
        have hta : (sortR la).length ≤ 60 := by rw [sortR_perm.length_eq]; exact hla
        have htb : (sortR lb).length ≤ 60 := by rw [sortR_perm.length_eq]; exact hlb
        have hu : (sortR ([la, lc] : List (List Rd)).flatten).length ≤ 120 := by rw [sortR_perm.length_eq]; simp; omega
        have hx5 : (sortR ([la, [⟨5, 0⟩]] : List (List Rd)).flatten).length ≤ 61 := by rw [sortR_perm.length_eq]; simp; omega
        have HADD0 := Lib.hid (fun (w : World) (v : Value) (h : LitV w v [la, lb, lc]) => add_v h (by simp) (by simp; omega))
        have HADD1 := Lib.hid (fun (w : World) (v : Value) (h : LitV w v [lc, la, lb]) => add_v h (by simp) (by simp; omega))
        have HADD2 := Lib.hid (fun (w : World) (v : Value) (h : LitV w v [lc, []]) => add_v h (by simp) (by simp; omega))
        have HADD3 := Lib.hid (fun (k : Nat) (w : World) (v : Value) (h : LitV w v [lb, la.drop k, sortR lc, la.take k]) => add_v h (by simp) (by simp; omega))
        have HADDU := Lib.hid (fun (w : World) (v : Value) (h : LitV w v [la, lc]) => add_v h (by simp) (by simp; omega))
        have HADD5 := Lib.hid (fun (w : World) (v : Value) (h : LitV w v [la, [⟨5, 0⟩]]) => add_v h (by simp) (by simp; omega))
        have HSO := Lib.hid (fun (w : World) (v : Value) (h : RowV w v (sortR ([la, lb, lc] : List (List Rd)).flatten)) => sorted_v h (by omega))
        have HL1 := Lib.hid (less_all la lb lc); have HL2 := Lib.hid (less_one la lc); have HL3 := Lib.hid (less_more la ⟨5, 0⟩)
        have HTC := Lib.hid (show sameR (sortR (sortR lc)) (sortR lc) = true by rw [sortR_sortR]; exact sameR_self _)
        have HTC0 := Lib.hid (show sortR lc = sortR lc from rfl)
        simp only [sortR_sortR, turn_sum, one_sum, cut_sum] at HADD1 HADD2 HADD3 HSO
        generalize sortR ([la, lb, lc] : List (List Rd)).flatten = s at *
        generalize sortR ([la, lc] : List (List Rd)).flatten = u at *
        generalize sortR ([la, [⟨5, 0⟩]] : List (List Rd)).flatten = x5 at *
        obtain ⟨tc, etc⟩ : ∃ tc, sortR lc = tc := ⟨_, rfl⟩
        obtain ⟨ta, eta⟩ : ∃ ta, sortR la = ta := ⟨_, rfl⟩
        obtain ⟨tb, etb⟩ : ∃ tb, sortR lb = tb := ⟨_, rfl⟩
        rw [etc] at HADD2 HADD3 HL2 HTC htc; rw [eta] at hta; rw [etb] at htb; clear HTC0
        have HETA := Lib.hid eta; have HETB := Lib.hid etb; have HETC := Lib.hid etc; clear eta etb etc
        obtain ⟨z, ez⟩ : ∃ z, sameR ta tb = z := ⟨_, rfl⟩
        have HZ := Lib.hid ez; clear ez
        go_enter Try.func5, Try.ntmps5
        have hp := pick_any i0 (la.length + 1) w HI.out (by omega)
        rw [show ((la.length + 1 : Nat) : Int) = (la.length : Int) + 1 by omega] at hp
        have HP := Lib.hid hp; clear hp
        go_wp2_with fail
        refine HP.out.mono ?_; rintro e w0 ⟨⟨k, rfl, hk⟩, rfl⟩
        have hka : k ≤ la.length := by omega
        clear HP hk
        dsimp only
        obtain ⟨v54, hs54, hr54⟩ := slice_lo HA.out hka
        obtain ⟨v60, hs60, hr60⟩ := slice_hi HA.out hka
        have HS54 := Lib.hid hs54; have HR54 := Lib.hid hr54; have HS60 := Lib.hid hs60; have HR60 := Lib.hid hr60
        clear hs54 hr54 hs60 hr60
        have h := HADD3.out k; clear HADD3; have HADD3 := Lib.hid h; clear h
        have hc := HADD0.out _ _ (LitV.made w [.slice A la.length ca, .slice B lb.length cb, .slice C lc.length cc] [la, lb, lc] ⟨HA.out, HB.out, HC.out, trivial⟩ #[.slice A la.length ca, .slice B lb.length cb, .slice C lc.length cc] rfl 3 rfl)
        have HC := Lib.hid hc; clear hc
        go_wp2_with fail
        refine HC.out.mono ?_; rintro e w2 ⟨⟨v, rfl, hr⟩, hb0⟩
        clear HC
        have hb : Below w.heap.size w w2 := ((Below.refl _ w).alloc (Nat.le_refl _) _).trans (hb0.mono (by simp))
        clear hb0
        have h := HA.out.below hb; clear HA; have HA := Lib.hid h; clear h
        have h := HB.out.below hb; clear HB; have HB := Lib.hid h; clear h
        have h := HC.out.below hb; clear HC; have HC := Lib.hid h; clear h
        have h := HR54.out.below hb; clear HR54; have HR54 := Lib.hid h; clear h
        have h := HR60.out.below hb; clear HR60; have HR60 := Lib.hid h; clear h
        have h := Hb.out.trans (hb.mono Hb.out.size); clear Hb hb; have Hb := Lib.hid h; clear h
        obtain ⟨A1, c1, rfl, z1⟩ := hr
        have H1 := Lib.hid (show RowV w2 (.slice A1 (s : List Rd).length c1) s from ⟨A1, c1, rfl, z1⟩); clear z1
        dsimp only
        go_wp2_with fail
        have tbk := tbAd_keep A B C A1 ca cb cc c1 k la lb lc s tc v54 v60
        refine Free.wp_key (by kernel_rfl) (by kernel_rfl) (FT _ (tbAd A B C A1 ca cb cc c1 k la lb lc s tc v54 v60)) (vtAd A B C A1 ca cb cc c1 k la lb lc s tc v54 v60) (fun vs => FT.start (tbAd_end A B C A1 ca cb cc c1 k la lb lc s tc v54 v60)) ?_ ?_
        · intro i o hi b vs a wa hold hpre hbi hF
          match i with
          | 0 =>
            cases hi
            have h0 : a.eval (.tmp 10) = .slice A1 s.length c1 := (hold 10 (by decide)).trans rfl
            exact Free.c_all rfl (Free.g_move _ rfl ⟨h0, hF.step tbk (Below.refl _ _) trivial⟩)
          | 1 =>
            cases hi
            have h0 : a.eval (.tmp 2) = .slice C lc.length cc := (hold 2 (by decide)).trans rfl
            exact Free.c_all rfl (Free.g_move _ rfl ⟨h0, hF.step tbk (Below.refl _ _) trivial⟩)
          | 2 =>
            cases hi
            have h0 : a.eval (.tmp 0) = .slice A la.length ca := (hold 0 (by decide)).trans rfl
            exact Free.c_all rfl (Free.g_move _ rfl ⟨h0, hF.step tbk (Below.refl _ _) trivial⟩)
          | 3 =>
            cases hi
            have h0 : a.eval (.tmp 1) = .slice B lb.length cb := (hold 1 (by decide)).trans rfl
            exact Free.c_all rfl (Free.g_move _ rfl ⟨h0, hF.step tbk (Below.refl _ _) trivial⟩)
          | 4 =>
            cases hi
            have e0 : a.eval (.tmp 42) = .slice C lc.length cc := (hpre 1 _ _ (by kernel_rfl) rfl rfl).2.2
            have r0 := (HC.out).below hF.1
            have e1 : a.eval (.tmp 43) = .slice A la.length ca := (hpre 2 _ _ (by kernel_rfl) rfl rfl).2.2
            have r1 := (HA.out).below hF.1
            have e2 : a.eval (.tmp 44) = .slice B lb.length cb := (hpre 3 _ _ (by kernel_rfl) rfl rfl).2.2
            have r2 := (HB.out).below hF.1
            obtain ⟨A0, c0, q0, z0⟩ := r0
            obtain ⟨A1, c1, q1, z1⟩ := r1
            obtain ⟨A2, c2, q2, z2⟩ := r2
            have f0 := e0.trans q0
            have f1 := e1.trans q1
            have f2 := e2.trans q2
            exact Free.c_all rfl (m_lit _ _ _ [(0, .slice A0 (lc : List Rd).length c0), (1, .slice A1 (la : List Rd).length c1), (2, .slice A2 (lb : List Rd).length c2)] rfl (by show [(0, a.eval (.tmp 42)), (1, a.eval (.tmp 43)), (2, a.eval (.tmp 44))] = _; rw [f0, f1, f2]) (build_l3 wa A0 A1 A2 _ c0 _ c1 _ c2) ⟨trivial, hF.step tbk ((Below.refl _ _).alloc (Nat.le_refl _) _) (LitV.made wa [.slice A0 (lc : List Rd).length c0, .slice A1 (la : List Rd).length c1, .slice A2 (lb : List Rd).length c2] [lc, la, lb] ⟨⟨A0, c0, rfl, z0⟩, ⟨A1, c1, rfl, z1⟩, ⟨A2, c2, rfl, z2⟩, trivial⟩ _ rfl _ rfl)⟩)
          | 5 =>
            cases hi
            have p0 := hpre 4 _ _ (by kernel_rfl) rfl rfl
            have e0 : a.eval (.tmp 45) = vs 4 := p0.2.1
            have r0 := hF.2 4 p0.1
            change LitV wa (vs 4) [lc, la, lb] at r0
            refine Free.c_all rfl (Free.g_call _ _ rfl Try.func17 (by kernel_rfl) rfl [vs 4] (by show [a.eval (.tmp 45)] = _; rw [e0]) ?_)
            exact (HADD1.out _ _ r0).mono fun e w2 ⟨⟨v9, he, hr9⟩, hb9⟩ => ⟨v9, he, trivial, hF.step tbk hb9 hr9⟩
          | 6 =>
            cases hi
            have e0 : a.eval (.tmp 41) = .slice A1 s.length c1 := (hpre 0 _ _ (by kernel_rfl) rfl rfl).2.2
            have r0 := (H1.out).below hF.1
            have p1 := hpre 5 _ _ (by kernel_rfl) rfl rfl
            have e1 : a.eval (.tmp 46) = vs 5 := p1.2.1
            have r1 := hF.2 5 p1.1
            change RowV wa (vs 5) s at r1
            refine Free.c_all rfl (Free.g_call _ _ rfl Try.func13 (by kernel_rfl) rfl [.slice A1 s.length c1, vs 5] (by show [a.eval (.tmp 41), a.eval (.tmp 46)] = _; rw [e0, e1]) ?_)
            exact (alike_v r0 r1 (by omega) (by omega)).mono fun e w2 ⟨he, hb9⟩ => ⟨_, he.trans (retb (sameR_self _)), rfl, hF.step tbk hb9 trivial⟩
          | 7 =>
            cases hi
            have h0 : a.eval (.tmp 47) = .bool true := (hpre 6 _ _ (by kernel_rfl) rfl rfl).2.2
            exact Free.c_all rfl (g_not _ _ rfl h0 ⟨rfl, hF.step tbk (Below.refl _ _) trivial⟩)
          | 8 =>
            cases hi
            have h0 : a.eval (.tmp 48) = .bool false := (hpre 7 _ _ (by kernel_rfl) rfl rfl).2.2
            exact Free.c_all rfl (Free.g_move _ rfl ⟨h0, hF.step tbk (Below.refl _ _) trivial⟩)
          | 9 =>
            cases hi
            have hg : a.eval (.tmp 49) = .bool false := (hpre 8 _ _ (by kernel_rfl) rfl rfl).2.2
            have h0 : a.eval (.tmp 10) = .slice A1 s.length c1 := (hold 10 (by decide)).trans rfl
            exact Free.c_yes rfl rfl rfl hg (Free.g_move _ rfl ⟨h0, hF.step tbk (Below.refl _ _) trivial⟩)
          | 10 =>
            cases hi
            have hg : a.eval (.tmp 49) = .bool false := (hpre 8 _ _ (by kernel_rfl) rfl rfl).2.2
            have h0 : a.eval (.tmp 1) = .slice B lb.length cb := (hold 1 (by decide)).trans rfl
            exact Free.c_yes rfl rfl rfl hg (Free.g_move _ rfl ⟨h0, hF.step tbk (Below.refl _ _) trivial⟩)
          | 11 =>
            cases hi
            have hg : a.eval (.tmp 49) = .bool false := (hpre 8 _ _ (by kernel_rfl) rfl rfl).2.2
            have h0 : a.eval (.tmp 0) = .slice A la.length ca := (hold 0 (by decide)).trans rfl
            exact Free.c_yes rfl rfl rfl hg (Free.g_move _ rfl ⟨h0, hF.step tbk (Below.refl _ _) trivial⟩)
          | 12 =>
            cases hi
            have hg : a.eval (.tmp 49) = .bool false := (hpre 8 _ _ (by kernel_rfl) rfl rfl).2.2
            have h0 : a.eval (.tmp 9) = .int .i64 (k : Nat) := (hold 9 (by decide)).trans rfl
            exact Free.c_yes rfl rfl rfl hg (Free.g_move _ rfl ⟨h0, hF.step tbk (Below.refl _ _) trivial⟩)
          | 13 =>
            cases hi
            have hg : a.eval (.tmp 49) = .bool false := (hpre 8 _ _ (by kernel_rfl) rfl rfl).2.2
            have h1 : a.eval (.tmp 52) = .slice A la.length ca := (hpre 11 _ _ (by kernel_rfl) rfl rfl).2.2
            have h2 : a.eval (.tmp 53) = .int .i64 (k : Nat) := (hpre 12 _ _ (by kernel_rfl) rfl rfl).2.2
            exact Free.c_yes rfl rfl rfl hg (m_slice _ _ _ _ _ _ _ _ _ rfl h1 (by show some (a.eval (.tmp 53)) = _; rw [h2]) rfl rfl (HS54.out wa) ⟨rfl, hF.step tbk (Below.refl _ _) trivial⟩)
          | 14 =>
            cases hi
            have hg : a.eval (.tmp 49) = .bool false := (hpre 8 _ _ (by kernel_rfl) rfl rfl).2.2
            have h0 : a.eval (.tmp 2) = .slice C lc.length cc := (hold 2 (by decide)).trans rfl
            exact Free.c_yes rfl rfl rfl hg (Free.g_move _ rfl ⟨h0, hF.step tbk (Below.refl _ _) trivial⟩)
          | 15 =>
            cases hi
            have hg : a.eval (.tmp 49) = .bool false := (hpre 8 _ _ (by kernel_rfl) rfl rfl).2.2
            have e0 : a.eval (.tmp 55) = .slice C lc.length cc := (hpre 14 _ _ (by kernel_rfl) rfl rfl).2.2
            have r0 := (HC.out).below hF.1
            have r1 := RowV.nil wa
            obtain ⟨A0, c0, q0, z0⟩ := r0
            obtain ⟨A1, c1, q1, z1⟩ := r1
            have f0 := e0.trans q0
            exact Free.c_yes rfl rfl rfl hg (m_lit _ _ _ [(0, .slice A0 (lc : List Rd).length c0), (1, .slice A1 ([] : List Rd).length c1)] rfl (by show [(0, a.eval (.tmp 55)), (1, a.eval (.const (.slice none 0 0)))] = _; rw [f0, (show a.eval (.const (.slice none 0 0)) = .slice A1 (([] : List Rd)).length c1 from q1)]) (build_l2 wa A0 A1 _ c0 _ c1) ⟨trivial, hF.step tbk ((Below.refl _ _).alloc (Nat.le_refl _) _) (LitV.made wa [.slice A0 (lc : List Rd).length c0, .slice A1 ([] : List Rd).length c1] [lc, []] ⟨⟨A0, c0, rfl, z0⟩, ⟨A1, c1, rfl, z1⟩, trivial⟩ _ rfl _ rfl)⟩)
          | 16 =>
            cases hi
            have hg : a.eval (.tmp 49) = .bool false := (hpre 8 _ _ (by kernel_rfl) rfl rfl).2.2
            have p0 := hpre 15 _ _ (by kernel_rfl) rfl rfl
            have e0 : a.eval (.tmp 56) = vs 15 := p0.2.1
            have r0 := hF.2 15 p0.1
            change LitV wa (vs 15) [lc, []] at r0
            refine Free.c_yes rfl rfl rfl hg (Free.g_call _ _ rfl Try.func17 (by kernel_rfl) rfl [vs 15] (by show [a.eval (.tmp 56)] = _; rw [e0]) ?_)
            exact (HADD2.out _ _ r0).mono fun e w2 ⟨⟨v9, he, hr9⟩, hb9⟩ => ⟨v9, he, trivial, hF.step tbk hb9 hr9⟩
          | 17 =>
            cases hi
            have hg : a.eval (.tmp 49) = .bool false := (hpre 8 _ _ (by kernel_rfl) rfl rfl).2.2
            have h0 : a.eval (.tmp 0) = .slice A la.length ca := (hold 0 (by decide)).trans rfl
            exact Free.c_yes rfl rfl rfl hg (Free.g_move _ rfl ⟨h0, hF.step tbk (Below.refl _ _) trivial⟩)
          | 18 =>
            cases hi
            have hg : a.eval (.tmp 49) = .bool false := (hpre 8 _ _ (by kernel_rfl) rfl rfl).2.2
            have h0 : a.eval (.tmp 9) = .int .i64 (k : Nat) := (hold 9 (by decide)).trans rfl
            exact Free.c_yes rfl rfl rfl hg (Free.g_move _ rfl ⟨h0, hF.step tbk (Below.refl _ _) trivial⟩)
          | 19 =>
            cases hi
            have hg : a.eval (.tmp 49) = .bool false := (hpre 8 _ _ (by kernel_rfl) rfl rfl).2.2
            have h1 : a.eval (.tmp 58) = .slice A la.length ca := (hpre 17 _ _ (by kernel_rfl) rfl rfl).2.2
            have h2 : a.eval (.tmp 59) = .int .i64 (k : Nat) := (hpre 18 _ _ (by kernel_rfl) rfl rfl).2.2
            exact Free.c_yes rfl rfl rfl hg (m_slice _ _ _ _ _ _ _ _ _ rfl h1 rfl (by show some (a.eval (.tmp 59)) = _; rw [h2]) rfl (HS60.out wa) ⟨rfl, hF.step tbk (Below.refl _ _) trivial⟩)
          | 20 =>
            cases hi
            have hg : a.eval (.tmp 49) = .bool false := (hpre 8 _ _ (by kernel_rfl) rfl rfl).2.2
            have e0 : a.eval (.tmp 51) = .slice B lb.length cb := (hpre 10 _ _ (by kernel_rfl) rfl rfl).2.2
            have r0 := (HB.out).below hF.1
            have e1 : a.eval (.tmp 54) = v54 := (hpre 13 _ _ (by kernel_rfl) rfl rfl).2.2
            have r1 := (HR54.out).below hF.1
            have p2 := hpre 16 _ _ (by kernel_rfl) rfl rfl
            have e2 : a.eval (.tmp 57) = vs 16 := p2.2.1
            have r2 := hF.2 16 p2.1
            change RowV wa (vs 16) tc at r2
            have e3 : a.eval (.tmp 60) = v60 := (hpre 19 _ _ (by kernel_rfl) rfl rfl).2.2
            have r3 := (HR60.out).below hF.1
            obtain ⟨A0, c0, q0, z0⟩ := r0
            obtain ⟨A1, c1, q1, z1⟩ := r1
            obtain ⟨A2, c2, q2, z2⟩ := r2
            obtain ⟨A3, c3, q3, z3⟩ := r3
            have f0 := e0.trans q0
            have f1 := e1.trans q1
            have f2 := e2.trans q2
            have f3 := e3.trans q3
            exact Free.c_yes rfl rfl rfl hg (m_lit _ _ _ [(0, .slice A0 (lb : List Rd).length c0), (1, .slice A1 ((la.drop k) : List Rd).length c1), (2, .slice A2 (tc : List Rd).length c2), (3, .slice A3 ((la.take k) : List Rd).length c3)] rfl (by show [(0, a.eval (.tmp 51)), (1, a.eval (.tmp 54)), (2, a.eval (.tmp 57)), (3, a.eval (.tmp 60))] = _; rw [f0, f1, f2, f3]) (build_l4 wa A0 A1 A2 A3 _ c0 _ c1 _ c2 _ c3) ⟨trivial, hF.step tbk ((Below.refl _ _).alloc (Nat.le_refl _) _) (LitV.made wa [.slice A0 (lb : List Rd).length c0, .slice A1 ((la.drop k) : List Rd).length c1, .slice A2 (tc : List Rd).length c2, .slice A3 ((la.take k) : List Rd).length c3] [lb, (la.drop k), tc, (la.take k)] ⟨⟨A0, c0, rfl, z0⟩, ⟨A1, c1, rfl, z1⟩, ⟨A2, c2, rfl, z2⟩, ⟨A3, c3, rfl, z3⟩, trivial⟩ _ rfl _ rfl)⟩)
          | 21 =>
            cases hi
            have hg : a.eval (.tmp 49) = .bool false := (hpre 8 _ _ (by kernel_rfl) rfl rfl).2.2
            have p0 := hpre 20 _ _ (by kernel_rfl) rfl rfl
            have e0 : a.eval (.tmp 61) = vs 20 := p0.2.1
            have r0 := hF.2 20 p0.1
            change LitV wa (vs 20) [lb, (la.drop k), tc, (la.take k)] at r0
            refine Free.c_yes rfl rfl rfl hg (Free.g_call _ _ rfl Try.func17 (by kernel_rfl) rfl [vs 20] (by show [a.eval (.tmp 61)] = _; rw [e0]) ?_)
            exact (HADD3.out _ _ r0).mono fun e w2 ⟨⟨v9, he, hr9⟩, hb9⟩ => ⟨v9, he, trivial, hF.step tbk hb9 hr9⟩
          | 22 =>
            cases hi
            have hg : a.eval (.tmp 49) = .bool false := (hpre 8 _ _ (by kernel_rfl) rfl rfl).2.2
            have e0 : a.eval (.tmp 50) = .slice A1 s.length c1 := (hpre 9 _ _ (by kernel_rfl) rfl rfl).2.2
            have r0 := (H1.out).below hF.1
            have p1 := hpre 21 _ _ (by kernel_rfl) rfl rfl
            have e1 : a.eval (.tmp 62) = vs 21 := p1.2.1
            have r1 := hF.2 21 p1.1
            change RowV wa (vs 21) s at r1
            refine Free.c_yes rfl rfl rfl hg (Free.g_call _ _ rfl Try.func13 (by kernel_rfl) rfl [.slice A1 s.length c1, vs 21] (by show [a.eval (.tmp 50), a.eval (.tmp 62)] = _; rw [e0, e1]) ?_)
            exact (alike_v r0 r1 (by omega) (by omega)).mono fun e w2 ⟨he, hb9⟩ => ⟨_, he.trans (retb (sameR_self _)), rfl, hF.step tbk hb9 trivial⟩
          | 23 =>
            cases hi
            have hg : a.eval (.tmp 49) = .bool false := (hpre 8 _ _ (by kernel_rfl) rfl rfl).2.2
            have h0 : a.eval (.tmp 63) = .bool true := (hpre 22 _ _ (by kernel_rfl) rfl rfl).2.2
            exact Free.c_yes rfl rfl rfl hg (g_not _ _ rfl h0 ⟨rfl, hF.step tbk (Below.refl _ _) trivial⟩)
          | 24 =>
            cases hi
            have h1 : a.eval (.tmp 49) = .bool false := (hpre 8 _ _ (by kernel_rfl) rfl rfl).2.2
            have h3 : a.eval (.tmp 64) = .bool false := (hpre 23 _ _ (by kernel_rfl) rfl rfl).2.2
            exact Free.c_all rfl (Free.g_pick _ _ _ rfl h1 rfl h3 ⟨rfl, hF.step tbk (Below.refl _ _) trivial⟩)
          | 25 =>
            cases hi
            have h0 : a.eval (.tmp 65) = .bool false := (hpre 24 _ _ (by kernel_rfl) rfl rfl).2.2
            exact Free.c_all rfl (Free.g_move _ rfl ⟨h0, hF.step tbk (Below.refl _ _) trivial⟩)
          | 26 =>
            cases hi
            have hg : a.eval (.tmp 66) = .bool false := (hpre 25 _ _ (by kernel_rfl) rfl rfl).2.2
            have h0 : a.eval (.tmp 10) = .slice A1 s.length c1 := (hold 10 (by decide)).trans rfl
            exact Free.c_yes rfl rfl rfl hg (Free.g_move _ rfl ⟨h0, hF.step tbk (Below.refl _ _) trivial⟩)
          | 27 =>
            cases hi
            have hg : a.eval (.tmp 66) = .bool false := (hpre 25 _ _ (by kernel_rfl) rfl rfl).2.2
            have h0 : a.eval (.tmp 10) = .slice A1 s.length c1 := (hold 10 (by decide)).trans rfl
            exact Free.c_yes rfl rfl rfl hg (Free.g_move _ rfl ⟨h0, hF.step tbk (Below.refl _ _) trivial⟩)
          | 28 =>
            cases hi
            have hg : a.eval (.tmp 66) = .bool false := (hpre 25 _ _ (by kernel_rfl) rfl rfl).2.2
            have e0 : a.eval (.tmp 68) = .slice A1 s.length c1 := (hpre 27 _ _ (by kernel_rfl) rfl rfl).2.2
            have r0 := (H1.out).below hF.1
            refine Free.c_yes rfl rfl rfl hg (Free.g_call _ _ rfl Try.func12 (by kernel_rfl) rfl [.slice A1 s.length c1] (by show [a.eval (.tmp 68)] = _; rw [e0]) ?_)
            exact (HSO.out _ _ r0).mono fun e w2 ⟨⟨v9, he, hr9⟩, hb9⟩ => ⟨v9, he, trivial, hF.step tbk hb9 hr9⟩
          | 29 =>
            cases hi
            have hg : a.eval (.tmp 66) = .bool false := (hpre 25 _ _ (by kernel_rfl) rfl rfl).2.2
            have e0 : a.eval (.tmp 67) = .slice A1 s.length c1 := (hpre 26 _ _ (by kernel_rfl) rfl rfl).2.2
            have r0 := (H1.out).below hF.1
            have p1 := hpre 28 _ _ (by kernel_rfl) rfl rfl
            have e1 : a.eval (.tmp 69) = vs 28 := p1.2.1
            have r1 := hF.2 28 p1.1
            change RowV wa (vs 28) s at r1
            refine Free.c_yes rfl rfl rfl hg (Free.g_call _ _ rfl Try.func13 (by kernel_rfl) rfl [.slice A1 s.length c1, vs 28] (by show [a.eval (.tmp 67), a.eval (.tmp 69)] = _; rw [e0, e1]) ?_)
            exact (alike_v r0 r1 (by omega) (by omega)).mono fun e w2 ⟨he, hb9⟩ => ⟨_, he.trans (retb (sameR_self _)), rfl, hF.step tbk hb9 trivial⟩
          | 30 =>
            cases hi
            have hg : a.eval (.tmp 66) = .bool false := (hpre 25 _ _ (by kernel_rfl) rfl rfl).2.2
            have h0 : a.eval (.tmp 70) = .bool true := (hpre 29 _ _ (by kernel_rfl) rfl rfl).2.2
            exact Free.c_yes rfl rfl rfl hg (g_not _ _ rfl h0 ⟨rfl, hF.step tbk (Below.refl _ _) trivial⟩)
          | 31 =>
            cases hi
            have h1 : a.eval (.tmp 66) = .bool false := (hpre 25 _ _ (by kernel_rfl) rfl rfl).2.2
            have h3 : a.eval (.tmp 71) = .bool false := (hpre 30 _ _ (by kernel_rfl) rfl rfl).2.2
            exact Free.c_all rfl (Free.g_pick _ _ _ rfl h1 rfl h3 ⟨rfl, hF.step tbk (Below.refl _ _) trivial⟩)
          | _ + 32 => cases hi
        · intro vs we hv hF
          have hlast : vs 31 = .bool false := hv 31 (by simp) (by rintro o ⟨⟩; rfl)
          have HWE := Lib.hid hF.1; clear hF hv tbk
          simp only [Free.puts, Nat.reduceAdd, hlast]
          generalize vs 0 = y0
          generalize vs 1 = y1
          generalize vs 2 = y2
          generalize vs 3 = y3
          generalize vs 4 = y4
          generalize vs 5 = y5
          generalize vs 6 = y6
          generalize vs 7 = y7
          generalize vs 8 = y8
          generalize vs 9 = y9
          generalize vs 10 = y10
          generalize vs 11 = y11
          generalize vs 12 = y12
          generalize vs 13 = y13
          generalize vs 14 = y14
          generalize vs 15 = y15
          generalize vs 16 = y16
          generalize vs 17 = y17
          generalize vs 18 = y18
          generalize vs 19 = y19
          generalize vs 20 = y20
          generalize vs 21 = y21
          generalize vs 22 = y22
          generalize vs 23 = y23
          generalize vs 24 = y24
          generalize vs 25 = y25
          generalize vs 26 = y26
          generalize vs 27 = y27
          generalize vs 28 = y28
          generalize vs 29 = y29
          generalize vs 30 = y30
          go_simp
          have hb := HWE.out
          have h := HA.out.below hb; clear HA; have HA := Lib.hid h; clear h
          have h := HB.out.below hb; clear HB; have HB := Lib.hid h; clear h
          have h := HC.out.below hb; clear HC; have HC := Lib.hid h; clear h
          have h := H1.out.below hb; clear H1; have H1 := Lib.hid h; clear h
          have h := Hb.out.trans (hb.mono Hb.out.size); clear Hb hb HWE; have Hb := Lib.hid h; clear h
          clear HR54 HR60 HS54 HS60
          have hc := less_v H1.out HB.out (by omega) (by omega)
          rw [HL1.out] at hc
          have HC := Lib.hid hc; clear hc
          go_wp2_with fail
          refine HC.out.mono ?_; rintro e w10 ⟨⟨v, rfl, hr⟩, hb0⟩
          clear HC
          have hb := hb0
          clear hb0
          have h := HA.out.below hb; clear HA; have HA := Lib.hid h; clear h
          have h := HB.out.below hb; clear HB; have HB := Lib.hid h; clear h
          have h := HC.out.below hb; clear HC; have HC := Lib.hid h; clear h
          have h := H1.out.below hb; clear H1; have H1 := Lib.hid h; clear h
          have h := Hb.out.trans (hb.mono Hb.out.size); clear Hb hb; have Hb := Lib.hid h; clear h
          obtain ⟨A2, c2, rfl, z2⟩ := hr
          have H2 := Lib.hid (show RowV w10 (.slice A2 (u : List Rd).length c2) u from ⟨A2, c2, rfl, z2⟩); clear z2
          dsimp only
          have hc := HADDU.out _ _ (LitV.made w10 [.slice A la.length ca, .slice C lc.length cc] [la, lc] ⟨HA.out, HC.out, trivial⟩ #[.slice A la.length ca, .slice C lc.length cc] rfl 2 rfl)
          have HC := Lib.hid hc; clear hc
          go_wp2_with fail
          refine HC.out.mono ?_; rintro e w11 ⟨⟨v, rfl, hr⟩, hb0⟩
          clear HC
          have hb : Below w10.heap.size w10 w11 := ((Below.refl _ w10).alloc (Nat.le_refl _) _).trans (hb0.mono (by simp))
          clear hb0
          have h := HA.out.below hb; clear HA; have HA := Lib.hid h; clear h
          have h := HB.out.below hb; clear HB; have HB := Lib.hid h; clear h
          have h := HC.out.below hb; clear HC; have HC := Lib.hid h; clear h
          have h := H1.out.below hb; clear H1; have H1 := Lib.hid h; clear h
          have h := H2.out.below hb; clear H2; have H2 := Lib.hid h; clear h
          have h := Hb.out.trans (hb.mono Hb.out.size); clear Hb hb; have Hb := Lib.hid h; clear h
          obtain ⟨A3, c3, rfl, z3⟩ := hr
          have H3 := Lib.hid (show RowV w11 (.slice A3 (u : List Rd).length c3) u from ⟨A3, c3, rfl, z3⟩); clear z3
          dsimp only
          have hc := less_v H3.out HA.out (by omega) (by omega)
          rw [HL2.out] at hc
          have HC := Lib.hid hc; clear hc
          go_wp2_with fail
          refine HC.out.mono ?_; rintro e w12 ⟨⟨v, rfl, hr⟩, hb0⟩
          clear HC
          have hb := hb0
          clear hb0
          have h := HA.out.below hb; clear HA; have HA := Lib.hid h; clear h
          have h := HB.out.below hb; clear HB; have HB := Lib.hid h; clear h
          have h := HC.out.below hb; clear HC; have HC := Lib.hid h; clear h
          have h := H1.out.below hb; clear H1; have H1 := Lib.hid h; clear h
          have h := H2.out.below hb; clear H2; have H2 := Lib.hid h; clear h
          have h := H3.out.below hb; clear H3; have H3 := Lib.hid h; clear h
          have h := Hb.out.trans (hb.mono Hb.out.size); clear Hb hb; have Hb := Lib.hid h; clear h
          obtain ⟨A4, c4, rfl, z4⟩ := hr
          have H4 := Lib.hid (show RowV w12 (.slice A4 (tc : List Rd).length c4) tc from ⟨A4, c4, rfl, z4⟩); clear z4
          dsimp only
          have hc := HADDU.out _ _ (LitV.made w12 [.slice A la.length ca, .slice C lc.length cc] [la, lc] ⟨HA.out, HC.out, trivial⟩ #[.slice A la.length ca, .slice C lc.length cc] rfl 2 rfl)
          have HC := Lib.hid hc; clear hc
          go_wp2_with fail
          refine HC.out.mono ?_; rintro e w13 ⟨⟨v, rfl, hr⟩, hb0⟩
          clear HC
          have hb : Below w12.heap.size w12 w13 := ((Below.refl _ w12).alloc (Nat.le_refl _) _).trans (hb0.mono (by simp))
          clear hb0
          have h := HA.out.below hb; clear HA; have HA := Lib.hid h; clear h
          have h := HB.out.below hb; clear HB; have HB := Lib.hid h; clear h
          have h := HC.out.below hb; clear HC; have HC := Lib.hid h; clear h
          have h := H1.out.below hb; clear H1; have H1 := Lib.hid h; clear h
          have h := H2.out.below hb; clear H2; have H2 := Lib.hid h; clear h
          have h := H3.out.below hb; clear H3; have H3 := Lib.hid h; clear h
          have h := H4.out.below hb; clear H4; have H4 := Lib.hid h; clear h
          have h := Hb.out.trans (hb.mono Hb.out.size); clear Hb hb; have Hb := Lib.hid h; clear h
          obtain ⟨A5, c5, rfl, z5⟩ := hr
          have H5 := Lib.hid (show RowV w13 (.slice A5 (u : List Rd).length c5) u from ⟨A5, c5, rfl, z5⟩); clear z5
          dsimp only
          have hc := same_v H2.out H5.out (by omega) (by omega)
          rw [sameR_self] at hc
          have HC := Lib.hid hc; clear hc
          go_wp2_with fail
          refine HC.out.mono ?_; rintro e w14 ⟨rfl, hb0⟩
          clear HC
          have hb := hb0
          clear hb0
          have h := HA.out.below hb; clear HA; have HA := Lib.hid h; clear h
          have h := HB.out.below hb; clear HB; have HB := Lib.hid h; clear h
          have h := HC.out.below hb; clear HC; have HC := Lib.hid h; clear h
          have h := H1.out.below hb; clear H1; have H1 := Lib.hid h; clear h
          have h := H2.out.below hb; clear H2; have H2 := Lib.hid h; clear h
          have h := H3.out.below hb; clear H3; have H3 := Lib.hid h; clear h
          have h := H4.out.below hb; clear H4; have H4 := Lib.hid h; clear h
          have h := H5.out.below hb; clear H5; have H5 := Lib.hid h; clear h
          have h := Hb.out.trans (hb.mono Hb.out.size); clear Hb hb; have Hb := Lib.hid h; clear h
          dsimp only
          have hc := same_v H4.out HC.out (by omega) (by omega)
          rw [HETC.out, HTC.out] at hc
          have HC := Lib.hid hc; clear hc
          go_wp2_with fail
          refine HC.out.mono ?_; rintro e w15 ⟨rfl, hb0⟩
          clear HC
          have hb := hb0
          clear hb0
          have h := HA.out.below hb; clear HA; have HA := Lib.hid h; clear h
          have h := HB.out.below hb; clear HB; have HB := Lib.hid h; clear h
          have h := HC.out.below hb; clear HC; have HC := Lib.hid h; clear h
          have h := H1.out.below hb; clear H1; have H1 := Lib.hid h; clear h
          have h := H2.out.below hb; clear H2; have H2 := Lib.hid h; clear h
          have h := H3.out.below hb; clear H3; have H3 := Lib.hid h; clear h
          have h := H4.out.below hb; clear H4; have H4 := Lib.hid h; clear h
          have h := H5.out.below hb; clear H5; have H5 := Lib.hid h; clear h
          have h := Hb.out.trans (hb.mono Hb.out.size); clear Hb hb; have Hb := Lib.hid h; clear h
          dsimp only
          have hlit : LitV ((w15.alloc (.cells #[.int .i64 5, .int .i64 0] 32)).alloc (.cells #[.slice A la.length ca, .slice (some ⟨w15.heap.size, 0, none⟩) 1 1] 22)) (.slice (some ⟨w15.heap.size + 1, 0, none⟩) 2 2) [la, [⟨5, 0⟩]] := by
            have h := LitV.made (w15.alloc (.cells #[.int .i64 5, .int .i64 0] 32)) [.slice A la.length ca, .slice (some ⟨w15.heap.size, 0, none⟩) 1 1] [la, [⟨5, 0⟩]] ⟨HA.out.below ((Below.refl _ w15).alloc (Nat.le_refl _) _), RowV.made w15 [⟨5, 0⟩] (by decide) _ rfl 1 rfl, trivial⟩ _ rfl 2 rfl
            rw [World.size_alloc] at h
            exact h
          have HLIT := Lib.hid hlit; clear hlit
          have hc := HADD5.out _ _ HLIT.out
          have HC := Lib.hid hc; clear hc
          go_wp2_with fail
          refine HC.out.mono ?_; rintro e w16 ⟨⟨v, rfl, hr⟩, hb0⟩
          clear HC
          have hb : Below w15.heap.size w15 w16 := (((Below.refl _ w15).alloc (Nat.le_refl _) _).alloc (by simp) _).trans (hb0.mono (by simp; omega))
          clear hb0
          have h := HA.out.below hb; clear HA; have HA := Lib.hid h; clear h
          have h := HB.out.below hb; clear HB; have HB := Lib.hid h; clear h
          have h := HC.out.below hb; clear HC; have HC := Lib.hid h; clear h
          have h := H1.out.below hb; clear H1; have H1 := Lib.hid h; clear h
          have h := H2.out.below hb; clear H2; have H2 := Lib.hid h; clear h
          have h := H3.out.below hb; clear H3; have H3 := Lib.hid h; clear h
          have h := H4.out.below hb; clear H4; have H4 := Lib.hid h; clear h
          have h := H5.out.below hb; clear H5; have H5 := Lib.hid h; clear h
          have h := Hb.out.trans (hb.mono Hb.out.size); clear Hb hb; have Hb := Lib.hid h; clear h
          obtain ⟨A6, c6, rfl, z6⟩ := hr
          have H6 := Lib.hid (show RowV w16 (.slice A6 (x5 : List Rd).length c6) x5 from ⟨A6, c6, rfl, z6⟩); clear z6
          dsimp only
          clear HLIT
          have hc := less_v HA.out H6.out (by omega) (by omega)
          rw [HL3.out] at hc
          have HC := Lib.hid hc; clear hc
          go_wp2_with fail
          refine HC.out.mono ?_; rintro e w17 ⟨⟨v, rfl, hr⟩, hb0⟩
          clear HC
          have hb := hb0
          clear hb0
          have h := HA.out.below hb; clear HA; have HA := Lib.hid h; clear h
          have h := HB.out.below hb; clear HB; have HB := Lib.hid h; clear h
          have h := HC.out.below hb; clear HC; have HC := Lib.hid h; clear h
          have h := H1.out.below hb; clear H1; have H1 := Lib.hid h; clear h
          have h := H2.out.below hb; clear H2; have H2 := Lib.hid h; clear h
          have h := H3.out.below hb; clear H3; have H3 := Lib.hid h; clear h
          have h := H4.out.below hb; clear H4; have H4 := Lib.hid h; clear h
          have h := H5.out.below hb; clear H5; have H5 := Lib.hid h; clear h
          have h := H6.out.below hb; clear H6; have H6 := Lib.hid h; clear h
          have h := Hb.out.trans (hb.mono Hb.out.size); clear Hb hb; have Hb := Lib.hid h; clear h
          obtain ⟨A7, c7, rfl, z7⟩ := hr
          have H7 := Lib.hid (show RowV w17 (.slice A7 (([] : List Rd) : List Rd).length c7) ([] : List Rd) from ⟨A7, c7, rfl, z7⟩); clear z7
          dsimp only
          have hc := same_v HA.out HB.out (by omega) (by omega)
          rw [HETA.out, HETB.out, HZ.out] at hc
          have HC := Lib.hid hc; clear hc
          go_wp2_with fail
          refine HC.out.mono ?_; rintro e w18 ⟨rfl, hb0⟩
          clear HC
          have hb := hb0
          clear hb0
          have h := HA.out.below hb; clear HA; have HA := Lib.hid h; clear h
          have h := HB.out.below hb; clear HB; have HB := Lib.hid h; clear h
          have h := HC.out.below hb; clear HC; have HC := Lib.hid h; clear h
          have h := H1.out.below hb; clear H1; have H1 := Lib.hid h; clear h
          have h := H2.out.below hb; clear H2; have H2 := Lib.hid h; clear h
          have h := H3.out.below hb; clear H3; have H3 := Lib.hid h; clear h
          have h := H4.out.below hb; clear H4; have H4 := Lib.hid h; clear h
          have h := H5.out.below hb; clear H5; have H5 := Lib.hid h; clear h
          have h := H6.out.below hb; clear H6; have H6 := Lib.hid h; clear h
          have h := H7.out.below hb; clear H7; have H7 := Lib.hid h; clear h
          have h := Hb.out.trans (hb.mono Hb.out.size); clear Hb hb; have Hb := Lib.hid h; clear h
          dsimp only
          have hc := sorted_v HA.out (by omega)
          rw [HETA.out] at hc
          have HC := Lib.hid hc; clear hc
          go_wp2_with fail
          refine HC.out.mono ?_; rintro e w19 ⟨⟨v, rfl, hr⟩, hb0⟩
          clear HC
          have hb := hb0
          clear hb0
          have h := HA.out.below hb; clear HA; have HA := Lib.hid h; clear h
          have h := HB.out.below hb; clear HB; have HB := Lib.hid h; clear h
          have h := HC.out.below hb; clear HC; have HC := Lib.hid h; clear h
          have h := H1.out.below hb; clear H1; have H1 := Lib.hid h; clear h
          have h := H2.out.below hb; clear H2; have H2 := Lib.hid h; clear h
          have h := H3.out.below hb; clear H3; have H3 := Lib.hid h; clear h
          have h := H4.out.below hb; clear H4; have H4 := Lib.hid h; clear h
          have h := H5.out.below hb; clear H5; have H5 := Lib.hid h; clear h
          have h := H6.out.below hb; clear H6; have H6 := Lib.hid h; clear h
          have h := H7.out.below hb; clear H7; have H7 := Lib.hid h; clear h
          have h := Hb.out.trans (hb.mono Hb.out.size); clear Hb hb; have Hb := Lib.hid h; clear h
          obtain ⟨A8, c8, rfl, z8⟩ := hr
          have H8 := Lib.hid (show RowV w19 (.slice A8 (ta : List Rd).length c8) ta from ⟨A8, c8, rfl, z8⟩); clear z8
          dsimp only
          have hc := sorted_v HB.out (by omega)
          rw [HETB.out] at hc
          have HC := Lib.hid hc; clear hc
          go_wp2_with fail
          refine HC.out.mono ?_; rintro e w20 ⟨⟨v, rfl, hr⟩, hb0⟩
          clear HC
          have hb := hb0
          clear hb0
          have h := HA.out.below hb; clear HA; have HA := Lib.hid h; clear h
          have h := HB.out.below hb; clear HB; have HB := Lib.hid h; clear h
          have h := HC.out.below hb; clear HC; have HC := Lib.hid h; clear h
          have h := H1.out.below hb; clear H1; have H1 := Lib.hid h; clear h
          have h := H2.out.below hb; clear H2; have H2 := Lib.hid h; clear h
          have h := H3.out.below hb; clear H3; have H3 := Lib.hid h; clear h
          have h := H4.out.below hb; clear H4; have H4 := Lib.hid h; clear h
          have h := H5.out.below hb; clear H5; have H5 := Lib.hid h; clear h
          have h := H6.out.below hb; clear H6; have H6 := Lib.hid h; clear h
          have h := H7.out.below hb; clear H7; have H7 := Lib.hid h; clear h
          have h := H8.out.below hb; clear H8; have H8 := Lib.hid h; clear h
          have h := Hb.out.trans (hb.mono Hb.out.size); clear Hb hb; have Hb := Lib.hid h; clear h
          obtain ⟨A9, c9, rfl, z9⟩ := hr
          have H9 := Lib.hid (show RowV w20 (.slice A9 (tb : List Rd).length c9) tb from ⟨A9, c9, rfl, z9⟩); clear z9
          dsimp only
          have hc := alike_v H8.out H9.out (by omega) (by omega)
          rw [HZ.out] at hc
          have HC := Lib.hid hc; clear hc
          go_wp2_with fail
          refine HC.out.mono ?_; rintro e w21 ⟨rfl, hb0⟩
          clear HC
          have hb := hb0
          clear hb0
          have h := HA.out.below hb; clear HA; have HA := Lib.hid h; clear h
          have h := HB.out.below hb; clear HB; have HB := Lib.hid h; clear h
          have h := HC.out.below hb; clear HC; have HC := Lib.hid h; clear h
          have h := H1.out.below hb; clear H1; have H1 := Lib.hid h; clear h
          have h := H2.out.below hb; clear H2; have H2 := Lib.hid h; clear h
          have h := H3.out.below hb; clear H3; have H3 := Lib.hid h; clear h
          have h := H4.out.below hb; clear H4; have H4 := Lib.hid h; clear h
          have h := H5.out.below hb; clear H5; have H5 := Lib.hid h; clear h
          have h := H6.out.below hb; clear H6; have H6 := Lib.hid h; clear h
          have h := H7.out.below hb; clear H7; have H7 := Lib.hid h; clear h
          have h := H8.out.below hb; clear H8; have H8 := Lib.hid h; clear h
          have h := H9.out.below hb; clear H9; have H9 := Lib.hid h; clear h
          have h := Hb.out.trans (hb.mono Hb.out.size); clear Hb hb; have Hb := Lib.hid h; clear h
          dsimp only
          have hc := works_any w21
          have HC := Lib.hid hc; clear hc
          go_wp2_with fail
          refine HC.out.mono ?_; rintro e w22 ⟨rfl, hb0⟩
          clear HC
          have hb := hb0
          clear hb0
          have h := HA.out.below hb; clear HA; have HA := Lib.hid h; clear h
          have h := HB.out.below hb; clear HB; have HB := Lib.hid h; clear h
          have h := HC.out.below hb; clear HC; have HC := Lib.hid h; clear h
          have h := H1.out.below hb; clear H1; have H1 := Lib.hid h; clear h
          have h := H2.out.below hb; clear H2; have H2 := Lib.hid h; clear h
          have h := H3.out.below hb; clear H3; have H3 := Lib.hid h; clear h
          have h := H4.out.below hb; clear H4; have H4 := Lib.hid h; clear h
          have h := H5.out.below hb; clear H5; have H5 := Lib.hid h; clear h
          have h := H6.out.below hb; clear H6; have H6 := Lib.hid h; clear h
          have h := H7.out.below hb; clear H7; have H7 := Lib.hid h; clear h
          have h := H8.out.below hb; clear H8; have H8 := Lib.hid h; clear h
          have h := H9.out.below hb; clear H9; have H9 := Lib.hid h; clear h
          have h := Hb.out.trans (hb.mono Hb.out.size); clear Hb hb; have Hb := Lib.hid h; clear h
          dsimp only
          go_wp2_with fail
          go_ret
          exact ⟨rfl, Hb.out⟩

set_option maxRecDepth 100000 in
theorem lifted (os : Os) (started : os.Started) (H : Type) (enc : TypeId × Value → H) :
    ReturnsInHanded {} Try.checked os 5 .any (Rows.valueAddsSpec.pre6 enc Try.prog Try.f5 Rows.valueAddsRow.domain false) (Rows.valueAddsSpec.post enc Try.prog Try.f5 false true false false) := by
  refine returnsInHanded_of_change_sized (C := Try.checked) ownKnob_none started (by kernel_rfl) Try.func5
    (ChangeSpec.witness6 (enc := enc) (C := Try.checked) false ⟨#[], #[.slice none 0 0, .slice none 0 0, .slice none 0 0, .int .i64 0], []⟩ 8 (by kernel_rfl) (by kernel_rfl) (by kernel_rfl) (by kernel_rfl)) ?_
  intro W base args ds gs before hval0 hW hcnd hsz0 _
  have hval : ∀ (j : Nat) t v, Try.f5.params[j]? = some t → args[j]? = some v → Value.okWide Try.prog W .any base t v := hval0
  have hW' := hW
  obtain ⟨p, q, hA0, hV, rfl, hfz, hnd⟩ := hW
  have hA : DataW.TrodAll enc Try.prog W 0 (fun _ => true) true Try.f5.params.toList args.toList ds p := hA0
  have hsz : (DataW.weightsEach Try.prog (Try.f5.params.toList ++ Rows.valueAddsSpec.plain.varTypes Try.prog) (ds ++ gs)).all (· ≤ reachBytes) = true := hsz0
  rw [Try.params5] at hA hval hsz
  obtain ⟨v0, vs0, d0, ds0, p0, q0, hargs, rfl, rfl, h0, r0⟩ := trodAll_cons hA
  obtain ⟨v1, vs1, d1, ds1, p1, q1, rfl, rfl, rfl, h1, r1⟩ := trodAll_cons r0
  obtain ⟨v2, vs2, d2, ds2, p2, q2, rfl, rfl, rfl, h2, r2⟩ := trodAll_cons r1
  obtain ⟨v3, vs3, d3, ds3, p3, q3, rfl, rfl, rfl, h3, r3⟩ := trodAll_cons r2
  obtain ⟨rfl, rfl, rfl⟩ := trodAll_nil r3
  obtain rfl : args = #[v0, v1, v2, v3] := by cases args; simp_all
  obtain ⟨rfl, rfl⟩ := trodVars_none hV
  obtain ⟨A0, l0, c0, rfl, hT0, hw0, hc0, hm0, hn0⟩ := Vr.open_recs (hval 0 22 v0 rfl rfl) h0
  obtain ⟨A1, l1, c1, rfl, hT1, hw1, hc1, hm1, hn1⟩ := Vr.open_recs (hval 1 22 v1 rfl rfl) h1
  obtain ⟨A2, l2, c2, rfl, hT2, hw2, hc2, hm2, hn2⟩ := Vr.open_recs (hval 2 22 v2 rfl rfl) h2
  obtain ⟨a3, rfl, rfl, rfl, w3⟩ := open_int Try.underlying3 (hval 3 3 v3 rfl rfl) h3
  have b3 := i64_wf w3
  clear hA0 hval0 hsz0
  refine (walk A0 A1 A2 l0 l1 l2 c0 c1 c2 a3 (by have := b3; omega) W ⟨A0, c0, rfl, hT0, hn0, hc0, hm0⟩ ⟨A1, c1, rfl, hT1, hn1, hc1, hm1⟩ ⟨A2, c2, rfl, hT2, hn2, hc2, hm2⟩).mono fun e W' ⟨he, hg⟩ => ?_
  subst he
  exact ⟨_, rfl, law_post progLaid hW' rfl (by rw [Try.params5]; intro t ht; simp at ht; rcases ht with rfl | rfl <;> exact ⟨by kernel_rfl, of_decide_eq_true (by kernel_rfl)⟩) rfl Try.underlying4 rfl hg⟩

theorem over : Rows.valueAddsRow.holds Try.pinned (OpenSpec.ofChange Rows.valueAddsSpec) :=
  OpenClaim.holds_of_wide 5 Try.f5 rfl rfl rfl rfl rfl rfl rfl ⟨rfl, rfl, rfl, rfl, rfl⟩ rfl rfl rfl rfl rfl (by kernel_rfl) Try.func5 (by kernel_rfl)
    (of_decide_eq_true (by kernel_rfl)) (by unfold Func.isWrapper; first | (rw [if_pos (by decide +kernel)]; kernel_rfl) | (rw [if_neg (by decide +kernel)]; exact ⟨rfl, rfl⟩))
    (fun os started H enc _ => lifted os started H enc)

/-- The statement. -/
theorem proved : Rows.ValueAddsSaid :=
  over
end valueAdds
end Go.Proofs.Ytcdofkhkckodjaa
