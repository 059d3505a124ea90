/- ValueTwo: of any two rows it is told whether they are the same, what both are together, and the one less the other; they stay. -/
import Derived.Test.YtcdofkhkckodjaaVrWorks
import Derived.SizedLaws
import Derived.Test.YtcdofkhkckodjaaVrRefSort
namespace Go.Proofs.Ytcdofkhkckodjaa
open Go.ChangeShapes Go.WideShapes Go.ChangeAt Go.RowKit Go.BigFrame
open Vr
set_option linter.unusedVariables false
set_option maxRecDepth 100000
namespace valueTwo
theorem ts_of {w : World} {A : Option Addr} {c : Nat} {l : List Rd} (h : RowV w (.slice A l.length c) l) : Rw.Ts kindR w A l := by
  obtain ⟨A', c', e, hT, _⟩ := h
  cases e; exact hT
theorem nil_of {w : World} {A : Option Addr} {c : Nat} {l : List Rd} (h : RowV w (.slice A l.length c) l) : A = none → c = 0 ∧ l = [] := by
  obtain ⟨A', c', e, _, hn, _⟩ := h
  cases e; exact hn
def GivesP (bs : Bool) (m : List Rd) (w : World) (e : Ending) (w' : World) : Prop := (∃ v', e = .returned (.tuple #[v', .bool bs]) ∧ RowV w' v' m) ∧ Below w.heap.size w w'
theorem less_p {w : World} {va vb : Value} {a b : List Rd} (h : RowV w va a) (k : RowV w vb b) (ha : a.length ≤ 100000) (hb : b.length ≤ 100000) : Calls Try.prog 10 #[va, vb] w (GivesP (lessR a b).isSome ((lessR a b).getD []) w) := less_v h k ha hb
theorem refLess_p {w : World} {va vb : Value} {a b : List Rd} (h : RowV w va a) (k : RowV w vb b) (ha : a.length ≤ 100000) (hb : b.length ≤ 100000) : Calls Try.prog 11 #[va, vb] w (GivesP (lessR a b).isSome ((lessR a b).getD []) w) := refLess_v h k ha hb
theorem lessR_le (a b : List Rd) : ((lessR a b).getD []).length ≤ a.length := by
  cases h : lessR a b with
  | none => simp
  | some p => have := (lessR_length h).1; show p.length ≤ _; omega
theorem sorted_o {w : World} {v : Value} {l : List Rd} (h : RowV w v l) (hl : l.length ≤ 100000) : Calls Try.prog 12 #[v] w (AddD (sortR l) w) := by
  obtain ⟨A, c, rfl, hT, hn, _⟩ := h
  exact sorted_any A l c w hT hn (by omega)
def At (w7 w : World) : Prop := Below w7.heap.size w7 w
theorem At.below {w7 w w' : World} (h : At w7 w) (hb : Below w.heap.size w w') : At w7 w' := Below.trans h (hb.mono (Below.size h))
def OwnS (w7 : World) (v : Value) (l : List Rd) (w : World) : Prop := w.ownsRow w7.heap.size 32 kindR.K v l.length (Rw.row kindR l)
theorem OwnS.below {w7 : World} {v : Value} {l : List Rd} {w w' : World} (h : OwnS w7 v l w) (hb : Below w.heap.size w w') : OwnS w7 v l w' := Rw.own_kept h hb
theorem row_setK (n : Int) : ∀ (l : List Rd) (i : Nat) (r : Rd), l[i]? = some r → (Rw.row kindR l).set (i * 2) (.int .i64 n) = Rw.row kindR (l.set i ⟨n, r.v⟩)
  | [], i, r, h => by simp at h
  | x :: l, 0, r, h => by
    simp at h; subst h
    rw [List.set_cons_zero, Rw.row_cons, Rw.row_cons]; rfl
  | x :: l, i + 1, r, h => by
    rw [List.set_cons_succ, Rw.row_cons, Rw.row_cons, ← row_setK n l i r (by simpa using h)]
    rw [List.set_append_right _ _ (by show 2 ≤ (i + 1) * 2; omega), show (i + 1) * 2 - (kindR.cells x).length = i * 2 by show (i + 1) * 2 - 2 = i * 2; omega]
/-- a key stored into a row of the call's own -/
theorem own_putK {w : World} {base g n c : Nat} {l : List Rd} (h : w.ownsRow base 32 kindR.K (.slice (some ⟨g, 0, none⟩) n c) n (Rw.row kindR l)) {i : Nat} {r : Rd} (hi : l[i]? = some r) (m : Int) :
    (w.setCell ⟨g, i * 2, none⟩ (.int .i64 m)).ownsRow base 32 kindR.K (.slice (some ⟨g, 0, none⟩) n c) n (Rw.row kindR (l.set i ⟨m, r.v⟩)) := by
  rw [← row_setK m l i r hi]
  exact (h.stored (i * 2) _).1
theorem own_some {w : World} {base n c : Nat} {A : Option Addr} {xs : List Value} {K : Nat} {T : TypeId} (h : w.ownsRow base T K (.slice A n c) n xs) (hn : 0 < n) : ∃ g, A = some ⟨g, 0, none⟩ ∧ base ≤ g := by
  obtain ⟨_, ⟨e, h0⟩ | ⟨g, cap, cur, e, hb, _⟩⟩ := h
  · omega
  · cases e; exact ⟨g, rfl, hb⟩
theorem cmp_same (f : FuncId) (a b : Rd) {n : Int} (h : a.C b = n) (hc : ∀ w, Calls Try.prog f #[a.val, b.val] w fun e w' => e = .returned (.int .i64 (a.C b)) ∧ Below w.heap.size w w') (w : World) : Calls Try.prog f #[a.val, b.val] w fun e w' => e = .returned (.int .i64 n) ∧ Below w.heap.size w w' := by
  rw [← h]; exact hc w
set_option maxHeartbeats 16000000 in
theorem walk (A B : Option Addr) (la lb : List Rd) (ca cb : Nat) (w : World) (hA : RowV w (.slice A la.length ca) la) (hB : RowV w (.slice B lb.length cb) lb) :
    Calls Try.prog 3 #[.slice A la.length ca, .slice B lb.length cb] w fun e w' => e = .returned (.bool true) ∧ Below w.heap.size w w' := by
  have HA := Lib.hid hA; have HB := Lib.hid hB; clear hA hB
  have Hb := Lib.hid (Below.refl w.heap.size w)
  by_cases hx : 100 < la.length
  · have hzla : (100 : Int) < (la.length : Int) := by omega
    have dla : decide ((100 : Int) < (la.length : Int)) = true := by simp; omega
    go_enter Try.func3, Try.ntmps3
    have hc := works_any w
    have HC := Lib.hid hc; clear hc
    go_wp2_with fail
    refine HC.out.mono ?_; rintro e w2 ⟨rfl, hb0⟩
    clear HC
    have hb := hb0
    clear hb0
    have h := HA.out.below hb; clear HA; have HA := Lib.hid h; clear h
    have h := HB.out.below hb; clear HB; have HB := Lib.hid h; clear h
    have h := Hb.out.trans (hb.mono Hb.out.size); clear Hb hb; have Hb := Lib.hid h; clear h
    dsimp only
    go_wp2_with fail
    go_ret
    exact ⟨rfl, Hb.out⟩
  · have hzla : ¬ (100 : Int) < (la.length : Int) := by omega
    have dla : decide ((100 : Int) < (la.length : Int)) = false := by simp; omega
    have hla : la.length ≤ 100 := by omega
    clear hx
    by_cases hx : 100 < lb.length
    · have hzlb : (100 : Int) < (lb.length : Int) := by omega
      have dlb : decide ((100 : Int) < (lb.length : Int)) = true := by simp; omega
      go_enter Try.func3, Try.ntmps3
      have hc := works_any w
      have HC := Lib.hid hc; clear hc
      go_wp2_with fail
      refine HC.out.mono ?_; rintro e w2 ⟨rfl, hb0⟩
      clear HC
      have hb := hb0
      clear hb0
      have h := HA.out.below hb; clear HA; have HA := Lib.hid h; clear h
      have h := HB.out.below hb; clear HB; have HB := Lib.hid h; clear h
      have h := Hb.out.trans (hb.mono Hb.out.size); clear Hb hb; have Hb := Lib.hid h; clear h
      dsimp only
      go_wp2_with fail
      go_ret
      exact ⟨rfl, Hb.out⟩
    · have hzlb : ¬ (100 : Int) < (lb.length : Int) := by omega
      have dlb : decide ((100 : Int) < (lb.length : Int)) = false := by simp; omega
      have hlb : lb.length ≤ 100 := by omega
      clear hx
      have hml : ((lessR la lb).getD []).length ≤ 100 := Nat.le_trans (lessR_le la lb) hla
      have hsa : (sortR la).length ≤ 100 := by rw [sortR_perm.length_eq]; exact hla
      have hu : (sortR ([la, lb] : List (List Rd)).flatten).length ≤ 200 := by rw [sortR_perm.length_eq]; simp; omega
      have HADD := Lib.hid (fun (w : World) (v : Value) (h : LitV w v [la, lb]) => add_v h (by simp) (by simp; omega))
      have HRADD := Lib.hid (fun (w : World) (v : Value) (h : LitV w v [la, lb]) => refAdd_v h (by simp) (by simp; omega))
      generalize sortR ([la, lb] : List (List Rd)).flatten = u at *
      obtain ⟨m, em⟩ : ∃ m, (lessR la lb).getD [] = m := ⟨_, rfl⟩
      obtain ⟨bs, ebs⟩ : ∃ bs, (lessR la lb).isSome = bs := ⟨_, rfl⟩
      obtain ⟨sa, esa⟩ : ∃ sa, sortR la = sa := ⟨_, rfl⟩
      obtain ⟨z, ez⟩ : ∃ z, sameR (sortR la) (sortR lb) = z := ⟨_, rfl⟩
      rw [em] at hml; rw [esa] at hsa
      have HM := Lib.hid em; have HBS := Lib.hid ebs; have HSA := Lib.hid esa; have HZ := Lib.hid ez; clear em ebs esa ez
      go_enter Try.func3, Try.ntmps3
      go_upto_region 4 with fail
      go_upto_region 5 with (at_builtin; refine Rw.append_own kindR 32 22 Try.underlying22 infoRec rfl rfl _ _ rfl w.heap.size _ 0 [] rfl (World.ownsRow_nil _ _ _ _) A ca la rfl (nil_of HA.out) (ts_of HA.out) (by unfold maxLen; omega) (by omega) (Nat.le_refl _) ?_; intro v2 w1 hv2 hg2; have hb2 := Rw.own_below (World.ownsRow_nil w w.heap.size 32 kindR.K) hg2 (Below.refl _ _) (Nat.le_refl _); have HV2 := Lib.hid (show RowV w1 v2 la from RowV.own (l := la) hv2); have HB2 := Lib.hid hb2; clear hv2 hg2 hb2)
      have hb : Below w.heap.size w w1 := HB2.out
      clear HB2
      have h := HA.out.below hb; clear HA; have HA := Lib.hid h; clear h
      have h := HB.out.below hb; clear HB; have HB := Lib.hid h; clear h
      have h := Hb.out.trans (hb.mono Hb.out.size); clear Hb hb; have Hb := Lib.hid h; clear h
      obtain ⟨AX, cX, rfl, zX⟩ := HV2.out
      have HX := Lib.hid (show RowV w1 (.slice AX la.length cX) la from ⟨AX, cX, rfl, zX⟩); clear zX HV2
      go_upto_region 6 with (at_builtin; refine Rw.append_own kindR 32 22 Try.underlying22 infoRec rfl rfl _ _ rfl w1.heap.size _ 0 [] rfl (World.ownsRow_nil _ _ _ _) B cb lb rfl (nil_of HB.out) (ts_of HB.out) (by unfold maxLen; omega) (by omega) (Nat.le_refl _) ?_; intro v2 w2 hv2 hg2; have hb2 := Rw.own_below (World.ownsRow_nil w1 w1.heap.size 32 kindR.K) hg2 (Below.refl _ _) (Nat.le_refl _); have HV2 := Lib.hid (show RowV w2 v2 lb from RowV.own (l := lb) hv2); have HB2 := Lib.hid hb2; clear hv2 hg2 hb2)
      have hb : Below w1.heap.size w1 w2 := HB2.out
      clear HB2
      have h := HA.out.below hb; clear HA; have HA := Lib.hid h; clear h
      have h := HB.out.below hb; clear HB; have HB := Lib.hid h; clear h
      have h := HX.out.below hb; clear HX; have HX := Lib.hid h; clear h
      have h := Hb.out.trans (hb.mono Hb.out.size); clear Hb hb; have Hb := Lib.hid h; clear h
      obtain ⟨AY, cY, rfl, zY⟩ := HV2.out
      have HY := Lib.hid (show RowV w2 (.slice AY lb.length cY) lb from ⟨AY, cY, rfl, zY⟩); clear zY HV2
      have hc := less_p HX.out HY.out (by omega) (by omega)
      rw [HM.out, HBS.out] at hc
      have HC := Lib.hid hc; clear hc
      go_wp2_with fail
      refine HC.out.mono ?_; rintro e w3 ⟨⟨v, rfl, hr⟩, hb0⟩
      clear HC
      have hb := hb0
      clear hb0
      have h := HA.out.below hb; clear HA; have HA := Lib.hid h; clear h
      have h := HB.out.below hb; clear HB; have HB := Lib.hid h; clear h
      have h := HX.out.below hb; clear HX; have HX := Lib.hid h; clear h
      have h := HY.out.below hb; clear HY; have HY := Lib.hid h; clear h
      have h := Hb.out.trans (hb.mono Hb.out.size); clear Hb hb; have Hb := Lib.hid h; clear h
      obtain ⟨A1, c1, rfl, z1⟩ := hr
      have H1 := Lib.hid (show RowV w3 (.slice A1 (m : List Rd).length c1) m from ⟨A1, c1, rfl, z1⟩); clear z1
      dsimp only
      have hc := refLess_p HA.out HB.out (by omega) (by omega)
      rw [HM.out, HBS.out] at hc
      have HC := Lib.hid hc; clear hc
      go_wp2_with fail
      refine HC.out.mono ?_; rintro e w4 ⟨⟨v, rfl, hr⟩, hb0⟩
      clear HC
      have hb := hb0
      clear hb0
      have h := HA.out.below hb; clear HA; have HA := Lib.hid h; clear h
      have h := HB.out.below hb; clear HB; have HB := Lib.hid h; clear h
      have h := HX.out.below hb; clear HX; have HX := Lib.hid h; clear h
      have h := HY.out.below hb; clear HY; have HY := Lib.hid h; clear h
      have h := H1.out.below hb; clear H1; have H1 := Lib.hid h; clear h
      have h := Hb.out.trans (hb.mono Hb.out.size); clear Hb hb; have Hb := Lib.hid h; clear h
      obtain ⟨A2, c2, rfl, z2⟩ := hr
      have H2 := Lib.hid (show RowV w4 (.slice A2 (m : List Rd).length c2) m from ⟨A2, c2, rfl, z2⟩); clear z2
      dsimp only
      have Hb7 := Lib.hid Hb.out
      have H7 := Lib.hid (show At w4 w4 from Below.refl _ _)
      have HA7 := Lib.hid HA.out; have HB7 := Lib.hid HB.out; have HX7 := Lib.hid HX.out; have HY7 := Lib.hid HY.out
      have hc := sorted_o HX.out (by omega)
      rw [HSA.out] at hc
      have HC := Lib.hid hc; clear hc
      go_wp2_with fail
      refine HC.out.mono ?_; rintro e w5 ⟨⟨v, rfl, ho⟩, hb0⟩
      clear HC
      have hb := hb0
      clear hb0
      have h := HA.out.below hb; clear HA; have HA := Lib.hid h; clear h
      have h := HB.out.below hb; clear HB; have HB := Lib.hid h; clear h
      have h := HX.out.below hb; clear HX; have HX := Lib.hid h; clear h
      have h := HY.out.below hb; clear HY; have HY := Lib.hid h; clear h
      have h := H1.out.below hb; clear H1; have H1 := Lib.hid h; clear h
      have h := H2.out.below hb; clear H2; have H2 := Lib.hid h; clear h
      have h := H7.out.below hb; clear H7; have H7 := Lib.hid h; clear h
      have h := Hb.out.trans (hb.mono Hb.out.size); clear Hb hb; have Hb := Lib.hid h; clear h
      have HO := Lib.hid ho
      obtain ⟨AS, cS, rfl, zS⟩ := RowV.own ho
      have HO2 := Lib.hid (show OwnS w4 (.slice AS sa.length cS) sa w5 from HO.out); clear HO ho; have HO := Lib.hid HO2.out; clear HO2
      have HS := Lib.hid (show RowV w5 (.slice AS sa.length cS) sa from ⟨AS, cS, rfl, zS⟩); clear zS
      dsimp only
      have hc := alike_v H1.out H2.out (by omega) (by omega)
      rw [sameR_self] at hc
      have HC := Lib.hid hc; clear hc
      go_wp2_with fail
      refine HC.out.mono ?_; rintro e w6 ⟨rfl, hb0⟩
      clear HC
      have hb := hb0
      clear hb0
      have h := HA.out.below hb; clear HA; have HA := Lib.hid h; clear h
      have h := HB.out.below hb; clear HB; have HB := Lib.hid h; clear h
      have h := HX.out.below hb; clear HX; have HX := Lib.hid h; clear h
      have h := HY.out.below hb; clear HY; have HY := Lib.hid h; clear h
      have h := H1.out.below hb; clear H1; have H1 := Lib.hid h; clear h
      have h := H2.out.below hb; clear H2; have H2 := Lib.hid h; clear h
      have h := H7.out.below hb; clear H7; have H7 := Lib.hid h; clear h
      have h := HO.out.below hb; clear HO; have HO := Lib.hid h; clear h
      have h := HS.out.below hb; clear HS; have HS := Lib.hid h; clear h
      have h := Hb.out.trans (hb.mono Hb.out.size); clear Hb hb; have Hb := Lib.hid h; clear h
      dsimp only
      have hc := refSorted_v HA.out (by omega)
      rw [HSA.out] at hc
      have HC := Lib.hid hc; clear hc
      go_wp2_with fail
      refine HC.out.mono ?_; rintro e w7 ⟨⟨v, rfl, hr⟩, hb0⟩
      clear HC
      have hb := hb0
      clear hb0
      have h := HA.out.below hb; clear HA; have HA := Lib.hid h; clear h
      have h := HB.out.below hb; clear HB; have HB := Lib.hid h; clear h
      have h := HX.out.below hb; clear HX; have HX := Lib.hid h; clear h
      have h := HY.out.below hb; clear HY; have HY := Lib.hid h; clear h
      have h := H1.out.below hb; clear H1; have H1 := Lib.hid h; clear h
      have h := H2.out.below hb; clear H2; have H2 := Lib.hid h; clear h
      have h := H7.out.below hb; clear H7; have H7 := Lib.hid h; clear h
      have h := HO.out.below hb; clear HO; have HO := Lib.hid h; clear h
      have h := HS.out.below hb; clear HS; have HS := Lib.hid h; clear h
      have h := Hb.out.trans (hb.mono Hb.out.size); clear Hb hb; have Hb := Lib.hid h; clear h
      obtain ⟨A4, c4, rfl, z4⟩ := hr
      have H4 := Lib.hid (show RowV w7 (.slice A4 (sa : List Rd).length c4) sa from ⟨A4, c4, rfl, z4⟩); clear z4
      dsimp only
      have hc := alike_v HS.out H4.out (by omega) (by omega)
      rw [sameR_self] at hc
      have HC := Lib.hid hc; clear hc
      go_wp2_with fail
      refine HC.out.mono ?_; rintro e w8 ⟨rfl, hb0⟩
      clear HC
      have hb := hb0
      clear hb0
      have h := HA.out.below hb; clear HA; have HA := Lib.hid h; clear h
      have h := HB.out.below hb; clear HB; have HB := Lib.hid h; clear h
      have h := HX.out.below hb; clear HX; have HX := Lib.hid h; clear h
      have h := HY.out.below hb; clear HY; have HY := Lib.hid h; clear h
      have h := H1.out.below hb; clear H1; have H1 := Lib.hid h; clear h
      have h := H2.out.below hb; clear H2; have H2 := Lib.hid h; clear h
      have h := H7.out.below hb; clear H7; have H7 := Lib.hid h; clear h
      have h := HO.out.below hb; clear HO; have HO := Lib.hid h; clear h
      have h := HS.out.below hb; clear HS; have HS := Lib.hid h; clear h
      have h := H4.out.below hb; clear H4; have H4 := Lib.hid h; clear h
      have h := Hb.out.trans (hb.mono Hb.out.size); clear Hb hb; have Hb := Lib.hid h; clear h
      dsimp only
      have hc := same_v HX.out HY.out (by omega) (by omega)
      rw [HZ.out] at hc
      have HC := Lib.hid hc; clear hc
      go_wp2_with fail
      refine HC.out.mono ?_; rintro e w9 ⟨rfl, hb0⟩
      clear HC
      have hb := hb0
      clear hb0
      have h := HA.out.below hb; clear HA; have HA := Lib.hid h; clear h
      have h := HB.out.below hb; clear HB; have HB := Lib.hid h; clear h
      have h := HX.out.below hb; clear HX; have HX := Lib.hid h; clear h
      have h := HY.out.below hb; clear HY; have HY := Lib.hid h; clear h
      have h := H1.out.below hb; clear H1; have H1 := Lib.hid h; clear h
      have h := H2.out.below hb; clear H2; have H2 := Lib.hid h; clear h
      have h := H7.out.below hb; clear H7; have H7 := Lib.hid h; clear h
      have h := HO.out.below hb; clear HO; have HO := Lib.hid h; clear h
      have h := HS.out.below hb; clear HS; have HS := Lib.hid h; clear h
      have h := H4.out.below hb; clear H4; have H4 := Lib.hid h; clear h
      have h := Hb.out.trans (hb.mono Hb.out.size); clear Hb hb; have Hb := Lib.hid h; clear h
      dsimp only
      have hc := refSame_v HA.out HB.out (by omega) (by omega)
      rw [HZ.out] at hc
      have HC := Lib.hid hc; clear hc
      go_wp2_with fail
      refine HC.out.mono ?_; rintro e w10 ⟨rfl, hb0⟩
      clear HC
      have hb := hb0
      clear hb0
      have h := HA.out.below hb; clear HA; have HA := Lib.hid h; clear h
      have h := HB.out.below hb; clear HB; have HB := Lib.hid h; clear h
      have h := HX.out.below hb; clear HX; have HX := Lib.hid h; clear h
      have h := HY.out.below hb; clear HY; have HY := Lib.hid h; clear h
      have h := H1.out.below hb; clear H1; have H1 := Lib.hid h; clear h
      have h := H2.out.below hb; clear H2; have H2 := Lib.hid h; clear h
      have h := H7.out.below hb; clear H7; have H7 := Lib.hid h; clear h
      have h := HO.out.below hb; clear HO; have HO := Lib.hid h; clear h
      have h := HS.out.below hb; clear HS; have HS := Lib.hid h; clear h
      have h := H4.out.below hb; clear H4; have H4 := Lib.hid h; clear h
      have h := Hb.out.trans (hb.mono Hb.out.size); clear Hb hb; have Hb := Lib.hid h; clear h
      dsimp only
      have hc := HADD.out _ _ (LitV.made w10 [.slice AX la.length cX, .slice AY lb.length cY] [la, lb] ⟨HX.out, HY.out, trivial⟩ #[.slice AX la.length cX, .slice AY lb.length cY] rfl 2 rfl)
      have HC := Lib.hid hc; clear hc
      go_wp2_with fail
      refine HC.out.mono ?_; rintro e w11 ⟨⟨v, rfl, hr⟩, hb0⟩
      clear HC
      have hb : Below w10.heap.size w10 w11 := ((Below.refl _ w10).alloc (Nat.le_refl _) _).trans (hb0.mono (by simp))
      clear hb0
      have h := HA.out.below hb; clear HA; have HA := Lib.hid h; clear h
      have h := HB.out.below hb; clear HB; have HB := Lib.hid h; clear h
      have h := HX.out.below hb; clear HX; have HX := Lib.hid h; clear h
      have h := HY.out.below hb; clear HY; have HY := Lib.hid h; clear h
      have h := H1.out.below hb; clear H1; have H1 := Lib.hid h; clear h
      have h := H2.out.below hb; clear H2; have H2 := Lib.hid h; clear h
      have h := H7.out.below hb; clear H7; have H7 := Lib.hid h; clear h
      have h := HO.out.below hb; clear HO; have HO := Lib.hid h; clear h
      have h := HS.out.below hb; clear HS; have HS := Lib.hid h; clear h
      have h := H4.out.below hb; clear H4; have H4 := Lib.hid h; clear h
      have h := Hb.out.trans (hb.mono Hb.out.size); clear Hb hb; have Hb := Lib.hid h; clear h
      obtain ⟨A5, c5, rfl, z5⟩ := hr
      have H5 := Lib.hid (show RowV w11 (.slice A5 (u : List Rd).length c5) u from ⟨A5, c5, rfl, z5⟩); clear z5
      dsimp only
      have hc := HRADD.out _ _ (LitV.made w11 [.slice A la.length ca, .slice B lb.length cb] [la, lb] ⟨HA.out, HB.out, trivial⟩ #[.slice A la.length ca, .slice B lb.length cb] rfl 2 rfl)
      have HC := Lib.hid hc; clear hc
      go_wp2_with fail
      refine HC.out.mono ?_; rintro e w12 ⟨⟨v, rfl, hr⟩, hb0⟩
      clear HC
      have hb : Below w11.heap.size w11 w12 := ((Below.refl _ w11).alloc (Nat.le_refl _) _).trans (hb0.mono (by simp))
      clear hb0
      have h := HA.out.below hb; clear HA; have HA := Lib.hid h; clear h
      have h := HB.out.below hb; clear HB; have HB := Lib.hid h; clear h
      have h := HX.out.below hb; clear HX; have HX := Lib.hid h; clear h
      have h := HY.out.below hb; clear HY; have HY := Lib.hid h; clear h
      have h := H1.out.below hb; clear H1; have H1 := Lib.hid h; clear h
      have h := H2.out.below hb; clear H2; have H2 := Lib.hid h; clear h
      have h := H7.out.below hb; clear H7; have H7 := Lib.hid h; clear h
      have h := HO.out.below hb; clear HO; have HO := Lib.hid h; clear h
      have h := HS.out.below hb; clear HS; have HS := Lib.hid h; clear h
      have h := H4.out.below hb; clear H4; have H4 := Lib.hid h; clear h
      have h := H5.out.below hb; clear H5; have H5 := Lib.hid h; clear h
      have h := Hb.out.trans (hb.mono Hb.out.size); clear Hb hb; have Hb := Lib.hid h; clear h
      obtain ⟨A6, c6, rfl, z6⟩ := hr
      have H6 := Lib.hid (show RowV w12 (.slice A6 (u : List Rd).length c6) u from ⟨A6, c6, rfl, z6⟩); clear z6
      dsimp only
      have hc := alike_v H5.out H6.out (by omega) (by omega)
      rw [sameR_self] at hc
      have HC := Lib.hid hc; clear hc
      go_wp2_with fail
      refine HC.out.mono ?_; rintro e w13 ⟨rfl, hb0⟩
      clear HC
      have hb := hb0
      clear hb0
      have h := HA.out.below hb; clear HA; have HA := Lib.hid h; clear h
      have h := HB.out.below hb; clear HB; have HB := Lib.hid h; clear h
      have h := HX.out.below hb; clear HX; have HX := Lib.hid h; clear h
      have h := HY.out.below hb; clear HY; have HY := Lib.hid h; clear h
      have h := H1.out.below hb; clear H1; have H1 := Lib.hid h; clear h
      have h := H2.out.below hb; clear H2; have H2 := Lib.hid h; clear h
      have h := H7.out.below hb; clear H7; have H7 := Lib.hid h; clear h
      have h := HO.out.below hb; clear HO; have HO := Lib.hid h; clear h
      have h := HS.out.below hb; clear HS; have HS := Lib.hid h; clear h
      have h := H4.out.below hb; clear H4; have H4 := Lib.hid h; clear h
      have h := H5.out.below hb; clear H5; have H5 := Lib.hid h; clear h
      have h := H6.out.below hb; clear H6; have H6 := Lib.hid h; clear h
      have h := Hb.out.trans (hb.mono Hb.out.size); clear Hb hb; have Hb := Lib.hid h; clear h
      dsimp only
      clear HA HB HX HY H1 H2 HS H4 H5 H6 HADD HRADD HM HBS HSA HZ
      go_wp2_with fail
      go_loopw [12] (fun vi wr => ∃ k : Nat, vi = .int .i64 k ∧ k ≤ sa.length ∧ (∃ l : List Rd, l.length = sa.length ∧ wr.ownsRow w4.heap.size 32 kindR.K (.slice AS sa.length cS) sa.length (Rw.row kindR l)) ∧ Below w4.heap.size w4 wr) (fun vi _ => sa.length - (intOf vi).toNat)
      case atStart => exact ⟨0, rfl, by omega, ⟨sa, rfl, HO.out⟩, H7.out⟩
      case round =>
        obtain ⟨k, rfl, hk, ⟨l, hll, hown⟩, hbr⟩ := hrel
        have HBR := Lib.hid hbr; have HLL := Lib.hid hll; clear hbr hll HO
        by_cases hlt : k < sa.length
        · have hltz : (k : Int) < (sa.length : Int) := by omega
          have d2 : decide ((k : Int) < (sa.length : Int)) = true := by simp; omega
          obtain ⟨g, rfl, hgb⟩ := own_some hown (by omega)
          obtain ⟨r, hr⟩ : ∃ r, l[k]? = some r := ⟨_, List.getElem?_eq_getElem (by rw [HLL.out]; exact hlt)⟩
          obtain ⟨d0, d1, f0, f1⟩ := own_at hown hr
          have HPUT := Lib.hid (own_putK hown hr 7777); have HGB := Lib.hid hgb
          clear hown hr hgb
          go_wp2_with fail
          go_roundw
          case rel => exact ⟨k + 1, by simp, by omega, ⟨l.set k ⟨7777, r.v⟩, by rw [List.length_set]; exact HLL.out, HPUT.out⟩, HBR.out.setCell (p := ⟨g, k * 2, none⟩) HGB.out _⟩
          case measure => simp only [intOf]; omega
        · have hltz : ¬ (k : Int) < (sa.length : Int) := by omega
          have d2 : decide ((k : Int) < (sa.length : Int)) = false := by simp; omega
          have hb := Hb7.out.trans (HBR.out.mono Hb7.out.size)
          have Hb := Lib.hid hb; clear hb
          have HA := Lib.hid (HA7.out.below HBR.out); have HB := Lib.hid (HB7.out.below HBR.out); have HX := Lib.hid (HX7.out.below HBR.out); have HY := Lib.hid (HY7.out.below HBR.out)
          clear HA7 HB7 HX7 HY7 Hb7 H7 hown HLL HBR
          by_cases hza : la.length = 0
          · have hza1 : ¬ (0 : Int) < (la.length : Int) := by omega
            have da : decide ((0 : Int) < (la.length : Int)) = false := by rw [decide_eq_false_iff_not]; omega
            have hza2 : ¬ 0 < la.length := by omega
            clear hza
            go_wp2_with fail
            refine wp_region_below (by kernel_rfl) (by kernel_rfl) ?_
            refine wpQuiet_step (fun K hK => ?_); go_simp; (first | (with_reducible refine hK _ ?_) | (with_reducible refine ⟨_, fun _ _ => rfl, hK _ ?_⟩)); clear hK K
            refine wpQuiet_step (fun K hK => ?_); go_simp; (first | (with_reducible refine hK _ ?_) | (with_reducible refine ⟨_, fun _ _ => rfl, hK _ ?_⟩)); clear hK K
            refine wpQuiet_step (fun K hK => ?_); go_simp; (first | (with_reducible refine hK _ ?_) | (with_reducible refine ⟨_, fun _ _ => rfl, hK _ ?_⟩)); clear hK K
            refine wpQuiet_step (fun K hK => ?_); go_simp; (first | (with_reducible refine hK _ ?_) | (with_reducible refine ⟨_, fun _ _ => rfl, hK _ ?_⟩)); clear hK K
            refine wpQuiet_step (fun K hK => ?_); go_simp; (try (with_reducible refine ⟨_, fun _ _ => rfl, ?_⟩)); generalize hA : ({ tmps := _, defers := _ } : Act) = A; (with_reducible refine hK A ?_); clear hK K
            refine wpQuiet_step (fun K hK => ?_); subst hA; go_simp; (try (with_reducible refine ⟨_, fun _ _ => rfl, ?_⟩)); generalize hA : ({ tmps := _, defers := _ } : Act) = A; (with_reducible refine hK A ?_); clear hK K
            refine wpQuiet_step (fun K hK => ?_); subst hA; go_simp; (try (with_reducible refine ⟨_, fun _ _ => rfl, ?_⟩)); generalize hA : ({ tmps := _, defers := _ } : Act) = A; (with_reducible refine hK A ?_); clear hK K
            refine wpQuiet_step (fun K hK => ?_); subst hA; go_simp; (try (with_reducible refine ⟨_, fun _ _ => rfl, ?_⟩)); generalize hA : ({ tmps := _, defers := _ } : Act) = A; (with_reducible refine hK A ?_); clear hK K
            refine wpQuiet_step (fun K hK => ?_); subst hA; go_simp; (try (with_reducible refine ⟨_, fun _ _ => rfl, ?_⟩)); generalize hA : ({ tmps := _, defers := _ } : Act) = A; (with_reducible refine hK A ?_); clear hK K
            refine wpQuiet_step (fun K hK => ?_); subst hA; go_simp; (try (with_reducible refine ⟨_, fun _ _ => rfl, ?_⟩)); generalize hA : ({ tmps := _, defers := _ } : Act) = A; (with_reducible refine hK A ?_); clear hK K
            refine wpQuiet_step (fun K hK => ?_); subst hA; go_simp; (try (with_reducible refine ⟨_, fun _ _ => rfl, ?_⟩)); generalize hA : ({ tmps := _, defers := _ } : Act) = A; (with_reducible refine hK A ?_); clear hK K
            refine wpQuiet_step (fun K hK => ?_); subst hA; go_simp; (try (with_reducible refine ⟨_, fun _ _ => rfl, ?_⟩)); generalize hA : ({ tmps := _, defers := _ } : Act) = A; (with_reducible refine hK A ?_); clear hK K
            refine wpQuiet_step (fun K hK => ?_); subst hA; go_simp; (try (with_reducible refine ⟨_, fun _ _ => rfl, ?_⟩)); generalize hA : ({ tmps := _, defers := _ } : Act) = A; (with_reducible refine hK A ?_); clear hK K
            refine wpQuiet_step (fun K hK => ?_); subst hA; go_simp; (try (with_reducible refine ⟨_, fun _ _ => rfl, ?_⟩)); generalize hA : ({ tmps := _, defers := _ } : Act) = A; (with_reducible refine hK A ?_); clear hK K
            refine wpQuiet_step (fun K hK => ?_); subst hA; go_simp; (try (with_reducible refine ⟨_, fun _ _ => rfl, ?_⟩)); generalize hA : ({ tmps := _, defers := _ } : Act) = A; (with_reducible refine hK A ?_); clear hK K
            refine wpQuiet_step (fun K hK => ?_); subst hA; go_simp; (try (with_reducible refine ⟨_, fun _ _ => rfl, ?_⟩)); generalize hA : ({ tmps := _, defers := _ } : Act) = A; (with_reducible refine hK A ?_); clear hK K
            refine wpQuiet_step (fun K hK => ?_); subst hA; go_simp; (try (with_reducible refine ⟨_, fun _ _ => rfl, ?_⟩)); generalize hA : ({ tmps := _, defers := _ } : Act) = A; (with_reducible refine hK A ?_); clear hK K
            refine wpQuiet_step (fun K hK => ?_); subst hA; go_simp; (try (with_reducible refine ⟨_, fun _ _ => rfl, ?_⟩)); generalize hA : ({ tmps := _, defers := _ } : Act) = A; (with_reducible refine hK A ?_); clear hK K
            refine wpQuiet_step (fun K hK => ?_); subst hA; go_simp; (try (with_reducible refine ⟨_, fun _ _ => rfl, ?_⟩)); generalize hA : ({ tmps := _, defers := _ } : Act) = A; (with_reducible refine hK A ?_); clear hK K
            refine wpQuiet_step (fun K hK => ?_); subst hA; go_simp; (try (with_reducible refine ⟨_, fun _ _ => rfl, ?_⟩)); generalize hA : ({ tmps := _, defers := _ } : Act) = A; (with_reducible refine hK A ?_); clear hK K
            refine wpQuiet_step (fun K hK => ?_); subst hA; go_simp; (try (with_reducible refine ⟨_, fun _ _ => rfl, ?_⟩)); generalize hA : ({ tmps := _, defers := _ } : Act) = A; (with_reducible refine hK A ?_); clear hK K
            refine wpQuiet_step (fun K hK => ?_); subst hA; go_simp; (try (with_reducible refine ⟨_, fun _ _ => rfl, ?_⟩)); generalize hA : ({ tmps := _, defers := _ } : Act) = A; (with_reducible refine hK A ?_); clear hK K
            refine wpQuiet_step (fun K hK => ?_); subst hA; go_simp; (try (with_reducible refine ⟨_, fun _ _ => rfl, ?_⟩)); generalize hA : ({ tmps := _, defers := _ } : Act) = A; (with_reducible refine hK A ?_); clear hK K
            refine wpQuiet_step (fun K hK => ?_); subst hA; go_simp; (try (with_reducible refine ⟨_, fun _ _ => rfl, ?_⟩)); generalize hA : ({ tmps := _, defers := _ } : Act) = A; (with_reducible refine hK A ?_); clear hK K
            refine wpQuiet_step (fun K hK => ?_); subst hA; go_simp; (try (with_reducible refine ⟨_, fun _ _ => rfl, ?_⟩)); generalize hA : ({ tmps := _, defers := _ } : Act) = A; (with_reducible refine hK A ?_); clear hK K
            subst hA
            refine wpQuiet_nil ?_
            intro wy hb
            have h := HA.out.below hb; clear HA; have HA := Lib.hid h; clear h
            have h := HB.out.below hb; clear HB; have HB := Lib.hid h; clear h
            have h := HX.out.below hb; clear HX; have HX := Lib.hid h; clear h
            have h := HY.out.below hb; clear HY; have HY := Lib.hid h; clear h
            have h := Hb.out.trans (hb.mono Hb.out.size); clear Hb hb; have Hb := Lib.hid h; clear h
            have hc := alike_v HX.out HA.out (by omega) (by omega)
            rw [sameR_self] at hc
            have HC := Lib.hid hc; clear hc
            go_wp2_with fail
            refine HC.out.mono ?_; rintro e w41 ⟨rfl, hb0⟩
            clear HC
            have hb := hb0
            clear hb0
            have h := HA.out.below hb; clear HA; have HA := Lib.hid h; clear h
            have h := HB.out.below hb; clear HB; have HB := Lib.hid h; clear h
            have h := HX.out.below hb; clear HX; have HX := Lib.hid h; clear h
            have h := HY.out.below hb; clear HY; have HY := Lib.hid h; clear h
            have h := Hb.out.trans (hb.mono Hb.out.size); clear Hb hb; have Hb := Lib.hid h; clear h
            dsimp only
            have hc := alike_v HY.out HB.out (by omega) (by omega)
            rw [sameR_self] at hc
            have HC := Lib.hid hc; clear hc
            go_wp2_with fail
            refine HC.out.mono ?_; rintro e w42 ⟨rfl, hb0⟩
            clear HC
            have hb := hb0
            clear hb0
            have h := HA.out.below hb; clear HA; have HA := Lib.hid h; clear h
            have h := HB.out.below hb; clear HB; have HB := Lib.hid h; clear h
            have h := HX.out.below hb; clear HX; have HX := Lib.hid h; clear h
            have h := HY.out.below hb; clear HY; have HY := Lib.hid h; clear h
            have h := Hb.out.trans (hb.mono Hb.out.size); clear Hb hb; have Hb := Lib.hid h; clear h
            dsimp only
            have hc := works_any w42
            have HC := Lib.hid hc; clear hc
            go_wp2_with fail
            refine HC.out.mono ?_; rintro e w43 ⟨rfl, hb0⟩
            clear HC
            have hb := hb0
            clear hb0
            have h := HA.out.below hb; clear HA; have HA := Lib.hid h; clear h
            have h := HB.out.below hb; clear HB; have HB := Lib.hid h; clear h
            have h := HX.out.below hb; clear HX; have HX := Lib.hid h; clear h
            have h := HY.out.below hb; clear HY; have HY := Lib.hid h; clear h
            have h := Hb.out.trans (hb.mono Hb.out.size); clear Hb hb; have Hb := Lib.hid h; clear h
            dsimp only
            go_wp2_with fail
            go_ret
            exact ⟨rfl, Hb.out⟩
          · have hza0 : 0 < la.length := by omega
            have hza1 : (0 : Int) < (la.length : Int) := by omega
            have da : decide ((0 : Int) < (la.length : Int)) = true := by rw [decide_eq_true_eq]; omega
            clear hza
            by_cases hzb : lb.length = 0
            · have hzb1 : ¬ (0 : Int) < (lb.length : Int) := by omega
              have db : decide ((0 : Int) < (lb.length : Int)) = false := by rw [decide_eq_false_iff_not]; omega
              have hzb2 : ¬ 0 < lb.length := by omega
              clear hzb
              go_wp2_with fail
              refine wp_region_below (by kernel_rfl) (by kernel_rfl) ?_
              refine wpQuiet_step (fun K hK => ?_); go_simp; (first | (with_reducible refine hK _ ?_) | (with_reducible refine ⟨_, fun _ _ => rfl, hK _ ?_⟩)); clear hK K
              refine wpQuiet_step (fun K hK => ?_); go_simp; (first | (with_reducible refine hK _ ?_) | (with_reducible refine ⟨_, fun _ _ => rfl, hK _ ?_⟩)); clear hK K
              refine wpQuiet_step (fun K hK => ?_); go_simp; (first | (with_reducible refine hK _ ?_) | (with_reducible refine ⟨_, fun _ _ => rfl, hK _ ?_⟩)); clear hK K
              refine wpQuiet_step (fun K hK => ?_); go_simp; (first | (with_reducible refine hK _ ?_) | (with_reducible refine ⟨_, fun _ _ => rfl, hK _ ?_⟩)); clear hK K
              refine wpQuiet_step (fun K hK => ?_); go_simp; (try (with_reducible refine ⟨_, fun _ _ => rfl, ?_⟩)); generalize hA : ({ tmps := _, defers := _ } : Act) = A; (with_reducible refine hK A ?_); clear hK K
              refine wpQuiet_step (fun K hK => ?_); subst hA; go_simp; (try (with_reducible refine ⟨_, fun _ _ => rfl, ?_⟩)); generalize hA : ({ tmps := _, defers := _ } : Act) = A; (with_reducible refine hK A ?_); clear hK K
              refine wpQuiet_step (fun K hK => ?_); subst hA; go_simp; (try (with_reducible refine ⟨_, fun _ _ => rfl, ?_⟩)); generalize hA : ({ tmps := _, defers := _ } : Act) = A; (with_reducible refine hK A ?_); clear hK K
              refine wpQuiet_step (fun K hK => ?_); subst hA; go_simp; (try (with_reducible refine ⟨_, fun _ _ => rfl, ?_⟩)); generalize hA : ({ tmps := _, defers := _ } : Act) = A; (with_reducible refine hK A ?_); clear hK K
              refine wpQuiet_step (fun K hK => ?_); subst hA; go_simp; (try (with_reducible refine ⟨_, fun _ _ => rfl, ?_⟩)); generalize hA : ({ tmps := _, defers := _ } : Act) = A; (with_reducible refine hK A ?_); clear hK K
              refine wpQuiet_step (fun K hK => ?_); subst hA; go_simp; (try (with_reducible refine ⟨_, fun _ _ => rfl, ?_⟩)); generalize hA : ({ tmps := _, defers := _ } : Act) = A; (with_reducible refine hK A ?_); clear hK K
              refine wpQuiet_step (fun K hK => ?_); subst hA; go_simp; (try (with_reducible refine ⟨_, fun _ _ => rfl, ?_⟩)); generalize hA : ({ tmps := _, defers := _ } : Act) = A; (with_reducible refine hK A ?_); clear hK K
              refine wpQuiet_step (fun K hK => ?_); subst hA; go_simp; (try (with_reducible refine ⟨_, fun _ _ => rfl, ?_⟩)); generalize hA : ({ tmps := _, defers := _ } : Act) = A; (with_reducible refine hK A ?_); clear hK K
              refine wpQuiet_step (fun K hK => ?_); subst hA; go_simp; (try (with_reducible refine ⟨_, fun _ _ => rfl, ?_⟩)); generalize hA : ({ tmps := _, defers := _ } : Act) = A; (with_reducible refine hK A ?_); clear hK K
              refine wpQuiet_step (fun K hK => ?_); subst hA; go_simp; (try (with_reducible refine ⟨_, fun _ _ => rfl, ?_⟩)); generalize hA : ({ tmps := _, defers := _ } : Act) = A; (with_reducible refine hK A ?_); clear hK K
              refine wpQuiet_step (fun K hK => ?_); subst hA; go_simp; (try (with_reducible refine ⟨_, fun _ _ => rfl, ?_⟩)); generalize hA : ({ tmps := _, defers := _ } : Act) = A; (with_reducible refine hK A ?_); clear hK K
              refine wpQuiet_step (fun K hK => ?_); subst hA; go_simp; (try (with_reducible refine ⟨_, fun _ _ => rfl, ?_⟩)); generalize hA : ({ tmps := _, defers := _ } : Act) = A; (with_reducible refine hK A ?_); clear hK K
              refine wpQuiet_step (fun K hK => ?_); subst hA; go_simp; (try (with_reducible refine ⟨_, fun _ _ => rfl, ?_⟩)); generalize hA : ({ tmps := _, defers := _ } : Act) = A; (with_reducible refine hK A ?_); clear hK K
              refine wpQuiet_step (fun K hK => ?_); subst hA; go_simp; (try (with_reducible refine ⟨_, fun _ _ => rfl, ?_⟩)); generalize hA : ({ tmps := _, defers := _ } : Act) = A; (with_reducible refine hK A ?_); clear hK K
              refine wpQuiet_step (fun K hK => ?_); subst hA; go_simp; (try (with_reducible refine ⟨_, fun _ _ => rfl, ?_⟩)); generalize hA : ({ tmps := _, defers := _ } : Act) = A; (with_reducible refine hK A ?_); clear hK K
              refine wpQuiet_step (fun K hK => ?_); subst hA; go_simp; (try (with_reducible refine ⟨_, fun _ _ => rfl, ?_⟩)); generalize hA : ({ tmps := _, defers := _ } : Act) = A; (with_reducible refine hK A ?_); clear hK K
              refine wpQuiet_step (fun K hK => ?_); subst hA; go_simp; (try (with_reducible refine ⟨_, fun _ _ => rfl, ?_⟩)); generalize hA : ({ tmps := _, defers := _ } : Act) = A; (with_reducible refine hK A ?_); clear hK K
              refine wpQuiet_step (fun K hK => ?_); subst hA; go_simp; (try (with_reducible refine ⟨_, fun _ _ => rfl, ?_⟩)); generalize hA : ({ tmps := _, defers := _ } : Act) = A; (with_reducible refine hK A ?_); clear hK K
              refine wpQuiet_step (fun K hK => ?_); subst hA; go_simp; (try (with_reducible refine ⟨_, fun _ _ => rfl, ?_⟩)); generalize hA : ({ tmps := _, defers := _ } : Act) = A; (with_reducible refine hK A ?_); clear hK K
              refine wpQuiet_step (fun K hK => ?_); subst hA; go_simp; (try (with_reducible refine ⟨_, fun _ _ => rfl, ?_⟩)); generalize hA : ({ tmps := _, defers := _ } : Act) = A; (with_reducible refine hK A ?_); clear hK K
              refine wpQuiet_step (fun K hK => ?_); subst hA; go_simp; (try (with_reducible refine ⟨_, fun _ _ => rfl, ?_⟩)); generalize hA : ({ tmps := _, defers := _ } : Act) = A; (with_reducible refine hK A ?_); clear hK K
              subst hA
              refine wpQuiet_nil ?_
              intro wy hb
              have h := HA.out.below hb; clear HA; have HA := Lib.hid h; clear h
              have h := HB.out.below hb; clear HB; have HB := Lib.hid h; clear h
              have h := HX.out.below hb; clear HX; have HX := Lib.hid h; clear h
              have h := HY.out.below hb; clear HY; have HY := Lib.hid h; clear h
              have h := Hb.out.trans (hb.mono Hb.out.size); clear Hb hb; have Hb := Lib.hid h; clear h
              have hc := alike_v HX.out HA.out (by omega) (by omega)
              rw [sameR_self] at hc
              have HC := Lib.hid hc; clear hc
              go_wp2_with fail
              refine HC.out.mono ?_; rintro e w41 ⟨rfl, hb0⟩
              clear HC
              have hb := hb0
              clear hb0
              have h := HA.out.below hb; clear HA; have HA := Lib.hid h; clear h
              have h := HB.out.below hb; clear HB; have HB := Lib.hid h; clear h
              have h := HX.out.below hb; clear HX; have HX := Lib.hid h; clear h
              have h := HY.out.below hb; clear HY; have HY := Lib.hid h; clear h
              have h := Hb.out.trans (hb.mono Hb.out.size); clear Hb hb; have Hb := Lib.hid h; clear h
              dsimp only
              have hc := alike_v HY.out HB.out (by omega) (by omega)
              rw [sameR_self] at hc
              have HC := Lib.hid hc; clear hc
              go_wp2_with fail
              refine HC.out.mono ?_; rintro e w42 ⟨rfl, hb0⟩
              clear HC
              have hb := hb0
              clear hb0
              have h := HA.out.below hb; clear HA; have HA := Lib.hid h; clear h
              have h := HB.out.below hb; clear HB; have HB := Lib.hid h; clear h
              have h := HX.out.below hb; clear HX; have HX := Lib.hid h; clear h
              have h := HY.out.below hb; clear HY; have HY := Lib.hid h; clear h
              have h := Hb.out.trans (hb.mono Hb.out.size); clear Hb hb; have Hb := Lib.hid h; clear h
              dsimp only
              have hc := works_any w42
              have HC := Lib.hid hc; clear hc
              go_wp2_with fail
              refine HC.out.mono ?_; rintro e w43 ⟨rfl, hb0⟩
              clear HC
              have hb := hb0
              clear hb0
              have h := HA.out.below hb; clear HA; have HA := Lib.hid h; clear h
              have h := HB.out.below hb; clear HB; have HB := Lib.hid h; clear h
              have h := HX.out.below hb; clear HX; have HX := Lib.hid h; clear h
              have h := HY.out.below hb; clear HY; have HY := Lib.hid h; clear h
              have h := Hb.out.trans (hb.mono Hb.out.size); clear Hb hb; have Hb := Lib.hid h; clear h
              dsimp only
              go_wp2_with fail
              go_ret
              exact ⟨rfl, Hb.out⟩
            · have hzb0 : 0 < lb.length := by omega
              have hzb1 : (0 : Int) < (lb.length : Int) := by omega
              have db : decide ((0 : Int) < (lb.length : Int)) = true := by rw [decide_eq_true_eq]; omega
              clear hzb
              obtain ⟨x, hx⟩ : ∃ x, la[0]? = some x := ⟨_, List.getElem?_eq_getElem hza0⟩
              obtain ⟨y, hy⟩ : ∃ y, lb[0]? = some y := ⟨_, List.getElem?_eq_getElem hzb0⟩
              obtain ⟨n, hn⟩ : ∃ n, x.C y = n := ⟨_, rfl⟩
              obtain ⟨b1, o1, rfl, hbl1, hload1⟩ := load_r (ts_of HA.out) hx
              obtain ⟨b2, o2, rfl, hbl2, hload2⟩ := load_r (ts_of HB.out) hy
              rw [Nat.zero_mul, Nat.add_zero] at hload1 hload2
              have HLX := Lib.hid hload1; have HLY := Lib.hid hload2
              have HC1 := Lib.hid (cmp_same _ x y hn (compare_any x y)); have HC2 := Lib.hid (cmp_same _ x y hn (refCompare_any x y))
              clear hx hy hn hload1 hload2
              go_wp2_with fail
              refine wp_region_below (by kernel_rfl) (by kernel_rfl) ?_
              refine wpQuiet_step (fun K hK => ?_); go_simp; (first | (with_reducible refine hK _ ?_) | (with_reducible refine ⟨_, fun _ _ => rfl, hK _ ?_⟩)); clear hK K
              refine wpQuiet_step (fun K hK => ?_); go_simp; (first | (with_reducible refine hK _ ?_) | (with_reducible refine ⟨_, fun _ _ => rfl, hK _ ?_⟩)); clear hK K
              refine wpQuiet_step (fun K hK => ?_); go_simp; (first | (with_reducible refine hK _ ?_) | (with_reducible refine ⟨_, fun _ _ => rfl, hK _ ?_⟩)); clear hK K
              refine wpQuiet_step (fun K hK => ?_); go_simp; (first | (with_reducible refine hK _ ?_) | (with_reducible refine ⟨_, fun _ _ => rfl, hK _ ?_⟩)); clear hK K
              refine wpQuiet_step (fun K hK => ?_); go_simp; (try (with_reducible refine ⟨_, fun _ _ => rfl, ?_⟩)); generalize hA : ({ tmps := _, defers := _ } : Act) = A; (with_reducible refine hK A ?_); clear hK K
              refine wpQuiet_step (fun K hK => ?_); subst hA; go_simp; (try (with_reducible refine ⟨_, fun _ _ => rfl, ?_⟩)); generalize hA : ({ tmps := _, defers := _ } : Act) = A; (with_reducible refine hK A ?_); clear hK K
              refine wpQuiet_step (fun K hK => ?_); subst hA; go_simp; (try (with_reducible refine ⟨_, fun _ _ => rfl, ?_⟩)); generalize hA : ({ tmps := _, defers := _ } : Act) = A; (with_reducible refine hK A ?_); clear hK K
              refine wpQuiet_step (fun K hK => ?_); subst hA; go_simp; (try (with_reducible refine ⟨_, fun _ _ => rfl, ?_⟩)); generalize hA : ({ tmps := _, defers := _ } : Act) = A; (with_reducible refine hK A ?_); clear hK K
              refine wpQuiet_step (fun K hK => ?_); subst hA; go_simp; (try (with_reducible refine ⟨_, fun _ _ => rfl, ?_⟩)); generalize hA : ({ tmps := _, defers := _ } : Act) = A; (with_reducible refine hK A ?_); clear hK K
              refine wpQuiet_step (fun K hK => ?_); subst hA; go_simp; (first | (with_reducible refine hK _ ?_) | (with_reducible refine ⟨_, fun _ _ => rfl, hK _ ?_⟩)); clear hK K
              refine wpQuiet_step (fun K hK => ?_); go_simp; (first | (with_reducible refine hK _ ?_) | (with_reducible refine ⟨_, fun _ _ => rfl, hK _ ?_⟩)); clear hK K
              refine wpQuiet_step (fun K hK => ?_); refine q_load (p := .pointer (some ⟨b1, o1, none⟩)) 32 _ rfl rfl rfl (HLX.out) ?_; go_simp; (with_reducible refine hK _ ?_); clear hK K
              refine wpQuiet_step (fun K hK => ?_); go_simp; (first | (with_reducible refine hK _ ?_) | (with_reducible refine ⟨_, fun _ _ => rfl, hK _ ?_⟩)); clear hK K
              refine wpQuiet_step (fun K hK => ?_); go_simp; (first | (with_reducible refine hK _ ?_) | (with_reducible refine ⟨_, fun _ _ => rfl, hK _ ?_⟩)); clear hK K
              refine wpQuiet_step (fun K hK => ?_); refine q_load (p := .pointer (some ⟨b2, o2, none⟩)) 32 _ rfl rfl rfl (HLY.out) ?_; go_simp; (with_reducible refine hK _ ?_); clear hK K
              refine wpQuiet_step (fun K hK => ?_); go_simp; (with_reducible refine ⟨_, fun _ hb => (HC1.out _).mono fun _ _ h => ⟨h.1, hb.trans (h.2.mono (by simpa using hb.size))⟩, hK _ ?_⟩); clear hK K
              refine wpQuiet_step (fun K hK => ?_); go_simp; (first | (with_reducible refine hK _ ?_) | (with_reducible refine ⟨_, fun _ _ => rfl, hK _ ?_⟩)); clear hK K
              refine wpQuiet_step (fun K hK => ?_); go_simp; (first | (with_reducible refine hK _ ?_) | (with_reducible refine ⟨_, fun _ _ => rfl, hK _ ?_⟩)); clear hK K
              refine wpQuiet_step (fun K hK => ?_); refine q_load (p := .pointer (some ⟨b1, o1, none⟩)) 32 _ rfl rfl rfl (HLX.out) ?_; go_simp; (with_reducible refine hK _ ?_); clear hK K
              refine wpQuiet_step (fun K hK => ?_); go_simp; (first | (with_reducible refine hK _ ?_) | (with_reducible refine ⟨_, fun _ _ => rfl, hK _ ?_⟩)); clear hK K
              refine wpQuiet_step (fun K hK => ?_); go_simp; (first | (with_reducible refine hK _ ?_) | (with_reducible refine ⟨_, fun _ _ => rfl, hK _ ?_⟩)); clear hK K
              refine wpQuiet_step (fun K hK => ?_); refine q_load (p := .pointer (some ⟨b2, o2, none⟩)) 32 _ rfl rfl rfl (HLY.out) ?_; go_simp; (with_reducible refine hK _ ?_); clear hK K
              refine wpQuiet_step (fun K hK => ?_); go_simp; (with_reducible refine ⟨_, fun _ hb => (HC2.out _).mono fun _ _ h => ⟨h.1, hb.trans (h.2.mono (by simpa using hb.size))⟩, hK _ ?_⟩); clear hK K
              refine wpQuiet_step (fun K hK => ?_); go_simp; (first | (with_reducible refine hK _ ?_) | (with_reducible refine ⟨_, fun _ _ => rfl, hK _ ?_⟩)); clear hK K
              refine wpQuiet_step (fun K hK => ?_); go_simp; (first | (with_reducible refine hK _ ?_) | (with_reducible refine ⟨_, fun _ _ => rfl, hK _ ?_⟩)); clear hK K
              refine wpQuiet_nil ?_
              intro wy hb
              have h := HA.out.below hb; clear HA; have HA := Lib.hid h; clear h
              have h := HB.out.below hb; clear HB; have HB := Lib.hid h; clear h
              have h := HX.out.below hb; clear HX; have HX := Lib.hid h; clear h
              have h := HY.out.below hb; clear HY; have HY := Lib.hid h; clear h
              have h := Hb.out.trans (hb.mono Hb.out.size); clear Hb hb; have Hb := Lib.hid h; clear h
              have hc := alike_v HX.out HA.out (by omega) (by omega)
              rw [sameR_self] at hc
              have HC := Lib.hid hc; clear hc
              go_wp2_with fail
              refine HC.out.mono ?_; rintro e w41 ⟨rfl, hb0⟩
              clear HC
              have hb := hb0
              clear hb0
              have h := HA.out.below hb; clear HA; have HA := Lib.hid h; clear h
              have h := HB.out.below hb; clear HB; have HB := Lib.hid h; clear h
              have h := HX.out.below hb; clear HX; have HX := Lib.hid h; clear h
              have h := HY.out.below hb; clear HY; have HY := Lib.hid h; clear h
              have h := Hb.out.trans (hb.mono Hb.out.size); clear Hb hb; have Hb := Lib.hid h; clear h
              dsimp only
              have hc := alike_v HY.out HB.out (by omega) (by omega)
              rw [sameR_self] at hc
              have HC := Lib.hid hc; clear hc
              go_wp2_with fail
              refine HC.out.mono ?_; rintro e w42 ⟨rfl, hb0⟩
              clear HC
              have hb := hb0
              clear hb0
              have h := HA.out.below hb; clear HA; have HA := Lib.hid h; clear h
              have h := HB.out.below hb; clear HB; have HB := Lib.hid h; clear h
              have h := HX.out.below hb; clear HX; have HX := Lib.hid h; clear h
              have h := HY.out.below hb; clear HY; have HY := Lib.hid h; clear h
              have h := Hb.out.trans (hb.mono Hb.out.size); clear Hb hb; have Hb := Lib.hid h; clear h
              dsimp only
              have hc := works_any w42
              have HC := Lib.hid hc; clear hc
              go_wp2_with fail
              refine HC.out.mono ?_; rintro e w43 ⟨rfl, hb0⟩
              clear HC
              have hb := hb0
              clear hb0
              have h := HA.out.below hb; clear HA; have HA := Lib.hid h; clear h
              have h := HB.out.below hb; clear HB; have HB := Lib.hid h; clear h
              have h := HX.out.below hb; clear HX; have HX := Lib.hid h; clear h
              have h := HY.out.below hb; clear HY; have HY := Lib.hid h; clear h
              have h := Hb.out.trans (hb.mono Hb.out.size); clear Hb hb; have Hb := Lib.hid h; clear h
              dsimp only
              go_wp2_with fail
              go_ret
              exact ⟨rfl, Hb.out⟩

set_option maxRecDepth 100000 in
theorem lifted (os : Os) (started : os.Started) (H : Type) (enc : TypeId × Value → H) :
    ReturnsInHanded {} Try.checked os 3 .any (Rows.valueTwoSpec.pre6 enc Try.prog Try.f3 Rows.valueTwoRow.domain false) (Rows.valueTwoSpec.post enc Try.prog Try.f3 false true false false) := by
  refine returnsInHanded_of_change_sized (C := Try.checked) ownKnob_none started (by kernel_rfl) Try.func3
    (ChangeSpec.witness6 (enc := enc) (C := Try.checked) false ⟨#[], #[.slice none 0 0, .slice none 0 0], []⟩ 8 (by kernel_rfl) (by kernel_rfl) (by kernel_rfl) (by kernel_rfl)) ?_
  intro W base args ds gs before hval0 hW hcnd hsz0 _
  have hval : ∀ (j : Nat) t v, Try.f3.params[j]? = some t → args[j]? = some v → Value.okWide Try.prog W .any base t v := hval0
  have hW' := hW
  obtain ⟨p, q, hA0, hV, rfl, hfz, hnd⟩ := hW
  have hA : DataW.TrodAll enc Try.prog W 0 (fun _ => true) true Try.f3.params.toList args.toList ds p := hA0
  have hsz : (DataW.weightsEach Try.prog (Try.f3.params.toList ++ Rows.valueTwoSpec.plain.varTypes Try.prog) (ds ++ gs)).all (· ≤ reachBytes) = true := hsz0
  rw [Try.params3] at hA hval hsz
  obtain ⟨v0, vs0, d0, ds0, p0, q0, hargs, rfl, rfl, h0, r0⟩ := trodAll_cons hA
  obtain ⟨v1, vs1, d1, ds1, p1, q1, rfl, rfl, rfl, h1, r1⟩ := trodAll_cons r0
  obtain ⟨rfl, rfl, rfl⟩ := trodAll_nil r1
  obtain rfl : args = #[v0, v1] := by cases args; simp_all
  obtain ⟨rfl, rfl⟩ := trodVars_none hV
  obtain ⟨A0, l0, c0, rfl, hT0, hw0, hc0, hm0, hn0⟩ := Vr.open_recs (hval 0 22 v0 rfl rfl) h0
  obtain ⟨A1, l1, c1, rfl, hT1, hw1, hc1, hm1, hn1⟩ := Vr.open_recs (hval 1 22 v1 rfl rfl) h1
  clear hA0 hval0 hsz0
  refine (walk A0 A1 l0 l1 c0 c1 W ⟨A0, c0, rfl, hT0, hn0, hc0, hm0⟩ ⟨A1, c1, rfl, hT1, hn1, hc1, hm1⟩).mono fun e W' ⟨he, hg⟩ => ?_
  subst he
  exact ⟨_, rfl, law_post progLaid hW' rfl (by rw [Try.params3]; intro t ht; simp at ht; subst ht; exact ⟨by kernel_rfl, of_decide_eq_true (by kernel_rfl)⟩) rfl Try.underlying4 rfl hg⟩

theorem over : Rows.valueTwoRow.holds Try.pinned (OpenSpec.ofChange Rows.valueTwoSpec) :=
  OpenClaim.holds_of_wide 3 Try.f3 rfl rfl rfl rfl rfl rfl rfl ⟨rfl, rfl, rfl, rfl, rfl⟩ rfl rfl rfl rfl rfl (by kernel_rfl) Try.func3 (by kernel_rfl)
    (of_decide_eq_true (by kernel_rfl)) (by unfold Func.isWrapper; first | (rw [if_pos (by decide +kernel)]; kernel_rfl) | (rw [if_neg (by decide +kernel)]; exact ⟨rfl, rfl⟩))
    (fun os started H enc _ => lifted os started H enc)

/-- The statement. -/
theorem proved : Rows.ValueTwoSaid :=
  over
end valueTwo
end Go.Proofs.Ytcdofkhkckodjaa
