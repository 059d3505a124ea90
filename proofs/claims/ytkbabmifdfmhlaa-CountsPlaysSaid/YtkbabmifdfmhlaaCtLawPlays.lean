/- CountsPlays: what Counts tells is what the document's row of counts tells, whatever is added, a copy's own additions aside; for all rows of at most 60 additions. -/
import Derived.Test.YtkbabmifdfmhlaaCtRefA
namespace Go.Proofs.Ytkbabmifdfmhlaa
open Go.ChangeShapes Go.WideShapes Go.ChangeAt Go.RowKit Go.BigFrame Go.Shelf
set_option linter.unusedVariables false
set_option maxRecDepth 100000
theorem load_rc {W : World} {g n c : Nat} {d : Int} {A : Option Addr} (h : Row W g 31 [.int .i64 d, .slice A n c]) : ∀ w', Below W.heap.size W w' → (Instr.loadAt 31 (.pointer (some ⟨g, 0, none⟩))).run Try.prog w' = .ok (.agg #[.int .i64 d, .slice A n c]) w' := by
  intro w' hb
  have hr := h.below hb h.lt
  have c0 : w'.cell? ⟨g, 0, none⟩ = some (.int .i64 d) := hr.cell 0
  have c1 : w'.cell? ⟨g, 1, none⟩ = some (.slice A n c) := hr.cell 1
  go_simp
theorem nee_is {x y : Operand} {i j : Int} {p : Bool} (h : (i != j) = p) : ∀ w, (do eqGuard .neq 33 x y (.int .i64 i) (.int .i64 j); binOp .neq 33 (.int .i64 i) (.int .i64 j) : Sem Value).run Try.prog w = .ok (.bool p) w := by
  intro w; subst h; go_simp
namespace countsPlays
def V12 (bb oo k gr cb : Nat) (n d r : Int) (l L K : Cn) (s : St) (A : Option Addr) (c : Nat) (i : Nat) (v : Value) : Prop := match i with
  | 0 => v = .agg #[.int .i64 d, .slice A L.length c]
  | 1 => v = .slice (some ⟨bb, oo, none⟩) l.length cb
  | 2 => v = .int .i64 ((k : Nat) : Int)
  | 3 => v = .pointer (some ⟨bb, oo + k * 6, none⟩)
  | 4 => v = .pointer (some ⟨bb, oo + k * 6, none⟩)
  | 5 => v = .agg #[.int .i64 s.d, .int .i64 s.e, .int .i64 s.x, .int .i64 s.y, .int .i64 s.z]
  | 6 => v = .slice (some ⟨bb, oo, none⟩) l.length cb
  | 7 => v = .int .i64 ((k : Nat) : Int)
  | 8 => v = .pointer (some ⟨bb, oo + k * 6, none⟩)
  | 9 => v = .pointer (some ⟨bb, oo + k * 6 + 5, none⟩)
  | 10 => v = .int .i64 n
  | 11 => ∃ A9 c9, v = .tuple #[.agg #[.int .i64 d, .slice A9 K.length c9], .int .i64 r]
  | 12 => ∃ A9 c9, v = .tuple #[.agg #[.int .i64 d, .slice A9 K.length c9], .int .i64 r]
  | 13 => ∃ A9 c9, v = .agg #[.int .i64 d, .slice A9 K.length c9]
  | 14 => v = .int .i64 r
  | 15 => True
  | 16 => True
  | _ => v = .int .i64 r
def V26 (b1 ga gr : Nat) (d q3 : Int) (K : Cn) (X : List St) (t : St) (A2 : Option Addr) (c2 : Nat) (i : Nat) (v : Value) : Prop := match i with
  | 0 => v = .pointer (some ⟨b1, 0, none⟩)
  | 1 => v = .agg #[.int .i64 t.d, .int .i64 t.e, .int .i64 t.x, .int .i64 t.y, .int .i64 t.z]
  | 2 => v = .int .i64 q3
  | 3 => v = .agg #[.int .i64 d, .slice A2 K.length c2]
  | 4 => v = .agg #[.int .i64 t.d, .int .i64 t.e, .int .i64 t.x, .int .i64 t.y, .int .i64 t.z]
  | 5 => v = .int .i64 q3
  | 6 => v = .bool false
  | 7 => v = .bool false
  | 8 => v = .pointer (some ⟨b1, 0, none⟩)
  | 9 => ∃ A9 c9, v = .slice A9 X.length c9
  | 10 => v = .agg #[.int .i64 d, .slice A2 K.length c2]
  | 11 => ∃ A9 c9, v = .slice A9 X.length c9
  | 12 => v = .bool true
  | 13 => v = .bool false
  | _ => v = .bool false
/-- what holds at a round's head -/
def At (w : World) (b1 ga gr : Nat) (d : Int) (t : St) (l : Cn) (k : Nat) (wr : World) : Prop := ∃ m N A c, N ≤ k ∧ Below w.heap.size w wr ∧ Ct wr w.heap.size b1 m N d (playC d (l.take k)) ∧ Row wr gr 31 [.int .i64 d, .slice A (playC d (l.take k)).length c] ∧ Rf wr A c (playC d (l.take k)) ∧ Holds wr ga t
set_option maxHeartbeats 16000000 in
theorem walk (d : Int) (B : Option Addr) (l : Cn) (cb : Nat) (t : St) (w : World) (hB : Ps w B l) (hW : ∀ p ∈ l, p.1.W) (htW : t.W) (hcb : l.length ≤ cb) (hcm : cb ≤ maxLen) :
    Calls Try.prog 3 #[.int .i64 d, .slice B l.length cb, t.val] w fun e w' => e = .returned (.bool true) ∧ Below w.heap.size w w' := by
  have WW := Lib.hid works7_any
  have hbA := (Below.refl w.heap.size w).alloc (Nat.le_refl _) (.cells #[.int .i64 t.d, .int .i64 t.e, .int .i64 t.x, .int .i64 t.y, .int .i64 t.z] 25)
  have hx := Holds.made w t
  have HBA := Lib.hid hbA; have HX := Lib.hid hx; clear hbA hx
  unfold St.val
  by_cases hl : 60 < l.length
  · have dl : decide ((l.length : Int) > 60) = true := decide_eq_true (by omega)
    clear hB
    go_enter Try.func3, Try.ntmps3
    go_wp2_with fail
    refine (WW.out _).mono ?_; rintro e we ⟨rfl, hbe⟩
    go_wp2_with fail
    go_ret
    exact ⟨rfl, HBA.out.trans (hbe.mono HBA.out.size)⟩
  have dl : decide ((l.length : Int) > 60) = false := decide_eq_false (by omega)
  by_cases hd : d < 0 ∨ 3 < d
  · have HN := Lib.hid (fun w => new_no d w hd); clear hB
    by_cases hd0 : d < 0
    · clear hd
      go_enter Try.func3, Try.ntmps3
      go_wp2_with fail
      refine (HN.out _).mono ?_; rintro e w1 ⟨rfl, rfl⟩
      go_wp2_with fail
      refine (WW.out _).mono ?_; rintro e we ⟨rfl, hbe⟩
      go_wp2_with fail
      go_ret
      exact ⟨rfl, HBA.out.trans (hbe.mono HBA.out.size)⟩
    · have hd3 : 3 < d := by omega
      clear hd
      go_enter Try.func3, Try.ntmps3
      go_wp2_with fail
      refine (HN.out _).mono ?_; rintro e w1 ⟨rfl, rfl⟩
      go_wp2_with fail
      refine (WW.out _).mono ?_; rintro e we ⟨rfl, hbe⟩
      go_wp2_with fail
      go_ret
      exact ⟨rfl, HBA.out.trans (hbe.mono HBA.out.size)⟩
  have hd1 : 0 ≤ d ∧ d ≤ 3 := by omega
  have HN := Lib.hid (fun w => new_yes d w hd1.1 hd1.2)
  have hd0 : ¬ d < 0 := by omega
  have hd3 : ¬ 3 < d := by omega
  have HL := Lib.hid (Nat.not_lt.1 hl); have HB := Lib.hid hB; have HWW := Lib.hid hW; have HTW := Lib.hid htW
  clear hl hB hd1 hd hW htW
  go_enter Try.func3, Try.ntmps3
  go_wp2_with fail
  refine (HN.out _).mono ?_; rintro e w1 ⟨rfl, hc1, hb1⟩
  have HC1 := Lib.hid (And.intro hc1 hb1); clear hc1 hb1
  go_wp2_with fail
  have hc1 := HC1.out.1
  rw [size_alloc] at hc1
  have e0 : playC d (l.take 0) = [] := by simp [playC]
  have hst : At w (w.heap.size + 1) w.heap.size w1.heap.size d t l 0 (w1.alloc (.cells #[.int .i64 d, .slice none 0 0] 31)) := by
    have hbb : Below w1.heap.size w1 (w1.alloc (.cells #[.int .i64 d, .slice none 0 0] 31)) := (Below.refl _ _).alloc (Nat.le_refl _) _
    have hb01 : Below w.heap.size w w1 := HBA.out.trans (HC1.out.2.mono HBA.out.size)
    unfold At
    rw [e0]
    exact ⟨none, 0, none, 0, Nat.le_refl _, hb01.trans (hbb.mono hb01.size), (hc1.lower (Nat.le_succ _)).below hbb, Row.made w1 _ _, ⟨Ps.nil, by simp, by simp, .inl ⟨rfl, rfl⟩⟩, (HX.out.below HC1.out.2).below hbb⟩
  have hgr : w.heap.size ≤ w1.heap.size := by have := HBA.out.size; have := HC1.out.2.size; omega
  obtain ⟨b1, hb1⟩ : ∃ b1, w.heap.size + 1 = b1 := ⟨_, rfl⟩
  obtain ⟨gr, hgr0⟩ : ∃ gr, w1.heap.size = gr := ⟨_, rfl⟩
  obtain ⟨w2, hw2⟩ : ∃ w2, w1.alloc (.cells #[.int .i64 d, .slice none 0 0] 31) = w2 := ⟨_, rfl⟩
  have H1 := Lib.hid (show At w b1 w.heap.size gr d t l 0 w2 by rw [← hb1, ← hgr0, ← hw2]; exact hst)
  have HGR := Lib.hid (show w.heap.size ≤ gr by rw [← hgr0]; exact hgr)
  rw [hb1, hgr0, hw2]
  clear hst hgr hb1 hgr0 hw2 hc1 e0 HC1 HN HBA HX hd0 hd3
  obtain ⟨ga, hga⟩ : ∃ ga, w.heap.size = ga := ⟨_, rfl⟩
  have H1 := Lib.hid (show At w b1 ga gr d t l 0 w2 by rw [← hga]; exact H1.out)
  rw [show (⟨w.heap.size, 0, none⟩ : Addr) = ⟨ga, 0, none⟩ by rw [hga]]
  clear hga
  go_loopw [9] (fun i wr => ∃ k : Nat, k ≤ l.length ∧ i = .int .i64 k ∧ At w b1 ga gr d t l k wr) (fun i _ => l.length - (intOf i).toNat)
  case atStart => exact ⟨0, by omega, rfl, H1.out⟩
  case round =>
    obtain ⟨k, hk, rfl, m, N, A, c, hN, hbw, hc, hr, hf, ht⟩ := hrel
    clear H1
    by_cases hlt : k < l.length
    · have hltz : (k : Int) < (l.length : Int) := by omega
      obtain ⟨⟨s, n⟩, hp⟩ : ∃ p, l[k]? = some p := ⟨_, List.getElem?_eq_getElem hlt⟩
      have hsW : s.W := HWW.out _ (List.mem_of_getElem? hp)
      obtain ⟨bb, oo, rfl, hbl, h6⟩ := HB.out.six hp
      obtain ⟨bb2, o2, e2, -, hld, hln⟩ := HB.out.loadT hp
      cases e2
      dsimp only at h6 hld hln
      have hnx : playC d (l.take (k + 1)) = putC d (playC d (l.take k)) s n := by
        rw [takeC_snoc hp, playC_snoc]
      have hlen := hc.len
      have hk60 : k ≤ 60 := by have := HL.out; omega
      obtain ⟨L, hL⟩ : ∃ L, playC d (l.take k) = L := ⟨_, rfl⟩
      rw [hL] at hc hr hf hnx hlen
      have HNX := Lib.hid hnx; have HLN := Lib.hid (show L.length ≤ 60 ∧ N ≤ 60 by omega); have HSW := Lib.hid hsW
      have H6 := Lib.hid h6; have HLD0 := Lib.hid hld; have HLN0 := Lib.hid hln; have HBL := Lib.hid hbl
      have kk := copy_any hc
      have KK := Lib.hid kk; have HC := Lib.hid hc; have HR := Lib.hid hr; have HF := Lib.hid hf; have HT := Lib.hid ht; have HBW := Lib.hid hbw; have HNK := Lib.hid hN
      clear hnx hlen hk60 hsW h6 hld hln hbl hp hL kk hc hr hf ht hbw hN
      go_wp2_with fail
      refine (KK.out).mono ?_; rintro e w3 ⟨⟨b2, m2, rfl, hc2⟩, hb3⟩
      have hpk : Pk w w3 b1 m N b2 m2 N gr ga d t A c L L L := by
        refine ⟨HBW.out.trans (hb3.mono HBW.out.size), HC.out.below hb3, hc2.lower HBW.out.size, ⟨?_, ?_⟩, HR.out.below hb3 HR.out.lt, HF.out.below hb3, HT.out.below hb3⟩
        · have h1 := HC.out.lt; have h2 := hc2.lo.1; omega
        · intro j hj e
          have h1 := HC.out.mlt hj; have h2 := hc2.lo.2 j e; omega
      have HP3 := Lib.hid hpk
      clear hpk hc2 hb3 KK HC HR HF HT HBW
      dsimp only
      go_wp2_with fail
      obtain ⟨w4, hw4⟩ : ∃ w4, w3.drewN 1 = w4 := ⟨_, rfl⟩
      have hpk : Pk w w4 b1 m N b2 m2 N gr ga d t A c L L L := by rw [← hw4]; exact HP3.out.below (below_drewN (Below.refl _ _) 1)
      obtain ⟨c0, c1, c2, c3, c4, c5⟩ := H6.out w4 hpk.bw
      have hset := add_any hpk.c1 (by have := HLN.out; unfold maxLen; omega) s n
      unfold St.val at hset
      have hblw : bb < w4.heap.size := by have := hpk.bw.size; have := HBL.out; omega
      have HSE := Lib.hid hset; have HP4 := Lib.hid hpk; have HP4K := Lib.hid (And.intro hpk.c1.ok (fun t => hpk.c1.nr (t := t))); clear hset hpk HP3
      refine wp_tail 11 (by kernel_rfl) (by kernel_rfl) ?_
      rw [hw4]
      simp only [List.take_succ_cons, List.take_zero, List.drop_succ_cons, List.drop_zero]
      repeat still_step
      refine wpStill_nil ?_
      go_wp2_with fail
      refine (HSE.out).mono ?_; rintro e w5 ⟨rfl, m', hct, htc, hm'⟩
      have HP5 := Lib.hid (HP4.out.add1 hct htc hm')
      clear hct htc hm' HSE HP4 hw4 c0 c1 c2 c3 c4 c5 hblw
      obtain ⟨r, hr⟩ : ∃ r, errC d L s n = r := ⟨_, rfl⟩
      rw [hr]
      go_wp2_with fail
      obtain ⟨K, hK⟩ : ∃ K, putC d L s n = K := ⟨_, rfl⟩
      rw [hK] at HNX HP5
      have hra : ∀ w', Below w5.heap.size w5 w' → Calls Try.prog 14 #[.agg #[.int .i64 d, .slice A L.length c], .agg #[.int .i64 s.d, .int .i64 s.e, .int .i64 s.x, .int .i64 s.y, .int .i64 s.z], .int .i64 n] w' (RAdded w' d K r) := fun w' hw => by
        have h1 := refAdd_any (HP5.out.rf.below hw) (by have := HLN.out; omega) HP4K.out.1 HP4K.out.2 s n (d := d)
        rw [hK, hr] at h1; exact h1
      have HRA := Lib.hid hra
      have HLR := Lib.hid (fun w' (hw : Below w5.heap.size w5 w') => load_rc HP5.out.row w' hw)
      have HLD := Lib.hid (fun w' (hw : Below w5.heap.size w5 w') => HLD0.out w' (HP5.out.bw.trans (hw.mono HP5.out.bw.size)))
      have HLN2 := Lib.hid (fun w' (hw : Below w5.heap.size w5 w') => HLN0.out w' (HP5.out.bw.trans (hw.mono HP5.out.bw.size)))
      clear hra hK hr
      refine Free.wp_key (by kernel_rfl) (by kernel_rfl) (fun b vs wq => Ep w5 d r K b vs wq) (V12 bb oo k gr cb n d r l L K s A c) (fun vs => ⟨(Below.refl _ _).drew, fun e => absurd e (by decide), fun e => absurd e (by decide), fun e => absurd e (by decide), fun e => absurd e (by decide), fun e => absurd e (by decide)⟩) ?_ ?_
      · intro i o hi b vs a wa hold hpre hbi hF
        match i with
        | 0 =>
          cases hi
          exact Free.c_all rfl (Free.g_load _ _ rfl ((hold 8 (by decide)).trans rfl) (HLR.out wa hF.1) ⟨rfl, hF.keep (Below.refl _ _) (by decide)⟩)
        | 1 =>
          cases hi
          exact Free.c_all rfl (Free.g_move _ rfl ⟨((hold 1 (by decide)).trans rfl), hF.keep (Below.refl _ _) (by decide)⟩)
        | 2 =>
          cases hi
          exact Free.c_all rfl (Free.g_move _ rfl ⟨((hold 9 (by decide)).trans rfl), hF.keep (Below.refl _ _) (by decide)⟩)
        | 3 =>
          cases hi
          have h1 : a.eval (.tmp 58) = .slice (some ⟨bb, oo, none⟩) l.length cb := (hpre 1 _ _ (by kernel_rfl) rfl rfl).2.2
          have h2 : a.eval (.tmp 59) = .int .i64 ((k : Nat) : Int) := (hpre 2 _ _ (by kernel_rfl) rfl rfl).2.2
          exact Free.c_all rfl (Free.g_indexAddr (v := .pointer (some ⟨bb, oo + k * 6, none⟩)) _ _ _ rfl h1 h2 (by go_simp) ⟨rfl, hF.keep (Below.refl _ _) (by decide)⟩)
        | 4 =>
          cases hi
          have h0 : a.eval (.tmp 60) = .pointer (some ⟨bb, oo + k * 6, none⟩) := (hpre 3 _ _ (by kernel_rfl) rfl rfl).2.2
          exact Free.c_all rfl (Free.g_field (v := .pointer (some ⟨bb, oo + k * 6, none⟩)) _ _ _ rfl h0 (by go_simp) ⟨rfl, hF.keep (Below.refl _ _) (by decide)⟩)
        | 5 =>
          cases hi
          have h0 : a.eval (.tmp 61) = .pointer (some ⟨bb, oo + k * 6, none⟩) := (hpre 4 _ _ (by kernel_rfl) rfl rfl).2.2
          exact Free.c_all rfl (Free.g_load _ _ rfl h0 (HLD.out wa hF.1) ⟨rfl, hF.keep (Below.refl _ _) (by decide)⟩)
        | 6 =>
          cases hi
          exact Free.c_all rfl (Free.g_move _ rfl ⟨((hold 1 (by decide)).trans rfl), hF.keep (Below.refl _ _) (by decide)⟩)
        | 7 =>
          cases hi
          exact Free.c_all rfl (Free.g_move _ rfl ⟨((hold 9 (by decide)).trans rfl), hF.keep (Below.refl _ _) (by decide)⟩)
        | 8 =>
          cases hi
          have h1 : a.eval (.tmp 63) = .slice (some ⟨bb, oo, none⟩) l.length cb := (hpre 6 _ _ (by kernel_rfl) rfl rfl).2.2
          have h2 : a.eval (.tmp 64) = .int .i64 ((k : Nat) : Int) := (hpre 7 _ _ (by kernel_rfl) rfl rfl).2.2
          exact Free.c_all rfl (Free.g_indexAddr (v := .pointer (some ⟨bb, oo + k * 6, none⟩)) _ _ _ rfl h1 h2 (by go_simp) ⟨rfl, hF.keep (Below.refl _ _) (by decide)⟩)
        | 9 =>
          cases hi
          have h0 : a.eval (.tmp 65) = .pointer (some ⟨bb, oo + k * 6, none⟩) := (hpre 8 _ _ (by kernel_rfl) rfl rfl).2.2
          exact Free.c_all rfl (Free.g_field (v := .pointer (some ⟨bb, oo + k * 6 + 5, none⟩)) _ _ _ rfl h0 (by go_simp) ⟨rfl, hF.keep (Below.refl _ _) (by decide)⟩)
        | 10 =>
          cases hi
          have h0 : a.eval (.tmp 66) = .pointer (some ⟨bb, oo + k * 6 + 5, none⟩) := (hpre 9 _ _ (by kernel_rfl) rfl rfl).2.2
          exact Free.c_all rfl (Free.g_load _ _ rfl h0 (HLN2.out wa hF.1) ⟨rfl, hF.keep (Below.refl _ _) (by decide)⟩)
        | 11 =>
          cases hi
          have h0 : a.eval (.tmp 57) = .agg #[.int .i64 d, .slice A L.length c] := (hpre 0 _ _ (by kernel_rfl) rfl rfl).2.2
          have h1 : a.eval (.tmp 62) = .agg #[.int .i64 s.d, .int .i64 s.e, .int .i64 s.x, .int .i64 s.y, .int .i64 s.z] := (hpre 5 _ _ (by kernel_rfl) rfl rfl).2.2
          have h2 : a.eval (.tmp 67) = .int .i64 n := (hpre 10 _ _ (by kernel_rfl) rfl rfl).2.2
          refine Free.c_all rfl (Free.g_call _ _ rfl Try.func14 (by kernel_rfl) rfl [.agg #[.int .i64 d, .slice A L.length c], .agg #[.int .i64 s.d, .int .i64 s.e, .int .i64 s.x, .int .i64 s.y, .int .i64 s.z], .int .i64 n] (by show [a.eval (.tmp 57), a.eval (.tmp 62), a.eval (.tmp 67)] = _; rw [h0, h1, h2]) ?_)
          exact (HRA.out wa hF.1).mono fun e w9 ⟨⟨A9, c9, he, hrf⟩, hb9⟩ => ⟨_, he, ⟨A9, c9, rfl⟩, hF.step hb9 (fun _ => ⟨A9, c9, rfl, hrf⟩) (fun e => absurd e (by decide)) (fun e => absurd e (by decide)) (by decide) (by decide)⟩
        | 12 =>
          cases hi
          obtain ⟨hb11, hv11, -⟩ := hpre 11 _ _ (by kernel_rfl) rfl  rfl
          obtain ⟨A9, c9, e9, hrf⟩ := hF.2.1 hb11
          rw [e9] at hv11
          exact Free.c_all rfl (Free.g_move _ rfl ⟨⟨A9, c9, hv11⟩, hF.step (Below.refl _ _) (fun e => absurd e (by decide)) (fun _ => ⟨A9, c9, hv11, hrf⟩) (fun e => absurd e (by decide)) (by decide) (by decide)⟩)
        | 13 =>
          cases hi
          obtain ⟨hb12, hv12, -⟩ := hpre 12 _ _ (by kernel_rfl) rfl  rfl
          obtain ⟨A9, c9, e9, hrf⟩ := hF.2.2.1 hb12
          rw [e9] at hv12
          exact Free.c_all rfl (Free.g_extract _ _ rfl hv12 (extract_0 _ _ wa) ⟨⟨A9, c9, rfl⟩, hF.step (Below.refl _ _) (fun e => absurd e (by decide)) (fun e => absurd e (by decide)) (fun _ => ⟨A9, c9, rfl, hrf⟩) (by decide) (by decide)⟩)
        | 14 =>
          cases hi
          obtain ⟨hb12, hv12, -⟩ := hpre 12 _ _ (by kernel_rfl) rfl  rfl
          obtain ⟨A9, c9, e9, hrf⟩ := hF.2.2.1 hb12
          rw [e9] at hv12
          exact Free.c_all rfl (Free.g_extract _ _ rfl hv12 (extract_1 _ _ wa) ⟨rfl, hF.keep (Below.refl _ _) (by decide)⟩)
        | 15 =>
          cases hi
          exact Free.c_all rfl (Free.g_alloc _ rfl (alloc_rc wa) ⟨trivial, hF.made hbi⟩)
        | 16 =>
          cases hi
          obtain ⟨hb15, hv15, -⟩ := hpre 15 _ _ (by kernel_rfl) rfl  rfl
          obtain ⟨hb13, hv13, -⟩ := hpre 13 _ _ (by kernel_rfl) rfl  rfl
          obtain ⟨A9, c9, e9, hrf⟩ := hF.2.2.2.1 hb13
          rw [e9] at hv13
          obtain ⟨g9, e15, -, -⟩ := hF.2.2.2.2.1 hb15
          rw [e15] at hv15
          obtain ⟨hrow, hst⟩ := hF.stored hb15 hbi e15 hrf
          exact Free.c_all rfl (Free.g_store _ _ _ rfl hv15 hv13 (store_rc wa g9 d A9 _ c9 hrow) ⟨trivial, hst⟩)
        | 17 =>
          cases hi
          have h0 : a.eval (.tmp 70) = .int .i64 r := (hpre 14 _ _ (by kernel_rfl) rfl rfl).2.2
          exact Free.c_all rfl (Free.g_assign _ rfl ⟨h0, hF.keep (Below.refl _ _) (by decide)⟩)
        | _ + 18 => cases hi
      · intro vs we hv hF
        have hlast : vs 17 = .int .i64 r := hv 17 (by simp) (by rintro o ⟨⟩; rfl)
        obtain ⟨g, hg, hge, hbx⟩ := hF.2.2.2.2.1 rfl
        obtain ⟨A2, c2, hrow, hrf⟩ : ∃ A c, Row we g 31 [.int .i64 d, .slice A K.length c] ∧ Rf we A c K := hbx
        have HP6 := Lib.hid (HP5.out.below hF.1); have H12 := Lib.hid (And.intro hrow (And.intro hrf hge))
        clear hv hF hrow hrf
        simp only [Free.puts, Nat.reduceAdd, hlast, hg]
        clear hg hlast
        generalize vs 0 = y0
        generalize vs 1 = y1
        generalize vs 2 = y2
        generalize vs 3 = y3
        generalize vs 4 = y4
        generalize vs 5 = y5
        generalize vs 6 = y6
        generalize vs 7 = y7
        generalize vs 8 = y8
        generalize vs 9 = y9
        generalize vs 10 = y10
        generalize vs 11 = y11
        generalize vs 12 = y12
        generalize vs 13 = y13
        generalize vs 14 = y14
        generalize vs 16 = y16
        go_simp
        obtain ⟨q, hq⟩ : ∃ q, cnt L s = q := ⟨_, rfl⟩
        have hk2 : ∀ w', Below we.heap.size we w' → Calls Try.prog 15 #[.pointer (some ⟨b2, 0, none⟩), .agg #[.int .i64 s.d, .int .i64 s.e, .int .i64 s.x, .int .i64 s.y, .int .i64 s.z]] w' fun e w'' => e = .returned (.int .i64 q) ∧ Below w'.heap.size w' w'' := fun w' hw => by
          have h1 := count_any (HP6.out.c2.below hw) s HSW.out
          rw [hq] at h1; exact h1
        have hk3 : ∀ w', Below we.heap.size we w' → Calls Try.prog 16 #[.agg #[.int .i64 d, .slice A L.length c], .agg #[.int .i64 s.d, .int .i64 s.e, .int .i64 s.x, .int .i64 s.y, .int .i64 s.z]] w' fun e w'' => e = .returned (.int .i64 q) ∧ Below w'.heap.size w' w'' := fun w' hw => by
          have h1 := refCount_any A L c d s w' (HP6.out.rf.below hw) (by have := HLN.out; have := HP6.out.c2.len; omega) HP6.out.c2.ok
          rw [hq] at h1; exact h1
        have HA1 := Lib.hid hk2; have HB1 := Lib.hid hk3; have HN1 := Lib.hid (show (q != q) = false by simp)
        clear hk2 hk3 hq
        have HLR6 := Lib.hid (fun w' (hw : Below we.heap.size we w') => load_rc HP6.out.row w' hw)
        have HLD6 := Lib.hid (fun w' (hw : Below we.heap.size we w') => HLD0.out w' (HP6.out.bw.trans (hw.mono HP6.out.bw.size)))
        have HNR := Lib.hid (show (r != r) = false by simp)
        go_wp2_with fail
        refine wp_region_below (by kernel_rfl) (by kernel_rfl) ?_
        refine wpQuiet_step (fun K hK => ?_); go_simp; (first | (with_reducible refine hK _ ?_) | (with_reducible refine ⟨_, fun _ _ => rfl, hK _ ?_⟩)); clear hK K
        refine wpQuiet_step (fun K hK => ?_); go_simp; (first | (with_reducible refine hK _ ?_) | (with_reducible refine ⟨_, fun _ _ => rfl, hK _ ?_⟩)); clear hK K
        refine wpQuiet_step (fun K hK => ?_); refine q_bin _ _ _ _ _ rfl rfl rfl rfl (nee_is HNR.out) ?_; go_simp; (with_reducible refine hK _ ?_); clear hK K
        refine wpQuiet_step (fun K hK => ?_); go_simp; (first | (with_reducible refine hK _ ?_) | (with_reducible refine ⟨_, fun _ _ => rfl, hK _ ?_⟩)); clear hK K
        refine wpQuiet_step (fun K hK => ?_); go_simp; (first | (with_reducible refine hK _ ?_) | (with_reducible refine ⟨_, fun _ _ => rfl, hK _ ?_⟩)); clear hK K
        refine wpQuiet_step (fun K hK => ?_); go_simp; (first | (with_reducible refine hK _ ?_) | (with_reducible refine ⟨_, fun _ _ => rfl, hK _ ?_⟩)); clear hK K
        refine wpQuiet_step (fun K hK => ?_); go_simp; (first | (with_reducible refine hK _ ?_) | (with_reducible refine ⟨_, fun _ _ => rfl, hK _ ?_⟩)); clear hK K
        refine wpQuiet_step (fun K hK => ?_); go_simp; (first | (with_reducible refine hK _ ?_) | (with_reducible refine ⟨_, fun _ _ => rfl, hK _ ?_⟩)); clear hK K
        refine wpQuiet_step (fun K hK => ?_); go_simp; (first | (with_reducible refine hK _ ?_) | (with_reducible refine ⟨_, fun _ _ => rfl, hK _ ?_⟩)); clear hK K
        refine wpQuiet_step (fun K hK => ?_); refine q_load (p := .pointer (some ⟨bb, oo + k * 6, none⟩)) 25 _ rfl rfl rfl (HLD6.out) ?_; go_simp; (with_reducible refine hK _ ?_); clear hK K
        refine wpQuiet_step (fun K hK => ?_); go_simp; (with_reducible refine ⟨_, fun wq hb => (HA1.out wq hb).mono fun _ _ h => ⟨h.1, hb.trans (h.2.mono (by simpa using hb.size))⟩, hK _ ?_⟩); clear hK K
        refine wpQuiet_step (fun K hK => ?_); refine q_load (p := .pointer (some ⟨gr, 0, none⟩)) 31 _ rfl rfl rfl (HLR6.out) ?_; go_simp; (with_reducible refine hK _ ?_); clear hK K
        refine wpQuiet_step (fun K hK => ?_); go_simp; (first | (with_reducible refine hK _ ?_) | (with_reducible refine ⟨_, fun _ _ => rfl, hK _ ?_⟩)); clear hK K
        refine wpQuiet_step (fun K hK => ?_); go_simp; (first | (with_reducible refine hK _ ?_) | (with_reducible refine ⟨_, fun _ _ => rfl, hK _ ?_⟩)); clear hK K
        refine wpQuiet_step (fun K hK => ?_); go_simp; (first | (with_reducible refine hK _ ?_) | (with_reducible refine ⟨_, fun _ _ => rfl, hK _ ?_⟩)); clear hK K
        refine wpQuiet_step (fun K hK => ?_); go_simp; (first | (with_reducible refine hK _ ?_) | (with_reducible refine ⟨_, fun _ _ => rfl, hK _ ?_⟩)); clear hK K
        refine wpQuiet_step (fun K hK => ?_); refine q_load (p := .pointer (some ⟨bb, oo + k * 6, none⟩)) 25 _ rfl rfl rfl (HLD6.out) ?_; go_simp; (with_reducible refine hK _ ?_); clear hK K
        refine wpQuiet_step (fun K hK => ?_); go_simp; (with_reducible refine ⟨_, fun wq hb => (HB1.out wq hb).mono fun _ _ h => ⟨h.1, hb.trans (h.2.mono (by simpa using hb.size))⟩, hK _ ?_⟩); clear hK K
        refine wpQuiet_step (fun K hK => ?_); refine q_bin _ _ _ _ _ rfl rfl rfl rfl (ne64_is HN1.out) ?_; go_simp; (with_reducible refine hK _ ?_); clear hK K
        refine wpQuiet_step (fun K hK => ?_); go_simp; (first | (with_reducible refine hK _ ?_) | (with_reducible refine ⟨_, fun _ _ => rfl, hK _ ?_⟩)); clear hK K
        refine wpQuiet_nil ?_
        intro w7 hb7
        have hp7 := HP6.out.below hb7
        have HRF2 := Lib.hid (H12.out.2.1.below hb7)
        have hr12 := H12.out.1.below hb7 H12.out.1.lt
        have g0 : w7.cell? ⟨g, 0, none⟩ = some (.int .i64 d) := hr12.cell 0
        have g1 : w7.cell? ⟨g, 1, none⟩ = some (.slice A2 K.length c2) := hr12.cell 1
        have r0 : w7.cell? ⟨gr, 0, none⟩ = some (.int .i64 d) := hp7.row.cell 0
        have r1 : w7.cell? ⟨gr, 1, none⟩ = some (.slice A L.length c) := hp7.row.cell 1
        have f0 : w7.frozen? ⟨gr, 0, none⟩ = false := hp7.row.free 0
        have f1 : w7.frozen? ⟨gr, 1, none⟩ = false := hp7.row.free 1
        have HP7 := Lib.hid hp7
        clear hp7 hr12 hb7 HP6 H12 HA1 HB1 HN1 HLR6 HLD6 HP5 HRA HLR HLD HLN2 HNR HP4K
        go_wp2_with fail
        obtain ⟨w8, hw8⟩ : ∃ w8, (w7.setCell ⟨gr, 0, none⟩ (.int .i64 d)).setCell ⟨gr, 1, none⟩ (.slice A2 K.length c2) = w8 := ⟨_, rfl⟩
        have HP8 := Lib.hid (show Pk w w8 b1 m' (N + 1) b2 m2 N gr ga d t A2 c2 K L K by rw [← hw8]; exact HP7.out.store HGR.out HRF2.out)
        rw [hw8]
        clear hw8 g0 g1 r0 r1 f0 f1 HP7 HRF2
        obtain ⟨q1, hq1⟩ : ∃ q, cnt K s = q := ⟨_, rfl⟩
        have hk2 : ∀ w', Below w8.heap.size w8 w' → Calls Try.prog 15 #[.pointer (some ⟨b1, 0, none⟩), .agg #[.int .i64 s.d, .int .i64 s.e, .int .i64 s.x, .int .i64 s.y, .int .i64 s.z]] w' fun e w'' => e = .returned (.int .i64 q1) ∧ Below w'.heap.size w' w'' := fun w' hw => by
          have h1 := count_any (HP8.out.c1.below hw) s HSW.out
          rw [hq1] at h1; exact h1
        have hk3 : ∀ w', Below w8.heap.size w8 w' → Calls Try.prog 16 #[.agg #[.int .i64 d, .slice A2 K.length c2], .agg #[.int .i64 s.d, .int .i64 s.e, .int .i64 s.x, .int .i64 s.y, .int .i64 s.z]] w' fun e w'' => e = .returned (.int .i64 q1) ∧ Below w'.heap.size w' w'' := fun w' hw => by
          have h1 := refCount_any A2 K c2 d s w' (HP8.out.rf.below hw) (by have := HLN.out; have := HP8.out.c1.len; omega) HP8.out.c1.ok
          rw [hq1] at h1; exact h1
        have HA1 := Lib.hid hk2; have HB1 := Lib.hid hk3; have HN1 := Lib.hid (show (q1 != q1) = false by simp)
        clear hk2 hk3 hq1
        obtain ⟨q2, hq2⟩ : ∃ q, cnt K t = q := ⟨_, rfl⟩
        have hk2 : ∀ w', Below w8.heap.size w8 w' → Calls Try.prog 15 #[.pointer (some ⟨b1, 0, none⟩), .agg #[.int .i64 t.d, .int .i64 t.e, .int .i64 t.x, .int .i64 t.y, .int .i64 t.z]] w' fun e w'' => e = .returned (.int .i64 q2) ∧ Below w'.heap.size w' w'' := fun w' hw => by
          have h1 := count_any (HP8.out.c1.below hw) t HTW.out
          rw [hq2] at h1; exact h1
        have hk3 : ∀ w', Below w8.heap.size w8 w' → Calls Try.prog 16 #[.agg #[.int .i64 d, .slice A2 K.length c2], .agg #[.int .i64 t.d, .int .i64 t.e, .int .i64 t.x, .int .i64 t.y, .int .i64 t.z]] w' fun e w'' => e = .returned (.int .i64 q2) ∧ Below w'.heap.size w' w'' := fun w' hw => by
          have h1 := refCount_any A2 K c2 d t w' (HP8.out.rf.below hw) (by have := HLN.out; have := HP8.out.c1.len; omega) HP8.out.c1.ok
          rw [hq2] at h1; exact h1
        have HA2 := Lib.hid hk2; have HB2 := Lib.hid hk3; have HN2 := Lib.hid (show (q2 != q2) = false by simp)
        clear hk2 hk3 hq2
        have HLR8 := Lib.hid (fun w' (hw : Below w8.heap.size w8 w') => load_rc HP8.out.row w' hw)
        have HLD8 := Lib.hid (fun w' (hw : Below w8.heap.size w8 w') => HLD0.out w' (HP8.out.bw.trans (hw.mono HP8.out.bw.size)))
        have HLT8 := Lib.hid (load_t HP8.out.tt)
        refine wp_region_below (by kernel_rfl) (by kernel_rfl) ?_
        refine wpQuiet_step (fun K hK => ?_); go_simp; (first | (with_reducible refine hK _ ?_) | (with_reducible refine ⟨_, fun _ _ => rfl, hK _ ?_⟩)); clear hK K
        refine wpQuiet_step (fun K hK => ?_); go_simp; (first | (with_reducible refine hK _ ?_) | (with_reducible refine ⟨_, fun _ _ => rfl, hK _ ?_⟩)); clear hK K
        refine wpQuiet_step (fun K hK => ?_); go_simp; (first | (with_reducible refine hK _ ?_) | (with_reducible refine ⟨_, fun _ _ => rfl, hK _ ?_⟩)); clear hK K
        refine wpQuiet_step (fun K hK => ?_); go_simp; (first | (with_reducible refine hK _ ?_) | (with_reducible refine ⟨_, fun _ _ => rfl, hK _ ?_⟩)); clear hK K
        refine wpQuiet_step (fun K hK => ?_); go_simp; (first | (with_reducible refine hK _ ?_) | (with_reducible refine ⟨_, fun _ _ => rfl, hK _ ?_⟩)); clear hK K
        refine wpQuiet_step (fun K hK => ?_); refine q_load (p := .pointer (some ⟨bb, oo + k * 6, none⟩)) 25 _ rfl rfl rfl (HLD8.out) ?_; go_simp; (with_reducible refine hK _ ?_); clear hK K
        refine wpQuiet_step (fun K hK => ?_); go_simp; (with_reducible refine ⟨_, fun wq hb => (HA1.out wq hb).mono fun _ _ h => ⟨h.1, hb.trans (h.2.mono (by simpa using hb.size))⟩, hK _ ?_⟩); clear hK K
        refine wpQuiet_step (fun K hK => ?_); refine q_load (p := .pointer (some ⟨gr, 0, none⟩)) 31 _ rfl rfl rfl (HLR8.out) ?_; go_simp; (with_reducible refine hK _ ?_); clear hK K
        refine wpQuiet_step (fun K hK => ?_); go_simp; (first | (with_reducible refine hK _ ?_) | (with_reducible refine ⟨_, fun _ _ => rfl, hK _ ?_⟩)); clear hK K
        refine wpQuiet_step (fun K hK => ?_); go_simp; (first | (with_reducible refine hK _ ?_) | (with_reducible refine ⟨_, fun _ _ => rfl, hK _ ?_⟩)); clear hK K
        refine wpQuiet_step (fun K hK => ?_); go_simp; (first | (with_reducible refine hK _ ?_) | (with_reducible refine ⟨_, fun _ _ => rfl, hK _ ?_⟩)); clear hK K
        refine wpQuiet_step (fun K hK => ?_); go_simp; (first | (with_reducible refine hK _ ?_) | (with_reducible refine ⟨_, fun _ _ => rfl, hK _ ?_⟩)); clear hK K
        refine wpQuiet_step (fun K hK => ?_); refine q_load (p := .pointer (some ⟨bb, oo + k * 6, none⟩)) 25 _ rfl rfl rfl (HLD8.out) ?_; go_simp; (with_reducible refine hK _ ?_); clear hK K
        refine wpQuiet_step (fun K hK => ?_); go_simp; (with_reducible refine ⟨_, fun wq hb => (HB1.out wq hb).mono fun _ _ h => ⟨h.1, hb.trans (h.2.mono (by simpa using hb.size))⟩, hK _ ?_⟩); clear hK K
        refine wpQuiet_step (fun K hK => ?_); refine q_bin _ _ _ _ _ rfl rfl rfl rfl (ne64_is HN1.out) ?_; go_simp; (with_reducible refine hK _ ?_); clear hK K
        refine wpQuiet_step (fun K hK => ?_); go_simp; (first | (with_reducible refine hK _ ?_) | (with_reducible refine ⟨_, fun _ _ => rfl, hK _ ?_⟩)); clear hK K
        refine wpQuiet_step (fun K hK => ?_); go_simp; (first | (with_reducible refine hK _ ?_) | (with_reducible refine ⟨_, fun _ _ => rfl, hK _ ?_⟩)); clear hK K
        refine wpQuiet_step (fun K hK => ?_); refine q_load (p := .pointer (some ⟨ga, 0, none⟩)) 25 _ rfl rfl rfl (HLT8.out) ?_; go_simp; (with_reducible refine hK _ ?_); clear hK K
        refine wpQuiet_step (fun K hK => ?_); go_simp; (with_reducible refine ⟨_, fun wq hb => (HA2.out wq hb).mono fun _ _ h => ⟨h.1, hb.trans (h.2.mono (by simpa using hb.size))⟩, hK _ ?_⟩); clear hK K
        refine wpQuiet_step (fun K hK => ?_); refine q_load (p := .pointer (some ⟨gr, 0, none⟩)) 31 _ rfl rfl rfl (HLR8.out) ?_; go_simp; (with_reducible refine hK _ ?_); clear hK K
        refine wpQuiet_step (fun K hK => ?_); refine q_load (p := .pointer (some ⟨ga, 0, none⟩)) 25 _ rfl rfl rfl (HLT8.out) ?_; go_simp; (with_reducible refine hK _ ?_); clear hK K
        refine wpQuiet_step (fun K hK => ?_); go_simp; (with_reducible refine ⟨_, fun wq hb => (HB2.out wq hb).mono fun _ _ h => ⟨h.1, hb.trans (h.2.mono (by simpa using hb.size))⟩, hK _ ?_⟩); clear hK K
        refine wpQuiet_step (fun K hK => ?_); refine q_bin _ _ _ _ _ rfl rfl rfl rfl (ne64_is HN2.out) ?_; go_simp; (with_reducible refine hK _ ?_); clear hK K
        refine wpQuiet_step (fun K hK => ?_); go_simp; (first | (with_reducible refine hK _ ?_) | (with_reducible refine ⟨_, fun _ _ => rfl, hK _ ?_⟩)); clear hK K
        refine wpQuiet_nil ?_
        intro w9 hb9
        have hp9 := HP8.out.below hb9
        have HP9 := Lib.hid hp9
        clear hb9 HP8 HA1 HB1 HN1 HA2 HB2 HN2 HLR8 HLD8 HLT8
        have HKL := Lib.hid (show K.length ≤ 61 by have := hp9.c1.len; have := HLN.out; omega)
        have kk := times_any hp9.c1 (by have := HKL.out; omega)
        have KK := Lib.hid kk; clear kk hp9
        go_wp2_with fail
        refine (KK.out).mono ?_; rintro e w10 ⟨⟨v, rfl, hv⟩, hb10⟩
        have hp10 := HP9.out.below hb10
        have kk := frontier_any hp10.c1 (by have := HKL.out; omega)
        have HV := Lib.hid hv; have HB10 := Lib.hid hb10; have HP10 := Lib.hid hp10
        clear KK hv hb10 hp10
        have KK := Lib.hid kk; clear kk
        go_wp2_with fail
        refine (KK.out).mono ?_; rintro e w11 ⟨⟨v2, rfl, hv2⟩, hb11⟩
        have hv := own_kept HV.out hb11
        obtain ⟨X, hX⟩ : ∃ X, timesC K = X := ⟨_, rfl⟩
        obtain ⟨Y, hY⟩ : ∃ Y, frC K = Y := ⟨_, rfl⟩
        rw [hX] at hv
        rw [hY] at hv2
        have hx61 : X.length ≤ 61 := by rw [← hX, timesC_len]; exact HKL.out
        have hy61 : Y.length ≤ 61 := by rw [← hY]; exact Nat.le_trans (frC_len _) HKL.out
        obtain ⟨A5, c5, rfl, hs5⟩ := Slc.of_own hv
        obtain ⟨A6, c6, rfl, hs6⟩ := Slc.of_own hv2
        obtain ⟨gx, hgx⟩ := antichainOf.own_wr0 (fun hn => antichainOf.own_wr hv hn)
        have hp11 := HP10.out.below hb11
        have kk := refTimes_any A2 K c2 d w11 hp11.rf (by have := HKL.out; omega)
        rw [hX] at kk
        have hr8 := hp11.row
        have r0 : w11.cell? ⟨gr, 0, none⟩ = some (.int .i64 d) := hr8.cell 0
        have r1 : w11.cell? ⟨gr, 1, none⟩ = some (.slice A2 K.length c2) := hr8.cell 1
        clear hr8
        have KK9 := Lib.hid kk; have HX := Lib.hid hX; have HY := Lib.hid hY; have HXL := Lib.hid (And.intro hx61 hy61); have HS5 := Lib.hid hs5; have HS6 := Lib.hid hs6; have HGX := Lib.hid hgx; have HP11 := Lib.hid hp11
        have HB11 := Lib.hid (HB10.out.trans (hb11.mono HB10.out.size))
        clear kk KK hv hv2 hX hY hx61 hy61 hs5 hs6 hgx hb11 hp11 HV HB10 HP10
        dsimp only
        go_wp2_with fail
        refine (KK9.out).mono ?_; rintro e w12 ⟨⟨v3, rfl, hv3⟩, hb12⟩
        obtain ⟨A7, c7, rfl, hs7⟩ := Slc.of_own hv3
        have HSA := Lib.hid (refSameW (HS5.out.below hb12) hs7 (by have := HXL.out; omega) (by have := HXL.out; omega) (decide_eq_true rfl))
        have HB12 := Lib.hid hb12; have HP12 := Lib.hid (HP11.out.below hb12); have HS6b := Lib.hid (HS6.out.below hb12)
        clear hb12 hs7 hv3 KK9 HP11 HS6 r0 r1
        dsimp only
        go_wp2_with fail
        refine (HSA.out _ (Below.refl _ _)).mono ?_; rintro e w13 ⟨rfl, hb13⟩
        have hp13 := HP12.out.below hb13
        have kk := refFrontier_any A2 K c2 d w13 hp13.rf (by have := HKL.out; omega) hp13.c1.even
        rw [HY.out] at kk
        have hr8 := hp13.row
        have r0 : w13.cell? ⟨gr, 0, none⟩ = some (.int .i64 d) := hr8.cell 0
        have r1 : w13.cell? ⟨gr, 1, none⟩ = some (.slice A2 K.length c2) := hr8.cell 1
        clear hr8
        have KK9 := Lib.hid kk; have HP13 := Lib.hid hp13; have HS6c := Lib.hid (HS6b.out.below hb13); have HB13 := Lib.hid (HB12.out.trans (hb13.mono HB12.out.size))
        clear kk hp13 hb13 HSA HP12 HS6b HB12
        go_wp2_with fail
        refine (KK9.out).mono ?_; rintro e w14 ⟨⟨A8, c8, rfl, hs8⟩, hb14⟩
        have HSA := Lib.hid (refSameW (HS6c.out.below hb14) hs8 (by have := HXL.out; omega) (by have := HXL.out; omega) (decide_eq_true rfl))
        have HB14 := Lib.hid (HB13.out.trans (hb14.mono HB13.out.size))
        clear hb14 hs8 KK9 HP13 HB13 HS6c r0 r1
        dsimp only
        go_wp2_with fail
        refine (HSA.out _ (Below.refl _ _)).mono ?_; rintro e w15 ⟨rfl, hb15⟩
        have HB15 := Lib.hid (HB14.out.trans (hb15.mono HB14.out.size))
        have hst : Below w9.heap.size w9 w15 ∧ (0 < X.length → antichainOf.Wr w15 gx X.length) := ⟨HB11.out.trans (HB15.out.mono HB11.out.size), fun hn => (HGX.out hn).2.2.below HB15.out⟩
        have HST := Lib.hid hst
        have HGX2 := Lib.hid (fun hn => And.intro (HGX.out hn).1 (HGX.out hn).2.1)
        clear hst hb15 HSA HB14 HB15 HGX HB11 HS5
        go_wp2_with fail
        go_loopw [16] (fun i wq => ∃ q : Nat, q ≤ X.length ∧ i = .int .i64 q ∧ Below w9.heap.size w9 wq ∧ (0 < X.length → antichainOf.Wr wq gx X.length)) (fun i _ => X.length - (intOf i).toNat)
        case atStart => exact ⟨0, by omega, rfl, HST.out.1, HST.out.2⟩
        case round =>
          obtain ⟨q, hq, rfl, hbq, hwq⟩ := hrel
          clear HST
          by_cases hlq : q < X.length
          · have hlqz : (q : Int) < (X.length : Int) := by omega
            have hxl := HXL.out.1
            obtain ⟨hA5, hge⟩ := HGX2.out (by omega)
            have hwr := hwq (by omega)
            subst hA5
            obtain ⟨x, hx⟩ := hwr.cell hlq
            have hfr := hwr.free (q * 5 + 1)
            have hgl := hwr.lt
            have HSTEP := Lib.hid (show Below w9.heap.size w9 (wr.setCell ⟨gx, q * 5 + 1, none⟩ (.int .i64 (-9))) ∧ antichainOf.Wr (wr.setCell ⟨gx, q * 5 + 1, none⟩ (.int .i64 (-9))) gx X.length from ⟨hbq.setCell hge _, hwr.put _ _⟩)
            clear hwr hge hwq hbq
            go_wp2_with fail
            go_roundw
            case rel => exact ⟨q + 1, by omega, by simp, by first | exact HSTEP.out.1 | simpa using HSTEP.out.1, fun _ => by first | exact HSTEP.out.2 | simpa using HSTEP.out.2⟩
            case measure => simp only [intOf]; omega
          · have hlqz : ¬ (q : Int) < (X.length : Int) := by omega
            have hp16 := HP9.out.below hbq
            have hset := add_any hp16.c2 (by have := HLN.out; unfold maxLen; omega) t 5
            unfold St.val at hset
            obtain ⟨c40, c41, c42, c43, c44⟩ := hp16.tt.cells5
            have HSE := Lib.hid hset; have HP16 := Lib.hid hp16; clear hset hp16 hwq hbq HP9 HGX2
            go_wp2_with fail
            refine (HSE.out).mono ?_; rintro e w17 ⟨rfl, m3, hct, htc, hm3⟩
            have HP17 := Lib.hid (HP16.out.add2 hct htc hm3)
            clear hct htc hm3 HSE HP16 c40 c41 c42 c43 c44
            obtain ⟨q3, hq3⟩ : ∃ q, cnt K t = q := ⟨_, rfl⟩
            have hk2 : ∀ w', Below w17.heap.size w17 w' → Calls Try.prog 15 #[.pointer (some ⟨b1, 0, none⟩), .agg #[.int .i64 t.d, .int .i64 t.e, .int .i64 t.x, .int .i64 t.y, .int .i64 t.z]] w' fun e w'' => e = .returned (.int .i64 q3) ∧ Below w'.heap.size w' w'' := fun w' hw => by
              have h1 := count_any (HP17.out.c1.below hw) t HTW.out
              rw [hq3] at h1; exact h1
            have hk3 : ∀ w', Below w17.heap.size w17 w' → Calls Try.prog 16 #[.agg #[.int .i64 d, .slice A2 K.length c2], .agg #[.int .i64 t.d, .int .i64 t.e, .int .i64 t.x, .int .i64 t.y, .int .i64 t.z]] w' fun e w'' => e = .returned (.int .i64 q3) ∧ Below w'.heap.size w' w'' := fun w' hw => by
              have h1 := refCount_any A2 K c2 d t w' (HP17.out.rf.below hw) (by have := HLN.out; have := HP17.out.c1.len; omega) HP17.out.c1.ok
              rw [hq3] at h1; exact h1
            have HA3 := Lib.hid hk2; have HB3 := Lib.hid hk3; have HN3 := Lib.hid (show (q3 != q3) = false by simp)
            clear hk2 hk3 hq3
            have HLR17 := Lib.hid (fun w' (hw : Below w17.heap.size w17 w') => load_rc HP17.out.row w' hw)
            have HLD17 := Lib.hid (fun w' (hw : Below w17.heap.size w17 w') => HLD0.out w' (HP17.out.bw.trans (hw.mono HP17.out.bw.size)))
            have HLT17 := Lib.hid (load_t HP17.out.tt)
            have htm : ∀ w', Below w17.heap.size w17 w' → Calls Try.prog 17 #[.pointer (some ⟨b1, 0, none⟩)] w' (Gives1 w' X) := fun w' hw => by
              have h1 := times_any (HP17.out.c1.below hw) (by have := HKL.out; omega)
              rw [HX.out] at h1; exact h1
            have hrm : ∀ w', Below w17.heap.size w17 w' → Calls Try.prog 20 #[.agg #[.int .i64 d, .slice A2 K.length c2]] w' (Gives1 w' X) := fun w' hw => by
              have h1 := refTimes_any A2 K c2 d w' (HP17.out.rf.below hw) (by have := HKL.out; omega)
              rw [HX.out] at h1; exact h1
            have HTM := Lib.hid htm; have HRM := Lib.hid hrm; clear htm hrm
            go_wp2_with fail
            refine Free.wp_key (by kernel_rfl) (by kernel_rfl) (fun b vs wq => Et w17 X b vs wq) (V26 b1 ga gr d q3 K X t A2 c2) (fun vs => ⟨(Below.refl _ _).drew, fun e => absurd e (by decide), fun e => absurd e (by decide)⟩) ?_ ?_
            · intro i o hi b vs a wa hold hpre hbi hF
              match i with
              | 0 =>
                cases hi
                exact Free.c_all rfl (Free.g_move _ rfl ⟨((hold 7 (by decide)).trans rfl), hF.keep (Below.refl _ _) (by decide)⟩)
              | 1 =>
                cases hi
                exact Free.c_all rfl (Free.g_load _ _ rfl ((hold 5 (by decide)).trans rfl) (HLT17.out wa hF.1) ⟨rfl, hF.keep (Below.refl _ _) (by decide)⟩)
              | 2 =>
                cases hi
                have h0 : a.eval (.tmp 145) = .pointer (some ⟨b1, 0, none⟩) := (hpre 0 _ _ (by kernel_rfl) rfl rfl).2.2
                have h1 : a.eval (.tmp 146) = .agg #[.int .i64 t.d, .int .i64 t.e, .int .i64 t.x, .int .i64 t.y, .int .i64 t.z] := (hpre 1 _ _ (by kernel_rfl) rfl rfl).2.2
                refine Free.c_all rfl (Free.g_call _ _ rfl Try.func15 (by kernel_rfl) rfl [.pointer (some ⟨b1, 0, none⟩), .agg #[.int .i64 t.d, .int .i64 t.e, .int .i64 t.x, .int .i64 t.y, .int .i64 t.z]] (by show [a.eval (.tmp 145), a.eval (.tmp 146)] = _; rw [h0, h1]) ?_)
                exact (HA3.out wa hF.1).mono fun e w2 ⟨he, hb2⟩ => ⟨_, he, rfl, hF.keep hb2 (by decide)⟩
              | 3 =>
                cases hi
                exact Free.c_all rfl (Free.g_load _ _ rfl ((hold 8 (by decide)).trans rfl) (HLR17.out wa hF.1) ⟨rfl, hF.keep (Below.refl _ _) (by decide)⟩)
              | 4 =>
                cases hi
                exact Free.c_all rfl (Free.g_load _ _ rfl ((hold 5 (by decide)).trans rfl) (HLT17.out wa hF.1) ⟨rfl, hF.keep (Below.refl _ _) (by decide)⟩)
              | 5 =>
                cases hi
                have h0 : a.eval (.tmp 148) = .agg #[.int .i64 d, .slice A2 K.length c2] := (hpre 3 _ _ (by kernel_rfl) rfl rfl).2.2
                have h1 : a.eval (.tmp 149) = .agg #[.int .i64 t.d, .int .i64 t.e, .int .i64 t.x, .int .i64 t.y, .int .i64 t.z] := (hpre 4 _ _ (by kernel_rfl) rfl rfl).2.2
                refine Free.c_all rfl (Free.g_call _ _ rfl Try.func16 (by kernel_rfl) rfl [.agg #[.int .i64 d, .slice A2 K.length c2], .agg #[.int .i64 t.d, .int .i64 t.e, .int .i64 t.x, .int .i64 t.y, .int .i64 t.z]] (by show [a.eval (.tmp 148), a.eval (.tmp 149)] = _; rw [h0, h1]) ?_)
                exact (HB3.out wa hF.1).mono fun e w2 ⟨he, hb2⟩ => ⟨_, he, rfl, hF.keep hb2 (by decide)⟩
              | 6 =>
                cases hi
                have h2 : a.eval (.tmp 147) = .int .i64 q3 := (hpre 2 _ _ (by kernel_rfl) rfl rfl).2.2
                have h3 : a.eval (.tmp 150) = .int .i64 q3 := (hpre 5 _ _ (by kernel_rfl) rfl rfl).2.2
                exact Free.c_all rfl (Free.g_bin _ _ _ _ _ rfl h2 h3 (ne64_is HN3.out wa) ⟨rfl, hF.keep (Below.refl _ _) (by decide)⟩)
              | 7 =>
                cases hi
                have h0 : a.eval (.tmp 151) = .bool false := (hpre 6 _ _ (by kernel_rfl) rfl rfl).2.2
                exact Free.c_all rfl (Free.g_move _ rfl ⟨h0, hF.keep (Below.refl _ _) (by decide)⟩)
              | 8 =>
                cases hi
                have hg : a.eval (.tmp 152) = .bool false := (hpre 7 _ _ (by kernel_rfl) rfl rfl).2.2
                exact Free.c_yes rfl rfl rfl hg (Free.g_move _ rfl ⟨((hold 7 (by decide)).trans rfl), hF.keep (Below.refl _ _) (by decide)⟩)
              | 9 =>
                cases hi
                have hg : a.eval (.tmp 152) = .bool false := (hpre 7 _ _ (by kernel_rfl) rfl rfl).2.2
                have h0 : a.eval (.tmp 153) = .pointer (some ⟨b1, 0, none⟩) := (hpre 8 _ _ (by kernel_rfl) rfl rfl).2.2
                refine Free.c_yes rfl rfl rfl hg (Free.g_call _ _ rfl Try.func17 (by kernel_rfl) rfl [.pointer (some ⟨b1, 0, none⟩)] (by show [a.eval (.tmp 153)] = _; rw [h0]) ?_)
                exact (HTM.out wa hF.1).mono fun e w9 ⟨⟨v9, he, hv9⟩, hb9⟩ => by obtain ⟨A9, c9, rfl, hs9⟩ := Slc.of_own hv9; exact ⟨_, he, ⟨A9, c9, rfl⟩, hF.step hb9 (fun _ => ⟨A9, c9, rfl, hs9⟩) (fun e => absurd e (by decide))⟩
              | 10 =>
                cases hi
                have hg : a.eval (.tmp 152) = .bool false := (hpre 7 _ _ (by kernel_rfl) rfl rfl).2.2
                exact Free.c_yes rfl rfl rfl hg (Free.g_load _ _ rfl ((hold 8 (by decide)).trans rfl) (HLR17.out wa hF.1) ⟨rfl, hF.keep (Below.refl _ _) (by decide)⟩)
              | 11 =>
                cases hi
                have hg : a.eval (.tmp 152) = .bool false := (hpre 7 _ _ (by kernel_rfl) rfl rfl).2.2
                have h0 : a.eval (.tmp 155) = .agg #[.int .i64 d, .slice A2 K.length c2] := (hpre 10 _ _ (by kernel_rfl) rfl rfl).2.2
                refine Free.c_yes rfl rfl rfl hg (Free.g_call _ _ rfl Try.func20 (by kernel_rfl) rfl [.agg #[.int .i64 d, .slice A2 K.length c2]] (by show [a.eval (.tmp 155)] = _; rw [h0]) ?_)
                exact (HRM.out wa hF.1).mono fun e w9 ⟨⟨v9, he, hv9⟩, hb9⟩ => by obtain ⟨A9, c9, rfl, hs9⟩ := Slc.of_own hv9; exact ⟨_, he, ⟨A9, c9, rfl⟩, hF.step hb9 (fun e => absurd e (by decide)) (fun _ => ⟨A9, c9, rfl, hs9⟩)⟩
              | 12 =>
                cases hi
                have hg : a.eval (.tmp 152) = .bool false := (hpre 7 _ _ (by kernel_rfl) rfl rfl).2.2
                obtain ⟨hb9, hv9, -⟩ := hpre 9 _ _ (by kernel_rfl) rfl  rfl
                obtain ⟨hb11, hv11, -⟩ := hpre 11 _ _ (by kernel_rfl) rfl  rfl
                obtain ⟨A9, c9, e9, hs9⟩ := hF.2.1 hb9
                obtain ⟨A8, c8, e8, hs8⟩ := hF.2.2 hb11
                rw [e9] at hv9
                rw [e8] at hv11
                refine Free.c_yes rfl rfl rfl hg (Free.g_call _ _ rfl Try.func19 (by kernel_rfl) rfl [.slice A9 X.length c9, .slice A8 X.length c8] (by show [a.eval (.tmp 154), a.eval (.tmp 156)] = _; rw [hv9, hv11]) ?_)
                exact (refSameW hs9 hs8 (by have := HXL.out; omega) (by have := HXL.out; omega) (decide_eq_true rfl) _ (Below.refl _ _)).mono fun e w2 ⟨he, hb2⟩ => ⟨_, he, rfl, hF.keep hb2 (by decide)⟩
              | 13 =>
                cases hi
                have hg : a.eval (.tmp 152) = .bool false := (hpre 7 _ _ (by kernel_rfl) rfl rfl).2.2
                have h0 : a.eval (.tmp 157) = .bool true := (hpre 12 _ _ (by kernel_rfl) rfl rfl).2.2
                exact Free.c_yes rfl rfl rfl hg (g_not _ _ rfl h0 ⟨rfl, hF.keep (Below.refl _ _) (by decide)⟩)
              | 14 =>
                cases hi
                have h1 : a.eval (.tmp 152) = .bool false := (hpre 7 _ _ (by kernel_rfl) rfl rfl).2.2
                have h3 : a.eval (.tmp 158) = .bool false := (hpre 13 _ _ (by kernel_rfl) rfl rfl).2.2
                exact Free.c_all rfl (Free.g_pick _ _ _ rfl h1 rfl h3 ⟨rfl, hF.keep (Below.refl _ _) (by decide)⟩)
              | _ + 15 => cases hi
            · intro vs we hv hF
              have hlast : vs 14 = .bool false := hv 14 (by simp) (by rintro o ⟨⟩; rfl)
              have HP18 := Lib.hid (HP17.out.below hF.1)
              clear hv hF
              simp only [Free.puts, Nat.reduceAdd, hlast]
              clear hlast
              generalize vs 0 = y0
              generalize vs 1 = y1
              generalize vs 2 = y2
              generalize vs 3 = y3
              generalize vs 4 = y4
              generalize vs 5 = y5
              generalize vs 6 = y6
              generalize vs 7 = y7
              generalize vs 8 = y8
              generalize vs 9 = y9
              generalize vs 10 = y10
              generalize vs 11 = y11
              generalize vs 12 = y12
              generalize vs 13 = y13
              have hln := HL.out
              go_simp
              go_wp2_with fail
              go_roundw
              case rel =>
                refine ⟨k + 1, by omega, by simp, ?_⟩
                unfold At
                rw [HNX.out]
                exact ⟨_, N + 1, A2, c2, by have := HNK.out; omega, HP18.out.bw, HP18.out.c1, HP18.out.row, HP18.out.rf, HP18.out.tt⟩
              case measure => simp only [intOf]; omega
    · have hltz : ¬ (k : Int) < (l.length : Int) := by omega
      have HBW := Lib.hid hbw; clear hc hr hf ht hbw
      go_wp2_with fail
      refine (WW.out _).mono ?_; rintro e we ⟨rfl, hbe⟩
      go_wp2_with fail
      go_ret
      exact ⟨rfl, HBW.out.trans (hbe.mono HBW.out.size)⟩

set_option maxRecDepth 100000 in
theorem lifted (os : Os) (started : os.Started) (H : Type) (enc : TypeId × Value → H) :
    ReturnsInHanded {} Try.checked os 3 .any (Rows.countsPlaysSpec.pre6 enc Try.prog Try.f3 Rows.countsPlaysRow.domain false) (Rows.countsPlaysSpec.post enc Try.prog Try.f3 false true false false) := by
  refine returnsInHanded_of_change_sized (C := Try.checked) ownKnob_none started (by kernel_rfl) Try.func3
    (ChangeSpec.witness6 (enc := enc) (C := Try.checked) false ⟨#[], #[.int .i64 0, .slice none 0 0, .agg #[.int .i64 0, .int .i64 0, .int .i64 0, .int .i64 0, .int .i64 0]], []⟩ 8 (by kernel_rfl) (by kernel_rfl) (by kernel_rfl) (by kernel_rfl)) ?_
  intro W base args ds gs before hval0 hW hcnd hsz0 _
  have hval : ∀ (j : Nat) t v, Try.f3.params[j]? = some t → args[j]? = some v → Value.okWide Try.prog W .any base t v := hval0
  have hW' := hW
  obtain ⟨p, q, hA0, hV, rfl, hfz, hnd⟩ := hW
  have hA : DataW.TrodAll enc Try.prog W 0 (fun _ => true) true Try.f3.params.toList args.toList ds p := hA0
  have hsz : (DataW.weightsEach Try.prog (Try.f3.params.toList ++ Rows.countsPlaysSpec.plain.varTypes Try.prog) (ds ++ gs)).all (· ≤ reachBytes) = true := hsz0
  rw [Try.params3] at hA hval hsz
  obtain ⟨v0, vs0, d0, ds0, p0, q0, hargs, rfl, rfl, h0, r0⟩ := trodAll_cons hA
  obtain ⟨v1, vs1, d1, ds1, p1, q1, rfl, rfl, rfl, h1, r1⟩ := trodAll_cons r0
  obtain ⟨v2, vs2, d2, ds2, p2, q2, rfl, rfl, rfl, h2, r2⟩ := trodAll_cons r1
  obtain ⟨rfl, rfl, rfl⟩ := trodAll_nil r2
  obtain rfl : args = #[v0, v1, v2] := by cases args; simp_all
  obtain ⟨rfl, rfl⟩ := trodVars_none hV
  obtain ⟨a0, rfl, rfl, rfl, w0⟩ := open_int Try.underlying3 (hval 0 3 v0 rfl rfl) h0
  have b0 := i64_wf w0
  obtain ⟨A1, l1, c1, rfl, hP1, hW1, hc1, hm1⟩ := open_steps (hval 1 22 v1 rfl rfl) h1
  obtain ⟨t2, rfl, hW2⟩ := open_stampW (hval 2 25 v2 rfl rfl) h2
  clear hA0 hval0 hsz0
  refine (walk a0 A1 l1 c1 t2 W hP1 (fun p hp => (hW1 p hp).1) hW2 hc1 hm1).mono fun e W' ⟨he, hg⟩ => ?_
  subst he
  exact ⟨_, rfl, law_post progLaid hW' rfl (by rw [Try.params3]; intro t ht; simp at ht; rcases ht with rfl | rfl | rfl <;> exact ⟨by kernel_rfl, of_decide_eq_true (by kernel_rfl)⟩) rfl Try.underlying4 rfl hg⟩

theorem over : Rows.countsPlaysRow.holds Try.pinned (OpenSpec.ofChange Rows.countsPlaysSpec) :=
  OpenClaim.holds_of_wide 3 Try.f3 rfl rfl rfl rfl rfl rfl rfl ⟨rfl, rfl, rfl, rfl, rfl⟩ rfl rfl rfl rfl rfl (by kernel_rfl) Try.func3 (by kernel_rfl)
    (of_decide_eq_true (by kernel_rfl)) (by unfold Func.isWrapper; first | (rw [if_pos (by decide +kernel)]; kernel_rfl) | (rw [if_neg (by decide +kernel)]; exact ⟨rfl, rfl⟩))
    (fun os started H enc _ => lifted os started H enc)

/-- The statement. -/
theorem proved : Rows.CountsPlaysSaid :=
  over
end countsPlays
end Go.Proofs.Ytkbabmifdfmhlaa
