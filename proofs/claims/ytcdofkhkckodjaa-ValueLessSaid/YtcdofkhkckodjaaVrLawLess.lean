/- ValueLess: what is left, and what was taken, together are what it was. -/
import Derived.Test.YtcdofkhkckodjaaVrWorks
import Derived.SizedLaws
namespace Go.Proofs.Ytcdofkhkckodjaa
open Go.ChangeShapes Go.WideShapes Go.ChangeAt Go.RowKit Go.BigFrame
open Vr
set_option linter.unusedVariables false
set_option maxRecDepth 100000
namespace valueLess
theorem both_len {a b p q : List Rd} (h : lessR a b = some p) (k : lessR b a = some q) : p = [] ∧ q = [] := by
  have h1 := lessR_length h; have h2 := lessR_length k
  exact ⟨List.eq_nil_of_length_eq_zero (by omega), List.eq_nil_of_length_eq_zero (by omega)⟩
theorem both_same {a b p : List Rd} (h : lessR a b = some p) : (lessR b a).isSome = sameR (sortR a) (sortR b) := by
  rw [Bool.eq_iff_iff, lessR_both h, sameR_iff, sortR_iff]
theorem back {a b p : List Rd} (h : lessR a b = some p) : sameR (sortR (sortR ([p, b] : List (List Rd)).flatten)) (sortR a) = true := by
  rw [sameR_iff, sortR_sortR, sortR_iff]
  simp only [List.flatten_cons, List.flatten_nil, List.append_nil]
  exact (lessR_some.1 h).2.symm
theorem undo (a b : List Rd) : lessR (sortR ([a, b] : List (List Rd)).flatten) b = some (sortR a) := by
  refine lessR_add ?_
  simp only [List.flatten_cons, List.flatten_nil, List.append_nil]
  exact sortR_perm.trans List.perm_append_comm
set_option maxHeartbeats 8000000 in
theorem walk (A B : Option Addr) (a b : List Rd) (c d : Nat) (w : World) (hA : RowV w (.slice A a.length c) a) (hB : RowV w (.slice B b.length d) b) :
    Calls Try.prog 7 #[.slice A a.length c, .slice B b.length d] w fun e w' => e = .returned (.bool true) ∧ Below w.heap.size w w' := by
  have HA := Lib.hid hA; have HB := Lib.hid hB; clear hA hB
  by_cases h1 : 60 < a.length
  · have h1z : (60 : Int) < (a.length : Int) := by omega
    have d1 : decide ((60 : Int) < (a.length : Int)) = true := by simp; omega
    have Hb := Lib.hid (Below.refl w.heap.size w)
    go_enter Try.func7, Try.ntmps7
    have hc := works_any w
    have HC := Lib.hid hc; clear hc
    go_wp2_with fail
    refine HC.out.mono ?_; rintro e w2 ⟨rfl, hb0⟩
    clear HC
    have hb := hb0
    clear hb0
    have h := HA.out.below hb; clear HA; have HA := Lib.hid h; clear h
    have h := HB.out.below hb; clear HB; have HB := Lib.hid h; clear h
    have h := Hb.out.trans (hb.mono Hb.out.size); clear Hb hb; have Hb := Lib.hid h; clear h
    dsimp only
    go_wp2_with fail
    go_ret
    exact ⟨rfl, Hb.out⟩
  · have h1z : ¬ (60 : Int) < (a.length : Int) := by omega
    have d1 : decide ((60 : Int) < (a.length : Int)) = false := by simp; omega
    by_cases h2 : 60 < b.length
    · have h2z : (60 : Int) < (b.length : Int) := by omega
      have d2 : decide ((60 : Int) < (b.length : Int)) = true := by simp; omega
      have Hb := Lib.hid (Below.refl w.heap.size w)
      go_enter Try.func7, Try.ntmps7
      have hc := works_any w
      have HC := Lib.hid hc; clear hc
      go_wp2_with fail
      refine HC.out.mono ?_; rintro e w2 ⟨rfl, hb0⟩
      clear HC
      have hb := hb0
      clear hb0
      have h := HA.out.below hb; clear HA; have HA := Lib.hid h; clear h
      have h := HB.out.below hb; clear HB; have HB := Lib.hid h; clear h
      have h := Hb.out.trans (hb.mono Hb.out.size); clear Hb hb; have Hb := Lib.hid h; clear h
      dsimp only
      go_wp2_with fail
      go_ret
      exact ⟨rfl, Hb.out⟩
    · have h2z : ¬ (60 : Int) < (b.length : Int) := by omega
      have d2 : decide ((60 : Int) < (b.length : Int)) = false := by simp; omega
      have ha : a.length ≤ 60 := by omega
      have hb : b.length ≤ 60 := by omega
      clear h1 h2
      cases e1 : lessR a b with
      | none =>
        have HE1 := Lib.hid e1
        cases e2 : lessR b a with
        | none =>
          have Hb := Lib.hid (Below.refl w.heap.size w)
          have HE2 := Lib.hid e2; clear e1 e2
          go_enter Try.func7, Try.ntmps7
          have hc := less_v HA.out HB.out (by omega) (by omega)
          rw [HE1.out] at hc
          have HC := Lib.hid hc; clear hc
          go_wp2_with fail
          refine HC.out.mono ?_; rintro e w2 ⟨⟨v, rfl, hr⟩, hb0⟩
          clear HC
          have hb := hb0
          clear hb0
          have h := HA.out.below hb; clear HA; have HA := Lib.hid h; clear h
          have h := HB.out.below hb; clear HB; have HB := Lib.hid h; clear h
          have h := Hb.out.trans (hb.mono Hb.out.size); clear Hb hb; have Hb := Lib.hid h; clear h
          obtain ⟨A1, c1, rfl, z1⟩ := hr
          have H1 := Lib.hid (show RowV w2 (.slice A1 (([] : List Rd) : List Rd).length c1) ([] : List Rd) from ⟨A1, c1, rfl, z1⟩); clear z1
          dsimp only
          have hc := less_v HB.out HA.out (by omega) (by omega)
          rw [HE2.out] at hc
          have HC := Lib.hid hc; clear hc
          go_wp2_with fail
          refine HC.out.mono ?_; rintro e w3 ⟨⟨v, rfl, hr⟩, hb0⟩
          clear HC
          have hb := hb0
          clear hb0
          have h := HA.out.below hb; clear HA; have HA := Lib.hid h; clear h
          have h := HB.out.below hb; clear HB; have HB := Lib.hid h; clear h
          have h := H1.out.below hb; clear H1; have H1 := Lib.hid h; clear h
          have h := Hb.out.trans (hb.mono Hb.out.size); clear Hb hb; have Hb := Lib.hid h; clear h
          obtain ⟨A2, c2, rfl, z2⟩ := hr
          have H2 := Lib.hid (show RowV w3 (.slice A2 (([] : List Rd) : List Rd).length c2) ([] : List Rd) from ⟨A2, c2, rfl, z2⟩); clear z2
          dsimp only
          have hc := add_v (LitV.made w3 [.slice A a.length c, .slice B b.length d] [a, b] ⟨HA.out, HB.out, trivial⟩ #[.slice A a.length c, .slice B b.length d] rfl 2 rfl) (by simp) (by simp; omega)
          have HC := Lib.hid hc; clear hc
          go_wp2_with fail
          refine HC.out.mono ?_; rintro e w4 ⟨⟨v, rfl, hr⟩, hb0⟩
          clear HC
          have hb : Below w3.heap.size w3 w4 := ((Below.refl _ w3).alloc (Nat.le_refl _) _).trans (hb0.mono (by simp))
          clear hb0
          have h := HA.out.below hb; clear HA; have HA := Lib.hid h; clear h
          have h := HB.out.below hb; clear HB; have HB := Lib.hid h; clear h
          have h := H1.out.below hb; clear H1; have H1 := Lib.hid h; clear h
          have h := H2.out.below hb; clear H2; have H2 := Lib.hid h; clear h
          have h := Hb.out.trans (hb.mono Hb.out.size); clear Hb hb; have Hb := Lib.hid h; clear h
          obtain ⟨A3, c3, rfl, z3⟩ := hr
          have H3 := Lib.hid (show RowV w4 (.slice A3 ((sortR ([a, b] : List (List Rd)).flatten) : List Rd).length c3) (sortR ([a, b] : List (List Rd)).flatten) from ⟨A3, c3, rfl, z3⟩); clear z3
          dsimp only
          have hl3 : (sortR ([a, b] : List (List Rd)).flatten).length ≤ 120 := by rw [sortR_perm.length_eq]; simp; omega
          have HU := Lib.hid (undo a b)
          generalize sortR ([a, b] : List (List Rd)).flatten = s3 at *
          have hc := less_v H3.out HB.out (by omega) (by omega)
          rw [HU.out] at hc
          have HC := Lib.hid hc; clear hc
          go_wp2_with fail
          refine HC.out.mono ?_; rintro e w5 ⟨⟨v, rfl, hr⟩, hb0⟩
          clear HC
          have hb := hb0
          clear hb0
          have h := HA.out.below hb; clear HA; have HA := Lib.hid h; clear h
          have h := HB.out.below hb; clear HB; have HB := Lib.hid h; clear h
          have h := H1.out.below hb; clear H1; have H1 := Lib.hid h; clear h
          have h := H2.out.below hb; clear H2; have H2 := Lib.hid h; clear h
          have h := H3.out.below hb; clear H3; have H3 := Lib.hid h; clear h
          have h := Hb.out.trans (hb.mono Hb.out.size); clear Hb hb; have Hb := Lib.hid h; clear h
          obtain ⟨A4, c4, rfl, z4⟩ := hr
          have H4 := Lib.hid (show RowV w5 (.slice A4 ((sortR a) : List Rd).length c4) (sortR a) from ⟨A4, c4, rfl, z4⟩); clear z4
          dsimp only
          have hl4 : (sortR a).length ≤ 60 := by rw [sortR_perm.length_eq]; exact ha
          have HSS : Hid (sameR (sortR (sortR a)) (sortR a) = true) := Lib.hid (by rw [sortR_sortR]; exact sameR_self _)
          have hc := same_v H4.out HA.out (by omega) (by omega)
          rw [HSS.out] at hc
          have HC := Lib.hid hc; clear hc
          go_wp2_with fail
          refine HC.out.mono ?_; rintro e w6 ⟨rfl, hb0⟩
          clear HC
          have hb := hb0
          clear hb0
          have h := HA.out.below hb; clear HA; have HA := Lib.hid h; clear h
          have h := HB.out.below hb; clear HB; have HB := Lib.hid h; clear h
          have h := H1.out.below hb; clear H1; have H1 := Lib.hid h; clear h
          have h := H2.out.below hb; clear H2; have H2 := Lib.hid h; clear h
          have h := H3.out.below hb; clear H3; have H3 := Lib.hid h; clear h
          have h := H4.out.below hb; clear H4; have H4 := Lib.hid h; clear h
          have h := Hb.out.trans (hb.mono Hb.out.size); clear Hb hb; have Hb := Lib.hid h; clear h
          dsimp only
          have hc := works_any w6
          have HC := Lib.hid hc; clear hc
          go_wp2_with fail
          refine HC.out.mono ?_; rintro e w7 ⟨rfl, hb0⟩
          clear HC
          have hb := hb0
          clear hb0
          have h := HA.out.below hb; clear HA; have HA := Lib.hid h; clear h
          have h := HB.out.below hb; clear HB; have HB := Lib.hid h; clear h
          have h := H1.out.below hb; clear H1; have H1 := Lib.hid h; clear h
          have h := H2.out.below hb; clear H2; have H2 := Lib.hid h; clear h
          have h := H3.out.below hb; clear H3; have H3 := Lib.hid h; clear h
          have h := H4.out.below hb; clear H4; have H4 := Lib.hid h; clear h
          have h := Hb.out.trans (hb.mono Hb.out.size); clear Hb hb; have Hb := Lib.hid h; clear h
          dsimp only
          go_wp2_with fail
          go_ret
          exact ⟨rfl, Hb.out⟩
        | some q =>
          have Hb := Lib.hid (Below.refl w.heap.size w)
          have HE2 := Lib.hid e2; clear e1 e2
          go_enter Try.func7, Try.ntmps7
          have hc := less_v HA.out HB.out (by omega) (by omega)
          rw [HE1.out] at hc
          have HC := Lib.hid hc; clear hc
          go_wp2_with fail
          refine HC.out.mono ?_; rintro e w2 ⟨⟨v, rfl, hr⟩, hb0⟩
          clear HC
          have hb := hb0
          clear hb0
          have h := HA.out.below hb; clear HA; have HA := Lib.hid h; clear h
          have h := HB.out.below hb; clear HB; have HB := Lib.hid h; clear h
          have h := Hb.out.trans (hb.mono Hb.out.size); clear Hb hb; have Hb := Lib.hid h; clear h
          obtain ⟨A1, c1, rfl, z1⟩ := hr
          have H1 := Lib.hid (show RowV w2 (.slice A1 (([] : List Rd) : List Rd).length c1) ([] : List Rd) from ⟨A1, c1, rfl, z1⟩); clear z1
          dsimp only
          have hq : q.length ≤ 60 := by have := lessR_length HE2.out; omega
          have hc := less_v HB.out HA.out (by omega) (by omega)
          rw [HE2.out] at hc
          have HC := Lib.hid hc; clear hc
          go_wp2_with fail
          refine HC.out.mono ?_; rintro e w3 ⟨⟨v, rfl, hr⟩, hb0⟩
          clear HC
          have hb := hb0
          clear hb0
          have h := HA.out.below hb; clear HA; have HA := Lib.hid h; clear h
          have h := HB.out.below hb; clear HB; have HB := Lib.hid h; clear h
          have h := H1.out.below hb; clear H1; have H1 := Lib.hid h; clear h
          have h := Hb.out.trans (hb.mono Hb.out.size); clear Hb hb; have Hb := Lib.hid h; clear h
          obtain ⟨A2, c2, rfl, z2⟩ := hr
          have H2 := Lib.hid (show RowV w3 (.slice A2 (q : List Rd).length c2) q from ⟨A2, c2, rfl, z2⟩); clear z2
          dsimp only
          have hc := add_v (LitV.made w3 [.slice A a.length c, .slice B b.length d] [a, b] ⟨HA.out, HB.out, trivial⟩ #[.slice A a.length c, .slice B b.length d] rfl 2 rfl) (by simp) (by simp; omega)
          have HC := Lib.hid hc; clear hc
          go_wp2_with fail
          refine HC.out.mono ?_; rintro e w4 ⟨⟨v, rfl, hr⟩, hb0⟩
          clear HC
          have hb : Below w3.heap.size w3 w4 := ((Below.refl _ w3).alloc (Nat.le_refl _) _).trans (hb0.mono (by simp))
          clear hb0
          have h := HA.out.below hb; clear HA; have HA := Lib.hid h; clear h
          have h := HB.out.below hb; clear HB; have HB := Lib.hid h; clear h
          have h := H1.out.below hb; clear H1; have H1 := Lib.hid h; clear h
          have h := H2.out.below hb; clear H2; have H2 := Lib.hid h; clear h
          have h := Hb.out.trans (hb.mono Hb.out.size); clear Hb hb; have Hb := Lib.hid h; clear h
          obtain ⟨A3, c3, rfl, z3⟩ := hr
          have H3 := Lib.hid (show RowV w4 (.slice A3 ((sortR ([a, b] : List (List Rd)).flatten) : List Rd).length c3) (sortR ([a, b] : List (List Rd)).flatten) from ⟨A3, c3, rfl, z3⟩); clear z3
          dsimp only
          have hl3 : (sortR ([a, b] : List (List Rd)).flatten).length ≤ 120 := by rw [sortR_perm.length_eq]; simp; omega
          have HU := Lib.hid (undo a b)
          generalize sortR ([a, b] : List (List Rd)).flatten = s3 at *
          have hc := less_v H3.out HB.out (by omega) (by omega)
          rw [HU.out] at hc
          have HC := Lib.hid hc; clear hc
          go_wp2_with fail
          refine HC.out.mono ?_; rintro e w5 ⟨⟨v, rfl, hr⟩, hb0⟩
          clear HC
          have hb := hb0
          clear hb0
          have h := HA.out.below hb; clear HA; have HA := Lib.hid h; clear h
          have h := HB.out.below hb; clear HB; have HB := Lib.hid h; clear h
          have h := H1.out.below hb; clear H1; have H1 := Lib.hid h; clear h
          have h := H2.out.below hb; clear H2; have H2 := Lib.hid h; clear h
          have h := H3.out.below hb; clear H3; have H3 := Lib.hid h; clear h
          have h := Hb.out.trans (hb.mono Hb.out.size); clear Hb hb; have Hb := Lib.hid h; clear h
          obtain ⟨A4, c4, rfl, z4⟩ := hr
          have H4 := Lib.hid (show RowV w5 (.slice A4 ((sortR a) : List Rd).length c4) (sortR a) from ⟨A4, c4, rfl, z4⟩); clear z4
          dsimp only
          have hl4 : (sortR a).length ≤ 60 := by rw [sortR_perm.length_eq]; exact ha
          have HSS : Hid (sameR (sortR (sortR a)) (sortR a) = true) := Lib.hid (by rw [sortR_sortR]; exact sameR_self _)
          have hc := same_v H4.out HA.out (by omega) (by omega)
          rw [HSS.out] at hc
          have HC := Lib.hid hc; clear hc
          go_wp2_with fail
          refine HC.out.mono ?_; rintro e w6 ⟨rfl, hb0⟩
          clear HC
          have hb := hb0
          clear hb0
          have h := HA.out.below hb; clear HA; have HA := Lib.hid h; clear h
          have h := HB.out.below hb; clear HB; have HB := Lib.hid h; clear h
          have h := H1.out.below hb; clear H1; have H1 := Lib.hid h; clear h
          have h := H2.out.below hb; clear H2; have H2 := Lib.hid h; clear h
          have h := H3.out.below hb; clear H3; have H3 := Lib.hid h; clear h
          have h := H4.out.below hb; clear H4; have H4 := Lib.hid h; clear h
          have h := Hb.out.trans (hb.mono Hb.out.size); clear Hb hb; have Hb := Lib.hid h; clear h
          dsimp only
          have hc := works_any w6
          have HC := Lib.hid hc; clear hc
          go_wp2_with fail
          refine HC.out.mono ?_; rintro e w7 ⟨rfl, hb0⟩
          clear HC
          have hb := hb0
          clear hb0
          have h := HA.out.below hb; clear HA; have HA := Lib.hid h; clear h
          have h := HB.out.below hb; clear HB; have HB := Lib.hid h; clear h
          have h := H1.out.below hb; clear H1; have H1 := Lib.hid h; clear h
          have h := H2.out.below hb; clear H2; have H2 := Lib.hid h; clear h
          have h := H3.out.below hb; clear H3; have H3 := Lib.hid h; clear h
          have h := H4.out.below hb; clear H4; have H4 := Lib.hid h; clear h
          have h := Hb.out.trans (hb.mono Hb.out.size); clear Hb hb; have Hb := Lib.hid h; clear h
          dsimp only
          go_wp2_with fail
          go_ret
          exact ⟨rfl, Hb.out⟩
      | some p =>
        have HE1 := Lib.hid e1
        have HP := Lib.hid (lessR_length e1)
        have HSM := Lib.hid (both_same e1)
        cases e2 : lessR b a with
        | none =>
          have Hb := Lib.hid (Below.refl w.heap.size w)
          have HE2 := Lib.hid e2
          rw [e2] at HSM
          have hsm := HSM.out.symm
          clear HSM e1 e2
          have HSM := Lib.hid hsm; clear hsm
          have dab : decide (((p : List Rd).length : Int) = (a.length : Int) - (b.length : Int)) = true := by have := HP.out; rw [decide_eq_true_eq]; omega
          have DAB := Lib.hid dab; clear dab
          have hp6 : (p : List Rd).length ≤ 60 := by have := HP.out; omega
          have HP6 := Lib.hid hp6; clear hp6
          go_enter Try.func7, Try.ntmps7
          have hc := less_v HA.out HB.out (by omega) (by omega)
          rw [HE1.out] at hc
          have HC := Lib.hid hc; clear hc
          go_wp2_with fail
          refine HC.out.mono ?_; rintro e w2 ⟨⟨v, rfl, hr⟩, hb0⟩
          clear HC
          have hb := hb0
          clear hb0
          have h := HA.out.below hb; clear HA; have HA := Lib.hid h; clear h
          have h := HB.out.below hb; clear HB; have HB := Lib.hid h; clear h
          have h := Hb.out.trans (hb.mono Hb.out.size); clear Hb hb; have Hb := Lib.hid h; clear h
          obtain ⟨A1, c1, rfl, z1⟩ := hr
          have H1 := Lib.hid (show RowV w2 (.slice A1 (p : List Rd).length c1) p from ⟨A1, c1, rfl, z1⟩); clear z1
          dsimp only
          have hc := less_v HB.out HA.out (by omega) (by omega)
          rw [HE2.out] at hc
          have HC := Lib.hid hc; clear hc
          go_wp2_with fail
          refine HC.out.mono ?_; rintro e w3 ⟨⟨v, rfl, hr⟩, hb0⟩
          clear HC
          have hb := hb0
          clear hb0
          have h := HA.out.below hb; clear HA; have HA := Lib.hid h; clear h
          have h := HB.out.below hb; clear HB; have HB := Lib.hid h; clear h
          have h := H1.out.below hb; clear H1; have H1 := Lib.hid h; clear h
          have h := Hb.out.trans (hb.mono Hb.out.size); clear Hb hb; have Hb := Lib.hid h; clear h
          obtain ⟨A2, c2, rfl, z2⟩ := hr
          have H2 := Lib.hid (show RowV w3 (.slice A2 (([] : List Rd) : List Rd).length c2) ([] : List Rd) from ⟨A2, c2, rfl, z2⟩); clear z2
          dsimp only
          have hc := same_v HA.out HB.out (by omega) (by omega)
          rw [HSM.out] at hc
          have HC := Lib.hid hc; clear hc
          go_wp2_with fail
          refine HC.out.mono ?_; rintro e w4 ⟨rfl, hb0⟩
          clear HC
          have hb := hb0
          clear hb0
          have h := HA.out.below hb; clear HA; have HA := Lib.hid h; clear h
          have h := HB.out.below hb; clear HB; have HB := Lib.hid h; clear h
          have h := H1.out.below hb; clear H1; have H1 := Lib.hid h; clear h
          have h := H2.out.below hb; clear H2; have H2 := Lib.hid h; clear h
          have h := Hb.out.trans (hb.mono Hb.out.size); clear Hb hb; have Hb := Lib.hid h; clear h
          dsimp only
          have hc := add_v (LitV.made w4 [.slice A1 (p : List Rd).length c1, .slice B b.length d] [p, b] ⟨H1.out, HB.out, trivial⟩ #[.slice A1 (p : List Rd).length c1, .slice B b.length d] rfl 2 rfl) (by simp) (by have := HP6.out; simp; omega)
          have HC := Lib.hid hc; clear hc
          go_wp2_with fail
          refine HC.out.mono ?_; rintro e w5 ⟨⟨v, rfl, hr⟩, hb0⟩
          clear HC
          have hb : Below w4.heap.size w4 w5 := ((Below.refl _ w4).alloc (Nat.le_refl _) _).trans (hb0.mono (by simp))
          clear hb0
          have h := HA.out.below hb; clear HA; have HA := Lib.hid h; clear h
          have h := HB.out.below hb; clear HB; have HB := Lib.hid h; clear h
          have h := H1.out.below hb; clear H1; have H1 := Lib.hid h; clear h
          have h := H2.out.below hb; clear H2; have H2 := Lib.hid h; clear h
          have h := Hb.out.trans (hb.mono Hb.out.size); clear Hb hb; have Hb := Lib.hid h; clear h
          obtain ⟨A3, c3, rfl, z3⟩ := hr
          have H3 := Lib.hid (show RowV w5 (.slice A3 ((sortR ([p, b] : List (List Rd)).flatten) : List Rd).length c3) (sortR ([p, b] : List (List Rd)).flatten) from ⟨A3, c3, rfl, z3⟩); clear z3
          dsimp only
          have hl3 : (sortR ([p, b] : List (List Rd)).flatten).length ≤ 120 := by have := HP6.out; rw [sortR_perm.length_eq]; simp; omega
          have HBK := Lib.hid (back HE1.out)
          generalize sortR ([p, b] : List (List Rd)).flatten = s3 at *
          have hc := same_v H3.out HA.out (by omega) (by omega)
          rw [HBK.out] at hc
          have HC := Lib.hid hc; clear hc
          go_wp2_with fail
          refine HC.out.mono ?_; rintro e w6 ⟨rfl, hb0⟩
          clear HC
          have hb := hb0
          clear hb0
          have h := HA.out.below hb; clear HA; have HA := Lib.hid h; clear h
          have h := HB.out.below hb; clear HB; have HB := Lib.hid h; clear h
          have h := H1.out.below hb; clear H1; have H1 := Lib.hid h; clear h
          have h := H2.out.below hb; clear H2; have H2 := Lib.hid h; clear h
          have h := H3.out.below hb; clear H3; have H3 := Lib.hid h; clear h
          have h := Hb.out.trans (hb.mono Hb.out.size); clear Hb hb; have Hb := Lib.hid h; clear h
          dsimp only
          have dab := DAB.out
          have hc := works_any w6
          have HC := Lib.hid hc; clear hc
          go_wp2_with fail
          refine HC.out.mono ?_; rintro e w7 ⟨rfl, hb0⟩
          clear HC
          have hb := hb0
          clear hb0
          have h := HA.out.below hb; clear HA; have HA := Lib.hid h; clear h
          have h := HB.out.below hb; clear HB; have HB := Lib.hid h; clear h
          have h := H1.out.below hb; clear H1; have H1 := Lib.hid h; clear h
          have h := H2.out.below hb; clear H2; have H2 := Lib.hid h; clear h
          have h := H3.out.below hb; clear H3; have H3 := Lib.hid h; clear h
          have h := Hb.out.trans (hb.mono Hb.out.size); clear Hb hb; have Hb := Lib.hid h; clear h
          dsimp only
          go_wp2_with fail
          go_ret
          exact ⟨rfl, Hb.out⟩
          rename_i hne; exact absurd (of_decide_eq_true DAB.out) hne
        | some q =>
          have Hb := Lib.hid (Below.refl w.heap.size w)
          have HPQ := Lib.hid (both_len e1 e2)
          obtain ⟨rfl, rfl⟩ := both_len e1 e2
          clear HPQ
          have HE2 := Lib.hid e2
          rw [e2] at HSM
          have hsm := HSM.out.symm
          clear HSM e1 e2
          have HSM := Lib.hid hsm; clear hsm
          have dab : decide (((([] : List Rd) : List Rd).length : Int) = (a.length : Int) - (b.length : Int)) = true := by have := HP.out; rw [decide_eq_true_eq]; omega
          have DAB := Lib.hid dab; clear dab
          have hp6 : (([] : List Rd) : List Rd).length ≤ 60 := by have := HP.out; omega
          have HP6 := Lib.hid hp6; clear hp6
          go_enter Try.func7, Try.ntmps7
          have hc := less_v HA.out HB.out (by omega) (by omega)
          rw [HE1.out] at hc
          have HC := Lib.hid hc; clear hc
          go_wp2_with fail
          refine HC.out.mono ?_; rintro e w2 ⟨⟨v, rfl, hr⟩, hb0⟩
          clear HC
          have hb := hb0
          clear hb0
          have h := HA.out.below hb; clear HA; have HA := Lib.hid h; clear h
          have h := HB.out.below hb; clear HB; have HB := Lib.hid h; clear h
          have h := Hb.out.trans (hb.mono Hb.out.size); clear Hb hb; have Hb := Lib.hid h; clear h
          obtain ⟨A1, c1, rfl, z1⟩ := hr
          have H1 := Lib.hid (show RowV w2 (.slice A1 (([] : List Rd) : List Rd).length c1) ([] : List Rd) from ⟨A1, c1, rfl, z1⟩); clear z1
          dsimp only
          have hc := less_v HB.out HA.out (by omega) (by omega)
          rw [HE2.out] at hc
          have HC := Lib.hid hc; clear hc
          go_wp2_with fail
          refine HC.out.mono ?_; rintro e w3 ⟨⟨v, rfl, hr⟩, hb0⟩
          clear HC
          have hb := hb0
          clear hb0
          have h := HA.out.below hb; clear HA; have HA := Lib.hid h; clear h
          have h := HB.out.below hb; clear HB; have HB := Lib.hid h; clear h
          have h := H1.out.below hb; clear H1; have H1 := Lib.hid h; clear h
          have h := Hb.out.trans (hb.mono Hb.out.size); clear Hb hb; have Hb := Lib.hid h; clear h
          obtain ⟨A2, c2, rfl, z2⟩ := hr
          have H2 := Lib.hid (show RowV w3 (.slice A2 (([] : List Rd) : List Rd).length c2) ([] : List Rd) from ⟨A2, c2, rfl, z2⟩); clear z2
          dsimp only
          have hc := same_v HA.out HB.out (by omega) (by omega)
          rw [HSM.out] at hc
          have HC := Lib.hid hc; clear hc
          go_wp2_with fail
          refine HC.out.mono ?_; rintro e w4 ⟨rfl, hb0⟩
          clear HC
          have hb := hb0
          clear hb0
          have h := HA.out.below hb; clear HA; have HA := Lib.hid h; clear h
          have h := HB.out.below hb; clear HB; have HB := Lib.hid h; clear h
          have h := H1.out.below hb; clear H1; have H1 := Lib.hid h; clear h
          have h := H2.out.below hb; clear H2; have H2 := Lib.hid h; clear h
          have h := Hb.out.trans (hb.mono Hb.out.size); clear Hb hb; have Hb := Lib.hid h; clear h
          dsimp only
          have hc := add_v (LitV.made w4 [.slice A1 (([] : List Rd) : List Rd).length c1, .slice B b.length d] [([] : List Rd), b] ⟨H1.out, HB.out, trivial⟩ #[.slice A1 (([] : List Rd) : List Rd).length c1, .slice B b.length d] rfl 2 rfl) (by simp) (by have := HP6.out; simp; omega)
          have HC := Lib.hid hc; clear hc
          go_wp2_with fail
          refine HC.out.mono ?_; rintro e w5 ⟨⟨v, rfl, hr⟩, hb0⟩
          clear HC
          have hb : Below w4.heap.size w4 w5 := ((Below.refl _ w4).alloc (Nat.le_refl _) _).trans (hb0.mono (by simp))
          clear hb0
          have h := HA.out.below hb; clear HA; have HA := Lib.hid h; clear h
          have h := HB.out.below hb; clear HB; have HB := Lib.hid h; clear h
          have h := H1.out.below hb; clear H1; have H1 := Lib.hid h; clear h
          have h := H2.out.below hb; clear H2; have H2 := Lib.hid h; clear h
          have h := Hb.out.trans (hb.mono Hb.out.size); clear Hb hb; have Hb := Lib.hid h; clear h
          obtain ⟨A3, c3, rfl, z3⟩ := hr
          have H3 := Lib.hid (show RowV w5 (.slice A3 ((sortR ([([] : List Rd), b] : List (List Rd)).flatten) : List Rd).length c3) (sortR ([([] : List Rd), b] : List (List Rd)).flatten) from ⟨A3, c3, rfl, z3⟩); clear z3
          dsimp only
          have hl3 : (sortR ([([] : List Rd), b] : List (List Rd)).flatten).length ≤ 120 := by have := HP6.out; rw [sortR_perm.length_eq]; simp; omega
          have HBK := Lib.hid (back HE1.out)
          generalize sortR ([([] : List Rd), b] : List (List Rd)).flatten = s3 at *
          have hc := same_v H3.out HA.out (by omega) (by omega)
          rw [HBK.out] at hc
          have HC := Lib.hid hc; clear hc
          go_wp2_with fail
          refine HC.out.mono ?_; rintro e w6 ⟨rfl, hb0⟩
          clear HC
          have hb := hb0
          clear hb0
          have h := HA.out.below hb; clear HA; have HA := Lib.hid h; clear h
          have h := HB.out.below hb; clear HB; have HB := Lib.hid h; clear h
          have h := H1.out.below hb; clear H1; have H1 := Lib.hid h; clear h
          have h := H2.out.below hb; clear H2; have H2 := Lib.hid h; clear h
          have h := H3.out.below hb; clear H3; have H3 := Lib.hid h; clear h
          have h := Hb.out.trans (hb.mono Hb.out.size); clear Hb hb; have Hb := Lib.hid h; clear h
          dsimp only
          have dab := DAB.out
          have hc := works_any w6
          have HC := Lib.hid hc; clear hc
          go_wp2_with fail
          refine HC.out.mono ?_; rintro e w7 ⟨rfl, hb0⟩
          clear HC
          have hb := hb0
          clear hb0
          have h := HA.out.below hb; clear HA; have HA := Lib.hid h; clear h
          have h := HB.out.below hb; clear HB; have HB := Lib.hid h; clear h
          have h := H1.out.below hb; clear H1; have H1 := Lib.hid h; clear h
          have h := H2.out.below hb; clear H2; have H2 := Lib.hid h; clear h
          have h := H3.out.below hb; clear H3; have H3 := Lib.hid h; clear h
          have h := Hb.out.trans (hb.mono Hb.out.size); clear Hb hb; have Hb := Lib.hid h; clear h
          dsimp only
          go_wp2_with fail
          go_ret
          exact ⟨rfl, Hb.out⟩
          rename_i hne; exact absurd (of_decide_eq_true DAB.out) hne

set_option maxRecDepth 100000 in
theorem lifted (os : Os) (started : os.Started) (H : Type) (enc : TypeId × Value → H) :
    ReturnsInHanded {} Try.checked os 7 .any (Rows.valueLessSpec.pre6 enc Try.prog Try.f7 Rows.valueLessRow.domain false) (Rows.valueLessSpec.post enc Try.prog Try.f7 false true false false) := by
  refine returnsInHanded_of_change_sized (C := Try.checked) ownKnob_none started (by kernel_rfl) Try.func7
    (ChangeSpec.witness6 (enc := enc) (C := Try.checked) false ⟨#[], #[.slice none 0 0, .slice none 0 0], []⟩ 8 (by kernel_rfl) (by kernel_rfl) (by kernel_rfl) (by kernel_rfl)) ?_
  intro W base args ds gs before hval0 hW hcnd hsz0 _
  have hval : ∀ (j : Nat) t v, Try.f7.params[j]? = some t → args[j]? = some v → Value.okWide Try.prog W .any base t v := hval0
  have hW' := hW
  obtain ⟨p, q, hA0, hV, rfl, hfz, hnd⟩ := hW
  have hA : DataW.TrodAll enc Try.prog W 0 (fun _ => true) true Try.f7.params.toList args.toList ds p := hA0
  have hsz : (DataW.weightsEach Try.prog (Try.f7.params.toList ++ Rows.valueLessSpec.plain.varTypes Try.prog) (ds ++ gs)).all (· ≤ reachBytes) = true := hsz0
  rw [Try.params7] at hA hval hsz
  obtain ⟨v0, vs0, d0, ds0, p0, q0, hargs, rfl, rfl, h0, r0⟩ := trodAll_cons hA
  obtain ⟨v1, vs1, d1, ds1, p1, q1, rfl, rfl, rfl, h1, r1⟩ := trodAll_cons r0
  obtain ⟨rfl, rfl, rfl⟩ := trodAll_nil r1
  obtain rfl : args = #[v0, v1] := by cases args; simp_all
  obtain ⟨rfl, rfl⟩ := trodVars_none hV
  obtain ⟨A0, l0, c0, rfl, hT0, hw0, hc0, hm0, hn0⟩ := Vr.open_recs (hval 0 22 v0 rfl rfl) h0
  obtain ⟨A1, l1, c1, rfl, hT1, hw1, hc1, hm1, hn1⟩ := Vr.open_recs (hval 1 22 v1 rfl rfl) h1
  clear hA0 hval0 hsz0
  refine (walk A0 A1 l0 l1 c0 c1 W ⟨A0, c0, rfl, hT0, hn0, hc0, hm0⟩ ⟨A1, c1, rfl, hT1, hn1, hc1, hm1⟩).mono fun e W' ⟨he, hg⟩ => ?_
  subst he
  exact ⟨_, rfl, law_post progLaid hW' rfl (by rw [Try.params7]; intro t ht; simp at ht; subst ht; exact ⟨by kernel_rfl, of_decide_eq_true (by kernel_rfl)⟩) rfl Try.underlying4 rfl hg⟩

theorem over : Rows.valueLessRow.holds Try.pinned (OpenSpec.ofChange Rows.valueLessSpec) :=
  OpenClaim.holds_of_wide 7 Try.f7 rfl rfl rfl rfl rfl rfl rfl ⟨rfl, rfl, rfl, rfl, rfl⟩ rfl rfl rfl rfl rfl (by kernel_rfl) Try.func7 (by kernel_rfl)
    (of_decide_eq_true (by kernel_rfl)) (by unfold Func.isWrapper; first | (rw [if_pos (by decide +kernel)]; kernel_rfl) | (rw [if_neg (by decide +kernel)]; exact ⟨rfl, rfl⟩))
    (fun os started H enc _ => lifted os started H enc)

/-- The statement. -/
theorem proved : Rows.ValueLessSaid :=
  over
end valueLess
end Go.Proofs.Ytcdofkhkckodjaa
