/- AntichainTwo: Both, Either, Within, Same of two rows are as the document's own say; for all rows of at most 30 times. -/
import Derived.Test.YtkbabmifdfmhlaaFrRefEither
namespace Go.Proofs.Ytkbabmifdfmhlaa
open Go.ChangeShapes Go.WideShapes Go.ChangeAt Go.RowKit Go.BigFrame Go.Shelf
set_option linter.unusedVariables false
set_option maxRecDepth 100000
namespace antichainTwo
theorem mul_le {a b k m n : Nat} (h : a ≤ k) (j : b ≤ m) (hn : k * m ≤ n) : a * b ≤ n := Nat.le_trans (Nat.mul_le_mul h j) hn
theorem gives_bs {w : World} {l : List St} {n : Int} {e : Ending} {w' : World} (h : GivesB w l n e w') : GivesS w l n e w' := by
  obtain ⟨⟨A, c, h1, h2, _⟩, h3⟩ := h
  exact ⟨⟨A, c, h1, h2⟩, h3⟩
section
variable {A B : Option Addr} {a b : List St} {c d : Nat} {w : World} {v : Bool}
theorem refBothC (h : Slc w A c a) (k : Slc w B d b) (ha : a.length ≤ 500) (hb : b.length ≤ 500) : Calls Try.prog 55 #[.slice A a.length c, .slice B b.length d] w (GivesS w (ifS (decide (Alike a b)) (bothS a b)) (errS (decide (Alike a b)))) :=
  (refBoth_any A B a b c d w h k ha hb).mono fun _ _ h => gives_bs h
theorem refEitherC (h : Slc w A c a) (k : Slc w B d b) (ha : a.length ≤ 30) (hb : b.length ≤ 30) : Calls Try.prog 57 #[.slice A a.length c, .slice B b.length d] w (GivesS w (ifS (decide (Alike a b)) (eitherS a b)) (errS (decide (Alike a b)))) :=
  (refEither_any A B a b c d w h k ha hb).mono fun _ _ h => gives_bs h
theorem refWithinW (h : Slc w A c a) (k : Slc w B d b) (ha : a.length ≤ 1000) (hb : b.length ≤ 1000) (hv : decide (Under a b) = v) : ∀ w', Below w.heap.size w w' → Calls Try.prog 58 #[.slice A a.length c, .slice B b.length d] w' fun e w'' => e = .returned (.bool v) ∧ Below w'.heap.size w' w'' := fun w' hw => by
  subst hv; exact refWithin_any A B a b c d w' (h.below hw) (k.below hw) ha hb
end
set_option maxRecDepth 100000 in
set_option maxHeartbeats 16000000 in
theorem walk (A B : Option Addr) (a b : List St) (ca cb : Nat) (w : World) (hA : Slc w A ca a) (hB : Slc w B cb b) :
    Calls Try.prog 28 #[.slice A a.length ca, .slice B b.length cb] w fun e w' => e = .returned (.bool true) ∧ Below w.heap.size w w' := by
  have hbw0 := Below.refl w.heap.size w
  have WW := Lib.hid works_any
  have Ha := Lib.hid hA; have Hb := Lib.hid hB; have HBW := Lib.hid hbw0
  clear hA hB hbw0
  by_cases la : 30 < a.length
  · have da : decide ((a.length : Int) > 30) = true := decide_eq_true (by omega)
    go_enter Try.func28, Try.ntmps28
    go_wp2_with fail
    refine (WW.out _).mono ?_; rintro e we ⟨rfl, hbe⟩
    go_wp2_with fail
    go_ret
    exact ⟨rfl, HBW.out.trans (hbe.mono HBW.out.size)⟩
  have da : decide ((a.length : Int) > 30) = false := decide_eq_false (by omega)
  by_cases lb : 30 < b.length
  · have db : decide ((b.length : Int) > 30) = true := decide_eq_true (by omega)
    go_enter Try.func28, Try.ntmps28
    go_wp2_with fail
    refine (WW.out _).mono ?_; rintro e we ⟨rfl, hbe⟩
    go_wp2_with fail
    go_ret
    exact ⟨rfl, HBW.out.trans (hbe.mono HBW.out.size)⟩
  have db : decide ((b.length : Int) > 30) = false := decide_eq_false (by omega)
  have LN := Lib.hid (And.intro (Nat.not_lt.1 la) (Nat.not_lt.1 lb))
  go_enter Try.func28, Try.ntmps28
  go_wp2_with fail
  clear la lb da db
  have k := bothC Ha.out Hb.out (by have := LN.out; omega) (by have := LN.out; omega)
  obtain ⟨p, hp⟩ : ∃ p, ifS (decide (Alike a b)) (bothS a b) = p := ⟨_, rfl⟩
  obtain ⟨ep, hep⟩ : ∃ n, errS (decide (Alike a b)) = n := ⟨_, rfl⟩
  rw [hp, hep] at k
  have Lp := Lib.hid (show p.length ≤ 60 by rw [← hp]; exact ifS_len (by have := ofS_len (a ++ b); rw [List.length_append] at this; have := LN.out; unfold bothS; omega))
  have Ep := Lib.hid (And.intro hp hep); have K := Lib.hid k; clear k hp hep
  refine (K.out).mono ?_; rintro e v1 ⟨⟨Ap, cp, rfl, hs⟩, hb⟩
  have ha := Ha.out.below hb; clear Ha; have Ha := Lib.hid ha; clear ha
  have hb := Hb.out.below hb; clear Hb; have Hb := Lib.hid hb; clear hb
  have hbw := HBW.out.trans (hb.mono HBW.out.size); clear HBW hb; have HBW := Lib.hid hbw; clear hbw
  have Hp := Lib.hid hs; clear hs K
  dsimp only
  go_wp2_with fail
  have k := refBothC Ha.out Hb.out (by have := LN.out; omega) (by have := LN.out; omega)
  obtain ⟨q, hp⟩ : ∃ p, ifS (decide (Alike a b)) (bothS a b) = p := ⟨_, rfl⟩
  obtain ⟨eq, hep⟩ : ∃ n, errS (decide (Alike a b)) = n := ⟨_, rfl⟩
  rw [hp, hep] at k
  have Lq := Lib.hid (show q.length ≤ 60 by rw [← hp]; exact ifS_len (by have := ofS_len (a ++ b); rw [List.length_append] at this; have := LN.out; unfold bothS; omega))
  have Eq := Lib.hid (And.intro hp hep); have K := Lib.hid k; clear k hp hep
  refine (K.out).mono ?_; rintro e v2 ⟨⟨Aq, cq, rfl, hs⟩, hb⟩
  have ha := Ha.out.below hb; clear Ha; have Ha := Lib.hid ha; clear ha
  have hb := Hb.out.below hb; clear Hb; have Hb := Lib.hid hb; clear hb
  have hp := Hp.out.below hb; clear Hp; have Hp := Lib.hid hp; clear hp
  have hbw := HBW.out.trans (hb.mono HBW.out.size); clear HBW hb; have HBW := Lib.hid hbw; clear hbw
  have Hq := Lib.hid hs; clear hs K
  dsimp only
  go_wp2_with fail
  have k := eitherC Ha.out Hb.out (by have := LN.out; omega) (by have := LN.out; omega) (Nat.le_trans (mul_le LN.out.1 LN.out.2 (Nat.le_refl _)) (by omega))
  obtain ⟨r, hp⟩ : ∃ p, ifS (decide (Alike a b)) (eitherS a b) = p := ⟨_, rfl⟩
  obtain ⟨er, hep⟩ : ∃ n, errS (decide (Alike a b)) = n := ⟨_, rfl⟩
  rw [hp, hep] at k
  have Lr := Lib.hid (show r.length ≤ 900 by rw [← hp]; exact ifS_len (by have := ofS_len (pairsS a b); rw [pairs_len] at this; have := mul_le (n := 900) LN.out.1 LN.out.2 (by omega); unfold eitherS; omega))
  have Er := Lib.hid (And.intro hp hep); have K := Lib.hid k; clear k hp hep
  refine (K.out).mono ?_; rintro e v3 ⟨⟨Ar, cr, rfl, hs⟩, hb⟩
  have ha := Ha.out.below hb; clear Ha; have Ha := Lib.hid ha; clear ha
  have hb := Hb.out.below hb; clear Hb; have Hb := Lib.hid hb; clear hb
  have hp := Hp.out.below hb; clear Hp; have Hp := Lib.hid hp; clear hp
  have hq := Hq.out.below hb; clear Hq; have Hq := Lib.hid hq; clear hq
  have hbw := HBW.out.trans (hb.mono HBW.out.size); clear HBW hb; have HBW := Lib.hid hbw; clear hbw
  have Hr := Lib.hid hs; clear hs K
  dsimp only
  go_wp2_with fail
  have k := refEitherC Ha.out Hb.out LN.out.1 LN.out.2
  obtain ⟨s, hp⟩ : ∃ p, ifS (decide (Alike a b)) (eitherS a b) = p := ⟨_, rfl⟩
  obtain ⟨es, hep⟩ : ∃ n, errS (decide (Alike a b)) = n := ⟨_, rfl⟩
  rw [hp, hep] at k
  have Ls := Lib.hid (show s.length ≤ 900 by rw [← hp]; exact ifS_len (by have := ofS_len (pairsS a b); rw [pairs_len] at this; have := mul_le (n := 900) LN.out.1 LN.out.2 (by omega); unfold eitherS; omega))
  have Es := Lib.hid (And.intro hp hep); have K := Lib.hid k; clear k hp hep
  refine (K.out).mono ?_; rintro e v4 ⟨⟨As, cs, rfl, hs⟩, hb⟩
  have ha := Ha.out.below hb; clear Ha; have Ha := Lib.hid ha; clear ha
  have hb := Hb.out.below hb; clear Hb; have Hb := Lib.hid hb; clear hb
  have hp := Hp.out.below hb; clear Hp; have Hp := Lib.hid hp; clear hp
  have hq := Hq.out.below hb; clear Hq; have Hq := Lib.hid hq; clear hq
  have hr := Hr.out.below hb; clear Hr; have Hr := Lib.hid hr; clear hr
  have hbw := HBW.out.trans (hb.mono HBW.out.size); clear HBW hb; have HBW := Lib.hid hbw; clear hbw
  have Hs := Lib.hid hs; clear hs K
  have e1 : p = q := Ep.out.1.symm.trans Eq.out.1
  have e2 : ep = eq := Ep.out.2.symm.trans Eq.out.2
  have e3 : r = s := Er.out.1.symm.trans Es.out.1
  have e4 : er = es := Er.out.2.symm.trans Es.out.2
  subst e1; subst e2; subst e3; subst e4
  clear Ep Eq Er Es Lq Ls
  dsimp only
  go_wp2_with fail
  refine (refSameW Hp.out Hq.out (by have := Lp.out; omega) (by have := Lp.out; omega) (decide_eq_true rfl) _ (Below.refl _ _)).mono ?_; rintro e v5 ⟨rfl, hb⟩
  have ha := Ha.out.below hb; clear Ha; have Ha := Lib.hid ha; clear ha
  have hb := Hb.out.below hb; clear Hb; have Hb := Lib.hid hb; clear hb
  have hp := Hp.out.below hb; clear Hp; have Hp := Lib.hid hp; clear hp
  have hq := Hq.out.below hb; clear Hq; have Hq := Lib.hid hq; clear hq
  have hr := Hr.out.below hb; clear Hr; have Hr := Lib.hid hr; clear hr
  have hs := Hs.out.below hb; clear Hs; have Hs := Lib.hid hs; clear hs
  have hbw := HBW.out.trans (hb.mono HBW.out.size); clear HBW hb; have HBW := Lib.hid hbw; clear hbw
  go_wp2_with fail
  refine (refSameW Hr.out Hs.out (by have := Lr.out; omega) (by have := Lr.out; omega) (decide_eq_true rfl) _ (Below.refl _ _)).mono ?_; rintro e v6 ⟨rfl, hb⟩
  have ha := Ha.out.below hb; clear Ha; have Ha := Lib.hid ha; clear ha
  have hb := Hb.out.below hb; clear Hb; have Hb := Lib.hid hb; clear hb
  have hp := Hp.out.below hb; clear Hp; have Hp := Lib.hid hp; clear hp
  have hq := Hq.out.below hb; clear Hq; have Hq := Lib.hid hq; clear hq
  have hr := Hr.out.below hb; clear Hr; have Hr := Lib.hid hr; clear hr
  have hs := Hs.out.below hb; clear Hs; have Hs := Lib.hid hs; clear hs
  have hbw := HBW.out.trans (hb.mono HBW.out.size); clear HBW hb; have HBW := Lib.hid hbw; clear hbw
  obtain ⟨uv, huv⟩ : ∃ v, decide (Under a b) = v := ⟨_, rfl⟩
  obtain ⟨sv, hsv⟩ : ∃ v, decide (a = b) = v := ⟨_, rfl⟩
  have UV := Lib.hid huv; have SV := Lib.hid hsv; clear huv hsv
  go_wp2_with fail
  refine (withinW Ha.out Hb.out (by have := LN.out; omega) (by have := LN.out; omega) UV.out _ (Below.refl _ _)).mono ?_; rintro e v7 ⟨rfl, hb⟩
  have ha := Ha.out.below hb; clear Ha; have Ha := Lib.hid ha; clear ha
  have hb := Hb.out.below hb; clear Hb; have Hb := Lib.hid hb; clear hb
  have hp := Hp.out.below hb; clear Hp; have Hp := Lib.hid hp; clear hp
  have hq := Hq.out.below hb; clear Hq; have Hq := Lib.hid hq; clear hq
  have hr := Hr.out.below hb; clear Hr; have Hr := Lib.hid hr; clear hr
  have hs := Hs.out.below hb; clear Hs; have Hs := Lib.hid hs; clear hs
  have hbw := HBW.out.trans (hb.mono HBW.out.size); clear HBW hb; have HBW := Lib.hid hbw; clear hbw
  go_wp2_with fail
  refine (refWithinW Ha.out Hb.out (by have := LN.out; omega) (by have := LN.out; omega) UV.out _ (Below.refl _ _)).mono ?_; rintro e v8 ⟨rfl, hb⟩
  have ha := Ha.out.below hb; clear Ha; have Ha := Lib.hid ha; clear ha
  have hb := Hb.out.below hb; clear Hb; have Hb := Lib.hid hb; clear hb
  have hp := Hp.out.below hb; clear Hp; have Hp := Lib.hid hp; clear hp
  have hq := Hq.out.below hb; clear Hq; have Hq := Lib.hid hq; clear hq
  have hr := Hr.out.below hb; clear Hr; have Hr := Lib.hid hr; clear hr
  have hs := Hs.out.below hb; clear Hs; have Hs := Lib.hid hs; clear hs
  have hbw := HBW.out.trans (hb.mono HBW.out.size); clear HBW hb; have HBW := Lib.hid hbw; clear hbw
  go_wp2_with fail
  refine (sameW Ha.out Hb.out (by have := LN.out; omega) (by have := LN.out; omega) SV.out _ (Below.refl _ _)).mono ?_; rintro e v9 ⟨rfl, hb⟩
  have ha := Ha.out.below hb; clear Ha; have Ha := Lib.hid ha; clear ha
  have hb := Hb.out.below hb; clear Hb; have Hb := Lib.hid hb; clear hb
  have hp := Hp.out.below hb; clear Hp; have Hp := Lib.hid hp; clear hp
  have hq := Hq.out.below hb; clear Hq; have Hq := Lib.hid hq; clear hq
  have hr := Hr.out.below hb; clear Hr; have Hr := Lib.hid hr; clear hr
  have hs := Hs.out.below hb; clear Hs; have Hs := Lib.hid hs; clear hs
  have hbw := HBW.out.trans (hb.mono HBW.out.size); clear HBW hb; have HBW := Lib.hid hbw; clear hbw
  go_wp2_with fail
  refine (refSameW Ha.out Hb.out (by have := LN.out; omega) (by have := LN.out; omega) SV.out _ (Below.refl _ _)).mono ?_; rintro e v10 ⟨rfl, hb⟩
  have ha := Ha.out.below hb; clear Ha; have Ha := Lib.hid ha; clear ha
  have hb := Hb.out.below hb; clear Hb; have Hb := Lib.hid hb; clear hb
  have hp := Hp.out.below hb; clear Hp; have Hp := Lib.hid hp; clear hp
  have hq := Hq.out.below hb; clear Hq; have Hq := Lib.hid hq; clear hq
  have hr := Hr.out.below hb; clear Hr; have Hr := Lib.hid hr; clear hr
  have hs := Hs.out.below hb; clear Hs; have Hs := Lib.hid hs; clear hs
  have hbw := HBW.out.trans (hb.mono HBW.out.size); clear HBW hb; have HBW := Lib.hid hbw; clear hbw
  go_wp2_with fail
  refine (sameW Ha.out Ha.out (by have := LN.out; omega) (by have := LN.out; omega) (decide_eq_true rfl) _ (Below.refl _ _)).mono ?_; rintro e v11 ⟨rfl, hb⟩
  have ha := Ha.out.below hb; clear Ha; have Ha := Lib.hid ha; clear ha
  have hb := Hb.out.below hb; clear Hb; have Hb := Lib.hid hb; clear hb
  have hp := Hp.out.below hb; clear Hp; have Hp := Lib.hid hp; clear hp
  have hq := Hq.out.below hb; clear Hq; have Hq := Lib.hid hq; clear hq
  have hr := Hr.out.below hb; clear Hr; have Hr := Lib.hid hr; clear hr
  have hs := Hs.out.below hb; clear Hs; have Hs := Lib.hid hs; clear hs
  have hbw := HBW.out.trans (hb.mono HBW.out.size); clear HBW hb; have HBW := Lib.hid hbw; clear hbw
  go_wp2_with fail
  refine (WW.out _).mono ?_; rintro e we ⟨rfl, hbe⟩
  go_wp2_with fail
  go_ret
  exact ⟨rfl, HBW.out.trans (hbe.mono HBW.out.size)⟩

end antichainTwo
end Go.Proofs.Ytkbabmifdfmhlaa
