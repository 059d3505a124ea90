/- SummaryOrder: where one summary is at or ahead of another one, and that makes something of a time, so does it, of what is at or ahead of that; Apply goes with the order of times; a node of the other kinds changes nothing; for all summaries and times. -/
import Derived.Test.YtdpadkellpkppaaSmOrderB
namespace Go.Proofs.Ytdpadkellpkppaa
open Go.ChangeShapes Go.WideShapes Go.ChangeAt Go.RowKit Go.BigFrame
set_option linter.unusedVariables false
set_option maxRecDepth 100000
namespace summaryOrder
theorem walk (a b : Sm) (t s : St) (w : World) : Calls Try.prog 7 #[a.v, b.v, t.val, s.val] w fun e w' => e = .returned (.bool true) ∧ Below w.heap.size w w' := by
  have c1 := fun w => apply_any b t w
  have c2 := fun w => apply_any a t w
  have c3 := fun w => leqM_any a b w
  have c4 := fun w => leq_any (a.ap t) (b.ap t) w
  have c5 := fun w => apply_any b s w
  have c6 := fun w => leq_any s t w
  have c7 := fun w => leq_any (b.ap s) (b.ap t) w
  have c8 := fun w => of_any 2 t.d w
  have c9 := fun w => apply_any (Sm.of_ 2 t.d) t w
  have c10 := fun w => right_any t w
  have c11 := fun w => leqM_any a a w
  have c12 := fun w => rightM_any a w
  rw [show decide (a.L a) = decide a.R from decide_eq_decide.2 Sm.L_refl] at c11
  have hR : decide t.R = true → decide (okOf 2 t.d) = true ∧ (Sm.of_ 2 t.d).apB t = true ∧ (Sm.of_ 2 t.d).ap t = t := fun h => by
    obtain ⟨h1, h2, h3⟩ := map_same (of_decide_eq_true h)
    exact ⟨decide_eq_true h1, h2, h3⟩
  cases hOK : b.apB t with
  | false =>
    rw [hOK] at c1
    by_cases hL : a.L b
    · rw [decide_eq_true hL] at c3
      by_cases hM : s.L t
      · rw [decide_eq_true hM] at c6; exact w_011 a b _ t s _ _ _ _ _ _ _ _ _ _ w hR c1 c2 c3 c5 c6 c8 c9 c10 c11 c12
      · rw [decide_eq_false hM] at c6; exact w_010 a b _ t s _ _ _ _ _ _ _ _ _ _ w hR c1 c2 c3 c5 c6 c8 c9 c10 c11 c12
    · rw [decide_eq_false hL] at c3
      by_cases hM : s.L t
      · rw [decide_eq_true hM] at c6; exact w_001 a b _ t s _ _ _ _ _ _ _ _ _ _ w hR c1 c2 c3 c5 c6 c8 c9 c10 c11 c12
      · rw [decide_eq_false hM] at c6; exact w_000 a b _ t s _ _ _ _ _ _ _ _ _ _ w hR c1 c2 c3 c5 c6 c8 c9 c10 c11 c12
  | true =>
    rw [hOK] at c1
    obtain ⟨hbR, htR⟩ := ap_R hOK
    by_cases hL : a.L b
    · rw [decide_eq_true hL] at c3
      obtain ⟨e1, e2⟩ := ahead hL (St.L_refl.2 htR) hOK
      rw [e1] at c2; rw [decide_eq_true e2] at c4
      by_cases hM : s.L t
      · rw [decide_eq_true hM] at c6
        obtain ⟨f1, f2⟩ := ahead (Sm.L_refl.2 hbR) hM hOK
        rw [f1] at c5; rw [decide_eq_true f2] at c7
        exact w_111 a b _ t s _ _ _ _ false false _ _ _ _ w hR c1 c2 c3 c4 c5 c6 c7 c8 c9 c10 c11 c12
      · rw [decide_eq_false hM] at c6; exact w_110 a b _ t s _ _ _ _ false _ _ _ _ _ w hR c1 c2 c3 c4 c5 c6 c8 c9 c10 c11 c12
    · rw [decide_eq_false hL] at c3
      by_cases hM : s.L t
      · rw [decide_eq_true hM] at c6
        obtain ⟨f1, f2⟩ := ahead (Sm.L_refl.2 hbR) hM hOK
        rw [f1] at c5; rw [decide_eq_true f2] at c7
        exact w_101 a b _ t s _ _ _ _ _ false _ _ _ _ w hR c1 c2 c3 c5 c6 c7 c8 c9 c10 c11 c12
      · rw [decide_eq_false hM] at c6; exact w_100 a b _ t s _ _ _ _ _ _ _ _ _ _ w hR c1 c2 c3 c5 c6 c8 c9 c10 c11 c12
end summaryOrder
end Go.Proofs.Ytdpadkellpkppaa
