/- SummaryOrder: where one summary is at or ahead of another one, and that makes something of a time, so does it, of what is at or ahead of that; Apply goes with the order of times; a node of the other kinds changes nothing; for all summaries and times. -/
import Derived.Test.YtdpadkellpkppaaSmOrderB
namespace Go.Proofs.Ytdpadkellpkppaa
open Go.ChangeShapes Go.WideShapes Go.ChangeAt Go.RowKit Go.BigFrame
set_option linter.unusedVariables false
set_option maxRecDepth 100000
namespace summaryOrder
theorem walk (a b : Sm) (t s : St) (w : World) : Calls Try.prog 7 #[a.v, b.v, t.val, s.val] w fun e w' => e = .returned (.bool true) ∧ Below w.heap.size w w' := by
  have c1 := fun w => apply_any b t w
  have c2 := fun w => apply_any a t w
  have c3 := fun w => leqM_any a b w
  have c4 := fun w => leq_any (a.ap t) (b.ap t) w
  have c5 := fun w => apply_any b s w
  have c6 := fun w => leq_any s t w
  have c7 := fun w => leq_any (b.ap s) (b.ap t) w
  have c8 := fun w => of_any 2 t.d w
  have c9 := fun w => apply_any (Sm.of_ 2 t.d) t w
  have c10 := fun w => right_any t w
  have c11 := fun w => leqM_any a a w
  have c12 := fun w => rightM_any a w
  rw [show decide (a.L a) = decide a.R from decide_eq_decide.2 Sm.L_refl] at c11
  have hR : decide t.R = true → decide (okOf 2 t.d) = true ∧ (Sm.of_ 2 t.d).apB t = true ∧ (Sm.of_ 2 t.d).ap t = t := fun h => by
    obtain ⟨h1, h2, h3⟩ := map_same (of_decide_eq_true h)
    exact ⟨decide_eq_true h1, h2, h3⟩
  cases hOK : b.apB t with
  | false =>
    rw [hOK] at c1
    by_cases hL : a.L b
    · rw [decide_eq_true hL] at c3
      by_cases hM : s.L t
      · rw [decide_eq_true hM] at c6; exact w_011 a b _ t s _ _ _ _ _ _ _ _ _ _ w hR c1 c2 c3 c5 c6 c8 c9 c10 c11 c12
      · rw [decide_eq_false hM] at c6; exact w_010 a b _ t s _ _ _ _ _ _ _ _ _ _ w hR c1 c2 c3 c5 c6 c8 c9 c10 c11 c12
    · rw [decide_eq_false hL] at c3
      by_cases hM : s.L t
      · rw [decide_eq_true hM] at c6; exact w_001 a b _ t s _ _ _ _ _ _ _ _ _ _ w hR c1 c2 c3 c5 c6 c8 c9 c10 c11 c12
      · rw [decide_eq_false hM] at c6; exact w_000 a b _ t s _ _ _ _ _ _ _ _ _ _ w hR c1 c2 c3 c5 c6 c8 c9 c10 c11 c12
  | true =>
    rw [hOK] at c1
    obtain ⟨hbR, htR⟩ := ap_R hOK
    by_cases hL : a.L b
    · rw [decide_eq_true hL] at c3
      obtain ⟨e1, e2⟩ := ahead hL (St.L_refl.2 htR) hOK
      rw [e1] at c2; rw [decide_eq_true e2] at c4
      by_cases hM : s.L t
      · rw [decide_eq_true hM] at c6
        obtain ⟨f1, f2⟩ := ahead (Sm.L_refl.2 hbR) hM hOK
        rw [f1] at c5; rw [decide_eq_true f2] at c7
        exact w_111 a b _ t s _ _ _ _ false false _ _ _ _ w hR c1 c2 c3 c4 c5 c6 c7 c8 c9 c10 c11 c12
      · rw [decide_eq_false hM] at c6; exact w_110 a b _ t s _ _ _ _ false _ _ _ _ _ w hR c1 c2 c3 c4 c5 c6 c8 c9 c10 c11 c12
    · rw [decide_eq_false hL] at c3
      by_cases hM : s.L t
      · rw [decide_eq_true hM] at c6
        obtain ⟨f1, f2⟩ := ahead (Sm.L_refl.2 hbR) hM hOK
        rw [f1] at c5; rw [decide_eq_true f2] at c7
        exact w_101 a b _ t s _ _ _ _ _ false _ _ _ _ w hR c1 c2 c3 c5 c6 c7 c8 c9 c10 c11 c12
      · rw [decide_eq_false hM] at c6; exact w_100 a b _ t s _ _ _ _ _ _ _ _ _ _ w hR c1 c2 c3 c5 c6 c8 c9 c10 c11 c12

set_option maxRecDepth 100000 in
theorem lifted (os : Os) (started : os.Started) (H : Type) (enc : TypeId × Value → H) :
    ReturnsInHanded {} Try.checked os 7 .any (Rows.summaryOrderSpec.pre6 enc Try.prog Try.f7 Rows.summaryOrderRow.domain false) (Rows.summaryOrderSpec.post enc Try.prog Try.f7 false true false false) := by
  refine returnsInHanded_of_change_sized (C := Try.checked) ownKnob_none started (by kernel_rfl) Try.func7
    (ChangeSpec.witness6 (enc := enc) (C := Try.checked) false ⟨#[], #[.agg #[.int .i64 0, .int .i64 0, .int .i64 0, .int .i64 0, .int .i64 0, .int .i64 0, .int .i64 0], .agg #[.int .i64 0, .int .i64 0, .int .i64 0, .int .i64 0, .int .i64 0, .int .i64 0, .int .i64 0], .agg #[.int .i64 0, .int .i64 0, .int .i64 0, .int .i64 0, .int .i64 0], .agg #[.int .i64 0, .int .i64 0, .int .i64 0, .int .i64 0, .int .i64 0]], []⟩ 8 (by kernel_rfl) (by kernel_rfl) (by kernel_rfl) (by kernel_rfl)) ?_
  intro W base args ds gs before hval0 hW hcnd hsz0 _
  have hval : ∀ (j : Nat) t v, Try.f7.params[j]? = some t → args[j]? = some v → Value.okWide Try.prog W .any base t v := hval0
  have hW' := hW
  obtain ⟨p, q, hA0, hV, rfl, hfz, hnd⟩ := hW
  have hA : DataW.TrodAll enc Try.prog W 0 (fun _ => true) true Try.f7.params.toList args.toList ds p := hA0
  have hsz : (DataW.weightsEach Try.prog (Try.f7.params.toList ++ Rows.summaryOrderSpec.plain.varTypes Try.prog) (ds ++ gs)).all (· ≤ reachBytes) = true := hsz0
  rw [Try.params7] at hA hval hsz
  obtain ⟨v0, vs0, d0, ds0, p0, q0, hargs, rfl, rfl, h0, r0⟩ := trodAll_cons hA
  obtain ⟨v1, vs1, d1, ds1, p1, q1, rfl, rfl, rfl, h1, r1⟩ := trodAll_cons r0
  obtain ⟨v2, vs2, d2, ds2, p2, q2, rfl, rfl, rfl, h2, r2⟩ := trodAll_cons r1
  obtain ⟨v3, vs3, d3, ds3, p3, q3, rfl, rfl, rfl, h3, r3⟩ := trodAll_cons r2
  obtain ⟨rfl, rfl, rfl⟩ := trodAll_nil r3
  obtain rfl : args = #[v0, v1, v2, v3] := by cases args; simp_all
  obtain ⟨rfl, rfl⟩ := trodVars_none hV
  obtain ⟨t0, rfl⟩ := open_sum (hval 0 24 v0 rfl rfl) h0
  obtain ⟨t1, rfl⟩ := open_sum (hval 1 24 v1 rfl rfl) h1
  obtain ⟨t2, rfl⟩ := open_stamp (hval 2 26 v2 rfl rfl) h2
  obtain ⟨t3, rfl⟩ := open_stamp (hval 3 26 v3 rfl rfl) h3
  clear hA0 hval0 hsz0
  refine (walk t0 t1 t2 t3 W).mono fun e W' ⟨he, hg⟩ => ?_
  subst he
  exact ⟨_, rfl, law_post progLaid hW' rfl (by rw [Try.params7]; intro t ht; simp at ht; rcases ht with rfl | rfl <;> exact ⟨by kernel_rfl, of_decide_eq_true (by kernel_rfl)⟩) rfl Try.underlying4 rfl hg⟩

theorem over : Rows.summaryOrderRow.holds Try.pinned (OpenSpec.ofChange Rows.summaryOrderSpec) :=
  OpenClaim.holds_of_wide 7 Try.f7 rfl rfl rfl rfl rfl rfl rfl ⟨rfl, rfl, rfl, rfl, rfl⟩ rfl rfl rfl rfl rfl (by kernel_rfl) Try.func7 (by kernel_rfl)
    (of_decide_eq_true (by kernel_rfl)) (by unfold Func.isWrapper; first | (rw [if_pos (by decide +kernel)]; kernel_rfl) | (rw [if_neg (by decide +kernel)]; exact ⟨rfl, rfl⟩))
    (fun os started H enc _ => lifted os started H enc)

/-- The statement. -/
theorem proved : Rows.SummaryOrderSaid :=
  over
end summaryOrder
end Go.Proofs.Ytdpadkellpkppaa
