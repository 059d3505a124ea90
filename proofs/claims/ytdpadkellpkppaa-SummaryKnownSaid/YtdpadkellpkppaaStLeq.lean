/- Leq, the program's and the document's. -/
import Derived.Test.YtdpadkellpkppaaStBothB
namespace Go.Proofs.Ytdpadkellpkppaa
open Go.ChangeShapes Go.WideShapes Go.ChangeAt Go.RowKit Go.BigFrame
set_option linter.unusedVariables false
set_option maxRecDepth 100000
theorem L_join (a b : St) (h : a.B b) : a.L b ↔ (a.join b).e = b.e ∧ (a.join b).x = b.x ∧ (a.join b).y = b.y ∧ (a.join b).z = b.z := by
  rw [St.join_eq h]
  unfold St.B at h
  unfold St.L
  simp only
  constructor
  · rintro ⟨h1, h2, h3, h4, h5, h6, h7⟩; omega
  · rintro ⟨h1, h2, h3, h4⟩; exact ⟨h.1, h.2.1, h.2.2, by omega, by omega, by omega, by omega⟩
set_option maxHeartbeats 1000000 in
theorem leq_any (a b : St) (w : World) : Calls Try.prog 27 #[a.val, b.val] w fun e w' => e = .returned (.bool (decide (a.L b))) ∧ Below w.heap.size w w' := by
  have hc := fun w => join_any a b w
  by_cases hB : a.B b
  · have hj := L_join a b hB
    have hdec : decide (a.L b) = (((a.join b).e == b.e) && eqL (a.join b).x (a.join b).y (a.join b).z b.x b.y b.z) := by
      unfold eqL
      rw [Bool.eq_iff_iff]
      simp [hj]
    rw [decide_eq_true hB] at hc
    rw [hdec]; clear hdec hj hB
    generalize a.join b = T at *
    have HC := Lib.hid hc; clear hc
    obtain ⟨d, e, x, y, z⟩ := a
    obtain ⟨d', e', x', y', z'⟩ := b
    obtain ⟨p, q, r, s, t⟩ := T
    unfold St.val at *
    simp only at HC ⊢
    have hy := Holds.made (w.alloc (.cells #[.int .i64 d, .int .i64 e, .int .i64 x, .int .i64 y, .int .i64 z] 26)) ⟨d', e', x', y', z'⟩
    rw [size_alloc] at hy
    have HY := Lib.hid hy; clear hy
    have hE : ∀ w, (Op.equalIn 10000 22 (.agg #[.int .i64 r, .int .i64 s, .int .i64 t]) (.agg #[.int .i64 x', .int .i64 y', .int .i64 z'])).run Try.prog w = .ok (eqL r s t x' y' z') w := fun w => eq3 9998 _ _ _ _ _ _ w
    generalize eqL r s t x' y' z' = v at *
    have HE := Lib.hid hE; clear hE
    by_cases hq : q = e'
    · subst hq
      rw [beq_self_eq_true, Bool.true_and]
      go_enter Try.func27, Try.ntmps27
      go_wp2_with fail
      refine (HC.out _).mono ?_; rintro e1 w1 ⟨rfl, hb1⟩
      have h2 := HY.out.below hb1
      have hbw := below2 hb1
      have hsz := hb1.size
      simp only [size_alloc] at hsz
      obtain ⟨c0, c1, c2, c3, c4⟩ := h2.cells5
      simp only at c0 c1 c2 c3 c4
      have m1 : w.heap.size + 1 ≠ w1.heap.size := by omega
      have m2 : w.heap.size + 1 < w1.heap.size := by omega
      have hE := HE.out
      have HB := Lib.hid hbw; clear h2 hb1 hbw hsz
      go_wp2_with fail
      go_ret
      exact ⟨rfl, HB.out.alloc HB.out.size _⟩
    · have hq' : (q == e') = false := by rw [beq_eq_false_iff_ne]; exact hq
      rw [hq', Bool.false_and]
      clear hq
      go_enter Try.func27, Try.ntmps27
      go_wp2_with fail
      refine (HC.out _).mono ?_; rintro e1 w1 ⟨rfl, hb1⟩
      have h2 := HY.out.below hb1
      have hbw := below2 hb1
      have hsz := hb1.size
      simp only [size_alloc] at hsz
      obtain ⟨c0, c1, c2, c3, c4⟩ := h2.cells5
      simp only at c0 c1 c2 c3 c4
      have m1 : w.heap.size + 1 ≠ w1.heap.size := by omega
      have m2 : w.heap.size + 1 < w1.heap.size := by omega
      have HB := Lib.hid hbw; clear h2 hb1 hbw hsz
      go_wp2_with fail
      go_ret
      exact ⟨rfl, HB.out.alloc HB.out.size _⟩
  · have hl : decide (a.L b) = false := by rw [decide_eq_false_iff_not]; exact fun h => hB (St.L_B h)
    rw [decide_eq_false hB] at hc
    rw [hl]; clear hl hB
    generalize a.join b = T at *
    have HC := Lib.hid hc; clear hc
    obtain ⟨d, e, x, y, z⟩ := a
    obtain ⟨d', e', x', y', z'⟩ := b
    obtain ⟨p, q, r, s, t⟩ := T
    unfold St.val at *
    simp only at HC ⊢
    go_enter Try.func27, Try.ntmps27
    go_wp2_with fail
    refine (HC.out _).mono ?_; rintro e1 w1 ⟨rfl, hb1⟩
    have HB := Lib.hid (below2 hb1); clear hb1
    go_wp2_with fail
    go_ret
    exact ⟨rfl, HB.out.alloc HB.out.size _⟩
end Go.Proofs.Ytdpadkellpkppaa
