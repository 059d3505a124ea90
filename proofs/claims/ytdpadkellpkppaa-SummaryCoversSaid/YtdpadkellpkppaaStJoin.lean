/- Join, the program's and the document's. -/
import Derived.Test.YtdpadkellpkppaaStBothG
namespace Go.Proofs.Ytdpadkellpkppaa
open Go.ChangeShapes Go.WideShapes Go.ChangeAt Go.RowKit Go.BigFrame
set_option linter.unusedVariables false
set_option maxRecDepth 100000
theorem zero_val : St.zero.val = .agg #[.int .i64 0, .int .i64 0, .int .i64 0, .int .i64 0, .int .i64 0] := rfl
theorem both_Join (a b : St) (w : World) : Calls Try.prog 52 #[a.val, b.val, .func (.func 53) #[] #[]] w fun e w' => e = .returned (.tuple #[(St.pick true a b).val, .bool (decide (a.B b))]) ∧ Below w.heap.size w w' := by
  by_cases h : a.B b
  · obtain ⟨n, hn⟩ : ∃ n : Nat, a.d = n := ⟨a.d.toNat, by have := h.1; unfold St.R at this; omega⟩
    have := both_yes_greater a b n w hn h
    rw [part_d _ _ _ h hn] at this
    rw [decide_eq_true h]; exact this
  · have := both_no_greater a b w h
    rw [decide_eq_false h, St.pick, if_neg h]; exact this
theorem join_any (a b : St) (w : World) : Calls Try.prog 41 #[a.val, b.val] w fun e w' => e = .returned (.tuple #[(a.join b).val, .bool (decide (a.B b))]) ∧ Below w.heap.size w w' := by
  have hc := fun w => both_Join a b w
  rw [pick_join] at hc
  generalize a.join b = T at *
  generalize decide (a.B b) = B at *
  have HC := Lib.hid hc; clear hc
  obtain ⟨d, e, x, y, z⟩ := a
  obtain ⟨d', e', x', y', z'⟩ := b
  obtain ⟨p, q, r, s, t⟩ := T
  unfold St.val at *
  simp only at HC ⊢
  have hz := zero_made ((w.alloc (.cells #[.int .i64 d, .int .i64 e, .int .i64 x, .int .i64 y, .int .i64 z] 26)).alloc (.cells #[.int .i64 d', .int .i64 e', .int .i64 x', .int .i64 y', .int .i64 z'] 26))
  rw [size_alloc, size_alloc] at hz
  have HZ := Lib.hid hz; clear hz
  go_enter Try.func41, Try.ntmps41
  go_wp2_with fail
  refine (HC.out _).mono ?_; rintro e1 w1 ⟨rfl, hb1⟩
  have h2 := HZ.out.below hb1
  obtain ⟨f0, f1, f2, f3, f4⟩ := h2.free5
  obtain ⟨c0, c1, c2, c3, c4⟩ := h2.cells5
  have H2 := Lib.hid h2; have HB := Lib.hid hb1; clear h2 hb1
  go_wp2_with fail
  refine bodyPost_ret (v := .tuple #[.agg #[.int .i64 p, .int .i64 q, .int .i64 r, .int .i64 s, .int .i64 t], .bool B]) (two_results rfl _ _ _ 26 _ (0, 0) _ rfl (Holds.all H2.out _ _ _ _ _) Try.underlying26 rfl (by kernel_rfl) rfl) rfl ?_
  exact ⟨rfl, below_set5 (g := w.heap.size + 1 + 1) (below3 HB.out) (by omega)⟩
end Go.Proofs.Ytdpadkellpkppaa
