/- The program's joins and meets. -/
import Derived.Test.YtdpadkellpkppaaStRefA
import Derived.Test.YtdpadkellpkppaaStRight
namespace Go.Proofs.Ytdpadkellpkppaa
open Go.ChangeShapes Go.WideShapes Go.ChangeAt Go.RowKit Go.BigFrame
set_option linter.unusedVariables false
set_option maxRecDepth 100000
theorem greater_any (m n : Int) (w : World) : Calls Try.prog 53 #[.int .i64 m, .int .i64 n] w fun e w' => e = .returned (.int .i64 (pk true m n)) ∧ w' = w := by
  by_cases h : m < n
  · have h2 : pk true m n = n := by unfold pk; simp; omega
    rw [h2]; clear h2
    go_enter Try.func53, Try.ntmps53
    go_wp2_with fail
    go_ret
    exact ⟨rfl, rfl⟩
  · have h2 : pk true m n = m := by unfold pk; simp; omega
    rw [h2]; clear h2
    go_enter Try.func53, Try.ntmps53
    go_wp2_with fail
    go_ret
    exact ⟨rfl, rfl⟩
set_option maxHeartbeats 1000000 in
theorem both_no_greater (a b : St) (w : World) (h : ¬ a.B b) :
    Calls Try.prog 52 #[a.val, b.val, .func (.func 53) #[] #[]] w fun e w' => e = .returned (.tuple #[St.zero.val, .bool false]) ∧ Below w.heap.size w w' := by
  unfold St.B at h
  by_cases ha : a.R
  · by_cases hb : b.R
    · have hd : ¬ a.d = b.d := fun e => h ⟨ha, hb, e⟩
      have HA := Lib.hid (right_is (decide_eq_true ha) (right_any a)); have HB := Lib.hid (right_is (decide_eq_true hb) (right_any b)); clear ha hb h
      obtain ⟨d, e, x, y, z⟩ := a
      obtain ⟨d', e', x', y', z'⟩ := b
      unfold St.val at *
      simp only at hd HA HB ⊢
      have hd' : (d != d') = true := by simpa using hd
      clear hd
      have hz := zero_made ((w.alloc (.cells #[.int .i64 d, .int .i64 e, .int .i64 x, .int .i64 y, .int .i64 z] 26)).alloc (.cells #[.int .i64 d', .int .i64 e', .int .i64 x', .int .i64 y', .int .i64 z'] 26))
      rw [size_alloc, size_alloc] at hz
      have HZ := Lib.hid hz; clear hz
      go_enter Try.func52, Try.ntmps52
      go_wp2_with fail
      refine (HA.out _).mono ?_; rintro e w1 ⟨rfl, hb1⟩
      obtain ⟨hc1, hf1⟩ := old_cells hb1
      have HB1 := Lib.hid hb1; clear hb1
      go_wp2_with fail
      refine (HB.out _).mono ?_; rintro e w2 ⟨rfl, hb2⟩
      have hb12 := HB1.out.trans (hb2.mono HB1.out.size)
      clear hc1 hf1
      obtain ⟨hc1, hf1⟩ := old_cells hb12
      have HB12 := Lib.hid hb12; clear hb12 hb2
      go_wp2_with fail
      refine bodyPost_ret (v := .tuple #[.agg #[.int .i64 0, .int .i64 0, .int .i64 0, .int .i64 0, .int .i64 0], .bool false]) (two_results rfl _ _ _ 26 _ (0, 0) _ rfl (Holds.all (HZ.out.below HB12.out) 0 0 0 0 0) Try.underlying26 rfl (by kernel_rfl) rfl) rfl ?_
      exact ⟨rfl, below_set5 (g := w.heap.size + 1 + 1) (below3 HB12.out) (by omega)⟩
    · have HA := Lib.hid (right_is (decide_eq_true ha) (right_any a)); have HB := Lib.hid (right_is (decide_eq_false hb) (right_any b)); clear ha hb h
      obtain ⟨d, e, x, y, z⟩ := a
      obtain ⟨d', e', x', y', z'⟩ := b
      unfold St.val at *
      simp only at HA HB ⊢
      have hz := zero_made ((w.alloc (.cells #[.int .i64 d, .int .i64 e, .int .i64 x, .int .i64 y, .int .i64 z] 26)).alloc (.cells #[.int .i64 d', .int .i64 e', .int .i64 x', .int .i64 y', .int .i64 z'] 26))
      rw [size_alloc, size_alloc] at hz
      have HZ := Lib.hid hz; clear hz
      go_enter Try.func52, Try.ntmps52
      go_wp2_with fail
      refine (HA.out _).mono ?_; rintro e w1 ⟨rfl, hb1⟩
      obtain ⟨hc1, hf1⟩ := old_cells hb1
      have HB1 := Lib.hid hb1; clear hb1
      go_wp2_with fail
      refine (HB.out _).mono ?_; rintro e w2 ⟨rfl, hb2⟩
      have hb12 := HB1.out.trans (hb2.mono HB1.out.size)
      clear hc1 hf1
      obtain ⟨hc1, hf1⟩ := old_cells hb12
      have HB12 := Lib.hid hb12; clear hb12 hb2
      go_wp2_with fail
      refine bodyPost_ret (v := .tuple #[.agg #[.int .i64 0, .int .i64 0, .int .i64 0, .int .i64 0, .int .i64 0], .bool false]) (two_results rfl _ _ _ 26 _ (0, 0) _ rfl (Holds.all (HZ.out.below HB12.out) 0 0 0 0 0) Try.underlying26 rfl (by kernel_rfl) rfl) rfl ?_
      exact ⟨rfl, below_set5 (g := w.heap.size + 1 + 1) (below3 HB12.out) (by omega)⟩
  · have HA := Lib.hid (right_is (decide_eq_false ha) (right_any a)); clear ha h
    obtain ⟨d, e, x, y, z⟩ := a
    obtain ⟨d', e', x', y', z'⟩ := b
    unfold St.val at *
    simp only at HA ⊢
    have hz := zero_made ((w.alloc (.cells #[.int .i64 d, .int .i64 e, .int .i64 x, .int .i64 y, .int .i64 z] 26)).alloc (.cells #[.int .i64 d', .int .i64 e', .int .i64 x', .int .i64 y', .int .i64 z'] 26))
    rw [size_alloc, size_alloc] at hz
    have HZ := Lib.hid hz; clear hz
    go_enter Try.func52, Try.ntmps52
    go_wp2_with fail
    refine (HA.out _).mono ?_; rintro e w1 ⟨rfl, hb1⟩
    obtain ⟨hc1, hf1⟩ := old_cells hb1
    have HB1 := Lib.hid hb1; clear hb1
    go_wp2_with fail
    refine bodyPost_ret (v := .tuple #[.agg #[.int .i64 0, .int .i64 0, .int .i64 0, .int .i64 0, .int .i64 0], .bool false]) (two_results rfl _ _ _ 26 _ (0, 0) _ rfl (Holds.all (HZ.out.below HB1.out) 0 0 0 0 0) Try.underlying26 rfl (by kernel_rfl) rfl) rfl ?_
    exact ⟨rfl, below_set5 (g := w.heap.size + 1 + 1) (below3 HB1.out) (by omega)⟩
end Go.Proofs.Ytdpadkellpkppaa
