/- StOut, OpRound -/
import Derived.Test.YtcjdjdhjbchaaaaCa21
import Derived.Test.YtcjdjdhjbchaaaaCa13
import Derived.Test.YtcjdjdhjbchaaaaCa22
import Derived.Deep.QuietTactic
import Derived.BigQuiet
namespace Go.Proofs.Ytcjdjdhjbchaaaa
set_option linter.unusedVariables false
section
open Go.ChangeShapes Go.WideShapes Go.ChangeAt Go.RowKit Go.BigFrame
set_option maxHeartbeats 4000000 in
theorem out_any (t : St) (w : World) : Calls Try.prog 36 #[t.val] w fun e w' => e = .returned (.tuple #[(ov t.out).val, .bool t.out.isSome]) ∧ Below w.heap.size w w' := by
  have hn : ¬ t.R → t.out = none := fun h => by unfold St.out; rw [if_neg (fun hc => h hc.1)]
  by_cases hR : t.R
  · have HR := Lib.hid (right_is (decide_eq_true hR) (right_any t))
    have hRd : t.R := hR
    have hd : t.d = 0 ∨ t.d = 1 ∨ t.d = 2 ∨ t.d = 3 := by unfold St.R at hRd; omega
    have HRt := Lib.hid hRd
    clear hR hRd hn
    obtain ⟨d, e, x, y, z⟩ := t
    unfold St.val at *
    simp only at hd HR ⊢
    rcases hd with rfl | rfl | rfl | rfl
    · have hv : St.out ⟨0, e, x, y, z⟩ = none := by unfold St.out; exact if_neg (by simp)
      rw [hv]; clear hv HRt
      unfold ov
      simp only [Option.getD_none, Option.getD_some, Option.isSome_none, Option.isSome_some, zero_val]
      have hz := zero_made (w.alloc (.cells #[.int .i64 0, .int .i64 e, .int .i64 x, .int .i64 y, .int .i64 z] 40))
      rw [size_alloc] at hz
      have hy := (Holds.made w ⟨0, e, x, y, z⟩).alloc (.cells #[.int .i64 0, .int .i64 0, .int .i64 0, .int .i64 0, .int .i64 0] 40)
      have HZ := Lib.hid hz; have HY := Lib.hid hy; clear hz hy
      go_enter Try.func36, Try.ntmps36
      go_wp2_with fail
      refine (HR.out _).mono ?_; rintro e1 w1 ⟨rfl, hb1⟩
      have h2 := HZ.out.below hb1
      have h1 := HY.out.below hb1
      have hbw := stBelow2 hb1
      obtain ⟨f0, f1, f2, f3, f4⟩ := h2.free5
      obtain ⟨c0, c1, c2, c3, c4⟩ := h2.cells5
      obtain ⟨d0, d1, d2, d3, d4⟩ := h1.cells5
      obtain ⟨g0, g1, g2, g3, g4⟩ := h1.free5
      simp only at d0 d1 d2 d3 d4
      have H1 := Lib.hid h1; have H2 := Lib.hid h2; have HB := Lib.hid hbw; clear h1 h2 hb1 hbw HY HZ
      go_wp2_with fail
      refine bodyPost_ret (v := .tuple #[.agg #[.int .i64 0, .int .i64 0, .int .i64 0, .int .i64 0, .int .i64 0], .bool false]) (two_results rfl _ _ _ 40 _ (0, 0) _ rfl (Holds.all (H2.out) _ _ _ _ _) Try.underlying40 rfl (by kernel_rfl) rfl) rfl ?_
      exact ⟨rfl, below_set5 (g := w.heap.size + 1) (HB.out) (by omega)⟩
    · have hv : St.out ⟨1, e, x, y, z⟩ = some ⟨0, e, 0, y, z⟩ := by have hr := HRt.out; unfold St.out; rw [if_pos (by simp [hr])]; rfl
      rw [hv]; clear hv HRt
      unfold ov
      simp only [Option.getD_none, Option.getD_some, Option.isSome_none, Option.isSome_some, zero_val]
      have hz := zero_made (w.alloc (.cells #[.int .i64 1, .int .i64 e, .int .i64 x, .int .i64 y, .int .i64 z] 40))
      rw [size_alloc] at hz
      have hy := (Holds.made w ⟨1, e, x, y, z⟩).alloc (.cells #[.int .i64 0, .int .i64 0, .int .i64 0, .int .i64 0, .int .i64 0] 40)
      have HZ := Lib.hid hz; have HY := Lib.hid hy; clear hz hy
      go_enter Try.func36, Try.ntmps36
      go_wp2_with fail
      refine (HR.out _).mono ?_; rintro e1 w1 ⟨rfl, hb1⟩
      have h2 := HZ.out.below hb1
      have h1 := HY.out.below hb1
      have hbw := stBelow2 hb1
      obtain ⟨f0, f1, f2, f3, f4⟩ := h2.free5
      obtain ⟨c0, c1, c2, c3, c4⟩ := h2.cells5
      obtain ⟨d0, d1, d2, d3, d4⟩ := h1.cells5
      obtain ⟨g0, g1, g2, g3, g4⟩ := h1.free5
      simp only at d0 d1 d2 d3 d4
      have H1 := Lib.hid h1; have H2 := Lib.hid h2; have HB := Lib.hid hbw; clear h1 h2 hb1 hbw HY HZ
      go_wp2_with fail
      refine bodyPost_ret (v := .tuple #[.agg #[.int .i64 0, .int .i64 e, .int .i64 0, .int .i64 y, .int .i64 z], .bool true]) (two_results rfl _ _ _ 40 _ (0, 0) _ rfl (Holds.all (((H2.out).far (by simp) _).far (by simp) _) _ _ _ _ _) Try.underlying40 rfl (by kernel_rfl) rfl) rfl ?_
      exact ⟨rfl, below_set5 (g := w.heap.size + 1) (((HB.out).setCell (by simp) _).setCell (by simp) _) (by omega)⟩
    · have hv : St.out ⟨2, e, x, y, z⟩ = some ⟨1, e, x, 0, z⟩ := by have hr := HRt.out; unfold St.out; rw [if_pos (by simp [hr])]; rfl
      rw [hv]; clear hv HRt
      unfold ov
      simp only [Option.getD_none, Option.getD_some, Option.isSome_none, Option.isSome_some, zero_val]
      have hz := zero_made (w.alloc (.cells #[.int .i64 2, .int .i64 e, .int .i64 x, .int .i64 y, .int .i64 z] 40))
      rw [size_alloc] at hz
      have hy := (Holds.made w ⟨2, e, x, y, z⟩).alloc (.cells #[.int .i64 0, .int .i64 0, .int .i64 0, .int .i64 0, .int .i64 0] 40)
      have HZ := Lib.hid hz; have HY := Lib.hid hy; clear hz hy
      go_enter Try.func36, Try.ntmps36
      go_wp2_with fail
      refine (HR.out _).mono ?_; rintro e1 w1 ⟨rfl, hb1⟩
      have h2 := HZ.out.below hb1
      have h1 := HY.out.below hb1
      have hbw := stBelow2 hb1
      obtain ⟨f0, f1, f2, f3, f4⟩ := h2.free5
      obtain ⟨c0, c1, c2, c3, c4⟩ := h2.cells5
      obtain ⟨d0, d1, d2, d3, d4⟩ := h1.cells5
      obtain ⟨g0, g1, g2, g3, g4⟩ := h1.free5
      simp only at d0 d1 d2 d3 d4
      have H1 := Lib.hid h1; have H2 := Lib.hid h2; have HB := Lib.hid hbw; clear h1 h2 hb1 hbw HY HZ
      go_wp2_with fail
      refine bodyPost_ret (v := .tuple #[.agg #[.int .i64 1, .int .i64 e, .int .i64 x, .int .i64 0, .int .i64 z], .bool true]) (two_results rfl _ _ _ 40 _ (0, 0) _ rfl (Holds.all (((H2.out).far (by simp) _).far (by simp) _) _ _ _ _ _) Try.underlying40 rfl (by kernel_rfl) rfl) rfl ?_
      exact ⟨rfl, below_set5 (g := w.heap.size + 1) (((HB.out).setCell (by simp) _).setCell (by simp) _) (by omega)⟩
    · have hv : St.out ⟨3, e, x, y, z⟩ = some ⟨2, e, x, y, 0⟩ := by have hr := HRt.out; unfold St.out; rw [if_pos (by simp [hr])]; rfl
      rw [hv]; clear hv HRt
      unfold ov
      simp only [Option.getD_none, Option.getD_some, Option.isSome_none, Option.isSome_some, zero_val]
      have hz := zero_made (w.alloc (.cells #[.int .i64 3, .int .i64 e, .int .i64 x, .int .i64 y, .int .i64 z] 40))
      rw [size_alloc] at hz
      have hy := (Holds.made w ⟨3, e, x, y, z⟩).alloc (.cells #[.int .i64 0, .int .i64 0, .int .i64 0, .int .i64 0, .int .i64 0] 40)
      have HZ := Lib.hid hz; have HY := Lib.hid hy; clear hz hy
      go_enter Try.func36, Try.ntmps36
      go_wp2_with fail
      refine (HR.out _).mono ?_; rintro e1 w1 ⟨rfl, hb1⟩
      have h2 := HZ.out.below hb1
      have h1 := HY.out.below hb1
      have hbw := stBelow2 hb1
      obtain ⟨f0, f1, f2, f3, f4⟩ := h2.free5
      obtain ⟨c0, c1, c2, c3, c4⟩ := h2.cells5
      obtain ⟨d0, d1, d2, d3, d4⟩ := h1.cells5
      obtain ⟨g0, g1, g2, g3, g4⟩ := h1.free5
      simp only at d0 d1 d2 d3 d4
      have H1 := Lib.hid h1; have H2 := Lib.hid h2; have HB := Lib.hid hbw; clear h1 h2 hb1 hbw HY HZ
      go_wp2_with fail
      refine bodyPost_ret (v := .tuple #[.agg #[.int .i64 2, .int .i64 e, .int .i64 x, .int .i64 y, .int .i64 0], .bool true]) (two_results rfl _ _ _ 40 _ (0, 0) _ rfl (Holds.all (((H2.out).far (by simp) _).far (by simp) _) _ _ _ _ _) Try.underlying40 rfl (by kernel_rfl) rfl) rfl ?_
      exact ⟨rfl, below_set5 (g := w.heap.size + 1) (((HB.out).setCell (by simp) _).setCell (by simp) _) (by omega)⟩
  · have HR := Lib.hid (right_is (decide_eq_false hR) (right_any t))
    have hv := hn hR
    clear hR hn
    rw [hv]; clear hv
    unfold ov
    simp only [Option.getD_none, Option.isSome_none, zero_val]
    obtain ⟨d, e, x, y, z⟩ := t
    unfold St.val at *
    simp only at HR ⊢
    have hz := zero_made (w.alloc (.cells #[.int .i64 d, .int .i64 e, .int .i64 x, .int .i64 y, .int .i64 z] 40))
    rw [size_alloc] at hz
    have hy := (Holds.made w ⟨d, e, x, y, z⟩).alloc (.cells #[.int .i64 0, .int .i64 0, .int .i64 0, .int .i64 0, .int .i64 0] 40)
    have HZ := Lib.hid hz; have HY := Lib.hid hy; clear hz hy
    go_enter Try.func36, Try.ntmps36
    go_wp2_with fail
    refine (HR.out _).mono ?_; rintro e1 w1 ⟨rfl, hb1⟩
    have h2 := HZ.out.below hb1
    have h1 := HY.out.below hb1
    have hbw := stBelow2 hb1
    obtain ⟨f0, f1, f2, f3, f4⟩ := h2.free5
    obtain ⟨c0, c1, c2, c3, c4⟩ := h2.cells5
    obtain ⟨d0, d1, d2, d3, d4⟩ := h1.cells5
    obtain ⟨g0, g1, g2, g3, g4⟩ := h1.free5
    simp only at d0 d1 d2 d3 d4
    have H1 := Lib.hid h1; have H2 := Lib.hid h2; have HB := Lib.hid hbw; clear h1 h2 hb1 hbw HY HZ
    go_wp2_with fail
    refine bodyPost_ret (v := .tuple #[.agg #[.int .i64 0, .int .i64 0, .int .i64 0, .int .i64 0, .int .i64 0], .bool false]) (two_results rfl _ _ _ 40 _ (0, 0) _ rfl (Holds.all (H2.out) _ _ _ _ _) Try.underlying40 rfl (by kernel_rfl) rfl) rfl ?_
    exact ⟨rfl, below_set5 (g := w.heap.size + 1) (HB.out) (by omega)⟩
set_option maxHeartbeats 4000000 in
theorem refOut_any (t : St) (w : World) : Calls Try.prog 39 #[t.val] w fun e w' => e = .returned (.tuple #[(ov t.out).val, .bool t.out.isSome]) ∧ Below w.heap.size w w' := by
  have hn : ¬ t.R → t.out = none := fun h => by unfold St.out; rw [if_neg (fun hc => h hc.1)]
  by_cases hR : t.R
  · have HR := Lib.hid (right_is (decide_eq_true hR) (refRight_any t))
    have hRd : t.R := hR
    have hd : t.d = 0 ∨ t.d = 1 ∨ t.d = 2 ∨ t.d = 3 := by unfold St.R at hRd; omega
    have HRt := Lib.hid hRd
    clear hR hRd hn
    obtain ⟨d, e, x, y, z⟩ := t
    unfold St.val at *
    simp only at hd HR ⊢
    rcases hd with rfl | rfl | rfl | rfl
    · have hv : St.out ⟨0, e, x, y, z⟩ = none := by unfold St.out; exact if_neg (by simp)
      rw [hv]; clear hv HRt
      unfold ov
      simp only [Option.getD_none, Option.getD_some, Option.isSome_none, Option.isSome_some, zero_val]
      have hz := zero_made (w.alloc (.cells #[.int .i64 0, .int .i64 e, .int .i64 x, .int .i64 y, .int .i64 z] 40))
      rw [size_alloc] at hz
      have hy := (Holds.made w ⟨0, e, x, y, z⟩).alloc (.cells #[.int .i64 0, .int .i64 0, .int .i64 0, .int .i64 0, .int .i64 0] 40)
      have HZ := Lib.hid hz; have HY := Lib.hid hy; clear hz hy
      go_enter Try.func39, Try.ntmps39
      go_wp2_with fail
      refine (HR.out _).mono ?_; rintro e1 w1 ⟨rfl, hb1⟩
      have h2 := HZ.out.below hb1
      have h1 := HY.out.below hb1
      have hbw := stBelow2 hb1
      obtain ⟨f0, f1, f2, f3, f4⟩ := h2.free5
      obtain ⟨c0, c1, c2, c3, c4⟩ := h2.cells5
      obtain ⟨d0, d1, d2, d3, d4⟩ := h1.cells5
      obtain ⟨g0, g1, g2, g3, g4⟩ := h1.free5
      simp only at d0 d1 d2 d3 d4
      have H1 := Lib.hid h1; have H2 := Lib.hid h2; have HB := Lib.hid hbw; clear h1 h2 hb1 hbw HY HZ
      go_wp2_with fail
      refine bodyPost_ret (v := .tuple #[.agg #[.int .i64 0, .int .i64 0, .int .i64 0, .int .i64 0, .int .i64 0], .bool false]) (two_results rfl _ _ _ 40 _ (0, 0) _ rfl (Holds.all (H2.out) _ _ _ _ _) Try.underlying40 rfl (by kernel_rfl) rfl) rfl ?_
      exact ⟨rfl, below_set5 (g := w.heap.size + 1) (HB.out) (by omega)⟩
    · have hv : St.out ⟨1, e, x, y, z⟩ = some ⟨0, e, 0, y, z⟩ := by have hr := HRt.out; unfold St.out; rw [if_pos (by simp [hr])]; rfl
      rw [hv]; clear hv HRt
      unfold ov
      simp only [Option.getD_none, Option.getD_some, Option.isSome_none, Option.isSome_some, zero_val]
      have hz := zero_made (w.alloc (.cells #[.int .i64 1, .int .i64 e, .int .i64 x, .int .i64 y, .int .i64 z] 40))
      rw [size_alloc] at hz
      have hy := (Holds.made w ⟨1, e, x, y, z⟩).alloc (.cells #[.int .i64 0, .int .i64 0, .int .i64 0, .int .i64 0, .int .i64 0] 40)
      have HZ := Lib.hid hz; have HY := Lib.hid hy; clear hz hy
      go_enter Try.func39, Try.ntmps39
      go_wp2_with fail
      refine (HR.out _).mono ?_; rintro e1 w1 ⟨rfl, hb1⟩
      have h2 := HZ.out.below hb1
      have h1 := HY.out.below hb1
      have hbw := stBelow2 hb1
      obtain ⟨f0, f1, f2, f3, f4⟩ := h2.free5
      obtain ⟨c0, c1, c2, c3, c4⟩ := h2.cells5
      obtain ⟨d0, d1, d2, d3, d4⟩ := h1.cells5
      obtain ⟨g0, g1, g2, g3, g4⟩ := h1.free5
      simp only at d0 d1 d2 d3 d4
      have H1 := Lib.hid h1; have H2 := Lib.hid h2; have HB := Lib.hid hbw; clear h1 h2 hb1 hbw HY HZ
      go_wp2_with fail
      refine bodyPost_ret (v := .tuple #[.agg #[.int .i64 0, .int .i64 e, .int .i64 0, .int .i64 y, .int .i64 z], .bool true]) (two_results rfl _ _ _ 40 _ (0, 0) _ rfl (Holds.all (((H2.out).far (by simp) _).far (by simp) _) _ _ _ _ _) Try.underlying40 rfl (by kernel_rfl) rfl) rfl ?_
      exact ⟨rfl, below_set5 (g := w.heap.size + 1) (((HB.out).setCell (by simp) _).setCell (by simp) _) (by omega)⟩
    · have hv : St.out ⟨2, e, x, y, z⟩ = some ⟨1, e, x, 0, z⟩ := by have hr := HRt.out; unfold St.out; rw [if_pos (by simp [hr])]; rfl
      rw [hv]; clear hv HRt
      unfold ov
      simp only [Option.getD_none, Option.getD_some, Option.isSome_none, Option.isSome_some, zero_val]
      have hz := zero_made (w.alloc (.cells #[.int .i64 2, .int .i64 e, .int .i64 x, .int .i64 y, .int .i64 z] 40))
      rw [size_alloc] at hz
      have hy := (Holds.made w ⟨2, e, x, y, z⟩).alloc (.cells #[.int .i64 0, .int .i64 0, .int .i64 0, .int .i64 0, .int .i64 0] 40)
      have HZ := Lib.hid hz; have HY := Lib.hid hy; clear hz hy
      go_enter Try.func39, Try.ntmps39
      go_wp2_with fail
      refine (HR.out _).mono ?_; rintro e1 w1 ⟨rfl, hb1⟩
      have h2 := HZ.out.below hb1
      have h1 := HY.out.below hb1
      have hbw := stBelow2 hb1
      obtain ⟨f0, f1, f2, f3, f4⟩ := h2.free5
      obtain ⟨c0, c1, c2, c3, c4⟩ := h2.cells5
      obtain ⟨d0, d1, d2, d3, d4⟩ := h1.cells5
      obtain ⟨g0, g1, g2, g3, g4⟩ := h1.free5
      simp only at d0 d1 d2 d3 d4
      have H1 := Lib.hid h1; have H2 := Lib.hid h2; have HB := Lib.hid hbw; clear h1 h2 hb1 hbw HY HZ
      go_wp2_with fail
      refine bodyPost_ret (v := .tuple #[.agg #[.int .i64 1, .int .i64 e, .int .i64 x, .int .i64 0, .int .i64 z], .bool true]) (two_results rfl _ _ _ 40 _ (0, 0) _ rfl (Holds.all (((H2.out).far (by simp) _).far (by simp) _) _ _ _ _ _) Try.underlying40 rfl (by kernel_rfl) rfl) rfl ?_
      exact ⟨rfl, below_set5 (g := w.heap.size + 1) (((HB.out).setCell (by simp) _).setCell (by simp) _) (by omega)⟩
    · have hv : St.out ⟨3, e, x, y, z⟩ = some ⟨2, e, x, y, 0⟩ := by have hr := HRt.out; unfold St.out; rw [if_pos (by simp [hr])]; rfl
      rw [hv]; clear hv HRt
      unfold ov
      simp only [Option.getD_none, Option.getD_some, Option.isSome_none, Option.isSome_some, zero_val]
      have hz := zero_made (w.alloc (.cells #[.int .i64 3, .int .i64 e, .int .i64 x, .int .i64 y, .int .i64 z] 40))
      rw [size_alloc] at hz
      have hy := (Holds.made w ⟨3, e, x, y, z⟩).alloc (.cells #[.int .i64 0, .int .i64 0, .int .i64 0, .int .i64 0, .int .i64 0] 40)
      have HZ := Lib.hid hz; have HY := Lib.hid hy; clear hz hy
      go_enter Try.func39, Try.ntmps39
      go_wp2_with fail
      refine (HR.out _).mono ?_; rintro e1 w1 ⟨rfl, hb1⟩
      have h2 := HZ.out.below hb1
      have h1 := HY.out.below hb1
      have hbw := stBelow2 hb1
      obtain ⟨f0, f1, f2, f3, f4⟩ := h2.free5
      obtain ⟨c0, c1, c2, c3, c4⟩ := h2.cells5
      obtain ⟨d0, d1, d2, d3, d4⟩ := h1.cells5
      obtain ⟨g0, g1, g2, g3, g4⟩ := h1.free5
      simp only at d0 d1 d2 d3 d4
      have H1 := Lib.hid h1; have H2 := Lib.hid h2; have HB := Lib.hid hbw; clear h1 h2 hb1 hbw HY HZ
      go_wp2_with fail
      refine bodyPost_ret (v := .tuple #[.agg #[.int .i64 2, .int .i64 e, .int .i64 x, .int .i64 y, .int .i64 0], .bool true]) (two_results rfl _ _ _ 40 _ (0, 0) _ rfl (Holds.all (((H2.out).far (by simp) _).far (by simp) _) _ _ _ _ _) Try.underlying40 rfl (by kernel_rfl) rfl) rfl ?_
      exact ⟨rfl, below_set5 (g := w.heap.size + 1) (((HB.out).setCell (by simp) _).setCell (by simp) _) (by omega)⟩
  · have HR := Lib.hid (right_is (decide_eq_false hR) (refRight_any t))
    have hv := hn hR
    clear hR hn
    rw [hv]; clear hv
    unfold ov
    simp only [Option.getD_none, Option.isSome_none, zero_val]
    obtain ⟨d, e, x, y, z⟩ := t
    unfold St.val at *
    simp only at HR ⊢
    have hz := zero_made (w.alloc (.cells #[.int .i64 d, .int .i64 e, .int .i64 x, .int .i64 y, .int .i64 z] 40))
    rw [size_alloc] at hz
    have hy := (Holds.made w ⟨d, e, x, y, z⟩).alloc (.cells #[.int .i64 0, .int .i64 0, .int .i64 0, .int .i64 0, .int .i64 0] 40)
    have HZ := Lib.hid hz; have HY := Lib.hid hy; clear hz hy
    go_enter Try.func39, Try.ntmps39
    go_wp2_with fail
    refine (HR.out _).mono ?_; rintro e1 w1 ⟨rfl, hb1⟩
    have h2 := HZ.out.below hb1
    have h1 := HY.out.below hb1
    have hbw := stBelow2 hb1
    obtain ⟨f0, f1, f2, f3, f4⟩ := h2.free5
    obtain ⟨c0, c1, c2, c3, c4⟩ := h2.cells5
    obtain ⟨d0, d1, d2, d3, d4⟩ := h1.cells5
    obtain ⟨g0, g1, g2, g3, g4⟩ := h1.free5
    simp only at d0 d1 d2 d3 d4
    have H1 := Lib.hid h1; have H2 := Lib.hid h2; have HB := Lib.hid hbw; clear h1 h2 hb1 hbw HY HZ
    go_wp2_with fail
    refine bodyPost_ret (v := .tuple #[.agg #[.int .i64 0, .int .i64 0, .int .i64 0, .int .i64 0, .int .i64 0], .bool false]) (two_results rfl _ _ _ 40 _ (0, 0) _ rfl (Holds.all (H2.out) _ _ _ _ _) Try.underlying40 rfl (by kernel_rfl) rfl) rfl ?_
    exact ⟨rfl, below_set5 (g := w.heap.size + 1) (HB.out) (by omega)⟩
end

section
namespace Op
open Go.ChangeShapes Go.WideShapes Go.ChangeAt Go.RowKit Go.BigFrame Vr
set_option maxRecDepth 100000
def roundB (t : St) (bound : Int) : Option St := match t.round with | some u => if u.last < bound then some u else none | none => none
theorem round_d {t u : St} (h : t.round = some u) : u.d = 1 ∨ u.d = 2 ∨ u.d = 3 := by
  unfold St.round at h
  split at h
  · rename_i hc
    injection h with h
    subst h
    have := hc.1; unfold St.R at this
    simp only; omega
  · cases h
@[reducible] def zeroC : Obj := .cells #[.int .i64 0, .int .i64 0, .int .i64 0, .int .i64 0, .int .i64 0] 40
set_option maxHeartbeats 4000000 in
theorem opRound_any (t : St) (bound : Int) (w : World) : Calls Try.prog 37 #[t.val, .int .i64 bound] w fun e w' => e = .returned (.tuple #[(ov (roundB t bound)).val, .bool (roundB t bound).isSome]) ∧ Below w.heap.size w w' := by
  have HC := Lib.hid fun w' => step_any t w'
  have hz := zero_made (w.alloc (.cells #[.int .i64 t.d, .int .i64 t.e, .int .i64 t.x, .int .i64 t.y, .int .i64 t.z] 40))
  rw [size_alloc] at hz
  have hb := ((Below.refl _ w).alloc (Nat.le_refl _) (.cells #[.int .i64 t.d, .int .i64 t.e, .int .i64 t.x, .int .i64 t.y, .int .i64 t.z] 40)).alloc (by simp) (.cells #[.int .i64 0, .int .i64 0, .int .i64 0, .int .i64 0, .int .i64 0] 40)
  have HZ := Lib.hid hz; have HB := Lib.hid hb; clear hz hb
  cases hr : t.round with
  | none =>
    have e0 : roundB t bound = none := by unfold roundB; rw [hr]
    rw [e0]
    rw [hr] at HC
    unfold ov at *
    simp only [Option.getD_none, Option.isSome_none, zero_val] at HC ⊢
    clear hr e0
    go_enter Try.func37, Try.ntmps37
    go_wp2_with fail
    refine (HC.out _).mono ?_; rintro e1 w1 ⟨rfl, hb1⟩
    have hb2 := HB.out.trans (hb1.mono HB.out.size)
    have h2 := HZ.out.below hb1
    have hgz := h2.lt
    clear HZ HB HC hb1
    go_upto_region 2 with fail
    have hb3 := hb2.alloc hb2.size (.cells #[.int .i64 0, .int .i64 0, .int .i64 0, .int .i64 0, .int .i64 0] 40)
    have h3 := h2.alloc (.cells #[.int .i64 0, .int .i64 0, .int .i64 0, .int .i64 0, .int .i64 0] 40)
    generalize w1.alloc (.cells #[.int .i64 0, .int .i64 0, .int .i64 0, .int .i64 0, .int .i64 0] 40) = wz at *
    obtain ⟨f0, f1, f2, f3, f4⟩ := h3.free5
    obtain ⟨c0, c1, c2, c3, c4⟩ := h3.cells5
    have H3 := Lib.hid h3; have HB3 := Lib.hid hb3; clear h3 hb3 h2 hb2 hgz
    go_wp2_with fail
    refine bodyPost_ret (v := .tuple #[.agg #[.int .i64 0, .int .i64 0, .int .i64 0, .int .i64 0, .int .i64 0], .bool false]) (two_results rfl _ _ _ 40 _ (0, 0) _ rfl (Holds.all H3.out _ _ _ _ _) Try.underlying40 rfl (by kernel_rfl) rfl) rfl ?_
    exact ⟨rfl, below_set5 (g := w.heap.size + 1) HB3.out (by omega)⟩
  | some u =>
    have hd := round_d hr
    rw [hr] at HC
    obtain ⟨ud, ue, ux, uy, uz⟩ := u
    simp only at hd
    unfold ov at *
    simp only [Option.getD_some, Option.isSome_some] at HC
    rcases hd with rfl | rfl | rfl
    · by_cases hl : ux < bound
      · have e0 : roundB t bound = some ⟨1, ue, ux, uy, uz⟩ := by unfold roundB; rw [hr]; simp [St.last, hl]
        rw [e0]
        simp only [Option.getD_some, Option.isSome_some, Option.getD_none, Option.isSome_none, zero_val]
        clear hr e0
        go_enter Try.func37, Try.ntmps37
        go_wp2_with fail
        refine (HC.out _).mono ?_; rintro e1 w1 ⟨rfl, hb1⟩
        have hb2 := HB.out.trans (hb1.mono HB.out.size)
        have h2 := HZ.out.below hb1
        clear HZ HB HC hb1
        go_upto_region 2 with fail
        have hb3 := hb2.alloc hb2.size (.cells #[.int .i64 1, .int .i64 ue, .int .i64 ux, .int .i64 uy, .int .i64 uz] 40)
        have h3 := h2.alloc (.cells #[.int .i64 1, .int .i64 ue, .int .i64 ux, .int .i64 uy, .int .i64 uz] 40)
        have h4 := Holds.made w1 ⟨1, ue, ux, uy, uz⟩
        have hgz : w.heap.size + 1 < w1.heap.size := h2.lt
        simp only [St.cells, List.toArray] at h4
        generalize w1.alloc (.cells #[.int .i64 1, .int .i64 ue, .int .i64 ux, .int .i64 uy, .int .i64 uz] 40) = wz at *
        generalize w1.heap.size = g4 at *
        obtain ⟨f0, f1, f2, f3, f4⟩ := h3.free5
        obtain ⟨c0, c1, c2, c3, c4⟩ := h3.cells5
        obtain ⟨d0, d1, d2, d3, d4⟩ := h4.cells5
        simp only at d0 d1 d2 d3 d4
        have H3 := Lib.hid h3; have HB3 := Lib.hid hb3; clear h3 hb3 h2 hb2 h4
        go_wp2_with fail
        refine bodyPost_ret (v := .tuple #[.agg #[.int .i64 1, .int .i64 ue, .int .i64 ux, .int .i64 uy, .int .i64 uz], .bool true]) (two_results rfl _ _ _ 40 _ (0, 0) _ rfl (Holds.all H3.out _ _ _ _ _) Try.underlying40 rfl (by kernel_rfl) rfl) rfl ?_
        exact ⟨rfl, below_set5 (g := w.heap.size + 1) HB3.out (by omega)⟩
      · have e0 : roundB t bound = none := by unfold roundB; rw [hr]; simp [St.last, hl]
        rw [e0]
        simp only [Option.getD_some, Option.isSome_some, Option.getD_none, Option.isSome_none, zero_val]
        clear hr e0
        go_enter Try.func37, Try.ntmps37
        go_wp2_with fail
        refine (HC.out _).mono ?_; rintro e1 w1 ⟨rfl, hb1⟩
        have hb2 := HB.out.trans (hb1.mono HB.out.size)
        have h2 := HZ.out.below hb1
        clear HZ HB HC hb1
        go_upto_region 2 with fail
        have hb3 := hb2.alloc hb2.size (.cells #[.int .i64 1, .int .i64 ue, .int .i64 ux, .int .i64 uy, .int .i64 uz] 40)
        have h3 := h2.alloc (.cells #[.int .i64 1, .int .i64 ue, .int .i64 ux, .int .i64 uy, .int .i64 uz] 40)
        have h4 := Holds.made w1 ⟨1, ue, ux, uy, uz⟩
        have hgz : w.heap.size + 1 < w1.heap.size := h2.lt
        simp only [St.cells, List.toArray] at h4
        generalize w1.alloc (.cells #[.int .i64 1, .int .i64 ue, .int .i64 ux, .int .i64 uy, .int .i64 uz] 40) = wz at *
        generalize w1.heap.size = g4 at *
        obtain ⟨f0, f1, f2, f3, f4⟩ := h3.free5
        obtain ⟨c0, c1, c2, c3, c4⟩ := h3.cells5
        obtain ⟨d0, d1, d2, d3, d4⟩ := h4.cells5
        simp only at d0 d1 d2 d3 d4
        have H3 := Lib.hid h3; have HB3 := Lib.hid hb3; clear h3 hb3 h2 hb2 h4
        go_wp2_with fail
        refine bodyPost_ret (v := .tuple #[.agg #[.int .i64 0, .int .i64 0, .int .i64 0, .int .i64 0, .int .i64 0], .bool false]) (two_results rfl _ _ _ 40 _ (0, 0) _ rfl (Holds.all H3.out _ _ _ _ _) Try.underlying40 rfl (by kernel_rfl) rfl) rfl ?_
        exact ⟨rfl, below_set5 (g := w.heap.size + 1) HB3.out (by omega)⟩
    · by_cases hl : uy < bound
      · have e0 : roundB t bound = some ⟨2, ue, ux, uy, uz⟩ := by unfold roundB; rw [hr]; simp [St.last, hl]
        rw [e0]
        simp only [Option.getD_some, Option.isSome_some, Option.getD_none, Option.isSome_none, zero_val]
        clear hr e0
        go_enter Try.func37, Try.ntmps37
        go_wp2_with fail
        refine (HC.out _).mono ?_; rintro e1 w1 ⟨rfl, hb1⟩
        have hb2 := HB.out.trans (hb1.mono HB.out.size)
        have h2 := HZ.out.below hb1
        clear HZ HB HC hb1
        go_upto_region 2 with fail
        have hb3 := hb2.alloc hb2.size (.cells #[.int .i64 2, .int .i64 ue, .int .i64 ux, .int .i64 uy, .int .i64 uz] 40)
        have h3 := h2.alloc (.cells #[.int .i64 2, .int .i64 ue, .int .i64 ux, .int .i64 uy, .int .i64 uz] 40)
        have h4 := Holds.made w1 ⟨2, ue, ux, uy, uz⟩
        have hgz : w.heap.size + 1 < w1.heap.size := h2.lt
        simp only [St.cells, List.toArray] at h4
        generalize w1.alloc (.cells #[.int .i64 2, .int .i64 ue, .int .i64 ux, .int .i64 uy, .int .i64 uz] 40) = wz at *
        generalize w1.heap.size = g4 at *
        obtain ⟨f0, f1, f2, f3, f4⟩ := h3.free5
        obtain ⟨c0, c1, c2, c3, c4⟩ := h3.cells5
        obtain ⟨d0, d1, d2, d3, d4⟩ := h4.cells5
        simp only at d0 d1 d2 d3 d4
        have H3 := Lib.hid h3; have HB3 := Lib.hid hb3; clear h3 hb3 h2 hb2 h4
        go_wp2_with fail
        refine bodyPost_ret (v := .tuple #[.agg #[.int .i64 2, .int .i64 ue, .int .i64 ux, .int .i64 uy, .int .i64 uz], .bool true]) (two_results rfl _ _ _ 40 _ (0, 0) _ rfl (Holds.all H3.out _ _ _ _ _) Try.underlying40 rfl (by kernel_rfl) rfl) rfl ?_
        exact ⟨rfl, below_set5 (g := w.heap.size + 1) HB3.out (by omega)⟩
      · have e0 : roundB t bound = none := by unfold roundB; rw [hr]; simp [St.last, hl]
        rw [e0]
        simp only [Option.getD_some, Option.isSome_some, Option.getD_none, Option.isSome_none, zero_val]
        clear hr e0
        go_enter Try.func37, Try.ntmps37
        go_wp2_with fail
        refine (HC.out _).mono ?_; rintro e1 w1 ⟨rfl, hb1⟩
        have hb2 := HB.out.trans (hb1.mono HB.out.size)
        have h2 := HZ.out.below hb1
        clear HZ HB HC hb1
        go_upto_region 2 with fail
        have hb3 := hb2.alloc hb2.size (.cells #[.int .i64 2, .int .i64 ue, .int .i64 ux, .int .i64 uy, .int .i64 uz] 40)
        have h3 := h2.alloc (.cells #[.int .i64 2, .int .i64 ue, .int .i64 ux, .int .i64 uy, .int .i64 uz] 40)
        have h4 := Holds.made w1 ⟨2, ue, ux, uy, uz⟩
        have hgz : w.heap.size + 1 < w1.heap.size := h2.lt
        simp only [St.cells, List.toArray] at h4
        generalize w1.alloc (.cells #[.int .i64 2, .int .i64 ue, .int .i64 ux, .int .i64 uy, .int .i64 uz] 40) = wz at *
        generalize w1.heap.size = g4 at *
        obtain ⟨f0, f1, f2, f3, f4⟩ := h3.free5
        obtain ⟨c0, c1, c2, c3, c4⟩ := h3.cells5
        obtain ⟨d0, d1, d2, d3, d4⟩ := h4.cells5
        simp only at d0 d1 d2 d3 d4
        have H3 := Lib.hid h3; have HB3 := Lib.hid hb3; clear h3 hb3 h2 hb2 h4
        go_wp2_with fail
        refine bodyPost_ret (v := .tuple #[.agg #[.int .i64 0, .int .i64 0, .int .i64 0, .int .i64 0, .int .i64 0], .bool false]) (two_results rfl _ _ _ 40 _ (0, 0) _ rfl (Holds.all H3.out _ _ _ _ _) Try.underlying40 rfl (by kernel_rfl) rfl) rfl ?_
        exact ⟨rfl, below_set5 (g := w.heap.size + 1) HB3.out (by omega)⟩
    · by_cases hl : uz < bound
      · have e0 : roundB t bound = some ⟨3, ue, ux, uy, uz⟩ := by unfold roundB; rw [hr]; simp [St.last, hl]
        rw [e0]
        simp only [Option.getD_some, Option.isSome_some, Option.getD_none, Option.isSome_none, zero_val]
        clear hr e0
        go_enter Try.func37, Try.ntmps37
        go_wp2_with fail
        refine (HC.out _).mono ?_; rintro e1 w1 ⟨rfl, hb1⟩
        have hb2 := HB.out.trans (hb1.mono HB.out.size)
        have h2 := HZ.out.below hb1
        clear HZ HB HC hb1
        go_upto_region 2 with fail
        have hb3 := hb2.alloc hb2.size (.cells #[.int .i64 3, .int .i64 ue, .int .i64 ux, .int .i64 uy, .int .i64 uz] 40)
        have h3 := h2.alloc (.cells #[.int .i64 3, .int .i64 ue, .int .i64 ux, .int .i64 uy, .int .i64 uz] 40)
        have h4 := Holds.made w1 ⟨3, ue, ux, uy, uz⟩
        have hgz : w.heap.size + 1 < w1.heap.size := h2.lt
        simp only [St.cells, List.toArray] at h4
        generalize w1.alloc (.cells #[.int .i64 3, .int .i64 ue, .int .i64 ux, .int .i64 uy, .int .i64 uz] 40) = wz at *
        generalize w1.heap.size = g4 at *
        obtain ⟨f0, f1, f2, f3, f4⟩ := h3.free5
        obtain ⟨c0, c1, c2, c3, c4⟩ := h3.cells5
        obtain ⟨d0, d1, d2, d3, d4⟩ := h4.cells5
        simp only at d0 d1 d2 d3 d4
        have H3 := Lib.hid h3; have HB3 := Lib.hid hb3; clear h3 hb3 h2 hb2 h4
        go_wp2_with fail
        refine bodyPost_ret (v := .tuple #[.agg #[.int .i64 3, .int .i64 ue, .int .i64 ux, .int .i64 uy, .int .i64 uz], .bool true]) (two_results rfl _ _ _ 40 _ (0, 0) _ rfl (Holds.all H3.out _ _ _ _ _) Try.underlying40 rfl (by kernel_rfl) rfl) rfl ?_
        exact ⟨rfl, below_set5 (g := w.heap.size + 1) HB3.out (by omega)⟩
      · have e0 : roundB t bound = none := by unfold roundB; rw [hr]; simp [St.last, hl]
        rw [e0]
        simp only [Option.getD_some, Option.isSome_some, Option.getD_none, Option.isSome_none, zero_val]
        clear hr e0
        go_enter Try.func37, Try.ntmps37
        go_wp2_with fail
        refine (HC.out _).mono ?_; rintro e1 w1 ⟨rfl, hb1⟩
        have hb2 := HB.out.trans (hb1.mono HB.out.size)
        have h2 := HZ.out.below hb1
        clear HZ HB HC hb1
        go_upto_region 2 with fail
        have hb3 := hb2.alloc hb2.size (.cells #[.int .i64 3, .int .i64 ue, .int .i64 ux, .int .i64 uy, .int .i64 uz] 40)
        have h3 := h2.alloc (.cells #[.int .i64 3, .int .i64 ue, .int .i64 ux, .int .i64 uy, .int .i64 uz] 40)
        have h4 := Holds.made w1 ⟨3, ue, ux, uy, uz⟩
        have hgz : w.heap.size + 1 < w1.heap.size := h2.lt
        simp only [St.cells, List.toArray] at h4
        generalize w1.alloc (.cells #[.int .i64 3, .int .i64 ue, .int .i64 ux, .int .i64 uy, .int .i64 uz] 40) = wz at *
        generalize w1.heap.size = g4 at *
        obtain ⟨f0, f1, f2, f3, f4⟩ := h3.free5
        obtain ⟨c0, c1, c2, c3, c4⟩ := h3.cells5
        obtain ⟨d0, d1, d2, d3, d4⟩ := h4.cells5
        simp only at d0 d1 d2 d3 d4
        have H3 := Lib.hid h3; have HB3 := Lib.hid hb3; clear h3 hb3 h2 hb2 h4
        go_wp2_with fail
        refine bodyPost_ret (v := .tuple #[.agg #[.int .i64 0, .int .i64 0, .int .i64 0, .int .i64 0, .int .i64 0], .bool false]) (two_results rfl _ _ _ 40 _ (0, 0) _ rfl (Holds.all H3.out _ _ _ _ _) Try.underlying40 rfl (by kernel_rfl) rfl) rfl ?_
        exact ⟨rfl, below_set5 (g := w.heap.size + 1) HB3.out (by omega)⟩
end Op
end
end Go.Proofs.Ytcjdjdhjbchaaaa
