/- StStep -/
import Derived.Test.YtcjdjdhjbchaaaaCa21
namespace Go.Proofs.Ytcjdjdhjbchaaaa
set_option linter.unusedVariables false
section
open Go.ChangeShapes Go.WideShapes Go.ChangeAt Go.RowKit Go.BigFrame
set_option maxHeartbeats 4000000 in
theorem step_any (t : St) (w : World) : Calls Try.prog 68 #[t.val] w fun e w' => e = .returned (.tuple #[(ov t.round).val, .bool t.round.isSome]) ∧ Below w.heap.size w w' := by
  have hn : ¬ t.R → t.round = none := fun h => by unfold St.round; rw [if_neg (fun hc => h hc.1)]
  by_cases hR : t.R
  · have HR := Lib.hid (right_is (decide_eq_true hR) (right_any t))
    have hRd : t.R := hR
    have hd : t.d = 0 ∨ t.d = 1 ∨ t.d = 2 ∨ t.d = 3 := by unfold St.R at hRd; omega
    have HRt := Lib.hid hRd
    clear hR hRd hn
    obtain ⟨d, e, x, y, z⟩ := t
    unfold St.val at *
    simp only at hd HR ⊢
    rcases hd with rfl | rfl | rfl | rfl
    · have hv : St.round ⟨0, e, x, y, z⟩ = none := by unfold St.round; exact if_neg (by simp)
      rw [hv]; clear hv HRt
      unfold ov
      simp only [Option.getD_none, Option.getD_some, Option.isSome_none, Option.isSome_some, zero_val]
      have hz := zero_made (w.alloc (.cells #[.int .i64 0, .int .i64 e, .int .i64 x, .int .i64 y, .int .i64 z] 40))
      rw [size_alloc] at hz
      have hy := (Holds.made w ⟨0, e, x, y, z⟩).alloc (.cells #[.int .i64 0, .int .i64 0, .int .i64 0, .int .i64 0, .int .i64 0] 40)
      have HZ := Lib.hid hz; have HY := Lib.hid hy; clear hz hy
      go_enter Try.func68, Try.ntmps68
      go_wp2_with fail
      refine (HR.out _).mono ?_; rintro e1 w1 ⟨rfl, hb1⟩
      have h2 := HZ.out.below hb1
      have h1 := HY.out.below hb1
      have hbw := stBelow2 hb1
      obtain ⟨f0, f1, f2, f3, f4⟩ := h2.free5
      obtain ⟨c0, c1, c2, c3, c4⟩ := h2.cells5
      obtain ⟨d0, d1, d2, d3, d4⟩ := h1.cells5
      obtain ⟨g0, g1, g2, g3, g4⟩ := h1.free5
      simp only at d0 d1 d2 d3 d4
      have H1 := Lib.hid h1; have H2 := Lib.hid h2; have HB := Lib.hid hbw; clear h1 h2 hb1 hbw HY HZ
      go_wp2_with fail
      refine bodyPost_ret (v := .tuple #[.agg #[.int .i64 0, .int .i64 0, .int .i64 0, .int .i64 0, .int .i64 0], .bool false]) (two_results rfl _ _ _ 40 _ (0, 0) _ rfl (Holds.all (H2.out) _ _ _ _ _) Try.underlying40 rfl (by kernel_rfl) rfl) rfl ?_
      exact ⟨rfl, below_set5 (g := w.heap.size + 1) (HB.out) (by omega)⟩
    · have hb0 : 0 ≤ x ∧ x < 16 := by have hr := HRt.out; unfold St.R at hr; simp only at hr; omega
      obtain ⟨hv0, hv1⟩ := hb0
      by_cases hl : x + 1 < 16
      · have hv : St.round ⟨1, e, x, y, z⟩ = some ⟨1, e, x + 1, y, z⟩ := by have hr := HRt.out; unfold St.round; rw [if_pos ⟨hr, by simp, by simpa [St.last] using hl⟩]; rfl
        have HR2 := Lib.hid (right_is (t := ⟨1, e, x + 1, y, z⟩) (b := true) (by rw [decide_eq_true_iff]; have hr := HRt.out; unfold St.R at hr ⊢; simp only at hr ⊢; omega) (right_any _))
        unfold St.val at HR2
        simp only at HR2
        rw [hv]; clear hv HRt
        unfold ov
        simp only [Option.getD_none, Option.getD_some, Option.isSome_none, Option.isSome_some, zero_val]
        have hz := zero_made (w.alloc (.cells #[.int .i64 1, .int .i64 e, .int .i64 x, .int .i64 y, .int .i64 z] 40))
        rw [size_alloc] at hz
        have hy := (Holds.made w ⟨1, e, x, y, z⟩).alloc (.cells #[.int .i64 0, .int .i64 0, .int .i64 0, .int .i64 0, .int .i64 0] 40)
        have HZ := Lib.hid hz; have HY := Lib.hid hy; clear hz hy
        go_enter Try.func68, Try.ntmps68
        go_wp2_with fail
        refine (HR.out _).mono ?_; rintro e1 w1 ⟨rfl, hb1⟩
        have h2 := HZ.out.below hb1
        have h1 := HY.out.below hb1
        have hbw := stBelow2 hb1
        obtain ⟨f0, f1, f2, f3, f4⟩ := h2.free5
        obtain ⟨c0, c1, c2, c3, c4⟩ := h2.cells5
        obtain ⟨d0, d1, d2, d3, d4⟩ := h1.cells5
        obtain ⟨g0, g1, g2, g3, g4⟩ := h1.free5
        simp only at d0 d1 d2 d3 d4
        have H1 := Lib.hid h1; have H2 := Lib.hid h2; have HB := Lib.hid hbw; clear h1 h2 hb1 hbw HY HZ
        go_wp2_with fail
        have ht := H1.out.set 2 (x + 1) (t' := ⟨1, e, x + 1, y, z⟩) (by simp)
        have hz2 := H2.out.far (p := ⟨w.heap.size, 2, none⟩) (by simp) (.int .i64 (x + 1))
        have hb3 := HB.out.setCell (p := ⟨w.heap.size, 2, none⟩) (by simp) (.int .i64 (x + 1))
        refine (HR2.out _).mono ?_; rintro e2 w3 ⟨rfl, hb4⟩
        have h5 := hz2.below hb4
        have h6 := ht.below hb4
        have hb5 := hb3.trans (hb4.mono hb3.size)
        clear f0 f1 f2 f3 f4 c0 c1 c2 c3 c4 d0 d1 d2 d3 d4 g0 g1 g2 g3 g4
        obtain ⟨f0, f1, f2, f3, f4⟩ := h5.free5
        obtain ⟨c0, c1, c2, c3, c4⟩ := h5.cells5
        obtain ⟨d0, d1, d2, d3, d4⟩ := h6.cells5
        simp only at d0 d1 d2 d3 d4
        have H5 := Lib.hid h5; have HB5 := Lib.hid hb5; clear h5 h6 hb5 hb4 hb3 ht hz2
        go_wp2_with fail
        refine bodyPost_ret (v := .tuple #[.agg #[.int .i64 1, .int .i64 e, .int .i64 (x + 1), .int .i64 y, .int .i64 z], .bool true]) (two_results rfl _ _ _ 40 _ (0, 0) _ rfl (Holds.all (H5.out) _ _ _ _ _) Try.underlying40 rfl (by kernel_rfl) rfl) rfl ?_
        exact ⟨rfl, below_set5 (g := w.heap.size + 1) (HB5.out) (by omega)⟩
      · have hv : St.round ⟨1, e, x, y, z⟩ = none := by unfold St.round; exact if_neg (by simp [St.last]; omega)
        have HR2 := Lib.hid (right_is (t := ⟨1, e, x + 1, y, z⟩) (b := false) (by rw [decide_eq_false_iff_not]; unfold St.R; simp only; omega) (right_any _))
        unfold St.val at HR2
        simp only at HR2
        rw [hv]; clear hv HRt
        unfold ov
        simp only [Option.getD_none, Option.getD_some, Option.isSome_none, Option.isSome_some, zero_val]
        have hz := zero_made (w.alloc (.cells #[.int .i64 1, .int .i64 e, .int .i64 x, .int .i64 y, .int .i64 z] 40))
        rw [size_alloc] at hz
        have hy := (Holds.made w ⟨1, e, x, y, z⟩).alloc (.cells #[.int .i64 0, .int .i64 0, .int .i64 0, .int .i64 0, .int .i64 0] 40)
        have HZ := Lib.hid hz; have HY := Lib.hid hy; clear hz hy
        go_enter Try.func68, Try.ntmps68
        go_wp2_with fail
        refine (HR.out _).mono ?_; rintro e1 w1 ⟨rfl, hb1⟩
        have h2 := HZ.out.below hb1
        have h1 := HY.out.below hb1
        have hbw := stBelow2 hb1
        obtain ⟨f0, f1, f2, f3, f4⟩ := h2.free5
        obtain ⟨c0, c1, c2, c3, c4⟩ := h2.cells5
        obtain ⟨d0, d1, d2, d3, d4⟩ := h1.cells5
        obtain ⟨g0, g1, g2, g3, g4⟩ := h1.free5
        simp only at d0 d1 d2 d3 d4
        have H1 := Lib.hid h1; have H2 := Lib.hid h2; have HB := Lib.hid hbw; clear h1 h2 hb1 hbw HY HZ
        go_wp2_with fail
        have ht := H1.out.set 2 (x + 1) (t' := ⟨1, e, x + 1, y, z⟩) (by simp)
        have hz2 := H2.out.far (p := ⟨w.heap.size, 2, none⟩) (by simp) (.int .i64 (x + 1))
        have hb3 := HB.out.setCell (p := ⟨w.heap.size, 2, none⟩) (by simp) (.int .i64 (x + 1))
        refine (HR2.out _).mono ?_; rintro e2 w3 ⟨rfl, hb4⟩
        have h5 := hz2.below hb4
        have h6 := ht.below hb4
        have hb5 := hb3.trans (hb4.mono hb3.size)
        clear f0 f1 f2 f3 f4 c0 c1 c2 c3 c4 d0 d1 d2 d3 d4 g0 g1 g2 g3 g4
        obtain ⟨f0, f1, f2, f3, f4⟩ := h5.free5
        obtain ⟨c0, c1, c2, c3, c4⟩ := h5.cells5
        obtain ⟨d0, d1, d2, d3, d4⟩ := h6.cells5
        simp only at d0 d1 d2 d3 d4
        have H5 := Lib.hid h5; have HB5 := Lib.hid hb5; clear h5 h6 hb5 hb4 hb3 ht hz2
        go_wp2_with fail
        refine bodyPost_ret (v := .tuple #[.agg #[.int .i64 0, .int .i64 0, .int .i64 0, .int .i64 0, .int .i64 0], .bool false]) (two_results rfl _ _ _ 40 _ (0, 0) _ rfl (Holds.all (H5.out) _ _ _ _ _) Try.underlying40 rfl (by kernel_rfl) rfl) rfl ?_
        exact ⟨rfl, below_set5 (g := w.heap.size + 1) (HB5.out) (by omega)⟩
    · have hb0 : 0 ≤ y ∧ y < 16 := by have hr := HRt.out; unfold St.R at hr; simp only at hr; omega
      obtain ⟨hv0, hv1⟩ := hb0
      by_cases hl : y + 1 < 16
      · have hv : St.round ⟨2, e, x, y, z⟩ = some ⟨2, e, x, y + 1, z⟩ := by have hr := HRt.out; unfold St.round; rw [if_pos ⟨hr, by simp, by simpa [St.last] using hl⟩]; rfl
        have HR2 := Lib.hid (right_is (t := ⟨2, e, x, y + 1, z⟩) (b := true) (by rw [decide_eq_true_iff]; have hr := HRt.out; unfold St.R at hr ⊢; simp only at hr ⊢; omega) (right_any _))
        unfold St.val at HR2
        simp only at HR2
        rw [hv]; clear hv HRt
        unfold ov
        simp only [Option.getD_none, Option.getD_some, Option.isSome_none, Option.isSome_some, zero_val]
        have hz := zero_made (w.alloc (.cells #[.int .i64 2, .int .i64 e, .int .i64 x, .int .i64 y, .int .i64 z] 40))
        rw [size_alloc] at hz
        have hy := (Holds.made w ⟨2, e, x, y, z⟩).alloc (.cells #[.int .i64 0, .int .i64 0, .int .i64 0, .int .i64 0, .int .i64 0] 40)
        have HZ := Lib.hid hz; have HY := Lib.hid hy; clear hz hy
        go_enter Try.func68, Try.ntmps68
        go_wp2_with fail
        refine (HR.out _).mono ?_; rintro e1 w1 ⟨rfl, hb1⟩
        have h2 := HZ.out.below hb1
        have h1 := HY.out.below hb1
        have hbw := stBelow2 hb1
        obtain ⟨f0, f1, f2, f3, f4⟩ := h2.free5
        obtain ⟨c0, c1, c2, c3, c4⟩ := h2.cells5
        obtain ⟨d0, d1, d2, d3, d4⟩ := h1.cells5
        obtain ⟨g0, g1, g2, g3, g4⟩ := h1.free5
        simp only at d0 d1 d2 d3 d4
        have H1 := Lib.hid h1; have H2 := Lib.hid h2; have HB := Lib.hid hbw; clear h1 h2 hb1 hbw HY HZ
        go_wp2_with fail
        have ht := H1.out.set 3 (y + 1) (t' := ⟨2, e, x, y + 1, z⟩) (by simp)
        have hz2 := H2.out.far (p := ⟨w.heap.size, 3, none⟩) (by simp) (.int .i64 (y + 1))
        have hb3 := HB.out.setCell (p := ⟨w.heap.size, 3, none⟩) (by simp) (.int .i64 (y + 1))
        refine (HR2.out _).mono ?_; rintro e2 w3 ⟨rfl, hb4⟩
        have h5 := hz2.below hb4
        have h6 := ht.below hb4
        have hb5 := hb3.trans (hb4.mono hb3.size)
        clear f0 f1 f2 f3 f4 c0 c1 c2 c3 c4 d0 d1 d2 d3 d4 g0 g1 g2 g3 g4
        obtain ⟨f0, f1, f2, f3, f4⟩ := h5.free5
        obtain ⟨c0, c1, c2, c3, c4⟩ := h5.cells5
        obtain ⟨d0, d1, d2, d3, d4⟩ := h6.cells5
        simp only at d0 d1 d2 d3 d4
        have H5 := Lib.hid h5; have HB5 := Lib.hid hb5; clear h5 h6 hb5 hb4 hb3 ht hz2
        go_wp2_with fail
        refine bodyPost_ret (v := .tuple #[.agg #[.int .i64 2, .int .i64 e, .int .i64 x, .int .i64 (y + 1), .int .i64 z], .bool true]) (two_results rfl _ _ _ 40 _ (0, 0) _ rfl (Holds.all (H5.out) _ _ _ _ _) Try.underlying40 rfl (by kernel_rfl) rfl) rfl ?_
        exact ⟨rfl, below_set5 (g := w.heap.size + 1) (HB5.out) (by omega)⟩
      · have hv : St.round ⟨2, e, x, y, z⟩ = none := by unfold St.round; exact if_neg (by simp [St.last]; omega)
        have HR2 := Lib.hid (right_is (t := ⟨2, e, x, y + 1, z⟩) (b := false) (by rw [decide_eq_false_iff_not]; unfold St.R; simp only; omega) (right_any _))
        unfold St.val at HR2
        simp only at HR2
        rw [hv]; clear hv HRt
        unfold ov
        simp only [Option.getD_none, Option.getD_some, Option.isSome_none, Option.isSome_some, zero_val]
        have hz := zero_made (w.alloc (.cells #[.int .i64 2, .int .i64 e, .int .i64 x, .int .i64 y, .int .i64 z] 40))
        rw [size_alloc] at hz
        have hy := (Holds.made w ⟨2, e, x, y, z⟩).alloc (.cells #[.int .i64 0, .int .i64 0, .int .i64 0, .int .i64 0, .int .i64 0] 40)
        have HZ := Lib.hid hz; have HY := Lib.hid hy; clear hz hy
        go_enter Try.func68, Try.ntmps68
        go_wp2_with fail
        refine (HR.out _).mono ?_; rintro e1 w1 ⟨rfl, hb1⟩
        have h2 := HZ.out.below hb1
        have h1 := HY.out.below hb1
        have hbw := stBelow2 hb1
        obtain ⟨f0, f1, f2, f3, f4⟩ := h2.free5
        obtain ⟨c0, c1, c2, c3, c4⟩ := h2.cells5
        obtain ⟨d0, d1, d2, d3, d4⟩ := h1.cells5
        obtain ⟨g0, g1, g2, g3, g4⟩ := h1.free5
        simp only at d0 d1 d2 d3 d4
        have H1 := Lib.hid h1; have H2 := Lib.hid h2; have HB := Lib.hid hbw; clear h1 h2 hb1 hbw HY HZ
        go_wp2_with fail
        have ht := H1.out.set 3 (y + 1) (t' := ⟨2, e, x, y + 1, z⟩) (by simp)
        have hz2 := H2.out.far (p := ⟨w.heap.size, 3, none⟩) (by simp) (.int .i64 (y + 1))
        have hb3 := HB.out.setCell (p := ⟨w.heap.size, 3, none⟩) (by simp) (.int .i64 (y + 1))
        refine (HR2.out _).mono ?_; rintro e2 w3 ⟨rfl, hb4⟩
        have h5 := hz2.below hb4
        have h6 := ht.below hb4
        have hb5 := hb3.trans (hb4.mono hb3.size)
        clear f0 f1 f2 f3 f4 c0 c1 c2 c3 c4 d0 d1 d2 d3 d4 g0 g1 g2 g3 g4
        obtain ⟨f0, f1, f2, f3, f4⟩ := h5.free5
        obtain ⟨c0, c1, c2, c3, c4⟩ := h5.cells5
        obtain ⟨d0, d1, d2, d3, d4⟩ := h6.cells5
        simp only at d0 d1 d2 d3 d4
        have H5 := Lib.hid h5; have HB5 := Lib.hid hb5; clear h5 h6 hb5 hb4 hb3 ht hz2
        go_wp2_with fail
        refine bodyPost_ret (v := .tuple #[.agg #[.int .i64 0, .int .i64 0, .int .i64 0, .int .i64 0, .int .i64 0], .bool false]) (two_results rfl _ _ _ 40 _ (0, 0) _ rfl (Holds.all (H5.out) _ _ _ _ _) Try.underlying40 rfl (by kernel_rfl) rfl) rfl ?_
        exact ⟨rfl, below_set5 (g := w.heap.size + 1) (HB5.out) (by omega)⟩
    · have hb0 : 0 ≤ z ∧ z < 16 := by have hr := HRt.out; unfold St.R at hr; simp only at hr; omega
      obtain ⟨hv0, hv1⟩ := hb0
      by_cases hl : z + 1 < 16
      · have hv : St.round ⟨3, e, x, y, z⟩ = some ⟨3, e, x, y, z + 1⟩ := by have hr := HRt.out; unfold St.round; rw [if_pos ⟨hr, by simp, by simpa [St.last] using hl⟩]; rfl
        have HR2 := Lib.hid (right_is (t := ⟨3, e, x, y, z + 1⟩) (b := true) (by rw [decide_eq_true_iff]; have hr := HRt.out; unfold St.R at hr ⊢; simp only at hr ⊢; omega) (right_any _))
        unfold St.val at HR2
        simp only at HR2
        rw [hv]; clear hv HRt
        unfold ov
        simp only [Option.getD_none, Option.getD_some, Option.isSome_none, Option.isSome_some, zero_val]
        have hz := zero_made (w.alloc (.cells #[.int .i64 3, .int .i64 e, .int .i64 x, .int .i64 y, .int .i64 z] 40))
        rw [size_alloc] at hz
        have hy := (Holds.made w ⟨3, e, x, y, z⟩).alloc (.cells #[.int .i64 0, .int .i64 0, .int .i64 0, .int .i64 0, .int .i64 0] 40)
        have HZ := Lib.hid hz; have HY := Lib.hid hy; clear hz hy
        go_enter Try.func68, Try.ntmps68
        go_wp2_with fail
        refine (HR.out _).mono ?_; rintro e1 w1 ⟨rfl, hb1⟩
        have h2 := HZ.out.below hb1
        have h1 := HY.out.below hb1
        have hbw := stBelow2 hb1
        obtain ⟨f0, f1, f2, f3, f4⟩ := h2.free5
        obtain ⟨c0, c1, c2, c3, c4⟩ := h2.cells5
        obtain ⟨d0, d1, d2, d3, d4⟩ := h1.cells5
        obtain ⟨g0, g1, g2, g3, g4⟩ := h1.free5
        simp only at d0 d1 d2 d3 d4
        have H1 := Lib.hid h1; have H2 := Lib.hid h2; have HB := Lib.hid hbw; clear h1 h2 hb1 hbw HY HZ
        go_wp2_with fail
        have ht := H1.out.set 4 (z + 1) (t' := ⟨3, e, x, y, z + 1⟩) (by simp)
        have hz2 := H2.out.far (p := ⟨w.heap.size, 4, none⟩) (by simp) (.int .i64 (z + 1))
        have hb3 := HB.out.setCell (p := ⟨w.heap.size, 4, none⟩) (by simp) (.int .i64 (z + 1))
        refine (HR2.out _).mono ?_; rintro e2 w3 ⟨rfl, hb4⟩
        have h5 := hz2.below hb4
        have h6 := ht.below hb4
        have hb5 := hb3.trans (hb4.mono hb3.size)
        clear f0 f1 f2 f3 f4 c0 c1 c2 c3 c4 d0 d1 d2 d3 d4 g0 g1 g2 g3 g4
        obtain ⟨f0, f1, f2, f3, f4⟩ := h5.free5
        obtain ⟨c0, c1, c2, c3, c4⟩ := h5.cells5
        obtain ⟨d0, d1, d2, d3, d4⟩ := h6.cells5
        simp only at d0 d1 d2 d3 d4
        have H5 := Lib.hid h5; have HB5 := Lib.hid hb5; clear h5 h6 hb5 hb4 hb3 ht hz2
        go_wp2_with fail
        refine bodyPost_ret (v := .tuple #[.agg #[.int .i64 3, .int .i64 e, .int .i64 x, .int .i64 y, .int .i64 (z + 1)], .bool true]) (two_results rfl _ _ _ 40 _ (0, 0) _ rfl (Holds.all (H5.out) _ _ _ _ _) Try.underlying40 rfl (by kernel_rfl) rfl) rfl ?_
        exact ⟨rfl, below_set5 (g := w.heap.size + 1) (HB5.out) (by omega)⟩
      · have hv : St.round ⟨3, e, x, y, z⟩ = none := by unfold St.round; exact if_neg (by simp [St.last]; omega)
        have HR2 := Lib.hid (right_is (t := ⟨3, e, x, y, z + 1⟩) (b := false) (by rw [decide_eq_false_iff_not]; unfold St.R; simp only; omega) (right_any _))
        unfold St.val at HR2
        simp only at HR2
        rw [hv]; clear hv HRt
        unfold ov
        simp only [Option.getD_none, Option.getD_some, Option.isSome_none, Option.isSome_some, zero_val]
        have hz := zero_made (w.alloc (.cells #[.int .i64 3, .int .i64 e, .int .i64 x, .int .i64 y, .int .i64 z] 40))
        rw [size_alloc] at hz
        have hy := (Holds.made w ⟨3, e, x, y, z⟩).alloc (.cells #[.int .i64 0, .int .i64 0, .int .i64 0, .int .i64 0, .int .i64 0] 40)
        have HZ := Lib.hid hz; have HY := Lib.hid hy; clear hz hy
        go_enter Try.func68, Try.ntmps68
        go_wp2_with fail
        refine (HR.out _).mono ?_; rintro e1 w1 ⟨rfl, hb1⟩
        have h2 := HZ.out.below hb1
        have h1 := HY.out.below hb1
        have hbw := stBelow2 hb1
        obtain ⟨f0, f1, f2, f3, f4⟩ := h2.free5
        obtain ⟨c0, c1, c2, c3, c4⟩ := h2.cells5
        obtain ⟨d0, d1, d2, d3, d4⟩ := h1.cells5
        obtain ⟨g0, g1, g2, g3, g4⟩ := h1.free5
        simp only at d0 d1 d2 d3 d4
        have H1 := Lib.hid h1; have H2 := Lib.hid h2; have HB := Lib.hid hbw; clear h1 h2 hb1 hbw HY HZ
        go_wp2_with fail
        have ht := H1.out.set 4 (z + 1) (t' := ⟨3, e, x, y, z + 1⟩) (by simp)
        have hz2 := H2.out.far (p := ⟨w.heap.size, 4, none⟩) (by simp) (.int .i64 (z + 1))
        have hb3 := HB.out.setCell (p := ⟨w.heap.size, 4, none⟩) (by simp) (.int .i64 (z + 1))
        refine (HR2.out _).mono ?_; rintro e2 w3 ⟨rfl, hb4⟩
        have h5 := hz2.below hb4
        have h6 := ht.below hb4
        have hb5 := hb3.trans (hb4.mono hb3.size)
        clear f0 f1 f2 f3 f4 c0 c1 c2 c3 c4 d0 d1 d2 d3 d4 g0 g1 g2 g3 g4
        obtain ⟨f0, f1, f2, f3, f4⟩ := h5.free5
        obtain ⟨c0, c1, c2, c3, c4⟩ := h5.cells5
        obtain ⟨d0, d1, d2, d3, d4⟩ := h6.cells5
        simp only at d0 d1 d2 d3 d4
        have H5 := Lib.hid h5; have HB5 := Lib.hid hb5; clear h5 h6 hb5 hb4 hb3 ht hz2
        go_wp2_with fail
        refine bodyPost_ret (v := .tuple #[.agg #[.int .i64 0, .int .i64 0, .int .i64 0, .int .i64 0, .int .i64 0], .bool false]) (two_results rfl _ _ _ 40 _ (0, 0) _ rfl (Holds.all (H5.out) _ _ _ _ _) Try.underlying40 rfl (by kernel_rfl) rfl) rfl ?_
        exact ⟨rfl, below_set5 (g := w.heap.size + 1) (HB5.out) (by omega)⟩
  · have HR := Lib.hid (right_is (decide_eq_false hR) (right_any t))
    have hv := hn hR
    clear hR hn
    rw [hv]; clear hv
    unfold ov
    simp only [Option.getD_none, Option.isSome_none, zero_val]
    obtain ⟨d, e, x, y, z⟩ := t
    unfold St.val at *
    simp only at HR ⊢
    have hz := zero_made (w.alloc (.cells #[.int .i64 d, .int .i64 e, .int .i64 x, .int .i64 y, .int .i64 z] 40))
    rw [size_alloc] at hz
    have hy := (Holds.made w ⟨d, e, x, y, z⟩).alloc (.cells #[.int .i64 0, .int .i64 0, .int .i64 0, .int .i64 0, .int .i64 0] 40)
    have HZ := Lib.hid hz; have HY := Lib.hid hy; clear hz hy
    go_enter Try.func68, Try.ntmps68
    go_wp2_with fail
    refine (HR.out _).mono ?_; rintro e1 w1 ⟨rfl, hb1⟩
    have h2 := HZ.out.below hb1
    have h1 := HY.out.below hb1
    have hbw := stBelow2 hb1
    obtain ⟨f0, f1, f2, f3, f4⟩ := h2.free5
    obtain ⟨c0, c1, c2, c3, c4⟩ := h2.cells5
    obtain ⟨d0, d1, d2, d3, d4⟩ := h1.cells5
    obtain ⟨g0, g1, g2, g3, g4⟩ := h1.free5
    simp only at d0 d1 d2 d3 d4
    have H1 := Lib.hid h1; have H2 := Lib.hid h2; have HB := Lib.hid hbw; clear h1 h2 hb1 hbw HY HZ
    go_wp2_with fail
    refine bodyPost_ret (v := .tuple #[.agg #[.int .i64 0, .int .i64 0, .int .i64 0, .int .i64 0, .int .i64 0], .bool false]) (two_results rfl _ _ _ 40 _ (0, 0) _ rfl (Holds.all (H2.out) _ _ _ _ _) Try.underlying40 rfl (by kernel_rfl) rfl) rfl ?_
    exact ⟨rfl, below_set5 (g := w.heap.size + 1) (HB.out) (by omega)⟩
set_option maxHeartbeats 4000000 in
theorem refStep_any (t : St) (w : World) : Calls Try.prog 40 #[t.val] w fun e w' => e = .returned (.tuple #[(ov t.round).val, .bool t.round.isSome]) ∧ Below w.heap.size w w' := by
  have hn : ¬ t.R → t.round = none := fun h => by unfold St.round; rw [if_neg (fun hc => h hc.1)]
  by_cases hR : t.R
  · have HR := Lib.hid (right_is (decide_eq_true hR) (refRight_any t))
    have hRd : t.R := hR
    have hd : t.d = 0 ∨ t.d = 1 ∨ t.d = 2 ∨ t.d = 3 := by unfold St.R at hRd; omega
    have HRt := Lib.hid hRd
    clear hR hRd hn
    obtain ⟨d, e, x, y, z⟩ := t
    unfold St.val at *
    simp only at hd HR ⊢
    rcases hd with rfl | rfl | rfl | rfl
    · have hv : St.round ⟨0, e, x, y, z⟩ = none := by unfold St.round; exact if_neg (by simp)
      rw [hv]; clear hv HRt
      unfold ov
      simp only [Option.getD_none, Option.getD_some, Option.isSome_none, Option.isSome_some, zero_val]
      have hz := zero_made (w.alloc (.cells #[.int .i64 0, .int .i64 e, .int .i64 x, .int .i64 y, .int .i64 z] 40))
      rw [size_alloc] at hz
      have hy := (Holds.made w ⟨0, e, x, y, z⟩).alloc (.cells #[.int .i64 0, .int .i64 0, .int .i64 0, .int .i64 0, .int .i64 0] 40)
      have HZ := Lib.hid hz; have HY := Lib.hid hy; clear hz hy
      go_enter Try.func40, Try.ntmps40
      go_wp2_with fail
      refine (HR.out _).mono ?_; rintro e1 w1 ⟨rfl, hb1⟩
      have h2 := HZ.out.below hb1
      have h1 := HY.out.below hb1
      have hbw := stBelow2 hb1
      obtain ⟨f0, f1, f2, f3, f4⟩ := h2.free5
      obtain ⟨c0, c1, c2, c3, c4⟩ := h2.cells5
      obtain ⟨d0, d1, d2, d3, d4⟩ := h1.cells5
      obtain ⟨g0, g1, g2, g3, g4⟩ := h1.free5
      simp only at d0 d1 d2 d3 d4
      have H1 := Lib.hid h1; have H2 := Lib.hid h2; have HB := Lib.hid hbw; clear h1 h2 hb1 hbw HY HZ
      go_wp2_with fail
      refine bodyPost_ret (v := .tuple #[.agg #[.int .i64 0, .int .i64 0, .int .i64 0, .int .i64 0, .int .i64 0], .bool false]) (two_results rfl _ _ _ 40 _ (0, 0) _ rfl (Holds.all (H2.out) _ _ _ _ _) Try.underlying40 rfl (by kernel_rfl) rfl) rfl ?_
      exact ⟨rfl, below_set5 (g := w.heap.size + 1) (HB.out) (by omega)⟩
    · have hb0 : 0 ≤ x ∧ x < 16 := by have hr := HRt.out; unfold St.R at hr; simp only at hr; omega
      obtain ⟨hv0, hv1⟩ := hb0
      by_cases hl : x + 1 < 16
      · have hv : St.round ⟨1, e, x, y, z⟩ = some ⟨1, e, x + 1, y, z⟩ := by have hr := HRt.out; unfold St.round; rw [if_pos ⟨hr, by simp, by simpa [St.last] using hl⟩]; rfl
        rw [hv]; clear hv HRt
        unfold ov
        simp only [Option.getD_none, Option.getD_some, Option.isSome_none, Option.isSome_some, zero_val]
        have hz := zero_made (w.alloc (.cells #[.int .i64 1, .int .i64 e, .int .i64 x, .int .i64 y, .int .i64 z] 40))
        rw [size_alloc] at hz
        have hy := (Holds.made w ⟨1, e, x, y, z⟩).alloc (.cells #[.int .i64 0, .int .i64 0, .int .i64 0, .int .i64 0, .int .i64 0] 40)
        have HZ := Lib.hid hz; have HY := Lib.hid hy; clear hz hy
        go_enter Try.func40, Try.ntmps40
        go_wp2_with fail
        refine (HR.out _).mono ?_; rintro e1 w1 ⟨rfl, hb1⟩
        have h2 := HZ.out.below hb1
        have h1 := HY.out.below hb1
        have hbw := stBelow2 hb1
        obtain ⟨f0, f1, f2, f3, f4⟩ := h2.free5
        obtain ⟨c0, c1, c2, c3, c4⟩ := h2.cells5
        obtain ⟨d0, d1, d2, d3, d4⟩ := h1.cells5
        obtain ⟨g0, g1, g2, g3, g4⟩ := h1.free5
        simp only at d0 d1 d2 d3 d4
        have H1 := Lib.hid h1; have H2 := Lib.hid h2; have HB := Lib.hid hbw; clear h1 h2 hb1 hbw HY HZ
        go_wp2_with fail
        refine bodyPost_ret (v := .tuple #[.agg #[.int .i64 1, .int .i64 e, .int .i64 (x + 1), .int .i64 y, .int .i64 z], .bool true]) (two_results rfl _ _ _ 40 _ (0, 0) _ rfl (Holds.all ((H2.out).far (by simp) _) _ _ _ _ _) Try.underlying40 rfl (by kernel_rfl) rfl) rfl ?_
        exact ⟨rfl, below_set5 (g := w.heap.size + 1) ((HB.out).setCell (by simp) _) (by omega)⟩
      · have hv : St.round ⟨1, e, x, y, z⟩ = none := by unfold St.round; exact if_neg (by simp [St.last]; omega)
        rw [hv]; clear hv HRt
        unfold ov
        simp only [Option.getD_none, Option.getD_some, Option.isSome_none, Option.isSome_some, zero_val]
        have hz := zero_made (w.alloc (.cells #[.int .i64 1, .int .i64 e, .int .i64 x, .int .i64 y, .int .i64 z] 40))
        rw [size_alloc] at hz
        have hy := (Holds.made w ⟨1, e, x, y, z⟩).alloc (.cells #[.int .i64 0, .int .i64 0, .int .i64 0, .int .i64 0, .int .i64 0] 40)
        have HZ := Lib.hid hz; have HY := Lib.hid hy; clear hz hy
        go_enter Try.func40, Try.ntmps40
        go_wp2_with fail
        refine (HR.out _).mono ?_; rintro e1 w1 ⟨rfl, hb1⟩
        have h2 := HZ.out.below hb1
        have h1 := HY.out.below hb1
        have hbw := stBelow2 hb1
        obtain ⟨f0, f1, f2, f3, f4⟩ := h2.free5
        obtain ⟨c0, c1, c2, c3, c4⟩ := h2.cells5
        obtain ⟨d0, d1, d2, d3, d4⟩ := h1.cells5
        obtain ⟨g0, g1, g2, g3, g4⟩ := h1.free5
        simp only at d0 d1 d2 d3 d4
        have H1 := Lib.hid h1; have H2 := Lib.hid h2; have HB := Lib.hid hbw; clear h1 h2 hb1 hbw HY HZ
        go_wp2_with fail
        refine bodyPost_ret (v := .tuple #[.agg #[.int .i64 0, .int .i64 0, .int .i64 0, .int .i64 0, .int .i64 0], .bool false]) (two_results rfl _ _ _ 40 _ (0, 0) _ rfl (Holds.all (H2.out) _ _ _ _ _) Try.underlying40 rfl (by kernel_rfl) rfl) rfl ?_
        exact ⟨rfl, below_set5 (g := w.heap.size + 1) (HB.out) (by omega)⟩
    · have hb0 : 0 ≤ y ∧ y < 16 := by have hr := HRt.out; unfold St.R at hr; simp only at hr; omega
      obtain ⟨hv0, hv1⟩ := hb0
      by_cases hl : y + 1 < 16
      · have hv : St.round ⟨2, e, x, y, z⟩ = some ⟨2, e, x, y + 1, z⟩ := by have hr := HRt.out; unfold St.round; rw [if_pos ⟨hr, by simp, by simpa [St.last] using hl⟩]; rfl
        rw [hv]; clear hv HRt
        unfold ov
        simp only [Option.getD_none, Option.getD_some, Option.isSome_none, Option.isSome_some, zero_val]
        have hz := zero_made (w.alloc (.cells #[.int .i64 2, .int .i64 e, .int .i64 x, .int .i64 y, .int .i64 z] 40))
        rw [size_alloc] at hz
        have hy := (Holds.made w ⟨2, e, x, y, z⟩).alloc (.cells #[.int .i64 0, .int .i64 0, .int .i64 0, .int .i64 0, .int .i64 0] 40)
        have HZ := Lib.hid hz; have HY := Lib.hid hy; clear hz hy
        go_enter Try.func40, Try.ntmps40
        go_wp2_with fail
        refine (HR.out _).mono ?_; rintro e1 w1 ⟨rfl, hb1⟩
        have h2 := HZ.out.below hb1
        have h1 := HY.out.below hb1
        have hbw := stBelow2 hb1
        obtain ⟨f0, f1, f2, f3, f4⟩ := h2.free5
        obtain ⟨c0, c1, c2, c3, c4⟩ := h2.cells5
        obtain ⟨d0, d1, d2, d3, d4⟩ := h1.cells5
        obtain ⟨g0, g1, g2, g3, g4⟩ := h1.free5
        simp only at d0 d1 d2 d3 d4
        have H1 := Lib.hid h1; have H2 := Lib.hid h2; have HB := Lib.hid hbw; clear h1 h2 hb1 hbw HY HZ
        go_wp2_with fail
        refine bodyPost_ret (v := .tuple #[.agg #[.int .i64 2, .int .i64 e, .int .i64 x, .int .i64 (y + 1), .int .i64 z], .bool true]) (two_results rfl _ _ _ 40 _ (0, 0) _ rfl (Holds.all ((H2.out).far (by simp) _) _ _ _ _ _) Try.underlying40 rfl (by kernel_rfl) rfl) rfl ?_
        exact ⟨rfl, below_set5 (g := w.heap.size + 1) ((HB.out).setCell (by simp) _) (by omega)⟩
      · have hv : St.round ⟨2, e, x, y, z⟩ = none := by unfold St.round; exact if_neg (by simp [St.last]; omega)
        rw [hv]; clear hv HRt
        unfold ov
        simp only [Option.getD_none, Option.getD_some, Option.isSome_none, Option.isSome_some, zero_val]
        have hz := zero_made (w.alloc (.cells #[.int .i64 2, .int .i64 e, .int .i64 x, .int .i64 y, .int .i64 z] 40))
        rw [size_alloc] at hz
        have hy := (Holds.made w ⟨2, e, x, y, z⟩).alloc (.cells #[.int .i64 0, .int .i64 0, .int .i64 0, .int .i64 0, .int .i64 0] 40)
        have HZ := Lib.hid hz; have HY := Lib.hid hy; clear hz hy
        go_enter Try.func40, Try.ntmps40
        go_wp2_with fail
        refine (HR.out _).mono ?_; rintro e1 w1 ⟨rfl, hb1⟩
        have h2 := HZ.out.below hb1
        have h1 := HY.out.below hb1
        have hbw := stBelow2 hb1
        obtain ⟨f0, f1, f2, f3, f4⟩ := h2.free5
        obtain ⟨c0, c1, c2, c3, c4⟩ := h2.cells5
        obtain ⟨d0, d1, d2, d3, d4⟩ := h1.cells5
        obtain ⟨g0, g1, g2, g3, g4⟩ := h1.free5
        simp only at d0 d1 d2 d3 d4
        have H1 := Lib.hid h1; have H2 := Lib.hid h2; have HB := Lib.hid hbw; clear h1 h2 hb1 hbw HY HZ
        go_wp2_with fail
        refine bodyPost_ret (v := .tuple #[.agg #[.int .i64 0, .int .i64 0, .int .i64 0, .int .i64 0, .int .i64 0], .bool false]) (two_results rfl _ _ _ 40 _ (0, 0) _ rfl (Holds.all (H2.out) _ _ _ _ _) Try.underlying40 rfl (by kernel_rfl) rfl) rfl ?_
        exact ⟨rfl, below_set5 (g := w.heap.size + 1) (HB.out) (by omega)⟩
    · have hb0 : 0 ≤ z ∧ z < 16 := by have hr := HRt.out; unfold St.R at hr; simp only at hr; omega
      obtain ⟨hv0, hv1⟩ := hb0
      by_cases hl : z + 1 < 16
      · have hv : St.round ⟨3, e, x, y, z⟩ = some ⟨3, e, x, y, z + 1⟩ := by have hr := HRt.out; unfold St.round; rw [if_pos ⟨hr, by simp, by simpa [St.last] using hl⟩]; rfl
        rw [hv]; clear hv HRt
        unfold ov
        simp only [Option.getD_none, Option.getD_some, Option.isSome_none, Option.isSome_some, zero_val]
        have hz := zero_made (w.alloc (.cells #[.int .i64 3, .int .i64 e, .int .i64 x, .int .i64 y, .int .i64 z] 40))
        rw [size_alloc] at hz
        have hy := (Holds.made w ⟨3, e, x, y, z⟩).alloc (.cells #[.int .i64 0, .int .i64 0, .int .i64 0, .int .i64 0, .int .i64 0] 40)
        have HZ := Lib.hid hz; have HY := Lib.hid hy; clear hz hy
        go_enter Try.func40, Try.ntmps40
        go_wp2_with fail
        refine (HR.out _).mono ?_; rintro e1 w1 ⟨rfl, hb1⟩
        have h2 := HZ.out.below hb1
        have h1 := HY.out.below hb1
        have hbw := stBelow2 hb1
        obtain ⟨f0, f1, f2, f3, f4⟩ := h2.free5
        obtain ⟨c0, c1, c2, c3, c4⟩ := h2.cells5
        obtain ⟨d0, d1, d2, d3, d4⟩ := h1.cells5
        obtain ⟨g0, g1, g2, g3, g4⟩ := h1.free5
        simp only at d0 d1 d2 d3 d4
        have H1 := Lib.hid h1; have H2 := Lib.hid h2; have HB := Lib.hid hbw; clear h1 h2 hb1 hbw HY HZ
        go_wp2_with fail
        refine bodyPost_ret (v := .tuple #[.agg #[.int .i64 3, .int .i64 e, .int .i64 x, .int .i64 y, .int .i64 (z + 1)], .bool true]) (two_results rfl _ _ _ 40 _ (0, 0) _ rfl (Holds.all ((H2.out).far (by simp) _) _ _ _ _ _) Try.underlying40 rfl (by kernel_rfl) rfl) rfl ?_
        exact ⟨rfl, below_set5 (g := w.heap.size + 1) ((HB.out).setCell (by simp) _) (by omega)⟩
      · have hv : St.round ⟨3, e, x, y, z⟩ = none := by unfold St.round; exact if_neg (by simp [St.last]; omega)
        rw [hv]; clear hv HRt
        unfold ov
        simp only [Option.getD_none, Option.getD_some, Option.isSome_none, Option.isSome_some, zero_val]
        have hz := zero_made (w.alloc (.cells #[.int .i64 3, .int .i64 e, .int .i64 x, .int .i64 y, .int .i64 z] 40))
        rw [size_alloc] at hz
        have hy := (Holds.made w ⟨3, e, x, y, z⟩).alloc (.cells #[.int .i64 0, .int .i64 0, .int .i64 0, .int .i64 0, .int .i64 0] 40)
        have HZ := Lib.hid hz; have HY := Lib.hid hy; clear hz hy
        go_enter Try.func40, Try.ntmps40
        go_wp2_with fail
        refine (HR.out _).mono ?_; rintro e1 w1 ⟨rfl, hb1⟩
        have h2 := HZ.out.below hb1
        have h1 := HY.out.below hb1
        have hbw := stBelow2 hb1
        obtain ⟨f0, f1, f2, f3, f4⟩ := h2.free5
        obtain ⟨c0, c1, c2, c3, c4⟩ := h2.cells5
        obtain ⟨d0, d1, d2, d3, d4⟩ := h1.cells5
        obtain ⟨g0, g1, g2, g3, g4⟩ := h1.free5
        simp only at d0 d1 d2 d3 d4
        have H1 := Lib.hid h1; have H2 := Lib.hid h2; have HB := Lib.hid hbw; clear h1 h2 hb1 hbw HY HZ
        go_wp2_with fail
        refine bodyPost_ret (v := .tuple #[.agg #[.int .i64 0, .int .i64 0, .int .i64 0, .int .i64 0, .int .i64 0], .bool false]) (two_results rfl _ _ _ 40 _ (0, 0) _ rfl (Holds.all (H2.out) _ _ _ _ _) Try.underlying40 rfl (by kernel_rfl) rfl) rfl ?_
        exact ⟨rfl, below_set5 (g := w.heap.size + 1) (HB.out) (by omega)⟩
  · have HR := Lib.hid (right_is (decide_eq_false hR) (refRight_any t))
    have hv := hn hR
    clear hR hn
    rw [hv]; clear hv
    unfold ov
    simp only [Option.getD_none, Option.isSome_none, zero_val]
    obtain ⟨d, e, x, y, z⟩ := t
    unfold St.val at *
    simp only at HR ⊢
    have hz := zero_made (w.alloc (.cells #[.int .i64 d, .int .i64 e, .int .i64 x, .int .i64 y, .int .i64 z] 40))
    rw [size_alloc] at hz
    have hy := (Holds.made w ⟨d, e, x, y, z⟩).alloc (.cells #[.int .i64 0, .int .i64 0, .int .i64 0, .int .i64 0, .int .i64 0] 40)
    have HZ := Lib.hid hz; have HY := Lib.hid hy; clear hz hy
    go_enter Try.func40, Try.ntmps40
    go_wp2_with fail
    refine (HR.out _).mono ?_; rintro e1 w1 ⟨rfl, hb1⟩
    have h2 := HZ.out.below hb1
    have h1 := HY.out.below hb1
    have hbw := stBelow2 hb1
    obtain ⟨f0, f1, f2, f3, f4⟩ := h2.free5
    obtain ⟨c0, c1, c2, c3, c4⟩ := h2.cells5
    obtain ⟨d0, d1, d2, d3, d4⟩ := h1.cells5
    obtain ⟨g0, g1, g2, g3, g4⟩ := h1.free5
    simp only at d0 d1 d2 d3 d4
    have H1 := Lib.hid h1; have H2 := Lib.hid h2; have HB := Lib.hid hbw; clear h1 h2 hb1 hbw HY HZ
    go_wp2_with fail
    refine bodyPost_ret (v := .tuple #[.agg #[.int .i64 0, .int .i64 0, .int .i64 0, .int .i64 0, .int .i64 0], .bool false]) (two_results rfl _ _ _ 40 _ (0, 0) _ rfl (Holds.all (H2.out) _ _ _ _ _) Try.underlying40 rfl (by kernel_rfl) rfl) rfl ?_
    exact ⟨rfl, below_set5 (g := w.heap.size + 1) (HB.out) (by omega)⟩
end
end Go.Proofs.Ytcjdjdhjbchaaaa
