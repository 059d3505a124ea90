/- Into, the program's and the document's. -/
import Derived.Test.YtpcnnnfgopilaaaStJoin
namespace Go.Proofs.Ytpcnnnfgopilaaa
open Go.ChangeShapes Go.WideShapes Go.ChangeAt Go.RowKit Go.BigFrame
set_option linter.unusedVariables false
/-- the time, or nothing -/
def ov (o : Option St) : St := o.getD St.zero
theorem below2 {w w' : World} {a b : Obj} (h : Below ((w.alloc a).alloc b).heap.size ((w.alloc a).alloc b) w') : Below w.heap.size w w' :=
  (((Below.refl _ _).alloc (Nat.le_refl _) _).alloc (by simp) _).trans (h.mono (by simp; omega))
set_option maxHeartbeats 4000000 in
theorem into_any (t : St) (w : World) : Calls Try.prog 11 #[t.val] w fun e w' => e = .returned (.tuple #[(ov t.into).val, .bool t.into.isSome]) ∧ Below w.heap.size w w' := by
  have hn : ¬ t.R → t.into = none := fun h => by unfold St.into; rw [if_neg (fun hc => h hc.1)]
  by_cases hR : t.R
  · have HR := Lib.hid (right_is (decide_eq_true hR) (right_any t))
    have hRd : t.R := hR
    have hd : t.d = 0 ∨ t.d = 1 ∨ t.d = 2 ∨ t.d = 3 := by unfold St.R at hRd; omega
    have HRt := Lib.hid hRd
    clear hR hRd hn
    obtain ⟨d, e, x, y, z⟩ := t
    unfold St.val at *
    simp only at hd HR ⊢
    rcases hd with rfl | rfl | rfl | rfl
    · have hv : St.into ⟨0, e, x, y, z⟩ = some ⟨1, e, x, y, z⟩ := by have hr := HRt.out; unfold St.into; rw [if_pos (by simp [hr])]; rfl
      rw [hv]; clear hv HRt
      unfold ov
      simp only [Option.getD_none, Option.getD_some, Option.isSome_none, Option.isSome_some, zero_val]
      have hz := zero_made (w.alloc (.cells #[.int .i64 0, .int .i64 e, .int .i64 x, .int .i64 y, .int .i64 z] 24))
      rw [size_alloc] at hz
      have hy := (Holds.made w ⟨0, e, x, y, z⟩).alloc (.cells #[.int .i64 0, .int .i64 0, .int .i64 0, .int .i64 0, .int .i64 0] 24)
      have HZ := Lib.hid hz; have HY := Lib.hid hy; clear hz hy
      go_enter Try.func11, Try.ntmps11
      go_wp2_with fail
      refine (HR.out _).mono ?_; rintro e1 w1 ⟨rfl, hb1⟩
      have h2 := HZ.out.below hb1
      have h1 := HY.out.below hb1
      have hbw := below2 hb1
      obtain ⟨f0, f1, f2, f3, f4⟩ := h2.free5
      obtain ⟨c0, c1, c2, c3, c4⟩ := h2.cells5
      obtain ⟨d0, d1, d2, d3, d4⟩ := h1.cells5
      obtain ⟨g0, g1, g2, g3, g4⟩ := h1.free5
      simp only at d0 d1 d2 d3 d4
      have H1 := Lib.hid h1; have H2 := Lib.hid h2; have HB := Lib.hid hbw; clear h1 h2 hb1 hbw HY HZ
      go_wp2_with fail
      refine bodyPost_ret (v := .tuple #[.agg #[.int .i64 1, .int .i64 e, .int .i64 x, .int .i64 y, .int .i64 z], .bool true]) (two_results rfl _ _ _ 24 _ (0, 0) _ rfl (Holds.all ((H2.out).far (by simp) _) _ _ _ _ _) Try.underlying24 rfl (by kernel_rfl) rfl) rfl ?_
      exact ⟨rfl, below_set5 (g := w.heap.size + 1) ((HB.out).setCell (by simp) _) (by omega)⟩
    · have hv : St.into ⟨1, e, x, y, z⟩ = some ⟨2, e, x, y, z⟩ := by have hr := HRt.out; unfold St.into; rw [if_pos (by simp [hr])]; rfl
      rw [hv]; clear hv HRt
      unfold ov
      simp only [Option.getD_none, Option.getD_some, Option.isSome_none, Option.isSome_some, zero_val]
      have hz := zero_made (w.alloc (.cells #[.int .i64 1, .int .i64 e, .int .i64 x, .int .i64 y, .int .i64 z] 24))
      rw [size_alloc] at hz
      have hy := (Holds.made w ⟨1, e, x, y, z⟩).alloc (.cells #[.int .i64 0, .int .i64 0, .int .i64 0, .int .i64 0, .int .i64 0] 24)
      have HZ := Lib.hid hz; have HY := Lib.hid hy; clear hz hy
      go_enter Try.func11, Try.ntmps11
      go_wp2_with fail
      refine (HR.out _).mono ?_; rintro e1 w1 ⟨rfl, hb1⟩
      have h2 := HZ.out.below hb1
      have h1 := HY.out.below hb1
      have hbw := below2 hb1
      obtain ⟨f0, f1, f2, f3, f4⟩ := h2.free5
      obtain ⟨c0, c1, c2, c3, c4⟩ := h2.cells5
      obtain ⟨d0, d1, d2, d3, d4⟩ := h1.cells5
      obtain ⟨g0, g1, g2, g3, g4⟩ := h1.free5
      simp only at d0 d1 d2 d3 d4
      have H1 := Lib.hid h1; have H2 := Lib.hid h2; have HB := Lib.hid hbw; clear h1 h2 hb1 hbw HY HZ
      go_wp2_with fail
      refine bodyPost_ret (v := .tuple #[.agg #[.int .i64 2, .int .i64 e, .int .i64 x, .int .i64 y, .int .i64 z], .bool true]) (two_results rfl _ _ _ 24 _ (0, 0) _ rfl (Holds.all ((H2.out).far (by simp) _) _ _ _ _ _) Try.underlying24 rfl (by kernel_rfl) rfl) rfl ?_
      exact ⟨rfl, below_set5 (g := w.heap.size + 1) ((HB.out).setCell (by simp) _) (by omega)⟩
    · have hv : St.into ⟨2, e, x, y, z⟩ = some ⟨3, e, x, y, z⟩ := by have hr := HRt.out; unfold St.into; rw [if_pos (by simp [hr])]; rfl
      rw [hv]; clear hv HRt
      unfold ov
      simp only [Option.getD_none, Option.getD_some, Option.isSome_none, Option.isSome_some, zero_val]
      have hz := zero_made (w.alloc (.cells #[.int .i64 2, .int .i64 e, .int .i64 x, .int .i64 y, .int .i64 z] 24))
      rw [size_alloc] at hz
      have hy := (Holds.made w ⟨2, e, x, y, z⟩).alloc (.cells #[.int .i64 0, .int .i64 0, .int .i64 0, .int .i64 0, .int .i64 0] 24)
      have HZ := Lib.hid hz; have HY := Lib.hid hy; clear hz hy
      go_enter Try.func11, Try.ntmps11
      go_wp2_with fail
      refine (HR.out _).mono ?_; rintro e1 w1 ⟨rfl, hb1⟩
      have h2 := HZ.out.below hb1
      have h1 := HY.out.below hb1
      have hbw := below2 hb1
      obtain ⟨f0, f1, f2, f3, f4⟩ := h2.free5
      obtain ⟨c0, c1, c2, c3, c4⟩ := h2.cells5
      obtain ⟨d0, d1, d2, d3, d4⟩ := h1.cells5
      obtain ⟨g0, g1, g2, g3, g4⟩ := h1.free5
      simp only at d0 d1 d2 d3 d4
      have H1 := Lib.hid h1; have H2 := Lib.hid h2; have HB := Lib.hid hbw; clear h1 h2 hb1 hbw HY HZ
      go_wp2_with fail
      refine bodyPost_ret (v := .tuple #[.agg #[.int .i64 3, .int .i64 e, .int .i64 x, .int .i64 y, .int .i64 z], .bool true]) (two_results rfl _ _ _ 24 _ (0, 0) _ rfl (Holds.all ((H2.out).far (by simp) _) _ _ _ _ _) Try.underlying24 rfl (by kernel_rfl) rfl) rfl ?_
      exact ⟨rfl, below_set5 (g := w.heap.size + 1) ((HB.out).setCell (by simp) _) (by omega)⟩
    · have hv : St.into ⟨3, e, x, y, z⟩ = none := by unfold St.into; exact if_neg (by simp)
      rw [hv]; clear hv HRt
      unfold ov
      simp only [Option.getD_none, Option.getD_some, Option.isSome_none, Option.isSome_some, zero_val]
      have hz := zero_made (w.alloc (.cells #[.int .i64 3, .int .i64 e, .int .i64 x, .int .i64 y, .int .i64 z] 24))
      rw [size_alloc] at hz
      have hy := (Holds.made w ⟨3, e, x, y, z⟩).alloc (.cells #[.int .i64 0, .int .i64 0, .int .i64 0, .int .i64 0, .int .i64 0] 24)
      have HZ := Lib.hid hz; have HY := Lib.hid hy; clear hz hy
      go_enter Try.func11, Try.ntmps11
      go_wp2_with fail
      refine (HR.out _).mono ?_; rintro e1 w1 ⟨rfl, hb1⟩
      have h2 := HZ.out.below hb1
      have h1 := HY.out.below hb1
      have hbw := below2 hb1
      obtain ⟨f0, f1, f2, f3, f4⟩ := h2.free5
      obtain ⟨c0, c1, c2, c3, c4⟩ := h2.cells5
      obtain ⟨d0, d1, d2, d3, d4⟩ := h1.cells5
      obtain ⟨g0, g1, g2, g3, g4⟩ := h1.free5
      simp only at d0 d1 d2 d3 d4
      have H1 := Lib.hid h1; have H2 := Lib.hid h2; have HB := Lib.hid hbw; clear h1 h2 hb1 hbw HY HZ
      go_wp2_with fail
      refine bodyPost_ret (v := .tuple #[.agg #[.int .i64 0, .int .i64 0, .int .i64 0, .int .i64 0, .int .i64 0], .bool false]) (two_results rfl _ _ _ 24 _ (0, 0) _ rfl (Holds.all (H2.out) _ _ _ _ _) Try.underlying24 rfl (by kernel_rfl) rfl) rfl ?_
      exact ⟨rfl, below_set5 (g := w.heap.size + 1) (HB.out) (by omega)⟩
  · have HR := Lib.hid (right_is (decide_eq_false hR) (right_any t))
    have hv := hn hR
    clear hR hn
    rw [hv]; clear hv
    unfold ov
    simp only [Option.getD_none, Option.isSome_none, zero_val]
    obtain ⟨d, e, x, y, z⟩ := t
    unfold St.val at *
    simp only at HR ⊢
    have hz := zero_made (w.alloc (.cells #[.int .i64 d, .int .i64 e, .int .i64 x, .int .i64 y, .int .i64 z] 24))
    rw [size_alloc] at hz
    have hy := (Holds.made w ⟨d, e, x, y, z⟩).alloc (.cells #[.int .i64 0, .int .i64 0, .int .i64 0, .int .i64 0, .int .i64 0] 24)
    have HZ := Lib.hid hz; have HY := Lib.hid hy; clear hz hy
    go_enter Try.func11, Try.ntmps11
    go_wp2_with fail
    refine (HR.out _).mono ?_; rintro e1 w1 ⟨rfl, hb1⟩
    have h2 := HZ.out.below hb1
    have h1 := HY.out.below hb1
    have hbw := below2 hb1
    obtain ⟨f0, f1, f2, f3, f4⟩ := h2.free5
    obtain ⟨c0, c1, c2, c3, c4⟩ := h2.cells5
    obtain ⟨d0, d1, d2, d3, d4⟩ := h1.cells5
    obtain ⟨g0, g1, g2, g3, g4⟩ := h1.free5
    simp only at d0 d1 d2 d3 d4
    have H1 := Lib.hid h1; have H2 := Lib.hid h2; have HB := Lib.hid hbw; clear h1 h2 hb1 hbw HY HZ
    go_wp2_with fail
    refine bodyPost_ret (v := .tuple #[.agg #[.int .i64 0, .int .i64 0, .int .i64 0, .int .i64 0, .int .i64 0], .bool false]) (two_results rfl _ _ _ 24 _ (0, 0) _ rfl (Holds.all (H2.out) _ _ _ _ _) Try.underlying24 rfl (by kernel_rfl) rfl) rfl ?_
    exact ⟨rfl, below_set5 (g := w.heap.size + 1) (HB.out) (by omega)⟩
set_option maxHeartbeats 4000000 in
theorem refInto_any (t : St) (w : World) : Calls Try.prog 12 #[t.val] w fun e w' => e = .returned (.tuple #[(ov t.into).val, .bool t.into.isSome]) ∧ Below w.heap.size w w' := by
  have hn : ¬ t.R → t.into = none := fun h => by unfold St.into; rw [if_neg (fun hc => h hc.1)]
  by_cases hR : t.R
  · have HR := Lib.hid (right_is (decide_eq_true hR) (refRight_any t))
    have hRd : t.R := hR
    have hd : t.d = 0 ∨ t.d = 1 ∨ t.d = 2 ∨ t.d = 3 := by unfold St.R at hRd; omega
    have HRt := Lib.hid hRd
    clear hR hRd hn
    obtain ⟨d, e, x, y, z⟩ := t
    unfold St.val at *
    simp only at hd HR ⊢
    rcases hd with rfl | rfl | rfl | rfl
    · have hv : St.into ⟨0, e, x, y, z⟩ = some ⟨1, e, x, y, z⟩ := by have hr := HRt.out; unfold St.into; rw [if_pos (by simp [hr])]; rfl
      rw [hv]; clear hv HRt
      unfold ov
      simp only [Option.getD_none, Option.getD_some, Option.isSome_none, Option.isSome_some, zero_val]
      have hz := zero_made (w.alloc (.cells #[.int .i64 0, .int .i64 e, .int .i64 x, .int .i64 y, .int .i64 z] 24))
      rw [size_alloc] at hz
      have hy := (Holds.made w ⟨0, e, x, y, z⟩).alloc (.cells #[.int .i64 0, .int .i64 0, .int .i64 0, .int .i64 0, .int .i64 0] 24)
      have HZ := Lib.hid hz; have HY := Lib.hid hy; clear hz hy
      go_enter Try.func12, Try.ntmps12
      go_wp2_with fail
      refine (HR.out _).mono ?_; rintro e1 w1 ⟨rfl, hb1⟩
      have h2 := HZ.out.below hb1
      have h1 := HY.out.below hb1
      have hbw := below2 hb1
      obtain ⟨f0, f1, f2, f3, f4⟩ := h2.free5
      obtain ⟨c0, c1, c2, c3, c4⟩ := h2.cells5
      obtain ⟨d0, d1, d2, d3, d4⟩ := h1.cells5
      obtain ⟨g0, g1, g2, g3, g4⟩ := h1.free5
      simp only at d0 d1 d2 d3 d4
      have H1 := Lib.hid h1; have H2 := Lib.hid h2; have HB := Lib.hid hbw; clear h1 h2 hb1 hbw HY HZ
      go_wp2_with fail
      refine bodyPost_ret (v := .tuple #[.agg #[.int .i64 1, .int .i64 e, .int .i64 x, .int .i64 y, .int .i64 z], .bool true]) (two_results rfl _ _ _ 24 _ (0, 0) _ rfl (Holds.all ((H2.out).far (by simp) _) _ _ _ _ _) Try.underlying24 rfl (by kernel_rfl) rfl) rfl ?_
      exact ⟨rfl, below_set5 (g := w.heap.size + 1) ((HB.out).setCell (by simp) _) (by omega)⟩
    · have hv : St.into ⟨1, e, x, y, z⟩ = some ⟨2, e, x, y, z⟩ := by have hr := HRt.out; unfold St.into; rw [if_pos (by simp [hr])]; rfl
      rw [hv]; clear hv HRt
      unfold ov
      simp only [Option.getD_none, Option.getD_some, Option.isSome_none, Option.isSome_some, zero_val]
      have hz := zero_made (w.alloc (.cells #[.int .i64 1, .int .i64 e, .int .i64 x, .int .i64 y, .int .i64 z] 24))
      rw [size_alloc] at hz
      have hy := (Holds.made w ⟨1, e, x, y, z⟩).alloc (.cells #[.int .i64 0, .int .i64 0, .int .i64 0, .int .i64 0, .int .i64 0] 24)
      have HZ := Lib.hid hz; have HY := Lib.hid hy; clear hz hy
      go_enter Try.func12, Try.ntmps12
      go_wp2_with fail
      refine (HR.out _).mono ?_; rintro e1 w1 ⟨rfl, hb1⟩
      have h2 := HZ.out.below hb1
      have h1 := HY.out.below hb1
      have hbw := below2 hb1
      obtain ⟨f0, f1, f2, f3, f4⟩ := h2.free5
      obtain ⟨c0, c1, c2, c3, c4⟩ := h2.cells5
      obtain ⟨d0, d1, d2, d3, d4⟩ := h1.cells5
      obtain ⟨g0, g1, g2, g3, g4⟩ := h1.free5
      simp only at d0 d1 d2 d3 d4
      have H1 := Lib.hid h1; have H2 := Lib.hid h2; have HB := Lib.hid hbw; clear h1 h2 hb1 hbw HY HZ
      go_wp2_with fail
      refine bodyPost_ret (v := .tuple #[.agg #[.int .i64 2, .int .i64 e, .int .i64 x, .int .i64 y, .int .i64 z], .bool true]) (two_results rfl _ _ _ 24 _ (0, 0) _ rfl (Holds.all ((H2.out).far (by simp) _) _ _ _ _ _) Try.underlying24 rfl (by kernel_rfl) rfl) rfl ?_
      exact ⟨rfl, below_set5 (g := w.heap.size + 1) ((HB.out).setCell (by simp) _) (by omega)⟩
    · have hv : St.into ⟨2, e, x, y, z⟩ = some ⟨3, e, x, y, z⟩ := by have hr := HRt.out; unfold St.into; rw [if_pos (by simp [hr])]; rfl
      rw [hv]; clear hv HRt
      unfold ov
      simp only [Option.getD_none, Option.getD_some, Option.isSome_none, Option.isSome_some, zero_val]
      have hz := zero_made (w.alloc (.cells #[.int .i64 2, .int .i64 e, .int .i64 x, .int .i64 y, .int .i64 z] 24))
      rw [size_alloc] at hz
      have hy := (Holds.made w ⟨2, e, x, y, z⟩).alloc (.cells #[.int .i64 0, .int .i64 0, .int .i64 0, .int .i64 0, .int .i64 0] 24)
      have HZ := Lib.hid hz; have HY := Lib.hid hy; clear hz hy
      go_enter Try.func12, Try.ntmps12
      go_wp2_with fail
      refine (HR.out _).mono ?_; rintro e1 w1 ⟨rfl, hb1⟩
      have h2 := HZ.out.below hb1
      have h1 := HY.out.below hb1
      have hbw := below2 hb1
      obtain ⟨f0, f1, f2, f3, f4⟩ := h2.free5
      obtain ⟨c0, c1, c2, c3, c4⟩ := h2.cells5
      obtain ⟨d0, d1, d2, d3, d4⟩ := h1.cells5
      obtain ⟨g0, g1, g2, g3, g4⟩ := h1.free5
      simp only at d0 d1 d2 d3 d4
      have H1 := Lib.hid h1; have H2 := Lib.hid h2; have HB := Lib.hid hbw; clear h1 h2 hb1 hbw HY HZ
      go_wp2_with fail
      refine bodyPost_ret (v := .tuple #[.agg #[.int .i64 3, .int .i64 e, .int .i64 x, .int .i64 y, .int .i64 z], .bool true]) (two_results rfl _ _ _ 24 _ (0, 0) _ rfl (Holds.all ((H2.out).far (by simp) _) _ _ _ _ _) Try.underlying24 rfl (by kernel_rfl) rfl) rfl ?_
      exact ⟨rfl, below_set5 (g := w.heap.size + 1) ((HB.out).setCell (by simp) _) (by omega)⟩
    · have hv : St.into ⟨3, e, x, y, z⟩ = none := by unfold St.into; exact if_neg (by simp)
      rw [hv]; clear hv HRt
      unfold ov
      simp only [Option.getD_none, Option.getD_some, Option.isSome_none, Option.isSome_some, zero_val]
      have hz := zero_made (w.alloc (.cells #[.int .i64 3, .int .i64 e, .int .i64 x, .int .i64 y, .int .i64 z] 24))
      rw [size_alloc] at hz
      have hy := (Holds.made w ⟨3, e, x, y, z⟩).alloc (.cells #[.int .i64 0, .int .i64 0, .int .i64 0, .int .i64 0, .int .i64 0] 24)
      have HZ := Lib.hid hz; have HY := Lib.hid hy; clear hz hy
      go_enter Try.func12, Try.ntmps12
      go_wp2_with fail
      refine (HR.out _).mono ?_; rintro e1 w1 ⟨rfl, hb1⟩
      have h2 := HZ.out.below hb1
      have h1 := HY.out.below hb1
      have hbw := below2 hb1
      obtain ⟨f0, f1, f2, f3, f4⟩ := h2.free5
      obtain ⟨c0, c1, c2, c3, c4⟩ := h2.cells5
      obtain ⟨d0, d1, d2, d3, d4⟩ := h1.cells5
      obtain ⟨g0, g1, g2, g3, g4⟩ := h1.free5
      simp only at d0 d1 d2 d3 d4
      have H1 := Lib.hid h1; have H2 := Lib.hid h2; have HB := Lib.hid hbw; clear h1 h2 hb1 hbw HY HZ
      go_wp2_with fail
      refine bodyPost_ret (v := .tuple #[.agg #[.int .i64 0, .int .i64 0, .int .i64 0, .int .i64 0, .int .i64 0], .bool false]) (two_results rfl _ _ _ 24 _ (0, 0) _ rfl (Holds.all (H2.out) _ _ _ _ _) Try.underlying24 rfl (by kernel_rfl) rfl) rfl ?_
      exact ⟨rfl, below_set5 (g := w.heap.size + 1) (HB.out) (by omega)⟩
  · have HR := Lib.hid (right_is (decide_eq_false hR) (refRight_any t))
    have hv := hn hR
    clear hR hn
    rw [hv]; clear hv
    unfold ov
    simp only [Option.getD_none, Option.isSome_none, zero_val]
    obtain ⟨d, e, x, y, z⟩ := t
    unfold St.val at *
    simp only at HR ⊢
    have hz := zero_made (w.alloc (.cells #[.int .i64 d, .int .i64 e, .int .i64 x, .int .i64 y, .int .i64 z] 24))
    rw [size_alloc] at hz
    have hy := (Holds.made w ⟨d, e, x, y, z⟩).alloc (.cells #[.int .i64 0, .int .i64 0, .int .i64 0, .int .i64 0, .int .i64 0] 24)
    have HZ := Lib.hid hz; have HY := Lib.hid hy; clear hz hy
    go_enter Try.func12, Try.ntmps12
    go_wp2_with fail
    refine (HR.out _).mono ?_; rintro e1 w1 ⟨rfl, hb1⟩
    have h2 := HZ.out.below hb1
    have h1 := HY.out.below hb1
    have hbw := below2 hb1
    obtain ⟨f0, f1, f2, f3, f4⟩ := h2.free5
    obtain ⟨c0, c1, c2, c3, c4⟩ := h2.cells5
    obtain ⟨d0, d1, d2, d3, d4⟩ := h1.cells5
    obtain ⟨g0, g1, g2, g3, g4⟩ := h1.free5
    simp only at d0 d1 d2 d3 d4
    have H1 := Lib.hid h1; have H2 := Lib.hid h2; have HB := Lib.hid hbw; clear h1 h2 hb1 hbw HY HZ
    go_wp2_with fail
    refine bodyPost_ret (v := .tuple #[.agg #[.int .i64 0, .int .i64 0, .int .i64 0, .int .i64 0, .int .i64 0], .bool false]) (two_results rfl _ _ _ 24 _ (0, 0) _ rfl (Holds.all (H2.out) _ _ _ _ _) Try.underlying24 rfl (by kernel_rfl) rfl) rfl ?_
    exact ⟨rfl, below_set5 (g := w.heap.size + 1) (HB.out) (by omega)⟩
end Go.Proofs.Ytpcnnnfgopilaaa
