/- SmLeqN, SmLeq, SmLeqR -/
import Derived.Test.YtdpadkellpkppaaSmC
namespace Go.Proofs.Ytdpadkellpkppaa
set_option linter.unusedVariables false
section
open Go.ChangeShapes Go.WideShapes Go.ChangeAt Go.RowKit Go.BigFrame
set_option maxRecDepth 100000
set_option maxHeartbeats 1000000 in
theorem leqM_A (a b : Sm) (w : World) (h : ¬ a.R) : Calls Try.prog 21 #[a.v, b.v] w fun e w' => e = .returned (.bool false) ∧ Below w.heap.size w w' := by
  have h3 := Two2.made w 24 a b
  have hbw := below_alloc2 w (.cells #[.int .i64 a.fr, .int .i64 a.to, .int .i64 a.kp, .int .i64 a.ad, .int .i64 a.t0, .int .i64 a.t1, .int .i64 a.t2] 24) (.cells #[.int .i64 b.fr, .int .i64 b.to, .int .i64 b.kp, .int .i64 b.ad, .int .i64 b.t0, .int .i64 b.t1, .int .i64 b.t2] 24)
  have H3 := Lib.hid h3; have HB := Lib.hid hbw; clear h3 hbw
  have r1 := fun w => rightM_false h w
  have R1 := Lib.hid r1; clear r1
  clear h
  unfold Sm.v at *
  go_enter Try.func21, Try.ntmps21
  go_wp2_with fail
  refine (R1.out _).mono ?_; rintro e w2 ⟨rfl, hb2⟩
  have k3 := H3.out.below hb2
  have kb := HB.out.trans (hb2.mono HB.out.size); clear H3 HB
  have H3 := Lib.hid k3; have HB := Lib.hid kb; clear k3 kb hb2
  go_wp2_with fail
  go_ret
  exact ⟨rfl, HB.out⟩
set_option maxHeartbeats 1000000 in
theorem leqM_B (a b : Sm) (w : World) (h : a.R) (h2 : ¬ b.R) : Calls Try.prog 21 #[a.v, b.v] w fun e w' => e = .returned (.bool false) ∧ Below w.heap.size w w' := by
  have h3 := Two2.made w 24 a b
  have hbw := below_alloc2 w (.cells #[.int .i64 a.fr, .int .i64 a.to, .int .i64 a.kp, .int .i64 a.ad, .int .i64 a.t0, .int .i64 a.t1, .int .i64 a.t2] 24) (.cells #[.int .i64 b.fr, .int .i64 b.to, .int .i64 b.kp, .int .i64 b.ad, .int .i64 b.t0, .int .i64 b.t1, .int .i64 b.t2] 24)
  have H3 := Lib.hid h3; have HB := Lib.hid hbw; clear h3 hbw
  have r1 := fun w => rightM_true h w
  have r2 := fun w => rightM_false h2 w
  have R1 := Lib.hid r1; have R2 := Lib.hid r2; clear r1 r2
  clear h h2
  unfold Sm.v at *
  go_enter Try.func21, Try.ntmps21
  go_wp2_with fail
  refine (R1.out _).mono ?_; rintro e w2 ⟨rfl, hb2⟩
  have k3 := H3.out.below hb2
  have kb := HB.out.trans (hb2.mono HB.out.size); clear H3 HB
  have H3 := Lib.hid k3; have HB := Lib.hid kb; clear k3 kb hb2
  obtain ⟨a0, a1, a2, a3, a4, a5, a6⟩ := H3.out.1.cells7
  obtain ⟨b0, b1, b2, b3, b4, b5, b6⟩ := H3.out.2.cells7
  go_wp2_with fail
  clear a0 a1 a2 a3 a4 a5 a6 b0 b1 b2 b3 b4 b5 b6
  refine (R2.out _).mono ?_; rintro e w3 ⟨rfl, hb3⟩
  have k3 := H3.out.below hb3
  have kb := HB.out.trans (hb3.mono HB.out.size); clear H3 HB
  have H3 := Lib.hid k3; have HB := Lib.hid kb; clear k3 kb hb3
  go_wp2_with fail
  go_ret
  exact ⟨rfl, HB.out⟩
set_option maxHeartbeats 1000000 in
theorem leqM_C (a b : Sm) (w : World) (h : a.R) (h2 : b.R) (h3 : (a.fr != b.fr) = true) : Calls Try.prog 21 #[a.v, b.v] w fun e w' => e = .returned (.bool false) ∧ Below w.heap.size w w' := by
  have h3 := Two2.made w 24 a b
  have hbw := below_alloc2 w (.cells #[.int .i64 a.fr, .int .i64 a.to, .int .i64 a.kp, .int .i64 a.ad, .int .i64 a.t0, .int .i64 a.t1, .int .i64 a.t2] 24) (.cells #[.int .i64 b.fr, .int .i64 b.to, .int .i64 b.kp, .int .i64 b.ad, .int .i64 b.t0, .int .i64 b.t1, .int .i64 b.t2] 24)
  have H3 := Lib.hid h3; have HB := Lib.hid hbw; clear h3 hbw
  have r1 := fun w => rightM_true h w
  have r2 := fun w => rightM_true h2 w
  have R1 := Lib.hid r1; have R2 := Lib.hid r2; clear r1 r2
  clear h h2
  unfold Sm.v at *
  go_enter Try.func21, Try.ntmps21
  go_wp2_with fail
  refine (R1.out _).mono ?_; rintro e w2 ⟨rfl, hb2⟩
  have k3 := H3.out.below hb2
  have kb := HB.out.trans (hb2.mono HB.out.size); clear H3 HB
  have H3 := Lib.hid k3; have HB := Lib.hid kb; clear k3 kb hb2
  obtain ⟨a0, a1, a2, a3, a4, a5, a6⟩ := H3.out.1.cells7
  obtain ⟨b0, b1, b2, b3, b4, b5, b6⟩ := H3.out.2.cells7
  go_wp2_with fail
  clear a0 a1 a2 a3 a4 a5 a6 b0 b1 b2 b3 b4 b5 b6
  refine (R2.out _).mono ?_; rintro e w3 ⟨rfl, hb3⟩
  have k3 := H3.out.below hb3
  have kb := HB.out.trans (hb3.mono HB.out.size); clear H3 HB
  have H3 := Lib.hid k3; have HB := Lib.hid kb; clear k3 kb hb3
  obtain ⟨a0, a1, a2, a3, a4, a5, a6⟩ := H3.out.1.cells7
  obtain ⟨b0, b1, b2, b3, b4, b5, b6⟩ := H3.out.2.cells7
  go_wp2_with fail
  go_ret
  exact ⟨rfl, HB.out⟩
set_option maxHeartbeats 1000000 in
theorem leqM_D (a b : Sm) (w : World) (h : a.R) (h2 : b.R) (h3 : (a.fr != b.fr) = false) (h4 : (a.to != b.to) = true) : Calls Try.prog 21 #[a.v, b.v] w fun e w' => e = .returned (.bool false) ∧ Below w.heap.size w w' := by
  have h3 := Two2.made w 24 a b
  have hbw := below_alloc2 w (.cells #[.int .i64 a.fr, .int .i64 a.to, .int .i64 a.kp, .int .i64 a.ad, .int .i64 a.t0, .int .i64 a.t1, .int .i64 a.t2] 24) (.cells #[.int .i64 b.fr, .int .i64 b.to, .int .i64 b.kp, .int .i64 b.ad, .int .i64 b.t0, .int .i64 b.t1, .int .i64 b.t2] 24)
  have H3 := Lib.hid h3; have HB := Lib.hid hbw; clear h3 hbw
  have r1 := fun w => rightM_true h w
  have r2 := fun w => rightM_true h2 w
  have R1 := Lib.hid r1; have R2 := Lib.hid r2; clear r1 r2
  clear h h2
  unfold Sm.v at *
  go_enter Try.func21, Try.ntmps21
  go_wp2_with fail
  refine (R1.out _).mono ?_; rintro e w2 ⟨rfl, hb2⟩
  have k3 := H3.out.below hb2
  have kb := HB.out.trans (hb2.mono HB.out.size); clear H3 HB
  have H3 := Lib.hid k3; have HB := Lib.hid kb; clear k3 kb hb2
  obtain ⟨a0, a1, a2, a3, a4, a5, a6⟩ := H3.out.1.cells7
  obtain ⟨b0, b1, b2, b3, b4, b5, b6⟩ := H3.out.2.cells7
  go_wp2_with fail
  clear a0 a1 a2 a3 a4 a5 a6 b0 b1 b2 b3 b4 b5 b6
  refine (R2.out _).mono ?_; rintro e w3 ⟨rfl, hb3⟩
  have k3 := H3.out.below hb3
  have kb := HB.out.trans (hb3.mono HB.out.size); clear H3 HB
  have H3 := Lib.hid k3; have HB := Lib.hid kb; clear k3 kb hb3
  obtain ⟨a0, a1, a2, a3, a4, a5, a6⟩ := H3.out.1.cells7
  obtain ⟨b0, b1, b2, b3, b4, b5, b6⟩ := H3.out.2.cells7
  go_wp2_with fail
  go_ret
  exact ⟨rfl, HB.out⟩
set_option maxHeartbeats 1000000 in
theorem leqM_E (a b : Sm) (w : World) (h : a.R) (h2 : b.R) (h3 : (a.fr != b.fr) = false) (h4 : (a.to != b.to) = false) (h5 : b.kp < a.kp) : Calls Try.prog 21 #[a.v, b.v] w fun e w' => e = .returned (.bool false) ∧ Below w.heap.size w w' := by
  have h3 := Two2.made w 24 a b
  have hbw := below_alloc2 w (.cells #[.int .i64 a.fr, .int .i64 a.to, .int .i64 a.kp, .int .i64 a.ad, .int .i64 a.t0, .int .i64 a.t1, .int .i64 a.t2] 24) (.cells #[.int .i64 b.fr, .int .i64 b.to, .int .i64 b.kp, .int .i64 b.ad, .int .i64 b.t0, .int .i64 b.t1, .int .i64 b.t2] 24)
  have H3 := Lib.hid h3; have HB := Lib.hid hbw; clear h3 hbw
  have r1 := fun w => rightM_true h w
  have r2 := fun w => rightM_true h2 w
  have R1 := Lib.hid r1; have R2 := Lib.hid r2; clear r1 r2
  clear h h2
  unfold Sm.v at *
  go_enter Try.func21, Try.ntmps21
  go_wp2_with fail
  refine (R1.out _).mono ?_; rintro e w2 ⟨rfl, hb2⟩
  have k3 := H3.out.below hb2
  have kb := HB.out.trans (hb2.mono HB.out.size); clear H3 HB
  have H3 := Lib.hid k3; have HB := Lib.hid kb; clear k3 kb hb2
  obtain ⟨a0, a1, a2, a3, a4, a5, a6⟩ := H3.out.1.cells7
  obtain ⟨b0, b1, b2, b3, b4, b5, b6⟩ := H3.out.2.cells7
  go_wp2_with fail
  clear a0 a1 a2 a3 a4 a5 a6 b0 b1 b2 b3 b4 b5 b6
  refine (R2.out _).mono ?_; rintro e w3 ⟨rfl, hb3⟩
  have k3 := H3.out.below hb3
  have kb := HB.out.trans (hb3.mono HB.out.size); clear H3 HB
  have H3 := Lib.hid k3; have HB := Lib.hid kb; clear k3 kb hb3
  obtain ⟨a0, a1, a2, a3, a4, a5, a6⟩ := H3.out.1.cells7
  obtain ⟨b0, b1, b2, b3, b4, b5, b6⟩ := H3.out.2.cells7
  go_wp2_with fail
  go_ret
  exact ⟨rfl, HB.out⟩
set_option maxHeartbeats 1000000 in
theorem refLeqM_A (a b : Sm) (w : World) (h : ¬ a.R) : Calls Try.prog 22 #[a.v, b.v] w fun e w' => e = .returned (.bool false) ∧ Below w.heap.size w w' := by
  have h3 := Two2.made w 30 a b
  have hbw := below_alloc2 w (.cells #[.int .i64 a.fr, .int .i64 a.to, .int .i64 a.kp, .int .i64 a.ad, .int .i64 a.t0, .int .i64 a.t1, .int .i64 a.t2] 30) (.cells #[.int .i64 b.fr, .int .i64 b.to, .int .i64 b.kp, .int .i64 b.ad, .int .i64 b.t0, .int .i64 b.t1, .int .i64 b.t2] 30)
  have H3 := Lib.hid h3; have HB := Lib.hid hbw; clear h3 hbw
  have r1 := fun w => refRightM_false h w
  have R1 := Lib.hid r1; clear r1
  clear h
  unfold Sm.v at *
  go_enter Try.func22, Try.ntmps22
  go_wp2_with fail
  refine (R1.out _).mono ?_; rintro e w2 ⟨rfl, hb2⟩
  have k3 := H3.out.below hb2
  have kb := HB.out.trans (hb2.mono HB.out.size); clear H3 HB
  have H3 := Lib.hid k3; have HB := Lib.hid kb; clear k3 kb hb2
  go_wp2_with fail
  go_ret
  exact ⟨rfl, HB.out⟩
set_option maxHeartbeats 1000000 in
theorem refLeqM_B (a b : Sm) (w : World) (h : a.R) (h2 : ¬ b.R) : Calls Try.prog 22 #[a.v, b.v] w fun e w' => e = .returned (.bool false) ∧ Below w.heap.size w w' := by
  have h3 := Two2.made w 30 a b
  have hbw := below_alloc2 w (.cells #[.int .i64 a.fr, .int .i64 a.to, .int .i64 a.kp, .int .i64 a.ad, .int .i64 a.t0, .int .i64 a.t1, .int .i64 a.t2] 30) (.cells #[.int .i64 b.fr, .int .i64 b.to, .int .i64 b.kp, .int .i64 b.ad, .int .i64 b.t0, .int .i64 b.t1, .int .i64 b.t2] 30)
  have H3 := Lib.hid h3; have HB := Lib.hid hbw; clear h3 hbw
  have r1 := fun w => refRightM_true h w
  have r2 := fun w => refRightM_false h2 w
  have R1 := Lib.hid r1; have R2 := Lib.hid r2; clear r1 r2
  clear h h2
  unfold Sm.v at *
  go_enter Try.func22, Try.ntmps22
  go_wp2_with fail
  refine (R1.out _).mono ?_; rintro e w2 ⟨rfl, hb2⟩
  have k3 := H3.out.below hb2
  have kb := HB.out.trans (hb2.mono HB.out.size); clear H3 HB
  have H3 := Lib.hid k3; have HB := Lib.hid kb; clear k3 kb hb2
  obtain ⟨a0, a1, a2, a3, a4, a5, a6⟩ := H3.out.1.cells7
  obtain ⟨b0, b1, b2, b3, b4, b5, b6⟩ := H3.out.2.cells7
  go_wp2_with fail
  clear a0 a1 a2 a3 a4 a5 a6 b0 b1 b2 b3 b4 b5 b6
  refine (R2.out _).mono ?_; rintro e w3 ⟨rfl, hb3⟩
  have k3 := H3.out.below hb3
  have kb := HB.out.trans (hb3.mono HB.out.size); clear H3 HB
  have H3 := Lib.hid k3; have HB := Lib.hid kb; clear k3 kb hb3
  go_wp2_with fail
  go_ret
  exact ⟨rfl, HB.out⟩
set_option maxHeartbeats 1000000 in
theorem refLeqM_C (a b : Sm) (w : World) (h : a.R) (h2 : b.R) (h3 : (a.fr != b.fr) = true) : Calls Try.prog 22 #[a.v, b.v] w fun e w' => e = .returned (.bool false) ∧ Below w.heap.size w w' := by
  have h3 := Two2.made w 30 a b
  have hbw := below_alloc2 w (.cells #[.int .i64 a.fr, .int .i64 a.to, .int .i64 a.kp, .int .i64 a.ad, .int .i64 a.t0, .int .i64 a.t1, .int .i64 a.t2] 30) (.cells #[.int .i64 b.fr, .int .i64 b.to, .int .i64 b.kp, .int .i64 b.ad, .int .i64 b.t0, .int .i64 b.t1, .int .i64 b.t2] 30)
  have H3 := Lib.hid h3; have HB := Lib.hid hbw; clear h3 hbw
  have r1 := fun w => refRightM_true h w
  have r2 := fun w => refRightM_true h2 w
  have R1 := Lib.hid r1; have R2 := Lib.hid r2; clear r1 r2
  clear h h2
  unfold Sm.v at *
  go_enter Try.func22, Try.ntmps22
  go_wp2_with fail
  refine (R1.out _).mono ?_; rintro e w2 ⟨rfl, hb2⟩
  have k3 := H3.out.below hb2
  have kb := HB.out.trans (hb2.mono HB.out.size); clear H3 HB
  have H3 := Lib.hid k3; have HB := Lib.hid kb; clear k3 kb hb2
  obtain ⟨a0, a1, a2, a3, a4, a5, a6⟩ := H3.out.1.cells7
  obtain ⟨b0, b1, b2, b3, b4, b5, b6⟩ := H3.out.2.cells7
  go_wp2_with fail
  clear a0 a1 a2 a3 a4 a5 a6 b0 b1 b2 b3 b4 b5 b6
  refine (R2.out _).mono ?_; rintro e w3 ⟨rfl, hb3⟩
  have k3 := H3.out.below hb3
  have kb := HB.out.trans (hb3.mono HB.out.size); clear H3 HB
  have H3 := Lib.hid k3; have HB := Lib.hid kb; clear k3 kb hb3
  obtain ⟨a0, a1, a2, a3, a4, a5, a6⟩ := H3.out.1.cells7
  obtain ⟨b0, b1, b2, b3, b4, b5, b6⟩ := H3.out.2.cells7
  go_wp2_with fail
  go_ret
  exact ⟨rfl, HB.out⟩
set_option maxHeartbeats 1000000 in
theorem refLeqM_D (a b : Sm) (w : World) (h : a.R) (h2 : b.R) (h3 : (a.fr != b.fr) = false) (h4 : (a.to != b.to) = true) : Calls Try.prog 22 #[a.v, b.v] w fun e w' => e = .returned (.bool false) ∧ Below w.heap.size w w' := by
  have h3 := Two2.made w 30 a b
  have hbw := below_alloc2 w (.cells #[.int .i64 a.fr, .int .i64 a.to, .int .i64 a.kp, .int .i64 a.ad, .int .i64 a.t0, .int .i64 a.t1, .int .i64 a.t2] 30) (.cells #[.int .i64 b.fr, .int .i64 b.to, .int .i64 b.kp, .int .i64 b.ad, .int .i64 b.t0, .int .i64 b.t1, .int .i64 b.t2] 30)
  have H3 := Lib.hid h3; have HB := Lib.hid hbw; clear h3 hbw
  have r1 := fun w => refRightM_true h w
  have r2 := fun w => refRightM_true h2 w
  have R1 := Lib.hid r1; have R2 := Lib.hid r2; clear r1 r2
  clear h h2
  unfold Sm.v at *
  go_enter Try.func22, Try.ntmps22
  go_wp2_with fail
  refine (R1.out _).mono ?_; rintro e w2 ⟨rfl, hb2⟩
  have k3 := H3.out.below hb2
  have kb := HB.out.trans (hb2.mono HB.out.size); clear H3 HB
  have H3 := Lib.hid k3; have HB := Lib.hid kb; clear k3 kb hb2
  obtain ⟨a0, a1, a2, a3, a4, a5, a6⟩ := H3.out.1.cells7
  obtain ⟨b0, b1, b2, b3, b4, b5, b6⟩ := H3.out.2.cells7
  go_wp2_with fail
  clear a0 a1 a2 a3 a4 a5 a6 b0 b1 b2 b3 b4 b5 b6
  refine (R2.out _).mono ?_; rintro e w3 ⟨rfl, hb3⟩
  have k3 := H3.out.below hb3
  have kb := HB.out.trans (hb3.mono HB.out.size); clear H3 HB
  have H3 := Lib.hid k3; have HB := Lib.hid kb; clear k3 kb hb3
  obtain ⟨a0, a1, a2, a3, a4, a5, a6⟩ := H3.out.1.cells7
  obtain ⟨b0, b1, b2, b3, b4, b5, b6⟩ := H3.out.2.cells7
  go_wp2_with fail
  go_ret
  exact ⟨rfl, HB.out⟩
set_option maxHeartbeats 1000000 in
theorem refLeqM_E (a b : Sm) (w : World) (h : a.R) (h2 : b.R) (h3 : (a.fr != b.fr) = false) (h4 : (a.to != b.to) = false) (h5 : b.kp < a.kp) : Calls Try.prog 22 #[a.v, b.v] w fun e w' => e = .returned (.bool false) ∧ Below w.heap.size w w' := by
  have h3 := Two2.made w 30 a b
  have hbw := below_alloc2 w (.cells #[.int .i64 a.fr, .int .i64 a.to, .int .i64 a.kp, .int .i64 a.ad, .int .i64 a.t0, .int .i64 a.t1, .int .i64 a.t2] 30) (.cells #[.int .i64 b.fr, .int .i64 b.to, .int .i64 b.kp, .int .i64 b.ad, .int .i64 b.t0, .int .i64 b.t1, .int .i64 b.t2] 30)
  have H3 := Lib.hid h3; have HB := Lib.hid hbw; clear h3 hbw
  have r1 := fun w => refRightM_true h w
  have r2 := fun w => refRightM_true h2 w
  have R1 := Lib.hid r1; have R2 := Lib.hid r2; clear r1 r2
  clear h h2
  unfold Sm.v at *
  go_enter Try.func22, Try.ntmps22
  go_wp2_with fail
  refine (R1.out _).mono ?_; rintro e w2 ⟨rfl, hb2⟩
  have k3 := H3.out.below hb2
  have kb := HB.out.trans (hb2.mono HB.out.size); clear H3 HB
  have H3 := Lib.hid k3; have HB := Lib.hid kb; clear k3 kb hb2
  obtain ⟨a0, a1, a2, a3, a4, a5, a6⟩ := H3.out.1.cells7
  obtain ⟨b0, b1, b2, b3, b4, b5, b6⟩ := H3.out.2.cells7
  go_wp2_with fail
  clear a0 a1 a2 a3 a4 a5 a6 b0 b1 b2 b3 b4 b5 b6
  refine (R2.out _).mono ?_; rintro e w3 ⟨rfl, hb3⟩
  have k3 := H3.out.below hb3
  have kb := HB.out.trans (hb3.mono HB.out.size); clear H3 HB
  have H3 := Lib.hid k3; have HB := Lib.hid kb; clear k3 kb hb3
  obtain ⟨a0, a1, a2, a3, a4, a5, a6⟩ := H3.out.1.cells7
  obtain ⟨b0, b1, b2, b3, b4, b5, b6⟩ := H3.out.2.cells7
  go_wp2_with fail
  go_ret
  exact ⟨rfl, HB.out⟩
end

section
open Go.ChangeShapes Go.WideShapes Go.ChangeAt Go.RowKit Go.BigFrame
set_option maxRecDepth 100000
theorem mx_le {x y : Int} : mx x y = y ↔ x ≤ y := by unfold mx; split <;> omega
theorem L_mx {a b : Sm} (ha : a.R) (hb : b.R) (hf : a.fr = b.fr) (ht : a.to = b.to) (hk : a.kp ≤ b.kp) :
    eqL (mx (a.al 0 0) (b.al 0 0)) (mx (a.al 1 0) (b.al 1 0)) (mx (a.al 2 0) (b.al 2 0)) (b.al 0 0) (b.al 1 0) (b.al 2 0) = decide (a.L b) := by
  unfold eqL
  rw [decide_eq_decide, mx_le, mx_le, mx_le, Sm.al_zero, Sm.al_zero, Sm.al_zero, Sm.al_zero, Sm.al_zero, Sm.al_zero, ← ht]
  unfold Sm.L
  constructor
  · rintro ⟨h0, h1, h2⟩
    refine ⟨ha, hb, hf, ht, hk, fun h => ?_, fun h => ?_, fun h => ?_⟩
    · rwa [if_pos h, if_pos h] at h0
    · rwa [if_pos h, if_pos h] at h1
    · rwa [if_pos h, if_pos h] at h2
  · rintro ⟨-, -, -, -, -, h0, h1, h2⟩
    refine ⟨?_, ?_, ?_⟩
    · split
      · rename_i h; exact h0 h
      · exact Int.le_refl _
    · split
      · rename_i h; exact h1 h
      · exact Int.le_refl _
    · split
      · rename_i h; exact h2 h
      · exact Int.le_refl _
theorem load_row {W : World} {g : Nat} {p q r : Int} (h : Row W g 57 [.int .i64 p, .int .i64 q, .int .i64 r]) : ∀ w', Below W.heap.size W w' → (Instr.loadAt 57 (.pointer (some ⟨g, 0, none⟩))).run Try.prog w' = .ok (.agg #[.int .i64 p, .int .i64 q, .int .i64 r]) w' :=
  fun w' hb => run_loadAt_part g 0 57 _ [.int .i64 p, .int .i64 q, .int .i64 r] (fun j v hj => by rw [add_at, (h.below hb h.lt).cell, Nat.zero_add]; exact hj) Try.underlying57 rfl (by kernel_rfl)
theorem eq3r (d : Nat) (x y z p q r : Int) (w : World) : (Op.equalIn (d + 2) 57 (.agg #[.int .i64 x, .int .i64 y, .int .i64 z]) (.agg #[.int .i64 p, .int .i64 q, .int .i64 r])).run Try.prog w = .ok (decide (x = p ∧ y = q ∧ z = r)) w := by
  have hu := Try.underlying57
  have hi : ∀ w, (isAgg 3).run Try.prog w = .ok false w := fun w => by go_simp
  unfold Op.equalIn
  simp [run_underlying hu, range3, part, hi, eq_int, Sem.run_bind]
  by_cases h1 : x = p
  · by_cases h2 : y = q
    · by_cases h3 : z = r
      · simp [h1, h2, h3]
      · simp [h1, h2, h3]
    · simp [h1, h2]
  · simp [h1]
theorem eq_r (x y : Operand) (a b c p q r : Int) : ∀ w, (do eqGuard .eql 57 x y (.agg #[.int .i64 a, .int .i64 b, .int .i64 c]) (.agg #[.int .i64 p, .int .i64 q, .int .i64 r]); binOp .eql 57 (.agg #[.int .i64 a, .int .i64 b, .int .i64 c]) (.agg #[.int .i64 p, .int .i64 q, .int .i64 r]) : Sem Value).run Try.prog w = .ok (.bool (eqL a b c p q r)) w := by
  intro w
  rw [Sem.run_bind, run_eqGuard_agg w _ _ _ _ _ _ (by kernel_rfl), Result.andThen_ok, run_eql_struct, eq3r 9998]
  rfl
set_option maxHeartbeats 4000000 in
theorem leqM_F (a b : Sm) (w : World) (p0 p1 p2 q0 q1 q2 : Int) (h : a.R) (h2 : b.R) (h3 : (a.fr != b.fr) = false) (h4 : (a.to != b.to) = false) (h5 : ¬ b.kp < a.kp)
    (ca : ∀ w, Calls Try.prog 29 #[a.v, .agg #[.int .i64 0, .int .i64 0, .int .i64 0]] w fun e w' => e = .returned (.agg #[.int .i64 p0, .int .i64 p1, .int .i64 p2]) ∧ Below w.heap.size w w')
    (cb : ∀ w, Calls Try.prog 29 #[b.v, .agg #[.int .i64 0, .int .i64 0, .int .i64 0]] w fun e w' => e = .returned (.agg #[.int .i64 q0, .int .i64 q1, .int .i64 q2]) ∧ Below w.heap.size w w') :
    Calls Try.prog 21 #[a.v, b.v] w fun e w' => e = .returned (.bool (eqL (mx p0 q0) (mx p1 q1) (mx p2 q2) q0 q1 q2)) ∧ Below w.heap.size w w' := by
  have h3 := Two2.made w 24 a b
  have hbw := below_alloc2 w (.cells #[.int .i64 a.fr, .int .i64 a.to, .int .i64 a.kp, .int .i64 a.ad, .int .i64 a.t0, .int .i64 a.t1, .int .i64 a.t2] 24) (.cells #[.int .i64 b.fr, .int .i64 b.to, .int .i64 b.kp, .int .i64 b.ad, .int .i64 b.t0, .int .i64 b.t1, .int .i64 b.t2] 24)
  have H3 := Lib.hid h3; have HB := Lib.hid hbw; clear h3 hbw
  have r1 := fun w => rightM_true h w
  have r2 := fun w => rightM_true h2 w
  have cg := fun w => greaterM_any p0 p1 p2 q0 q1 q2 w
  have R1 := Lib.hid r1; have R2 := Lib.hid r2; have CA := Lib.hid ca; have CB := Lib.hid cb; have CG := Lib.hid cg; clear r1 r2 ca cb cg
  clear h h2
  unfold Sm.v at *
  go_enter Try.func21, Try.ntmps21
  go_wp2_with fail
  refine (R1.out _).mono ?_; rintro e w2 ⟨rfl, hb2⟩
  have k3 := H3.out.below hb2
  have kb := HB.out.trans (hb2.mono HB.out.size); clear H3 HB
  have H3 := Lib.hid k3; have HB := Lib.hid kb; clear k3 kb hb2
  obtain ⟨a0, a1, a2, a3, a4, a5, a6⟩ := H3.out.1.cells7
  obtain ⟨b0, b1, b2, b3, b4, b5, b6⟩ := H3.out.2.cells7
  go_wp2_with fail
  clear a0 a1 a2 a3 a4 a5 a6 b0 b1 b2 b3 b4 b5 b6
  refine (R2.out _).mono ?_; rintro e w3 ⟨rfl, hb3⟩
  have k3 := H3.out.below hb3
  have kb := HB.out.trans (hb3.mono HB.out.size); clear H3 HB
  have H3 := Lib.hid k3; have HB := Lib.hid kb; clear k3 kb hb3
  obtain ⟨a0, a1, a2, a3, a4, a5, a6⟩ := H3.out.1.cells7
  obtain ⟨b0, b1, b2, b3, b4, b5, b6⟩ := H3.out.2.cells7
  go_wp2_with fail
  clear a0 a1 a2 a3 a4 a5 a6 b0 b1 b2 b3 b4 b5 b6
  refine (CB.out _).mono ?_; rintro e w4 ⟨rfl, hb4⟩
  have k3 := H3.out.below hb4
  have kb := HB.out.trans (hb4.mono HB.out.size); clear H3 HB
  have H3 := Lib.hid k3; have HB := Lib.hid kb; clear k3 kb hb4
  clear h3 h4 h5
  have hc := HB.out.size
  go_wp2_with fail
  have k3 : Two2 (w4.alloc (.cells #[.int .i64 q0, .int .i64 q1, .int .i64 q2] 57)) w.heap.size 24 a b := ⟨H3.out.1.alloc _, H3.out.2.alloc _⟩
  have kr : Row (w4.alloc (.cells #[.int .i64 q0, .int .i64 q1, .int .i64 q2] 57)) w4.heap.size 57 [.int .i64 q0, .int .i64 q1, .int .i64 q2] := Row.made w4 _ _
  have kb := HB.out.alloc HB.out.size (.cells #[.int .i64 q0, .int .i64 q1, .int .i64 q2] 57)
  clear H3 HB hc R1 R2 CB
  generalize w4.alloc (.cells #[.int .i64 q0, .int .i64 q1, .int .i64 q2] 57) = W at *
  generalize w4.heap.size = g at *
  have H3 := Lib.hid k3; have HR := Lib.hid kr; have HB := Lib.hid kb; clear k3 kr kb
  refine wp_region_below (by kernel_rfl) (by kernel_rfl) ?_
  refine wpQuiet_step (fun K hK => ?_); refine q_load (p := .pointer (some ⟨w.heap.size, 0, none⟩)) 24 _ rfl rfl rfl (load_m H3.out.1) ?_; go_simp; (with_reducible refine hK _ ?_); clear hK K
  refine wpQuiet_step (fun K hK => ?_); go_simp; (first | (with_reducible refine hK _ ?_) | (with_reducible refine ⟨_, fun _ _ => rfl, hK _ ?_⟩)); clear hK K
  refine wpQuiet_step (fun K hK => ?_); go_simp; (with_reducible refine ⟨_, fun _ hb => (CA.out _).mono fun _ _ h => ⟨h.1, hb.trans (h.2.mono (by simpa using hb.size))⟩, hK _ ?_⟩); clear hK K
  refine wpQuiet_step (fun K hK => ?_); refine q_load (p := .pointer (some ⟨g, 0, none⟩)) 57 _ rfl rfl rfl (load_row HR.out) ?_; go_simp; (with_reducible refine hK _ ?_); clear hK K
  refine wpQuiet_step (fun K hK => ?_); go_simp; (with_reducible refine ⟨_, fun _ hb => (CG.out _).mono fun _ _ h => ⟨h.1, hb.trans (h.2.mono (by simpa using hb.size))⟩, hK _ ?_⟩); clear hK K
  refine wpQuiet_step (fun K hK => ?_); refine q_load (p := .pointer (some ⟨g, 0, none⟩)) 57 _ rfl rfl rfl (load_row HR.out) ?_; go_simp; (with_reducible refine hK _ ?_); clear hK K
  refine wpQuiet_step (fun K hK => ?_); refine q_bin _ _ _ _ _ rfl rfl rfl rfl (eq_r _ _ _ _ _ _ _ _) ?_; go_simp; (with_reducible refine hK _ ?_); clear hK K
  refine wpQuiet_step (fun K hK => ?_); go_simp; (first | (with_reducible refine hK _ ?_) | (with_reducible refine ⟨_, fun _ _ => rfl, hK _ ?_⟩)); clear hK K
  refine wpQuiet_nil ?_
  intro w8 hb8
  go_wp2_with fail
  go_ret
  exact ⟨rfl, HB.out.trans (hb8.mono HB.out.size)⟩
theorem leqM_any (a b : Sm) (w : World) : Calls Try.prog 21 #[a.v, b.v] w fun e w' => e = .returned (.bool (decide (a.L b))) ∧ Below w.heap.size w w' := by
  by_cases h : a.R
  case neg => rw [decide_eq_false (fun hh : a.L b => h hh.1)]; exact leqM_A a b w h
  by_cases h2 : b.R
  case neg => rw [decide_eq_false (fun hh : a.L b => h2 hh.2.1)]; exact leqM_B a b w h h2
  by_cases h3 : a.fr = b.fr
  case neg => rw [decide_eq_false (fun hh : a.L b => h3 hh.2.2.1)]; exact leqM_C a b w h h2 (by simpa using h3)
  by_cases h4 : a.to = b.to
  case neg => rw [decide_eq_false (fun hh : a.L b => h4 hh.2.2.2.1)]; exact leqM_D a b w h h2 (by simpa using h3) (by simpa using h4)
  by_cases h5 : b.kp < a.kp
  case pos => rw [decide_eq_false (fun hh : a.L b => by have := hh.2.2.2.2.1; omega)]; exact leqM_E a b w h h2 (by simpa using h3) (by simpa using h4) h5
  rw [← L_mx h h2 h3 h4 (by omega)]
  exact leqM_F a b w _ _ _ _ _ _ h h2 (by simpa using h3) (by simpa using h4) h5 (fun w => along_any a 0 0 0 w h (by omega) (by omega) (by omega)) (fun w => along_any b 0 0 0 w h2 (by omega) (by omega) (by omega))
end

section
open Go.ChangeShapes Go.WideShapes Go.ChangeAt Go.RowKit Go.BigFrame
set_option maxRecDepth 100000
theorem field_n (b : Bool) (n : Int) : ∀ w, (Instr.field 60 (.agg #[.bool b, .int .i64 n]) 1).run Try.prog w = .ok (.int .i64 n) w := by
  intro w
  have hi : ∀ w, (isAgg 3).run Try.prog w = .ok false w := fun w => by go_simp
  have hz : ∀ w, (sizeOf 3).run Try.prog w = .ok 1 w := fun w => by go_simp
  have hu := Try.underlying60
  simp [Instr.field, run_underlying hu, hi, hz, part, Sem.run_bind, go_sem]
  rfl
section
variable {P : Program} {C : World → Prop} {K : Act → Prop} {a : Act} {o : Oper} {ops : Array Oper}
theorem q_field {v p : Value} (t : TypeId) (x : Operand) (f : Nat) (ho : o.op = .field t x f) (hw : Region.wanted o (yielded ops a.tmps) = true) (hx : a.eval x = p)
    (hr : ∀ w', (Instr.field t p f).run P w' = .ok v w') (hk : K (a.put o.dst v)) :
    if Region.wanted o (yielded ops a.tmps) then o.quiet P a C K else K (a.put o.dst undef) := by
  rw [if_pos hw]
  refine ⟨v, fun w' hw' => ?_, hk⟩
  unfold Oper.quietAt execOp
  simp only [ho, hx]
  rw [Sem.run_bind, hr w']
  simp only [Result.andThen_ok, Sem.run_pure, Oper.quietUpon]
  exact ⟨trivial, trivial⟩
end
theorem gtr_is {x y : Operand} {a b : Int} {v : Bool} (h : decide (b < a) = v) : ∀ w, (do eqGuard .gtr 3 x y (.int .i64 a) (.int .i64 b); binOp .gtr 3 (.int .i64 a) (.int .i64 b) : Sem Value).run Try.prog w = .ok (.bool v) w := by
  intro w; subst h; go_simp
set_option maxHeartbeats 8000000 in
theorem refLeqM_F (a b : Sm) (w : World) (h : a.R) (h2 : b.R) (h3 : (a.fr != b.fr) = false) (h4 : (a.to != b.to) = false) (h5 : ¬ b.kp < a.kp) : Calls Try.prog 22 #[a.v, b.v] w fun e w' => e = .returned (.bool (decide (a.L b))) ∧ Below w.heap.size w w' := by
  obtain ⟨n, hnn⟩ : ∃ n : Nat, a.to = n := ⟨a.to.toNat, by unfold Sm.R at h; omega⟩
  have hn3 : n ≤ 3 := by unfold Sm.R at h; omega
  have hto : a.to = b.to := by simpa using h4
  have hL : (a.L b) ↔ (0 < n → a.N 0 ≤ b.N 0) ∧ (1 < n → a.N 1 ≤ b.N 1) ∧ (2 < n → a.N 2 ≤ b.N 2) := by
    unfold Sm.L
    have h3' : a.fr = b.fr := by simpa using h3
    rw [hnn]
    constructor
    · rintro ⟨-, -, -, -, -, k0, k1, k2⟩; exact ⟨fun q => k0 (by omega), fun q => k1 (by omega), fun q => k2 (by omega)⟩
    · rintro ⟨k0, k1, k2⟩; exact ⟨h, h2, h3', by omega, by omega, fun q => k0 (by omega), fun q => k1 (by omega), fun q => k2 (by omega)⟩
  have ca0 := fun (hl : 0 < n) w => refAt_any a 0 w h (by rw [hnn]; omega)
  have ca1 := fun (hl : 1 < n) w => refAt_any a 1 w h (by rw [hnn]; omega)
  have ca2 := fun (hl : 2 < n) w => refAt_any a 2 w h (by rw [hnn]; omega)
  have cb0 := fun (hl : 0 < n) w => refAt_any b 0 w h2 (by rw [← hto, hnn]; omega)
  have cb1 := fun (hl : 1 < n) w => refAt_any b 1 w h2 (by rw [← hto, hnn]; omega)
  have cb2 := fun (hl : 2 < n) w => refAt_any b 2 w h2 (by rw [← hto, hnn]; omega)
  simp only [Int.natCast_zero, Int.natCast_one] at ca0 ca1 cb0 cb1
  rw [show ((2 : Nat) : Int) = 2 from rfl] at ca2 cb2
  generalize a.N 0 = x0 at *
  generalize a.N 1 = x1 at *
  generalize a.N 2 = x2 at *
  generalize b.N 0 = y0 at *
  generalize b.N 1 = y1 at *
  generalize b.N 2 = y2 at *
  generalize decide ((0 : Int) < a.kp) = ka0 at *
  generalize decide ((1 : Int) < a.kp) = ka1 at *
  generalize decide ((2 : Int) < a.kp) = ka2 at *
  generalize decide ((0 : Int) < b.kp) = kb0 at *
  generalize decide ((1 : Int) < b.kp) = kb1 at *
  generalize decide ((2 : Int) < b.kp) = kb2 at *
  generalize hLL : decide (a.L b) = LL at *
  have hl1 : LL = decide ((0 < n → x0 ≤ y0) ∧ (1 < n → x1 ≤ y1) ∧ (2 < n → x2 ≤ y2)) := by rw [← hLL]; exact decide_eq_decide.2 hL
  clear hL hLL hto
  unfold Sm.v at ca0 ca1 ca2 cb0 cb1 cb2
  have h3 := Two2.made w 30 a b
  have hbw := below_alloc2 w (.cells #[.int .i64 a.fr, .int .i64 a.to, .int .i64 a.kp, .int .i64 a.ad, .int .i64 a.t0, .int .i64 a.t1, .int .i64 a.t2] 30) (.cells #[.int .i64 b.fr, .int .i64 b.to, .int .i64 b.kp, .int .i64 b.ad, .int .i64 b.t0, .int .i64 b.t1, .int .i64 b.t2] 30)
  have H3 := Lib.hid h3; have HB := Lib.hid hbw; clear h3 hbw
  have r1 := fun w => refRightM_true h w
  have r2 := fun w => refRightM_true h2 w
  have R1 := Lib.hid r1; have R2 := Lib.hid r2; have CA0 := Lib.hid ca0; have CA1 := Lib.hid ca1; have CA2 := Lib.hid ca2; have CB0 := Lib.hid cb0; have CB1 := Lib.hid cb1; have CB2 := Lib.hid cb2; clear r1 r2 ca0 ca1 ca2 cb0 cb1 cb2
  have HLL := Lib.hid hl1; have HNN := Lib.hid (And.intro hnn hn3); clear hl1 hnn hn3 h h2
  unfold Sm.v at *
  go_enter Try.func22, Try.ntmps22
  go_wp2_with fail
  refine (R1.out _).mono ?_; rintro e w2 ⟨rfl, hb2⟩
  have k3 := H3.out.below hb2
  have kb := HB.out.trans (hb2.mono HB.out.size); clear H3 HB
  have H3 := Lib.hid k3; have HB := Lib.hid kb; clear k3 kb hb2
  obtain ⟨a0, a1, a2, a3, a4, a5, a6⟩ := H3.out.1.cells7
  obtain ⟨b0, b1, b2, b3, b4, b5, b6⟩ := H3.out.2.cells7
  go_wp2_with fail
  clear a0 a1 a2 a3 a4 a5 a6 b0 b1 b2 b3 b4 b5 b6
  refine (R2.out _).mono ?_; rintro e w3 ⟨rfl, hb3⟩
  have k3 := H3.out.below hb3
  have kb := HB.out.trans (hb3.mono HB.out.size); clear H3 HB
  have H3 := Lib.hid k3; have HB := Lib.hid kb; clear k3 kb hb3
  obtain ⟨a0, a1, a2, a3, a4, a5, a6⟩ := H3.out.1.cells7
  obtain ⟨b0, b1, b2, b3, b4, b5, b6⟩ := H3.out.2.cells7
  go_wp2_with fail
  clear a0 a1 a2 a3 a4 a5 a6 b0 b1 b2 b3 b4 b5 b6
  clear R1 R2 h3 h4 h5
  go_loopw [5] (fun i wr => ∃ (k : Nat), k ≤ n ∧ i = .int .i64 k ∧ Two2 wr w.heap.size 30 a b ∧ Below w.heap.size w wr ∧ (0 < k → x0 ≤ y0) ∧ (1 < k → x1 ≤ y1) ∧ (2 < k → x2 ≤ y2)) (fun i _ => n - (intOf i).toNat)
  case atStart => exact ⟨0, by omega, rfl, H3.out, HB.out, by omega, by omega, by omega⟩
  case round =>
    obtain ⟨k, hk, rfl, k3, kb, hv⟩ := hrel
    clear H3 HB
    obtain ⟨a0, a1, a2, a3, a4, a5, a6⟩ := k3.1.cells7
    have H3 := Lib.hid k3; have HB := Lib.hid kb; have HV := Lib.hid hv; clear k3 kb hv
    by_cases hlt : k < n
    · have hlt' : (k : Int) < a.to := by have := HNN.out.1; omega
      have hcase : k = 0 ∨ k = 1 ∨ k = 2 := by have := HNN.out.2; omega
      rcases hcase with rfl | rfl | rfl
      · simp only [Int.natCast_zero, Int.natCast_one, Int.cast_ofNat_Int] at hlt'
        by_cases hq' : y0 < x0
        · have hq : decide (y0 < x0) = true := by simpa using hq'
          go_wp2_with fail
          clear a0 a1 a2 a3 a4 a5 a6
          refine wp_region_below (by kernel_rfl) (by kernel_rfl) ?_
          refine wpQuiet_step (fun K hK => ?_); refine q_load (p := .pointer (some ⟨w.heap.size, 0, none⟩)) 30 _ rfl rfl rfl (load_n H3.out.1) ?_; go_simp; (with_reducible refine hK _ ?_); clear hK K
          refine wpQuiet_step (fun K hK => ?_); go_simp; (first | (with_reducible refine hK _ ?_) | (with_reducible refine ⟨_, fun _ _ => rfl, hK _ ?_⟩)); clear hK K
          refine wpQuiet_step (fun K hK => ?_); go_simp; (with_reducible refine ⟨_, fun _ hb => (CA0.out hlt _).mono fun _ _ h => ⟨h.1, hb.trans (h.2.mono (by simpa using hb.size))⟩, hK _ ?_⟩); clear hK K
          refine wpQuiet_step (fun K hK => ?_); refine q_field 60 _ 1 rfl rfl rfl (field_n _ _) ?_; go_simp; (with_reducible refine hK _ ?_); clear hK K
          refine wpQuiet_step (fun K hK => ?_); refine q_load (p := .pointer (some ⟨w.heap.size + 1, 0, none⟩)) 30 _ rfl rfl rfl (load_n H3.out.2) ?_; go_simp; (with_reducible refine hK _ ?_); clear hK K
          refine wpQuiet_step (fun K hK => ?_); go_simp; (first | (with_reducible refine hK _ ?_) | (with_reducible refine ⟨_, fun _ _ => rfl, hK _ ?_⟩)); clear hK K
          refine wpQuiet_step (fun K hK => ?_); go_simp; (with_reducible refine ⟨_, fun _ hb => (CB0.out hlt _).mono fun _ _ h => ⟨h.1, hb.trans (h.2.mono (by simpa using hb.size))⟩, hK _ ?_⟩); clear hK K
          refine wpQuiet_step (fun K hK => ?_); refine q_field 60 _ 1 rfl rfl rfl (field_n _ _) ?_; go_simp; (with_reducible refine hK _ ?_); clear hK K
          refine wpQuiet_step (fun K hK => ?_); refine q_bin _ _ _ _ _ rfl rfl rfl rfl (gtr_is hq) ?_; go_simp; (with_reducible refine hK _ ?_); clear hK K
          refine wpQuiet_nil ?_
          intro w8 hb8
          go_wp2_with fail
          go_ret
          have hl := HLL.out
          rw [decide_eq_false (fun hh => by have := hh.1; have := hh.2.1; have := hh.2.2; omega)] at hl
          exact ⟨by rw [hl]; rfl, HB.out.trans (hb8.mono HB.out.size)⟩
        · have hq : decide (y0 < x0) = false := by simpa using hq'
          go_wp2_with fail
          clear a0 a1 a2 a3 a4 a5 a6
          refine wp_region_below (by kernel_rfl) (by kernel_rfl) ?_
          refine wpQuiet_step (fun K hK => ?_); refine q_load (p := .pointer (some ⟨w.heap.size, 0, none⟩)) 30 _ rfl rfl rfl (load_n H3.out.1) ?_; go_simp; (with_reducible refine hK _ ?_); clear hK K
          refine wpQuiet_step (fun K hK => ?_); go_simp; (first | (with_reducible refine hK _ ?_) | (with_reducible refine ⟨_, fun _ _ => rfl, hK _ ?_⟩)); clear hK K
          refine wpQuiet_step (fun K hK => ?_); go_simp; (with_reducible refine ⟨_, fun _ hb => (CA0.out hlt _).mono fun _ _ h => ⟨h.1, hb.trans (h.2.mono (by simpa using hb.size))⟩, hK _ ?_⟩); clear hK K
          refine wpQuiet_step (fun K hK => ?_); refine q_field 60 _ 1 rfl rfl rfl (field_n _ _) ?_; go_simp; (with_reducible refine hK _ ?_); clear hK K
          refine wpQuiet_step (fun K hK => ?_); refine q_load (p := .pointer (some ⟨w.heap.size + 1, 0, none⟩)) 30 _ rfl rfl rfl (load_n H3.out.2) ?_; go_simp; (with_reducible refine hK _ ?_); clear hK K
          refine wpQuiet_step (fun K hK => ?_); go_simp; (first | (with_reducible refine hK _ ?_) | (with_reducible refine ⟨_, fun _ _ => rfl, hK _ ?_⟩)); clear hK K
          refine wpQuiet_step (fun K hK => ?_); go_simp; (with_reducible refine ⟨_, fun _ hb => (CB0.out hlt _).mono fun _ _ h => ⟨h.1, hb.trans (h.2.mono (by simpa using hb.size))⟩, hK _ ?_⟩); clear hK K
          refine wpQuiet_step (fun K hK => ?_); refine q_field 60 _ 1 rfl rfl rfl (field_n _ _) ?_; go_simp; (with_reducible refine hK _ ?_); clear hK K
          refine wpQuiet_step (fun K hK => ?_); refine q_bin _ _ _ _ _ rfl rfl rfl rfl (gtr_is hq) ?_; go_simp; (with_reducible refine hK _ ?_); clear hK K
          refine wpQuiet_nil ?_
          intro w8 hb8
          go_wp2_with fail
          go_roundw
          case rel => exact ⟨1, by omega, rfl, H3.out.below hb8, HB.out.trans (hb8.mono HB.out.size), by have := HV.out; omega⟩
          case measure => simp [intOf]; omega
      · simp only [Int.natCast_zero, Int.natCast_one, Int.cast_ofNat_Int] at hlt'
        by_cases hq' : y1 < x1
        · have hq : decide (y1 < x1) = true := by simpa using hq'
          go_wp2_with fail
          clear a0 a1 a2 a3 a4 a5 a6
          refine wp_region_below (by kernel_rfl) (by kernel_rfl) ?_
          refine wpQuiet_step (fun K hK => ?_); refine q_load (p := .pointer (some ⟨w.heap.size, 0, none⟩)) 30 _ rfl rfl rfl (load_n H3.out.1) ?_; go_simp; (with_reducible refine hK _ ?_); clear hK K
          refine wpQuiet_step (fun K hK => ?_); go_simp; (first | (with_reducible refine hK _ ?_) | (with_reducible refine ⟨_, fun _ _ => rfl, hK _ ?_⟩)); clear hK K
          refine wpQuiet_step (fun K hK => ?_); go_simp; (with_reducible refine ⟨_, fun _ hb => (CA1.out hlt _).mono fun _ _ h => ⟨h.1, hb.trans (h.2.mono (by simpa using hb.size))⟩, hK _ ?_⟩); clear hK K
          refine wpQuiet_step (fun K hK => ?_); refine q_field 60 _ 1 rfl rfl rfl (field_n _ _) ?_; go_simp; (with_reducible refine hK _ ?_); clear hK K
          refine wpQuiet_step (fun K hK => ?_); refine q_load (p := .pointer (some ⟨w.heap.size + 1, 0, none⟩)) 30 _ rfl rfl rfl (load_n H3.out.2) ?_; go_simp; (with_reducible refine hK _ ?_); clear hK K
          refine wpQuiet_step (fun K hK => ?_); go_simp; (first | (with_reducible refine hK _ ?_) | (with_reducible refine ⟨_, fun _ _ => rfl, hK _ ?_⟩)); clear hK K
          refine wpQuiet_step (fun K hK => ?_); go_simp; (with_reducible refine ⟨_, fun _ hb => (CB1.out hlt _).mono fun _ _ h => ⟨h.1, hb.trans (h.2.mono (by simpa using hb.size))⟩, hK _ ?_⟩); clear hK K
          refine wpQuiet_step (fun K hK => ?_); refine q_field 60 _ 1 rfl rfl rfl (field_n _ _) ?_; go_simp; (with_reducible refine hK _ ?_); clear hK K
          refine wpQuiet_step (fun K hK => ?_); refine q_bin _ _ _ _ _ rfl rfl rfl rfl (gtr_is hq) ?_; go_simp; (with_reducible refine hK _ ?_); clear hK K
          refine wpQuiet_nil ?_
          intro w8 hb8
          go_wp2_with fail
          go_ret
          have hl := HLL.out
          rw [decide_eq_false (fun hh => by have := hh.1; have := hh.2.1; have := hh.2.2; omega)] at hl
          exact ⟨by rw [hl]; rfl, HB.out.trans (hb8.mono HB.out.size)⟩
        · have hq : decide (y1 < x1) = false := by simpa using hq'
          go_wp2_with fail
          clear a0 a1 a2 a3 a4 a5 a6
          refine wp_region_below (by kernel_rfl) (by kernel_rfl) ?_
          refine wpQuiet_step (fun K hK => ?_); refine q_load (p := .pointer (some ⟨w.heap.size, 0, none⟩)) 30 _ rfl rfl rfl (load_n H3.out.1) ?_; go_simp; (with_reducible refine hK _ ?_); clear hK K
          refine wpQuiet_step (fun K hK => ?_); go_simp; (first | (with_reducible refine hK _ ?_) | (with_reducible refine ⟨_, fun _ _ => rfl, hK _ ?_⟩)); clear hK K
          refine wpQuiet_step (fun K hK => ?_); go_simp; (with_reducible refine ⟨_, fun _ hb => (CA1.out hlt _).mono fun _ _ h => ⟨h.1, hb.trans (h.2.mono (by simpa using hb.size))⟩, hK _ ?_⟩); clear hK K
          refine wpQuiet_step (fun K hK => ?_); refine q_field 60 _ 1 rfl rfl rfl (field_n _ _) ?_; go_simp; (with_reducible refine hK _ ?_); clear hK K
          refine wpQuiet_step (fun K hK => ?_); refine q_load (p := .pointer (some ⟨w.heap.size + 1, 0, none⟩)) 30 _ rfl rfl rfl (load_n H3.out.2) ?_; go_simp; (with_reducible refine hK _ ?_); clear hK K
          refine wpQuiet_step (fun K hK => ?_); go_simp; (first | (with_reducible refine hK _ ?_) | (with_reducible refine ⟨_, fun _ _ => rfl, hK _ ?_⟩)); clear hK K
          refine wpQuiet_step (fun K hK => ?_); go_simp; (with_reducible refine ⟨_, fun _ hb => (CB1.out hlt _).mono fun _ _ h => ⟨h.1, hb.trans (h.2.mono (by simpa using hb.size))⟩, hK _ ?_⟩); clear hK K
          refine wpQuiet_step (fun K hK => ?_); refine q_field 60 _ 1 rfl rfl rfl (field_n _ _) ?_; go_simp; (with_reducible refine hK _ ?_); clear hK K
          refine wpQuiet_step (fun K hK => ?_); refine q_bin _ _ _ _ _ rfl rfl rfl rfl (gtr_is hq) ?_; go_simp; (with_reducible refine hK _ ?_); clear hK K
          refine wpQuiet_nil ?_
          intro w8 hb8
          go_wp2_with fail
          go_roundw
          case rel => exact ⟨2, by omega, rfl, H3.out.below hb8, HB.out.trans (hb8.mono HB.out.size), by have := HV.out; omega⟩
          case measure => simp [intOf]; omega
      · simp only [Int.natCast_zero, Int.natCast_one, Int.cast_ofNat_Int] at hlt'
        by_cases hq' : y2 < x2
        · have hq : decide (y2 < x2) = true := by simpa using hq'
          go_wp2_with fail
          clear a0 a1 a2 a3 a4 a5 a6
          refine wp_region_below (by kernel_rfl) (by kernel_rfl) ?_
          refine wpQuiet_step (fun K hK => ?_); refine q_load (p := .pointer (some ⟨w.heap.size, 0, none⟩)) 30 _ rfl rfl rfl (load_n H3.out.1) ?_; go_simp; (with_reducible refine hK _ ?_); clear hK K
          refine wpQuiet_step (fun K hK => ?_); go_simp; (first | (with_reducible refine hK _ ?_) | (with_reducible refine ⟨_, fun _ _ => rfl, hK _ ?_⟩)); clear hK K
          refine wpQuiet_step (fun K hK => ?_); go_simp; (with_reducible refine ⟨_, fun _ hb => (CA2.out hlt _).mono fun _ _ h => ⟨h.1, hb.trans (h.2.mono (by simpa using hb.size))⟩, hK _ ?_⟩); clear hK K
          refine wpQuiet_step (fun K hK => ?_); refine q_field 60 _ 1 rfl rfl rfl (field_n _ _) ?_; go_simp; (with_reducible refine hK _ ?_); clear hK K
          refine wpQuiet_step (fun K hK => ?_); refine q_load (p := .pointer (some ⟨w.heap.size + 1, 0, none⟩)) 30 _ rfl rfl rfl (load_n H3.out.2) ?_; go_simp; (with_reducible refine hK _ ?_); clear hK K
          refine wpQuiet_step (fun K hK => ?_); go_simp; (first | (with_reducible refine hK _ ?_) | (with_reducible refine ⟨_, fun _ _ => rfl, hK _ ?_⟩)); clear hK K
          refine wpQuiet_step (fun K hK => ?_); go_simp; (with_reducible refine ⟨_, fun _ hb => (CB2.out hlt _).mono fun _ _ h => ⟨h.1, hb.trans (h.2.mono (by simpa using hb.size))⟩, hK _ ?_⟩); clear hK K
          refine wpQuiet_step (fun K hK => ?_); refine q_field 60 _ 1 rfl rfl rfl (field_n _ _) ?_; go_simp; (with_reducible refine hK _ ?_); clear hK K
          refine wpQuiet_step (fun K hK => ?_); refine q_bin _ _ _ _ _ rfl rfl rfl rfl (gtr_is hq) ?_; go_simp; (with_reducible refine hK _ ?_); clear hK K
          refine wpQuiet_nil ?_
          intro w8 hb8
          go_wp2_with fail
          go_ret
          have hl := HLL.out
          rw [decide_eq_false (fun hh => by have := hh.1; have := hh.2.1; have := hh.2.2; omega)] at hl
          exact ⟨by rw [hl]; rfl, HB.out.trans (hb8.mono HB.out.size)⟩
        · have hq : decide (y2 < x2) = false := by simpa using hq'
          go_wp2_with fail
          clear a0 a1 a2 a3 a4 a5 a6
          refine wp_region_below (by kernel_rfl) (by kernel_rfl) ?_
          refine wpQuiet_step (fun K hK => ?_); refine q_load (p := .pointer (some ⟨w.heap.size, 0, none⟩)) 30 _ rfl rfl rfl (load_n H3.out.1) ?_; go_simp; (with_reducible refine hK _ ?_); clear hK K
          refine wpQuiet_step (fun K hK => ?_); go_simp; (first | (with_reducible refine hK _ ?_) | (with_reducible refine ⟨_, fun _ _ => rfl, hK _ ?_⟩)); clear hK K
          refine wpQuiet_step (fun K hK => ?_); go_simp; (with_reducible refine ⟨_, fun _ hb => (CA2.out hlt _).mono fun _ _ h => ⟨h.1, hb.trans (h.2.mono (by simpa using hb.size))⟩, hK _ ?_⟩); clear hK K
          refine wpQuiet_step (fun K hK => ?_); refine q_field 60 _ 1 rfl rfl rfl (field_n _ _) ?_; go_simp; (with_reducible refine hK _ ?_); clear hK K
          refine wpQuiet_step (fun K hK => ?_); refine q_load (p := .pointer (some ⟨w.heap.size + 1, 0, none⟩)) 30 _ rfl rfl rfl (load_n H3.out.2) ?_; go_simp; (with_reducible refine hK _ ?_); clear hK K
          refine wpQuiet_step (fun K hK => ?_); go_simp; (first | (with_reducible refine hK _ ?_) | (with_reducible refine ⟨_, fun _ _ => rfl, hK _ ?_⟩)); clear hK K
          refine wpQuiet_step (fun K hK => ?_); go_simp; (with_reducible refine ⟨_, fun _ hb => (CB2.out hlt _).mono fun _ _ h => ⟨h.1, hb.trans (h.2.mono (by simpa using hb.size))⟩, hK _ ?_⟩); clear hK K
          refine wpQuiet_step (fun K hK => ?_); refine q_field 60 _ 1 rfl rfl rfl (field_n _ _) ?_; go_simp; (with_reducible refine hK _ ?_); clear hK K
          refine wpQuiet_step (fun K hK => ?_); refine q_bin _ _ _ _ _ rfl rfl rfl rfl (gtr_is hq) ?_; go_simp; (with_reducible refine hK _ ?_); clear hK K
          refine wpQuiet_nil ?_
          intro w8 hb8
          go_wp2_with fail
          go_roundw
          case rel => exact ⟨3, by omega, rfl, H3.out.below hb8, HB.out.trans (hb8.mono HB.out.size), by have := HV.out; omega⟩
          case measure => simp [intOf]; omega
    · have hkn : k = n := by omega
      subst hkn
      have hge : ¬ (k : Int) < a.to := by have := HNN.out.1; omega
      have hl := HLL.out
      rw [decide_eq_true HV.out] at hl
      have HQ := Lib.hid hl; clear hl
      go_wp2_with fail
      go_ret
      exact ⟨by rw [HQ.out]; rfl, HB.out⟩
theorem refLeqM_any (a b : Sm) (w : World) : Calls Try.prog 22 #[a.v, b.v] w fun e w' => e = .returned (.bool (decide (a.L b))) ∧ Below w.heap.size w w' := by
  by_cases h : a.R
  case neg => rw [decide_eq_false (fun hh : a.L b => h hh.1)]; exact refLeqM_A a b w h
  by_cases h2 : b.R
  case neg => rw [decide_eq_false (fun hh : a.L b => h2 hh.2.1)]; exact refLeqM_B a b w h h2
  by_cases h3 : a.fr = b.fr
  case neg => rw [decide_eq_false (fun hh : a.L b => h3 hh.2.2.1)]; exact refLeqM_C a b w h h2 (by simpa using h3)
  by_cases h4 : a.to = b.to
  case neg => rw [decide_eq_false (fun hh : a.L b => h4 hh.2.2.2.1)]; exact refLeqM_D a b w h h2 (by simpa using h3) (by simpa using h4)
  by_cases h5 : b.kp < a.kp
  case pos => rw [decide_eq_false (fun hh : a.L b => by have := hh.2.2.2.2.1; omega)]; exact refLeqM_E a b w h h2 (by simpa using h3) (by simpa using h4) h5
  exact refLeqM_F a b w h h2 (by simpa using h3) (by simpa using h4) h5
end
end Go.Proofs.Ytdpadkellpkppaa
