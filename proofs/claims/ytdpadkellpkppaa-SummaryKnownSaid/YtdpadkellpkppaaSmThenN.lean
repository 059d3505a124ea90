/- Then where nothing comes of it: the program's, and the document's. -/
import Derived.Test.YtdpadkellpkppaaSmC
namespace Go.Proofs.Ytdpadkellpkppaa
open Go.ChangeShapes Go.WideShapes Go.ChangeAt Go.RowKit Go.BigFrame
set_option linter.unusedVariables false
set_option maxRecDepth 100000
set_option maxHeartbeats 1000000 in
theorem then_A (a b : Sm) (w : World) (h : ¬ a.R) : Calls Try.prog 19 #[a.v, b.v] w fun e w' => e = .returned (.tuple #[(a.th b).v, .bool (a.thB b)]) ∧ Below w.heap.size w w' := by
  obtain ⟨q1, q2⟩ := Sm.th_no (a := a) (b := b) (fun g => h g.1)
  rw [q1, q2]; clear q1 q2
  have h3 := Tri2.made w 24 a b
  have hbw := below_alloc3 w (.cells #[.int .i64 a.fr, .int .i64 a.to, .int .i64 a.kp, .int .i64 a.ad, .int .i64 a.t0, .int .i64 a.t1, .int .i64 a.t2] 24) (.cells #[.int .i64 b.fr, .int .i64 b.to, .int .i64 b.kp, .int .i64 b.ad, .int .i64 b.t0, .int .i64 b.t1, .int .i64 b.t2] 24) (.cells #[.int .i64 0, .int .i64 0, .int .i64 0, .int .i64 0, .int .i64 0, .int .i64 0, .int .i64 0] 24)
  have H3 := Lib.hid h3; have HB := Lib.hid hbw; clear h3 hbw
  have r1 := fun w => rightM_false h w
  have R1 := Lib.hid r1; clear r1
  clear h
  unfold Sm.v at *
  go_enter Try.func19, Try.ntmps19
  go_wp2_with fail
  refine (R1.out _).mono ?_; rintro e w2 ⟨rfl, hb2⟩
  have k3 := H3.out.below hb2
  have kb := HB.out.trans (hb2.mono HB.out.size); clear H3 HB
  have H3 := Lib.hid k3; have HB := Lib.hid kb; clear k3 kb hb2
  obtain ⟨f0, f1, f2, f3, f4, f5, f6⟩ := H3.out.2.2.free7
  obtain ⟨z0, z1, z2, z3, z4, z5, z6⟩ := H3.out.2.2.cells7
  go_wp2_with fail
  refine bodyPost_ret (v := .tuple #[.agg #[.int .i64 0, .int .i64 0, .int .i64 0, .int .i64 0, .int .i64 0, .int .i64 0, .int .i64 0], .bool false]) (two_results rfl _ _ _ 24 _ (0, 0) _ rfl (row_set7 H3.out.2.2) Try.underlying24 rfl (by kernel_rfl) rfl) rfl ?_
  exact ⟨rfl, below_set7 HB.out (by omega)⟩
set_option maxHeartbeats 1000000 in
theorem then_B (a b : Sm) (w : World) (h : a.R) (h2 : ¬ b.R) : Calls Try.prog 19 #[a.v, b.v] w fun e w' => e = .returned (.tuple #[(a.th b).v, .bool (a.thB b)]) ∧ Below w.heap.size w w' := by
  obtain ⟨q1, q2⟩ := Sm.th_no (a := a) (b := b) (fun g => h2 g.2.1)
  rw [q1, q2]; clear q1 q2
  have h3 := Tri2.made w 24 a b
  have hbw := below_alloc3 w (.cells #[.int .i64 a.fr, .int .i64 a.to, .int .i64 a.kp, .int .i64 a.ad, .int .i64 a.t0, .int .i64 a.t1, .int .i64 a.t2] 24) (.cells #[.int .i64 b.fr, .int .i64 b.to, .int .i64 b.kp, .int .i64 b.ad, .int .i64 b.t0, .int .i64 b.t1, .int .i64 b.t2] 24) (.cells #[.int .i64 0, .int .i64 0, .int .i64 0, .int .i64 0, .int .i64 0, .int .i64 0, .int .i64 0] 24)
  have H3 := Lib.hid h3; have HB := Lib.hid hbw; clear h3 hbw
  have r1 := fun w => rightM_true h w
  have r2 := fun w => rightM_false h2 w
  have R1 := Lib.hid r1; have R2 := Lib.hid r2; clear r1 r2
  clear h h2
  unfold Sm.v at *
  go_enter Try.func19, Try.ntmps19
  go_wp2_with fail
  refine (R1.out _).mono ?_; rintro e w2 ⟨rfl, hb2⟩
  have k3 := H3.out.below hb2
  have kb := HB.out.trans (hb2.mono HB.out.size); clear H3 HB
  have H3 := Lib.hid k3; have HB := Lib.hid kb; clear k3 kb hb2
  obtain ⟨a0, a1, a2, a3, a4, a5, a6⟩ := H3.out.1.cells7
  obtain ⟨b0, b1, b2, b3, b4, b5, b6⟩ := H3.out.2.1.cells7
  go_wp2_with fail
  clear a0 a1 a2 a3 a4 a5 a6 b0 b1 b2 b3 b4 b5 b6
  refine (R2.out _).mono ?_; rintro e w3 ⟨rfl, hb3⟩
  have k3 := H3.out.below hb3
  have kb := HB.out.trans (hb3.mono HB.out.size); clear H3 HB
  have H3 := Lib.hid k3; have HB := Lib.hid kb; clear k3 kb hb3
  obtain ⟨f0, f1, f2, f3, f4, f5, f6⟩ := H3.out.2.2.free7
  obtain ⟨z0, z1, z2, z3, z4, z5, z6⟩ := H3.out.2.2.cells7
  go_wp2_with fail
  refine bodyPost_ret (v := .tuple #[.agg #[.int .i64 0, .int .i64 0, .int .i64 0, .int .i64 0, .int .i64 0, .int .i64 0, .int .i64 0], .bool false]) (two_results rfl _ _ _ 24 _ (0, 0) _ rfl (row_set7 H3.out.2.2) Try.underlying24 rfl (by kernel_rfl) rfl) rfl ?_
  exact ⟨rfl, below_set7 HB.out (by omega)⟩
set_option maxHeartbeats 1000000 in
theorem then_C (a b : Sm) (w : World) (h : a.R) (h2 : b.R) (hd : ¬ a.to = b.fr) : Calls Try.prog 19 #[a.v, b.v] w fun e w' => e = .returned (.tuple #[(a.th b).v, .bool (a.thB b)]) ∧ Below w.heap.size w w' := by
  obtain ⟨q1, q2⟩ := Sm.th_no (a := a) (b := b) (fun g => hd g.2.2.1)
  rw [q1, q2]; clear q1 q2
  have h3 := Tri2.made w 24 a b
  have hbw := below_alloc3 w (.cells #[.int .i64 a.fr, .int .i64 a.to, .int .i64 a.kp, .int .i64 a.ad, .int .i64 a.t0, .int .i64 a.t1, .int .i64 a.t2] 24) (.cells #[.int .i64 b.fr, .int .i64 b.to, .int .i64 b.kp, .int .i64 b.ad, .int .i64 b.t0, .int .i64 b.t1, .int .i64 b.t2] 24) (.cells #[.int .i64 0, .int .i64 0, .int .i64 0, .int .i64 0, .int .i64 0, .int .i64 0, .int .i64 0] 24)
  have H3 := Lib.hid h3; have HB := Lib.hid hbw; clear h3 hbw
  have r1 := fun w => rightM_true h w
  have r2 := fun w => rightM_true h2 w
  have hn : (a.to != b.fr) = true := by simpa using hd
  have R1 := Lib.hid r1; have R2 := Lib.hid r2; clear r1 r2
  clear h h2 hd
  unfold Sm.v at *
  go_enter Try.func19, Try.ntmps19
  go_wp2_with fail
  refine (R1.out _).mono ?_; rintro e w2 ⟨rfl, hb2⟩
  have k3 := H3.out.below hb2
  have kb := HB.out.trans (hb2.mono HB.out.size); clear H3 HB
  have H3 := Lib.hid k3; have HB := Lib.hid kb; clear k3 kb hb2
  obtain ⟨a0, a1, a2, a3, a4, a5, a6⟩ := H3.out.1.cells7
  obtain ⟨b0, b1, b2, b3, b4, b5, b6⟩ := H3.out.2.1.cells7
  go_wp2_with fail
  clear a0 a1 a2 a3 a4 a5 a6 b0 b1 b2 b3 b4 b5 b6
  refine (R2.out _).mono ?_; rintro e w3 ⟨rfl, hb3⟩
  have k3 := H3.out.below hb3
  have kb := HB.out.trans (hb3.mono HB.out.size); clear H3 HB
  have H3 := Lib.hid k3; have HB := Lib.hid kb; clear k3 kb hb3
  obtain ⟨a0, a1, a2, a3, a4, a5, a6⟩ := H3.out.1.cells7
  obtain ⟨b0, b1, b2, b3, b4, b5, b6⟩ := H3.out.2.1.cells7
  obtain ⟨f0, f1, f2, f3, f4, f5, f6⟩ := H3.out.2.2.free7
  obtain ⟨z0, z1, z2, z3, z4, z5, z6⟩ := H3.out.2.2.cells7
  go_wp2_with fail
  refine bodyPost_ret (v := .tuple #[.agg #[.int .i64 0, .int .i64 0, .int .i64 0, .int .i64 0, .int .i64 0, .int .i64 0, .int .i64 0], .bool false]) (two_results rfl _ _ _ 24 _ (0, 0) _ rfl (row_set7 H3.out.2.2) Try.underlying24 rfl (by kernel_rfl) rfl) rfl ?_
  exact ⟨rfl, below_set7 HB.out (by omega)⟩
set_option maxHeartbeats 1000000 in
theorem refThen_A (a b : Sm) (w : World) (h : ¬ a.R) : Calls Try.prog 20 #[a.v, b.v] w fun e w' => e = .returned (.tuple #[(a.th b).v, .bool (a.thB b)]) ∧ Below w.heap.size w w' := by
  obtain ⟨q1, q2⟩ := Sm.th_no (a := a) (b := b) (fun g => h g.1)
  rw [q1, q2]; clear q1 q2
  have h3 := Tri2.made w 30 a b
  have hbw := below_alloc3 w (.cells #[.int .i64 a.fr, .int .i64 a.to, .int .i64 a.kp, .int .i64 a.ad, .int .i64 a.t0, .int .i64 a.t1, .int .i64 a.t2] 30) (.cells #[.int .i64 b.fr, .int .i64 b.to, .int .i64 b.kp, .int .i64 b.ad, .int .i64 b.t0, .int .i64 b.t1, .int .i64 b.t2] 30) (.cells #[.int .i64 0, .int .i64 0, .int .i64 0, .int .i64 0, .int .i64 0, .int .i64 0, .int .i64 0] 30)
  have H3 := Lib.hid h3; have HB := Lib.hid hbw; clear h3 hbw
  have r1 := fun w => refRightM_false h w
  have R1 := Lib.hid r1; clear r1
  clear h
  unfold Sm.v at *
  go_enter Try.func20, Try.ntmps20
  go_wp2_with fail
  refine (R1.out _).mono ?_; rintro e w2 ⟨rfl, hb2⟩
  have k3 := H3.out.below hb2
  have kb := HB.out.trans (hb2.mono HB.out.size); clear H3 HB
  have H3 := Lib.hid k3; have HB := Lib.hid kb; clear k3 kb hb2
  obtain ⟨f0, f1, f2, f3, f4, f5, f6⟩ := H3.out.2.2.free7
  obtain ⟨z0, z1, z2, z3, z4, z5, z6⟩ := H3.out.2.2.cells7
  go_wp2_with fail
  refine bodyPost_ret (v := .tuple #[.agg #[.int .i64 0, .int .i64 0, .int .i64 0, .int .i64 0, .int .i64 0, .int .i64 0, .int .i64 0], .bool false]) (two_results rfl _ _ _ 30 _ (0, 0) _ rfl (row_set7 H3.out.2.2) Try.underlying30 rfl (by kernel_rfl) rfl) rfl ?_
  exact ⟨rfl, below_set7 HB.out (by omega)⟩
set_option maxHeartbeats 1000000 in
theorem refThen_B (a b : Sm) (w : World) (h : a.R) (h2 : ¬ b.R) : Calls Try.prog 20 #[a.v, b.v] w fun e w' => e = .returned (.tuple #[(a.th b).v, .bool (a.thB b)]) ∧ Below w.heap.size w w' := by
  obtain ⟨q1, q2⟩ := Sm.th_no (a := a) (b := b) (fun g => h2 g.2.1)
  rw [q1, q2]; clear q1 q2
  have h3 := Tri2.made w 30 a b
  have hbw := below_alloc3 w (.cells #[.int .i64 a.fr, .int .i64 a.to, .int .i64 a.kp, .int .i64 a.ad, .int .i64 a.t0, .int .i64 a.t1, .int .i64 a.t2] 30) (.cells #[.int .i64 b.fr, .int .i64 b.to, .int .i64 b.kp, .int .i64 b.ad, .int .i64 b.t0, .int .i64 b.t1, .int .i64 b.t2] 30) (.cells #[.int .i64 0, .int .i64 0, .int .i64 0, .int .i64 0, .int .i64 0, .int .i64 0, .int .i64 0] 30)
  have H3 := Lib.hid h3; have HB := Lib.hid hbw; clear h3 hbw
  have r1 := fun w => refRightM_true h w
  have r2 := fun w => refRightM_false h2 w
  have R1 := Lib.hid r1; have R2 := Lib.hid r2; clear r1 r2
  clear h h2
  unfold Sm.v at *
  go_enter Try.func20, Try.ntmps20
  go_wp2_with fail
  refine (R1.out _).mono ?_; rintro e w2 ⟨rfl, hb2⟩
  have k3 := H3.out.below hb2
  have kb := HB.out.trans (hb2.mono HB.out.size); clear H3 HB
  have H3 := Lib.hid k3; have HB := Lib.hid kb; clear k3 kb hb2
  obtain ⟨a0, a1, a2, a3, a4, a5, a6⟩ := H3.out.1.cells7
  obtain ⟨b0, b1, b2, b3, b4, b5, b6⟩ := H3.out.2.1.cells7
  go_wp2_with fail
  clear a0 a1 a2 a3 a4 a5 a6 b0 b1 b2 b3 b4 b5 b6
  refine (R2.out _).mono ?_; rintro e w3 ⟨rfl, hb3⟩
  have k3 := H3.out.below hb3
  have kb := HB.out.trans (hb3.mono HB.out.size); clear H3 HB
  have H3 := Lib.hid k3; have HB := Lib.hid kb; clear k3 kb hb3
  obtain ⟨f0, f1, f2, f3, f4, f5, f6⟩ := H3.out.2.2.free7
  obtain ⟨z0, z1, z2, z3, z4, z5, z6⟩ := H3.out.2.2.cells7
  go_wp2_with fail
  refine bodyPost_ret (v := .tuple #[.agg #[.int .i64 0, .int .i64 0, .int .i64 0, .int .i64 0, .int .i64 0, .int .i64 0, .int .i64 0], .bool false]) (two_results rfl _ _ _ 30 _ (0, 0) _ rfl (row_set7 H3.out.2.2) Try.underlying30 rfl (by kernel_rfl) rfl) rfl ?_
  exact ⟨rfl, below_set7 HB.out (by omega)⟩
set_option maxHeartbeats 1000000 in
theorem refThen_C (a b : Sm) (w : World) (h : a.R) (h2 : b.R) (hd : ¬ a.to = b.fr) : Calls Try.prog 20 #[a.v, b.v] w fun e w' => e = .returned (.tuple #[(a.th b).v, .bool (a.thB b)]) ∧ Below w.heap.size w w' := by
  obtain ⟨q1, q2⟩ := Sm.th_no (a := a) (b := b) (fun g => hd g.2.2.1)
  rw [q1, q2]; clear q1 q2
  have h3 := Tri2.made w 30 a b
  have hbw := below_alloc3 w (.cells #[.int .i64 a.fr, .int .i64 a.to, .int .i64 a.kp, .int .i64 a.ad, .int .i64 a.t0, .int .i64 a.t1, .int .i64 a.t2] 30) (.cells #[.int .i64 b.fr, .int .i64 b.to, .int .i64 b.kp, .int .i64 b.ad, .int .i64 b.t0, .int .i64 b.t1, .int .i64 b.t2] 30) (.cells #[.int .i64 0, .int .i64 0, .int .i64 0, .int .i64 0, .int .i64 0, .int .i64 0, .int .i64 0] 30)
  have H3 := Lib.hid h3; have HB := Lib.hid hbw; clear h3 hbw
  have r1 := fun w => refRightM_true h w
  have r2 := fun w => refRightM_true h2 w
  have hn : (a.to != b.fr) = true := by simpa using hd
  have R1 := Lib.hid r1; have R2 := Lib.hid r2; clear r1 r2
  clear h h2 hd
  unfold Sm.v at *
  go_enter Try.func20, Try.ntmps20
  go_wp2_with fail
  refine (R1.out _).mono ?_; rintro e w2 ⟨rfl, hb2⟩
  have k3 := H3.out.below hb2
  have kb := HB.out.trans (hb2.mono HB.out.size); clear H3 HB
  have H3 := Lib.hid k3; have HB := Lib.hid kb; clear k3 kb hb2
  obtain ⟨a0, a1, a2, a3, a4, a5, a6⟩ := H3.out.1.cells7
  obtain ⟨b0, b1, b2, b3, b4, b5, b6⟩ := H3.out.2.1.cells7
  go_wp2_with fail
  clear a0 a1 a2 a3 a4 a5 a6 b0 b1 b2 b3 b4 b5 b6
  refine (R2.out _).mono ?_; rintro e w3 ⟨rfl, hb3⟩
  have k3 := H3.out.below hb3
  have kb := HB.out.trans (hb3.mono HB.out.size); clear H3 HB
  have H3 := Lib.hid k3; have HB := Lib.hid kb; clear k3 kb hb3
  obtain ⟨a0, a1, a2, a3, a4, a5, a6⟩ := H3.out.1.cells7
  obtain ⟨b0, b1, b2, b3, b4, b5, b6⟩ := H3.out.2.1.cells7
  obtain ⟨f0, f1, f2, f3, f4, f5, f6⟩ := H3.out.2.2.free7
  obtain ⟨z0, z1, z2, z3, z4, z5, z6⟩ := H3.out.2.2.cells7
  go_wp2_with fail
  refine bodyPost_ret (v := .tuple #[.agg #[.int .i64 0, .int .i64 0, .int .i64 0, .int .i64 0, .int .i64 0, .int .i64 0, .int .i64 0], .bool false]) (two_results rfl _ _ _ 30 _ (0, 0) _ rfl (row_set7 H3.out.2.2) Try.underlying30 rfl (by kernel_rfl) rfl) rfl ?_
  exact ⟨rfl, below_set7 HB.out (by omega)⟩
end Go.Proofs.Ytdpadkellpkppaa
