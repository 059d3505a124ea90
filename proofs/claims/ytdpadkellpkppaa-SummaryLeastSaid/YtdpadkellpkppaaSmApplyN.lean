/- Apply where nothing comes of it: the program's, and the document's. -/
import Derived.Test.YtdpadkellpkppaaSmApM
namespace Go.Proofs.Ytdpadkellpkppaa
open Go.ChangeShapes Go.WideShapes Go.ChangeAt Go.RowKit Go.BigFrame
set_option linter.unusedVariables false
set_option maxRecDepth 100000
set_option maxHeartbeats 1000000 in
theorem apply_A (s : Sm) (t : St) (w : World) (h : ¬ s.R) : Calls Try.prog 11 #[s.v, t.val] w fun e w' => e = .returned (.tuple #[(s.ap t).val, .bool (s.apB t)]) ∧ Below w.heap.size w w' := by
  have h3 := Trio.made w 24 s t
  have hbw := below_alloc3 w (.cells #[.int .i64 s.fr, .int .i64 s.to, .int .i64 s.kp, .int .i64 s.ad, .int .i64 s.t0, .int .i64 s.t1, .int .i64 s.t2] 24) (.cells #[.int .i64 t.d, .int .i64 t.e, .int .i64 t.x, .int .i64 t.y, .int .i64 t.z] 26) (.cells #[.int .i64 0, .int .i64 0, .int .i64 0, .int .i64 0, .int .i64 0] 26)
  obtain ⟨q1, q2⟩ := Sm.ap_no (s := s) (t := t) (fun g => h g.1)
  rw [q1, q2]; clear q1 q2
  have H3 := Lib.hid h3; have HB := Lib.hid hbw; clear h3 hbw
  have r1 := fun w => rightM_false h w
  have R1 := Lib.hid r1; clear r1 h
  unfold Sm.v St.val at *
  go_enter Try.func11, Try.ntmps11
  go_wp2_with fail
  refine (R1.out _).mono ?_; rintro e w2 ⟨rfl, hb2⟩
  have k3 := H3.out.below hb2
  have kb := HB.out.trans (hb2.mono HB.out.size); clear H3 HB
  have H3 := Lib.hid k3; have HB := Lib.hid kb; clear k3 kb hb2
  obtain ⟨f0, f1, f2, f3, f4⟩ := H3.out.2.2.f5
  obtain ⟨z0, z1, z2, z3, z4⟩ := H3.out.2.2.c5
  go_wp2_with fail
  refine bodyPost_ret (v := .tuple #[.agg #[.int .i64 0, .int .i64 0, .int .i64 0, .int .i64 0, .int .i64 0], .bool false]) (two_results rfl _ _ _ 26 _ (0, 0) _ rfl (row_set5' H3.out.2.2) Try.underlying26 rfl (by kernel_rfl) rfl) rfl ?_
  exact ⟨rfl, below_set5' HB.out (by omega)⟩
set_option maxHeartbeats 1000000 in
theorem apply_B (s : Sm) (t : St) (w : World) (h : s.R) (h2 : ¬ t.R) : Calls Try.prog 11 #[s.v, t.val] w fun e w' => e = .returned (.tuple #[(s.ap t).val, .bool (s.apB t)]) ∧ Below w.heap.size w w' := by
  have h3 := Trio.made w 24 s t
  have hbw := below_alloc3 w (.cells #[.int .i64 s.fr, .int .i64 s.to, .int .i64 s.kp, .int .i64 s.ad, .int .i64 s.t0, .int .i64 s.t1, .int .i64 s.t2] 24) (.cells #[.int .i64 t.d, .int .i64 t.e, .int .i64 t.x, .int .i64 t.y, .int .i64 t.z] 26) (.cells #[.int .i64 0, .int .i64 0, .int .i64 0, .int .i64 0, .int .i64 0] 26)
  obtain ⟨q1, q2⟩ := Sm.ap_no (s := s) (t := t) (fun g => h2 g.2.1)
  rw [q1, q2]; clear q1 q2
  have H3 := Lib.hid h3; have HB := Lib.hid hbw; clear h3 hbw
  have r1 := fun w => rightM_true h w
  have r2 := fun w => right_false h2 w
  have R1 := Lib.hid r1; have R2 := Lib.hid r2; clear r1 r2 h h2
  unfold Sm.v St.val at *
  go_enter Try.func11, Try.ntmps11
  go_wp2_with fail
  refine (R1.out _).mono ?_; rintro e w2 ⟨rfl, hb2⟩
  have k3 := H3.out.below hb2
  have kb := HB.out.trans (hb2.mono HB.out.size); clear H3 HB
  have H3 := Lib.hid k3; have HB := Lib.hid kb; clear k3 kb hb2
  obtain ⟨a0, a1, a2, a3, a4⟩ := H3.out.2.1.c5
  obtain ⟨b0, b1, b2, b3, b4, b5, b6⟩ := H3.out.1.cells7
  go_wp2_with fail
  clear a0 a1 a2 a3 a4 b0 b1 b2 b3 b4 b5 b6
  refine (R2.out _).mono ?_; rintro e w3 ⟨rfl, hb3⟩
  have k3 := H3.out.below hb3
  have kb := HB.out.trans (hb3.mono HB.out.size); clear H3 HB
  have H3 := Lib.hid k3; have HB := Lib.hid kb; clear k3 kb hb3
  obtain ⟨f0, f1, f2, f3, f4⟩ := H3.out.2.2.f5
  obtain ⟨z0, z1, z2, z3, z4⟩ := H3.out.2.2.c5
  go_wp2_with fail
  refine bodyPost_ret (v := .tuple #[.agg #[.int .i64 0, .int .i64 0, .int .i64 0, .int .i64 0, .int .i64 0], .bool false]) (two_results rfl _ _ _ 26 _ (0, 0) _ rfl (row_set5' H3.out.2.2) Try.underlying26 rfl (by kernel_rfl) rfl) rfl ?_
  exact ⟨rfl, below_set5' HB.out (by omega)⟩
set_option maxHeartbeats 1000000 in
theorem apply_C (s : Sm) (t : St) (w : World) (h : s.R) (h2 : t.R) (hd : ¬ t.d = s.fr) : Calls Try.prog 11 #[s.v, t.val] w fun e w' => e = .returned (.tuple #[(s.ap t).val, .bool (s.apB t)]) ∧ Below w.heap.size w w' := by
  have h3 := Trio.made w 24 s t
  have hbw := below_alloc3 w (.cells #[.int .i64 s.fr, .int .i64 s.to, .int .i64 s.kp, .int .i64 s.ad, .int .i64 s.t0, .int .i64 s.t1, .int .i64 s.t2] 24) (.cells #[.int .i64 t.d, .int .i64 t.e, .int .i64 t.x, .int .i64 t.y, .int .i64 t.z] 26) (.cells #[.int .i64 0, .int .i64 0, .int .i64 0, .int .i64 0, .int .i64 0] 26)
  obtain ⟨q1, q2⟩ := Sm.ap_no (s := s) (t := t) (fun g => hd g.2.2.1)
  rw [q1, q2]; clear q1 q2
  have H3 := Lib.hid h3; have HB := Lib.hid hbw; clear h3 hbw
  have r1 := fun w => rightM_true h w
  have r2 := fun w => right_true h2 w
  have hn : (t.d != s.fr) = true := by simpa using hd
  have R1 := Lib.hid r1; have R2 := Lib.hid r2; clear r1 r2 h h2 hd
  unfold Sm.v St.val at *
  go_enter Try.func11, Try.ntmps11
  go_wp2_with fail
  refine (R1.out _).mono ?_; rintro e w2 ⟨rfl, hb2⟩
  have k3 := H3.out.below hb2
  have kb := HB.out.trans (hb2.mono HB.out.size); clear H3 HB
  have H3 := Lib.hid k3; have HB := Lib.hid kb; clear k3 kb hb2
  obtain ⟨a0, a1, a2, a3, a4⟩ := H3.out.2.1.c5
  obtain ⟨b0, b1, b2, b3, b4, b5, b6⟩ := H3.out.1.cells7
  go_wp2_with fail
  clear a0 a1 a2 a3 a4 b0 b1 b2 b3 b4 b5 b6
  refine (R2.out _).mono ?_; rintro e w3 ⟨rfl, hb3⟩
  have k3 := H3.out.below hb3
  have kb := HB.out.trans (hb3.mono HB.out.size); clear H3 HB
  have H3 := Lib.hid k3; have HB := Lib.hid kb; clear k3 kb hb3
  obtain ⟨a0, a1, a2, a3, a4⟩ := H3.out.2.1.c5
  obtain ⟨b0, b1, b2, b3, b4, b5, b6⟩ := H3.out.1.cells7
  obtain ⟨f0, f1, f2, f3, f4⟩ := H3.out.2.2.f5
  obtain ⟨z0, z1, z2, z3, z4⟩ := H3.out.2.2.c5
  go_wp2_with fail
  refine bodyPost_ret (v := .tuple #[.agg #[.int .i64 0, .int .i64 0, .int .i64 0, .int .i64 0, .int .i64 0], .bool false]) (two_results rfl _ _ _ 26 _ (0, 0) _ rfl (row_set5' H3.out.2.2) Try.underlying26 rfl (by kernel_rfl) rfl) rfl ?_
  exact ⟨rfl, below_set5' HB.out (by omega)⟩
set_option maxHeartbeats 1000000 in
theorem refApply_A (s : Sm) (t : St) (w : World) (h : ¬ s.R) : Calls Try.prog 12 #[s.v, t.val] w fun e w' => e = .returned (.tuple #[(s.ap t).val, .bool (s.apB t)]) ∧ Below w.heap.size w w' := by
  have h3 := Trio.made w 30 s t
  have hbw := below_alloc3 w (.cells #[.int .i64 s.fr, .int .i64 s.to, .int .i64 s.kp, .int .i64 s.ad, .int .i64 s.t0, .int .i64 s.t1, .int .i64 s.t2] 30) (.cells #[.int .i64 t.d, .int .i64 t.e, .int .i64 t.x, .int .i64 t.y, .int .i64 t.z] 26) (.cells #[.int .i64 0, .int .i64 0, .int .i64 0, .int .i64 0, .int .i64 0] 26)
  obtain ⟨q1, q2⟩ := Sm.ap_no (s := s) (t := t) (fun g => h g.1)
  rw [q1, q2]; clear q1 q2
  have H3 := Lib.hid h3; have HB := Lib.hid hbw; clear h3 hbw
  have r1 := fun w => refRightM_false h w
  have R1 := Lib.hid r1; clear r1 h
  unfold Sm.v St.val at *
  go_enter Try.func12, Try.ntmps12
  go_wp2_with fail
  refine (R1.out _).mono ?_; rintro e w2 ⟨rfl, hb2⟩
  have k3 := H3.out.below hb2
  have kb := HB.out.trans (hb2.mono HB.out.size); clear H3 HB
  have H3 := Lib.hid k3; have HB := Lib.hid kb; clear k3 kb hb2
  obtain ⟨f0, f1, f2, f3, f4⟩ := H3.out.2.2.f5
  obtain ⟨z0, z1, z2, z3, z4⟩ := H3.out.2.2.c5
  go_wp2_with fail
  refine bodyPost_ret (v := .tuple #[.agg #[.int .i64 0, .int .i64 0, .int .i64 0, .int .i64 0, .int .i64 0], .bool false]) (two_results rfl _ _ _ 26 _ (0, 0) _ rfl (row_set5' H3.out.2.2) Try.underlying26 rfl (by kernel_rfl) rfl) rfl ?_
  exact ⟨rfl, below_set5' HB.out (by omega)⟩
set_option maxHeartbeats 1000000 in
theorem refApply_B (s : Sm) (t : St) (w : World) (h : s.R) (h2 : ¬ t.R) : Calls Try.prog 12 #[s.v, t.val] w fun e w' => e = .returned (.tuple #[(s.ap t).val, .bool (s.apB t)]) ∧ Below w.heap.size w w' := by
  have h3 := Trio.made w 30 s t
  have hbw := below_alloc3 w (.cells #[.int .i64 s.fr, .int .i64 s.to, .int .i64 s.kp, .int .i64 s.ad, .int .i64 s.t0, .int .i64 s.t1, .int .i64 s.t2] 30) (.cells #[.int .i64 t.d, .int .i64 t.e, .int .i64 t.x, .int .i64 t.y, .int .i64 t.z] 26) (.cells #[.int .i64 0, .int .i64 0, .int .i64 0, .int .i64 0, .int .i64 0] 26)
  obtain ⟨q1, q2⟩ := Sm.ap_no (s := s) (t := t) (fun g => h2 g.2.1)
  rw [q1, q2]; clear q1 q2
  have H3 := Lib.hid h3; have HB := Lib.hid hbw; clear h3 hbw
  have r1 := fun w => refRightM_true h w
  have r2 := fun w => refRight_false h2 w
  have R1 := Lib.hid r1; have R2 := Lib.hid r2; clear r1 r2 h h2
  unfold Sm.v St.val at *
  go_enter Try.func12, Try.ntmps12
  go_wp2_with fail
  refine (R1.out _).mono ?_; rintro e w2 ⟨rfl, hb2⟩
  have k3 := H3.out.below hb2
  have kb := HB.out.trans (hb2.mono HB.out.size); clear H3 HB
  have H3 := Lib.hid k3; have HB := Lib.hid kb; clear k3 kb hb2
  obtain ⟨a0, a1, a2, a3, a4⟩ := H3.out.2.1.c5
  obtain ⟨b0, b1, b2, b3, b4, b5, b6⟩ := H3.out.1.cells7
  go_wp2_with fail
  clear a0 a1 a2 a3 a4 b0 b1 b2 b3 b4 b5 b6
  refine (R2.out _).mono ?_; rintro e w3 ⟨rfl, hb3⟩
  have k3 := H3.out.below hb3
  have kb := HB.out.trans (hb3.mono HB.out.size); clear H3 HB
  have H3 := Lib.hid k3; have HB := Lib.hid kb; clear k3 kb hb3
  obtain ⟨f0, f1, f2, f3, f4⟩ := H3.out.2.2.f5
  obtain ⟨z0, z1, z2, z3, z4⟩ := H3.out.2.2.c5
  go_wp2_with fail
  refine bodyPost_ret (v := .tuple #[.agg #[.int .i64 0, .int .i64 0, .int .i64 0, .int .i64 0, .int .i64 0], .bool false]) (two_results rfl _ _ _ 26 _ (0, 0) _ rfl (row_set5' H3.out.2.2) Try.underlying26 rfl (by kernel_rfl) rfl) rfl ?_
  exact ⟨rfl, below_set5' HB.out (by omega)⟩
set_option maxHeartbeats 1000000 in
theorem refApply_C (s : Sm) (t : St) (w : World) (h : s.R) (h2 : t.R) (hd : ¬ t.d = s.fr) : Calls Try.prog 12 #[s.v, t.val] w fun e w' => e = .returned (.tuple #[(s.ap t).val, .bool (s.apB t)]) ∧ Below w.heap.size w w' := by
  have h3 := Trio.made w 30 s t
  have hbw := below_alloc3 w (.cells #[.int .i64 s.fr, .int .i64 s.to, .int .i64 s.kp, .int .i64 s.ad, .int .i64 s.t0, .int .i64 s.t1, .int .i64 s.t2] 30) (.cells #[.int .i64 t.d, .int .i64 t.e, .int .i64 t.x, .int .i64 t.y, .int .i64 t.z] 26) (.cells #[.int .i64 0, .int .i64 0, .int .i64 0, .int .i64 0, .int .i64 0] 26)
  obtain ⟨q1, q2⟩ := Sm.ap_no (s := s) (t := t) (fun g => hd g.2.2.1)
  rw [q1, q2]; clear q1 q2
  have H3 := Lib.hid h3; have HB := Lib.hid hbw; clear h3 hbw
  have r1 := fun w => refRightM_true h w
  have r2 := fun w => refRight_true h2 w
  have hn : (t.d != s.fr) = true := by simpa using hd
  have R1 := Lib.hid r1; have R2 := Lib.hid r2; clear r1 r2 h h2 hd
  unfold Sm.v St.val at *
  go_enter Try.func12, Try.ntmps12
  go_wp2_with fail
  refine (R1.out _).mono ?_; rintro e w2 ⟨rfl, hb2⟩
  have k3 := H3.out.below hb2
  have kb := HB.out.trans (hb2.mono HB.out.size); clear H3 HB
  have H3 := Lib.hid k3; have HB := Lib.hid kb; clear k3 kb hb2
  obtain ⟨a0, a1, a2, a3, a4⟩ := H3.out.2.1.c5
  obtain ⟨b0, b1, b2, b3, b4, b5, b6⟩ := H3.out.1.cells7
  go_wp2_with fail
  clear a0 a1 a2 a3 a4 b0 b1 b2 b3 b4 b5 b6
  refine (R2.out _).mono ?_; rintro e w3 ⟨rfl, hb3⟩
  have k3 := H3.out.below hb3
  have kb := HB.out.trans (hb3.mono HB.out.size); clear H3 HB
  have H3 := Lib.hid k3; have HB := Lib.hid kb; clear k3 kb hb3
  obtain ⟨a0, a1, a2, a3, a4⟩ := H3.out.2.1.c5
  obtain ⟨b0, b1, b2, b3, b4, b5, b6⟩ := H3.out.1.cells7
  obtain ⟨f0, f1, f2, f3, f4⟩ := H3.out.2.2.f5
  obtain ⟨z0, z1, z2, z3, z4⟩ := H3.out.2.2.c5
  go_wp2_with fail
  refine bodyPost_ret (v := .tuple #[.agg #[.int .i64 0, .int .i64 0, .int .i64 0, .int .i64 0, .int .i64 0], .bool false]) (two_results rfl _ _ _ 26 _ (0, 0) _ rfl (row_set5' H3.out.2.2) Try.underlying26 rfl (by kernel_rfl) rfl) rfl ?_
  exact ⟨rfl, below_set5' HB.out (by omega)⟩
end Go.Proofs.Ytdpadkellpkppaa
