/- SmApplyN, SmApplyR, FrTs -/
import Derived.Test.YtcdofkhkckodjaaGreatDoorCa4
import Derived.Test.YtcdofkhkckodjaaGreatDoorCa27
import Derived.Test.YtcdofkhkckodjaaGreatDoorCa11
import Derived.Shelf.Abstract
namespace Go.Proofs.YtcdofkhkckodjaaGreatDoor
set_option linter.unusedVariables false
section
open Go.ChangeShapes Go.WideShapes Go.ChangeAt Go.RowKit Go.BigFrame
set_option maxRecDepth 100000
set_option maxHeartbeats 1000000 in
theorem apply_A (s : Sm) (t : St) (w : World) (h : ¬ s.R) : Calls Tryz.prog 46 #[s.v, t.val] w fun e w' => e = .returned (.tuple #[(s.ap t).val, .bool (s.apB t)]) ∧ Below w.heap.size w w' := by
  have h3 := Trio.made w 44 s t
  have hbw := below_alloc3 w (.cells #[.int .i64 s.fr, .int .i64 s.to, .int .i64 s.kp, .int .i64 s.ad, .int .i64 s.t0, .int .i64 s.t1, .int .i64 s.t2] 44) (.cells #[.int .i64 t.d, .int .i64 t.e, .int .i64 t.x, .int .i64 t.y, .int .i64 t.z] 49) (.cells #[.int .i64 0, .int .i64 0, .int .i64 0, .int .i64 0, .int .i64 0] 49)
  obtain ⟨q1, q2⟩ := Sm.ap_no (s := s) (t := t) (fun g => h g.1)
  rw [q1, q2]; clear q1 q2
  have H3 := Lib.hid h3; have HB := Lib.hid hbw; clear h3 hbw
  have r1 := fun w => rightM_false h w
  have R1 := Lib.hid r1; clear r1 h
  unfold Sm.v St.val at *
  go_enter Tryz.func46, Tryz.ntmps46
  go_wp2_with fail
  refine (R1.out _).mono ?_; rintro e w2 ⟨rfl, hb2⟩
  have k3 := H3.out.below hb2
  have kb := HB.out.trans (hb2.mono HB.out.size); clear H3 HB
  have H3 := Lib.hid k3; have HB := Lib.hid kb; clear k3 kb hb2
  obtain ⟨f0, f1, f2, f3, f4⟩ := H3.out.2.2.f5
  obtain ⟨z0, z1, z2, z3, z4⟩ := H3.out.2.2.c5
  go_wp2_with fail
  refine bodyPost_ret (v := .tuple #[.agg #[.int .i64 0, .int .i64 0, .int .i64 0, .int .i64 0, .int .i64 0], .bool false]) (two_results rfl _ _ _ 49 _ (0, 0) _ rfl (row_set5' H3.out.2.2) Tryz.underlying49 rfl (by kernel_rfl) rfl) rfl ?_
  exact ⟨rfl, below_set5' HB.out (by omega)⟩
set_option maxHeartbeats 1000000 in
theorem apply_B (s : Sm) (t : St) (w : World) (h : s.R) (h2 : ¬ t.R) : Calls Tryz.prog 46 #[s.v, t.val] w fun e w' => e = .returned (.tuple #[(s.ap t).val, .bool (s.apB t)]) ∧ Below w.heap.size w w' := by
  have h3 := Trio.made w 44 s t
  have hbw := below_alloc3 w (.cells #[.int .i64 s.fr, .int .i64 s.to, .int .i64 s.kp, .int .i64 s.ad, .int .i64 s.t0, .int .i64 s.t1, .int .i64 s.t2] 44) (.cells #[.int .i64 t.d, .int .i64 t.e, .int .i64 t.x, .int .i64 t.y, .int .i64 t.z] 49) (.cells #[.int .i64 0, .int .i64 0, .int .i64 0, .int .i64 0, .int .i64 0] 49)
  obtain ⟨q1, q2⟩ := Sm.ap_no (s := s) (t := t) (fun g => h2 g.2.1)
  rw [q1, q2]; clear q1 q2
  have H3 := Lib.hid h3; have HB := Lib.hid hbw; clear h3 hbw
  have r1 := fun w => rightM_true h w
  have r2 := fun w => right_false h2 w
  have R1 := Lib.hid r1; have R2 := Lib.hid r2; clear r1 r2 h h2
  unfold Sm.v St.val at *
  go_enter Tryz.func46, Tryz.ntmps46
  go_wp2_with fail
  refine (R1.out _).mono ?_; rintro e w2 ⟨rfl, hb2⟩
  have k3 := H3.out.below hb2
  have kb := HB.out.trans (hb2.mono HB.out.size); clear H3 HB
  have H3 := Lib.hid k3; have HB := Lib.hid kb; clear k3 kb hb2
  obtain ⟨a0, a1, a2, a3, a4⟩ := H3.out.2.1.c5
  obtain ⟨b0, b1, b2, b3, b4, b5, b6⟩ := H3.out.1.cells7
  go_wp2_with fail
  clear a0 a1 a2 a3 a4 b0 b1 b2 b3 b4 b5 b6
  refine (R2.out _).mono ?_; rintro e w3 ⟨rfl, hb3⟩
  have k3 := H3.out.below hb3
  have kb := HB.out.trans (hb3.mono HB.out.size); clear H3 HB
  have H3 := Lib.hid k3; have HB := Lib.hid kb; clear k3 kb hb3
  obtain ⟨f0, f1, f2, f3, f4⟩ := H3.out.2.2.f5
  obtain ⟨z0, z1, z2, z3, z4⟩ := H3.out.2.2.c5
  go_wp2_with fail
  refine bodyPost_ret (v := .tuple #[.agg #[.int .i64 0, .int .i64 0, .int .i64 0, .int .i64 0, .int .i64 0], .bool false]) (two_results rfl _ _ _ 49 _ (0, 0) _ rfl (row_set5' H3.out.2.2) Tryz.underlying49 rfl (by kernel_rfl) rfl) rfl ?_
  exact ⟨rfl, below_set5' HB.out (by omega)⟩
set_option maxHeartbeats 1000000 in
theorem apply_C (s : Sm) (t : St) (w : World) (h : s.R) (h2 : t.R) (hd : ¬ t.d = s.fr) : Calls Tryz.prog 46 #[s.v, t.val] w fun e w' => e = .returned (.tuple #[(s.ap t).val, .bool (s.apB t)]) ∧ Below w.heap.size w w' := by
  have h3 := Trio.made w 44 s t
  have hbw := below_alloc3 w (.cells #[.int .i64 s.fr, .int .i64 s.to, .int .i64 s.kp, .int .i64 s.ad, .int .i64 s.t0, .int .i64 s.t1, .int .i64 s.t2] 44) (.cells #[.int .i64 t.d, .int .i64 t.e, .int .i64 t.x, .int .i64 t.y, .int .i64 t.z] 49) (.cells #[.int .i64 0, .int .i64 0, .int .i64 0, .int .i64 0, .int .i64 0] 49)
  obtain ⟨q1, q2⟩ := Sm.ap_no (s := s) (t := t) (fun g => hd g.2.2.1)
  rw [q1, q2]; clear q1 q2
  have H3 := Lib.hid h3; have HB := Lib.hid hbw; clear h3 hbw
  have r1 := fun w => rightM_true h w
  have r2 := fun w => right_true h2 w
  have hn : (t.d != s.fr) = true := by simpa using hd
  have R1 := Lib.hid r1; have R2 := Lib.hid r2; clear r1 r2 h h2 hd
  unfold Sm.v St.val at *
  go_enter Tryz.func46, Tryz.ntmps46
  go_wp2_with fail
  refine (R1.out _).mono ?_; rintro e w2 ⟨rfl, hb2⟩
  have k3 := H3.out.below hb2
  have kb := HB.out.trans (hb2.mono HB.out.size); clear H3 HB
  have H3 := Lib.hid k3; have HB := Lib.hid kb; clear k3 kb hb2
  obtain ⟨a0, a1, a2, a3, a4⟩ := H3.out.2.1.c5
  obtain ⟨b0, b1, b2, b3, b4, b5, b6⟩ := H3.out.1.cells7
  go_wp2_with fail
  clear a0 a1 a2 a3 a4 b0 b1 b2 b3 b4 b5 b6
  refine (R2.out _).mono ?_; rintro e w3 ⟨rfl, hb3⟩
  have k3 := H3.out.below hb3
  have kb := HB.out.trans (hb3.mono HB.out.size); clear H3 HB
  have H3 := Lib.hid k3; have HB := Lib.hid kb; clear k3 kb hb3
  obtain ⟨a0, a1, a2, a3, a4⟩ := H3.out.2.1.c5
  obtain ⟨b0, b1, b2, b3, b4, b5, b6⟩ := H3.out.1.cells7
  obtain ⟨f0, f1, f2, f3, f4⟩ := H3.out.2.2.f5
  obtain ⟨z0, z1, z2, z3, z4⟩ := H3.out.2.2.c5
  go_wp2_with fail
  refine bodyPost_ret (v := .tuple #[.agg #[.int .i64 0, .int .i64 0, .int .i64 0, .int .i64 0, .int .i64 0], .bool false]) (two_results rfl _ _ _ 49 _ (0, 0) _ rfl (row_set5' H3.out.2.2) Tryz.underlying49 rfl (by kernel_rfl) rfl) rfl ?_
  exact ⟨rfl, below_set5' HB.out (by omega)⟩
set_option maxHeartbeats 1000000 in
theorem refApply_A (s : Sm) (t : St) (w : World) (h : ¬ s.R) : Calls Tryz.prog 48 #[s.v, t.val] w fun e w' => e = .returned (.tuple #[(s.ap t).val, .bool (s.apB t)]) ∧ Below w.heap.size w w' := by
  have h3 := Trio.made w 78 s t
  have hbw := below_alloc3 w (.cells #[.int .i64 s.fr, .int .i64 s.to, .int .i64 s.kp, .int .i64 s.ad, .int .i64 s.t0, .int .i64 s.t1, .int .i64 s.t2] 78) (.cells #[.int .i64 t.d, .int .i64 t.e, .int .i64 t.x, .int .i64 t.y, .int .i64 t.z] 49) (.cells #[.int .i64 0, .int .i64 0, .int .i64 0, .int .i64 0, .int .i64 0] 49)
  obtain ⟨q1, q2⟩ := Sm.ap_no (s := s) (t := t) (fun g => h g.1)
  rw [q1, q2]; clear q1 q2
  have H3 := Lib.hid h3; have HB := Lib.hid hbw; clear h3 hbw
  have r1 := fun w => refRightM_false h w
  have R1 := Lib.hid r1; clear r1 h
  unfold Sm.v St.val at *
  go_enter Tryz.func48, Tryz.ntmps48
  go_wp2_with fail
  refine (R1.out _).mono ?_; rintro e w2 ⟨rfl, hb2⟩
  have k3 := H3.out.below hb2
  have kb := HB.out.trans (hb2.mono HB.out.size); clear H3 HB
  have H3 := Lib.hid k3; have HB := Lib.hid kb; clear k3 kb hb2
  obtain ⟨f0, f1, f2, f3, f4⟩ := H3.out.2.2.f5
  obtain ⟨z0, z1, z2, z3, z4⟩ := H3.out.2.2.c5
  go_wp2_with fail
  refine bodyPost_ret (v := .tuple #[.agg #[.int .i64 0, .int .i64 0, .int .i64 0, .int .i64 0, .int .i64 0], .bool false]) (two_results rfl _ _ _ 49 _ (0, 0) _ rfl (row_set5' H3.out.2.2) Tryz.underlying49 rfl (by kernel_rfl) rfl) rfl ?_
  exact ⟨rfl, below_set5' HB.out (by omega)⟩
set_option maxHeartbeats 1000000 in
theorem refApply_B (s : Sm) (t : St) (w : World) (h : s.R) (h2 : ¬ t.R) : Calls Tryz.prog 48 #[s.v, t.val] w fun e w' => e = .returned (.tuple #[(s.ap t).val, .bool (s.apB t)]) ∧ Below w.heap.size w w' := by
  have h3 := Trio.made w 78 s t
  have hbw := below_alloc3 w (.cells #[.int .i64 s.fr, .int .i64 s.to, .int .i64 s.kp, .int .i64 s.ad, .int .i64 s.t0, .int .i64 s.t1, .int .i64 s.t2] 78) (.cells #[.int .i64 t.d, .int .i64 t.e, .int .i64 t.x, .int .i64 t.y, .int .i64 t.z] 49) (.cells #[.int .i64 0, .int .i64 0, .int .i64 0, .int .i64 0, .int .i64 0] 49)
  obtain ⟨q1, q2⟩ := Sm.ap_no (s := s) (t := t) (fun g => h2 g.2.1)
  rw [q1, q2]; clear q1 q2
  have H3 := Lib.hid h3; have HB := Lib.hid hbw; clear h3 hbw
  have r1 := fun w => refRightM_true h w
  have r2 := fun w => refRight_false h2 w
  have R1 := Lib.hid r1; have R2 := Lib.hid r2; clear r1 r2 h h2
  unfold Sm.v St.val at *
  go_enter Tryz.func48, Tryz.ntmps48
  go_wp2_with fail
  refine (R1.out _).mono ?_; rintro e w2 ⟨rfl, hb2⟩
  have k3 := H3.out.below hb2
  have kb := HB.out.trans (hb2.mono HB.out.size); clear H3 HB
  have H3 := Lib.hid k3; have HB := Lib.hid kb; clear k3 kb hb2
  obtain ⟨a0, a1, a2, a3, a4⟩ := H3.out.2.1.c5
  obtain ⟨b0, b1, b2, b3, b4, b5, b6⟩ := H3.out.1.cells7
  go_wp2_with fail
  clear a0 a1 a2 a3 a4 b0 b1 b2 b3 b4 b5 b6
  refine (R2.out _).mono ?_; rintro e w3 ⟨rfl, hb3⟩
  have k3 := H3.out.below hb3
  have kb := HB.out.trans (hb3.mono HB.out.size); clear H3 HB
  have H3 := Lib.hid k3; have HB := Lib.hid kb; clear k3 kb hb3
  obtain ⟨f0, f1, f2, f3, f4⟩ := H3.out.2.2.f5
  obtain ⟨z0, z1, z2, z3, z4⟩ := H3.out.2.2.c5
  go_wp2_with fail
  refine bodyPost_ret (v := .tuple #[.agg #[.int .i64 0, .int .i64 0, .int .i64 0, .int .i64 0, .int .i64 0], .bool false]) (two_results rfl _ _ _ 49 _ (0, 0) _ rfl (row_set5' H3.out.2.2) Tryz.underlying49 rfl (by kernel_rfl) rfl) rfl ?_
  exact ⟨rfl, below_set5' HB.out (by omega)⟩
set_option maxHeartbeats 1000000 in
theorem refApply_C (s : Sm) (t : St) (w : World) (h : s.R) (h2 : t.R) (hd : ¬ t.d = s.fr) : Calls Tryz.prog 48 #[s.v, t.val] w fun e w' => e = .returned (.tuple #[(s.ap t).val, .bool (s.apB t)]) ∧ Below w.heap.size w w' := by
  have h3 := Trio.made w 78 s t
  have hbw := below_alloc3 w (.cells #[.int .i64 s.fr, .int .i64 s.to, .int .i64 s.kp, .int .i64 s.ad, .int .i64 s.t0, .int .i64 s.t1, .int .i64 s.t2] 78) (.cells #[.int .i64 t.d, .int .i64 t.e, .int .i64 t.x, .int .i64 t.y, .int .i64 t.z] 49) (.cells #[.int .i64 0, .int .i64 0, .int .i64 0, .int .i64 0, .int .i64 0] 49)
  obtain ⟨q1, q2⟩ := Sm.ap_no (s := s) (t := t) (fun g => hd g.2.2.1)
  rw [q1, q2]; clear q1 q2
  have H3 := Lib.hid h3; have HB := Lib.hid hbw; clear h3 hbw
  have r1 := fun w => refRightM_true h w
  have r2 := fun w => refRight_true h2 w
  have hn : (t.d != s.fr) = true := by simpa using hd
  have R1 := Lib.hid r1; have R2 := Lib.hid r2; clear r1 r2 h h2 hd
  unfold Sm.v St.val at *
  go_enter Tryz.func48, Tryz.ntmps48
  go_wp2_with fail
  refine (R1.out _).mono ?_; rintro e w2 ⟨rfl, hb2⟩
  have k3 := H3.out.below hb2
  have kb := HB.out.trans (hb2.mono HB.out.size); clear H3 HB
  have H3 := Lib.hid k3; have HB := Lib.hid kb; clear k3 kb hb2
  obtain ⟨a0, a1, a2, a3, a4⟩ := H3.out.2.1.c5
  obtain ⟨b0, b1, b2, b3, b4, b5, b6⟩ := H3.out.1.cells7
  go_wp2_with fail
  clear a0 a1 a2 a3 a4 b0 b1 b2 b3 b4 b5 b6
  refine (R2.out _).mono ?_; rintro e w3 ⟨rfl, hb3⟩
  have k3 := H3.out.below hb3
  have kb := HB.out.trans (hb3.mono HB.out.size); clear H3 HB
  have H3 := Lib.hid k3; have HB := Lib.hid kb; clear k3 kb hb3
  obtain ⟨a0, a1, a2, a3, a4⟩ := H3.out.2.1.c5
  obtain ⟨b0, b1, b2, b3, b4, b5, b6⟩ := H3.out.1.cells7
  obtain ⟨f0, f1, f2, f3, f4⟩ := H3.out.2.2.f5
  obtain ⟨z0, z1, z2, z3, z4⟩ := H3.out.2.2.c5
  go_wp2_with fail
  refine bodyPost_ret (v := .tuple #[.agg #[.int .i64 0, .int .i64 0, .int .i64 0, .int .i64 0, .int .i64 0], .bool false]) (two_results rfl _ _ _ 49 _ (0, 0) _ rfl (row_set5' H3.out.2.2) Tryz.underlying49 rfl (by kernel_rfl) rfl) rfl ?_
  exact ⟨rfl, below_set5' HB.out (by omega)⟩
end

section
open Go.ChangeShapes Go.WideShapes Go.ChangeAt Go.RowKit Go.BigFrame
set_option maxRecDepth 100000
theorem pt_self (n j : Nat) (v : Int) (h : n ≤ j → v = 0) : pt n j v = v := by
  unfold pt; split
  · rfl
  · rw [h (by omega)]
set_option maxHeartbeats 8000000 in
theorem refApply_D (s : Sm) (t : St) (w : World) (h : s.R) (h2 : t.R) (hd : t.d = s.fr) : Calls Tryz.prog 48 #[s.v, t.val] w fun e w' => e = .returned (.tuple #[(s.ap t).val, .bool (s.apB t)]) ∧ Below w.heap.size w w' := by
  have hno := Sm.ap_no (s := s) (t := t)
  have hyes := Sm.ap_yes (s := s) (t := t)
  obtain ⟨n, hnn⟩ : ∃ n : Nat, s.to = n := ⟨s.to.toNat, by unfold Sm.R at h; omega⟩
  have hn3 : n ≤ 3 := by unfold Sm.R at h; omega
  have g0 := Sm.val_R h h2 0; have g1 := Sm.val_R h h2 1; have g2 := Sm.val_R h h2 2
  have y0 := Sm.val_out (s := s) (t := t) (i := 0); have y1 := Sm.val_out (s := s) (t := t) (i := 1); have y2 := Sm.val_out (s := s) (t := t) (i := 2)
  rw [hnn] at y0 y1 y2
  have v0 : 0 < n → s.val t 0 = s.N 0 + if (0 : Int) < s.kp then t.x else 0 := fun hl => by unfold Sm.val; rw [if_pos (by rw [hnn]; omega)]; rfl
  have v1 : 1 < n → s.val t 1 = s.N 1 + if (1 : Int) < s.kp then t.y else 0 := fun hl => by unfold Sm.val; rw [if_pos (by rw [hnn]; omega)]; rfl
  have v2 : 2 < n → s.val t 2 = s.N 2 + if (2 : Int) < s.kp then t.z else 0 := fun hl => by unfold Sm.val; rw [if_pos (by rw [hnn]; omega)]; rfl
  have n0 := Sm.N_R h 0; have n1 := Sm.N_R h 1; have n2 := Sm.N_R h 2
  have cA0 := fun (hl : 0 < n) w => refAt_any s 0 w h (by rw [hnn]; omega)
  have cA1 := fun (hl : 1 < n) w => refAt_any s 1 w h (by rw [hnn]; omega)
  have cA2 := fun (hl : 2 < n) w => refAt_any s 2 w h (by rw [hnn]; omega)
  simp only [Int.natCast_zero, Int.natCast_one] at cA0 cA1
  rw [show ((2 : Nat) : Int) = 2 from rfl] at cA2
  have bt : (0 ≤ t.x ∧ t.x < 16) ∧ (0 ≤ t.y ∧ t.y < 16) ∧ (0 ≤ t.z ∧ t.z < 16) := by unfold St.R at h2; omega
  have h3 := Trio.made w 78 s t
  have hbw := below_alloc3 w (.cells #[.int .i64 s.fr, .int .i64 s.to, .int .i64 s.kp, .int .i64 s.ad, .int .i64 s.t0, .int .i64 s.t1, .int .i64 s.t2] 78) (.cells #[.int .i64 t.d, .int .i64 t.e, .int .i64 t.x, .int .i64 t.y, .int .i64 t.z] 49) (.cells #[.int .i64 0, .int .i64 0, .int .i64 0, .int .i64 0, .int .i64 0] 49)
  have H3 := Lib.hid h3; have HB := Lib.hid hbw; clear h3 hbw
  have r1 := fun w => refRightM_true h w
  have r2 := fun w => refRight_true h2 w
  have hn : (t.d != s.fr) = false := by simpa using hd
  have R1 := Lib.hid r1; have R2 := Lib.hid r2; clear r1 r2
  generalize s.val t 0 = v0 at *
  generalize s.val t 1 = v1 at *
  generalize s.val t 2 = v2 at *
  generalize s.N 0 = n0 at *
  generalize s.N 1 = n1 at *
  generalize s.N 2 = n2 at *
  generalize s.ap t = ap at *
  generalize s.apB t = apB at *
  have HNO := Lib.hid hno; have HYES := Lib.hid hyes; clear hno hyes
  have HR := Lib.hid (And.intro h (And.intro h2 hd)); clear h h2 hd
  unfold Sm.v at cA0 cA1 cA2
  have CA0 := Lib.hid cA0; have CA1 := Lib.hid cA1; have CA2 := Lib.hid cA2; clear cA0 cA1 cA2
  have V0 := Lib.hid v0; have V1 := Lib.hid v1; have V2 := Lib.hid v2; clear v0 v1 v2
  have Y := Lib.hid (And.intro y0 (And.intro y1 y2)); clear y0 y1 y2
  have G := Lib.hid (And.intro g0 (And.intro g1 g2)); have BT := Lib.hid bt; have NB := Lib.hid (And.intro n0 (And.intro n1 n2)); clear g0 g1 g2 bt n0 n1 n2
  have HNN := Lib.hid (And.intro hnn hn3); clear hnn hn3
  unfold Sm.v St.val at *
  go_enter Tryz.func48, Tryz.ntmps48
  go_wp2_with fail
  refine (R1.out _).mono ?_; rintro e w2 ⟨rfl, hb2⟩
  have k3 := H3.out.below hb2
  have kb := HB.out.trans (hb2.mono HB.out.size); clear H3 HB
  have H3 := Lib.hid k3; have HB := Lib.hid kb; clear k3 kb hb2
  obtain ⟨a0, a1, a2, a3, a4⟩ := H3.out.2.1.c5
  obtain ⟨b0, b1, b2, b3, b4, b5, b6⟩ := H3.out.1.cells7
  go_wp2_with fail
  clear a0 a1 a2 a3 a4 b0 b1 b2 b3 b4 b5 b6 R1
  refine (R2.out _).mono ?_; rintro e w3 ⟨rfl, hb3⟩
  have k3 := H3.out.below hb3
  have kb := HB.out.trans (hb3.mono HB.out.size); clear H3 HB
  have H3 := Lib.hid k3; have HB := Lib.hid kb; clear k3 kb hb3
  obtain ⟨a0, a1, a2, a3, a4⟩ := H3.out.2.1.c5
  obtain ⟨b0, b1, b2, b3, b4, b5, b6⟩ := H3.out.1.cells7
  go_wp2_with fail
  clear a0 a1 a2 a3 a4 b0 b1 b2 b3 b4 b5 b6 R2
  have k6 := Holds.made w3 ⟨s.to, t.e, 0, 0, 0⟩
  have k3 := H3.out.below ((Below.refl w3.heap.size w3).alloc (Nat.le_refl _) (.cells #[.int .i64 s.to, .int .i64 t.e, .int .i64 0, .int .i64 0, .int .i64 0] 49))
  have kb := HB.out.alloc HB.out.size (.cells #[.int .i64 s.to, .int .i64 t.e, .int .i64 0, .int .i64 0, .int .i64 0] 49)
  have hg : w.heap.size + 1 + 1 < w3.heap.size := H3.out.2.2.lt
  clear H3 HB
  generalize w3.alloc (.cells #[.int .i64 s.to, .int .i64 t.e, .int .i64 0, .int .i64 0, .int .i64 0] 49) = w4 at *
  generalize w3.heap.size = g at *
  have H3 := Lib.hid k3; have HB := Lib.hid kb; have H6 := Lib.hid k6; have HG := Lib.hid hg; clear k3 kb k6 hg
  go_loopw [7] (fun i wr => ∃ (k : Nat), k ≤ n ∧ i = .int .i64 k ∧ Trio wr w.heap.size 78 s t ∧ Holds wr g ⟨s.to, t.e, pt k 0 v0, pt k 1 v1, pt k 2 v2⟩ ∧ Below w.heap.size w wr ∧ (0 < k → v0 < 16) ∧ (1 < k → v1 < 16) ∧ (2 < k → v2 < 16)) (fun i _ => n - (intOf i).toNat)
  case atStart => exact ⟨0, by omega, rfl, H3.out, H6.out, HB.out, by omega, by omega, by omega⟩
  case round =>
    obtain ⟨k, hk, rfl, h3, h6, hbw, hv⟩ := hrel
    clear H3 HB H6 hn
    obtain ⟨b0, b1, b2, b3, b4, b5, b6⟩ := h3.1.cells7
    have H3 := Lib.hid h3; have H6 := Lib.hid h6; have HB := Lib.hid hbw; have HV := Lib.hid hv; clear h3 h6 hbw hv
    by_cases hlt : k < n
    · have hlt' : (k : Int) < s.to := by have := HNN.out.1; omega
      have hcase : k = 0 ∨ k = 1 ∨ k = 2 := by have := HNN.out.2; omega
      rcases hcase with rfl | rfl | rfl
      · simp only [Int.natCast_zero, Int.natCast_one, Int.cast_ofNat_Int] at hlt'
        go_wp2_with fail
        refine (CA0.out hlt _).mono ?_; rintro e w5 ⟨rfl, hb5⟩
        dsimp only
        have h3 := H3.out.below hb5; have h6 := H6.out.below hb5; have hbw := HB.out.trans (hb5.mono HB.out.size); clear H3 H6 HB hb5 b0 b1 b2 b3 b4 b5 b6
        have H3 := Lib.hid h3; have H6 := Lib.hid h6; have HB := Lib.hid hbw; clear h3 h6 hbw
        obtain ⟨a0, a1, a2, a3, a4⟩ := H3.out.2.1.c5
        obtain ⟨z0, z1, z2, z3, z4⟩ := H3.out.2.2.c5
        obtain ⟨f0, f1, f2, f3, f4⟩ := H3.out.2.2.f5
        obtain ⟨c0, c1, c2, c3, c4⟩ := H6.out.c5
        obtain ⟨d0, d1, d2, d3, d4⟩ := H6.out.f5
        simp only at c0 c1 c2 c3 c4
        have hl5 := H6.out.lt
        have m1 : w.heap.size + 1 < w5.heap.size := H3.out.2.1.lt
        have m2 : w.heap.size + 1 + 1 < w5.heap.size := H3.out.2.2.lt
        have hv := V0.out hlt
        cases hq : decide ((0 : Int) < s.kp)
        · rw [if_neg (by simpa using hq), Int.add_zero] at hv
          obtain rfl := hv
          clear hq
          by_cases hbig : (16 : Int) ≤ v0
          · have hvb := HV.out
            obtain ⟨q1, q2⟩ := HNO.out (fun hh => by have := hh.2.2.2; omega)
            have Q := Lib.hid (And.intro q1 q2); clear q1 q2 hvb
            go_wp2_with fail
            refine bodyPost_ret (v := .tuple #[.agg #[.int .i64 0, .int .i64 0, .int .i64 0, .int .i64 0, .int .i64 0], .bool false]) (two_results rfl _ _ _ 49 _ (0, 0) _ rfl (Row.alloc (row_set5' H3.out.2.2) _) Tryz.underlying49 rfl (by kernel_rfl) rfl) rfl ?_
            exact ⟨by obtain ⟨q1, q2⟩ := Q.out; subst q1; subst q2; rfl, (below_set5' HB.out (by omega)).alloc (below_set5' HB.out (by omega)).size _⟩
          · go_wp2_with fail
            go_roundw
            case rel =>
              have hg := HG.out
              refine ⟨1, by omega, rfl, ⟨Row.alloc (Row.far H3.out.1 (by simp; omega) _) _, Row.alloc (Row.far H3.out.2.1 (by simp; omega) _) _, Row.alloc (Row.far H3.out.2.2 (by simp; omega) _) _⟩, ?_, (HB.out.setCell (by simp; omega) _).alloc (by simpa using HB.out.size) _, ?_⟩
              · exact Row.alloc (Row.put H6.out 2 _) _
              · have := HV.out; omega
            case measure => simp [intOf]; omega
        · rw [if_pos (by simpa using hq)] at hv
          have hw := IntWalk.i64_in (n0 + t.x) (by have := NB.out; have := BT.out; omega)
          replace hw := hw.trans hv.symm
          clear hv
          clear hq
          by_cases hbig : (16 : Int) ≤ v0
          · have hvb := HV.out
            obtain ⟨q1, q2⟩ := HNO.out (fun hh => by have := hh.2.2.2; omega)
            have Q := Lib.hid (And.intro q1 q2); clear q1 q2 hvb
            go_wp2_with fail
            refine bodyPost_ret (v := .tuple #[.agg #[.int .i64 0, .int .i64 0, .int .i64 0, .int .i64 0, .int .i64 0], .bool false]) (two_results rfl _ _ _ 49 _ (0, 0) _ rfl (Row.alloc (row_set5' H3.out.2.2) _) Tryz.underlying49 rfl (by kernel_rfl) rfl) rfl ?_
            exact ⟨by obtain ⟨q1, q2⟩ := Q.out; subst q1; subst q2; rfl, (below_set5' HB.out (by omega)).alloc (below_set5' HB.out (by omega)).size _⟩
          · go_wp2_with fail
            go_roundw
            case rel =>
              have hg := HG.out
              refine ⟨1, by omega, rfl, ⟨Row.alloc (Row.far H3.out.1 (by simp; omega) _) _, Row.alloc (Row.far H3.out.2.1 (by simp; omega) _) _, Row.alloc (Row.far H3.out.2.2 (by simp; omega) _) _⟩, ?_, (HB.out.setCell (by simp; omega) _).alloc (by simpa using HB.out.size) _, ?_⟩
              · exact Row.alloc (Row.put H6.out 2 _) _
              · have := HV.out; omega
            case measure => simp [intOf]; omega
      · simp only [Int.natCast_zero, Int.natCast_one, Int.cast_ofNat_Int] at hlt'
        go_wp2_with fail
        refine (CA1.out hlt _).mono ?_; rintro e w5 ⟨rfl, hb5⟩
        dsimp only
        have h3 := H3.out.below hb5; have h6 := H6.out.below hb5; have hbw := HB.out.trans (hb5.mono HB.out.size); clear H3 H6 HB hb5 b0 b1 b2 b3 b4 b5 b6
        have H3 := Lib.hid h3; have H6 := Lib.hid h6; have HB := Lib.hid hbw; clear h3 h6 hbw
        obtain ⟨a0, a1, a2, a3, a4⟩ := H3.out.2.1.c5
        obtain ⟨z0, z1, z2, z3, z4⟩ := H3.out.2.2.c5
        obtain ⟨f0, f1, f2, f3, f4⟩ := H3.out.2.2.f5
        obtain ⟨c0, c1, c2, c3, c4⟩ := H6.out.c5
        obtain ⟨d0, d1, d2, d3, d4⟩ := H6.out.f5
        simp only at c0 c1 c2 c3 c4
        have hl5 := H6.out.lt
        have m1 : w.heap.size + 1 < w5.heap.size := H3.out.2.1.lt
        have m2 : w.heap.size + 1 + 1 < w5.heap.size := H3.out.2.2.lt
        have hv := V1.out hlt
        cases hq : decide ((1 : Int) < s.kp)
        · rw [if_neg (by simpa using hq), Int.add_zero] at hv
          obtain rfl := hv
          clear hq
          by_cases hbig : (16 : Int) ≤ v1
          · have hvb := HV.out
            obtain ⟨q1, q2⟩ := HNO.out (fun hh => by have := hh.2.2.2; omega)
            have Q := Lib.hid (And.intro q1 q2); clear q1 q2 hvb
            go_wp2_with fail
            refine bodyPost_ret (v := .tuple #[.agg #[.int .i64 0, .int .i64 0, .int .i64 0, .int .i64 0, .int .i64 0], .bool false]) (two_results rfl _ _ _ 49 _ (0, 0) _ rfl (Row.alloc (row_set5' H3.out.2.2) _) Tryz.underlying49 rfl (by kernel_rfl) rfl) rfl ?_
            exact ⟨by obtain ⟨q1, q2⟩ := Q.out; subst q1; subst q2; rfl, (below_set5' HB.out (by omega)).alloc (below_set5' HB.out (by omega)).size _⟩
          · go_wp2_with fail
            go_roundw
            case rel =>
              have hg := HG.out
              refine ⟨2, by omega, rfl, ⟨Row.alloc (Row.far H3.out.1 (by simp; omega) _) _, Row.alloc (Row.far H3.out.2.1 (by simp; omega) _) _, Row.alloc (Row.far H3.out.2.2 (by simp; omega) _) _⟩, ?_, (HB.out.setCell (by simp; omega) _).alloc (by simpa using HB.out.size) _, ?_⟩
              · exact Row.alloc (Row.put H6.out 3 _) _
              · have := HV.out; omega
            case measure => simp [intOf]; omega
        · rw [if_pos (by simpa using hq)] at hv
          have hw := IntWalk.i64_in (n1 + t.y) (by have := NB.out; have := BT.out; omega)
          replace hw := hw.trans hv.symm
          clear hv
          clear hq
          by_cases hbig : (16 : Int) ≤ v1
          · have hvb := HV.out
            obtain ⟨q1, q2⟩ := HNO.out (fun hh => by have := hh.2.2.2; omega)
            have Q := Lib.hid (And.intro q1 q2); clear q1 q2 hvb
            go_wp2_with fail
            refine bodyPost_ret (v := .tuple #[.agg #[.int .i64 0, .int .i64 0, .int .i64 0, .int .i64 0, .int .i64 0], .bool false]) (two_results rfl _ _ _ 49 _ (0, 0) _ rfl (Row.alloc (row_set5' H3.out.2.2) _) Tryz.underlying49 rfl (by kernel_rfl) rfl) rfl ?_
            exact ⟨by obtain ⟨q1, q2⟩ := Q.out; subst q1; subst q2; rfl, (below_set5' HB.out (by omega)).alloc (below_set5' HB.out (by omega)).size _⟩
          · go_wp2_with fail
            go_roundw
            case rel =>
              have hg := HG.out
              refine ⟨2, by omega, rfl, ⟨Row.alloc (Row.far H3.out.1 (by simp; omega) _) _, Row.alloc (Row.far H3.out.2.1 (by simp; omega) _) _, Row.alloc (Row.far H3.out.2.2 (by simp; omega) _) _⟩, ?_, (HB.out.setCell (by simp; omega) _).alloc (by simpa using HB.out.size) _, ?_⟩
              · exact Row.alloc (Row.put H6.out 3 _) _
              · have := HV.out; omega
            case measure => simp [intOf]; omega
      · simp only [Int.natCast_zero, Int.natCast_one, Int.cast_ofNat_Int] at hlt'
        go_wp2_with fail
        refine (CA2.out hlt _).mono ?_; rintro e w5 ⟨rfl, hb5⟩
        dsimp only
        have h3 := H3.out.below hb5; have h6 := H6.out.below hb5; have hbw := HB.out.trans (hb5.mono HB.out.size); clear H3 H6 HB hb5 b0 b1 b2 b3 b4 b5 b6
        have H3 := Lib.hid h3; have H6 := Lib.hid h6; have HB := Lib.hid hbw; clear h3 h6 hbw
        obtain ⟨a0, a1, a2, a3, a4⟩ := H3.out.2.1.c5
        obtain ⟨z0, z1, z2, z3, z4⟩ := H3.out.2.2.c5
        obtain ⟨f0, f1, f2, f3, f4⟩ := H3.out.2.2.f5
        obtain ⟨c0, c1, c2, c3, c4⟩ := H6.out.c5
        obtain ⟨d0, d1, d2, d3, d4⟩ := H6.out.f5
        simp only at c0 c1 c2 c3 c4
        have hl5 := H6.out.lt
        have m1 : w.heap.size + 1 < w5.heap.size := H3.out.2.1.lt
        have m2 : w.heap.size + 1 + 1 < w5.heap.size := H3.out.2.2.lt
        have hv := V2.out hlt
        cases hq : decide ((2 : Int) < s.kp)
        · rw [if_neg (by simpa using hq), Int.add_zero] at hv
          obtain rfl := hv
          clear hq
          by_cases hbig : (16 : Int) ≤ v2
          · have hvb := HV.out
            obtain ⟨q1, q2⟩ := HNO.out (fun hh => by have := hh.2.2.2; omega)
            have Q := Lib.hid (And.intro q1 q2); clear q1 q2 hvb
            go_wp2_with fail
            refine bodyPost_ret (v := .tuple #[.agg #[.int .i64 0, .int .i64 0, .int .i64 0, .int .i64 0, .int .i64 0], .bool false]) (two_results rfl _ _ _ 49 _ (0, 0) _ rfl (Row.alloc (row_set5' H3.out.2.2) _) Tryz.underlying49 rfl (by kernel_rfl) rfl) rfl ?_
            exact ⟨by obtain ⟨q1, q2⟩ := Q.out; subst q1; subst q2; rfl, (below_set5' HB.out (by omega)).alloc (below_set5' HB.out (by omega)).size _⟩
          · go_wp2_with fail
            go_roundw
            case rel =>
              have hg := HG.out
              refine ⟨3, by omega, rfl, ⟨Row.alloc (Row.far H3.out.1 (by simp; omega) _) _, Row.alloc (Row.far H3.out.2.1 (by simp; omega) _) _, Row.alloc (Row.far H3.out.2.2 (by simp; omega) _) _⟩, ?_, (HB.out.setCell (by simp; omega) _).alloc (by simpa using HB.out.size) _, ?_⟩
              · exact Row.alloc (Row.put H6.out 4 _) _
              · have := HV.out; omega
            case measure => simp [intOf]; omega
        · rw [if_pos (by simpa using hq)] at hv
          have hw := IntWalk.i64_in (n2 + t.z) (by have := NB.out; have := BT.out; omega)
          replace hw := hw.trans hv.symm
          clear hv
          clear hq
          by_cases hbig : (16 : Int) ≤ v2
          · have hvb := HV.out
            obtain ⟨q1, q2⟩ := HNO.out (fun hh => by have := hh.2.2.2; omega)
            have Q := Lib.hid (And.intro q1 q2); clear q1 q2 hvb
            go_wp2_with fail
            refine bodyPost_ret (v := .tuple #[.agg #[.int .i64 0, .int .i64 0, .int .i64 0, .int .i64 0, .int .i64 0], .bool false]) (two_results rfl _ _ _ 49 _ (0, 0) _ rfl (Row.alloc (row_set5' H3.out.2.2) _) Tryz.underlying49 rfl (by kernel_rfl) rfl) rfl ?_
            exact ⟨by obtain ⟨q1, q2⟩ := Q.out; subst q1; subst q2; rfl, (below_set5' HB.out (by omega)).alloc (below_set5' HB.out (by omega)).size _⟩
          · go_wp2_with fail
            go_roundw
            case rel =>
              have hg := HG.out
              refine ⟨3, by omega, rfl, ⟨Row.alloc (Row.far H3.out.1 (by simp; omega) _) _, Row.alloc (Row.far H3.out.2.1 (by simp; omega) _) _, Row.alloc (Row.far H3.out.2.2 (by simp; omega) _) _⟩, ?_, (HB.out.setCell (by simp; omega) _).alloc (by simpa using HB.out.size) _, ?_⟩
              · exact Row.alloc (Row.put H6.out 4 _) _
              · have := HV.out; omega
            case measure => simp [intOf]; omega
    · have hkn : k = n := by omega
      subst hkn
      have hge : ¬ (k : Int) < s.to := by have := HNN.out.1; omega
      obtain ⟨z0, z1, z2, z3, z4⟩ := H3.out.2.2.c5
      obtain ⟨f0, f1, f2, f3, f4⟩ := H3.out.2.2.f5
      obtain ⟨c0, c1, c2, c3, c4⟩ := H6.out.c5
      have y := Y.out
      rw [pt_self k 0 v0 (fun hh => y.1 (by omega))] at c2
      rw [pt_self k 1 v1 (fun hh => y.2.1 (by omega))] at c3
      rw [pt_self k 2 v2 (fun hh => y.2.2 (by omega))] at c4
      simp only at c0 c1
      have hr := HR.out
      have hv := HV.out
      have hg := G.out
      obtain ⟨q1, q2⟩ := HYES.out ⟨hr.1, hr.2.1, hr.2.2, by by_cases hh : 0 < k <;> omega, by by_cases hh : 1 < k <;> omega, by by_cases hh : 2 < k <;> omega⟩
      have Q := Lib.hid (And.intro q1 q2); clear q1 q2 hr hv hg y
      go_wp2_with fail
      refine bodyPost_ret (v := .tuple #[.agg #[.int .i64 s.to, .int .i64 t.e, .int .i64 v0, .int .i64 v1, .int .i64 v2], .bool true]) (two_results rfl _ _ _ 49 _ (0, 0) _ rfl (row_set5' H3.out.2.2) Tryz.underlying49 rfl (by kernel_rfl) rfl) rfl ?_
      exact ⟨by obtain ⟨q1, q2⟩ := Q.out; subst q1; subst q2; rfl, below_set5' HB.out (by omega)⟩
theorem refApply_any (s : Sm) (t : St) (w : World) : Calls Tryz.prog 48 #[s.v, t.val] w fun e w' => e = .returned (.tuple #[(s.ap t).val, .bool (s.apB t)]) ∧ Below w.heap.size w w' := by
  by_cases h : s.R
  · by_cases h2 : t.R
    · by_cases hd : t.d = s.fr
      · exact refApply_D s t w h h2 hd
      · exact refApply_C s t w h h2 hd
    · exact refApply_B s t w h h2
  · exact refApply_A s t w h
end

section
open Go.ChangeShapes Go.WideShapes Go.ChangeAt Go.RowKit Go.BigFrame
set_option maxRecDepth 100000
def Ts (w : World) (A : Option Addr) (ts : List St) : Prop :=
  0 < ts.length → ∃ b o, A = some ⟨b, o, none⟩ ∧ b < w.heap.size ∧ ∀ (j : Nat) (u : Value), (rowS ts)[j]? = some u → w.cell? ⟨b, o + j, none⟩ = some u
section
variable {w w' : World} {A : Option Addr} {ts : List St}
theorem Ts.below (h : Ts w A ts) (hb : Below w.heap.size w w') : Ts w' A ts := fun hn => by
  obtain ⟨b, o, e, hlt, hc⟩ := h hn
  exact ⟨b, o, e, Nat.lt_of_lt_of_le hlt hb.size, fun j u hu => (hb.cell (p := ⟨b, o + j, none⟩) hlt).trans (hc j u hu)⟩
theorem Ts.nil : Ts w A [] := fun h => absurd h (by simp)
theorem Ts.of (h : Times w A ts) : Ts w A ts := fun hn => by
  obtain ⟨b, e, hlt, hc⟩ := h hn
  exact ⟨b, 0, e, hlt, fun j u hu => by rw [Nat.zero_add]; exact hc j u hu⟩
theorem rowS_take (ts : List St) (k : Nat) : rowS (ts.take k) = (rowS ts).take (k * 5) := by
  induction ts generalizing k with
  | nil => simp [rowS]
  | cons t ts ih =>
    cases k with
    | zero => simp [rowS]
    | succ k => rw [List.take_succ_cons, rowS_cons, rowS_cons, ih, show (k + 1) * 5 = k * 5 + 1 + 1 + 1 + 1 + 1 by omega]; simp only [List.take_succ_cons]
theorem rowS_drop (ts : List St) (k : Nat) : rowS (ts.drop k) = (rowS ts).drop (k * 5) := by
  induction ts generalizing k with
  | nil => simp [rowS]
  | cons t ts ih =>
    cases k with
    | zero => simp
    | succ k => rw [List.drop_succ_cons, ih, rowS_cons, show (k + 1) * 5 = k * 5 + 1 + 1 + 1 + 1 + 1 by omega]; simp only [List.drop_succ_cons]
theorem Ts.take (h : Ts w A ts) (k : Nat) : Ts w A (ts.take k) := fun hn => by
  obtain ⟨b, o, e, hlt, hc⟩ := h (by rw [List.length_take] at hn; omega)
  refine ⟨b, o, e, hlt, fun j u hu => hc j u ?_⟩
  rw [rowS_take, List.getElem?_take] at hu
  split at hu
  · exact hu
  · cases hu
theorem Ts.drop {b o : Nat} (h : Ts w (some ⟨b, o, none⟩) ts) (k : Nat) : Ts w (some ⟨b, o + k * 5, none⟩) (ts.drop k) := fun hn => by
  obtain ⟨b', o', e, hlt, hc⟩ := h (by rw [List.length_drop] at hn; omega)
  cases e
  refine ⟨b, o + k * 5, rfl, hlt, fun j u hu => ?_⟩
  rw [rowS_drop, List.getElem?_drop] at hu
  rw [Nat.add_assoc]; exact hc _ u hu
theorem run_load_st (w : World) (b o : Nat) (t : St) (h : ∀ j v, t.cells[j]? = some v → w.cell? ⟨b, o + j, none⟩ = some v) :
    (Instr.loadAt 49 (.pointer (some ⟨b, o, none⟩))).run Tryz.prog w = .ok (.agg #[.int .i64 t.d, .int .i64 t.e, .int .i64 t.x, .int .i64 t.y, .int .i64 t.z]) w :=
  run_loadAt_part b o 49 _ t.cells (fun j v hj => by rw [add_at]; exact h j v hj) Tryz.underlying49 rfl (by kernel_rfl)
theorem Ts.load (h : Ts w A ts) {i : Nat} {t : St} (hi : ts[i]? = some t) : ∃ b o, A = some ⟨b, o, none⟩ ∧ b < w.heap.size ∧
    ∀ w', Below w.heap.size w w' → (Instr.loadAt 49 (.pointer (some ⟨b, o + i * 5, none⟩))).run Tryz.prog w' = .ok (.agg #[.int .i64 t.d, .int .i64 t.e, .int .i64 t.x, .int .i64 t.y, .int .i64 t.z]) w' := by
  obtain ⟨hl, _⟩ := List.getElem?_eq_some_iff.1 hi
  obtain ⟨b, o, e, hlt, hc⟩ := h (by omega)
  refine ⟨b, o, e, hlt, fun w' hb => run_load_st _ _ _ _ fun j v hj => ?_⟩
  rw [hb.cell (p := ⟨b, o + i * 5 + j, none⟩) hlt, Nat.add_assoc]
  exact hc _ v (rowS_at ts i t hi j v hj)
theorem Ts.five (h : Ts w A ts) {i : Nat} {t : St} (hi : ts[i]? = some t) : ∃ b o, A = some ⟨b, o, none⟩ ∧ b < w.heap.size ∧
    ∀ w', Below w.heap.size w w' → w'.cell? ⟨b, o + i * 5, none⟩ = some (.int .i64 t.d) ∧ w'.cell? ⟨b, o + i * 5 + 1, none⟩ = some (.int .i64 t.e) ∧ w'.cell? ⟨b, o + i * 5 + 2, none⟩ = some (.int .i64 t.x) ∧ w'.cell? ⟨b, o + i * 5 + 3, none⟩ = some (.int .i64 t.y) ∧ w'.cell? ⟨b, o + i * 5 + 4, none⟩ = some (.int .i64 t.z) := by
  obtain ⟨hl, _⟩ := List.getElem?_eq_some_iff.1 hi
  obtain ⟨b, o, e, hlt, hc⟩ := h (by omega)
  refine ⟨b, o, e, hlt, fun w' hb => ?_⟩
  have key : ∀ j v, t.cells[j]? = some v → w'.cell? ⟨b, o + i * 5 + j, none⟩ = some v := fun j v hj => by
    rw [hb.cell (p := ⟨b, o + i * 5 + j, none⟩) hlt, Nat.add_assoc]
    exact hc _ v (rowS_at ts i t hi j v hj)
  exact ⟨key 0 _ rfl, key 1 _ rfl, key 2 _ rfl, key 3 _ rfl, key 4 _ rfl⟩
end
def Tells (g : Nat) (lb : Array Value) (p : St → Bool) (w : World) : Prop :=
  ∀ (W : World) (x : St), Below w.heap.size w W → Calls Tryz.prog g (#[x.val] ++ lb) W fun e w' => e = .returned (.bool (p x)) ∧ Below W.heap.size W w'
theorem any_false {p : St → Bool} {ts : List St} : ts.any p = false ↔ ∀ (j : Nat) (t : St), ts[j]? = some t → p t = false := by
  rw [List.any_eq_false]
  constructor
  · intro h j t ht
    have := h t (List.mem_of_getElem? ht)
    simpa using this
  · intro h t ht
    obtain ⟨j, hj⟩ := List.getElem?_of_mem ht
    rw [h j t hj]; simp
theorem indexFunc_any (A : Option Addr) (ts : List St) (c g : Nat) (lb : Array Value) (p : St → Bool) (w : World) (hT : Ts w A ts) (hn : ts.length ≤ 5000000)
    (eg : ∀ args w, (callFunc g args).run Tryz.prog w = .ok (.enter g args) w) (hp : 0 < ts.length → Tells g lb p w) :
    Calls Tryz.prog 109 #[.slice A ts.length c, .func (.func g) #[] lb] w fun e w' => (∃ i : Int, e = .returned (.int .i64 i) ∧ decide (0 ≤ i) = ts.any p) ∧ Below w.heap.size w w' := by
  have HT := Lib.hid hT; have HP := Lib.hid hp; clear hT hp
  go_enter Tryz.func109, Tryz.ntmps109
  go_wp2_with fail
  go_loopw [5, 8] (fun _ i wr => ∃ k : Nat, k ≤ ts.length ∧ i = .int .i64 k ∧ Below w.heap.size w wr ∧ ∀ (j : Nat) (t : St), j < k → ts[j]? = some t → p t = false) (fun _ i _ => ts.length - (intOf i).toNat)
  case atStart => exact ⟨0, by omega, rfl, Below.refl _ _, fun j t h => absurd h (by omega)⟩
  case round =>
    obtain ⟨k, hk, rfl, hb, hno⟩ := hrel
    have HB := Lib.hid hb; have HNO := Lib.hid hno; clear hb hno
    by_cases hlt : k < ts.length
    · have hltz : (k : Int) < (ts.length : Int) := by omega
      obtain ⟨t, ht⟩ : ∃ t, ts[k]? = some t := ⟨_, List.getElem?_eq_getElem hlt⟩
      obtain ⟨b, o, rfl, hbl, hld⟩ := HT.out.five ht
      obtain ⟨c0, c1, c2, c3, c4⟩ := hld _ HB.out
      have hcall := HP.out (by omega) wr t HB.out
      have HTT := Lib.hid ht; clear ht
      cases hq : p t with
      | true =>
        rw [hq] at hcall
        have HQ := Lib.hid hq; clear hq
        go_wp2_with fail
        refine hcall.mono ?_; rintro e w1 ⟨rfl, hb1⟩
        have HB1 := Lib.hid (HB.out.trans (hb1.mono HB.out.size)); clear hb1 hld hcall c0 c1 c2 c3 c4
        go_wp2_with fail
        go_ret
        refine ⟨⟨k, rfl, ?_⟩, HB1.out⟩
        rw [decide_eq_true (by omega), eq_comm, List.any_eq_true]
        exact ⟨t, List.mem_of_getElem? HTT.out, HQ.out⟩
      | false =>
        rw [hq] at hcall
        have HQ := Lib.hid hq; clear hq
        go_wp2_with fail
        refine hcall.mono ?_; rintro e w1 ⟨rfl, hb1⟩
        have HB1 := Lib.hid (HB.out.trans (hb1.mono HB.out.size)); clear hb1 hld hcall c0 c1 c2 c3 c4
        go_wp2_with fail
        go_roundw
        case rel =>
          refine ⟨k + 1, by omega, by simp, HB1.out, fun j t' hj ht' => ?_⟩
          by_cases e : j = k
          · subst e
            rw [HTT.out] at ht'; cases ht'
            exact HQ.out
          · exact HNO.out j t' (by omega) ht'
        case measure => simp [intOf]; omega
    · have hltz : ¬ (k : Int) < (ts.length : Int) := by omega
      go_wp2_with fail
      go_ret
      refine ⟨⟨-1, rfl, ?_⟩, HB.out⟩
      rw [decide_eq_false (by omega), eq_comm, any_false]
      exact fun j t ht => HNO.out j t (by have := (List.getElem?_eq_some_iff.1 ht).1; omega) ht
theorem containsFunc_any (A : Option Addr) (ts : List St) (c g : Nat) (lb : Array Value) (p : St → Bool) (w : World) (hT : Ts w A ts) (hn : ts.length ≤ 5000000)
    (eg : ∀ args w, (callFunc g args).run Tryz.prog w = .ok (.enter g args) w) (hp : 0 < ts.length → Tells g lb p w) :
    Calls Tryz.prog 57 #[.slice A ts.length c, .func (.func g) #[] lb] w fun e w' => e = .returned (.bool (ts.any p)) ∧ Below w.heap.size w w' := by
  have H := Lib.hid (indexFunc_any A ts c g lb p w hT hn eg hp); clear hT hp eg
  go_enter Tryz.func57, Tryz.ntmps57
  go_wp2_with fail
  refine (H.out).mono ?_; rintro e w1 ⟨⟨i, rfl, hi⟩, hb⟩
  have HB := Lib.hid hb; clear hb
  have HI := Lib.hid hi; clear hi
  go_wp2_with fail
  go_ret
  exact ⟨ret_bool HI.out, HB.out⟩
end
end Go.Proofs.YtcdofkhkckodjaaGreatDoor
