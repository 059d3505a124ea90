/- SmOfR, SmThenN -/
import Derived.Test.YtcdofkhkckodjaaGreatDoorCa5
namespace Go.Proofs.YtcdofkhkckodjaaGreatDoor
set_option linter.unusedVariables false
section
open Go.ChangeShapes Go.WideShapes Go.ChangeAt Go.RowKit Go.BigFrame
set_option maxRecDepth 100000
set_option maxHeartbeats 2000000 in
theorem refOf_7 (d p : Int) (d0 : ¬ d < 0) (d3 : ¬ 3 < d) (hp : IntKind.i64.wrap (d - 1) = p) (w : World) : Calls Tryz.prog 91 #[.int .u8 7, .int .i64 d] w fun e w' => e = .returned (.tuple #[(Sm.orz (⟨p, d, p, 0, 0, 0, 0⟩ : Sm) (decide (Sm.R (⟨p, d, p, 0, 0, 0, 0⟩ : Sm)))).v, .bool (decide (Sm.R (⟨p, d, p, 0, 0, 0, 0⟩ : Sm)))]) ∧ Below w.heap.size w w' := by
  have hr := fun w => refRightM_any (⟨p, d, p, 0, 0, 0, 0⟩ : Sm) w
  have h1 : HoldsM ((w.alloc (.cells #[.int .i64 0, .int .i64 0, .int .i64 0, .int .i64 0, .int .i64 0, .int .i64 0, .int .i64 0] 78)).alloc (.cells #[.int .i64 ((⟨p, d, p, 0, 0, 0, 0⟩ : Sm)).fr, .int .i64 ((⟨p, d, p, 0, 0, 0, 0⟩ : Sm)).to, .int .i64 ((⟨p, d, p, 0, 0, 0, 0⟩ : Sm)).kp, .int .i64 ((⟨p, d, p, 0, 0, 0, 0⟩ : Sm)).ad, .int .i64 ((⟨p, d, p, 0, 0, 0, 0⟩ : Sm)).t0, .int .i64 ((⟨p, d, p, 0, 0, 0, 0⟩ : Sm)).t1, .int .i64 ((⟨p, d, p, 0, 0, 0, 0⟩ : Sm)).t2] 78)) (w.heap.size + 1) 78 (⟨p, d, p, 0, 0, 0, 0⟩ : Sm) := made2r w _ _ _
  have h0 : HoldsM ((w.alloc (.cells #[.int .i64 0, .int .i64 0, .int .i64 0, .int .i64 0, .int .i64 0, .int .i64 0, .int .i64 0] 78)).alloc (.cells #[.int .i64 ((⟨p, d, p, 0, 0, 0, 0⟩ : Sm)).fr, .int .i64 ((⟨p, d, p, 0, 0, 0, 0⟩ : Sm)).to, .int .i64 ((⟨p, d, p, 0, 0, 0, 0⟩ : Sm)).kp, .int .i64 ((⟨p, d, p, 0, 0, 0, 0⟩ : Sm)).ad, .int .i64 ((⟨p, d, p, 0, 0, 0, 0⟩ : Sm)).t0, .int .i64 ((⟨p, d, p, 0, 0, 0, 0⟩ : Sm)).t1, .int .i64 ((⟨p, d, p, 0, 0, 0, 0⟩ : Sm)).t2] 78)) w.heap.size 78 Sm.zero := Row.alloc (Row.made w _ _) _
  simp only at h1 h0
  unfold Sm.v at hr
  generalize hb : decide (Sm.R (⟨p, d, p, 0, 0, 0, 0⟩ : Sm)) = bb at *
  clear hb
  have HR := Lib.hid hr; have H1 := Lib.hid h1; have H0 := Lib.hid h0; clear hr h1 h0
  unfold Sm.orz
  go_enter Tryz.func91, Tryz.ntmps91
  go_wp2_with fail
  refine (HR.out _).mono ?_; rintro e w2 ⟨rfl, hb2⟩
  have h1 : HoldsM w2 (w.heap.size + 1) 78 (⟨p, d, p, 0, 0, 0, 0⟩ : Sm) := Row.below H1.out hb2 (by simp)
  have h0 : HoldsM w2 w.heap.size 78 Sm.zero := Row.below H0.out hb2 (by simp; omega)
  obtain ⟨c0, c1, c2, c3, c4, c5, c6⟩ := h1.cells7
  obtain ⟨f0, f1, f2, f3, f4, f5, f6⟩ := h0.free7
  obtain ⟨z0, z1, z2, z3, z4, z5, z6⟩ := h0.cells7
  have HB := Lib.hid ((below_alloc2 w _ _).trans (hb2.mono (by simp; omega)))
  have HZ := Lib.hid h0
  clear hb2 h1 h0
  simp only at c0 c1 c2 c3 c4 c5 c6
  cases bb with
  | true =>
    go_wp2_with fail
    refine bodyPost_ret (v := .tuple #[Sm.v (⟨p, d, p, 0, 0, 0, 0⟩ : Sm), .bool true]) (two_results rfl _ _ _ 78 _ (0, 0) _ rfl (row_set7 HZ.out) Tryz.underlying78 rfl (by kernel_rfl) rfl) rfl ?_
    exact ⟨rfl, below_set7 HB.out (Nat.le_refl _)⟩
  | false =>
    go_wp2_with fail
    refine bodyPost_ret (v := .tuple #[Sm.v Sm.zero, .bool false]) (two_results rfl _ _ _ 78 _ (0, 0) _ rfl (row_set7 HZ.out) Tryz.underlying78 rfl (by kernel_rfl) rfl) rfl ?_
    exact ⟨rfl, below_set7 HB.out (Nat.le_refl _)⟩
set_option maxHeartbeats 2000000 in
theorem refOf_8 (d p : Int) (d0 : ¬ d < 0) (d3 : ¬ 3 < d) (hp : IntKind.i64.wrap (d + 1) = p) (w : World) : Calls Tryz.prog 91 #[.int .u8 8, .int .i64 d] w fun e w' => e = .returned (.tuple #[(Sm.orz (⟨p, d, d, 0, 0, 0, 0⟩ : Sm) (decide (Sm.R (⟨p, d, d, 0, 0, 0, 0⟩ : Sm)))).v, .bool (decide (Sm.R (⟨p, d, d, 0, 0, 0, 0⟩ : Sm)))]) ∧ Below w.heap.size w w' := by
  have hr := fun w => refRightM_any (⟨p, d, d, 0, 0, 0, 0⟩ : Sm) w
  have h1 : HoldsM ((w.alloc (.cells #[.int .i64 0, .int .i64 0, .int .i64 0, .int .i64 0, .int .i64 0, .int .i64 0, .int .i64 0] 78)).alloc (.cells #[.int .i64 ((⟨p, d, d, 0, 0, 0, 0⟩ : Sm)).fr, .int .i64 ((⟨p, d, d, 0, 0, 0, 0⟩ : Sm)).to, .int .i64 ((⟨p, d, d, 0, 0, 0, 0⟩ : Sm)).kp, .int .i64 ((⟨p, d, d, 0, 0, 0, 0⟩ : Sm)).ad, .int .i64 ((⟨p, d, d, 0, 0, 0, 0⟩ : Sm)).t0, .int .i64 ((⟨p, d, d, 0, 0, 0, 0⟩ : Sm)).t1, .int .i64 ((⟨p, d, d, 0, 0, 0, 0⟩ : Sm)).t2] 78)) (w.heap.size + 1) 78 (⟨p, d, d, 0, 0, 0, 0⟩ : Sm) := made2r w _ _ _
  have h0 : HoldsM ((w.alloc (.cells #[.int .i64 0, .int .i64 0, .int .i64 0, .int .i64 0, .int .i64 0, .int .i64 0, .int .i64 0] 78)).alloc (.cells #[.int .i64 ((⟨p, d, d, 0, 0, 0, 0⟩ : Sm)).fr, .int .i64 ((⟨p, d, d, 0, 0, 0, 0⟩ : Sm)).to, .int .i64 ((⟨p, d, d, 0, 0, 0, 0⟩ : Sm)).kp, .int .i64 ((⟨p, d, d, 0, 0, 0, 0⟩ : Sm)).ad, .int .i64 ((⟨p, d, d, 0, 0, 0, 0⟩ : Sm)).t0, .int .i64 ((⟨p, d, d, 0, 0, 0, 0⟩ : Sm)).t1, .int .i64 ((⟨p, d, d, 0, 0, 0, 0⟩ : Sm)).t2] 78)) w.heap.size 78 Sm.zero := Row.alloc (Row.made w _ _) _
  simp only at h1 h0
  unfold Sm.v at hr
  generalize hb : decide (Sm.R (⟨p, d, d, 0, 0, 0, 0⟩ : Sm)) = bb at *
  clear hb
  have HR := Lib.hid hr; have H1 := Lib.hid h1; have H0 := Lib.hid h0; clear hr h1 h0
  unfold Sm.orz
  go_enter Tryz.func91, Tryz.ntmps91
  go_wp2_with fail
  refine (HR.out _).mono ?_; rintro e w2 ⟨rfl, hb2⟩
  have h1 : HoldsM w2 (w.heap.size + 1) 78 (⟨p, d, d, 0, 0, 0, 0⟩ : Sm) := Row.below H1.out hb2 (by simp)
  have h0 : HoldsM w2 w.heap.size 78 Sm.zero := Row.below H0.out hb2 (by simp; omega)
  obtain ⟨c0, c1, c2, c3, c4, c5, c6⟩ := h1.cells7
  obtain ⟨f0, f1, f2, f3, f4, f5, f6⟩ := h0.free7
  obtain ⟨z0, z1, z2, z3, z4, z5, z6⟩ := h0.cells7
  have HB := Lib.hid ((below_alloc2 w _ _).trans (hb2.mono (by simp; omega)))
  have HZ := Lib.hid h0
  clear hb2 h1 h0
  simp only at c0 c1 c2 c3 c4 c5 c6
  cases bb with
  | true =>
    go_wp2_with fail
    refine bodyPost_ret (v := .tuple #[Sm.v (⟨p, d, d, 0, 0, 0, 0⟩ : Sm), .bool true]) (two_results rfl _ _ _ 78 _ (0, 0) _ rfl (row_set7 HZ.out) Tryz.underlying78 rfl (by kernel_rfl) rfl) rfl ?_
    exact ⟨rfl, below_set7 HB.out (Nat.le_refl _)⟩
  | false =>
    go_wp2_with fail
    refine bodyPost_ret (v := .tuple #[Sm.v Sm.zero, .bool false]) (two_results rfl _ _ _ 78 _ (0, 0) _ rfl (row_set7 HZ.out) Tryz.underlying78 rfl (by kernel_rfl) rfl) rfl ?_
    exact ⟨rfl, below_set7 HB.out (Nat.le_refl _)⟩
set_option maxHeartbeats 2000000 in
theorem refOf_9 (d : Int) (d0 : ¬ d < 0) (d3 : ¬ 3 < d) (w : World) : Calls Tryz.prog 91 #[.int .u8 9, .int .i64 d] w fun e w' => e = .returned (.tuple #[(Sm.orz (⟨d, d, d, 1, 0, 0, 0⟩ : Sm) (decide (Sm.R (⟨d, d, d, 1, 0, 0, 0⟩ : Sm)))).v, .bool (decide (Sm.R (⟨d, d, d, 1, 0, 0, 0⟩ : Sm)))]) ∧ Below w.heap.size w w' := by
  have hr := fun w => refRightM_any (⟨d, d, d, 1, 0, 0, 0⟩ : Sm) w
  have h1 : HoldsM ((w.alloc (.cells #[.int .i64 0, .int .i64 0, .int .i64 0, .int .i64 0, .int .i64 0, .int .i64 0, .int .i64 0] 78)).alloc (.cells #[.int .i64 ((⟨d, d, d, 1, 0, 0, 0⟩ : Sm)).fr, .int .i64 ((⟨d, d, d, 1, 0, 0, 0⟩ : Sm)).to, .int .i64 ((⟨d, d, d, 1, 0, 0, 0⟩ : Sm)).kp, .int .i64 ((⟨d, d, d, 1, 0, 0, 0⟩ : Sm)).ad, .int .i64 ((⟨d, d, d, 1, 0, 0, 0⟩ : Sm)).t0, .int .i64 ((⟨d, d, d, 1, 0, 0, 0⟩ : Sm)).t1, .int .i64 ((⟨d, d, d, 1, 0, 0, 0⟩ : Sm)).t2] 78)) (w.heap.size + 1) 78 (⟨d, d, d, 1, 0, 0, 0⟩ : Sm) := made2r w _ _ _
  have h0 : HoldsM ((w.alloc (.cells #[.int .i64 0, .int .i64 0, .int .i64 0, .int .i64 0, .int .i64 0, .int .i64 0, .int .i64 0] 78)).alloc (.cells #[.int .i64 ((⟨d, d, d, 1, 0, 0, 0⟩ : Sm)).fr, .int .i64 ((⟨d, d, d, 1, 0, 0, 0⟩ : Sm)).to, .int .i64 ((⟨d, d, d, 1, 0, 0, 0⟩ : Sm)).kp, .int .i64 ((⟨d, d, d, 1, 0, 0, 0⟩ : Sm)).ad, .int .i64 ((⟨d, d, d, 1, 0, 0, 0⟩ : Sm)).t0, .int .i64 ((⟨d, d, d, 1, 0, 0, 0⟩ : Sm)).t1, .int .i64 ((⟨d, d, d, 1, 0, 0, 0⟩ : Sm)).t2] 78)) w.heap.size 78 Sm.zero := Row.alloc (Row.made w _ _) _
  simp only at h1 h0
  unfold Sm.v at hr
  generalize hb : decide (Sm.R (⟨d, d, d, 1, 0, 0, 0⟩ : Sm)) = bb at *
  clear hb
  have HR := Lib.hid hr; have H1 := Lib.hid h1; have H0 := Lib.hid h0; clear hr h1 h0
  unfold Sm.orz
  go_enter Tryz.func91, Tryz.ntmps91
  go_wp2_with fail
  refine (HR.out _).mono ?_; rintro e w2 ⟨rfl, hb2⟩
  have h1 : HoldsM w2 (w.heap.size + 1) 78 (⟨d, d, d, 1, 0, 0, 0⟩ : Sm) := Row.below H1.out hb2 (by simp)
  have h0 : HoldsM w2 w.heap.size 78 Sm.zero := Row.below H0.out hb2 (by simp; omega)
  obtain ⟨c0, c1, c2, c3, c4, c5, c6⟩ := h1.cells7
  obtain ⟨f0, f1, f2, f3, f4, f5, f6⟩ := h0.free7
  obtain ⟨z0, z1, z2, z3, z4, z5, z6⟩ := h0.cells7
  have HB := Lib.hid ((below_alloc2 w _ _).trans (hb2.mono (by simp; omega)))
  have HZ := Lib.hid h0
  clear hb2 h1 h0
  simp only at c0 c1 c2 c3 c4 c5 c6
  cases bb with
  | true =>
    go_wp2_with fail
    refine bodyPost_ret (v := .tuple #[Sm.v (⟨d, d, d, 1, 0, 0, 0⟩ : Sm), .bool true]) (two_results rfl _ _ _ 78 _ (0, 0) _ rfl (row_set7 HZ.out) Tryz.underlying78 rfl (by kernel_rfl) rfl) rfl ?_
    exact ⟨rfl, below_set7 HB.out (Nat.le_refl _)⟩
  | false =>
    go_wp2_with fail
    refine bodyPost_ret (v := .tuple #[Sm.v Sm.zero, .bool false]) (two_results rfl _ _ _ 78 _ (0, 0) _ rfl (row_set7 HZ.out) Tryz.underlying78 rfl (by kernel_rfl) rfl) rfl ?_
    exact ⟨rfl, below_set7 HB.out (Nat.le_refl _)⟩
set_option maxHeartbeats 2000000 in
theorem refOf_x (k d : Int) (d0 : ¬ d < 0) (d3 : ¬ 3 < d) (h7 : (k == 7) = false) (h8 : (k == 8) = false) (h9 : (k == 9) = false) (h1 : ¬ k < 1) (h10 : ¬ 10 < k) (w : World) : Calls Tryz.prog 91 #[.int .u8 k, .int .i64 d] w fun e w' => e = .returned (.tuple #[(Sm.orz (⟨d, d, d, 0, 0, 0, 0⟩ : Sm) (decide (Sm.R (⟨d, d, d, 0, 0, 0, 0⟩ : Sm)))).v, .bool (decide (Sm.R (⟨d, d, d, 0, 0, 0, 0⟩ : Sm)))]) ∧ Below w.heap.size w w' := by
  have hr := fun w => refRightM_any (⟨d, d, d, 0, 0, 0, 0⟩ : Sm) w
  have h1q : HoldsM ((w.alloc (.cells #[.int .i64 0, .int .i64 0, .int .i64 0, .int .i64 0, .int .i64 0, .int .i64 0, .int .i64 0] 78)).alloc (.cells #[.int .i64 ((⟨d, d, d, 0, 0, 0, 0⟩ : Sm)).fr, .int .i64 ((⟨d, d, d, 0, 0, 0, 0⟩ : Sm)).to, .int .i64 ((⟨d, d, d, 0, 0, 0, 0⟩ : Sm)).kp, .int .i64 ((⟨d, d, d, 0, 0, 0, 0⟩ : Sm)).ad, .int .i64 ((⟨d, d, d, 0, 0, 0, 0⟩ : Sm)).t0, .int .i64 ((⟨d, d, d, 0, 0, 0, 0⟩ : Sm)).t1, .int .i64 ((⟨d, d, d, 0, 0, 0, 0⟩ : Sm)).t2] 78)) (w.heap.size + 1) 78 (⟨d, d, d, 0, 0, 0, 0⟩ : Sm) := made2r w _ _ _
  have h0 : HoldsM ((w.alloc (.cells #[.int .i64 0, .int .i64 0, .int .i64 0, .int .i64 0, .int .i64 0, .int .i64 0, .int .i64 0] 78)).alloc (.cells #[.int .i64 ((⟨d, d, d, 0, 0, 0, 0⟩ : Sm)).fr, .int .i64 ((⟨d, d, d, 0, 0, 0, 0⟩ : Sm)).to, .int .i64 ((⟨d, d, d, 0, 0, 0, 0⟩ : Sm)).kp, .int .i64 ((⟨d, d, d, 0, 0, 0, 0⟩ : Sm)).ad, .int .i64 ((⟨d, d, d, 0, 0, 0, 0⟩ : Sm)).t0, .int .i64 ((⟨d, d, d, 0, 0, 0, 0⟩ : Sm)).t1, .int .i64 ((⟨d, d, d, 0, 0, 0, 0⟩ : Sm)).t2] 78)) w.heap.size 78 Sm.zero := Row.alloc (Row.made w _ _) _
  simp only at h1q h0
  unfold Sm.v at hr
  generalize hb : decide (Sm.R (⟨d, d, d, 0, 0, 0, 0⟩ : Sm)) = bb at *
  clear hb
  have HR := Lib.hid hr; have H1 := Lib.hid h1q; have H0 := Lib.hid h0; clear hr h1q h0
  unfold Sm.orz
  go_enter Tryz.func91, Tryz.ntmps91
  go_wp2_with fail
  refine (HR.out _).mono ?_; rintro e w2 ⟨rfl, hb2⟩
  have h1 : HoldsM w2 (w.heap.size + 1) 78 (⟨d, d, d, 0, 0, 0, 0⟩ : Sm) := Row.below H1.out hb2 (by simp)
  have h0 : HoldsM w2 w.heap.size 78 Sm.zero := Row.below H0.out hb2 (by simp; omega)
  obtain ⟨c0, c1, c2, c3, c4, c5, c6⟩ := h1.cells7
  obtain ⟨f0, f1, f2, f3, f4, f5, f6⟩ := h0.free7
  obtain ⟨z0, z1, z2, z3, z4, z5, z6⟩ := h0.cells7
  have HB := Lib.hid ((below_alloc2 w _ _).trans (hb2.mono (by simp; omega)))
  have HZ := Lib.hid h0
  clear hb2 h1 h0
  simp only at c0 c1 c2 c3 c4 c5 c6
  cases bb with
  | true =>
    go_wp2_with fail
    refine bodyPost_ret (v := .tuple #[Sm.v (⟨d, d, d, 0, 0, 0, 0⟩ : Sm), .bool true]) (two_results rfl _ _ _ 78 _ (0, 0) _ rfl (row_set7 HZ.out) Tryz.underlying78 rfl (by kernel_rfl) rfl) rfl ?_
    exact ⟨rfl, below_set7 HB.out (Nat.le_refl _)⟩
  | false =>
    go_wp2_with fail
    refine bodyPost_ret (v := .tuple #[Sm.v Sm.zero, .bool false]) (two_results rfl _ _ _ 78 _ (0, 0) _ rfl (row_set7 HZ.out) Tryz.underlying78 rfl (by kernel_rfl) rfl) rfl ?_
    exact ⟨rfl, below_set7 HB.out (Nat.le_refl _)⟩
set_option maxHeartbeats 2000000 in
theorem refOf_no (k d : Int) (h : k < 1 ∨ 10 < k ∨ d < 0 ∨ 3 < d) (w : World) : Calls Tryz.prog 91 #[.int .u8 k, .int .i64 d] w fun e w' => e = .returned (.tuple #[Sm.zero.v, .bool false]) ∧ Below w.heap.size w w' := by
  have h0 : HoldsM (w.alloc (.cells #[.int .i64 0, .int .i64 0, .int .i64 0, .int .i64 0, .int .i64 0, .int .i64 0, .int .i64 0] 78)) w.heap.size 78 Sm.zero := Row.made w _ _
  have hb : Below w.heap.size w (w.alloc (.cells #[.int .i64 0, .int .i64 0, .int .i64 0, .int .i64 0, .int .i64 0, .int .i64 0, .int .i64 0] 78)) := (Below.refl _ _).alloc (Nat.le_refl _) _
  have H0 := Lib.hid (And.intro h0 hb); clear h0 hb
  by_cases h1 : k < 1
  case pos =>
    clear h
    go_enter Tryz.func91, Tryz.ntmps91
    go_wp2_with fail
    refine bodyPost_ret (v := .tuple #[Sm.v Sm.zero, .bool false]) (two_results rfl _ _ _ 78 _ (0, 0) _ rfl H0.out.1 Tryz.underlying78 rfl (by kernel_rfl) rfl) rfl ?_
    exact ⟨rfl, H0.out.2⟩
  by_cases h2 : 10 < k
  case pos =>
    clear h
    go_enter Tryz.func91, Tryz.ntmps91
    go_wp2_with fail
    refine bodyPost_ret (v := .tuple #[Sm.v Sm.zero, .bool false]) (two_results rfl _ _ _ 78 _ (0, 0) _ rfl H0.out.1 Tryz.underlying78 rfl (by kernel_rfl) rfl) rfl ?_
    exact ⟨rfl, H0.out.2⟩
  by_cases h3 : d < 0
  case pos =>
    clear h
    go_enter Tryz.func91, Tryz.ntmps91
    go_wp2_with fail
    refine bodyPost_ret (v := .tuple #[Sm.v Sm.zero, .bool false]) (two_results rfl _ _ _ 78 _ (0, 0) _ rfl H0.out.1 Tryz.underlying78 rfl (by kernel_rfl) rfl) rfl ?_
    exact ⟨rfl, H0.out.2⟩
  have h4 : 3 < d := by omega
  clear h
  go_enter Tryz.func91, Tryz.ntmps91
  go_wp2_with fail
  refine bodyPost_ret (v := .tuple #[Sm.v Sm.zero, .bool false]) (two_results rfl _ _ _ 78 _ (0, 0) _ rfl H0.out.1 Tryz.underlying78 rfl (by kernel_rfl) rfl) rfl ?_
  exact ⟨rfl, H0.out.2⟩
theorem refOf_any (k d : Int) (w : World) : Calls Tryz.prog 91 #[.int .u8 k, .int .i64 d] w fun e w' => e = .returned (.tuple #[(Sm.of_ k d).v, .bool (decide (okOf k d))]) ∧ Below w.heap.size w w' := by
  by_cases hk : 1 ≤ k ∧ k ≤ 10 ∧ 0 ≤ d ∧ d ≤ 3
  case neg =>
    have hno : ¬ okOf k d := by
      intro h
      have h3 := h.2.2
      unfold okOf at h
      unfold Sm.ofk at h3
      apply hk
      refine ⟨h.1, h.2.1, ?_⟩
      split at h3
      · unfold Sm.R at h3; simp only at h3; omega
      · split at h3
        · unfold Sm.R at h3; simp only at h3; omega
        · split at h3
          · unfold Sm.R at h3; simp only at h3; omega
          · unfold Sm.R at h3; simp only at h3; omega
    rw [decide_eq_false hno, show Sm.of_ k d = Sm.zero from if_neg hno]
    exact refOf_no k d (by omega) w
  obtain ⟨hk1, hk2, hd1, hd2⟩ := hk
  obtain ⟨e1, e2⟩ := of_orz (d := d) hk1 hk2
  rw [e1, e2]
  by_cases h7 : k = 7
  · subst h7
    rw [show Sm.ofk 7 d = ⟨d - 1, d, d - 1, 0, 0, 0, 0⟩ from rfl]
    exact refOf_7 d _ (by omega) (by omega) (IntWalk.i64_in (d - 1) (by omega)) w
  by_cases h8 : k = 8
  · subst h8
    rw [show Sm.ofk 8 d = ⟨d + 1, d, d, 0, 0, 0, 0⟩ from rfl]
    exact refOf_8 d _ (by omega) (by omega) (IntWalk.i64_in (d + 1) (by omega)) w
  by_cases h9 : k = 9
  · subst h9
    rw [show Sm.ofk 9 d = ⟨d, d, d, 1, 0, 0, 0⟩ from rfl]
    exact refOf_9 d (by omega) (by omega) w
  rw [show Sm.ofk k d = ⟨d, d, d, 0, 0, 0, 0⟩ by unfold Sm.ofk; rw [if_neg h7, if_neg h8, if_neg h9]]
  exact refOf_x k d (by omega) (by omega) (by simpa using h7) (by simpa using h8) (by simpa using h9) (by omega) (by omega) w
end

section
open Go.ChangeShapes Go.WideShapes Go.ChangeAt Go.RowKit Go.BigFrame
set_option maxRecDepth 100000
set_option maxHeartbeats 1000000 in
theorem then_A (a b : Sm) (w : World) (h : ¬ a.R) : Calls Tryz.prog 29 #[a.v, b.v] w fun e w' => e = .returned (.tuple #[(a.th b).v, .bool (a.thB b)]) ∧ Below w.heap.size w w' := by
  obtain ⟨q1, q2⟩ := Sm.th_no (a := a) (b := b) (fun g => h g.1)
  rw [q1, q2]; clear q1 q2
  have h3 := Tri2.made w 44 a b
  have hbw := below_alloc3 w (.cells #[.int .i64 a.fr, .int .i64 a.to, .int .i64 a.kp, .int .i64 a.ad, .int .i64 a.t0, .int .i64 a.t1, .int .i64 a.t2] 44) (.cells #[.int .i64 b.fr, .int .i64 b.to, .int .i64 b.kp, .int .i64 b.ad, .int .i64 b.t0, .int .i64 b.t1, .int .i64 b.t2] 44) (.cells #[.int .i64 0, .int .i64 0, .int .i64 0, .int .i64 0, .int .i64 0, .int .i64 0, .int .i64 0] 44)
  have H3 := Lib.hid h3; have HB := Lib.hid hbw; clear h3 hbw
  have r1 := fun w => rightM_false h w
  have R1 := Lib.hid r1; clear r1
  clear h
  unfold Sm.v at *
  go_enter Tryz.func29, Tryz.ntmps29
  go_wp2_with fail
  refine (R1.out _).mono ?_; rintro e w2 ⟨rfl, hb2⟩
  have k3 := H3.out.below hb2
  have kb := HB.out.trans (hb2.mono HB.out.size); clear H3 HB
  have H3 := Lib.hid k3; have HB := Lib.hid kb; clear k3 kb hb2
  obtain ⟨f0, f1, f2, f3, f4, f5, f6⟩ := H3.out.2.2.free7
  obtain ⟨z0, z1, z2, z3, z4, z5, z6⟩ := H3.out.2.2.cells7
  go_wp2_with fail
  refine bodyPost_ret (v := .tuple #[.agg #[.int .i64 0, .int .i64 0, .int .i64 0, .int .i64 0, .int .i64 0, .int .i64 0, .int .i64 0], .bool false]) (two_results rfl _ _ _ 44 _ (0, 0) _ rfl (row_set7 H3.out.2.2) Tryz.underlying44 rfl (by kernel_rfl) rfl) rfl ?_
  exact ⟨rfl, below_set7 HB.out (by omega)⟩
set_option maxHeartbeats 1000000 in
theorem then_B (a b : Sm) (w : World) (h : a.R) (h2 : ¬ b.R) : Calls Tryz.prog 29 #[a.v, b.v] w fun e w' => e = .returned (.tuple #[(a.th b).v, .bool (a.thB b)]) ∧ Below w.heap.size w w' := by
  obtain ⟨q1, q2⟩ := Sm.th_no (a := a) (b := b) (fun g => h2 g.2.1)
  rw [q1, q2]; clear q1 q2
  have h3 := Tri2.made w 44 a b
  have hbw := below_alloc3 w (.cells #[.int .i64 a.fr, .int .i64 a.to, .int .i64 a.kp, .int .i64 a.ad, .int .i64 a.t0, .int .i64 a.t1, .int .i64 a.t2] 44) (.cells #[.int .i64 b.fr, .int .i64 b.to, .int .i64 b.kp, .int .i64 b.ad, .int .i64 b.t0, .int .i64 b.t1, .int .i64 b.t2] 44) (.cells #[.int .i64 0, .int .i64 0, .int .i64 0, .int .i64 0, .int .i64 0, .int .i64 0, .int .i64 0] 44)
  have H3 := Lib.hid h3; have HB := Lib.hid hbw; clear h3 hbw
  have r1 := fun w => rightM_true h w
  have r2 := fun w => rightM_false h2 w
  have R1 := Lib.hid r1; have R2 := Lib.hid r2; clear r1 r2
  clear h h2
  unfold Sm.v at *
  go_enter Tryz.func29, Tryz.ntmps29
  go_wp2_with fail
  refine (R1.out _).mono ?_; rintro e w2 ⟨rfl, hb2⟩
  have k3 := H3.out.below hb2
  have kb := HB.out.trans (hb2.mono HB.out.size); clear H3 HB
  have H3 := Lib.hid k3; have HB := Lib.hid kb; clear k3 kb hb2
  obtain ⟨a0, a1, a2, a3, a4, a5, a6⟩ := H3.out.1.cells7
  obtain ⟨b0, b1, b2, b3, b4, b5, b6⟩ := H3.out.2.1.cells7
  go_wp2_with fail
  clear a0 a1 a2 a3 a4 a5 a6 b0 b1 b2 b3 b4 b5 b6
  refine (R2.out _).mono ?_; rintro e w3 ⟨rfl, hb3⟩
  have k3 := H3.out.below hb3
  have kb := HB.out.trans (hb3.mono HB.out.size); clear H3 HB
  have H3 := Lib.hid k3; have HB := Lib.hid kb; clear k3 kb hb3
  obtain ⟨f0, f1, f2, f3, f4, f5, f6⟩ := H3.out.2.2.free7
  obtain ⟨z0, z1, z2, z3, z4, z5, z6⟩ := H3.out.2.2.cells7
  go_wp2_with fail
  refine bodyPost_ret (v := .tuple #[.agg #[.int .i64 0, .int .i64 0, .int .i64 0, .int .i64 0, .int .i64 0, .int .i64 0, .int .i64 0], .bool false]) (two_results rfl _ _ _ 44 _ (0, 0) _ rfl (row_set7 H3.out.2.2) Tryz.underlying44 rfl (by kernel_rfl) rfl) rfl ?_
  exact ⟨rfl, below_set7 HB.out (by omega)⟩
set_option maxHeartbeats 1000000 in
theorem then_C (a b : Sm) (w : World) (h : a.R) (h2 : b.R) (hd : ¬ a.to = b.fr) : Calls Tryz.prog 29 #[a.v, b.v] w fun e w' => e = .returned (.tuple #[(a.th b).v, .bool (a.thB b)]) ∧ Below w.heap.size w w' := by
  obtain ⟨q1, q2⟩ := Sm.th_no (a := a) (b := b) (fun g => hd g.2.2.1)
  rw [q1, q2]; clear q1 q2
  have h3 := Tri2.made w 44 a b
  have hbw := below_alloc3 w (.cells #[.int .i64 a.fr, .int .i64 a.to, .int .i64 a.kp, .int .i64 a.ad, .int .i64 a.t0, .int .i64 a.t1, .int .i64 a.t2] 44) (.cells #[.int .i64 b.fr, .int .i64 b.to, .int .i64 b.kp, .int .i64 b.ad, .int .i64 b.t0, .int .i64 b.t1, .int .i64 b.t2] 44) (.cells #[.int .i64 0, .int .i64 0, .int .i64 0, .int .i64 0, .int .i64 0, .int .i64 0, .int .i64 0] 44)
  have H3 := Lib.hid h3; have HB := Lib.hid hbw; clear h3 hbw
  have r1 := fun w => rightM_true h w
  have r2 := fun w => rightM_true h2 w
  have hn : (a.to != b.fr) = true := by simpa using hd
  have R1 := Lib.hid r1; have R2 := Lib.hid r2; clear r1 r2
  clear h h2 hd
  unfold Sm.v at *
  go_enter Tryz.func29, Tryz.ntmps29
  go_wp2_with fail
  refine (R1.out _).mono ?_; rintro e w2 ⟨rfl, hb2⟩
  have k3 := H3.out.below hb2
  have kb := HB.out.trans (hb2.mono HB.out.size); clear H3 HB
  have H3 := Lib.hid k3; have HB := Lib.hid kb; clear k3 kb hb2
  obtain ⟨a0, a1, a2, a3, a4, a5, a6⟩ := H3.out.1.cells7
  obtain ⟨b0, b1, b2, b3, b4, b5, b6⟩ := H3.out.2.1.cells7
  go_wp2_with fail
  clear a0 a1 a2 a3 a4 a5 a6 b0 b1 b2 b3 b4 b5 b6
  refine (R2.out _).mono ?_; rintro e w3 ⟨rfl, hb3⟩
  have k3 := H3.out.below hb3
  have kb := HB.out.trans (hb3.mono HB.out.size); clear H3 HB
  have H3 := Lib.hid k3; have HB := Lib.hid kb; clear k3 kb hb3
  obtain ⟨a0, a1, a2, a3, a4, a5, a6⟩ := H3.out.1.cells7
  obtain ⟨b0, b1, b2, b3, b4, b5, b6⟩ := H3.out.2.1.cells7
  obtain ⟨f0, f1, f2, f3, f4, f5, f6⟩ := H3.out.2.2.free7
  obtain ⟨z0, z1, z2, z3, z4, z5, z6⟩ := H3.out.2.2.cells7
  go_wp2_with fail
  refine bodyPost_ret (v := .tuple #[.agg #[.int .i64 0, .int .i64 0, .int .i64 0, .int .i64 0, .int .i64 0, .int .i64 0, .int .i64 0], .bool false]) (two_results rfl _ _ _ 44 _ (0, 0) _ rfl (row_set7 H3.out.2.2) Tryz.underlying44 rfl (by kernel_rfl) rfl) rfl ?_
  exact ⟨rfl, below_set7 HB.out (by omega)⟩
set_option maxHeartbeats 1000000 in
theorem refThen_A (a b : Sm) (w : World) (h : ¬ a.R) : Calls Tryz.prog 92 #[a.v, b.v] w fun e w' => e = .returned (.tuple #[(a.th b).v, .bool (a.thB b)]) ∧ Below w.heap.size w w' := by
  obtain ⟨q1, q2⟩ := Sm.th_no (a := a) (b := b) (fun g => h g.1)
  rw [q1, q2]; clear q1 q2
  have h3 := Tri2.made w 78 a b
  have hbw := below_alloc3 w (.cells #[.int .i64 a.fr, .int .i64 a.to, .int .i64 a.kp, .int .i64 a.ad, .int .i64 a.t0, .int .i64 a.t1, .int .i64 a.t2] 78) (.cells #[.int .i64 b.fr, .int .i64 b.to, .int .i64 b.kp, .int .i64 b.ad, .int .i64 b.t0, .int .i64 b.t1, .int .i64 b.t2] 78) (.cells #[.int .i64 0, .int .i64 0, .int .i64 0, .int .i64 0, .int .i64 0, .int .i64 0, .int .i64 0] 78)
  have H3 := Lib.hid h3; have HB := Lib.hid hbw; clear h3 hbw
  have r1 := fun w => refRightM_false h w
  have R1 := Lib.hid r1; clear r1
  clear h
  unfold Sm.v at *
  go_enter Tryz.func92, Tryz.ntmps92
  go_wp2_with fail
  refine (R1.out _).mono ?_; rintro e w2 ⟨rfl, hb2⟩
  have k3 := H3.out.below hb2
  have kb := HB.out.trans (hb2.mono HB.out.size); clear H3 HB
  have H3 := Lib.hid k3; have HB := Lib.hid kb; clear k3 kb hb2
  obtain ⟨f0, f1, f2, f3, f4, f5, f6⟩ := H3.out.2.2.free7
  obtain ⟨z0, z1, z2, z3, z4, z5, z6⟩ := H3.out.2.2.cells7
  go_wp2_with fail
  refine bodyPost_ret (v := .tuple #[.agg #[.int .i64 0, .int .i64 0, .int .i64 0, .int .i64 0, .int .i64 0, .int .i64 0, .int .i64 0], .bool false]) (two_results rfl _ _ _ 78 _ (0, 0) _ rfl (row_set7 H3.out.2.2) Tryz.underlying78 rfl (by kernel_rfl) rfl) rfl ?_
  exact ⟨rfl, below_set7 HB.out (by omega)⟩
set_option maxHeartbeats 1000000 in
theorem refThen_B (a b : Sm) (w : World) (h : a.R) (h2 : ¬ b.R) : Calls Tryz.prog 92 #[a.v, b.v] w fun e w' => e = .returned (.tuple #[(a.th b).v, .bool (a.thB b)]) ∧ Below w.heap.size w w' := by
  obtain ⟨q1, q2⟩ := Sm.th_no (a := a) (b := b) (fun g => h2 g.2.1)
  rw [q1, q2]; clear q1 q2
  have h3 := Tri2.made w 78 a b
  have hbw := below_alloc3 w (.cells #[.int .i64 a.fr, .int .i64 a.to, .int .i64 a.kp, .int .i64 a.ad, .int .i64 a.t0, .int .i64 a.t1, .int .i64 a.t2] 78) (.cells #[.int .i64 b.fr, .int .i64 b.to, .int .i64 b.kp, .int .i64 b.ad, .int .i64 b.t0, .int .i64 b.t1, .int .i64 b.t2] 78) (.cells #[.int .i64 0, .int .i64 0, .int .i64 0, .int .i64 0, .int .i64 0, .int .i64 0, .int .i64 0] 78)
  have H3 := Lib.hid h3; have HB := Lib.hid hbw; clear h3 hbw
  have r1 := fun w => refRightM_true h w
  have r2 := fun w => refRightM_false h2 w
  have R1 := Lib.hid r1; have R2 := Lib.hid r2; clear r1 r2
  clear h h2
  unfold Sm.v at *
  go_enter Tryz.func92, Tryz.ntmps92
  go_wp2_with fail
  refine (R1.out _).mono ?_; rintro e w2 ⟨rfl, hb2⟩
  have k3 := H3.out.below hb2
  have kb := HB.out.trans (hb2.mono HB.out.size); clear H3 HB
  have H3 := Lib.hid k3; have HB := Lib.hid kb; clear k3 kb hb2
  obtain ⟨a0, a1, a2, a3, a4, a5, a6⟩ := H3.out.1.cells7
  obtain ⟨b0, b1, b2, b3, b4, b5, b6⟩ := H3.out.2.1.cells7
  go_wp2_with fail
  clear a0 a1 a2 a3 a4 a5 a6 b0 b1 b2 b3 b4 b5 b6
  refine (R2.out _).mono ?_; rintro e w3 ⟨rfl, hb3⟩
  have k3 := H3.out.below hb3
  have kb := HB.out.trans (hb3.mono HB.out.size); clear H3 HB
  have H3 := Lib.hid k3; have HB := Lib.hid kb; clear k3 kb hb3
  obtain ⟨f0, f1, f2, f3, f4, f5, f6⟩ := H3.out.2.2.free7
  obtain ⟨z0, z1, z2, z3, z4, z5, z6⟩ := H3.out.2.2.cells7
  go_wp2_with fail
  refine bodyPost_ret (v := .tuple #[.agg #[.int .i64 0, .int .i64 0, .int .i64 0, .int .i64 0, .int .i64 0, .int .i64 0, .int .i64 0], .bool false]) (two_results rfl _ _ _ 78 _ (0, 0) _ rfl (row_set7 H3.out.2.2) Tryz.underlying78 rfl (by kernel_rfl) rfl) rfl ?_
  exact ⟨rfl, below_set7 HB.out (by omega)⟩
set_option maxHeartbeats 1000000 in
theorem refThen_C (a b : Sm) (w : World) (h : a.R) (h2 : b.R) (hd : ¬ a.to = b.fr) : Calls Tryz.prog 92 #[a.v, b.v] w fun e w' => e = .returned (.tuple #[(a.th b).v, .bool (a.thB b)]) ∧ Below w.heap.size w w' := by
  obtain ⟨q1, q2⟩ := Sm.th_no (a := a) (b := b) (fun g => hd g.2.2.1)
  rw [q1, q2]; clear q1 q2
  have h3 := Tri2.made w 78 a b
  have hbw := below_alloc3 w (.cells #[.int .i64 a.fr, .int .i64 a.to, .int .i64 a.kp, .int .i64 a.ad, .int .i64 a.t0, .int .i64 a.t1, .int .i64 a.t2] 78) (.cells #[.int .i64 b.fr, .int .i64 b.to, .int .i64 b.kp, .int .i64 b.ad, .int .i64 b.t0, .int .i64 b.t1, .int .i64 b.t2] 78) (.cells #[.int .i64 0, .int .i64 0, .int .i64 0, .int .i64 0, .int .i64 0, .int .i64 0, .int .i64 0] 78)
  have H3 := Lib.hid h3; have HB := Lib.hid hbw; clear h3 hbw
  have r1 := fun w => refRightM_true h w
  have r2 := fun w => refRightM_true h2 w
  have hn : (a.to != b.fr) = true := by simpa using hd
  have R1 := Lib.hid r1; have R2 := Lib.hid r2; clear r1 r2
  clear h h2 hd
  unfold Sm.v at *
  go_enter Tryz.func92, Tryz.ntmps92
  go_wp2_with fail
  refine (R1.out _).mono ?_; rintro e w2 ⟨rfl, hb2⟩
  have k3 := H3.out.below hb2
  have kb := HB.out.trans (hb2.mono HB.out.size); clear H3 HB
  have H3 := Lib.hid k3; have HB := Lib.hid kb; clear k3 kb hb2
  obtain ⟨a0, a1, a2, a3, a4, a5, a6⟩ := H3.out.1.cells7
  obtain ⟨b0, b1, b2, b3, b4, b5, b6⟩ := H3.out.2.1.cells7
  go_wp2_with fail
  clear a0 a1 a2 a3 a4 a5 a6 b0 b1 b2 b3 b4 b5 b6
  refine (R2.out _).mono ?_; rintro e w3 ⟨rfl, hb3⟩
  have k3 := H3.out.below hb3
  have kb := HB.out.trans (hb3.mono HB.out.size); clear H3 HB
  have H3 := Lib.hid k3; have HB := Lib.hid kb; clear k3 kb hb3
  obtain ⟨a0, a1, a2, a3, a4, a5, a6⟩ := H3.out.1.cells7
  obtain ⟨b0, b1, b2, b3, b4, b5, b6⟩ := H3.out.2.1.cells7
  obtain ⟨f0, f1, f2, f3, f4, f5, f6⟩ := H3.out.2.2.free7
  obtain ⟨z0, z1, z2, z3, z4, z5, z6⟩ := H3.out.2.2.cells7
  go_wp2_with fail
  refine bodyPost_ret (v := .tuple #[.agg #[.int .i64 0, .int .i64 0, .int .i64 0, .int .i64 0, .int .i64 0, .int .i64 0, .int .i64 0], .bool false]) (two_results rfl _ _ _ 78 _ (0, 0) _ rfl (row_set7 H3.out.2.2) Tryz.underlying78 rfl (by kernel_rfl) rfl) rfl ?_
  exact ⟨rfl, below_set7 HB.out (by omega)⟩
end
end Go.Proofs.YtcdofkhkckodjaaGreatDoor
