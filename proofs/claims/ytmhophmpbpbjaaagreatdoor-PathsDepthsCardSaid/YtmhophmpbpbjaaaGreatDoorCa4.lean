/- SmOf, SmThM, SmLeqN, SmLeq, StRefYes -/
import Derived.Test.YtmhophmpbpbjaaaGreatDoorCa2
import Derived.Test.YtmhophmpbpbjaaaGreatDoorCa3
namespace Go.Proofs.YtmhophmpbpbjaaaGreatDoor
set_option linter.unusedVariables false
section
open Go.ChangeShapes Go.WideShapes Go.ChangeAt Go.RowKit Go.BigFrame
set_option maxRecDepth 100000
def Sm.ofk (k d : Int) : Sm := if k = 7 then ⟨d - 1, d, d - 1, 0, 0, 0, 0⟩ else if k = 8 then ⟨d + 1, d, d, 0, 0, 0, 0⟩ else if k = 9 then ⟨d, d, d, 1, 0, 0, 0⟩ else ⟨d, d, d, 0, 0, 0, 0⟩
def okOf (k d : Int) : Prop := 1 ≤ k ∧ k ≤ 10 ∧ (Sm.ofk k d).R
instance (k d : Int) : Decidable (okOf k d) := inferInstanceAs (Decidable (_ ∧ _))
def Sm.of_ (k d : Int) : Sm := if okOf k d then Sm.ofk k d else Sm.zero
theorem row_set7 {w : World} {b : Nat} {t : TypeId} {a1 a2 a3 a4 a5 a6 a7 b1 b2 b3 b4 b5 b6 b7 : Value} (h : Row w b t [a1, a2, a3, a4, a5, a6, a7]) :
    Row (((((((w.setCell ⟨b, 0, none⟩ b1).setCell ⟨b, 1, none⟩ b2).setCell ⟨b, 2, none⟩ b3).setCell ⟨b, 3, none⟩ b4).setCell ⟨b, 4, none⟩ b5).setCell ⟨b, 5, none⟩ b6).setCell ⟨b, 6, none⟩ b7) b t [b1, b2, b3, b4, b5, b6, b7] :=
  ((((((h.put 0 b1).put 1 b2).put 2 b3).put 3 b4).put 4 b5).put 5 b6).put 6 b7
theorem below_set7 {w w' : World} {B g : Nat} {b1 b2 b3 b4 b5 b6 b7 : Value} (h : Below B w w') (hg : B ≤ g) :
    Below B w (((((((w'.setCell ⟨g, 0, none⟩ b1).setCell ⟨g, 1, none⟩ b2).setCell ⟨g, 2, none⟩ b3).setCell ⟨g, 3, none⟩ b4).setCell ⟨g, 4, none⟩ b5).setCell ⟨g, 5, none⟩ b6).setCell ⟨g, 6, none⟩ b7) :=
  ((((((h.setCell hg _).setCell hg _).setCell hg _).setCell hg _).setCell hg _).setCell hg _).setCell hg _
theorem made2r (w : World) (o : Obj) (t : TypeId) (l : List Value) : Row ((w.alloc o).alloc (.cells l.toArray t)) (w.heap.size + 1) t l := smMade2 w o _
theorem below_alloc2 (w : World) (o o' : Obj) : Below w.heap.size w ((w.alloc o).alloc o') := ((Below.refl _ _).alloc (Nat.le_refl _) _).alloc (by simp) _
def Sm.orz (s : Sm) (b : Bool) : Sm := if b then s else Sm.zero
set_option maxHeartbeats 2000000 in
theorem of_7 (d p : Int) (hp : IntKind.i64.wrap (d - 1) = p) (w : World) : Calls Tryz.prog 28 #[.int .u8 7, .int .i64 d] w fun e w' => e = .returned (.tuple #[(Sm.orz (⟨p, d, p, 0, 0, 0, 0⟩ : Sm) (decide (Sm.R (⟨p, d, p, 0, 0, 0, 0⟩ : Sm)))).v, .bool (decide (Sm.R (⟨p, d, p, 0, 0, 0, 0⟩ : Sm)))]) ∧ Below w.heap.size w w' := by
  have hr := fun w => rightM_any (⟨p, d, p, 0, 0, 0, 0⟩ : Sm) w
  have h1 : HoldsM ((w.alloc (.cells #[.int .i64 0, .int .i64 0, .int .i64 0, .int .i64 0, .int .i64 0, .int .i64 0, .int .i64 0] 44)).alloc (.cells #[.int .i64 ((⟨p, d, p, 0, 0, 0, 0⟩ : Sm)).fr, .int .i64 ((⟨p, d, p, 0, 0, 0, 0⟩ : Sm)).to, .int .i64 ((⟨p, d, p, 0, 0, 0, 0⟩ : Sm)).kp, .int .i64 ((⟨p, d, p, 0, 0, 0, 0⟩ : Sm)).ad, .int .i64 ((⟨p, d, p, 0, 0, 0, 0⟩ : Sm)).t0, .int .i64 ((⟨p, d, p, 0, 0, 0, 0⟩ : Sm)).t1, .int .i64 ((⟨p, d, p, 0, 0, 0, 0⟩ : Sm)).t2] 44)) (w.heap.size + 1) 44 (⟨p, d, p, 0, 0, 0, 0⟩ : Sm) := made2r w _ _ _
  have h0 : HoldsM ((w.alloc (.cells #[.int .i64 0, .int .i64 0, .int .i64 0, .int .i64 0, .int .i64 0, .int .i64 0, .int .i64 0] 44)).alloc (.cells #[.int .i64 ((⟨p, d, p, 0, 0, 0, 0⟩ : Sm)).fr, .int .i64 ((⟨p, d, p, 0, 0, 0, 0⟩ : Sm)).to, .int .i64 ((⟨p, d, p, 0, 0, 0, 0⟩ : Sm)).kp, .int .i64 ((⟨p, d, p, 0, 0, 0, 0⟩ : Sm)).ad, .int .i64 ((⟨p, d, p, 0, 0, 0, 0⟩ : Sm)).t0, .int .i64 ((⟨p, d, p, 0, 0, 0, 0⟩ : Sm)).t1, .int .i64 ((⟨p, d, p, 0, 0, 0, 0⟩ : Sm)).t2] 44)) w.heap.size 44 Sm.zero := Row.alloc (Row.made w _ _) _
  simp only at h1 h0
  unfold Sm.v at hr
  generalize hb : decide (Sm.R (⟨p, d, p, 0, 0, 0, 0⟩ : Sm)) = bb at *
  clear hb
  have HR := Lib.hid hr; have H1 := Lib.hid h1; have H0 := Lib.hid h0; clear hr h1 h0
  unfold Sm.orz
  go_enter Tryz.func28, Tryz.ntmps28
  go_wp2_with fail
  refine (HR.out _).mono ?_; rintro e w2 ⟨rfl, hb2⟩
  have h1 : HoldsM w2 (w.heap.size + 1) 44 (⟨p, d, p, 0, 0, 0, 0⟩ : Sm) := Row.below H1.out hb2 (by simp)
  have h0 : HoldsM w2 w.heap.size 44 Sm.zero := Row.below H0.out hb2 (by simp; omega)
  obtain ⟨c0, c1, c2, c3, c4, c5, c6⟩ := h1.cells7
  obtain ⟨f0, f1, f2, f3, f4, f5, f6⟩ := h0.free7
  obtain ⟨z0, z1, z2, z3, z4, z5, z6⟩ := h0.cells7
  have HB := Lib.hid ((below_alloc2 w _ _).trans (hb2.mono (by simp; omega)))
  have HZ := Lib.hid h0
  clear hb2 h1 h0
  simp only at c0 c1 c2 c3 c4 c5 c6
  cases bb with
  | true =>
    go_wp2_with fail
    refine bodyPost_ret (v := .tuple #[Sm.v (⟨p, d, p, 0, 0, 0, 0⟩ : Sm), .bool true]) (two_results rfl _ _ _ 44 _ (0, 0) _ rfl (row_set7 HZ.out) Tryz.underlying44 rfl (by kernel_rfl) rfl) rfl ?_
    exact ⟨rfl, below_set7 HB.out (Nat.le_refl _)⟩
  | false =>
    go_wp2_with fail
    refine bodyPost_ret (v := .tuple #[Sm.v Sm.zero, .bool false]) (two_results rfl _ _ _ 44 _ (0, 0) _ rfl (row_set7 HZ.out) Tryz.underlying44 rfl (by kernel_rfl) rfl) rfl ?_
    exact ⟨rfl, below_set7 HB.out (Nat.le_refl _)⟩
set_option maxHeartbeats 2000000 in
theorem of_8 (d p : Int) (hp : IntKind.i64.wrap (d + 1) = p) (w : World) : Calls Tryz.prog 28 #[.int .u8 8, .int .i64 d] w fun e w' => e = .returned (.tuple #[(Sm.orz (⟨p, d, d, 0, 0, 0, 0⟩ : Sm) (decide (Sm.R (⟨p, d, d, 0, 0, 0, 0⟩ : Sm)))).v, .bool (decide (Sm.R (⟨p, d, d, 0, 0, 0, 0⟩ : Sm)))]) ∧ Below w.heap.size w w' := by
  have hr := fun w => rightM_any (⟨p, d, d, 0, 0, 0, 0⟩ : Sm) w
  have h1 : HoldsM ((w.alloc (.cells #[.int .i64 0, .int .i64 0, .int .i64 0, .int .i64 0, .int .i64 0, .int .i64 0, .int .i64 0] 44)).alloc (.cells #[.int .i64 ((⟨p, d, d, 0, 0, 0, 0⟩ : Sm)).fr, .int .i64 ((⟨p, d, d, 0, 0, 0, 0⟩ : Sm)).to, .int .i64 ((⟨p, d, d, 0, 0, 0, 0⟩ : Sm)).kp, .int .i64 ((⟨p, d, d, 0, 0, 0, 0⟩ : Sm)).ad, .int .i64 ((⟨p, d, d, 0, 0, 0, 0⟩ : Sm)).t0, .int .i64 ((⟨p, d, d, 0, 0, 0, 0⟩ : Sm)).t1, .int .i64 ((⟨p, d, d, 0, 0, 0, 0⟩ : Sm)).t2] 44)) (w.heap.size + 1) 44 (⟨p, d, d, 0, 0, 0, 0⟩ : Sm) := made2r w _ _ _
  have h0 : HoldsM ((w.alloc (.cells #[.int .i64 0, .int .i64 0, .int .i64 0, .int .i64 0, .int .i64 0, .int .i64 0, .int .i64 0] 44)).alloc (.cells #[.int .i64 ((⟨p, d, d, 0, 0, 0, 0⟩ : Sm)).fr, .int .i64 ((⟨p, d, d, 0, 0, 0, 0⟩ : Sm)).to, .int .i64 ((⟨p, d, d, 0, 0, 0, 0⟩ : Sm)).kp, .int .i64 ((⟨p, d, d, 0, 0, 0, 0⟩ : Sm)).ad, .int .i64 ((⟨p, d, d, 0, 0, 0, 0⟩ : Sm)).t0, .int .i64 ((⟨p, d, d, 0, 0, 0, 0⟩ : Sm)).t1, .int .i64 ((⟨p, d, d, 0, 0, 0, 0⟩ : Sm)).t2] 44)) w.heap.size 44 Sm.zero := Row.alloc (Row.made w _ _) _
  simp only at h1 h0
  unfold Sm.v at hr
  generalize hb : decide (Sm.R (⟨p, d, d, 0, 0, 0, 0⟩ : Sm)) = bb at *
  clear hb
  have HR := Lib.hid hr; have H1 := Lib.hid h1; have H0 := Lib.hid h0; clear hr h1 h0
  unfold Sm.orz
  go_enter Tryz.func28, Tryz.ntmps28
  go_wp2_with fail
  refine (HR.out _).mono ?_; rintro e w2 ⟨rfl, hb2⟩
  have h1 : HoldsM w2 (w.heap.size + 1) 44 (⟨p, d, d, 0, 0, 0, 0⟩ : Sm) := Row.below H1.out hb2 (by simp)
  have h0 : HoldsM w2 w.heap.size 44 Sm.zero := Row.below H0.out hb2 (by simp; omega)
  obtain ⟨c0, c1, c2, c3, c4, c5, c6⟩ := h1.cells7
  obtain ⟨f0, f1, f2, f3, f4, f5, f6⟩ := h0.free7
  obtain ⟨z0, z1, z2, z3, z4, z5, z6⟩ := h0.cells7
  have HB := Lib.hid ((below_alloc2 w _ _).trans (hb2.mono (by simp; omega)))
  have HZ := Lib.hid h0
  clear hb2 h1 h0
  simp only at c0 c1 c2 c3 c4 c5 c6
  cases bb with
  | true =>
    go_wp2_with fail
    refine bodyPost_ret (v := .tuple #[Sm.v (⟨p, d, d, 0, 0, 0, 0⟩ : Sm), .bool true]) (two_results rfl _ _ _ 44 _ (0, 0) _ rfl (row_set7 HZ.out) Tryz.underlying44 rfl (by kernel_rfl) rfl) rfl ?_
    exact ⟨rfl, below_set7 HB.out (Nat.le_refl _)⟩
  | false =>
    go_wp2_with fail
    refine bodyPost_ret (v := .tuple #[Sm.v Sm.zero, .bool false]) (two_results rfl _ _ _ 44 _ (0, 0) _ rfl (row_set7 HZ.out) Tryz.underlying44 rfl (by kernel_rfl) rfl) rfl ?_
    exact ⟨rfl, below_set7 HB.out (Nat.le_refl _)⟩
set_option maxHeartbeats 2000000 in
theorem of_9 (d : Int) (w : World) : Calls Tryz.prog 28 #[.int .u8 9, .int .i64 d] w fun e w' => e = .returned (.tuple #[(Sm.orz (⟨d, d, d, 1, 0, 0, 0⟩ : Sm) (decide (Sm.R (⟨d, d, d, 1, 0, 0, 0⟩ : Sm)))).v, .bool (decide (Sm.R (⟨d, d, d, 1, 0, 0, 0⟩ : Sm)))]) ∧ Below w.heap.size w w' := by
  have hr := fun w => rightM_any (⟨d, d, d, 1, 0, 0, 0⟩ : Sm) w
  have h1 : HoldsM ((w.alloc (.cells #[.int .i64 0, .int .i64 0, .int .i64 0, .int .i64 0, .int .i64 0, .int .i64 0, .int .i64 0] 44)).alloc (.cells #[.int .i64 ((⟨d, d, d, 1, 0, 0, 0⟩ : Sm)).fr, .int .i64 ((⟨d, d, d, 1, 0, 0, 0⟩ : Sm)).to, .int .i64 ((⟨d, d, d, 1, 0, 0, 0⟩ : Sm)).kp, .int .i64 ((⟨d, d, d, 1, 0, 0, 0⟩ : Sm)).ad, .int .i64 ((⟨d, d, d, 1, 0, 0, 0⟩ : Sm)).t0, .int .i64 ((⟨d, d, d, 1, 0, 0, 0⟩ : Sm)).t1, .int .i64 ((⟨d, d, d, 1, 0, 0, 0⟩ : Sm)).t2] 44)) (w.heap.size + 1) 44 (⟨d, d, d, 1, 0, 0, 0⟩ : Sm) := made2r w _ _ _
  have h0 : HoldsM ((w.alloc (.cells #[.int .i64 0, .int .i64 0, .int .i64 0, .int .i64 0, .int .i64 0, .int .i64 0, .int .i64 0] 44)).alloc (.cells #[.int .i64 ((⟨d, d, d, 1, 0, 0, 0⟩ : Sm)).fr, .int .i64 ((⟨d, d, d, 1, 0, 0, 0⟩ : Sm)).to, .int .i64 ((⟨d, d, d, 1, 0, 0, 0⟩ : Sm)).kp, .int .i64 ((⟨d, d, d, 1, 0, 0, 0⟩ : Sm)).ad, .int .i64 ((⟨d, d, d, 1, 0, 0, 0⟩ : Sm)).t0, .int .i64 ((⟨d, d, d, 1, 0, 0, 0⟩ : Sm)).t1, .int .i64 ((⟨d, d, d, 1, 0, 0, 0⟩ : Sm)).t2] 44)) w.heap.size 44 Sm.zero := Row.alloc (Row.made w _ _) _
  simp only at h1 h0
  unfold Sm.v at hr
  generalize hb : decide (Sm.R (⟨d, d, d, 1, 0, 0, 0⟩ : Sm)) = bb at *
  clear hb
  have HR := Lib.hid hr; have H1 := Lib.hid h1; have H0 := Lib.hid h0; clear hr h1 h0
  unfold Sm.orz
  go_enter Tryz.func28, Tryz.ntmps28
  go_wp2_with fail
  refine (HR.out _).mono ?_; rintro e w2 ⟨rfl, hb2⟩
  have h1 : HoldsM w2 (w.heap.size + 1) 44 (⟨d, d, d, 1, 0, 0, 0⟩ : Sm) := Row.below H1.out hb2 (by simp)
  have h0 : HoldsM w2 w.heap.size 44 Sm.zero := Row.below H0.out hb2 (by simp; omega)
  obtain ⟨c0, c1, c2, c3, c4, c5, c6⟩ := h1.cells7
  obtain ⟨f0, f1, f2, f3, f4, f5, f6⟩ := h0.free7
  obtain ⟨z0, z1, z2, z3, z4, z5, z6⟩ := h0.cells7
  have HB := Lib.hid ((below_alloc2 w _ _).trans (hb2.mono (by simp; omega)))
  have HZ := Lib.hid h0
  clear hb2 h1 h0
  simp only at c0 c1 c2 c3 c4 c5 c6
  cases bb with
  | true =>
    go_wp2_with fail
    refine bodyPost_ret (v := .tuple #[Sm.v (⟨d, d, d, 1, 0, 0, 0⟩ : Sm), .bool true]) (two_results rfl _ _ _ 44 _ (0, 0) _ rfl (row_set7 HZ.out) Tryz.underlying44 rfl (by kernel_rfl) rfl) rfl ?_
    exact ⟨rfl, below_set7 HB.out (Nat.le_refl _)⟩
  | false =>
    go_wp2_with fail
    refine bodyPost_ret (v := .tuple #[Sm.v Sm.zero, .bool false]) (two_results rfl _ _ _ 44 _ (0, 0) _ rfl (row_set7 HZ.out) Tryz.underlying44 rfl (by kernel_rfl) rfl) rfl ?_
    exact ⟨rfl, below_set7 HB.out (Nat.le_refl _)⟩
set_option maxHeartbeats 2000000 in
theorem of_x (k d : Int) (h7 : (k == 7) = false) (h8 : (k == 8) = false) (h9 : (k == 9) = false) (h1 : ¬ k < 1) (h10 : ¬ 10 < k) (w : World) : Calls Tryz.prog 28 #[.int .u8 k, .int .i64 d] w fun e w' => e = .returned (.tuple #[(Sm.orz (⟨d, d, d, 0, 0, 0, 0⟩ : Sm) (decide (Sm.R (⟨d, d, d, 0, 0, 0, 0⟩ : Sm)))).v, .bool (decide (Sm.R (⟨d, d, d, 0, 0, 0, 0⟩ : Sm)))]) ∧ Below w.heap.size w w' := by
  have hr := fun w => rightM_any (⟨d, d, d, 0, 0, 0, 0⟩ : Sm) w
  have h1q : HoldsM ((w.alloc (.cells #[.int .i64 0, .int .i64 0, .int .i64 0, .int .i64 0, .int .i64 0, .int .i64 0, .int .i64 0] 44)).alloc (.cells #[.int .i64 ((⟨d, d, d, 0, 0, 0, 0⟩ : Sm)).fr, .int .i64 ((⟨d, d, d, 0, 0, 0, 0⟩ : Sm)).to, .int .i64 ((⟨d, d, d, 0, 0, 0, 0⟩ : Sm)).kp, .int .i64 ((⟨d, d, d, 0, 0, 0, 0⟩ : Sm)).ad, .int .i64 ((⟨d, d, d, 0, 0, 0, 0⟩ : Sm)).t0, .int .i64 ((⟨d, d, d, 0, 0, 0, 0⟩ : Sm)).t1, .int .i64 ((⟨d, d, d, 0, 0, 0, 0⟩ : Sm)).t2] 44)) (w.heap.size + 1) 44 (⟨d, d, d, 0, 0, 0, 0⟩ : Sm) := made2r w _ _ _
  have h0 : HoldsM ((w.alloc (.cells #[.int .i64 0, .int .i64 0, .int .i64 0, .int .i64 0, .int .i64 0, .int .i64 0, .int .i64 0] 44)).alloc (.cells #[.int .i64 ((⟨d, d, d, 0, 0, 0, 0⟩ : Sm)).fr, .int .i64 ((⟨d, d, d, 0, 0, 0, 0⟩ : Sm)).to, .int .i64 ((⟨d, d, d, 0, 0, 0, 0⟩ : Sm)).kp, .int .i64 ((⟨d, d, d, 0, 0, 0, 0⟩ : Sm)).ad, .int .i64 ((⟨d, d, d, 0, 0, 0, 0⟩ : Sm)).t0, .int .i64 ((⟨d, d, d, 0, 0, 0, 0⟩ : Sm)).t1, .int .i64 ((⟨d, d, d, 0, 0, 0, 0⟩ : Sm)).t2] 44)) w.heap.size 44 Sm.zero := Row.alloc (Row.made w _ _) _
  simp only at h1q h0
  unfold Sm.v at hr
  generalize hb : decide (Sm.R (⟨d, d, d, 0, 0, 0, 0⟩ : Sm)) = bb at *
  clear hb
  have HR := Lib.hid hr; have H1 := Lib.hid h1q; have H0 := Lib.hid h0; clear hr h1q h0
  unfold Sm.orz
  go_enter Tryz.func28, Tryz.ntmps28
  go_wp2_with fail
  refine (HR.out _).mono ?_; rintro e w2 ⟨rfl, hb2⟩
  have h1 : HoldsM w2 (w.heap.size + 1) 44 (⟨d, d, d, 0, 0, 0, 0⟩ : Sm) := Row.below H1.out hb2 (by simp)
  have h0 : HoldsM w2 w.heap.size 44 Sm.zero := Row.below H0.out hb2 (by simp; omega)
  obtain ⟨c0, c1, c2, c3, c4, c5, c6⟩ := h1.cells7
  obtain ⟨f0, f1, f2, f3, f4, f5, f6⟩ := h0.free7
  obtain ⟨z0, z1, z2, z3, z4, z5, z6⟩ := h0.cells7
  have HB := Lib.hid ((below_alloc2 w _ _).trans (hb2.mono (by simp; omega)))
  have HZ := Lib.hid h0
  clear hb2 h1 h0
  simp only at c0 c1 c2 c3 c4 c5 c6
  cases bb with
  | true =>
    go_wp2_with fail
    refine bodyPost_ret (v := .tuple #[Sm.v (⟨d, d, d, 0, 0, 0, 0⟩ : Sm), .bool true]) (two_results rfl _ _ _ 44 _ (0, 0) _ rfl (row_set7 HZ.out) Tryz.underlying44 rfl (by kernel_rfl) rfl) rfl ?_
    exact ⟨rfl, below_set7 HB.out (Nat.le_refl _)⟩
  | false =>
    go_wp2_with fail
    refine bodyPost_ret (v := .tuple #[Sm.v Sm.zero, .bool false]) (two_results rfl _ _ _ 44 _ (0, 0) _ rfl (row_set7 HZ.out) Tryz.underlying44 rfl (by kernel_rfl) rfl) rfl ?_
    exact ⟨rfl, below_set7 HB.out (Nat.le_refl _)⟩
set_option maxHeartbeats 2000000 in
theorem of_no (k d : Int) (h7 : (k == 7) = false) (h8 : (k == 8) = false) (h9 : (k == 9) = false) (hk : k < 1 ∨ 10 < k) (w : World) : Calls Tryz.prog 28 #[.int .u8 k, .int .i64 d] w fun e w' => e = .returned (.tuple #[Sm.zero.v, .bool false]) ∧ Below w.heap.size w w' := by
  have h0 : HoldsM ((w.alloc (.cells #[.int .i64 0, .int .i64 0, .int .i64 0, .int .i64 0, .int .i64 0, .int .i64 0, .int .i64 0] 44)).alloc (.cells #[.int .i64 d, .int .i64 d, .int .i64 d, .int .i64 0, .int .i64 0, .int .i64 0, .int .i64 0] 44)) w.heap.size 44 Sm.zero := Row.alloc (Row.made w _ _) _
  have H0 := Lib.hid h0; clear h0
  by_cases h1 : k < 1
  · clear hk
    go_enter Tryz.func28, Tryz.ntmps28
    go_wp2_with fail
    refine bodyPost_ret (v := .tuple #[Sm.v Sm.zero, .bool false]) (two_results rfl _ _ _ 44 _ (0, 0) _ rfl H0.out Tryz.underlying44 rfl (by kernel_rfl) rfl) rfl ?_
    exact ⟨rfl, below_alloc2 w _ _⟩
  · have h10 : 10 < k := hk.resolve_left h1
    clear hk
    go_enter Tryz.func28, Tryz.ntmps28
    go_wp2_with fail
    refine bodyPost_ret (v := .tuple #[Sm.v Sm.zero, .bool false]) (two_results rfl _ _ _ 44 _ (0, 0) _ rfl H0.out Tryz.underlying44 rfl (by kernel_rfl) rfl) rfl ?_
    exact ⟨rfl, below_alloc2 w _ _⟩
theorem orz_no {s : Sm} (h : ¬ s.R) : s.orz (decide s.R) = Sm.zero ∧ decide s.R = false := by
  have : decide s.R = false := decide_eq_false h
  rw [this]; exact ⟨rfl, rfl⟩
theorem orz_same {s t : Sm} (h : s = t ∨ (¬ s.R ∧ ¬ t.R)) : s.orz (decide s.R) = t.orz (decide t.R) ∧ decide s.R = decide t.R := by
  rcases h with rfl | ⟨h1, h2⟩
  · exact ⟨rfl, rfl⟩
  · obtain ⟨a1, a2⟩ := orz_no h1; obtain ⟨b1, b2⟩ := orz_no h2
    exact ⟨a1.trans b1.symm, a2.trans b2.symm⟩
theorem of_orz {k d : Int} (h1 : 1 ≤ k) (h2 : k ≤ 10) : Sm.of_ k d = (Sm.ofk k d).orz (decide (Sm.ofk k d).R) ∧ decide (okOf k d) = decide (Sm.ofk k d).R := by
  have : decide (okOf k d) = decide (Sm.ofk k d).R := decide_eq_decide.2 ⟨fun h => h.2.2, fun h => ⟨h1, h2, h⟩⟩
  refine ⟨?_, this⟩
  unfold Sm.of_ Sm.orz
  by_cases h : okOf k d
  · rw [if_pos h, if_pos (by simpa using h.2.2)]
  · rw [if_neg h, if_neg (by simpa using fun h3 => h ⟨h1, h2, h3⟩)]
theorem of_any (k d : Int) (w : World) : Calls Tryz.prog 28 #[.int .u8 k, .int .i64 d] w fun e w' => e = .returned (.tuple #[(Sm.of_ k d).v, .bool (decide (okOf k d))]) ∧ Below w.heap.size w w' := by
  by_cases h7 : k = 7
  · subst h7
    obtain ⟨e1, e2⟩ := of_orz (k := 7) (d := d) (by omega) (by omega)
    rw [e1, e2, show Sm.ofk 7 d = ⟨d - 1, d, d - 1, 0, 0, 0, 0⟩ from rfl]
    obtain ⟨p, hp⟩ : ∃ p, IntKind.i64.wrap (d - 1) = p := ⟨_, rfl⟩
    have hs : (⟨p, d, p, 0, 0, 0, 0⟩ : Sm) = ⟨d - 1, d, d - 1, 0, 0, 0, 0⟩ ∨ (¬ Sm.R ⟨p, d, p, 0, 0, 0, 0⟩ ∧ ¬ Sm.R ⟨d - 1, d, d - 1, 0, 0, 0, 0⟩) := by
      by_cases hd : 0 ≤ d ∧ d ≤ 3
      · left
        have := IntWalk.i64_in (d - 1) (by omega)
        rw [hp] at this; rw [this]
      · right; unfold Sm.R; simp only; omega
    obtain ⟨g1, g2⟩ := orz_same hs
    rw [← g1, ← g2]
    exact of_7 d p hp w
  by_cases h8 : k = 8
  · subst h8
    obtain ⟨e1, e2⟩ := of_orz (k := 8) (d := d) (by omega) (by omega)
    rw [e1, e2, show Sm.ofk 8 d = ⟨d + 1, d, d, 0, 0, 0, 0⟩ from rfl]
    obtain ⟨p, hp⟩ : ∃ p, IntKind.i64.wrap (d + 1) = p := ⟨_, rfl⟩
    have hs : (⟨p, d, d, 0, 0, 0, 0⟩ : Sm) = ⟨d + 1, d, d, 0, 0, 0, 0⟩ ∨ (¬ Sm.R ⟨p, d, d, 0, 0, 0, 0⟩ ∧ ¬ Sm.R ⟨d + 1, d, d, 0, 0, 0, 0⟩) := by
      by_cases hd : 0 ≤ d ∧ d ≤ 3
      · left
        have := IntWalk.i64_in (d + 1) (by omega)
        rw [hp] at this; rw [this]
      · right; unfold Sm.R; simp only; omega
    obtain ⟨g1, g2⟩ := orz_same hs
    rw [← g1, ← g2]
    exact of_8 d p hp w
  by_cases h9 : k = 9
  · subst h9
    obtain ⟨e1, e2⟩ := of_orz (k := 9) (d := d) (by omega) (by omega)
    rw [e1, e2, show Sm.ofk 9 d = ⟨d, d, d, 1, 0, 0, 0⟩ from rfl]
    exact of_9 d w
  have b7 : (k == 7) = false := by simpa using h7
  have b8 : (k == 8) = false := by simpa using h8
  have b9 : (k == 9) = false := by simpa using h9
  by_cases hk : 1 ≤ k ∧ k ≤ 10
  · obtain ⟨e1, e2⟩ := of_orz (d := d) hk.1 hk.2
    rw [e1, e2, show Sm.ofk k d = ⟨d, d, d, 0, 0, 0, 0⟩ by unfold Sm.ofk; rw [if_neg h7, if_neg h8, if_neg h9]]
    exact of_x k d b7 b8 b9 (by omega) (by omega) w
  · have hno : ¬ okOf k d := fun h => hk ⟨h.1, h.2.1⟩
    rw [decide_eq_false hno, show Sm.of_ k d = Sm.zero from if_neg hno]
    exact of_no k d b7 b8 b9 (by omega) w
end

section
open Go.ChangeShapes Go.WideShapes Go.ChangeAt Go.RowKit Go.BigFrame
set_option maxRecDepth 100000
def Sm.th (a b : Sm) : Sm := if a.thenOk b then a.seq b else Sm.zero
def Sm.thB (a b : Sm) : Bool := decide (a.thenOk b)
section
variable {a b : Sm}
theorem Sm.th_no (h : ¬ a.thenOk b) : a.th b = Sm.zero ∧ a.thB b = false := ⟨if_neg h, decide_eq_false h⟩
theorem Sm.th_yes (h : a.thenOk b) : a.th b = a.seq b ∧ a.thB b = true := ⟨if_pos h, decide_eq_true h⟩
theorem Sm.seq_ok (ha : a.R) (hb : b.R) (ht : a.to = b.fr) : (a.seq b).R ↔ a.thenOk b := by
  constructor
  · intro h
    refine ⟨ha, hb, ht, ?_, ?_, ?_⟩
    · rw [← Sm.seq_N ha hb ht (i := 0) (by omega) (by omega)]; exact (Sm.N_R h 0).2
    · rw [← Sm.seq_N ha hb ht (i := 1) (by omega) (by omega)]; exact (Sm.N_R h 1).2
    · rw [← Sm.seq_N ha hb ht (i := 2) (by omega) (by omega)]; exact (Sm.N_R h 2).2
  · exact Sm.seq_R
theorem Sm.al_zero (i : Int) : a.al i 0 = if i < a.to then a.N i else 0 := by
  unfold Sm.al
  by_cases h : i < a.to
  · rw [if_pos h, if_pos h, Sm.cn_N]; split <;> omega
  · rw [if_neg h, if_neg h]
theorem Sm.al_al (ha : a.R) (hb : b.R) (ht : a.to = b.fr) (i : Int) : b.al i (a.al i 0) = a.M b i := by
  rw [Sm.al_zero]
  unfold Sm.al Sm.M
  by_cases h : i < b.to
  · rw [if_pos h, if_pos h, Sm.cn_N]
    by_cases h2 : i < b.kp
    · rw [if_pos h2, if_pos h2, if_pos (by unfold Sm.R at hb; omega)]; omega
    · rw [if_neg h2, if_neg h2]; omega
  · rw [if_neg h, if_neg h]
theorem Sm.al_b (ha : a.R) (i : Int) : 0 ≤ a.al i 0 ∧ a.al i 0 ≤ 1000 := by
  rw [Sm.al_zero]
  have := Sm.N_R ha i
  split <;> omega
end
def Tri2 (W : World) (g : Nat) (ty : TypeId) (a b : Sm) : Prop := HoldsM W g ty a ∧ HoldsM W (g + 1) ty b ∧ HoldsM W (g + 1 + 1) ty Sm.zero
theorem Tri2.made (w : World) (ty : TypeId) (a b : Sm) : Tri2 (((w.alloc (.cells #[.int .i64 a.fr, .int .i64 a.to, .int .i64 a.kp, .int .i64 a.ad, .int .i64 a.t0, .int .i64 a.t1, .int .i64 a.t2] ty)).alloc (.cells #[.int .i64 b.fr, .int .i64 b.to, .int .i64 b.kp, .int .i64 b.ad, .int .i64 b.t0, .int .i64 b.t1, .int .i64 b.t2] ty)).alloc (.cells #[.int .i64 0, .int .i64 0, .int .i64 0, .int .i64 0, .int .i64 0, .int .i64 0, .int .i64 0] ty)) w.heap.size ty a b := by
  refine ⟨((HoldsM.made w ty a).alloc _).alloc _, ?_, ?_⟩
  · have := (HoldsM.made (w.alloc (.cells #[.int .i64 a.fr, .int .i64 a.to, .int .i64 a.kp, .int .i64 a.ad, .int .i64 a.t0, .int .i64 a.t1, .int .i64 a.t2] ty)) ty b).alloc (.cells #[.int .i64 0, .int .i64 0, .int .i64 0, .int .i64 0, .int .i64 0, .int .i64 0, .int .i64 0] ty)
    rwa [size_alloc] at this
  · have := HoldsM.made ((w.alloc (.cells #[.int .i64 a.fr, .int .i64 a.to, .int .i64 a.kp, .int .i64 a.ad, .int .i64 a.t0, .int .i64 a.t1, .int .i64 a.t2] ty)).alloc (.cells #[.int .i64 b.fr, .int .i64 b.to, .int .i64 b.kp, .int .i64 b.ad, .int .i64 b.t0, .int .i64 b.t1, .int .i64 b.t2] ty)) ty Sm.zero
    rwa [size_alloc, size_alloc] at this
theorem Tri2.below {W W' : World} {g : Nat} {ty : TypeId} {a b : Sm} (h : Tri2 W g ty a b) (hb : Below W.heap.size W W') : Tri2 W' g ty a b := ⟨h.1.below hb, h.2.1.below hb, h.2.2.below hb⟩
def Two2 (W : World) (g : Nat) (ty : TypeId) (a b : Sm) : Prop := HoldsM W g ty a ∧ HoldsM W (g + 1) ty b
theorem Two2.made (w : World) (ty : TypeId) (a b : Sm) : Two2 ((w.alloc (.cells #[.int .i64 a.fr, .int .i64 a.to, .int .i64 a.kp, .int .i64 a.ad, .int .i64 a.t0, .int .i64 a.t1, .int .i64 a.t2] ty)).alloc (.cells #[.int .i64 b.fr, .int .i64 b.to, .int .i64 b.kp, .int .i64 b.ad, .int .i64 b.t0, .int .i64 b.t1, .int .i64 b.t2] ty)) w.heap.size ty a b := by
  refine ⟨(HoldsM.made w ty a).alloc _, ?_⟩
  have := HoldsM.made (w.alloc (.cells #[.int .i64 a.fr, .int .i64 a.to, .int .i64 a.kp, .int .i64 a.ad, .int .i64 a.t0, .int .i64 a.t1, .int .i64 a.t2] ty)) ty b
  rwa [size_alloc] at this
theorem Two2.below {W W' : World} {g : Nat} {ty : TypeId} {a b : Sm} (h : Two2 W g ty a b) (hb : Below W.heap.size W W') : Two2 W' g ty a b := ⟨h.1.below hb, h.2.below hb⟩
end

section
open Go.ChangeShapes Go.WideShapes Go.ChangeAt Go.RowKit Go.BigFrame
set_option maxRecDepth 100000
set_option maxHeartbeats 1000000 in
theorem leqM_A (a b : Sm) (w : World) (h : ¬ a.R) : Calls Tryz.prog 32 #[a.v, b.v] w fun e w' => e = .returned (.bool false) ∧ Below w.heap.size w w' := by
  have h3 := Two2.made w 44 a b
  have hbw := below_alloc2 w (.cells #[.int .i64 a.fr, .int .i64 a.to, .int .i64 a.kp, .int .i64 a.ad, .int .i64 a.t0, .int .i64 a.t1, .int .i64 a.t2] 44) (.cells #[.int .i64 b.fr, .int .i64 b.to, .int .i64 b.kp, .int .i64 b.ad, .int .i64 b.t0, .int .i64 b.t1, .int .i64 b.t2] 44)
  have H3 := Lib.hid h3; have HB := Lib.hid hbw; clear h3 hbw
  have r1 := fun w => rightM_false h w
  have R1 := Lib.hid r1; clear r1
  clear h
  unfold Sm.v at *
  go_enter Tryz.func32, Tryz.ntmps32
  go_wp2_with fail
  refine (R1.out _).mono ?_; rintro e w2 ⟨rfl, hb2⟩
  have k3 := H3.out.below hb2
  have kb := HB.out.trans (hb2.mono HB.out.size); clear H3 HB
  have H3 := Lib.hid k3; have HB := Lib.hid kb; clear k3 kb hb2
  go_wp2_with fail
  go_ret
  exact ⟨rfl, HB.out⟩
set_option maxHeartbeats 1000000 in
theorem leqM_B (a b : Sm) (w : World) (h : a.R) (h2 : ¬ b.R) : Calls Tryz.prog 32 #[a.v, b.v] w fun e w' => e = .returned (.bool false) ∧ Below w.heap.size w w' := by
  have h3 := Two2.made w 44 a b
  have hbw := below_alloc2 w (.cells #[.int .i64 a.fr, .int .i64 a.to, .int .i64 a.kp, .int .i64 a.ad, .int .i64 a.t0, .int .i64 a.t1, .int .i64 a.t2] 44) (.cells #[.int .i64 b.fr, .int .i64 b.to, .int .i64 b.kp, .int .i64 b.ad, .int .i64 b.t0, .int .i64 b.t1, .int .i64 b.t2] 44)
  have H3 := Lib.hid h3; have HB := Lib.hid hbw; clear h3 hbw
  have r1 := fun w => rightM_true h w
  have r2 := fun w => rightM_false h2 w
  have R1 := Lib.hid r1; have R2 := Lib.hid r2; clear r1 r2
  clear h h2
  unfold Sm.v at *
  go_enter Tryz.func32, Tryz.ntmps32
  go_wp2_with fail
  refine (R1.out _).mono ?_; rintro e w2 ⟨rfl, hb2⟩
  have k3 := H3.out.below hb2
  have kb := HB.out.trans (hb2.mono HB.out.size); clear H3 HB
  have H3 := Lib.hid k3; have HB := Lib.hid kb; clear k3 kb hb2
  obtain ⟨a0, a1, a2, a3, a4, a5, a6⟩ := H3.out.1.cells7
  obtain ⟨b0, b1, b2, b3, b4, b5, b6⟩ := H3.out.2.cells7
  go_wp2_with fail
  clear a0 a1 a2 a3 a4 a5 a6 b0 b1 b2 b3 b4 b5 b6
  refine (R2.out _).mono ?_; rintro e w3 ⟨rfl, hb3⟩
  have k3 := H3.out.below hb3
  have kb := HB.out.trans (hb3.mono HB.out.size); clear H3 HB
  have H3 := Lib.hid k3; have HB := Lib.hid kb; clear k3 kb hb3
  go_wp2_with fail
  go_ret
  exact ⟨rfl, HB.out⟩
set_option maxHeartbeats 1000000 in
theorem leqM_C (a b : Sm) (w : World) (h : a.R) (h2 : b.R) (h3 : (a.fr != b.fr) = true) : Calls Tryz.prog 32 #[a.v, b.v] w fun e w' => e = .returned (.bool false) ∧ Below w.heap.size w w' := by
  have h3 := Two2.made w 44 a b
  have hbw := below_alloc2 w (.cells #[.int .i64 a.fr, .int .i64 a.to, .int .i64 a.kp, .int .i64 a.ad, .int .i64 a.t0, .int .i64 a.t1, .int .i64 a.t2] 44) (.cells #[.int .i64 b.fr, .int .i64 b.to, .int .i64 b.kp, .int .i64 b.ad, .int .i64 b.t0, .int .i64 b.t1, .int .i64 b.t2] 44)
  have H3 := Lib.hid h3; have HB := Lib.hid hbw; clear h3 hbw
  have r1 := fun w => rightM_true h w
  have r2 := fun w => rightM_true h2 w
  have R1 := Lib.hid r1; have R2 := Lib.hid r2; clear r1 r2
  clear h h2
  unfold Sm.v at *
  go_enter Tryz.func32, Tryz.ntmps32
  go_wp2_with fail
  refine (R1.out _).mono ?_; rintro e w2 ⟨rfl, hb2⟩
  have k3 := H3.out.below hb2
  have kb := HB.out.trans (hb2.mono HB.out.size); clear H3 HB
  have H3 := Lib.hid k3; have HB := Lib.hid kb; clear k3 kb hb2
  obtain ⟨a0, a1, a2, a3, a4, a5, a6⟩ := H3.out.1.cells7
  obtain ⟨b0, b1, b2, b3, b4, b5, b6⟩ := H3.out.2.cells7
  go_wp2_with fail
  clear a0 a1 a2 a3 a4 a5 a6 b0 b1 b2 b3 b4 b5 b6
  refine (R2.out _).mono ?_; rintro e w3 ⟨rfl, hb3⟩
  have k3 := H3.out.below hb3
  have kb := HB.out.trans (hb3.mono HB.out.size); clear H3 HB
  have H3 := Lib.hid k3; have HB := Lib.hid kb; clear k3 kb hb3
  obtain ⟨a0, a1, a2, a3, a4, a5, a6⟩ := H3.out.1.cells7
  obtain ⟨b0, b1, b2, b3, b4, b5, b6⟩ := H3.out.2.cells7
  go_wp2_with fail
  go_ret
  exact ⟨rfl, HB.out⟩
set_option maxHeartbeats 1000000 in
theorem leqM_D (a b : Sm) (w : World) (h : a.R) (h2 : b.R) (h3 : (a.fr != b.fr) = false) (h4 : (a.to != b.to) = true) : Calls Tryz.prog 32 #[a.v, b.v] w fun e w' => e = .returned (.bool false) ∧ Below w.heap.size w w' := by
  have h3 := Two2.made w 44 a b
  have hbw := below_alloc2 w (.cells #[.int .i64 a.fr, .int .i64 a.to, .int .i64 a.kp, .int .i64 a.ad, .int .i64 a.t0, .int .i64 a.t1, .int .i64 a.t2] 44) (.cells #[.int .i64 b.fr, .int .i64 b.to, .int .i64 b.kp, .int .i64 b.ad, .int .i64 b.t0, .int .i64 b.t1, .int .i64 b.t2] 44)
  have H3 := Lib.hid h3; have HB := Lib.hid hbw; clear h3 hbw
  have r1 := fun w => rightM_true h w
  have r2 := fun w => rightM_true h2 w
  have R1 := Lib.hid r1; have R2 := Lib.hid r2; clear r1 r2
  clear h h2
  unfold Sm.v at *
  go_enter Tryz.func32, Tryz.ntmps32
  go_wp2_with fail
  refine (R1.out _).mono ?_; rintro e w2 ⟨rfl, hb2⟩
  have k3 := H3.out.below hb2
  have kb := HB.out.trans (hb2.mono HB.out.size); clear H3 HB
  have H3 := Lib.hid k3; have HB := Lib.hid kb; clear k3 kb hb2
  obtain ⟨a0, a1, a2, a3, a4, a5, a6⟩ := H3.out.1.cells7
  obtain ⟨b0, b1, b2, b3, b4, b5, b6⟩ := H3.out.2.cells7
  go_wp2_with fail
  clear a0 a1 a2 a3 a4 a5 a6 b0 b1 b2 b3 b4 b5 b6
  refine (R2.out _).mono ?_; rintro e w3 ⟨rfl, hb3⟩
  have k3 := H3.out.below hb3
  have kb := HB.out.trans (hb3.mono HB.out.size); clear H3 HB
  have H3 := Lib.hid k3; have HB := Lib.hid kb; clear k3 kb hb3
  obtain ⟨a0, a1, a2, a3, a4, a5, a6⟩ := H3.out.1.cells7
  obtain ⟨b0, b1, b2, b3, b4, b5, b6⟩ := H3.out.2.cells7
  go_wp2_with fail
  go_ret
  exact ⟨rfl, HB.out⟩
set_option maxHeartbeats 1000000 in
theorem leqM_E (a b : Sm) (w : World) (h : a.R) (h2 : b.R) (h3 : (a.fr != b.fr) = false) (h4 : (a.to != b.to) = false) (h5 : b.kp < a.kp) : Calls Tryz.prog 32 #[a.v, b.v] w fun e w' => e = .returned (.bool false) ∧ Below w.heap.size w w' := by
  have h3 := Two2.made w 44 a b
  have hbw := below_alloc2 w (.cells #[.int .i64 a.fr, .int .i64 a.to, .int .i64 a.kp, .int .i64 a.ad, .int .i64 a.t0, .int .i64 a.t1, .int .i64 a.t2] 44) (.cells #[.int .i64 b.fr, .int .i64 b.to, .int .i64 b.kp, .int .i64 b.ad, .int .i64 b.t0, .int .i64 b.t1, .int .i64 b.t2] 44)
  have H3 := Lib.hid h3; have HB := Lib.hid hbw; clear h3 hbw
  have r1 := fun w => rightM_true h w
  have r2 := fun w => rightM_true h2 w
  have R1 := Lib.hid r1; have R2 := Lib.hid r2; clear r1 r2
  clear h h2
  unfold Sm.v at *
  go_enter Tryz.func32, Tryz.ntmps32
  go_wp2_with fail
  refine (R1.out _).mono ?_; rintro e w2 ⟨rfl, hb2⟩
  have k3 := H3.out.below hb2
  have kb := HB.out.trans (hb2.mono HB.out.size); clear H3 HB
  have H3 := Lib.hid k3; have HB := Lib.hid kb; clear k3 kb hb2
  obtain ⟨a0, a1, a2, a3, a4, a5, a6⟩ := H3.out.1.cells7
  obtain ⟨b0, b1, b2, b3, b4, b5, b6⟩ := H3.out.2.cells7
  go_wp2_with fail
  clear a0 a1 a2 a3 a4 a5 a6 b0 b1 b2 b3 b4 b5 b6
  refine (R2.out _).mono ?_; rintro e w3 ⟨rfl, hb3⟩
  have k3 := H3.out.below hb3
  have kb := HB.out.trans (hb3.mono HB.out.size); clear H3 HB
  have H3 := Lib.hid k3; have HB := Lib.hid kb; clear k3 kb hb3
  obtain ⟨a0, a1, a2, a3, a4, a5, a6⟩ := H3.out.1.cells7
  obtain ⟨b0, b1, b2, b3, b4, b5, b6⟩ := H3.out.2.cells7
  go_wp2_with fail
  go_ret
  exact ⟨rfl, HB.out⟩
end

section
open Go.ChangeShapes Go.WideShapes Go.ChangeAt Go.RowKit Go.BigFrame
set_option maxRecDepth 100000
theorem mx_le {x y : Int} : mx x y = y ↔ x ≤ y := by unfold mx; split <;> omega
theorem L_mx {a b : Sm} (ha : a.R) (hb : b.R) (hf : a.fr = b.fr) (ht : a.to = b.to) (hk : a.kp ≤ b.kp) :
    eqL (mx (a.al 0 0) (b.al 0 0)) (mx (a.al 1 0) (b.al 1 0)) (mx (a.al 2 0) (b.al 2 0)) (b.al 0 0) (b.al 1 0) (b.al 2 0) = decide (a.L b) := by
  unfold eqL
  rw [decide_eq_decide, mx_le, mx_le, mx_le, Sm.al_zero, Sm.al_zero, Sm.al_zero, Sm.al_zero, Sm.al_zero, Sm.al_zero, ← ht]
  unfold Sm.L
  constructor
  · rintro ⟨h0, h1, h2⟩
    refine ⟨ha, hb, hf, ht, hk, fun h => ?_, fun h => ?_, fun h => ?_⟩
    · rwa [if_pos h, if_pos h] at h0
    · rwa [if_pos h, if_pos h] at h1
    · rwa [if_pos h, if_pos h] at h2
  · rintro ⟨-, -, -, -, -, h0, h1, h2⟩
    refine ⟨?_, ?_, ?_⟩
    · split
      · rename_i h; exact h0 h
      · exact Int.le_refl _
    · split
      · rename_i h; exact h1 h
      · exact Int.le_refl _
    · split
      · rename_i h; exact h2 h
      · exact Int.le_refl _
theorem load_row {W : World} {g : Nat} {p q r : Int} (h : Row W g 94 [.int .i64 p, .int .i64 q, .int .i64 r]) : ∀ w', Below W.heap.size W w' → (Instr.loadAt 94 (.pointer (some ⟨g, 0, none⟩))).run Tryz.prog w' = .ok (.agg #[.int .i64 p, .int .i64 q, .int .i64 r]) w' :=
  fun w' hb => run_loadAt_part g 0 94 _ [.int .i64 p, .int .i64 q, .int .i64 r] (fun j v hj => by rw [add_at, (h.below hb h.lt).cell, Nat.zero_add]; exact hj) Tryz.underlying94 rfl (by kernel_rfl)
theorem eq3r (d : Nat) (x y z p q r : Int) (w : World) : (Op.equalIn (d + 2) 94 (.agg #[.int .i64 x, .int .i64 y, .int .i64 z]) (.agg #[.int .i64 p, .int .i64 q, .int .i64 r])).run Tryz.prog w = .ok (decide (x = p ∧ y = q ∧ z = r)) w := by
  have hu := Tryz.underlying94
  have hi : ∀ w, (isAgg 3).run Tryz.prog w = .ok false w := fun w => by go_simp
  unfold Op.equalIn
  simp [run_underlying hu, range3, part, hi, eq_int, Sem.run_bind]
  by_cases h1 : x = p
  · by_cases h2 : y = q
    · by_cases h3 : z = r
      · simp [h1, h2, h3]
      · simp [h1, h2, h3]
    · simp [h1, h2]
  · simp [h1]
theorem eq_r (x y : Operand) (a b c p q r : Int) : ∀ w, (do eqGuard .eql 94 x y (.agg #[.int .i64 a, .int .i64 b, .int .i64 c]) (.agg #[.int .i64 p, .int .i64 q, .int .i64 r]); binOp .eql 94 (.agg #[.int .i64 a, .int .i64 b, .int .i64 c]) (.agg #[.int .i64 p, .int .i64 q, .int .i64 r]) : Sem Value).run Tryz.prog w = .ok (.bool (eqL a b c p q r)) w := by
  intro w
  rw [Sem.run_bind, run_eqGuard_agg w _ _ _ _ _ _ (by kernel_rfl), Result.andThen_ok, run_eql_struct, eq3r 9998]
  rfl
set_option maxHeartbeats 4000000 in
theorem leqM_F (a b : Sm) (w : World) (p0 p1 p2 q0 q1 q2 : Int) (h : a.R) (h2 : b.R) (h3 : (a.fr != b.fr) = false) (h4 : (a.to != b.to) = false) (h5 : ¬ b.kp < a.kp)
    (ca : ∀ w, Calls Tryz.prog 58 #[a.v, .agg #[.int .i64 0, .int .i64 0, .int .i64 0]] w fun e w' => e = .returned (.agg #[.int .i64 p0, .int .i64 p1, .int .i64 p2]) ∧ Below w.heap.size w w')
    (cb : ∀ w, Calls Tryz.prog 58 #[b.v, .agg #[.int .i64 0, .int .i64 0, .int .i64 0]] w fun e w' => e = .returned (.agg #[.int .i64 q0, .int .i64 q1, .int .i64 q2]) ∧ Below w.heap.size w w') :
    Calls Tryz.prog 32 #[a.v, b.v] w fun e w' => e = .returned (.bool (eqL (mx p0 q0) (mx p1 q1) (mx p2 q2) q0 q1 q2)) ∧ Below w.heap.size w w' := by
  have h3 := Two2.made w 44 a b
  have hbw := below_alloc2 w (.cells #[.int .i64 a.fr, .int .i64 a.to, .int .i64 a.kp, .int .i64 a.ad, .int .i64 a.t0, .int .i64 a.t1, .int .i64 a.t2] 44) (.cells #[.int .i64 b.fr, .int .i64 b.to, .int .i64 b.kp, .int .i64 b.ad, .int .i64 b.t0, .int .i64 b.t1, .int .i64 b.t2] 44)
  have H3 := Lib.hid h3; have HB := Lib.hid hbw; clear h3 hbw
  have r1 := fun w => rightM_true h w
  have r2 := fun w => rightM_true h2 w
  have cg := fun w => greaterM_any p0 p1 p2 q0 q1 q2 w
  have R1 := Lib.hid r1; have R2 := Lib.hid r2; have CA := Lib.hid ca; have CB := Lib.hid cb; have CG := Lib.hid cg; clear r1 r2 ca cb cg
  clear h h2
  unfold Sm.v at *
  go_enter Tryz.func32, Tryz.ntmps32
  go_wp2_with fail
  refine (R1.out _).mono ?_; rintro e w2 ⟨rfl, hb2⟩
  have k3 := H3.out.below hb2
  have kb := HB.out.trans (hb2.mono HB.out.size); clear H3 HB
  have H3 := Lib.hid k3; have HB := Lib.hid kb; clear k3 kb hb2
  obtain ⟨a0, a1, a2, a3, a4, a5, a6⟩ := H3.out.1.cells7
  obtain ⟨b0, b1, b2, b3, b4, b5, b6⟩ := H3.out.2.cells7
  go_wp2_with fail
  clear a0 a1 a2 a3 a4 a5 a6 b0 b1 b2 b3 b4 b5 b6
  refine (R2.out _).mono ?_; rintro e w3 ⟨rfl, hb3⟩
  have k3 := H3.out.below hb3
  have kb := HB.out.trans (hb3.mono HB.out.size); clear H3 HB
  have H3 := Lib.hid k3; have HB := Lib.hid kb; clear k3 kb hb3
  obtain ⟨a0, a1, a2, a3, a4, a5, a6⟩ := H3.out.1.cells7
  obtain ⟨b0, b1, b2, b3, b4, b5, b6⟩ := H3.out.2.cells7
  go_wp2_with fail
  clear a0 a1 a2 a3 a4 a5 a6 b0 b1 b2 b3 b4 b5 b6
  refine (CB.out _).mono ?_; rintro e w4 ⟨rfl, hb4⟩
  have k3 := H3.out.below hb4
  have kb := HB.out.trans (hb4.mono HB.out.size); clear H3 HB
  have H3 := Lib.hid k3; have HB := Lib.hid kb; clear k3 kb hb4
  clear h3 h4 h5
  have hc := HB.out.size
  go_wp2_with fail
  have k3 : Two2 (w4.alloc (.cells #[.int .i64 q0, .int .i64 q1, .int .i64 q2] 94)) w.heap.size 44 a b := ⟨H3.out.1.alloc _, H3.out.2.alloc _⟩
  have kr : Row (w4.alloc (.cells #[.int .i64 q0, .int .i64 q1, .int .i64 q2] 94)) w4.heap.size 94 [.int .i64 q0, .int .i64 q1, .int .i64 q2] := Row.made w4 _ _
  have kb := HB.out.alloc HB.out.size (.cells #[.int .i64 q0, .int .i64 q1, .int .i64 q2] 94)
  clear H3 HB hc R1 R2 CB
  generalize w4.alloc (.cells #[.int .i64 q0, .int .i64 q1, .int .i64 q2] 94) = W at *
  generalize w4.heap.size = g at *
  have H3 := Lib.hid k3; have HR := Lib.hid kr; have HB := Lib.hid kb; clear k3 kr kb
  refine wp_region_below (by kernel_rfl) (by kernel_rfl) ?_
  refine wpQuiet_step (fun K hK => ?_); refine q_load (p := .pointer (some ⟨w.heap.size, 0, none⟩)) 44 _ rfl rfl rfl (load_m H3.out.1) ?_; go_simp; (with_reducible refine hK _ ?_); clear hK K
  refine wpQuiet_step (fun K hK => ?_); go_simp; (first | (with_reducible refine hK _ ?_) | (with_reducible refine ⟨_, fun _ _ => rfl, hK _ ?_⟩)); clear hK K
  refine wpQuiet_step (fun K hK => ?_); go_simp; (with_reducible refine ⟨_, fun _ hb => (CA.out _).mono fun _ _ h => ⟨h.1, hb.trans (h.2.mono (by simpa using hb.size))⟩, hK _ ?_⟩); clear hK K
  refine wpQuiet_step (fun K hK => ?_); refine q_load (p := .pointer (some ⟨g, 0, none⟩)) 94 _ rfl rfl rfl (load_row HR.out) ?_; go_simp; (with_reducible refine hK _ ?_); clear hK K
  refine wpQuiet_step (fun K hK => ?_); go_simp; (with_reducible refine ⟨_, fun _ hb => (CG.out _).mono fun _ _ h => ⟨h.1, hb.trans (h.2.mono (by simpa using hb.size))⟩, hK _ ?_⟩); clear hK K
  refine wpQuiet_step (fun K hK => ?_); refine q_load (p := .pointer (some ⟨g, 0, none⟩)) 94 _ rfl rfl rfl (load_row HR.out) ?_; go_simp; (with_reducible refine hK _ ?_); clear hK K
  refine wpQuiet_step (fun K hK => ?_); refine q_bin _ _ _ _ _ rfl rfl rfl rfl (eq_r _ _ _ _ _ _ _ _) ?_; go_simp; (with_reducible refine hK _ ?_); clear hK K
  refine wpQuiet_step (fun K hK => ?_); go_simp; (first | (with_reducible refine hK _ ?_) | (with_reducible refine ⟨_, fun _ _ => rfl, hK _ ?_⟩)); clear hK K
  refine wpQuiet_nil ?_
  intro w8 hb8
  go_wp2_with fail
  go_ret
  exact ⟨rfl, HB.out.trans (hb8.mono HB.out.size)⟩
theorem leqM_any (a b : Sm) (w : World) : Calls Tryz.prog 32 #[a.v, b.v] w fun e w' => e = .returned (.bool (decide (a.L b))) ∧ Below w.heap.size w w' := by
  by_cases h : a.R
  case neg => rw [decide_eq_false (fun hh : a.L b => h hh.1)]; exact leqM_A a b w h
  by_cases h2 : b.R
  case neg => rw [decide_eq_false (fun hh : a.L b => h2 hh.2.1)]; exact leqM_B a b w h h2
  by_cases h3 : a.fr = b.fr
  case neg => rw [decide_eq_false (fun hh : a.L b => h3 hh.2.2.1)]; exact leqM_C a b w h h2 (by simpa using h3)
  by_cases h4 : a.to = b.to
  case neg => rw [decide_eq_false (fun hh : a.L b => h4 hh.2.2.2.1)]; exact leqM_D a b w h h2 (by simpa using h3) (by simpa using h4)
  by_cases h5 : b.kp < a.kp
  case pos => rw [decide_eq_false (fun hh : a.L b => by have := hh.2.2.2.2.1; omega)]; exact leqM_E a b w h h2 (by simpa using h3) (by simpa using h4) h5
  rw [← L_mx h h2 h3 h4 (by omega)]
  exact leqM_F a b w _ _ _ _ _ _ h h2 (by simpa using h3) (by simpa using h4) h5 (fun w => along_any a 0 0 0 w h (by omega) (by omega) (by omega)) (fun w => along_any b 0 0 0 w h2 (by omega) (by omega) (by omega))
end

section
open Go.ChangeShapes Go.WideShapes Go.ChangeAt Go.RowKit Go.BigFrame
set_option maxRecDepth 100000
end
end Go.Proofs.YtmhophmpbpbjaaaGreatDoor
