/- Of, and plain. -/
import Derived.Test.YtdpadkellpkppaaSmRight
import Derived.Test.YtdpadkellpkppaaSmRef
import Derived.Test.YtdpadkellpkppaaSmAt
import Derived.Test.YtdpadkellpkppaaStRefA
namespace Go.Proofs.Ytdpadkellpkppaa
open Go.ChangeShapes Go.WideShapes Go.ChangeAt Go.RowKit Go.BigFrame
set_option linter.unusedVariables false
set_option maxRecDepth 100000
theorem plain_any (s : Sm) (w : World) : Calls Try.prog 13 #[s.v] w fun e w' => e = .returned s.v ∧ Below w.heap.size w w' := by
  unfold Sm.v
  go_enter Try.func13, Try.ntmps13
  go_wp2_with fail
  refine bodyPost_ret (results_cell_row rfl _ _ (w.heap.size + 1) 30 _ (0, 0) _ rfl (made2 _ _ _) Try.underlying30 rfl (by kernel_rfl)) rfl ?_
  exact ⟨rfl, ((Below.refl _ _).alloc (Nat.le_refl _) _).alloc (by simp) _⟩
/-- the summary of a kind at a depth, be it right or not -/
def Sm.ofk (k d : Int) : Sm := if k = 7 then ⟨d - 1, d, d - 1, 0, 0, 0, 0⟩ else if k = 8 then ⟨d + 1, d, d, 0, 0, 0, 0⟩ else if k = 9 then ⟨d, d, d, 1, 0, 0, 0⟩ else ⟨d, d, d, 0, 0, 0, 0⟩
def okOf (k d : Int) : Prop := 1 ≤ k ∧ k ≤ 10 ∧ (Sm.ofk k d).R
instance (k d : Int) : Decidable (okOf k d) := inferInstanceAs (Decidable (_ ∧ _))
def Sm.of_ (k d : Int) : Sm := if okOf k d then Sm.ofk k d else Sm.zero
theorem row_set7 {w : World} {b : Nat} {t : TypeId} {a1 a2 a3 a4 a5 a6 a7 b1 b2 b3 b4 b5 b6 b7 : Value} (h : Row w b t [a1, a2, a3, a4, a5, a6, a7]) :
    Row (((((((w.setCell ⟨b, 0, none⟩ b1).setCell ⟨b, 1, none⟩ b2).setCell ⟨b, 2, none⟩ b3).setCell ⟨b, 3, none⟩ b4).setCell ⟨b, 4, none⟩ b5).setCell ⟨b, 5, none⟩ b6).setCell ⟨b, 6, none⟩ b7) b t [b1, b2, b3, b4, b5, b6, b7] :=
  ((((((h.put 0 b1).put 1 b2).put 2 b3).put 3 b4).put 4 b5).put 5 b6).put 6 b7
theorem below_set7 {w w' : World} {B g : Nat} {b1 b2 b3 b4 b5 b6 b7 : Value} (h : Below B w w') (hg : B ≤ g) :
    Below B w (((((((w'.setCell ⟨g, 0, none⟩ b1).setCell ⟨g, 1, none⟩ b2).setCell ⟨g, 2, none⟩ b3).setCell ⟨g, 3, none⟩ b4).setCell ⟨g, 4, none⟩ b5).setCell ⟨g, 5, none⟩ b6).setCell ⟨g, 6, none⟩ b7) :=
  ((((((h.setCell hg _).setCell hg _).setCell hg _).setCell hg _).setCell hg _).setCell hg _).setCell hg _
theorem made2r (w : World) (o : Obj) (t : TypeId) (l : List Value) : Row ((w.alloc o).alloc (.cells l.toArray t)) (w.heap.size + 1) t l := made2 w o _
theorem below_alloc2 (w : World) (o o' : Obj) : Below w.heap.size w ((w.alloc o).alloc o') := ((Below.refl _ _).alloc (Nat.le_refl _) _).alloc (by simp) _
/-- a bool's two ways: the summary, or nothing -/
def Sm.orz (s : Sm) (b : Bool) : Sm := if b then s else Sm.zero
set_option maxHeartbeats 2000000 in
theorem of_7 (d p : Int) (hp : IntKind.i64.wrap (d - 1) = p) (w : World) : Calls Try.prog 14 #[.int .u8 7, .int .i64 d] w fun e w' => e = .returned (.tuple #[(Sm.orz (⟨p, d, p, 0, 0, 0, 0⟩ : Sm) (decide (Sm.R (⟨p, d, p, 0, 0, 0, 0⟩ : Sm)))).v, .bool (decide (Sm.R (⟨p, d, p, 0, 0, 0, 0⟩ : Sm)))]) ∧ Below w.heap.size w w' := by
  have hr := fun w => rightM_any (⟨p, d, p, 0, 0, 0, 0⟩ : Sm) w
  have h1 : HoldsM ((w.alloc (.cells #[.int .i64 0, .int .i64 0, .int .i64 0, .int .i64 0, .int .i64 0, .int .i64 0, .int .i64 0] 24)).alloc (.cells #[.int .i64 ((⟨p, d, p, 0, 0, 0, 0⟩ : Sm)).fr, .int .i64 ((⟨p, d, p, 0, 0, 0, 0⟩ : Sm)).to, .int .i64 ((⟨p, d, p, 0, 0, 0, 0⟩ : Sm)).kp, .int .i64 ((⟨p, d, p, 0, 0, 0, 0⟩ : Sm)).ad, .int .i64 ((⟨p, d, p, 0, 0, 0, 0⟩ : Sm)).t0, .int .i64 ((⟨p, d, p, 0, 0, 0, 0⟩ : Sm)).t1, .int .i64 ((⟨p, d, p, 0, 0, 0, 0⟩ : Sm)).t2] 24)) (w.heap.size + 1) 24 (⟨p, d, p, 0, 0, 0, 0⟩ : Sm) := made2r w _ _ _
  have h0 : HoldsM ((w.alloc (.cells #[.int .i64 0, .int .i64 0, .int .i64 0, .int .i64 0, .int .i64 0, .int .i64 0, .int .i64 0] 24)).alloc (.cells #[.int .i64 ((⟨p, d, p, 0, 0, 0, 0⟩ : Sm)).fr, .int .i64 ((⟨p, d, p, 0, 0, 0, 0⟩ : Sm)).to, .int .i64 ((⟨p, d, p, 0, 0, 0, 0⟩ : Sm)).kp, .int .i64 ((⟨p, d, p, 0, 0, 0, 0⟩ : Sm)).ad, .int .i64 ((⟨p, d, p, 0, 0, 0, 0⟩ : Sm)).t0, .int .i64 ((⟨p, d, p, 0, 0, 0, 0⟩ : Sm)).t1, .int .i64 ((⟨p, d, p, 0, 0, 0, 0⟩ : Sm)).t2] 24)) w.heap.size 24 Sm.zero := Row.alloc (Row.made w _ _) _
  simp only at h1 h0
  unfold Sm.v at hr
  generalize hb : decide (Sm.R (⟨p, d, p, 0, 0, 0, 0⟩ : Sm)) = bb at *
  clear hb
  have HR := Lib.hid hr; have H1 := Lib.hid h1; have H0 := Lib.hid h0; clear hr h1 h0
  unfold Sm.orz
  go_enter Try.func14, Try.ntmps14
  go_wp2_with fail
  refine (HR.out _).mono ?_; rintro e w2 ⟨rfl, hb2⟩
  have h1 : HoldsM w2 (w.heap.size + 1) 24 (⟨p, d, p, 0, 0, 0, 0⟩ : Sm) := Row.below H1.out hb2 (by simp)
  have h0 : HoldsM w2 w.heap.size 24 Sm.zero := Row.below H0.out hb2 (by simp; omega)
  obtain ⟨c0, c1, c2, c3, c4, c5, c6⟩ := h1.cells7
  obtain ⟨f0, f1, f2, f3, f4, f5, f6⟩ := h0.free7
  obtain ⟨z0, z1, z2, z3, z4, z5, z6⟩ := h0.cells7
  have HB := Lib.hid ((below_alloc2 w _ _).trans (hb2.mono (by simp; omega)))
  have HZ := Lib.hid h0
  clear hb2 h1 h0
  simp only at c0 c1 c2 c3 c4 c5 c6
  cases bb with
  | true =>
    go_wp2_with fail
    refine bodyPost_ret (v := .tuple #[Sm.v (⟨p, d, p, 0, 0, 0, 0⟩ : Sm), .bool true]) (two_results rfl _ _ _ 24 _ (0, 0) _ rfl (row_set7 HZ.out) Try.underlying24 rfl (by kernel_rfl) rfl) rfl ?_
    exact ⟨rfl, below_set7 HB.out (Nat.le_refl _)⟩
  | false =>
    go_wp2_with fail
    refine bodyPost_ret (v := .tuple #[Sm.v Sm.zero, .bool false]) (two_results rfl _ _ _ 24 _ (0, 0) _ rfl (row_set7 HZ.out) Try.underlying24 rfl (by kernel_rfl) rfl) rfl ?_
    exact ⟨rfl, below_set7 HB.out (Nat.le_refl _)⟩
set_option maxHeartbeats 2000000 in
theorem of_8 (d p : Int) (hp : IntKind.i64.wrap (d + 1) = p) (w : World) : Calls Try.prog 14 #[.int .u8 8, .int .i64 d] w fun e w' => e = .returned (.tuple #[(Sm.orz (⟨p, d, d, 0, 0, 0, 0⟩ : Sm) (decide (Sm.R (⟨p, d, d, 0, 0, 0, 0⟩ : Sm)))).v, .bool (decide (Sm.R (⟨p, d, d, 0, 0, 0, 0⟩ : Sm)))]) ∧ Below w.heap.size w w' := by
  have hr := fun w => rightM_any (⟨p, d, d, 0, 0, 0, 0⟩ : Sm) w
  have h1 : HoldsM ((w.alloc (.cells #[.int .i64 0, .int .i64 0, .int .i64 0, .int .i64 0, .int .i64 0, .int .i64 0, .int .i64 0] 24)).alloc (.cells #[.int .i64 ((⟨p, d, d, 0, 0, 0, 0⟩ : Sm)).fr, .int .i64 ((⟨p, d, d, 0, 0, 0, 0⟩ : Sm)).to, .int .i64 ((⟨p, d, d, 0, 0, 0, 0⟩ : Sm)).kp, .int .i64 ((⟨p, d, d, 0, 0, 0, 0⟩ : Sm)).ad, .int .i64 ((⟨p, d, d, 0, 0, 0, 0⟩ : Sm)).t0, .int .i64 ((⟨p, d, d, 0, 0, 0, 0⟩ : Sm)).t1, .int .i64 ((⟨p, d, d, 0, 0, 0, 0⟩ : Sm)).t2] 24)) (w.heap.size + 1) 24 (⟨p, d, d, 0, 0, 0, 0⟩ : Sm) := made2r w _ _ _
  have h0 : HoldsM ((w.alloc (.cells #[.int .i64 0, .int .i64 0, .int .i64 0, .int .i64 0, .int .i64 0, .int .i64 0, .int .i64 0] 24)).alloc (.cells #[.int .i64 ((⟨p, d, d, 0, 0, 0, 0⟩ : Sm)).fr, .int .i64 ((⟨p, d, d, 0, 0, 0, 0⟩ : Sm)).to, .int .i64 ((⟨p, d, d, 0, 0, 0, 0⟩ : Sm)).kp, .int .i64 ((⟨p, d, d, 0, 0, 0, 0⟩ : Sm)).ad, .int .i64 ((⟨p, d, d, 0, 0, 0, 0⟩ : Sm)).t0, .int .i64 ((⟨p, d, d, 0, 0, 0, 0⟩ : Sm)).t1, .int .i64 ((⟨p, d, d, 0, 0, 0, 0⟩ : Sm)).t2] 24)) w.heap.size 24 Sm.zero := Row.alloc (Row.made w _ _) _
  simp only at h1 h0
  unfold Sm.v at hr
  generalize hb : decide (Sm.R (⟨p, d, d, 0, 0, 0, 0⟩ : Sm)) = bb at *
  clear hb
  have HR := Lib.hid hr; have H1 := Lib.hid h1; have H0 := Lib.hid h0; clear hr h1 h0
  unfold Sm.orz
  go_enter Try.func14, Try.ntmps14
  go_wp2_with fail
  refine (HR.out _).mono ?_; rintro e w2 ⟨rfl, hb2⟩
  have h1 : HoldsM w2 (w.heap.size + 1) 24 (⟨p, d, d, 0, 0, 0, 0⟩ : Sm) := Row.below H1.out hb2 (by simp)
  have h0 : HoldsM w2 w.heap.size 24 Sm.zero := Row.below H0.out hb2 (by simp; omega)
  obtain ⟨c0, c1, c2, c3, c4, c5, c6⟩ := h1.cells7
  obtain ⟨f0, f1, f2, f3, f4, f5, f6⟩ := h0.free7
  obtain ⟨z0, z1, z2, z3, z4, z5, z6⟩ := h0.cells7
  have HB := Lib.hid ((below_alloc2 w _ _).trans (hb2.mono (by simp; omega)))
  have HZ := Lib.hid h0
  clear hb2 h1 h0
  simp only at c0 c1 c2 c3 c4 c5 c6
  cases bb with
  | true =>
    go_wp2_with fail
    refine bodyPost_ret (v := .tuple #[Sm.v (⟨p, d, d, 0, 0, 0, 0⟩ : Sm), .bool true]) (two_results rfl _ _ _ 24 _ (0, 0) _ rfl (row_set7 HZ.out) Try.underlying24 rfl (by kernel_rfl) rfl) rfl ?_
    exact ⟨rfl, below_set7 HB.out (Nat.le_refl _)⟩
  | false =>
    go_wp2_with fail
    refine bodyPost_ret (v := .tuple #[Sm.v Sm.zero, .bool false]) (two_results rfl _ _ _ 24 _ (0, 0) _ rfl (row_set7 HZ.out) Try.underlying24 rfl (by kernel_rfl) rfl) rfl ?_
    exact ⟨rfl, below_set7 HB.out (Nat.le_refl _)⟩
set_option maxHeartbeats 2000000 in
theorem of_9 (d : Int) (w : World) : Calls Try.prog 14 #[.int .u8 9, .int .i64 d] w fun e w' => e = .returned (.tuple #[(Sm.orz (⟨d, d, d, 1, 0, 0, 0⟩ : Sm) (decide (Sm.R (⟨d, d, d, 1, 0, 0, 0⟩ : Sm)))).v, .bool (decide (Sm.R (⟨d, d, d, 1, 0, 0, 0⟩ : Sm)))]) ∧ Below w.heap.size w w' := by
  have hr := fun w => rightM_any (⟨d, d, d, 1, 0, 0, 0⟩ : Sm) w
  have h1 : HoldsM ((w.alloc (.cells #[.int .i64 0, .int .i64 0, .int .i64 0, .int .i64 0, .int .i64 0, .int .i64 0, .int .i64 0] 24)).alloc (.cells #[.int .i64 ((⟨d, d, d, 1, 0, 0, 0⟩ : Sm)).fr, .int .i64 ((⟨d, d, d, 1, 0, 0, 0⟩ : Sm)).to, .int .i64 ((⟨d, d, d, 1, 0, 0, 0⟩ : Sm)).kp, .int .i64 ((⟨d, d, d, 1, 0, 0, 0⟩ : Sm)).ad, .int .i64 ((⟨d, d, d, 1, 0, 0, 0⟩ : Sm)).t0, .int .i64 ((⟨d, d, d, 1, 0, 0, 0⟩ : Sm)).t1, .int .i64 ((⟨d, d, d, 1, 0, 0, 0⟩ : Sm)).t2] 24)) (w.heap.size + 1) 24 (⟨d, d, d, 1, 0, 0, 0⟩ : Sm) := made2r w _ _ _
  have h0 : HoldsM ((w.alloc (.cells #[.int .i64 0, .int .i64 0, .int .i64 0, .int .i64 0, .int .i64 0, .int .i64 0, .int .i64 0] 24)).alloc (.cells #[.int .i64 ((⟨d, d, d, 1, 0, 0, 0⟩ : Sm)).fr, .int .i64 ((⟨d, d, d, 1, 0, 0, 0⟩ : Sm)).to, .int .i64 ((⟨d, d, d, 1, 0, 0, 0⟩ : Sm)).kp, .int .i64 ((⟨d, d, d, 1, 0, 0, 0⟩ : Sm)).ad, .int .i64 ((⟨d, d, d, 1, 0, 0, 0⟩ : Sm)).t0, .int .i64 ((⟨d, d, d, 1, 0, 0, 0⟩ : Sm)).t1, .int .i64 ((⟨d, d, d, 1, 0, 0, 0⟩ : Sm)).t2] 24)) w.heap.size 24 Sm.zero := Row.alloc (Row.made w _ _) _
  simp only at h1 h0
  unfold Sm.v at hr
  generalize hb : decide (Sm.R (⟨d, d, d, 1, 0, 0, 0⟩ : Sm)) = bb at *
  clear hb
  have HR := Lib.hid hr; have H1 := Lib.hid h1; have H0 := Lib.hid h0; clear hr h1 h0
  unfold Sm.orz
  go_enter Try.func14, Try.ntmps14
  go_wp2_with fail
  refine (HR.out _).mono ?_; rintro e w2 ⟨rfl, hb2⟩
  have h1 : HoldsM w2 (w.heap.size + 1) 24 (⟨d, d, d, 1, 0, 0, 0⟩ : Sm) := Row.below H1.out hb2 (by simp)
  have h0 : HoldsM w2 w.heap.size 24 Sm.zero := Row.below H0.out hb2 (by simp; omega)
  obtain ⟨c0, c1, c2, c3, c4, c5, c6⟩ := h1.cells7
  obtain ⟨f0, f1, f2, f3, f4, f5, f6⟩ := h0.free7
  obtain ⟨z0, z1, z2, z3, z4, z5, z6⟩ := h0.cells7
  have HB := Lib.hid ((below_alloc2 w _ _).trans (hb2.mono (by simp; omega)))
  have HZ := Lib.hid h0
  clear hb2 h1 h0
  simp only at c0 c1 c2 c3 c4 c5 c6
  cases bb with
  | true =>
    go_wp2_with fail
    refine bodyPost_ret (v := .tuple #[Sm.v (⟨d, d, d, 1, 0, 0, 0⟩ : Sm), .bool true]) (two_results rfl _ _ _ 24 _ (0, 0) _ rfl (row_set7 HZ.out) Try.underlying24 rfl (by kernel_rfl) rfl) rfl ?_
    exact ⟨rfl, below_set7 HB.out (Nat.le_refl _)⟩
  | false =>
    go_wp2_with fail
    refine bodyPost_ret (v := .tuple #[Sm.v Sm.zero, .bool false]) (two_results rfl _ _ _ 24 _ (0, 0) _ rfl (row_set7 HZ.out) Try.underlying24 rfl (by kernel_rfl) rfl) rfl ?_
    exact ⟨rfl, below_set7 HB.out (Nat.le_refl _)⟩
set_option maxHeartbeats 2000000 in
theorem of_x (k d : Int) (h7 : (k == 7) = false) (h8 : (k == 8) = false) (h9 : (k == 9) = false) (h1 : ¬ k < 1) (h10 : ¬ 10 < k) (w : World) : Calls Try.prog 14 #[.int .u8 k, .int .i64 d] w fun e w' => e = .returned (.tuple #[(Sm.orz (⟨d, d, d, 0, 0, 0, 0⟩ : Sm) (decide (Sm.R (⟨d, d, d, 0, 0, 0, 0⟩ : Sm)))).v, .bool (decide (Sm.R (⟨d, d, d, 0, 0, 0, 0⟩ : Sm)))]) ∧ Below w.heap.size w w' := by
  have hr := fun w => rightM_any (⟨d, d, d, 0, 0, 0, 0⟩ : Sm) w
  have h1q : HoldsM ((w.alloc (.cells #[.int .i64 0, .int .i64 0, .int .i64 0, .int .i64 0, .int .i64 0, .int .i64 0, .int .i64 0] 24)).alloc (.cells #[.int .i64 ((⟨d, d, d, 0, 0, 0, 0⟩ : Sm)).fr, .int .i64 ((⟨d, d, d, 0, 0, 0, 0⟩ : Sm)).to, .int .i64 ((⟨d, d, d, 0, 0, 0, 0⟩ : Sm)).kp, .int .i64 ((⟨d, d, d, 0, 0, 0, 0⟩ : Sm)).ad, .int .i64 ((⟨d, d, d, 0, 0, 0, 0⟩ : Sm)).t0, .int .i64 ((⟨d, d, d, 0, 0, 0, 0⟩ : Sm)).t1, .int .i64 ((⟨d, d, d, 0, 0, 0, 0⟩ : Sm)).t2] 24)) (w.heap.size + 1) 24 (⟨d, d, d, 0, 0, 0, 0⟩ : Sm) := made2r w _ _ _
  have h0 : HoldsM ((w.alloc (.cells #[.int .i64 0, .int .i64 0, .int .i64 0, .int .i64 0, .int .i64 0, .int .i64 0, .int .i64 0] 24)).alloc (.cells #[.int .i64 ((⟨d, d, d, 0, 0, 0, 0⟩ : Sm)).fr, .int .i64 ((⟨d, d, d, 0, 0, 0, 0⟩ : Sm)).to, .int .i64 ((⟨d, d, d, 0, 0, 0, 0⟩ : Sm)).kp, .int .i64 ((⟨d, d, d, 0, 0, 0, 0⟩ : Sm)).ad, .int .i64 ((⟨d, d, d, 0, 0, 0, 0⟩ : Sm)).t0, .int .i64 ((⟨d, d, d, 0, 0, 0, 0⟩ : Sm)).t1, .int .i64 ((⟨d, d, d, 0, 0, 0, 0⟩ : Sm)).t2] 24)) w.heap.size 24 Sm.zero := Row.alloc (Row.made w _ _) _
  simp only at h1q h0
  unfold Sm.v at hr
  generalize hb : decide (Sm.R (⟨d, d, d, 0, 0, 0, 0⟩ : Sm)) = bb at *
  clear hb
  have HR := Lib.hid hr; have H1 := Lib.hid h1q; have H0 := Lib.hid h0; clear hr h1q h0
  unfold Sm.orz
  go_enter Try.func14, Try.ntmps14
  go_wp2_with fail
  refine (HR.out _).mono ?_; rintro e w2 ⟨rfl, hb2⟩
  have h1 : HoldsM w2 (w.heap.size + 1) 24 (⟨d, d, d, 0, 0, 0, 0⟩ : Sm) := Row.below H1.out hb2 (by simp)
  have h0 : HoldsM w2 w.heap.size 24 Sm.zero := Row.below H0.out hb2 (by simp; omega)
  obtain ⟨c0, c1, c2, c3, c4, c5, c6⟩ := h1.cells7
  obtain ⟨f0, f1, f2, f3, f4, f5, f6⟩ := h0.free7
  obtain ⟨z0, z1, z2, z3, z4, z5, z6⟩ := h0.cells7
  have HB := Lib.hid ((below_alloc2 w _ _).trans (hb2.mono (by simp; omega)))
  have HZ := Lib.hid h0
  clear hb2 h1 h0
  simp only at c0 c1 c2 c3 c4 c5 c6
  cases bb with
  | true =>
    go_wp2_with fail
    refine bodyPost_ret (v := .tuple #[Sm.v (⟨d, d, d, 0, 0, 0, 0⟩ : Sm), .bool true]) (two_results rfl _ _ _ 24 _ (0, 0) _ rfl (row_set7 HZ.out) Try.underlying24 rfl (by kernel_rfl) rfl) rfl ?_
    exact ⟨rfl, below_set7 HB.out (Nat.le_refl _)⟩
  | false =>
    go_wp2_with fail
    refine bodyPost_ret (v := .tuple #[Sm.v Sm.zero, .bool false]) (two_results rfl _ _ _ 24 _ (0, 0) _ rfl (row_set7 HZ.out) Try.underlying24 rfl (by kernel_rfl) rfl) rfl ?_
    exact ⟨rfl, below_set7 HB.out (Nat.le_refl _)⟩
set_option maxHeartbeats 2000000 in
theorem of_no (k d : Int) (h7 : (k == 7) = false) (h8 : (k == 8) = false) (h9 : (k == 9) = false) (hk : k < 1 ∨ 10 < k) (w : World) : Calls Try.prog 14 #[.int .u8 k, .int .i64 d] w fun e w' => e = .returned (.tuple #[Sm.zero.v, .bool false]) ∧ Below w.heap.size w w' := by
  have h0 : HoldsM ((w.alloc (.cells #[.int .i64 0, .int .i64 0, .int .i64 0, .int .i64 0, .int .i64 0, .int .i64 0, .int .i64 0] 24)).alloc (.cells #[.int .i64 d, .int .i64 d, .int .i64 d, .int .i64 0, .int .i64 0, .int .i64 0, .int .i64 0] 24)) w.heap.size 24 Sm.zero := Row.alloc (Row.made w _ _) _
  have H0 := Lib.hid h0; clear h0
  by_cases h1 : k < 1
  · clear hk
    go_enter Try.func14, Try.ntmps14
    go_wp2_with fail
    refine bodyPost_ret (v := .tuple #[Sm.v Sm.zero, .bool false]) (two_results rfl _ _ _ 24 _ (0, 0) _ rfl H0.out Try.underlying24 rfl (by kernel_rfl) rfl) rfl ?_
    exact ⟨rfl, below_alloc2 w _ _⟩
  · have h10 : 10 < k := hk.resolve_left h1
    clear hk
    go_enter Try.func14, Try.ntmps14
    go_wp2_with fail
    refine bodyPost_ret (v := .tuple #[Sm.v Sm.zero, .bool false]) (two_results rfl _ _ _ 24 _ (0, 0) _ rfl H0.out Try.underlying24 rfl (by kernel_rfl) rfl) rfl ?_
    exact ⟨rfl, below_alloc2 w _ _⟩
theorem orz_no {s : Sm} (h : ¬ s.R) : s.orz (decide s.R) = Sm.zero ∧ decide s.R = false := by
  have : decide s.R = false := decide_eq_false h
  rw [this]; exact ⟨rfl, rfl⟩
theorem orz_same {s t : Sm} (h : s = t ∨ (¬ s.R ∧ ¬ t.R)) : s.orz (decide s.R) = t.orz (decide t.R) ∧ decide s.R = decide t.R := by
  rcases h with rfl | ⟨h1, h2⟩
  · exact ⟨rfl, rfl⟩
  · obtain ⟨a1, a2⟩ := orz_no h1; obtain ⟨b1, b2⟩ := orz_no h2
    exact ⟨a1.trans b1.symm, a2.trans b2.symm⟩
theorem of_orz {k d : Int} (h1 : 1 ≤ k) (h2 : k ≤ 10) : Sm.of_ k d = (Sm.ofk k d).orz (decide (Sm.ofk k d).R) ∧ decide (okOf k d) = decide (Sm.ofk k d).R := by
  have : decide (okOf k d) = decide (Sm.ofk k d).R := decide_eq_decide.2 ⟨fun h => h.2.2, fun h => ⟨h1, h2, h⟩⟩
  refine ⟨?_, this⟩
  unfold Sm.of_ Sm.orz
  by_cases h : okOf k d
  · rw [if_pos h, if_pos (by simpa using h.2.2)]
  · rw [if_neg h, if_neg (by simpa using fun h3 => h ⟨h1, h2, h3⟩)]
/-- the summary of a kind: the program's -/
theorem of_any (k d : Int) (w : World) : Calls Try.prog 14 #[.int .u8 k, .int .i64 d] w fun e w' => e = .returned (.tuple #[(Sm.of_ k d).v, .bool (decide (okOf k d))]) ∧ Below w.heap.size w w' := by
  by_cases h7 : k = 7
  · subst h7
    obtain ⟨e1, e2⟩ := of_orz (k := 7) (d := d) (by omega) (by omega)
    rw [e1, e2, show Sm.ofk 7 d = ⟨d - 1, d, d - 1, 0, 0, 0, 0⟩ from rfl]
    obtain ⟨p, hp⟩ : ∃ p, IntKind.i64.wrap (d - 1) = p := ⟨_, rfl⟩
    have hs : (⟨p, d, p, 0, 0, 0, 0⟩ : Sm) = ⟨d - 1, d, d - 1, 0, 0, 0, 0⟩ ∨ (¬ Sm.R ⟨p, d, p, 0, 0, 0, 0⟩ ∧ ¬ Sm.R ⟨d - 1, d, d - 1, 0, 0, 0, 0⟩) := by
      by_cases hd : 0 ≤ d ∧ d ≤ 3
      · left
        have := IntWalk.i64_in (d - 1) (by omega)
        rw [hp] at this; rw [this]
      · right; unfold Sm.R; simp only; omega
    obtain ⟨g1, g2⟩ := orz_same hs
    rw [← g1, ← g2]
    exact of_7 d p hp w
  by_cases h8 : k = 8
  · subst h8
    obtain ⟨e1, e2⟩ := of_orz (k := 8) (d := d) (by omega) (by omega)
    rw [e1, e2, show Sm.ofk 8 d = ⟨d + 1, d, d, 0, 0, 0, 0⟩ from rfl]
    obtain ⟨p, hp⟩ : ∃ p, IntKind.i64.wrap (d + 1) = p := ⟨_, rfl⟩
    have hs : (⟨p, d, d, 0, 0, 0, 0⟩ : Sm) = ⟨d + 1, d, d, 0, 0, 0, 0⟩ ∨ (¬ Sm.R ⟨p, d, d, 0, 0, 0, 0⟩ ∧ ¬ Sm.R ⟨d + 1, d, d, 0, 0, 0, 0⟩) := by
      by_cases hd : 0 ≤ d ∧ d ≤ 3
      · left
        have := IntWalk.i64_in (d + 1) (by omega)
        rw [hp] at this; rw [this]
      · right; unfold Sm.R; simp only; omega
    obtain ⟨g1, g2⟩ := orz_same hs
    rw [← g1, ← g2]
    exact of_8 d p hp w
  by_cases h9 : k = 9
  · subst h9
    obtain ⟨e1, e2⟩ := of_orz (k := 9) (d := d) (by omega) (by omega)
    rw [e1, e2, show Sm.ofk 9 d = ⟨d, d, d, 1, 0, 0, 0⟩ from rfl]
    exact of_9 d w
  have b7 : (k == 7) = false := by simpa using h7
  have b8 : (k == 8) = false := by simpa using h8
  have b9 : (k == 9) = false := by simpa using h9
  by_cases hk : 1 ≤ k ∧ k ≤ 10
  · obtain ⟨e1, e2⟩ := of_orz (d := d) hk.1 hk.2
    rw [e1, e2, show Sm.ofk k d = ⟨d, d, d, 0, 0, 0, 0⟩ by unfold Sm.ofk; rw [if_neg h7, if_neg h8, if_neg h9]]
    exact of_x k d b7 b8 b9 (by omega) (by omega) w
  · have hno : ¬ okOf k d := fun h => hk ⟨h.1, h.2.1⟩
    rw [decide_eq_false hno, show Sm.of_ k d = Sm.zero from if_neg hno]
    exact of_no k d b7 b8 b9 (by omega) w
end Go.Proofs.Ytdpadkellpkppaa
