/- SmOf, SmOfR, SmThM -/
import Derived.Test.YtdpadkellpkppaaSmA
import Derived.Test.YtdpadkellpkppaaStRefA
import Derived.Test.YtdpadkellpkppaaSmB
namespace Go.Proofs.Ytdpadkellpkppaa
set_option linter.unusedVariables false
section
open Go.ChangeShapes Go.WideShapes Go.ChangeAt Go.RowKit Go.BigFrame
set_option maxRecDepth 100000
theorem plain_any (s : Sm) (w : World) : Calls Try.prog 13 #[s.v] w fun e w' => e = .returned s.v ∧ Below w.heap.size w w' := by
  unfold Sm.v
  go_enter Try.func13, Try.ntmps13
  go_wp2_with fail
  refine bodyPost_ret (results_cell_row rfl _ _ (w.heap.size + 1) 30 _ (0, 0) _ rfl (made2 _ _ _) Try.underlying30 rfl (by kernel_rfl)) rfl ?_
  exact ⟨rfl, ((Below.refl _ _).alloc (Nat.le_refl _) _).alloc (by simp) _⟩
/-- the summary of a kind at a depth, be it right or not -/
def Sm.ofk (k d : Int) : Sm := if k = 7 then ⟨d - 1, d, d - 1, 0, 0, 0, 0⟩ else if k = 8 then ⟨d + 1, d, d, 0, 0, 0, 0⟩ else if k = 9 then ⟨d, d, d, 1, 0, 0, 0⟩ else ⟨d, d, d, 0, 0, 0, 0⟩
def okOf (k d : Int) : Prop := 1 ≤ k ∧ k ≤ 10 ∧ (Sm.ofk k d).R
instance (k d : Int) : Decidable (okOf k d) := inferInstanceAs (Decidable (_ ∧ _))
def Sm.of_ (k d : Int) : Sm := if okOf k d then Sm.ofk k d else Sm.zero
theorem row_set7 {w : World} {b : Nat} {t : TypeId} {a1 a2 a3 a4 a5 a6 a7 b1 b2 b3 b4 b5 b6 b7 : Value} (h : Row w b t [a1, a2, a3, a4, a5, a6, a7]) :
    Row (((((((w.setCell ⟨b, 0, none⟩ b1).setCell ⟨b, 1, none⟩ b2).setCell ⟨b, 2, none⟩ b3).setCell ⟨b, 3, none⟩ b4).setCell ⟨b, 4, none⟩ b5).setCell ⟨b, 5, none⟩ b6).setCell ⟨b, 6, none⟩ b7) b t [b1, b2, b3, b4, b5, b6, b7] :=
  ((((((h.put 0 b1).put 1 b2).put 2 b3).put 3 b4).put 4 b5).put 5 b6).put 6 b7
theorem below_set7 {w w' : World} {B g : Nat} {b1 b2 b3 b4 b5 b6 b7 : Value} (h : Below B w w') (hg : B ≤ g) :
    Below B w (((((((w'.setCell ⟨g, 0, none⟩ b1).setCell ⟨g, 1, none⟩ b2).setCell ⟨g, 2, none⟩ b3).setCell ⟨g, 3, none⟩ b4).setCell ⟨g, 4, none⟩ b5).setCell ⟨g, 5, none⟩ b6).setCell ⟨g, 6, none⟩ b7) :=
  ((((((h.setCell hg _).setCell hg _).setCell hg _).setCell hg _).setCell hg _).setCell hg _).setCell hg _
theorem made2r (w : World) (o : Obj) (t : TypeId) (l : List Value) : Row ((w.alloc o).alloc (.cells l.toArray t)) (w.heap.size + 1) t l := made2 w o _
theorem below_alloc2 (w : World) (o o' : Obj) : Below w.heap.size w ((w.alloc o).alloc o') := ((Below.refl _ _).alloc (Nat.le_refl _) _).alloc (by simp) _
/-- a bool's two ways: the summary, or nothing -/
def Sm.orz (s : Sm) (b : Bool) : Sm := if b then s else Sm.zero
set_option maxHeartbeats 2000000 in
theorem of_7 (d p : Int) (hp : IntKind.i64.wrap (d - 1) = p) (w : World) : Calls Try.prog 14 #[.int .u8 7, .int .i64 d] w fun e w' => e = .returned (.tuple #[(Sm.orz (⟨p, d, p, 0, 0, 0, 0⟩ : Sm) (decide (Sm.R (⟨p, d, p, 0, 0, 0, 0⟩ : Sm)))).v, .bool (decide (Sm.R (⟨p, d, p, 0, 0, 0, 0⟩ : Sm)))]) ∧ Below w.heap.size w w' := by
  have hr := fun w => rightM_any (⟨p, d, p, 0, 0, 0, 0⟩ : Sm) w
  have h1 : HoldsM ((w.alloc (.cells #[.int .i64 0, .int .i64 0, .int .i64 0, .int .i64 0, .int .i64 0, .int .i64 0, .int .i64 0] 24)).alloc (.cells #[.int .i64 ((⟨p, d, p, 0, 0, 0, 0⟩ : Sm)).fr, .int .i64 ((⟨p, d, p, 0, 0, 0, 0⟩ : Sm)).to, .int .i64 ((⟨p, d, p, 0, 0, 0, 0⟩ : Sm)).kp, .int .i64 ((⟨p, d, p, 0, 0, 0, 0⟩ : Sm)).ad, .int .i64 ((⟨p, d, p, 0, 0, 0, 0⟩ : Sm)).t0, .int .i64 ((⟨p, d, p, 0, 0, 0, 0⟩ : Sm)).t1, .int .i64 ((⟨p, d, p, 0, 0, 0, 0⟩ : Sm)).t2] 24)) (w.heap.size + 1) 24 (⟨p, d, p, 0, 0, 0, 0⟩ : Sm) := made2r w _ _ _
  have h0 : HoldsM ((w.alloc (.cells #[.int .i64 0, .int .i64 0, .int .i64 0, .int .i64 0, .int .i64 0, .int .i64 0, .int .i64 0] 24)).alloc (.cells #[.int .i64 ((⟨p, d, p, 0, 0, 0, 0⟩ : Sm)).fr, .int .i64 ((⟨p, d, p, 0, 0, 0, 0⟩ : Sm)).to, .int .i64 ((⟨p, d, p, 0, 0, 0, 0⟩ : Sm)).kp, .int .i64 ((⟨p, d, p, 0, 0, 0, 0⟩ : Sm)).ad, .int .i64 ((⟨p, d, p, 0, 0, 0, 0⟩ : Sm)).t0, .int .i64 ((⟨p, d, p, 0, 0, 0, 0⟩ : Sm)).t1, .int .i64 ((⟨p, d, p, 0, 0, 0, 0⟩ : Sm)).t2] 24)) w.heap.size 24 Sm.zero := Row.alloc (Row.made w _ _) _
  simp only at h1 h0
  unfold Sm.v at hr
  generalize hb : decide (Sm.R (⟨p, d, p, 0, 0, 0, 0⟩ : Sm)) = bb at *
  clear hb
  have HR := Lib.hid hr; have H1 := Lib.hid h1; have H0 := Lib.hid h0; clear hr h1 h0
  unfold Sm.orz
  go_enter Try.func14, Try.ntmps14
  go_wp2_with fail
  refine (HR.out _).mono ?_; rintro e w2 ⟨rfl, hb2⟩
  have h1 : HoldsM w2 (w.heap.size + 1) 24 (⟨p, d, p, 0, 0, 0, 0⟩ : Sm) := Row.below H1.out hb2 (by simp)
  have h0 : HoldsM w2 w.heap.size 24 Sm.zero := Row.below H0.out hb2 (by simp; omega)
  obtain ⟨c0, c1, c2, c3, c4, c5, c6⟩ := h1.cells7
  obtain ⟨f0, f1, f2, f3, f4, f5, f6⟩ := h0.free7
  obtain ⟨z0, z1, z2, z3, z4, z5, z6⟩ := h0.cells7
  have HB := Lib.hid ((below_alloc2 w _ _).trans (hb2.mono (by simp; omega)))
  have HZ := Lib.hid h0
  clear hb2 h1 h0
  simp only at c0 c1 c2 c3 c4 c5 c6
  cases bb with
  | true =>
    go_wp2_with fail
    refine bodyPost_ret (v := .tuple #[Sm.v (⟨p, d, p, 0, 0, 0, 0⟩ : Sm), .bool true]) (two_results rfl _ _ _ 24 _ (0, 0) _ rfl (row_set7 HZ.out) Try.underlying24 rfl (by kernel_rfl) rfl) rfl ?_
    exact ⟨rfl, below_set7 HB.out (Nat.le_refl _)⟩
  | false =>
    go_wp2_with fail
    refine bodyPost_ret (v := .tuple #[Sm.v Sm.zero, .bool false]) (two_results rfl _ _ _ 24 _ (0, 0) _ rfl (row_set7 HZ.out) Try.underlying24 rfl (by kernel_rfl) rfl) rfl ?_
    exact ⟨rfl, below_set7 HB.out (Nat.le_refl _)⟩
set_option maxHeartbeats 2000000 in
theorem of_8 (d p : Int) (hp : IntKind.i64.wrap (d + 1) = p) (w : World) : Calls Try.prog 14 #[.int .u8 8, .int .i64 d] w fun e w' => e = .returned (.tuple #[(Sm.orz (⟨p, d, d, 0, 0, 0, 0⟩ : Sm) (decide (Sm.R (⟨p, d, d, 0, 0, 0, 0⟩ : Sm)))).v, .bool (decide (Sm.R (⟨p, d, d, 0, 0, 0, 0⟩ : Sm)))]) ∧ Below w.heap.size w w' := by
  have hr := fun w => rightM_any (⟨p, d, d, 0, 0, 0, 0⟩ : Sm) w
  have h1 : HoldsM ((w.alloc (.cells #[.int .i64 0, .int .i64 0, .int .i64 0, .int .i64 0, .int .i64 0, .int .i64 0, .int .i64 0] 24)).alloc (.cells #[.int .i64 ((⟨p, d, d, 0, 0, 0, 0⟩ : Sm)).fr, .int .i64 ((⟨p, d, d, 0, 0, 0, 0⟩ : Sm)).to, .int .i64 ((⟨p, d, d, 0, 0, 0, 0⟩ : Sm)).kp, .int .i64 ((⟨p, d, d, 0, 0, 0, 0⟩ : Sm)).ad, .int .i64 ((⟨p, d, d, 0, 0, 0, 0⟩ : Sm)).t0, .int .i64 ((⟨p, d, d, 0, 0, 0, 0⟩ : Sm)).t1, .int .i64 ((⟨p, d, d, 0, 0, 0, 0⟩ : Sm)).t2] 24)) (w.heap.size + 1) 24 (⟨p, d, d, 0, 0, 0, 0⟩ : Sm) := made2r w _ _ _
  have h0 : HoldsM ((w.alloc (.cells #[.int .i64 0, .int .i64 0, .int .i64 0, .int .i64 0, .int .i64 0, .int .i64 0, .int .i64 0] 24)).alloc (.cells #[.int .i64 ((⟨p, d, d, 0, 0, 0, 0⟩ : Sm)).fr, .int .i64 ((⟨p, d, d, 0, 0, 0, 0⟩ : Sm)).to, .int .i64 ((⟨p, d, d, 0, 0, 0, 0⟩ : Sm)).kp, .int .i64 ((⟨p, d, d, 0, 0, 0, 0⟩ : Sm)).ad, .int .i64 ((⟨p, d, d, 0, 0, 0, 0⟩ : Sm)).t0, .int .i64 ((⟨p, d, d, 0, 0, 0, 0⟩ : Sm)).t1, .int .i64 ((⟨p, d, d, 0, 0, 0, 0⟩ : Sm)).t2] 24)) w.heap.size 24 Sm.zero := Row.alloc (Row.made w _ _) _
  simp only at h1 h0
  unfold Sm.v at hr
  generalize hb : decide (Sm.R (⟨p, d, d, 0, 0, 0, 0⟩ : Sm)) = bb at *
  clear hb
  have HR := Lib.hid hr; have H1 := Lib.hid h1; have H0 := Lib.hid h0; clear hr h1 h0
  unfold Sm.orz
  go_enter Try.func14, Try.ntmps14
  go_wp2_with fail
  refine (HR.out _).mono ?_; rintro e w2 ⟨rfl, hb2⟩
  have h1 : HoldsM w2 (w.heap.size + 1) 24 (⟨p, d, d, 0, 0, 0, 0⟩ : Sm) := Row.below H1.out hb2 (by simp)
  have h0 : HoldsM w2 w.heap.size 24 Sm.zero := Row.below H0.out hb2 (by simp; omega)
  obtain ⟨c0, c1, c2, c3, c4, c5, c6⟩ := h1.cells7
  obtain ⟨f0, f1, f2, f3, f4, f5, f6⟩ := h0.free7
  obtain ⟨z0, z1, z2, z3, z4, z5, z6⟩ := h0.cells7
  have HB := Lib.hid ((below_alloc2 w _ _).trans (hb2.mono (by simp; omega)))
  have HZ := Lib.hid h0
  clear hb2 h1 h0
  simp only at c0 c1 c2 c3 c4 c5 c6
  cases bb with
  | true =>
    go_wp2_with fail
    refine bodyPost_ret (v := .tuple #[Sm.v (⟨p, d, d, 0, 0, 0, 0⟩ : Sm), .bool true]) (two_results rfl _ _ _ 24 _ (0, 0) _ rfl (row_set7 HZ.out) Try.underlying24 rfl (by kernel_rfl) rfl) rfl ?_
    exact ⟨rfl, below_set7 HB.out (Nat.le_refl _)⟩
  | false =>
    go_wp2_with fail
    refine bodyPost_ret (v := .tuple #[Sm.v Sm.zero, .bool false]) (two_results rfl _ _ _ 24 _ (0, 0) _ rfl (row_set7 HZ.out) Try.underlying24 rfl (by kernel_rfl) rfl) rfl ?_
    exact ⟨rfl, below_set7 HB.out (Nat.le_refl _)⟩
set_option maxHeartbeats 2000000 in
theorem of_9 (d : Int) (w : World) : Calls Try.prog 14 #[.int .u8 9, .int .i64 d] w fun e w' => e = .returned (.tuple #[(Sm.orz (⟨d, d, d, 1, 0, 0, 0⟩ : Sm) (decide (Sm.R (⟨d, d, d, 1, 0, 0, 0⟩ : Sm)))).v, .bool (decide (Sm.R (⟨d, d, d, 1, 0, 0, 0⟩ : Sm)))]) ∧ Below w.heap.size w w' := by
  have hr := fun w => rightM_any (⟨d, d, d, 1, 0, 0, 0⟩ : Sm) w
  have h1 : HoldsM ((w.alloc (.cells #[.int .i64 0, .int .i64 0, .int .i64 0, .int .i64 0, .int .i64 0, .int .i64 0, .int .i64 0] 24)).alloc (.cells #[.int .i64 ((⟨d, d, d, 1, 0, 0, 0⟩ : Sm)).fr, .int .i64 ((⟨d, d, d, 1, 0, 0, 0⟩ : Sm)).to, .int .i64 ((⟨d, d, d, 1, 0, 0, 0⟩ : Sm)).kp, .int .i64 ((⟨d, d, d, 1, 0, 0, 0⟩ : Sm)).ad, .int .i64 ((⟨d, d, d, 1, 0, 0, 0⟩ : Sm)).t0, .int .i64 ((⟨d, d, d, 1, 0, 0, 0⟩ : Sm)).t1, .int .i64 ((⟨d, d, d, 1, 0, 0, 0⟩ : Sm)).t2] 24)) (w.heap.size + 1) 24 (⟨d, d, d, 1, 0, 0, 0⟩ : Sm) := made2r w _ _ _
  have h0 : HoldsM ((w.alloc (.cells #[.int .i64 0, .int .i64 0, .int .i64 0, .int .i64 0, .int .i64 0, .int .i64 0, .int .i64 0] 24)).alloc (.cells #[.int .i64 ((⟨d, d, d, 1, 0, 0, 0⟩ : Sm)).fr, .int .i64 ((⟨d, d, d, 1, 0, 0, 0⟩ : Sm)).to, .int .i64 ((⟨d, d, d, 1, 0, 0, 0⟩ : Sm)).kp, .int .i64 ((⟨d, d, d, 1, 0, 0, 0⟩ : Sm)).ad, .int .i64 ((⟨d, d, d, 1, 0, 0, 0⟩ : Sm)).t0, .int .i64 ((⟨d, d, d, 1, 0, 0, 0⟩ : Sm)).t1, .int .i64 ((⟨d, d, d, 1, 0, 0, 0⟩ : Sm)).t2] 24)) w.heap.size 24 Sm.zero := Row.alloc (Row.made w _ _) _
  simp only at h1 h0
  unfold Sm.v at hr
  generalize hb : decide (Sm.R (⟨d, d, d, 1, 0, 0, 0⟩ : Sm)) = bb at *
  clear hb
  have HR := Lib.hid hr; have H1 := Lib.hid h1; have H0 := Lib.hid h0; clear hr h1 h0
  unfold Sm.orz
  go_enter Try.func14, Try.ntmps14
  go_wp2_with fail
  refine (HR.out _).mono ?_; rintro e w2 ⟨rfl, hb2⟩
  have h1 : HoldsM w2 (w.heap.size + 1) 24 (⟨d, d, d, 1, 0, 0, 0⟩ : Sm) := Row.below H1.out hb2 (by simp)
  have h0 : HoldsM w2 w.heap.size 24 Sm.zero := Row.below H0.out hb2 (by simp; omega)
  obtain ⟨c0, c1, c2, c3, c4, c5, c6⟩ := h1.cells7
  obtain ⟨f0, f1, f2, f3, f4, f5, f6⟩ := h0.free7
  obtain ⟨z0, z1, z2, z3, z4, z5, z6⟩ := h0.cells7
  have HB := Lib.hid ((below_alloc2 w _ _).trans (hb2.mono (by simp; omega)))
  have HZ := Lib.hid h0
  clear hb2 h1 h0
  simp only at c0 c1 c2 c3 c4 c5 c6
  cases bb with
  | true =>
    go_wp2_with fail
    refine bodyPost_ret (v := .tuple #[Sm.v (⟨d, d, d, 1, 0, 0, 0⟩ : Sm), .bool true]) (two_results rfl _ _ _ 24 _ (0, 0) _ rfl (row_set7 HZ.out) Try.underlying24 rfl (by kernel_rfl) rfl) rfl ?_
    exact ⟨rfl, below_set7 HB.out (Nat.le_refl _)⟩
  | false =>
    go_wp2_with fail
    refine bodyPost_ret (v := .tuple #[Sm.v Sm.zero, .bool false]) (two_results rfl _ _ _ 24 _ (0, 0) _ rfl (row_set7 HZ.out) Try.underlying24 rfl (by kernel_rfl) rfl) rfl ?_
    exact ⟨rfl, below_set7 HB.out (Nat.le_refl _)⟩
set_option maxHeartbeats 2000000 in
theorem of_x (k d : Int) (h7 : (k == 7) = false) (h8 : (k == 8) = false) (h9 : (k == 9) = false) (h1 : ¬ k < 1) (h10 : ¬ 10 < k) (w : World) : Calls Try.prog 14 #[.int .u8 k, .int .i64 d] w fun e w' => e = .returned (.tuple #[(Sm.orz (⟨d, d, d, 0, 0, 0, 0⟩ : Sm) (decide (Sm.R (⟨d, d, d, 0, 0, 0, 0⟩ : Sm)))).v, .bool (decide (Sm.R (⟨d, d, d, 0, 0, 0, 0⟩ : Sm)))]) ∧ Below w.heap.size w w' := by
  have hr := fun w => rightM_any (⟨d, d, d, 0, 0, 0, 0⟩ : Sm) w
  have h1q : HoldsM ((w.alloc (.cells #[.int .i64 0, .int .i64 0, .int .i64 0, .int .i64 0, .int .i64 0, .int .i64 0, .int .i64 0] 24)).alloc (.cells #[.int .i64 ((⟨d, d, d, 0, 0, 0, 0⟩ : Sm)).fr, .int .i64 ((⟨d, d, d, 0, 0, 0, 0⟩ : Sm)).to, .int .i64 ((⟨d, d, d, 0, 0, 0, 0⟩ : Sm)).kp, .int .i64 ((⟨d, d, d, 0, 0, 0, 0⟩ : Sm)).ad, .int .i64 ((⟨d, d, d, 0, 0, 0, 0⟩ : Sm)).t0, .int .i64 ((⟨d, d, d, 0, 0, 0, 0⟩ : Sm)).t1, .int .i64 ((⟨d, d, d, 0, 0, 0, 0⟩ : Sm)).t2] 24)) (w.heap.size + 1) 24 (⟨d, d, d, 0, 0, 0, 0⟩ : Sm) := made2r w _ _ _
  have h0 : HoldsM ((w.alloc (.cells #[.int .i64 0, .int .i64 0, .int .i64 0, .int .i64 0, .int .i64 0, .int .i64 0, .int .i64 0] 24)).alloc (.cells #[.int .i64 ((⟨d, d, d, 0, 0, 0, 0⟩ : Sm)).fr, .int .i64 ((⟨d, d, d, 0, 0, 0, 0⟩ : Sm)).to, .int .i64 ((⟨d, d, d, 0, 0, 0, 0⟩ : Sm)).kp, .int .i64 ((⟨d, d, d, 0, 0, 0, 0⟩ : Sm)).ad, .int .i64 ((⟨d, d, d, 0, 0, 0, 0⟩ : Sm)).t0, .int .i64 ((⟨d, d, d, 0, 0, 0, 0⟩ : Sm)).t1, .int .i64 ((⟨d, d, d, 0, 0, 0, 0⟩ : Sm)).t2] 24)) w.heap.size 24 Sm.zero := Row.alloc (Row.made w _ _) _
  simp only at h1q h0
  unfold Sm.v at hr
  generalize hb : decide (Sm.R (⟨d, d, d, 0, 0, 0, 0⟩ : Sm)) = bb at *
  clear hb
  have HR := Lib.hid hr; have H1 := Lib.hid h1q; have H0 := Lib.hid h0; clear hr h1q h0
  unfold Sm.orz
  go_enter Try.func14, Try.ntmps14
  go_wp2_with fail
  refine (HR.out _).mono ?_; rintro e w2 ⟨rfl, hb2⟩
  have h1 : HoldsM w2 (w.heap.size + 1) 24 (⟨d, d, d, 0, 0, 0, 0⟩ : Sm) := Row.below H1.out hb2 (by simp)
  have h0 : HoldsM w2 w.heap.size 24 Sm.zero := Row.below H0.out hb2 (by simp; omega)
  obtain ⟨c0, c1, c2, c3, c4, c5, c6⟩ := h1.cells7
  obtain ⟨f0, f1, f2, f3, f4, f5, f6⟩ := h0.free7
  obtain ⟨z0, z1, z2, z3, z4, z5, z6⟩ := h0.cells7
  have HB := Lib.hid ((below_alloc2 w _ _).trans (hb2.mono (by simp; omega)))
  have HZ := Lib.hid h0
  clear hb2 h1 h0
  simp only at c0 c1 c2 c3 c4 c5 c6
  cases bb with
  | true =>
    go_wp2_with fail
    refine bodyPost_ret (v := .tuple #[Sm.v (⟨d, d, d, 0, 0, 0, 0⟩ : Sm), .bool true]) (two_results rfl _ _ _ 24 _ (0, 0) _ rfl (row_set7 HZ.out) Try.underlying24 rfl (by kernel_rfl) rfl) rfl ?_
    exact ⟨rfl, below_set7 HB.out (Nat.le_refl _)⟩
  | false =>
    go_wp2_with fail
    refine bodyPost_ret (v := .tuple #[Sm.v Sm.zero, .bool false]) (two_results rfl _ _ _ 24 _ (0, 0) _ rfl (row_set7 HZ.out) Try.underlying24 rfl (by kernel_rfl) rfl) rfl ?_
    exact ⟨rfl, below_set7 HB.out (Nat.le_refl _)⟩
set_option maxHeartbeats 2000000 in
theorem of_no (k d : Int) (h7 : (k == 7) = false) (h8 : (k == 8) = false) (h9 : (k == 9) = false) (hk : k < 1 ∨ 10 < k) (w : World) : Calls Try.prog 14 #[.int .u8 k, .int .i64 d] w fun e w' => e = .returned (.tuple #[Sm.zero.v, .bool false]) ∧ Below w.heap.size w w' := by
  have h0 : HoldsM ((w.alloc (.cells #[.int .i64 0, .int .i64 0, .int .i64 0, .int .i64 0, .int .i64 0, .int .i64 0, .int .i64 0] 24)).alloc (.cells #[.int .i64 d, .int .i64 d, .int .i64 d, .int .i64 0, .int .i64 0, .int .i64 0, .int .i64 0] 24)) w.heap.size 24 Sm.zero := Row.alloc (Row.made w _ _) _
  have H0 := Lib.hid h0; clear h0
  by_cases h1 : k < 1
  · clear hk
    go_enter Try.func14, Try.ntmps14
    go_wp2_with fail
    refine bodyPost_ret (v := .tuple #[Sm.v Sm.zero, .bool false]) (two_results rfl _ _ _ 24 _ (0, 0) _ rfl H0.out Try.underlying24 rfl (by kernel_rfl) rfl) rfl ?_
    exact ⟨rfl, below_alloc2 w _ _⟩
  · have h10 : 10 < k := hk.resolve_left h1
    clear hk
    go_enter Try.func14, Try.ntmps14
    go_wp2_with fail
    refine bodyPost_ret (v := .tuple #[Sm.v Sm.zero, .bool false]) (two_results rfl _ _ _ 24 _ (0, 0) _ rfl H0.out Try.underlying24 rfl (by kernel_rfl) rfl) rfl ?_
    exact ⟨rfl, below_alloc2 w _ _⟩
theorem orz_no {s : Sm} (h : ¬ s.R) : s.orz (decide s.R) = Sm.zero ∧ decide s.R = false := by
  have : decide s.R = false := decide_eq_false h
  rw [this]; exact ⟨rfl, rfl⟩
theorem orz_same {s t : Sm} (h : s = t ∨ (¬ s.R ∧ ¬ t.R)) : s.orz (decide s.R) = t.orz (decide t.R) ∧ decide s.R = decide t.R := by
  rcases h with rfl | ⟨h1, h2⟩
  · exact ⟨rfl, rfl⟩
  · obtain ⟨a1, a2⟩ := orz_no h1; obtain ⟨b1, b2⟩ := orz_no h2
    exact ⟨a1.trans b1.symm, a2.trans b2.symm⟩
theorem of_orz {k d : Int} (h1 : 1 ≤ k) (h2 : k ≤ 10) : Sm.of_ k d = (Sm.ofk k d).orz (decide (Sm.ofk k d).R) ∧ decide (okOf k d) = decide (Sm.ofk k d).R := by
  have : decide (okOf k d) = decide (Sm.ofk k d).R := decide_eq_decide.2 ⟨fun h => h.2.2, fun h => ⟨h1, h2, h⟩⟩
  refine ⟨?_, this⟩
  unfold Sm.of_ Sm.orz
  by_cases h : okOf k d
  · rw [if_pos h, if_pos (by simpa using h.2.2)]
  · rw [if_neg h, if_neg (by simpa using fun h3 => h ⟨h1, h2, h3⟩)]
/-- the summary of a kind: the program's -/
theorem of_any (k d : Int) (w : World) : Calls Try.prog 14 #[.int .u8 k, .int .i64 d] w fun e w' => e = .returned (.tuple #[(Sm.of_ k d).v, .bool (decide (okOf k d))]) ∧ Below w.heap.size w w' := by
  by_cases h7 : k = 7
  · subst h7
    obtain ⟨e1, e2⟩ := of_orz (k := 7) (d := d) (by omega) (by omega)
    rw [e1, e2, show Sm.ofk 7 d = ⟨d - 1, d, d - 1, 0, 0, 0, 0⟩ from rfl]
    obtain ⟨p, hp⟩ : ∃ p, IntKind.i64.wrap (d - 1) = p := ⟨_, rfl⟩
    have hs : (⟨p, d, p, 0, 0, 0, 0⟩ : Sm) = ⟨d - 1, d, d - 1, 0, 0, 0, 0⟩ ∨ (¬ Sm.R ⟨p, d, p, 0, 0, 0, 0⟩ ∧ ¬ Sm.R ⟨d - 1, d, d - 1, 0, 0, 0, 0⟩) := by
      by_cases hd : 0 ≤ d ∧ d ≤ 3
      · left
        have := IntWalk.i64_in (d - 1) (by omega)
        rw [hp] at this; rw [this]
      · right; unfold Sm.R; simp only; omega
    obtain ⟨g1, g2⟩ := orz_same hs
    rw [← g1, ← g2]
    exact of_7 d p hp w
  by_cases h8 : k = 8
  · subst h8
    obtain ⟨e1, e2⟩ := of_orz (k := 8) (d := d) (by omega) (by omega)
    rw [e1, e2, show Sm.ofk 8 d = ⟨d + 1, d, d, 0, 0, 0, 0⟩ from rfl]
    obtain ⟨p, hp⟩ : ∃ p, IntKind.i64.wrap (d + 1) = p := ⟨_, rfl⟩
    have hs : (⟨p, d, d, 0, 0, 0, 0⟩ : Sm) = ⟨d + 1, d, d, 0, 0, 0, 0⟩ ∨ (¬ Sm.R ⟨p, d, d, 0, 0, 0, 0⟩ ∧ ¬ Sm.R ⟨d + 1, d, d, 0, 0, 0, 0⟩) := by
      by_cases hd : 0 ≤ d ∧ d ≤ 3
      · left
        have := IntWalk.i64_in (d + 1) (by omega)
        rw [hp] at this; rw [this]
      · right; unfold Sm.R; simp only; omega
    obtain ⟨g1, g2⟩ := orz_same hs
    rw [← g1, ← g2]
    exact of_8 d p hp w
  by_cases h9 : k = 9
  · subst h9
    obtain ⟨e1, e2⟩ := of_orz (k := 9) (d := d) (by omega) (by omega)
    rw [e1, e2, show Sm.ofk 9 d = ⟨d, d, d, 1, 0, 0, 0⟩ from rfl]
    exact of_9 d w
  have b7 : (k == 7) = false := by simpa using h7
  have b8 : (k == 8) = false := by simpa using h8
  have b9 : (k == 9) = false := by simpa using h9
  by_cases hk : 1 ≤ k ∧ k ≤ 10
  · obtain ⟨e1, e2⟩ := of_orz (d := d) hk.1 hk.2
    rw [e1, e2, show Sm.ofk k d = ⟨d, d, d, 0, 0, 0, 0⟩ by unfold Sm.ofk; rw [if_neg h7, if_neg h8, if_neg h9]]
    exact of_x k d b7 b8 b9 (by omega) (by omega) w
  · have hno : ¬ okOf k d := fun h => hk ⟨h.1, h.2.1⟩
    rw [decide_eq_false hno, show Sm.of_ k d = Sm.zero from if_neg hno]
    exact of_no k d b7 b8 b9 (by omega) w
end

section
open Go.ChangeShapes Go.WideShapes Go.ChangeAt Go.RowKit Go.BigFrame
set_option maxRecDepth 100000
set_option maxHeartbeats 2000000 in
theorem refOf_7 (d p : Int) (d0 : ¬ d < 0) (d3 : ¬ 3 < d) (hp : IntKind.i64.wrap (d - 1) = p) (w : World) : Calls Try.prog 15 #[.int .u8 7, .int .i64 d] w fun e w' => e = .returned (.tuple #[(Sm.orz (⟨p, d, p, 0, 0, 0, 0⟩ : Sm) (decide (Sm.R (⟨p, d, p, 0, 0, 0, 0⟩ : Sm)))).v, .bool (decide (Sm.R (⟨p, d, p, 0, 0, 0, 0⟩ : Sm)))]) ∧ Below w.heap.size w w' := by
  have hr := fun w => refRightM_any (⟨p, d, p, 0, 0, 0, 0⟩ : Sm) w
  have h1 : HoldsM ((w.alloc (.cells #[.int .i64 0, .int .i64 0, .int .i64 0, .int .i64 0, .int .i64 0, .int .i64 0, .int .i64 0] 30)).alloc (.cells #[.int .i64 ((⟨p, d, p, 0, 0, 0, 0⟩ : Sm)).fr, .int .i64 ((⟨p, d, p, 0, 0, 0, 0⟩ : Sm)).to, .int .i64 ((⟨p, d, p, 0, 0, 0, 0⟩ : Sm)).kp, .int .i64 ((⟨p, d, p, 0, 0, 0, 0⟩ : Sm)).ad, .int .i64 ((⟨p, d, p, 0, 0, 0, 0⟩ : Sm)).t0, .int .i64 ((⟨p, d, p, 0, 0, 0, 0⟩ : Sm)).t1, .int .i64 ((⟨p, d, p, 0, 0, 0, 0⟩ : Sm)).t2] 30)) (w.heap.size + 1) 30 (⟨p, d, p, 0, 0, 0, 0⟩ : Sm) := made2r w _ _ _
  have h0 : HoldsM ((w.alloc (.cells #[.int .i64 0, .int .i64 0, .int .i64 0, .int .i64 0, .int .i64 0, .int .i64 0, .int .i64 0] 30)).alloc (.cells #[.int .i64 ((⟨p, d, p, 0, 0, 0, 0⟩ : Sm)).fr, .int .i64 ((⟨p, d, p, 0, 0, 0, 0⟩ : Sm)).to, .int .i64 ((⟨p, d, p, 0, 0, 0, 0⟩ : Sm)).kp, .int .i64 ((⟨p, d, p, 0, 0, 0, 0⟩ : Sm)).ad, .int .i64 ((⟨p, d, p, 0, 0, 0, 0⟩ : Sm)).t0, .int .i64 ((⟨p, d, p, 0, 0, 0, 0⟩ : Sm)).t1, .int .i64 ((⟨p, d, p, 0, 0, 0, 0⟩ : Sm)).t2] 30)) w.heap.size 30 Sm.zero := Row.alloc (Row.made w _ _) _
  simp only at h1 h0
  unfold Sm.v at hr
  generalize hb : decide (Sm.R (⟨p, d, p, 0, 0, 0, 0⟩ : Sm)) = bb at *
  clear hb
  have HR := Lib.hid hr; have H1 := Lib.hid h1; have H0 := Lib.hid h0; clear hr h1 h0
  unfold Sm.orz
  go_enter Try.func15, Try.ntmps15
  go_wp2_with fail
  refine (HR.out _).mono ?_; rintro e w2 ⟨rfl, hb2⟩
  have h1 : HoldsM w2 (w.heap.size + 1) 30 (⟨p, d, p, 0, 0, 0, 0⟩ : Sm) := Row.below H1.out hb2 (by simp)
  have h0 : HoldsM w2 w.heap.size 30 Sm.zero := Row.below H0.out hb2 (by simp; omega)
  obtain ⟨c0, c1, c2, c3, c4, c5, c6⟩ := h1.cells7
  obtain ⟨f0, f1, f2, f3, f4, f5, f6⟩ := h0.free7
  obtain ⟨z0, z1, z2, z3, z4, z5, z6⟩ := h0.cells7
  have HB := Lib.hid ((below_alloc2 w _ _).trans (hb2.mono (by simp; omega)))
  have HZ := Lib.hid h0
  clear hb2 h1 h0
  simp only at c0 c1 c2 c3 c4 c5 c6
  cases bb with
  | true =>
    go_wp2_with fail
    refine bodyPost_ret (v := .tuple #[Sm.v (⟨p, d, p, 0, 0, 0, 0⟩ : Sm), .bool true]) (two_results rfl _ _ _ 30 _ (0, 0) _ rfl (row_set7 HZ.out) Try.underlying30 rfl (by kernel_rfl) rfl) rfl ?_
    exact ⟨rfl, below_set7 HB.out (Nat.le_refl _)⟩
  | false =>
    go_wp2_with fail
    refine bodyPost_ret (v := .tuple #[Sm.v Sm.zero, .bool false]) (two_results rfl _ _ _ 30 _ (0, 0) _ rfl (row_set7 HZ.out) Try.underlying30 rfl (by kernel_rfl) rfl) rfl ?_
    exact ⟨rfl, below_set7 HB.out (Nat.le_refl _)⟩
set_option maxHeartbeats 2000000 in
theorem refOf_8 (d p : Int) (d0 : ¬ d < 0) (d3 : ¬ 3 < d) (hp : IntKind.i64.wrap (d + 1) = p) (w : World) : Calls Try.prog 15 #[.int .u8 8, .int .i64 d] w fun e w' => e = .returned (.tuple #[(Sm.orz (⟨p, d, d, 0, 0, 0, 0⟩ : Sm) (decide (Sm.R (⟨p, d, d, 0, 0, 0, 0⟩ : Sm)))).v, .bool (decide (Sm.R (⟨p, d, d, 0, 0, 0, 0⟩ : Sm)))]) ∧ Below w.heap.size w w' := by
  have hr := fun w => refRightM_any (⟨p, d, d, 0, 0, 0, 0⟩ : Sm) w
  have h1 : HoldsM ((w.alloc (.cells #[.int .i64 0, .int .i64 0, .int .i64 0, .int .i64 0, .int .i64 0, .int .i64 0, .int .i64 0] 30)).alloc (.cells #[.int .i64 ((⟨p, d, d, 0, 0, 0, 0⟩ : Sm)).fr, .int .i64 ((⟨p, d, d, 0, 0, 0, 0⟩ : Sm)).to, .int .i64 ((⟨p, d, d, 0, 0, 0, 0⟩ : Sm)).kp, .int .i64 ((⟨p, d, d, 0, 0, 0, 0⟩ : Sm)).ad, .int .i64 ((⟨p, d, d, 0, 0, 0, 0⟩ : Sm)).t0, .int .i64 ((⟨p, d, d, 0, 0, 0, 0⟩ : Sm)).t1, .int .i64 ((⟨p, d, d, 0, 0, 0, 0⟩ : Sm)).t2] 30)) (w.heap.size + 1) 30 (⟨p, d, d, 0, 0, 0, 0⟩ : Sm) := made2r w _ _ _
  have h0 : HoldsM ((w.alloc (.cells #[.int .i64 0, .int .i64 0, .int .i64 0, .int .i64 0, .int .i64 0, .int .i64 0, .int .i64 0] 30)).alloc (.cells #[.int .i64 ((⟨p, d, d, 0, 0, 0, 0⟩ : Sm)).fr, .int .i64 ((⟨p, d, d, 0, 0, 0, 0⟩ : Sm)).to, .int .i64 ((⟨p, d, d, 0, 0, 0, 0⟩ : Sm)).kp, .int .i64 ((⟨p, d, d, 0, 0, 0, 0⟩ : Sm)).ad, .int .i64 ((⟨p, d, d, 0, 0, 0, 0⟩ : Sm)).t0, .int .i64 ((⟨p, d, d, 0, 0, 0, 0⟩ : Sm)).t1, .int .i64 ((⟨p, d, d, 0, 0, 0, 0⟩ : Sm)).t2] 30)) w.heap.size 30 Sm.zero := Row.alloc (Row.made w _ _) _
  simp only at h1 h0
  unfold Sm.v at hr
  generalize hb : decide (Sm.R (⟨p, d, d, 0, 0, 0, 0⟩ : Sm)) = bb at *
  clear hb
  have HR := Lib.hid hr; have H1 := Lib.hid h1; have H0 := Lib.hid h0; clear hr h1 h0
  unfold Sm.orz
  go_enter Try.func15, Try.ntmps15
  go_wp2_with fail
  refine (HR.out _).mono ?_; rintro e w2 ⟨rfl, hb2⟩
  have h1 : HoldsM w2 (w.heap.size + 1) 30 (⟨p, d, d, 0, 0, 0, 0⟩ : Sm) := Row.below H1.out hb2 (by simp)
  have h0 : HoldsM w2 w.heap.size 30 Sm.zero := Row.below H0.out hb2 (by simp; omega)
  obtain ⟨c0, c1, c2, c3, c4, c5, c6⟩ := h1.cells7
  obtain ⟨f0, f1, f2, f3, f4, f5, f6⟩ := h0.free7
  obtain ⟨z0, z1, z2, z3, z4, z5, z6⟩ := h0.cells7
  have HB := Lib.hid ((below_alloc2 w _ _).trans (hb2.mono (by simp; omega)))
  have HZ := Lib.hid h0
  clear hb2 h1 h0
  simp only at c0 c1 c2 c3 c4 c5 c6
  cases bb with
  | true =>
    go_wp2_with fail
    refine bodyPost_ret (v := .tuple #[Sm.v (⟨p, d, d, 0, 0, 0, 0⟩ : Sm), .bool true]) (two_results rfl _ _ _ 30 _ (0, 0) _ rfl (row_set7 HZ.out) Try.underlying30 rfl (by kernel_rfl) rfl) rfl ?_
    exact ⟨rfl, below_set7 HB.out (Nat.le_refl _)⟩
  | false =>
    go_wp2_with fail
    refine bodyPost_ret (v := .tuple #[Sm.v Sm.zero, .bool false]) (two_results rfl _ _ _ 30 _ (0, 0) _ rfl (row_set7 HZ.out) Try.underlying30 rfl (by kernel_rfl) rfl) rfl ?_
    exact ⟨rfl, below_set7 HB.out (Nat.le_refl _)⟩
set_option maxHeartbeats 2000000 in
theorem refOf_9 (d : Int) (d0 : ¬ d < 0) (d3 : ¬ 3 < d) (w : World) : Calls Try.prog 15 #[.int .u8 9, .int .i64 d] w fun e w' => e = .returned (.tuple #[(Sm.orz (⟨d, d, d, 1, 0, 0, 0⟩ : Sm) (decide (Sm.R (⟨d, d, d, 1, 0, 0, 0⟩ : Sm)))).v, .bool (decide (Sm.R (⟨d, d, d, 1, 0, 0, 0⟩ : Sm)))]) ∧ Below w.heap.size w w' := by
  have hr := fun w => refRightM_any (⟨d, d, d, 1, 0, 0, 0⟩ : Sm) w
  have h1 : HoldsM ((w.alloc (.cells #[.int .i64 0, .int .i64 0, .int .i64 0, .int .i64 0, .int .i64 0, .int .i64 0, .int .i64 0] 30)).alloc (.cells #[.int .i64 ((⟨d, d, d, 1, 0, 0, 0⟩ : Sm)).fr, .int .i64 ((⟨d, d, d, 1, 0, 0, 0⟩ : Sm)).to, .int .i64 ((⟨d, d, d, 1, 0, 0, 0⟩ : Sm)).kp, .int .i64 ((⟨d, d, d, 1, 0, 0, 0⟩ : Sm)).ad, .int .i64 ((⟨d, d, d, 1, 0, 0, 0⟩ : Sm)).t0, .int .i64 ((⟨d, d, d, 1, 0, 0, 0⟩ : Sm)).t1, .int .i64 ((⟨d, d, d, 1, 0, 0, 0⟩ : Sm)).t2] 30)) (w.heap.size + 1) 30 (⟨d, d, d, 1, 0, 0, 0⟩ : Sm) := made2r w _ _ _
  have h0 : HoldsM ((w.alloc (.cells #[.int .i64 0, .int .i64 0, .int .i64 0, .int .i64 0, .int .i64 0, .int .i64 0, .int .i64 0] 30)).alloc (.cells #[.int .i64 ((⟨d, d, d, 1, 0, 0, 0⟩ : Sm)).fr, .int .i64 ((⟨d, d, d, 1, 0, 0, 0⟩ : Sm)).to, .int .i64 ((⟨d, d, d, 1, 0, 0, 0⟩ : Sm)).kp, .int .i64 ((⟨d, d, d, 1, 0, 0, 0⟩ : Sm)).ad, .int .i64 ((⟨d, d, d, 1, 0, 0, 0⟩ : Sm)).t0, .int .i64 ((⟨d, d, d, 1, 0, 0, 0⟩ : Sm)).t1, .int .i64 ((⟨d, d, d, 1, 0, 0, 0⟩ : Sm)).t2] 30)) w.heap.size 30 Sm.zero := Row.alloc (Row.made w _ _) _
  simp only at h1 h0
  unfold Sm.v at hr
  generalize hb : decide (Sm.R (⟨d, d, d, 1, 0, 0, 0⟩ : Sm)) = bb at *
  clear hb
  have HR := Lib.hid hr; have H1 := Lib.hid h1; have H0 := Lib.hid h0; clear hr h1 h0
  unfold Sm.orz
  go_enter Try.func15, Try.ntmps15
  go_wp2_with fail
  refine (HR.out _).mono ?_; rintro e w2 ⟨rfl, hb2⟩
  have h1 : HoldsM w2 (w.heap.size + 1) 30 (⟨d, d, d, 1, 0, 0, 0⟩ : Sm) := Row.below H1.out hb2 (by simp)
  have h0 : HoldsM w2 w.heap.size 30 Sm.zero := Row.below H0.out hb2 (by simp; omega)
  obtain ⟨c0, c1, c2, c3, c4, c5, c6⟩ := h1.cells7
  obtain ⟨f0, f1, f2, f3, f4, f5, f6⟩ := h0.free7
  obtain ⟨z0, z1, z2, z3, z4, z5, z6⟩ := h0.cells7
  have HB := Lib.hid ((below_alloc2 w _ _).trans (hb2.mono (by simp; omega)))
  have HZ := Lib.hid h0
  clear hb2 h1 h0
  simp only at c0 c1 c2 c3 c4 c5 c6
  cases bb with
  | true =>
    go_wp2_with fail
    refine bodyPost_ret (v := .tuple #[Sm.v (⟨d, d, d, 1, 0, 0, 0⟩ : Sm), .bool true]) (two_results rfl _ _ _ 30 _ (0, 0) _ rfl (row_set7 HZ.out) Try.underlying30 rfl (by kernel_rfl) rfl) rfl ?_
    exact ⟨rfl, below_set7 HB.out (Nat.le_refl _)⟩
  | false =>
    go_wp2_with fail
    refine bodyPost_ret (v := .tuple #[Sm.v Sm.zero, .bool false]) (two_results rfl _ _ _ 30 _ (0, 0) _ rfl (row_set7 HZ.out) Try.underlying30 rfl (by kernel_rfl) rfl) rfl ?_
    exact ⟨rfl, below_set7 HB.out (Nat.le_refl _)⟩
set_option maxHeartbeats 2000000 in
theorem refOf_x (k d : Int) (d0 : ¬ d < 0) (d3 : ¬ 3 < d) (h7 : (k == 7) = false) (h8 : (k == 8) = false) (h9 : (k == 9) = false) (h1 : ¬ k < 1) (h10 : ¬ 10 < k) (w : World) : Calls Try.prog 15 #[.int .u8 k, .int .i64 d] w fun e w' => e = .returned (.tuple #[(Sm.orz (⟨d, d, d, 0, 0, 0, 0⟩ : Sm) (decide (Sm.R (⟨d, d, d, 0, 0, 0, 0⟩ : Sm)))).v, .bool (decide (Sm.R (⟨d, d, d, 0, 0, 0, 0⟩ : Sm)))]) ∧ Below w.heap.size w w' := by
  have hr := fun w => refRightM_any (⟨d, d, d, 0, 0, 0, 0⟩ : Sm) w
  have h1q : HoldsM ((w.alloc (.cells #[.int .i64 0, .int .i64 0, .int .i64 0, .int .i64 0, .int .i64 0, .int .i64 0, .int .i64 0] 30)).alloc (.cells #[.int .i64 ((⟨d, d, d, 0, 0, 0, 0⟩ : Sm)).fr, .int .i64 ((⟨d, d, d, 0, 0, 0, 0⟩ : Sm)).to, .int .i64 ((⟨d, d, d, 0, 0, 0, 0⟩ : Sm)).kp, .int .i64 ((⟨d, d, d, 0, 0, 0, 0⟩ : Sm)).ad, .int .i64 ((⟨d, d, d, 0, 0, 0, 0⟩ : Sm)).t0, .int .i64 ((⟨d, d, d, 0, 0, 0, 0⟩ : Sm)).t1, .int .i64 ((⟨d, d, d, 0, 0, 0, 0⟩ : Sm)).t2] 30)) (w.heap.size + 1) 30 (⟨d, d, d, 0, 0, 0, 0⟩ : Sm) := made2r w _ _ _
  have h0 : HoldsM ((w.alloc (.cells #[.int .i64 0, .int .i64 0, .int .i64 0, .int .i64 0, .int .i64 0, .int .i64 0, .int .i64 0] 30)).alloc (.cells #[.int .i64 ((⟨d, d, d, 0, 0, 0, 0⟩ : Sm)).fr, .int .i64 ((⟨d, d, d, 0, 0, 0, 0⟩ : Sm)).to, .int .i64 ((⟨d, d, d, 0, 0, 0, 0⟩ : Sm)).kp, .int .i64 ((⟨d, d, d, 0, 0, 0, 0⟩ : Sm)).ad, .int .i64 ((⟨d, d, d, 0, 0, 0, 0⟩ : Sm)).t0, .int .i64 ((⟨d, d, d, 0, 0, 0, 0⟩ : Sm)).t1, .int .i64 ((⟨d, d, d, 0, 0, 0, 0⟩ : Sm)).t2] 30)) w.heap.size 30 Sm.zero := Row.alloc (Row.made w _ _) _
  simp only at h1q h0
  unfold Sm.v at hr
  generalize hb : decide (Sm.R (⟨d, d, d, 0, 0, 0, 0⟩ : Sm)) = bb at *
  clear hb
  have HR := Lib.hid hr; have H1 := Lib.hid h1q; have H0 := Lib.hid h0; clear hr h1q h0
  unfold Sm.orz
  go_enter Try.func15, Try.ntmps15
  go_wp2_with fail
  refine (HR.out _).mono ?_; rintro e w2 ⟨rfl, hb2⟩
  have h1 : HoldsM w2 (w.heap.size + 1) 30 (⟨d, d, d, 0, 0, 0, 0⟩ : Sm) := Row.below H1.out hb2 (by simp)
  have h0 : HoldsM w2 w.heap.size 30 Sm.zero := Row.below H0.out hb2 (by simp; omega)
  obtain ⟨c0, c1, c2, c3, c4, c5, c6⟩ := h1.cells7
  obtain ⟨f0, f1, f2, f3, f4, f5, f6⟩ := h0.free7
  obtain ⟨z0, z1, z2, z3, z4, z5, z6⟩ := h0.cells7
  have HB := Lib.hid ((below_alloc2 w _ _).trans (hb2.mono (by simp; omega)))
  have HZ := Lib.hid h0
  clear hb2 h1 h0
  simp only at c0 c1 c2 c3 c4 c5 c6
  cases bb with
  | true =>
    go_wp2_with fail
    refine bodyPost_ret (v := .tuple #[Sm.v (⟨d, d, d, 0, 0, 0, 0⟩ : Sm), .bool true]) (two_results rfl _ _ _ 30 _ (0, 0) _ rfl (row_set7 HZ.out) Try.underlying30 rfl (by kernel_rfl) rfl) rfl ?_
    exact ⟨rfl, below_set7 HB.out (Nat.le_refl _)⟩
  | false =>
    go_wp2_with fail
    refine bodyPost_ret (v := .tuple #[Sm.v Sm.zero, .bool false]) (two_results rfl _ _ _ 30 _ (0, 0) _ rfl (row_set7 HZ.out) Try.underlying30 rfl (by kernel_rfl) rfl) rfl ?_
    exact ⟨rfl, below_set7 HB.out (Nat.le_refl _)⟩
set_option maxHeartbeats 2000000 in
theorem refOf_no (k d : Int) (h : k < 1 ∨ 10 < k ∨ d < 0 ∨ 3 < d) (w : World) : Calls Try.prog 15 #[.int .u8 k, .int .i64 d] w fun e w' => e = .returned (.tuple #[Sm.zero.v, .bool false]) ∧ Below w.heap.size w w' := by
  have h0 : HoldsM (w.alloc (.cells #[.int .i64 0, .int .i64 0, .int .i64 0, .int .i64 0, .int .i64 0, .int .i64 0, .int .i64 0] 30)) w.heap.size 30 Sm.zero := Row.made w _ _
  have hb : Below w.heap.size w (w.alloc (.cells #[.int .i64 0, .int .i64 0, .int .i64 0, .int .i64 0, .int .i64 0, .int .i64 0, .int .i64 0] 30)) := (Below.refl _ _).alloc (Nat.le_refl _) _
  have H0 := Lib.hid (And.intro h0 hb); clear h0 hb
  by_cases h1 : k < 1
  case pos =>
    clear h
    go_enter Try.func15, Try.ntmps15
    go_wp2_with fail
    refine bodyPost_ret (v := .tuple #[Sm.v Sm.zero, .bool false]) (two_results rfl _ _ _ 30 _ (0, 0) _ rfl H0.out.1 Try.underlying30 rfl (by kernel_rfl) rfl) rfl ?_
    exact ⟨rfl, H0.out.2⟩
  by_cases h2 : 10 < k
  case pos =>
    clear h
    go_enter Try.func15, Try.ntmps15
    go_wp2_with fail
    refine bodyPost_ret (v := .tuple #[Sm.v Sm.zero, .bool false]) (two_results rfl _ _ _ 30 _ (0, 0) _ rfl H0.out.1 Try.underlying30 rfl (by kernel_rfl) rfl) rfl ?_
    exact ⟨rfl, H0.out.2⟩
  by_cases h3 : d < 0
  case pos =>
    clear h
    go_enter Try.func15, Try.ntmps15
    go_wp2_with fail
    refine bodyPost_ret (v := .tuple #[Sm.v Sm.zero, .bool false]) (two_results rfl _ _ _ 30 _ (0, 0) _ rfl H0.out.1 Try.underlying30 rfl (by kernel_rfl) rfl) rfl ?_
    exact ⟨rfl, H0.out.2⟩
  have h4 : 3 < d := by omega
  clear h
  go_enter Try.func15, Try.ntmps15
  go_wp2_with fail
  refine bodyPost_ret (v := .tuple #[Sm.v Sm.zero, .bool false]) (two_results rfl _ _ _ 30 _ (0, 0) _ rfl H0.out.1 Try.underlying30 rfl (by kernel_rfl) rfl) rfl ?_
  exact ⟨rfl, H0.out.2⟩
/-- the summary of a kind: the document's -/
theorem refOf_any (k d : Int) (w : World) : Calls Try.prog 15 #[.int .u8 k, .int .i64 d] w fun e w' => e = .returned (.tuple #[(Sm.of_ k d).v, .bool (decide (okOf k d))]) ∧ Below w.heap.size w w' := by
  by_cases hk : 1 ≤ k ∧ k ≤ 10 ∧ 0 ≤ d ∧ d ≤ 3
  case neg =>
    have hno : ¬ okOf k d := by
      intro h
      have h3 := h.2.2
      unfold okOf at h
      unfold Sm.ofk at h3
      apply hk
      refine ⟨h.1, h.2.1, ?_⟩
      split at h3
      · unfold Sm.R at h3; simp only at h3; omega
      · split at h3
        · unfold Sm.R at h3; simp only at h3; omega
        · split at h3
          · unfold Sm.R at h3; simp only at h3; omega
          · unfold Sm.R at h3; simp only at h3; omega
    rw [decide_eq_false hno, show Sm.of_ k d = Sm.zero from if_neg hno]
    exact refOf_no k d (by omega) w
  obtain ⟨hk1, hk2, hd1, hd2⟩ := hk
  obtain ⟨e1, e2⟩ := of_orz (d := d) hk1 hk2
  rw [e1, e2]
  by_cases h7 : k = 7
  · subst h7
    rw [show Sm.ofk 7 d = ⟨d - 1, d, d - 1, 0, 0, 0, 0⟩ from rfl]
    exact refOf_7 d _ (by omega) (by omega) (IntWalk.i64_in (d - 1) (by omega)) w
  by_cases h8 : k = 8
  · subst h8
    rw [show Sm.ofk 8 d = ⟨d + 1, d, d, 0, 0, 0, 0⟩ from rfl]
    exact refOf_8 d _ (by omega) (by omega) (IntWalk.i64_in (d + 1) (by omega)) w
  by_cases h9 : k = 9
  · subst h9
    rw [show Sm.ofk 9 d = ⟨d, d, d, 1, 0, 0, 0⟩ from rfl]
    exact refOf_9 d (by omega) (by omega) w
  rw [show Sm.ofk k d = ⟨d, d, d, 0, 0, 0, 0⟩ by unfold Sm.ofk; rw [if_neg h7, if_neg h8, if_neg h9]]
  exact refOf_x k d (by omega) (by omega) (by simpa using h7) (by simpa using h8) (by simpa using h9) (by omega) (by omega) w
end

section
open Go.ChangeShapes Go.WideShapes Go.ChangeAt Go.RowKit Go.BigFrame
set_option maxRecDepth 100000
def Sm.th (a b : Sm) : Sm := if a.thenOk b then a.seq b else Sm.zero
def Sm.thB (a b : Sm) : Bool := decide (a.thenOk b)
section
variable {a b : Sm}
theorem Sm.th_no (h : ¬ a.thenOk b) : a.th b = Sm.zero ∧ a.thB b = false := ⟨if_neg h, decide_eq_false h⟩
theorem Sm.th_yes (h : a.thenOk b) : a.th b = a.seq b ∧ a.thB b = true := ⟨if_pos h, decide_eq_true h⟩
theorem Sm.seq_ok (ha : a.R) (hb : b.R) (ht : a.to = b.fr) : (a.seq b).R ↔ a.thenOk b := by
  constructor
  · intro h
    refine ⟨ha, hb, ht, ?_, ?_, ?_⟩
    · rw [← Sm.seq_N ha hb ht (i := 0) (by omega) (by omega)]; exact (Sm.N_R h 0).2
    · rw [← Sm.seq_N ha hb ht (i := 1) (by omega) (by omega)]; exact (Sm.N_R h 1).2
    · rw [← Sm.seq_N ha hb ht (i := 2) (by omega) (by omega)]; exact (Sm.N_R h 2).2
  · exact Sm.seq_R
/-- of noughts: what is added stands there by itself -/
theorem Sm.al_zero (i : Int) : a.al i 0 = if i < a.to then a.N i else 0 := by
  unfold Sm.al
  by_cases h : i < a.to
  · rw [if_pos h, if_pos h, Sm.cn_N]; split <;> omega
  · rw [if_neg h, if_neg h]
theorem Sm.al_al (ha : a.R) (hb : b.R) (ht : a.to = b.fr) (i : Int) : b.al i (a.al i 0) = a.M b i := by
  rw [Sm.al_zero]
  unfold Sm.al Sm.M
  by_cases h : i < b.to
  · rw [if_pos h, if_pos h, Sm.cn_N]
    by_cases h2 : i < b.kp
    · rw [if_pos h2, if_pos h2, if_pos (by unfold Sm.R at hb; omega)]; omega
    · rw [if_neg h2, if_neg h2]; omega
  · rw [if_neg h, if_neg h]
theorem Sm.al_b (ha : a.R) (i : Int) : 0 ≤ a.al i 0 ∧ a.al i 0 ≤ 1000 := by
  rw [Sm.al_zero]
  have := Sm.N_R ha i
  split <;> omega
theorem Sm.M_b (ha : a.R) (hb : b.R) (i : Int) : 0 ≤ a.M b i ∧ a.M b i ≤ 1000 := by
  have h1 := Sm.N_R ha i; have h2 := Sm.N_R hb i
  unfold Sm.M; repeat' split
  all_goals omega
end
/-- two summaries' boxes, and a third one that is all 0 -/
def Tri2 (W : World) (g : Nat) (ty : TypeId) (a b : Sm) : Prop := HoldsM W g ty a ∧ HoldsM W (g + 1) ty b ∧ HoldsM W (g + 1 + 1) ty Sm.zero
theorem Tri2.made (w : World) (ty : TypeId) (a b : Sm) : Tri2 (((w.alloc (.cells #[.int .i64 a.fr, .int .i64 a.to, .int .i64 a.kp, .int .i64 a.ad, .int .i64 a.t0, .int .i64 a.t1, .int .i64 a.t2] ty)).alloc (.cells #[.int .i64 b.fr, .int .i64 b.to, .int .i64 b.kp, .int .i64 b.ad, .int .i64 b.t0, .int .i64 b.t1, .int .i64 b.t2] ty)).alloc (.cells #[.int .i64 0, .int .i64 0, .int .i64 0, .int .i64 0, .int .i64 0, .int .i64 0, .int .i64 0] ty)) w.heap.size ty a b := by
  refine ⟨((HoldsM.made w ty a).alloc _).alloc _, ?_, ?_⟩
  · have := (HoldsM.made (w.alloc (.cells #[.int .i64 a.fr, .int .i64 a.to, .int .i64 a.kp, .int .i64 a.ad, .int .i64 a.t0, .int .i64 a.t1, .int .i64 a.t2] ty)) ty b).alloc (.cells #[.int .i64 0, .int .i64 0, .int .i64 0, .int .i64 0, .int .i64 0, .int .i64 0, .int .i64 0] ty)
    rwa [size_alloc] at this
  · have := HoldsM.made ((w.alloc (.cells #[.int .i64 a.fr, .int .i64 a.to, .int .i64 a.kp, .int .i64 a.ad, .int .i64 a.t0, .int .i64 a.t1, .int .i64 a.t2] ty)).alloc (.cells #[.int .i64 b.fr, .int .i64 b.to, .int .i64 b.kp, .int .i64 b.ad, .int .i64 b.t0, .int .i64 b.t1, .int .i64 b.t2] ty)) ty Sm.zero
    rwa [size_alloc, size_alloc] at this
theorem Tri2.below {W W' : World} {g : Nat} {ty : TypeId} {a b : Sm} (h : Tri2 W g ty a b) (hb : Below W.heap.size W W') : Tri2 W' g ty a b := ⟨h.1.below hb, h.2.1.below hb, h.2.2.below hb⟩
def Two2 (W : World) (g : Nat) (ty : TypeId) (a b : Sm) : Prop := HoldsM W g ty a ∧ HoldsM W (g + 1) ty b
theorem Two2.made (w : World) (ty : TypeId) (a b : Sm) : Two2 ((w.alloc (.cells #[.int .i64 a.fr, .int .i64 a.to, .int .i64 a.kp, .int .i64 a.ad, .int .i64 a.t0, .int .i64 a.t1, .int .i64 a.t2] ty)).alloc (.cells #[.int .i64 b.fr, .int .i64 b.to, .int .i64 b.kp, .int .i64 b.ad, .int .i64 b.t0, .int .i64 b.t1, .int .i64 b.t2] ty)) w.heap.size ty a b := by
  refine ⟨(HoldsM.made w ty a).alloc _, ?_⟩
  have := HoldsM.made (w.alloc (.cells #[.int .i64 a.fr, .int .i64 a.to, .int .i64 a.kp, .int .i64 a.ad, .int .i64 a.t0, .int .i64 a.t1, .int .i64 a.t2] ty)) ty b
  rwa [size_alloc] at this
theorem Two2.below {W W' : World} {g : Nat} {ty : TypeId} {a b : Sm} (h : Two2 W g ty a b) (hb : Below W.heap.size W W') : Two2 W' g ty a b := ⟨h.1.below hb, h.2.below hb⟩
end
end Go.Proofs.Ytdpadkellpkppaa
