/- OpTime -/
import Derived.Test.YtcjdjdhjbchaaaaCa13
import Derived.Test.YtcjdjdhjbchaaaaCa22
import Derived.Test.YtcjdjdhjbchaaaaCa23
import Derived.Deep.QuietTactic
import Derived.BigQuiet
import Derived.Test.YtcjdjdhjbchaaaaCa9
namespace Go.Proofs.Ytcjdjdhjbchaaaa
set_option linter.unusedVariables false
section
namespace Op
open Go.ChangeShapes Go.WideShapes Go.ChangeAt Go.RowKit Go.BigFrame Vr
set_option maxRecDepth 100000
@[reducible] def nodeV0 (n : Nd) (A : Option Addr) (m c : Nat) : Value := .agg #[.int .u8 (n.k : Nat), .int .u8 (n.a : Nat), .int .i64 n.b, .int .i64 n.d, .slice A m c]
/-- the time at which a node gives out what came at t -/
def timeR (n : Nd) (t : St) : Option St := if n.k = 7 then t.into else if n.k = 8 then t.out else if n.k = 9 then roundB t n.b else if t.R then some t else none
theorem three_boxes (w : World) (a b c : Obj) : Below w.heap.size w (((w.alloc a).alloc b).alloc c) := (((Below.refl _ w).alloc (Nat.le_refl _) a).alloc (by simp) b).alloc (by simp; omega) c
set_option maxHeartbeats 2000000 in
theorem time7 (n : Nd) (NA : Option Addr) (nm nc : Nat) (t : St) (w : World) : Calls Try.prog 19 #[.agg #[.int .u8 ((7 : Nat) : Nat), .int .u8 (n.a : Nat), .int .i64 n.b, .int .i64 n.d, .slice NA nm nc], t.val] w (fun e w' => e = .returned (.tuple #[(ov (t.into)).val, .bool (t.into).isSome]) ∧ Below w.heap.size w w') := by
  have HC := Lib.hid fun w' => into_any t w'
  generalize (t.into) = o at *
  obtain ⟨q, hq⟩ : ∃ q, ov o = q := ⟨_, rfl⟩
  rw [hq] at HC ⊢
  generalize o.isSome = B at *
  clear hq
  have hz := zero_made ((w.alloc (.cells #[.int .u8 ((7 : Nat) : Nat), .int .u8 (n.a : Nat), .int .i64 n.b, .int .i64 n.d, .slice NA nm nc] 24)).alloc (.cells #[.int .i64 t.d, .int .i64 t.e, .int .i64 t.x, .int .i64 t.y, .int .i64 t.z] 40))
  rw [size_alloc, size_alloc] at hz
  have hb := three_boxes w (.cells #[.int .u8 ((7 : Nat) : Nat), .int .u8 (n.a : Nat), .int .i64 n.b, .int .i64 n.d, .slice NA nm nc] 24) (.cells #[.int .i64 t.d, .int .i64 t.e, .int .i64 t.x, .int .i64 t.y, .int .i64 t.z] 40) (.cells #[.int .i64 0, .int .i64 0, .int .i64 0, .int .i64 0, .int .i64 0] 40)
  have HZ := Lib.hid hz; have HB := Lib.hid hb; clear hz hb
  go_enter Try.func19, Try.ntmps19
  go_wp2_with fail
  refine (HC.out _).mono ?_; rintro e1 w1 ⟨rfl, hb1⟩
  have hb2 := HB.out.trans (hb1.mono HB.out.size)
  have h2 := HZ.out.below hb1
  obtain ⟨f0, f1, f2, f3, f4⟩ := h2.free5
  obtain ⟨c0, c1, c2, c3, c4⟩ := h2.cells5
  have H2 := Lib.hid h2; have HB2 := Lib.hid hb2; clear h2 hb2 hb1 HZ HB HC
  dsimp only
  go_wp2_with fail
  refine bodyPost_ret (v := .tuple #[.agg #[.int .i64 q.d, .int .i64 q.e, .int .i64 q.x, .int .i64 q.y, .int .i64 q.z], .bool B]) (two_results rfl _ _ _ 40 _ (0, 0) _ rfl (Holds.all H2.out _ _ _ _ _) Try.underlying40 rfl (by kernel_rfl) rfl) rfl ?_
  exact ⟨rfl, below_set5 (g := w.heap.size + 1 + 1) HB2.out (by omega)⟩
set_option maxHeartbeats 2000000 in
theorem time8 (n : Nd) (NA : Option Addr) (nm nc : Nat) (t : St) (w : World) : Calls Try.prog 19 #[.agg #[.int .u8 ((8 : Nat) : Nat), .int .u8 (n.a : Nat), .int .i64 n.b, .int .i64 n.d, .slice NA nm nc], t.val] w (fun e w' => e = .returned (.tuple #[(ov (t.out)).val, .bool (t.out).isSome]) ∧ Below w.heap.size w w') := by
  have HC := Lib.hid fun w' => out_any t w'
  generalize (t.out) = o at *
  obtain ⟨q, hq⟩ : ∃ q, ov o = q := ⟨_, rfl⟩
  rw [hq] at HC ⊢
  generalize o.isSome = B at *
  clear hq
  have hz := zero_made ((w.alloc (.cells #[.int .u8 ((8 : Nat) : Nat), .int .u8 (n.a : Nat), .int .i64 n.b, .int .i64 n.d, .slice NA nm nc] 24)).alloc (.cells #[.int .i64 t.d, .int .i64 t.e, .int .i64 t.x, .int .i64 t.y, .int .i64 t.z] 40))
  rw [size_alloc, size_alloc] at hz
  have hb := three_boxes w (.cells #[.int .u8 ((8 : Nat) : Nat), .int .u8 (n.a : Nat), .int .i64 n.b, .int .i64 n.d, .slice NA nm nc] 24) (.cells #[.int .i64 t.d, .int .i64 t.e, .int .i64 t.x, .int .i64 t.y, .int .i64 t.z] 40) (.cells #[.int .i64 0, .int .i64 0, .int .i64 0, .int .i64 0, .int .i64 0] 40)
  have HZ := Lib.hid hz; have HB := Lib.hid hb; clear hz hb
  go_enter Try.func19, Try.ntmps19
  go_wp2_with fail
  refine (HC.out _).mono ?_; rintro e1 w1 ⟨rfl, hb1⟩
  have hb2 := HB.out.trans (hb1.mono HB.out.size)
  have h2 := HZ.out.below hb1
  obtain ⟨f0, f1, f2, f3, f4⟩ := h2.free5
  obtain ⟨c0, c1, c2, c3, c4⟩ := h2.cells5
  have H2 := Lib.hid h2; have HB2 := Lib.hid hb2; clear h2 hb2 hb1 HZ HB HC
  dsimp only
  go_wp2_with fail
  refine bodyPost_ret (v := .tuple #[.agg #[.int .i64 q.d, .int .i64 q.e, .int .i64 q.x, .int .i64 q.y, .int .i64 q.z], .bool B]) (two_results rfl _ _ _ 40 _ (0, 0) _ rfl (Holds.all H2.out _ _ _ _ _) Try.underlying40 rfl (by kernel_rfl) rfl) rfl ?_
  exact ⟨rfl, below_set5 (g := w.heap.size + 1 + 1) HB2.out (by omega)⟩
set_option maxHeartbeats 2000000 in
theorem time9 (n : Nd) (NA : Option Addr) (nm nc : Nat) (t : St) (w : World) : Calls Try.prog 19 #[.agg #[.int .u8 ((9 : Nat) : Nat), .int .u8 (n.a : Nat), .int .i64 n.b, .int .i64 n.d, .slice NA nm nc], t.val] w (fun e w' => e = .returned (.tuple #[(ov (roundB t n.b)).val, .bool (roundB t n.b).isSome]) ∧ Below w.heap.size w w') := by
  have HC := Lib.hid fun w' => opRound_any t n.b w'
  generalize (roundB t n.b) = o at *
  obtain ⟨q, hq⟩ : ∃ q, ov o = q := ⟨_, rfl⟩
  rw [hq] at HC ⊢
  generalize o.isSome = B at *
  clear hq
  have hz := zero_made ((w.alloc (.cells #[.int .u8 ((9 : Nat) : Nat), .int .u8 (n.a : Nat), .int .i64 n.b, .int .i64 n.d, .slice NA nm nc] 24)).alloc (.cells #[.int .i64 t.d, .int .i64 t.e, .int .i64 t.x, .int .i64 t.y, .int .i64 t.z] 40))
  rw [size_alloc, size_alloc] at hz
  have hb := three_boxes w (.cells #[.int .u8 ((9 : Nat) : Nat), .int .u8 (n.a : Nat), .int .i64 n.b, .int .i64 n.d, .slice NA nm nc] 24) (.cells #[.int .i64 t.d, .int .i64 t.e, .int .i64 t.x, .int .i64 t.y, .int .i64 t.z] 40) (.cells #[.int .i64 0, .int .i64 0, .int .i64 0, .int .i64 0, .int .i64 0] 40)
  have HZ := Lib.hid hz; have HB := Lib.hid hb; clear hz hb
  go_enter Try.func19, Try.ntmps19
  go_wp2_with fail
  refine (HC.out _).mono ?_; rintro e1 w1 ⟨rfl, hb1⟩
  have hb2 := HB.out.trans (hb1.mono HB.out.size)
  have h2 := HZ.out.below hb1
  obtain ⟨f0, f1, f2, f3, f4⟩ := h2.free5
  obtain ⟨c0, c1, c2, c3, c4⟩ := h2.cells5
  have H2 := Lib.hid h2; have HB2 := Lib.hid hb2; clear h2 hb2 hb1 HZ HB HC
  dsimp only
  go_wp2_with fail
  refine bodyPost_ret (v := .tuple #[.agg #[.int .i64 q.d, .int .i64 q.e, .int .i64 q.x, .int .i64 q.y, .int .i64 q.z], .bool B]) (two_results rfl _ _ _ 40 _ (0, 0) _ rfl (Holds.all H2.out _ _ _ _ _) Try.underlying40 rfl (by kernel_rfl) rfl) rfl ?_
  exact ⟨rfl, below_set5 (g := w.heap.size + 1 + 1) HB2.out (by omega)⟩
set_option maxHeartbeats 2000000 in
theorem timeElse1 (n : Nd) (NA : Option Addr) (nm nc : Nat) (t : St) (w : World) (h7 : n.k ≠ 7) (h8 : n.k ≠ 8) (h9 : n.k ≠ 9) (hR : t.R) : Calls Try.prog 19 #[.agg #[.int .u8 (n.k : Nat), .int .u8 (n.a : Nat), .int .i64 n.b, .int .i64 n.d, .slice NA nm nc], t.val] w (fun e w' => e = .returned (.tuple #[(ov ((some t : Option St))).val, .bool ((some t : Option St)).isSome]) ∧ Below w.heap.size w w') := by
  have z7 : ((n.k : Int) == 7) = false := by simp; omega
  have z8 : ((n.k : Int) == 8) = false := by simp; omega
  have z9 : ((n.k : Int) == 9) = false := by simp; omega
  have hc := fun w' => right_any t w'
  rw [decide_eq_true hR] at hc
  have HC := Lib.hid hc; clear hc hR h7 h8 h9
  unfold ov
  simp only [Option.getD_none, Option.getD_some, Option.isSome_none, Option.isSome_some, zero_val]
  have hz := zero_made ((w.alloc (.cells #[.int .u8 (n.k : Nat), .int .u8 (n.a : Nat), .int .i64 n.b, .int .i64 n.d, .slice NA nm nc] 24)).alloc (.cells #[.int .i64 t.d, .int .i64 t.e, .int .i64 t.x, .int .i64 t.y, .int .i64 t.z] 40))
  rw [size_alloc, size_alloc] at hz
  have hb := three_boxes w (.cells #[.int .u8 (n.k : Nat), .int .u8 (n.a : Nat), .int .i64 n.b, .int .i64 n.d, .slice NA nm nc] 24) (.cells #[.int .i64 t.d, .int .i64 t.e, .int .i64 t.x, .int .i64 t.y, .int .i64 t.z] 40) (.cells #[.int .i64 0, .int .i64 0, .int .i64 0, .int .i64 0, .int .i64 0] 40)
  have HZ := Lib.hid hz; have HB := Lib.hid hb; clear hz hb
  go_enter Try.func19, Try.ntmps19
  go_wp2_with fail
  refine (HC.out _).mono ?_; rintro e1 w1 ⟨rfl, hb1⟩
  have h1 := (Row.made (w.alloc (.cells #[.int .u8 (n.k : Nat), .int .u8 (n.a : Nat), .int .i64 n.b, .int .i64 n.d, .slice NA nm nc] 24)) 40 [.int .i64 t.d, .int .i64 t.e, .int .i64 t.x, .int .i64 t.y, .int .i64 t.z]).alloc (.cells #[.int .i64 0, .int .i64 0, .int .i64 0, .int .i64 0, .int .i64 0] 40)
  rw [size_alloc] at h1
  have h1b := h1.below hb1 h1.lt
  obtain ⟨d0, d1, d2, d3, d4⟩ := cells5 h1b
  clear h1 h1b
  have hb2 := HB.out.trans (hb1.mono HB.out.size)
  have h2 := HZ.out.below hb1
  obtain ⟨f0, f1, f2, f3, f4⟩ := h2.free5
  obtain ⟨c0, c1, c2, c3, c4⟩ := h2.cells5
  have H2 := Lib.hid h2; have HB2 := Lib.hid hb2; clear h2 hb2 hb1 HZ HB HC
  dsimp only
  go_wp2_with fail
  refine bodyPost_ret (v := .tuple #[.agg #[.int .i64 t.d, .int .i64 t.e, .int .i64 t.x, .int .i64 t.y, .int .i64 t.z], .bool true]) (two_results rfl _ _ _ 40 _ (0, 0) _ rfl (Holds.all H2.out _ _ _ _ _) Try.underlying40 rfl (by kernel_rfl) rfl) rfl ?_
  exact ⟨rfl, below_set5 (g := w.heap.size + 1 + 1) HB2.out (by omega)⟩
set_option maxHeartbeats 2000000 in
theorem timeElse0 (n : Nd) (NA : Option Addr) (nm nc : Nat) (t : St) (w : World) (h7 : n.k ≠ 7) (h8 : n.k ≠ 8) (h9 : n.k ≠ 9) (hR : ¬ t.R) : Calls Try.prog 19 #[.agg #[.int .u8 (n.k : Nat), .int .u8 (n.a : Nat), .int .i64 n.b, .int .i64 n.d, .slice NA nm nc], t.val] w (fun e w' => e = .returned (.tuple #[(ov ((none : Option St))).val, .bool ((none : Option St)).isSome]) ∧ Below w.heap.size w w') := by
  have z7 : ((n.k : Int) == 7) = false := by simp; omega
  have z8 : ((n.k : Int) == 8) = false := by simp; omega
  have z9 : ((n.k : Int) == 9) = false := by simp; omega
  have hc := fun w' => right_any t w'
  rw [decide_eq_false hR] at hc
  have HC := Lib.hid hc; clear hc hR h7 h8 h9
  unfold ov
  simp only [Option.getD_none, Option.getD_some, Option.isSome_none, Option.isSome_some, zero_val]
  have hz := zero_made ((w.alloc (.cells #[.int .u8 (n.k : Nat), .int .u8 (n.a : Nat), .int .i64 n.b, .int .i64 n.d, .slice NA nm nc] 24)).alloc (.cells #[.int .i64 t.d, .int .i64 t.e, .int .i64 t.x, .int .i64 t.y, .int .i64 t.z] 40))
  rw [size_alloc, size_alloc] at hz
  have hb := three_boxes w (.cells #[.int .u8 (n.k : Nat), .int .u8 (n.a : Nat), .int .i64 n.b, .int .i64 n.d, .slice NA nm nc] 24) (.cells #[.int .i64 t.d, .int .i64 t.e, .int .i64 t.x, .int .i64 t.y, .int .i64 t.z] 40) (.cells #[.int .i64 0, .int .i64 0, .int .i64 0, .int .i64 0, .int .i64 0] 40)
  have HZ := Lib.hid hz; have HB := Lib.hid hb; clear hz hb
  go_enter Try.func19, Try.ntmps19
  go_wp2_with fail
  refine (HC.out _).mono ?_; rintro e1 w1 ⟨rfl, hb1⟩
  have hb2 := HB.out.trans (hb1.mono HB.out.size)
  have h2 := HZ.out.below hb1
  obtain ⟨f0, f1, f2, f3, f4⟩ := h2.free5
  obtain ⟨c0, c1, c2, c3, c4⟩ := h2.cells5
  have H2 := Lib.hid h2; have HB2 := Lib.hid hb2; clear h2 hb2 hb1 HZ HB HC
  dsimp only
  go_wp2_with fail
  refine bodyPost_ret (v := .tuple #[.agg #[.int .i64 0, .int .i64 0, .int .i64 0, .int .i64 0, .int .i64 0], .bool false]) (two_results rfl _ _ _ 40 _ (0, 0) _ rfl (Holds.all H2.out _ _ _ _ _) Try.underlying40 rfl (by kernel_rfl) rfl) rfl ?_
  exact ⟨rfl, below_set5 (g := w.heap.size + 1 + 1) HB2.out (by omega)⟩
theorem time_any (n : Nd) (NA : Option Addr) (nm nc : Nat) (t : St) (w : World) : Calls Try.prog 19 #[nodeV0 n NA nm nc, t.val] w (fun e w' => e = .returned (.tuple #[(ov (timeR n t)).val, .bool (timeR n t).isSome]) ∧ Below w.heap.size w w') := by
  unfold timeR
  by_cases h7 : n.k = 7
  · rw [if_pos h7]; have := time7 n NA nm nc t w; unfold nodeV0; rw [h7]; exact this
  · rw [if_neg h7]
    by_cases h8 : n.k = 8
    · rw [if_pos h8]; have := time8 n NA nm nc t w; unfold nodeV0; rw [h8]; exact this
    · rw [if_neg h8]
      by_cases h9 : n.k = 9
      · rw [if_pos h9]; have := time9 n NA nm nc t w; unfold nodeV0; rw [h9]; exact this
      · rw [if_neg h9]
        by_cases hR : t.R
        · rw [if_pos hR]; exact timeElse1 n NA nm nc t w h7 h8 h9 hR
        · rw [if_neg hR]; exact timeElse0 n NA nm nc t w h7 h8 h9 hR
set_option maxHeartbeats 2000000 in
theorem refTime7 (n : Nd) (NA : Option Addr) (nm nc : Nat) (t : St) (w : World) : Calls Try.prog 20 #[.agg #[.int .u8 ((7 : Nat) : Nat), .int .u8 (n.a : Nat), .int .i64 n.b, .int .i64 n.d, .slice NA nm nc], t.val] w (fun e w' => e = .returned (.tuple #[(ov (t.into)).val, .bool (t.into).isSome]) ∧ Below w.heap.size w w') := by
  have HC := Lib.hid fun w' => refInto_any t w'
  generalize (t.into) = o at *
  obtain ⟨q, hq⟩ : ∃ q, ov o = q := ⟨_, rfl⟩
  rw [hq] at HC ⊢
  generalize o.isSome = B at *
  clear hq
  have hz := zero_made ((w.alloc (.cells #[.int .u8 ((7 : Nat) : Nat), .int .u8 (n.a : Nat), .int .i64 n.b, .int .i64 n.d, .slice NA nm nc] 24)).alloc (.cells #[.int .i64 t.d, .int .i64 t.e, .int .i64 t.x, .int .i64 t.y, .int .i64 t.z] 40))
  rw [size_alloc, size_alloc] at hz
  have hb := three_boxes w (.cells #[.int .u8 ((7 : Nat) : Nat), .int .u8 (n.a : Nat), .int .i64 n.b, .int .i64 n.d, .slice NA nm nc] 24) (.cells #[.int .i64 t.d, .int .i64 t.e, .int .i64 t.x, .int .i64 t.y, .int .i64 t.z] 40) (.cells #[.int .i64 0, .int .i64 0, .int .i64 0, .int .i64 0, .int .i64 0] 40)
  have HZ := Lib.hid hz; have HB := Lib.hid hb; clear hz hb
  go_enter Try.func20, Try.ntmps20
  go_wp2_with fail
  refine (HC.out _).mono ?_; rintro e1 w1 ⟨rfl, hb1⟩
  have hb2 := HB.out.trans (hb1.mono HB.out.size)
  have h2 := HZ.out.below hb1
  obtain ⟨f0, f1, f2, f3, f4⟩ := h2.free5
  obtain ⟨c0, c1, c2, c3, c4⟩ := h2.cells5
  have H2 := Lib.hid h2; have HB2 := Lib.hid hb2; clear h2 hb2 hb1 HZ HB HC
  dsimp only
  go_wp2_with fail
  refine bodyPost_ret (v := .tuple #[.agg #[.int .i64 q.d, .int .i64 q.e, .int .i64 q.x, .int .i64 q.y, .int .i64 q.z], .bool B]) (two_results rfl _ _ _ 40 _ (0, 0) _ rfl (Holds.all H2.out _ _ _ _ _) Try.underlying40 rfl (by kernel_rfl) rfl) rfl ?_
  exact ⟨rfl, below_set5 (g := w.heap.size + 1 + 1) HB2.out (by omega)⟩
set_option maxHeartbeats 2000000 in
theorem refTime8 (n : Nd) (NA : Option Addr) (nm nc : Nat) (t : St) (w : World) : Calls Try.prog 20 #[.agg #[.int .u8 ((8 : Nat) : Nat), .int .u8 (n.a : Nat), .int .i64 n.b, .int .i64 n.d, .slice NA nm nc], t.val] w (fun e w' => e = .returned (.tuple #[(ov (t.out)).val, .bool (t.out).isSome]) ∧ Below w.heap.size w w') := by
  have HC := Lib.hid fun w' => refOut_any t w'
  generalize (t.out) = o at *
  obtain ⟨q, hq⟩ : ∃ q, ov o = q := ⟨_, rfl⟩
  rw [hq] at HC ⊢
  generalize o.isSome = B at *
  clear hq
  have hz := zero_made ((w.alloc (.cells #[.int .u8 ((8 : Nat) : Nat), .int .u8 (n.a : Nat), .int .i64 n.b, .int .i64 n.d, .slice NA nm nc] 24)).alloc (.cells #[.int .i64 t.d, .int .i64 t.e, .int .i64 t.x, .int .i64 t.y, .int .i64 t.z] 40))
  rw [size_alloc, size_alloc] at hz
  have hb := three_boxes w (.cells #[.int .u8 ((8 : Nat) : Nat), .int .u8 (n.a : Nat), .int .i64 n.b, .int .i64 n.d, .slice NA nm nc] 24) (.cells #[.int .i64 t.d, .int .i64 t.e, .int .i64 t.x, .int .i64 t.y, .int .i64 t.z] 40) (.cells #[.int .i64 0, .int .i64 0, .int .i64 0, .int .i64 0, .int .i64 0] 40)
  have HZ := Lib.hid hz; have HB := Lib.hid hb; clear hz hb
  go_enter Try.func20, Try.ntmps20
  go_wp2_with fail
  refine (HC.out _).mono ?_; rintro e1 w1 ⟨rfl, hb1⟩
  have hb2 := HB.out.trans (hb1.mono HB.out.size)
  have h2 := HZ.out.below hb1
  obtain ⟨f0, f1, f2, f3, f4⟩ := h2.free5
  obtain ⟨c0, c1, c2, c3, c4⟩ := h2.cells5
  have H2 := Lib.hid h2; have HB2 := Lib.hid hb2; clear h2 hb2 hb1 HZ HB HC
  dsimp only
  go_wp2_with fail
  refine bodyPost_ret (v := .tuple #[.agg #[.int .i64 q.d, .int .i64 q.e, .int .i64 q.x, .int .i64 q.y, .int .i64 q.z], .bool B]) (two_results rfl _ _ _ 40 _ (0, 0) _ rfl (Holds.all H2.out _ _ _ _ _) Try.underlying40 rfl (by kernel_rfl) rfl) rfl ?_
  exact ⟨rfl, below_set5 (g := w.heap.size + 1 + 1) HB2.out (by omega)⟩
set_option maxHeartbeats 2000000 in
theorem refTimeElse1 (n : Nd) (NA : Option Addr) (nm nc : Nat) (t : St) (w : World) (h7 : n.k ≠ 7) (h8 : n.k ≠ 8) (h9 : n.k ≠ 9) (hR : t.R) : Calls Try.prog 20 #[.agg #[.int .u8 (n.k : Nat), .int .u8 (n.a : Nat), .int .i64 n.b, .int .i64 n.d, .slice NA nm nc], t.val] w (fun e w' => e = .returned (.tuple #[(ov ((some t : Option St))).val, .bool ((some t : Option St)).isSome]) ∧ Below w.heap.size w w') := by
  have z7 : ((n.k : Int) == 7) = false := by simp; omega
  have z8 : ((n.k : Int) == 8) = false := by simp; omega
  have z9 : ((n.k : Int) == 9) = false := by simp; omega
  have hc := fun w' => refRight_any t w'
  rw [decide_eq_true hR] at hc
  have HC := Lib.hid hc; clear hc hR h7 h8 h9
  unfold ov
  simp only [Option.getD_none, Option.getD_some, Option.isSome_none, Option.isSome_some, zero_val]
  have hz := zero_made ((w.alloc (.cells #[.int .u8 (n.k : Nat), .int .u8 (n.a : Nat), .int .i64 n.b, .int .i64 n.d, .slice NA nm nc] 24)).alloc (.cells #[.int .i64 t.d, .int .i64 t.e, .int .i64 t.x, .int .i64 t.y, .int .i64 t.z] 40))
  rw [size_alloc, size_alloc] at hz
  have hb := three_boxes w (.cells #[.int .u8 (n.k : Nat), .int .u8 (n.a : Nat), .int .i64 n.b, .int .i64 n.d, .slice NA nm nc] 24) (.cells #[.int .i64 t.d, .int .i64 t.e, .int .i64 t.x, .int .i64 t.y, .int .i64 t.z] 40) (.cells #[.int .i64 0, .int .i64 0, .int .i64 0, .int .i64 0, .int .i64 0] 40)
  have HZ := Lib.hid hz; have HB := Lib.hid hb; clear hz hb
  go_enter Try.func20, Try.ntmps20
  go_wp2_with fail
  refine (HC.out _).mono ?_; rintro e1 w1 ⟨rfl, hb1⟩
  have h1 := (Row.made (w.alloc (.cells #[.int .u8 (n.k : Nat), .int .u8 (n.a : Nat), .int .i64 n.b, .int .i64 n.d, .slice NA nm nc] 24)) 40 [.int .i64 t.d, .int .i64 t.e, .int .i64 t.x, .int .i64 t.y, .int .i64 t.z]).alloc (.cells #[.int .i64 0, .int .i64 0, .int .i64 0, .int .i64 0, .int .i64 0] 40)
  rw [size_alloc] at h1
  have h1b := h1.below hb1 h1.lt
  obtain ⟨d0, d1, d2, d3, d4⟩ := cells5 h1b
  clear h1 h1b
  have hb2 := HB.out.trans (hb1.mono HB.out.size)
  have h2 := HZ.out.below hb1
  obtain ⟨f0, f1, f2, f3, f4⟩ := h2.free5
  obtain ⟨c0, c1, c2, c3, c4⟩ := h2.cells5
  have H2 := Lib.hid h2; have HB2 := Lib.hid hb2; clear h2 hb2 hb1 HZ HB HC
  dsimp only
  go_wp2_with fail
  refine bodyPost_ret (v := .tuple #[.agg #[.int .i64 t.d, .int .i64 t.e, .int .i64 t.x, .int .i64 t.y, .int .i64 t.z], .bool true]) (two_results rfl _ _ _ 40 _ (0, 0) _ rfl (Holds.all H2.out _ _ _ _ _) Try.underlying40 rfl (by kernel_rfl) rfl) rfl ?_
  exact ⟨rfl, below_set5 (g := w.heap.size + 1 + 1) HB2.out (by omega)⟩
set_option maxHeartbeats 2000000 in
theorem refTimeElse0 (n : Nd) (NA : Option Addr) (nm nc : Nat) (t : St) (w : World) (h7 : n.k ≠ 7) (h8 : n.k ≠ 8) (h9 : n.k ≠ 9) (hR : ¬ t.R) : Calls Try.prog 20 #[.agg #[.int .u8 (n.k : Nat), .int .u8 (n.a : Nat), .int .i64 n.b, .int .i64 n.d, .slice NA nm nc], t.val] w (fun e w' => e = .returned (.tuple #[(ov ((none : Option St))).val, .bool ((none : Option St)).isSome]) ∧ Below w.heap.size w w') := by
  have z7 : ((n.k : Int) == 7) = false := by simp; omega
  have z8 : ((n.k : Int) == 8) = false := by simp; omega
  have z9 : ((n.k : Int) == 9) = false := by simp; omega
  have hc := fun w' => refRight_any t w'
  rw [decide_eq_false hR] at hc
  have HC := Lib.hid hc; clear hc hR h7 h8 h9
  unfold ov
  simp only [Option.getD_none, Option.getD_some, Option.isSome_none, Option.isSome_some, zero_val]
  have hz := zero_made ((w.alloc (.cells #[.int .u8 (n.k : Nat), .int .u8 (n.a : Nat), .int .i64 n.b, .int .i64 n.d, .slice NA nm nc] 24)).alloc (.cells #[.int .i64 t.d, .int .i64 t.e, .int .i64 t.x, .int .i64 t.y, .int .i64 t.z] 40))
  rw [size_alloc, size_alloc] at hz
  have hb := three_boxes w (.cells #[.int .u8 (n.k : Nat), .int .u8 (n.a : Nat), .int .i64 n.b, .int .i64 n.d, .slice NA nm nc] 24) (.cells #[.int .i64 t.d, .int .i64 t.e, .int .i64 t.x, .int .i64 t.y, .int .i64 t.z] 40) (.cells #[.int .i64 0, .int .i64 0, .int .i64 0, .int .i64 0, .int .i64 0] 40)
  have HZ := Lib.hid hz; have HB := Lib.hid hb; clear hz hb
  go_enter Try.func20, Try.ntmps20
  go_wp2_with fail
  refine (HC.out _).mono ?_; rintro e1 w1 ⟨rfl, hb1⟩
  have hb2 := HB.out.trans (hb1.mono HB.out.size)
  have h2 := HZ.out.below hb1
  obtain ⟨f0, f1, f2, f3, f4⟩ := h2.free5
  obtain ⟨c0, c1, c2, c3, c4⟩ := h2.cells5
  have H2 := Lib.hid h2; have HB2 := Lib.hid hb2; clear h2 hb2 hb1 HZ HB HC
  dsimp only
  go_wp2_with fail
  refine bodyPost_ret (v := .tuple #[.agg #[.int .i64 0, .int .i64 0, .int .i64 0, .int .i64 0, .int .i64 0], .bool false]) (two_results rfl _ _ _ 40 _ (0, 0) _ rfl (Holds.all H2.out _ _ _ _ _) Try.underlying40 rfl (by kernel_rfl) rfl) rfl ?_
  exact ⟨rfl, below_set5 (g := w.heap.size + 1 + 1) HB2.out (by omega)⟩
set_option maxHeartbeats 4000000 in
theorem refTime9 (n : Nd) (NA : Option Addr) (nm nc : Nat) (t : St) (w : World) : Calls Try.prog 20 #[.agg #[.int .u8 ((9 : Nat) : Nat), .int .u8 (n.a : Nat), .int .i64 n.b, .int .i64 n.d, .slice NA nm nc], t.val] w (fun e w' => e = .returned (.tuple #[(ov (roundB t n.b)).val, .bool (roundB t n.b).isSome]) ∧ Below w.heap.size w w') := by
  have HC := Lib.hid fun w' => refStep_any t w'
  have hz := zero_made ((w.alloc (.cells #[.int .u8 ((9 : Nat) : Nat), .int .u8 (n.a : Nat), .int .i64 n.b, .int .i64 n.d, .slice NA nm nc] 24)).alloc (.cells #[.int .i64 t.d, .int .i64 t.e, .int .i64 t.x, .int .i64 t.y, .int .i64 t.z] 40))
  rw [size_alloc, size_alloc] at hz
  have hb := three_boxes w (.cells #[.int .u8 ((9 : Nat) : Nat), .int .u8 (n.a : Nat), .int .i64 n.b, .int .i64 n.d, .slice NA nm nc] 24) (.cells #[.int .i64 t.d, .int .i64 t.e, .int .i64 t.x, .int .i64 t.y, .int .i64 t.z] 40) (.cells #[.int .i64 0, .int .i64 0, .int .i64 0, .int .i64 0, .int .i64 0] 40)
  have HZ := Lib.hid hz; have HB := Lib.hid hb; clear hz hb
  have hnb := ((node_box w ⟨9, n.a, n.b, n.d, []⟩ NA nm nc).alloc (.cells #[.int .i64 t.d, .int .i64 t.e, .int .i64 t.x, .int .i64 t.y, .int .i64 t.z] 40)).alloc (.cells #[.int .i64 0, .int .i64 0, .int .i64 0, .int .i64 0, .int .i64 0] 40)
  simp only at hnb
  have HNB := Lib.hid hnb; clear hnb
  cases hr : t.round with
  | none =>
    have e0 : roundB t n.b = none := by unfold roundB; rw [hr]
    rw [e0]
    rw [hr] at HC
    unfold ov at *
    simp only [Option.getD_none, Option.isSome_none, zero_val] at HC ⊢
    clear hr e0
    go_enter Try.func20, Try.ntmps20
    go_wp2_with fail
    refine (HC.out _).mono ?_; rintro e1 w1 ⟨rfl, hb1⟩
    have hb2 := HB.out.trans (hb1.mono HB.out.size)
    have h2 := HZ.out.below hb1
    clear HZ HB HC hb1 HNB
    go_upto_region 8 with fail
    have hb3 := hb2.alloc hb2.size (.cells #[.int .i64 0, .int .i64 0, .int .i64 0, .int .i64 0, .int .i64 0] 40)
    have h3 := h2.alloc (.cells #[.int .i64 0, .int .i64 0, .int .i64 0, .int .i64 0, .int .i64 0] 40)
    generalize w1.alloc (.cells #[.int .i64 0, .int .i64 0, .int .i64 0, .int .i64 0, .int .i64 0] 40) = wz at *
    have H3 := Lib.hid h3; have HB3 := Lib.hid hb3; clear h3 hb3 h2 hb2
    go_quiet (fail)
    have h3 := Row.drewN H3.out nq
    obtain ⟨f0, f1, f2, f3, f4⟩ := Holds.free5 h3
    obtain ⟨c0, c1, c2, c3, c4⟩ := Holds.cells5 h3
    have H4 := Lib.hid h3; have HB4 := Lib.hid (below_drewN HB3.out nq); clear h3
    generalize wz.drewN nq = wq at *
    go_wp2_with fail
    refine bodyPost_ret (v := .tuple #[.agg #[.int .i64 0, .int .i64 0, .int .i64 0, .int .i64 0, .int .i64 0], .bool false]) (two_results rfl _ _ _ 40 _ (0, 0) _ rfl (Holds.all H4.out _ _ _ _ _) Try.underlying40 rfl (by kernel_rfl) rfl) rfl ?_
    exact ⟨rfl, below_set5 (g := w.heap.size + 1 + 1) HB4.out (by omega)⟩
  | some u =>
    have hd := round_d hr
    rw [hr] at HC
    obtain ⟨ud, ue, ux, uy, uz⟩ := u
    simp only at hd
    unfold ov at *
    simp only [Option.getD_some, Option.isSome_some] at HC
    rcases hd with rfl | rfl | rfl
    · by_cases hl : ux < n.b
      · have e0 : roundB t n.b = some ⟨1, ue, ux, uy, uz⟩ := by unfold roundB; rw [hr]; simp [St.last, hl]
        rw [e0]
        simp only [Option.getD_some, Option.isSome_some, Option.getD_none, Option.isSome_none, zero_val]
        clear hr e0
        go_enter Try.func20, Try.ntmps20
        go_wp2_with fail
        refine (HC.out _).mono ?_; rintro e1 w1 ⟨rfl, hb1⟩
        have hb2 := HB.out.trans (hb1.mono HB.out.size)
        have h2 := HZ.out.below hb1
        have hn2 := HNB.out.below hb1 HNB.out.lt
        clear HZ HB HC hb1 HNB
        go_upto_region 8 with fail
        have hb3 := hb2.alloc hb2.size (.cells #[.int .i64 1, .int .i64 ue, .int .i64 ux, .int .i64 uy, .int .i64 uz] 40)
        have h3 := h2.alloc (.cells #[.int .i64 1, .int .i64 ue, .int .i64 ux, .int .i64 uy, .int .i64 uz] 40)
        have hn3 := hn2.alloc (.cells #[.int .i64 1, .int .i64 ue, .int .i64 ux, .int .i64 uy, .int .i64 uz] 40)
        have h4 := Holds.made w1 ⟨1, ue, ux, uy, uz⟩
        have hgz : w.heap.size + 1 + 1 < w1.heap.size := h2.lt
        simp only [St.cells, List.toArray] at h4
        generalize w1.alloc (.cells #[.int .i64 1, .int .i64 ue, .int .i64 ux, .int .i64 uy, .int .i64 uz] 40) = wz at *
        generalize w1.heap.size = g4 at *
        obtain ⟨d0, d1, d2, d3, d4⟩ := h4.cells5
        obtain ⟨m0, m1, m2, m3, m4⟩ := cells5 hn3
        simp only at d0 d1 d2 d3 d4
        have H3 := Lib.hid h3; have HB3 := Lib.hid hb3; have HH4 := Lib.hid h4; clear h3 hb3 h2 hb2 hn2 hn3 h4
        have dl : decide (n.b ≤ ux) = false := by simp; omega
        go_quiet (fail)
        clear d0 d1 d2 d3 d4 m0 m1 m2 m3 m4
        have h3 := Row.drewN H3.out nq
        have h4 := Row.drewN HH4.out nq
        obtain ⟨f0, f1, f2, f3, f4⟩ := Holds.free5 h3
        obtain ⟨c0, c1, c2, c3, c4⟩ := Holds.cells5 h3
        obtain ⟨d0, d1, d2, d3, d4⟩ := Holds.cells5 h4
        simp only at d0 d1 d2 d3 d4
        have H4 := Lib.hid h3; have HB4 := Lib.hid (below_drewN HB3.out nq); clear h3 h4
        generalize wz.drewN nq = wq at *
        go_wp2_with fail
        refine bodyPost_ret (v := .tuple #[.agg #[.int .i64 1, .int .i64 ue, .int .i64 ux, .int .i64 uy, .int .i64 uz], .bool true]) (two_results rfl _ _ _ 40 _ (0, 0) _ rfl (Holds.all H4.out _ _ _ _ _) Try.underlying40 rfl (by kernel_rfl) rfl) rfl ?_
        exact ⟨rfl, below_set5 (g := w.heap.size + 1 + 1) HB4.out (by omega)⟩
      · have e0 : roundB t n.b = none := by unfold roundB; rw [hr]; simp [St.last, hl]
        rw [e0]
        simp only [Option.getD_some, Option.isSome_some, Option.getD_none, Option.isSome_none, zero_val]
        clear hr e0
        go_enter Try.func20, Try.ntmps20
        go_wp2_with fail
        refine (HC.out _).mono ?_; rintro e1 w1 ⟨rfl, hb1⟩
        have hb2 := HB.out.trans (hb1.mono HB.out.size)
        have h2 := HZ.out.below hb1
        have hn2 := HNB.out.below hb1 HNB.out.lt
        clear HZ HB HC hb1 HNB
        go_upto_region 8 with fail
        have hb3 := hb2.alloc hb2.size (.cells #[.int .i64 1, .int .i64 ue, .int .i64 ux, .int .i64 uy, .int .i64 uz] 40)
        have h3 := h2.alloc (.cells #[.int .i64 1, .int .i64 ue, .int .i64 ux, .int .i64 uy, .int .i64 uz] 40)
        have hn3 := hn2.alloc (.cells #[.int .i64 1, .int .i64 ue, .int .i64 ux, .int .i64 uy, .int .i64 uz] 40)
        have h4 := Holds.made w1 ⟨1, ue, ux, uy, uz⟩
        have hgz : w.heap.size + 1 + 1 < w1.heap.size := h2.lt
        simp only [St.cells, List.toArray] at h4
        generalize w1.alloc (.cells #[.int .i64 1, .int .i64 ue, .int .i64 ux, .int .i64 uy, .int .i64 uz] 40) = wz at *
        generalize w1.heap.size = g4 at *
        obtain ⟨d0, d1, d2, d3, d4⟩ := h4.cells5
        obtain ⟨m0, m1, m2, m3, m4⟩ := cells5 hn3
        simp only at d0 d1 d2 d3 d4
        have H3 := Lib.hid h3; have HB3 := Lib.hid hb3; have HH4 := Lib.hid h4; clear h3 hb3 h2 hb2 hn2 hn3 h4
        have dl : decide (n.b ≤ ux) = true := by simp; omega
        go_quiet (fail)
        clear d0 d1 d2 d3 d4 m0 m1 m2 m3 m4
        have h3 := Row.drewN H3.out nq
        have h4 := Row.drewN HH4.out nq
        obtain ⟨f0, f1, f2, f3, f4⟩ := Holds.free5 h3
        obtain ⟨c0, c1, c2, c3, c4⟩ := Holds.cells5 h3
        obtain ⟨d0, d1, d2, d3, d4⟩ := Holds.cells5 h4
        simp only at d0 d1 d2 d3 d4
        have H4 := Lib.hid h3; have HB4 := Lib.hid (below_drewN HB3.out nq); clear h3 h4
        generalize wz.drewN nq = wq at *
        go_wp2_with fail
        refine bodyPost_ret (v := .tuple #[.agg #[.int .i64 0, .int .i64 0, .int .i64 0, .int .i64 0, .int .i64 0], .bool false]) (two_results rfl _ _ _ 40 _ (0, 0) _ rfl (Holds.all H4.out _ _ _ _ _) Try.underlying40 rfl (by kernel_rfl) rfl) rfl ?_
        exact ⟨rfl, below_set5 (g := w.heap.size + 1 + 1) HB4.out (by omega)⟩
    · by_cases hl : uy < n.b
      · have e0 : roundB t n.b = some ⟨2, ue, ux, uy, uz⟩ := by unfold roundB; rw [hr]; simp [St.last, hl]
        rw [e0]
        simp only [Option.getD_some, Option.isSome_some, Option.getD_none, Option.isSome_none, zero_val]
        clear hr e0
        go_enter Try.func20, Try.ntmps20
        go_wp2_with fail
        refine (HC.out _).mono ?_; rintro e1 w1 ⟨rfl, hb1⟩
        have hb2 := HB.out.trans (hb1.mono HB.out.size)
        have h2 := HZ.out.below hb1
        have hn2 := HNB.out.below hb1 HNB.out.lt
        clear HZ HB HC hb1 HNB
        go_upto_region 8 with fail
        have hb3 := hb2.alloc hb2.size (.cells #[.int .i64 2, .int .i64 ue, .int .i64 ux, .int .i64 uy, .int .i64 uz] 40)
        have h3 := h2.alloc (.cells #[.int .i64 2, .int .i64 ue, .int .i64 ux, .int .i64 uy, .int .i64 uz] 40)
        have hn3 := hn2.alloc (.cells #[.int .i64 2, .int .i64 ue, .int .i64 ux, .int .i64 uy, .int .i64 uz] 40)
        have h4 := Holds.made w1 ⟨2, ue, ux, uy, uz⟩
        have hgz : w.heap.size + 1 + 1 < w1.heap.size := h2.lt
        simp only [St.cells, List.toArray] at h4
        generalize w1.alloc (.cells #[.int .i64 2, .int .i64 ue, .int .i64 ux, .int .i64 uy, .int .i64 uz] 40) = wz at *
        generalize w1.heap.size = g4 at *
        obtain ⟨d0, d1, d2, d3, d4⟩ := h4.cells5
        obtain ⟨m0, m1, m2, m3, m4⟩ := cells5 hn3
        simp only at d0 d1 d2 d3 d4
        have H3 := Lib.hid h3; have HB3 := Lib.hid hb3; have HH4 := Lib.hid h4; clear h3 hb3 h2 hb2 hn2 hn3 h4
        have dl : decide (n.b ≤ uy) = false := by simp; omega
        go_quiet (fail)
        clear d0 d1 d2 d3 d4 m0 m1 m2 m3 m4
        have h3 := Row.drewN H3.out nq
        have h4 := Row.drewN HH4.out nq
        obtain ⟨f0, f1, f2, f3, f4⟩ := Holds.free5 h3
        obtain ⟨c0, c1, c2, c3, c4⟩ := Holds.cells5 h3
        obtain ⟨d0, d1, d2, d3, d4⟩ := Holds.cells5 h4
        simp only at d0 d1 d2 d3 d4
        have H4 := Lib.hid h3; have HB4 := Lib.hid (below_drewN HB3.out nq); clear h3 h4
        generalize wz.drewN nq = wq at *
        go_wp2_with fail
        refine bodyPost_ret (v := .tuple #[.agg #[.int .i64 2, .int .i64 ue, .int .i64 ux, .int .i64 uy, .int .i64 uz], .bool true]) (two_results rfl _ _ _ 40 _ (0, 0) _ rfl (Holds.all H4.out _ _ _ _ _) Try.underlying40 rfl (by kernel_rfl) rfl) rfl ?_
        exact ⟨rfl, below_set5 (g := w.heap.size + 1 + 1) HB4.out (by omega)⟩
      · have e0 : roundB t n.b = none := by unfold roundB; rw [hr]; simp [St.last, hl]
        rw [e0]
        simp only [Option.getD_some, Option.isSome_some, Option.getD_none, Option.isSome_none, zero_val]
        clear hr e0
        go_enter Try.func20, Try.ntmps20
        go_wp2_with fail
        refine (HC.out _).mono ?_; rintro e1 w1 ⟨rfl, hb1⟩
        have hb2 := HB.out.trans (hb1.mono HB.out.size)
        have h2 := HZ.out.below hb1
        have hn2 := HNB.out.below hb1 HNB.out.lt
        clear HZ HB HC hb1 HNB
        go_upto_region 8 with fail
        have hb3 := hb2.alloc hb2.size (.cells #[.int .i64 2, .int .i64 ue, .int .i64 ux, .int .i64 uy, .int .i64 uz] 40)
        have h3 := h2.alloc (.cells #[.int .i64 2, .int .i64 ue, .int .i64 ux, .int .i64 uy, .int .i64 uz] 40)
        have hn3 := hn2.alloc (.cells #[.int .i64 2, .int .i64 ue, .int .i64 ux, .int .i64 uy, .int .i64 uz] 40)
        have h4 := Holds.made w1 ⟨2, ue, ux, uy, uz⟩
        have hgz : w.heap.size + 1 + 1 < w1.heap.size := h2.lt
        simp only [St.cells, List.toArray] at h4
        generalize w1.alloc (.cells #[.int .i64 2, .int .i64 ue, .int .i64 ux, .int .i64 uy, .int .i64 uz] 40) = wz at *
        generalize w1.heap.size = g4 at *
        obtain ⟨d0, d1, d2, d3, d4⟩ := h4.cells5
        obtain ⟨m0, m1, m2, m3, m4⟩ := cells5 hn3
        simp only at d0 d1 d2 d3 d4
        have H3 := Lib.hid h3; have HB3 := Lib.hid hb3; have HH4 := Lib.hid h4; clear h3 hb3 h2 hb2 hn2 hn3 h4
        have dl : decide (n.b ≤ uy) = true := by simp; omega
        go_quiet (fail)
        clear d0 d1 d2 d3 d4 m0 m1 m2 m3 m4
        have h3 := Row.drewN H3.out nq
        have h4 := Row.drewN HH4.out nq
        obtain ⟨f0, f1, f2, f3, f4⟩ := Holds.free5 h3
        obtain ⟨c0, c1, c2, c3, c4⟩ := Holds.cells5 h3
        obtain ⟨d0, d1, d2, d3, d4⟩ := Holds.cells5 h4
        simp only at d0 d1 d2 d3 d4
        have H4 := Lib.hid h3; have HB4 := Lib.hid (below_drewN HB3.out nq); clear h3 h4
        generalize wz.drewN nq = wq at *
        go_wp2_with fail
        refine bodyPost_ret (v := .tuple #[.agg #[.int .i64 0, .int .i64 0, .int .i64 0, .int .i64 0, .int .i64 0], .bool false]) (two_results rfl _ _ _ 40 _ (0, 0) _ rfl (Holds.all H4.out _ _ _ _ _) Try.underlying40 rfl (by kernel_rfl) rfl) rfl ?_
        exact ⟨rfl, below_set5 (g := w.heap.size + 1 + 1) HB4.out (by omega)⟩
    · by_cases hl : uz < n.b
      · have e0 : roundB t n.b = some ⟨3, ue, ux, uy, uz⟩ := by unfold roundB; rw [hr]; simp [St.last, hl]
        rw [e0]
        simp only [Option.getD_some, Option.isSome_some, Option.getD_none, Option.isSome_none, zero_val]
        clear hr e0
        go_enter Try.func20, Try.ntmps20
        go_wp2_with fail
        refine (HC.out _).mono ?_; rintro e1 w1 ⟨rfl, hb1⟩
        have hb2 := HB.out.trans (hb1.mono HB.out.size)
        have h2 := HZ.out.below hb1
        have hn2 := HNB.out.below hb1 HNB.out.lt
        clear HZ HB HC hb1 HNB
        go_upto_region 8 with fail
        have hb3 := hb2.alloc hb2.size (.cells #[.int .i64 3, .int .i64 ue, .int .i64 ux, .int .i64 uy, .int .i64 uz] 40)
        have h3 := h2.alloc (.cells #[.int .i64 3, .int .i64 ue, .int .i64 ux, .int .i64 uy, .int .i64 uz] 40)
        have hn3 := hn2.alloc (.cells #[.int .i64 3, .int .i64 ue, .int .i64 ux, .int .i64 uy, .int .i64 uz] 40)
        have h4 := Holds.made w1 ⟨3, ue, ux, uy, uz⟩
        have hgz : w.heap.size + 1 + 1 < w1.heap.size := h2.lt
        simp only [St.cells, List.toArray] at h4
        generalize w1.alloc (.cells #[.int .i64 3, .int .i64 ue, .int .i64 ux, .int .i64 uy, .int .i64 uz] 40) = wz at *
        generalize w1.heap.size = g4 at *
        obtain ⟨d0, d1, d2, d3, d4⟩ := h4.cells5
        obtain ⟨m0, m1, m2, m3, m4⟩ := cells5 hn3
        simp only at d0 d1 d2 d3 d4
        have H3 := Lib.hid h3; have HB3 := Lib.hid hb3; have HH4 := Lib.hid h4; clear h3 hb3 h2 hb2 hn2 hn3 h4
        have dl : decide (n.b ≤ uz) = false := by simp; omega
        go_quiet (fail)
        clear d0 d1 d2 d3 d4 m0 m1 m2 m3 m4
        have h3 := Row.drewN H3.out nq
        have h4 := Row.drewN HH4.out nq
        obtain ⟨f0, f1, f2, f3, f4⟩ := Holds.free5 h3
        obtain ⟨c0, c1, c2, c3, c4⟩ := Holds.cells5 h3
        obtain ⟨d0, d1, d2, d3, d4⟩ := Holds.cells5 h4
        simp only at d0 d1 d2 d3 d4
        have H4 := Lib.hid h3; have HB4 := Lib.hid (below_drewN HB3.out nq); clear h3 h4
        generalize wz.drewN nq = wq at *
        go_wp2_with fail
        refine bodyPost_ret (v := .tuple #[.agg #[.int .i64 3, .int .i64 ue, .int .i64 ux, .int .i64 uy, .int .i64 uz], .bool true]) (two_results rfl _ _ _ 40 _ (0, 0) _ rfl (Holds.all H4.out _ _ _ _ _) Try.underlying40 rfl (by kernel_rfl) rfl) rfl ?_
        exact ⟨rfl, below_set5 (g := w.heap.size + 1 + 1) HB4.out (by omega)⟩
      · have e0 : roundB t n.b = none := by unfold roundB; rw [hr]; simp [St.last, hl]
        rw [e0]
        simp only [Option.getD_some, Option.isSome_some, Option.getD_none, Option.isSome_none, zero_val]
        clear hr e0
        go_enter Try.func20, Try.ntmps20
        go_wp2_with fail
        refine (HC.out _).mono ?_; rintro e1 w1 ⟨rfl, hb1⟩
        have hb2 := HB.out.trans (hb1.mono HB.out.size)
        have h2 := HZ.out.below hb1
        have hn2 := HNB.out.below hb1 HNB.out.lt
        clear HZ HB HC hb1 HNB
        go_upto_region 8 with fail
        have hb3 := hb2.alloc hb2.size (.cells #[.int .i64 3, .int .i64 ue, .int .i64 ux, .int .i64 uy, .int .i64 uz] 40)
        have h3 := h2.alloc (.cells #[.int .i64 3, .int .i64 ue, .int .i64 ux, .int .i64 uy, .int .i64 uz] 40)
        have hn3 := hn2.alloc (.cells #[.int .i64 3, .int .i64 ue, .int .i64 ux, .int .i64 uy, .int .i64 uz] 40)
        have h4 := Holds.made w1 ⟨3, ue, ux, uy, uz⟩
        have hgz : w.heap.size + 1 + 1 < w1.heap.size := h2.lt
        simp only [St.cells, List.toArray] at h4
        generalize w1.alloc (.cells #[.int .i64 3, .int .i64 ue, .int .i64 ux, .int .i64 uy, .int .i64 uz] 40) = wz at *
        generalize w1.heap.size = g4 at *
        obtain ⟨d0, d1, d2, d3, d4⟩ := h4.cells5
        obtain ⟨m0, m1, m2, m3, m4⟩ := cells5 hn3
        simp only at d0 d1 d2 d3 d4
        have H3 := Lib.hid h3; have HB3 := Lib.hid hb3; have HH4 := Lib.hid h4; clear h3 hb3 h2 hb2 hn2 hn3 h4
        have dl : decide (n.b ≤ uz) = true := by simp; omega
        go_quiet (fail)
        clear d0 d1 d2 d3 d4 m0 m1 m2 m3 m4
        have h3 := Row.drewN H3.out nq
        have h4 := Row.drewN HH4.out nq
        obtain ⟨f0, f1, f2, f3, f4⟩ := Holds.free5 h3
        obtain ⟨c0, c1, c2, c3, c4⟩ := Holds.cells5 h3
        obtain ⟨d0, d1, d2, d3, d4⟩ := Holds.cells5 h4
        simp only at d0 d1 d2 d3 d4
        have H4 := Lib.hid h3; have HB4 := Lib.hid (below_drewN HB3.out nq); clear h3 h4
        generalize wz.drewN nq = wq at *
        go_wp2_with fail
        refine bodyPost_ret (v := .tuple #[.agg #[.int .i64 0, .int .i64 0, .int .i64 0, .int .i64 0, .int .i64 0], .bool false]) (two_results rfl _ _ _ 40 _ (0, 0) _ rfl (Holds.all H4.out _ _ _ _ _) Try.underlying40 rfl (by kernel_rfl) rfl) rfl ?_
        exact ⟨rfl, below_set5 (g := w.heap.size + 1 + 1) HB4.out (by omega)⟩
theorem refTime_any (n : Nd) (NA : Option Addr) (nm nc : Nat) (t : St) (w : World) : Calls Try.prog 20 #[nodeV0 n NA nm nc, t.val] w (fun e w' => e = .returned (.tuple #[(ov (timeR n t)).val, .bool (timeR n t).isSome]) ∧ Below w.heap.size w w') := by
  unfold timeR
  by_cases h7 : n.k = 7
  · rw [if_pos h7]; have := refTime7 n NA nm nc t w; unfold nodeV0; rw [h7]; exact this
  · rw [if_neg h7]
    by_cases h8 : n.k = 8
    · rw [if_pos h8]; have := refTime8 n NA nm nc t w; unfold nodeV0; rw [h8]; exact this
    · rw [if_neg h8]
      by_cases h9 : n.k = 9
      · rw [if_pos h9]; have := refTime9 n NA nm nc t w; unfold nodeV0; rw [h9]; exact this
      · rw [if_neg h9]
        by_cases hR : t.R
        · rw [if_pos hR]; exact refTimeElse1 n NA nm nc t w h7 h8 h9 hR
        · rw [if_neg hR]; exact refTimeElse0 n NA nm nc t w h7 h8 h9 hR
end Op
end
end Go.Proofs.Ytcjdjdhjbchaaaa
