/- SmApM, SmApplyN, SmApply, SmApplyR -/
import Derived.Test.YtdpadkellpkppaaSmA
import Derived.Test.YtdpadkellpkppaaStRefA
import Derived.Test.YtdpadkellpkppaaStBothB
namespace Go.Proofs.Ytdpadkellpkppaa
set_option linter.unusedVariables false
section
open Go.ChangeShapes Go.WideShapes Go.ChangeAt Go.RowKit Go.BigFrame
def Sm.ap (s : Sm) (t : St) : St := (s.apply t).getD St.zero
def Sm.apB (s : Sm) (t : St) : Bool := (s.apply t).isSome
section
variable {s : Sm} {t : St}
theorem Sm.ap_no (h : ¬ (s.R ∧ t.R ∧ t.d = s.fr ∧ s.val t 0 < 16 ∧ s.val t 1 < 16 ∧ s.val t 2 < 16)) : s.ap t = St.zero ∧ s.apB t = false := by
  unfold Sm.ap Sm.apB Sm.apply; rw [if_neg h]; exact ⟨rfl, rfl⟩
theorem Sm.ap_yes (h : s.R ∧ t.R ∧ t.d = s.fr ∧ s.val t 0 < 16 ∧ s.val t 1 < 16 ∧ s.val t 2 < 16) : s.ap t = ⟨s.to, t.e, s.val t 0, s.val t 1, s.val t 2⟩ ∧ s.apB t = true := by
  unfold Sm.ap Sm.apB Sm.apply; rw [if_pos h]; exact ⟨rfl, rfl⟩
theorem Sm.val_al (i : Int) : s.al i (t.at_ i) = s.val t i := by
  unfold Sm.al Sm.val
  by_cases h : i < s.to
  · rw [if_pos h, if_pos h, Sm.cn_N]
  · rw [if_neg h, if_neg h]
theorem Sm.made_R (hs : s.R) (ht : t.R) : St.R ⟨s.to, t.e, s.val t 0, s.val t 1, s.val t 2⟩ ↔ s.val t 0 < 16 ∧ s.val t 1 < 16 ∧ s.val t 2 < 16 := by
  have g0 := Sm.val_R hs ht 0; have g1 := Sm.val_R hs ht 1; have g2 := Sm.val_R hs ht 2
  have z0 := Sm.val_out (s := s) (t := t) (i := 0); have z1 := Sm.val_out (s := s) (t := t) (i := 1); have z2 := Sm.val_out (s := s) (t := t) (i := 2)
  unfold Sm.R at hs; unfold St.R at *
  simp only
  omega
end
theorem right_false {t : St} (h : ¬ t.R) (w : World) : Calls Try.prog 28 #[t.val] w fun e w' => e = .returned (.bool false) ∧ Below w.heap.size w w' := by
  have := right_any t w; rwa [decide_eq_false h] at this
theorem right_true {t : St} (h : t.R) (w : World) : Calls Try.prog 28 #[t.val] w fun e w' => e = .returned (.bool true) ∧ Below w.heap.size w w' := by
  have := right_any t w; rwa [decide_eq_true h] at this
theorem refRight_false {t : St} (h : ¬ t.R) (w : World) : Calls Try.prog 30 #[t.val] w fun e w' => e = .returned (.bool false) ∧ Below w.heap.size w w' := by
  have := refRight_any t w; rwa [decide_eq_false h] at this
theorem refRight_true {t : St} (h : t.R) (w : World) : Calls Try.prog 30 #[t.val] w fun e w' => e = .returned (.bool true) ∧ Below w.heap.size w w' := by
  have := refRight_any t w; rwa [decide_eq_true h] at this
theorem rightM_false {s : Sm} (h : ¬ s.R) (w : World) : Calls Try.prog 16 #[s.v] w fun e w' => e = .returned (.bool false) ∧ Below w.heap.size w w' := by
  have := rightM_any s w; rwa [decide_eq_false h] at this
theorem rightM_true {s : Sm} (h : s.R) (w : World) : Calls Try.prog 16 #[s.v] w fun e w' => e = .returned (.bool true) ∧ Below w.heap.size w w' := by
  have := rightM_any s w; rwa [decide_eq_true h] at this
theorem refRightM_false {s : Sm} (h : ¬ s.R) (w : World) : Calls Try.prog 17 #[s.v] w fun e w' => e = .returned (.bool false) ∧ Below w.heap.size w w' := by
  have := refRightM_any s w; rwa [decide_eq_false h] at this
theorem refRightM_true {s : Sm} (h : s.R) (w : World) : Calls Try.prog 17 #[s.v] w fun e w' => e = .returned (.bool true) ∧ Below w.heap.size w w' := by
  have := refRightM_any s w; rwa [decide_eq_true h] at this
theorem row_set5' {w : World} {b : Nat} {t : TypeId} {a1 a2 a3 a4 a5 b1 b2 b3 b4 b5 : Value} (h : Row w b t [a1, a2, a3, a4, a5]) :
    Row (((((w.setCell ⟨b, 0, none⟩ b1).setCell ⟨b, 1, none⟩ b2).setCell ⟨b, 2, none⟩ b3).setCell ⟨b, 3, none⟩ b4).setCell ⟨b, 4, none⟩ b5) b t [b1, b2, b3, b4, b5] :=
  ((((h.put 0 b1).put 1 b2).put 2 b3).put 3 b4).put 4 b5
theorem below_set5' {w w' : World} {B g : Nat} {b1 b2 b3 b4 b5 : Value} (h : Below B w w') (hg : B ≤ g) :
    Below B w (((((w'.setCell ⟨g, 0, none⟩ b1).setCell ⟨g, 1, none⟩ b2).setCell ⟨g, 2, none⟩ b3).setCell ⟨g, 3, none⟩ b4).setCell ⟨g, 4, none⟩ b5) :=
  ((((h.setCell hg _).setCell hg _).setCell hg _).setCell hg _).setCell hg _
theorem Holds.c5 {W : World} {g : Nat} {t : St} (h : Holds W g t) : W.cell? ⟨g, 0, none⟩ = some (.int .i64 t.d) ∧ W.cell? ⟨g, 1, none⟩ = some (.int .i64 t.e) ∧ W.cell? ⟨g, 2, none⟩ = some (.int .i64 t.x) ∧ W.cell? ⟨g, 3, none⟩ = some (.int .i64 t.y) ∧ W.cell? ⟨g, 4, none⟩ = some (.int .i64 t.z) :=
  ⟨h.at_ 0, h.at_ 1, h.at_ 2, h.at_ 3, h.at_ 4⟩
theorem Holds.f5 {W : World} {g : Nat} {t : St} (h : Holds W g t) : W.frozen? ⟨g, 0, none⟩ = false ∧ W.frozen? ⟨g, 1, none⟩ = false ∧ W.frozen? ⟨g, 2, none⟩ = false ∧ W.frozen? ⟨g, 3, none⟩ = false ∧ W.frozen? ⟨g, 4, none⟩ = false :=
  ⟨Row.free h 0, Row.free h 1, Row.free h 2, Row.free h 3, Row.free h 4⟩
theorem below_alloc2' (w : World) (o o' : Obj) : Below w.heap.size w ((w.alloc o).alloc o') := ((Below.refl _ _).alloc (Nat.le_refl _) _).alloc (by simp) _
/-- a summary's box, a time's, and a third one that is all 0 -/
def Trio (W : World) (b : Nat) (ty : TypeId) (s : Sm) (t : St) : Prop := HoldsM W b ty s ∧ Holds W (b + 1) t ∧ Holds W (b + 1 + 1) St.zero
theorem Trio.made (w : World) (ty : TypeId) (s : Sm) (t : St) : Trio (((w.alloc (.cells #[.int .i64 s.fr, .int .i64 s.to, .int .i64 s.kp, .int .i64 s.ad, .int .i64 s.t0, .int .i64 s.t1, .int .i64 s.t2] ty)).alloc (.cells #[.int .i64 t.d, .int .i64 t.e, .int .i64 t.x, .int .i64 t.y, .int .i64 t.z] 26)).alloc (.cells #[.int .i64 0, .int .i64 0, .int .i64 0, .int .i64 0, .int .i64 0] 26)) w.heap.size ty s t := by
  refine ⟨((HoldsM.made w ty s).alloc _).alloc _, ?_, ?_⟩
  · have := (Holds.made (w.alloc (.cells #[.int .i64 s.fr, .int .i64 s.to, .int .i64 s.kp, .int .i64 s.ad, .int .i64 s.t0, .int .i64 s.t1, .int .i64 s.t2] ty)) t).alloc (.cells #[.int .i64 0, .int .i64 0, .int .i64 0, .int .i64 0, .int .i64 0] 26)
    rwa [size_alloc] at this
  · have := Holds.made ((w.alloc (.cells #[.int .i64 s.fr, .int .i64 s.to, .int .i64 s.kp, .int .i64 s.ad, .int .i64 s.t0, .int .i64 s.t1, .int .i64 s.t2] ty)).alloc (.cells #[.int .i64 t.d, .int .i64 t.e, .int .i64 t.x, .int .i64 t.y, .int .i64 t.z] 26)) St.zero
    rwa [size_alloc, size_alloc] at this
theorem Trio.below {W W' : World} {b : Nat} {ty : TypeId} {s : Sm} {t : St} (h : Trio W b ty s t) (hb : Below W.heap.size W W') : Trio W' b ty s t := ⟨h.1.below hb, h.2.1.below hb, h.2.2.below hb⟩
theorem below_alloc3 (w : World) (o o' o'' : Obj) : Below w.heap.size w (((w.alloc o).alloc o').alloc o'') := (below_alloc2' w o o').alloc (by simp; omega) _
end

section
open Go.ChangeShapes Go.WideShapes Go.ChangeAt Go.RowKit Go.BigFrame
set_option maxRecDepth 100000
set_option maxHeartbeats 1000000 in
theorem apply_A (s : Sm) (t : St) (w : World) (h : ¬ s.R) : Calls Try.prog 11 #[s.v, t.val] w fun e w' => e = .returned (.tuple #[(s.ap t).val, .bool (s.apB t)]) ∧ Below w.heap.size w w' := by
  have h3 := Trio.made w 24 s t
  have hbw := below_alloc3 w (.cells #[.int .i64 s.fr, .int .i64 s.to, .int .i64 s.kp, .int .i64 s.ad, .int .i64 s.t0, .int .i64 s.t1, .int .i64 s.t2] 24) (.cells #[.int .i64 t.d, .int .i64 t.e, .int .i64 t.x, .int .i64 t.y, .int .i64 t.z] 26) (.cells #[.int .i64 0, .int .i64 0, .int .i64 0, .int .i64 0, .int .i64 0] 26)
  obtain ⟨q1, q2⟩ := Sm.ap_no (s := s) (t := t) (fun g => h g.1)
  rw [q1, q2]; clear q1 q2
  have H3 := Lib.hid h3; have HB := Lib.hid hbw; clear h3 hbw
  have r1 := fun w => rightM_false h w
  have R1 := Lib.hid r1; clear r1 h
  unfold Sm.v St.val at *
  go_enter Try.func11, Try.ntmps11
  go_wp2_with fail
  refine (R1.out _).mono ?_; rintro e w2 ⟨rfl, hb2⟩
  have k3 := H3.out.below hb2
  have kb := HB.out.trans (hb2.mono HB.out.size); clear H3 HB
  have H3 := Lib.hid k3; have HB := Lib.hid kb; clear k3 kb hb2
  obtain ⟨f0, f1, f2, f3, f4⟩ := H3.out.2.2.f5
  obtain ⟨z0, z1, z2, z3, z4⟩ := H3.out.2.2.c5
  go_wp2_with fail
  refine bodyPost_ret (v := .tuple #[.agg #[.int .i64 0, .int .i64 0, .int .i64 0, .int .i64 0, .int .i64 0], .bool false]) (two_results rfl _ _ _ 26 _ (0, 0) _ rfl (row_set5' H3.out.2.2) Try.underlying26 rfl (by kernel_rfl) rfl) rfl ?_
  exact ⟨rfl, below_set5' HB.out (by omega)⟩
set_option maxHeartbeats 1000000 in
theorem apply_B (s : Sm) (t : St) (w : World) (h : s.R) (h2 : ¬ t.R) : Calls Try.prog 11 #[s.v, t.val] w fun e w' => e = .returned (.tuple #[(s.ap t).val, .bool (s.apB t)]) ∧ Below w.heap.size w w' := by
  have h3 := Trio.made w 24 s t
  have hbw := below_alloc3 w (.cells #[.int .i64 s.fr, .int .i64 s.to, .int .i64 s.kp, .int .i64 s.ad, .int .i64 s.t0, .int .i64 s.t1, .int .i64 s.t2] 24) (.cells #[.int .i64 t.d, .int .i64 t.e, .int .i64 t.x, .int .i64 t.y, .int .i64 t.z] 26) (.cells #[.int .i64 0, .int .i64 0, .int .i64 0, .int .i64 0, .int .i64 0] 26)
  obtain ⟨q1, q2⟩ := Sm.ap_no (s := s) (t := t) (fun g => h2 g.2.1)
  rw [q1, q2]; clear q1 q2
  have H3 := Lib.hid h3; have HB := Lib.hid hbw; clear h3 hbw
  have r1 := fun w => rightM_true h w
  have r2 := fun w => right_false h2 w
  have R1 := Lib.hid r1; have R2 := Lib.hid r2; clear r1 r2 h h2
  unfold Sm.v St.val at *
  go_enter Try.func11, Try.ntmps11
  go_wp2_with fail
  refine (R1.out _).mono ?_; rintro e w2 ⟨rfl, hb2⟩
  have k3 := H3.out.below hb2
  have kb := HB.out.trans (hb2.mono HB.out.size); clear H3 HB
  have H3 := Lib.hid k3; have HB := Lib.hid kb; clear k3 kb hb2
  obtain ⟨a0, a1, a2, a3, a4⟩ := H3.out.2.1.c5
  obtain ⟨b0, b1, b2, b3, b4, b5, b6⟩ := H3.out.1.cells7
  go_wp2_with fail
  clear a0 a1 a2 a3 a4 b0 b1 b2 b3 b4 b5 b6
  refine (R2.out _).mono ?_; rintro e w3 ⟨rfl, hb3⟩
  have k3 := H3.out.below hb3
  have kb := HB.out.trans (hb3.mono HB.out.size); clear H3 HB
  have H3 := Lib.hid k3; have HB := Lib.hid kb; clear k3 kb hb3
  obtain ⟨f0, f1, f2, f3, f4⟩ := H3.out.2.2.f5
  obtain ⟨z0, z1, z2, z3, z4⟩ := H3.out.2.2.c5
  go_wp2_with fail
  refine bodyPost_ret (v := .tuple #[.agg #[.int .i64 0, .int .i64 0, .int .i64 0, .int .i64 0, .int .i64 0], .bool false]) (two_results rfl _ _ _ 26 _ (0, 0) _ rfl (row_set5' H3.out.2.2) Try.underlying26 rfl (by kernel_rfl) rfl) rfl ?_
  exact ⟨rfl, below_set5' HB.out (by omega)⟩
set_option maxHeartbeats 1000000 in
theorem apply_C (s : Sm) (t : St) (w : World) (h : s.R) (h2 : t.R) (hd : ¬ t.d = s.fr) : Calls Try.prog 11 #[s.v, t.val] w fun e w' => e = .returned (.tuple #[(s.ap t).val, .bool (s.apB t)]) ∧ Below w.heap.size w w' := by
  have h3 := Trio.made w 24 s t
  have hbw := below_alloc3 w (.cells #[.int .i64 s.fr, .int .i64 s.to, .int .i64 s.kp, .int .i64 s.ad, .int .i64 s.t0, .int .i64 s.t1, .int .i64 s.t2] 24) (.cells #[.int .i64 t.d, .int .i64 t.e, .int .i64 t.x, .int .i64 t.y, .int .i64 t.z] 26) (.cells #[.int .i64 0, .int .i64 0, .int .i64 0, .int .i64 0, .int .i64 0] 26)
  obtain ⟨q1, q2⟩ := Sm.ap_no (s := s) (t := t) (fun g => hd g.2.2.1)
  rw [q1, q2]; clear q1 q2
  have H3 := Lib.hid h3; have HB := Lib.hid hbw; clear h3 hbw
  have r1 := fun w => rightM_true h w
  have r2 := fun w => right_true h2 w
  have hn : (t.d != s.fr) = true := by simpa using hd
  have R1 := Lib.hid r1; have R2 := Lib.hid r2; clear r1 r2 h h2 hd
  unfold Sm.v St.val at *
  go_enter Try.func11, Try.ntmps11
  go_wp2_with fail
  refine (R1.out _).mono ?_; rintro e w2 ⟨rfl, hb2⟩
  have k3 := H3.out.below hb2
  have kb := HB.out.trans (hb2.mono HB.out.size); clear H3 HB
  have H3 := Lib.hid k3; have HB := Lib.hid kb; clear k3 kb hb2
  obtain ⟨a0, a1, a2, a3, a4⟩ := H3.out.2.1.c5
  obtain ⟨b0, b1, b2, b3, b4, b5, b6⟩ := H3.out.1.cells7
  go_wp2_with fail
  clear a0 a1 a2 a3 a4 b0 b1 b2 b3 b4 b5 b6
  refine (R2.out _).mono ?_; rintro e w3 ⟨rfl, hb3⟩
  have k3 := H3.out.below hb3
  have kb := HB.out.trans (hb3.mono HB.out.size); clear H3 HB
  have H3 := Lib.hid k3; have HB := Lib.hid kb; clear k3 kb hb3
  obtain ⟨a0, a1, a2, a3, a4⟩ := H3.out.2.1.c5
  obtain ⟨b0, b1, b2, b3, b4, b5, b6⟩ := H3.out.1.cells7
  obtain ⟨f0, f1, f2, f3, f4⟩ := H3.out.2.2.f5
  obtain ⟨z0, z1, z2, z3, z4⟩ := H3.out.2.2.c5
  go_wp2_with fail
  refine bodyPost_ret (v := .tuple #[.agg #[.int .i64 0, .int .i64 0, .int .i64 0, .int .i64 0, .int .i64 0], .bool false]) (two_results rfl _ _ _ 26 _ (0, 0) _ rfl (row_set5' H3.out.2.2) Try.underlying26 rfl (by kernel_rfl) rfl) rfl ?_
  exact ⟨rfl, below_set5' HB.out (by omega)⟩
set_option maxHeartbeats 1000000 in
theorem refApply_A (s : Sm) (t : St) (w : World) (h : ¬ s.R) : Calls Try.prog 12 #[s.v, t.val] w fun e w' => e = .returned (.tuple #[(s.ap t).val, .bool (s.apB t)]) ∧ Below w.heap.size w w' := by
  have h3 := Trio.made w 30 s t
  have hbw := below_alloc3 w (.cells #[.int .i64 s.fr, .int .i64 s.to, .int .i64 s.kp, .int .i64 s.ad, .int .i64 s.t0, .int .i64 s.t1, .int .i64 s.t2] 30) (.cells #[.int .i64 t.d, .int .i64 t.e, .int .i64 t.x, .int .i64 t.y, .int .i64 t.z] 26) (.cells #[.int .i64 0, .int .i64 0, .int .i64 0, .int .i64 0, .int .i64 0] 26)
  obtain ⟨q1, q2⟩ := Sm.ap_no (s := s) (t := t) (fun g => h g.1)
  rw [q1, q2]; clear q1 q2
  have H3 := Lib.hid h3; have HB := Lib.hid hbw; clear h3 hbw
  have r1 := fun w => refRightM_false h w
  have R1 := Lib.hid r1; clear r1 h
  unfold Sm.v St.val at *
  go_enter Try.func12, Try.ntmps12
  go_wp2_with fail
  refine (R1.out _).mono ?_; rintro e w2 ⟨rfl, hb2⟩
  have k3 := H3.out.below hb2
  have kb := HB.out.trans (hb2.mono HB.out.size); clear H3 HB
  have H3 := Lib.hid k3; have HB := Lib.hid kb; clear k3 kb hb2
  obtain ⟨f0, f1, f2, f3, f4⟩ := H3.out.2.2.f5
  obtain ⟨z0, z1, z2, z3, z4⟩ := H3.out.2.2.c5
  go_wp2_with fail
  refine bodyPost_ret (v := .tuple #[.agg #[.int .i64 0, .int .i64 0, .int .i64 0, .int .i64 0, .int .i64 0], .bool false]) (two_results rfl _ _ _ 26 _ (0, 0) _ rfl (row_set5' H3.out.2.2) Try.underlying26 rfl (by kernel_rfl) rfl) rfl ?_
  exact ⟨rfl, below_set5' HB.out (by omega)⟩
set_option maxHeartbeats 1000000 in
theorem refApply_B (s : Sm) (t : St) (w : World) (h : s.R) (h2 : ¬ t.R) : Calls Try.prog 12 #[s.v, t.val] w fun e w' => e = .returned (.tuple #[(s.ap t).val, .bool (s.apB t)]) ∧ Below w.heap.size w w' := by
  have h3 := Trio.made w 30 s t
  have hbw := below_alloc3 w (.cells #[.int .i64 s.fr, .int .i64 s.to, .int .i64 s.kp, .int .i64 s.ad, .int .i64 s.t0, .int .i64 s.t1, .int .i64 s.t2] 30) (.cells #[.int .i64 t.d, .int .i64 t.e, .int .i64 t.x, .int .i64 t.y, .int .i64 t.z] 26) (.cells #[.int .i64 0, .int .i64 0, .int .i64 0, .int .i64 0, .int .i64 0] 26)
  obtain ⟨q1, q2⟩ := Sm.ap_no (s := s) (t := t) (fun g => h2 g.2.1)
  rw [q1, q2]; clear q1 q2
  have H3 := Lib.hid h3; have HB := Lib.hid hbw; clear h3 hbw
  have r1 := fun w => refRightM_true h w
  have r2 := fun w => refRight_false h2 w
  have R1 := Lib.hid r1; have R2 := Lib.hid r2; clear r1 r2 h h2
  unfold Sm.v St.val at *
  go_enter Try.func12, Try.ntmps12
  go_wp2_with fail
  refine (R1.out _).mono ?_; rintro e w2 ⟨rfl, hb2⟩
  have k3 := H3.out.below hb2
  have kb := HB.out.trans (hb2.mono HB.out.size); clear H3 HB
  have H3 := Lib.hid k3; have HB := Lib.hid kb; clear k3 kb hb2
  obtain ⟨a0, a1, a2, a3, a4⟩ := H3.out.2.1.c5
  obtain ⟨b0, b1, b2, b3, b4, b5, b6⟩ := H3.out.1.cells7
  go_wp2_with fail
  clear a0 a1 a2 a3 a4 b0 b1 b2 b3 b4 b5 b6
  refine (R2.out _).mono ?_; rintro e w3 ⟨rfl, hb3⟩
  have k3 := H3.out.below hb3
  have kb := HB.out.trans (hb3.mono HB.out.size); clear H3 HB
  have H3 := Lib.hid k3; have HB := Lib.hid kb; clear k3 kb hb3
  obtain ⟨f0, f1, f2, f3, f4⟩ := H3.out.2.2.f5
  obtain ⟨z0, z1, z2, z3, z4⟩ := H3.out.2.2.c5
  go_wp2_with fail
  refine bodyPost_ret (v := .tuple #[.agg #[.int .i64 0, .int .i64 0, .int .i64 0, .int .i64 0, .int .i64 0], .bool false]) (two_results rfl _ _ _ 26 _ (0, 0) _ rfl (row_set5' H3.out.2.2) Try.underlying26 rfl (by kernel_rfl) rfl) rfl ?_
  exact ⟨rfl, below_set5' HB.out (by omega)⟩
set_option maxHeartbeats 1000000 in
theorem refApply_C (s : Sm) (t : St) (w : World) (h : s.R) (h2 : t.R) (hd : ¬ t.d = s.fr) : Calls Try.prog 12 #[s.v, t.val] w fun e w' => e = .returned (.tuple #[(s.ap t).val, .bool (s.apB t)]) ∧ Below w.heap.size w w' := by
  have h3 := Trio.made w 30 s t
  have hbw := below_alloc3 w (.cells #[.int .i64 s.fr, .int .i64 s.to, .int .i64 s.kp, .int .i64 s.ad, .int .i64 s.t0, .int .i64 s.t1, .int .i64 s.t2] 30) (.cells #[.int .i64 t.d, .int .i64 t.e, .int .i64 t.x, .int .i64 t.y, .int .i64 t.z] 26) (.cells #[.int .i64 0, .int .i64 0, .int .i64 0, .int .i64 0, .int .i64 0] 26)
  obtain ⟨q1, q2⟩ := Sm.ap_no (s := s) (t := t) (fun g => hd g.2.2.1)
  rw [q1, q2]; clear q1 q2
  have H3 := Lib.hid h3; have HB := Lib.hid hbw; clear h3 hbw
  have r1 := fun w => refRightM_true h w
  have r2 := fun w => refRight_true h2 w
  have hn : (t.d != s.fr) = true := by simpa using hd
  have R1 := Lib.hid r1; have R2 := Lib.hid r2; clear r1 r2 h h2 hd
  unfold Sm.v St.val at *
  go_enter Try.func12, Try.ntmps12
  go_wp2_with fail
  refine (R1.out _).mono ?_; rintro e w2 ⟨rfl, hb2⟩
  have k3 := H3.out.below hb2
  have kb := HB.out.trans (hb2.mono HB.out.size); clear H3 HB
  have H3 := Lib.hid k3; have HB := Lib.hid kb; clear k3 kb hb2
  obtain ⟨a0, a1, a2, a3, a4⟩ := H3.out.2.1.c5
  obtain ⟨b0, b1, b2, b3, b4, b5, b6⟩ := H3.out.1.cells7
  go_wp2_with fail
  clear a0 a1 a2 a3 a4 b0 b1 b2 b3 b4 b5 b6
  refine (R2.out _).mono ?_; rintro e w3 ⟨rfl, hb3⟩
  have k3 := H3.out.below hb3
  have kb := HB.out.trans (hb3.mono HB.out.size); clear H3 HB
  have H3 := Lib.hid k3; have HB := Lib.hid kb; clear k3 kb hb3
  obtain ⟨a0, a1, a2, a3, a4⟩ := H3.out.2.1.c5
  obtain ⟨b0, b1, b2, b3, b4, b5, b6⟩ := H3.out.1.cells7
  obtain ⟨f0, f1, f2, f3, f4⟩ := H3.out.2.2.f5
  obtain ⟨z0, z1, z2, z3, z4⟩ := H3.out.2.2.c5
  go_wp2_with fail
  refine bodyPost_ret (v := .tuple #[.agg #[.int .i64 0, .int .i64 0, .int .i64 0, .int .i64 0, .int .i64 0], .bool false]) (two_results rfl _ _ _ 26 _ (0, 0) _ rfl (row_set5' H3.out.2.2) Try.underlying26 rfl (by kernel_rfl) rfl) rfl ?_
  exact ⟨rfl, below_set5' HB.out (by omega)⟩
end

section
open Go.ChangeShapes Go.WideShapes Go.ChangeAt Go.RowKit Go.BigFrame
set_option maxRecDepth 100000
/-- where the time's box stands while it is written -/
def ApD (w : World) (s : Sm) (t : St) (p q r : Int) (b1 b2 : Bool) (w' : World) : Prop :=
  Below w.heap.size w w' ∧ HoldsM w' w.heap.size 24 s ∧ Holds w' (w.heap.size + 1) ⟨if b1 then s.to else t.d, t.e, if b2 then p else t.x, if b2 then q else t.y, if b2 then r else t.z⟩ ∧ Holds w' (w.heap.size + 1 + 1) St.zero
theorem ApD.below {w : World} {s : Sm} {t : St} {p q r : Int} {b1 b2 : Bool} {v v' : World} (h : ApD w s t p q r b1 b2 v) (hb : Below v.heap.size v v') : ApD w s t p q r b1 b2 v' :=
  ⟨h.1.trans (hb.mono h.1.size), h.2.1.below hb, h.2.2.1.below hb, h.2.2.2.below hb⟩
set_option maxHeartbeats 8000000 in
theorem apply_D (s : Sm) (t : St) (w : World) (h : s.R) (h2 : t.R) (hd : t.d = s.fr) : Calls Try.prog 11 #[s.v, t.val] w fun e w' => e = .returned (.tuple #[(s.ap t).val, .bool (s.apB t)]) ∧ Below w.heap.size w w' := by
  have hmr := Sm.made_R h h2
  have hal := along_any s t.x t.y t.z
  have bt : (0 ≤ t.x ∧ t.x ≤ 1000) ∧ (0 ≤ t.y ∧ t.y ≤ 1000) ∧ (0 ≤ t.z ∧ t.z ≤ 1000) := by unfold St.R at h2; omega
  have cal := fun w => hal w h bt.1 bt.2.1 bt.2.2
  rw [show s.al 0 t.x = s.val t 0 from Sm.val_al 0, show s.al 1 t.y = s.val t 1 from Sm.val_al 1, show s.al 2 t.z = s.val t 2 from Sm.val_al 2] at cal
  have r3 := fun w => right_any ⟨s.to, t.e, s.val t 0, s.val t 1, s.val t 2⟩ w
  have hres : (s.ap t).val = (if decide (St.R ⟨s.to, t.e, s.val t 0, s.val t 1, s.val t 2⟩) then (St.val ⟨s.to, t.e, s.val t 0, s.val t 1, s.val t 2⟩) else St.zero.val) ∧ s.apB t = decide (St.R ⟨s.to, t.e, s.val t 0, s.val t 1, s.val t 2⟩) := by
    by_cases hh : s.val t 0 < 16 ∧ s.val t 1 < 16 ∧ s.val t 2 < 16
    · obtain ⟨q1, q2⟩ := Sm.ap_yes (s := s) (t := t) ⟨h, h2, hd, hh⟩
      rw [q1, q2, decide_eq_true (hmr.2 hh)]; exact ⟨rfl, rfl⟩
    · obtain ⟨q1, q2⟩ := Sm.ap_no (s := s) (t := t) (fun g => hh g.2.2.2)
      rw [q1, q2, decide_eq_false (fun g => hh (hmr.1 g))]; exact ⟨rfl, rfl⟩
  rw [hres.1, hres.2]
  clear hres hmr hal bt
  have h3 := Trio.made w 24 s t
  have hbw := below_alloc3 w (.cells #[.int .i64 s.fr, .int .i64 s.to, .int .i64 s.kp, .int .i64 s.ad, .int .i64 s.t0, .int .i64 s.t1, .int .i64 s.t2] 24) (.cells #[.int .i64 t.d, .int .i64 t.e, .int .i64 t.x, .int .i64 t.y, .int .i64 t.z] 26) (.cells #[.int .i64 0, .int .i64 0, .int .i64 0, .int .i64 0, .int .i64 0] 26)
  have H3 := Lib.hid h3; have HB := Lib.hid hbw; clear h3 hbw
  have r1 := fun w => rightM_true h w
  have r2 := fun w => right_true h2 w
  have hn : (t.d != s.fr) = false := by simpa using hd
  have R1 := Lib.hid r1; have R2 := Lib.hid r2; clear r1 r2
  clear h h2 hd
  generalize s.val t 0 = p at *
  generalize s.val t 1 = q at *
  generalize s.val t 2 = r at *
  generalize hb : decide (St.R ⟨s.to, t.e, p, q, r⟩) = bb at *
  clear hb
  have R3 := Lib.hid r3; have CAL := Lib.hid cal; clear r3 cal
  unfold Sm.v St.val at *
  go_enter Try.func11, Try.ntmps11
  go_wp2_with fail
  refine (R1.out _).mono ?_; rintro e w2 ⟨rfl, hb2⟩
  have k3 := H3.out.below hb2
  have kb := HB.out.trans (hb2.mono HB.out.size); clear H3 HB
  have H3 := Lib.hid k3; have HB := Lib.hid kb; clear k3 kb hb2
  obtain ⟨a0, a1, a2, a3, a4⟩ := H3.out.2.1.c5
  obtain ⟨b0, b1, b2, b3, b4, b5, b6⟩ := H3.out.1.cells7
  go_wp2_with fail
  clear a0 a1 a2 a3 a4 b0 b1 b2 b3 b4 b5 b6 R1
  refine (R2.out _).mono ?_; rintro e w3 ⟨rfl, hb3⟩
  have k3 := H3.out.below hb3
  have kb := HB.out.trans (hb3.mono HB.out.size); clear H3 HB
  have H3 := Lib.hid k3; have HB := Lib.hid kb; clear k3 kb hb3
  obtain ⟨a0, a1, a2, a3, a4⟩ := H3.out.2.1.c5
  obtain ⟨b0, b1, b2, b3, b4, b5, b6⟩ := H3.out.1.cells7
  go_wp2_with fail
  clear a0 a1 a2 a3 a4 b0 b1 b2 b3 b4 b5 b6 R2 hn
  have hD : ApD w s t p q r false false w3.drew := ⟨HB.out.drew, H3.out.1, H3.out.2.1, H3.out.2.2⟩
  have HD := Lib.hid hD; clear hD H3 HB
  refine Stage.wp_region (by kernel_rfl) (by kernel_rfl) (Stage.two 7 9 (ApD w s t p q r)) (Stage.two_start (by simp) (by simp) HD.out) ?_
  refine Stage.wpSt_do (.pointer (some ⟨w.heap.size, 1, none⟩)) rfl (Stage.two_step (by kernel_rfl) (fun b w' hw => ?_)) ?_
  · exact at_of (by go_simp) hw
  go_simp
  refine Stage.wpSt_do (.int .i64 s.to) rfl (Stage.two_step (by kernel_rfl) (fun b w' hw => ?_)) ?_
  · exact Free.at_load _ _ rfl rfl (load_m1 hw.2.1 1 rfl w' (Below.refl _ _)) hw
  go_simp
  refine Stage.wpSt_do (.agg #[.int .i64 s.fr, .int .i64 s.to, .int .i64 s.kp, .int .i64 s.ad, .int .i64 s.t0, .int .i64 s.t1, .int .i64 s.t2]) rfl (Stage.two_step (by kernel_rfl) (fun b w' hw => ?_)) ?_
  · exact Free.at_load _ _ rfl rfl (load_m hw.2.1 w' (Below.refl _ _)) hw
  go_simp
  refine Stage.wpSt_do (.pointer (some ⟨w.heap.size + 1, 2, none⟩)) rfl (Stage.two_step (by kernel_rfl) (fun b w' hw => ?_)) ?_
  · exact at_of (by go_simp) hw
  go_simp
  refine Stage.wpSt_do (.agg #[.int .i64 t.x, .int .i64 t.y, .int .i64 t.z]) rfl (Stage.two_step (by kernel_rfl) (fun b w' hw => ?_)) ?_
  · exact Free.at_load _ _ rfl rfl (load_l hw.2.2.1 w' (Below.refl _ _)) hw
  go_simp
  refine Stage.wpSt_do (.agg #[.int .i64 p, .int .i64 q, .int .i64 r]) rfl (Stage.two_step (by kernel_rfl) (fun b w' hw => ?_)) ?_
  · exact Free.at_call _ _ rfl Try.func29 (by kernel_rfl) rfl [.agg #[.int .i64 s.fr, .int .i64 s.to, .int .i64 s.kp, .int .i64 s.ad, .int .i64 s.t0, .int .i64 s.t1, .int .i64 s.t2], .agg #[.int .i64 t.x, .int .i64 t.y, .int .i64 t.z]] rfl ((CAL.out _).mono fun _ _ hh => ⟨hh.1, hw.below hh.2⟩)
  go_simp
  refine Stage.wpSt_do (.pointer (some ⟨w.heap.size + 1, 0, none⟩)) rfl (Stage.two_step (by kernel_rfl) (fun b w' hw => ?_)) ?_
  · exact at_of (by go_simp) hw
  go_simp
  refine Stage.wpSt_do undef rfl (Stage.two_first (by decide) (by kernel_rfl) (fun w' hw => ?_)) ?_
  · have c := hw.2.2.1.c5.1
    have f := hw.2.2.1.f5.1
    simp only at c
    exact at_skip (w' := w'.setCell ⟨w.heap.size + 1, 0, none⟩ (.int .i64 s.to)) (by go_simp) ⟨hw.1.setCell (by simp) _, Row.far hw.2.1 (by simp) _, Row.put hw.2.2.1 0 _, Row.far hw.2.2.2 (by simp) _⟩
  go_simp
  refine Stage.wpSt_do (.pointer (some ⟨w.heap.size + 1, 2, none⟩)) rfl (Stage.two_step (by kernel_rfl) (fun b w' hw => ?_)) ?_
  · exact at_of (by go_simp) hw
  go_simp
  refine Stage.wpSt_do undef rfl (Stage.two_then (by decide) (by kernel_rfl) (fun w' hw => ?_)) ?_
  · obtain ⟨c0, c1, c2, c3, c4⟩ := hw.2.2.1.c5
    obtain ⟨f0, f1, f2, f3, f4⟩ := hw.2.2.1.f5
    exact at_skip (w' := ((w'.setCell ⟨w.heap.size + 1, 2, none⟩ (.int .i64 p)).setCell ⟨w.heap.size + 1, 3, none⟩ (.int .i64 q)).setCell ⟨w.heap.size + 1, 4, none⟩ (.int .i64 r)) (by go_simp) ⟨((hw.1.setCell (by simp) _).setCell (by simp) _).setCell (by simp) _, Row.far (Row.far (Row.far hw.2.1 (by simp) _) (by simp) _) (by simp) _, Row.put (Row.put (Row.put hw.2.2.1 2 _) 3 _) 4 _, Row.far (Row.far (Row.far hw.2.2.2 (by simp) _) (by simp) _) (by simp) _⟩
  go_simp
  refine Stage.wpSt_nil (Stage.two_end ?_)
  intro w4 hw4
  obtain ⟨hb4, hm4, ht4, hz4⟩ := hw4
  simp only [if_true] at ht4
  obtain ⟨a0, a1, a2, a3, a4⟩ := ht4.c5
  have HB := Lib.hid hb4; have HT := Lib.hid ht4; have HZ := Lib.hid hz4; clear hb4 hm4 ht4 hz4 HD CAL
  go_wp2_with fail
  refine (R3.out _).mono ?_; rintro e w5 ⟨rfl, hb5⟩
  have ht5 := HT.out.below hb5; have hz5 := HZ.out.below hb5; have hbw := HB.out.trans (hb5.mono HB.out.size)
  clear a0 a1 a2 a3 a4 HT HZ HB hb5 R3
  obtain ⟨a0, a1, a2, a3, a4⟩ := ht5.c5
  obtain ⟨z0, z1, z2, z3, z4⟩ := hz5.c5
  obtain ⟨f0, f1, f2, f3, f4⟩ := hz5.f5
  have HB := Lib.hid hbw; have HZ := Lib.hid hz5; clear hbw hz5 ht5
  simp only at a0 a1 a2 a3 a4
  cases bb with
  | true =>
    go_wp2_with fail
    refine bodyPost_ret (v := .tuple #[.agg #[.int .i64 s.to, .int .i64 t.e, .int .i64 p, .int .i64 q, .int .i64 r], .bool true]) (two_results rfl _ _ _ 26 _ (0, 0) _ rfl (row_set5' HZ.out) Try.underlying26 rfl (by kernel_rfl) rfl) rfl ?_
    exact ⟨rfl, below_set5' HB.out (by omega)⟩
  | false =>
    go_wp2_with fail
    refine bodyPost_ret (v := .tuple #[.agg #[.int .i64 0, .int .i64 0, .int .i64 0, .int .i64 0, .int .i64 0], .bool false]) (two_results rfl _ _ _ 26 _ (0, 0) _ rfl (row_set5' HZ.out) Try.underlying26 rfl (by kernel_rfl) rfl) rfl ?_
    exact ⟨rfl, below_set5' HB.out (by omega)⟩
theorem apply_any (s : Sm) (t : St) (w : World) : Calls Try.prog 11 #[s.v, t.val] w fun e w' => e = .returned (.tuple #[(s.ap t).val, .bool (s.apB t)]) ∧ Below w.heap.size w w' := by
  by_cases h : s.R
  · by_cases h2 : t.R
    · by_cases hd : t.d = s.fr
      · exact apply_D s t w h h2 hd
      · exact apply_C s t w h h2 hd
    · exact apply_B s t w h h2
  · exact apply_A s t w h
end

section
open Go.ChangeShapes Go.WideShapes Go.ChangeAt Go.RowKit Go.BigFrame
set_option maxRecDepth 100000
theorem pt_self (n j : Nat) (v : Int) (h : n ≤ j → v = 0) : pt n j v = v := by
  unfold pt; split
  · rfl
  · rw [h (by omega)]
set_option maxHeartbeats 8000000 in
theorem refApply_D (s : Sm) (t : St) (w : World) (h : s.R) (h2 : t.R) (hd : t.d = s.fr) : Calls Try.prog 12 #[s.v, t.val] w fun e w' => e = .returned (.tuple #[(s.ap t).val, .bool (s.apB t)]) ∧ Below w.heap.size w w' := by
  have hno := Sm.ap_no (s := s) (t := t)
  have hyes := Sm.ap_yes (s := s) (t := t)
  obtain ⟨n, hnn⟩ : ∃ n : Nat, s.to = n := ⟨s.to.toNat, by unfold Sm.R at h; omega⟩
  have hn3 : n ≤ 3 := by unfold Sm.R at h; omega
  have g0 := Sm.val_R h h2 0; have g1 := Sm.val_R h h2 1; have g2 := Sm.val_R h h2 2
  have y0 := Sm.val_out (s := s) (t := t) (i := 0); have y1 := Sm.val_out (s := s) (t := t) (i := 1); have y2 := Sm.val_out (s := s) (t := t) (i := 2)
  rw [hnn] at y0 y1 y2
  have v0 : 0 < n → s.val t 0 = s.N 0 + if (0 : Int) < s.kp then t.x else 0 := fun hl => by unfold Sm.val; rw [if_pos (by rw [hnn]; omega)]; rfl
  have v1 : 1 < n → s.val t 1 = s.N 1 + if (1 : Int) < s.kp then t.y else 0 := fun hl => by unfold Sm.val; rw [if_pos (by rw [hnn]; omega)]; rfl
  have v2 : 2 < n → s.val t 2 = s.N 2 + if (2 : Int) < s.kp then t.z else 0 := fun hl => by unfold Sm.val; rw [if_pos (by rw [hnn]; omega)]; rfl
  have n0 := Sm.N_R h 0; have n1 := Sm.N_R h 1; have n2 := Sm.N_R h 2
  have cA0 := fun (hl : 0 < n) w => refAt_any s 0 w h (by rw [hnn]; omega)
  have cA1 := fun (hl : 1 < n) w => refAt_any s 1 w h (by rw [hnn]; omega)
  have cA2 := fun (hl : 2 < n) w => refAt_any s 2 w h (by rw [hnn]; omega)
  simp only [Int.natCast_zero, Int.natCast_one] at cA0 cA1
  rw [show ((2 : Nat) : Int) = 2 from rfl] at cA2
  have bt : (0 ≤ t.x ∧ t.x < 16) ∧ (0 ≤ t.y ∧ t.y < 16) ∧ (0 ≤ t.z ∧ t.z < 16) := by unfold St.R at h2; omega
  have h3 := Trio.made w 30 s t
  have hbw := below_alloc3 w (.cells #[.int .i64 s.fr, .int .i64 s.to, .int .i64 s.kp, .int .i64 s.ad, .int .i64 s.t0, .int .i64 s.t1, .int .i64 s.t2] 30) (.cells #[.int .i64 t.d, .int .i64 t.e, .int .i64 t.x, .int .i64 t.y, .int .i64 t.z] 26) (.cells #[.int .i64 0, .int .i64 0, .int .i64 0, .int .i64 0, .int .i64 0] 26)
  have H3 := Lib.hid h3; have HB := Lib.hid hbw; clear h3 hbw
  have r1 := fun w => refRightM_true h w
  have r2 := fun w => refRight_true h2 w
  have hn : (t.d != s.fr) = false := by simpa using hd
  have R1 := Lib.hid r1; have R2 := Lib.hid r2; clear r1 r2
  generalize s.val t 0 = v0 at *
  generalize s.val t 1 = v1 at *
  generalize s.val t 2 = v2 at *
  generalize s.N 0 = n0 at *
  generalize s.N 1 = n1 at *
  generalize s.N 2 = n2 at *
  generalize s.ap t = ap at *
  generalize s.apB t = apB at *
  have HNO := Lib.hid hno; have HYES := Lib.hid hyes; clear hno hyes
  have HR := Lib.hid (And.intro h (And.intro h2 hd)); clear h h2 hd
  unfold Sm.v at cA0 cA1 cA2
  have CA0 := Lib.hid cA0; have CA1 := Lib.hid cA1; have CA2 := Lib.hid cA2; clear cA0 cA1 cA2
  have V0 := Lib.hid v0; have V1 := Lib.hid v1; have V2 := Lib.hid v2; clear v0 v1 v2
  have Y := Lib.hid (And.intro y0 (And.intro y1 y2)); clear y0 y1 y2
  have G := Lib.hid (And.intro g0 (And.intro g1 g2)); have BT := Lib.hid bt; have NB := Lib.hid (And.intro n0 (And.intro n1 n2)); clear g0 g1 g2 bt n0 n1 n2
  have HNN := Lib.hid (And.intro hnn hn3); clear hnn hn3
  unfold Sm.v St.val at *
  go_enter Try.func12, Try.ntmps12
  go_wp2_with fail
  refine (R1.out _).mono ?_; rintro e w2 ⟨rfl, hb2⟩
  have k3 := H3.out.below hb2
  have kb := HB.out.trans (hb2.mono HB.out.size); clear H3 HB
  have H3 := Lib.hid k3; have HB := Lib.hid kb; clear k3 kb hb2
  obtain ⟨a0, a1, a2, a3, a4⟩ := H3.out.2.1.c5
  obtain ⟨b0, b1, b2, b3, b4, b5, b6⟩ := H3.out.1.cells7
  go_wp2_with fail
  clear a0 a1 a2 a3 a4 b0 b1 b2 b3 b4 b5 b6 R1
  refine (R2.out _).mono ?_; rintro e w3 ⟨rfl, hb3⟩
  have k3 := H3.out.below hb3
  have kb := HB.out.trans (hb3.mono HB.out.size); clear H3 HB
  have H3 := Lib.hid k3; have HB := Lib.hid kb; clear k3 kb hb3
  obtain ⟨a0, a1, a2, a3, a4⟩ := H3.out.2.1.c5
  obtain ⟨b0, b1, b2, b3, b4, b5, b6⟩ := H3.out.1.cells7
  go_wp2_with fail
  clear a0 a1 a2 a3 a4 b0 b1 b2 b3 b4 b5 b6 R2
  have k6 := Holds.made w3 ⟨s.to, t.e, 0, 0, 0⟩
  have k3 := H3.out.below ((Below.refl w3.heap.size w3).alloc (Nat.le_refl _) (.cells #[.int .i64 s.to, .int .i64 t.e, .int .i64 0, .int .i64 0, .int .i64 0] 26))
  have kb := HB.out.alloc HB.out.size (.cells #[.int .i64 s.to, .int .i64 t.e, .int .i64 0, .int .i64 0, .int .i64 0] 26)
  have hg : w.heap.size + 1 + 1 < w3.heap.size := H3.out.2.2.lt
  clear H3 HB
  generalize w3.alloc (.cells #[.int .i64 s.to, .int .i64 t.e, .int .i64 0, .int .i64 0, .int .i64 0] 26) = w4 at *
  generalize w3.heap.size = g at *
  have H3 := Lib.hid k3; have HB := Lib.hid kb; have H6 := Lib.hid k6; have HG := Lib.hid hg; clear k3 kb k6 hg
  go_loopw [7] (fun i wr => ∃ (k : Nat), k ≤ n ∧ i = .int .i64 k ∧ Trio wr w.heap.size 30 s t ∧ Holds wr g ⟨s.to, t.e, pt k 0 v0, pt k 1 v1, pt k 2 v2⟩ ∧ Below w.heap.size w wr ∧ (0 < k → v0 < 16) ∧ (1 < k → v1 < 16) ∧ (2 < k → v2 < 16)) (fun i _ => n - (intOf i).toNat)
  case atStart => exact ⟨0, by omega, rfl, H3.out, H6.out, HB.out, by omega, by omega, by omega⟩
  case round =>
    obtain ⟨k, hk, rfl, h3, h6, hbw, hv⟩ := hrel
    clear H3 HB H6 hn
    obtain ⟨b0, b1, b2, b3, b4, b5, b6⟩ := h3.1.cells7
    have H3 := Lib.hid h3; have H6 := Lib.hid h6; have HB := Lib.hid hbw; have HV := Lib.hid hv; clear h3 h6 hbw hv
    by_cases hlt : k < n
    · have hlt' : (k : Int) < s.to := by have := HNN.out.1; omega
      have hcase : k = 0 ∨ k = 1 ∨ k = 2 := by have := HNN.out.2; omega
      rcases hcase with rfl | rfl | rfl
      · simp only [Int.natCast_zero, Int.natCast_one, Int.cast_ofNat_Int] at hlt'
        go_wp2_with fail
        refine (CA0.out hlt _).mono ?_; rintro e w5 ⟨rfl, hb5⟩
        dsimp only
        have h3 := H3.out.below hb5; have h6 := H6.out.below hb5; have hbw := HB.out.trans (hb5.mono HB.out.size); clear H3 H6 HB hb5 b0 b1 b2 b3 b4 b5 b6
        have H3 := Lib.hid h3; have H6 := Lib.hid h6; have HB := Lib.hid hbw; clear h3 h6 hbw
        obtain ⟨a0, a1, a2, a3, a4⟩ := H3.out.2.1.c5
        obtain ⟨z0, z1, z2, z3, z4⟩ := H3.out.2.2.c5
        obtain ⟨f0, f1, f2, f3, f4⟩ := H3.out.2.2.f5
        obtain ⟨c0, c1, c2, c3, c4⟩ := H6.out.c5
        obtain ⟨d0, d1, d2, d3, d4⟩ := H6.out.f5
        simp only at c0 c1 c2 c3 c4
        have hl5 := H6.out.lt
        have m1 : w.heap.size + 1 < w5.heap.size := H3.out.2.1.lt
        have m2 : w.heap.size + 1 + 1 < w5.heap.size := H3.out.2.2.lt
        have hv := V0.out hlt
        cases hq : decide ((0 : Int) < s.kp)
        · rw [if_neg (by simpa using hq), Int.add_zero] at hv
          obtain rfl := hv
          clear hq
          by_cases hbig : (16 : Int) ≤ v0
          · have hvb := HV.out
            obtain ⟨q1, q2⟩ := HNO.out (fun hh => by have := hh.2.2.2; omega)
            have Q := Lib.hid (And.intro q1 q2); clear q1 q2 hvb
            go_wp2_with fail
            refine bodyPost_ret (v := .tuple #[.agg #[.int .i64 0, .int .i64 0, .int .i64 0, .int .i64 0, .int .i64 0], .bool false]) (two_results rfl _ _ _ 26 _ (0, 0) _ rfl (Row.alloc (row_set5' H3.out.2.2) _) Try.underlying26 rfl (by kernel_rfl) rfl) rfl ?_
            exact ⟨by obtain ⟨q1, q2⟩ := Q.out; subst q1; subst q2; rfl, (below_set5' HB.out (by omega)).alloc (below_set5' HB.out (by omega)).size _⟩
          · go_wp2_with fail
            go_roundw
            case rel =>
              have hg := HG.out
              refine ⟨1, by omega, rfl, ⟨Row.alloc (Row.far H3.out.1 (by simp; omega) _) _, Row.alloc (Row.far H3.out.2.1 (by simp; omega) _) _, Row.alloc (Row.far H3.out.2.2 (by simp; omega) _) _⟩, ?_, (HB.out.setCell (by simp; omega) _).alloc (by simpa using HB.out.size) _, ?_⟩
              · exact Row.alloc (Row.put H6.out 2 _) _
              · have := HV.out; omega
            case measure => simp [intOf]; omega
        · rw [if_pos (by simpa using hq)] at hv
          have hw := IntWalk.i64_in (n0 + t.x) (by have := NB.out; have := BT.out; omega)
          replace hw := hw.trans hv.symm
          clear hv
          clear hq
          by_cases hbig : (16 : Int) ≤ v0
          · have hvb := HV.out
            obtain ⟨q1, q2⟩ := HNO.out (fun hh => by have := hh.2.2.2; omega)
            have Q := Lib.hid (And.intro q1 q2); clear q1 q2 hvb
            go_wp2_with fail
            refine bodyPost_ret (v := .tuple #[.agg #[.int .i64 0, .int .i64 0, .int .i64 0, .int .i64 0, .int .i64 0], .bool false]) (two_results rfl _ _ _ 26 _ (0, 0) _ rfl (Row.alloc (row_set5' H3.out.2.2) _) Try.underlying26 rfl (by kernel_rfl) rfl) rfl ?_
            exact ⟨by obtain ⟨q1, q2⟩ := Q.out; subst q1; subst q2; rfl, (below_set5' HB.out (by omega)).alloc (below_set5' HB.out (by omega)).size _⟩
          · go_wp2_with fail
            go_roundw
            case rel =>
              have hg := HG.out
              refine ⟨1, by omega, rfl, ⟨Row.alloc (Row.far H3.out.1 (by simp; omega) _) _, Row.alloc (Row.far H3.out.2.1 (by simp; omega) _) _, Row.alloc (Row.far H3.out.2.2 (by simp; omega) _) _⟩, ?_, (HB.out.setCell (by simp; omega) _).alloc (by simpa using HB.out.size) _, ?_⟩
              · exact Row.alloc (Row.put H6.out 2 _) _
              · have := HV.out; omega
            case measure => simp [intOf]; omega
      · simp only [Int.natCast_zero, Int.natCast_one, Int.cast_ofNat_Int] at hlt'
        go_wp2_with fail
        refine (CA1.out hlt _).mono ?_; rintro e w5 ⟨rfl, hb5⟩
        dsimp only
        have h3 := H3.out.below hb5; have h6 := H6.out.below hb5; have hbw := HB.out.trans (hb5.mono HB.out.size); clear H3 H6 HB hb5 b0 b1 b2 b3 b4 b5 b6
        have H3 := Lib.hid h3; have H6 := Lib.hid h6; have HB := Lib.hid hbw; clear h3 h6 hbw
        obtain ⟨a0, a1, a2, a3, a4⟩ := H3.out.2.1.c5
        obtain ⟨z0, z1, z2, z3, z4⟩ := H3.out.2.2.c5
        obtain ⟨f0, f1, f2, f3, f4⟩ := H3.out.2.2.f5
        obtain ⟨c0, c1, c2, c3, c4⟩ := H6.out.c5
        obtain ⟨d0, d1, d2, d3, d4⟩ := H6.out.f5
        simp only at c0 c1 c2 c3 c4
        have hl5 := H6.out.lt
        have m1 : w.heap.size + 1 < w5.heap.size := H3.out.2.1.lt
        have m2 : w.heap.size + 1 + 1 < w5.heap.size := H3.out.2.2.lt
        have hv := V1.out hlt
        cases hq : decide ((1 : Int) < s.kp)
        · rw [if_neg (by simpa using hq), Int.add_zero] at hv
          obtain rfl := hv
          clear hq
          by_cases hbig : (16 : Int) ≤ v1
          · have hvb := HV.out
            obtain ⟨q1, q2⟩ := HNO.out (fun hh => by have := hh.2.2.2; omega)
            have Q := Lib.hid (And.intro q1 q2); clear q1 q2 hvb
            go_wp2_with fail
            refine bodyPost_ret (v := .tuple #[.agg #[.int .i64 0, .int .i64 0, .int .i64 0, .int .i64 0, .int .i64 0], .bool false]) (two_results rfl _ _ _ 26 _ (0, 0) _ rfl (Row.alloc (row_set5' H3.out.2.2) _) Try.underlying26 rfl (by kernel_rfl) rfl) rfl ?_
            exact ⟨by obtain ⟨q1, q2⟩ := Q.out; subst q1; subst q2; rfl, (below_set5' HB.out (by omega)).alloc (below_set5' HB.out (by omega)).size _⟩
          · go_wp2_with fail
            go_roundw
            case rel =>
              have hg := HG.out
              refine ⟨2, by omega, rfl, ⟨Row.alloc (Row.far H3.out.1 (by simp; omega) _) _, Row.alloc (Row.far H3.out.2.1 (by simp; omega) _) _, Row.alloc (Row.far H3.out.2.2 (by simp; omega) _) _⟩, ?_, (HB.out.setCell (by simp; omega) _).alloc (by simpa using HB.out.size) _, ?_⟩
              · exact Row.alloc (Row.put H6.out 3 _) _
              · have := HV.out; omega
            case measure => simp [intOf]; omega
        · rw [if_pos (by simpa using hq)] at hv
          have hw := IntWalk.i64_in (n1 + t.y) (by have := NB.out; have := BT.out; omega)
          replace hw := hw.trans hv.symm
          clear hv
          clear hq
          by_cases hbig : (16 : Int) ≤ v1
          · have hvb := HV.out
            obtain ⟨q1, q2⟩ := HNO.out (fun hh => by have := hh.2.2.2; omega)
            have Q := Lib.hid (And.intro q1 q2); clear q1 q2 hvb
            go_wp2_with fail
            refine bodyPost_ret (v := .tuple #[.agg #[.int .i64 0, .int .i64 0, .int .i64 0, .int .i64 0, .int .i64 0], .bool false]) (two_results rfl _ _ _ 26 _ (0, 0) _ rfl (Row.alloc (row_set5' H3.out.2.2) _) Try.underlying26 rfl (by kernel_rfl) rfl) rfl ?_
            exact ⟨by obtain ⟨q1, q2⟩ := Q.out; subst q1; subst q2; rfl, (below_set5' HB.out (by omega)).alloc (below_set5' HB.out (by omega)).size _⟩
          · go_wp2_with fail
            go_roundw
            case rel =>
              have hg := HG.out
              refine ⟨2, by omega, rfl, ⟨Row.alloc (Row.far H3.out.1 (by simp; omega) _) _, Row.alloc (Row.far H3.out.2.1 (by simp; omega) _) _, Row.alloc (Row.far H3.out.2.2 (by simp; omega) _) _⟩, ?_, (HB.out.setCell (by simp; omega) _).alloc (by simpa using HB.out.size) _, ?_⟩
              · exact Row.alloc (Row.put H6.out 3 _) _
              · have := HV.out; omega
            case measure => simp [intOf]; omega
      · simp only [Int.natCast_zero, Int.natCast_one, Int.cast_ofNat_Int] at hlt'
        go_wp2_with fail
        refine (CA2.out hlt _).mono ?_; rintro e w5 ⟨rfl, hb5⟩
        dsimp only
        have h3 := H3.out.below hb5; have h6 := H6.out.below hb5; have hbw := HB.out.trans (hb5.mono HB.out.size); clear H3 H6 HB hb5 b0 b1 b2 b3 b4 b5 b6
        have H3 := Lib.hid h3; have H6 := Lib.hid h6; have HB := Lib.hid hbw; clear h3 h6 hbw
        obtain ⟨a0, a1, a2, a3, a4⟩ := H3.out.2.1.c5
        obtain ⟨z0, z1, z2, z3, z4⟩ := H3.out.2.2.c5
        obtain ⟨f0, f1, f2, f3, f4⟩ := H3.out.2.2.f5
        obtain ⟨c0, c1, c2, c3, c4⟩ := H6.out.c5
        obtain ⟨d0, d1, d2, d3, d4⟩ := H6.out.f5
        simp only at c0 c1 c2 c3 c4
        have hl5 := H6.out.lt
        have m1 : w.heap.size + 1 < w5.heap.size := H3.out.2.1.lt
        have m2 : w.heap.size + 1 + 1 < w5.heap.size := H3.out.2.2.lt
        have hv := V2.out hlt
        cases hq : decide ((2 : Int) < s.kp)
        · rw [if_neg (by simpa using hq), Int.add_zero] at hv
          obtain rfl := hv
          clear hq
          by_cases hbig : (16 : Int) ≤ v2
          · have hvb := HV.out
            obtain ⟨q1, q2⟩ := HNO.out (fun hh => by have := hh.2.2.2; omega)
            have Q := Lib.hid (And.intro q1 q2); clear q1 q2 hvb
            go_wp2_with fail
            refine bodyPost_ret (v := .tuple #[.agg #[.int .i64 0, .int .i64 0, .int .i64 0, .int .i64 0, .int .i64 0], .bool false]) (two_results rfl _ _ _ 26 _ (0, 0) _ rfl (Row.alloc (row_set5' H3.out.2.2) _) Try.underlying26 rfl (by kernel_rfl) rfl) rfl ?_
            exact ⟨by obtain ⟨q1, q2⟩ := Q.out; subst q1; subst q2; rfl, (below_set5' HB.out (by omega)).alloc (below_set5' HB.out (by omega)).size _⟩
          · go_wp2_with fail
            go_roundw
            case rel =>
              have hg := HG.out
              refine ⟨3, by omega, rfl, ⟨Row.alloc (Row.far H3.out.1 (by simp; omega) _) _, Row.alloc (Row.far H3.out.2.1 (by simp; omega) _) _, Row.alloc (Row.far H3.out.2.2 (by simp; omega) _) _⟩, ?_, (HB.out.setCell (by simp; omega) _).alloc (by simpa using HB.out.size) _, ?_⟩
              · exact Row.alloc (Row.put H6.out 4 _) _
              · have := HV.out; omega
            case measure => simp [intOf]; omega
        · rw [if_pos (by simpa using hq)] at hv
          have hw := IntWalk.i64_in (n2 + t.z) (by have := NB.out; have := BT.out; omega)
          replace hw := hw.trans hv.symm
          clear hv
          clear hq
          by_cases hbig : (16 : Int) ≤ v2
          · have hvb := HV.out
            obtain ⟨q1, q2⟩ := HNO.out (fun hh => by have := hh.2.2.2; omega)
            have Q := Lib.hid (And.intro q1 q2); clear q1 q2 hvb
            go_wp2_with fail
            refine bodyPost_ret (v := .tuple #[.agg #[.int .i64 0, .int .i64 0, .int .i64 0, .int .i64 0, .int .i64 0], .bool false]) (two_results rfl _ _ _ 26 _ (0, 0) _ rfl (Row.alloc (row_set5' H3.out.2.2) _) Try.underlying26 rfl (by kernel_rfl) rfl) rfl ?_
            exact ⟨by obtain ⟨q1, q2⟩ := Q.out; subst q1; subst q2; rfl, (below_set5' HB.out (by omega)).alloc (below_set5' HB.out (by omega)).size _⟩
          · go_wp2_with fail
            go_roundw
            case rel =>
              have hg := HG.out
              refine ⟨3, by omega, rfl, ⟨Row.alloc (Row.far H3.out.1 (by simp; omega) _) _, Row.alloc (Row.far H3.out.2.1 (by simp; omega) _) _, Row.alloc (Row.far H3.out.2.2 (by simp; omega) _) _⟩, ?_, (HB.out.setCell (by simp; omega) _).alloc (by simpa using HB.out.size) _, ?_⟩
              · exact Row.alloc (Row.put H6.out 4 _) _
              · have := HV.out; omega
            case measure => simp [intOf]; omega
    · have hkn : k = n := by omega
      subst hkn
      have hge : ¬ (k : Int) < s.to := by have := HNN.out.1; omega
      obtain ⟨z0, z1, z2, z3, z4⟩ := H3.out.2.2.c5
      obtain ⟨f0, f1, f2, f3, f4⟩ := H3.out.2.2.f5
      obtain ⟨c0, c1, c2, c3, c4⟩ := H6.out.c5
      have y := Y.out
      rw [pt_self k 0 v0 (fun hh => y.1 (by omega))] at c2
      rw [pt_self k 1 v1 (fun hh => y.2.1 (by omega))] at c3
      rw [pt_self k 2 v2 (fun hh => y.2.2 (by omega))] at c4
      simp only at c0 c1
      have hr := HR.out
      have hv := HV.out
      have hg := G.out
      obtain ⟨q1, q2⟩ := HYES.out ⟨hr.1, hr.2.1, hr.2.2, by by_cases hh : 0 < k <;> omega, by by_cases hh : 1 < k <;> omega, by by_cases hh : 2 < k <;> omega⟩
      have Q := Lib.hid (And.intro q1 q2); clear q1 q2 hr hv hg y
      go_wp2_with fail
      refine bodyPost_ret (v := .tuple #[.agg #[.int .i64 s.to, .int .i64 t.e, .int .i64 v0, .int .i64 v1, .int .i64 v2], .bool true]) (two_results rfl _ _ _ 26 _ (0, 0) _ rfl (row_set5' H3.out.2.2) Try.underlying26 rfl (by kernel_rfl) rfl) rfl ?_
      exact ⟨by obtain ⟨q1, q2⟩ := Q.out; subst q1; subst q2; rfl, below_set5' HB.out (by omega)⟩
theorem refApply_any (s : Sm) (t : St) (w : World) : Calls Try.prog 12 #[s.v, t.val] w fun e w' => e = .returned (.tuple #[(s.ap t).val, .bool (s.apB t)]) ∧ Below w.heap.size w w' := by
  by_cases h : s.R
  · by_cases h2 : t.R
    · by_cases hd : t.d = s.fr
      · exact refApply_D s t w h h2 hd
      · exact refApply_C s t w h h2 hd
    · exact refApply_B s t w h h2
  · exact refApply_A s t w h
end
end Go.Proofs.Ytdpadkellpkppaa
