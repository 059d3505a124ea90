/- What Apply tells, of any summary and time. -/
import Derived.Test.YtdpadkellpkppaaSmRight
import Derived.Test.YtdpadkellpkppaaSmRef
import Derived.Test.YtdpadkellpkppaaSmAt
import Derived.Test.YtdpadkellpkppaaSmAlong
import Derived.Test.YtdpadkellpkppaaStRefA
namespace Go.Proofs.Ytdpadkellpkppaa
open Go.ChangeShapes Go.WideShapes Go.ChangeAt Go.RowKit Go.BigFrame
set_option linter.unusedVariables false
def Sm.ap (s : Sm) (t : St) : St := (s.apply t).getD St.zero
def Sm.apB (s : Sm) (t : St) : Bool := (s.apply t).isSome
section
variable {s : Sm} {t : St}
theorem Sm.ap_no (h : ¬ (s.R ∧ t.R ∧ t.d = s.fr ∧ s.val t 0 < 16 ∧ s.val t 1 < 16 ∧ s.val t 2 < 16)) : s.ap t = St.zero ∧ s.apB t = false := by
  unfold Sm.ap Sm.apB Sm.apply; rw [if_neg h]; exact ⟨rfl, rfl⟩
theorem Sm.ap_yes (h : s.R ∧ t.R ∧ t.d = s.fr ∧ s.val t 0 < 16 ∧ s.val t 1 < 16 ∧ s.val t 2 < 16) : s.ap t = ⟨s.to, t.e, s.val t 0, s.val t 1, s.val t 2⟩ ∧ s.apB t = true := by
  unfold Sm.ap Sm.apB Sm.apply; rw [if_pos h]; exact ⟨rfl, rfl⟩
theorem Sm.val_al (i : Int) : s.al i (t.at_ i) = s.val t i := by
  unfold Sm.al Sm.val
  by_cases h : i < s.to
  · rw [if_pos h, if_pos h, Sm.cn_N]
  · rw [if_neg h, if_neg h]
theorem Sm.made_R (hs : s.R) (ht : t.R) : St.R ⟨s.to, t.e, s.val t 0, s.val t 1, s.val t 2⟩ ↔ s.val t 0 < 16 ∧ s.val t 1 < 16 ∧ s.val t 2 < 16 := by
  have g0 := Sm.val_R hs ht 0; have g1 := Sm.val_R hs ht 1; have g2 := Sm.val_R hs ht 2
  have z0 := Sm.val_out (s := s) (t := t) (i := 0); have z1 := Sm.val_out (s := s) (t := t) (i := 1); have z2 := Sm.val_out (s := s) (t := t) (i := 2)
  unfold Sm.R at hs; unfold St.R at *
  simp only
  omega
end
theorem right_false {t : St} (h : ¬ t.R) (w : World) : Calls Try.prog 28 #[t.val] w fun e w' => e = .returned (.bool false) ∧ Below w.heap.size w w' := by
  have := right_any t w; rwa [decide_eq_false h] at this
theorem right_true {t : St} (h : t.R) (w : World) : Calls Try.prog 28 #[t.val] w fun e w' => e = .returned (.bool true) ∧ Below w.heap.size w w' := by
  have := right_any t w; rwa [decide_eq_true h] at this
theorem refRight_false {t : St} (h : ¬ t.R) (w : World) : Calls Try.prog 30 #[t.val] w fun e w' => e = .returned (.bool false) ∧ Below w.heap.size w w' := by
  have := refRight_any t w; rwa [decide_eq_false h] at this
theorem refRight_true {t : St} (h : t.R) (w : World) : Calls Try.prog 30 #[t.val] w fun e w' => e = .returned (.bool true) ∧ Below w.heap.size w w' := by
  have := refRight_any t w; rwa [decide_eq_true h] at this
theorem rightM_false {s : Sm} (h : ¬ s.R) (w : World) : Calls Try.prog 16 #[s.v] w fun e w' => e = .returned (.bool false) ∧ Below w.heap.size w w' := by
  have := rightM_any s w; rwa [decide_eq_false h] at this
theorem rightM_true {s : Sm} (h : s.R) (w : World) : Calls Try.prog 16 #[s.v] w fun e w' => e = .returned (.bool true) ∧ Below w.heap.size w w' := by
  have := rightM_any s w; rwa [decide_eq_true h] at this
theorem refRightM_false {s : Sm} (h : ¬ s.R) (w : World) : Calls Try.prog 17 #[s.v] w fun e w' => e = .returned (.bool false) ∧ Below w.heap.size w w' := by
  have := refRightM_any s w; rwa [decide_eq_false h] at this
theorem refRightM_true {s : Sm} (h : s.R) (w : World) : Calls Try.prog 17 #[s.v] w fun e w' => e = .returned (.bool true) ∧ Below w.heap.size w w' := by
  have := refRightM_any s w; rwa [decide_eq_true h] at this
theorem row_set5' {w : World} {b : Nat} {t : TypeId} {a1 a2 a3 a4 a5 b1 b2 b3 b4 b5 : Value} (h : Row w b t [a1, a2, a3, a4, a5]) :
    Row (((((w.setCell ⟨b, 0, none⟩ b1).setCell ⟨b, 1, none⟩ b2).setCell ⟨b, 2, none⟩ b3).setCell ⟨b, 3, none⟩ b4).setCell ⟨b, 4, none⟩ b5) b t [b1, b2, b3, b4, b5] :=
  ((((h.put 0 b1).put 1 b2).put 2 b3).put 3 b4).put 4 b5
theorem below_set5' {w w' : World} {B g : Nat} {b1 b2 b3 b4 b5 : Value} (h : Below B w w') (hg : B ≤ g) :
    Below B w (((((w'.setCell ⟨g, 0, none⟩ b1).setCell ⟨g, 1, none⟩ b2).setCell ⟨g, 2, none⟩ b3).setCell ⟨g, 3, none⟩ b4).setCell ⟨g, 4, none⟩ b5) :=
  ((((h.setCell hg _).setCell hg _).setCell hg _).setCell hg _).setCell hg _
theorem Holds.c5 {W : World} {g : Nat} {t : St} (h : Holds W g t) : W.cell? ⟨g, 0, none⟩ = some (.int .i64 t.d) ∧ W.cell? ⟨g, 1, none⟩ = some (.int .i64 t.e) ∧ W.cell? ⟨g, 2, none⟩ = some (.int .i64 t.x) ∧ W.cell? ⟨g, 3, none⟩ = some (.int .i64 t.y) ∧ W.cell? ⟨g, 4, none⟩ = some (.int .i64 t.z) :=
  ⟨h.at_ 0, h.at_ 1, h.at_ 2, h.at_ 3, h.at_ 4⟩
theorem Holds.f5 {W : World} {g : Nat} {t : St} (h : Holds W g t) : W.frozen? ⟨g, 0, none⟩ = false ∧ W.frozen? ⟨g, 1, none⟩ = false ∧ W.frozen? ⟨g, 2, none⟩ = false ∧ W.frozen? ⟨g, 3, none⟩ = false ∧ W.frozen? ⟨g, 4, none⟩ = false :=
  ⟨Row.free h 0, Row.free h 1, Row.free h 2, Row.free h 3, Row.free h 4⟩
theorem below_alloc2' (w : World) (o o' : Obj) : Below w.heap.size w ((w.alloc o).alloc o') := ((Below.refl _ _).alloc (Nat.le_refl _) _).alloc (by simp) _
/-- a summary's box, a time's, and a third one that is all 0 -/
def Trio (W : World) (b : Nat) (ty : TypeId) (s : Sm) (t : St) : Prop := HoldsM W b ty s ∧ Holds W (b + 1) t ∧ Holds W (b + 1 + 1) St.zero
theorem Trio.made (w : World) (ty : TypeId) (s : Sm) (t : St) : Trio (((w.alloc (.cells #[.int .i64 s.fr, .int .i64 s.to, .int .i64 s.kp, .int .i64 s.ad, .int .i64 s.t0, .int .i64 s.t1, .int .i64 s.t2] ty)).alloc (.cells #[.int .i64 t.d, .int .i64 t.e, .int .i64 t.x, .int .i64 t.y, .int .i64 t.z] 26)).alloc (.cells #[.int .i64 0, .int .i64 0, .int .i64 0, .int .i64 0, .int .i64 0] 26)) w.heap.size ty s t := by
  refine ⟨((HoldsM.made w ty s).alloc _).alloc _, ?_, ?_⟩
  · have := (Holds.made (w.alloc (.cells #[.int .i64 s.fr, .int .i64 s.to, .int .i64 s.kp, .int .i64 s.ad, .int .i64 s.t0, .int .i64 s.t1, .int .i64 s.t2] ty)) t).alloc (.cells #[.int .i64 0, .int .i64 0, .int .i64 0, .int .i64 0, .int .i64 0] 26)
    rwa [size_alloc] at this
  · have := Holds.made ((w.alloc (.cells #[.int .i64 s.fr, .int .i64 s.to, .int .i64 s.kp, .int .i64 s.ad, .int .i64 s.t0, .int .i64 s.t1, .int .i64 s.t2] ty)).alloc (.cells #[.int .i64 t.d, .int .i64 t.e, .int .i64 t.x, .int .i64 t.y, .int .i64 t.z] 26)) St.zero
    rwa [size_alloc, size_alloc] at this
theorem Trio.below {W W' : World} {b : Nat} {ty : TypeId} {s : Sm} {t : St} (h : Trio W b ty s t) (hb : Below W.heap.size W W') : Trio W' b ty s t := ⟨h.1.below hb, h.2.1.below hb, h.2.2.below hb⟩
theorem below_alloc3 (w : World) (o o' o'' : Obj) : Below w.heap.size w (((w.alloc o).alloc o').alloc o'') := (below_alloc2' w o o').alloc (by simp; omega) _
end Go.Proofs.Ytdpadkellpkppaa
