/- A time as a value, and the document's own answers: Right, sign, Compare. -/
import Derived.Test.YtdpadkellpkppaaMem
import Derived.Test.YtdpadkellpkppaaRegion
import Derived.Test.YtdpadkellpkppaaStLattice
import Derived.Test.YtdpadkellpkppaaLaw
import Derived.WalkKit
import Derived.Lib.Hide
import Derived.IntWalk
namespace Go.Proofs.Ytdpadkellpkppaa
open Go.ChangeShapes Go.WideShapes Go.ChangeAt Go.RowKit Go.BigFrame
set_option linter.unusedVariables false
set_option maxRecDepth 100000

/-- five cells -/
@[reducible] def St.cells (t : St) : List Value := [.int .i64 t.d, .int .i64 t.e, .int .i64 t.x, .int .i64 t.y, .int .i64 t.z]
@[reducible] def St.val (t : St) : Value := .agg #[.int .i64 t.d, .int .i64 t.e, .int .i64 t.x, .int .i64 t.y, .int .i64 t.z]
theorem ret_bool {a b : Bool} (h : a = b) : Ending.returned (.bool a) = .returned (.bool b) := by rw [h]
theorem ret_int {k : IntKind} {a b : Int} (h : a = b) : Ending.returned (.int k a) = .returned (.int k b) := by rw [h]
theorem below_drewN {B : Nat} {a w : World} (h : Below B a w) (n : Nat) : Below B a (w.drewN n) := ⟨h.os, h.tape, h.output, h.size, h.block⟩
theorem size_alloc (w : World) (o : Obj) : (w.alloc o).heap.size = w.heap.size + 1 := by simp
/-- the first k counters are as they should be -/
def Ok (d x y z : Int) (k : Nat) : Prop := (0 < k → 0 ≤ x ∧ x < 16 ∧ (d ≤ 0 → x = 0)) ∧ (1 < k → 0 ≤ y ∧ y < 16 ∧ (d ≤ 1 → y = 0)) ∧ (2 < k → 0 ≤ z ∧ z < 16 ∧ (d ≤ 2 → z = 0))
set_option maxHeartbeats 1000000 in
theorem refRight_any (t : St) (w : World) : Calls Try.prog 30 #[t.val] w fun e w' => e = .returned (.bool (decide t.R)) ∧ Below w.heap.size w w' := by
  obtain ⟨d, e, x, y, z⟩ := t
  unfold St.val
  simp only
  by_cases h1 : d < 0
  · have hf : decide (St.R ⟨d, e, x, y, z⟩) = false := by rw [decide_eq_false_iff_not]; unfold St.R; simp only; omega
    rw [hf]; clear hf
    go_enter Try.func30, Try.ntmps30
    go_wp2
    go_ret
    exact ⟨rfl, (Below.refl _ _).alloc (Nat.le_refl _) _⟩
  by_cases h2 : 3 < d
  · have hf : decide (St.R ⟨d, e, x, y, z⟩) = false := by rw [decide_eq_false_iff_not]; unfold St.R; simp only; omega
    rw [hf]; clear hf
    go_enter Try.func30, Try.ntmps30
    go_wp2
    go_ret
    exact ⟨rfl, (Below.refl _ _).alloc (Nat.le_refl _) _⟩
  by_cases h3 : e < 0
  · have hf : decide (St.R ⟨d, e, x, y, z⟩) = false := by rw [decide_eq_false_iff_not]; unfold St.R; simp only; omega
    rw [hf]; clear hf
    go_enter Try.func30, Try.ntmps30
    go_wp2
    go_ret
    exact ⟨rfl, (Below.refl _ _).alloc (Nat.le_refl _) _⟩
  by_cases h4 : 1000 ≤ e
  · have hf : decide (St.R ⟨d, e, x, y, z⟩) = false := by rw [decide_eq_false_iff_not]; unfold St.R; simp only; omega
    rw [hf]; clear hf
    go_enter Try.func30, Try.ntmps30
    go_wp2
    go_ret
    exact ⟨rfl, (Below.refl _ _).alloc (Nat.le_refl _) _⟩
  go_enter Try.func30, Try.ntmps30
  go_wp2
  go_loop [3] (fun i => ∃ k : Nat, k ≤ 3 ∧ i = .int .i64 k ∧ Ok d x y z k) (fun i => 3 - (intOf i).toNat)
  case atStart => exact ⟨0, by omega, rfl, by unfold Ok; omega⟩
  case round =>
    obtain ⟨k, hk, rfl, hok⟩ := hrel
    have hcase : k = 0 ∨ k = 1 ∨ k = 2 ∨ k = 3 := by omega
    clear hk
    rcases hcase with rfl | rfl | rfl | rfl
    · go_wp2
      all_goals try simp only [bne_iff_ne, ne_eq, bne_eq_false_iff_eq] at *
      all_goals first
        | (go_round
           case rel => exact ⟨1, by omega, rfl, by unfold Ok at *; omega⟩
           case measure => simp [intOf])
        | (go_ret; exact ⟨ret_bool (by rw [eq_comm, decide_eq_false_iff_not]; unfold St.R; simp only; omega), (Below.refl _ _).alloc (Nat.le_refl _) _⟩)
    · go_wp2
      all_goals try simp only [bne_iff_ne, ne_eq, bne_eq_false_iff_eq] at *
      all_goals first
        | (go_round
           case rel => exact ⟨2, by omega, rfl, by unfold Ok at *; omega⟩
           case measure => simp [intOf])
        | (go_ret; exact ⟨ret_bool (by rw [eq_comm, decide_eq_false_iff_not]; unfold St.R; simp only; omega), (Below.refl _ _).alloc (Nat.le_refl _) _⟩)
    · go_wp2
      all_goals try simp only [bne_iff_ne, ne_eq, bne_eq_false_iff_eq] at *
      all_goals first
        | (go_round
           case rel => exact ⟨3, by omega, rfl, by unfold Ok at *; omega⟩
           case measure => simp [intOf])
        | (go_ret; exact ⟨ret_bool (by rw [eq_comm, decide_eq_false_iff_not]; unfold St.R; simp only; omega), (Below.refl _ _).alloc (Nat.le_refl _) _⟩)
    · go_wp2
      go_ret
      exact ⟨ret_bool (by rw [eq_comm, decide_eq_true_iff]; unfold Ok at hok; unfold St.R; simp only; omega), (Below.refl _ _).alloc (Nat.le_refl _) _⟩
end Go.Proofs.Ytdpadkellpkppaa
