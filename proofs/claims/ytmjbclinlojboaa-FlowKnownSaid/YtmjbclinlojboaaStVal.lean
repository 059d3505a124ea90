/- A time as a value, and the document's own answers: Right, sign, Compare. -/
import Derived.Test.YtmjbclinlojboaaMem
import Derived.Test.YtmjbclinlojboaaRegion
import Derived.Test.YtmjbclinlojboaaStLattice
import Derived.Test.YtmjbclinlojboaaLaw
import Derived.WalkKit
import Derived.Lib.Hide
import Derived.IntWalk
namespace Go.Proofs.Ytmjbclinlojboaa
open Go.ChangeShapes Go.WideShapes Go.ChangeAt Go.RowKit Go.BigFrame
set_option linter.unusedVariables false
set_option maxRecDepth 100000

/-- five cells -/
@[reducible] def St.cells (t : St) : List Value := [.int .i64 t.d, .int .i64 t.e, .int .i64 t.x, .int .i64 t.y, .int .i64 t.z]
@[reducible] def St.val (t : St) : Value := .agg #[.int .i64 t.d, .int .i64 t.e, .int .i64 t.x, .int .i64 t.y, .int .i64 t.z]
theorem ret_bool {a b : Bool} (h : a = b) : Ending.returned (.bool a) = .returned (.bool b) := by rw [h]
theorem ret_int {k : IntKind} {a b : Int} (h : a = b) : Ending.returned (.int k a) = .returned (.int k b) := by rw [h]
theorem below_drewN {B : Nat} {a w : World} (h : Below B a w) (n : Nat) : Below B a (w.drewN n) := ⟨h.os, h.tape, h.output, h.size, h.block⟩
theorem size_alloc (w : World) (o : Obj) : (w.alloc o).heap.size = w.heap.size + 1 := by simp
/-- the first k counters are as they should be -/
def Ok (d x y z : Int) (k : Nat) : Prop := (0 < k → 0 ≤ x ∧ x < 16 ∧ (d ≤ 0 → x = 0)) ∧ (1 < k → 0 ≤ y ∧ y < 16 ∧ (d ≤ 1 → y = 0)) ∧ (2 < k → 0 ≤ z ∧ z < 16 ∧ (d ≤ 2 → z = 0))
end Go.Proofs.Ytmjbclinlojboaa
