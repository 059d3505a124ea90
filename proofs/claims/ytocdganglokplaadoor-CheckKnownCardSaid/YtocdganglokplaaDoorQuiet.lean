/- Regions whose order is open and whose callees may make memory: loads of what was there. -/
import Derived.Test.YtocdganglokplaaDoorRegion
import Derived.Test.YtocdganglokplaaDoorParts
import Derived.Test.YtocdganglokplaaDoorStA
namespace Go.Proofs.YtocdganglokplaaDoor
open Go.RowKit
section
variable {P : Program} {C : World → Prop} {K : Act → Prop} {a : Act} {o : Oper} {ops : Array Oper}
theorem q_load {v p : Value} (t : TypeId) (x : Operand) (ho : o.op = .load t x) (hw : Region.wanted o (yielded ops a.tmps) = true) (hx : a.eval x = p) (hr : ∀ w', C w' → (Instr.loadAt t p).run P w' = .ok v w') (hk : K (a.put o.dst v)) :
    if Region.wanted o (yielded ops a.tmps) then o.quiet P a C K else K (a.put o.dst undef) := by
  rw [if_pos hw]
  refine ⟨v, fun w' hw' => ?_, hk⟩
  unfold Oper.quietAt execOp
  simp only [ho, hx, Sem.run_bind, hr w' hw', Result.andThen_ok, Sem.run_pure, Oper.quietUpon]
  exact ⟨trivial, trivial⟩
end
section
variable {W : World} {g : Nat} {t : St}
end
end Go.Proofs.YtocdganglokplaaDoor
