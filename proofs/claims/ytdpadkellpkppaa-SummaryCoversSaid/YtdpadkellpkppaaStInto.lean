/- A time, or nothing. -/
import Derived.Test.YtdpadkellpkppaaStJoin
namespace Go.Proofs.Ytdpadkellpkppaa
open Go.ChangeShapes Go.WideShapes Go.ChangeAt Go.RowKit Go.BigFrame
set_option linter.unusedVariables false
set_option maxRecDepth 100000
/-- the time, or nothing -/
def ov (o : Option St) : St := o.getD St.zero
theorem below2 {w w' : World} {a b : Obj} (h : Below ((w.alloc a).alloc b).heap.size ((w.alloc a).alloc b) w') : Below w.heap.size w w' :=
  (((Below.refl _ _).alloc (Nat.le_refl _) _).alloc (by simp) _).trans (h.mono (by simp; omega))
end Go.Proofs.Ytdpadkellpkppaa
