/- Leq, the document's. -/
import Derived.Test.YtdpadkellpkppaaStBothB
namespace Go.Proofs.Ytdpadkellpkppaa
open Go.ChangeShapes Go.WideShapes Go.ChangeAt Go.RowKit Go.BigFrame
set_option linter.unusedVariables false
set_option maxRecDepth 100000
/-- the first k counters are no greater -/
def Lk (x y z x' y' z' : Int) (k : Nat) : Prop := (0 < k → x ≤ x') ∧ (1 < k → y ≤ y') ∧ (2 < k → z ≤ z')
end Go.Proofs.Ytdpadkellpkppaa
