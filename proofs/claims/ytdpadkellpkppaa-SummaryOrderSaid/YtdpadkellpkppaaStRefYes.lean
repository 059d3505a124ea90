/- The document's answers: join and meet of two that have them. -/
import Derived.Test.YtdpadkellpkppaaStRef
namespace Go.Proofs.Ytdpadkellpkppaa
open Go.ChangeShapes Go.WideShapes Go.ChangeAt Go.RowKit Go.BigFrame
set_option linter.unusedVariables false
set_option maxRecDepth 100000
/-- the time so far -/
def St.sofar (g : Bool) (a b : St) (k : Nat) : St := ⟨a.d, pk g a.e b.e, if 0 < k then pk g a.x b.x else a.x, if 1 < k then pk g a.y b.y else a.y, if 2 < k then pk g a.z b.z else a.z⟩
theorem sofar_3 (g : Bool) (a b : St) (h : a.B b) : St.sofar g a b 3 = St.pick g a b := by unfold St.pick; rw [if_pos h]; rfl
theorem same_holds {w : World} {g : Nat} {t t' : St} (h : Holds w g t) (e : t = t') : Holds w g t' := e ▸ h
end Go.Proofs.Ytdpadkellpkppaa
