/- Bytes compared. -/
import Derived.Test.YtpcnnnfgopilaaaStRefGet
import Derived.Test.YtpcnnnfgopilaaaConv
namespace Go.Proofs.Ytpcnnnfgopilaaa
open Go.ChangeShapes Go.WideShapes Go.ChangeAt Go.RowKit Go.BigFrame
set_option linter.unusedVariables false
def sameB (xs ys : List Nat) : Bool := decide (xs = ys)
theorem str_same {xs ys : List Nat} (hx : ∀ x ∈ xs, x < 256) (hy : ∀ y ∈ ys, y < 256) : ((strOf xs).toList == (strOf ys).toList) = sameB xs ys := by
  rw [str_eql]; unfold sameB; rw [decide_eq_decide]; exact strOf_inj hx hy
theorem sameBytes_any (xs ys : List Nat) (A B : Option Addr) (c d : Nat) (w : World) (hA : Bytes w A xs) (hB : Bytes w B ys) :
    Calls Try.prog 32 #[.slice A xs.length c, .slice B ys.length d] w fun e w' => e = .returned (.bool (sameB xs ys)) ∧ w = w' := by
  have h1 := conv_bytes (P := Try.prog) (w := w) Try.underlying27 Try.underlying5 Try.underlying9 hA c
  have h2 := conv_bytes (P := Try.prog) (w := w) Try.underlying27 Try.underlying5 Try.underlying9 hB d
  have h3 := str_same hA.1 hB.1
  generalize strOf xs = s at *
  generalize strOf ys = t at *
  have H3 := Lib.hid h3; clear h3
  generalize xs.length = n at *
  generalize ys.length = m at *
  clear hA hB
  go_enter Try.func32, Try.ntmps32
  go_wp2_with fail
  go_ret
  exact ⟨by rw [← H3.out]; rfl, rfl⟩
end Go.Proofs.Ytpcnnnfgopilaaa
