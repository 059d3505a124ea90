/- Compare: the document's, and the program's. -/
import Derived.Test.YtdpadkellpkppaaStVal
import Derived.Deep.QuietTactic
import Derived.BigQuiet
namespace Go.Proofs.Ytdpadkellpkppaa
open Go.ChangeShapes Go.WideShapes Go.ChangeAt Go.RowKit Go.BigFrame
set_option linter.unusedVariables false
set_option maxRecDepth 100000
def or_ (p q : Int) : Int := if p = 0 then q else p
/-- Compare's number so far -/
def Ck (s0 s1 s2 s3 s4 : Int) : Nat → Int
  | 0 => or_ s0 s1
  | 1 => or_ (or_ s0 s1) s2
  | 2 => or_ (or_ (or_ s0 s1) s2) s3
  | _ => or_ (or_ (or_ (or_ s0 s1) s2) s3) s4
theorem Ck_C (a b : St) : Ck (sgn a.d b.d) (sgn a.e b.e) (sgn a.x b.x) (sgn a.y b.y) (sgn a.z b.z) 3 = a.C b := by
  unfold St.C
  generalize sgn a.d b.d = s0
  generalize sgn a.e b.e = s1
  generalize sgn a.x b.x = s2
  generalize sgn a.y b.y = s3
  generalize sgn a.z b.z = s4
  by_cases h0 : s0 = 0 <;> by_cases h1 : s1 = 0 <;> by_cases h2 : s2 = 0 <;> by_cases h3 : s3 = 0 <;> simp [Ck, or_, h0, h1, h2, h3]
theorem or_z (q : Int) : or_ 0 q = q := if_pos rfl
theorem or_n {p : Int} (h : p ≠ 0) (q : Int) : or_ p q = p := if_neg h
end Go.Proofs.Ytdpadkellpkppaa
