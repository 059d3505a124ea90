/- Two operations that write: steps ahead of the second. -/
import Derived.Test.YtdpadkellpkppaaGuard
namespace Go.Proofs.Ytdpadkellpkppaa
open Go.RowKit
set_option linter.unusedVariables false
set_option maxRecDepth 100000
/-- one operation makes memory, a second one does more -/
def Seq4 (a b : World) (Q : World → Prop) (b1 b2 : Bool) (w : World) : Prop := match b1, b2 with
  | false, false => w = a
  | true, false => w = b
  | true, true => Q w
  | false, true => False
namespace Stage
section
variable {P : Program} {ops : Array Oper} {md : Region.Mode} {K1 K2 : Nat} {D : Bool → Bool → World → Prop}
/-- operation i, which comes up ahead of the second -/
theorem two_step {i : Nat} (hl : (decide (i ≠ K1) && decide (i ≠ K2) && leads md ops 8 i K2) = true) {o : Oper} {a : Act} {v : Value} (h : ∀ b w, D b false w → at_ P o a (D b false) w v) :
    ∀ S w, Fit md ops S → i ∈ Region.ready md ops S → two K1 K2 D S w → at_ P o a (two K1 K2 D (S.setIfInBounds i true)) w v := by
  simp only [Bool.and_eq_true, decide_eq_true_eq] at hl
  intro S w hF hi hS
  have hn := hF.before 8 i (mem_ready.1 hi).1 hl.2
  unfold two at *
  rw [getD_set_ne true hl.1.1, getD_set_ne true hl.1.2, hn]
  rw [hn] at hS
  exact h _ w hS
theorem at_convert2 {C : World → Prop} {o : Oper} {a : Act} {w w' : World} {v p : Value} (s t : TypeId) (x : Operand) (ho : o.op = .convert s t x) (hx : a.eval x = p) (hr : (convert s t p).run P w = .ok v w') (h : C w') : at_ P o a C w v := by
  unfold at_ execOp; simp only [ho, hx, Sem.run_bind, hr, Result.andThen_ok, Sem.run_pure, upon]; exact ⟨trivial, h⟩
end
end Stage
end Go.Proofs.Ytdpadkellpkppaa
