/- The program's joins and meets of two that have them. -/
import Derived.Test.YtdpadkellpkppaaStBothP
import Derived.Test.YtdpadkellpkppaaRoomOps5
import Derived.Test.YtdpadkellpkppaaFree
namespace Go.Proofs.Ytdpadkellpkppaa
open Go.ChangeShapes Go.WideShapes Go.ChangeAt Go.RowKit Go.BigFrame
set_option linter.unusedVariables false
set_option maxRecDepth 100000
/-- the time so far, in new memory -/
def St.part (g : Bool) (a b : St) (k : Nat) : St := ⟨a.d, pk g a.e b.e, if 0 < k then pk g a.x b.x else 0, if 1 < k then pk g a.y b.y else 0, if 2 < k then pk g a.z b.z else 0⟩
theorem pk_same (g : Bool) (m : Int) : pk g m m = m := by unfold pk; cases g <;> simp
theorem part_d (g : Bool) (a b : St) (h : a.B b) {n : Nat} (hn : a.d = n) : St.part g a b n = St.pick g a b := by
  unfold St.pick; rw [if_pos h]
  obtain ⟨h1, h2, h3⟩ := h
  unfold St.R at h1 h2
  refine St.ext' rfl rfl ?_ ?_ ?_
  · show (if 0 < n then pk g a.x b.x else 0) = pk g a.x b.x
    by_cases hk : 0 < n
    · rw [if_pos hk]
    · rw [if_neg hk, show a.x = 0 by omega, show b.x = 0 by omega, pk_same]
  · show (if 1 < n then pk g a.y b.y else 0) = pk g a.y b.y
    by_cases hk : 1 < n
    · rw [if_pos hk]
    · rw [if_neg hk, show a.y = 0 by omega, show b.y = 0 by omega, pk_same]
  · show (if 2 < n then pk g a.z b.z else 0) = pk g a.z b.z
    by_cases hk : 2 < n
    · rw [if_pos hk]
    · rw [if_neg hk, show a.z = 0 by omega, show b.z = 0 by omega, pk_same]
def wz (W : World) (b : Bool) : World := if b then W.alloc (.cells #[.int .i64 0, .int .i64 0, .int .i64 0, .int .i64 0, .int .i64 0] 26) else W
theorem wz_below {W w' : World} {b : Bool} (h : w' = wz W b) : Below W.heap.size W w' := by
  subst h; cases b
  · exact Below.refl _ _
  · exact (Below.refl _ _).alloc (Nat.le_refl _) _
section
variable {P : Program} {o : Oper} {a : Act} {C : World → Prop} {w w' : World} {v : Value}
theorem at_of (hr : (execOp a.eval o).run P w = .ok (.value v) w) (h : C w) : Stage.at_ P o a C w v := by unfold Stage.at_; rw [hr]; exact ⟨rfl, h⟩
theorem at_made (hr : (execOp a.eval o).run P w = .ok (.value v) w') (h : C w') : Stage.at_ P o a C w v := by unfold Stage.at_; rw [hr]; exact ⟨rfl, h⟩
theorem at_skip (hr : (execOp a.eval o).run P w = .ok .skip w') (h : C w') : Stage.at_ P o a C w undef := by unfold Stage.at_; rw [hr]; exact ⟨rfl, h⟩
theorem at_fn {f : FuncId} {fn : Func} {c : Code} (x : Operand) (args : Array Operand) (ats : Array TypeId) (ho : o.op = .call { callee := .value x, args := args, argTypes := ats }) (hx : a.eval x = .func (.func f) #[] #[]) (hf : P.funcs[f]? = some fn) (hname : (fn.name == "runtime.NumGoroutine") = false) (hb : fn.body = some c)
    (vs : List Value) (hv : args.toList.map a.eval = vs) (h : Calls P f vs.toArray w (fun e w'' => e = .returned v ∧ C w'')) : Stage.at_ P o a C w v := by
  have hv' : args.map a.eval = vs.toArray := by rw [← hv]; apply Array.ext'; simp
  have hr := Free.run_enter (P := P) hf hname hb (vs.toArray) w
  unfold Stage.at_ execOp
  simp only [ho, resolve, hv', hx, Deferred.ofValue, Sem.run_bind, Sem.run_pure, Result.andThen_ok, invoke, Array.append_empty, Array.empty_append, hr, Stage.upon]
  exact h
end
end Go.Proofs.Ytdpadkellpkppaa
