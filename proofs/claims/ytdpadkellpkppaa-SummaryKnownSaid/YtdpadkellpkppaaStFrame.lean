/- What the laws' walks share. -/
import Derived.Test.YtdpadkellpkppaaStLeq
import Derived.Test.YtdpadkellpkppaaStCmpA
import Derived.Test.YtdpadkellpkppaaStBothB
import Derived.Test.YtdpadkellpkppaaStOpen
import Derived.Test.YtdpadkellpkppaaStRefLeq
import Derived.SizedLaws
import Derived.BigRegion
import Derived.RegionTactic
import Derived.Deep.DeepCutAuto
import Derived.Deep.CutRange
namespace Go.Proofs.Ytdpadkellpkppaa
open Go.ChangeShapes Go.WideShapes Go.ChangeAt Go.RowKit Go.BigFrame
set_option linter.unusedVariables false
set_option maxRecDepth 100000
theorem eqt_self (x y : Operand) (a : St) : ∀ w, (do eqGuard .eql 26 x y (.agg #[.int .i64 a.d, .int .i64 a.e, .int .i64 a.x, .int .i64 a.y, .int .i64 a.z]) (.agg #[.int .i64 a.d, .int .i64 a.e, .int .i64 a.x, .int .i64 a.y, .int .i64 a.z]); binOp .eql 26 (.agg #[.int .i64 a.d, .int .i64 a.e, .int .i64 a.x, .int .i64 a.y, .int .i64 a.z]) (.agg #[.int .i64 a.d, .int .i64 a.e, .int .i64 a.x, .int .i64 a.y, .int .i64 a.z]) : Sem Value).run Try.prog w = .ok (.bool true) w := by
  intro w
  rw [eq_t x y a a w]
  unfold eqB
  rw [decide_eq_true rfl]
theorem eqb_self (x y : Operand) (p : Bool) : ∀ w, (do eqGuard .eql 4 x y (.bool p) (.bool p); binOp .eql 4 (.bool p) (.bool p) : Sem Value).run Try.prog w = .ok (.bool true) w := by
  intro w; go_simp
theorem eqi_self (x y : Operand) (n : Int) : ∀ w, (do eqGuard .eql 3 x y (.int .i64 n) (.int .i64 n); binOp .eql 3 (.int .i64 n) (.int .i64 n) : Sem Value).run Try.prog w = .ok (.bool true) w := by
  intro w; go_simp
theorem eqs_self (x y : Operand) (s : ByteArray) : ∀ w, (do eqGuard .eql 9 x y (.string s) (.string s); binOp .eql 9 (.string s) (.string s) : Sem Value).run Try.prog w = .ok (.bool true) w := by
  intro w; go_simp
section
variable {P : Program} {C : World → Prop} {K : Act → Prop} {a : Act} {o : Oper} {ops : Array Oper}
theorem q_conv {v p : Value} (s t : TypeId) (x : Operand) (ho : o.op = .convert s t x) (hw : Region.wanted o (yielded ops a.tmps) = true) (hx : a.eval x = p) (hr : ∀ w', C w' → (convert s t p).run P w' = .ok v w') (hk : K (a.put o.dst v)) :
    if Region.wanted o (yielded ops a.tmps) then o.quiet P a C K else K (a.put o.dst undef) := by
  rw [if_pos hw]
  refine ⟨v, fun w' hw' => ?_, hk⟩
  unfold Oper.quietAt execOp
  simp only [ho, hx, Sem.run_bind, hr w' hw', Result.andThen_ok, Sem.run_pure, Oper.quietUpon]
  exact ⟨trivial, trivial⟩
end
section
variable {P : Program} {C : World → Prop} {K : Act → Prop} {a : Act} {o : Oper} {ops : Array Oper}
theorem q_un {v p : Value} (op : UnOp) (t : TypeId) (x : Operand) (ho : o.op = .unOp op t x) (hw : Region.wanted o (yielded ops a.tmps) = true) (hx : a.eval x = p) (hr : ∀ w', (Op.unary op p : Sem Value).run P w' = .ok v w') (hk : K (a.put o.dst v)) :
    if Region.wanted o (yielded ops a.tmps) then o.quiet P a C K else K (a.put o.dst undef) := by
  rw [if_pos hw]
  refine ⟨v, fun w' hw' => ?_, hk⟩
  unfold Oper.quietAt execOp
  simp only [ho, hx, Sem.run_bind, hr w', Result.andThen_ok, Sem.run_pure, Oper.quietUpon]
  exact ⟨trivial, trivial⟩
end
theorem neg_is {n m : Int} (h : n = -m) (h1 : -2 < m) (h2 : m < 2) : ∀ w, (Op.unary .neg (.int .i64 m) : Sem Value).run Try.prog w = .ok (.int .i64 n) w := by
  intro w
  subst h
  have : IntKind.i64.wrap (-m) = -m := IntWalk.i64_in _ (by omega)
  simp [Op.unary, go_sem, this]
theorem neqi_self (x y : Operand) (n : Int) : ∀ w, (do eqGuard .neq 3 x y (.int .i64 n) (.int .i64 n); binOp .neq 3 (.int .i64 n) (.int .i64 n) : Sem Value).run Try.prog w = .ok (.bool false) w := by
  intro w; go_simp
theorem neqb_self (x y : Operand) (p : Bool) : ∀ w, (do eqGuard .neq 4 x y (.bool p) (.bool p); binOp .neq 4 (.bool p) (.bool p) : Sem Value).run Try.prog w = .ok (.bool false) w := by
  intro w; go_simp
theorem eqi_is {x y : Operand} {n m : Int} {p : Bool} (h : (n == m) = p) : ∀ w, (do eqGuard .eql 3 x y (.int .i64 n) (.int .i64 m); binOp .eql 3 (.int .i64 n) (.int .i64 m) : Sem Value).run Try.prog w = .ok (.bool p) w := by
  intro w; subst h; go_simp
theorem lei_is {x y : Operand} {n m : Int} {p : Bool} (h : decide (n ≤ m) = p) : ∀ w, (do eqGuard .leq 3 x y (.int .i64 n) (.int .i64 m); binOp .leq 3 (.int .i64 n) (.int .i64 m) : Sem Value).run Try.prog w = .ok (.bool p) w := by
  intro w; subst h; go_simp
theorem gti_is {x y : Operand} {n m : Int} {p : Bool} (h : decide (n > m) = p) : ∀ w, (do eqGuard .gtr 3 x y (.int .i64 n) (.int .i64 m); binOp .gtr 3 (.int .i64 n) (.int .i64 m) : Sem Value).run Try.prog w = .ok (.bool p) w := by
  intro w; subst h; go_simp
theorem eqt_is {x y : Operand} {a b : St} {p : Bool} (h : eqB a b = p) : ∀ w, (do eqGuard .eql 26 x y (.agg #[.int .i64 a.d, .int .i64 a.e, .int .i64 a.x, .int .i64 a.y, .int .i64 a.z]) (.agg #[.int .i64 b.d, .int .i64 b.e, .int .i64 b.x, .int .i64 b.y, .int .i64 b.z]); binOp .eql 26 (.agg #[.int .i64 a.d, .int .i64 a.e, .int .i64 a.x, .int .i64 a.y, .int .i64 a.z]) (.agg #[.int .i64 b.d, .int .i64 b.e, .int .i64 b.x, .int .i64 b.y, .int .i64 b.z]) : Sem Value).run Try.prog w = .ok (.bool p) w := by
  intro w; rw [eq_t x y a b w, h]
theorem net_is {x y : Operand} {a b : St} {p : Bool} (h : (!eqB a b) = p) : ∀ w, (do eqGuard .neq 26 x y (.agg #[.int .i64 a.d, .int .i64 a.e, .int .i64 a.x, .int .i64 a.y, .int .i64 a.z]) (.agg #[.int .i64 b.d, .int .i64 b.e, .int .i64 b.x, .int .i64 b.y, .int .i64 b.z]); binOp .neq 26 (.agg #[.int .i64 a.d, .int .i64 a.e, .int .i64 a.x, .int .i64 a.y, .int .i64 a.z]) (.agg #[.int .i64 b.d, .int .i64 b.e, .int .i64 b.x, .int .i64 b.y, .int .i64 b.z]) : Sem Value).run Try.prog w = .ok (.bool p) w := by
  intro w; rw [ne_t x y a b w, h]
end Go.Proofs.Ytdpadkellpkppaa
