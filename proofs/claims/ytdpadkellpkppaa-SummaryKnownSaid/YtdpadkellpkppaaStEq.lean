/- Times compared as values. -/
import Derived.Test.YtdpadkellpkppaaStVal
import Derived.Laws.StructEq
import Derived.Test.YtdpadkellpkppaaQuiet
namespace Go.Proofs.Ytdpadkellpkppaa
open Go.ChangeShapes Go.WideShapes Go.ChangeAt Go.RowKit Go.BigFrame
set_option linter.unusedVariables false
set_option maxRecDepth 100000
theorem eq_int (d : Nat) (a b : Int) (w : World) : (Op.equalIn (d + 1) 3 (.int .i64 a) (.int .i64 b)).run Try.prog w = .ok (a == b) w := run_equalIn_int w d 3 .i64 .i64 a b Try.underlying3
theorem range3 : List.range' 0 3 = [0, 1, 2] := rfl
theorem eq3 (d : Nat) (x y z p q r : Int) (w : World) : (Op.equalIn (d + 2) 22 (.agg #[.int .i64 x, .int .i64 y, .int .i64 z]) (.agg #[.int .i64 p, .int .i64 q, .int .i64 r])).run Try.prog w = .ok (decide (x = p ∧ y = q ∧ z = r)) w := by
  have hu := Try.underlying22
  have hi : ∀ w, (isAgg 3).run Try.prog w = .ok false w := fun w => by go_simp
  unfold Op.equalIn
  simp [run_underlying hu, range3, part, hi, eq_int, Sem.run_bind]
  by_cases h1 : x = p
  · by_cases h2 : y = q
    · by_cases h3 : z = r
      · simp [h1, h2, h3]
      · simp [h1, h2, h3]
    · simp [h1, h2]
  · simp [h1]
theorem dec5 (a b : St) : decide (a = b) = (decide (a.d = b.d) && (decide (a.e = b.e) && decide (a.x = b.x ∧ a.y = b.y ∧ a.z = b.z))) := by
  rw [Bool.eq_iff_iff]
  simp [St.ext_iff']
theorem run_eq5 (a b : St) (w : World) : (Op.equalIn 10000 26 (.agg #[.int .i64 a.d, .int .i64 a.e, .int .i64 a.x, .int .i64 a.y, .int .i64 a.z]) (.agg #[.int .i64 b.d, .int .i64 b.e, .int .i64 b.x, .int .i64 b.y, .int .i64 b.z])).run Try.prog w = .ok (decide (a = b)) w := by
  have h := run_equalIn_agg (P := Try.prog) w 9999 26 #[.int .i64 a.d, .int .i64 a.e, .int .i64 a.x, .int .i64 a.y, .int .i64 a.z] #[.int .i64 b.d, .int .i64 b.e, .int .i64 b.x, .int .i64 b.y, .int .i64 b.z] (by kernel_rfl) (by kernel_rfl)
  have hf : (Try.prog.fieldsOf 26).toList = (Try.prog.fieldsOf 25).toList := by kernel_rfl
  rw [h, dec5]
  have e1 := fun a b w => eq_int 9998 a b w
  have e3 := fun x y z p q r w => eq3 9997 x y z p q r w
  have hi : ∀ w, (isAgg 3).run Try.prog w = .ok false w := fun w => by go_simp
  have hj : ∀ w, (isAgg 22).run Try.prog w = .ok true w := fun w => by go_simp
  have hs : ∀ w, (sizeOf 22).run Try.prog w = .ok 3 w := fun w => by go_simp
  obtain ⟨fs, hfs⟩ : ∃ fs, (Try.prog.fieldsOf 26).toList = fs := ⟨_, rfl⟩
  rw [hfs]
  have hu := Try.underlying26
  simp only [Program.fieldsOf, hu] at hfs
  subst hfs
  simp [Op.eqFields, part, hi, hj, hs, e1, e3, Sem.run_bind, go_sem]
  by_cases h0 : a.d = b.d <;> by_cases h1 : a.e = b.e <;> by_cases h2 : a.x = b.x <;> by_cases h3 : a.y = b.y <;> by_cases h4 : a.z = b.z <;> simp [h0, h1, h2, h3, h4]
section
variable {P : Program} {C : World → Prop} {K : Act → Prop} {a : Act} {o : Oper} {ops : Array Oper}
theorem q_bin {v p q : Value} (op : BinOp) (t u : TypeId) (x y : Operand) (ho : o.op = .binOp op t x y u) (hw : Region.wanted o (yielded ops a.tmps) = true) (hx : a.eval x = p) (hy : a.eval y = q)
    (hr : ∀ w', (do eqGuard op t x y p q; binOp op t p q : Sem Value).run P w' = .ok v w') (hk : K (a.put o.dst v)) :
    if Region.wanted o (yielded ops a.tmps) then o.quiet P a C K else K (a.put o.dst undef) := by
  rw [if_pos hw]
  refine ⟨v, fun w' hw' => ?_, hk⟩
  unfold Oper.quietAt execOp
  simp only [ho, hx, hy]
  rw [Sem.run_bind, hr w']
  simp only [Result.andThen_ok, Sem.run_pure, Oper.quietUpon]
  exact ⟨trivial, trivial⟩
end
def eqL (a b c p q r : Int) : Bool := decide (a = p ∧ b = q ∧ c = r)
/-- two times compared: one bool -/
def eqB (a b : St) : Bool := decide (a = b)
theorem eq_t (x y : Operand) (a b : St) : ∀ w, (do eqGuard .eql 26 x y (.agg #[.int .i64 a.d, .int .i64 a.e, .int .i64 a.x, .int .i64 a.y, .int .i64 a.z]) (.agg #[.int .i64 b.d, .int .i64 b.e, .int .i64 b.x, .int .i64 b.y, .int .i64 b.z]); binOp .eql 26 (.agg #[.int .i64 a.d, .int .i64 a.e, .int .i64 a.x, .int .i64 a.y, .int .i64 a.z]) (.agg #[.int .i64 b.d, .int .i64 b.e, .int .i64 b.x, .int .i64 b.y, .int .i64 b.z]) : Sem Value).run Try.prog w = .ok (.bool (eqB a b)) w := by
  intro w
  rw [Sem.run_bind, run_eqGuard_agg w _ _ _ _ _ _ (by kernel_rfl), Result.andThen_ok, run_eql_struct, run_eq5]
  rfl
theorem ne_t (x y : Operand) (a b : St) : ∀ w, (do eqGuard .neq 26 x y (.agg #[.int .i64 a.d, .int .i64 a.e, .int .i64 a.x, .int .i64 a.y, .int .i64 a.z]) (.agg #[.int .i64 b.d, .int .i64 b.e, .int .i64 b.x, .int .i64 b.y, .int .i64 b.z]); binOp .neq 26 (.agg #[.int .i64 a.d, .int .i64 a.e, .int .i64 a.x, .int .i64 a.y, .int .i64 a.z]) (.agg #[.int .i64 b.d, .int .i64 b.e, .int .i64 b.x, .int .i64 b.y, .int .i64 b.z]) : Sem Value).run Try.prog w = .ok (.bool (!eqB a b)) w := by
  intro w
  rw [Sem.run_bind, run_eqGuard_agg w _ _ _ _ _ _ (by kernel_rfl), Result.andThen_ok, run_neq_struct, run_eq5]
  rfl
theorem eq_l (x y : Operand) (a b c p q r : Int) : ∀ w, (do eqGuard .eql 22 x y (.agg #[.int .i64 a, .int .i64 b, .int .i64 c]) (.agg #[.int .i64 p, .int .i64 q, .int .i64 r]); binOp .eql 22 (.agg #[.int .i64 a, .int .i64 b, .int .i64 c]) (.agg #[.int .i64 p, .int .i64 q, .int .i64 r]) : Sem Value).run Try.prog w = .ok (.bool (eqL a b c p q r)) w := by
  intro w
  rw [Sem.run_bind, run_eqGuard_agg w _ _ _ _ _ _ (by kernel_rfl), Result.andThen_ok, run_eql_struct, eq3 9998]
  rfl
end Go.Proofs.Ytdpadkellpkppaa
