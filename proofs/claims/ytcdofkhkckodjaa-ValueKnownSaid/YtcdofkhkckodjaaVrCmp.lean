/- Compare, the program's and the document's; records compared as values; Alike. -/
import Derived.Test.YtcdofkhkckodjaaVrKit
import Derived.Laws.StructEq
import Derived.Test.YtcdofkhkckodjaaStage
import Derived.Test.YtcdofkhkckodjaaParts
import Derived.BigRegion
import Derived.RegionTactic
import Derived.ChangeAlike
import Derived.Deep.RegionWith
import Derived.IntWalk
import Derived.Deep.DeepCutAuto
import Derived.Deep.CutRange
namespace Go.Proofs.Ytcdofkhkckodjaa
namespace Vr
open Go.ChangeShapes Go.WideShapes Go.ChangeAt Go.RowKit Go.BigFrame
set_option linter.unusedVariables false
set_option maxRecDepth 100000
theorem run_eqR (a b : Rd) (w : World) : (Op.equalIn 10000 32 (.agg #[.int .i64 a.k, .int .i64 a.v]) (.agg #[.int .i64 b.k, .int .i64 b.v])).run Try.prog w = .ok (decide (a = b)) w := by
  have h := run_equalIn_agg (P := Try.prog) w 9999 32 #[.int .i64 a.k, .int .i64 a.v] #[.int .i64 b.k, .int .i64 b.v] (by kernel_rfl) (by kernel_rfl)
  have e1 := fun a b w => run_equalIn_int (P := Try.prog) w 9998 2 .i64 .i64 a b Try.underlying2
  have hi : ∀ w, (isAgg 2).run Try.prog w = .ok false w := fun w => by go_simp
  have hd : decide (a = b) = (decide (a.k = b.k) && decide (a.v = b.v)) := by
    rw [Bool.eq_iff_iff]; simp [Rd.ext_iff']
  rw [h, hd]
  obtain ⟨fs, hfs⟩ : ∃ fs, (Try.prog.fieldsOf 32).toList = fs := ⟨_, rfl⟩
  rw [hfs]
  have hu := Try.underlying32
  simp only [Program.fieldsOf, hu] at hfs
  subst hfs
  simp [Op.eqFields, part, hi, e1, Sem.run_bind, go_sem]
  by_cases h0 : a.k = b.k <;> by_cases h1 : a.v = b.v <;> simp [h0, h1]
section
variable {P : Program} {C : World → Prop} {K : Act → Prop} {a : Act} {o : Oper} {ops : Array Oper}
theorem q_load {v p : Value} (t : TypeId) (x : Operand) (ho : o.op = .load t x) (hw : Region.wanted o (yielded ops a.tmps) = true) (hx : a.eval x = p) (hr : ∀ w', C w' → (Instr.loadAt t p).run P w' = .ok v w') (hk : K (a.put o.dst v)) :
    if Region.wanted o (yielded ops a.tmps) then o.quiet P a C K else K (a.put o.dst undef) := by
  rw [if_pos hw]
  refine ⟨v, fun w' hw' => ?_, hk⟩
  unfold Oper.quietAt execOp
  simp only [ho, hx, Sem.run_bind, hr w' hw', Result.andThen_ok, Sem.run_pure, Oper.quietUpon]
  exact ⟨trivial, trivial⟩
theorem q_bin {v p q : Value} (op : BinOp) (t u : TypeId) (x y : Operand) (ho : o.op = .binOp op t x y u) (hw : Region.wanted o (yielded ops a.tmps) = true) (hx : a.eval x = p) (hy : a.eval y = q)
    (hr : ∀ w', (do eqGuard op t x y p q; binOp op t p q : Sem Value).run P w' = .ok v w') (hk : K (a.put o.dst v)) :
    if Region.wanted o (yielded ops a.tmps) then o.quiet P a C K else K (a.put o.dst undef) := by
  rw [if_pos hw]
  refine ⟨v, fun w' hw' => ?_, hk⟩
  unfold Oper.quietAt execOp
  simp only [ho, hx, hy]
  rw [Sem.run_bind, hr w']
  simp only [Result.andThen_ok, Sem.run_pure, Oper.quietUpon]
  exact ⟨trivial, trivial⟩
end
def eqB (a b : Rd) : Bool := decide (a = b)
theorem eqB_yes {a b : Rd} (h : a = b) : eqB a b = true := decide_eq_true h
theorem eqB_no {a b : Rd} (h : ¬ a = b) : eqB a b = false := decide_eq_false h
/-- two records compared as values: one bool -/
theorem eq_r (x y : Operand) (a b : Rd) : ∀ w, (do eqGuard .eql 32 x y (.agg #[.int .i64 a.k, .int .i64 a.v]) (.agg #[.int .i64 b.k, .int .i64 b.v]); binOp .eql 32 (.agg #[.int .i64 a.k, .int .i64 a.v]) (.agg #[.int .i64 b.k, .int .i64 b.v]) : Sem Value).run Try.prog w = .ok (.bool (eqB a b)) w := by
  intro w
  rw [Sem.run_bind, run_eqGuard_agg w _ _ _ _ _ _ (by kernel_rfl), Result.andThen_ok, run_eql_struct, run_eqR]
  rfl
theorem ne_r (x y : Operand) (a b : Rd) : ∀ w, (do eqGuard .neq 32 x y (.agg #[.int .i64 a.k, .int .i64 a.v]) (.agg #[.int .i64 b.k, .int .i64 b.v]); binOp .neq 32 (.agg #[.int .i64 a.k, .int .i64 a.v]) (.agg #[.int .i64 b.k, .int .i64 b.v]) : Sem Value).run Try.prog w = .ok (.bool (!eqB a b)) w := by
  intro w
  rw [Sem.run_bind, run_eqGuard_agg w _ _ _ _ _ _ (by kernel_rfl), Result.andThen_ok, run_neq_struct, run_eqR]
  rfl
/-- a record loaded from a row, in each later world -/
theorem load_r {w : World} {A : Option Addr} {ts : List Rd} (h : Rw.Ts kindR w A ts) {i : Nat} {t : Rd} (hi : ts[i]? = some t) : ∃ b o, A = some ⟨b, o, none⟩ ∧ b < w.heap.size ∧
    ∀ w', Below w.heap.size w w' → (Instr.loadAt 32 (.pointer (some ⟨b, o + i * 2, none⟩))).run Try.prog w' = .ok (.agg #[.int .i64 t.k, .int .i64 t.v]) w' := by
  obtain ⟨b, o, e, hlt, hc⟩ := h.at_ hi
  exact ⟨b, o, e, hlt, fun w' hb => run_loadAt_part b (o + i * 2) 32 _ t.cells (fun j v hj => by rw [add_at]; exact hc w' hb j v hj) Try.underlying32 rfl (by kernel_rfl)⟩
theorem retI {a b : Int} (h : a = b) : Ending.returned (.int .i64 a) = .returned (.int .i64 b) := by rw [h]
theorem retb {a b : Bool} (h : a = b) : Ending.returned (.bool a) = .returned (.bool b) := by rw [h]
set_option maxHeartbeats 1000000 in
theorem compare_any (a b : Rd) (w : World) : Calls Try.prog 19 #[a.val, b.val] w fun e w' => e = .returned (.int .i64 (a.C b)) ∧ Below w.heap.size w w' := by
  have HC := Lib.hid (closure_any a b)
  obtain ⟨ak, av⟩ := a
  obtain ⟨bk, bv⟩ := b
  generalize Rd.C ⟨ak, av⟩ ⟨bk, bv⟩ = r at *
  simp only at *
  go_enter Try.func19, Try.ntmps19
  go_wp2_with fail
  go_region_with (first | (go_at_call 30; refine (byKey_any _).mono ?_; rintro e w' ⟨rfl, rfl⟩) | (go_at_call 38; refine (HC.out _).mono ?_; rintro e w' ⟨rfl, rfl⟩))
  all_goals
    go_wp2_with fail
    go_ret
    refine ⟨rfl, ?_⟩
    repeat (first | exact Below.refl _ w | refine Below.drew ?_ | refine Below.alloc ?_ (by first | exact Nat.le_refl _ | (simp; done) | (simp; omega)) _)
set_option maxHeartbeats 1000000 in
theorem refCompare_any (a b : Rd) (w : World) : Calls Try.prog 20 #[a.val, b.val] w fun e w' => e = .returned (.int .i64 (a.C b)) ∧ Below w.heap.size w w' := by
  have he := run_eqR a b
  by_cases h1 : a.k < b.k
  · have hC : a.C b = -1 := by unfold Rd.C; rw [if_pos (.inl h1)]
    rw [hC]; clear hC he
    have d1 : decide (a.k < b.k) = true := by simpa using h1
    go_enter Try.func20, Try.ntmps20
    go_wp2_with fail
    go_ret
    exact ⟨rfl, ((Below.refl _ w).alloc (Nat.le_refl _) _).alloc (by simp) _⟩
  · have d1 : decide (a.k < b.k) = false := by simpa using h1
    by_cases h2 : a.k = b.k
    · have d2 : (a.k == b.k) = true := by simpa using h2
      by_cases h3 : a.v < b.v
      · have hC : a.C b = -1 := by unfold Rd.C; rw [if_pos (.inr ⟨h2, h3⟩)]
        rw [hC]; clear hC he
        have d3 : decide (a.v < b.v) = true := by simpa using h3
        have H2 := Lib.hid h2; clear h2
        go_enter Try.func20, Try.ntmps20
        go_wp2_with fail
        go_ret
        exact ⟨rfl, ((Below.refl _ w).alloc (Nat.le_refl _) _).alloc (by simp) _⟩
      · have d3 : decide (a.v < b.v) = false := by simpa using h3
        by_cases h4 : a = b
        · have hC : a.C b = 0 := Rd.C_zero.2 h4
          have he' : ∀ w, (Op.equalIn 10000 32 (.agg #[.int .i64 a.k, .int .i64 a.v]) (.agg #[.int .i64 b.k, .int .i64 b.v])).run Try.prog w = .ok true w := fun w => by rw [he, decide_eq_true h4]
          rw [hC]
          have H2 := Lib.hid h2; have H4 := Lib.hid h4; clear h2 h4 hC he
          go_enter Try.func20, Try.ntmps20
          go_wp2_with fail
          go_ret
          exact ⟨rfl, ((Below.refl _ w).alloc (Nat.le_refl _) _).alloc (by simp) _⟩
        · have hC : a.C b = 1 := by unfold Rd.C; rw [if_neg (by omega), if_neg h4]
          have he' : ∀ w, (Op.equalIn 10000 32 (.agg #[.int .i64 a.k, .int .i64 a.v]) (.agg #[.int .i64 b.k, .int .i64 b.v])).run Try.prog w = .ok false w := fun w => by rw [he, decide_eq_false h4]
          rw [hC]
          have H2 := Lib.hid h2; have H4 := Lib.hid h4; clear h2 h4 hC he
          go_enter Try.func20, Try.ntmps20
          go_wp2_with fail
          go_ret
          exact ⟨rfl, ((Below.refl _ w).alloc (Nat.le_refl _) _).alloc (by simp) _⟩
    · have d2 : (a.k == b.k) = false := by simpa using h2
      have h4 : ¬ a = b := fun e => h2 (by rw [e])
      have hC : a.C b = 1 := by unfold Rd.C; rw [if_neg (by omega), if_neg h4]
      have he' : ∀ w, (Op.equalIn 10000 32 (.agg #[.int .i64 a.k, .int .i64 a.v]) (.agg #[.int .i64 b.k, .int .i64 b.v])).run Try.prog w = .ok false w := fun w => by rw [he, decide_eq_false h4]
      rw [hC]
      have H2 := Lib.hid h2; have H4 := Lib.hid h4; clear h2 h4 hC he
      go_enter Try.func20, Try.ntmps20
      go_wp2_with fail
      go_ret
      exact ⟨rfl, ((Below.refl _ w).alloc (Nat.le_refl _) _).alloc (by simp) _⟩
end Vr
end Go.Proofs.Ytcdofkhkckodjaa
