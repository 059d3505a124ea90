/- StVal, Quiet, Tail, StEq, StRef, StRefYes, StNear, StRight, StBothP, StOpen -/
import Derived.Test.YtcjdjdhjbchaaaaCa1
import Derived.Test.YtcjdjdhjbchaaaaCa3
import Derived.Test.YtcjdjdhjbchaaaaCa0
import Derived.WalkKit
import Derived.Lib.Hide
import Derived.IntWalk
import Derived.Test.YtcjdjdhjbchaaaaCa2
import Derived.StillTailTactics
import Derived.Deep.QuietTactic
import Derived.BigQuiet
import Derived.Laws.StructEq
import Derived.Laws.Rows
import Derived.Laws.IdiomArrays
import Derived.OpenShut
namespace Go.Proofs.Ytcjdjdhjbchaaaa
set_option linter.unusedVariables false
section
open Go.ChangeShapes Go.WideShapes Go.ChangeAt Go.RowKit Go.BigFrame
set_option maxRecDepth 100000

/-- five cells -/
@[reducible] def St.cells (t : St) : List Value := [.int .i64 t.d, .int .i64 t.e, .int .i64 t.x, .int .i64 t.y, .int .i64 t.z]
@[reducible] def St.val (t : St) : Value := .agg #[.int .i64 t.d, .int .i64 t.e, .int .i64 t.x, .int .i64 t.y, .int .i64 t.z]
theorem ret_bool {a b : Bool} (h : a = b) : Ending.returned (.bool a) = .returned (.bool b) := by rw [h]
theorem ret_int {k : IntKind} {a b : Int} (h : a = b) : Ending.returned (.int k a) = .returned (.int k b) := by rw [h]
theorem below_drewN {B : Nat} {a w : World} (h : Below B a w) (n : Nat) : Below B a (w.drewN n) := ⟨h.os, h.tape, h.output, h.size, h.block⟩
theorem size_alloc (w : World) (o : Obj) : (w.alloc o).heap.size = w.heap.size + 1 := by simp
/-- the first k counters are as they should be -/
def Ok (d x y z : Int) (k : Nat) : Prop := (0 < k → 0 ≤ x ∧ x < 16 ∧ (d ≤ 0 → x = 0)) ∧ (1 < k → 0 ≤ y ∧ y < 16 ∧ (d ≤ 1 → y = 0)) ∧ (2 < k → 0 ≤ z ∧ z < 16 ∧ (d ≤ 2 → z = 0))
set_option maxHeartbeats 1000000 in
theorem refRight_any (t : St) (w : World) : Calls Try.prog 41 #[t.val] w fun e w' => e = .returned (.bool (decide t.R)) ∧ Below w.heap.size w w' := by
  obtain ⟨d, e, x, y, z⟩ := t
  unfold St.val
  simp only
  by_cases h1 : d < 0
  · have hf : decide (St.R ⟨d, e, x, y, z⟩) = false := by rw [decide_eq_false_iff_not]; unfold St.R; simp only; omega
    rw [hf]; clear hf
    go_enter Try.func41, Try.ntmps41
    go_wp2
    go_ret
    exact ⟨rfl, (Below.refl _ _).alloc (Nat.le_refl _) _⟩
  by_cases h2 : 3 < d
  · have hf : decide (St.R ⟨d, e, x, y, z⟩) = false := by rw [decide_eq_false_iff_not]; unfold St.R; simp only; omega
    rw [hf]; clear hf
    go_enter Try.func41, Try.ntmps41
    go_wp2
    go_ret
    exact ⟨rfl, (Below.refl _ _).alloc (Nat.le_refl _) _⟩
  by_cases h3 : e < 0
  · have hf : decide (St.R ⟨d, e, x, y, z⟩) = false := by rw [decide_eq_false_iff_not]; unfold St.R; simp only; omega
    rw [hf]; clear hf
    go_enter Try.func41, Try.ntmps41
    go_wp2
    go_ret
    exact ⟨rfl, (Below.refl _ _).alloc (Nat.le_refl _) _⟩
  by_cases h4 : 1000 ≤ e
  · have hf : decide (St.R ⟨d, e, x, y, z⟩) = false := by rw [decide_eq_false_iff_not]; unfold St.R; simp only; omega
    rw [hf]; clear hf
    go_enter Try.func41, Try.ntmps41
    go_wp2
    go_ret
    exact ⟨rfl, (Below.refl _ _).alloc (Nat.le_refl _) _⟩
  go_enter Try.func41, Try.ntmps41
  go_wp2
  go_loop [3] (fun i => ∃ k : Nat, k ≤ 3 ∧ i = .int .i64 k ∧ Ok d x y z k) (fun i => 3 - (intOf i).toNat)
  case atStart => exact ⟨0, by omega, rfl, by unfold Ok; omega⟩
  case round =>
    obtain ⟨k, hk, rfl, hok⟩ := hrel
    have hcase : k = 0 ∨ k = 1 ∨ k = 2 ∨ k = 3 := by omega
    clear hk
    rcases hcase with rfl | rfl | rfl | rfl
    · go_wp2
      all_goals try simp only [bne_iff_ne, ne_eq, bne_eq_false_iff_eq] at *
      all_goals first
        | (go_round
           case rel => exact ⟨1, by omega, rfl, by unfold Ok at *; omega⟩
           case measure => simp [intOf])
        | (go_ret; exact ⟨ret_bool (by rw [eq_comm, decide_eq_false_iff_not]; unfold St.R; simp only; omega), (Below.refl _ _).alloc (Nat.le_refl _) _⟩)
    · go_wp2
      all_goals try simp only [bne_iff_ne, ne_eq, bne_eq_false_iff_eq] at *
      all_goals first
        | (go_round
           case rel => exact ⟨2, by omega, rfl, by unfold Ok at *; omega⟩
           case measure => simp [intOf])
        | (go_ret; exact ⟨ret_bool (by rw [eq_comm, decide_eq_false_iff_not]; unfold St.R; simp only; omega), (Below.refl _ _).alloc (Nat.le_refl _) _⟩)
    · go_wp2
      all_goals try simp only [bne_iff_ne, ne_eq, bne_eq_false_iff_eq] at *
      all_goals first
        | (go_round
           case rel => exact ⟨3, by omega, rfl, by unfold Ok at *; omega⟩
           case measure => simp [intOf])
        | (go_ret; exact ⟨ret_bool (by rw [eq_comm, decide_eq_false_iff_not]; unfold St.R; simp only; omega), (Below.refl _ _).alloc (Nat.le_refl _) _⟩)
    · go_wp2
      go_ret
      exact ⟨ret_bool (by rw [eq_comm, decide_eq_true_iff]; unfold Ok at hok; unfold St.R; simp only; omega), (Below.refl _ _).alloc (Nat.le_refl _) _⟩
end

section
open Go.RowKit
section
variable {P : Program} {C : World → Prop} {K : Act → Prop} {a : Act} {o : Oper} {ops : Array Oper}
theorem q_load {v p : Value} (t : TypeId) (x : Operand) (ho : o.op = .load t x) (hw : Region.wanted o (yielded ops a.tmps) = true) (hx : a.eval x = p) (hr : ∀ w', C w' → (Instr.loadAt t p).run P w' = .ok v w') (hk : K (a.put o.dst v)) :
    if Region.wanted o (yielded ops a.tmps) then o.quiet P a C K else K (a.put o.dst undef) := by
  rw [if_pos hw]
  refine ⟨v, fun w' hw' => ?_, hk⟩
  unfold Oper.quietAt execOp
  simp only [ho, hx, Sem.run_bind, hr w' hw', Result.andThen_ok, Sem.run_pure, Oper.quietUpon]
  exact ⟨trivial, trivial⟩
end
/-- block g holds the time t -/
def Holds (w : World) (g : Nat) (t : St) : Prop := Row w g 40 t.cells
section
variable {W : World} {g : Nat} {t : St}
theorem Holds.lt (h : Holds W g t) : g < W.heap.size := Row.lt h
theorem Holds.below {w' : World} (h : Holds W g t) (hb : Below W.heap.size W w') : Holds w' g t := Row.below h hb h.lt
theorem Holds.alloc (h : Holds W g t) (o : Obj) : Holds (W.alloc o) g t := Row.alloc h o
theorem Holds.drewN (h : Holds W g t) (n : Nat) : Holds (W.drewN n) g t := h
theorem Holds.made (w : World) (t : St) : Holds (w.alloc (.cells #[.int .i64 t.d, .int .i64 t.e, .int .i64 t.x, .int .i64 t.y, .int .i64 t.z] 40)) w.heap.size t := Row.made w _ _
theorem Holds.at_ (h : Holds W g t) (j : Nat) : W.cell? ⟨g, j, none⟩ = t.cells[j]? := Row.cell h j
theorem load_t (h : Holds W g t) : ∀ w', Below W.heap.size W w' → (Instr.loadAt 40 (.pointer (some ⟨g, 0, none⟩))).run Try.prog w' = .ok (.agg #[.int .i64 t.d, .int .i64 t.e, .int .i64 t.x, .int .i64 t.y, .int .i64 t.z]) w' :=
  fun w' hb => run_loadAt_part g 0 40 _ t.cells (fun j v hj => by rw [add_at, (h.below hb).at_, Nat.zero_add]; exact hj) Try.underlying40 rfl (by kernel_rfl)
theorem load_l (h : Holds W g t) : ∀ w', Below W.heap.size W w' → (Instr.loadAt 38 (.pointer (some ⟨g, 2, none⟩))).run Try.prog w' = .ok (.agg #[.int .i64 t.x, .int .i64 t.y, .int .i64 t.z]) w' :=
  fun w' hb => run_loadAt_part g 2 38 _ [.int .i64 t.x, .int .i64 t.y, .int .i64 t.z] (fun j v hj => by rw [add_at, (h.below hb).at_, Nat.add_comm]; exact hj) Try.underlying38 rfl (by kernel_rfl)
theorem load_1 (h : Holds W g t) (j : Nat) {v : Int} (hj : t.cells[j]? = some (.int .i64 v)) : ∀ w', Below W.heap.size W w' → (Instr.loadAt 3 (.pointer (some ⟨g, j, none⟩))).run Try.prog w' = .ok (.int .i64 v) w' := by
  intro w' hb
  have hc := ((h.below hb).at_ j).trans hj
  go_simp
theorem load_d (h : Holds W g t) : ∀ w', Below W.heap.size W w' → (Instr.loadAt 3 (.pointer (some ⟨g, 0, none⟩))).run Try.prog w' = .ok (.int .i64 t.d) w' := load_1 h 0 rfl
theorem load_e (h : Holds W g t) : ∀ w', Below W.heap.size W w' → (Instr.loadAt 3 (.pointer (some ⟨g, 1, none⟩))).run Try.prog w' = .ok (.int .i64 t.e) w' := load_1 h 1 rfl
theorem load_x (h : Holds W g t) : ∀ w', Below W.heap.size W w' → (Instr.loadAt 3 (.pointer (some ⟨g, 2, none⟩))).run Try.prog w' = .ok (.int .i64 t.x) w' := load_1 h 2 rfl
theorem load_y (h : Holds W g t) : ∀ w', Below W.heap.size W w' → (Instr.loadAt 3 (.pointer (some ⟨g, 3, none⟩))).run Try.prog w' = .ok (.int .i64 t.y) w' := load_1 h 3 rfl
theorem load_z (h : Holds W g t) : ∀ w', Below W.heap.size W w' → (Instr.loadAt 3 (.pointer (some ⟨g, 4, none⟩))).run Try.prog w' = .ok (.int .i64 t.z) w' := load_1 h 4 rfl
end
end

section
theorem wp_tail {P : Program} {id : Nat} {Q : Exit → Act → World → Prop} {a : Act} {w : World} {l : List Oper} (n : Nat) (hm : P.follows .mixedOrders = true) (hB : Region.lexTailB .any l.toArray n = true)
    (h : wpStill P l.toArray (w.drewN 1) (fun a' => wpList P l.toArray Q (l.drop n) a' (w.drewN 1)) (l.take n) a) : (Code.region id l.toArray true).wp P Q a w :=
  wp_region_still_tail n hm hB h
end

section
open Go.ChangeShapes Go.WideShapes Go.ChangeAt Go.RowKit Go.BigFrame
set_option maxRecDepth 100000
theorem eq_int (d : Nat) (a b : Int) (w : World) : (Op.equalIn (d + 1) 3 (.int .i64 a) (.int .i64 b)).run Try.prog w = .ok (a == b) w := run_equalIn_int w d 3 .i64 .i64 a b Try.underlying3
theorem range3 : List.range' 0 3 = [0, 1, 2] := rfl
theorem eq3 (d : Nat) (x y z p q r : Int) (w : World) : (Op.equalIn (d + 2) 38 (.agg #[.int .i64 x, .int .i64 y, .int .i64 z]) (.agg #[.int .i64 p, .int .i64 q, .int .i64 r])).run Try.prog w = .ok (decide (x = p ∧ y = q ∧ z = r)) w := by
  have hu := Try.underlying38
  have hi : ∀ w, (isAgg 3).run Try.prog w = .ok false w := fun w => by go_simp
  unfold Op.equalIn
  simp [run_underlying hu, range3, part, hi, eq_int, Sem.run_bind]
  by_cases h1 : x = p
  · by_cases h2 : y = q
    · by_cases h3 : z = r
      · simp [h1, h2, h3]
      · simp [h1, h2, h3]
    · simp [h1, h2]
  · simp [h1]
theorem dec5 (a b : St) : decide (a = b) = (decide (a.d = b.d) && (decide (a.e = b.e) && decide (a.x = b.x ∧ a.y = b.y ∧ a.z = b.z))) := by
  rw [Bool.eq_iff_iff]
  simp [St.ext_iff']
theorem run_eq5 (a b : St) (w : World) : (Op.equalIn 10000 40 (.agg #[.int .i64 a.d, .int .i64 a.e, .int .i64 a.x, .int .i64 a.y, .int .i64 a.z]) (.agg #[.int .i64 b.d, .int .i64 b.e, .int .i64 b.x, .int .i64 b.y, .int .i64 b.z])).run Try.prog w = .ok (decide (a = b)) w := by
  have h := run_equalIn_agg (P := Try.prog) w 9999 40 #[.int .i64 a.d, .int .i64 a.e, .int .i64 a.x, .int .i64 a.y, .int .i64 a.z] #[.int .i64 b.d, .int .i64 b.e, .int .i64 b.x, .int .i64 b.y, .int .i64 b.z] (by kernel_rfl) (by kernel_rfl)
  have hf : (Try.prog.fieldsOf 40).toList = (Try.prog.fieldsOf 39).toList := by kernel_rfl
  rw [h, dec5]
  have e1 := fun a b w => eq_int 9998 a b w
  have e3 := fun x y z p q r w => eq3 9997 x y z p q r w
  have hi : ∀ w, (isAgg 3).run Try.prog w = .ok false w := fun w => by go_simp
  have hj : ∀ w, (isAgg 38).run Try.prog w = .ok true w := fun w => by go_simp
  have hs : ∀ w, (sizeOf 38).run Try.prog w = .ok 3 w := fun w => by go_simp
  obtain ⟨fs, hfs⟩ : ∃ fs, (Try.prog.fieldsOf 40).toList = fs := ⟨_, rfl⟩
  rw [hfs]
  have hu := Try.underlying40
  simp only [Program.fieldsOf, hu] at hfs
  subst hfs
  simp [Op.eqFields, part, hi, hj, hs, e1, e3, Sem.run_bind, go_sem]
  by_cases h0 : a.d = b.d <;> by_cases h1 : a.e = b.e <;> by_cases h2 : a.x = b.x <;> by_cases h3 : a.y = b.y <;> by_cases h4 : a.z = b.z <;> simp [h0, h1, h2, h3, h4]
section
variable {P : Program} {C : World → Prop} {K : Act → Prop} {a : Act} {o : Oper} {ops : Array Oper}
theorem q_bin {v p q : Value} (op : BinOp) (t u : TypeId) (x y : Operand) (ho : o.op = .binOp op t x y u) (hw : Region.wanted o (yielded ops a.tmps) = true) (hx : a.eval x = p) (hy : a.eval y = q)
    (hr : ∀ w', (do eqGuard op t x y p q; binOp op t p q : Sem Value).run P w' = .ok v w') (hk : K (a.put o.dst v)) :
    if Region.wanted o (yielded ops a.tmps) then o.quiet P a C K else K (a.put o.dst undef) := by
  rw [if_pos hw]
  refine ⟨v, fun w' hw' => ?_, hk⟩
  unfold Oper.quietAt execOp
  simp only [ho, hx, hy]
  rw [Sem.run_bind, hr w']
  simp only [Result.andThen_ok, Sem.run_pure, Oper.quietUpon]
  exact ⟨trivial, trivial⟩
end
def eqL (a b c p q r : Int) : Bool := decide (a = p ∧ b = q ∧ c = r)
/-- two times compared: one bool -/
def eqB (a b : St) : Bool := decide (a = b)
theorem eq_t (x y : Operand) (a b : St) : ∀ w, (do eqGuard .eql 40 x y (.agg #[.int .i64 a.d, .int .i64 a.e, .int .i64 a.x, .int .i64 a.y, .int .i64 a.z]) (.agg #[.int .i64 b.d, .int .i64 b.e, .int .i64 b.x, .int .i64 b.y, .int .i64 b.z]); binOp .eql 40 (.agg #[.int .i64 a.d, .int .i64 a.e, .int .i64 a.x, .int .i64 a.y, .int .i64 a.z]) (.agg #[.int .i64 b.d, .int .i64 b.e, .int .i64 b.x, .int .i64 b.y, .int .i64 b.z]) : Sem Value).run Try.prog w = .ok (.bool (eqB a b)) w := by
  intro w
  rw [Sem.run_bind, run_eqGuard_agg w _ _ _ _ _ _ (by kernel_rfl), Result.andThen_ok, run_eql_struct, run_eq5]
  rfl
theorem ne_t (x y : Operand) (a b : St) : ∀ w, (do eqGuard .neq 40 x y (.agg #[.int .i64 a.d, .int .i64 a.e, .int .i64 a.x, .int .i64 a.y, .int .i64 a.z]) (.agg #[.int .i64 b.d, .int .i64 b.e, .int .i64 b.x, .int .i64 b.y, .int .i64 b.z]); binOp .neq 40 (.agg #[.int .i64 a.d, .int .i64 a.e, .int .i64 a.x, .int .i64 a.y, .int .i64 a.z]) (.agg #[.int .i64 b.d, .int .i64 b.e, .int .i64 b.x, .int .i64 b.y, .int .i64 b.z]) : Sem Value).run Try.prog w = .ok (.bool (!eqB a b)) w := by
  intro w
  rw [Sem.run_bind, run_eqGuard_agg w _ _ _ _ _ _ (by kernel_rfl), Result.andThen_ok, run_neq_struct, run_eq5]
  rfl
theorem eq_l (x y : Operand) (a b c p q r : Int) : ∀ w, (do eqGuard .eql 38 x y (.agg #[.int .i64 a, .int .i64 b, .int .i64 c]) (.agg #[.int .i64 p, .int .i64 q, .int .i64 r]); binOp .eql 38 (.agg #[.int .i64 a, .int .i64 b, .int .i64 c]) (.agg #[.int .i64 p, .int .i64 q, .int .i64 r]) : Sem Value).run Try.prog w = .ok (.bool (eqL a b c p q r)) w := by
  intro w
  rw [Sem.run_bind, run_eqGuard_agg w _ _ _ _ _ _ (by kernel_rfl), Result.andThen_ok, run_eql_struct, eq3 9998]
  rfl
end

section
open Go.ChangeShapes Go.WideShapes Go.ChangeAt Go.RowKit Go.BigFrame
set_option maxRecDepth 100000
/-- of two numbers the greater, or the less -/
def pk (g : Bool) (m n : Int) : Int := if g then max m n else min m n
def St.pick (g : Bool) (a b : St) : St := if a.B b then ⟨a.d, pk g a.e b.e, pk g a.x b.x, pk g a.y b.y, pk g a.z b.z⟩ else St.zero
theorem pick_join (a b : St) : St.pick true a b = a.join b := by unfold St.pick St.join pk; rfl
theorem pick_meet (a b : St) : St.pick false a b = a.meet b := by unfold St.pick St.meet pk; rfl
section
variable {W : World} {g : Nat} {t : St}
theorem Holds.set (h : Holds W g t) (j : Nat) (v : Int) {t' : St} (ht : t.cells.set j (.int .i64 v) = t'.cells) : Holds (W.setCell ⟨g, j, none⟩ (.int .i64 v)) g t' := by
  have := Row.put h j (.int .i64 v)
  rw [ht] at this; exact this
theorem Holds.far {p : Addr} (h : Holds W g t) (hp : g ≠ p.block) (u : Value) : Holds (W.setCell p u) g t := Row.far h hp u
theorem Holds.all (h : Holds W g t) (a b c d e : Int) : Holds (((((W.setCell ⟨g, 0, none⟩ (.int .i64 a)).setCell ⟨g, 1, none⟩ (.int .i64 b)).setCell ⟨g, 2, none⟩ (.int .i64 c)).setCell ⟨g, 3, none⟩ (.int .i64 d)).setCell ⟨g, 4, none⟩ (.int .i64 e)) g ⟨a, b, c, d, e⟩ :=
  ((((Row.put h 0 (.int .i64 a)).put 1 (.int .i64 b)).put 2 (.int .i64 c)).put 3 (.int .i64 d)).put 4 (.int .i64 e)
theorem Holds.cells5 (h : Holds W g t) : W.cell? ⟨g, 0, none⟩ = some (.int .i64 t.d) ∧ W.cell? ⟨g, 1, none⟩ = some (.int .i64 t.e) ∧ W.cell? ⟨g, 2, none⟩ = some (.int .i64 t.x) ∧ W.cell? ⟨g, 3, none⟩ = some (.int .i64 t.y) ∧ W.cell? ⟨g, 4, none⟩ = some (.int .i64 t.z) :=
  ⟨h.at_ 0, h.at_ 1, h.at_ 2, h.at_ 3, h.at_ 4⟩
theorem Holds.free5 (h : Holds W g t) : W.frozen? ⟨g, 0, none⟩ = false ∧ W.frozen? ⟨g, 1, none⟩ = false ∧ W.frozen? ⟨g, 2, none⟩ = false ∧ W.frozen? ⟨g, 3, none⟩ = false ∧ W.frozen? ⟨g, 4, none⟩ = false :=
  ⟨Row.free h 0, Row.free h 1, Row.free h 2, Row.free h 3, Row.free h 4⟩
end
theorem pk_new {g : Bool} {m n : Int} (h : (decide (m < n) == g) = true) : pk g m n = n := by
  unfold pk
  cases g
  · simp at h; simp; omega
  · simp at h; simp; omega
theorem pk_old {g : Bool} {m n : Int} (h : (decide (m < n) == g) = false) : pk g m n = m := by
  unfold pk
  cases g
  · simp at h; simp; omega
  · simp at h; simp; omega
theorem right_is {f : FuncId} {t : St} {b : Bool} (hb : decide t.R = b) (h : ∀ w, Calls Try.prog f #[t.val] w fun e w' => e = .returned (.bool (decide t.R)) ∧ Below w.heap.size w w') : ∀ w, Calls Try.prog f #[t.val] w fun e w' => e = .returned (.bool b) ∧ Below w.heap.size w w' := by
  subst hb; exact h
theorem zero_made (w : World) : Holds (w.alloc (.cells #[.int .i64 0, .int .i64 0, .int .i64 0, .int .i64 0, .int .i64 0] 40)) w.heap.size St.zero := Holds.made w St.zero
theorem two_results {P : Program} {fn : Func} {p q : Tmp} {ty : TypeId} {v : Value} (h : fn.results = #[.cell p ty, .tmp q]) (tmps : Array Value) (w : World) (g : Nat) (t : TypeId) (cs : Array Value) (fr : Nat × Nat) (d : TypeDesc)
    (hp : tmps.getD p undef = .pointer (some ⟨g, 0, none⟩)) (hg : w.heap[g]? = some (.cells cs t fr))
    (hu : P.underlying ty = some d) (hd : (match d with | .struct _ | .array _ _ => true | _ => false) = true) (hi : (P.info? ty).map (·.size) = some cs.size) (hq : tmps.getD q undef = v) :
    (results fn tmps).run P w = .ok (.tuple #[.agg cs, v]) w := by
  have hp' : tmps[p]?.getD undef = .pointer (some ⟨g, 0, none⟩) := by simpa using hp
  have hq' : tmps[q]?.getD undef = v := by simpa using hq
  simp [results, h, hp', hq', asAddr, run_loadVar_row w g t ty cs fr d hg hu hd hi]
theorem below3 {w w' : World} {a b c : Obj} (h : Below (((w.alloc a).alloc b).alloc c).heap.size (((w.alloc a).alloc b).alloc c) w') : Below w.heap.size w w' :=
  ((((Below.refl _ _).alloc (Nat.le_refl _) _).alloc (by simp) _).alloc (by simp; omega) _).trans (h.mono (by simp; omega))
theorem below_set5 {w w' : World} {g : Nat} {p q r s t : Value} (h : Below w.heap.size w w') (hg : w.heap.size ≤ g) :
    Below w.heap.size w (((((w'.setCell ⟨g, 0, none⟩ p).setCell ⟨g, 1, none⟩ q).setCell ⟨g, 2, none⟩ r).setCell ⟨g, 3, none⟩ s).setCell ⟨g, 4, none⟩ t) :=
  ((((h.setCell hg _).setCell hg _).setCell hg _).setCell hg _).setCell hg _
end

section
open Go.ChangeShapes Go.WideShapes Go.ChangeAt Go.RowKit Go.BigFrame
set_option maxRecDepth 100000
/-- the time so far -/
def St.sofar (g : Bool) (a b : St) (k : Nat) : St := ⟨a.d, pk g a.e b.e, if 0 < k then pk g a.x b.x else a.x, if 1 < k then pk g a.y b.y else a.y, if 2 < k then pk g a.z b.z else a.z⟩
theorem sofar_3 (g : Bool) (a b : St) (h : a.B b) : St.sofar g a b 3 = St.pick g a b := by unfold St.pick; rw [if_pos h]; rfl
theorem same_holds {w : World} {g : Nat} {t t' : St} (h : Holds w g t) (e : t = t') : Holds w g t' := e ▸ h
end

section
open Go.ChangeShapes Go.WideShapes Go.ChangeAt Go.RowKit Go.BigFrame
set_option maxRecDepth 100000
def nr (x : Int) : Int := if 15 < if x < 0 then 0 else x then 15 else if x < 0 then 0 else x
theorem nr_eq {x : Int} : nr x = x ↔ 0 ≤ x ∧ x < 16 := by
  unfold nr
  by_cases h : x < 0
  · simp only [if_pos h]; rw [if_neg (by omega)]; omega
  · simp only [if_neg h]
    by_cases h2 : 15 < x
    · rw [if_pos h2]; omega
    · rw [if_neg h2]; omega
def nk (k j : Nat) (x : Int) : Int := if j < k then nr x else 0
theorem row_set3 {w : World} {b : Nat} {t : TypeId} {p q r p' q' r' : Value} (h : Row w b t [p, q, r]) : Row (((w.setCell ⟨b, 0, none⟩ p').setCell ⟨b, 1, none⟩ q').setCell ⟨b, 2, none⟩ r') b t [p', q', r'] :=
  ((h.put 0 p').put 1 q').put 2 r'
set_option maxHeartbeats 1000000 in
theorem nearest_any (d e x y z : Int) (n : Nat) (w : World) (hd : d = n) (h3 : n ≤ 3) :
    Calls Try.prog 48 #[.agg #[.int .i64 d, .int .i64 e, .int .i64 x, .int .i64 y, .int .i64 z]] w fun e w' => e = .returned (.agg #[.int .i64 (nk n 0 x), .int .i64 (nk n 1 y), .int .i64 (nk n 2 z)]) ∧ Below w.heap.size w w' := by
  subst hd
  go_enter Try.func48, Try.ntmps48
  go_wp2_with fail
  go_loopw [7] (fun i wr => ∃ (k : Nat), k ≤ n ∧ i = .int .i64 k ∧ Row wr w.heap.size 40 [.int .i64 n, .int .i64 e, .int .i64 x, .int .i64 y, .int .i64 z] ∧ Row wr (w.heap.size + 1) 38 [.int .i64 0, .int .i64 0, .int .i64 0] ∧ Row wr (w.heap.size + 2) 38 [.int .i64 (nk k 0 x), .int .i64 (nk k 1 y), .int .i64 (nk k 2 z)] ∧ Below w.heap.size w wr) (fun i _ => n - (intOf i).toNat)
  case atStart =>
    refine ⟨0, by omega, rfl, ((Row.made w 40 [.int .i64 (n : Int), .int .i64 e, .int .i64 x, .int .i64 y, .int .i64 z]).alloc _).alloc _, ?_, ?_, ?_⟩
    · have := (Row.made (w.alloc (.cells #[.int .i64 (n : Int), .int .i64 e, .int .i64 x, .int .i64 y, .int .i64 z] 40)) 38 [.int .i64 0, .int .i64 0, .int .i64 0]).alloc (.cells #[.int .i64 0, .int .i64 0, .int .i64 0] 38)
      rwa [size_alloc] at this
    · have := Row.made ((w.alloc (.cells #[.int .i64 (n : Int), .int .i64 e, .int .i64 x, .int .i64 y, .int .i64 z] 40)).alloc (.cells #[.int .i64 0, .int .i64 0, .int .i64 0] 38)) 38 [.int .i64 0, .int .i64 0, .int .i64 0]
      rwa [size_alloc, size_alloc] at this
    · exact (((Below.refl _ _).alloc (Nat.le_refl _) _).alloc (by simp) _).alloc (by simp; omega) _
  case round =>
    obtain ⟨k, hk, rfl, hra, hrr, hrb, hbw⟩ := hrel
    by_cases hlt : k < n
    · have a2 := hra.cell 2; have a3 := hra.cell 3; have a4 := hra.cell 4
      have b0 := hrb.cell 0; have b1 := hrb.cell 1; have b2 := hrb.cell 2
      have f0 := hrb.free 0; have f1 := hrb.free 1; have f2 := hrb.free 2
      simp only [List.getElem?_cons_succ, List.getElem?_cons_zero] at a2 a3 a4 b0 b1 b2
      have HRA := Lib.hid hra; have HRR := Lib.hid hrr; have HRB := Lib.hid hrb; have HBW := Lib.hid hbw; clear hra hrr hrb hbw
      have hcase : k = 0 ∨ k = 1 ∨ k = 2 := by omega
      rcases hcase with rfl | rfl | rfl
      · go_wp2_with fail
        go_roundw
        case rel => exact ⟨1, by omega, rfl, HRA.out.far (by simp; omega) _, HRR.out.far (by simp) _, HRB.out.put 0 _, HBW.out.setCell (by simp; omega) _⟩
        case measure => simp [intOf]; omega
      · go_wp2_with fail
        go_roundw
        case rel => exact ⟨2, by omega, rfl, HRA.out.far (by simp; omega) _, HRR.out.far (by simp) _, HRB.out.put 1 _, HBW.out.setCell (by simp; omega) _⟩
        case measure => simp [intOf]; omega
      · go_wp2_with fail
        go_roundw
        case rel => exact ⟨3, by omega, rfl, HRA.out.far (by simp; omega) _, HRR.out.far (by simp) _, HRB.out.put 2 _, HBW.out.setCell (by simp; omega) _⟩
        case measure => simp [intOf]; omega
    · have hkn : k = n := by omega
      subst hkn
      have b0 := hrb.cell 0; have b1 := hrb.cell 1; have b2 := hrb.cell 2
      have r0 := hrr.cell 0; have r1 := hrr.cell 1; have r2 := hrr.cell 2
      have f0 := hrr.free 0; have f1 := hrr.free 1; have f2 := hrr.free 2
      simp only [List.getElem?_cons_succ, List.getElem?_cons_zero] at b0 b1 b2 r0 r1 r2
      have HRR := Lib.hid hrr; have HRB := Lib.hid hrb; have HBW := Lib.hid hbw; clear hra hrr hrb hbw
      obtain ⟨p, hp⟩ : ∃ p, p = nk k 0 x := ⟨_, rfl⟩
      obtain ⟨q, hq⟩ : ∃ q, q = nk k 1 y := ⟨_, rfl⟩
      obtain ⟨r, hr⟩ : ∃ r, r = nk k 2 z := ⟨_, rfl⟩
      rw [← hp] at b0; rw [← hq] at b1; rw [← hr] at b2
      have HP := Lib.hid hp; have HQ := Lib.hid hq; have HR := Lib.hid hr; clear hp hq hr
      go_wp2_with fail
      refine bodyPost_ret (results_cell_row rfl _ _ (w.heap.size + 1) 38 _ (0, 0) _ rfl (row_set3 HRR.out) Try.underlying38 rfl (by kernel_rfl)) rfl ?_
      exact ⟨by rw [HP.out, HQ.out, HR.out], ((HBW.out.setCell (by simp) _).setCell (by simp) _).setCell (by simp) _⟩
end

section
open Go.ChangeShapes Go.WideShapes Go.ChangeAt Go.RowKit Go.BigFrame
set_option maxRecDepth 100000
theorem R_near (t : St) (n : Nat) (hd : t.d = n) (h3 : n ≤ 3) (h0 : 0 ≤ t.e) (h1 : t.e < 1000) : (t.x = nk n 0 t.x ∧ t.y = nk n 1 t.y ∧ t.z = nk n 2 t.z) ↔ t.R := by
  have k : ∀ (j : Nat) (v : Int), v = nk n j v ↔ (0 ≤ v ∧ v < 16 ∧ (t.d ≤ j → v = 0)) := by
    intro j v
    unfold nk
    by_cases h : j < n
    · rw [if_pos h, eq_comm, nr_eq]; omega
    · rw [if_neg h]; omega
  rw [k 0, k 1, k 2]
  unfold St.R
  omega
/-- three numbers against three others, in the walk's own spelling -/
def same3 (x y z a b c : Int) : Bool := decide (x = a ∧ y = b ∧ z = c)
set_option maxHeartbeats 1000000 in
theorem right_any (t : St) (w : World) : Calls Try.prog 26 #[t.val] w fun e w' => e = .returned (.bool (decide t.R)) ∧ Below w.heap.size w w' := by
  by_cases hd : t.d < 0 ∨ 3 < t.d ∨ t.e < 0 ∨ 1000 ≤ t.e
  · have hf : decide t.R = false := by rw [decide_eq_false_iff_not]; unfold St.R; omega
    rw [hf]; clear hf
    obtain ⟨d, e, x, y, z⟩ := t
    unfold St.val
    simp only at hd ⊢
    have hcase : d < 0 ∨ (0 ≤ d ∧ 3 < d) ∨ (0 ≤ d ∧ d ≤ 3 ∧ e < 0) ∨ (0 ≤ d ∧ d ≤ 3 ∧ 0 ≤ e ∧ 1000 ≤ e) := by omega
    clear hd
    rcases hcase with h | ⟨h, h2⟩ | ⟨h, h2, h3⟩ | ⟨h, h2, h3, h4⟩
    · have t1 : decide (0 ≤ d) = false := by simp; omega
      have t1' : decide (d ≥ 0) = false := by simp; omega
      go_enter Try.func26, Try.ntmps26
      go_wp2_with fail
      go_quiet (fail)
      go_wp2_with fail
      go_ret
      exact ⟨rfl, below_drewN ((Below.refl _ _).alloc (Nat.le_refl _) _) _⟩
    · have t1 : decide (d ≤ 3) = false := by simp; omega
      go_enter Try.func26, Try.ntmps26
      go_wp2_with fail
      go_quiet (fail)
      go_wp2_with fail
      go_ret
      exact ⟨rfl, below_drewN ((Below.refl _ _).alloc (Nat.le_refl _) _) _⟩
    · have t1 : decide (0 ≤ e) = false := by simp; omega
      have t1' : decide (e ≥ 0) = false := by simp; omega
      go_enter Try.func26, Try.ntmps26
      go_wp2_with fail
      go_quiet (fail)
      go_wp2_with fail
      go_ret
      exact ⟨rfl, below_drewN ((Below.refl _ _).alloc (Nat.le_refl _) _) _⟩
    · have t1 : decide (e < 1000) = false := by simp; omega
      go_enter Try.func26, Try.ntmps26
      go_wp2_with fail
      go_quiet (fail)
      go_wp2_with fail
      go_ret
      exact ⟨rfl, below_drewN ((Below.refl _ _).alloc (Nat.le_refl _) _) _⟩
  · obtain ⟨n, hn⟩ : ∃ n : Nat, t.d = n := ⟨t.d.toNat, by omega⟩
    have hr := R_near t n hn (by omega) (by omega) (by omega)
    have hcall := fun w => nearest_any t.d t.e t.x t.y t.z n w hn (by omega)
    have hdec : decide t.R = decide (t.x = nk n 0 t.x ∧ t.y = nk n 1 t.y ∧ t.z = nk n 2 t.z) := by rw [decide_eq_decide]; exact hr.symm
    rw [hdec, show decide (t.x = nk n 0 t.x ∧ t.y = nk n 1 t.y ∧ t.z = nk n 2 t.z) = eqL t.x t.y t.z (nk n 0 t.x) (nk n 1 t.y) (nk n 2 t.z) from rfl]; clear hdec hr
    obtain ⟨d, e, x, y, z⟩ := t
    unfold St.val
    simp only at hd hn hcall ⊢
    have g0 : 0 ≤ d := by omega
    have g1 : d ≤ 3 := by omega
    have g2 : 0 ≤ e := by omega
    have g3 : e < 1000 := by omega
    clear hd hn
    generalize nk n 0 x = p at *
    generalize nk n 1 y = q at *
    generalize nk n 2 z = r at *
    have HC := Lib.hid hcall; clear hcall
    go_enter Try.func26, Try.ntmps26
    go_wp2_with fail
    have hT : Holds (w.alloc (.cells #[.int .i64 d, .int .i64 e, .int .i64 x, .int .i64 y, .int .i64 z] 40)) w.heap.size ⟨d, e, x, y, z⟩ := Holds.made w ⟨d, e, x, y, z⟩
    have HT := Lib.hid hT; clear hT
    refine wp_region_below (by kernel_rfl) (by kernel_rfl) ?_
    repeat (refine wpQuiet_step (fun K hK => ?_); (first
      | ((first
        | (refine q_load (p := .pointer (some ⟨w.heap.size, 0, none⟩)) 40 _ rfl rfl rfl (load_t HT.out) ?_)
        | (refine q_load (p := .pointer (some ⟨w.heap.size, 2, none⟩)) 38 _ rfl rfl rfl (load_l HT.out) ?_)
        | (refine q_load (p := .pointer (some ⟨w.heap.size, 0, none⟩)) 3 _ rfl rfl rfl (load_d HT.out) ?_)
        | (refine q_load (p := .pointer (some ⟨w.heap.size, 1, none⟩)) 3 _ rfl rfl rfl (load_e HT.out) ?_)
        | (refine q_load (p := .pointer (some ⟨w.heap.size, 2, none⟩)) 3 _ rfl rfl rfl (load_x HT.out) ?_)
        | (refine q_load (p := .pointer (some ⟨w.heap.size, 3, none⟩)) 3 _ rfl rfl rfl (load_y HT.out) ?_)
        | (refine q_load (p := .pointer (some ⟨w.heap.size, 4, none⟩)) 3 _ rfl rfl rfl (load_z HT.out) ?_)
        | (refine q_bin _ _ _ _ _ rfl rfl rfl rfl (eq_l _ _ _ _ _ _ _ _) ?_)); go_simp; (with_reducible refine hK _ ?_))
      | (go_simp; (first
        | (with_reducible refine hK _ ?_)
        | (with_reducible refine ⟨_, fun _ _ => rfl, hK _ ?_⟩)
        | (with_reducible refine ⟨_, fun _ hb => (HC.out _).mono fun _ _ h => ⟨h.1, hb.trans (h.2.mono (by simpa using hb.size))⟩, hK _ ?_⟩)))); clear hK K)
    refine wpQuiet_nil ?_
    intro w2 hb2
    go_wp2_with fail
    go_ret
    exact ⟨rfl, ((Below.refl _ _).alloc (Nat.le_refl _) _).trans (hb2.mono (by simp))⟩
end

section
open Go.ChangeShapes Go.WideShapes Go.ChangeAt Go.RowKit Go.BigFrame
set_option maxRecDepth 100000
theorem greater_any (m n : Int) (w : World) : Calls Try.prog 75 #[.int .i64 m, .int .i64 n] w fun e w' => e = .returned (.int .i64 (pk true m n)) ∧ w' = w := by
  by_cases h : m < n
  · have h2 : pk true m n = n := by unfold pk; simp; omega
    rw [h2]; clear h2
    go_enter Try.func75, Try.ntmps75
    go_wp2_with fail
    go_ret
    exact ⟨rfl, rfl⟩
  · have h2 : pk true m n = m := by unfold pk; simp; omega
    rw [h2]; clear h2
    go_enter Try.func75, Try.ntmps75
    go_wp2_with fail
    go_ret
    exact ⟨rfl, rfl⟩
set_option maxHeartbeats 1000000 in
theorem both_no_greater (a b : St) (w : World) (h : ¬ a.B b) :
    Calls Try.prog 74 #[a.val, b.val, .func (.func 75) #[] #[]] w fun e w' => e = .returned (.tuple #[St.zero.val, .bool false]) ∧ Below w.heap.size w w' := by
  unfold St.B at h
  by_cases ha : a.R
  · by_cases hb : b.R
    · have hd : ¬ a.d = b.d := fun e => h ⟨ha, hb, e⟩
      have HA := Lib.hid (right_is (decide_eq_true ha) (right_any a)); have HB := Lib.hid (right_is (decide_eq_true hb) (right_any b)); clear ha hb h
      obtain ⟨d, e, x, y, z⟩ := a
      obtain ⟨d', e', x', y', z'⟩ := b
      unfold St.val at *
      simp only at hd HA HB ⊢
      have hd' : (d != d') = true := by simpa using hd
      clear hd
      have hz := zero_made ((w.alloc (.cells #[.int .i64 d, .int .i64 e, .int .i64 x, .int .i64 y, .int .i64 z] 40)).alloc (.cells #[.int .i64 d', .int .i64 e', .int .i64 x', .int .i64 y', .int .i64 z'] 40))
      rw [size_alloc, size_alloc] at hz
      have HZ := Lib.hid hz; clear hz
      go_enter Try.func74, Try.ntmps74
      go_wp2_with fail
      refine (HA.out _).mono ?_; rintro e w1 ⟨rfl, hb1⟩
      obtain ⟨hc1, hf1⟩ := old_cells hb1
      have HB1 := Lib.hid hb1; clear hb1
      go_wp2_with fail
      refine (HB.out _).mono ?_; rintro e w2 ⟨rfl, hb2⟩
      have hb12 := HB1.out.trans (hb2.mono HB1.out.size)
      clear hc1 hf1
      obtain ⟨hc1, hf1⟩ := old_cells hb12
      have HB12 := Lib.hid hb12; clear hb12 hb2
      go_wp2_with fail
      refine bodyPost_ret (v := .tuple #[.agg #[.int .i64 0, .int .i64 0, .int .i64 0, .int .i64 0, .int .i64 0], .bool false]) (two_results rfl _ _ _ 40 _ (0, 0) _ rfl (Holds.all (HZ.out.below HB12.out) 0 0 0 0 0) Try.underlying40 rfl (by kernel_rfl) rfl) rfl ?_
      exact ⟨rfl, below_set5 (g := w.heap.size + 1 + 1) (below3 HB12.out) (by omega)⟩
    · have HA := Lib.hid (right_is (decide_eq_true ha) (right_any a)); have HB := Lib.hid (right_is (decide_eq_false hb) (right_any b)); clear ha hb h
      obtain ⟨d, e, x, y, z⟩ := a
      obtain ⟨d', e', x', y', z'⟩ := b
      unfold St.val at *
      simp only at HA HB ⊢
      have hz := zero_made ((w.alloc (.cells #[.int .i64 d, .int .i64 e, .int .i64 x, .int .i64 y, .int .i64 z] 40)).alloc (.cells #[.int .i64 d', .int .i64 e', .int .i64 x', .int .i64 y', .int .i64 z'] 40))
      rw [size_alloc, size_alloc] at hz
      have HZ := Lib.hid hz; clear hz
      go_enter Try.func74, Try.ntmps74
      go_wp2_with fail
      refine (HA.out _).mono ?_; rintro e w1 ⟨rfl, hb1⟩
      obtain ⟨hc1, hf1⟩ := old_cells hb1
      have HB1 := Lib.hid hb1; clear hb1
      go_wp2_with fail
      refine (HB.out _).mono ?_; rintro e w2 ⟨rfl, hb2⟩
      have hb12 := HB1.out.trans (hb2.mono HB1.out.size)
      clear hc1 hf1
      obtain ⟨hc1, hf1⟩ := old_cells hb12
      have HB12 := Lib.hid hb12; clear hb12 hb2
      go_wp2_with fail
      refine bodyPost_ret (v := .tuple #[.agg #[.int .i64 0, .int .i64 0, .int .i64 0, .int .i64 0, .int .i64 0], .bool false]) (two_results rfl _ _ _ 40 _ (0, 0) _ rfl (Holds.all (HZ.out.below HB12.out) 0 0 0 0 0) Try.underlying40 rfl (by kernel_rfl) rfl) rfl ?_
      exact ⟨rfl, below_set5 (g := w.heap.size + 1 + 1) (below3 HB12.out) (by omega)⟩
  · have HA := Lib.hid (right_is (decide_eq_false ha) (right_any a)); clear ha h
    obtain ⟨d, e, x, y, z⟩ := a
    obtain ⟨d', e', x', y', z'⟩ := b
    unfold St.val at *
    simp only at HA ⊢
    have hz := zero_made ((w.alloc (.cells #[.int .i64 d, .int .i64 e, .int .i64 x, .int .i64 y, .int .i64 z] 40)).alloc (.cells #[.int .i64 d', .int .i64 e', .int .i64 x', .int .i64 y', .int .i64 z'] 40))
    rw [size_alloc, size_alloc] at hz
    have HZ := Lib.hid hz; clear hz
    go_enter Try.func74, Try.ntmps74
    go_wp2_with fail
    refine (HA.out _).mono ?_; rintro e w1 ⟨rfl, hb1⟩
    obtain ⟨hc1, hf1⟩ := old_cells hb1
    have HB1 := Lib.hid hb1; clear hb1
    go_wp2_with fail
    refine bodyPost_ret (v := .tuple #[.agg #[.int .i64 0, .int .i64 0, .int .i64 0, .int .i64 0, .int .i64 0], .bool false]) (two_results rfl _ _ _ 40 _ (0, 0) _ rfl (Holds.all (HZ.out.below HB1.out) 0 0 0 0 0) Try.underlying40 rfl (by kernel_rfl) rfl) rfl ?_
    exact ⟨rfl, below_set5 (g := w.heap.size + 1 + 1) (below3 HB1.out) (by omega)⟩
end

section
open Go.ChangeShapes Go.WideShapes Go.ChangeAt Go.RowKit Go.BigFrame
set_option maxRecDepth 100000
theorem stCells_int : Try.prog.cellsOf 3 = 1 := by kernel_rfl
theorem cells_arr : Try.prog.cellsOf 38 = 3 := by kernel_rfl
theorem cells_stamp : Try.prog.cellsOf 40 = 5 := by kernel_rfl
theorem open_stamp {H : Type} {enc : TypeId × Value → H} {W : World} {base : Nat} {v : Value} {d : DataW H} {p : List MemPlace}
    (hok : Value.okWide Try.prog W .any base 40 v) (h : DataW.Trod enc Try.prog W 0 (fun _ => true) true 40 v d p) : ∃ t : St, v = t.val := by
  obtain ⟨cs, rfl, hsz⟩ := okWide_struct Try.underlying40 hok
  obtain ⟨l⟩ := cs
  match l, hsz.trans cells_stamp with
  | [c0, c1, c2, c3, c4], _ =>
    obtain ⟨fuel, hf⟩ := h
    obtain ⟨xs, n, _, hx, _, hlen, hg⟩ := DataW.trod_struct Try.underlying40 hf
    match xs, hlen with
    | [y0, y1, y2], _ =>
      have h0 : DataW.trod enc Try.prog W 0 (fun _ => true) true n 3 [c0] = some y0 := hg 0 _ rfl
      have h1 : DataW.trod enc Try.prog W 0 (fun _ => true) true n 3 [c1] = some y1 := hg 1 _ rfl
      have h2 : DataW.trod enc Try.prog W 0 (fun _ => true) true n 38 [c2, c3, c4] = some y2 := hg 2 _ rfl
      obtain ⟨z0, z1, z2, m, -, k0, k1, k2⟩ := trod_array3 Try.underlying38 stCells_int h2
      obtain ⟨n0, e0, -, -⟩ := DataW.trod_int Try.underlying3 h0
      obtain ⟨n1, e1, -, -⟩ := DataW.trod_int Try.underlying3 h1
      obtain ⟨n2, e2, -, -⟩ := DataW.trod_int Try.underlying3 k0
      obtain ⟨n3, e3, -, -⟩ := DataW.trod_int Try.underlying3 k1
      obtain ⟨n4, e4, -, -⟩ := DataW.trod_int Try.underlying3 k2
      cases e0; cases e1; cases e2; cases e3; cases e4
      exact ⟨⟨n0, n1, n2, n3, n4⟩, rfl⟩
end
end Go.Proofs.Ytcjdjdhjbchaaaa
