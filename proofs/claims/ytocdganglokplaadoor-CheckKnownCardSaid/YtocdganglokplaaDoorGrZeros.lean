/- make of nodes, guarded or not; append of a row of noughts. -/
import Derived.Test.YtocdganglokplaaDoorGrBA
import Derived.Test.YtocdganglokplaaDoorGrKits
import Derived.Laws.Append
import Derived.Laws.OwnMore
namespace Go.Proofs.YtocdganglokplaaDoor
open Go.ChangeShapes Go.WideShapes Go.ChangeAt Go.RowKit Go.BigFrame
set_option linter.unusedVariables false
set_option maxRecDepth 100000
section
variable {P : Program} (w : World)
/-- append of a row of noughts ('append(s, make([]T, n)...)') that grows -/
theorem run_append_zeros (t u ty e : TypeId) (k : IntKind) (i : TypeInfo) (z : Value) (ht : P.underlying t = some (.slice e)) (hu : P.underlying u = some (.int k)) (hi : P.info? e = some i) (hz : i.zero = some z)
    (b : Addr) (sLen sCap : Nat) (olds : List Value) (hlo : olds.length = sLen * i.size) (holds : ∀ j v, olds[j]? = some v → w.cell? (b.add j) = some v)
    (n : Nat) (h0 : ¬ n * i.size = 0) (hn64 : IntKind.i64.wrap (n : Int) = (n : Int)) (hby : ¬ 281474976710656 < (n : Int) * (i.bytes : Int))
    (hg : sCap < sLen + n) (h63 : ((sLen + n : Nat) : Int) ≤ 9223372036854775807) (hfit : Builtin.nextslicecap (sLen + n) sCap * i.bytes ≤ 281474976710656) :
    (Builtin.append_ #[t, u] ty #[.slice (some b) sLen sCap, .int .i64 (n : Int)]).run P w =
      .ok (.slice (some ⟨w.heap.size, 0, none⟩) (sLen + n) (grownCap w (sLen + n) sCap e))
        (w.drew.alloc (.cells (olds.toArray ++ Builtin.zeroCells z.cells n ++ Builtin.zeroCells z.cells (grownCap w (sLen + n) sCap e - (sLen + n))) e)) := by
  have hn : ¬ (sLen + n ≤ sCap) := by omega
  have h63' : ¬ (9223372036854775807 < ((sLen : Int) + (n : Int))) := by omega
  have h48' : ¬ (281474976710656 < Builtin.nextslicecap (sLen + n) sCap * i.bytes) := by omega
  have hneg : ¬ ((n : Int) < 0) := by omega
  have h0' : ¬ (n = 0 ∨ i.size = 0) := fun h => h0 (by rcases h with h | h <;> simp [h])
  have hfo := run_firstCells_some (P := P) w.drew i.size sLen b sLen sCap olds hlo (by simpa using holds)
  simp [Builtin.append_, run_underlying ht, run_underlying hu, sizeOf, typeInfo, zeroValue, hi, hz, asInt, asIntOf, hn64, hneg, hby, h0', hn, h63', h48', Question.forced, hfo, newRow, grownCap]
  intro h; exact absurd h h0
end
theorem wpList_append_zeros {P : Program} {ops : Array Oper} {rest : List Oper} {o : Oper} {a : Act} {w w' : World} {Q : Exit → Act → World → Prop} (s x : Operand) (t u : TypeId)
    (ho : o.op = .call { callee := .builtin .append, args := #[s, x], argTypes := #[t, u] }) (hw : Region.wanted o (yielded ops a.tmps) = true) (v y v' : Value) (hs : a.eval s = v) (hx : a.eval x = y) (hr : (Builtin.append_ #[t, u] o.type #[v, y]).run P w = .ok v' w')
    (h : wpList P ops Q rest (a.put o.dst v') w') : wpList P ops Q (o :: rest) a w := by
  unfold wpList
  rw [if_pos hw]
  refine .inl ?_
  unfold Oper.wp
  simp [execOp, ho, resolve, invoke, builtin, hs, hx, hr, Result.andThen]
  exact h
/-- a make whose guard says yes -/
theorem wpList_make_yes {P : Program} {ops : Array Oper} {rest : List Oper} {o : Oper} {a : Act} {w w' : World} {Q : Exit → Act → World → Prop} (l c : Operand) (t : TypeId) (ho : o.op = Op.makeSlice t l c) (hw : Region.wanted o (yielded ops a.tmps) = true)
    (x y v' : Value) (hl : a.eval l = x) (hc : a.eval c = y) (hr : (Instr.makeSlice t x y).run P w = .ok v' w') (h : wpList P ops Q rest (a.put o.dst v') w') : wpList P ops Q (o :: rest) a w := by
  unfold wpList
  rw [if_pos hw]
  refine .inl ?_
  unfold Oper.wp
  simp [execOp, ho, hl, hc, hr, Result.andThen]
  exact h
def zeroN : Gn := ⟨⟨0, 0, 0, 0, []⟩, none, 0⟩
theorem zeros_row32 : (madeCells (Value.agg #[.int .u8 0, .int .u8 0, .int .i64 0, .int .i64 0, .slice none 0 0]).cells (32 * 5)).toList = Rw.row kindG (List.replicate 32 zeroN) := by kernel_rfl
theorem zeros_row33 : (madeCells (Value.agg #[.int .u8 0, .int .u8 0, .int .i64 0, .int .i64 0, .slice none 0 0]).cells (33 * 5)).toList = Rw.row kindG (List.replicate 33 zeroN) := by kernel_rfl
/-- so many noughts of nodes -/
theorem made_zeros (w : World) (n : Nat) (hn : n ≤ 100) (hz : (madeCells (Value.agg #[.int .u8 0, .int .u8 0, .int .i64 0, .int .i64 0, .slice none 0 0]).cells (n * 5)).toList = Rw.row kindG (List.replicate n zeroN)) :
    ∃ w', (Instr.makeSlice 23 (.int .i64 (n : Int)) (.int .i64 (n : Int))).run Tryd.prog w = .ok (.slice (some ⟨w.heap.size, 0, none⟩) n n) w' ∧ Gr w' (some ⟨w.heap.size, 0, none⟩) (List.replicate n zeroN) ∧ Below w.heap.size w w' := by
  obtain ⟨i, hi, hz0, hz1, hz2⟩ := info_parts infoNode
  obtain ⟨w', hr, ho, hg⟩ := run_make_full (P := Tryd.prog) w w.heap.size 23 39 i _ 5 Tryd.underlying23 hi hz0 hz1 .i64 .i64 n (by rw [hz2]; omega) (by unfold maxLen; omega) (Nat.le_refl _)
  rw [hz] at ho
  refine ⟨w', hr, ⟨?_, fun x hx => ?_⟩, (Below.refl _ w).grown hg (Nat.le_refl _) (fun _ e => by cases e)⟩
  · have ho' : w'.ownsRow w.heap.size 39 kindG.K (.slice (some ⟨w.heap.size, 0, none⟩) n n) n (Rw.row kindG (List.replicate n zeroN)) := ho
    obtain ⟨A, c, e, ht, _⟩ := Rw.Ts.of_own ho'
    injection e with e _ _
    subst e
    exact ht
  · obtain rfl : x = zeroN := List.eq_of_mem_replicate hx
    exact ⟨ok_small _ _ _ _ _ _ _ (by decide) (by simp), Rw.Ts.nil⟩
theorem zeroCells_at (n j : Nat) (h : j < n) : (Builtin.zeroCells #[Value.int .u8 0] n)[j]? = some (.int .u8 0) := by
  simp [Builtin.zeroCells, h, Nat.mod_one]
/-- 33, and noughts behind it -/
theorem grown_zeros (w : World) (b : Nat) (hb : w.cell? ⟨b, 0, none⟩ = some (.int .u8 ((33 : Nat) : Nat))) :
    ∃ c w', (Builtin.append_ #[40, 3] 40 #[.slice (some ⟨b, 0, none⟩) 1 1, .int .i64 396]).run Tryd.prog w = .ok (.slice (some ⟨w.heap.size, 0, none⟩) 397 c) w' ∧ Bytes w' (some ⟨w.heap.size, 0, none⟩) (33 :: List.replicate 396 0) ∧ Below w.heap.size w w' ∧ 397 ≤ c ∧ c ≤ maxLen := by
  obtain ⟨i, hi, hz0, hz1, hz2⟩ := info_parts infoU8
  have hr := run_append_zeros (P := Tryd.prog) w 40 3 40 5 .i64 i _ Tryd.underlying40 Tryd.underlying3 hi hz0 ⟨b, 0, none⟩ 1 1 [.int .u8 ((33 : Nat) : Nat)] (by rw [hz1]; rfl) (fun j v hj => by
    rw [add_zero_off]
    have hl := (List.getElem?_eq_some_iff.1 hj).1
    simp only [List.length_singleton] at hl
    have : j = 0 := by omega
    subst this
    rw [hb]; exact hj) 396 (by rw [hz1]; omega) (IntWalk.i64_in _ (by omega)) (by rw [hz2]; omega) (by omega) (by omega) (by rw [hz2]; have := Builtin.nextslicecap; have h := nextslicecap_le (need := 1 + 396) (old := 1) (by omega); omega)
  refine ⟨_, _, hr, ⟨fun x hx => ?_, fun _ => ⟨⟨w.heap.size, 0, none⟩, rfl, by simp, fun j x hj => ?_⟩⟩, ?_, grownCap_ge _ _ _ _, grownCap_le_maxLen _ _ _ _ (by unfold maxLen; omega)⟩
  · rcases List.mem_cons.1 hx with h | h
    · omega
    · have := List.eq_of_mem_replicate h; omega
  · have hlt := (List.getElem?_eq_some_iff.1 hj).1
    simp only [List.length_cons, List.length_replicate] at hlt
    rw [add_zero_off, cell_of_row _ w.heap.size j _ _ (0, 0) (heap_alloc_new w.drew _)]
    have hz : (Value.int .u8 0).cells = #[.int .u8 0] := rfl
    rw [hz]
    cases j with
    | zero =>
      simp only [List.getElem?_cons_zero, Option.some.injEq] at hj
      subst hj
      rw [Array.getElem?_append_left (by simp; omega), Array.getElem?_append_left (by simp)]
      rfl
    | succ j =>
      rw [List.getElem?_cons_succ] at hj
      have hx : x = 0 := List.eq_of_mem_replicate (List.mem_of_getElem? hj)
      subst hx
      have h2 := zeroCells_at 396 j (by omega)
      have hs : (Builtin.zeroCells #[Value.int .u8 0] 396).size = 396 := by rw [size_zeroCells]; rfl
      rw [Array.getElem?_append_left (by simp [hs]; omega), Array.getElem?_append_right (by simp)]
      simpa using h2
  · exact ((Below.refl _ w).drew.alloc (Nat.le_refl _) _)
end Go.Proofs.YtocdganglokplaaDoor
