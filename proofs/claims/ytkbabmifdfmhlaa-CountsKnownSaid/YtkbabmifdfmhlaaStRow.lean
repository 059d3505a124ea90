/- Rows of times: appended to, read. -/
import Derived.Test.YtkbabmifdfmhlaaStFrame
import Derived.Laws.AppendOwnNone
import Derived.OwnWalk
namespace Go.Proofs.Ytkbabmifdfmhlaa
open Go.ChangeShapes Go.WideShapes Go.ChangeAt Go.RowKit Go.BigFrame
set_option linter.unusedVariables false
set_option maxRecDepth 100000
theorem Try.infoStamp : (Try.prog.info? 25).map (fun i => (i.zero, i.size, i.bytes)) = some (some (.agg #[.int .i64 0, .int .i64 0, .int .i64 0, .int .i64 0, .int .i64 0]), 5, 40) := by kernel_rfl
def rowS (ts : List St) : List Value := (ts.map St.cells).flatten
theorem rowS_cons (t : St) (ts : List St) : rowS (t :: ts) = .int .i64 t.d :: .int .i64 t.e :: .int .i64 t.x :: .int .i64 t.y :: .int .i64 t.z :: rowS ts := by simp [rowS, St.cells]
theorem rowS_append (ts us : List St) : rowS (ts ++ us) = rowS ts ++ rowS us := by simp [rowS]
theorem rowS_len (ts : List St) : (rowS ts).length = ts.length * 5 := by
  induction ts with
  | nil => rfl
  | cons t ts ih => rw [rowS_cons]; simp only [List.length_cons, ih]; omega
theorem rowS_at : ∀ (ts : List St) (i : Nat) (t : St), ts[i]? = some t → ∀ (j : Nat) (u : Value), t.cells[j]? = some u → (rowS ts)[i * 5 + j]? = some u
  | x :: ts, 0, t, h, j, u, hu => by
    obtain rfl : x = t := by simpa using h
    rw [rowS_cons, Nat.zero_mul, Nat.zero_add]
    match j, hu with
    | 0, hu => exact hu
    | 1, hu => exact hu
    | 2, hu => exact hu
    | 3, hu => exact hu
    | 4, hu => exact hu
    | j + 5, hu => simp [St.cells] at hu
  | x :: ts, i + 1, t, h, j, u, hu => by
    have := rowS_at ts i t (by simpa using h) j u hu
    rw [rowS_cons, show (i + 1) * 5 + j = i * 5 + j + 1 + 1 + 1 + 1 + 1 by omega]
    simp only [List.getElem?_cons_succ]
    exact this
theorem rowS_one (ts : List St) : ∀ u ∈ rowS ts, u.oneCell' = true := by
  intro u hu
  simp only [rowS, List.mem_flatten, List.mem_map] at hu
  obtain ⟨l, ⟨t, _, rfl⟩, hu⟩ := hu
  simp only [St.cells, List.mem_cons, List.not_mem_nil, or_false] at hu
  rcases hu with rfl | rfl | rfl | rfl | rfl <;> rfl
/-- the slice at A holds the times ts -/
def Times (w : World) (A : Option Addr) (ts : List St) : Prop :=
  0 < ts.length → ∃ b, A = some ⟨b, 0, none⟩ ∧ b < w.heap.size ∧ ∀ (j : Nat) (u : Value), (rowS ts)[j]? = some u → w.cell? ⟨b, j, none⟩ = some u
theorem Times.below {w w' : World} {A : Option Addr} {ts : List St} (h : Times w A ts) (hb : Below w.heap.size w w') : Times w' A ts := fun hn => by
  obtain ⟨b, e, hlt, hc⟩ := h hn
  exact ⟨b, e, Nat.lt_of_lt_of_le hlt hb.size, fun j u hu => (hb.cell (p := ⟨b, j, none⟩) hlt).trans (hc j u hu)⟩
theorem Times.made (w : World) (ts : List St) : Times (w.alloc (.cells (rowS ts).toArray 25)) (some ⟨w.heap.size, 0, none⟩) ts := fun _ => by
  have h : Row (w.alloc (.cells (rowS ts).toArray 25)) w.heap.size 25 (rowS ts) := Row.made w _ _
  exact ⟨_, rfl, h.lt, fun j u hu => (h.cell j).trans hu⟩
/-- a row of the call's own, as times -/
theorem Times.of_own {w : World} {base : Nat} {v : Value} {n : Nat} {ts : List St} (h : w.ownsRow base 25 5 v n (rowS ts)) :
    ∃ A c, v = .slice A ts.length c ∧ Times w A ts ∧ ts.length ≤ c ∧ c ≤ maxLen := by
  have hl : ts.length = n := by have := h.1; rw [rowS_len] at this; omega
  obtain ⟨_, ⟨rfl, h0⟩ | ⟨g, cap, cur, rfl, _, hh, h1, h2, _, ht⟩⟩ := id h
  · exact ⟨none, 0, by rw [hl, h0], fun hn => by omega, by omega, by simp⟩
  · refine ⟨some ⟨g, 0, none⟩, cap, by rw [hl], fun _ => ⟨g, rfl, ?_, fun j u hj => ?_⟩, by omega, h2⟩
    · by_cases hg : g < w.heap.size
      · exact hg
      · rw [Array.getElem?_eq_none (by omega)] at hh; cases hh
    · have := h.cells (g := g) rfl j u hj
      rwa [add_zero_off] at this
theorem own_apart {w : World} {base : Nat} {v : Value} {n b : Nat} {xs l : List Value} {t : TypeId} (h : w.ownsRow base 25 5 v n xs) (hr : Row w b t l) (ht : t ≠ 25) : some b ≠ v.ownBlock := by
  obtain ⟨_, ⟨rfl, _⟩ | ⟨g, cap, cur, rfl, _, hh, _⟩⟩ := h
  · intro e; cases e
  · intro e
    injection e with e
    subst e
    unfold Row at hr
    rw [hr] at hh; injection hh with hh; injection hh with _ ht'; exact ht ht'
theorem own_belowS {w0 w w' : World} {base n : Nat} {v : Value} {xs : List Value} (h : w.ownsRow base 25 5 v n xs) (hg : w.grownBy w' v.ownBlock) (hb : Below base w0 w) (hB : base ≤ w.heap.size) : Below base w0 w' :=
  hb.grown hg hB (fun k e => (h.lt k e).1)
theorem wpList_append_times {w : World} {ops : Array Oper} {rest : List Oper} {o : Oper} {a : Act} {Q : Exit → Act → World → Prop} (hgd : o.guard = none) (s x : Operand)
    (ho : o.op = .call { callee := .builtin .append, args := #[s, x], argTypes := #[40, 40] })
    (base : Nat) (v : Value) (n : Nat) (ts : List St) (hs : a.eval s = v) (hown : w.ownsRow base 25 5 v n (rowS ts))
    (ad : Addr) (c : Nat) (ys : List St) (hx : a.eval x = .slice (some ad) ys.length c) (hy : 0 < ys.length) (hb : Times w (some ad) ys)
    (hle : n + ys.length ≤ 1000) (hbase : base ≤ w.heap.size)
    (h : ∀ v' w', w'.ownsRow base 25 5 v' (n + ys.length) (rowS (ts ++ ys)) → w.grownBy w' v.ownBlock → wpList Try.prog ops Q rest (a.put o.dst v') w') : wpList Try.prog ops Q (o :: rest) a w := by
  obtain ⟨i, hi, hz0, hz1, hz2⟩ := info_parts Try.infoStamp
  obtain ⟨b, e, _, hcell⟩ := hb hy
  cases e
  refine wpList_append_own w hgd s x 40 ho base 25 i _ 5 40 Try.underlying40 hi hz0 hz1 hz2 rfl (by omega) v n (rowS ts) hs hown ⟨b, 0, none⟩ ys.length c (rowS ys) hx (rowS_len ys) ?_ (rowS_one ys) (by unfold maxLen; omega) (by omega) hbase ?_
  · intro j u hj
    rw [add_zero_off]; exact hcell j u hj
  · intro v' w' h1 h2 _
    exact h v' w' (by rw [rowS_append]; exact h1) h2
end Go.Proofs.Ytkbabmifdfmhlaa
