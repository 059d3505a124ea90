/- Rows of things: one appended to another. -/
import Derived.Test.YtmliiglhglhjkaaOpen
import Derived.Test.YtmliiglhglhjkaaBytes
import Derived.Laws.AppendOwnNone
import Derived.OwnWalk
namespace Go.Proofs.Ytmliiglhglhjkaa
open Go.ChangeShapes Go.WideShapes Go.ChangeAt Go.RowKit
set_option linter.unusedVariables false
theorem Try.infoThing : (Try.prog.info? 42).map (fun i => (i.zero, i.size, i.bytes)) = some (some (.agg #[.int .i8 0, .int .u64 0, .string ⟨#[]⟩]), 3, 32) := by kernel_rfl
def Th.cells (t : Th) : List Value := [.int .i8 t.s, .int .u64 (t.n : Nat), .string t.b]
def rowOf (ts : List Th) : List Value := (ts.map Th.cells).flatten
theorem rowOf_cons (t : Th) (ts : List Th) : rowOf (t :: ts) = .int .i8 t.s :: .int .u64 (t.n : Nat) :: .string t.b :: rowOf ts := by simp [rowOf, Th.cells]
theorem rowOf_append (ts us : List Th) : rowOf (ts ++ us) = rowOf ts ++ rowOf us := by simp [rowOf]
theorem rowOf_len (ts : List Th) : (rowOf ts).length = ts.length * 3 := by
  induction ts with
  | nil => rfl
  | cons t ts ih => rw [rowOf_cons]; simp only [List.length_cons, ih]; omega
theorem rowOf_at : ∀ (ts : List Th) (i : Nat) (t : Th), ts[i]? = some t → (rowOf ts)[i * 3]? = some (.int .i8 t.s) ∧ (rowOf ts)[i * 3 + 1]? = some (.int .u64 (t.n : Nat)) ∧ (rowOf ts)[i * 3 + 2]? = some (.string t.b)
  | x :: ts, 0, t, h => by
    obtain rfl : x = t := by simpa using h
    rw [rowOf_cons]; exact ⟨rfl, rfl, rfl⟩
  | x :: ts, i + 1, t, h => by
    have := rowOf_at ts i t (by simpa using h)
    rw [rowOf_cons, show (i + 1) * 3 = i * 3 + 1 + 1 + 1 by omega, show i * 3 + 1 + 1 + 1 + 1 = i * 3 + 1 + 1 + 1 + 1 from rfl]
    simp only [List.getElem?_cons_succ]
    exact this
theorem rowOf_mem : ∀ (ts : List Th) (C : Nat → Option Value) (_ : ∀ (i : Nat) (t : Th), ts[i]? = some t → C (i * 3) = some (.int .i8 t.s) ∧ C (i * 3 + 1) = some (.int .u64 (t.n : Nat)) ∧ C (i * 3 + 2) = some (.string t.b)) (j : Nat) (u : Value), (rowOf ts)[j]? = some u → C j = some u
  | [], C, _, j, u, h => by simp [rowOf] at h
  | t :: ts, C, hC, j, u, h => by
    rw [rowOf_cons] at h
    obtain ⟨h0, h1, h2⟩ := hC 0 t rfl
    match j, h with
    | 0, h => exact h0.trans (by simpa using h)
    | 1, h => exact h1.trans (by simpa using h)
    | 2, h => exact h2.trans (by simpa using h)
    | j + 3, h =>
      refine rowOf_mem ts (fun k => C (k + 3)) (fun i t' ht => ?_) j u (by simpa using h)
      have := hC (i + 1) t' (by simpa using ht)
      rw [show (i + 1) * 3 = i * 3 + 3 by omega, show i * 3 + 3 + 1 = i * 3 + 1 + 3 by omega, show i * 3 + 3 + 2 = i * 3 + 2 + 3 by omega] at this
      exact this
theorem rowOf_one (ts : List Th) : ∀ u ∈ rowOf ts, u.oneCell' = true := by
  intro u hu
  simp only [rowOf, List.mem_flatten, List.mem_map] at hu
  obtain ⟨l, ⟨t, _, rfl⟩, hu⟩ := hu
  simp only [Th.cells, List.mem_cons, List.not_mem_nil, or_false] at hu
  rcases hu with rfl | rfl | rfl <;> rfl
/-- a row of the call's own, as things -/
theorem Things.of_own {w : World} {base : Nat} {v : Value} {n : Nat} {ts : List Th} (h : w.ownsRow base 42 3 v n (rowOf ts)) (hw : ∀ t ∈ ts, t.n < 18446744073709551616 ∧ t.b.size ≤ 140737488351232) :
    ∃ A c, v = .slice A ts.length c ∧ Things w A ts := by
  have hl : ts.length = n := by have := h.1; rw [rowOf_len] at this; omega
  obtain ⟨_, ⟨rfl, h0⟩ | ⟨g, cap, cur, rfl, _, hh, _, _, _, ht⟩⟩ := id h
  · refine ⟨none, 0, by rw [hl, h0], hw, fun hn => ?_⟩
    omega
  · refine ⟨some ⟨g, 0, none⟩, cap, by rw [hl], hw, fun hn => ⟨g, 0, rfl, ?_, fun i t hi => ?_⟩⟩
    · by_cases hg : g < w.heap.size
      · exact hg
      · rw [Array.getElem?_eq_none (by omega)] at hh; cases hh
    · have key : ∀ j u, (rowOf ts)[j]? = some u → w.cell? ⟨g, 0 + j, none⟩ = some u := fun j u hj => by
        have := h.cells (g := g) rfl j u hj
        rw [add_zero_off] at this
        rw [Nat.zero_add]; exact this
      obtain ⟨h1, h2, h3⟩ := rowOf_at ts i t hi
      exact ⟨key _ _ h1, key _ _ h2, key _ _ h3⟩
section
theorem wpList_append_things {w : World} {ops : Array Oper} {rest : List Oper} {o : Oper} {a : Act} {Q : Exit → Act → World → Prop} (hgd : o.guard = none) (s x : Operand)
    (ho : o.op = .call { callee := .builtin .append, args := #[s, x], argTypes := #[22, 22] })
    (base : Nat) (v : Value) (n : Nat) (ts : List Th) (hs : a.eval s = v) (hown : w.ownsRow base 42 3 v n (rowOf ts))
    (A : Option Addr) (c : Nat) (ys : List Th) (hx : a.eval x = .slice A ys.length c) (hb : Things w A ys) (hc : A = none → c = 0)
    (hle : n + ys.length ≤ 1000) (hbase : base ≤ w.heap.size)
    (h : ∀ v' w', w'.ownsRow base 42 3 v' (n + ys.length) (rowOf (ts ++ ys)) → w.grownBy w' v.ownBlock → wpList Try.prog ops Q rest (a.put o.dst v') w') : wpList Try.prog ops Q (o :: rest) a w := by
  obtain ⟨i, hi, hz0, hz1, hz2⟩ := info_parts Try.infoThing
  cases hA : A with
  | some ad =>
    subst hA
    refine wpList_append_own w hgd s x 22 ho base 42 i _ 3 32 Try.underlying22 hi hz0 hz1 hz2 rfl (by omega) v n (rowOf ts) hs hown ad ys.length c (rowOf ys) hx (rowOf_len ys) ?_ (rowOf_one ys) (by unfold maxLen; omega) (by omega) hbase ?_
    · refine rowOf_mem ys (fun j => w.cell? (ad.add j)) (fun i t ht => ?_)
      have hn : 0 < ys.length := by have := (List.getElem?_eq_some_iff.1 ht).1; omega
      obtain ⟨b, off, e, _, hcell⟩ := hb.2 hn
      cases e
      obtain ⟨h1, h2, h3⟩ := hcell i t ht
      simp only [add_at]
      exact ⟨h1, h2, h3⟩
    · intro v' w' h1 h2 _
      exact h v' w' (by rw [rowOf_append]; exact h1) h2
  | none =>
    subst hA
    have hn : ys = [] := by
      cases ys with
      | nil => rfl
      | cons y l => obtain ⟨_, _, e', _⟩ := hb.2 (by simp); cases e'
    subst hn
    have hc0 := hc rfl
    subst hc0
    refine wpList_append_own_none hgd s x 22 ho base 42 i 3 Try.underlying22 hi v n (rowOf ts) hs hown hx ?_
    refine h v w (by simpa using hown) ⟨rfl, rfl, rfl, Nat.le_refl _, fun _ _ _ => rfl⟩
end
/-- a slice that came in nil has no room -/
theorem none_cap {H : Type} {enc : TypeId × Value → H} {W : World} {A : Option Addr} {n c : Nat} {d : DataW H} {p : List MemPlace}
    (h : DataW.Trod enc Try.prog W 0 (fun _ => true) true 22 (.slice A n c) d p) : A = none → c = 0 := by
  obtain ⟨fuel, hf⟩ := h
  rcases Go.Deep.open_slice Try.underlying22 hf with ⟨hcs, _⟩ | ⟨a, len', cap', m, n', D, Pl, hcs, _⟩
  · simp [Value.cells] at hcs
    exact fun _ => hcs.2.2
  · simp [Value.cells] at hcs
    intro hA
    rw [hA] at hcs
    exact absurd hcs.1 (by simp)
end Go.Proofs.Ytmliiglhglhjkaa
