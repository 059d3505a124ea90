/- Additions in whatever order: plain mathematics, of no code. -/
import Derived.Test.YtkbabmifdfmhlaaCountMath
namespace Go.Proofs.Ytkbabmifdfmhlaa
set_option linter.unusedVariables false
set_option maxRecDepth 100000
/-- one addition that no limit meets -/
def add1 (d : Int) (L : Cn) (p : St × Int) : Cn := if p.1.R ∧ p.1.d = d then addC L p.1 p.2 else L
def allC (d : Int) (l : Cn) : Cn := l.foldl (add1 d) []
/-- what was added at t -/
def sumC (d : Int) : Cn → St → Int
  | [], _ => 0
  | p :: l, t => (if p.1 = t ∧ t.R ∧ t.d = d then p.2 else 0) + sumC d l t
section
variable {d : Int} {l k : Cn} {t : St} {p : St × Int} {L : Cn}
theorem allC_snoc : allC d (l ++ [p]) = add1 d (allC d l) p := by simp [allC]
theorem add1_ok (h : CnOk L) : CnOk (add1 d L p) := by
  unfold add1; split
  · exact addC_ok h
  · exact h
theorem foldl_ok : ∀ (l : Cn) (L : Cn), CnOk L → CnOk (l.foldl (add1 d) L)
  | [], _, h => h
  | p :: l, L, h => foldl_ok l _ (add1_ok h)
theorem allC_ok : CnOk (allC d l) := foldl_ok l [] ⟨List.Pairwise.nil, by simp⟩
theorem cnt_add1 (h : CnOk L) : cnt (add1 d L p) t = cnt L t + if p.1 = t ∧ t.R ∧ t.d = d then p.2 else 0 := by
  unfold add1
  by_cases hp : p.1.R ∧ p.1.d = d
  · rw [if_pos hp, cnt_add h]
    by_cases e : t = p.1
    · subst e; rw [if_pos rfl, if_pos ⟨rfl, hp⟩]
    · rw [if_neg e, if_neg fun h => e h.1.symm]; omega
  · rw [if_neg hp, if_neg (fun h => hp (by rw [h.1]; exact h.2))]; omega
theorem cnt_foldl : ∀ (l : Cn) (L : Cn), CnOk L → cnt (l.foldl (add1 d) L) t = cnt L t + sumC d l t
  | [], L, h => by simp [sumC]
  | p :: l, L, h => by
    rw [List.foldl_cons, cnt_foldl l _ (add1_ok h), cnt_add1 h, sumC]; omega
theorem cnt_all : cnt (allC d l) t = sumC d l t := by
  unfold allC
  rw [cnt_foldl l [] ⟨List.Pairwise.nil, by simp⟩, cnt_nil]; omega
theorem sum_append : sumC d (l ++ k) t = sumC d l t + sumC d k t := by
  induction l with
  | nil => simp [sumC]
  | cons p l ih => rw [List.cons_append, sumC, sumC, ih]; omega
theorem sum_perm (h : l.Perm k) : sumC d l t = sumC d k t := by
  induction h with
  | nil => rfl
  | cons x _ ih => rw [sumC, sumC, ih]
  | swap x y l => simp only [sumC]; omega
  | trans _ _ ih1 ih2 => exact ih1.trans ih2
/-- in whatever order -/
theorem all_perm (h : l.Perm k) : allC d l = allC d k := cn_ext allC_ok allC_ok fun t => by rw [cnt_all, cnt_all, sum_perm h]
theorem sum_bound {b : Int} (hb : 0 ≤ b) : ∀ {l : Cn}, (∀ p ∈ l, -b ≤ p.2 ∧ p.2 ≤ b) → -(b * l.length) ≤ sumC d l t ∧ sumC d l t ≤ b * l.length
  | [], _ => by simp [sumC]
  | p :: l, h => by
    have h1 := sum_bound hb (fun q hq => h q (List.mem_cons_of_mem _ hq)) (l := l)
    have h2 := h p List.mem_cons_self
    rw [sumC, List.length_cons]
    have e : b * ((l.length + 1 : Nat) : Int) = b * l.length + b := by rw [Int.natCast_add, Int.mul_add]; simp
    rw [e]
    split <;> omega
theorem sum_pos : ∀ {l : Cn}, (∀ p ∈ l, 0 ≤ p.2) → 0 ≤ sumC d l t
  | [], _ => by simp [sumC]
  | p :: l, h => by
    have h1 := sum_pos (fun q hq => h q (List.mem_cons_of_mem _ hq)) (l := l)
    have h2 := h p List.mem_cons_self
    rw [sumC]
    split <;> omega
def negC (l : Cn) : Cn := l.map fun p => (p.1, 0 - p.2)
theorem sum_neg : sumC d (negC l) t = - sumC d l t := by
  unfold negC
  induction l with
  | nil => simp [sumC]
  | cons p l ih =>
    rw [List.map_cons, sumC, sumC, ih]
    split <;> omega
/-- added, and taken away -/
theorem all_undone (h : l.Perm (k ++ negC k)) : allC d l = [] := cn_ext allC_ok ⟨List.Pairwise.nil, by simp⟩ fun t => by
  rw [cnt_all, sum_perm h, sum_append, sum_neg, cnt_nil]; omega
/-- a row, turned -/
def turnC (l : Cn) (r : Nat) : Cn := l.drop r ++ l.take r
theorem turn_perm (r : Nat) : (turnC l r).Perm l := by
  unfold turnC
  refine List.perm_append_comm.trans ?_
  rw [List.take_append_drop]
theorem turn_at {r i : Nat} (hr : r < l.length) (hi : i < l.length) : (turnC l r)[i]? = l[(i + r) % l.length]? := by
  unfold turnC
  by_cases h : i < l.length - r
  · rw [List.getElem?_append_left (by rw [List.length_drop]; exact h), List.getElem?_drop, Nat.mod_eq_of_lt (by omega), Nat.add_comm]
  · rw [List.getElem?_append_right (by rw [List.length_drop]; omega), List.length_drop, List.getElem?_take, if_pos (by omega)]
    have : (i + r) % l.length = i - (l.length - r) := by
      rw [show i + r = (i - (l.length - r)) + l.length by omega, Nat.add_mod_right, Nat.mod_eq_of_lt (by omega)]
    rw [this]
theorem turn_len (r : Nat) : (turnC l r).length = l.length := (turn_perm r).length_eq
theorem turn_at' {T i : Nat} (hi : i < l.length) : (turnC l (T % l.length))[i]? = l[(i + T) % l.length]? := by
  rw [turn_at (Nat.mod_lt _ (by omega)) hi, Nat.add_mod_mod]
end
/-- of numbers modulo 1000 -/
def modC (l : Cn) : Cn := l.map fun p => (p.1, p.2.tmod 1000)
theorem tmod_bound (n : Int) : -999 ≤ n.tmod 1000 ∧ n.tmod 1000 ≤ 999 := by
  have h1 := Int.tmod_lt_of_pos n (b := 1000) (by omega)
  have h2 := Int.lt_tmod_of_pos n (b := 1000) (by omega)
  omega
theorem mod_bound {l : Cn} : ∀ p ∈ modC l, -999 ≤ p.2 ∧ p.2 ≤ 999 := by
  intro p hp
  obtain ⟨q, hq, rfl⟩ := List.mem_map.1 hp
  exact tmod_bound q.2
theorem mod_at {l : Cn} {i : Nat} {p : St × Int} (h : l[i]? = some p) : (modC l)[i]? = some (p.1, p.2.tmod 1000) := by
  unfold modC; rw [List.getElem?_map, h]; rfl
theorem take_snoc {l : Cn} {k : Nat} {p : St × Int} (h : l[k]? = some p) : l.take (k + 1) = l.take k ++ [p] := by rw [List.take_add_one, h]; rfl
end Go.Proofs.Ytkbabmifdfmhlaa
