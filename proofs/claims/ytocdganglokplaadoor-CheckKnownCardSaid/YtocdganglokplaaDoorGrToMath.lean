/- Which inputs a node feeds: plain mathematics. -/
import Derived.Test.YtocdganglokplaaDoorGrMay
namespace Go.Proofs.YtocdganglokplaaDoor
open Go.RowKit
set_option linter.unusedVariables false
/-- the inputs of node n, from the p-th one on, that have the number i -/
def toIn (n : Nat) (i : Int) : Nat → List Int → List (Nat × Nat)
  | _, [] => []
  | p, x :: l => (if x = i then [(n, p)] else []) ++ toIn n i (p + 1) l
/-- the inputs that have the number i, of nodes from the n-th one on -/
def toG (i : Int) : Nat → List Nd → List (Nat × Nat)
  | _, [] => []
  | n, x :: g => toIn n i 0 x.ins ++ toG i (n + 1) g
theorem toIn_snoc (n : Nat) (i : Int) : ∀ (l : List Int) (p : Nat) (x : Int), toIn n i p (l ++ [x]) = toIn n i p l ++ if x = i then [(n, p + l.length)] else []
  | [], p, x => by simp [toIn]
  | y :: l, p, x => by
    rw [List.cons_append]
    simp only [toIn]
    rw [toIn_snoc n i l (p + 1) x, List.append_assoc, List.length_cons, show p + 1 + l.length = p + (l.length + 1) by omega]
theorem toG_snoc (i : Int) : ∀ (g : List Nd) (n : Nat) (x : Nd), toG i n (g ++ [x]) = toG i n g ++ toIn (n + g.length) i 0 x.ins
  | [], n, x => by simp [toG]
  | y :: g, n, x => by
    rw [List.cons_append]
    simp only [toG]
    rw [toG_snoc i g (n + 1) x, List.append_assoc, List.length_cons, show n + 1 + g.length = n + (g.length + 1) by omega]
theorem toIn_take {l : List Int} {p : Nat} {x : Int} (n : Nat) (i : Int) (h : l[p]? = some x) : toIn n i 0 (l.take (p + 1)) = toIn n i 0 (l.take p) ++ if x = i then [(n, p)] else [] := by
  have := (List.getElem?_eq_some_iff.1 h).1
  rw [List.take_add_one, h, Option.toList_some, toIn_snoc, List.length_take, Nat.min_eq_left (by omega), Nat.zero_add]
theorem toG_take {l : List Gn} {k : Nat} {x : Gn} (i : Int) (h : l[k]? = some x) : toG i 0 (nds (l.take (k + 1))) = toG i 0 (nds (l.take k)) ++ toIn k i 0 x.nd.ins := by
  have := (List.getElem?_eq_some_iff.1 h).1
  unfold nds
  rw [List.take_add_one, h, Option.toList_some, List.map_append, List.map_cons, List.map_nil, toG_snoc, List.length_map, List.length_take, Nat.min_eq_left (by omega), Nat.zero_add]
theorem toIn_len (n : Nat) (i : Int) : ∀ (l : List Int) (p : Nat), (toIn n i p l).length ≤ l.length
  | [], p => by simp [toIn]
  | x :: l, p => by
    have := toIn_len n i l (p + 1)
    simp only [toIn, List.length_append, List.length_cons]
    split <;> simp <;> omega
theorem toG_len (i : Int) (T : Nat) : ∀ (g : List Nd) (n : Nat), (∀ x ∈ g, x.ins.length ≤ T) → (toG i n g).length ≤ g.length * T
  | [], n, _ => by simp [toG]
  | x :: g, n, h => by
    have h1 := toG_len i T g (n + 1) fun y hy => h y (List.mem_cons_of_mem _ hy)
    have h2 := toIn_len n i x.ins 0
    have h3 := h x List.mem_cons_self
    simp only [toG, List.length_append, List.length_cons, Nat.succ_mul]
    omega
/-- how often i is among l -/
def cntI (i : Int) (l : List Int) : Nat := (l.filter fun x => decide (x = i)).length
theorem toIn_cnt (n : Nat) (i : Int) : ∀ (l : List Int) (p : Nat), (toIn n i p l).length = cntI i l
  | [], p => rfl
  | x :: l, p => by
    simp only [toIn, List.length_append, toIn_cnt n i l (p + 1), cntI, List.filter_cons]
    by_cases h : x = i
    · simp [h]; omega
    · simp [h]
def cntG (i : Int) (g : List Nd) : Nat := (g.map fun x => cntI i x.ins).sum
theorem toG_cnt (i : Int) : ∀ (g : List Nd) (n : Nat), (toG i n g).length = cntG i g
  | [], n => rfl
  | x :: g, n => by
    simp only [toG, List.length_append, toIn_cnt, toG_cnt i g (n + 1), cntG, List.map_cons, List.sum_cons]
/-- those that are numbers of nodes -/
def inI (L : Nat) (l : List Int) : Nat := (l.filter fun x : Int => decide (0 ≤ x ∧ x < (L : Int))).length
theorem sum_cntI (l : List Int) : ∀ (L : Nat), ((List.range L).map fun n => cntI (n : Nat) l).sum = inI L l
  | 0 => by
    have : inI 0 l = 0 := by
      unfold inI
      rw [List.length_eq_zero_iff, List.filter_eq_nil_iff]
      intro a _; simp only [decide_eq_true_eq]; omega
    simp [this]
  | L + 1 => by
    rw [List.range_succ, List.map_append, List.sum_append, sum_cntI l L]
    simp only [List.map_cons, List.map_nil, List.sum_cons, List.sum_nil, Nat.add_zero]
    unfold inI cntI
    induction l with
    | nil => rfl
    | cons x l ih =>
      by_cases h1 : x = (L : Int)
      · rw [List.filter_cons_of_neg (by simp; omega), List.filter_cons_of_pos (by simp; omega), List.filter_cons_of_pos (by simp; omega)]
        simp only [List.length_cons]; omega
      · by_cases h2 : 0 ≤ x ∧ x < (L : Int)
        · rw [List.filter_cons_of_pos (by simp; omega), List.filter_cons_of_neg (by simp; omega), List.filter_cons_of_pos (by simp; omega)]
          simp only [List.length_cons]; omega
        · rw [List.filter_cons_of_neg (by simp; omega), List.filter_cons_of_neg (by simp; omega), List.filter_cons_of_neg (by simp; omega)]
          exact ih
def inG (L : Nat) (g : List Nd) : Nat := (g.map fun x => inI L x.ins).sum
theorem sum_add (f h : Nat → Nat) (l : List Nat) : (l.map fun n => f n + h n).sum = (l.map f).sum + (l.map h).sum := by
  induction l with
  | nil => rfl
  | cons x l ih => simp only [List.map_cons, List.sum_cons, ih]; omega
/-- each input that is fed by a node is fed by just one -/
theorem fed_all (L : Nat) : ∀ (g : List Nd), ((List.range L).map fun n => cntG (n : Nat) g).sum = inG L g
  | [] => by
    simp only [cntG, inG, List.map_nil, List.sum_nil]
    induction (List.range L) with
    | nil => rfl
    | cons x l ih => simp only [List.map_cons, List.sum_cons, ih, Nat.add_zero]
  | x :: g => by
    simp only [cntG, inG, List.map_cons, List.sum_cons]
    rw [sum_add]
    have h1 := sum_cntI x.ins L
    have h2 := fed_all L g
    unfold cntG inG at h2
    rw [h1, h2]
theorem toIn_app (n : Nat) (i : Int) : ∀ (l m : List Int) (p : Nat), toIn n i p (l ++ m) = toIn n i p l ++ toIn n i (p + l.length) m
  | [], m, p => by simp [toIn]
  | x :: l, m, p => by
    rw [List.cons_append]
    simp only [toIn]
    rw [toIn_app n i l m (p + 1), List.append_assoc, List.length_cons, show p + 1 + l.length = p + (l.length + 1) by omega]
theorem toG_app (i : Int) : ∀ (g h : List Nd) (n : Nat), toG i n (g ++ h) = toG i n g ++ toG i (n + g.length) h
  | [], h, n => by simp [toG]
  | x :: g, h, n => by
    rw [List.cons_append]
    simp only [toG]
    rw [toG_app i g h (n + 1), List.append_assoc, List.length_cons, show n + 1 + g.length = n + (g.length + 1) by omega]
theorem split_at {α : Type} {l : List α} {k : Nat} {x : α} (h : l[k]? = some x) : l = l.take k ++ x :: l.drop (k + 1) := by
  obtain ⟨hl, e⟩ := List.getElem?_eq_some_iff.1 h
  rw [← e, List.getElem_cons_drop, List.take_append_drop]
/-- the input that is met is the next one of the row -/
theorem fed_at {l : List Gn} {k p : Nat} {x : Gn} {i : Int} (hx : l[k]? = some x) (hp : x.nd.ins[p]? = some i) :
    (toG i 0 (nds l))[(toG i 0 (nds (l.take k)) ++ toIn k i 0 (x.nd.ins.take p)).length]? = some (k, p) := by
  have hk := (List.getElem?_eq_some_iff.1 hx).1
  have hpl := (List.getElem?_eq_some_iff.1 hp).1
  have e : toG i 0 (nds l) = (toG i 0 (nds (l.take k)) ++ toIn k i 0 (x.nd.ins.take p)) ++ (k, p) :: (toIn k i (p + 1) (x.nd.ins.drop (p + 1)) ++ toG i (k + 1) (nds (l.drop (k + 1)))) := by
    have h1 : nds l = nds (l.take k) ++ x.nd :: nds (l.drop (k + 1)) := by
      unfold nds
      conv => lhs; rw [split_at hx]
      rw [List.map_append, List.map_cons]
    rw [h1, toG_app]
    have h2 : (nds (l.take k)).length = k := by rw [nds_len, List.length_take]; omega
    rw [h2, Nat.zero_add]
    show _ ++ (toIn k i 0 x.nd.ins ++ toG i (k + 1) _) = _
    conv => lhs; rw [split_at hp]
    rw [toIn_app, List.length_take, Nat.min_eq_left (by omega), Nat.zero_add]
    simp only [toIn, if_pos]
    simp
  rw [e, List.getElem?_append_right (Nat.le_refl _), Nat.sub_self]
  rfl
end Go.Proofs.YtocdganglokplaaDoor
