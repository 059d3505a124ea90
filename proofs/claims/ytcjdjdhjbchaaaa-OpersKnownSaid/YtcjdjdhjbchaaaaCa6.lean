/- GrKit, GrSame, GrMay, GrToMath, GrPut -/
import Derived.Test.YtcjdjdhjbchaaaaCa8
import Derived.Test.YtcjdjdhjbchaaaaCa3
import Derived.Test.YtcjdjdhjbchaaaaCa9
import Derived.Lib.Hide
import Derived.BigRegion
import Derived.RegionTactic
import Derived.ChangeAlike
import Derived.Deep.DeepCutAuto
import Derived.Deep.CutRange
namespace Go.Proofs.Ytcjdjdhjbchaaaa
set_option linter.unusedVariables false
section
open Go.ChangeShapes Go.WideShapes Go.ChangeAt Go.RowKit Go.BigFrame
set_option maxRecDepth 100000
theorem retb {a b : Bool} (h : a = b) : Ending.returned (.bool a) = .returned (.bool b) := by rw [h]
/-- at most so many nodes, and inputs of each -/
def insB (l : List Nd) (T : Int) : Bool := decide ((l.length : Int) ≤ T ∧ ∀ x ∈ l, (x.ins.length : Int) ≤ T)
theorem insB_no1 {l : List Gn} {T : Int} (h : T < (l.length : Int)) : false = insB (nds l) T := by
  unfold insB nds; rw [decide_eq_false]; rw [List.length_map]; omega
theorem insB_no2 {l : List Gn} {T : Int} {i : Nat} {x : Gn} (hi : l[i]? = some x) (h : T < (x.nd.ins.length : Int)) : false = insB (nds l) T := by
  unfold insB nds; rw [decide_eq_false]
  intro hh
  have := hh.2 x.nd (List.mem_map.2 ⟨x, List.mem_of_getElem? hi, rfl⟩)
  omega
theorem insB_yes {l : List Gn} {T : Int} (h0 : ¬ T < (l.length : Int)) (h : ∀ (j : Nat) (x : Gn), j < l.length → l[j]? = some x → (x.nd.ins.length : Int) ≤ T) : true = insB (nds l) T := by
  unfold insB nds; rw [decide_eq_true]
  refine ⟨by rw [List.length_map]; omega, fun y hy => ?_⟩
  obtain ⟨x, hx, rfl⟩ := List.mem_map.1 hy
  obtain ⟨j, hj⟩ := List.getElem?_of_mem hx
  exact h j x (List.getElem?_eq_some_iff.1 hj).1 hj
/-- a graph of the call's own -/
structure OwnG (w : World) (base : Nat) (v : Value) (l : List Gn) : Prop where
  row : w.ownsRow base 24 kindG.K v l.length (Rw.row kindG l)
  ok : ∀ x ∈ l, x.Ok
  ins : ∀ x ∈ l, w.ownsRow base 3 kindI.K (.slice x.A x.nd.ins.length x.c) x.nd.ins.length (Rw.row kindI x.nd.ins)
section
variable {w w' : World} {base : Nat} {v : Value} {l : List Gn}
theorem OwnG.nil (w : World) (base : Nat) : OwnG w base (.slice none 0 0) [] := ⟨World.ownsRow_nil _ _ _ _, fun x hx => absurd hx (by simp), fun x hx => absurd hx (by simp)⟩
theorem OwnG.alloc (h : OwnG w base v l) (o : Obj) : OwnG (w.alloc o) base v l := ⟨h.row.alloc o, h.ok, fun x hx => (h.ins x hx).alloc o⟩
theorem OwnG.below (h : OwnG w base v l) (hb : Below w.heap.size w w') : OwnG w' base v l := ⟨Rw.own_kept h.row hb, h.ok, fun x hx => Rw.own_kept (h.ins x hx) hb⟩
/-- rows of numbers are apart from rows of nodes -/
theorem ints_apart {base' n n' K K' : Nat} {u u' : Value} {xs ys : List Value} (h : w.ownsRow base 24 K u n xs) (h' : w.ownsRow base' 3 K' u' n' ys) : u'.ownBlock = none ∨ u'.ownBlock ≠ u.ownBlock := Rw.own_apart2 h h' (by decide)
/-- a node more -/
theorem OwnG.more (h : OwnG w base v l) {x : Gn} (hx : x.Ok) (hi : w.ownsRow base 3 kindI.K (.slice x.A x.nd.ins.length x.c) x.nd.ins.length (Rw.row kindI x.nd.ins)) {v' : Value} (hr : w'.ownsRow base 24 kindG.K v' (l.length + 1) (Rw.row kindG (l ++ [x]))) (hg : w.grownBy w' v.ownBlock) : OwnG w' base v' (l ++ [x]) where
  row := by rw [List.length_append]; exact hr
  ok := fun y hy => by
    rcases List.mem_append.1 hy with hy | hy
    · exact h.ok y hy
    · simp only [List.mem_singleton] at hy; subst hy; exact hx
  ins := fun y hy => by
    rcases List.mem_append.1 hy with hy | hy
    · exact (h.ins y hy).kept hg (ints_apart h.row (h.ins y hy))
    · simp only [List.mem_singleton] at hy; subst hy; exact hi.kept hg (ints_apart h.row hi)
/-- as a graph that can be read -/
theorem OwnG.gr (h : OwnG w base v l) : ∃ A c, v = .slice A l.length c ∧ Gr w A l ∧ l.length ≤ c ∧ c ≤ maxLen ∧ (A = none → c = 0) := by
  obtain ⟨A, c, e, hT, h1, h2, h3, _⟩ := Rw.Ts.of_own h.row
  refine ⟨A, c, e, ⟨hT, fun x hx => ⟨h.ok x hx, ?_⟩⟩, h1, h2, h3⟩
  obtain ⟨A', c', e', hT', _⟩ := Rw.Ts.of_own (h.ins x hx)
  cases e'
  exact hT'
end
theorem grown_set (w : World) (b o : Nat) (v : Value) : w.grownBy (w.setCell ⟨b, o, none⟩ v) (some b) :=
  ⟨rfl, rfl, rfl, by simp [World.setCell], fun k _ hk => Below.heap_setCell _ _ _ _ (fun e => hk (by rw [e]))⟩
/-- behind the first append of a round: what is kept -/
theorem own_round {wr w1 : World} {base : Nat} {v v1 : Value} {d : List Gn} {l : List Value} {zs : List Int} (ho : OwnG wr base v d) (hbase : base ≤ wr.heap.size) (hg : (wr.alloc (.cells l.toArray 24)).grownBy w1 (Value.slice none 0 0).ownBlock)
    (h1 : w1.ownsRow base 3 kindI.K v1 (0 + zs.length) (Rw.row kindI ([] ++ zs))) :
    ∃ A1 cc, v1 = .slice A1 zs.length cc ∧ Row w1 wr.heap.size 24 l ∧ zs.length ≤ cc ∧ cc ≤ maxLen ∧ (A1 = none → cc = 0) ∧ ∀ o u, (w1.setCell ⟨wr.heap.size, o, none⟩ u).ownsRow base 3 kindI.K (.slice A1 zs.length cc) zs.length (Rw.row kindI zs) ∧ Below wr.heap.size wr (w1.setCell ⟨wr.heap.size, o, none⟩ u) := by
  rw [Nat.zero_add, List.nil_append] at h1
  obtain ⟨A1, cc, rfl, _, hc1, hc2, hn, _⟩ := Rw.Ts.of_own h1
  have hr : Row w1 wr.heap.size 24 l := (Row.made wr _ l).grown hg (by intro e; cases e)
  refine ⟨A1, cc, rfl, hr, hc1, hc2, hn, fun o u => ⟨h1.kept (grown_set w1 _ _ _) ?_, ?_⟩⟩
  · have := Rw.own_apart h1 hr (by decide)
    exact .inr fun e => this e.symm
  · exact (((Below.refl _ wr).alloc (Nat.le_refl _) _).grown hg (by simp) (fun k e => by cases e)).setCell (Nat.le_refl _) _
/-- a copy of the graph l, in memory of its own -/
def OwnedG (l : List Gn) (w : World) (e : Ending) (w' : World) : Prop := (∃ v l', e = .returned v ∧ nds l' = nds l ∧ OwnG w' w.heap.size v l') ∧ Below w.heap.size w w'
end

section
open Go.ChangeShapes Go.WideShapes Go.ChangeAt Go.RowKit Go.BigFrame
set_option maxRecDepth 100000
/-- are they the same? -/
noncomputable def sameN (l m : List Nd) : Bool := @decide (l = m) (Classical.propDecidable _)
theorem sameN_iff {l m : List Nd} : sameN l m = true ↔ l = m := by unfold sameN; exact @decide_eq_true_iff _ (Classical.propDecidable _)
theorem sameN_no {l m : List Nd} (h : l ≠ m) : false = sameN l m := by
  cases e : sameN l m with
  | true => exact absurd (sameN_iff.1 e) h
  | false => rfl
theorem sameN_yes {l m : List Nd} (h : l = m) : true = sameN l m := (sameN_iff.2 h).symm
theorem nds_at {l m : List Gn} (h : nds l = nds m) {i : Nat} {x y : Gn} (hx : l[i]? = some x) (hy : m[i]? = some y) : x.nd = y.nd := by
  have := congrArg (·[i]?) h
  simp only [nds, List.getElem?_map, hx, hy, Option.map_some, Option.some.injEq] at this
  exact this
theorem nds_all {l m : List Gn} (hl : l.length = m.length) (h : ∀ (j : Nat) (x y : Gn), j < l.length → l[j]? = some x → m[j]? = some y → x.nd = y.nd) : nds l = nds m := by
  apply List.ext_getElem?
  intro i
  unfold nds
  rw [List.getElem?_map, List.getElem?_map]
  by_cases hi : i < l.length
  · rw [List.getElem?_eq_getElem hi, List.getElem?_eq_getElem (show i < m.length by omega)]
    simp only [Option.map_some, Option.some.injEq]
    exact h i _ _ hi (List.getElem?_eq_getElem hi) (List.getElem?_eq_getElem (by omega))
  · rw [List.getElem?_eq_none (by omega), List.getElem?_eq_none (by omega)]
theorem made2 (w : World) (o : Obj) (t : TypeId) (l : List Value) : Row ((w.alloc o).alloc (.cells l.toArray t)) (w.heap.size + 1) t l := by
  have := Row.made (w.alloc o) t l
  rwa [show (w.alloc o).heap.size = w.heap.size + 1 by simp] at this
end

section
open Go.ChangeShapes Go.WideShapes Go.ChangeAt Go.RowKit Go.BigFrame
set_option maxRecDepth 100000
/-- may a graph be written? -/
noncomputable def mayB (g : List Nd) : Bool := @decide (GMay g) (Classical.propDecidable _)
theorem mayB_iff {g : List Nd} : mayB g = true ↔ GMay g := by unfold mayB; exact @decide_eq_true_iff _ (Classical.propDecidable _)
theorem mayB_no {g : List Nd} (h : ¬ GMay g) : false = mayB g := by
  cases e : mayB g with
  | true => exact absurd (mayB_iff.1 e) h
  | false => rfl
theorem mayB_yes {g : List Nd} (h : GMay g) : true = mayB g := (mayB_iff.2 h).symm
theorem may_node {l : List Gn} {k : Nat} {x : Gn} (hx : l[k]? = some x) (h : ¬ x.nd.May) : ¬ GMay (nds l) := fun hh => h (hh.2 x.nd (List.mem_map.2 ⟨x, List.mem_of_getElem? hx, rfl⟩))
theorem may_all {l : List Gn} (h : ∀ (j : Nat) (x : Gn), l[j]? = some x → x.nd.May) : ∀ n ∈ nds l, n.May := by
  intro n hn
  obtain ⟨x, hx, rfl⟩ := List.mem_map.1 hn
  obtain ⟨j, hj⟩ := List.getElem?_of_mem hx
  exact h j x hj
theorem nds_len (l : List Gn) : (nds l).length = l.length := by unfold nds; rw [List.length_map]
end

section
open Go.RowKit
/-- the inputs of node n, from the p-th one on, that have the number i -/
def toIn (n : Nat) (i : Int) : Nat → List Int → List (Nat × Nat)
  | _, [] => []
  | p, x :: l => (if x = i then [(n, p)] else []) ++ toIn n i (p + 1) l
/-- the inputs that have the number i, of nodes from the n-th one on -/
def toG (i : Int) : Nat → List Nd → List (Nat × Nat)
  | _, [] => []
  | n, x :: g => toIn n i 0 x.ins ++ toG i (n + 1) g
theorem toIn_snoc (n : Nat) (i : Int) : ∀ (l : List Int) (p : Nat) (x : Int), toIn n i p (l ++ [x]) = toIn n i p l ++ if x = i then [(n, p + l.length)] else []
  | [], p, x => by simp [toIn]
  | y :: l, p, x => by
    rw [List.cons_append]
    simp only [toIn]
    rw [toIn_snoc n i l (p + 1) x, List.append_assoc, List.length_cons, show p + 1 + l.length = p + (l.length + 1) by omega]
theorem toG_snoc (i : Int) : ∀ (g : List Nd) (n : Nat) (x : Nd), toG i n (g ++ [x]) = toG i n g ++ toIn (n + g.length) i 0 x.ins
  | [], n, x => by simp [toG]
  | y :: g, n, x => by
    rw [List.cons_append]
    simp only [toG]
    rw [toG_snoc i g (n + 1) x, List.append_assoc, List.length_cons, show n + 1 + g.length = n + (g.length + 1) by omega]
theorem toIn_take {l : List Int} {p : Nat} {x : Int} (n : Nat) (i : Int) (h : l[p]? = some x) : toIn n i 0 (l.take (p + 1)) = toIn n i 0 (l.take p) ++ if x = i then [(n, p)] else [] := by
  have := (List.getElem?_eq_some_iff.1 h).1
  rw [List.take_add_one, h, Option.toList_some, toIn_snoc, List.length_take, Nat.min_eq_left (by omega), Nat.zero_add]
theorem toG_take {l : List Gn} {k : Nat} {x : Gn} (i : Int) (h : l[k]? = some x) : toG i 0 (nds (l.take (k + 1))) = toG i 0 (nds (l.take k)) ++ toIn k i 0 x.nd.ins := by
  have := (List.getElem?_eq_some_iff.1 h).1
  unfold nds
  rw [List.take_add_one, h, Option.toList_some, List.map_append, List.map_cons, List.map_nil, toG_snoc, List.length_map, List.length_take, Nat.min_eq_left (by omega), Nat.zero_add]
theorem toIn_len (n : Nat) (i : Int) : ∀ (l : List Int) (p : Nat), (toIn n i p l).length ≤ l.length
  | [], p => by simp [toIn]
  | x :: l, p => by
    have := toIn_len n i l (p + 1)
    simp only [toIn, List.length_append, List.length_cons]
    split <;> simp <;> omega
theorem toG_len (i : Int) (T : Nat) : ∀ (g : List Nd) (n : Nat), (∀ x ∈ g, x.ins.length ≤ T) → (toG i n g).length ≤ g.length * T
  | [], n, _ => by simp [toG]
  | x :: g, n, h => by
    have h1 := toG_len i T g (n + 1) fun y hy => h y (List.mem_cons_of_mem _ hy)
    have h2 := toIn_len n i x.ins 0
    have h3 := h x List.mem_cons_self
    simp only [toG, List.length_append, List.length_cons, Nat.succ_mul]
    omega
/-- how often i is among l -/
def cntI (i : Int) (l : List Int) : Nat := (l.filter fun x => decide (x = i)).length
theorem toIn_cnt (n : Nat) (i : Int) : ∀ (l : List Int) (p : Nat), (toIn n i p l).length = cntI i l
  | [], p => rfl
  | x :: l, p => by
    simp only [toIn, List.length_append, toIn_cnt n i l (p + 1), cntI, List.filter_cons]
    by_cases h : x = i
    · simp [h]; omega
    · simp [h]
def cntG (i : Int) (g : List Nd) : Nat := (g.map fun x => cntI i x.ins).sum
theorem toG_cnt (i : Int) : ∀ (g : List Nd) (n : Nat), (toG i n g).length = cntG i g
  | [], n => rfl
  | x :: g, n => by
    simp only [toG, List.length_append, toIn_cnt, toG_cnt i g (n + 1), cntG, List.map_cons, List.sum_cons]
/-- those that are numbers of nodes -/
def inI (L : Nat) (l : List Int) : Nat := (l.filter fun x : Int => decide (0 ≤ x ∧ x < (L : Int))).length
theorem sum_cntI (l : List Int) : ∀ (L : Nat), ((List.range L).map fun n => cntI (n : Nat) l).sum = inI L l
  | 0 => by
    have : inI 0 l = 0 := by
      unfold inI
      rw [List.length_eq_zero_iff, List.filter_eq_nil_iff]
      intro a _; simp only [decide_eq_true_eq]; omega
    simp [this]
  | L + 1 => by
    rw [List.range_succ, List.map_append, List.sum_append, sum_cntI l L]
    simp only [List.map_cons, List.map_nil, List.sum_cons, List.sum_nil, Nat.add_zero]
    unfold inI cntI
    induction l with
    | nil => rfl
    | cons x l ih =>
      by_cases h1 : x = (L : Int)
      · rw [List.filter_cons_of_neg (by simp; omega), List.filter_cons_of_pos (by simp; omega), List.filter_cons_of_pos (by simp; omega)]
        simp only [List.length_cons]; omega
      · by_cases h2 : 0 ≤ x ∧ x < (L : Int)
        · rw [List.filter_cons_of_pos (by simp; omega), List.filter_cons_of_neg (by simp; omega), List.filter_cons_of_pos (by simp; omega)]
          simp only [List.length_cons]; omega
        · rw [List.filter_cons_of_neg (by simp; omega), List.filter_cons_of_neg (by simp; omega), List.filter_cons_of_neg (by simp; omega)]
          exact ih
def inG (L : Nat) (g : List Nd) : Nat := (g.map fun x => inI L x.ins).sum
theorem sum_add (f h : Nat → Nat) (l : List Nat) : (l.map fun n => f n + h n).sum = (l.map f).sum + (l.map h).sum := by
  induction l with
  | nil => rfl
  | cons x l ih => simp only [List.map_cons, List.sum_cons, ih]; omega
/-- each input that is fed by a node is fed by just one -/
theorem fed_all (L : Nat) : ∀ (g : List Nd), ((List.range L).map fun n => cntG (n : Nat) g).sum = inG L g
  | [] => by
    simp only [cntG, inG, List.map_nil, List.sum_nil]
    induction (List.range L) with
    | nil => rfl
    | cons x l ih => simp only [List.map_cons, List.sum_cons, ih, Nat.add_zero]
  | x :: g => by
    simp only [cntG, inG, List.map_cons, List.sum_cons]
    rw [sum_add]
    have h1 := sum_cntI x.ins L
    have h2 := fed_all L g
    unfold cntG inG at h2
    rw [h1, h2]
theorem toIn_app (n : Nat) (i : Int) : ∀ (l m : List Int) (p : Nat), toIn n i p (l ++ m) = toIn n i p l ++ toIn n i (p + l.length) m
  | [], m, p => by simp [toIn]
  | x :: l, m, p => by
    rw [List.cons_append]
    simp only [toIn]
    rw [toIn_app n i l m (p + 1), List.append_assoc, List.length_cons, show p + 1 + l.length = p + (l.length + 1) by omega]
theorem toG_app (i : Int) : ∀ (g h : List Nd) (n : Nat), toG i n (g ++ h) = toG i n g ++ toG i (n + g.length) h
  | [], h, n => by simp [toG]
  | x :: g, h, n => by
    rw [List.cons_append]
    simp only [toG]
    rw [toG_app i g h (n + 1), List.append_assoc, List.length_cons, show n + 1 + g.length = n + (g.length + 1) by omega]
theorem split_at {α : Type} {l : List α} {k : Nat} {x : α} (h : l[k]? = some x) : l = l.take k ++ x :: l.drop (k + 1) := by
  obtain ⟨hl, e⟩ := List.getElem?_eq_some_iff.1 h
  rw [← e, List.getElem_cons_drop, List.take_append_drop]
/-- the input that is met is the next one of the row -/
theorem fed_at {l : List Gn} {k p : Nat} {x : Gn} {i : Int} (hx : l[k]? = some x) (hp : x.nd.ins[p]? = some i) :
    (toG i 0 (nds l))[(toG i 0 (nds (l.take k)) ++ toIn k i 0 (x.nd.ins.take p)).length]? = some (k, p) := by
  have hk := (List.getElem?_eq_some_iff.1 hx).1
  have hpl := (List.getElem?_eq_some_iff.1 hp).1
  have e : toG i 0 (nds l) = (toG i 0 (nds (l.take k)) ++ toIn k i 0 (x.nd.ins.take p)) ++ (k, p) :: (toIn k i (p + 1) (x.nd.ins.drop (p + 1)) ++ toG i (k + 1) (nds (l.drop (k + 1)))) := by
    have h1 : nds l = nds (l.take k) ++ x.nd :: nds (l.drop (k + 1)) := by
      unfold nds
      conv => lhs; rw [split_at hx]
      rw [List.map_append, List.map_cons]
    rw [h1, toG_app]
    have h2 : (nds (l.take k)).length = k := by rw [nds_len, List.length_take]; omega
    rw [h2, Nat.zero_add]
    show _ ++ (toIn k i 0 x.nd.ins ++ toG i (k + 1) _) = _
    conv => lhs; rw [split_at hp]
    rw [toIn_app, List.length_take, Nat.min_eq_left (by omega), Nat.zero_add]
    simp only [toIn, if_pos]
    simp
  rw [e, List.getElem?_append_right (Nat.le_refl _), Nat.sub_self]
  rfl
end

section
open Go.ChangeShapes Go.WideShapes Go.ChangeAt Go.RowKit Go.BigFrame
set_option maxRecDepth 100000
def kindB : Kind Nat := ⟨fun x => [.int .u8 (x : Nat)], 1, fun _ => rfl, fun t u hu => by simp only [List.mem_singleton] at hu; subst hu; rfl, by decide⟩
theorem infoU8 : (Try.prog.info? 5).map (fun i => (i.zero, i.size, i.bytes)) = some (some (.int .u8 0), 1, 1) := by kernel_rfl
/-- the error of Put -/
noncomputable def putE (g : List Nd) : Int := if g.length < 1 ∨ 32 < g.length then 3 else if mayB g = true then 0 else 90
noncomputable def putO (g : List Nd) : List Nat := if g.length < 1 ∨ 32 < g.length then [] else if mayB g = true then putG g else []
/-- what Put answers -/
def PutD (g : List Nd) (w : World) (e : Ending) (w' : World) : Prop := (∃ v, e = .returned (.tuple #[v, .int .i64 (putE g)]) ∧ w'.ownsRow w.heap.size 5 kindB.K v (putO g).length (Rw.row kindB (putO g))) ∧ Below w.heap.size w w'
theorem PutD.nil {g : List Nd} {w w' : World} {e : Int} (he : e = putE g) (h0 : putO g = []) (hb : Below w.heap.size w w') : PutD g w (.returned (.tuple #[.slice none 0 0, .int .i64 e])) w' :=
  ⟨⟨_, by rw [he], by rw [h0]; exact World.ownsRow_nil _ _ _ _⟩, hb⟩
theorem PutD.yes {g : List Nd} {w w' : World} {v : Value} {xs : List Nat} (he : 0 = putE g) (h0 : putO g = xs) (ho : w'.ownsRow w.heap.size 5 kindB.K v xs.length (Rw.row kindB xs)) (hb : Below w.heap.size w w') : PutD g w (.returned (.tuple #[v, .int .i64 0])) w' :=
  ⟨⟨_, by rw [he], by rw [h0]; exact ho⟩, hb⟩
/-- append to bytes of the call's own, of a row of a literal -/
theorem append_b {w : World} {ops : Array Oper} {rest : List Oper} {o : Oper} {a : Act} {Q : Exit → Act → World → Prop} (hgd : o.guard = none) (s x : Operand)
    (ho : o.op = .call { callee := .builtin .append, args := #[s, x], argTypes := #[48, 48] })
    (base : Nat) (v : Value) (n : Nat) (ts : List Nat) (hs : a.eval s = v) (hown : w.ownsRow base 5 kindB.K v n (Rw.row kindB ts))
    (b : Nat) (c : Nat) (ys : List Nat) (hx : a.eval x = .slice (some ⟨b, 0, none⟩) ys.length c) (hb : Rw.Ts kindB w (some ⟨b, 0, none⟩) ys)
    (hle : n + ys.length ≤ 100000) (hbase : base ≤ w.heap.size)
    (h : ∀ v' w', w'.ownsRow base 5 kindB.K v' (n + ys.length) (Rw.row kindB (ts ++ ys)) → w.grownBy w' v.ownBlock → wpList Try.prog ops Q rest (a.put o.dst v') w') : wpList Try.prog ops Q (o :: rest) a w :=
  Rw.append_own kindB 5 48 Try.underlying48 infoU8 rfl hgd s x ho base v n ts hs hown (some ⟨b, 0, none⟩) c ys hx (fun e => by cases e) hb (by unfold maxLen; omega) (by omega) hbase h
theorem nodes_bytes (x : Nd) : x.put.length = 12 + x.ins.length := by simp [Nd.put, be8]; omega
theorem putNs_len : ∀ (l : List Nd), (∀ n ∈ l, n.May) → (putNs l).length ≤ l.length * 14
  | [], _ => by simp [putNs]
  | n :: l, hl => by
    have h1 := putNs_len l fun m hm => hl m (List.mem_cons_of_mem _ hm)
    have h2 := (hl n List.mem_cons_self).2.1
    have h3 := nodes_bytes n
    simp only [putNs, List.map_cons, List.flatten_cons, List.length_append, List.length_cons] at h1 ⊢
    omega
theorem putNs_take {l : List Gn} (h : GMay (nds l)) (k : Nat) : (l.length :: putNs (nds (l.take k))).length ≤ 500 := by
  have h1 := putNs_len (nds (l.take k)) fun n hn => h.2 n (by
    unfold nds at hn ⊢
    rw [List.map_take] at hn
    exact List.mem_of_mem_take hn)
  have h2 := h.1.2
  rw [nds_len] at h1 h2
  have : (l.take k).length ≤ l.length := List.length_take_le' ..
  simp only [List.length_cons]; omega
theorem putNs_more {l : List Gn} {k : Nat} {x : Gn} (hx : l[k]? = some x) : putNs (nds (l.take (k + 1))) = putNs (nds (l.take k)) ++ x.nd.put := by
  unfold nds putNs
  rw [List.take_add_one, hx]; simp
/-- a node's box at g, and the bytes bs of the call's own -/
structure PutS (w0 w : World) (base g : Nat) (cs : List Value) (v : Value) (bs : List Nat) : Prop where
  below : Below base w0 w
  lo : base ≤ w.heap.size
  row : Row w g 24 cs
  own : w.ownsRow base 5 kindB.K v bs.length (Rw.row kindB bs)
theorem PutS.app {w0 w w' : World} {base g : Nat} {cs : List Value} {v v' : Value} {bs ys : List Nat} (h : PutS w0 w base g cs v bs) (o : Obj) (hv : w'.ownsRow base 5 kindB.K v' (bs.length + ys.length) (Rw.row kindB (bs ++ ys)))
    (hg : (w.alloc o).grownBy w' v.ownBlock) : PutS w0 w' base g cs v' (bs ++ ys) where
  below := Rw.own_below (h.own.alloc o) hg (h.below.alloc h.lo o) (by have := h.lo; simp; omega)
  lo := by have := h.lo; have := hg.size; simp at this; omega
  row := (h.row.alloc o).grown hg (Rw.own_apart (h.own.alloc o) (h.row.alloc o) (by decide))
  own := by rw [List.length_append]; exact hv
end
end Go.Proofs.Ytcjdjdhjbchaaaa
