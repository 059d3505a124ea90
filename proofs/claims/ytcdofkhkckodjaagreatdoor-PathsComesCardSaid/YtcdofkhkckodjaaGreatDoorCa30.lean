/- NxSlc, SmLeqR, NxLeast, PaWays, PlAny, OrdMath, ChkRun, PlMath -/
import Derived.Test.YtcdofkhkckodjaaGreatDoorCa29
import Derived.Test.YtcdofkhkckodjaaGreatDoorCa5
import Derived.Test.YtcdofkhkckodjaaGreatDoorCa15
import Derived.Test.YtcdofkhkckodjaaGreatDoorCa21
import Derived.Test.YtcdofkhkckodjaaGreatDoorCa10
namespace Go.Proofs.YtcdofkhkckodjaaGreatDoor
set_option linter.unusedVariables false
section
namespace Nx
open Go.ChangeShapes Go.WideShapes Go.ChangeAt Go.RowKit Go.BigFrame Go.Shelf
set_option maxRecDepth 100000
theorem own_slice {w : World} {base n : Nat} {v : Value} {ts : List Sm} (h : w.ownsRow base 78 7 v n (Mx.rowS ts)) : ∃ A c, v = .slice A ts.length c ∧ Ts w A ts ∧ ts.length ≤ c ∧ c ≤ maxLen ∧ (A = none → c = 0) := by
  obtain ⟨A, c, e, h1, h2, h3⟩ := Times.of_own h
  refine ⟨A, c, e, Ts.of h1, h2, h3, fun hA => ?_⟩
  subst hA
  rcases h.2 with ⟨e2, _⟩ | ⟨g, cap, cur, e2, _⟩
  · rw [e] at e2; injection e2
  · rw [e] at e2; injection e2 with h; cases h
structure Slc (w : World) (A : Option Addr) (c : Nat) (l : List Sm) : Prop where
  ts : Ts w A l
  le : l.length ≤ c
  max : c ≤ maxLen
  nil : A = none → c = 0
theorem Slc.below {w w' : World} {A : Option Addr} {c : Nat} {l : List Sm} (h : Slc w A c l) (hb : Below w.heap.size w w') : Slc w' A c l := ⟨h.ts.below hb, h.le, h.max, h.nil⟩
theorem Slc.of_own {w : World} {base n : Nat} {v : Value} {ts : List Sm} (h : w.ownsRow base 78 7 v n (Mx.rowS ts)) : ∃ A c, v = .slice A ts.length c ∧ Slc w A c ts := by
  obtain ⟨A, c, e, h1, h2, h3, h4⟩ := own_slice h
  exact ⟨A, c, e, ⟨h1, h2, h3, h4⟩⟩
theorem grown_refl (w : World) (row : Option Nat) : w.grownBy w row := ⟨rfl, rfl, rfl, Nat.le_refl _, fun _ _ _ => rfl⟩
theorem wpList_append_ts {w : World} {ops : Array Oper} {rest : List Oper} {o : Oper} {a : Act} {Q : Exit → Act → World → Prop} (hgd : o.guard = none) (s x : Operand)
    (ho : o.op = .call { callee := .builtin .append, args := #[s, x], argTypes := #[38, 38] })
    (base : Nat) (v : Value) (n : Nat) (ts : List Sm) (hs : a.eval s = v) (hown : w.ownsRow base 78 7 v n (Mx.rowS ts))
    (A : Option Addr) (c : Nat) (ys : List Sm) (hx : a.eval x = .slice A ys.length c) (hA0 : A = none → c = 0) (hb : Ts w A ys)
    (hle : n + ys.length ≤ 20000000) (hbase : base ≤ w.heap.size)
    (h : ∀ v' w', w'.ownsRow base 78 7 v' (n + ys.length) (Mx.rowS (ts ++ ys)) → w.grownBy w' v.ownBlock → wpList Tryz.prog ops Q rest (a.put o.dst v') w') : wpList Tryz.prog ops Q (o :: rest) a w := by
  obtain ⟨i, hi, hz0, hz1, hz2⟩ := info_parts infoRef
  cases A with
  | none =>
    have hy : ys = [] := by
      cases ys with
      | nil => rfl
      | cons y ys => obtain ⟨b, o, e, _⟩ := hb (by simp); cases e
    subst hy
    rw [hA0 rfl] at hx
    refine wpList_append_own_none hgd s x 38 ho base 78 i 7 Tryz.underlying38 hi v n (Mx.rowS ts) hs hown hx ?_
    exact h v w (by rw [List.append_nil]; exact hown) (grown_refl _ _)
  | some ad =>
    refine wpList_append_own w hgd s x 38 ho base 78 i _ 7 56 Tryz.underlying38 hi hz0 hz1 hz2 rfl (by omega) v n (Mx.rowS ts) hs hown ad ys.length c (Mx.rowS ys) hx (Mx.rowS_len ys) ?_ (Mx.rowS_one ys) (by unfold maxLen; omega) (by omega) hbase ?_
    · intro j u hj
      have hp : 0 < ys.length := by
        have := (List.getElem?_eq_some_iff.1 hj).1
        rw [Mx.rowS_len] at this; omega
      obtain ⟨b, o, e, _, hcell⟩ := hb hp
      cases e
      rw [add_at]; exact hcell j u hj
    · intro v' w' h1 h2 _
      exact h v' w' (by rw [Mx.rowS_append]; exact h1) h2
section
variable {o : List Sm} {k : Nat}
theorem Slc.of_ownB {w : World} {base n : Nat} {v : Value} {ts : List Sm} (h : w.ownsRow base 78 7 v n (Mx.rowS ts)) : ∃ A c, v = .slice A ts.length c ∧ Slc w A c ts ∧ ∀ ad, A = some ad → base ≤ ad.block := by
  obtain ⟨A, c, e, hs⟩ := Slc.of_own h
  refine ⟨A, c, e, hs, fun ad hA => ?_⟩
  obtain ⟨_, ⟨hv, _⟩ | ⟨g, cap, cur, hv, hg, _⟩⟩ := h
  · rw [hv] at e; injection e with e1; rw [← e1] at hA; cases hA
  · rw [hv] at e; injection e with e1; rw [← e1] at hA; cases hA; exact hg
theorem wpList_append_tn {w : World} {ops : Array Oper} {rest : List Oper} {o : Oper} {a : Act} {Q : Exit → Act → World → Prop} (hgd : o.guard = none) (s x : Operand)
    (ho : o.op = .call { callee := .builtin .append, args := #[s, x], argTypes := #[38, 38] })
    (base : Nat) (v : Value) (n : Nat) (ts : List Sm) (hs : a.eval s = v) (hown : w.ownsRow base 78 7 v n (Mx.rowS ts))
    (A : Option Addr) (c m : Nat) (ys : List Sm) (hm : ys.length = m) (hx : a.eval x = .slice A m c) (hA0 : A = none → c = 0) (hb : Ts w A ys)
    (hle : n + ys.length ≤ 20000000) (hbase : base ≤ w.heap.size)
    (h : ∀ v' w', w'.ownsRow base 78 7 v' (n + ys.length) (Mx.rowS (ts ++ ys)) → w.grownBy w' v.ownBlock → wpList Tryz.prog ops Q rest (a.put o.dst v') w') : wpList Tryz.prog ops Q (o :: rest) a w := by
  subst hm
  exact wpList_append_ts hgd s x ho base v n ts hs hown A c ys hx hA0 hb hle hbase h
theorem slc_none (w : World) : Slc w none 0 [] := ⟨Ts.nil, by simp, by unfold maxLen; omega, fun _ => rfl⟩
end
section
variable {ts o : List Sm} {t x y z : Sm} {k m q : Nat}
theorem mem_take_at {k : Nat} (h : x ∈ ts.take k) : ∃ j, j < k ∧ ts[j]? = some x := by
  obtain ⟨j, hj⟩ := List.getElem?_of_mem h
  rw [List.getElem?_take] at hj
  split at hj
  · rename_i h1; exact ⟨j, h1, hj⟩
  · cases hj
def badJ (k : Nat) (t : Sm) (j : Nat) (x : Sm) : Bool := (!eqS x t && decide (x.L t)) || (decide (j < k) && eqS x t)
def StayTo (ts : List Sm) (k : Nat) (t : Sm) (m : Nat) : Prop := t.R ∧ ∀ (j : Nat) (x : Sm), j < m → ts[j]? = some x → badJ k t j x = false
noncomputable instance (ts : List Sm) (k : Nat) (t : Sm) (m : Nat) : Decidable (StayTo ts k t m) := Classical.propDecidable _
def GoodO (ts : List Sm) (k : Nat) (o : List Sm) : Prop := o.Pairwise Sm.A ∧ ∀ x, x ∈ o ↔ x ∈ ts.take k ∧ LeastW ts x
theorem stay_iff (ht : ts[k]? = some t) : StayTo ts k t ts.length ↔ LeastW ts t ∧ t ∉ ts.take k := by
  constructor
  · rintro ⟨hr, h⟩
    refine ⟨⟨hr, fun z hz hl => ?_⟩, fun hm => ?_⟩
    · obtain ⟨j, hj⟩ := List.getElem?_of_mem hz
      have := h j z (List.getElem?_eq_some_iff.1 hj).1 hj
      unfold badJ eqS at this
      simp only [Bool.or_eq_false_iff, Bool.and_eq_false_iff, Bool.not_eq_false', decide_eq_true_eq, decide_eq_false_iff_not] at this
      rcases this.1 with h1 | h1
      · exact h1
      · exact absurd hl h1
    · obtain ⟨j, hj, hx⟩ := mem_take_at hm
      have := h j t (List.getElem?_eq_some_iff.1 hx).1 hx
      unfold badJ eqS at this
      simp [hj] at this
  · rintro ⟨h1, h2⟩
    refine ⟨h1.1, fun j x hj hx => ?_⟩
    unfold badJ eqS
    simp only [Bool.or_eq_false_iff, Bool.and_eq_false_iff, Bool.not_eq_false', decide_eq_true_eq, decide_eq_false_iff_not]
    refine ⟨?_, ?_⟩
    · by_cases hl : x.L t
      · exact .inl (h1.2 x (List.mem_of_getElem? hx) hl)
      · exact .inr hl
    · by_cases e : x = t
      · subst e
        refine .inl fun hjk => h2 ?_
        exact List.mem_of_getElem? (i := j) (by rw [List.getElem?_take, if_pos hjk]; exact hx)
      · exact .inr e
theorem mem_next (ht : ts[k]? = some t) : x ∈ ts.take (k + 1) ↔ x ∈ ts.take k ∨ x = t := by
  rw [List.take_add_one, ht]; simp
theorem good_skip (h : GoodO ts k o) (ht : ts[k]? = some t) (hl : ¬ StayTo ts k t ts.length) : GoodO ts (k + 1) o := by
  rw [stay_iff ht] at hl
  refine ⟨h.1, fun x => ?_⟩
  rw [h.2 x, mem_next ht]
  constructor
  · rintro ⟨h1, h2⟩; exact ⟨.inl h1, h2⟩
  · rintro ⟨h1 | rfl, h2⟩
    · exact ⟨h1, h2⟩
    · refine ⟨?_, h2⟩
      apply Classical.byContradiction
      exact fun h3 => hl ⟨h2, h3⟩
def stepS (o : List Sm) (q : Nat) (t : Sm) : Bool := match o[q]? with | some y => decide (y.A t) | none => false
theorem good_put (h : GoodO ts k o) (ht : ts[k]? = some t) (hl : StayTo ts k t ts.length) (hq : ∀ (j : Nat) (x : Sm), j < q → o[j]? = some x → x.A t) (hs : stepS o q t = false) : GoodO ts (k + 1) (o.take q ++ [t] ++ o.drop q) := by
  rw [stay_iff ht] at hl
  have hno : t ∉ o := fun hm => hl.2 ((h.2 t).1 hm).1
  have hsort := h.1
  rw [← List.take_append_drop q o, List.pairwise_append] at hsort
  have hdrop : ∀ y ∈ o.drop q, t.A y := by
    intro y hy
    cases hd : o.drop q with
    | nil => rw [hd] at hy; cases hy
    | cons a r =>
      have ha : o[q]? = some a := by
        have : (o.drop q)[0]? = some a := by rw [hd]; rfl
        rwa [List.getElem?_drop] at this
      have hat : t.A a := by
        unfold stepS at hs
        rw [ha] at hs
        have h1 : ¬ a.A t := of_decide_eq_false hs
        rcases Sm.A_total (x := t) (y := a) (fun e => hno (by rw [e]; exact List.mem_of_getElem? ha)) with h2 | h2
        · exact h2
        · exact absurd h2 h1
      rw [hd] at hy
      rcases List.mem_cons.1 hy with rfl | hy
      · exact hat
      · have := hsort.2.1
        rw [hd] at this
        exact Sm.A_trans hat ((List.pairwise_cons.1 this).1 y hy)
  have htake : ∀ y ∈ o.take q, y.A t := by
    intro y hy
    obtain ⟨j, hj, hx⟩ := mem_take_at hy
    exact hq j y hj hx
  refine ⟨?_, fun x => ?_⟩
  · rw [List.append_assoc, List.pairwise_append]
    refine ⟨hsort.1, ?_, ?_⟩
    · rw [List.singleton_append, List.pairwise_cons]
      exact ⟨hdrop, hsort.2.1⟩
    · intro a ha b hb
      rw [List.singleton_append] at hb
      rcases List.mem_cons.1 hb with rfl | hb
      · exact htake a ha
      · exact hsort.2.2 a ha b hb
  · have e : x ∈ o.take q ++ [t] ++ o.drop q ↔ x ∈ o ∨ x = t := by
      conv => rhs; rw [← List.take_append_drop q o]
      simp only [List.mem_append, List.mem_singleton]
      constructor
      · rintro ((h | h) | h)
        · exact .inl (.inl h)
        · exact .inr h
        · exact .inl (.inr h)
      · rintro ((h | h) | h)
        · exact .inl (.inl h)
        · exact .inr h
        · exact .inl (.inr h)
    rw [e, h.2 x, mem_next ht]
    constructor
    · rintro (⟨h1, h2⟩ | rfl)
      · exact ⟨.inl h1, h2⟩
      · exact ⟨.inr rfl, hl.1⟩
    · rintro ⟨h1 | rfl, h2⟩
      · exact .inl ⟨h1, h2⟩
      · exact .inr rfl
theorem good_end (h : GoodO ts ts.length o) : o = waysS ts := by
  refine waysS_eq h.1 fun x => ?_
  have := h.2 x
  rwa [List.take_length] at this
theorem lti_is {x y : Operand} {i j : Int} {p : Bool} (h : decide (i < j) = p) : ∀ w, (do eqGuard .lss 3 x y (.int .i64 i) (.int .i64 j); binOp .lss 3 (.int .i64 i) (.int .i64 j) : Sem Value).run Tryz.prog w = .ok (.bool p) w := by
  intro w; subst h; go_simp
theorem own_len {w : World} {base n : Nat} {v : Value} {ts : List Sm} (h : w.ownsRow base 78 7 v n (Mx.rowS ts)) : n = ts.length := by
  have := h.1; rw [Mx.rowS_len] at this; omega
end
end Nx
end

section
open Go.ChangeShapes Go.WideShapes Go.ChangeAt Go.RowKit Go.BigFrame
set_option maxRecDepth 100000
section
variable {P : Program} {C : World → Prop} {K : Act → Prop} {a : Act} {o : Oper} {ops : Array Oper}
end
end

section
namespace Nx
open Go.ChangeShapes Go.WideShapes Go.ChangeAt Go.RowKit Go.BigFrame Go.Shelf
set_option maxRecDepth 100000
end Nx
end

section
open Go.ChangeShapes Go.WideShapes Go.ChangeAt Go.RowKit Go.BigFrame
set_option maxRecDepth 100000
def atI (t : Int) : List (Nat × Sm) → List Sm
  | [] => []
  | a :: l => if ((a.1 : Nat) : Int) = t then a.2 :: atI t l else atI t l
theorem atI_nat (n : Nat) : ∀ l : List (Nat × Sm), atI ((n : Nat) : Int) l = atA n l
  | [] => rfl
  | a :: l => by
    unfold atI atA
    rw [atI_nat n l]
    by_cases h : a.1 = n
    · rw [if_pos h, if_pos (by omega)]
    · rw [if_neg h, if_neg (by omega)]
theorem atI_neg {t : Int} (ht : t < 0) : ∀ l : List (Nat × Sm), atI t l = []
  | [] => rfl
  | a :: l => by unfold atI; rw [if_neg (by omega), atI_neg ht l]
theorem atI_append (t : Int) : ∀ l m : List (Nat × Sm), atI t (l ++ m) = atI t l ++ atI t m
  | [], m => rfl
  | a :: l, m => by
    rw [List.cons_append]
    show (if ((a.1 : Nat) : Int) = t then a.2 :: atI t (l ++ m) else atI t (l ++ m)) = (if ((a.1 : Nat) : Int) = t then a.2 :: atI t l else atI t l) ++ atI t m
    rw [atI_append t l m]
    split <;> rfl
theorem atI_take {t : Int} {l : List (Nat × Sm)} {k : Nat} {a : Nat × Sm} (h : l[k]? = some a) : atI t (l.take (k + 1)) = if ((a.1 : Nat) : Int) = t then atI t (l.take k) ++ [a.2] else atI t (l.take k) := by
  rw [List.take_add_one, h, Option.toList_some, atI_append]
  by_cases e : ((a.1 : Nat) : Int) = t
  · rw [if_pos e, show atI t [a] = if ((a.1 : Nat) : Int) = t then [a.2] else [] from rfl, if_pos e]
  · rw [if_neg e, show atI t [a] = if ((a.1 : Nat) : Int) = t then [a.2] else [] from rfl, if_neg e, List.append_nil]
theorem atI_len (t : Int) : ∀ l : List (Nat × Sm), (atI t l).length ≤ l.length
  | [] => Nat.le_refl _
  | a :: l => by
    have := atI_len t l
    unfold atI
    split
    · rw [List.length_cons, List.length_cons]; omega
    · rw [List.length_cons]; omega
structure LOf (g : List Nd) (f : Int) (L : List (Nat × Sm)) : Prop where
  out : (f < 0 ∨ (g.length : Int) ≤ f) → L = []
  all : ∀ i : Nat, f = i → i < g.length → AllW g i L L.length
theorem LOf.len {g : List Nd} {f : Int} {L : List (Nat × Sm)} (hF : Fine g) (h : LOf g f L) : L.length ≤ g.length * 4194304 := by
  by_cases hf : f < 0 ∨ (g.length : Int) ≤ f
  · rw [h.out hf]; exact Nat.zero_le _
  · exact (h.all f.toNat (by omega) (by omega)).bound hF
theorem LOf.atLen {g : List Nd} {f t : Int} {L : List (Nat × Sm)} (hF : Fine g) (h : LOf g f L) : (atI t L).length ≤ 4194304 := by
  by_cases hf : f < 0 ∨ (g.length : Int) ≤ f
  · rw [h.out hf]; exact Nat.zero_le _
  · have ha := h.all f.toNat (by omega) (by omega)
    by_cases ht : t < 0
    · rw [atI_neg ht]; exact Nat.zero_le _
    · rw [show t = ((t.toNat : Nat) : Int) by omega, atI_nat]
      exact atA_bound hF ha.nodup ha.sound _
def AllI (g : List Nd) (f : Int) (w : World) (e : Ending) (w' : World) : Prop := (∃ v L, e = .returned v ∧ OwnA w w' v L ∧ LOf g f L) ∧ Below w.heap.size w w'
theorem refAll_any (A : Option Addr) (lg : List Gn) (c : Nat) (f : Int) (w : World) (hG : Gr w A lg) (hl : lg.length ≤ 14) (hI : ∀ x ∈ nds lg, x.ins.length ≤ 40) (hF : Fine (nds lg)) :
    Calls Tryz.prog 44 #[.slice A lg.length c, .int .i64 f] w (AllI (nds lg) f w) := by
  by_cases hf : f < 0 ∨ (lg.length : Int) ≤ f
  · refine (refAll_out A lg c f w hf).mono ?_
    rintro e w' ⟨rfl, hb⟩
    exact ⟨⟨_, [], rfl, World.ownsRow_nil _ _ _ _, fun _ => rfl, fun i h1 h2 => by rw [nds_len] at h2; omega⟩, hb⟩
  · obtain ⟨i, rfl⟩ : ∃ i : Nat, f = i := ⟨f.toNat, by omega⟩
    refine (refAll_in A lg c i w hG (by omega) hl hI hF).mono ?_
    rintro e w' ⟨⟨v, L, rfl, ho, ha⟩, hb⟩
    exact ⟨⟨v, L, rfl, ho, fun h => by rw [nds_len] at h; omega, fun j h1 h2 => by
      have : j = i := by omega
      subst this; exact ha⟩, hb⟩
end

section
open Go.ChangeShapes Go.WideShapes Go.ChangeAt Go.RowKit Go.BigFrame
set_option maxRecDepth 100000
def WaysOf (g : List Nd) (f t : Int) (l : List Sm) : Prop :=
  (∃ (i n : Nat) (T : List (List Sm)) (D : List (Nat × Sm)), f = (i : Nat) ∧ t = (n : Nat) ∧ i < g.length ∧ n < g.length ∧ Run g i T D [] ∧ T[n]? = some l) ∨
  (¬ ((0 ≤ f ∧ f < (g.length : Int)) ∧ 0 ≤ t ∧ t < (g.length : Int)) ∧ l = [])
theorem atA_out {g : List Nd} {i n : Nat} {L : List (Nat × Sm)} (hs : ∀ (n : Nat) (s : Sm), (n, s) ∈ L → Arr g i n s) (hn : g.length ≤ n) : atA n L = [] := by
  apply List.eq_nil_iff_forall_not_mem.2
  intro s h
  have := (hs n s (mem_atA.1 h)).lt
  omega
theorem WaysOf.eq {g : List Nd} {f t : Int} {l : List Sm} {L : List (Nat × Sm)} (h : WaysOf g f t l) (hL : LOf g f L) : l = waysS (atI t L) := by
  rcases h with ⟨i, n, T, D, rfl, rfl, hi, hn, hr, hl⟩ | ⟨hno, rfl⟩
  · rw [atI_nat]
    exact hr.ends (fun m s => (hL.all i rfl hi).all) hl
  · by_cases hf : f < 0 ∨ (g.length : Int) ≤ f
    · rw [hL.out hf]; rfl
    · by_cases ht : t < 0
      · rw [atI_neg ht]; rfl
      · have ha := hL.all f.toNat (by omega) (by omega)
        rw [show t = ((t.toNat : Nat) : Int) by omega, atI_nat, atA_out ha.sound (by omega)]; rfl
theorem WaysOf.len {g : List Nd} {f t : Int} {l : List Sm} (h : WaysOf g f t l) : l.length ≤ 4194304 := by
  rcases h with ⟨i, n, T, D, rfl, rfl, hi, hn, hr, hl⟩ | ⟨hno, rfl⟩
  · exact hr.row hl
  · exact Nat.zero_le _
def RowI (w : World) (v : Value) (l : List Sm) : Prop := ∃ A c, v = .slice A l.length c ∧ Rw.Ts kindS w A l ∧ l.length ≤ c ∧ c ≤ maxLen ∧ (A = none → c = 0)
theorem RowI.nil (w : World) : RowI w (.slice none 0 0) [] := ⟨none, 0, rfl, Rw.Ts.nil, Nat.le_refl _, Nat.zero_le _, fun _ => rfl⟩
def LeastD (w : World) (base p F : Nat) (A : Option Addr) (c : Nat) (lg : List Gn) (f t : Int) (e : Ending) (w' : World) : Prop :=
  (∃ v l, e = .returned v ∧ WaysOf (nds lg) f t l ∧ RowI w' v l) ∧ (∃ fs, Pth w' base p F A c lg fs) ∧ Touch (fun b => b = F) w w'
theorem least_any (p F c base : Nat) (A : Option Addr) (lg : List Gn) (fs : List (Option Sl)) (f t : Int) (w : World) (hP : Pth w base p F A c lg fs) (hl : lg.length ≤ 14) (hI : ∀ x ∈ nds lg, x.ins.length ≤ 40) (hFi : Fine (nds lg)) :
    Calls Tryz.prog 43 #[.pointer (some ⟨p, 0, none⟩), .int .i64 f, .int .i64 t] w (LeastD w base p F A c lg f t) := by
  have hc : w.cell? ⟨p, 0, none⟩ = some (.slice A lg.length c) := hP.row.cell 0
  by_cases hf : 0 ≤ f ∧ f < (lg.length : Int)
  · by_cases ht : 0 ≤ t ∧ t < (lg.length : Int)
    · obtain ⟨i, hi⟩ : ∃ i : Nat, f = (i : Nat) := ⟨f.toNat, by omega⟩
      obtain ⟨n, hn⟩ : ∃ n : Nat, t = (n : Nat) := ⟨t.toNat, by omega⟩
      subst hi hn
      obtain ⟨x, hx⟩ : ∃ x, fs[i]? = some x := ⟨_, List.getElem?_eq_getElem (by rw [hP.len]; omega)⟩
      cases x with
      | none =>
        refine (least_fresh p F c A lg fs base i n w hP (by omega) (by omega) hx hl hI hFi).mono ?_
        rintro e w' ⟨⟨v, l, he, B, cc, T, D, hv, hT, h1, h2, h3, hr, hl⟩, ⟨s, hp⟩, ht⟩
        exact ⟨⟨v, l, he, .inl ⟨i, n, T, D, rfl, rfl, by rw [nds_len]; omega, by rw [nds_len]; omega, hr, hl⟩, B, cc, hv, hT, h1, h2, h3⟩, ⟨_, hp⟩, ht⟩
      | some s =>
        refine (least_known p F c A lg fs base i n s w hP (by omega) (by omega) hx hl).mono ?_
        rintro e w' ⟨⟨v, l, he, B, cc, T, D, hv, hT, h1, h2, h3, hr, hl⟩, hb⟩
        exact ⟨⟨v, l, he, .inl ⟨i, n, T, D, rfl, rfl, by rw [nds_len]; omega, by rw [nds_len]; omega, hr, hl⟩, B, cc, hv, hT, h1, h2, h3⟩, ⟨_, hP.below hb⟩, Touch.of_below hb⟩
    · refine (least_offA p lg.length c base A f t w hc (decide_eq_true hf) (decide_eq_false ht)).mono ?_
      rintro e w' ⟨rfl, hb⟩
      exact ⟨⟨_, [], rfl, .inr ⟨fun h => ht (by rw [nds_len] at h; exact h.2), rfl⟩, RowI.nil _⟩, ⟨_, hP.below hb⟩, Touch.of_below hb⟩
  · refine (least_offB p lg.length c base A f t w hc (decide_eq_false hf)).mono ?_
    rintro e w' ⟨rfl, hb⟩
    exact ⟨⟨_, [], rfl, .inr ⟨fun h => hf (by rw [nds_len] at h; exact h.1), rfl⟩, RowI.nil _⟩, ⟨_, hP.below hb⟩, Touch.of_below hb⟩
def WayD (w : World) (base p F : Nat) (A : Option Addr) (c : Nat) (lg : List Gn) (f t : Int) (e : Ending) (w' : World) : Prop :=
  (∃ v l, e = .returned v ∧ WaysOf (nds lg) f t l ∧ w'.ownsRow w.heap.size 44 kindS.K v l.length (Rw.row kindS l)) ∧ (∃ fs, Pth w' base p F A c lg fs) ∧ Touch (fun b => b = F) w w'
theorem ways_any (p F c base : Nat) (A : Option Addr) (lg : List Gn) (fs : List (Option Sl)) (f t : Int) (w : World) (hP : Pth w base p F A c lg fs) (hl : lg.length ≤ 14) (hI : ∀ x ∈ nds lg, x.ins.length ≤ 40) (hFi : Fine (nds lg)) :
    Calls Tryz.prog 14 #[.pointer (some ⟨p, 0, none⟩), .int .i64 f, .int .i64 t] w (WayD w base p F A c lg f t) := by
  have H := Lib.hid (least_any p F c base A lg fs f t w hP hl hI hFi); clear hP hI hFi
  go_enter Tryz.func14, Tryz.ntmps14
  go_wp2_with fail
  refine H.out.mono ?_; rintro e w1 ⟨⟨v, l, rfl, hw, LA, lc, rfl, hT, h1, h2, h3⟩, ⟨fs', hP⟩, ht⟩
  have HCL := Lib.hid (cloneS_any LA l lc w1 hT (fun e => ⟨h3 e, List.eq_nil_of_length_eq_zero (by have := h3 e; omega)⟩) (by have := hw.len; omega))
  have HW := Lib.hid (And.intro hw (And.intro hP ht)); clear hw hT h1 h2 h3 hP ht
  dsimp only
  go_wp2_with fail
  refine HCL.out.mono ?_; rintro e w2 ⟨⟨v2, rfl, ho⟩, hb⟩
  have HO := Lib.hid (And.intro ho hb); clear ho hb HCL
  dsimp only
  go_wp2_with fail
  go_ret
  obtain ⟨hw, hP, ht⟩ := HW.out
  obtain ⟨ho, hb⟩ := HO.out
  exact ⟨⟨_, l, rfl, hw, own_base ho ht.size⟩, ⟨_, hP.below hb⟩, ht.trans (Touch.of_below hb)⟩
end

section
def MayNext (g : List Nd) (T : List Nat) (i : Nat) : Prop := i ∉ T ∧ ∃ x, g[i]? = some x ∧ (x.k = 9 ∨ ∀ z ∈ x.ins, 0 ≤ z ∧ z.toNat ∈ T)
noncomputable def nextO (g : List Nd) (T : List Nat) : Option Nat := firstP (MayNext g T) g.length
def OrdT (g : List Nd) (T : List Nat) : Prop := ∀ (j i : Nat), T[j]? = some i → nextO g (T.take j) = some i
theorem OrdT.take {g : List Nd} {T : List Nat} (h : OrdT g T) (n : Nat) : OrdT g (T.take n) := fun j i hi => by
  rw [List.getElem?_take] at hi
  split at hi
  · rw [List.take_take, Nat.min_eq_left (by omega)]
    exact h j i hi
  · cases hi
end

section
instance (n : Nd) : Decidable n.May := inferInstanceAs (Decidable ((0 ≤ n.d ∧ n.d ≤ 3) ∧ n.ins.length ≤ 2 ∧ ∀ x ∈ n.ins, 0 ≤ x ∧ x ≤ 31))
instance (g : List Nd) : Decidable (GMay g) := inferInstanceAs (Decidable ((1 ≤ g.length ∧ g.length ≤ 32) ∧ ∀ n ∈ g, n.May))
theorem putE_ok {g : List Nd} (h : GMay g) : putE g = 0 := by
  have h1 := h.1
  unfold putE
  rw [if_neg (by omega), if_pos (mayB_iff.2 h)]
def portC (g : List Nd) (z : Int) : Bool := decide (0 ≤ z) && match g[z.toNat]? with | some m => decide (m.k ≠ 10) | none => false
def errC (g : List Nd) (n : Nd) : Int :=
  if n.num = false then 130
  else if (n.ins.all (portC g) && decide (n.ins.length = n.want)) = false then 100
  else if (n.deepB && n.ins.all fun z => match g[z.toNat]? with | some m => decide (n.d - n.more = m.d) | none => true) = false then 101 else 0
theorem portC_iff {g : List Nd} {z : Int} : portC g z = true ↔ portOk g z := by
  unfold portC portOk
  cases h : g[z.toNat]? with
  | none => simp
  | some m => simp
theorem errC_is (g : List Nd) (n : Nd) : n.err g = errC g n := by
  have hp : (n.ins.all (portC g) && decide (n.ins.length = n.want)) = true ↔ n.Ports g := by
    unfold Nd.Ports
    rw [Bool.and_eq_true, List.all_eq_true, decide_eq_true_iff]
    exact ⟨fun h => ⟨fun z hz => portC_iff.1 (h.1 z hz), h.2⟩, fun h => ⟨fun z hz => portC_iff.2 (h.1 z hz), h.2⟩⟩
  have hd : (n.deepB && n.ins.all fun z => match g[z.toNat]? with | some m => decide (n.d - n.more = m.d) | none => true) = true ↔ n.Deep g := by
    unfold Nd.Deep
    rw [Bool.and_eq_true, List.all_eq_true]
    constructor
    · rintro ⟨h1, h2⟩
      refine ⟨h1, fun z hz m hm => ?_⟩
      have := h2 z hz
      rw [hm] at this
      simpa using this
    · rintro ⟨h1, h2⟩
      refine ⟨h1, fun z hz => ?_⟩
      cases hm : g[z.toNat]? with
      | none => rfl
      | some m => simpa using h2 z hz m hm
  unfold errC
  by_cases h1 : n.num = false
  · rw [err_num h1, if_pos h1]
  · rw [if_neg h1]
    have h1' : n.num = true := by simpa using h1
    by_cases h2 : n.Ports g
    · rw [if_neg (by rw [hp.2 h2]; simp)]
      by_cases h3 : n.Deep g
      · rw [if_neg (by rw [hd.2 h3]; simp), err_ok h1' h2 h3]
      · rw [if_pos (by rw [← Bool.not_eq_true]; exact fun h => h3 (hd.1 h)), err_deep h1' h2 h3]
    · rw [if_pos (by rw [← Bool.not_eq_true]; exact fun h => h2 (hp.1 h)), err_ports h1' h2]
def nodeC (g : List Nd) (i : Nat) : Int := match g[i]? with | some n => errC g n | none => 2
theorem nodeC_is (g : List Nd) (i : Nat) : nodeE g (i : Nat) = nodeC g i := by
  unfold nodeC
  cases h : g[i]? with
  | some n => rw [nodeE_at h, errC_is]
  | none => exact nodeE_out (.inr (by have := List.getElem?_eq_none_iff.1 h; omega))
def succs (g : List Nd) (least : Int) (s : Nat) : List Nat :=
  (List.range g.length).filterMap fun n => match g[n]? with | some x => if (x.ins.contains ((s / 2 : Nat) : Int) && x.stays least) = true then some (nextC least s n x) else none | none => none
theorem mem_succs {g : List Nd} {least : Int} {s t : Nat} : t ∈ succs g least s ↔ StepN g least s t := by
  unfold succs StepN
  rw [List.mem_filterMap]
  constructor
  · rintro ⟨n, hn, h⟩
    cases hx : g[n]? with
    | none => rw [hx] at h; cases h
    | some x =>
      rw [hx] at h
      simp only at h
      split at h
      · rename_i hc
        injection h with h
        subst h
        rw [Bool.and_eq_true, List.contains_iff_mem] at hc
        exact ⟨x, by rw [nextC_half]; exact hx, hc.1, hc.2, by rw [nextC_half]; rfl⟩
      · cases h
  · rintro ⟨x, hx, hin, hs, ht⟩
    refine ⟨t / 2, List.mem_range.2 (List.getElem?_eq_some_iff.1 hx).1, ?_⟩
    rw [hx]
    simp only
    rw [if_pos (by rw [Bool.and_eq_true, List.contains_iff_mem]; exact ⟨hin, hs⟩)]
    congr 1
    exact ht.symm
def chkReachC (g : List Nd) (least : Int) : Nat → List Nat → List Nat
  | 0, S => S
  | k + 1, S => chkReachC g least k (S.foldl (fun S s => (succs g least s).foldl (fun S t => if S.contains t then S else S ++ [t]) S) S)
def closedC (g : List Nd) (least : Int) (first tgt : Nat) (S : List Nat) : Bool := (succs g least first).all (fun t => S.contains t) && S.all (fun s => (succs g least s).all fun t => S.contains t) && !S.contains tgt
theorem closedC_no {g : List Nd} {least : Int} {first tgt : Nat} {S : List Nat} (h : closedC g least first tgt S = true) : ¬ ReachN g least first tgt := by
  unfold closedC at h
  rw [Bool.and_eq_true, Bool.and_eq_true] at h
  obtain ⟨⟨h1, h2⟩, h3⟩ := h
  have h1' : ∀ t ∈ succs g least first, t ∈ S := fun t ht => List.contains_iff_mem.1 (List.all_eq_true.1 h1 t ht)
  have h2' : ∀ s ∈ S, ∀ t ∈ succs g least s, t ∈ S := fun s hs t ht => List.contains_iff_mem.1 (List.all_eq_true.1 (List.all_eq_true.1 h2 s hs) t ht)
  have key : ∀ t, ReachN g least first t → t ∈ S := by
    intro t ht
    induction ht with
    | one hs => exact h1' _ (mem_succs.2 hs)
    | more _ hs ih => exact h2' _ ih _ (mem_succs.2 hs)
  intro hr
  have := List.contains_iff_mem.2 (key tgt hr)
  rw [this] at h3; cases h3
def goodC (g : List Nd) (i : Nat) : Bool := match g[i]? with
  | none => true
  | some x => decide (x.d ≤ 3) && (List.range 4).all fun least => decide (x.d < (least : Int)) || !x.stays least || closedC g least (startN x i least) (2 * i + 1) (chkReachC g least (2 * g.length) (succs g least (startN x i least)))
theorem goodC_no {g : List Nd} {i : Nat} (h : goodC g i = true) : ¬ BadAt g i := by
  rintro ⟨x, hx, least, h0, hd, y, hy, hs, hr⟩
  rw [hx] at hy; injection hy with hy; subst hy
  unfold goodC at h
  rw [hx] at h
  simp only [Bool.and_eq_true, decide_eq_true_eq, List.all_eq_true] at h
  obtain ⟨L, rfl⟩ : ∃ L : Nat, least = (L : Int) := Int.eq_ofNat_of_zero_le h0
  have h2 := h.2 L (List.mem_range.2 (by omega))
  simp only [Bool.or_eq_true, decide_eq_true_eq, Bool.not_eq_true'] at h2
  rcases h2 with (h2 | h2) | h2
  · omega
  · rw [hs] at h2; cases h2
  · exact closedC_no h2 hr
def okC (g : List Nd) : Bool := (List.range g.length).all (fun i => decide (nodeC g i = 0)) && (List.range g.length).all (goodC g)
theorem okC_check {g : List Nd} (hm : GMay g) (h : okC g = true) : checkR g = ((g.length : Int), 0) := by
  unfold okC at h
  rw [Bool.and_eq_true, List.all_eq_true, List.all_eq_true] at h
  refine checkR_ok (putE_ok hm) (fun j hj => ?_) fun j hj => goodC_no (h.2 j (List.mem_range.2 hj))
  have := h.1 j (List.mem_range.2 hj)
  rw [nodeC_is]; simpa using this
end

section
set_option maxRecDepth 100000
def covB (g : List Nd) (i : Nat) (L : List (Nat × Sm)) : Bool :=
  (match g[i]? with
    | none => true
    | some x => (toG ((i : Nat) : Int) 0 g).all fun p => L.any fun a => decide (a.1 = p.1 ∧ a.2.L (idS x.d))) &&
  L.all fun a => match g[a.1]? with
    | none => true
    | some x => if x.smOk ∧ a.2.thenOk x.sm then (toG ((a.1 : Nat) : Int) 0 g).all fun p => L.any fun b => decide (b.1 = p.1 ∧ b.2.L (a.2.seq x.sm)) else true
def oneB (g : List Nd) (i : Nat) (acc : List (Nat × Sm)) (a : Nat × Sm) : Bool :=
  (match g[i]? with
    | none => false
    | some x => decide (a.2 = idS x.d) && (toG ((i : Nat) : Int) 0 g).any fun p => decide (p.1 = a.1)) ||
  acc.any fun b => match g[b.1]? with
    | none => false
    | some x => decide (x.smOk ∧ b.2.thenOk x.sm ∧ a.2 = b.2.seq x.sm) && (toG ((b.1 : Nat) : Int) 0 g).any fun p => decide (p.1 = a.1)
def arrB (g : List Nd) (i : Nat) : List (Nat × Sm) → List (Nat × Sm) → Bool
  | _, [] => true
  | acc, a :: l => oneB g i acc a && arrB g i (a :: acc) l
section
variable {g : List Nd} {i n : Nat} {L acc : List (Nat × Sm)} {s : Sm}
theorem fd_any {j m : Nat} (h : ((toG ((j : Nat) : Int) 0 g).any fun p => decide (p.1 = m)) = true) : Fd g j m := by
  obtain ⟨p, hp, e⟩ := List.any_eq_true.1 h
  exact toG_fd.1 ⟨p, hp, of_decide_eq_true e⟩
theorem one_arr {a : Nat × Sm} (hacc : ∀ b ∈ acc, Arr g i b.1 b.2) (h : oneB g i acc a = true) : Arr g i a.1 a.2 := by
  unfold oneB at h
  rcases Bool.or_eq_true_iff.1 h with h | h
  · cases hx : g[i]? with
    | none => rw [hx] at h; cases h
    | some x =>
      rw [hx] at h
      obtain ⟨h1, h2⟩ := Bool.and_eq_true_iff.1 h
      rw [of_decide_eq_true h1]
      exact .first hx (fd_any h2)
  · obtain ⟨b, hb, h⟩ := List.any_eq_true.1 h
    cases hx : g[b.1]? with
    | none => rw [hx] at h; cases h
    | some x =>
      rw [hx] at h
      obtain ⟨h1, h2⟩ := Bool.and_eq_true_iff.1 h
      obtain ⟨h3, h4, h5⟩ := of_decide_eq_true h1
      rw [h5]
      exact .on (hacc b hb) hx h3 h4 (fd_any h2)
theorem arr_all : ∀ (l acc : List (Nat × Sm)), (∀ b ∈ acc, Arr g i b.1 b.2) → arrB g i acc l = true → ∀ b ∈ l, Arr g i b.1 b.2
  | [], acc, _, _ => fun b hb => by cases hb
  | a :: l, acc, hacc, h => by
    unfold arrB at h
    obtain ⟨h1, h2⟩ := Bool.and_eq_true_iff.1 h
    have ha := one_arr hacc h1
    have hacc' : ∀ b ∈ a :: acc, Arr g i b.1 b.2 := fun b hb => by
      rcases List.mem_cons.1 hb with rfl | hb
      · exact ha
      · exact hacc b hb
    intro b hb
    rcases List.mem_cons.1 hb with rfl | hb
    · exact ha
    · exact arr_all l (a :: acc) hacc' h2 b hb
theorem cov_any {m : Nat} {u : Sm} {j : Nat} (h : ((toG ((j : Nat) : Int) 0 g).all fun p => L.any fun a => decide (a.1 = p.1 ∧ a.2.L u)) = true) (hf : Fd g j m) : ∃ t, (m, t) ∈ L ∧ t.L u := by
  obtain ⟨p, hp, rfl⟩ := toG_fd.2 hf
  obtain ⟨a, ha, e⟩ := List.any_eq_true.1 (List.all_eq_true.1 h p hp)
  obtain ⟨e1, e2⟩ := of_decide_eq_true e
  exact ⟨a.2, by rw [← e1]; exact ha, e2⟩
theorem cov_of (h : covB g i L = true) (k : arrB g i [] L = true) : Cov g i (fun n s => (n, s) ∈ L) where
  sound := fun n s hs => arr_all L [] (fun b hb => by cases hb) k (n, s) hs
  first := fun n x hx hf => by
    obtain ⟨h1, _⟩ := Bool.and_eq_true_iff.1 h
    rw [hx] at h1
    exact cov_any h1 hf
  on := fun n m s x hs hx ho ht hf => by
    obtain ⟨_, h2⟩ := Bool.and_eq_true_iff.1 h
    have h3 := List.all_eq_true.1 h2 (n, s) hs
    simp only at h3
    rw [hx] at h3
    simp only [if_pos (show x.smOk ∧ s.thenOk x.sm from ⟨ho, ht⟩)] at h3
    exact cov_any h3 hf
theorem WaysOf.is {l : List Sm} (hc : Cov g i (fun n s => (n, s) ∈ L)) (h : WaysOf g (i : Nat) (n : Nat) l) (hi : i < g.length) (hn : n < g.length) : l = waysS (atA n L) := by
  rcases h with ⟨i', n', T, D, e1, e2, _, _, hr, hl⟩ | ⟨hno, _⟩
  · obtain rfl : i = i' := by omega
    obtain rfl : n = n' := by omega
    have hp := hr.coverP
    have hall : ∀ x ∈ atA n L ++ l, Arr g i n x := fun x hx => by
      rcases List.mem_append.1 hx with hx | hx
      · exact hc.sound n x (mem_atA.1 hx)
      · exact hr.dsound n x (hr.sub n l x hl hx)
    have e1 : waysS l = waysS (atA n L ++ l) := waysS_cover (fun x hx => List.mem_append_right _ hx) fun x hx _ => by
      obtain ⟨t, ⟨l', hl', ht⟩, htl⟩ := hp.covers (hall x hx)
      rw [hl] at hl'; cases hl'
      exact ⟨t, ht, htl⟩
    have e2 : waysS (atA n L) = waysS (atA n L ++ l) := waysS_cover (fun x hx => List.mem_append_left _ hx) fun x hx _ => by
      obtain ⟨t, ht, htl⟩ := hc.covers (hall x hx)
      exact ⟨t, mem_atA.2 ht, htl⟩
    rw [← hr.self n l hl, e1, e2]
  · exact absurd ⟨⟨by omega, by omega⟩, by omega, by omega⟩ hno
end
/-! the law's own graph -/
def wayN : List Nd := [⟨1, 0, 0, 0, []⟩, ⟨7, 0, 0, 1, [0]⟩, ⟨4, 0, 0, 1, [1, 3]⟩, ⟨9, 0, 2, 1, [2]⟩, ⟨8, 0, 0, 0, [2]⟩, ⟨10, 0, 0, 0, [4]⟩]
theorem ex_way : checkR wayN = (6, 0) := okC_check (by decide) (by decide +kernel)
def way0 : List (Nat × Sm) := [(1, ⟨0, 0, 0, 0, 0, 0, 0⟩), (2, ⟨0, 1, 0, 0, 0, 0, 0⟩), (3, ⟨0, 1, 0, 0, 0, 0, 0⟩), (4, ⟨0, 1, 0, 0, 0, 0, 0⟩), (5, ⟨0, 0, 0, 0, 0, 0, 0⟩)]
def way2 : List (Nat × Sm) := [(3, ⟨1, 1, 1, 0, 0, 0, 0⟩), (4, ⟨1, 1, 1, 0, 0, 0, 0⟩), (2, ⟨1, 1, 1, 1, 0, 0, 0⟩), (5, ⟨1, 0, 0, 0, 0, 0, 0⟩)]
theorem cov0 : Cov wayN 0 (fun n s => (n, s) ∈ way0) := cov_of (by decide +kernel) (by decide +kernel)
theorem cov2 : Cov wayN 2 (fun n s => (n, s) ∈ way2) := cov_of (by decide +kernel) (by decide +kernel)
theorem cov5 : Cov wayN 5 (fun n s => (n, s) ∈ ([] : List (Nat × Sm))) := cov_of (by decide +kernel) (by decide +kernel)
theorem ex_01 {l : List Sm} (h : WaysOf wayN 0 1 l) : l = [⟨0, 0, 0, 0, 0, 0, 0⟩] := (WaysOf.is (n := 1) cov0 h (by decide) (by decide)).trans (by decide +kernel)
theorem ex_02 {l : List Sm} (h : WaysOf wayN 0 2 l) : l = [⟨0, 1, 0, 0, 0, 0, 0⟩] := (WaysOf.is (n := 2) cov0 h (by decide) (by decide)).trans (by decide +kernel)
theorem ex_22 {l : List Sm} (h : WaysOf wayN 2 2 l) : l = [⟨1, 1, 1, 1, 0, 0, 0⟩] := (WaysOf.is (n := 2) cov2 h (by decide) (by decide)).trans (by decide +kernel)
theorem ex_25 {l : List Sm} (h : WaysOf wayN 2 5 l) : l = [⟨1, 0, 0, 0, 0, 0, 0⟩] := (WaysOf.is (n := 5) cov2 h (by decide) (by decide)).trans (by decide +kernel)
theorem ex_50 {l : List Sm} (h : WaysOf wayN 5 0 l) : l = [] := (WaysOf.is (n := 0) cov5 h (by decide) (by decide)).trans rfl
theorem ex_c25 : ofS (appS ⟨1, 4, 2, 0, 0⟩ [⟨1, 0, 0, 0, 0, 0, 0⟩]) = [⟨0, 4, 0, 0, 0⟩] := by decide +kernel
theorem ex_c02 : ofS (appS ⟨0, 4, 0, 0, 0⟩ [⟨0, 1, 0, 0, 0, 0, 0⟩]) = [⟨1, 4, 0, 0, 0⟩] := by decide +kernel
end
end Go.Proofs.YtcdofkhkckodjaaGreatDoor
