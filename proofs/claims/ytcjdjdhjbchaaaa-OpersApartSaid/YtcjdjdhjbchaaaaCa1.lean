/- ValMath, Mem, Law -/
import Derived.Test.YtcjdjdhjbchaaaaCa0
import Derived.Below
import Derived.Laws.OwnMore
import Derived.Deep.Draws
import Derived.Laws.Rows
import Derived.Test.YtcjdjdhjbchaaaaRows
import Derived.WalkKit
import Derived.ProofKit
import Derived.OpenShut
import Derived.Carry
namespace Go.Proofs.Ytcjdjdhjbchaaaa
set_option linter.unusedVariables false
section
/-- a record -/
structure Rd where
  k : Int
  v : Int
theorem Rd.ext_iff' {a b : Rd} : a = b ↔ a.k = b.k ∧ a.v = b.v := ⟨by rintro rfl; simp, fun ⟨h1, h2⟩ => by cases a; cases b; simp at *; simp [h1, h2]⟩
instance : DecidableEq Rd := fun a b => decidable_of_iff _ Rd.ext_iff'.symm
def Rd.C (a b : Rd) : Int := if a.k < b.k ∨ a.k = b.k ∧ a.v < b.v then -1 else if a = b then 0 else 1
/-- at or ahead of the other one -/
def Rd.Le (a b : Rd) : Prop := a.k < b.k ∨ a.k = b.k ∧ a.v ≤ b.v
instance (a b : Rd) : Decidable (a.Le b) := inferInstanceAs (Decidable (_ ∨ _))
section
variable {a b c t x y z : Rd} {f g l m p q : List Rd}
theorem Rd.C_le : a.C b ≤ 0 ↔ a.Le b := by
  have e := Rd.ext_iff' (a := a) (b := b)
  unfold Rd.C Rd.Le; split
  · omega
  · split
    · have := e.1 (by assumption); omega
    · rename_i h1 h2
      have : ¬ (a.k = b.k ∧ a.v = b.v) := fun h => h2 (e.2 h)
      omega
theorem Rd.C_pos : 0 < a.C b ↔ ¬ a.Le b := by rw [← Rd.C_le]; omega
theorem Rd.C_zero : a.C b = 0 ↔ a = b := by
  have e := Rd.ext_iff' (a := a) (b := b)
  unfold Rd.C; split
  · constructor
    · intro h; omega
    · intro h; have := e.1 h; omega
  · split <;> simp_all
theorem Rd.Le_antisymm (h : a.Le b) (k : b.Le a) : a = b := by
  unfold Rd.Le at h k; exact Rd.ext_iff'.2 (by omega)
theorem Rd.C_swap : a.C b = -b.C a := by
  have e := Rd.ext_iff' (a := a) (b := b)
  have e' := Rd.ext_iff' (a := b) (b := a)
  unfold Rd.C
  by_cases h : a.k = b.k ∧ a.v = b.v
  · rw [if_neg (by omega), if_pos (e.2 h), if_neg (by omega), if_pos (e'.2 ⟨h.1.symm, h.2.symm⟩)]; rfl
  · have n1 : ¬ a = b := fun q => h (e.1 q)
    have n2 : ¬ b = a := fun q => h ⟨(e'.1 q).1.symm, (e'.1 q).2.symm⟩
    rw [if_neg n1, if_neg n2]
    split <;> split <;> omega
theorem Rd.Le_refl : a.Le a := by unfold Rd.Le; omega
theorem Rd.Le_trans (h : a.Le b) (k : b.Le c) : a.Le c := by unfold Rd.Le at *; omega
theorem Rd.Le_total (h : ¬ a.Le b) : b.Le a := by unfold Rd.Le at *; omega
/-- sorted rows of the same records, each as often, are one -/
theorem sortedR_ext : ∀ {f g : List Rd}, f.Pairwise Rd.Le → g.Pairwise Rd.Le → f.Perm g → f = g
  | [], g, _, _, h => by rw [List.nil_perm.1 h]
  | x :: f, [], _, _, h => by have := h.length_eq; simp at this
  | x :: f, y :: g, hf, hg, h => by
    have hf' := hf; have hg' := hg
    rw [List.pairwise_cons] at hf hg
    have hxy : x = y := by
      apply Rd.Le_antisymm
      · rcases List.mem_cons.1 (h.mem_iff.2 (List.mem_cons_self (a := y) (l := g))) with e | hy
        · rw [e]; exact Rd.Le_refl
        · exact hf.1 y hy
      · rcases List.mem_cons.1 (h.mem_iff.1 (List.mem_cons_self (a := x) (l := f))) with e | hx
        · rw [e]; exact Rd.Le_refl
        · exact hg.1 x hx
    subst hxy
    rw [sortedR_ext hf.2 hg.2 (List.Perm.cons_inv h)]
def insR (t : Rd) : List Rd → List Rd
  | [] => [t]
  | y :: r => if y.Le t then y :: insR t r else t :: y :: r
theorem insR_perm : ∀ {l : List Rd}, (insR t l).Perm (t :: l)
  | [] => List.Perm.refl _
  | y :: r => by
    unfold insR
    split
    · exact (List.Perm.cons y insR_perm).trans (List.Perm.swap t y r)
    · exact List.Perm.refl _
theorem insR_sort : ∀ {l : List Rd}, l.Pairwise Rd.Le → (insR t l).Pairwise Rd.Le
  | [], _ => by simp [insR]
  | y :: r, h => by
    have hh := h
    rw [List.pairwise_cons] at h
    unfold insR
    split
    · rename_i hc
      rw [List.pairwise_cons]
      refine ⟨fun x hx => ?_, insR_sort h.2⟩
      rcases List.mem_cons.1 (insR_perm.mem_iff.1 hx) with e | hx
      · rw [e]; exact hc
      · exact h.1 x hx
    · rename_i hc
      rw [List.pairwise_cons]
      refine ⟨fun x hx => ?_, hh⟩
      rcases List.mem_cons.1 hx with e | hx
      · rw [e]; exact Rd.Le_total hc
      · exact Rd.Le_trans (Rd.Le_total hc) (h.1 x hx)
def sortR : List Rd → List Rd
  | [] => []
  | t :: r => insR t (sortR r)
theorem sortR_perm : ∀ {l : List Rd}, (sortR l).Perm l
  | [] => List.Perm.refl _
  | t :: r => insR_perm.trans (List.Perm.cons t sortR_perm)
theorem sortR_sort : ∀ {l : List Rd}, (sortR l).Pairwise Rd.Le
  | [] => List.Pairwise.nil
  | t :: r => insR_sort sortR_sort
/-- whatever row has these records, sorted -/
theorem sortR_eq (hs : f.Pairwise Rd.Le) (hp : f.Perm l) : f = sortR l := sortedR_ext hs sortR_sort (hp.trans sortR_perm.symm)
theorem sortR_iff : sortR l = sortR m ↔ l.Perm m :=
  ⟨fun h => sortR_perm.symm.trans (h ▸ sortR_perm), fun h => sortedR_ext sortR_sort sortR_sort (sortR_perm.trans (h.trans sortR_perm.symm))⟩
theorem sortR_self (h : l.Pairwise Rd.Le) : sortR l = l := (sortR_eq h (List.Perm.refl _)).symm
theorem sortR_sortR : sortR (sortR l) = sortR l := sortR_self sortR_sort
theorem sortR_app (h : l.Perm p) (k : m.Perm q) : sortR (l ++ m) = sortR (p ++ q) := sortR_iff.2 (h.append k)
theorem sortR_left : sortR (sortR l ++ m) = sortR (l ++ m) := sortR_app sortR_perm (List.Perm.refl _)
theorem sortR_right : sortR (l ++ sortR m) = sortR (l ++ m) := sortR_app (List.Perm.refl _) sortR_perm
theorem sortR_swap : sortR (l ++ m) = sortR (m ++ l) := sortR_iff.2 List.perm_append_comm
/-- taken one by one -/
def lessL : List Rd → List Rd → Option (List Rd)
  | l, [] => some l
  | l, x :: b => if x ∈ l then lessL (l.erase x) b else none
theorem lessL_some : ∀ {b l m : List Rd}, lessL l b = some m → l.Perm (m ++ b) ∧ m.Sublist l
  | [], l, m, h => by
    simp only [lessL, Option.some.injEq] at h
    rw [h, List.append_nil]; exact ⟨List.Perm.refl _, List.Sublist.refl _⟩
  | x :: b, l, m, h => by
    unfold lessL at h
    split at h
    · rename_i hx
      obtain ⟨h1, h2⟩ := lessL_some h
      refine ⟨?_, h2.trans List.erase_sublist⟩
      exact ((List.perm_cons_erase hx).trans (List.Perm.cons x h1)).trans List.perm_middle.symm
    · exact absurd h (by simp)
theorem lessL_of : ∀ {b l m : List Rd}, l.Perm (m ++ b) → ∃ n, lessL l b = some n ∧ n.Perm m
  | [], l, m, h => ⟨l, rfl, by rw [List.append_nil] at h; exact h⟩
  | x :: b, l, m, h => by
    have hx : x ∈ l := h.mem_iff.2 (by simp)
    have h2 : (l.erase x).Perm (m ++ b) := List.Perm.cons_inv (a := x) (((List.perm_cons_erase hx).symm.trans h).trans List.perm_middle)
    obtain ⟨n, h3, h4⟩ := lessL_of h2
    exact ⟨n, by unfold lessL; rw [if_pos hx, h3], h4⟩
/-- one row less another one, sorted -/
def lessR (a b : List Rd) : Option (List Rd) := lessL (sortR a) b
theorem lessR_some : lessR l m = some p ↔ p.Pairwise Rd.Le ∧ l.Perm (p ++ m) := by
  constructor
  · intro h
    obtain ⟨h1, h2⟩ := lessL_some h
    exact ⟨sortR_sort.sublist h2, sortR_perm.symm.trans h1⟩
  · rintro ⟨h1, h2⟩
    obtain ⟨n, h3, h4⟩ := lessL_of (sortR_perm.trans h2)
    obtain ⟨h5, h6⟩ := lessL_some h3
    unfold lessR
    rw [h3, sortedR_ext (sortR_sort.sublist h6) h1 h4]
/-- Less undoes Add -/
theorem lessR_add (h : l.Perm (m ++ p)) : lessR l m = some (sortR p) :=
  lessR_some.2 ⟨sortR_sort, (h.trans List.perm_append_comm).trans (List.Perm.append_right _ sortR_perm.symm)⟩
theorem lessR_none : lessR l m = none ↔ ∀ p, ¬ l.Perm (p ++ m) := by
  constructor
  · intro h p hp
    have := lessR_add (hp.trans List.perm_append_comm)
    rw [h] at this; exact absurd this (by simp)
  · intro h
    cases e : lessR l m with
    | none => rfl
    | some p => exact absurd (lessR_some.1 e).2 (h p)
theorem lessR_length (h : lessR l m = some p) : p.length = l.length - m.length ∧ m.length ≤ l.length := by
  have := (lessR_some.1 h).2.length_eq
  rw [List.length_append] at this; omega
/-- more is not there -/
theorem lessR_more : lessR l (l ++ x :: m) = none := lessR_none.2 fun p hp => by
  have := hp.length_eq; simp at this; omega
/-- both ways: they are the same -/
theorem lessR_both (h : lessR l m = some p) : (lessR m l).isSome ↔ l.Perm m := by
  constructor
  · intro k
    obtain ⟨q, hq⟩ := Option.isSome_iff_exists.1 k
    have h1 := lessR_length h; have h2 := lessR_length hq
    have hp : p = [] := List.length_eq_zero_iff.1 (by omega)
    have := (lessR_some.1 h).2
    rw [hp] at this; exact this
  · intro k
    have := lessR_add (l := m) (m := l) (p := []) (by rw [List.append_nil]; exact k.symm)
    rw [this]; rfl
/-! bytes -/
def Rd.W (t : Rd) : Prop := (-9223372036854775808 ≤ t.k ∧ t.k < 9223372036854775808) ∧ -9223372036854775808 ≤ t.v ∧ t.v < 9223372036854775808
def Rd.put (t : Rd) : List Nat := be8 (uns t.k) ++ be8 (uns t.v)
def putR (l : List Rd) : List Nat := (l.map Rd.put).flatten
def getR : List Nat → Option (List Rd)
  | [] => some []
  | a0 :: a1 :: a2 :: a3 :: a4 :: a5 :: a6 :: a7 :: b0 :: b1 :: b2 :: b3 :: b4 :: b5 :: b6 :: b7 :: r =>
    match getR r with
    | none => none
    | some l => some (⟨sg64 (of8 a0 a1 a2 a3 a4 a5 a6 a7), sg64 (of8 b0 b1 b2 b3 b4 b5 b6 b7)⟩ :: l)
  | _ => none
theorem getR_cons {a0 a1 a2 a3 a4 a5 a6 a7 b0 b1 b2 b3 b4 b5 b6 b7 : Nat} {r : List Nat} : getR (a0 :: a1 :: a2 :: a3 :: a4 :: a5 :: a6 :: a7 :: b0 :: b1 :: b2 :: b3 :: b4 :: b5 :: b6 :: b7 :: r) =
    match getR r with
    | none => none
    | some l => some (⟨sg64 (of8 a0 a1 a2 a3 a4 a5 a6 a7), sg64 (of8 b0 b1 b2 b3 b4 b5 b6 b7)⟩ :: l) := by
  rw [getR]
theorem getR_put : ∀ {l : List Rd}, (∀ t ∈ l, t.W) → getR (putR l) = some l
  | [], _ => rfl
  | t :: l, h => by
    obtain ⟨⟨h1, h2⟩, h3, h4⟩ := h t List.mem_cons_self
    show getR ((t.put :: l.map Rd.put).flatten) = _
    rw [List.flatten_cons, show (l.map Rd.put).flatten = putR l from rfl]
    unfold Rd.put be8
    simp only [List.cons_append, List.nil_append]
    rw [getR_cons, getR_put fun y hy => h y (List.mem_cons_of_mem _ hy)]
    simp only
    rw [of8_be8 uns_lt, of8_be8 uns_lt, sg64_uns h1 h2, sg64_uns h3 h4]
theorem getR_some : ∀ (n : Nat) {b : List Nat} {l : List Rd}, b.length ≤ n → (∀ x ∈ b, x < 256) → getR b = some l → (∀ t ∈ l, t.W) ∧ b = putR l ∧ b.length = 16 * l.length := by
  intro n
  induction n with
  | zero =>
    intro b l hn hb h
    have : b = [] := List.length_eq_zero_iff.1 (by omega)
    subst this
    simp only [getR, Option.some.injEq] at h
    subst h
    exact ⟨by simp, rfl, rfl⟩
  | succ n ih =>
    intro b l hn hb h
    unfold getR at h
    split at h
    · simp only [Option.some.injEq] at h
      subst h
      exact ⟨by simp, rfl, rfl⟩
    · rename_i a0 a1 a2 a3 a4 a5 a6 a7 b0 b1 b2 b3 b4 b5 b6 b7 r
      split at h
      · exact absurd h (by simp)
      · rename_i m hm
        simp only [Option.some.injEq] at h
        subst h
        simp only [List.mem_cons, forall_eq_or_imp] at hb
        obtain ⟨g0, g1, g2, g3, g4, g5, g6, g7, k0, k1, k2, k3, k4, k5, k6, k7, hr⟩ := hb
        simp only [List.length_cons] at hn
        obtain ⟨h1, h2, h3⟩ := ih (by omega) hr hm
        have l1 := of8_lt g0 g1 g2 g3 g4 g5 g6 g7
        have l2 := of8_lt k0 k1 k2 k3 k4 k5 k6 k7
        refine ⟨fun t ht => ?_, ?_, ?_⟩
        · rcases List.mem_cons.1 ht with e | ht
          · rw [e]; exact ⟨sg64_W l1, sg64_W l2⟩
          · exact h1 t ht
        · show _ = Rd.put _ ++ putR m
          unfold Rd.put
          simp only
          rw [uns_sg64 l1, uns_sg64 l2, be8_of8 g0 g1 g2 g3 g4 g5 g6 g7, be8_of8 k0 k1 k2 k3 k4 k5 k6 k7, ← h2]; rfl
        · simp only [List.length_cons]; omega
    · exact absurd h (by simp)
/-- bytes are records just where they fall into sixteens -/
theorem getR_of : ∀ (n : Nat) {b : List Nat}, b.length = 16 * n → ∃ l, getR b = some l ∧ l.length = n
  | 0, b, h => by
    have : b = [] := List.length_eq_zero_iff.1 (by omega)
    subst this
    exact ⟨[], rfl, rfl⟩
  | n + 1, b, h => by
    match b, h with
    | a0 :: a1 :: a2 :: a3 :: a4 :: a5 :: a6 :: a7 :: b0 :: b1 :: b2 :: b3 :: b4 :: b5 :: b6 :: b7 :: r, h =>
      simp only [List.length_cons] at h
      obtain ⟨l, h1, h2⟩ := getR_of n (b := r) (by omega)
      refine ⟨_, by rw [getR_cons, h1], by rw [List.length_cons, h2]⟩
end
end

section
open Go.RowKit

/-- block g holds just the values l, of element type t; none is frozen -/
def Row (w : World) (g : Nat) (t : TypeId) (l : List Value) : Prop := w.heap[g]? = some (.cells l.toArray t (0, 0))

section
variable {w w' : World} {g : Nat} {t : TypeId} {l : List Value}
theorem Row.lt (h : Row w g t l) : g < w.heap.size := by
  unfold Row at h
  by_cases hg : g < w.heap.size
  · exact hg
  · rw [Array.getElem?_eq_none (by omega)] at h; cases h
theorem Row.cell (h : Row w g t l) (i : Nat) : w.cell? ⟨g, i, none⟩ = l[i]? := by
  rw [cell_of_row w g i l.toArray t (0, 0) h]; simp
theorem Row.free (h : Row w g t l) (i : Nat) : w.frozen? ⟨g, i, none⟩ = false := by
  unfold Row at h; simp [World.frozen?, h]
theorem Row.made (w : World) (t : TypeId) (l : List Value) : Row (w.alloc (.cells l.toArray t)) w.heap.size t l := heap_alloc_new w _
theorem Row.drew (h : Row w g t l) : Row w.drew g t l := h
theorem Row.drewN (h : Row w g t l) (n : Nat) : Row (w.drewN n) g t l := h
theorem Row.alloc (h : Row w g t l) (o : Obj) : Row (w.alloc o) g t l := (Below.heap_alloc w o g h.lt).trans h
theorem Row.put (h : Row w g t l) (i : Nat) (u : Value) : Row (w.setCell ⟨g, i, none⟩ u) g t (l.set i u) := by
  unfold Row at h ⊢
  simp [World.setCell, Array.getElem?_modify, h]
theorem Row.far (h : Row w g t l) {p : Addr} (hp : g ≠ p.block) (u : Value) : Row (w.setCell p u) g t l := (Below.heap_setCell w p u g hp).trans h
theorem Row.below {B : Nat} (h : Row w g t l) (hb : Below B w w') (hg : g < B) : Row w' g t l := (hb.block g hg).trans h
theorem Row.grown {row : Option Nat} (h : Row w g t l) (hb : w.grownBy w' row) (hg : some g ≠ row) : Row w' g t l := (hb.block g h.lt hg).trans h
theorem Row.apart {g' : Nat} {t' : TypeId} {l' : List Value} (h : Row w g t l) (h' : Row w g' t' l') (hne : t ≠ t') : g ≠ g' := by
  intro e; subst e
  unfold Row at h h'; rw [h] at h'; injection h' with h'; injection h' with _ ht; exact hne ht
end
/-- the slice at A holds the bytes xs -/
def Bytes (w : World) (A : Option Addr) (xs : List Nat) : Prop :=
  (∀ x ∈ xs, x < 256) ∧ (0 < xs.length → ∃ ad : Addr, A = some ad ∧ ad.block < w.heap.size ∧ ∀ (j x : Nat), xs[j]? = some x → w.cell? (ad.add j) = some (.int .u8 (x : Nat)))
theorem add_block (a : Addr) (n : Nat) : (a.add n).block = a.block := by unfold Addr.add; split <;> rfl
/-- a block that 'make' has filled -/
theorem Row.of_full {w : World} {base g n : Nat} {t : TypeId} {l : List Value} (h : w.ownsRow base t 1 (.slice (some ⟨g, 0, none⟩) n n) n l) : Row w g t l := by
  obtain ⟨hlen, h | ⟨g', cap, cur, hv, _, hh, _, _, hs, ht⟩⟩ := h
  · cases h.1
  · injection hv with hv1 _ hv2
    injection hv1 with hv1
    injection hv1 with hv1
    subst hv1; subst hv2
    have hs' : cur.size = n := by omega
    have : cur.toList = l := by rw [← ht, List.take_of_length_le (by simp; omega)]
    unfold Row; rw [hh, ← this]
section
variable {w w' : World} {A : Option Addr} {xs : List Nat}
theorem Bytes.lt (h : Bytes w A xs) {k x : Nat} (hx : xs[k]? = some x) : x < 256 := h.1 x (List.mem_of_getElem? hx)
theorem Bytes.below (h : Bytes w A xs) (hb : Below w.heap.size w w') : Bytes w' A xs :=
  ⟨h.1, fun hn => by
    obtain ⟨ad, e, hlt, hc⟩ := h.2 hn
    exact ⟨ad, e, Nat.lt_of_lt_of_le hlt hb.size, fun j x hx => (hb.cell (p := ad.add j) (by rw [add_block]; exact hlt)).trans (hc j x hx)⟩⟩
theorem Bytes.take (h : Bytes w A xs) (k : Nat) : Bytes w A (xs.take k) :=
  ⟨fun x hx => h.1 x (List.mem_of_mem_take hx), fun hn => by
    rw [List.length_take] at hn
    obtain ⟨ad, e, hlt, hc⟩ := h.2 (by omega)
    refine ⟨ad, e, hlt, fun j x hx => ?_⟩
    rw [List.getElem?_take] at hx
    split at hx
    · exact hc j x hx
    · cases hx⟩
theorem Bytes.drewN (h : Bytes w A xs) (k : Nat) : Bytes (w.drewN k) A xs := h
theorem Bytes.drew (h : Bytes w A xs) : Bytes w.drew A xs := h
theorem Bytes.at_ (h : Bytes w A xs) {k : Nat} (hk : k < xs.length) :
    ∃ ad x, A = some ad ∧ ad.block < w.heap.size ∧ xs[k]? = some x ∧ x < 256 ∧ w.cell? (ad.add k) = some (.int .u8 (x : Nat)) := by
  obtain ⟨ad, e, hlt, hc⟩ := h.2 (by omega)
  have hx := List.getElem?_eq_getElem hk
  exact ⟨ad, xs[k], e, hlt, hx, h.lt hx, hc k _ hx⟩
theorem add_zero_off (g j : Nat) : (⟨g, 0, none⟩ : Addr).add j = ⟨g, j, none⟩ := by
  cases j with
  | zero => rfl
  | succ j => simp [Addr.add]
theorem Bytes.of_row {g : Nat} {t : TypeId} (h : Row w g t (xs.map fun x : Nat => Value.int .u8 (x : Nat))) (hx : ∀ x ∈ xs, x < 256) : Bytes w (some ⟨g, 0, none⟩) xs :=
  ⟨hx, fun _ => ⟨⟨g, 0, none⟩, rfl, h.lt, fun j x hj => by rw [add_zero_off, h.cell, List.getElem?_map, hj]; rfl⟩⟩
/-- a new block of bytes, marked or not -/
theorem Bytes.made (w : World) (t : TypeId) (fz : Nat × Nat) (hx : ∀ x ∈ xs, x < 256) : Bytes (w.alloc (.cells (xs.map fun x : Nat => Value.int .u8 (x : Nat)).toArray t fz)) (some ⟨w.heap.size, 0, none⟩) xs :=
  ⟨hx, fun _ => ⟨⟨w.heap.size, 0, none⟩, rfl, by simp, fun j x hj => by
    rw [add_zero_off, cell_of_row _ w.heap.size j _ t fz (heap_alloc_new w _), List.getElem?_toArray, List.getElem?_map, hj]; rfl⟩⟩
end
/-- nothing below B has turned: cells and marks -/
theorem old_cells {B : Nat} {w w' : World} (hb : Below B w w') : (∀ b o, b < B → w'.cell? ⟨b, o, none⟩ = w.cell? ⟨b, o, none⟩) ∧ (∀ b o, b < B → w'.frozen? ⟨b, o, none⟩ = w.frozen? ⟨b, o, none⟩) :=
  ⟨fun b o h => hb.cell (p := ⟨b, o, none⟩) h, fun b o h => hb.frozen (p := ⟨b, o, none⟩) h⟩
end

section
open Go.ChangeShapes Go.WideShapes Go.ChangeAt Go.RowKit
set_option maxRecDepth 100000

theorem progLaid : laidOutB Try.prog = true := by kernel_rfl
theorem ownKnob_none : ownKnob Try.prog.godebug = none := by kernel_rfl

section
variable {H : Type} {enc : TypeId × Value → H} {P : Program}
theorem trodAll_later (hl : laidOutB P = true) {W W' : World} (hb : Below W.heap.size W W') {sp : Nat → Bool} :
    ∀ (ts : List TypeId) (vs : List Value) (ds : List (DataW H)) (ps : List MemPlace), (∀ t ∈ ts, P.readableRec t = true ∧ t < P.types.size) →
      DataW.TrodAll enc P W 0 (fun _ => true) true ts vs ds ps → (∀ x ∈ ps, x.block < W.heap.size) → (∀ x ∈ ps, sp x.block = true) → DataW.TrodAll enc P W' 0 sp true ts vs ds ps := by
  intro ts
  induction ts with
  | nil =>
    intro vs ds ps _ h _ _
    cases vs with
    | nil => cases ds with
      | nil => exact h
      | cons d ds => exact h.elim
    | cons v vs => cases ds <;> exact h.elim
  | cons t ts ih =>
    intro vs ds ps hts h hlt hsp
    cases vs with
    | nil => cases ds <;> exact h.elim
    | cons v vs => cases ds with
      | nil => exact h.elim
      | cons d ds =>
        obtain ⟨p, q, h1, h2, rfl⟩ := h
        exact ⟨p, q, WideElems.Trod_stays hl (hts t (by simp)).1 (hts t (by simp)).2 h1 (fun x hx => hb.same (hlt x (by simp [hx]))) (fun x hx => hsp x (by simp [hx])),
          ih vs ds q (fun t' h' => hts t' (by simp [h'])) h2 (fun x hx => hlt x (by simp [hx])) (fun x hx => hsp x (by simp [hx])), rfl⟩

/-- A LAW's POST: it answered true, and nothing that was there has turned. -/
theorem law_post (hl : laidOutB P = true) {f : Func} {s : ChangeSpec} {W W' : World} {args : Array Value} {ds gs : List (DataW H)} {before : List MemPlace} {tb : TypeId}
    (hW : DataW.Whole enc P f.params.toList s.vars false W args.toList ds gs before) (hv : s.vars = [])
    (hts : ∀ t ∈ f.params.toList, P.readableRec t = true ∧ t < P.types.size) (hr : f.resultTypes = #[tb]) (htb : P.underlying tb = some .bool)
    (hfn : (s.fn H (ds ++ gs)) = { results := [.lit (.bool true)], args := ds }) (hb : Below W.heap.size W W') :
    s.post enc P f false true false false W args (.bool true) W' := by
  have hlt : ∀ p ∈ before, p.block < W.heap.size := fun p hp => hW.lt p hp
  obtain ⟨p, q, hA, hV, e, hfz, hnd⟩ := id hW
  rw [hv] at hV
  obtain ⟨rfl, rfl⟩ := trodVars_none hV
  simp only [List.append_nil] at e
  subst e
  have hargs : ∀ sp : Nat → Bool, (∀ x ∈ before, sp x.block = true) → DataW.TrodAll enc P W' 0 sp true f.params.toList args.toList ds before :=
    fun sp hsp => trodAll_later hl hb _ _ _ _ hts hA hlt hsp
  have hold : ∀ x ∈ before, (fun b => decide (b < W.heap.size)) x.block = true := fun x hx => by simpa using hlt x hx
  have hone : ∀ (sp : Nat → Bool) (hd : Bool) (b : Nat), DataW.TrodAll enc P W' b sp hd f.resultTypes.toList ((Value.bool true).resultList f.resultTypes.size) [.lit (.bool true)] [] := by
    intro sp hd b; rw [hr]; exact trodAll_cons_mk (shut_bool htb _) trodAll_mk0
  have hvars : ∀ sp : Nat → Bool, DataW.TrodVars enc P W' sp s.vars [] [] := by intro sp; rw [hv]; exact rfl
  refine ⟨ds, [], before, [], before, [], hW, ?_, ?_, ?_, World.keptBut_mono (fun x hx => ⟨hx, by simp [hx]⟩) (hb.frame (· ∈ before)), fun _ => ?_⟩
  · rw [hfn]; exact hone _ _ _
  · rw [hfn]; exact hargs _ hold
  · rw [hfn]; exact hvars _
  · refine ⟨ok_one hr rfl (okWide_bool_mk htb _), _, _, ([] ++ before) ++ [], ⟨[] ++ before, [], trodAll_append (hargs _ (fun _ _ => rfl)) (hone _ _ _), hvars _, rfl, ?_, ?_⟩, ?_⟩
    · intro b off hp
      have hin : MemPlace.cell b off ∈ before := by simpa using hp
      rw [hb.frozen (hlt _ hin)]
      exact hfz b off hin
    · intro ha; exact absurd ha (by decide)
    · intro x hx _
      simpa using hx

theorem cell_lt {w : World} {a : Addr} {v : Value} (h : w.cell? a = some v) : a.block < w.heap.size := by
  by_cases hlt : a.block < w.heap.size
  · exact hlt
  · unfold World.cell? at h; rw [Array.getElem?_eq_none (by omega)] at h; cases h
theorem u8_wf {n : Int} (h : (Lit.int .u8 n).wf = true) : 0 ≤ n ∧ n ≤ 255 := by
  simpa [Lit.wf, IntKind.min, IntKind.max, IntKind.signed, IntKind.bits] using h

/-- a []byte that came in: nil, empty, or not -/
theorem open_bytes {t e : TypeId} (ht : P.underlying t = some (.slice e)) (he : P.underlying e = some (.int .u8)) (hc : P.cellsOf e = 1) {W : World} {base : Nat} {v : Value} {d : DataW H} {p : List MemPlace}
    (hok : Value.okWide P W .any base t v) (h : DataW.Trod enc P W 0 (fun _ => true) true t v d p) :
    ∃ (A : Option Addr) (xs : List Nat) (c : Nat), v = .slice A xs.length c ∧ Bytes W A xs ∧ xs.length ≤ c ∧ c ≤ maxLen ∧ (A = none → c = 0) := by
  obtain ⟨A, len, cap, rfl⟩ := okWide_slice ht hok
  obtain ⟨fuel, hf⟩ := h
  rcases open_ints ht he hc hf with ⟨hcs, _⟩ | ⟨a, len', cap', zs, hcs, _, hl, hm, hz, _, hcell, hwz⟩
  · simp [Value.cells] at hcs
    obtain ⟨rfl, rfl, rfl⟩ := hcs
    exact ⟨none, [], 0, rfl, ⟨by simp, by simp⟩, by simp, by simp, fun _ => rfl⟩
  · simp [Value.cells] at hcs
    obtain ⟨rfl, rfl, rfl⟩ := hcs
    simp only [if_true] at hz
    have hlen : ((zs.take len).map Int.toNat).length = len := by simp; omega
    refine ⟨some a, (zs.take len).map Int.toNat, cap, by rw [hlen], ⟨?_, fun h0 => ⟨a, rfl, ?_, ?_⟩⟩, by omega, hm, by simp⟩
    · intro x hx
      obtain ⟨z, hz1, rfl⟩ := List.mem_map.1 hx
      have := u8_wf (hwz z (List.mem_of_mem_take hz1))
      omega
    · have := cell_lt (hcell 0 (by omega))
      rwa [add_block] at this
    · intro j x hx
      rw [List.getElem?_map] at hx
      by_cases hj : j < len
      · have hj2 : j < zs.length := by omega
        rw [List.getElem?_take, if_pos hj, List.getElem?_eq_getElem hj2] at hx
        simp at hx
        have hw := u8_wf (hwz _ (List.getElem_mem hj2))
        rw [hcell j hj2]
        have e : zs.getD j 0 = zs[j] := by simp [List.getD_eq_getElem?_getD, hj2]
        rw [e, ← hx]
        congr 3; omega
      · rw [List.getElem?_take, if_neg hj] at hx; simp at hx
theorem u32_wf {n : Int} (h : (Lit.int .u32 n).wf = true) : 0 ≤ n ∧ n ≤ 4294967295 := by
  simpa [Lit.wf, IntKind.min, IntKind.max, IntKind.signed, IntKind.bits] using h
theorem u16_wf {n : Int} (h : (Lit.int .u16 n).wf = true) : 0 ≤ n ∧ n ≤ 65535 := by
  simpa [Lit.wf, IntKind.min, IntKind.max, IntKind.signed, IntKind.bits] using h
end
theorem cells_u8 : Try.prog.cellsOf 5 = 1 := by kernel_rfl
end
end Go.Proofs.Ytcjdjdhjbchaaaa
