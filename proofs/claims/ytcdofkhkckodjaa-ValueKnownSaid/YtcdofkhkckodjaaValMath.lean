/- Records, as often as they are there; their bytes: plain mathematics, of no code. -/
import Derived.Test.YtcdofkhkckodjaaFlowMath
namespace Go.Proofs.Ytcdofkhkckodjaa
set_option linter.unusedVariables false
/-- a record -/
structure Rd where
  k : Int
  v : Int
theorem Rd.ext_iff' {a b : Rd} : a = b ↔ a.k = b.k ∧ a.v = b.v := ⟨by rintro rfl; simp, fun ⟨h1, h2⟩ => by cases a; cases b; simp at *; simp [h1, h2]⟩
instance : DecidableEq Rd := fun a b => decidable_of_iff _ Rd.ext_iff'.symm
def Rd.C (a b : Rd) : Int := if a.k < b.k ∨ a.k = b.k ∧ a.v < b.v then -1 else if a = b then 0 else 1
/-- at or ahead of the other one -/
def Rd.Le (a b : Rd) : Prop := a.k < b.k ∨ a.k = b.k ∧ a.v ≤ b.v
instance (a b : Rd) : Decidable (a.Le b) := inferInstanceAs (Decidable (_ ∨ _))
section
variable {a b c t x y z : Rd} {f g l m p q : List Rd}
theorem Rd.C_le : a.C b ≤ 0 ↔ a.Le b := by
  have e := Rd.ext_iff' (a := a) (b := b)
  unfold Rd.C Rd.Le; split
  · omega
  · split
    · have := e.1 (by assumption); omega
    · rename_i h1 h2
      have : ¬ (a.k = b.k ∧ a.v = b.v) := fun h => h2 (e.2 h)
      omega
theorem Rd.C_pos : 0 < a.C b ↔ ¬ a.Le b := by rw [← Rd.C_le]; omega
theorem Rd.C_zero : a.C b = 0 ↔ a = b := by
  have e := Rd.ext_iff' (a := a) (b := b)
  unfold Rd.C; split
  · constructor
    · intro h; omega
    · intro h; have := e.1 h; omega
  · split <;> simp_all
theorem Rd.Le_antisymm (h : a.Le b) (k : b.Le a) : a = b := by
  unfold Rd.Le at h k; exact Rd.ext_iff'.2 (by omega)
theorem Rd.C_swap : a.C b = -b.C a := by
  have e := Rd.ext_iff' (a := a) (b := b)
  have e' := Rd.ext_iff' (a := b) (b := a)
  unfold Rd.C
  by_cases h : a.k = b.k ∧ a.v = b.v
  · rw [if_neg (by omega), if_pos (e.2 h), if_neg (by omega), if_pos (e'.2 ⟨h.1.symm, h.2.symm⟩)]; rfl
  · have n1 : ¬ a = b := fun q => h (e.1 q)
    have n2 : ¬ b = a := fun q => h ⟨(e'.1 q).1.symm, (e'.1 q).2.symm⟩
    rw [if_neg n1, if_neg n2]
    split <;> split <;> omega
theorem Rd.Le_refl : a.Le a := by unfold Rd.Le; omega
theorem Rd.Le_trans (h : a.Le b) (k : b.Le c) : a.Le c := by unfold Rd.Le at *; omega
theorem Rd.Le_total (h : ¬ a.Le b) : b.Le a := by unfold Rd.Le at *; omega
/-- sorted rows of the same records, each as often, are one -/
theorem sortedR_ext : ∀ {f g : List Rd}, f.Pairwise Rd.Le → g.Pairwise Rd.Le → f.Perm g → f = g
  | [], g, _, _, h => by rw [List.nil_perm.1 h]
  | x :: f, [], _, _, h => by have := h.length_eq; simp at this
  | x :: f, y :: g, hf, hg, h => by
    have hf' := hf; have hg' := hg
    rw [List.pairwise_cons] at hf hg
    have hxy : x = y := by
      apply Rd.Le_antisymm
      · rcases List.mem_cons.1 (h.mem_iff.2 (List.mem_cons_self (a := y) (l := g))) with e | hy
        · rw [e]; exact Rd.Le_refl
        · exact hf.1 y hy
      · rcases List.mem_cons.1 (h.mem_iff.1 (List.mem_cons_self (a := x) (l := f))) with e | hx
        · rw [e]; exact Rd.Le_refl
        · exact hg.1 x hx
    subst hxy
    rw [sortedR_ext hf.2 hg.2 (List.Perm.cons_inv h)]
def insR (t : Rd) : List Rd → List Rd
  | [] => [t]
  | y :: r => if y.Le t then y :: insR t r else t :: y :: r
theorem insR_perm : ∀ {l : List Rd}, (insR t l).Perm (t :: l)
  | [] => List.Perm.refl _
  | y :: r => by
    unfold insR
    split
    · exact (List.Perm.cons y insR_perm).trans (List.Perm.swap t y r)
    · exact List.Perm.refl _
theorem insR_sort : ∀ {l : List Rd}, l.Pairwise Rd.Le → (insR t l).Pairwise Rd.Le
  | [], _ => by simp [insR]
  | y :: r, h => by
    have hh := h
    rw [List.pairwise_cons] at h
    unfold insR
    split
    · rename_i hc
      rw [List.pairwise_cons]
      refine ⟨fun x hx => ?_, insR_sort h.2⟩
      rcases List.mem_cons.1 (insR_perm.mem_iff.1 hx) with e | hx
      · rw [e]; exact hc
      · exact h.1 x hx
    · rename_i hc
      rw [List.pairwise_cons]
      refine ⟨fun x hx => ?_, hh⟩
      rcases List.mem_cons.1 hx with e | hx
      · rw [e]; exact Rd.Le_total hc
      · exact Rd.Le_trans (Rd.Le_total hc) (h.1 x hx)
def sortR : List Rd → List Rd
  | [] => []
  | t :: r => insR t (sortR r)
theorem sortR_perm : ∀ {l : List Rd}, (sortR l).Perm l
  | [] => List.Perm.refl _
  | t :: r => insR_perm.trans (List.Perm.cons t sortR_perm)
theorem sortR_sort : ∀ {l : List Rd}, (sortR l).Pairwise Rd.Le
  | [] => List.Pairwise.nil
  | t :: r => insR_sort sortR_sort
/-- whatever row has these records, sorted -/
theorem sortR_eq (hs : f.Pairwise Rd.Le) (hp : f.Perm l) : f = sortR l := sortedR_ext hs sortR_sort (hp.trans sortR_perm.symm)
theorem sortR_iff : sortR l = sortR m ↔ l.Perm m :=
  ⟨fun h => sortR_perm.symm.trans (h ▸ sortR_perm), fun h => sortedR_ext sortR_sort sortR_sort (sortR_perm.trans (h.trans sortR_perm.symm))⟩
theorem sortR_self (h : l.Pairwise Rd.Le) : sortR l = l := (sortR_eq h (List.Perm.refl _)).symm
theorem sortR_sortR : sortR (sortR l) = sortR l := sortR_self sortR_sort
theorem sortR_app (h : l.Perm p) (k : m.Perm q) : sortR (l ++ m) = sortR (p ++ q) := sortR_iff.2 (h.append k)
theorem sortR_left : sortR (sortR l ++ m) = sortR (l ++ m) := sortR_app sortR_perm (List.Perm.refl _)
theorem sortR_right : sortR (l ++ sortR m) = sortR (l ++ m) := sortR_app (List.Perm.refl _) sortR_perm
theorem sortR_swap : sortR (l ++ m) = sortR (m ++ l) := sortR_iff.2 List.perm_append_comm
/-- taken one by one -/
def lessL : List Rd → List Rd → Option (List Rd)
  | l, [] => some l
  | l, x :: b => if x ∈ l then lessL (l.erase x) b else none
theorem lessL_some : ∀ {b l m : List Rd}, lessL l b = some m → l.Perm (m ++ b) ∧ m.Sublist l
  | [], l, m, h => by
    simp only [lessL, Option.some.injEq] at h
    rw [h, List.append_nil]; exact ⟨List.Perm.refl _, List.Sublist.refl _⟩
  | x :: b, l, m, h => by
    unfold lessL at h
    split at h
    · rename_i hx
      obtain ⟨h1, h2⟩ := lessL_some h
      refine ⟨?_, h2.trans List.erase_sublist⟩
      exact ((List.perm_cons_erase hx).trans (List.Perm.cons x h1)).trans List.perm_middle.symm
    · exact absurd h (by simp)
theorem lessL_of : ∀ {b l m : List Rd}, l.Perm (m ++ b) → ∃ n, lessL l b = some n ∧ n.Perm m
  | [], l, m, h => ⟨l, rfl, by rw [List.append_nil] at h; exact h⟩
  | x :: b, l, m, h => by
    have hx : x ∈ l := h.mem_iff.2 (by simp)
    have h2 : (l.erase x).Perm (m ++ b) := List.Perm.cons_inv (a := x) (((List.perm_cons_erase hx).symm.trans h).trans List.perm_middle)
    obtain ⟨n, h3, h4⟩ := lessL_of h2
    exact ⟨n, by unfold lessL; rw [if_pos hx, h3], h4⟩
/-- one row less another one, sorted -/
def lessR (a b : List Rd) : Option (List Rd) := lessL (sortR a) b
theorem lessR_some : lessR l m = some p ↔ p.Pairwise Rd.Le ∧ l.Perm (p ++ m) := by
  constructor
  · intro h
    obtain ⟨h1, h2⟩ := lessL_some h
    exact ⟨sortR_sort.sublist h2, sortR_perm.symm.trans h1⟩
  · rintro ⟨h1, h2⟩
    obtain ⟨n, h3, h4⟩ := lessL_of (sortR_perm.trans h2)
    obtain ⟨h5, h6⟩ := lessL_some h3
    unfold lessR
    rw [h3, sortedR_ext (sortR_sort.sublist h6) h1 h4]
/-- Less undoes Add -/
theorem lessR_add (h : l.Perm (m ++ p)) : lessR l m = some (sortR p) :=
  lessR_some.2 ⟨sortR_sort, (h.trans List.perm_append_comm).trans (List.Perm.append_right _ sortR_perm.symm)⟩
theorem lessR_none : lessR l m = none ↔ ∀ p, ¬ l.Perm (p ++ m) := by
  constructor
  · intro h p hp
    have := lessR_add (hp.trans List.perm_append_comm)
    rw [h] at this; exact absurd this (by simp)
  · intro h
    cases e : lessR l m with
    | none => rfl
    | some p => exact absurd (lessR_some.1 e).2 (h p)
theorem lessR_length (h : lessR l m = some p) : p.length = l.length - m.length ∧ m.length ≤ l.length := by
  have := (lessR_some.1 h).2.length_eq
  rw [List.length_append] at this; omega
/-- more is not there -/
theorem lessR_more : lessR l (l ++ x :: m) = none := lessR_none.2 fun p hp => by
  have := hp.length_eq; simp at this; omega
/-- both ways: they are the same -/
theorem lessR_both (h : lessR l m = some p) : (lessR m l).isSome ↔ l.Perm m := by
  constructor
  · intro k
    obtain ⟨q, hq⟩ := Option.isSome_iff_exists.1 k
    have h1 := lessR_length h; have h2 := lessR_length hq
    have hp : p = [] := List.length_eq_zero_iff.1 (by omega)
    have := (lessR_some.1 h).2
    rw [hp] at this; exact this
  · intro k
    have := lessR_add (l := m) (m := l) (p := []) (by rw [List.append_nil]; exact k.symm)
    rw [this]; rfl
/-! bytes -/
def Rd.W (t : Rd) : Prop := (-9223372036854775808 ≤ t.k ∧ t.k < 9223372036854775808) ∧ -9223372036854775808 ≤ t.v ∧ t.v < 9223372036854775808
def Rd.put (t : Rd) : List Nat := be8 (uns t.k) ++ be8 (uns t.v)
def putR (l : List Rd) : List Nat := (l.map Rd.put).flatten
def getR : List Nat → Option (List Rd)
  | [] => some []
  | a0 :: a1 :: a2 :: a3 :: a4 :: a5 :: a6 :: a7 :: b0 :: b1 :: b2 :: b3 :: b4 :: b5 :: b6 :: b7 :: r =>
    match getR r with
    | none => none
    | some l => some (⟨sg64 (of8 a0 a1 a2 a3 a4 a5 a6 a7), sg64 (of8 b0 b1 b2 b3 b4 b5 b6 b7)⟩ :: l)
  | _ => none
theorem getR_cons {a0 a1 a2 a3 a4 a5 a6 a7 b0 b1 b2 b3 b4 b5 b6 b7 : Nat} {r : List Nat} : getR (a0 :: a1 :: a2 :: a3 :: a4 :: a5 :: a6 :: a7 :: b0 :: b1 :: b2 :: b3 :: b4 :: b5 :: b6 :: b7 :: r) =
    match getR r with
    | none => none
    | some l => some (⟨sg64 (of8 a0 a1 a2 a3 a4 a5 a6 a7), sg64 (of8 b0 b1 b2 b3 b4 b5 b6 b7)⟩ :: l) := by
  rw [getR]
theorem getR_put : ∀ {l : List Rd}, (∀ t ∈ l, t.W) → getR (putR l) = some l
  | [], _ => rfl
  | t :: l, h => by
    obtain ⟨⟨h1, h2⟩, h3, h4⟩ := h t List.mem_cons_self
    show getR ((t.put :: l.map Rd.put).flatten) = _
    rw [List.flatten_cons, show (l.map Rd.put).flatten = putR l from rfl]
    unfold Rd.put be8
    simp only [List.cons_append, List.nil_append]
    rw [getR_cons, getR_put fun y hy => h y (List.mem_cons_of_mem _ hy)]
    simp only
    rw [of8_be8 uns_lt, of8_be8 uns_lt, sg64_uns h1 h2, sg64_uns h3 h4]
theorem getR_some : ∀ (n : Nat) {b : List Nat} {l : List Rd}, b.length ≤ n → (∀ x ∈ b, x < 256) → getR b = some l → (∀ t ∈ l, t.W) ∧ b = putR l ∧ b.length = 16 * l.length := by
  intro n
  induction n with
  | zero =>
    intro b l hn hb h
    have : b = [] := List.length_eq_zero_iff.1 (by omega)
    subst this
    simp only [getR, Option.some.injEq] at h
    subst h
    exact ⟨by simp, rfl, rfl⟩
  | succ n ih =>
    intro b l hn hb h
    unfold getR at h
    split at h
    · simp only [Option.some.injEq] at h
      subst h
      exact ⟨by simp, rfl, rfl⟩
    · rename_i a0 a1 a2 a3 a4 a5 a6 a7 b0 b1 b2 b3 b4 b5 b6 b7 r
      split at h
      · exact absurd h (by simp)
      · rename_i m hm
        simp only [Option.some.injEq] at h
        subst h
        simp only [List.mem_cons, forall_eq_or_imp] at hb
        obtain ⟨g0, g1, g2, g3, g4, g5, g6, g7, k0, k1, k2, k3, k4, k5, k6, k7, hr⟩ := hb
        simp only [List.length_cons] at hn
        obtain ⟨h1, h2, h3⟩ := ih (by omega) hr hm
        have l1 := of8_lt g0 g1 g2 g3 g4 g5 g6 g7
        have l2 := of8_lt k0 k1 k2 k3 k4 k5 k6 k7
        refine ⟨fun t ht => ?_, ?_, ?_⟩
        · rcases List.mem_cons.1 ht with e | ht
          · rw [e]; exact ⟨sg64_W l1, sg64_W l2⟩
          · exact h1 t ht
        · show _ = Rd.put _ ++ putR m
          unfold Rd.put
          simp only
          rw [uns_sg64 l1, uns_sg64 l2, be8_of8 g0 g1 g2 g3 g4 g5 g6 g7, be8_of8 k0 k1 k2 k3 k4 k5 k6 k7, ← h2]; rfl
        · simp only [List.length_cons]; omega
    · exact absurd h (by simp)
/-- bytes are records just where they fall into sixteens -/
theorem getR_of : ∀ (n : Nat) {b : List Nat}, b.length = 16 * n → ∃ l, getR b = some l ∧ l.length = n
  | 0, b, h => by
    have : b = [] := List.length_eq_zero_iff.1 (by omega)
    subst this
    exact ⟨[], rfl, rfl⟩
  | n + 1, b, h => by
    match b, h with
    | a0 :: a1 :: a2 :: a3 :: a4 :: a5 :: a6 :: a7 :: b0 :: b1 :: b2 :: b3 :: b4 :: b5 :: b6 :: b7 :: r, h =>
      simp only [List.length_cons] at h
      obtain ⟨l, h1, h2⟩ := getR_of n (b := r) (by omega)
      refine ⟨_, by rw [getR_cons, h1], by rw [List.length_cons, h2]⟩
end
end Go.Proofs.Ytcdofkhkckodjaa
