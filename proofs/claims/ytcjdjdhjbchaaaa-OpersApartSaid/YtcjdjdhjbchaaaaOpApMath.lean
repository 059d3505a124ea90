/- Records that are parted among workers: what each one makes of what came to it, together, is what one alone makes of all. -/
import Derived.Test.YtcjdjdhjbchaaaaCa20
namespace Go.Proofs.Ytcjdjdhjbchaaaa
namespace Op
open Vr
set_option linter.unusedVariables false
/-- what goes to the worker t -/
def atW (t : Nat) (A : List (Rd × Nat)) : List Rd := (A.filter fun p => decide (p.2 = t)).map Prod.fst
/-- what goes to those below t -/
def upW (t : Nat) (A : List (Rd × Nat)) : List Rd := (A.filter fun p => decide (p.2 < t)).map Prod.fst
section
variable {t k : Nat} {A B : List (Rd × Nat)} {n : Nd}
theorem upW_zero : upW 0 A = [] := by simp [upW]
theorem upW_succ : ∀ {A : List (Rd × Nat)}, (upW (t + 1) A).Perm (upW t A ++ atW t A)
  | [] => List.Perm.refl _
  | p :: A => by
    have ih := @upW_succ A
    unfold upW atW at *
    by_cases h1 : p.2 < t
    · rw [List.filter_cons_of_pos (by simp; omega), List.filter_cons_of_pos (by simpa using h1), List.filter_cons_of_neg (by simp; omega)]
      simp only [List.map_cons, List.cons_append]
      exact ih.cons _
    · by_cases h2 : p.2 = t
      · rw [List.filter_cons_of_pos (by simp; omega), List.filter_cons_of_neg (by simpa using h1), List.filter_cons_of_pos (by simpa using h2)]
        simp only [List.map_cons]
        exact (ih.cons _).trans List.perm_middle.symm
      · rw [List.filter_cons_of_neg (by simp; omega), List.filter_cons_of_neg (by simpa using h1), List.filter_cons_of_neg (by simpa using h2)]
        exact ih
theorem upW_all (h : ∀ p ∈ A, p.2 < k) : upW k A = A.map Prod.fst := by
  unfold upW
  rw [List.filter_eq_self.2 (fun p hp => by simpa using h p hp)]
theorem atW_len : (atW t A).length ≤ A.length := by
  unfold atW; rw [List.length_map]; exact List.length_filter_le _ _
theorem upW_len : (upW t A).length ≤ A.length := by
  unfold upW; rw [List.length_map]; exact List.length_filter_le _ _
theorem mem_atW {r : Rd} (h : r ∈ atW t A) : (r, t) ∈ A := by
  obtain ⟨p, hp, rfl⟩ := List.mem_map.1 h
  obtain ⟨h1, h2⟩ := List.mem_filter.1 hp
  have : p.2 = t := by simpa using h2
  subst this
  exact h1
theorem mem_upW {r : Rd} (h : r ∈ upW t A) : ∃ s, s < t ∧ (r, s) ∈ A := by
  obtain ⟨p, hp, rfl⟩ := List.mem_map.1 h
  obtain ⟨h1, h2⟩ := List.mem_filter.1 hp
  exact ⟨p.2, by simpa using h2, h1⟩
theorem atW_snoc {r : Rd} {s : Nat} : atW t (A ++ [(r, s)]) = if s = t then atW t A ++ [r] else atW t A := by
  unfold atW
  rw [List.filter_append, List.map_append]
  by_cases h : s = t
  · rw [if_pos h, List.filter_cons_of_pos (by simpa using h)]; rfl
  · rw [if_neg h, List.filter_cons_of_neg (by simpa using h)]; simp
/-- records of a key go to one worker -/
def Keyed2 (f : Int → Nat) (A : List (Rd × Nat)) : Prop := ∀ p ∈ A, p.2 = f p.1.k
theorem keyed_apart {f : Int → Nat} (h : Keyed2 f A) (g : Keyed2 f B) : Apart (upW t A) (atW t B) := fun r hr s hs e => by
  obtain ⟨u, hu, h1⟩ := mem_upW hr
  have h2 := h _ h1
  have h3 := g _ (mem_atW hs)
  simp only at h2 h3
  rw [e, ← h3] at h2
  omega
/-- the rows of those below t; those of t -/
def ups (two : Bool) (t : Nat) (A B : List (Rd × Nat)) : List (List Rd) := if two then [upW t A, upW t B] else [upW t A]
def ats (two : Bool) (t : Nat) (A B : List (Rd × Nat)) : List (List Rd) := if two then [atW t A, atW t B] else [atW t A]
def sel (two : Bool) (a b : List Rd) : List (List Rd) := if two then [a, b] else [a]
theorem sel_len {two : Bool} {a b : List Rd} : (sel two a b).length = if two then 2 else 1 := by cases two <;> rfl
theorem ups_sel {two : Bool} : ups two t A B = sel two (upW t A) (upW t B) := rfl
theorem ats_sel {two : Bool} : ats two t A B = sel two (atW t A) (atW t B) := rfl
/-- what is asked of n, and of how records go -/
structure Parts (n : Nd) (two : Bool) (A B : List (Rd × Nat)) : Prop where
  two_ : two = decide (n.k = 4 ∨ n.k = 6)
  key : n.k = 5 ∨ n.k = 6 → ∃ f, Keyed2 f A ∧ Keyed2 f B
theorem makes_step {two : Bool} (h : Parts n two A B) : (makesR n (sel two (upW (t + 1) A) (upW (t + 1) B))).Perm (makesR n (sel two (upW t A) (upW t B)) ++ makesR n (sel two (atW t A) (atW t B))) := by
  cases two with
  | false =>
    have h6 : n.k ≠ 6 := fun e => by have := h.two_; simp [e] at this
    refine (makes_one upW_succ).trans ?_
    by_cases h5 : n.k = 5
    · obtain ⟨f, hA, hB⟩ := h.key (.inl h5)
      exact makes_one_apart h5 (keyed_apart hA hA)
    · show (makesR n [upW t A ++ atW t A]).Perm _
      rw [makes_one_app h5 h6]
      exact List.Perm.refl _
  | true =>
    have h5 : n.k ≠ 5 := fun e => by have := h.two_; simp [e] at this
    refine (makes_two upW_succ upW_succ).trans ?_
    by_cases h6 : n.k = 6
    · obtain ⟨f, hA, hB⟩ := h.key (.inr h6)
      exact makes_two_apart h6 (keyed_apart hA hB) ((keyed_apart hB hA).symm)
    · exact makes_two_app h5 h6
theorem run_step {two : Bool} (h : Parts n two A B) : sortR ([runR n (ups two t A B), runR n (ats two t A B)] : List (List Rd)).flatten = runR n (ups two (t + 1) A B) := by
  unfold runR
  rw [ups_sel, ats_sel, ups_sel, sel_len, sel_len, sel_len]
  by_cases e : errR n (if two then 2 else 1) = 0
  · simp only [e, if_true]
    refine sortR_iff.2 ?_
    simp only [List.flatten_cons, List.flatten_nil, List.append_nil]
    exact (List.Perm.append sortR_perm sortR_perm).trans (makes_step h).symm
  · simp only [e, if_false]; rfl
theorem run_skip {two : Bool} (hA : atW t A = []) (hB : atW t B = []) : runR n (ups two (t + 1) A B) = runR n (ups two t A B) := by
  have pA : (upW (t + 1) A).Perm (upW t A) := by have := @upW_succ t A; rw [hA, List.append_nil] at this; exact this
  have pB : (upW (t + 1) B).Perm (upW t B) := by have := @upW_succ t B; rw [hB, List.append_nil] at this; exact this
  unfold runR
  rw [ups_sel, ups_sel, sel_len, sel_len]
  by_cases e : errR n (if two then 2 else 1) = 0
  · simp only [e, if_true]
    cases two with
    | false => exact sortR_iff.2 (makes_one pA)
    | true => exact sortR_iff.2 (makes_two pA pB)
  · simp only [e, if_false]
theorem run_none {two : Bool} : runR n (ups two 0 A B) = [] := by
  unfold runR
  split
  · have : (makesR n (ups two 0 A B)).length = 0 := by
      rw [ups_sel, upW_zero, upW_zero]
      cases two with
      | false => have := @makes_len1 n []; simp at this ⊢; simpa [sel] using this
      | true => have := @makes_len2 n [] []; simp at this ⊢; simpa [sel] using this
    rw [List.eq_nil_of_length_eq_zero this]
    rfl
  · rfl
theorem rlen1 {a : List Rd} : (runR n [a]).length ≤ a.length := by
  unfold runR
  split
  · rw [sortR_perm.length_eq]; exact makes_len1
  · simp
theorem rlen2 {a b : List Rd} : (runR n [a, b]).length ≤ a.length + b.length + a.length * b.length := by
  unfold runR
  split
  · rw [sortR_perm.length_eq]; exact makes_len2
  · simp
theorem run_all {two : Bool} (hA : ∀ p ∈ A, p.2 < k) (hB : ∀ p ∈ B, p.2 < k) : runR n (ups two k A B) = runR n (sel two (A.map Prod.fst) (B.map Prod.fst)) := by
  rw [ups_sel, upW_all hA, upW_all hB]
end
end Op
end Go.Proofs.Ytcjdjdhjbchaaaa
