/- The least of any summaries: plain mathematics, of no code. -/
import Derived.Test.YtdpadkellpkppaaSumMath
namespace Go.Proofs.Ytdpadkellpkppaa
set_option linter.unusedVariables false
/-- the numbers of one stand ahead of another one's -/
def Sm.A (a b : Sm) : Prop := a.fr < b.fr ∨ a.fr = b.fr ∧ (a.to < b.to ∨ a.to = b.to ∧ (a.kp < b.kp ∨ a.kp = b.kp ∧ (a.ad < b.ad ∨ a.ad = b.ad ∧ (a.t0 < b.t0 ∨ a.t0 = b.t0 ∧ (a.t1 < b.t1 ∨ a.t1 = b.t1 ∧ a.t2 < b.t2)))))
instance (a b : Sm) : Decidable (a.A b) := inferInstanceAs (Decidable (_ ∨ _))
section
variable {a b c s t x y z : Sm} {f g l m : List Sm}
theorem Sm.A_irrefl : ¬ x.A x := by unfold Sm.A; omega
theorem Sm.A_trans (h : x.A y) (k : y.A z) : x.A z := by unfold Sm.A at *; omega
theorem Sm.A_total (h : x ≠ y) : x.A y ∨ y.A x := by
  have : ¬ (x.fr = y.fr ∧ x.to = y.to ∧ x.kp = y.kp ∧ x.ad = y.ad ∧ x.t0 = y.t0 ∧ x.t1 = y.t1 ∧ x.t2 = y.t2) := fun e => h (Sm.ext_iff'.2 e)
  unfold Sm.A; omega
/-- rising rows of the same summaries are one -/
theorem sums_ext : ∀ {f g : List Sm}, f.Pairwise Sm.A → g.Pairwise Sm.A → (∀ t, t ∈ f ↔ t ∈ g) → f = g
  | [], [], _, _, _ => rfl
  | [], y :: g, _, _, h => absurd ((h y).2 List.mem_cons_self) (by simp)
  | x :: f, [], _, _, h => absurd ((h x).1 List.mem_cons_self) (by simp)
  | x :: f, y :: g, hf, hg, h => by
    rw [List.pairwise_cons] at hf hg
    have hxy : x = y := by
      have h1 := (h x).1 List.mem_cons_self
      have h2 := (h y).2 List.mem_cons_self
      rcases List.mem_cons.1 h1 with e | h1
      · exact e
      · rcases List.mem_cons.1 h2 with e | h2
        · exact e.symm
        · exact absurd (Sm.A_trans (hf.1 y h2) (hg.1 x h1)) Sm.A_irrefl
    subst hxy
    congr 1
    refine sums_ext hf.2 hg.2 fun t => ⟨fun ht => ?_, fun ht => ?_⟩
    · rcases List.mem_cons.1 ((h t).1 (List.mem_cons_of_mem _ ht)) with e | h1
      · exact absurd (e ▸ hf.1 t ht) Sm.A_irrefl
      · exact h1
    · rcases List.mem_cons.1 ((h t).2 (List.mem_cons_of_mem _ ht)) with e | h1
      · exact absurd (e ▸ hg.1 t ht) Sm.A_irrefl
      · exact h1
def Sm.size (s : Sm) : Nat := (s.kp + s.N 0 + s.N 1 + s.N 2).toNat
theorem Sm.size_lt (h : x.L y) (hne : x ≠ y) : x.size < y.size := by
  have l0 := Sm.L_at h (i := 0) (by omega) (by omega); have l1 := Sm.L_at h (i := 1) (by omega) (by omega); have l2 := Sm.L_at h (i := 2) (by omega) (by omega)
  obtain ⟨hx, hy, hf, ht, hk, -⟩ := id h
  have n0 := Sm.N_R hx 0; have n1 := Sm.N_R hx 1; have n2 := Sm.N_R hx 2
  have hx' := hx; unfold Sm.R at hx'
  have : ¬ (x.kp = y.kp ∧ x.N 0 = y.N 0 ∧ x.N 1 = y.N 1 ∧ x.N 2 = y.N 2) := fun ⟨e, e0, e1, e2⟩ => hne (Sm.N_ext hx hy hf ht e fun i hi hi3 => by
    have : i = 0 ∨ i = 1 ∨ i = 2 := by omega
    rcases this with q | q | q <;> subst q <;> assumption)
  unfold Sm.size; omega
/-- it is right, and no other one of l is ahead of it -/
def LeastW (l : List Sm) (t : Sm) : Prop := t.R ∧ ∀ z ∈ l, z.L t → z = t
instance (l : List Sm) (t : Sm) : Decidable (LeastW l t) := inferInstanceAs (Decidable (_ ∧ ∀ z ∈ l, _))
theorem leastW_below (l : List Sm) : ∀ (n : Nat) (x : Sm), x.size ≤ n → x ∈ l → x.R → ∃ y ∈ l, y.L x ∧ LeastW l y := by
  intro n
  induction n with
  | zero =>
    intro x hn hx hr
    refine ⟨x, hx, Sm.L_refl.2 hr, hr, fun z hz hl => ?_⟩
    by_cases e : z = x
    · exact e
    · have := Sm.size_lt hl e; omega
  | succ n ih =>
    intro x hn hx hr
    by_cases h : ∀ z ∈ l, z.L x → z = x
    · exact ⟨x, hx, Sm.L_refl.2 hr, hr, h⟩
    · have ⟨z, hz⟩ : ∃ z, z ∈ l ∧ z.L x ∧ z ≠ x := by
        apply Classical.byContradiction
        intro hn
        apply h
        intro z hz hl
        apply Classical.byContradiction
        intro hne
        exact hn ⟨z, hz, hl, hne⟩
      obtain ⟨hz, hl, hne⟩ := hz
      obtain ⟨y, hy, hyz, hmin⟩ := ih z (by have := Sm.size_lt hl hne; omega) hz hl.1
      exact ⟨y, hy, Sm.L_trans hyz hl, hmin⟩
/-- a summary takes its place -/
def insW (t : Sm) : List Sm → List Sm
  | [] => [t]
  | y :: r => if y.A t then y :: insW t r else t :: y :: r
theorem mem_insW {t x : Sm} : ∀ {l : List Sm}, x ∈ insW t l ↔ x = t ∨ x ∈ l
  | [] => by simp [insW]
  | y :: r => by
    unfold insW
    split
    · rw [List.mem_cons, mem_insW, List.mem_cons]
      constructor
      · rintro (h | h | h)
        · exact .inr (.inl h)
        · exact .inl h
        · exact .inr (.inr h)
      · rintro (h | h | h)
        · exact .inr (.inl h)
        · exact .inl h
        · exact .inr (.inr h)
    · simp
theorem insW_sort {t : Sm} : ∀ {l : List Sm}, l.Pairwise Sm.A → t ∉ l → (insW t l).Pairwise Sm.A
  | [], _, _ => by simp [insW]
  | y :: r, h, hn => by
    have hh := h
    rw [List.pairwise_cons] at h
    unfold insW
    split
    · rename_i hc
      rw [List.pairwise_cons]
      refine ⟨fun x hx => ?_, insW_sort h.2 (fun hm => hn (List.mem_cons_of_mem _ hm))⟩
      rcases mem_insW.1 hx with e | hx
      · rw [e]; exact hc
      · exact h.1 x hx
    · rename_i hc
      have hty : t.A y := by
        rcases Sm.A_total (x := t) (y := y) (fun e => hn (by rw [e]; exact List.mem_cons_self)) with h1 | h1
        · exact h1
        · exact absurd h1 hc
      rw [List.pairwise_cons]
      refine ⟨fun x hx => ?_, hh⟩
      rcases List.mem_cons.1 hx with e | hx
      · rw [e]; exact hty
      · exact Sm.A_trans hty (h.1 x hx)
/-- the least of l, each once, rising: of those of m -/
def waysIn (l : List Sm) : List Sm → List Sm
  | [] => []
  | t :: r => if LeastW l t ∧ t ∉ waysIn l r then insW t (waysIn l r) else waysIn l r
def waysS (l : List Sm) : List Sm := waysIn l l
theorem mem_waysIn (l : List Sm) : ∀ {m : List Sm}, x ∈ waysIn l m ↔ x ∈ m ∧ LeastW l x
  | [] => by simp [waysIn]
  | t :: r => by
    unfold waysIn
    split
    · rename_i h
      rw [mem_insW, mem_waysIn l, List.mem_cons]
      constructor
      · rintro (e | ⟨h1, h2⟩)
        · subst e; exact ⟨.inl rfl, h.1⟩
        · exact ⟨.inr h1, h2⟩
      · rintro ⟨e | h1, h2⟩
        · exact .inl e
        · exact .inr ⟨h1, h2⟩
    · rename_i h
      rw [mem_waysIn l, List.mem_cons]
      constructor
      · rintro ⟨h1, h2⟩; exact ⟨.inr h1, h2⟩
      · rintro ⟨e | h1, h2⟩
        · subst e
          have : x ∈ waysIn l r := Classical.byContradiction fun hn => h ⟨h2, hn⟩
          rw [mem_waysIn l] at this; exact this
        · exact ⟨h1, h2⟩
theorem waysIn_sort (l : List Sm) : ∀ m : List Sm, (waysIn l m).Pairwise Sm.A
  | [] => List.Pairwise.nil
  | t :: r => by
    unfold waysIn
    split
    · rename_i h; exact insW_sort (waysIn_sort l r) h.2
    · exact waysIn_sort l r
theorem mem_waysS : x ∈ waysS l ↔ x ∈ l ∧ LeastW l x := mem_waysIn l
/-- whatever row has these summaries, rising -/
theorem waysS_eq (hs : f.Pairwise Sm.A) (hm : ∀ x, x ∈ f ↔ x ∈ l ∧ LeastW l x) : f = waysS l :=
  sums_ext hs (waysIn_sort l l) fun x => (hm x).trans mem_waysS.symm
/-- they cover all that are right -/
theorem waysS_covers (hx : x ∈ l) (hr : x.R) : ∃ y ∈ waysS l, y.L x := by
  obtain ⟨y, hy, hyx, hmin⟩ := leastW_below l _ x (Nat.le_refl _) hx hr
  exact ⟨y, mem_waysS.2 ⟨hy, hmin⟩, hyx⟩
/-- none of them is at or ahead of another one -/
theorem waysS_apart (hx : x ∈ waysS l) (hy : y ∈ waysS l) (h : x.L y) : x = y := (mem_waysS.1 hy).2.2 x (mem_waysS.1 hx).1 h
/-- the least of them is they -/
theorem waysS_self : waysS (waysS l) = waysS l :=
  (waysS_eq (waysIn_sort l l) fun x => ⟨fun h => ⟨h, (mem_waysS.1 h).2.1, fun z hz hl => waysS_apart hz h hl⟩, fun h => h.1⟩).symm
/-! the row is as the document makes it: each in turn takes its place, unless another one is ahead, or it stood before -/
/-- of the first ones of l, in turn -/
def turnW (l : List Sm) : List Sm → List Sm → List Sm
  | out, [] => out
  | out, t :: r => turnW l (if LeastW l t ∧ t ∉ out then insW t out else out) r
theorem turnW_spec (l : List Sm) : ∀ (m out : List Sm), out.Pairwise Sm.A → (turnW l out m).Pairwise Sm.A ∧ ∀ x, x ∈ turnW l out m ↔ x ∈ out ∨ x ∈ m ∧ LeastW l x
  | [], out, ho => ⟨ho, fun x => by simp [turnW]⟩
  | t :: r, out, ho => by
    unfold turnW
    split
    · rename_i h
      obtain ⟨h1, h2⟩ := turnW_spec l r (insW t out) (insW_sort ho h.2)
      refine ⟨h1, fun x => ?_⟩
      rw [h2, mem_insW, List.mem_cons]
      constructor
      · rintro ((e | h3) | ⟨h3, h4⟩)
        · subst e; exact .inr ⟨.inl rfl, h.1⟩
        · exact .inl h3
        · exact .inr ⟨.inr h3, h4⟩
      · rintro (h3 | ⟨e | h3, h4⟩)
        · exact .inl (.inr h3)
        · exact .inl (.inl e)
        · exact .inr ⟨h3, h4⟩
    · rename_i h
      obtain ⟨h1, h2⟩ := turnW_spec l r out ho
      refine ⟨h1, fun x => ?_⟩
      rw [h2, List.mem_cons]
      constructor
      · rintro (h3 | ⟨h3, h4⟩)
        · exact .inl h3
        · exact .inr ⟨.inr h3, h4⟩
      · rintro (h3 | ⟨e | h3, h4⟩)
        · exact .inl h3
        · subst e
          exact .inl (Classical.byContradiction fun hn => h ⟨h4, hn⟩)
        · exact .inr ⟨h3, h4⟩
theorem turnW_eq (l : List Sm) : turnW l [] l = waysS l := by
  obtain ⟨h1, h2⟩ := turnW_spec l l [] List.Pairwise.nil
  exact waysS_eq h1 fun x => (h2 x).trans (by simp)
end
end Go.Proofs.Ytdpadkellpkppaa
