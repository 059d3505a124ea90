/- Frontiers: what is behind them, their order, both and either: plain mathematics, of no code. -/
import Derived.Test.YtkbabmifdfmhlaaStLattice
namespace Go.Proofs.Ytkbabmifdfmhlaa
set_option linter.unusedVariables false
set_option maxRecDepth 100000
/-- at or behind one of them -/
def Up (l : List St) (t : St) : Prop := ∃ x ∈ l, x.L t
structure Fr (f : List St) : Prop where
  right : ∀ x ∈ f, x.R
  depth : ∀ x ∈ f, ∀ y ∈ f, x.d = y.d
  sort : f.Pairwise fun x y => x.C y < 0
  anti : ∀ x ∈ f, ∀ y ∈ f, x.L y → x = y
section
variable {a b c f g l m : List St} {s t x y z : St}
theorem St.C_irrefl : ¬ x.C x < 0 := by
  have : x.C x = 0 := St.C_zero.2 rfl
  omega
theorem St.C_lt_trans (h : x.C y < 0) (k : y.C z < 0) : x.C z < 0 := by
  rw [St.C_neg] at *
  omega
theorem St.C_total (h : x ≠ y) : x.C y < 0 ∨ y.C x < 0 := by
  have h1 : x.C y ≠ 0 := fun e => h (St.C_zero.1 e)
  have h2 := St.C_swap (a := x) (b := y)
  omega
/-- rising rows of the same times are one -/
theorem sorted_ext : ∀ {f g : List St}, f.Pairwise (fun x y => x.C y < 0) → g.Pairwise (fun x y => x.C y < 0) → (∀ t, t ∈ f ↔ t ∈ g) → f = g
  | [], [], _, _, _ => rfl
  | [], y :: g, _, _, h => absurd ((h y).2 List.mem_cons_self) (by simp)
  | x :: f, [], _, _, h => absurd ((h x).1 List.mem_cons_self) (by simp)
  | x :: f, y :: g, hf, hg, h => by
    rw [List.pairwise_cons] at hf hg
    have hxy : x = y := by
      have h1 := (h x).1 List.mem_cons_self
      have h2 := (h y).2 List.mem_cons_self
      rcases List.mem_cons.1 h1 with e | h1
      · exact e
      · rcases List.mem_cons.1 h2 with e | h2
        · exact e.symm
        · exact absurd (St.C_lt_trans (hf.1 y h2) (hg.1 x h1)) St.C_irrefl
    subst hxy
    congr 1
    refine sorted_ext hf.2 hg.2 fun t => ⟨fun ht => ?_, fun ht => ?_⟩
    · rcases List.mem_cons.1 ((h t).1 (List.mem_cons_of_mem _ ht)) with e | h1
      · exact absurd (e ▸ hf.1 t ht) St.C_irrefl
      · exact h1
    · rcases List.mem_cons.1 ((h t).2 (List.mem_cons_of_mem _ ht)) with e | h1
      · exact absurd (e ▸ hg.1 t ht) St.C_irrefl
      · exact h1
theorem Up.mono (h : Up l s) (k : s.L t) : Up l t := by
  obtain ⟨x, hx, hl⟩ := h; exact ⟨x, hx, St.L_trans hl k⟩
theorem Up.self (hx : x ∈ l) (hr : x.R) : Up l x := ⟨x, hx, St.L_refl.2 hr⟩
theorem Up_append : Up (a ++ b) t ↔ Up a t ∨ Up b t := by
  simp only [Up, List.mem_append]
  constructor
  · rintro ⟨x, hx | hx, h⟩
    · exact .inl ⟨x, hx, h⟩
    · exact .inr ⟨x, hx, h⟩
  · rintro (⟨x, hx, h⟩ | ⟨x, hx, h⟩)
    · exact ⟨x, .inl hx, h⟩
    · exact ⟨x, .inr hx, h⟩
/-- frontiers behind which the same times are, are one -/
theorem Fr.sub (hf : Fr f) (hg : Fr g) (h : ∀ t, Up f t ↔ Up g t) : ∀ t, t ∈ f → t ∈ g := by
  intro x hx
  obtain ⟨y, hy, hyx⟩ := (h x).1 (Up.self hx (hf.right x hx))
  obtain ⟨z, hz, hzy⟩ := (h y).2 (Up.self hy (hg.right y hy))
  have e := hf.anti z hz x hx (St.L_trans hzy hyx)
  subst e
  rw [St.L_antisymm hzy hyx]; exact hy
theorem Fr.ext (hf : Fr f) (hg : Fr g) (h : ∀ t, Up f t ↔ Up g t) : f = g :=
  sorted_ext hf.sort hg.sort fun t => ⟨hf.sub hg h t, hg.sub hf (fun t => (h t).symm) t⟩
/-! the frontier of any times of one depth -/
/-- all are right, and of one depth -/
def Even (l : List St) : Prop := ∀ x ∈ l, x.R ∧ ∀ y ∈ l, x.d = y.d
def St.sum (t : St) : Nat := (t.e + t.x + t.y + t.z).toNat
theorem St.sum_lt (h : x.L y) (hne : x ≠ y) : x.sum < y.sum := by
  unfold St.L St.R at h
  unfold St.sum
  have : ¬ (x.e = y.e ∧ x.x = y.x ∧ x.y = y.y ∧ x.z = y.z) := fun ⟨h1, h2, h3, h4⟩ => hne (St.ext' h.2.2.1 h1 h2 h3 h4)
  omega
/-- one of the least is ahead of each -/
theorem least_below (l : List St) : ∀ (n : Nat) (x : St), x.sum ≤ n → x ∈ l → x.R → ∃ y ∈ l, y.L x ∧ ∀ z ∈ l, z.L y → z = y := by
  intro n
  induction n with
  | zero =>
    intro x hn hx hr
    refine ⟨x, hx, St.L_refl.2 hr, fun z hz hl => ?_⟩
    by_cases e : z = x
    · exact e
    · have := St.sum_lt hl e; omega
  | succ n ih =>
    intro x hn hx hr
    by_cases h : ∀ z ∈ l, z.L x → z = x
    · exact ⟨x, hx, St.L_refl.2 hr, h⟩
    · have ⟨z, hz⟩ : ∃ z, z ∈ l ∧ z.L x ∧ z ≠ x := by
        apply Classical.byContradiction
        intro hn
        apply h
        intro z hz hl
        apply Classical.byContradiction
        intro hne
        exact hn ⟨z, hz, hl, hne⟩
      obtain ⟨hz, hl, hne⟩ := hz
      obtain ⟨y, hy, hyz, hmin⟩ := ih z (by have := St.sum_lt hl hne; omega) hz hl.1
      exact ⟨y, hy, St.L_trans hyz hl, hmin⟩
/-- a time takes its place -/
def insS (t : St) : List St → List St
  | [] => [t]
  | y :: r => if y.C t < 0 then y :: insS t r else t :: y :: r
theorem mem_insS {t x : St} : ∀ {l : List St}, x ∈ insS t l ↔ x = t ∨ x ∈ l
  | [] => by simp [insS]
  | y :: r => by
    unfold insS
    split
    · rw [List.mem_cons, mem_insS, List.mem_cons]
      constructor
      · rintro (h | h | h)
        · exact .inr (.inl h)
        · exact .inl h
        · exact .inr (.inr h)
      · rintro (h | h | h)
        · exact .inr (.inl h)
        · exact .inl h
        · exact .inr (.inr h)
    · simp
theorem insS_sort {t : St} : ∀ {l : List St}, l.Pairwise (fun x y => x.C y < 0) → t ∉ l → (insS t l).Pairwise (fun x y => x.C y < 0)
  | [], _, _ => by simp [insS]
  | y :: r, h, hn => by
    have hh := h
    rw [List.pairwise_cons] at h
    unfold insS
    split
    · rename_i hc
      rw [List.pairwise_cons]
      refine ⟨fun x hx => ?_, insS_sort h.2 (fun hm => hn (List.mem_cons_of_mem _ hm))⟩
      rcases mem_insS.1 hx with e | hx
      · rw [e]; exact hc
      · exact h.1 x hx
    · rename_i hc
      have hty : t.C y < 0 := by
        rcases St.C_total (x := t) (y := y) (fun e => hn (by rw [e]; exact List.mem_cons_self)) with h1 | h1
        · exact h1
        · exact absurd h1 hc
      rw [List.pairwise_cons]
      refine ⟨fun x hx => ?_, hh⟩
      rcases List.mem_cons.1 hx with e | hx
      · rw [e]; exact hty
      · exact St.C_lt_trans hty (h.1 x hx)
/-- is none of l strictly ahead of it? -/
def Least (l : List St) (t : St) : Prop := ∀ z ∈ l, z.L t → z = t
instance (l : List St) (t : St) : Decidable (Least l t) := inferInstanceAs (Decidable (∀ z ∈ l, _))
/-- the least of l, each once, rising: of the first ones of m -/
def ofIn (l : List St) : List St → List St
  | [] => []
  | t :: r => if Least l t ∧ t ∉ ofIn l r then insS t (ofIn l r) else ofIn l r
def ofS (l : List St) : List St := ofIn l l
theorem mem_ofIn (l : List St) : ∀ {m : List St}, x ∈ ofIn l m ↔ x ∈ m ∧ Least l x
  | [] => by simp [ofIn]
  | t :: r => by
    unfold ofIn
    split
    · rename_i h
      rw [mem_insS, mem_ofIn l, List.mem_cons]
      constructor
      · rintro (e | ⟨h1, h2⟩)
        · subst e; exact ⟨.inl rfl, h.1⟩
        · exact ⟨.inr h1, h2⟩
      · rintro ⟨e | h1, h2⟩
        · exact .inl e
        · exact .inr ⟨h1, h2⟩
    · rename_i h
      rw [mem_ofIn l, List.mem_cons]
      constructor
      · rintro ⟨h1, h2⟩; exact ⟨.inr h1, h2⟩
      · rintro ⟨e | h1, h2⟩
        · subst e
          have : x ∈ ofIn l r := Classical.byContradiction fun hn => h ⟨h2, hn⟩
          rw [mem_ofIn l] at this; exact this
        · exact ⟨h1, h2⟩
theorem ofIn_sort (l : List St) : ∀ m : List St, (ofIn l m).Pairwise (fun x y => x.C y < 0)
  | [] => List.Pairwise.nil
  | t :: r => by
    unfold ofIn
    split
    · rename_i h; exact insS_sort (ofIn_sort l r) h.2
    · exact ofIn_sort l r
theorem mem_ofS : x ∈ ofS l ↔ x ∈ l ∧ Least l x := mem_ofIn l
theorem ofS_fr (h : Even l) : Fr (ofS l) :=
  ⟨fun x hx => (h x (mem_ofS.1 hx).1).1, fun x hx y hy => (h x (mem_ofS.1 hx).1).2 y (mem_ofS.1 hy).1, ofIn_sort l l, fun x hx y hy hl => (mem_ofS.1 hy).2 x (mem_ofS.1 hx).1 hl⟩
theorem ofS_up (h : Even l) : Up (ofS l) t ↔ Up l t := by
  constructor
  · rintro ⟨x, hx, hl⟩; exact ⟨x, (mem_ofS.1 hx).1, hl⟩
  · rintro ⟨x, hx, hl⟩
    obtain ⟨y, hy, hyx, hmin⟩ := least_below l _ x (Nat.le_refl _) hx (h x hx).1
    exact ⟨y, mem_ofS.2 ⟨hy, hmin⟩, St.L_trans hyx hl⟩
/-- whatever row has these times, rising -/
theorem ofS_eq (hs : f.Pairwise (fun x y => x.C y < 0)) (hm : ∀ x, x ∈ f ↔ x ∈ l ∧ Least l x) : f = ofS l :=
  sorted_ext hs (ofIn_sort l l) fun x => (hm x).trans mem_ofS.symm
theorem Fr.even (h : Fr f) : Even f := fun x hx => ⟨h.right x hx, h.depth x hx⟩
theorem ofS_self (h : Fr f) : ofS f = f := Fr.ext (ofS_fr h.even) h fun t => ofS_up h.even
/-! one within the other, both, either -/
/-- are both frontiers of one depth? -/
def Alike (a b : List St) : Prop := Fr a ∧ Fr b ∧ ∀ x ∈ a, ∀ y ∈ b, x.d = y.d
/-- what is in a is in b -/
def In (a b : List St) : Prop := ∀ x ∈ b, Up a x
theorem In_iff (hb : ∀ x ∈ b, x.R) : In a b ↔ ∀ t, Up b t → Up a t := by
  constructor
  · rintro h t ⟨x, hx, hl⟩; exact (h x hx).mono hl
  · intro h x hx; exact h x (Up.self hx (hb x hx))
def bothS (a b : List St) : List St := ofS (a ++ b)
def pairsS (a b : List St) : List St := (a.map fun x => b.map fun y => x.join y).flatten
def eitherS (a b : List St) : List St := ofS (pairsS a b)
theorem even_append (h : Alike a b) : Even (a ++ b) := by
  intro x hx
  refine ⟨?_, fun y hy => ?_⟩
  · rcases List.mem_append.1 hx with hx | hx
    · exact h.1.right x hx
    · exact h.2.1.right x hx
  · rcases List.mem_append.1 hx with hx | hx <;> rcases List.mem_append.1 hy with hy | hy
    · exact h.1.depth x hx y hy
    · exact h.2.2 x hx y hy
    · exact (h.2.2 y hy x hx).symm
    · exact h.2.1.depth x hx y hy
theorem mem_pairs : z ∈ pairsS a b ↔ ∃ x ∈ a, ∃ y ∈ b, x.join y = z := by
  simp only [pairsS, List.mem_flatten, List.mem_map]
  constructor
  · rintro ⟨l, ⟨x, hx, rfl⟩, hz⟩
    obtain ⟨y, hy, rfl⟩ := List.mem_map.1 hz
    exact ⟨x, hx, y, hy, rfl⟩
  · rintro ⟨x, hx, y, hy, rfl⟩
    exact ⟨_, ⟨x, hx, rfl⟩, List.mem_map.2 ⟨y, hy, rfl⟩⟩
theorem Alike.B (h : Alike a b) (hx : x ∈ a) (hy : y ∈ b) : x.B y := ⟨h.1.right x hx, h.2.1.right y hy, h.2.2 x hx y hy⟩
theorem even_pairs (h : Alike a b) : Even (pairsS a b) := by
  intro z hz
  obtain ⟨x, hx, y, hy, rfl⟩ := mem_pairs.1 hz
  refine ⟨St.join_R (h.B hx hy), fun w hw => ?_⟩
  obtain ⟨x', hx', y', hy', rfl⟩ := mem_pairs.1 hw
  rw [St.join_d (h.B hx hy), St.join_d (h.B hx' hy')]
  exact h.1.depth x hx x' hx'
theorem both_fr (h : Alike a b) : Fr (bothS a b) := ofS_fr (even_append h)
theorem both_up (h : Alike a b) : Up (bothS a b) t ↔ Up a t ∨ Up b t := (ofS_up (even_append h)).trans Up_append
theorem either_fr (h : Alike a b) : Fr (eitherS a b) := ofS_fr (even_pairs h)
theorem either_up (h : Alike a b) : Up (eitherS a b) t ↔ Up a t ∧ Up b t := by
  rw [eitherS, ofS_up (even_pairs h)]
  constructor
  · rintro ⟨z, hz, hl⟩
    obtain ⟨x, hx, y, hy, rfl⟩ := mem_pairs.1 hz
    obtain ⟨h1, h2⟩ := (St.join_least (h.B hx hy)).1 hl
    exact ⟨⟨x, hx, h1⟩, ⟨y, hy, h2⟩⟩
  · rintro ⟨⟨x, hx, h1⟩, ⟨y, hy, h2⟩⟩
    exact ⟨x.join y, mem_pairs.2 ⟨x, hx, y, hy, rfl⟩, (St.join_least (h.B hx hy)).2 ⟨h1, h2⟩⟩
end
end Go.Proofs.Ytkbabmifdfmhlaa
