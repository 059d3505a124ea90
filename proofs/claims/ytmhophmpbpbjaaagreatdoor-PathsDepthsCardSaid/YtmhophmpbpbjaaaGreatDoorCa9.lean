/- LeastMath, FrMath, PathMath, PathLaws, PathRun -/
import Derived.Test.YtmhophmpbpbjaaaGreatDoorCa1
import Derived.Test.YtmhophmpbpbjaaaGreatDoorCa0
import Derived.Test.YtmhophmpbpbjaaaGreatDoorCa8
namespace Go.Proofs.YtmhophmpbpbjaaaGreatDoor
set_option linter.unusedVariables false
section
def Sm.A (a b : Sm) : Prop := a.fr < b.fr ∨ a.fr = b.fr ∧ (a.to < b.to ∨ a.to = b.to ∧ (a.kp < b.kp ∨ a.kp = b.kp ∧ (a.ad < b.ad ∨ a.ad = b.ad ∧ (a.t0 < b.t0 ∨ a.t0 = b.t0 ∧ (a.t1 < b.t1 ∨ a.t1 = b.t1 ∧ a.t2 < b.t2)))))
instance (a b : Sm) : Decidable (a.A b) := inferInstanceAs (Decidable (_ ∨ _))
section
variable {a b c s t x y z : Sm} {f g l m : List Sm}
theorem Sm.A_irrefl : ¬ x.A x := by unfold Sm.A; omega
theorem Sm.A_trans (h : x.A y) (k : y.A z) : x.A z := by unfold Sm.A at *; omega
theorem Sm.A_total (h : x ≠ y) : x.A y ∨ y.A x := by
  have : ¬ (x.fr = y.fr ∧ x.to = y.to ∧ x.kp = y.kp ∧ x.ad = y.ad ∧ x.t0 = y.t0 ∧ x.t1 = y.t1 ∧ x.t2 = y.t2) := fun e => h (Sm.ext_iff'.2 e)
  unfold Sm.A; omega
theorem sums_ext : ∀ {f g : List Sm}, f.Pairwise Sm.A → g.Pairwise Sm.A → (∀ t, t ∈ f ↔ t ∈ g) → f = g
  | [], [], _, _, _ => rfl
  | [], y :: g, _, _, h => absurd ((h y).2 List.mem_cons_self) (by simp)
  | x :: f, [], _, _, h => absurd ((h x).1 List.mem_cons_self) (by simp)
  | x :: f, y :: g, hf, hg, h => by
    rw [List.pairwise_cons] at hf hg
    have hxy : x = y := by
      have h1 := (h x).1 List.mem_cons_self
      have h2 := (h y).2 List.mem_cons_self
      rcases List.mem_cons.1 h1 with e | h1
      · exact e
      · rcases List.mem_cons.1 h2 with e | h2
        · exact e.symm
        · exact absurd (Sm.A_trans (hf.1 y h2) (hg.1 x h1)) Sm.A_irrefl
    subst hxy
    congr 1
    refine sums_ext hf.2 hg.2 fun t => ⟨fun ht => ?_, fun ht => ?_⟩
    · rcases List.mem_cons.1 ((h t).1 (List.mem_cons_of_mem _ ht)) with e | h1
      · exact absurd (e ▸ hf.1 t ht) Sm.A_irrefl
      · exact h1
    · rcases List.mem_cons.1 ((h t).2 (List.mem_cons_of_mem _ ht)) with e | h1
      · exact absurd (e ▸ hg.1 t ht) Sm.A_irrefl
      · exact h1
def Sm.size (s : Sm) : Nat := (s.kp + s.N 0 + s.N 1 + s.N 2).toNat
theorem Sm.size_lt (h : x.L y) (hne : x ≠ y) : x.size < y.size := by
  have l0 := Sm.L_at h (i := 0) (by omega) (by omega); have l1 := Sm.L_at h (i := 1) (by omega) (by omega); have l2 := Sm.L_at h (i := 2) (by omega) (by omega)
  obtain ⟨hx, hy, hf, ht, hk, -⟩ := id h
  have n0 := Sm.N_R hx 0; have n1 := Sm.N_R hx 1; have n2 := Sm.N_R hx 2
  have hx' := hx; unfold Sm.R at hx'
  have : ¬ (x.kp = y.kp ∧ x.N 0 = y.N 0 ∧ x.N 1 = y.N 1 ∧ x.N 2 = y.N 2) := fun ⟨e, e0, e1, e2⟩ => hne (Sm.N_ext hx hy hf ht e fun i hi hi3 => by
    have : i = 0 ∨ i = 1 ∨ i = 2 := by omega
    rcases this with q | q | q <;> subst q <;> assumption)
  unfold Sm.size; omega
def LeastW (l : List Sm) (t : Sm) : Prop := t.R ∧ ∀ z ∈ l, z.L t → z = t
instance (l : List Sm) (t : Sm) : Decidable (LeastW l t) := inferInstanceAs (Decidable (_ ∧ ∀ z ∈ l, _))
theorem leastW_below (l : List Sm) : ∀ (n : Nat) (x : Sm), x.size ≤ n → x ∈ l → x.R → ∃ y ∈ l, y.L x ∧ LeastW l y := by
  intro n
  induction n with
  | zero =>
    intro x hn hx hr
    refine ⟨x, hx, Sm.L_refl.2 hr, hr, fun z hz hl => ?_⟩
    by_cases e : z = x
    · exact e
    · have := Sm.size_lt hl e; omega
  | succ n ih =>
    intro x hn hx hr
    by_cases h : ∀ z ∈ l, z.L x → z = x
    · exact ⟨x, hx, Sm.L_refl.2 hr, hr, h⟩
    · have ⟨z, hz⟩ : ∃ z, z ∈ l ∧ z.L x ∧ z ≠ x := by
        apply Classical.byContradiction
        intro hn
        apply h
        intro z hz hl
        apply Classical.byContradiction
        intro hne
        exact hn ⟨z, hz, hl, hne⟩
      obtain ⟨hz, hl, hne⟩ := hz
      obtain ⟨y, hy, hyz, hmin⟩ := ih z (by have := Sm.size_lt hl hne; omega) hz hl.1
      exact ⟨y, hy, Sm.L_trans hyz hl, hmin⟩
def insW (t : Sm) : List Sm → List Sm
  | [] => [t]
  | y :: r => if y.A t then y :: insW t r else t :: y :: r
theorem mem_insW {t x : Sm} : ∀ {l : List Sm}, x ∈ insW t l ↔ x = t ∨ x ∈ l
  | [] => by simp [insW]
  | y :: r => by
    unfold insW
    split
    · rw [List.mem_cons, mem_insW, List.mem_cons]
      constructor
      · rintro (h | h | h)
        · exact .inr (.inl h)
        · exact .inl h
        · exact .inr (.inr h)
      · rintro (h | h | h)
        · exact .inr (.inl h)
        · exact .inl h
        · exact .inr (.inr h)
    · simp
theorem insW_sort {t : Sm} : ∀ {l : List Sm}, l.Pairwise Sm.A → t ∉ l → (insW t l).Pairwise Sm.A
  | [], _, _ => by simp [insW]
  | y :: r, h, hn => by
    have hh := h
    rw [List.pairwise_cons] at h
    unfold insW
    split
    · rename_i hc
      rw [List.pairwise_cons]
      refine ⟨fun x hx => ?_, insW_sort h.2 (fun hm => hn (List.mem_cons_of_mem _ hm))⟩
      rcases mem_insW.1 hx with e | hx
      · rw [e]; exact hc
      · exact h.1 x hx
    · rename_i hc
      have hty : t.A y := by
        rcases Sm.A_total (x := t) (y := y) (fun e => hn (by rw [e]; exact List.mem_cons_self)) with h1 | h1
        · exact h1
        · exact absurd h1 hc
      rw [List.pairwise_cons]
      refine ⟨fun x hx => ?_, hh⟩
      rcases List.mem_cons.1 hx with e | hx
      · rw [e]; exact hty
      · exact Sm.A_trans hty (h.1 x hx)
def waysIn (l : List Sm) : List Sm → List Sm
  | [] => []
  | t :: r => if LeastW l t ∧ t ∉ waysIn l r then insW t (waysIn l r) else waysIn l r
def waysS (l : List Sm) : List Sm := waysIn l l
theorem mem_waysIn (l : List Sm) : ∀ {m : List Sm}, x ∈ waysIn l m ↔ x ∈ m ∧ LeastW l x
  | [] => by simp [waysIn]
  | t :: r => by
    unfold waysIn
    split
    · rename_i h
      rw [mem_insW, mem_waysIn l, List.mem_cons]
      constructor
      · rintro (e | ⟨h1, h2⟩)
        · subst e; exact ⟨.inl rfl, h.1⟩
        · exact ⟨.inr h1, h2⟩
      · rintro ⟨e | h1, h2⟩
        · exact .inl e
        · exact .inr ⟨h1, h2⟩
    · rename_i h
      rw [mem_waysIn l, List.mem_cons]
      constructor
      · rintro ⟨h1, h2⟩; exact ⟨.inr h1, h2⟩
      · rintro ⟨e | h1, h2⟩
        · subst e
          have : x ∈ waysIn l r := Classical.byContradiction fun hn => h ⟨h2, hn⟩
          rw [mem_waysIn l] at this; exact this
        · exact ⟨h1, h2⟩
theorem waysIn_sort (l : List Sm) : ∀ m : List Sm, (waysIn l m).Pairwise Sm.A
  | [] => List.Pairwise.nil
  | t :: r => by
    unfold waysIn
    split
    · rename_i h; exact insW_sort (waysIn_sort l r) h.2
    · exact waysIn_sort l r
theorem mem_waysS : x ∈ waysS l ↔ x ∈ l ∧ LeastW l x := mem_waysIn l
theorem waysS_eq (hs : f.Pairwise Sm.A) (hm : ∀ x, x ∈ f ↔ x ∈ l ∧ LeastW l x) : f = waysS l :=
  sums_ext hs (waysIn_sort l l) fun x => (hm x).trans mem_waysS.symm
theorem waysS_covers (hx : x ∈ l) (hr : x.R) : ∃ y ∈ waysS l, y.L x := by
  obtain ⟨y, hy, hyx, hmin⟩ := leastW_below l _ x (Nat.le_refl _) hx hr
  exact ⟨y, mem_waysS.2 ⟨hy, hmin⟩, hyx⟩
theorem waysS_apart (hx : x ∈ waysS l) (hy : y ∈ waysS l) (h : x.L y) : x = y := (mem_waysS.1 hy).2.2 x (mem_waysS.1 hx).1 h
theorem waysS_self : waysS (waysS l) = waysS l :=
  (waysS_eq (waysIn_sort l l) fun x => ⟨fun h => ⟨h, (mem_waysS.1 h).2.1, fun z hz hl => waysS_apart hz h hl⟩, fun h => h.1⟩).symm
/-! the row is as the document makes it: each in turn takes its place, unless another one is ahead, or it stood before -/
end
end

section
set_option maxRecDepth 100000
def Up (l : List St) (t : St) : Prop := ∃ x ∈ l, x.L t
structure Fr (f : List St) : Prop where
  right : ∀ x ∈ f, x.R
  depth : ∀ x ∈ f, ∀ y ∈ f, x.d = y.d
  sort : f.Pairwise fun x y => x.C y < 0
  anti : ∀ x ∈ f, ∀ y ∈ f, x.L y → x = y
section
variable {a b c f g l m : List St} {s t x y z : St}
theorem St.C_irrefl : ¬ x.C x < 0 := by
  have : x.C x = 0 := St.C_zero.2 rfl
  omega
theorem St.C_lt_trans (h : x.C y < 0) (k : y.C z < 0) : x.C z < 0 := by
  rw [St.C_neg] at *
  omega
theorem St.C_total (h : x ≠ y) : x.C y < 0 ∨ y.C x < 0 := by
  have h1 : x.C y ≠ 0 := fun e => h (St.C_zero.1 e)
  have h2 := St.C_swap (a := x) (b := y)
  omega
theorem sorted_ext : ∀ {f g : List St}, f.Pairwise (fun x y => x.C y < 0) → g.Pairwise (fun x y => x.C y < 0) → (∀ t, t ∈ f ↔ t ∈ g) → f = g
  | [], [], _, _, _ => rfl
  | [], y :: g, _, _, h => absurd ((h y).2 List.mem_cons_self) (by simp)
  | x :: f, [], _, _, h => absurd ((h x).1 List.mem_cons_self) (by simp)
  | x :: f, y :: g, hf, hg, h => by
    rw [List.pairwise_cons] at hf hg
    have hxy : x = y := by
      have h1 := (h x).1 List.mem_cons_self
      have h2 := (h y).2 List.mem_cons_self
      rcases List.mem_cons.1 h1 with e | h1
      · exact e
      · rcases List.mem_cons.1 h2 with e | h2
        · exact e.symm
        · exact absurd (St.C_lt_trans (hf.1 y h2) (hg.1 x h1)) St.C_irrefl
    subst hxy
    congr 1
    refine sorted_ext hf.2 hg.2 fun t => ⟨fun ht => ?_, fun ht => ?_⟩
    · rcases List.mem_cons.1 ((h t).1 (List.mem_cons_of_mem _ ht)) with e | h1
      · exact absurd (e ▸ hf.1 t ht) St.C_irrefl
      · exact h1
    · rcases List.mem_cons.1 ((h t).2 (List.mem_cons_of_mem _ ht)) with e | h1
      · exact absurd (e ▸ hg.1 t ht) St.C_irrefl
      · exact h1
theorem Up.self (hx : x ∈ l) (hr : x.R) : Up l x := ⟨x, hx, St.L_refl.2 hr⟩
theorem Fr.sub (hf : Fr f) (hg : Fr g) (h : ∀ t, Up f t ↔ Up g t) : ∀ t, t ∈ f → t ∈ g := by
  intro x hx
  obtain ⟨y, hy, hyx⟩ := (h x).1 (Up.self hx (hf.right x hx))
  obtain ⟨z, hz, hzy⟩ := (h y).2 (Up.self hy (hg.right y hy))
  have e := hf.anti z hz x hx (St.L_trans hzy hyx)
  subst e
  rw [St.L_antisymm hzy hyx]; exact hy
theorem Fr.ext (hf : Fr f) (hg : Fr g) (h : ∀ t, Up f t ↔ Up g t) : f = g :=
  sorted_ext hf.sort hg.sort fun t => ⟨hf.sub hg h t, hg.sub hf (fun t => (h t).symm) t⟩
/-! the frontier of any times of one depth -/
def Even (l : List St) : Prop := ∀ x ∈ l, x.R ∧ ∀ y ∈ l, x.d = y.d
def St.sum (t : St) : Nat := (t.e + t.x + t.y + t.z).toNat
theorem St.sum_lt (h : x.L y) (hne : x ≠ y) : x.sum < y.sum := by
  unfold St.L St.R at h
  unfold St.sum
  have : ¬ (x.e = y.e ∧ x.x = y.x ∧ x.y = y.y ∧ x.z = y.z) := fun ⟨h1, h2, h3, h4⟩ => hne (St.ext' h.2.2.1 h1 h2 h3 h4)
  omega
theorem least_below (l : List St) : ∀ (n : Nat) (x : St), x.sum ≤ n → x ∈ l → x.R → ∃ y ∈ l, y.L x ∧ ∀ z ∈ l, z.L y → z = y := by
  intro n
  induction n with
  | zero =>
    intro x hn hx hr
    refine ⟨x, hx, St.L_refl.2 hr, fun z hz hl => ?_⟩
    by_cases e : z = x
    · exact e
    · have := St.sum_lt hl e; omega
  | succ n ih =>
    intro x hn hx hr
    by_cases h : ∀ z ∈ l, z.L x → z = x
    · exact ⟨x, hx, St.L_refl.2 hr, h⟩
    · have ⟨z, hz⟩ : ∃ z, z ∈ l ∧ z.L x ∧ z ≠ x := by
        apply Classical.byContradiction
        intro hn
        apply h
        intro z hz hl
        apply Classical.byContradiction
        intro hne
        exact hn ⟨z, hz, hl, hne⟩
      obtain ⟨hz, hl, hne⟩ := hz
      obtain ⟨y, hy, hyz, hmin⟩ := ih z (by have := St.sum_lt hl hne; omega) hz hl.1
      exact ⟨y, hy, St.L_trans hyz hl, hmin⟩
def insS (t : St) : List St → List St
  | [] => [t]
  | y :: r => if y.C t < 0 then y :: insS t r else t :: y :: r
theorem mem_insS {t x : St} : ∀ {l : List St}, x ∈ insS t l ↔ x = t ∨ x ∈ l
  | [] => by simp [insS]
  | y :: r => by
    unfold insS
    split
    · rw [List.mem_cons, mem_insS, List.mem_cons]
      constructor
      · rintro (h | h | h)
        · exact .inr (.inl h)
        · exact .inl h
        · exact .inr (.inr h)
      · rintro (h | h | h)
        · exact .inr (.inl h)
        · exact .inl h
        · exact .inr (.inr h)
    · simp
theorem insS_sort {t : St} : ∀ {l : List St}, l.Pairwise (fun x y => x.C y < 0) → t ∉ l → (insS t l).Pairwise (fun x y => x.C y < 0)
  | [], _, _ => by simp [insS]
  | y :: r, h, hn => by
    have hh := h
    rw [List.pairwise_cons] at h
    unfold insS
    split
    · rename_i hc
      rw [List.pairwise_cons]
      refine ⟨fun x hx => ?_, insS_sort h.2 (fun hm => hn (List.mem_cons_of_mem _ hm))⟩
      rcases mem_insS.1 hx with e | hx
      · rw [e]; exact hc
      · exact h.1 x hx
    · rename_i hc
      have hty : t.C y < 0 := by
        rcases St.C_total (x := t) (y := y) (fun e => hn (by rw [e]; exact List.mem_cons_self)) with h1 | h1
        · exact h1
        · exact absurd h1 hc
      rw [List.pairwise_cons]
      refine ⟨fun x hx => ?_, hh⟩
      rcases List.mem_cons.1 hx with e | hx
      · rw [e]; exact hty
      · exact St.C_lt_trans hty (h.1 x hx)
def Least (l : List St) (t : St) : Prop := ∀ z ∈ l, z.L t → z = t
instance (l : List St) (t : St) : Decidable (Least l t) := inferInstanceAs (Decidable (∀ z ∈ l, _))
def ofIn (l : List St) : List St → List St
  | [] => []
  | t :: r => if Least l t ∧ t ∉ ofIn l r then insS t (ofIn l r) else ofIn l r
def ofS (l : List St) : List St := ofIn l l
theorem mem_ofIn (l : List St) : ∀ {m : List St}, x ∈ ofIn l m ↔ x ∈ m ∧ Least l x
  | [] => by simp [ofIn]
  | t :: r => by
    unfold ofIn
    split
    · rename_i h
      rw [mem_insS, mem_ofIn l, List.mem_cons]
      constructor
      · rintro (e | ⟨h1, h2⟩)
        · subst e; exact ⟨.inl rfl, h.1⟩
        · exact ⟨.inr h1, h2⟩
      · rintro ⟨e | h1, h2⟩
        · exact .inl e
        · exact .inr ⟨h1, h2⟩
    · rename_i h
      rw [mem_ofIn l, List.mem_cons]
      constructor
      · rintro ⟨h1, h2⟩; exact ⟨.inr h1, h2⟩
      · rintro ⟨e | h1, h2⟩
        · subst e
          have : x ∈ ofIn l r := Classical.byContradiction fun hn => h ⟨h2, hn⟩
          rw [mem_ofIn l] at this; exact this
        · exact ⟨h1, h2⟩
theorem ofIn_sort (l : List St) : ∀ m : List St, (ofIn l m).Pairwise (fun x y => x.C y < 0)
  | [] => List.Pairwise.nil
  | t :: r => by
    unfold ofIn
    split
    · rename_i h; exact insS_sort (ofIn_sort l r) h.2
    · exact ofIn_sort l r
theorem mem_ofS : x ∈ ofS l ↔ x ∈ l ∧ Least l x := mem_ofIn l
theorem ofS_fr (h : Even l) : Fr (ofS l) :=
  ⟨fun x hx => (h x (mem_ofS.1 hx).1).1, fun x hx y hy => (h x (mem_ofS.1 hx).1).2 y (mem_ofS.1 hy).1, ofIn_sort l l, fun x hx y hy hl => (mem_ofS.1 hy).2 x (mem_ofS.1 hx).1 hl⟩
theorem ofS_up (h : Even l) : Up (ofS l) t ↔ Up l t := by
  constructor
  · rintro ⟨x, hx, hl⟩; exact ⟨x, (mem_ofS.1 hx).1, hl⟩
  · rintro ⟨x, hx, hl⟩
    obtain ⟨y, hy, hyx, hmin⟩ := least_below l _ x (Nat.le_refl _) hx (h x hx).1
    exact ⟨y, mem_ofS.2 ⟨hy, hmin⟩, St.L_trans hyx hl⟩
/-! one within the other, both, either -/
def Alike (a b : List St) : Prop := Fr a ∧ Fr b ∧ ∀ x ∈ a, ∀ y ∈ b, x.d = y.d
def In (a b : List St) : Prop := ∀ x ∈ b, Up a x
end
end

section
def Nd.sm (n : Nd) : Sm := if n.k = 7 then ⟨n.d - 1, n.d, n.d - 1, 0, 0, 0, 0⟩ else if n.k = 8 then ⟨n.d + 1, n.d, n.d, 0, 0, 0, 0⟩ else if n.k = 9 then ⟨n.d, n.d, n.d, 1, 0, 0, 0⟩ else ⟨n.d, n.d, n.d, 0, 0, 0, 0⟩
def Nd.smOk (n : Nd) : Prop := 1 ≤ n.k ∧ n.k ≤ 10 ∧ n.sm.R
instance (n : Nd) : Decidable n.smOk := inferInstanceAs (Decidable (_ ∧ _))
def idS (d : Int) : Sm := ⟨d, d, d, 0, 0, 0, 0⟩
theorem idS_R {d : Int} (h0 : 0 ≤ d) (h3 : d ≤ 3) : (idS d).R := by
  simp only [idS, Sm.R]
  refine ⟨⟨h0, h3⟩, ⟨h0, h3⟩, ⟨h0, ?_, ?_⟩, ⟨?_, ?_, ?_⟩, ⟨?_, ?_, ?_⟩, ⟨?_, ?_, ?_⟩, ⟨?_, ?_, ?_⟩⟩ <;> first | omega | (intro _; first | trivial | omega)
theorem sm_to (n : Nd) : n.sm.to = n.d := by
  unfold Nd.sm
  by_cases h7 : n.k = 7
  · rw [if_pos h7]
  by_cases h8 : n.k = 8
  · rw [if_neg h7, if_pos h8]
  by_cases h9 : n.k = 9
  · rw [if_neg h7, if_neg h8, if_pos h9]
  · rw [if_neg h7, if_neg h8, if_neg h9]
def Fd (g : List Nd) (i n : Nat) : Prop := ∃ x, g[n]? = some x ∧ ((i : Nat) : Int) ∈ x.ins
theorem Fd.lt {g : List Nd} {i n : Nat} (h : Fd g i n) : n < g.length := by
  obtain ⟨x, hx, _⟩ := h
  exact (List.getElem?_eq_some_iff.1 hx).1
inductive Arr (g : List Nd) (i : Nat) : Nat → Sm → Prop
  | first {n : Nat} {x : Nd} (hx : g[i]? = some x) (hf : Fd g i n) : Arr g i n (idS x.d)
  | on {n m : Nat} {s : Sm} {x : Nd} (h : Arr g i n s) (hx : g[n]? = some x) (ho : x.smOk) (ht : s.thenOk x.sm) (hf : Fd g n m) : Arr g i m (s.seq x.sm)
def Fine (g : List Nd) : Prop := ∀ (n : Nat) (x : Nd), g[n]? = some x → x.num = true ∧ x.Ports g ∧ x.Deep g
theorem fine_of {g : List Nd} (h : ∀ j : Nat, j < g.length → nodeE g j = 0) : Fine g := fun n x hx => by
  have h1 := h n (List.getElem?_eq_some_iff.1 hx).1
  rw [nodeE_at hx] at h1
  exact err_zero h1
section
variable {g : List Nd} {i n m : Nat} {s t : Sm} {x y : Nd}
theorem Fine.deep (hg : Fine g) (hx : g[n]? = some x) : 0 ≤ x.d ∧ x.d ≤ 3 := by
  have h := (hg n x hx).2.2.1
  unfold Nd.deepB at h
  have := of_decide_eq_true h
  exact ⟨this.1, this.2.1⟩
theorem Fine.fed (hg : Fine g) (hx : g[n]? = some x) (hf : Fd g n m) (hy : g[m]? = some y) : y.d - y.more = x.d := by
  obtain ⟨y', hy', hm⟩ := hf
  rw [hy] at hy'
  cases hy'
  refine (hg m y hy).2.2.2 _ hm x ?_
  rw [show ((n : Nat) : Int).toNat = n by omega]
  exact hx
theorem Arr.ends (hg : Fine g) (h : Arr g i n s) : s.R ∧ (∃ x, g[i]? = some x ∧ s.fr = x.d) ∧ ∃ j y, g[j]? = some y ∧ Fd g j n ∧ s.to = y.d := by
  induction h with
  | first hx hf =>
    have hd := hg.deep hx
    exact ⟨idS_R hd.1 hd.2, ⟨_, hx, rfl⟩, _, _, hx, hf, rfl⟩
  | on h hx ho ht hf ih => exact ⟨Sm.seq_R ht, ih.2.1, _, _, hx, hf, sm_to _⟩
theorem Arr.lt (h : Arr g i n s) : n < g.length := by
  cases h with
  | first hx hf => exact hf.lt
  | on h hx ho ht hf => exact hf.lt
theorem Arr.to_eq (hg : Fine g) (h : Arr g i n s) (hx : g[n]? = some x) : s.to = x.d - x.more := by
  obtain ⟨_, _, j, y, hy, hf, e⟩ := h.ends hg
  rw [e, hg.fed hy hf hx]
structure Cov (g : List Nd) (i : Nat) (P : Nat → Sm → Prop) : Prop where
  sound : ∀ n s, P n s → Arr g i n s
  first : ∀ n x, g[i]? = some x → Fd g i n → ∃ s, P n s ∧ s.L (idS x.d)
  on : ∀ n m s x, P n s → g[n]? = some x → x.smOk → s.thenOk x.sm → Fd g n m → ∃ t, P m t ∧ t.L (s.seq x.sm)
theorem Cov.covers {P : Nat → Sm → Prop} (hP : Cov g i P) (h : Arr g i n s) : ∃ t, P n t ∧ t.L s := by
  induction h with
  | first hx hf => exact hP.first _ _ hx hf
  | on h hx ho ht hf ih =>
    obtain ⟨t, hp, hl⟩ := ih
    obtain ⟨h1, h2⟩ := Sm.seq_left hl ht
    obtain ⟨u, hu, hl2⟩ := hP.on _ _ _ _ hp hx ho h1 hf
    exact ⟨u, hu, Sm.L_trans hl2 h2⟩
theorem waysS_cover {p l : List Sm} (h1 : ∀ x ∈ p, x ∈ l) (h2 : ∀ x ∈ l, x.R → ∃ y ∈ p, y.L x) : waysS p = waysS l := by
  refine waysS_eq (waysIn_sort p p) fun x => ?_
  rw [mem_waysS]
  constructor
  · rintro ⟨hx, hr, hm⟩
    refine ⟨h1 x hx, hr, fun z hz hl => ?_⟩
    obtain ⟨y, hy, hyz⟩ := h2 z hz hl.1
    have e := hm y hy (Sm.L_trans hyz hl)
    subst e
    exact Sm.L_antisymm hl hyz
  · rintro ⟨hx, hr, hm⟩
    obtain ⟨y, hy, hyx⟩ := h2 x hx hr
    have e := hm y (h1 y hy) hyx
    subst e
    exact ⟨hy, hr, fun z hz hl => hm z (h1 z hz) hl⟩
end
/-! all ways as a row that grows: the document's own -/
theorem toG_fd {g : List Nd} {i n : Nat} : (∃ p ∈ toG ((i : Nat) : Int) 0 g, p.1 = n) ↔ Fd g i n := by
  constructor
  · rintro ⟨⟨m, q⟩, hp, rfl⟩
    obtain ⟨_, x, hx, hq⟩ := mem_toG.1 hp
    exact ⟨x, by simpa using hx, List.mem_of_getElem? hq⟩
  · rintro ⟨x, hx, hm⟩
    obtain ⟨q, hq⟩ := List.getElem?_of_mem hm
    exact ⟨(n, q), mem_toG.2 ⟨Nat.zero_le _, x, by simpa using hx, hq⟩, rfl⟩
structure AllW (g : List Nd) (i : Nat) (l : List (Nat × Sm)) (k : Nat) : Prop where
  nodup : l.Nodup
  sound : ∀ n s, (n, s) ∈ l → Arr g i n s
  first : ∀ n x, g[i]? = some x → Fd g i n → (n, idS x.d) ∈ l
  done : ∀ j n s, j < k → l[j]? = some (n, s) → ∀ x m, g[n]? = some x → x.smOk → s.thenOk x.sm → Fd g n m → (m, s.seq x.sm) ∈ l
  le : k ≤ l.length
section
variable {g : List Nd} {i k n : Nat} {l : List (Nat × Sm)} {s : Sm} {x : Nd}
theorem AllW.all (h : AllW g i l l.length) : (n, s) ∈ l ↔ Arr g i n s := by
  refine ⟨h.sound n s, fun ha => ?_⟩
  induction ha with
  | first hx hf => exact h.first _ _ hx hf
  | on ha hx ho ht hf ih =>
    obtain ⟨j, hj⟩ := List.getElem?_of_mem ih
    exact h.done j _ _ (List.getElem?_eq_some_iff.1 hj).1 hj _ _ hx ho ht hf
end
/-! it comes to an end -/
theorem pigeon : ∀ (N : Nat) (l : List Nat), l.Nodup → (∀ x ∈ l, x < N) → l.length ≤ N
  | 0, l, _, h => by
    cases l with
    | nil => exact Nat.le_refl _
    | cons x l => exact absurd (h x List.mem_cons_self) (Nat.not_lt_zero _)
  | N + 1, l, hn, h => by
    have h1 := pigeon N (l.erase N) (hn.erase N) fun x hx => by
      have h2 := h x (List.mem_of_mem_erase hx)
      have h3 : x ≠ N := fun e => by subst e; exact hn.not_mem_erase hx
      omega
    have h4 := List.length_erase (a := N) (l := l)
    split at h4 <;> omega
def Sm.code (s : Sm) : Nat := (s.fr + 4 * (s.to + 4 * (s.kp + 4 * (s.ad + 16 * (s.t0 + 16 * (s.t1 + 16 * s.t2)))))).toNat
theorem Sm.code_lt {s : Sm} (h : s.R) : s.code < 4194304 := by unfold Sm.R at h; unfold Sm.code; omega
theorem Sm.code_inj {s t : Sm} (h : s.R) (k : t.R) (e : s.code = t.code) : s = t := by
  unfold Sm.R at h k; unfold Sm.code at e
  refine Sm.ext' ?_ ?_ ?_ ?_ ?_ ?_ ?_ <;> omega
theorem nodup_map {α : Type} (f : α → Nat) : ∀ (l : List α), l.Nodup → (∀ x ∈ l, ∀ y ∈ l, f x = f y → x = y) → (l.map f).Nodup
  | [], _, _ => List.nodup_nil
  | x :: l, h, hf => by
    rw [List.map_cons, List.nodup_cons]
    have h1 := List.nodup_cons.1 h
    refine ⟨fun hm => ?_, nodup_map f l h1.2 fun a ha b hb => hf a (List.mem_cons_of_mem _ ha) b (List.mem_cons_of_mem _ hb)⟩
    obtain ⟨y, hy, e⟩ := List.mem_map.1 hm
    have := hf y (List.mem_cons_of_mem _ hy) x List.mem_cons_self e
    subst this
    exact h1.1 hy
theorem AllW.bound {g : List Nd} {i k : Nat} {l : List (Nat × Sm)} (hg : Fine g) (h : AllW g i l k) : l.length ≤ g.length * 4194304 := by
  have hr : ∀ a ∈ l, a.1 < g.length ∧ a.2.R := fun a ha => ⟨(h.sound a.1 a.2 ha).lt, ((h.sound a.1 a.2 ha).ends hg).1⟩
  have h1 := pigeon (g.length * 4194304) (l.map fun a => a.1 * 4194304 + a.2.code) (nodup_map _ l h.nodup fun a ha b hb e => by
    have ha2 := hr a ha
    have hb2 := hr b hb
    have h3 := Sm.code_lt ha2.2
    have h4 := Sm.code_lt hb2.2
    have e1 : a.1 = b.1 := by omega
    have e2 : a.2.code = b.2.code := by omega
    exact Prod.ext e1 (Sm.code_inj ha2.2 hb2.2 e2)) fun x hx => by
    obtain ⟨a, ha, rfl⟩ := List.mem_map.1 hx
    have ha2 := hr a ha
    have h3 := Sm.code_lt ha2.2
    have : a.1 * 4194304 + 4194304 ≤ g.length * 4194304 := by have := ha2.1; omega
    omega
  rwa [List.length_map] at h1
/-! with a node more that feeds none -/
section
variable {g : List Nd} {i n f : Nat} {s : Sm} {z : Nd}
theorem Fd.from_lt (hg : Fine g) (h : Fd g i n) : i < g.length := by
  obtain ⟨x, hx, hm⟩ := h
  obtain ⟨h0, m, hm2, _⟩ := (hg n x hx).2.1.1 _ hm
  rw [show ((i : Nat) : Int).toNat = i by omega] at hm2
  exact (List.getElem?_eq_some_iff.1 hm2).1
end
end

section
def atA (n : Nat) : List (Nat × Sm) → List Sm
  | [] => []
  | a :: l => if a.1 = n then a.2 :: atA n l else atA n l
theorem mem_atA {n : Nat} {s : Sm} : ∀ {l : List (Nat × Sm)}, s ∈ atA n l ↔ (n, s) ∈ l
  | [] => by simp [atA]
  | (m, t) :: l => by
    unfold atA
    by_cases h : m = n
    · subst h
      rw [if_pos rfl, List.mem_cons, List.mem_cons, mem_atA]
      simp
    · rw [if_neg h, mem_atA, List.mem_cons]
      constructor
      · exact .inr
      · rintro (e | h2)
        · injection e with e1 e2; exact absurd e1.symm h
        · exact h2
def appS (t : St) : List Sm → List St
  | [] => []
  | s :: l => match s.apply t with | some u => u :: appS t l | none => appS t l
theorem mem_appS {t u : St} : ∀ {l : List Sm}, u ∈ appS t l ↔ ∃ s ∈ l, s.apply t = some u
  | [] => by simp [appS]
  | s :: l => by
    unfold appS
    cases h : s.apply t with
    | none =>
      simp only
      rw [mem_appS]
      constructor
      · rintro ⟨x, hx, e⟩; exact ⟨x, List.mem_cons_of_mem _ hx, e⟩
      · rintro ⟨x, hx, e⟩
        rcases List.mem_cons.1 hx with rfl | hx
        · rw [h] at e; cases e
        · exact ⟨x, hx, e⟩
    | some v =>
      simp only [List.mem_cons]
      rw [mem_appS]
      constructor
      · rintro (rfl | ⟨x, hx, e⟩)
        · exact ⟨s, .inl rfl, h⟩
        · exact ⟨x, .inr hx, e⟩
      · rintro ⟨x, rfl | hx, e⟩
        · rw [h] at e; cases e; exact .inl rfl
        · exact .inr ⟨x, hx, e⟩
theorem appS_append {t : St} : ∀ {l m : List Sm}, appS t (l ++ m) = appS t l ++ appS t m
  | [], m => rfl
  | s :: l, m => by
    rw [List.cons_append]
    show (match s.apply t with | some u => u :: appS t (l ++ m) | none => appS t (l ++ m)) = (match s.apply t with | some u => u :: appS t l | none => appS t l) ++ appS t m
    rw [appS_append]
    cases s.apply t <;> rfl
def OneTo (l : List Sm) : Prop := ∀ x ∈ l, ∀ y ∈ l, x.to = y.to
theorem appS_even {t : St} {l : List Sm} (h : OneTo l) : Even (appS t l) := fun u hu => by
  obtain ⟨s, hs, e⟩ := mem_appS.1 hu
  have h1 := Sm.apply_R e
  refine ⟨h1.1, fun v hv => ?_⟩
  obtain ⟨s', hs', e'⟩ := mem_appS.1 hv
  have h2 := Sm.apply_R e'
  rw [h1.2.1, h2.2.1]
  exact h s hs s' hs'
section
variable {g : List Nd} {i n f : Nat} {l l' : List (Nat × Sm)} {x z : Nd}
def AllOf (g : List Nd) (i : Nat) (l : List (Nat × Sm)) : Prop := ∀ n s, (n, s) ∈ l ↔ Arr g i n s
theorem AllOf.at_ (h : AllOf g i l) {s : Sm} : s ∈ atA n l ↔ Arr g i n s := mem_atA.trans (h n s)
theorem AllOf.ends (hg : Fine g) (h : AllOf g i l) (hx : g[i]? = some x) (hz : g[n]? = some z) {s : Sm} (hs : s ∈ waysS (atA n l)) :
    s.R ∧ s.fr = x.d ∧ ∃ j y, z.ins[0]? = some ((j : Nat) : Int) ∧ g[j]? = some y ∧ s.to = y.d := by
  have ha := h.at_.1 (mem_waysS.1 hs).1
  obtain ⟨hr, ⟨x', hx', e1⟩, j, y, hy, hf, e2⟩ := ha.ends hg
  rw [hx] at hx'
  cases hx'
  obtain ⟨z', hz', hm⟩ := hf
  rw [hz] at hz'
  cases hz'
  refine ⟨hr, e1, ?_⟩
  obtain ⟨c, hc⟩ : ∃ c, z.ins[0]? = some c := by
    cases h0 : z.ins with
    | nil => rw [h0] at hm; cases hm
    | cons c r => exact ⟨c, rfl⟩
  obtain ⟨h0, m, hm2, _⟩ := (hg n z hz).2.1.1 c (List.mem_of_getElem? hc)
  refine ⟨c.toNat, m, by rw [hc]; congr 1; omega, hm2, ?_⟩
  rw [ha.to_eq hg hz]
  exact (hg n z hz).2.2.2 c (List.mem_of_getElem? hc) m hm2
theorem AllOf.cover {P : Nat → Sm → Prop} (h : AllOf g i l) (hP : Cov g i P) {p : List Sm} (hp : ∀ s, s ∈ p ↔ P n s) : waysS p = waysS (atA n l) :=
  waysS_cover (fun s hs => h.at_.2 (hP.sound n s ((hp s).1 hs))) fun s hs hr => by
    obtain ⟨t, ht, hl⟩ := hP.covers (h.at_.1 hs)
    exact ⟨t, (hp t).2 ht, hl⟩
theorem Fine.smOk (hg : Fine g) (hx : g[n]? = some x) (h7 : x.k = 7 → 1 ≤ x.d) (h8 : x.k = 8 → x.d ≤ 2) : x.smOk := by
  have hd := hg.deep hx
  obtain ⟨h1, h2, h3⟩ := hg n x hx
  have hk : 1 ≤ x.k ∧ x.k ≤ 10 := by
    unfold Nd.num at h1
    split at h1
    · omega
    split at h1
    · omega
    split at h1
    · omega
    split at h1
    · omega
    have := of_decide_eq_true h1
    exact ⟨this.1, this.2.1⟩
  have h9 : x.k = 9 → 1 ≤ x.d := by
    have := h3.1
    unfold Nd.deepB at this
    exact (of_decide_eq_true this).2.2.2
  refine ⟨hk.1, hk.2, ?_⟩
  unfold Nd.sm
  split
  · have := h7 (by assumption)
    unfold Sm.R; refine ⟨⟨?_, ?_⟩, ⟨?_, ?_⟩, ⟨?_, ?_, ?_⟩, ⟨?_, ?_, ?_⟩, ⟨?_, ?_, ?_⟩, ⟨?_, ?_, ?_⟩, ⟨?_, ?_, ?_⟩⟩ <;> first | (dsimp only; omega) | (intro _; first | trivial | (dsimp only; omega))
  split
  · have := h8 (by assumption)
    unfold Sm.R; refine ⟨⟨?_, ?_⟩, ⟨?_, ?_⟩, ⟨?_, ?_, ?_⟩, ⟨?_, ?_, ?_⟩, ⟨?_, ?_, ?_⟩, ⟨?_, ?_, ?_⟩, ⟨?_, ?_, ?_⟩⟩ <;> first | (dsimp only; omega) | (intro _; first | trivial | (dsimp only; omega))
  split
  · have := h9 (by assumption)
    unfold Sm.R; refine ⟨⟨?_, ?_⟩, ⟨?_, ?_⟩, ⟨?_, ?_, ?_⟩, ⟨?_, ?_, ?_⟩, ⟨?_, ?_, ?_⟩, ⟨?_, ?_, ?_⟩, ⟨?_, ?_, ?_⟩⟩ <;> first | (dsimp only; omega) | (intro h0; first | trivial | (dsimp only at h0 ⊢; omega))
  · exact idS_R hd.1 hd.2
end
end

section
def Outp (g : List Nd) (i j : Nat) (u : Sm) : Prop := (j = i ∧ ∃ x, g[i]? = some x ∧ u = idS x.d) ∨ ∃ t x, Arr g i j t ∧ g[j]? = some x ∧ x.smOk ∧ t.thenOk x.sm ∧ u = t.seq x.sm
theorem Outp.fed {g : List Nd} {i j m : Nat} {u : Sm} (h : Outp g i j u) (hf : Fd g j m) : Arr g i m u := by
  rcases h with ⟨rfl, x, hx, rfl⟩ | ⟨t, x, ha, hx, ho, ht, rfl⟩
  · exact .first hx hf
  · exact .on ha hx ho ht hf
theorem Fine.fedOk {g : List Nd} {j m : Nat} {x : Nd} (hg : Fine g) (hf : Fd g j m) (hx : g[m]? = some x) : x.smOk := by
  obtain ⟨y, hy⟩ : ∃ y, g[j]? = some y := ⟨_, List.getElem?_eq_getElem (hf.from_lt hg)⟩
  have h1 := hg.fed hy hf hx
  have h2 := hg.deep hy
  unfold Nd.more at h1
  refine hg.smOk hx (fun e => ?_) fun e => ?_
  · rw [if_pos e] at h1; omega
  · rw [if_neg (by omega), if_pos e] at h1; omega
theorem Arr.fd {g : List Nd} {i n : Nat} {s : Sm} (h : Arr g i n s) : ∃ j, Fd g j n := by
  cases h with
  | first hx hf => exact ⟨_, hf⟩
  | on h hx ho ht hf => exact ⟨_, hf⟩
theorem Arr.smOk {g : List Nd} {i n : Nat} {s : Sm} {x : Nd} (hg : Fine g) (h : Arr g i n s) (hx : g[n]? = some x) : x.smOk := by
  obtain ⟨j, hf⟩ := h.fd
  exact hg.fedOk hf hx
def CovAt (T : List (List Sm)) (n : Nat) (u : Sm) : Prop := ∃ l t, T[n]? = some l ∧ t ∈ l ∧ t.L u
def DoneAt (g : List Nd) (T : List (List Sm)) (j : Nat) (u : Sm) : Prop := ∀ m, Fd g j m → CovAt T m u
structure Run (g : List Nd) (i : Nat) (T : List (List Sm)) (D Q : List (Nat × Sm)) : Prop where
  len : T.length = g.length
  nodup : D.Nodup
  dsound : ∀ (n : Nat) (s : Sm), (n, s) ∈ D → Arr g i n s
  sub : ∀ (n : Nat) (l : List Sm) (s : Sm), T[n]? = some l → s ∈ l → (n, s) ∈ D
  cov : ∀ (n : Nat) (s : Sm), (n, s) ∈ D → CovAt T n s
  self : ∀ (n : Nat) (l : List Sm), T[n]? = some l → waysS l = l
  outs : ∀ (j : Nat) (u : Sm), (j, u) ∈ Q → Outp g i j u
  first : ∀ x, g[i]? = some x → (i, idS x.d) ∈ Q ∨ DoneAt g T i (idS x.d)
  on : ∀ (n : Nat) (s : Sm) (x : Nd), (n, s) ∈ D → g[n]? = some x → x.smOk → s.thenOk x.sm → (n, s.seq x.sm) ∈ Q ∨ DoneAt g T n (s.seq x.sm)
section
variable {g : List Nd} {i j m n q : Nat} {T : List (List Sm)} {D Q : List (Nat × Sm)} {l : List Sm} {s u : Sm} {x : Nd}
theorem Run.start (hx : g[i]? = some x) : Run g i (List.replicate g.length []) [] [(i, idS x.d)] where
  len := List.length_replicate
  nodup := List.nodup_nil
  dsound := fun n s h => by cases h
  sub := fun n l s h hs => by
    have := List.mem_of_getElem? h
    rw [List.mem_replicate] at this
    rw [this.2] at hs
    cases hs
  cov := fun n s h => by cases h
  self := fun n l h => by
    have := List.mem_of_getElem? h
    rw [List.mem_replicate] at this
    rw [this.2]
    rfl
  outs := fun j u h => by
    have := List.mem_singleton.1 h
    injection this with e1 e2
    subst e1; subst e2
    exact .inl ⟨rfl, x, hx, rfl⟩
  first := fun y hy => by
    rw [hx] at hy; cases hy
    exact .inl List.mem_cons_self
  on := fun n s y h => by cases h
theorem DoneAt.mono {T' : List (List Sm)} (hc : ∀ n u, CovAt T n u → CovAt T' n u) (h : DoneAt g T j u) : DoneAt g T' j u := fun m hf => hc m u (h m hf)
theorem CovAt.set (hg : Fine g) (h : Run g i T D Q) (hl : T[m]? = some l) {s : Sm} {n : Nat} {u : Sm} (hc : CovAt T n u) : CovAt (T.set m (waysS (l ++ [s]))) n u := by
  obtain ⟨l', t, hl', ht, hu⟩ := hc
  by_cases e : m = n
  · subst e
    rw [hl] at hl'
    cases hl'
    have hr := ((h.dsound m t (h.sub m l t hl ht)).ends hg).1
    obtain ⟨y, hy, hyt⟩ := waysS_covers (l := l ++ [s]) (List.mem_append_left _ ht) hr
    exact ⟨_, y, by rw [List.getElem?_set_self (List.getElem?_eq_some_iff.1 hl).1], hy, Sm.L_trans hyt hu⟩
  · exact ⟨l', t, by rw [List.getElem?_set_ne e]; exact hl', ht, hu⟩
theorem CovAt.put (hr : s.R) (hl : T[m]? = some l) : CovAt (T.set m (waysS (l ++ [s]))) m s := by
  obtain ⟨y, hy, hyt⟩ := waysS_covers (l := l ++ [s]) (List.mem_append_right _ List.mem_cons_self) hr
  exact ⟨_, y, by rw [List.getElem?_set_self (List.getElem?_eq_some_iff.1 hl).1], hy, hyt⟩
theorem Run.add (hg : Fine g) (h : Run g i T D Q) (ha : Arr g i m s) (hx : g[m]? = some x) (hl : T[m]? = some l) (hno : ∀ t ∈ l, ¬ t.L s) :
    Run g i (T.set m (waysS (l ++ [s]))) (D ++ [(m, s)]) (if s.thenOk x.sm then Q ++ [(m, s.seq x.sm)] else Q) := by
  have hr := (ha.ends hg).1
  have hQ : ∀ a ∈ Q, a ∈ (if s.thenOk x.sm then Q ++ [(m, s.seq x.sm)] else Q) := fun a ha => by
    split
    · exact List.mem_append_left _ ha
    · exact ha
  have hc : ∀ n u, CovAt T n u → CovAt (T.set m (waysS (l ++ [s]))) n u := fun n u => CovAt.set hg h hl
  have hml : m < T.length := (List.getElem?_eq_some_iff.1 hl).1
  constructor
  · rw [List.length_set]; exact h.len
  · rw [List.nodup_append]
    refine ⟨h.nodup, by simp, fun a ha b hb e => ?_⟩
    have := List.mem_singleton.1 hb
    subst this; subst e
    obtain ⟨l', t, hl', ht, hts⟩ := h.cov m s ha
    rw [hl] at hl'
    cases hl'
    exact hno t ht hts
  · intro n t ht
    rcases List.mem_append.1 ht with ht | ht
    · exact h.dsound n t ht
    · have := List.mem_singleton.1 ht
      injection this with e1 e2
      subst e1; subst e2
      exact ha
  · intro n l' t hl' ht
    by_cases e : m = n
    · subst e
      rw [List.getElem?_set_self hml] at hl'
      cases hl'
      rcases List.mem_append.1 (mem_waysS.1 ht).1 with h2 | h2
      · exact List.mem_append_left _ (h.sub m l t hl h2)
      · rw [List.mem_singleton.1 h2]; exact List.mem_append_right _ List.mem_cons_self
    · rw [List.getElem?_set_ne e] at hl'
      exact List.mem_append_left _ (h.sub n l' t hl' ht)
  · intro n t ht
    rcases List.mem_append.1 ht with ht | ht
    · exact hc n t (h.cov n t ht)
    · have := List.mem_singleton.1 ht
      injection this with e1 e2
      subst e1; subst e2
      exact CovAt.put hr hl
  · intro n l' hl'
    by_cases e : m = n
    · subst e
      rw [List.getElem?_set_self hml] at hl'
      cases hl'
      exact waysS_self
    · rw [List.getElem?_set_ne e] at hl'
      exact h.self n l' hl'
  · intro j' u' hm
    by_cases ht : s.thenOk x.sm
    · rw [if_pos ht] at hm
      rcases List.mem_append.1 hm with hm | hm
      · exact h.outs j' u' hm
      · have := List.mem_singleton.1 hm
        injection this with e1 e2
        subst e1; subst e2
        exact .inr ⟨s, x, ha, hx, ha.smOk hg hx, ht, rfl⟩
    · rw [if_neg ht] at hm
      exact h.outs j' u' hm
  · intro y hy
    rcases h.first y hy with h2 | h2
    · exact .inl (hQ _ h2)
    · exact .inr (h2.mono hc)
  · intro n t y ht hy ho hto
    rcases List.mem_append.1 ht with ht | ht
    · rcases h.on n t y ht hy ho hto with h2 | h2
      · exact .inl (hQ _ h2)
      · exact .inr (h2.mono hc)
    · have := List.mem_singleton.1 ht
      injection this with e1 e2
      subst e1; subst e2
      rw [hx] at hy
      cases hy
      rw [if_pos hto]
      exact .inl (List.mem_append_right _ List.mem_cons_self)
theorem Run.pop (h : Run g i T D ((j, u) :: Q)) (hd : DoneAt g T j u) : Run g i T D Q where
  len := h.len
  nodup := h.nodup
  dsound := h.dsound
  sub := h.sub
  cov := h.cov
  self := h.self
  outs := fun j' u' hm => h.outs j' u' (List.mem_cons_of_mem _ hm)
  first := fun y hy => by
    rcases h.first y hy with h2 | h2
    · rcases List.mem_cons.1 h2 with e | h2
      · injection e with e1 e2
        rw [e1, e2]; exact .inr hd
      · exact .inl h2
    · exact .inr h2
  on := fun n t y ht hy ho hto => by
    rcases h.on n t y ht hy ho hto with h2 | h2
    · rcases List.mem_cons.1 h2 with e | h2
      · injection e with e1 e2
        rw [e1, e2]; exact .inr hd
      · exact .inl h2
    · exact .inr h2
def UptoP (T : List (List Sm)) (ps : List (Nat × Nat)) (q : Nat) (u : Sm) : Prop := ∀ p m z, p < q → ps[p]? = some (m, z) → CovAt T m u
theorem UptoP.none {ps : List (Nat × Nat)} : UptoP T ps 0 u := fun p m z h => absurd h (Nat.not_lt_zero _)
theorem UptoP.step {ps : List (Nat × Nat)} {z : Nat} (h : UptoP T ps q u) (hq : ps[q]? = some (m, z)) (hc : CovAt T m u) : UptoP T ps (q + 1) u := fun p m' z' hp hm => by
  rcases Nat.lt_succ_iff_lt_or_eq.1 hp with hp | rfl
  · exact h p m' z' hp hm
  · rw [hq] at hm
    cases hm
    exact hc
theorem UptoP.mono {T' : List (List Sm)} {ps : List (Nat × Nat)} (h : UptoP T ps q u) (hc : ∀ n u, CovAt T n u → CovAt T' n u) : UptoP T' ps q u := fun p m z hp hm => hc m u (h p m z hp hm)
theorem UptoP.all {ps : List (Nat × Nat)} (hps : toG ((j : Nat) : Int) 0 g = ps) (h : UptoP T ps ps.length u) : DoneAt g T j u := fun m hf => by
  obtain ⟨⟨m', z⟩, hp, e⟩ := toG_fd.2 hf
  simp only at e
  subst e
  rw [hps] at hp
  obtain ⟨p, hp⟩ := List.getElem?_of_mem hp
  exact h p _ z (List.getElem?_eq_some_iff.1 hp).1 hp
theorem Run.coverP (h : Run g i T D []) : Cov g i (fun n s => ∃ l, T[n]? = some l ∧ s ∈ l) where
  sound := fun n s ⟨l, hl, hs⟩ => h.dsound n s (h.sub n l s hl hs)
  first := fun n x hx hf => by
    rcases h.first x hx with h2 | h2
    · cases h2
    · obtain ⟨l, t, hl, ht, hu⟩ := h2 n hf
      exact ⟨t, ⟨l, hl, ht⟩, hu⟩
  on := fun n m s x ⟨l, hl, hs⟩ hx ho ht hf => by
    rcases h.on n s x (h.sub n l s hl hs) hx ho ht with h2 | h2
    · cases h2
    · obtain ⟨l', t, hl', ht', hu⟩ := h2 m hf
      exact ⟨t, ⟨l', hl', ht'⟩, hu⟩
theorem Run.ends {L : List (Nat × Sm)} (h : Run g i T D []) (hL : AllOf g i L) (hl : T[n]? = some l) : l = waysS (atA n L) := by
  rw [← h.self n l hl]
  exact hL.cover h.coverP fun s => ⟨fun hs => ⟨l, hl, hs⟩, fun ⟨l', hl', hs⟩ => by rw [hl] at hl'; cases hl'; exact hs⟩
/-! how many there may be -/
theorem arr_bound (hg : Fine g) {D : List (Nat × Sm)} (hn : D.Nodup) (hs : ∀ (n : Nat) (s : Sm), (n, s) ∈ D → Arr g i n s) : D.length ≤ g.length * 4194304 := by
  have hr : ∀ a ∈ D, a.1 < g.length ∧ a.2.R := fun a ha => ⟨(hs a.1 a.2 ha).lt, ((hs a.1 a.2 ha).ends hg).1⟩
  have h1 := pigeon (g.length * 4194304) (D.map fun a => a.1 * 4194304 + a.2.code) (nodup_map _ D hn fun a ha b hb e => by
    have ha2 := hr a ha
    have hb2 := hr b hb
    have h3 := Sm.code_lt ha2.2
    have h4 := Sm.code_lt hb2.2
    have e1 : a.1 = b.1 := by omega
    have e2 : a.2.code = b.2.code := by omega
    exact Prod.ext e1 (Sm.code_inj ha2.2 hb2.2 e2)) fun x hx => by
    obtain ⟨a, ha, rfl⟩ := List.mem_map.1 hx
    have ha2 := hr a ha
    have h3 := Sm.code_lt ha2.2
    have : a.1 * 4194304 + 4194304 ≤ g.length * 4194304 := by have := ha2.1; omega
    omega
  rwa [List.length_map] at h1
theorem sums_bound {l : List Sm} (hn : l.Nodup) (hr : ∀ s ∈ l, s.R) : l.length ≤ 4194304 := by
  have h1 := pigeon 4194304 (l.map Sm.code) (nodup_map _ l hn fun a ha b hb e => Sm.code_inj (hr a ha) (hr b hb) e) fun x hx => by
    obtain ⟨a, ha, rfl⟩ := List.mem_map.1 hx
    exact Sm.code_lt (hr a ha)
  rwa [List.length_map] at h1
theorem waysS_bound (l : List Sm) : (waysS l).length ≤ 4194304 :=
  sums_bound ((waysIn_sort l l).imp fun h e => by subst e; exact Sm.A_irrefl h) fun s hs => (mem_waysS.1 hs).2.1
theorem Run.bound (hg : Fine g) (h : Run g i T D Q) : D.length ≤ g.length * 4194304 := arr_bound hg h.nodup h.dsound
theorem Run.row (h : Run g i T D Q) (hl : T[n]? = some l) : l.length ≤ 4194304 := by
  rw [← h.self n l hl]; exact waysS_bound l
end
theorem exists_least {R : Nat → Prop} (h : ∃ n, R n) : ∃ n, R n ∧ ∀ m, R m → n ≤ m := by
  obtain ⟨n, hn⟩ := h
  induction n using Nat.strongRecOn with
  | _ n ih =>
    by_cases e : ∃ m, m < n ∧ R m
    · obtain ⟨m, hm, hr⟩ := e
      exact ih m hm hr
    · exact ⟨n, hn, fun m hm => by
        rcases Nat.lt_or_ge m n with h2 | h2
        · exact absurd ⟨m, h2, hm⟩ e
        · exact h2⟩
open Classical in
noncomputable def leastN (R : Nat → Prop) : Nat := if h : ∃ n, R n then Classical.choose (exists_least h) else 0
theorem leastN_is {R : Nat → Prop} (h : ∃ n, R n) : R (leastN R) := by
  unfold leastN; rw [dif_pos h]; exact (Classical.choose_spec (exists_least h)).1
theorem leastN_le {R : Nat → Prop} {n : Nat} (h : R n) : leastN R ≤ n := by
  unfold leastN; rw [dif_pos ⟨n, h⟩]; exact (Classical.choose_spec (exists_least ⟨n, h⟩)).2 n h
end
end Go.Proofs.YtmhophmpbpbjaaaGreatDoor
