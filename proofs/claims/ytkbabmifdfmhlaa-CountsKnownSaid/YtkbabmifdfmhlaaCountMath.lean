/- Counts: rows of times that are not 0, rising: plain mathematics, of no code. -/
import Derived.Test.YtkbabmifdfmhlaaFrOrder
namespace Go.Proofs.Ytkbabmifdfmhlaa
set_option linter.unusedVariables false
set_option maxRecDepth 100000
abbrev Cn := List (St × Int)
def cnt (L : Cn) (t : St) : Int := match L.find? (fun p => decide (p.1 = t)) with | some p => p.2 | none => 0
def delC (L : Cn) (t : St) : Cn := L.filter fun p => !decide (p.1 = t)
def insC (p : St × Int) : Cn → Cn
  | [] => [p]
  | y :: r => if y.1.C p.1 < 0 then y :: insC p r else p :: y :: r
/-- an addition -/
def addC (L : Cn) (t : St) (n : Int) : Cn := if cnt L t + n = 0 then delC L t else insC (t, cnt L t + n) (delC L t)
structure CnOk (L : Cn) : Prop where
  sort : L.Pairwise fun p q => p.1.C q.1 < 0
  zero : ∀ p ∈ L, p.2 ≠ 0
section
variable {L K : Cn} {s t : St} {n m : Int} {p q : St × Int}
theorem cnt_nil : cnt [] t = 0 := rfl
theorem cnt_cons : cnt (p :: L) t = if p.1 = t then p.2 else cnt L t := by
  unfold cnt
  rw [List.find?_cons]
  by_cases h : p.1 = t
  · simp [h]
  · simp [h]
theorem mem_delC : p ∈ delC L t ↔ p ∈ L ∧ p.1 ≠ t := by simp [delC]
theorem mem_insC : ∀ {L : Cn}, q ∈ insC p L ↔ q = p ∨ q ∈ L
  | [] => by simp [insC]
  | y :: r => by
    unfold insC
    split
    · rw [List.mem_cons, mem_insC, List.mem_cons]
      constructor
      · rintro (h | h | h)
        · exact .inr (.inl h)
        · exact .inl h
        · exact .inr (.inr h)
      · rintro (h | h | h)
        · exact .inr (.inl h)
        · exact .inl h
        · exact .inr (.inr h)
    · simp
theorem cnt_of_not (h : ∀ p ∈ L, p.1 ≠ t) : cnt L t = 0 := by
  unfold cnt
  have : L.find? (fun p => decide (p.1 = t)) = none := by
    rw [List.find?_eq_none]; intro p hp; simpa using h p hp
  rw [this]
theorem cnt_mem (h : CnOk L) (hp : p ∈ L) : cnt L p.1 = p.2 := by
  induction L with
  | nil => cases hp
  | cons y r ih =>
    have hs := h.sort
    rw [List.pairwise_cons] at hs
    rw [cnt_cons]
    rcases List.mem_cons.1 hp with e | hp
    · rw [e, if_pos rfl]
    · have hne : y.1 ≠ p.1 := fun e => by
        have := hs.1 p hp
        rw [e] at this
        exact St.C_irrefl this
      rw [if_neg hne]
      exact ih ⟨hs.2, fun q hq => h.zero q (List.mem_cons_of_mem _ hq)⟩ hp
theorem cnt_ne (h : cnt L t ≠ 0) : (t, cnt L t) ∈ L := by
  unfold cnt at h ⊢
  cases hf : L.find? (fun p => decide (p.1 = t)) with
  | none => rw [hf] at h; exact absurd rfl h
  | some p =>
    have h1 := List.mem_of_find?_eq_some hf
    have h2 := List.find?_some hf
    simp at h2
    obtain ⟨p1, p2⟩ := p
    simp at h2
    subst h2
    exact h1
theorem mem_iff_cnt (h : CnOk L) : p ∈ L ↔ cnt L p.1 = p.2 ∧ p.2 ≠ 0 :=
  ⟨fun hp => ⟨cnt_mem h hp, h.zero p hp⟩, fun ⟨h1, h2⟩ => by
    have := cnt_ne (L := L) (t := p.1) (by rw [h1]; exact h2)
    rw [h1] at this; exact this⟩
theorem cn_sorted_ext : ∀ {L K : Cn}, L.Pairwise (fun p q => p.1.C q.1 < 0) → K.Pairwise (fun p q => p.1.C q.1 < 0) → (∀ p, p ∈ L ↔ p ∈ K) → L = K
  | [], [], _, _, _ => rfl
  | [], y :: g, _, _, h => absurd ((h y).2 List.mem_cons_self) (by simp)
  | x :: f, [], _, _, h => absurd ((h x).1 List.mem_cons_self) (by simp)
  | x :: f, y :: g, hf, hg, h => by
    rw [List.pairwise_cons] at hf hg
    have hxy : x = y := by
      have h1 := (h x).1 List.mem_cons_self
      have h2 := (h y).2 List.mem_cons_self
      rcases List.mem_cons.1 h1 with e | h1
      · exact e
      · rcases List.mem_cons.1 h2 with e | h2
        · exact e.symm
        · exact absurd (St.C_lt_trans (hf.1 y h2) (hg.1 x h1)) St.C_irrefl
    subst hxy
    congr 1
    refine cn_sorted_ext hf.2 hg.2 fun t => ⟨fun ht => ?_, fun ht => ?_⟩
    · rcases List.mem_cons.1 ((h t).1 (List.mem_cons_of_mem _ ht)) with e | h1
      · exact absurd (e ▸ hf.1 t ht) St.C_irrefl
      · exact h1
    · rcases List.mem_cons.1 ((h t).2 (List.mem_cons_of_mem _ ht)) with e | h1
      · exact absurd (e ▸ hg.1 t ht) St.C_irrefl
      · exact h1
/-- the same counts, the same row -/
theorem cn_ext (hL : CnOk L) (hK : CnOk K) (h : ∀ t, cnt L t = cnt K t) : L = K :=
  cn_sorted_ext hL.sort hK.sort fun p => by rw [mem_iff_cnt hL, mem_iff_cnt hK, h]
theorem delC_ok (h : CnOk L) : CnOk (delC L t) := ⟨List.Pairwise.filter _ h.sort, fun p hp => h.zero p (mem_delC.1 hp).1⟩
theorem insC_sort : ∀ {L : Cn}, L.Pairwise (fun p q => p.1.C q.1 < 0) → (∀ q ∈ L, q.1 ≠ p.1) → (insC p L).Pairwise (fun p q => p.1.C q.1 < 0)
  | [], _, _ => by simp [insC]
  | y :: r, h, hn => by
    have hh := h
    rw [List.pairwise_cons] at h
    unfold insC
    split
    · rename_i hc
      rw [List.pairwise_cons]
      refine ⟨fun x hx => ?_, insC_sort h.2 (fun q hq => hn q (List.mem_cons_of_mem _ hq))⟩
      rcases mem_insC.1 hx with e | hx
      · rw [e]; exact hc
      · exact h.1 x hx
    · rename_i hc
      have hty : p.1.C y.1 < 0 := by
        rcases St.C_total (x := p.1) (y := y.1) (fun e => hn y List.mem_cons_self e.symm) with h1 | h1
        · exact h1
        · exact absurd h1 hc
      rw [List.pairwise_cons]
      refine ⟨fun x hx => ?_, hh⟩
      rcases List.mem_cons.1 hx with e | hx
      · rw [e]; exact hty
      · exact St.C_lt_trans hty (h.1 x hx)
theorem addC_ok (h : CnOk L) : CnOk (addC L t n) := by
  unfold addC
  split
  · exact delC_ok h
  · rename_i hz
    refine ⟨insC_sort (delC_ok h).sort fun q hq => (mem_delC.1 hq).2, fun p hp => ?_⟩
    rcases mem_insC.1 hp with e | hp
    · rw [e]; exact hz
    · exact (delC_ok h).zero p hp
/-- what is counted behind it -/
theorem cnt_add (h : CnOk L) : cnt (addC L t n) s = if s = t then cnt L t + n else cnt L s := by
  have hok := addC_ok (t := t) (n := n) h
  have mem : ∀ p, p ∈ addC L t n ↔ (p = (t, cnt L t + n) ∧ cnt L t + n ≠ 0) ∨ (p ∈ L ∧ p.1 ≠ t) := fun p => by
    unfold addC
    split
    · rename_i hz
      rw [mem_delC]
      constructor
      · exact .inr
      · rintro (⟨_, hn⟩ | h)
        · exact absurd hz hn
        · exact h
    · rename_i hz
      rw [mem_insC, mem_delC]
      constructor
      · rintro (e | h)
        · exact .inl ⟨e, hz⟩
        · exact .inr h
      · rintro (⟨e, _⟩ | h)
        · exact .inl e
        · exact .inr h
  by_cases hs : s = t
  · subst hs
    rw [if_pos rfl]
    by_cases hz : cnt L s + n = 0
    · rw [hz]
      refine cnt_of_not fun p hp e => ?_
      rcases (mem p).1 hp with ⟨_, hn⟩ | ⟨_, hne⟩
      · exact hn hz
      · exact hne e
    · exact cnt_mem hok (p := (s, cnt L s + n)) ((mem _).2 (.inl ⟨rfl, hz⟩))
  · rw [if_neg hs]
    by_cases hz : cnt L s = 0
    · rw [hz]
      refine cnt_of_not fun p hp e => ?_
      rcases (mem p).1 hp with ⟨e2, _⟩ | ⟨hp, _⟩
      · exact hs (by rw [← e, e2])
      · have := cnt_mem h hp
        rw [e, hz] at this
        exact h.zero p hp this.symm
    · exact cnt_mem hok (p := (s, cnt L s)) ((mem _).2 (.inr ⟨cnt_ne hz, hs⟩))
/-- in whatever order -/
theorem add_swap (h : CnOk L) : addC (addC L s n) t m = addC (addC L t m) s n := by
  refine cn_ext (addC_ok (addC_ok h)) (addC_ok (addC_ok h)) fun u => ?_
  rw [cnt_add (addC_ok h), cnt_add h, cnt_add h, cnt_add (addC_ok h), cnt_add h, cnt_add h]
  by_cases h1 : u = s <;> by_cases h2 : u = t <;> by_cases h3 : s = t <;> simp_all <;> omega
/-! the frontier -/
def timesC (L : Cn) : List St := L.map (·.1)
def posC (L : Cn) : List St := (L.filter fun p => decide (0 < p.2)).map (·.1)
def frC (L : Cn) : List St := ofS (posC L)
theorem mem_posC (h : CnOk L) : t ∈ posC L ↔ 0 < cnt L t := by
  unfold posC
  simp only [List.mem_map, List.mem_filter, decide_eq_true_eq]
  constructor
  · rintro ⟨p, ⟨hp, h0⟩, rfl⟩; rw [cnt_mem h hp]; exact h0
  · intro h0; exact ⟨_, ⟨cnt_ne (by omega), h0⟩, rfl⟩
/-- all times are right, of one depth -/
def EvenC (L : Cn) (d : Int) : Prop := ∀ p ∈ L, p.1.R ∧ p.1.d = d
theorem EvenC.pos {d : Int} (h : EvenC L d) : Even (posC L) := by
  have key : ∀ x ∈ posC L, x.R ∧ x.d = d := by
    intro x hx
    unfold posC at hx
    simp only [List.mem_map, List.mem_filter] at hx
    obtain ⟨p, ⟨hp, _⟩, rfl⟩ := hx
    exact h p hp
  exact fun x hx => ⟨(key x hx).1, fun y hy => (key x hx).2.trans (key y hy).2.symm⟩
theorem EvenC.add {d : Int} (h : EvenC L d) (hr : t.R) (hd : t.d = d) : EvenC (addC L t n) d := by
  intro p hp
  unfold addC at hp
  split at hp
  · exact h p (mem_delC.1 hp).1
  · rcases mem_insC.1 hp with e | hp
    · rw [e]; exact ⟨hr, hd⟩
    · exact h p (mem_delC.1 hp).1
theorem frC_fr {d : Int} (h : EvenC L d) : Fr (frC L) := ofS_fr h.pos
theorem frC_up {d : Int} (hk : CnOk L) (h : EvenC L d) : Up (frC L) s ↔ ∃ t, 0 < cnt L t ∧ t.L s := by
  rw [frC, ofS_up h.pos]
  constructor
  · rintro ⟨x, hx, hl⟩; exact ⟨x, (mem_posC hk).1 hx, hl⟩
  · rintro ⟨x, hx, hl⟩; exact ⟨x, (mem_posC hk).2 hx, hl⟩
/-- more only behind the frontier: it never goes back -/
theorem frC_rises {d : Int} (hk : CnOk L) (h : EvenC L d) (hr : t.R) (hd : t.d = d) (hup : 0 < n → Up (frC L) t) : In (frC L) (frC (addC L t n)) := by
  intro x hx
  have hx0 : 0 < cnt (addC L t n) x := (mem_posC (addC_ok hk)).1 (mem_ofS.1 hx).1
  rw [cnt_add hk] at hx0
  have hxr : x.R := (frC_fr (h.add (n := n) hr hd)).right x hx
  by_cases hxt : x = t
  · rw [if_pos hxt] at hx0
    by_cases hn : 0 < n
    · rw [hxt]; exact hup hn
    · exact (frC_up hk h).2 ⟨x, by rw [hxt]; omega, St.L_refl.2 hxr⟩
  · rw [if_neg hxt] at hx0
    exact (frC_up hk h).2 ⟨x, hx0, St.L_refl.2 hxr⟩
end
end Go.Proofs.Ytkbabmifdfmhlaa
