/- A sorted row less another one, gone through once: plain mathematics, of no code. -/
import Derived.Test.YtcdofkhkckodjaaValMath
namespace Go.Proofs.Ytcdofkhkckodjaa
namespace Vr
/-- behind i of sa: what is left of it, and of sb what it has not met -/
structure SubI (sa sb : List Rd) (i : Nat) (rest away : List Rd) : Prop where
  met : ∃ c, sb = c ++ away ∧ (sa.take i).Perm (rest ++ c)
  sub : rest.Sublist (sa.take i)
  hope : ∀ p, sa.Perm (p ++ sb) → ∃ p', (sa.drop i).Perm (p' ++ away)
theorem SubI.start (sa sb : List Rd) : SubI sa sb 0 [] sb := ⟨⟨[], rfl, by simp⟩, by simp, fun p h => ⟨p, h⟩⟩
theorem take_snoc {l : List Rd} {i : Nat} {r : Rd} (h : l[i]? = some r) : l.take (i + 1) = l.take i ++ [r] := by rw [List.take_add_one, h]; rfl
theorem drop_cons {l : List Rd} {i : Nat} {r : Rd} (h : l[i]? = some r) : l.drop i = r :: l.drop (i + 1) := by
  rw [List.drop_eq_getElem_cons (List.getElem?_eq_some_iff.1 h).1, (List.getElem?_eq_some_iff.1 h).2]
theorem SubI.hit {sa sb rest t : List Rd} {i : Nat} {r : Rd} (h : SubI sa sb i rest (r :: t)) (hr : sa[i]? = some r) : SubI sa sb (i + 1) rest t where
  met := by
    obtain ⟨c, h1, h2⟩ := h.met
    refine ⟨c ++ [r], by rw [h1]; simp, ?_⟩
    rw [take_snoc hr, ← List.append_assoc]
    exact h2.append_right [r]
  sub := by rw [take_snoc hr]; exact h.sub.trans (List.sublist_append_left _ _)
  hope := fun p hp => by
    obtain ⟨p', h'⟩ := h.hope p hp
    rw [drop_cons hr] at h'
    exact ⟨p', (List.Perm.cons_inv (h'.trans List.perm_middle))⟩
theorem SubI.miss {sa sb rest away : List Rd} {i : Nat} {r : Rd} (h : SubI sa sb i rest away) (hr : sa[i]? = some r) (hs : sa.Pairwise Rd.Le) (hb : sb.Pairwise Rd.Le) (hx : ∀ x t, away = x :: t → x ≠ r) : SubI sa sb (i + 1) (rest ++ [r]) away where
  met := by
    obtain ⟨c, h1, h2⟩ := h.met
    refine ⟨c, h1, ?_⟩
    rw [take_snoc hr, List.append_assoc]
    refine (h2.append_right [r]).trans ?_
    rw [List.append_assoc]
    exact List.Perm.append_left _ List.perm_append_comm
  sub := by rw [take_snoc hr]; exact h.sub.append (List.Sublist.refl _)
  hope := fun p hp => by
    obtain ⟨p', h'⟩ := h.hope p hp
    obtain ⟨c, hc, _⟩ := h.met
    rw [drop_cons hr] at h'
    have hn : r ∉ away := by
      intro hm
      cases away with
      | nil => simp at hm
      | cons x t =>
        have hxr := hx x t rfl
        have hxd : x ∈ r :: sa.drop (i + 1) := h'.mem_iff.2 (by simp)
        have hle : r.Le x := by
          rcases List.mem_cons.1 hxd with e | hxd
          · exact absurd e hxr
          · have hd : (r :: sa.drop (i + 1)).Pairwise Rd.Le := by rw [← drop_cons hr]; exact hs.sublist (List.drop_sublist _ _)
            exact (List.pairwise_cons.1 hd).1 x hxd
        rcases List.mem_cons.1 hm with e | hm
        · exact hxr e.symm
        · rw [hc] at hb
          have hb2 := (List.pairwise_append.1 hb).2.1
          exact hxr (Rd.Le_antisymm ((List.pairwise_cons.1 hb2).1 r hm) hle)
    have hp' : r ∈ p' := by
      have : r ∈ p' ++ away := h'.mem_iff.1 (by simp)
      rcases List.mem_append.1 this with h | h
      · exact h
      · exact absurd h hn
    refine ⟨p'.erase r, ?_⟩
    have := h'.trans ((List.perm_cons_erase hp').append_right away)
    exact List.Perm.cons_inv (a := r) this
theorem SubI.yes {a b rest : List Rd} (h : SubI (sortR a) (sortR b) (sortR a).length rest []) : lessR a b = some rest := by
  obtain ⟨c, h1, h2⟩ := h.met
  rw [List.append_nil] at h1
  rw [List.take_length] at h2
  have hs := h.sub
  rw [List.take_length] at hs
  refine lessR_some.2 ⟨sortR_sort.sublist hs, ?_⟩
  rw [← h1] at h2
  exact sortR_perm.symm.trans (h2.trans (List.Perm.append_left _ sortR_perm))
theorem SubI.no {a b rest away : List Rd} (h : SubI (sortR a) (sortR b) (sortR a).length rest away) (hn : 0 < away.length) : lessR a b = none := by
  refine lessR_none.2 fun p hp => ?_
  obtain ⟨p', h'⟩ := h.hope p ((sortR_perm.trans hp).trans (List.Perm.append_left _ sortR_perm.symm))
  rw [List.drop_length] at h'
  have := h'.length_eq
  simp at this
  omega
/-- the first place of x -/
theorem erase_at : ∀ {l : List Rd} {p : Nat} {x : Rd}, l[p]? = some x → (∀ y ∈ l.take p, y ≠ x) → l.take p ++ l.drop (p + 1) = l.erase x
  | [], p, x, h, _ => by simp at h
  | y :: l, 0, x, h, _ => by
    have : y = x := by simpa using h
    subst this
    simp
  | y :: l, p + 1, x, h, hn => by
    have h1 : y ≠ x := hn y (by simp)
    have h2 := erase_at (l := l) (p := p) (x := x) (by simpa using h) (fun z hz => hn z (by simp [hz]))
    rw [List.take_succ_cons, List.drop_succ_cons, List.cons_append, h2, List.erase_cons_tail (by simpa using h1)]
end Vr
end Go.Proofs.Ytcdofkhkckodjaa
