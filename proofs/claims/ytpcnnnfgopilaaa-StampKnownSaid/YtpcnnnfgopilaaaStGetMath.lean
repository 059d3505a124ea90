/- A time read off bytes: plain mathematics, of no code. -/
import Derived.Test.YtpcnnnfgopilaaaStLattice
namespace Go.Proofs.Ytpcnnnfgopilaaa
set_option linter.unusedVariables false
def nth (l : List Nat) (i : Nat) : Nat := l.getD i 0
theorem nth_some {l : List Nat} {i : Nat} (h : i < l.length) : l[i]? = some (nth l i) := by
  unfold nth; rw [List.getD_eq_getElem?_getD, List.getElem?_eq_getElem h]; rfl
/-- are there bytes enough? -/
def Can (l : List Nat) : Prop := 3 ≤ l.length ∧ nth l 0 ≤ 3 ∧ 3 + nth l 0 ≤ l.length
instance (l : List Nat) : Decidable (Can l) := inferInstanceAs (Decidable (_ ∧ _))
/-- the time that they begin with, right or not -/
def St.of (l : List Nat) : St :=
  ⟨nth l 0, nth l 1 * 256 + nth l 2, if 0 < nth l 0 then nth l 3 else 0, if 1 < nth l 0 then nth l 4 else 0, if 2 < nth l 0 then nth l 5 else 0⟩
def Good (l : List Nat) : Prop := Can l ∧ (St.of l).R
instance (l : List Nat) : Decidable (Good l) := inferInstanceAs (Decidable (_ ∧ _))
/-- what is got: the time, the bytes behind it, the error -/
def gt (l : List Nat) : St := if Good l then St.of l else St.zero
def gr (l : List Nat) : List Nat := if Good l then l.drop (3 + nth l 0) else []
def ge (l : List Nat) : Int := if Good l then 0 else 50
theorem nth_cons {a : Nat} {l : List Nat} {i : Nat} : nth (a :: l) (i + 1) = nth l i := rfl
theorem nth_zero {a : Nat} {l : List Nat} : nth (a :: l) 0 = a := rfl
/-- what is put is got as it was, with what is behind -/
theorem St.of_put {t : St} (h : t.R) (l : List Nat) : Good (t.put ++ l) ∧ St.of (t.put ++ l) = t ∧ (t.put ++ l).drop (3 + nth (t.put ++ l) 0) = l := by
  have hr := h
  have hlen := St.put_len h
  unfold St.R at h
  have hd : t.d = 0 ∨ t.d = 1 ∨ t.d = 2 ∨ t.d = 3 := by omega
  have h0 : nth (t.put ++ l) 0 = t.d.toNat := rfl
  have hof : St.of (t.put ++ l) = t := by
    obtain ⟨d, e, x, y, z⟩ := t
    simp only at hd h
    unfold St.of
    rw [h0]
    have h1 : nth ((⟨d, e, x, y, z⟩ : St).put ++ l) 1 = (e / 256).toNat := rfl
    have h2 : nth ((⟨d, e, x, y, z⟩ : St).put ++ l) 2 = (e % 256).toNat := rfl
    rw [h1, h2]
    rcases hd with rfl | rfl | rfl | rfl
    · refine St.ext' ?_ ?_ ?_ ?_ ?_ <;> simp <;> omega
    · have h3 : nth ((⟨1, e, x, y, z⟩ : St).put ++ l) 3 = x.toNat := rfl
      rw [h3]
      refine St.ext' ?_ ?_ ?_ ?_ ?_ <;> simp <;> omega
    · have h3 : nth ((⟨2, e, x, y, z⟩ : St).put ++ l) 3 = x.toNat := rfl
      have h4 : nth ((⟨2, e, x, y, z⟩ : St).put ++ l) 4 = y.toNat := rfl
      rw [h3, h4]
      refine St.ext' ?_ ?_ ?_ ?_ ?_ <;> simp <;> omega
    · have h3 : nth ((⟨3, e, x, y, z⟩ : St).put ++ l) 3 = x.toNat := rfl
      have h4 : nth ((⟨3, e, x, y, z⟩ : St).put ++ l) 4 = y.toNat := rfl
      have h5 : nth ((⟨3, e, x, y, z⟩ : St).put ++ l) 5 = z.toNat := rfl
      rw [h3, h4, h5]
      refine St.ext' ?_ ?_ ?_ ?_ ?_ <;> simp <;> omega
  refine ⟨⟨⟨?_, ?_, ?_⟩, by rw [hof]; exact hr⟩, hof, ?_⟩
  · rw [List.length_append]; omega
  · rw [h0]; omega
  · rw [h0, List.length_append]; omega
  · rw [h0, ← hlen, List.drop_left]
theorem gt_put {t : St} (h : t.R) (l : List Nat) : gt (t.put ++ l) = t ∧ gr (t.put ++ l) = l ∧ ge (t.put ++ l) = 0 := by
  obtain ⟨h1, h2, h3⟩ := St.of_put h l
  unfold gt gr ge
  rw [if_pos h1, if_pos h1, if_pos h1]
  exact ⟨h2, h3, rfl⟩
end Go.Proofs.Ytpcnnnfgopilaaa
