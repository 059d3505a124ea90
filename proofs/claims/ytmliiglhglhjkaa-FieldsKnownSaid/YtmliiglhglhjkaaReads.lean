/- What has been written is read again; readers beside one another. -/
import Derived.Test.YtmliiglhglhjkaaWorks
namespace Go.Proofs.Ytmliiglhglhjkaa
open Go.RowKit
namespace Th
theorem wide_cases (t : Th) : t.wide = 0 ∨ t.wide = 1 ∨ t.wide = 2 ∨ t.wide = 4 ∨ t.wide = 8 := by unfold wide; (repeat' split) <;> simp
theorem bytes_len (t : Th) : t.bytes.length = t.ask := by
  unfold bytes ask
  split
  · exact bl_len _
  · exact M.be_len _ _
theorem bytes_lt (t : Th) : ∀ x ∈ t.bytes, x < 256 := by
  unfold bytes
  split
  · exact bl_lt _
  · exact M.be_lt _ _
end Th
theorem took_front (n : Nat) (xs R : List Nat) (h : xs.length = n) : M.took (n : Nat) (xs ++ R) false = true := by
  unfold M.took
  rw [decide_eq_true (p := (0 : Int) ≤ n) (by omega), decide_eq_true (p := ((n : Int) ≤ (xs ++ R).length)) (by simp; omega)]
  rfl
theorem out_front (n : Nat) (xs R : List Nat) (h : xs.length = n) : M.out (n : Nat) (xs ++ R) false = xs ∧ M.rest (n : Nat) (xs ++ R) false = R ∧ M.spoil (n : Nat) (xs ++ R) false = false := by
  have ht := took_front n xs R h
  refine ⟨?_, ?_, ?_⟩
  · unfold M.out; rw [if_pos ht, Int.toNat_natCast, ← h, List.take_left]
  · unfold M.rest; rw [if_pos ht, Int.toNat_natCast, ← h, List.drop_left]
  · unfold M.spoil; rw [ht]; rfl
/-- what was written is read, and what stands behind it is left -/
theorem read_front (t : Th) (R : List Nat) : t.told (t.bytes ++ R) false = t.bytes ∧ M.rest t.ask (t.bytes ++ R) false = R ∧ M.spoil t.ask (t.bytes ++ R) false = false := by
  have h := out_front t.ask t.bytes R t.bytes_len
  refine ⟨?_, h.2⟩
  unfold Th.told
  by_cases h0 : t.wide = 0
  · rw [if_pos h0]
    have : t.ask = t.b.size := by unfold Th.ask; rw [if_pos h0]
    rw [← this]; exact h.1
  · rw [if_neg h0]
    have e : t.ask = t.wide := by unfold Th.ask; rw [if_neg h0]
    rw [← e, h.1]
    have hl := t.bytes_len
    have := M.be_val t.bytes t.bytes_lt
    rw [hl] at this
    exact this
theorem texts_drop (ts : List Th) (k : Nat) (t : Th) (h : ts[k]? = some t) : texts (ts.drop k) = t.bytes ++ texts (ts.drop (k + 1)) := by
  have hlt := (List.getElem?_eq_some_iff.1 h).1
  rw [List.drop_eq_getElem_cons hlt]
  have : ts[k] = t := by rw [List.getElem?_eq_getElem hlt] at h; exact Option.some.inj h
  rw [this]
  simp [texts]
section
variable {w w' : World} {q r : Nat} {xs ys : List Nat} {sp sp' : Bool}
/-- a reader stays where another one is read -/
theorem IsReader.other (h : IsReader w r ys sp) (hq : IsReader w q xs sp') (hg : w.grownBy w' (some q)) (hne : r ≠ q) : IsReader w' r ys sp := by
  obtain ⟨A, c, hr, hB, h1, h2, h3, h4, h5⟩ := h
  obtain ⟨A', c', hr', _⟩ := hq
  refine ⟨A, c, hr.grown hg (by intro e; injection e with e; exact hne e), ⟨hB.1, fun h0 => ?_⟩, h1, h2, h3, h4, h5⟩
  obtain ⟨b, off, he, hc⟩ := hB.plain h0
  have hlt : b < w.heap.size := by obtain ⟨ad, e, hlt, _⟩ := hB.2 h0; rw [he] at e; injection e with e; subst e; exact hlt
  have hbq : b ≠ q := by
    rintro rfl
    have h0' := hc 0 _ (List.getElem?_eq_getElem h0)
    rw [Nat.add_zero, hr'.cell] at h0'
    match off with
    | 0 => simp at h0'
    | 1 => simp at h0'
    | _ + 2 => simp at h0'
  refine ⟨⟨b, off, none⟩, he, Nat.lt_of_lt_of_le hlt hg.size, fun j x hx => ?_⟩
  have hk : ∀ o, w'.cell? ⟨b, o, none⟩ = w.cell? ⟨b, o, none⟩ := fun o => World.cell?_of_block (hg.block b hlt (by intro e; injection e with e; exact hbq e))
  have := hc j x hx
  rw [add_at, hk]; exact this
end
end Go.Proofs.Ytmliiglhglhjkaa
