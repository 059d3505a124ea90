/- Rows of bytes of the call's own, that are written to. -/
import Derived.Test.YtmliiglhglhjkaaReader
namespace Go.Proofs.Ytmliiglhglhjkaa
open Go.ChangeShapes Go.WideShapes Go.ChangeAt Go.RowKit Go.BigFrame
set_option linter.unusedVariables false
/-- a row of bytes of the call's own, whatever it holds -/
def Mine (w : World) (base : Nat) (A : Option Addr) (n : Nat) : Prop :=
  0 < n → ∃ g L, A = some ⟨g, 0, none⟩ ∧ base ≤ g ∧ Row w g 5 L ∧ ∀ j, j < n → ∃ x : Nat, x < 256 ∧ L[j]? = some (.int .u8 (x : Nat))
theorem Mine.put {w : World} {base : Nat} {A : Option Addr} {n : Nat} (h : Mine w base A n) (g k x : Nat) (hA : A = some ⟨g, 0, none⟩) (hx : x < 256) : Mine (w.setCell ⟨g, k, none⟩ (.int .u8 (x : Nat))) base A n := by
  intro hn
  obtain ⟨g', L, e, hb, hr, hc⟩ := h hn
  obtain rfl : g' = g := by rw [hA] at e; injection e with e; injection e with e; exact e.symm
  refine ⟨g', L.set k (.int .u8 (x : Nat)), hA, hb, hr.put k _, fun j hj => ?_⟩
  by_cases e : k = j
  · subst e
    obtain ⟨y, _, hy⟩ := hc k hj
    exact ⟨x, hx, by rw [List.getElem?_set_self (List.getElem?_eq_some_iff.1 hy).1]⟩
  · rw [List.getElem?_set_ne e]; exact hc j hj
theorem Mine.of_row {w : World} {base g : Nat} {xs : List Nat} (h : Row w g 5 (u8s xs)) (hb : base ≤ g) (hx : ∀ x ∈ xs, x < 256) : Mine w base (some ⟨g, 0, none⟩) xs.length :=
  fun _ => ⟨g, _, rfl, hb, h, fun j hj => ⟨xs[j], hx _ (List.getElem_mem hj), by rw [List.getElem?_map, List.getElem?_eq_getElem hj]; rfl⟩⟩
theorem Mine.of_own {w : World} {base : Nat} {A : Option Addr} {c n : Nat} {xs : List Nat} (h : w.ownsRow base 5 1 (.slice A n c) n (u8s xs)) (hx : ∀ x ∈ xs, x < 256) : Mine w base A n := by
  intro hn
  obtain ⟨g, rest, cap, e, hb, hr⟩ := Row.of_own_some h hn
  injection e with e1 e2 e3
  have hl : xs.length = n := by have := h.1; simpa using this
  refine ⟨g, _, e1, hb, hr, fun j hj => ⟨xs[j], hx _ (List.getElem_mem (by omega)), ?_⟩⟩
  rw [List.getElem?_append_left (by simp; omega), List.getElem?_map, List.getElem?_eq_getElem (by omega)]; rfl
theorem Own.mine {w : World} {B : Nat} {v : Value} {xs : List Nat} (h : Own w B v xs) : ∃ A c, v = .slice A xs.length c ∧ Bytes w A xs ∧ Mine w B A xs.length ∧ ∀ ad, A = some ad → B ≤ ad.block := by
  obtain ⟨A, c, e, hB, _, _, _, h2⟩ := h
  refine ⟨A, c, e, hB, fun hn => ?_, fun ad he => (h2 ad he).1⟩
  obtain ⟨ad, rfl, _, hc⟩ := hB.2 hn
  obtain ⟨h3, _, L, h4, h5⟩ := h2 ad rfl
  refine ⟨ad.block, L, by rw [← h4], h3, h5, fun j hj => ⟨xs[j], hB.1 _ (List.getElem_mem hj), ?_⟩⟩
  have := hc j _ (List.getElem?_eq_getElem hj)
  rw [h4, add_zero_off, h5.cell] at this
  exact this
theorem Mine.grown {w w' : World} {base n : Nat} {A : Option Addr} {row : Option Nat} (h : Mine w base A n) (hg : w.grownBy w' row) (hne : ∀ ad, A = some ad → some ad.block ≠ row) : Mine w' base A n := fun hn => by
  obtain ⟨g, L, rfl, hb, hr, hc⟩ := h hn
  exact ⟨g, L, rfl, hb, hr.grown hg (hne _ rfl), hc⟩
end Go.Proofs.Ytmliiglhglhjkaa
