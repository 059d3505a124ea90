/- Rows of summaries that came in. -/
import Derived.Test.YtdpadkellpkppaaMxRow
import Derived.Test.YtdpadkellpkppaaSmEq
import Derived.Test.YtdpadkellpkppaaLaw
import Derived.Deep.Slices
namespace Go.Proofs.Ytdpadkellpkppaa
namespace Mx
open Go.ChangeShapes Go.WideShapes Go.ChangeAt Go.RowKit Go.BigFrame Go.Shelf
set_option linter.unusedVariables false
set_option maxRecDepth 100000
theorem plain_addr {w : World} {a : Addr} {v : Value} (h : w.cell? a = some v) : ∃ b off, a = ⟨b, off, none⟩ := by
  obtain ⟨b, off, spot⟩ := a
  refine ⟨b, off, ?_⟩
  cases spot with
  | none => rfl
  | some s =>
    unfold World.cell? at h
    split at h
    · simp at h
    · cases h
theorem sum_cells {H : Type} {enc : TypeId × Value → H} {W : World} {n : Nat} {cs : List Value} {x : DataW H × List MemPlace} (hl : cs.length = 7) (h : DataW.trod enc Try.prog W 0 (fun _ => true) true n 24 cs = some x) : ∃ t : Sm, cs = t.cells := by
  match cs, hl with
  | [c0, c1, c2, c3, c4, c5, c6], _ =>
    obtain ⟨xs, n', _, hx, _, hlen, hg⟩ := DataW.trod_struct Try.underlying24 h
    match xs, hlen with
    | [y0, y1, y2, y3, y4], _ =>
      have h0 : DataW.trod enc Try.prog W 0 (fun _ => true) true n' 3 [c0] = some y0 := hg 0 _ rfl
      have h1 : DataW.trod enc Try.prog W 0 (fun _ => true) true n' 3 [c1] = some y1 := hg 1 _ rfl
      have h2 : DataW.trod enc Try.prog W 0 (fun _ => true) true n' 3 [c2] = some y2 := hg 2 _ rfl
      have h3 : DataW.trod enc Try.prog W 0 (fun _ => true) true n' 3 [c3] = some y3 := hg 3 _ rfl
      have h4 : DataW.trod enc Try.prog W 0 (fun _ => true) true n' 22 [c4, c5, c6] = some y4 := hg 4 _ rfl
      obtain ⟨z0, z1, z2, m, -, k0, k1, k2⟩ := trod_array3 Try.underlying22 cells_int h4
      obtain ⟨n0, e0, -, -⟩ := DataW.trod_int Try.underlying3 h0
      obtain ⟨n1, e1, -, -⟩ := DataW.trod_int Try.underlying3 h1
      obtain ⟨n2, e2, -, -⟩ := DataW.trod_int Try.underlying3 h2
      obtain ⟨n3, e3, -, -⟩ := DataW.trod_int Try.underlying3 h3
      obtain ⟨n4, e4, -, -⟩ := DataW.trod_int Try.underlying3 k0
      obtain ⟨n5, e5, -, -⟩ := DataW.trod_int Try.underlying3 k1
      obtain ⟨n6, e6, -, -⟩ := DataW.trod_int Try.underlying3 k2
      cases e0; cases e1; cases e2; cases e3; cases e4; cases e5; cases e6
      exact ⟨⟨n0, n1, n2, n3, n4, n5, n6⟩, rfl⟩
theorem open_sums {H : Type} {enc : TypeId × Value → H} {W : World} {base : Nat} {v : Value} {d : DataW H} {p : List MemPlace} (hok : Value.okWide Try.prog W .any base 44 v)
    (h : DataW.Trod enc Try.prog W 0 (fun _ => true) true 44 v d p) :
    ∃ (A : Option Addr) (l : List Sm) (c : Nat), v = .slice A l.length c ∧ Ts W A l ∧ l.length ≤ c ∧ c ≤ maxLen ∧ (A = none → c = 0) := by
  obtain ⟨A0, len, cap, rfl⟩ := okWide_slice Try.underlying44 hok
  obtain ⟨fuel, hf⟩ := h
  rcases Go.Deep.open_slice Try.underlying44 hf with ⟨hcs, _⟩ | ⟨a, len', cap', m, n, D, Pl, hcs, _, hl, hm, hmm, hx, hi⟩
  · simp [Value.cells] at hcs
    obtain ⟨rfl, rfl, rfl⟩ := hcs
    exact ⟨none, [], 0, rfl, Ts.nil, by simp, by simp, fun _ => rfl⟩
  · simp [Value.cells] at hcs
    obtain ⟨rfl, rfl, rfl⟩ := hcs
    simp only [if_true] at hmm
    subst hmm
    rw [cells_sum] at hi
    have key : ∀ i, i < len → ∃ x : Sm, ∀ j u, x.cells[j]? = some u → W.cell? ((a.add (i * 7)).add j) = some u := by
      intro i hlt
      obtain ⟨cs', hc, ht⟩ := hi i (by omega)
      obtain ⟨_, hcl, hat⟩ := World.cells?_some hc
      obtain ⟨t, rfl⟩ := sum_cells hcl ht
      refine ⟨t, fun j u hu => ?_⟩
      have hj : j < 7 := (List.getElem?_eq_some_iff.1 hu).1
      rw [hat j hj]; exact hu
    let f : Nat → Sm := fun i => if h : i < len then Classical.choose (key i h) else Sm.zero
    have hf' : ∀ i (h : i < len), f i = Classical.choose (key i h) := fun i h => by simp only [f]; rw [dif_pos h]
    have hspec := fun i (h : i < len) => (by rw [hf' i h]; exact Classical.choose_spec (key i h) : ∀ j u, (f i).cells[j]? = some u → W.cell? ((a.add (i * 7)).add j) = some u)
    refine ⟨some a, (List.range len).map f, m, by simp, fun hn => ?_, by simp; omega, hm, by simp⟩
    have hlen : 0 < len := by simpa using hn
    have h0 := hspec 0 hlen 0 _ rfl
    have hlt := cell_lt h0
    rw [add_block, add_block] at hlt
    obtain ⟨b, off, rfl⟩ : ∃ b off, a = ⟨b, off, none⟩ := by
      obtain ⟨b, off, e⟩ := plain_addr h0
      obtain ⟨b', off', spot⟩ := a
      simp [Addr.add] at e
      exact ⟨b', off', by rw [e.2.2]⟩
    refine ⟨b, off, rfl, hlt, fun j u hu => ?_⟩
    have hj : j < len * 7 := by
      have := (List.getElem?_eq_some_iff.1 hu).1
      rw [rowS_len] at this; simpa using this
    have hil : j / 7 < len := by omega
    have hti : ((List.range len).map f)[j / 7]? = some (f (j / 7)) := by rw [List.getElem?_map, List.getElem?_range hil]; rfl
    obtain ⟨u', hu'⟩ : ∃ u', (f (j / 7)).cells[j % 7]? = some u' := ⟨_, List.getElem?_eq_getElem (by show j % 7 < 7; omega)⟩
    have h1 := rowS_at _ (j / 7) _ hti (j % 7) u' hu'
    rw [show j / 7 * 7 + j % 7 = j by omega, hu] at h1
    cases h1
    have h2 := hspec (j / 7) hil (j % 7) u hu'
    rw [add_at, add_at, Nat.add_assoc, show j / 7 * 7 + j % 7 = j by omega] at h2
    exact h2
end Mx
end Go.Proofs.Ytdpadkellpkppaa
