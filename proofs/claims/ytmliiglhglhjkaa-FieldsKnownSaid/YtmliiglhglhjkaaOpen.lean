/- A row of things that came in. -/
import Derived.Test.YtmliiglhglhjkaaThings
import Derived.Test.YtmliiglhglhjkaaLaw
import Derived.Deep.Slices
import Derived.Deep.Strs
import Derived.SizedLaws
namespace Go.Proofs.Ytmliiglhglhjkaa
open Go.ChangeShapes Go.WideShapes Go.ChangeAt Go.RowKit
set_option linter.unusedVariables false
section
variable {H : Type} {enc : TypeId × Value → H}

theorem weights_mem_all {P : Program} {e : TypeId} : ∀ {l : List (DataW H)} {d : DataW H}, d ∈ l → ∀ n ∈ d.weights P e, n ∈ DataW.weightsAll P e l
  | x :: l, d, hd, n, hn => by
    simp only [DataW.weightsAll, List.mem_append]
    rcases List.mem_cons.1 hd with rfl | hd
    · exact .inl hn
    · exact .inr (weights_mem_all hd n hn)
theorem spot_none {w : World} {b off q : Nat} {v : Value} (h : w.cell? ⟨b, off, some q⟩ = some v) : False := by
  unfold World.cell? at h
  cases hh : w.heap[b]? with
  | none => simp [hh] at h
  | some o => cases o <;> simp [hh] at h
theorem i8_wf {n : Int} (h : (Lit.int .i8 n).wf = true) : -128 ≤ n ∧ n ≤ 127 := by
  simpa [Lit.wf, IntKind.min, IntKind.max, IntKind.signed, IntKind.bits] using h
theorem u64_wf {n : Int} (h : (Lit.int .u64 n).wf = true) : 0 ≤ n ∧ n ≤ 18446744073709551615 := by
  simpa [Lit.wf, IntKind.min, IntKind.max, IntKind.signed, IntKind.bits] using h
theorem open_things {W : World} {base : Nat} {v : Value} {d : DataW H} {p : List MemPlace} (hok : Value.okWide Try.prog W .any base 22 v)
    (h : DataW.Trod enc Try.prog W 0 (fun _ => true) true 22 v d p) (hz : ∀ n ∈ d.weights Try.prog 22, n ≤ reachBytes) :
    ∃ (A : Option Addr) (ts : List Th) (c : Nat), v = .slice A ts.length c ∧ Things W A ts ∧ ts.length * 3 ≤ 140737488351232 := by
  obtain ⟨A0, len, cap, rfl⟩ := okWide_slice Try.underlying22 hok
  obtain ⟨fuel, hf⟩ := h
  rcases Go.Deep.open_slice Try.underlying22 hf with ⟨hcs, _⟩ | ⟨a, len', cap', m, n, D, Pl, hcs, _, hl, hm, hmm, hx, hi⟩
  · simp [Value.cells] at hcs
    obtain ⟨rfl, rfl, rfl⟩ := hcs
    exact ⟨none, [], 0, rfl, ⟨by simp, by simp⟩, by simp⟩
  · simp [Value.cells] at hcs
    obtain ⟨rfl, rfl, rfl⟩ := hcs
    simp only [if_true] at hmm
    subst hmm
    simp only [Prod.mk.injEq] at hx
    obtain ⟨hd, _⟩ := hx
    have hw := hz
    rw [hd] at hw
    have hbig : (((List.range len).map D).length + ((List.range (m - len)).map fun j => D (len + j)).length) * Try.prog.bytesOf 42 ≤ reachBytes := hw _ (by
      simp only [DataW.weights, Try.underlying22]; exact List.mem_cons_self)
    rw [show Try.prog.bytesOf 42 = 32 by kernel_rfl] at hbig
    simp only [List.length_map, List.length_range, reachBytes] at hbig
    rw [show Try.prog.cellsOf 42 = 3 by kernel_rfl] at hi
    have key : ∀ i, i < len → ∃ t : Th, (t.n < 18446744073709551616 ∧ t.b.size ≤ 140737488351232) ∧ W.cell? ((a.add (i * 3)).add 0) = some (.int .i8 t.s) ∧ W.cell? ((a.add (i * 3)).add 1) = some (.int .u64 (t.n : Nat)) ∧ W.cell? ((a.add (i * 3)).add 2) = some (.string t.b) := by
      intro i hlt
      obtain ⟨cs', hc, ht⟩ := hi i (by omega)
      obtain ⟨_, hcl, hat⟩ := World.cells?_some hc
      obtain ⟨y0, y1, y2, n', hy, _, h0, h1, h2⟩ := Go.Deep.trod_struct3 Try.underlying42 ht
      obtain ⟨s, e0, ey0, _⟩ := DataW.trod_int Try.underlying39 h0
      obtain ⟨u, e1, ey1, wu⟩ := DataW.trod_int Try.underlying40 h1
      obtain ⟨b, e2, ey2, wb⟩ := DataW.trod_string Try.underlying9 h2
      obtain ⟨k, rfl⟩ := Int.eq_ofNat_of_zero_le (u64_wf wu).1
      have hu := (u64_wf wu).2
      match cs', hcl, e0, e1, e2, hat with
      | [c0, c1, c2], _, e0, e1, e2, hat =>
        rw [show Try.prog.cellsOf 39 = 1 by kernel_rfl] at e0
        rw [show Try.prog.cellsOf 40 = 1 by kernel_rfl] at e1
        rw [show Try.prog.cellsOf 9 = 1 by kernel_rfl] at e2
        simp at e0 e1 e2
        subst e0; subst e1; subst e2
        refine ⟨⟨s, k, b⟩, ⟨by show k < _; omega, ?_⟩, hat 0 (by omega), hat 1 (by omega), hat 2 (by omega)⟩
        simp only [Prod.mk.injEq] at hy
        have hDi : D i ∈ (List.range len).map D := List.mem_map.2 ⟨i, List.mem_range.2 hlt, rfl⟩
        have hin : b.data.toList.length ∈ (D i).weights Try.prog 42 := by
          rw [hy.1, ey0, ey1, ey2]
          simp only [DataW.weights, Try.underlying42]
          simp [DataW.weightsEach, DataW.weights]
        have := hw _ (by
          simp only [DataW.weights, Try.underlying22, List.mem_cons, List.mem_append]
          exact .inr (.inl (weights_mem_all hDi _ hin)))
        simpa [reachBytes] using this
    let f : Nat → Th := fun i => if h : i < len then Classical.choose (key i h) else ⟨0, 0, ⟨#[]⟩⟩
    have hf' : ∀ i (h : i < len), f i = Classical.choose (key i h) := fun i h => by simp only [f]; rw [dif_pos h]
    have hspec : ∀ i, i < len → (((f i).n < 18446744073709551616 ∧ (f i).b.size ≤ 140737488351232) ∧ W.cell? ((a.add (i * 3)).add 0) = some (.int .i8 (f i).s) ∧ W.cell? ((a.add (i * 3)).add 1) = some (.int .u64 ((f i).n : Nat)) ∧ W.cell? ((a.add (i * 3)).add 2) = some (.string (f i).b)) := fun i h => by
      rw [hf' i h]; exact Classical.choose_spec (key i h)
    refine ⟨some a, (List.range len).map f, m, by simp, ⟨fun t ht => ?_, fun hn => ?_⟩, by simp; omega⟩
    · obtain ⟨i, hi2, rfl⟩ := List.mem_map.1 ht
      exact (hspec i (List.mem_range.1 hi2)).1
    · have hlen : 0 < len := by simpa using hn
      obtain ⟨b, off, spot⟩ := a
      have h0 := (hspec 0 hlen).2.1
      cases spot with
      | some q =>
        exfalso
        simp only [Nat.zero_mul, Addr.add, if_true] at h0
        exact spot_none h0
      | none =>
        refine ⟨b, off, rfl, ?_, fun i t ht => ?_⟩
        · have := cell_lt h0
          simpa [add_block] using this
        · have hil : i < len := by simpa using (List.getElem?_eq_some_iff.1 ht).1
          rw [List.getElem?_map, List.getElem?_range hil] at ht
          obtain rfl : f i = t := by simpa using ht
          obtain ⟨_, h1, h2, h3⟩ := hspec i hil
          rw [add_at, add_at] at h1 h2 h3
          exact ⟨h1, h2, h3⟩
/-- what may be said of an argument's weight -/
theorem weights_of {P : Program} {ts : List TypeId} {ds : List (DataW H)} (h : (DataW.weightsEach P ts ds).all (· ≤ reachBytes) = true) {j : Nat} {t : TypeId} {d : DataW H} (ht : ts[j]? = some t) (hd : ds[j]? = some d) : ∀ n ∈ d.weights P t, n ≤ reachBytes := by
  intro n hn
  have := List.all_eq_true.1 h n (DataW.weights_mem_each ht hd n hn)
  simpa using this
end
end Go.Proofs.Ytmliiglhglhjkaa
