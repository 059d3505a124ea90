/- A row of int16s that came in. -/
import Derived.Test.YtmliiglhglhjkaaLaw
import Derived.Test.YtmliiglhglhjkaaMem
import Derived.Test.YtmliiglhglhjkaaParts
import Derived.Deep.Slices
import Derived.SizedLaws
namespace Go.Proofs.Ytmliiglhglhjkaa
open Go.ChangeShapes Go.WideShapes Go.ChangeAt Go.RowKit
set_option linter.unusedVariables false
theorem Try.cells_i16 : Try.prog.cellsOf 38 = 1 := by kernel_rfl
/-- the slice at A holds the numbers ns -/
def I16s (w : World) (A : Option Addr) (ns : List Int) : Prop :=
  (∀ n ∈ ns, -32768 ≤ n ∧ n ≤ 32767) ∧ (0 < ns.length → ∃ b off, A = some ⟨b, off, none⟩ ∧ b < w.heap.size ∧ ∀ (i : Nat) (n : Int), ns[i]? = some n → w.cell? ⟨b, off + i, none⟩ = some (.int .i16 n))
theorem I16s.below {w w' : World} {A : Option Addr} {ns : List Int} (h : I16s w A ns) (hb : Below w.heap.size w w') : I16s w' A ns :=
  ⟨h.1, fun hn => by
    obtain ⟨b, off, e, hlt, hc⟩ := h.2 hn
    exact ⟨b, off, e, Nat.lt_of_lt_of_le hlt hb.size, fun i n hi => (hb.cell (p := ⟨b, off + i, none⟩) hlt).trans (hc i n hi)⟩⟩
section
variable {H : Type} {enc : TypeId × Value → H}
theorem i16_wf {n : Int} (h : (Lit.int .i16 n).wf = true) : -32768 ≤ n ∧ n ≤ 32767 := by
  simpa [Lit.wf, IntKind.min, IntKind.max, IntKind.signed, IntKind.bits] using h
theorem spot_none16 {w : World} {b off q : Nat} {v : Value} (h : w.cell? ⟨b, off, some q⟩ = some v) : False := by
  unfold World.cell? at h
  cases hh : w.heap[b]? with
  | none => simp [hh] at h
  | some o => cases o <;> simp [hh] at h
theorem open_i16s {W : World} {base : Nat} {v : Value} {d : DataW H} {p : List MemPlace} (hok : Value.okWide Try.prog W .any base 32 v)
    (h : DataW.Trod enc Try.prog W 0 (fun _ => true) true 32 v d p) :
    ∃ (A : Option Addr) (ns : List Int) (c : Nat), v = .slice A ns.length c ∧ I16s W A ns ∧ ns.length ≤ maxLen := by
  obtain ⟨A, len, cap, rfl⟩ := okWide_slice Try.underlying32 hok
  obtain ⟨fuel, hf⟩ := h
  rcases open_ints Try.underlying32 Try.underlying38 Try.cells_i16 hf with ⟨hcs, _⟩ | ⟨a, len', cap', zs, hcs, _, hl, hm, hz, _, hcell, hwz⟩
  · simp [Value.cells] at hcs
    obtain ⟨rfl, rfl, rfl⟩ := hcs
    exact ⟨none, [], 0, rfl, ⟨by simp, by simp⟩, by simp⟩
  · simp [Value.cells] at hcs
    obtain ⟨rfl, rfl, rfl⟩ := hcs
    simp only [if_true] at hz
    have hlen : (zs.take len).length = len := by simp; omega
    refine ⟨some a, zs.take len, cap, by rw [hlen], ⟨fun n hn => i16_wf (hwz n (List.mem_of_mem_take hn)), fun h0 => ?_⟩, by rw [hlen]; omega⟩
    obtain ⟨b, off, spot⟩ := a
    have h00 := hcell 0 (by omega)
    cases spot with
    | some q =>
      exfalso
      simp only [Addr.add, if_true] at h00
      exact spot_none16 h00
    | none =>
      refine ⟨b, off, rfl, ?_, fun i n hi => ?_⟩
      · have := cell_lt h00
        simpa [add_block] using this
      · by_cases hj : i < len
        · have hj2 : i < zs.length := by omega
          rw [List.getElem?_take, if_pos hj, List.getElem?_eq_getElem hj2] at hi
          simp at hi
          have h1 := hcell i hj2
          rw [add_at] at h1
          have e : zs.getD i 0 = zs[i] := by simp [List.getD_eq_getElem?_getD, hj2]
          rw [h1, e, hi]
        · rw [List.getElem?_take, if_neg hj] at hi; simp at hi
end
end Go.Proofs.Ytmliiglhglhjkaa
