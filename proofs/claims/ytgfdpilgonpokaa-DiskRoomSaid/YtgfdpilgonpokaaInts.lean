/- A []int that came in. -/
import Derived.Test.YtgfdpilgonpokaaStays
namespace Go.Proofs.Ytgfdpilgonpokaa
open Go.ChangeShapes Go.WideShapes Go.ChangeAt Go.RowKit Go.BigFrame
set_option linter.unusedVariables false
section
variable {H : Type} {enc : TypeId × Value → H} {P : Program}
theorem open_ints_at {t e : TypeId} (ht : P.underlying t = some (.slice e)) (he : P.underlying e = some (.int .i64)) (hc : P.cellsOf e = 1) {W : World} {base : Nat} {v : Value} {d : DataW H} {p : List MemPlace}
    (hok : Value.okWide P W .any base t v) (h : DataW.Trod enc P W 0 (fun _ => true) true t v d p) :
    ∃ (A : Option Addr) (ks : List Int) (c : Nat), v = .slice A ks.length c ∧ IntsAt W A ks ∧ ks.length ≤ c ∧ c ≤ 9223372036854775807 ∧ (A = none → c = 0) := by
  obtain ⟨A, len, cap, rfl⟩ := okWide_slice ht hok
  obtain ⟨fuel, hf⟩ := h
  rcases open_ints ht he hc hf with ⟨hcs, _⟩ | ⟨a, len', cap', zs, hcs, _, hl, hm, hz, _, hcell, hwz⟩
  · simp [Value.cells] at hcs
    obtain ⟨rfl, rfl, rfl⟩ := hcs
    exact ⟨none, [], 0, rfl, ⟨by simp, by simp⟩, by simp, by simp, fun _ => rfl⟩
  · simp [Value.cells] at hcs
    obtain ⟨rfl, rfl, rfl⟩ := hcs
    simp only [if_true] at hz
    have hlen : (zs.take len).length = len := by simp; omega
    refine ⟨some a, zs.take len, cap, by rw [hlen], ⟨fun z hz => i64_wf (hwz z (List.mem_of_mem_take hz)), fun h0 => ?_⟩, by omega, by unfold maxLen at hm; exact hm, by simp⟩
    have h1 := hcell 0 (by omega)
    have hlt := cell_lt h1
    rw [add_block] at hlt
    obtain ⟨b, off, rfl⟩ : ∃ b off, a = ⟨b, off, none⟩ := by
      obtain ⟨b, off, e⟩ := plain_addr h1
      obtain ⟨b', off', spot⟩ := a
      simp [Addr.add] at e
      exact ⟨b', off', by rw [e.2.2]⟩
    refine ⟨b, off, rfl, hlt, fun j z hj => ?_⟩
    have hj' := (List.getElem?_eq_some_iff.1 hj).1
    have h2 := hcell j (by simp at hj'; omega)
    rw [plain_add] at h2
    rw [h2]
    rw [List.getElem?_take] at hj
    split at hj
    · simp [List.getD_eq_getElem?_getD, hj]
    · cases hj
end
theorem cells_int : Try.prog.cellsOf 3 = 1 := by kernel_rfl
end Go.Proofs.Ytgfdpilgonpokaa
