/- The document's Stays; strings that came in. -/
import Derived.Test.YtgfdpilgonpokaaOneF
import Derived.Test.YtgfdpilgonpokaaLaw
import Derived.SizedLaws
import Derived.SliceStrings
import Derived.ChangeMaps5
namespace Go.Proofs.Ytgfdpilgonpokaa
open Go.ChangeShapes Go.WideShapes Go.ChangeAt Go.RowKit Go.BigFrame
set_option linter.unusedVariables false
section
variable {w w' : World}
/-- Stays of one wish -/
theorem stays_any (b : Nat) (keep : Int) (u : Nat) (hk : -9223372036854775808 ≤ keep ∧ keep ≤ 9223372036854775807) (hu : u ≤ 100000) (hc : w.cell? ⟨b, 0, none⟩ = some (.int .i64 keep)) :
    Calls Try.prog 22 #[.slice (some ⟨b, 0, none⟩) 1 1, .int .i64 0, .int .i64 (u : Nat)] w fun e w' => e = .returned (.int .i64 (keep % ((u : Int) + 1))) ∧ w = w' := by
  obtain ⟨hk1, hk2⟩ := hk
  have t1 : keep.tmod ((u : Int) + 1) < (u : Int) + 1 := Int.tmod_lt_of_pos _ (by omega)
  have t2 : -((u : Int) + 1) < keep.tmod ((u : Int) + 1) := by have := Int.lt_tmod_of_pos keep (show 0 < (u : Int) + 1 by omega); omega
  have e1 : keep % ((u : Int) + 1) = if keep.tmod ((u : Int) + 1) < 0 then keep.tmod ((u : Int) + 1) + (u : Int) + 1 else keep.tmod ((u : Int) + 1) := by
    have h0 : keep % ((u : Int) + 1) = (keep.tmod ((u : Int) + 1)) % ((u : Int) + 1) := by rw [Int.tmod_def, Int.sub_mul_emod_self_left]
    rw [h0]
    generalize keep.tmod ((u : Int) + 1) = t at t1 t2
    by_cases hn : t < 0
    · rw [if_pos hn, ← Int.add_emod_right, Int.emod_eq_of_lt (by omega) (by omega)]; omega
    · rw [if_neg hn, Int.emod_eq_of_lt (by omega) (by omega)]
  have E1 := Lib.hid e1; clear e1
  by_cases hn : keep.tmod ((u : Int) + 1) < 0
  · have e2 : keep % ((u : Int) + 1) = keep.tmod ((u : Int) + 1) + (u : Int) + 1 := by rw [E1.out, if_pos hn]
    rw [e2]
    clear e2 E1
    go_enter Try.func22, Try.ntmps22
    go_wp2
    go_ret
    exact ⟨rfl, rfl⟩
  · have e2 : keep % ((u : Int) + 1) = keep.tmod ((u : Int) + 1) := by rw [E1.out, if_neg hn]
    rw [e2]
    clear e2 E1
    go_enter Try.func22, Try.ntmps22
    go_wp2
    go_ret
    exact ⟨rfl, rfl⟩
/-- a slice of strings -/
def Strs (w : World) (A : Option Addr) (ss : List ByteArray) : Prop :=
  (∀ s ∈ ss, s.size ≤ 9223372036854775807) ∧ (0 < ss.length → ∃ b off, A = some ⟨b, off, none⟩ ∧ b < w.heap.size ∧ ∀ (j : Nat) (s : ByteArray), ss[j]? = some s → w.cell? ⟨b, off + j, none⟩ = some (.string s))
theorem Strs.below {A : Option Addr} {ss : List ByteArray} (h : Strs w A ss) (hb : Below w.heap.size w w') : Strs w' A ss :=
  ⟨h.1, fun h0 => by
    obtain ⟨b, off, e, hlt, hc⟩ := h.2 h0
    exact ⟨b, off, e, Nat.lt_of_lt_of_le hlt hb.size, fun j s hj => (World.cell?_of_block (hb.block b hlt)).trans (hc j s hj)⟩⟩
theorem plain_addr {a : Addr} {v : Value} (h : w.cell? a = some v) : ∃ b off, a = ⟨b, off, none⟩ := by
  obtain ⟨b, off, spot⟩ := a
  cases spot with
  | none => exact ⟨b, off, rfl⟩
  | some q =>
    exfalso
    unfold World.cell? at h
    cases hh : w.heap[b]? with
    | none => simp [hh] at h
    | some o => cases o <;> simp [hh] at h
theorem plain_add {b off j : Nat} : (⟨b, off, none⟩ : Addr).add j = ⟨b, off + j, none⟩ := by
  cases j <;> simp [Addr.add]
end
section
variable {H : Type} {enc : TypeId × Value → H} {P : Program}
theorem open_strs {t e : TypeId} (ht : P.underlying t = some (.slice e)) (he : P.underlying e = some .string) (hc : P.cellsOf e = 1) {W : World} {base : Nat} {v : Value} {d : DataW H} {p : List MemPlace}
    (hok : Value.okWide P W .any base t v) (h : DataW.Trod enc P W 0 (fun _ => true) true t v d p) :
    ∃ (A : Option Addr) (ss : List ByteArray) (c : Nat), v = .slice A ss.length c ∧ Strs W A ss ∧ ss.length ≤ c ∧ c ≤ 9223372036854775807 ∧ (A = none → c = 0) := by
  obtain ⟨A, len, cap, rfl⟩ := okWide_slice ht hok
  obtain ⟨fuel, hf⟩ := h
  rcases open_strings ht he hc hf with ⟨hcs, _⟩ | ⟨a, len', cap', ss, hcs, _, hl, hm, hz, _, hcell, hsz⟩
  · simp [Value.cells] at hcs
    obtain ⟨rfl, rfl, rfl⟩ := hcs
    exact ⟨none, [], 0, rfl, ⟨by simp, by simp⟩, by simp, by simp, fun _ => rfl⟩
  · simp [Value.cells] at hcs
    obtain ⟨rfl, rfl, rfl⟩ := hcs
    simp only [if_true] at hz
    have hlen : (ss.take len).length = len := by simp; omega
    refine ⟨some a, ss.take len, cap, by rw [hlen], ⟨fun s hs => ?_, fun h0 => ?_⟩, by omega, by unfold maxLen at hm; exact hm, by simp⟩
    · have := hsz s (List.mem_of_mem_take hs); unfold maxLen at this; exact this
    · have h1 := hcell 0 (by omega)
      have hlt := cell_lt h1
      rw [add_block] at hlt
      obtain ⟨b, off, rfl⟩ : ∃ b off, a = ⟨b, off, none⟩ := by
        obtain ⟨b, off, e⟩ := plain_addr h1
        obtain ⟨b', off', spot⟩ := a
        simp [Addr.add] at e
        exact ⟨b', off', by rw [e.2.2]⟩
      refine ⟨b, off, rfl, hlt, fun j s hj => ?_⟩
      have hj' := (List.getElem?_eq_some_iff.1 hj).1
      have h2 := hcell j (by simp at hj'; omega)
      rw [plain_add] at h2
      rw [h2]
      rw [List.getElem?_take] at hj
      split at hj
      · simp [List.getD_eq_getElem?_getD, hj]
      · cases hj
end
theorem cells_str : Try.prog.cellsOf 9 = 1 := by kernel_rfl
theorem i64_wf {n : Int} (h : (Lit.int .i64 n).wf = true) : -9223372036854775808 ≤ n ∧ n ≤ 9223372036854775807 := by
  simpa [Lit.wf, IntKind.min, IntKind.max, IntKind.signed, IntKind.bits] using h
theorem i16_wf {n : Int} (h : (Lit.int .i16 n).wf = true) : -32768 ≤ n ∧ n ≤ 32767 := by
  simpa [Lit.wf, IntKind.min, IntKind.max, IntKind.signed, IntKind.bits] using h
end Go.Proofs.Ytgfdpilgonpokaa
