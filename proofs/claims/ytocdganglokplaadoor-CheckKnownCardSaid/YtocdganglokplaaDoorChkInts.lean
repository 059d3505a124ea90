/- SameInts; how great a graph is, as the laws ask it. -/
import Derived.Test.YtocdganglokplaaDoorChkMath
import Derived.Test.YtocdganglokplaaDoorGrKit
import Derived.RegionTactic
import Derived.BigRegion
import Derived.ChangeAlike
namespace Go.Proofs.YtocdganglokplaaDoor
open Go.ChangeShapes Go.WideShapes Go.ChangeAt Go.RowKit Go.BigFrame
set_option linter.unusedVariables false
set_option maxRecDepth 100000
theorem insB_nds {l : List Gn} {T : Nat} (h : insB (nds l) (T : Int) = true) : l.length ≤ T ∧ ∀ x ∈ nds l, x.ins.length ≤ T := by
  unfold insB at h
  rw [decide_eq_true_iff, nds_len] at h
  exact ⟨by omega, fun x hx => by have := h.2 x hx; omega⟩
set_option maxHeartbeats 2000000 in
/-- a row of numbers and the same one -/
theorem sameInts_self (A B : Option Addr) (xs : List Int) (c d : Nat) (w : World) (hA : Rw.Ts kindI w A xs) (hB : Rw.Ts kindI w B xs) (h1 : xs.length ≤ maxLen) :
    Calls Tryd.prog 19 #[.slice A xs.length c, .slice B xs.length d] w fun e w' => e = .returned (.bool true) ∧ Below w.heap.size w w' := by
  unfold maxLen at h1
  have HA := Lib.hid hA; have HB := Lib.hid hB; clear hA hB
  go_enter Tryd.func19, Tryd.ntmps19
  go_wp2_with fail
  go_loopw [5] (fun i wx => ∃ p : Nat, p ≤ xs.length ∧ i = .int .i64 p ∧ Below w.heap.size w wx) (fun i _ => xs.length - (intOf i).toNat)
  case atStart => exact ⟨0, by omega, rfl, Below.refl _ _⟩
  case round =>
    obtain ⟨p, hp, rfl, hbx⟩ := hrel
    have HBX := Lib.hid hbx; clear hbx
    by_cases hlp : p < xs.length
    · have hpz : (p : Int) < (xs.length : Int) := by omega
      obtain ⟨z, hz1⟩ : ∃ z, xs[p]? = some z := ⟨_, List.getElem?_eq_getElem hlp⟩
      obtain ⟨bb, oo, rfl, _, hq1⟩ := ints_at HA.out hz1
      obtain ⟨bb', oo', rfl, _, hq2⟩ := ints_at HB.out hz1
      have q1 := hq1 wr HBX.out
      have q2 := hq2 wr HBX.out
      clear hz1 hq1 hq2
      go_wp2_with fail
      go_region
      go_wp2_with fail
      go_roundw
      case rel => exact ⟨p + 1, by omega, by simp, HBX.out.drew⟩
      case measure => simp only [intOf]; omega
    · have hpz : ¬ (p : Int) < (xs.length : Int) := by omega
      go_wp2_with fail
      go_ret
      exact ⟨rfl, HBX.out⟩
end Go.Proofs.YtocdganglokplaaDoor
