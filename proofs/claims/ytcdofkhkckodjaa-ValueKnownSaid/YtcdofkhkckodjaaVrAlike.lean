/- The document's Alike. -/
import Derived.Test.YtcdofkhkckodjaaVrCmp
namespace Go.Proofs.Ytcdofkhkckodjaa
namespace Vr
open Go.ChangeShapes Go.WideShapes Go.ChangeAt Go.RowKit Go.BigFrame
set_option linter.unusedVariables false
set_option maxRecDepth 100000
/-- are two rows one? -/
def sameR (l m : List Rd) : Bool := decide (l = m)
theorem sameR_yes {l m : List Rd} (h : l = m) : true = sameR l m := (decide_eq_true h).symm
theorem sameR_no {l m : List Rd} (h : l ≠ m) : false = sameR l m := (decide_eq_false h).symm
theorem sameR_self (l : List Rd) : sameR l l = true := decide_eq_true rfl
theorem sameR_iff {l m : List Rd} : sameR l m = true ↔ l = m := decide_eq_true_iff
set_option maxHeartbeats 2000000 in
theorem alike_any (A B : Option Addr) (l m : List Rd) (c d : Nat) (w : World) (hA : Rw.Ts kindR w A l) (hB : Rw.Ts kindR w B m) (hl : l.length ≤ 1000000) (hm : m.length ≤ 1000000) :
    Calls Try.prog 13 #[.slice A l.length c, .slice B m.length d] w fun e w' => e = .returned (.bool (sameR l m)) ∧ Below w.heap.size w w' := by
  have HA := Lib.hid hA; have HB := Lib.hid hB; clear hA hB
  by_cases hlm : l.length = m.length
  · have hz : ((l.length : Int) != (m.length : Int)) = false := by simp; omega
    have HLM := Lib.hid hlm
    go_enter Try.func13, Try.ntmps13
    go_wp2_with fail
    go_loopw [5] (fun i wr => ∃ k : Nat, k ≤ l.length ∧ i = .int .i64 k ∧ Below w.heap.size w wr ∧ l.take k = m.take k) (fun i _ => l.length - (intOf i).toNat)
    case atStart => exact ⟨0, by omega, rfl, Below.refl _ _, rfl⟩
    case round =>
      obtain ⟨k, hk, rfl, hb, hall⟩ := hrel
      have HE := Lib.hid hall; have HBW := Lib.hid hb; clear hall hb hz
      by_cases hlt : k < l.length
      · have hltz : (k : Int) < (l.length : Int) := by omega
        have hltm : (k : Int) < (m.length : Int) := by omega
        obtain ⟨x, hx⟩ : ∃ x, l[k]? = some x := ⟨_, List.getElem?_eq_getElem hlt⟩
        obtain ⟨y, hy⟩ : ∃ y, m[k]? = some y := ⟨_, List.getElem?_eq_getElem (by omega)⟩
        obtain ⟨b, o, rfl, hbl, hcl⟩ := recs_at HA.out hx
        obtain ⟨b', o', rfl, hbl', hcl'⟩ := recs_at HB.out hy
        obtain ⟨c0, c1⟩ := hcl wr HBW.out
        obtain ⟨d0, d1⟩ := hcl' wr HBW.out
        have he := run_eqR x y
        have HX := Lib.hid hx; have HY := Lib.hid hy; clear hx hcl hy hcl' hlm
        by_cases hxy : x = y
        · have he' : ∀ w, (Op.equalIn 10000 32 (.agg #[.int .i64 x.k, .int .i64 x.v]) (.agg #[.int .i64 y.k, .int .i64 y.v])).run Try.prog w = .ok true w := fun w => by rw [he, decide_eq_true hxy]
          have HXY := Lib.hid hxy; clear he hxy
          go_wp2_with fail
          go_region
          go_wp2_with fail
          go_roundw
          case rel => exact ⟨k + 1, by omega, by simp, HBW.out.drew, by rw [List.take_add_one, List.take_add_one, HX.out, HY.out, HE.out, HXY.out]⟩
          case measure => simp only [intOf]; omega
        · have he' : ∀ w, (Op.equalIn 10000 32 (.agg #[.int .i64 x.k, .int .i64 x.v]) (.agg #[.int .i64 y.k, .int .i64 y.v])).run Try.prog w = .ok false w := fun w => by rw [he, decide_eq_false hxy]
          have HXY := Lib.hid hxy; clear he hxy
          go_wp2_with fail
          go_region
          go_wp2_with fail
          go_ret
          exact ⟨retb (sameR_no fun e => by have h := HX.out; rw [e, HY.out] at h; exact HXY.out (Option.some.inj h).symm), HBW.out.drew⟩
      · have hltz : ¬ (k : Int) < (l.length : Int) := by omega
        have hkl : k = l.length := by omega
        subst hkl
        have HR : Hid (true = sameR l m) := Lib.hid (sameR_yes (by have h := HE.out; rw [List.take_length, List.take_of_length_le (by omega)] at h; exact h))
        clear hlm
        go_wp2_with fail
        go_ret
        exact ⟨retb HR.out, HBW.out⟩
  · have hz : ((l.length : Int) != (m.length : Int)) = true := by simp; omega
    have HLM := Lib.hid hlm; clear hlm
    go_enter Try.func13, Try.ntmps13
    go_wp2_with fail
    go_ret
    exact ⟨retb (sameR_no fun e => HLM.out (by rw [e])), Below.refl _ _⟩
end Vr
end Go.Proofs.Ytcdofkhkckodjaa
