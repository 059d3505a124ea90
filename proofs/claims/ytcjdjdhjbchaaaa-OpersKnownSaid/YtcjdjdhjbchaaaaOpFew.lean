/- few: are there at most 4 rows of 60 records? -/
import Derived.Test.YtcjdjdhjbchaaaaCa25
namespace Go.Proofs.Ytcjdjdhjbchaaaa
namespace Op
open Go.ChangeShapes Go.WideShapes Go.ChangeAt Go.RowKit Go.BigFrame Vr
set_option linter.unusedVariables false
set_option maxRecDepth 100000
set_option maxHeartbeats 2000000 in
theorem few_any (A : Option Addr) (L : List Rr) (c : Nat) (w : World) (hR : RowsIn w A L) : Calls Try.prog 12 #[.slice A L.length c] w fun e w' => ∃ b, e = .returned (.bool b) ∧ (b = true → L.length ≤ 4 ∧ ∀ q ∈ L, q.ts.length ≤ 60) ∧ Below w.heap.size w w' := by
  have HR := Lib.hid hR; clear hR
  by_cases h4 : 4 < L.length
  · have h4z : (4 : Int) < (L.length : Int) := by omega
    have d4 : decide ((4 : Int) < (L.length : Int)) = true := decide_eq_true h4z
    have d5 : decide ((L.length : Int) > 4) = true := decide_eq_true h4z
    go_enter Try.func12, Try.ntmps12
    go_wp2_with fail
    go_ret
    exact ⟨false, rfl, fun e => (by cases e), Below.refl _ _⟩
  · have h4z : ¬ (4 : Int) < (L.length : Int) := by omega
    have d4 : decide ((4 : Int) < (L.length : Int)) = false := decide_eq_false h4z
    have d5 : decide ((L.length : Int) > 4) = false := decide_eq_false h4z
    have hl4 : L.length ≤ 4 := by omega
    clear h4
    go_enter Try.func12, Try.ntmps12
    go_wp2_with fail
    go_loopw [3] (fun vi wr => ∃ i : Nat, i ≤ L.length ∧ vi = .int .i64 i ∧ (∀ q ∈ L.take i, q.ts.length ≤ 60) ∧ Below w.heap.size w wr) (fun vi _ => L.length - (intOf vi).toNat)
    case atStart => exact ⟨0, by omega, rfl, by simp, Below.refl _ _⟩
    case round =>
      obtain ⟨i, hi, rfl, hq, hb⟩ := hrel
      have HQ := Lib.hid hq; have HB := Lib.hid hb; clear hq hb
      by_cases hlt : i < L.length
      · have hltz : (i : Int) < (L.length : Int) := by omega
        obtain ⟨r, hr⟩ : ∃ r, L[i]? = some r := ⟨_, List.getElem?_eq_getElem hlt⟩
        obtain ⟨b, o, rfl, hbl, hc⟩ := HR.out.at_ hr
        have q0 := hc wr HB.out
        have HX := Lib.hid hr; clear hr hc
        by_cases h6 : 60 < r.ts.length
        · have z0 : (60 : Int) < (r.ts.length : Int) := by omega
          have z1 : decide ((60 : Int) < (r.ts.length : Int)) = true := decide_eq_true z0
          have z2 : decide ((r.ts.length : Int) > 60) = true := decide_eq_true z0
          go_wp2_with fail
          go_ret
          exact ⟨false, rfl, fun e => (by cases e), HB.out⟩
        · have z0 : ¬ (60 : Int) < (r.ts.length : Int) := by omega
          have z1 : decide ((60 : Int) < (r.ts.length : Int)) = false := decide_eq_false z0
          have z2 : decide ((r.ts.length : Int) > 60) = false := decide_eq_false z0
          have h60 : r.ts.length ≤ 60 := by omega
          go_wp2_with fail
          go_roundw
          case rel => exact ⟨i + 1, by omega, by simp, by rw [List.take_add_one, HX.out]; intro q hq; rcases List.mem_append.1 hq with h | h; exact HQ.out q h; simp at h; rw [h]; exact h60, HB.out⟩
          case measure => simp only [intOf]; omega
      · have hil : i = L.length := by omega
        subst hil
        have hq := HQ.out
        rw [List.take_length] at hq
        have HQ2 := Lib.hid hq; clear hq
        go_wp2_with fail
        go_ret
        exact ⟨true, rfl, fun _ => ⟨hl4, HQ2.out⟩, HB.out⟩
end Op
end Go.Proofs.Ytcjdjdhjbchaaaa
