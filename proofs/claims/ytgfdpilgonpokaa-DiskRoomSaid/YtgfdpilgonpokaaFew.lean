/- few: at most 50 calls, of 300 bytes each? -/
import Derived.Test.YtgfdpilgonpokaaDeeds
import Derived.Test.YtgfdpilgonpokaaOwn
namespace Go.Proofs.Ytgfdpilgonpokaa
open Go.ChangeShapes Go.WideShapes Go.ChangeAt Go.RowKit Go.BigFrame
set_option linter.unusedVariables false
def small (x : De) : Bool := decide (x.name.size ≤ 300) && decide (x.b.size ≤ 300)
theorem few_bad {l : List De} {k : Nat} (hk : k < l.length) (h : small l[k] = false) : few l = false := by
  unfold few
  have : l.all (fun x => decide (x.name.size ≤ 300) && decide (x.b.size ≤ 300)) = false := by
    rw [Bool.eq_false_iff]
    intro ha
    rw [List.all_eq_true] at ha
    have := ha _ (List.getElem_mem hk)
    unfold small at h
    rw [h] at this; cases this
  rw [this]; rfl
theorem few_end {l : List De} (h : l.all small = true) : few l = decide (l.length ≤ 50) := by
  unfold few
  have : l.all (fun x => decide (x.name.size ≤ 300) && decide (x.b.size ≤ 300)) = true := h
  rw [this]; rfl
theorem few_next {l : List De} {k : Nat} (hk : k < l.length) (h : small l[k] = true) (ha : (l.take k).all small = true) : (l.take (k + 1)).all small = true := by
  rw [List.take_add_one, List.all_append, ha, List.getElem?_eq_getElem hk]
  simp [h]
theorem few_out {l : List De} (h : few l = true) : l.length ≤ 50 ∧ ∀ x ∈ l, x.name.size ≤ 300 ∧ x.b.size ≤ 300 := by
  unfold few at h
  simp only [Bool.and_eq_true, decide_eq_true_eq, List.all_eq_true] at h
  exact ⟨h.2, h.1⟩
set_option maxRecDepth 100000 in
set_option maxHeartbeats 1000000 in
theorem few_any (w : World) (A : Option Addr) (l : List De) (c : Nat) (hD : Deeds w A l) (hc : l.length ≤ c) (hm : c ≤ 9223372036854775807) :
    Calls Try.prog 9 #[.slice A l.length c] w fun e w' => e = .returned (.bool (few l)) ∧ w = w' := by
  have HD := Lib.hid hD; clear hD
  go_enter Try.func9, Try.ntmps9
  go_wp2
  go_loop [3] (fun i => ∃ k : Nat, k ≤ l.length ∧ i = .int .i64 k ∧ (l.take k).all small = true) (fun i => l.length - (intOf i).toNat)
  case atStart => exact ⟨0, Nat.zero_le _, rfl, rfl⟩
  case round =>
    obtain ⟨k, hk, rfl, hall⟩ := hrel
    have HA := Lib.hid hall; clear hall
    by_cases hlt : k < l.length
    · obtain ⟨b, off, hA, hbl, hci⟩ := HD.out.2 (by omega)
      subst hA
      obtain ⟨hc0, hc1, hc2, hc3, hc4⟩ := hci k l[k] (List.getElem?_eq_getElem hlt)
      have hok := (HD.out.1 l[k] (List.getElem_mem hlt)).1
      have hn1 := hok.name
      have hn2 := hok.b
      obtain ⟨x, hx⟩ : ∃ x, x = l[k] := ⟨_, rfl⟩
      rw [← hx] at hc0 hc1 hc2 hc3 hc4 hn1 hn2
      have HK := Lib.hid hx; clear hx hok hci hc0 hc3 hc4
      by_cases hb : 300 < x.name.size
      · go_wp2
        go_ret
        exact ⟨congrArg (fun b => Ending.returned (.bool b)) (few_bad hlt (by rw [← HK.out]; simp [small]; omega)).symm, rfl⟩
      · by_cases hb2 : 300 < x.b.size
        · go_wp2
          go_ret
          exact ⟨congrArg (fun b => Ending.returned (.bool b)) (few_bad hlt (by rw [← HK.out]; simp [small]; omega)).symm, rfl⟩
        · go_wp2
          go_round
          case rel => exact ⟨k + 1, by omega, by go_num, few_next hlt (by rw [← HK.out]; simp [small]; omega) HA.out⟩
          case measure => simp [intOf]; omega
    · go_wp2
      go_ret
      have ha := HA.out
      rw [List.take_of_length_le (by omega)] at ha
      exact ⟨congrArg (fun b => Ending.returned (.bool b)) (by rw [few_end ha]; simp; omega), rfl⟩
end Go.Proofs.Ytgfdpilgonpokaa
