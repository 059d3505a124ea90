/- A disk of one file. -/
import Derived.Test.YtgfdpilgonpokaaWorks
namespace Go.Proofs.Ytgfdpilgonpokaa
open Go.ChangeShapes Go.WideShapes Go.ChangeAt Go.RowKit Go.BigFrame Go.Maps Go.Sort
set_option linter.unusedVariables false
abbrev sf : ByteArray := ⟨#[102]⟩
def oneD (b : List Nat) (sure : Nat) (made : Bool) (deeds : Nat) (off : Bool) : DM := ⟨100000, [([102], ⟨b, sure, made⟩)], deeds, off, 0⟩
section
variable {b bs : List Nat} {s dd : Nat} {md off : Bool}
theorem one_look : lookE false [sf] = 0 := by kernel_rfl
theorem one_get : getF sf.data.toList (oneD b s md dd off).fs = some ⟨b, s, md⟩ := by simp [oneD, getF]
theorem one_len : lenF sf.data.toList (oneD b s md dd off).fs = b.length := by unfold lenF; rw [one_get]
theorem one_used : usedF (oneD b s md dd off).fs = b.length := by simp [oneD, usedF]
theorem one_put {y : Fil} : putF sf.data.toList y (oneD b s md dd off).fs = [([102], y)] := by simp [oneD, putF, delF, insF]
theorem one_app0 (h : bs.length ≤ 100000) : appE (newD 100000) sf bs.length = 0 ∧ appD (newD 100000) sf bs = oneD bs 0 false 1 false := by
  have h1 : lookE (newD 100000).off [sf] = 0 := one_look
  have h2 : lenF sf.data.toList (newD 100000).fs = 0 := by kernel_rfl
  have h3 : usedF (newD 100000).fs = 0 := by kernel_rfl
  have h4 : (newD 100000).room = 100000 := by kernel_rfl
  have h5 : ¬ (newD 100000).fuse = 1 := by decide
  unfold appE appD
  rw [h1, h2, h3, h4]
  simp only [ne_eq, not_true_eq_false, if_false, if_neg (show ¬ 8388608 < 0 + bs.length by omega), if_neg (show ¬ 100000 < 0 + bs.length by omega), if_neg h5, true_and]
  unfold DM.tick
  rw [if_neg h5]
  simp [newD, appendF, putF, delF, insF, getF, appF, newF, oneD]
  rfl
theorem one_app (h : b.length + bs.length ≤ 100000) : appE (oneD b s md dd false) sf bs.length = 0 ∧ appD (oneD b s md dd false) sf bs = oneD (b ++ bs) s md (dd + 1) false := by
  have h1 : lookE (oneD b s md dd false).off [sf] = 0 := one_look
  have h5 : ¬ (oneD b s md dd false).fuse = 1 := by simp [oneD]
  unfold appE appD
  rw [h1, one_len, one_used]
  have h4 : (oneD b s md dd false).room = 100000 := rfl
  rw [h4]
  simp only [ne_eq, not_true_eq_false, if_false, if_neg (show ¬ 8388608 < b.length + bs.length by omega), if_neg (show ¬ 100000 < b.length + bs.length by omega), if_neg h5, true_and]
  unfold DM.tick
  rw [if_neg h5]
  unfold appendF
  rw [one_put, one_get]
  simp [oneD, appF]
theorem one_find : findE (oneD b s md dd false) sf [] = 0 := by
  have h1 : lookE (oneD b s md dd false).off [sf] = 0 := one_look
  unfold findE noneE
  rw [h1, one_get]; simp
theorem one_sync : syncE (oneD b s md dd false) sf = 0 ∧ syncD (oneD b s md dd false) sf = oneD b b.length true (dd + 1) false := by
  have h5 : ¬ (oneD b s md dd false).fuse = 1 := by simp [oneD]
  unfold syncE syncD deedE DM.deed syncF
  rw [one_find]
  simp only [if_true, if_neg h5, true_and]
  have hg := one_get (b := b) (s := s) (md := md) (dd := dd) (off := false)
  cases hh : getF sf.data.toList (oneD b s md dd false).fs with
  | none => rw [hh] at hg; cases hg
  | some x =>
    rw [hh] at hg; cases hg
    simp [oneD, cutF, putF, delF, insF]
theorem one_crash : crashD (oneD b s md dd off) = oneD b s md dd true := by simp [crashD, oneD]
theorem one_on (keep : Int) : onD (oneD b s true dd true) [keep] = oneD (b.take (s + (keep % ((b.length - s : Nat) + 1)).toNat)) (s + (keep % ((b.length - s : Nat) + 1)).toNat) true dd false := by
  simp [onD, oneD, onF, stays, stay1, stayN, wishOf, cutF]
theorem one_read : readB (oneD b s md dd false) sf = b := by
  unfold readB
  rw [one_find]
  have hg := one_get (b := b) (s := s) (md := md) (dd := dd) (off := false)
  cases hh : getF sf.data.toList (oneD b s md dd false).fs with
  | none => rw [hh] at hg; cases hg
  | some x => rw [hh] at hg; cases hg; rfl
end
end Go.Proofs.Ytgfdpilgonpokaa
