/- A disk that is only appended to: its room. -/
import Derived.Test.YtgfdpilgonpokaaWorks
namespace Go.Proofs.Ytgfdpilgonpokaa
open Go.ChangeShapes Go.WideShapes Go.ChangeAt Go.RowKit Go.BigFrame
set_option linter.unusedVariables false
def rightB (s : ByteArray) : Bool := decide (1 ≤ s.size) && decide (s.size ≤ 128)
theorem look_right {s : ByteArray} : lookE false [s] = if rightB s then 0 else 2 := by
  have e : rightB s = okName s := by
    rw [Bool.eq_iff_iff]
    simp [rightB, okName]
  simp [lookE, e]
/-- on, not armed, so many deeds at most -/
structure Roomy (q : Nat) (n : Nat) (d : DM) : Prop where
  room : d.room = q
  off : d.off = false
  fuse : d.fuse = 0
  sort : SortF d.fs
  used : usedF d.fs ≤ q
  deeds : d.deeds ≤ n
theorem room_new (q : Nat) : Roomy q 0 (newD ((q : Nat) : Int)) := ⟨by show (max ((q : Nat) : Int) 0).toNat = q; omega, rfl, rfl, List.Pairwise.nil, by simp [newD, usedF], Nat.le_refl _⟩
section
variable {q n : Nat} {d : DM} {s : ByteArray} {bs : List Nat}
theorem room_arg (h : Roomy q n d) (hs : rightB s = false) : appE d s bs.length = 2 ∧ appD d s bs = d := by
  unfold appE appD
  rw [h.off, look_right, hs]
  simp
theorem room_full (h : Roomy q n d) (hs : rightB s = true) (hq : q ≤ 65535) (hb : bs.length ≤ 300) (hf : q < usedF d.fs + bs.length) : appE d s bs.length = 31 ∧ appD d s bs = d := by
  have h1 := lenF_le (n := s.data.toList) h.sort
  have h2 := h.used
  unfold appE appD
  rw [h.off, look_right, hs, h.room]
  simp only [if_true, ne_eq, not_true_eq_false, if_false, if_neg (show ¬ 8388608 < lenF s.data.toList d.fs + bs.length by omega), if_pos hf, and_self]
theorem room_ok (h : Roomy q n d) (hs : rightB s = true) (hq : q ≤ 65535) (hb : bs.length ≤ 300) (hf : usedF d.fs + bs.length ≤ q) :
    appE d s bs.length = 0 ∧ usedF (appD d s bs).fs = usedF d.fs + bs.length ∧ (appD d s bs).deeds = d.deeds + 1 ∧ Roomy q (n + 1) (appD d s bs) := by
  have h1 := lenF_le (n := s.data.toList) h.sort
  have hfu : ¬ d.fuse = 1 := by rw [h.fuse]; decide
  have hu := usedF_append (n := s.data.toList) (bs := bs) h.sort
  have hE : appE d s bs.length = 0 := by
    unfold appE
    rw [h.off, look_right, hs, h.room]
    simp only [if_true, ne_eq, not_true_eq_false, if_false, if_neg (show ¬ 8388608 < lenF s.data.toList d.fs + bs.length by omega), if_neg (show ¬ q < usedF d.fs + bs.length by omega), if_neg hfu]
  have hD : appD d s bs = { d.tick with fs := appendF s.data.toList bs d.fs } := by
    unfold appD
    rw [h.off, look_right, hs, h.room]
    simp only [if_true, ne_eq, not_true_eq_false, if_false, if_neg (show ¬ 8388608 < lenF s.data.toList d.fs + bs.length by omega), if_neg (show ¬ q < usedF d.fs + bs.length by omega)]
  have hT : d.tick = { d with deeds := d.deeds + 1, fuse := d.fuse - 1 } := by unfold DM.tick; rw [if_neg hfu]
  refine ⟨hE, ?_, ?_, ?_⟩
  · rw [hD]; exact hu
  · rw [hD, hT]
  · rw [hD, hT]
    exact ⟨h.room, h.off, by show d.fuse - 1 = 0; rw [h.fuse], SortF.put h.sort, by show usedF (appendF _ _ _) ≤ q; rw [hu]; exact hf, by show d.deeds + 1 ≤ n + 1; have := h.deeds; omega⟩
end
end Go.Proofs.Ytgfdpilgonpokaa
