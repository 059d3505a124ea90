/- The document's rest of a row of bytes, and what is read of it. -/
import Derived.Test.YtmliiglhglhjkaaReadNum
import Derived.Test.YtmliiglhglhjkaaConv
namespace Go.Proofs.Ytmliiglhglhjkaa
open Go.ChangeShapes Go.WideShapes Go.ChangeAt Go.RowKit Go.BigFrame
set_option linter.unusedVariables false
theorem strOf_take (ys : List Nat) (k : Nat) : (strOf ys).extract 0 k = strOf (ys.take k) := by
  apply ByteArray.ext
  apply Array.ext'
  simp [strOf, strOfNums_data, List.map_take]
theorem strOf_drop (ys : List Nat) (k : Nat) : (strOf ys).extract k (strOf ys).size = strOf (ys.drop k) := by
  apply ByteArray.ext
  apply Array.ext'
  rw [strOf_size]
  simp [strOf, strOfNums_data, List.map_drop]
  rw [List.take_of_length_le (by simp)]
/-- block q holds a rest: these bytes, spoilt or not -/
def IsRest (w : World) (q : Nat) (ys : List Nat) (sp : Bool) : Prop := Row w q 37 [.string (strOf ys), .bool sp]
theorem IsRest.below {w w' : World} {q : Nat} {ys : List Nat} {sp : Bool} (h : IsRest w q ys sp) (hb : Below w.heap.size w w') : IsRest w' q ys sp := by
  have := Row.lt h
  exact Row.below h hb this
theorem IsRest.other {w w' : World} {q r : Nat} {ys : List Nat} {sp : Bool} (h : IsRest w q ys sp) (hg : w.grownBy w' (some r)) (hne : q ≠ r) : IsRest w' q ys sp :=
  Row.grown h hg (by intro e; injection e with e; exact hne e)
theorem rest_next (q : Nat) (ys : List Nat) (sp : Bool) (n : Int) (w : World) (hR : IsRest w q ys sp) (hy : ys.length ≤ 100000) :
    Calls Try.prog 17 #[.pointer (some ⟨q, 0, none⟩), .int .i64 n] w fun e w' => e = .returned (.string (strOf (M.out n ys sp))) ∧ IsRest w' q (M.rest n ys sp) (M.spoil n ys sp) ∧ w.grownBy w' (some q) := by
  have hc0 := Row.cell hR 0
  have hc1 := Row.cell hR 1
  simp only [List.getElem?_cons_succ, List.getElem?_cons_zero] at hc0 hc1
  have hf0 := Row.free hR 0
  have hf1 := Row.free hR 1
  have hsz := strOf_size ys
  have hbd : ∀ w' : World, (Instr.build 37 #[(1, .bool true)]).run Try.prog w' = .ok (.agg #[.string ⟨#[]⟩, .bool true]) w' := fun w' => run_build w' _ _ _ (by kernel_rfl)
  have hr2 := (Row.put hR 0 (.string ⟨#[]⟩)).put 1 (.bool true)
  have hg2 := grown_trans (grown_setCell w ⟨q, 0, none⟩ (.string ⟨#[]⟩)) (grown_setCell (w.setCell ⟨q, 0, none⟩ (.string ⟨#[]⟩)) ⟨q, 1, none⟩ (.bool true))
  cases sp with
  | true =>
    rw [show M.out n ys true = [] from rfl, show M.rest n ys true = [] from rfl, show M.spoil n ys true = true from rfl]
    have H := Lib.hid (And.intro hr2 hg2); clear hr2 hg2 hR
    generalize strOf ys = s at *
    go_enter Try.func17, Try.ntmps17
    go_wp2_with fail
    go_ret
    exact ⟨rfl, H.out.1, H.out.2⟩
  | false =>
    by_cases hin : 0 ≤ n ∧ n ≤ ys.length
    · obtain ⟨k, rfl⟩ := Int.eq_ofNat_of_zero_le hin.1
      have hk : k ≤ ys.length := by omega
      have htk : M.took (k : Nat) ys false = true := by unfold M.took; simp; omega
      rw [show M.out (k : Nat) ys false = ys.take k by unfold M.out; rw [htk]; rfl, show M.rest (k : Nat) ys false = ys.drop k by unfold M.rest; rw [htk]; rfl, show M.spoil (k : Nat) ys false = false by unfold M.spoil; rw [htk]; rfl]
      have ht : decide ((k : Int) < 0) = false := by simp
      have ht2 : decide ((ys.length : Int) < (k : Int)) = false := by simp; omega
      have hk2 : k ≤ (strOf ys).size := by rw [strOf_size]; exact hk
      have hy2 : (strOf ys).size ≤ 100000 := by rw [strOf_size]; exact hy
      rw [← strOf_take]
      rw [← hsz] at ht2
      have hr3 := Row.put hR 0 (.string (strOf (ys.drop k)))
      rw [← strOf_drop] at hr3
      have hg3 := grown_setCell w ⟨q, 0, none⟩ (.string (strOf (ys.drop k)))
      rw [← strOf_drop] at hg3
      have H := Lib.hid (And.intro hr3 hg3); clear hr2 hg2 hr3 hg3 hbd
      unfold IsRest
      rw [← strOf_drop]
      clear hR hsz
      generalize strOf ys = s at *
      go_enter Try.func17, Try.ntmps17
      go_wp2_with fail
      go_ret
      exact ⟨rfl, H.out.1, H.out.2⟩
    · have htk : M.took n ys false = false := by unfold M.took; simp; omega
      rw [show M.out n ys false = [] by unfold M.out; rw [htk]; rfl, show M.rest n ys false = [] by unfold M.rest; rw [htk]; rfl, show M.spoil n ys false = true by unfold M.spoil; rw [htk]; rfl]
      have H := Lib.hid (And.intro hr2 hg2); clear hr2 hg2 hR
      have hy2 : (strOf ys).size ≤ 100000 := by rw [strOf_size]; exact hy
      by_cases hneg : n < 0
      · have ht : decide (n < 0) = true := by simpa using hneg
        generalize strOf ys = s at *
        go_enter Try.func17, Try.ntmps17
        go_wp2_with fail
        go_ret
        exact ⟨rfl, H.out.1, H.out.2⟩
      · have ht : decide (n < 0) = false := by simpa using hneg
        have ht2 : decide (((strOf ys).size : Int) < n) = true := by rw [hsz]; simp; omega
        generalize strOf ys = s at *
        go_enter Try.func17, Try.ntmps17
        go_wp2_with fail
        go_ret
        exact ⟨rfl, H.out.1, H.out.2⟩
end Go.Proofs.Ytmliiglhglhjkaa
