/- stays: the document's. -/
import Derived.Test.YtocdganglokplaaDoorChkMath
import Derived.Test.YtocdganglokplaaDoorGrKit
namespace Go.Proofs.YtocdganglokplaaDoor
open Go.ChangeShapes Go.WideShapes Go.ChangeAt Go.RowKit Go.BigFrame
set_option linter.unusedVariables false
set_option maxRecDepth 100000
set_option maxHeartbeats 4000000 in
theorem refStays_any (xk xa : Nat) (xb xd : Int) (xi : List Int) (xA : Option Addr) (xc : Nat) (least : Int) (w : World) :
    Calls Tryd.prog 48 #[.agg #[.int .u8 (xk : Nat), .int .u8 (xa : Nat), .int .i64 xb, .int .i64 xd, .slice xA xi.length xc], .int .i64 least] w fun e w' => e = .returned (.bool (Nd.stays ⟨xk, xa, xb, xd, xi⟩ least)) ∧ Below w.heap.size w w' := by
  have HB := Lib.hid ((Below.refl _ w).alloc (Nat.le_refl _) (.cells #[.int .u8 (xk : Nat), .int .u8 (xa : Nat), .int .i64 xb, .int .i64 xd, .slice xA xi.length xc] 39))
  by_cases h1 : least < xd
  · have HY := Lib.hid (show true = Nd.stays ⟨xk, xa, xb, xd, xi⟩ least by unfold Nd.stays; exact (decide_eq_true (.inl h1)).symm)
    go_enter Tryd.func48, Tryd.ntmps48
    go_wp2_with fail
    go_ret
    exact ⟨retb HY.out, HB.out⟩
  · by_cases h2 : xd = least
    · subst h2
      by_cases h3 : xk = 9
      · subst h3
        have HY := Lib.hid (show false = Nd.stays ⟨9, xa, xb, xd, xi⟩ xd by unfold Nd.stays; exact (decide_eq_false (by simp)).symm)
        go_enter Tryd.func48, Tryd.ntmps48
        go_wp2_with fail
        go_ret
        exact ⟨retb HY.out, HB.out⟩
      · have h3z : (((xk : Nat) : Int) != 9) = true := by simp; omega
        have HY := Lib.hid (show true = Nd.stays ⟨xk, xa, xb, xd, xi⟩ xd by unfold Nd.stays; exact (decide_eq_true (.inr ⟨rfl, h3⟩)).symm)
        go_enter Tryd.func48, Tryd.ntmps48
        go_wp2_with fail
        go_ret
        exact ⟨retb HY.out, HB.out⟩
    · have h2z : (xd == least) = false := by simpa using h2
      have HY := Lib.hid (show false = Nd.stays ⟨xk, xa, xb, xd, xi⟩ least by unfold Nd.stays; exact (decide_eq_false (by simp; omega)).symm)
      clear h2
      go_enter Tryd.func48, Tryd.ntmps48
      go_wp2_with fail
      go_ret
      exact ⟨retb HY.out, HB.out⟩
end Go.Proofs.YtocdganglokplaaDoor
