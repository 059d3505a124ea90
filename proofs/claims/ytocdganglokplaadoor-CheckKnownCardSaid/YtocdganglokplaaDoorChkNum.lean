/- numbers, ports, depth, Node, stays: the document's. -/
import Derived.Test.YtocdganglokplaaDoorChkMath
import Derived.Test.YtocdganglokplaaDoorGrKit
namespace Go.Proofs.YtocdganglokplaaDoor
open Go.ChangeShapes Go.WideShapes Go.ChangeAt Go.RowKit Go.BigFrame
set_option linter.unusedVariables false
set_option maxRecDepth 100000
set_option maxHeartbeats 8000000 in
theorem refNumbers_any (xk xa : Nat) (xb xd : Int) (xi : List Int) (xA : Option Addr) (xc : Nat) (w : World) :
    Calls Tryd.prog 26 #[.agg #[.int .u8 (xk : Nat), .int .u8 (xa : Nat), .int .i64 xb, .int .i64 xd, .slice xA xi.length xc]] w fun e w' => e = .returned (.bool (Nd.num ⟨xk, xa, xb, xd, xi⟩)) ∧ Below w.heap.size w w' := by
  have HB := Lib.hid ((Below.refl _ w).alloc (Nat.le_refl _) (.cells #[.int .u8 (xk : Nat), .int .u8 (xa : Nat), .int .i64 xb, .int .i64 xd, .slice xA xi.length xc] 39))
  obtain ⟨N, hN⟩ : ∃ N, Nd.num ⟨xk, xa, xb, xd, xi⟩ = N := ⟨_, rfl⟩
  rw [hN]
  have HN := Lib.hid hN; clear hN
  by_cases k2 : xk = 2
  · subst k2
    by_cases h1 : xa ≤ 3
    · have h1z : (xa : Int) ≤ 3 := by omega
      by_cases h2 : xa = 3
      · subst h2
        by_cases h3 : 0 < xb
        · go_enter Tryd.func26, Tryd.ntmps26
          go_wp2_with fail
          go_ret
          exact ⟨retb (by rw [← HN.out]; unfold Nd.num; first | (simp; done) | (simp; omega)), HB.out⟩
        · go_enter Tryd.func26, Tryd.ntmps26
          go_wp2_with fail
          go_ret
          exact ⟨retb (by rw [← HN.out]; unfold Nd.num; first | (simp; done) | (simp; omega)), HB.out⟩
      · have h2z : (((xa : Nat) : Int) != 3) = true := by simp; omega
        go_enter Tryd.func26, Tryd.ntmps26
        go_wp2_with fail
        go_ret
        exact ⟨retb (by rw [← HN.out]; unfold Nd.num; first | (simp; done) | (simp; omega)), HB.out⟩
    · have h1z : ¬ (xa : Int) ≤ 3 := by omega
      go_enter Tryd.func26, Tryd.ntmps26
      go_wp2_with fail
      go_ret
      exact ⟨retb (by rw [← HN.out]; unfold Nd.num; first | (simp; done) | (simp; omega)), HB.out⟩
  · have k2z : (((xk : Nat) : Int) == 2) = false := by simp; omega
    by_cases k3 : xk = 3
    · subst k3
      by_cases h1 : xa ≤ 2
      · have h1z : (xa : Int) ≤ 2 := by omega
        by_cases h2 : xa = 1
        · subst h2
          by_cases h3 : 0 < xb
          · go_enter Tryd.func26, Tryd.ntmps26
            go_wp2_with fail
            go_ret
            exact ⟨retb (by rw [← HN.out]; unfold Nd.num; first | (simp; done) | (simp; omega)), HB.out⟩
          · go_enter Tryd.func26, Tryd.ntmps26
            go_wp2_with fail
            go_ret
            exact ⟨retb (by rw [← HN.out]; unfold Nd.num; first | (simp; done) | (simp; omega)), HB.out⟩
        · have h2z : (((xa : Nat) : Int) != 1) = true := by simp; omega
          go_enter Tryd.func26, Tryd.ntmps26
          go_wp2_with fail
          go_ret
          exact ⟨retb (by rw [← HN.out]; unfold Nd.num; first | (simp; done) | (simp; omega)), HB.out⟩
      · have h1z : ¬ (xa : Int) ≤ 2 := by omega
        go_enter Tryd.func26, Tryd.ntmps26
        go_wp2_with fail
        go_ret
        exact ⟨retb (by rw [← HN.out]; unfold Nd.num; first | (simp; done) | (simp; omega)), HB.out⟩
    · have k3z : (((xk : Nat) : Int) == 3) = false := by simp; omega
      by_cases k5 : xk = 5
      · subst k5
        by_cases h1 : xa ≤ 3
        · have h1z : (xa : Int) ≤ 3 := by omega
          by_cases h2 : xb = 0
          · subst h2
            go_enter Tryd.func26, Tryd.ntmps26
            go_wp2_with fail
            go_ret
            exact ⟨retb (by rw [← HN.out]; unfold Nd.num; first | (simp; done) | (simp; omega)), HB.out⟩
          · have h2z : (xb == 0) = false := by simp; omega
            go_enter Tryd.func26, Tryd.ntmps26
            go_wp2_with fail
            go_ret
            exact ⟨retb (by rw [← HN.out]; unfold Nd.num; first | (simp; done) | (simp; omega)), HB.out⟩
        · have h1z : ¬ (xa : Int) ≤ 3 := by omega
          go_enter Tryd.func26, Tryd.ntmps26
          go_wp2_with fail
          go_ret
          exact ⟨retb (by rw [← HN.out]; unfold Nd.num; first | (simp; done) | (simp; omega)), HB.out⟩
      · have k5z : (((xk : Nat) : Int) == 5) = false := by simp; omega
        by_cases k9 : xk = 9
        · subst k9
          by_cases h1 : xa = 0
          · subst h1
            by_cases h2 : 1 ≤ xb
            · by_cases h3 : xb ≤ 16
              · go_enter Tryd.func26, Tryd.ntmps26
                go_wp2_with fail
                go_ret
                exact ⟨retb (by rw [← HN.out]; unfold Nd.num; first | (simp; done) | (simp; omega)), HB.out⟩
              · go_enter Tryd.func26, Tryd.ntmps26
                go_wp2_with fail
                go_ret
                exact ⟨retb (by rw [← HN.out]; unfold Nd.num; first | (simp; done) | (simp; omega)), HB.out⟩
            · go_enter Tryd.func26, Tryd.ntmps26
              go_wp2_with fail
              go_ret
              exact ⟨retb (by rw [← HN.out]; unfold Nd.num; first | (simp; done) | (simp; omega)), HB.out⟩
          · have h1z : (((xa : Nat) : Int) == 0) = false := by simp; omega
            go_enter Tryd.func26, Tryd.ntmps26
            go_wp2_with fail
            go_ret
            exact ⟨retb (by rw [← HN.out]; unfold Nd.num; first | (simp; done) | (simp; omega)), HB.out⟩
        · have k9z : (((xk : Nat) : Int) == 9) = false := by simp; omega
          by_cases h1 : 1 ≤ xk
          · have h1z : (1 : Int) ≤ (xk : Int) := by omega
            by_cases h2 : xk ≤ 10
            · have h2z : (xk : Int) ≤ 10 := by omega
              by_cases h3 : xa = 0
              · subst h3
                by_cases h4 : xb = 0
                · subst h4
                  go_enter Tryd.func26, Tryd.ntmps26
                  go_wp2_with fail
                  go_ret
                  exact ⟨retb (by rw [← HN.out]; unfold Nd.num; first | (simp [k2, k3, k5, k9]; done) | (simp [k2, k3, k5, k9]; omega)), HB.out⟩
                · have h4z : (xb == 0) = false := by simp; omega
                  go_enter Tryd.func26, Tryd.ntmps26
                  go_wp2_with fail
                  go_ret
                  exact ⟨retb (by rw [← HN.out]; unfold Nd.num; first | (simp [k2, k3, k5, k9]; done) | (simp [k2, k3, k5, k9]; omega)), HB.out⟩
              · have h3z : (((xa : Nat) : Int) == 0) = false := by simp; omega
                go_enter Tryd.func26, Tryd.ntmps26
                go_wp2_with fail
                go_ret
                exact ⟨retb (by rw [← HN.out]; unfold Nd.num; first | (simp [k2, k3, k5, k9]; done) | (simp [k2, k3, k5, k9]; omega)), HB.out⟩
            · have h2z : ¬ (xk : Int) ≤ 10 := by omega
              go_enter Tryd.func26, Tryd.ntmps26
              go_wp2_with fail
              go_ret
              exact ⟨retb (by rw [← HN.out]; unfold Nd.num; first | (simp [k2, k3, k5, k9]; done) | (simp [k2, k3, k5, k9]; omega)), HB.out⟩
          · have h1z : ¬ (1 : Int) ≤ (xk : Int) := by omega
            go_enter Tryd.func26, Tryd.ntmps26
            go_wp2_with fail
            go_ret
            exact ⟨retb (by rw [← HN.out]; unfold Nd.num; first | (simp [k2, k3, k5, k9]; done) | (simp [k2, k3, k5, k9]; omega)), HB.out⟩
end Go.Proofs.YtocdganglokplaaDoor
