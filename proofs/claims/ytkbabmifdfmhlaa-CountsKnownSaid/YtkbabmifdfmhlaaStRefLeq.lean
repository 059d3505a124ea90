/- Leq, the document's. -/
import Derived.Test.YtkbabmifdfmhlaaStBothA
namespace Go.Proofs.Ytkbabmifdfmhlaa
open Go.ChangeShapes Go.WideShapes Go.ChangeAt Go.RowKit Go.BigFrame
set_option linter.unusedVariables false
set_option maxRecDepth 100000
/-- the first k counters are no greater -/
def Lk (x y z x' y' z' : Int) (k : Nat) : Prop := (0 < k → x ≤ x') ∧ (1 < k → y ≤ y') ∧ (2 < k → z ≤ z')
set_option maxHeartbeats 2000000 in
theorem refLeq_any (a b : St) (w : World) : Calls Try.prog 60 #[a.val, b.val] w fun e w' => e = .returned (.bool (decide (a.L b))) ∧ Below w.heap.size w w' := by
  by_cases ha : a.R
  · by_cases hb : b.R
    · have HA := Lib.hid (right_is (decide_eq_true ha) (refRight_any a)); have HB := Lib.hid (right_is (decide_eq_true hb) (refRight_any b))
      have hL : a.L b ↔ a.d = b.d ∧ a.e ≤ b.e ∧ a.x ≤ b.x ∧ a.y ≤ b.y ∧ a.z ≤ b.z := ⟨fun h => h.2.2, fun h => ⟨ha, hb, h⟩⟩
      have hLd : decide (a.L b) = decide (a.d = b.d ∧ a.e ≤ b.e ∧ a.x ≤ b.x ∧ a.y ≤ b.y ∧ a.z ≤ b.z) := by rw [decide_eq_decide]; exact hL
      rw [hLd]; clear hLd hL ha hb
      obtain ⟨d, e, x, y, z⟩ := a
      obtain ⟨d', e', x', y', z'⟩ := b
      unfold St.val at *
      simp only at HA HB ⊢
      by_cases hd : d = d'
      · subst hd
        by_cases he : e ≤ e'
        · have hy0 := (Holds.made w ⟨d, e, x, y, z⟩).alloc (.cells #[.int .i64 d, .int .i64 e', .int .i64 x', .int .i64 y', .int .i64 z'] 25)
          have hy1 := Holds.made (w.alloc (.cells #[.int .i64 d, .int .i64 e, .int .i64 x, .int .i64 y, .int .i64 z] 25)) ⟨d, e', x', y', z'⟩
          rw [size_alloc] at hy1
          have HY0 := Lib.hid hy0; have HY1 := Lib.hid hy1; clear hy0 hy1
          have HD := Lib.hid (show decide (d = d ∧ e ≤ e' ∧ x ≤ x' ∧ y ≤ y' ∧ z ≤ z') = decide (x ≤ x' ∧ y ≤ y' ∧ z ≤ z') by rw [decide_eq_decide]; exact ⟨fun h => h.2.2, fun h => ⟨rfl, he, h⟩⟩)
          rw [HD.out]; clear HD
          go_enter Try.func60, Try.ntmps60
          go_wp2_with fail
          refine (HA.out _).mono ?_; rintro e1 w1 ⟨rfl, hb1⟩
          obtain ⟨hc1, hf1⟩ := old_cells hb1
          have HB1 := Lib.hid hb1; clear hb1
          go_wp2_with fail
          refine (HB.out _).mono ?_; rintro e2 w2 ⟨rfl, hb2⟩
          have hb12 := HB1.out.trans (hb2.mono HB1.out.size)
          clear hc1 hf1
          obtain ⟨hc1, hf1⟩ := old_cells hb12
          have HBW := Lib.hid (below2 hb12)
          have h0 := HY0.out.below hb12; have h1 := HY1.out.below hb12
          have H0 := Lib.hid h0; have H1 := Lib.hid h1; clear h0 h1 hb12 hb2 HB1
          go_wp2_with fail
          clear hc1 hf1
          go_loopw [5] (fun i wr => ∃ k : Nat, k ≤ 3 ∧ i = .int .i64 k ∧ Lk x y z x' y' z' k ∧ Holds wr w.heap.size ⟨d, e, x, y, z⟩ ∧ Holds wr (w.heap.size + 1) ⟨d, e', x', y', z'⟩ ∧ Below w.heap.size w wr) (fun i _ => 3 - (intOf i).toNat)
          case atStart => exact ⟨0, by omega, rfl, by unfold Lk; omega, H0.out, H1.out, HBW.out⟩
          case round =>
            obtain ⟨k, hk, rfl, hL, h0, h1, hbw⟩ := hrel
            have hcase : k = 0 ∨ k = 1 ∨ k = 2 ∨ k = 3 := by omega
            clear hk
            obtain ⟨c0, c1, c2, c3, c4⟩ := h0.cells5
            obtain ⟨d0, d1, d2, d3, d4⟩ := h1.cells5
            simp only at c0 c1 c2 c3 c4 d0 d1 d2 d3 d4
            have HL := Lib.hid hL; have HH0 := Lib.hid h0; have HH1 := Lib.hid h1; have HHW := Lib.hid hbw; clear hL h0 h1 hbw H0 H1 HBW
            rcases hcase with rfl | rfl | rfl | rfl
            · by_cases hq : x ≤ x'
              · have hq' : decide (x' < x) = false := by simpa using hq
                go_wp2_with fail
                go_quiet (fail)
                go_wp2_with fail
                go_roundw
                case rel => exact ⟨1, by omega, rfl, by have := HL.out; unfold Lk at *; omega, HH0.out, HH1.out, below_drewN HHW.out _⟩
                case measure => simp [intOf]
              · have hq' : decide (x' < x) = true := by simp; omega
                go_wp2_with fail
                go_quiet (fail)
                go_wp2_with fail
                go_ret
                exact ⟨ret_bool (by rw [eq_comm, decide_eq_false_iff_not]; omega), below_drewN HHW.out _⟩
            · by_cases hq : y ≤ y'
              · have hq' : decide (y' < y) = false := by simpa using hq
                go_wp2_with fail
                go_quiet (fail)
                go_wp2_with fail
                go_roundw
                case rel => exact ⟨2, by omega, rfl, by have := HL.out; unfold Lk at *; omega, HH0.out, HH1.out, below_drewN HHW.out _⟩
                case measure => simp [intOf]
              · have hq' : decide (y' < y) = true := by simp; omega
                go_wp2_with fail
                go_quiet (fail)
                go_wp2_with fail
                go_ret
                exact ⟨ret_bool (by rw [eq_comm, decide_eq_false_iff_not]; omega), below_drewN HHW.out _⟩
            · by_cases hq : z ≤ z'
              · have hq' : decide (z' < z) = false := by simpa using hq
                go_wp2_with fail
                go_quiet (fail)
                go_wp2_with fail
                go_roundw
                case rel => exact ⟨3, by omega, rfl, by have := HL.out; unfold Lk at *; omega, HH0.out, HH1.out, below_drewN HHW.out _⟩
                case measure => simp [intOf]
              · have hq' : decide (z' < z) = true := by simp; omega
                go_wp2_with fail
                go_quiet (fail)
                go_wp2_with fail
                go_ret
                exact ⟨ret_bool (by rw [eq_comm, decide_eq_false_iff_not]; omega), below_drewN HHW.out _⟩
            · go_wp2_with fail
              go_ret
              exact ⟨ret_bool (by rw [eq_comm, decide_eq_true_iff]; have := HL.out; unfold Lk at this; omega), HHW.out⟩
        · have HD := Lib.hid (show decide (d = d ∧ e ≤ e' ∧ x ≤ x' ∧ y ≤ y' ∧ z ≤ z') = false by rw [decide_eq_false_iff_not]; omega)
          rw [HD.out]; clear HD
          go_enter Try.func60, Try.ntmps60
          go_wp2_with fail
          refine (HA.out _).mono ?_; rintro e1 w1 ⟨rfl, hb1⟩
          obtain ⟨hc1, hf1⟩ := old_cells hb1
          have HB1 := Lib.hid hb1; clear hb1
          go_wp2_with fail
          refine (HB.out _).mono ?_; rintro e2 w2 ⟨rfl, hb2⟩
          have hb12 := HB1.out.trans (hb2.mono HB1.out.size)
          clear hc1 hf1
          obtain ⟨hc1, hf1⟩ := old_cells hb12
          have HBW := Lib.hid (below2 hb12)
          clear hb12 hb2 HB1
          go_wp2_with fail
          go_ret
          exact ⟨rfl, HBW.out⟩
      · have HD := Lib.hid (show decide (d = d' ∧ e ≤ e' ∧ x ≤ x' ∧ y ≤ y' ∧ z ≤ z') = false by rw [decide_eq_false_iff_not]; omega)
        rw [HD.out]; clear HD
        have hd' : (d != d') = true := by simpa using hd
        clear hd
        go_enter Try.func60, Try.ntmps60
        go_wp2_with fail
        refine (HA.out _).mono ?_; rintro e1 w1 ⟨rfl, hb1⟩
        obtain ⟨hc1, hf1⟩ := old_cells hb1
        have HB1 := Lib.hid hb1; clear hb1
        go_wp2_with fail
        refine (HB.out _).mono ?_; rintro e2 w2 ⟨rfl, hb2⟩
        have hb12 := HB1.out.trans (hb2.mono HB1.out.size)
        clear hc1 hf1
        obtain ⟨hc1, hf1⟩ := old_cells hb12
        have HBW := Lib.hid (below2 hb12)
        clear hb12 hb2 HB1
        go_wp2_with fail
        go_ret
        exact ⟨rfl, HBW.out⟩
    · have HA := Lib.hid (right_is (decide_eq_true ha) (refRight_any a)); have HB := Lib.hid (right_is (decide_eq_false hb) (refRight_any b))
      have hL : decide (a.L b) = false := by rw [decide_eq_false_iff_not]; exact fun h => hb h.2.1
      rw [hL]; clear hL ha hb
      obtain ⟨d, e, x, y, z⟩ := a
      obtain ⟨d', e', x', y', z'⟩ := b
      unfold St.val at *
      simp only at HA HB ⊢
      go_enter Try.func60, Try.ntmps60
      go_wp2_with fail
      refine (HA.out _).mono ?_; rintro e1 w1 ⟨rfl, hb1⟩
      obtain ⟨hc1, hf1⟩ := old_cells hb1
      have HB1 := Lib.hid hb1; clear hb1
      go_wp2_with fail
      refine (HB.out _).mono ?_; rintro e2 w2 ⟨rfl, hb2⟩
      have hb12 := HB1.out.trans (hb2.mono HB1.out.size)
      clear hc1 hf1
      obtain ⟨hc1, hf1⟩ := old_cells hb12
      have HBW := Lib.hid (below2 hb12)
      clear hb12 hb2 HB1
      go_wp2_with fail
      go_ret
      exact ⟨rfl, HBW.out⟩
  · have HA := Lib.hid (right_is (decide_eq_false ha) (refRight_any a))
    have hL : decide (a.L b) = false := by rw [decide_eq_false_iff_not]; exact fun h => ha h.1
    rw [hL]; clear hL ha
    obtain ⟨d, e, x, y, z⟩ := a
    obtain ⟨d', e', x', y', z'⟩ := b
    unfold St.val at *
    simp only at HA ⊢
    go_enter Try.func60, Try.ntmps60
    go_wp2_with fail
    refine (HA.out _).mono ?_; rintro e1 w1 ⟨rfl, hb1⟩
    have hb12 := hb1
    obtain ⟨hc1, hf1⟩ := old_cells hb12
    have HBW := Lib.hid (below2 hb12)
    clear hb12 hb1
    go_wp2_with fail
    go_ret
    exact ⟨rfl, HBW.out⟩
end Go.Proofs.Ytkbabmifdfmhlaa
