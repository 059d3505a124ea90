/- Apply, the document's. -/
import Derived.Test.YtdpadkellpkppaaSmApplyN
namespace Go.Proofs.Ytdpadkellpkppaa
open Go.ChangeShapes Go.WideShapes Go.ChangeAt Go.RowKit Go.BigFrame
set_option linter.unusedVariables false
set_option maxRecDepth 100000
theorem pt_self (n j : Nat) (v : Int) (h : n ≤ j → v = 0) : pt n j v = v := by
  unfold pt; split
  · rfl
  · rw [h (by omega)]
set_option maxHeartbeats 8000000 in
theorem refApply_D (s : Sm) (t : St) (w : World) (h : s.R) (h2 : t.R) (hd : t.d = s.fr) : Calls Try.prog 12 #[s.v, t.val] w fun e w' => e = .returned (.tuple #[(s.ap t).val, .bool (s.apB t)]) ∧ Below w.heap.size w w' := by
  have hno := Sm.ap_no (s := s) (t := t)
  have hyes := Sm.ap_yes (s := s) (t := t)
  obtain ⟨n, hnn⟩ : ∃ n : Nat, s.to = n := ⟨s.to.toNat, by unfold Sm.R at h; omega⟩
  have hn3 : n ≤ 3 := by unfold Sm.R at h; omega
  have g0 := Sm.val_R h h2 0; have g1 := Sm.val_R h h2 1; have g2 := Sm.val_R h h2 2
  have y0 := Sm.val_out (s := s) (t := t) (i := 0); have y1 := Sm.val_out (s := s) (t := t) (i := 1); have y2 := Sm.val_out (s := s) (t := t) (i := 2)
  rw [hnn] at y0 y1 y2
  have v0 : 0 < n → s.val t 0 = s.N 0 + if (0 : Int) < s.kp then t.x else 0 := fun hl => by unfold Sm.val; rw [if_pos (by rw [hnn]; omega)]; rfl
  have v1 : 1 < n → s.val t 1 = s.N 1 + if (1 : Int) < s.kp then t.y else 0 := fun hl => by unfold Sm.val; rw [if_pos (by rw [hnn]; omega)]; rfl
  have v2 : 2 < n → s.val t 2 = s.N 2 + if (2 : Int) < s.kp then t.z else 0 := fun hl => by unfold Sm.val; rw [if_pos (by rw [hnn]; omega)]; rfl
  have n0 := Sm.N_R h 0; have n1 := Sm.N_R h 1; have n2 := Sm.N_R h 2
  have cA0 := fun (hl : 0 < n) w => refAt_any s 0 w h (by rw [hnn]; omega)
  have cA1 := fun (hl : 1 < n) w => refAt_any s 1 w h (by rw [hnn]; omega)
  have cA2 := fun (hl : 2 < n) w => refAt_any s 2 w h (by rw [hnn]; omega)
  simp only [Int.natCast_zero, Int.natCast_one] at cA0 cA1
  rw [show ((2 : Nat) : Int) = 2 from rfl] at cA2
  have bt : (0 ≤ t.x ∧ t.x < 16) ∧ (0 ≤ t.y ∧ t.y < 16) ∧ (0 ≤ t.z ∧ t.z < 16) := by unfold St.R at h2; omega
  have h3 := Trio.made w 30 s t
  have hbw := below_alloc3 w (.cells #[.int .i64 s.fr, .int .i64 s.to, .int .i64 s.kp, .int .i64 s.ad, .int .i64 s.t0, .int .i64 s.t1, .int .i64 s.t2] 30) (.cells #[.int .i64 t.d, .int .i64 t.e, .int .i64 t.x, .int .i64 t.y, .int .i64 t.z] 26) (.cells #[.int .i64 0, .int .i64 0, .int .i64 0, .int .i64 0, .int .i64 0] 26)
  have H3 := Lib.hid h3; have HB := Lib.hid hbw; clear h3 hbw
  have r1 := fun w => refRightM_true h w
  have r2 := fun w => refRight_true h2 w
  have hn : (t.d != s.fr) = false := by simpa using hd
  have R1 := Lib.hid r1; have R2 := Lib.hid r2; clear r1 r2
  generalize s.val t 0 = v0 at *
  generalize s.val t 1 = v1 at *
  generalize s.val t 2 = v2 at *
  generalize s.N 0 = n0 at *
  generalize s.N 1 = n1 at *
  generalize s.N 2 = n2 at *
  generalize s.ap t = ap at *
  generalize s.apB t = apB at *
  have HNO := Lib.hid hno; have HYES := Lib.hid hyes; clear hno hyes
  have HR := Lib.hid (And.intro h (And.intro h2 hd)); clear h h2 hd
  unfold Sm.v at cA0 cA1 cA2
  have CA0 := Lib.hid cA0; have CA1 := Lib.hid cA1; have CA2 := Lib.hid cA2; clear cA0 cA1 cA2
  have V0 := Lib.hid v0; have V1 := Lib.hid v1; have V2 := Lib.hid v2; clear v0 v1 v2
  have Y := Lib.hid (And.intro y0 (And.intro y1 y2)); clear y0 y1 y2
  have G := Lib.hid (And.intro g0 (And.intro g1 g2)); have BT := Lib.hid bt; have NB := Lib.hid (And.intro n0 (And.intro n1 n2)); clear g0 g1 g2 bt n0 n1 n2
  have HNN := Lib.hid (And.intro hnn hn3); clear hnn hn3
  unfold Sm.v St.val at *
  go_enter Try.func12, Try.ntmps12
  go_wp2_with fail
  refine (R1.out _).mono ?_; rintro e w2 ⟨rfl, hb2⟩
  have k3 := H3.out.below hb2
  have kb := HB.out.trans (hb2.mono HB.out.size); clear H3 HB
  have H3 := Lib.hid k3; have HB := Lib.hid kb; clear k3 kb hb2
  obtain ⟨a0, a1, a2, a3, a4⟩ := H3.out.2.1.c5
  obtain ⟨b0, b1, b2, b3, b4, b5, b6⟩ := H3.out.1.cells7
  go_wp2_with fail
  clear a0 a1 a2 a3 a4 b0 b1 b2 b3 b4 b5 b6 R1
  refine (R2.out _).mono ?_; rintro e w3 ⟨rfl, hb3⟩
  have k3 := H3.out.below hb3
  have kb := HB.out.trans (hb3.mono HB.out.size); clear H3 HB
  have H3 := Lib.hid k3; have HB := Lib.hid kb; clear k3 kb hb3
  obtain ⟨a0, a1, a2, a3, a4⟩ := H3.out.2.1.c5
  obtain ⟨b0, b1, b2, b3, b4, b5, b6⟩ := H3.out.1.cells7
  go_wp2_with fail
  clear a0 a1 a2 a3 a4 b0 b1 b2 b3 b4 b5 b6 R2
  have k6 := Holds.made w3 ⟨s.to, t.e, 0, 0, 0⟩
  have k3 := H3.out.below ((Below.refl w3.heap.size w3).alloc (Nat.le_refl _) (.cells #[.int .i64 s.to, .int .i64 t.e, .int .i64 0, .int .i64 0, .int .i64 0] 26))
  have kb := HB.out.alloc HB.out.size (.cells #[.int .i64 s.to, .int .i64 t.e, .int .i64 0, .int .i64 0, .int .i64 0] 26)
  have hg : w.heap.size + 1 + 1 < w3.heap.size := H3.out.2.2.lt
  clear H3 HB
  generalize w3.alloc (.cells #[.int .i64 s.to, .int .i64 t.e, .int .i64 0, .int .i64 0, .int .i64 0] 26) = w4 at *
  generalize w3.heap.size = g at *
  have H3 := Lib.hid k3; have HB := Lib.hid kb; have H6 := Lib.hid k6; have HG := Lib.hid hg; clear k3 kb k6 hg
  go_loopw [7] (fun i wr => ∃ (k : Nat), k ≤ n ∧ i = .int .i64 k ∧ Trio wr w.heap.size 30 s t ∧ Holds wr g ⟨s.to, t.e, pt k 0 v0, pt k 1 v1, pt k 2 v2⟩ ∧ Below w.heap.size w wr ∧ (0 < k → v0 < 16) ∧ (1 < k → v1 < 16) ∧ (2 < k → v2 < 16)) (fun i _ => n - (intOf i).toNat)
  case atStart => exact ⟨0, by omega, rfl, H3.out, H6.out, HB.out, by omega, by omega, by omega⟩
  case round =>
    obtain ⟨k, hk, rfl, h3, h6, hbw, hv⟩ := hrel
    clear H3 HB H6 hn
    obtain ⟨b0, b1, b2, b3, b4, b5, b6⟩ := h3.1.cells7
    have H3 := Lib.hid h3; have H6 := Lib.hid h6; have HB := Lib.hid hbw; have HV := Lib.hid hv; clear h3 h6 hbw hv
    by_cases hlt : k < n
    · have hlt' : (k : Int) < s.to := by have := HNN.out.1; omega
      have hcase : k = 0 ∨ k = 1 ∨ k = 2 := by have := HNN.out.2; omega
      rcases hcase with rfl | rfl | rfl
      · simp only [Int.natCast_zero, Int.natCast_one, Int.cast_ofNat_Int] at hlt'
        go_wp2_with fail
        refine (CA0.out hlt _).mono ?_; rintro e w5 ⟨rfl, hb5⟩
        dsimp only
        have h3 := H3.out.below hb5; have h6 := H6.out.below hb5; have hbw := HB.out.trans (hb5.mono HB.out.size); clear H3 H6 HB hb5 b0 b1 b2 b3 b4 b5 b6
        have H3 := Lib.hid h3; have H6 := Lib.hid h6; have HB := Lib.hid hbw; clear h3 h6 hbw
        obtain ⟨a0, a1, a2, a3, a4⟩ := H3.out.2.1.c5
        obtain ⟨z0, z1, z2, z3, z4⟩ := H3.out.2.2.c5
        obtain ⟨f0, f1, f2, f3, f4⟩ := H3.out.2.2.f5
        obtain ⟨c0, c1, c2, c3, c4⟩ := H6.out.c5
        obtain ⟨d0, d1, d2, d3, d4⟩ := H6.out.f5
        simp only at c0 c1 c2 c3 c4
        have hl5 := H6.out.lt
        have m1 : w.heap.size + 1 < w5.heap.size := H3.out.2.1.lt
        have m2 : w.heap.size + 1 + 1 < w5.heap.size := H3.out.2.2.lt
        have hv := V0.out hlt
        cases hq : decide ((0 : Int) < s.kp)
        · rw [if_neg (by simpa using hq), Int.add_zero] at hv
          obtain rfl := hv
          clear hq
          by_cases hbig : (16 : Int) ≤ v0
          · have hvb := HV.out
            obtain ⟨q1, q2⟩ := HNO.out (fun hh => by have := hh.2.2.2; omega)
            have Q := Lib.hid (And.intro q1 q2); clear q1 q2 hvb
            go_wp2_with fail
            refine bodyPost_ret (v := .tuple #[.agg #[.int .i64 0, .int .i64 0, .int .i64 0, .int .i64 0, .int .i64 0], .bool false]) (two_results rfl _ _ _ 26 _ (0, 0) _ rfl (Row.alloc (row_set5' H3.out.2.2) _) Try.underlying26 rfl (by kernel_rfl) rfl) rfl ?_
            exact ⟨by obtain ⟨q1, q2⟩ := Q.out; subst q1; subst q2; rfl, (below_set5' HB.out (by omega)).alloc (below_set5' HB.out (by omega)).size _⟩
          · go_wp2_with fail
            go_roundw
            case rel =>
              have hg := HG.out
              refine ⟨1, by omega, rfl, ⟨Row.alloc (Row.far H3.out.1 (by simp; omega) _) _, Row.alloc (Row.far H3.out.2.1 (by simp; omega) _) _, Row.alloc (Row.far H3.out.2.2 (by simp; omega) _) _⟩, ?_, (HB.out.setCell (by simp; omega) _).alloc (by simpa using HB.out.size) _, ?_⟩
              · exact Row.alloc (Row.put H6.out 2 _) _
              · have := HV.out; omega
            case measure => simp [intOf]; omega
        · rw [if_pos (by simpa using hq)] at hv
          have hw := IntWalk.i64_in (n0 + t.x) (by have := NB.out; have := BT.out; omega)
          replace hw := hw.trans hv.symm
          clear hv
          clear hq
          by_cases hbig : (16 : Int) ≤ v0
          · have hvb := HV.out
            obtain ⟨q1, q2⟩ := HNO.out (fun hh => by have := hh.2.2.2; omega)
            have Q := Lib.hid (And.intro q1 q2); clear q1 q2 hvb
            go_wp2_with fail
            refine bodyPost_ret (v := .tuple #[.agg #[.int .i64 0, .int .i64 0, .int .i64 0, .int .i64 0, .int .i64 0], .bool false]) (two_results rfl _ _ _ 26 _ (0, 0) _ rfl (Row.alloc (row_set5' H3.out.2.2) _) Try.underlying26 rfl (by kernel_rfl) rfl) rfl ?_
            exact ⟨by obtain ⟨q1, q2⟩ := Q.out; subst q1; subst q2; rfl, (below_set5' HB.out (by omega)).alloc (below_set5' HB.out (by omega)).size _⟩
          · go_wp2_with fail
            go_roundw
            case rel =>
              have hg := HG.out
              refine ⟨1, by omega, rfl, ⟨Row.alloc (Row.far H3.out.1 (by simp; omega) _) _, Row.alloc (Row.far H3.out.2.1 (by simp; omega) _) _, Row.alloc (Row.far H3.out.2.2 (by simp; omega) _) _⟩, ?_, (HB.out.setCell (by simp; omega) _).alloc (by simpa using HB.out.size) _, ?_⟩
              · exact Row.alloc (Row.put H6.out 2 _) _
              · have := HV.out; omega
            case measure => simp [intOf]; omega
      · simp only [Int.natCast_zero, Int.natCast_one, Int.cast_ofNat_Int] at hlt'
        go_wp2_with fail
        refine (CA1.out hlt _).mono ?_; rintro e w5 ⟨rfl, hb5⟩
        dsimp only
        have h3 := H3.out.below hb5; have h6 := H6.out.below hb5; have hbw := HB.out.trans (hb5.mono HB.out.size); clear H3 H6 HB hb5 b0 b1 b2 b3 b4 b5 b6
        have H3 := Lib.hid h3; have H6 := Lib.hid h6; have HB := Lib.hid hbw; clear h3 h6 hbw
        obtain ⟨a0, a1, a2, a3, a4⟩ := H3.out.2.1.c5
        obtain ⟨z0, z1, z2, z3, z4⟩ := H3.out.2.2.c5
        obtain ⟨f0, f1, f2, f3, f4⟩ := H3.out.2.2.f5
        obtain ⟨c0, c1, c2, c3, c4⟩ := H6.out.c5
        obtain ⟨d0, d1, d2, d3, d4⟩ := H6.out.f5
        simp only at c0 c1 c2 c3 c4
        have hl5 := H6.out.lt
        have m1 : w.heap.size + 1 < w5.heap.size := H3.out.2.1.lt
        have m2 : w.heap.size + 1 + 1 < w5.heap.size := H3.out.2.2.lt
        have hv := V1.out hlt
        cases hq : decide ((1 : Int) < s.kp)
        · rw [if_neg (by simpa using hq), Int.add_zero] at hv
          obtain rfl := hv
          clear hq
          by_cases hbig : (16 : Int) ≤ v1
          · have hvb := HV.out
            obtain ⟨q1, q2⟩ := HNO.out (fun hh => by have := hh.2.2.2; omega)
            have Q := Lib.hid (And.intro q1 q2); clear q1 q2 hvb
            go_wp2_with fail
            refine bodyPost_ret (v := .tuple #[.agg #[.int .i64 0, .int .i64 0, .int .i64 0, .int .i64 0, .int .i64 0], .bool false]) (two_results rfl _ _ _ 26 _ (0, 0) _ rfl (Row.alloc (row_set5' H3.out.2.2) _) Try.underlying26 rfl (by kernel_rfl) rfl) rfl ?_
            exact ⟨by obtain ⟨q1, q2⟩ := Q.out; subst q1; subst q2; rfl, (below_set5' HB.out (by omega)).alloc (below_set5' HB.out (by omega)).size _⟩
          · go_wp2_with fail
            go_roundw
            case rel =>
              have hg := HG.out
              refine ⟨2, by omega, rfl, ⟨Row.alloc (Row.far H3.out.1 (by simp; omega) _) _, Row.alloc (Row.far H3.out.2.1 (by simp; omega) _) _, Row.alloc (Row.far H3.out.2.2 (by simp; omega) _) _⟩, ?_, (HB.out.setCell (by simp; omega) _).alloc (by simpa using HB.out.size) _, ?_⟩
              · exact Row.alloc (Row.put H6.out 3 _) _
              · have := HV.out; omega
            case measure => simp [intOf]; omega
        · rw [if_pos (by simpa using hq)] at hv
          have hw := IntWalk.i64_in (n1 + t.y) (by have := NB.out; have := BT.out; omega)
          replace hw := hw.trans hv.symm
          clear hv
          clear hq
          by_cases hbig : (16 : Int) ≤ v1
          · have hvb := HV.out
            obtain ⟨q1, q2⟩ := HNO.out (fun hh => by have := hh.2.2.2; omega)
            have Q := Lib.hid (And.intro q1 q2); clear q1 q2 hvb
            go_wp2_with fail
            refine bodyPost_ret (v := .tuple #[.agg #[.int .i64 0, .int .i64 0, .int .i64 0, .int .i64 0, .int .i64 0], .bool false]) (two_results rfl _ _ _ 26 _ (0, 0) _ rfl (Row.alloc (row_set5' H3.out.2.2) _) Try.underlying26 rfl (by kernel_rfl) rfl) rfl ?_
            exact ⟨by obtain ⟨q1, q2⟩ := Q.out; subst q1; subst q2; rfl, (below_set5' HB.out (by omega)).alloc (below_set5' HB.out (by omega)).size _⟩
          · go_wp2_with fail
            go_roundw
            case rel =>
              have hg := HG.out
              refine ⟨2, by omega, rfl, ⟨Row.alloc (Row.far H3.out.1 (by simp; omega) _) _, Row.alloc (Row.far H3.out.2.1 (by simp; omega) _) _, Row.alloc (Row.far H3.out.2.2 (by simp; omega) _) _⟩, ?_, (HB.out.setCell (by simp; omega) _).alloc (by simpa using HB.out.size) _, ?_⟩
              · exact Row.alloc (Row.put H6.out 3 _) _
              · have := HV.out; omega
            case measure => simp [intOf]; omega
      · simp only [Int.natCast_zero, Int.natCast_one, Int.cast_ofNat_Int] at hlt'
        go_wp2_with fail
        refine (CA2.out hlt _).mono ?_; rintro e w5 ⟨rfl, hb5⟩
        dsimp only
        have h3 := H3.out.below hb5; have h6 := H6.out.below hb5; have hbw := HB.out.trans (hb5.mono HB.out.size); clear H3 H6 HB hb5 b0 b1 b2 b3 b4 b5 b6
        have H3 := Lib.hid h3; have H6 := Lib.hid h6; have HB := Lib.hid hbw; clear h3 h6 hbw
        obtain ⟨a0, a1, a2, a3, a4⟩ := H3.out.2.1.c5
        obtain ⟨z0, z1, z2, z3, z4⟩ := H3.out.2.2.c5
        obtain ⟨f0, f1, f2, f3, f4⟩ := H3.out.2.2.f5
        obtain ⟨c0, c1, c2, c3, c4⟩ := H6.out.c5
        obtain ⟨d0, d1, d2, d3, d4⟩ := H6.out.f5
        simp only at c0 c1 c2 c3 c4
        have hl5 := H6.out.lt
        have m1 : w.heap.size + 1 < w5.heap.size := H3.out.2.1.lt
        have m2 : w.heap.size + 1 + 1 < w5.heap.size := H3.out.2.2.lt
        have hv := V2.out hlt
        cases hq : decide ((2 : Int) < s.kp)
        · rw [if_neg (by simpa using hq), Int.add_zero] at hv
          obtain rfl := hv
          clear hq
          by_cases hbig : (16 : Int) ≤ v2
          · have hvb := HV.out
            obtain ⟨q1, q2⟩ := HNO.out (fun hh => by have := hh.2.2.2; omega)
            have Q := Lib.hid (And.intro q1 q2); clear q1 q2 hvb
            go_wp2_with fail
            refine bodyPost_ret (v := .tuple #[.agg #[.int .i64 0, .int .i64 0, .int .i64 0, .int .i64 0, .int .i64 0], .bool false]) (two_results rfl _ _ _ 26 _ (0, 0) _ rfl (Row.alloc (row_set5' H3.out.2.2) _) Try.underlying26 rfl (by kernel_rfl) rfl) rfl ?_
            exact ⟨by obtain ⟨q1, q2⟩ := Q.out; subst q1; subst q2; rfl, (below_set5' HB.out (by omega)).alloc (below_set5' HB.out (by omega)).size _⟩
          · go_wp2_with fail
            go_roundw
            case rel =>
              have hg := HG.out
              refine ⟨3, by omega, rfl, ⟨Row.alloc (Row.far H3.out.1 (by simp; omega) _) _, Row.alloc (Row.far H3.out.2.1 (by simp; omega) _) _, Row.alloc (Row.far H3.out.2.2 (by simp; omega) _) _⟩, ?_, (HB.out.setCell (by simp; omega) _).alloc (by simpa using HB.out.size) _, ?_⟩
              · exact Row.alloc (Row.put H6.out 4 _) _
              · have := HV.out; omega
            case measure => simp [intOf]; omega
        · rw [if_pos (by simpa using hq)] at hv
          have hw := IntWalk.i64_in (n2 + t.z) (by have := NB.out; have := BT.out; omega)
          replace hw := hw.trans hv.symm
          clear hv
          clear hq
          by_cases hbig : (16 : Int) ≤ v2
          · have hvb := HV.out
            obtain ⟨q1, q2⟩ := HNO.out (fun hh => by have := hh.2.2.2; omega)
            have Q := Lib.hid (And.intro q1 q2); clear q1 q2 hvb
            go_wp2_with fail
            refine bodyPost_ret (v := .tuple #[.agg #[.int .i64 0, .int .i64 0, .int .i64 0, .int .i64 0, .int .i64 0], .bool false]) (two_results rfl _ _ _ 26 _ (0, 0) _ rfl (Row.alloc (row_set5' H3.out.2.2) _) Try.underlying26 rfl (by kernel_rfl) rfl) rfl ?_
            exact ⟨by obtain ⟨q1, q2⟩ := Q.out; subst q1; subst q2; rfl, (below_set5' HB.out (by omega)).alloc (below_set5' HB.out (by omega)).size _⟩
          · go_wp2_with fail
            go_roundw
            case rel =>
              have hg := HG.out
              refine ⟨3, by omega, rfl, ⟨Row.alloc (Row.far H3.out.1 (by simp; omega) _) _, Row.alloc (Row.far H3.out.2.1 (by simp; omega) _) _, Row.alloc (Row.far H3.out.2.2 (by simp; omega) _) _⟩, ?_, (HB.out.setCell (by simp; omega) _).alloc (by simpa using HB.out.size) _, ?_⟩
              · exact Row.alloc (Row.put H6.out 4 _) _
              · have := HV.out; omega
            case measure => simp [intOf]; omega
    · have hkn : k = n := by omega
      subst hkn
      have hge : ¬ (k : Int) < s.to := by have := HNN.out.1; omega
      obtain ⟨z0, z1, z2, z3, z4⟩ := H3.out.2.2.c5
      obtain ⟨f0, f1, f2, f3, f4⟩ := H3.out.2.2.f5
      obtain ⟨c0, c1, c2, c3, c4⟩ := H6.out.c5
      have y := Y.out
      rw [pt_self k 0 v0 (fun hh => y.1 (by omega))] at c2
      rw [pt_self k 1 v1 (fun hh => y.2.1 (by omega))] at c3
      rw [pt_self k 2 v2 (fun hh => y.2.2 (by omega))] at c4
      simp only at c0 c1
      have hr := HR.out
      have hv := HV.out
      have hg := G.out
      obtain ⟨q1, q2⟩ := HYES.out ⟨hr.1, hr.2.1, hr.2.2, by by_cases hh : 0 < k <;> omega, by by_cases hh : 1 < k <;> omega, by by_cases hh : 2 < k <;> omega⟩
      have Q := Lib.hid (And.intro q1 q2); clear q1 q2 hr hv hg y
      go_wp2_with fail
      refine bodyPost_ret (v := .tuple #[.agg #[.int .i64 s.to, .int .i64 t.e, .int .i64 v0, .int .i64 v1, .int .i64 v2], .bool true]) (two_results rfl _ _ _ 26 _ (0, 0) _ rfl (row_set5' H3.out.2.2) Try.underlying26 rfl (by kernel_rfl) rfl) rfl ?_
      exact ⟨by obtain ⟨q1, q2⟩ := Q.out; subst q1; subst q2; rfl, below_set5' HB.out (by omega)⟩
theorem refApply_any (s : Sm) (t : St) (w : World) : Calls Try.prog 12 #[s.v, t.val] w fun e w' => e = .returned (.tuple #[(s.ap t).val, .bool (s.apB t)]) ∧ Below w.heap.size w w' := by
  by_cases h : s.R
  · by_cases h2 : t.R
    · by_cases hd : t.d = s.fr
      · exact refApply_D s t w h h2 hd
      · exact refApply_C s t w h h2 hd
    · exact refApply_B s t w h h2
  · exact refApply_A s t w h
end Go.Proofs.Ytdpadkellpkppaa
