/- StBothG, StJoin, StInto, StLeq, StCmp, StCmpP, StCmpQ, StOpen, StRefLeq, StFrame -/
import Derived.Test.YtmhophmpbpbjaaaGreatDoorCa5
import Derived.Test.YtmhophmpbpbjaaaGreatDoorCa0
import Derived.Deep.QuietTactic
import Derived.BigQuiet
import Derived.StillTailTactics
import Derived.Laws.IdiomArrays
import Derived.OpenShut
import Derived.SizedLaws
import Derived.BigRegion
import Derived.RegionTactic
import Derived.Deep.DeepCutAuto
import Derived.Deep.CutRange
namespace Go.Proofs.YtmhophmpbpbjaaaGreatDoor
set_option linter.unusedVariables false
section
open Go.ChangeShapes Go.WideShapes Go.ChangeAt Go.RowKit Go.BigFrame
set_option maxRecDepth 100000
set_option maxHeartbeats 4000000 in
theorem both_yes_greater (a b : St) (n : Nat) (w : World) (hn : a.d = n) (h : a.B b) :
    Calls Tryz.prog 103 #[a.val, b.val, .func (.func 104) #[] #[]] w fun e w' => e = .returned (.tuple #[(St.part true a b n).val, .bool true]) ∧ Below w.heap.size w w' := by
  have hn3 : n ≤ 3 := by have := h.1; unfold St.R at this; omega
  obtain ⟨ha, hb, hd⟩ := h
  have HA := Lib.hid (right_is (decide_eq_true ha) (right_any a)); have HB := Lib.hid (right_is (decide_eq_true hb) (right_any b)); clear ha hb
  obtain ⟨d, e, x, y, z⟩ := a
  obtain ⟨d', e', x', y', z'⟩ := b
  unfold St.val at *
  simp only at hd hn HA HB ⊢
  subst hd
  subst hn
  have hz := zero_made ((w.alloc (.cells #[.int .i64 (n : Int), .int .i64 e, .int .i64 x, .int .i64 y, .int .i64 z] 49)).alloc (.cells #[.int .i64 (n : Int), .int .i64 e', .int .i64 x', .int .i64 y', .int .i64 z'] 49))
  have hya := ((Holds.made w ⟨(n : Int), e, x, y, z⟩).alloc (.cells #[.int .i64 (n : Int), .int .i64 e', .int .i64 x', .int .i64 y', .int .i64 z'] 49)).alloc (.cells #[.int .i64 0, .int .i64 0, .int .i64 0, .int .i64 0, .int .i64 0] 49)
  have hyb := (Holds.made (w.alloc (.cells #[.int .i64 (n : Int), .int .i64 e, .int .i64 x, .int .i64 y, .int .i64 z] 49)) ⟨(n : Int), e', x', y', z'⟩).alloc (.cells #[.int .i64 0, .int .i64 0, .int .i64 0, .int .i64 0, .int .i64 0] 49)
  rw [size_alloc, size_alloc] at hz
  rw [size_alloc] at hyb
  have HZ := Lib.hid hz; have HYA := Lib.hid hya; have HYB := Lib.hid hyb; clear hz hya hyb
  go_enter Tryz.func103, Tryz.ntmps103
  go_wp2_with fail
  refine (HA.out _).mono ?_; rintro e1 w1 ⟨rfl, hb1⟩
  obtain ⟨hc1, hf1⟩ := old_cells hb1
  have HB1 := Lib.hid hb1; clear hb1
  go_wp2_with fail
  refine (HB.out _).mono ?_; rintro e2 w2 ⟨rfl, hb2⟩
  have hb12 := HB1.out.trans (hb2.mono HB1.out.size)
  clear hc1 hf1
  have h0 := HYA.out.below hb12; have h1 := HYB.out.below hb12; have h2 := HZ.out.below hb12
  have hbw := below3 hb12
  have hsz := hb12.size
  simp only [size_alloc] at hsz
  obtain ⟨a0, a1, a2, a3, a4⟩ := h0.cells5
  obtain ⟨b0, b1, b2, b3, b4⟩ := h1.cells5
  simp only at a0 a1 a2 a3 a4 b0 b1 b2 b3 b4
  have H0 := Lib.hid h0; have H1 := Lib.hid h1; have H2 := Lib.hid h2; have HW := Lib.hid hbw
  clear h0 h1 h2 hb12 hb2 hbw HB1 HYA HYB HZ
  have n0 : w.heap.size < w2.heap.size := by omega
  have n1 : w.heap.size + 1 < w2.heap.size := by omega
  have n2 : w.heap.size + 1 + 1 < w2.heap.size := by omega
  have m0 : w.heap.size ≠ w2.heap.size := by omega
  have m1 : w.heap.size + 1 ≠ w2.heap.size := by omega
  have m2 : w.heap.size + 1 + 1 ≠ w2.heap.size := by omega
  clear hsz
  go_wp2_with fail
  have h0 := H0.out.drewN 1; have h1 := H1.out.drewN 1; have h2 := H2.out.drewN 1; have hbw := below_drewN HW.out 1
  have q2 : w.heap.size + 1 + 1 < (w2.drewN 1).heap.size := n2
  clear a0 a1 a2 a3 a4 b0 b1 b2 b3 b4 H0 H1 H2 HW n0 n1 n2 m0 m1 m2
  have hdr : w2.drew = w2.drewN 1 := rfl
  have HDR := Lib.hid hdr; clear hdr
  obtain ⟨W, hW⟩ : ∃ W, W = w2.drewN 1 := ⟨_, rfl⟩
  rw [← hW] at h0 h1 h2 hbw q2
  rw [← hW] at HDR
  clear hW
  have H0 := Lib.hid h0; have H1 := Lib.hid h1; have H2 := Lib.hid h2; have HW := Lib.hid hbw; have HQ := Lib.hid q2
  clear h0 h1 h2 hbw q2
  refine Stage.wp_region (by kernel_rfl) (by kernel_rfl) (Stage.two 9 10 (fun b1 b2 w' => w' = if b2 then W.alloc (.cells #[.int .i64 (n : Int), .int .i64 (pk true e e'), .int .i64 0, .int .i64 0, .int .i64 0] 49) else wz W b1)) (Stage.two_start (by simp) (by simp) HDR.out) ?_
  refine Stage.wpSt_do (.pointer (some ⟨w.heap.size, 0, none⟩)) rfl (Stage.two_step (by kernel_rfl) (fun b w' hw => ?_)) ?_
  · exact at_of (by go_simp) hw
  go_simp
  refine Stage.wpSt_do (.int .i64 (n : Int)) rfl (Stage.two_step (by kernel_rfl) (fun b w' hw => ?_)) ?_
  · exact Free.at_load _ _ rfl rfl (load_d H0.out w' (wz_below hw)) hw
  go_simp
  refine Stage.wpSt_do (.func (.func 104) #[] #[]) rfl (Stage.two_step (by kernel_rfl) (fun b w' hw => ?_)) ?_
  · exact at_of (by go_simp) hw
  go_simp
  refine Stage.wpSt_do (.pointer (some ⟨w.heap.size, 1, none⟩)) rfl (Stage.two_step (by kernel_rfl) (fun b w' hw => ?_)) ?_
  · exact at_of (by go_simp) hw
  go_simp
  refine Stage.wpSt_do (.int .i64 e) rfl (Stage.two_step (by kernel_rfl) (fun b w' hw => ?_)) ?_
  · exact Free.at_load _ _ rfl rfl (load_e H0.out w' (wz_below hw)) hw
  go_simp
  refine Stage.wpSt_do (.pointer (some ⟨w.heap.size + 1, 1, none⟩)) rfl (Stage.two_step (by kernel_rfl) (fun b w' hw => ?_)) ?_
  · exact at_of (by go_simp) hw
  go_simp
  refine Stage.wpSt_do (.int .i64 e') rfl (Stage.two_step (by kernel_rfl) (fun b w' hw => ?_)) ?_
  · exact Free.at_load _ _ rfl rfl (load_e H1.out w' (wz_below hw)) hw
  go_simp
  refine Stage.wpSt_do (.int .i64 (pk true e e')) rfl (Stage.two_step (by kernel_rfl) (fun b w' hw => ?_)) ?_
  · refine at_fn (f := 104) _ _ _ rfl rfl Tryz.func104 (by kernel_rfl) rfl [.int .i64 e, .int .i64 e'] rfl ((greater_any _ _ _).mono fun _ _ h => ⟨h.1, by rw [h.2]; exact hw⟩)
  go_simp
  refine Stage.wpSt_do (.agg #[.int .i64 (n : Int), .int .i64 (pk true e e'), .int .i64 0, .int .i64 0, .int .i64 0]) rfl (Stage.two_step (by kernel_rfl) (fun b w' hw => ?_)) ?_
  · exact at_of (by go_simp) hw
  go_simp
  refine Stage.wpSt_do (.pointer (some ⟨W.heap.size, 0, none⟩)) rfl (Stage.two_first (by decide) (by kernel_rfl) (fun w' hw => ?_)) ?_
  · have hw' : w' = W := hw
    clear hw; subst hw'
    exact at_made (w' := w'.alloc (.cells #[.int .i64 0, .int .i64 0, .int .i64 0, .int .i64 0, .int .i64 0] 49)) (by go_simp) rfl
  go_simp
  refine Stage.wpSt_do undef rfl (Stage.two_then (by decide) (by kernel_rfl) (fun w' hw => ?_)) ?_
  · have hw' : w' = W.alloc (.cells #[.int .i64 0, .int .i64 0, .int .i64 0, .int .i64 0, .int .i64 0] 49) := hw
    clear hw; subst hw'
    exact at_skip (w' := W.alloc (.cells #[.int .i64 (n : Int), .int .i64 (pk true e e'), .int .i64 0, .int .i64 0, .int .i64 0] 49)) (by go_simp) rfl
  go_simp
  refine Stage.wpSt_nil (Stage.two_end ?_)
  intro w3 hw3
  have hw4 : w3 = W.alloc (.cells #[.int .i64 (n : Int), .int .i64 (pk true e e'), .int .i64 0, .int .i64 0, .int .i64 0] 49) := hw3
  subst hw4
  have m0 : w.heap.size ≠ W.heap.size := by have := HQ.out; omega
  have m1 : w.heap.size + 1 ≠ W.heap.size := by have := HQ.out; omega
  have m2 : w.heap.size + 1 + 1 ≠ W.heap.size := by have := HQ.out; omega
  clear hw3
  go_wp2_with fail
  go_loopw [37] (fun i wr => ∃ k : Nat, k ≤ n ∧ i = .int .i64 k ∧ Holds wr w.heap.size ⟨(n : Int), e, x, y, z⟩ ∧ Holds wr (w.heap.size + 1) ⟨(n : Int), e', x', y', z'⟩ ∧ Holds wr (w.heap.size + 1 + 1) St.zero ∧ Holds wr W.heap.size (St.part true ⟨(n : Int), e, x, y, z⟩ ⟨(n : Int), e', x', y', z'⟩ k) ∧ Below w.heap.size w wr) (fun i _ => n - (intOf i).toNat)
  case atStart => exact ⟨0, by omega, rfl, H0.out.alloc _, H1.out.alloc _, H2.out.alloc _, Holds.made W (St.part true ⟨(n : Int), e, x, y, z⟩ ⟨(n : Int), e', x', y', z'⟩ 0), HW.out.alloc HW.out.size _⟩
  case round =>
    obtain ⟨k, hk, rfl, h0, h1, h2, h3, hbw⟩ := hrel
    obtain ⟨c0, c1, c2, c3, c4⟩ := h0.cells5
    obtain ⟨d0, d1, d2, d3, d4⟩ := h1.cells5
    obtain ⟨f0, f1, f2, f3, f4⟩ := h3.free5
    obtain ⟨e0, e1, e2, e3, e4⟩ := h3.cells5
    simp only at c0 c1 c2 c3 c4 d0 d1 d2 d3 d4
    have HH0 := Lib.hid h0; have HH1 := Lib.hid h1; have HH2 := Lib.hid h2; have HH3 := Lib.hid h3; have HHW := Lib.hid hbw
    clear h0 h1 h2 h3 hbw H0 H1 H2 c0 c1 d0 d1
    by_cases hlt : k < n
    · simp only [St.part] at e0 e1 e2 e3 e4
      clear e0 e1
      have hcase : k = 0 ∨ k = 1 ∨ k = 2 := by omega
      clear hk
      rcases hcase with rfl | rfl | rfl
      · go_wp2_with fail
        refine wp_tail 13 (by kernel_rfl) (by kernel_rfl) ?_
        simp only [List.take_succ_cons, List.take_zero, List.drop_succ_cons, List.drop_zero]
        repeat still_step
        still_call (greater_any _ _ _)
        repeat still_step
        refine wpStill_nil ?_
        go_wp2_with fail
        go_roundw
        case rel => exact ⟨1, by omega, rfl, (HH0.out.drewN 1).far (by have := HQ.out; simp; omega) _, (HH1.out.drewN 1).far (by have := HQ.out; simp; omega) _, (HH2.out.drewN 1).far (by have := HQ.out; simp; omega) _, (HH3.out.drewN 1).set 2 _ (by simp [St.part]), (below_drewN HHW.out 1).setCell (by have := HQ.out; simp; omega) _⟩
        case measure => simp [intOf]; omega
      · go_wp2_with fail
        refine wp_tail 13 (by kernel_rfl) (by kernel_rfl) ?_
        simp only [List.take_succ_cons, List.take_zero, List.drop_succ_cons, List.drop_zero]
        repeat still_step
        still_call (greater_any _ _ _)
        repeat still_step
        refine wpStill_nil ?_
        go_wp2_with fail
        go_roundw
        case rel => exact ⟨2, by omega, rfl, (HH0.out.drewN 1).far (by have := HQ.out; simp; omega) _, (HH1.out.drewN 1).far (by have := HQ.out; simp; omega) _, (HH2.out.drewN 1).far (by have := HQ.out; simp; omega) _, (HH3.out.drewN 1).set 3 _ (by simp [St.part]), (below_drewN HHW.out 1).setCell (by have := HQ.out; simp; omega) _⟩
        case measure => simp [intOf]; omega
      · go_wp2_with fail
        refine wp_tail 13 (by kernel_rfl) (by kernel_rfl) ?_
        simp only [List.take_succ_cons, List.take_zero, List.drop_succ_cons, List.drop_zero]
        repeat still_step
        still_call (greater_any _ _ _)
        repeat still_step
        refine wpStill_nil ?_
        go_wp2_with fail
        go_roundw
        case rel => exact ⟨3, by omega, rfl, (HH0.out.drewN 1).far (by have := HQ.out; simp; omega) _, (HH1.out.drewN 1).far (by have := HQ.out; simp; omega) _, (HH2.out.drewN 1).far (by have := HQ.out; simp; omega) _, (HH3.out.drewN 1).set 4 _ (by simp [St.part]), (below_drewN HHW.out 1).setCell (by have := HQ.out; simp; omega) _⟩
        case measure => simp [intOf]; omega
    · obtain rfl : k = n := by omega
      obtain ⟨z0, z1, z2, z3, z4⟩ := HH2.out.free5
      obtain ⟨y0, y1, y2, y3, y4⟩ := HH2.out.cells5
      obtain ⟨T, hT⟩ : ∃ T, T = St.part true ⟨(k : Int), e, x, y, z⟩ ⟨(k : Int), e', x', y', z'⟩ k := ⟨_, rfl⟩
      rw [← hT] at e0 e1 e2 e3 e4
      have HT := Lib.hid hT; clear hT
      go_wp2_with fail
      refine bodyPost_ret (v := .tuple #[.agg #[.int .i64 T.d, .int .i64 T.e, .int .i64 T.x, .int .i64 T.y, .int .i64 T.z], .bool true]) (two_results rfl _ _ _ 49 _ (0, 0) _ rfl (Holds.all HH2.out _ _ _ _ _) Tryz.underlying49 rfl (by kernel_rfl) rfl) rfl ?_
      exact ⟨by rw [HT.out], below_set5 (g := w.heap.size + 1 + 1) HHW.out (by omega)⟩
end

section
open Go.ChangeShapes Go.WideShapes Go.ChangeAt Go.RowKit Go.BigFrame
set_option maxRecDepth 100000
theorem both_Join (a b : St) (w : World) : Calls Tryz.prog 103 #[a.val, b.val, .func (.func 104) #[] #[]] w fun e w' => e = .returned (.tuple #[(St.pick true a b).val, .bool (decide (a.B b))]) ∧ Below w.heap.size w w' := by
  by_cases h : a.B b
  · obtain ⟨n, hn⟩ : ∃ n : Nat, a.d = n := ⟨a.d.toNat, by have := h.1; unfold St.R at this; omega⟩
    have := both_yes_greater a b n w hn h
    rw [part_d _ _ _ h hn] at this
    rw [decide_eq_true h]; exact this
  · have := both_no_greater a b w h
    rw [decide_eq_false h, St.pick, if_neg h]; exact this
theorem join_any (a b : St) (w : World) : Calls Tryz.prog 50 #[a.val, b.val] w fun e w' => e = .returned (.tuple #[(a.join b).val, .bool (decide (a.B b))]) ∧ Below w.heap.size w w' := by
  have hc := fun w => both_Join a b w
  rw [pick_join] at hc
  generalize a.join b = T at *
  generalize decide (a.B b) = B at *
  have HC := Lib.hid hc; clear hc
  obtain ⟨d, e, x, y, z⟩ := a
  obtain ⟨d', e', x', y', z'⟩ := b
  obtain ⟨p, q, r, s, t⟩ := T
  unfold St.val at *
  simp only at HC ⊢
  have hz := zero_made ((w.alloc (.cells #[.int .i64 d, .int .i64 e, .int .i64 x, .int .i64 y, .int .i64 z] 49)).alloc (.cells #[.int .i64 d', .int .i64 e', .int .i64 x', .int .i64 y', .int .i64 z'] 49))
  rw [size_alloc, size_alloc] at hz
  have HZ := Lib.hid hz; clear hz
  go_enter Tryz.func50, Tryz.ntmps50
  go_wp2_with fail
  refine (HC.out _).mono ?_; rintro e1 w1 ⟨rfl, hb1⟩
  have h2 := HZ.out.below hb1
  obtain ⟨f0, f1, f2, f3, f4⟩ := h2.free5
  obtain ⟨c0, c1, c2, c3, c4⟩ := h2.cells5
  have H2 := Lib.hid h2; have HB := Lib.hid hb1; clear h2 hb1
  go_wp2_with fail
  refine bodyPost_ret (v := .tuple #[.agg #[.int .i64 p, .int .i64 q, .int .i64 r, .int .i64 s, .int .i64 t], .bool B]) (two_results rfl _ _ _ 49 _ (0, 0) _ rfl (Holds.all H2.out _ _ _ _ _) Tryz.underlying49 rfl (by kernel_rfl) rfl) rfl ?_
  exact ⟨rfl, below_set5 (g := w.heap.size + 1 + 1) (below3 HB.out) (by omega)⟩
end

section
open Go.ChangeShapes Go.WideShapes Go.ChangeAt Go.RowKit Go.BigFrame
set_option maxRecDepth 100000
def ov (o : Option St) : St := o.getD St.zero
theorem stBelow2 {w w' : World} {a b : Obj} (h : Below ((w.alloc a).alloc b).heap.size ((w.alloc a).alloc b) w') : Below w.heap.size w w' :=
  (((Below.refl _ _).alloc (Nat.le_refl _) _).alloc (by simp) _).trans (h.mono (by simp; omega))
end

section
open Go.ChangeShapes Go.WideShapes Go.ChangeAt Go.RowKit Go.BigFrame
set_option maxRecDepth 100000
theorem L_join (a b : St) (h : a.B b) : a.L b ↔ (a.join b).e = b.e ∧ (a.join b).x = b.x ∧ (a.join b).y = b.y ∧ (a.join b).z = b.z := by
  rw [St.join_eq h]
  unfold St.B at h
  unfold St.L
  simp only
  constructor
  · rintro ⟨h1, h2, h3, h4, h5, h6, h7⟩; omega
  · rintro ⟨h1, h2, h3, h4⟩; exact ⟨h.1, h.2.1, h.2.2, by omega, by omega, by omega, by omega⟩
set_option maxHeartbeats 1000000 in
theorem leq_any (a b : St) (w : World) : Calls Tryz.prog 23 #[a.val, b.val] w fun e w' => e = .returned (.bool (decide (a.L b))) ∧ Below w.heap.size w w' := by
  have hc := fun w => join_any a b w
  by_cases hB : a.B b
  · have hj := L_join a b hB
    have hdec : decide (a.L b) = (((a.join b).e == b.e) && eqL (a.join b).x (a.join b).y (a.join b).z b.x b.y b.z) := by
      unfold eqL
      rw [Bool.eq_iff_iff]
      simp [hj]
    rw [decide_eq_true hB] at hc
    rw [hdec]; clear hdec hj hB
    generalize a.join b = T at *
    have HC := Lib.hid hc; clear hc
    obtain ⟨d, e, x, y, z⟩ := a
    obtain ⟨d', e', x', y', z'⟩ := b
    obtain ⟨p, q, r, s, t⟩ := T
    unfold St.val at *
    simp only at HC ⊢
    have hy := Holds.made (w.alloc (.cells #[.int .i64 d, .int .i64 e, .int .i64 x, .int .i64 y, .int .i64 z] 49)) ⟨d', e', x', y', z'⟩
    rw [size_alloc] at hy
    have HY := Lib.hid hy; clear hy
    have hE : ∀ w, (Op.equalIn 10000 42 (.agg #[.int .i64 r, .int .i64 s, .int .i64 t]) (.agg #[.int .i64 x', .int .i64 y', .int .i64 z'])).run Tryz.prog w = .ok (eqL r s t x' y' z') w := fun w => eq3 9998 _ _ _ _ _ _ w
    generalize eqL r s t x' y' z' = v at *
    have HE := Lib.hid hE; clear hE
    by_cases hq : q = e'
    · subst hq
      rw [beq_self_eq_true, Bool.true_and]
      go_enter Tryz.func23, Tryz.ntmps23
      go_wp2_with fail
      refine (HC.out _).mono ?_; rintro e1 w1 ⟨rfl, hb1⟩
      have h2 := HY.out.below hb1
      have hbw := stBelow2 hb1
      have hsz := hb1.size
      simp only [size_alloc] at hsz
      obtain ⟨c0, c1, c2, c3, c4⟩ := h2.cells5
      simp only at c0 c1 c2 c3 c4
      have m1 : w.heap.size + 1 ≠ w1.heap.size := by omega
      have m2 : w.heap.size + 1 < w1.heap.size := by omega
      have hE := HE.out
      have HB := Lib.hid hbw; clear h2 hb1 hbw hsz
      go_wp2_with fail
      go_ret
      exact ⟨rfl, HB.out.alloc HB.out.size _⟩
    · have hq' : (q == e') = false := by rw [beq_eq_false_iff_ne]; exact hq
      rw [hq', Bool.false_and]
      clear hq
      go_enter Tryz.func23, Tryz.ntmps23
      go_wp2_with fail
      refine (HC.out _).mono ?_; rintro e1 w1 ⟨rfl, hb1⟩
      have h2 := HY.out.below hb1
      have hbw := stBelow2 hb1
      have hsz := hb1.size
      simp only [size_alloc] at hsz
      obtain ⟨c0, c1, c2, c3, c4⟩ := h2.cells5
      simp only at c0 c1 c2 c3 c4
      have m1 : w.heap.size + 1 ≠ w1.heap.size := by omega
      have m2 : w.heap.size + 1 < w1.heap.size := by omega
      have HB := Lib.hid hbw; clear h2 hb1 hbw hsz
      go_wp2_with fail
      go_ret
      exact ⟨rfl, HB.out.alloc HB.out.size _⟩
  · have hl : decide (a.L b) = false := by rw [decide_eq_false_iff_not]; exact fun h => hB (St.L_B h)
    rw [decide_eq_false hB] at hc
    rw [hl]; clear hl hB
    generalize a.join b = T at *
    have HC := Lib.hid hc; clear hc
    obtain ⟨d, e, x, y, z⟩ := a
    obtain ⟨d', e', x', y', z'⟩ := b
    obtain ⟨p, q, r, s, t⟩ := T
    unfold St.val at *
    simp only at HC ⊢
    go_enter Tryz.func23, Tryz.ntmps23
    go_wp2_with fail
    refine (HC.out _).mono ?_; rintro e1 w1 ⟨rfl, hb1⟩
    have HB := Lib.hid (stBelow2 hb1); clear hb1
    go_wp2_with fail
    go_ret
    exact ⟨rfl, HB.out.alloc HB.out.size _⟩
end

section
open Go.ChangeShapes Go.WideShapes Go.ChangeAt Go.RowKit Go.BigFrame
set_option maxRecDepth 100000
def or_ (p q : Int) : Int := if p = 0 then q else p
def Ck (s0 s1 s2 s3 s4 : Int) : Nat → Int
  | 0 => or_ s0 s1
  | 1 => or_ (or_ s0 s1) s2
  | 2 => or_ (or_ (or_ s0 s1) s2) s3
  | _ => or_ (or_ (or_ (or_ s0 s1) s2) s3) s4
theorem Ck_C (a b : St) : Ck (sgn a.d b.d) (sgn a.e b.e) (sgn a.x b.x) (sgn a.y b.y) (sgn a.z b.z) 3 = a.C b := by
  unfold St.C
  generalize sgn a.d b.d = s0
  generalize sgn a.e b.e = s1
  generalize sgn a.x b.x = s2
  generalize sgn a.y b.y = s3
  generalize sgn a.z b.z = s4
  by_cases h0 : s0 = 0 <;> by_cases h1 : s1 = 0 <;> by_cases h2 : s2 = 0 <;> by_cases h3 : s3 = 0 <;> simp [Ck, or_, h0, h1, h2, h3]
theorem or_z (q : Int) : or_ 0 q = q := if_pos rfl
theorem or_n {p : Int} (h : p ≠ 0) (q : Int) : or_ p q = p := if_neg h
end

section
open Go.ChangeShapes Go.WideShapes Go.ChangeAt Go.RowKit Go.BigFrame
set_option maxRecDepth 100000
theorem nan_any (a : Int) (w : World) : Calls Tryz.prog 141 #[.int .i64 a] w fun e w' => e = .returned (.bool false) ∧ w = w' := by
  go_enter Tryz.func141, Tryz.ntmps141
  go_wp2_with fail
  go_ret
  exact ⟨rfl, rfl⟩
theorem cmpCompare_any (a b : Int) (w : World) : Calls Tryz.prog 107 #[.int .i64 a, .int .i64 b] w fun e w' => e = .returned (.int .i64 (sgn a b)) ∧ w = w' := by
  rcases sgn_cases a b with ⟨h, e⟩ | ⟨h, e⟩ | ⟨h, e⟩ <;> rw [e] <;> clear e
  · go_enter Tryz.func107, Tryz.ntmps107
    go_wp2_with fail
    refine (nan_any _ _).mono ?_; rintro e w' ⟨rfl, rfl⟩
    go_wp2_with fail
    refine (nan_any _ _).mono ?_; rintro e w' ⟨rfl, rfl⟩
    go_wp2_with fail
    go_ret
    exact ⟨rfl, rfl⟩
  · have h2 : ¬ a < b := by omega
    go_enter Tryz.func107, Tryz.ntmps107
    go_wp2_with fail
    refine (nan_any _ _).mono ?_; rintro e w' ⟨rfl, rfl⟩
    go_wp2_with fail
    refine (nan_any _ _).mono ?_; rintro e w' ⟨rfl, rfl⟩
    go_wp2_with fail
    go_ret
    exact ⟨rfl, rfl⟩
  · subst h
    go_enter Tryz.func107, Tryz.ntmps107
    go_wp2_with fail
    refine (nan_any _ _).mono ?_; rintro e w' ⟨rfl, rfl⟩
    go_wp2_with fail
    refine (nan_any _ _).mono ?_; rintro e w' ⟨rfl, rfl⟩
    go_wp2_with fail
    go_ret
    exact ⟨rfl, rfl⟩
theorem or_any (b : Nat) (p q : Int) (w : World) (h0 : w.cell? ⟨b, 0, none⟩ = some (.int .i64 p)) (h1 : w.cell? ⟨b, 1, none⟩ = some (.int .i64 q)) :
    Calls Tryz.prog 106 #[.slice (some ⟨b, 0, none⟩) 2 2] w fun e w' => e = .returned (.int .i64 (or_ p q)) ∧ w = w' := by
  by_cases hp : p = 0
  · subst hp
    rw [or_z]
    by_cases hq : q = 0
    · subst hq
      go_enter Tryz.func106, Tryz.ntmps106
      go_wp2_with fail
      go_loop [5, 8] (fun c i => ∃ k : Nat, k ≤ 2 ∧ i = .int .i64 k) (fun c i => 2 - (intOf i).toNat)
      case atStart => exact ⟨0, by omega, rfl⟩
      case round =>
        obtain ⟨k, hk, rfl⟩ := hrel
        have hcase : k = 0 ∨ k = 1 ∨ k = 2 := by omega
        clear hk
        rcases hcase with rfl | rfl | rfl
        · go_wp2_with fail
          go_round
          case rel => exact ⟨1, by omega, rfl⟩
          case measure => simp [intOf]
        · go_wp2_with fail
          go_round
          case rel => exact ⟨2, by omega, rfl⟩
          case measure => simp [intOf]
        · go_wp2_with fail
          go_ret
          exact ⟨rfl, rfl⟩
    · have hq' : (q != 0) = true := by simpa using hq
      have Hq := Lib.hid hq; clear hq
      go_enter Tryz.func106, Tryz.ntmps106
      go_wp2_with fail
      go_loop [5, 8] (fun c i => ∃ k : Nat, k ≤ 1 ∧ i = .int .i64 k) (fun c i => 2 - (intOf i).toNat)
      case atStart => exact ⟨0, by omega, rfl⟩
      case round =>
        obtain ⟨k, hk, rfl⟩ := hrel
        have hcase : k = 0 ∨ k = 1 := by omega
        clear hk
        rcases hcase with rfl | rfl
        · go_wp2_with fail
          go_round
          case rel => exact ⟨1, by omega, rfl⟩
          case measure => simp [intOf]
        · go_wp2_with fail
          go_ret
          exact ⟨rfl, rfl⟩
  · have hp' : (p != 0) = true := by simpa using hp
    rw [or_n hp]
    clear hp
    go_enter Tryz.func106, Tryz.ntmps106
    go_wp2_with fail
    go_loop [5, 8] (fun c i => i = .int .i64 0) (fun c i => 2 - (intOf i).toNat)
    case atStart => rfl
    case round =>
      subst hrel
      go_wp2_with fail
      go_ret
      exact ⟨rfl, rfl⟩
end

section
open Go.ChangeShapes Go.WideShapes Go.ChangeAt Go.RowKit Go.BigFrame
set_option maxRecDepth 100000
def Grew (w w' : World) : Prop := Below w.heap.size w w' ∧ w.drawn ≤ w'.drawn
theorem Grew.refl (w : World) : Grew w w := ⟨Below.refl _ _, Nat.le_refl _⟩
theorem Grew.alloc {w w' : World} (h : Grew w w') (o : Obj) : Grew w (w'.alloc o) := ⟨h.1.alloc h.1.size o, h.2⟩
theorem Grew.drewN {w w' : World} (h : Grew w w') (n : Nat) : Grew w (w'.drewN n) := ⟨below_drewN h.1 n, Nat.le_trans h.2 (Nat.le_add_right _ _)⟩
theorem cc_same (a b : Int) (w : World) : Calls Tryz.prog 107 #[.int .i64 a, .int .i64 b] w fun e w' => e = .returned (.int .i64 (sgn a b)) ∧ w' = w := (cmpCompare_any a b w).mono fun _ _ h => ⟨h.1, h.2.symm⟩
theorem Ck_stay {s0 s1 s2 s3 s4 : Int} {k : Nat} (h : Ck s0 s1 s2 s3 s4 k ≠ 0) : Ck s0 s1 s2 s3 s4 3 = Ck s0 s1 s2 s3 s4 k := by
  match k with
  | 0 => have h' : or_ s0 s1 ≠ 0 := h
         show or_ (or_ (or_ (or_ s0 s1) s2) s3) s4 = or_ s0 s1
         rw [or_n h', or_n h', or_n h']
  | 1 => have h' : or_ (or_ s0 s1) s2 ≠ 0 := h
         show or_ (or_ (or_ (or_ s0 s1) s2) s3) s4 = or_ (or_ s0 s1) s2
         rw [or_n h', or_n h']
  | 2 => have h' : or_ (or_ (or_ s0 s1) s2) s3 ≠ 0 := h
         show or_ (or_ (or_ (or_ s0 s1) s2) s3) s4 = or_ (or_ (or_ s0 s1) s2) s3
         rw [or_n h']
  | _ + 3 => rfl
set_option maxHeartbeats 2000000 in
theorem compare_grew (a b : St) (w : World) : Calls Tryz.prog 53 #[a.val, b.val] w fun e w' => e = .returned (.int .i64 (a.C b)) ∧ Grew w w' := by
  have hC := Ck_C a b
  obtain ⟨d, e, x, y, z⟩ := a
  obtain ⟨d', e', x', y', z'⟩ := b
  unfold St.val
  simp only at hC ⊢
  rw [← hC]; clear hC
  have S0 := Lib.hid (cc_same d d'); have S1 := Lib.hid (cc_same e e'); have S2 := Lib.hid (cc_same x x'); have S3 := Lib.hid (cc_same y y'); have S4 := Lib.hid (cc_same z z')
  generalize sgn d d' = s0 at *
  generalize sgn e e' = s1 at *
  generalize sgn x x' = s2 at *
  generalize sgn y y' = s3 at *
  generalize sgn z z' = s4 at *
  have hk0 : Ck s0 s1 s2 s3 s4 0 = or_ s0 s1 := rfl
  have hk1 : Ck s0 s1 s2 s3 s4 0 = 0 → Ck s0 s1 s2 s3 s4 1 = s2 := fun h => by show or_ (or_ s0 s1) s2 = s2; rw [show or_ s0 s1 = 0 from h, or_z]
  have hk2 : Ck s0 s1 s2 s3 s4 1 = 0 → Ck s0 s1 s2 s3 s4 2 = s3 := fun h => by show or_ (or_ (or_ s0 s1) s2) s3 = s3; rw [show or_ (or_ s0 s1) s2 = 0 from h, or_z]
  have hk3 : Ck s0 s1 s2 s3 s4 2 = 0 → Ck s0 s1 s2 s3 s4 3 = s4 := fun h => by show or_ (or_ (or_ (or_ s0 s1) s2) s3) s4 = s4; rw [show or_ (or_ (or_ s0 s1) s2) s3 = 0 from h, or_z]
  have hst : ∀ k, Ck s0 s1 s2 s3 s4 k ≠ 0 → Ck s0 s1 s2 s3 s4 3 = Ck s0 s1 s2 s3 s4 k := fun k h => Ck_stay h
  generalize Ck s0 s1 s2 s3 s4 = F at *
  have Hst := Lib.hid hst; have Hk1 := Lib.hid hk1; have Hk2 := Lib.hid hk2; have Hk3 := Lib.hid hk3; clear hst hk1 hk2 hk3
  have hor := fun b w h0 h1 => or_any b s0 s1 w h0 h1
  rw [← hk0] at hor
  have Hor := Lib.hid hor; clear hor hk0
  by_cases hz : F 0 = 0
  · have HZ := Lib.hid hz
    have hv : (F 0 != 0) = false := by rw [hz]; rfl
    clear hz
    go_enter Tryz.func53, Tryz.ntmps53
    go_wp2_with fail
    refine wp_tail 10 (by kernel_rfl) (by kernel_rfl) ?_
    simp only [List.take_succ_cons, List.take_zero, List.drop_succ_cons, List.drop_zero]
    still_step
    still_step
    still_step
    still_step
    still_call (S0.out _)
    still_step
    still_step
    still_step
    still_step
    still_call (S1.out _)
    refine wpStill_nil ?_
    go_wp2_with fail
    refine (Hor.out _ _ (by go_simp) (by go_simp)).mono ?_; rintro e w' ⟨rfl, rfl⟩
    have hr0 : Row ((w.alloc (.cells #[.int .i64 d, .int .i64 e, .int .i64 x, .int .i64 y, .int .i64 z] 49)).alloc (.cells #[.int .i64 d', .int .i64 e', .int .i64 x', .int .i64 y', .int .i64 z'] 49)) w.heap.size 49 [.int .i64 d, .int .i64 e, .int .i64 x, .int .i64 y, .int .i64 z] := (Row.made w _ _).alloc _
    have hr1 := Row.made (w.alloc (.cells #[.int .i64 d, .int .i64 e, .int .i64 x, .int .i64 y, .int .i64 z] 49)) 49 [.int .i64 d', .int .i64 e', .int .i64 x', .int .i64 y', .int .i64 z']
    rw [size_alloc] at hr1
    have HR0 := Lib.hid hr0; have HR1 := Lib.hid hr1; clear hr0 hr1
    go_wp2_with fail
    go_loopw [23] (fun i wr => ∃ k : Nat, k ≤ 3 ∧ i = .int .i64 k ∧ F k = 0 ∧ Row wr w.heap.size 49 [.int .i64 d, .int .i64 e, .int .i64 x, .int .i64 y, .int .i64 z] ∧ Row wr (w.heap.size + 1) 49 [.int .i64 d', .int .i64 e', .int .i64 x', .int .i64 y', .int .i64 z'] ∧ Grew w wr) (fun i _ => 3 - (intOf i).toNat)
    case atStart => exact ⟨0, by omega, rfl, HZ.out, (HR0.out.drewN 1).alloc _, (HR1.out.drewN 1).alloc _, ((((Grew.refl w).alloc _).alloc _).drewN 1).alloc _⟩
    case round =>
      obtain ⟨k, hk, rfl, hF, hra, hrb, hbw⟩ := hrel
      have hcase : k = 0 ∨ k = 1 ∨ k = 2 ∨ k = 3 := by omega
      clear hk HR0 HR1 hv HZ Hor
      have a2 := hra.cell 2; have a3 := hra.cell 3; have a4 := hra.cell 4
      have b2 := hrb.cell 2; have b3 := hrb.cell 3; have b4 := hrb.cell 4
      simp only [List.getElem?_cons_succ, List.getElem?_cons_zero] at a2 a3 a4 b2 b3 b4
      have HRA := Lib.hid hra; have HRB := Lib.hid hrb; have HBW := Lib.hid hbw; have HF := Lib.hid hF; clear hra hrb hbw hF
      rcases hcase with rfl | rfl | rfl | rfl
      · have hn := Hk1.out HF.out
        have HN := Lib.hid hn; clear hn
        by_cases hz : s2 = 0
        · subst hz
          go_wp2_with fail
          go_quiet ((exact Calls.quiet_of_same (S2.out _)))
          go_wp2
          go_roundw
          case rel => exact ⟨1, by omega, rfl, HN.out, HRA.out, HRB.out, HBW.out.drewN _⟩
          case measure => simp [intOf]
        · have hz' : (s2 != 0) = true := by simpa using hz
          have hq : F 3 = s2 := by rw [Hst.out 1 (by rw [HN.out]; exact hz), HN.out]
          have HQ := Lib.hid hq; clear hq hz
          go_wp2_with fail
          go_quiet ((exact Calls.quiet_of_same (S2.out _)))
          go_wp2
          go_ret
          exact ⟨ret_int HQ.out.symm, HBW.out.drewN _⟩
      · have hn := Hk2.out HF.out
        have HN := Lib.hid hn; clear hn
        by_cases hz : s3 = 0
        · subst hz
          go_wp2_with fail
          go_quiet ((exact Calls.quiet_of_same (S3.out _)))
          go_wp2
          go_roundw
          case rel => exact ⟨2, by omega, rfl, HN.out, HRA.out, HRB.out, HBW.out.drewN _⟩
          case measure => simp [intOf]
        · have hz' : (s3 != 0) = true := by simpa using hz
          have hq : F 3 = s3 := by rw [Hst.out 2 (by rw [HN.out]; exact hz), HN.out]
          have HQ := Lib.hid hq; clear hq hz
          go_wp2_with fail
          go_quiet ((exact Calls.quiet_of_same (S3.out _)))
          go_wp2
          go_ret
          exact ⟨ret_int HQ.out.symm, HBW.out.drewN _⟩
      · have hn := Hk3.out HF.out
        have HN := Lib.hid hn; clear hn
        by_cases hz : s4 = 0
        · subst hz
          go_wp2_with fail
          go_quiet ((exact Calls.quiet_of_same (S4.out _)))
          go_wp2
          go_roundw
          case rel => exact ⟨3, by omega, rfl, HN.out, HRA.out, HRB.out, HBW.out.drewN _⟩
          case measure => simp [intOf]
        · have hz' : (s4 != 0) = true := by simpa using hz
          have hq : F 3 = s4 := by rw [Hst.out 3 (by rw [HN.out]; exact hz), HN.out]
          have HQ := Lib.hid hq; clear hq hz
          go_wp2_with fail
          go_quiet ((exact Calls.quiet_of_same (S4.out _)))
          go_wp2
          go_ret
          exact ⟨ret_int HQ.out.symm, HBW.out.drewN _⟩
      · go_wp2_with fail
        go_ret
        exact ⟨ret_int HF.out.symm, HBW.out⟩
  · have hq : F 3 = F 0 := Hst.out 0 hz
    have HQ := Lib.hid hq
    have hv : (F 0 != 0) = true := by simpa using hz
    clear hz hq
    go_enter Tryz.func53, Tryz.ntmps53
    go_wp2_with fail
    refine wp_tail 10 (by kernel_rfl) (by kernel_rfl) ?_
    simp only [List.take_succ_cons, List.take_zero, List.drop_succ_cons, List.drop_zero]
    still_step
    still_step
    still_step
    still_step
    still_call (S0.out _)
    still_step
    still_step
    still_step
    still_step
    still_call (S1.out _)
    refine wpStill_nil ?_
    go_wp2_with fail
    refine (Hor.out _ _ (by go_simp) (by go_simp)).mono ?_; rintro e w' ⟨rfl, rfl⟩
    go_wp2_with fail
    go_ret
    exact ⟨ret_int HQ.out.symm, ((((Grew.refl w).alloc _).alloc _).drewN 1).alloc _⟩
end

section
open Go.ChangeShapes Go.WideShapes Go.ChangeAt Go.RowKit Go.BigFrame
set_option maxRecDepth 100000
theorem stCells_int : Tryz.prog.cellsOf 3 = 1 := by kernel_rfl
theorem cells_arr : Tryz.prog.cellsOf 42 = 3 := by kernel_rfl
end

section
open Go.ChangeShapes Go.WideShapes Go.ChangeAt Go.RowKit Go.BigFrame
set_option maxRecDepth 100000
end

section
open Go.ChangeShapes Go.WideShapes Go.ChangeAt Go.RowKit Go.BigFrame
set_option maxRecDepth 100000
section
variable {P : Program} {C : World → Prop} {K : Act → Prop} {a : Act} {o : Oper} {ops : Array Oper}
end
section
variable {P : Program} {C : World → Prop} {K : Act → Prop} {a : Act} {o : Oper} {ops : Array Oper}
end
end
end Go.Proofs.YtmhophmpbpbjaaaGreatDoor
