/- StCmpQ, StOpen, StRefLeq, StFrame, MxRow -/
import Derived.Test.YtcdofkhkckodjaaGreatDoorCa7
import Derived.Test.YtcdofkhkckodjaaGreatDoorCa0
import Derived.Laws.IdiomArrays
import Derived.OpenShut
import Derived.SizedLaws
import Derived.BigRegion
import Derived.RegionTactic
import Derived.Deep.DeepCutAuto
import Derived.Deep.CutRange
import Derived.Test.YtcdofkhkckodjaaGreatDoorCa5
import Derived.Laws.AppendOwnNone
import Derived.OwnWalk
import Derived.Shelf.Abstract
namespace Go.Proofs.YtcdofkhkckodjaaGreatDoor
set_option linter.unusedVariables false
section
open Go.ChangeShapes Go.WideShapes Go.ChangeAt Go.RowKit Go.BigFrame
set_option maxRecDepth 100000
def Grew (w w' : World) : Prop := Below w.heap.size w w' ∧ w.drawn ≤ w'.drawn
theorem Grew.refl (w : World) : Grew w w := ⟨Below.refl _ _, Nat.le_refl _⟩
theorem Grew.alloc {w w' : World} (h : Grew w w') (o : Obj) : Grew w (w'.alloc o) := ⟨h.1.alloc h.1.size o, h.2⟩
theorem Grew.drewN {w w' : World} (h : Grew w w') (n : Nat) : Grew w (w'.drewN n) := ⟨below_drewN h.1 n, Nat.le_trans h.2 (Nat.le_add_right _ _)⟩
theorem cc_same (a b : Int) (w : World) : Calls Tryz.prog 107 #[.int .i64 a, .int .i64 b] w fun e w' => e = .returned (.int .i64 (sgn a b)) ∧ w' = w := (cmpCompare_any a b w).mono fun _ _ h => ⟨h.1, h.2.symm⟩
theorem Ck_stay {s0 s1 s2 s3 s4 : Int} {k : Nat} (h : Ck s0 s1 s2 s3 s4 k ≠ 0) : Ck s0 s1 s2 s3 s4 3 = Ck s0 s1 s2 s3 s4 k := by
  match k with
  | 0 => have h' : or_ s0 s1 ≠ 0 := h
         show or_ (or_ (or_ (or_ s0 s1) s2) s3) s4 = or_ s0 s1
         rw [or_n h', or_n h', or_n h']
  | 1 => have h' : or_ (or_ s0 s1) s2 ≠ 0 := h
         show or_ (or_ (or_ (or_ s0 s1) s2) s3) s4 = or_ (or_ s0 s1) s2
         rw [or_n h', or_n h']
  | 2 => have h' : or_ (or_ (or_ s0 s1) s2) s3 ≠ 0 := h
         show or_ (or_ (or_ (or_ s0 s1) s2) s3) s4 = or_ (or_ (or_ s0 s1) s2) s3
         rw [or_n h']
  | _ + 3 => rfl
set_option maxHeartbeats 2000000 in
theorem compare_grew (a b : St) (w : World) : Calls Tryz.prog 53 #[a.val, b.val] w fun e w' => e = .returned (.int .i64 (a.C b)) ∧ Grew w w' := by
  have hC := Ck_C a b
  obtain ⟨d, e, x, y, z⟩ := a
  obtain ⟨d', e', x', y', z'⟩ := b
  unfold St.val
  simp only at hC ⊢
  rw [← hC]; clear hC
  have S0 := Lib.hid (cc_same d d'); have S1 := Lib.hid (cc_same e e'); have S2 := Lib.hid (cc_same x x'); have S3 := Lib.hid (cc_same y y'); have S4 := Lib.hid (cc_same z z')
  generalize sgn d d' = s0 at *
  generalize sgn e e' = s1 at *
  generalize sgn x x' = s2 at *
  generalize sgn y y' = s3 at *
  generalize sgn z z' = s4 at *
  have hk0 : Ck s0 s1 s2 s3 s4 0 = or_ s0 s1 := rfl
  have hk1 : Ck s0 s1 s2 s3 s4 0 = 0 → Ck s0 s1 s2 s3 s4 1 = s2 := fun h => by show or_ (or_ s0 s1) s2 = s2; rw [show or_ s0 s1 = 0 from h, or_z]
  have hk2 : Ck s0 s1 s2 s3 s4 1 = 0 → Ck s0 s1 s2 s3 s4 2 = s3 := fun h => by show or_ (or_ (or_ s0 s1) s2) s3 = s3; rw [show or_ (or_ s0 s1) s2 = 0 from h, or_z]
  have hk3 : Ck s0 s1 s2 s3 s4 2 = 0 → Ck s0 s1 s2 s3 s4 3 = s4 := fun h => by show or_ (or_ (or_ (or_ s0 s1) s2) s3) s4 = s4; rw [show or_ (or_ (or_ s0 s1) s2) s3 = 0 from h, or_z]
  have hst : ∀ k, Ck s0 s1 s2 s3 s4 k ≠ 0 → Ck s0 s1 s2 s3 s4 3 = Ck s0 s1 s2 s3 s4 k := fun k h => Ck_stay h
  generalize Ck s0 s1 s2 s3 s4 = F at *
  have Hst := Lib.hid hst; have Hk1 := Lib.hid hk1; have Hk2 := Lib.hid hk2; have Hk3 := Lib.hid hk3; clear hst hk1 hk2 hk3
  have hor := fun b w h0 h1 => or_any b s0 s1 w h0 h1
  rw [← hk0] at hor
  have Hor := Lib.hid hor; clear hor hk0
  by_cases hz : F 0 = 0
  · have HZ := Lib.hid hz
    have hv : (F 0 != 0) = false := by rw [hz]; rfl
    clear hz
    go_enter Tryz.func53, Tryz.ntmps53
    go_wp2_with fail
    refine wp_tail 10 (by kernel_rfl) (by kernel_rfl) ?_
    simp only [List.take_succ_cons, List.take_zero, List.drop_succ_cons, List.drop_zero]
    still_step
    still_step
    still_step
    still_step
    still_call (S0.out _)
    still_step
    still_step
    still_step
    still_step
    still_call (S1.out _)
    refine wpStill_nil ?_
    go_wp2_with fail
    refine (Hor.out _ _ (by go_simp) (by go_simp)).mono ?_; rintro e w' ⟨rfl, rfl⟩
    have hr0 : Row ((w.alloc (.cells #[.int .i64 d, .int .i64 e, .int .i64 x, .int .i64 y, .int .i64 z] 49)).alloc (.cells #[.int .i64 d', .int .i64 e', .int .i64 x', .int .i64 y', .int .i64 z'] 49)) w.heap.size 49 [.int .i64 d, .int .i64 e, .int .i64 x, .int .i64 y, .int .i64 z] := (Row.made w _ _).alloc _
    have hr1 := Row.made (w.alloc (.cells #[.int .i64 d, .int .i64 e, .int .i64 x, .int .i64 y, .int .i64 z] 49)) 49 [.int .i64 d', .int .i64 e', .int .i64 x', .int .i64 y', .int .i64 z']
    rw [size_alloc] at hr1
    have HR0 := Lib.hid hr0; have HR1 := Lib.hid hr1; clear hr0 hr1
    go_wp2_with fail
    go_loopw [23] (fun i wr => ∃ k : Nat, k ≤ 3 ∧ i = .int .i64 k ∧ F k = 0 ∧ Row wr w.heap.size 49 [.int .i64 d, .int .i64 e, .int .i64 x, .int .i64 y, .int .i64 z] ∧ Row wr (w.heap.size + 1) 49 [.int .i64 d', .int .i64 e', .int .i64 x', .int .i64 y', .int .i64 z'] ∧ Grew w wr) (fun i _ => 3 - (intOf i).toNat)
    case atStart => exact ⟨0, by omega, rfl, HZ.out, (HR0.out.drewN 1).alloc _, (HR1.out.drewN 1).alloc _, ((((Grew.refl w).alloc _).alloc _).drewN 1).alloc _⟩
    case round =>
      obtain ⟨k, hk, rfl, hF, hra, hrb, hbw⟩ := hrel
      have hcase : k = 0 ∨ k = 1 ∨ k = 2 ∨ k = 3 := by omega
      clear hk HR0 HR1 hv HZ Hor
      have a2 := hra.cell 2; have a3 := hra.cell 3; have a4 := hra.cell 4
      have b2 := hrb.cell 2; have b3 := hrb.cell 3; have b4 := hrb.cell 4
      simp only [List.getElem?_cons_succ, List.getElem?_cons_zero] at a2 a3 a4 b2 b3 b4
      have HRA := Lib.hid hra; have HRB := Lib.hid hrb; have HBW := Lib.hid hbw; have HF := Lib.hid hF; clear hra hrb hbw hF
      rcases hcase with rfl | rfl | rfl | rfl
      · have hn := Hk1.out HF.out
        have HN := Lib.hid hn; clear hn
        by_cases hz : s2 = 0
        · subst hz
          go_wp2_with fail
          go_quiet ((exact Calls.quiet_of_same (S2.out _)))
          go_wp2
          go_roundw
          case rel => exact ⟨1, by omega, rfl, HN.out, HRA.out, HRB.out, HBW.out.drewN _⟩
          case measure => simp [intOf]
        · have hz' : (s2 != 0) = true := by simpa using hz
          have hq : F 3 = s2 := by rw [Hst.out 1 (by rw [HN.out]; exact hz), HN.out]
          have HQ := Lib.hid hq; clear hq hz
          go_wp2_with fail
          go_quiet ((exact Calls.quiet_of_same (S2.out _)))
          go_wp2
          go_ret
          exact ⟨ret_int HQ.out.symm, HBW.out.drewN _⟩
      · have hn := Hk2.out HF.out
        have HN := Lib.hid hn; clear hn
        by_cases hz : s3 = 0
        · subst hz
          go_wp2_with fail
          go_quiet ((exact Calls.quiet_of_same (S3.out _)))
          go_wp2
          go_roundw
          case rel => exact ⟨2, by omega, rfl, HN.out, HRA.out, HRB.out, HBW.out.drewN _⟩
          case measure => simp [intOf]
        · have hz' : (s3 != 0) = true := by simpa using hz
          have hq : F 3 = s3 := by rw [Hst.out 2 (by rw [HN.out]; exact hz), HN.out]
          have HQ := Lib.hid hq; clear hq hz
          go_wp2_with fail
          go_quiet ((exact Calls.quiet_of_same (S3.out _)))
          go_wp2
          go_ret
          exact ⟨ret_int HQ.out.symm, HBW.out.drewN _⟩
      · have hn := Hk3.out HF.out
        have HN := Lib.hid hn; clear hn
        by_cases hz : s4 = 0
        · subst hz
          go_wp2_with fail
          go_quiet ((exact Calls.quiet_of_same (S4.out _)))
          go_wp2
          go_roundw
          case rel => exact ⟨3, by omega, rfl, HN.out, HRA.out, HRB.out, HBW.out.drewN _⟩
          case measure => simp [intOf]
        · have hz' : (s4 != 0) = true := by simpa using hz
          have hq : F 3 = s4 := by rw [Hst.out 3 (by rw [HN.out]; exact hz), HN.out]
          have HQ := Lib.hid hq; clear hq hz
          go_wp2_with fail
          go_quiet ((exact Calls.quiet_of_same (S4.out _)))
          go_wp2
          go_ret
          exact ⟨ret_int HQ.out.symm, HBW.out.drewN _⟩
      · go_wp2_with fail
        go_ret
        exact ⟨ret_int HF.out.symm, HBW.out⟩
  · have hq : F 3 = F 0 := Hst.out 0 hz
    have HQ := Lib.hid hq
    have hv : (F 0 != 0) = true := by simpa using hz
    clear hz hq
    go_enter Tryz.func53, Tryz.ntmps53
    go_wp2_with fail
    refine wp_tail 10 (by kernel_rfl) (by kernel_rfl) ?_
    simp only [List.take_succ_cons, List.take_zero, List.drop_succ_cons, List.drop_zero]
    still_step
    still_step
    still_step
    still_step
    still_call (S0.out _)
    still_step
    still_step
    still_step
    still_step
    still_call (S1.out _)
    refine wpStill_nil ?_
    go_wp2_with fail
    refine (Hor.out _ _ (by go_simp) (by go_simp)).mono ?_; rintro e w' ⟨rfl, rfl⟩
    go_wp2_with fail
    go_ret
    exact ⟨ret_int HQ.out.symm, ((((Grew.refl w).alloc _).alloc _).drewN 1).alloc _⟩
end

section
open Go.ChangeShapes Go.WideShapes Go.ChangeAt Go.RowKit Go.BigFrame
set_option maxRecDepth 100000
theorem stCells_int : Tryz.prog.cellsOf 3 = 1 := by kernel_rfl
theorem cells_arr : Tryz.prog.cellsOf 42 = 3 := by kernel_rfl
theorem cells_stamp : Tryz.prog.cellsOf 49 = 5 := by kernel_rfl
theorem open_stamp {H : Type} {enc : TypeId × Value → H} {W : World} {base : Nat} {v : Value} {d : DataW H} {p : List MemPlace}
    (hok : Value.okWide Tryz.prog W .any base 49 v) (h : DataW.Trod enc Tryz.prog W 0 (fun _ => true) true 49 v d p) : ∃ t : St, v = t.val := by
  obtain ⟨cs, rfl, hsz⟩ := okWide_struct Tryz.underlying49 hok
  obtain ⟨l⟩ := cs
  match l, hsz.trans cells_stamp with
  | [c0, c1, c2, c3, c4], _ =>
    obtain ⟨fuel, hf⟩ := h
    obtain ⟨xs, n, _, hx, _, hlen, hg⟩ := DataW.trod_struct Tryz.underlying49 hf
    match xs, hlen with
    | [y0, y1, y2], _ =>
      have h0 : DataW.trod enc Tryz.prog W 0 (fun _ => true) true n 3 [c0] = some y0 := hg 0 _ rfl
      have h1 : DataW.trod enc Tryz.prog W 0 (fun _ => true) true n 3 [c1] = some y1 := hg 1 _ rfl
      have h2 : DataW.trod enc Tryz.prog W 0 (fun _ => true) true n 42 [c2, c3, c4] = some y2 := hg 2 _ rfl
      obtain ⟨z0, z1, z2, m, -, k0, k1, k2⟩ := trod_array3 Tryz.underlying42 stCells_int h2
      obtain ⟨n0, e0, -, -⟩ := DataW.trod_int Tryz.underlying3 h0
      obtain ⟨n1, e1, -, -⟩ := DataW.trod_int Tryz.underlying3 h1
      obtain ⟨n2, e2, -, -⟩ := DataW.trod_int Tryz.underlying3 k0
      obtain ⟨n3, e3, -, -⟩ := DataW.trod_int Tryz.underlying3 k1
      obtain ⟨n4, e4, -, -⟩ := DataW.trod_int Tryz.underlying3 k2
      cases e0; cases e1; cases e2; cases e3; cases e4
      exact ⟨⟨n0, n1, n2, n3, n4⟩, rfl⟩
end

section
open Go.ChangeShapes Go.WideShapes Go.ChangeAt Go.RowKit Go.BigFrame
set_option maxRecDepth 100000
def Lk (x y z x' y' z' : Int) (k : Nat) : Prop := (0 < k → x ≤ x') ∧ (1 < k → y ≤ y') ∧ (2 < k → z ≤ z')
set_option maxHeartbeats 2000000 in
theorem refLeq_any (a b : St) (w : World) : Calls Tryz.prog 101 #[a.val, b.val] w fun e w' => e = .returned (.bool (decide (a.L b))) ∧ Below w.heap.size w w' := by
  by_cases ha : a.R
  · by_cases hb : b.R
    · have HA := Lib.hid (right_is (decide_eq_true ha) (refRight_any a)); have HB := Lib.hid (right_is (decide_eq_true hb) (refRight_any b))
      have hL : a.L b ↔ a.d = b.d ∧ a.e ≤ b.e ∧ a.x ≤ b.x ∧ a.y ≤ b.y ∧ a.z ≤ b.z := ⟨fun h => h.2.2, fun h => ⟨ha, hb, h⟩⟩
      have hLd : decide (a.L b) = decide (a.d = b.d ∧ a.e ≤ b.e ∧ a.x ≤ b.x ∧ a.y ≤ b.y ∧ a.z ≤ b.z) := by rw [decide_eq_decide]; exact hL
      rw [hLd]; clear hLd hL ha hb
      obtain ⟨d, e, x, y, z⟩ := a
      obtain ⟨d', e', x', y', z'⟩ := b
      unfold St.val at *
      simp only at HA HB ⊢
      by_cases hd : d = d'
      · subst hd
        by_cases he : e ≤ e'
        · have hy0 := (Holds.made w ⟨d, e, x, y, z⟩).alloc (.cells #[.int .i64 d, .int .i64 e', .int .i64 x', .int .i64 y', .int .i64 z'] 49)
          have hy1 := Holds.made (w.alloc (.cells #[.int .i64 d, .int .i64 e, .int .i64 x, .int .i64 y, .int .i64 z] 49)) ⟨d, e', x', y', z'⟩
          rw [size_alloc] at hy1
          have HY0 := Lib.hid hy0; have HY1 := Lib.hid hy1; clear hy0 hy1
          have HD := Lib.hid (show decide (d = d ∧ e ≤ e' ∧ x ≤ x' ∧ y ≤ y' ∧ z ≤ z') = decide (x ≤ x' ∧ y ≤ y' ∧ z ≤ z') by rw [decide_eq_decide]; exact ⟨fun h => h.2.2, fun h => ⟨rfl, he, h⟩⟩)
          rw [HD.out]; clear HD
          go_enter Tryz.func101, Tryz.ntmps101
          go_wp2_with fail
          refine (HA.out _).mono ?_; rintro e1 w1 ⟨rfl, hb1⟩
          obtain ⟨hc1, hf1⟩ := old_cells hb1
          have HB1 := Lib.hid hb1; clear hb1
          go_wp2_with fail
          refine (HB.out _).mono ?_; rintro e2 w2 ⟨rfl, hb2⟩
          have hb12 := HB1.out.trans (hb2.mono HB1.out.size)
          clear hc1 hf1
          obtain ⟨hc1, hf1⟩ := old_cells hb12
          have HBW := Lib.hid (stBelow2 hb12)
          have h0 := HY0.out.below hb12; have h1 := HY1.out.below hb12
          have H0 := Lib.hid h0; have H1 := Lib.hid h1; clear h0 h1 hb12 hb2 HB1
          go_wp2_with fail
          clear hc1 hf1
          go_loopw [5] (fun i wr => ∃ k : Nat, k ≤ 3 ∧ i = .int .i64 k ∧ Lk x y z x' y' z' k ∧ Holds wr w.heap.size ⟨d, e, x, y, z⟩ ∧ Holds wr (w.heap.size + 1) ⟨d, e', x', y', z'⟩ ∧ Below w.heap.size w wr) (fun i _ => 3 - (intOf i).toNat)
          case atStart => exact ⟨0, by omega, rfl, by unfold Lk; omega, H0.out, H1.out, HBW.out⟩
          case round =>
            obtain ⟨k, hk, rfl, hL, h0, h1, hbw⟩ := hrel
            have hcase : k = 0 ∨ k = 1 ∨ k = 2 ∨ k = 3 := by omega
            clear hk
            obtain ⟨c0, c1, c2, c3, c4⟩ := h0.cells5
            obtain ⟨d0, d1, d2, d3, d4⟩ := h1.cells5
            simp only at c0 c1 c2 c3 c4 d0 d1 d2 d3 d4
            have HL := Lib.hid hL; have HH0 := Lib.hid h0; have HH1 := Lib.hid h1; have HHW := Lib.hid hbw; clear hL h0 h1 hbw H0 H1 HBW
            rcases hcase with rfl | rfl | rfl | rfl
            · by_cases hq : x ≤ x'
              · have hq' : decide (x' < x) = false := by simpa using hq
                go_wp2_with fail
                go_quiet (fail)
                go_wp2_with fail
                go_roundw
                case rel => exact ⟨1, by omega, rfl, by have := HL.out; unfold Lk at *; omega, HH0.out, HH1.out, below_drewN HHW.out _⟩
                case measure => simp [intOf]
              · have hq' : decide (x' < x) = true := by simp; omega
                go_wp2_with fail
                go_quiet (fail)
                go_wp2_with fail
                go_ret
                exact ⟨ret_bool (by rw [eq_comm, decide_eq_false_iff_not]; omega), below_drewN HHW.out _⟩
            · by_cases hq : y ≤ y'
              · have hq' : decide (y' < y) = false := by simpa using hq
                go_wp2_with fail
                go_quiet (fail)
                go_wp2_with fail
                go_roundw
                case rel => exact ⟨2, by omega, rfl, by have := HL.out; unfold Lk at *; omega, HH0.out, HH1.out, below_drewN HHW.out _⟩
                case measure => simp [intOf]
              · have hq' : decide (y' < y) = true := by simp; omega
                go_wp2_with fail
                go_quiet (fail)
                go_wp2_with fail
                go_ret
                exact ⟨ret_bool (by rw [eq_comm, decide_eq_false_iff_not]; omega), below_drewN HHW.out _⟩
            · by_cases hq : z ≤ z'
              · have hq' : decide (z' < z) = false := by simpa using hq
                go_wp2_with fail
                go_quiet (fail)
                go_wp2_with fail
                go_roundw
                case rel => exact ⟨3, by omega, rfl, by have := HL.out; unfold Lk at *; omega, HH0.out, HH1.out, below_drewN HHW.out _⟩
                case measure => simp [intOf]
              · have hq' : decide (z' < z) = true := by simp; omega
                go_wp2_with fail
                go_quiet (fail)
                go_wp2_with fail
                go_ret
                exact ⟨ret_bool (by rw [eq_comm, decide_eq_false_iff_not]; omega), below_drewN HHW.out _⟩
            · go_wp2_with fail
              go_ret
              exact ⟨ret_bool (by rw [eq_comm, decide_eq_true_iff]; have := HL.out; unfold Lk at this; omega), HHW.out⟩
        · have HD := Lib.hid (show decide (d = d ∧ e ≤ e' ∧ x ≤ x' ∧ y ≤ y' ∧ z ≤ z') = false by rw [decide_eq_false_iff_not]; omega)
          rw [HD.out]; clear HD
          go_enter Tryz.func101, Tryz.ntmps101
          go_wp2_with fail
          refine (HA.out _).mono ?_; rintro e1 w1 ⟨rfl, hb1⟩
          obtain ⟨hc1, hf1⟩ := old_cells hb1
          have HB1 := Lib.hid hb1; clear hb1
          go_wp2_with fail
          refine (HB.out _).mono ?_; rintro e2 w2 ⟨rfl, hb2⟩
          have hb12 := HB1.out.trans (hb2.mono HB1.out.size)
          clear hc1 hf1
          obtain ⟨hc1, hf1⟩ := old_cells hb12
          have HBW := Lib.hid (stBelow2 hb12)
          clear hb12 hb2 HB1
          go_wp2_with fail
          go_ret
          exact ⟨rfl, HBW.out⟩
      · have HD := Lib.hid (show decide (d = d' ∧ e ≤ e' ∧ x ≤ x' ∧ y ≤ y' ∧ z ≤ z') = false by rw [decide_eq_false_iff_not]; omega)
        rw [HD.out]; clear HD
        have hd' : (d != d') = true := by simpa using hd
        clear hd
        go_enter Tryz.func101, Tryz.ntmps101
        go_wp2_with fail
        refine (HA.out _).mono ?_; rintro e1 w1 ⟨rfl, hb1⟩
        obtain ⟨hc1, hf1⟩ := old_cells hb1
        have HB1 := Lib.hid hb1; clear hb1
        go_wp2_with fail
        refine (HB.out _).mono ?_; rintro e2 w2 ⟨rfl, hb2⟩
        have hb12 := HB1.out.trans (hb2.mono HB1.out.size)
        clear hc1 hf1
        obtain ⟨hc1, hf1⟩ := old_cells hb12
        have HBW := Lib.hid (stBelow2 hb12)
        clear hb12 hb2 HB1
        go_wp2_with fail
        go_ret
        exact ⟨rfl, HBW.out⟩
    · have HA := Lib.hid (right_is (decide_eq_true ha) (refRight_any a)); have HB := Lib.hid (right_is (decide_eq_false hb) (refRight_any b))
      have hL : decide (a.L b) = false := by rw [decide_eq_false_iff_not]; exact fun h => hb h.2.1
      rw [hL]; clear hL ha hb
      obtain ⟨d, e, x, y, z⟩ := a
      obtain ⟨d', e', x', y', z'⟩ := b
      unfold St.val at *
      simp only at HA HB ⊢
      go_enter Tryz.func101, Tryz.ntmps101
      go_wp2_with fail
      refine (HA.out _).mono ?_; rintro e1 w1 ⟨rfl, hb1⟩
      obtain ⟨hc1, hf1⟩ := old_cells hb1
      have HB1 := Lib.hid hb1; clear hb1
      go_wp2_with fail
      refine (HB.out _).mono ?_; rintro e2 w2 ⟨rfl, hb2⟩
      have hb12 := HB1.out.trans (hb2.mono HB1.out.size)
      clear hc1 hf1
      obtain ⟨hc1, hf1⟩ := old_cells hb12
      have HBW := Lib.hid (stBelow2 hb12)
      clear hb12 hb2 HB1
      go_wp2_with fail
      go_ret
      exact ⟨rfl, HBW.out⟩
  · have HA := Lib.hid (right_is (decide_eq_false ha) (refRight_any a))
    have hL : decide (a.L b) = false := by rw [decide_eq_false_iff_not]; exact fun h => ha h.1
    rw [hL]; clear hL ha
    obtain ⟨d, e, x, y, z⟩ := a
    obtain ⟨d', e', x', y', z'⟩ := b
    unfold St.val at *
    simp only at HA ⊢
    go_enter Tryz.func101, Tryz.ntmps101
    go_wp2_with fail
    refine (HA.out _).mono ?_; rintro e1 w1 ⟨rfl, hb1⟩
    have hb12 := hb1
    obtain ⟨hc1, hf1⟩ := old_cells hb12
    have HBW := Lib.hid (stBelow2 hb12)
    clear hb12 hb1
    go_wp2_with fail
    go_ret
    exact ⟨rfl, HBW.out⟩
end

section
open Go.ChangeShapes Go.WideShapes Go.ChangeAt Go.RowKit Go.BigFrame
set_option maxRecDepth 100000
section
variable {P : Program} {C : World → Prop} {K : Act → Prop} {a : Act} {o : Oper} {ops : Array Oper}
end
section
variable {P : Program} {C : World → Prop} {K : Act → Prop} {a : Act} {o : Oper} {ops : Array Oper}
end
theorem eqt_is {x y : Operand} {a b : St} {p : Bool} (h : eqB a b = p) : ∀ w, (do eqGuard .eql 49 x y (.agg #[.int .i64 a.d, .int .i64 a.e, .int .i64 a.x, .int .i64 a.y, .int .i64 a.z]) (.agg #[.int .i64 b.d, .int .i64 b.e, .int .i64 b.x, .int .i64 b.y, .int .i64 b.z]); binOp .eql 49 (.agg #[.int .i64 a.d, .int .i64 a.e, .int .i64 a.x, .int .i64 a.y, .int .i64 a.z]) (.agg #[.int .i64 b.d, .int .i64 b.e, .int .i64 b.x, .int .i64 b.y, .int .i64 b.z]) : Sem Value).run Tryz.prog w = .ok (.bool p) w := by
  intro w; rw [eq_t x y a b w, h]
theorem net_is {x y : Operand} {a b : St} {p : Bool} (h : (!eqB a b) = p) : ∀ w, (do eqGuard .neq 49 x y (.agg #[.int .i64 a.d, .int .i64 a.e, .int .i64 a.x, .int .i64 a.y, .int .i64 a.z]) (.agg #[.int .i64 b.d, .int .i64 b.e, .int .i64 b.x, .int .i64 b.y, .int .i64 b.z]); binOp .neq 49 (.agg #[.int .i64 a.d, .int .i64 a.e, .int .i64 a.x, .int .i64 a.y, .int .i64 a.z]) (.agg #[.int .i64 b.d, .int .i64 b.e, .int .i64 b.x, .int .i64 b.y, .int .i64 b.z]) : Sem Value).run Tryz.prog w = .ok (.bool p) w := by
  intro w; rw [ne_t x y a b w, h]
end

section
namespace Mx
open Go.ChangeShapes Go.WideShapes Go.ChangeAt Go.RowKit Go.BigFrame Go.Shelf
set_option maxRecDepth 100000
abbrev Holds (w : World) (g : Nat) (s : Sm) : Prop := HoldsM w g 44 s
theorem Holds.made (w : World) (s : Sm) : Holds (w.alloc (.cells #[.int .i64 s.fr, .int .i64 s.to, .int .i64 s.kp, .int .i64 s.ad, .int .i64 s.t0, .int .i64 s.t1, .int .i64 s.t2] 44)) w.heap.size s := HoldsM.made w _ s
theorem Holds.cells5 {W : World} {g : Nat} {s : Sm} (h : Holds W g s) : W.cell? ⟨g, 0, none⟩ = some (.int .i64 s.fr) ∧ W.cell? ⟨g, 1, none⟩ = some (.int .i64 s.to) ∧ W.cell? ⟨g, 2, none⟩ = some (.int .i64 s.kp) ∧ W.cell? ⟨g, 3, none⟩ = some (.int .i64 s.ad) ∧ W.cell? ⟨g, 4, none⟩ = some (.int .i64 s.t0) ∧ W.cell? ⟨g, 5, none⟩ = some (.int .i64 s.t1) ∧ W.cell? ⟨g, 6, none⟩ = some (.int .i64 s.t2) := HoldsM.cells7 h
theorem infoSum : (Tryz.prog.info? 44).map (fun i => (i.zero, i.size, i.bytes)) = some (some (.agg #[.int .i64 0, .int .i64 0, .int .i64 0, .int .i64 0, .int .i64 0, .int .i64 0, .int .i64 0]), 7, 56) := by kernel_rfl
def rowS (ts : List Sm) : List Value := (ts.map Sm.cells).flatten
theorem rowS_cons (t : Sm) (ts : List Sm) : rowS (t :: ts) = .int .i64 t.fr :: .int .i64 t.to :: .int .i64 t.kp :: .int .i64 t.ad :: .int .i64 t.t0 :: .int .i64 t.t1 :: .int .i64 t.t2 :: rowS ts := by simp [rowS, Sm.cells]
theorem rowS_append (ts us : List Sm) : rowS (ts ++ us) = rowS ts ++ rowS us := by simp [rowS]
theorem rowS_len (ts : List Sm) : (rowS ts).length = ts.length * 7 := by
  induction ts with
  | nil => rfl
  | cons t ts ih => rw [rowS_cons]; simp only [List.length_cons, ih]; omega
theorem rowS_at : ∀ (ts : List Sm) (i : Nat) (t : Sm), ts[i]? = some t → ∀ (j : Nat) (u : Value), t.cells[j]? = some u → (rowS ts)[i * 7 + j]? = some u
  | x :: ts, 0, t, h, j, u, hu => by
    obtain rfl : x = t := by simpa using h
    rw [rowS_cons, Nat.zero_mul, Nat.zero_add]
    match j, hu with
    | 0, hu => exact hu
    | 1, hu => exact hu
    | 2, hu => exact hu
    | 3, hu => exact hu
    | 4, hu => exact hu
    | 5, hu => exact hu
    | 6, hu => exact hu
    | j + 7, hu => simp [Sm.cells] at hu
  | x :: ts, i + 1, t, h, j, u, hu => by
    have := rowS_at ts i t (by simpa using h) j u hu
    rw [rowS_cons, show (i + 1) * 7 + j = i * 7 + j + 1 + 1 + 1 + 1 + 1 + 1 + 1 by omega]
    simp only [List.getElem?_cons_succ]
    exact this
theorem rowS_one (ts : List Sm) : ∀ u ∈ rowS ts, u.oneCell' = true := by
  intro u hu
  simp only [rowS, List.mem_flatten, List.mem_map] at hu
  obtain ⟨l, ⟨t, _, rfl⟩, hu⟩ := hu
  simp only [Sm.cells, List.mem_cons, List.not_mem_nil, or_false] at hu
  rcases hu with rfl | rfl | rfl | rfl | rfl | rfl | rfl <;> rfl
def Times (w : World) (A : Option Addr) (ts : List Sm) : Prop :=
  0 < ts.length → ∃ b, A = some ⟨b, 0, none⟩ ∧ b < w.heap.size ∧ ∀ (j : Nat) (u : Value), (rowS ts)[j]? = some u → w.cell? ⟨b, j, none⟩ = some u
theorem Times.made (w : World) (ts : List Sm) : Times (w.alloc (.cells (rowS ts).toArray 44)) (some ⟨w.heap.size, 0, none⟩) ts := fun _ => by
  have h : Row (w.alloc (.cells (rowS ts).toArray 44)) w.heap.size 44 (rowS ts) := Row.made w _ _
  exact ⟨_, rfl, h.lt, fun j u hu => (h.cell j).trans hu⟩
theorem Times.of_own {w : World} {base : Nat} {v : Value} {n : Nat} {ts : List Sm} (h : w.ownsRow base 44 7 v n (rowS ts)) :
    ∃ A c, v = .slice A ts.length c ∧ Times w A ts ∧ ts.length ≤ c ∧ c ≤ maxLen := by
  have hl : ts.length = n := by have := h.1; rw [rowS_len] at this; omega
  obtain ⟨_, ⟨rfl, h0⟩ | ⟨g, cap, cur, rfl, _, hh, h1, h2, _, ht⟩⟩ := id h
  · exact ⟨none, 0, by rw [hl, h0], fun hn => by omega, by omega, by simp⟩
  · refine ⟨some ⟨g, 0, none⟩, cap, by rw [hl], fun _ => ⟨g, rfl, ?_, fun j u hj => ?_⟩, by omega, h2⟩
    · by_cases hg : g < w.heap.size
      · exact hg
      · rw [Array.getElem?_eq_none (by omega)] at hh; cases hh
    · have := h.cells (g := g) rfl j u hj
      rwa [add_zero_off] at this
theorem own_apart {w : World} {base : Nat} {v : Value} {n b : Nat} {xs l : List Value} {t : TypeId} (h : w.ownsRow base 44 7 v n xs) (hr : Row w b t l) (ht : t ≠ 44) : some b ≠ v.ownBlock := by
  obtain ⟨_, ⟨rfl, _⟩ | ⟨g, cap, cur, rfl, _, hh, _⟩⟩ := h
  · intro e; cases e
  · intro e
    injection e with e
    subst e
    unfold Row at hr
    rw [hr] at hh; injection hh with hh; injection hh with _ ht'; exact ht ht'
theorem own_belowS {w0 w w' : World} {base n : Nat} {v : Value} {xs : List Value} (h : w.ownsRow base 44 7 v n xs) (hg : w.grownBy w' v.ownBlock) (hb : Below base w0 w) (hB : base ≤ w.heap.size) : Below base w0 w' :=
  hb.grown hg hB (fun k e => (h.lt k e).1)
theorem wpList_append_times {w : World} {ops : Array Oper} {rest : List Oper} {o : Oper} {a : Act} {Q : Exit → Act → World → Prop} (hgd : o.guard = none) (s x : Operand)
    (ho : o.op = .call { callee := .builtin .append, args := #[s, x], argTypes := #[36, 36] })
    (base : Nat) (v : Value) (n : Nat) (ts : List Sm) (hs : a.eval s = v) (hown : w.ownsRow base 44 7 v n (rowS ts))
    (ad : Addr) (c : Nat) (ys : List Sm) (hx : a.eval x = .slice (some ad) ys.length c) (hy : 0 < ys.length) (hb : Times w (some ad) ys)
    (hle : n + ys.length ≤ 5000000) (hbase : base ≤ w.heap.size)
    (h : ∀ v' w', w'.ownsRow base 44 7 v' (n + ys.length) (rowS (ts ++ ys)) → w.grownBy w' v.ownBlock → wpList Tryz.prog ops Q rest (a.put o.dst v') w') : wpList Tryz.prog ops Q (o :: rest) a w := by
  obtain ⟨i, hi, hz0, hz1, hz2⟩ := info_parts infoSum
  obtain ⟨b, e, _, hcell⟩ := hb hy
  cases e
  refine wpList_append_own w hgd s x 36 ho base 44 i _ 7 56 Tryz.underlying36 hi hz0 hz1 hz2 rfl (by omega) v n (rowS ts) hs hown ⟨b, 0, none⟩ ys.length c (rowS ys) hx (rowS_len ys) ?_ (rowS_one ys) (by unfold maxLen; omega) (by omega) hbase ?_
  · intro j u hj
    rw [add_zero_off]; exact hcell j u hj
  · intro v' w' h1 h2 _
    exact h v' w' (by rw [rowS_append]; exact h1) h2

def Ts (w : World) (A : Option Addr) (ts : List Sm) : Prop :=
  0 < ts.length → ∃ b o, A = some ⟨b, o, none⟩ ∧ b < w.heap.size ∧ ∀ (j : Nat) (u : Value), (rowS ts)[j]? = some u → w.cell? ⟨b, o + j, none⟩ = some u
section
variable {w w' : World} {A : Option Addr} {ts : List Sm}
theorem Ts.below (h : Ts w A ts) (hb : Below w.heap.size w w') : Ts w' A ts := fun hn => by
  obtain ⟨b, o, e, hlt, hc⟩ := h hn
  exact ⟨b, o, e, Nat.lt_of_lt_of_le hlt hb.size, fun j u hu => (hb.cell (p := ⟨b, o + j, none⟩) hlt).trans (hc j u hu)⟩
theorem Ts.nil : Ts w A [] := fun h => absurd h (by simp)
theorem Ts.of (h : Times w A ts) : Ts w A ts := fun hn => by
  obtain ⟨b, e, hlt, hc⟩ := h hn
  exact ⟨b, 0, e, hlt, fun j u hu => by rw [Nat.zero_add]; exact hc j u hu⟩
theorem rowS_take (ts : List Sm) (k : Nat) : rowS (ts.take k) = (rowS ts).take (k * 7) := by
  induction ts generalizing k with
  | nil => simp [rowS]
  | cons t ts ih =>
    cases k with
    | zero => simp [rowS]
    | succ k => rw [List.take_succ_cons, rowS_cons, rowS_cons, ih, show (k + 1) * 7 = k * 7 + 1 + 1 + 1 + 1 + 1 + 1 + 1 by omega]; simp only [List.take_succ_cons]
theorem rowS_drop (ts : List Sm) (k : Nat) : rowS (ts.drop k) = (rowS ts).drop (k * 7) := by
  induction ts generalizing k with
  | nil => simp [rowS]
  | cons t ts ih =>
    cases k with
    | zero => simp
    | succ k => rw [List.drop_succ_cons, ih, rowS_cons, show (k + 1) * 7 = k * 7 + 1 + 1 + 1 + 1 + 1 + 1 + 1 by omega]; simp only [List.drop_succ_cons]
theorem Ts.take (h : Ts w A ts) (k : Nat) : Ts w A (ts.take k) := fun hn => by
  obtain ⟨b, o, e, hlt, hc⟩ := h (by rw [List.length_take] at hn; omega)
  refine ⟨b, o, e, hlt, fun j u hu => hc j u ?_⟩
  rw [rowS_take, List.getElem?_take] at hu
  split at hu
  · exact hu
  · cases hu
theorem Ts.drop {b o : Nat} (h : Ts w (some ⟨b, o, none⟩) ts) (k : Nat) : Ts w (some ⟨b, o + k * 7, none⟩) (ts.drop k) := fun hn => by
  obtain ⟨b', o', e, hlt, hc⟩ := h (by rw [List.length_drop] at hn; omega)
  cases e
  refine ⟨b, o + k * 7, rfl, hlt, fun j u hu => ?_⟩
  rw [rowS_drop, List.getElem?_drop] at hu
  rw [Nat.add_assoc]; exact hc _ u hu
theorem run_load_st (w : World) (b o : Nat) (t : Sm) (h : ∀ j v, t.cells[j]? = some v → w.cell? ⟨b, o + j, none⟩ = some v) :
    (Instr.loadAt 44 (.pointer (some ⟨b, o, none⟩))).run Tryz.prog w = .ok (.agg #[.int .i64 t.fr, .int .i64 t.to, .int .i64 t.kp, .int .i64 t.ad, .int .i64 t.t0, .int .i64 t.t1, .int .i64 t.t2]) w :=
  run_loadAt_part b o 44 _ t.cells (fun j v hj => by rw [add_at]; exact h j v hj) Tryz.underlying44 rfl (by kernel_rfl)
theorem Ts.load (h : Ts w A ts) {i : Nat} {t : Sm} (hi : ts[i]? = some t) : ∃ b o, A = some ⟨b, o, none⟩ ∧ b < w.heap.size ∧
    ∀ w', Below w.heap.size w w' → (Instr.loadAt 44 (.pointer (some ⟨b, o + i * 7, none⟩))).run Tryz.prog w' = .ok (.agg #[.int .i64 t.fr, .int .i64 t.to, .int .i64 t.kp, .int .i64 t.ad, .int .i64 t.t0, .int .i64 t.t1, .int .i64 t.t2]) w' := by
  obtain ⟨hl, _⟩ := List.getElem?_eq_some_iff.1 hi
  obtain ⟨b, o, e, hlt, hc⟩ := h (by omega)
  refine ⟨b, o, e, hlt, fun w' hb => run_load_st _ _ _ _ fun j v hj => ?_⟩
  rw [hb.cell (p := ⟨b, o + i * 7 + j, none⟩) hlt, Nat.add_assoc]
  exact hc _ v (rowS_at ts i t hi j v hj)
theorem Ts.five (h : Ts w A ts) {i : Nat} {t : Sm} (hi : ts[i]? = some t) : ∃ b o, A = some ⟨b, o, none⟩ ∧ b < w.heap.size ∧
    ∀ w', Below w.heap.size w w' → w'.cell? ⟨b, o + i * 7, none⟩ = some (.int .i64 t.fr) ∧ w'.cell? ⟨b, o + i * 7 + 1, none⟩ = some (.int .i64 t.to) ∧ w'.cell? ⟨b, o + i * 7 + 2, none⟩ = some (.int .i64 t.kp) ∧ w'.cell? ⟨b, o + i * 7 + 3, none⟩ = some (.int .i64 t.ad) ∧ w'.cell? ⟨b, o + i * 7 + 4, none⟩ = some (.int .i64 t.t0) ∧ w'.cell? ⟨b, o + i * 7 + 5, none⟩ = some (.int .i64 t.t1) ∧ w'.cell? ⟨b, o + i * 7 + 6, none⟩ = some (.int .i64 t.t2) := by
  obtain ⟨hl, _⟩ := List.getElem?_eq_some_iff.1 hi
  obtain ⟨b, o, e, hlt, hc⟩ := h (by omega)
  refine ⟨b, o, e, hlt, fun w' hb => ?_⟩
  have key : ∀ j v, t.cells[j]? = some v → w'.cell? ⟨b, o + i * 7 + j, none⟩ = some v := fun j v hj => by
    rw [hb.cell (p := ⟨b, o + i * 7 + j, none⟩) hlt, Nat.add_assoc]
    exact hc _ v (rowS_at ts i t hi j v hj)
  exact ⟨key 0 _ rfl, key 1 _ rfl, key 2 _ rfl, key 3 _ rfl, key 4 _ rfl, key 5 _ rfl, key 6 _ rfl⟩
end
def Tells (g : Nat) (lb : Array Value) (p : Sm → Bool) (w : World) : Prop :=
  ∀ (W : World) (x : Sm), Below w.heap.size w W → Calls Tryz.prog g (#[x.v] ++ lb) W fun e w' => e = .returned (.bool (p x)) ∧ Below W.heap.size W w'
theorem any_false {p : Sm → Bool} {ts : List Sm} : ts.any p = false ↔ ∀ (j : Nat) (t : Sm), ts[j]? = some t → p t = false := by
  rw [List.any_eq_false]
  constructor
  · intro h j t ht
    have := h t (List.mem_of_getElem? ht)
    simpa using this
  · intro h t ht
    obtain ⟨j, hj⟩ := List.getElem?_of_mem ht
    rw [h j t hj]; simp
theorem indexFunc_any (A : Option Addr) (ts : List Sm) (c g : Nat) (lb : Array Value) (p : Sm → Bool) (w : World) (hT : Ts w A ts) (hn : ts.length ≤ 5000000)
    (eg : ∀ args w, (callFunc g args).run Tryz.prog w = .ok (.enter g args) w) (hp : 0 < ts.length → Tells g lb p w) :
    Calls Tryz.prog 115 #[.slice A ts.length c, .func (.func g) #[] lb] w fun e w' => (∃ i : Int, e = .returned (.int .i64 i) ∧ decide (0 ≤ i) = ts.any p) ∧ Below w.heap.size w w' := by
  have HT := Lib.hid hT; have HP := Lib.hid hp; clear hT hp
  go_enter Tryz.func115, Tryz.ntmps115
  go_wp2_with fail
  go_loopw [5, 8] (fun _ i wr => ∃ k : Nat, k ≤ ts.length ∧ i = .int .i64 k ∧ Below w.heap.size w wr ∧ ∀ (j : Nat) (t : Sm), j < k → ts[j]? = some t → p t = false) (fun _ i _ => ts.length - (intOf i).toNat)
  case atStart => exact ⟨0, by omega, rfl, Below.refl _ _, fun j t h => absurd h (by omega)⟩
  case round =>
    obtain ⟨k, hk, rfl, hb, hno⟩ := hrel
    have HB := Lib.hid hb; have HNO := Lib.hid hno; clear hb hno
    by_cases hlt : k < ts.length
    · have hltz : (k : Int) < (ts.length : Int) := by omega
      obtain ⟨t, ht⟩ : ∃ t, ts[k]? = some t := ⟨_, List.getElem?_eq_getElem hlt⟩
      obtain ⟨b, o, rfl, hbl, hld⟩ := HT.out.five ht
      obtain ⟨c0, c1, c2, c3, c4, c5, c6⟩ := hld _ HB.out
      have hcall := HP.out (by omega) wr t HB.out
      have HTT := Lib.hid ht; clear ht
      cases hq : p t with
      | true =>
        rw [hq] at hcall
        have HQ := Lib.hid hq; clear hq
        go_wp2_with fail
        refine hcall.mono ?_; rintro e w1 ⟨rfl, hb1⟩
        have HB1 := Lib.hid (HB.out.trans (hb1.mono HB.out.size)); clear hb1 hld hcall c0 c1 c2 c3 c4 c5 c6
        go_wp2_with fail
        go_ret
        refine ⟨⟨k, rfl, ?_⟩, HB1.out⟩
        rw [decide_eq_true (by omega), eq_comm, List.any_eq_true]
        exact ⟨t, List.mem_of_getElem? HTT.out, HQ.out⟩
      | false =>
        rw [hq] at hcall
        have HQ := Lib.hid hq; clear hq
        go_wp2_with fail
        refine hcall.mono ?_; rintro e w1 ⟨rfl, hb1⟩
        have HB1 := Lib.hid (HB.out.trans (hb1.mono HB.out.size)); clear hb1 hld hcall c0 c1 c2 c3 c4 c5 c6
        go_wp2_with fail
        go_roundw
        case rel =>
          refine ⟨k + 1, by omega, by simp, HB1.out, fun j t' hj ht' => ?_⟩
          by_cases e : j = k
          · subst e
            rw [HTT.out] at ht'; cases ht'
            exact HQ.out
          · exact HNO.out j t' (by omega) ht'
        case measure => simp [intOf]; omega
    · have hltz : ¬ (k : Int) < (ts.length : Int) := by omega
      go_wp2_with fail
      go_ret
      refine ⟨⟨-1, rfl, ?_⟩, HB.out⟩
      rw [decide_eq_false (by omega), eq_comm, any_false]
      exact fun j t ht => HNO.out j t (by have := (List.getElem?_eq_some_iff.1 ht).1; omega) ht
theorem containsFunc_any (A : Option Addr) (ts : List Sm) (c g : Nat) (lb : Array Value) (p : Sm → Bool) (w : World) (hT : Ts w A ts) (hn : ts.length ≤ 5000000)
    (eg : ∀ args w, (callFunc g args).run Tryz.prog w = .ok (.enter g args) w) (hp : 0 < ts.length → Tells g lb p w) :
    Calls Tryz.prog 63 #[.slice A ts.length c, .func (.func g) #[] lb] w fun e w' => e = .returned (.bool (ts.any p)) ∧ Below w.heap.size w w' := by
  have H := Lib.hid (indexFunc_any A ts c g lb p w hT hn eg hp); clear hT hp eg
  go_enter Tryz.func63, Tryz.ntmps63
  go_wp2_with fail
  refine (H.out).mono ?_; rintro e w1 ⟨⟨i, rfl, hi⟩, hb⟩
  have HB := Lib.hid hb; clear hb
  have HI := Lib.hid hi; clear hi
  go_wp2_with fail
  go_ret
  exact ⟨ret_bool HI.out, HB.out⟩
end Mx
end
end Go.Proofs.YtcdofkhkckodjaaGreatDoor
