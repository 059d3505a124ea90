/- Compare: the program's. -/
import Derived.Test.YtpcnnnfgopilaaaStCmpP
import Derived.Test.YtpcnnnfgopilaaaTail
namespace Go.Proofs.Ytpcnnnfgopilaaa
open Go.ChangeShapes Go.WideShapes Go.ChangeAt Go.RowKit Go.BigFrame
set_option linter.unusedVariables false
theorem cc_same (a b : Int) (w : World) : Calls Try.prog 39 #[.int .i64 a, .int .i64 b] w fun e w' => e = .returned (.int .i64 (sgn a b)) ∧ w' = w := (cmpCompare_any a b w).mono fun _ _ h => ⟨h.1, h.2.symm⟩
theorem Ck_stay {s0 s1 s2 s3 s4 : Int} {k : Nat} (h : Ck s0 s1 s2 s3 s4 k ≠ 0) : Ck s0 s1 s2 s3 s4 3 = Ck s0 s1 s2 s3 s4 k := by
  match k with
  | 0 => have h' : or_ s0 s1 ≠ 0 := h
         show or_ (or_ (or_ (or_ s0 s1) s2) s3) s4 = or_ s0 s1
         rw [or_n h', or_n h', or_n h']
  | 1 => have h' : or_ (or_ s0 s1) s2 ≠ 0 := h
         show or_ (or_ (or_ (or_ s0 s1) s2) s3) s4 = or_ (or_ s0 s1) s2
         rw [or_n h', or_n h']
  | 2 => have h' : or_ (or_ (or_ s0 s1) s2) s3 ≠ 0 := h
         show or_ (or_ (or_ (or_ s0 s1) s2) s3) s4 = or_ (or_ (or_ s0 s1) s2) s3
         rw [or_n h']
  | _ + 3 => rfl
set_option maxHeartbeats 2000000 in
theorem compare_any (a b : St) (w : World) : Calls Try.prog 28 #[a.val, b.val] w fun e w' => e = .returned (.int .i64 (a.C b)) ∧ Below w.heap.size w w' := by
  have hC := Ck_C a b
  obtain ⟨d, e, x, y, z⟩ := a
  obtain ⟨d', e', x', y', z'⟩ := b
  unfold St.val
  simp only at hC ⊢
  rw [← hC]; clear hC
  have S0 := Lib.hid (cc_same d d'); have S1 := Lib.hid (cc_same e e'); have S2 := Lib.hid (cc_same x x'); have S3 := Lib.hid (cc_same y y'); have S4 := Lib.hid (cc_same z z')
  generalize sgn d d' = s0 at *
  generalize sgn e e' = s1 at *
  generalize sgn x x' = s2 at *
  generalize sgn y y' = s3 at *
  generalize sgn z z' = s4 at *
  have hk0 : Ck s0 s1 s2 s3 s4 0 = or_ s0 s1 := rfl
  have hk1 : Ck s0 s1 s2 s3 s4 0 = 0 → Ck s0 s1 s2 s3 s4 1 = s2 := fun h => by show or_ (or_ s0 s1) s2 = s2; rw [show or_ s0 s1 = 0 from h, or_z]
  have hk2 : Ck s0 s1 s2 s3 s4 1 = 0 → Ck s0 s1 s2 s3 s4 2 = s3 := fun h => by show or_ (or_ (or_ s0 s1) s2) s3 = s3; rw [show or_ (or_ s0 s1) s2 = 0 from h, or_z]
  have hk3 : Ck s0 s1 s2 s3 s4 2 = 0 → Ck s0 s1 s2 s3 s4 3 = s4 := fun h => by show or_ (or_ (or_ (or_ s0 s1) s2) s3) s4 = s4; rw [show or_ (or_ (or_ s0 s1) s2) s3 = 0 from h, or_z]
  have hst : ∀ k, Ck s0 s1 s2 s3 s4 k ≠ 0 → Ck s0 s1 s2 s3 s4 3 = Ck s0 s1 s2 s3 s4 k := fun k h => Ck_stay h
  generalize Ck s0 s1 s2 s3 s4 = F at *
  have Hst := Lib.hid hst; have Hk1 := Lib.hid hk1; have Hk2 := Lib.hid hk2; have Hk3 := Lib.hid hk3; clear hst hk1 hk2 hk3
  have hor := fun b w h0 h1 => or_any b s0 s1 w h0 h1
  rw [← hk0] at hor
  have Hor := Lib.hid hor; clear hor hk0
  by_cases hz : F 0 = 0
  · have HZ := Lib.hid hz
    have hv : (F 0 != 0) = false := by rw [hz]; rfl
    clear hz
    go_enter Try.func28, Try.ntmps28
    go_wp2_with fail
    refine wp_tail 10 (by kernel_rfl) (by kernel_rfl) ?_
    simp only [List.take_succ_cons, List.take_zero, List.drop_succ_cons, List.drop_zero]
    still_step
    still_step
    still_step
    still_step
    still_call (S0.out _)
    still_step
    still_step
    still_step
    still_step
    still_call (S1.out _)
    refine wpStill_nil ?_
    go_wp2_with fail
    refine (Hor.out _ _ (by go_simp) (by go_simp)).mono ?_; rintro e w' ⟨rfl, rfl⟩
    have hr0 : Row ((w.alloc (.cells #[.int .i64 d, .int .i64 e, .int .i64 x, .int .i64 y, .int .i64 z] 24)).alloc (.cells #[.int .i64 d', .int .i64 e', .int .i64 x', .int .i64 y', .int .i64 z'] 24)) w.heap.size 24 [.int .i64 d, .int .i64 e, .int .i64 x, .int .i64 y, .int .i64 z] := (Row.made w _ _).alloc _
    have hr1 := Row.made (w.alloc (.cells #[.int .i64 d, .int .i64 e, .int .i64 x, .int .i64 y, .int .i64 z] 24)) 24 [.int .i64 d', .int .i64 e', .int .i64 x', .int .i64 y', .int .i64 z']
    rw [size_alloc] at hr1
    have HR0 := Lib.hid hr0; have HR1 := Lib.hid hr1; clear hr0 hr1
    go_wp2_with fail
    go_loopw [23] (fun i wr => ∃ k : Nat, k ≤ 3 ∧ i = .int .i64 k ∧ F k = 0 ∧ Row wr w.heap.size 24 [.int .i64 d, .int .i64 e, .int .i64 x, .int .i64 y, .int .i64 z] ∧ Row wr (w.heap.size + 1) 24 [.int .i64 d', .int .i64 e', .int .i64 x', .int .i64 y', .int .i64 z'] ∧ Below w.heap.size w wr) (fun i _ => 3 - (intOf i).toNat)
    case atStart => exact ⟨0, by omega, rfl, HZ.out, (HR0.out.drewN 1).alloc _, (HR1.out.drewN 1).alloc _, (below_drewN (((Below.refl _ _).alloc (Nat.le_refl _) _).alloc (by simp) _) 1).alloc (by simp; omega) _⟩
    case round =>
      obtain ⟨k, hk, rfl, hF, hra, hrb, hbw⟩ := hrel
      have hcase : k = 0 ∨ k = 1 ∨ k = 2 ∨ k = 3 := by omega
      clear hk HR0 HR1 hv HZ Hor
      have a2 := hra.cell 2; have a3 := hra.cell 3; have a4 := hra.cell 4
      have b2 := hrb.cell 2; have b3 := hrb.cell 3; have b4 := hrb.cell 4
      simp only [List.getElem?_cons_succ, List.getElem?_cons_zero] at a2 a3 a4 b2 b3 b4
      have HRA := Lib.hid hra; have HRB := Lib.hid hrb; have HBW := Lib.hid hbw; have HF := Lib.hid hF; clear hra hrb hbw hF
      rcases hcase with rfl | rfl | rfl | rfl
      · have hn := Hk1.out HF.out
        have HN := Lib.hid hn; clear hn
        by_cases hz : s2 = 0
        · subst hz
          go_wp2_with fail
          go_quiet ((exact Calls.quiet_of_same (S2.out _)))
          go_wp2
          go_roundw
          case rel => exact ⟨1, by omega, rfl, HN.out, HRA.out, HRB.out, below_drewN HBW.out _⟩
          case measure => simp [intOf]
        · have hz' : (s2 != 0) = true := by simpa using hz
          have hq : F 3 = s2 := by rw [Hst.out 1 (by rw [HN.out]; exact hz), HN.out]
          have HQ := Lib.hid hq; clear hq hz
          go_wp2_with fail
          go_quiet ((exact Calls.quiet_of_same (S2.out _)))
          go_wp2
          go_ret
          exact ⟨ret_int HQ.out.symm, below_drewN HBW.out _⟩
      · have hn := Hk2.out HF.out
        have HN := Lib.hid hn; clear hn
        by_cases hz : s3 = 0
        · subst hz
          go_wp2_with fail
          go_quiet ((exact Calls.quiet_of_same (S3.out _)))
          go_wp2
          go_roundw
          case rel => exact ⟨2, by omega, rfl, HN.out, HRA.out, HRB.out, below_drewN HBW.out _⟩
          case measure => simp [intOf]
        · have hz' : (s3 != 0) = true := by simpa using hz
          have hq : F 3 = s3 := by rw [Hst.out 2 (by rw [HN.out]; exact hz), HN.out]
          have HQ := Lib.hid hq; clear hq hz
          go_wp2_with fail
          go_quiet ((exact Calls.quiet_of_same (S3.out _)))
          go_wp2
          go_ret
          exact ⟨ret_int HQ.out.symm, below_drewN HBW.out _⟩
      · have hn := Hk3.out HF.out
        have HN := Lib.hid hn; clear hn
        by_cases hz : s4 = 0
        · subst hz
          go_wp2_with fail
          go_quiet ((exact Calls.quiet_of_same (S4.out _)))
          go_wp2
          go_roundw
          case rel => exact ⟨3, by omega, rfl, HN.out, HRA.out, HRB.out, below_drewN HBW.out _⟩
          case measure => simp [intOf]
        · have hz' : (s4 != 0) = true := by simpa using hz
          have hq : F 3 = s4 := by rw [Hst.out 3 (by rw [HN.out]; exact hz), HN.out]
          have HQ := Lib.hid hq; clear hq hz
          go_wp2_with fail
          go_quiet ((exact Calls.quiet_of_same (S4.out _)))
          go_wp2
          go_ret
          exact ⟨ret_int HQ.out.symm, below_drewN HBW.out _⟩
      · go_wp2_with fail
        go_ret
        exact ⟨ret_int HF.out.symm, HBW.out⟩
  · have hq : F 3 = F 0 := Hst.out 0 hz
    have HQ := Lib.hid hq
    have hv : (F 0 != 0) = true := by simpa using hz
    clear hz hq
    go_enter Try.func28, Try.ntmps28
    go_wp2_with fail
    refine wp_tail 10 (by kernel_rfl) (by kernel_rfl) ?_
    simp only [List.take_succ_cons, List.take_zero, List.drop_succ_cons, List.drop_zero]
    still_step
    still_step
    still_step
    still_step
    still_call (S0.out _)
    still_step
    still_step
    still_step
    still_step
    still_call (S1.out _)
    refine wpStill_nil ?_
    go_wp2_with fail
    refine (Hor.out _ _ (by go_simp) (by go_simp)).mono ?_; rintro e w' ⟨rfl, rfl⟩
    go_wp2_with fail
    go_ret
    exact ⟨ret_int HQ.out.symm, (below_drewN (((Below.refl _ _).alloc (Nat.le_refl _) _).alloc (by simp) _) 1).alloc (by simp; omega) _⟩
end Go.Proofs.Ytpcnnnfgopilaaa
