/- MxCmp, MxSort -/
import Derived.Test.YtmhophmpbpbjaaaGreatDoorCa7
import Derived.Test.YtmhophmpbpbjaaaGreatDoorCa6
import Derived.Test.YtmhophmpbpbjaaaGreatDoorCa9
import Derived.Test.YtmhophmpbpbjaaaGreatDoorCa11
import Derived.Test.YtmhophmpbpbjaaaGreatDoorMxShelf
import Derived.Shelf.SlSortCmp.NoneTotal
namespace Go.Proofs.YtmhophmpbpbjaaaGreatDoor
set_option linter.unusedVariables false
section
namespace Mx
open Go.ChangeShapes Go.WideShapes Go.ChangeAt Go.RowKit Go.BigFrame
set_option maxRecDepth 100000
def orL : List Int → Int
  | [] => 0
  | x :: r => if x = 0 then orL r else x
set_option maxHeartbeats 2000000 in
theorem sliceCmp_any (p q : Nat) (a b : Sm) (w : World) (ha : HoldsM w p 44 a) (hb : HoldsM w q 44 b) :
    Calls Tryz.prog 114 #[.slice (some ⟨p, 4, none⟩) 3 3, .slice (some ⟨q, 4, none⟩) 3 3] w fun e w' => e = .returned (.int .i64 (orL [sgn a.t0 b.t0, sgn a.t1 b.t1, sgn a.t2 b.t2])) ∧ w' = w := by
  have S0 := Lib.hid (cc_same a.t0 b.t0); have S1 := Lib.hid (cc_same a.t1 b.t1); have S2 := Lib.hid (cc_same a.t2 b.t2)
  obtain ⟨-, -, -, -, a4, a5, a6⟩ := ha.cells7
  obtain ⟨-, -, -, -, b4, b5, b6⟩ := hb.cells7
  clear ha hb
  generalize sgn a.t0 b.t0 = s0 at *
  generalize sgn a.t1 b.t1 = s1 at *
  generalize sgn a.t2 b.t2 = s2 at *
  obtain ⟨F, hF⟩ : ∃ F, F = orL [s0, s1, s2] := ⟨_, rfl⟩
  rw [← hF]
  have HF := Lib.hid hF; clear hF
  go_enter Tryz.func114, Tryz.ntmps114
  go_wp2_with fail
  go_loop [11] (fun i => ∃ k : Nat, k ≤ 3 ∧ i = .int .i64 k ∧ (0 < k → s0 = 0) ∧ (1 < k → s1 = 0) ∧ (2 < k → s2 = 0)) (fun i => 3 - (intOf i).toNat)
  case atStart => exact ⟨0, by omega, rfl, by omega, by omega, by omega⟩
  case round =>
    obtain ⟨k, hk, rfl, hs⟩ := hrel
    have HS := Lib.hid hs; clear hs
    have hcase : k = 0 ∨ k = 1 ∨ k = 2 ∨ k = 3 := by omega
    clear hk
    rcases hcase with rfl | rfl | rfl | rfl
    · go_wp2_with fail
      refine (S0.out _).mono ?_; rintro e w' ⟨rfl, rfl⟩
      dsimp only
      by_cases hq : s0 = 0
      · have hq' : (s0 != 0) = false := by simp [hq]
        have HQ := Lib.hid hq; clear hq
        go_wp2_with fail
        go_round
        case rel => exact ⟨1, by omega, rfl, fun _ => HQ.out, by omega, by omega⟩
        case measure => simp [intOf]
      · have hq' : (s0 != 0) = true := by simpa using hq
        have HQ := Lib.hid hq; clear hq
        go_wp2_with fail
        go_ret
        exact ⟨by rw [HF.out]; unfold orL; rw [if_neg HQ.out]; rfl, rfl⟩
    · go_wp2_with fail
      refine (S1.out _).mono ?_; rintro e w' ⟨rfl, rfl⟩
      dsimp only
      by_cases hq : s1 = 0
      · have hq' : (s1 != 0) = false := by simp [hq]
        have HQ := Lib.hid hq; clear hq
        go_wp2_with fail
        go_round
        case rel => exact ⟨2, by omega, rfl, fun _ => HS.out.1 (by omega), fun _ => HQ.out, by omega⟩
        case measure => simp [intOf]
      · have hq' : (s1 != 0) = true := by simpa using hq
        have HQ := Lib.hid hq; clear hq
        go_wp2_with fail
        go_ret
        exact ⟨by rw [HF.out]; unfold orL; rw [if_pos (HS.out.1 (by omega))]; unfold orL; rw [if_neg HQ.out]; rfl, rfl⟩
    · go_wp2_with fail
      refine (S2.out _).mono ?_; rintro e w' ⟨rfl, rfl⟩
      dsimp only
      by_cases hq : s2 = 0
      · have hq' : (s2 != 0) = false := by simp [hq]
        have HQ := Lib.hid hq; clear hq
        go_wp2_with fail
        go_round
        case rel => exact ⟨3, by omega, rfl, fun _ => HS.out.1 (by omega), fun _ => HS.out.2.1 (by omega), fun _ => HQ.out⟩
        case measure => simp [intOf]
      · have hq' : (s2 != 0) = true := by simpa using hq
        have HQ := Lib.hid hq; clear hq
        go_wp2_with fail
        go_ret
        exact ⟨by rw [HF.out]; unfold orL; rw [if_pos (HS.out.1 (by omega))]; unfold orL; rw [if_pos (HS.out.2.1 (by omega))]; unfold orL; rw [if_neg HQ.out]; rfl, rfl⟩
    · go_wp2_with fail
      go_ret
      exact ⟨by rw [HF.out]; unfold orL; rw [if_pos (HS.out.1 (by omega))]; unfold orL; rw [if_pos (HS.out.2.1 (by omega))]; unfold orL; rw [if_pos (HS.out.2.2 (by omega))]; rfl, rfl⟩
set_option maxHeartbeats 2000000 in
theorem or5_any (g : Nat) (s0 s1 s2 s3 s4 : Int) (w : World) (ty : TypeId) (hr : Row w g ty [.int .i64 s0, .int .i64 s1, .int .i64 s2, .int .i64 s3, .int .i64 s4]) :
    Calls Tryz.prog 106 #[.slice (some ⟨g, 0, none⟩) 5 5] w fun e w' => e = .returned (.int .i64 (orL [s0, s1, s2, s3, s4])) ∧ w = w' := by
  have c0 := hr.cell 0; have c1 := hr.cell 1; have c2 := hr.cell 2; have c3 := hr.cell 3; have c4 := hr.cell 4
  simp only [List.getElem?_cons_succ, List.getElem?_cons_zero] at c0 c1 c2 c3 c4
  clear hr
  obtain ⟨F, hF⟩ : ∃ F, F = orL [s0, s1, s2, s3, s4] := ⟨_, rfl⟩
  rw [← hF]
  have HF := Lib.hid hF; clear hF
  go_enter Tryz.func106, Tryz.ntmps106
  go_wp2_with fail
  go_loop [5, 8] (fun c i => ∃ k : Nat, k ≤ 5 ∧ i = .int .i64 k ∧ (0 < k → s0 = 0) ∧ (1 < k → s1 = 0) ∧ (2 < k → s2 = 0) ∧ (3 < k → s3 = 0) ∧ (4 < k → s4 = 0)) (fun c i => 5 - (intOf i).toNat)
  case atStart => exact ⟨0, by omega, rfl, by omega, by omega, by omega, by omega, by omega⟩
  case round =>
    obtain ⟨k, hk, rfl, hs⟩ := hrel
    have HS := Lib.hid hs; clear hs
    have hcase : k = 0 ∨ k = 1 ∨ k = 2 ∨ k = 3 ∨ k = 4 ∨ k = 5 := by omega
    clear hk
    rcases hcase with rfl | rfl | rfl | rfl | rfl | rfl
    · by_cases hq : s0 = 0
      · have hq' : (s0 != 0) = false := by simp [hq]
        have HQ := Lib.hid hq; clear hq
        go_wp2_with fail
        go_round
        case rel => exact ⟨1, by omega, rfl, fun _ => HQ.out, by omega, by omega, by omega, by omega⟩
        case measure => simp [intOf]
      · have hq' : (s0 != 0) = true := by simpa using hq
        have HQ := Lib.hid hq; clear hq
        go_wp2_with fail
        go_ret
        exact ⟨by rw [HF.out]; unfold orL; rw [if_neg HQ.out]; rfl, rfl⟩
    · by_cases hq : s1 = 0
      · have hq' : (s1 != 0) = false := by simp [hq]
        have HQ := Lib.hid hq; clear hq
        go_wp2_with fail
        go_round
        case rel => exact ⟨2, by omega, rfl, fun _ => HS.out.1 (by omega), fun _ => HQ.out, by omega, by omega, by omega⟩
        case measure => simp [intOf]
      · have hq' : (s1 != 0) = true := by simpa using hq
        have HQ := Lib.hid hq; clear hq
        go_wp2_with fail
        go_ret
        exact ⟨by rw [HF.out]; unfold orL; rw [if_pos (HS.out.1 (by omega))]; unfold orL; rw [if_neg HQ.out]; rfl, rfl⟩
    · by_cases hq : s2 = 0
      · have hq' : (s2 != 0) = false := by simp [hq]
        have HQ := Lib.hid hq; clear hq
        go_wp2_with fail
        go_round
        case rel => exact ⟨3, by omega, rfl, fun _ => HS.out.1 (by omega), fun _ => HS.out.2.1 (by omega), fun _ => HQ.out, by omega, by omega⟩
        case measure => simp [intOf]
      · have hq' : (s2 != 0) = true := by simpa using hq
        have HQ := Lib.hid hq; clear hq
        go_wp2_with fail
        go_ret
        exact ⟨by rw [HF.out]; unfold orL; rw [if_pos (HS.out.1 (by omega))]; unfold orL; rw [if_pos (HS.out.2.1 (by omega))]; unfold orL; rw [if_neg HQ.out]; rfl, rfl⟩
    · by_cases hq : s3 = 0
      · have hq' : (s3 != 0) = false := by simp [hq]
        have HQ := Lib.hid hq; clear hq
        go_wp2_with fail
        go_round
        case rel => exact ⟨4, by omega, rfl, fun _ => HS.out.1 (by omega), fun _ => HS.out.2.1 (by omega), fun _ => HS.out.2.2.1 (by omega), fun _ => HQ.out, by omega⟩
        case measure => simp [intOf]
      · have hq' : (s3 != 0) = true := by simpa using hq
        have HQ := Lib.hid hq; clear hq
        go_wp2_with fail
        go_ret
        exact ⟨by rw [HF.out]; unfold orL; rw [if_pos (HS.out.1 (by omega))]; unfold orL; rw [if_pos (HS.out.2.1 (by omega))]; unfold orL; rw [if_pos (HS.out.2.2.1 (by omega))]; unfold orL; rw [if_neg HQ.out]; rfl, rfl⟩
    · by_cases hq : s4 = 0
      · have hq' : (s4 != 0) = false := by simp [hq]
        have HQ := Lib.hid hq; clear hq
        go_wp2_with fail
        go_round
        case rel => exact ⟨5, by omega, rfl, fun _ => HS.out.1 (by omega), fun _ => HS.out.2.1 (by omega), fun _ => HS.out.2.2.1 (by omega), fun _ => HS.out.2.2.2.1 (by omega), fun _ => HQ.out⟩
        case measure => simp [intOf]
      · have hq' : (s4 != 0) = true := by simpa using hq
        have HQ := Lib.hid hq; clear hq
        go_wp2_with fail
        go_ret
        exact ⟨by rw [HF.out]; unfold orL; rw [if_pos (HS.out.1 (by omega))]; unfold orL; rw [if_pos (HS.out.2.1 (by omega))]; unfold orL; rw [if_pos (HS.out.2.2.1 (by omega))]; unfold orL; rw [if_pos (HS.out.2.2.2.1 (by omega))]; unfold orL; rw [if_neg HQ.out]; rfl, rfl⟩
    · go_wp2_with fail
      go_ret
      exact ⟨by rw [HF.out]; unfold orL; rw [if_pos (HS.out.1 (by omega))]; unfold orL; rw [if_pos (HS.out.2.1 (by omega))]; unfold orL; rw [if_pos (HS.out.2.2.1 (by omega))]; unfold orL; rw [if_pos (HS.out.2.2.2.1 (by omega))]; unfold orL; rw [if_pos (HS.out.2.2.2.2 (by omega))]; rfl, rfl⟩
def _root_.Go.Proofs.YtmhophmpbpbjaaaGreatDoor.Sm.C (a b : Sm) : Int := orL [sgn a.fr b.fr, sgn a.to b.to, sgn a.kp b.kp, sgn a.ad b.ad, orL [sgn a.t0 b.t0, sgn a.t1 b.t1, sgn a.t2 b.t2]]
theorem orL_neg {x : Int} {r : List Int} : orL (x :: r) < 0 ↔ x < 0 ∨ x = 0 ∧ orL r < 0 := by
  rw [orL]; split <;> omega
theorem orL_zero {x : Int} {r : List Int} : orL (x :: r) = 0 ↔ x = 0 ∧ orL r = 0 := by
  rw [orL]; split <;> omega
theorem sgn_neg {a b : Int} : sgn a b < 0 ↔ a < b := by
  rcases sgn_cases a b with ⟨h, e⟩ | ⟨h, e⟩ | ⟨h, e⟩ <;> rw [e] <;> simp <;> omega
theorem C_neg {a b : Sm} : a.C b < 0 ↔ a.A b := by
  unfold Sm.C Sm.A
  rw [orL_neg, orL_neg, orL_neg, orL_neg, orL_neg, orL_neg, orL_neg, orL_neg, sgn_neg, sgn_neg, sgn_neg, sgn_neg, sgn_neg, sgn_neg, sgn_neg, sgn_zero, sgn_zero, sgn_zero, sgn_zero, sgn_zero, sgn_zero, sgn_zero]
  have h0 : orL [] = 0 := rfl
  rw [h0]
  omega
theorem _root_.Go.Proofs.YtmhophmpbpbjaaaGreatDoor.Sm.C_zero {a b : Sm} : a.C b = 0 ↔ a = b := by
  unfold Sm.C
  rw [orL_zero, orL_zero, orL_zero, orL_zero, orL_zero, orL_zero, orL_zero, orL_zero, sgn_zero, sgn_zero, sgn_zero, sgn_zero, sgn_zero, sgn_zero, sgn_zero, Sm.ext_iff']
  have h0 : orL [] = 0 := rfl
  simp [h0]
theorem _root_.Go.Proofs.YtmhophmpbpbjaaaGreatDoor.Sm.C_swap {a b : Sm} : a.C b = - b.C a := by
  unfold Sm.C
  rw [sgn_swap a.fr b.fr, sgn_swap a.to b.to, sgn_swap a.kp b.kp, sgn_swap a.ad b.ad, sgn_swap a.t0 b.t0, sgn_swap a.t1 b.t1, sgn_swap a.t2 b.t2]
  generalize sgn b.fr a.fr = s1
  generalize sgn b.to a.to = s2
  generalize sgn b.kp a.kp = s3
  generalize sgn b.ad a.ad = s4
  generalize sgn b.t0 a.t0 = s5
  generalize sgn b.t1 a.t1 = s6
  generalize sgn b.t2 a.t2 = s7
  simp only [orL]
  repeat' split
  all_goals omega
theorem _root_.Go.Proofs.YtmhophmpbpbjaaaGreatDoor.Sm.C_lt_trans {a b c : Sm} (h1 : a.C b < 0) (h2 : b.C c < 0) : a.C c < 0 := by
  rw [C_neg] at *; exact Sm.A_trans h1 h2
theorem _root_.Go.Proofs.YtmhophmpbpbjaaaGreatDoor.Sm.C_trans {a b c : Sm} (h1 : a.C b ≤ 0) (h2 : b.C c ≤ 0) : a.C c ≤ 0 := by
  rcases Int.lt_or_eq_of_le h1 with h3 | h3
  · rcases Int.lt_or_eq_of_le h2 with h4 | h4
    · exact Int.le_of_lt (Sm.C_lt_trans h3 h4)
    · rw [Sm.C_zero] at h4; subst h4; exact h1
  · rw [Sm.C_zero] at h3; subst h3; exact h2
set_option maxHeartbeats 4000000 in
theorem compare_grew (a b : Sm) (w : World) : Calls Tryz.prog 61 #[a.v, b.v] w fun e w' => e = .returned (.int .i64 (a.C b)) ∧ Grew w w' := by
  have hsc := fun (p q : Nat) (w : World) => sliceCmp_any p q a b w
  have hor := fun (g : Nat) (w : World) (ty : TypeId) => or5_any g (sgn a.fr b.fr) (sgn a.to b.to) (sgn a.kp b.kp) (sgn a.ad b.ad) (orL [sgn a.t0 b.t0, sgn a.t1 b.t1, sgn a.t2 b.t2]) w ty
  rw [show orL [sgn a.fr b.fr, sgn a.to b.to, sgn a.kp b.kp, sgn a.ad b.ad, orL [sgn a.t0 b.t0, sgn a.t1 b.t1, sgn a.t2 b.t2]] = a.C b from rfl] at hor
  have S0 := Lib.hid (cc_same a.fr b.fr); have S1 := Lib.hid (cc_same a.to b.to); have S2 := Lib.hid (cc_same a.kp b.kp); have S3 := Lib.hid (cc_same a.ad b.ad)
  generalize sgn a.fr b.fr = s0 at *
  generalize sgn a.to b.to = s1 at *
  generalize sgn a.kp b.kp = s2 at *
  generalize sgn a.ad b.ad = s3 at *
  generalize orL [sgn a.t0 b.t0, sgn a.t1 b.t1, sgn a.t2 b.t2] = s4 at *
  generalize a.C b = R at *
  have h2 := Two2.made w 44 a b
  have hg : Grew w ((w.alloc (.cells #[.int .i64 a.fr, .int .i64 a.to, .int .i64 a.kp, .int .i64 a.ad, .int .i64 a.t0, .int .i64 a.t1, .int .i64 a.t2] 44)).alloc (.cells #[.int .i64 b.fr, .int .i64 b.to, .int .i64 b.kp, .int .i64 b.ad, .int .i64 b.t0, .int .i64 b.t1, .int .i64 b.t2] 44)) := ((Grew.refl w).alloc _).alloc _
  have H2 := Lib.hid h2; have HG := Lib.hid hg; have SC := Lib.hid hsc; have OR := Lib.hid hor; clear h2 hg hsc hor
  unfold Sm.v
  go_enter Tryz.func61, Tryz.ntmps61
  go_wp2_with fail
  refine wp_tail 25 (by kernel_rfl) (by kernel_rfl) ?_
  simp only [List.take_succ_cons, List.take_zero, List.drop_succ_cons, List.drop_zero]
  have k1 : HoldsM (((w.alloc (.cells #[.int .i64 a.fr, .int .i64 a.to, .int .i64 a.kp, .int .i64 a.ad, .int .i64 a.t0, .int .i64 a.t1, .int .i64 a.t2] 44)).alloc (.cells #[.int .i64 b.fr, .int .i64 b.to, .int .i64 b.kp, .int .i64 b.ad, .int .i64 b.t0, .int .i64 b.t1, .int .i64 b.t2] 44)).drewN 1) w.heap.size 44 a := HoldsM.drewN H2.out.1 1
  have k2 : HoldsM (((w.alloc (.cells #[.int .i64 a.fr, .int .i64 a.to, .int .i64 a.kp, .int .i64 a.ad, .int .i64 a.t0, .int .i64 a.t1, .int .i64 a.t2] 44)).alloc (.cells #[.int .i64 b.fr, .int .i64 b.to, .int .i64 b.kp, .int .i64 b.ad, .int .i64 b.t0, .int .i64 b.t1, .int .i64 b.t2] 44)).drewN 1) (w.heap.size + 1) 44 b := HoldsM.drewN H2.out.2 1
  have hgd := HG.out.drewN 1
  have hsz : (((w.alloc (.cells #[.int .i64 a.fr, .int .i64 a.to, .int .i64 a.kp, .int .i64 a.ad, .int .i64 a.t0, .int .i64 a.t1, .int .i64 a.t2] 44)).alloc (.cells #[.int .i64 b.fr, .int .i64 b.to, .int .i64 b.kp, .int .i64 b.ad, .int .i64 b.t0, .int .i64 b.t1, .int .i64 b.t2] 44)).drewN 1).heap.size = w.heap.size + 1 + 1 := by simp
  generalize ((w.alloc (.cells #[.int .i64 a.fr, .int .i64 a.to, .int .i64 a.kp, .int .i64 a.ad, .int .i64 a.t0, .int .i64 a.t1, .int .i64 a.t2] 44)).alloc (.cells #[.int .i64 b.fr, .int .i64 b.to, .int .i64 b.kp, .int .i64 b.ad, .int .i64 b.t0, .int .i64 b.t1, .int .i64 b.t2] 44)).drewN 1 = W at *
  obtain ⟨a0, a1, a2, a3, a4, a5, a6⟩ := k1.cells7
  obtain ⟨b0, b1, b2, b3, b4, b5, b6⟩ := k2.cells7
  have K := Lib.hid (And.intro k1 (And.intro k2 hgd)); have HSZ := Lib.hid hsz; clear k1 k2 hgd H2 HG hsz
  still_step
  still_step
  still_step
  still_step
  still_call (S0.out _)
  still_step
  still_step
  still_step
  still_step
  still_call (S1.out _)
  still_step
  still_step
  still_step
  still_step
  still_call (S2.out _)
  still_step
  still_step
  still_step
  still_step
  still_call (S3.out _)
  still_step
  still_step
  still_step
  still_step
  still_call (SC.out _ _ _ K.out.1 K.out.2.1)
  refine wpStill_nil ?_
  clear a0 a1 a2 a3 a4 a5 a6 b0 b1 b2 b3 b4 b5 b6 S0 S1 S2 S3 SC
  go_wp2_with fail
  refine (OR.out _ _ _ (Row.made W _ _)).mono ?_; rintro e w' ⟨rfl, rfl⟩
  dsimp only
  go_wp2_with fail
  go_ret
  exact ⟨rfl, K.out.2.2.alloc _⟩
end Mx
end

section
namespace Mx
open Go.Sort (grow SWO putCells flatK size_flatK get_flatK putRowK HoldsK)
open Go.ChangeShapes Go.WideShapes Go.ChangeAt Go.RowKit Go.BigFrame Go.Shelf
set_option maxRecDepth 100000
instance : Inhabited Sm := ⟨Sm.zero⟩
theorem grew_grow {W w' : World} (h : Grew W w') : ∃ q os, w' = grow (W.drewN q) os := by
  obtain ⟨⟨h1, h2, h3, h4, h5⟩, h6⟩ := h
  refine ⟨w'.drawn - W.drawn, w'.heap.extract W.heap.size w'.heap.size, ?_⟩
  have hh : w'.heap = W.heap ++ w'.heap.extract W.heap.size w'.heap.size := by
    apply Array.ext_getElem?
    intro k
    rw [Array.getElem?_append]
    split
    · rename_i hk; exact h5 k hk
    · rename_i hk
      rw [Array.getElem?_extract]
      by_cases hk2 : k < w'.heap.size
      · rw [if_pos (by omega), show W.heap.size + (k - W.heap.size) = k by omega]
      · rw [if_neg (by omega), Array.getElem?_eq_none (by omega)]
  have hd : w'.drawn = W.drawn + (w'.drawn - W.drawn) := by omega
  cases w'
  cases W
  simp only at h1 h2 h3 hh hd
  unfold grow World.drewN
  simp only [World.mk.injEq]
  exact ⟨hh, h2, hd, h1, h3⟩
theorem flat_row (ts : List Sm) : flatK Sm.cells 7 ts.toArray = (rowS ts).toArray := by
  apply Array.ext_getElem?
  intro k
  by_cases hk : k < ts.length * 7
  · have h1 : k / 7 < ts.length := by omega
    obtain ⟨t, ht⟩ : ∃ t, ts[k / 7]? = some t := ⟨_, List.getElem?_eq_getElem h1⟩
    obtain ⟨u, hu⟩ : ∃ u, t.cells[k % 7]? = some u := ⟨_, List.getElem?_eq_getElem (by show k % 7 < 7; omega)⟩
    have h2 := rowS_at ts (k / 7) t ht (k % 7) u hu
    rw [show k / 7 * 7 + k % 7 = k by omega] at h2
    have hrhs : (rowS ts).toArray[k]? = some u := by simpa using h2
    rw [hrhs]
    have h3 := get_flatK Sm.cells 7 ts.toArray k (by simpa using hk)
    have h4 : ts.toArray[k / 7]! = t := by
      rw [List.getElem!_toArray, List.getElem!_eq_getElem?_getD, ht]; rfl
    rw [h4, List.getElem!_eq_getElem?_getD, hu] at h3
    have h5 : k < (flatK Sm.cells 7 ts.toArray).size := by rw [size_flatK]; simpa using hk
    rw [getElem!_pos _ k h5] at h3
    rw [Array.getElem?_eq_getElem h5, h3]; rfl
  · rw [Array.getElem?_eq_none (by rw [size_flatK]; simpa using hk), Array.getElem?_eq_none (by simp only [List.size_toArray]; rw [rowS_len]; omega)]
theorem swoC : SWO (ltOf Sm.C) where
  irrefl x := by
    have : x.C x = 0 := Sm.C_zero.2 rfl
    simp [ltOf, this]
  trans x y z h1 h2 := by
    simp only [ltOf, decide_eq_true_eq] at *
    exact Sm.C_lt_trans h1 h2
  ntrans x y z h1 h2 := by
    simp only [ltOf, decide_eq_false_iff_not] at *
    have e1 := Sm.C_swap (a := x) (b := y)
    have e2 := Sm.C_swap (a := y) (b := z)
    have e3 := Sm.C_swap (a := x) (b := z)
    have := Sm.C_trans (a := z) (b := y) (c := x) (by omega) (by omega)
    omega
def sortS (ts : List Sm) : List Sm := ts.mergeSort fun x y => !(ltOf Sm.C) y x
theorem sortS_perm (ts : List Sm) : (sortS ts).Perm ts := List.mergeSort_perm _ _
theorem sortS_rises (ts : List Sm) : (sortS ts).Pairwise fun x y => x.C y ≤ 0 := by
  refine (List.pairwise_mergeSort (le := fun x y => !(ltOf Sm.C) y x) ?_ ?_ ts).imp ?_
  · intro a b c h1 h2
    simp only [ltOf, Bool.not_eq_true', decide_eq_false_iff_not] at *
    have e1 := Sm.C_swap (a := a) (b := b)
    have e2 := Sm.C_swap (a := b) (b := c)
    have e3 := Sm.C_swap (a := a) (b := c)
    have := Sm.C_trans (a := a) (b := b) (c := c) (by omega) (by omega)
    omega
  · intro a b
    have e1 := Sm.C_swap (a := a) (b := b)
    simp only [ltOf, Bool.or_eq_true, Bool.not_eq_true', decide_eq_false_iff_not]
    omega
  · intro a b h
    have e1 := Sm.C_swap (a := a) (b := b)
    simp only [ltOf, Bool.not_eq_true', decide_eq_false_iff_not] at h
    omega
theorem cmpLays (blk off size : Nat) (w : World) : CmpLays Tryz.prog 61 #[] Sm.cells 7 Sm.C blk off size w := by
  intro m os dk _ x y
  exact (compare_grew x y _).mono fun _ _ h => ⟨h.1, grew_grow h.2⟩
theorem grown_sorted {w : World} {g n : Nat} {os : Array Obj} (d : Array Sm) : w.grownBy (sortWorldK Sm.cells 7 w g 0 n d os) (some g) := by
  refine ⟨rfl, rfl, rfl, ?_, fun k hk hne => ?_⟩
  · exact size_sortWorldK_c Sm.cells 7 w g 0 n d os
  · unfold sortWorldK
    rw [Go.Sort.heap_grow_old _ _ (by simpa [putRowK] using hk)]
    have : g ≠ k := fun e => hne (by rw [e])
    simp [putRowK, Go.Sort.putRow, Go.Sort.mapBlock, Go.Sort.ahead, Array.getElem?_modify, this]
theorem sortFunc_any (base n : Nat) (v : Value) (ts : List Sm) (w : World) (hr : w.ownsRow base 44 7 v n (rowS ts)) (hn : ts.length ≤ 5000000) :
    Calls Tryz.prog 112 #[v, .func (.func 61) #[] #[]] w fun e w' => e = .returned (.tuple #[]) ∧ w'.ownsRow base 44 7 v n (rowS (sortS ts)) ∧ w.grownBy w' v.ownBlock := by
  have hl : ts.length = n := by have := hr.1; rw [rowS_len] at this; omega
  rcases hr.2 with ⟨rfl, h0⟩ | ⟨g, cap, cur, rfl, hb, hh, h1, h2, h3, h4⟩
  · have : ts = [] := List.eq_nil_of_length_eq_zero (by omega)
    subst this
    exact (AnyF.slices_SortFunc_none Tryz.sortSum none 0 _ w).mono fun e w' ⟨he, hw⟩ => ⟨he, by subst hw; rw [show sortS [] = [] from List.mergeSort_nil]; exact hr, by subst hw; exact ⟨rfl, rfl, rfl, Nat.le_refl _, fun _ _ _ => rfl⟩⟩
  · have hg : g < w.heap.size := (Array.getElem?_eq_some_iff.1 hh).1
    have hH : HoldsK Sm.cells 7 w g 0 ts.toArray := by
      unfold HoldsK
      rw [flat_row]
      intro j hj
      have hj' : j < (rowS ts).length := by simpa using hj
      refine ⟨?_, by simp [World.frozen?, hh]⟩
      have hc := hr.cells (g := g) rfl j _ (List.getElem?_eq_getElem hj')
      rw [add_zero_off] at hc
      rw [Nat.zero_add, hc, getElem!_pos _ j hj]
      rfl
    have hs := AnyQ.slices_SortFunc_total Tryz.sortSum 7 Tryz.isAgg44 Tryz.sizeOf44 Sm.cells (fun _ => rfl) (fun x v hv => rowS_one [x] v (by simpa [rowS] using hv)) Sm.C swoC 61 #[] g 0 cap ts.toArray w
      (enters_of Tryz.func61 (by kernel_rfl) rfl) (cmpLays _ _ _ _) hH hg (by simp; omega) (fun x y hx hy => by
        simp only [ltOf, decide_eq_false_iff_not] at hx hy
        have e1 := Sm.C_swap (a := x) (b := y)
        exact Sm.C_zero.1 (by omega))
    rw [show ts.toArray.size = n by simpa using hl] at hs
    refine hs.mono fun e w' ⟨he, m, os, hw⟩ => ⟨he, ?_, by subst hw; exact grown_sorted _⟩
    subst hw
    refine ⟨by rw [rowS_len, (sortS_perm ts).length_eq, hl], .inr ⟨g, cap, putCells id 0 (rowS (sortS ts)).toArray cur, rfl, hb, ?_, h1, h2, by simp [putCells, h3], ?_⟩⟩
    · unfold sortWorldK
      rw [Go.Sort.heap_grow_old _ _ (by simpa [putRowK] using hg)]
      show (putRowK Sm.cells 7 (Go.Sort.ahead w m) g 0 (sortS ts).toArray).heap[g]? = _
      unfold putRowK
      rw [flat_row]
      simp [Go.Sort.putRow, Go.Sort.mapBlock, Go.Sort.ahead, Array.getElem?_modify, hh, Go.Sort.onCells]
    · have hlen : (rowS (sortS ts)).length = n * 7 := by rw [rowS_len, (sortS_perm ts).length_eq, hl]
      apply List.ext_getElem?
      intro j
      by_cases hj : j < n * 7
      · rw [List.getElem?_take_of_lt hj, Array.getElem?_toList]
        have : j < cur.size := by have := Nat.mul_le_mul_right 7 h1; omega
        simp [putCells, hlen, hj, this]
      · rw [List.getElem?_take_eq_none (by omega), List.getElem?_eq_none (by omega)]
theorem sortedFunc_any (g N : Nat) (lb : Array Value) (S Sp : List RSm → Prop) (hN : N ≤ 5000000) (hS : ∀ xs, S xs → xs.length ≤ 5000000) (w0 w : World) (hb0 : Below w0.heap.size w0 w) (eg : ∀ args w, (callFunc g args).run Tryz.prog w = .ok (.enter g args) w)
    (hseq : ∀ n, 1 ≤ n → SeqStopsK Fence.wide n Tryz.prog g lb encS KeepsWalks S Sp N w0) :
    Calls Tryz.prog 59 #[.func (.func g) #[] lb, .func (.func 61) #[] #[]] w fun e W' => (∃ v xs, e = .returned v ∧ S xs ∧ W'.ownsRow w.heap.size 44 7 v xs.length (rowS (sortS (raw xs)))) ∧ Below w.heap.size w W' := by
  have H := Lib.hid (collect_any g N lb S Sp hN w0 w hb0 eg hseq)
  have HS := Lib.hid hS
  clear hseq eg hb0 hS
  go_enter Tryz.func59, Tryz.ntmps59
  go_wp2_with fail
  refine (H.out).mono ?_; rintro e w1 ⟨⟨v, xs, rfl, hs, hr⟩, hb⟩
  have hso := sortFunc_any w.heap.size xs.length v (raw xs) w1 hr (by rw [raw_length]; exact HS.out _ hs)
  have hv : ∀ k, v.ownBlock = some k → w.heap.size ≤ k := fun k hk => (hr.lt k hk).1
  have HH := Lib.hid (And.intro hs (And.intro hv hb)); have HSO := Lib.hid hso; clear hs hr hb hso hv H
  dsimp only
  go_wp2_with fail
  refine (HSO.out).mono ?_; rintro e w2 ⟨rfl, hr2, hg⟩
  have H2 := Lib.hid (And.intro hr2 (HH.out.2.2.grown hg HH.out.2.2.size HH.out.2.1)); clear hr2 hg HSO
  dsimp only
  go_wp2_with fail
  go_ret
  exact ⟨⟨v, xs, rfl, HH.out.1, H2.out.1⟩, H2.out.2⟩
theorem own_len {w : World} {base n : Nat} {v : Value} {ts : List Sm} (h : w.ownsRow base 44 7 v n (rowS ts)) : n = ts.length := by
  have := h.1; rw [rowS_len] at this; omega
theorem own_kept {w w' : World} {base n : Nat} {v : Value} {xs : List Value} (h : w.ownsRow base 44 7 v n xs) (hb : Below w.heap.size w w') : w'.ownsRow base 44 7 v n xs := by
  refine h.kept (grown_below hb) ?_
  cases hv : v.ownBlock with
  | none => exact .inl rfl
  | some k => exact .inr (by simp)
end Mx
end
end Go.Proofs.YtmhophmpbpbjaaaGreatDoor
