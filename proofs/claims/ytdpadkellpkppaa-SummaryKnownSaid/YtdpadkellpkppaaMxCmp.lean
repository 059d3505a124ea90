/- compare of two summaries: the program's. -/
import Derived.Test.YtdpadkellpkppaaMxRow
import Derived.Test.YtdpadkellpkppaaStCmpA
import Derived.Test.YtdpadkellpkppaaLeastMath
namespace Go.Proofs.Ytdpadkellpkppaa
namespace Mx
open Go.ChangeShapes Go.WideShapes Go.ChangeAt Go.RowKit Go.BigFrame
set_option linter.unusedVariables false
set_option maxRecDepth 100000
/-- the first one that is not 0 -/
def orL : List Int → Int
  | [] => 0
  | x :: r => if x = 0 then orL r else x
set_option maxHeartbeats 2000000 in
theorem sliceCmp_any (p q : Nat) (a b : Sm) (w : World) (ha : HoldsM w p 24 a) (hb : HoldsM w q 24 b) :
    Calls Try.prog 49 #[.slice (some ⟨p, 4, none⟩) 3 3, .slice (some ⟨q, 4, none⟩) 3 3] w fun e w' => e = .returned (.int .i64 (orL [sgn a.t0 b.t0, sgn a.t1 b.t1, sgn a.t2 b.t2])) ∧ w' = w := by
  have S0 := Lib.hid (cc_same a.t0 b.t0); have S1 := Lib.hid (cc_same a.t1 b.t1); have S2 := Lib.hid (cc_same a.t2 b.t2)
  obtain ⟨-, -, -, -, a4, a5, a6⟩ := ha.cells7
  obtain ⟨-, -, -, -, b4, b5, b6⟩ := hb.cells7
  clear ha hb
  generalize sgn a.t0 b.t0 = s0 at *
  generalize sgn a.t1 b.t1 = s1 at *
  generalize sgn a.t2 b.t2 = s2 at *
  obtain ⟨F, hF⟩ : ∃ F, F = orL [s0, s1, s2] := ⟨_, rfl⟩
  rw [← hF]
  have HF := Lib.hid hF; clear hF
  go_enter Try.func49, Try.ntmps49
  go_wp2_with fail
  go_loop [11] (fun i => ∃ k : Nat, k ≤ 3 ∧ i = .int .i64 k ∧ (0 < k → s0 = 0) ∧ (1 < k → s1 = 0) ∧ (2 < k → s2 = 0)) (fun i => 3 - (intOf i).toNat)
  case atStart => exact ⟨0, by omega, rfl, by omega, by omega, by omega⟩
  case round =>
    obtain ⟨k, hk, rfl, hs⟩ := hrel
    have HS := Lib.hid hs; clear hs
    have hcase : k = 0 ∨ k = 1 ∨ k = 2 ∨ k = 3 := by omega
    clear hk
    rcases hcase with rfl | rfl | rfl | rfl
    · go_wp2_with fail
      refine (S0.out _).mono ?_; rintro e w' ⟨rfl, rfl⟩
      dsimp only
      by_cases hq : s0 = 0
      · have hq' : (s0 != 0) = false := by simp [hq]
        have HQ := Lib.hid hq; clear hq
        go_wp2_with fail
        go_round
        case rel => exact ⟨1, by omega, rfl, fun _ => HQ.out, by omega, by omega⟩
        case measure => simp [intOf]
      · have hq' : (s0 != 0) = true := by simpa using hq
        have HQ := Lib.hid hq; clear hq
        go_wp2_with fail
        go_ret
        exact ⟨by rw [HF.out]; unfold orL; rw [if_neg HQ.out]; rfl, rfl⟩
    · go_wp2_with fail
      refine (S1.out _).mono ?_; rintro e w' ⟨rfl, rfl⟩
      dsimp only
      by_cases hq : s1 = 0
      · have hq' : (s1 != 0) = false := by simp [hq]
        have HQ := Lib.hid hq; clear hq
        go_wp2_with fail
        go_round
        case rel => exact ⟨2, by omega, rfl, fun _ => HS.out.1 (by omega), fun _ => HQ.out, by omega⟩
        case measure => simp [intOf]
      · have hq' : (s1 != 0) = true := by simpa using hq
        have HQ := Lib.hid hq; clear hq
        go_wp2_with fail
        go_ret
        exact ⟨by rw [HF.out]; unfold orL; rw [if_pos (HS.out.1 (by omega))]; unfold orL; rw [if_neg HQ.out]; rfl, rfl⟩
    · go_wp2_with fail
      refine (S2.out _).mono ?_; rintro e w' ⟨rfl, rfl⟩
      dsimp only
      by_cases hq : s2 = 0
      · have hq' : (s2 != 0) = false := by simp [hq]
        have HQ := Lib.hid hq; clear hq
        go_wp2_with fail
        go_round
        case rel => exact ⟨3, by omega, rfl, fun _ => HS.out.1 (by omega), fun _ => HS.out.2.1 (by omega), fun _ => HQ.out⟩
        case measure => simp [intOf]
      · have hq' : (s2 != 0) = true := by simpa using hq
        have HQ := Lib.hid hq; clear hq
        go_wp2_with fail
        go_ret
        exact ⟨by rw [HF.out]; unfold orL; rw [if_pos (HS.out.1 (by omega))]; unfold orL; rw [if_pos (HS.out.2.1 (by omega))]; unfold orL; rw [if_neg HQ.out]; rfl, rfl⟩
    · go_wp2_with fail
      go_ret
      exact ⟨by rw [HF.out]; unfold orL; rw [if_pos (HS.out.1 (by omega))]; unfold orL; rw [if_pos (HS.out.2.1 (by omega))]; unfold orL; rw [if_pos (HS.out.2.2 (by omega))]; rfl, rfl⟩
set_option maxHeartbeats 2000000 in
theorem or5_any (g : Nat) (s0 s1 s2 s3 s4 : Int) (w : World) (ty : TypeId) (hr : Row w g ty [.int .i64 s0, .int .i64 s1, .int .i64 s2, .int .i64 s3, .int .i64 s4]) :
    Calls Try.prog 47 #[.slice (some ⟨g, 0, none⟩) 5 5] w fun e w' => e = .returned (.int .i64 (orL [s0, s1, s2, s3, s4])) ∧ w = w' := by
  have c0 := hr.cell 0; have c1 := hr.cell 1; have c2 := hr.cell 2; have c3 := hr.cell 3; have c4 := hr.cell 4
  simp only [List.getElem?_cons_succ, List.getElem?_cons_zero] at c0 c1 c2 c3 c4
  clear hr
  obtain ⟨F, hF⟩ : ∃ F, F = orL [s0, s1, s2, s3, s4] := ⟨_, rfl⟩
  rw [← hF]
  have HF := Lib.hid hF; clear hF
  go_enter Try.func47, Try.ntmps47
  go_wp2_with fail
  go_loop [5, 8] (fun c i => ∃ k : Nat, k ≤ 5 ∧ i = .int .i64 k ∧ (0 < k → s0 = 0) ∧ (1 < k → s1 = 0) ∧ (2 < k → s2 = 0) ∧ (3 < k → s3 = 0) ∧ (4 < k → s4 = 0)) (fun c i => 5 - (intOf i).toNat)
  case atStart => exact ⟨0, by omega, rfl, by omega, by omega, by omega, by omega, by omega⟩
  case round =>
    obtain ⟨k, hk, rfl, hs⟩ := hrel
    have HS := Lib.hid hs; clear hs
    have hcase : k = 0 ∨ k = 1 ∨ k = 2 ∨ k = 3 ∨ k = 4 ∨ k = 5 := by omega
    clear hk
    rcases hcase with rfl | rfl | rfl | rfl | rfl | rfl
    · by_cases hq : s0 = 0
      · have hq' : (s0 != 0) = false := by simp [hq]
        have HQ := Lib.hid hq; clear hq
        go_wp2_with fail
        go_round
        case rel => exact ⟨1, by omega, rfl, fun _ => HQ.out, by omega, by omega, by omega, by omega⟩
        case measure => simp [intOf]
      · have hq' : (s0 != 0) = true := by simpa using hq
        have HQ := Lib.hid hq; clear hq
        go_wp2_with fail
        go_ret
        exact ⟨by rw [HF.out]; unfold orL; rw [if_neg HQ.out]; rfl, rfl⟩
    · by_cases hq : s1 = 0
      · have hq' : (s1 != 0) = false := by simp [hq]
        have HQ := Lib.hid hq; clear hq
        go_wp2_with fail
        go_round
        case rel => exact ⟨2, by omega, rfl, fun _ => HS.out.1 (by omega), fun _ => HQ.out, by omega, by omega, by omega⟩
        case measure => simp [intOf]
      · have hq' : (s1 != 0) = true := by simpa using hq
        have HQ := Lib.hid hq; clear hq
        go_wp2_with fail
        go_ret
        exact ⟨by rw [HF.out]; unfold orL; rw [if_pos (HS.out.1 (by omega))]; unfold orL; rw [if_neg HQ.out]; rfl, rfl⟩
    · by_cases hq : s2 = 0
      · have hq' : (s2 != 0) = false := by simp [hq]
        have HQ := Lib.hid hq; clear hq
        go_wp2_with fail
        go_round
        case rel => exact ⟨3, by omega, rfl, fun _ => HS.out.1 (by omega), fun _ => HS.out.2.1 (by omega), fun _ => HQ.out, by omega, by omega⟩
        case measure => simp [intOf]
      · have hq' : (s2 != 0) = true := by simpa using hq
        have HQ := Lib.hid hq; clear hq
        go_wp2_with fail
        go_ret
        exact ⟨by rw [HF.out]; unfold orL; rw [if_pos (HS.out.1 (by omega))]; unfold orL; rw [if_pos (HS.out.2.1 (by omega))]; unfold orL; rw [if_neg HQ.out]; rfl, rfl⟩
    · by_cases hq : s3 = 0
      · have hq' : (s3 != 0) = false := by simp [hq]
        have HQ := Lib.hid hq; clear hq
        go_wp2_with fail
        go_round
        case rel => exact ⟨4, by omega, rfl, fun _ => HS.out.1 (by omega), fun _ => HS.out.2.1 (by omega), fun _ => HS.out.2.2.1 (by omega), fun _ => HQ.out, by omega⟩
        case measure => simp [intOf]
      · have hq' : (s3 != 0) = true := by simpa using hq
        have HQ := Lib.hid hq; clear hq
        go_wp2_with fail
        go_ret
        exact ⟨by rw [HF.out]; unfold orL; rw [if_pos (HS.out.1 (by omega))]; unfold orL; rw [if_pos (HS.out.2.1 (by omega))]; unfold orL; rw [if_pos (HS.out.2.2.1 (by omega))]; unfold orL; rw [if_neg HQ.out]; rfl, rfl⟩
    · by_cases hq : s4 = 0
      · have hq' : (s4 != 0) = false := by simp [hq]
        have HQ := Lib.hid hq; clear hq
        go_wp2_with fail
        go_round
        case rel => exact ⟨5, by omega, rfl, fun _ => HS.out.1 (by omega), fun _ => HS.out.2.1 (by omega), fun _ => HS.out.2.2.1 (by omega), fun _ => HS.out.2.2.2.1 (by omega), fun _ => HQ.out⟩
        case measure => simp [intOf]
      · have hq' : (s4 != 0) = true := by simpa using hq
        have HQ := Lib.hid hq; clear hq
        go_wp2_with fail
        go_ret
        exact ⟨by rw [HF.out]; unfold orL; rw [if_pos (HS.out.1 (by omega))]; unfold orL; rw [if_pos (HS.out.2.1 (by omega))]; unfold orL; rw [if_pos (HS.out.2.2.1 (by omega))]; unfold orL; rw [if_pos (HS.out.2.2.2.1 (by omega))]; unfold orL; rw [if_neg HQ.out]; rfl, rfl⟩
    · go_wp2_with fail
      go_ret
      exact ⟨by rw [HF.out]; unfold orL; rw [if_pos (HS.out.1 (by omega))]; unfold orL; rw [if_pos (HS.out.2.1 (by omega))]; unfold orL; rw [if_pos (HS.out.2.2.1 (by omega))]; unfold orL; rw [if_pos (HS.out.2.2.2.1 (by omega))]; unfold orL; rw [if_pos (HS.out.2.2.2.2 (by omega))]; rfl, rfl⟩
/-- the order by From, To, Keep, Add, Tail -/
def _root_.Go.Proofs.Ytdpadkellpkppaa.Sm.C (a b : Sm) : Int := orL [sgn a.fr b.fr, sgn a.to b.to, sgn a.kp b.kp, sgn a.ad b.ad, orL [sgn a.t0 b.t0, sgn a.t1 b.t1, sgn a.t2 b.t2]]
theorem orL_neg {x : Int} {r : List Int} : orL (x :: r) < 0 ↔ x < 0 ∨ x = 0 ∧ orL r < 0 := by
  rw [orL]; split <;> omega
theorem orL_zero {x : Int} {r : List Int} : orL (x :: r) = 0 ↔ x = 0 ∧ orL r = 0 := by
  rw [orL]; split <;> omega
theorem sgn_neg {a b : Int} : sgn a b < 0 ↔ a < b := by
  rcases sgn_cases a b with ⟨h, e⟩ | ⟨h, e⟩ | ⟨h, e⟩ <;> rw [e] <;> simp <;> omega
theorem C_neg {a b : Sm} : a.C b < 0 ↔ a.A b := by
  unfold Sm.C Sm.A
  rw [orL_neg, orL_neg, orL_neg, orL_neg, orL_neg, orL_neg, orL_neg, orL_neg, sgn_neg, sgn_neg, sgn_neg, sgn_neg, sgn_neg, sgn_neg, sgn_neg, sgn_zero, sgn_zero, sgn_zero, sgn_zero, sgn_zero, sgn_zero, sgn_zero]
  have h0 : orL [] = 0 := rfl
  rw [h0]
  omega
theorem orL_swap : ∀ {l m : List Int}, l.length = m.length → (∀ (i : Nat) (x y : Int), l[i]? = some x → m[i]? = some y → x = - y) → orL l = - orL m
  | [], [], _, _ => rfl
  | x :: l, y :: m, hl, h => by
    have hx := h 0 x y rfl rfl
    have ih := orL_swap (l := l) (m := m) (by simpa using hl) (fun i x y h1 h2 => h (i + 1) x y (by simpa using h1) (by simpa using h2))
    rw [orL, orL, ih]
    split <;> split <;> omega
theorem _root_.Go.Proofs.Ytdpadkellpkppaa.Sm.C_zero {a b : Sm} : a.C b = 0 ↔ a = b := by
  unfold Sm.C
  rw [orL_zero, orL_zero, orL_zero, orL_zero, orL_zero, orL_zero, orL_zero, orL_zero, sgn_zero, sgn_zero, sgn_zero, sgn_zero, sgn_zero, sgn_zero, sgn_zero, Sm.ext_iff']
  have h0 : orL [] = 0 := rfl
  simp [h0]
theorem _root_.Go.Proofs.Ytdpadkellpkppaa.Sm.C_swap {a b : Sm} : a.C b = - b.C a := by
  unfold Sm.C
  rw [sgn_swap a.fr b.fr, sgn_swap a.to b.to, sgn_swap a.kp b.kp, sgn_swap a.ad b.ad, sgn_swap a.t0 b.t0, sgn_swap a.t1 b.t1, sgn_swap a.t2 b.t2]
  generalize sgn b.fr a.fr = s1
  generalize sgn b.to a.to = s2
  generalize sgn b.kp a.kp = s3
  generalize sgn b.ad a.ad = s4
  generalize sgn b.t0 a.t0 = s5
  generalize sgn b.t1 a.t1 = s6
  generalize sgn b.t2 a.t2 = s7
  simp only [orL]
  repeat' split
  all_goals omega
theorem _root_.Go.Proofs.Ytdpadkellpkppaa.Sm.C_lt_trans {a b c : Sm} (h1 : a.C b < 0) (h2 : b.C c < 0) : a.C c < 0 := by
  rw [C_neg] at *; exact Sm.A_trans h1 h2
theorem _root_.Go.Proofs.Ytdpadkellpkppaa.Sm.C_trans {a b c : Sm} (h1 : a.C b ≤ 0) (h2 : b.C c ≤ 0) : a.C c ≤ 0 := by
  rcases Int.lt_or_eq_of_le h1 with h3 | h3
  · rcases Int.lt_or_eq_of_le h2 with h4 | h4
    · exact Int.le_of_lt (Sm.C_lt_trans h3 h4)
    · rw [Sm.C_zero] at h4; subst h4; exact h1
  · rw [Sm.C_zero] at h3; subst h3; exact h2
set_option maxHeartbeats 4000000 in
theorem compare_grew (a b : Sm) (w : World) : Calls Try.prog 37 #[a.v, b.v] w fun e w' => e = .returned (.int .i64 (a.C b)) ∧ Grew w w' := by
  have hsc := fun (p q : Nat) (w : World) => sliceCmp_any p q a b w
  have hor := fun (g : Nat) (w : World) (ty : TypeId) => or5_any g (sgn a.fr b.fr) (sgn a.to b.to) (sgn a.kp b.kp) (sgn a.ad b.ad) (orL [sgn a.t0 b.t0, sgn a.t1 b.t1, sgn a.t2 b.t2]) w ty
  rw [show orL [sgn a.fr b.fr, sgn a.to b.to, sgn a.kp b.kp, sgn a.ad b.ad, orL [sgn a.t0 b.t0, sgn a.t1 b.t1, sgn a.t2 b.t2]] = a.C b from rfl] at hor
  have S0 := Lib.hid (cc_same a.fr b.fr); have S1 := Lib.hid (cc_same a.to b.to); have S2 := Lib.hid (cc_same a.kp b.kp); have S3 := Lib.hid (cc_same a.ad b.ad)
  generalize sgn a.fr b.fr = s0 at *
  generalize sgn a.to b.to = s1 at *
  generalize sgn a.kp b.kp = s2 at *
  generalize sgn a.ad b.ad = s3 at *
  generalize orL [sgn a.t0 b.t0, sgn a.t1 b.t1, sgn a.t2 b.t2] = s4 at *
  generalize a.C b = R at *
  have h2 := Two2.made w 24 a b
  have hg : Grew w ((w.alloc (.cells #[.int .i64 a.fr, .int .i64 a.to, .int .i64 a.kp, .int .i64 a.ad, .int .i64 a.t0, .int .i64 a.t1, .int .i64 a.t2] 24)).alloc (.cells #[.int .i64 b.fr, .int .i64 b.to, .int .i64 b.kp, .int .i64 b.ad, .int .i64 b.t0, .int .i64 b.t1, .int .i64 b.t2] 24)) := ((Grew.refl w).alloc _).alloc _
  have H2 := Lib.hid h2; have HG := Lib.hid hg; have SC := Lib.hid hsc; have OR := Lib.hid hor; clear h2 hg hsc hor
  unfold Sm.v
  go_enter Try.func37, Try.ntmps37
  go_wp2_with fail
  refine wp_tail 25 (by kernel_rfl) (by kernel_rfl) ?_
  simp only [List.take_succ_cons, List.take_zero, List.drop_succ_cons, List.drop_zero]
  have k1 : HoldsM (((w.alloc (.cells #[.int .i64 a.fr, .int .i64 a.to, .int .i64 a.kp, .int .i64 a.ad, .int .i64 a.t0, .int .i64 a.t1, .int .i64 a.t2] 24)).alloc (.cells #[.int .i64 b.fr, .int .i64 b.to, .int .i64 b.kp, .int .i64 b.ad, .int .i64 b.t0, .int .i64 b.t1, .int .i64 b.t2] 24)).drewN 1) w.heap.size 24 a := HoldsM.drewN H2.out.1 1
  have k2 : HoldsM (((w.alloc (.cells #[.int .i64 a.fr, .int .i64 a.to, .int .i64 a.kp, .int .i64 a.ad, .int .i64 a.t0, .int .i64 a.t1, .int .i64 a.t2] 24)).alloc (.cells #[.int .i64 b.fr, .int .i64 b.to, .int .i64 b.kp, .int .i64 b.ad, .int .i64 b.t0, .int .i64 b.t1, .int .i64 b.t2] 24)).drewN 1) (w.heap.size + 1) 24 b := HoldsM.drewN H2.out.2 1
  have hgd := HG.out.drewN 1
  have hsz : (((w.alloc (.cells #[.int .i64 a.fr, .int .i64 a.to, .int .i64 a.kp, .int .i64 a.ad, .int .i64 a.t0, .int .i64 a.t1, .int .i64 a.t2] 24)).alloc (.cells #[.int .i64 b.fr, .int .i64 b.to, .int .i64 b.kp, .int .i64 b.ad, .int .i64 b.t0, .int .i64 b.t1, .int .i64 b.t2] 24)).drewN 1).heap.size = w.heap.size + 1 + 1 := by simp
  generalize ((w.alloc (.cells #[.int .i64 a.fr, .int .i64 a.to, .int .i64 a.kp, .int .i64 a.ad, .int .i64 a.t0, .int .i64 a.t1, .int .i64 a.t2] 24)).alloc (.cells #[.int .i64 b.fr, .int .i64 b.to, .int .i64 b.kp, .int .i64 b.ad, .int .i64 b.t0, .int .i64 b.t1, .int .i64 b.t2] 24)).drewN 1 = W at *
  obtain ⟨a0, a1, a2, a3, a4, a5, a6⟩ := k1.cells7
  obtain ⟨b0, b1, b2, b3, b4, b5, b6⟩ := k2.cells7
  have K := Lib.hid (And.intro k1 (And.intro k2 hgd)); have HSZ := Lib.hid hsz; clear k1 k2 hgd H2 HG hsz
  still_step
  still_step
  still_step
  still_step
  still_call (S0.out _)
  still_step
  still_step
  still_step
  still_step
  still_call (S1.out _)
  still_step
  still_step
  still_step
  still_step
  still_call (S2.out _)
  still_step
  still_step
  still_step
  still_step
  still_call (S3.out _)
  still_step
  still_step
  still_step
  still_step
  still_call (SC.out _ _ _ K.out.1 K.out.2.1)
  refine wpStill_nil ?_
  clear a0 a1 a2 a3 a4 a5 a6 b0 b1 b2 b3 b4 b5 b6 S0 S1 S2 S3 SC
  go_wp2_with fail
  refine (OR.out _ _ _ (Row.made W _ _)).mono ?_; rintro e w' ⟨rfl, rfl⟩
  dsimp only
  go_wp2_with fail
  go_ret
  exact ⟨rfl, K.out.2.2.alloc _⟩
end Mx
end Go.Proofs.Ytdpadkellpkppaa
