/- The document's Get. -/
import Derived.Test.YtcdofkhkckodjaaVrGetMath
namespace Go.Proofs.Ytcdofkhkckodjaa
namespace Vr
open Go.ChangeShapes Go.WideShapes Go.ChangeAt Go.RowKit Go.BigFrame
set_option linter.unusedVariables false
set_option maxRecDepth 100000
set_option maxHeartbeats 8000000 in
theorem refGet_any (A : Option Addr) (xs : List Nat) (c : Nat) (w : World) (hT : Rw.Ts kindB w A xs) (hx : ∀ x ∈ xs, x < 256) (hl : xs.length ≤ 100000) :
    Calls Try.prog 23 #[.slice A xs.length c] w (GetD xs w) := by
  have HT := Lib.hid hT; have HX := Lib.hid hx; clear hT hx
  by_cases h16 : xs.length % 16 = 0
  · obtain ⟨N, hN⟩ : ∃ N, xs.length = N * 16 := ⟨xs.length / 16, by omega⟩
    have hmod : (xs.length : Int) % 16 = 0 := by omega
    have HY := Lib.hid (getL_yes hN); have HN := Lib.hid hN; clear hN h16
    go_enter Try.func23, Try.ntmps23
    go_wp2_with fail
    clear hmod
    go_loopw [4, 5] (fun v i wr => ∃ k p : Nat, k ≤ N ∧ p = k * 16 ∧ i = .int .i64 p ∧ wr.ownsRow w.heap.size 32 kindR.K v (recsN xs k).length (Rw.row kindR (recsN xs k)) ∧ Below w.heap.size w wr) (fun _ i _ => xs.length - (intOf i).toNat)
    case atStart => exact ⟨0, 0, by omega, rfl, rfl, World.ownsRow_nil _ _ _ _, Below.refl _ _⟩
    case round =>
      obtain ⟨k, p, hk, hp, rfl, hown, hb⟩ := hrel
      have HO := Lib.hid hown; have HB := Lib.hid hb; have HBS := Lib.hid hb.size; clear hown hb
      by_cases hlt : k < N
      · have hpl : p + 16 ≤ xs.length := by have := HN.out; omega
        have hpz : (p : Int) < (xs.length : Int) := by omega
        have h1 := refNumber_any A xs c p wr (HT.out.below HB.out) HX.out (by omega) (by omega)
        have h2 := refNumber_any A xs c (p + 8) wr (HT.out.below HB.out) HX.out (by omega) (by omega)
        rw [show ((p + 8 : Nat) : Int) = (p : Int) + 8 by omega] at h2
        obtain ⟨K1, hK1⟩ : ∃ K, sg64 (accU 0 ((xs.drop p).take 8)) = K := ⟨_, rfl⟩
        obtain ⟨K2, hK2⟩ : ∃ K, sg64 (accU 0 ((xs.drop (p + 8)).take 8)) = K := ⟨_, rfl⟩
        rw [hK1] at h1; rw [hK2] at h2
        have hrec : recAt xs k = ⟨K1, K2⟩ := by unfold recAt; rw [← hp, hK1, hK2]
        have hnext := recsN_succ xs k
        have hlen : (recsN xs k).length ≤ 100000 := by rw [recsN_len]; omega
        rw [hrec] at hnext
        generalize recsN xs k = us at *
        have HNX := Lib.hid hnext; have HLN := Lib.hid hlen; have H1 := Lib.hid h1; have H2 := Lib.hid h2; have HP := Lib.hid hp
        clear hnext hlen h1 h2 hK1 hK2 hrec hp
        go_wp2_with fail
        refine H1.out.mono ?_; rintro e w' ⟨rfl, rfl⟩
        go_wp2_with fail
        refine H2.out.mono ?_; rintro e w' ⟨rfl, rfl⟩
        go_wp2_with (at_builtin; refine Rw.append_own kindR 32 22 Try.underlying22 infoRec rfl rfl _ _ rfl w.heap.size _ us.length us rfl (HO.out.alloc _) _ 1 [⟨K1, K2⟩] rfl (by simp) (Rw.Ts.made _ [(⟨K1, K2⟩ : Rd)] _) (by have := HLN.out; unfold maxLen; simp; omega) (by have := HLN.out; simp; omega) (by have := HBS.out; simp; omega) ?_; intro v2 w4 hv2 hg2; have hb2 := Rw.own_below (HO.out.alloc _) hg2 (HB.out.alloc HBS.out _) (by have := HBS.out; simp; omega); have HV := Lib.hid hv2; have HB2 := Lib.hid hb2; clear hv2 hg2 hb2)
        go_roundw
        case rel => exact ⟨k + 1, p + 16, by omega, by have := HP.out; omega, by simp, by rw [HNX.out, List.length_append]; exact HV.out, HB2.out⟩
        case measure => simp only [intOf]; omega
      · have hkN : k = N := by omega
        have hpe : p = xs.length := by have := HN.out; omega
        have hpz : ¬ (p : Int) < (xs.length : Int) := by omega
        have ho := HO.out
        rw [hkN, ← HY.out.2] at ho
        have HOE := Lib.hid ho
        clear ho hp hpe hkN
        go_wp2_with fail
        go_ret2
        exact GetD.mk HY.out.1 HOE.out HB.out
  · have hmod : (((xs.length : Int) % 16) != 0) = true := by simp; omega
    have HY := Lib.hid (getL_no h16); clear h16
    go_enter Try.func23, Try.ntmps23
    go_wp2_with fail
    go_ret2
    exact GetD.mk HY.out.1 (by rw [HY.out.2]; exact World.ownsRow_nil _ _ _ _) (Below.refl _ _)
end Vr
end Go.Proofs.Ytcdofkhkckodjaa
