/- Check: the document's. -/
import Derived.Test.YtocdganglokplaaDoorChkNode
import Derived.Test.YtocdganglokplaaDoorChkStkA
namespace Go.Proofs.YtocdganglokplaaDoor
open Go.ChangeShapes Go.WideShapes Go.ChangeAt Go.RowKit Go.BigFrame
set_option linter.unusedVariables false
set_option maxRecDepth 100000
theorem putE_may {g : List Nd} (h : putE g = 0) : GMay g := by
  unfold putE at h
  split at h
  · cases h
  · split at h
    · exact mayB_iff.1 ‹_›
    · cases h
/-- what Check answers -/
def ChkD (g : List Nd) (w : World) (e : Ending) (w' : World) : Prop := e = .returned (.tuple #[.int .i64 (checkR g).1, .int .i64 (checkR g).2]) ∧ Below w.heap.size w w'
theorem ChkD.mk {g : List Nd} {w w' : World} {a b : Int} (h : checkR g = (a, b)) (hb : Below w.heap.size w w') : ChkD g w (.returned (.tuple #[.int .i64 a, .int .i64 b])) w' := by unfold ChkD; rw [h]; exact ⟨rfl, hb⟩
set_option maxHeartbeats 16000000 in
theorem refCheck_any (A : Option Addr) (l : List Gn) (c : Nat) (w : World) (hG : Gr w A l) (hl : l.length ≤ maxLen) :
    Calls Tryd.prog 16 #[.slice A l.length c] w (ChkD (nds l) w) := by
  have HML := Lib.hid hl
  unfold maxLen at hl
  have CP := Lib.hid (refPut_any A l c w hG HML.out)
  have HG := Lib.hid hG; clear hG
  have cp := CP.out
  unfold PutD at cp
  by_cases hp : putE (nds l) = 0
  · rw [hp] at cp
    have HCP := Lib.hid cp
    have hmay := putE_may hp
    have hl32 : l.length ≤ 32 := by have := hmay.1.2; rw [nds_len] at this; exact this
    have hins : ∀ x ∈ nds l, x.ins.length ≤ 40 := fun x hx => by have := (hmay.2 x hx).2.1; omega
    have hdep : ∀ (j : Nat) (x : Gn), l[j]? = some x → 0 ≤ x.nd.d ∧ x.nd.d ≤ 3 := fun j x hx => (hmay.2 x.nd (List.mem_map.2 ⟨x, List.mem_of_getElem? hx, rfl⟩)).1
    have HP := Lib.hid hp; have HINS := Lib.hid hins; have HDEP := Lib.hid hdep; clear cp hp hmay hins hdep CP
    go_enter Tryd.func16, Tryd.ntmps16
    go_wp2_with fail
    refine HCP.out.mono ?_; rintro e w1 ⟨⟨v, rfl, _⟩, hb1⟩
    have HB1 := Lib.hid hb1; clear hb1 HCP
    dsimp only
    go_wp2_with fail
    go_loopw [6] (fun n wx => ∃ k : Nat, n = .int .i64 k ∧ k ≤ l.length ∧ Below w.heap.size w wx ∧ ∀ j : Nat, j < k → nodeE (nds l) j = 0) (fun n _ => l.length - (intOf n).toNat)
    case atStart => exact ⟨0, rfl, by omega, HB1.out, fun j h => absurd h (by omega)⟩
    case round =>
      obtain ⟨wo, rfl⟩ : ∃ wo, wo = wr := ⟨_, rfl⟩
      obtain ⟨k, rfl, hk, hb, hall⟩ := hrel
      have HB := Lib.hid hb; have HA := Lib.hid hall; clear hb hall HB1
      by_cases hkl : k < l.length
      · have hkz : (k : Int) < (l.length : Int) := by omega
        have hcall := refNode_any A l c (k : Int) wo (HG.out.below HB.out) HML.out
        by_cases he : nodeE (nds l) (k : Nat) = 0
        · rw [he] at hcall
          have HC := Lib.hid hcall; have HE := Lib.hid he; clear hcall he
          go_wp2_with fail
          refine HC.out.mono ?_; rintro e w2 ⟨rfl, hb2⟩
          have HB2 := Lib.hid (HB.out.trans (hb2.mono HB.out.size)); clear hb2
          dsimp only
          go_wp2_with fail
          go_roundw
          case rel =>
            refine ⟨k + 1, by simp, by omega, HB2.out, fun j hj => ?_⟩
            by_cases e : j = k
            · subst e; exact HE.out
            · exact HA.out j (by omega)
          case measure => simp only [intOf]; omega
        · have HN := Lib.hid (checkR_node HP.out (by rw [nds_len]; exact hkl) he HA.out)
          have hez : (nodeE (nds l) (k : Nat) != 0) = true := by simpa using he
          generalize nodeE (nds l) (k : Nat) = E at *
          have HC := Lib.hid hcall; clear hcall he
          go_wp2_with fail
          refine HC.out.mono ?_; rintro e w2 ⟨rfl, hb2⟩
          have HB2 := Lib.hid (HB.out.trans (hb2.mono HB.out.size)); clear hb2
          dsimp only
          go_wp2_with fail
          go_ret2
          exact ChkD.mk HN.out HB2.out
      · have hkz : ¬ (k : Int) < (l.length : Int) := by omega
        have HAL : Hid (∀ j : Nat, j < (nds l).length → nodeE (nds l) j = 0) := Lib.hid fun j hj => HA.out j (by rw [nds_len] at hj; omega)
        clear HA
        go_wp2_with fail
        go_loopw [8] (fun n wx => ∃ k : Nat, n = .int .i64 k ∧ k ≤ l.length ∧ Below w.heap.size w wx ∧ ∀ j : Nat, j < k → ¬ BadAt (nds l) j) (fun n _ => l.length - (intOf n).toNat)
        case atStart => exact ⟨0, rfl, by omega, HB.out, fun j h => absurd h (by omega)⟩
        case round =>
          obtain ⟨wi, rfl⟩ : ∃ wi, wi = wr := ⟨_, rfl⟩
          obtain ⟨m, rfl, hm, hb, hall⟩ := hrel
          have HBI := Lib.hid hb; have HA := Lib.hid hall; clear hb hall HB
          by_cases hml : m < l.length
          · have hmz : (m : Int) < (l.length : Int) := by omega
            obtain ⟨x, hx⟩ : ∃ x, l[m]? = some x := ⟨_, List.getElem?_eq_getElem hml⟩
            have hxn : (nds l)[m]? = some x.nd := by unfold nds; rw [List.getElem?_map, hx]; rfl
            obtain ⟨hd0, hd3⟩ := HDEP.out m x hx
            obtain ⟨b, o, rfl, hbl, hcl⟩ := HG.out.at_ hx
            obtain ⟨X, hX⟩ : ∃ X, x.nd.d = X := ⟨_, rfl⟩
            rw [hX] at hd0 hd3
            have HXN := Lib.hid hxn; have HX := Lib.hid hX; have HCL := Lib.hid hcl; clear hx hxn hcl hX
            go_wp2_with fail
            go_loopw [9] (fun n wx => ∃ d : Nat, n = .int .i64 d ∧ (d : Int) ≤ X + 1 ∧ Below w.heap.size w wx ∧ ∀ e : Nat, e < d → ¬ Stuck (nds l) m e) (fun n _ => 4 - (intOf n).toNat)
            case atStart => exact ⟨0, rfl, by omega, HBI.out, fun j h => absurd h (by omega)⟩
            case round =>
              obtain ⟨wj, rfl⟩ : ∃ wj, wj = wr := ⟨_, rfl⟩
              obtain ⟨d, rfl, hd, hb, hno⟩ := hrel
              have HBJ := Lib.hid hb; have HNO := Lib.hid hno; clear hb hno HBI
              obtain ⟨_, _, _, c3, _⟩ := HCL.out wj HBJ.out
              rw [HX.out] at c3
              by_cases hdX : (d : Int) ≤ X
              · have hcall := refStuck_any (some ⟨b, o, none⟩) l c m (d : Int) wj (HG.out.below HBJ.out) (by omega) hml HINS.out
                cases hs : stuckB (nds l) m (d : Int) with
                | true =>
                  rw [hs] at hcall
                  have HC := Lib.hid hcall
                  have HN := Lib.hid (checkR_bad HP.out HAL.out (by rw [nds_len]; exact hml) ⟨x.nd, HXN.out, (d : Int), by omega, by rw [HX.out]; exact hdX, stuckB_iff.1 hs⟩ HA.out)
                  clear hcall hs
                  go_wp2_with fail
                  refine HC.out.mono ?_; rintro e w2 ⟨rfl, hb2⟩
                  have HB2 := Lib.hid (HBJ.out.trans (hb2.mono HBJ.out.size)); clear hb2 c3
                  dsimp only
                  go_wp2_with fail
                  go_ret2
                  exact ChkD.mk HN.out HB2.out
                | false =>
                  rw [hs] at hcall
                  have HC := Lib.hid hcall
                  have hns : ¬ Stuck (nds l) m (d : Int) := fun h => by rw [stuckB_iff.2 h] at hs; cases hs
                  have HNS := Lib.hid hns
                  clear hcall hs hns
                  go_wp2_with fail
                  refine HC.out.mono ?_; rintro e w2 ⟨rfl, hb2⟩
                  have HB2 := Lib.hid (HBJ.out.trans (hb2.mono HBJ.out.size)); clear hb2 c3
                  dsimp only
                  go_wp2_with fail
                  go_roundw
                  case rel =>
                    refine ⟨d + 1, by simp, by omega, HB2.out, fun e he => ?_⟩
                    by_cases ee : e = d
                    · subst ee; exact HNS.out
                    · exact HNO.out e (by omega)
                  case measure => simp only [intOf]; omega
              · have HNB : Hid (¬ BadAt (nds l) m) := Lib.hid fun h => by
                  obtain ⟨y, hy, least, h0, h1, hst⟩ := h
                  rw [HXN.out] at hy; injection hy with hy; subst hy
                  obtain ⟨e, rfl⟩ : ∃ e : Nat, least = (e : Int) := Int.eq_ofNat_of_zero_le h0
                  rw [HX.out] at h1
                  exact HNO.out e (by omega) hst
                go_wp2_with fail
                go_roundw
                case rel =>
                  refine ⟨m + 1, by simp, by omega, HBJ.out, fun j hj => ?_⟩
                  by_cases e : j = m
                  · subst e; exact HNB.out
                  · exact HA.out j (by omega)
                case measure => simp only [intOf]; omega
          · have hmz : ¬ (m : Int) < (l.length : Int) := by omega
            have hN := checkR_ok HP.out HAL.out (fun j hj => HA.out j (by rw [nds_len] at hj; omega))
            rw [nds_len] at hN
            have HN := Lib.hid hN; clear hN
            go_wp2_with fail
            go_ret2
            exact ChkD.mk HN.out HBI.out
  · have HN := Lib.hid (checkR_put hp)
    have hpz : (putE (nds l) != 0) = true := by simpa using hp
    generalize putE (nds l) = E at *
    have HCP := Lib.hid cp; clear cp hp CP
    go_enter Tryd.func16, Tryd.ntmps16
    go_wp2_with fail
    refine HCP.out.mono ?_; rintro e w1 ⟨⟨v, rfl, _⟩, hb1⟩
    have HB1 := Lib.hid hb1; clear hb1 HCP
    dsimp only
    go_wp2_with fail
    go_ret2
    exact ChkD.mk HN.out HB1.out
end Go.Proofs.YtocdganglokplaaDoor
