/- ChkDeep -/
import Derived.Test.YtcjdjdhjbchaaaaCa10
import Derived.Test.YtcjdjdhjbchaaaaCa6
import Derived.RegionTactic
import Derived.BigRegion
import Derived.ChangeAlike
import Derived.Deep.DeepCutAuto
namespace Go.Proofs.Ytcjdjdhjbchaaaa
set_option linter.unusedVariables false
section
open Go.ChangeShapes Go.WideShapes Go.ChangeAt Go.RowKit Go.BigFrame
set_option maxRecDepth 100000
/-- is its depth right? -/
noncomputable def deepG (g : List Nd) (n : Nd) : Bool := @decide (n.Deep g) (Classical.propDecidable _)
theorem deepG_iff {g : List Nd} {n : Nd} : deepG g n = true ↔ n.Deep g := by unfold deepG; exact @decide_eq_true_iff _ (Classical.propDecidable _)
theorem deepG_no {g : List Nd} {n : Nd} (h : ¬ n.Deep g) : false = deepG g n := by
  cases e : deepG g n with
  | true => exact absurd (deepG_iff.1 e) h
  | false => rfl
theorem deepG_out {g : List Nd} {n : Nd} (h : n.deepB = false) : false = deepG g n := deepG_no fun hh => by rw [hh.1] at h; cases h
theorem deepG_in {g : List Nd} {n m : Nd} {z : Int} {p : Nat} (hz : n.ins[p]? = some z) (hm : g[z.toNat]? = some m) (h : n.d - n.more ≠ m.d) : false = deepG g n := deepG_no fun hh => h (hh.2 z (List.mem_of_getElem? hz) m hm)
theorem deepG_yes {g : List Nd} {n : Nd} (h : n.deepB = true) (h2 : ∀ z ∈ n.ins, ∀ m, g[z.toNat]? = some m → n.d - n.more = m.d) : true = deepG g n := (deepG_iff.2 ⟨h, h2⟩).symm
set_option maxHeartbeats 16000000 in
theorem refDepth_any (A : Option Addr) (l : List Gn) (c : Nat) (xk xa : Nat) (xb xd : Int) (xi : List Int) (xA : Option Addr) (xc : Nat) (w : World) (hG : Gr w A l) (hl : l.length ≤ maxLen) (hT : Rw.Ts kindI w xA xi) (hx : xi.length ≤ maxLen) (hP : ∀ z ∈ xi, portOk (nds l) z) :
    Calls Try.prog 62 #[.slice A l.length c, .agg #[.int .u8 (xk : Nat), .int .u8 (xa : Nat), .int .i64 xb, .int .i64 xd, .slice xA xi.length xc]] w fun e w' => e = .returned (.bool (deepG (nds l) ⟨xk, xa, xb, xd, xi⟩)) ∧ Below w.heap.size w w' := by
  unfold maxLen at hl hx
  have HB := Lib.hid ((Below.refl _ w).alloc (Nat.le_refl _) (.cells #[.int .u8 (xk : Nat), .int .u8 (xa : Nat), .int .i64 xb, .int .i64 xd, .slice xA xi.length xc] 24))
  have HR := Lib.hid (show Row (w.alloc (.cells #[.int .u8 (xk : Nat), .int .u8 (xa : Nat), .int .i64 xb, .int .i64 xd, .slice xA xi.length xc] 24)) w.heap.size 24 [.int .u8 (xk : Nat), .int .u8 (xa : Nat), .int .i64 xb, .int .i64 xd, .slice xA xi.length xc] from Row.made w _ _)
  have HG := Lib.hid hG; have HT := Lib.hid hT; have HP := Lib.hid hP; clear hG hT hP
  obtain ⟨n, hn⟩ : ∃ n : Nd, n = ⟨xk, xa, xb, xd, xi⟩ := ⟨_, rfl⟩
  rw [← hn]
  have HN0 := Lib.hid hn; clear hn
  by_cases h0 : xd < 0
  · have HY := Lib.hid (deepG_out (g := nds l) (n := n) (by rw [HN0.out]; unfold Nd.deepB; exact decide_eq_false (by first | (simp; done) | (simp; omega))))
    go_enter Try.func62, Try.ntmps62
    go_wp2_with fail
    go_ret
    exact ⟨retb HY.out, HB.out⟩
  · by_cases h3 : 3 < xd
    · have HY := Lib.hid (deepG_out (g := nds l) (n := n) (by rw [HN0.out]; unfold Nd.deepB; exact decide_eq_false (by first | (simp; done) | (simp; omega))))
      go_enter Try.func62, Try.ntmps62
      go_wp2_with fail
      go_ret
      exact ⟨retb HY.out, HB.out⟩
    · by_cases k1 : xk = 1
      · subst k1
        by_cases hd0 : xd = 0
        · have hd0z : (xd != 0) = false := by simpa using hd0
          have HD := Lib.hid (show Nd.deepB n = true by rw [HN0.out]; unfold Nd.deepB; exact decide_eq_true (by first | (simp; done) | (simp; omega)))
          have HM := Lib.hid (show Nd.more n = 0 by rw [HN0.out]; rfl)
          obtain ⟨E, hE⟩ : ∃ E, IntKind.i64.wrap (xd - 0) = E := ⟨_, rfl⟩
          have hEE : xd - 0 = E := by rw [← hE]; exact (IntWalk.i64_in _ (by omega)).symm
          have hE2 : IntKind.i64.wrap xd = E := by rw [← hE, Int.sub_zero]
          have HE := Lib.hid hEE; clear hEE
          clear hd0
          go_enter Try.func62, Try.ntmps62
          go_wp2_with fail
          go_loopw [6] (fun i wx => ∃ p : Nat, p ≤ xi.length ∧ i = .int .i64 p ∧ Below (w.alloc (.cells #[.int .u8 (1 : Nat), .int .u8 (xa : Nat), .int .i64 xb, .int .i64 xd, .slice xA xi.length xc] 24)).heap.size (w.alloc (.cells #[.int .u8 (1 : Nat), .int .u8 (xa : Nat), .int .i64 xb, .int .i64 xd, .slice xA xi.length xc] 24)) wx ∧ ∀ (j : Nat) (z : Int) (m : Nd), j < p → xi[j]? = some z → (nds l)[z.toNat]? = some m → E = m.d) (fun i _ => xi.length - (intOf i).toNat)
          case atStart => exact ⟨0, by omega, rfl, Below.refl _ _, fun j z m h => absurd h (by omega)⟩
          case round =>
            obtain ⟨p, hp, rfl, hb, hall⟩ := hrel
            have HA := Lib.hid hall; have HBX := Lib.hid hb; clear hall hb
            have d3 : wr.cell? ⟨w.heap.size, 3, none⟩ = some (.int .i64 xd) := (HR.out.below HBX.out HR.out.lt).cell 3
            have d4 : wr.cell? ⟨w.heap.size, 4, none⟩ = some (.slice xA xi.length xc) := (HR.out.below HBX.out HR.out.lt).cell 4
            have HBW := Lib.hid (HB.out.trans (HBX.out.mono (by simp)))
            by_cases hlp : p < xi.length
            · have hpz : (p : Int) < (xi.length : Int) := by omega
              obtain ⟨z, hz⟩ : ∃ z, xi[p]? = some z := ⟨_, List.getElem?_eq_getElem hlp⟩
              obtain ⟨hz0, m, hm, _⟩ := HP.out z (List.mem_of_getElem? hz)
              obtain ⟨Z, rfl⟩ : ∃ Z : Nat, z = (Z : Int) := Int.eq_ofNat_of_zero_le hz0
              rw [Int.toNat_natCast] at hm
              obtain ⟨y, hy, rfl⟩ : ∃ y, l[Z]? = some y ∧ y.nd = m := by
                unfold nds at hm
                rw [List.getElem?_map, Option.map_eq_some_iff] at hm
                exact hm
              have hZl : Z < l.length := (List.getElem?_eq_some_iff.1 hy).1
              have hZz : (Z : Int) < (l.length : Int) := by omega
              obtain ⟨bb, oo, rfl, hbb, hq⟩ := ints_at HT.out hz
              obtain ⟨b, o, rfl, hbl, hcl⟩ := HG.out.at_ hy
              have q := hq wr HBW.out
              obtain ⟨_, _, _, c3, _⟩ := hcl wr HBW.out
              have HZ := Lib.hid hz; have HM2 := Lib.hid hm; clear hz hq hy hcl hm
              generalize hYd : y.nd.d = yd at *
              have HYD := Lib.hid hYd; clear hYd
              by_cases hey : E = yd
              · subst hey
                go_wp2_with fail
                go_region
                go_wp2_with fail
                go_roundw
                case rel =>
                  refine ⟨p + 1, by omega, by simp, HBX.out.drew, fun j z m hj hz hm => ?_⟩
                  by_cases e : j = p
                  · subst e
                    rw [HZ.out] at hz; injection hz with hz; subst hz
                    rw [Int.toNat_natCast, HM2.out] at hm; injection hm with hm
                    rw [← hm]; exact HYD.out.symm
                  · exact HA.out j z m (by omega) hz hm
                case measure => simp only [intOf]; omega
              · have heyz : (E != yd) = true := by simpa using hey
                have HN := Lib.hid (deepG_in (g := nds l) (n := n) (by rw [HN0.out]; exact HZ.out) (by rw [Int.toNat_natCast]; exact HM2.out) (by rw [HM.out, HN0.out, HYD.out]; show xd - _ ≠ yd; rw [HE.out]; exact hey))
                clear hey
                go_wp2_with fail
                go_region
                go_wp2_with fail
                go_ret
                exact ⟨retb HN.out, HBW.out.drew⟩
            · have hpz : ¬ (p : Int) < (xi.length : Int) := by omega
              have HN := Lib.hid (deepG_yes (g := nds l) (n := n) HD.out fun z hz m hm => by
                rw [HN0.out] at hz
                simp only at hz
                obtain ⟨j, hj⟩ := List.getElem?_of_mem hz
                rw [HM.out, HN0.out]
                show xd - _ = m.d
                rw [HE.out]
                exact HA.out j z m (by have := (List.getElem?_eq_some_iff.1 hj).1; omega) hj hm)
              go_wp2_with fail
              go_ret
              exact ⟨retb HN.out, HBW.out⟩
        · have hd0z : (xd != 0) = true := by simpa using hd0
          have HY := Lib.hid (deepG_out (g := nds l) (n := n) (by rw [HN0.out]; unfold Nd.deepB; exact decide_eq_false (by first | (simp; done) | (simp; omega))))
          go_enter Try.func62, Try.ntmps62
          go_wp2_with fail
          go_ret
          exact ⟨retb HY.out, HB.out⟩
      · have k1z : (((xk : Nat) : Int) == 1) = false := by simp; omega
        by_cases k10 : xk = 10
        · subst k10
          by_cases hd0 : xd = 0
          · have hd0z : (xd != 0) = false := by simpa using hd0
            have HD := Lib.hid (show Nd.deepB n = true by rw [HN0.out]; unfold Nd.deepB; exact decide_eq_true (by first | (simp; done) | (simp; omega)))
            have HM := Lib.hid (show Nd.more n = 0 by rw [HN0.out]; rfl)
            obtain ⟨E, hE⟩ : ∃ E, IntKind.i64.wrap (xd - 0) = E := ⟨_, rfl⟩
            have hEE : xd - 0 = E := by rw [← hE]; exact (IntWalk.i64_in _ (by omega)).symm
            have hE2 : IntKind.i64.wrap xd = E := by rw [← hE, Int.sub_zero]
            have HE := Lib.hid hEE; clear hEE
            clear hd0
            go_enter Try.func62, Try.ntmps62
            go_wp2_with fail
            go_loopw [6] (fun i wx => ∃ p : Nat, p ≤ xi.length ∧ i = .int .i64 p ∧ Below (w.alloc (.cells #[.int .u8 (10 : Nat), .int .u8 (xa : Nat), .int .i64 xb, .int .i64 xd, .slice xA xi.length xc] 24)).heap.size (w.alloc (.cells #[.int .u8 (10 : Nat), .int .u8 (xa : Nat), .int .i64 xb, .int .i64 xd, .slice xA xi.length xc] 24)) wx ∧ ∀ (j : Nat) (z : Int) (m : Nd), j < p → xi[j]? = some z → (nds l)[z.toNat]? = some m → E = m.d) (fun i _ => xi.length - (intOf i).toNat)
            case atStart => exact ⟨0, by omega, rfl, Below.refl _ _, fun j z m h => absurd h (by omega)⟩
            case round =>
              obtain ⟨p, hp, rfl, hb, hall⟩ := hrel
              have HA := Lib.hid hall; have HBX := Lib.hid hb; clear hall hb
              have d3 : wr.cell? ⟨w.heap.size, 3, none⟩ = some (.int .i64 xd) := (HR.out.below HBX.out HR.out.lt).cell 3
              have d4 : wr.cell? ⟨w.heap.size, 4, none⟩ = some (.slice xA xi.length xc) := (HR.out.below HBX.out HR.out.lt).cell 4
              have HBW := Lib.hid (HB.out.trans (HBX.out.mono (by simp)))
              by_cases hlp : p < xi.length
              · have hpz : (p : Int) < (xi.length : Int) := by omega
                obtain ⟨z, hz⟩ : ∃ z, xi[p]? = some z := ⟨_, List.getElem?_eq_getElem hlp⟩
                obtain ⟨hz0, m, hm, _⟩ := HP.out z (List.mem_of_getElem? hz)
                obtain ⟨Z, rfl⟩ : ∃ Z : Nat, z = (Z : Int) := Int.eq_ofNat_of_zero_le hz0
                rw [Int.toNat_natCast] at hm
                obtain ⟨y, hy, rfl⟩ : ∃ y, l[Z]? = some y ∧ y.nd = m := by
                  unfold nds at hm
                  rw [List.getElem?_map, Option.map_eq_some_iff] at hm
                  exact hm
                have hZl : Z < l.length := (List.getElem?_eq_some_iff.1 hy).1
                have hZz : (Z : Int) < (l.length : Int) := by omega
                obtain ⟨bb, oo, rfl, hbb, hq⟩ := ints_at HT.out hz
                obtain ⟨b, o, rfl, hbl, hcl⟩ := HG.out.at_ hy
                have q := hq wr HBW.out
                obtain ⟨_, _, _, c3, _⟩ := hcl wr HBW.out
                have HZ := Lib.hid hz; have HM2 := Lib.hid hm; clear hz hq hy hcl hm
                generalize hYd : y.nd.d = yd at *
                have HYD := Lib.hid hYd; clear hYd
                by_cases hey : E = yd
                · subst hey
                  go_wp2_with fail
                  go_region
                  go_wp2_with fail
                  go_roundw
                  case rel =>
                    refine ⟨p + 1, by omega, by simp, HBX.out.drew, fun j z m hj hz hm => ?_⟩
                    by_cases e : j = p
                    · subst e
                      rw [HZ.out] at hz; injection hz with hz; subst hz
                      rw [Int.toNat_natCast, HM2.out] at hm; injection hm with hm
                      rw [← hm]; exact HYD.out.symm
                    · exact HA.out j z m (by omega) hz hm
                  case measure => simp only [intOf]; omega
                · have heyz : (E != yd) = true := by simpa using hey
                  have HN := Lib.hid (deepG_in (g := nds l) (n := n) (by rw [HN0.out]; exact HZ.out) (by rw [Int.toNat_natCast]; exact HM2.out) (by rw [HM.out, HN0.out, HYD.out]; show xd - _ ≠ yd; rw [HE.out]; exact hey))
                  clear hey
                  go_wp2_with fail
                  go_region
                  go_wp2_with fail
                  go_ret
                  exact ⟨retb HN.out, HBW.out.drew⟩
              · have hpz : ¬ (p : Int) < (xi.length : Int) := by omega
                have HN := Lib.hid (deepG_yes (g := nds l) (n := n) HD.out fun z hz m hm => by
                  rw [HN0.out] at hz
                  simp only at hz
                  obtain ⟨j, hj⟩ := List.getElem?_of_mem hz
                  rw [HM.out, HN0.out]
                  show xd - _ = m.d
                  rw [HE.out]
                  exact HA.out j z m (by have := (List.getElem?_eq_some_iff.1 hj).1; omega) hj hm)
                go_wp2_with fail
                go_ret
                exact ⟨retb HN.out, HBW.out⟩
          · have hd0z : (xd != 0) = true := by simpa using hd0
            have HY := Lib.hid (deepG_out (g := nds l) (n := n) (by rw [HN0.out]; unfold Nd.deepB; exact decide_eq_false (by first | (simp; done) | (simp; omega))))
            go_enter Try.func62, Try.ntmps62
            go_wp2_with fail
            go_ret
            exact ⟨retb HY.out, HB.out⟩
        · have k10z : (((xk : Nat) : Int) == 10) = false := by simp; omega
          by_cases k9 : xk = 9
          · subst k9
            by_cases hd1 : xd < 1
            · have HY := Lib.hid (deepG_out (g := nds l) (n := n) (by rw [HN0.out]; unfold Nd.deepB; exact decide_eq_false (by first | (simp; done) | (simp; omega))))
              go_enter Try.func62, Try.ntmps62
              go_wp2_with fail
              go_ret
              exact ⟨retb HY.out, HB.out⟩
            · have HD := Lib.hid (show Nd.deepB n = true by rw [HN0.out]; unfold Nd.deepB; exact decide_eq_true (by first | (simp; done) | (simp; omega)))
              have HM := Lib.hid (show Nd.more n = 0 by rw [HN0.out]; rfl)
              obtain ⟨E, hE⟩ : ∃ E, IntKind.i64.wrap (xd - 0) = E := ⟨_, rfl⟩
              have hEE : xd - 0 = E := by rw [← hE]; exact (IntWalk.i64_in _ (by omega)).symm
              have hE2 : IntKind.i64.wrap xd = E := by rw [← hE, Int.sub_zero]
              have HE := Lib.hid hEE; clear hEE
              go_enter Try.func62, Try.ntmps62
              go_wp2_with fail
              go_loopw [6] (fun i wx => ∃ p : Nat, p ≤ xi.length ∧ i = .int .i64 p ∧ Below (w.alloc (.cells #[.int .u8 (9 : Nat), .int .u8 (xa : Nat), .int .i64 xb, .int .i64 xd, .slice xA xi.length xc] 24)).heap.size (w.alloc (.cells #[.int .u8 (9 : Nat), .int .u8 (xa : Nat), .int .i64 xb, .int .i64 xd, .slice xA xi.length xc] 24)) wx ∧ ∀ (j : Nat) (z : Int) (m : Nd), j < p → xi[j]? = some z → (nds l)[z.toNat]? = some m → E = m.d) (fun i _ => xi.length - (intOf i).toNat)
              case atStart => exact ⟨0, by omega, rfl, Below.refl _ _, fun j z m h => absurd h (by omega)⟩
              case round =>
                obtain ⟨p, hp, rfl, hb, hall⟩ := hrel
                have HA := Lib.hid hall; have HBX := Lib.hid hb; clear hall hb
                have d3 : wr.cell? ⟨w.heap.size, 3, none⟩ = some (.int .i64 xd) := (HR.out.below HBX.out HR.out.lt).cell 3
                have d4 : wr.cell? ⟨w.heap.size, 4, none⟩ = some (.slice xA xi.length xc) := (HR.out.below HBX.out HR.out.lt).cell 4
                have HBW := Lib.hid (HB.out.trans (HBX.out.mono (by simp)))
                by_cases hlp : p < xi.length
                · have hpz : (p : Int) < (xi.length : Int) := by omega
                  obtain ⟨z, hz⟩ : ∃ z, xi[p]? = some z := ⟨_, List.getElem?_eq_getElem hlp⟩
                  obtain ⟨hz0, m, hm, _⟩ := HP.out z (List.mem_of_getElem? hz)
                  obtain ⟨Z, rfl⟩ : ∃ Z : Nat, z = (Z : Int) := Int.eq_ofNat_of_zero_le hz0
                  rw [Int.toNat_natCast] at hm
                  obtain ⟨y, hy, rfl⟩ : ∃ y, l[Z]? = some y ∧ y.nd = m := by
                    unfold nds at hm
                    rw [List.getElem?_map, Option.map_eq_some_iff] at hm
                    exact hm
                  have hZl : Z < l.length := (List.getElem?_eq_some_iff.1 hy).1
                  have hZz : (Z : Int) < (l.length : Int) := by omega
                  obtain ⟨bb, oo, rfl, hbb, hq⟩ := ints_at HT.out hz
                  obtain ⟨b, o, rfl, hbl, hcl⟩ := HG.out.at_ hy
                  have q := hq wr HBW.out
                  obtain ⟨_, _, _, c3, _⟩ := hcl wr HBW.out
                  have HZ := Lib.hid hz; have HM2 := Lib.hid hm; clear hz hq hy hcl hm
                  generalize hYd : y.nd.d = yd at *
                  have HYD := Lib.hid hYd; clear hYd
                  by_cases hey : E = yd
                  · subst hey
                    go_wp2_with fail
                    go_region
                    go_wp2_with fail
                    go_roundw
                    case rel =>
                      refine ⟨p + 1, by omega, by simp, HBX.out.drew, fun j z m hj hz hm => ?_⟩
                      by_cases e : j = p
                      · subst e
                        rw [HZ.out] at hz; injection hz with hz; subst hz
                        rw [Int.toNat_natCast, HM2.out] at hm; injection hm with hm
                        rw [← hm]; exact HYD.out.symm
                      · exact HA.out j z m (by omega) hz hm
                    case measure => simp only [intOf]; omega
                  · have heyz : (E != yd) = true := by simpa using hey
                    have HN := Lib.hid (deepG_in (g := nds l) (n := n) (by rw [HN0.out]; exact HZ.out) (by rw [Int.toNat_natCast]; exact HM2.out) (by rw [HM.out, HN0.out, HYD.out]; show xd - _ ≠ yd; rw [HE.out]; exact hey))
                    clear hey
                    go_wp2_with fail
                    go_region
                    go_wp2_with fail
                    go_ret
                    exact ⟨retb HN.out, HBW.out.drew⟩
                · have hpz : ¬ (p : Int) < (xi.length : Int) := by omega
                  have HN := Lib.hid (deepG_yes (g := nds l) (n := n) HD.out fun z hz m hm => by
                    rw [HN0.out] at hz
                    simp only at hz
                    obtain ⟨j, hj⟩ := List.getElem?_of_mem hz
                    rw [HM.out, HN0.out]
                    show xd - _ = m.d
                    rw [HE.out]
                    exact HA.out j z m (by have := (List.getElem?_eq_some_iff.1 hj).1; omega) hj hm)
                  go_wp2_with fail
                  go_ret
                  exact ⟨retb HN.out, HBW.out⟩
          · have k9z : (((xk : Nat) : Int) == 9) = false := by simp; omega
            by_cases k7 : xk = 7
            · subst k7
              have HD := Lib.hid (show Nd.deepB n = true by rw [HN0.out]; unfold Nd.deepB; exact decide_eq_true (by first | (simp; done) | (simp; omega)))
              have HM := Lib.hid (show Nd.more n = 1 by rw [HN0.out]; rfl)
              obtain ⟨E, hE⟩ : ∃ E, IntKind.i64.wrap (xd - 1) = E := ⟨_, rfl⟩
              have hEE : xd - 1 = E := by rw [← hE]; exact (IntWalk.i64_in _ (by omega)).symm
              have HE := Lib.hid hEE; clear hEE
              go_enter Try.func62, Try.ntmps62
              go_wp2_with fail
              go_loopw [6] (fun i wx => ∃ p : Nat, p ≤ xi.length ∧ i = .int .i64 p ∧ Below (w.alloc (.cells #[.int .u8 (7 : Nat), .int .u8 (xa : Nat), .int .i64 xb, .int .i64 xd, .slice xA xi.length xc] 24)).heap.size (w.alloc (.cells #[.int .u8 (7 : Nat), .int .u8 (xa : Nat), .int .i64 xb, .int .i64 xd, .slice xA xi.length xc] 24)) wx ∧ ∀ (j : Nat) (z : Int) (m : Nd), j < p → xi[j]? = some z → (nds l)[z.toNat]? = some m → E = m.d) (fun i _ => xi.length - (intOf i).toNat)
              case atStart => exact ⟨0, by omega, rfl, Below.refl _ _, fun j z m h => absurd h (by omega)⟩
              case round =>
                obtain ⟨p, hp, rfl, hb, hall⟩ := hrel
                have HA := Lib.hid hall; have HBX := Lib.hid hb; clear hall hb
                have d3 : wr.cell? ⟨w.heap.size, 3, none⟩ = some (.int .i64 xd) := (HR.out.below HBX.out HR.out.lt).cell 3
                have d4 : wr.cell? ⟨w.heap.size, 4, none⟩ = some (.slice xA xi.length xc) := (HR.out.below HBX.out HR.out.lt).cell 4
                have HBW := Lib.hid (HB.out.trans (HBX.out.mono (by simp)))
                by_cases hlp : p < xi.length
                · have hpz : (p : Int) < (xi.length : Int) := by omega
                  obtain ⟨z, hz⟩ : ∃ z, xi[p]? = some z := ⟨_, List.getElem?_eq_getElem hlp⟩
                  obtain ⟨hz0, m, hm, _⟩ := HP.out z (List.mem_of_getElem? hz)
                  obtain ⟨Z, rfl⟩ : ∃ Z : Nat, z = (Z : Int) := Int.eq_ofNat_of_zero_le hz0
                  rw [Int.toNat_natCast] at hm
                  obtain ⟨y, hy, rfl⟩ : ∃ y, l[Z]? = some y ∧ y.nd = m := by
                    unfold nds at hm
                    rw [List.getElem?_map, Option.map_eq_some_iff] at hm
                    exact hm
                  have hZl : Z < l.length := (List.getElem?_eq_some_iff.1 hy).1
                  have hZz : (Z : Int) < (l.length : Int) := by omega
                  obtain ⟨bb, oo, rfl, hbb, hq⟩ := ints_at HT.out hz
                  obtain ⟨b, o, rfl, hbl, hcl⟩ := HG.out.at_ hy
                  have q := hq wr HBW.out
                  obtain ⟨_, _, _, c3, _⟩ := hcl wr HBW.out
                  have HZ := Lib.hid hz; have HM2 := Lib.hid hm; clear hz hq hy hcl hm
                  generalize hYd : y.nd.d = yd at *
                  have HYD := Lib.hid hYd; clear hYd
                  by_cases hey : E = yd
                  · subst hey
                    go_wp2_with fail
                    go_region
                    go_wp2_with fail
                    go_roundw
                    case rel =>
                      refine ⟨p + 1, by omega, by simp, HBX.out.drew, fun j z m hj hz hm => ?_⟩
                      by_cases e : j = p
                      · subst e
                        rw [HZ.out] at hz; injection hz with hz; subst hz
                        rw [Int.toNat_natCast, HM2.out] at hm; injection hm with hm
                        rw [← hm]; exact HYD.out.symm
                      · exact HA.out j z m (by omega) hz hm
                    case measure => simp only [intOf]; omega
                  · have heyz : (E != yd) = true := by simpa using hey
                    have HN := Lib.hid (deepG_in (g := nds l) (n := n) (by rw [HN0.out]; exact HZ.out) (by rw [Int.toNat_natCast]; exact HM2.out) (by rw [HM.out, HN0.out, HYD.out]; show xd - _ ≠ yd; rw [HE.out]; exact hey))
                    clear hey
                    go_wp2_with fail
                    go_region
                    go_wp2_with fail
                    go_ret
                    exact ⟨retb HN.out, HBW.out.drew⟩
                · have hpz : ¬ (p : Int) < (xi.length : Int) := by omega
                  have HN := Lib.hid (deepG_yes (g := nds l) (n := n) HD.out fun z hz m hm => by
                    rw [HN0.out] at hz
                    simp only at hz
                    obtain ⟨j, hj⟩ := List.getElem?_of_mem hz
                    rw [HM.out, HN0.out]
                    show xd - _ = m.d
                    rw [HE.out]
                    exact HA.out j z m (by have := (List.getElem?_eq_some_iff.1 hj).1; omega) hj hm)
                  go_wp2_with fail
                  go_ret
                  exact ⟨retb HN.out, HBW.out⟩
            · have k7z : (((xk : Nat) : Int) == 7) = false := by simp; omega
              by_cases k8 : xk = 8
              · subst k8
                have HD := Lib.hid (show Nd.deepB n = true by rw [HN0.out]; unfold Nd.deepB; exact decide_eq_true (by first | (simp; done) | (simp; omega)))
                have HM := Lib.hid (show Nd.more n = -1 by rw [HN0.out]; rfl)
                obtain ⟨E, hE⟩ : ∃ E, IntKind.i64.wrap (xd - -1) = E := ⟨_, rfl⟩
                have hEE : xd - -1 = E := by rw [← hE]; exact (IntWalk.i64_in _ (by omega)).symm
                have hE2 : IntKind.i64.wrap (xd + 1) = E := by rw [← hE]; congr 1
                have HE := Lib.hid hEE; clear hEE
                go_enter Try.func62, Try.ntmps62
                go_wp2_with fail
                go_loopw [6] (fun i wx => ∃ p : Nat, p ≤ xi.length ∧ i = .int .i64 p ∧ Below (w.alloc (.cells #[.int .u8 (8 : Nat), .int .u8 (xa : Nat), .int .i64 xb, .int .i64 xd, .slice xA xi.length xc] 24)).heap.size (w.alloc (.cells #[.int .u8 (8 : Nat), .int .u8 (xa : Nat), .int .i64 xb, .int .i64 xd, .slice xA xi.length xc] 24)) wx ∧ ∀ (j : Nat) (z : Int) (m : Nd), j < p → xi[j]? = some z → (nds l)[z.toNat]? = some m → E = m.d) (fun i _ => xi.length - (intOf i).toNat)
                case atStart => exact ⟨0, by omega, rfl, Below.refl _ _, fun j z m h => absurd h (by omega)⟩
                case round =>
                  obtain ⟨p, hp, rfl, hb, hall⟩ := hrel
                  have HA := Lib.hid hall; have HBX := Lib.hid hb; clear hall hb
                  have d3 : wr.cell? ⟨w.heap.size, 3, none⟩ = some (.int .i64 xd) := (HR.out.below HBX.out HR.out.lt).cell 3
                  have d4 : wr.cell? ⟨w.heap.size, 4, none⟩ = some (.slice xA xi.length xc) := (HR.out.below HBX.out HR.out.lt).cell 4
                  have HBW := Lib.hid (HB.out.trans (HBX.out.mono (by simp)))
                  by_cases hlp : p < xi.length
                  · have hpz : (p : Int) < (xi.length : Int) := by omega
                    obtain ⟨z, hz⟩ : ∃ z, xi[p]? = some z := ⟨_, List.getElem?_eq_getElem hlp⟩
                    obtain ⟨hz0, m, hm, _⟩ := HP.out z (List.mem_of_getElem? hz)
                    obtain ⟨Z, rfl⟩ : ∃ Z : Nat, z = (Z : Int) := Int.eq_ofNat_of_zero_le hz0
                    rw [Int.toNat_natCast] at hm
                    obtain ⟨y, hy, rfl⟩ : ∃ y, l[Z]? = some y ∧ y.nd = m := by
                      unfold nds at hm
                      rw [List.getElem?_map, Option.map_eq_some_iff] at hm
                      exact hm
                    have hZl : Z < l.length := (List.getElem?_eq_some_iff.1 hy).1
                    have hZz : (Z : Int) < (l.length : Int) := by omega
                    obtain ⟨bb, oo, rfl, hbb, hq⟩ := ints_at HT.out hz
                    obtain ⟨b, o, rfl, hbl, hcl⟩ := HG.out.at_ hy
                    have q := hq wr HBW.out
                    obtain ⟨_, _, _, c3, _⟩ := hcl wr HBW.out
                    have HZ := Lib.hid hz; have HM2 := Lib.hid hm; clear hz hq hy hcl hm
                    generalize hYd : y.nd.d = yd at *
                    have HYD := Lib.hid hYd; clear hYd
                    by_cases hey : E = yd
                    · subst hey
                      go_wp2_with fail
                      go_region
                      go_wp2_with fail
                      go_roundw
                      case rel =>
                        refine ⟨p + 1, by omega, by simp, HBX.out.drew, fun j z m hj hz hm => ?_⟩
                        by_cases e : j = p
                        · subst e
                          rw [HZ.out] at hz; injection hz with hz; subst hz
                          rw [Int.toNat_natCast, HM2.out] at hm; injection hm with hm
                          rw [← hm]; exact HYD.out.symm
                        · exact HA.out j z m (by omega) hz hm
                      case measure => simp only [intOf]; omega
                    · have heyz : (E != yd) = true := by simpa using hey
                      have HN := Lib.hid (deepG_in (g := nds l) (n := n) (by rw [HN0.out]; exact HZ.out) (by rw [Int.toNat_natCast]; exact HM2.out) (by rw [HM.out, HN0.out, HYD.out]; show xd - _ ≠ yd; rw [HE.out]; exact hey))
                      clear hey
                      go_wp2_with fail
                      go_region
                      go_wp2_with fail
                      go_ret
                      exact ⟨retb HN.out, HBW.out.drew⟩
                  · have hpz : ¬ (p : Int) < (xi.length : Int) := by omega
                    have HN := Lib.hid (deepG_yes (g := nds l) (n := n) HD.out fun z hz m hm => by
                      rw [HN0.out] at hz
                      simp only at hz
                      obtain ⟨j, hj⟩ := List.getElem?_of_mem hz
                      rw [HM.out, HN0.out]
                      show xd - _ = m.d
                      rw [HE.out]
                      exact HA.out j z m (by have := (List.getElem?_eq_some_iff.1 hj).1; omega) hj hm)
                    go_wp2_with fail
                    go_ret
                    exact ⟨retb HN.out, HBW.out⟩
              · have k8z : (((xk : Nat) : Int) == 8) = false := by simp; omega
                have HD := Lib.hid (show Nd.deepB n = true by rw [HN0.out]; unfold Nd.deepB; exact decide_eq_true (by first | (simp; done) | (simp; omega)))
                have HM := Lib.hid (show Nd.more n = 0 by rw [HN0.out]; unfold Nd.more; rw [if_neg k7, if_neg k8])
                obtain ⟨E, hE⟩ : ∃ E, IntKind.i64.wrap (xd - 0) = E := ⟨_, rfl⟩
                have hEE : xd - 0 = E := by rw [← hE]; exact (IntWalk.i64_in _ (by omega)).symm
                have hE2 : IntKind.i64.wrap xd = E := by rw [← hE, Int.sub_zero]
                have HE := Lib.hid hEE; clear hEE
                go_enter Try.func62, Try.ntmps62
                go_wp2_with fail
                go_loopw [6] (fun i wx => ∃ p : Nat, p ≤ xi.length ∧ i = .int .i64 p ∧ Below (w.alloc (.cells #[.int .u8 (xk : Nat), .int .u8 (xa : Nat), .int .i64 xb, .int .i64 xd, .slice xA xi.length xc] 24)).heap.size (w.alloc (.cells #[.int .u8 (xk : Nat), .int .u8 (xa : Nat), .int .i64 xb, .int .i64 xd, .slice xA xi.length xc] 24)) wx ∧ ∀ (j : Nat) (z : Int) (m : Nd), j < p → xi[j]? = some z → (nds l)[z.toNat]? = some m → E = m.d) (fun i _ => xi.length - (intOf i).toNat)
                case atStart => exact ⟨0, by omega, rfl, Below.refl _ _, fun j z m h => absurd h (by omega)⟩
                case round =>
                  obtain ⟨p, hp, rfl, hb, hall⟩ := hrel
                  have HA := Lib.hid hall; have HBX := Lib.hid hb; clear hall hb
                  have d3 : wr.cell? ⟨w.heap.size, 3, none⟩ = some (.int .i64 xd) := (HR.out.below HBX.out HR.out.lt).cell 3
                  have d4 : wr.cell? ⟨w.heap.size, 4, none⟩ = some (.slice xA xi.length xc) := (HR.out.below HBX.out HR.out.lt).cell 4
                  have HBW := Lib.hid (HB.out.trans (HBX.out.mono (by simp)))
                  by_cases hlp : p < xi.length
                  · have hpz : (p : Int) < (xi.length : Int) := by omega
                    obtain ⟨z, hz⟩ : ∃ z, xi[p]? = some z := ⟨_, List.getElem?_eq_getElem hlp⟩
                    obtain ⟨hz0, m, hm, _⟩ := HP.out z (List.mem_of_getElem? hz)
                    obtain ⟨Z, rfl⟩ : ∃ Z : Nat, z = (Z : Int) := Int.eq_ofNat_of_zero_le hz0
                    rw [Int.toNat_natCast] at hm
                    obtain ⟨y, hy, rfl⟩ : ∃ y, l[Z]? = some y ∧ y.nd = m := by
                      unfold nds at hm
                      rw [List.getElem?_map, Option.map_eq_some_iff] at hm
                      exact hm
                    have hZl : Z < l.length := (List.getElem?_eq_some_iff.1 hy).1
                    have hZz : (Z : Int) < (l.length : Int) := by omega
                    obtain ⟨bb, oo, rfl, hbb, hq⟩ := ints_at HT.out hz
                    obtain ⟨b, o, rfl, hbl, hcl⟩ := HG.out.at_ hy
                    have q := hq wr HBW.out
                    obtain ⟨_, _, _, c3, _⟩ := hcl wr HBW.out
                    have HZ := Lib.hid hz; have HM2 := Lib.hid hm; clear hz hq hy hcl hm
                    generalize hYd : y.nd.d = yd at *
                    have HYD := Lib.hid hYd; clear hYd
                    by_cases hey : E = yd
                    · subst hey
                      go_wp2_with fail
                      go_region
                      go_wp2_with fail
                      go_roundw
                      case rel =>
                        refine ⟨p + 1, by omega, by simp, HBX.out.drew, fun j z m hj hz hm => ?_⟩
                        by_cases e : j = p
                        · subst e
                          rw [HZ.out] at hz; injection hz with hz; subst hz
                          rw [Int.toNat_natCast, HM2.out] at hm; injection hm with hm
                          rw [← hm]; exact HYD.out.symm
                        · exact HA.out j z m (by omega) hz hm
                      case measure => simp only [intOf]; omega
                    · have heyz : (E != yd) = true := by simpa using hey
                      have HN := Lib.hid (deepG_in (g := nds l) (n := n) (by rw [HN0.out]; exact HZ.out) (by rw [Int.toNat_natCast]; exact HM2.out) (by rw [HM.out, HN0.out, HYD.out]; show xd - _ ≠ yd; rw [HE.out]; exact hey))
                      clear hey
                      go_wp2_with fail
                      go_region
                      go_wp2_with fail
                      go_ret
                      exact ⟨retb HN.out, HBW.out.drew⟩
                  · have hpz : ¬ (p : Int) < (xi.length : Int) := by omega
                    have HN := Lib.hid (deepG_yes (g := nds l) (n := n) HD.out fun z hz m hm => by
                      rw [HN0.out] at hz
                      simp only at hz
                      obtain ⟨j, hj⟩ := List.getElem?_of_mem hz
                      rw [HM.out, HN0.out]
                      show xd - _ = m.d
                      rw [HE.out]
                      exact HA.out j z m (by have := (List.getElem?_eq_some_iff.1 hj).1; omega) hj hm)
                    go_wp2_with fail
                    go_ret
                    exact ⟨retb HN.out, HBW.out⟩
end
end Go.Proofs.Ytcjdjdhjbchaaaa
