/- Same: are two graphs the same? -/
import Derived.Test.YtocdganglokplaaDoorGrKit
import Derived.BigRegion
import Derived.RegionTactic
import Derived.ChangeAlike
import Derived.Deep.DeepCutAuto
import Derived.Deep.CutRange
namespace Go.Proofs.YtocdganglokplaaDoor
open Go.ChangeShapes Go.WideShapes Go.ChangeAt Go.RowKit Go.BigFrame
set_option linter.unusedVariables false
set_option maxRecDepth 100000
/-- are they the same? -/
noncomputable def sameN (l m : List Nd) : Bool := @decide (l = m) (Classical.propDecidable _)
theorem sameN_iff {l m : List Nd} : sameN l m = true ↔ l = m := by unfold sameN; exact @decide_eq_true_iff _ (Classical.propDecidable _)
theorem sameN_no {l m : List Nd} (h : l ≠ m) : false = sameN l m := by
  cases e : sameN l m with
  | true => exact absurd (sameN_iff.1 e) h
  | false => rfl
theorem sameN_yes {l m : List Nd} (h : l = m) : true = sameN l m := (sameN_iff.2 h).symm
theorem nds_at {l m : List Gn} (h : nds l = nds m) {i : Nat} {x y : Gn} (hx : l[i]? = some x) (hy : m[i]? = some y) : x.nd = y.nd := by
  have := congrArg (·[i]?) h
  simp only [nds, List.getElem?_map, hx, hy, Option.map_some, Option.some.injEq] at this
  exact this
theorem nds_all {l m : List Gn} (hl : l.length = m.length) (h : ∀ (j : Nat) (x y : Gn), j < l.length → l[j]? = some x → m[j]? = some y → x.nd = y.nd) : nds l = nds m := by
  apply List.ext_getElem?
  intro i
  unfold nds
  rw [List.getElem?_map, List.getElem?_map]
  by_cases hi : i < l.length
  · rw [List.getElem?_eq_getElem hi, List.getElem?_eq_getElem (show i < m.length by omega)]
    simp only [Option.map_some, Option.some.injEq]
    exact h i _ _ hi (List.getElem?_eq_getElem hi) (List.getElem?_eq_getElem (by omega))
  · rw [List.getElem?_eq_none (by omega), List.getElem?_eq_none (by omega)]
theorem made2 (w : World) (o : Obj) (t : TypeId) (l : List Value) : Row ((w.alloc o).alloc (.cells l.toArray t)) (w.heap.size + 1) t l := by
  have := Row.made (w.alloc o) t l
  rwa [show (w.alloc o).heap.size = w.heap.size + 1 by simp] at this
set_option maxHeartbeats 4000000 in
theorem refSame_any (A B : Option Addr) (l m : List Gn) (c d : Nat) (w : World) (hG : Gr w A l) (hH : Gr w B m) (hl : l.length ≤ maxLen) (hm : m.length ≤ maxLen) :
    Calls Tryd.prog 14 #[.slice A l.length c, .slice B m.length d] w fun e w' => e = .returned (.bool (sameN (nds l) (nds m))) ∧ Below w.heap.size w w' := by
  unfold maxLen at hl hm
  have HG := Lib.hid hG; have HH := Lib.hid hH; clear hG hH
  by_cases hlm : l.length = m.length
  · have hz : ((l.length : Int) != (m.length : Int)) = false := by simp; omega
    have HLM := Lib.hid hlm
    go_enter Tryd.func14, Tryd.ntmps14
    go_wp2_with fail
    go_loopw [5] (fun i wr => ∃ k : Nat, k ≤ l.length ∧ i = .int .i64 k ∧ Below w.heap.size w wr ∧ ∀ (j : Nat) (x y : Gn), j < k → l[j]? = some x → m[j]? = some y → x.nd = y.nd) (fun i _ => l.length - (intOf i).toNat)
    case atStart => exact ⟨0, by omega, rfl, Below.refl _ _, fun j x y h => absurd h (by omega)⟩
    case round =>
      obtain ⟨k, hk, rfl, hb, hall⟩ := hrel
      have HA := Lib.hid hall; have HB := Lib.hid hb; clear hall hb hz
      by_cases hlt : k < l.length
      · have hltz : (k : Int) < (l.length : Int) := by omega
        have hltm : (k : Int) < (m.length : Int) := by omega
        obtain ⟨x, hx⟩ : ∃ x, l[k]? = some x := ⟨_, List.getElem?_eq_getElem hlt⟩
        obtain ⟨y, hy⟩ : ∃ y, m[k]? = some y := ⟨_, List.getElem?_eq_getElem (by omega)⟩
        obtain ⟨⟨xk, xa, xb, xd, xi⟩, xA, xc⟩ := x
        obtain ⟨⟨yk, ya, yb, yd, yi⟩, yA, yc⟩ := y
        obtain ⟨b, o, rfl, hbl, hcl⟩ := HG.out.at_ hx
        obtain ⟨b', o', rfl, hbl', hcl'⟩ := HH.out.at_ hy
        obtain ⟨c0, c1, c2, c3, c4⟩ := hcl wr HB.out
        obtain ⟨d0, d1, d2, d3, d4⟩ := hcl' wr HB.out
        simp only at c0 c1 c2 c3 c4 d0 d1 d2 d3 d4
        have q1 : b < wr.heap.size := Nat.lt_of_lt_of_le hbl HB.out.size
        have q2 : b' < wr.heap.size := Nat.lt_of_lt_of_le hbl' HB.out.size
        have HX := Lib.hid hx; have HY := Lib.hid hy; clear hx hcl hy hcl' hlm
        go_upto_region 6 with fail
        go_cut [6, 7] from 14 to 80 (fun p q wx => ∃ g h, p = .pointer (some ⟨g, 0, none⟩) ∧ q = .pointer (some ⟨h, 0, none⟩) ∧ Row wx g 39 (kindG.cells ⟨⟨xk, xa, xb, xd, xi⟩, xA, xc⟩) ∧ Row wx h 39 (kindG.cells ⟨⟨yk, ya, yb, yd, yi⟩, yA, yc⟩) ∧ Below wr.heap.size wr wx)
        case first =>
          go_region
          all_goals
            go_wp2_with fail
            go_meet
            refine ⟨_, _, rfl, rfl, ?_, ?_, ?_⟩
            · first | exact Row.drew (Row.alloc (Row.made _ _ _) _) | exact Row.drew (made2 _ _ _ (kindG.cells ⟨⟨xk, xa, xb, xd, xi⟩, xA, xc⟩))
            · first | exact Row.drew (Row.alloc (Row.made _ _ _) _) | exact Row.drew (made2 _ _ _ (kindG.cells ⟨⟨yk, ya, yb, yd, yi⟩, yA, yc⟩))
            · exact (((Below.refl _ wr).alloc (Nat.le_refl _) _).alloc (by simp) _).drew
        case rest =>
          obtain ⟨g, h, rfl, rfl, hg, hh, hbw⟩ := hcut
          have HBW := Lib.hid (HB.out.trans (hbw.mono HB.out.size))
          have e0 : wc.cell? ⟨g, 0, none⟩ = some (.int .u8 (xk : Nat)) := hg.cell 0
          have e1 : wc.cell? ⟨g, 1, none⟩ = some (.int .u8 (xa : Nat)) := hg.cell 1
          have e2 : wc.cell? ⟨g, 2, none⟩ = some (.int .i64 xb) := hg.cell 2
          have e3 : wc.cell? ⟨g, 3, none⟩ = some (.int .i64 xd) := hg.cell 3
          have e4 : wc.cell? ⟨g, 4, none⟩ = some (.slice xA xi.length xc) := hg.cell 4
          have f0 : wc.cell? ⟨h, 0, none⟩ = some (.int .u8 (yk : Nat)) := hh.cell 0
          have f1 : wc.cell? ⟨h, 1, none⟩ = some (.int .u8 (ya : Nat)) := hh.cell 1
          have f2 : wc.cell? ⟨h, 2, none⟩ = some (.int .i64 yb) := hh.cell 2
          have f3 : wc.cell? ⟨h, 3, none⟩ = some (.int .i64 yd) := hh.cell 3
          have f4 : wc.cell? ⟨h, 4, none⟩ = some (.slice yA yi.length yc) := hh.cell 4
          have HR := Lib.hid (And.intro hg hh)
          clear hg hh hbw c0 c1 c2 c3 c4 d0 d1 d2 d3 d4 q1 q2
          by_cases h0 : xk = yk
          · subst h0
            by_cases h1 : xa = ya
            · subst h1
              by_cases h2 : xb = yb
              · subst h2
                by_cases h3 : xd = yd
                · subst h3
                  by_cases h5 : xi.length = yi.length
                  · have hz : (((xi.length : Int) != (yi.length : Int)) = false) := by simp; omega
                    have H5 := Lib.hid h5; clear h5
                    go_wp2_with fail
                    go_loopw [8] (fun i wx => ∃ p : Nat, p ≤ xi.length ∧ i = .int .i64 p ∧ Below wc.heap.size wc wx ∧ ∀ (j : Nat), j < p → xi[j]? = yi[j]?) (fun i _ => xi.length - (intOf i).toNat)
                    case atStart => exact ⟨0, by omega, rfl, Below.refl _ _, fun j h => absurd h (by omega)⟩
                    case round =>
                      obtain ⟨p, hp, rfl, hbx, hsm⟩ := hrel
                      have e4 : wr.cell? ⟨g, 4, none⟩ = some (.slice xA xi.length xc) := (HR.out.1.below hbx HR.out.1.lt).cell 4
                      have f4 : wr.cell? ⟨h, 4, none⟩ = some (.slice yA yi.length yc) := (HR.out.2.below hbx HR.out.2.lt).cell 4
                      have hxm : xi.length ≤ 9223372036854775807 := by have h1 := (HG.out.ok HX.out).c; unfold maxLen at h1; simp only at h1; omega
                      have HS := Lib.hid hsm; have HBX := Lib.hid hbx; clear hsm hbx
                      by_cases hlp : p < xi.length
                      · have hpz : (p : Int) < (xi.length : Int) := by omega
                        have hpy : (p : Int) < (yi.length : Int) := by have := H5.out; omega
                        obtain ⟨z, hz1⟩ : ∃ z, xi[p]? = some z := ⟨_, List.getElem?_eq_getElem hlp⟩
                        obtain ⟨z', hz2⟩ : ∃ z', yi[p]? = some z' := ⟨_, List.getElem?_eq_getElem (by omega)⟩
                        obtain ⟨bb, oo, rfl, _, hq1⟩ := ints_at (HG.out.ins HX.out) hz1
                        obtain ⟨bb', oo', rfl, _, hq2⟩ := ints_at (HH.out.ins HY.out) hz2
                        have q1 := hq1 wr (HBW.out.trans (HBX.out.mono HBW.out.size))
                        have q2 := hq2 wr (HBW.out.trans (HBX.out.mono HBW.out.size))
                        have HZ1 := Lib.hid hz1; have HZ2 := Lib.hid hz2; clear hz1 hz2 hq1 hq2
                        by_cases hzz : z = z'
                        · subst hzz
                          go_wp2_with fail
                          go_region
                          go_wp2_with fail
                          go_roundw
                          case rel =>
                            refine ⟨p + 1, by omega, by simp, HBX.out.drew, fun j hj => ?_⟩
                            by_cases e : j = p
                            · subst e; rw [HZ1.out, HZ2.out]
                            · exact HS.out j (by omega)
                          case measure => simp only [intOf]; omega
                        · have hzb : (z != z') = true := by simpa using hzz
                          have HN := Lib.hid hzz; clear hzz
                          go_wp2_with fail
                          go_region
                          go_wp2_with fail
                          go_ret
                          exact ⟨retb (sameN_no fun e => by have := nds_at e HX.out HY.out; simp only [Nd.mk.injEq] at this; have h5 := HZ1.out; rw [this.2.2.2.2, HZ2.out] at h5; exact HN.out (Option.some.inj h5).symm), HBW.out.trans (HBX.out.drew.mono HBW.out.size)⟩
                      · have hpz : ¬ (p : Int) < (xi.length : Int) := by omega
                        have hins : xi = yi := by
                          apply List.ext_getElem?
                          intro j
                          by_cases hj : j < p
                          · exact HS.out j hj
                          · have := H5.out
                            rw [List.getElem?_eq_none (by omega), List.getElem?_eq_none (by omega)]
                        have HI := Lib.hid hins; clear hins
                        go_wp2_with fail
                        go_roundw
                        case rel =>
                          refine ⟨k + 1, by omega, by simp, HBW.out.trans (HBX.out.mono HBW.out.size), fun j x y hj hx hy => ?_⟩
                          by_cases e : j = k
                          · subst e
                            rw [HX.out] at hx; rw [HY.out] at hy; cases hx; cases hy
                            simp only [Nd.mk.injEq, true_and]; exact HI.out
                          · exact HA.out j x y (by omega) hx hy
                        case measure => simp only [intOf]; omega
                  · have hz : (((xi.length : Int) != (yi.length : Int)) = true) := by simp; omega
                    have HN := Lib.hid h5; clear h5
                    go_wp2_with fail
                    go_ret
                    exact ⟨retb (sameN_no fun e => by have := nds_at e HX.out HY.out; simp only [Nd.mk.injEq] at this; exact HN.out (by rw [this.2.2.2.2])), HBW.out⟩
                · have hz : ((xd != yd) = true) := by simp; omega
                  have HN := Lib.hid h3; clear h3
                  go_wp2_with fail
                  go_ret
                  exact ⟨retb (sameN_no fun e => by have := nds_at e HX.out HY.out; simp only [Nd.mk.injEq] at this; exact HN.out this.2.2.2.1), HBW.out⟩
              · have hz : ((xb != yb) = true) := by simp; omega
                have HN := Lib.hid h2; clear h2
                go_wp2_with fail
                go_ret
                exact ⟨retb (sameN_no fun e => by have := nds_at e HX.out HY.out; simp only [Nd.mk.injEq] at this; exact HN.out this.2.2.1), HBW.out⟩
            · have hz : (((xa : Int) != (ya : Int)) = true) := by simp; omega
              have HN := Lib.hid h1; clear h1
              go_wp2_with fail
              go_ret
              exact ⟨retb (sameN_no fun e => by have := nds_at e HX.out HY.out; simp only [Nd.mk.injEq] at this; exact HN.out this.2.1), HBW.out⟩
          · have hz : (((xk : Int) != (yk : Int)) = true) := by simp; omega
            have HN := Lib.hid h0; clear h0
            go_wp2_with fail
            go_ret
            exact ⟨retb (sameN_no fun e => by have := nds_at e HX.out HY.out; simp only [Nd.mk.injEq] at this; exact HN.out this.1), HBW.out⟩
      · have hltz : ¬ (k : Int) < (l.length : Int) := by omega
        have HE := Lib.hid (nds_all hlm fun j x y hj => HA.out j x y (by omega)); clear hlm
        go_wp2_with fail
        go_ret
        exact ⟨retb (sameN_yes HE.out), HB.out⟩
  · have hz : ((l.length : Int) != (m.length : Int)) = true := by simp; omega
    have HLM := Lib.hid hlm; clear hlm
    go_enter Tryd.func14, Tryd.ntmps14
    go_wp2_with fail
    go_ret
    exact ⟨retb (sameN_no fun e => HLM.out (by have := congrArg List.length e; simpa [nds] using this)), Below.refl _ _⟩
end Go.Proofs.YtocdganglokplaaDoor
