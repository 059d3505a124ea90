/- Same, the program's. -/
import Derived.Test.YtmjbclinlojboaaGrSame
import Derived.Shelf.Abstract
namespace Go.Proofs.Ytmjbclinlojboaa
open Go.ChangeShapes Go.WideShapes Go.ChangeAt Go.RowKit Go.BigFrame
set_option linter.unusedVariables false
set_option maxRecDepth 100000
set_option maxHeartbeats 2000000 in
theorem equalInts_any (A B : Option Addr) (xs ys : List Int) (c d : Nat) (w : World) (hA : Rw.Ts kindI w A xs) (hB : Rw.Ts kindI w B ys) (h1 : xs.length ≤ maxLen) (h2 : ys.length ≤ maxLen) :
    Calls Try.prog 38 #[.slice A xs.length c, .slice B ys.length d] w fun e w' => e = .returned (.bool (decide (xs = ys))) ∧ Below w.heap.size w w' := by
  unfold maxLen at h1 h2
  have HA := Lib.hid hA; have HB := Lib.hid hB; clear hA hB
  by_cases h5 : xs.length = ys.length
  · have hz : (((xs.length : Int) != (ys.length : Int)) = false) := by simp; omega
    have H5 := Lib.hid h5; clear h5
    go_enter Try.func38, Try.ntmps38
    go_wp2_with fail
    go_loopw [13] (fun i wx => ∃ p : Nat, p ≤ xs.length ∧ i = .int .i64 p ∧ Below w.heap.size w wx ∧ ∀ (j : Nat), j < p → xs[j]? = ys[j]?) (fun i _ => xs.length - (intOf i).toNat)
    case atStart => exact ⟨0, by omega, rfl, Below.refl _ _, fun j h => absurd h (by omega)⟩
    case round =>
      obtain ⟨p, hp, rfl, hbx, hsm⟩ := hrel
      have HS := Lib.hid hsm; have HBX := Lib.hid hbx; clear hsm hbx hz
      by_cases hlp : p < xs.length
      · have hpz : (p : Int) < (xs.length : Int) := by omega
        have hpy : (p : Int) < (ys.length : Int) := by have := H5.out; omega
        obtain ⟨z, hz1⟩ : ∃ z, xs[p]? = some z := ⟨_, List.getElem?_eq_getElem hlp⟩
        obtain ⟨z', hz2⟩ : ∃ z', ys[p]? = some z' := ⟨_, List.getElem?_eq_getElem (by omega)⟩
        obtain ⟨bb, oo, rfl, _, hq1⟩ := ints_at HA.out hz1
        obtain ⟨bb', oo', rfl, _, hq2⟩ := ints_at HB.out hz2
        have q1 := hq1 wr HBX.out
        have q2 := hq2 wr HBX.out
        have HZ1 := Lib.hid hz1; have HZ2 := Lib.hid hz2; clear hz1 hz2 hq1 hq2
        by_cases hzz : z = z'
        · subst hzz
          go_wp2_with fail
          go_region
          go_wp2_with fail
          go_roundw
          case rel =>
            refine ⟨p + 1, by omega, by simp, HBX.out.drew, fun j hj => ?_⟩
            by_cases e : j = p
            · subst e; rw [HZ1.out, HZ2.out]
            · exact HS.out j (by omega)
          case measure => simp only [intOf]; omega
        · have hzb : (z != z') = true := by simpa using hzz
          have HN := Lib.hid hzz; clear hzz
          go_wp2_with fail
          go_region
          go_wp2_with fail
          go_ret
          exact ⟨retb (eq_comm.1 (decide_eq_false fun e => by have h5 := HZ1.out; rw [e, HZ2.out] at h5; exact HN.out (Option.some.inj h5).symm)), HBX.out.drew⟩
      · have hpz : ¬ (p : Int) < (xs.length : Int) := by omega
        have hins : xs = ys := by
          apply List.ext_getElem?
          intro j
          by_cases hj : j < p
          · exact HS.out j hj
          · have := H5.out
            rw [List.getElem?_eq_none (by omega), List.getElem?_eq_none (by omega)]
        have HI := Lib.hid hins; clear hins
        go_wp2_with fail
        go_ret
        exact ⟨retb (eq_comm.1 (decide_eq_true HI.out)), HBX.out⟩
  · have hz : (((xs.length : Int) != (ys.length : Int)) = true) := by simp; omega
    have HN := Lib.hid h5; clear h5
    go_enter Try.func38, Try.ntmps38
    go_wp2_with fail
    go_ret
    exact ⟨retb (eq_comm.1 (decide_eq_false fun e => HN.out (by rw [e]))), Below.refl _ _⟩
/-- are two nodes the same? -/
noncomputable def sameNd (x y : Nd) : Bool := @decide (x = y) (Classical.propDecidable _)
theorem sameNd_no {x y : Nd} (h : x ≠ y) : false = sameNd x y := by unfold sameNd; rw [@decide_eq_false _ (Classical.propDecidable _) h]
theorem sameNd_yes {x y : Nd} (h : x = y) : true = sameNd x y := by unfold sameNd; rw [@decide_eq_true _ (Classical.propDecidable _) h]
theorem sameNd_iff {x y : Nd} : sameNd x y = true ↔ x = y := by unfold sameNd; exact @decide_eq_true_iff _ (Classical.propDecidable _)
theorem below2 (w : World) (o o' : Obj) : Below w.heap.size w ((w.alloc o).alloc o') := ((Below.refl _ _).alloc (Nat.le_refl _) _).alloc (by simp) _
set_option maxHeartbeats 4000000 in
theorem sameNode_any (xk xa : Nat) (xb xd : Int) (xi : List Int) (xA : Option Addr) (xc : Nat) (yk ya : Nat) (yb yd : Int) (yi : List Int) (yA : Option Addr) (yc : Nat) (w : World)
    (hx : Rw.Ts kindI w xA xi) (hy : Rw.Ts kindI w yA yi) (lx : xi.length ≤ maxLen) (ly : yi.length ≤ maxLen) :
    Calls Try.prog 34 #[.agg #[.int .u8 (xk : Nat), .int .u8 (xa : Nat), .int .i64 xb, .int .i64 xd, .slice xA xi.length xc], .agg #[.int .u8 (yk : Nat), .int .u8 (ya : Nat), .int .i64 yb, .int .i64 yd, .slice yA yi.length yc]] w
      fun e w' => e = .returned (.bool (sameNd ⟨xk, xa, xb, xd, xi⟩ ⟨yk, ya, yb, yd, yi⟩)) ∧ Below w.heap.size w w' := by
  have hb2 := below2 w (.cells #[.int .u8 (xk : Nat), .int .u8 (xa : Nat), .int .i64 xb, .int .i64 xd, .slice xA xi.length xc] 48) (.cells #[.int .u8 (yk : Nat), .int .u8 (ya : Nat), .int .i64 yb, .int .i64 yd, .slice yA yi.length yc] 48)
  have hcall := equalInts_any xA yA xi yi xc yc _ (hx.below hb2) (hy.below hb2) lx ly
  have HC := Lib.hid hcall; have HB2 := Lib.hid hb2; clear hcall hb2 hx hy lx ly
  by_cases h0 : xk = yk
  · subst h0
    by_cases h1 : xa = ya
    · subst h1
      by_cases h2 : xb = yb
      · subst h2
        by_cases h3 : xd = yd
        · subst h3
          go_enter Try.func34, Try.ntmps34
          go_wp2_with fail
          refine HC.out.mono ?_; rintro e w1 ⟨rfl, hb1⟩
          have HB1 := Lib.hid hb1; clear hb1
          go_wp2_with fail
          go_ret
          refine ⟨retb ?_, HB2.out.trans (HB1.out.mono HB2.out.size)⟩
          by_cases e : xi = yi
          · rw [decide_eq_true e]; exact sameNd_yes (by rw [e])
          · rw [decide_eq_false e]; exact sameNd_no fun h => e (by simpa using h)
        · have hz : ((xd == yd) = false) := by simp; omega
          have HN := Lib.hid h3; clear h3
          go_enter Try.func34, Try.ntmps34
          go_wp2_with fail
          go_ret
          exact ⟨retb (sameNd_no fun e => by simp only [Nd.mk.injEq] at e; exact HN.out e.2.2.2.1), HB2.out⟩
      · have hz : ((xb == yb) = false) := by simp; omega
        have HN := Lib.hid h2; clear h2
        go_enter Try.func34, Try.ntmps34
        go_wp2_with fail
        go_ret
        exact ⟨retb (sameNd_no fun e => by simp only [Nd.mk.injEq] at e; exact HN.out e.2.2.1), HB2.out⟩
    · have hz : (((xa : Int) == (ya : Int)) = false) := by simp; omega
      have HN := Lib.hid h1; clear h1
      go_enter Try.func34, Try.ntmps34
      go_wp2_with fail
      go_ret
      exact ⟨retb (sameNd_no fun e => by simp only [Nd.mk.injEq] at e; exact HN.out e.2.1), HB2.out⟩
  · have hz : (((xk : Int) == (yk : Int)) = false) := by simp; omega
    have HN := Lib.hid h0; clear h0
    go_enter Try.func34, Try.ntmps34
    go_wp2_with fail
    go_ret
    exact ⟨retb (sameNd_no fun e => by simp only [Nd.mk.injEq] at e; exact HN.out e.1), HB2.out⟩
set_option maxHeartbeats 4000000 in
theorem equalFunc_any (A B : Option Addr) (l m : List Gn) (c d : Nat) (w : World) (hG : Gr w A l) (hH : Gr w B m) (hl : l.length ≤ maxLen) (hm : m.length ≤ maxLen) :
    Calls Try.prog 33 #[.slice A l.length c, .slice B m.length d, .func (.func 34) #[] #[]] w fun e w' => e = .returned (.bool (sameN (nds l) (nds m))) ∧ Below w.heap.size w w' := by
  have eg : ∀ args w, (callFunc 34 args).run Try.prog w = .ok (.enter 34 args) w := enters_of Try.func34 (by kernel_rfl) rfl
  unfold maxLen at hl hm
  have HG := Lib.hid hG; have HH := Lib.hid hH; clear hG hH
  by_cases hlm : l.length = m.length
  · have hz : ((l.length : Int) != (m.length : Int)) = false := by simp; omega
    have HLM := Lib.hid hlm; clear hlm
    go_enter Try.func33, Try.ntmps33
    go_wp2_with fail
    go_loopw [17] (fun i wr => ∃ k : Nat, k ≤ l.length ∧ i = .int .i64 k ∧ Below w.heap.size w wr ∧ ∀ (j : Nat) (x y : Gn), j < k → l[j]? = some x → m[j]? = some y → x.nd = y.nd) (fun i _ => l.length - (intOf i).toNat)
    case atStart => exact ⟨0, by omega, rfl, Below.refl _ _, fun j x y h => absurd h (by omega)⟩
    case round =>
      obtain ⟨k, hk, rfl, hb, hall⟩ := hrel
      have HA := Lib.hid hall; have HB := Lib.hid hb; clear hall hb hz
      by_cases hlt : k < l.length
      · have hltz : (k : Int) < (l.length : Int) := by omega
        have hltm : (k : Int) < (m.length : Int) := by have := HLM.out; omega
        obtain ⟨x, hx⟩ : ∃ x, l[k]? = some x := ⟨_, List.getElem?_eq_getElem hlt⟩
        obtain ⟨y, hy⟩ : ∃ y, m[k]? = some y := ⟨_, List.getElem?_eq_getElem (by have := HLM.out; omega)⟩
        have lx := (HG.out.ok hx).c
        have ly := (HH.out.ok hy).c
        have tx := HG.out.ins hx
        have ty := HH.out.ins hy
        obtain ⟨⟨xk, xa, xb, xd, xi⟩, xA, xc⟩ := x
        obtain ⟨⟨yk, ya, yb, yd, yi⟩, yA, yc⟩ := y
        obtain ⟨b, o, rfl, hbl, hcl⟩ := HG.out.at_ hx
        obtain ⟨b', o', rfl, hbl', hcl'⟩ := HH.out.at_ hy
        obtain ⟨c0, c1, c2, c3, c4⟩ := hcl wr HB.out
        obtain ⟨d0, d1, d2, d3, d4⟩ := hcl' wr HB.out
        simp only at c0 c1 c2 c3 c4 d0 d1 d2 d3 d4 lx ly tx ty
        have q1 : b < wr.heap.size := Nat.lt_of_lt_of_le hbl HB.out.size
        have q2 : b' < wr.heap.size := Nat.lt_of_lt_of_le hbl' HB.out.size
        have hb2 := below2 wr (.cells #[.int .u8 (xk : Nat), .int .u8 (xa : Nat), .int .i64 xb, .int .i64 xd, .slice xA xi.length xc] 48) (.cells #[.int .u8 (yk : Nat), .int .u8 (ya : Nat), .int .i64 yb, .int .i64 yd, .slice yA yi.length yc] 48)
        have hbw := HB.out.trans (hb2.mono HB.out.size)
        have hcall := sameNode_any xk xa xb xd xi xA xc yk ya yb yd yi yA yc _ (tx.below hbw) (ty.below hbw) (Nat.le_trans lx.1 lx.2) (Nat.le_trans ly.1 ly.2)
        have HX := Lib.hid hx; have HY := Lib.hid hy; have HBW := Lib.hid hbw; clear hx hcl hy hcl' lx ly tx ty hb2 hbw
        cases hq : sameNd ⟨xk, xa, xb, xd, xi⟩ ⟨yk, ya, yb, yd, yi⟩ with
        | true =>
          rw [hq] at hcall
          have HC := Lib.hid hcall; have HQ := Lib.hid (sameNd_iff.1 hq); clear hcall hq
          go_wp2_with fail
          refine HC.out.mono ?_; rintro e w1 ⟨rfl, hb1⟩
          have HB1 := Lib.hid (HBW.out.trans (hb1.mono HBW.out.size)); clear hb1 c0 c1 c2 c3 c4 d0 d1 d2 d3 d4 q1 q2
          go_wp2_with fail
          go_roundw
          case rel =>
            refine ⟨k + 1, by omega, by simp, HB1.out, fun j x y hj hx hy => ?_⟩
            by_cases e : j = k
            · subst e
              rw [HX.out] at hx; rw [HY.out] at hy; cases hx; cases hy
              exact HQ.out
            · exact HA.out j x y (by omega) hx hy
          case measure => simp only [intOf]; omega
        | false =>
          rw [hq] at hcall
          have HC := Lib.hid hcall; have hne : Nd.mk xk xa xb xd xi ≠ Nd.mk yk ya yb yd yi := fun h => by rw [sameNd_iff.2 h] at hq; cases hq
          have HQ := Lib.hid hne; clear hcall hq hne
          go_wp2_with fail
          refine HC.out.mono ?_; rintro e w1 ⟨rfl, hb1⟩
          have HB1 := Lib.hid (HBW.out.trans (hb1.mono HBW.out.size)); clear hb1 c0 c1 c2 c3 c4 d0 d1 d2 d3 d4 q1 q2
          go_wp2_with fail
          go_ret
          exact ⟨retb (sameN_no fun e => HQ.out (nds_at e HX.out HY.out)), HB1.out⟩
      · have hltz : ¬ (k : Int) < (l.length : Int) := by omega
        have HE := Lib.hid (nds_all HLM.out fun j x y hj => HA.out j x y (by omega))
        go_wp2_with fail
        go_ret
        exact ⟨retb (sameN_yes HE.out), HB.out⟩
  · have hz : ((l.length : Int) != (m.length : Int)) = true := by simp; omega
    have HLM := Lib.hid hlm; clear hlm
    go_enter Try.func33, Try.ntmps33
    go_wp2_with fail
    go_ret
    exact ⟨retb (sameN_no fun e => HLM.out (by have := congrArg List.length e; simpa [nds] using this)), Below.refl _ _⟩
theorem flowSame_any (A B : Option Addr) (l m : List Gn) (c d : Nat) (w : World) (hG : Gr w A l) (hH : Gr w B m) (hl : l.length ≤ maxLen) (hm : m.length ≤ maxLen) :
    Calls Try.prog 21 #[.slice A l.length c, .slice B m.length d] w fun e w' => e = .returned (.bool (sameN (nds l) (nds m))) ∧ Below w.heap.size w w' := by
  have HC := Lib.hid (equalFunc_any A B l m c d w hG hH hl hm); clear hG hH hl hm
  generalize sameN (nds l) (nds m) = S at *
  go_enter Try.func21, Try.ntmps21
  go_wp2_with fail
  refine HC.out.mono ?_; rintro e w1 ⟨rfl, hb1⟩
  have HB1 := Lib.hid hb1; clear hb1
  go_wp2_with fail
  go_ret
  exact ⟨rfl, HB1.out⟩
end Go.Proofs.Ytmjbclinlojboaa
