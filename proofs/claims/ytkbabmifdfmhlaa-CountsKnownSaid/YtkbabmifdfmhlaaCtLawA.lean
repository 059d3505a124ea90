/- CtLawRises, CtLawOrder -/
import Derived.Test.YtkbabmifdfmhlaaCtComA
import Derived.Test.YtkbabmifdfmhlaaCtSum
namespace Go.Proofs.Ytkbabmifdfmhlaa
set_option linter.unusedVariables false
section
open Go.ChangeShapes Go.WideShapes Go.ChangeAt Go.RowKit Go.BigFrame Go.Shelf
set_option maxRecDepth 100000
namespace countsRises
/-- the frontier behind an addition is within the one ahead of it -/
theorem rises {L : Cn} {d n : Int} {t : St} (hk : CnOk L) (he : EvenC L d) (h : 0 < n → ¬ frC L = [] ∧ ¬ Inside (frC L) t) : Under (frC L) (frC (putC d L t n)) := by
  have hk2 : CnOk (putC d L t n) := by
    unfold putC; split
    · exact addC_ok hk
    · exact hk
  have he2 : EvenC (putC d L t n) d := by
    unfold putC; split
    · rename_i ho; exact he.add ho.1.1 ho.1.2
    · exact he
  refine ⟨⟨frC_fr he, frC_fr he2, fun x hx y hy => (mem_frC he hx).1.trans (mem_frC he2 hy).1.symm⟩, ?_⟩
  unfold putC
  split
  · rename_i ho
    refine frC_rises hk he ho.1.1 ho.1.2 fun hn => ?_
    have h1 := (h hn).2
    unfold Inside at h1
    by_cases hu : Up (frC L) t
    · exact hu
    · exfalso
      refine h1 ⟨⟨frC_fr he, fr_one ho.1.1, fun x hx y hy => ?_⟩, hu⟩
      rw [List.mem_singleton] at hy
      rw [hy, ho.1.2]; exact (mem_frC he hx).1
  · exact In_refl (frC_fr he)
/-- at a round's head of the first loop -/
def At1 (w : World) (b : Nat) (d : Int) (k : Nat) (wr : World) : Prop := ∃ m N L, N ≤ k ∧ Below w.heap.size w wr ∧ Ct wr w.heap.size b m N d L
/-- at a round's head of the second one -/
def At2 (w : World) (b : Nat) (d : Int) (k : Nat) (v : Value) (wr : World) : Prop := ∃ m N L, N ≤ 20 + k ∧ Below w.heap.size w wr ∧ Ct wr w.heap.size b m N d L ∧ wr.ownsRow w.heap.size 25 5 v (frC L).length (rowS (frC L))
set_option maxHeartbeats 16000000 in
theorem walk (d : Int) (A : Option Addr) (f : List St) (ca : Nat) (B : Option Addr) (l : Cn) (cb : Nat) (w : World) (hA : Slc w A ca f) (hB : Ps w B l) (hW : ∀ p ∈ l, p.1.W ∧ Fits p.2) (hcb : l.length ≤ cb) (hcm : cb ≤ maxLen) :
    Calls Try.prog 5 #[.int .i64 d, .slice A f.length ca, .slice B l.length cb] w fun e w' => e = .returned (.bool true) ∧ Below w.heap.size w w' := by
  have WW := Lib.hid works7_any
  by_cases hd : d < 0 ∨ 3 < d
  · have HN := Lib.hid (new_no d w hd); clear hd hA hB hW
    go_enter Try.func5, Try.ntmps5
    go_wp2_with fail
    refine (HN.out).mono ?_; rintro e w1 ⟨rfl, rfl⟩
    go_wp2_with fail
    refine (WW.out _).mono ?_; rintro e we ⟨rfl, hbe⟩
    go_wp2_with fail
    go_ret
    exact ⟨rfl, hbe⟩
  have hd1 : 0 ≤ d ∧ d ≤ 3 := by omega
  have HN := Lib.hid (new_yes d w hd1.1 hd1.2)
  clear hd
  by_cases hl : 60 < l.length
  · have dl : decide ((l.length : Int) > 60) = true := decide_eq_true (by omega)
    clear hd1 hA hB hW
    go_enter Try.func5, Try.ntmps5
    go_wp2_with fail
    refine (HN.out).mono ?_; rintro e w1 ⟨rfl, hc1, hb1⟩
    have HB1 := Lib.hid hb1; clear hc1 hb1
    go_wp2_with fail
    refine (WW.out _).mono ?_; rintro e we ⟨rfl, hbe⟩
    go_wp2_with fail
    go_ret
    exact ⟨rfl, HB1.out.trans (hbe.mono HB1.out.size)⟩
  have dl : decide ((l.length : Int) > 60) = false := decide_eq_false (by omega)
  by_cases hf : 20 < f.length
  · have df : decide ((f.length : Int) > 20) = true := decide_eq_true (by omega)
    clear hd1 hA hB hW
    go_enter Try.func5, Try.ntmps5
    go_wp2_with fail
    refine (HN.out).mono ?_; rintro e w1 ⟨rfl, hc1, hb1⟩
    have HB1 := Lib.hid hb1; clear hc1 hb1
    go_wp2_with fail
    refine (WW.out _).mono ?_; rintro e we ⟨rfl, hbe⟩
    go_wp2_with fail
    go_ret
    exact ⟨rfl, HB1.out.trans (hbe.mono HB1.out.size)⟩
  have df : decide ((f.length : Int) > 20) = false := decide_eq_false (by omega)
  have HL := Lib.hid (Nat.not_lt.1 hl); have HF := Lib.hid (Nat.not_lt.1 hf); have HA := Lib.hid hA; have HB := Lib.hid hB; have HW := Lib.hid hW
  clear hl hf hA hB hW hd1
  go_enter Try.func5, Try.ntmps5
  go_wp2_with fail
  refine (HN.out).mono ?_; rintro e w1 ⟨rfl, hc1, hb1⟩
  obtain ⟨b, hbd⟩ : ∃ b, w.heap.size = b := ⟨_, rfl⟩
  have H1 := Lib.hid (show At1 w b d 0 w1 from ⟨none, 0, [], Nat.le_refl _, hb1, by rw [← hbd]; exact hc1⟩)
  rw [hbd]
  clear hc1 hb1 hbd HN
  go_wp2_with fail
  go_loopw [8] (fun i wr => ∃ k : Nat, k ≤ f.length ∧ i = .int .i64 k ∧ At1 w b d k wr) (fun i _ => f.length - (intOf i).toNat)
  case atStart => exact ⟨0, by omega, rfl, H1.out⟩
  case round =>
    obtain ⟨k, hk, rfl, m, N, L, hN, hbw, hc⟩ := hrel
    clear H1
    have hfn := HF.out
    by_cases hlt : k < f.length
    · have hltz : (k : Int) < (f.length : Int) := by omega
      obtain ⟨t, ht⟩ : ∃ t, f[k]? = some t := ⟨_, List.getElem?_eq_getElem hlt⟩
      obtain ⟨bb, o, rfl, hbl, h5⟩ := HA.out.ts.five ht
      obtain ⟨c0, c1, c2, c3, c4⟩ := h5 wr hbw
      have kk := add_any hc (by have := HF.out; unfold maxLen; omega) t 1
      have KK := Lib.hid kk; have HC := Lib.hid (And.intro hc hbw); clear kk hc hbw h5 ht hbl
      unfold St.val at KK
      go_wp2_with fail
      refine (KK.out).mono ?_; rintro e w2 ⟨rfl, m', hc2, htc, -⟩
      have H2 := Lib.hid (show At1 w b d (k + 1) w2 from ⟨m', N + 1, _, by omega, HC.out.1.out HC.out.2 htc, hc2⟩)
      clear hc2 htc KK c0 c1 c2 c3 c4
      go_wp2_with fail
      go_roundw
      case rel => exact ⟨k + 1, by omega, by simp, H2.out⟩
      case measure => simp only [intOf]; omega
    · have hltz : ¬ (k : Int) < (f.length : Int) := by omega
      have hl20 : L.length ≤ 20 := by have := hc.len; have := HF.out; omega
      have kk := frontier_any hc (by omega)
      have KK := Lib.hid kk; have HC := Lib.hid (And.intro hc hbw); clear kk hc hbw
      go_wp2_with fail
      refine (KK.out).mono ?_; rintro e w2 ⟨⟨v, rfl, hv⟩, hb2⟩
      have H2 := Lib.hid (show At2 w b d 0 v w2 from ⟨m, N, L, by have := HF.out; omega, HC.out.2.trans (hb2.mono HC.out.2.size), HC.out.1.below hb2, own_base hv HC.out.2.size⟩)
      clear hv hb2 KK HC hl20 hltz hN hk hlt
      dsimp only
      go_wp2_with fail
      go_loopw [9, 10] (fun v i wr => ∃ k : Nat, k ≤ l.length ∧ i = .int .i64 k ∧ At2 w b d k v wr) (fun _ i _ => l.length - (intOf i).toNat)
      case atStart => exact ⟨0, by omega, rfl, H2.out⟩
      case round =>
        obtain ⟨k, hk, rfl, m, N, L, hN, hbw, hc, hv⟩ := hrel
        clear H2
        by_cases hlt : k < l.length
        · have hltz : (k : Int) < (l.length : Int) := by omega
          have hln := HL.out
          obtain ⟨⟨t, n⟩, hp⟩ : ∃ p, l[k]? = some p := ⟨_, List.getElem?_eq_getElem hlt⟩
          have hpw := HW.out _ (List.mem_of_getElem? hp)
          obtain ⟨bb, o, rfl, hbl, h6⟩ := HB.out.six hp
          obtain ⟨A9, c9, rfl, hs9⟩ := Slc.of_own hv
          have hl9 : (frC L).length ≤ 1000 := Nat.le_trans (frC_len _) (Nat.le_trans hc.len (by omega))
          dsimp only at h6 hpw
          have hcells := h6 wr hbw
          have HPW := Lib.hid hpw; have H6 := Lib.hid h6; have HV := Lib.hid hv; have HC := Lib.hid hc; have HBW := Lib.hid hbw; have HS9 := Lib.hid (And.intro hs9 hl9)
          clear hpw h6 hv hc hbw hs9 hl9 hp hbl
          by_cases hn : 0 < n
          · by_cases hz : frC L = []
            · have hz' : ((((frC L).length : Nat) : Int) == 0) = true := by rw [hz]; rfl
              have HQ := Lib.hid (Below.refl wr.heap.size wr)
              have HST := Lib.hid (show At2 w b d (k + 1) (.slice A9 (frC L).length c9) wr from ⟨m, N, L, by omega, HBW.out.trans (HQ.out.mono HBW.out.size), HC.out.below HQ.out, own_kept HV.out HQ.out⟩)
              clear hz
              obtain ⟨c0, c1, c2, c3, c4, c5⟩ := hcells
              go_wp2_with fail
              go_roundw
              case rel => exact ⟨k + 1, by omega, by simp, HST.out⟩
              case measure => simp only [intOf]; omega
            · have hz' : ((((frC L).length : Nat) : Int) == 0) = false := by
                rw [beq_eq_false_iff_ne]
                intro e
                exact hz (List.eq_nil_of_length_eq_zero (by omega))
              have HZ := Lib.hid hz; clear hz
              by_cases hin : Inside (frC L) t
              · have kk := holdsW (t := t) HS9.out.1 HS9.out.2 (decide_eq_true hin)
                have KH := Lib.hid kk; clear kk hin
                unfold St.val at KH
                obtain ⟨c0, c1, c2, c3, c4, c5⟩ := hcells
                go_wp2_with fail
                refine (KH.out _ (Below.refl _ _)).mono ?_; rintro e w2 ⟨rfl, hb2⟩
                have HQ := Lib.hid hb2; clear hb2 c0 c1 c2 c3 c4 c5
                have HST := Lib.hid (show At2 w b d (k + 1) (.slice A9 (frC L).length c9) w2 from ⟨m, N, L, by omega, HBW.out.trans (HQ.out.mono HBW.out.size), HC.out.below HQ.out, own_kept HV.out HQ.out⟩)
                go_wp2_with fail
                go_roundw
                case rel => exact ⟨k + 1, by omega, by simp, HST.out⟩
                case measure => simp only [intOf]; omega
              · have kk := holdsW (t := t) HS9.out.1 HS9.out.2 (decide_eq_false hin)
                have KH := Lib.hid kk; have HIN := Lib.hid (fun _ : 0 < n => And.intro HZ.out hin); clear kk hin
                unfold St.val at KH
                have KC := Lib.hid (fun w' (hw : Below wr.heap.size wr w') => count_any (HC.out.below hw) t HPW.out.1)
                unfold St.val at KC
                obtain ⟨c0, c1, c2, c3, c4, c5⟩ := hcells
                go_wp2_with fail
                refine (KH.out _ (Below.refl _ _)).mono ?_; rintro e w2 ⟨rfl, hb2⟩
                have HQ2 := Lib.hid hb2; clear hb2 c0 c1 c2 c3 c4 c5
                obtain ⟨c0, c1, c2, c3, c4, c5⟩ := H6.out w2 (HBW.out.trans (HQ2.out.mono HBW.out.size))
                go_wp2_with fail
                refine (KC.out _ HQ2.out).mono ?_; rintro e w3 ⟨rfl, hb3⟩
                have HQ := Lib.hid (HQ2.out.trans (hb3.mono HQ2.out.size)); clear hb3 c0 c1 c2 c3 c4 c5
                by_cases hneg : cnt L t < 0
                · have HST := Lib.hid (show At2 w b d (k + 1) (.slice A9 (frC L).length c9) w3 from ⟨m, N, L, by omega, HBW.out.trans (HQ.out.mono HBW.out.size), HC.out.below HQ.out, own_kept HV.out HQ.out⟩)
                  go_wp2_with fail
                  go_roundw
                  case rel => exact ⟨k + 1, by omega, by simp, HST.out⟩
                  case measure => simp only [intOf]; omega
                · go_wp2_with fail
                  obtain ⟨W3, hW3⟩ : ∃ W3, w3.drewN 1 = W3 := ⟨_, rfl⟩
                  have hq3 : Below wr.heap.size wr W3 := by rw [← hW3]; exact below_drewN HQ.out 1
                  have hb3 := HBW.out.trans (hq3.mono HBW.out.size)
                  obtain ⟨c0, c1, c2, c3, c4, c5⟩ := H6.out W3 hb3
                  have kk := add_any (HC.out.below hq3) (by unfold maxLen; omega) t n
                  have KK := Lib.hid kk; have HQ3 := Lib.hid hq3; have HB3 := Lib.hid hb3; clear kk hq3 hb3
                  unfold St.val at KK
                  refine wp_tail 11 (by kernel_rfl) (by kernel_rfl) ?_
                  rw [hW3]
                  clear hW3
                  simp only [List.take_succ_cons, List.take_zero, List.drop_succ_cons, List.drop_zero]
                  repeat still_step
                  refine wpStill_nil ?_
                  go_wp2_with fail
                  refine (KK.out).mono ?_; rintro e w4 ⟨rfl, m', hc4, htc, -⟩
                  clear c0 c1 c2 c3 c4 c5
                  have hun := rises (L := L) (d := d) (n := n) (t := t) HC.out.ok HC.out.even HIN.out
                  have hb4 := (HC.out.below HQ3.out).out HB3.out htc
                  have hv4 := (HC.out.below HQ3.out).own (own_kept HV.out HQ3.out) htc
                  have hl4 : (putC d L t n).length ≤ 1000 := Nat.le_trans hc4.len (by omega)
                  obtain ⟨L4, hL4⟩ : ∃ L4, putC d L t n = L4 := ⟨_, rfl⟩
                  rw [hL4] at hc4 hun hl4
                  clear hL4
                  have kk := frontier_any hc4 hl4
                  have KF := Lib.hid kk; have HC4 := Lib.hid hc4; have HB4 := Lib.hid hb4; have HV4 := Lib.hid hv4; have HUN := Lib.hid hun; have HL4 := Lib.hid hl4
                  clear kk hc4 hb4 hv4 hun hl4 htc KK
                  go_wp2_with fail
                  refine (KF.out).mono ?_; rintro e w5 ⟨⟨v5, rfl, hv5⟩, hb5⟩
                  obtain ⟨A5, k5, rfl, hs5⟩ := Slc.of_own hv5
                  have hl5 : (frC L4).length ≤ 1000 := Nat.le_trans (frC_len _) HL4.out
                  have hl9 : (frC L).length ≤ 1000 := Nat.le_trans (frC_len _) (Nat.le_trans HC.out.len (by omega))
                  have hb9 := HB4.out.trans (hb5.mono HB4.out.size)
                  obtain ⟨A6, k6, e6, hs6⟩ := Slc.of_own (own_kept HV4.out hb5)
                  injection e6 with e61 e62 e63
                  subst e61; subst e63
                  have hri := rightW hs5 hl5 (decide_eq_true (frC_fr HC4.out.even))
                  have hwi := withinW hs6 hs5 hl9 hl5 (decide_eq_true HUN.out)
                  have HRI := Lib.hid hri; have HWI := Lib.hid hwi; have HV5 := Lib.hid hv5; have HB9 := Lib.hid hb9; have HC5 := Lib.hid (HC4.out.below hb5)
                  clear hri hwi hs5 hs6 hv5 hb5 hb9 hl5 hl9 e62 KF
                  dsimp only
                  go_wp2_with fail
                  refine (HRI.out _ (Below.refl _ _)).mono ?_; rintro e w6 ⟨rfl, hb6⟩
                  have HB6 := Lib.hid hb6; clear hb6
                  go_wp2_with fail
                  refine (HWI.out _ HB6.out).mono ?_; rintro e w7 ⟨rfl, hb7⟩
                  have HB7 := Lib.hid (HB6.out.trans (hb7.mono HB6.out.size)); clear hb7
                  have HFIN := Lib.hid (show At2 w b d (k + 1) (.slice A5 (frC L4).length k5) w7 from ⟨m', N + 1, L4, by omega, HB9.out.trans (HB7.out.mono HB9.out.size), HC5.out.below HB7.out, own_kept (own_base HV5.out HB4.out.size) HB7.out⟩)
                  go_wp2_with fail
                  go_roundw
                  case rel => exact ⟨k + 1, by omega, by simp, HFIN.out⟩
                  case measure => simp only [intOf]; omega
          · have HIN := Lib.hid (fun h : 0 < n => (absurd h hn : ¬ frC L = [] ∧ ¬ Inside (frC L) t))
            have HQ := Lib.hid (Below.refl wr.heap.size wr)
            obtain ⟨c0, c1, c2, c3, c4, c5⟩ := hcells
            go_wp2_with fail
            clear c0 c1 c2 c3 c4 c5
            obtain ⟨W3, hW3⟩ : ∃ W3, wr.drewN 1 = W3 := ⟨_, rfl⟩
            have hq3 : Below wr.heap.size wr W3 := by rw [← hW3]; exact below_drewN HQ.out 1
            have hb3 := HBW.out.trans (hq3.mono HBW.out.size)
            obtain ⟨c0, c1, c2, c3, c4, c5⟩ := H6.out W3 hb3
            have kk := add_any (HC.out.below hq3) (by unfold maxLen; omega) t n
            have KK := Lib.hid kk; have HQ3 := Lib.hid hq3; have HB3 := Lib.hid hb3; clear kk hq3 hb3
            unfold St.val at KK
            refine wp_tail 11 (by kernel_rfl) (by kernel_rfl) ?_
            rw [hW3]
            clear hW3
            simp only [List.take_succ_cons, List.take_zero, List.drop_succ_cons, List.drop_zero]
            repeat still_step
            refine wpStill_nil ?_
            go_wp2_with fail
            refine (KK.out).mono ?_; rintro e w4 ⟨rfl, m', hc4, htc, -⟩
            clear c0 c1 c2 c3 c4 c5
            have hun := rises (L := L) (d := d) (n := n) (t := t) HC.out.ok HC.out.even HIN.out
            have hb4 := (HC.out.below HQ3.out).out HB3.out htc
            have hv4 := (HC.out.below HQ3.out).own (own_kept HV.out HQ3.out) htc
            have hl4 : (putC d L t n).length ≤ 1000 := Nat.le_trans hc4.len (by omega)
            obtain ⟨L4, hL4⟩ : ∃ L4, putC d L t n = L4 := ⟨_, rfl⟩
            rw [hL4] at hc4 hun hl4
            clear hL4
            have kk := frontier_any hc4 hl4
            have KF := Lib.hid kk; have HC4 := Lib.hid hc4; have HB4 := Lib.hid hb4; have HV4 := Lib.hid hv4; have HUN := Lib.hid hun; have HL4 := Lib.hid hl4
            clear kk hc4 hb4 hv4 hun hl4 htc KK
            go_wp2_with fail
            refine (KF.out).mono ?_; rintro e w5 ⟨⟨v5, rfl, hv5⟩, hb5⟩
            obtain ⟨A5, k5, rfl, hs5⟩ := Slc.of_own hv5
            have hl5 : (frC L4).length ≤ 1000 := Nat.le_trans (frC_len _) HL4.out
            have hl9 : (frC L).length ≤ 1000 := Nat.le_trans (frC_len _) (Nat.le_trans HC.out.len (by omega))
            have hb9 := HB4.out.trans (hb5.mono HB4.out.size)
            obtain ⟨A6, k6, e6, hs6⟩ := Slc.of_own (own_kept HV4.out hb5)
            injection e6 with e61 e62 e63
            subst e61; subst e63
            have hri := rightW hs5 hl5 (decide_eq_true (frC_fr HC4.out.even))
            have hwi := withinW hs6 hs5 hl9 hl5 (decide_eq_true HUN.out)
            have HRI := Lib.hid hri; have HWI := Lib.hid hwi; have HV5 := Lib.hid hv5; have HB9 := Lib.hid hb9; have HC5 := Lib.hid (HC4.out.below hb5)
            clear hri hwi hs5 hs6 hv5 hb5 hb9 hl5 hl9 e62 KF
            dsimp only
            go_wp2_with fail
            refine (HRI.out _ (Below.refl _ _)).mono ?_; rintro e w6 ⟨rfl, hb6⟩
            have HB6 := Lib.hid hb6; clear hb6
            go_wp2_with fail
            refine (HWI.out _ HB6.out).mono ?_; rintro e w7 ⟨rfl, hb7⟩
            have HB7 := Lib.hid (HB6.out.trans (hb7.mono HB6.out.size)); clear hb7
            have HFIN := Lib.hid (show At2 w b d (k + 1) (.slice A5 (frC L4).length k5) w7 from ⟨m', N + 1, L4, by omega, HB9.out.trans (HB7.out.mono HB9.out.size), HC5.out.below HB7.out, own_kept (own_base HV5.out HB4.out.size) HB7.out⟩)
            go_wp2_with fail
            go_roundw
            case rel => exact ⟨k + 1, by omega, by simp, HFIN.out⟩
            case measure => simp only [intOf]; omega
        · have hltz : ¬ (k : Int) < (l.length : Int) := by omega
          have HBW := Lib.hid hbw; clear hbw hc hv
          go_wp2_with fail
          refine (WW.out _).mono ?_; rintro e we ⟨rfl, hbe⟩
          go_wp2_with fail
          go_ret
          exact ⟨rfl, HBW.out.trans (hbe.mono HBW.out.size)⟩

set_option maxRecDepth 100000 in
theorem lifted (os : Os) (started : os.Started) (H : Type) (enc : TypeId × Value → H) :
    ReturnsInHanded {} Try.checked os 5 .any (Rows.countsRisesSpec.pre6 enc Try.prog Try.f5 Rows.countsRisesRow.domain false) (Rows.countsRisesSpec.post enc Try.prog Try.f5 false true false false) := by
  refine returnsInHanded_of_change_sized (C := Try.checked) ownKnob_none started (by kernel_rfl) Try.func5
    (ChangeSpec.witness6 (enc := enc) (C := Try.checked) false ⟨#[], #[.int .i64 0, .slice none 0 0, .slice none 0 0], []⟩ 8 (by kernel_rfl) (by kernel_rfl) (by kernel_rfl) (by kernel_rfl)) ?_
  intro W base args ds gs before hval0 hW hcnd hsz0 _
  have hval : ∀ (j : Nat) t v, Try.f5.params[j]? = some t → args[j]? = some v → Value.okWide Try.prog W .any base t v := hval0
  have hW' := hW
  obtain ⟨p, q, hA0, hV, rfl, hfz, hnd⟩ := hW
  have hA : DataW.TrodAll enc Try.prog W 0 (fun _ => true) true Try.f5.params.toList args.toList ds p := hA0
  have hsz : (DataW.weightsEach Try.prog (Try.f5.params.toList ++ Rows.countsRisesSpec.plain.varTypes Try.prog) (ds ++ gs)).all (· ≤ reachBytes) = true := hsz0
  rw [Try.params5] at hA hval hsz
  obtain ⟨v0, vs0, d0, ds0, p0, q0, hargs, rfl, rfl, h0, r0⟩ := trodAll_cons hA
  obtain ⟨v1, vs1, d1, ds1, p1, q1, rfl, rfl, rfl, h1, r1⟩ := trodAll_cons r0
  obtain ⟨v2, vs2, d2, ds2, p2, q2, rfl, rfl, rfl, h2, r2⟩ := trodAll_cons r1
  obtain ⟨rfl, rfl, rfl⟩ := trodAll_nil r2
  obtain rfl : args = #[v0, v1, v2] := by cases args; simp_all
  obtain ⟨rfl, rfl⟩ := trodVars_none hV
  obtain ⟨a0, rfl, rfl, rfl, w0⟩ := open_int Try.underlying3 (hval 0 3 v0 rfl rfl) h0
  have b0 := i64_wf w0
  obtain ⟨A1, l1, c1, rfl, hT1, hc1, hm1, hn1⟩ := open_times (hval 1 40 v1 rfl rfl) h1
  obtain ⟨A2, l2, c2, rfl, hP2, hW2, hc2, hm2⟩ := open_steps (hval 2 22 v2 rfl rfl) h2
  clear hA0 hval0 hsz0
  refine (walk a0 A1 l1 c1 A2 l2 c2 W ⟨hT1, hc1, hm1, hn1⟩ hP2 hW2 hc2 hm2).mono fun e W' ⟨he, hg⟩ => ?_
  subst he
  exact ⟨_, rfl, law_post progLaid hW' rfl (by rw [Try.params5]; intro t ht; simp at ht; rcases ht with rfl | rfl | rfl <;> exact ⟨by kernel_rfl, of_decide_eq_true (by kernel_rfl)⟩) rfl Try.underlying4 rfl hg⟩

theorem over : Rows.countsRisesRow.holds Try.pinned (OpenSpec.ofChange Rows.countsRisesSpec) :=
  OpenClaim.holds_of_wide 5 Try.f5 rfl rfl rfl rfl rfl rfl rfl ⟨rfl, rfl, rfl, rfl, rfl⟩ rfl rfl rfl rfl rfl (by kernel_rfl) Try.func5 (by kernel_rfl)
    (of_decide_eq_true (by kernel_rfl)) (by unfold Func.isWrapper; first | (rw [if_pos (by decide +kernel)]; kernel_rfl) | (rw [if_neg (by decide +kernel)]; exact ⟨rfl, rfl⟩))
    (fun os started H enc _ => lifted os started H enc)

/-- The statement. -/
theorem proved : Rows.CountsRisesSaid :=
  over
end countsRises
end

section
open Go.ChangeShapes Go.WideShapes Go.ChangeAt Go.RowKit Go.BigFrame Go.Shelf
set_option maxRecDepth 100000
theorem row6 {w : World} {g : Nat} {t : St} {n : Int} {T : TypeId} (h : Row w g T (stepCells (t, n))) : w.cell? ⟨g, 0, none⟩ = some (.int .i64 t.d) ∧ w.cell? ⟨g, 1, none⟩ = some (.int .i64 t.e) ∧ w.cell? ⟨g, 2, none⟩ = some (.int .i64 t.x) ∧ w.cell? ⟨g, 3, none⟩ = some (.int .i64 t.y) ∧ w.cell? ⟨g, 4, none⟩ = some (.int .i64 t.z) ∧ w.cell? ⟨g, 5, none⟩ = some (.int .i64 n) :=
  ⟨h.cell 0, h.cell 1, h.cell 2, h.cell 3, h.cell 4, h.cell 5⟩
namespace countsOrder
/-- what holds at a round's head -/
def At1 (w : World) (b1 b2 : Nat) (d : Int) (P Q : Cn) (k : Nat) (wr : World) : Prop := ∃ m1 m2 N1 N2, N1 ≤ k ∧ N2 ≤ k ∧ Below w.heap.size w wr ∧ Ct wr w.heap.size b1 m1 N1 d (allC d (P.take k)) ∧ Ct wr w.heap.size b2 m2 N2 d (allC d (Q.take k)) ∧ Apart b1 m1 b2 m2
set_option maxHeartbeats 16000000 in
theorem walk (d : Int) (B : Option Addr) (l : Cn) (cb T : Nat) (w : World) (hB : Ps w B l) (hcb : l.length ≤ cb) (hcm : cb ≤ maxLen) (hT : T ≤ 255) :
    Calls Try.prog 4 #[.int .i64 d, .slice B l.length cb, .int .u8 (T : Nat)] w fun e w' => e = .returned (.bool true) ∧ Below w.heap.size w w' := by
  have WW := Lib.hid works7_any
  by_cases hd : d < 0 ∨ 3 < d
  · have HN := Lib.hid (fun w => new_no d w hd); clear hd hB
    go_enter Try.func4, Try.ntmps4
    go_wp2_with fail
    refine (HN.out _).mono ?_; rintro e w1 ⟨rfl, rfl⟩
    go_wp2_with fail
    refine (HN.out _).mono ?_; rintro e w1 ⟨rfl, rfl⟩
    go_wp2_with fail
    refine (WW.out _).mono ?_; rintro e we ⟨rfl, hbe⟩
    go_wp2_with fail
    go_ret
    exact ⟨rfl, hbe⟩
  have hd1 : 0 ≤ d ∧ d ≤ 3 := by omega
  have HN := Lib.hid (fun w => new_yes d w hd1.1 hd1.2)
  clear hd
  by_cases hl : 60 < l.length
  · have dl : decide ((l.length : Int) > 60) = true := decide_eq_true (by omega)
    clear hd1 hB
    go_enter Try.func4, Try.ntmps4
    go_wp2_with fail
    refine (HN.out _).mono ?_; rintro e w1 ⟨rfl, -, hb1⟩
    have HB1 := Lib.hid hb1; clear hb1
    go_wp2_with fail
    refine (HN.out _).mono ?_; rintro e w2 ⟨rfl, -, hb2⟩
    have HB2 := Lib.hid (HB1.out.trans (hb2.mono HB1.out.size)); clear hb2
    go_wp2_with fail
    refine (WW.out _).mono ?_; rintro e we ⟨rfl, hbe⟩
    go_wp2_with fail
    go_ret
    exact ⟨rfl, HB2.out.trans (hbe.mono HB2.out.size)⟩
  have dl : decide ((l.length : Int) > 60) = false := decide_eq_false (by omega)
  by_cases hz : l.length = 0
  · have dz : ((l.length : Int) == 0) = true := by rw [hz]; rfl
    clear hd1 hB hz
    go_enter Try.func4, Try.ntmps4
    go_wp2_with fail
    refine (HN.out _).mono ?_; rintro e w1 ⟨rfl, -, hb1⟩
    have HB1 := Lib.hid hb1; clear hb1
    go_wp2_with fail
    refine (HN.out _).mono ?_; rintro e w2 ⟨rfl, -, hb2⟩
    have HB2 := Lib.hid (HB1.out.trans (hb2.mono HB1.out.size)); clear hb2
    go_wp2_with fail
    refine (WW.out _).mono ?_; rintro e we ⟨rfl, hbe⟩
    go_wp2_with fail
    go_ret
    exact ⟨rfl, HB2.out.trans (hbe.mono HB2.out.size)⟩
  have dz : ((l.length : Int) == 0) = false := by rw [beq_eq_false_iff_ne]; omega
  have HZ := Lib.hid (Nat.pos_of_ne_zero hz)
  have HL := Lib.hid (Nat.not_lt.1 hl); have HB := Lib.hid hB
  clear hl hB hd1 hz
  go_enter Try.func4, Try.ntmps4
  go_wp2_with fail
  refine (HN.out _).mono ?_; rintro e w1 ⟨rfl, hc1, hb1⟩
  have HC1 := Lib.hid (And.intro hc1 hb1); clear hc1 hb1
  go_wp2_with fail
  refine (HN.out _).mono ?_; rintro e w2 ⟨rfl, hc2, hb2⟩
  obtain ⟨P, hP⟩ : ∃ P, modC l = P := ⟨_, rfl⟩
  obtain ⟨Q, hQ⟩ : ∃ Q, modC (turnC l (T % l.length)) = Q := ⟨_, rfl⟩
  have hst : At1 w w.heap.size w1.heap.size d P Q 0 w2 := by
    have hlt := HC1.out.1.lt
    exact ⟨none, none, 0, 0, Nat.le_refl _, Nat.le_refl _, HC1.out.2.trans (hb2.mono HC1.out.2.size), HC1.out.1.below hb2, ⟨hc2.row, hc2.of, ⟨HC1.out.2.size, by simp⟩, hc2.ok, hc2.even⟩, ⟨by omega, by simp⟩⟩
  obtain ⟨b1, hb1⟩ : ∃ b1, w.heap.size = b1 := ⟨_, rfl⟩
  obtain ⟨b2, hb2'⟩ : ∃ b2, w1.heap.size = b2 := ⟨_, rfl⟩
  have H1 := Lib.hid (show At1 w b1 b2 d P Q 0 w2 by rw [← hb1, ← hb2']; exact hst)
  rw [hb1, hb2']
  have HP := Lib.hid hP; have HQ := Lib.hid hQ
  clear hst hb1 hb2' hc2 hb2 HC1 HN hP hQ
  go_wp2_with fail
  go_loopw [9] (fun i wr => ∃ k : Nat, k ≤ l.length ∧ i = .int .i64 k ∧ At1 w b1 b2 d P Q k wr) (fun i _ => l.length - (intOf i).toNat)
  case atStart => exact ⟨0, by omega, rfl, H1.out⟩
  case round =>
    obtain ⟨k, hk, rfl, m1, m2, N1, N2, hN1, hN2, hbw, hc1, hc2, hap⟩ := hrel
    clear H1
    have hln := HL.out
    by_cases hlt : k < l.length
    · have hltz : (k : Int) < (l.length : Int) := by omega
      obtain ⟨j, hj⟩ : ∃ j, (k + T) % l.length = j := ⟨_, rfl⟩
      have hjl : j < l.length := by rw [← hj]; exact Nat.mod_lt _ (by omega)
      have hj1 : ((k : Int) + (T : Int)).tmod (l.length : Int) = (j : Int) := by
        rw [← hj, Int.tmod_eq_emod_of_nonneg (by omega)]; simp
      have hj2 : ((k : Int) + (T : Int)) % (l.length : Int) = (j : Int) := by
        rw [← hj]; simp
      obtain ⟨⟨t, n⟩, hp⟩ : ∃ p, l[k]? = some p := ⟨_, List.getElem?_eq_getElem hlt⟩
      obtain ⟨⟨t', n'⟩, hp'⟩ : ∃ p, l[j]? = some p := ⟨_, List.getElem?_eq_getElem hjl⟩
      obtain ⟨bb, o, rfl, hbl, h6⟩ := HB.out.six hp
      obtain ⟨bb', o', e', hbl', h6'⟩ := HB.out.six hp'
      injection e' with e'; injection e' with e1 e2
      subst e1; subst e2
      dsimp only at h6 h6'
      obtain ⟨c0, c1, c2, c3, c4, c5⟩ := h6 wr hbw
      obtain ⟨e0, e1, e2, e3, e4, e5⟩ := h6' wr hbw
      have hblw : bb < wr.heap.size := by have := hbw.size; omega
      have HC1 := Lib.hid hc1; have HC2 := Lib.hid hc2; have HBW := Lib.hid hbw; have HAP := Lib.hid hap; have HPP := Lib.hid (And.intro hp (And.intro hp' hj)); have HBL := Lib.hid hbl
      clear hc1 hc2 hbw hap hp hp' hj h6 h6' hbl hbl'
      go_upto_region 9 with fail
      have hra : Row ((wr.alloc (.cells #[.int .i64 t.d, .int .i64 t.e, .int .i64 t.x, .int .i64 t.y, .int .i64 t.z, .int .i64 n] 36)).alloc (.cells #[.int .i64 t'.d, .int .i64 t'.e, .int .i64 t'.x, .int .i64 t'.y, .int .i64 t'.z, .int .i64 n'] 36)) wr.heap.size 36 (stepCells (t, n)) := Row.alloc (Row.made wr _ _) _
      have hrb : Row ((wr.alloc (.cells #[.int .i64 t.d, .int .i64 t.e, .int .i64 t.x, .int .i64 t.y, .int .i64 t.z, .int .i64 n] 36)).alloc (.cells #[.int .i64 t'.d, .int .i64 t'.e, .int .i64 t'.x, .int .i64 t'.y, .int .i64 t'.z, .int .i64 n'] 36)) (wr.heap.size + 1) 36 (stepCells (t', n')) := by
        have h := Row.made (wr.alloc (.cells #[.int .i64 t.d, .int .i64 t.e, .int .i64 t.x, .int .i64 t.y, .int .i64 t.z, .int .i64 n] 36)) 36 (stepCells (t', n'))
        rw [size_alloc] at h; exact h
      have hbv : Below wr.heap.size wr ((wr.alloc (.cells #[.int .i64 t.d, .int .i64 t.e, .int .i64 t.x, .int .i64 t.y, .int .i64 t.z, .int .i64 n] 36)).alloc (.cells #[.int .i64 t'.d, .int .i64 t'.e, .int .i64 t'.x, .int .i64 t'.y, .int .i64 t'.z, .int .i64 n'] 36)) := ((Below.refl _ _).alloc (Nat.le_refl _) _).alloc (by simp) _
      obtain ⟨V, hV⟩ : ∃ V, (wr.alloc (.cells #[.int .i64 t.d, .int .i64 t.e, .int .i64 t.x, .int .i64 t.y, .int .i64 t.z, .int .i64 n] 36)).alloc (.cells #[.int .i64 t'.d, .int .i64 t'.e, .int .i64 t'.x, .int .i64 t'.y, .int .i64 t'.z, .int .i64 n'] 36) = V := ⟨_, rfl⟩
      rw [hV] at hra hrb hbv ⊢
      have hc1 := HC1.out.below hbv
      have hc2 := HC2.out.below hbv
      have hbw := HBW.out.trans (hbv.mono HBW.out.size)
      obtain ⟨ga, hga⟩ : ∃ ga, wr.heap.size = ga := ⟨_, rfl⟩
      obtain ⟨gb, hgb⟩ : ∃ gb, wr.heap.size + 1 = gb := ⟨_, rfl⟩
      rw [hgb] at hrb ⊢
      rw [hga] at hra ⊢
      clear HC1 HC2 HBW hbv hV hga hgb hj1 hj2 hblw c0 c1 c2 c3 c4 c5 e0 e1 e2 e3 e4 e5
      have HRA := Lib.hid hra; have HRB := Lib.hid hrb; have HC1 := Lib.hid hc1; have HC2 := Lib.hid hc2; have HBW := Lib.hid hbw
      clear hra hrb hc1 hc2 hbw
      have htp : P.take (k + 1) = P.take k ++ [(t, n.tmod 1000)] := take_snoc (by rw [← HP.out]; exact mod_at HPP.out.1)
      have htq : Q.take (k + 1) = Q.take k ++ [(t', n'.tmod 1000)] := take_snoc (by rw [← HQ.out]; exact mod_at ((turn_at' hlt).trans (by rw [HPP.out.2.2]; exact HPP.out.2.1)))
      have hbp : ∀ p ∈ P, -999 ≤ p.2 ∧ p.2 ≤ 999 := by rw [← HP.out]; exact mod_bound
      have hbq : ∀ p ∈ Q, -999 ≤ p.2 ∧ p.2 ≤ 999 := by rw [← HQ.out]; exact mod_bound
      have HTP := Lib.hid htp; have HTQ := Lib.hid htq; have HBP := Lib.hid hbp; have HBQ := Lib.hid hbq
      clear htp htq hbp hbq
      by_cases hpar : k % 2 = 1
      · have p1 : ((k : Int).tmod 2 == 1) = true := by rw [Int.tmod_eq_emod_of_nonneg (by omega), beq_iff_eq]; omega
        have p2 : ((k : Int) % 2 == 1) = true := by rw [beq_iff_eq]; omega
        clear hpar
        obtain ⟨c0, c1, c2, c3, c4, c5⟩ := row6 HRA.out
        have kk := step_all HC1.out (by unfold maxLen; omega) (by rw [List.length_take]; omega) (fun p hp => HBP.out p (List.mem_of_mem_take hp)) t (n.tmod 1000) (tmod_bound _)
        unfold St.val at kk
        have KK := Lib.hid kk; clear kk
        go_wp2_with fail
        refine (KK.out).mono ?_; rintro e w3 ⟨rfl, m1', hn, ht, hm⟩
        have hbw := HC1.out.out HBW.out ht
        have hot := HC2.out.other HC1.out HAP.out.symm ht
        have hap := ((HAP.out.symm).add HC2.out hm).symm
        have hr := HRB.out.touch ht (HC1.out.off HRB.out (by decide))
        clear HC1 HC2 HBW HAP HRA HRB KK ht hm c0 c1 c2 c3 c4 c5
        have HC1 := Lib.hid hn; have HC2 := Lib.hid hot; have HBW := Lib.hid hbw; have HAP := Lib.hid hap; have HRB := Lib.hid hr
        clear hn hot hbw hap hr
        obtain ⟨c0, c1, c2, c3, c4, c5⟩ := row6 HRB.out
        have kk := step_all HC2.out (by unfold maxLen; omega) (by rw [List.length_take]; omega) (fun p hp => HBQ.out p (List.mem_of_mem_take hp)) t' (n'.tmod 1000) (tmod_bound _)
        unfold St.val at kk
        have KK := Lib.hid kk; clear kk
        go_wp2_with fail
        refine (KK.out).mono ?_; rintro e w4 ⟨rfl, m2', hn, ht, hm⟩
        have hbw := HC2.out.out HBW.out ht
        have hot := HC1.out.other HC2.out HAP.out ht
        have hap := (HAP.out).add HC1.out hm
        clear HC1 HC2 HBW HAP HRB KK ht hm c0 c1 c2 c3 c4 c5
        have HC2 := Lib.hid hn; have HC1 := Lib.hid hot; have HBW := Lib.hid hbw; have HAP := Lib.hid hap
        clear hn hot hbw hap
        rw [← HTP.out] at HC1
        rw [← HTQ.out] at HC2
        have HST := Lib.hid (show At1 w b1 b2 d P Q (k + 1) w4 from ⟨m1', m2', N1 + 1, N2 + 1, by omega, by omega, HBW.out, HC1.out, HC2.out, HAP.out⟩)
        go_wp2_with fail
        go_roundw
        case rel => exact ⟨k + 1, by omega, by simp, HST.out⟩
        case measure => simp only [intOf]; omega
      · have p1 : ((k : Int).tmod 2 == 1) = false := by rw [Int.tmod_eq_emod_of_nonneg (by omega), beq_eq_false_iff_ne]; omega
        have p2 : ((k : Int) % 2 == 1) = false := by rw [beq_eq_false_iff_ne]; omega
        clear hpar
        obtain ⟨c0, c1, c2, c3, c4, c5⟩ := row6 HRB.out
        have kk := step_all HC2.out (by unfold maxLen; omega) (by rw [List.length_take]; omega) (fun p hp => HBQ.out p (List.mem_of_mem_take hp)) t' (n'.tmod 1000) (tmod_bound _)
        unfold St.val at kk
        have KK := Lib.hid kk; clear kk
        go_wp2_with fail
        refine (KK.out).mono ?_; rintro e w3 ⟨rfl, m2', hn, ht, hm⟩
        have hbw := HC2.out.out HBW.out ht
        have hot := HC1.out.other HC2.out HAP.out ht
        have hap := (HAP.out).add HC1.out hm
        have hr := HRA.out.touch ht (HC2.out.off HRA.out (by decide))
        clear HC1 HC2 HBW HAP HRA HRB KK ht hm c0 c1 c2 c3 c4 c5
        have HC2 := Lib.hid hn; have HC1 := Lib.hid hot; have HBW := Lib.hid hbw; have HAP := Lib.hid hap; have HRA := Lib.hid hr
        clear hn hot hbw hap hr
        obtain ⟨c0, c1, c2, c3, c4, c5⟩ := row6 HRA.out
        have kk := step_all HC1.out (by unfold maxLen; omega) (by rw [List.length_take]; omega) (fun p hp => HBP.out p (List.mem_of_mem_take hp)) t (n.tmod 1000) (tmod_bound _)
        unfold St.val at kk
        have KK := Lib.hid kk; clear kk
        go_wp2_with fail
        refine (KK.out).mono ?_; rintro e w4 ⟨rfl, m1', hn, ht, hm⟩
        have hbw := HC1.out.out HBW.out ht
        have hot := HC2.out.other HC1.out HAP.out.symm ht
        have hap := ((HAP.out.symm).add HC2.out hm).symm
        clear HC1 HC2 HBW HAP HRA KK ht hm c0 c1 c2 c3 c4 c5
        have HC1 := Lib.hid hn; have HC2 := Lib.hid hot; have HBW := Lib.hid hbw; have HAP := Lib.hid hap
        clear hn hot hbw hap
        rw [← HTP.out] at HC1
        rw [← HTQ.out] at HC2
        have HST := Lib.hid (show At1 w b1 b2 d P Q (k + 1) w4 from ⟨m1', m2', N1 + 1, N2 + 1, by omega, by omega, HBW.out, HC1.out, HC2.out, HAP.out⟩)
        go_wp2_with fail
        go_roundw
        case rel => exact ⟨k + 1, by omega, by simp, HST.out⟩
        case measure => simp only [intOf]; omega
    · have hk' : k = l.length := by omega
      subst hk'
      have hlp : P.length = l.length := by rw [← HP.out]; simp [modC]
      have hlq : Q.length = l.length := by rw [← HQ.out]; simp [modC, turn_len]
      have hpq : allC d Q = allC d P := all_perm (by rw [← HP.out, ← HQ.out]; exact (turn_perm _).map _)
      rw [List.take_of_length_le (by omega)] at hc1 hc2
      rw [hpq] at hc2
      have hl1 := hc1.len
      obtain ⟨L, hL⟩ : ∃ L, allC d P = L := ⟨_, rfl⟩
      rw [hL] at hc1 hc2 hl1
      have kk := times_any hc1 (by omega)
      have KK := Lib.hid kk; have HC1 := Lib.hid hc1; have HC2 := Lib.hid hc2; have HBW := Lib.hid hbw; have HLL := Lib.hid (show L.length ≤ 60 by omega)
      clear kk hc1 hc2 hbw hL hpq hlp hlq hap hl1
      go_wp2_with fail
      refine (KK.out).mono ?_; rintro e w3 ⟨⟨v, rfl, hv⟩, hb3⟩
      obtain ⟨A9, c9, rfl, hs9⟩ := Slc.of_own hv
      have hc1 := HC1.out.below hb3
      have hc2 := HC2.out.below hb3
      have hbw := HBW.out.trans (hb3.mono HBW.out.size)
      clear HC1 HC2 HBW hb3 hv KK
      have HC1 := Lib.hid hc1; have HC2 := Lib.hid hc2; have HBW := Lib.hid hbw; have HS9 := Lib.hid hs9
      have htl : (timesC L).length = L.length := timesC_len L
      clear hc1 hc2 hbw hs9
      obtain ⟨X, hX⟩ : ∃ X, timesC L = X := ⟨_, rfl⟩
      rw [hX] at HS9 htl ⊢
      have hx60 : X.length ≤ 60 := by have := HLL.out; omega
      have HX := Lib.hid hX; clear hX htl
      dsimp only
      go_wp2_with fail
      go_loopw [13] (fun i wr => ∃ q : Nat, q ≤ X.length ∧ i = .int .i64 q ∧ Below w3.heap.size w3 wr) (fun i _ => X.length - (intOf i).toNat)
      case atStart => exact ⟨0, by omega, rfl, Below.refl _ _⟩
      case round =>
        obtain ⟨q, hq, rfl, hb⟩ := hrel
        have HB3 := Lib.hid hb; clear hb
        by_cases hlt : q < X.length
        · have hltz : (q : Int) < (X.length : Int) := by omega
          obtain ⟨x, hx⟩ : ∃ x, X[q]? = some x := ⟨_, List.getElem?_eq_getElem hlt⟩
          have hxR : x.R := by
            have h1 := List.mem_of_getElem? hx
            rw [← HX.out] at h1
            obtain ⟨p, hp, e⟩ := mem_timesC.1 h1
            rw [← e]; exact HC1.out.R hp
          obtain ⟨xb, xo, rfl, hxl, hld⟩ := HS9.out.ts.load hx
          have hk1 : ∀ w', Below wr.heap.size wr w' → Calls Try.prog 15 #[.pointer (some ⟨b1, 0, none⟩), .agg #[.int .i64 x.d, .int .i64 x.e, .int .i64 x.x, .int .i64 x.y, .int .i64 x.z]] w' fun e w'' => e = .returned (.int .i64 (cnt L x)) ∧ Below w'.heap.size w' w'' := fun w' hw => count_any ((HC1.out.below HB3.out).below hw) x hxR.w
          have hk2 : ∀ w', Below wr.heap.size wr w' → Calls Try.prog 15 #[.pointer (some ⟨b2, 0, none⟩), .agg #[.int .i64 x.d, .int .i64 x.e, .int .i64 x.x, .int .i64 x.y, .int .i64 x.z]] w' fun e w'' => e = .returned (.int .i64 (cnt L x)) ∧ Below w'.heap.size w' w'' := fun w' hw => count_any ((HC2.out.below HB3.out).below hw) x hxR.w
          have hld2 : ∀ w', Below wr.heap.size wr w' → (Instr.loadAt 25 (.pointer (some ⟨xb, xo + q * 5, none⟩))).run Try.prog w' = .ok (.agg #[.int .i64 x.d, .int .i64 x.e, .int .i64 x.x, .int .i64 x.y, .int .i64 x.z]) w' := fun w' hw => hld w' (HB3.out.trans (hw.mono HB3.out.size))
          generalize cnt L x = cx at *
          have HK1 := Lib.hid hk1; have HK2 := Lib.hid hk2; have HLD := Lib.hid hld2
          have hne : (cx != cx) = false := by simp
          have HNE := Lib.hid hne
          clear hk1 hk2 hld2 hld hx hxR hxl hne
          go_wp2_with fail
          refine wp_region_below (by kernel_rfl) (by kernel_rfl) ?_
          refine wpQuiet_step (fun K hK => ?_); go_simp; (first | (with_reducible refine hK _ ?_) | (with_reducible refine ⟨_, fun _ _ => rfl, hK _ ?_⟩)); clear hK K
          refine wpQuiet_step (fun K hK => ?_); go_simp; (first | (with_reducible refine hK _ ?_) | (with_reducible refine ⟨_, fun _ _ => rfl, hK _ ?_⟩)); clear hK K
          refine wpQuiet_step (fun K hK => ?_); go_simp; (first | (with_reducible refine hK _ ?_) | (with_reducible refine ⟨_, fun _ _ => rfl, hK _ ?_⟩)); clear hK K
          refine wpQuiet_step (fun K hK => ?_); go_simp; (first | (with_reducible refine hK _ ?_) | (with_reducible refine ⟨_, fun _ _ => rfl, hK _ ?_⟩)); clear hK K
          refine wpQuiet_step (fun K hK => ?_); refine q_load (p := .pointer (some ⟨xb, xo + q * 5, none⟩)) 25 _ rfl rfl rfl (HLD.out) ?_; go_simp; (with_reducible refine hK _ ?_); clear hK K
          refine wpQuiet_step (fun K hK => ?_); go_simp; (with_reducible refine ⟨_, fun wq hb => (HK1.out wq hb).mono fun _ _ h => ⟨h.1, hb.trans (h.2.mono (by simpa using hb.size))⟩, hK _ ?_⟩); clear hK K
          refine wpQuiet_step (fun K hK => ?_); go_simp; (first | (with_reducible refine hK _ ?_) | (with_reducible refine ⟨_, fun _ _ => rfl, hK _ ?_⟩)); clear hK K
          refine wpQuiet_step (fun K hK => ?_); go_simp; (first | (with_reducible refine hK _ ?_) | (with_reducible refine ⟨_, fun _ _ => rfl, hK _ ?_⟩)); clear hK K
          refine wpQuiet_step (fun K hK => ?_); go_simp; (first | (with_reducible refine hK _ ?_) | (with_reducible refine ⟨_, fun _ _ => rfl, hK _ ?_⟩)); clear hK K
          refine wpQuiet_step (fun K hK => ?_); go_simp; (first | (with_reducible refine hK _ ?_) | (with_reducible refine ⟨_, fun _ _ => rfl, hK _ ?_⟩)); clear hK K
          refine wpQuiet_step (fun K hK => ?_); refine q_load (p := .pointer (some ⟨xb, xo + q * 5, none⟩)) 25 _ rfl rfl rfl (HLD.out) ?_; go_simp; (with_reducible refine hK _ ?_); clear hK K
          refine wpQuiet_step (fun K hK => ?_); go_simp; (with_reducible refine ⟨_, fun wq hb => (HK2.out wq hb).mono fun _ _ h => ⟨h.1, hb.trans (h.2.mono (by simpa using hb.size))⟩, hK _ ?_⟩); clear hK K
          refine wpQuiet_step (fun K hK => ?_); refine q_bin _ _ _ _ _ rfl rfl rfl rfl (ne64_is HNE.out) ?_; go_simp; (with_reducible refine hK _ ?_); clear hK K
          refine wpQuiet_nil ?_
          intro w5 hb5
          have HB5 := Lib.hid (HB3.out.trans (hb5.mono HB3.out.size)); clear hb5
          go_wp2_with fail
          go_roundw
          case rel => exact ⟨q + 1, by omega, by simp, HB5.out⟩
          case measure => simp only [intOf]; omega
        · have hltz : ¬ (q : Int) < (X.length : Int) := by omega
          have hc1 := HC1.out.below HB3.out
          have hc2 := HC2.out.below HB3.out
          have hbw := HBW.out.trans (HB3.out.mono HBW.out.size)
          have hs9 := HS9.out.below HB3.out
          have kk := times_any hc2 (by have := HLL.out; omega)
          have KK := Lib.hid kk; clear HC1 HC2 HBW HS9 HB3 kk
          have HC1 := Lib.hid hc1; have HC2 := Lib.hid hc2; have HBW := Lib.hid hbw; have HS9 := Lib.hid hs9
          clear hc1 hc2 hbw hs9
          go_wp2_with fail
          refine (KK.out).mono ?_; rintro e w4 ⟨⟨v, rfl, hv⟩, hb4⟩
          rw [HX.out] at hv
          obtain ⟨A4, c4, rfl, hs4⟩ := Slc.of_own hv
          have HSA := Lib.hid (refSameW (HS9.out.below hb4) hs4 (by omega) (by omega) (decide_eq_true rfl))
          have HB4 := Lib.hid hb4; clear hb4 hs4 hv KK
          go_wp2_with fail
          refine (HSA.out _ (Below.refl _ _)).mono ?_; rintro e w5 ⟨rfl, hb5⟩
          have HB5 := Lib.hid (HB4.out.trans (hb5.mono HB4.out.size)); clear hb5
          have kk := frontier_any (HC1.out.below HB5.out) (by have := HLL.out; omega)
          have KK := Lib.hid kk; clear kk
          go_wp2_with fail
          refine (KK.out).mono ?_; rintro e w6 ⟨⟨v, rfl, hv⟩, hb6⟩
          obtain ⟨A6, c6, rfl, hs6⟩ := Slc.of_own hv
          have HB6 := Lib.hid (HB5.out.trans (hb6.mono HB5.out.size)); have HS6 := Lib.hid hs6; clear hb6 hv hs6 KK
          have kk := frontier_any (HC2.out.below HB6.out) (by have := HLL.out; omega)
          have KK := Lib.hid kk; clear kk
          go_wp2_with fail
          refine (KK.out).mono ?_; rintro e w7 ⟨⟨v, rfl, hv⟩, hb7⟩
          obtain ⟨A7, c7, rfl, hs7⟩ := Slc.of_own hv
          have hfl : (frC L).length ≤ 1000 := Nat.le_trans (frC_len _) (by have := HLL.out; omega)
          have HSB := Lib.hid (refSameW (HS6.out.below hb7) hs7 hfl hfl (decide_eq_true rfl))
          have HB7 := Lib.hid (HB6.out.trans (hb7.mono HB6.out.size)); clear hb7 hs7 hv KK hfl
          go_wp2_with fail
          refine (HSB.out _ (Below.refl _ _)).mono ?_; rintro e w8 ⟨rfl, hb8⟩
          have HB8 := Lib.hid (HBW.out.trans ((HB7.out.trans (hb8.mono HB7.out.size)).mono HBW.out.size)); clear hb8
          go_wp2_with fail
          refine (WW.out _).mono ?_; rintro e we ⟨rfl, hbe⟩
          go_wp2_with fail
          go_ret
          exact ⟨rfl, HB8.out.trans (hbe.mono HB8.out.size)⟩

set_option maxRecDepth 100000 in
theorem lifted (os : Os) (started : os.Started) (H : Type) (enc : TypeId × Value → H) :
    ReturnsInHanded {} Try.checked os 4 .any (Rows.countsOrderSpec.pre6 enc Try.prog Try.f4 Rows.countsOrderRow.domain false) (Rows.countsOrderSpec.post enc Try.prog Try.f4 false true false false) := by
  refine returnsInHanded_of_change_sized (C := Try.checked) ownKnob_none started (by kernel_rfl) Try.func4
    (ChangeSpec.witness6 (enc := enc) (C := Try.checked) false ⟨#[], #[.int .i64 0, .slice none 0 0, .int .u8 0], []⟩ 8 (by kernel_rfl) (by kernel_rfl) (by kernel_rfl) (by kernel_rfl)) ?_
  intro W base args ds gs before hval0 hW hcnd hsz0 _
  have hval : ∀ (j : Nat) t v, Try.f4.params[j]? = some t → args[j]? = some v → Value.okWide Try.prog W .any base t v := hval0
  have hW' := hW
  obtain ⟨p, q, hA0, hV, rfl, hfz, hnd⟩ := hW
  have hA : DataW.TrodAll enc Try.prog W 0 (fun _ => true) true Try.f4.params.toList args.toList ds p := hA0
  have hsz : (DataW.weightsEach Try.prog (Try.f4.params.toList ++ Rows.countsOrderSpec.plain.varTypes Try.prog) (ds ++ gs)).all (· ≤ reachBytes) = true := hsz0
  rw [Try.params4] at hA hval hsz
  obtain ⟨v0, vs0, d0, ds0, p0, q0, hargs, rfl, rfl, h0, r0⟩ := trodAll_cons hA
  obtain ⟨v1, vs1, d1, ds1, p1, q1, rfl, rfl, rfl, h1, r1⟩ := trodAll_cons r0
  obtain ⟨v2, vs2, d2, ds2, p2, q2, rfl, rfl, rfl, h2, r2⟩ := trodAll_cons r1
  obtain ⟨rfl, rfl, rfl⟩ := trodAll_nil r2
  obtain rfl : args = #[v0, v1, v2] := by cases args; simp_all
  obtain ⟨rfl, rfl⟩ := trodVars_none hV
  obtain ⟨a0, rfl, rfl, rfl, w0⟩ := open_int Try.underlying3 (hval 0 3 v0 rfl rfl) h0
  have b0 := i64_wf w0
  obtain ⟨A1, l1, c1, rfl, hP1, hW1, hc1, hm1⟩ := open_steps (hval 1 22 v1 rfl rfl) h1
  obtain ⟨a2, rfl, rfl, rfl, w2⟩ := open_int Try.underlying5 (hval 2 5 v2 rfl rfl) h2
  have b2 := u8_wf w2
  obtain ⟨n2, rfl⟩ := Int.eq_ofNat_of_zero_le b2.1
  clear hA0 hval0 hsz0
  refine (walk a0 A1 l1 c1 n2 W hP1 hc1 hm1 (by have := b2.2; omega)).mono fun e W' ⟨he, hg⟩ => ?_
  subst he
  exact ⟨_, rfl, law_post progLaid hW' rfl (by rw [Try.params4]; intro t ht; simp at ht; rcases ht with rfl | rfl | rfl <;> exact ⟨by kernel_rfl, of_decide_eq_true (by kernel_rfl)⟩) rfl Try.underlying4 rfl hg⟩

theorem over : Rows.countsOrderRow.holds Try.pinned (OpenSpec.ofChange Rows.countsOrderSpec) :=
  OpenClaim.holds_of_wide 4 Try.f4 rfl rfl rfl rfl rfl rfl rfl ⟨rfl, rfl, rfl, rfl, rfl⟩ rfl rfl rfl rfl rfl (by kernel_rfl) Try.func4 (by kernel_rfl)
    (of_decide_eq_true (by kernel_rfl)) (by unfold Func.isWrapper; first | (rw [if_pos (by decide +kernel)]; kernel_rfl) | (rw [if_neg (by decide +kernel)]; exact ⟨rfl, rfl⟩))
    (fun os started H enc _ => lifted os started H enc)

/-- The statement. -/
theorem proved : Rows.CountsOrderSaid :=
  over
end countsOrder
end
end Go.Proofs.Ytkbabmifdfmhlaa
