/- The document's function: what a node makes of rows. -/
import Derived.Test.YtcjdjdhjbchaaaaOpRefMath
import Derived.Test.YtcjdjdhjbchaaaaOpAppend
namespace Go.Proofs.Ytcjdjdhjbchaaaa
namespace Op
open Go.ChangeShapes Go.WideShapes Go.ChangeAt Go.RowKit Go.BigFrame Vr
set_option linter.unusedVariables false
set_option maxRecDepth 100000
theorem wrap_is (n : Int) : IntKind.i64.wrap n = wrap64 n := by
  rw [IntKind.wrap_i64]
  first | done | rfl | (unfold wrap64; omega)
def vt6 (fv : Value) (B2 bR oR c N bm om M mc k : Nat) (rk rv yv : Int) (i : Nat) (v : Value) : Prop := match i with
  | 0 => v = fv
  | 1 => v = .pointer (some ⟨B2, 0, none⟩)
  | 2 => v = .int .i64 rk
  | 3 => v = .pointer (some ⟨B2, 1, none⟩)
  | 4 => v = .int .i64 rv
  | 5 => v = .slice (some ⟨bR, oR, none⟩) N c
  | 6 => v = .pointer (some ⟨bR, oR + 1, none⟩)
  | 7 => v = .slice (some ⟨bm, om, none⟩) M mc
  | 8 => v = .int .i64 (k : Nat)
  | 9 => v = .pointer (some ⟨bm, om + k * 2, none⟩)
  | 10 => v = .pointer (some ⟨bm, om + k * 2 + 1, none⟩)
  | 11 => v = .int .i64 yv
  | 12 => v = .int .i64 (wrap64 (rv + yv))
  | 13 => v = Rd.val ⟨rk, wrap64 (rv + yv)⟩
  | _ => True
def jnR (p : Nat) (m : List Rd) (r : Rd) (k : Nat) : List Rd := if p = 0 then (valsOf (m.take k) r.k).map fun v => ⟨r.k, wrap64 (r.v + v)⟩ else []
theorem jnR_zero (p : Nat) (m : List Rd) (r : Rd) : jnR p m r 0 = [] := by unfold jnR; rw [List.take_zero, valsOf_nil, List.map_nil]; split <;> rfl
theorem jnR_yes {p : Nat} {m : List Rd} {r y : Rd} {k : Nat} (hp : p = 0) (hy : m[k]? = some y) (hk : y.k = r.k) : jnR p m r (k + 1) = jnR p m r k ++ [⟨r.k, wrap64 (r.v + y.v)⟩] := by
  unfold jnR
  rw [if_pos hp, if_pos hp, Vr.take_snoc hy, valsOf_snoc, if_pos hk, List.map_append]; rfl
theorem jnR_no {p : Nat} {m : List Rd} {r y : Rd} {k : Nat} (hy : m[k]? = some y) (hn : ¬ (p = 0 ∧ y.k = r.k)) : jnR p m r (k + 1) = jnR p m r k := by
  unfold jnR
  by_cases hp : p = 0
  · rw [if_pos hp, if_pos hp, Vr.take_snoc hy, valsOf_snoc, if_neg (fun h => hn ⟨hp, h⟩)]
  · rw [if_neg hp, if_neg hp]
theorem jnR_len {p : Nat} {m : List Rd} {r : Rd} {k : Nat} : (jnR p m r k).length ≤ m.length := by
  unfold jnR
  split
  · rw [List.length_map]; exact Nat.le_trans valsOf_len (List.length_take_le' _ _)
  · simp
def vt5 (fv : Value) (n : Nd) (NA : Option Addr) (nm nc B2 bR oR c N p bl ol m rc : Nat) (k x : Int) (i : Nat) (v : Value) : Prop := match i with
  | 0 => v = fv
  | 1 => v = nodeV n NA nm nc
  | 2 => v = .pointer (some ⟨B2, 0, none⟩)
  | 3 => v = .int .i64 k
  | 4 => v = .slice (some ⟨bR, oR, none⟩) N c
  | 5 => v = .int .i64 (p : Nat)
  | 6 => v = .pointer (some ⟨bR, oR + p, none⟩)
  | 7 => v = .slice (some ⟨bl, ol, none⟩) m rc
  | 8 => v = Rd.val ⟨k, x⟩
  | _ => True
set_option maxHeartbeats 8000000 in
theorem refMakes_up {w : World} {v : Value} {ls : List (List Rd)} (n : Nd) (NA : Option Addr) (nm nc : Nat) (hI : InV w v ls) (hnum : n.num = true) (hb2 : n.b ≤ 9223372036854775807) (hw : ls.length = n.want) (hl : ∀ l ∈ ls, l.length ≤ 200) :
    Calls Try.prog 34 #[nodeV n NA nm nc, v] w (GivesR (upN n ls ls.length) w) := by
  have hw2 : ls.length ≤ 2 := by
    rw [hw]; unfold Nd.want
    split
    · omega
    · split <;> omega
  obtain ⟨A, c, L, rfl, hR, hL⟩ := hI
  have hLl : L.length = ls.length := by rw [← hL, List.length_map]
  have hb1 := (Below.refl _ w).alloc (Nat.le_refl _) (.cells #[.int .u8 (n.k : Nat), .int .u8 (n.a : Nat), .int .i64 n.b, .int .i64 n.d, .slice NA nm nc] 24)
  have hbx := node_box w n NA nm nc
  have HR := Lib.hid hR; have HL := Lib.hid hL; have HLL := Lib.hid hLl; have HB1 := Lib.hid hb1; have HBX := Lib.hid hbx; have HW := Lib.hid hw; have HLEN := Lib.hid hl; have HNUM := Lib.hid hnum
  clear hR hL hLl hb1 hbx hw hl hnum
  go_enter Try.func34, Try.ntmps34
  go_wp2_with fail
  generalize hW1 : w.alloc (.cells #[.int .u8 (n.k : Nat), .int .u8 (n.a : Nat), .int .i64 n.b, .int .i64 n.d, .slice NA nm nc] 24) = w1 at *
  clear hW1
  go_loopw [5, 6] (fun fv vi wr => ∃ p : Nat, p ≤ ls.length ∧ vi = .int .i64 p ∧ wr.ownsRow w1.heap.size 36 kindR.K fv (upN n ls p).length (Rw.row kindR (upN n ls p)) ∧ Below w1.heap.size w1 wr) (fun _ vi _ => ls.length - (intOf vi).toNat)
  case atStart => exact ⟨0, by omega, rfl, World.ownsRow_nil _ _ _ _, Below.refl _ _⟩
  case round =>
    obtain ⟨p, hp, rfl, hown, hb0⟩ := hrel
    have HO := Lib.hid hown; have HB := Lib.hid hb0; clear hown hb0
    by_cases hpt : p < ls.length
    · have hptz : (p : Int) < (ls.length : Int) := by omega
      obtain ⟨r0, hr0⟩ : ∃ r0, L[p]? = some r0 := ⟨_, List.getElem?_eq_getElem (by rw [HLL.out]; exact hpt)⟩
      have hgd : ls.getD p [] = r0.ts := by rw [← HL.out, List.getD_eq_getElem?_getD, List.getElem?_map, hr0]; rfl
      have hll := len_getD HLEN.out p
      have hul := upN_len (n := n) HLEN.out p
      have hup : upN n ls (p + 1) = upN n ls p ++ rowN n ls p (ls.getD p []).length := rfl
      obtain ⟨hTl, _⟩ := HR.out.ok r0 (List.mem_of_getElem? hr0)
      obtain ⟨bR, oR, rfl, hbR, hcR⟩ := HR.out.at_ hr0
      obtain ⟨RA, l, rc⟩ := r0
      simp only at hgd hTl hcR
      rw [hgd] at hll hup
      have HGD := Lib.hid hgd; have HTL := Lib.hid hTl; have HCR := Lib.hid hcR; have HUP := Lib.hid hup; have HR0 := Lib.hid hr0
      clear hgd hTl hcR hr0 hup hbR
      go_wp2_with fail
      go_loopw [5, 7] (fun fv vi wy => ∃ i : Nat, i ≤ l.length ∧ vi = .int .i64 i ∧ wy.ownsRow w1.heap.size 36 kindR.K fv (upN n ls p ++ rowN n ls p i).length (Rw.row kindR (upN n ls p ++ rowN n ls p i)) ∧ Below w1.heap.size w1 wy) (fun _ vi _ => l.length - (intOf vi).toNat)
      case atStart => exact ⟨0, by omega, rfl, by rw [show upN n ls p ++ rowN n ls p 0 = upN n ls p from List.append_nil _]; exact HO.out, HB.out⟩
      case round =>
        obtain ⟨i, hi, rfl, hown, hb0⟩ := hrel
        have HOI := Lib.hid hown; have HBI := Lib.hid hb0; clear hown hb0 HO HB
        have q0 := HCR.out wr (HB1.out.trans (HBI.out.mono HB1.out.size))
        by_cases hlt : i < l.length
        · have hltz : (i : Int) < (l.length : Int) := by omega
          obtain ⟨r, hr⟩ : ∃ r, l[i]? = some r := ⟨_, List.getElem?_eq_getElem hlt⟩
          have hst := rowN_step (n := n) (p := p) (ls := ls) (i := i) (r := r) (by rw [HGD.out]; exact hr)
          have hus : (upN n ls p ++ rowN n ls p i).length ≤ 120000 := by
            have h1 := rowN_len (n := n) (p := p) HLEN.out i
            have h2 : i * 200 ≤ 200 * 200 := Nat.mul_le_mul (by omega) (Nat.le_refl _)
            have h3 : p * 40000 ≤ 2 * 40000 := Nat.mul_le_mul (by omega) (Nat.le_refl _)
            rw [List.length_append]; omega
          have hst2 : upN n ls p ++ rowN n ls p (i + 1) = (upN n ls p ++ rowN n ls p i) ++ addsR n ls p i r := by rw [hst, List.append_assoc]
          obtain ⟨bl, ol, rfl, hbl, hcl⟩ := recs_at HTL.out hr
          obtain ⟨e0, e1⟩ := hcl wr (HB1.out.trans (HBI.out.mono HB1.out.size))
          have HST := Lib.hid hst2; have HRI := Lib.hid hr; clear hst hst2 hcl hr
          have hrow := (HBX.out.below HBI.out HBX.out.lt)
          obtain ⟨us, hus2⟩ : ∃ us, upN n ls p ++ rowN n ls p i = us := ⟨_, rfl⟩
          have h := HOI.out; rw [hus2] at h; clear HOI; have HOI := Lib.hid h; clear h
          have h := HST.out; rw [hus2] at h hus; clear HST; have HST := Lib.hid h; clear h hus2
          go_upto_region 9 with fail
          have hrw := Row.made wr 36 [.int .i64 r.k, .int .i64 r.v]
          have hal := (Below.refl wr.heap.size wr).alloc (Nat.le_refl _) (.cells #[.int .i64 r.k, .int .i64 r.v] 36)
          have hrow2 := hrow.alloc (.cells #[.int .i64 r.k, .int .i64 r.v] 36)
          simp only [List.toArray] at hrw
          clear hrow e0 e1
          generalize wr.alloc (.cells #[.int .i64 r.k, .int .i64 r.v] 36) = wz at *
          have hne := fun (g : Nat) e => Nat.ne_of_lt (HOI.out.lt g e).2
          have HNE := Lib.hid hne; clear hne
          have HO1 := Lib.hid (Rw.own_kept HOI.out hal); have HB2 := Lib.hid (HBI.out.trans (hal.mono HBI.out.size)); clear hal HOI HBI q0
          generalize wr.heap.size = B2 at *
          obtain ⟨m0, m1, m2, m3, m4⟩ := cells5 hrow2
          obtain ⟨p0, p1⟩ := cells2 hrw
          have q0 := HCR.out wz (HB1.out.trans (HB2.out.mono HB1.out.size))
          have HRW := Lib.hid hrw; have HND := Lib.hid hrow2; clear hrw hrow2
          have HBS := Lib.hid HB2.out.size
          by_cases k2 : n.k = 2
          · have z2 : (((n.k : Nat) : Int) == 2) = true := by simp; omega
            have hn2 : n.a ≤ 3 ∧ (n.a ≠ 3 ∨ 0 < n.b) := by have h := HNUM.out; unfold Nd.num at h; rw [if_pos k2] at h; exact of_decide_eq_true h
            have hst := HST.out
            unfold addsR at hst
            rw [if_pos k2] at hst
            clear HST; have HST := Lib.hid hst; clear hst k2
            have HC0 := Lib.hid (refMapped_any n NA nm nc r wz hn2.1 (fun h => by have := hn2.2; omega) hb2)
            go_wp2_with fail
            refine HC0.out.mono ?_; rintro e w5 ⟨rfl, hb5⟩
            have h5 := HRW.out.below hb5 HRW.out.lt
            have hn5 := HND.out.below hb5 HND.out.lt
            have hB5 := HB2.out.trans (hb5.mono HB2.out.size)
            have ho5 := Rw.own_kept HO1.out hb5
            have HB5 := Lib.hid hB5; have HO5 := Lib.hid ho5
            clear p0 p1 m0 m1 m2 m3 m4 q0 HBS
            obtain ⟨p0, p1⟩ := cells2 h5
            obtain ⟨m0, m1, m2, m3, m4⟩ := cells5 hn5
            have q0 := HCR.out w5 (HB1.out.trans (HB5.out.mono HB1.out.size))
            have HRW5 := Lib.hid h5; have HND5 := Lib.hid hn5
            clear h5 hn5 hB5 ho5 hb5 HRW HND HC0 HB2 HO1
            have HBS := Lib.hid HB5.out.size
            dsimp only
            generalize mapR n r = q at *
            go_wp2_with (at_builtin; refine Rw.append_own kindR 36 28 Try.underlying28 infoRec rfl rfl _ _ rfl w1.heap.size _ us.length us rfl (HO5.out.alloc _) _ 1 [q] rfl (by simp) (Rw.Ts.made _ [q] _) (by unfold maxLen; simp; omega) (by simp; omega) (by have := HBS.out; simp; omega) ?_; intro v2 w6 hv2 hg2; have hb6 := Rw.own_below (HO5.out.alloc _) hg2 (HB5.out.alloc HBS.out _) (by have := HBS.out; simp; omega); have HV : Hid (w6.ownsRow w1.heap.size 36 kindR.K v2 (us ++ [q]).length (Rw.row kindR (us ++ [q]))) := Lib.hid (by rw [List.length_append]; exact hv2); have HB6 := Lib.hid hb6; clear hv2 hg2 hb6 p0 p1)
            go_roundw
            case rel => exact ⟨i + 1, by omega, by simp, by rw [HST.out]; exact HV.out, HB6.out⟩
            case measure => simp only [intOf]; omega
          · by_cases k3 : n.k = 3
            · have z2 : (((n.k : Nat) : Int) == 2) = false := by simp; omega
              have z3 : (((n.k : Nat) : Int) == 3) = true := by simp; omega
              have hn2 : n.a ≤ 2 ∧ (n.a ≠ 1 ∨ 0 < n.b) := by have h := HNUM.out; unfold Nd.num at h; rw [if_neg k2, if_pos k3] at h; exact of_decide_eq_true h
              have hst := HST.out
              unfold addsR at hst
              rw [if_neg k2, if_pos k3] at hst
              clear HST; have HST := Lib.hid hst; clear hst k2 k3
              have HC0 := Lib.hid (refPasses_any n NA nm nc r wz hn2.1 (fun h => by have := hn2.2; omega) hb2)
              go_wp2_with fail
              refine HC0.out.mono ?_; rintro e w5 ⟨rfl, hb5⟩
              have h5 := HRW.out.below hb5 HRW.out.lt
              have hn5 := HND.out.below hb5 HND.out.lt
              have hB5 := HB2.out.trans (hb5.mono HB2.out.size)
              have ho5 := Rw.own_kept HO1.out hb5
              have HB5 := Lib.hid hB5; have HO5 := Lib.hid ho5
              clear p0 p1 m0 m1 m2 m3 m4 q0 HBS
              obtain ⟨p0, p1⟩ := cells2 h5
              obtain ⟨m0, m1, m2, m3, m4⟩ := cells5 hn5
              have q0 := HCR.out w5 (HB1.out.trans (HB5.out.mono HB1.out.size))
              have HRW5 := Lib.hid h5; have HND5 := Lib.hid hn5
              clear h5 hn5 hB5 ho5 hb5 HRW HND HC0 HB2 HO1
              have HBS := Lib.hid HB5.out.size
              dsimp only
              cases hps : passB n r with
              | true =>
                have hst := HST.out
                rw [hps, if_pos rfl] at hst
                clear HST; have HST := Lib.hid hst; clear hst hps
                go_wp2_with (at_builtin; refine Rw.append_own kindR 36 28 Try.underlying28 infoRec rfl rfl _ _ rfl w1.heap.size _ us.length us rfl (HO5.out.alloc _) _ 1 [r] rfl (by simp) (Rw.Ts.made _ [r] _) (by unfold maxLen; simp; omega) (by simp; omega) (by have := HBS.out; simp; omega) ?_; intro v2 w6 hv2 hg2; have hb6 := Rw.own_below (HO5.out.alloc _) hg2 (HB5.out.alloc HBS.out _) (by have := HBS.out; simp; omega); have HV : Hid (w6.ownsRow w1.heap.size 36 kindR.K v2 (us ++ [r]).length (Rw.row kindR (us ++ [r]))) := Lib.hid (by rw [List.length_append]; exact hv2); have HB6 := Lib.hid hb6; clear hv2 hg2 hb6 p0 p1)
                go_roundw
                case rel => exact ⟨i + 1, by omega, by simp, by rw [HST.out]; exact HV.out, HB6.out⟩
                case measure => simp only [intOf]; omega
              | false =>
                have hst := HST.out
                rw [hps, if_neg (by decide), List.append_nil] at hst
                clear HST; have HST := Lib.hid hst; clear hst hps
                go_wp2_with fail
                go_roundw
                case rel => exact ⟨i + 1, by omega, by simp, by rw [HST.out]; exact HO5.out, HB5.out⟩
                case measure => simp only [intOf]; omega
            · by_cases k5 : n.k = 5
              · have z2 : (((n.k : Nat) : Int) == 2) = false := by simp; omega
                have z3 : (((n.k : Nat) : Int) == 3) = false := by simp; omega
                have z5 : (((n.k : Nat) : Int) == 5) = true := by simp; omega
                have hn2 : n.a ≤ 3 := by have h := HNUM.out; unfold Nd.num at h; rw [if_neg k2, if_neg k3, if_pos k5] at h; exact (of_decide_eq_true h).1
                have hst := HST.out
                unfold addsR at hst
                rw [if_neg k2, if_neg k3, if_pos k5, HGD.out] at hst
                clear HST; have HST := Lib.hid hst; clear hst k2 k3 k5
                have HC0 := Lib.hid (refFirst_any (some ⟨bl, ol, none⟩) l rc i r wz (HTL.out.below (HB1.out.trans (HB2.out.mono HB1.out.size))) HRI.out (by omega))
                go_wp2_with fail
                refine HC0.out.mono ?_; rintro e w5 ⟨rfl, hb5⟩
                have h5 := HRW.out.below hb5 HRW.out.lt
                have hn5 := HND.out.below hb5 HND.out.lt
                have hB5 := HB2.out.trans (hb5.mono HB2.out.size)
                have ho5 := Rw.own_kept HO1.out hb5
                have HB5 := Lib.hid hB5; have HO5 := Lib.hid ho5
                clear p0 p1 m0 m1 m2 m3 m4 q0 HBS
                obtain ⟨p0, p1⟩ := cells2 h5
                obtain ⟨m0, m1, m2, m3, m4⟩ := cells5 hn5
                have q0 := HCR.out w5 (HB1.out.trans (HB5.out.mono HB1.out.size))
                have HRW5 := Lib.hid h5; have HND5 := Lib.hid hn5
                clear h5 hn5 hB5 ho5 hb5 HRW HND HC0 HB2 HO1
                have HBS := Lib.hid HB5.out.size
                dsimp only
                by_cases hm : r.k ∈ keysOf (l.take i)
                · have hst := HST.out
                  rw [if_neg (fun h => h hm), List.append_nil] at hst
                  clear HST; have HST := Lib.hid hst; clear hst
                  rw [decide_eq_false (fun h => h hm)]
                  clear hm
                  go_wp2_with fail
                  go_roundw
                  case rel => exact ⟨i + 1, by omega, by simp, by rw [HST.out]; exact HO5.out, HB5.out⟩
                  case measure => simp only [intOf]; omega
                · have hst := HST.out
                  rw [if_pos hm] at hst
                  clear HST; have HST := Lib.hid hst; clear hst
                  rw [decide_eq_true hm]
                  clear hm
                  go_upto_region 18 with fail
                  refine Free.wp_key2 (by kernel_rfl) (by kernel_rfl) (AF w1 B2 r u5 us ⟨r.k, redV n.a (valsOf l r.k)⟩ 0 9 10 11) (vt5 u5 n NA nm nc B2 bR oR c ls.length p bl ol l.length rc r.k (redV n.a (valsOf l r.k))) (fun vs => AF.start (im := 0) (il := 9) (ia := 10) (ic := 11) (n := 12) HB5.out HRW5.out HO5.out (by decide) (by decide) (by decide)) ?_ ?_
                  · intro i o hi b vs a wa hold hpre hbi hF
                    have hold2 := fun (t : Nat) (ht : t ∉ Free.dsts _) => hold t fun j oj hj hd => absurd (Free.mem_dsts hj hd) ht
                    match i with
                    | 0 =>
                      cases hi
                      have hb11 : b 11 = false := by
                        cases e : b 11 with
                        | false => rfl
                        | true => have := hF.mv (hF.cp e).1; rw [hbi] at this; cases this
                      have h5 := hold 5 fun j oj hj hd => by
                        match j with
                        | 0 => cases hj; exact absurd hd (by decide)
                        | 1 => cases hj; exact absurd hd (by decide)
                        | 2 => cases hj; exact absurd hd (by decide)
                        | 3 => cases hj; exact absurd hd (by decide)
                        | 4 => cases hj; exact absurd hd (by decide)
                        | 5 => cases hj; exact absurd hd (by decide)
                        | 6 => cases hj; exact absurd hd (by decide)
                        | 7 => cases hj; exact absurd hd (by decide)
                        | 8 => cases hj; exact absurd hd (by decide)
                        | 9 => cases hj; exact absurd hd (by decide)
                        | 10 => cases hj; exact absurd hd (by decide)
                        | 11 => exact hb11
                        | _ + 12 => cases hj
                      exact Free.c_all rfl (Free.g_move _ rfl ⟨h5.trans rfl, hF.quiet (by decide) (by decide) (by decide)⟩)
                    | 1 =>
                      cases hi
                      have h0 : a.eval (.tmp 2) = .pointer (some ⟨w.heap.size, 0, none⟩) := (hold2 2 (by decide)).trans rfl
                      exact Free.c_all rfl (Free.g_load _ _ rfl h0 (load_node (HBX.out.below hF.below HBX.out.lt)) ⟨rfl, hF.quiet (by decide) (by decide) (by decide)⟩)
                    | 2 =>
                      cases hi
                      have h0 : a.eval (.tmp 8) = .pointer (some ⟨B2, 0, none⟩) := (hold2 8 (by decide)).trans rfl
                      exact Free.c_all rfl (Free.g_field (v := .pointer (some ⟨B2, 0, none⟩)) _ _ _ rfl h0 (by go_simp) ⟨rfl, hF.quiet (by decide) (by decide) (by decide)⟩)
                    | 3 =>
                      cases hi
                      have h0 : a.eval (.tmp 65) = .pointer (some ⟨B2, 0, none⟩) := (hpre 2 _ _ (by kernel_rfl) rfl rfl).2.2
                      have hc := hF.row.cell 0
                      simp only [List.getElem?_cons_zero] at hc
                      exact Free.c_all rfl (Free.g_load (v := .int .i64 r.k) _ _ rfl h0 (by go_simp) ⟨rfl, hF.quiet (by decide) (by decide) (by decide)⟩)
                    | 4 =>
                      cases hi
                      exact Free.c_all rfl (Free.g_move _ rfl ⟨(hold2 1 (by decide)).trans rfl, hF.quiet (by decide) (by decide) (by decide)⟩)
                    | 5 =>
                      cases hi
                      exact Free.c_all rfl (Free.g_move _ rfl ⟨(hold2 6 (by decide)).trans rfl, hF.quiet (by decide) (by decide) (by decide)⟩)
                    | 6 =>
                      cases hi
                      have h1 : a.eval (.tmp 67) = .slice (some ⟨bR, oR, none⟩) ls.length c := (hpre 4 _ _ (by kernel_rfl) rfl rfl).2.2
                      have h2 : a.eval (.tmp 68) = .int .i64 (p : Nat) := (hpre 5 _ _ (by kernel_rfl) rfl rfl).2.2
                      exact Free.c_all rfl (Free.g_indexAddr (v := .pointer (some ⟨bR, oR + p, none⟩)) _ _ _ rfl h1 h2 (by go_simp) ⟨rfl, hF.quiet (by decide) (by decide) (by decide)⟩)
                    | 7 =>
                      cases hi
                      have h0 : a.eval (.tmp 69) = .pointer (some ⟨bR, oR + p, none⟩) := (hpre 6 _ _ (by kernel_rfl) rfl rfl).2.2
                      have hc := HCR.out wa (HB1.out.trans (hF.below.mono HB1.out.size))
                      exact Free.c_all rfl (Free.g_load (v := .slice (some ⟨bl, ol, none⟩) l.length rc) _ _ rfl h0 (by go_simp) ⟨rfl, hF.quiet (by decide) (by decide) (by decide)⟩)
                    | 8 =>
                      cases hi
                      have h1 : a.eval (.tmp 64) = nodeV n NA nm nc := (hpre 1 _ _ (by kernel_rfl) rfl rfl).2.2
                      have h2 : a.eval (.tmp 66) = .int .i64 r.k := (hpre 3 _ _ (by kernel_rfl) rfl rfl).2.2
                      have h3 : a.eval (.tmp 70) = .slice (some ⟨bl, ol, none⟩) l.length rc := (hpre 7 _ _ (by kernel_rfl) rfl rfl).2.2
                      refine Free.c_all rfl (Free.g_call _ _ rfl Try.func67 (by kernel_rfl) rfl [nodeV n NA nm nc, .int .i64 r.k, .slice (some ⟨bl, ol, none⟩) l.length rc] (by show [a.eval (.tmp 64), a.eval (.tmp 66), a.eval (.tmp 70)] = _; rw [h1, h2, h3]) ?_)
                      exact (refReduced_any n r.k NA nm nc _ l rc wa (HTL.out.below (HB1.out.trans (hF.below.mono HB1.out.size))) (by omega) hn2).mono fun e w2 ⟨he, hb9⟩ => ⟨_, he, rfl, hF.call hb9 (by decide) (by decide) (by decide)⟩
                    | 9 =>
                      cases hi
                      have h0 : a.eval (.tmp 71) = Rd.val ⟨r.k, redV n.a (valsOf l r.k)⟩ := (hpre 8 _ _ (by kernel_rfl) rfl rfl).2.2
                      exact Free.c_all rfl (Vr.m_lit _ _ _ [(0, Rd.val ⟨r.k, redV n.a (valsOf l r.k)⟩)] rfl (by show [(0, a.eval (.tmp 71))] = _; rw [h0]) (build_r1 wa ⟨r.k, redV n.a (valsOf l r.k)⟩) ⟨trivial, hF.one (by decide) (by decide) hbi⟩)
                    | 10 =>
                      cases hi
                      have h0 := hpre 0 _ _ (by kernel_rfl) rfl rfl
                      have h9 := hpre 9 _ _ (by kernel_rfl) rfl rfl
                      obtain ⟨v', w', hrun, hF2⟩ := hF.add (by decide) (by decide) (by decide) h0.1 (by omega) HNE.out h9.1 hbi
                      exact Free.c_all rfl (m_append _ _ _ rfl _ _ h0.2.2 h9.2.1 hrun ⟨trivial, hF2⟩)
                    | 11 =>
                      cases hi
                      have h10 := hpre 10 _ _ (by kernel_rfl) rfl rfl
                      exact Free.c_all rfl (Free.g_assign _ rfl ⟨trivial, by rw [h10.2.1]; exact hF.copy (by decide) (by decide) h10.1⟩)
                    | _ + 12 => cases hi
                  · intro vs we hv hF
                    have HB6 := Lib.hid hF.below; have HO6 := Lib.hid (hF.app rfl).1; have hcp := (hF.cp rfl).2
                    clear hF hv
                    simp only [Free.puts, Nat.reduceAdd, hcp]
                    clear hcp
                    generalize vs 10 = v10 at *
                    generalize vs 0 = y0 at *
                    generalize vs 1 = y1 at *
                    generalize vs 2 = y2 at *
                    generalize vs 3 = y3 at *
                    generalize vs 4 = y4 at *
                    generalize vs 5 = y5 at *
                    generalize vs 6 = y6 at *
                    generalize vs 7 = y7 at *
                    generalize vs 8 = y8 at *
                    generalize vs 9 = y9 at *
                    go_simp
                    go_wp2_with fail
                    go_roundw
                    case rel => exact ⟨i + 1, by omega, by simp, by rw [HST.out]; exact HO6.out, HB6.out⟩
                    case measure => simp only [intOf]; omega
              · by_cases k6 : n.k = 6
                · have z2 : (((n.k : Nat) : Int) == 2) = false := by simp; omega
                  have z3 : (((n.k : Nat) : Int) == 3) = false := by simp; omega
                  have z5 : (((n.k : Nat) : Int) == 5) = false := by simp; omega
                  have z6 : (((n.k : Nat) : Int) == 6) = true := by simp; omega
                  have hlen2 : ls.length = 2 := by rw [HW.out]; unfold Nd.want; rw [if_neg (by omega), if_pos (.inr k6)]
                  obtain ⟨r1, hr1⟩ : ∃ r1, L[1]? = some r1 := ⟨_, List.getElem?_eq_getElem (by rw [HLL.out, hlen2]; omega)⟩
                  have hg1 : ls.getD 1 [] = r1.ts := by rw [← HL.out, List.getD_eq_getElem?_getD, List.getElem?_map, hr1]; rfl
                  have hm1 := len_getD HLEN.out 1
                  obtain ⟨hTm, _⟩ := HR.out.ok r1 (List.mem_of_getElem? hr1)
                  obtain ⟨b', o', e', _, hc1⟩ := HR.out.at_ hr1
                  cases e'
                  obtain ⟨MA, m, mc⟩ := r1
                  simp only at hg1 hTm hc1
                  rw [hg1] at hm1
                  have hst := HST.out
                  unfold addsR at hst
                  rw [if_neg k2, if_neg k3, if_neg k5, if_pos k6, hg1] at hst
                  have hend : us ++ jnR p m r m.length = us ++ (if p = 0 then (valsOf m r.k).map fun v => (⟨r.k, wrap64 (r.v + v)⟩ : Rd) else []) := by unfold jnR; rw [List.take_length]
                  rw [← hend] at hst
                  have h12 : (1 : Int) < (ls.length : Int) := by omega
                  have h12n : 1 < ls.length := by omega
                  clear HST; have HST := Lib.hid hst; have HTM := Lib.hid hTm; have HC1 := Lib.hid hc1
                  clear hst hend hg1 hr1 hTm hc1 k2 k3 k5 k6 hlen2
                  go_wp2_with fail
                  go_loopw [5, 9] (fun fv vk wy => ∃ k : Nat, k ≤ m.length ∧ vk = .int .i64 k ∧ wy.ownsRow w1.heap.size 36 kindR.K fv (us ++ jnR p m r k).length (Rw.row kindR (us ++ jnR p m r k)) ∧ (∀ g, fv.ownBlock = some g → g ≠ B2) ∧ Row wy B2 36 [.int .i64 r.k, .int .i64 r.v] ∧ Below w1.heap.size w1 wy) (fun _ vk _ => m.length - (intOf vk).toNat)
                  case atStart => exact ⟨0, by omega, rfl, by rw [jnR_zero, List.append_nil]; exact HO1.out, HNE.out, HRW.out, HB2.out⟩
                  case round =>
                    obtain ⟨k, hk, rfl, hok, hnk, hrk, hbk⟩ := hrel
                    have HOK := Lib.hid hok; have HNK := Lib.hid hnk; have HRK := Lib.hid hrk; have HBK := Lib.hid hbk
                    clear hok hnk hrk hbk HO1 HNE HRW HB2 HND m0 m1 m2 m3 m4 p0 p1 q0 HBS
                    have hbw := HB1.out.trans (HBK.out.mono HB1.out.size)
                    have q1 := HC1.out wr hbw
                    have hjl := jnR_len (p := p) (m := m) (r := r) (k := k)
                    by_cases hkt : k < m.length
                    · have hktz : (k : Int) < (m.length : Int) := by omega
                      obtain ⟨y, hy⟩ : ∃ y, m[k]? = some y := ⟨_, List.getElem?_eq_getElem hkt⟩
                      obtain ⟨bm, om, rfl, hbm, hqy⟩ := recs_at HTM.out hy
                      have HY := Lib.hid hy; have HQY := Lib.hid hqy; clear hy hqy
                      obtain ⟨f0, f1⟩ := HQY.out wr hbw
                      obtain ⟨p0, p1⟩ := cells2 HRK.out
                      have HBW := Lib.hid hbw; clear hbw
                      by_cases hp0 : p = 0
                      · have z0 : ((p : Int) == 0) = true := by simp; omega
                        by_cases hyk : y.k = r.k
                        · have z1 : (y.k == r.k) = true := by simpa using hyk
                          have HJ := Lib.hid (jnR_yes hp0 HY.out hyk)
                          clear hp0 hyk
                          go_upto_region 23 with fail
                          go_quiet (fail)
                          go_upto_region 24 with fail
                          refine Free.wp_key2 (by kernel_rfl) (by kernel_rfl) (AF w1 B2 r u5 (us ++ jnR p m r k) ⟨r.k, wrap64 (r.v + y.v)⟩ 0 14 15 16) (vt6 u5 B2 bR oR c ls.length bm om m.length mc k r.k r.v y.v) (fun vs => AF.start (im := 0) (il := 14) (ia := 15) (ic := 16) (n := 17) (below_drewN HBK.out _) (HRK.out.drewN _) (Rw.own_kept HOK.out (below_drewN (Below.refl _ _) _)) (by decide) (by decide) (by decide)) ?_ ?_
                          · intro i o hi b vs a wa hold hpre hbi hF
                            have hold2 := fun (t : Nat) (ht : t ∉ Free.dsts _) => hold t fun j oj hj hd => absurd (Free.mem_dsts hj hd) ht
                            have hbw := HB1.out.trans (hF.below.mono HB1.out.size)
                            match i with
                            | 0 =>
                              cases hi
                              have hb16 : b 16 = false := by
                                cases e : b 16 with
                                | false => rfl
                                | true => have := hF.mv (hF.cp e).1; rw [hbi] at this; cases this
                              have h5 := hold 5 fun j oj hj hd => by
                                match j with
                                | 0 => cases hj; exact absurd hd (by decide)
                                | 1 => cases hj; exact absurd hd (by decide)
                                | 2 => cases hj; exact absurd hd (by decide)
                                | 3 => cases hj; exact absurd hd (by decide)
                                | 4 => cases hj; exact absurd hd (by decide)
                                | 5 => cases hj; exact absurd hd (by decide)
                                | 6 => cases hj; exact absurd hd (by decide)
                                | 7 => cases hj; exact absurd hd (by decide)
                                | 8 => cases hj; exact absurd hd (by decide)
                                | 9 => cases hj; exact absurd hd (by decide)
                                | 10 => cases hj; exact absurd hd (by decide)
                                | 11 => cases hj; exact absurd hd (by decide)
                                | 12 => cases hj; exact absurd hd (by decide)
                                | 13 => cases hj; exact absurd hd (by decide)
                                | 14 => cases hj; exact absurd hd (by decide)
                                | 15 => cases hj; exact absurd hd (by decide)
                                | 16 => exact hb16
                                | _ + 17 => cases hj
                              exact Free.c_all rfl (Free.g_move _ rfl ⟨h5.trans rfl, hF.quiet (by decide) (by decide) (by decide)⟩)
                            | 1 =>
                              cases hi
                              have h0 : a.eval (.tmp 8) = .pointer (some ⟨B2, 0, none⟩) := (hold2 8 (by decide)).trans rfl
                              exact Free.c_all rfl (Free.g_field (v := .pointer (some ⟨B2, 0, none⟩)) _ _ _ rfl h0 (by go_simp) ⟨rfl, hF.quiet (by decide) (by decide) (by decide)⟩)
                            | 2 =>
                              cases hi
                              have h0 : a.eval (.tmp 99) = .pointer (some ⟨B2, 0, none⟩) := (hpre 1 _ _ (by kernel_rfl) rfl rfl).2.2
                              have hc := hF.row.cell 0
                              simp only [List.getElem?_cons_zero, List.getElem?_cons_succ] at hc
                              exact Free.c_all rfl (Free.g_load (v := .int .i64 r.k) _ _ rfl h0 (by go_simp) ⟨rfl, hF.quiet (by decide) (by decide) (by decide)⟩)
                            | 3 =>
                              cases hi
                              have h0 : a.eval (.tmp 8) = .pointer (some ⟨B2, 0, none⟩) := (hold2 8 (by decide)).trans rfl
                              exact Free.c_all rfl (Free.g_field (v := .pointer (some ⟨B2, 1, none⟩)) _ _ _ rfl h0 (by go_simp) ⟨rfl, hF.quiet (by decide) (by decide) (by decide)⟩)
                            | 4 =>
                              cases hi
                              have h0 : a.eval (.tmp 101) = .pointer (some ⟨B2, 1, none⟩) := (hpre 3 _ _ (by kernel_rfl) rfl rfl).2.2
                              have hc := hF.row.cell 1
                              simp only [List.getElem?_cons_zero, List.getElem?_cons_succ] at hc
                              exact Free.c_all rfl (Free.g_load (v := .int .i64 r.v) _ _ rfl h0 (by go_simp) ⟨rfl, hF.quiet (by decide) (by decide) (by decide)⟩)
                            | 5 =>
                              cases hi
                              exact Free.c_all rfl (Free.g_move _ rfl ⟨(hold2 1 (by decide)).trans rfl, hF.quiet (by decide) (by decide) (by decide)⟩)
                            | 6 =>
                              cases hi
                              have h1 : a.eval (.tmp 103) = .slice (some ⟨bR, oR, none⟩) ls.length c := (hpre 5 _ _ (by kernel_rfl) rfl rfl).2.2
                              exact Free.c_all rfl (Free.g_indexAddr (v := .pointer (some ⟨bR, oR + 1, none⟩)) _ _ _ rfl h1 rfl (by go_simp) ⟨rfl, hF.quiet (by decide) (by decide) (by decide)⟩)
                            | 7 =>
                              cases hi
                              have h0 : a.eval (.tmp 104) = .pointer (some ⟨bR, oR + 1, none⟩) := (hpre 6 _ _ (by kernel_rfl) rfl rfl).2.2
                              have hc := HC1.out wa hbw
                              exact Free.c_all rfl (Free.g_load (v := .slice (some ⟨bm, om, none⟩) m.length mc) _ _ rfl h0 (by go_simp) ⟨rfl, hF.quiet (by decide) (by decide) (by decide)⟩)
                            | 8 =>
                              cases hi
                              exact Free.c_all rfl (Free.g_move _ rfl ⟨(hold2 9 (by decide)).trans rfl, hF.quiet (by decide) (by decide) (by decide)⟩)
                            | 9 =>
                              cases hi
                              have h1 : a.eval (.tmp 105) = .slice (some ⟨bm, om, none⟩) m.length mc := (hpre 7 _ _ (by kernel_rfl) rfl rfl).2.2
                              have h2 : a.eval (.tmp 106) = .int .i64 (k : Nat) := (hpre 8 _ _ (by kernel_rfl) rfl rfl).2.2
                              exact Free.c_all rfl (Free.g_indexAddr (v := .pointer (some ⟨bm, om + k * 2, none⟩)) _ _ _ rfl h1 h2 (by go_simp) ⟨rfl, hF.quiet (by decide) (by decide) (by decide)⟩)
                            | 10 =>
                              cases hi
                              have h1 : a.eval (.tmp 107) = .pointer (some ⟨bm, om + k * 2, none⟩) := (hpre 9 _ _ (by kernel_rfl) rfl rfl).2.2
                              exact Free.c_all rfl (Free.g_field (v := .pointer (some ⟨bm, om + k * 2 + 1, none⟩)) _ _ _ rfl h1 (by go_simp) ⟨rfl, hF.quiet (by decide) (by decide) (by decide)⟩)
                            | 11 =>
                              cases hi
                              have h0 : a.eval (.tmp 108) = .pointer (some ⟨bm, om + k * 2 + 1, none⟩) := (hpre 10 _ _ (by kernel_rfl) rfl rfl).2.2
                              have hc := (HQY.out wa hbw).2
                              exact Free.c_all rfl (Free.g_load (v := .int .i64 y.v) _ _ rfl h0 (by go_simp) ⟨rfl, hF.quiet (by decide) (by decide) (by decide)⟩)
                            | 12 =>
                              cases hi
                              have h1 : a.eval (.tmp 102) = .int .i64 r.v := (hpre 4 _ _ (by kernel_rfl) rfl rfl).2.2
                              have h2 : a.eval (.tmp 109) = .int .i64 y.v := (hpre 11 _ _ (by kernel_rfl) rfl rfl).2.2
                              exact Free.c_all rfl (Free.g_bin (v := .int .i64 (wrap64 (r.v + y.v))) _ _ _ _ _ rfl h1 h2 (by go_simp; exact wrap_is _) ⟨rfl, hF.quiet (by decide) (by decide) (by decide)⟩)
                            | 13 =>
                              cases hi
                              have h1 : a.eval (.tmp 100) = .int .i64 r.k := (hpre 2 _ _ (by kernel_rfl) rfl rfl).2.2
                              have h2 : a.eval (.tmp 110) = .int .i64 (wrap64 (r.v + y.v)) := (hpre 12 _ _ (by kernel_rfl) rfl rfl).2.2
                              exact Free.c_all rfl (Free.g_build _ _ rfl #[.int .i64 r.k, .int .i64 (wrap64 (r.v + y.v))] [(0, .int .i64 r.k), (1, .int .i64 (wrap64 (r.v + y.v)))] (by show [(0, a.eval (.tmp 100)), (1, a.eval (.tmp 110))] = _; rw [h1, h2]) (by rfl) ⟨rfl, hF.quiet (by decide) (by decide) (by decide)⟩)
                            | 14 =>
                              cases hi
                              have h0 : a.eval (.tmp 111) = Rd.val ⟨r.k, wrap64 (r.v + y.v)⟩ := (hpre 13 _ _ (by kernel_rfl) rfl rfl).2.2
                              exact Free.c_all rfl (Vr.m_lit _ _ _ [(0, Rd.val ⟨r.k, wrap64 (r.v + y.v)⟩)] rfl (by show [(0, a.eval (.tmp 111))] = _; rw [h0]) (build_r1 wa ⟨r.k, wrap64 (r.v + y.v)⟩) ⟨trivial, hF.one (by decide) (by decide) hbi⟩)
                            | 15 =>
                              cases hi
                              have h0 := hpre 0 _ _ (by kernel_rfl) rfl rfl
                              have h9 := hpre 14 _ _ (by kernel_rfl) rfl rfl
                              obtain ⟨v', w', hrun, hF2⟩ := hF.add (by decide) (by decide) (by decide) h0.1 (by rw [List.length_append]; omega) HNK.out h9.1 hbi
                              exact Free.c_all rfl (m_append _ _ _ rfl _ _ h0.2.2 h9.2.1 hrun ⟨trivial, hF2⟩)
                            | 16 =>
                              cases hi
                              have h10 := hpre 15 _ _ (by kernel_rfl) rfl rfl
                              exact Free.c_all rfl (Free.g_assign _ rfl ⟨trivial, by rw [h10.2.1]; exact hF.copy (by decide) (by decide) h10.1⟩)
                            | _ + 17 => cases hi
                          · intro vs we hv hF
                            have hcp := (hF.cp rfl).2
                            have HB6 := Lib.hid hF.below; have HO6 := Lib.hid (hF.app rfl).1; have HN6 := Lib.hid (hF.app rfl).2; have HR6 := Lib.hid hF.row
                            clear hF hv
                            simp only [Free.puts, Nat.reduceAdd, hcp]
                            clear hcp
                            generalize vs 15 = v15 at *
                            generalize vs 0 = y0 at *
                            generalize vs 1 = y1 at *
                            generalize vs 2 = y2 at *
                            generalize vs 3 = y3 at *
                            generalize vs 4 = y4 at *
                            generalize vs 5 = y5 at *
                            generalize vs 6 = y6 at *
                            generalize vs 7 = y7 at *
                            generalize vs 8 = y8 at *
                            generalize vs 9 = y9 at *
                            generalize vs 10 = y10 at *
                            generalize vs 11 = y11 at *
                            generalize vs 12 = y12 at *
                            generalize vs 13 = y13 at *
                            generalize vs 14 = y14 at *
                            go_simp
                            go_wp2_with fail
                            go_roundw
                            case rel => exact ⟨k + 1, by omega, by simp, by rw [HJ.out, ← List.append_assoc]; exact HO6.out, HN6.out, HR6.out, HB6.out⟩
                            case measure => simp only [intOf]; omega
                        · have z1 : (y.k == r.k) = false := by simpa using hyk
                          have HJ := Lib.hid (jnR_no (p := p) HY.out (fun h => hyk h.2))
                          clear hp0 hyk
                          go_upto_region 23 with fail
                          go_quiet (fail)
                          go_wp2_with fail
                          go_roundw
                          case rel => exact ⟨k + 1, by omega, by simp, by rw [HJ.out]; exact Rw.own_kept HOK.out (below_drewN (Below.refl _ _) _), HNK.out, HRK.out.drewN _, below_drewN HBK.out _⟩
                          case measure => simp only [intOf]; omega
                      · have z0 : ((p : Int) == 0) = false := by simp; omega
                        have HJ := Lib.hid (jnR_no (p := p) (r := r) HY.out (fun h => hp0 h.1))
                        clear hp0
                        go_upto_region 23 with fail
                        go_quiet (fail)
                        go_wp2_with fail
                        go_roundw
                        case rel => exact ⟨k + 1, by omega, by simp, by rw [HJ.out]; exact Rw.own_kept HOK.out (below_drewN (Below.refl _ _) _), HNK.out, HRK.out.drewN _, below_drewN HBK.out _⟩
                        case measure => simp only [intOf]; omega
                    · have hkl : k = m.length := by omega
                      subst hkl
                      go_wp2_with fail
                      go_roundw
                      case rel => exact ⟨i + 1, by omega, by simp, by rw [HST.out]; exact HOK.out, HBK.out⟩
                      case measure => simp only [intOf]; omega
                · have z2 : (((n.k : Nat) : Int) == 2) = false := by simp; omega
                  have z3 : (((n.k : Nat) : Int) == 3) = false := by simp; omega
                  have z5 : (((n.k : Nat) : Int) == 5) = false := by simp; omega
                  have z6 : (((n.k : Nat) : Int) == 6) = false := by simp; omega
                  have hst := HST.out
                  unfold addsR at hst
                  rw [if_neg k2, if_neg k3, if_neg k5, if_neg k6] at hst
                  clear HST; have HST := Lib.hid hst; clear hst k2 k3 k5 k6
                  go_wp2_with (at_builtin; refine Rw.append_own kindR 36 28 Try.underlying28 infoRec rfl rfl _ _ rfl w1.heap.size _ us.length us rfl (HO1.out.alloc _) _ 1 [r] rfl (by simp) (Rw.Ts.made _ [r] _) (by unfold maxLen; simp; omega) (by simp; omega) (by have := HBS.out; simp; omega) ?_; intro v2 w6 hv2 hg2; have hb6 := Rw.own_below (HO1.out.alloc _) hg2 (HB2.out.alloc HBS.out _) (by have := HBS.out; simp; omega); have HV : Hid (w6.ownsRow w1.heap.size 36 kindR.K v2 (us ++ [r]).length (Rw.row kindR (us ++ [r]))) := Lib.hid (by rw [List.length_append]; exact hv2); have HB6 := Lib.hid hb6; clear hv2 hg2 hb6 p0 p1)
                  go_roundw
                  case rel => exact ⟨i + 1, by omega, by simp, by rw [HST.out]; exact HV.out, HB6.out⟩
                  case measure => simp only [intOf]; omega
        · have hil : i = l.length := by omega
          subst hil
          go_wp2_with fail
          go_roundw
          case rel => exact ⟨p + 1, by omega, by simp, by rw [HUP.out]; exact HOI.out, HBI.out⟩
          case measure => simp only [intOf]; omega
    · have hpl : p = ls.length := by omega
      subst hpl
      go_wp2_with fail
      go_ret
      exact ⟨⟨_, rfl, RowV.own HO.out⟩, HB1.out.trans (HB.out.mono HB1.out.size)⟩
end Op
end Go.Proofs.Ytcjdjdhjbchaaaa
