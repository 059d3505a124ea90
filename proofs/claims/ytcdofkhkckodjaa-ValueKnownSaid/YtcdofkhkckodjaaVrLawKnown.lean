/- ValueKnown: the examples hold; all rows of three records out of four, in pairs; numbers at the bounds. -/
import Derived.Test.YtcdofkhkckodjaaVrWorks
import Derived.SizedLaws
import Derived.Test.YtcdofkhkckodjaaVrLawTwo
import Derived.Test.YtcdofkhkckodjaaVrLawAdds
import Derived.Test.YtcdofkhkckodjaaVrLawBytes
namespace Go.Proofs.Ytcdofkhkckodjaa
open Go.ChangeShapes Go.WideShapes Go.ChangeAt Go.RowKit Go.BigFrame
open Vr
set_option linter.unusedVariables false
set_option maxRecDepth 100000
namespace valueKnown
def rs : List Rd := [⟨1, 5⟩, ⟨-9223372036854775808, 9223372036854775807⟩, ⟨1, -1⟩, ⟨256, 1099511627776⟩]
theorem rs_W : ∀ r ∈ rs, r.W := by
  intro r hr
  unfold rs at hr
  simp only [List.mem_cons, List.not_mem_nil, or_false] at hr
  rcases hr with rfl | rfl | rfl | rfl <;> exact ⟨⟨by decide, by decide⟩, by decide, by decide⟩
abbrev Yes (w : World) (e : Ending) (w' : World) : Prop := e = .returned (.bool true) ∧ Below w.heap.size w w'
section
variable {w : World} {va vb vc : Value} {a b c : List Rd} {xs : List Nat}
theorem two_v (h : RowV w va a) (k : RowV w vb b) : Calls Try.prog 3 #[va, vb] w (Yes w) := by
  have h' := h; have k' := k
  obtain ⟨A, c, rfl, _⟩ := h
  obtain ⟨B, d, rfl, _⟩ := k
  exact valueTwo.walk A B a b c d w h' k'
theorem adds_v (h : RowV w va a) (k : RowV w vb b) (j : RowV w vc c) (i : Int) (hi : -9223372036854775808 ≤ i ∧ i ≤ 9223372036854775807) : Calls Try.prog 5 #[va, vb, vc, .int .i64 i] w (Yes w) := by
  have h' := h; have k' := k; have j' := j
  obtain ⟨A, d, rfl, _⟩ := h
  obtain ⟨B, e, rfl, _⟩ := k
  obtain ⟨C, f, rfl, _⟩ := j
  exact valueAdds.walk A B C a b c d e f i hi w h' k' j'
theorem bytes_v (h : RowV w va a) (k : BytV w vb xs) (hW : ∀ r ∈ a, r.W) : Calls Try.prog 4 #[va, vb] w (Yes w) := by
  have h' := h; have k' := k
  obtain ⟨A, c, rfl, _⟩ := h
  obtain ⟨B, d, rfl, _⟩ := k
  exact valueBytes.walk A B a xs c d w h' k' hW
end
theorem three_take {w : World} {g i : Nat} {x y z : Rd} (h : RowV w (.slice (some ⟨g, 0, none⟩) 3 3) [x, y, z]) (hi : i ≤ 3) : RowV w (.slice (some ⟨g, 0, none⟩) i 3) ([x, y, z].take i) := by
  obtain ⟨A, c, e, hT, hn, h1, h2⟩ := h
  cases e
  exact ⟨_, 3, by rw [List.length_take]; simp; omega, hT.take i, (fun e => by cases e), by rw [List.length_take]; simp; omega, by decide⟩
theorem made_bytes (n : Nat) : (madeCells (Value.int .u8 0).cells (n * 1)).toList = Rw.row kindB (List.replicate n 0) := by
  have hz : (Value.int .u8 0).cells = #[.int .u8 0] := rfl
  rw [hz]
  apply List.ext_getElem?
  intro j
  by_cases hj : j < n * 1
  · have hr : (List.replicate n (0 : Nat))[j]? = some 0 := by rw [List.getElem?_replicate, if_pos (by omega)]
    have hrow := Rw.row_at (κ := kindB) (List.replicate n 0) j 0 hr 0 (.int .u8 0) rfl
    rw [show j * kindB.K + 0 = j by show j * 1 + 0 = j; omega] at hrow
    rw [hrow]
    have hj' : j < n := by omega
    simp [madeCells, hj', Nat.mod_one]
  · rw [List.getElem?_eq_none (by simp [madeCells]; omega), List.getElem?_eq_none (by rw [Rw.row_len, List.length_replicate]; exact Nat.le_of_not_lt hj)]
theorem bytes_of_ts {w : World} {A : Option Addr} {xs : List Nat} (hT : Rw.Ts kindB w A xs) (hx : ∀ x ∈ xs, x < 256) : Bytes w A xs := by
  refine ⟨hx, fun hn => ?_⟩
  obtain ⟨b, o, rfl, hlt, _⟩ := hT hn
  refine ⟨_, rfl, hlt, fun j x hj => ?_⟩
  obtain ⟨_, _, e, _, hc⟩ := bytes_at hT hj
  cases e
  rw [add_at]
  exact hc w (Below.refl _ _)
theorem make_zero (n : Nat) (hn : n ≤ 100) (wz : World) : (Instr.makeSlice 34 (.int .i64 (n : Nat)) (.int .i64 (n : Nat))).run Try.prog wz = .ok (.slice (some ⟨wz.heap.size, 0, none⟩) n n) (wz.alloc (.cells (Rw.row kindB (List.replicate n 0)).toArray 5)) := by
  obtain ⟨i0, hi0, hz0, hz1, hz2⟩ := info_parts infoU8
  have := run_make (P := Try.prog) wz 34 5 i0 _ Try.underlying34 hi0 hz0 .i64 .i64 n n (by omega) (Int.le_refl _) (by rw [hz2]; omega) (by omega)
  simp only [Int.toNat_natCast] at this
  rw [this, hz1, ← made_bytes, Array.toArray_toList]
theorem zero_byt (n : Nat) (hn : n ≤ 100) (wz : World) : BytV (wz.alloc (.cells (Rw.row kindB (List.replicate n 0)).toArray 5)) (.slice (some ⟨wz.heap.size, 0, none⟩) n n) (List.replicate n 0) := by
  refine ⟨_, n, by rw [List.length_replicate], bytes_of_ts (Rw.Ts.made wz (List.replicate n 0) _) (fun x hx => by have := List.eq_of_mem_replicate hx; omega), by simp, by unfold maxLen; omega⟩
set_option maxHeartbeats 16000000 in
theorem walk (w : World) : Calls Try.prog 8 #[] w (Yes w) := by
  go_enter Try.func8, Try.ntmps8
  go_upto_region 2 with fail
  have hR : RowV (w.alloc (.cells #[.int .i64 1, .int .i64 5, .int .i64 (-9223372036854775808), .int .i64 9223372036854775807, .int .i64 1, .int .i64 (-1), .int .i64 256, .int .i64 1099511627776] 32)) (.slice (some ⟨w.heap.size, 0, none⟩) 4 4) rs := RowV.made w rs (by decide) _ rfl 4 rfl
  have hb : Below w.heap.size w (w.alloc (.cells #[.int .i64 1, .int .i64 5, .int .i64 (-9223372036854775808), .int .i64 9223372036854775807, .int .i64 1, .int .i64 (-1), .int .i64 256, .int .i64 1099511627776] 32)) := (Below.refl _ w).alloc (Nat.le_refl _) _
  obtain ⟨w1, hw1⟩ : ∃ w1, w.alloc (.cells #[.int .i64 1, .int .i64 5, .int .i64 (-9223372036854775808), .int .i64 9223372036854775807, .int .i64 1, .int .i64 (-1), .int .i64 256, .int .i64 1099511627776] 32) = w1 := ⟨_, rfl⟩
  rw [hw1] at hR hb ⊢
  clear hw1
  obtain ⟨g, hg⟩ : ∃ g, w.heap.size = g := ⟨_, rfl⟩
  have HR := Lib.hid hR; have Hb := Lib.hid hb; clear hR hb
  rw [hg] at HR ⊢
  have HG := Lib.hid hg; clear hg
  have HB1 : Hid (w.heap.size ≤ w1.heap.size) := Lib.hid Hb.out.size
  go_wp2_with fail
  go_loopw [2, 3, 4] (fun vm va vb wr => ∃ m : Nat, vm = .int .i64 (m : Nat) ∧ m ≤ 4100 ∧ Below w1.heap.size w1 wr) (fun vm _ _ _ => 5000 - (intOf vm).toNat)
  case atStart => exact ⟨0, rfl, by omega, Below.refl _ _⟩
  case round =>
    obtain ⟨m, rfl, hm, hbr⟩ := hrel
    have HBR := Lib.hid hbr; clear hbr
    by_cases hlt : m < 4096
    · have hltz : (m : Int) < 4096 := by omega
      have d1 : decide ((m : Int) < 4096) = true := by simp; omega
      obtain ⟨i0, h0⟩ : ∃ i0 : Nat, (m : Int) % 4 = (i0 : Int) := ⟨m % 4, by omega⟩
      obtain ⟨i1, h1⟩ : ∃ i0 : Nat, (m : Int) / 4 % 4 = (i0 : Int) := ⟨m / 4 % 4, by omega⟩
      obtain ⟨i2, h2⟩ : ∃ i0 : Nat, (m : Int) / 16 % 4 = (i0 : Int) := ⟨m / 16 % 4, by omega⟩
      obtain ⟨j0, k0⟩ : ∃ i0 : Nat, (m : Int) / 64 % 4 = (i0 : Int) := ⟨m / 64 % 4, by omega⟩
      obtain ⟨j1, k1⟩ : ∃ i0 : Nat, (m : Int) / 256 % 4 = (i0 : Int) := ⟨m / 256 % 4, by omega⟩
      obtain ⟨j2, k2⟩ : ∃ i0 : Nat, (m : Int) / 1024 = (i0 : Int) := ⟨m / 1024, by omega⟩
      have v0 : i0 < 4 := by omega
      have v1 : i1 < 4 := by omega
      have v2 : i2 < 4 := by omega
      have u0 : j0 < 4 := by omega
      have u1 : j1 < 4 := by omega
      have u2 : j2 < 4 := by omega
      have v0z : (i0 : Int) < 4 := by omega
      have v1z : (i1 : Int) < 4 := by omega
      have v2z : (i2 : Int) < 4 := by omega
      have u0z : (j0 : Int) < 4 := by omega
      have u1z : (j1 : Int) < 4 := by omega
      have u2z : (j2 : Int) < 4 := by omega
      have q1 : IntKind.i64.wrap ((m : Int) / 4) = (m : Int) / 4 := IntWalk.i64_in _ (by omega)
      have q2 : IntKind.i64.wrap ((m : Int) / 16) = (m : Int) / 16 := IntWalk.i64_in _ (by omega)
      have q3 : IntKind.i64.wrap ((m : Int) / 64) = (m : Int) / 64 := IntWalk.i64_in _ (by omega)
      have q4 : IntKind.i64.wrap ((m : Int) / 256) = (m : Int) / 256 := IntWalk.i64_in _ (by omega)
      have q5 : IntKind.i64.wrap ((m : Int) / 1024) = (m : Int) / 1024 := IntWalk.i64_in _ (by omega)
      have HT := Lib.hid (valueTwo.ts_of (c := 4) (l := rs) HR.out)
      have at_ : ∀ i, i < 4 → ∃ x, rs[i]? = some x := fun i h => ⟨_, List.getElem?_eq_getElem (by show i < 4; exact h)⟩
      obtain ⟨x0, hx0⟩ := at_ i0 (by assumption)
      obtain ⟨bx0, ox0, ex0, lx0, cx0⟩ := recs_at HT.out hx0
      cases ex0
      have Wx0 := Lib.hid (rs_W _ (List.mem_of_getElem? hx0))
      obtain ⟨x1, hx1⟩ := at_ i1 (by assumption)
      obtain ⟨bx1, ox1, ex1, lx1, cx1⟩ := recs_at HT.out hx1
      cases ex1
      have Wx1 := Lib.hid (rs_W _ (List.mem_of_getElem? hx1))
      obtain ⟨x2, hx2⟩ := at_ i2 (by assumption)
      obtain ⟨bx2, ox2, ex2, lx2, cx2⟩ := recs_at HT.out hx2
      cases ex2
      have Wx2 := Lib.hid (rs_W _ (List.mem_of_getElem? hx2))
      obtain ⟨y0, hy0⟩ := at_ j0 (by assumption)
      obtain ⟨by0, oy0, ey0, ly0, cy0⟩ := recs_at HT.out hy0
      cases ey0
      have Wy0 := Lib.hid (rs_W _ (List.mem_of_getElem? hy0))
      obtain ⟨y1, hy1⟩ := at_ j1 (by assumption)
      obtain ⟨by1, oy1, ey1, ly1, cy1⟩ := recs_at HT.out hy1
      cases ey1
      have Wy1 := Lib.hid (rs_W _ (List.mem_of_getElem? hy1))
      obtain ⟨y2, hy2⟩ := at_ j2 (by assumption)
      obtain ⟨by2, oy2, ey2, ly2, cy2⟩ := recs_at HT.out hy2
      cases ey2
      have Wy2 := Lib.hid (rs_W _ (List.mem_of_getElem? hy2))
      obtain ⟨px0, rx0⟩ := cx0 wr HBR.out
      obtain ⟨px1, rx1⟩ := cx1 wr HBR.out
      obtain ⟨px2, rx2⟩ := cx2 wr HBR.out
      simp only [Nat.zero_add] at *
      have c3a : (i0 : Int) ≤ 3 := by omega
      have c3b : i0 ≤ 3 := by omega
      obtain ⟨n3, t3⟩ : ∃ i0 : Nat, (m : Int) % 3 = (i0 : Int) := ⟨m % 3, by omega⟩
      have c3c : (n3 : Int) ≤ 3 := by omega
      have c3d : n3 ≤ 3 := by omega
      have HY0 := Lib.hid cy0; have HY1 := Lib.hid cy1; have HY2 := Lib.hid cy2
      clear cy0 cy1 cy2 cx0 cx1 cx2 at_ hx0 hx1 hx2 hy0 hy1 hy2
      go_upto_region 5 with fail
      go_region
      have HAT := Lib.hid (show valueTwo.At w1 wr from HBR.out); clear HBR
      have hX : RowV ((wr.alloc (.cells #[.int .i64 x0.k, .int .i64 x0.v, .int .i64 x1.k, .int .i64 x1.v, .int .i64 x2.k, .int .i64 x2.v] 32)).drew) (.slice (some ⟨wr.heap.size, 0, none⟩) 3 3) [x0, x1, x2] := (RowV.made wr [x0, x1, x2] (show 3 ≤ maxLen by decide) _ rfl 3 rfl).below (Below.refl _ _).drew
      have hb : Below wr.heap.size wr ((wr.alloc (.cells #[.int .i64 x0.k, .int .i64 x0.v, .int .i64 x1.k, .int .i64 x1.v, .int .i64 x2.k, .int .i64 x2.v] 32)).drew) := ((Below.refl _ wr).alloc (Nat.le_refl _) _).drew
      obtain ⟨w2, hw⟩ : ∃ w2, (wr.alloc (.cells #[.int .i64 x0.k, .int .i64 x0.v, .int .i64 x1.k, .int .i64 x1.v, .int .i64 x2.k, .int .i64 x2.v] 32)).drew = w2 := ⟨_, rfl⟩
      rw [hw] at hX hb ⊢
      clear hw
      obtain ⟨ga, hg⟩ : ∃ ga, wr.heap.size = ga := ⟨_, rfl⟩
      have HBN := Lib.hid hb; clear hb
      rw [hg] at hX ⊢
      clear hg
      have HX := Lib.hid hX; clear hX
      have hb := HBN.out; clear HBN
      have h := HAT.out.below hb; clear HAT; have HAT := Lib.hid h; clear h
      clear hb
      clear px0 px1 px2 rx0 rx1 rx2
      obtain ⟨py0, ry0⟩ := HY0.out w2 HAT.out
      obtain ⟨py1, ry1⟩ := HY1.out w2 HAT.out
      obtain ⟨py2, ry2⟩ := HY2.out w2 HAT.out
      go_upto_region 6 with fail
      go_region
      have hY : RowV ((w2.alloc (.cells #[.int .i64 y0.k, .int .i64 y0.v, .int .i64 y1.k, .int .i64 y1.v, .int .i64 y2.k, .int .i64 y2.v] 32)).drew) (.slice (some ⟨w2.heap.size, 0, none⟩) 3 3) [y0, y1, y2] := (RowV.made w2 [y0, y1, y2] (show 3 ≤ maxLen by decide) _ rfl 3 rfl).below (Below.refl _ _).drew
      have hb : Below w2.heap.size w2 ((w2.alloc (.cells #[.int .i64 y0.k, .int .i64 y0.v, .int .i64 y1.k, .int .i64 y1.v, .int .i64 y2.k, .int .i64 y2.v] 32)).drew) := ((Below.refl _ w2).alloc (Nat.le_refl _) _).drew
      obtain ⟨w3, hw⟩ : ∃ w3, (w2.alloc (.cells #[.int .i64 y0.k, .int .i64 y0.v, .int .i64 y1.k, .int .i64 y1.v, .int .i64 y2.k, .int .i64 y2.v] 32)).drew = w3 := ⟨_, rfl⟩
      rw [hw] at hY hb ⊢
      clear hw
      obtain ⟨gb, hg⟩ : ∃ gb, w2.heap.size = gb := ⟨_, rfl⟩
      have HBN := Lib.hid hb; clear hb
      rw [hg] at hY ⊢
      clear hg
      have HY := Lib.hid hY; clear hY
      have hb := HBN.out; clear HBN
      have h := HAT.out.below hb; clear HAT; have HAT := Lib.hid h; clear h
      have h := HX.out.below hb; clear HX; have HX := Lib.hid h; clear h
      clear hb
      clear py0 py1 py2 ry0 ry1 ry2 HY0 HY1 HY2
      have hWx : ∀ r ∈ [x0, x1, x2], r.W := by
        intro r hr
        simp only [List.mem_cons, List.not_mem_nil, or_false] at hr
        rcases hr with rfl | rfl | rfl
        · exact Wx0.out
        · exact Wx1.out
        · exact Wx2.out
      have HWX := Lib.hid hWx; clear hWx
      obtain ⟨ps, eps⟩ : ∃ ps, putR [y0, y1, y2] = ps := ⟨_, rfl⟩
      have HPS := Lib.hid eps; clear eps
      have hc := two_v HX.out (three_take HY.out c3b)
      have HC := Lib.hid hc; clear hc
      go_wp2_with fail
      refine HC.out.mono ?_; rintro e w4 ⟨rfl, hb0⟩
      clear HC
      have hb := hb0
      clear hb0
      have h := HAT.out.below hb; clear HAT; have HAT := Lib.hid h; clear h
      have h := HX.out.below hb; clear HX; have HX := Lib.hid h; clear h
      have h := HY.out.below hb; clear HY; have HY := Lib.hid h; clear h
      clear hb
      dsimp only
      have hc := adds_v (three_take HX.out c3d) HY.out HX.out (m : Int) (by omega)
      have HC := Lib.hid hc; clear hc
      go_wp2_with fail
      refine HC.out.mono ?_; rintro e w5 ⟨rfl, hb0⟩
      clear HC
      have hb := hb0
      clear hb0
      have h := HAT.out.below hb; clear HAT; have HAT := Lib.hid h; clear h
      have h := HX.out.below hb; clear HX; have HX := Lib.hid h; clear h
      have h := HY.out.below hb; clear HY; have HY := Lib.hid h; clear h
      clear hb
      dsimp only
      have hc := refPut_v HY.out (show 3 ≤ 10000 by decide)
      rw [HPS.out] at hc
      have HC := Lib.hid hc; clear hc
      go_wp2_with fail
      refine HC.out.mono ?_; rintro e w6 ⟨⟨v, rfl, hr⟩, hb0⟩
      clear HC
      have hb := hb0
      clear hb0
      have h := HAT.out.below hb; clear HAT; have HAT := Lib.hid h; clear h
      have h := HX.out.below hb; clear HX; have HX := Lib.hid h; clear h
      have h := HY.out.below hb; clear HY; have HY := Lib.hid h; clear h
      clear hb
      obtain ⟨AP, cP, rfl, zP⟩ := hr
      have HP := Lib.hid (show BytV w6 (.slice AP ps.length cP) ps from ⟨AP, cP, rfl, zP⟩); clear zP
      dsimp only
      have hc := bytes_v HX.out HP.out HWX.out
      have HC := Lib.hid hc; clear hc
      go_wp2_with fail
      refine HC.out.mono ?_; rintro e w7 ⟨rfl, hb0⟩
      clear HC
      have hb := hb0
      clear hb0
      have h := HAT.out.below hb; clear HAT; have HAT := Lib.hid h; clear h
      have h := HX.out.below hb; clear HX; have HX := Lib.hid h; clear h
      have h := HY.out.below hb; clear HY; have HY := Lib.hid h; clear h
      have h := HP.out.below hb; clear HP; have HP := Lib.hid h; clear h
      clear hb
      dsimp only
      go_wp2_with fail
      go_roundw
      case rel => exact ⟨m + 5, by simp, by omega, HAT.out⟩
      case measure => simp only [intOf]; omega
    · have hltz : ¬ (m : Int) < 4096 := by omega
      have d1 : decide ((m : Int) < 4096) = false := by simp; omega
      clear hlt
      go_wp2_with fail
      go_loopw [5] (fun vi wx => ∃ i : Nat, vi = .int .i64 (i : Nat) ∧ i ≤ 34 ∧ Below w1.heap.size w1 wx) (fun vi _ => 34 - (intOf vi).toNat)
      case atStart => exact ⟨0, rfl, by omega, HBR.out⟩
      case round =>
        obtain ⟨wx, rfl⟩ : ∃ wx, wx = wr := ⟨_, rfl⟩
        obtain ⟨i, rfl, hi, hbx⟩ := hrel
        have HAT := Lib.hid (show valueTwo.At w1 wx from hbx); clear hbx
        by_cases hlt : i < 34
        · have hiz : (i : Int) < 34 := by omega
          have d2 : decide ((i : Int) < 34) = true := by simp; omega
          have hmk := make_zero i (by omega)
          have HZ := Lib.hid (zero_byt i (by omega) wx)
          have hc := bytes_v (RowV.nil _) HZ.out (by simp)
          have HC := Lib.hid hc; clear hc
          go_wp2_with fail
          refine HC.out.mono ?_; rintro e w21 ⟨rfl, hb0⟩
          clear HC
          have hb : Below wx.heap.size wx w21 := ((Below.refl _ wx).alloc (Nat.le_refl _) _).trans (hb0.mono (by simp))
          clear hb0
          have h := HAT.out.below hb; clear HAT; have HAT := Lib.hid h; clear h
          clear hb
          dsimp only
          go_wp2_with fail
          go_roundw
          case rel => exact ⟨i + 1, by simp, by omega, HAT.out⟩
          case measure => simp only [intOf]; omega
        · have hiz : ¬ (i : Int) < 34 := by omega
          have d2 : decide ((i : Int) < 34) = false := by simp; omega
          clear hlt
          have h := HR.out.below HAT.out; clear HR; have HR := Lib.hid h; clear h
          have h := Hb.out.trans (Below.mono HAT.out HB1.out); clear Hb; have Hb := Lib.hid h; clear h
          have hc := two_v (RowV.nil wx) (RowV.nil wx)
          have HC := Lib.hid hc; clear hc
          go_wp2_with fail
          refine HC.out.mono ?_; rintro e w31 ⟨rfl, hb0⟩
          clear HC
          have hb := hb0
          clear hb0
          have h := HR.out.below hb; clear HR; have HR := Lib.hid h; clear h
          have h := Hb.out.trans (hb.mono Hb.out.size); clear Hb hb; have Hb := Lib.hid h; clear h
          dsimp only
          have hc := two_v HR.out (RowV.nil w31)
          have HC := Lib.hid hc; clear hc
          go_wp2_with fail
          refine HC.out.mono ?_; rintro e w32 ⟨rfl, hb0⟩
          clear HC
          have hb := hb0
          clear hb0
          have h := HR.out.below hb; clear HR; have HR := Lib.hid h; clear h
          have h := Hb.out.trans (hb.mono Hb.out.size); clear Hb hb; have Hb := Lib.hid h; clear h
          dsimp only
          have hc := two_v (RowV.nil w32) HR.out
          have HC := Lib.hid hc; clear hc
          go_wp2_with fail
          refine HC.out.mono ?_; rintro e w33 ⟨rfl, hb0⟩
          clear HC
          have hb := hb0
          clear hb0
          have h := HR.out.below hb; clear HR; have HR := Lib.hid h; clear h
          have h := Hb.out.trans (hb.mono Hb.out.size); clear Hb hb; have Hb := Lib.hid h; clear h
          dsimp only
          have hc := works_any w33
          have HC := Lib.hid hc; clear hc
          go_wp2_with fail
          refine HC.out.mono ?_; rintro e w34 ⟨rfl, hb0⟩
          clear HC
          have hb := hb0
          clear hb0
          have h := HR.out.below hb; clear HR; have HR := Lib.hid h; clear h
          have h := Hb.out.trans (hb.mono Hb.out.size); clear Hb hb; have Hb := Lib.hid h; clear h
          dsimp only
          go_wp2_with fail
          go_ret
          first | exact ⟨rfl, Hb.out⟩ | exact ⟨rfl, by rw [← HG.out]; exact Hb.out⟩

set_option maxRecDepth 100000 in
theorem lifted (os : Os) (started : os.Started) (H : Type) (enc : TypeId × Value → H) :
    ReturnsInHanded {} Try.checked os 8 .any (Rows.valueKnownSpec.pre6 enc Try.prog Try.f8 Rows.valueKnownRow.domain false) (Rows.valueKnownSpec.post enc Try.prog Try.f8 false true false false) := by
  refine returnsInHanded_of_change_sized (C := Try.checked) ownKnob_none started (by kernel_rfl) Try.func8
    (ChangeSpec.witness6 (enc := enc) (C := Try.checked) false ⟨#[], #[], []⟩ 8 (by kernel_rfl) (by kernel_rfl) (by kernel_rfl) (by kernel_rfl)) ?_
  intro W base args ds gs before hval0 hW hcnd hsz0 _
  have hval : ∀ (j : Nat) t v, Try.f8.params[j]? = some t → args[j]? = some v → Value.okWide Try.prog W .any base t v := hval0
  have hW' := hW
  obtain ⟨p, q, hA0, hV, rfl, hfz, hnd⟩ := hW
  have hA : DataW.TrodAll enc Try.prog W 0 (fun _ => true) true Try.f8.params.toList args.toList ds p := hA0
  have hsz : (DataW.weightsEach Try.prog (Try.f8.params.toList ++ Rows.valueKnownSpec.plain.varTypes Try.prog) (ds ++ gs)).all (· ≤ reachBytes) = true := hsz0
  rw [Try.params8] at hA hval hsz
  obtain ⟨hargs, rfl, rfl⟩ := trodAll_nil hA
  obtain rfl : args = #[] := by cases args; simp_all
  obtain ⟨rfl, rfl⟩ := trodVars_none hV
  clear hA0 hval0 hsz0
  refine (walk W).mono fun e W' ⟨he, hg⟩ => ?_
  subst he
  exact ⟨_, rfl, law_post progLaid hW' rfl (by rw [Try.params8]; intro t ht; simp at ht) rfl Try.underlying4 rfl hg⟩

theorem over : Rows.valueKnownRow.holds Try.pinned (OpenSpec.ofChange Rows.valueKnownSpec) :=
  OpenClaim.holds_of_wide 8 Try.f8 rfl rfl rfl rfl rfl rfl rfl ⟨rfl, rfl, rfl, rfl, rfl⟩ rfl rfl rfl rfl rfl (by kernel_rfl) Try.func8 (by kernel_rfl)
    (of_decide_eq_true (by kernel_rfl)) (by unfold Func.isWrapper; first | (rw [if_pos (by decide +kernel)]; kernel_rfl) | (rw [if_neg (by decide +kernel)]; exact ⟨rfl, rfl⟩))
    (fun os started H enc _ => lifted os started H enc)

/-- The statement. -/
theorem proved : Rows.ValueKnownSaid :=
  over
end valueKnown
end Go.Proofs.Ytcdofkhkckodjaa
