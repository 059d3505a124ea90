/- Get, the document's. -/
import Derived.Test.YtmjbclinlojboaaGrGetMath
import Derived.Deep.RegionHeld3
import Derived.Deep.RegionLaw
import Derived.Deep.AppendLies
import Derived.IntWalk
namespace Go.Proofs.Ytmjbclinlojboaa
open Go.ChangeShapes Go.WideShapes Go.ChangeAt Go.RowKit Go.BigFrame
set_option linter.unusedVariables false
set_option maxRecDepth 100000
theorem own_base {w : World} {base base' K n : Nat} {T : TypeId} {v : Value} {xs : List Value} (h : w.ownsRow base T K v n xs) (hb : base' ≤ base) : w.ownsRow base' T K v n xs := by
  obtain ⟨h1, h2 | ⟨g, cap, cur, e, hg, h3⟩⟩ := h
  · exact ⟨h1, .inl h2⟩
  · exact ⟨h1, .inr ⟨g, cap, cur, e, by omega, h3⟩⟩
/-- in a round: the node's box at g, and its inputs, since the world wr -/
structure RoundS (wr W : World) (g : Nat) (cs : List Value) (iv : Value) (ins : List Int) : Prop where
  below : Below wr.heap.size wr W
  row : Row W g 48 cs
  hg : wr.heap.size ≤ g
  own : W.ownsRow wr.heap.size 3 kindI.K iv ins.length (Rw.row kindI ins)
section
variable {wr W : World} {g : Nat} {cs : List Value} {iv : Value} {ins : List Int}
theorem RoundS.set (h : RoundS wr W g cs iv ins) (j : Nat) (u : Value) : RoundS wr (W.setCell ⟨g, j, none⟩ u) g (cs.set j u) iv ins where
  below := h.below.setCell h.hg u
  row := h.row.put j u
  hg := h.hg
  own := h.own.kept (grown_set W g j u) (.inr fun e => Rw.own_apart h.own h.row (by decide) e.symm)
theorem RoundS.drew (h : RoundS wr W g cs iv ins) : RoundS wr W.drew g cs iv ins := ⟨h.below.drew, h.row, h.hg, h.own⟩
theorem RoundS.more {W' : World} {iv' : Value} {z : Int} (h : RoundS wr W g cs iv ins) (o : Obj) (hv : W'.ownsRow wr.heap.size 3 kindI.K iv' (ins.length + 1) (Rw.row kindI (ins ++ [z]))) (hg : (W.alloc o).drew.grownBy W' iv.ownBlock) : RoundS wr W' g cs iv' (ins ++ [z]) where
  below := Rw.own_below (h.own.alloc o).drew hg (h.below.alloc h.below.size o).drew (by have := h.below.size; simp; omega)
  row := ((h.row.alloc o).drew).grown hg (Rw.own_apart (h.own.alloc o).drew (h.row.alloc o).drew (by decide))
  hg := h.hg
  own := by rw [List.length_append]; exact hv
end
/-- what Get answers -/
def GetD (xs : List Nat) (w : World) (e : Ending) (w' : World) : Prop := (∃ v l', e = .returned (.tuple #[v, .int .i64 (getE xs)]) ∧ nds l' = getO xs ∧ OwnG w' w.heap.size v l') ∧ Below w.heap.size w w'
theorem GetD.no {xs : List Nat} {w w' : World} (h : getR xs = none) (hb : Below w.heap.size w w') : GetD xs w (.returned (.tuple #[.slice none 0 0, .int .i64 90])) w' :=
  ⟨⟨_, [], by rw [(getR_none h).1], by rw [(getR_none h).2]; rfl, OwnG.nil _ _⟩, hb⟩
theorem GetD.yes {xs : List Nat} {w w' : World} {v : Value} {l' : List Gn} (h : getR xs = some (nds l')) (ho : OwnG w' w.heap.size v l') (hb : Below w.heap.size w w') : GetD xs w (.returned (.tuple #[v, .int .i64 0])) w' :=
  ⟨⟨_, l', by rw [(getR_some h).1], by rw [(getR_some h).2], ho⟩, hb⟩
set_option maxHeartbeats 8000000 in
theorem refGet_any (A : Option Addr) (xs : List Nat) (c : Nat) (w : World) (hB : Bytes w A xs) (hl : xs.length ≤ 100000) :
    Calls Try.prog 19 #[.slice A xs.length c] w (GetD xs w) := by
  have HT := Lib.hid hB.ts
  have HX := Lib.hid hB.1; clear hB
  by_cases h0 : xs.length < 1
  · have hx : xs = [] := List.length_eq_zero_iff.1 (by omega)
    have HN := Lib.hid (show getR xs = none by rw [hx]; rfl); clear hx
    go_enter Try.func19, Try.ntmps19
    go_wp2_with fail
    go_ret2
    exact GetD.no HN.out (Below.refl _ _)
  · obtain ⟨m, hm⟩ : ∃ m, xs[0]? = some m := ⟨_, List.getElem?_eq_getElem (by omega)⟩
    obtain ⟨b, o, rfl, hbl, hq0⟩ := bytes_at HT.out hm
    have hm256 := HX.out m (List.mem_of_getElem? hm)
    have HM := Lib.hid hm; have HQ0 := Lib.hid hq0; clear hm hq0
    have z1 : decide ((xs.length : Int) < 1) = false := by simp; omega
    obtain ⟨i0, hi0, hz0, hz1, hz2⟩ := info_parts infoInt
    have HI := Lib.hid hi0; have HZ0 := Lib.hid hz0; have HZ1 := Lib.hid hz1; have HZ2 := Lib.hid hz2; clear hi0 hz0 hz1 hz2
    go_enter Try.func19, Try.ntmps19
    go_wp2_with fail
    go_loopw [4, 5, 6] (fun v t i wr => ∃ (k at_ : Nat) (d : List Gn), k ≤ m ∧ i = .int .i64 k ∧ t = .int .i64 at_ ∧ at_ ≤ xs.length ∧ d.length = k ∧ GetAt xs m k at_ (nds d) ∧ OwnG wr w.heap.size v d ∧ Below w.heap.size w wr) (fun _ _ i _ => m - (intOf i).toNat)
    case atStart => exact ⟨0, 1, [], by omega, rfl, rfl, by omega, rfl, GetAt.start _ _, OwnG.nil _ _, Below.refl _ _⟩
    case round =>
      obtain ⟨wo, rfl⟩ : ∃ wo, wo = wr := ⟨_, rfl⟩
      obtain ⟨k, t, d, hk, rfl, rfl, hat, hdl, hga, hown, hb⟩ := hrel
      have HGA := Lib.hid hga; have HO := Lib.hid hown; have HB := Lib.hid hb; have HDL := Lib.hid hdl; clear hga hown hb hdl
      have q0 := HQ0.out wo HB.out
      rw [Nat.add_zero] at q0
      by_cases hlt : k < m
      · have hltz : (k : Int) < (m : Int) := by omega
        by_cases h1 : t + 12 ≤ xs.length
        · obtain ⟨n, hn⟩ : ∃ n, xs[t + 11]? = some n := ⟨_, List.getElem?_eq_getElem (by omega)⟩
          obtain ⟨_, _, e, _, hqn⟩ := bytes_at HT.out hn
          cases e
          have qn := hqn wo HB.out
          have hn256 := HX.out n (List.mem_of_getElem? hn)
          have HN := Lib.hid hn; have HQN := Lib.hid hqn; clear hn hqn
          have h1z : ¬ (xs.length : Int) < (t : Int) + 12 := by omega
          by_cases h2 : t + 12 + n ≤ xs.length
          · have h2z : ¬ (xs.length : Int) < (t : Int) + 12 + (n : Int) := by omega
            obtain ⟨x0, hx0⟩ : ∃ x, xs[t]? = some x := ⟨_, List.getElem?_eq_getElem (by omega)⟩
            obtain ⟨x1, hx1⟩ : ∃ x, xs[t + 1]? = some x := ⟨_, List.getElem?_eq_getElem (by omega)⟩
            obtain ⟨x10, hx10⟩ : ∃ x, xs[t + 10]? = some x := ⟨_, List.getElem?_eq_getElem (by omega)⟩
            have hstep := HGA.out.step hlt (getN_at h1 HN.out h2 hx0 hx1 hx10)
            have x0256 := HX.out x0 (List.mem_of_getElem? hx0)
            have x1256 := HX.out x1 (List.mem_of_getElem? hx1)
            have x10256 := HX.out x10 (List.mem_of_getElem? hx10)
            obtain ⟨_, _, e, _, hqa⟩ := bytes_at HT.out hx0
            cases e
            obtain ⟨_, _, e, _, hqb⟩ := bytes_at HT.out hx1
            cases e
            obtain ⟨_, _, e, _, hqc⟩ := bytes_at HT.out hx10
            cases e
            have qa := hqa wo HB.out
            have qb := hqb wo HB.out
            have qc := hqc wo HB.out
            have hbw : b < wo.heap.size := Nat.lt_of_lt_of_le hbl HB.out.size
            have HST := Lib.hid hstep; clear hstep hqa hqb hqc hx0 hx1 hx10
            go_upto_region 10 with fail
            go_region
            generalize hw2 : (wo.alloc (.cells #[.int .u8 (x0 : Nat), .int .u8 (x1 : Nat), .int .i64 0, .int .i64 (x10 : Nat), .slice none 0 0] 48)).drew = w2 at *
            have hrs : RoundS wo w2 wo.heap.size [.int .u8 (x0 : Nat), .int .u8 (x1 : Nat), .int .i64 0, .int .i64 (x10 : Nat), .slice none 0 0] (.slice none 0 0) [] := by
              rw [← hw2]; exact ⟨((Below.refl _ wo).alloc (Nat.le_refl _) _).drew, (Row.made wo _ _).drew, Nat.le_refl _, World.ownsRow_nil _ _ _ _⟩
            have HRS := Lib.hid hrs; clear hrs hw2 qa qb qc
            go_wp2_with fail
            go_loopw [8, 9] (fun x i wx => ∃ j : Nat, j ≤ 8 ∧ i = .int .i64 j ∧ x = .int .u64 (accU 0 ((xs.drop (t + 2)).take j) : Nat) ∧ wx = w2) (fun _ i _ => 8 - (intOf i).toNat)
            case atStart => exact ⟨0, by omega, rfl, rfl, rfl⟩
            case round =>
              obtain ⟨j, hj, rfl, rfl, rfl⟩ := hrel
              by_cases hj8 : j < 8
              · have hjz : (j : Int) < 8 := by omega
                obtain ⟨y, hy⟩ : ∃ x, xs[t + 2 + j]? = some x := ⟨_, List.getElem?_eq_getElem (by omega)⟩
                have y256 := HX.out y (List.mem_of_getElem? hy)
                obtain ⟨_, _, e, _, hqy⟩ := bytes_at HT.out hy
                cases e
                have qy := hqy wr (HB.out.trans (HRS.out.below.mono HB.out.size))
                generalize hX : accU 0 ((xs.drop (t + 2)).take j) = X at *
                have HY := Lib.hid hy; clear hy hqy
                have hXs : X < 72057594037927936 := by rw [← hX]; exact accU_small HX.out (t + 2) j hj8
                have HXE := Lib.hid hX; have HXS := Lib.hid hXs; clear hX hXs
                go_wp2_with fail
                go_roundw
                case rel =>
                  refine ⟨j + 1, by omega, by simp, ?_, trivial⟩
                  rw [accU_take HY.out, HXE.out]
                  have h1 := HXS.out
                  congr 1
                  simp [IntKind.wrap, IntKind.signed, IntKind.bits]
                  omega
                case measure => simp only [intOf]; omega
              · have hjz : ¬ (j : Int) < 8 := by omega
                obtain rfl : j = 8 := by omega
                generalize hX : accU 0 ((xs.drop (t + 2)).take 8) = X at *
                have hX64 : X < 18446744073709551616 := by
                  have h := accU_lt ((xs.drop (t + 2)).take 8) 0 fun x h => HX.out x (List.mem_of_mem_drop (List.mem_of_mem_take h))
                  have hle : ((xs.drop (t + 2)).take 8).length ≤ 8 := List.length_take_le _ _
                  have : 256 ^ ((xs.drop (t + 2)).take 8).length ≤ 256 ^ 8 := Nat.pow_le_pow_right (by decide) hle
                  have e : 256 ^ 8 = 18446744073709551616 := by decide
                  rw [hX] at h
                  omega
                obtain ⟨Bv, hBv⟩ : ∃ Bv, sg64 X = Bv := ⟨_, rfl⟩
                have hw1 : IntKind.i64.wrap (X : Int) = Bv := by rw [← hBv]; exact sg64_wrap hX64
                have HBV := Lib.hid (And.intro hX hBv); have HX64 := Lib.hid hX64; clear hX64 hX hBv
                have d2 : wr.cell? ⟨wo.heap.size, 2, none⟩ = some (.int .i64 0) := HRS.out.row.cell 2
                have f2 : wr.frozen? ⟨wo.heap.size, 2, none⟩ = false := HRS.out.row.free 2
                have HRB := Lib.hid (HRS.out.set 2 (.int .i64 Bv)); clear HRS
                go_wp2_with fail
                generalize (wr.setCell ⟨wo.heap.size, 2, none⟩ (.int .i64 Bv)) = w3 at *
                go_loopw [10] (fun i wx => ∃ (p : Nat) (iv : Value), p ≤ n ∧ i = .int .i64 p ∧ RoundS wo wx wo.heap.size [.int .u8 (x0 : Nat), .int .u8 (x1 : Nat), .int .i64 Bv, .int .i64 (x10 : Nat), iv] iv (((xs.drop (t + 12)).take p).map Int.ofNat)) (fun i _ => n - (intOf i).toNat)
                case atStart => exact ⟨0, _, by omega, rfl, by simpa using HRB.out⟩
                case round =>
                  obtain ⟨p, iv, hp, rfl, hrs⟩ := hrel
                  have hins : (((xs.drop (t + 12)).take p).map Int.ofNat).length ≤ 256 := by rw [List.length_map]; have := List.length_take_le p (xs.drop (t + 12)); omega
                  generalize hI : ((xs.drop (t + 12)).take p).map Int.ofNat = ins at *
                  have HRP := Lib.hid hrs; have HINS := Lib.hid hI; have HLL := Lib.hid hins; clear hrs HRB hI hins
                  by_cases hpn : p < n
                  · have hpz : (p : Int) < (n : Int) := by omega
                    obtain ⟨z, hz⟩ : ∃ x, xs[t + 12 + p]? = some x := ⟨_, List.getElem?_eq_getElem (by omega)⟩
                    have z256 := HX.out z (List.mem_of_getElem? hz)
                    obtain ⟨_, _, e, _, hqz⟩ := bytes_at HT.out hz
                    cases e
                    have hbw2 := HB.out.trans (HRP.out.below.mono HB.out.size)
                    have qz := hqz wr hbw2
                    have qn2 := HQN.out wr hbw2
                    have d4 : wr.cell? ⟨wo.heap.size, 4, none⟩ = some iv := HRP.out.row.cell 4
                    have f4 : wr.frozen? ⟨wo.heap.size, 4, none⟩ = false := HRP.out.row.free 4
                    have ag : iv.ownBlock ≠ some wo.heap.size := fun e => Rw.own_apart HRP.out.own HRP.out.row (by decide) e.symm
                    have ab : iv.ownBlock ≠ some b := fun e => by have := (HRP.out.own.lt b e).1; omega
                    have hsz1 := HRP.out.row.lt
                    have hsz2 : b < wr.heap.size := by omega
                    have HZ := Lib.hid hz; clear hz hqz hbw2
                    go_upto_region 20 with fail
                    have s6 : IntKind.i64.wrap (z : Int) = (z : Int) := IntWalk.i64_in _ (by omega)
                    have frz : (wr.alloc (.cells #[.int .i64 (z : Nat)] 3)).drew.frozen? ⟨wo.heap.size, 4, none⟩ = false := (HRP.out.row.alloc _).free 4
                    have frc : (wr.alloc (.cells #[.int .i64 (z : Nat)] 3)).drew.cell? ⟨wo.heap.size, 4, none⟩ = some iv := (HRP.out.row.alloc _).cell 4
                    have s1 : IntKind.i64.wrap ((t : Int) + 12) = (t : Int) + 12 := IntWalk.i64_in _ (by omega)
                    have s2 : IntKind.i64.wrap ((t : Int) + 12 + (p : Int)) = (t : Int) + 12 + (p : Int) := IntWalk.i64_in _ (by omega)
                    have s3 : (0 : Int) ≤ (t : Int) + 12 + (p : Int) := by omega
                    have s4 : (t : Int) + 12 + (p : Int) < (xs.length : Int) := by omega
                    have s5 : ((t : Int) + 12 + (p : Int)).toNat = t + 12 + p := by omega
                    go_region_law
                      ((refine step_append_lies _ (by rfl) _ _ _ (by rfl) wo.heap.size 3 i0 _ 1 8 Try.underlying46 HI.out HZ0.out HZ1.out HZ2.out rfl (by omega) iv _ _ (by rfl) ((HRP.out.own.alloc _).drew)
                          ⟨wr.heap.size, 0, none⟩ 1 1 [.int .i64 (z : Nat)] (by rfl) (by rfl) (World.news_of_block (cs := #[.int .i64 (z : Nat)]) (t := 3) (fr := (0, 0)) (heap_alloc_new wr _)) (by simp [Value.oneCell'])
                          (by omega) (by unfold maxLen; have := HLL.out; omega) (by have := HLL.out; omega) (by simp; omega) (wr.heap.size + 1) (by simp) ?_; intro gg cap w1 hown1 hgrow hat hlt; have f5 : w1.frozen? ⟨wo.heap.size, 4, none⟩ = false := (hgrow.frozen_far ⟨wo.heap.size, 4, none⟩ (by simp; omega) (Ne.symm ag)).trans frz; have f6 : w1.cell? ⟨wo.heap.size, 4, none⟩ = some iv := (hgrow.cell_far ⟨wo.heap.size, 4, none⟩ (by simp; omega) (Ne.symm ag)).trans frc))
                    all_goals
                      have HRM := Lib.hid ((HRP.out.more (z := (z : Nat)) _ (by rw [Rw.row_append]; exact hown1) hgrow).set 4 (.slice (some ⟨gg, 0, none⟩) (ins.length + 1) cap))
                      clear frc frz f5 f6 hat hlt hown1 hgrow s1 s2 s3 s4 s5 s6
                      go_wp2_with fail
                      go_roundw
                      case rel =>
                        refine ⟨p + 1, .slice (some ⟨gg, 0, none⟩) (ins.length + 1) cap, by omega, by simp, ?_⟩
                        rw [List.take_add_one, List.getElem?_drop, HZ.out, List.map_append, HINS.out]
                        exact HRM.out
                      case measure => simp only [intOf]; omega
                  · have hpz : ¬ (p : Int) < (n : Int) := by omega
                    have qn2 := HQN.out wr (HB.out.trans (HRP.out.below.mono HB.out.size))
                    obtain rfl : p = n := by omega
                    obtain ⟨A1, c1, rfl, _, hc1, hc2, hcn, _⟩ := Rw.Ts.of_own HRP.out.own
                    have hxok : Gn.Ok ⟨⟨x0, x1, Bv, (x10 : Nat), ins⟩, A1, c1⟩ := ⟨x0256, x1256, by show -9223372036854775808 ≤ Bv ∧ Bv ≤ 9223372036854775807; rw [← HBV.out.2]; have := HX64.out; unfold sg64; constructor <;> (split <;> omega), by show -9223372036854775808 ≤ (x10 : Int) ∧ (x10 : Int) ≤ 9223372036854775807; omega, by
                      intro z hz
                      rw [← HINS.out] at hz
                      obtain ⟨y, hy, rfl⟩ := List.mem_map.1 hz
                      have := HX.out y (List.mem_of_mem_drop (List.mem_of_mem_take hy))
                      show -9223372036854775808 ≤ (y : Int) ∧ (y : Int) ≤ 9223372036854775807
                      omega, ⟨hc1, hc2⟩, hcn⟩
                    have d0 : wr.cell? ⟨wo.heap.size, 0, none⟩ = some (.int .u8 (x0 : Nat)) := HRP.out.row.cell 0
                    have d1 : wr.cell? ⟨wo.heap.size, 1, none⟩ = some (.int .u8 (x1 : Nat)) := HRP.out.row.cell 1
                    have d2 : wr.cell? ⟨wo.heap.size, 2, none⟩ = some (.int .i64 Bv) := HRP.out.row.cell 2
                    have d3 : wr.cell? ⟨wo.heap.size, 3, none⟩ = some (.int .i64 (x10 : Nat)) := HRP.out.row.cell 3
                    have d4 : wr.cell? ⟨wo.heap.size, 4, none⟩ = some (.slice A1 ins.length c1) := HRP.out.row.cell 4
                    have hog := (HO.out.below HRP.out.below).alloc (.cells #[.int .u8 (x0 : Nat), .int .u8 (x1 : Nat), .int .i64 Bv, .int .i64 (x10 : Nat), .slice A1 ins.length c1] 48)
                    have hty := Rw.Ts.made (κ := kindG) wr [⟨⟨x0, x1, Bv, (x10 : Nat), ins⟩, A1, c1⟩] 48
                    have hbe := HB.out.trans (HRP.out.below.mono HB.out.size)
                    have hin := own_base HRP.out.own HB.out.size
                    have HOK := Lib.hid hxok; have HOG := Lib.hid hog; have HTY := Lib.hid hty; have HBE := Lib.hid hbe; have HIN := Lib.hid hin
                    clear hxok hog hty hbe hin hc1 hc2 hcn
                    go_wp2_with (at_builtin; refine Rw.append_own kindG 48 23 Try.underlying23 infoNode rfl rfl _ _ rfl w.heap.size _ d.length d rfl HOG.out.row _ 1 [⟨⟨x0, x1, Bv, (x10 : Nat), ins⟩, A1, c1⟩] rfl (by simp) HTY.out (by unfold maxLen; have := HDL.out; simp; omega) (by have := HDL.out; simp; omega) (by have := HBE.out.size; simp; omega) ?_; intro v2 w4 hv2 hg2; have hm := OwnG.more HOG.out (x := ⟨⟨x0, x1, Bv, (x10 : Nat), ins⟩, A1, c1⟩) HOK.out (HIN.out.alloc _) hv2 hg2; have hb2 := Rw.own_below HOG.out.row hg2 (HBE.out.alloc HBE.out.size _) (by have := HBE.out.size; simp; omega); have HMR := Lib.hid hm; have HB2 := Lib.hid hb2; clear hm hb2 hv2 hg2 HOG HIN HBE HTY d0 d1 d2 d3 d4)
                    go_roundw
                    case rel =>
                      refine ⟨k + 1, t + 12 + p, d ++ [⟨⟨x0, x1, Bv, (x10 : Nat), ins⟩, A1, c1⟩], by omega, by simp, by simp, by omega, by have := HDL.out; simp; omega, ?_, HMR.out, HB2.out⟩
                      have h := HST.out
                      rw [HBV.out.2, HINS.out] at h
                      unfold nds at h ⊢
                      rw [List.map_append]
                      exact h
                    case measure => simp only [intOf]; omega
          · have h2z : (xs.length : Int) < (t : Int) + 12 + (n : Int) := by omega
            have HS := Lib.hid (getR_stop HM.out (HGA.out.stop hlt (getN_no2 h1 HN.out h2)))
            go_wp2_with fail
            go_ret2
            exact GetD.no HS.out HB.out
        · have h1z : (xs.length : Int) < (t : Int) + 12 := by omega
          have HS := Lib.hid (getR_stop HM.out (HGA.out.stop hlt (getN_no1 h1)))
          go_wp2_with fail
          go_ret2
          exact GetD.no HS.out HB.out
      · have hltz : ¬ (k : Int) < (m : Int) := by omega
        obtain rfl : k = m := by omega
        have HE := Lib.hid HGA.out.end_
        obtain ⟨A', c', rfl, hG', hc1, hc2, hcn⟩ := HO.out.gr
        have hml : d.length ≤ maxLen := by omega
        have hcall := refMay_any A' d c' wo hG' hml
        clear hG' hc1 hc2 hcn hml
        by_cases ht : t = xs.length
        · have htz : ((t : Int) != (xs.length : Int)) = false := by simp; omega
          cases hmb : mayB (nds d) with
          | false =>
            rw [hmb] at hcall
            have HCL := Lib.hid hcall
            have HS := Lib.hid (show getR xs = none by rw [getR_may HM.out HE.out ht, hmb]; rfl); clear hcall hmb ht
            go_wp2_with fail
            refine HCL.out.mono ?_; rintro e w1 ⟨rfl, rfl⟩
            dsimp only
            go_wp2_with fail
            go_ret2
            exact GetD.no HS.out HB.out
          | true =>
            rw [hmb] at hcall
            have HCL := Lib.hid hcall
            have HS := Lib.hid (show getR xs = some (nds d) by rw [getR_may HM.out HE.out ht, hmb]; rfl); clear hcall hmb ht
            go_wp2_with fail
            refine HCL.out.mono ?_; rintro e w1 ⟨rfl, rfl⟩
            dsimp only
            go_wp2_with fail
            go_ret2
            exact GetD.yes HS.out HO.out HB.out
        · have htz : ((t : Int) != (xs.length : Int)) = true := by simp; omega
          have HS := Lib.hid (getR_long HM.out HE.out ht hat); clear ht hcall
          go_wp2_with fail
          go_ret2
          exact GetD.no HS.out HB.out
end Go.Proofs.Ytmjbclinlojboaa
