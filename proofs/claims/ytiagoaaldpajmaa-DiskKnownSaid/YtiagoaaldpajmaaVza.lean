/- Several texts in one: RefOn, Own2. -/
import Derived.Test.YtiagoaaldpajmaaVy
import Derived.Test.YtiagoaaldpajmaaVz
import Derived.Test.YtiagoaaldpajmaaVt
import Derived.Test.YtiagoaaldpajmaaVn
namespace Go.Proofs.Ytiagoaaldpajmaa
open Go.ChangeShapes Go.WideShapes Go.ChangeAt Go.RowKit Go.BigFrame Go.Maps Go.Sort
set_option linter.unusedVariables false
section
variable {w w' w1 w2 : World} {q : Nat} {d d' : DM} {es ys ts es1 : List En} {A A1 : Option Addr} {c c1 k : Nat} {M M' N : Nat → Prop} {e x : En} {G : Nat → Prop}
/-- nothing is to come up: its fuse goes -/
theorem ref_defuse (h : RefAt w q d es A c M) : RefAt (w.setCell ⟨q, 3, none⟩ (.int .i64 (-1))) q { d with fuse := 0 } es A c M ∧ Touch (· = q) w (w.setCell ⟨q, 3, none⟩ (.int .i64 (-1))) := by
  have ht : Touch (· = q) w (w.setCell ⟨q, 3, none⟩ (.int .i64 (-1))) := (Touch.refl (· = q) w).setCell (p := ⟨q, 3, none⟩) (.inl rfl) _
  exact ⟨h.own (d' := { d with fuse := 0 }) ht (h.row.put 3 (.int .i64 (-1))) rfl h.room (by show 0 ≤ _; omega), ht⟩
set_option maxRecDepth 100000 in
set_option maxHeartbeats 2000000 in
theorem ref_on_on (h : RefAt w q d es A c M) (ho : d.off = false) (B : Option Addr) (ks : List Int) (cb : Nat) :
    Calls Try.prog 50 #[.pointer (some ⟨q, 0, none⟩), .slice B ks.length cb] w fun e w' => e = .returned (.tuple #[]) ∧ RefTo w w' q (onD d ks) M := by
  have hz := h.row.free
  have hlt := h.row.lt
  obtain ⟨h1, ht1⟩ := ref_defuse h
  have hD : onD d ks = { d with fuse := 0 } := by unfold onD; rw [if_neg (by rw [ho]; decide)]
  rw [hD]
  have hto := h1.to ht1 h.free hlt
  obtain ⟨g0, -, -, g3, g4⟩ := rrow h1.row
  obtain ⟨f0, -, -, f3, f4⟩ := rrow h.row
  rw [ho] at f4
  have g4' : (w.setCell ⟨q, 3, none⟩ (.int .i64 (-1))).cell? ⟨q, 4, none⟩ = some (.bool false) := by rw [← ho]; exact g4
  have hcap := h.list.cap
  have hmax := h.list.max
  have HTo := Lib.hid hto
  clear h h1 ht1 hD hto g4 g3 ho
  go_enter Try.func50, Try.ntmps50
  go_wp2_with fail
  go_loopw [4, 5] (fun l i wr => l = .slice none 0 0 ∧ i = .int .i64 0 ∧ wr = w.setCell ⟨q, 3, none⟩ (.int .i64 (-1))) (fun _ _ _ => 0)
  case atStart => exact ⟨rfl, rfl, rfl⟩
  case round =>
    obtain ⟨rfl, rfl, rfl⟩ := hrel
    by_cases h0 : 0 < es.length
    · go_wp2_with fail
      go_end0
      exact ⟨rfl, HTo.out⟩
    · have hn : es.length = 0 := by omega
      go_wp2_with fail
      go_end0
      exact ⟨rfl, HTo.out⟩
set_option maxRecDepth 100000 in
set_option maxHeartbeats 8000000 in
theorem ref_on_gone (h : RefAt w q d es A c M) (hMb : ∀ k, M k → k < w.heap.size) (ho : d.off = true) (B : Option Addr) (ks : List Int) (cb : Nat) (hK : IntsAt w B ks) (hkc : ks.length ≤ cb) (hkm : cb ≤ 9223372036854775807) (hKq : ∀ ad, B = some ad → 0 < ks.length → ad.block ≠ q)
    (hl : es.length ≤ 1000000) (hsb : ∀ e ∈ es, e.f.sure ≤ e.f.b.length ∧ e.f.b.length ≤ 8388608) (hSo : SortF (onF (wishOf ks) 0 d.fs)) :
    Calls Try.prog 50 #[.pointer (some ⟨q, 0, none⟩), .slice B ks.length cb] w fun e w' => e = .returned (.tuple #[]) ∧ RefTo w w' q (onD d ks) M := by
  have hz := h.row.free
  have hlt := h.row.lt
  obtain ⟨h1, ht1⟩ := ref_defuse h
  have hD : onD d ks = ⟨d.room, onF (wishOf ks) 0 d.fs, d.deeds, false, 0⟩ := by unfold onD; rw [if_pos ho]
  rw [hD]
  obtain ⟨f0, -, -, f3, f4⟩ := rrow h.row
  have hcap := h.list.cap
  have hmax := h.list.max
  have hK1 : IntsAt (w.setCell ⟨q, 3, none⟩ (.int .i64 (-1))) B ks := hK.touch ht1 hKq
  have hs1 : (w.setCell ⟨q, 3, none⟩ (.int .i64 (-1))).heap.size = w.heap.size := by simp
  have hgen : ∃ W, W = w.setCell ⟨q, 3, none⟩ (.int .i64 (-1)) := ⟨_, rfl⟩
  obtain ⟨W, hW⟩ := hgen
  rw [← hW] at h1 ht1 hK1 hs1
  have HH := Lib.hid h; have H1 := Lib.hid h1; have HT1 := Lib.hid ht1; have HK1 := Lib.hid hK1; have HS1 := Lib.hid hs1; have HSb := Lib.hid hsb; have HSo := Lib.hid hSo; have HO := Lib.hid ho; have HW := Lib.hid hW; have HMb := Lib.hid hMb
  clear hMb h h1 ht1 hK1 hK hs1 hsb hSo hD ho hW hKq
  go_enter Try.func50, Try.ntmps50
  go_wp2_with fail
  go_loopw [4, 5] (fun l i wr => ∃ (k : Nat) (ls : List En), k ≤ es.length ∧ i = .int .i64 k ∧ wr.ownsRow W.heap.size TRF 4 l ls.length (enRow ls) ∧ ls.map En.key = onF (wishOf ks) 0 (d.fs.take k) ∧ (∀ e ∈ ls, EnOk wr M e) ∧ Below W.heap.size W wr ∧ ls.length ≤ k) (fun _ i _ => es.length - (intOf i).toNat)
  case atStart => exact ⟨0, [], Nat.zero_le _, rfl, ⟨rfl, .inl ⟨rfl, rfl⟩⟩, by simp [onF], by simp, by rw [← HW.out]; exact Below.refl _ _, Nat.le_refl _⟩
  case round =>
    obtain ⟨k, ls, hk, rfl, hown, hkey, hok, hbw, hlk⟩ := hrel
    have hr := H1.out.still (Touch.of_below hbw)
    obtain ⟨g0, -, -, -, g4⟩ := rrow hr.row
    have g4' : wr.cell? ⟨q, 4, none⟩ = some (.bool true) := by rw [← HO.out]; exact g4
    by_cases hlt2 : k < es.length
    · obtain ⟨b, off, hA, hbl, hci⟩ := hr.list.row (by omega)
      subst hA
      obtain ⟨x, hx⟩ : ∃ x, es[k]? = some x := ⟨_, List.getElem?_eq_getElem hlt2⟩
      obtain ⟨c0, c1', c2', c3'⟩ := hci k x hx
      have hxm : x ∈ es := List.mem_of_getElem? hx
      obtain ⟨hsu, hbl8⟩ := HSb.out x hxm
      have HOwn := Lib.hid hown; have HKey := Lib.hid hkey; have HOk := Lib.hid hok; have HBw := Lib.hid hbw; have HR := Lib.hid hr; have HX := Lib.hid hx; have HXm := Lib.hid hxm
      clear hown hkey hok hbw hr hx hxm hci g4
      go_wp2_with fail
      obtain ⟨W2, hW2⟩ : ∃ W2, W2 = wr.alloc (.cells #[.string x.name, .slice x.ba x.f.b.length x.bc, .int .i64 (x.f.sure : Nat), .bool x.f.made] TRF) := ⟨_, rfl⟩
      obtain ⟨kb, hkb⟩ : ∃ kb, kb = wr.heap.size := ⟨_, rfl⟩
      have hrb : Row W2 kb TRF x.cells := by rw [hW2, hkb]; exact Row.made wr TRF x.cells
      have hb2 : Below wr.heap.size wr W2 := by rw [hW2]; exact (Below.refl _ _).alloc (Nat.le_refl _) _
      rw [← hW2, ← hkb]
      have hbW : Below W.heap.size W W2 := HBw.out.trans (hb2.mono HBw.out.size)
      obtain ⟨u, hu⟩ : ∃ u, u = x.f.b.length - x.f.sure := ⟨_, rfl⟩
      have hst := ref_stays W2.drew B ks cb k u (HK1.out.touch (Touch.of_below (F := fun _ => False) hbW) (by simp) |>.touch (Touch.refl (fun _ => False) _).drew (by simp)) hkc hkm (by omega) (by omega)
      have hz0 : 0 ≤ wishOf ks k % ((u : Int) + 1) := Int.emod_nonneg _ (by omega)
      have hz1 : wishOf ks k % ((u : Int) + 1) < (u : Int) + 1 := Int.emod_lt_of_pos _ (by omega)
      have hN : stayN x.f (wishOf ks k) = x.f.sure + (wishOf ks k % ((u : Int) + 1)).toNat := by unfold stayN; rw [hu]
      obtain ⟨zn, hzn⟩ := Int.eq_ofNat_of_zero_le hz0
      rw [hzn] at hst hz1 hN
      rw [Int.toNat_natCast] at hN
      have hnl : x.f.sure + zn ≤ x.f.b.length := by omega
      have hsub : IntKind.i64.wrap ((x.f.b.length : Int) - (x.f.sure : Int)) = (u : Int) := by rw [IntWalk.i64_in _ (by omega)]; omega
      have d1 : W2.drew.cell? ⟨kb, 1, none⟩ = some (.slice x.ba x.f.b.length x.bc) := hrb.cell 1
      have d2 : W2.drew.cell? ⟨kb, 2, none⟩ = some (.int .i64 (x.f.sure : Nat)) := hrb.cell 2
      have d3 : W2.drew.cell? ⟨kb, 3, none⟩ = some (.bool x.f.made) := hrb.cell 3
      have hstep : onF (wishOf ks) 0 (d.fs.take (k + 1)) = onF (wishOf ks) 0 (d.fs.take k) ++ stays x.key (wishOf ks k) := by
        have hfk : d.fs[k]? = some x.key := by rw [HH.out.fs, List.getElem?_map, HX.out]; rfl
        have hkl : k < d.fs.length := (List.getElem?_eq_some_iff.1 hfk).1
        rw [List.take_add_one, hfk, Option.toList_some, onF_append, List.length_take, Nat.zero_add, Nat.min_eq_left (Nat.le_of_lt hkl)]
      have HSt := Lib.hid hst; have HN := Lib.hid hN; have HRb := Lib.hid hrb; have HB2 := Lib.hid hb2; have HStep := Lib.hid hstep; have HKb := Lib.hid hkb; have HBW := Lib.hid hbW
      clear hst hN hrb hb2 hstep hkb hbW hW2 hz0 hzn hu
      refine Stage.wp_region (by kernel_rfl) (by kernel_rfl) (fun _ w' => w' = W2.drew) rfl ?_
      refine Stage.wpSt_reads 10 (fun w' => w' = W2.drew) (by kernel_rfl) (fun i _ _ S w' _ _ h => ⟨h, h⟩) ?_
      simp only [List.take_succ_cons, List.take_zero, List.drop_succ_cons, List.drop_zero]
      repeat (go_big_quiet_step (fail))
      refine wpQuiet_nil ?_
      refine Stage.wpSt_do (.int .i64 (zn : Nat)) rfl (fun S w' _ _ hw => ?_) ?_
      · have hw' : w' = W2.drew := hw
        subst hw'
        refine Free.at_call _ _ rfl Try.func22 (by kernel_rfl) rfl [.slice B ks.length cb, .int .i64 (k : Nat), .int .i64 (u : Nat)] rfl ?_
        exact (HSt.out).mono fun e w'' ⟨he, h⟩ => ⟨he, h.symm⟩
      go_simp
      refine Stage.wpSt_reads 2 (fun w' => w' = W2.drew) (by kernel_rfl) (fun i _ _ S w' _ _ h => ⟨h, h⟩) ?_
      simp only [List.take_succ_cons, List.take_zero, List.drop_succ_cons, List.drop_zero]
      repeat (go_big_quiet_step (fail))
      refine wpQuiet_nil (Stage.wpSt_nil ?_)
      intro S w4 _ hw4
      have hw4' : w4 = W2.drew := hw4
      subst hw4'
      clear hw4
      by_cases hno : x.f.sure + zn = 0 ∧ x.f.made = false
      · obtain ⟨hn0, hm⟩ := hno
        have hs0 : stays x.key (wishOf ks k) = [] := by unfold stays stay1; rw [show x.key.2 = x.f from rfl, HN.out, if_pos ⟨hn0, hm⟩]
        go_wp2_with fail
        go_roundw
        case rel => exact ⟨k + 1, ls, by omega, by go_num, ownsRow_touch HOwn.out (Touch.of_below (F := fun _ => False) HB2.out).drew (by simp), by rw [HStep.out, hs0, List.append_nil]; exact HKey.out, fun e he => (HOk.out e he).touch (Touch.of_below (F := fun _ => False) HB2.out).drew (fun _ _ h => h), HBW.out.drew, by omega⟩
        case measure => simp [intOf]; omega
      · have hs1 : stays x.key (wishOf ks k) = [(x.name.data.toList, cutF x.f (x.f.sure + zn))] := by unfold stays stay1; rw [show x.key.2 = x.f from rfl, HN.out, if_neg hno]; rfl
        have hxo := HR.out.ens x HXm.out
        have hxc := hxo.cap
        have hlen : (x.f.b.take (x.f.sure + zn)).length = x.f.sure + zn := by rw [List.length_take]; omega
        have hsl := fun w : World => slice_bytes (B := x.ba) hnl hxc w
        simp only [Int.natCast_add] at hsl
        obtain ⟨y, hy⟩ : ∃ y : En, y = ⟨x.name, x.ba, x.bc, cutF x.f (x.f.sure + zn)⟩ := ⟨_, rfl⟩
        have hyc : y.cells = [.string x.name, .slice x.ba (x.f.sure + zn) x.bc, .int .i64 ((x.f.sure : Int) + (zn : Int)), .bool true] := by rw [hy]; show [_, Value.slice x.ba (x.f.b.take (x.f.sure + zn)).length x.bc, _, _] = _; rw [hlen]; simp [cutF]
        obtain ⟨W9, hW9⟩ : ∃ W9, W9 = W2.drew.drew.alloc (.cells y.cells.toArray TRF) := ⟨_, rfl⟩
        have hb9 : Below W2.heap.size W2 W9 := by rw [hW9]; exact (Below.refl _ _).drew.drew.alloc (Nat.le_refl _) _
        have hr9 : Row W9 W2.heap.size TRF y.cells := by rw [hW9]; exact Row.made W2.drew.drew TRF y.cells
        have hown9 : W9.ownsRow W.heap.size TRF 4 u4 ls.length (enRow ls) := ownsRow_touch (ownsRow_touch HOwn.out (Touch.of_below (F := fun _ => False) HB2.out) (by simp)) (Touch.of_below (F := fun _ => False) hb9) (by simp)
        have hW29 : W.heap.size ≤ W9.heap.size := Nat.le_trans HBW.out.size hb9.size
        obtain ⟨v10, w10, hr10, hown10, hgr10⟩ := run_append_ens (w := W9) (ts := ls) (ys := [y]) TFS W.heap.size u4 ls.length hown9 (row_src hr9) (by simp; omega) hW29
        have hb10 : Below W.heap.size W w10 := (HBW.out.trans (hb9.mono HBW.out.size)).trans (below_grown hgr10 (fun k hk => (World.ownsRow.lt hown9 k hk).1) hW29)
        have hkey10 : (ls ++ [y]).map En.key = onF (wishOf ks) 0 (d.fs.take (k + 1)) := by rw [HStep.out, hs1, List.map_append, HKey.out, hy]; rfl
        have hM : ∀ k, M k → ¬ (fun k => W.heap.size ≤ k) k := fun k hk e => by have h1 := HMb.out k hk; have h2 : W.heap.size ≤ k := e; rw [HS1.out] at h2; omega
        have hT10 : Touch (fun k => W.heap.size ≤ k) wr w10 := ((Touch.of_below HB2.out).trans (Touch.of_below hb9)).trans (Touch.of_grown hgr10 (fun k hk => (World.ownsRow.lt hown9 k hk).1))
        have hok10 : ∀ e ∈ ls ++ [y], EnOk w10 M e := fun e he => by
          rcases List.mem_append.1 he with he | he
          · exact (HOk.out e he).touch hT10 hM
          · obtain rfl : e = y := by simpa using he
            rw [hy]
            have h2 := hxo.touch hT10 hM
            exact ⟨h2.bytes.take _, h2.mem, by show (x.f.b.take (x.f.sure + zn)).length ≤ _; rw [hlen]; exact Nat.le_trans hnl hxc, h2.max, h2.name⟩
        have k0 : W2.drew.drew.cell? ⟨kb, 0, none⟩ = some (.string x.name) := HRb.out.cell 0
        have k1 : W2.drew.drew.cell? ⟨kb, 1, none⟩ = some (.slice x.ba x.f.b.length x.bc) := HRb.out.cell 1
        have HW9 := Lib.hid (show W2.drew.drew.alloc (.cells #[.string x.name, .slice x.ba (x.f.sure + zn) x.bc, .int .i64 ((x.f.sure : Int) + (zn : Int)), .bool true] TRF) = W9 by rw [hW9, hyc])
        have HR10 := Lib.hid hr10; have HOwn10 := Lib.hid hown10; have HB10 := Lib.hid hb10; have HKey10 := Lib.hid hkey10; have HOk10 := Lib.hid hok10
        clear hs1 hxo hlen hyc hW9 hb9 hr9 hown9 hW29 hr10 hown10 hgr10 hb10 hkey10 hM hT10 hok10 hy
        cases hm : x.f.made with
        | true =>
          go_wp2_with fail
          refine Stage.wp_region (by kernel_rfl) (by kernel_rfl) (Stage.two 9 10 (Seq4 W2.drew.drew W9 (fun w' => w' = w10))) (Stage.two_start (by simp) (by simp) (show Seq4 W2.drew.drew W9 (fun w' => w' = w10) false false W2.drew.drew from rfl)) ?_
          refine Stage.wpSt_reads 1 (fun _ => True) (by kernel_rfl) (Stage.two_any (by simp) (by simp)) ?_
          simp only [List.take_succ_cons, List.take_zero, List.drop_succ_cons, List.drop_zero]
          repeat (go_big_quiet_step (fail))
          refine wpQuiet_nil ?_
          refine Stage.wpSt_reads 8 (fun w' => w' = W2.drew.drew) (by kernel_rfl) (Stage.two_before (by kernel_rfl)) ?_
          simp only [List.take_succ_cons, List.take_zero, List.drop_succ_cons, List.drop_zero]
          repeat (go_big_quiet_step (fail))
          refine wpQuiet_nil ?_
          refine Stage.wpSt_do (.slice (some ⟨W2.heap.size, 0, none⟩) 1 1) rfl (Stage.two_first (by decide) (by kernel_rfl) ?_) ?_
          · intro w' hw
            obtain rfl : w' = W2.drew.drew := hw
            unfold Stage.at_
            go_simp
            exact ⟨rfl, HW9.out⟩
          go_simp
          refine Stage.wpSt_do v10 rfl (Stage.two_then (by decide) (by kernel_rfl) ?_) ?_
          · intro w' hw
            obtain rfl : w' = W9 := hw
            exact stage_append _ _ TFS rfl _ _ rfl rfl HR10.out rfl
          go_simp
          refine Stage.wpSt_reads 1 (fun _ => True) (by kernel_rfl) (Stage.two_any (by simp) (by simp)) ?_
          simp only [List.take_succ_cons, List.take_zero, List.drop_succ_cons, List.drop_zero]
          repeat (go_big_quiet_step (fail))
          refine wpQuiet_nil (Stage.wpSt_nil (Stage.two_end ?_))
          intro w11 hw11
          obtain rfl : w11 = w10 := hw11
          go_wp2_with fail
          go_roundw
          case rel => exact ⟨k + 1, ls ++ [y], by omega, by go_num, by rw [List.length_append]; exact HOwn10.out, HKey10.out, HOk10.out, HB10.out, by simp; omega⟩
          case measure => simp [intOf]; omega
        | false =>
          have hd0 : decide (0 < (x.f.sure : Int) + (zn : Int)) = true := decide_eq_true (by have : ¬ (x.f.sure + zn = 0) := fun e => hno ⟨e, hm⟩; omega)
          go_wp2_with fail
          refine Stage.wp_region (by kernel_rfl) (by kernel_rfl) (Stage.two 9 10 (Seq4 W2.drew.drew W9 (fun w' => w' = w10))) (Stage.two_start (by simp) (by simp) (show Seq4 W2.drew.drew W9 (fun w' => w' = w10) false false W2.drew.drew from rfl)) ?_
          refine Stage.wpSt_reads 1 (fun _ => True) (by kernel_rfl) (Stage.two_any (by simp) (by simp)) ?_
          simp only [List.take_succ_cons, List.take_zero, List.drop_succ_cons, List.drop_zero]
          repeat (go_big_quiet_step (fail))
          refine wpQuiet_nil ?_
          refine Stage.wpSt_reads 8 (fun w' => w' = W2.drew.drew) (by kernel_rfl) (Stage.two_before (by kernel_rfl)) ?_
          simp only [List.take_succ_cons, List.take_zero, List.drop_succ_cons, List.drop_zero]
          repeat (go_big_quiet_step (fail))
          refine wpQuiet_nil ?_
          refine Stage.wpSt_do (.slice (some ⟨W2.heap.size, 0, none⟩) 1 1) rfl (Stage.two_first (by decide) (by kernel_rfl) ?_) ?_
          · intro w' hw
            obtain rfl : w' = W2.drew.drew := hw
            unfold Stage.at_
            go_simp
            exact ⟨rfl, HW9.out⟩
          go_simp
          refine Stage.wpSt_do v10 rfl (Stage.two_then (by decide) (by kernel_rfl) ?_) ?_
          · intro w' hw
            obtain rfl : w' = W9 := hw
            exact stage_append _ _ TFS rfl _ _ rfl rfl HR10.out rfl
          go_simp
          refine Stage.wpSt_reads 1 (fun _ => True) (by kernel_rfl) (Stage.two_any (by simp) (by simp)) ?_
          simp only [List.take_succ_cons, List.take_zero, List.drop_succ_cons, List.drop_zero]
          repeat (go_big_quiet_step (fail))
          refine wpQuiet_nil (Stage.wpSt_nil (Stage.two_end ?_))
          intro w11 hw11
          obtain rfl : w11 = w10 := hw11
          go_wp2_with fail
          go_roundw
          case rel => exact ⟨k + 1, ls ++ [y], by omega, by go_num, by rw [List.length_append]; exact HOwn10.out, HKey10.out, HOk10.out, HB10.out, by simp; omega⟩
          case measure => simp [intOf]; omega
    · obtain rfl : k = es.length := by omega
      have hfl : d.fs.length = es.length := by rw [HH.out.fs, List.length_map]
      rw [← hfl, List.take_length] at hkey
      obtain ⟨A4, c4, hv, -, hens⟩ := ens_of_own hown
      have hz4 := hr.row.free
      have hq4 := hr.row.lt
      have hq0 : q < w.heap.size := HH.out.row.lt
      have hWw := HS1.out
      have ht4 : Touch (· = q) wr ((wr.setCell ⟨q, 0, none⟩ (.slice A4 ls.length c4)).setCell ⟨q, 4, none⟩ (.bool false)) := ((Touch.refl (· = q) wr).setCell (p := ⟨q, 0, none⟩) (.inl rfl) _).setCell (p := ⟨q, 4, none⟩) (.inl rfl) _
      have hs4 : ((wr.setCell ⟨q, 0, none⟩ (.slice A4 ls.length c4)).setCell ⟨q, 4, none⟩ (.bool false)).heap.size = wr.heap.size := by simp
      have hrow4 : Row ((wr.setCell ⟨q, 0, none⟩ (.slice A4 ls.length c4)).setCell ⟨q, 4, none⟩ (.bool false)) q TR (rcells A4 ls.length c4 d.room d.deeds 0 false) := (hr.row.put 0 (.slice A4 ls.length c4)).put 4 (.bool false)
      have hMq : ¬ Since M w ((wr.setCell ⟨q, 0, none⟩ (.slice A4 ls.length c4)).setCell ⟨q, 4, none⟩ (.bool false)) q := by
        rintro (hk | hk)
        · exact HH.out.free hk
        · omega
      have hM3 : ∀ k, Since M w ((wr.setCell ⟨q, 0, none⟩ (.slice A4 ls.length c4)).setCell ⟨q, 4, none⟩ (.bool false)) k → ¬ k = q := fun k hk e => hMq (e ▸ hk)
      have hto : RefTo w ((wr.setCell ⟨q, 0, none⟩ (.slice A4 ls.length c4)).setCell ⟨q, 4, none⟩ (.bool false)) q ⟨d.room, onF (wishOf ks) 0 d.fs, d.deeds, false, 0⟩ M :=
        ⟨ls, A4, c4, ⟨hrow4, (hens.mono fun k hk => .inr ⟨by have := hk.1; omega, by rw [hs4]; exact hk.2⟩).touch ht4 hM3, fun e he => ((hok e he).mono fun k hk => .inl hk).touch ht4 hM3, hkey.symm, hMq, HH.out.room, by show 0 ≤ _; omega, HSo.out⟩, (HT1.out.trans (Touch.of_below (F := (· = q)) hbw)).trans ht4⟩
      subst hv
      have HTo := Lib.hid hto
      clear hown hok hkey hens hr ht4 hs4 hrow4 hMq hM3 hto g4
      go_wp2_with fail
      go_end0
      exact ⟨rfl, HTo.out⟩
end
end Go.Proofs.Ytiagoaaldpajmaa
namespace Go.Proofs.Ytiagoaaldpajmaa
open Go.ChangeShapes Go.WideShapes Go.ChangeAt Go.RowKit Go.BigFrame Go.Maps Go.Sort
set_option linter.unusedVariables false
section
variable {w0 w w' : World} {F G : Nat → Prop} {p : Nat} {d d' : DM}
theorem own_remove (h : OwnF w0 w p d F) (s : ByteArray) (hs : s.size ≤ 9223372036854775807) (hd : d.deeds ≤ 1000000000) :
    Calls Try.prog 17 #[.pointer (some ⟨p, 0, none⟩), .string s] w fun e w' => e = .returned (.int .i64 (removeE d s)) ∧ OwnF w0 w' p (removeD d s) (Ext F w w') ∧ Touch F w w' := by
  obtain ⟨m, g, v, hD⟩ := h.disk
  refine (remove_any hD s hs (fun k hk => (h.mine k hk).2) hd).mono ?_
  rintro e w' ⟨rfl, h1, h2⟩
  exact ⟨rfl, h.next h1 h2, h2⟩
theorem own_cut (h : OwnF w0 w p d F) (s : ByteArray) (n : Int) (hs : s.size ≤ 9223372036854775807) (hn : -9223372036854775808 ≤ n ∧ n ≤ 9223372036854775807) (hd : d.deeds ≤ 1000000000) :
    Calls Try.prog 30 #[.pointer (some ⟨p, 0, none⟩), .string s, .int .i64 n] w fun e w' => e = .returned (.int .i64 (cutE d s n)) ∧ OwnF w0 w' p (cutD d s n) (Ext F w w') ∧ Touch F w w' := by
  obtain ⟨m, g, v, hD⟩ := h.disk
  refine (cut_any hD s n hs hn (fun k hk => (h.mine k hk).2) hd).mono ?_
  rintro e w' ⟨rfl, h1, h2⟩
  exact ⟨rfl, h.next h1 h2, h2⟩
end
end Go.Proofs.Ytiagoaaldpajmaa
