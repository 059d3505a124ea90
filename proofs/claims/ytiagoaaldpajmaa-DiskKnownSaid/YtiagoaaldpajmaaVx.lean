/- Several texts in one: RefCalls2. -/
import Derived.Test.YtiagoaaldpajmaaVw
namespace Go.Proofs.Ytiagoaaldpajmaa
open Go.ChangeShapes Go.WideShapes Go.ChangeAt Go.RowKit Go.BigFrame Go.Maps Go.Sort
set_option linter.unusedVariables false
section
variable {w w' w1 w2 : World} {q : Nat} {d d' : DM} {es ys ts es1 : List En} {A A1 : Option Addr} {c c1 k : Nat} {M M' N : Nat → Prop} {e x : En} {G : Nat → Prop}
set_option maxRecDepth 100000 in
set_option maxHeartbeats 2000000 in
theorem ref_remove (h : RefAt w q d es A c M) (hMb : ∀ k, M k → k < w.heap.size) (s : ByteArray) (hs : s.size ≤ 9223372036854775807) (hd : d.deeds ≤ 1000000000) (hl : es.length ≤ 1000000) :
    Calls Try.prog 46 #[.pointer (some ⟨q, 0, none⟩), .string s] w fun e w' => e = .returned (.int .i64 (removeE d s)) ∧ RefTo w w' q (removeD d s) M := by
  have hre := ref_refused h s s true hs hs
  rw [refE_find] at hre
  have htd : Touch (· = q) w w.drew := (Touch.refl _ _).drew
  have hHd := h.still (Touch.refl _ w).drew
  unfold removeE removeD
  by_cases hE : findE d s [] = 0
  · simp only [if_pos hE]
    rw [hE] at hre
    by_cases hfu : d.fuse = 1
    · have hde := ref_deed_gone hHd hfu hd
      have e1 : deedE d = 30 := by unfold deedE; rw [if_pos hfu]
      have e2 : d.deed (delF s.data.toList d.fs) = d.tick := by unfold DM.deed DM.tick; rw [if_pos hfu, if_pos hfu]
      rw [e1, e2]
      have HRe := Lib.hid hre; have HH := Lib.hid h; have HDe := Lib.hid hde; have HTd := Lib.hid htd
      clear hre h hHd hde e1 e2 hE htd
      go_enter Try.func46, Try.ntmps46
      go_wp2_with fail
      refine (HRe.out).mono ?_; rintro e w1 ⟨rfl, rfl⟩
      go_wp2_with fail
      refine (HDe.out).mono ?_; rintro e w2 ⟨rfl, h1, ht1, hz1⟩
      have H1 := Lib.hid (h1.to (HTd.out.trans ht1) HH.out.free HH.out.row.lt); clear h1 ht1 hz1
      go_wp2_with fail
      go_ret
      exact ⟨rfl, H1.out⟩
    · have hde := ref_deed_well hHd hfu hd
      have e1 : deedE d = 0 := by unfold deedE; rw [if_neg hfu]
      have htf : d.tick.fs = d.fs := by unfold DM.tick; rw [if_neg hfu]
      have e2 : d.deed (delF s.data.toList d.fs) = { d.tick with fs := delF s.data.toList d.tick.fs } := by unfold DM.deed DM.tick; rw [if_neg hfu, if_neg hfu]
      rw [e1, e2]
      have HRe := Lib.hid hre; have HH := Lib.hid h; have HDe := Lib.hid hde; have HTd := Lib.hid htd
      clear hre h hHd hde e1 e2 hE htd
      go_enter Try.func46, Try.ntmps46
      go_wp2_with fail
      refine (HRe.out).mono ?_; rintro e w1 ⟨rfl, rfl⟩
      go_wp2_with fail
      refine (HDe.out).mono ?_; rintro e w2 ⟨rfl, h1, ht1, hz1⟩
      have hwo := ref_without h1 s (by omega)
      have H1 := Lib.hid h1; have HT1 := Lib.hid (HTd.out.trans ht1); have HWo := Lib.hid hwo; clear h1 ht1 hz1 hwo
      go_wp2_with fail
      refine (HWo.out).mono ?_; rintro e w3 ⟨A1, c1, rfl, hens1, hb3⟩
      have h3 := H1.out.still (Touch.of_below hb3)
      have hq3 : q < w.heap.size := HH.out.row.lt
      have hs2 : w.heap.size ≤ w2.heap.size := HT1.out.size
      have hMq : ¬ Since M w w3 q := by
        rintro (hk | hk)
        · exact HH.out.free hk
        · omega
      obtain ⟨h5, ht5⟩ := ref_less (M' := Since M w w3) h3 s.data.toList hens1 (fun k hk => .inr ⟨by have := hk.1; omega, hk.2⟩) (fun k hk => .inl hk) hMq out_mem (out_key h3 _)
      generalize outE (posF s.data.toList d.tick.fs) (isF s.data.toList d.tick.fs) es = es1 at h5 ht5 ⊢
      obtain ⟨g0, -, -, -, -⟩ := rrow h3.row
      have hz3 := h3.row.free
      have hl3 := h3.row.lt
      have hs5 : (w3.setCell ⟨q, 0, none⟩ (.slice A1 es1.length c1)).heap.size = w3.heap.size := by simp
      have hto : RefTo w (w3.setCell ⟨q, 0, none⟩ (.slice A1 es1.length c1)) q { d.tick with fs := delF s.data.toList d.tick.fs } M :=
        ⟨es1, A1, c1, h5.mono (fun k hk => by rcases hk with hk | hk; exact .inl hk; exact .inr ⟨hk.1, by rw [hs5]; exact hk.2⟩) (by rintro (hk | hk); exact HH.out.free hk; omega), (HT1.out.trans (Touch.of_below (F := (· = q)) hb3)).trans ht5⟩
      have HTo := Lib.hid hto
      clear hens1 hb3 h3 hMq h5 ht5 hto hs5
      go_wp2_with fail
      go_ret
      exact ⟨rfl, HTo.out⟩
  · simp only [if_neg hE]
    have hne : (findE d s [] != 0) = true := by simpa using hE
    have hne2 : (findE d s [] == 0) = false := by simpa using hE
    have HRe := Lib.hid hre; have HTo := Lib.hid (hHd.to htd h.free h.row.lt)
    clear hre h hHd hE
    go_enter Try.func46, Try.ntmps46
    go_wp2_with fail
    refine (HRe.out).mono ?_; rintro e w1 ⟨rfl, rfl⟩
    go_wp2_with fail
    go_ret
    exact ⟨rfl, HTo.out⟩
set_option maxRecDepth 100000 in
set_option maxHeartbeats 2000000 in
theorem ref_read (h : RefAt w q d es A c M) (hMb : ∀ k, M k → k < w.heap.size) (s : ByteArray) (hs : s.size ≤ 9223372036854775807) (hd : d.deeds ≤ 1000000000) (hl : es.length ≤ 1000000) (hbl : ∀ n x, getF n d.fs = some x → x.b.length ≤ 9223372036854775807) :
    Calls Try.prog 47 #[.pointer (some ⟨q, 0, none⟩), .string s] w fun e w' => ∃ A c, e = .returned (.tuple #[.slice A (readB d s).length c, .int .i64 (findE d s [])]) ∧ Bytes w' A (readB d s) ∧ RefTo w w' q d M := by
  have hre := ref_refused h s s true hs hs
  rw [refE_find] at hre
  have htd : Touch (· = q) w w.drew := (Touch.refl _ _).drew
  have hHd := h.still (Touch.refl _ w).drew
  by_cases hE : findE d s [] = 0
  · rw [hE] at hre
    have hfi := ref_file hHd (fun k hk => hMb k hk) s hs
    obtain ⟨y, hy⟩ := find_some hE
    have hrb : readB d s = y.b := by unfold readB; rw [if_pos hE, hy]
    rw [hE, hrb]
    have HRe := Lib.hid hre; have HH := Lib.hid h; have HFi := Lib.hid hfi; have HHd := Lib.hid hHd; have HTd := Lib.hid htd; have HY := Lib.hid hy
    clear hre h hfi hHd hE hrb htd hy
    go_enter Try.func47, Try.ntmps47
    go_wp2_with fail
    refine (HRe.out).mono ?_; rintro e w1 ⟨rfl, rfl⟩
    go_wp2_with fail
    refine (HFi.out).mono ?_; rintro e w2 ⟨x, rfl, hxn, hxf, hxo, hb2⟩
    rw [show x.val = .agg #[.string x.name, .slice x.ba x.f.b.length x.bc, .int .i64 (x.f.sure : Nat), .bool x.f.made] from rfl]
    have hfd := fun w : World => field_b w x
    have hfx : x.f = y := by rw [hxf, HY.out]; rfl
    have HXo := Lib.hid hxo; have HFx := Lib.hid hfx
    have HTo := Lib.hid ((HHd.out.still (Touch.of_below hb2)).to (HTd.out.trans (Touch.of_below (F := (· = q)) hb2)) HH.out.free HH.out.row.lt)
    clear hxn hxf hxo hb2 hfx
    go_wp2_with fail
    go_ret2
    exact ⟨x.ba, x.bc, by rw [← HFx.out]; rfl, by rw [← HFx.out]; exact HXo.out.bytes, HTo.out⟩
  · have hrb : readB d s = [] := by unfold readB; rw [if_neg hE]
    rw [hrb]
    have hne : (findE d s [] != 0) = true := by simpa using hE
    have hne2 : (findE d s [] == 0) = false := by simpa using hE
    have HRe := Lib.hid hre; have HTo := Lib.hid (hHd.to htd h.free h.row.lt)
    clear hre h hHd hE
    go_enter Try.func47, Try.ntmps47
    go_wp2_with fail
    refine (HRe.out).mono ?_; rintro e w1 ⟨rfl, rfl⟩
    go_wp2_with fail
    go_ret2
    exact ⟨none, 0, rfl, ⟨by simp, by simp⟩, HTo.out⟩
set_option maxRecDepth 100000 in
set_option maxHeartbeats 2000000 in
theorem ref_cut (h : RefAt w q d es A c M) (hMb : ∀ k, M k → k < w.heap.size) (s : ByteArray) (n : Int) (hs : s.size ≤ 9223372036854775807) (hd : d.deeds ≤ 1000000000) (hl : es.length ≤ 1000000) (hbl : ∀ n x, getF n d.fs = some x → x.b.length ≤ 9223372036854775807) (hn : -9223372036854775808 ≤ n ∧ n ≤ 9223372036854775807) :
    Calls Try.prog 44 #[.pointer (some ⟨q, 0, none⟩), .string s, .int .i64 n] w fun e w' => e = .returned (.int .i64 (cutE d s n)) ∧ RefTo w w' q (cutD d s n) M := by
  have hre := ref_refused h s s true hs hs
  rw [refE_find] at hre
  have htd : Touch (· = q) w w.drew := (Touch.refl _ _).drew
  have hHd := h.still (Touch.refl _ w).drew
  unfold cutE cutD
  by_cases hE : findE d s [] = 0
  · simp only [if_pos hE]
    rw [hE] at hre
    obtain ⟨y, hy⟩ := find_some hE
    rw [lenF_some hy, hy]
    by_cases hneg : n < 0
    · rw [if_pos (.inl hneg), if_pos (.inl hneg)]
      have hdc : decide (n < 0) = true := decide_eq_true hneg
      have HRe := Lib.hid hre; have HTo := Lib.hid (hHd.to htd h.free h.row.lt)
      clear hre h hHd hE hy hMb hbl
      go_enter Try.func44, Try.ntmps44
      go_wp2_with fail
      refine (HRe.out).mono ?_; rintro e w1 ⟨rfl, rfl⟩
      go_wp2_with fail
      go_ret
      exact ⟨rfl, HTo.out⟩
    have hdc : decide (n < 0) = false := decide_eq_false hneg
    have hfi := ref_file hHd (fun k hk => hMb k hk) s hs
    have hyl := hbl _ _ hy
    by_cases hmore : (y.b.length : Int) < n
    · rw [if_pos (.inr hmore), if_pos (.inr hmore)]
      have HRe := Lib.hid hre; have HH := Lib.hid h; have HFi := Lib.hid hfi; have HHd := Lib.hid hHd; have HTd := Lib.hid htd; have HY := Lib.hid hy; have HMb := Lib.hid hMb
      clear hre h hfi hHd hE htd hy hMb hbl
      go_enter Try.func44, Try.ntmps44
      go_wp2_with fail
      refine (HRe.out).mono ?_; rintro e w1 ⟨rfl, rfl⟩
      go_wp2_with fail
      refine (HFi.out).mono ?_; rintro e w2 ⟨x, rfl, hxn, hxf, hxo, hb2⟩
      rw [show x.val = .agg #[.string x.name, .slice x.ba x.f.b.length x.bc, .int .i64 (x.f.sure : Nat), .bool x.f.made] from rfl]
      have hfd := fun w : World => field_b w x
      have hfx : x.f = y := by rw [hxf, HY.out]; rfl
      have hdm : decide ((x.f.b.length : Int) < n) = true := decide_eq_true (by rw [hfx]; exact hmore)
      have HTo := Lib.hid ((HHd.out.still (Touch.of_below hb2)).to (HTd.out.trans (Touch.of_below (F := (· = q)) hb2)) HH.out.free HH.out.row.lt)
      clear hxn hxf hxo hb2 hfx
      go_wp2_with fail
      go_ret
      exact ⟨rfl, HTo.out⟩
    · rw [if_neg (by omega), if_neg (by omega)]
      have HRe := Lib.hid hre; have HH := Lib.hid h; have HFi := Lib.hid hfi; have HHd := Lib.hid hHd; have HTd := Lib.hid htd; have HY := Lib.hid hy; have HMb := Lib.hid hMb
      clear hre h hfi hHd hE htd hy hMb hbl
      go_enter Try.func44, Try.ntmps44
      go_wp2_with fail
      refine (HRe.out).mono ?_; rintro e w1 ⟨rfl, rfl⟩
      go_wp2_with fail
      refine (HFi.out).mono ?_; rintro e w2 ⟨x, rfl, hxn, hxf, hxo, hb2⟩
      rw [show x.val = .agg #[.string x.name, .slice x.ba x.f.b.length x.bc, .int .i64 (x.f.sure : Nat), .bool x.f.made] from rfl]
      have hfd := fun w : World => field_b w x
      have hfx : x.f = y := by rw [hxf, HY.out]; rfl
      have hdm : decide ((x.f.b.length : Int) < n) = false := decide_eq_false (by rw [hfx]; omega)
      obtain ⟨j, rfl⟩ := Int.eq_ofNat_of_zero_le (by omega : 0 ≤ n)
      have hj : j ≤ x.f.b.length := by rw [hfx]; omega
      have hsu := ref_sure (HHd.out.still (Touch.of_below hb2)) (fun k hk => Nat.lt_of_lt_of_le (HMb.out k hk) hb2.size) s s j hs hs hd hl (by rw [← hxf]; exact hj)
      have hD : sureD d s s j = d.deed (putF s.data.toList (cutF y ((j : Int)).toNat) d.fs) := by
        unfold sureD DM.deed DM.tick
        rw [HY.out]
        by_cases hfu : d.fuse = 1
        · simp only [if_pos hfu]
        · simp only [if_neg hfu, Option.getD_some, put_del', Int.toNat_natCast]
      rw [hD] at hsu
      have HSu := Lib.hid hsu; have HT2 := Lib.hid (HTd.out.trans (Touch.of_below (F := (· = q)) hb2))
      clear hsu hxn hxf hxo hb2 hfx hD
      go_wp2_with fail
      refine (HSu.out).mono ?_; rintro e w3 ⟨rfl, h3⟩
      have H3 := Lib.hid (h3.from HT2.out HH.out.free HH.out.row.lt); clear h3
      go_wp2_with fail
      go_ret
      exact ⟨rfl, H3.out⟩
  · simp only [if_neg hE]
    have hne : (findE d s [] != 0) = true := by simpa using hE
    have hne2 : (findE d s [] == 0) = false := by simpa using hE
    have HRe := Lib.hid hre; have HTo := Lib.hid (hHd.to htd h.free h.row.lt)
    clear hre h hHd hE
    go_enter Try.func44, Try.ntmps44
    go_wp2_with fail
    refine (HRe.out).mono ?_; rintro e w1 ⟨rfl, rfl⟩
    go_wp2_with fail
    go_ret
    exact ⟨rfl, HTo.out⟩
end
end Go.Proofs.Ytiagoaaldpajmaa
