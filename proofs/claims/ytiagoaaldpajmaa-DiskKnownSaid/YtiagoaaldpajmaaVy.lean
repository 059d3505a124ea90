/- Several texts in one: RefApp, Stays2. -/
import Derived.Test.YtiagoaaldpajmaaVx
import Derived.Test.YtiagoaaldpajmaaVm
import Derived.Test.YtiagoaaldpajmaaVu
namespace Go.Proofs.Ytiagoaaldpajmaa
open Go.ChangeShapes Go.WideShapes Go.ChangeAt Go.RowKit Go.BigFrame Go.Maps Go.Sort
set_option linter.unusedVariables false
section
variable {w w' w1 w2 : World} {q : Nat} {d d' : DM} {es ys ts es1 : List En} {A A1 : Option Addr} {c c1 k : Nat} {M M' N : Nat → Prop} {e x : En} {G : Nat → Prop}
theorem refE_look {s : ByteArray} : refE d s s false = lookE d.off [s] := by
  have h1 : lookE d.off [s, s] = lookE d.off [s] := by unfold lookE; simp
  unfold refE
  rw [h1]
  by_cases h0 : lookE d.off [s] = 0
  · simp [h0]
  · simp [h0]
theorem lenF_getD {n : Nm} {fs : Fs} : lenF n fs = ((getF n fs).getD newF).b.length := by
  unfold lenF
  cases getF n fs <;> rfl
theorem tick_fs {fs : Fs} : ({ d with fs := fs } : DM).tick = { d.tick with fs := fs } := by
  unfold DM.tick
  by_cases hfu : d.fuse = 1
  · rw [if_pos hfu, if_pos hfu]
  · rw [if_neg hfu, if_neg hfu]
set_option maxRecDepth 100000 in
set_option maxHeartbeats 4000000 in
theorem ref_append_bad (h : RefAt w q d es A c M) (hMb : ∀ k, M k → k < w.heap.size) (s : ByteArray) (B : Addr) (bs : List Nat) (cb : Nat) (hB : Bytes w (some B) bs) (hs : s.size ≤ 9223372036854775807) (hb : bs.length ≤ 1000000000) (hd : d.deeds ≤ 1000000000) (hl : es.length ≤ 1000000) (hbl : ∀ n x, getF n d.fs = some x → x.b.length ≤ 8388608) (hu : usedF d.fs ≤ 1000000000000) (hE : lookE d.off [s] ≠ 0) :
    Calls Try.prog 23 #[.pointer (some ⟨q, 0, none⟩), .string s, .slice (some B) bs.length cb] w fun e w' => e = .returned (.int .i64 (lookE d.off [s])) ∧ RefTo w w' q d M := by
  have hre := ref_refused h s s false hs hs
  rw [refE_look] at hre
  have htd : Touch (· = q) w w.drew := (Touch.refl _ _).drew
  have hHd := h.still (Touch.refl _ w).drew
  have hfi := ref_file hHd (fun k hk => hMb k hk) s hs
  have hyl : ((getF s.data.toList d.fs).getD newF).b.length ≤ 8388608 := by
    cases hg : getF s.data.toList d.fs with
    | none => simp [newF]
    | some y => exact hbl _ _ hg
  have hne : (lookE d.off [s] != 0) = true := by simpa using hE
  have HRe := Lib.hid hre; have HH := Lib.hid h; have HFi := Lib.hid hfi; have HHd := Lib.hid hHd; have HTd := Lib.hid htd; have HMb := Lib.hid hMb; have HB := Lib.hid hB; have HYl := Lib.hid hyl; have HU := Lib.hid hu; have HLen := Lib.hid (lenF_getD (n := s.data.toList) (fs := d.fs))
  clear hre h hfi hHd htd hMb hbl hB hyl hu
  go_enter Try.func23, Try.ntmps23
  go_wp2_with fail
  refine (HRe.out).mono ?_; rintro e w1 ⟨rfl, rfl⟩
  go_wp2_with fail
  refine (HFi.out).mono ?_; rintro e w2 ⟨x, rfl, hxn, hxf, hxo, hb2⟩
  rw [show x.val = .agg #[.string x.name, .slice x.ba x.f.b.length x.bc, .int .i64 (x.f.sure : Nat), .bool x.f.made] from rfl]
  obtain ⟨kb, hkb⟩ : ∃ kb, kb = w2.heap.size := ⟨_, rfl⟩
  obtain ⟨W3, hW3⟩ : ∃ W3, W3 = w2.alloc (.cells x.cells.toArray TRF) := ⟨_, rfl⟩
  have hrb : Row W3 kb TRF x.cells := by rw [hW3, hkb]; exact Row.made w2 TRF x.cells
  have hb3 : Below w2.heap.size w2 W3 := by rw [hW3]; exact (Below.refl _ _).alloc (Nat.le_refl _) _
  have hxl : x.f.b.length ≤ 8388608 := by rw [hxf]; exact HYl.out
  have hx1 : x.f.b.length = lenF s.data.toList d.fs := by rw [hxf, HLen.out]
  have hT3 : Touch (· = q) w W3 := (HTd.out.trans (Touch.of_below (F := (· = q)) hb2)).trans (Touch.of_below (F := (· = q)) hb3)
  have h3 := (HHd.out.still (Touch.of_below hb2)).still (Touch.of_below hb3)
  have hbw3 : Below w.heap.size w W3 := ((Below.refl _ w).drew.trans hb2).trans (hb3.mono hb2.size)
  have hW3' : W3 = w2.alloc (.cells #[.string x.name, .slice x.ba x.f.b.length x.bc, .int .i64 (x.f.sure : Nat), .bool x.f.made] TRF) := hW3
  have f1 : W3.cell? ⟨kb, 1, none⟩ = some (.slice x.ba x.f.b.length x.bc) := hrb.cell 1
  have hxo3 := hxo.touch (Touch.of_below (F := fun _ => False) hb3) (fun _ _ h => h)
  have HKw := Lib.hid (show w.heap.size ≤ kb by rw [hkb]; exact hb2.size)
  have HW3 := Lib.hid hW3'; have HKb := Lib.hid hkb; have HRb := Lib.hid hrb; have HX1 := Lib.hid hx1; have HT3 := Lib.hid hT3; have H3 := Lib.hid h3; have HBw3 := Lib.hid hbw3; have HXf := Lib.hid hxf; have HXn := Lib.hid hxn; have HXo3 := Lib.hid hxo3
  clear hxn hxf hxo hb2 hb3 hW3 hW3' hkb hrb hx1 hT3 h3 hbw3 hxo3
  have HTo := Lib.hid (H3.out.to HT3.out HH.out.free HH.out.row.lt)
  go_wp2_with fail
  go_ret
  exact ⟨rfl, by rw [← HW3.out]; exact HTo.out⟩
set_option maxRecDepth 100000 in
set_option maxHeartbeats 4000000 in
theorem ref_append_limit (h : RefAt w q d es A c M) (hMb : ∀ k, M k → k < w.heap.size) (s : ByteArray) (B : Addr) (bs : List Nat) (cb : Nat) (hB : Bytes w (some B) bs) (hs : s.size ≤ 9223372036854775807) (hb : bs.length ≤ 1000000000) (hd : d.deeds ≤ 1000000000) (hl : es.length ≤ 1000000) (hbl : ∀ n x, getF n d.fs = some x → x.b.length ≤ 8388608) (hu : usedF d.fs ≤ 1000000000000) (hE : lookE d.off [s] = 0) (hlim : 8388608 < lenF s.data.toList d.fs + bs.length) :
    Calls Try.prog 23 #[.pointer (some ⟨q, 0, none⟩), .string s, .slice (some B) bs.length cb] w fun e w' => e = .returned (.int .i64 3) ∧ RefTo w w' q d M := by
  have hre := ref_refused h s s false hs hs
  rw [refE_look] at hre
  have htd : Touch (· = q) w w.drew := (Touch.refl _ _).drew
  have hHd := h.still (Touch.refl _ w).drew
  have hfi := ref_file hHd (fun k hk => hMb k hk) s hs
  have hyl : ((getF s.data.toList d.fs).getD newF).b.length ≤ 8388608 := by
    cases hg : getF s.data.toList d.fs with
    | none => simp [newF]
    | some y => exact hbl _ _ hg
  rw [hE] at hre
  have HRe := Lib.hid hre; have HH := Lib.hid h; have HFi := Lib.hid hfi; have HHd := Lib.hid hHd; have HTd := Lib.hid htd; have HMb := Lib.hid hMb; have HB := Lib.hid hB; have HYl := Lib.hid hyl; have HU := Lib.hid hu; have HLen := Lib.hid (lenF_getD (n := s.data.toList) (fs := d.fs))
  clear hre h hfi hHd htd hMb hbl hB hyl hu
  go_enter Try.func23, Try.ntmps23
  go_wp2_with fail
  refine (HRe.out).mono ?_; rintro e w1 ⟨rfl, rfl⟩
  go_wp2_with fail
  refine (HFi.out).mono ?_; rintro e w2 ⟨x, rfl, hxn, hxf, hxo, hb2⟩
  rw [show x.val = .agg #[.string x.name, .slice x.ba x.f.b.length x.bc, .int .i64 (x.f.sure : Nat), .bool x.f.made] from rfl]
  obtain ⟨kb, hkb⟩ : ∃ kb, kb = w2.heap.size := ⟨_, rfl⟩
  obtain ⟨W3, hW3⟩ : ∃ W3, W3 = w2.alloc (.cells x.cells.toArray TRF) := ⟨_, rfl⟩
  have hrb : Row W3 kb TRF x.cells := by rw [hW3, hkb]; exact Row.made w2 TRF x.cells
  have hb3 : Below w2.heap.size w2 W3 := by rw [hW3]; exact (Below.refl _ _).alloc (Nat.le_refl _) _
  have hxl : x.f.b.length ≤ 8388608 := by rw [hxf]; exact HYl.out
  have hx1 : x.f.b.length = lenF s.data.toList d.fs := by rw [hxf, HLen.out]
  have hT3 : Touch (· = q) w W3 := (HTd.out.trans (Touch.of_below (F := (· = q)) hb2)).trans (Touch.of_below (F := (· = q)) hb3)
  have h3 := (HHd.out.still (Touch.of_below hb2)).still (Touch.of_below hb3)
  have hbw3 : Below w.heap.size w W3 := ((Below.refl _ w).drew.trans hb2).trans (hb3.mono hb2.size)
  have hW3' : W3 = w2.alloc (.cells #[.string x.name, .slice x.ba x.f.b.length x.bc, .int .i64 (x.f.sure : Nat), .bool x.f.made] TRF) := hW3
  have f1 : W3.cell? ⟨kb, 1, none⟩ = some (.slice x.ba x.f.b.length x.bc) := hrb.cell 1
  have hxo3 := hxo.touch (Touch.of_below (F := fun _ => False) hb3) (fun _ _ h => h)
  have HKw := Lib.hid (show w.heap.size ≤ kb by rw [hkb]; exact hb2.size)
  have HW3 := Lib.hid hW3'; have HKb := Lib.hid hkb; have HRb := Lib.hid hrb; have HX1 := Lib.hid hx1; have HT3 := Lib.hid hT3; have H3 := Lib.hid h3; have HBw3 := Lib.hid hbw3; have HXf := Lib.hid hxf; have HXn := Lib.hid hxn; have HXo3 := Lib.hid hxo3
  clear hxn hxf hxo hb2 hb3 hW3 hW3' hkb hrb hx1 hT3 h3 hbw3 hxo3
  have HTo := Lib.hid (H3.out.to HT3.out HH.out.free HH.out.row.lt)
  have hlx : 8388608 < x.f.b.length + bs.length := by rw [HX1.out]; exact hlim
  go_wp2_with fail
  go_ret
  exact ⟨rfl, by rw [← HW3.out]; exact HTo.out⟩
set_option maxRecDepth 100000 in
set_option maxHeartbeats 4000000 in
theorem ref_append_full (h : RefAt w q d es A c M) (hMb : ∀ k, M k → k < w.heap.size) (s : ByteArray) (B : Addr) (bs : List Nat) (cb : Nat) (hB : Bytes w (some B) bs) (hs : s.size ≤ 9223372036854775807) (hb : bs.length ≤ 1000000000) (hd : d.deeds ≤ 1000000000) (hl : es.length ≤ 1000000) (hbl : ∀ n x, getF n d.fs = some x → x.b.length ≤ 8388608) (hu : usedF d.fs ≤ 1000000000000) (hE : lookE d.off [s] = 0) (hlim : lenF s.data.toList d.fs + bs.length ≤ 8388608) (hfull : d.room < usedF d.fs + bs.length) :
    Calls Try.prog 23 #[.pointer (some ⟨q, 0, none⟩), .string s, .slice (some B) bs.length cb] w fun e w' => e = .returned (.int .i64 31) ∧ RefTo w w' q d M := by
  have hre := ref_refused h s s false hs hs
  rw [refE_look] at hre
  have htd : Touch (· = q) w w.drew := (Touch.refl _ _).drew
  have hHd := h.still (Touch.refl _ w).drew
  have hfi := ref_file hHd (fun k hk => hMb k hk) s hs
  have hyl : ((getF s.data.toList d.fs).getD newF).b.length ≤ 8388608 := by
    cases hg : getF s.data.toList d.fs with
    | none => simp [newF]
    | some y => exact hbl _ _ hg
  rw [hE] at hre
  have HRe := Lib.hid hre; have HH := Lib.hid h; have HFi := Lib.hid hfi; have HHd := Lib.hid hHd; have HTd := Lib.hid htd; have HMb := Lib.hid hMb; have HB := Lib.hid hB; have HYl := Lib.hid hyl; have HU := Lib.hid hu; have HLen := Lib.hid (lenF_getD (n := s.data.toList) (fs := d.fs))
  clear hre h hfi hHd htd hMb hbl hB hyl hu
  go_enter Try.func23, Try.ntmps23
  go_wp2_with fail
  refine (HRe.out).mono ?_; rintro e w1 ⟨rfl, rfl⟩
  go_wp2_with fail
  refine (HFi.out).mono ?_; rintro e w2 ⟨x, rfl, hxn, hxf, hxo, hb2⟩
  rw [show x.val = .agg #[.string x.name, .slice x.ba x.f.b.length x.bc, .int .i64 (x.f.sure : Nat), .bool x.f.made] from rfl]
  obtain ⟨kb, hkb⟩ : ∃ kb, kb = w2.heap.size := ⟨_, rfl⟩
  obtain ⟨W3, hW3⟩ : ∃ W3, W3 = w2.alloc (.cells x.cells.toArray TRF) := ⟨_, rfl⟩
  have hrb : Row W3 kb TRF x.cells := by rw [hW3, hkb]; exact Row.made w2 TRF x.cells
  have hb3 : Below w2.heap.size w2 W3 := by rw [hW3]; exact (Below.refl _ _).alloc (Nat.le_refl _) _
  have hxl : x.f.b.length ≤ 8388608 := by rw [hxf]; exact HYl.out
  have hx1 : x.f.b.length = lenF s.data.toList d.fs := by rw [hxf, HLen.out]
  have hT3 : Touch (· = q) w W3 := (HTd.out.trans (Touch.of_below (F := (· = q)) hb2)).trans (Touch.of_below (F := (· = q)) hb3)
  have h3 := (HHd.out.still (Touch.of_below hb2)).still (Touch.of_below hb3)
  have hbw3 : Below w.heap.size w W3 := ((Below.refl _ w).drew.trans hb2).trans (hb3.mono hb2.size)
  have hW3' : W3 = w2.alloc (.cells #[.string x.name, .slice x.ba x.f.b.length x.bc, .int .i64 (x.f.sure : Nat), .bool x.f.made] TRF) := hW3
  have f1 : W3.cell? ⟨kb, 1, none⟩ = some (.slice x.ba x.f.b.length x.bc) := hrb.cell 1
  have hxo3 := hxo.touch (Touch.of_below (F := fun _ => False) hb3) (fun _ _ h => h)
  have HKw := Lib.hid (show w.heap.size ≤ kb by rw [hkb]; exact hb2.size)
  have HW3 := Lib.hid hW3'; have HKb := Lib.hid hkb; have HRb := Lib.hid hrb; have HX1 := Lib.hid hx1; have HT3 := Lib.hid hT3; have H3 := Lib.hid h3; have HBw3 := Lib.hid hbw3; have HXf := Lib.hid hxf; have HXn := Lib.hid hxn; have HXo3 := Lib.hid hxo3
  clear hxn hxf hxo hb2 hb3 hW3 hW3' hkb hrb hx1 hT3 h3 hbw3 hxo3
  have HTo := Lib.hid ((H3.out.still (Touch.refl _ W3).drew).to (HT3.out.trans (Touch.refl _ _).drew) HH.out.free HH.out.row.lt)
  have hlx : x.f.b.length + bs.length ≤ 8388608 := by rw [HX1.out]; exact hlim
  have hus : usedF d.fs ≤ 9223372036854775807 := by have := HU.out; omega
  obtain ⟨ud, hud⟩ : ∃ ud, ud = usedF d.fs := ⟨_, rfl⟩
  have hul : ud ≤ 1000000000000 := by rw [hud]; exact HU.out
  have hused := ref_used (H3.out.still (Touch.refl _ W3).drew) hus
  rw [← hud] at hused
  have hud2 : W3.drew.cell? ⟨q, 1, none⟩ = some (.int .i64 (d.room : Nat)) := (rrow H3.out.row).2.1
  have hrm : d.room ≤ 9223372036854775807 := H3.out.room
  have HUsed := Lib.hid hused; have HUd := Lib.hid hud; clear hused hud hus
  have hfx : d.room < ud + bs.length := by rw [HUd.out]; exact hfull
  go_wp2_with fail
  rw [← HW3.out, ← HKb.out]
  refine Stage.wp_region (by kernel_rfl) (by kernel_rfl) (fun _ w' => w' = W3.drew) rfl ?_
  refine Stage.wpSt_reads 1 (fun w' => w' = W3.drew) (by kernel_rfl) (fun i _ _ S w' _ _ h => ⟨h, h⟩) ?_
  simp only [List.take_succ_cons, List.take_zero, List.drop_succ_cons, List.drop_zero]
  repeat (go_big_quiet_step (fail))
  refine wpQuiet_nil ?_
  refine Stage.wpSt_do (.int .i64 (ud : Nat)) rfl (fun S w' _ _ hw => ?_) ?_
  · have hw' : w' = W3.drew := hw
    subst hw'
    refine Free.at_call _ _ rfl Try.func51 (by kernel_rfl) rfl [.pointer (some ⟨q, 0, none⟩)] rfl ?_
    exact (HUsed.out).mono fun e w'' ⟨he, h⟩ => ⟨he, h.symm⟩
  go_simp
  refine Stage.wpSt_reads 9 (fun w' => w' = W3.drew) (by kernel_rfl) (fun i _ _ S w' _ _ h => ⟨h, h⟩) ?_
  simp only [List.take_succ_cons, List.take_zero, List.drop_succ_cons, List.drop_zero]
  repeat (go_big_quiet_step (fail))
  refine wpQuiet_nil (Stage.wpSt_nil ?_)
  intro S w4 _ hw4
  have hw4' : w4 = W3.drew := hw4
  subst hw4'
  clear hw4
  go_wp2_with fail
  go_ret
  exact ⟨rfl, HTo.out⟩
set_option maxRecDepth 100000 in
set_option maxHeartbeats 4000000 in
theorem ref_append_ok (h : RefAt w q d es A c M) (hMb : ∀ k, M k → k < w.heap.size) (s : ByteArray) (B : Addr) (bs : List Nat) (cb : Nat) (hB : Bytes w (some B) bs) (hs : s.size ≤ 9223372036854775807) (hb : bs.length ≤ 1000000000) (hd : d.deeds ≤ 1000000000) (hl : es.length ≤ 1000000) (hbl : ∀ n x, getF n d.fs = some x → x.b.length ≤ 8388608) (hu : usedF d.fs ≤ 1000000000000) (hE : lookE d.off [s] = 0) (hlim : lenF s.data.toList d.fs + bs.length ≤ 8388608) (hfull : usedF d.fs + bs.length ≤ d.room) :
    Calls Try.prog 23 #[.pointer (some ⟨q, 0, none⟩), .string s, .slice (some B) bs.length cb] w fun e w' => e = .returned (.int .i64 (if d.fuse = 1 then 30 else 0)) ∧ RefTo w w' q { d.tick with fs := appendF s.data.toList bs d.fs } M := by
  have hre := ref_refused h s s false hs hs
  rw [refE_look] at hre
  have htd : Touch (· = q) w w.drew := (Touch.refl _ _).drew
  have hHd := h.still (Touch.refl _ w).drew
  have hfi := ref_file hHd (fun k hk => hMb k hk) s hs
  have hyl : ((getF s.data.toList d.fs).getD newF).b.length ≤ 8388608 := by
    cases hg : getF s.data.toList d.fs with
    | none => simp [newF]
    | some y => exact hbl _ _ hg
  rw [hE] at hre
  have HRe := Lib.hid hre; have HH := Lib.hid h; have HFi := Lib.hid hfi; have HHd := Lib.hid hHd; have HTd := Lib.hid htd; have HMb := Lib.hid hMb; have HB := Lib.hid hB; have HYl := Lib.hid hyl; have HU := Lib.hid hu; have HLen := Lib.hid (lenF_getD (n := s.data.toList) (fs := d.fs))
  clear hre h hfi hHd htd hMb hbl hB hyl hu
  go_enter Try.func23, Try.ntmps23
  go_wp2_with fail
  refine (HRe.out).mono ?_; rintro e w1 ⟨rfl, rfl⟩
  go_wp2_with fail
  refine (HFi.out).mono ?_; rintro e w2 ⟨x, rfl, hxn, hxf, hxo, hb2⟩
  rw [show x.val = .agg #[.string x.name, .slice x.ba x.f.b.length x.bc, .int .i64 (x.f.sure : Nat), .bool x.f.made] from rfl]
  obtain ⟨kb, hkb⟩ : ∃ kb, kb = w2.heap.size := ⟨_, rfl⟩
  obtain ⟨W3, hW3⟩ : ∃ W3, W3 = w2.alloc (.cells x.cells.toArray TRF) := ⟨_, rfl⟩
  have hrb : Row W3 kb TRF x.cells := by rw [hW3, hkb]; exact Row.made w2 TRF x.cells
  have hb3 : Below w2.heap.size w2 W3 := by rw [hW3]; exact (Below.refl _ _).alloc (Nat.le_refl _) _
  have hxl : x.f.b.length ≤ 8388608 := by rw [hxf]; exact HYl.out
  have hx1 : x.f.b.length = lenF s.data.toList d.fs := by rw [hxf, HLen.out]
  have hT3 : Touch (· = q) w W3 := (HTd.out.trans (Touch.of_below (F := (· = q)) hb2)).trans (Touch.of_below (F := (· = q)) hb3)
  have h3 := (HHd.out.still (Touch.of_below hb2)).still (Touch.of_below hb3)
  have hbw3 : Below w.heap.size w W3 := ((Below.refl _ w).drew.trans hb2).trans (hb3.mono hb2.size)
  have hW3' : W3 = w2.alloc (.cells #[.string x.name, .slice x.ba x.f.b.length x.bc, .int .i64 (x.f.sure : Nat), .bool x.f.made] TRF) := hW3
  have f1 : W3.cell? ⟨kb, 1, none⟩ = some (.slice x.ba x.f.b.length x.bc) := hrb.cell 1
  have hxo3 := hxo.touch (Touch.of_below (F := fun _ => False) hb3) (fun _ _ h => h)
  have HKw := Lib.hid (show w.heap.size ≤ kb by rw [hkb]; exact hb2.size)
  have HW3 := Lib.hid hW3'; have HKb := Lib.hid hkb; have HRb := Lib.hid hrb; have HX1 := Lib.hid hx1; have HT3 := Lib.hid hT3; have H3 := Lib.hid h3; have HBw3 := Lib.hid hbw3; have HXf := Lib.hid hxf; have HXn := Lib.hid hxn; have HXo3 := Lib.hid hxo3
  clear hxn hxf hxo hb2 hb3 hW3 hW3' hkb hrb hx1 hT3 h3 hbw3 hxo3
  have hlx : x.f.b.length + bs.length ≤ 8388608 := by rw [HX1.out]; exact hlim
  have hus : usedF d.fs ≤ 9223372036854775807 := by have := HU.out; omega
  obtain ⟨ud, hud⟩ : ∃ ud, ud = usedF d.fs := ⟨_, rfl⟩
  have hul : ud ≤ 1000000000000 := by rw [hud]; exact HU.out
  have hused := ref_used (H3.out.still (Touch.refl _ W3).drew) hus
  rw [← hud] at hused
  have hud2 : W3.drew.cell? ⟨q, 1, none⟩ = some (.int .i64 (d.room : Nat)) := (rrow H3.out.row).2.1
  have hrm : d.room ≤ 9223372036854775807 := H3.out.room
  have HUsed := Lib.hid hused; have HUd := Lib.hid hud; clear hused hud hus
  have hfx : ud + bs.length ≤ d.room := by rw [HUd.out]; exact hfull
  go_wp2_with fail
  rw [← HW3.out, ← HKb.out]
  refine Stage.wp_region (by kernel_rfl) (by kernel_rfl) (fun _ w' => w' = W3.drew) rfl ?_
  refine Stage.wpSt_reads 1 (fun w' => w' = W3.drew) (by kernel_rfl) (fun i _ _ S w' _ _ h => ⟨h, h⟩) ?_
  simp only [List.take_succ_cons, List.take_zero, List.drop_succ_cons, List.drop_zero]
  repeat (go_big_quiet_step (fail))
  refine wpQuiet_nil ?_
  refine Stage.wpSt_do (.int .i64 (ud : Nat)) rfl (fun S w' _ _ hw => ?_) ?_
  · have hw' : w' = W3.drew := hw
    subst hw'
    refine Free.at_call _ _ rfl Try.func51 (by kernel_rfl) rfl [.pointer (some ⟨q, 0, none⟩)] rfl ?_
    exact (HUsed.out).mono fun e w'' ⟨he, h⟩ => ⟨he, h.symm⟩
  go_simp
  refine Stage.wpSt_reads 9 (fun w' => w' = W3.drew) (by kernel_rfl) (fun i _ _ S w' _ _ h => ⟨h, h⟩) ?_
  simp only [List.take_succ_cons, List.take_zero, List.drop_succ_cons, List.drop_zero]
  repeat (go_big_quiet_step (fail))
  refine wpQuiet_nil (Stage.wpSt_nil ?_)
  intro S w4 _ hw4
  have hw4' : w4 = W3.drew := hw4
  subst hw4'
  clear hw4
  have hB3 : Bytes W3.drew (some B) bs := (HB.out.below HBw3.out).drew
  have hx3 : Bytes W3.drew x.ba x.f.b := HXo3.out.bytes.drew
  have hcv1 := conv_bytes (P := Try.prog) Try.underlying36 Try.underlying5 Try.underlying9 hx3 x.bc
  have hcv2 := conv_bytes (P := Try.prog) Try.underlying36 Try.underlying5 Try.underlying9 hB3 cb
  have hbl1 : ∀ z ∈ x.f.b ++ bs, z < 256 := fun z hz => by
    rcases List.mem_append.1 hz with hz | hz
    · exact hx3.1 z hz
    · exact hB3.1 z hz
  have hsz1 := strOf_size x.f.b
  have hsz2 := strOf_size bs
  have hsum : bl (strOf x.f.b ++ strOf bs) = x.f.b ++ bs := by rw [← strOf_append, bl_strOf _ hbl1]
  have hszs : (strOf x.f.b ++ strOf bs).size = (x.f.b ++ bs).length := by rw [← strOf_append, strOf_size]
  generalize strOf x.f.b = s1 at *
  generalize strOf bs = s2 at *
  have f1d : W3.drew.cell? ⟨kb, 1, none⟩ = some (.slice x.ba x.f.b.length x.bc) := f1
  have HHB := Lib.hid hB3; have HSum := Lib.hid hsum; have HSzs := Lib.hid hszs
  clear hB3 hx3 hbl1 hsum hszs
  go_wp2_with (refine wpList_tobytes rfl (.tmp 44) rfl Try.underlying9 Try.underlying36 Try.underlying5 (s1 ++ s2) rfl (by rw [HSzs.out, List.length_append]; unfold maxLen; omega) ?_)
  intro c5 w5 hB5 hb5 hc5 hcm5 hlt5
  have hrb5 : Row w5 kb TRF x.cells := HRb.out.drew.below hb5 HRb.out.lt
  have g0 := hrb5.cell 0; have g1 := hrb5.cell 1; have g2 := hrb5.cell 2; have g3 := hrb5.cell 3
  simp only [En.cells, List.getElem?_cons_zero, List.getElem?_cons_succ] at g0 g1 g2 g3
  have z1 := hrb5.free 1
  have hkl5 := hrb5.lt
  obtain ⟨nb, hnb⟩ : ∃ nb, nb = W3.heap.size := ⟨_, rfl⟩
  rw [← hnb] at hB5 hlt5 ⊢
  rw [HSum.out] at hB5
  have hq : q < w.heap.size := HH.out.row.lt
  have hwW : w.heap.size ≤ W3.heap.size := HT3.out.size
  have hW3n : W3.heap.size = nb := hnb.symm
  have hkw : w.heap.size ≤ kb := HKw.out
  have hkb3 : kb < nb := by rw [← hW3n]; exact HRb.out.lt
  have h5 := (H3.out.still (Touch.refl _ W3).drew).still (Touch.of_below hb5)
  have ht6 : Touch (· = kb) w5 (w5.setCell ⟨kb, 1, none⟩ (.slice (some ⟨nb, 0, none⟩) (x.f.b.length + bs.length) c5)) := (Touch.refl (· = kb) w5).setCell (p := ⟨kb, 1, none⟩) (.inl rfl) _
  have hs6 : (w5.setCell ⟨kb, 1, none⟩ (.slice (some ⟨nb, 0, none⟩) (x.f.b.length + bs.length) c5)).heap.size = w5.heap.size := by simp
  have hMk : ∀ k, M k → ¬ k = kb := fun k hk e => by have := HMb.out k hk; omega
  have hMq : ¬ Since M w w5 q := by
    rintro (hk | hk)
    · exact HH.out.free hk
    · omega
  have h6 := (h5.touch ht6 hMk (by omega)).mono (M' := Since M w w5) (fun k hk => .inl hk) hMq
  have hMb6 : ∀ k, Since M w w5 k → k < (w5.setCell ⟨kb, 1, none⟩ (.slice (some ⟨nb, 0, none⟩) (x.f.b.length + bs.length) c5)).heap.size := fun k hk => by rw [hs6]; exact Since.lt HMb.out (by omega) k hk
  have hxo6 : EnOk (w5.setCell ⟨kb, 1, none⟩ (.slice (some ⟨nb, 0, none⟩) (x.f.b.length + bs.length) c5)) (Since M w w5) ⟨x.name, some ⟨nb, 0, none⟩, c5, ⟨x.f.b ++ bs, x.f.sure, x.f.made⟩⟩ :=
    ⟨bytes_touch hB5 ht6 (fun _ e => by have : nb = kb := e; omega), by rintro ad ⟨⟩; exact .inr ⟨by show w.heap.size ≤ nb; omega, hlt5⟩, by show (x.f.b ++ bs).length ≤ c5; rw [List.length_append]; exact hc5, by unfold maxLen at hcm5; show c5 ≤ _; omega, by show x.name.size ≤ _; rw [HXn.out]; exact hs⟩
  have hwi := ref_with h6 hMb6 hxo6 hl
  rw [show (⟨x.name, some ⟨nb, 0, none⟩, c5, ⟨x.f.b ++ bs, x.f.sure, x.f.made⟩⟩ : En).val = .agg #[.string x.name, .slice (some ⟨nb, 0, none⟩) (x.f.b ++ bs).length c5, .int .i64 (x.f.sure : Nat), .bool x.f.made] from rfl, List.length_append] at hwi
  have hT6 : Touch (· = q) w (w5.setCell ⟨kb, 1, none⟩ (.slice (some ⟨nb, 0, none⟩) (x.f.b.length + bs.length) c5)) := by
    have hb6 : Below w.heap.size w (w5.setCell ⟨kb, 1, none⟩ (.slice (some ⟨nb, 0, none⟩) (x.f.b.length + bs.length) c5)) := (((HBw3.out.drew).trans (hb5.mono (by rw [← hnb]; omega))).trans (ht6.below (by rintro k rfl; exact hkw) (by omega)))
    exact Touch.of_below hb6
  have HWi := Lib.hid hwi; have HT6 := Lib.hid hT6; have HS6 := Lib.hid hs6; have HSz5 := Lib.hid (show w.heap.size ≤ w5.heap.size by omega)
  have HXp := Lib.hid (show putF x.name.data.toList ⟨x.f.b ++ bs, x.f.sure, x.f.made⟩ d.fs = appendF s.data.toList bs d.fs by rw [HXn.out, HXf.out]; rfl)
  clear hB5 hb5 hrb5 h5 ht6 hMk hMq h6 hMb6 hxo6 hwi hT6 hs6 hnb hlt5 hc5 hcm5
  go_wp2_with fail
  refine (HWi.out).mono ?_; rintro e w7 ⟨rfl, es7, A7, c7, h7, ht7⟩
  rw [HXp.out] at h7
  have hto : ∀ (d9 : DM) (w9 : World), RefAt w9 q d9 es7 A7 c7 (Since (Since M w w5) (w5.setCell ⟨kb, 1, none⟩ (.slice (some ⟨nb, 0, none⟩) (x.f.b.length + bs.length) c5)) w7) → Touch (· = q) w7 w9 → w9.heap.size = w7.heap.size → RefTo w w9 q d9 M := by
    intro d9 w9 h9 ht9 hs9
    refine ⟨es7, A7, c7, h9.mono (fun k hk => ?_) ?_, (HT6.out.trans ht7).trans ht9⟩
    · have h7s := ht7.size
      rw [HS6.out] at h7s
      rcases hk with (hk | hk) | hk
      · exact .inl hk
      · exact .inr ⟨hk.1, by omega⟩
      · rw [HS6.out] at hk; exact .inr ⟨by have := HSz5.out; omega, by omega⟩
    · rintro (hk | hk)
      · exact HH.out.free hk
      · have := HH.out.row.lt; omega
  have HTo := Lib.hid hto; have H7 := Lib.hid h7; clear hto ht7 h7
  by_cases hfu : d.fuse = 1
  · have hde := ref_deed_gone H7.out hfu hd
    rw [tick_fs] at hde
    have HDe := Lib.hid hde; clear hde
    go_wp2_with fail
    refine (HDe.out).mono ?_; rintro e w8 ⟨rfl, h8, ht8, hz8⟩
    have H8 := Lib.hid (HTo.out _ _ h8 ht8 hz8); clear h8 ht8 hz8
    go_wp2_with fail
    go_ret
    exact ⟨rfl, H8.out⟩
  · have hde := ref_deed_well H7.out hfu hd
    rw [tick_fs] at hde
    have HDe := Lib.hid hde; clear hde
    go_wp2_with fail
    refine (HDe.out).mono ?_; rintro e w8 ⟨rfl, h8, ht8, hz8⟩
    have H8 := Lib.hid (HTo.out _ _ h8 ht8 hz8); clear h8 ht8 hz8
    go_wp2_with fail
    go_ret
    exact ⟨rfl, H8.out⟩
/-- Append, whatever it is told -/
theorem ref_append (h : RefAt w q d es A c M) (hMb : ∀ k, M k → k < w.heap.size) (s : ByteArray) (B : Addr) (bs : List Nat) (cb : Nat) (hB : Bytes w (some B) bs) (hs : s.size ≤ 9223372036854775807) (hb : bs.length ≤ 1000000000) (hd : d.deeds ≤ 1000000000) (hl : es.length ≤ 1000000) (hbl : ∀ n x, getF n d.fs = some x → x.b.length ≤ 8388608) (hu : usedF d.fs ≤ 1000000000000) :
    Calls Try.prog 23 #[.pointer (some ⟨q, 0, none⟩), .string s, .slice (some B) bs.length cb] w fun e w' => e = .returned (.int .i64 (appE d s bs.length)) ∧ RefTo w w' q (appD d s bs) M := by
  unfold appE appD
  by_cases hE : lookE d.off [s] = 0
  · by_cases hlim : 8388608 < lenF s.data.toList d.fs + bs.length
    · simp only [hE, ne_eq, not_true_eq_false, if_false, if_pos hlim]
      exact ref_append_limit h hMb s B bs cb hB hs hb hd hl hbl hu hE hlim
    · by_cases hfull : d.room < usedF d.fs + bs.length
      · simp only [hE, ne_eq, not_true_eq_false, if_false, if_neg hlim, if_pos hfull]
        exact ref_append_full h hMb s B bs cb hB hs hb hd hl hbl hu hE (by omega) hfull
      · simp only [hE, ne_eq, not_true_eq_false, if_false, if_neg hlim, if_neg hfull]
        exact ref_append_ok h hMb s B bs cb hB hs hb hd hl hbl hu hE (by omega) (by omega)
  · simp only [ne_eq, hE, not_false_eq_true, if_true]
    exact ref_append_bad h hMb s B bs cb hB hs hb hd hl hbl hu hE
end
end Go.Proofs.Ytiagoaaldpajmaa
namespace Go.Proofs.Ytiagoaaldpajmaa
open Go.ChangeShapes Go.WideShapes Go.ChangeAt Go.RowKit Go.BigFrame
set_option linter.unusedVariables false
theorem ref_stays (w : World) (A : Option Addr) (ks : List Int) (c i u : Nat) (hK : IntsAt w A ks) (hc : ks.length ≤ c) (hcm : c ≤ 9223372036854775807) (hi : i ≤ 9223372036854775807) (hu : u ≤ 8388608) :
    Calls Try.prog 22 #[.slice A ks.length c, .int .i64 (i : Nat), .int .i64 (u : Nat)] w fun e w' => e = .returned (.int .i64 (wishOf ks i % ((u : Int) + 1))) ∧ w = w' := by
  by_cases hlt : i < ks.length
  · obtain ⟨b, off, hA, hbl, hcell⟩ := hK.2 (by omega)
    subst hA
    have hki : ks[i]? = some ks[i] := List.getElem?_eq_getElem hlt
    have hkr := hK.1 ks[i] (List.getElem_mem hlt)
    have hcl := hcell i ks[i] hki
    have hw : wishOf ks i = ks[i] := by simp [wishOf, List.getD_eq_getElem?_getD, hki]
    rw [hw]
    generalize ks[i] = keep at hkr hcl
    clear hcell hki hw hK
    obtain ⟨hk1, hk2⟩ := hkr
    have t1 : keep.tmod ((u : Int) + 1) < (u : Int) + 1 := Int.tmod_lt_of_pos _ (by omega)
    have t2 : -((u : Int) + 1) < keep.tmod ((u : Int) + 1) := by have := Int.lt_tmod_of_pos keep (show 0 < (u : Int) + 1 by omega); omega
    have e1 : keep % ((u : Int) + 1) = if keep.tmod ((u : Int) + 1) < 0 then keep.tmod ((u : Int) + 1) + (u : Int) + 1 else keep.tmod ((u : Int) + 1) := by
      have h0 : keep % ((u : Int) + 1) = (keep.tmod ((u : Int) + 1)) % ((u : Int) + 1) := by rw [Int.tmod_def, Int.sub_mul_emod_self_left]
      rw [h0]
      generalize keep.tmod ((u : Int) + 1) = t at t1 t2
      by_cases hn : t < 0
      · rw [if_pos hn, ← Int.add_emod_right, Int.emod_eq_of_lt (by omega) (by omega)]; omega
      · rw [if_neg hn, Int.emod_eq_of_lt (by omega) (by omega)]
    have E1 := Lib.hid e1; clear e1
    by_cases hn : keep.tmod ((u : Int) + 1) < 0
    · have e2 : keep % ((u : Int) + 1) = keep.tmod ((u : Int) + 1) + (u : Int) + 1 := by rw [E1.out, if_pos hn]
      rw [e2]
      clear e2 E1
      go_enter Try.func22, Try.ntmps22
      go_wp2
      go_ret
      exact ⟨rfl, rfl⟩
    · have e2 : keep % ((u : Int) + 1) = keep.tmod ((u : Int) + 1) := by rw [E1.out, if_neg hn]
      rw [e2]
      clear e2 E1
      go_enter Try.func22, Try.ntmps22
      go_wp2
      go_ret
      exact ⟨rfl, rfl⟩
  · have hw : wishOf ks i = 0 := by simp [wishOf, List.getD_eq_getElem?_getD, List.getElem?_eq_none (Nat.not_lt.1 hlt)]
    rw [hw, Int.zero_emod]
    go_enter Try.func22, Try.ntmps22
    go_wp2
    go_ret
    exact ⟨rfl, rfl⟩
end Go.Proofs.Ytiagoaaldpajmaa
