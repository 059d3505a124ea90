/- Several texts in one: RefSure, Remove. -/
import Derived.Test.YtiagoaaldpajmaaQt
import Derived.Test.YtiagoaaldpajmaaQm
namespace Go.Proofs.Ytiagoaaldpajmaa
open Go.ChangeShapes Go.WideShapes Go.ChangeAt Go.RowKit Go.BigFrame Go.Maps Go.Sort
set_option linter.unusedVariables false
section
variable {w w' w1 w2 : World} {q : Nat} {d : DM} {es ys ts es1 : List En} {A A1 : Option Addr} {c c1 k : Nat} {M M' N : Nat → Prop} {e x : En} {G : Nat → Prop}
theorem RefAt.mono (h : RefAt w q d es A c M) (hM : ∀ k, M k → M' k) (hq : ¬ M' q) : RefAt w q d es A c M' := ⟨h.row, h.list.mono hM, fun e he => (h.ens e he).mono hM, h.fs, hq, h.room, h.fuse, h.sort⟩
/-- the files but one are stored -/
theorem ref_less (h : RefAt w q d es A c M) (n : Nm) (hens : EnsAt w N A1 es1 c1) (hN : ∀ k, N k → M' k) (hM : ∀ k, M k → M' k) (hq : ¬ M' q) (hmem : ∀ e ∈ es1, e ∈ es) (hkey : es1.map En.key = delF n d.fs) :
    RefAt (w.setCell ⟨q, 0, none⟩ (.slice A1 es1.length c1)) q { d with fs := delF n d.fs } es1 A1 c1 M' ∧ Touch (· = q) w (w.setCell ⟨q, 0, none⟩ (.slice A1 es1.length c1)) := by
  have ht : Touch (· = q) w (w.setCell ⟨q, 0, none⟩ (.slice A1 es1.length c1)) := (Touch.refl (· = q) w).setCell (p := ⟨q, 0, none⟩) (.inl rfl) _
  have hM3 : ∀ k, M' k → ¬ k = q := fun k hk e => hq (e ▸ hk)
  exact ⟨h.files (h.row.put 0 (.slice A1 es1.length c1)) ((hens.mono hN).touch ht hM3) (fun e he => ((h.ens e (hmem e he)).mono hM).touch ht hM3) hkey.symm ⟨rfl, rfl, rfl, rfl⟩ hq (SortF.del h.sort), ht⟩
theorem out_mem {k : Nat} {b : Bool} : ∀ e ∈ outE k b es, e ∈ es := fun e he => by
  unfold outE at he
  rcases List.mem_append.1 he with he | he
  · exact List.mem_of_mem_take he
  · exact List.mem_of_mem_drop he
theorem Since.old (h : M k) : Since M w w' k := .inl h
theorem Since.step (h1 : w.heap.size ≤ w1.heap.size) (h2 : w1.heap.size ≤ w2.heap.size) : ∀ k, Since (Since M w w1) w1 w2 k → Since M w w2 k := by
  rintro k ((h | h) | h)
  · exact .inl h
  · exact .inr ⟨h.1, by omega⟩
  · exact .inr ⟨by omega, h.2⟩
theorem Since.lt (hMb : ∀ k, M k → k < w.heap.size) (h : w.heap.size ≤ w'.heap.size) : ∀ k, Since M w w' k → k < w'.heap.size := by
  rintro k (hk | hk)
  · have := hMb k hk; omega
  · exact hk.2
theorem slice_bytes {B : Option Addr} {n l c : Nat} (hn : n ≤ l) (hl : l ≤ c) (w2 : World) : (Instr.sliceAt 36 (.slice B l c) none (some (.int .i64 (n : Nat))) none).run Try.prog w2 = .ok (.slice B n c) w2 := by
  rw [run_sliceAt_slice (P := Try.prog) (h := by kernel_rfl), run_slice_h (P := Try.prog) (ht := by kernel_rfl) _ _ _ _ _ _ _ (by omega) (by omega)]
  have hs : (sizeOf (Try.prog.elem 36)).run Try.prog w2 = .ok 1 w2 := by go_simp
  rw [hs]
  simp [sliced, Result.andThen]
  intro _
  cases B <;> rfl
set_option maxRecDepth 100000 in
set_option maxHeartbeats 8000000 in
theorem ref_sure_well (h : RefAt w q d es A c M) (hMb : ∀ k, M k → k < w.heap.size) (s t : ByteArray) (n : Nat) (hs : s.size ≤ 9223372036854775807) (ht : t.size ≤ 9223372036854775807) (hfu : d.fuse ≠ 1) (hd : d.deeds ≤ 1000000000) (hl : es.length ≤ 1000000)
    (hn : n ≤ ((getF s.data.toList d.fs).getD newF).b.length) :
    Calls Try.prog 58 #[.pointer (some ⟨q, 0, none⟩), .string s, .string t, .int .i64 (n : Nat)] w fun e w' => e = .returned (.int .i64 0) ∧
      ∃ es' A' c', RefAt w' q { d.tick with fs := putF t.data.toList (cutF ((getF s.data.toList d.fs).getD newF) n) (delF s.data.toList d.fs) } es' A' c' (Since M w w') ∧ Touch (· = q) w w' := by
  have hde := ref_deed_well h hfu hd
  have htf : d.tick.fs = d.fs := by unfold DM.tick; rw [if_neg hfu]
  have HDe := Lib.hid hde; have HMb := Lib.hid hMb; have HN := Lib.hid hn; have HTf := Lib.hid htf; have HQ := Lib.hid h.free; have HQl := Lib.hid h.row.lt
  clear hde hMb hn htf h
  go_enter Try.func58, Try.ntmps58
  go_wp2_with fail
  refine (HDe.out).mono ?_; rintro e w1 ⟨rfl, h1, ht1, hz1⟩
  have hMb1 : ∀ k, M k → k < w1.heap.size := fun k hk => by rw [hz1]; exact HMb.out k hk
  have hfi := ref_file h1 hMb1 s hs
  rw [HTf.out] at hfi
  have H1 := Lib.hid h1; have HT1 := Lib.hid ht1; have HZ1 := Lib.hid hz1; have HFi := Lib.hid hfi; have HMb1 := Lib.hid hMb1
  clear h1 ht1 hz1 hfi hMb1
  go_wp2_with fail
  refine (HFi.out).mono ?_; rintro e w2 ⟨x, rfl, hxn, hxf, hxo, hb2⟩
  rw [show x.val = .agg #[.string x.name, .slice x.ba x.f.b.length x.bc, .int .i64 (x.f.sure : Nat), .bool x.f.made] from rfl]
  obtain ⟨W3, hW3⟩ : ∃ W3, W3 = w2.alloc (.cells x.cells.toArray TRF) := ⟨_, rfl⟩
  have hb3 : Below w2.heap.size w2 W3 := by rw [hW3]; exact (Below.refl _ _).alloc (Nat.le_refl _) _
  have h3 := (H1.out.still (Touch.of_below hb2)).still (Touch.of_below hb3)
  have hwo := ref_without h3 s (by omega)
  rw [HTf.out] at hwo
  have HW3 := Lib.hid (show W3 = w2.alloc (.cells #[.string x.name, .slice x.ba x.f.b.length x.bc, .int .i64 (x.f.sure : Nat), .bool x.f.made] TRF) from hW3)
  have HWo := Lib.hid hwo; have H3 := Lib.hid h3; have HB2 := Lib.hid hb2; have HB3 := Lib.hid hb3; have HXn := Lib.hid hxn; have HXf := Lib.hid hxf; have HXo := Lib.hid hxo
  clear hwo h3 hb2 hb3 hxn hxf hxo hW3
  obtain ⟨kb, hkb⟩ : ∃ kb, kb = w2.heap.size := ⟨_, rfl⟩
  have hrb : Row W3 kb TRF x.cells := by rw [HW3.out, hkb]; exact Row.made w2 TRF x.cells
  have HKb := Lib.hid hkb; have HRb := Lib.hid hrb; clear hkb hrb
  go_wp2_with fail
  rw [← HW3.out, ← HKb.out]
  refine (HWo.out).mono ?_; rintro e w4 ⟨A1, c1, rfl, hens1, hb4⟩
  have hkey := out_key H3.out s.data.toList
  rw [HTf.out] at hkey
  have hsz1 : w.heap.size ≤ w1.heap.size := by rw [HZ1.out]; exact Nat.le_refl _
  have hsz2 : w1.heap.size ≤ w2.heap.size := HB2.out.size
  have hsz3 : w2.heap.size ≤ W3.heap.size := HB3.out.size
  have hsz4 : W3.heap.size ≤ w4.heap.size := hb4.size
  have hq : q < w.heap.size := HQl.out
  have hMq : ¬ Since M w w4 q := by
    rintro (hk | hk)
    · exact HQ.out hk
    · omega
  have h4 := H3.out.still (Touch.of_below hb4)
  have hle : (outE (posF s.data.toList d.fs) (isF s.data.toList d.fs) es).length ≤ es.length := by
    have hp : posF s.data.toList d.fs ≤ es.length := by
      have hl : d.fs.length = es.length := by rw [← HTf.out, H3.out.fs, List.length_map]
      rw [← hl]; exact posF_le
    unfold outE; split <;> simp <;> omega
  obtain ⟨h5, ht5⟩ := ref_less (M' := Since M w w4) h4 s.data.toList hens1 (fun k hk => .inr ⟨by have := hk.1; omega, hk.2⟩) (fun k hk => .inl hk) hMq out_mem (by rw [HTf.out]; exact hkey)
  rw [HTf.out] at h5
  generalize outE (posF s.data.toList d.fs) (isF s.data.toList d.fs) es = es1 at h5 ht5 hle ⊢
  obtain ⟨g0, -, -, -, -⟩ := rrow h4.row
  have hz4 := h4.row.free
  have hq4 := h4.row.lt
  have hkq : kb ≠ q := by have := HKb.out; omega
  have hrb4 : Row w4 kb TRF x.cells := HRb.out.below hb4 HRb.out.lt
  have hrb5 : Row (w4.setCell ⟨q, 0, none⟩ (.slice A1 es1.length c1)) kb TRF x.cells := hrb4.touch ht5 hkq
  have hs5 : (w4.setCell ⟨q, 0, none⟩ (.slice A1 es1.length c1)).heap.size = w4.heap.size := by simp
  have f1 : w4.cell? ⟨kb, 1, none⟩ = some (.slice x.ba x.f.b.length x.bc) := hrb4.cell 1
  have f2 : (w4.setCell ⟨q, 0, none⟩ (.slice A1 es1.length c1)).cell? ⟨kb, 1, none⟩ = some (.slice x.ba x.f.b.length x.bc) := hrb5.cell 1
  have hnx : n ≤ x.f.b.length := by rw [HXf.out]; exact HN.out
  have hxc := HXo.out.cap
  have hsl := fun w2 : World => slice_bytes (B := x.ba) hnx hxc w2
  have hlen : (x.f.b.take n).length = n := by rw [List.length_take]; omega
  have hMb5 : ∀ k, Since M w w4 k → k < (w4.setCell ⟨q, 0, none⟩ (.slice A1 es1.length c1)).heap.size := fun k hk => by rw [hs5]; exact Since.lt HMb.out (by omega) k hk
  have hxo5 : EnOk (w4.setCell ⟨q, 0, none⟩ (.slice A1 es1.length c1)) (Since M w w4) ⟨t, x.ba, x.bc, ⟨x.f.b.take n, n, true⟩⟩ := by
    have h1 := ((HXo.out.touch (Touch.of_below (F := fun _ => False) HB3.out) (fun _ _ h => h)).touch (Touch.of_below (F := fun _ => False) hb4) (fun _ _ h => h)).mono (M' := Since M w w4) (fun k hk => .inl hk)
    have h2 := h1.touch ht5 (fun k hk e => hMq (e ▸ hk))
    exact ⟨h2.bytes.take n, h2.mem, by rw [hlen]; exact Nat.le_trans hnx hxc, h2.max, ht⟩
  have hwi := ref_with h5 hMb5 hxo5 (by omega)
  rw [show (⟨t, x.ba, x.bc, ⟨x.f.b.take n, n, true⟩⟩ : En).val = .agg #[.string t, .slice x.ba (x.f.b.take n).length x.bc, .int .i64 (n : Nat), .bool true] from rfl, hlen] at hwi
  have HWi := Lib.hid hwi
  have hT5 : Touch (· = q) w (w4.setCell ⟨q, 0, none⟩ (.slice A1 es1.length c1)) := (((HT1.out.trans (Touch.of_below (F := (· = q)) HB2.out)).trans (Touch.of_below (F := (· = q)) HB3.out)).trans (Touch.of_below (F := (· = q)) hb4)).trans ht5
  have HT5 := Lib.hid hT5; have HS5 := Lib.hid hs5; have HXf2 := Lib.hid (show (⟨x.f.b.take n, n, true⟩ : Fil) = cutF ((getF s.data.toList d.fs).getD newF) n by rw [← HXf.out]; rfl)
  clear hens1 hb4 hkey hMq h4 h5 ht5 hrb4 hrb5 hs5 hMb5 hxo5 hwi hT5 hlen
  have HSz := Lib.hid (show w.heap.size ≤ w4.heap.size by omega)
  go_wp2_with fail
  refine (HWi.out).mono ?_; rintro e w6 ⟨rfl, es6, A6, c6, h6, ht6⟩
  have H6 := Lib.hid h6; have HT6 := Lib.hid ht6; clear h6 ht6
  go_wp2_with fail
  go_ret
  refine ⟨rfl, es6, A6, c6, ?_, HT5.out.trans HT6.out⟩
  have h7 := H6.out
  rw [show putF t.data.toList (cutF ((getF s.data.toList d.fs).getD newF) n) (delF s.data.toList d.fs) = putF t.data.toList ⟨x.f.b.take n, n, true⟩ (delF s.data.toList d.fs) by rw [HXf2.out]]
  refine h7.mono (M' := Since M w w6) (fun k hk => ?_) ?_
  · rcases hk with hk | hk
    · rcases hk with hk | hk
      · exact .inl hk
      · exact .inr ⟨hk.1, by have := HT6.out.size; have := HS5.out; omega⟩
    · exact .inr ⟨by have := HS5.out; have := HSz.out; omega, hk.2⟩
  · rintro (hk | hk)
    · exact HQ.out hk
    · have := HQl.out; omega
end
end Go.Proofs.Ytiagoaaldpajmaa
namespace Go.Proofs.Ytiagoaaldpajmaa
open Go.ChangeShapes Go.WideShapes Go.ChangeAt Go.RowKit Go.BigFrame Go.Maps Go.Sort
set_option linter.unusedVariables false
section
variable {w w' : World} {F : Nat → Prop} {fs : Fs} {g : Nm → Nat} {v : Nm → Value} {n : Nm} {x y : Fil} {p r u dd f : Nat} {m : Option Nat} {o : Bool} {d : DM}
/-- what a deed that drops leaves -/
def Gone (F : Nat → Prop) (p r u dd f : Nat) (o : Bool) (m : Option Nat) (fs : Fs) (g : Nm → Nat) (v : Nm → Value) (w w' : World) : Prop := Row w' p TD (dcells r u m dd o f) ∧ Held w' F p m fs g v ∧ Touch F w w'
set_option maxRecDepth 100000 in
set_option maxHeartbeats 2000000 in
theorem remove1_any (h : Row w p TD (dcells r u m dd o f)) (hH : Held w F p m fs g v) (kd ks : Nat) (s : ByteArray) (bd : Row w kd TP [.pointer (some ⟨p, 0, none⟩)]) (bs : Row w ks TS [.string s]) (hs : s.size ≤ 9223372036854775807) (hu : lenF s.data.toList fs ≤ u) (hr : u ≤ 9223372036854775807) :
    Calls Try.prog 42 #[.pointer (some ⟨kd, 0, none⟩), .pointer (some ⟨ks, 0, none⟩)] w fun e w' => e = .returned (.tuple #[]) ∧
      Gone F p r (u - lenF s.data.toList fs) dd f o m (delF s.data.toList fs) g v w w' := by
  have c1 : w.cell? ⟨kd, 0, none⟩ = some (.pointer (some ⟨p, 0, none⟩)) := bd.cell 0
  have c2 : w.cell? ⟨ks, 0, none⟩ = some (.string s) := bs.cell 0
  have hdr := drop_held h hH s hs hu hr
  have HDr := Lib.hid hdr
  clear hdr hH h bd bs
  go_enter Try.func42, Try.ntmps42
  go_wp2_with fail
  refine (HDr.out).mono ?_; rintro e w2 ⟨rfl, h1, h2, h3, -⟩
  have H2 := Lib.hid (show Gone F p r (u - lenF s.data.toList fs) dd f o m (delF s.data.toList fs) g v w w2 from ⟨h1, h2, h3⟩); clear h1 h2 h3
  go_wp2_with fail
  go_end0
  exact ⟨rfl, H2.out⟩
theorem Gone.disk {W1 : World} (h : Gone F p r (usedF fs) dd f o m fs g v w w') (hu : usedF fs ≤ r) (hr : r ≤ 9223372036854775807) (hl : fs.length ≤ dd) (hf : f ≤ 9223372036854775808) (hw : W1.heap.size ≤ w.heap.size) (ht : Touch F W1 w) :
    IsDisk w' p ⟨r, fs, dd, o, f⟩ (Ext F W1 w') ∧ Touch F W1 w' := by
  obtain ⟨hrow, hH, h2⟩ := h
  exact ⟨IsDisk.mono ⟨m, g, v, ⟨hrow, hH.map, hH.files, hH.memp, hH.memm, hH.ok, hu, hr, hl, hf⟩⟩ (fun k hk => .inl hk), ht.trans h2⟩

set_option maxRecDepth 100000 in
set_option maxHeartbeats 2000000 in
theorem remove_bad (h : DiskAt w p d F m g v) (s : ByteArray) (hs : s.size ≤ 9223372036854775807) (hE : findE d s [] ≠ 0) :
    Calls Try.prog 17 #[.pointer (some ⟨p, 0, none⟩), .string s] w fun e w' => e = .returned (.int .i64 (findE d s [])) ∧ DiskAt w' p d F m g v ∧ Touch (fun _ => False) w w' := by
  have hl2 : (findE d s [] != 0) = true := by simpa using hE
  have HH := Lib.hid h; clear h hE
  have hbx := boxes3 w TP TS TS [.pointer (some ⟨p, 0, none⟩)] [.string s] [.string s]
  go_enter Try.func17, Try.ntmps17
  go_wp2_with fail
  obtain ⟨kd, hkd⟩ : ∃ kd, kd = w.heap.size := ⟨_, rfl⟩
  obtain ⟨ks, hks⟩ : ∃ ks, ks = w.heap.size + 1 := ⟨_, rfl⟩
  obtain ⟨kn, hkn⟩ : ∃ kn, kn = w.heap.size + 1 + 1 := ⟨_, rfl⟩
  rw [← hkn, ← hks, ← hkd]
  rw [← hkn, ← hks, ← hkd] at hbx
  generalize ((w.alloc (.cells #[.pointer (some ⟨p, 0, none⟩)] TP)).alloc (.cells #[.string s] TS)).alloc (.cells #[.string s] TS) = W at hbx ⊢
  obtain ⟨hd1, hs1, hn1, ht1, hz1⟩ := hbx
  have hD1 := HH.out.still ht1
  have hfi := find_any hD1 kn s [] hn1 1 (by simp) (by simp) (by simpa using hs)
  have HFi := Lib.hid hfi; have HD1 := Lib.hid hD1; have Hd1 := Lib.hid hd1; have Hs1 := Lib.hid hs1; have HT1 := Lib.hid ht1; have HZ1 := Lib.hid hz1
  have Hkd := Lib.hid hkd; have Hkn := Lib.hid hkn; have Hks := Lib.hid hks
  clear hfi hD1 hd1 hs1 hn1 ht1 hz1 hkd hkn hks
  refine (HFi.out).mono ?_
  rintro e w1 ⟨a, rfl, ha, k, rfl⟩
  have hT2 : Touch (fun _ => False) w (W.drewN k) := HT1.out.drewN k
  have hD2 : DiskAt (W.drewN k) p d F m g v := HD1.out.still ((Touch.refl _ _).drewN k)
  have hd2 : Row (W.drewN k) kd TP [.pointer (some ⟨p, 0, none⟩)] := Hd1.out
  have hs2 : Row (W.drewN k) ks TS [.string s] := Hs1.out
  generalize W.drewN k = W1 at hT2 hD2 hd2 hs2 ⊢
  have HT2 := Lib.hid hT2; have HD2 := Lib.hid hD2; have Hd2 := Lib.hid hd2; have Hs2 := Lib.hid hs2; clear hT2 hD2 hd2 hs2
  have HA := Lib.hid ha; clear ha
  go_wp2_with fail
  go_ret
  exact ⟨rfl, HD2.out, HT2.out⟩
set_option maxRecDepth 100000 in
set_option maxHeartbeats 2000000 in
theorem remove_gone (h : DiskAt w p d F m g v) (s : ByteArray) (hs : s.size ≤ 9223372036854775807) (hE : findE d s [] = 0) (hfu : d.fuse = 1) (hd : d.deeds ≤ 1000000000) :
    Calls Try.prog 17 #[.pointer (some ⟨p, 0, none⟩), .string s] w fun e w' => e = .returned (.int .i64 30) ∧ IsDisk w' p ⟨d.room, d.fs, d.deeds + 1, true, 0⟩ (Ext F w w') ∧ Touch F w w' := by
  have HH := Lib.hid h; have HE := Lib.hid hE; have HFU := Lib.hid hfu; clear h hE hfu
  have hbx := boxes3 w TP TS TS [.pointer (some ⟨p, 0, none⟩)] [.string s] [.string s]
  go_enter Try.func17, Try.ntmps17
  go_wp2_with fail
  obtain ⟨kd, hkd⟩ : ∃ kd, kd = w.heap.size := ⟨_, rfl⟩
  obtain ⟨ks, hks⟩ : ∃ ks, ks = w.heap.size + 1 := ⟨_, rfl⟩
  obtain ⟨kn, hkn⟩ : ∃ kn, kn = w.heap.size + 1 + 1 := ⟨_, rfl⟩
  rw [← hkn, ← hks, ← hkd]
  rw [← hkn, ← hks, ← hkd] at hbx
  generalize ((w.alloc (.cells #[.pointer (some ⟨p, 0, none⟩)] TP)).alloc (.cells #[.string s] TS)).alloc (.cells #[.string s] TS) = W at hbx ⊢
  obtain ⟨hd1, hs1, hn1, ht1, hz1⟩ := hbx
  have hD1 := HH.out.still ht1
  have hfi := find_any hD1 kn s [] hn1 1 (by simp) (by simp) (by simpa using hs)
  have HFi := Lib.hid hfi; have HD1 := Lib.hid hD1; have Hd1 := Lib.hid hd1; have Hs1 := Lib.hid hs1; have HT1 := Lib.hid ht1; have HZ1 := Lib.hid hz1
  have Hkd := Lib.hid hkd; have Hkn := Lib.hid hkn; have Hks := Lib.hid hks
  clear hfi hD1 hd1 hs1 hn1 ht1 hz1 hkd hkn hks
  have e0 := HFi.out
  rw [HE.out] at e0
  have HFi0 := Lib.hid e0; clear e0
  refine (HFi0.out).mono ?_
  rintro e w1 ⟨a, rfl, ha, k, rfl⟩
  have hT2 : Touch (fun _ => False) w (W.drewN k) := HT1.out.drewN k
  have hD2 : DiskAt (W.drewN k) p d F m g v := HD1.out.still ((Touch.refl _ _).drewN k)
  have hd2 : Row (W.drewN k) kd TP [.pointer (some ⟨p, 0, none⟩)] := Hd1.out
  have hs2 : Row (W.drewN k) ks TS [.string s] := Hs1.out
  generalize W.drewN k = W1 at hT2 hD2 hd2 hs2 ⊢
  have HT2 := Lib.hid hT2; have HD2 := Lib.hid hD2; have Hd2 := Lib.hid hd2; have Hs2 := Lib.hid hs2; clear hT2 hD2 hd2 hs2
  have HX := Lib.hid ha; clear ha
  have q1 : W1.cell? ⟨kd, 0, none⟩ = some (.pointer (some ⟨p, 0, none⟩)) := Hd2.out.cell 0
  have q2 : kd < W1.heap.size := Hd2.out.lt
  go_wp2_with fail
  have hg := deed_gone_remove (w := W1) #[.pointer (some ⟨kd, 0, none⟩), .pointer (some ⟨ks, 0, none⟩)] (by have := HD2.out.row; rw [HFU.out] at this; exact this) hd
  have HG := Lib.hid hg; clear hg
  refine (HG.out).mono ?_; rintro e w3 ⟨rfl, hr3, ht3, hz3⟩
  have H3 := Lib.hid (gone_disk HD2.out hr3 ht3 HT2.out.false); clear hr3 ht3 hz3
  go_wp2_with fail
  go_ret
  exact ⟨rfl, H3.out⟩
set_option maxRecDepth 100000 in
set_option maxHeartbeats 2000000 in
theorem remove_well (h : DiskAt w p d F m g v) (s : ByteArray) (hs : s.size ≤ 9223372036854775807) (hFb : ∀ k, F k → k < w.heap.size) (hE : findE d s [] = 0) (hfu : d.fuse ≠ 1) (hd : d.deeds ≤ 1000000000) :
    Calls Try.prog 17 #[.pointer (some ⟨p, 0, none⟩), .string s] w fun e w' => e = .returned (.int .i64 0) ∧ IsDisk w' p ⟨d.room, delF s.data.toList d.fs, d.deeds + 1, d.off, d.fuse - 1⟩ (Ext F w w') ∧ Touch F w w' := by
  have HH := Lib.hid h; have HE := Lib.hid hE; have HFU := Lib.hid hfu; have HFb := Lib.hid hFb; clear h hE hfu hFb
  have hbx := boxes3 w TP TS TS [.pointer (some ⟨p, 0, none⟩)] [.string s] [.string s]
  go_enter Try.func17, Try.ntmps17
  go_wp2_with fail
  obtain ⟨kd, hkd⟩ : ∃ kd, kd = w.heap.size := ⟨_, rfl⟩
  obtain ⟨ks, hks⟩ : ∃ ks, ks = w.heap.size + 1 := ⟨_, rfl⟩
  obtain ⟨kn, hkn⟩ : ∃ kn, kn = w.heap.size + 1 + 1 := ⟨_, rfl⟩
  rw [← hkn, ← hks, ← hkd]
  rw [← hkn, ← hks, ← hkd] at hbx
  generalize ((w.alloc (.cells #[.pointer (some ⟨p, 0, none⟩)] TP)).alloc (.cells #[.string s] TS)).alloc (.cells #[.string s] TS) = W at hbx ⊢
  obtain ⟨hd1, hs1, hn1, ht1, hz1⟩ := hbx
  have hD1 := HH.out.still ht1
  have hfi := find_any hD1 kn s [] hn1 1 (by simp) (by simp) (by simpa using hs)
  have HFi := Lib.hid hfi; have HD1 := Lib.hid hD1; have Hd1 := Lib.hid hd1; have Hs1 := Lib.hid hs1; have HT1 := Lib.hid ht1; have HZ1 := Lib.hid hz1
  have Hkd := Lib.hid hkd; have Hkn := Lib.hid hkn; have Hks := Lib.hid hks
  clear hfi hD1 hd1 hs1 hn1 ht1 hz1 hkd hkn hks
  have e0 := HFi.out
  rw [HE.out] at e0
  have HFi0 := Lib.hid e0; clear e0
  refine (HFi0.out).mono ?_
  rintro e w1 ⟨a, rfl, ha, k, rfl⟩
  have hT2 : Touch (fun _ => False) w (W.drewN k) := HT1.out.drewN k
  have hD2 : DiskAt (W.drewN k) p d F m g v := HD1.out.still ((Touch.refl _ _).drewN k)
  have hd2 : Row (W.drewN k) kd TP [.pointer (some ⟨p, 0, none⟩)] := Hd1.out
  have hs2 : Row (W.drewN k) ks TS [.string s] := Hs1.out
  generalize W.drewN k = W1 at hT2 hD2 hd2 hs2 ⊢
  have HT2 := Lib.hid hT2; have HD2 := Lib.hid hD2; have Hd2 := Lib.hid hd2; have Hs2 := Lib.hid hs2; clear hT2 hD2 hd2 hs2
  have HX := Lib.hid ha; clear ha
  have q1 : W1.cell? ⟨kd, 0, none⟩ = some (.pointer (some ⟨p, 0, none⟩)) := Hd2.out.cell 0
  have q2 : kd < W1.heap.size := Hd2.out.lt
  go_wp2_with fail
  have hxl : lenF s.data.toList d.fs ≤ usedF d.fs := lenF_le HH.out.ok.sort
  have hfu1 : usedF d.fs ≤ 9223372036854775807 := Nat.le_trans HH.out.used HH.out.room
  have hg := deed_well_remove (w := W1) (Q := fun w' => ∃ w3, Counted W1 w3 p d.room (usedF d.fs) m d.deeds d.off d.fuse ∧ Gone F p d.room (usedF d.fs - lenF s.data.toList d.fs) (d.deeds + 1) (d.fuse - 1) d.off m (delF s.data.toList d.fs) g v w3 w') #[.pointer (some ⟨kd, 0, none⟩), .pointer (some ⟨ks, 0, none⟩)] HD2.out.row hd HFU.out HD2.out.fuse (by
    intro w3 hC
    have hne : ∀ k t l, Row W1 k t l → t ≠ TD → k ≠ p := fun k t l hk ht => hk.apart HD2.out.row ht
    have hheld : Held w3 F p m d.fs g v := HD2.out.held.own HD2.out.row hC.touch
    refine (remove1_any hC.row hheld kd ks s (Hd2.out.touch hC.touch (hne _ _ _ Hd2.out (by decide))) (Hs2.out.touch hC.touch (hne _ _ _ Hs2.out (by decide))) hs hxl hfu1).mono ?_
    rintro e w4 ⟨rfl, hap⟩
    exact ⟨rfl, w3, hC, hap⟩)
  have HG := Lib.hid hg; clear hg
  refine (HG.out).mono ?_; rintro e w4 ⟨rfl, w3, hC, hap⟩
  have HA4 := Lib.hid hap; have HC := Lib.hid hC; clear hap hC
  go_wp2_with fail
  go_ret
  have eu : usedF (delF s.data.toList d.fs) = usedF d.fs - lenF s.data.toList d.fs := by have := usedF_del (n := s.data.toList) HH.out.ok.sort; omega
  have hap := HA4.out
  rw [← eu] at hap
  have h23 : Touch F W1 w3 := HC.out.touch.mono (by rintro i rfl; exact HD2.out.memp)
  refine ⟨rfl, hap.disk (by rw [eu]; have := HH.out.used; omega) HH.out.room ?_ (by have := HH.out.fuse; omega) (Nat.le_trans HT2.out.size h23.size) (HT2.out.frow h23)⟩
  have := HH.out.few
  have h2 : (delF s.data.toList d.fs).length ≤ d.fs.length := List.length_filter_le _ _
  omega
def removeE (d : DM) (s : ByteArray) : Int := if findE d s [] = 0 then deedE d else findE d s []
def removeD (d : DM) (s : ByteArray) : DM := if findE d s [] = 0 then d.deed (delF s.data.toList d.fs) else d
/-- Remove, whatever it is told -/
theorem remove_any (h : DiskAt w p d F m g v) (s : ByteArray) (hs : s.size ≤ 9223372036854775807) (hFb : ∀ k, F k → k < w.heap.size) (hd : d.deeds ≤ 1000000000) :
    Calls Try.prog 17 #[.pointer (some ⟨p, 0, none⟩), .string s] w fun e w' => e = .returned (.int .i64 (removeE d s)) ∧ IsDisk w' p (removeD d s) (Ext F w w') ∧ Touch F w w' := by
  unfold removeE removeD
  by_cases hE : findE d s [] = 0
  · simp only [if_pos hE]
    unfold deedE DM.deed
    by_cases hfu : d.fuse = 1
    · simp only [if_pos hfu]
      exact remove_gone h s hs hE hfu hd
    · simp only [if_neg hfu]
      exact remove_well h s hs hFb hE hfu hd
  · simp only [if_neg hE]
    exact (remove_bad h s hs hE).mono fun e w' ⟨he, h1, h2⟩ => ⟨he, ⟨m, g, v, h1.mono fun k hk => .inl hk⟩, h2.false⟩
end
end Go.Proofs.Ytiagoaaldpajmaa
