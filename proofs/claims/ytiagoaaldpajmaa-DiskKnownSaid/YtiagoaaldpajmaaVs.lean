/- Several texts in one: Remove. -/
import Derived.Test.YtiagoaaldpajmaaVl
namespace Go.Proofs.Ytiagoaaldpajmaa
open Go.ChangeShapes Go.WideShapes Go.ChangeAt Go.RowKit Go.BigFrame Go.Maps Go.Sort
set_option linter.unusedVariables false
section
variable {w w' : World} {F : Nat → Prop} {fs : Fs} {g : Nm → Nat} {v : Nm → Value} {n : Nm} {x y : Fil} {p r u dd f : Nat} {m : Option Nat} {o : Bool} {d : DM}
/-- what a deed that drops leaves -/
def Gone (F : Nat → Prop) (p r u dd f : Nat) (o : Bool) (m : Option Nat) (fs : Fs) (g : Nm → Nat) (v : Nm → Value) (w w' : World) : Prop := Row w' p TD (dcells r u m dd o f) ∧ Held w' F p m fs g v ∧ Touch F w w'
set_option maxRecDepth 100000 in
set_option maxHeartbeats 2000000 in
theorem remove1_any (h : Row w p TD (dcells r u m dd o f)) (hH : Held w F p m fs g v) (kd ks : Nat) (s : ByteArray) (bd : Row w kd TP [.pointer (some ⟨p, 0, none⟩)]) (bs : Row w ks TS [.string s]) (hs : s.size ≤ 9223372036854775807) (hu : lenF s.data.toList fs ≤ u) (hr : u ≤ 9223372036854775807) :
    Calls Try.prog 42 #[.pointer (some ⟨kd, 0, none⟩), .pointer (some ⟨ks, 0, none⟩)] w fun e w' => e = .returned (.tuple #[]) ∧
      Gone F p r (u - lenF s.data.toList fs) dd f o m (delF s.data.toList fs) g v w w' := by
  have c1 : w.cell? ⟨kd, 0, none⟩ = some (.pointer (some ⟨p, 0, none⟩)) := bd.cell 0
  have c2 : w.cell? ⟨ks, 0, none⟩ = some (.string s) := bs.cell 0
  have hdr := drop_held h hH s hs hu hr
  have HDr := Lib.hid hdr
  clear hdr hH h bd bs
  go_enter Try.func42, Try.ntmps42
  go_wp2_with fail
  refine (HDr.out).mono ?_; rintro e w2 ⟨rfl, h1, h2, h3, -⟩
  have H2 := Lib.hid (show Gone F p r (u - lenF s.data.toList fs) dd f o m (delF s.data.toList fs) g v w w2 from ⟨h1, h2, h3⟩); clear h1 h2 h3
  go_wp2_with fail
  go_end0
  exact ⟨rfl, H2.out⟩
theorem Gone.disk {W1 : World} (h : Gone F p r (usedF fs) dd f o m fs g v w w') (hu : usedF fs ≤ r) (hr : r ≤ 9223372036854775807) (hl : fs.length ≤ dd) (hf : f ≤ 9223372036854775808) (hw : W1.heap.size ≤ w.heap.size) (ht : Touch F W1 w) :
    IsDisk w' p ⟨r, fs, dd, o, f⟩ (Ext F W1 w') ∧ Touch F W1 w' := by
  obtain ⟨hrow, hH, h2⟩ := h
  exact ⟨IsDisk.mono ⟨m, g, v, ⟨hrow, hH.map, hH.files, hH.memp, hH.memm, hH.ok, hu, hr, hl, hf⟩⟩ (fun k hk => .inl hk), ht.trans h2⟩

set_option maxRecDepth 100000 in
set_option maxHeartbeats 2000000 in
theorem remove_bad (h : DiskAt w p d F m g v) (s : ByteArray) (hs : s.size ≤ 9223372036854775807) (hE : findE d s [] ≠ 0) :
    Calls Try.prog 17 #[.pointer (some ⟨p, 0, none⟩), .string s] w fun e w' => e = .returned (.int .i64 (findE d s [])) ∧ DiskAt w' p d F m g v ∧ Touch (fun _ => False) w w' := by
  have hl2 : (findE d s [] != 0) = true := by simpa using hE
  have HH := Lib.hid h; clear h hE
  have hbx := boxes3 w TP TS TS [.pointer (some ⟨p, 0, none⟩)] [.string s] [.string s]
  go_enter Try.func17, Try.ntmps17
  go_wp2_with fail
  obtain ⟨kd, hkd⟩ : ∃ kd, kd = w.heap.size := ⟨_, rfl⟩
  obtain ⟨ks, hks⟩ : ∃ ks, ks = w.heap.size + 1 := ⟨_, rfl⟩
  obtain ⟨kn, hkn⟩ : ∃ kn, kn = w.heap.size + 1 + 1 := ⟨_, rfl⟩
  rw [← hkn, ← hks, ← hkd]
  rw [← hkn, ← hks, ← hkd] at hbx
  generalize ((w.alloc (.cells #[.pointer (some ⟨p, 0, none⟩)] TP)).alloc (.cells #[.string s] TS)).alloc (.cells #[.string s] TS) = W at hbx ⊢
  obtain ⟨hd1, hs1, hn1, ht1, hz1⟩ := hbx
  have hD1 := HH.out.still ht1
  have hfi := find_any hD1 kn s [] hn1 1 (by simp) (by simp) (by simpa using hs)
  have HFi := Lib.hid hfi; have HD1 := Lib.hid hD1; have Hd1 := Lib.hid hd1; have Hs1 := Lib.hid hs1; have HT1 := Lib.hid ht1; have HZ1 := Lib.hid hz1
  have Hkd := Lib.hid hkd; have Hkn := Lib.hid hkn; have Hks := Lib.hid hks
  clear hfi hD1 hd1 hs1 hn1 ht1 hz1 hkd hkn hks
  refine (HFi.out).mono ?_
  rintro e w1 ⟨a, rfl, ha, k, rfl⟩
  have hT2 : Touch (fun _ => False) w (W.drewN k) := HT1.out.drewN k
  have hD2 : DiskAt (W.drewN k) p d F m g v := HD1.out.still ((Touch.refl _ _).drewN k)
  have hd2 : Row (W.drewN k) kd TP [.pointer (some ⟨p, 0, none⟩)] := Hd1.out
  have hs2 : Row (W.drewN k) ks TS [.string s] := Hs1.out
  generalize W.drewN k = W1 at hT2 hD2 hd2 hs2 ⊢
  have HT2 := Lib.hid hT2; have HD2 := Lib.hid hD2; have Hd2 := Lib.hid hd2; have Hs2 := Lib.hid hs2; clear hT2 hD2 hd2 hs2
  have HA := Lib.hid ha; clear ha
  go_wp2_with fail
  go_ret
  exact ⟨rfl, HD2.out, HT2.out⟩
set_option maxRecDepth 100000 in
set_option maxHeartbeats 2000000 in
theorem remove_gone (h : DiskAt w p d F m g v) (s : ByteArray) (hs : s.size ≤ 9223372036854775807) (hE : findE d s [] = 0) (hfu : d.fuse = 1) (hd : d.deeds ≤ 1000000000) :
    Calls Try.prog 17 #[.pointer (some ⟨p, 0, none⟩), .string s] w fun e w' => e = .returned (.int .i64 30) ∧ IsDisk w' p ⟨d.room, d.fs, d.deeds + 1, true, 0⟩ (Ext F w w') ∧ Touch F w w' := by
  have HH := Lib.hid h; have HE := Lib.hid hE; have HFU := Lib.hid hfu; clear h hE hfu
  have hbx := boxes3 w TP TS TS [.pointer (some ⟨p, 0, none⟩)] [.string s] [.string s]
  go_enter Try.func17, Try.ntmps17
  go_wp2_with fail
  obtain ⟨kd, hkd⟩ : ∃ kd, kd = w.heap.size := ⟨_, rfl⟩
  obtain ⟨ks, hks⟩ : ∃ ks, ks = w.heap.size + 1 := ⟨_, rfl⟩
  obtain ⟨kn, hkn⟩ : ∃ kn, kn = w.heap.size + 1 + 1 := ⟨_, rfl⟩
  rw [← hkn, ← hks, ← hkd]
  rw [← hkn, ← hks, ← hkd] at hbx
  generalize ((w.alloc (.cells #[.pointer (some ⟨p, 0, none⟩)] TP)).alloc (.cells #[.string s] TS)).alloc (.cells #[.string s] TS) = W at hbx ⊢
  obtain ⟨hd1, hs1, hn1, ht1, hz1⟩ := hbx
  have hD1 := HH.out.still ht1
  have hfi := find_any hD1 kn s [] hn1 1 (by simp) (by simp) (by simpa using hs)
  have HFi := Lib.hid hfi; have HD1 := Lib.hid hD1; have Hd1 := Lib.hid hd1; have Hs1 := Lib.hid hs1; have HT1 := Lib.hid ht1; have HZ1 := Lib.hid hz1
  have Hkd := Lib.hid hkd; have Hkn := Lib.hid hkn; have Hks := Lib.hid hks
  clear hfi hD1 hd1 hs1 hn1 ht1 hz1 hkd hkn hks
  have e0 := HFi.out
  rw [HE.out] at e0
  have HFi0 := Lib.hid e0; clear e0
  refine (HFi0.out).mono ?_
  rintro e w1 ⟨a, rfl, ha, k, rfl⟩
  have hT2 : Touch (fun _ => False) w (W.drewN k) := HT1.out.drewN k
  have hD2 : DiskAt (W.drewN k) p d F m g v := HD1.out.still ((Touch.refl _ _).drewN k)
  have hd2 : Row (W.drewN k) kd TP [.pointer (some ⟨p, 0, none⟩)] := Hd1.out
  have hs2 : Row (W.drewN k) ks TS [.string s] := Hs1.out
  generalize W.drewN k = W1 at hT2 hD2 hd2 hs2 ⊢
  have HT2 := Lib.hid hT2; have HD2 := Lib.hid hD2; have Hd2 := Lib.hid hd2; have Hs2 := Lib.hid hs2; clear hT2 hD2 hd2 hs2
  have HX := Lib.hid ha; clear ha
  have q1 : W1.cell? ⟨kd, 0, none⟩ = some (.pointer (some ⟨p, 0, none⟩)) := Hd2.out.cell 0
  have q2 : kd < W1.heap.size := Hd2.out.lt
  go_wp2_with fail
  have hg := deed_gone_remove (w := W1) #[.pointer (some ⟨kd, 0, none⟩), .pointer (some ⟨ks, 0, none⟩)] (by have := HD2.out.row; rw [HFU.out] at this; exact this) hd
  have HG := Lib.hid hg; clear hg
  refine (HG.out).mono ?_; rintro e w3 ⟨rfl, hr3, ht3, hz3⟩
  have H3 := Lib.hid (gone_disk HD2.out hr3 ht3 HT2.out.false); clear hr3 ht3 hz3
  go_wp2_with fail
  go_ret
  exact ⟨rfl, H3.out⟩
set_option maxRecDepth 100000 in
set_option maxHeartbeats 2000000 in
theorem remove_well (h : DiskAt w p d F m g v) (s : ByteArray) (hs : s.size ≤ 9223372036854775807) (hFb : ∀ k, F k → k < w.heap.size) (hE : findE d s [] = 0) (hfu : d.fuse ≠ 1) (hd : d.deeds ≤ 1000000000) :
    Calls Try.prog 17 #[.pointer (some ⟨p, 0, none⟩), .string s] w fun e w' => e = .returned (.int .i64 0) ∧ IsDisk w' p ⟨d.room, delF s.data.toList d.fs, d.deeds + 1, d.off, d.fuse - 1⟩ (Ext F w w') ∧ Touch F w w' := by
  have HH := Lib.hid h; have HE := Lib.hid hE; have HFU := Lib.hid hfu; have HFb := Lib.hid hFb; clear h hE hfu hFb
  have hbx := boxes3 w TP TS TS [.pointer (some ⟨p, 0, none⟩)] [.string s] [.string s]
  go_enter Try.func17, Try.ntmps17
  go_wp2_with fail
  obtain ⟨kd, hkd⟩ : ∃ kd, kd = w.heap.size := ⟨_, rfl⟩
  obtain ⟨ks, hks⟩ : ∃ ks, ks = w.heap.size + 1 := ⟨_, rfl⟩
  obtain ⟨kn, hkn⟩ : ∃ kn, kn = w.heap.size + 1 + 1 := ⟨_, rfl⟩
  rw [← hkn, ← hks, ← hkd]
  rw [← hkn, ← hks, ← hkd] at hbx
  generalize ((w.alloc (.cells #[.pointer (some ⟨p, 0, none⟩)] TP)).alloc (.cells #[.string s] TS)).alloc (.cells #[.string s] TS) = W at hbx ⊢
  obtain ⟨hd1, hs1, hn1, ht1, hz1⟩ := hbx
  have hD1 := HH.out.still ht1
  have hfi := find_any hD1 kn s [] hn1 1 (by simp) (by simp) (by simpa using hs)
  have HFi := Lib.hid hfi; have HD1 := Lib.hid hD1; have Hd1 := Lib.hid hd1; have Hs1 := Lib.hid hs1; have HT1 := Lib.hid ht1; have HZ1 := Lib.hid hz1
  have Hkd := Lib.hid hkd; have Hkn := Lib.hid hkn; have Hks := Lib.hid hks
  clear hfi hD1 hd1 hs1 hn1 ht1 hz1 hkd hkn hks
  have e0 := HFi.out
  rw [HE.out] at e0
  have HFi0 := Lib.hid e0; clear e0
  refine (HFi0.out).mono ?_
  rintro e w1 ⟨a, rfl, ha, k, rfl⟩
  have hT2 : Touch (fun _ => False) w (W.drewN k) := HT1.out.drewN k
  have hD2 : DiskAt (W.drewN k) p d F m g v := HD1.out.still ((Touch.refl _ _).drewN k)
  have hd2 : Row (W.drewN k) kd TP [.pointer (some ⟨p, 0, none⟩)] := Hd1.out
  have hs2 : Row (W.drewN k) ks TS [.string s] := Hs1.out
  generalize W.drewN k = W1 at hT2 hD2 hd2 hs2 ⊢
  have HT2 := Lib.hid hT2; have HD2 := Lib.hid hD2; have Hd2 := Lib.hid hd2; have Hs2 := Lib.hid hs2; clear hT2 hD2 hd2 hs2
  have HX := Lib.hid ha; clear ha
  have q1 : W1.cell? ⟨kd, 0, none⟩ = some (.pointer (some ⟨p, 0, none⟩)) := Hd2.out.cell 0
  have q2 : kd < W1.heap.size := Hd2.out.lt
  go_wp2_with fail
  have hxl : lenF s.data.toList d.fs ≤ usedF d.fs := lenF_le HH.out.ok.sort
  have hfu1 : usedF d.fs ≤ 9223372036854775807 := Nat.le_trans HH.out.used HH.out.room
  have hg := deed_well_remove (w := W1) (Q := fun w' => ∃ w3, Counted W1 w3 p d.room (usedF d.fs) m d.deeds d.off d.fuse ∧ Gone F p d.room (usedF d.fs - lenF s.data.toList d.fs) (d.deeds + 1) (d.fuse - 1) d.off m (delF s.data.toList d.fs) g v w3 w') #[.pointer (some ⟨kd, 0, none⟩), .pointer (some ⟨ks, 0, none⟩)] HD2.out.row hd HFU.out HD2.out.fuse (by
    intro w3 hC
    have hne : ∀ k t l, Row W1 k t l → t ≠ TD → k ≠ p := fun k t l hk ht => hk.apart HD2.out.row ht
    have hheld : Held w3 F p m d.fs g v := HD2.out.held.own HD2.out.row hC.touch
    refine (remove1_any hC.row hheld kd ks s (Hd2.out.touch hC.touch (hne _ _ _ Hd2.out (by decide))) (Hs2.out.touch hC.touch (hne _ _ _ Hs2.out (by decide))) hs hxl hfu1).mono ?_
    rintro e w4 ⟨rfl, hap⟩
    exact ⟨rfl, w3, hC, hap⟩)
  have HG := Lib.hid hg; clear hg
  refine (HG.out).mono ?_; rintro e w4 ⟨rfl, w3, hC, hap⟩
  have HA4 := Lib.hid hap; have HC := Lib.hid hC; clear hap hC
  go_wp2_with fail
  go_ret
  have eu : usedF (delF s.data.toList d.fs) = usedF d.fs - lenF s.data.toList d.fs := by have := usedF_del (n := s.data.toList) HH.out.ok.sort; omega
  have hap := HA4.out
  rw [← eu] at hap
  have h23 : Touch F W1 w3 := HC.out.touch.mono (by rintro i rfl; exact HD2.out.memp)
  refine ⟨rfl, hap.disk (by rw [eu]; have := HH.out.used; omega) HH.out.room ?_ (by have := HH.out.fuse; omega) (Nat.le_trans HT2.out.size h23.size) (HT2.out.frow h23)⟩
  have := HH.out.few
  have h2 : (delF s.data.toList d.fs).length ≤ d.fs.length := List.length_filter_le _ _
  omega
def removeE (d : DM) (s : ByteArray) : Int := if findE d s [] = 0 then deedE d else findE d s []
def removeD (d : DM) (s : ByteArray) : DM := if findE d s [] = 0 then d.deed (delF s.data.toList d.fs) else d
/-- Remove, whatever it is told -/
theorem remove_any (h : DiskAt w p d F m g v) (s : ByteArray) (hs : s.size ≤ 9223372036854775807) (hFb : ∀ k, F k → k < w.heap.size) (hd : d.deeds ≤ 1000000000) :
    Calls Try.prog 17 #[.pointer (some ⟨p, 0, none⟩), .string s] w fun e w' => e = .returned (.int .i64 (removeE d s)) ∧ IsDisk w' p (removeD d s) (Ext F w w') ∧ Touch F w w' := by
  unfold removeE removeD
  by_cases hE : findE d s [] = 0
  · simp only [if_pos hE]
    unfold deedE DM.deed
    by_cases hfu : d.fuse = 1
    · simp only [if_pos hfu]
      exact remove_gone h s hs hE hfu hd
    · simp only [if_neg hfu]
      exact remove_well h s hs hFb hE hfu hd
  · simp only [if_neg hE]
    exact (remove_bad h s hs hE).mono fun e w' ⟨he, h1, h2⟩ => ⟨he, ⟨m, g, v, h1.mono fun k hk => .inl hk⟩, h2.false⟩
end
end Go.Proofs.Ytiagoaaldpajmaa
