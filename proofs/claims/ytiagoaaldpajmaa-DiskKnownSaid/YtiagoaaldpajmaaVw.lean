/- Several texts in one: Rename2, RefCalls. -/
import Derived.Test.YtiagoaaldpajmaaVv
import Derived.Test.YtiagoaaldpajmaaVr
import Derived.Test.YtiagoaaldpajmaaVt
namespace Go.Proofs.Ytiagoaaldpajmaa
open Go.ChangeShapes Go.WideShapes Go.ChangeAt Go.RowKit Go.BigFrame Go.Maps Go.Sort
set_option linter.unusedVariables false
section
variable {w w' : World} {F : Nat → Prop} {fs : Fs} {g : Nm → Nat} {v : Nm → Value} {n : Nm} {x y : Fil} {p r u dd f : Nat} {m : Option Nat} {o : Bool} {d : DM}
theorem Renamed.disk {W1 : World} (h : Renamed F p r dd f o m fs w w') (hu : usedF fs ≤ r) (hr : r ≤ 9223372036854775807) (hl : fs.length ≤ dd) (hf : f ≤ 9223372036854775808) (hw : W1.heap.size ≤ w.heap.size) (ht : Touch F W1 w) :
    IsDisk w' p ⟨r, fs, dd, o, f⟩ (Ext F W1 w') ∧ Touch F W1 w' := by
  obtain ⟨g', v', hrow, hH, h2⟩ := h
  exact ⟨IsDisk.mono ⟨m, g', v', ⟨hrow, hH.map, hH.files, hH.memp, hH.memm, hH.ok, hu, hr, hl, hf⟩⟩ (Ext.from hw), ht.trans h2⟩
theorem renameF_len {a b : Nm} (h : getF a fs = some x) : (renameF a b fs).length ≤ fs.length := by
  rw [renameF_eq h]
  have h1 := putF_len (n := b) (y := cutF x x.b.length) (fs := delF a fs)
  have h2 := delF_len_lt h
  omega
theorem renameF_used {a b : Nm} (hS : SortF fs) (h : getF a fs = some x) : usedF (renameF a b fs) ≤ usedF fs := by
  rw [renameF_eq h]
  have h1 := usedF_put (n := b) (f := cutF x x.b.length) (hS.del (n := a))
  have h2 := usedF_del (n := a) hS
  rw [lenF_some h] at h2
  have h3 : (cutF x x.b.length).b.length = x.b.length := by simp [cutF]
  omega
theorem lookE_two {a b : ByteArray} (h : lookE o [a, b] = 0) : (1 ≤ a.size ∧ a.size ≤ 128) ∧ (1 ≤ b.size ∧ b.size ≤ 128) := by
  unfold lookE at h
  cases o with
  | true => simp at h
  | false =>
    simp [okName] at h
    omega
set_option maxRecDepth 100000 in
set_option maxHeartbeats 2000000 in
theorem rename_bad (h : DiskAt w p d F m g v) (a b : ByteArray) (hsa : a.size ≤ 9223372036854775807) (hsb : b.size ≤ 9223372036854775807) (hE : findE d a [b] ≠ 0) :
    Calls Try.prog 26 #[.pointer (some ⟨p, 0, none⟩), .string a, .string b] w fun e w' => e = .returned (.int .i64 (findE d a [b])) ∧ DiskAt w' p d F m g v ∧ Touch (fun _ => False) w w' := by
  have hl2 : (findE d a [b] != 0) = true := by simpa using hE
  have HH := Lib.hid h; clear h hE
  have hbx := boxes4 w TP TS TS TS [.pointer (some ⟨p, 0, none⟩)] [.string a] [.string b] [.string a, .string b]
  go_enter Try.func26, Try.ntmps26
  go_wp2_with fail
  obtain ⟨kd, hkd⟩ : ∃ kd, kd = w.heap.size := ⟨_, rfl⟩
  obtain ⟨ka, hka⟩ : ∃ ka, ka = w.heap.size + 1 := ⟨_, rfl⟩
  obtain ⟨kb, hkb⟩ : ∃ kb, kb = w.heap.size + 1 + 1 := ⟨_, rfl⟩
  obtain ⟨kn, hkn⟩ : ∃ kn, kn = w.heap.size + 1 + 1 + 1 := ⟨_, rfl⟩
  rw [← hkn, ← hkb, ← hka, ← hkd]
  rw [← hkn, ← hkb, ← hka, ← hkd] at hbx
  generalize (((w.alloc (.cells #[.pointer (some ⟨p, 0, none⟩)] TP)).alloc (.cells #[.string a] TS)).alloc (.cells #[.string b] TS)).alloc (.cells #[.string a, .string b] TS) = W at hbx ⊢
  obtain ⟨hd1, ha1, hb1, hn1, ht1, hz1⟩ := hbx
  have hD1 := HH.out.still ht1
  have hfi := find_any hD1 kn a [b] hn1 2 (by simp) (by simp) (by intro x hx; simp at hx; rcases hx with rfl | rfl <;> assumption)
  have HFi := Lib.hid hfi; have HD1 := Lib.hid hD1; have Hd1 := Lib.hid hd1; have Ha1 := Lib.hid ha1; have Hb1 := Lib.hid hb1; have HT1 := Lib.hid ht1; have HZ1 := Lib.hid hz1
  have Hkd := Lib.hid hkd; have Hka := Lib.hid hka; have Hkb := Lib.hid hkb
  clear hfi hD1 hd1 ha1 hb1 hn1 ht1 hz1 hkd hka hkb hkn
  refine (HFi.out).mono ?_
  rintro e w1 ⟨ad, rfl, ha, k, rfl⟩
  have hT2 : Touch (fun _ => False) w (W.drewN k) := HT1.out.drewN k
  have hD2 : DiskAt (W.drewN k) p d F m g v := HD1.out.still ((Touch.refl _ _).drewN k)
  have hd2 : Row (W.drewN k) kd TP [.pointer (some ⟨p, 0, none⟩)] := Hd1.out
  have ha2 : Row (W.drewN k) ka TS [.string a] := Ha1.out
  have hb2 : Row (W.drewN k) kb TS [.string b] := Hb1.out
  generalize W.drewN k = W1 at hT2 hD2 hd2 ha2 hb2 ⊢
  have HT2 := Lib.hid hT2; have HD2 := Lib.hid hD2; have Hd2 := Lib.hid hd2; have Ha2 := Lib.hid ha2; have Hb2 := Lib.hid hb2; clear hT2 hD2 hd2 ha2 hb2
  have HA := Lib.hid ha; clear ha
  go_wp2_with fail
  go_ret
  exact ⟨rfl, HD2.out.still ((Touch.refl _ _).alloc _), HT2.out.alloc _⟩
set_option maxRecDepth 100000 in
set_option maxHeartbeats 2000000 in
theorem rename_gone (h : DiskAt w p d F m g v) (a b : ByteArray) (hsa : a.size ≤ 9223372036854775807) (hsb : b.size ≤ 9223372036854775807) (hE : findE d a [b] = 0) (hfu : d.fuse = 1) (hd : d.deeds ≤ 1000000000) :
    Calls Try.prog 26 #[.pointer (some ⟨p, 0, none⟩), .string a, .string b] w fun e w' => e = .returned (.int .i64 30) ∧ IsDisk w' p ⟨d.room, d.fs, d.deeds + 1, true, 0⟩ (Ext F w w') ∧ Touch F w w' := by
  have HH := Lib.hid h; have HE := Lib.hid hE; have HFU := Lib.hid hfu; clear h hE hfu
  have hbx := boxes4 w TP TS TS TS [.pointer (some ⟨p, 0, none⟩)] [.string a] [.string b] [.string a, .string b]
  go_enter Try.func26, Try.ntmps26
  go_wp2_with fail
  obtain ⟨kd, hkd⟩ : ∃ kd, kd = w.heap.size := ⟨_, rfl⟩
  obtain ⟨ka, hka⟩ : ∃ ka, ka = w.heap.size + 1 := ⟨_, rfl⟩
  obtain ⟨kb, hkb⟩ : ∃ kb, kb = w.heap.size + 1 + 1 := ⟨_, rfl⟩
  obtain ⟨kn, hkn⟩ : ∃ kn, kn = w.heap.size + 1 + 1 + 1 := ⟨_, rfl⟩
  rw [← hkn, ← hkb, ← hka, ← hkd]
  rw [← hkn, ← hkb, ← hka, ← hkd] at hbx
  generalize (((w.alloc (.cells #[.pointer (some ⟨p, 0, none⟩)] TP)).alloc (.cells #[.string a] TS)).alloc (.cells #[.string b] TS)).alloc (.cells #[.string a, .string b] TS) = W at hbx ⊢
  obtain ⟨hd1, ha1, hb1, hn1, ht1, hz1⟩ := hbx
  have hD1 := HH.out.still ht1
  have hfi := find_any hD1 kn a [b] hn1 2 (by simp) (by simp) (by intro x hx; simp at hx; rcases hx with rfl | rfl <;> assumption)
  have HFi := Lib.hid hfi; have HD1 := Lib.hid hD1; have Hd1 := Lib.hid hd1; have Ha1 := Lib.hid ha1; have Hb1 := Lib.hid hb1; have HT1 := Lib.hid ht1; have HZ1 := Lib.hid hz1
  have Hkd := Lib.hid hkd; have Hka := Lib.hid hka; have Hkb := Lib.hid hkb
  clear hfi hD1 hd1 ha1 hb1 hn1 ht1 hz1 hkd hka hkb hkn
  have e0 := HFi.out
  rw [HE.out] at e0
  have HFi0 := Lib.hid e0; clear e0
  refine (HFi0.out).mono ?_
  rintro e w1 ⟨ad, rfl, ha, k, rfl⟩
  have hT2 : Touch (fun _ => False) w (W.drewN k) := HT1.out.drewN k
  have hD2 : DiskAt (W.drewN k) p d F m g v := HD1.out.still ((Touch.refl _ _).drewN k)
  have hd2 : Row (W.drewN k) kd TP [.pointer (some ⟨p, 0, none⟩)] := Hd1.out
  have ha2 : Row (W.drewN k) ka TS [.string a] := Ha1.out
  have hb2 : Row (W.drewN k) kb TS [.string b] := Hb1.out
  generalize W.drewN k = W1 at hT2 hD2 hd2 ha2 hb2 ⊢
  have HT2 := Lib.hid hT2; have HD2 := Lib.hid hD2; have Hd2 := Lib.hid hd2; have Ha2 := Lib.hid ha2; have Hb2 := Lib.hid hb2; clear hT2 hD2 hd2 ha2 hb2
  obtain ⟨x2, hx, rfl⟩ := ha rfl
  have HX := Lib.hid hx; clear ha hx
  have q1 : W1.cell? ⟨kd, 0, none⟩ = some (.pointer (some ⟨p, 0, none⟩)) := Hd2.out.cell 0
  have q2 : kd < W1.heap.size := Hd2.out.lt
  go_wp2_with fail
  have hkf : Row (W1.alloc (.cells #[.pointer (some ⟨g a.data.toList, 0, none⟩)] TPF)) W1.heap.size TPF [.pointer (some ⟨g a.data.toList, 0, none⟩)] := Row.made W1 TPF _
  have hd3 : Row (W1.alloc (.cells #[.pointer (some ⟨g a.data.toList, 0, none⟩)] TPF)) kd TP [.pointer (some ⟨p, 0, none⟩)] := Hd2.out.alloc _
  have ha3 : Row (W1.alloc (.cells #[.pointer (some ⟨g a.data.toList, 0, none⟩)] TPF)) ka TS [.string a] := Ha2.out.alloc _
  have hb3 : Row (W1.alloc (.cells #[.pointer (some ⟨g a.data.toList, 0, none⟩)] TPF)) kb TS [.string b] := Hb2.out.alloc _
  have hT3 : Touch (fun _ => False) w (W1.alloc (.cells #[.pointer (some ⟨g a.data.toList, 0, none⟩)] TPF)) := HT2.out.alloc _
  have hD3 : DiskAt (W1.alloc (.cells #[.pointer (some ⟨g a.data.toList, 0, none⟩)] TPF)) p d F m g v := HD2.out.still ((Touch.refl _ _).alloc _)
  have hkfs : W1.heap.size < (W1.alloc (.cells #[.pointer (some ⟨g a.data.toList, 0, none⟩)] TPF)).heap.size := by simp
  generalize W1.alloc (.cells #[.pointer (some ⟨g a.data.toList, 0, none⟩)] TPF) = W2 at *
  have hg := deed_gone_rename (w := W2) #[.pointer (some ⟨kd, 0, none⟩), .pointer (some ⟨ka, 0, none⟩), .pointer (some ⟨kb, 0, none⟩), .pointer (some ⟨W1.heap.size, 0, none⟩)] (by have := hD3.row; rw [HFU.out] at this; exact this) hd
  have HG := Lib.hid hg; have HD3 := Lib.hid hD3; have HT3 := Lib.hid hT3; clear hg hD3 hT3 hd3 ha3 hb3 hkf hkfs
  refine (HG.out).mono ?_; rintro e w3 ⟨rfl, hr3, ht3, hz3⟩
  have H3 := Lib.hid (gone_disk HD3.out hr3 ht3 HT3.out.false); clear hr3 ht3 hz3
  go_wp2_with fail
  go_ret
  exact ⟨rfl, H3.out⟩
set_option maxRecDepth 100000 in
set_option maxHeartbeats 2000000 in
theorem rename_well (h : DiskAt w p d F m g v) (a b : ByteArray) (hsa : a.size ≤ 9223372036854775807) (hsb : b.size ≤ 9223372036854775807) (hFb : ∀ k, F k → k < w.heap.size) (hE : findE d a [b] = 0) (hfu : d.fuse ≠ 1) (hd : d.deeds ≤ 1000000000) {x : Fil} (hgx : getF a.data.toList d.fs = some x) :
    Calls Try.prog 26 #[.pointer (some ⟨p, 0, none⟩), .string a, .string b] w fun e w' => e = .returned (.int .i64 0) ∧ IsDisk w' p ⟨d.room, renameF a.data.toList b.data.toList d.fs, d.deeds + 1, d.off, d.fuse - 1⟩ (Ext F w w') ∧ Touch F w w' := by
  obtain ⟨hna, hnb⟩ := lookE_two (findE_zero hE)
  have HH := Lib.hid h; have HE := Lib.hid hE; have HFU := Lib.hid hfu; have HGX := Lib.hid hgx; have HFb := Lib.hid hFb; have HNB := Lib.hid hnb; have HNA := Lib.hid hna; clear h hE hfu hgx hFb hna hnb
  have hbx := boxes4 w TP TS TS TS [.pointer (some ⟨p, 0, none⟩)] [.string a] [.string b] [.string a, .string b]
  go_enter Try.func26, Try.ntmps26
  go_wp2_with fail
  obtain ⟨kd, hkd⟩ : ∃ kd, kd = w.heap.size := ⟨_, rfl⟩
  obtain ⟨ka, hka⟩ : ∃ ka, ka = w.heap.size + 1 := ⟨_, rfl⟩
  obtain ⟨kb, hkb⟩ : ∃ kb, kb = w.heap.size + 1 + 1 := ⟨_, rfl⟩
  obtain ⟨kn, hkn⟩ : ∃ kn, kn = w.heap.size + 1 + 1 + 1 := ⟨_, rfl⟩
  rw [← hkn, ← hkb, ← hka, ← hkd]
  rw [← hkn, ← hkb, ← hka, ← hkd] at hbx
  generalize (((w.alloc (.cells #[.pointer (some ⟨p, 0, none⟩)] TP)).alloc (.cells #[.string a] TS)).alloc (.cells #[.string b] TS)).alloc (.cells #[.string a, .string b] TS) = W at hbx ⊢
  obtain ⟨hd1, ha1, hb1, hn1, ht1, hz1⟩ := hbx
  have hD1 := HH.out.still ht1
  have hfi := find_any hD1 kn a [b] hn1 2 (by simp) (by simp) (by intro x hx; simp at hx; rcases hx with rfl | rfl <;> assumption)
  have HFi := Lib.hid hfi; have HD1 := Lib.hid hD1; have Hd1 := Lib.hid hd1; have Ha1 := Lib.hid ha1; have Hb1 := Lib.hid hb1; have HT1 := Lib.hid ht1; have HZ1 := Lib.hid hz1
  have Hkd := Lib.hid hkd; have Hka := Lib.hid hka; have Hkb := Lib.hid hkb
  clear hfi hD1 hd1 ha1 hb1 hn1 ht1 hz1 hkd hka hkb hkn
  have e0 := HFi.out
  rw [HE.out] at e0
  have HFi0 := Lib.hid e0; clear e0
  refine (HFi0.out).mono ?_
  rintro e w1 ⟨ad, rfl, ha, k, rfl⟩
  have hT2 : Touch (fun _ => False) w (W.drewN k) := HT1.out.drewN k
  have hD2 : DiskAt (W.drewN k) p d F m g v := HD1.out.still ((Touch.refl _ _).drewN k)
  have hd2 : Row (W.drewN k) kd TP [.pointer (some ⟨p, 0, none⟩)] := Hd1.out
  have ha2 : Row (W.drewN k) ka TS [.string a] := Ha1.out
  have hb2 : Row (W.drewN k) kb TS [.string b] := Hb1.out
  generalize W.drewN k = W1 at hT2 hD2 hd2 ha2 hb2 ⊢
  have HT2 := Lib.hid hT2; have HD2 := Lib.hid hD2; have Hd2 := Lib.hid hd2; have Ha2 := Lib.hid ha2; have Hb2 := Lib.hid hb2; clear hT2 hD2 hd2 ha2 hb2
  obtain ⟨x2, hx, rfl⟩ := ha rfl
  have HX := Lib.hid hx; clear ha hx
  have q1 : W1.cell? ⟨kd, 0, none⟩ = some (.pointer (some ⟨p, 0, none⟩)) := Hd2.out.cell 0
  have q2 : kd < W1.heap.size := Hd2.out.lt
  go_wp2_with fail
  have hkf : Row (W1.alloc (.cells #[.pointer (some ⟨g a.data.toList, 0, none⟩)] TPF)) W1.heap.size TPF [.pointer (some ⟨g a.data.toList, 0, none⟩)] := Row.made W1 TPF _
  have hd3 : Row (W1.alloc (.cells #[.pointer (some ⟨g a.data.toList, 0, none⟩)] TPF)) kd TP [.pointer (some ⟨p, 0, none⟩)] := Hd2.out.alloc _
  have ha3 : Row (W1.alloc (.cells #[.pointer (some ⟨g a.data.toList, 0, none⟩)] TPF)) ka TS [.string a] := Ha2.out.alloc _
  have hb3 : Row (W1.alloc (.cells #[.pointer (some ⟨g a.data.toList, 0, none⟩)] TPF)) kb TS [.string b] := Hb2.out.alloc _
  have hT3 : Touch (fun _ => False) w (W1.alloc (.cells #[.pointer (some ⟨g a.data.toList, 0, none⟩)] TPF)) := HT2.out.alloc _
  have hD3 : DiskAt (W1.alloc (.cells #[.pointer (some ⟨g a.data.toList, 0, none⟩)] TPF)) p d F m g v := HD2.out.still ((Touch.refl _ _).alloc _)
  have hkfs : W1.heap.size < (W1.alloc (.cells #[.pointer (some ⟨g a.data.toList, 0, none⟩)] TPF)).heap.size := by simp
  have hn1 : ¬ F kd ∧ ¬ F ka ∧ ¬ F kb ∧ ¬ F W1.heap.size := by
    refine ⟨fun e => ?_, fun e => ?_, fun e => ?_, fun e => ?_⟩
    · have := HFb.out _ e; rw [Hkd.out] at this; omega
    · have := HFb.out _ e; rw [Hka.out] at this; omega
    · have := HFb.out _ e; rw [Hkb.out] at this; omega
    · have := HFb.out _ e; have := HT2.out.size; omega
  generalize W1.alloc (.cells #[.pointer (some ⟨g a.data.toList, 0, none⟩)] TPF) = W2 at *
  have hfu1 : usedF d.fs ≤ 9223372036854775807 := Nat.le_trans HH.out.used HH.out.room
  have hg := deed_well_rename (w := W2) (Q := fun w' => ∃ w3, Counted W2 w3 p d.room (usedF d.fs) m d.deeds d.off d.fuse ∧ Renamed F p d.room (d.deeds + 1) (d.fuse - 1) d.off m (renameF a.data.toList b.data.toList d.fs) w3 w') #[.pointer (some ⟨kd, 0, none⟩), .pointer (some ⟨ka, 0, none⟩), .pointer (some ⟨kb, 0, none⟩), .pointer (some ⟨W1.heap.size, 0, none⟩)] hD3.row hd HFU.out hD3.fuse (by
    intro w3 hC
    have hne : ∀ k t l, Row W2 k t l → t ≠ TD → k ≠ p := fun k t l hk ht => hk.apart hD3.row ht
    have hheld : Held w3 F p m d.fs g v := hD3.held.own hD3.row hC.touch
    refine (rename1_any hC.row hheld kd ka kb W1.heap.size a b (hd3.touch hC.touch (hne _ _ _ hd3 (by decide))) (ha3.touch hC.touch (hne _ _ _ ha3 (by decide))) (hb3.touch hC.touch (hne _ _ _ hb3 (by decide))) (hkf.touch hC.touch (hne _ _ _ hkf (by decide))) hn1 HNA.out.2 HNB.out HGX.out hfu1 (by have := HH.out.few; omega)).mono ?_
    rintro e w4 ⟨rfl, hap⟩
    exact ⟨rfl, w3, hC, hap⟩)
  have HG := Lib.hid hg; have HD3 := Lib.hid hD3; have HT3 := Lib.hid hT3; clear hg hD3 hT3 hd3 ha3 hb3 hkf hkfs hn1
  refine (HG.out).mono ?_; rintro e w4 ⟨rfl, w3, hC, hap⟩
  have HA4 := Lib.hid hap; have HC := Lib.hid hC; clear hap hC
  go_wp2_with fail
  go_ret
  have h23 : Touch F W2 w3 := HC.out.touch.mono (by rintro i rfl; exact HD3.out.memp)
  refine ⟨rfl, HA4.out.disk (Nat.le_trans (renameF_used HH.out.ok.sort HGX.out) HH.out.used) HH.out.room ?_ (by have := HH.out.fuse; omega) (Nat.le_trans HT3.out.size h23.size) (HT3.out.frow h23)⟩
  have := renameF_len (b := b.data.toList) HGX.out; have := HH.out.few; omega
def renameE (d : DM) (a b : ByteArray) : Int := if findE d a [b] = 0 then deedE d else findE d a [b]
def renameD (d : DM) (a b : ByteArray) : DM := if findE d a [b] = 0 then d.deed (renameF a.data.toList b.data.toList d.fs) else d
/-- Rename, whatever it is told -/
theorem rename_any (h : DiskAt w p d F m g v) (a b : ByteArray) (hsa : a.size ≤ 9223372036854775807) (hsb : b.size ≤ 9223372036854775807) (hFb : ∀ k, F k → k < w.heap.size) (hd : d.deeds ≤ 1000000000) :
    Calls Try.prog 26 #[.pointer (some ⟨p, 0, none⟩), .string a, .string b] w fun e w' => e = .returned (.int .i64 (renameE d a b)) ∧ IsDisk w' p (renameD d a b) (Ext F w w') ∧ Touch F w w' := by
  unfold renameE renameD
  by_cases hE : findE d a [b] = 0
  · simp only [if_pos hE]
    obtain ⟨x, hx⟩ := find_some hE
    unfold deedE DM.deed
    by_cases hfu : d.fuse = 1
    · simp only [if_pos hfu]
      exact rename_gone h a b hsa hsb hE hfu hd
    · simp only [if_neg hfu]
      exact rename_well h a b hsa hsb hFb hE hfu hd hx
  · simp only [if_neg hE]
    exact (rename_bad h a b hsa hsb hE).mono fun e w' ⟨he, h1, h2⟩ => ⟨he, ⟨m, g, v, h1.mono fun k hk => .inl hk⟩, h2.false⟩
theorem own_rename {w0 : World} (h : OwnF w0 w p d F) (a b : ByteArray) (hsa : a.size ≤ 9223372036854775807) (hsb : b.size ≤ 9223372036854775807) (hd : d.deeds ≤ 1000000000) :
    Calls Try.prog 26 #[.pointer (some ⟨p, 0, none⟩), .string a, .string b] w fun e w' => e = .returned (.int .i64 (renameE d a b)) ∧ OwnF w0 w' p (renameD d a b) (Ext F w w') ∧ Touch F w w' := by
  obtain ⟨m, g, v, hD⟩ := h.disk
  refine (rename_any hD a b hsa hsb (fun k hk => (h.mine k hk).2) hd).mono ?_
  rintro e w' ⟨rfl, h1, h2⟩
  exact ⟨rfl, h.next h1 h2, h2⟩
end
end Go.Proofs.Ytiagoaaldpajmaa
namespace Go.Proofs.Ytiagoaaldpajmaa
open Go.ChangeShapes Go.WideShapes Go.ChangeAt Go.RowKit Go.BigFrame Go.Maps Go.Sort
set_option linter.unusedVariables false
/-- the disk is so, its blocks M and what was made -/
def RefTo (w w' : World) (q : Nat) (d : DM) (M : Nat → Prop) : Prop := ∃ es A c, RefAt w' q d es A c (Since M w w') ∧ Touch (· = q) w w'
section
variable {w w' w1 w2 : World} {q : Nat} {d d' : DM} {es ys ts es1 : List En} {A A1 : Option Addr} {c c1 k : Nat} {M M' N : Nat → Prop} {e x : En} {G : Nat → Prop}
theorem RefTo.from (h : RefTo w1 w2 q d M) (ht : Touch (· = q) w w1) (hM : ¬ M q) (hq : q < w.heap.size) : RefTo w w2 q d M := by
  obtain ⟨es, A, c, h1, h2⟩ := h
  refine ⟨es, A, c, h1.mono (fun k hk => ?_) ?_, ht.trans h2⟩
  · rcases hk with hk | hk
    · exact .inl hk
    · exact .inr ⟨by have := ht.size; omega, hk.2⟩
  · rintro (hk | hk)
    · exact hM hk
    · omega
theorem RefAt.to (h : RefAt w' q d es A c M) (ht : Touch (· = q) w w') (hM : ¬ M q) (hq : q < w.heap.size) : RefTo w w' q d M :=
  ⟨es, A, c, h.mono (fun _ hk => .inl hk) (by rintro (hk | hk); exact hM hk; omega), ht⟩
theorem del_twice {n : Nm} {fs : Fs} : delF n (delF n fs) = delF n fs := by simp [delF, List.filter_filter]
theorem put_del' {n : Nm} {f : Fil} {fs : Fs} : putF n f (delF n fs) = putF n f fs := by unfold putF; rw [del_twice]
theorem refE_find2 {s t : ByteArray} : refE d s t true = findE d s [t] := by
  by_cases h0 : lookE d.off [s, t] = 0
  · cases hg : getF s.data.toList d.fs <;> simp [refE, findE, noneE, isF, h0, hg]
  · simp [refE, findE, h0]
theorem refE_find {s : ByteArray} : refE d s s true = findE d s [] := by
  have h1 : lookE d.off [s, s] = lookE d.off [s] := by unfold lookE; simp
  by_cases h0 : lookE d.off [s] = 0
  · cases hg : getF s.data.toList d.fs <;> simp [refE, findE, noneE, isF, h1, h0, hg]
  · simp [refE, findE, h1, h0]
theorem field_b (w : World) (x : En) : (Instr.field TRF (.agg #[.string x.name, .slice x.ba x.f.b.length x.bc, .int .i64 (x.f.sure : Nat), .bool x.f.made]) 1).run Try.prog w = .ok (.slice x.ba x.f.b.length x.bc) w := by
  simp [Instr.field, run_underlying Try.underlying83, asAgg, part, isAgg, Sem.run_bind, run_underlying Try.underlying36]
/-- what sure leaves -/
def sureD (d : DM) (s t : ByteArray) (n : Nat) : DM := if d.fuse = 1 then d.tick else { d.tick with fs := putF t.data.toList (cutF ((getF s.data.toList d.fs).getD newF) n) (delF s.data.toList d.fs) }
set_option maxRecDepth 100000 in
set_option maxHeartbeats 2000000 in
theorem ref_sure (h : RefAt w q d es A c M) (hMb : ∀ k, M k → k < w.heap.size) (s t : ByteArray) (n : Nat) (hs : s.size ≤ 9223372036854775807) (ht : t.size ≤ 9223372036854775807) (hd : d.deeds ≤ 1000000000) (hl : es.length ≤ 1000000)
    (hn : n ≤ ((getF s.data.toList d.fs).getD newF).b.length) :
    Calls Try.prog 58 #[.pointer (some ⟨q, 0, none⟩), .string s, .string t, .int .i64 (n : Nat)] w fun e w' => e = .returned (.int .i64 (deedE d)) ∧ RefTo w w' q (sureD d s t n) M := by
  unfold deedE sureD
  by_cases hfu : d.fuse = 1
  · simp only [if_pos hfu]
    have hde := ref_deed_gone h hfu hd
    have HDe := Lib.hid hde; have HH := Lib.hid h; clear hde h
    go_enter Try.func58, Try.ntmps58
    go_wp2_with fail
    refine (HDe.out).mono ?_; rintro e w1 ⟨rfl, h1, ht1, hz1⟩
    have H1 := Lib.hid (h1.to ht1 HH.out.free HH.out.row.lt); clear h1 ht1 hz1
    go_wp2_with fail
    go_ret
    exact ⟨rfl, H1.out⟩
  · simp only [if_neg hfu]
    exact (ref_sure_well h hMb s t n hs ht hfu hd hl hn).mono fun e w' ⟨he, es', A', c', h1, h2⟩ => ⟨he, es', A', c', h1, h2⟩
set_option maxRecDepth 100000 in
set_option maxHeartbeats 2000000 in
theorem ref_sync (h : RefAt w q d es A c M) (hMb : ∀ k, M k → k < w.heap.size) (s : ByteArray) (hs : s.size ≤ 9223372036854775807) (hd : d.deeds ≤ 1000000000) (hl : es.length ≤ 1000000) (hbl : ∀ n x, getF n d.fs = some x → x.b.length ≤ 9223372036854775807) :
    Calls Try.prog 24 #[.pointer (some ⟨q, 0, none⟩), .string s] w fun e w' => e = .returned (.int .i64 (syncE d s)) ∧ RefTo w w' q (syncD d s) M := by
  have hre := ref_refused h s s true hs hs
  rw [refE_find] at hre
  have htd : Touch (· = q) w w.drew := (Touch.refl _ _).drew
  have hHd := h.still (Touch.refl _ w).drew
  unfold syncE syncD
  by_cases hE : findE d s [] = 0
  · simp only [if_pos hE]
    rw [hE] at hre
    have hfi := ref_file hHd (fun k hk => hMb k hk) s hs
    have HRe := Lib.hid hre; have HH := Lib.hid h; have HFi := Lib.hid hfi; have HHd := Lib.hid hHd; have HMb := Lib.hid hMb; have HE := Lib.hid hE; have HBl := Lib.hid hbl
    clear hre h hfi hHd hMb hE hbl
    go_enter Try.func24, Try.ntmps24
    go_wp2_with fail
    refine (HRe.out).mono ?_; rintro e w1 ⟨rfl, rfl⟩
    go_wp2_with fail
    refine (HFi.out).mono ?_; rintro e w2 ⟨x, rfl, hxn, hxf, hxo, hb2⟩
    rw [show x.val = .agg #[.string x.name, .slice x.ba x.f.b.length x.bc, .int .i64 (x.f.sure : Nat), .bool x.f.made] from rfl]
    have hsu := ref_sure (HHd.out.still (Touch.of_below hb2)) (fun k hk => Nat.lt_of_lt_of_le (HMb.out k hk) hb2.size) s s x.f.b.length hs hs hd hl (by rw [hxf]; exact Nat.le_refl _)
    have hfd := fun w : World => field_b w x
    obtain ⟨y, hy⟩ := find_some HE.out
    have hfx : x.f = y := by rw [hxf, hy]; rfl
    have hxl : x.f.b.length ≤ 9223372036854775807 := by rw [hfx]; exact HBl.out _ _ hy
    have hD : sureD d s s x.f.b.length = d.deed (syncF s.data.toList d.fs) := by
      unfold sureD DM.deed syncF DM.tick
      rw [hy, hfx]
      by_cases hfu : d.fuse = 1
      · simp only [if_pos hfu]
      · simp only [if_neg hfu, Option.getD_some, put_del']
    rw [hD] at hsu
    have HSu := Lib.hid hsu; have HT2 := Lib.hid (htd.trans (Touch.of_below (F := (· = q)) hb2))
    clear hsu hxn hxf hxo hb2 hfx hy hD
    go_wp2_with fail
    refine (HSu.out).mono ?_; rintro e w3 ⟨rfl, h3⟩
    have H3 := Lib.hid (h3.from HT2.out HH.out.free HH.out.row.lt); clear h3
    go_wp2_with fail
    go_ret
    exact ⟨rfl, H3.out⟩
  · simp only [if_neg hE]
    have hne : (findE d s [] != 0) = true := by simpa using hE
    have HRe := Lib.hid hre; have HTo := Lib.hid (hHd.to htd h.free h.row.lt)
    clear hre h hHd hE
    go_enter Try.func24, Try.ntmps24
    go_wp2_with fail
    refine (HRe.out).mono ?_; rintro e w1 ⟨rfl, rfl⟩
    go_wp2_with fail
    go_ret
    exact ⟨rfl, HTo.out⟩
set_option maxRecDepth 100000 in
set_option maxHeartbeats 2000000 in
theorem ref_rename (h : RefAt w q d es A c M) (hMb : ∀ k, M k → k < w.heap.size) (s t : ByteArray) (hs : s.size ≤ 9223372036854775807) (ht : t.size ≤ 9223372036854775807) (hd : d.deeds ≤ 1000000000) (hl : es.length ≤ 1000000) (hbl : ∀ n x, getF n d.fs = some x → x.b.length ≤ 9223372036854775807) :
    Calls Try.prog 45 #[.pointer (some ⟨q, 0, none⟩), .string s, .string t] w fun e w' => e = .returned (.int .i64 (renameE d s t)) ∧ RefTo w w' q (renameD d s t) M := by
  have hre := ref_refused h s t true hs ht
  rw [refE_find2] at hre
  have htd : Touch (· = q) w w.drew := (Touch.refl _ _).drew
  have hHd := h.still (Touch.refl _ w).drew
  unfold renameE renameD
  by_cases hE : findE d s [t] = 0
  · simp only [if_pos hE]
    rw [hE] at hre
    have hfi := ref_file hHd (fun k hk => hMb k hk) s hs
    have HRe := Lib.hid hre; have HH := Lib.hid h; have HFi := Lib.hid hfi; have HHd := Lib.hid hHd; have HMb := Lib.hid hMb; have HE := Lib.hid hE; have HBl := Lib.hid hbl
    clear hre h hfi hHd hMb hE hbl
    go_enter Try.func45, Try.ntmps45
    go_wp2_with fail
    refine (HRe.out).mono ?_; rintro e w1 ⟨rfl, rfl⟩
    go_wp2_with fail
    refine (HFi.out).mono ?_; rintro e w2 ⟨x, rfl, hxn, hxf, hxo, hb2⟩
    rw [show x.val = .agg #[.string x.name, .slice x.ba x.f.b.length x.bc, .int .i64 (x.f.sure : Nat), .bool x.f.made] from rfl]
    have hsu := ref_sure (HHd.out.still (Touch.of_below hb2)) (fun k hk => Nat.lt_of_lt_of_le (HMb.out k hk) hb2.size) s t x.f.b.length hs ht hd hl (by rw [hxf]; exact Nat.le_refl _)
    have hfd := fun w : World => field_b w x
    obtain ⟨y, hy⟩ := find_some HE.out
    have hfx : x.f = y := by rw [hxf, hy]; rfl
    have hxl : x.f.b.length ≤ 9223372036854775807 := by rw [hfx]; exact HBl.out _ _ hy
    have hD : sureD d s t x.f.b.length = d.deed (renameF s.data.toList t.data.toList d.fs) := by
      unfold sureD DM.deed renameF DM.tick
      rw [hy, hfx]
      by_cases hfu : d.fuse = 1
      · simp only [if_pos hfu]
      · simp only [if_neg hfu, Option.getD_some, put_del']
    rw [hD] at hsu
    have HSu := Lib.hid hsu; have HT2 := Lib.hid (htd.trans (Touch.of_below (F := (· = q)) hb2))
    clear hsu hxn hxf hxo hb2 hfx hy hD
    go_wp2_with fail
    refine (HSu.out).mono ?_; rintro e w3 ⟨rfl, h3⟩
    have H3 := Lib.hid (h3.from HT2.out HH.out.free HH.out.row.lt); clear h3
    go_wp2_with fail
    go_ret
    exact ⟨rfl, H3.out⟩
  · simp only [if_neg hE]
    have hne : (findE d s [t] != 0) = true := by simpa using hE
    have HRe := Lib.hid hre; have HTo := Lib.hid (hHd.to htd h.free h.row.lt)
    clear hre h hHd hE
    go_enter Try.func45, Try.ntmps45
    go_wp2_with fail
    refine (HRe.out).mono ?_; rintro e w1 ⟨rfl, rfl⟩
    go_wp2_with fail
    go_ret
    exact ⟨rfl, HTo.out⟩
end
end Go.Proofs.Ytiagoaaldpajmaa
