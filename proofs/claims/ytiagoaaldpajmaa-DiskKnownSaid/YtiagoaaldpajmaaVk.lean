/- Several texts in one: Append3, Held, Sync1. -/
import Derived.Test.YtiagoaaldpajmaaVj
namespace Go.Proofs.Ytiagoaaldpajmaa
open Go.ChangeShapes Go.WideShapes Go.ChangeAt Go.RowKit Go.BigFrame Go.Maps Go.Sort
set_option linter.unusedVariables false
section
variable {w w' : World} {F : Nat → Prop} {fs : Fs} {g : Nm → Nat} {v : Nm → Value} {n : Nm} {x y : Fil} {p r u dd f : Nat} {m : Option Nat} {o : Bool} {d : DM}
theorem usedF_append {bs : List Nat} (hS : SortF fs) : usedF (appendF n bs fs) = usedF fs + bs.length := by
  have := usedF_put (n := n) (f := appF ((getF n fs).getD newF) bs) hS
  have e : (appF ((getF n fs).getD newF) bs).b.length = lenF n fs + bs.length := by
    unfold appF lenF
    cases getF n fs with
    | none => simp [newF]
    | some x => simp
  unfold appendF
  omega
theorem Appended.disk {bs : List Nat} (h : Appended F p r (usedF fs) dd f o fs n bs w w') (hS : SortF fs) (hu : usedF fs + bs.length ≤ r) (hr : r ≤ 9223372036854775807) (hl : fs.length + 1 ≤ dd) (hf : f ≤ 9223372036854775808) :
    IsDisk w' p ⟨r, appendF n bs fs, dd, o, f⟩ (Ext F w w') ∧ Touch F w w' := by
  obtain ⟨m', g', v', x, hx, hrow, hH, ht⟩ := h
  rw [appendF_open hx] at hH
  refine ⟨⟨m', g', v', ?_, hH.map, hH.files, hH.memp, hH.memm, hH.ok, ?_, hr, ?_, hf⟩, ht⟩
  · rw [usedF_append hS]; exact hrow
  · rw [usedF_append hS]; exact hu
  · have : (appendF n bs fs).length ≤ fs.length + 1 := putF_len
    exact Nat.le_trans this hl
theorem IsDisk.mono {F' : Nat → Prop} (h : IsDisk w p d F) (hF : ∀ k, F k → F' k) : IsDisk w p d F' := by obtain ⟨m, g, v, h⟩ := h; exact ⟨m, g, v, h.mono hF⟩
theorem Ext.from {w0 : World} (h : w0.heap.size ≤ w.heap.size) (k : Nat) (hk : Ext F w w' k) : Ext F w0 w' k := by
  rcases hk with hk | ⟨a, b⟩
  · exact .inl hk
  · exact .inr ⟨by omega, b⟩
theorem Touch.false {G : Nat → Prop} (h : Touch (fun _ => False) w w') : Touch G w w' := h.mono (fun _ h => h.elim)
theorem Touch.frow {G : Nat → Prop} {w0 : World} (h : Touch (fun _ => False) w0 w) (k : Touch G w w') : Touch G w0 w' := h.false.trans k

set_option maxRecDepth 100000 in
set_option maxHeartbeats 2000000 in
theorem append_gone (h : DiskAt w p d F m g v) (hFb : ∀ k, F k → k < w.heap.size) (s : ByteArray) (A : Addr) (bs : List Nat) (c : Nat) (hB : Bytes w (some A) bs) (hFA : 0 < bs.length → ¬ F A.block) (hs : s.size ≤ 9223372036854775807) (hb : bs.length ≤ 1000000000) (hd : d.deeds ≤ 1000000000)
    (hlk : lookE d.off [s] = 0) (hlim : lenF s.data.toList d.fs + bs.length ≤ 8388608) (hfull : usedF d.fs + bs.length ≤ d.room) (hfu : d.fuse = 1) :
    Calls Try.prog 14 #[.pointer (some ⟨p, 0, none⟩), .string s, .slice (some A) bs.length c] w fun e w' => e = .returned (.int .i64 30) ∧ IsDisk w' p ⟨d.room, appendF s.data.toList bs d.fs, d.deeds + 1, true, 0⟩ (Ext F w w') ∧ Touch F w w' := by
  obtain ⟨L, hL⟩ : ∃ L, L = lenF s.data.toList d.fs := ⟨_, rfl⟩
  have hlim0 := Lib.hid hlim
  rw [← hL] at hlim
  obtain ⟨U, hU⟩ : ∃ U, U = usedF d.fs := ⟨_, rfl⟩
  have hu := h.used; have hro := h.room
  rw [← hU] at hu hfull
  have hok := lookE_ok hlk
  have HH := Lib.hid h; have HL := Lib.hid hlk; have HLe := Lib.hid hL; have HU := Lib.hid hU; have HB := Lib.hid hB; have HFA := Lib.hid hFA; have HFb := Lib.hid hFb; have HO := Lib.hid hok
  clear h hlk hL hU hB hFA hFb hok
  have hbx := boxes4 w TP TS TB TS [.pointer (some ⟨p, 0, none⟩)] [.string s] [.slice (some A) bs.length c] [.string s]
  go_enter Try.func14, Try.ntmps14
  go_wp2_with fail
  obtain ⟨kd, hkd⟩ : ∃ kd, kd = w.heap.size := ⟨_, rfl⟩
  obtain ⟨ks, hks⟩ : ∃ ks, ks = w.heap.size + 1 := ⟨_, rfl⟩
  obtain ⟨kb, hkb⟩ : ∃ kb, kb = w.heap.size + 1 + 1 := ⟨_, rfl⟩
  obtain ⟨kn, hkn⟩ : ∃ kn, kn = w.heap.size + 1 + 1 + 1 := ⟨_, rfl⟩
  rw [← hkn, ← hkb, ← hks, ← hkd]
  rw [← hkn, ← hkb, ← hks, ← hkd] at hbx
  generalize (((w.alloc (.cells #[.pointer (some ⟨p, 0, none⟩)] TP)).alloc (.cells #[.string s] TS)).alloc (.cells #[.slice (some A) bs.length c] TB)).alloc (.cells #[.string s] TS) = W at hbx ⊢
  obtain ⟨hd1, hs1, hb1, hn1, ht1, hz1⟩ := hbx
  have hD1 := HH.out.still ht1
  have hlook := look_any hD1.row kn [s] [] hn1 1 (by simp) (by simp) (by simpa using hs)
  have HLk := Lib.hid hlook; have HD1 := Lib.hid hD1; have Hd1 := Lib.hid hd1; have Hs1 := Lib.hid hs1; have Hb1 := Lib.hid hb1; have HT1 := Lib.hid ht1; have HZ1 := Lib.hid hz1
  have Hkd := Lib.hid hkd; have Hks := Lib.hid hks; have Hkb := Lib.hid hkb
  clear hlook hD1 hd1 hs1 hb1 hn1 ht1 hz1 hkd hks hkb hkn
  have e0 := HLk.out
  rw [HL.out] at e0
  have HLk0 := Lib.hid e0; clear e0
  refine (HLk0.out).mono ?_; rintro e w1 ⟨rfl, rfl⟩
  obtain ⟨d0, d1, d2, d3, d4, d5⟩ := drow HD1.out.row
  have q1 : W.cell? ⟨kd, 0, none⟩ = some (.pointer (some ⟨p, 0, none⟩)) := Hd1.out.cell 0
  have q2 : W.cell? ⟨ks, 0, none⟩ = some (.string s) := Hs1.out.cell 0
  have q3 : W.cell? ⟨kb, 0, none⟩ = some (.slice (some A) bs.length c) := Hb1.out.cell 0
  rw [← HU.out] at d1
  have hwr2 : IntKind.i64.wrap ((d.room : Int) - (U : Int)) = (d.room : Int) - (U : Int) := IntWalk.i64_in _ (by omega)
  have hlq := fun k => length_quiet HD1.out.row HD1.out.map HD1.out.files s hs k
  rw [← HLe.out] at hlq
  have HLq := Lib.hid hlq; clear hlq
  go_wp2_with fail
  have hwr : IntKind.i64.wrap (8388608 - (L : Int)) = 8388608 - (L : Int) := IntWalk.i64_in _ (by omega)
  go_quiet ((go_at_call 36; exact HLq.out _))
  obtain ⟨n1, hn1⟩ : ∃ n1, n1 = nq := ⟨_, rfl⟩
  rw [← hn1]
  clear hn1
  go_wp2_with fail
  go_quiet (fail)
  try simp only [World.drewN_drewN]
  have hD2 : DiskAt (W.drewN (n1 + nq)) p d F m g v := HD1.out.still (((Touch.refl _ _).drewN _))
  have hT2 : Touch (fun _ => False) w (W.drewN (n1 + nq)) := HT1.out.drewN _
  have hd2 : Row (W.drewN (n1 + nq)) kd TP [.pointer (some ⟨p, 0, none⟩)] := Hd1.out
  have hs2 : Row (W.drewN (n1 + nq)) ks TS [.string s] := Hs1.out
  have hb2 : Row (W.drewN (n1 + nq)) kb TB [.slice (some A) bs.length c] := Hb1.out
  have hB2 : Bytes (W.drewN (n1 + nq)) (some A) bs := bytes_touch HB.out hT2 (by simp)
  generalize W.drewN (n1 + nq) = W2 at *
  have hnk : ¬ F kd ∧ ¬ F ks ∧ ¬ F kb ∧ (0 < bs.length → ¬ F A.block) := by
    refine ⟨fun e => ?_, fun e => ?_, fun e => ?_, HFA.out⟩
    · have := HFb.out _ e; rw [Hkd.out] at this; omega
    · have := HFb.out _ e; rw [Hks.out] at this; omega
    · have := HFb.out _ e; rw [Hkb.out] at this; omega
  obtain ⟨ho, hs1, hs2'⟩ := HO.out
  have hg := deed_gone_append (w := W2) #[.pointer (some ⟨kd, 0, none⟩), .pointer (some ⟨ks, 0, none⟩), .pointer (some ⟨kb, 0, none⟩)] (by have := hD2.row; rw [hfu] at this; exact this) hd
  have k1 : W2.cell? ⟨kd, 0, none⟩ = some (.pointer (some ⟨p, 0, none⟩)) := hd2.cell 0
  have HG := Lib.hid hg; have HD2 := Lib.hid hD2; have HT2 := Lib.hid hT2; have Hd2 := Lib.hid hd2; have Hs2 := Lib.hid hs2; have Hb2 := Lib.hid hb2; have HB2 := Lib.hid hB2; have HNK := Lib.hid hnk; have Hlim0 := Lib.hid hlim0.out
  have HHO := Lib.hid ho; have HFU := Lib.hid hfu
  clear hg hD2 hT2 hd2 hs2 hb2 hB2 hnk hlim0 ho hfu d0 d1 d2 d3 d4 d5 q1 q2 q3 hwr hwr2
  go_wp2_with fail
  refine (HG.out).mono ?_; rintro e w3 ⟨rfl, hr3, ht3, hz3⟩
  have hne : ∀ k t l, Row W2 k t l → t ≠ TD → k ≠ p := fun k t l hk ht => hk.apart HD2.out.row ht
  have hheld : Held w3 F p m d.fs g v := HD2.out.held.own HD2.out.row ht3
  have hap := append1_any (w := w3) (r := d.room) (u := usedF d.fs) (dd := d.deeds + 1) (f := 0) (o := true) hr3 hheld kd ks kb s A bs c (Hd2.out.touch ht3 (hne _ _ _ Hd2.out (by decide))) (Hs2.out.touch ht3 (hne _ _ _ Hs2.out (by decide))) (Hb2.out.touch ht3 (hne _ _ _ Hb2.out (by decide)))
    (bytes_touch HB2.out ht3 (fun h0 e => HNK.out.2.2.2 h0 (e ▸ HD2.out.memp))) HNK.out ⟨hs1, hs2'⟩ (by have := HD2.out.few; omega) Hlim0.out (by rw [← HU.out]; omega)
  have HAP := Lib.hid hap; have HT3 := Lib.hid ht3; have HZ3 := Lib.hid hz3
  clear hap ht3 hz3 hr3 hheld hne k1
  go_wp2_with fail
  refine (HAP.out).mono ?_; rintro e w4 ⟨rfl, happ⟩
  have HA4 := Lib.hid happ; clear happ
  go_wp2_with fail
  go_ret
  obtain ⟨hdk, ht4⟩ := HA4.out.disk HD2.out.ok.sort (by rw [← HU.out]; omega) hro (by have := HD2.out.few; omega) (by omega)
  have h23 : Touch F W2 w3 := HT3.out.mono (by rintro i rfl; exact HD2.out.memp)
  have hsz : w.heap.size ≤ w3.heap.size := Nat.le_trans HT2.out.size h23.size
  exact ⟨rfl, hdk.mono (Ext.from hsz), (HT2.out.frow h23).trans ht4⟩
set_option maxRecDepth 100000 in
set_option maxHeartbeats 2000000 in
theorem append_well (h : DiskAt w p d F m g v) (hFb : ∀ k, F k → k < w.heap.size) (s : ByteArray) (A : Addr) (bs : List Nat) (c : Nat) (hB : Bytes w (some A) bs) (hFA : 0 < bs.length → ¬ F A.block) (hs : s.size ≤ 9223372036854775807) (hb : bs.length ≤ 1000000000) (hd : d.deeds ≤ 1000000000)
    (hlk : lookE d.off [s] = 0) (hlim : lenF s.data.toList d.fs + bs.length ≤ 8388608) (hfull : usedF d.fs + bs.length ≤ d.room) (hfu : d.fuse ≠ 1) :
    Calls Try.prog 14 #[.pointer (some ⟨p, 0, none⟩), .string s, .slice (some A) bs.length c] w fun e w' => e = .returned (.int .i64 0) ∧ IsDisk w' p ⟨d.room, appendF s.data.toList bs d.fs, d.deeds + 1, d.off, d.fuse - 1⟩ (Ext F w w') ∧ Touch F w w' := by
  obtain ⟨L, hL⟩ : ∃ L, L = lenF s.data.toList d.fs := ⟨_, rfl⟩
  have hlim0 := Lib.hid hlim
  rw [← hL] at hlim
  obtain ⟨U, hU⟩ : ∃ U, U = usedF d.fs := ⟨_, rfl⟩
  have hu := h.used; have hro := h.room
  rw [← hU] at hu hfull
  have hok := lookE_ok hlk
  have HH := Lib.hid h; have HL := Lib.hid hlk; have HLe := Lib.hid hL; have HU := Lib.hid hU; have HB := Lib.hid hB; have HFA := Lib.hid hFA; have HFb := Lib.hid hFb; have HO := Lib.hid hok
  clear h hlk hL hU hB hFA hFb hok
  have hbx := boxes4 w TP TS TB TS [.pointer (some ⟨p, 0, none⟩)] [.string s] [.slice (some A) bs.length c] [.string s]
  go_enter Try.func14, Try.ntmps14
  go_wp2_with fail
  obtain ⟨kd, hkd⟩ : ∃ kd, kd = w.heap.size := ⟨_, rfl⟩
  obtain ⟨ks, hks⟩ : ∃ ks, ks = w.heap.size + 1 := ⟨_, rfl⟩
  obtain ⟨kb, hkb⟩ : ∃ kb, kb = w.heap.size + 1 + 1 := ⟨_, rfl⟩
  obtain ⟨kn, hkn⟩ : ∃ kn, kn = w.heap.size + 1 + 1 + 1 := ⟨_, rfl⟩
  rw [← hkn, ← hkb, ← hks, ← hkd]
  rw [← hkn, ← hkb, ← hks, ← hkd] at hbx
  generalize (((w.alloc (.cells #[.pointer (some ⟨p, 0, none⟩)] TP)).alloc (.cells #[.string s] TS)).alloc (.cells #[.slice (some A) bs.length c] TB)).alloc (.cells #[.string s] TS) = W at hbx ⊢
  obtain ⟨hd1, hs1, hb1, hn1, ht1, hz1⟩ := hbx
  have hD1 := HH.out.still ht1
  have hlook := look_any hD1.row kn [s] [] hn1 1 (by simp) (by simp) (by simpa using hs)
  have HLk := Lib.hid hlook; have HD1 := Lib.hid hD1; have Hd1 := Lib.hid hd1; have Hs1 := Lib.hid hs1; have Hb1 := Lib.hid hb1; have HT1 := Lib.hid ht1; have HZ1 := Lib.hid hz1
  have Hkd := Lib.hid hkd; have Hks := Lib.hid hks; have Hkb := Lib.hid hkb
  clear hlook hD1 hd1 hs1 hb1 hn1 ht1 hz1 hkd hks hkb hkn
  have e0 := HLk.out
  rw [HL.out] at e0
  have HLk0 := Lib.hid e0; clear e0
  refine (HLk0.out).mono ?_; rintro e w1 ⟨rfl, rfl⟩
  obtain ⟨d0, d1, d2, d3, d4, d5⟩ := drow HD1.out.row
  have q1 : W.cell? ⟨kd, 0, none⟩ = some (.pointer (some ⟨p, 0, none⟩)) := Hd1.out.cell 0
  have q2 : W.cell? ⟨ks, 0, none⟩ = some (.string s) := Hs1.out.cell 0
  have q3 : W.cell? ⟨kb, 0, none⟩ = some (.slice (some A) bs.length c) := Hb1.out.cell 0
  rw [← HU.out] at d1
  have hwr2 : IntKind.i64.wrap ((d.room : Int) - (U : Int)) = (d.room : Int) - (U : Int) := IntWalk.i64_in _ (by omega)
  have hlq := fun k => length_quiet HD1.out.row HD1.out.map HD1.out.files s hs k
  rw [← HLe.out] at hlq
  have HLq := Lib.hid hlq; clear hlq
  go_wp2_with fail
  have hwr : IntKind.i64.wrap (8388608 - (L : Int)) = 8388608 - (L : Int) := IntWalk.i64_in _ (by omega)
  go_quiet ((go_at_call 36; exact HLq.out _))
  obtain ⟨n1, hn1⟩ : ∃ n1, n1 = nq := ⟨_, rfl⟩
  rw [← hn1]
  clear hn1
  go_wp2_with fail
  go_quiet (fail)
  try simp only [World.drewN_drewN]
  have hD2 : DiskAt (W.drewN (n1 + nq)) p d F m g v := HD1.out.still (((Touch.refl _ _).drewN _))
  have hT2 : Touch (fun _ => False) w (W.drewN (n1 + nq)) := HT1.out.drewN _
  have hd2 : Row (W.drewN (n1 + nq)) kd TP [.pointer (some ⟨p, 0, none⟩)] := Hd1.out
  have hs2 : Row (W.drewN (n1 + nq)) ks TS [.string s] := Hs1.out
  have hb2 : Row (W.drewN (n1 + nq)) kb TB [.slice (some A) bs.length c] := Hb1.out
  have hB2 : Bytes (W.drewN (n1 + nq)) (some A) bs := bytes_touch HB.out hT2 (by simp)
  generalize W.drewN (n1 + nq) = W2 at *
  have hnk : ¬ F kd ∧ ¬ F ks ∧ ¬ F kb ∧ (0 < bs.length → ¬ F A.block) := by
    refine ⟨fun e => ?_, fun e => ?_, fun e => ?_, HFA.out⟩
    · have := HFb.out _ e; rw [Hkd.out] at this; omega
    · have := HFb.out _ e; rw [Hks.out] at this; omega
    · have := HFb.out _ e; rw [Hkb.out] at this; omega
  obtain ⟨ho, hs1, hs2'⟩ := HO.out
  have hg := deed_well_append (w := W2) (Q := fun w' => ∃ w3, Counted W2 w3 p d.room (usedF d.fs) m d.deeds d.off d.fuse ∧ Appended F p d.room (usedF d.fs) (d.deeds + 1) (d.fuse - 1) d.off d.fs s.data.toList bs w3 w') #[.pointer (some ⟨kd, 0, none⟩), .pointer (some ⟨ks, 0, none⟩), .pointer (some ⟨kb, 0, none⟩)] hD2.row hd hfu hD2.fuse (by
    intro w3 hC
    have hne : ∀ k t l, Row W2 k t l → t ≠ TD → k ≠ p := fun k t l hk ht => hk.apart hD2.row ht
    have hheld : Held w3 F p m d.fs g v := hD2.held.own hD2.row hC.touch
    refine (append1_any (w := w3) (r := d.room) (u := usedF d.fs) (dd := d.deeds + 1) (f := d.fuse - 1) (o := d.off) hC.row hheld kd ks kb s A bs c (hd2.touch hC.touch (hne _ _ _ hd2 (by decide))) (hs2.touch hC.touch (hne _ _ _ hs2 (by decide))) (hb2.touch hC.touch (hne _ _ _ hb2 (by decide)))
      (bytes_touch hB2 hC.touch (fun h0 e => hnk.2.2.2 h0 (e ▸ hD2.memp))) hnk ⟨hs1, hs2'⟩ (by have := hD2.few; omega) hlim0.out (by rw [← HU.out]; omega)).mono ?_
    rintro e w4 ⟨rfl, hap⟩
    exact ⟨rfl, w3, hC, hap⟩)
  have k1 : W2.cell? ⟨kd, 0, none⟩ = some (.pointer (some ⟨p, 0, none⟩)) := hd2.cell 0
  have HG := Lib.hid hg; have HD2 := Lib.hid hD2; have HT2 := Lib.hid hT2; have HFU := Lib.hid hfu; have HHO := Lib.hid ho
  clear hg hD2 hT2 hd2 hs2 hb2 hB2 hnk hlim0 ho hfu d0 d1 d2 d3 d4 d5 q1 q2 q3 hwr hwr2
  go_wp2_with fail
  refine (HG.out).mono ?_; rintro e w4 ⟨rfl, w3, hC, hap⟩
  have HA4 := Lib.hid hap; have HC := Lib.hid hC; clear hap hC
  go_wp2_with fail
  go_ret
  obtain ⟨hdk, ht4⟩ := HA4.out.disk HD2.out.ok.sort (by rw [← HU.out]; omega) hro (by have := HD2.out.few; omega) (by have := HD2.out.fuse; omega)
  have h23 : Touch F W2 w3 := HC.out.touch.mono (by rintro i rfl; exact HD2.out.memp)
  have hsz : w.heap.size ≤ w3.heap.size := Nat.le_trans HT2.out.size h23.size
  exact ⟨rfl, hdk.mono (Ext.from hsz), (HT2.out.frow h23).trans ht4⟩
/-- Append, whatever it is told -/
theorem append_any (h : DiskAt w p d F m g v) (hFb : ∀ k, F k → k < w.heap.size) (s : ByteArray) (A : Addr) (bs : List Nat) (c : Nat) (hB : Bytes w (some A) bs) (hFA : 0 < bs.length → ¬ F A.block) (hs : s.size ≤ 9223372036854775807) (hb : bs.length ≤ 1000000000) (hd : d.deeds ≤ 1000000000) :
    Calls Try.prog 14 #[.pointer (some ⟨p, 0, none⟩), .string s, .slice (some A) bs.length c] w fun e w' => e = .returned (.int .i64 (appE d s bs.length)) ∧ IsDisk w' p (appD d s bs) (Ext F w w') ∧ Touch F w w' := by
  have back : ∀ w', DiskAt w' p d F m g v ∧ Touch (fun _ => False) w w' → IsDisk w' p d (Ext F w w') ∧ Touch F w w' := fun w' h => ⟨⟨m, g, v, h.1.mono fun k hk => .inl hk⟩, h.2.false⟩
  unfold appE appD
  by_cases hlk : lookE d.off [s] = 0
  · simp only [hlk, ne_eq, not_true_eq_false, if_false]
    by_cases hlim : 8388608 < lenF s.data.toList d.fs + bs.length
    · simp only [if_pos hlim]
      exact (append_limit h s A bs c hs hb hlk hlim).mono fun e w' ⟨he, hw⟩ => ⟨he, back w' hw⟩
    · simp only [if_neg hlim]
      by_cases hfull : d.room < usedF d.fs + bs.length
      · simp only [if_pos hfull]
        exact (append_full h s A bs c hs hb hlk (by omega) hfull).mono fun e w' ⟨he, hw⟩ => ⟨he, back w' hw⟩
      · simp only [if_neg hfull]
        by_cases hfu : d.fuse = 1
        · simp only [DM.tick, if_pos hfu]
          exact append_gone h hFb s A bs c hB hFA hs hb hd hlk (by omega) (by omega) hfu
        · simp only [DM.tick, if_neg hfu]
          exact append_well h hFb s A bs c hB hFA hs hb hd hlk (by omega) (by omega) hfu
  · simp only [ne_eq, hlk, not_false_eq_true, if_true]
    exact (append_bad h s A bs c hs hlk).mono fun e w' ⟨he, hw⟩ => ⟨he, back w' hw⟩
end
end Go.Proofs.Ytiagoaaldpajmaa
namespace Go.Proofs.Ytiagoaaldpajmaa
open Go.ChangeShapes Go.WideShapes Go.ChangeAt Go.RowKit Go.BigFrame Go.Maps Go.Sort
set_option linter.unusedVariables false
section
variable {w w' : World} {F : Nat → Prop} {fs : Fs} {g : Nm → Nat} {v : Nm → Value} {n : Nm} {x y : Fil} {p r u dd f : Nat} {m : Option Nat} {o : Bool} {d : DM}
theorem settle_held (h : Row w p TD (dcells r u m dd o f)) (hH : Held w F p m fs g v) (hg : getF n fs = some x) (k : Nat) (hk : k ≤ x.b.length) (hu : x.b.length ≤ u) (hr : u ≤ 9223372036854775807) :
    Calls Try.prog 53 #[.pointer (some ⟨p, 0, none⟩), .pointer (some ⟨g n, 0, none⟩), .int .i64 (k : Nat)] w fun e w' => e = .returned (.tuple #[]) ∧
      ∃ v', Row w' p TD (dcells r (u - (x.b.length - k)) m dd o f) ∧ Held w' (Ext F w w') p m (putF n (cutF x k) fs) g v' ∧ Touch F w w' := by
  have hx := hH.files.at_ _ _ hg
  refine (settle_any h hx k hk hu hr).mono ?_
  rintro e w' ⟨rfl, hr', ht, v', hf', hv'⟩
  have hG : ∀ a z, getF a fs = some z → a ≠ n → ¬ (fun i => i = p ∨ i = g n) (g a) ∧ ∀ i, (v a).ownBlock = some i → ¬ (fun i => i = p ∨ i = g n) i := by
    intro a z hz ha
    have hpm := hH.files.pm h hH.map hz
    refine ⟨?_, fun i hi => ?_⟩
    · rintro (e | e)
      · exact hpm.1 (.inl e)
      · exact hH.files.apart a n z x hz hg ha e
    · rintro (e | e)
      · exact hpm.2 i hi (.inl e)
      · exact own_ne (hH.files.at_ a z hz).own hi (e ▸ hx.row) (by decide)
  have hfs := hH.files.change hg ht hG hf' (fun i hi => .inl (by rw [← hv']; exact hi))
  have hM : MapAt w' m (putF n (cutF x k) fs) g := by
    refine MapAt.keep (hH.map.touch ht ?_) hH.ok.sort hg
    rintro b rfl (e | e)
    · exact hH.map.ne_row h e
    · exact hH.map.ne_row hx.row e
  have hl := hH.ok.len _ _ hg
  refine ⟨rfl, _, hr', ⟨hM, hfs, hH.ok.keys hg (by simp [cutF]; omega) (by simp [cutF]; omega), .inl hH.memp, fun b hb => .inl (hH.memm b hb)⟩, ht.mono ?_⟩
  rintro i (e | e)
  · exact e ▸ hH.memp
  · exact e ▸ hH.files.mem _ _ hg
theorem drop_held (h : Row w p TD (dcells r u m dd o f)) (hH : Held w F p m fs g v) (s : ByteArray) (hs : s.size ≤ 9223372036854775807) (hu : lenF s.data.toList fs ≤ u) (hr : u ≤ 9223372036854775807) :
    Calls Try.prog 43 #[.pointer (some ⟨p, 0, none⟩), .string s] w fun e w' => e = .returned (.tuple #[]) ∧
      Row w' p TD (dcells r (u - lenF s.data.toList fs) m dd o f) ∧ Held w' F p m (delF s.data.toList fs) g v ∧ Touch F w w' ∧ FilesAt w' F fs g v := by
  refine (drop_any h hH.map hH.files hH.ok.sort s hs hu hr).mono ?_
  rintro e w' ⟨rfl, hr', hM', ht⟩
  have hst : FilesAt w' F fs g v := hH.files.stay ht fun a z hz => hH.files.pm h hH.map hz
  refine ⟨rfl, hr', ⟨hM', hst.less, hH.ok.drop, hH.memp, hH.memm⟩, ht.mono ?_, hst⟩
  rintro i (e | e)
  · exact e ▸ hH.memp
  · exact hH.memm i e
theorem lenF_some (h : getF n fs = some x) : lenF n fs = x.b.length := by simp [lenF, h]
theorem usedF_cut (hS : SortF fs) (hg : getF n fs = some x) {k : Nat} (hk : k ≤ x.b.length) : usedF (putF n (cutF x k) fs) = usedF fs - (x.b.length - k) := by
  have h1 := usedF_put (n := n) (f := cutF x k) hS
  rw [lenF_some hg] at h1
  have h2 := lenF_le (n := n) hS
  rw [lenF_some hg] at h2
  have h3 : (cutF x k).b.length = k := by simp [cutF]; omega
  omega
end
end Go.Proofs.Ytiagoaaldpajmaa
namespace Go.Proofs.Ytiagoaaldpajmaa
open Go.ChangeShapes Go.WideShapes Go.ChangeAt Go.RowKit Go.BigFrame Go.Maps Go.Sort
set_option linter.unusedVariables false
abbrev TPF : TypeId := 70
/-- a deed that the power lets be, or not -/
def DM.deed (d : DM) (fs : Fs) : DM := if d.fuse = 1 then ⟨d.room, d.fs, d.deeds + 1, true, 0⟩ else ⟨d.room, fs, d.deeds + 1, d.off, d.fuse - 1⟩
def deedE (d : DM) : Int := if d.fuse = 1 then 30 else 0
/-- what forbids a call that wants a file -/
def findE (d : DM) (s : ByteArray) (ns : List ByteArray) : Int := if lookE d.off (s :: ns) ≠ 0 then lookE d.off (s :: ns) else noneE d.fs s.data.toList
/-- what a deed that settles leaves -/
def Left (F : Nat → Prop) (p r u dd f : Nat) (o : Bool) (m : Option Nat) (fs : Fs) (g : Nm → Nat) (w w' : World) : Prop := ∃ v', Row w' p TD (dcells r u m dd o f) ∧ Held w' (Ext F w w') p m fs g v' ∧ Touch F w w'
def Settled (W : World) (P : World → Prop) (b : Bool) (w : World) : Prop := match b with | true => P w | false => w = W.drew
section
variable {w w' : World} {F : Nat → Prop} {fs : Fs} {g : Nm → Nat} {v : Nm → Value} {n : Nm} {x y : Fil} {p r u dd f : Nat} {m : Option Nat} {o : Bool} {d : DM}
/-- find, whatever it is told -/
theorem find_any (h : DiskAt w p d F m g v) (nb : Nat) (s : ByteArray) (ns : List ByteArray) (hn : Row w nb 9 ((s :: ns).map Value.string)) (c : Nat) (hc : (s :: ns).length ≤ c) (hl : (s :: ns).length ≤ 1000) (hs : ∀ x ∈ s :: ns, x.size ≤ 9223372036854775807) :
    Calls Try.prog 41 #[.pointer (some ⟨p, 0, none⟩), .slice (some ⟨nb, 0, none⟩) (s :: ns).length c] w fun e w' => ∃ a, e = .returned (.tuple #[.pointer a, .int .i64 (findE d s ns)]) ∧ (findE d s ns = 0 → ∃ x, getF s.data.toList d.fs = some x ∧ a = some ⟨g s.data.toList, 0, none⟩) ∧ ∃ k, w' = w.drewN k := by
  unfold findE
  have hn' : Row w nb 9 ((s :: ns).map Value.string ++ []) := by simpa using hn
  by_cases hb : lookE d.off (s :: ns) = 0
  · rw [if_neg (by simpa using hb)]
    refine (find_ok h.row h.map nb s ns [] hn' c hc hl hs hb).mono ?_
    rintro e w' ⟨rfl, hw⟩
    refine ⟨_, rfl, fun h0 => ?_, hw⟩
    cases hg : getF s.data.toList d.fs with
    | none => simp [noneE, hg] at h0
    | some x => exact ⟨x, rfl, ptrOf_some hg⟩
  · rw [if_pos hb]
    refine (find_bad h.row nb (s :: ns) [] hn' c hc hl hs hb).mono ?_
    rintro e w' ⟨rfl, rfl⟩
    exact ⟨_, rfl, fun h0 => absurd h0 hb, 0, rfl⟩
theorem findE_zero {s : ByteArray} {ns : List ByteArray} (h : findE d s ns = 0) : lookE d.off (s :: ns) = 0 := by
  unfold findE at h
  by_cases hb : lookE d.off (s :: ns) = 0
  · exact hb
  · rw [if_pos hb] at h; exact absurd h hb
set_option maxRecDepth 100000 in
set_option maxHeartbeats 2000000 in
theorem sync1_any (h : Row w p TD (dcells r u m dd o f)) (hH : Held w F p m fs g v) (kd kf : Nat) (bd : Row w kd TP [.pointer (some ⟨p, 0, none⟩)]) (bf : Row w kf TPF [.pointer (some ⟨g n, 0, none⟩)]) (hg : getF n fs = some x) (hu : x.b.length ≤ u) (hr : u ≤ 9223372036854775807) :
    Calls Try.prog 52 #[.pointer (some ⟨kd, 0, none⟩), .pointer (some ⟨kf, 0, none⟩)] w fun e w' => e = .returned (.tuple #[]) ∧
      Left F p r u dd f o m (putF n (cutF x x.b.length) fs) g w w' := by
  have hx := hH.files.at_ _ _ hg
  obtain ⟨k0, k1, k2⟩ := frow hx
  obtain ⟨A, c, hv, hc, hcm⟩ := fslice hx
  rw [hv] at k0
  have c1 : w.cell? ⟨kd, 0, none⟩ = some (.pointer (some ⟨p, 0, none⟩)) := bd.cell 0
  have c2 : w.cell? ⟨kf, 0, none⟩ = some (.pointer (some ⟨g n, 0, none⟩)) := bf.cell 0
  have hset := settle_held (w := w.drew) h.drew (hH.touch (Touch.refl (fun _ => False) w).drew (by simp)) hg x.b.length (Nat.le_refl _) hu hr
  have HS := Lib.hid hset; have HV := Lib.hid hv
  clear hset hv hx hH h bd bf hg
  go_enter Try.func52, Try.ntmps52
  go_wp2_with fail
  refine Stage.wp_region (by kernel_rfl) (by kernel_rfl) (Stage.one 7 (Settled w (Left F p r u dd f o m (putF n (cutF x x.b.length) fs) g w))) (Stage.one_start (by simp) (show Settled w _ false w.drew from rfl)) ?_
  refine Stage.wpSt_reads 7 (fun w' => w' = w.drew) (by kernel_rfl) (Stage.one_before (by kernel_rfl)) ?_
  simp only [List.take_succ_cons, List.take_zero, List.drop_succ_cons, List.drop_zero]
  repeat (go_big_quiet_step (fail))
  refine wpQuiet_nil ?_
  refine Stage.wpSt_do (.tuple #[]) rfl (Stage.one_do ?_) ?_
  · intro w' hw
    have hw' : w' = w.drew := hw
    subst hw'
    refine Free.at_call _ _ rfl Try.func53 (by kernel_rfl) rfl [.pointer (some ⟨p, 0, none⟩), .pointer (some ⟨g n, 0, none⟩), .int .i64 (x.b.length : Nat)] rfl ?_
    refine (HS.out).mono ?_
    rintro e w'' ⟨rfl, v', h1, h2, h3⟩
    rw [show u - (x.b.length - x.b.length) = u by omega] at h1
    exact ⟨rfl, v', h1, h2, (Touch.refl F w).drew.trans h3⟩
  go_simp
  refine Stage.wpSt_nil (Stage.one_end ?_)
  intro w2 hw2
  have hw3 : Left F p r u dd f o m (putF n (cutF x x.b.length) fs) g w w2 := hw2
  have H2 := Lib.hid hw3; clear hw2 hw3
  go_wp2_with fail
  go_end0
  exact ⟨rfl, H2.out⟩
end
end Go.Proofs.Ytiagoaaldpajmaa
