/- Several texts in one: Sync2, Read1, Stay. -/
import Derived.Test.YtiagoaaldpajmaaVk
namespace Go.Proofs.Ytiagoaaldpajmaa
open Go.ChangeShapes Go.WideShapes Go.ChangeAt Go.RowKit Go.BigFrame Go.Maps Go.Sort
set_option linter.unusedVariables false
section
variable {w w' : World} {F : Nat → Prop} {fs : Fs} {g : Nm → Nat} {v : Nm → Value} {n : Nm} {x y : Fil} {p r u dd f : Nat} {m : Option Nat} {o : Bool} {d : DM}
theorem Left.disk {W1 : World} (h : Left F p r (usedF fs) dd f o m fs g w w') (hu : usedF fs ≤ r) (hr : r ≤ 9223372036854775807) (hl : fs.length ≤ dd) (hf : f ≤ 9223372036854775808) (hw : W1.heap.size ≤ w.heap.size) (ht : Touch F W1 w) :
    IsDisk w' p ⟨r, fs, dd, o, f⟩ (Ext F W1 w') ∧ Touch F W1 w' := by
  obtain ⟨v', hrow, hH, h2⟩ := h
  exact ⟨IsDisk.mono ⟨m, g, v', ⟨hrow, hH.map, hH.files, hH.memp, hH.memm, hH.ok, hu, hr, hl, hf⟩⟩ (Ext.from hw), ht.trans h2⟩
theorem gone_disk {W1 : World} (h : DiskAt w p d F m g v) (hr : Row w' p TD (dcells d.room (usedF d.fs) m (d.deeds + 1) true 0)) (ht : Touch (· = p) w w') (h1 : Touch F W1 w) : IsDisk w' p ⟨d.room, d.fs, d.deeds + 1, true, 0⟩ (Ext F W1 w') ∧ Touch F W1 w' := by
  have hH := h.held.own h.row ht
  refine ⟨⟨m, g, v, ⟨hr, hH.map, hH.files.mono fun k hk => .inl hk, .inl hH.memp, fun b hb => .inl (hH.memm b hb), hH.ok, h.used, h.room, by have := h.few; exact Nat.le_succ_of_le this, by simp⟩⟩, h1.trans (ht.mono ?_)⟩
  rintro i rfl; exact h.memp

set_option maxRecDepth 100000 in
set_option maxHeartbeats 2000000 in
theorem sync_bad (h : DiskAt w p d F m g v) (s : ByteArray) (hs : s.size ≤ 9223372036854775807) (hE : findE d s [] ≠ 0) :
    Calls Try.prog 20 #[.pointer (some ⟨p, 0, none⟩), .string s] w fun e w' => e = .returned (.int .i64 (findE d s [])) ∧ DiskAt w' p d F m g v ∧ Touch (fun _ => False) w w' := by
  have hl2 : (findE d s [] != 0) = true := by simpa using hE
  have HH := Lib.hid h; clear h hE
  have hbx := boxes2 w TP TS [.pointer (some ⟨p, 0, none⟩)] [.string s]
  go_enter Try.func20, Try.ntmps20
  go_wp2_with fail
  obtain ⟨kd, hkd⟩ : ∃ kd, kd = w.heap.size := ⟨_, rfl⟩
  obtain ⟨kn, hkn⟩ : ∃ kn, kn = w.heap.size + 1 := ⟨_, rfl⟩
  rw [← hkn, ← hkd]
  rw [← hkn, ← hkd] at hbx
  generalize (w.alloc (.cells #[.pointer (some ⟨p, 0, none⟩)] TP)).alloc (.cells #[.string s] TS) = W at hbx ⊢
  obtain ⟨hd1, hn1, ht1, hz1⟩ := hbx
  have hD1 := HH.out.still ht1
  have hfi := find_any hD1 kn s [] hn1 1 (by simp) (by simp) (by simpa using hs)
  have HFi := Lib.hid hfi; have HD1 := Lib.hid hD1; have Hd1 := Lib.hid hd1; have HT1 := Lib.hid ht1; have HZ1 := Lib.hid hz1
  have Hkd := Lib.hid hkd; have Hkn := Lib.hid hkn
  clear hfi hD1 hd1 hn1 ht1 hz1 hkd hkn
  refine (HFi.out).mono ?_
  rintro e w1 ⟨a, rfl, ha, k, rfl⟩
  have hT2 : Touch (fun _ => False) w (W.drewN k) := HT1.out.drewN k
  have hD2 : DiskAt (W.drewN k) p d F m g v := HD1.out.still ((Touch.refl _ _).drewN k)
  have hd2 : Row (W.drewN k) kd TP [.pointer (some ⟨p, 0, none⟩)] := Hd1.out
  generalize W.drewN k = W1 at hT2 hD2 hd2 ⊢
  have HT2 := Lib.hid hT2; have HD2 := Lib.hid hD2; have Hd2 := Lib.hid hd2; clear hT2 hD2 hd2
  have HA := Lib.hid ha; clear ha
  go_wp2_with fail
  go_ret
  exact ⟨rfl, HD2.out.still ((Touch.refl _ _).alloc _), HT2.out.alloc _⟩
set_option maxRecDepth 100000 in
set_option maxHeartbeats 2000000 in
theorem sync_gone (h : DiskAt w p d F m g v) (s : ByteArray) (hs : s.size ≤ 9223372036854775807) (hE : findE d s [] = 0) (hfu : d.fuse = 1) (hd : d.deeds ≤ 1000000000) :
    Calls Try.prog 20 #[.pointer (some ⟨p, 0, none⟩), .string s] w fun e w' => e = .returned (.int .i64 30) ∧ IsDisk w' p ⟨d.room, d.fs, d.deeds + 1, true, 0⟩ (Ext F w w') ∧ Touch F w w' := by
  have HH := Lib.hid h; have HE := Lib.hid hE; have HFU := Lib.hid hfu; clear h hE hfu
  have hbx := boxes2 w TP TS [.pointer (some ⟨p, 0, none⟩)] [.string s]
  go_enter Try.func20, Try.ntmps20
  go_wp2_with fail
  obtain ⟨kd, hkd⟩ : ∃ kd, kd = w.heap.size := ⟨_, rfl⟩
  obtain ⟨kn, hkn⟩ : ∃ kn, kn = w.heap.size + 1 := ⟨_, rfl⟩
  rw [← hkn, ← hkd]
  rw [← hkn, ← hkd] at hbx
  generalize (w.alloc (.cells #[.pointer (some ⟨p, 0, none⟩)] TP)).alloc (.cells #[.string s] TS) = W at hbx ⊢
  obtain ⟨hd1, hn1, ht1, hz1⟩ := hbx
  have hD1 := HH.out.still ht1
  have hfi := find_any hD1 kn s [] hn1 1 (by simp) (by simp) (by simpa using hs)
  have HFi := Lib.hid hfi; have HD1 := Lib.hid hD1; have Hd1 := Lib.hid hd1; have HT1 := Lib.hid ht1; have HZ1 := Lib.hid hz1
  have Hkd := Lib.hid hkd; have Hkn := Lib.hid hkn
  clear hfi hD1 hd1 hn1 ht1 hz1 hkd hkn
  have e0 := HFi.out
  rw [HE.out] at e0
  have HFi0 := Lib.hid e0; clear e0
  refine (HFi0.out).mono ?_
  rintro e w1 ⟨a, rfl, ha, k, rfl⟩
  have hT2 : Touch (fun _ => False) w (W.drewN k) := HT1.out.drewN k
  have hD2 : DiskAt (W.drewN k) p d F m g v := HD1.out.still ((Touch.refl _ _).drewN k)
  have hd2 : Row (W.drewN k) kd TP [.pointer (some ⟨p, 0, none⟩)] := Hd1.out
  generalize W.drewN k = W1 at hT2 hD2 hd2 ⊢
  have HT2 := Lib.hid hT2; have HD2 := Lib.hid hD2; have Hd2 := Lib.hid hd2; clear hT2 hD2 hd2
  obtain ⟨x, hx, rfl⟩ := ha rfl
  have HX := Lib.hid hx; clear ha hx
  have q1 : W1.cell? ⟨kd, 0, none⟩ = some (.pointer (some ⟨p, 0, none⟩)) := Hd2.out.cell 0
  have q2 : kd < W1.heap.size := Hd2.out.lt
  go_wp2_with fail
  have hkf : Row (W1.alloc (.cells #[.pointer (some ⟨g s.data.toList, 0, none⟩)] TPF)) W1.heap.size TPF [.pointer (some ⟨g s.data.toList, 0, none⟩)] := Row.made W1 TPF _
  have hd3 : Row (W1.alloc (.cells #[.pointer (some ⟨g s.data.toList, 0, none⟩)] TPF)) kd TP [.pointer (some ⟨p, 0, none⟩)] := Hd2.out.alloc _
  have hT3 : Touch (fun _ => False) w (W1.alloc (.cells #[.pointer (some ⟨g s.data.toList, 0, none⟩)] TPF)) := HT2.out.alloc _
  have hD3 : DiskAt (W1.alloc (.cells #[.pointer (some ⟨g s.data.toList, 0, none⟩)] TPF)) p d F m g v := HD2.out.still ((Touch.refl _ _).alloc _)
  generalize W1.alloc (.cells #[.pointer (some ⟨g s.data.toList, 0, none⟩)] TPF) = W2 at *
  have hg := deed_gone_sync (w := W2) #[.pointer (some ⟨kd, 0, none⟩), .pointer (some ⟨W1.heap.size, 0, none⟩)] (by have := hD3.row; rw [HFU.out] at this; exact this) hd
  have HG := Lib.hid hg; have HD3 := Lib.hid hD3; have HT3 := Lib.hid hT3; clear hg hD3 hT3 hd3 hkf
  refine (HG.out).mono ?_; rintro e w3 ⟨rfl, hr3, ht3, hz3⟩
  have H3 := Lib.hid (gone_disk HD3.out hr3 ht3 HT3.out.false); clear hr3 ht3 hz3
  go_wp2_with fail
  go_ret
  exact ⟨rfl, H3.out⟩
set_option maxRecDepth 100000 in
set_option maxHeartbeats 2000000 in
theorem sync_well (h : DiskAt w p d F m g v) (s : ByteArray) (hs : s.size ≤ 9223372036854775807) (hFb : ∀ k, F k → k < w.heap.size) (hE : findE d s [] = 0) (hfu : d.fuse ≠ 1) (hd : d.deeds ≤ 1000000000) {x : Fil} (hgx : getF s.data.toList d.fs = some x) :
    Calls Try.prog 20 #[.pointer (some ⟨p, 0, none⟩), .string s] w fun e w' => e = .returned (.int .i64 0) ∧ IsDisk w' p ⟨d.room, putF s.data.toList (cutF x x.b.length) d.fs, d.deeds + 1, d.off, d.fuse - 1⟩ (Ext F w w') ∧ Touch F w w' := by
  have HH := Lib.hid h; have HE := Lib.hid hE; have HFU := Lib.hid hfu; have HGX := Lib.hid hgx; have HFb := Lib.hid hFb; clear h hE hfu hgx hFb
  have hbx := boxes2 w TP TS [.pointer (some ⟨p, 0, none⟩)] [.string s]
  go_enter Try.func20, Try.ntmps20
  go_wp2_with fail
  obtain ⟨kd, hkd⟩ : ∃ kd, kd = w.heap.size := ⟨_, rfl⟩
  obtain ⟨kn, hkn⟩ : ∃ kn, kn = w.heap.size + 1 := ⟨_, rfl⟩
  rw [← hkn, ← hkd]
  rw [← hkn, ← hkd] at hbx
  generalize (w.alloc (.cells #[.pointer (some ⟨p, 0, none⟩)] TP)).alloc (.cells #[.string s] TS) = W at hbx ⊢
  obtain ⟨hd1, hn1, ht1, hz1⟩ := hbx
  have hD1 := HH.out.still ht1
  have hfi := find_any hD1 kn s [] hn1 1 (by simp) (by simp) (by simpa using hs)
  have HFi := Lib.hid hfi; have HD1 := Lib.hid hD1; have Hd1 := Lib.hid hd1; have HT1 := Lib.hid ht1; have HZ1 := Lib.hid hz1
  have Hkd := Lib.hid hkd; have Hkn := Lib.hid hkn
  clear hfi hD1 hd1 hn1 ht1 hz1 hkd hkn
  have e0 := HFi.out
  rw [HE.out] at e0
  have HFi0 := Lib.hid e0; clear e0
  refine (HFi0.out).mono ?_
  rintro e w1 ⟨a, rfl, ha, k, rfl⟩
  have hT2 : Touch (fun _ => False) w (W.drewN k) := HT1.out.drewN k
  have hD2 : DiskAt (W.drewN k) p d F m g v := HD1.out.still ((Touch.refl _ _).drewN k)
  have hd2 : Row (W.drewN k) kd TP [.pointer (some ⟨p, 0, none⟩)] := Hd1.out
  generalize W.drewN k = W1 at hT2 hD2 hd2 ⊢
  have HT2 := Lib.hid hT2; have HD2 := Lib.hid hD2; have Hd2 := Lib.hid hd2; clear hT2 hD2 hd2
  obtain ⟨x2, hx, rfl⟩ := ha rfl
  have HX := Lib.hid hx; clear ha hx
  have q1 : W1.cell? ⟨kd, 0, none⟩ = some (.pointer (some ⟨p, 0, none⟩)) := Hd2.out.cell 0
  have q2 : kd < W1.heap.size := Hd2.out.lt
  go_wp2_with fail
  have hkf : Row (W1.alloc (.cells #[.pointer (some ⟨g s.data.toList, 0, none⟩)] TPF)) W1.heap.size TPF [.pointer (some ⟨g s.data.toList, 0, none⟩)] := Row.made W1 TPF _
  have hd3 : Row (W1.alloc (.cells #[.pointer (some ⟨g s.data.toList, 0, none⟩)] TPF)) kd TP [.pointer (some ⟨p, 0, none⟩)] := Hd2.out.alloc _
  have hT3 : Touch (fun _ => False) w (W1.alloc (.cells #[.pointer (some ⟨g s.data.toList, 0, none⟩)] TPF)) := HT2.out.alloc _
  have hD3 : DiskAt (W1.alloc (.cells #[.pointer (some ⟨g s.data.toList, 0, none⟩)] TPF)) p d F m g v := HD2.out.still ((Touch.refl _ _).alloc _)
  have hn1 : ¬ F kd := fun e => by have := HFb.out _ e; rw [Hkd.out] at this; omega
  generalize W1.alloc (.cells #[.pointer (some ⟨g s.data.toList, 0, none⟩)] TPF) = W2 at *
  have hxl : x.b.length ≤ usedF d.fs := by have := lenF_le (n := s.data.toList) HH.out.ok.sort; rw [lenF_some HGX.out] at this; exact this
  have hfu1 : usedF d.fs ≤ 9223372036854775807 := Nat.le_trans HH.out.used HH.out.room
  have hg := deed_well_sync (w := W2) (Q := fun w' => ∃ w3, Counted W2 w3 p d.room (usedF d.fs) m d.deeds d.off d.fuse ∧ Left F p d.room (usedF d.fs) (d.deeds + 1) (d.fuse - 1) d.off m (putF s.data.toList (cutF x x.b.length) d.fs) g w3 w') #[.pointer (some ⟨kd, 0, none⟩), .pointer (some ⟨W1.heap.size, 0, none⟩)] hD3.row hd HFU.out hD3.fuse (by
    intro w3 hC
    have hne : ∀ k t l, Row W2 k t l → t ≠ TD → k ≠ p := fun k t l hk ht => hk.apart hD3.row ht
    have hheld : Held w3 F p m d.fs g v := hD3.held.own hD3.row hC.touch
    refine (sync1_any hC.row hheld kd W1.heap.size (hd3.touch hC.touch (hne _ _ _ hd3 (by decide))) (hkf.touch hC.touch (hne _ _ _ hkf (by decide))) HGX.out hxl hfu1).mono ?_
    rintro e w4 ⟨rfl, hap⟩
    exact ⟨rfl, w3, hC, hap⟩)
  have HG := Lib.hid hg; have HD3 := Lib.hid hD3; have HT3 := Lib.hid hT3; clear hg hD3 hT3 hd3 hkf
  refine (HG.out).mono ?_; rintro e w4 ⟨rfl, w3, hC, hap⟩
  have HA4 := Lib.hid hap; have HC := Lib.hid hC; clear hap hC
  go_wp2_with fail
  go_ret
  have eu : usedF (putF s.data.toList (cutF x x.b.length) d.fs) = usedF d.fs := by rw [usedF_cut HH.out.ok.sort HGX.out (Nat.le_refl _)]; omega
  have hap := HA4.out
  rw [← eu] at hap
  have h23 : Touch F W2 w3 := HC.out.touch.mono (by rintro i rfl; exact HD3.out.memp)
  refine ⟨rfl, hap.disk (by rw [eu]; exact HH.out.used) HH.out.room ?_ (by have := HH.out.fuse; omega) (Nat.le_trans HT3.out.size h23.size) (HT3.out.frow h23)⟩
  have := putF_len_old (y := cutF x x.b.length) HGX.out; have := HH.out.few; omega
/-- what Sync makes of the files -/
def syncF (n : Nm) (fs : Fs) : Fs := match getF n fs with | some x => putF n (cutF x x.b.length) fs | none => fs
def syncE (d : DM) (s : ByteArray) : Int := if findE d s [] = 0 then deedE d else findE d s []
def syncD (d : DM) (s : ByteArray) : DM := if findE d s [] = 0 then d.deed (syncF s.data.toList d.fs) else d
theorem find_some {s : ByteArray} {ns : List ByteArray} (h : findE d s ns = 0) : ∃ x, getF s.data.toList d.fs = some x := by
  have h0 := findE_zero h
  unfold findE at h
  rw [if_neg (by simpa using h0)] at h
  cases hg : getF s.data.toList d.fs with
  | none => simp [noneE, hg] at h
  | some x => exact ⟨x, rfl⟩
/-- Sync, whatever it is told -/
theorem sync_any (h : DiskAt w p d F m g v) (s : ByteArray) (hs : s.size ≤ 9223372036854775807) (hFb : ∀ k, F k → k < w.heap.size) (hd : d.deeds ≤ 1000000000) :
    Calls Try.prog 20 #[.pointer (some ⟨p, 0, none⟩), .string s] w fun e w' => e = .returned (.int .i64 (syncE d s)) ∧ IsDisk w' p (syncD d s) (Ext F w w') ∧ Touch F w w' := by
  unfold syncE syncD
  by_cases hE : findE d s [] = 0
  · simp only [if_pos hE]
    obtain ⟨x, hx⟩ := find_some hE
    unfold deedE DM.deed
    by_cases hfu : d.fuse = 1
    · simp only [if_pos hfu]
      exact sync_gone h s hs hE hfu hd
    · simp only [if_neg hfu, syncF, hx]
      exact sync_well h s hs hFb hE hfu hd hx
  · simp only [if_neg hE]
    exact (sync_bad h s hs hE).mono fun e w' ⟨he, h1, h2⟩ => ⟨he, ⟨m, g, v, h1.mono fun k hk => .inl hk⟩, h2.false⟩
end
end Go.Proofs.Ytiagoaaldpajmaa
namespace Go.Proofs.Ytiagoaaldpajmaa
open Go.ChangeShapes Go.WideShapes Go.ChangeAt Go.RowKit Go.BigFrame Go.Maps Go.Sort
set_option linter.unusedVariables false
section
variable {w w' : World} {F : Nat → Prop} {fs : Fs} {g : Nm → Nat} {v : Nm → Value} {n : Nm} {x y : Fil} {p r u dd f : Nat} {m : Option Nat} {o : Bool} {d : DM}
/-- a copy of a file's bytes -/
theorem clone_any {V : Value} {b : List Nat} (hV : w.ownsRow 0 5 1 V b.length (u8s b)) (hb : b.length ≤ 8388608) :
    Calls Try.prog 34 #[V] w fun e w' => ∃ V', e = .returned V' ∧ w'.ownsRow w.heap.size 5 1 V' b.length (u8s b) ∧ Below w.heap.size w w' := by
  have hu : (b.map fun x : Nat => (x : Int)).map (Value.int .u8) = u8s b := by simp [u8s]
  obtain ⟨hlen, ⟨rfl, h0⟩ | ⟨k, cap, cur, rfl, hbg, hg, hnc, hcm, hcs, htake⟩⟩ := id hV
  · refine (Try.bytes_Clone_nil 0 0 w).mono ?_
    rintro e w' ⟨rfl, rfl⟩
    have hb0 : b = [] := List.eq_nil_of_length_eq_zero h0
    subst hb0
    exact ⟨_, rfl, World.ownsRow_nil _ _ _ _, Below.refl _ _⟩
  · refine (Try.bytes_Clone_at ⟨k, 0, none⟩ b.length cap (b.map fun x : Nat => (x : Int)) w (by simp) (by omega) ?_).mono ?_
    · intro i hi
      have h1 := hV.cells (g := k) rfl i (.int .u8 (b[i] : Nat)) (by rw [List.getElem?_map, List.getElem?_eq_getElem hi]; rfl)
      rw [h1]
      simp [List.getD_eq_getElem?_getD, hi]
    · rintro e w' ⟨V', rfl, hown, _, hbl⟩
      rw [hu] at hown
      exact ⟨V', rfl, hown, hbl⟩
/-- the bytes that a Read tells -/
def readB (d : DM) (s : ByteArray) : List Nat := if findE d s [] = 0 then match getF s.data.toList d.fs with | some x => x.b | none => [] else []
set_option maxRecDepth 100000 in
set_option maxHeartbeats 2000000 in
theorem read_any (h : DiskAt w p d F m g v) (s : ByteArray) (hs : s.size ≤ 9223372036854775807) :
    Calls Try.prog 21 #[.pointer (some ⟨p, 0, none⟩), .string s] w fun e w' => ∃ V, e = .returned (.tuple #[V, .int .i64 (findE d s [])]) ∧ w'.ownsRow w.heap.size 5 1 V (readB d s).length (u8s (readB d s)) ∧ DiskAt w' p d F m g v ∧ Below w.heap.size w w' := by
  have hn1 := Row.made w TS [.string s]
  have hb1 : Below w.heap.size w (w.alloc (.cells [Value.string s].toArray TS)) := (Below.refl _ _).alloc (Nat.le_refl _) _
  have hD1 := h.still (w' := w.alloc (.cells [Value.string s].toArray TS)) ((Touch.refl _ _).alloc _)
  have HH := Lib.hid h; clear h
  by_cases hE : findE d s [] = 0
  · obtain ⟨x, hx⟩ := find_some hE
    have hB : readB d s = x.b := by simp [readB, hE, hx]
    rw [hE, hB]
    have HE := Lib.hid hE; have HX := Lib.hid hx; clear hE hB hx
    go_enter Try.func21, Try.ntmps21
    go_wp2_with fail
    obtain ⟨kn, hkn⟩ : ∃ kn, kn = w.heap.size := ⟨_, rfl⟩
    rw [← hkn]
    rw [← hkn] at hn1 hb1
    generalize w.alloc (.cells #[.string s] TS) = W at hn1 hb1 hD1 ⊢
    have hfi := find_any hD1 kn s [] hn1 1 (by simp) (by simp) (by simpa using hs)
    rw [HE.out] at hfi
    have HFi := Lib.hid hfi; have HD1 := Lib.hid hD1; have HB1 := Lib.hid hb1; have Hkn := Lib.hid hkn
    clear hfi hD1 hn1 hb1 hkn
    refine (HFi.out).mono ?_; rintro e w1 ⟨a, rfl, ha, k, rfl⟩
    obtain ⟨x2, hx2, rfl⟩ := ha rfl
    obtain rfl : x2 = x := by rw [HX.out] at hx2; exact (Option.some.inj hx2).symm
    have hD2 : DiskAt (W.drewN k) p d F m g v := HD1.out.still ((Touch.refl _ _).drewN k)
    have hb2 : Below kn w (W.drewN k) := ⟨HB1.out.os, HB1.out.tape, HB1.out.output, HB1.out.size, HB1.out.block⟩
    generalize W.drewN k = W1 at hD2 hb2 ⊢
    have hf := hD2.files.at_ _ _ HX.out
    have hl8 := hD2.ok.len _ _ HX.out
    have hcl := clone_any hf.own hl8
    obtain ⟨k0, k1, k2⟩ := frow hf
    have HD2 := Lib.hid hD2; have HB2 := Lib.hid hb2; have HC := Lib.hid hcl
    obtain ⟨gb, hgb⟩ : ∃ gb, gb = g s.data.toList := ⟨_, rfl⟩
    obtain ⟨vb, hvb⟩ : ∃ vb, vb = v s.data.toList := ⟨_, rfl⟩
    rw [← hgb] at k0 ⊢
    rw [← hvb] at k0 HC
    obtain ⟨A, c, hv, hc1, hc2⟩ := fslice hf
    rw [← hvb] at hv
    subst hv
    clear hcl hD2 hb2 hf hx2 ha k1 k2 hgb hvb
    go_wp2_with fail
    refine (HC.out).mono ?_; rintro e w2 ⟨V', rfl, hown, hbl⟩
    have HO := Lib.hid hown; have HBl := Lib.hid hbl; clear hown hbl
    go_wp2_with fail
    go_ret2
    have hsz : w.heap.size ≤ W1.heap.size := HB2.out.size
    have e1 : kn = w.heap.size := Hkn.out
    refine ⟨V', rfl, ownsRow_base_a HO.out hsz, HD2.out.still (Touch.of_below HBl.out), ?_⟩
    have hb2 := HB2.out
    rw [e1] at hb2
    exact hb2.trans (HBl.out.mono hsz)
  · have hB : readB d s = [] := by simp [readB, hE]
    rw [hB]
    have hl2 : (findE d s [] != 0) = true := by simpa using hE
    have HE := Lib.hid hE; clear hE hB
    go_enter Try.func21, Try.ntmps21
    go_wp2_with fail
    obtain ⟨kn, hkn⟩ : ∃ kn, kn = w.heap.size := ⟨_, rfl⟩
    rw [← hkn]
    rw [← hkn] at hn1 hb1
    generalize w.alloc (.cells #[.string s] TS) = W at hn1 hb1 hD1 ⊢
    have hfi := find_any hD1 kn s [] hn1 1 (by simp) (by simp) (by simpa using hs)
    have HFi := Lib.hid hfi; have HD1 := Lib.hid hD1; have HB1 := Lib.hid hb1; have Hkn := Lib.hid hkn
    clear hfi hD1 hn1 hb1 hkn
    refine (HFi.out).mono ?_; rintro e w1 ⟨a, rfl, ha, k, rfl⟩
    clear ha
    go_wp2_with fail
    go_ret2
    have hb1 := HB1.out
    rw [Hkn.out] at hb1
    exact ⟨.slice none 0 0, rfl, World.ownsRow_nil _ _ _ _, HD1.out.still ((Touch.refl _ _).drewN k), ⟨hb1.os, hb1.tape, hb1.output, hb1.size, hb1.block⟩⟩
end
end Go.Proofs.Ytiagoaaldpajmaa
namespace Go.Proofs.Ytiagoaaldpajmaa
open Go.ChangeShapes Go.WideShapes Go.ChangeAt Go.RowKit Go.BigFrame Go.Maps Go.Sort
set_option linter.unusedVariables false
/-- how many bytes stay -/
def stayN (x : Fil) (wish : Int) : Nat := x.sure + (wish % ((x.b.length - x.sure : Nat) + 1)).toNat
def stay1 (x : Fil) (wish : Int) : Option Fil := if stayN x wish = 0 ∧ x.made = false then none else some (cutF x (stayN x wish))
def stayF (n : Nm) (wish : Int) (fs : Fs) : Fs := match getF n fs with
  | some x => (match stay1 x wish with | some y => putF n y fs | none => delF n fs)
  | none => fs
theorem stayN_le {x : Fil} {wish : Int} (h : x.sure ≤ x.b.length) : stayN x wish ≤ x.b.length := by
  unfold stayN
  have h1 := Int.emod_lt_of_pos wish (show 0 < (((x.b.length - x.sure : Nat) : Int) + 1) by omega)
  omega
section
variable {w w' : World} {F : Nat → Prop} {fs : Fs} {g : Nm → Nat} {v : Nm → Value} {n : Nm} {x y : Fil} {p r u dd f : Nat} {m : Option Nat} {o : Bool} {d : DM}
theorem left_quiet (a b : Int) (w : World) (hn : -9223372036854775808 ≤ a ∧ a ≤ 9223372036854775807) (hm : 1 ≤ b ∧ b ≤ 8388609) (k : Nat) :
    Calls Try.prog 67 #[.int .i64 a, .int .i64 b] (w.drewN k) fun e w' => e = .returned (.int .i64 (a % b)) ∧ ∃ j, w' = w.drewN j :=
  Calls.quiet_of_same ((left_any a b (w.drewN k) hn hm).mono fun _ _ ⟨he, hm⟩ => ⟨he, hm.symm⟩)
/-- what a call on a disk leaves, the disk's own numbers but for the files the same -/
def Kept (F : Nat → Prop) (p r dd f : Nat) (o : Bool) (m : Option Nat) (fs : Fs) (g : Nm → Nat) (w w' : World) : Prop := Left F p r (usedF fs) dd f o m fs g w w'
theorem Kept.drew {n1 : Nat} (h : Kept F p r dd f o m fs g (w.drewN n1) w') : Kept F p r dd f o m fs g w w' := by
  obtain ⟨v', h1, h2, h3⟩ := h
  exact ⟨v', h1, h2, ((Touch.refl F w).drewN n1).trans h3⟩
set_option maxRecDepth 100000 in
set_option maxHeartbeats 2000000 in
theorem stay_any (h : Row w p TD (dcells r (usedF fs) m dd o f)) (hH : Held w F p m fs g v) (s : ByteArray) (hs : s.size ≤ 9223372036854775807) (hg : getF s.data.toList fs = some x) (wish : Int) (hw : -9223372036854775808 ≤ wish ∧ wish ≤ 9223372036854775807) (hu : usedF fs ≤ 9223372036854775807) :
    Calls Try.prog 40 #[.pointer (some ⟨p, 0, none⟩), .string s, .int .i64 wish] w fun e w' => e = .returned (.tuple #[]) ∧ Kept F p r dd f o m (stayF s.data.toList wish fs) g w w' := by
  have hx := hH.files.at_ _ _ hg
  have hsu := hH.ok.sure _ _ hg
  have hl8 := hH.ok.len _ _ hg
  have hlu := lenF_le (n := s.data.toList) hH.ok.sort
  rw [lenF_some hg] at hlu
  obtain ⟨h0, h1, h2, h3, h4, h5⟩ := drow h
  obtain ⟨k0, k1, k2⟩ := frow hx
  obtain ⟨A, c, hv, hc, hcm⟩ := fslice hx
  rw [hv] at k0
  have hlk := lookup_run hH.map s hs
  rw [ptrOf_some hg] at hlk
  obtain ⟨D, hD⟩ : ∃ D, D = x.b.length - x.sure := ⟨_, rfl⟩
  have hNle := stayN_le (wish := wish) hsu
  obtain ⟨R, hR⟩ : ∃ R, R = (wish % ((D : Int) + 1)).toNat := ⟨_, rfl⟩
  have hRe : wish % ((D : Int) + 1) = (R : Int) := by have := Int.emod_nonneg wish (show ((D : Int) + 1) ≠ 0 by omega); omega
  obtain ⟨N, hN⟩ : ∃ N, N = stayN x wish := ⟨_, rfl⟩
  have hNs : N = x.sure + R := by rw [hN, hR, hD]; rfl
  rw [← hN] at hNle
  obtain ⟨L, hL⟩ : ∃ L, L = x.b.length := ⟨_, rfl⟩
  obtain ⟨S, hS⟩ : ∃ S, S = x.sure := ⟨_, rfl⟩
  rw [← hL] at hsu hl8 hlu hD hNle k0 hc
  rw [← hS] at hsu hD hNs k1
  have hq1 : IntKind.i64.wrap ((L : Int) - (S : Int)) = (D : Int) := by rw [IntWalk.i64_in _ (by omega)]; omega
  have hq2 : IntKind.i64.wrap ((D : Int) + 1) = (D : Int) + 1 := IntWalk.i64_in _ (by omega)
  have hq3 : IntKind.i64.wrap ((S : Int) + (R : Int)) = (N : Int) := by rw [IntWalk.i64_in _ (by omega)]; omega
  have hle := fun k => left_quiet wish ((D : Int) + 1) w hw (by omega) k
  rw [hRe] at hle
  have HLE := Lib.hid hle; have HH := Lib.hid hH; have HRow := Lib.hid h; have HG := Lib.hid hg
  have HN := Lib.hid hN; have HLx := Lib.hid hL; have HNle := Lib.hid hNle; have Hlu := Lib.hid hlu
  have hst : stay1 x wish = if N = 0 ∧ x.made = false then none else some (cutF x N) := by rw [hN]; rfl
  have hsF : stayF s.data.toList wish fs = if N = 0 ∧ x.made = false then delF s.data.toList fs else putF s.data.toList (cutF x N) fs := by
    unfold stayF; rw [hg]
    show (match stay1 x wish with | some y => putF s.data.toList y fs | none => delF s.data.toList fs) = _
    rw [hst]
    by_cases hh : N = 0 ∧ x.made = false
    · simp only [if_pos hh]
    · simp only [if_neg hh]
  have HSF := Lib.hid hsF
  obtain ⟨gb, hgb⟩ : ∃ gb, gb = g s.data.toList := ⟨_, rfl⟩
  have Hgb := Lib.hid hgb
  rw [← hgb] at k0 k1 k2 hlk
  clear hx hv hle hH h hg hst hsF hL hS hR hRe hN hD hgb hNs hNle hlu
  by_cases hdr : N = 0 ∧ x.made = false
  · have hdrop : ∀ k, Calls Try.prog 43 #[.pointer (some ⟨p, 0, none⟩), .string s] (w.drewN k) fun e w' => e = .returned (.tuple #[]) ∧ Row w' p TD (dcells r (usedF fs - lenF s.data.toList fs) m dd o f) ∧ Held w' F p m (delF s.data.toList fs) g v ∧ Touch F (w.drewN k) w' ∧ FilesAt w' F fs g v := fun k =>
      drop_held (w := w.drewN k) (HRow.out.drewN k) (HH.out.touch ((Touch.refl (fun _ => False) w).drewN k) (by simp)) s hs (by have := Hlu.out; rw [lenF_some HG.out, ← HLx.out]; omega) hu
    have HDrop := Lib.hid hdrop; clear hdrop
    have hsf : stayF s.data.toList wish fs = delF s.data.toList fs := by rw [HSF.out, if_pos hdr]
    have Hsf := Lib.hid hsf; clear hsf
    obtain ⟨hN0, hmd⟩ := hdr
    subst hN0
    rw [hmd] at k2
    go_enter Try.func40, Try.ntmps40
    go_wp2_with fail
    go_quiet ((go_at_call 67; exact HLE.out _))
    go_wp2_with fail
    refine (HDrop.out _).mono ?_; rintro e w2 ⟨rfl, h1', h2', h3', -⟩
    have H1 := Lib.hid h1'; have H2 := Lib.hid h2'; have H3 := Lib.hid h3'; clear h1' h2' h3'
    go_wp2_with fail
    refine bodyPost_ret (results_none rfl _ _ _) rfl ?_
    refine ⟨rfl, ?_⟩
    rw [Hsf.out]
    refine Kept.drew (n1 := nq) ⟨v, ?_, H2.out.mono fun k hk => .inl hk, H3.out⟩
    have e1 : usedF (delF s.data.toList fs) = usedF fs - lenF s.data.toList fs := by have := usedF_del (n := s.data.toList) HH.out.ok.sort; omega
    rw [e1]; exact H1.out
  · have hset : ∀ k, Calls Try.prog 53 #[.pointer (some ⟨p, 0, none⟩), .pointer (some ⟨gb, 0, none⟩), .int .i64 (N : Nat)] (w.drewN k) fun e w' => e = .returned (.tuple #[]) ∧ Left F p r (usedF fs - (x.b.length - N)) dd f o m (putF s.data.toList (cutF x N) fs) g (w.drewN k) w' := fun k => by
      have := settle_held (w := w.drewN k) (HRow.out.drewN k) (HH.out.touch ((Touch.refl (fun _ => False) w).drewN k) (by simp)) HG.out N (by rw [← HLx.out]; exact HNle.out) (by rw [← HLx.out]; exact Hlu.out) hu
      rw [← Hgb.out] at this
      exact this
    have HSet := Lib.hid hset; clear hset
    have hsf : stayF s.data.toList wish fs = putF s.data.toList (cutF x N) fs := by rw [HSF.out, if_neg hdr]
    have Hsf := Lib.hid hsf; clear hsf
    have fin : ∀ nq w2, Left F p r (usedF fs - (x.b.length - N)) dd f o m (putF s.data.toList (cutF x N) fs) g (w.drewN nq) w2 → Kept F p r dd f o m (stayF s.data.toList wish fs) g w w2 := by
      intro nq w2 h1
      rw [Hsf.out]
      refine Kept.drew (n1 := nq) ?_
      unfold Kept
      rw [usedF_cut HH.out.ok.sort HG.out (by rw [← HLx.out]; exact HNle.out)]
      exact h1
    have HFin := Lib.hid fin; clear fin
    by_cases hN0 : N = 0
    · subst hN0
      have hmd : x.made = true := by
        cases hm : x.made with
        | true => rfl
        | false => exact absurd ⟨rfl, hm⟩ hdr
      rw [hmd] at k2
      clear hdr hmd
      go_enter Try.func40, Try.ntmps40
      go_wp2_with fail
      go_quiet ((go_at_call 67; exact HLE.out _))
      go_wp2_with fail
      refine (HSet.out _).mono ?_; rintro e w2 ⟨rfl, h1'⟩
      have H1 := Lib.hid h1'; clear h1'
      go_wp2_with fail
      go_end0
      exact ⟨rfl, HFin.out _ _ H1.out⟩
    · have hNb : ((N : Int) == 0) = false := by simpa using (by omega : ¬ (N : Int) = 0)
      clear hdr
      go_enter Try.func40, Try.ntmps40
      go_wp2_with fail
      go_quiet ((go_at_call 67; exact HLE.out _))
      go_wp2_with fail
      refine (HSet.out _).mono ?_; rintro e w2 ⟨rfl, h1'⟩
      have H1 := Lib.hid h1'; clear h1'
      go_wp2_with fail
      go_end0
      exact ⟨rfl, HFin.out _ _ H1.out⟩
end
end Go.Proofs.Ytiagoaaldpajmaa
