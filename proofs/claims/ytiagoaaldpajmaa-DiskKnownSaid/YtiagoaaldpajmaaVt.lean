/- Several texts in one: Cut. -/
import Derived.Test.YtiagoaaldpajmaaVs
namespace Go.Proofs.Ytiagoaaldpajmaa
open Go.ChangeShapes Go.WideShapes Go.ChangeAt Go.RowKit Go.BigFrame Go.Maps Go.Sort
set_option linter.unusedVariables false
abbrev TI : TypeId := 3
section
variable {w w' : World} {F : Nat → Prop} {fs : Fs} {g : Nm → Nat} {v : Nm → Value} {n : Nm} {x y : Fil} {p r u dd f : Nat} {m : Option Nat} {o : Bool} {d : DM}
set_option maxRecDepth 100000 in
set_option maxHeartbeats 2000000 in
theorem cut1_any (h : Row w p TD (dcells r u m dd o f)) (hH : Held w F p m fs g v) (kd kf ki : Nat) (j : Nat) (bd : Row w kd TP [.pointer (some ⟨p, 0, none⟩)]) (bf : Row w kf TPF [.pointer (some ⟨g n, 0, none⟩)]) (bi : Row w ki TI [.int .i64 (j : Nat)]) (hg : getF n fs = some x) (hj : j ≤ x.b.length) (hu : x.b.length ≤ u) (hr : u ≤ 9223372036854775807) :
    Calls Try.prog 63 #[.pointer (some ⟨kd, 0, none⟩), .pointer (some ⟨kf, 0, none⟩), .pointer (some ⟨ki, 0, none⟩)] w fun e w' => e = .returned (.tuple #[]) ∧
      Left F p r (u - (x.b.length - j)) dd f o m (putF n (cutF x j) fs) g w w' := by
  have c1 : w.cell? ⟨kd, 0, none⟩ = some (.pointer (some ⟨p, 0, none⟩)) := bd.cell 0
  have c2 : w.cell? ⟨kf, 0, none⟩ = some (.pointer (some ⟨g n, 0, none⟩)) := bf.cell 0
  have c3 : w.cell? ⟨ki, 0, none⟩ = some (.int .i64 (j : Nat)) := bi.cell 0
  have hset := settle_held h hH hg j hj hu hr
  have HS := Lib.hid hset
  clear hset hH h bd bf bi hg
  go_enter Try.func63, Try.ntmps63
  go_wp2_with fail
  refine (HS.out).mono ?_; rintro e w2 ⟨rfl, v', h1, h2, h3⟩
  have H2 := Lib.hid (show Left F p r (u - (x.b.length - j)) dd f o m (putF n (cutF x j) fs) g w w2 from ⟨v', h1, h2, h3⟩); clear h1 h2 h3
  go_wp2_with fail
  go_end0
  exact ⟨rfl, H2.out⟩

set_option maxRecDepth 100000 in
set_option maxHeartbeats 2000000 in
theorem cut_bad (h : DiskAt w p d F m g v) (s : ByteArray) (n : Int) (hs : s.size ≤ 9223372036854775807) (hn : -9223372036854775808 ≤ n ∧ n ≤ 9223372036854775807) (hE : findE d s [] ≠ 0) :
    Calls Try.prog 30 #[.pointer (some ⟨p, 0, none⟩), .string s, .int .i64 n] w fun e w' => e = .returned (.int .i64 (findE d s [])) ∧ DiskAt w' p d F m g v ∧ Touch (fun _ => False) w w' := by
  have hl2 : (findE d s [] != 0) = true := by simpa using hE
  have HH := Lib.hid h; clear h hE
  have hbx := boxes3 w TP TI TS [.pointer (some ⟨p, 0, none⟩)] [.int .i64 n] [.string s]
  go_enter Try.func30, Try.ntmps30
  go_wp2_with fail
  obtain ⟨kd, hkd⟩ : ∃ kd, kd = w.heap.size := ⟨_, rfl⟩
  obtain ⟨ki, hki⟩ : ∃ ki, ki = w.heap.size + 1 := ⟨_, rfl⟩
  obtain ⟨kn, hkn⟩ : ∃ kn, kn = w.heap.size + 1 + 1 := ⟨_, rfl⟩
  rw [← hkn, ← hki, ← hkd]
  rw [← hkn, ← hki, ← hkd] at hbx
  generalize ((w.alloc (.cells #[.pointer (some ⟨p, 0, none⟩)] TP)).alloc (.cells #[.int .i64 n] TI)).alloc (.cells #[.string s] TS) = W at hbx ⊢
  obtain ⟨hd1, hi1, hn1, ht1, hz1⟩ := hbx
  have hD1 := HH.out.still ht1
  have hfi := find_any hD1 kn s [] hn1 1 (by simp) (by simp) (by simpa using hs)
  have HFi := Lib.hid hfi; have HD1 := Lib.hid hD1; have Hd1 := Lib.hid hd1; have Hi1 := Lib.hid hi1; have HT1 := Lib.hid ht1; have HZ1 := Lib.hid hz1
  have Hkd := Lib.hid hkd; have Hkn := Lib.hid hkn; have Hki := Lib.hid hki
  clear hfi hD1 hd1 hi1 hn1 ht1 hz1 hkd hkn hki
  refine (HFi.out).mono ?_
  rintro e w1 ⟨a, rfl, ha, k, rfl⟩
  have hT2 : Touch (fun _ => False) w (W.drewN k) := HT1.out.drewN k
  have hD2 : DiskAt (W.drewN k) p d F m g v := HD1.out.still ((Touch.refl _ _).drewN k)
  have hd2 : Row (W.drewN k) kd TP [.pointer (some ⟨p, 0, none⟩)] := Hd1.out
  have hi2 : Row (W.drewN k) ki TI [.int .i64 n] := Hi1.out
  generalize W.drewN k = W1 at hT2 hD2 hd2 hi2 ⊢
  have HT2 := Lib.hid hT2; have HD2 := Lib.hid hD2; have Hd2 := Lib.hid hd2; have Hi2 := Lib.hid hi2; clear hT2 hD2 hd2 hi2
  have HA := Lib.hid ha; clear ha
  go_wp2_with fail
  go_ret
  exact ⟨rfl, HD2.out.still ((Touch.refl _ _).alloc _), HT2.out.alloc _⟩
set_option maxRecDepth 100000 in
set_option maxHeartbeats 2000000 in
theorem cut_neg (h : DiskAt w p d F m g v) (s : ByteArray) (n : Int) (hs : s.size ≤ 9223372036854775807) (hn : -9223372036854775808 ≤ n ∧ n ≤ 9223372036854775807) (hE : findE d s [] = 0) {x : Fil} (hgx : getF s.data.toList d.fs = some x) (hneg : n < 0) :
    Calls Try.prog 30 #[.pointer (some ⟨p, 0, none⟩), .string s, .int .i64 n] w fun e w' => e = .returned (.int .i64 2) ∧ DiskAt w' p d F m g v ∧ Touch (fun _ => False) w w' := by
  have hdc : decide (n < 0) = true := decide_eq_true hneg
  have HH := Lib.hid h; have HE := Lib.hid hE; have HGX := Lib.hid hgx; clear h hE hgx
  have hbx := boxes3 w TP TI TS [.pointer (some ⟨p, 0, none⟩)] [.int .i64 n] [.string s]
  go_enter Try.func30, Try.ntmps30
  go_wp2_with fail
  obtain ⟨kd, hkd⟩ : ∃ kd, kd = w.heap.size := ⟨_, rfl⟩
  obtain ⟨ki, hki⟩ : ∃ ki, ki = w.heap.size + 1 := ⟨_, rfl⟩
  obtain ⟨kn, hkn⟩ : ∃ kn, kn = w.heap.size + 1 + 1 := ⟨_, rfl⟩
  rw [← hkn, ← hki, ← hkd]
  rw [← hkn, ← hki, ← hkd] at hbx
  generalize ((w.alloc (.cells #[.pointer (some ⟨p, 0, none⟩)] TP)).alloc (.cells #[.int .i64 n] TI)).alloc (.cells #[.string s] TS) = W at hbx ⊢
  obtain ⟨hd1, hi1, hn1, ht1, hz1⟩ := hbx
  have hD1 := HH.out.still ht1
  have hfi := find_any hD1 kn s [] hn1 1 (by simp) (by simp) (by simpa using hs)
  have HFi := Lib.hid hfi; have HD1 := Lib.hid hD1; have Hd1 := Lib.hid hd1; have Hi1 := Lib.hid hi1; have HT1 := Lib.hid ht1; have HZ1 := Lib.hid hz1
  have Hkd := Lib.hid hkd; have Hkn := Lib.hid hkn; have Hki := Lib.hid hki
  clear hfi hD1 hd1 hi1 hn1 ht1 hz1 hkd hkn hki
  have e0 := HFi.out
  rw [HE.out] at e0
  have HFi0 := Lib.hid e0; clear e0
  refine (HFi0.out).mono ?_
  rintro e w1 ⟨a, rfl, ha, k, rfl⟩
  have hT2 : Touch (fun _ => False) w (W.drewN k) := HT1.out.drewN k
  have hD2 : DiskAt (W.drewN k) p d F m g v := HD1.out.still ((Touch.refl _ _).drewN k)
  have hd2 : Row (W.drewN k) kd TP [.pointer (some ⟨p, 0, none⟩)] := Hd1.out
  have hi2 : Row (W.drewN k) ki TI [.int .i64 n] := Hi1.out
  generalize W.drewN k = W1 at hT2 hD2 hd2 hi2 ⊢
  have HT2 := Lib.hid hT2; have HD2 := Lib.hid hD2; have Hd2 := Lib.hid hd2; have Hi2 := Lib.hid hi2; clear hT2 hD2 hd2 hi2
  obtain ⟨x2, hx, rfl⟩ := ha rfl
  obtain rfl : x2 = x := by rw [HGX.out] at hx; exact (Option.some.inj hx).symm
  clear ha hx
  go_wp2_with fail
  have hkf : Row (W1.alloc (.cells #[.pointer (some ⟨g s.data.toList, 0, none⟩)] TPF)) W1.heap.size TPF [.pointer (some ⟨g s.data.toList, 0, none⟩)] := Row.made W1 TPF _
  have hd3 : Row (W1.alloc (.cells #[.pointer (some ⟨g s.data.toList, 0, none⟩)] TPF)) kd TP [.pointer (some ⟨p, 0, none⟩)] := Hd2.out.alloc _
  have hi3 : Row (W1.alloc (.cells #[.pointer (some ⟨g s.data.toList, 0, none⟩)] TPF)) ki TI [.int .i64 n] := Hi2.out.alloc _
  have hT3 : Touch (fun _ => False) w (W1.alloc (.cells #[.pointer (some ⟨g s.data.toList, 0, none⟩)] TPF)) := HT2.out.alloc _
  have hD3 : DiskAt (W1.alloc (.cells #[.pointer (some ⟨g s.data.toList, 0, none⟩)] TPF)) p d F m g v := HD2.out.still ((Touch.refl _ _).alloc _)
  obtain ⟨kf, hkf0⟩ : ∃ kf, kf = W1.heap.size := ⟨_, rfl⟩
  rw [← hkf0] at hkf ⊢
  generalize W1.alloc (.cells #[.pointer (some ⟨g s.data.toList, 0, none⟩)] TPF) = W2 at *
  have hkd3 := hkf.drew
  have hdd3 := hd3.drew
  have hii3 := hi3.drew
  have hT4 := hT3.drew
  have hD4 : DiskAt W2.drew p d F m g v := hD3.still (Touch.refl _ _).drew
  clear hkf hd3 hi3 hT3 hD3
  have hfx := hD4.files.at_ _ _ HGX.out
  obtain ⟨k0, -, -⟩ := frow hfx
  obtain ⟨A, c, hv, hc, hcm⟩ := fslice hfx
  rw [hv] at k0
  have q1 : W2.drew.cell? ⟨kd, 0, none⟩ = some (.pointer (some ⟨p, 0, none⟩)) := hdd3.cell 0
  have q2 : W2.drew.cell? ⟨kf, 0, none⟩ = some (.pointer (some ⟨g s.data.toList, 0, none⟩)) := hkd3.cell 0
  have q3 : W2.drew.cell? ⟨ki, 0, none⟩ = some (.int .i64 n) := hii3.cell 0
  have HKF := Lib.hid hkd3; have HDD := Lib.hid hdd3; have HII := Lib.hid hii3; have HT4 := Lib.hid hT4; have HD4 := Lib.hid hD4; have HKF0 := Lib.hid hkf0
  clear hkd3 hdd3 hii3 hT4 hD4 hfx hv hkf0
  refine Stage.wp_region (by kernel_rfl) (by kernel_rfl) (fun _ w' => w' = W2.drew) rfl ?_
  refine Stage.wpSt_reads 11 (fun w' => w' = W2.drew) (by kernel_rfl) (fun i _ _ S w' _ _ h => ⟨h, h⟩) ?_
  simp only [List.take_succ_cons, List.take_zero, List.drop_succ_cons, List.drop_zero]
  repeat (go_big_quiet_step (fail))
  refine wpQuiet_nil (Stage.wpSt_nil ?_)
  intro S w4 _ hw4
  obtain rfl : w4 = W2.drew := hw4
  generalize W2.drew = W3 at *
  go_wp2_with fail
  go_ret
  exact ⟨rfl, HD4.out, HT4.out⟩
set_option maxRecDepth 100000 in
set_option maxHeartbeats 2000000 in
theorem cut_more (h : DiskAt w p d F m g v) (s : ByteArray) (n : Int) (hs : s.size ≤ 9223372036854775807) (hn : -9223372036854775808 ≤ n ∧ n ≤ 9223372036854775807) (hE : findE d s [] = 0) {x : Fil} (hgx : getF s.data.toList d.fs = some x) (hneg : 0 ≤ n) (hmore : (x.b.length : Int) < n) :
    Calls Try.prog 30 #[.pointer (some ⟨p, 0, none⟩), .string s, .int .i64 n] w fun e w' => e = .returned (.int .i64 2) ∧ DiskAt w' p d F m g v ∧ Touch (fun _ => False) w w' := by
  have hdc : decide (n < 0) = false := decide_eq_false (by omega)
  have hdm : decide ((x.b.length : Int) < n) = true := decide_eq_true hmore
  have HH := Lib.hid h; have HE := Lib.hid hE; have HGX := Lib.hid hgx; clear h hE hgx
  have hbx := boxes3 w TP TI TS [.pointer (some ⟨p, 0, none⟩)] [.int .i64 n] [.string s]
  go_enter Try.func30, Try.ntmps30
  go_wp2_with fail
  obtain ⟨kd, hkd⟩ : ∃ kd, kd = w.heap.size := ⟨_, rfl⟩
  obtain ⟨ki, hki⟩ : ∃ ki, ki = w.heap.size + 1 := ⟨_, rfl⟩
  obtain ⟨kn, hkn⟩ : ∃ kn, kn = w.heap.size + 1 + 1 := ⟨_, rfl⟩
  rw [← hkn, ← hki, ← hkd]
  rw [← hkn, ← hki, ← hkd] at hbx
  generalize ((w.alloc (.cells #[.pointer (some ⟨p, 0, none⟩)] TP)).alloc (.cells #[.int .i64 n] TI)).alloc (.cells #[.string s] TS) = W at hbx ⊢
  obtain ⟨hd1, hi1, hn1, ht1, hz1⟩ := hbx
  have hD1 := HH.out.still ht1
  have hfi := find_any hD1 kn s [] hn1 1 (by simp) (by simp) (by simpa using hs)
  have HFi := Lib.hid hfi; have HD1 := Lib.hid hD1; have Hd1 := Lib.hid hd1; have Hi1 := Lib.hid hi1; have HT1 := Lib.hid ht1; have HZ1 := Lib.hid hz1
  have Hkd := Lib.hid hkd; have Hkn := Lib.hid hkn; have Hki := Lib.hid hki
  clear hfi hD1 hd1 hi1 hn1 ht1 hz1 hkd hkn hki
  have e0 := HFi.out
  rw [HE.out] at e0
  have HFi0 := Lib.hid e0; clear e0
  refine (HFi0.out).mono ?_
  rintro e w1 ⟨a, rfl, ha, k, rfl⟩
  have hT2 : Touch (fun _ => False) w (W.drewN k) := HT1.out.drewN k
  have hD2 : DiskAt (W.drewN k) p d F m g v := HD1.out.still ((Touch.refl _ _).drewN k)
  have hd2 : Row (W.drewN k) kd TP [.pointer (some ⟨p, 0, none⟩)] := Hd1.out
  have hi2 : Row (W.drewN k) ki TI [.int .i64 n] := Hi1.out
  generalize W.drewN k = W1 at hT2 hD2 hd2 hi2 ⊢
  have HT2 := Lib.hid hT2; have HD2 := Lib.hid hD2; have Hd2 := Lib.hid hd2; have Hi2 := Lib.hid hi2; clear hT2 hD2 hd2 hi2
  obtain ⟨x2, hx, rfl⟩ := ha rfl
  obtain rfl : x2 = x := by rw [HGX.out] at hx; exact (Option.some.inj hx).symm
  clear ha hx
  go_wp2_with fail
  have hkf : Row (W1.alloc (.cells #[.pointer (some ⟨g s.data.toList, 0, none⟩)] TPF)) W1.heap.size TPF [.pointer (some ⟨g s.data.toList, 0, none⟩)] := Row.made W1 TPF _
  have hd3 : Row (W1.alloc (.cells #[.pointer (some ⟨g s.data.toList, 0, none⟩)] TPF)) kd TP [.pointer (some ⟨p, 0, none⟩)] := Hd2.out.alloc _
  have hi3 : Row (W1.alloc (.cells #[.pointer (some ⟨g s.data.toList, 0, none⟩)] TPF)) ki TI [.int .i64 n] := Hi2.out.alloc _
  have hT3 : Touch (fun _ => False) w (W1.alloc (.cells #[.pointer (some ⟨g s.data.toList, 0, none⟩)] TPF)) := HT2.out.alloc _
  have hD3 : DiskAt (W1.alloc (.cells #[.pointer (some ⟨g s.data.toList, 0, none⟩)] TPF)) p d F m g v := HD2.out.still ((Touch.refl _ _).alloc _)
  obtain ⟨kf, hkf0⟩ : ∃ kf, kf = W1.heap.size := ⟨_, rfl⟩
  rw [← hkf0] at hkf ⊢
  generalize W1.alloc (.cells #[.pointer (some ⟨g s.data.toList, 0, none⟩)] TPF) = W2 at *
  have hkd3 := hkf.drew
  have hdd3 := hd3.drew
  have hii3 := hi3.drew
  have hT4 := hT3.drew
  have hD4 : DiskAt W2.drew p d F m g v := hD3.still (Touch.refl _ _).drew
  clear hkf hd3 hi3 hT3 hD3
  have hfx := hD4.files.at_ _ _ HGX.out
  obtain ⟨k0, -, -⟩ := frow hfx
  obtain ⟨A, c, hv, hc, hcm⟩ := fslice hfx
  rw [hv] at k0
  have q1 : W2.drew.cell? ⟨kd, 0, none⟩ = some (.pointer (some ⟨p, 0, none⟩)) := hdd3.cell 0
  have q2 : W2.drew.cell? ⟨kf, 0, none⟩ = some (.pointer (some ⟨g s.data.toList, 0, none⟩)) := hkd3.cell 0
  have q3 : W2.drew.cell? ⟨ki, 0, none⟩ = some (.int .i64 n) := hii3.cell 0
  have HKF := Lib.hid hkd3; have HDD := Lib.hid hdd3; have HII := Lib.hid hii3; have HT4 := Lib.hid hT4; have HD4 := Lib.hid hD4; have HKF0 := Lib.hid hkf0
  clear hkd3 hdd3 hii3 hT4 hD4 hfx hv hkf0
  refine Stage.wp_region (by kernel_rfl) (by kernel_rfl) (fun _ w' => w' = W2.drew) rfl ?_
  refine Stage.wpSt_reads 11 (fun w' => w' = W2.drew) (by kernel_rfl) (fun i _ _ S w' _ _ h => ⟨h, h⟩) ?_
  simp only [List.take_succ_cons, List.take_zero, List.drop_succ_cons, List.drop_zero]
  repeat (go_big_quiet_step (fail))
  refine wpQuiet_nil (Stage.wpSt_nil ?_)
  intro S w4 _ hw4
  obtain rfl : w4 = W2.drew := hw4
  generalize W2.drew = W3 at *
  go_wp2_with fail
  go_ret
  exact ⟨rfl, HD4.out, HT4.out⟩
set_option maxRecDepth 100000 in
set_option maxHeartbeats 2000000 in
theorem cut_gone (h : DiskAt w p d F m g v) (s : ByteArray) (n : Int) (hs : s.size ≤ 9223372036854775807) (hn : -9223372036854775808 ≤ n ∧ n ≤ 9223372036854775807) (hE : findE d s [] = 0) {x : Fil} (hgx : getF s.data.toList d.fs = some x) (hneg : 0 ≤ n) (hmore : n ≤ (x.b.length : Int)) (hfu : d.fuse = 1) (hd : d.deeds ≤ 1000000000) :
    Calls Try.prog 30 #[.pointer (some ⟨p, 0, none⟩), .string s, .int .i64 n] w fun e w' => e = .returned (.int .i64 30) ∧ IsDisk w' p ⟨d.room, d.fs, d.deeds + 1, true, 0⟩ (Ext F w w') ∧ Touch F w w' := by
  have hdc : decide (n < 0) = false := decide_eq_false (by omega)
  have hdm : decide ((x.b.length : Int) < n) = false := decide_eq_false (by omega)
  have HH := Lib.hid h; have HE := Lib.hid hE; have HGX := Lib.hid hgx; have HFU := Lib.hid hfu; clear h hE hgx hfu
  have hbx := boxes3 w TP TI TS [.pointer (some ⟨p, 0, none⟩)] [.int .i64 n] [.string s]
  go_enter Try.func30, Try.ntmps30
  go_wp2_with fail
  obtain ⟨kd, hkd⟩ : ∃ kd, kd = w.heap.size := ⟨_, rfl⟩
  obtain ⟨ki, hki⟩ : ∃ ki, ki = w.heap.size + 1 := ⟨_, rfl⟩
  obtain ⟨kn, hkn⟩ : ∃ kn, kn = w.heap.size + 1 + 1 := ⟨_, rfl⟩
  rw [← hkn, ← hki, ← hkd]
  rw [← hkn, ← hki, ← hkd] at hbx
  generalize ((w.alloc (.cells #[.pointer (some ⟨p, 0, none⟩)] TP)).alloc (.cells #[.int .i64 n] TI)).alloc (.cells #[.string s] TS) = W at hbx ⊢
  obtain ⟨hd1, hi1, hn1, ht1, hz1⟩ := hbx
  have hD1 := HH.out.still ht1
  have hfi := find_any hD1 kn s [] hn1 1 (by simp) (by simp) (by simpa using hs)
  have HFi := Lib.hid hfi; have HD1 := Lib.hid hD1; have Hd1 := Lib.hid hd1; have Hi1 := Lib.hid hi1; have HT1 := Lib.hid ht1; have HZ1 := Lib.hid hz1
  have Hkd := Lib.hid hkd; have Hkn := Lib.hid hkn; have Hki := Lib.hid hki
  clear hfi hD1 hd1 hi1 hn1 ht1 hz1 hkd hkn hki
  have e0 := HFi.out
  rw [HE.out] at e0
  have HFi0 := Lib.hid e0; clear e0
  refine (HFi0.out).mono ?_
  rintro e w1 ⟨a, rfl, ha, k, rfl⟩
  have hT2 : Touch (fun _ => False) w (W.drewN k) := HT1.out.drewN k
  have hD2 : DiskAt (W.drewN k) p d F m g v := HD1.out.still ((Touch.refl _ _).drewN k)
  have hd2 : Row (W.drewN k) kd TP [.pointer (some ⟨p, 0, none⟩)] := Hd1.out
  have hi2 : Row (W.drewN k) ki TI [.int .i64 n] := Hi1.out
  generalize W.drewN k = W1 at hT2 hD2 hd2 hi2 ⊢
  have HT2 := Lib.hid hT2; have HD2 := Lib.hid hD2; have Hd2 := Lib.hid hd2; have Hi2 := Lib.hid hi2; clear hT2 hD2 hd2 hi2
  obtain ⟨x2, hx, rfl⟩ := ha rfl
  obtain rfl : x2 = x := by rw [HGX.out] at hx; exact (Option.some.inj hx).symm
  clear ha hx
  go_wp2_with fail
  have hkf : Row (W1.alloc (.cells #[.pointer (some ⟨g s.data.toList, 0, none⟩)] TPF)) W1.heap.size TPF [.pointer (some ⟨g s.data.toList, 0, none⟩)] := Row.made W1 TPF _
  have hd3 : Row (W1.alloc (.cells #[.pointer (some ⟨g s.data.toList, 0, none⟩)] TPF)) kd TP [.pointer (some ⟨p, 0, none⟩)] := Hd2.out.alloc _
  have hi3 : Row (W1.alloc (.cells #[.pointer (some ⟨g s.data.toList, 0, none⟩)] TPF)) ki TI [.int .i64 n] := Hi2.out.alloc _
  have hT3 : Touch (fun _ => False) w (W1.alloc (.cells #[.pointer (some ⟨g s.data.toList, 0, none⟩)] TPF)) := HT2.out.alloc _
  have hD3 : DiskAt (W1.alloc (.cells #[.pointer (some ⟨g s.data.toList, 0, none⟩)] TPF)) p d F m g v := HD2.out.still ((Touch.refl _ _).alloc _)
  obtain ⟨kf, hkf0⟩ : ∃ kf, kf = W1.heap.size := ⟨_, rfl⟩
  rw [← hkf0] at hkf ⊢
  generalize W1.alloc (.cells #[.pointer (some ⟨g s.data.toList, 0, none⟩)] TPF) = W2 at *
  have hkd3 := hkf.drew
  have hdd3 := hd3.drew
  have hii3 := hi3.drew
  have hT4 := hT3.drew
  have hD4 : DiskAt W2.drew p d F m g v := hD3.still (Touch.refl _ _).drew
  clear hkf hd3 hi3 hT3 hD3
  have hfx := hD4.files.at_ _ _ HGX.out
  obtain ⟨k0, -, -⟩ := frow hfx
  obtain ⟨A, c, hv, hc, hcm⟩ := fslice hfx
  rw [hv] at k0
  have q1 : W2.drew.cell? ⟨kd, 0, none⟩ = some (.pointer (some ⟨p, 0, none⟩)) := hdd3.cell 0
  have q2 : W2.drew.cell? ⟨kf, 0, none⟩ = some (.pointer (some ⟨g s.data.toList, 0, none⟩)) := hkd3.cell 0
  have q3 : W2.drew.cell? ⟨ki, 0, none⟩ = some (.int .i64 n) := hii3.cell 0
  have HKF := Lib.hid hkd3; have HDD := Lib.hid hdd3; have HII := Lib.hid hii3; have HT4 := Lib.hid hT4; have HD4 := Lib.hid hD4; have HKF0 := Lib.hid hkf0
  clear hkd3 hdd3 hii3 hT4 hD4 hfx hv hkf0
  refine Stage.wp_region (by kernel_rfl) (by kernel_rfl) (fun _ w' => w' = W2.drew) rfl ?_
  refine Stage.wpSt_reads 11 (fun w' => w' = W2.drew) (by kernel_rfl) (fun i _ _ S w' _ _ h => ⟨h, h⟩) ?_
  simp only [List.take_succ_cons, List.take_zero, List.drop_succ_cons, List.drop_zero]
  repeat (go_big_quiet_step (fail))
  refine wpQuiet_nil (Stage.wpSt_nil ?_)
  intro S w4 _ hw4
  obtain rfl : w4 = W2.drew := hw4
  generalize W2.drew = W3 at *
  go_wp2_with fail
  have hg := deed_gone_cut (w := W3) #[.pointer (some ⟨kd, 0, none⟩), .pointer (some ⟨kf, 0, none⟩), .pointer (some ⟨ki, 0, none⟩)] (by have := HD4.out.row; rw [HFU.out] at this; exact this) hd
  have HG := Lib.hid hg; clear hg
  refine (HG.out).mono ?_; rintro e w3 ⟨rfl, hr3, ht3, hz3⟩
  have H3 := Lib.hid (gone_disk HD4.out hr3 ht3 HT4.out.false); clear hr3 ht3 hz3
  go_wp2_with fail
  go_ret
  exact ⟨rfl, H3.out⟩
set_option maxRecDepth 100000 in
set_option maxHeartbeats 2000000 in
theorem cut_well (h : DiskAt w p d F m g v) (s : ByteArray) (n : Int) (hs : s.size ≤ 9223372036854775807) (hn : -9223372036854775808 ≤ n ∧ n ≤ 9223372036854775807) (hFb : ∀ k, F k → k < w.heap.size) (hE : findE d s [] = 0) {x : Fil} (hgx : getF s.data.toList d.fs = some x) (hneg : 0 ≤ n) (hmore : n ≤ (x.b.length : Int)) (hfu : d.fuse ≠ 1) (hd : d.deeds ≤ 1000000000) :
    Calls Try.prog 30 #[.pointer (some ⟨p, 0, none⟩), .string s, .int .i64 n] w fun e w' => e = .returned (.int .i64 0) ∧ IsDisk w' p ⟨d.room, putF s.data.toList (cutF x n.toNat) d.fs, d.deeds + 1, d.off, d.fuse - 1⟩ (Ext F w w') ∧ Touch F w w' := by
  have hdc : decide (n < 0) = false := decide_eq_false (by omega)
  have hdm : decide ((x.b.length : Int) < n) = false := decide_eq_false (by omega)
  have HH := Lib.hid h; have HE := Lib.hid hE; have HGX := Lib.hid hgx; have HFU := Lib.hid hfu; have HFb := Lib.hid hFb; clear h hE hgx hfu hFb
  have hbx := boxes3 w TP TI TS [.pointer (some ⟨p, 0, none⟩)] [.int .i64 n] [.string s]
  go_enter Try.func30, Try.ntmps30
  go_wp2_with fail
  obtain ⟨kd, hkd⟩ : ∃ kd, kd = w.heap.size := ⟨_, rfl⟩
  obtain ⟨ki, hki⟩ : ∃ ki, ki = w.heap.size + 1 := ⟨_, rfl⟩
  obtain ⟨kn, hkn⟩ : ∃ kn, kn = w.heap.size + 1 + 1 := ⟨_, rfl⟩
  rw [← hkn, ← hki, ← hkd]
  rw [← hkn, ← hki, ← hkd] at hbx
  generalize ((w.alloc (.cells #[.pointer (some ⟨p, 0, none⟩)] TP)).alloc (.cells #[.int .i64 n] TI)).alloc (.cells #[.string s] TS) = W at hbx ⊢
  obtain ⟨hd1, hi1, hn1, ht1, hz1⟩ := hbx
  have hD1 := HH.out.still ht1
  have hfi := find_any hD1 kn s [] hn1 1 (by simp) (by simp) (by simpa using hs)
  have HFi := Lib.hid hfi; have HD1 := Lib.hid hD1; have Hd1 := Lib.hid hd1; have Hi1 := Lib.hid hi1; have HT1 := Lib.hid ht1; have HZ1 := Lib.hid hz1
  have Hkd := Lib.hid hkd; have Hkn := Lib.hid hkn; have Hki := Lib.hid hki
  clear hfi hD1 hd1 hi1 hn1 ht1 hz1 hkd hkn hki
  have e0 := HFi.out
  rw [HE.out] at e0
  have HFi0 := Lib.hid e0; clear e0
  refine (HFi0.out).mono ?_
  rintro e w1 ⟨a, rfl, ha, k, rfl⟩
  have hT2 : Touch (fun _ => False) w (W.drewN k) := HT1.out.drewN k
  have hD2 : DiskAt (W.drewN k) p d F m g v := HD1.out.still ((Touch.refl _ _).drewN k)
  have hd2 : Row (W.drewN k) kd TP [.pointer (some ⟨p, 0, none⟩)] := Hd1.out
  have hi2 : Row (W.drewN k) ki TI [.int .i64 n] := Hi1.out
  generalize W.drewN k = W1 at hT2 hD2 hd2 hi2 ⊢
  have HT2 := Lib.hid hT2; have HD2 := Lib.hid hD2; have Hd2 := Lib.hid hd2; have Hi2 := Lib.hid hi2; clear hT2 hD2 hd2 hi2
  obtain ⟨x2, hx, rfl⟩ := ha rfl
  obtain rfl : x2 = x := by rw [HGX.out] at hx; exact (Option.some.inj hx).symm
  clear ha hx
  go_wp2_with fail
  have hkf : Row (W1.alloc (.cells #[.pointer (some ⟨g s.data.toList, 0, none⟩)] TPF)) W1.heap.size TPF [.pointer (some ⟨g s.data.toList, 0, none⟩)] := Row.made W1 TPF _
  have hd3 : Row (W1.alloc (.cells #[.pointer (some ⟨g s.data.toList, 0, none⟩)] TPF)) kd TP [.pointer (some ⟨p, 0, none⟩)] := Hd2.out.alloc _
  have hi3 : Row (W1.alloc (.cells #[.pointer (some ⟨g s.data.toList, 0, none⟩)] TPF)) ki TI [.int .i64 n] := Hi2.out.alloc _
  have hT3 : Touch (fun _ => False) w (W1.alloc (.cells #[.pointer (some ⟨g s.data.toList, 0, none⟩)] TPF)) := HT2.out.alloc _
  have hD3 : DiskAt (W1.alloc (.cells #[.pointer (some ⟨g s.data.toList, 0, none⟩)] TPF)) p d F m g v := HD2.out.still ((Touch.refl _ _).alloc _)
  obtain ⟨kf, hkf0⟩ : ∃ kf, kf = W1.heap.size := ⟨_, rfl⟩
  rw [← hkf0] at hkf ⊢
  generalize W1.alloc (.cells #[.pointer (some ⟨g s.data.toList, 0, none⟩)] TPF) = W2 at *
  have hkd3 := hkf.drew
  have hdd3 := hd3.drew
  have hii3 := hi3.drew
  have hT4 := hT3.drew
  have hD4 : DiskAt W2.drew p d F m g v := hD3.still (Touch.refl _ _).drew
  clear hkf hd3 hi3 hT3 hD3
  have hfx := hD4.files.at_ _ _ HGX.out
  obtain ⟨k0, -, -⟩ := frow hfx
  obtain ⟨A, c, hv, hc, hcm⟩ := fslice hfx
  rw [hv] at k0
  have q1 : W2.drew.cell? ⟨kd, 0, none⟩ = some (.pointer (some ⟨p, 0, none⟩)) := hdd3.cell 0
  have q2 : W2.drew.cell? ⟨kf, 0, none⟩ = some (.pointer (some ⟨g s.data.toList, 0, none⟩)) := hkd3.cell 0
  have q3 : W2.drew.cell? ⟨ki, 0, none⟩ = some (.int .i64 n) := hii3.cell 0
  have HKF := Lib.hid hkd3; have HDD := Lib.hid hdd3; have HII := Lib.hid hii3; have HT4 := Lib.hid hT4; have HD4 := Lib.hid hD4; have HKF0 := Lib.hid hkf0
  clear hkd3 hdd3 hii3 hT4 hD4 hfx hv hkf0
  refine Stage.wp_region (by kernel_rfl) (by kernel_rfl) (fun _ w' => w' = W2.drew) rfl ?_
  refine Stage.wpSt_reads 11 (fun w' => w' = W2.drew) (by kernel_rfl) (fun i _ _ S w' _ _ h => ⟨h, h⟩) ?_
  simp only [List.take_succ_cons, List.take_zero, List.drop_succ_cons, List.drop_zero]
  repeat (go_big_quiet_step (fail))
  refine wpQuiet_nil (Stage.wpSt_nil ?_)
  intro S w4 _ hw4
  obtain rfl : w4 = W2.drew := hw4
  generalize W2.drew = W3 at *
  go_wp2_with fail
  have hxl : x2.b.length ≤ usedF d.fs := by have := lenF_le (n := s.data.toList) HH.out.ok.sort; rw [lenF_some HGX.out] at this; exact this
  have hfu1 : usedF d.fs ≤ 9223372036854775807 := Nat.le_trans HH.out.used HH.out.room
  have hg := deed_well_cut (w := W3) (Q := fun w' => ∃ w3, Counted W3 w3 p d.room (usedF d.fs) m d.deeds d.off d.fuse ∧ Left F p d.room (usedF d.fs - (x2.b.length - n.toNat)) (d.deeds + 1) (d.fuse - 1) d.off m (putF s.data.toList (cutF x2 n.toNat) d.fs) g w3 w') #[.pointer (some ⟨kd, 0, none⟩), .pointer (some ⟨kf, 0, none⟩), .pointer (some ⟨ki, 0, none⟩)] HD4.out.row hd HFU.out HD4.out.fuse (by
    intro w3 hC
    have hne : ∀ k t l, Row W3 k t l → t ≠ TD → k ≠ p := fun k t l hk ht => hk.apart HD4.out.row ht
    have hheld : Held w3 F p m d.fs g v := HD4.out.held.own HD4.out.row hC.touch
    have hi9 : Row w3 ki TI [.int .i64 ((n.toNat : Nat) : Int)] := by
      have := HII.out.touch hC.touch (hne _ _ _ HII.out (by decide))
      rwa [show ((n.toNat : Nat) : Int) = n by omega]
    refine (cut1_any hC.row hheld kd kf ki n.toNat (HDD.out.touch hC.touch (hne _ _ _ HDD.out (by decide))) (HKF.out.touch hC.touch (hne _ _ _ HKF.out (by decide))) hi9 HGX.out (by omega) hxl hfu1).mono ?_
    rintro e w4 ⟨rfl, hap⟩
    exact ⟨rfl, w3, hC, hap⟩)
  have HG := Lib.hid hg; clear hg
  refine (HG.out).mono ?_; rintro e w4 ⟨rfl, w3, hC, hap⟩
  have HA4 := Lib.hid hap; have HC := Lib.hid hC; clear hap hC
  go_wp2_with fail
  go_ret
  have eu : usedF (putF s.data.toList (cutF x2 n.toNat) d.fs) = usedF d.fs - (x2.b.length - n.toNat) := usedF_cut HH.out.ok.sort HGX.out (by omega)
  have hap := HA4.out
  rw [← eu] at hap
  have h23 : Touch F W3 w3 := HC.out.touch.mono (by rintro i rfl; exact HD4.out.memp)
  refine ⟨rfl, hap.disk (by rw [eu]; have := HH.out.used; omega) HH.out.room ?_ (by have := HH.out.fuse; omega) (Nat.le_trans HT4.out.size h23.size) (HT4.out.frow h23)⟩
  have := putF_len_old (y := cutF x2 n.toNat) HGX.out; have := HH.out.few; omega
/-- what Cut answers, and leaves -/
def cutE (d : DM) (s : ByteArray) (n : Int) : Int := if findE d s [] = 0 then (if n < 0 ∨ (lenF s.data.toList d.fs : Int) < n then 2 else deedE d) else findE d s []
def cutD (d : DM) (s : ByteArray) (n : Int) : DM := if findE d s [] = 0 then (if n < 0 ∨ (lenF s.data.toList d.fs : Int) < n then d else d.deed (match getF s.data.toList d.fs with | some x => putF s.data.toList (cutF x n.toNat) d.fs | none => d.fs)) else d
/-- Cut, whatever it is told -/
theorem cut_any (h : DiskAt w p d F m g v) (s : ByteArray) (n : Int) (hs : s.size ≤ 9223372036854775807) (hn : -9223372036854775808 ≤ n ∧ n ≤ 9223372036854775807) (hFb : ∀ k, F k → k < w.heap.size) (hd : d.deeds ≤ 1000000000) :
    Calls Try.prog 30 #[.pointer (some ⟨p, 0, none⟩), .string s, .int .i64 n] w fun e w' => e = .returned (.int .i64 (cutE d s n)) ∧ IsDisk w' p (cutD d s n) (Ext F w w') ∧ Touch F w w' := by
  unfold cutE cutD
  by_cases hE : findE d s [] = 0
  · simp only [if_pos hE]
    obtain ⟨x, hx⟩ := find_some hE
    rw [lenF_some hx, hx]
    by_cases hno : n < 0 ∨ (x.b.length : Int) < n
    · simp only [if_pos hno]
      by_cases hneg : n < 0
      · exact (cut_neg h s n hs hn hE hx hneg).mono fun e w' ⟨he, h1, h2⟩ => ⟨he, ⟨m, g, v, h1.mono fun k hk => .inl hk⟩, h2.false⟩
      · exact (cut_more h s n hs hn hE hx (by omega) (by omega)).mono fun e w' ⟨he, h1, h2⟩ => ⟨he, ⟨m, g, v, h1.mono fun k hk => .inl hk⟩, h2.false⟩
    · simp only [if_neg hno]
      unfold deedE DM.deed
      by_cases hfu : d.fuse = 1
      · simp only [if_pos hfu]
        exact cut_gone h s n hs hn hE hx (by omega) (by omega) hfu hd
      · simp only [if_neg hfu]
        exact cut_well h s n hs hn hFb hE hx (by omega) (by omega) hfu hd
  · simp only [if_neg hE]
    exact (cut_bad h s n hs hn hE).mono fun e w' ⟨he, h1, h2⟩ => ⟨he, ⟨m, g, v, h1.mono fun k hk => .inl hk⟩, h2.false⟩
end
end Go.Proofs.Ytiagoaaldpajmaa
