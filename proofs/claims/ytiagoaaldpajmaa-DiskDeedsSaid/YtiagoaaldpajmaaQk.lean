/- Several texts in one: Append2. -/
import Derived.Test.YtiagoaaldpajmaaQj
namespace Go.Proofs.Ytiagoaaldpajmaa
open Go.ChangeShapes Go.WideShapes Go.ChangeAt Go.RowKit Go.BigFrame Go.Maps Go.Sort
set_option linter.unusedVariables false

theorem del_put {n : Nm} {y : Fil} {fs : Fs} : delF n (putF n y fs) = delF n fs := by
  have aux : ∀ l : Fs, (∀ q ∈ l, q.1 ≠ n) → delF n (insF (n, y) l) = l := by
    intro l
    induction l with
    | nil => intro _; simp [insF, delF]
    | cons q r ih =>
      intro h
      have hq : ¬ q.1 = n := h q (by simp)
      have hr := ih (fun q hq => h q (by simp [hq]))
      have hrr : delF n r = r := by
        unfold delF; rw [List.filter_eq_self]; intro z hz; simpa using h z (by simp [hz])
      unfold insF
      split
      · unfold delF at hrr ⊢
        simp [List.filter_cons, hq, hrr]
      · unfold delF at hr ⊢
        simp [List.filter_cons, hq, hr]
  exact aux _ fun q hq => (mem_delF.1 hq).2
theorem put_twice {n : Nm} {x y : Fil} {fs : Fs} : putF n x (putF n y fs) = putF n x fs := by
  unfold putF; rw [show delF n (insF (n, y) (delF n fs)) = delF n fs from del_put]
/-- bytes behind a file's -/
def appendF (n : Nm) (bs : List Nat) (fs : Fs) : Fs := putF n (appF ((getF n fs).getD newF) bs) fs
theorem appendF_open {n : Nm} {bs : List Nat} {fs : Fs} {x : Fil} (h : getF n (openF n fs) = some x) : putF n (appF x bs) (openF n fs) = appendF n bs fs := by
  unfold appendF
  cases hg : getF n fs with
  | some y => rw [openF_some hg] at h ⊢; rw [hg] at h; cases h; rfl
  | none => rw [openF_none hg] at h ⊢; rw [getF_put_same] at h; cases h; rw [put_twice]; rfl
/-- a deed is counted -/
def DM.tick (d : DM) : DM := if d.fuse = 1 then { d with deeds := d.deeds + 1, off := true, fuse := 0 } else { d with deeds := d.deeds + 1, fuse := d.fuse - 1 }
def appE (d : DM) (s : ByteArray) (k : Nat) : Int :=
  if lookE d.off [s] ≠ 0 then lookE d.off [s] else if 8388608 < lenF s.data.toList d.fs + k then 3 else if d.room < usedF d.fs + k then 31 else if d.fuse = 1 then 30 else 0
def appD (d : DM) (s : ByteArray) (bs : List Nat) : DM :=
  if lookE d.off [s] ≠ 0 then d else if 8388608 < lenF s.data.toList d.fs + bs.length then d else if d.room < usedF d.fs + bs.length then d else { d.tick with fs := appendF s.data.toList bs d.fs }
section
variable {w w' : World} {F : Nat → Prop} {fs : Fs} {g : Nm → Nat} {v : Nm → Value} {n : Nm} {x y : Fil} {p r u dd f : Nat} {m : Option Nat} {o : Bool} {d : DM}
theorem DiskAt.held (h : DiskAt w p d F m g v) : Held w F p m d.fs g v := ⟨h.map, h.files, h.ok, h.memp, h.memm⟩
theorem lookE_ok {s : ByteArray} {o : Bool} (h : lookE o [s] = 0) : o = false ∧ 1 ≤ s.size ∧ s.size ≤ 128 := by
  unfold lookE at h
  cases o with
  | true => simp at h
  | false =>
    simp [okName] at h
    exact ⟨rfl, by omega, by omega⟩
theorem lenF_ok (h : OkFs fs) : lenF n fs ≤ 8388608 := by
  unfold lenF
  split
  · rename_i x hx; exact h.len _ _ hx
  · omega
theorem bytes_touch {A : Addr} {bs : List Nat} (h : Bytes w (some A) bs) {G : Nat → Prop} (ht : Touch G w w') (hG : 0 < bs.length → ¬ G A.block) : Bytes w' (some A) bs := ⟨h.1, fun h0 => by
  obtain ⟨ad, e, hlt, hc⟩ := h.2 h0
  injection e with e; subst e
  refine ⟨A, rfl, Nat.lt_of_lt_of_le hlt ht.size, fun j y hy => ?_⟩
  rw [← hc j y hy]
  have := add_block A j
  exact World.cell?_of_block (by rw [this]; exact ht.block _ hlt (hG h0))⟩
set_option maxRecDepth 100000 in
set_option maxHeartbeats 2000000 in
theorem append_bad (h : DiskAt w p d F m g v) (s : ByteArray) (A : Addr) (bs : List Nat) (c : Nat) (hs : s.size ≤ 9223372036854775807) (hlk : ¬ lookE d.off [s] = 0) :
    Calls Try.prog 14 #[.pointer (some ⟨p, 0, none⟩), .string s, .slice (some A) bs.length c] w fun e w' => e = .returned (.int .i64 (lookE d.off [s])) ∧ DiskAt w' p d F m g v ∧ Touch (fun _ => False) w w' := by
  have hl2 : (lookE d.off [s] != 0) = true := by simpa using hlk
  have HH := Lib.hid h; clear h hlk
  have hbx := boxes4 w TP TS TB TS [.pointer (some ⟨p, 0, none⟩)] [.string s] [.slice (some A) bs.length c] [.string s]
  go_enter Try.func14, Try.ntmps14
  go_wp2_with fail
  obtain ⟨kd, hkd⟩ : ∃ kd, kd = w.heap.size := ⟨_, rfl⟩
  obtain ⟨ks, hks⟩ : ∃ ks, ks = w.heap.size + 1 := ⟨_, rfl⟩
  obtain ⟨kb, hkb⟩ : ∃ kb, kb = w.heap.size + 1 + 1 := ⟨_, rfl⟩
  obtain ⟨kn, hkn⟩ : ∃ kn, kn = w.heap.size + 1 + 1 + 1 := ⟨_, rfl⟩
  rw [← hkn, ← hkb, ← hks, ← hkd]
  rw [← hkn, ← hkb, ← hks, ← hkd] at hbx
  generalize (((w.alloc (.cells #[.pointer (some ⟨p, 0, none⟩)] TP)).alloc (.cells #[.string s] TS)).alloc (.cells #[.slice (some A) bs.length c] TB)).alloc (.cells #[.string s] TS) = W at hbx ⊢
  obtain ⟨hd1, hs1, hb1, hn1, ht1, hz1⟩ := hbx
  have hD1 := HH.out.still ht1
  have hlook := look_any hD1.row kn [s] [] hn1 1 (by simp) (by simp) (by simpa using hs)
  have HLk := Lib.hid hlook; have HD1 := Lib.hid hD1; have Hd1 := Lib.hid hd1; have Hs1 := Lib.hid hs1; have Hb1 := Lib.hid hb1; have HT1 := Lib.hid ht1; have HZ1 := Lib.hid hz1
  have Hkd := Lib.hid hkd; have Hks := Lib.hid hks; have Hkb := Lib.hid hkb
  clear hlook hD1 hd1 hs1 hb1 hn1 ht1 hz1 hkd hks hkb hkn
  refine (HLk.out).mono ?_; rintro e w1 ⟨rfl, rfl⟩
  go_wp2_with fail
  go_ret
  exact ⟨rfl, HD1.out, HT1.out⟩
set_option maxRecDepth 100000 in
set_option maxHeartbeats 2000000 in
theorem append_limit (h : DiskAt w p d F m g v) (s : ByteArray) (A : Addr) (bs : List Nat) (c : Nat) (hs : s.size ≤ 9223372036854775807) (hb : bs.length ≤ 1000000000) (hlk : lookE d.off [s] = 0) (hlim : 8388608 < lenF s.data.toList d.fs + bs.length) :
    Calls Try.prog 14 #[.pointer (some ⟨p, 0, none⟩), .string s, .slice (some A) bs.length c] w fun e w' => e = .returned (.int .i64 3) ∧ DiskAt w' p d F m g v ∧ Touch (fun _ => False) w w' := by
  obtain ⟨L, hL⟩ : ∃ L, L = lenF s.data.toList d.fs := ⟨_, rfl⟩
  rw [← hL] at hlim
  have hL8 : L ≤ 8388608 := by rw [hL]; exact lenF_ok h.ok
  have HH := Lib.hid h; have HL := Lib.hid hlk; have HLe := Lib.hid hL; clear h hlk hL
  have hbx := boxes4 w TP TS TB TS [.pointer (some ⟨p, 0, none⟩)] [.string s] [.slice (some A) bs.length c] [.string s]
  go_enter Try.func14, Try.ntmps14
  go_wp2_with fail
  obtain ⟨kd, hkd⟩ : ∃ kd, kd = w.heap.size := ⟨_, rfl⟩
  obtain ⟨ks, hks⟩ : ∃ ks, ks = w.heap.size + 1 := ⟨_, rfl⟩
  obtain ⟨kb, hkb⟩ : ∃ kb, kb = w.heap.size + 1 + 1 := ⟨_, rfl⟩
  obtain ⟨kn, hkn⟩ : ∃ kn, kn = w.heap.size + 1 + 1 + 1 := ⟨_, rfl⟩
  rw [← hkn, ← hkb, ← hks, ← hkd]
  rw [← hkn, ← hkb, ← hks, ← hkd] at hbx
  generalize (((w.alloc (.cells #[.pointer (some ⟨p, 0, none⟩)] TP)).alloc (.cells #[.string s] TS)).alloc (.cells #[.slice (some A) bs.length c] TB)).alloc (.cells #[.string s] TS) = W at hbx ⊢
  obtain ⟨hd1, hs1, hb1, hn1, ht1, hz1⟩ := hbx
  have hD1 := HH.out.still ht1
  have hlook := look_any hD1.row kn [s] [] hn1 1 (by simp) (by simp) (by simpa using hs)
  have HLk := Lib.hid hlook; have HD1 := Lib.hid hD1; have Hd1 := Lib.hid hd1; have Hs1 := Lib.hid hs1; have Hb1 := Lib.hid hb1; have HT1 := Lib.hid ht1; have HZ1 := Lib.hid hz1
  have Hkd := Lib.hid hkd; have Hks := Lib.hid hks; have Hkb := Lib.hid hkb
  clear hlook hD1 hd1 hs1 hb1 hn1 ht1 hz1 hkd hks hkb hkn
  have e0 := HLk.out
  rw [HL.out] at e0
  have HLk0 := Lib.hid e0; clear e0
  refine (HLk0.out).mono ?_; rintro e w1 ⟨rfl, rfl⟩
  obtain ⟨d0, d1, d2, d3, d4, d5⟩ := drow HD1.out.row
  have q1 : W.cell? ⟨kd, 0, none⟩ = some (.pointer (some ⟨p, 0, none⟩)) := Hd1.out.cell 0
  have q2 : W.cell? ⟨ks, 0, none⟩ = some (.string s) := Hs1.out.cell 0
  have q3 : W.cell? ⟨kb, 0, none⟩ = some (.slice (some A) bs.length c) := Hb1.out.cell 0
  have hlq := fun k => length_quiet HD1.out.row HD1.out.map HD1.out.files s hs k
  rw [← HLe.out] at hlq
  have HLq := Lib.hid hlq; clear hlq
  go_wp2_with fail
  have hwr : IntKind.i64.wrap (8388608 - (L : Int)) = 8388608 - (L : Int) := IntWalk.i64_in _ (by omega)
  go_quiet ((go_at_call 36; exact HLq.out _))
  go_wp2_with fail
  go_ret
  exact ⟨rfl, HD1.out.still ((Touch.refl _ _).drewN _), HT1.out.drewN _⟩
set_option maxRecDepth 100000 in
set_option maxHeartbeats 2000000 in
theorem append_full (h : DiskAt w p d F m g v) (s : ByteArray) (A : Addr) (bs : List Nat) (c : Nat) (hs : s.size ≤ 9223372036854775807) (hb : bs.length ≤ 1000000000) (hlk : lookE d.off [s] = 0) (hlim : lenF s.data.toList d.fs + bs.length ≤ 8388608) (hfull : d.room < usedF d.fs + bs.length) :
    Calls Try.prog 14 #[.pointer (some ⟨p, 0, none⟩), .string s, .slice (some A) bs.length c] w fun e w' => e = .returned (.int .i64 31) ∧ DiskAt w' p d F m g v ∧ Touch (fun _ => False) w w' := by
  obtain ⟨L, hL⟩ : ∃ L, L = lenF s.data.toList d.fs := ⟨_, rfl⟩
  rw [← hL] at hlim
  obtain ⟨U, hU⟩ : ∃ U, U = usedF d.fs := ⟨_, rfl⟩
  have hu := h.used; have hro := h.room
  rw [← hU] at hu hfull
  have HH := Lib.hid h; have HL := Lib.hid hlk; have HLe := Lib.hid hL; have HU := Lib.hid hU; clear h hlk hL hU
  have hbx := boxes4 w TP TS TB TS [.pointer (some ⟨p, 0, none⟩)] [.string s] [.slice (some A) bs.length c] [.string s]
  go_enter Try.func14, Try.ntmps14
  go_wp2_with fail
  obtain ⟨kd, hkd⟩ : ∃ kd, kd = w.heap.size := ⟨_, rfl⟩
  obtain ⟨ks, hks⟩ : ∃ ks, ks = w.heap.size + 1 := ⟨_, rfl⟩
  obtain ⟨kb, hkb⟩ : ∃ kb, kb = w.heap.size + 1 + 1 := ⟨_, rfl⟩
  obtain ⟨kn, hkn⟩ : ∃ kn, kn = w.heap.size + 1 + 1 + 1 := ⟨_, rfl⟩
  rw [← hkn, ← hkb, ← hks, ← hkd]
  rw [← hkn, ← hkb, ← hks, ← hkd] at hbx
  generalize (((w.alloc (.cells #[.pointer (some ⟨p, 0, none⟩)] TP)).alloc (.cells #[.string s] TS)).alloc (.cells #[.slice (some A) bs.length c] TB)).alloc (.cells #[.string s] TS) = W at hbx ⊢
  obtain ⟨hd1, hs1, hb1, hn1, ht1, hz1⟩ := hbx
  have hD1 := HH.out.still ht1
  have hlook := look_any hD1.row kn [s] [] hn1 1 (by simp) (by simp) (by simpa using hs)
  have HLk := Lib.hid hlook; have HD1 := Lib.hid hD1; have Hd1 := Lib.hid hd1; have Hs1 := Lib.hid hs1; have Hb1 := Lib.hid hb1; have HT1 := Lib.hid ht1; have HZ1 := Lib.hid hz1
  have Hkd := Lib.hid hkd; have Hks := Lib.hid hks; have Hkb := Lib.hid hkb
  clear hlook hD1 hd1 hs1 hb1 hn1 ht1 hz1 hkd hks hkb hkn
  have e0 := HLk.out
  rw [HL.out] at e0
  have HLk0 := Lib.hid e0; clear e0
  refine (HLk0.out).mono ?_; rintro e w1 ⟨rfl, rfl⟩
  obtain ⟨d0, d1, d2, d3, d4, d5⟩ := drow HD1.out.row
  have q1 : W.cell? ⟨kd, 0, none⟩ = some (.pointer (some ⟨p, 0, none⟩)) := Hd1.out.cell 0
  have q2 : W.cell? ⟨ks, 0, none⟩ = some (.string s) := Hs1.out.cell 0
  have q3 : W.cell? ⟨kb, 0, none⟩ = some (.slice (some A) bs.length c) := Hb1.out.cell 0
  rw [← HU.out] at d1
  have hwr2 : IntKind.i64.wrap ((d.room : Int) - (U : Int)) = (d.room : Int) - (U : Int) := IntWalk.i64_in _ (by omega)
  have hlq := fun k => length_quiet HD1.out.row HD1.out.map HD1.out.files s hs k
  rw [← HLe.out] at hlq
  have HLq := Lib.hid hlq; clear hlq
  go_wp2_with fail
  have hwr : IntKind.i64.wrap (8388608 - (L : Int)) = 8388608 - (L : Int) := IntWalk.i64_in _ (by omega)
  go_quiet ((go_at_call 36; exact HLq.out _))
  go_wp2_with fail
  go_quiet (fail)
  go_wp2_with fail
  go_ret
  exact ⟨rfl, HD1.out.still (((Touch.refl _ _).drewN _).drewN _), (HT1.out.drewN _).drewN _⟩
end
end Go.Proofs.Ytiagoaaldpajmaa
