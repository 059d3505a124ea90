/- Several texts in one: Copy2, DeedsLaw. -/
import Derived.Test.YtiagoaaldpajmaaVzh
import Derived.Test.YtiagoaaldpajmaaVze
import Derived.Test.YtiagoaaldpajmaaVzf
import Derived.Lib.SlBytesConst
namespace Go.Proofs.Ytiagoaaldpajmaa
open Go.ChangeShapes Go.WideShapes Go.ChangeAt Go.RowKit Go.BigFrame Go.Maps Go.Sort
set_option linter.unusedVariables false
section
variable {w0 w w' : World} {F : Nat → Prop} {fs : Fs} {g : Nm → Nat} {v : Nm → Value} {p : Nat} {d : DM} {m : Option Nat}
set_option maxRecDepth 100000 in
set_option maxHeartbeats 8000000 in
theorem copy_none (h : DiskAt w p d F none g v) :
    Calls Try.prog 13 #[.pointer (some ⟨p, 0, none⟩)] w fun e w' => e = .returned (.pointer (some ⟨w.heap.size + 1, 0, none⟩)) ∧ IsDisk w' (w.heap.size + 1) d (fun k => w.heap.size ≤ k ∧ k < w'.heap.size) ∧ Below w.heap.size w w' := by
  obtain ⟨h0, h1, h2, h3, h4, h5⟩ := drow h.row
  have hlt := h.row.lt
  have hfs : d.fs = [] := h.map
  have hmm : ∀ (w2 : World), (Instr.makeMap TM (some (.int .i64 0))).run Try.prog w2 = .ok (.map (some w2.heap.size)) (w2.alloc (.map #[] 0)) := fun w2 => by simp [Instr.makeMap, asInt, asIntOf]
  have HH := Lib.hid h; have HFs := Lib.hid hfs
  clear h hfs
  go_enter Try.func13, Try.ntmps13
  go_wp2_with fail
  go_region
  obtain ⟨W3, hW3⟩ : ∃ W3, W3 = ((w.alloc (.map #[] 0)).alloc (.cells #[.int .i64 (d.room : Nat), .int .i64 (usedF d.fs : Nat), .map (some w.heap.size), .int .i64 0, .bool d.off, .int .u64 (d.fuse : Nat)] TD)).drew := ⟨_, rfl⟩
  have hz3 : W3.heap.size = w.heap.size + 2 := by rw [hW3]; simp
  have hb3 : Below w.heap.size w W3 := by rw [hW3]; exact (((Below.refl _ _).alloc (Nat.le_refl _) _).alloc (by simp) _).drew
  have hr3 : Row W3 (w.heap.size + 1) TD (dcells d.room (usedF d.fs) (some w.heap.size) 0 d.off d.fuse) := by
    rw [hW3]
    have := Row.made (w.alloc (.map #[] 0)) TD (dcells d.room (usedF d.fs) (some w.heap.size) 0 d.off d.fuse)
    rw [show (w.alloc (.map #[] 0)).heap.size = w.heap.size + 1 by simp] at this
    exact this.drew
  have hm3 : W3.ownsMap (H := Unit) Try.prog 9 refPtr w.heap.size 0 (.map []) := by
    rw [hW3]; exact ((World.ownsMap_made w Try.prog 9 refPtr).alloc _).drew
  rw [← hW3]
  clear hW3
  obtain ⟨W4, hW4⟩ : ∃ W4, W4 = W3.drew.setCell ⟨w.heap.size + 1, 3, none⟩ (.int .i64 (d.deeds : Nat)) := ⟨_, rfl⟩
  have ht4 : Touch (· = w.heap.size + 1) W3 W4 := by rw [hW4]; exact (Touch.refl (· = w.heap.size + 1) W3).drew.setCell (p := ⟨w.heap.size + 1, 3, none⟩) (.inl rfl) _
  have hr4 : Row W4 (w.heap.size + 1) TD (dcells d.room (usedF d.fs) (some w.heap.size) d.deeds d.off d.fuse) := by rw [hW4]; exact hr3.drew.put 3 (.int .i64 (d.deeds : Nat))
  have hz4 : W4.heap.size = w.heap.size + 2 := by rw [hW4]; simpa using hz3
  have hb4 : Below w.heap.size w W4 := hb3.trans (ht4.below (by rintro i rfl; omega) hb3.size)
  have hm4 : W4.ownsMap (H := Unit) Try.prog 9 refPtr w.heap.size 0 (.map []) := ownsMap_touch hm3 ht4 (by omega)
  have hc3 : W3.drew.cell? ⟨p, 3, none⟩ = some (.int .i64 (d.deeds : Nat)) := (World.cell?_of_block (hb3.block p hlt)).trans h3
  have hc3' : W3.drew.cell? ⟨w.heap.size + 1, 3, none⟩ = some (.int .i64 ((0 : Nat) : Int)) := hr3.drew.cell 3
  have hf3 : W3.drew.frozen? ⟨w.heap.size + 1, 3, none⟩ = false := hr3.drew.free 3
  have hc2 : W4.cell? ⟨p, 2, none⟩ = some (.map none) := (World.cell?_of_block (hb4.block p hlt)).trans h2
  have hfin : IsDisk (W4.alloc (.mapIter none 0 #[] 0)) (w.heap.size + 1) d (fun k => w.heap.size ≤ k ∧ k < (W4.alloc (.mapIter none 0 #[] 0)).heap.size) := by
    have hD := HH.out
    have hsz : (W4.alloc (.mapIter none 0 #[] 0)).heap.size = w.heap.size + 3 := by simp; omega
    refine ⟨some w.heap.size, g, v, hr4.alloc _, ?_, ?_, ⟨by omega, by omega⟩, fun b hb => by cases hb; exact ⟨Nat.le_refl _, by omega⟩, hD.ok, hD.used, hD.room, hD.few, hD.fuse⟩
    · rw [HFs.out]; exact hm4.alloc _
    · rw [HFs.out]; exact ⟨by simp [getF], by simp [getF], by simp [getF], by simp [getF], by simp [getF]⟩
  have hbf : Below w.heap.size w (W4.alloc (.mapIter none 0 #[] 0)) := hb4.alloc hb4.size _
  have hrg := run_range_nilMap (P := Try.prog) W4 TM TS TPF und_map
  have hnx : ∀ ty, (Instr.next (.pointer (some ⟨W4.heap.size, 0, none⟩)) false ty).run Try.prog (W4.alloc (.mapIter none 0 #[] 0)) = _ := fun ty => run_next_nilMap W4 ty 0 0 #[]
  have HW4 := Lib.hid hW4; have HC3 := Lib.hid hc3; have HC3' := Lib.hid hc3'; have HF3 := Lib.hid hf3; have HFin := Lib.hid hfin; have HBf := Lib.hid hbf
  clear hr3 hm3 hz3 hb3 hr4 hz4 hb4 hm4 hW4 hc3 hc3' hf3 h0 h1 h2 h3 h4 h5 hmm ht4 hfin hbf
  go_wp2_with fail
  refine Stage.wp_region (by kernel_rfl) (by kernel_rfl) (Stage.one 7 (StepR W3.drew W4)) (Stage.one_start (by simp) (show StepR W3.drew W4 false W3.drew from rfl)) ?_
  refine Stage.wpSt_reads 6 (fun _ => True) (by kernel_rfl) (Stage.one_any (by simp)) ?_
  simp only [List.take_succ_cons, List.take_zero, List.drop_succ_cons, List.drop_zero]
  repeat (go_big_quiet_step (fail))
  refine wpQuiet_nil ?_
  refine Stage.wpSt_do (.int .i64 (d.deeds : Nat)) rfl (Stage.one_step (by kernel_rfl) (fun w' hw => ?_)) ?_
  · have hw' : w' = W3.drew := hw
    subst hw'
    refine Free.at_call _ _ rfl Try.func33 (by kernel_rfl) rfl [.pointer (some ⟨p, 3, none⟩)] rfl ?_
    exact (load_any p d.deeds _ HC3.out).mono fun e w'' ⟨he, h⟩ => ⟨he, h⟩
  go_simp
  refine Stage.wpSt_do (.tuple #[]) rfl (Stage.one_do (fun w' hw => ?_)) ?_
  · have hw' : w' = W3.drew := hw
    subst hw'
    refine Free.at_call _ _ rfl Try.func32 (by kernel_rfl) rfl [.pointer (some ⟨w.heap.size + 1, 3, none⟩), .int .i64 (d.deeds : Nat)] rfl ?_
    exact (store_any _ 0 d.deeds _ HC3'.out HF3.out).mono fun e w'' ⟨he, h⟩ => ⟨he, h.trans HW4.out.symm⟩
  go_simp
  refine Stage.wpSt_nil (Stage.one_end ?_)
  intro w4 hw4
  have hw4' : w4 = W4 := hw4
  subst hw4'
  clear hw4
  go_wp2_with fail
  refine wp_loop_rounds 1 ?_
  rw [rounds_succ]
  go_wp2
  go_ret
  exact ⟨rfl, HFin.out, HBf.out⟩
/-- Copy: one that is the same, of blocks of its own -/
theorem own_copy (h : OwnF w0 w p d F) (hd : d.deeds ≤ 1000000000) :
    Calls Try.prog 13 #[.pointer (some ⟨p, 0, none⟩)] w fun e w' => ∃ p', e = .returned (.pointer (some ⟨p', 0, none⟩)) ∧ OwnF w0 w' p' d (fun k => w.heap.size ≤ k ∧ k < w'.heap.size) ∧ Below w.heap.size w w' := by
  obtain ⟨mm, g, v, hD⟩ := h.disk
  have key : Calls Try.prog 13 #[.pointer (some ⟨p, 0, none⟩)] w fun e w' => e = .returned (.pointer (some ⟨w.heap.size + 1, 0, none⟩)) ∧ IsDisk w' (w.heap.size + 1) d (fun k => w.heap.size ≤ k ∧ k < w'.heap.size) ∧ Below w.heap.size w w' := by
    cases mm with
    | none => exact copy_none hD
    | some b => exact copy_some b hD hd
  refine key.mono ?_
  rintro e w' ⟨rfl, h1, h2⟩
  exact ⟨_, rfl, ⟨h1, fun k hk => ⟨by have := h.below.size; omega, hk.2⟩, h.below.trans (h2.mono h.below.size)⟩, h2⟩
end
end Go.Proofs.Ytiagoaaldpajmaa
namespace Go.Proofs.Ytiagoaaldpajmaa
open Go.ChangeShapes Go.WideShapes Go.ChangeAt Go.RowKit Go.BigFrame Go.Maps Go.Sort
set_option linter.unusedVariables false
section
variable {w0 w w' : World} {p q po : Nat} {d m e e' : DM} {X Y F M G : Nat → Prop}
/-- blocks of X are written to, and memory is made -/
theorem Pair.writes (h : Pair w0 w p q d m X) (ht : Touch G w w') (hG : ∀ k, G k → X k ∧ w0.heap.size ≤ k) : Pair w0 w' p q d m (Plus X w w') := by
  obtain ⟨F, M, es, A, c, h⟩ := h
  have hs := ht.size
  have hq := h.ref.row.lt
  refine ⟨F, M, es, A, c, h.own.stay ht (fun i hi hg => (h.ex i (hG i hg).1).2.1 hi) (fun i hg => (hG i hg).2), h.ref.touch ht (fun i hi hg => (h.ex i (hG i hg).1).2.2.1 hi) (fun hg => (h.ex q (hG q hg).1).2.2.2 rfl), fun k hk => ⟨(h.mine k hk).1, by have := (h.mine k hk).2; omega⟩, h.qm, h.apart, ?_⟩
  rintro k (hk | hk)
  · exact ⟨by have := (h.ex k hk).1; omega, (h.ex k hk).2⟩
  · exact ⟨hk.2, fun hF => by have := (h.own.mine k hF).2; omega, fun hM => by have := (h.mine k hM).2; omega, by omega⟩
/-- the disk that was copied, beside its copy and the verifier's -/
def Old (w0 w : World) (po : Nat) (e : DM) (p q : Nat) (d : DM) : Prop := ∃ Fo X, OwnF w0 w po e Fo ∧ Pair w0 w p q d d X ∧ ∀ k, Fo k → X k
theorem Old.pair (h : Old w0 w po e p q d) : Pair w0 w p q d d (fun _ => False) := by
  obtain ⟨Fo, X, _, h, _⟩ := h; exact h.less (by simp)
theorem Old.step {Fo : Nat → Prop} (hp : Pair w0 w p q d d X) (hX : ∀ k, Fo k → X k) (ho : OwnF w0 w po e Fo) (h1 : OwnF w0 w' po e' (Ext Fo w w')) (ht : Touch Fo w w') : Old w0 w' po e' p q d :=
  ⟨_, _, h1, hp.writes ht (fun k hk => ⟨hX k hk, (ho.mine k hk).1⟩), fun k hk => by
    rcases hk with hk | hk
    · exact .inl (hX k hk)
    · exact .inr hk⟩
theorem pair_copy (h : Pair w0 w p q d d X) (hd : d.deeds ≤ 1000000000) :
    Calls Try.prog 13 #[.pointer (some ⟨p, 0, none⟩)] w fun e w' => ∃ p', e = .returned (.pointer (some ⟨p', 0, none⟩)) ∧ Old w0 w' p d p' q d := by
  obtain ⟨F, M, es, A, c, h⟩ := h
  refine (own_copy h.own hd).mono ?_
  rintro e w' ⟨p', rfl, h1, hb⟩
  have hs := hb.size
  have hq := h.ref.row.lt
  refine ⟨p', rfl, F, F, h.own.made hb, ⟨_, M, es, A, c, h1, h.ref.still (Touch.of_below hb), fun k hk => ⟨(h.mine k hk).1, by have := (h.mine k hk).2; omega⟩, h.qm, fun k hk => ⟨fun hM => by have := (h.mine k hM).2; omega, by omega⟩, fun k hk => ⟨by have := (h.own.mine k hk).2; omega, fun h2 => by have := (h.own.mine k hk).2; omega, (h.apart k hk).1, (h.apart k hk).2⟩⟩, fun _ hk => hk⟩
theorem Old.alloc (h : Old w0 w po e p q d) (o : Obj) : Old w0 (w.alloc o) po e p q d := by
  obtain ⟨Fo, X, h1, h2, h3⟩ := h
  exact ⟨Fo, X, h1.alloc o, h2.made ((Below.refl _ _).alloc (Nat.le_refl _) o), h3⟩
theorem old_append (h : Old w0 w po e p q d) (s : ByteArray) (hs : s.size ≤ 9223372036854775807) (hd : e.deeds ≤ 1000000000) :
    Calls Try.prog 14 #[.pointer (some ⟨po, 0, none⟩), .string s, .slice (some ⟨w.heap.size, 0, none⟩) 4 4] (w.alloc (.cells #[.int .u8 108, .int .u8 111, .int .u8 115, .int .u8 116] 5 (4, 5))) fun e1 w' => ∃ E, e1 = .returned (.int .i64 E) ∧ Old w0 w' po (appD e s [108, 111, 115, 116]) p q d := by
  obtain ⟨Fo, X, h1, h2, h3⟩ := h
  have hB : Bytes (w.alloc (.cells #[.int .u8 108, .int .u8 111, .int .u8 115, .int .u8 116] 5 (4, 5))) (some ⟨w.heap.size, 0, none⟩) [108, 111, 115, 116] := Bytes.made (xs := [108, 111, 115, 116]) w 5 (4, 5) (by decide)
  have hb : Below w.heap.size w (w.alloc (.cells #[.int .u8 108, .int .u8 111, .int .u8 115, .int .u8 116] 5 (4, 5))) := (Below.refl _ _).alloc (Nat.le_refl _) _
  refine (own_append (h1.made hb) s ⟨w.heap.size, 0, none⟩ [108, 111, 115, 116] 4 hB (fun _ hF => by have := (h1.mine _ hF).2; simp at this) hs (by decide) hd).mono ?_
  rintro e1 w' ⟨rfl, h4, ht⟩
  exact ⟨_, rfl, Old.step (h2.made hb) h3 (h1.made hb) h4 ht⟩
theorem old_crash (h : Old w0 w po e p q d) :
    Calls Try.prog 15 #[.pointer (some ⟨po, 0, none⟩)] w fun e1 w' => e1 = .returned (.tuple #[]) ∧ Old w0 w' po (crashD e) p q d := by
  obtain ⟨Fo, X, h1, h2, h3⟩ := h
  exact (own_crash h1).mono fun e1 w' ⟨he, h4, ht⟩ => ⟨he, Old.step h2 h3 h1 h4 ht⟩
theorem ints_two (w : World) : IntsAt (w.alloc (.cells #[.int .i64 1, .int .i64 2] 3)) (some ⟨w.heap.size, 0, none⟩) [1, 2] :=
  ⟨by simp, fun _ => ⟨w.heap.size, 0, rfl, by simp, fun j y hj => by
    have hr := Row.made w 3 [.int .i64 1, .int .i64 2]
    match j, hj with
    | 0, hj => simp at hj; subst hj; exact hr.cell 0
    | 1, hj => simp at hj; subst hj; exact hr.cell 1
    | j + 2, hj => simp at hj⟩⟩
theorem old_on (h : Old w0 w po e p q d) (hd : e.deeds ≤ 1000000000) :
    Calls Try.prog 16 #[.pointer (some ⟨po, 0, none⟩), .slice (some ⟨w.heap.size, 0, none⟩) 2 2] (w.alloc (.cells #[.int .i64 1, .int .i64 2] 3)) fun e1 w' => e1 = .returned (.tuple #[]) ∧ Old w0 w' po (onD e [1, 2]) p q d := by
  obtain ⟨Fo, X, h1, h2, h3⟩ := h
  have hb : Below w.heap.size w (w.alloc (.cells #[.int .i64 1, .int .i64 2] 3)) := (Below.refl _ _).alloc (Nat.le_refl _) _
  refine (own_on (h1.made hb) (some ⟨w.heap.size, 0, none⟩) [1, 2] 2 (ints_two w) (by simp) (by decide) (fun ad e0 _ hF => by injection e0 with e0; subst e0; have := (h1.mine _ hF).2; simp at this) hd).mono ?_
  rintro e1 w' ⟨rfl, h4, ht⟩
  exact ⟨rfl, Old.step (h2.made hb) h3 (h1.made hb) h4 ht⟩
theorem old_remove (h : Old w0 w po e p q d) (s : ByteArray) (hs : s.size ≤ 9223372036854775807) (hd : e.deeds ≤ 1000000000) :
    Calls Try.prog 17 #[.pointer (some ⟨po, 0, none⟩), .string s] w fun e1 w' => ∃ E, e1 = .returned (.int .i64 E) ∧ Old w0 w' po (removeD e s) p q d := by
  obtain ⟨Fo, X, h1, h2, h3⟩ := h
  exact (own_remove h1 s hs hd).mono fun e1 w' ⟨he, h4, ht⟩ => ⟨_, he, Old.step h2 h3 h1 h4 ht⟩
theorem app_deeds (e : DM) (s : ByteArray) (bs : List Nat) : (appD e s bs).deeds ≤ e.deeds + 1 := by
  unfold appD; repeat' split
  all_goals first | exact Nat.le_succ _ | exact (Near.tick e _).deeds
end
/-- at each round's head -/
def Deeding (w : World) (p q k : Nat) (d : DM) (wr : World) : Prop := Pair w wr p q d d (fun _ => False) ∧ d.deeds ≤ k ∧ d.room ≤ 32767
namespace diskDeeds
set_option maxRecDepth 100000 in
set_option maxHeartbeats 1000000 in
theorem walk_else (z : Int) (A : Option Addr) (l : List De) (c : Nat) (w : World) (hD : Deeds w A l) (hc : l.length ≤ c) (hm : c ≤ 9223372036854775807) (hf : few l = false) :
    Calls Try.prog 3 #[.int .i16 z, .slice A l.length c] w fun e w' => e = .returned (.bool true) ∧ Below w.heap.size w w' := by
  have hfw := few_any w A l c hD hc hm
  rw [hf] at hfw
  have hw := works_any w
  have HW := Lib.hid hw; have HF := Lib.hid hfw; clear hw hfw hD
  go_enter Try.func3, Try.ntmps3
  go_wp2_with fail
  refine (HF.out).mono ?_; rintro e w1 ⟨rfl, rfl⟩
  go_wp2_with fail
  refine (HW.out).mono ?_; rintro e w2 ⟨rfl, hb2⟩
  go_wp2_with fail
  go_ret
  exact ⟨rfl, hb2⟩
set_option maxRecDepth 100000 in
set_option maxHeartbeats 8000000 in
theorem walk (z : Int) (A : Option Addr) (l : List De) (c : Nat) (w : World) (hz : -32768 ≤ z ∧ z ≤ 32767) (hD : Deeds w A l) (hc : l.length ≤ c) (hm : c ≤ 9223372036854775807) (hf : few l = true) :
    Calls Try.prog 3 #[.int .i16 z, .slice A l.length c] w fun e w' => e = .returned (.bool true) ∧ Below w.heap.size w w' := by
  have hfw := few_any w A l c hD hc hm
  rw [hf] at hfw
  obtain ⟨hl50, hsm⟩ := few_out hf
  have hn := own_new (w0 := w) (w := w) z (Below.refl _ _) (by omega)
  have hz64 : IntKind.i64.wrap z = z := wrap_in (by omega) (by omega)
  have kc := fun (w : World) (C : Array Value) (n c : Nat) => Lib.run_convert_bytes_const (P := Try.prog) w 36 5 C n c Try.underlying36 Try.underlying5
  have HF := Lib.hid hfw; have HN := Lib.hid hn; have HD := Lib.hid hD; have HS := Lib.hid hsm; clear hfw hn hD hsm
  go_enter Try.func3, Try.ntmps3
  go_wp2_with fail
  refine (HF.out).mono ?_; rintro e w1 ⟨rfl, rfl⟩
  go_wp2_with fail
  refine (HN.out).mono ?_; rintro e w1 ⟨rfl, ho, -⟩
  obtain ⟨p, hp0⟩ : ∃ p, p = w.heap.size := ⟨_, rfl⟩
  rw [← hp0] at ho ⊢
  clear hp0
  have hrn := ref_new w1 z (by omega)
  have HRn := Lib.hid hrn; have HO := Lib.hid ho; clear hrn ho
  go_wp2_with fail
  refine (HRn.out).mono ?_; rintro e w2 ⟨rfl, hR, hb2, hz2⟩
  obtain ⟨q, hq0⟩ : ∃ q, q = w1.heap.size := ⟨_, rfl⟩
  have hp2 : Pair w w2 p q (newD z) (newD z) (fun _ => False) := by
    rw [← hq0] at hR
    refine ⟨_, _, _, _, _, HO.out.made hb2, hR, by simp, by rw [hq0]; exact HO.out.below.size, fun k hk => ⟨by simp, by have := (HO.out.mine k hk).2; omega⟩, by simp⟩
  rw [← hq0]
  have hde : Deeding w p q 0 (newD z) w2 := ⟨hp2, Nat.le_refl _, by show (max z 0).toNat ≤ _; omega⟩
  have HDe := Lib.hid hde; clear hp2 hde hR hb2 hz2 hq0
  go_wp2_with fail
  go_loopw [5, 7] (fun dp i wr => ∃ (k p : Nat) (d : DM), k ≤ l.length ∧ dp = .pointer (some ⟨p, 0, none⟩) ∧ i = .int .i64 k ∧ Deeding w p q k d wr) (fun _ i _ => l.length - (intOf i).toNat)
  case atStart => exact ⟨0, p, newD z, Nat.zero_le _, rfl, rfl, HDe.out⟩
  case round =>
    clear HDe HO
    obtain ⟨k, p, d, hk, rfl, rfl, hp, hdd, hrm⟩ := hrel
    by_cases hlt : k < l.length
    · obtain ⟨b, off, hA, hbl, hci⟩ := HD.out.2 (by omega)
      have hsz := HS.out l[k] (List.getElem_mem hlt)
      have hok := (HD.out.1 l[k] (List.getElem_mem hlt)).1
      have hcx : ∀ w', Pair w w' p q d d (fun _ => False) ∨ Below w.heap.size w w' → l[k].cells w' b (off + k * 5) ∧ IntsAt w' l[k].ka l[k].keep := fun w' h => by
        have hb : Below w.heap.size w w' := by rcases h with h | h; exact h.below; exact h
        have hDr := HD.out.below hb
        obtain ⟨b', off', hA', -, hci'⟩ := hDr.2 (by omega)
        rw [hA] at hA'
        injection hA' with hA'
        injection hA' with hb' ho'
        subst hb'; subst ho'
        exact ⟨hci' k l[k] (List.getElem?_eq_getElem hlt), (hDr.1 l[k] (List.getElem_mem hlt)).2⟩
      have hKo := (HD.out.1 l[k] (List.getElem_mem hlt)).2
      subst hA
      generalize l[k] = x at hcx hsz hok hKo
      have hKX : ∀ ad, x.ka = some ad → 0 < x.keep.length → ad.block < w.heap.size := fun ad e h0 => by
        obtain ⟨kb, ko, e2, hlt2, _⟩ := hKo.2 h0
        rw [e] at e2; injection e2 with e2; subst e2; exact hlt2
      have hn := hok.name
      have hkd := hok.kind
      -- what stands behind the copy
      have hrest : ∀ w3 p3, Pair w w3 p3 q d d (fun _ => False) → (Calls Try.prog 18 #[.pointer (some ⟨p3, 0, none⟩), .pointer (some ⟨q, 0, none⟩), .agg #[.int .u8 (x.kind : Nat), .string x.name, .string x.b, .int .i64 x.n, .slice x.ka x.keep.length x.kc]] w3 fun e w' => e = .returned (.bool true) ∧ PairTo w w3 w' p3 q (doD d x) (doD d x) (fun _ => False)) ∧ x.cells w3 b (off + k * 5) := fun w3 p3 h3 => by
        obtain ⟨hc3, hK3⟩ := hcx w3 (.inr h3.below)
        exact ⟨does_any h3 x hok (by omega) hK3 hKX (by omega) (by omega), hc3⟩
      have hnear := Near.do_ d x
      have HRest := Lib.hid hrest; have HNear := Lib.hid hnear; have HP := Lib.hid hp; have HCx := Lib.hid hcx
      obtain ⟨hc0, hc1, hc2, hc3, hc4⟩ := (hcx wr (.inl hp)).1
      clear hrest hnear hcx hKX hKo hok hp hci
      by_cases h9 : x.kind = 9
      · have hq9 : ((x.kind : Int) == 9) = true := by rw [h9]; rfl
        have hcp := pair_copy HP.out (by omega)
        have HCp := Lib.hid hcp; clear hcp
        clear hc2 hc3 hc4
        go_wp2_with fail
        refine (HCp.out).mono ?_; rintro e w3 ⟨p3, rfl, ho3⟩
        have hcn3 : w3.cell? ⟨b, off + k * 5 + 1, none⟩ = some (.string x.name) := (HCx.out w3 (.inr ho3.pair.below)).1.2.1
        have hap := old_append ho3 x.name hn (by omega)
        have HAp := Lib.hid hap; clear hap ho3
        go_wp2_with fail
        refine (HAp.out).mono ?_; rintro e w4 ⟨E4, rfl, ho4⟩
        have hcr := old_crash ho4
        have HCr := Lib.hid hcr; clear hcr ho4
        go_wp2_with fail
        refine (HCr.out).mono ?_; rintro e w5 ⟨rfl, ho5⟩
        have hd5 := app_deeds d x.name [108, 111, 115, 116]
        have hon := old_on ho5 (by show (appD d x.name [108, 111, 115, 116]).deeds ≤ _; omega)
        have HOn := Lib.hid hon; clear hon ho5
        go_wp2_with fail
        refine (HOn.out).mono ?_; rintro e w6 ⟨rfl, ho6⟩
        have hcn6 : w6.cell? ⟨b, off + k * 5 + 1, none⟩ = some (.string x.name) := (HCx.out w6 (.inr ho6.pair.below)).1.2.1
        have hrv := old_remove ho6 x.name hn (by unfold onD; split <;> (show (appD d x.name [108, 111, 115, 116]).deeds ≤ _; omega))
        have HRv := Lib.hid hrv; clear hrv ho6 hd5
        go_wp2_with fail
        refine (HRv.out).mono ?_; rintro e w7 ⟨E7, rfl, ho7⟩
        obtain ⟨hdo, hc0', hc1', hc2', hc3', hc4'⟩ := HRest.out w7 p3 ho7.pair
        rw [h9] at hdo hc0'
        rw [show (((9 : Nat) : Int)) = 9 from rfl] at hdo hc0'
        have HDo := Lib.hid hdo; clear hdo ho7 hc0 hc1 hcn3 hcn6
        go_wp2_with fail
        refine (HDo.out).mono ?_; rintro e w8 ⟨rfl, hp8, -⟩
        have hte := tells_any hp8 (by have := HNear.out.deeds; omega) (by rw [HNear.out.room]; omega)
        have HTe := Lib.hid hte; have HP8 := Lib.hid hp8; clear hte hp8 hc0' hc1' hc2' hc3' hc4'
        go_wp2_with fail
        refine (HTe.out).mono ?_; rintro e w9 ⟨rfl, hb9⟩
        have HP9 := Lib.hid (HP8.out.made hb9); clear hb9
        go_wp2_with fail
        go_roundw
        case rel => exact ⟨k + 1, p3, doD d x, by omega, rfl, by go_num, HP9.out, by have := HNear.out.deeds; omega, by rw [HNear.out.room]; exact hrm⟩
        case measure => simp [intOf]; omega
      · have hq9 : ((x.kind : Int) == 9) = false := by simp; omega
        obtain ⟨hdo, -⟩ := HRest.out wr p HP.out
        have HDo := Lib.hid hdo; clear hdo
        go_wp2_with fail
        refine (HDo.out).mono ?_; rintro e w8 ⟨rfl, hp8, -⟩
        have hte := tells_any hp8 (by have := HNear.out.deeds; omega) (by rw [HNear.out.room]; omega)
        have HTe := Lib.hid hte; have HP8 := Lib.hid hp8; clear hte hp8 hc0 hc1 hc2 hc3 hc4
        go_wp2_with fail
        refine (HTe.out).mono ?_; rintro e w9 ⟨rfl, hb9⟩
        have HP9 := Lib.hid (HP8.out.made hb9); clear hb9
        go_wp2_with fail
        go_roundw
        case rel => exact ⟨k + 1, p, doD d x, by omega, rfl, by go_num, HP9.out, by have := HNear.out.deeds; omega, by rw [HNear.out.room]; exact hrm⟩
        case measure => simp [intOf]; omega
    · have hw := works_any wr
      have HW := Lib.hid hw; have HB := Lib.hid hp.below; clear hw hp
      go_wp2_with fail
      refine (HW.out).mono ?_; rintro e w5 ⟨rfl, hb5⟩
      have HB5 := Lib.hid hb5; clear hb5
      go_wp2_with fail
      go_ret
      exact ⟨rfl, HB.out.trans (HB5.out.mono HB.out.size)⟩
theorem walk_any (z : Int) (A : Option Addr) (l : List De) (c : Nat) (w : World) (hz : -32768 ≤ z ∧ z ≤ 32767) (hD : Deeds w A l) (hc : l.length ≤ c) (hm : c ≤ 9223372036854775807) :
    Calls Try.prog 3 #[.int .i16 z, .slice A l.length c] w fun e w' => e = .returned (.bool true) ∧ Below w.heap.size w w' := by
  cases h : few l with
  | false => exact walk_else z A l c w hD hc hm h
  | true => exact walk z A l c w hz hD hc hm h

set_option maxRecDepth 100000 in
theorem lifted (os : Os) (started : os.Started) (H : Type) (enc : TypeId × Value → H) :
    ReturnsInHanded {} Try.checked os 3 .any (Rows.diskDeedsSpec.pre6 enc Try.prog Try.f3 Rows.diskDeedsRow.domain false) (Rows.diskDeedsSpec.post enc Try.prog Try.f3 false true false false) := by
  refine returnsInHanded_of_change_sized (C := Try.checked) ownKnob_none started (by kernel_rfl) Try.func3
    (ChangeSpec.witness6 (enc := enc) (C := Try.checked) false ⟨#[], #[.int .i16 0, .slice none 0 0], []⟩ 8 (by kernel_rfl) (by kernel_rfl) (by kernel_rfl) (by kernel_rfl)) ?_
  intro W base args ds gs before hval0 hW hcnd hsz0 _
  have hval : ∀ (j : Nat) t v, Try.f3.params[j]? = some t → args[j]? = some v → Value.okWide Try.prog W .any base t v := hval0
  have hW' := hW
  obtain ⟨p, q, hA0, hV, rfl, hfz, hnd⟩ := hW
  have hA : DataW.TrodAll enc Try.prog W 0 (fun _ => true) true Try.f3.params.toList args.toList ds p := hA0
  have hsz : (DataW.weightsEach Try.prog (Try.f3.params.toList ++ Rows.diskDeedsSpec.plain.varTypes Try.prog) (ds ++ gs)).all (· ≤ reachBytes) = true := hsz0
  rw [Try.params3] at hA hval hsz
  obtain ⟨v0, vs0, d0, ds0, p0, q0, hargs, rfl, rfl, h0, r0⟩ := trodAll_cons hA
  obtain ⟨v1, vs1, d1, ds1, p1, q1, rfl, rfl, rfl, h1, r1⟩ := trodAll_cons r0
  obtain ⟨rfl, rfl, rfl⟩ := trodAll_nil r1
  obtain rfl : args = #[v0, v1] := by cases args; simp_all
  obtain ⟨rfl, rfl⟩ := trodVars_none hV
  obtain ⟨a0, rfl, rfl, rfl, w0⟩ := open_int Try.underlying22 (hval 0 22 v0 rfl rfl) h0
  have b0 := i16_wf w0
  obtain ⟨A1, l1, c1, rfl, hL1, hlc1, hcm1⟩ := open_deeds (hval 1 23 v1 rfl rfl) h1
  clear hA0 hval0 hsz0
  refine (walk_any a0 A1 l1 c1 W (by omega) hL1 hlc1 hcm1).mono fun e W' ⟨he, hg⟩ => ?_
  subst he
  exact ⟨_, rfl, law_post progLaid hW' rfl (by rw [Try.params3]; intro t ht; simp at ht; rcases ht with rfl | rfl <;> exact ⟨by kernel_rfl, of_decide_eq_true (by kernel_rfl)⟩) rfl Try.underlying4 rfl hg⟩

theorem over : Rows.diskDeedsRow.holds Try.pinned (OpenSpec.ofChange Rows.diskDeedsSpec) :=
  OpenClaim.holds_of_wide 3 Try.f3 rfl rfl rfl rfl rfl rfl rfl ⟨rfl, rfl, rfl, rfl, rfl⟩ rfl rfl rfl rfl rfl (by kernel_rfl) Try.func3 (by kernel_rfl)
    (of_decide_eq_true (by kernel_rfl)) (by unfold Func.isWrapper; first | (rw [if_pos (by decide +kernel)]; kernel_rfl) | (rw [if_neg (by decide +kernel)]; exact ⟨rfl, rfl⟩))
    (fun os started H enc _ => lifted os started H enc)

/-- The statement. -/
theorem proved : Rows.DiskDeedsSaid :=
  over
end diskDeeds
end Go.Proofs.Ytiagoaaldpajmaa
