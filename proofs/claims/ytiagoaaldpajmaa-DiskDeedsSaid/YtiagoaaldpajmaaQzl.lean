/- Several texts in one: Copy2. -/
import Derived.Test.YtiagoaaldpajmaaQzk
namespace Go.Proofs.Ytiagoaaldpajmaa
open Go.ChangeShapes Go.WideShapes Go.ChangeAt Go.RowKit Go.BigFrame Go.Maps Go.Sort
set_option linter.unusedVariables false
section
variable {w0 w w' : World} {F : Nat → Prop} {fs : Fs} {g : Nm → Nat} {v : Nm → Value} {p : Nat} {d : DM} {m : Option Nat}
set_option maxRecDepth 100000 in
set_option maxHeartbeats 8000000 in
theorem copy_none (h : DiskAt w p d F none g v) :
    Calls Try.prog 13 #[.pointer (some ⟨p, 0, none⟩)] w fun e w' => e = .returned (.pointer (some ⟨w.heap.size + 1, 0, none⟩)) ∧ IsDisk w' (w.heap.size + 1) d (fun k => w.heap.size ≤ k ∧ k < w'.heap.size) ∧ Below w.heap.size w w' := by
  obtain ⟨h0, h1, h2, h3, h4, h5⟩ := drow h.row
  have hlt := h.row.lt
  have hfs : d.fs = [] := h.map
  have hmm : ∀ (w2 : World), (Instr.makeMap TM (some (.int .i64 0))).run Try.prog w2 = .ok (.map (some w2.heap.size)) (w2.alloc (.map #[] 0)) := fun w2 => by simp [Instr.makeMap, asInt, asIntOf]
  have HH := Lib.hid h; have HFs := Lib.hid hfs
  clear h hfs
  go_enter Try.func13, Try.ntmps13
  go_wp2_with fail
  go_region
  obtain ⟨W3, hW3⟩ : ∃ W3, W3 = ((w.alloc (.map #[] 0)).alloc (.cells #[.int .i64 (d.room : Nat), .int .i64 (usedF d.fs : Nat), .map (some w.heap.size), .int .i64 0, .bool d.off, .int .u64 (d.fuse : Nat)] TD)).drew := ⟨_, rfl⟩
  have hz3 : W3.heap.size = w.heap.size + 2 := by rw [hW3]; simp
  have hb3 : Below w.heap.size w W3 := by rw [hW3]; exact (((Below.refl _ _).alloc (Nat.le_refl _) _).alloc (by simp) _).drew
  have hr3 : Row W3 (w.heap.size + 1) TD (dcells d.room (usedF d.fs) (some w.heap.size) 0 d.off d.fuse) := by
    rw [hW3]
    have := Row.made (w.alloc (.map #[] 0)) TD (dcells d.room (usedF d.fs) (some w.heap.size) 0 d.off d.fuse)
    rw [show (w.alloc (.map #[] 0)).heap.size = w.heap.size + 1 by simp] at this
    exact this.drew
  have hm3 : W3.ownsMap (H := Unit) Try.prog 9 refPtr w.heap.size 0 (.map []) := by
    rw [hW3]; exact ((World.ownsMap_made w Try.prog 9 refPtr).alloc _).drew
  rw [← hW3]
  clear hW3
  obtain ⟨W4, hW4⟩ : ∃ W4, W4 = W3.drew.setCell ⟨w.heap.size + 1, 3, none⟩ (.int .i64 (d.deeds : Nat)) := ⟨_, rfl⟩
  have ht4 : Touch (· = w.heap.size + 1) W3 W4 := by rw [hW4]; exact (Touch.refl (· = w.heap.size + 1) W3).drew.setCell (p := ⟨w.heap.size + 1, 3, none⟩) (.inl rfl) _
  have hr4 : Row W4 (w.heap.size + 1) TD (dcells d.room (usedF d.fs) (some w.heap.size) d.deeds d.off d.fuse) := by rw [hW4]; exact hr3.drew.put 3 (.int .i64 (d.deeds : Nat))
  have hz4 : W4.heap.size = w.heap.size + 2 := by rw [hW4]; simpa using hz3
  have hb4 : Below w.heap.size w W4 := hb3.trans (ht4.below (by rintro i rfl; omega) hb3.size)
  have hm4 : W4.ownsMap (H := Unit) Try.prog 9 refPtr w.heap.size 0 (.map []) := ownsMap_touch hm3 ht4 (by omega)
  have hc3 : W3.drew.cell? ⟨p, 3, none⟩ = some (.int .i64 (d.deeds : Nat)) := (World.cell?_of_block (hb3.block p hlt)).trans h3
  have hc3' : W3.drew.cell? ⟨w.heap.size + 1, 3, none⟩ = some (.int .i64 ((0 : Nat) : Int)) := hr3.drew.cell 3
  have hf3 : W3.drew.frozen? ⟨w.heap.size + 1, 3, none⟩ = false := hr3.drew.free 3
  have hc2 : W4.cell? ⟨p, 2, none⟩ = some (.map none) := (World.cell?_of_block (hb4.block p hlt)).trans h2
  have hfin : IsDisk (W4.alloc (.mapIter none 0 #[] 0)) (w.heap.size + 1) d (fun k => w.heap.size ≤ k ∧ k < (W4.alloc (.mapIter none 0 #[] 0)).heap.size) := by
    have hD := HH.out
    have hsz : (W4.alloc (.mapIter none 0 #[] 0)).heap.size = w.heap.size + 3 := by simp; omega
    refine ⟨some w.heap.size, g, v, hr4.alloc _, ?_, ?_, ⟨by omega, by omega⟩, fun b hb => by cases hb; exact ⟨Nat.le_refl _, by omega⟩, hD.ok, hD.used, hD.room, hD.few, hD.fuse⟩
    · rw [HFs.out]; exact hm4.alloc _
    · rw [HFs.out]; exact ⟨by simp [getF], by simp [getF], by simp [getF], by simp [getF], by simp [getF]⟩
  have hbf : Below w.heap.size w (W4.alloc (.mapIter none 0 #[] 0)) := hb4.alloc hb4.size _
  have hrg := run_range_nilMap (P := Try.prog) W4 TM TS TPF und_map
  have hnx : ∀ ty, (Instr.next (.pointer (some ⟨W4.heap.size, 0, none⟩)) false ty).run Try.prog (W4.alloc (.mapIter none 0 #[] 0)) = _ := fun ty => run_next_nilMap W4 ty 0 0 #[]
  have HW4 := Lib.hid hW4; have HC3 := Lib.hid hc3; have HC3' := Lib.hid hc3'; have HF3 := Lib.hid hf3; have HFin := Lib.hid hfin; have HBf := Lib.hid hbf
  clear hr3 hm3 hz3 hb3 hr4 hz4 hb4 hm4 hW4 hc3 hc3' hf3 h0 h1 h2 h3 h4 h5 hmm ht4 hfin hbf
  go_wp2_with fail
  refine Stage.wp_region (by kernel_rfl) (by kernel_rfl) (Stage.one 7 (StepR W3.drew W4)) (Stage.one_start (by simp) (show StepR W3.drew W4 false W3.drew from rfl)) ?_
  refine Stage.wpSt_reads 6 (fun _ => True) (by kernel_rfl) (Stage.one_any (by simp)) ?_
  simp only [List.take_succ_cons, List.take_zero, List.drop_succ_cons, List.drop_zero]
  repeat (go_big_quiet_step (fail))
  refine wpQuiet_nil ?_
  refine Stage.wpSt_do (.int .i64 (d.deeds : Nat)) rfl (Stage.one_step (by kernel_rfl) (fun w' hw => ?_)) ?_
  · have hw' : w' = W3.drew := hw
    subst hw'
    refine Free.at_call _ _ rfl Try.func33 (by kernel_rfl) rfl [.pointer (some ⟨p, 3, none⟩)] rfl ?_
    exact (load_any p d.deeds _ HC3.out).mono fun e w'' ⟨he, h⟩ => ⟨he, h⟩
  go_simp
  refine Stage.wpSt_do (.tuple #[]) rfl (Stage.one_do (fun w' hw => ?_)) ?_
  · have hw' : w' = W3.drew := hw
    subst hw'
    refine Free.at_call _ _ rfl Try.func32 (by kernel_rfl) rfl [.pointer (some ⟨w.heap.size + 1, 3, none⟩), .int .i64 (d.deeds : Nat)] rfl ?_
    exact (store_any _ 0 d.deeds _ HC3'.out HF3.out).mono fun e w'' ⟨he, h⟩ => ⟨he, h.trans HW4.out.symm⟩
  go_simp
  refine Stage.wpSt_nil (Stage.one_end ?_)
  intro w4 hw4
  have hw4' : w4 = W4 := hw4
  subst hw4'
  clear hw4
  go_wp2_with fail
  refine wp_loop_rounds 1 ?_
  rw [rounds_succ]
  go_wp2
  go_ret
  exact ⟨rfl, HFin.out, HBf.out⟩
/-- Copy: one that is the same, of blocks of its own -/
theorem own_copy (h : OwnF w0 w p d F) (hd : d.deeds ≤ 1000000000) :
    Calls Try.prog 13 #[.pointer (some ⟨p, 0, none⟩)] w fun e w' => ∃ p', e = .returned (.pointer (some ⟨p', 0, none⟩)) ∧ OwnF w0 w' p' d (fun k => w.heap.size ≤ k ∧ k < w'.heap.size) ∧ Below w.heap.size w w' := by
  obtain ⟨mm, g, v, hD⟩ := h.disk
  have key : Calls Try.prog 13 #[.pointer (some ⟨p, 0, none⟩)] w fun e w' => e = .returned (.pointer (some ⟨w.heap.size + 1, 0, none⟩)) ∧ IsDisk w' (w.heap.size + 1) d (fun k => w.heap.size ≤ k ∧ k < w'.heap.size) ∧ Below w.heap.size w w' := by
    cases mm with
    | none => exact copy_none hD
    | some b => exact copy_some b hD hd
  refine key.mono ?_
  rintro e w' ⟨rfl, h1, h2⟩
  exact ⟨_, rfl, ⟨h1, fun k hk => ⟨by have := h.below.size; omega, hk.2⟩, h.below.trans (h2.mono h.below.size)⟩, h2⟩
end
end Go.Proofs.Ytiagoaaldpajmaa
