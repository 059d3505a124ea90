/- Several texts in one: Copy1. -/
import Derived.Test.YtiagoaaldpajmaaVzg
import Derived.Test.YtiagoaaldpajmaaVz
import Derived.Test.YtiagoaaldpajmaaVv
namespace Go.Proofs.Ytiagoaaldpajmaa
open Go.ChangeShapes Go.WideShapes Go.ChangeAt Go.RowKit Go.BigFrame Go.Maps Go.Sort
set_option linter.unusedVariables false
def VCopy (pp gn B : Nat) (s : ByteArray) (VA : Option Addr) (Vc : Nat) (f : Fil) (i : Nat) (v : Value) : Prop := match i with
  | 0 => v = .pointer (some ⟨pp, 0, none⟩)
  | 1 => v = .pointer (some ⟨pp, 0, none⟩)
  | 2 => v = .pointer (some ⟨pp, 2, none⟩)
  | 3 => v = .map (some B)
  | 4 => v = .string s
  | 5 => v = .pointer (some ⟨gn, 0, none⟩)
  | 6 => v = .pointer (some ⟨gn, 0, none⟩)
  | 7 => v = .pointer (some ⟨gn, 0, none⟩)
  | 8 => v = .slice VA f.b.length Vc
  | 10 => v = .pointer (some ⟨gn, 0, none⟩)
  | 11 => v = .pointer (some ⟨gn, 0, none⟩)
  | 12 => v = .pointer (some ⟨gn, 1, none⟩)
  | 13 => v = .int .i64 (f.sure : Nat)
  | 14 => v = .pointer (some ⟨gn, 0, none⟩)
  | 15 => v = .pointer (some ⟨gn, 0, none⟩)
  | 16 => v = .pointer (some ⟨gn, 2, none⟩)
  | 17 => v = .bool f.made
  | _ => True
theorem disk_field2 (w : World) {b : Nat} : (Instr.fieldAt TD (.pointer (some ⟨b, 0, none⟩)) 2).run Try.prog w = .ok (.pointer (some ⟨b, 2, none⟩)) w := by go_simp
theorem file_field (w : World) {b : Nat} (k : Nat) (hk : k < 3) : (Instr.fieldAt TF (.pointer (some ⟨b, 0, none⟩)) k).run Try.prog w = .ok (.pointer (some ⟨b, k, none⟩)) w := by
  match k, hk with
  | 0, _ => go_simp
  | 1, _ => go_simp
  | 2, _ => go_simp
theorem load_slice8 {w : World} {b o n c : Nat} {A : Option Addr} (h : w.cell? ⟨b, o, none⟩ = some (.slice A n c)) : (Instr.loadAt 36 (.pointer (some ⟨b, o, none⟩))).run Try.prog w = .ok (.slice A n c) w := by go_simp
theorem load_bool2 {w : World} {b o : Nat} {z : Bool} (h : w.cell? ⟨b, o, none⟩ = some (.bool z)) : (Instr.loadAt 4 (.pointer (some ⟨b, o, none⟩))).run Try.prog w = .ok (.bool z) w := by go_simp
theorem load_int3 {w : World} {k o : Nat} {z : Int} (h : w.cell? ⟨k, o, none⟩ = some (.int .i64 z)) : (Instr.loadAt 3 (.pointer (some ⟨k, o, none⟩))).run Try.prog w = .ok (.int .i64 z) w := by go_simp
theorem ref_inv (v : Value) (y : DataW Unit × List MemPlace) (h : refPtr v = some y) : ∃ c, v = .pointer c := by
  unfold refPtr at h
  split at h
  · exact ⟨_, rfl⟩
  · exact ⟨_, rfl⟩
  · cases h
theorem built_file {x : Value} {A : Option Addr} {n c : Nat} (y : Int) (z : Bool) (h : x = .slice A n c) : Try.prog.built TF [(0, x), (1, .int .i64 y), (2, .bool z)] = some #[x, .int .i64 y, .bool z] := by subst h; kernel_rfl
theorem box_cells {A : Option Addr} {n c : Nat} {x : Value} {y : Int} {z : Bool} (h : x = .slice A n c) : (Value.agg #[x, .int .i64 y, .bool z]).cells = #[x, .int .i64 y, .bool z] := by subst h; rfl
section
variable {w0 w w' : World} {F : Nat → Prop} {fs : Fs} {g : Nm → Nat} {v : Nm → Value} {p : Nat} {d : DM} {m : Option Nat}
/-- at each round's head -/
def CopyR (w : World) (d : DM) (fs : Fs) (g : Nm → Nat) (b r N : Nat) (left : Lit → Bool) (cnt : Nat) (wr : World) : Prop :=
  ∃ g' v' F', wr.ranges Try.prog 9 refPtr b r N (dat fs g) left cnt ∧ MapAt wr (some w.heap.size) (doneF left fs) g' ∧ FilesAt wr F' (doneF left fs) g' v' ∧ (∀ k, F' k → w.heap.size + 2 ≤ k ∧ k < wr.heap.size ∧ k ≠ r) ∧
    Row wr (w.heap.size + 1) TD (dcells d.room (usedF fs) (some w.heap.size) d.deeds d.off d.fuse) ∧ Below w.heap.size w wr ∧ r = w.heap.size + 2
set_option maxRecDepth 100000 in
set_option maxHeartbeats 8000000 in
theorem copy_some (b : Nat) (h : DiskAt w p d F (some b) g v) (hd : d.deeds ≤ 1000000000) :
    Calls Try.prog 13 #[.pointer (some ⟨p, 0, none⟩)] w fun e w' => e = .returned (.pointer (some ⟨w.heap.size + 1, 0, none⟩)) ∧ IsDisk w' (w.heap.size + 1) d (fun k => w.heap.size ≤ k ∧ k < w'.heap.size) ∧ Below w.heap.size w w' := by
  obtain ⟨h0, h1, h2, h3, h4, h5⟩ := drow h.row
  have hlt := h.row.lt
  have hfew := h.few
  have hmm : ∀ (n : Nat) (w2 : World), (Instr.makeMap TM (some (.int .i64 (n : Nat)))).run Try.prog w2 = .ok (.map (some w2.heap.size)) (w2.alloc (.map #[] 0)) := fun n w2 => by simp [Instr.makeMap, asInt, asIntOf]
  have hown : w.ownsMap Try.prog 9 refPtr b d.fs.length (dat d.fs g) := h.map
  have hbl := hown.lt
  have hln : ∀ (ty : TypeId), (Builtin.len_ #[TM] ty #[.map (some b)]).run Try.prog w.drew = .ok (.int .i64 (d.fs.length : Nat)) w.drew := fun ty => by
    have := (show w.drew.ownsMap Try.prog 9 refPtr b d.fs.length (dat d.fs g) from ownsMap_touch hown (Touch.refl (fun _ => False) w).drew (by simp)).len und_map ty
    rw [dat_size] at this; exact this
  have HH := Lib.hid h; have HOwn := Lib.hid hown
  clear h hown
  go_enter Try.func13, Try.ntmps13
  go_wp2_with fail
  go_region
  obtain ⟨W3, hW3⟩ : ∃ W3, W3 = ((w.alloc (.map #[] 0)).alloc (.cells #[.int .i64 (d.room : Nat), .int .i64 (usedF d.fs : Nat), .map (some w.heap.size), .int .i64 0, .bool d.off, .int .u64 (d.fuse : Nat)] TD)).drew := ⟨_, rfl⟩
  have hz3 : W3.heap.size = w.heap.size + 2 := by rw [hW3]; simp
  have hb3 : Below w.heap.size w W3 := by rw [hW3]; exact (((Below.refl _ _).alloc (Nat.le_refl _) _).alloc (by simp) _).drew
  have hr3 : Row W3 (w.heap.size + 1) TD (dcells d.room (usedF d.fs) (some w.heap.size) 0 d.off d.fuse) := by
    rw [hW3]
    have := Row.made (w.alloc (.map #[] 0)) TD (dcells d.room (usedF d.fs) (some w.heap.size) 0 d.off d.fuse)
    rw [show (w.alloc (.map #[] 0)).heap.size = w.heap.size + 1 by simp] at this
    exact this.drew
  have hm3 : W3.ownsMap (H := Unit) Try.prog 9 refPtr w.heap.size 0 (.map []) := by
    rw [hW3]; exact ((World.ownsMap_made w Try.prog 9 refPtr).alloc _).drew
  rw [← hW3]
  clear hW3
  obtain ⟨W4, hW4⟩ : ∃ W4, W4 = W3.drew.setCell ⟨w.heap.size + 1, 3, none⟩ (.int .i64 (d.deeds : Nat)) := ⟨_, rfl⟩
  have ht4 : Touch (· = w.heap.size + 1) W3 W4 := by rw [hW4]; exact (Touch.refl (· = w.heap.size + 1) W3).drew.setCell (p := ⟨w.heap.size + 1, 3, none⟩) (.inl rfl) _
  have hr4 : Row W4 (w.heap.size + 1) TD (dcells d.room (usedF d.fs) (some w.heap.size) d.deeds d.off d.fuse) := by rw [hW4]; exact hr3.drew.put 3 (.int .i64 (d.deeds : Nat))
  have hz4 : W4.heap.size = w.heap.size + 2 := by rw [hW4]; simpa using hz3
  have hb4 : Below w.heap.size w W4 := hb3.trans (ht4.below (by rintro i rfl; omega) hb3.size)
  have hm4 : W4.ownsMap (H := Unit) Try.prog 9 refPtr w.heap.size 0 (.map []) := ownsMap_touch hm3 ht4 (by omega)
  have hown4 : W4.ownsMap Try.prog 9 refPtr b d.fs.length (dat d.fs g) := ownsMap_touch HOwn.out (Touch.of_below (F := fun _ => False) hb4) (by simp)
  have hc3 : W3.drew.cell? ⟨p, 3, none⟩ = some (.int .i64 (d.deeds : Nat)) := (World.cell?_of_block (hb3.block p hlt)).trans h3
  have hc3' : W3.drew.cell? ⟨w.heap.size + 1, 3, none⟩ = some (.int .i64 ((0 : Nat) : Int)) := hr3.drew.cell 3
  have hf3 : W3.drew.frozen? ⟨w.heap.size + 1, 3, none⟩ = false := hr3.drew.free 3
  have hc2 : W4.cell? ⟨p, 2, none⟩ = some (.map (some b)) := (World.cell?_of_block (hb4.block p hlt)).trans h2
  have HR4 := Lib.hid hr4; have HZ4 := Lib.hid hz4; have HB4 := Lib.hid hb4; have HM4 := Lib.hid hm4; have HOwn4 := Lib.hid hown4; have HW4 := Lib.hid hW4; have HC3 := Lib.hid hc3; have HC3' := Lib.hid hc3'; have HF3 := Lib.hid hf3
  clear hr3 hm3 hz3 hb3 hr4 hz4 hb4 hm4 hown4 hW4 hc3 hc3' hf3 h0 h1 h2 h3 h4 h5 hmm hln ht4
  go_wp2_with fail
  refine Stage.wp_region (by kernel_rfl) (by kernel_rfl) (Stage.one 7 (StepR W3.drew W4)) (Stage.one_start (by simp) (show StepR W3.drew W4 false W3.drew from rfl)) ?_
  refine Stage.wpSt_reads 6 (fun _ => True) (by kernel_rfl) (Stage.one_any (by simp)) ?_
  simp only [List.take_succ_cons, List.take_zero, List.drop_succ_cons, List.drop_zero]
  repeat (go_big_quiet_step (fail))
  refine wpQuiet_nil ?_
  refine Stage.wpSt_do (.int .i64 (d.deeds : Nat)) rfl (Stage.one_step (by kernel_rfl) (fun w' hw => ?_)) ?_
  · have hw' : w' = W3.drew := hw
    subst hw'
    refine Free.at_call _ _ rfl Try.func33 (by kernel_rfl) rfl [.pointer (some ⟨p, 3, none⟩)] rfl ?_
    exact (load_any p d.deeds _ HC3.out).mono fun e w'' ⟨he, h⟩ => ⟨he, h⟩
  go_simp
  refine Stage.wpSt_do (.tuple #[]) rfl (Stage.one_do (fun w' hw => ?_)) ?_
  · have hw' : w' = W3.drew := hw
    subst hw'
    refine Free.at_call _ _ rfl Try.func32 (by kernel_rfl) rfl [.pointer (some ⟨w.heap.size + 1, 3, none⟩), .int .i64 (d.deeds : Nat)] rfl ?_
    exact (store_any _ 0 d.deeds _ HC3'.out HF3.out).mono fun e w'' ⟨he, h⟩ => ⟨he, h.trans HW4.out.symm⟩
  go_simp
  refine Stage.wpSt_nil (Stage.one_end ?_)
  intro w4 hw4
  have hw4' : w4 = W4 := hw4
  subst hw4'
  clear hw4
  go_wp2_with (first
    | (at_range; refine wpList_range_own _ rfl _ TM rfl TS TPF str_law und_map refPtr b d.fs.length (dat d.fs g) rfl HOwn4.out ?_; intro w5 hrg5 hg5 hs5)
    | go_in)
  go_frame
  rw [HZ4.out] at hrg5 ⊢
  have hb5 : Below w4.heap.size w4 w5 := ⟨hg5.os, hg5.tape, hg5.output, hg5.size, fun i hi => hg5.block i hi (by simp)⟩
  have hdn : doneF (Maps.has (dat d.fs g)) d.fs = [] := doneF_none fun q hq => by
    simp only [Maps.has, dat, List.any_map, List.any_eq_true]
    exact ⟨q, hq, by simp [Lit.sameKey]⟩
  have hst : CopyR w d d.fs g b (w.heap.size + 2) d.fs.length (Maps.has (dat d.fs g)) (Maps.size (dat d.fs g)) w5 := by
    refine ⟨g, v, fun _ => False, hrg5, ?_, ?_, by simp, HR4.out.touch (Touch.of_below (F := fun _ => False) hb5) (by simp), HB4.out.trans (hb5.mono HB4.out.size), rfl⟩
    · rw [hdn]; exact ownsMap_touch HM4.out (Touch.of_below (F := fun _ => False) hb5) (by simp)
    · rw [hdn]; exact ⟨by simp [getF], by simp [getF], by simp [getF], by simp [getF], by simp [getF]⟩
  have HSt := Lib.hid hst
  clear hst hdn hb5 hrg5 hg5 hs5
  go_loopw [4] (fun _ wr => ∃ (left : Lit → Bool) (cnt : Nat), CopyR w d d.fs g b (w.heap.size + 2) d.fs.length left cnt wr) (fun _ wr => wr.rangeLeft b (w.heap.size + 2))
  case atStart => exact ⟨_, _, HSt.out⟩
  case round =>
    obtain ⟨left, cnt, hcr⟩ := hrel
    have HCr := Lib.hid hcr
    obtain ⟨g', v', F', hrg, hM, hFs, hF', hrow, hbw, -⟩ := hcr
    have HRow := Lib.hid hrow; have HM := Lib.hid hM; have HFs := Lib.hid hFs; have HF' := Lib.hid hF'; have HBw := Lib.hid hbw
    clear hrow hM hFs hF' hbw
    go_wp2_with (first
      | (at_next; refine wpList_next_ranges _ rfl _ rfl TS str_law refPtr Value.string Value.pointer (fun key kl hk => by obtain ⟨s, e, _, _⟩ := key_str hk; exact ⟨s, e⟩) ref_inv b (w.heap.size + 2) d.fs.length _ _ _ rfl hrg ?_ ?_)
      | go_in)
    · intro hc0 hl0
      have hda : doneF left d.fs = d.fs := doneF_all hl0
      have hfin : IsDisk wr (w.heap.size + 1) d (fun k => w.heap.size ≤ k ∧ k < wr.heap.size) := by
        have hM := HM.out; have hFs := HFs.out
        rw [hda] at hM hFs
        have hD := HH.out
        refine ⟨some w.heap.size, g', v', HRow.out, hM, hFs.mono (fun k hk => ⟨by have := (HF'.out k hk).1; omega, (HF'.out k hk).2.1⟩), ⟨by omega, HRow.out.lt⟩, fun b hb => by cases hb; exact ⟨Nat.le_refl _, by have := HRow.out.lt; omega⟩, hD.ok, hD.used, hD.room, hD.few, hD.fuse⟩
      have HFin := Lib.hid hfin
      clear hfin
      go_wp2
      go_ret
      exact ⟨rfl, HFin.out, HBw.out⟩
    · intro s c kl y ps w1 cnt1 hkey hlk hR hat hrg1 hlt1 hg1 hs1 hen
      obtain ⟨s', es, rfl, hss⟩ := key_str hkey
      injection es with es
      subst es
      have hgf : ∃ f, getF s.data.toList d.fs = some f := by
        cases hgg : getF s.data.toList d.fs with
        | some f => exact ⟨f, rfl⟩
        | none =>
          have h1 := hat .nil
          have h2 := hat (.lit (.int .i64 0))
          rw [dat_at, hgg] at h1 h2
          rw [← h1] at h2; cases h2
      obtain ⟨f, hgf⟩ := hgf
      have hy := hat .nil
      rw [dat_at, hgf] at hy
      rw [← hy] at hR
      have hc := refPtr_inv hR
      injection hc with hc
      subst hc
      have hD := HH.out
      have hfa := hD.files.at_ _ _ hgf
      have hl8 := hD.ok.len _ _ hgf
      -- the world in which the round's statement begins
      have ht1 : Touch (· = w.heap.size + 2) wr w1 := Touch.of_grown hg1 (fun k hk => (Option.some.inj hk).symm)
      have hbw1 : Below w.heap.size w w1 := HBw.out.trans (ht1.below (by rintro i rfl; omega) HBw.out.size)
      obtain ⟨W, hW⟩ : ∃ W, W = w1.drew := ⟨_, rfl⟩
      have hbW : Below w.heap.size w W := by rw [hW]; exact hbw1.drew
      have htW : Touch (· = w.heap.size + 2) wr W := by rw [hW]; exact ht1.drew
      have hgl : g s.data.toList < w.heap.size := hfa.row.lt
      have hfW : FileAt W (g s.data.toList) (v s.data.toList) f := hfa.touch (Touch.of_below (F := fun _ => False) hbW) (by simp) (by simp)
      have hMW : MapAt W (some w.heap.size) (doneF left d.fs) g' := HM.out.touch htW (by rintro b hb; cases hb; omega)
      have hrW : Row W (w.heap.size + 1) TD (dcells d.room (usedF d.fs) (some w.heap.size) d.deeds d.off d.fuse) := HRow.out.touch htW (by omega)
      have hFW : FilesAt W F' (doneF left d.fs) g' v' := HFs.out.touch htW (fun k hk => (HF'.out k hk).2.2)
      have hrgW : W.ranges Try.prog TS refPtr b (w.heap.size + 2) d.fs.length (dat d.fs g) (fun z => left z && !z.sameKey (.string s.data.toList)) cnt1 := by
        rw [hW]; exact hrg1.kept (row := none) ⟨rfl, rfl, rfl, Nat.le_refl _, fun _ _ _ => rfl⟩ (by simp) (by simp)
      have hno := doneF_get (left := left) hD.ok.sort hlk
      have hstep := doneF_step (left := left) (left' := fun z => left z && !z.sameKey (.string s.data.toList)) hD.ok.sort hgf hlk (fun m => rfl)
      have hzW : wr.heap.size ≤ W.heap.size := htW.size
      have hzB : w.heap.size + 2 < W.heap.size := hrgW.lt
      obtain ⟨VA, Vc, hV, -, -⟩ := fslice hfa
      rw [hV] at hfW
      obtain ⟨k0, k1, k2⟩ := frow hfW
      have hst0 : CopyF W w.heap.size s.data.toList f (doneF left d.fs) g' (fun i => decide (21 ≤ i)) (fun _ => undef) W := ⟨Touch.refl _ _, fun _ => rfl, fun e => absurd e (by decide), fun e => absurd e (by decide), fun e => absurd e (by decide), fun e => absurd e (by decide), fun e => absurd e (by decide), fun e => absurd e (by decide)⟩
      obtain ⟨B, hB⟩ : ∃ B, B = w.heap.size := ⟨_, rfl⟩
      obtain ⟨pp, hpp⟩ : ∃ pp, pp = w.heap.size + 1 := ⟨_, rfl⟩
      obtain ⟨gn, hgn⟩ : ∃ gn, gn = g s.data.toList := ⟨_, rfl⟩
      have HPl := Lib.hid (show pp < W.heap.size by omega)
      have HPB := Lib.hid (show pp ≠ B by omega)
      have HGl := Lib.hid (show gn < W.heap.size by omega)
      have HGB := Lib.hid (show gn ≠ B by omega)
      have hC2 : W.cell? ⟨pp, 2, none⟩ = some (.map (some B)) := by rw [hpp, hB]; exact hrW.cell 2
      rw [← hgn] at k0 k1 k2 hen
      have HC2 := Lib.hid hC2; have HK0 := Lib.hid k0; have HK1 := Lib.hid k1; have HK2 := Lib.hid k2
      have HOwn9 := Lib.hid hfW.own; have HL8 := Lib.hid hl8; have HLt := Lib.hid hfW.lt; have HMW := Lib.hid hMW; have HLen := Lib.hid (show (doneF left d.fs).length ≤ 1000000000 by have := doneF_len (left := left) (fs := d.fs); omega)
      have HS := Lib.hid hss; have HNo := Lib.hid hno
      have HStep := Lib.hid hstep; have HRW := Lib.hid hrW; have HFW := Lib.hid hFW; have HRgW := Lib.hid hrgW; have HbW := Lib.hid hbW; have HW := Lib.hid hW; have HSt0 := Lib.hid hst0
      have HzW := Lib.hid hzW; have HLc := Lib.hid hlt1; have HRg := Lib.hid hrg
      clear hC2 k0 k1 k2 hfW hl8 hMW hss hno hstep hrW hFW hrgW hbW hW hst0 hfa hD hat hy hR hgf ht1 hbw1 htW hkey hlk hrg1 hlt1 hg1 hs1 hrg hgl hzW hV
      go_wp2_with fail
      rw [← hgn]
      go_wp2_with fail
      refine Free.wp_key (by kernel_rfl) (by kernel_rfl) (fun b vs wr => CopyF W B s.data.toList f (doneF left d.fs) g' b vs wr) (VCopy pp gn B s VA Vc f) ?_ ?_ ?_
      · intro vs
        rw [← HW.out, hB]
        obtain ⟨q1, q2, q3, q4, q5, q6, q7, q8⟩ := HSt0.out
        exact ⟨q1, q2, fun e => absurd e (by decide), fun e => absurd e (by decide), fun e => absurd e (by decide), fun e => absurd e (by decide), fun e => absurd e (by decide), fun e => absurd e (by decide)⟩
      · intro i o hi bb vs a wa hold hpre hbi hF
        match i with
        | 0 =>
          cases hi
          exact Free.c_all rfl (Free.g_move _ rfl ⟨(hold 3 (by decide)).trans (by first | rfl | (rw [hpp]; rfl)), hF.keep (by decide) (by decide) (by decide) (by decide)⟩)
        | 1 =>
          cases hi
          have h0 : a.eval (.tmp 50) = .pointer (some ⟨pp, 0, none⟩) := (hpre 0 _ _ (by kernel_rfl) rfl rfl).2.2
          exact Free.c_all rfl (Free.g_nilc _ rfl h0 ⟨rfl, hF.keep (by decide) (by decide) (by decide) (by decide)⟩)
        | 2 =>
          cases hi
          have h0 : a.eval (.tmp 51) = .pointer (some ⟨pp, 0, none⟩) := (hpre 1 _ _ (by kernel_rfl) rfl rfl).2.2
          exact Free.c_all rfl (Free.g_field _ _ _ rfl h0 (disk_field2 wa) ⟨rfl, hF.keep (by decide) (by decide) (by decide) (by decide)⟩)
        | 3 =>
          cases hi
          have h0 : a.eval (.tmp 52) = .pointer (some ⟨pp, 2, none⟩) := (hpre 2 _ _ (by kernel_rfl) rfl rfl).2.2
          exact Free.c_all rfl (Free.g_load _ _ rfl h0 (load_map ((hF.cell HPl.out HPB.out).trans HC2.out)) ⟨rfl, hF.keep (by decide) (by decide) (by decide) (by decide)⟩)
        | 4 =>
          cases hi
          exact Free.c_all rfl (Free.g_move _ rfl ⟨(hold 4 (by decide)).trans (by first | rfl | (rw [hpp]; rfl)), hF.keep (by decide) (by decide) (by decide) (by decide)⟩)
        | 5 =>
          cases hi
          exact Free.c_all rfl (Free.g_move _ rfl ⟨(hold 5 (by decide)).trans (by first | rfl | (rw [hpp]; rfl)), hF.keep (by decide) (by decide) (by decide) (by decide)⟩)
        | 6 =>
          cases hi
          have h0 : a.eval (.tmp 55) = .pointer (some ⟨gn, 0, none⟩) := (hpre 5 _ _ (by kernel_rfl) rfl rfl).2.2
          exact Free.c_all rfl (Free.g_nilc _ rfl h0 ⟨rfl, hF.keep (by decide) (by decide) (by decide) (by decide)⟩)
        | 7 =>
          cases hi
          have h0 : a.eval (.tmp 56) = .pointer (some ⟨gn, 0, none⟩) := (hpre 6 _ _ (by kernel_rfl) rfl rfl).2.2
          exact Free.c_all rfl (Free.g_field _ _ _ rfl h0 (file_field wa 0 (by decide)) ⟨rfl, hF.keep (by decide) (by decide) (by decide) (by decide)⟩)
        | 8 =>
          cases hi
          have h0 : a.eval (.tmp 57) = .pointer (some ⟨gn, 0, none⟩) := (hpre 7 _ _ (by kernel_rfl) rfl rfl).2.2
          exact Free.c_all rfl (Free.g_load _ _ rfl h0 (load_slice8 ((hF.cell HGl.out HGB.out).trans HK0.out)) ⟨rfl, hF.keep (by decide) (by decide) (by decide) (by decide)⟩)
        | 9 =>
          cases hi
          have h0 : a.eval (.tmp 58) = .slice VA f.b.length Vc := (hpre 8 _ _ (by kernel_rfl) rfl rfl).2.2
          refine Free.c_all rfl (Free.g_call _ _ rfl Try.func34 (by kernel_rfl) rfl [.slice VA f.b.length Vc] (by show [a.eval (.tmp 58)] = _; rw [h0]) ?_)
          exact (hF.clone hbi HOwn9.out HL8.out).mono fun e w9 ⟨V', he, h9⟩ => ⟨V', he, trivial, h9⟩
        | 10 =>
          cases hi
          exact Free.c_all rfl (Free.g_move _ rfl ⟨(hold 5 (by decide)).trans (by first | rfl | (rw [hpp]; rfl)), hF.keep (by decide) (by decide) (by decide) (by decide)⟩)
        | 11 =>
          cases hi
          have h0 : a.eval (.tmp 60) = .pointer (some ⟨gn, 0, none⟩) := (hpre 10 _ _ (by kernel_rfl) rfl rfl).2.2
          exact Free.c_all rfl (Free.g_nilc _ rfl h0 ⟨rfl, hF.keep (by decide) (by decide) (by decide) (by decide)⟩)
        | 12 =>
          cases hi
          have h0 : a.eval (.tmp 61) = .pointer (some ⟨gn, 0, none⟩) := (hpre 11 _ _ (by kernel_rfl) rfl rfl).2.2
          exact Free.c_all rfl (Free.g_field _ _ _ rfl h0 (file_field wa 1 (by decide)) ⟨rfl, hF.keep (by decide) (by decide) (by decide) (by decide)⟩)
        | 13 =>
          cases hi
          have h0 : a.eval (.tmp 62) = .pointer (some ⟨gn, 1, none⟩) := (hpre 12 _ _ (by kernel_rfl) rfl rfl).2.2
          exact Free.c_all rfl (Free.g_load _ _ rfl h0 (load_int3 ((hF.cell HGl.out HGB.out).trans HK1.out)) ⟨rfl, hF.keep (by decide) (by decide) (by decide) (by decide)⟩)
        | 14 =>
          cases hi
          exact Free.c_all rfl (Free.g_move _ rfl ⟨(hold 5 (by decide)).trans (by first | rfl | (rw [hpp]; rfl)), hF.keep (by decide) (by decide) (by decide) (by decide)⟩)
        | 15 =>
          cases hi
          have h0 : a.eval (.tmp 64) = .pointer (some ⟨gn, 0, none⟩) := (hpre 14 _ _ (by kernel_rfl) rfl rfl).2.2
          exact Free.c_all rfl (Free.g_nilc _ rfl h0 ⟨rfl, hF.keep (by decide) (by decide) (by decide) (by decide)⟩)
        | 16 =>
          cases hi
          have h0 : a.eval (.tmp 65) = .pointer (some ⟨gn, 0, none⟩) := (hpre 15 _ _ (by kernel_rfl) rfl rfl).2.2
          exact Free.c_all rfl (Free.g_field _ _ _ rfl h0 (file_field wa 2 (by decide)) ⟨rfl, hF.keep (by decide) (by decide) (by decide) (by decide)⟩)
        | 17 =>
          cases hi
          have h0 : a.eval (.tmp 66) = .pointer (some ⟨gn, 2, none⟩) := (hpre 16 _ _ (by kernel_rfl) rfl rfl).2.2
          exact Free.c_all rfl (Free.g_load _ _ rfl h0 (load_bool2 ((hF.cell HGl.out HGB.out).trans HK2.out)) ⟨rfl, hF.keep (by decide) (by decide) (by decide) (by decide)⟩)
        | 18 =>
          cases hi
          obtain ⟨hb9, h0, -⟩ := hpre 9 _ 59 (by kernel_rfl) rfl rfl
          obtain ⟨A9, c9, e9⟩ := hF.slice9 hb9 (hF.no19 hbi)
          have h1 : a.eval (.tmp 63) = .int .i64 (f.sure : Nat) := (hpre 13 _ _ (by kernel_rfl) rfl rfl).2.2
          have h2 : a.eval (.tmp 67) = .bool f.made := (hpre 17 _ _ (by kernel_rfl) rfl rfl).2.2
          exact Free.c_all rfl (Free.g_build _ _ rfl #[vs 9, .int .i64 (f.sure : Nat), .bool f.made] [(0, vs 9), (1, .int .i64 (f.sure : Nat)), (2, .bool f.made)] (by show [(0, a.eval (.tmp 59)), (1, a.eval (.tmp 63)), (2, a.eval (.tmp 67))] = _; rw [h0, h1, h2]) (built_file _ _ e9) ⟨trivial, hF.build hb9 hbi rfl⟩)
        | 19 =>
          cases hi
          obtain ⟨hb18, h0, -⟩ := hpre 18 _ 68 (by kernel_rfl) rfl rfl
          obtain ⟨hv18, hF2⟩ := hF.box hb18 hbi HLt.out
          obtain ⟨A9, c9, e9⟩ := hF.slice9 (hF.s18 hb18).1 hbi
          exact Free.c_all rfl (Free.g_box _ _ rfl (.agg #[vs 9, .int .i64 (f.sure : Nat), .bool f.made]) (by rw [h0, hv18]) ⟨trivial, by rw [box_cells e9]; exact hF2⟩)
        | 20 =>
          cases hi
          have h1 : a.eval (.tmp 53) = .map (some B) := (hpre 3 _ _ (by kernel_rfl) rfl rfl).2.2
          have h2 : a.eval (.tmp 54) = .string s := (hpre 4 _ _ (by kernel_rfl) rfl rfl).2.2
          obtain ⟨hb19, h0, -⟩ := hpre 19 _ 69 (by kernel_rfl) rfl rfl
          obtain ⟨nb, w9, he, hrun, hF2⟩ := hF.update hb19 hbi (by rw [hB]; exact HMW.out) HLen.out s HS.out rfl HNo.out
          exact Free.c_all rfl (Free.g_mapUpdate _ _ _ _ rfl _ _ _ h1 h2 (h0.trans he) hrun ⟨trivial, hF2⟩)
        | i + 21 => cases hi
      · intro vs w9 hv hF9
        obtain ⟨nb, V9, hM9, hf9, hnb, hob, ht9⟩ := hF9.s20 rfl
        clear hv hF9
        have hrg9 := HRgW.out.kept (w' := w9) (row := some B) ⟨ht9.os, ht9.tape, ht9.output, ht9.size, fun i hi hn => ht9.block i hi (by rintro rfl; exact hn rfl)⟩ (by intro e; injection e with e; omega) (by intro e; injection e with e; omega)
        have hcr9 : CopyR w d d.fs g b (w.heap.size + 2) d.fs.length (fun z => left z && !z.sameKey (.string s.data.toList)) cnt1 w9 := by
          refine ⟨upd g' s.data.toList nb, updv v' s.data.toList V9, Ext F' W w9, hrg9, ?_, ?_, ?_, ?_, ?_, rfl⟩
          · rw [HStep.out, ← hB]; exact hM9
          · rw [HStep.out]
            exact HFW.out.more HNo.out ht9 (fun k z hz => ⟨by have := (HF'.out _ (HFW.out.mem k z hz)).1; omega, fun i hi e => by have := (HF'.out _ (HFW.out.memv k z hz i hi)).1; omega⟩) hf9 hnb hob
          · rintro k (hk | hk)
            · obtain ⟨h1, h2, h3⟩ := HF'.out k hk
              have := ht9.size; have := HzW.out
              exact ⟨h1, by omega, h3⟩
            · exact ⟨by omega, hk.2, by omega⟩
          · exact HRW.out.touch ht9 (by omega)
          · exact HbW.out.trans (ht9.below (by rintro i rfl; omega) HbW.out.size)
        have HCr9 := Lib.hid hcr9; have HRg9 := Lib.hid hrg9
        clear hcr9 hrg9 hM9 hf9 hnb hob ht9
        simp only [Free.puts, Nat.reduceAdd]
        generalize vs 0 = y0
        go_simp
        go_wp2_with fail
        go_roundw
        case rel => exact ⟨_, _, HCr9.out⟩
        case measure => rw [HRg9.out.left_eq, HRg.out.left_eq]; exact HLc.out
end
end Go.Proofs.Ytiagoaaldpajmaa
