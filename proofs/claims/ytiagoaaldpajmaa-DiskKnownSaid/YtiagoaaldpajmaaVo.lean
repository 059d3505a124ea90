/- Several texts in one: RefOps, Parts, RefFile. -/
import Derived.Test.YtiagoaaldpajmaaVn
import Derived.Test.YtiagoaaldpajmaaVc
import Derived.Test.YtiagoaaldpajmaaVa
import Derived.Laws.CopyOwn
import Derived.Laws.Tables
import Derived.Laws.Rows
namespace Go.Proofs.Ytiagoaaldpajmaa
open Go.ChangeShapes Go.WideShapes Go.ChangeAt Go.RowKit Go.BigFrame Go.Maps Go.Sort
set_option linter.unusedVariables false
section
variable {w w' : World} {q : Nat} {d : DM} {es : List En} {A : Option Addr} {c : Nat} {M : Nat → Prop} {e : En} {G : Nat → Prop}
theorem rcells_eq {A : Option Addr} {n c room dd : Nat} {f' : Nat} {o : Bool} {a z : Int} (ha : a = (dd : Nat)) (hz : z = (f' : Int) - 1) : ([.slice A n c, .int .i64 (room : Nat), .int .i64 a, .int .i64 z, .bool o] : List Value) = rcells A n c room dd f' o := by subst ha; subst hz; rfl
set_option maxHeartbeats 1000000 in
theorem ref_crash (h : RefAt w q d es A c M) :
    Calls Try.prog 49 #[.pointer (some ⟨q, 0, none⟩)] w fun e w' => e = .returned (.tuple #[]) ∧ RefAt w' q (crashD d) es A c M ∧ Touch (· = q) w w' ∧ w'.heap.size = w.heap.size := by
  have hz := h.row.free
  have hlt := h.row.lt
  have hr := (h.row.put 4 (.bool true)).put 3 (.int .i64 (-1))
  have ht : Touch (· = q) w ((w.setCell ⟨q, 4, none⟩ (.bool true)).setCell ⟨q, 3, none⟩ (.int .i64 (-1))) := ((Touch.refl (· = q) w).setCell (p := ⟨q, 4, none⟩) (.inl rfl) _).setCell (p := ⟨q, 3, none⟩) (.inl rfl) _
  have h3 := h.own (d' := crashD d) ht hr rfl h.room (by show 0 ≤ _; omega)
  obtain ⟨h0, h1, h2, h3', h4⟩ := rrow h.row
  have H3 := Lib.hid h3; have HT := Lib.hid ht
  clear h hr ht h3
  go_enter Try.func49, Try.ntmps49
  go_wp2
  go_end0
  exact ⟨rfl, H3.out, HT.out, by simp⟩
set_option maxHeartbeats 1000000 in
theorem ref_fail (h : RefAt w q d es A c M) (n : Int) (hn : -9223372036854775808 ≤ n ∧ n ≤ 9223372036854775807) :
    Calls Try.prog 48 #[.pointer (some ⟨q, 0, none⟩), .int .i64 n] w fun e w' => e = .returned (.tuple #[]) ∧ RefAt w' q (failD d n) es A c M ∧ Touch (· = q) w w' ∧ w'.heap.size = w.heap.size := by
  have hz := h.row.free
  have hlt := h.row.lt
  have hm : max (-1) n = (((n + 1).toNat : Nat) : Int) - 1 := by omega
  have hr := h.row.put 3 (.int .i64 (max (-1) n))
  have ht : Touch (· = q) w (w.setCell ⟨q, 3, none⟩ (.int .i64 (max (-1) n))) := ((Touch.refl (· = q) w).setCell (p := ⟨q, 3, none⟩) (.inl rfl) _)
  have h3 := h.own (d' := failD d n) ht (by rw [hm] at hr ⊢; exact hr) rfl h.room (by show (n + 1).toNat ≤ _; omega)
  obtain ⟨h0, h1, h2, h3', h4⟩ := rrow h.row
  have H3 := Lib.hid h3; have HT := Lib.hid ht; have HM := Lib.hid hm
  clear h hr ht h3 hm
  go_enter Try.func48, Try.ntmps48
  go_wp2
  go_end0
  exact ⟨rfl, H3.out, HT.out, by simp⟩
set_option maxHeartbeats 1000000 in
theorem ref_deed_gone (h : RefAt w q d es A c M) (hfu : d.fuse = 1) (hd : d.deeds ≤ 1000000000) :
    Calls Try.prog 57 #[.pointer (some ⟨q, 0, none⟩)] w fun e w' => e = .returned (.bool false) ∧ RefAt w' q d.tick es A c M ∧ Touch (· = q) w w' ∧ w'.heap.size = w.heap.size := by
  have hz := h.row.free
  have hlt := h.row.lt
  have hr := (h.row.put 2 (.int .i64 ((d.deeds : Int) + 1))).put 3 (.int .i64 (-1))
  have ht : Touch (· = q) w ((w.setCell ⟨q, 2, none⟩ (.int .i64 ((d.deeds : Int) + 1))).setCell ⟨q, 3, none⟩ (.int .i64 (-1))) := ((Touch.refl (· = q) w).setCell (p := ⟨q, 2, none⟩) (.inl rfl) _).setCell (p := ⟨q, 3, none⟩) (.inl rfl) _
  have h3 := h.own (d' := { d with deeds := d.deeds + 1, fuse := 0 }) ht hr rfl h.room (by show 0 ≤ _; omega)
  have hcr := ref_crash h3
  have etick : crashD { d with deeds := d.deeds + 1, fuse := 0 } = d.tick := by unfold DM.tick crashD; rw [if_pos hfu]
  rw [etick] at hcr
  obtain ⟨h0, h1, h2, h3', h4⟩ := rrow h.row
  rw [hfu] at h3'
  have h3z : w.cell? ⟨q, 3, none⟩ = some (.int .i64 0) := h3'
  have HCr := Lib.hid hcr; have HT := Lib.hid ht
  clear h hr ht h3 hcr etick h3'
  go_enter Try.func57, Try.ntmps57
  go_wp2_with fail
  refine (HCr.out).mono ?_; rintro e w2 ⟨rfl, h5, h6, h7⟩
  have H5 := Lib.hid h5; have H6 := Lib.hid h6; have H7 := Lib.hid h7; clear h5 h6 h7
  go_wp2_with fail
  go_ret
  exact ⟨rfl, H5.out, HT.out.trans H6.out, by rw [H7.out]; simp⟩
set_option maxHeartbeats 1000000 in
theorem ref_deed_well (h : RefAt w q d es A c M) (hfu : d.fuse ≠ 1) (hd : d.deeds ≤ 1000000000) :
    Calls Try.prog 57 #[.pointer (some ⟨q, 0, none⟩)] w fun e w' => e = .returned (.bool true) ∧ RefAt w' q d.tick es A c M ∧ Touch (· = q) w w' ∧ w'.heap.size = w.heap.size := by
  have hz := h.row.free
  have hlt := h.row.lt
  obtain ⟨z, hzz⟩ : ∃ z, z = (d.fuse : Int) - 1 := ⟨_, rfl⟩
  have hz0 : ¬ z = 0 := by omega
  have hzr : -1 ≤ z ∧ z ≤ 9223372036854775807 := by have := h.fuse; omega
  have hm : max (-1) (z - 1) = ((d.fuse - 1 : Nat) : Int) - 1 := by omega
  have hr := ((h.row.put 2 (.int .i64 ((d.deeds : Int) + 1))).put 3 (.int .i64 (z - 1))).put 3 (.int .i64 (max (-1) (z - 1)))
  have ht : Touch (· = q) w (((w.setCell ⟨q, 2, none⟩ (.int .i64 ((d.deeds : Int) + 1))).setCell ⟨q, 3, none⟩ (.int .i64 (z - 1))).setCell ⟨q, 3, none⟩ (.int .i64 (max (-1) (z - 1)))) := (((Touch.refl (· = q) w).setCell (p := ⟨q, 2, none⟩) (.inl rfl) _).setCell (p := ⟨q, 3, none⟩) (.inl rfl) _).setCell (p := ⟨q, 3, none⟩) (.inl rfl) _
  have etick : d.tick = { d with deeds := d.deeds + 1, fuse := d.fuse - 1 } := by unfold DM.tick; rw [if_neg hfu]
  have h3 := h.own (d' := d.tick) ht (by rw [etick]; rw [hm] at hr ⊢; exact hr) (by rw [etick]) (by rw [etick]; exact h.room) (by rw [etick]; have := h.fuse; show d.fuse - 1 ≤ _; omega)
  obtain ⟨h0, h1, h2, h3', h4⟩ := rrow h.row
  rw [← hzz] at h3'
  have hw1 : IntKind.i64.wrap (z - 1) = z - 1 := IntWalk.i64_in _ (by omega)
  have hcm : (z - 1 == -1) = false := by simp; omega
  have HT := Lib.hid ht; have H3 := Lib.hid h3; have HM := Lib.hid hm; have HZZ := Lib.hid hzz
  clear h hr ht h3 etick hm hzz
  go_enter Try.func57, Try.ntmps57
  go_wp2_with fail
  go_ret
  exact ⟨rfl, H3.out, HT.out, by simp⟩
theorem ref_deed (h : RefAt w q d es A c M) (hd : d.deeds ≤ 1000000000) :
    Calls Try.prog 57 #[.pointer (some ⟨q, 0, none⟩)] w fun e w' => e = .returned (.bool (!(d.fuse == 1))) ∧ RefAt w' q d.tick es A c M ∧ Touch (· = q) w w' ∧ w'.heap.size = w.heap.size := by
  by_cases hfu : d.fuse = 1
  · rw [show (!(d.fuse == 1)) = false by simp [hfu]]; exact ref_deed_gone h hfu hd
  · rw [show (!(d.fuse == 1)) = true by simp [hfu]]; exact ref_deed_well h hfu hd
set_option maxHeartbeats 1000000 in
theorem ref_new (w : World) (z : Int) (hz : -9223372036854775808 ≤ z ∧ z ≤ 9223372036854775807) :
    Calls Try.prog 12 #[.int .i64 z] w fun e w' => e = .returned (.pointer (some ⟨w.heap.size, 0, none⟩)) ∧ RefAt w' w.heap.size (newD z) [] none 0 (fun _ => False) ∧ Below w.heap.size w w' ∧ w'.heap.size = w.heap.size + 1 := by
  go_enter Try.func12, Try.ntmps12
  go_wp2
  go_ret
  refine ⟨rfl, ⟨?_, ⟨Nat.le_refl _, by omega, fun _ => rfl, by simp, by simp⟩, by simp, rfl, by simp, by show (max z 0).toNat ≤ _; omega, by show 0 ≤ _; omega, List.Pairwise.nil⟩, (Below.refl _ _).alloc (Nat.le_refl _) _, by simp⟩
  have := Row.made w TR (rcells none 0 0 (max z 0).toNat 0 0 false)
  have hmx : max z 0 = (((max z 0).toNat : Nat) : Int) := by omega
  have hmy : max 0 z = (((max z 0).toNat : Nat) : Int) := by omega
  first | rw [hmy] | rw [hmx]
  exact this
theorem usedF_take {fs : Fs} {k : Nat} {p : Nm × Fil} (h : fs[k]? = some p) : usedF (fs.take (k + 1)) = usedF (fs.take k) + p.2.b.length := by
  induction fs generalizing k with
  | nil => simp at h
  | cons x r ih =>
    cases k with
    | zero => simp at h; subst h; simp [usedF]
    | succ k =>
      have := ih (k := k) (by simpa using h)
      simp only [List.take_succ_cons, usedF] at this ⊢; omega
theorem usedF_take_le (fs : Fs) (k : Nat) : usedF (fs.take k) ≤ usedF fs := by
  induction fs generalizing k with
  | nil => simp [usedF]
  | cons x r ih =>
    cases k with
    | zero => simp [usedF]
    | succ k => have := ih k; simp only [List.take_succ_cons, usedF] at this ⊢; omega
set_option maxRecDepth 100000 in
set_option maxHeartbeats 2000000 in
theorem ref_used (h : RefAt w q d es A c M) (hu : usedF d.fs ≤ 9223372036854775807) :
    Calls Try.prog 51 #[.pointer (some ⟨q, 0, none⟩)] w fun e w' => e = .returned (.int .i64 (usedF d.fs : Nat)) ∧ w = w' := by
  obtain ⟨h0, h1, h2, h3, h4⟩ := rrow h.row
  have hlen := h.list.cap
  have hmax := h.list.max
  have hfs : ∀ (k : Nat) (x : En), es[k]? = some x → d.fs[k]? = some x.key := fun k x hx => by rw [h.fs, List.getElem?_map, hx]; rfl
  have hfl : d.fs.length = es.length := by rw [h.fs, List.length_map]
  have hrow := h.list.row
  have hen := h.ens
  have HFs := Lib.hid hfs; have HFl := Lib.hid hfl; have HRow := Lib.hid hrow; have HU := Lib.hid hu; have HEn := Lib.hid hen
  clear h hfs hfl hrow hu hen h1 h2 h3 h4
  go_enter Try.func51, Try.ntmps51
  go_wp2
  go_loop [3, 4] (fun n i => ∃ k N : Nat, k ≤ es.length ∧ i = .int .i64 k ∧ n = .int .i64 N ∧ N = usedF (d.fs.take k)) (fun _ i => es.length - (intOf i).toNat)
  case atStart => exact ⟨0, 0, Nat.zero_le _, rfl, rfl, by simp [usedF]⟩
  case round =>
    obtain ⟨k, N, hk, rfl, rfl, hN⟩ := hrel
    have hNl : N ≤ usedF d.fs := by rw [hN]; exact usedF_take_le _ _
    have hNm : N ≤ 9223372036854775807 := Nat.le_trans hNl HU.out
    have HN := Lib.hid hN; clear hN hNl
    by_cases hlt : k < es.length
    · obtain ⟨b, off, hA, hbl, hci⟩ := HRow.out (by omega)
      subst hA
      obtain ⟨x, hx⟩ : ∃ x, es[k]? = some x := ⟨_, List.getElem?_eq_getElem hlt⟩
      obtain ⟨-, hc1, -, -⟩ := hci k x hx
      have hsum : usedF (d.fs.take (k + 1)) = N + x.f.b.length := by rw [usedF_take (HFs.out k x hx), HN.out]; rfl
      have hsl : N + x.f.b.length ≤ 9223372036854775807 := by rw [← hsum]; exact Nat.le_trans (usedF_take_le _ _) HU.out
      have HX := Lib.hid hx; have HSum := Lib.hid hsum; clear hx hci hsum
      go_wp2
      go_round
      case rel => exact ⟨k + 1, N + x.f.b.length, by omega, by go_num, by go_num, HSum.out.symm⟩
      case measure => simp [intOf]; omega
    · obtain rfl : k = es.length := by omega
      go_wp2
      go_ret
      refine ⟨?_, rfl⟩
      have := HN.out
      rw [List.take_of_length_le (by rw [HFl.out]; omega)] at this
      rw [← this]; rfl
/-- what forbids a call -/
def refE (d : DM) (s t : ByteArray) (must : Bool) : Int := if lookE d.off [s, t] = 0 then (if must && !isF s.data.toList d.fs then 5 else 0) else lookE d.off [s, t]
end
end Go.Proofs.Ytiagoaaldpajmaa
namespace Go.Proofs.Ytiagoaaldpajmaa
open Go.RowKit

theorem splice_cons {α : Type} (L : List α) (o : Nat) (x : α) (l : List α) (h : o + (l.length + 1) ≤ L.length) : splice (L.set o x) (o + 1) l = splice L o (x :: l) := by
  unfold splice
  rw [List.take_set, List.drop_set_of_lt (by omega), List.length_cons, show o + 1 + l.length = o + (l.length + 1) by omega]
  rw [List.take_succ_eq_append_getElem (by omega), List.set_append_right (h := by simp; omega)]
  simp [show o - min o L.length = 0 by omega]
theorem foldl_cells (vs : List Value) : ∀ (k off : Nat) (cs : Array Value), off + k + vs.length ≤ cs.size →
    ((vs.zipIdx k).foldl (fun cs (x : Value × Nat) => cs.setIfInBounds (off + x.2) x.1) cs).toList = splice cs.toList (off + k) vs := by
  induction vs with
  | nil => intro k off cs h; simp [splice]
  | cons v vs ih =>
    intro k off cs h
    simp only [List.length_cons] at h
    rw [List.zipIdx_cons, List.foldl_cons, ih (k + 1) off _ (by simp; omega), Array.toList_setIfInBounds]
    exact splice_cons cs.toList (off + k) v vs (by simp; omega)
theorem fill_step (place : Nat → Option (Nat × Nat)) (cells : Array Value) (i : Nat) (v : Value) (rest : List (Nat × Value)) (off size : Nat) (hp : place i = some (off, size)) (hs : v.cells.size = size) (hf : off + size ≤ cells.size) :
    Instr.fill place cells ((i, v) :: rest) = Instr.fill place (splice cells.toList off v.cells.toList).toArray rest := by
  rw [Instr.fill, hp]
  simp only
  rw [if_neg (by simp [hs]; omega)]
  congr 1
  apply Array.ext'
  have := foldl_cells v.cells.toList 0 off cells (by simp [hs]; omega)
  simp only [Nat.add_zero] at this
  rw [← this, show v.cells.toList.zipIdx = v.cells.zipIdx.toList by simp, Array.foldl_toList]

theorem add_at (g off j : Nat) : (⟨g, off, none⟩ : Addr).add j = ⟨g, off + j, none⟩ := by
  cases j with
  | zero => rfl
  | succ j => simp [Addr.add]
section
variable {P : Program} {C : World → Prop} {w : World} {o : Oper} {a : Act}
theorem run_load_part (g off n : Nat) (ty : TypeId) (d : TypeDesc) (cs : List Value) (hc : ∀ j v, cs[j]? = some v → w.cell? ((⟨g, off, none⟩ : Addr).add j) = some v)
    (hu : P.underlying ty = some d) (hd : (match d with | .struct _ | .array _ _ => true | _ => false) = true) (hi : (P.info? ty).map (·.size) = some cs.length) :
    (loadVar ty ⟨g, off, none⟩).run P w = .ok (.agg cs.toArray) w := by
  have hl : (loadCells ⟨g, off, none⟩ cs.length).run P w = .ok cs.toArray w := run_loadCells_list (P := P) w ⟨g, off, none⟩ cs hc
  cases hq : P.info? ty with
  | none => simp [hq] at hi
  | some i =>
    have hs : i.size = cs.length := by simpa [hq] using hi
    have hagg : (isAgg ty).run P w = .ok true w := by
      unfold isAgg
      rw [Sem.run_bind, run_underlying hu w]
      cases d <;> simp_all
    simp [loadVar, Sem.run_bind, hagg, sizeOf, typeInfo, hq, hs, hl]
theorem run_loadAt_part (g off : Nat) (ty : TypeId) (d : TypeDesc) (cs : List Value) (hc : ∀ j v, cs[j]? = some v → w.cell? ((⟨g, off, none⟩ : Addr).add j) = some v)
    (hu : P.underlying ty = some d) (hd : (match d with | .struct _ | .array _ _ => true | _ => false) = true) (hi : (P.info? ty).map (·.size) = some cs.length) :
    (Instr.loadAt ty (.pointer (some ⟨g, off, none⟩))).run P w = .ok (.agg cs.toArray) w := by
  simp only [Instr.loadAt, Instr.sureAddr, Sem.run_bind, Sem.run_pure, Result.andThen_ok, run_load_part g off cs.length ty d cs hc hu hd hi]
theorem at_load_part (ty : TypeId) (x : Operand) (ho : o.op = .load ty x) (g off : Nat) (hx : a.eval x = .pointer (some ⟨g, off, none⟩)) (d : TypeDesc) (cs : List Value)
    (hc : ∀ j v, cs[j]? = some v → w.cell? ((⟨g, off, none⟩ : Addr).add j) = some v)
    (hu : P.underlying ty = some d) (hd : (match d with | .struct _ | .array _ _ => true | _ => false) = true) (hi : (P.info? ty).map (·.size) = some cs.length) (h : C w) : Stage.at_ P o a C w (.agg cs.toArray) := by
  unfold Stage.at_ execOp
  simp only [ho, hx, Instr.loadAt, Instr.sureAddr, Sem.run_bind, Sem.run_pure, Result.andThen_ok, run_load_part g off cs.length ty d cs hc hu hd hi, Stage.upon]
  exact ⟨trivial, h⟩
theorem at_build (t : TypeId) (parts : Array (Nat × Operand)) (ho : o.op = .build t parts) (cells : Array Value) (vs : List (Nat × Value)) (hv : (parts.toList.map fun (i, x) => (i, a.eval x)) = vs) (hb : P.built t vs = some cells) (h : C w) : Stage.at_ P o a C w (.agg cells) := by
  subst hv
  have hr := run_build (P := P) w t (parts.map fun (i, x) => (i, a.eval x)) cells (by rw [Array.toList_map]; exact hb)
  unfold Stage.at_ execOp
  simp only [ho, Sem.run_bind, hr, Result.andThen_ok, Sem.run_pure, Stage.upon]
  exact ⟨trivial, h⟩
theorem at_box (t : TypeId) (x : Operand) (ho : o.op = .box t x) (cells : Array Value) (hx : (a.eval x).cells = cells) (n : Nat) (hn : w.heap.size = n) (h : C (w.alloc (.cells cells t))) : Stage.at_ P o a C w (.pointer (some ⟨n, 0, none⟩)) := by
  subst hn
  unfold Stage.at_ execOp
  simp only [ho]
  have hr : (Instr.box t (a.eval x)).run P w = .ok (.pointer (some ⟨w.heap.size, 0, none⟩)) (w.alloc (.cells cells t)) := by
    rw [← hx]
    simp [Instr.box, newVar, newRow, newObj, Sem.run_bind]
    rfl
  simp only [Sem.run_bind, hr, Result.andThen_ok, Sem.run_pure, Stage.upon]
  exact ⟨trivial, h⟩
end
end Go.Proofs.Ytiagoaaldpajmaa
namespace Go.Proofs.Ytiagoaaldpajmaa
open Go.ChangeShapes Go.WideShapes Go.ChangeAt Go.RowKit Go.BigFrame Go.Maps Go.Sort
set_option linter.unusedVariables false
section
variable {w w' : World} {q : Nat} {d : DM} {es : List En} {A : Option Addr} {c : Nat} {M : Nat → Prop} {e : En} {G : Nat → Prop}
theorem look_bad1 {s t : ByteArray} (ho : d.off = false) (h : s.size < 1 ∨ 128 < s.size) : lookE d.off [s, t] = 2 := by
  rw [ho]; exact lookE_bad (k := 0) (by simp) (by simp [okName]; omega)
theorem look_bad2 {s t : ByteArray} (ho : d.off = false) (h : t.size < 1 ∨ 128 < t.size) : lookE d.off [s, t] = 2 := by
  rw [ho]; exact lookE_bad (k := 1) (by simp) (by simp [okName]; omega)
theorem look_good {s t : ByteArray} (ho : d.off = false) (h1 : 1 ≤ s.size) (h2 : s.size ≤ 128) (h3 : 1 ≤ t.size) (h4 : t.size ≤ 128) : lookE d.off [s, t] = 0 := by
  rw [ho]; unfold lookE; simp [okName]; omega
set_option maxRecDepth 100000 in
set_option maxHeartbeats 4000000 in
theorem ref_refused (h : RefAt w q d es A c M) (s t : ByteArray) (must : Bool) (hs : s.size ≤ 9223372036854775807) (ht : t.size ≤ 9223372036854775807) :
    Calls Try.prog 54 #[.pointer (some ⟨q, 0, none⟩), .string s, .string t, .bool must] w fun e w' => e = .returned (.int .i64 (refE d s t must)) ∧ w' = w.drew := by
  have hat := at_any h s
  obtain ⟨h0, h1, h2, h3, h4⟩ := rrow h.row
  have hg : w.drew.cell? ⟨q, 4, none⟩ = some (.bool d.off) := h4
  have HAt := Lib.hid hat
  clear h hat h0 h1 h2 h3 h4
  cases ho : d.off with
  | true =>
    rw [ho] at hg
    have hE : refE d s t must = 30 := by unfold refE; rw [ho]; simp [lookE]
    rw [hE]
    clear hE ho
    go_enter Try.func54, Try.ntmps54
    go_wp2_with fail
    refine (HAt.out).mono ?_; rintro e w2 ⟨rfl, rfl⟩
    go_wp2_with fail
    go_ret
    exact ⟨rfl, rfl⟩
  | false =>
    rw [ho] at hg
    by_cases hs1 : s.size < 1
    · have hE : refE d s t must = 2 := by unfold refE; rw [look_bad1 ho (.inl hs1)]; rfl
      rw [hE]; clear hE ho
      go_enter Try.func54, Try.ntmps54
      go_wp2_with fail
      refine (HAt.out).mono ?_; rintro e w2 ⟨rfl, rfl⟩
      go_wp2_with fail
      go_ret
      exact ⟨rfl, rfl⟩
    · by_cases hs2 : 128 < s.size
      · have hE : refE d s t must = 2 := by unfold refE; rw [look_bad1 ho (.inr hs2)]; rfl
        have hd1 : decide (128 < (s.size : Int)) = true := decide_eq_true (by omega)
        rw [hE]; clear hE ho
        go_enter Try.func54, Try.ntmps54
        go_wp2_with fail
        refine (HAt.out).mono ?_; rintro e w2 ⟨rfl, rfl⟩
        go_wp2_with fail
        go_ret
        exact ⟨rfl, rfl⟩
      · have hd1 : decide (128 < (s.size : Int)) = false := decide_eq_false (by omega)
        by_cases ht1 : t.size < 1
        · have hE : refE d s t must = 2 := by unfold refE; rw [look_bad2 ho (.inl ht1)]; rfl
          have hd2 : decide ((t.size : Int) < 1) = true := decide_eq_true (by omega)
          rw [hE]; clear hE ho
          go_enter Try.func54, Try.ntmps54
          go_wp2_with fail
          refine (HAt.out).mono ?_; rintro e w2 ⟨rfl, rfl⟩
          go_wp2_with fail
          go_ret
          exact ⟨rfl, rfl⟩
        · have hd2 : decide ((t.size : Int) < 1) = false := decide_eq_false (by omega)
          by_cases ht2 : 128 < t.size
          · have hE : refE d s t must = 2 := by unfold refE; rw [look_bad2 ho (.inr ht2)]; rfl
            have hd3 : decide (128 < (t.size : Int)) = true := decide_eq_true (by omega)
            rw [hE]; clear hE ho
            go_enter Try.func54, Try.ntmps54
            go_wp2_with fail
            refine (HAt.out).mono ?_; rintro e w2 ⟨rfl, rfl⟩
            go_wp2_with fail
            go_ret
            exact ⟨rfl, rfl⟩
          · have hd3 : decide (128 < (t.size : Int)) = false := decide_eq_false (by omega)
            have hE : refE d s t must = if must && !isF s.data.toList d.fs then 5 else 0 := by unfold refE; rw [look_good ho (by omega) (by omega) (by omega) (by omega)]; rfl
            rw [hE]
            generalize isF s.data.toList d.fs = b at HAt ⊢
            clear hE ho
            cases must with
            | false =>
              go_enter Try.func54, Try.ntmps54
              go_wp2_with fail
              refine (HAt.out).mono ?_; rintro e w2 ⟨rfl, rfl⟩
              go_wp2_with fail
              go_ret
              exact ⟨rfl, rfl⟩
            | true =>
              cases b with
              | false =>
                go_enter Try.func54, Try.ntmps54
                go_wp2_with fail
                refine (HAt.out).mono ?_; rintro e w2 ⟨rfl, rfl⟩
                go_wp2_with fail
                go_ret
                exact ⟨rfl, rfl⟩
              | true =>
                go_enter Try.func54, Try.ntmps54
                go_wp2_with fail
                refine (HAt.out).mono ?_; rintro e w2 ⟨rfl, rfl⟩
                go_wp2_with fail
                go_ret
                exact ⟨rfl, rfl⟩
/-- a struct as a value -/
def En.val (e : En) : Value := .agg e.cells.toArray
theorem load_en (w : World) {b off : Nat} {e : En} (h : e.at_ w b off) : (Instr.loadAt TRF (.pointer (some ⟨b, off, none⟩))).run Try.prog w = .ok e.val w := by
  obtain ⟨h1, h2, h3, h4⟩ := h
  refine run_loadAt_part b off TRF _ e.cells ?_ Try.underlying83 rfl (by kernel_rfl)
  intro j v hj
  rw [add_at]
  match j with
  | 0 => simpa using h1.trans hj
  | 1 => simpa using h2.trans hj
  | 2 => simpa using h3.trans hj
  | 3 => simpa using h4.trans hj
  | _ + 4 => simp [En.cells] at hj
theorem name_eq {a b : ByteArray} (h : a.data.toList = b.data.toList) : a = b := by
  apply ByteArray.ext
  exact Array.ext' h
set_option maxRecDepth 100000 in
set_option maxHeartbeats 4000000 in
theorem ref_file (h : RefAt w q d es A c M) (hMb : ∀ k, M k → k < w.heap.size) (s : ByteArray) (hs : s.size ≤ 9223372036854775807) :
    Calls Try.prog 55 #[.pointer (some ⟨q, 0, none⟩), .string s] w fun e w' => ∃ x : En, e = .returned x.val ∧ x.name = s ∧ x.f = (getF s.data.toList d.fs).getD newF ∧ EnOk w' M x ∧ Below w.heap.size w w' := by
  obtain ⟨W1, hW1⟩ : ∃ W1, W1 = w.alloc (.cells #[.string ⟨#[]⟩, .slice none 0 0, .int .i64 0, .bool false] TRF) := ⟨_, rfl⟩
  have hbl : Below w.heap.size w W1 := by rw [hW1]; exact (Below.refl _ _).alloc (Nat.le_refl _) _
  have h1 : RefAt W1 q d es A c M := h.still (Touch.of_below hbl)
  have hat := at_any h1 s
  obtain ⟨hA, hp⟩ : ∃ b, b = isF s.data.toList d.fs := ⟨_, rfl⟩
  obtain ⟨k, hk⟩ : ∃ k, k = posF s.data.toList d.fs := ⟨_, rfl⟩
  rw [← hk, ← hp] at hat
  have HAt := Lib.hid hat; have H1 := Lib.hid h1; have HBl := Lib.hid hbl; have HP := Lib.hid hp; have HK := Lib.hid hk; clear hat hbl h h1 hp hk
  cases hA with
  | false =>
    go_enter Try.func55, Try.ntmps55
    go_wp2_with fail
    rw [← hW1]
    refine (HAt.out).mono ?_; rintro e w2 ⟨rfl, rfl⟩
    have hrow : Row W1.drew w.heap.size TRF [.string ⟨#[]⟩, .slice none 0 0, .int .i64 0, .bool false] := by rw [hW1]; exact (Row.made w TRF [.string ⟨#[]⟩, .slice none 0 0, .int .i64 0, .bool false]).drew
    have hrow1 : Row W1 w.heap.size TRF [.string ⟨#[]⟩, .slice none 0 0, .int .i64 0, .bool false] := by rw [hW1]; exact Row.made w TRF [.string ⟨#[]⟩, .slice none 0 0, .int .i64 0, .bool false]
    obtain ⟨kb, hkb⟩ : ∃ kb, kb = w.heap.size := ⟨_, rfl⟩
    rw [← hkb] at hrow hrow1 ⊢
    have e0 := hrow1.cell 0; have e1 := hrow1.cell 1; have e2 := hrow1.cell 2; have e3 := hrow1.cell 3
    simp only [List.getElem?_cons_zero, List.getElem?_cons_succ] at e0 e1 e2 e3
    have z0 := hrow1.free 0; have z1 := hrow1.free 1; have z2 := hrow1.free 2; have z3 := hrow1.free 3
    have hkl : kb < W1.heap.size := hrow1.lt
    have HRow := Lib.hid hrow; have HW1 := Lib.hid hW1; have HKb := Lib.hid hkb; clear hrow hW1 hrow1 hkb
    go_wp2_with fail
    clear e0 e1 e2 e3 z0 z1 z2 z3
    have hr1 := HRow.out
    have hr2 : Row ((((W1.setCell ⟨kb, 0, none⟩ (.string s)).setCell ⟨kb, 1, none⟩ (.slice none 0 0)).setCell ⟨kb, 2, none⟩ (.int .i64 0)).setCell ⟨kb, 3, none⟩ (.bool false)).drew kb TRF (En.cells ⟨s, none, 0, newF⟩) := ((((hr1.put 0 (.string s)).put 1 (.slice none 0 0)).put 2 (.int .i64 0)).put 3 (.bool false))
    have ht2 : Touch (· = kb) W1 ((((W1.setCell ⟨kb, 0, none⟩ (.string s)).setCell ⟨kb, 1, none⟩ (.slice none 0 0)).setCell ⟨kb, 2, none⟩ (.int .i64 0)).setCell ⟨kb, 3, none⟩ (.bool false)).drew := (((((Touch.refl (· = kb) W1).setCell (p := ⟨kb, 0, none⟩) (.inl rfl) _).setCell (p := ⟨kb, 1, none⟩) (.inl rfl) _).setCell (p := ⟨kb, 2, none⟩) (.inl rfl) _).setCell (p := ⟨kb, 3, none⟩) (.inl rfl) _).drew
    refine bodyPost_ret (results_cell_row rfl _ _ kb TRF _ (0, 0) _ rfl hr2 Try.underlying83 rfl (by kernel_rfl)) rfl ?_
    have hg0 : getF s.data.toList d.fs = none := by
      have hp := HP.out
      unfold isF at hp
      cases hg : getF s.data.toList d.fs with
      | none => rfl
      | some x => rw [hg] at hp; simp at hp
    exact ⟨⟨s, none, 0, newF⟩, rfl, rfl, by rw [hg0]; rfl, ⟨⟨by simp [newF], by simp [newF]⟩, by simp, by simp [newF], by simp, hs⟩, HBl.out.trans (ht2.below (by rintro k rfl; rw [HKb.out]; exact Nat.le_refl _) HBl.out.size)⟩
  | true =>
    have hsome : ∃ x : En, es[k]? = some x ∧ x.name = s ∧ getF s.data.toList d.fs = some x.f := by
      have hg := getF_pos (n := s.data.toList) H1.out.sort
      rw [← HK.out] at hg
      have hp := HP.out
      unfold isF at hp
      rw [hg] at hp
      rw [H1.out.fs, List.getElem?_map] at hp hg
      cases hx : es[k]? with
      | none => rw [hx] at hp; simp at hp
      | some x =>
        rw [hx] at hp hg
        simp only [Option.map_some] at hp hg
        by_cases he : x.key.1 = s.data.toList
        · rw [if_pos he] at hg
          exact ⟨x, rfl, name_eq he, by rw [H1.out.fs]; exact hg⟩
        · rw [if_neg he] at hp; simp at hp
    obtain ⟨x, hx, hxn, hxg⟩ := hsome
    have hk : k < es.length := (List.getElem?_eq_some_iff.1 hx).1
    obtain ⟨b, off, hA, hblk, hci⟩ := H1.out.list.row (by omega)
    subst hA
    have hxe := hci k x hx
    obtain ⟨f0, f1, f2, f3⟩ := id hxe
    obtain ⟨h0, -, -, -, -⟩ := rrow H1.out.row
    have hcap := H1.out.list.cap
    have hmax := H1.out.list.max
    have h0d : W1.drew.cell? ⟨q, 0, none⟩ = some (.slice (some ⟨b, off, none⟩) es.length c) := h0
    have hrow : Row W1.drew w.heap.size TRF [.string ⟨#[]⟩, .slice none 0 0, .int .i64 0, .bool false] := by rw [hW1]; exact (Row.made w TRF [.string ⟨#[]⟩, .slice none 0 0, .int .i64 0, .bool false]).drew
    have hrow1 : Row W1 w.heap.size TRF [.string ⟨#[]⟩, .slice none 0 0, .int .i64 0, .bool false] := by rw [hW1]; exact Row.made w TRF [.string ⟨#[]⟩, .slice none 0 0, .int .i64 0, .bool false]
    obtain ⟨kb, hkb⟩ : ∃ kb, kb = w.heap.size := ⟨_, rfl⟩
    rw [← hkb] at hrow hrow1
    have e0 := hrow1.cell 0; have e1 := hrow1.cell 1; have e2 := hrow1.cell 2; have e3 := hrow1.cell 3
    simp only [List.getElem?_cons_zero, List.getElem?_cons_succ] at e0 e1 e2 e3
    have z0 := hrow1.free 0; have z1 := hrow1.free 1; have z2 := hrow1.free 2; have z3 := hrow1.free 3
    have hkl : kb < W1.heap.size := hrow1.lt
    have HKb := Lib.hid hkb
    have HRow := Lib.hid hrow; have HX := Lib.hid hx; have HXn := Lib.hid hxn; have HXg := Lib.hid hxg
    clear hrow hrow1 hkb hx hxn hxg hxe hci h0
    go_enter Try.func55, Try.ntmps55
    go_wp2_with fail
    rw [← hW1]
    refine (HAt.out).mono ?_; rintro e w2 ⟨rfl, rfl⟩
    have HW1 := Lib.hid hW1; clear hW1
    rw [← HKb.out]
    go_wp2_with fail
    clear e0 e1 e2 e3 z0 z1 z2 z3
    have hr1 := HRow.out
    have hr2 : Row ((((W1.setCell ⟨kb, 0, none⟩ (.string x.name)).setCell ⟨kb, 1, none⟩ (.slice x.ba x.f.b.length x.bc)).setCell ⟨kb, 2, none⟩ (.int .i64 (x.f.sure : Nat))).setCell ⟨kb, 3, none⟩ (.bool x.f.made)).drew kb TRF (En.cells x) := ((((hr1.put 0 (.string x.name)).put 1 (.slice x.ba x.f.b.length x.bc)).put 2 (.int .i64 (x.f.sure : Nat))).put 3 (.bool x.f.made))
    have ht2 : Touch (· = kb) W1 ((((W1.setCell ⟨kb, 0, none⟩ (.string x.name)).setCell ⟨kb, 1, none⟩ (.slice x.ba x.f.b.length x.bc)).setCell ⟨kb, 2, none⟩ (.int .i64 (x.f.sure : Nat))).setCell ⟨kb, 3, none⟩ (.bool x.f.made)).drew := (((((Touch.refl (· = kb) W1).setCell (p := ⟨kb, 0, none⟩) (.inl rfl) _).setCell (p := ⟨kb, 1, none⟩) (.inl rfl) _).setCell (p := ⟨kb, 2, none⟩) (.inl rfl) _).setCell (p := ⟨kb, 3, none⟩) (.inl rfl) _).drew
    refine bodyPost_ret (results_cell_row rfl _ _ kb TRF _ (0, 0) _ rfl hr2 Try.underlying83 rfl (by kernel_rfl)) rfl ?_
    have hxm : x ∈ es := List.mem_of_getElem? HX.out
    exact ⟨x, rfl, HXn.out, by rw [HXg.out]; rfl, (H1.out.ens x hxm).touch ht2 (fun k hk e => by have := hMb k hk; rw [e, HKb.out] at this; omega), HBl.out.trans (ht2.below (by rintro k rfl; rw [HKb.out]; exact Nat.le_refl _) HBl.out.size)⟩
end
end Go.Proofs.Ytiagoaaldpajmaa
