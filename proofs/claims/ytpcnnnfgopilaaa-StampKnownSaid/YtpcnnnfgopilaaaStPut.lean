/- Put, the program's. -/
import Derived.Test.YtpcnnnfgopilaaaStInto
import Derived.Test.YtpcnnnfgopilaaaBytes
import Derived.BigRegion
import Derived.RegionTactic
namespace Go.Proofs.Ytpcnnnfgopilaaa
open Go.ChangeShapes Go.WideShapes Go.ChangeAt Go.RowKit Go.BigFrame
set_option linter.unusedVariables false
theorem Try.infoByte : (Try.prog.info? 5).map (fun i => (i.zero, i.size, i.bytes)) = some (some (.int .u8 0), 1, 1) := by kernel_rfl
def pc (k j : Nat) (v : Int) : Int := if j < k then v else 0
/-- what Put gives of a right time: its bytes, in a block of their own, with no room behind them -/
def Made (t : St) (w : World) (e : Ending) (w' : World) : Prop :=
  ∃ g, e = .returned (.tuple #[.slice (some ⟨g, 0, none⟩) t.put.length t.put.length, .int .i64 0]) ∧ w.heap.size ≤ g ∧ Row w' g 5 (u8s t.put) ∧ Below w.heap.size w w'
theorem u8s_put0 {e x y z : Int} (h : St.R ⟨0, e, x, y, z⟩) : u8s (St.put ⟨0, e, x, y, z⟩) = [.int .u8 0, .int .u8 (e / 256), .int .u8 (e % 256)] := by
  unfold St.R at h
  simp only at h
  unfold St.put St.tail u8s
  simp
  omega
theorem len_put0 {e x y z : Int} (h : St.R ⟨0, e, x, y, z⟩) : (St.put ⟨0, e, x, y, z⟩).length = 3 := by
  rw [St.put_len h]; rfl
set_option maxHeartbeats 4000000 in
theorem put_yes0 (e x y z : Int) (w : World) (h : St.R ⟨0, e, x, y, z⟩) : Calls Try.prog 17 #[St.val ⟨0, e, x, y, z⟩] w (Made ⟨0, e, x, y, z⟩ w) := by
  have HR := Lib.hid (right_is (decide_eq_true h) (right_any ⟨0, e, x, y, z⟩))
  have HE := Lib.hid (u8s_put0 h); have HL := Lib.hid (len_put0 h)
  unfold St.R at h
  simp only at h
  obtain ⟨-, ⟨he0, he1⟩, ⟨x0, x1, -⟩, ⟨y0, y1, -⟩, ⟨z0, z1, -⟩⟩ := h
  unfold St.val at *
  simp only at HR ⊢
  obtain ⟨T, hT⟩ : ∃ T : St, T = ⟨0, e, x, y, z⟩ := ⟨_, rfl⟩
  rw [← hT] at HE HL ⊢
  have HTT := Lib.hid hT; clear hT
  go_enter Try.func17, Try.ntmps17
  go_wp2_with fail
  refine (HR.out _).mono ?_; rintro e1 w1 ⟨rfl, hb1⟩
  obtain ⟨hc, hf⟩ := old_cells hb1
  obtain ⟨i0, hi, hz0, hz1, hz2⟩ := info_parts Try.infoByte
  go_wp2_with (refine wpList_make_full _ rfl (.tmp 11) (.tmp 11) 27 rfl w1.heap.size 5 i0 _ 1 Try.underlying27 hi hz0 hz1 .i64 .i64 _ _ 3 rfl rfl rfl rfl (by rw [hz2]; omega) (by unfold maxLen; omega) (Nat.le_refl _) ?_)
  intro w2 hown hgrow
  have hr : Row w2 w1.heap.size 5 (u8s [0, 0, 0]) := by
    have := Row.of_full hown
    simpa [u8s, toList_madeCells_one] using this
  have hb2 : Below w1.heap.size w1 w2 := (Below.refl _ _).grown hgrow (Nat.le_refl _) (by intro k h; cases h)
  have hb12 := hb1.trans (hb2.mono hb1.size)
  clear hc hf hown hgrow hi hz0 hz1 hz2
  have ht := (Holds.made w ⟨0, e, x, y, z⟩).below hb12
  have hbw : Below w.heap.size w w2 := ((Below.refl _ _).alloc (Nat.le_refl _) _).trans (hb12.mono (by simp))
  have hlt : w.heap.size < w1.heap.size := by have := hb1.size; simp at this; omega
  obtain ⟨c0, c1, c2, c3, c4⟩ := ht.cells5
  simp only at c0 c1 c2 c3 c4
  have f0 := hr.free 0; have f1 := hr.free 1; have f2 := hr.free 2
  have b0 := hr.cell 0; have b1 := hr.cell 1; have b2 := hr.cell 2
  simp only [u8s, List.map_cons, List.map_nil, List.getElem?_cons_succ, List.getElem?_cons_zero] at b0 b1 b2
  generalize w1.heap.size = g at *
  have HR1 := Lib.hid hr; have HT := Lib.hid ht; have HBW := Lib.hid hbw; clear hr ht hbw hb1 hb2 hb12
  have hne : w.heap.size ≠ g := by omega
  go_wp2_with fail
  go_region
  have hr3 : Row (((w2.setCell ⟨g, 0, none⟩ (.int .u8 0)).setCell ⟨g, 1, none⟩ (.int .u8 (e / 256))).setCell ⟨g, 2, none⟩ (.int .u8 (e % 256))) g 5 [.int .u8 0, .int .u8 (e / 256), .int .u8 (e % 256)] := ((HR1.out.put 0 (.int .u8 0)).put 1 (.int .u8 (e / 256))).put 2 (.int .u8 (e % 256))
  have ht3 : Holds (((w2.setCell ⟨g, 0, none⟩ (.int .u8 0)).setCell ⟨g, 1, none⟩ (.int .u8 (e / 256))).setCell ⟨g, 2, none⟩ (.int .u8 (e % 256))) w.heap.size ⟨0, e, x, y, z⟩ := ((HT.out.far hne _).far hne _).far hne _
  have hb3 : Below w.heap.size w (((w2.setCell ⟨g, 0, none⟩ (.int .u8 0)).setCell ⟨g, 1, none⟩ (.int .u8 (e / 256))).setCell ⟨g, 2, none⟩ (.int .u8 (e % 256))) := ((HBW.out.setCell (Nat.le_of_lt hlt) _).setCell (Nat.le_of_lt hlt) _).setCell (Nat.le_of_lt hlt) _
  generalize ((w2.setCell ⟨g, 0, none⟩ (.int .u8 0)).setCell ⟨g, 1, none⟩ (.int .u8 (e / 256))).setCell ⟨g, 2, none⟩ (.int .u8 (e % 256)) = w3 at *
  have hr4 := hr3.drew; have ht4 : Holds w3.drew w.heap.size ⟨0, e, x, y, z⟩ := ht3; have hb4 := hb3.drew
  generalize w3.drew = w4 at *
  clear HR1 HT HBW f0 f1 f2 b0 b1 b2 c0 c1 c2 c3 c4 hr3 ht3 hb3
  obtain ⟨c0, -⟩ := ht4.cells5
  simp only at c0
  have HR4 := Lib.hid hr4; have HT4 := Lib.hid ht4; have HB4 := Lib.hid hb4; clear hr4 ht4 hb4
  go_wp2_with fail
  clear c0
  go_loopw [31] (fun i wr => ∃ (k : Nat), k ≤ 0 ∧ i = .int .i64 k ∧ Holds wr w.heap.size ⟨0, e, x, y, z⟩ ∧ Row wr g 5 [.int .u8 0, .int .u8 (e / 256), .int .u8 (e % 256)] ∧ Below w.heap.size w wr) (fun i _ => 0 - (intOf i).toNat)
  case atStart => exact ⟨0, by omega, rfl, HT4.out, HR4.out, HB4.out⟩
  case round =>
    obtain ⟨k, hk, rfl, ht, hr, hb⟩ := hrel
    have hcase : k = 0 := by omega
    clear hk
    subst hcase
    · have H2 := Lib.hid hr; have H3 := Lib.hid hb; clear ht hr hb
      go_wp2_with fail
      go_ret2
      exact ⟨g, (by rw [HL.out]; rfl), Nat.le_of_lt hlt, by rw [HE.out]; exact H2.out, H3.out⟩
theorem u8s_put1 {e x y z : Int} (h : St.R ⟨1, e, x, y, z⟩) : u8s (St.put ⟨1, e, x, y, z⟩) = [.int .u8 1, .int .u8 (e / 256), .int .u8 (e % 256), .int .u8 x] := by
  unfold St.R at h
  simp only at h
  unfold St.put St.tail u8s
  simp
  omega
theorem len_put1 {e x y z : Int} (h : St.R ⟨1, e, x, y, z⟩) : (St.put ⟨1, e, x, y, z⟩).length = 4 := by
  rw [St.put_len h]; rfl
set_option maxHeartbeats 4000000 in
theorem put_yes1 (e x y z : Int) (w : World) (h : St.R ⟨1, e, x, y, z⟩) : Calls Try.prog 17 #[St.val ⟨1, e, x, y, z⟩] w (Made ⟨1, e, x, y, z⟩ w) := by
  have HR := Lib.hid (right_is (decide_eq_true h) (right_any ⟨1, e, x, y, z⟩))
  have HE := Lib.hid (u8s_put1 h); have HL := Lib.hid (len_put1 h)
  unfold St.R at h
  simp only at h
  obtain ⟨-, ⟨he0, he1⟩, ⟨x0, x1, -⟩, ⟨y0, y1, -⟩, ⟨z0, z1, -⟩⟩ := h
  unfold St.val at *
  simp only at HR ⊢
  obtain ⟨T, hT⟩ : ∃ T : St, T = ⟨1, e, x, y, z⟩ := ⟨_, rfl⟩
  rw [← hT] at HE HL ⊢
  have HTT := Lib.hid hT; clear hT
  go_enter Try.func17, Try.ntmps17
  go_wp2_with fail
  refine (HR.out _).mono ?_; rintro e1 w1 ⟨rfl, hb1⟩
  obtain ⟨hc, hf⟩ := old_cells hb1
  obtain ⟨i0, hi, hz0, hz1, hz2⟩ := info_parts Try.infoByte
  go_wp2_with (refine wpList_make_full _ rfl (.tmp 11) (.tmp 11) 27 rfl w1.heap.size 5 i0 _ 1 Try.underlying27 hi hz0 hz1 .i64 .i64 _ _ 4 rfl rfl rfl rfl (by rw [hz2]; omega) (by unfold maxLen; omega) (Nat.le_refl _) ?_)
  intro w2 hown hgrow
  have hr : Row w2 w1.heap.size 5 (u8s [0, 0, 0, 0]) := by
    have := Row.of_full hown
    simpa [u8s, toList_madeCells_one] using this
  have hb2 : Below w1.heap.size w1 w2 := (Below.refl _ _).grown hgrow (Nat.le_refl _) (by intro k h; cases h)
  have hb12 := hb1.trans (hb2.mono hb1.size)
  clear hc hf hown hgrow hi hz0 hz1 hz2
  have ht := (Holds.made w ⟨1, e, x, y, z⟩).below hb12
  have hbw : Below w.heap.size w w2 := ((Below.refl _ _).alloc (Nat.le_refl _) _).trans (hb12.mono (by simp))
  have hlt : w.heap.size < w1.heap.size := by have := hb1.size; simp at this; omega
  obtain ⟨c0, c1, c2, c3, c4⟩ := ht.cells5
  simp only at c0 c1 c2 c3 c4
  have f0 := hr.free 0; have f1 := hr.free 1; have f2 := hr.free 2
  have b0 := hr.cell 0; have b1 := hr.cell 1; have b2 := hr.cell 2
  simp only [u8s, List.map_cons, List.map_nil, List.getElem?_cons_succ, List.getElem?_cons_zero] at b0 b1 b2
  generalize w1.heap.size = g at *
  have HR1 := Lib.hid hr; have HT := Lib.hid ht; have HBW := Lib.hid hbw; clear hr ht hbw hb1 hb2 hb12
  have hne : w.heap.size ≠ g := by omega
  go_wp2_with fail
  go_region
  have hr3 : Row (((w2.setCell ⟨g, 0, none⟩ (.int .u8 1)).setCell ⟨g, 1, none⟩ (.int .u8 (e / 256))).setCell ⟨g, 2, none⟩ (.int .u8 (e % 256))) g 5 [.int .u8 1, .int .u8 (e / 256), .int .u8 (e % 256), .int .u8 (pc 0 0 x)] := ((HR1.out.put 0 (.int .u8 1)).put 1 (.int .u8 (e / 256))).put 2 (.int .u8 (e % 256))
  have ht3 : Holds (((w2.setCell ⟨g, 0, none⟩ (.int .u8 1)).setCell ⟨g, 1, none⟩ (.int .u8 (e / 256))).setCell ⟨g, 2, none⟩ (.int .u8 (e % 256))) w.heap.size ⟨1, e, x, y, z⟩ := ((HT.out.far hne _).far hne _).far hne _
  have hb3 : Below w.heap.size w (((w2.setCell ⟨g, 0, none⟩ (.int .u8 1)).setCell ⟨g, 1, none⟩ (.int .u8 (e / 256))).setCell ⟨g, 2, none⟩ (.int .u8 (e % 256))) := ((HBW.out.setCell (Nat.le_of_lt hlt) _).setCell (Nat.le_of_lt hlt) _).setCell (Nat.le_of_lt hlt) _
  generalize ((w2.setCell ⟨g, 0, none⟩ (.int .u8 1)).setCell ⟨g, 1, none⟩ (.int .u8 (e / 256))).setCell ⟨g, 2, none⟩ (.int .u8 (e % 256)) = w3 at *
  have hr4 := hr3.drew; have ht4 : Holds w3.drew w.heap.size ⟨1, e, x, y, z⟩ := ht3; have hb4 := hb3.drew
  generalize w3.drew = w4 at *
  clear HR1 HT HBW f0 f1 f2 b0 b1 b2 c0 c1 c2 c3 c4 hr3 ht3 hb3
  obtain ⟨c0, -⟩ := ht4.cells5
  simp only at c0
  have HR4 := Lib.hid hr4; have HT4 := Lib.hid ht4; have HB4 := Lib.hid hb4; clear hr4 ht4 hb4
  go_wp2_with fail
  clear c0
  go_loopw [31] (fun i wr => ∃ (k : Nat), k ≤ 1 ∧ i = .int .i64 k ∧ Holds wr w.heap.size ⟨1, e, x, y, z⟩ ∧ Row wr g 5 [.int .u8 1, .int .u8 (e / 256), .int .u8 (e % 256), .int .u8 (pc k 0 x)] ∧ Below w.heap.size w wr) (fun i _ => 1 - (intOf i).toNat)
  case atStart => exact ⟨0, by omega, rfl, HT4.out, HR4.out, HB4.out⟩
  case round =>
    obtain ⟨k, hk, rfl, ht, hr, hb⟩ := hrel
    have hcase : k = 0 ∨ k = 1 := by omega
    clear hk
    rcases hcase with rfl | rfl
    · obtain ⟨c0, c1, c2, c3, c4⟩ := ht.cells5
      simp only at c0 c1 c2 c3 c4
      have f := hr.free 3
      have b := hr.cell 3
      simp only [List.getElem?_cons_succ, List.getElem?_cons_zero] at b
      have H1 := Lib.hid ht; have H2 := Lib.hid hr; have H3 := Lib.hid hb; clear ht hr hb
      go_wp2_with fail
      go_roundw
      case rel => exact ⟨1, by omega, rfl, H1.out.far hne _, H2.out.put 3 (.int .u8 x), H3.out.setCell (Nat.le_of_lt hlt) _⟩
      case measure => simp [intOf]
    · have H2 := Lib.hid hr; have H3 := Lib.hid hb; clear ht hr hb
      go_wp2_with fail
      go_ret2
      exact ⟨g, (by rw [HL.out]; rfl), Nat.le_of_lt hlt, by rw [HE.out]; exact H2.out, H3.out⟩
theorem u8s_put2 {e x y z : Int} (h : St.R ⟨2, e, x, y, z⟩) : u8s (St.put ⟨2, e, x, y, z⟩) = [.int .u8 2, .int .u8 (e / 256), .int .u8 (e % 256), .int .u8 x, .int .u8 y] := by
  unfold St.R at h
  simp only at h
  unfold St.put St.tail u8s
  simp
  omega
theorem len_put2 {e x y z : Int} (h : St.R ⟨2, e, x, y, z⟩) : (St.put ⟨2, e, x, y, z⟩).length = 5 := by
  rw [St.put_len h]; rfl
set_option maxHeartbeats 4000000 in
theorem put_yes2 (e x y z : Int) (w : World) (h : St.R ⟨2, e, x, y, z⟩) : Calls Try.prog 17 #[St.val ⟨2, e, x, y, z⟩] w (Made ⟨2, e, x, y, z⟩ w) := by
  have HR := Lib.hid (right_is (decide_eq_true h) (right_any ⟨2, e, x, y, z⟩))
  have HE := Lib.hid (u8s_put2 h); have HL := Lib.hid (len_put2 h)
  unfold St.R at h
  simp only at h
  obtain ⟨-, ⟨he0, he1⟩, ⟨x0, x1, -⟩, ⟨y0, y1, -⟩, ⟨z0, z1, -⟩⟩ := h
  unfold St.val at *
  simp only at HR ⊢
  obtain ⟨T, hT⟩ : ∃ T : St, T = ⟨2, e, x, y, z⟩ := ⟨_, rfl⟩
  rw [← hT] at HE HL ⊢
  have HTT := Lib.hid hT; clear hT
  go_enter Try.func17, Try.ntmps17
  go_wp2_with fail
  refine (HR.out _).mono ?_; rintro e1 w1 ⟨rfl, hb1⟩
  obtain ⟨hc, hf⟩ := old_cells hb1
  obtain ⟨i0, hi, hz0, hz1, hz2⟩ := info_parts Try.infoByte
  go_wp2_with (refine wpList_make_full _ rfl (.tmp 11) (.tmp 11) 27 rfl w1.heap.size 5 i0 _ 1 Try.underlying27 hi hz0 hz1 .i64 .i64 _ _ 5 rfl rfl rfl rfl (by rw [hz2]; omega) (by unfold maxLen; omega) (Nat.le_refl _) ?_)
  intro w2 hown hgrow
  have hr : Row w2 w1.heap.size 5 (u8s [0, 0, 0, 0, 0]) := by
    have := Row.of_full hown
    simpa [u8s, toList_madeCells_one] using this
  have hb2 : Below w1.heap.size w1 w2 := (Below.refl _ _).grown hgrow (Nat.le_refl _) (by intro k h; cases h)
  have hb12 := hb1.trans (hb2.mono hb1.size)
  clear hc hf hown hgrow hi hz0 hz1 hz2
  have ht := (Holds.made w ⟨2, e, x, y, z⟩).below hb12
  have hbw : Below w.heap.size w w2 := ((Below.refl _ _).alloc (Nat.le_refl _) _).trans (hb12.mono (by simp))
  have hlt : w.heap.size < w1.heap.size := by have := hb1.size; simp at this; omega
  obtain ⟨c0, c1, c2, c3, c4⟩ := ht.cells5
  simp only at c0 c1 c2 c3 c4
  have f0 := hr.free 0; have f1 := hr.free 1; have f2 := hr.free 2
  have b0 := hr.cell 0; have b1 := hr.cell 1; have b2 := hr.cell 2
  simp only [u8s, List.map_cons, List.map_nil, List.getElem?_cons_succ, List.getElem?_cons_zero] at b0 b1 b2
  generalize w1.heap.size = g at *
  have HR1 := Lib.hid hr; have HT := Lib.hid ht; have HBW := Lib.hid hbw; clear hr ht hbw hb1 hb2 hb12
  have hne : w.heap.size ≠ g := by omega
  go_wp2_with fail
  go_region
  have hr3 : Row (((w2.setCell ⟨g, 0, none⟩ (.int .u8 2)).setCell ⟨g, 1, none⟩ (.int .u8 (e / 256))).setCell ⟨g, 2, none⟩ (.int .u8 (e % 256))) g 5 [.int .u8 2, .int .u8 (e / 256), .int .u8 (e % 256), .int .u8 (pc 0 0 x), .int .u8 (pc 0 1 y)] := ((HR1.out.put 0 (.int .u8 2)).put 1 (.int .u8 (e / 256))).put 2 (.int .u8 (e % 256))
  have ht3 : Holds (((w2.setCell ⟨g, 0, none⟩ (.int .u8 2)).setCell ⟨g, 1, none⟩ (.int .u8 (e / 256))).setCell ⟨g, 2, none⟩ (.int .u8 (e % 256))) w.heap.size ⟨2, e, x, y, z⟩ := ((HT.out.far hne _).far hne _).far hne _
  have hb3 : Below w.heap.size w (((w2.setCell ⟨g, 0, none⟩ (.int .u8 2)).setCell ⟨g, 1, none⟩ (.int .u8 (e / 256))).setCell ⟨g, 2, none⟩ (.int .u8 (e % 256))) := ((HBW.out.setCell (Nat.le_of_lt hlt) _).setCell (Nat.le_of_lt hlt) _).setCell (Nat.le_of_lt hlt) _
  generalize ((w2.setCell ⟨g, 0, none⟩ (.int .u8 2)).setCell ⟨g, 1, none⟩ (.int .u8 (e / 256))).setCell ⟨g, 2, none⟩ (.int .u8 (e % 256)) = w3 at *
  have hr4 := hr3.drew; have ht4 : Holds w3.drew w.heap.size ⟨2, e, x, y, z⟩ := ht3; have hb4 := hb3.drew
  generalize w3.drew = w4 at *
  clear HR1 HT HBW f0 f1 f2 b0 b1 b2 c0 c1 c2 c3 c4 hr3 ht3 hb3
  obtain ⟨c0, -⟩ := ht4.cells5
  simp only at c0
  have HR4 := Lib.hid hr4; have HT4 := Lib.hid ht4; have HB4 := Lib.hid hb4; clear hr4 ht4 hb4
  go_wp2_with fail
  clear c0
  go_loopw [31] (fun i wr => ∃ (k : Nat), k ≤ 2 ∧ i = .int .i64 k ∧ Holds wr w.heap.size ⟨2, e, x, y, z⟩ ∧ Row wr g 5 [.int .u8 2, .int .u8 (e / 256), .int .u8 (e % 256), .int .u8 (pc k 0 x), .int .u8 (pc k 1 y)] ∧ Below w.heap.size w wr) (fun i _ => 2 - (intOf i).toNat)
  case atStart => exact ⟨0, by omega, rfl, HT4.out, HR4.out, HB4.out⟩
  case round =>
    obtain ⟨k, hk, rfl, ht, hr, hb⟩ := hrel
    have hcase : k = 0 ∨ k = 1 ∨ k = 2 := by omega
    clear hk
    rcases hcase with rfl | rfl | rfl
    · obtain ⟨c0, c1, c2, c3, c4⟩ := ht.cells5
      simp only at c0 c1 c2 c3 c4
      have f := hr.free 3
      have b := hr.cell 3
      simp only [List.getElem?_cons_succ, List.getElem?_cons_zero] at b
      have H1 := Lib.hid ht; have H2 := Lib.hid hr; have H3 := Lib.hid hb; clear ht hr hb
      go_wp2_with fail
      go_roundw
      case rel => exact ⟨1, by omega, rfl, H1.out.far hne _, H2.out.put 3 (.int .u8 x), H3.out.setCell (Nat.le_of_lt hlt) _⟩
      case measure => simp [intOf]
    · obtain ⟨c0, c1, c2, c3, c4⟩ := ht.cells5
      simp only at c0 c1 c2 c3 c4
      have f := hr.free 4
      have b := hr.cell 4
      simp only [List.getElem?_cons_succ, List.getElem?_cons_zero] at b
      have H1 := Lib.hid ht; have H2 := Lib.hid hr; have H3 := Lib.hid hb; clear ht hr hb
      go_wp2_with fail
      go_roundw
      case rel => exact ⟨2, by omega, rfl, H1.out.far hne _, H2.out.put 4 (.int .u8 y), H3.out.setCell (Nat.le_of_lt hlt) _⟩
      case measure => simp [intOf]
    · have H2 := Lib.hid hr; have H3 := Lib.hid hb; clear ht hr hb
      go_wp2_with fail
      go_ret2
      exact ⟨g, (by rw [HL.out]; rfl), Nat.le_of_lt hlt, by rw [HE.out]; exact H2.out, H3.out⟩
theorem u8s_put3 {e x y z : Int} (h : St.R ⟨3, e, x, y, z⟩) : u8s (St.put ⟨3, e, x, y, z⟩) = [.int .u8 3, .int .u8 (e / 256), .int .u8 (e % 256), .int .u8 x, .int .u8 y, .int .u8 z] := by
  unfold St.R at h
  simp only at h
  unfold St.put St.tail u8s
  simp
  omega
theorem len_put3 {e x y z : Int} (h : St.R ⟨3, e, x, y, z⟩) : (St.put ⟨3, e, x, y, z⟩).length = 6 := by
  rw [St.put_len h]; rfl
set_option maxHeartbeats 4000000 in
theorem put_yes3 (e x y z : Int) (w : World) (h : St.R ⟨3, e, x, y, z⟩) : Calls Try.prog 17 #[St.val ⟨3, e, x, y, z⟩] w (Made ⟨3, e, x, y, z⟩ w) := by
  have HR := Lib.hid (right_is (decide_eq_true h) (right_any ⟨3, e, x, y, z⟩))
  have HE := Lib.hid (u8s_put3 h); have HL := Lib.hid (len_put3 h)
  unfold St.R at h
  simp only at h
  obtain ⟨-, ⟨he0, he1⟩, ⟨x0, x1, -⟩, ⟨y0, y1, -⟩, ⟨z0, z1, -⟩⟩ := h
  unfold St.val at *
  simp only at HR ⊢
  obtain ⟨T, hT⟩ : ∃ T : St, T = ⟨3, e, x, y, z⟩ := ⟨_, rfl⟩
  rw [← hT] at HE HL ⊢
  have HTT := Lib.hid hT; clear hT
  go_enter Try.func17, Try.ntmps17
  go_wp2_with fail
  refine (HR.out _).mono ?_; rintro e1 w1 ⟨rfl, hb1⟩
  obtain ⟨hc, hf⟩ := old_cells hb1
  obtain ⟨i0, hi, hz0, hz1, hz2⟩ := info_parts Try.infoByte
  go_wp2_with (refine wpList_make_full _ rfl (.tmp 11) (.tmp 11) 27 rfl w1.heap.size 5 i0 _ 1 Try.underlying27 hi hz0 hz1 .i64 .i64 _ _ 6 rfl rfl rfl rfl (by rw [hz2]; omega) (by unfold maxLen; omega) (Nat.le_refl _) ?_)
  intro w2 hown hgrow
  have hr : Row w2 w1.heap.size 5 (u8s [0, 0, 0, 0, 0, 0]) := by
    have := Row.of_full hown
    simpa [u8s, toList_madeCells_one] using this
  have hb2 : Below w1.heap.size w1 w2 := (Below.refl _ _).grown hgrow (Nat.le_refl _) (by intro k h; cases h)
  have hb12 := hb1.trans (hb2.mono hb1.size)
  clear hc hf hown hgrow hi hz0 hz1 hz2
  have ht := (Holds.made w ⟨3, e, x, y, z⟩).below hb12
  have hbw : Below w.heap.size w w2 := ((Below.refl _ _).alloc (Nat.le_refl _) _).trans (hb12.mono (by simp))
  have hlt : w.heap.size < w1.heap.size := by have := hb1.size; simp at this; omega
  obtain ⟨c0, c1, c2, c3, c4⟩ := ht.cells5
  simp only at c0 c1 c2 c3 c4
  have f0 := hr.free 0; have f1 := hr.free 1; have f2 := hr.free 2
  have b0 := hr.cell 0; have b1 := hr.cell 1; have b2 := hr.cell 2
  simp only [u8s, List.map_cons, List.map_nil, List.getElem?_cons_succ, List.getElem?_cons_zero] at b0 b1 b2
  generalize w1.heap.size = g at *
  have HR1 := Lib.hid hr; have HT := Lib.hid ht; have HBW := Lib.hid hbw; clear hr ht hbw hb1 hb2 hb12
  have hne : w.heap.size ≠ g := by omega
  go_wp2_with fail
  go_region
  have hr3 : Row (((w2.setCell ⟨g, 0, none⟩ (.int .u8 3)).setCell ⟨g, 1, none⟩ (.int .u8 (e / 256))).setCell ⟨g, 2, none⟩ (.int .u8 (e % 256))) g 5 [.int .u8 3, .int .u8 (e / 256), .int .u8 (e % 256), .int .u8 (pc 0 0 x), .int .u8 (pc 0 1 y), .int .u8 (pc 0 2 z)] := ((HR1.out.put 0 (.int .u8 3)).put 1 (.int .u8 (e / 256))).put 2 (.int .u8 (e % 256))
  have ht3 : Holds (((w2.setCell ⟨g, 0, none⟩ (.int .u8 3)).setCell ⟨g, 1, none⟩ (.int .u8 (e / 256))).setCell ⟨g, 2, none⟩ (.int .u8 (e % 256))) w.heap.size ⟨3, e, x, y, z⟩ := ((HT.out.far hne _).far hne _).far hne _
  have hb3 : Below w.heap.size w (((w2.setCell ⟨g, 0, none⟩ (.int .u8 3)).setCell ⟨g, 1, none⟩ (.int .u8 (e / 256))).setCell ⟨g, 2, none⟩ (.int .u8 (e % 256))) := ((HBW.out.setCell (Nat.le_of_lt hlt) _).setCell (Nat.le_of_lt hlt) _).setCell (Nat.le_of_lt hlt) _
  generalize ((w2.setCell ⟨g, 0, none⟩ (.int .u8 3)).setCell ⟨g, 1, none⟩ (.int .u8 (e / 256))).setCell ⟨g, 2, none⟩ (.int .u8 (e % 256)) = w3 at *
  have hr4 := hr3.drew; have ht4 : Holds w3.drew w.heap.size ⟨3, e, x, y, z⟩ := ht3; have hb4 := hb3.drew
  generalize w3.drew = w4 at *
  clear HR1 HT HBW f0 f1 f2 b0 b1 b2 c0 c1 c2 c3 c4 hr3 ht3 hb3
  obtain ⟨c0, -⟩ := ht4.cells5
  simp only at c0
  have HR4 := Lib.hid hr4; have HT4 := Lib.hid ht4; have HB4 := Lib.hid hb4; clear hr4 ht4 hb4
  go_wp2_with fail
  clear c0
  go_loopw [31] (fun i wr => ∃ (k : Nat), k ≤ 3 ∧ i = .int .i64 k ∧ Holds wr w.heap.size ⟨3, e, x, y, z⟩ ∧ Row wr g 5 [.int .u8 3, .int .u8 (e / 256), .int .u8 (e % 256), .int .u8 (pc k 0 x), .int .u8 (pc k 1 y), .int .u8 (pc k 2 z)] ∧ Below w.heap.size w wr) (fun i _ => 3 - (intOf i).toNat)
  case atStart => exact ⟨0, by omega, rfl, HT4.out, HR4.out, HB4.out⟩
  case round =>
    obtain ⟨k, hk, rfl, ht, hr, hb⟩ := hrel
    have hcase : k = 0 ∨ k = 1 ∨ k = 2 ∨ k = 3 := by omega
    clear hk
    rcases hcase with rfl | rfl | rfl | rfl
    · obtain ⟨c0, c1, c2, c3, c4⟩ := ht.cells5
      simp only at c0 c1 c2 c3 c4
      have f := hr.free 3
      have b := hr.cell 3
      simp only [List.getElem?_cons_succ, List.getElem?_cons_zero] at b
      have H1 := Lib.hid ht; have H2 := Lib.hid hr; have H3 := Lib.hid hb; clear ht hr hb
      go_wp2_with fail
      go_roundw
      case rel => exact ⟨1, by omega, rfl, H1.out.far hne _, H2.out.put 3 (.int .u8 x), H3.out.setCell (Nat.le_of_lt hlt) _⟩
      case measure => simp [intOf]
    · obtain ⟨c0, c1, c2, c3, c4⟩ := ht.cells5
      simp only at c0 c1 c2 c3 c4
      have f := hr.free 4
      have b := hr.cell 4
      simp only [List.getElem?_cons_succ, List.getElem?_cons_zero] at b
      have H1 := Lib.hid ht; have H2 := Lib.hid hr; have H3 := Lib.hid hb; clear ht hr hb
      go_wp2_with fail
      go_roundw
      case rel => exact ⟨2, by omega, rfl, H1.out.far hne _, H2.out.put 4 (.int .u8 y), H3.out.setCell (Nat.le_of_lt hlt) _⟩
      case measure => simp [intOf]
    · obtain ⟨c0, c1, c2, c3, c4⟩ := ht.cells5
      simp only at c0 c1 c2 c3 c4
      have f := hr.free 5
      have b := hr.cell 5
      simp only [List.getElem?_cons_succ, List.getElem?_cons_zero] at b
      have H1 := Lib.hid ht; have H2 := Lib.hid hr; have H3 := Lib.hid hb; clear ht hr hb
      go_wp2_with fail
      go_roundw
      case rel => exact ⟨3, by omega, rfl, H1.out.far hne _, H2.out.put 5 (.int .u8 z), H3.out.setCell (Nat.le_of_lt hlt) _⟩
      case measure => simp [intOf]
    · have H2 := Lib.hid hr; have H3 := Lib.hid hb; clear ht hr hb
      go_wp2_with fail
      go_ret2
      exact ⟨g, (by rw [HL.out]; rfl), Nat.le_of_lt hlt, by rw [HE.out]; exact H2.out, H3.out⟩
theorem put_any (t : St) (w : World) (h : t.R) : Calls Try.prog 17 #[t.val] w (Made t w) := by
  have hd : t.d = 0 ∨ t.d = 1 ∨ t.d = 2 ∨ t.d = 3 := by have := h; unfold St.R at this; omega
  obtain ⟨d, e, x, y, z⟩ := t
  simp only at hd
  rcases hd with rfl | rfl | rfl | rfl
  · exact put_yes0 e x y z w h
  · exact put_yes1 e x y z w h
  · exact put_yes2 e x y z w h
  · exact put_yes3 e x y z w h
theorem put_no (t : St) (w : World) (h : ¬ t.R) : Calls Try.prog 17 #[t.val] w fun e w' => e = .returned (.tuple #[.slice none 0 0, .int .i64 50]) ∧ Below w.heap.size w w' := by
  have HR := Lib.hid (right_is (decide_eq_false h) (right_any t))
  clear h
  obtain ⟨d, e, x, y, z⟩ := t
  unfold St.val at *
  simp only at HR ⊢
  go_enter Try.func17, Try.ntmps17
  go_wp2_with fail
  refine (HR.out _).mono ?_; rintro e1 w1 ⟨rfl, hb1⟩
  have hbw : Below w.heap.size w w1 := ((Below.refl _ _).alloc (Nat.le_refl _) _).trans (hb1.mono (by simp))
  go_wp2_with fail
  go_ret2
  exact ⟨rfl, hbw⟩
theorem refPut_no (t : St) (w : World) (h : ¬ t.R) : Calls Try.prog 18 #[t.val] w fun e w' => e = .returned (.tuple #[.slice none 0 0, .int .i64 50]) ∧ Below w.heap.size w w' := by
  have HR := Lib.hid (right_is (decide_eq_false h) (refRight_any t))
  clear h
  obtain ⟨d, e, x, y, z⟩ := t
  unfold St.val at *
  simp only at HR ⊢
  go_enter Try.func18, Try.ntmps18
  go_wp2_with fail
  refine (HR.out _).mono ?_; rintro e1 w1 ⟨rfl, hb1⟩
  have hbw : Below w.heap.size w w1 := ((Below.refl _ _).alloc (Nat.le_refl _) _).trans (hb1.mono (by simp))
  go_wp2_with fail
  go_ret2
  exact ⟨rfl, hbw⟩
end Go.Proofs.Ytpcnnnfgopilaaa
