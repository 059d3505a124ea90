/- ChkKit, ChkWorks -/
import Derived.Test.YtocdganglokplaaDoorGrKits
import Derived.Test.YtocdganglokplaaDoorChkRunA
import Derived.Test.YtocdganglokplaaDoorPcOrdA
import Derived.Test.YtocdganglokplaaDoorPcBitA
namespace Go.Proofs.YtocdganglokplaaDoor
set_option linter.unusedVariables false
section
open Go.ChangeShapes Go.WideShapes Go.ChangeAt Go.RowKit Go.BigFrame
set_option maxRecDepth 100000
/-- a graph that can be read: g -/
def GrN (g : List Nd) (w : World) (e : Ending) (w' : World) : Prop := (∃ (A : Option Addr) (l : List Gn) (c : Nat), e = .returned (.slice A l.length c) ∧ nds l = g ∧ Gr w' A l ∧ l.length ≤ c ∧ c ≤ maxLen) ∧ Below w.heap.size w w'
theorem few40 {g : List Nd} (hm : GMay g) : g.length ≤ 40 ∧ ∀ x ∈ g, x.ins.length ≤ 40 := ⟨by have := hm.1; omega, fun x hx => by have := (hm.2 x hx).2.1; omega⟩
theorem check_is {A : Option Addr} {l : List Gn} {c : Nat} {w : World} {g : List Nd} {n e : Int} (hT : Tab w) (hG : Gr w A l) (hn : nds l = g) (hm : GMay g) (hc : l.length ≤ c ∧ c ≤ maxLen) (hr : checkR g = (n, e)) :
    Calls Tryd.prog 15 #[.slice A l.length c] w fun x w' => x = .returned (.tuple #[.int .i64 n, .int .i64 e]) ∧ Below w.heap.size w w' := by
  have hf := few40 hm
  have h := chkCheck_any A l c w hT hG (by rw [← nds_len, hn]; exact hf.1) (by rw [hn]; exact hf.2) hc
  unfold ChkD at h
  rw [hn, hr] at h
  exact h
theorem order_is {A : Option Addr} {l : List Gn} {c : Nat} {w : World} {g : List Nd} {n : Int} (hT : Tab w) (hG : Gr w A l) (hn : nds l = g) (hm : GMay g) (hc : l.length ≤ c ∧ c ≤ maxLen) (hr : checkR g = (n, 0)) :
    Calls Tryd.prog 17 #[.slice A l.length c] w fun x w' => (∃ B cc, x = .returned (.tuple #[.slice B g.length cc, .int .i64 0])) ∧ Below w.heap.size w w' := by
  have hf := few40 hm
  refine (chkOrder_any A l c w hT hG (by rw [← nds_len, hn]; exact hf.1) (by rw [hn]; exact hf.2) hc).mono ?_
  rintro x w' ⟨⟨v, rfl, hv⟩, hb⟩
  rw [hn] at hv
  obtain ⟨T, hT2, _, hl⟩ := order_there (g := g) (by rw [hr])
  rw [hT2, hl] at hv
  obtain ⟨B, cc, rfl, _⟩ := Rw.Ts.of_own hv
  refine ⟨⟨B, cc, ?_⟩, hb⟩
  rw [hn, hT2]
  simp only [List.length_map, hl]
def meetingN : List Nd := [⟨1, 0, 0, 0, []⟩, ⟨1, 0, 0, 0, []⟩, ⟨6, 0, 0, 0, [0, 1]⟩, ⟨10, 0, 0, 0, [2]⟩]
def deeperL (w : World) : List Gn := [⟨⟨1, 0, 0, 0, []⟩, none, 0⟩, ⟨⟨4, 0, 0, 0, [0, 4]⟩, some ⟨w.heap.size + 0, 0, none⟩, 2⟩, ⟨⟨7, 0, 0, 1, [1]⟩, some ⟨w.heap.size + 1, 0, none⟩, 1⟩, ⟨⟨9, 0, 2, 1, [2]⟩, some ⟨w.heap.size + 2, 0, none⟩, 1⟩, ⟨⟨8, 0, 0, 0, [3]⟩, some ⟨w.heap.size + 3, 0, none⟩, 1⟩]
def deeperO (w : World) : List Obj := [.cells (Rw.row kindI [0, 4]).toArray 3, .cells (Rw.row kindI [1]).toArray 3, .cells (Rw.row kindI [2]).toArray 3, .cells (Rw.row kindI [3]).toArray 3, .cells (Rw.row kindG (deeperL w)).toArray 39]
theorem deeper_gr (w : World) : Gr ((deeperO w).foldl World.alloc w) (some ⟨w.heap.size + 4, 0, none⟩) (deeperL w) := by
  refine ⟨allocs_nodes (deeperO w) w (deeperL w) rfl, fun x hx => ?_⟩
  unfold deeperL at hx
  simp only [List.mem_cons, List.not_mem_nil, or_false] at hx
  rcases hx with rfl | rfl | rfl | rfl | rfl
  · exact ⟨ok_small _ _ _ _ _ _ _ (by decide) (by simp), Rw.Ts.nil⟩
  · exact ⟨ok_small _ _ _ _ _ _ _ (by decide) (by simp), allocs_ints (deeperO w) w [0, 4] rfl⟩
  · exact ⟨ok_small _ _ _ _ _ _ _ (by decide) (by simp), allocs_ints (deeperO w) w [1] rfl⟩
  · exact ⟨ok_small _ _ _ _ _ _ _ (by decide) (by simp), allocs_ints (deeperO w) w [2] rfl⟩
  · exact ⟨ok_small _ _ _ _ _ _ _ (by decide) (by simp), allocs_ints (deeperO w) w [3] rfl⟩
theorem deeper_below (w : World) : Below w.heap.size w ((deeperO w).foldl World.alloc w) := allocs_below (deeperO w) (Below.refl _ _) (Nat.le_refl _)
set_option maxHeartbeats 2000000 in
theorem race_nd (w : World) : Calls Tryd.prog 20 #[] w (GrN raceN w) := by
  go_enter Tryd.func20, Tryd.ntmps20
  go_wp2_with fail
  go_ret
  exact ⟨⟨_, raceL w, 10, rfl, rfl, race_gr w, Nat.le_refl _, by decide⟩, allocs_below (raceO w) (Below.refl _ _) (Nat.le_refl _)⟩
set_option maxHeartbeats 2000000 in
theorem straight_nd (w : World) : Calls Tryd.prog 22 #[] w (GrN straightN w) := by
  go_enter Tryd.func22, Tryd.ntmps22
  go_wp2_with fail
  go_ret
  exact ⟨⟨_, straightL w, 2, rfl, rfl, straight_gr w, Nat.le_refl _, by decide⟩, allocs_below (straightO w) (Below.refl _ _) (Nat.le_refl _)⟩
set_option maxHeartbeats 2000000 in
theorem meeting_nd (w : World) : Calls Tryd.prog 21 #[] w (GrN meetingN w) := by
  go_enter Tryd.func21, Tryd.ntmps21
  go_wp2_with fail
  go_ret
  exact ⟨⟨_, meetingL w, 4, rfl, rfl, meeting_gr w, Nat.le_refl _, by decide⟩, allocs_below (meetingO w) (Below.refl _ _) (Nat.le_refl _)⟩
set_option maxHeartbeats 2000000 in
theorem deeper_nd (w : World) : Calls Tryd.prog 23 #[] w (GrN deeperN w) := by
  go_enter Tryd.func23, Tryd.ntmps23
  go_wp2_with fail
  go_ret
  exact ⟨⟨_, deeperL w, 5, rfl, rfl, deeper_gr w, Nat.le_refl _, by decide⟩, allocs_below (deeperO w) (Below.refl _ _) (Nat.le_refl _)⟩
def woutL (w : World) : List Gn := [⟨⟨10, 0, 0, 0, [0]⟩, some ⟨w.heap.size + 0, 0, none⟩, 1⟩]
def woutO (w : World) : List Obj := [.cells (Rw.row kindI [0]).toArray 3, .cells (Rw.row kindG (woutL w)).toArray 39]
theorem wout_gr (w : World) : Gr ((woutO w).foldl World.alloc w) (some ⟨w.heap.size + 1, 0, none⟩) (woutL w) := by
  refine ⟨allocs_nodes (woutO w) w (woutL w) rfl, fun x hx => ?_⟩
  unfold woutL at hx
  simp only [List.mem_cons, List.not_mem_nil, or_false] at hx
  rcases hx with rfl
  · exact ⟨ok_small _ _ _ _ _ _ _ (by decide) (by simp), allocs_ints (woutO w) w [0] rfl⟩
theorem wout_below (w : World) : Below w.heap.size w ((woutO w).foldl World.alloc w) := allocs_below (woutO w) (Below.refl _ _) (Nat.le_refl _)
def wdepL (w : World) : List Gn := [⟨⟨1, 0, 0, 0, []⟩, none, 0⟩, ⟨⟨7, 0, 0, 0, [0]⟩, some ⟨w.heap.size + 0, 0, none⟩, 1⟩]
def wdepO (w : World) : List Obj := [.cells (Rw.row kindI [0]).toArray 3, .cells (Rw.row kindG (wdepL w)).toArray 39]
theorem wdep_gr (w : World) : Gr ((wdepO w).foldl World.alloc w) (some ⟨w.heap.size + 1, 0, none⟩) (wdepL w) := by
  refine ⟨allocs_nodes (wdepO w) w (wdepL w) rfl, fun x hx => ?_⟩
  unfold wdepL at hx
  simp only [List.mem_cons, List.not_mem_nil, or_false] at hx
  rcases hx with rfl | rfl
  · exact ⟨ok_small _ _ _ _ _ _ _ (by decide) (by simp), Rw.Ts.nil⟩
  · exact ⟨ok_small _ _ _ _ _ _ _ (by decide) (by simp), allocs_ints (wdepO w) w [0] rfl⟩
theorem wdep_below (w : World) : Below w.heap.size w ((wdepO w).foldl World.alloc w) := allocs_below (wdepO w) (Below.refl _ _) (Nat.le_refl _)
def wcycL (w : World) : List Gn := [⟨⟨1, 0, 0, 0, []⟩, none, 0⟩, ⟨⟨4, 0, 0, 0, [0, 2]⟩, some ⟨w.heap.size + 0, 0, none⟩, 2⟩, ⟨⟨2, 0, 0, 0, [1]⟩, some ⟨w.heap.size + 1, 0, none⟩, 1⟩]
def wcycO (w : World) : List Obj := [.cells (Rw.row kindI [0, 2]).toArray 3, .cells (Rw.row kindI [1]).toArray 3, .cells (Rw.row kindG (wcycL w)).toArray 39]
theorem wcyc_gr (w : World) : Gr ((wcycO w).foldl World.alloc w) (some ⟨w.heap.size + 2, 0, none⟩) (wcycL w) := by
  refine ⟨allocs_nodes (wcycO w) w (wcycL w) rfl, fun x hx => ?_⟩
  unfold wcycL at hx
  simp only [List.mem_cons, List.not_mem_nil, or_false] at hx
  rcases hx with rfl | rfl | rfl
  · exact ⟨ok_small _ _ _ _ _ _ _ (by decide) (by simp), Rw.Ts.nil⟩
  · exact ⟨ok_small _ _ _ _ _ _ _ (by decide) (by simp), allocs_ints (wcycO w) w [0, 2] rfl⟩
  · exact ⟨ok_small _ _ _ _ _ _ _ (by decide) (by simp), allocs_ints (wcycO w) w [1] rfl⟩
theorem wcyc_below (w : World) : Below w.heap.size w ((wcycO w).foldl World.alloc w) := allocs_below (wcycO w) (Below.refl _ _) (Nat.le_refl _)
def woprL (w : World) : List Gn := [⟨⟨2, 4, 0, 0, []⟩, none, 0⟩]
def woprO (w : World) : List Obj := [.cells (Rw.row kindG (woprL w)).toArray 39]
theorem wopr_gr (w : World) : Gr ((woprO w).foldl World.alloc w) (some ⟨w.heap.size + 0, 0, none⟩) (woprL w) := by
  refine ⟨allocs_nodes (woprO w) w (woprL w) rfl, fun x hx => ?_⟩
  unfold woprL at hx
  simp only [List.mem_cons, List.not_mem_nil, or_false] at hx
  rcases hx with rfl
  · exact ⟨ok_small _ _ _ _ _ _ _ (by decide) (by simp), Rw.Ts.nil⟩
theorem wopr_below (w : World) : Below w.heap.size w ((woprO w).foldl World.alloc w) := allocs_below (woprO w) (Below.refl _ _) (Nat.le_refl _)
end

section
open Go.ChangeShapes Go.WideShapes Go.ChangeAt Go.RowKit Go.BigFrame
set_option maxRecDepth 100000
set_option maxHeartbeats 16000000 in
theorem chkWorks_any (w : World) (hT : Tab w) : Calls Tryd.prog 10 #[] w fun e w' => e = .returned (.bool true) ∧ Below w.heap.size w w' := by
  have HT := Lib.hid hT; have Hb := Lib.hid (Below.refl w.heap.size w); clear hT
  go_enter Tryd.func10, Tryd.ntmps10
  go_wp2_with fail
  refine (straight_nd _).mono ?_; rintro e w1 ⟨⟨A, l, c, rfl, hn, hG, hc1, hc2⟩, hb⟩
  have hbb := Hb.out.trans (hb.mono Hb.out.size)
  clear Hb hb; have Hb := Lib.hid hbb; have HG := Lib.hid hG; have HN := Lib.hid hn; have HCC := Lib.hid (And.intro hc1 hc2); clear hbb hG hn hc1 hc2
  dsimp only
  go_wp2_with fail
  refine (check_is (HT.out.below Hb.out) HG.out HN.out (by decide) HCC.out ex_straight).mono ?_; rintro e w2 ⟨rfl, hb⟩
  have hbb := Hb.out.trans (hb.mono Hb.out.size)
  clear Hb hb HG HN HCC; have Hb := Lib.hid hbb; clear hbb
  dsimp only
  have HG := Lib.hid (wout_gr w2)
  have HB2 := Lib.hid (Hb.out.trans ((wout_below w2).mono Hb.out.size))
  go_wp2_with fail
  refine (check_is (l := woutL w2) (c := 1) (g := [⟨10, 0, 0, 0, [0]⟩]) (HT.out.below HB2.out) HG.out rfl (by decide) (show 1 ≤ 1 ∧ 1 ≤ maxLen by decide) ex_output).mono ?_; rintro e w3 ⟨rfl, hb⟩
  have hbb := HB2.out.trans (hb.mono HB2.out.size)
  clear Hb hb HG HB2; have Hb := Lib.hid hbb; clear hbb
  dsimp only
  have HG := Lib.hid (wdep_gr w3)
  have HB2 := Lib.hid (Hb.out.trans ((wdep_below w3).mono Hb.out.size))
  go_wp2_with fail
  refine (check_is (l := wdepL w3) (c := 2) (g := [⟨1, 0, 0, 0, []⟩, ⟨7, 0, 0, 0, [0]⟩]) (HT.out.below HB2.out) HG.out rfl (by decide) (show 2 ≤ 2 ∧ 2 ≤ maxLen by decide) ex_depth).mono ?_; rintro e w4 ⟨rfl, hb⟩
  have hbb := HB2.out.trans (hb.mono HB2.out.size)
  clear Hb hb HG HB2; have Hb := Lib.hid hbb; clear hbb
  dsimp only
  have HG := Lib.hid (wcyc_gr w4)
  have HB2 := Lib.hid (Hb.out.trans ((wcyc_below w4).mono Hb.out.size))
  go_wp2_with fail
  refine (check_is (l := wcycL w4) (c := 3) (g := [⟨1, 0, 0, 0, []⟩, ⟨4, 0, 0, 0, [0, 2]⟩, ⟨2, 0, 0, 0, [1]⟩]) (HT.out.below HB2.out) HG.out rfl (by decide) (show 3 ≤ 3 ∧ 3 ≤ maxLen by decide) ex_cycle).mono ?_; rintro e w5 ⟨rfl, hb⟩
  have hbb := HB2.out.trans (hb.mono HB2.out.size)
  clear Hb hb HG HB2; have Hb := Lib.hid hbb; clear hbb
  dsimp only
  have HG := Lib.hid (wopr_gr w5)
  have HB2 := Lib.hid (Hb.out.trans ((wopr_below w5).mono Hb.out.size))
  go_wp2_with fail
  refine (check_is (l := woprL w5) (c := 1) (g := [⟨2, 4, 0, 0, []⟩]) (HT.out.below HB2.out) HG.out rfl (by decide) (show 1 ≤ 1 ∧ 1 ≤ maxLen by decide) ex_oper).mono ?_; rintro e w6 ⟨rfl, hb⟩
  have hbb := HB2.out.trans (hb.mono HB2.out.size)
  clear Hb hb HG HB2; have Hb := Lib.hid hbb; clear hbb
  dsimp only
  go_wp2_with fail
  refine (race_nd _).mono ?_; rintro e w7 ⟨⟨A, l, c, rfl, hn, hG, hc1, hc2⟩, hb⟩
  have hbb := Hb.out.trans (hb.mono Hb.out.size)
  clear Hb hb; have Hb := Lib.hid hbb; have HG := Lib.hid hG; have HN := Lib.hid hn; have HCC := Lib.hid (And.intro hc1 hc2); clear hbb hG hn hc1 hc2
  dsimp only
  go_wp2_with fail
  refine (order_is (HT.out.below Hb.out) HG.out HN.out (by decide) HCC.out ex_race).mono ?_; rintro e w8 ⟨⟨B, cc, rfl⟩, hb⟩
  have hbb := Hb.out.trans (hb.mono Hb.out.size)
  clear Hb hb HG HN HCC; have Hb := Lib.hid hbb; clear hbb
  dsimp only
  go_wp2_with fail
  refine (deeper_nd _).mono ?_; rintro e w9 ⟨⟨A, l, c, rfl, hn, hG, hc1, hc2⟩, hb⟩
  have hbb := Hb.out.trans (hb.mono Hb.out.size)
  clear Hb hb; have Hb := Lib.hid hbb; have HG := Lib.hid hG; have HN := Lib.hid hn; have HCC := Lib.hid (And.intro hc1 hc2); clear hbb hG hn hc1 hc2
  dsimp only
  go_wp2_with fail
  refine (check_is (HT.out.below Hb.out) HG.out HN.out (by decide) HCC.out ex_deeper).mono ?_; rintro e w10 ⟨rfl, hb⟩
  have hbb := Hb.out.trans (hb.mono Hb.out.size)
  clear Hb hb HG HN HCC; have Hb := Lib.hid hbb; clear hbb
  dsimp only
  go_wp2_with fail
  go_ret
  exact ⟨rfl, Hb.out⟩
end
end Go.Proofs.YtocdganglokplaaDoor
