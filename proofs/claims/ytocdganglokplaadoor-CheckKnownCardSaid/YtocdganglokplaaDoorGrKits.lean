/- Race, Meeting, Straight: graphs that can be read. -/
import Derived.Test.YtocdganglokplaaDoorGrBA
namespace Go.Proofs.YtocdganglokplaaDoor
open Go.ChangeShapes Go.WideShapes Go.ChangeAt Go.RowKit Go.BigFrame
set_option linter.unusedVariables false
set_option maxRecDepth 100000
theorem allocs_heap : ∀ (os : List Obj) (w : World), (os.foldl World.alloc w).heap.toList = w.heap.toList ++ os
  | [], w => (List.append_nil _).symm
  | o :: os, w => by
    rw [List.foldl_cons, allocs_heap os (w.alloc o)]
    show (w.heap.push o).toList ++ os = _
    rw [Array.toList_push, List.append_assoc]; rfl
/-- the k-th of some blocks that were made one behind the other -/
theorem allocs_at (os : List Obj) (w : World) {k : Nat} {o : Obj} (h : os[k]? = some o) : (os.foldl World.alloc w).heap[w.heap.size + k]? = some o := by
  rw [← Array.getElem?_toList, allocs_heap, List.getElem?_append_right (by simp)]
  simpa using h
theorem allocs_below : ∀ (os : List Obj) {B : Nat} {w0 w : World}, Below B w0 w → B ≤ w.heap.size → Below B w0 (os.foldl World.alloc w)
  | [], _, _, _, h, _ => h
  | o :: os, _, _, w, h, hB => allocs_below os (h.alloc hB o) (by simp; omega)
theorem allocs_ints (os : List Obj) (w : World) {k : Nat} (zs : List Int) (h : os[k]? = some (.cells (Rw.row kindI zs).toArray 3)) : Rw.Ts kindI (os.foldl World.alloc w) (some ⟨w.heap.size + k, 0, none⟩) zs := Rw.Ts.of_row (t := 3) (allocs_at os w h)
theorem allocs_nodes (os : List Obj) (w : World) {k : Nat} (l : List Gn) (h : os[k]? = some (.cells (Rw.row kindG l).toArray 39)) : Rw.Ts kindG (os.foldl World.alloc w) (some ⟨w.heap.size + k, 0, none⟩) l := Rw.Ts.of_row (t := 39) (allocs_at os w h)
/-- a graph that can be read, of few nodes -/
def GraphD (w : World) (e : Ending) (w' : World) : Prop := (∃ (A : Option Addr) (l : List Gn) (c : Nat), e = .returned (.slice A l.length c) ∧ Gr w' A l ∧ l.length ≤ c ∧ c ≤ 10 ∧ ∀ x ∈ l, x.nd.ins.length ≤ 2) ∧ Below w.heap.size w w'
theorem ok_small (k a : Nat) (b d : Int) (ins : List Int) (A : Option Addr) (c : Nat) (h : (k < 256 ∧ a < 256 ∧ -100 ≤ b ∧ b ≤ 100 ∧ -100 ≤ d ∧ d ≤ 100 ∧ ins.length ≤ c ∧ c ≤ 10) ∧ ∀ z ∈ ins, -100 ≤ z ∧ z ≤ 100) (hA : A = none → c = 0) : Gn.Ok ⟨⟨k, a, b, d, ins⟩, A, c⟩ := by
  have h1 : -9223372036854775808 ≤ b ∧ b ≤ 9223372036854775807 := by have := h.1; omega
  have h2 : -9223372036854775808 ≤ d ∧ d ≤ 9223372036854775807 := by have := h.1; omega
  have h3 : ∀ z ∈ ins, -9223372036854775808 ≤ z ∧ z ≤ 9223372036854775807 := fun z hz => by have := h.2 z hz; omega
  have h4 : ins.length ≤ c ∧ c ≤ maxLen := by have := h.1; unfold maxLen; omega
  exact ⟨h.1.1, h.1.2.1, h1, h2, h3, h4, hA⟩
def raceL (w : World) : List Gn := [⟨⟨1, 0, 0, 0, []⟩, none, 0⟩, ⟨⟨2, 0, 1, 0, [0]⟩, some ⟨w.heap.size + 0, 0, none⟩, 1⟩, ⟨⟨7, 0, 0, 1, [1]⟩, some ⟨w.heap.size + 1, 0, none⟩, 1⟩, ⟨⟨4, 0, 0, 1, [2, 6]⟩, some ⟨w.heap.size + 2, 0, none⟩, 2⟩, ⟨⟨2, 0, 2, 1, [3]⟩, some ⟨w.heap.size + 3, 0, none⟩, 1⟩, ⟨⟨3, 0, 9, 1, [4]⟩, some ⟨w.heap.size + 4, 0, none⟩, 1⟩, ⟨⟨9, 0, 3, 1, [5]⟩, some ⟨w.heap.size + 5, 0, none⟩, 1⟩, ⟨⟨8, 0, 0, 0, [4]⟩, some ⟨w.heap.size + 6, 0, none⟩, 1⟩, ⟨⟨5, 0, 0, 0, [7]⟩, some ⟨w.heap.size + 7, 0, none⟩, 1⟩, ⟨⟨10, 0, 0, 0, [8]⟩, some ⟨w.heap.size + 8, 0, none⟩, 1⟩]
def raceO (w : World) : List Obj := [.cells (Rw.row kindI [0]).toArray 3, .cells (Rw.row kindI [1]).toArray 3, .cells (Rw.row kindI [2, 6]).toArray 3, .cells (Rw.row kindI [3]).toArray 3, .cells (Rw.row kindI [4]).toArray 3, .cells (Rw.row kindI [5]).toArray 3, .cells (Rw.row kindI [4]).toArray 3, .cells (Rw.row kindI [7]).toArray 3, .cells (Rw.row kindI [8]).toArray 3, .cells (Rw.row kindG (raceL w)).toArray 39]
theorem race_gr (w : World) : Gr ((raceO w).foldl World.alloc w) (some ⟨w.heap.size + 9, 0, none⟩) (raceL w) := by
  refine ⟨allocs_nodes (raceO w) w (raceL w) rfl, fun x hx => ?_⟩
  unfold raceL at hx
  simp only [List.mem_cons, List.not_mem_nil, or_false] at hx
  rcases hx with rfl | rfl | rfl | rfl | rfl | rfl | rfl | rfl | rfl | rfl
  · exact ⟨ok_small _ _ _ _ _ _ _ (by decide) (by simp), Rw.Ts.nil⟩
  · exact ⟨ok_small _ _ _ _ _ _ _ (by decide) (by simp), allocs_ints (raceO w) w [0] rfl⟩
  · exact ⟨ok_small _ _ _ _ _ _ _ (by decide) (by simp), allocs_ints (raceO w) w [1] rfl⟩
  · exact ⟨ok_small _ _ _ _ _ _ _ (by decide) (by simp), allocs_ints (raceO w) w [2, 6] rfl⟩
  · exact ⟨ok_small _ _ _ _ _ _ _ (by decide) (by simp), allocs_ints (raceO w) w [3] rfl⟩
  · exact ⟨ok_small _ _ _ _ _ _ _ (by decide) (by simp), allocs_ints (raceO w) w [4] rfl⟩
  · exact ⟨ok_small _ _ _ _ _ _ _ (by decide) (by simp), allocs_ints (raceO w) w [5] rfl⟩
  · exact ⟨ok_small _ _ _ _ _ _ _ (by decide) (by simp), allocs_ints (raceO w) w [4] rfl⟩
  · exact ⟨ok_small _ _ _ _ _ _ _ (by decide) (by simp), allocs_ints (raceO w) w [7] rfl⟩
  · exact ⟨ok_small _ _ _ _ _ _ _ (by decide) (by simp), allocs_ints (raceO w) w [8] rfl⟩
set_option maxHeartbeats 2000000 in
theorem race_any (w : World) : Calls Tryd.prog 20 #[] w (GraphD w) := by
  go_enter Tryd.func20, Tryd.ntmps20
  go_wp2_with fail
  go_ret
  exact ⟨⟨_, raceL w, 10, rfl, race_gr w, Nat.le_refl _, by decide, fun x hx => by
    unfold raceL at hx
    simp only [List.mem_cons, List.not_mem_nil, or_false] at hx
    rcases hx with rfl | rfl | rfl | rfl | rfl | rfl | rfl | rfl | rfl | rfl <;> simp⟩, allocs_below (raceO w) (Below.refl _ _) (Nat.le_refl _)⟩
def meetingL (w : World) : List Gn := [⟨⟨1, 0, 0, 0, []⟩, none, 0⟩, ⟨⟨1, 0, 0, 0, []⟩, none, 0⟩, ⟨⟨6, 0, 0, 0, [0, 1]⟩, some ⟨w.heap.size + 0, 0, none⟩, 2⟩, ⟨⟨10, 0, 0, 0, [2]⟩, some ⟨w.heap.size + 1, 0, none⟩, 1⟩]
def meetingO (w : World) : List Obj := [.cells (Rw.row kindI [0, 1]).toArray 3, .cells (Rw.row kindI [2]).toArray 3, .cells (Rw.row kindG (meetingL w)).toArray 39]
theorem meeting_gr (w : World) : Gr ((meetingO w).foldl World.alloc w) (some ⟨w.heap.size + 2, 0, none⟩) (meetingL w) := by
  refine ⟨allocs_nodes (meetingO w) w (meetingL w) rfl, fun x hx => ?_⟩
  unfold meetingL at hx
  simp only [List.mem_cons, List.not_mem_nil, or_false] at hx
  rcases hx with rfl | rfl | rfl | rfl
  · exact ⟨ok_small _ _ _ _ _ _ _ (by decide) (by simp), Rw.Ts.nil⟩
  · exact ⟨ok_small _ _ _ _ _ _ _ (by decide) (by simp), Rw.Ts.nil⟩
  · exact ⟨ok_small _ _ _ _ _ _ _ (by decide) (by simp), allocs_ints (meetingO w) w [0, 1] rfl⟩
  · exact ⟨ok_small _ _ _ _ _ _ _ (by decide) (by simp), allocs_ints (meetingO w) w [2] rfl⟩
set_option maxHeartbeats 2000000 in
theorem meeting_any (w : World) : Calls Tryd.prog 21 #[] w (GraphD w) := by
  go_enter Tryd.func21, Tryd.ntmps21
  go_wp2_with fail
  go_ret
  exact ⟨⟨_, meetingL w, 4, rfl, meeting_gr w, Nat.le_refl _, by decide, fun x hx => by
    unfold meetingL at hx
    simp only [List.mem_cons, List.not_mem_nil, or_false] at hx
    rcases hx with rfl | rfl | rfl | rfl <;> simp⟩, allocs_below (meetingO w) (Below.refl _ _) (Nat.le_refl _)⟩
def straightL (w : World) : List Gn := [⟨⟨1, 0, 0, 0, []⟩, none, 0⟩, ⟨⟨10, 0, 0, 0, [0]⟩, some ⟨w.heap.size + 0, 0, none⟩, 1⟩]
def straightO (w : World) : List Obj := [.cells (Rw.row kindI [0]).toArray 3, .cells (Rw.row kindG (straightL w)).toArray 39]
theorem straight_gr (w : World) : Gr ((straightO w).foldl World.alloc w) (some ⟨w.heap.size + 1, 0, none⟩) (straightL w) := by
  refine ⟨allocs_nodes (straightO w) w (straightL w) rfl, fun x hx => ?_⟩
  unfold straightL at hx
  simp only [List.mem_cons, List.not_mem_nil, or_false] at hx
  rcases hx with rfl | rfl
  · exact ⟨ok_small _ _ _ _ _ _ _ (by decide) (by simp), Rw.Ts.nil⟩
  · exact ⟨ok_small _ _ _ _ _ _ _ (by decide) (by simp), allocs_ints (straightO w) w [0] rfl⟩
set_option maxHeartbeats 2000000 in
theorem straight_any (w : World) : Calls Tryd.prog 22 #[] w (GraphD w) := by
  go_enter Tryd.func22, Tryd.ntmps22
  go_wp2_with fail
  go_ret
  exact ⟨⟨_, straightL w, 2, rfl, straight_gr w, Nat.le_refl _, by decide, fun x hx => by
    unfold straightL at hx
    simp only [List.mem_cons, List.not_mem_nil, or_false] at hx
    rcases hx with rfl | rfl <;> simp⟩, allocs_below (straightO w) (Below.refl _ _) (Nat.le_refl _)⟩
end Go.Proofs.YtocdganglokplaaDoor
