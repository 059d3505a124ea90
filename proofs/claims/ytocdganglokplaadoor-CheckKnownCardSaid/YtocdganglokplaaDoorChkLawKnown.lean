/- CheckKnown: the other laws at the kit's graphs, with one thing another one each, and at all ways to feed three nodes. -/
import Derived.Test.YtocdganglokplaaDoorGrKits
import Derived.Test.YtocdganglokplaaDoorGrStored
import Derived.Test.YtocdganglokplaaDoorGrZeros
import Derived.Test.YtocdganglokplaaDoorChkLawNode
import Derived.Test.YtocdganglokplaaDoorChkLawAll
import Derived.Test.YtocdganglokplaaDoorChkLawOrder
import Derived.Deep.CutBlock
namespace Go.Proofs.YtocdganglokplaaDoor
open Go.ChangeShapes Go.WideShapes Go.ChangeAt Go.RowKit Go.BigFrame
set_option linter.unusedVariables false
set_option maxRecDepth 100000
namespace checkKnown
/-- six graphs in a row at gb -/
def GsAt (wz : World) (gb : Nat) : Prop := gb < wz.heap.size ∧ ∀ k, k < 6 → ∃ (A : Option Addr) (l : List Gn) (c : Nat), wz.cell? ⟨gb, k, none⟩ = some (.slice A l.length c) ∧ Gr wz A l ∧ l.length ≤ c ∧ c ≤ 10 ∧ ∀ x ∈ l, x.nd.ins.length ≤ 2
def zeroG : Gn := ⟨⟨0, 0, 0, 0, []⟩, none, 0⟩
def gsO (A1 A2 A3 A4 : Option Addr) (n1 n2 n3 n4 c1 c2 c3 c4 B : Nat) : List Obj := [.cells (Rw.row kindG []).toArray 39, .cells (Rw.row kindG [zeroG]).toArray 39, .cells [.slice A1 n1 c1, .slice A2 n2 c2, .slice A3 n3 c3, .slice A4 n4 c4, .slice (some ⟨B, 0, none⟩) 0 0, .slice (some ⟨B + 1, 0, none⟩) 1 1].toArray 23]
theorem gs_made {w3 : World} {A1 A2 A3 A4 : Option Addr} {l1 l2 l3 l4 : List Gn} {c1 c2 c3 c4 : Nat} (h1 : Gr w3 A1 l1 ∧ l1.length ≤ c1 ∧ c1 ≤ 10 ∧ ∀ x ∈ l1, x.nd.ins.length ≤ 2) (h2 : Gr w3 A2 l2 ∧ l2.length ≤ c2 ∧ c2 ≤ 10 ∧ ∀ x ∈ l2, x.nd.ins.length ≤ 2) (h3 : Gr w3 A3 l3 ∧ l3.length ≤ c3 ∧ c3 ≤ 10 ∧ ∀ x ∈ l3, x.nd.ins.length ≤ 2) (h4 : Gr w3 A4 l4 ∧ l4.length ≤ c4 ∧ c4 ≤ 10 ∧ ∀ x ∈ l4, x.nd.ins.length ≤ 2) :
    GsAt ((gsO A1 A2 A3 A4 l1.length l2.length l3.length l4.length c1 c2 c3 c4 w3.heap.size).foldl World.alloc w3) (w3.heap.size + 2) := by
  have hb := allocs_below (gsO A1 A2 A3 A4 l1.length l2.length l3.length l4.length c1 c2 c3 c4 w3.heap.size) (Below.refl w3.heap.size w3) (Nat.le_refl _)
  have hr : Row ((gsO A1 A2 A3 A4 l1.length l2.length l3.length l4.length c1 c2 c3 c4 w3.heap.size).foldl World.alloc w3) (w3.heap.size + 2) 23 [.slice A1 l1.length c1, .slice A2 l2.length c2, .slice A3 l3.length c3, .slice A4 l4.length c4, .slice (some ⟨w3.heap.size, 0, none⟩) 0 0, .slice (some ⟨w3.heap.size + 1, 0, none⟩) 1 1] :=
    allocs_at (gsO A1 A2 A3 A4 l1.length l2.length l3.length l4.length c1 c2 c3 c4 w3.heap.size) w3 (k := 2) rfl
  have hz : Rw.Ts kindG ((gsO A1 A2 A3 A4 l1.length l2.length l3.length l4.length c1 c2 c3 c4 w3.heap.size).foldl World.alloc w3) (some ⟨w3.heap.size + 1, 0, none⟩) [zeroG] := allocs_nodes (gsO A1 A2 A3 A4 l1.length l2.length l3.length l4.length c1 c2 c3 c4 w3.heap.size) w3 [zeroG] rfl
  refine ⟨hr.lt, fun k hk => ?_⟩
  rcases (show k = 0 ∨ k = 1 ∨ k = 2 ∨ k = 3 ∨ k = 4 ∨ k = 5 by omega) with rfl | rfl | rfl | rfl | rfl | rfl
  · exact ⟨A1, l1, c1, hr.cell 0, h1.1.below hb, h1.2⟩
  · exact ⟨A2, l2, c2, hr.cell 1, h2.1.below hb, h2.2⟩
  · exact ⟨A3, l3, c3, hr.cell 2, h3.1.below hb, h3.2⟩
  · exact ⟨A4, l4, c4, hr.cell 3, h4.1.below hb, h4.2⟩
  · exact ⟨_, [], 0, hr.cell 4, Gr.nil, Nat.le_refl _, by omega, fun x hx => by cases hx⟩
  · exact ⟨_, [zeroG], 1, hr.cell 5, ⟨hz, fun x hx => by
      obtain rfl : x = zeroG := by simpa using hx
      exact ⟨ok_small _ _ _ _ _ _ _ (by decide) (by simp), Rw.Ts.nil⟩⟩, Nat.le_refl _, by omega, fun x hx => by
      obtain rfl : x = zeroG := by simpa using hx
      decide⟩
/-- within the switch: the node's box at gx, the graph of the call's own at g -/
structure SwS (wz wx : World) (base g gx cap : Nat) (l' : List Gn) (x' : Gn) : Prop where
  row : Row wx gx 39 (kindG.cells x')
  ok : x'.Ok
  ts : Rw.Ts kindI wx x'.A x'.nd.ins
  far : ∀ ad, x'.A = some ad → ad.block ≠ g ∧ ad.block ≠ gx
  own : OwnG wx base (.slice (some ⟨g, 0, none⟩) l'.length cap) l'
  below : Below wz.heap.size wz wx
  hg : g < gx ∧ wz.heap.size ≤ g
section
variable {wz wx : World} {base g gx cap : Nat} {l' : List Gn} {x' : Gn}
theorem SwS.own_set (h : SwS wz wx base g gx cap l' x') (j : Nat) (u : Value) : OwnG (wx.setCell ⟨gx, j, none⟩ u) base (.slice (some ⟨g, 0, none⟩) l'.length cap) l' where
  row := h.own.row.kept (grown_set _ _ _ _) (.inr fun e => by
    have h1 := h.hg.1
    have : g = gx := by injection e
    omega)
  ok := h.own.ok
  ins := fun y hy => (h.own.ins y hy).kept (grown_set _ _ _ _) (.inr fun e => Rw.own_apart (h.own.ins y hy) h.row (by decide) e.symm)
theorem SwS.set (h : SwS wz wx base g gx cap l' x') (j : Nat) (u : Value) (y : Gn) (hc : kindG.cells y = (kindG.cells x').set j u) (hA : y.A = x'.A) (hi : y.nd.ins = x'.nd.ins) (hok : y.Ok) : SwS wz (wx.setCell ⟨gx, j, none⟩ u) base g gx cap l' y where
  row := by rw [hc]; exact h.row.put j u
  ok := hok
  ts := by rw [hA, hi]; exact Ts.far h.ts (fun ad e => (h.far ad e).2) j u
  far := fun ad e => h.far ad (by rw [← hA]; exact e)
  own := h.own_set j u
  below := h.below.setCell (by have := h.hg; show wz.heap.size ≤ gx; omega) u
  hg := h.hg
theorem SwS.lit (h : SwS wz wx base g gx cap l' x') (zs : List Int) (y : Gn) (hc : kindG.cells y = (kindG.cells x').set 4 (.slice (some ⟨wx.heap.size, 0, none⟩) zs.length zs.length)) (hA : y.A = some ⟨wx.heap.size, 0, none⟩) (hi : y.nd.ins = zs) (hok : y.Ok) :
    SwS wz ((wx.setCell ⟨gx, 4, none⟩ (.slice (some ⟨wx.heap.size, 0, none⟩) zs.length zs.length)).alloc (.cells (Rw.row kindI zs).toArray 3)) base g gx cap l' y where
  row := by rw [hc]; exact (h.row.put 4 _).alloc _
  ok := hok
  ts := by
    rw [hA, hi]
    have h1 := Rw.Ts.made (κ := kindI) (wx.setCell ⟨gx, 4, none⟩ (.slice (some ⟨wx.heap.size, 0, none⟩) zs.length zs.length)) zs 3
    rwa [show (wx.setCell ⟨gx, 4, none⟩ (.slice (some ⟨wx.heap.size, 0, none⟩) zs.length zs.length)).heap.size = wx.heap.size by simp [World.setCell]] at h1
  far := fun ad e => by
    rw [hA] at e
    have h1 := h.row.lt
    have h2 := (h.own.row.lt g rfl).2
    cases e
    exact ⟨by show wx.heap.size ≠ g; omega, by show wx.heap.size ≠ gx; omega⟩
  own := (h.own_set 4 _).alloc _
  below := (h.below.setCell (by have := h.hg; show wz.heap.size ≤ gx; omega) _).alloc (by have := h.below.size; simpa [World.setCell] using this) _
  hg := h.hg
end
section
variable {wz wx : World} {base g gx cap : Nat} {l' : List Gn} {x' : Gn}
theorem own_allocs : ∀ (os : List Obj) {w : World} {v : Value} {l : List Gn}, OwnG w base v l → OwnG (os.foldl World.alloc w) base v l
  | [], _, _, _, h => h
  | o :: os, _, _, _, h => own_allocs os (h.alloc o)
theorem row_allocs {t : TypeId} {vs : List Value} : ∀ (os : List Obj) {w : World}, Row w gx t vs → Row (os.foldl World.alloc w) gx t vs
  | [], _, h => h
  | o :: os, _, h => row_allocs os (h.alloc o)
theorem SwS.allocs (h : SwS wz wx base g gx cap l' x') (os : List Obj) : SwS wz (os.foldl World.alloc wx) base g gx cap l' x' where
  row := row_allocs os h.row
  ok := h.ok
  ts := h.ts.below (allocs_below os (Below.refl _ _) (Nat.le_refl _))
  far := h.far
  own := own_allocs os h.own
  below := allocs_below os h.below h.below.size
  hg := h.hg
/-- a store of a slice that is made with others -/
theorem SwS.lits (h : SwS wz wx base g gx cap l' x') (os : List Obj) (k : Nat) (zs : List Int) (hk : os[k]? = some (.cells (Rw.row kindI zs).toArray 3)) (y : Gn) (hc : kindG.cells y = (kindG.cells x').set 4 (.slice (some ⟨wx.heap.size + k, 0, none⟩) zs.length zs.length)) (hA : y.A = some ⟨wx.heap.size + k, 0, none⟩) (hi : y.nd.ins = zs) (hok : y.Ok) :
    SwS wz (os.foldl World.alloc (wx.setCell ⟨gx, 4, none⟩ (.slice (some ⟨wx.heap.size + k, 0, none⟩) zs.length zs.length))) base g gx cap l' y where
  row := by rw [hc]; exact row_allocs os (h.row.put 4 _)
  ok := hok
  ts := by
    rw [hA, hi]
    have h1 := allocs_ints os (wx.setCell ⟨gx, 4, none⟩ (.slice (some ⟨wx.heap.size + k, 0, none⟩) zs.length zs.length)) zs hk
    rwa [show (wx.setCell ⟨gx, 4, none⟩ (.slice (some ⟨wx.heap.size + k, 0, none⟩) zs.length zs.length)).heap.size = wx.heap.size by simp [World.setCell]] at h1
  far := fun ad e => by
    rw [hA] at e
    have h1 := h.row.lt
    have h2 := (h.own.row.lt g rfl).2
    cases e
    exact ⟨by show wx.heap.size + k ≠ g; omega, by show wx.heap.size + k ≠ gx; omega⟩
  own := own_allocs os (h.own_set 4 _)
  below := allocs_below os (h.below.setCell (by have := h.hg; show wz.heap.size ≤ gx; omega) _) (by have := h.below.size; simpa [World.setCell] using this)
  hg := h.hg
/-- the nil slice stored -/
theorem SwS.nils (h : SwS wz wx base g gx cap l' x') (os : List Obj) (y : Gn) (hc : kindG.cells y = (kindG.cells x').set 4 (.slice none 0 0)) (hA : y.A = none) (hi : y.nd.ins = []) (hok : y.Ok) :
    SwS wz (os.foldl World.alloc (wx.setCell ⟨gx, 4, none⟩ (.slice none 0 0))) base g gx cap l' y where
  row := by rw [hc]; exact row_allocs os (h.row.put 4 _)
  ok := hok
  ts := by rw [hA, hi]; exact Rw.Ts.nil
  far := fun ad e => by rw [hA] at e; cases e
  own := own_allocs os (h.own_set 4 _)
  below := allocs_below os (h.below.setCell (by have := h.hg; show wz.heap.size ≤ gx; omega) _) (by have := h.below.size; simpa [World.setCell] using this)
  hg := h.hg
/-- the same, the store behind the makings -/
theorem SwS.lits2 (h : SwS wz wx base g gx cap l' x') (os : List Obj) (k : Nat) (zs : List Int) (hk : os[k]? = some (.cells (Rw.row kindI zs).toArray 3)) (y : Gn) (hc : kindG.cells y = (kindG.cells x').set 4 (.slice (some ⟨wx.heap.size + k, 0, none⟩) zs.length zs.length)) (hA : y.A = some ⟨wx.heap.size + k, 0, none⟩) (hi : y.nd.ins = zs) (hok : y.Ok) :
    SwS wz ((os.foldl World.alloc wx).setCell ⟨gx, 4, none⟩ (.slice (some ⟨wx.heap.size + k, 0, none⟩) zs.length zs.length)) base g gx cap l' y where
  row := by rw [hc]; exact (row_allocs os h.row).put 4 _
  ok := hok
  ts := by
    rw [hA, hi]
    have h1 := h.row.lt
    exact Ts.far (allocs_ints os wx zs hk) (fun ad e => by cases e; show wx.heap.size + k ≠ gx; omega) _ _
  far := fun ad e => by
    rw [hA] at e
    have h1 := h.row.lt
    have h2 := (h.own.row.lt g rfl).2
    cases e
    exact ⟨by show wx.heap.size + k ≠ g; omega, by show wx.heap.size + k ≠ gx; omega⟩
  own := (h.allocs os).own_set 4 _
  below := (h.allocs os).below.setCell (by have := h.hg; show wz.heap.size ≤ gx; omega) _
  hg := h.hg
theorem SwS.nils2 (h : SwS wz wx base g gx cap l' x') (os : List Obj) (y : Gn) (hc : kindG.cells y = (kindG.cells x').set 4 (.slice none 0 0)) (hA : y.A = none) (hi : y.nd.ins = []) (hok : y.Ok) :
    SwS wz ((os.foldl World.alloc wx).setCell ⟨gx, 4, none⟩ (.slice none 0 0)) base g gx cap l' y where
  row := by rw [hc]; exact (row_allocs os h.row).put 4 _
  ok := hok
  ts := by rw [hA, hi]; exact Rw.Ts.nil
  far := fun ad e => by rw [hA] at e; cases e
  own := (h.allocs os).own_set 4 _
  below := (h.allocs os).below.setCell (by have := h.hg; show wz.heap.size ≤ gx; omega) _
  hg := h.hg
end
/-- the switch's rows -/
def swO (n len : Int) (B : Nat) : List Obj := [[0], [n], [n, 0], [-1], [len], [len - 1], [0, 0, 0], [1, 0], [0, n]].map (fun zs => Obj.cells (Rw.row kindI zs).toArray 3) ++ [.cells [.slice none 0 0, .slice (some ⟨B, 0, none⟩) 1 1, .slice (some ⟨B + 1, 0, none⟩) 1 1, .slice (some ⟨B + 2, 0, none⟩) 2 2, .slice (some ⟨B + 3, 0, none⟩) 1 1, .slice (some ⟨B + 4, 0, none⟩) 1 1, .slice (some ⟨B + 5, 0, none⟩) 1 1, .slice (some ⟨B + 6, 0, none⟩) 3 3, .slice (some ⟨B + 7, 0, none⟩) 2 2, .slice (some ⟨B + 8, 0, none⟩) 2 2].toArray 33]
theorem deeper_any (w : World) : Calls Tryd.prog 23 #[] w (GraphD w) := by
  go_enter Tryd.func23, Tryd.ntmps23
  go_wp2_with fail
  go_ret
  exact ⟨⟨_, deeperL w, 5, rfl, deeper_gr w, Nat.le_refl _, by decide, fun x hx => by
    unfold deeperL at hx
    simp only [List.mem_cons, List.not_mem_nil, or_false] at hx
    rcases hx with rfl | rfl | rfl | rfl | rfl <;> simp⟩, allocs_below (deeperO w) (Below.refl _ _) (Nat.le_refl _)⟩
/-- the two graphs fed every way -/
def fgL (B : Nat) (a b c d : Int) : List Gn := [⟨⟨1, 0, 0, 0, []⟩, none, 0⟩, ⟨⟨4, 0, 0, 0, [a, b]⟩, some ⟨B, 0, none⟩, 2⟩, ⟨⟨2, 0, 0, 0, [c]⟩, some ⟨B + 1, 0, none⟩, 1⟩, ⟨⟨2, 0, 0, 0, [d]⟩, some ⟨B + 2, 0, none⟩, 1⟩]
def fhL (B : Nat) (a b c d : Int) : List Gn := [⟨⟨1, 0, 0, 0, []⟩, none, 0⟩, ⟨⟨7, 0, 0, 1, [0]⟩, some ⟨B + 4, 0, none⟩, 1⟩, ⟨⟨4, 0, 0, 1, [1 + a, 1 + b]⟩, some ⟨B + 5, 0, none⟩, 2⟩, ⟨⟨9, 0, 2, 1, [1 + c]⟩, some ⟨B + 6, 0, none⟩, 1⟩, ⟨⟨2, 0, 0, 1, [1 + d]⟩, some ⟨B + 7, 0, none⟩, 1⟩]
def fedO (B : Nat) (a b c d : Int) : List Obj := [.cells (Rw.row kindI [a, b]).toArray 3, .cells (Rw.row kindI [c]).toArray 3, .cells (Rw.row kindI [d]).toArray 3, .cells (Rw.row kindG (fgL B a b c d)).toArray 39, .cells (Rw.row kindI [0]).toArray 3, .cells (Rw.row kindI [1 + a, 1 + b]).toArray 3, .cells (Rw.row kindI [1 + c]).toArray 3, .cells (Rw.row kindI [1 + d]).toArray 3, .cells (Rw.row kindG (fhL B a b c d)).toArray 39]
section
variable (w : World) {a b c d : Int} (ha : 0 ≤ a ∧ a ≤ 3) (hb : 0 ≤ b ∧ b ≤ 3) (hc : 0 ≤ c ∧ c ≤ 3) (hd : 0 ≤ d ∧ d ≤ 3)
include ha hb hc hd
theorem fg_gr : Gr ((fedO w.heap.size a b c d).foldl World.alloc w) (some ⟨w.heap.size + 3, 0, none⟩) (fgL w.heap.size a b c d) := by
  refine ⟨allocs_nodes (fedO w.heap.size a b c d) w (fgL w.heap.size a b c d) rfl, fun x hx => ?_⟩
  unfold fgL at hx
  simp only [List.mem_cons, List.not_mem_nil, or_false] at hx
  rcases hx with rfl | rfl | rfl | rfl
  · exact ⟨ok_small _ _ _ _ _ _ _ (by decide) (by simp), Rw.Ts.nil⟩
  · exact ⟨ok_small _ _ _ _ _ _ _ ⟨by simp, by intro z hz; simp only [List.mem_cons, List.not_mem_nil, or_false] at hz; omega⟩ (by simp), allocs_ints (k := 0) (fedO w.heap.size a b c d) w [a, b] rfl⟩
  · exact ⟨ok_small _ _ _ _ _ _ _ ⟨by simp, by intro z hz; simp only [List.mem_cons, List.not_mem_nil, or_false] at hz; omega⟩ (by simp), allocs_ints (fedO w.heap.size a b c d) w [c] rfl⟩
  · exact ⟨ok_small _ _ _ _ _ _ _ ⟨by simp, by intro z hz; simp only [List.mem_cons, List.not_mem_nil, or_false] at hz; omega⟩ (by simp), allocs_ints (fedO w.heap.size a b c d) w [d] rfl⟩
theorem fh_gr : Gr ((fedO w.heap.size a b c d).foldl World.alloc w) (some ⟨w.heap.size + 8, 0, none⟩) (fhL w.heap.size a b c d) := by
  refine ⟨allocs_nodes (fedO w.heap.size a b c d) w (fhL w.heap.size a b c d) rfl, fun x hx => ?_⟩
  unfold fhL at hx
  simp only [List.mem_cons, List.not_mem_nil, or_false] at hx
  rcases hx with rfl | rfl | rfl | rfl | rfl
  · exact ⟨ok_small _ _ _ _ _ _ _ (by decide) (by simp), Rw.Ts.nil⟩
  · exact ⟨ok_small _ _ _ _ _ _ _ (by decide) (by simp), allocs_ints (fedO w.heap.size a b c d) w [0] rfl⟩
  · exact ⟨ok_small _ _ _ _ _ _ _ ⟨by simp, by intro z hz; simp only [List.mem_cons, List.not_mem_nil, or_false] at hz; omega⟩ (by simp), allocs_ints (fedO w.heap.size a b c d) w [1 + a, 1 + b] rfl⟩
  · exact ⟨ok_small _ _ _ _ _ _ _ ⟨by simp, by intro z hz; simp only [List.mem_cons, List.not_mem_nil, or_false] at hz; omega⟩ (by simp), allocs_ints (fedO w.heap.size a b c d) w [1 + c] rfl⟩
  · exact ⟨ok_small _ _ _ _ _ _ _ ⟨by simp, by intro z hz; simp only [List.mem_cons, List.not_mem_nil, or_false] at hz; omega⟩ (by simp), allocs_ints (fedO w.heap.size a b c d) w [1 + d] rfl⟩
end
set_option maxHeartbeats 64000000 in
theorem walk (w : World) (hT : Tab w) : Calls Tryd.prog 8 #[] w fun e w' => e = .returned (.bool true) ∧ Below w.heap.size w w' := by
  have HT := Lib.hid hT; clear hT
  go_enter Tryd.func8, Tryd.ntmps8
  go_wp2_with fail
  refine (race_any w).mono ?_; rintro e w1 ⟨⟨A1, l1, c1, rfl, hG1, hl1, hc1, hi1⟩, hb1⟩
  have HG1 := Lib.hid hG1; have HB1 := Lib.hid hb1; have HC1 := Lib.hid (And.intro hl1 (And.intro hc1 hi1)); clear hG1 hb1 hl1 hc1 hi1
  dsimp only
  go_wp2_with fail
  refine (meeting_any w1).mono ?_; rintro e w2 ⟨⟨A2, l2, c2, rfl, hG2, hl2, hc2, hi2⟩, hb2⟩
  have HG2 := Lib.hid hG2; have HB2 := Lib.hid hb2; have HC2 := Lib.hid (And.intro hl2 (And.intro hc2 hi2)); clear hG2 hb2 hl2 hc2 hi2
  dsimp only
  go_wp2_with fail
  refine (straight_any w2).mono ?_; rintro e w3 ⟨⟨A3, l3, c3, rfl, hG3, hl3, hc3, hi3⟩, hb3⟩
  have HG3 := Lib.hid hG3; have HB3 := Lib.hid hb3; have HC3 := Lib.hid (And.intro hl3 (And.intro hc3 hi3)); clear hG3 hb3 hl3 hc3 hi3
  dsimp only
  go_wp2_with fail
  refine (deeper_any w3).mono ?_; rintro e w4 ⟨⟨A4, l4, c4, rfl, hG4, hl4, hc4, hi4⟩, hb4⟩
  have HG4 := Lib.hid hG4; have HB4 := Lib.hid hb4; have HC4 := Lib.hid (And.intro hl4 (And.intro hc4 hi4)); clear hG4 hb4 hl4 hc4 hi4
  dsimp only
  go_wp2_with fail
  have hgs := gs_made ⟨((HG1.out.below HB2.out).below HB3.out).below HB4.out, HC1.out⟩ ⟨(HG2.out.below HB3.out).below HB4.out, HC2.out⟩ ⟨HG3.out.below HB4.out, HC3.out⟩ ⟨HG4.out, HC4.out⟩
  have h12 := HB1.out.trans (HB2.out.mono HB1.out.size)
  have h13 := h12.trans (HB3.out.mono h12.size)
  have h14 := h13.trans (HB4.out.mono h13.size)
  have hbz := allocs_below (gsO A1 A2 A3 A4 l1.length l2.length l3.length l4.length c1 c2 c3 c4 w4.heap.size) h14 h14.size
  clear h12 h13 h14
  change Code.wp _ _ _ _ ((gsO A1 A2 A3 A4 l1.length l2.length l3.length l4.length c1 c2 c3 c4 w4.heap.size).foldl World.alloc w4)
  generalize (gsO A1 A2 A3 A4 l1.length l2.length l3.length l4.length c1 c2 c3 c4 w4.heap.size).foldl World.alloc w4 = wz at *
  rw [show w4.heap.size + 1 + 1 = w4.heap.size + 2 by omega]
  generalize w4.heap.size + 2 = gb at *
  have HGS := Lib.hid hgs; have HBZ := Lib.hid hbz; have HTZ := Lib.hid (HT.out.below hbz); clear hgs hbz HG1 HB1 HC1 HG2 HB2 HC2 HG3 HB3 HC3 HG4 HB4 HC4
  go_loopw [19] (fun i wr => ∃ k : Nat, k ≤ 6 ∧ i = .int .i64 k ∧ Below wz.heap.size wz wr) (fun i _ => 6 - (intOf i).toNat)
  case atStart => exact ⟨0, by omega, rfl, Below.refl _ _⟩
  case round =>
    obtain ⟨wa, rfl⟩ : ∃ wa, wa = wr := ⟨_, rfl⟩
    obtain ⟨k, hk, rfl, hb⟩ := hrel
    have HB := Lib.hid hb; clear hb
    by_cases hk6 : k < 6
    · have hk6z : (k : Int) < 6 := by omega
      obtain ⟨A, l, c, hcell, hG, hlc, hc10, hins⟩ := HGS.out.2 k hk6
      have c0 : wa.cell? ⟨gb, k, none⟩ = some (.slice A l.length c) := (HB.out.cell (p := ⟨gb, k, none⟩) HGS.out.1).trans hcell
      have HG := Lib.hid hG; have HI := Lib.hid hins; have HLC := Lib.hid hlc; have HC10 := Lib.hid hc10; clear hcell hG hins hlc
      have hml : l.length ≤ maxLen := by have := HLC.out; unfold maxLen; omega
      have hcl : l.length ≤ c ∧ c ≤ maxLen := ⟨HLC.out, by have := HC10.out; unfold maxLen; omega⟩
      have HC := Lib.hid (checkAll.walk A l c wa (HTZ.out.below HB.out) (HG.out.below HB.out) hml hcl)
      have HML := Lib.hid hml; have HCL := Lib.hid hcl; have hl10 : l.length ≤ 10 := by { have := HLC.out; omega }
      clear hml hcl hc10
      go_wp2_with fail
      refine HC.out.mono ?_; rintro e wb ⟨rfl, hb4⟩
      have HB4 := Lib.hid (HB.out.trans (hb4.mono HB.out.size)); clear HC c0 hb4
      dsimp only
      have HC := Lib.hid (checkOrder.walk A l c wb (HTZ.out.below HB4.out) (HG.out.below HB4.out) HML.out HCL.out)
      go_wp2_with fail
      refine HC.out.mono ?_; rintro e wc ⟨rfl, hb4⟩
      have HBE := Lib.hid (HB4.out.trans (hb4.mono HB4.out.size)); clear HC hb4 HB4 HB
      dsimp only
      go_wp2_with fail
      go_loopw [3] (fun i wr => ∃ q : Nat, q ≤ l.length ∧ i = .int .i64 q ∧ Below wz.heap.size wz wr) (fun i _ => l.length - (intOf i).toNat)
      case atStart => exact ⟨0, by omega, rfl, HBE.out⟩
      case round =>
        obtain ⟨wd, rfl⟩ : ∃ wd, wd = wr := ⟨_, rfl⟩
        obtain ⟨n, hn, rfl, hb⟩ := hrel
        have HBD := Lib.hid hb; clear hb HBE
        by_cases hnl : n < l.length
        · have hnz : (n : Int) < (l.length : Int) := by omega
          obtain ⟨p, hp⟩ : ∃ a, n % 2 = a := ⟨_, rfl⟩
          have p1 : (n : Int).tmod 2 = (p : Int) := by rw [Int.tmod_eq_emod_of_nonneg (by omega)]; omega
          have p2 : (n : Int) % 2 = (p : Int) := by omega
          have p3 : IntKind.i64.wrap (p : Int) = (p : Int) := IntWalk.i64_in _ (by omega)
          have hp9 : p ≤ 1 := by omega
          clear hp
          go_wp2_with fail
          go_loopw [4] (fun i wr => ∃ j : Nat, j ≤ 41 ∧ i = .int .i64 j ∧ Below wz.heap.size wz wr) (fun i _ => 41 - (intOf i).toNat)
          case atStart => exact ⟨p, by omega, rfl, HBD.out⟩
          case round =>
            obtain ⟨we, rfl⟩ : ∃ we, we = wr := ⟨_, rfl⟩
            obtain ⟨j, hj, rfl, hb⟩ := hrel
            have HBF := Lib.hid hb; clear hb HBD p1 p2 p3 hp9
            by_cases hj40 : j < 40
            · have hj40z : (j : Int) < 40 := by omega
              have HC := Lib.hid (own_any A l c we (HG.out.below HBF.out) (by have := HLC.out; omega) (fun x hx => by have := HI.out x hx; omega))
              go_wp2_with fail
              refine HC.out.mono ?_; rintro e wf ⟨⟨v, l', rfl, hnd, hown⟩, hbf⟩
              have hll : l'.length = l.length := by have := congrArg List.length hnd; rwa [nds_len, nds_len] at this
              obtain ⟨g, cap, rfl, hgg⟩ : ∃ g cap, v = .slice (some ⟨g, 0, none⟩) l'.length cap ∧ l'.length ≤ cap ∧ cap ≤ maxLen := by
                rcases hown.row.2 with ⟨_, h0⟩ | ⟨g, cap, cur, e, _, _, h1, h2, _⟩
                · omega
                · exact ⟨g, cap, e, h1, h2⟩
              have hnl' : n < l'.length := by omega
              have hnz' : (n : Int) < (l'.length : Int) := by omega
              obtain ⟨x, hx⟩ : ∃ x, l'[n]? = some x := ⟨_, List.getElem?_eq_getElem hnl'⟩
              have hxo := hown.ok x (List.mem_of_getElem? hx)
              have hxi := hown.ins x (List.mem_of_getElem? hx)
              have hcell : ∀ (i : Nat) (u : Value), (kindG.cells x)[i]? = some u → wf.cell? ⟨g, n * 5 + i, none⟩ = some u := fun i u hu => by
                have h := hown.row.cells (g := g) rfl (n * 5 + i) u (Rw.row_at (κ := kindG) l' n x hx i u hu)
                rwa [add_zero_off] at h
              obtain ⟨⟨xk, xa, xb, xd, xi⟩, xA, xc⟩ := x
              have c0 := hcell 0 _ rfl
              have c1 := hcell 1 _ rfl
              have c2 := hcell 2 _ rfl
              have c3 := hcell 3 _ rfl
              have c4 := hcell 4 _ rfl
              rw [Nat.add_zero] at c0
              simp only at c0 c1 c2 c3 c4
              have hgw := (hown.row.lt g rfl).2
              have hge := (hown.row.lt g rfl).1
              have HOW := Lib.hid hown; have HBG := Lib.hid (HBF.out.trans (hbf.mono HBF.out.size)); have HLL := Lib.hid hll; have HXO := Lib.hid hxo; have HXI := Lib.hid hxi; have HGG := Lib.hid hgg
              clear hnd hown hbf hll hx hxo hxi hcell hgg HC
              dsimp only
              have hsw : SwS wz (wf.alloc (.cells #[.int .u8 (xk : Nat), .int .u8 (xa : Nat), .int .i64 xb, .int .i64 xd, .slice xA xi.length xc] 39)) we.heap.size g wf.heap.size cap l' ⟨⟨xk, xa, xb, xd, xi⟩, xA, xc⟩ :=
                ⟨Row.made wf _ _, HXO.out, by
                  obtain ⟨A', c', e, ht, _⟩ := Rw.Ts.of_own HXI.out
                  cases e
                  exact ht.below ((Below.refl _ _).alloc (Nat.le_refl _) _), fun ad e => by
                  have ha := ints_apart HOW.out.row HXI.out
                  have hb := HXI.out.lt
                  simp only at ha hb
                  simp only at e
                  subst e
                  have h1 := (hb ad.block rfl).2
                  refine ⟨fun e2 => ?_, by omega⟩
                  rcases ha with ha | ha
                  · cases ha
                  · exact ha (by show some ad.block = some g; rw [e2]), HOW.out.alloc _, HBG.out.alloc HBG.out.size _, ⟨hgw, by have := HBF.out.size; omega⟩⟩
              obtain ⟨q, hq⟩ : ∃ a, j / 10 = a := ⟨_, rfl⟩
              have q1 : (j : Int).tdiv 10 = (q : Int) := by rw [Int.tdiv_eq_ediv_of_nonneg (by omega)]; omega
              have q2 : (j : Int) / 10 = (q : Int) := by omega
              have q3 : IntKind.i64.wrap (q : Int) = (q : Int) := IntWalk.i64_in _ (by omega)
              have hq9 : q ≤ 3 := by omega
              have HQ := Lib.hid hq
              clear hq
              go_upto_region 14 with fail
              generalize hwh : (wf.alloc (.cells #[.int .u8 (xk : Nat), .int .u8 (xa : Nat), .int .i64 xb, .int .i64 xd, .slice xA xi.length xc] 39)) = wh at *
              generalize wf.heap.size = gx at *
              have d0 : wh.cell? ⟨gx, 0, none⟩ = some (.int .u8 (xk : Nat)) := hsw.row.cell 0
              have d1 : wh.cell? ⟨gx, 1, none⟩ = some (.int .u8 (xa : Nat)) := hsw.row.cell 1
              have d2 : wh.cell? ⟨gx, 2, none⟩ = some (.int .i64 xb) := hsw.row.cell 2
              have d3 : wh.cell? ⟨gx, 3, none⟩ = some (.int .i64 xd) := hsw.row.cell 3
              have d4 : wh.cell? ⟨gx, 4, none⟩ = some (.slice xA xi.length xc) := hsw.row.cell 4
              have f0 := hsw.row.free 0
              have f1 := hsw.row.free 1
              have f2 := hsw.row.free 2
              have f3 := hsw.row.free 3
              have f4 := hsw.row.free 4
              have hgl := hsw.row.lt
              have HSW := Lib.hid hsw; clear hsw hwh c0 c1 c2 c3 c4
              go_upto_block 6 with fail
              clear q1 q2 q3
              go_cut [] from 51 to 97 (fun wx => ∃ x', SwS wz wx we.heap.size g gx cap l' x')
              case first =>
                obtain ⟨r, hr⟩ : ∃ r, j % 10 = r := ⟨_, rfl⟩
                have hr9 : r < 10 := by omega
                have hjq : j = 10 * q + r := by have := HQ.out; omega
                clear hr HQ
                rcases (show q = 0 ∨ q = 1 ∨ q = 2 ∨ q = 3 by omega) with rfl | rfl | rfl | rfl
                · rcases (show r = 0 ∨ r = 1 ∨ r = 2 ∨ r = 3 ∨ r = 4 ∨ r = 5 ∨ r = 6 ∨ r = 7 ∨ r = 8 ∨ r = 9 by omega) with rfl | rfl | rfl | rfl | rfl | rfl | rfl | rfl | rfl | rfl
                  · obtain rfl : j = 0 := by omega
                    clear hjq hr9 hq9
                    go_wp2_with fail
                    go_meet
                    exact ⟨_, HSW.out.set 0 _ ⟨⟨1, xa, xb, xd, xi⟩, xA, xc⟩ rfl rfl rfl ⟨(by show (1 : Nat) < 256; decide), HXO.out.a, HXO.out.b, HXO.out.d, HXO.out.ins, HXO.out.c, HXO.out.none⟩⟩
                  · obtain rfl : j = 1 := by omega
                    clear hjq hr9 hq9
                    go_wp2_with fail
                    go_meet
                    exact ⟨_, HSW.out.set 0 _ ⟨⟨2, xa, xb, xd, xi⟩, xA, xc⟩ rfl rfl rfl ⟨(by show (2 : Nat) < 256; decide), HXO.out.a, HXO.out.b, HXO.out.d, HXO.out.ins, HXO.out.c, HXO.out.none⟩⟩
                  · obtain rfl : j = 2 := by omega
                    clear hjq hr9 hq9
                    go_wp2_with fail
                    go_meet
                    exact ⟨_, HSW.out.set 0 _ ⟨⟨3, xa, xb, xd, xi⟩, xA, xc⟩ rfl rfl rfl ⟨(by show (3 : Nat) < 256; decide), HXO.out.a, HXO.out.b, HXO.out.d, HXO.out.ins, HXO.out.c, HXO.out.none⟩⟩
                  · obtain rfl : j = 3 := by omega
                    clear hjq hr9 hq9
                    go_wp2_with fail
                    go_meet
                    exact ⟨_, HSW.out.set 0 _ ⟨⟨4, xa, xb, xd, xi⟩, xA, xc⟩ rfl rfl rfl ⟨(by show (4 : Nat) < 256; decide), HXO.out.a, HXO.out.b, HXO.out.d, HXO.out.ins, HXO.out.c, HXO.out.none⟩⟩
                  · obtain rfl : j = 4 := by omega
                    clear hjq hr9 hq9
                    go_wp2_with fail
                    go_meet
                    exact ⟨_, HSW.out.set 0 _ ⟨⟨5, xa, xb, xd, xi⟩, xA, xc⟩ rfl rfl rfl ⟨(by show (5 : Nat) < 256; decide), HXO.out.a, HXO.out.b, HXO.out.d, HXO.out.ins, HXO.out.c, HXO.out.none⟩⟩
                  · obtain rfl : j = 5 := by omega
                    clear hjq hr9 hq9
                    go_wp2_with fail
                    go_meet
                    exact ⟨_, HSW.out.set 0 _ ⟨⟨6, xa, xb, xd, xi⟩, xA, xc⟩ rfl rfl rfl ⟨(by show (6 : Nat) < 256; decide), HXO.out.a, HXO.out.b, HXO.out.d, HXO.out.ins, HXO.out.c, HXO.out.none⟩⟩
                  · obtain rfl : j = 6 := by omega
                    clear hjq hr9 hq9
                    go_wp2_with fail
                    go_meet
                    exact ⟨_, HSW.out.set 0 _ ⟨⟨7, xa, xb, xd, xi⟩, xA, xc⟩ rfl rfl rfl ⟨(by show (7 : Nat) < 256; decide), HXO.out.a, HXO.out.b, HXO.out.d, HXO.out.ins, HXO.out.c, HXO.out.none⟩⟩
                  · obtain rfl : j = 7 := by omega
                    clear hjq hr9 hq9
                    go_wp2_with fail
                    go_meet
                    exact ⟨_, HSW.out.set 0 _ ⟨⟨8, xa, xb, xd, xi⟩, xA, xc⟩ rfl rfl rfl ⟨(by show (8 : Nat) < 256; decide), HXO.out.a, HXO.out.b, HXO.out.d, HXO.out.ins, HXO.out.c, HXO.out.none⟩⟩
                  · obtain rfl : j = 8 := by omega
                    clear hjq hr9 hq9
                    go_wp2_with fail
                    go_meet
                    exact ⟨_, HSW.out.set 0 _ ⟨⟨9, xa, xb, xd, xi⟩, xA, xc⟩ rfl rfl rfl ⟨(by show (9 : Nat) < 256; decide), HXO.out.a, HXO.out.b, HXO.out.d, HXO.out.ins, HXO.out.c, HXO.out.none⟩⟩
                  · obtain rfl : j = 9 := by omega
                    clear hjq hr9 hq9
                    go_wp2_with fail
                    go_meet
                    exact ⟨_, HSW.out.set 0 _ ⟨⟨10, xa, xb, xd, xi⟩, xA, xc⟩ rfl rfl rfl ⟨(by show (10 : Nat) < 256; decide), HXO.out.a, HXO.out.b, HXO.out.d, HXO.out.ins, HXO.out.c, HXO.out.none⟩⟩
                · rcases (show r = 0 ∨ r = 1 ∨ r = 2 ∨ r = 3 ∨ r = 4 ∨ r = 5 ∨ r = 6 ∨ r = 7 ∨ r = 8 ∨ r = 9 by omega) with rfl | rfl | rfl | rfl | rfl | rfl | rfl | rfl | rfl | rfl
                  · obtain rfl : j = 10 := by omega
                    clear hjq hr9 hq9
                    go_wp2_with fail
                    go_meet
                    have s1 := HSW.out.set 1 (.int .u8 ((0 : Nat) : Int)) ⟨⟨xk, 0, xb, xd, xi⟩, xA, xc⟩ rfl rfl rfl ⟨HXO.out.k, (by show (0 : Nat) < 256; decide), HXO.out.b, HXO.out.d, HXO.out.ins, HXO.out.c, HXO.out.none⟩
                    have s2 := s1.set 2 (.int .i64 (-1)) ⟨⟨xk, 0, -1, xd, xi⟩, xA, xc⟩ rfl rfl rfl ⟨HXO.out.k, (by show (0 : Nat) < 256; decide), (by show (-9223372036854775808 : Int) ≤ -1 ∧ (-1 : Int) ≤ 9223372036854775807; decide), HXO.out.d, HXO.out.ins, HXO.out.c, HXO.out.none⟩
                    exact ⟨_, s2.allocs [.cells (Rw.row kindI [-1, 0, 1, 2, 15, 16, 17, 1099511627776, -9223372036854775808, 3]).toArray 2]⟩
                  · obtain rfl : j = 11 := by omega
                    clear hjq hr9 hq9
                    go_wp2_with fail
                    go_meet
                    have s1 := HSW.out.set 1 (.int .u8 ((1 : Nat) : Int)) ⟨⟨xk, 1, xb, xd, xi⟩, xA, xc⟩ rfl rfl rfl ⟨HXO.out.k, (by show (1 : Nat) < 256; decide), HXO.out.b, HXO.out.d, HXO.out.ins, HXO.out.c, HXO.out.none⟩
                    have s2 := s1.set 2 (.int .i64 (0)) ⟨⟨xk, 1, 0, xd, xi⟩, xA, xc⟩ rfl rfl rfl ⟨HXO.out.k, (by show (1 : Nat) < 256; decide), (by show (-9223372036854775808 : Int) ≤ 0 ∧ (0 : Int) ≤ 9223372036854775807; decide), HXO.out.d, HXO.out.ins, HXO.out.c, HXO.out.none⟩
                    exact ⟨_, s2.allocs [.cells (Rw.row kindI [-1, 0, 1, 2, 15, 16, 17, 1099511627776, -9223372036854775808, 3]).toArray 2]⟩
                  · obtain rfl : j = 12 := by omega
                    clear hjq hr9 hq9
                    go_wp2_with fail
                    go_meet
                    have s1 := HSW.out.set 1 (.int .u8 ((2 : Nat) : Int)) ⟨⟨xk, 2, xb, xd, xi⟩, xA, xc⟩ rfl rfl rfl ⟨HXO.out.k, (by show (2 : Nat) < 256; decide), HXO.out.b, HXO.out.d, HXO.out.ins, HXO.out.c, HXO.out.none⟩
                    have s2 := s1.set 2 (.int .i64 (1)) ⟨⟨xk, 2, 1, xd, xi⟩, xA, xc⟩ rfl rfl rfl ⟨HXO.out.k, (by show (2 : Nat) < 256; decide), (by show (-9223372036854775808 : Int) ≤ 1 ∧ (1 : Int) ≤ 9223372036854775807; decide), HXO.out.d, HXO.out.ins, HXO.out.c, HXO.out.none⟩
                    exact ⟨_, s2.allocs [.cells (Rw.row kindI [-1, 0, 1, 2, 15, 16, 17, 1099511627776, -9223372036854775808, 3]).toArray 2]⟩
                  · obtain rfl : j = 13 := by omega
                    clear hjq hr9 hq9
                    go_wp2_with fail
                    go_meet
                    have s1 := HSW.out.set 1 (.int .u8 ((3 : Nat) : Int)) ⟨⟨xk, 3, xb, xd, xi⟩, xA, xc⟩ rfl rfl rfl ⟨HXO.out.k, (by show (3 : Nat) < 256; decide), HXO.out.b, HXO.out.d, HXO.out.ins, HXO.out.c, HXO.out.none⟩
                    have s2 := s1.set 2 (.int .i64 (2)) ⟨⟨xk, 3, 2, xd, xi⟩, xA, xc⟩ rfl rfl rfl ⟨HXO.out.k, (by show (3 : Nat) < 256; decide), (by show (-9223372036854775808 : Int) ≤ 2 ∧ (2 : Int) ≤ 9223372036854775807; decide), HXO.out.d, HXO.out.ins, HXO.out.c, HXO.out.none⟩
                    exact ⟨_, s2.allocs [.cells (Rw.row kindI [-1, 0, 1, 2, 15, 16, 17, 1099511627776, -9223372036854775808, 3]).toArray 2]⟩
                  · obtain rfl : j = 14 := by omega
                    clear hjq hr9 hq9
                    go_wp2_with fail
                    go_meet
                    have s1 := HSW.out.set 1 (.int .u8 ((4 : Nat) : Int)) ⟨⟨xk, 4, xb, xd, xi⟩, xA, xc⟩ rfl rfl rfl ⟨HXO.out.k, (by show (4 : Nat) < 256; decide), HXO.out.b, HXO.out.d, HXO.out.ins, HXO.out.c, HXO.out.none⟩
                    have s2 := s1.set 2 (.int .i64 (15)) ⟨⟨xk, 4, 15, xd, xi⟩, xA, xc⟩ rfl rfl rfl ⟨HXO.out.k, (by show (4 : Nat) < 256; decide), (by show (-9223372036854775808 : Int) ≤ 15 ∧ (15 : Int) ≤ 9223372036854775807; decide), HXO.out.d, HXO.out.ins, HXO.out.c, HXO.out.none⟩
                    exact ⟨_, s2.allocs [.cells (Rw.row kindI [-1, 0, 1, 2, 15, 16, 17, 1099511627776, -9223372036854775808, 3]).toArray 2]⟩
                  · obtain rfl : j = 15 := by omega
                    clear hjq hr9 hq9
                    go_wp2_with fail
                    go_meet
                    have s1 := HSW.out.set 1 (.int .u8 ((0 : Nat) : Int)) ⟨⟨xk, 0, xb, xd, xi⟩, xA, xc⟩ rfl rfl rfl ⟨HXO.out.k, (by show (0 : Nat) < 256; decide), HXO.out.b, HXO.out.d, HXO.out.ins, HXO.out.c, HXO.out.none⟩
                    have s2 := s1.set 2 (.int .i64 (16)) ⟨⟨xk, 0, 16, xd, xi⟩, xA, xc⟩ rfl rfl rfl ⟨HXO.out.k, (by show (0 : Nat) < 256; decide), (by show (-9223372036854775808 : Int) ≤ 16 ∧ (16 : Int) ≤ 9223372036854775807; decide), HXO.out.d, HXO.out.ins, HXO.out.c, HXO.out.none⟩
                    exact ⟨_, s2.allocs [.cells (Rw.row kindI [-1, 0, 1, 2, 15, 16, 17, 1099511627776, -9223372036854775808, 3]).toArray 2]⟩
                  · obtain rfl : j = 16 := by omega
                    clear hjq hr9 hq9
                    go_wp2_with fail
                    go_meet
                    have s1 := HSW.out.set 1 (.int .u8 ((1 : Nat) : Int)) ⟨⟨xk, 1, xb, xd, xi⟩, xA, xc⟩ rfl rfl rfl ⟨HXO.out.k, (by show (1 : Nat) < 256; decide), HXO.out.b, HXO.out.d, HXO.out.ins, HXO.out.c, HXO.out.none⟩
                    have s2 := s1.set 2 (.int .i64 (17)) ⟨⟨xk, 1, 17, xd, xi⟩, xA, xc⟩ rfl rfl rfl ⟨HXO.out.k, (by show (1 : Nat) < 256; decide), (by show (-9223372036854775808 : Int) ≤ 17 ∧ (17 : Int) ≤ 9223372036854775807; decide), HXO.out.d, HXO.out.ins, HXO.out.c, HXO.out.none⟩
                    exact ⟨_, s2.allocs [.cells (Rw.row kindI [-1, 0, 1, 2, 15, 16, 17, 1099511627776, -9223372036854775808, 3]).toArray 2]⟩
                  · obtain rfl : j = 17 := by omega
                    clear hjq hr9 hq9
                    go_wp2_with fail
                    go_meet
                    have s1 := HSW.out.set 1 (.int .u8 ((2 : Nat) : Int)) ⟨⟨xk, 2, xb, xd, xi⟩, xA, xc⟩ rfl rfl rfl ⟨HXO.out.k, (by show (2 : Nat) < 256; decide), HXO.out.b, HXO.out.d, HXO.out.ins, HXO.out.c, HXO.out.none⟩
                    have s2 := s1.set 2 (.int .i64 (1099511627776)) ⟨⟨xk, 2, 1099511627776, xd, xi⟩, xA, xc⟩ rfl rfl rfl ⟨HXO.out.k, (by show (2 : Nat) < 256; decide), (by show (-9223372036854775808 : Int) ≤ 1099511627776 ∧ (1099511627776 : Int) ≤ 9223372036854775807; decide), HXO.out.d, HXO.out.ins, HXO.out.c, HXO.out.none⟩
                    exact ⟨_, s2.allocs [.cells (Rw.row kindI [-1, 0, 1, 2, 15, 16, 17, 1099511627776, -9223372036854775808, 3]).toArray 2]⟩
                  · obtain rfl : j = 18 := by omega
                    clear hjq hr9 hq9
                    go_wp2_with fail
                    go_meet
                    have s1 := HSW.out.set 1 (.int .u8 ((3 : Nat) : Int)) ⟨⟨xk, 3, xb, xd, xi⟩, xA, xc⟩ rfl rfl rfl ⟨HXO.out.k, (by show (3 : Nat) < 256; decide), HXO.out.b, HXO.out.d, HXO.out.ins, HXO.out.c, HXO.out.none⟩
                    have s2 := s1.set 2 (.int .i64 (-9223372036854775808)) ⟨⟨xk, 3, -9223372036854775808, xd, xi⟩, xA, xc⟩ rfl rfl rfl ⟨HXO.out.k, (by show (3 : Nat) < 256; decide), (by show (-9223372036854775808 : Int) ≤ -9223372036854775808 ∧ (-9223372036854775808 : Int) ≤ 9223372036854775807; decide), HXO.out.d, HXO.out.ins, HXO.out.c, HXO.out.none⟩
                    exact ⟨_, s2.allocs [.cells (Rw.row kindI [-1, 0, 1, 2, 15, 16, 17, 1099511627776, -9223372036854775808, 3]).toArray 2]⟩
                  · obtain rfl : j = 19 := by omega
                    clear hjq hr9 hq9
                    go_wp2_with fail
                    go_meet
                    have s1 := HSW.out.set 1 (.int .u8 ((4 : Nat) : Int)) ⟨⟨xk, 4, xb, xd, xi⟩, xA, xc⟩ rfl rfl rfl ⟨HXO.out.k, (by show (4 : Nat) < 256; decide), HXO.out.b, HXO.out.d, HXO.out.ins, HXO.out.c, HXO.out.none⟩
                    have s2 := s1.set 2 (.int .i64 (3)) ⟨⟨xk, 4, 3, xd, xi⟩, xA, xc⟩ rfl rfl rfl ⟨HXO.out.k, (by show (4 : Nat) < 256; decide), (by show (-9223372036854775808 : Int) ≤ 3 ∧ (3 : Int) ≤ 9223372036854775807; decide), HXO.out.d, HXO.out.ins, HXO.out.c, HXO.out.none⟩
                    exact ⟨_, s2.allocs [.cells (Rw.row kindI [-1, 0, 1, 2, 15, 16, 17, 1099511627776, -9223372036854775808, 3]).toArray 2]⟩
                · have f4x : ((((((((((wh.alloc (.cells #[.int .i64 0] 3)).alloc (.cells #[.int .i64 (n : Int)] 3)).alloc (.cells #[.int .i64 (n : Int), .int .i64 0] 3)).alloc (.cells #[.int .i64 (-1)] 3)).alloc (.cells #[.int .i64 (l.length : Int)] 3)).alloc (.cells #[.int .i64 ((l.length : Int) - 1)] 3)).alloc (.cells #[.int .i64 0, .int .i64 0, .int .i64 0] 3)).alloc (.cells #[.int .i64 1, .int .i64 0] 3)).alloc (.cells #[.int .i64 0, .int .i64 (n : Int)] 3)).alloc (.cells #[.slice none 0 0, .slice (some ⟨wh.heap.size, 0, none⟩) 1 1, .slice (some ⟨wh.heap.size + 1, 0, none⟩) 1 1, .slice (some ⟨wh.heap.size + 1 + 1, 0, none⟩) 2 2, .slice (some ⟨wh.heap.size + 1 + 1 + 1, 0, none⟩) 1 1, .slice (some ⟨wh.heap.size + 1 + 1 + 1 + 1, 0, none⟩) 1 1, .slice (some ⟨wh.heap.size + 1 + 1 + 1 + 1 + 1, 0, none⟩) 1 1, .slice (some ⟨wh.heap.size + 1 + 1 + 1 + 1 + 1 + 1, 0, none⟩) 3 3, .slice (some ⟨wh.heap.size + 1 + 1 + 1 + 1 + 1 + 1 + 1, 0, none⟩) 2 2, .slice (some ⟨wh.heap.size + 1 + 1 + 1 + 1 + 1 + 1 + 1 + 1, 0, none⟩) 2 2] 33)).frozen? ⟨gx, 4, none⟩ = false := (row_allocs (swO (n : Int) (l.length : Int) wh.heap.size) HSW.out.row).free 4
                  have d4x : ((((((((((wh.alloc (.cells #[.int .i64 0] 3)).alloc (.cells #[.int .i64 (n : Int)] 3)).alloc (.cells #[.int .i64 (n : Int), .int .i64 0] 3)).alloc (.cells #[.int .i64 (-1)] 3)).alloc (.cells #[.int .i64 (l.length : Int)] 3)).alloc (.cells #[.int .i64 ((l.length : Int) - 1)] 3)).alloc (.cells #[.int .i64 0, .int .i64 0, .int .i64 0] 3)).alloc (.cells #[.int .i64 1, .int .i64 0] 3)).alloc (.cells #[.int .i64 0, .int .i64 (n : Int)] 3)).alloc (.cells #[.slice none 0 0, .slice (some ⟨wh.heap.size, 0, none⟩) 1 1, .slice (some ⟨wh.heap.size + 1, 0, none⟩) 1 1, .slice (some ⟨wh.heap.size + 1 + 1, 0, none⟩) 2 2, .slice (some ⟨wh.heap.size + 1 + 1 + 1, 0, none⟩) 1 1, .slice (some ⟨wh.heap.size + 1 + 1 + 1 + 1, 0, none⟩) 1 1, .slice (some ⟨wh.heap.size + 1 + 1 + 1 + 1 + 1, 0, none⟩) 1 1, .slice (some ⟨wh.heap.size + 1 + 1 + 1 + 1 + 1 + 1, 0, none⟩) 3 3, .slice (some ⟨wh.heap.size + 1 + 1 + 1 + 1 + 1 + 1 + 1, 0, none⟩) 2 2, .slice (some ⟨wh.heap.size + 1 + 1 + 1 + 1 + 1 + 1 + 1 + 1, 0, none⟩) 2 2] 33)).cell? ⟨gx, 4, none⟩ = some (.slice xA xi.length xc) := (row_allocs (swO (n : Int) (l.length : Int) wh.heap.size) HSW.out.row).cell 4
                  rcases (show r = 0 ∨ r = 1 ∨ r = 2 ∨ r = 3 ∨ r = 4 ∨ r = 5 ∨ r = 6 ∨ r = 7 ∨ r = 8 ∨ r = 9 by omega) with rfl | rfl | rfl | rfl | rfl | rfl | rfl | rfl | rfl | rfl
                  · obtain rfl : j = 20 := by omega
                    clear hjq hr9 hq9
                    go_wp2_with fail
                    go_meet
                    first | exact ⟨_, HSW.out.nils2 (swO (n : Int) (l.length : Int) wh.heap.size) ⟨⟨xk, xa, xb, xd, []⟩, none, 0⟩ rfl rfl rfl ⟨HXO.out.k, HXO.out.a, HXO.out.b, HXO.out.d, by simp, ⟨Nat.le_refl _, Nat.zero_le _⟩, fun _ => rfl⟩⟩ | exact ⟨_, HSW.out.nils (swO (n : Int) (l.length : Int) wh.heap.size) ⟨⟨xk, xa, xb, xd, []⟩, none, 0⟩ rfl rfl rfl ⟨HXO.out.k, HXO.out.a, HXO.out.b, HXO.out.d, by simp, ⟨Nat.le_refl _, Nat.zero_le _⟩, fun _ => rfl⟩⟩
                  · obtain rfl : j = 21 := by omega
                    clear hjq hr9 hq9
                    go_wp2_with fail
                    go_meet
                    have hok : Gn.Ok ⟨⟨xk, xa, xb, xd, [0]⟩, some ⟨wh.heap.size + 0, 0, none⟩, 1⟩ := ⟨HXO.out.k, HXO.out.a, HXO.out.b, HXO.out.d, (by intro z hz; simp only [List.mem_cons, List.not_mem_nil, or_false] at hz; omega), ⟨Nat.le_refl _, by show 1 ≤ maxLen; unfold maxLen; omega⟩, fun e => by cases e⟩
                    first | exact ⟨_, HSW.out.lits2 (swO (n : Int) (l.length : Int) wh.heap.size) 0 [0] rfl _ rfl rfl rfl hok⟩ | exact ⟨_, HSW.out.lits (swO (n : Int) (l.length : Int) wh.heap.size) 0 [0] rfl _ rfl rfl rfl hok⟩
                  · obtain rfl : j = 22 := by omega
                    clear hjq hr9 hq9
                    go_wp2_with fail
                    go_meet
                    have hok : Gn.Ok ⟨⟨xk, xa, xb, xd, [(n : Int)]⟩, some ⟨wh.heap.size + 1, 0, none⟩, 1⟩ := ⟨HXO.out.k, HXO.out.a, HXO.out.b, HXO.out.d, (by intro z hz; simp only [List.mem_cons, List.not_mem_nil, or_false] at hz; omega), ⟨Nat.le_refl _, by show 1 ≤ maxLen; unfold maxLen; omega⟩, fun e => by cases e⟩
                    first | exact ⟨_, HSW.out.lits2 (swO (n : Int) (l.length : Int) wh.heap.size) 1 [(n : Int)] rfl _ rfl rfl rfl hok⟩ | exact ⟨_, HSW.out.lits (swO (n : Int) (l.length : Int) wh.heap.size) 1 [(n : Int)] rfl _ rfl rfl rfl hok⟩
                  · obtain rfl : j = 23 := by omega
                    clear hjq hr9 hq9
                    go_wp2_with fail
                    go_meet
                    have hok : Gn.Ok ⟨⟨xk, xa, xb, xd, [(n : Int), 0]⟩, some ⟨wh.heap.size + 2, 0, none⟩, 2⟩ := ⟨HXO.out.k, HXO.out.a, HXO.out.b, HXO.out.d, (by intro z hz; simp only [List.mem_cons, List.not_mem_nil, or_false] at hz; omega), ⟨Nat.le_refl _, by show 2 ≤ maxLen; unfold maxLen; omega⟩, fun e => by cases e⟩
                    first | exact ⟨_, HSW.out.lits2 (swO (n : Int) (l.length : Int) wh.heap.size) 2 [(n : Int), 0] rfl _ rfl rfl rfl hok⟩ | exact ⟨_, HSW.out.lits (swO (n : Int) (l.length : Int) wh.heap.size) 2 [(n : Int), 0] rfl _ rfl rfl rfl hok⟩
                  · obtain rfl : j = 24 := by omega
                    clear hjq hr9 hq9
                    go_wp2_with fail
                    go_meet
                    have hok : Gn.Ok ⟨⟨xk, xa, xb, xd, [-1]⟩, some ⟨wh.heap.size + 3, 0, none⟩, 1⟩ := ⟨HXO.out.k, HXO.out.a, HXO.out.b, HXO.out.d, (by intro z hz; simp only [List.mem_cons, List.not_mem_nil, or_false] at hz; omega), ⟨Nat.le_refl _, by show 1 ≤ maxLen; unfold maxLen; omega⟩, fun e => by cases e⟩
                    first | exact ⟨_, HSW.out.lits2 (swO (n : Int) (l.length : Int) wh.heap.size) 3 [-1] rfl _ rfl rfl rfl hok⟩ | exact ⟨_, HSW.out.lits (swO (n : Int) (l.length : Int) wh.heap.size) 3 [-1] rfl _ rfl rfl rfl hok⟩
                  · obtain rfl : j = 25 := by omega
                    clear hjq hr9 hq9
                    go_wp2_with fail
                    go_meet
                    have hok : Gn.Ok ⟨⟨xk, xa, xb, xd, [(l.length : Int)]⟩, some ⟨wh.heap.size + 4, 0, none⟩, 1⟩ := ⟨HXO.out.k, HXO.out.a, HXO.out.b, HXO.out.d, (by intro z hz; simp only [List.mem_cons, List.not_mem_nil, or_false] at hz; omega), ⟨Nat.le_refl _, by show 1 ≤ maxLen; unfold maxLen; omega⟩, fun e => by cases e⟩
                    first | exact ⟨_, HSW.out.lits2 (swO (n : Int) (l.length : Int) wh.heap.size) 4 [(l.length : Int)] rfl _ rfl rfl rfl hok⟩ | exact ⟨_, HSW.out.lits (swO (n : Int) (l.length : Int) wh.heap.size) 4 [(l.length : Int)] rfl _ rfl rfl rfl hok⟩
                  · obtain rfl : j = 26 := by omega
                    clear hjq hr9 hq9
                    go_wp2_with fail
                    go_meet
                    have hok : Gn.Ok ⟨⟨xk, xa, xb, xd, [(l.length : Int) - 1]⟩, some ⟨wh.heap.size + 5, 0, none⟩, 1⟩ := ⟨HXO.out.k, HXO.out.a, HXO.out.b, HXO.out.d, (by intro z hz; simp only [List.mem_cons, List.not_mem_nil, or_false] at hz; omega), ⟨Nat.le_refl _, by show 1 ≤ maxLen; unfold maxLen; omega⟩, fun e => by cases e⟩
                    first | exact ⟨_, HSW.out.lits2 (swO (n : Int) (l.length : Int) wh.heap.size) 5 [(l.length : Int) - 1] rfl _ rfl rfl rfl hok⟩ | exact ⟨_, HSW.out.lits (swO (n : Int) (l.length : Int) wh.heap.size) 5 [(l.length : Int) - 1] rfl _ rfl rfl rfl hok⟩
                  · obtain rfl : j = 27 := by omega
                    clear hjq hr9 hq9
                    go_wp2_with fail
                    go_meet
                    have hok : Gn.Ok ⟨⟨xk, xa, xb, xd, [0, 0, 0]⟩, some ⟨wh.heap.size + 6, 0, none⟩, 3⟩ := ⟨HXO.out.k, HXO.out.a, HXO.out.b, HXO.out.d, (by intro z hz; simp only [List.mem_cons, List.not_mem_nil, or_false] at hz; omega), ⟨Nat.le_refl _, by show 3 ≤ maxLen; unfold maxLen; omega⟩, fun e => by cases e⟩
                    first | exact ⟨_, HSW.out.lits2 (swO (n : Int) (l.length : Int) wh.heap.size) 6 [0, 0, 0] rfl _ rfl rfl rfl hok⟩ | exact ⟨_, HSW.out.lits (swO (n : Int) (l.length : Int) wh.heap.size) 6 [0, 0, 0] rfl _ rfl rfl rfl hok⟩
                  · obtain rfl : j = 28 := by omega
                    clear hjq hr9 hq9
                    go_wp2_with fail
                    go_meet
                    have hok : Gn.Ok ⟨⟨xk, xa, xb, xd, [1, 0]⟩, some ⟨wh.heap.size + 7, 0, none⟩, 2⟩ := ⟨HXO.out.k, HXO.out.a, HXO.out.b, HXO.out.d, (by intro z hz; simp only [List.mem_cons, List.not_mem_nil, or_false] at hz; omega), ⟨Nat.le_refl _, by show 2 ≤ maxLen; unfold maxLen; omega⟩, fun e => by cases e⟩
                    first | exact ⟨_, HSW.out.lits2 (swO (n : Int) (l.length : Int) wh.heap.size) 7 [1, 0] rfl _ rfl rfl rfl hok⟩ | exact ⟨_, HSW.out.lits (swO (n : Int) (l.length : Int) wh.heap.size) 7 [1, 0] rfl _ rfl rfl rfl hok⟩
                  · obtain rfl : j = 29 := by omega
                    clear hjq hr9 hq9
                    go_wp2_with fail
                    go_meet
                    have hok : Gn.Ok ⟨⟨xk, xa, xb, xd, [0, (n : Int)]⟩, some ⟨wh.heap.size + 8, 0, none⟩, 2⟩ := ⟨HXO.out.k, HXO.out.a, HXO.out.b, HXO.out.d, (by intro z hz; simp only [List.mem_cons, List.not_mem_nil, or_false] at hz; omega), ⟨Nat.le_refl _, by show 2 ≤ maxLen; unfold maxLen; omega⟩, fun e => by cases e⟩
                    first | exact ⟨_, HSW.out.lits2 (swO (n : Int) (l.length : Int) wh.heap.size) 8 [0, (n : Int)] rfl _ rfl rfl rfl hok⟩ | exact ⟨_, HSW.out.lits (swO (n : Int) (l.length : Int) wh.heap.size) 8 [0, (n : Int)] rfl _ rfl rfl rfl hok⟩
                · rcases (show r = 0 ∨ r = 1 ∨ r = 2 ∨ r = 3 ∨ r = 4 ∨ r = 5 ∨ r = 6 ∨ r = 7 ∨ r = 8 ∨ r = 9 by omega) with rfl | rfl | rfl | rfl | rfl | rfl | rfl | rfl | rfl | rfl
                  · obtain rfl : j = 30 := by omega
                    clear hjq hr9 hq9
                    go_wp2_with fail
                    go_meet
                    exact ⟨_, HSW.out.set 3 _ ⟨⟨xk, xa, xb, -2, xi⟩, xA, xc⟩ rfl rfl rfl ⟨HXO.out.k, HXO.out.a, HXO.out.b, (by show (-9223372036854775808 : Int) ≤ -2 ∧ (-2 : Int) ≤ 9223372036854775807; decide), HXO.out.ins, HXO.out.c, HXO.out.none⟩⟩
                  · obtain rfl : j = 31 := by omega
                    clear hjq hr9 hq9
                    go_wp2_with fail
                    go_meet
                    exact ⟨_, HSW.out.set 3 _ ⟨⟨xk, xa, xb, -1, xi⟩, xA, xc⟩ rfl rfl rfl ⟨HXO.out.k, HXO.out.a, HXO.out.b, (by show (-9223372036854775808 : Int) ≤ -1 ∧ (-1 : Int) ≤ 9223372036854775807; decide), HXO.out.ins, HXO.out.c, HXO.out.none⟩⟩
                  · obtain rfl : j = 32 := by omega
                    clear hjq hr9 hq9
                    go_wp2_with fail
                    go_meet
                    exact ⟨_, HSW.out.set 3 _ ⟨⟨xk, xa, xb, 0, xi⟩, xA, xc⟩ rfl rfl rfl ⟨HXO.out.k, HXO.out.a, HXO.out.b, (by show (-9223372036854775808 : Int) ≤ 0 ∧ (0 : Int) ≤ 9223372036854775807; decide), HXO.out.ins, HXO.out.c, HXO.out.none⟩⟩
                  · obtain rfl : j = 33 := by omega
                    clear hjq hr9 hq9
                    go_wp2_with fail
                    go_meet
                    exact ⟨_, HSW.out.set 3 _ ⟨⟨xk, xa, xb, 1, xi⟩, xA, xc⟩ rfl rfl rfl ⟨HXO.out.k, HXO.out.a, HXO.out.b, (by show (-9223372036854775808 : Int) ≤ 1 ∧ (1 : Int) ≤ 9223372036854775807; decide), HXO.out.ins, HXO.out.c, HXO.out.none⟩⟩
                  · obtain rfl : j = 34 := by omega
                    clear hjq hr9 hq9
                    go_wp2_with fail
                    go_meet
                    exact ⟨_, HSW.out.set 3 _ ⟨⟨xk, xa, xb, 2, xi⟩, xA, xc⟩ rfl rfl rfl ⟨HXO.out.k, HXO.out.a, HXO.out.b, (by show (-9223372036854775808 : Int) ≤ 2 ∧ (2 : Int) ≤ 9223372036854775807; decide), HXO.out.ins, HXO.out.c, HXO.out.none⟩⟩
                  · obtain rfl : j = 35 := by omega
                    clear hjq hr9 hq9
                    go_wp2_with fail
                    go_meet
                    exact ⟨_, HSW.out.set 3 _ ⟨⟨xk, xa, xb, 3, xi⟩, xA, xc⟩ rfl rfl rfl ⟨HXO.out.k, HXO.out.a, HXO.out.b, (by show (-9223372036854775808 : Int) ≤ 3 ∧ (3 : Int) ≤ 9223372036854775807; decide), HXO.out.ins, HXO.out.c, HXO.out.none⟩⟩
                  · obtain rfl : j = 36 := by omega
                    clear hjq hr9 hq9
                    go_wp2_with fail
                    go_meet
                    exact ⟨_, HSW.out.set 3 _ ⟨⟨xk, xa, xb, 4, xi⟩, xA, xc⟩ rfl rfl rfl ⟨HXO.out.k, HXO.out.a, HXO.out.b, (by show (-9223372036854775808 : Int) ≤ 4 ∧ (4 : Int) ≤ 9223372036854775807; decide), HXO.out.ins, HXO.out.c, HXO.out.none⟩⟩
                  · obtain rfl : j = 37 := by omega
                    clear hjq hr9 hq9
                    go_wp2_with fail
                    go_meet
                    exact ⟨_, HSW.out.set 3 _ ⟨⟨xk, xa, xb, 5, xi⟩, xA, xc⟩ rfl rfl rfl ⟨HXO.out.k, HXO.out.a, HXO.out.b, (by show (-9223372036854775808 : Int) ≤ 5 ∧ (5 : Int) ≤ 9223372036854775807; decide), HXO.out.ins, HXO.out.c, HXO.out.none⟩⟩
                  · obtain rfl : j = 38 := by omega
                    clear hjq hr9 hq9
                    go_wp2_with fail
                    go_meet
                    exact ⟨_, HSW.out.set 3 _ ⟨⟨xk, xa, xb, 6, xi⟩, xA, xc⟩ rfl rfl rfl ⟨HXO.out.k, HXO.out.a, HXO.out.b, (by show (-9223372036854775808 : Int) ≤ 6 ∧ (6 : Int) ≤ 9223372036854775807; decide), HXO.out.ins, HXO.out.c, HXO.out.none⟩⟩
                  · obtain rfl : j = 39 := by omega
                    clear hjq hr9 hq9
                    go_wp2_with fail
                    go_meet
                    exact ⟨_, HSW.out.set 3 _ ⟨⟨xk, xa, xb, 7, xi⟩, xA, xc⟩ rfl rfl rfl ⟨HXO.out.k, HXO.out.a, HXO.out.b, (by show (-9223372036854775808 : Int) ≤ 7 ∧ (7 : Int) ≤ 9223372036854775807; decide), HXO.out.ins, HXO.out.c, HXO.out.none⟩⟩
              case rest =>
                obtain ⟨x', hsw⟩ := hcut
                have hxo' := hsw.ok
                have hst := hsw.own.stored hnl' hxo' hsw.ts (fun ad e => (hsw.far ad e).1)
                have hgz : wz.heap.size ≤ g := hsw.hg.2
                have hbW : Below wz.heap.size wz (((((wc.setCell ⟨g, n * 5, none⟩ (.int .u8 (x'.nd.k : Nat))).setCell ⟨g, n * 5 + 1, none⟩ (.int .u8 (x'.nd.a : Nat))).setCell ⟨g, n * 5 + 2, none⟩ (.int .i64 x'.nd.b)).setCell ⟨g, n * 5 + 3, none⟩ (.int .i64 x'.nd.d)).setCell ⟨g, n * 5 + 4, none⟩ (.slice x'.A x'.nd.ins.length x'.c)) :=
                  ((((hsw.below.setCell hgz _).setCell hgz _).setCell hgz _).setCell hgz _).setCell hgz _
                have d0 : wc.cell? ⟨gx, 0, none⟩ = some (.int .u8 (x'.nd.k : Nat)) := hsw.row.cell 0
                have d1 : wc.cell? ⟨gx, 1, none⟩ = some (.int .u8 (x'.nd.a : Nat)) := hsw.row.cell 1
                have d2 : wc.cell? ⟨gx, 2, none⟩ = some (.int .i64 x'.nd.b) := hsw.row.cell 2
                have d3 : wc.cell? ⟨gx, 3, none⟩ = some (.int .i64 x'.nd.d) := hsw.row.cell 3
                have d4 : wc.cell? ⟨gx, 4, none⟩ = some (.slice x'.A x'.nd.ins.length x'.c) := hsw.row.cell 4
                obtain ⟨x, hx⟩ : ∃ x, l'[n]? = some x := ⟨_, List.getElem?_eq_getElem hnl'⟩
                have hcell : ∀ (i : Nat) (u : Value), (kindG.cells x)[i]? = some u → wc.cell? ⟨g, n * 5 + i, none⟩ = some u := fun i u hu => by
                  have h := hsw.own.row.cells (g := g) rfl (n * 5 + i) u (Rw.row_at (κ := kindG) l' n x hx i u hu)
                  rwa [add_zero_off] at h
                have c0 := hcell 0 _ rfl
                have c1 := hcell 1 _ rfl
                have c2 := hcell 2 _ rfl
                have c3 := hcell 3 _ rfl
                have c4 := hcell 4 _ rfl
                rw [Nat.add_zero] at c0
                have e0 := hsw.own.row.frozenAt (n * 5)
                have e1 := hsw.own.row.frozenAt (n * 5 + 1)
                have e2 := hsw.own.row.frozenAt (n * 5 + 2)
                have e3 := hsw.own.row.frozenAt (n * 5 + 3)
                have e4 := hsw.own.row.frozenAt (n * 5 + 4)
                have HST := Lib.hid hst; have HBW := Lib.hid hbW; clear hsw hxo' hst hbW hgz hcell hx HSW f0 f1 f2 f3 f4 hgl
                obtain ⟨⟨yk, ya, yb, yd, yi⟩, yA, yc⟩ := x'
                simp only at d0 d1 d2 d3 d4
                go_wp2_with fail
                have hst := HST.out; have hbW := HBW.out
                clear HST HBW
                generalize (((((wc.setCell ⟨g, n * 5, none⟩ (.int .u8 (yk : Nat))).setCell ⟨g, n * 5 + 1, none⟩ (.int .u8 (ya : Nat))).setCell ⟨g, n * 5 + 2, none⟩ (.int .i64 yb)).setCell ⟨g, n * 5 + 3, none⟩ (.int .i64 yd)).setCell ⟨g, n * 5 + 4, none⟩ (.slice yA yi.length yc)) = W7 at *
                obtain ⟨L, hLg, hLl⟩ : ∃ L, Gr W7 (some ⟨g, 0, none⟩) L ∧ L.length = l'.length := ⟨_, hst, List.length_set⟩
                have hLm : L.length ≤ maxLen := by rw [hLl, HLL.out]; exact HML.out
                have HLG := Lib.hid hLg; have HLL2 := Lib.hid hLl; have HLM := Lib.hid hLm; have HW0 := Lib.hid (Below.refl W7.heap.size W7); have HBW := Lib.hid hbW
                clear hst hbW hLg hLl hLm d0 d1 d2 d3 d4 c0 c1 c2 c3 c4 e0 e1 e2 e3 e4
                have hcall := checkNode.walk _ L cap (n : Int) W7 (HTZ.out.below (HBW.out.trans (HW0.out.mono HBW.out.size))) (HLG.out.below HW0.out) HLM.out ⟨by rw [HLL2.out]; exact HGG.out.1, HGG.out.2⟩
                rw [HLL2.out] at hcall
                have HC := Lib.hid hcall; clear hcall
                refine HC.out.mono ?_; rintro e w8 ⟨rfl, hb7⟩
                have hb8 := HW0.out.trans (hb7.mono HW0.out.size)
                have HW1 := Lib.hid hb8; clear hb7 hb8 HC
                dsimp only
                have hcall := checkAll.walk _ L cap w8 (HTZ.out.below (HBW.out.trans (HW1.out.mono HBW.out.size))) (HLG.out.below HW1.out) HLM.out ⟨by rw [HLL2.out]; exact HGG.out.1, HGG.out.2⟩
                rw [HLL2.out] at hcall
                have HC := Lib.hid hcall; clear hcall
                go_wp2_with fail
                refine HC.out.mono ?_; rintro e w9 ⟨rfl, hb7⟩
                have hb8 := HW1.out.trans (hb7.mono HW1.out.size)
                have HW2 := Lib.hid hb8; clear hb7 hb8 HC
                dsimp only
                have hcall := checkOrder.walk _ L cap w9 (HTZ.out.below (HBW.out.trans (HW2.out.mono HBW.out.size))) (HLG.out.below HW2.out) HLM.out ⟨by rw [HLL2.out]; exact HGG.out.1, HGG.out.2⟩
                rw [HLL2.out] at hcall
                have HC := Lib.hid hcall; clear hcall
                go_wp2_with fail
                refine HC.out.mono ?_; rintro e w10 ⟨rfl, hb7⟩
                have hb8 := HW2.out.trans (hb7.mono HW2.out.size)
                have HW3 := Lib.hid hb8; clear hb7 hb8 HC
                dsimp only
                have hcall := checkNode.walk _ L cap ((n : Int) - 1) w10 (HTZ.out.below (HBW.out.trans (HW3.out.mono HBW.out.size))) (HLG.out.below HW3.out) HLM.out ⟨by rw [HLL2.out]; exact HGG.out.1, HGG.out.2⟩
                rw [HLL2.out] at hcall
                have HC := Lib.hid hcall; clear hcall
                go_wp2_with fail
                refine HC.out.mono ?_; rintro e w11 ⟨rfl, hb7⟩
                have hb8 := HW3.out.trans (hb7.mono HW3.out.size)
                have HW4 := Lib.hid hb8; clear hb7 hb8 HC
                dsimp only
                go_wp2_with fail
                go_roundw
                case rel => exact ⟨j + 2, by omega, by simp, HBW.out.trans (HW4.out.mono HBW.out.size)⟩
                case measure => simp only [intOf]; omega
            · have hj40z : ¬ (j : Int) < 40 := by omega
              go_wp2_with fail
              go_roundw
              case rel => exact ⟨n + 1, by omega, by simp, HBF.out⟩
              case measure => simp only [intOf]; omega
        · have hnz : ¬ (n : Int) < (l.length : Int) := by omega
          go_wp2_with fail
          go_roundw
          case rel => exact ⟨k + 1, by omega, by simp, HBD.out⟩
          case measure => simp only [intOf]; omega
    · have hk6z : ¬ (k : Int) < 6 := by omega
      have HW0 := Lib.hid (HBZ.out.trans (HB.out.mono HBZ.out.size)); clear HB HGS HBZ
      go_wp2_with fail
      go_loopw [7] (fun i wr => ∃ m : Nat, m ≤ 256 ∧ i = .int .i64 m ∧ Below w.heap.size w wr) (fun i _ => 256 - (intOf i).toNat)
      case atStart => exact ⟨0, by omega, rfl, HW0.out⟩
      case round =>
        obtain ⟨wa, rfl⟩ : ∃ wa, wa = wr := ⟨_, rfl⟩
        obtain ⟨m, hm, rfl, hb⟩ := hrel
        have HB := Lib.hid hb; clear hb HW0
        by_cases hm256 : m < 256
        · have hm256z : (m : Int) < 256 := by omega
          obtain ⟨a, ha⟩ : ∃ a, m % 4 = a := ⟨_, rfl⟩
          have a1 : (m : Int).tmod 4 = (a : Int) := by rw [Int.tmod_eq_emod_of_nonneg (by omega)]; omega
          have a2 : (m : Int) % 4 = (a : Int) := by omega
          have a3 : IntKind.i64.wrap (a : Int) = (a : Int) := IntWalk.i64_in _ (by omega)
          obtain ⟨q, hq⟩ : ∃ a, m / 4 = a := ⟨_, rfl⟩
          have q1 : (m : Int).tdiv 4 = (q : Int) := by rw [Int.tdiv_eq_ediv_of_nonneg (by omega)]; omega
          have q2 : (m : Int) / 4 = (q : Int) := by omega
          have q3 : IntKind.i64.wrap (q : Int) = (q : Int) := IntWalk.i64_in _ (by omega)
          obtain ⟨b, hb⟩ : ∃ a, q % 4 = a := ⟨_, rfl⟩
          have b1 : (q : Int).tmod 4 = (b : Int) := by rw [Int.tmod_eq_emod_of_nonneg (by omega)]; omega
          have b2 : (q : Int) % 4 = (b : Int) := by omega
          have b3 : IntKind.i64.wrap (b : Int) = (b : Int) := IntWalk.i64_in _ (by omega)
          obtain ⟨s, hs⟩ : ∃ a, m / 16 = a := ⟨_, rfl⟩
          have s1 : (m : Int).tdiv 16 = (s : Int) := by rw [Int.tdiv_eq_ediv_of_nonneg (by omega)]; omega
          have s2 : (m : Int) / 16 = (s : Int) := by omega
          have s3 : IntKind.i64.wrap (s : Int) = (s : Int) := IntWalk.i64_in _ (by omega)
          obtain ⟨c, hc⟩ : ∃ a, s % 4 = a := ⟨_, rfl⟩
          have c1 : (s : Int).tmod 4 = (c : Int) := by rw [Int.tmod_eq_emod_of_nonneg (by omega)]; omega
          have c2 : (s : Int) % 4 = (c : Int) := by omega
          have c3 : IntKind.i64.wrap (c : Int) = (c : Int) := IntWalk.i64_in _ (by omega)
          obtain ⟨d, hd⟩ : ∃ a, m / 64 = a := ⟨_, rfl⟩
          have d1 : (m : Int).tdiv 64 = (d : Int) := by rw [Int.tdiv_eq_ediv_of_nonneg (by omega)]; omega
          have d2 : (m : Int) / 64 = (d : Int) := by omega
          have d3 : IntKind.i64.wrap (d : Int) = (d : Int) := IntWalk.i64_in _ (by omega)
          have a9 : (0 : Int) ≤ (a : Int) ∧ (a : Int) ≤ 3 := by omega
          have b9 : (0 : Int) ≤ (b : Int) ∧ (b : Int) ≤ 3 := by omega
          have c9 : (0 : Int) ≤ (c : Int) ∧ (c : Int) ≤ 3 := by omega
          have d9 : (0 : Int) ≤ (d : Int) ∧ (d : Int) ≤ 3 := by omega
          have a4 : IntKind.i64.wrap (1 + (a : Int)) = 1 + (a : Int) := IntWalk.i64_in _ (by omega)
          have b4 : IntKind.i64.wrap (1 + (b : Int)) = 1 + (b : Int) := IntWalk.i64_in _ (by omega)
          have c4 : IntKind.i64.wrap (1 + (c : Int)) = 1 + (c : Int) := IntWalk.i64_in _ (by omega)
          have d4 : IntKind.i64.wrap (1 + (d : Int)) = 1 + (d : Int) := IntWalk.i64_in _ (by omega)
          have HFG := Lib.hid (fg_gr wa a9 b9 c9 d9)
          have HFH := Lib.hid (fh_gr wa a9 b9 c9 d9)
          have HB0 := Lib.hid (allocs_below (fedO wa.heap.size a b c d) HB.out HB.out.size)
          clear a9 b9 c9 d9 ha hq hb hs hc hd
          go_wp2_with fail
          refine (checkAll.walk _ (fgL wa.heap.size a b c d) 4 ((fedO wa.heap.size a b c d).foldl World.alloc wa) (HT.out.below HB0.out) (HFG.out) (show 4 ≤ maxLen by decide) (show 4 ≤ 4 ∧ 4 ≤ maxLen by decide)).mono ?_; rintro e w1 ⟨rfl, hb7⟩
          have HB1 := Lib.hid (HB0.out.trans (hb7.mono HB0.out.size))
          have HS1 := Lib.hid (hb7)
          clear hb7
          dsimp only
          go_wp2_with fail
          refine (checkOrder.walk _ (fgL wa.heap.size a b c d) 4 w1 (HT.out.below HB1.out) (HFG.out.below HS1.out) (show 4 ≤ maxLen by decide) (show 4 ≤ 4 ∧ 4 ≤ maxLen by decide)).mono ?_; rintro e w2 ⟨rfl, hb7⟩
          have HB2 := Lib.hid (HB1.out.trans (hb7.mono HB1.out.size))
          have HS2 := Lib.hid (HS1.out.trans (hb7.mono HS1.out.size))
          clear hb7
          dsimp only
          go_wp2_with fail
          refine (checkAll.walk _ (fhL wa.heap.size a b c d) 5 w2 (HT.out.below HB2.out) (HFH.out.below HS2.out) (show 5 ≤ maxLen by decide) (show 5 ≤ 5 ∧ 5 ≤ maxLen by decide)).mono ?_; rintro e w3 ⟨rfl, hb7⟩
          have HB3 := Lib.hid (HB2.out.trans (hb7.mono HB2.out.size))
          have HS3 := Lib.hid (HS2.out.trans (hb7.mono HS2.out.size))
          clear hb7
          dsimp only
          go_wp2_with fail
          refine (checkOrder.walk _ (fhL wa.heap.size a b c d) 5 w3 (HT.out.below HB3.out) (HFH.out.below HS3.out) (show 5 ≤ maxLen by decide) (show 5 ≤ 5 ∧ 5 ≤ maxLen by decide)).mono ?_; rintro e w4 ⟨rfl, hb7⟩
          have HB4 := Lib.hid (HB3.out.trans (hb7.mono HB3.out.size))
          have HS4 := Lib.hid (HS3.out.trans (hb7.mono HS3.out.size))
          clear hb7
          dsimp only
          go_wp2_with fail
          go_roundw
          case rel => exact ⟨m + 1, by omega, by simp, HB4.out⟩
          case measure => simp only [intOf]; omega
        · have hm256z : ¬ (m : Int) < 256 := by omega
          obtain ⟨wb, hr1, hg1, hb1⟩ := made_zeros wa 33 (by omega) zeros_row33
          have HR1 := Lib.hid hr1; have HG1 := Lib.hid hg1; have hw1 := HB.out.trans (hb1.mono HB.out.size); have HW1 := Lib.hid hw1; clear hr1 hg1 hb1 hw1
          go_wp2_with (refine wpList_make_yes _ _ 23 rfl rfl _ _ _ rfl rfl HR1.out ?_)
          have hm33 : (List.replicate 33 zeroN).length ≤ maxLen := by rw [List.length_replicate]; unfold maxLen; omega
          have hc33 : (List.replicate 33 zeroN).length ≤ 33 ∧ 33 ≤ maxLen := by rw [List.length_replicate]; unfold maxLen; omega
          have HM33 := Lib.hid hm33; have HC33 := Lib.hid hc33; clear hm33 hc33
          have HC := Lib.hid (checkAll.walk _ (List.replicate 33 zeroN) 33 wb (HT.out.below HW1.out) HG1.out HM33.out HC33.out)
          refine HC.out.mono ?_; rintro e w5 ⟨rfl, hb7⟩
          have hb8 := HW1.out.trans (hb7.mono HW1.out.size)
          have HW2 := Lib.hid hb8; clear hb7 hb8 HC
          dsimp only
          obtain ⟨w6, hr1, hg1, hb1⟩ := made_zeros w5 33 (by omega) zeros_row33
          have HR2 := Lib.hid hr1; have HG2 := Lib.hid hg1; have hw1 := HW2.out.trans (hb1.mono HW2.out.size); have HW3 := Lib.hid hw1; clear hr1 hg1 hb1 hw1
          go_wp2_with (refine wpList_make_yes _ _ 23 rfl rfl _ _ _ rfl rfl HR2.out ?_)
          have HC := Lib.hid (checkOrder.walk _ (List.replicate 33 zeroN) 33 w6 (HT.out.below HW3.out) HG2.out HM33.out HC33.out)
          refine HC.out.mono ?_; rintro e w7 ⟨rfl, hb7⟩
          have hb8 := HW3.out.trans (hb7.mono HW3.out.size)
          have HW4 := Lib.hid hb8; clear hb7 hb8 HC
          dsimp only
          have HC := Lib.hid (checkNode.walk none [] 0 0 w7 (HT.out.below HW4.out) Gr.nil (Nat.zero_le _) ⟨Nat.le_refl _, Nat.zero_le _⟩)
          go_wp2_with fail
          refine HC.out.mono ?_; rintro e w8 ⟨rfl, hb7⟩
          have hb8 := HW4.out.trans (hb7.mono HW4.out.size)
          have HW5 := Lib.hid hb8; clear hb7 hb8 HC
          dsimp only
          have HC := Lib.hid (chkWorks_any w8 (HT.out.below HW5.out))
          go_wp2_with fail
          refine HC.out.mono ?_; rintro e w9 ⟨rfl, hb7⟩
          have hb8 := HW5.out.trans (hb7.mono HW5.out.size)
          have HW6 := Lib.hid hb8; clear hb7 hb8 HC
          dsimp only
          go_wp2_with fail
          go_ret
          exact ⟨rfl, HW6.out⟩


set_option maxRecDepth 100000 in
theorem lifted (os : Os) (started : os.Started) (H : Type) (enc : TypeId × Value → H) :
    ReturnsInHanded {} Tryd.checked os 8 .any (fun w args => (Rows.checkKnownSpec.pre enc Tryd.prog Tryd.f8 [] false w args ∧ laidMetH Tryd.prog laidT w) ∧ sizedMet enc Tryd.prog Tryd.f8 (OpenSpec.ofChange Rows.checkKnownSpec) false w args) (Rows.checkKnownSpec.post enc Tryd.prog Tryd.f8 false true false false) := by
  refine returnsInHanded_of_change_and (C := Tryd.checked) (X := fun w _ => laidMetH Tryd.prog laidT w) (fun _ _ _ hh h => h.of_heap hh) ownKnob_none started (by kernel_rfl) Tryd.func8
    (ChangeSpec.witness_shaped (enc := enc) (C := Tryd.checked) (os := os) (X := fun w _ => laidMetH Tryd.prog laidT w) false (World.doorLaid Tryd.prog 400 os) #[] 8 rfl (World.shaped_of_RefB (by kernel_rfl) (by kernel_rfl)) (by kernel_rfl) (by kernel_rfl) (by kernel_rfl) (door_met os _)) ?_
  intro W base args ds gs before hval0 hW hcnd hsz0 hL _
  have hTab := tab_of_laid hL
  have hval : ∀ (j : Nat) t v, Tryd.f8.params[j]? = some t → args[j]? = some v → Value.okWide Tryd.prog W .any base t v := hval0
  have hW' := hW
  obtain ⟨p, q, hA0, hV, rfl, hfz, hnd⟩ := hW
  have hA : DataW.TrodAll enc Tryd.prog W 0 (fun _ => true) true Tryd.f8.params.toList args.toList ds p := hA0
  have hsz : (DataW.weightsEach Tryd.prog (Tryd.f8.params.toList ++ Rows.checkKnownSpec.plain.varTypes Tryd.prog) (ds ++ gs)).all (· ≤ reachBytes) = true := hsz0
  rw [Tryd.params8] at hA hval hsz
  obtain ⟨hargs, rfl, rfl⟩ := trodAll_nil hA
  obtain rfl : args = #[] := by cases args; simp_all
  obtain ⟨rfl, rfl⟩ := trodVars_none hV
  clear hA0 hval0 hsz0
  refine (walk W hTab).mono fun e W' ⟨he, hg⟩ => ?_
  subst he
  exact ⟨_, rfl, law_post progLaid hW' rfl (by rw [Tryd.params8]; intro t ht; simp at ht) rfl Tryd.underlying4 rfl hg⟩

theorem over : Rows.checkKnownRow.holds Tryd.pinned (OpenSpec.ofChange Rows.checkKnownSpec) :=
  OpenClaim.holds_of_wide 8 Tryd.f8 rfl rfl rfl rfl rfl rfl rfl ⟨rfl, rfl, rfl, rfl, rfl⟩ rfl rfl rfl rfl rfl (by kernel_rfl) Tryd.func8 (by kernel_rfl)
    (of_decide_eq_true (by kernel_rfl)) (by unfold Func.isWrapper; first | (rw [if_pos (by decide +kernel)]; kernel_rfl) | (rw [if_neg (by decide +kernel)]; exact ⟨rfl, rfl⟩))
    (fun os started H enc _ => lifted os started H enc)

/-- The statement. -/
theorem proved : Rows.CheckKnownCardSaid :=
  Claim7.holds_tied_plain_at .later [] [.data] true Rows.checkKnownCard.stood.harness false over (fun _ h => by cases h) (by kernel_rfl) (fun _ h => by cases h) checkKnown_row_tie rfl ⟨rfl, rfl⟩ (by kernel_rfl) rfl
    (fun f fn hf hfn => by
      obtain rfl : f = 8 := Option.some.inj ((show Tryd.prog.funcNamed "tailrace/tailracelaw10.CheckKnown" = some 8 by kernel_rfl).symm.trans hf) |>.symm
      obtain rfl : fn = Tryd.f8 := (Option.some.inj (Tryd.func8.symm.trans hfn)).symm
      refine ⟨by kernel_rfl, fun j t ht => ?_⟩
      rw [Tryd.params8] at ht
      have hm := Array.mem_of_getElem? ht
      simp only [List.mem_toArray, List.not_mem_nil] at hm)
    (by kernel_rfl)
end checkKnown
end Go.Proofs.YtocdganglokplaaDoor
