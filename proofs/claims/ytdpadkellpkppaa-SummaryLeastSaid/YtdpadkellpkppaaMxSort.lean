/- slices.SortFunc of a row of summaries of the call's own; slices.SortedFunc. -/
import Derived.Test.YtdpadkellpkppaaMxCollect
import Derived.Test.YtdpadkellpkppaaMxCmp
import Derived.Test.YtdpadkellpkppaaMxShelf
import Derived.Shelf.SlSortCmp.NoneTotal
namespace Go.Proofs.Ytdpadkellpkppaa
namespace Mx
open Go.Sort (grow SWO putCells flatK size_flatK get_flatK putRowK HoldsK)
open Go.ChangeShapes Go.WideShapes Go.ChangeAt Go.RowKit Go.BigFrame Go.Shelf
set_option linter.unusedVariables false
set_option maxRecDepth 100000
instance : Inhabited Sm := ⟨Sm.zero⟩
theorem grew_grow {W w' : World} (h : Grew W w') : ∃ q os, w' = grow (W.drewN q) os := by
  obtain ⟨⟨h1, h2, h3, h4, h5⟩, h6⟩ := h
  refine ⟨w'.drawn - W.drawn, w'.heap.extract W.heap.size w'.heap.size, ?_⟩
  have hh : w'.heap = W.heap ++ w'.heap.extract W.heap.size w'.heap.size := by
    apply Array.ext_getElem?
    intro k
    rw [Array.getElem?_append]
    split
    · rename_i hk; exact h5 k hk
    · rename_i hk
      rw [Array.getElem?_extract]
      by_cases hk2 : k < w'.heap.size
      · rw [if_pos (by omega), show W.heap.size + (k - W.heap.size) = k by omega]
      · rw [if_neg (by omega), Array.getElem?_eq_none (by omega)]
  have hd : w'.drawn = W.drawn + (w'.drawn - W.drawn) := by omega
  cases w'
  cases W
  simp only at h1 h2 h3 hh hd
  unfold grow World.drewN
  simp only [World.mk.injEq]
  exact ⟨hh, h2, hd, h1, h3⟩
theorem flat_row (ts : List Sm) : flatK Sm.cells 7 ts.toArray = (rowS ts).toArray := by
  apply Array.ext_getElem?
  intro k
  by_cases hk : k < ts.length * 7
  · have h1 : k / 7 < ts.length := by omega
    obtain ⟨t, ht⟩ : ∃ t, ts[k / 7]? = some t := ⟨_, List.getElem?_eq_getElem h1⟩
    obtain ⟨u, hu⟩ : ∃ u, t.cells[k % 7]? = some u := ⟨_, List.getElem?_eq_getElem (by show k % 7 < 7; omega)⟩
    have h2 := rowS_at ts (k / 7) t ht (k % 7) u hu
    rw [show k / 7 * 7 + k % 7 = k by omega] at h2
    have hrhs : (rowS ts).toArray[k]? = some u := by simpa using h2
    rw [hrhs]
    have h3 := get_flatK Sm.cells 7 ts.toArray k (by simpa using hk)
    have h4 : ts.toArray[k / 7]! = t := by
      rw [List.getElem!_toArray, List.getElem!_eq_getElem?_getD, ht]; rfl
    rw [h4, List.getElem!_eq_getElem?_getD, hu] at h3
    have h5 : k < (flatK Sm.cells 7 ts.toArray).size := by rw [size_flatK]; simpa using hk
    rw [getElem!_pos _ k h5] at h3
    rw [Array.getElem?_eq_getElem h5, h3]; rfl
  · rw [Array.getElem?_eq_none (by rw [size_flatK]; simpa using hk), Array.getElem?_eq_none (by simp only [List.size_toArray]; rw [rowS_len]; omega)]
theorem swoC : SWO (ltOf Sm.C) where
  irrefl x := by
    have : x.C x = 0 := Sm.C_zero.2 rfl
    simp [ltOf, this]
  trans x y z h1 h2 := by
    simp only [ltOf, decide_eq_true_eq] at *
    exact Sm.C_lt_trans h1 h2
  ntrans x y z h1 h2 := by
    simp only [ltOf, decide_eq_false_iff_not] at *
    have e1 := Sm.C_swap (a := x) (b := y)
    have e2 := Sm.C_swap (a := y) (b := z)
    have e3 := Sm.C_swap (a := x) (b := z)
    have := Sm.C_trans (a := z) (b := y) (c := x) (by omega) (by omega)
    omega
/-- the rows as they rise -/
def sortS (ts : List Sm) : List Sm := ts.mergeSort fun x y => !(ltOf Sm.C) y x
theorem sortS_perm (ts : List Sm) : (sortS ts).Perm ts := List.mergeSort_perm _ _
theorem sortS_rises (ts : List Sm) : (sortS ts).Pairwise fun x y => x.C y ≤ 0 := by
  refine (List.pairwise_mergeSort (le := fun x y => !(ltOf Sm.C) y x) ?_ ?_ ts).imp ?_
  · intro a b c h1 h2
    simp only [ltOf, Bool.not_eq_true', decide_eq_false_iff_not] at *
    have e1 := Sm.C_swap (a := a) (b := b)
    have e2 := Sm.C_swap (a := b) (b := c)
    have e3 := Sm.C_swap (a := a) (b := c)
    have := Sm.C_trans (a := a) (b := b) (c := c) (by omega) (by omega)
    omega
  · intro a b
    have e1 := Sm.C_swap (a := a) (b := b)
    simp only [ltOf, Bool.or_eq_true, Bool.not_eq_true', decide_eq_false_iff_not]
    omega
  · intro a b h
    have e1 := Sm.C_swap (a := a) (b := b)
    simp only [ltOf, Bool.not_eq_true', decide_eq_false_iff_not] at h
    omega
theorem cmpLays (blk off size : Nat) (w : World) : CmpLays Try.prog 37 #[] Sm.cells 7 Sm.C blk off size w := by
  intro m os dk _ x y
  exact (compare_grew x y _).mono fun _ _ h => ⟨h.1, grew_grow h.2⟩
theorem grown_sorted {w : World} {g n : Nat} {os : Array Obj} (d : Array Sm) : w.grownBy (sortWorldK Sm.cells 7 w g 0 n d os) (some g) := by
  refine ⟨rfl, rfl, rfl, ?_, fun k hk hne => ?_⟩
  · exact size_sortWorldK_c Sm.cells 7 w g 0 n d os
  · unfold sortWorldK
    rw [Go.Sort.heap_grow_old _ _ (by simpa [putRowK] using hk)]
    have : g ≠ k := fun e => hne (by rw [e])
    simp [putRowK, Go.Sort.putRow, Go.Sort.mapBlock, Go.Sort.ahead, Array.getElem?_modify, this]
theorem sortFunc_any (base n : Nat) (v : Value) (ts : List Sm) (w : World) (hr : w.ownsRow base 24 7 v n (rowS ts)) (hn : ts.length ≤ 1000) :
    Calls Try.prog 45 #[v, .func (.func 37) #[] #[]] w fun e w' => e = .returned (.tuple #[]) ∧ w'.ownsRow base 24 7 v n (rowS (sortS ts)) ∧ w.grownBy w' v.ownBlock := by
  have hl : ts.length = n := by have := hr.1; rw [rowS_len] at this; omega
  rcases hr.2 with ⟨rfl, h0⟩ | ⟨g, cap, cur, rfl, hb, hh, h1, h2, h3, h4⟩
  · have : ts = [] := List.eq_nil_of_length_eq_zero (by omega)
    subst this
    exact (AnyF.slices_SortFunc_none Try.sortSum none 0 _ w).mono fun e w' ⟨he, hw⟩ => ⟨he, by subst hw; rw [show sortS [] = [] from List.mergeSort_nil]; exact hr, by subst hw; exact ⟨rfl, rfl, rfl, Nat.le_refl _, fun _ _ _ => rfl⟩⟩
  · have hg : g < w.heap.size := (Array.getElem?_eq_some_iff.1 hh).1
    have hH : HoldsK Sm.cells 7 w g 0 ts.toArray := by
      unfold HoldsK
      rw [flat_row]
      intro j hj
      have hj' : j < (rowS ts).length := by simpa using hj
      refine ⟨?_, by simp [World.frozen?, hh]⟩
      have hc := hr.cells (g := g) rfl j _ (List.getElem?_eq_getElem hj')
      rw [add_zero_off] at hc
      rw [Nat.zero_add, hc, getElem!_pos _ j hj]
      rfl
    have hs := AnyQ.slices_SortFunc_total Try.sortSum 7 Try.isAgg24 Try.sizeOf24 Sm.cells (fun _ => rfl) (fun x v hv => rowS_one [x] v (by simpa [rowS] using hv)) Sm.C swoC 37 #[] g 0 cap ts.toArray w
      (enters_of Try.func37 (by kernel_rfl) rfl) (cmpLays _ _ _ _) hH hg (by simp; omega) (fun x y hx hy => by
        simp only [ltOf, decide_eq_false_iff_not] at hx hy
        have e1 := Sm.C_swap (a := x) (b := y)
        exact Sm.C_zero.1 (by omega))
    rw [show ts.toArray.size = n by simpa using hl] at hs
    refine hs.mono fun e w' ⟨he, m, os, hw⟩ => ⟨he, ?_, by subst hw; exact grown_sorted _⟩
    subst hw
    refine ⟨by rw [rowS_len, (sortS_perm ts).length_eq, hl], .inr ⟨g, cap, putCells id 0 (rowS (sortS ts)).toArray cur, rfl, hb, ?_, h1, h2, by simp [putCells, h3], ?_⟩⟩
    · unfold sortWorldK
      rw [Go.Sort.heap_grow_old _ _ (by simpa [putRowK] using hg)]
      show (putRowK Sm.cells 7 (Go.Sort.ahead w m) g 0 (sortS ts).toArray).heap[g]? = _
      unfold putRowK
      rw [flat_row]
      simp [Go.Sort.putRow, Go.Sort.mapBlock, Go.Sort.ahead, Array.getElem?_modify, hh, Go.Sort.onCells]
    · have hlen : (rowS (sortS ts)).length = n * 7 := by rw [rowS_len, (sortS_perm ts).length_eq, hl]
      apply List.ext_getElem?
      intro j
      by_cases hj : j < n * 7
      · rw [List.getElem?_take_of_lt hj, Array.getElem?_toList]
        have : j < cur.size := by have := Nat.mul_le_mul_right 7 h1; omega
        simp [putCells, hlen, hj, this]
      · rw [List.getElem?_take_eq_none (by omega), List.getElem?_eq_none (by omega)]
theorem sortedFunc_any (g N : Nat) (lb : Array Value) (S Sp : List RSm → Prop) (hN : N ≤ 1000) (hS : ∀ xs, S xs → xs.length ≤ 1000) (w0 w : World) (hb0 : Below w0.heap.size w0 w) (eg : ∀ args w, (callFunc g args).run Try.prog w = .ok (.enter g args) w)
    (hseq : ∀ n, 1 ≤ n → SeqStopsK Fence.wide n Try.prog g lb encS KeepsWalks S Sp N w0) :
    Calls Try.prog 35 #[.func (.func g) #[] lb, .func (.func 37) #[] #[]] w fun e W' => (∃ v xs, e = .returned v ∧ S xs ∧ W'.ownsRow w.heap.size 24 7 v xs.length (rowS (sortS (raw xs)))) ∧ Below w.heap.size w W' := by
  have H := Lib.hid (collect_any g N lb S Sp hN w0 w hb0 eg hseq)
  have HS := Lib.hid hS
  clear hseq eg hb0 hS
  go_enter Try.func35, Try.ntmps35
  go_wp2_with fail
  refine (H.out).mono ?_; rintro e w1 ⟨⟨v, xs, rfl, hs, hr⟩, hb⟩
  have hso := sortFunc_any w.heap.size xs.length v (raw xs) w1 hr (by rw [raw_length]; exact HS.out _ hs)
  have hv : ∀ k, v.ownBlock = some k → w.heap.size ≤ k := fun k hk => (hr.lt k hk).1
  have HH := Lib.hid (And.intro hs (And.intro hv hb)); have HSO := Lib.hid hso; clear hs hr hb hso hv H
  dsimp only
  go_wp2_with fail
  refine (HSO.out).mono ?_; rintro e w2 ⟨rfl, hr2, hg⟩
  have H2 := Lib.hid (And.intro hr2 (HH.out.2.2.grown hg HH.out.2.2.size HH.out.2.1)); clear hr2 hg HSO
  dsimp only
  go_wp2_with fail
  go_ret
  exact ⟨⟨v, xs, rfl, HH.out.1, H2.out.1⟩, H2.out.2⟩
theorem own_len {w : World} {base n : Nat} {v : Value} {ts : List Sm} (h : w.ownsRow base 24 7 v n (rowS ts)) : n = ts.length := by
  have := h.1; rw [rowS_len] at this; omega
theorem own_kept {w w' : World} {base n : Nat} {v : Value} {xs : List Value} (h : w.ownsRow base 24 7 v n xs) (hb : Below w.heap.size w w') : w'.ownsRow base 24 7 v n xs := by
  refine h.kept (grown_below hb) ?_
  cases hv : v.ownBlock with
  | none => exact .inl rfl
  | some k => exact .inr (by simp)
end Mx
end Go.Proofs.Ytdpadkellpkppaa
