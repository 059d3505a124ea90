/- slices.SortFunc of a row of records of the call's own, by the closure. -/
import Derived.Test.YtcdofkhkckodjaaVrKit
import Derived.Test.YtcdofkhkckodjaaShelfV
import Derived.Shelf.SlSortCmp.NoneTotal
namespace Go.Proofs.Ytcdofkhkckodjaa
namespace Vr
open Go.ChangeShapes Go.WideShapes Go.ChangeAt Go.RowKit Go.BigFrame Go.Shelf
open Go.Sort (grow SWO putCells flatK size_flatK get_flatK putRowK HoldsK)
set_option linter.unusedVariables false
set_option maxRecDepth 100000
instance : Inhabited Rd := ⟨⟨0, 0⟩⟩
theorem flat_rec (ts : List Rd) : flatK Rd.cells 2 ts.toArray = (Rw.row kindR ts).toArray := by
  apply Array.ext_getElem?
  intro k
  by_cases hk : k < ts.length * 2
  · have h1 : k / 2 < ts.length := by omega
    obtain ⟨t, ht⟩ : ∃ t, ts[k / 2]? = some t := ⟨_, List.getElem?_eq_getElem h1⟩
    obtain ⟨u, hu⟩ : ∃ u, t.cells[k % 2]? = some u := ⟨_, List.getElem?_eq_getElem (by show k % 2 < 2; omega)⟩
    have h2 := Rw.row_at (κ := kindR) ts (k / 2) t ht (k % 2) u hu
    rw [show k / 2 * kindR.K + k % 2 = k by show k / 2 * 2 + k % 2 = k; omega] at h2
    have hrhs : (Rw.row kindR ts).toArray[k]? = some u := by simpa using h2
    rw [hrhs]
    have h3 := get_flatK Rd.cells 2 ts.toArray k (by simpa using hk)
    have h4 : ts.toArray[k / 2]! = t := by
      rw [List.getElem!_toArray, List.getElem!_eq_getElem?_getD, ht]; rfl
    rw [h4, List.getElem!_eq_getElem?_getD, hu] at h3
    have h5 : k < (flatK Rd.cells 2 ts.toArray).size := by rw [size_flatK]; simpa using hk
    rw [getElem!_pos _ k h5] at h3
    rw [Array.getElem?_eq_getElem h5, h3]; rfl
  · rw [Array.getElem?_eq_none (by rw [size_flatK]; simpa using hk), Array.getElem?_eq_none (by simp only [List.size_toArray]; rw [Rw.row_len]; show ts.length * 2 ≤ k; omega)]
theorem ltR {a b : Rd} : ltOf Rd.C a b = true ↔ ¬ b.Le a := by
  simp only [ltOf, decide_eq_true_eq]
  rw [← Rd.C_pos, Rd.C_swap (a := a) (b := b)]
  omega
theorem ltR_not {a b : Rd} : ltOf Rd.C a b = false ↔ b.Le a := by
  rw [← Bool.not_eq_true, ltR]
  exact Decidable.not_not
theorem swoR : SWO (ltOf Rd.C) where
  irrefl x := by rw [ltR_not]; exact Rd.Le_refl
  trans x y z h1 h2 := by
    rw [ltR] at *
    intro h
    exact h2 (Rd.Le_trans h (Rd.Le_total h1))
  ntrans x y z h1 h2 := by
    rw [ltR_not] at *
    exact Rd.Le_trans h2 h1
theorem merge_sortR (ts : List Rd) : (ts.mergeSort fun x y => !(ltOf Rd.C) y x) = sortR ts := by
  refine sortR_eq ?_ (List.mergeSort_perm _ _)
  refine (List.pairwise_mergeSort (le := fun x y => !(ltOf Rd.C) y x) ?_ ?_ ts).imp ?_
  · intro a b c h1 h2
    simp only [Bool.not_eq_true', ltR_not] at *
    exact Rd.Le_trans h1 h2
  · intro a b
    by_cases h : a.Le b
    · simp [ltR_not.2 h]
    · simp [ltR_not.2 (Rd.Le_total h)]
  · intro a b h
    simp only [Bool.not_eq_true', ltR_not] at h
    exact h
theorem cmpLays (blk off size : Nat) (w : World) : CmpLays Try.prog 38 #[] Rd.cells 2 Rd.C blk off size w := by
  intro m os dk _ x y
  refine (closure_any x y _).mono fun _ w' h => ⟨h.1, 0, #[.cells #[.int .i64 x.k, .int .i64 x.v] 32, .cells #[.int .i64 y.k, .int .i64 y.v] 32], ?_⟩
  rw [h.2]
  rfl
theorem grown_sorted {w : World} {g n : Nat} {os : Array Obj} (d : Array Rd) : w.grownBy (sortWorldK Rd.cells 2 w g 0 n d os) (some g) := by
  refine ⟨rfl, rfl, rfl, ?_, fun k hk hne => ?_⟩
  · exact size_sortWorldK_c Rd.cells 2 w g 0 n d os
  · unfold sortWorldK
    rw [Go.Sort.heap_grow_old _ _ (by simpa [putRowK] using hk)]
    have : g ≠ k := fun e => hne (by rw [e])
    simp [putRowK, Go.Sort.putRow, Go.Sort.mapBlock, Go.Sort.ahead, Array.getElem?_modify, this]
theorem sortFunc_any (base n : Nat) (v : Value) (ts : List Rd) (w : World) (hr : w.ownsRow base 32 kindR.K v n (Rw.row kindR ts)) (hn : ts.length ≤ 1000000) :
    Calls Try.prog 29 #[v, .func (.func 38) #[] #[]] w fun e w' => e = .returned (.tuple #[]) ∧ w'.ownsRow base 32 kindR.K v n (Rw.row kindR (sortR ts)) ∧ w.grownBy w' v.ownBlock := by
  have hl : ts.length = n := by have := hr.1; rw [Rw.row_len] at this; exact Nat.eq_of_mul_eq_mul_right kindR.pos this
  rcases hr.2 with ⟨rfl, h0⟩ | ⟨g, cap, cur, rfl, hb, hh, h1, h2, h3, h4⟩
  · have : ts = [] := List.eq_nil_of_length_eq_zero (by omega)
    subst this
    exact (AnyF.slices_SortFunc_none Try.sortRec none 0 _ w).mono fun e w' ⟨he, hw⟩ => ⟨he, by subst hw; exact hr, by subst hw; exact ⟨rfl, rfl, rfl, Nat.le_refl _, fun _ _ _ => rfl⟩⟩
  · have hg : g < w.heap.size := (Array.getElem?_eq_some_iff.1 hh).1
    have hH : HoldsK Rd.cells 2 w g 0 ts.toArray := by
      unfold HoldsK
      rw [flat_rec]
      intro j hj
      have hj' : j < (Rw.row kindR ts).length := by simpa using hj
      refine ⟨?_, by simp [World.frozen?, hh]⟩
      have hc := hr.cells (g := g) rfl j _ (List.getElem?_eq_getElem hj')
      rw [add_zero_off] at hc
      rw [Nat.zero_add, hc, getElem!_pos _ j hj]
      rfl
    have hs := AnyQ.slices_SortFunc_total Try.sortRec 2 Try.isAgg32 Try.sizeOf32 Rd.cells (fun _ => rfl) (fun x v hv => Rw.row_one (κ := kindR) [x] v (by simpa [Rw.row, kindR] using hv)) Rd.C swoR 38 #[] g 0 cap ts.toArray w
      (enters_of Try.func38 (by kernel_rfl) rfl) (cmpLays _ _ _ _) hH hg (by simp; omega) (fun x y hx hy => Rd.Le_antisymm (ltR_not.1 hy) (ltR_not.1 hx))
    rw [show ts.toArray.size = n by simpa using hl] at hs
    refine hs.mono fun e w' ⟨he, m, os, hw⟩ => ⟨he, ?_, by subst hw; exact grown_sorted _⟩
    subst hw
    rw [show ts.toArray.toList = ts by simp, merge_sortR ts]
    have hsl : (sortR ts).length = n := by rw [sortR_perm.length_eq, hl]
    refine ⟨by rw [Rw.row_len, hsl], .inr ⟨g, cap, putCells id 0 (Rw.row kindR (sortR ts)).toArray cur, rfl, hb, ?_, h1, h2, by simp [putCells, h3], ?_⟩⟩
    · unfold sortWorldK
      rw [Go.Sort.heap_grow_old _ _ (by simpa [putRowK] using hg)]
      show (putRowK Rd.cells 2 (Go.Sort.ahead w m) g 0 (sortR ts).toArray).heap[g]? = _
      unfold putRowK
      rw [flat_rec]
      simp [Go.Sort.putRow, Go.Sort.mapBlock, Go.Sort.ahead, Array.getElem?_modify, hh, Go.Sort.onCells]
    · have hlen : (Rw.row kindR (sortR ts)).length = n * 2 := by rw [Rw.row_len, hsl]; rfl
      apply List.ext_getElem?
      intro j
      by_cases hj : j < n * 2
      · rw [List.getElem?_take_of_lt (show j < n * kindR.K from hj), Array.getElem?_toList]
        have : j < cur.size := by have := Nat.mul_le_mul_right 2 h1; have h3' : cur.size = cap * 2 := h3; omega
        simp [putCells, hlen, hj, this]
      · rw [List.getElem?_take_eq_none (show n * kindR.K ≤ j by show n * 2 ≤ j; omega), List.getElem?_eq_none (by omega)]
end Vr
end Go.Proofs.Ytcdofkhkckodjaa
