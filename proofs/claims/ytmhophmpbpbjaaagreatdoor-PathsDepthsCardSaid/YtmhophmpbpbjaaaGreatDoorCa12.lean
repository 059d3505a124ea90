/- MxSort, MxLeast -/
import Derived.Test.YtmhophmpbpbjaaaGreatDoorCa11
import Derived.Test.YtmhophmpbpbjaaaGreatDoorMxShelf
import Derived.Shelf.SlSortCmp.NoneTotal
import Derived.Test.YtmhophmpbpbjaaaGreatDoorCa2
import Derived.Test.YtmhophmpbpbjaaaGreatDoorCa9
namespace Go.Proofs.YtmhophmpbpbjaaaGreatDoor
set_option linter.unusedVariables false
section
namespace Mx
open Go.Sort (grow SWO putCells flatK size_flatK get_flatK putRowK HoldsK)
open Go.ChangeShapes Go.WideShapes Go.ChangeAt Go.RowKit Go.BigFrame Go.Shelf
set_option maxRecDepth 100000
instance : Inhabited Sm := ⟨Sm.zero⟩
theorem grew_grow {W w' : World} (h : Grew W w') : ∃ q os, w' = grow (W.drewN q) os := by
  obtain ⟨⟨h1, h2, h3, h4, h5⟩, h6⟩ := h
  refine ⟨w'.drawn - W.drawn, w'.heap.extract W.heap.size w'.heap.size, ?_⟩
  have hh : w'.heap = W.heap ++ w'.heap.extract W.heap.size w'.heap.size := by
    apply Array.ext_getElem?
    intro k
    rw [Array.getElem?_append]
    split
    · rename_i hk; exact h5 k hk
    · rename_i hk
      rw [Array.getElem?_extract]
      by_cases hk2 : k < w'.heap.size
      · rw [if_pos (by omega), show W.heap.size + (k - W.heap.size) = k by omega]
      · rw [if_neg (by omega), Array.getElem?_eq_none (by omega)]
  have hd : w'.drawn = W.drawn + (w'.drawn - W.drawn) := by omega
  cases w'
  cases W
  simp only at h1 h2 h3 hh hd
  unfold grow World.drewN
  simp only [World.mk.injEq]
  exact ⟨hh, h2, hd, h1, h3⟩
theorem flat_row (ts : List Sm) : flatK Sm.cells 7 ts.toArray = (rowS ts).toArray := by
  apply Array.ext_getElem?
  intro k
  by_cases hk : k < ts.length * 7
  · have h1 : k / 7 < ts.length := by omega
    obtain ⟨t, ht⟩ : ∃ t, ts[k / 7]? = some t := ⟨_, List.getElem?_eq_getElem h1⟩
    obtain ⟨u, hu⟩ : ∃ u, t.cells[k % 7]? = some u := ⟨_, List.getElem?_eq_getElem (by show k % 7 < 7; omega)⟩
    have h2 := rowS_at ts (k / 7) t ht (k % 7) u hu
    rw [show k / 7 * 7 + k % 7 = k by omega] at h2
    have hrhs : (rowS ts).toArray[k]? = some u := by simpa using h2
    rw [hrhs]
    have h3 := get_flatK Sm.cells 7 ts.toArray k (by simpa using hk)
    have h4 : ts.toArray[k / 7]! = t := by
      rw [List.getElem!_toArray, List.getElem!_eq_getElem?_getD, ht]; rfl
    rw [h4, List.getElem!_eq_getElem?_getD, hu] at h3
    have h5 : k < (flatK Sm.cells 7 ts.toArray).size := by rw [size_flatK]; simpa using hk
    rw [getElem!_pos _ k h5] at h3
    rw [Array.getElem?_eq_getElem h5, h3]; rfl
  · rw [Array.getElem?_eq_none (by rw [size_flatK]; simpa using hk), Array.getElem?_eq_none (by simp only [List.size_toArray]; rw [rowS_len]; omega)]
theorem swoC : SWO (ltOf Sm.C) where
  irrefl x := by
    have : x.C x = 0 := Sm.C_zero.2 rfl
    simp [ltOf, this]
  trans x y z h1 h2 := by
    simp only [ltOf, decide_eq_true_eq] at *
    exact Sm.C_lt_trans h1 h2
  ntrans x y z h1 h2 := by
    simp only [ltOf, decide_eq_false_iff_not] at *
    have e1 := Sm.C_swap (a := x) (b := y)
    have e2 := Sm.C_swap (a := y) (b := z)
    have e3 := Sm.C_swap (a := x) (b := z)
    have := Sm.C_trans (a := z) (b := y) (c := x) (by omega) (by omega)
    omega
def sortS (ts : List Sm) : List Sm := ts.mergeSort fun x y => !(ltOf Sm.C) y x
theorem sortS_perm (ts : List Sm) : (sortS ts).Perm ts := List.mergeSort_perm _ _
theorem sortS_rises (ts : List Sm) : (sortS ts).Pairwise fun x y => x.C y ≤ 0 := by
  refine (List.pairwise_mergeSort (le := fun x y => !(ltOf Sm.C) y x) ?_ ?_ ts).imp ?_
  · intro a b c h1 h2
    simp only [ltOf, Bool.not_eq_true', decide_eq_false_iff_not] at *
    have e1 := Sm.C_swap (a := a) (b := b)
    have e2 := Sm.C_swap (a := b) (b := c)
    have e3 := Sm.C_swap (a := a) (b := c)
    have := Sm.C_trans (a := a) (b := b) (c := c) (by omega) (by omega)
    omega
  · intro a b
    have e1 := Sm.C_swap (a := a) (b := b)
    simp only [ltOf, Bool.or_eq_true, Bool.not_eq_true', decide_eq_false_iff_not]
    omega
  · intro a b h
    have e1 := Sm.C_swap (a := a) (b := b)
    simp only [ltOf, Bool.not_eq_true', decide_eq_false_iff_not] at h
    omega
theorem cmpLays (blk off size : Nat) (w : World) : CmpLays Tryz.prog 61 #[] Sm.cells 7 Sm.C blk off size w := by
  intro m os dk _ x y
  exact (compare_grew x y _).mono fun _ _ h => ⟨h.1, grew_grow h.2⟩
theorem grown_sorted {w : World} {g n : Nat} {os : Array Obj} (d : Array Sm) : w.grownBy (sortWorldK Sm.cells 7 w g 0 n d os) (some g) := by
  refine ⟨rfl, rfl, rfl, ?_, fun k hk hne => ?_⟩
  · exact size_sortWorldK_c Sm.cells 7 w g 0 n d os
  · unfold sortWorldK
    rw [Go.Sort.heap_grow_old _ _ (by simpa [putRowK] using hk)]
    have : g ≠ k := fun e => hne (by rw [e])
    simp [putRowK, Go.Sort.putRow, Go.Sort.mapBlock, Go.Sort.ahead, Array.getElem?_modify, this]
theorem sortFunc_any (base n : Nat) (v : Value) (ts : List Sm) (w : World) (hr : w.ownsRow base 44 7 v n (rowS ts)) (hn : ts.length ≤ 5000000) :
    Calls Tryz.prog 112 #[v, .func (.func 61) #[] #[]] w fun e w' => e = .returned (.tuple #[]) ∧ w'.ownsRow base 44 7 v n (rowS (sortS ts)) ∧ w.grownBy w' v.ownBlock := by
  have hl : ts.length = n := by have := hr.1; rw [rowS_len] at this; omega
  rcases hr.2 with ⟨rfl, h0⟩ | ⟨g, cap, cur, rfl, hb, hh, h1, h2, h3, h4⟩
  · have : ts = [] := List.eq_nil_of_length_eq_zero (by omega)
    subst this
    exact (AnyF.slices_SortFunc_none Tryz.sortSum none 0 _ w).mono fun e w' ⟨he, hw⟩ => ⟨he, by subst hw; rw [show sortS [] = [] from List.mergeSort_nil]; exact hr, by subst hw; exact ⟨rfl, rfl, rfl, Nat.le_refl _, fun _ _ _ => rfl⟩⟩
  · have hg : g < w.heap.size := (Array.getElem?_eq_some_iff.1 hh).1
    have hH : HoldsK Sm.cells 7 w g 0 ts.toArray := by
      unfold HoldsK
      rw [flat_row]
      intro j hj
      have hj' : j < (rowS ts).length := by simpa using hj
      refine ⟨?_, by simp [World.frozen?, hh]⟩
      have hc := hr.cells (g := g) rfl j _ (List.getElem?_eq_getElem hj')
      rw [add_zero_off] at hc
      rw [Nat.zero_add, hc, getElem!_pos _ j hj]
      rfl
    have hs := AnyQ.slices_SortFunc_total Tryz.sortSum 7 Tryz.isAgg44 Tryz.sizeOf44 Sm.cells (fun _ => rfl) (fun x v hv => rowS_one [x] v (by simpa [rowS] using hv)) Sm.C swoC 61 #[] g 0 cap ts.toArray w
      (enters_of Tryz.func61 (by kernel_rfl) rfl) (cmpLays _ _ _ _) hH hg (by simp; omega) (fun x y hx hy => by
        simp only [ltOf, decide_eq_false_iff_not] at hx hy
        have e1 := Sm.C_swap (a := x) (b := y)
        exact Sm.C_zero.1 (by omega))
    rw [show ts.toArray.size = n by simpa using hl] at hs
    refine hs.mono fun e w' ⟨he, m, os, hw⟩ => ⟨he, ?_, by subst hw; exact grown_sorted _⟩
    subst hw
    refine ⟨by rw [rowS_len, (sortS_perm ts).length_eq, hl], .inr ⟨g, cap, putCells id 0 (rowS (sortS ts)).toArray cur, rfl, hb, ?_, h1, h2, by simp [putCells, h3], ?_⟩⟩
    · unfold sortWorldK
      rw [Go.Sort.heap_grow_old _ _ (by simpa [putRowK] using hg)]
      show (putRowK Sm.cells 7 (Go.Sort.ahead w m) g 0 (sortS ts).toArray).heap[g]? = _
      unfold putRowK
      rw [flat_row]
      simp [Go.Sort.putRow, Go.Sort.mapBlock, Go.Sort.ahead, Array.getElem?_modify, hh, Go.Sort.onCells]
    · have hlen : (rowS (sortS ts)).length = n * 7 := by rw [rowS_len, (sortS_perm ts).length_eq, hl]
      apply List.ext_getElem?
      intro j
      by_cases hj : j < n * 7
      · rw [List.getElem?_take_of_lt hj, Array.getElem?_toList]
        have : j < cur.size := by have := Nat.mul_le_mul_right 7 h1; omega
        simp [putCells, hlen, hj, this]
      · rw [List.getElem?_take_eq_none (by omega), List.getElem?_eq_none (by omega)]
theorem sortedFunc_any (g N : Nat) (lb : Array Value) (S Sp : List RSm → Prop) (hN : N ≤ 5000000) (hS : ∀ xs, S xs → xs.length ≤ 5000000) (w0 w : World) (hb0 : Below w0.heap.size w0 w) (eg : ∀ args w, (callFunc g args).run Tryz.prog w = .ok (.enter g args) w)
    (hseq : ∀ n, 1 ≤ n → SeqStopsK Fence.wide n Tryz.prog g lb encS KeepsWalks S Sp N w0) :
    Calls Tryz.prog 59 #[.func (.func g) #[] lb, .func (.func 61) #[] #[]] w fun e W' => (∃ v xs, e = .returned v ∧ S xs ∧ W'.ownsRow w.heap.size 44 7 v xs.length (rowS (sortS (raw xs)))) ∧ Below w.heap.size w W' := by
  have H := Lib.hid (collect_any g N lb S Sp hN w0 w hb0 eg hseq)
  have HS := Lib.hid hS
  clear hseq eg hb0 hS
  go_enter Tryz.func59, Tryz.ntmps59
  go_wp2_with fail
  refine (H.out).mono ?_; rintro e w1 ⟨⟨v, xs, rfl, hs, hr⟩, hb⟩
  have hso := sortFunc_any w.heap.size xs.length v (raw xs) w1 hr (by rw [raw_length]; exact HS.out _ hs)
  have hv : ∀ k, v.ownBlock = some k → w.heap.size ≤ k := fun k hk => (hr.lt k hk).1
  have HH := Lib.hid (And.intro hs (And.intro hv hb)); have HSO := Lib.hid hso; clear hs hr hb hso hv H
  dsimp only
  go_wp2_with fail
  refine (HSO.out).mono ?_; rintro e w2 ⟨rfl, hr2, hg⟩
  have H2 := Lib.hid (And.intro hr2 (HH.out.2.2.grown hg HH.out.2.2.size HH.out.2.1)); clear hr2 hg HSO
  dsimp only
  go_wp2_with fail
  go_ret
  exact ⟨⟨v, xs, rfl, HH.out.1, H2.out.1⟩, H2.out.2⟩
theorem own_len {w : World} {base n : Nat} {v : Value} {ts : List Sm} (h : w.ownsRow base 44 7 v n (rowS ts)) : n = ts.length := by
  have := h.1; rw [rowS_len] at this; omega
theorem own_kept {w w' : World} {base n : Nat} {v : Value} {xs : List Value} (h : w.ownsRow base 44 7 v n xs) (hb : Below w.heap.size w w') : w'.ownsRow base 44 7 v n xs := by
  refine h.kept (grown_below hb) ?_
  cases hv : v.ownBlock with
  | none => exact .inl rfl
  | some k => exact .inr (by simp)
end Mx
end

section
namespace Mx
open Go.ChangeShapes Go.WideShapes Go.ChangeAt Go.RowKit Go.BigFrame Go.Shelf
set_option maxRecDepth 100000
theorem L_A {x y : Sm} (h : x.L y) : x = y ∨ x.A y := by
  by_cases e : x = y
  · exact .inl e
  · refine .inr ?_
    rcases Sm.A_total e with h1 | h1
    · exact h1
    · exfalso
      have n0 := Sm.L_at h (i := 0) (by omega) (by omega); have n1 := Sm.L_at h (i := 1) (by omega) (by omega); have n2 := Sm.L_at h (i := 2) (by omega) (by omega)
      obtain ⟨hx, hy, hf, ht, hk, -⟩ := id h
      have hx' := hx; have hy' := hy
      unfold Sm.R at hx' hy'
      unfold Sm.A at h1
      have hkk : x.kp = y.kp := by omega
      have hk4 : x.kp = 0 ∨ x.kp = 1 ∨ x.kp = 2 ∨ x.kp = 3 := by omega
      unfold Sm.N Sm.tl at n0 n1 n2
      rw [← hkk] at n0 n1 n2
      rcases hk4 with e | e | e | e <;> rw [e] at n0 n1 n2 <;> simp at n0 n1 n2 <;> omega
def take1 (f : List Sm) (t : Sm) : List Sm := if (f.any fun x => decide (x.L t)) then f else f ++ [t]
def greedy (ds : List Sm) : List Sm := ds.foldl take1 []
theorem greedy_snoc (ds : List Sm) (t : Sm) : greedy (ds ++ [t]) = take1 (greedy ds) t := by simp [greedy]
structure Gr (ds us : List Sm) : Prop where
  sub : us.Sublist ds
  all : ∀ x ∈ ds, ∃ y ∈ us, y.L x
  least : ∀ x ∈ us, ∀ y ∈ ds, y.L x → y = x
theorem Gr.step {ds us : List Sm} {t : Sm} (h : Gr ds us) (hR : t.R) (hs : ∀ x ∈ ds, x.C t < 0) : Gr (ds ++ [t]) (take1 us t) := by
  have hno : ∀ x ∈ us, ¬ t.L x := fun x hx hl => by
    have h1 := hs x (h.sub.subset hx)
    rcases L_A hl with e | e
    · subst e
      have := (Sm.C_zero (a := t) (b := t)).2 rfl
      omega
    · have h2 := C_neg.2 e
      have h3 := Sm.C_swap (a := t) (b := x)
      omega
  unfold take1
  split
  · rename_i ha
    obtain ⟨u, hu, hl⟩ := List.any_eq_true.1 ha
    have hl : u.L t := by simpa using hl
    refine ⟨h.sub.trans (List.sublist_append_left _ _), fun x hx => ?_, fun x hx y hy hyx => ?_⟩
    · rcases List.mem_append.1 hx with hx | hx
      · exact h.all x hx
      · rw [List.mem_singleton] at hx; subst hx; exact ⟨u, hu, hl⟩
    · rcases List.mem_append.1 hy with hy | hy
      · exact h.least x hx y hy hyx
      · rw [List.mem_singleton] at hy; subst hy; exact absurd hyx (hno x hx)
  · rename_i ha
    have ha : ∀ u ∈ us, ¬ u.L t := fun u hu hl => ha (List.any_eq_true.2 ⟨u, hu, by simpa using hl⟩)
    refine ⟨h.sub.append (List.Sublist.refl _), fun x hx => ?_, fun x hx y hy hyx => ?_⟩
    · rcases List.mem_append.1 hx with hx | hx
      · obtain ⟨y, hy, hl⟩ := h.all x hx
        exact ⟨y, List.mem_append_left _ hy, hl⟩
      · rw [List.mem_singleton] at hx; subst hx; exact ⟨x, List.mem_append_right _ (by simp), Sm.L_refl.2 hR⟩
    · rcases List.mem_append.1 hx with kx | kx <;> rcases List.mem_append.1 hy with ky | ky
      · exact h.least x kx y ky hyx
      · rw [List.mem_singleton] at ky; rw [ky] at hyx; exact absurd hyx (hno x kx)
      · rw [List.mem_singleton] at kx; rw [kx] at hyx
        obtain ⟨u, hu, hl⟩ := h.all y ky
        exact absurd (Sm.L_trans hl hyx) (ha u hu)
      · rw [List.mem_singleton] at kx ky; rw [kx, ky]
theorem gr_greedy : ∀ (n : Nat) (ds : List Sm), ds.length = n → (∀ x ∈ ds, x.R) → ds.Pairwise (fun x y => x.C y < 0) → Gr ds (greedy ds) := by
  intro n
  induction n with
  | zero =>
    intro ds hl _ _
    have := List.eq_nil_of_length_eq_zero hl
    subst this
    exact ⟨List.Sublist.refl _, by simp, by simp [greedy]⟩
  | succ n ih =>
    intro ds hl hR hp
    rcases List.eq_nil_or_concat ds with rfl | ⟨es, t, rfl⟩
    · simp at hl
    · rw [List.concat_eq_append] at *
      rw [List.pairwise_append] at hp
      rw [greedy_snoc]
      exact (ih es (by simpa using hl) (fun x hx => hR x (List.mem_append_left _ hx)) hp.1).step (hR t (by simp)) (fun x hx => hp.2.2 x hx t (by simp))
theorem greedy_len : ∀ (n : Nat) (ds : List Sm), ds.length = n → (greedy ds).length ≤ n := by
  intro n
  induction n with
  | zero => intro ds hl; have := List.eq_nil_of_length_eq_zero hl; subst this; simp [greedy]
  | succ n ih =>
    intro ds hl
    rcases List.eq_nil_or_concat ds with rfl | ⟨es, t, rfl⟩
    · simp at hl
    · rw [List.concat_eq_append] at *
      rw [greedy_snoc]
      have := ih es (by simpa using hl)
      unfold take1
      split
      · omega
      · simp; omega
theorem least_is {l E : List Sm} {xs : List RSm} (hE : ∀ t, t ∈ E ↔ t ∈ l ∧ t.R) (hx : AllOf E xs) : greedy (sortS (raw xs)) = waysS l := by
  have hp := sortS_perm (raw xs)
  have hm : ∀ t, t ∈ sortS (raw xs) ↔ t ∈ l ∧ t.R := fun t => hp.mem_iff.trans ((hx.2 t).trans (hE t))
  have hnd : (sortS (raw xs)).Nodup := hp.nodup_iff.2 hx.1
  have hR : ∀ x ∈ sortS (raw xs), x.R := fun x h => ((hm x).1 h).2
  have hs : (sortS (raw xs)).Pairwise fun x y => x.C y < 0 := by
    refine (List.Pairwise.and (sortS_rises (raw xs)) hnd).imp ?_
    rintro x y ⟨h1, h2⟩
    rcases Int.lt_or_eq_of_le h1 with h3 | h3
    · exact h3
    · exact absurd (Sm.C_zero.1 h3) h2
  have hg := gr_greedy _ (sortS (raw xs)) rfl hR hs
  refine waysS_eq ((hs.sublist hg.sub).imp fun h => C_neg.1 h) fun x => ?_
  constructor
  · intro h
    have h1 := (hm x).1 (hg.sub.subset h)
    exact ⟨h1.1, h1.2, fun z hz hl => hg.least x h z ((hm z).2 ⟨hz, hl.1⟩) hl⟩
  · rintro ⟨h1, h2, h3⟩
    obtain ⟨y, hy, hl⟩ := hg.all x ((hm x).2 ⟨h1, h2⟩)
    have := h3 y ((hm y).1 (hg.sub.subset hy)).1 hl
    rwa [this] at hy
theorem aheadC (B : Nat) (t : Sm) (w : World) (hB : Holds w B t) : Tells 62 #[.pointer (some ⟨B, 0, none⟩)] (fun x => decide (x.L t)) w := by
  intro W x hb
  show Calls _ _ #[x.v, .pointer (some ⟨B, 0, none⟩)] _ (fun e w' => e = .returned (.bool (decide (x.L t))) ∧ Below W.heap.size W w')
  have h : Holds W B t := HoldsM.below hB hb
  have hc := fun w => leqM_any x t w
  generalize decide (x.L t) = v at *
  have hl : B < W.heap.size := HoldsM.lt h
  obtain ⟨c0, c1, c2, c3, c4, c5, c6⟩ := h.cells5
  unfold Sm.v at *
  have HC := Lib.hid hc; clear hc h hB hb
  go_enter Tryz.func62, Tryz.ntmps62
  go_wp2_with fail
  refine (HC.out _).mono ?_; rintro e w1 ⟨rfl, hb1⟩
  have HB1 := Lib.hid hb1; clear hb1 c0 c1 c2 c3 c4 c5 c6
  go_wp2_with fail
  go_ret
  exact ⟨rfl, ((Below.refl _ _).alloc (Nat.le_refl _) _).trans (HB1.out.mono (by simp))⟩
theorem putK_len (t : Sm) (E : List Sm) : (putK t E).length ≤ E.length + 1 := by
  unfold putK
  rw [List.length_cons]
  have := List.length_filter_le (fun u => decide (u ≠ t)) E
  omega
set_option maxHeartbeats 4000000 in
theorem least_any (A : Option Addr) (l : List Sm) (c : Nat) (w : World) (hT : Ts w A l) (hl : l.length ≤ 5000000) :
    Calls Tryz.prog 30 #[.slice A l.length c] w fun e W' => (∃ v, e = .returned v ∧ W'.ownsRow w.heap.size 44 7 v (waysS l).length (rowS (waysS l))) ∧ Below w.heap.size w W' := by
  have hm0 := MapK.made w
  have hb0 : Below w.heap.size w (w.alloc (.map #[] 0)) := (Below.refl _ _).alloc (Nat.le_refl _) _
  have hmm := @run_makeMap Tryz.prog
  have HT := Lib.hid hT; have HM0 := Lib.hid hm0; have HB0 := Lib.hid hb0; clear hT hm0 hb0
  go_enter Tryz.func30, Tryz.ntmps30
  go_wp2_with fail
  clear hmm
  go_loopw [13] (fun i wr => ∃ (k N : Nat) (E : List Sm), k ≤ l.length ∧ i = .int .i64 k ∧ MapK wr w.heap.size N E ∧ N ≤ k ∧ E.length ≤ k ∧ (∀ t, t ∈ E ↔ t ∈ l.take k ∧ t.R) ∧ Below w.heap.size w wr) (fun i _ => l.length - (intOf i).toNat)
  case atStart => exact ⟨0, 0, [], by omega, rfl, HM0.out, by omega, by simp, by simp, HB0.out⟩
  case round =>
    obtain ⟨k, N, E, hk, rfl, hM, hN, hE1, hE, hbw⟩ := hrel
    by_cases hlt : k < l.length
    · obtain ⟨t, ht⟩ : ∃ t, l[k]? = some t := ⟨_, List.getElem?_eq_getElem hlt⟩
      obtain ⟨b, o, rfl, hbl, h5⟩ := HT.out.five ht
      obtain ⟨c0, c1, c2, c3, c4, c5, c6⟩ := h5 wr hbw
      have hbx := Holds.made wr t
      have hM2 := hM.alloc (.cells #[.int .i64 t.fr, .int .i64 t.to, .int .i64 t.kp, .int .i64 t.ad, .int .i64 t.t0, .int .i64 t.t1, .int .i64 t.t2] 44)
      have hb2 := hbw.alloc hbw.size (.cells #[.int .i64 t.fr, .int .i64 t.to, .int .i64 t.kp, .int .i64 t.ad, .int .i64 t.t0, .int .i64 t.t1, .int .i64 t.t2] 44)
      have hltz : (k : Int) < (l.length : Int) := by omega
      have hnext : ∀ u, u ∈ l.take (k + 1) ↔ u ∈ l.take k ∨ u = t := fun u => by rw [List.take_add_one, ht, Option.toList, List.mem_append, List.mem_singleton]
      have hsz := hbw.size
      have HN := Lib.hid hnext; have HE := Lib.hid hE; have HM := Lib.hid hM2; have HB := Lib.hid hb2; have HX := Lib.hid hbx; have HS := Lib.hid hsz
      by_cases hR : t.R
      · have hc := fun w => rightM_true hR w
        unfold Sm.v at hc
        have HC := Lib.hid hc; have HR := Lib.hid hR
        clear hc hR hM hM2 hb2 hbx hbl h5 hnext hE hbw ht hsz
        go_wp2_with fail
        clear c0 c1 c2 c3 c4 c5 c6
        generalize wr.alloc (.cells #[.int .i64 t.fr, .int .i64 t.to, .int .i64 t.kp, .int .i64 t.ad, .int .i64 t.t0, .int .i64 t.t1, .int .i64 t.t2] 44) = w1 at *
        generalize wr.heap.size = g at *
        refine (HC.out _).mono ?_; rintro e w2 ⟨rfl, hb⟩
        dsimp only
        have hX : Holds w2 g t := HoldsM.below HX.out hb
        have hM3 : MapK w2 w.heap.size N E := HM.out.kept (grown_below hb) (by simp)
        have hb3 := HB.out.trans (hb.mono HB.out.size)
        obtain ⟨w5, hrun, hM5, hg5⟩ := hM3.store (by unfold maxLen; omega) HR.out
        have hb5 : Below w.heap.size w w5 := hb3.grown hg5 hb3.size (fun j e => by cases e; exact Nat.le_refl _)
        obtain ⟨c0, c1, c2, c3, c4, c5, c6⟩ := hX.cells5
        have H5 := Lib.hid (And.intro hM5 hb5)
        unfold Sm.v at hrun
        clear hX hM3 hb3 hM5 hg5 hb5 hb HM HB HX
        go_wp2_with fail
        go_roundw
        case rel =>
          refine ⟨k + 1, N + 1, putK t E, by omega, by simp, H5.out.1, by omega, Nat.le_trans (putK_len t E) (by omega), fun u => ?_, H5.out.2⟩
          rw [mem_putK, HE.out, HN.out]
          constructor
          · rintro (e | ⟨h1, h2⟩)
            · subst e; exact ⟨.inr rfl, HR.out⟩
            · exact ⟨.inl h1, h2⟩
          · rintro ⟨h1 | h1, h2⟩
            · exact .inr ⟨h1, h2⟩
            · exact .inl h1
        case measure => simp only [intOf]; omega
      · have hc := fun w => rightM_false hR w
        unfold Sm.v at hc
        have HC := Lib.hid hc; have HR := Lib.hid hR
        clear hc hR hM hM2 hb2 hbx hbl h5 hnext hE hbw ht hsz
        go_wp2_with fail
        clear c0 c1 c2 c3 c4 c5 c6
        generalize wr.alloc (.cells #[.int .i64 t.fr, .int .i64 t.to, .int .i64 t.kp, .int .i64 t.ad, .int .i64 t.t0, .int .i64 t.t1, .int .i64 t.t2] 44) = w1 at *
        generalize wr.heap.size = g at *
        refine (HC.out _).mono ?_; rintro e w2 ⟨rfl, hb⟩
        dsimp only
        have hM3 : MapK w2 w.heap.size N E := HM.out.kept (grown_below hb) (by simp)
        have hb3 := HB.out.trans (hb.mono HB.out.size)
        have H5 := Lib.hid (And.intro hM3 hb3)
        clear hM3 hb3 hb HM HB HX
        go_wp2_with fail
        go_roundw
        case rel =>
          refine ⟨k + 1, N, E, by omega, by simp, H5.out.1, by omega, by omega, fun u => ?_, H5.out.2⟩
          rw [HE.out, HN.out]
          constructor
          · rintro ⟨h1, h2⟩; exact ⟨.inl h1, h2⟩
          · rintro ⟨h1 | h1, h2⟩
            · exact ⟨h1, h2⟩
            · subst h1; exact absurd h2 HR.out
        case measure => simp only [intOf]; omega
    · have hkn : k = l.length := by omega
      have hEl : ∀ t, t ∈ E ↔ t ∈ l ∧ t.R := fun t => by rw [hE, hkn, List.take_length]
      have hge : ¬ (k : Int) < (l.length : Int) := by omega
      have hE2 : E.length ≤ 5000000 := by omega
      have HM := Lib.hid (And.intro hM hEl); have HB1 := Lib.hid hbw
      have hmk := mkeys_any (some w.heap.size) wr
      have HMK := Lib.hid hmk
      have hnd := hM.2.2
      clear hM hE hbw hEl hE1 hN hmk
      go_wp2_with fail
      refine (HMK.out).mono ?_; rintro e w2 ⟨rfl, rfl⟩
      dsimp only
      have hlenE : ∀ ys : List RSm, AllOf E ys → ys.length = E.length := fun ys hy => by
        have h1 : (raw ys).Perm E := (List.perm_ext_iff_of_nodup hy.1 hnd).2 hy.2
        have h2 := h1.length_eq
        rw [raw_length] at h2; exact h2
      have hso := sortedFunc_any 113 E.length #[.pointer (some ⟨wr.heap.size, 0, none⟩)] (AllOf E) (fun _ => True) hE2
        (fun ys hy => by rw [hlenE ys hy]; exact hE2)
        _ (wr.alloc (.cells #[.map (some w.heap.size)] 96)) (Below.refl _ _) (enters_of Tryz.func113 (by kernel_rfl) rfl)
        (fun n hn => keysC_some n hn wr.heap.size w.heap.size N E _ (BoxAt.made wr _ _) (HM.out.1.alloc _))
      have HSO := Lib.hid hso; have HLE := Lib.hid hlenE; clear hso hlenE HMK
      go_wp2_with fail
      refine (HSO.out).mono ?_; rintro e w3 ⟨⟨v, ys, rfl, hys, hr⟩, hb3⟩
      dsimp only
      have hylen : (sortS (raw ys)).length ≤ 5000000 := by
        rw [(sortS_perm _).length_eq, raw_length, HLE.out ys hys]; exact hE2
      have hfin := least_is HM.out.2 hys
      have hB3 : Below w.heap.size w w3 := (HB1.out.alloc HB1.out.size _).trans (hb3.mono (by have := HB1.out.size; simp; omega))
      obtain ⟨A, c, rfl, hT, hle, _⟩ := Times.of_own hr
      rw [own_len hr] at *
      have hT := Ts.of hT
      generalize sortS (raw ys) = ds at *
      have HFIN := Lib.hid hfin; have HT2 := Lib.hid hT; have HB3 := Lib.hid hB3; clear hfin hT hB3 hr hb3 HSO hys HM HB1 HT HLE hle hge hnd
      go_wp2_with fail
      go_loopw [6, 27] (fun fv i wr => ∃ k : Nat, k ≤ ds.length ∧ i = .int .i64 k ∧ Below w3.heap.size w3 wr ∧ wr.ownsRow w3.heap.size 44 7 fv (greedy (ds.take k)).length (rowS (greedy (ds.take k)))) (fun _ i _ => ds.length - (intOf i).toNat)
      case atStart => exact ⟨0, Nat.zero_le _, rfl, Below.refl _ _, World.ownsRow_nil _ _ _ _⟩
      case round =>
        obtain ⟨k, hk, rfl, hbw, hro⟩ := hrel
        obtain ⟨B, c', rfl, hTu, hle, hcm⟩ := Times.of_own hro
        have hgl : (greedy (ds.take k)).length ≤ k := greedy_len _ _ (by rw [List.length_take]; omega)
        by_cases hlt : k < ds.length
        · obtain ⟨t, ht⟩ : ∃ t, ds[k]? = some t := ⟨_, List.getElem?_eq_getElem hlt⟩
          have hnext : greedy (ds.take (k + 1)) = take1 (greedy (ds.take k)) t := by rw [List.take_add_one, ht, Option.toList, greedy_snoc]
          generalize greedy (ds.take k) = us at *
          obtain ⟨b, o, rfl, hbl, h5⟩ := HT2.out.five ht
          obtain ⟨c0, c1, c2, c3, c4, c5, c6⟩ := h5 wr hbw
          have hrch := containsFunc_any B us c' 62 #[.pointer (some ⟨wr.heap.size, 0, none⟩)] (fun x => decide (x.L t)) _ ((Ts.of hTu).below ((Below.refl wr.heap.size wr).alloc (Nat.le_refl _) (.cells #[.int .i64 t.fr, .int .i64 t.to, .int .i64 t.kp, .int .i64 t.ad, .int .i64 t.t0, .int .i64 t.t1, .int .i64 t.t2] 44))) (by omega) (enters_of Tryz.func62 (by kernel_rfl) rfl) (fun _ => aheadC wr.heap.size t _ (Holds.made wr t))
          have hbx := Holds.made wr t
          have hsz := hbw.size
          cases hv : (us.any fun x => decide (x.L t)) with
          | true =>
            have e1 : take1 us t = us := by unfold take1; rw [if_pos hv]
            rw [hv] at hrch
            rw [e1] at hnext
            have HR := Lib.hid hrch; have HN := Lib.hid hnext; have HO := Lib.hid (And.intro hbw hro)
            clear hrch hnext hbw hro hTu ht h5 hbl hv e1 hbx
            unfold Sm.v at *
            go_wp2_with fail
            refine (HR.out).mono ?_; rintro e w4 ⟨rfl, hb4⟩
            have hb5 : Below wr.heap.size wr w4 := ((Below.refl _ _).alloc (Nat.le_refl _) _).trans (hb4.mono (by simp))
            have HB5 := Lib.hid hb5; clear hb4 hb5 c0 c1 c2 c3 c4 c5 c6 HR
            go_wp2_with fail
            go_roundw
            case rel => exact ⟨k + 1, by omega, by simp, HO.out.1.trans (HB5.out.mono hsz), by rw [HN.out]; exact own_kept HO.out.2 HB5.out⟩
            case measure => simp only [intOf]; omega
          | false =>
            have e1 : take1 us t = us ++ [t] := by unfold take1; rw [if_neg (by rw [hv]; simp)]
            rw [hv] at hrch
            rw [e1] at hnext
            have HR := Lib.hid hrch; have HN := Lib.hid hnext; have HO := Lib.hid (And.intro hbw hro); have HX := Lib.hid hbx
            clear hrch hnext hbw hro hTu ht h5 hbl hv e1 hbx
            unfold Sm.v at *
            go_wp2_with fail
            refine (HR.out).mono ?_; rintro e w4 ⟨rfl, hb4⟩
            have hb5 : Below wr.heap.size wr w4 := ((Below.refl _ _).alloc (Nat.le_refl _) _).trans (hb4.mono (by simp))
            have hx4 : Holds w4 wr.heap.size t := HoldsM.below HX.out hb4
            have hl4 : wr.heap.size < w4.heap.size := HoldsM.lt hx4
            have hs5 := hb5.size
            have hoA := (own_kept HO.out.2 hb5).alloc (.cells #[.int .i64 t.fr, .int .i64 t.to, .int .i64 t.kp, .int .i64 t.ad, .int .i64 t.t0, .int .i64 t.t1, .int .i64 t.t2] 44)
            have hTA := Times.made w4 [t]
            have hba : Below w3.heap.size w3 (w4.alloc (.cells #[.int .i64 t.fr, .int .i64 t.to, .int .i64 t.kp, .int .i64 t.ad, .int .i64 t.t0, .int .i64 t.t1, .int .i64 t.t2] 44)) := (HO.out.1.trans (hb5.mono hsz)).alloc (by omega) _
            have hbs := hba.size
            obtain ⟨d0, d1, d2, d3, d4, d5, d6⟩ := hx4.cells5
            have HBA := Lib.hid hba; clear hb4 hb5 c0 c1 c2 c3 c4 c5 c6 HR hx4 hba
            go_wp2_with (at_builtin; refine wpList_append_times rfl _ _ rfl w3.heap.size _ us.length us rfl hoA ⟨w4.heap.size, 0, none⟩ 1 [t] rfl (by simp) hTA (by simp; omega) hbs ?_; intro v' w5 hown' hgr')
            have hb6 := own_belowS hoA hgr' HBA.out hbs
            have H6 := Lib.hid (And.intro hown' hb6); clear hown' hgr' hoA hTA hb6 d0 d1 d2 d3 d4 d5 d6
            go_wp2_with fail
            go_roundw
            case rel => exact ⟨k + 1, by omega, by simp, H6.out.2, by rw [HN.out]; simpa using H6.out.1⟩
            case measure => simp only [intOf]; omega
        · have hk' : k = ds.length := by omega
          have hfin : greedy (ds.take k) = waysS l := by rw [hk', List.take_length]; exact HFIN.out
          rw [hfin] at hro ⊢
          have HO := Lib.hid (And.intro hbw hro); clear hbw hro hTu hfin
          go_wp2_with fail
          go_ret
          refine ⟨⟨_, rfl, ?_⟩, HB3.out.trans (HO.out.1.mono HB3.out.size)⟩
          obtain ⟨h1, h2⟩ := HO.out.2
          refine ⟨h1, ?_⟩
          rcases h2 with h2 | ⟨g', cap, cur, hv, hb', h3⟩
          · exact .inl h2
          · exact .inr ⟨g', cap, cur, hv, Nat.le_trans HB3.out.size hb', h3⟩
end Mx
end
end Go.Proofs.YtmhophmpbpbjaaaGreatDoor
