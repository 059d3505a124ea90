/- FrSort, FrFirst -/
import Derived.Test.YtkbabmifdfmhlaaFrEarlyA
import Derived.Test.YtkbabmifdfmhlaaShelf
import Derived.Shelf.SlSortCmp.NoneTotal
namespace Go.Proofs.Ytkbabmifdfmhlaa
set_option linter.unusedVariables false
section
open Go.ChangeShapes Go.WideShapes Go.ChangeAt Go.RowKit Go.BigFrame Go.Shelf
open Go.Sort (grow SWO putCells flatK size_flatK get_flatK putRowK HoldsK)
set_option maxRecDepth 100000
instance : Inhabited St := ⟨St.zero⟩
theorem grew_grow {W w' : World} (h : Grew W w') : ∃ q os, w' = grow (W.drewN q) os := by
  obtain ⟨⟨h1, h2, h3, h4, h5⟩, h6⟩ := h
  refine ⟨w'.drawn - W.drawn, w'.heap.extract W.heap.size w'.heap.size, ?_⟩
  have hh : w'.heap = W.heap ++ w'.heap.extract W.heap.size w'.heap.size := by
    apply Array.ext_getElem?
    intro k
    rw [Array.getElem?_append]
    split
    · rename_i hk; exact h5 k hk
    · rename_i hk
      rw [Array.getElem?_extract]
      by_cases hk2 : k < w'.heap.size
      · rw [if_pos (by omega), show W.heap.size + (k - W.heap.size) = k by omega]
      · rw [if_neg (by omega), Array.getElem?_eq_none (by omega)]
  have hd : w'.drawn = W.drawn + (w'.drawn - W.drawn) := by omega
  cases w'
  cases W
  simp only at h1 h2 h3 hh hd
  unfold grow World.drewN
  simp only [World.mk.injEq]
  exact ⟨hh, h2, hd, h1, h3⟩
theorem flat_row (ts : List St) : flatK St.cells 5 ts.toArray = (rowS ts).toArray := by
  apply Array.ext_getElem?
  intro k
  by_cases hk : k < ts.length * 5
  · have h1 : k / 5 < ts.length := by omega
    obtain ⟨t, ht⟩ : ∃ t, ts[k / 5]? = some t := ⟨_, List.getElem?_eq_getElem h1⟩
    obtain ⟨u, hu⟩ : ∃ u, t.cells[k % 5]? = some u := ⟨_, List.getElem?_eq_getElem (by show k % 5 < 5; omega)⟩
    have h2 := rowS_at ts (k / 5) t ht (k % 5) u hu
    rw [show k / 5 * 5 + k % 5 = k by omega] at h2
    have hrhs : (rowS ts).toArray[k]? = some u := by simpa using h2
    rw [hrhs]
    have h3 := get_flatK St.cells 5 ts.toArray k (by simpa using hk)
    have h4 : ts.toArray[k / 5]! = t := by
      rw [List.getElem!_toArray, List.getElem!_eq_getElem?_getD, ht]; rfl
    rw [h4, List.getElem!_eq_getElem?_getD, hu] at h3
    have h5 : k < (flatK St.cells 5 ts.toArray).size := by rw [size_flatK]; simpa using hk
    rw [getElem!_pos _ k h5] at h3
    rw [Array.getElem?_eq_getElem h5, h3]; rfl
  · rw [Array.getElem?_eq_none (by rw [size_flatK]; simpa using hk), Array.getElem?_eq_none (by simp only [List.size_toArray]; rw [rowS_len]; omega)]
theorem swoC : SWO (ltOf St.C) where
  irrefl x := by
    have : x.C x = 0 := St.C_zero.2 rfl
    simp [ltOf, this]
  trans x y z h1 h2 := by
    simp only [ltOf, decide_eq_true_eq] at *
    exact St.C_lt_trans h1 h2
  ntrans x y z h1 h2 := by
    simp only [ltOf, decide_eq_false_iff_not] at *
    have e1 := St.C_swap (a := x) (b := y)
    have e2 := St.C_swap (a := y) (b := z)
    have e3 := St.C_swap (a := x) (b := z)
    have := St.C_trans (a := z) (b := y) (c := x) (by omega) (by omega)
    omega
/-- the rows as they rise -/
def sortS (ts : List St) : List St := ts.mergeSort fun x y => !(ltOf St.C) y x
theorem sortS_perm (ts : List St) : (sortS ts).Perm ts := List.mergeSort_perm _ _
theorem sortS_rises (ts : List St) : (sortS ts).Pairwise fun x y => x.C y ≤ 0 := by
  refine (List.pairwise_mergeSort (le := fun x y => !(ltOf St.C) y x) ?_ ?_ ts).imp ?_
  · intro a b c h1 h2
    simp only [ltOf, Bool.not_eq_true', decide_eq_false_iff_not] at *
    have e1 := St.C_swap (a := a) (b := b)
    have e2 := St.C_swap (a := b) (b := c)
    have e3 := St.C_swap (a := a) (b := c)
    have := St.C_trans (a := a) (b := b) (c := c) (by omega) (by omega)
    omega
  · intro a b
    have e1 := St.C_swap (a := a) (b := b)
    simp only [ltOf, Bool.or_eq_true, Bool.not_eq_true', decide_eq_false_iff_not]
    omega
  · intro a b h
    have e1 := St.C_swap (a := a) (b := b)
    simp only [ltOf, Bool.not_eq_true', decide_eq_false_iff_not] at h
    omega
theorem cmpLays (blk off size : Nat) (w : World) : CmpLays Try.prog 41 #[] St.cells 5 St.C blk off size w := by
  intro m os dk _ x y
  exact (compare_grew x y _).mono fun _ _ h => ⟨h.1, grew_grow h.2⟩
theorem grown_sorted {w : World} {g n : Nat} {os : Array Obj} (d : Array St) : w.grownBy (sortWorldK St.cells 5 w g 0 n d os) (some g) := by
  refine ⟨rfl, rfl, rfl, ?_, fun k hk hne => ?_⟩
  · exact size_sortWorldK_c St.cells 5 w g 0 n d os
  · unfold sortWorldK
    rw [Go.Sort.heap_grow_old _ _ (by simpa [putRowK] using hk)]
    have : g ≠ k := fun e => hne (by rw [e])
    simp [putRowK, Go.Sort.putRow, Go.Sort.mapBlock, Go.Sort.ahead, Array.getElem?_modify, this]
theorem sortFunc_any (base n : Nat) (v : Value) (ts : List St) (w : World) (hr : w.ownsRow base 25 5 v n (rowS ts)) (hn : ts.length ≤ 1000) :
    Calls Try.prog 66 #[v, .func (.func 41) #[] #[]] w fun e w' => e = .returned (.tuple #[]) ∧ w'.ownsRow base 25 5 v n (rowS (sortS ts)) ∧ w.grownBy w' v.ownBlock := by
  have hl : ts.length = n := by have := hr.1; rw [rowS_len] at this; omega
  rcases hr.2 with ⟨rfl, h0⟩ | ⟨g, cap, cur, rfl, hb, hh, h1, h2, h3, h4⟩
  · have : ts = [] := List.eq_nil_of_length_eq_zero (by omega)
    subst this
    exact (AnyF.slices_SortFunc_none Try.sortStamp none 0 _ w).mono fun e w' ⟨he, hw⟩ => ⟨he, by subst hw; rw [show sortS [] = [] from List.mergeSort_nil]; exact hr, by subst hw; exact ⟨rfl, rfl, rfl, Nat.le_refl _, fun _ _ _ => rfl⟩⟩
  · have hg : g < w.heap.size := (Array.getElem?_eq_some_iff.1 hh).1
    have hH : HoldsK St.cells 5 w g 0 ts.toArray := by
      unfold HoldsK
      rw [flat_row]
      intro j hj
      have hj' : j < (rowS ts).length := by simpa using hj
      refine ⟨?_, by simp [World.frozen?, hh]⟩
      have hc := hr.cells (g := g) rfl j _ (List.getElem?_eq_getElem hj')
      rw [add_zero_off] at hc
      rw [Nat.zero_add, hc, getElem!_pos _ j hj]
      rfl
    have hs := AnyQ.slices_SortFunc_total Try.sortStamp 5 Try.isAgg25 Try.sizeOf25 St.cells (fun _ => rfl) (fun x v hv => rowS_one [x] v (by simpa [rowS] using hv)) St.C swoC 41 #[] g 0 cap ts.toArray w
      (enters_of Try.func41 (by kernel_rfl) rfl) (cmpLays _ _ _ _) hH hg (by simp; omega) (fun x y hx hy => by
        simp only [ltOf, decide_eq_false_iff_not] at hx hy
        have e1 := St.C_swap (a := x) (b := y)
        exact St.C_zero.1 (by omega))
    rw [show ts.toArray.size = n by simpa using hl] at hs
    refine hs.mono fun e w' ⟨he, m, os, hw⟩ => ⟨he, ?_, by subst hw; exact grown_sorted _⟩
    subst hw
    refine ⟨by rw [rowS_len, (sortS_perm ts).length_eq, hl], .inr ⟨g, cap, putCells id 0 (rowS (sortS ts)).toArray cur, rfl, hb, ?_, h1, h2, by simp [putCells, h3], ?_⟩⟩
    · unfold sortWorldK
      rw [Go.Sort.heap_grow_old _ _ (by simpa [putRowK] using hg)]
      show (putRowK St.cells 5 (Go.Sort.ahead w m) g 0 (sortS ts).toArray).heap[g]? = _
      unfold putRowK
      rw [flat_row]
      simp [Go.Sort.putRow, Go.Sort.mapBlock, Go.Sort.ahead, Array.getElem?_modify, hh, Go.Sort.onCells]
    · have hlen : (rowS (sortS ts)).length = n * 5 := by rw [rowS_len, (sortS_perm ts).length_eq, hl]
      apply List.ext_getElem?
      intro j
      by_cases hj : j < n * 5
      · rw [List.getElem?_take_of_lt hj, Array.getElem?_toList]
        have : j < cur.size := by have := Nat.mul_le_mul_right 5 h1; omega
        simp [putCells, hlen, hj, this]
      · rw [List.getElem?_take_eq_none (by omega), List.getElem?_eq_none (by omega)]
end

section
open Go.ChangeShapes Go.WideShapes Go.ChangeAt Go.RowKit Go.BigFrame Go.Shelf
set_option maxRecDepth 100000
theorem sortedFunc_any (g N : Nat) (lb : Array Value) (S Sp : List RSt → Prop) (hN : N ≤ 1000) (hS : ∀ xs, S xs → xs.length ≤ 1000) (w0 w : World) (hb0 : Below w0.heap.size w0 w) (eg : ∀ args w, (callFunc g args).run Try.prog w = .ok (.enter g args) w)
    (hseq : ∀ n, 1 ≤ n → SeqStopsK Fence.wide n Try.prog g lb encS KeepsWalks S Sp N w0) :
    Calls Try.prog 39 #[.func (.func g) #[] lb, .func (.func 41) #[] #[]] w fun e W' => (∃ v xs, e = .returned v ∧ S xs ∧ W'.ownsRow w.heap.size 25 5 v xs.length (rowS (sortS (raw xs)))) ∧ Below w.heap.size w W' := by
  have H := Lib.hid (collect_any g N lb S Sp hN w0 w hb0 eg hseq)
  have HS := Lib.hid hS
  clear hseq eg hb0 hS
  go_enter Try.func39, Try.ntmps39
  go_wp2_with fail
  refine (H.out).mono ?_; rintro e w1 ⟨⟨v, xs, rfl, hs, hr⟩, hb⟩
  have hso := sortFunc_any w.heap.size xs.length v (raw xs) w1 hr (by rw [raw_length]; exact HS.out _ hs)
  have hv : ∀ k, v.ownBlock = some k → w.heap.size ≤ k := fun k hk => (hr.lt k hk).1
  have HH := Lib.hid (And.intro hs (And.intro hv hb)); have HSO := Lib.hid hso; clear hs hr hb hso hv H
  dsimp only
  go_wp2_with fail
  refine (HSO.out).mono ?_; rintro e w2 ⟨rfl, hr2, hg⟩
  have H2 := Lib.hid (And.intro hr2 (HH.out.2.2.grown hg HH.out.2.2.size HH.out.2.1)); clear hr2 hg HSO
  dsimp only
  go_wp2_with fail
  go_ret
  exact ⟨⟨v, xs, rfl, HH.out.1, H2.out.1⟩, H2.out.2⟩
/-- one by one: those that none of those taken is at or ahead of -/
def take1 (f : List St) (t : St) : List St := if (f.any fun x => decide (x.L t)) then f else f ++ [t]
def greedy (ds : List St) : List St := ds.foldl take1 []
theorem greedy_snoc (ds : List St) (t : St) : greedy (ds ++ [t]) = take1 (greedy ds) t := by simp [greedy]
/-- what the taken ones are -/
structure Gr (ds us : List St) : Prop where
  sub : us.Sublist ds
  all : ∀ x ∈ ds, ∃ y ∈ us, y.L x
  least : ∀ x ∈ us, ∀ y ∈ ds, y.L x → y = x
theorem Gr.step {ds us : List St} {t : St} (h : Gr ds us) (hR : t.R) (hs : ∀ x ∈ ds, x.C t < 0) : Gr (ds ++ [t]) (take1 us t) := by
  have hno : ∀ x ∈ us, ¬ t.L x := fun x hx hl => by
    have h1 := hs x (h.sub.subset hx)
    have h2 := L_C t x hl
    exact h2 h1
  unfold take1
  split
  · rename_i ha
    obtain ⟨u, hu, hl⟩ := List.any_eq_true.1 ha
    have hl : u.L t := by simpa using hl
    refine ⟨h.sub.trans (List.sublist_append_left _ _), fun x hx => ?_, fun x hx y hy hyx => ?_⟩
    · rcases List.mem_append.1 hx with hx | hx
      · exact h.all x hx
      · rw [List.mem_singleton] at hx; subst hx; exact ⟨u, hu, hl⟩
    · rcases List.mem_append.1 hy with hy | hy
      · exact h.least x hx y hy hyx
      · rw [List.mem_singleton] at hy; subst hy; exact absurd hyx (hno x hx)
  · rename_i ha
    have ha : ∀ u ∈ us, ¬ u.L t := fun u hu hl => ha (List.any_eq_true.2 ⟨u, hu, by simpa using hl⟩)
    refine ⟨h.sub.append (List.Sublist.refl _), fun x hx => ?_, fun x hx y hy hyx => ?_⟩
    · rcases List.mem_append.1 hx with hx | hx
      · obtain ⟨y, hy, hl⟩ := h.all x hx
        exact ⟨y, List.mem_append_left _ hy, hl⟩
      · rw [List.mem_singleton] at hx; subst hx; exact ⟨x, List.mem_append_right _ (by simp), St.L_refl.2 hR⟩
    · rcases List.mem_append.1 hx with kx | kx <;> rcases List.mem_append.1 hy with ky | ky
      · exact h.least x kx y ky hyx
      · rw [List.mem_singleton] at ky; rw [ky] at hyx; exact absurd hyx (hno x kx)
      · rw [List.mem_singleton] at kx; rw [kx] at hyx
        obtain ⟨u, hu, hl⟩ := h.all y ky
        exact absurd (St.L_trans hl hyx) (ha u hu)
      · rw [List.mem_singleton] at kx ky; rw [kx, ky]
theorem gr_greedy : ∀ (n : Nat) (ds : List St), ds.length = n → (∀ x ∈ ds, x.R) → ds.Pairwise (fun x y => x.C y < 0) → Gr ds (greedy ds) := by
  intro n
  induction n with
  | zero =>
    intro ds hl _ _
    have := List.eq_nil_of_length_eq_zero hl
    subst this
    exact ⟨List.Sublist.refl _, by simp, by simp [greedy]⟩
  | succ n ih =>
    intro ds hl hR hp
    rcases List.eq_nil_or_concat ds with rfl | ⟨es, t, rfl⟩
    · simp at hl
    · rw [List.concat_eq_append] at *
      rw [List.pairwise_append] at hp
      rw [greedy_snoc]
      exact (ih es (by simpa using hl) (fun x hx => hR x (List.mem_append_left _ hx)) hp.1).step (hR t (by simp)) (fun x hx => hp.2.2 x hx t (by simp))
theorem greedy_len : ∀ (n : Nat) (ds : List St), ds.length = n → (greedy ds).length ≤ n := by
  intro n
  induction n with
  | zero => intro ds hl; have := List.eq_nil_of_length_eq_zero hl; subst this; simp [greedy]
  | succ n ih =>
    intro ds hl
    rcases List.eq_nil_or_concat ds with rfl | ⟨es, t, rfl⟩
    · simp at hl
    · rw [List.concat_eq_append] at *
      rw [greedy_snoc]
      have := ih es (by simpa using hl)
      unfold take1
      split
      · omega
      · simp; omega
theorem key_L {e x : St} (he : e.R) (hx : x.R) (hd : e.d = x.d) (hk : e.key = x.key) (hl : e.e ≤ x.e) : e.L x := by
  obtain ⟨h1, h2, h3⟩ := key_inj.1 hk
  exact ⟨he, hx, hd, hl, Int.le_of_eq h1, Int.le_of_eq h2, Int.le_of_eq h3⟩
/-- what is told is the frontier -/
theorem first_is {l E : List St} {xs : List RSt} (hl : Even l) (hE : Ear l E) (hx : AllOf E xs) : greedy (sortS (raw xs)) = ofS l := by
  have hp := sortS_perm (raw xs)
  have hm : ∀ t, t ∈ sortS (raw xs) ↔ t ∈ E := fun t => hp.mem_iff.trans (hx.2 t)
  have hnd : (sortS (raw xs)).Nodup := hp.nodup_iff.2 hx.1
  have hR : ∀ x ∈ sortS (raw xs), x.R := fun x h => (hl x (hE.sub x ((hm x).1 h))).1
  have hs : (sortS (raw xs)).Pairwise fun x y => x.C y < 0 := by
    refine (List.Pairwise.and (sortS_rises (raw xs)) hnd).imp ?_
    rintro x y ⟨h1, h2⟩
    rcases Int.lt_or_eq_of_le h1 with h3 | h3
    · exact h3
    · exact absurd (St.C_zero.1 h3) h2
  have hg := gr_greedy _ (sortS (raw xs)) rfl hR hs
  have hsub : ∀ x ∈ greedy (sortS (raw xs)), x ∈ l := fun x h => hE.sub x ((hm x).1 (hg.sub.subset h))
  have hf : Fr (greedy (sortS (raw xs))) := ⟨fun x h => (hl x (hsub x h)).1, fun x h y k => (hl x (hsub x h)).2 y (hsub y k), hs.sublist hg.sub, fun x h y k hxy => hg.least y k x (hg.sub.subset h) hxy⟩
  refine Fr.ext hf (ofS_fr hl) fun t => ?_
  rw [ofS_up hl]
  constructor
  · rintro ⟨x, h, k⟩; exact ⟨x, hsub x h, k⟩
  · rintro ⟨x, h, k⟩
    obtain ⟨e, he, hk, hle⟩ := hE.all x h
    have hel : e.L x := key_L (hl e (hE.sub e he)).1 (hl x h).1 ((hl e (hE.sub e he)).2 x h) hk hle
    obtain ⟨u, hu, hue⟩ := hg.all e ((hm e).2 he)
    exact ⟨u, hu, St.L_trans (St.L_trans hue hel) k⟩
theorem own_len {w : World} {base n : Nat} {v : Value} {ts : List St} (h : w.ownsRow base 25 5 v n (rowS ts)) : n = ts.length := by
  have := h.1; rw [rowS_len] at this; omega
theorem own_kept {w w' : World} {base n : Nat} {v : Value} {xs : List Value} (h : w.ownsRow base 25 5 v n xs) (hb : Below w.heap.size w w') : w'.ownsRow base 25 5 v n xs := by
  refine h.kept (grown_below hb) ?_
  cases hv : v.ownBlock with
  | none => exact .inl rfl
  | some k => exact .inr (by simp)
set_option maxHeartbeats 4000000 in
theorem first_any (g n₀ : Nat) (lb : Array Value) (ts : List RSt) (Sp : List RSt → Prop) (hl : ts.length ≤ 1000) (hev : Even (raw ts)) (w0 w : World) (hb0 : Below w0.heap.size w0 w) (hn₀ : n₀ ≤ w0.heap.size) (eg : ∀ args w, (callFunc g args).run Try.prog w = .ok (.enter g args) w)
    (hseq : ∀ n, 1 ≤ n → SeqStopsK Fence.wide n Try.prog g lb encS (Keep n₀) (fun ys => ys = ts) Sp ts.length w0) :
    Calls Try.prog 49 #[.func (.func g) #[] lb] w fun e W' => (∃ v, e = .returned v ∧ W'.ownsRow w.heap.size 25 5 v (ofS (raw ts)).length (rowS (ofS (raw ts)))) ∧ Below w.heap.size w W' := by
  have H := Lib.hid (earliest_any g n₀ ts.length lb _ Sp hl w0 w hb0 hn₀ eg (fun xs h => by rw [h]; exact hl) hseq)
  have HEV := Lib.hid hev
  clear hseq eg hb0 hev
  go_enter Try.func49, Try.ntmps49
  go_wp2_with fail
  refine (H.out).mono ?_; rintro e w1 ⟨rfl, ⟨xs, E, m, rfl, hM, hEar, hEl⟩, hb1⟩
  have hmv := mvalues_any (some w.heap.size) w1
  have HMV := Lib.hid hmv; have HM := Lib.hid (And.intro hM hEar); have HB1 := Lib.hid hb1; clear hmv hM hEar hb1 H
  go_wp2_with fail
  refine (HMV.out).mono ?_; rintro e w2 ⟨rfl, rfl⟩
  have hso := sortedFunc_any 87 E.length #[.pointer (some ⟨w1.heap.size, 0, none⟩)] (AllOf E) (fun _ => True) hEl
    (fun ys hy => by
      have h1 : (raw ys).Perm E := (List.perm_ext_iff_of_nodup hy.1 (HM.out.1.2.2.imp fun h e => h (by rw [e]))).2 hy.2
      have h2 := h1.length_eq
      rw [raw_length] at h2; omega)
    _ (w1.alloc (.cells #[.map (some w.heap.size)] 85)) (Below.refl _ _) (enters_of Try.func87 (by kernel_rfl) rfl)
    (fun n hn => mvaluesC n hn w1.heap.size w.heap.size m E hEl _ (BoxAt.made w1 _ _) (HM.out.1.alloc _))
  have HSO := Lib.hid hso; clear hso HMV
  go_wp2_with fail
  refine (HSO.out).mono ?_; rintro e w3 ⟨⟨v, ys, rfl, hys, hr⟩, hb3⟩
  have hylen : (sortS (raw ys)).length ≤ 1000 := by
    have h1 : (raw ys).Perm E := (List.perm_ext_iff_of_nodup hys.1 (HM.out.1.2.2.imp fun h e => h (by rw [e]))).2 hys.2
    have h2 := h1.length_eq
    rw [(sortS_perm _).length_eq, h2]; exact hEl
  have hfin := first_is HEV.out HM.out.2 hys
  have hB3 : Below w.heap.size w w3 := (HB1.out.alloc HB1.out.size _).trans (hb3.mono (by have := HB1.out.size; simp; omega))
  obtain ⟨A, c, rfl, hT, hle, _⟩ := Times.of_own hr
  rw [own_len hr] at *
  have hT := Ts.of hT
  generalize sortS (raw ys) = ds at *
  have HFIN := Lib.hid hfin; have HT := Lib.hid hT; have HB3 := Lib.hid hB3; clear hfin hT hB3 hr hb3 HSO hys HM HB1 HEV hle hEl
  dsimp only
  go_wp2_with fail
  go_loopw [3, 11] (fun fv i wr => ∃ k : Nat, k ≤ ds.length ∧ i = .int .i64 k ∧ Below w3.heap.size w3 wr ∧ wr.ownsRow w3.heap.size 25 5 fv (greedy (ds.take k)).length (rowS (greedy (ds.take k)))) (fun _ i _ => ds.length - (intOf i).toNat)
  case atStart => exact ⟨0, Nat.zero_le _, rfl, Below.refl _ _, World.ownsRow_nil _ _ _ _⟩
  case round =>
    obtain ⟨k, hk, rfl, hbw, hro⟩ := hrel
    obtain ⟨B, c', rfl, hTu, hle, hcm⟩ := Times.of_own hro
    have hgl : (greedy (ds.take k)).length ≤ k := greedy_len _ _ (by rw [List.length_take]; omega)
    by_cases hlt : k < ds.length
    · obtain ⟨t, ht⟩ : ∃ t, ds[k]? = some t := ⟨_, List.getElem?_eq_getElem hlt⟩
      have hnext : greedy (ds.take (k + 1)) = take1 (greedy (ds.take k)) t := by rw [List.take_add_one, ht, Option.toList, greedy_snoc]
      generalize greedy (ds.take k) = us at *
      obtain ⟨b, o, rfl, hbl, h5⟩ := HT.out.five ht
      obtain ⟨c0, c1, c2, c3, c4⟩ := h5 wr hbw
      have hrch := reached_any B us c' t _ ((Ts.of hTu).below ((Below.refl wr.heap.size wr).alloc (Nat.le_refl _) (.cells #[.int .i64 t.d, .int .i64 t.e, .int .i64 t.x, .int .i64 t.y, .int .i64 t.z] 25))) (by omega)
      have hbx := Holds.made wr t
      have hsz := hbw.size
      cases hv : (us.any fun x => decide (x.L t)) with
      | true =>
        have e1 : take1 us t = us := by unfold take1; rw [if_pos hv]
        rw [hv] at hrch
        rw [e1] at hnext
        have HR := Lib.hid hrch; have HN := Lib.hid hnext; have HO := Lib.hid (And.intro hbw hro)
        clear hrch hnext hbw hro hTu ht h5 hbl hv e1 hbx
        unfold St.val at *
        go_wp2_with fail
        refine (HR.out).mono ?_; rintro e w4 ⟨rfl, hb4⟩
        have hb5 : Below wr.heap.size wr w4 := ((Below.refl _ _).alloc (Nat.le_refl _) _).trans (hb4.mono (by simp))
        have HB5 := Lib.hid hb5; clear hb4 hb5 c0 c1 c2 c3 c4 HR
        go_wp2_with fail
        go_roundw
        case rel => exact ⟨k + 1, by omega, by simp, HO.out.1.trans (HB5.out.mono hsz), by rw [HN.out]; exact own_kept HO.out.2 HB5.out⟩
        case measure => simp only [intOf]; omega
      | false =>
        have e1 : take1 us t = us ++ [t] := by unfold take1; rw [if_neg (by rw [hv]; simp)]
        rw [hv] at hrch
        rw [e1] at hnext
        have HR := Lib.hid hrch; have HN := Lib.hid hnext; have HO := Lib.hid (And.intro hbw hro); have HX := Lib.hid hbx
        clear hrch hnext hbw hro hTu ht h5 hbl hv e1 hbx
        unfold St.val at *
        go_wp2_with fail
        refine (HR.out).mono ?_; rintro e w4 ⟨rfl, hb4⟩
        have hb5 : Below wr.heap.size wr w4 := ((Below.refl _ _).alloc (Nat.le_refl _) _).trans (hb4.mono (by simp))
        have hx4 := HX.out.below hb4
        have hl4 := hx4.lt
        have hs5 := hb5.size
        have hoA := (own_kept HO.out.2 hb5).alloc (.cells #[.int .i64 t.d, .int .i64 t.e, .int .i64 t.x, .int .i64 t.y, .int .i64 t.z] 25)
        have hTA := Times.made w4 [t]
        have hba : Below w3.heap.size w3 (w4.alloc (.cells #[.int .i64 t.d, .int .i64 t.e, .int .i64 t.x, .int .i64 t.y, .int .i64 t.z] 25)) := (HO.out.1.trans (hb5.mono hsz)).alloc (by omega) _
        have hbs := hba.size
        obtain ⟨d0, d1, d2, d3, d4⟩ := hx4.cells5
        have HBA := Lib.hid hba; clear hb4 hb5 c0 c1 c2 c3 c4 HR hx4 hba
        go_wp2_with (at_builtin; refine wpList_append_times rfl _ _ rfl w3.heap.size _ us.length us rfl hoA ⟨w4.heap.size, 0, none⟩ 1 [t] rfl (by simp) hTA (by simp; omega) hbs ?_; intro v' w5 hown' hgr')
        have hb6 := own_belowS hoA hgr' HBA.out hbs
        have H6 := Lib.hid (And.intro hown' hb6); clear hown' hgr' hoA hTA hb6 d0 d1 d2 d3 d4
        go_wp2_with fail
        go_roundw
        case rel => exact ⟨k + 1, by omega, by simp, H6.out.2, by rw [HN.out]; simpa using H6.out.1⟩
        case measure => simp only [intOf]; omega
    · have hk' : k = ds.length := by omega
      have hfin : greedy (ds.take k) = ofS (raw xs) := by rw [hk', List.take_length]; exact HFIN.out
      rw [hfin] at hro ⊢
      have HO := Lib.hid (And.intro hbw hro); clear hbw hro hTu hfin
      go_wp2_with fail
      go_ret
      refine ⟨⟨_, rfl, ?_⟩, HB3.out.trans (HO.out.1.mono HB3.out.size)⟩
      obtain ⟨h1, h2⟩ := HO.out.2
      refine ⟨h1, ?_⟩
      rcases h2 with h2 | ⟨g', cap, cur, hv, hb', h3⟩
      · exact .inl h2
      · exact .inr ⟨g', cap, cur, hv, Nat.le_trans HB3.out.size hb', h3⟩
end
end Go.Proofs.Ytkbabmifdfmhlaa
