/- VrSort, VrConcat, VrRefSort, VrSame, VrSub, VrLess, VrRefLess -/
import Derived.Test.YtcjdjdhjbchaaaaCa3
import Derived.Test.YtcjdjdhjbchaaaaShelfV
import Derived.Shelf.SlSortCmp.NoneTotal
import Derived.Test.YtcjdjdhjbchaaaaCa4
import Derived.Test.YtcjdjdhjbchaaaaCa1
namespace Go.Proofs.Ytcjdjdhjbchaaaa
set_option linter.unusedVariables false
section
namespace Vr
open Go.ChangeShapes Go.WideShapes Go.ChangeAt Go.RowKit Go.BigFrame Go.Shelf
open Go.Sort (grow SWO putCells flatK size_flatK get_flatK putRowK HoldsK)
set_option maxRecDepth 100000
instance : Inhabited Rd := ⟨⟨0, 0⟩⟩
theorem flat_rec (ts : List Rd) : flatK Rd.cells 2 ts.toArray = (Rw.row kindR ts).toArray := by
  apply Array.ext_getElem?
  intro k
  by_cases hk : k < ts.length * 2
  · have h1 : k / 2 < ts.length := by omega
    obtain ⟨t, ht⟩ : ∃ t, ts[k / 2]? = some t := ⟨_, List.getElem?_eq_getElem h1⟩
    obtain ⟨u, hu⟩ : ∃ u, t.cells[k % 2]? = some u := ⟨_, List.getElem?_eq_getElem (by show k % 2 < 2; omega)⟩
    have h2 := Rw.row_at (κ := kindR) ts (k / 2) t ht (k % 2) u hu
    rw [show k / 2 * kindR.K + k % 2 = k by show k / 2 * 2 + k % 2 = k; omega] at h2
    have hrhs : (Rw.row kindR ts).toArray[k]? = some u := by simpa using h2
    rw [hrhs]
    have h3 := get_flatK Rd.cells 2 ts.toArray k (by simpa using hk)
    have h4 : ts.toArray[k / 2]! = t := by
      rw [List.getElem!_toArray, List.getElem!_eq_getElem?_getD, ht]; rfl
    rw [h4, List.getElem!_eq_getElem?_getD, hu] at h3
    have h5 : k < (flatK Rd.cells 2 ts.toArray).size := by rw [size_flatK]; simpa using hk
    rw [getElem!_pos _ k h5] at h3
    rw [Array.getElem?_eq_getElem h5, h3]; rfl
  · rw [Array.getElem?_eq_none (by rw [size_flatK]; simpa using hk), Array.getElem?_eq_none (by simp only [List.size_toArray]; rw [Rw.row_len]; show ts.length * 2 ≤ k; omega)]
theorem ltR {a b : Rd} : ltOf Rd.C a b = true ↔ ¬ b.Le a := by
  simp only [ltOf, decide_eq_true_eq]
  rw [← Rd.C_pos, Rd.C_swap (a := a) (b := b)]
  omega
theorem ltR_not {a b : Rd} : ltOf Rd.C a b = false ↔ b.Le a := by
  rw [← Bool.not_eq_true, ltR]
  exact Decidable.not_not
theorem swoR : SWO (ltOf Rd.C) where
  irrefl x := by rw [ltR_not]; exact Rd.Le_refl
  trans x y z h1 h2 := by
    rw [ltR] at *
    intro h
    exact h2 (Rd.Le_trans h (Rd.Le_total h1))
  ntrans x y z h1 h2 := by
    rw [ltR_not] at *
    exact Rd.Le_trans h2 h1
theorem merge_sortR (ts : List Rd) : (ts.mergeSort fun x y => !(ltOf Rd.C) y x) = sortR ts := by
  refine sortR_eq ?_ (List.mergeSort_perm _ _)
  refine (List.pairwise_mergeSort (le := fun x y => !(ltOf Rd.C) y x) ?_ ?_ ts).imp ?_
  · intro a b c h1 h2
    simp only [Bool.not_eq_true', ltR_not] at *
    exact Rd.Le_trans h1 h2
  · intro a b
    by_cases h : a.Le b
    · simp [ltR_not.2 h]
    · simp [ltR_not.2 (Rd.Le_total h)]
  · intro a b h
    simp only [Bool.not_eq_true', ltR_not] at h
    exact h
theorem cmpLays (blk off size : Nat) (w : World) : CmpLays Try.prog 72 #[] Rd.cells 2 Rd.C blk off size w := by
  intro m os dk _ x y
  refine (closure_any x y _).mono fun _ w' h => ⟨h.1, 0, #[.cells #[.int .i64 x.k, .int .i64 x.v] 36, .cells #[.int .i64 y.k, .int .i64 y.v] 36], ?_⟩
  rw [h.2]
  rfl
theorem grown_sorted {w : World} {g n : Nat} {os : Array Obj} (d : Array Rd) : w.grownBy (sortWorldK Rd.cells 2 w g 0 n d os) (some g) := by
  refine ⟨rfl, rfl, rfl, ?_, fun k hk hne => ?_⟩
  · exact size_sortWorldK_c Rd.cells 2 w g 0 n d os
  · unfold sortWorldK
    rw [Go.Sort.heap_grow_old _ _ (by simpa [putRowK] using hk)]
    have : g ≠ k := fun e => hne (by rw [e])
    simp [putRowK, Go.Sort.putRow, Go.Sort.mapBlock, Go.Sort.ahead, Array.getElem?_modify, this]
theorem sortFunc_any (base n : Nat) (v : Value) (ts : List Rd) (w : World) (hr : w.ownsRow base 36 kindR.K v n (Rw.row kindR ts)) (hn : ts.length ≤ 1000000) :
    Calls Try.prog 45 #[v, .func (.func 72) #[] #[]] w fun e w' => e = .returned (.tuple #[]) ∧ w'.ownsRow base 36 kindR.K v n (Rw.row kindR (sortR ts)) ∧ w.grownBy w' v.ownBlock := by
  have hl : ts.length = n := by have := hr.1; rw [Rw.row_len] at this; exact Nat.eq_of_mul_eq_mul_right kindR.pos this
  rcases hr.2 with ⟨rfl, h0⟩ | ⟨g, cap, cur, rfl, hb, hh, h1, h2, h3, h4⟩
  · have : ts = [] := List.eq_nil_of_length_eq_zero (by omega)
    subst this
    exact (AnyF.slices_SortFunc_none Try.sortRec none 0 _ w).mono fun e w' ⟨he, hw⟩ => ⟨he, by subst hw; exact hr, by subst hw; exact ⟨rfl, rfl, rfl, Nat.le_refl _, fun _ _ _ => rfl⟩⟩
  · have hg : g < w.heap.size := (Array.getElem?_eq_some_iff.1 hh).1
    have hH : HoldsK Rd.cells 2 w g 0 ts.toArray := by
      unfold HoldsK
      rw [flat_rec]
      intro j hj
      have hj' : j < (Rw.row kindR ts).length := by simpa using hj
      refine ⟨?_, by simp [World.frozen?, hh]⟩
      have hc := hr.cells (g := g) rfl j _ (List.getElem?_eq_getElem hj')
      rw [add_zero_off] at hc
      rw [Nat.zero_add, hc, getElem!_pos _ j hj]
      rfl
    have hs := AnyQ.slices_SortFunc_total Try.sortRec 2 Try.isAgg36 Try.sizeOf36 Rd.cells (fun _ => rfl) (fun x v hv => Rw.row_one (κ := kindR) [x] v (by simpa [Rw.row, kindR] using hv)) Rd.C swoR 72 #[] g 0 cap ts.toArray w
      (enters_of Try.func72 (by kernel_rfl) rfl) (cmpLays _ _ _ _) hH hg (by simp; omega) (fun x y hx hy => Rd.Le_antisymm (ltR_not.1 hy) (ltR_not.1 hx))
    rw [show ts.toArray.size = n by simpa using hl] at hs
    refine hs.mono fun e w' ⟨he, m, os, hw⟩ => ⟨he, ?_, by subst hw; exact grown_sorted _⟩
    subst hw
    rw [show ts.toArray.toList = ts by simp, merge_sortR ts]
    have hsl : (sortR ts).length = n := by rw [sortR_perm.length_eq, hl]
    refine ⟨by rw [Rw.row_len, hsl], .inr ⟨g, cap, putCells id 0 (Rw.row kindR (sortR ts)).toArray cur, rfl, hb, ?_, h1, h2, by simp [putCells, h3], ?_⟩⟩
    · unfold sortWorldK
      rw [Go.Sort.heap_grow_old _ _ (by simpa [putRowK] using hg)]
      show (putRowK Rd.cells 2 (Go.Sort.ahead w m) g 0 (sortR ts).toArray).heap[g]? = _
      unfold putRowK
      rw [flat_rec]
      simp [Go.Sort.putRow, Go.Sort.mapBlock, Go.Sort.ahead, Array.getElem?_modify, hh, Go.Sort.onCells]
    · have hlen : (Rw.row kindR (sortR ts)).length = n * 2 := by rw [Rw.row_len, hsl]; rfl
      apply List.ext_getElem?
      intro j
      by_cases hj : j < n * 2
      · rw [List.getElem?_take_of_lt (show j < n * kindR.K from hj), Array.getElem?_toList]
        have : j < cur.size := by have := Nat.mul_le_mul_right 2 h1; have h3' : cur.size = cap * 2 := h3; omega
        simp [putCells, hlen, hj, this]
      · rw [List.getElem?_take_eq_none (show n * kindR.K ≤ j by show n * 2 ≤ j; omega), List.getElem?_eq_none (by omega)]
end Vr
end

section
namespace Vr
open Go.ChangeShapes Go.WideShapes Go.ChangeAt Go.RowKit Go.BigFrame Go.Shelf
set_option maxRecDepth 100000
/-- a row that can be read, and its slice -/
structure Rr where
  A : Option Addr
  ts : List Rd
  c : Nat
def Rr.val (r : Rr) : Value := .slice r.A r.ts.length r.c
structure Rr.Ok (w : World) (r : Rr) : Prop where
  ts : Rw.Ts kindR w r.A r.ts
  nil : r.A = none → r.c = 0 ∧ r.ts = []
/-- block B holds the slices of these rows -/
structure RowsAt (w : World) (B : Nat) (L : List Rr) : Prop where
  row : Row w B 28 (L.map Rr.val)
  ok : ∀ r ∈ L, r.Ok w
def cat (L : List Rr) : List Rd := (L.map Rr.ts).flatten
theorem cat_take {L : List Rr} {k : Nat} {r : Rr} (h : L[k]? = some r) : cat (L.take (k + 1)) = cat (L.take k) ++ r.ts := by
  unfold cat
  rw [List.take_add_one, h]
  simp
theorem cat_take_le (L : List Rr) (k : Nat) : (cat (L.take k)).length ≤ (cat L).length := by
  have : cat L = cat (L.take k) ++ cat (L.drop k) := by
    unfold cat
    rw [← List.flatten_append, ← List.map_append, List.take_append_drop]
  rw [this, List.length_append]; omega
theorem Rr.Ok.below {w w' : World} {r : Rr} (h : r.Ok w) (hb : Below w.heap.size w w') : r.Ok w' := ⟨h.ts.below hb, h.nil⟩
theorem RowsAt.below {w w' : World} {B : Nat} {L : List Rr} (h : RowsAt w B L) (hb : Below w.heap.size w w') : RowsAt w' B L := ⟨h.row.below hb h.row.lt, fun r hr => (h.ok r hr).below hb⟩
theorem RowsAt.made (w : World) (L : List Rr) (h : ∀ r ∈ L, r.Ok w) : RowsAt (w.alloc (.cells (L.map Rr.val).toArray 28)) w.heap.size L :=
  ⟨Row.made w _ _, fun r hr => (h r hr).below ((Below.refl _ _).alloc (Nat.le_refl _) _)⟩
/-- room for n records -/
theorem grow_any (n : Nat) (w : World) (hn : n ≤ 1000000) : Calls Try.prog 69 #[.slice none 0 0, .int .i64 n] w fun e w' => (∃ v, e = .returned v ∧ w'.ownsRow w.heap.size 36 kindR.K v 0 (Rw.row kindR [])) ∧ Below w.heap.size w w' := by
  obtain ⟨i, hi, hz0, hz1, hz2⟩ := info_parts infoRec
  cases n with
  | zero => exact (Any8.slices_Grow_room Try.growRec none 0 0 0 w (by omega) (by omega) (by omega) (by omega)).mono fun e w' ⟨he, hw⟩ => ⟨⟨_, he, World.ownsRow_nil _ _ _ _⟩, by subst hw; exact Below.refl _ _⟩
  | succ n =>
    refine (Any8.slices_Grow_grow Try.growRec i _ hi hz0 (by rw [hz1]; show 0 < 2; omega) none 0 0 (n + 1) [] w (by omega) (by omega) (by rw [hz2]; omega) (by omega) (by simp) (fun _ => rfl) (fun a h => by cases h)).mono fun e w' ⟨he, hw⟩ => ?_
    subst hw
    refine ⟨⟨_, he, rfl, .inr ⟨w.heap.size, _, _, rfl, Nat.le_refl _, heap_alloc_new w.drew _, Nat.zero_le _, grownCap_le_maxLen _ _ _ _ (by unfold maxLen; omega), ?_, by simp [Rw.row]⟩⟩, ((Below.refl w.heap.size w).drew).alloc (Nat.le_refl _) _⟩
    · have := grownCap_ge w (n + 1) 0 (Try.growRec_ren.t 25)
      simp [Builtin.zeroCells, Value.cells]
      show _ = _ * 2
      omega
set_option maxHeartbeats 4000000 in
theorem concat_any (B : Nat) (L : List Rr) (w : World) (hL : RowsAt w B L) (hl : L.length ≤ 1000) (hn : (cat L).length ≤ 1000000) :
    Calls Try.prog 44 #[.slice (some ⟨B, 0, none⟩) L.length L.length] w fun e w' => (∃ v, e = .returned v ∧ w'.ownsRow w.heap.size 36 kindR.K v (cat L).length (Rw.row kindR (cat L))) ∧ Below w.heap.size w w' := by
  have HL := Lib.hid hL; have HN := Lib.hid hn; clear hL hn
  go_enter Try.func44, Try.ntmps44
  go_wp2_with fail
  go_loop [3, 11] (fun s i => ∃ k : Nat, k ≤ L.length ∧ i = .int .i64 k ∧ s = .int .i64 ((cat (L.take k)).length : Nat)) (fun _ i => L.length - (intOf i).toNat)
  case atStart => exact ⟨0, by omega, rfl, rfl⟩
  case round =>
    obtain ⟨k, hk, rfl, rfl⟩ := hrel
    by_cases hlt : k < L.length
    · have hltz : (k : Int) < (L.length : Int) := by omega
      obtain ⟨r, hr⟩ : ∃ r, L[k]? = some r := ⟨_, List.getElem?_eq_getElem hlt⟩
      have q : w.cell? ⟨B, k, none⟩ = some (.slice r.A r.ts.length r.c) := (HL.out.row.cell k).trans (by rw [List.getElem?_map, hr]; rfl)
      have ht := cat_take hr
      have hle := cat_take_le L (k + 1)
      rw [ht, List.length_append] at hle
      obtain ⟨p, hp⟩ : ∃ p, (cat (L.take k)).length = p := ⟨_, rfl⟩
      rw [hp] at hle ⊢
      have hb : p + r.ts.length ≤ 1000000 := by have := HN.out; omega
      have hz : ¬ ((p : Int) + (r.ts.length : Int) < 0) := by omega
      have HT := Lib.hid ht; have HP := Lib.hid hp
      clear hle hr ht hp
      go_wp2_with fail
      go_round
      case rel => exact ⟨k + 1, by omega, by simp, by rw [HT.out, List.length_append, HP.out]; simp⟩
      case measure => simp [intOf]; omega
    · have hkl : k = L.length := by omega
      subst hkl
      rw [List.take_length]
      have hg := grow_any (cat L).length w HN.out
      have HG := Lib.hid hg; clear hg
      have hnn : (cat L).length ≤ 1000000 := HN.out
      go_wp2_with fail
      refine HG.out.mono ?_; rintro e w1 ⟨⟨v, rfl, hown⟩, hb1⟩
      have HO := Lib.hid hown; have HB := Lib.hid hb1; clear hown hb1 HG
      dsimp only
      go_wp2_with fail
      go_loopw [6, 27] (fun fv i wr => ∃ k : Nat, k ≤ L.length ∧ i = .int .i64 k ∧ Below w.heap.size w wr ∧ wr.ownsRow w.heap.size 36 kindR.K fv (cat (L.take k)).length (Rw.row kindR (cat (L.take k)))) (fun _ i _ => L.length - (intOf i).toNat)
      case atStart => exact ⟨0, by omega, rfl, HB.out, HO.out⟩
      case round =>
        obtain ⟨k, hk, rfl, hbw, hro⟩ := hrel
        have HBW := Lib.hid hbw; have HRO := Lib.hid hro; clear hbw hro HO HB
        by_cases hlt : k < L.length
        · have hltz : (k : Int) < (L.length : Int) := by omega
          obtain ⟨r, hr⟩ : ∃ r, L[k]? = some r := ⟨_, List.getElem?_eq_getElem hlt⟩
          have hrow := HL.out.row.below HBW.out HL.out.row.lt
          have q : wr.cell? ⟨B, k, none⟩ = some (.slice r.A r.ts.length r.c) := (hrow.cell k).trans (by rw [List.getElem?_map, hr]; rfl)
          have hok := HL.out.ok r (List.mem_of_getElem? hr)
          have ht := cat_take hr
          have hle := cat_take_le L (k + 1)
          rw [ht, List.length_append] at hle
          generalize cat (L.take k) = us at *
          have hb : us.length + r.ts.length ≤ 1000000 := by omega
          have hbs := HBW.out.size
          have HT := Lib.hid ht; have HOK := Lib.hid hok; have HBS := Lib.hid hbs
          clear hle hr ht hok hrow hbs
          go_wp2_with (at_builtin; refine Rw.append_own kindR 36 28 Try.underlying28 infoRec rfl rfl _ _ rfl w.heap.size _ us.length us rfl HRO.out r.A r.c r.ts rfl HOK.out.nil (HOK.out.ts.below HBW.out) (by unfold maxLen; omega) (by omega) HBS.out ?_; intro v2 w4 hv2 hg2; have hb2 := Rw.own_below HRO.out hg2 HBW.out HBS.out; have HV := Lib.hid hv2; have HB2 := Lib.hid hb2; clear hv2 hg2 hb2)
          go_roundw
          case rel => exact ⟨k + 1, by omega, by simp, HB2.out, by rw [HT.out, List.length_append]; exact HV.out⟩
          case measure => simp only [intOf]; omega
        · have hkl : k = L.length := by omega
          subst hkl
          have hro := HRO.out
          rw [List.take_length] at hro
          have HRO' := Lib.hid hro; clear hro
          go_wp2_with fail
          go_ret
          exact ⟨⟨_, rfl, HRO'.out⟩, HBW.out⟩
set_option maxHeartbeats 1000000 in
theorem add_any (B : Nat) (L : List Rr) (w : World) (hL : RowsAt w B L) (hl : L.length ≤ 1000) (hn : (cat L).length ≤ 1000000) :
    Calls Try.prog 23 #[.slice (some ⟨B, 0, none⟩) L.length L.length] w (AddD (sortR (cat L)) w) := by
  have hc := concat_any B L w hL hl hn
  have hs := fun (v : Value) (w1 : World) (h : w1.ownsRow w.heap.size 36 kindR.K v (cat L).length (Rw.row kindR (cat L))) => sortFunc_any w.heap.size (cat L).length v (cat L) w1 h hn
  have hlen : (sortR (cat L)).length = (cat L).length := sortR_perm.length_eq
  generalize sortR (cat L) = ss at *
  generalize cat L = us at *
  generalize L.length = n at *
  have HC := Lib.hid hc; have HS := Lib.hid hs; have HLEN := Lib.hid hlen; clear hc hs hlen hL hn hl
  go_enter Try.func23, Try.ntmps23
  go_wp2_with fail
  refine HC.out.mono ?_; rintro e w1 ⟨⟨v, rfl, hown⟩, hb1⟩
  have hs1 := HS.out v w1 hown
  have HO := Lib.hid hown; have HB := Lib.hid hb1; have HS1 := Lib.hid hs1; clear hown hb1 hs1 HS HC
  dsimp only
  go_wp2_with fail
  refine (byKey_any _).mono ?_; rintro e w' ⟨rfl, rfl⟩
  go_wp2_with fail
  refine HS1.out.mono ?_; rintro e w2 ⟨rfl, hown2, hg2⟩
  have hb2 := Rw.own_below HO.out hg2 HB.out HB.out.size
  have HO2 := Lib.hid hown2; have HB2 := Lib.hid hb2; clear hown2 hg2 hb2
  dsimp only
  go_wp2_with fail
  go_ret
  exact ⟨⟨_, rfl, by rw [HLEN.out]; exact HO2.out⟩, HB2.out⟩
set_option maxHeartbeats 1000000 in
theorem sorted_any (A : Option Addr) (l : List Rd) (c : Nat) (w : World) (hT : Rw.Ts kindR w A l) (hA : A = none → c = 0 ∧ l = []) (hn : l.length ≤ 1000000) :
    Calls Try.prog 31 #[.slice A l.length c] w (AddD (sortR l) w) := by
  have hr := RowsAt.made w [⟨A, l, c⟩] (by intro r hr; simp only [List.mem_singleton] at hr; subst hr; exact ⟨hT, hA⟩)
  have ha0 := add_any w.heap.size [⟨A, l, c⟩] _ hr (by simp) (by simpa [cat] using hn)
  rw [show cat [⟨A, l, c⟩] = l by simp [cat]] at ha0
  have ha : Calls Try.prog 23 #[.slice (some ⟨w.heap.size, 0, none⟩) 1 1] (w.alloc (.cells #[.slice A l.length c] 28)) (AddD (sortR l) (w.alloc (.cells #[.slice A l.length c] 28))) := ha0
  clear ha0
  have HA := Lib.hid ha; clear ha hr hT hA
  generalize sortR l = ss at *
  generalize l.length = n at *
  go_enter Try.func31, Try.ntmps31
  go_wp2_with fail
  refine HA.out.mono ?_; rintro e w1 ⟨⟨v, rfl, hown⟩, hb1⟩
  have HO := Lib.hid hown; have HB := Lib.hid hb1; clear hown hb1 HA
  dsimp only
  go_wp2_with fail
  go_ret
  refine ⟨⟨_, rfl, own_base HO.out (by simp)⟩, ?_⟩
  exact ((Below.refl _ w).alloc (Nat.le_refl _) _).trans (HB.out.mono (by simp))
end Vr
end

section
namespace Vr
open Go.ChangeShapes Go.WideShapes Go.ChangeAt Go.RowKit Go.BigFrame
set_option maxRecDepth 100000
set_option maxHeartbeats 3000000 in
theorem refSorted_any (A : Option Addr) (l : List Rd) (c : Nat) (w : World) (hT : Rw.Ts kindR w A l) (hn : l.length ≤ 1000000) :
    Calls Try.prog 33 #[.slice A l.length c] w (AddD (sortR l) w) := by
  have HT := Lib.hid hT; clear hT
  go_enter Try.func33, Try.ntmps33
  go_wp2_with fail
  go_loopw [3, 4] (fun v i wr => ∃ k : Nat, k ≤ l.length ∧ i = .int .i64 k ∧ wr.ownsRow w.heap.size 36 kindR.K v (sortR (l.take k)).length (Rw.row kindR (sortR (l.take k))) ∧ Below w.heap.size w wr) (fun _ i _ => l.length - (intOf i).toNat)
  case atStart => exact ⟨0, by omega, rfl, World.ownsRow_nil _ _ _ _, Below.refl _ _⟩
  case round =>
    obtain ⟨k, hk, rfl, hown, hb⟩ := hrel
    by_cases hlt : k < l.length
    · have hltz : (k : Int) < (l.length : Int) := by omega
      obtain ⟨x, hx⟩ : ∃ x, l[k]? = some x := ⟨_, List.getElem?_eq_getElem hlt⟩
      have hnext : sortR (l.take (k + 1)) = sortR (sortR (l.take k) ++ [x]) := by rw [sortR_left, List.take_add_one, hx]; rfl
      have hslen : (sortR (l.take k)).length = k := by rw [sortR_perm.length_eq, List.length_take]; omega
      have hsp := sortR_sort (l := l.take k)
      obtain ⟨b0, o0, rfl, _, hload⟩ := load_r HT.out hx
      have hcel : ∀ w', Below w.heap.size w w' → w'.cell? ⟨b0, o0 + k * 2, none⟩ = some (.int .i64 x.k) ∧ w'.cell? ⟨b0, o0 + k * 2 + 1, none⟩ = some (.int .i64 x.v) := by
        obtain ⟨b', o', e', _, hc'⟩ := recs_at HT.out hx
        cases e'
        exact hc'
      generalize sortR (l.take k) = s at *
      have hsb : s.length ≤ 1000000 := by omega
      obtain ⟨S, cS, rfl, hTs, _⟩ := Rw.Ts.of_own hown
      obtain ⟨wo, rfl⟩ : ∃ wo, wo = wr := ⟨_, rfl⟩
      have HNEXT := Lib.hid hnext; have HSL := Lib.hid hslen; have HSP := Lib.hid hsp; have HLD := Lib.hid hload; have HCEL := Lib.hid hcel; have HTS := Lib.hid hTs; have HOWN := Lib.hid hown; have HB := Lib.hid hb
      clear hnext hslen hsp hload hcel hTs hown hb hx
      go_wp2_with fail
      go_loopw [5] (fun v wx => ∃ p : Nat, v = .int .i64 p ∧ p ≤ s.length ∧ Below wo.heap.size wo wx ∧ ∀ y ∈ s.drop p, ¬ y.Le x) (fun v _ => (intOf v).toNat)
      case atStart => exact ⟨s.length, rfl, Nat.le_refl _, Below.refl _ _, by simp⟩
      case round =>
        obtain ⟨wx, rfl⟩ : ∃ wx, wx = wr := ⟨_, rfl⟩
        obtain ⟨p, rfl, hp, hbx, hgt⟩ := hrel
        have HBX := Lib.hid hbx; have HGT := Lib.hid hgt; clear hbx hgt
        by_cases hp0 : 0 < p
        · obtain ⟨q, hq⟩ : ∃ q, p = q + 1 := ⟨p - 1, by omega⟩
          obtain ⟨y, hy⟩ : ∃ y, s[q]? = some y := ⟨_, List.getElem?_eq_getElem (by omega)⟩
          obtain ⟨b1, o1, rfl, _, hload1⟩ := load_r HTS.out hy
          have d0 : decide ((0 : Int) < (p : Int)) = true := by simp; omega
          have hw : IntKind.i64.wrap ((p : Int) - 1) = (q : Int) := by rw [IntWalk.i64_in _ (by omega)]; omega
          have hqs : (q : Int) < (s.length : Int) := by omega
          have hkl : (k : Int) < (l.length : Int) := by omega
          have HL0 : Hid (∀ w', Below wx.heap.size wx w' → (Instr.loadAt 36 (.pointer (some ⟨b0, o0 + k * 2, none⟩))).run Try.prog w' = .ok (.agg #[.int .i64 x.k, .int .i64 x.v]) w') := Lib.hid fun w' hb => HLD.out w' (HB.out.trans ((HBX.out.trans (hb.mono HBX.out.size)).mono HB.out.size))
          have HL1 : Hid (∀ w', Below wx.heap.size wx w' → (Instr.loadAt 36 (.pointer (some ⟨b1, o1 + q * 2, none⟩))).run Try.prog w' = .ok (.agg #[.int .i64 y.k, .int .i64 y.v]) w') := Lib.hid fun w' hb => hload1 w' (HBX.out.trans (hb.mono HBX.out.size))
          have HY := Lib.hid hy; have HQ := Lib.hid hq; clear hy hq hload1
          by_cases hle : y.Le x
          · have d1 : decide (0 < y.C x) = false := by simp only [decide_eq_false_iff_not]; rw [Rd.C_pos]; exact fun h => h hle
            have HLE := Lib.hid hle; clear hle
            go_wp2_with fail
            refine wp_region_below (by kernel_rfl) (by kernel_rfl) ?_
            refine wpQuiet_step (fun K hK => ?_); go_simp; (first | (with_reducible refine hK _ ?_) | (with_reducible refine ⟨_, fun _ _ => rfl, hK _ ?_⟩)); clear hK K
            refine wpQuiet_step (fun K hK => ?_); go_simp; (first | (with_reducible refine hK _ ?_) | (with_reducible refine ⟨_, fun _ _ => rfl, hK _ ?_⟩)); clear hK K
            refine wpQuiet_step (fun K hK => ?_); go_simp; (first | (with_reducible refine hK _ ?_) | (with_reducible refine ⟨_, fun _ _ => rfl, hK _ ?_⟩)); clear hK K
            refine wpQuiet_step (fun K hK => ?_); go_simp; (first | (with_reducible refine hK _ ?_) | (with_reducible refine ⟨_, fun _ _ => rfl, hK _ ?_⟩)); clear hK K
            refine wpQuiet_step (fun K hK => ?_); go_simp; (first | (with_reducible refine hK _ ?_) | (with_reducible refine ⟨_, fun _ _ => rfl, hK _ ?_⟩)); clear hK K
            refine wpQuiet_step (fun K hK => ?_); go_simp; (first | (with_reducible refine hK _ ?_) | (with_reducible refine ⟨_, fun _ _ => rfl, hK _ ?_⟩)); clear hK K
            refine wpQuiet_step (fun K hK => ?_); go_simp; (first | (with_reducible refine hK _ ?_) | (with_reducible refine ⟨_, fun _ _ => rfl, hK _ ?_⟩)); clear hK K
            refine wpQuiet_step (fun K hK => ?_); refine q_load (p := .pointer (some ⟨b1, o1 + q * 2, none⟩)) 36 _ rfl rfl rfl (HL1.out) ?_; go_simp; (with_reducible refine hK _ ?_); clear hK K
            refine wpQuiet_step (fun K hK => ?_); go_simp; (first | (with_reducible refine hK _ ?_) | (with_reducible refine ⟨_, fun _ _ => rfl, hK _ ?_⟩)); clear hK K
            refine wpQuiet_step (fun K hK => ?_); go_simp; (first | (with_reducible refine hK _ ?_) | (with_reducible refine ⟨_, fun _ _ => rfl, hK _ ?_⟩)); clear hK K
            refine wpQuiet_step (fun K hK => ?_); go_simp; (first | (with_reducible refine hK _ ?_) | (with_reducible refine ⟨_, fun _ _ => rfl, hK _ ?_⟩)); clear hK K
            refine wpQuiet_step (fun K hK => ?_); refine q_load (p := .pointer (some ⟨b0, o0 + k * 2, none⟩)) 36 _ rfl rfl rfl (HL0.out) ?_; go_simp; (with_reducible refine hK _ ?_); clear hK K
            refine wpQuiet_step (fun K hK => ?_); go_simp; (with_reducible refine ⟨_, fun _ hb => ((refCompare_any y x) _).mono fun _ _ h => ⟨h.1, hb.trans (h.2.mono (by simpa using hb.size))⟩, hK _ ?_⟩); clear hK K
            refine wpQuiet_step (fun K hK => ?_); go_simp; (first | (with_reducible refine hK _ ?_) | (with_reducible refine ⟨_, fun _ _ => rfl, hK _ ?_⟩)); clear hK K
            refine wpQuiet_step (fun K hK => ?_); go_simp; (first | (with_reducible refine hK _ ?_) | (with_reducible refine ⟨_, fun _ _ => rfl, hK _ ?_⟩)); clear hK K
            refine wpQuiet_nil ?_
            intro wz hbz
            have HBZ := Lib.hid (HBX.out.trans (hbz.mono HBX.out.size)); clear hbz
            have HFIN : Hid (∀ q y, p = q + 1 → s[q]? = some y → y.Le x) := Lib.hid fun q' y' e1 e2 => by
              have := HQ.out
              obtain rfl : q' = q := by omega
              rw [HY.out] at e2; cases e2; exact HLE.out
            clear HL0 HL1 HY HQ HLE d0 d1 hw hqs hkl
            obtain ⟨e0, e1⟩ := HCEL.out wz (HB.out.trans (HBZ.out.mono HB.out.size))
            have hbs : w.heap.size ≤ wz.heap.size := Nat.le_trans HB.out.size HBZ.out.size
            have HBS := Lib.hid hbs; clear hbs
            have HOZ := Lib.hid (Rw.own_kept HOWN.out HBZ.out)
            go_wp2_with (at_builtin; refine Rw.append_own kindR 36 28 Try.underlying28 infoRec rfl rfl _ _ rfl w.heap.size _ s.length s rfl (HOZ.out.alloc _) _ 1 [x] rfl (by simp) (Rw.Ts.made _ [x] _) (by unfold maxLen; simp; omega) (by simp; omega) (by have := HBS.out; simp; omega) ?_; intro v2 w4 hv2 hg2; have hb2 := Rw.own_below (HOZ.out.alloc _) hg2 ((HB.out.trans (HBZ.out.mono HB.out.size)).alloc HBS.out _) (by have := HBS.out; simp; omega); obtain ⟨g, cc, rfl, hgb⟩ := own_pos hv2 (by simp); have HV : Hid (w4.ownsRow w.heap.size 36 kindR.K (.slice (some ⟨g, 0, none⟩) (s.length + 1) cc) (s.length + 1) (Rw.row kindR (holeR s s.length x))) := Lib.hid (by rw [hole_end]; exact hv2); have HB2 := Lib.hid hb2; have HGB := Lib.hid hgb; clear hv2 hg2 hb2 hgb e0 e1)
            go_loopw [6] (fun v wx => ∃ j : Nat, v = .int .i64 j ∧ p ≤ j ∧ j ≤ s.length ∧ (∃ z, wx.ownsRow w.heap.size 36 kindR.K (.slice (some ⟨g, 0, none⟩) (s.length + 1) cc) (s.length + 1) (Rw.row kindR (holeR s j z))) ∧ Below w.heap.size w wx) (fun v _ => (intOf v).toNat)
            case atStart => exact ⟨s.length, by simp, hp, Nat.le_refl _, ⟨x, HV.out⟩, HB2.out⟩
            case round =>
              obtain ⟨wy, rfl⟩ : ∃ wy, wy = wr := ⟨_, rfl⟩
              obtain ⟨j, rfl, hpj, hj, ⟨z, hoz⟩, hby⟩ := hrel
              have HBY := Lib.hid hby; clear hby
              by_cases hjp : p < j
              · have hjz : (p : Int) < (j : Int) := by omega
                obtain ⟨q, hq⟩ : ∃ q, j = q + 1 := ⟨j - 1, by omega⟩
                obtain ⟨y, hy⟩ : ∃ y, s[q]? = some y := ⟨_, List.getElem?_eq_getElem (by omega)⟩
                obtain ⟨c0, c1, _, _⟩ := own_at hoz (i := q) (r := y) (by rw [hole_at (by omega) hj]; exact hy)
                obtain ⟨d0, d1, f0, f1⟩ := own_at hoz (i := j) (r := z) (by unfold holeR; rw [List.getElem?_append_right (by rw [List.length_take]; omega), List.length_take, show j - min j s.length = 0 by omega]; rfl)
                have hput := own_putR hoz j y
                rw [hole_set hj] at hput
                have hdn : holeR s j y = holeR s q y := by rw [hq]; exact hole_down hy
                rw [hdn] at hput
                have hw : IntKind.i64.wrap ((j : Int) - 1) = (q : Int) := by rw [IntWalk.i64_in _ (by omega)]; omega
                have hq1 : (q : Int) < (s.length : Int) + 1 := by omega
                have hj1 : (j : Int) < (s.length : Int) + 1 := by omega
                have HPUT := Lib.hid hput; have HQ := Lib.hid hq; clear hput hq hy hdn hoz
                go_wp2_with fail
                go_roundw
                case rel => exact ⟨q, rfl, by have := HQ.out; omega, by have := HQ.out; omega, ⟨y, HPUT.out⟩, (HBY.out.setCell (p := ⟨g, j * 2, none⟩) HGB.out _).setCell (p := ⟨g, j * 2 + 1, none⟩) HGB.out _⟩
                case measure => simp only [intOf]; have := HQ.out; omega
              · have hjz : ¬ (p : Int) < (j : Int) := by omega
                obtain rfl : j = p := by omega
                obtain ⟨e0, e1⟩ := HCEL.out wy HBY.out
                obtain ⟨d0, d1, f0, f1⟩ := own_at hoz (i := j) (r := z) (by unfold holeR; rw [List.getElem?_append_right (by rw [List.length_take]; omega), List.length_take, show j - min j s.length = 0 by omega]; rfl)
                have hput := own_putR hoz j x
                rw [hole_set hj] at hput
                have hins : holeR s j x = sortR (s ++ [x]) := ins_sorted HSP.out HFIN.out HGT.out hj
                have hj1 : (j : Int) < (s.length : Int) + 1 := by omega
                have hln : s.length + 1 = (sortR (s ++ [x])).length := by rw [sortR_perm.length_eq]; simp
                rw [hins, ← HNEXT.out] at hput
                rw [← HNEXT.out] at hln
                have HLN := Lib.hid hln
                have HPUT := Lib.hid hput; clear hput hins hoz hln
                go_wp2_with fail
                go_roundw
                case rel => exact ⟨k + 1, by omega, by simp, by rw [← HLN.out]; exact HPUT.out, (HBY.out.setCell (p := ⟨g, j * 2, none⟩) HGB.out _).setCell (p := ⟨g, j * 2 + 1, none⟩) HGB.out _⟩
                case measure => simp only [intOf]; omega
          · have d1 : decide (0 < y.C x) = true := by simp only [decide_eq_true_eq]; rw [Rd.C_pos]; exact hle
            have HLE := Lib.hid hle; clear hle
            go_wp2_with fail
            refine wp_region_below (by kernel_rfl) (by kernel_rfl) ?_
            refine wpQuiet_step (fun K hK => ?_); go_simp; (first | (with_reducible refine hK _ ?_) | (with_reducible refine ⟨_, fun _ _ => rfl, hK _ ?_⟩)); clear hK K
            refine wpQuiet_step (fun K hK => ?_); go_simp; (first | (with_reducible refine hK _ ?_) | (with_reducible refine ⟨_, fun _ _ => rfl, hK _ ?_⟩)); clear hK K
            refine wpQuiet_step (fun K hK => ?_); go_simp; (first | (with_reducible refine hK _ ?_) | (with_reducible refine ⟨_, fun _ _ => rfl, hK _ ?_⟩)); clear hK K
            refine wpQuiet_step (fun K hK => ?_); go_simp; (first | (with_reducible refine hK _ ?_) | (with_reducible refine ⟨_, fun _ _ => rfl, hK _ ?_⟩)); clear hK K
            refine wpQuiet_step (fun K hK => ?_); go_simp; (first | (with_reducible refine hK _ ?_) | (with_reducible refine ⟨_, fun _ _ => rfl, hK _ ?_⟩)); clear hK K
            refine wpQuiet_step (fun K hK => ?_); go_simp; (first | (with_reducible refine hK _ ?_) | (with_reducible refine ⟨_, fun _ _ => rfl, hK _ ?_⟩)); clear hK K
            refine wpQuiet_step (fun K hK => ?_); go_simp; (first | (with_reducible refine hK _ ?_) | (with_reducible refine ⟨_, fun _ _ => rfl, hK _ ?_⟩)); clear hK K
            refine wpQuiet_step (fun K hK => ?_); refine q_load (p := .pointer (some ⟨b1, o1 + q * 2, none⟩)) 36 _ rfl rfl rfl (HL1.out) ?_; go_simp; (with_reducible refine hK _ ?_); clear hK K
            refine wpQuiet_step (fun K hK => ?_); go_simp; (first | (with_reducible refine hK _ ?_) | (with_reducible refine ⟨_, fun _ _ => rfl, hK _ ?_⟩)); clear hK K
            refine wpQuiet_step (fun K hK => ?_); go_simp; (first | (with_reducible refine hK _ ?_) | (with_reducible refine ⟨_, fun _ _ => rfl, hK _ ?_⟩)); clear hK K
            refine wpQuiet_step (fun K hK => ?_); go_simp; (first | (with_reducible refine hK _ ?_) | (with_reducible refine ⟨_, fun _ _ => rfl, hK _ ?_⟩)); clear hK K
            refine wpQuiet_step (fun K hK => ?_); refine q_load (p := .pointer (some ⟨b0, o0 + k * 2, none⟩)) 36 _ rfl rfl rfl (HL0.out) ?_; go_simp; (with_reducible refine hK _ ?_); clear hK K
            refine wpQuiet_step (fun K hK => ?_); go_simp; (with_reducible refine ⟨_, fun _ hb => ((refCompare_any y x) _).mono fun _ _ h => ⟨h.1, hb.trans (h.2.mono (by simpa using hb.size))⟩, hK _ ?_⟩); clear hK K
            refine wpQuiet_step (fun K hK => ?_); go_simp; (first | (with_reducible refine hK _ ?_) | (with_reducible refine ⟨_, fun _ _ => rfl, hK _ ?_⟩)); clear hK K
            refine wpQuiet_step (fun K hK => ?_); go_simp; (first | (with_reducible refine hK _ ?_) | (with_reducible refine ⟨_, fun _ _ => rfl, hK _ ?_⟩)); clear hK K
            refine wpQuiet_nil ?_
            intro wz hbz
            have HBZ := Lib.hid (HBX.out.trans (hbz.mono HBX.out.size)); clear hbz
            go_wp2_with fail
            go_roundw
            case rel =>
              refine ⟨q, rfl, by omega, HBZ.out, fun y' hy' => ?_⟩
              have hq := HQ.out
              rw [List.drop_eq_getElem_cons (show q < s.length by omega)] at hy'
              rcases List.mem_cons.1 hy' with rfl | hy'
              · have : s[q] = y := (List.getElem?_eq_some_iff.1 HY.out).2
                rw [this]; exact HLE.out
              · exact HGT.out y' (by rw [hq]; exact hy')
            case measure => simp only [intOf]; have := HQ.out; omega
        · have d0 : decide ((0 : Int) < (p : Int)) = false := by simp; omega
          have HFIN : Hid (∀ q y, p = q + 1 → s[q]? = some y → y.Le x) := Lib.hid fun q' y' e1 e2 => by omega
          go_wp2_with fail
          refine wp_region_below (by kernel_rfl) (by kernel_rfl) ?_
          refine wpQuiet_step (fun K hK => ?_); go_simp; (try (with_reducible refine ⟨_, fun _ _ => rfl, ?_⟩)); generalize hA : ({ tmps := _, defers := _ } : Act) = A; (with_reducible refine hK A ?_); clear hK K
          refine wpQuiet_step (fun K hK => ?_); subst hA; go_simp; (try (with_reducible refine ⟨_, fun _ _ => rfl, ?_⟩)); generalize hA : ({ tmps := _, defers := _ } : Act) = A; (with_reducible refine hK A ?_); clear hK K
          refine wpQuiet_step (fun K hK => ?_); subst hA; go_simp; (try (with_reducible refine ⟨_, fun _ _ => rfl, ?_⟩)); generalize hA : ({ tmps := _, defers := _ } : Act) = A; (with_reducible refine hK A ?_); clear hK K
          refine wpQuiet_step (fun K hK => ?_); subst hA; go_simp; (try (with_reducible refine ⟨_, fun _ _ => rfl, ?_⟩)); generalize hA : ({ tmps := _, defers := _ } : Act) = A; (with_reducible refine hK A ?_); clear hK K
          refine wpQuiet_step (fun K hK => ?_); subst hA; go_simp; (try (with_reducible refine ⟨_, fun _ _ => rfl, ?_⟩)); generalize hA : ({ tmps := _, defers := _ } : Act) = A; (with_reducible refine hK A ?_); clear hK K
          refine wpQuiet_step (fun K hK => ?_); subst hA; go_simp; (try (with_reducible refine ⟨_, fun _ _ => rfl, ?_⟩)); generalize hA : ({ tmps := _, defers := _ } : Act) = A; (with_reducible refine hK A ?_); clear hK K
          refine wpQuiet_step (fun K hK => ?_); subst hA; go_simp; (try (with_reducible refine ⟨_, fun _ _ => rfl, ?_⟩)); generalize hA : ({ tmps := _, defers := _ } : Act) = A; (with_reducible refine hK A ?_); clear hK K
          refine wpQuiet_step (fun K hK => ?_); subst hA; go_simp; (try (with_reducible refine ⟨_, fun _ _ => rfl, ?_⟩)); generalize hA : ({ tmps := _, defers := _ } : Act) = A; (with_reducible refine hK A ?_); clear hK K
          refine wpQuiet_step (fun K hK => ?_); subst hA; go_simp; (try (with_reducible refine ⟨_, fun _ _ => rfl, ?_⟩)); generalize hA : ({ tmps := _, defers := _ } : Act) = A; (with_reducible refine hK A ?_); clear hK K
          refine wpQuiet_step (fun K hK => ?_); subst hA; go_simp; (try (with_reducible refine ⟨_, fun _ _ => rfl, ?_⟩)); generalize hA : ({ tmps := _, defers := _ } : Act) = A; (with_reducible refine hK A ?_); clear hK K
          refine wpQuiet_step (fun K hK => ?_); subst hA; go_simp; (try (with_reducible refine ⟨_, fun _ _ => rfl, ?_⟩)); generalize hA : ({ tmps := _, defers := _ } : Act) = A; (with_reducible refine hK A ?_); clear hK K
          refine wpQuiet_step (fun K hK => ?_); subst hA; go_simp; (try (with_reducible refine ⟨_, fun _ _ => rfl, ?_⟩)); generalize hA : ({ tmps := _, defers := _ } : Act) = A; (with_reducible refine hK A ?_); clear hK K
          refine wpQuiet_step (fun K hK => ?_); subst hA; go_simp; (try (with_reducible refine ⟨_, fun _ _ => rfl, ?_⟩)); generalize hA : ({ tmps := _, defers := _ } : Act) = A; (with_reducible refine hK A ?_); clear hK K
          refine wpQuiet_step (fun K hK => ?_); subst hA; go_simp; (try (with_reducible refine ⟨_, fun _ _ => rfl, ?_⟩)); generalize hA : ({ tmps := _, defers := _ } : Act) = A; (with_reducible refine hK A ?_); clear hK K
          refine wpQuiet_step (fun K hK => ?_); subst hA; go_simp; (try (with_reducible refine ⟨_, fun _ _ => rfl, ?_⟩)); generalize hA : ({ tmps := _, defers := _ } : Act) = A; (with_reducible refine hK A ?_); clear hK K
          subst hA
          refine wpQuiet_nil ?_
          intro wz hbz
          have HBZ := Lib.hid (HBX.out.trans (hbz.mono HBX.out.size)); clear hbz d0 hp0
          obtain ⟨e0, e1⟩ := HCEL.out wz (HB.out.trans (HBZ.out.mono HB.out.size))
          have hbs : w.heap.size ≤ wz.heap.size := Nat.le_trans HB.out.size HBZ.out.size
          have HBS := Lib.hid hbs; clear hbs
          have HOZ := Lib.hid (Rw.own_kept HOWN.out HBZ.out)
          go_wp2_with (at_builtin; refine Rw.append_own kindR 36 28 Try.underlying28 infoRec rfl rfl _ _ rfl w.heap.size _ s.length s rfl (HOZ.out.alloc _) _ 1 [x] rfl (by simp) (Rw.Ts.made _ [x] _) (by unfold maxLen; simp; omega) (by simp; omega) (by have := HBS.out; simp; omega) ?_; intro v2 w4 hv2 hg2; have hb2 := Rw.own_below (HOZ.out.alloc _) hg2 ((HB.out.trans (HBZ.out.mono HB.out.size)).alloc HBS.out _) (by have := HBS.out; simp; omega); obtain ⟨g, cc, rfl, hgb⟩ := own_pos hv2 (by simp); have HV : Hid (w4.ownsRow w.heap.size 36 kindR.K (.slice (some ⟨g, 0, none⟩) (s.length + 1) cc) (s.length + 1) (Rw.row kindR (holeR s s.length x))) := Lib.hid (by rw [hole_end]; exact hv2); have HB2 := Lib.hid hb2; have HGB := Lib.hid hgb; clear hv2 hg2 hb2 hgb e0 e1)
          go_loopw [6] (fun v wx => ∃ j : Nat, v = .int .i64 j ∧ p ≤ j ∧ j ≤ s.length ∧ (∃ z, wx.ownsRow w.heap.size 36 kindR.K (.slice (some ⟨g, 0, none⟩) (s.length + 1) cc) (s.length + 1) (Rw.row kindR (holeR s j z))) ∧ Below w.heap.size w wx) (fun v _ => (intOf v).toNat)
          case atStart => exact ⟨s.length, by simp, hp, Nat.le_refl _, ⟨x, HV.out⟩, HB2.out⟩
          case round =>
            obtain ⟨wy, rfl⟩ : ∃ wy, wy = wr := ⟨_, rfl⟩
            obtain ⟨j, rfl, hpj, hj, ⟨z, hoz⟩, hby⟩ := hrel
            have HBY := Lib.hid hby; clear hby
            by_cases hjp : p < j
            · have hjz : (p : Int) < (j : Int) := by omega
              obtain ⟨q, hq⟩ : ∃ q, j = q + 1 := ⟨j - 1, by omega⟩
              obtain ⟨y, hy⟩ : ∃ y, s[q]? = some y := ⟨_, List.getElem?_eq_getElem (by omega)⟩
              obtain ⟨c0, c1, _, _⟩ := own_at hoz (i := q) (r := y) (by rw [hole_at (by omega) hj]; exact hy)
              obtain ⟨d0, d1, f0, f1⟩ := own_at hoz (i := j) (r := z) (by unfold holeR; rw [List.getElem?_append_right (by rw [List.length_take]; omega), List.length_take, show j - min j s.length = 0 by omega]; rfl)
              have hput := own_putR hoz j y
              rw [hole_set hj] at hput
              have hdn : holeR s j y = holeR s q y := by rw [hq]; exact hole_down hy
              rw [hdn] at hput
              have hw : IntKind.i64.wrap ((j : Int) - 1) = (q : Int) := by rw [IntWalk.i64_in _ (by omega)]; omega
              have hq1 : (q : Int) < (s.length : Int) + 1 := by omega
              have hj1 : (j : Int) < (s.length : Int) + 1 := by omega
              have HPUT := Lib.hid hput; have HQ := Lib.hid hq; clear hput hq hy hdn hoz
              go_wp2_with fail
              go_roundw
              case rel => exact ⟨q, rfl, by have := HQ.out; omega, by have := HQ.out; omega, ⟨y, HPUT.out⟩, (HBY.out.setCell (p := ⟨g, j * 2, none⟩) HGB.out _).setCell (p := ⟨g, j * 2 + 1, none⟩) HGB.out _⟩
              case measure => simp only [intOf]; have := HQ.out; omega
            · have hjz : ¬ (p : Int) < (j : Int) := by omega
              obtain rfl : j = p := by omega
              obtain ⟨e0, e1⟩ := HCEL.out wy HBY.out
              obtain ⟨d0, d1, f0, f1⟩ := own_at hoz (i := j) (r := z) (by unfold holeR; rw [List.getElem?_append_right (by rw [List.length_take]; omega), List.length_take, show j - min j s.length = 0 by omega]; rfl)
              have hput := own_putR hoz j x
              rw [hole_set hj] at hput
              have hins : holeR s j x = sortR (s ++ [x]) := ins_sorted HSP.out HFIN.out HGT.out hj
              have hj1 : (j : Int) < (s.length : Int) + 1 := by omega
              have hln : s.length + 1 = (sortR (s ++ [x])).length := by rw [sortR_perm.length_eq]; simp
              rw [hins, ← HNEXT.out] at hput
              rw [← HNEXT.out] at hln
              have HLN := Lib.hid hln
              have HPUT := Lib.hid hput; clear hput hins hoz hln
              go_wp2_with fail
              go_roundw
              case rel => exact ⟨k + 1, by omega, by simp, by rw [← HLN.out]; exact HPUT.out, (HBY.out.setCell (p := ⟨g, j * 2, none⟩) HGB.out _).setCell (p := ⟨g, j * 2 + 1, none⟩) HGB.out _⟩
              case measure => simp only [intOf]; omega
    · have hkl : k = l.length := by omega
      have hltz : ¬ (k : Int) < (l.length : Int) := by omega
      have HK : Hid (sortR (l.take k) = sortR l) := Lib.hid (by rw [hkl, List.take_length])
      have hown' := hown
      rw [HK.out] at hown'
      have HOWN := Lib.hid hown'; have HB := Lib.hid hb; clear hown hown' hb hkl
      go_wp2_with fail
      go_ret
      exact ⟨⟨_, rfl, HOWN.out⟩, HB.out⟩
end Vr
end

section
namespace Vr
open Go.ChangeShapes Go.WideShapes Go.ChangeAt Go.RowKit Go.BigFrame
set_option maxRecDepth 100000
/-- a row of the call's own, as a slice that can be read -/
theorem own_ts {w : World} {base n : Nat} {v : Value} {l : List Rd} (h : w.ownsRow base 36 kindR.K v n (Rw.row kindR l)) : ∃ A c, v = .slice A l.length c ∧ Rw.Ts kindR w A l ∧ (A = none → c = 0 ∧ l = []) ∧ l.length ≤ c ∧ c ≤ maxLen := by
  obtain ⟨A, c, e, hT, h1, h2, h3, _⟩ := Rw.Ts.of_own h
  exact ⟨A, c, e, hT, fun hA => ⟨h3 hA, by have := h3 hA; exact List.eq_nil_of_length_eq_zero (by omega)⟩, h1, h2⟩
end Vr
end

section
namespace Vr
/-- behind i of sa: what is left of it, and of sb what it has not met -/
structure SubI (sa sb : List Rd) (i : Nat) (rest away : List Rd) : Prop where
  met : ∃ c, sb = c ++ away ∧ (sa.take i).Perm (rest ++ c)
  sub : rest.Sublist (sa.take i)
  hope : ∀ p, sa.Perm (p ++ sb) → ∃ p', (sa.drop i).Perm (p' ++ away)
theorem SubI.start (sa sb : List Rd) : SubI sa sb 0 [] sb := ⟨⟨[], rfl, by simp⟩, by simp, fun p h => ⟨p, h⟩⟩
theorem take_snoc {l : List Rd} {i : Nat} {r : Rd} (h : l[i]? = some r) : l.take (i + 1) = l.take i ++ [r] := by rw [List.take_add_one, h]; rfl
theorem drop_cons {l : List Rd} {i : Nat} {r : Rd} (h : l[i]? = some r) : l.drop i = r :: l.drop (i + 1) := by
  rw [List.drop_eq_getElem_cons (List.getElem?_eq_some_iff.1 h).1, (List.getElem?_eq_some_iff.1 h).2]
theorem SubI.hit {sa sb rest t : List Rd} {i : Nat} {r : Rd} (h : SubI sa sb i rest (r :: t)) (hr : sa[i]? = some r) : SubI sa sb (i + 1) rest t where
  met := by
    obtain ⟨c, h1, h2⟩ := h.met
    refine ⟨c ++ [r], by rw [h1]; simp, ?_⟩
    rw [take_snoc hr, ← List.append_assoc]
    exact h2.append_right [r]
  sub := by rw [take_snoc hr]; exact h.sub.trans (List.sublist_append_left _ _)
  hope := fun p hp => by
    obtain ⟨p', h'⟩ := h.hope p hp
    rw [drop_cons hr] at h'
    exact ⟨p', (List.Perm.cons_inv (h'.trans List.perm_middle))⟩
theorem SubI.miss {sa sb rest away : List Rd} {i : Nat} {r : Rd} (h : SubI sa sb i rest away) (hr : sa[i]? = some r) (hs : sa.Pairwise Rd.Le) (hb : sb.Pairwise Rd.Le) (hx : ∀ x t, away = x :: t → x ≠ r) : SubI sa sb (i + 1) (rest ++ [r]) away where
  met := by
    obtain ⟨c, h1, h2⟩ := h.met
    refine ⟨c, h1, ?_⟩
    rw [take_snoc hr, List.append_assoc]
    refine (h2.append_right [r]).trans ?_
    rw [List.append_assoc]
    exact List.Perm.append_left _ List.perm_append_comm
  sub := by rw [take_snoc hr]; exact h.sub.append (List.Sublist.refl _)
  hope := fun p hp => by
    obtain ⟨p', h'⟩ := h.hope p hp
    obtain ⟨c, hc, _⟩ := h.met
    rw [drop_cons hr] at h'
    have hn : r ∉ away := by
      intro hm
      cases away with
      | nil => simp at hm
      | cons x t =>
        have hxr := hx x t rfl
        have hxd : x ∈ r :: sa.drop (i + 1) := h'.mem_iff.2 (by simp)
        have hle : r.Le x := by
          rcases List.mem_cons.1 hxd with e | hxd
          · exact absurd e hxr
          · have hd : (r :: sa.drop (i + 1)).Pairwise Rd.Le := by rw [← drop_cons hr]; exact hs.sublist (List.drop_sublist _ _)
            exact (List.pairwise_cons.1 hd).1 x hxd
        rcases List.mem_cons.1 hm with e | hm
        · exact hxr e.symm
        · rw [hc] at hb
          have hb2 := (List.pairwise_append.1 hb).2.1
          exact hxr (Rd.Le_antisymm ((List.pairwise_cons.1 hb2).1 r hm) hle)
    have hp' : r ∈ p' := by
      have : r ∈ p' ++ away := h'.mem_iff.1 (by simp)
      rcases List.mem_append.1 this with h | h
      · exact h
      · exact absurd h hn
    refine ⟨p'.erase r, ?_⟩
    have := h'.trans ((List.perm_cons_erase hp').append_right away)
    exact List.Perm.cons_inv (a := r) this
theorem SubI.yes {a b rest : List Rd} (h : SubI (sortR a) (sortR b) (sortR a).length rest []) : lessR a b = some rest := by
  obtain ⟨c, h1, h2⟩ := h.met
  rw [List.append_nil] at h1
  rw [List.take_length] at h2
  have hs := h.sub
  rw [List.take_length] at hs
  refine lessR_some.2 ⟨sortR_sort.sublist hs, ?_⟩
  rw [← h1] at h2
  exact sortR_perm.symm.trans (h2.trans (List.Perm.append_left _ sortR_perm))
theorem SubI.no {a b rest away : List Rd} (h : SubI (sortR a) (sortR b) (sortR a).length rest away) (hn : 0 < away.length) : lessR a b = none := by
  refine lessR_none.2 fun p hp => ?_
  obtain ⟨p', h'⟩ := h.hope p ((sortR_perm.trans hp).trans (List.Perm.append_left _ sortR_perm.symm))
  rw [List.drop_length] at h'
  have := h'.length_eq
  simp at this
  omega
/-- the first place of x -/
theorem erase_at : ∀ {l : List Rd} {p : Nat} {x : Rd}, l[p]? = some x → (∀ y ∈ l.take p, y ≠ x) → l.take p ++ l.drop (p + 1) = l.erase x
  | [], p, x, h, _ => by simp at h
  | y :: l, 0, x, h, _ => by
    have : y = x := by simpa using h
    subst this
    simp
  | y :: l, p + 1, x, h, hn => by
    have h1 : y ≠ x := hn y (by simp)
    have h2 := erase_at (l := l) (p := p) (x := x) (by simpa using h) (fun z hz => hn z (by simp [hz]))
    rw [List.take_succ_cons, List.drop_succ_cons, List.cons_append, h2, List.erase_cons_tail (by simpa using h1)]
end Vr
end

section
namespace Vr
open Go.ChangeShapes Go.WideShapes Go.ChangeAt Go.RowKit Go.BigFrame
set_option maxRecDepth 100000
/-- what Less answers -/
def LessD (o : Option (List Rd)) (w : World) (e : Ending) (w' : World) : Prop := (∃ v, e = .returned (.tuple #[v, .bool o.isSome]) ∧ w'.ownsRow w.heap.size 36 kindR.K v (o.getD []).length (Rw.row kindR (o.getD []))) ∧ Below w.heap.size w w'
/-- a row that can be read, apart from one that is appended to -/
theorem aw_grown {w w' : World} {base n K : Nat} {T : TypeId} {v : Value} {xs : List Value} {A : Option Addr} {l : List Rd} (h : Rw.Ts kindR w A l) (hab : ∀ ad, A = some ad → ad.block < base ∨ l = []) (hg : w.grownBy w' v.ownBlock) (ho : w.ownsRow base T K v n xs) : Rw.Ts kindR w' A l := fun hn => by
  obtain ⟨b, o, e, hlt, hc⟩ := h hn
  have hb : b < base := (hab _ e).resolve_right (by intro e; rw [e] at hn; simp at hn)
  refine ⟨b, o, e, Nat.lt_of_lt_of_le hlt hg.size, fun j u hu => ?_⟩
  have hne : some b ≠ v.ownBlock := fun e' => by have := (ho.lt b e'.symm).1; omega
  exact (World.cell?_of_block (a := ⟨b, o + j, none⟩) (hg.block b hlt hne)).trans (hc j u hu)
end Vr
end

section
namespace Vr
open Go.ChangeShapes Go.WideShapes Go.ChangeAt Go.RowKit Go.BigFrame
set_option maxRecDepth 100000
theorem lessL_hit {s m : List Rd} {x : Rd} (h : x ∈ s) : lessL s (x :: m) = lessL (s.erase x) m := by
  show (if x ∈ s then lessL (s.erase x) m else none) = _
  rw [if_pos h]
theorem lessL_miss {s m : List Rd} {x : Rd} (h : ¬ x ∈ s) : lessL s (x :: m) = none := by
  show (if x ∈ s then lessL (s.erase x) m else none) = _
  rw [if_neg h]
/-- append of a part of a row -/
theorem append_n {P : Program} {w : World} {ops : Array Oper} {rest : List Oper} {o : Oper} {a : Act} {Q : Exit → Act → World → Prop} (T TS : TypeId) {z : Value} {bytes : Nat}
    (hu : P.underlying TS = some (.slice T)) (hinfo : (P.info? T).map (fun i => (i.zero, i.size, i.bytes)) = some (some z, kindR.K, bytes)) (hz : z.cells.size = kindR.K) (hgd : o.guard = none) (s x : Operand)
    (ho : o.op = .call { callee := .builtin .append, args := #[s, x], argTypes := #[TS, TS] })
    (base : Nat) (v : Value) (n : Nat) (ts : List Rd) (hs : a.eval s = v) (hown : w.ownsRow base T kindR.K v n (Rw.row kindR ts))
    (A : Option Addr) (c : Nat) (ys : List Rd) (m : Nat) (hm : ys.length = m) (hx : a.eval x = .slice A m c) (hA : A = none → c = 0 ∧ ys = []) (hb : Rw.Ts kindR w A ys)
    (hle : n + m ≤ maxLen) (hby : (n + m) * bytes ≤ 140737488355328) (hbase : base ≤ w.heap.size)
    (h : ∀ v' w', w'.ownsRow base T kindR.K v' (n + m) (Rw.row kindR (ts ++ ys)) → w.grownBy w' v.ownBlock → wpList P ops Q rest (a.put o.dst v') w') : wpList P ops Q (o :: rest) a w := by
  subst hm
  exact Rw.append_own kindR T TS hu hinfo hz hgd s x ho base v n ts hs hown A c ys hx hA hb hle hby hbase h
theorem ts_grown {w w' : World} {g : Nat} {v : Value} {l : List Rd} (h : Rw.Ts kindR w (some ⟨g, 0, none⟩) l) (hg : w.grownBy w' v.ownBlock) (hv : v.ownBlock = none) : Rw.Ts kindR w' (some ⟨g, 0, none⟩) l := fun hn => by
  obtain ⟨b, o, e, hlt, hc⟩ := h hn
  cases e
  refine ⟨g, 0, rfl, Nat.lt_of_lt_of_le hlt hg.size, fun j u hu => ?_⟩
  exact (World.cell?_of_block (a := ⟨g, 0 + j, none⟩) (hg.block g hlt (by rw [hv]; intro e; cases e))).trans (hc j u hu)
end Vr
end
end Go.Proofs.Ytcjdjdhjbchaaaa
