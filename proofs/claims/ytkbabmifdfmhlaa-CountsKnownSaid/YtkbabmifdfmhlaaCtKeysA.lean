/- CtKeys, CtFront -/
import Derived.Test.YtkbabmifdfmhlaaCtCopy
import Derived.Test.YtkbabmifdfmhlaaFrOf
import Derived.Laws.IdiomRangeMap
import Derived.Sort.MapsRangeIn
import Derived.Maps.RangeWalk
namespace Go.Proofs.Ytkbabmifdfmhlaa
set_option linter.unusedVariables false
section
open Go.ChangeShapes Go.WideShapes Go.ChangeAt Go.RowKit Go.BigFrame Go.Shelf
set_option maxRecDepth 100000
theorem mkeys_any (b : Option Nat) (w : World) :
    Calls Try.prog 40 #[.map b] w fun e w' => e = .returned (.func (.func 67) #[] #[.pointer (some ⟨w.heap.size, 0, none⟩)]) ∧ w' = w.alloc (.cells #[.map b] 55) := by
  go_enter Try.func40, Try.ntmps40
  go_wp2_with fail
  go_ret
  exact ⟨rfl, rfl⟩
/-- what has come, and what is left -/
structure ColC (L : Cn) (left : Lit → Bool) (xs : List RSt) : Prop where
  sub : ∀ t ∈ raw xs, t ∈ timesC L
  nodup : (raw xs).Nodup
  all : ∀ e ∈ timesC L, left (kt e) = true ∨ e ∈ raw xs
  gone : ∀ t ∈ raw xs, left (kt t) = false
section
variable {L : Cn} {D : List (Lit × DataW Unit)} {left : Lit → Bool} {xs : List RSt}
theorem mem_timesC {t : St} : t ∈ timesC L ↔ ∃ p ∈ L, p.1 = t := by simp [timesC]
theorem ColC.start (hp : D.Perm (L.map entC)) (hR : ∀ p ∈ L, p.1.R ∧ Nr p.2) : ColC L (Go.Maps.has (.map D)) [] := by
  refine ⟨by simp [raw], by simp [raw], fun e he => .inl ?_, by simp [raw]⟩
  obtain ⟨p, hp1, rfl⟩ := mem_timesC.1 he
  rw [Go.Maps.has_eq, List.any_eq_true]
  exact ⟨entC p, hp.mem_iff.2 (List.mem_map_of_mem hp1), WideAt.sameKey_self (kt_lit (hR p hp1).1.w)⟩
theorem map_atC {k : Lit} {y : DataW Unit} (hp : D.Perm (L.map entC)) (hat : ∀ zd, (DataW.map D).atKey k zd = y) : ∃ p ∈ L, kt p.1 = k ∧ y = .lit (.int .i64 p.2) := by
  have h1 : Go.Maps.has (.map D) k = true := Go.Maps.has_true_of_atKey hat
  rw [Go.Maps.has_eq, List.any_eq_true] at h1
  have h2 := hat .nil
  unfold DataW.atKey at h2
  dsimp only at h2
  cases hf : D.find? (fun p => p.1.sameKey k) with
  | none =>
    rw [List.find?_eq_none] at hf
    obtain ⟨p, hp1, hp2⟩ := h1
    exact absurd hp2 (hf p hp1)
  | some p =>
    rw [hf] at h2
    dsimp only at h2
    have hs := List.find?_some hf
    obtain ⟨u, hu, e⟩ := List.mem_map.1 (hp.mem_iff.1 (List.mem_of_find?_eq_some hf))
    refine ⟨u, hu, ?_, ?_⟩
    · have h5 := WideAt.sameKey_eq hs
      rw [← e] at h5
      exact h5
    · rw [← h2, ← e]; rfl
theorem ColC.step (h : ColC L left xs) (hR : ∀ p ∈ L, p.1.R ∧ Nr p.2) {c : RSt} (hc : c.1 ∈ timesC L) {k : Lit} (hk : kt c.1 = k) (hl : left k = true) :
    ColC L (fun z => left z && !z.sameKey k) (xs ++ [c]) := by
  have hr : raw (xs ++ [c]) = raw xs ++ [c.1] := by simp [raw]
  have hself : k.sameKey k = true := by rw [← hk]; exact WideAt.sameKey_self (kt_lit c.2.w)
  refine ⟨?_, ?_, ?_, ?_⟩
  · intro t ht
    rw [hr] at ht
    rcases List.mem_append.1 ht with ht | ht
    · exact h.sub t ht
    · rw [List.mem_singleton] at ht; subst ht; exact hc
  · rw [hr, List.nodup_append]
    refine ⟨h.nodup, by simp, fun a ha b hb e => ?_⟩
    rw [List.mem_singleton] at hb
    subst hb; subst e
    have := h.gone _ ha
    rw [hk, hl] at this; cases this
  · intro e he
    rw [hr]
    by_cases hs : (kt e).sameKey k = true
    · refine .inr (List.mem_append_right _ ?_)
      have h1 : kt e = kt c.1 := (WideAt.sameKey_eq hs).trans hk.symm
      obtain ⟨p, hp1, e1⟩ := mem_timesC.1 he
      have hew : e.W := by rw [← e1]; exact (hR p hp1).1.w
      rw [kt_inj hew c.2.w h1]
      simp
    · rcases h.all e he with h1 | h1
      · refine .inl ?_
        simp [h1, hs]
      · exact .inr (List.mem_append_left _ h1)
  · intro t ht
    rw [hr] at ht
    rcases List.mem_append.1 ht with ht | ht
    · simp [h.gone t ht]
    · rw [List.mem_singleton] at ht; subst ht
      rw [hk, hself]; simp
theorem ColC.done (h : ColC L left xs) (hl : ∀ k, left k = false) : AllOf (timesC L) xs :=
  ⟨h.nodup, fun t => ⟨h.sub t, fun ht => by
    rcases h.all t ht with h1 | h1
    · rw [hl] at h1; cases h1
    · exact h1⟩⟩
end
theorem plain_ii {v : Value} {y : DataW Unit × List MemPlace} (h : RI v = some y) : ∃ c, v = Value.int .i64 c := by
  obtain ⟨c, rfl, _⟩ := plainElem_int_inv Try.underlying2 h; exact ⟨c, rfl⟩
set_option maxHeartbeats 2000000 in
theorem keysC_some (n : Nat) (hn : 1 ≤ n) (Bm b nn : Nat) (L : Cn) (w : World) (hBm : BoxAt w Bm (.map (some b))) (hM : MapC w b nn L) :
    SeqStopsK Fence.wide n Try.prog 67 #[.pointer (some ⟨Bm, 0, none⟩)] encS KeepsWalks (AllOf (timesC L)) (fun _ => True) L.length w := fun l J Jx W hW hJ _ hY h0 => by
  have hm := (hBm.below hW).2
  obtain ⟨⟨D, hown, hp⟩, hR⟩ := hM
  have hown : W.ownsMap Try.prog 25 RI b nn (.map D) := by
    have hbl := hown.lt
    obtain ⟨es, clock, hb, Ft, hs, hD⟩ := hown
    exact ⟨es, clock, (hW.block b hbl).trans hb, Ft, hs, hD⟩
  have hsize : Go.Maps.size (DataW.map D) = L.length := by
    rw [Go.Maps.size_eq, hp.length_eq, List.length_map]
  have HP := Lib.hid (And.intro hp hR); have HJ := Lib.hid hJ
  have hcol := ColC.start hp hR
  clear hp hR hJ hBm hW
  refine callsIn_of_wp Try.func67 rfl trivial ?_ rfl
  simp only [Try.ntmps67, List.size_toArray, List.length_cons, List.length_nil, Nat.reduceAdd, Nat.reduceSub, Array.replicate_succ, Array.replicate_zero, List.push_toArray, List.append_toArray, List.nil_append, List.cons_append]
  gi_wp2_with (first
    | (gi_at_range; refine wpListIn_range_own _ rfl _ 55 rfl 25 2 keyed5 Try.underlying55 RI b nn _ rfl hown ?_; intro w0 hrg0 hg0 hs0)
    | gi_in)
  go_frame
  gi_loopw [3] (fun _ wr => ∃ (left : Lit → Bool) (cnt : Nat) (xs : List RSt), wr.ranges Try.prog 25 RI b W.heap.size nn (.map D) left cnt ∧ xs.length + cnt ≤ L.length ∧ ColC L left xs ∧ J xs wr)
    (fun _ wr => wr.rangeLeft b W.heap.size)
  case atStart =>
    exact ⟨_, _, [], hrg0, by rw [hsize]; simp, hcol, HJ.out [] W w0 none h0 hg0 (fun r e => by cases e)⟩
  case round =>
    obtain ⟨left, cnt, xs, hrg, hcs, hC, hJs⟩ := hrel
    clear hcol hrg0 hg0 hs0 hm h0
    have HC := Lib.hid hC; clear hC
    gi_wp2_with (first
      | (gi_at_next; refine wpListIn_next_ranges _ rfl _ rfl 25 keyed5 RI id (Value.int .i64) (fun key kl _ => ⟨key, rfl⟩) (fun v y hv => plain_ii hv) b W.heap.size nn _ _ _ rfl hrg ?_ ?_)
      | gi_in)
    · intro hc0 hl0
      have H := Lib.hid (HC.out.done hl0)
      gi_wp2
      go_end0
      exact ⟨⟨_, rfl⟩, .inl ⟨xs, H.out, hJs⟩⟩
    · intro x v kl0 yd yp w2 cnt2 hkey hlk hv hat hrg2 hlt hg2 hs2 hen
      obtain ⟨p, hpL, hpk, hpy⟩ := map_atC HP.out.1 hat
      obtain ⟨c, hc⟩ : ∃ c, p.1 = c := ⟨_, rfl⟩
      have hcR : c.R := by rw [← hc]; exact (HP.out.2 p hpL).1
      have hcL : c ∈ timesC L := mem_timesC.2 ⟨p, hpL, hc⟩
      rw [hc] at hpk
      have hx : x = c.val := keyed5.inj hkey (by rw [← hpk]; exact keyOf_kt hcR.w)
      subst hx
      have hJ2 : J xs w2 := HJ.out xs wr w2 (some W.heap.size) hJs hg2 (fun r e => by cases e; exact ⟨Nat.le_refl _, hrg.iter_walk⟩)
      have hJ3 : J xs (w2.alloc (.cells #[.int .i64 c.d, .int .i64 c.e, .int .i64 c.x, .int .i64 c.y, .int .i64 c.z] 25)) := HJ.out _ _ _ none hJ2 (World.grownBy_alloc _ _ none) (fun r e => by cases e)
      obtain ⟨fn, tmps, assign, body, hy, hRR⟩ := hY xs ⟨c, hcR⟩ _ hJ3 (by omega)
      dsimp only [encS] at hy
      have hC2 := HC.out.step HP.out.2 (c := ⟨c, hcR⟩) hcL hpk hlk
      have hrg3 := hrg2.of_walks (KeepsWalks.alloc w2 (.cells #[.int .i64 c.d, .int .i64 c.e, .int .i64 c.x, .int .i64 c.y, .int .i64 c.z] 25))
      have HC2 := Lib.hid hC2; have HRG := Lib.hid hrg3; have HR := Lib.hid hRR; have HRG0 := Lib.hid hrg
      unfold St.val at *
      clear hs2 hC2 hrg3 hRR hrg hrg2 hkey hlk hv hat hg2 hJ2 hJ3 hJs HC hpL hpk hpy hc hcL
      gi_wp2
      refine HR.out.mono ?_
      rintro e W3 (⟨rfl, hJ3, hk3⟩ | ⟨rfl, hJx3⟩)
      · have hrg4 := HRG.out.of_walks hk3
        have HRG4 := Lib.hid hrg4; clear hrg4 hk3
        gi_wp2
        go_roundw
        case rel => exact ⟨_, cnt2, xs ++ [⟨c, _⟩], HRG4.out, by rw [List.length_append]; simp; omega, HC2.out, hJ3⟩
        case measure => rw [HRG4.out.left_eq, HRG0.out.left_eq]; exact hlt
      · gi_wp2
        refine bodyPost_ret (results_none rfl _ _ _) rfl ?_
        exact ⟨⟨_, rfl⟩, .inr ⟨_, trivial, hJx3⟩⟩
set_option maxHeartbeats 2000000 in
theorem keysC_none (n : Nat) (hn : 1 ≤ n) (Bm : Nat) (w : World) (hBm : BoxAt w Bm (.map none)) :
    SeqStopsK Fence.wide n Try.prog 67 #[.pointer (some ⟨Bm, 0, none⟩)] encS KeepsWalks (AllOf (timesC [])) (fun _ => True) 0 w := fun l J Jx W hW hJ _ hY h0 => by
  have hm := (hBm.below hW).2
  have hrg := run_range_nilMap (P := Try.prog) W 55 25 2 Try.underlying55
  have hnx := fun ty => run_next_nilMap (P := Try.prog) W ty 0 0 #[]
  have hJ1 : J [] (W.alloc (.mapIter none 0 #[] 0)) := hJ _ _ _ none h0 (World.grownBy_alloc _ _ none) (fun r e => by cases e)
  have HJ1 := Lib.hid hJ1
  clear hJ1 hJ hBm hW
  refine callsIn_of_wp Try.func67 rfl trivial ?_ rfl
  simp only [Try.ntmps67, List.size_toArray, List.length_cons, List.length_nil, Nat.reduceAdd, Nat.reduceSub, Array.replicate_succ, Array.replicate_zero, List.push_toArray, List.append_toArray, List.nil_append, List.cons_append]
  gi_wp2
  gi_loopw [3] (fun _ wr => wr = W.alloc (.mapIter none 0 #[] 0)) (fun _ wr => 0)
  case atStart => rfl
  case round =>
    subst hrel
    gi_wp2
    go_end0
    exact ⟨⟨_, rfl⟩, .inl ⟨[], ⟨by simp [raw], by simp [raw, timesC]⟩, HJ1.out⟩⟩
theorem keysC (n : Nat) (hn : 1 ≤ n) (Bm : Nat) (m : Option Nat) (nn : Nat) (L : Cn) (w : World) (hBm : BoxAt w Bm (.map m)) (hM : MapN w m nn L) :
    SeqStopsK Fence.wide n Try.prog 67 #[.pointer (some ⟨Bm, 0, none⟩)] encS KeepsWalks (AllOf (timesC L)) (fun _ => True) L.length w := by
  rcases hM with ⟨rfl, rfl⟩ | ⟨k, rfl, h⟩
  · exact keysC_none n hn Bm w hBm
  · exact keysC_some n hn Bm k nn L w hBm h
/-- sorted, they are as they stand -/
theorem sort_times {L : Cn} {xs : List RSt} (hk : CnOk L) (h : AllOf (timesC L) xs) : sortS (raw xs) = timesC L := by
  have hp := sortS_perm (raw xs)
  have hnd : (sortS (raw xs)).Nodup := hp.nodup_iff.2 h.1
  refine sorted_ext ((List.Pairwise.and (sortS_rises (raw xs)) hnd).imp ?_) ?_ fun t => hp.mem_iff.trans (h.2 t)
  · rintro x y ⟨h1, h2⟩
    rcases Int.lt_or_eq_of_le h1 with h3 | h3
    · exact h3
    · exact absurd (St.C_zero.1 h3) h2
  · unfold timesC
    rw [List.pairwise_map]
    exact hk.sort
theorem timesC_len (L : Cn) : (timesC L).length = L.length := by simp [timesC]
/-- a row of the call's own is given -/
def Gives1 (w : World) (l : List St) (e : Ending) (w' : World) : Prop :=
  (∃ v, e = .returned v ∧ w'.ownsRow w.heap.size 25 5 v l.length (rowS l)) ∧ Below w.heap.size w w'
set_option maxHeartbeats 1000000 in
theorem times_any {w : World} {base b N : Nat} {m : Option Nat} {d : Int} {L : Cn} (h : Ct w base b m N d L) (hl : L.length ≤ 1000) :
    Calls Try.prog 17 #[.pointer (some ⟨b, 0, none⟩)] w (Gives1 w (timesC L)) := by
  have hc := h.c1
  have hB : Below w.heap.size w (w.alloc (.cells #[.map m] 55)) := (Below.refl _ _).alloc (Nat.le_refl _) _
  have hM : MapN (w.alloc (.cells #[.map m] 55)) m N L := MapN.below h.of hB
  have hso := sortedFunc_any 67 L.length #[.pointer (some ⟨w.heap.size, 0, none⟩)] (AllOf (timesC L)) (fun _ => True) hl
    (fun ys hy => by
      have h1 : (raw ys).Perm (timesC L) := (List.perm_ext_iff_of_nodup hy.1 (by
        have hs := h.ok.sort
        unfold timesC
        rw [List.Nodup, List.pairwise_map]
        exact hs.imp (by intro a b hlt e; rw [e] at hlt; exact St.C_irrefl hlt))).2 hy.2
      have h2 := h1.length_eq
      rw [raw_length, timesC_len] at h2; omega)
    _ (w.alloc (.cells #[.map m] 55)) (Below.refl _ _) (enters_of Try.func67 (by kernel_rfl) rfl)
    (fun n hn => keysC n hn w.heap.size m N L _ (BoxAt.made w _ _) hM)
  have HSO := Lib.hid hso; have HK := Lib.hid h.ok; have HB := Lib.hid hB
  have hmk := mkeys_any m w
  have HMK := Lib.hid hmk
  clear hso h hB hM hmk
  go_enter Try.func17, Try.ntmps17
  go_wp2_with fail
  refine (HMK.out).mono ?_; rintro e w2 ⟨rfl, rfl⟩
  go_wp2_with fail
  refine (HSO.out).mono ?_; rintro e w3 ⟨⟨v, ys, rfl, hys, hr⟩, hb3⟩
  rw [sort_times HK.out hys] at hr
  have hn := own_len hr
  rw [hn] at hr
  have HF := Lib.hid (And.intro hr hb3); clear hr hb3 hn hys
  dsimp only
  go_wp2_with fail
  go_ret
  exact ⟨⟨v, rfl, own_base HF.out.1 (by simp)⟩, HB.out.trans (HF.out.2.mono (by simp))⟩
theorem times_nil (w : World) : Calls Try.prog 17 #[.pointer none] w fun e w' => e = .returned (.slice none 0 0) ∧ w = w' := by
  go_enter Try.func17, Try.ntmps17
  go_wp2
  go_ret
  exact ⟨rfl, rfl⟩
end

section
open Go.ChangeShapes Go.WideShapes Go.ChangeAt Go.RowKit Go.BigFrame Go.Shelf
set_option maxRecDepth 100000
/-- those of xs that are there -/
def posX (L : Cn) (xs : List RSt) : List St := (raw xs).filter fun t => decide (0 < cnt L t)
section
variable {L : Cn} {xs : List RSt} {c : RSt} {d : Int}
theorem posX_yes (h : 0 < cnt L c.1) : posX L (xs ++ [c]) = posX L xs ++ [c.1] := by simp [posX, raw, h]
theorem posX_no (h : ¬ 0 < cnt L c.1) : posX L (xs ++ [c]) = posX L xs := by simp [posX, raw, h]
theorem posX_len : (posX L xs).length ≤ xs.length := by
  unfold posX
  refine Nat.le_trans (List.length_filter_le _ _) ?_
  rw [raw_length]; exact Nat.le_refl _
theorem posX_mem {t : St} : t ∈ posX L xs ↔ t ∈ raw xs ∧ 0 < cnt L t := by simp [posX]
theorem posX_front (hk : CnOk L) (he : EvenC L d) (h : AllOf (timesC L) xs) : Even (posX L xs) ∧ ofS (posX L xs) = frC L := by
  have hm : ∀ t, t ∈ posX L xs ↔ t ∈ posC L := fun t => by
    rw [posX_mem, mem_posC hk, h.2]
    constructor
    · exact fun ⟨_, h⟩ => h
    · intro h0
      exact ⟨mem_timesC.2 ⟨_, cnt_ne (by omega), rfl⟩, h0⟩
  have hev : Even (posX L xs) := fun x hx => ⟨(he.pos x ((hm x).1 hx)).1, fun y hy => (he.pos x ((hm x).1 hx)).2 y ((hm y).1 hy)⟩
  refine ⟨hev, Fr.ext (ofS_fr hev) (frC_fr he) fun t => ?_⟩
  unfold frC
  rw [ofS_up hev, ofS_up he.pos]
  constructor
  · rintro ⟨x, hx, hl⟩; exact ⟨x, (hm x).1 hx, hl⟩
  · rintro ⟨x, hx, hl⟩; exact ⟨x, (hm x).2 hx, hl⟩
end
theorem frontier_nil (w : World) : Calls Try.prog 18 #[.pointer none] w fun e w' => e = .returned (.slice none 0 0) ∧ w = w' := by
  go_enter Try.func18, Try.ntmps18
  go_wp2
  go_ret
  exact ⟨rfl, rfl⟩
set_option maxHeartbeats 2000000 in
theorem frontier_none {w : World} {base b N : Nat} {d : Int} (h : Ct w base b none N d []) :
    Calls Try.prog 18 #[.pointer (some ⟨b, 0, none⟩)] w (Gives1 w (frC [])) := by
  have hc := h.c1
  have hrg := run_range_nilMap (P := Try.prog) w 55 25 2 Try.underlying55
  have hnx := fun ty => run_next_nilMap (P := Try.prog) w ty 0 0 #[]
  have hb : Below w.heap.size w (w.alloc (.mapIter none 0 #[] 0)) := (Below.refl _ _).alloc (Nat.le_refl _) _
  have hev : Even [] := fun x hx => by cases hx
  have hof := of_any none [] 0 (w.alloc (.mapIter none 0 #[] 0)) Ts.nil (by simp)
  rw [decide_eq_true hev] at hof
  have hfr : frC [] = ofS [] := rfl
  have HB := Lib.hid hb; have HO := Lib.hid hof; have HFR := Lib.hid hfr; clear hb h hof hev hfr
  go_enter Try.func18, Try.ntmps18
  go_wp2
  go_loopw [3] (fun v wr => v = .slice none 0 0 ∧ wr = w.alloc (.mapIter none 0 #[] 0)) (fun _ wr => 0)
  case atStart => exact ⟨rfl, rfl⟩
  case round =>
    obtain ⟨rfl, rfl⟩ := hrel
    go_wp2_with fail
    refine (HO.out).mono ?_; rintro e w3 ⟨⟨v, rfl, hr⟩, hb3⟩
    have HF := Lib.hid (And.intro hr hb3); clear hr hb3 hc hrg hnx
    dsimp only
    go_wp2_with fail
    go_ret
    rw [HFR.out]
    exact ⟨⟨v, rfl, own_base HF.out.1 (by simp)⟩, HB.out.trans (HF.out.2.mono (by simp))⟩
set_option maxHeartbeats 4000000 in
theorem frontier_some {w : World} {base b N k : Nat} {d : Int} {L : Cn} (h : Ct w base b (some k) N d L) (hl : L.length ≤ 1000) :
    Calls Try.prog 18 #[.pointer (some ⟨b, 0, none⟩)] w (Gives1 w (frC L)) := by
  have hc := h.c1
  have hM : MapC w k N L := by rcases h.of with ⟨e, _⟩ | ⟨k', e, h⟩; cases e; cases e; exact h
  obtain ⟨⟨D, hown, hp⟩, hR⟩ := hM
  have hsize : Go.Maps.size (DataW.map D) = L.length := by rw [Go.Maps.size_eq, hp.length_eq, List.length_map]
  have hcol := ColC.start hp hR
  have HP := Lib.hid (And.intro hp hR); have HK := Lib.hid (And.intro h.ok h.even); have HL := Lib.hid hl
  have HCOL := Lib.hid hcol; have HS := Lib.hid hsize
  clear hp hR h hcol hsize hl
  go_enter Try.func18, Try.ntmps18
  go_wp2_with (first
    | (at_range; refine wpList_range_own _ rfl _ 55 rfl 25 2 keyed5 Try.underlying55 RI k N _ rfl hown ?_; intro w0 hrg0 hg0 hs0)
    | go_in)
  go_frame
  have HRG := Lib.hid hrg0
  have HB0 := Lib.hid (show Below w.heap.size w w0 from (Below.refl w.heap.size w).grown hg0 (Nat.le_refl _) (fun k e => by cases e))
  have HZ := Lib.hid hs0; have HKLT := Lib.hid hown.lt
  clear hc hrg0 hg0 hs0 hown
  obtain ⟨gr, hgr⟩ : ∃ gr, w.heap.size = gr := ⟨_, rfl⟩
  rw [hgr] at HRG HZ HKLT ⊢
  have HG := Lib.hid hgr; clear hgr
  go_loopw [3] (fun v wr => ∃ (left : Lit → Bool) (cn : Nat) (xs : List RSt), wr.ranges Try.prog 25 RI k gr N (.map D) left cn ∧ xs.length + cn ≤ L.length ∧ ColC L left xs ∧ Below gr w wr ∧ wr.ownsRow (gr + 1) 25 5 v (posX L xs).length (rowS (posX L xs)))
    (fun _ wr => wr.rangeLeft k gr)
  case atStart => exact ⟨_, _, [], HRG.out, by rw [HS.out]; simp, HCOL.out, by rw [← HG.out]; exact HB0.out, World.ownsRow_nil _ _ _ _⟩
  case round =>
    obtain ⟨left, cn, xs, hrg, hcs, hC, hbw, hro⟩ := hrel
    have hlen : (posX L xs).length ≤ 1000 := Nat.le_trans posX_len (by have := HL.out; omega)
    obtain ⟨B, c', rfl, hTu, hle, hcm⟩ := Times.of_own hro
    have HC := Lib.hid hC; have HRO := Lib.hid (And.intro hro (And.intro hbw (And.intro hTu hlen))); have HCS := Lib.hid hcs; have HRG0 := Lib.hid hrg
    clear hC hro hbw hTu hlen hle hcm hcs
    go_wp2_with (first
      | (at_next; refine wpList_next_ranges _ rfl _ rfl 25 keyed5 RI id (Value.int .i64) (fun key kl _ => ⟨key, rfl⟩) (fun v y hv => plain_ii hv) k gr N _ _ _ rfl hrg ?_ ?_)
      | go_in)
    · intro hc0 hl0
      have hfin := posX_front HK.out.1 HK.out.2 (HC.out.done hl0)
      have hof := of_any B (posX L xs) c' wr (Ts.of HRO.out.2.2.1) HRO.out.2.2.2
      rw [decide_eq_true hfin.1] at hof
      have HF := Lib.hid hfin.2; have HO := Lib.hid hof; clear hfin hof hc0 hl0 hrg
      generalize posX L xs = us at *
      go_wp2_with fail
      refine (HO.out).mono ?_; rintro e w3 ⟨⟨v, rfl, hr⟩, hb3⟩
      have HH := Lib.hid (And.intro hr hb3); clear hr hb3
      dsimp only
      go_wp2_with fail
      go_ret
      have hbw := HRO.out.2.1
      rw [← HG.out] at hbw
      rw [← HF.out]
      exact ⟨⟨v, rfl, own_base HH.out.1 hbw.size⟩, hbw.trans (HH.out.2.mono hbw.size)⟩
    · intro x v kl0 yd yp w2 cnt2 hkey hlk hv hat hrg2 hlt hg2 hs2 hen
      obtain ⟨p, hpL, hpk, hpy⟩ := map_atC HP.out.1 hat
      obtain ⟨c, hc⟩ : ∃ c, p.1 = c := ⟨_, rfl⟩
      have hcR : c.R := by rw [← hc]; exact (HP.out.2 p hpL).1
      have hcL : c ∈ timesC L := mem_timesC.2 ⟨p, hpL, hc⟩
      have hcv : cnt L c = p.2 := by rw [← hc]; exact cnt_mem HK.out.1 hpL
      rw [hc] at hpk
      obtain rfl : x = c.val := keyed5.inj hkey (by rw [← hpk]; exact keyOf_kt hcR.w)
      have hvp : v = p.2 := by
        obtain ⟨u, hu, hz, _⟩ := plainElem_int_inv Try.underlying2 hv
        cases hu
        have : yd = .lit (.int .i64 v) := congrArg Prod.fst hz
        rw [hpy] at this
        injection this with this; injection this with _ this; exact this.symm
      have hcv2 : cnt L c = v := by rw [hcv, hvp]
      have hC2 := HC.out.step HP.out.2 (c := ⟨c, hcR⟩) hcL hpk hlk
      have hz1 := hrg2.lt
      have hb2 : Below gr w w2 := (HRO.out.2.1).grown hg2 (by have := HRO.out.2.1.size; have := HG.out; have := HRG0.out.lt; omega) (fun j e => by cases e; exact Nat.le_refl _)
      have hro2 : w2.ownsRow (gr + 1) 25 5 (.slice B (posX L xs).length c') (posX L xs).length (rowS (posX L xs)) := by
        refine HRO.out.1.kept hg2 ?_
        cases hob : (Value.slice B (posX L xs).length c').ownBlock with
        | none => exact .inl rfl
        | some j => exact .inr (by have := (HRO.out.1.lt j hob).1; simp; omega)
      have hro3 := (hro2.alloc (.cells #[.int .i64 c.d, .int .i64 c.e, .int .i64 c.x, .int .i64 c.y, .int .i64 c.z] 25)).alloc (.cells #[.int .i64 c.d, .int .i64 c.e, .int .i64 c.x, .int .i64 c.y, .int .i64 c.z] 25)
      have hrg3 := (hrg2.alloc (.cells #[.int .i64 c.d, .int .i64 c.e, .int .i64 c.x, .int .i64 c.y, .int .i64 c.z] 25))
      have hTA := Times.made (w2.alloc (.cells #[.int .i64 c.d, .int .i64 c.e, .int .i64 c.x, .int .i64 c.y, .int .i64 c.z] 25)) [c]
      rw [size_alloc] at hTA
      have hcs2 : xs.length + 1 + cnt2 ≤ L.length := by have := HCS.out; omega
      have hposL := HRO.out.2.2.2
      have HC2 := Lib.hid hC2; have HCV := Lib.hid hcv2; have HRG := Lib.hid hrg3; have HB2 := Lib.hid hb2; have HRO3 := Lib.hid (And.intro hro2 hro3); have HZ1 := Lib.hid hz1
      unfold St.val at *
      clear hC2 hrg3 hb2 hro2 hrg hrg2 hkey hlk hv hat hg2 hs2 HC hpL hpk hpy hc hcL hcv hvp hcv2 HRO
      by_cases hpos : 0 < v
      · have hnx : posX L (xs ++ [⟨c, hcR⟩]) = posX L xs ++ [c] := posX_yes (by show 0 < cnt L c; rw [HCV.out]; exact hpos)
        have hl1 : (posX L (xs ++ [⟨c, hcR⟩])).length ≤ 1000 := Nat.le_trans posX_len (by have := HL.out; rw [List.length_append]; simp; omega)
        rw [hnx] at hl1
        have HNX := Lib.hid hnx; clear hnx
        generalize posX L xs = us at *
        have hlu : us.length + [c].length ≤ 1000 := by simpa using hl1
        have hbs : gr + 1 ≤ ((w2.alloc (.cells #[.int .i64 c.d, .int .i64 c.e, .int .i64 c.x, .int .i64 c.y, .int .i64 c.z] 25)).alloc (.cells #[.int .i64 c.d, .int .i64 c.e, .int .i64 c.x, .int .i64 c.y, .int .i64 c.z] 25)).heap.size := by have := HZ1.out; simp; omega
        clear hl1 hposL
        go_wp2_with (at_builtin; refine wpList_append_times rfl _ _ rfl (gr + 1) _ us.length us rfl hro3 ⟨w2.heap.size + 1, 0, none⟩ 1 [c] rfl (by simp) hTA hlu hbs ?_; intro v' w5 hown' hgr')
        have hrg5 : w5.ranges Try.prog 25 RI k gr N (.map D) (fun z => left z && !z.sameKey kl0) cnt2 := by
          refine (HRG.out.alloc (.cells #[.int .i64 c.d, .int .i64 c.e, .int .i64 c.x, .int .i64 c.y, .int .i64 c.z] 25)).kept hgr' ?_ ?_
          · intro e; have := (HRO3.out.2.lt k e.symm).1; have := HKLT.out; omega
          · intro e; have := (HRO3.out.2.lt gr e.symm).1; omega
        have hb5 : Below gr w w5 := ((HB2.out.alloc (by have := HZ1.out; omega) _).alloc (by have := HZ1.out; simp; omega) _).grown hgr' (by omega) (fun j e => by have := (HRO3.out.2.lt j e).1; omega)
        have H5 := Lib.hid (And.intro hrg5 (And.intro hb5 hown')); clear hrg5 hb5 hown' hgr' hro3 hTA hbs
        go_wp2_with fail
        go_roundw
        case rel => exact ⟨_, cnt2, xs ++ [⟨c, hcR⟩], H5.out.1, by rw [List.length_append]; simp; omega, HC2.out, H5.out.2.1, by rw [HNX.out]; simpa using H5.out.2.2⟩
        case measure => rw [H5.out.1.left_eq, HRG0.out.left_eq]; exact hlt
      · have hnx : posX L (xs ++ [⟨c, hcR⟩]) = posX L xs := posX_no (by show ¬ 0 < cnt L c; rw [HCV.out]; exact hpos)
        have HNX := Lib.hid hnx; clear hnx hro3 hTA hposL
        go_wp2_with fail
        go_roundw
        case rel => exact ⟨_, cnt2, xs ++ [⟨c, hcR⟩], HRG.out, by rw [List.length_append]; simp; omega, HC2.out, HB2.out.alloc (by have := HZ1.out; omega) _, by rw [HNX.out]; exact HRO3.out.1.alloc _⟩
        case measure => rw [HRG.out.left_eq, HRG0.out.left_eq]; exact hlt
theorem frontier_any {w : World} {base b N : Nat} {m : Option Nat} {d : Int} {L : Cn} (h : Ct w base b m N d L) (hl : L.length ≤ 1000) :
    Calls Try.prog 18 #[.pointer (some ⟨b, 0, none⟩)] w (Gives1 w (frC L)) := by
  cases m with
  | none =>
    have : L = [] := by rcases h.of with ⟨_, e⟩ | ⟨k, e, _⟩; exact e; cases e
    subst this
    exact frontier_none h
  | some k => exact frontier_some h hl
end
end Go.Proofs.Ytkbabmifdfmhlaa
