/- FrMVal, FrCollect, FrSort, FrFirst, FrConcat -/
import Derived.Test.YtmhophmpbpbjaaaGreatDoorCa26
import Derived.Sort.MapsRangeIn
import Derived.Sort.KeysCollected
import Derived.Test.YtmhophmpbpbjaaaGreatDoorShelf
import Derived.Shelf.SlSortCmp.NoneTotal
namespace Go.Proofs.YtmhophmpbpbjaaaGreatDoor
set_option linter.unusedVariables false
section
open Go.ChangeShapes Go.WideShapes Go.ChangeAt Go.RowKit Go.BigFrame Go.Shelf
set_option maxRecDepth 100000
theorem mvalues_any (b : Option Nat) (w : World) :
    Calls Tryz.prog 137 #[.map b] w fun e w' => e = .returned (.func (.func 160) #[] #[.pointer (some ⟨w.heap.size, 0, none⟩)]) ∧ w' = w.alloc (.cells #[.map b] 192) := by
  go_enter Tryz.func137, Tryz.ntmps137
  go_wp2_with fail
  go_ret
  exact ⟨rfl, rfl⟩
structure Col (E : List St) (left : Lit → Bool) (xs : List RSt) : Prop where
  sub : ∀ t ∈ raw xs, t ∈ E
  nodup : (raw xs).Nodup
  all : ∀ e ∈ E, left (kl e) = true ∨ e ∈ raw xs
  gone : ∀ t ∈ raw xs, left (kl t) = false
section
variable {E : List St} {L : List (Lit × DataW Unit)} {left : Lit → Bool} {xs : List RSt}
theorem kl_lit {t : St} (h : t.R) : WideAt.IsKeyLit (kl t) := keyed3.key (keyOf_kl h)
theorem Col.start (hp : L.Perm (E.map ent)) (hR : ∀ t ∈ E, t.R) : Col E (Go.Maps.has (.map L)) [] := by
  refine ⟨by simp [raw], by simp [raw], fun e he => .inl ?_, by simp [raw]⟩
  rw [Go.Maps.has_eq, List.any_eq_true]
  exact ⟨ent e, hp.mem_iff.2 (List.mem_map_of_mem he), WideAt.sameKey_self (kl_lit (hR e he))⟩
theorem map_at {k : Lit} {c : St} (hp : L.Perm (E.map ent)) (hat : ∀ zd, (DataW.map L).atKey k zd = dat c) : c ∈ E ∧ kl c = k := by
  have h1 : Go.Maps.has (.map L) k = true := Go.Maps.has_true_of_atKey hat
  rw [Go.Maps.has_eq, List.any_eq_true] at h1
  have h2 := hat .nil
  unfold DataW.atKey at h2
  dsimp only at h2
  cases hf : L.find? (fun p => p.1.sameKey k) with
  | none =>
    rw [List.find?_eq_none] at hf
    obtain ⟨p, hp1, hp2⟩ := h1
    exact absurd hp2 (hf p hp1)
  | some p =>
    rw [hf] at h2
    dsimp only at h2
    have hs := List.find?_some hf
    obtain ⟨u, hu, e⟩ := List.mem_map.1 (hp.mem_iff.1 (List.mem_of_find?_eq_some hf))
    have h3 : dat u = dat c := by rw [← h2, ← e]; rfl
    have h4 := dat_inj h3
    subst h4
    refine ⟨hu, ?_⟩
    have h5 := WideAt.sameKey_eq hs
    rw [← e] at h5
    exact h5
theorem Col.step (h : Col E left xs) (hp : L.Perm (E.map ent)) (hR : ∀ t ∈ E, t.R) (hd : E.Pairwise fun s t => s.key ≠ t.key) {k : Lit} (c : RSt) (hl : left k = true) (hat : ∀ zd, (DataW.map L).atKey k zd = dat c.1) :
    Col E (fun z => left z && !z.sameKey k) (xs ++ [c]) := by
  obtain ⟨hc, hk⟩ := map_at hp hat
  have hr : raw (xs ++ [c]) = raw xs ++ [c.1] := by simp [raw]
  have hself : k.sameKey k = true := by rw [← hk]; exact WideAt.sameKey_self (kl_lit (hR _ hc))
  refine ⟨?_, ?_, ?_, ?_⟩
  · intro t ht
    rw [hr] at ht
    rcases List.mem_append.1 ht with ht | ht
    · exact h.sub t ht
    · rw [List.mem_singleton] at ht; subst ht; exact hc
  · rw [hr, List.nodup_append]
    refine ⟨h.nodup, by simp, fun a ha b hb e => ?_⟩
    rw [List.mem_singleton] at hb
    subst hb; subst e
    have := h.gone _ ha
    rw [hk, hl] at this; cases this
  · intro e he
    rw [hr]
    by_cases hs : (kl e).sameKey k = true
    · refine .inr (List.mem_append_right _ ?_)
      have h1 : kl e = kl c.1 := (WideAt.sameKey_eq hs).trans hk.symm
      rw [key_one hd he hc (kl_inj (hR e he) (hR _ hc) h1)]
      simp
    · rcases h.all e he with h1 | h1
      · refine .inl ?_
        simp [h1, hs]
      · exact .inr (List.mem_append_left _ h1)
  · intro t ht
    rw [hr] at ht
    rcases List.mem_append.1 ht with ht | ht
    · simp [h.gone t ht]
    · rw [List.mem_singleton] at ht; subst ht
      rw [hk, hself]; simp
end
def frAllOf (E : List St) (xs : List RSt) : Prop := (raw xs).Nodup ∧ ∀ t, t ∈ raw xs ↔ t ∈ E
theorem Col.done {E : List St} {left : Lit → Bool} {xs : List RSt} (h : Col E left xs) (hl : ∀ k, left k = false) : frAllOf E xs :=
  ⟨h.nodup, fun t => ⟨h.sub t, fun ht => by
    rcases h.all t ht with h1 | h1
    · rw [hl] at h1; cases h1
    · exact h1⟩⟩
set_option maxRecDepth 100000 in
set_option maxHeartbeats 2000000 in
theorem mvaluesC (n : Nat) (hn : 1 ≤ n) (Bm b nn : Nat) (E : List St) (hEl : E.length ≤ 5000000) (w : World) (hBm : BoxAt w Bm (.map (some b))) (hM : MapS w b nn E) :
    SeqStopsK Fence.wide n Tryz.prog 160 #[.pointer (some ⟨Bm, 0, none⟩)] encS KeepsWalks (frAllOf E) (fun _ => True) E.length w := fun l J Jx W hW hJ _ hY h0 => by
  have hm := (hBm.below hW).2
  obtain ⟨⟨L, hown, hp⟩, hR, hd⟩ := hM
  have hown : W.ownsMap Tryz.prog 42 elS b nn (.map L) := by
    have hbl := hown.lt
    obtain ⟨es, clock, hb, Ft, hs, hD⟩ := hown
    exact ⟨es, clock, (hW.block b hbl).trans hb, Ft, hs, hD⟩
  have hsize : Go.Maps.size (DataW.map L) = E.length := by
    rw [Go.Maps.size_eq, hp.length_eq, List.length_map]
  have HP := Lib.hid (And.intro hp (And.intro hR hd)); have HJ := Lib.hid hJ
  have hcol := Col.start hp hR
  clear hp hR hd hJ hBm hW
  refine callsIn_of_wp Tryz.func160 rfl trivial ?_ rfl
  simp only [Tryz.ntmps160, List.size_toArray, List.length_cons, List.length_nil, Nat.reduceAdd, Nat.reduceSub, Array.replicate_succ, Array.replicate_zero, List.push_toArray, List.append_toArray, List.nil_append, List.cons_append]
  gi_wp2_with (first
    | (gi_at_range; refine wpListIn_range_own _ rfl _ 192 rfl 42 49 keyed3 Tryz.underlying192 elS b nn _ rfl hown ?_; intro w0 hrg0 hg0 hs0)
    | gi_in)
  go_frame
  gi_loopw [4] (fun _ wr => ∃ (left : Lit → Bool) (cnt : Nat) (xs : List RSt), wr.ranges Tryz.prog 42 elS b W.heap.size nn (.map L) left cnt ∧ xs.length + cnt ≤ E.length ∧ Col E left xs ∧ J xs wr)
    (fun _ wr => wr.rangeLeft b W.heap.size)
  case atStart =>
    exact ⟨_, _, [], hrg0, by rw [hsize]; simp, hcol, HJ.out [] W w0 none h0 hg0 (fun r e => by cases e)⟩
  case round =>
    obtain ⟨left, cnt, xs, hrg, hcs, hC, hJs⟩ := hrel
    clear hcol hrg0 hg0 hs0 hm h0
    have HC := Lib.hid hC; clear hC
    gi_wp2_with (first
      | (gi_at_next; refine wpListIn_next_ranges _ rfl _ rfl 42 keyed3 elS id St.val (fun key kl _ => ⟨key, rfl⟩) (fun v y hv => by obtain ⟨t, rfl, _⟩ := elS_inv hv; exact ⟨t, rfl⟩) b W.heap.size nn _ _ _ rfl hrg ?_ ?_)
      | gi_in)
    · intro hc0 hl0
      have H := Lib.hid (HC.out.done hl0)
      gi_wp2
      go_end0
      exact ⟨⟨_, rfl⟩, .inl ⟨xs, H.out, hJs⟩⟩
    · intro x c kl0 yd yp w2 cnt2 hkey hlk hv hat hrg2 hlt hg2 hs2 hen
      obtain ⟨c', ec, ez⟩ := elS_inv hv
      obtain rfl := val_inj ec
      obtain rfl : yd = dat c := (Prod.mk.inj ez).1
      clear ez
      have hc := (map_at HP.out.1 hat).1
      have hJ2 : J xs w2 := HJ.out xs wr w2 (some W.heap.size) hJs hg2 (fun r e => by cases e; exact ⟨Nat.le_refl _, hrg.iter_walk⟩)
      have hJ3 : J xs (w2.alloc (.cells #[.int .i64 c.d, .int .i64 c.e, .int .i64 c.x, .int .i64 c.y, .int .i64 c.z] 49)) := HJ.out _ _ _ none hJ2 (World.grownBy_alloc _ _ none) (fun r e => by cases e)
      obtain ⟨fn, tmps, assign, body, hy, hR⟩ := hY xs ⟨c, HP.out.2.1 c hc⟩ _ hJ3 (by omega)
      dsimp only [encS] at hy
      have hC2 := HC.out.step HP.out.1 HP.out.2.1 HP.out.2.2 ⟨c, HP.out.2.1 c hc⟩ hlk hat
      have hrg3 := hrg2.of_walks (KeepsWalks.alloc w2 (.cells #[.int .i64 c.d, .int .i64 c.e, .int .i64 c.x, .int .i64 c.y, .int .i64 c.z] 49))
      have HC2 := Lib.hid hC2; have HRG := Lib.hid hrg3; have HR := Lib.hid hR; have HRG0 := Lib.hid hrg
      unfold St.val at *
      clear hs2 hC2 hrg3 hR hrg hrg2 hkey hlk hv hat hg2 hJ2 hJ3 hJs ec HC
      gi_wp2
      refine HR.out.mono ?_
      rintro e W3 (⟨rfl, hJ3, hk3⟩ | ⟨rfl, hJx3⟩)
      · have hrg4 := HRG.out.of_walks hk3
        have HRG4 := Lib.hid hrg4; clear hrg4 hk3
        gi_wp2
        go_roundw
        case rel => exact ⟨_, cnt2, xs ++ [⟨c, _⟩], HRG4.out, by rw [List.length_append]; simp; omega, HC2.out, hJ3⟩
        case measure => rw [HRG4.out.left_eq, HRG0.out.left_eq]; exact hlt
      · gi_wp2
        refine bodyPost_ret (results_none rfl _ _ _) rfl ?_
        exact ⟨⟨_, rfl⟩, .inr ⟨_, trivial, hJx3⟩⟩
end

section
open Go.ChangeShapes Go.WideShapes Go.ChangeAt Go.RowKit Go.BigFrame Go.Shelf
set_option maxRecDepth 100000
attribute [local go_sem] Oper.semAt_some
def AppI (w : World) (pre : List RSt) (W : World) : Prop := ∃ v, Boxed W w.heap.size 51 v ∧ W.ownsRow w.heap.size 49 5 v pre.length (rowS (raw pre)) ∧ True
theorem rowS_one_at (w : World) (t : St) : ∀ (j : Nat) (u : Value), (rowS [t])[j]? = some u → (w.alloc (.cells #[.int .i64 t.d, .int .i64 t.e, .int .i64 t.x, .int .i64 t.y, .int .i64 t.z] 49)).cell? ((⟨w.heap.size, 0, none⟩ : Addr).add j) = some u := by
  intro j u hj
  have h : Row (w.alloc (.cells #[.int .i64 t.d, .int .i64 t.e, .int .i64 t.x, .int .i64 t.y, .int .i64 t.z] 49)) w.heap.size 49 (rowS [t]) := Row.made w _ (rowS [t])
  rw [add_zero_off]
  exact (h.cell j).trans hj
set_option maxRecDepth 100000 in
set_option maxHeartbeats 4000000 in
theorem appendSeq_any (g N : Nat) (lb : Array Value) (S Sp : List RSt → Prop) (hN : N ≤ 5000000) (w0 w : World) (hb0 : Below w0.heap.size w0 w) (eg : ∀ args w, (callFunc g args).run Tryz.prog w = .ok (.enter g args) w)
    (hseq : ∀ n, 1 ≤ n → SeqStopsK Fence.wide n Tryz.prog g lb encS KeepsWalks S Sp N w0) :
    Calls Tryz.prog 177 #[.slice none 0 0, .func (.func g) #[] lb] w fun e W' => (∃ v xs, e = .returned v ∧ S xs ∧ W'.ownsRow w.heap.size 49 5 v xs.length (rowS (raw xs))) ∧ Below w.heap.size w W' := by
  refine (callsIn_wide (n := 5)).1 ?_
  refine callsIn_of_wp_marks Tryz.func177 rfl trivial ?_ rfl
  simp only [Tryz.ntmps177, List.size_toArray, List.length_cons, List.length_nil, Nat.reduceAdd, Nat.reduceSub, Array.replicate_succ, Array.replicate_zero, List.push_toArray, List.append_toArray, List.nil_append, List.cons_append]
  obtain ⟨i0, hi, hz0, hz1, hz2⟩ := info_parts Tryz.infoStamp
  gi_wp2
  have hsz : (w.alloc (.cells #[.slice none 0 0] 51)).heap.size = w.heap.size + 1 := by simp
  have bM := Boxed.new w 51 (.slice none 0 0)
  have hB0 : Below w.heap.size w (w.alloc (.cells #[.slice none 0 0] 51)) := (Below.refl _ w).alloc (Nat.le_refl _) _
  have hK0 : Below w0.heap.size w0 (w.alloc (.cells #[.slice none 0 0] 51)) := hb0.alloc hb0.size _
  obtain ⟨W0, hW0⟩ : ∃ W0, w.alloc (.cells #[.slice none 0 0] 51) = W0 := ⟨_, rfl⟩
  rw [hW0] at hsz bM hB0 hK0 ⊢
  clear hW0 hb0
  refine wpIn_rangeFunc_ownH rfl (by omega) (gf := g) (lb := lb) rfl trivial eg (hseq 4 (by omega)) walksK_t walksK_b hK0 (fun _ => rfl)
    (fun pre W => AppI w pre W ∧ Below w.heap.size w W)
    (fun _ _ _ => False)
    (OwnFrom.and (Own.from (holdsRow_own w.heap.size w.heap.size 51 49 5 (fun pre : List RSt => pre.length) (fun pre => rowS (raw pre)) (fun _ _ => True)) _) (ownFrom_below (Nat.le_refl _) (by omega)))
    (fun _ _ _ _ _ hs _ _ => hs)
    ⟨⟨_, bM, World.ownsRow_nil _ _ _ _, trivial⟩, hB0⟩
    (fun x a' W => ∃ Bx, w.heap.size < Bx ∧ Holds W Bx x.1 ∧ a' = { tmps := #[.slice none 0 0, .func (.func g) #[] lb, .pointer (some ⟨w.heap.size, 0, none⟩), undef, .slice none 0 0, .pointer (some ⟨Bx, 0, none⟩), .func (.func g) #[] lb, .agg #[.int .i64 x.1.d, .int .i64 x.1.e, .int .i64 x.1.x, .int .i64 x.1.y, .int .i64 x.1.z], undef, undef, undef, undef, undef], defers := [] })
    (fun x a' _ X Y row hs hg hr => by
      obtain ⟨Bx, h1, h2, h3⟩ := hs
      refine ⟨Bx, h1, Row.grown h2 hg (fun e => ?_), h3⟩
      obtain ⟨_, o, ho, hc⟩ := hr Bx e.symm
      have h4 : X.heap[Bx]? = _ := h2
      rw [h4] at ho; cases ho; cases hc)
    ?assign ?body ?done ?stop
  case assign =>
    rintro l pre x W K ⟨⟨v, bM1, hr1⟩, hB1⟩ hK
    dsimp only [encS] at *
    unfold St.val at *
    gi_wp2
    exact hK _ _ ((KeepsOthers.alloc _ _).from _) (KeepsWalks.alloc W _) ⟨⟨v, bM1.alloc _, hr1.1.alloc _, trivial⟩, hB1.alloc hB1.size _⟩ ⟨W.heap.size, bM1.lt, Holds.made W x.1, rfl⟩
  case body =>
    rintro l pre x a' W hl ⟨r, hr⟩ ⟨⟨v, bM1, hr1, _⟩, hB1⟩ ⟨Bx, hBx, bX, rfl⟩ hlt
    have hsW := hB1.size
    have cM := bM1.cell
    have hBl := bX.lt
    have hml := bM1.lt
    obtain ⟨c0, c1, c2, c3, c4⟩ := bX.cells5
    have hnews := rowS_one_at W x.1
    have hrow := hr1.alloc (.cells #[.int .i64 x.1.d, .int .i64 x.1.e, .int .i64 x.1.x, .int .i64 x.1.y, .int .i64 x.1.z] 49)
    have hlen : rowS (raw pre) ++ rowS [x.1] = rowS (raw (pre ++ [x])) := by rw [← rowS_append]; simp [raw]
    have HB := Lib.hid (And.intro bM1 (And.intro hr1 hB1)); have HROW := Lib.hid hrow; have HN := Lib.hid hnews; have HL := Lib.hid hlen
    clear bM1 hr1 hB1 hrow hnews hr bX hseq eg hB0 hK0 hlen
    gi_wp2_with (gi_at_builtin; refine wpListIn_append_own _ rfl _ _ 51 rfl w.heap.size 49 i0 (.agg #[.int .i64 0, .int .i64 0, .int .i64 0, .int .i64 0, .int .i64 0]) 5 40 Tryz.underlying51 hi hz0 hz1 hz2 rfl (by decide) v pre.length (rowS (raw pre)) rfl HROW.out ⟨W.heap.size, 0, none⟩ 1 1 (rowS [x.1]) rfl rfl HN.out (rowS_one [x.1]) (by unfold maxLen; omega) (by omega) (by simp; omega) ?_; intro v' w1 hown' hgrow _; obtain ⟨g', cap', rfl⟩ := ownsRow_succ hown'; obtain ⟨hv1, hv2, hr2, hk2, hb2⟩ := (HB.out.1).appended (by decide) HB.out.2.1 hsW (Nat.le_refl _) hown' hgrow; have hc1 := hv1.cell; have hf1 := hv1.frozen)
    rw [HL.out] at hr2
    exact ⟨hk2.from _, hk2.walks, ⟨_, hv2, by rw [List.length_append]; exact hr2, trivial⟩, HB.out.2.2.trans hb2⟩
  case done =>
    rintro D ys W hD hys ⟨⟨v, bM1, hr1, _⟩, hB1⟩ hK
    have cM := bM1.cell
    have HR := Lib.hid hr1; have HB1 := Lib.hid hB1; have HK := Lib.hid hK
    clear hr1 bM1 hB1 hseq eg hB0 hK0 hK
    gi_wp2
    refine ⟨by simp, .inl ⟨_, _, rfl, run_takeDeferred HK.out, ?_⟩⟩
    exact ⟨_, results_tmp rfl _ _ _, ⟨_, ys, rfl, hys, ownsRow_putObj HR.out _ HK.out rfl⟩, HB1.out.trans (belowK_b (w := w) (Nat.le_refl _) W D _ _ (by omega) HK.out rfl rfl)⟩
  case stop =>
    rintro D c pre W _ _ h _
    exact h.elim
theorem collect_any (g N : Nat) (lb : Array Value) (S Sp : List RSt → Prop) (hN : N ≤ 5000000) (w0 w : World) (hb0 : Below w0.heap.size w0 w) (eg : ∀ args w, (callFunc g args).run Tryz.prog w = .ok (.enter g args) w)
    (hseq : ∀ n, 1 ≤ n → SeqStopsK Fence.wide n Tryz.prog g lb encS KeepsWalks S Sp N w0) :
    Calls Tryz.prog 158 #[.func (.func g) #[] lb] w fun e W' => (∃ v xs, e = .returned v ∧ S xs ∧ W'.ownsRow w.heap.size 49 5 v xs.length (rowS (raw xs))) ∧ Below w.heap.size w W' := by
  have H := Lib.hid (appendSeq_any g N lb S Sp hN w0 w hb0 eg hseq)
  clear hseq eg hb0
  go_enter Tryz.func158, Tryz.ntmps158
  go_wp2_with fail
  refine (H.out).mono ?_; rintro e w1 ⟨⟨v, xs, rfl, hS, hr⟩, hb⟩
  have HH := Lib.hid (And.intro hS (And.intro hr hb)); clear hS hr hb
  dsimp only
  go_wp2_with fail
  go_ret
  exact ⟨⟨v, xs, rfl, HH.out.1, HH.out.2.1⟩, HH.out.2.2⟩
end

section
open Go.ChangeShapes Go.WideShapes Go.ChangeAt Go.RowKit Go.BigFrame Go.Shelf
open Go.Sort (grow SWO putCells flatK size_flatK get_flatK putRowK HoldsK)
set_option maxRecDepth 100000
instance : Inhabited St := ⟨St.zero⟩
theorem grew_grow {W w' : World} (h : Grew W w') : ∃ q os, w' = grow (W.drewN q) os := by
  obtain ⟨⟨h1, h2, h3, h4, h5⟩, h6⟩ := h
  refine ⟨w'.drawn - W.drawn, w'.heap.extract W.heap.size w'.heap.size, ?_⟩
  have hh : w'.heap = W.heap ++ w'.heap.extract W.heap.size w'.heap.size := by
    apply Array.ext_getElem?
    intro k
    rw [Array.getElem?_append]
    split
    · rename_i hk; exact h5 k hk
    · rename_i hk
      rw [Array.getElem?_extract]
      by_cases hk2 : k < w'.heap.size
      · rw [if_pos (by omega), show W.heap.size + (k - W.heap.size) = k by omega]
      · rw [if_neg (by omega), Array.getElem?_eq_none (by omega)]
  have hd : w'.drawn = W.drawn + (w'.drawn - W.drawn) := by omega
  cases w'
  cases W
  simp only at h1 h2 h3 hh hd
  unfold grow World.drewN
  simp only [World.mk.injEq]
  exact ⟨hh, h2, hd, h1, h3⟩
theorem flat_row (ts : List St) : flatK St.cells 5 ts.toArray = (rowS ts).toArray := by
  apply Array.ext_getElem?
  intro k
  by_cases hk : k < ts.length * 5
  · have h1 : k / 5 < ts.length := by omega
    obtain ⟨t, ht⟩ : ∃ t, ts[k / 5]? = some t := ⟨_, List.getElem?_eq_getElem h1⟩
    obtain ⟨u, hu⟩ : ∃ u, t.cells[k % 5]? = some u := ⟨_, List.getElem?_eq_getElem (by show k % 5 < 5; omega)⟩
    have h2 := rowS_at ts (k / 5) t ht (k % 5) u hu
    rw [show k / 5 * 5 + k % 5 = k by omega] at h2
    have hrhs : (rowS ts).toArray[k]? = some u := by simpa using h2
    rw [hrhs]
    have h3 := get_flatK St.cells 5 ts.toArray k (by simpa using hk)
    have h4 : ts.toArray[k / 5]! = t := by
      rw [List.getElem!_toArray, List.getElem!_eq_getElem?_getD, ht]; rfl
    rw [h4, List.getElem!_eq_getElem?_getD, hu] at h3
    have h5 : k < (flatK St.cells 5 ts.toArray).size := by rw [size_flatK]; simpa using hk
    rw [getElem!_pos _ k h5] at h3
    rw [Array.getElem?_eq_getElem h5, h3]; rfl
  · rw [Array.getElem?_eq_none (by rw [size_flatK]; simpa using hk), Array.getElem?_eq_none (by simp only [List.size_toArray]; rw [rowS_len]; omega)]
theorem swoC : SWO (ltOf St.C) where
  irrefl x := by
    have : x.C x = 0 := St.C_zero.2 rfl
    simp [ltOf, this]
  trans x y z h1 h2 := by
    simp only [ltOf, decide_eq_true_eq] at *
    exact St.C_lt_trans h1 h2
  ntrans x y z h1 h2 := by
    simp only [ltOf, decide_eq_false_iff_not] at *
    have e1 := St.C_swap (a := x) (b := y)
    have e2 := St.C_swap (a := y) (b := z)
    have e3 := St.C_swap (a := x) (b := z)
    have := St.C_trans (a := z) (b := y) (c := x) (by omega) (by omega)
    omega
def sortS (ts : List St) : List St := ts.mergeSort fun x y => !(ltOf St.C) y x
theorem sortS_perm (ts : List St) : (sortS ts).Perm ts := List.mergeSort_perm _ _
theorem sortS_rises (ts : List St) : (sortS ts).Pairwise fun x y => x.C y ≤ 0 := by
  refine (List.pairwise_mergeSort (le := fun x y => !(ltOf St.C) y x) ?_ ?_ ts).imp ?_
  · intro a b c h1 h2
    simp only [ltOf, Bool.not_eq_true', decide_eq_false_iff_not] at *
    have e1 := St.C_swap (a := a) (b := b)
    have e2 := St.C_swap (a := b) (b := c)
    have e3 := St.C_swap (a := a) (b := c)
    have := St.C_trans (a := a) (b := b) (c := c) (by omega) (by omega)
    omega
  · intro a b
    have e1 := St.C_swap (a := a) (b := b)
    simp only [ltOf, Bool.or_eq_true, Bool.not_eq_true', decide_eq_false_iff_not]
    omega
  · intro a b h
    have e1 := St.C_swap (a := a) (b := b)
    simp only [ltOf, Bool.not_eq_true', decide_eq_false_iff_not] at h
    omega
theorem cmpLays (blk off size : Nat) (w : World) : CmpLays Tryz.prog 53 #[] St.cells 5 St.C blk off size w := by
  intro m os dk _ x y
  exact (compare_grew x y _).mono fun _ _ h => ⟨h.1, grew_grow h.2⟩
theorem grown_sorted {w : World} {g n : Nat} {os : Array Obj} (d : Array St) : w.grownBy (sortWorldK St.cells 5 w g 0 n d os) (some g) := by
  refine ⟨rfl, rfl, rfl, ?_, fun k hk hne => ?_⟩
  · exact size_sortWorldK_c St.cells 5 w g 0 n d os
  · unfold sortWorldK
    rw [Go.Sort.heap_grow_old _ _ (by simpa [putRowK] using hk)]
    have : g ≠ k := fun e => hne (by rw [e])
    simp [putRowK, Go.Sort.putRow, Go.Sort.mapBlock, Go.Sort.ahead, Array.getElem?_modify, this]
theorem sortFunc_any (base n : Nat) (v : Value) (ts : List St) (w : World) (hr : w.ownsRow base 49 5 v n (rowS ts)) (hn : ts.length ≤ 5000000) :
    Calls Tryz.prog 159 #[v, .func (.func 53) #[] #[]] w fun e w' => e = .returned (.tuple #[]) ∧ w'.ownsRow base 49 5 v n (rowS (sortS ts)) ∧ w.grownBy w' v.ownBlock := by
  have hl : ts.length = n := by have := hr.1; rw [rowS_len] at this; omega
  rcases hr.2 with ⟨rfl, h0⟩ | ⟨g, cap, cur, rfl, hb, hh, h1, h2, h3, h4⟩
  · have : ts = [] := List.eq_nil_of_length_eq_zero (by omega)
    subst this
    exact (AnyF.slices_SortFunc_none Tryz.sortStamp none 0 _ w).mono fun e w' ⟨he, hw⟩ => ⟨he, by subst hw; rw [show sortS [] = [] from List.mergeSort_nil]; exact hr, by subst hw; exact ⟨rfl, rfl, rfl, Nat.le_refl _, fun _ _ _ => rfl⟩⟩
  · have hg : g < w.heap.size := (Array.getElem?_eq_some_iff.1 hh).1
    have hH : HoldsK St.cells 5 w g 0 ts.toArray := by
      unfold HoldsK
      rw [flat_row]
      intro j hj
      have hj' : j < (rowS ts).length := by simpa using hj
      refine ⟨?_, by simp [World.frozen?, hh]⟩
      have hc := hr.cells (g := g) rfl j _ (List.getElem?_eq_getElem hj')
      rw [add_zero_off] at hc
      rw [Nat.zero_add, hc, getElem!_pos _ j hj]
      rfl
    have hs := AnyQ.slices_SortFunc_total Tryz.sortStamp 5 Tryz.isAgg49 Tryz.sizeOf49 St.cells (fun _ => rfl) (fun x v hv => rowS_one [x] v (by simpa [rowS] using hv)) St.C swoC 53 #[] g 0 cap ts.toArray w
      (enters_of Tryz.func53 (by kernel_rfl) rfl) (cmpLays _ _ _ _) hH hg (by simp; omega) (fun x y hx hy => by
        simp only [ltOf, decide_eq_false_iff_not] at hx hy
        have e1 := St.C_swap (a := x) (b := y)
        exact St.C_zero.1 (by omega))
    rw [show ts.toArray.size = n by simpa using hl] at hs
    refine hs.mono fun e w' ⟨he, m, os, hw⟩ => ⟨he, ?_, by subst hw; exact grown_sorted _⟩
    subst hw
    refine ⟨by rw [rowS_len, (sortS_perm ts).length_eq, hl], .inr ⟨g, cap, putCells id 0 (rowS (sortS ts)).toArray cur, rfl, hb, ?_, h1, h2, by simp [putCells, h3], ?_⟩⟩
    · unfold sortWorldK
      rw [Go.Sort.heap_grow_old _ _ (by simpa [putRowK] using hg)]
      show (putRowK St.cells 5 (Go.Sort.ahead w m) g 0 (sortS ts).toArray).heap[g]? = _
      unfold putRowK
      rw [flat_row]
      simp [Go.Sort.putRow, Go.Sort.mapBlock, Go.Sort.ahead, Array.getElem?_modify, hh, Go.Sort.onCells]
    · have hlen : (rowS (sortS ts)).length = n * 5 := by rw [rowS_len, (sortS_perm ts).length_eq, hl]
      apply List.ext_getElem?
      intro j
      by_cases hj : j < n * 5
      · rw [List.getElem?_take_of_lt hj, Array.getElem?_toList]
        have : j < cur.size := by have := Nat.mul_le_mul_right 5 h1; omega
        simp [putCells, hlen, hj, this]
      · rw [List.getElem?_take_eq_none (by omega), List.getElem?_eq_none (by omega)]
end

section
open Go.ChangeShapes Go.WideShapes Go.ChangeAt Go.RowKit Go.BigFrame Go.Shelf
set_option maxRecDepth 100000
theorem sortedFunc_any (g N : Nat) (lb : Array Value) (S Sp : List RSt → Prop) (hN : N ≤ 5000000) (hS : ∀ xs, S xs → xs.length ≤ 5000000) (w0 w : World) (hb0 : Below w0.heap.size w0 w) (eg : ∀ args w, (callFunc g args).run Tryz.prog w = .ok (.enter g args) w)
    (hseq : ∀ n, 1 ≤ n → SeqStopsK Fence.wide n Tryz.prog g lb encS KeepsWalks S Sp N w0) :
    Calls Tryz.prog 136 #[.func (.func g) #[] lb, .func (.func 53) #[] #[]] w fun e W' => (∃ v xs, e = .returned v ∧ S xs ∧ W'.ownsRow w.heap.size 49 5 v xs.length (rowS (sortS (raw xs)))) ∧ Below w.heap.size w W' := by
  have H := Lib.hid (collect_any g N lb S Sp hN w0 w hb0 eg hseq)
  have HS := Lib.hid hS
  clear hseq eg hb0 hS
  go_enter Tryz.func136, Tryz.ntmps136
  go_wp2_with fail
  refine (H.out).mono ?_; rintro e w1 ⟨⟨v, xs, rfl, hs, hr⟩, hb⟩
  have hso := sortFunc_any w.heap.size xs.length v (raw xs) w1 hr (by rw [raw_length]; exact HS.out _ hs)
  have hv : ∀ k, v.ownBlock = some k → w.heap.size ≤ k := fun k hk => (hr.lt k hk).1
  have HH := Lib.hid (And.intro hs (And.intro hv hb)); have HSO := Lib.hid hso; clear hs hr hb hso hv H
  dsimp only
  go_wp2_with fail
  refine (HSO.out).mono ?_; rintro e w2 ⟨rfl, hr2, hg⟩
  have H2 := Lib.hid (And.intro hr2 (HH.out.2.2.grown hg HH.out.2.2.size HH.out.2.1)); clear hr2 hg HSO
  dsimp only
  go_wp2_with fail
  go_ret
  exact ⟨⟨v, xs, rfl, HH.out.1, H2.out.1⟩, H2.out.2⟩
def take1 (f : List St) (t : St) : List St := if (f.any fun x => decide (x.L t)) then f else f ++ [t]
def greedy (ds : List St) : List St := ds.foldl take1 []
theorem greedy_snoc (ds : List St) (t : St) : greedy (ds ++ [t]) = take1 (greedy ds) t := by simp [greedy]
structure frGr (ds us : List St) : Prop where
  sub : us.Sublist ds
  all : ∀ x ∈ ds, ∃ y ∈ us, y.L x
  least : ∀ x ∈ us, ∀ y ∈ ds, y.L x → y = x
theorem frGr.step {ds us : List St} {t : St} (h : frGr ds us) (hR : t.R) (hs : ∀ x ∈ ds, x.C t < 0) : frGr (ds ++ [t]) (take1 us t) := by
  have hno : ∀ x ∈ us, ¬ t.L x := fun x hx hl => by
    have h1 := hs x (h.sub.subset hx)
    have h2 := L_C t x hl
    exact h2 h1
  unfold take1
  split
  · rename_i ha
    obtain ⟨u, hu, hl⟩ := List.any_eq_true.1 ha
    have hl : u.L t := by simpa using hl
    refine ⟨h.sub.trans (List.sublist_append_left _ _), fun x hx => ?_, fun x hx y hy hyx => ?_⟩
    · rcases List.mem_append.1 hx with hx | hx
      · exact h.all x hx
      · rw [List.mem_singleton] at hx; subst hx; exact ⟨u, hu, hl⟩
    · rcases List.mem_append.1 hy with hy | hy
      · exact h.least x hx y hy hyx
      · rw [List.mem_singleton] at hy; subst hy; exact absurd hyx (hno x hx)
  · rename_i ha
    have ha : ∀ u ∈ us, ¬ u.L t := fun u hu hl => ha (List.any_eq_true.2 ⟨u, hu, by simpa using hl⟩)
    refine ⟨h.sub.append (List.Sublist.refl _), fun x hx => ?_, fun x hx y hy hyx => ?_⟩
    · rcases List.mem_append.1 hx with hx | hx
      · obtain ⟨y, hy, hl⟩ := h.all x hx
        exact ⟨y, List.mem_append_left _ hy, hl⟩
      · rw [List.mem_singleton] at hx; subst hx; exact ⟨x, List.mem_append_right _ (by simp), St.L_refl.2 hR⟩
    · rcases List.mem_append.1 hx with kx | kx <;> rcases List.mem_append.1 hy with ky | ky
      · exact h.least x kx y ky hyx
      · rw [List.mem_singleton] at ky; rw [ky] at hyx; exact absurd hyx (hno x kx)
      · rw [List.mem_singleton] at kx; rw [kx] at hyx
        obtain ⟨u, hu, hl⟩ := h.all y ky
        exact absurd (St.L_trans hl hyx) (ha u hu)
      · rw [List.mem_singleton] at kx ky; rw [kx, ky]
theorem gr_greedy : ∀ (n : Nat) (ds : List St), ds.length = n → (∀ x ∈ ds, x.R) → ds.Pairwise (fun x y => x.C y < 0) → frGr ds (greedy ds) := by
  intro n
  induction n with
  | zero =>
    intro ds hl _ _
    have := List.eq_nil_of_length_eq_zero hl
    subst this
    exact ⟨List.Sublist.refl _, by simp, by simp [greedy]⟩
  | succ n ih =>
    intro ds hl hR hp
    rcases List.eq_nil_or_concat ds with rfl | ⟨es, t, rfl⟩
    · simp at hl
    · rw [List.concat_eq_append] at *
      rw [List.pairwise_append] at hp
      rw [greedy_snoc]
      exact (ih es (by simpa using hl) (fun x hx => hR x (List.mem_append_left _ hx)) hp.1).step (hR t (by simp)) (fun x hx => hp.2.2 x hx t (by simp))
theorem greedy_len : ∀ (n : Nat) (ds : List St), ds.length = n → (greedy ds).length ≤ n := by
  intro n
  induction n with
  | zero => intro ds hl; have := List.eq_nil_of_length_eq_zero hl; subst this; simp [greedy]
  | succ n ih =>
    intro ds hl
    rcases List.eq_nil_or_concat ds with rfl | ⟨es, t, rfl⟩
    · simp at hl
    · rw [List.concat_eq_append] at *
      rw [greedy_snoc]
      have := ih es (by simpa using hl)
      unfold take1
      split
      · omega
      · simp; omega
theorem key_L {e x : St} (he : e.R) (hx : x.R) (hd : e.d = x.d) (hk : e.key = x.key) (hl : e.e ≤ x.e) : e.L x := by
  obtain ⟨h1, h2, h3⟩ := key_inj.1 hk
  exact ⟨he, hx, hd, hl, Int.le_of_eq h1, Int.le_of_eq h2, Int.le_of_eq h3⟩
theorem first_is {l E : List St} {xs : List RSt} (hl : Even l) (hE : Ear l E) (hx : frAllOf E xs) : greedy (sortS (raw xs)) = ofS l := by
  have hp := sortS_perm (raw xs)
  have hm : ∀ t, t ∈ sortS (raw xs) ↔ t ∈ E := fun t => hp.mem_iff.trans (hx.2 t)
  have hnd : (sortS (raw xs)).Nodup := hp.nodup_iff.2 hx.1
  have hR : ∀ x ∈ sortS (raw xs), x.R := fun x h => (hl x (hE.sub x ((hm x).1 h))).1
  have hs : (sortS (raw xs)).Pairwise fun x y => x.C y < 0 := by
    refine (List.Pairwise.and (sortS_rises (raw xs)) hnd).imp ?_
    rintro x y ⟨h1, h2⟩
    rcases Int.lt_or_eq_of_le h1 with h3 | h3
    · exact h3
    · exact absurd (St.C_zero.1 h3) h2
  have hg := gr_greedy _ (sortS (raw xs)) rfl hR hs
  have hsub : ∀ x ∈ greedy (sortS (raw xs)), x ∈ l := fun x h => hE.sub x ((hm x).1 (hg.sub.subset h))
  have hf : Fr (greedy (sortS (raw xs))) := ⟨fun x h => (hl x (hsub x h)).1, fun x h y k => (hl x (hsub x h)).2 y (hsub y k), hs.sublist hg.sub, fun x h y k hxy => hg.least y k x (hg.sub.subset h) hxy⟩
  refine Fr.ext hf (ofS_fr hl) fun t => ?_
  rw [ofS_up hl]
  constructor
  · rintro ⟨x, h, k⟩; exact ⟨x, hsub x h, k⟩
  · rintro ⟨x, h, k⟩
    obtain ⟨e, he, hk, hle⟩ := hE.all x h
    have hel : e.L x := key_L (hl e (hE.sub e he)).1 (hl x h).1 ((hl e (hE.sub e he)).2 x h) hk hle
    obtain ⟨u, hu, hue⟩ := hg.all e ((hm e).2 he)
    exact ⟨u, hu, St.L_trans (St.L_trans hue hel) k⟩
theorem own_len {w : World} {base n : Nat} {v : Value} {ts : List St} (h : w.ownsRow base 49 5 v n (rowS ts)) : n = ts.length := by
  have := h.1; rw [rowS_len] at this; omega
theorem own_kept {w w' : World} {base n : Nat} {v : Value} {xs : List Value} (h : w.ownsRow base 49 5 v n xs) (hb : Below w.heap.size w w') : w'.ownsRow base 49 5 v n xs := by
  refine h.kept (frGrown_below hb) ?_
  cases hv : v.ownBlock with
  | none => exact .inl rfl
  | some k => exact .inr (by simp)
set_option maxHeartbeats 4000000 in
theorem first_any (g n₀ : Nat) (lb : Array Value) (ts : List RSt) (Sp : List RSt → Prop) (hl : ts.length ≤ 5000000) (hev : Even (raw ts)) (w0 w : World) (hb0 : Below w0.heap.size w0 w) (hn₀ : n₀ ≤ w0.heap.size) (eg : ∀ args w, (callFunc g args).run Tryz.prog w = .ok (.enter g args) w)
    (hseq : ∀ n, 1 ≤ n → SeqStopsK Fence.wide n Tryz.prog g lb encS (Keep n₀) (fun ys => ys = ts) Sp ts.length w0) :
    Calls Tryz.prog 97 #[.func (.func g) #[] lb] w fun e W' => (∃ v, e = .returned v ∧ W'.ownsRow w.heap.size 49 5 v (ofS (raw ts)).length (rowS (ofS (raw ts)))) ∧ Below w.heap.size w W' := by
  have H := Lib.hid (earliest_any g n₀ ts.length lb _ Sp hl w0 w hb0 hn₀ eg (fun xs h => by rw [h]; exact hl) hseq)
  have HEV := Lib.hid hev
  clear hseq eg hb0 hev
  go_enter Tryz.func97, Tryz.ntmps97
  go_wp2_with fail
  refine (H.out).mono ?_; rintro e w1 ⟨rfl, ⟨xs, E, m, rfl, hM, hEar, hEl⟩, hb1⟩
  have hmv := mvalues_any (some w.heap.size) w1
  have HMV := Lib.hid hmv; have HM := Lib.hid (And.intro hM hEar); have HB1 := Lib.hid hb1; clear hmv hM hEar hb1 H
  go_wp2_with fail
  refine (HMV.out).mono ?_; rintro e w2 ⟨rfl, rfl⟩
  have hso := sortedFunc_any 160 E.length #[.pointer (some ⟨w1.heap.size, 0, none⟩)] (frAllOf E) (fun _ => True) hEl
    (fun ys hy => by
      have h1 : (raw ys).Perm E := (List.perm_ext_iff_of_nodup hy.1 (HM.out.1.2.2.imp fun h e => h (by rw [e]))).2 hy.2
      have h2 := h1.length_eq
      rw [raw_length] at h2; omega)
    _ (w1.alloc (.cells #[.map (some w.heap.size)] 192)) (Below.refl _ _) (enters_of Tryz.func160 (by kernel_rfl) rfl)
    (fun n hn => mvaluesC n hn w1.heap.size w.heap.size m E hEl _ (BoxAt.made w1 _ _) (HM.out.1.alloc _))
  have HSO := Lib.hid hso; clear hso HMV
  go_wp2_with fail
  refine (HSO.out).mono ?_; rintro e w3 ⟨⟨v, ys, rfl, hys, hr⟩, hb3⟩
  have hylen : (sortS (raw ys)).length ≤ 5000000 := by
    have h1 : (raw ys).Perm E := (List.perm_ext_iff_of_nodup hys.1 (HM.out.1.2.2.imp fun h e => h (by rw [e]))).2 hys.2
    have h2 := h1.length_eq
    rw [(sortS_perm _).length_eq, h2]; exact hEl
  have hfin := first_is HEV.out HM.out.2 hys
  have hB3 : Below w.heap.size w w3 := (HB1.out.alloc HB1.out.size _).trans (hb3.mono (by have := HB1.out.size; simp; omega))
  obtain ⟨A, c, rfl, hT, hle, _⟩ := Times.of_own hr
  rw [own_len hr] at *
  have hT := Ts.of hT
  generalize sortS (raw ys) = ds at *
  have HFIN := Lib.hid hfin; have HT := Lib.hid hT; have HB3 := Lib.hid hB3; clear hfin hT hB3 hr hb3 HSO hys HM HB1 HEV hle hEl
  dsimp only
  go_wp2_with fail
  go_loopw [3, 11] (fun fv i wr => ∃ k : Nat, k ≤ ds.length ∧ i = .int .i64 k ∧ Below w3.heap.size w3 wr ∧ wr.ownsRow w3.heap.size 49 5 fv (greedy (ds.take k)).length (rowS (greedy (ds.take k)))) (fun _ i _ => ds.length - (intOf i).toNat)
  case atStart => exact ⟨0, Nat.zero_le _, rfl, Below.refl _ _, World.ownsRow_nil _ _ _ _⟩
  case round =>
    obtain ⟨k, hk, rfl, hbw, hro⟩ := hrel
    obtain ⟨B, c', rfl, hTu, hle, hcm⟩ := Times.of_own hro
    have hgl : (greedy (ds.take k)).length ≤ k := greedy_len _ _ (by rw [List.length_take]; omega)
    by_cases hlt : k < ds.length
    · obtain ⟨t, ht⟩ : ∃ t, ds[k]? = some t := ⟨_, List.getElem?_eq_getElem hlt⟩
      have hnext : greedy (ds.take (k + 1)) = take1 (greedy (ds.take k)) t := by rw [List.take_add_one, ht, Option.toList, greedy_snoc]
      generalize greedy (ds.take k) = us at *
      obtain ⟨b, o, rfl, hbl, h5⟩ := HT.out.five ht
      obtain ⟨c0, c1, c2, c3, c4⟩ := h5 wr hbw
      have hrch := reached_any B us c' t _ ((Ts.of hTu).below ((Below.refl wr.heap.size wr).alloc (Nat.le_refl _) (.cells #[.int .i64 t.d, .int .i64 t.e, .int .i64 t.x, .int .i64 t.y, .int .i64 t.z] 49))) (by omega)
      have hbx := Holds.made wr t
      have hsz := hbw.size
      cases hv : (us.any fun x => decide (x.L t)) with
      | true =>
        have e1 : take1 us t = us := by unfold take1; rw [if_pos hv]
        rw [hv] at hrch
        rw [e1] at hnext
        have HR := Lib.hid hrch; have HN := Lib.hid hnext; have HO := Lib.hid (And.intro hbw hro)
        clear hrch hnext hbw hro hTu ht h5 hbl hv e1 hbx
        unfold St.val at *
        go_wp2_with fail
        refine (HR.out).mono ?_; rintro e w4 ⟨rfl, hb4⟩
        have hb5 : Below wr.heap.size wr w4 := ((Below.refl _ _).alloc (Nat.le_refl _) _).trans (hb4.mono (by simp))
        have HB5 := Lib.hid hb5; clear hb4 hb5 c0 c1 c2 c3 c4 HR
        go_wp2_with fail
        go_roundw
        case rel => exact ⟨k + 1, by omega, by simp, HO.out.1.trans (HB5.out.mono hsz), by rw [HN.out]; exact own_kept HO.out.2 HB5.out⟩
        case measure => simp only [intOf]; omega
      | false =>
        have e1 : take1 us t = us ++ [t] := by unfold take1; rw [if_neg (by rw [hv]; simp)]
        rw [hv] at hrch
        rw [e1] at hnext
        have HR := Lib.hid hrch; have HN := Lib.hid hnext; have HO := Lib.hid (And.intro hbw hro); have HX := Lib.hid hbx
        clear hrch hnext hbw hro hTu ht h5 hbl hv e1 hbx
        unfold St.val at *
        go_wp2_with fail
        refine (HR.out).mono ?_; rintro e w4 ⟨rfl, hb4⟩
        have hb5 : Below wr.heap.size wr w4 := ((Below.refl _ _).alloc (Nat.le_refl _) _).trans (hb4.mono (by simp))
        have hx4 := HX.out.below hb4
        have hl4 := hx4.lt
        have hs5 := hb5.size
        have hoA := (own_kept HO.out.2 hb5).alloc (.cells #[.int .i64 t.d, .int .i64 t.e, .int .i64 t.x, .int .i64 t.y, .int .i64 t.z] 49)
        have hTA := Times.made w4 [t]
        have hba : Below w3.heap.size w3 (w4.alloc (.cells #[.int .i64 t.d, .int .i64 t.e, .int .i64 t.x, .int .i64 t.y, .int .i64 t.z] 49)) := (HO.out.1.trans (hb5.mono hsz)).alloc (by omega) _
        have hbs := hba.size
        obtain ⟨d0, d1, d2, d3, d4⟩ := hx4.cells5
        have HBA := Lib.hid hba; clear hb4 hb5 c0 c1 c2 c3 c4 HR hx4 hba
        go_wp2_with (at_builtin; refine wpList_append_times rfl _ _ rfl w3.heap.size _ us.length us rfl hoA ⟨w4.heap.size, 0, none⟩ 1 [t] rfl (by simp) hTA (by simp; omega) hbs ?_; intro v' w5 hown' hgr')
        have hb6 := own_belowS hoA hgr' HBA.out hbs
        have H6 := Lib.hid (And.intro hown' hb6); clear hown' hgr' hoA hTA hb6 d0 d1 d2 d3 d4
        go_wp2_with fail
        go_roundw
        case rel => exact ⟨k + 1, by omega, by simp, H6.out.2, by rw [HN.out]; simpa using H6.out.1⟩
        case measure => simp only [intOf]; omega
    · have hk' : k = ds.length := by omega
      have hfin : greedy (ds.take k) = ofS (raw xs) := by rw [hk', List.take_length]; exact HFIN.out
      rw [hfin] at hro ⊢
      have HO := Lib.hid (And.intro hbw hro); clear hbw hro hTu hfin
      go_wp2_with fail
      go_ret
      refine ⟨⟨_, rfl, ?_⟩, HB3.out.trans (HO.out.1.mono HB3.out.size)⟩
      obtain ⟨h1, h2⟩ := HO.out.2
      refine ⟨h1, ?_⟩
      rcases h2 with h2 | ⟨g', cap, cur, hv, hb', h3⟩
      · exact .inl h2
      · exact .inr ⟨g', cap, cur, hv, Nat.le_trans HB3.out.size hb', h3⟩
end

section
open Go.ChangeShapes Go.WideShapes Go.ChangeAt Go.RowKit Go.BigFrame Go.Shelf
set_option maxRecDepth 100000
end
end Go.Proofs.YtmhophmpbpbjaaaGreatDoor
