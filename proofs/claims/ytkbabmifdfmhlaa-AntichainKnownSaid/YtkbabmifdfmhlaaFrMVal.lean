/- maps.Values over a map of the call's own. -/
import Derived.Test.YtkbabmifdfmhlaaFrEarly
import Derived.Sort.MapsRangeIn
import Derived.Sort.KeysCollected
namespace Go.Proofs.Ytkbabmifdfmhlaa
open Go.ChangeShapes Go.WideShapes Go.ChangeAt Go.RowKit Go.BigFrame Go.Shelf
set_option linter.unusedVariables false
set_option maxRecDepth 100000
theorem mvalues_any (b : Option Nat) (w : World) :
    Calls Try.prog 73 #[.map b] w fun e w' => e = .returned (.func (.func 87) #[] #[.pointer (some ⟨w.heap.size, 0, none⟩)]) ∧ w' = w.alloc (.cells #[.map b] 85) := by
  go_enter Try.func73, Try.ntmps73
  go_wp2_with fail
  go_ret
  exact ⟨rfl, rfl⟩
/-- what has come, and what is left -/
structure Col (E : List St) (left : Lit → Bool) (xs : List RSt) : Prop where
  sub : ∀ t ∈ raw xs, t ∈ E
  nodup : (raw xs).Nodup
  all : ∀ e ∈ E, left (kl e) = true ∨ e ∈ raw xs
  gone : ∀ t ∈ raw xs, left (kl t) = false
section
variable {E : List St} {L : List (Lit × DataW Unit)} {left : Lit → Bool} {xs : List RSt}
theorem kl_lit {t : St} (h : t.R) : WideAt.IsKeyLit (kl t) := keyed3.key (keyOf_kl h)
theorem Col.start (hp : L.Perm (E.map ent)) (hR : ∀ t ∈ E, t.R) : Col E (Go.Maps.has (.map L)) [] := by
  refine ⟨by simp [raw], by simp [raw], fun e he => .inl ?_, by simp [raw]⟩
  rw [Go.Maps.has_eq, List.any_eq_true]
  exact ⟨ent e, hp.mem_iff.2 (List.mem_map_of_mem he), WideAt.sameKey_self (kl_lit (hR e he))⟩
theorem map_at {k : Lit} {c : St} (hp : L.Perm (E.map ent)) (hat : ∀ zd, (DataW.map L).atKey k zd = dat c) : c ∈ E ∧ kl c = k := by
  have h1 : Go.Maps.has (.map L) k = true := Go.Maps.has_true_of_atKey hat
  rw [Go.Maps.has_eq, List.any_eq_true] at h1
  have h2 := hat .nil
  unfold DataW.atKey at h2
  dsimp only at h2
  cases hf : L.find? (fun p => p.1.sameKey k) with
  | none =>
    rw [List.find?_eq_none] at hf
    obtain ⟨p, hp1, hp2⟩ := h1
    exact absurd hp2 (hf p hp1)
  | some p =>
    rw [hf] at h2
    dsimp only at h2
    have hs := List.find?_some hf
    obtain ⟨u, hu, e⟩ := List.mem_map.1 (hp.mem_iff.1 (List.mem_of_find?_eq_some hf))
    have h3 : dat u = dat c := by rw [← h2, ← e]; rfl
    have h4 := dat_inj h3
    subst h4
    refine ⟨hu, ?_⟩
    have h5 := WideAt.sameKey_eq hs
    rw [← e] at h5
    exact h5
theorem Col.step (h : Col E left xs) (hp : L.Perm (E.map ent)) (hR : ∀ t ∈ E, t.R) (hd : E.Pairwise fun s t => s.key ≠ t.key) {k : Lit} (c : RSt) (hl : left k = true) (hat : ∀ zd, (DataW.map L).atKey k zd = dat c.1) :
    Col E (fun z => left z && !z.sameKey k) (xs ++ [c]) := by
  obtain ⟨hc, hk⟩ := map_at hp hat
  have hr : raw (xs ++ [c]) = raw xs ++ [c.1] := by simp [raw]
  have hself : k.sameKey k = true := by rw [← hk]; exact WideAt.sameKey_self (kl_lit (hR _ hc))
  refine ⟨?_, ?_, ?_, ?_⟩
  · intro t ht
    rw [hr] at ht
    rcases List.mem_append.1 ht with ht | ht
    · exact h.sub t ht
    · rw [List.mem_singleton] at ht; subst ht; exact hc
  · rw [hr, List.nodup_append]
    refine ⟨h.nodup, by simp, fun a ha b hb e => ?_⟩
    rw [List.mem_singleton] at hb
    subst hb; subst e
    have := h.gone _ ha
    rw [hk, hl] at this; cases this
  · intro e he
    rw [hr]
    by_cases hs : (kl e).sameKey k = true
    · refine .inr (List.mem_append_right _ ?_)
      have h1 : kl e = kl c.1 := (WideAt.sameKey_eq hs).trans hk.symm
      rw [key_one hd he hc (kl_inj (hR e he) (hR _ hc) h1)]
      simp
    · rcases h.all e he with h1 | h1
      · refine .inl ?_
        simp [h1, hs]
      · exact .inr (List.mem_append_left _ h1)
  · intro t ht
    rw [hr] at ht
    rcases List.mem_append.1 ht with ht | ht
    · simp [h.gone t ht]
    · rw [List.mem_singleton] at ht; subst ht
      rw [hk, hself]; simp
end
/-- all of E, each once -/
def AllOf (E : List St) (xs : List RSt) : Prop := (raw xs).Nodup ∧ ∀ t, t ∈ raw xs ↔ t ∈ E
theorem Col.done {E : List St} {left : Lit → Bool} {xs : List RSt} (h : Col E left xs) (hl : ∀ k, left k = false) : AllOf E xs :=
  ⟨h.nodup, fun t => ⟨h.sub t, fun ht => by
    rcases h.all t ht with h1 | h1
    · rw [hl] at h1; cases h1
    · exact h1⟩⟩
set_option maxRecDepth 100000 in
set_option maxHeartbeats 2000000 in
theorem mvaluesC (n : Nat) (hn : 1 ≤ n) (Bm b nn : Nat) (E : List St) (hEl : E.length ≤ 1000) (w : World) (hBm : BoxAt w Bm (.map (some b))) (hM : MapS w b nn E) :
    SeqStopsK Fence.wide n Try.prog 87 #[.pointer (some ⟨Bm, 0, none⟩)] encS KeepsWalks (AllOf E) (fun _ => True) E.length w := fun l J Jx W hW hJ _ hY h0 => by
  have hm := (hBm.below hW).2
  obtain ⟨⟨L, hown, hp⟩, hR, hd⟩ := hM
  have hown : W.ownsMap Try.prog 23 elS b nn (.map L) := by
    have hbl := hown.lt
    obtain ⟨es, clock, hb, Ft, hs, hD⟩ := hown
    exact ⟨es, clock, (hW.block b hbl).trans hb, Ft, hs, hD⟩
  have hsize : Go.Maps.size (DataW.map L) = E.length := by
    rw [Go.Maps.size_eq, hp.length_eq, List.length_map]
  have HP := Lib.hid (And.intro hp (And.intro hR hd)); have HJ := Lib.hid hJ
  have hcol := Col.start hp hR
  clear hp hR hd hJ hBm hW
  refine callsIn_of_wp Try.func87 rfl trivial ?_ rfl
  simp only [Try.ntmps87, List.size_toArray, List.length_cons, List.length_nil, Nat.reduceAdd, Nat.reduceSub, Array.replicate_succ, Array.replicate_zero, List.push_toArray, List.append_toArray, List.nil_append, List.cons_append]
  gi_wp2_with (first
    | (gi_at_range; refine wpListIn_range_own _ rfl _ 85 rfl 23 25 keyed3 Try.underlying85 elS b nn _ rfl hown ?_; intro w0 hrg0 hg0 hs0)
    | gi_in)
  go_frame
  gi_loopw [4] (fun _ wr => ∃ (left : Lit → Bool) (cnt : Nat) (xs : List RSt), wr.ranges Try.prog 23 elS b W.heap.size nn (.map L) left cnt ∧ xs.length + cnt ≤ E.length ∧ Col E left xs ∧ J xs wr)
    (fun _ wr => wr.rangeLeft b W.heap.size)
  case atStart =>
    exact ⟨_, _, [], hrg0, by rw [hsize]; simp, hcol, HJ.out [] W w0 none h0 hg0 (fun r e => by cases e)⟩
  case round =>
    obtain ⟨left, cnt, xs, hrg, hcs, hC, hJs⟩ := hrel
    clear hcol hrg0 hg0 hs0 hm h0
    have HC := Lib.hid hC; clear hC
    gi_wp2_with (first
      | (gi_at_next; refine wpListIn_next_ranges _ rfl _ rfl 23 keyed3 elS id St.val (fun key kl _ => ⟨key, rfl⟩) (fun v y hv => by obtain ⟨t, rfl, _⟩ := elS_inv hv; exact ⟨t, rfl⟩) b W.heap.size nn _ _ _ rfl hrg ?_ ?_)
      | gi_in)
    · intro hc0 hl0
      have H := Lib.hid (HC.out.done hl0)
      gi_wp2
      go_end0
      exact ⟨⟨_, rfl⟩, .inl ⟨xs, H.out, hJs⟩⟩
    · intro x c kl0 yd yp w2 cnt2 hkey hlk hv hat hrg2 hlt hg2 hs2 hen
      obtain ⟨c', ec, ez⟩ := elS_inv hv
      obtain rfl := val_inj ec
      obtain rfl : yd = dat c := (Prod.mk.inj ez).1
      clear ez
      have hc := (map_at HP.out.1 hat).1
      have hJ2 : J xs w2 := HJ.out xs wr w2 (some W.heap.size) hJs hg2 (fun r e => by cases e; exact ⟨Nat.le_refl _, hrg.iter_walk⟩)
      have hJ3 : J xs (w2.alloc (.cells #[.int .i64 c.d, .int .i64 c.e, .int .i64 c.x, .int .i64 c.y, .int .i64 c.z] 25)) := HJ.out _ _ _ none hJ2 (World.grownBy_alloc _ _ none) (fun r e => by cases e)
      obtain ⟨fn, tmps, assign, body, hy, hR⟩ := hY xs ⟨c, HP.out.2.1 c hc⟩ _ hJ3 (by omega)
      dsimp only [encS] at hy
      have hC2 := HC.out.step HP.out.1 HP.out.2.1 HP.out.2.2 ⟨c, HP.out.2.1 c hc⟩ hlk hat
      have hrg3 := hrg2.of_walks (KeepsWalks.alloc w2 (.cells #[.int .i64 c.d, .int .i64 c.e, .int .i64 c.x, .int .i64 c.y, .int .i64 c.z] 25))
      have HC2 := Lib.hid hC2; have HRG := Lib.hid hrg3; have HR := Lib.hid hR; have HRG0 := Lib.hid hrg
      unfold St.val at *
      clear hs2 hC2 hrg3 hR hrg hrg2 hkey hlk hv hat hg2 hJ2 hJ3 hJs ec HC
      gi_wp2
      refine HR.out.mono ?_
      rintro e W3 (⟨rfl, hJ3, hk3⟩ | ⟨rfl, hJx3⟩)
      · have hrg4 := HRG.out.of_walks hk3
        have HRG4 := Lib.hid hrg4; clear hrg4 hk3
        gi_wp2
        go_roundw
        case rel => exact ⟨_, cnt2, xs ++ [⟨c, _⟩], HRG4.out, by rw [List.length_append]; simp; omega, HC2.out, hJ3⟩
        case measure => rw [HRG4.out.left_eq, HRG0.out.left_eq]; exact hlt
      · gi_wp2
        refine bodyPost_ret (results_none rfl _ _ _) rfl ?_
        exact ⟨⟨_, rfl⟩, .inr ⟨_, trivial, hJx3⟩⟩
end Go.Proofs.Ytkbabmifdfmhlaa
