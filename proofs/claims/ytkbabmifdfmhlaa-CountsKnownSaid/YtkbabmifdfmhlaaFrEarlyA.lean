/- FrEarly, FrMVal, FrCollect -/
import Derived.Test.YtkbabmifdfmhlaaFrMap
import Derived.Sort.MapsRangeIn
import Derived.Sort.KeysCollected
namespace Go.Proofs.Ytkbabmifdfmhlaa
set_option linter.unusedVariables false
section
open Go.ChangeShapes Go.WideShapes Go.ChangeAt Go.RowKit Go.BigFrame Go.Shelf
set_option maxRecDepth 100000
attribute [local go_sem] Oper.semAt_some
/-- E are some of xs, and one of them with its counters, not later, for each -/
structure Ear (xs E : List St) : Prop where
  sub : ∀ e ∈ E, e ∈ xs
  all : ∀ t ∈ xs, ∃ e ∈ E, e.key = t.key ∧ e.e ≤ t.e
section
variable {xs E : List St} {x u : St}
theorem mem_putS : u ∈ putS x E ↔ u = x ∨ u ∈ E ∧ u.key ≠ x.key := by
  unfold putS
  rw [List.mem_cons, List.mem_filter, decide_eq_true_iff, ← key_inj]
theorem Ear.put (h : Ear xs E) (hl : ∀ u ∈ E, u.key = x.key → x.e ≤ u.e) : Ear (xs ++ [x]) (putS x E) := by
  refine ⟨fun e he => ?_, fun t ht => ?_⟩
  · rcases mem_putS.1 he with rfl | ⟨he, _⟩
    · simp
    · exact List.mem_append_left _ (h.sub e he)
  · rcases List.mem_append.1 ht with ht | ht
    · obtain ⟨e, he, hk, hle⟩ := h.all t ht
      by_cases hx : e.key = x.key
      · exact ⟨x, mem_putS.2 (.inl rfl), hx.symm.trans hk, Int.le_trans (hl e he hx) hle⟩
      · exact ⟨e, mem_putS.2 (.inr ⟨he, hx⟩), hk, hle⟩
    · have : t = x := by simpa using ht
      subst this
      exact ⟨t, mem_putS.2 (.inl rfl), rfl, Int.le_refl _⟩
theorem Ear.stay (h : Ear xs E) (hu : u ∈ E) (hk : u.key = x.key) (hl : u.e ≤ x.e) : Ear (xs ++ [x]) E := by
  refine ⟨fun e he => List.mem_append_left _ (h.sub e he), fun t ht => ?_⟩
  rcases List.mem_append.1 ht with ht | ht
  · exact h.all t ht
  · have : t = x := by simpa using ht
    subst this
    exact ⟨u, hu, hk, hl⟩
theorem Keep.alloc {n : Nat} {A B : World} (h : Keep n A B) (hn : n ≤ B.heap.size) (o : Obj) : Keep n A (B.alloc o) :=
  ⟨h.1.alloc hn o, fun b p hp hc => (Below.heap_alloc B o b (Array.getElem?_eq_some_iff.1 (h.2 b p hp hc)).1).trans (h.2 b p hp hc)⟩
theorem Keep.refl (n : Nat) (A : World) : Keep n A A := ⟨Below.refl _ _, fun b p hp _ => hp⟩
theorem MapS.isMap {w : World} {b n : Nat} (h : MapS w b n E) : ∃ es c, w.heap[b]? = some (.map es c) := by
  obtain ⟨⟨L, ⟨es, clock, hb, _⟩, _⟩, _⟩ := h
  exact ⟨es, clock, hb⟩
theorem MapS.mono {w : World} {b n m : Nat} (h : MapS w b n E) (hm : n ≤ m) : MapS w b m E := by
  obtain ⟨⟨L, h1, h2⟩, h3⟩ := h
  exact ⟨⟨L, h1.mono hm, h2⟩, h3⟩
theorem Keep.grown {n b m : Nat} {A B C : World} (h : Keep n A B) (hM : MapS B b m E) (hg : B.grownBy C (some b)) (hn : n ≤ b) : Keep n A C :=
  ⟨h.1.grown hg (Nat.le_trans hn (Nat.le_of_lt hM.lt)) (fun k e => by cases e; exact hn), fun k p hp hc => by
    have h1 := h.2 k p hp hc
    by_cases e : k = b
    · subst e
      obtain ⟨es, c, hm⟩ := hM.isMap
      rw [h1] at hm; cases hm; cases hc
    · exact (hg.block k (Array.getElem?_eq_some_iff.1 h1).1 (fun h => e (by cases h; rfl))).trans h1⟩
end
theorem key_one : ∀ {E : List St} {u v : St}, E.Pairwise (fun s t => s.key ≠ t.key) → u ∈ E → v ∈ E → u.key = v.key → u = v
  | [], _, _, _, h, _, _ => by cases h
  | x :: E, u, v, hp, hu, hv, hk => by
    obtain ⟨h1, h2⟩ := List.pairwise_cons.1 hp
    rcases List.mem_cons.1 hu with e1 | k1 <;> rcases List.mem_cons.1 hv with e2 | k2
    · rw [e1, e2]
    · rw [e1] at hk; exact absurd hk (h1 v k2)
    · rw [e2] at hk; exact absurd hk.symm (h1 u k1)
    · exact key_one h2 k1 k2 hk
theorem putS_len {E : List St} {t : St} : (putS t E).length ≤ E.length + 1 := by
  unfold putS
  rw [List.length_cons]
  have := List.length_filter_le (fun u : St => decide (¬ (u.x = t.x ∧ u.y = t.y ∧ u.z = t.z))) E
  omega
/-- between two rounds -/
def EarI (w : World) (pre : List RSt) (W : World) : Prop := ∃ E, Boxed W (w.heap.size + 1) 85 (.map (some w.heap.size)) ∧ MapS W w.heap.size pre.length E ∧ Ear (raw pre) E ∧ E.length ≤ pre.length
set_option maxRecDepth 100000 in
set_option maxHeartbeats 4000000 in
theorem earliest_any (g n₀ N : Nat) (lb : Array Value) (S Sp : List RSt → Prop) (hN : N ≤ 1000) (w0 w : World) (hb0 : Below w0.heap.size w0 w) (hn₀ : n₀ ≤ w0.heap.size) (eg : ∀ args w, (callFunc g args).run Try.prog w = .ok (.enter g args) w)
    (hS : ∀ xs, S xs → xs.length ≤ 1000) (hseq : ∀ n, 1 ≤ n → SeqStopsK Fence.wide n Try.prog g lb encS (Keep n₀) S Sp N w0) :
    Calls Try.prog 74 #[.func (.func g) #[] lb] w fun e W' => e = .returned (.map (some w.heap.size)) ∧ (∃ xs E m, S xs ∧ MapS W' w.heap.size m E ∧ Ear (raw xs) E ∧ E.length ≤ 1000) ∧ Below w.heap.size w W' := by
  refine (callsIn_wide (n := 5)).1 ?_
  have hmm := @run_makeMap Try.prog
  refine callsIn_of_wp_marks Try.func74 rfl trivial ?_ rfl
  simp only [Try.ntmps74, List.size_toArray, List.length_cons, List.length_nil, Nat.reduceAdd, Nat.reduceSub, Array.replicate_succ, Array.replicate_zero, List.push_toArray, List.append_toArray, List.nil_append, List.cons_append]
  gi_wp2
  have hsz : ((w.alloc (.map #[] 0)).alloc (.cells #[.map (some w.heap.size)] 85)).heap.size = w.heap.size + 2 := by simp
  have bM := Boxed.new (w.alloc (.map #[] 0)) 85 (.map (some w.heap.size))
  rw [size_alloc] at bM
  have hM := (MapS.made w).alloc (.cells #[.map (some w.heap.size)] 85)
  have hB0 : Below w.heap.size w ((w.alloc (.map #[] 0)).alloc (.cells #[.map (some w.heap.size)] 85)) := ((Below.refl _ w).alloc (Nat.le_refl _) _).alloc (by simp) _
  have hK0 : Below w0.heap.size w0 ((w.alloc (.map #[] 0)).alloc (.cells #[.map (some w.heap.size)] 85)) := (hb0.alloc hb0.size _).alloc (by have := hb0.size; simp; omega) _
  have hws := hb0.size
  obtain ⟨W0, hW0⟩ : ∃ W0, (w.alloc (.map #[] 0)).alloc (.cells #[.map (some w.heap.size)] 85) = W0 := ⟨_, rfl⟩
  rw [hW0] at hsz bM hM hB0 hK0 ⊢
  clear hW0 hb0
  refine wpIn_rangeFunc_ownH rfl (by omega) (gf := g) (lb := lb) rfl trivial eg (hseq 4 (by omega)) keep_t (keep_b (by omega)) hK0 (fun _ => rfl)
    (fun pre W => EarI w pre W ∧ Below w.heap.size w W)
    (fun _ _ _ => False)
    (OwnFrom.and (fun s X Y row hs hg hr => by
      obtain ⟨E, h1, h2, h3⟩ := hs
      exact ⟨E, boxed_own _ _ (fun (_ : Unit) => Value.map (some w.heap.size)) () X Y row h1 hg (fun r e => (hr r e).2), h2.kept hg (fun e => by have := (hr _ e.symm).1; omega), h3⟩) (ownFrom_below (Nat.le_refl _) (by omega)))
    (fun _ _ _ _ _ hs _ _ => hs)
    ⟨⟨[], bM, hM, ⟨by simp, by simp [raw]⟩, by simp⟩, hB0⟩
    (fun x a' W => ∃ Bx, w.heap.size + 1 < Bx ∧ Holds W Bx x.1 ∧ a' = { tmps := #[.func (.func g) #[] lb, undef, .map none, .pointer (some ⟨w.heap.size + 1, 0, none⟩), .pointer (some ⟨Bx, 0, none⟩), undef, undef, .map (some w.heap.size), .func (.func g) #[] lb, .agg #[.int .i64 x.1.d, .int .i64 x.1.e, .int .i64 x.1.x, .int .i64 x.1.y, .int .i64 x.1.z], undef, undef, undef, undef, undef, undef, undef, undef, undef, undef, undef, undef, undef, undef, undef, undef, undef, undef, undef, undef, undef], defers := [] })
    (fun x a' _ X Y row hs hg hr => by
      obtain ⟨Bx, h1, h2, h3⟩ := hs
      refine ⟨Bx, h1, Row.grown h2 hg (fun e => ?_), h3⟩
      obtain ⟨_, o, ho, hc⟩ := hr Bx e.symm
      have h4 : X.heap[Bx]? = _ := h2
      rw [h4] at ho; cases ho; cases hc)
    ?assign ?body ?done ?stop
  case assign =>
    rintro l pre x W K ⟨⟨E, bM1, hM1, hE⟩, hB1⟩ hK
    clear hmm
    dsimp only [encS] at *
    unfold St.val at *
    gi_wp2
    exact hK _ _ ((KeepsOthers.alloc _ _).from _) ((Keep.refl _ W).alloc (by have := hB1.size; omega) _) ⟨⟨E, bM1.alloc _, hM1.alloc _, hE⟩, hB1.alloc hB1.size _⟩ ⟨W.heap.size, bM1.lt, Holds.made W x.1, rfl⟩
  case body =>
    rintro l pre x a' W hl ⟨r, hr⟩ ⟨⟨E, bM1, hM1, hE, hEl⟩, hB1⟩ ⟨Bx, hBx, bX, rfl⟩ hlt
    have hsW := hB1.size
    have hnW : n₀ ≤ W.heap.size := by omega
    have cM := bM1.cell
    have hBl := bX.lt
    have hml := bM1.lt
    obtain ⟨c0, c1, c2, c3, c4⟩ := bX.cells5
    have hlen : (raw (pre ++ [x])) = raw pre ++ [x.1] := by simp [raw]
    rcases hM1.look x.2 with ⟨hrun, hno⟩ | ⟨u, hu, hk, hrun⟩
    · obtain ⟨w1, hst, hM2, hg⟩ := (hM1.alloc (.cells #[.int .i64 0, .int .i64 0, .int .i64 0, .int .i64 0, .int .i64 0] 25)).store (by unfold maxLen; omega) x.2
      unfold St.key St.zero St.val at *
      have HM1 := Lib.hid hM1; have HM2 := Lib.hid hM2; have HG := Lib.hid hg; have HE := Lib.hid (And.intro hE hEl); have HNO := Lib.hid hno; have HBM := Lib.hid bM1; have HB1 := Lib.hid hB1
      clear hM1 hM2 hg hE hEl hno bM1 bX hB1 hmm hr hseq eg hB0 hK0
      gi_wp2
      have hW1 : KeepsFrom (w.heap.size + 2) W (W.alloc (.cells #[.int .i64 0, .int .i64 0, .int .i64 0, .int .i64 0, .int .i64 0] 25)) := (KeepsOthers.alloc _ _).from _
      have hW2 := (Keep.refl n₀ W).alloc hnW (.cells #[.int .i64 0, .int .i64 0, .int .i64 0, .int .i64 0, .int .i64 0] 25)
      refine ⟨by first | exact hW1.trans (KeepsFrom.of_grownBy HG.out (fun j e => by cases e; omega)) | (rw [hsz]; exact hW1.trans (KeepsFrom.of_grownBy HG.out (fun j e => by cases e; omega))), hW2.grown (HM1.out.alloc _) HG.out (by omega), ⟨⟨_, (HBM.out.alloc _).kept HG.out (by simp), by rw [List.length_append]; exact HM2.out, ?_, ?_⟩, (HB1.out.alloc hsW _).grown HG.out (by simp; omega) (fun k e => by cases e; exact Nat.le_refl _)⟩⟩
      · rw [hlen]
        exact HE.out.1.put fun v hv hk => absurd hk (HNO.out v hv)
      · rw [List.length_append]
        have := putS_len (t := x.1) (E := E)
        have := HE.out.2
        simp; omega
    · by_cases hlt2 : x.1.e < u.e
      · obtain ⟨w1, hst, hM2, hg⟩ := (hM1.alloc (.cells #[.int .i64 u.d, .int .i64 u.e, .int .i64 u.x, .int .i64 u.y, .int .i64 u.z] 25)).store (by unfold maxLen; omega) x.2
        have hd := hM1.2.2
        unfold St.key St.val at *
        have HM1 := Lib.hid hM1; have HM2 := Lib.hid hM2; have HG := Lib.hid hg; have HE := Lib.hid (And.intro hE hEl); have HD := Lib.hid (And.intro hd (And.intro hu hk)); have HBM := Lib.hid bM1; have HB1 := Lib.hid hB1
        clear hM1 hM2 hg hE hEl hd hu hk bM1 bX hB1 hmm hr hseq eg hB0 hK0
        gi_wp2
        have hW1 : KeepsFrom (w.heap.size + 2) W (W.alloc (.cells #[.int .i64 u.d, .int .i64 u.e, .int .i64 u.x, .int .i64 u.y, .int .i64 u.z] 25)) := (KeepsOthers.alloc _ _).from _
        have hW2 := (Keep.refl n₀ W).alloc hnW (.cells #[.int .i64 u.d, .int .i64 u.e, .int .i64 u.x, .int .i64 u.y, .int .i64 u.z] 25)
        refine ⟨by first | exact hW1.trans (KeepsFrom.of_grownBy HG.out (fun j e => by cases e; omega)) | (rw [hsz]; exact hW1.trans (KeepsFrom.of_grownBy HG.out (fun j e => by cases e; omega))), hW2.grown (HM1.out.alloc _) HG.out (by omega), ⟨⟨_, (HBM.out.alloc _).kept HG.out (by simp), by rw [List.length_append]; exact HM2.out, ?_, ?_⟩, (HB1.out.alloc hsW _).grown HG.out (by simp; omega) (fun k e => by cases e; exact Nat.le_refl _)⟩⟩
        · rw [hlen]
          refine HE.out.1.put fun v hv hk => ?_
          obtain ⟨hd, hu, hku⟩ := HD.out
          by_cases e : v = u
          · subst e; omega
          · exfalso
            exact e (key_one (E := E) hd hv hu (show v.key = u.key from hk.trans hku.symm))
        · rw [List.length_append]
          have := putS_len (t := x.1) (E := E)
          have := HE.out.2
          simp; omega
      · unfold St.key St.val at *
        have HM1 := Lib.hid hM1; have HE := Lib.hid (And.intro hE hEl); have HD := Lib.hid (And.intro hu hk); have HBM := Lib.hid bM1; have HB1 := Lib.hid hB1
        clear hM1 hE hEl hu hk bM1 bX hB1 hmm hr hseq eg hB0 hK0
        gi_wp2
        refine ⟨(KeepsOthers.alloc _ _).from _, (Keep.refl n₀ W).alloc hnW _, ⟨⟨E, HBM.out.alloc _, (HM1.out.alloc _).mono (by simp), ?_, ?_⟩, HB1.out.alloc hsW _⟩⟩
        · rw [hlen]; exact HE.out.1.stay HD.out.1 HD.out.2 (by omega)
        · rw [List.length_append]; have := HE.out.2; omega
  case done =>
    rintro D ys W hD hys ⟨⟨E, bM1, hM1, hE, hEl⟩, hB1⟩ hK
    have cM := bM1.cell
    have HM1 := Lib.hid hM1; have HE := Lib.hid hE; have HB1 := Lib.hid hB1; have HK := Lib.hid hK
    clear hM1 hE bM1 hB1 hmm hseq eg hB0 hK0 hK
    gi_wp2
    refine ⟨by simp, .inl ⟨_, _, rfl, run_takeDeferred HK.out, ?_⟩⟩
    have hlD : w.heap.size < D := by omega
    refine ⟨_, results_tmp rfl _ _ _, rfl, ⟨ys, E, _, hys, HM1.out.kept (grownBy_putObj' _ D _) (fun e => by cases e; omega), HE.out, by have := hS _ hys; omega⟩, HB1.out.trans (belowK_b (w := w) (Nat.le_refl _) W D _ _ (by omega) HK.out rfl rfl)⟩
  case stop =>
    rintro D c pre W _ _ h _
    exact h.elim
end

section
open Go.ChangeShapes Go.WideShapes Go.ChangeAt Go.RowKit Go.BigFrame Go.Shelf
set_option maxRecDepth 100000
theorem mvalues_any (b : Option Nat) (w : World) :
    Calls Try.prog 73 #[.map b] w fun e w' => e = .returned (.func (.func 87) #[] #[.pointer (some ⟨w.heap.size, 0, none⟩)]) ∧ w' = w.alloc (.cells #[.map b] 85) := by
  go_enter Try.func73, Try.ntmps73
  go_wp2_with fail
  go_ret
  exact ⟨rfl, rfl⟩
/-- what has come, and what is left -/
structure Col (E : List St) (left : Lit → Bool) (xs : List RSt) : Prop where
  sub : ∀ t ∈ raw xs, t ∈ E
  nodup : (raw xs).Nodup
  all : ∀ e ∈ E, left (kl e) = true ∨ e ∈ raw xs
  gone : ∀ t ∈ raw xs, left (kl t) = false
section
variable {E : List St} {L : List (Lit × DataW Unit)} {left : Lit → Bool} {xs : List RSt}
theorem kl_lit {t : St} (h : t.R) : WideAt.IsKeyLit (kl t) := keyed3.key (keyOf_kl h)
theorem Col.start (hp : L.Perm (E.map ent)) (hR : ∀ t ∈ E, t.R) : Col E (Go.Maps.has (.map L)) [] := by
  refine ⟨by simp [raw], by simp [raw], fun e he => .inl ?_, by simp [raw]⟩
  rw [Go.Maps.has_eq, List.any_eq_true]
  exact ⟨ent e, hp.mem_iff.2 (List.mem_map_of_mem he), WideAt.sameKey_self (kl_lit (hR e he))⟩
theorem map_at {k : Lit} {c : St} (hp : L.Perm (E.map ent)) (hat : ∀ zd, (DataW.map L).atKey k zd = dat c) : c ∈ E ∧ kl c = k := by
  have h1 : Go.Maps.has (.map L) k = true := Go.Maps.has_true_of_atKey hat
  rw [Go.Maps.has_eq, List.any_eq_true] at h1
  have h2 := hat .nil
  unfold DataW.atKey at h2
  dsimp only at h2
  cases hf : L.find? (fun p => p.1.sameKey k) with
  | none =>
    rw [List.find?_eq_none] at hf
    obtain ⟨p, hp1, hp2⟩ := h1
    exact absurd hp2 (hf p hp1)
  | some p =>
    rw [hf] at h2
    dsimp only at h2
    have hs := List.find?_some hf
    obtain ⟨u, hu, e⟩ := List.mem_map.1 (hp.mem_iff.1 (List.mem_of_find?_eq_some hf))
    have h3 : dat u = dat c := by rw [← h2, ← e]; rfl
    have h4 := dat_inj h3
    subst h4
    refine ⟨hu, ?_⟩
    have h5 := WideAt.sameKey_eq hs
    rw [← e] at h5
    exact h5
theorem Col.step (h : Col E left xs) (hp : L.Perm (E.map ent)) (hR : ∀ t ∈ E, t.R) (hd : E.Pairwise fun s t => s.key ≠ t.key) {k : Lit} (c : RSt) (hl : left k = true) (hat : ∀ zd, (DataW.map L).atKey k zd = dat c.1) :
    Col E (fun z => left z && !z.sameKey k) (xs ++ [c]) := by
  obtain ⟨hc, hk⟩ := map_at hp hat
  have hr : raw (xs ++ [c]) = raw xs ++ [c.1] := by simp [raw]
  have hself : k.sameKey k = true := by rw [← hk]; exact WideAt.sameKey_self (kl_lit (hR _ hc))
  refine ⟨?_, ?_, ?_, ?_⟩
  · intro t ht
    rw [hr] at ht
    rcases List.mem_append.1 ht with ht | ht
    · exact h.sub t ht
    · rw [List.mem_singleton] at ht; subst ht; exact hc
  · rw [hr, List.nodup_append]
    refine ⟨h.nodup, by simp, fun a ha b hb e => ?_⟩
    rw [List.mem_singleton] at hb
    subst hb; subst e
    have := h.gone _ ha
    rw [hk, hl] at this; cases this
  · intro e he
    rw [hr]
    by_cases hs : (kl e).sameKey k = true
    · refine .inr (List.mem_append_right _ ?_)
      have h1 : kl e = kl c.1 := (WideAt.sameKey_eq hs).trans hk.symm
      rw [key_one hd he hc (kl_inj (hR e he) (hR _ hc) h1)]
      simp
    · rcases h.all e he with h1 | h1
      · refine .inl ?_
        simp [h1, hs]
      · exact .inr (List.mem_append_left _ h1)
  · intro t ht
    rw [hr] at ht
    rcases List.mem_append.1 ht with ht | ht
    · simp [h.gone t ht]
    · rw [List.mem_singleton] at ht; subst ht
      rw [hk, hself]; simp
end
/-- all of E, each once -/
def AllOf (E : List St) (xs : List RSt) : Prop := (raw xs).Nodup ∧ ∀ t, t ∈ raw xs ↔ t ∈ E
theorem Col.done {E : List St} {left : Lit → Bool} {xs : List RSt} (h : Col E left xs) (hl : ∀ k, left k = false) : AllOf E xs :=
  ⟨h.nodup, fun t => ⟨h.sub t, fun ht => by
    rcases h.all t ht with h1 | h1
    · rw [hl] at h1; cases h1
    · exact h1⟩⟩
set_option maxRecDepth 100000 in
set_option maxHeartbeats 2000000 in
theorem mvaluesC (n : Nat) (hn : 1 ≤ n) (Bm b nn : Nat) (E : List St) (hEl : E.length ≤ 1000) (w : World) (hBm : BoxAt w Bm (.map (some b))) (hM : MapS w b nn E) :
    SeqStopsK Fence.wide n Try.prog 87 #[.pointer (some ⟨Bm, 0, none⟩)] encS KeepsWalks (AllOf E) (fun _ => True) E.length w := fun l J Jx W hW hJ _ hY h0 => by
  have hm := (hBm.below hW).2
  obtain ⟨⟨L, hown, hp⟩, hR, hd⟩ := hM
  have hown : W.ownsMap Try.prog 23 elS b nn (.map L) := by
    have hbl := hown.lt
    obtain ⟨es, clock, hb, Ft, hs, hD⟩ := hown
    exact ⟨es, clock, (hW.block b hbl).trans hb, Ft, hs, hD⟩
  have hsize : Go.Maps.size (DataW.map L) = E.length := by
    rw [Go.Maps.size_eq, hp.length_eq, List.length_map]
  have HP := Lib.hid (And.intro hp (And.intro hR hd)); have HJ := Lib.hid hJ
  have hcol := Col.start hp hR
  clear hp hR hd hJ hBm hW
  refine callsIn_of_wp Try.func87 rfl trivial ?_ rfl
  simp only [Try.ntmps87, List.size_toArray, List.length_cons, List.length_nil, Nat.reduceAdd, Nat.reduceSub, Array.replicate_succ, Array.replicate_zero, List.push_toArray, List.append_toArray, List.nil_append, List.cons_append]
  gi_wp2_with (first
    | (gi_at_range; refine wpListIn_range_own _ rfl _ 85 rfl 23 25 keyed3 Try.underlying85 elS b nn _ rfl hown ?_; intro w0 hrg0 hg0 hs0)
    | gi_in)
  go_frame
  gi_loopw [4] (fun _ wr => ∃ (left : Lit → Bool) (cnt : Nat) (xs : List RSt), wr.ranges Try.prog 23 elS b W.heap.size nn (.map L) left cnt ∧ xs.length + cnt ≤ E.length ∧ Col E left xs ∧ J xs wr)
    (fun _ wr => wr.rangeLeft b W.heap.size)
  case atStart =>
    exact ⟨_, _, [], hrg0, by rw [hsize]; simp, hcol, HJ.out [] W w0 none h0 hg0 (fun r e => by cases e)⟩
  case round =>
    obtain ⟨left, cnt, xs, hrg, hcs, hC, hJs⟩ := hrel
    clear hcol hrg0 hg0 hs0 hm h0
    have HC := Lib.hid hC; clear hC
    gi_wp2_with (first
      | (gi_at_next; refine wpListIn_next_ranges _ rfl _ rfl 23 keyed3 elS id St.val (fun key kl _ => ⟨key, rfl⟩) (fun v y hv => by obtain ⟨t, rfl, _⟩ := elS_inv hv; exact ⟨t, rfl⟩) b W.heap.size nn _ _ _ rfl hrg ?_ ?_)
      | gi_in)
    · intro hc0 hl0
      have H := Lib.hid (HC.out.done hl0)
      gi_wp2
      go_end0
      exact ⟨⟨_, rfl⟩, .inl ⟨xs, H.out, hJs⟩⟩
    · intro x c kl0 yd yp w2 cnt2 hkey hlk hv hat hrg2 hlt hg2 hs2 hen
      obtain ⟨c', ec, ez⟩ := elS_inv hv
      obtain rfl := val_inj ec
      obtain rfl : yd = dat c := (Prod.mk.inj ez).1
      clear ez
      have hc := (map_at HP.out.1 hat).1
      have hJ2 : J xs w2 := HJ.out xs wr w2 (some W.heap.size) hJs hg2 (fun r e => by cases e; exact ⟨Nat.le_refl _, hrg.iter_walk⟩)
      have hJ3 : J xs (w2.alloc (.cells #[.int .i64 c.d, .int .i64 c.e, .int .i64 c.x, .int .i64 c.y, .int .i64 c.z] 25)) := HJ.out _ _ _ none hJ2 (World.grownBy_alloc _ _ none) (fun r e => by cases e)
      obtain ⟨fn, tmps, assign, body, hy, hR⟩ := hY xs ⟨c, HP.out.2.1 c hc⟩ _ hJ3 (by omega)
      dsimp only [encS] at hy
      have hC2 := HC.out.step HP.out.1 HP.out.2.1 HP.out.2.2 ⟨c, HP.out.2.1 c hc⟩ hlk hat
      have hrg3 := hrg2.of_walks (KeepsWalks.alloc w2 (.cells #[.int .i64 c.d, .int .i64 c.e, .int .i64 c.x, .int .i64 c.y, .int .i64 c.z] 25))
      have HC2 := Lib.hid hC2; have HRG := Lib.hid hrg3; have HR := Lib.hid hR; have HRG0 := Lib.hid hrg
      unfold St.val at *
      clear hs2 hC2 hrg3 hR hrg hrg2 hkey hlk hv hat hg2 hJ2 hJ3 hJs ec HC
      gi_wp2
      refine HR.out.mono ?_
      rintro e W3 (⟨rfl, hJ3, hk3⟩ | ⟨rfl, hJx3⟩)
      · have hrg4 := HRG.out.of_walks hk3
        have HRG4 := Lib.hid hrg4; clear hrg4 hk3
        gi_wp2
        go_roundw
        case rel => exact ⟨_, cnt2, xs ++ [⟨c, _⟩], HRG4.out, by rw [List.length_append]; simp; omega, HC2.out, hJ3⟩
        case measure => rw [HRG4.out.left_eq, HRG0.out.left_eq]; exact hlt
      · gi_wp2
        refine bodyPost_ret (results_none rfl _ _ _) rfl ?_
        exact ⟨⟨_, rfl⟩, .inr ⟨_, trivial, hJx3⟩⟩
end

section
open Go.ChangeShapes Go.WideShapes Go.ChangeAt Go.RowKit Go.BigFrame Go.Shelf
set_option maxRecDepth 100000
attribute [local go_sem] Oper.semAt_some
/-- between two rounds -/
def AppI (w : World) (pre : List RSt) (W : World) : Prop := ∃ v, Boxed W w.heap.size 40 v ∧ W.ownsRow w.heap.size 25 5 v pre.length (rowS (raw pre)) ∧ True
theorem rowS_one_at (w : World) (t : St) : ∀ (j : Nat) (u : Value), (rowS [t])[j]? = some u → (w.alloc (.cells #[.int .i64 t.d, .int .i64 t.e, .int .i64 t.x, .int .i64 t.y, .int .i64 t.z] 25)).cell? ((⟨w.heap.size, 0, none⟩ : Addr).add j) = some u := by
  intro j u hj
  have h : Row (w.alloc (.cells #[.int .i64 t.d, .int .i64 t.e, .int .i64 t.x, .int .i64 t.y, .int .i64 t.z] 25)) w.heap.size 25 (rowS [t]) := Row.made w _ (rowS [t])
  rw [add_zero_off]
  exact (h.cell j).trans hj
set_option maxRecDepth 100000 in
set_option maxHeartbeats 4000000 in
theorem appendSeq_any (g N : Nat) (lb : Array Value) (S Sp : List RSt → Prop) (hN : N ≤ 1000) (w0 w : World) (hb0 : Below w0.heap.size w0 w) (eg : ∀ args w, (callFunc g args).run Try.prog w = .ok (.enter g args) w)
    (hseq : ∀ n, 1 ≤ n → SeqStopsK Fence.wide n Try.prog g lb encS KeepsWalks S Sp N w0) :
    Calls Try.prog 83 #[.slice none 0 0, .func (.func g) #[] lb] w fun e W' => (∃ v xs, e = .returned v ∧ S xs ∧ W'.ownsRow w.heap.size 25 5 v xs.length (rowS (raw xs))) ∧ Below w.heap.size w W' := by
  refine (callsIn_wide (n := 5)).1 ?_
  refine callsIn_of_wp_marks Try.func83 rfl trivial ?_ rfl
  simp only [Try.ntmps83, List.size_toArray, List.length_cons, List.length_nil, Nat.reduceAdd, Nat.reduceSub, Array.replicate_succ, Array.replicate_zero, List.push_toArray, List.append_toArray, List.nil_append, List.cons_append]
  obtain ⟨i0, hi, hz0, hz1, hz2⟩ := info_parts Try.infoStamp
  gi_wp2
  have hsz : (w.alloc (.cells #[.slice none 0 0] 40)).heap.size = w.heap.size + 1 := by simp
  have bM := Boxed.new w 40 (.slice none 0 0)
  have hB0 : Below w.heap.size w (w.alloc (.cells #[.slice none 0 0] 40)) := (Below.refl _ w).alloc (Nat.le_refl _) _
  have hK0 : Below w0.heap.size w0 (w.alloc (.cells #[.slice none 0 0] 40)) := hb0.alloc hb0.size _
  obtain ⟨W0, hW0⟩ : ∃ W0, w.alloc (.cells #[.slice none 0 0] 40) = W0 := ⟨_, rfl⟩
  rw [hW0] at hsz bM hB0 hK0 ⊢
  clear hW0 hb0
  refine wpIn_rangeFunc_ownH rfl (by omega) (gf := g) (lb := lb) rfl trivial eg (hseq 4 (by omega)) walksK_t walksK_b hK0 (fun _ => rfl)
    (fun pre W => AppI w pre W ∧ Below w.heap.size w W)
    (fun _ _ _ => False)
    (OwnFrom.and (Own.from (holdsRow_own w.heap.size w.heap.size 40 25 5 (fun pre : List RSt => pre.length) (fun pre => rowS (raw pre)) (fun _ _ => True)) _) (ownFrom_below (Nat.le_refl _) (by omega)))
    (fun _ _ _ _ _ hs _ _ => hs)
    ⟨⟨_, bM, World.ownsRow_nil _ _ _ _, trivial⟩, hB0⟩
    (fun x a' W => ∃ Bx, w.heap.size < Bx ∧ Holds W Bx x.1 ∧ a' = { tmps := #[.slice none 0 0, .func (.func g) #[] lb, .pointer (some ⟨w.heap.size, 0, none⟩), undef, .slice none 0 0, .pointer (some ⟨Bx, 0, none⟩), .func (.func g) #[] lb, .agg #[.int .i64 x.1.d, .int .i64 x.1.e, .int .i64 x.1.x, .int .i64 x.1.y, .int .i64 x.1.z], undef, undef, undef, undef, undef], defers := [] })
    (fun x a' _ X Y row hs hg hr => by
      obtain ⟨Bx, h1, h2, h3⟩ := hs
      refine ⟨Bx, h1, Row.grown h2 hg (fun e => ?_), h3⟩
      obtain ⟨_, o, ho, hc⟩ := hr Bx e.symm
      have h4 : X.heap[Bx]? = _ := h2
      rw [h4] at ho; cases ho; cases hc)
    ?assign ?body ?done ?stop
  case assign =>
    rintro l pre x W K ⟨⟨v, bM1, hr1⟩, hB1⟩ hK
    dsimp only [encS] at *
    unfold St.val at *
    gi_wp2
    exact hK _ _ ((KeepsOthers.alloc _ _).from _) (KeepsWalks.alloc W _) ⟨⟨v, bM1.alloc _, hr1.1.alloc _, trivial⟩, hB1.alloc hB1.size _⟩ ⟨W.heap.size, bM1.lt, Holds.made W x.1, rfl⟩
  case body =>
    rintro l pre x a' W hl ⟨r, hr⟩ ⟨⟨v, bM1, hr1, _⟩, hB1⟩ ⟨Bx, hBx, bX, rfl⟩ hlt
    have hsW := hB1.size
    have cM := bM1.cell
    have hBl := bX.lt
    have hml := bM1.lt
    obtain ⟨c0, c1, c2, c3, c4⟩ := bX.cells5
    have hnews := rowS_one_at W x.1
    have hrow := hr1.alloc (.cells #[.int .i64 x.1.d, .int .i64 x.1.e, .int .i64 x.1.x, .int .i64 x.1.y, .int .i64 x.1.z] 25)
    have hlen : rowS (raw pre) ++ rowS [x.1] = rowS (raw (pre ++ [x])) := by rw [← rowS_append]; simp [raw]
    have HB := Lib.hid (And.intro bM1 (And.intro hr1 hB1)); have HROW := Lib.hid hrow; have HN := Lib.hid hnews; have HL := Lib.hid hlen
    clear bM1 hr1 hB1 hrow hnews hr bX hseq eg hB0 hK0 hlen
    gi_wp2_with (gi_at_builtin; refine wpListIn_append_own _ rfl _ _ 40 rfl w.heap.size 25 i0 (.agg #[.int .i64 0, .int .i64 0, .int .i64 0, .int .i64 0, .int .i64 0]) 5 40 Try.underlying40 hi hz0 hz1 hz2 rfl (by decide) v pre.length (rowS (raw pre)) rfl HROW.out ⟨W.heap.size, 0, none⟩ 1 1 (rowS [x.1]) rfl rfl HN.out (rowS_one [x.1]) (by unfold maxLen; omega) (by omega) (by simp; omega) ?_; intro v' w1 hown' hgrow _; obtain ⟨g', cap', rfl⟩ := ownsRow_succ hown'; obtain ⟨hv1, hv2, hr2, hk2, hb2⟩ := (HB.out.1).appended (by decide) HB.out.2.1 hsW (Nat.le_refl _) hown' hgrow; have hc1 := hv1.cell; have hf1 := hv1.frozen)
    rw [HL.out] at hr2
    exact ⟨hk2.from _, hk2.walks, ⟨_, hv2, by rw [List.length_append]; exact hr2, trivial⟩, HB.out.2.2.trans hb2⟩
  case done =>
    rintro D ys W hD hys ⟨⟨v, bM1, hr1, _⟩, hB1⟩ hK
    have cM := bM1.cell
    have HR := Lib.hid hr1; have HB1 := Lib.hid hB1; have HK := Lib.hid hK
    clear hr1 bM1 hB1 hseq eg hB0 hK0 hK
    gi_wp2
    refine ⟨by simp, .inl ⟨_, _, rfl, run_takeDeferred HK.out, ?_⟩⟩
    exact ⟨_, results_tmp rfl _ _ _, ⟨_, ys, rfl, hys, ownsRow_putObj HR.out _ HK.out rfl⟩, HB1.out.trans (belowK_b (w := w) (Nat.le_refl _) W D _ _ (by omega) HK.out rfl rfl)⟩
  case stop =>
    rintro D c pre W _ _ h _
    exact h.elim
theorem collect_any (g N : Nat) (lb : Array Value) (S Sp : List RSt → Prop) (hN : N ≤ 1000) (w0 w : World) (hb0 : Below w0.heap.size w0 w) (eg : ∀ args w, (callFunc g args).run Try.prog w = .ok (.enter g args) w)
    (hseq : ∀ n, 1 ≤ n → SeqStopsK Fence.wide n Try.prog g lb encS KeepsWalks S Sp N w0) :
    Calls Try.prog 65 #[.func (.func g) #[] lb] w fun e W' => (∃ v xs, e = .returned v ∧ S xs ∧ W'.ownsRow w.heap.size 25 5 v xs.length (rowS (raw xs))) ∧ Below w.heap.size w W' := by
  have H := Lib.hid (appendSeq_any g N lb S Sp hN w0 w hb0 eg hseq)
  clear hseq eg hb0
  go_enter Try.func65, Try.ntmps65
  go_wp2_with fail
  refine (H.out).mono ?_; rintro e w1 ⟨⟨v, xs, rfl, hS, hr⟩, hb⟩
  have HH := Lib.hid (And.intro hS (And.intro hr hb)); clear hS hr hb
  dsimp only
  go_wp2_with fail
  go_ret
  exact ⟨⟨v, xs, rfl, HH.out.1, HH.out.2.1⟩, HH.out.2.2⟩
end
end Go.Proofs.Ytkbabmifdfmhlaa
