/- FrEarly, FrMVal, FrCollect, FrSort -/
import Derived.Test.YtcdofkhkckodjaaGreatDoorCa32
import Derived.Sort.MapsRangeIn
import Derived.Sort.KeysCollected
import Derived.Test.YtcdofkhkckodjaaGreatDoorShelf
import Derived.Shelf.SlSortCmp.NoneTotal
namespace Go.Proofs.YtcdofkhkckodjaaGreatDoor
set_option linter.unusedVariables false
section
open Go.ChangeShapes Go.WideShapes Go.ChangeAt Go.RowKit Go.BigFrame Go.Shelf
set_option maxRecDepth 100000
attribute [local go_sem] Oper.semAt_some
structure Ear (xs E : List St) : Prop where
  sub : ∀ e ∈ E, e ∈ xs
  all : ∀ t ∈ xs, ∃ e ∈ E, e.key = t.key ∧ e.e ≤ t.e
section
variable {xs E : List St} {x u : St}
theorem mem_putS : u ∈ putS x E ↔ u = x ∨ u ∈ E ∧ u.key ≠ x.key := by
  unfold putS
  rw [List.mem_cons, List.mem_filter, decide_eq_true_iff, ← key_inj]
theorem Ear.put (h : Ear xs E) (hl : ∀ u ∈ E, u.key = x.key → x.e ≤ u.e) : Ear (xs ++ [x]) (putS x E) := by
  refine ⟨fun e he => ?_, fun t ht => ?_⟩
  · rcases mem_putS.1 he with rfl | ⟨he, _⟩
    · simp
    · exact List.mem_append_left _ (h.sub e he)
  · rcases List.mem_append.1 ht with ht | ht
    · obtain ⟨e, he, hk, hle⟩ := h.all t ht
      by_cases hx : e.key = x.key
      · exact ⟨x, mem_putS.2 (.inl rfl), hx.symm.trans hk, Int.le_trans (hl e he hx) hle⟩
      · exact ⟨e, mem_putS.2 (.inr ⟨he, hx⟩), hk, hle⟩
    · have : t = x := by simpa using ht
      subst this
      exact ⟨t, mem_putS.2 (.inl rfl), rfl, Int.le_refl _⟩
theorem Ear.stay (h : Ear xs E) (hu : u ∈ E) (hk : u.key = x.key) (hl : u.e ≤ x.e) : Ear (xs ++ [x]) E := by
  refine ⟨fun e he => List.mem_append_left _ (h.sub e he), fun t ht => ?_⟩
  rcases List.mem_append.1 ht with ht | ht
  · exact h.all t ht
  · have : t = x := by simpa using ht
    subst this
    exact ⟨u, hu, hk, hl⟩
theorem Keep.alloc {n : Nat} {A B : World} (h : Keep n A B) (hn : n ≤ B.heap.size) (o : Obj) : Keep n A (B.alloc o) :=
  ⟨h.1.alloc hn o, fun b p hp hc => (Below.heap_alloc B o b (Array.getElem?_eq_some_iff.1 (h.2 b p hp hc)).1).trans (h.2 b p hp hc)⟩
theorem Keep.refl (n : Nat) (A : World) : Keep n A A := ⟨Below.refl _ _, fun b p hp _ => hp⟩
theorem MapS.isMap {w : World} {b n : Nat} (h : MapS w b n E) : ∃ es c, w.heap[b]? = some (.map es c) := by
  obtain ⟨⟨L, ⟨es, clock, hb, _⟩, _⟩, _⟩ := h
  exact ⟨es, clock, hb⟩
theorem MapS.mono {w : World} {b n m : Nat} (h : MapS w b n E) (hm : n ≤ m) : MapS w b m E := by
  obtain ⟨⟨L, h1, h2⟩, h3⟩ := h
  exact ⟨⟨L, h1.mono hm, h2⟩, h3⟩
theorem Keep.grown {n b m : Nat} {A B C : World} (h : Keep n A B) (hM : MapS B b m E) (hg : B.grownBy C (some b)) (hn : n ≤ b) : Keep n A C :=
  ⟨h.1.grown hg (Nat.le_trans hn (Nat.le_of_lt hM.lt)) (fun k e => by cases e; exact hn), fun k p hp hc => by
    have h1 := h.2 k p hp hc
    by_cases e : k = b
    · subst e
      obtain ⟨es, c, hm⟩ := hM.isMap
      rw [h1] at hm; cases hm; cases hc
    · exact (hg.block k (Array.getElem?_eq_some_iff.1 h1).1 (fun h => e (by cases h; rfl))).trans h1⟩
end
theorem key_one : ∀ {E : List St} {u v : St}, E.Pairwise (fun s t => s.key ≠ t.key) → u ∈ E → v ∈ E → u.key = v.key → u = v
  | [], _, _, _, h, _, _ => by cases h
  | x :: E, u, v, hp, hu, hv, hk => by
    obtain ⟨h1, h2⟩ := List.pairwise_cons.1 hp
    rcases List.mem_cons.1 hu with e1 | k1 <;> rcases List.mem_cons.1 hv with e2 | k2
    · rw [e1, e2]
    · rw [e1] at hk; exact absurd hk (h1 v k2)
    · rw [e2] at hk; exact absurd hk.symm (h1 u k1)
    · exact key_one h2 k1 k2 hk
theorem putS_len {E : List St} {t : St} : (putS t E).length ≤ E.length + 1 := by
  unfold putS
  rw [List.length_cons]
  have := List.length_filter_le (fun u : St => decide (¬ (u.x = t.x ∧ u.y = t.y ∧ u.z = t.z))) E
  omega
def EarI (w : World) (pre : List RSt) (W : World) : Prop := ∃ E, Boxed W (w.heap.size + 1) 192 (.map (some w.heap.size)) ∧ MapS W w.heap.size pre.length E ∧ Ear (raw pre) E ∧ E.length ≤ pre.length
set_option maxRecDepth 100000 in
set_option maxHeartbeats 4000000 in
theorem earliest_any (g n₀ N : Nat) (lb : Array Value) (S Sp : List RSt → Prop) (hN : N ≤ 5000000) (w0 w : World) (hb0 : Below w0.heap.size w0 w) (hn₀ : n₀ ≤ w0.heap.size) (eg : ∀ args w, (callFunc g args).run Tryz.prog w = .ok (.enter g args) w)
    (hS : ∀ xs, S xs → xs.length ≤ 5000000) (hseq : ∀ n, 1 ≤ n → SeqStopsK Fence.wide n Tryz.prog g lb encS (Keep n₀) S Sp N w0) :
    Calls Tryz.prog 138 #[.func (.func g) #[] lb] w fun e W' => e = .returned (.map (some w.heap.size)) ∧ (∃ xs E m, S xs ∧ MapS W' w.heap.size m E ∧ Ear (raw xs) E ∧ E.length ≤ 5000000) ∧ Below w.heap.size w W' := by
  refine (callsIn_wide (n := 5)).1 ?_
  have hmm := @run_makeMap Tryz.prog
  refine callsIn_of_wp_marks Tryz.func138 rfl trivial ?_ rfl
  simp only [Tryz.ntmps138, List.size_toArray, List.length_cons, List.length_nil, Nat.reduceAdd, Nat.reduceSub, Array.replicate_succ, Array.replicate_zero, List.push_toArray, List.append_toArray, List.nil_append, List.cons_append]
  gi_wp2
  have hsz : ((w.alloc (.map #[] 0)).alloc (.cells #[.map (some w.heap.size)] 192)).heap.size = w.heap.size + 2 := by simp
  have bM := Boxed.new (w.alloc (.map #[] 0)) 192 (.map (some w.heap.size))
  rw [size_alloc] at bM
  have hM := (MapS.made w).alloc (.cells #[.map (some w.heap.size)] 192)
  have hB0 : Below w.heap.size w ((w.alloc (.map #[] 0)).alloc (.cells #[.map (some w.heap.size)] 192)) := ((Below.refl _ w).alloc (Nat.le_refl _) _).alloc (by simp) _
  have hK0 : Below w0.heap.size w0 ((w.alloc (.map #[] 0)).alloc (.cells #[.map (some w.heap.size)] 192)) := (hb0.alloc hb0.size _).alloc (by have := hb0.size; simp; omega) _
  have hws := hb0.size
  obtain ⟨W0, hW0⟩ : ∃ W0, (w.alloc (.map #[] 0)).alloc (.cells #[.map (some w.heap.size)] 192) = W0 := ⟨_, rfl⟩
  rw [hW0] at hsz bM hM hB0 hK0 ⊢
  clear hW0 hb0
  refine wpIn_rangeFunc_ownH rfl (by omega) (gf := g) (lb := lb) rfl trivial eg (hseq 4 (by omega)) keep_t (keep_b (by omega)) hK0 (fun _ => rfl)
    (fun pre W => EarI w pre W ∧ Below w.heap.size w W)
    (fun _ _ _ => False)
    (OwnFrom.and (fun s X Y row hs hg hr => by
      obtain ⟨E, h1, h2, h3⟩ := hs
      exact ⟨E, boxed_own _ _ (fun (_ : Unit) => Value.map (some w.heap.size)) () X Y row h1 hg (fun r e => (hr r e).2), h2.kept hg (fun e => by have := (hr _ e.symm).1; omega), h3⟩) (ownFrom_below (Nat.le_refl _) (by omega)))
    (fun _ _ _ _ _ hs _ _ => hs)
    ⟨⟨[], bM, hM, ⟨by simp, by simp [raw]⟩, by simp⟩, hB0⟩
    (fun x a' W => ∃ Bx, w.heap.size + 1 < Bx ∧ Holds W Bx x.1 ∧ a' = { tmps := #[.func (.func g) #[] lb, undef, .map none, .pointer (some ⟨w.heap.size + 1, 0, none⟩), .pointer (some ⟨Bx, 0, none⟩), undef, undef, .map (some w.heap.size), .func (.func g) #[] lb, .agg #[.int .i64 x.1.d, .int .i64 x.1.e, .int .i64 x.1.x, .int .i64 x.1.y, .int .i64 x.1.z], undef, undef, undef, undef, undef, undef, undef, undef, undef, undef, undef, undef, undef, undef, undef, undef, undef, undef, undef, undef, undef], defers := [] })
    (fun x a' _ X Y row hs hg hr => by
      obtain ⟨Bx, h1, h2, h3⟩ := hs
      refine ⟨Bx, h1, Row.grown h2 hg (fun e => ?_), h3⟩
      obtain ⟨_, o, ho, hc⟩ := hr Bx e.symm
      have h4 : X.heap[Bx]? = _ := h2
      rw [h4] at ho; cases ho; cases hc)
    ?assign ?body ?done ?stop
  case assign =>
    rintro l pre x W K ⟨⟨E, bM1, hM1, hE⟩, hB1⟩ hK
    clear hmm
    dsimp only [encS] at *
    unfold St.val at *
    gi_wp2
    exact hK _ _ ((KeepsOthers.alloc _ _).from _) ((Keep.refl _ W).alloc (by have := hB1.size; omega) _) ⟨⟨E, bM1.alloc _, hM1.alloc _, hE⟩, hB1.alloc hB1.size _⟩ ⟨W.heap.size, bM1.lt, Holds.made W x.1, rfl⟩
  case body =>
    rintro l pre x a' W hl ⟨r, hr⟩ ⟨⟨E, bM1, hM1, hE, hEl⟩, hB1⟩ ⟨Bx, hBx, bX, rfl⟩ hlt
    have hsW := hB1.size
    have hnW : n₀ ≤ W.heap.size := by omega
    have cM := bM1.cell
    have hBl := bX.lt
    have hml := bM1.lt
    obtain ⟨c0, c1, c2, c3, c4⟩ := bX.cells5
    have hlen : (raw (pre ++ [x])) = raw pre ++ [x.1] := by simp [raw]
    rcases hM1.look x.2 with ⟨hrun, hno⟩ | ⟨u, hu, hk, hrun⟩
    · obtain ⟨w1, hst, hM2, hg⟩ := (hM1.alloc (.cells #[.int .i64 0, .int .i64 0, .int .i64 0, .int .i64 0, .int .i64 0] 49)).store (by unfold maxLen; omega) x.2
      unfold St.key St.zero St.val at *
      have HM1 := Lib.hid hM1; have HM2 := Lib.hid hM2; have HG := Lib.hid hg; have HE := Lib.hid (And.intro hE hEl); have HNO := Lib.hid hno; have HBM := Lib.hid bM1; have HB1 := Lib.hid hB1
      clear hM1 hM2 hg hE hEl hno bM1 bX hB1 hmm hr hseq eg hB0 hK0
      gi_wp2
      have hW1 : KeepsFrom (w.heap.size + 2) W (W.alloc (.cells #[.int .i64 0, .int .i64 0, .int .i64 0, .int .i64 0, .int .i64 0] 49)) := (KeepsOthers.alloc _ _).from _
      have hW2 := (Keep.refl n₀ W).alloc hnW (.cells #[.int .i64 0, .int .i64 0, .int .i64 0, .int .i64 0, .int .i64 0] 49)
      refine ⟨by first | exact hW1.trans (KeepsFrom.of_grownBy HG.out (fun j e => by cases e; omega)) | (rw [hsz]; exact hW1.trans (KeepsFrom.of_grownBy HG.out (fun j e => by cases e; omega))), hW2.grown (HM1.out.alloc _) HG.out (by omega), ⟨⟨_, (HBM.out.alloc _).kept HG.out (by simp), by rw [List.length_append]; exact HM2.out, ?_, ?_⟩, (HB1.out.alloc hsW _).grown HG.out (by simp; omega) (fun k e => by cases e; exact Nat.le_refl _)⟩⟩
      · rw [hlen]
        exact HE.out.1.put fun v hv hk => absurd hk (HNO.out v hv)
      · rw [List.length_append]
        have := putS_len (t := x.1) (E := E)
        have := HE.out.2
        simp; omega
    · by_cases hlt2 : x.1.e < u.e
      · obtain ⟨w1, hst, hM2, hg⟩ := (hM1.alloc (.cells #[.int .i64 u.d, .int .i64 u.e, .int .i64 u.x, .int .i64 u.y, .int .i64 u.z] 49)).store (by unfold maxLen; omega) x.2
        have hd := hM1.2.2
        unfold St.key St.val at *
        have HM1 := Lib.hid hM1; have HM2 := Lib.hid hM2; have HG := Lib.hid hg; have HE := Lib.hid (And.intro hE hEl); have HD := Lib.hid (And.intro hd (And.intro hu hk)); have HBM := Lib.hid bM1; have HB1 := Lib.hid hB1
        clear hM1 hM2 hg hE hEl hd hu hk bM1 bX hB1 hmm hr hseq eg hB0 hK0
        gi_wp2
        have hW1 : KeepsFrom (w.heap.size + 2) W (W.alloc (.cells #[.int .i64 u.d, .int .i64 u.e, .int .i64 u.x, .int .i64 u.y, .int .i64 u.z] 49)) := (KeepsOthers.alloc _ _).from _
        have hW2 := (Keep.refl n₀ W).alloc hnW (.cells #[.int .i64 u.d, .int .i64 u.e, .int .i64 u.x, .int .i64 u.y, .int .i64 u.z] 49)
        refine ⟨by first | exact hW1.trans (KeepsFrom.of_grownBy HG.out (fun j e => by cases e; omega)) | (rw [hsz]; exact hW1.trans (KeepsFrom.of_grownBy HG.out (fun j e => by cases e; omega))), hW2.grown (HM1.out.alloc _) HG.out (by omega), ⟨⟨_, (HBM.out.alloc _).kept HG.out (by simp), by rw [List.length_append]; exact HM2.out, ?_, ?_⟩, (HB1.out.alloc hsW _).grown HG.out (by simp; omega) (fun k e => by cases e; exact Nat.le_refl _)⟩⟩
        · rw [hlen]
          refine HE.out.1.put fun v hv hk => ?_
          obtain ⟨hd, hu, hku⟩ := HD.out
          by_cases e : v = u
          · subst e; omega
          · exfalso
            exact e (key_one (E := E) hd hv hu (show v.key = u.key from hk.trans hku.symm))
        · rw [List.length_append]
          have := putS_len (t := x.1) (E := E)
          have := HE.out.2
          simp; omega
      · unfold St.key St.val at *
        have HM1 := Lib.hid hM1; have HE := Lib.hid (And.intro hE hEl); have HD := Lib.hid (And.intro hu hk); have HBM := Lib.hid bM1; have HB1 := Lib.hid hB1
        clear hM1 hE hEl hu hk bM1 bX hB1 hmm hr hseq eg hB0 hK0
        gi_wp2
        refine ⟨(KeepsOthers.alloc _ _).from _, (Keep.refl n₀ W).alloc hnW _, ⟨⟨E, HBM.out.alloc _, (HM1.out.alloc _).mono (by simp), ?_, ?_⟩, HB1.out.alloc hsW _⟩⟩
        · rw [hlen]; exact HE.out.1.stay HD.out.1 HD.out.2 (by omega)
        · rw [List.length_append]; have := HE.out.2; omega
  case done =>
    rintro D ys W hD hys ⟨⟨E, bM1, hM1, hE, hEl⟩, hB1⟩ hK
    have cM := bM1.cell
    have HM1 := Lib.hid hM1; have HE := Lib.hid hE; have HB1 := Lib.hid hB1; have HK := Lib.hid hK
    clear hM1 hE bM1 hB1 hmm hseq eg hB0 hK0 hK
    gi_wp2
    refine ⟨by simp, .inl ⟨_, _, rfl, run_takeDeferred HK.out, ?_⟩⟩
    have hlD : w.heap.size < D := by omega
    refine ⟨_, results_tmp rfl _ _ _, rfl, ⟨ys, E, _, hys, HM1.out.kept (grownBy_putObj' _ D _) (fun e => by cases e; omega), HE.out, by have := hS _ hys; omega⟩, HB1.out.trans (belowK_b (w := w) (Nat.le_refl _) W D _ _ (by omega) HK.out rfl rfl)⟩
  case stop =>
    rintro D c pre W _ _ h _
    exact h.elim
end

section
open Go.ChangeShapes Go.WideShapes Go.ChangeAt Go.RowKit Go.BigFrame Go.Shelf
set_option maxRecDepth 100000
theorem mvalues_any (b : Option Nat) (w : World) :
    Calls Tryz.prog 137 #[.map b] w fun e w' => e = .returned (.func (.func 160) #[] #[.pointer (some ⟨w.heap.size, 0, none⟩)]) ∧ w' = w.alloc (.cells #[.map b] 192) := by
  go_enter Tryz.func137, Tryz.ntmps137
  go_wp2_with fail
  go_ret
  exact ⟨rfl, rfl⟩
structure Col (E : List St) (left : Lit → Bool) (xs : List RSt) : Prop where
  sub : ∀ t ∈ raw xs, t ∈ E
  nodup : (raw xs).Nodup
  all : ∀ e ∈ E, left (kl e) = true ∨ e ∈ raw xs
  gone : ∀ t ∈ raw xs, left (kl t) = false
section
variable {E : List St} {L : List (Lit × DataW Unit)} {left : Lit → Bool} {xs : List RSt}
theorem kl_lit {t : St} (h : t.R) : WideAt.IsKeyLit (kl t) := keyed3.key (keyOf_kl h)
theorem Col.start (hp : L.Perm (E.map ent)) (hR : ∀ t ∈ E, t.R) : Col E (Go.Maps.has (.map L)) [] := by
  refine ⟨by simp [raw], by simp [raw], fun e he => .inl ?_, by simp [raw]⟩
  rw [Go.Maps.has_eq, List.any_eq_true]
  exact ⟨ent e, hp.mem_iff.2 (List.mem_map_of_mem he), WideAt.sameKey_self (kl_lit (hR e he))⟩
theorem map_at {k : Lit} {c : St} (hp : L.Perm (E.map ent)) (hat : ∀ zd, (DataW.map L).atKey k zd = dat c) : c ∈ E ∧ kl c = k := by
  have h1 : Go.Maps.has (.map L) k = true := Go.Maps.has_true_of_atKey hat
  rw [Go.Maps.has_eq, List.any_eq_true] at h1
  have h2 := hat .nil
  unfold DataW.atKey at h2
  dsimp only at h2
  cases hf : L.find? (fun p => p.1.sameKey k) with
  | none =>
    rw [List.find?_eq_none] at hf
    obtain ⟨p, hp1, hp2⟩ := h1
    exact absurd hp2 (hf p hp1)
  | some p =>
    rw [hf] at h2
    dsimp only at h2
    have hs := List.find?_some hf
    obtain ⟨u, hu, e⟩ := List.mem_map.1 (hp.mem_iff.1 (List.mem_of_find?_eq_some hf))
    have h3 : dat u = dat c := by rw [← h2, ← e]; rfl
    have h4 := dat_inj h3
    subst h4
    refine ⟨hu, ?_⟩
    have h5 := WideAt.sameKey_eq hs
    rw [← e] at h5
    exact h5
theorem Col.step (h : Col E left xs) (hp : L.Perm (E.map ent)) (hR : ∀ t ∈ E, t.R) (hd : E.Pairwise fun s t => s.key ≠ t.key) {k : Lit} (c : RSt) (hl : left k = true) (hat : ∀ zd, (DataW.map L).atKey k zd = dat c.1) :
    Col E (fun z => left z && !z.sameKey k) (xs ++ [c]) := by
  obtain ⟨hc, hk⟩ := map_at hp hat
  have hr : raw (xs ++ [c]) = raw xs ++ [c.1] := by simp [raw]
  have hself : k.sameKey k = true := by rw [← hk]; exact WideAt.sameKey_self (kl_lit (hR _ hc))
  refine ⟨?_, ?_, ?_, ?_⟩
  · intro t ht
    rw [hr] at ht
    rcases List.mem_append.1 ht with ht | ht
    · exact h.sub t ht
    · rw [List.mem_singleton] at ht; subst ht; exact hc
  · rw [hr, List.nodup_append]
    refine ⟨h.nodup, by simp, fun a ha b hb e => ?_⟩
    rw [List.mem_singleton] at hb
    subst hb; subst e
    have := h.gone _ ha
    rw [hk, hl] at this; cases this
  · intro e he
    rw [hr]
    by_cases hs : (kl e).sameKey k = true
    · refine .inr (List.mem_append_right _ ?_)
      have h1 : kl e = kl c.1 := (WideAt.sameKey_eq hs).trans hk.symm
      rw [key_one hd he hc (kl_inj (hR e he) (hR _ hc) h1)]
      simp
    · rcases h.all e he with h1 | h1
      · refine .inl ?_
        simp [h1, hs]
      · exact .inr (List.mem_append_left _ h1)
  · intro t ht
    rw [hr] at ht
    rcases List.mem_append.1 ht with ht | ht
    · simp [h.gone t ht]
    · rw [List.mem_singleton] at ht; subst ht
      rw [hk, hself]; simp
end
def frAllOf (E : List St) (xs : List RSt) : Prop := (raw xs).Nodup ∧ ∀ t, t ∈ raw xs ↔ t ∈ E
theorem Col.done {E : List St} {left : Lit → Bool} {xs : List RSt} (h : Col E left xs) (hl : ∀ k, left k = false) : frAllOf E xs :=
  ⟨h.nodup, fun t => ⟨h.sub t, fun ht => by
    rcases h.all t ht with h1 | h1
    · rw [hl] at h1; cases h1
    · exact h1⟩⟩
set_option maxRecDepth 100000 in
set_option maxHeartbeats 2000000 in
theorem mvaluesC (n : Nat) (hn : 1 ≤ n) (Bm b nn : Nat) (E : List St) (hEl : E.length ≤ 5000000) (w : World) (hBm : BoxAt w Bm (.map (some b))) (hM : MapS w b nn E) :
    SeqStopsK Fence.wide n Tryz.prog 160 #[.pointer (some ⟨Bm, 0, none⟩)] encS KeepsWalks (frAllOf E) (fun _ => True) E.length w := fun l J Jx W hW hJ _ hY h0 => by
  have hm := (hBm.below hW).2
  obtain ⟨⟨L, hown, hp⟩, hR, hd⟩ := hM
  have hown : W.ownsMap Tryz.prog 42 elS b nn (.map L) := by
    have hbl := hown.lt
    obtain ⟨es, clock, hb, Ft, hs, hD⟩ := hown
    exact ⟨es, clock, (hW.block b hbl).trans hb, Ft, hs, hD⟩
  have hsize : Go.Maps.size (DataW.map L) = E.length := by
    rw [Go.Maps.size_eq, hp.length_eq, List.length_map]
  have HP := Lib.hid (And.intro hp (And.intro hR hd)); have HJ := Lib.hid hJ
  have hcol := Col.start hp hR
  clear hp hR hd hJ hBm hW
  refine callsIn_of_wp Tryz.func160 rfl trivial ?_ rfl
  simp only [Tryz.ntmps160, List.size_toArray, List.length_cons, List.length_nil, Nat.reduceAdd, Nat.reduceSub, Array.replicate_succ, Array.replicate_zero, List.push_toArray, List.append_toArray, List.nil_append, List.cons_append]
  gi_wp2_with (first
    | (gi_at_range; refine wpListIn_range_own _ rfl _ 192 rfl 42 49 keyed3 Tryz.underlying192 elS b nn _ rfl hown ?_; intro w0 hrg0 hg0 hs0)
    | gi_in)
  go_frame
  gi_loopw [4] (fun _ wr => ∃ (left : Lit → Bool) (cnt : Nat) (xs : List RSt), wr.ranges Tryz.prog 42 elS b W.heap.size nn (.map L) left cnt ∧ xs.length + cnt ≤ E.length ∧ Col E left xs ∧ J xs wr)
    (fun _ wr => wr.rangeLeft b W.heap.size)
  case atStart =>
    exact ⟨_, _, [], hrg0, by rw [hsize]; simp, hcol, HJ.out [] W w0 none h0 hg0 (fun r e => by cases e)⟩
  case round =>
    obtain ⟨left, cnt, xs, hrg, hcs, hC, hJs⟩ := hrel
    clear hcol hrg0 hg0 hs0 hm h0
    have HC := Lib.hid hC; clear hC
    gi_wp2_with (first
      | (gi_at_next; refine wpListIn_next_ranges _ rfl _ rfl 42 keyed3 elS id St.val (fun key kl _ => ⟨key, rfl⟩) (fun v y hv => by obtain ⟨t, rfl, _⟩ := elS_inv hv; exact ⟨t, rfl⟩) b W.heap.size nn _ _ _ rfl hrg ?_ ?_)
      | gi_in)
    · intro hc0 hl0
      have H := Lib.hid (HC.out.done hl0)
      gi_wp2
      go_end0
      exact ⟨⟨_, rfl⟩, .inl ⟨xs, H.out, hJs⟩⟩
    · intro x c kl0 yd yp w2 cnt2 hkey hlk hv hat hrg2 hlt hg2 hs2 hen
      obtain ⟨c', ec, ez⟩ := elS_inv hv
      obtain rfl := val_inj ec
      obtain rfl : yd = dat c := (Prod.mk.inj ez).1
      clear ez
      have hc := (map_at HP.out.1 hat).1
      have hJ2 : J xs w2 := HJ.out xs wr w2 (some W.heap.size) hJs hg2 (fun r e => by cases e; exact ⟨Nat.le_refl _, hrg.iter_walk⟩)
      have hJ3 : J xs (w2.alloc (.cells #[.int .i64 c.d, .int .i64 c.e, .int .i64 c.x, .int .i64 c.y, .int .i64 c.z] 49)) := HJ.out _ _ _ none hJ2 (World.grownBy_alloc _ _ none) (fun r e => by cases e)
      obtain ⟨fn, tmps, assign, body, hy, hR⟩ := hY xs ⟨c, HP.out.2.1 c hc⟩ _ hJ3 (by omega)
      dsimp only [encS] at hy
      have hC2 := HC.out.step HP.out.1 HP.out.2.1 HP.out.2.2 ⟨c, HP.out.2.1 c hc⟩ hlk hat
      have hrg3 := hrg2.of_walks (KeepsWalks.alloc w2 (.cells #[.int .i64 c.d, .int .i64 c.e, .int .i64 c.x, .int .i64 c.y, .int .i64 c.z] 49))
      have HC2 := Lib.hid hC2; have HRG := Lib.hid hrg3; have HR := Lib.hid hR; have HRG0 := Lib.hid hrg
      unfold St.val at *
      clear hs2 hC2 hrg3 hR hrg hrg2 hkey hlk hv hat hg2 hJ2 hJ3 hJs ec HC
      gi_wp2
      refine HR.out.mono ?_
      rintro e W3 (⟨rfl, hJ3, hk3⟩ | ⟨rfl, hJx3⟩)
      · have hrg4 := HRG.out.of_walks hk3
        have HRG4 := Lib.hid hrg4; clear hrg4 hk3
        gi_wp2
        go_roundw
        case rel => exact ⟨_, cnt2, xs ++ [⟨c, _⟩], HRG4.out, by rw [List.length_append]; simp; omega, HC2.out, hJ3⟩
        case measure => rw [HRG4.out.left_eq, HRG0.out.left_eq]; exact hlt
      · gi_wp2
        refine bodyPost_ret (results_none rfl _ _ _) rfl ?_
        exact ⟨⟨_, rfl⟩, .inr ⟨_, trivial, hJx3⟩⟩
end

section
open Go.ChangeShapes Go.WideShapes Go.ChangeAt Go.RowKit Go.BigFrame Go.Shelf
set_option maxRecDepth 100000
attribute [local go_sem] Oper.semAt_some
def AppI (w : World) (pre : List RSt) (W : World) : Prop := ∃ v, Boxed W w.heap.size 51 v ∧ W.ownsRow w.heap.size 49 5 v pre.length (rowS (raw pre)) ∧ True
theorem rowS_one_at (w : World) (t : St) : ∀ (j : Nat) (u : Value), (rowS [t])[j]? = some u → (w.alloc (.cells #[.int .i64 t.d, .int .i64 t.e, .int .i64 t.x, .int .i64 t.y, .int .i64 t.z] 49)).cell? ((⟨w.heap.size, 0, none⟩ : Addr).add j) = some u := by
  intro j u hj
  have h : Row (w.alloc (.cells #[.int .i64 t.d, .int .i64 t.e, .int .i64 t.x, .int .i64 t.y, .int .i64 t.z] 49)) w.heap.size 49 (rowS [t]) := Row.made w _ (rowS [t])
  rw [add_zero_off]
  exact (h.cell j).trans hj
set_option maxRecDepth 100000 in
set_option maxHeartbeats 4000000 in
theorem appendSeq_any (g N : Nat) (lb : Array Value) (S Sp : List RSt → Prop) (hN : N ≤ 5000000) (w0 w : World) (hb0 : Below w0.heap.size w0 w) (eg : ∀ args w, (callFunc g args).run Tryz.prog w = .ok (.enter g args) w)
    (hseq : ∀ n, 1 ≤ n → SeqStopsK Fence.wide n Tryz.prog g lb encS KeepsWalks S Sp N w0) :
    Calls Tryz.prog 177 #[.slice none 0 0, .func (.func g) #[] lb] w fun e W' => (∃ v xs, e = .returned v ∧ S xs ∧ W'.ownsRow w.heap.size 49 5 v xs.length (rowS (raw xs))) ∧ Below w.heap.size w W' := by
  refine (callsIn_wide (n := 5)).1 ?_
  refine callsIn_of_wp_marks Tryz.func177 rfl trivial ?_ rfl
  simp only [Tryz.ntmps177, List.size_toArray, List.length_cons, List.length_nil, Nat.reduceAdd, Nat.reduceSub, Array.replicate_succ, Array.replicate_zero, List.push_toArray, List.append_toArray, List.nil_append, List.cons_append]
  obtain ⟨i0, hi, hz0, hz1, hz2⟩ := info_parts Tryz.infoStamp
  gi_wp2
  have hsz : (w.alloc (.cells #[.slice none 0 0] 51)).heap.size = w.heap.size + 1 := by simp
  have bM := Boxed.new w 51 (.slice none 0 0)
  have hB0 : Below w.heap.size w (w.alloc (.cells #[.slice none 0 0] 51)) := (Below.refl _ w).alloc (Nat.le_refl _) _
  have hK0 : Below w0.heap.size w0 (w.alloc (.cells #[.slice none 0 0] 51)) := hb0.alloc hb0.size _
  obtain ⟨W0, hW0⟩ : ∃ W0, w.alloc (.cells #[.slice none 0 0] 51) = W0 := ⟨_, rfl⟩
  rw [hW0] at hsz bM hB0 hK0 ⊢
  clear hW0 hb0
  refine wpIn_rangeFunc_ownH rfl (by omega) (gf := g) (lb := lb) rfl trivial eg (hseq 4 (by omega)) walksK_t walksK_b hK0 (fun _ => rfl)
    (fun pre W => AppI w pre W ∧ Below w.heap.size w W)
    (fun _ _ _ => False)
    (OwnFrom.and (Own.from (holdsRow_own w.heap.size w.heap.size 51 49 5 (fun pre : List RSt => pre.length) (fun pre => rowS (raw pre)) (fun _ _ => True)) _) (ownFrom_below (Nat.le_refl _) (by omega)))
    (fun _ _ _ _ _ hs _ _ => hs)
    ⟨⟨_, bM, World.ownsRow_nil _ _ _ _, trivial⟩, hB0⟩
    (fun x a' W => ∃ Bx, w.heap.size < Bx ∧ Holds W Bx x.1 ∧ a' = { tmps := #[.slice none 0 0, .func (.func g) #[] lb, .pointer (some ⟨w.heap.size, 0, none⟩), undef, .slice none 0 0, .pointer (some ⟨Bx, 0, none⟩), .func (.func g) #[] lb, .agg #[.int .i64 x.1.d, .int .i64 x.1.e, .int .i64 x.1.x, .int .i64 x.1.y, .int .i64 x.1.z], undef, undef, undef, undef, undef], defers := [] })
    (fun x a' _ X Y row hs hg hr => by
      obtain ⟨Bx, h1, h2, h3⟩ := hs
      refine ⟨Bx, h1, Row.grown h2 hg (fun e => ?_), h3⟩
      obtain ⟨_, o, ho, hc⟩ := hr Bx e.symm
      have h4 : X.heap[Bx]? = _ := h2
      rw [h4] at ho; cases ho; cases hc)
    ?assign ?body ?done ?stop
  case assign =>
    rintro l pre x W K ⟨⟨v, bM1, hr1⟩, hB1⟩ hK
    dsimp only [encS] at *
    unfold St.val at *
    gi_wp2
    exact hK _ _ ((KeepsOthers.alloc _ _).from _) (KeepsWalks.alloc W _) ⟨⟨v, bM1.alloc _, hr1.1.alloc _, trivial⟩, hB1.alloc hB1.size _⟩ ⟨W.heap.size, bM1.lt, Holds.made W x.1, rfl⟩
  case body =>
    rintro l pre x a' W hl ⟨r, hr⟩ ⟨⟨v, bM1, hr1, _⟩, hB1⟩ ⟨Bx, hBx, bX, rfl⟩ hlt
    have hsW := hB1.size
    have cM := bM1.cell
    have hBl := bX.lt
    have hml := bM1.lt
    obtain ⟨c0, c1, c2, c3, c4⟩ := bX.cells5
    have hnews := rowS_one_at W x.1
    have hrow := hr1.alloc (.cells #[.int .i64 x.1.d, .int .i64 x.1.e, .int .i64 x.1.x, .int .i64 x.1.y, .int .i64 x.1.z] 49)
    have hlen : rowS (raw pre) ++ rowS [x.1] = rowS (raw (pre ++ [x])) := by rw [← rowS_append]; simp [raw]
    have HB := Lib.hid (And.intro bM1 (And.intro hr1 hB1)); have HROW := Lib.hid hrow; have HN := Lib.hid hnews; have HL := Lib.hid hlen
    clear bM1 hr1 hB1 hrow hnews hr bX hseq eg hB0 hK0 hlen
    gi_wp2_with (gi_at_builtin; refine wpListIn_append_own _ rfl _ _ 51 rfl w.heap.size 49 i0 (.agg #[.int .i64 0, .int .i64 0, .int .i64 0, .int .i64 0, .int .i64 0]) 5 40 Tryz.underlying51 hi hz0 hz1 hz2 rfl (by decide) v pre.length (rowS (raw pre)) rfl HROW.out ⟨W.heap.size, 0, none⟩ 1 1 (rowS [x.1]) rfl rfl HN.out (rowS_one [x.1]) (by unfold maxLen; omega) (by omega) (by simp; omega) ?_; intro v' w1 hown' hgrow _; obtain ⟨g', cap', rfl⟩ := ownsRow_succ hown'; obtain ⟨hv1, hv2, hr2, hk2, hb2⟩ := (HB.out.1).appended (by decide) HB.out.2.1 hsW (Nat.le_refl _) hown' hgrow; have hc1 := hv1.cell; have hf1 := hv1.frozen)
    rw [HL.out] at hr2
    exact ⟨hk2.from _, hk2.walks, ⟨_, hv2, by rw [List.length_append]; exact hr2, trivial⟩, HB.out.2.2.trans hb2⟩
  case done =>
    rintro D ys W hD hys ⟨⟨v, bM1, hr1, _⟩, hB1⟩ hK
    have cM := bM1.cell
    have HR := Lib.hid hr1; have HB1 := Lib.hid hB1; have HK := Lib.hid hK
    clear hr1 bM1 hB1 hseq eg hB0 hK0 hK
    gi_wp2
    refine ⟨by simp, .inl ⟨_, _, rfl, run_takeDeferred HK.out, ?_⟩⟩
    exact ⟨_, results_tmp rfl _ _ _, ⟨_, ys, rfl, hys, ownsRow_putObj HR.out _ HK.out rfl⟩, HB1.out.trans (belowK_b (w := w) (Nat.le_refl _) W D _ _ (by omega) HK.out rfl rfl)⟩
  case stop =>
    rintro D c pre W _ _ h _
    exact h.elim
theorem collect_any (g N : Nat) (lb : Array Value) (S Sp : List RSt → Prop) (hN : N ≤ 5000000) (w0 w : World) (hb0 : Below w0.heap.size w0 w) (eg : ∀ args w, (callFunc g args).run Tryz.prog w = .ok (.enter g args) w)
    (hseq : ∀ n, 1 ≤ n → SeqStopsK Fence.wide n Tryz.prog g lb encS KeepsWalks S Sp N w0) :
    Calls Tryz.prog 158 #[.func (.func g) #[] lb] w fun e W' => (∃ v xs, e = .returned v ∧ S xs ∧ W'.ownsRow w.heap.size 49 5 v xs.length (rowS (raw xs))) ∧ Below w.heap.size w W' := by
  have H := Lib.hid (appendSeq_any g N lb S Sp hN w0 w hb0 eg hseq)
  clear hseq eg hb0
  go_enter Tryz.func158, Tryz.ntmps158
  go_wp2_with fail
  refine (H.out).mono ?_; rintro e w1 ⟨⟨v, xs, rfl, hS, hr⟩, hb⟩
  have HH := Lib.hid (And.intro hS (And.intro hr hb)); clear hS hr hb
  dsimp only
  go_wp2_with fail
  go_ret
  exact ⟨⟨v, xs, rfl, HH.out.1, HH.out.2.1⟩, HH.out.2.2⟩
end

section
open Go.ChangeShapes Go.WideShapes Go.ChangeAt Go.RowKit Go.BigFrame Go.Shelf
open Go.Sort (grow SWO putCells flatK size_flatK get_flatK putRowK HoldsK)
set_option maxRecDepth 100000
instance : Inhabited St := ⟨St.zero⟩
theorem grew_grow {W w' : World} (h : Grew W w') : ∃ q os, w' = grow (W.drewN q) os := by
  obtain ⟨⟨h1, h2, h3, h4, h5⟩, h6⟩ := h
  refine ⟨w'.drawn - W.drawn, w'.heap.extract W.heap.size w'.heap.size, ?_⟩
  have hh : w'.heap = W.heap ++ w'.heap.extract W.heap.size w'.heap.size := by
    apply Array.ext_getElem?
    intro k
    rw [Array.getElem?_append]
    split
    · rename_i hk; exact h5 k hk
    · rename_i hk
      rw [Array.getElem?_extract]
      by_cases hk2 : k < w'.heap.size
      · rw [if_pos (by omega), show W.heap.size + (k - W.heap.size) = k by omega]
      · rw [if_neg (by omega), Array.getElem?_eq_none (by omega)]
  have hd : w'.drawn = W.drawn + (w'.drawn - W.drawn) := by omega
  cases w'
  cases W
  simp only at h1 h2 h3 hh hd
  unfold grow World.drewN
  simp only [World.mk.injEq]
  exact ⟨hh, h2, hd, h1, h3⟩
theorem flat_row (ts : List St) : flatK St.cells 5 ts.toArray = (rowS ts).toArray := by
  apply Array.ext_getElem?
  intro k
  by_cases hk : k < ts.length * 5
  · have h1 : k / 5 < ts.length := by omega
    obtain ⟨t, ht⟩ : ∃ t, ts[k / 5]? = some t := ⟨_, List.getElem?_eq_getElem h1⟩
    obtain ⟨u, hu⟩ : ∃ u, t.cells[k % 5]? = some u := ⟨_, List.getElem?_eq_getElem (by show k % 5 < 5; omega)⟩
    have h2 := rowS_at ts (k / 5) t ht (k % 5) u hu
    rw [show k / 5 * 5 + k % 5 = k by omega] at h2
    have hrhs : (rowS ts).toArray[k]? = some u := by simpa using h2
    rw [hrhs]
    have h3 := get_flatK St.cells 5 ts.toArray k (by simpa using hk)
    have h4 : ts.toArray[k / 5]! = t := by
      rw [List.getElem!_toArray, List.getElem!_eq_getElem?_getD, ht]; rfl
    rw [h4, List.getElem!_eq_getElem?_getD, hu] at h3
    have h5 : k < (flatK St.cells 5 ts.toArray).size := by rw [size_flatK]; simpa using hk
    rw [getElem!_pos _ k h5] at h3
    rw [Array.getElem?_eq_getElem h5, h3]; rfl
  · rw [Array.getElem?_eq_none (by rw [size_flatK]; simpa using hk), Array.getElem?_eq_none (by simp only [List.size_toArray]; rw [rowS_len]; omega)]
theorem swoC : SWO (ltOf St.C) where
  irrefl x := by
    have : x.C x = 0 := St.C_zero.2 rfl
    simp [ltOf, this]
  trans x y z h1 h2 := by
    simp only [ltOf, decide_eq_true_eq] at *
    exact St.C_lt_trans h1 h2
  ntrans x y z h1 h2 := by
    simp only [ltOf, decide_eq_false_iff_not] at *
    have e1 := St.C_swap (a := x) (b := y)
    have e2 := St.C_swap (a := y) (b := z)
    have e3 := St.C_swap (a := x) (b := z)
    have := St.C_trans (a := z) (b := y) (c := x) (by omega) (by omega)
    omega
def sortS (ts : List St) : List St := ts.mergeSort fun x y => !(ltOf St.C) y x
theorem sortS_perm (ts : List St) : (sortS ts).Perm ts := List.mergeSort_perm _ _
theorem sortS_rises (ts : List St) : (sortS ts).Pairwise fun x y => x.C y ≤ 0 := by
  refine (List.pairwise_mergeSort (le := fun x y => !(ltOf St.C) y x) ?_ ?_ ts).imp ?_
  · intro a b c h1 h2
    simp only [ltOf, Bool.not_eq_true', decide_eq_false_iff_not] at *
    have e1 := St.C_swap (a := a) (b := b)
    have e2 := St.C_swap (a := b) (b := c)
    have e3 := St.C_swap (a := a) (b := c)
    have := St.C_trans (a := a) (b := b) (c := c) (by omega) (by omega)
    omega
  · intro a b
    have e1 := St.C_swap (a := a) (b := b)
    simp only [ltOf, Bool.or_eq_true, Bool.not_eq_true', decide_eq_false_iff_not]
    omega
  · intro a b h
    have e1 := St.C_swap (a := a) (b := b)
    simp only [ltOf, Bool.not_eq_true', decide_eq_false_iff_not] at h
    omega
theorem cmpLays (blk off size : Nat) (w : World) : CmpLays Tryz.prog 53 #[] St.cells 5 St.C blk off size w := by
  intro m os dk _ x y
  exact (compare_grew x y _).mono fun _ _ h => ⟨h.1, grew_grow h.2⟩
theorem grown_sorted {w : World} {g n : Nat} {os : Array Obj} (d : Array St) : w.grownBy (sortWorldK St.cells 5 w g 0 n d os) (some g) := by
  refine ⟨rfl, rfl, rfl, ?_, fun k hk hne => ?_⟩
  · exact size_sortWorldK_c St.cells 5 w g 0 n d os
  · unfold sortWorldK
    rw [Go.Sort.heap_grow_old _ _ (by simpa [putRowK] using hk)]
    have : g ≠ k := fun e => hne (by rw [e])
    simp [putRowK, Go.Sort.putRow, Go.Sort.mapBlock, Go.Sort.ahead, Array.getElem?_modify, this]
theorem sortFunc_any (base n : Nat) (v : Value) (ts : List St) (w : World) (hr : w.ownsRow base 49 5 v n (rowS ts)) (hn : ts.length ≤ 5000000) :
    Calls Tryz.prog 159 #[v, .func (.func 53) #[] #[]] w fun e w' => e = .returned (.tuple #[]) ∧ w'.ownsRow base 49 5 v n (rowS (sortS ts)) ∧ w.grownBy w' v.ownBlock := by
  have hl : ts.length = n := by have := hr.1; rw [rowS_len] at this; omega
  rcases hr.2 with ⟨rfl, h0⟩ | ⟨g, cap, cur, rfl, hb, hh, h1, h2, h3, h4⟩
  · have : ts = [] := List.eq_nil_of_length_eq_zero (by omega)
    subst this
    exact (AnyF.slices_SortFunc_none Tryz.sortStamp none 0 _ w).mono fun e w' ⟨he, hw⟩ => ⟨he, by subst hw; rw [show sortS [] = [] from List.mergeSort_nil]; exact hr, by subst hw; exact ⟨rfl, rfl, rfl, Nat.le_refl _, fun _ _ _ => rfl⟩⟩
  · have hg : g < w.heap.size := (Array.getElem?_eq_some_iff.1 hh).1
    have hH : HoldsK St.cells 5 w g 0 ts.toArray := by
      unfold HoldsK
      rw [flat_row]
      intro j hj
      have hj' : j < (rowS ts).length := by simpa using hj
      refine ⟨?_, by simp [World.frozen?, hh]⟩
      have hc := hr.cells (g := g) rfl j _ (List.getElem?_eq_getElem hj')
      rw [add_zero_off] at hc
      rw [Nat.zero_add, hc, getElem!_pos _ j hj]
      rfl
    have hs := AnyQ.slices_SortFunc_total Tryz.sortStamp 5 Tryz.isAgg49 Tryz.sizeOf49 St.cells (fun _ => rfl) (fun x v hv => rowS_one [x] v (by simpa [rowS] using hv)) St.C swoC 53 #[] g 0 cap ts.toArray w
      (enters_of Tryz.func53 (by kernel_rfl) rfl) (cmpLays _ _ _ _) hH hg (by simp; omega) (fun x y hx hy => by
        simp only [ltOf, decide_eq_false_iff_not] at hx hy
        have e1 := St.C_swap (a := x) (b := y)
        exact St.C_zero.1 (by omega))
    rw [show ts.toArray.size = n by simpa using hl] at hs
    refine hs.mono fun e w' ⟨he, m, os, hw⟩ => ⟨he, ?_, by subst hw; exact grown_sorted _⟩
    subst hw
    refine ⟨by rw [rowS_len, (sortS_perm ts).length_eq, hl], .inr ⟨g, cap, putCells id 0 (rowS (sortS ts)).toArray cur, rfl, hb, ?_, h1, h2, by simp [putCells, h3], ?_⟩⟩
    · unfold sortWorldK
      rw [Go.Sort.heap_grow_old _ _ (by simpa [putRowK] using hg)]
      show (putRowK St.cells 5 (Go.Sort.ahead w m) g 0 (sortS ts).toArray).heap[g]? = _
      unfold putRowK
      rw [flat_row]
      simp [Go.Sort.putRow, Go.Sort.mapBlock, Go.Sort.ahead, Array.getElem?_modify, hh, Go.Sort.onCells]
    · have hlen : (rowS (sortS ts)).length = n * 5 := by rw [rowS_len, (sortS_perm ts).length_eq, hl]
      apply List.ext_getElem?
      intro j
      by_cases hj : j < n * 5
      · rw [List.getElem?_take_of_lt hj, Array.getElem?_toList]
        have : j < cur.size := by have := Nat.mul_le_mul_right 5 h1; omega
        simp [putCells, hlen, hj, this]
      · rw [List.getElem?_take_eq_none (by omega), List.getElem?_eq_none (by omega)]
end
end Go.Proofs.YtcdofkhkckodjaaGreatDoor
