/- earliest: of the times that an iterator tells, those of the first epoch, by their counters. -/
import Derived.Test.YtkbabmifdfmhlaaFrMap
namespace Go.Proofs.Ytkbabmifdfmhlaa
open Go.ChangeShapes Go.WideShapes Go.ChangeAt Go.RowKit Go.BigFrame Go.Shelf
set_option linter.unusedVariables false
set_option maxRecDepth 100000
attribute [local go_sem] Oper.semAt_some
/-- E are some of xs, and one of them with its counters, not later, for each -/
structure Ear (xs E : List St) : Prop where
  sub : ∀ e ∈ E, e ∈ xs
  all : ∀ t ∈ xs, ∃ e ∈ E, e.key = t.key ∧ e.e ≤ t.e
section
variable {xs E : List St} {x u : St}
theorem mem_putS : u ∈ putS x E ↔ u = x ∨ u ∈ E ∧ u.key ≠ x.key := by
  unfold putS
  rw [List.mem_cons, List.mem_filter, decide_eq_true_iff, ← key_inj]
theorem Ear.put (h : Ear xs E) (hl : ∀ u ∈ E, u.key = x.key → x.e ≤ u.e) : Ear (xs ++ [x]) (putS x E) := by
  refine ⟨fun e he => ?_, fun t ht => ?_⟩
  · rcases mem_putS.1 he with rfl | ⟨he, _⟩
    · simp
    · exact List.mem_append_left _ (h.sub e he)
  · rcases List.mem_append.1 ht with ht | ht
    · obtain ⟨e, he, hk, hle⟩ := h.all t ht
      by_cases hx : e.key = x.key
      · exact ⟨x, mem_putS.2 (.inl rfl), hx.symm.trans hk, Int.le_trans (hl e he hx) hle⟩
      · exact ⟨e, mem_putS.2 (.inr ⟨he, hx⟩), hk, hle⟩
    · have : t = x := by simpa using ht
      subst this
      exact ⟨t, mem_putS.2 (.inl rfl), rfl, Int.le_refl _⟩
theorem Ear.stay (h : Ear xs E) (hu : u ∈ E) (hk : u.key = x.key) (hl : u.e ≤ x.e) : Ear (xs ++ [x]) E := by
  refine ⟨fun e he => List.mem_append_left _ (h.sub e he), fun t ht => ?_⟩
  rcases List.mem_append.1 ht with ht | ht
  · exact h.all t ht
  · have : t = x := by simpa using ht
    subst this
    exact ⟨u, hu, hk, hl⟩
theorem Keep.alloc {n : Nat} {A B : World} (h : Keep n A B) (hn : n ≤ B.heap.size) (o : Obj) : Keep n A (B.alloc o) :=
  ⟨h.1.alloc hn o, fun b p hp hc => (Below.heap_alloc B o b (Array.getElem?_eq_some_iff.1 (h.2 b p hp hc)).1).trans (h.2 b p hp hc)⟩
theorem Keep.refl (n : Nat) (A : World) : Keep n A A := ⟨Below.refl _ _, fun b p hp _ => hp⟩
theorem MapS.isMap {w : World} {b n : Nat} (h : MapS w b n E) : ∃ es c, w.heap[b]? = some (.map es c) := by
  obtain ⟨⟨L, ⟨es, clock, hb, _⟩, _⟩, _⟩ := h
  exact ⟨es, clock, hb⟩
theorem MapS.mono {w : World} {b n m : Nat} (h : MapS w b n E) (hm : n ≤ m) : MapS w b m E := by
  obtain ⟨⟨L, h1, h2⟩, h3⟩ := h
  exact ⟨⟨L, h1.mono hm, h2⟩, h3⟩
theorem Keep.grown {n b m : Nat} {A B C : World} (h : Keep n A B) (hM : MapS B b m E) (hg : B.grownBy C (some b)) (hn : n ≤ b) : Keep n A C :=
  ⟨h.1.grown hg (Nat.le_trans hn (Nat.le_of_lt hM.lt)) (fun k e => by cases e; exact hn), fun k p hp hc => by
    have h1 := h.2 k p hp hc
    by_cases e : k = b
    · subst e
      obtain ⟨es, c, hm⟩ := hM.isMap
      rw [h1] at hm; cases hm; cases hc
    · exact (hg.block k (Array.getElem?_eq_some_iff.1 h1).1 (fun h => e (by cases h; rfl))).trans h1⟩
end
theorem key_one : ∀ {E : List St} {u v : St}, E.Pairwise (fun s t => s.key ≠ t.key) → u ∈ E → v ∈ E → u.key = v.key → u = v
  | [], _, _, _, h, _, _ => by cases h
  | x :: E, u, v, hp, hu, hv, hk => by
    obtain ⟨h1, h2⟩ := List.pairwise_cons.1 hp
    rcases List.mem_cons.1 hu with e1 | k1 <;> rcases List.mem_cons.1 hv with e2 | k2
    · rw [e1, e2]
    · rw [e1] at hk; exact absurd hk (h1 v k2)
    · rw [e2] at hk; exact absurd hk.symm (h1 u k1)
    · exact key_one h2 k1 k2 hk
theorem putS_len {E : List St} {t : St} : (putS t E).length ≤ E.length + 1 := by
  unfold putS
  rw [List.length_cons]
  have := List.length_filter_le (fun u : St => decide (¬ (u.x = t.x ∧ u.y = t.y ∧ u.z = t.z))) E
  omega
/-- between two rounds -/
def EarI (w : World) (pre : List RSt) (W : World) : Prop := ∃ E, Boxed W (w.heap.size + 1) 85 (.map (some w.heap.size)) ∧ MapS W w.heap.size pre.length E ∧ Ear (raw pre) E ∧ E.length ≤ pre.length
set_option maxRecDepth 100000 in
set_option maxHeartbeats 4000000 in
theorem earliest_any (g n₀ N : Nat) (lb : Array Value) (S Sp : List RSt → Prop) (hN : N ≤ 1000) (w0 w : World) (hb0 : Below w0.heap.size w0 w) (hn₀ : n₀ ≤ w0.heap.size) (eg : ∀ args w, (callFunc g args).run Try.prog w = .ok (.enter g args) w)
    (hS : ∀ xs, S xs → xs.length ≤ 1000) (hseq : ∀ n, 1 ≤ n → SeqStopsK Fence.wide n Try.prog g lb encS (Keep n₀) S Sp N w0) :
    Calls Try.prog 74 #[.func (.func g) #[] lb] w fun e W' => e = .returned (.map (some w.heap.size)) ∧ (∃ xs E m, S xs ∧ MapS W' w.heap.size m E ∧ Ear (raw xs) E ∧ E.length ≤ 1000) ∧ Below w.heap.size w W' := by
  refine (callsIn_wide (n := 5)).1 ?_
  have hmm := @run_makeMap Try.prog
  refine callsIn_of_wp_marks Try.func74 rfl trivial ?_ rfl
  simp only [Try.ntmps74, List.size_toArray, List.length_cons, List.length_nil, Nat.reduceAdd, Nat.reduceSub, Array.replicate_succ, Array.replicate_zero, List.push_toArray, List.append_toArray, List.nil_append, List.cons_append]
  gi_wp2
  have hsz : ((w.alloc (.map #[] 0)).alloc (.cells #[.map (some w.heap.size)] 85)).heap.size = w.heap.size + 2 := by simp
  have bM := Boxed.new (w.alloc (.map #[] 0)) 85 (.map (some w.heap.size))
  rw [size_alloc] at bM
  have hM := (MapS.made w).alloc (.cells #[.map (some w.heap.size)] 85)
  have hB0 : Below w.heap.size w ((w.alloc (.map #[] 0)).alloc (.cells #[.map (some w.heap.size)] 85)) := ((Below.refl _ w).alloc (Nat.le_refl _) _).alloc (by simp) _
  have hK0 : Below w0.heap.size w0 ((w.alloc (.map #[] 0)).alloc (.cells #[.map (some w.heap.size)] 85)) := (hb0.alloc hb0.size _).alloc (by have := hb0.size; simp; omega) _
  have hws := hb0.size
  obtain ⟨W0, hW0⟩ : ∃ W0, (w.alloc (.map #[] 0)).alloc (.cells #[.map (some w.heap.size)] 85) = W0 := ⟨_, rfl⟩
  rw [hW0] at hsz bM hM hB0 hK0 ⊢
  clear hW0 hb0
  refine wpIn_rangeFunc_ownH rfl (by omega) (gf := g) (lb := lb) rfl trivial eg (hseq 4 (by omega)) keep_t (keep_b (by omega)) hK0 (fun _ => rfl)
    (fun pre W => EarI w pre W ∧ Below w.heap.size w W)
    (fun _ _ _ => False)
    (OwnFrom.and (fun s X Y row hs hg hr => by
      obtain ⟨E, h1, h2, h3⟩ := hs
      exact ⟨E, boxed_own _ _ (fun (_ : Unit) => Value.map (some w.heap.size)) () X Y row h1 hg (fun r e => (hr r e).2), h2.kept hg (fun e => by have := (hr _ e.symm).1; omega), h3⟩) (ownFrom_below (Nat.le_refl _) (by omega)))
    (fun _ _ _ _ _ hs _ _ => hs)
    ⟨⟨[], bM, hM, ⟨by simp, by simp [raw]⟩, by simp⟩, hB0⟩
    (fun x a' W => ∃ Bx, w.heap.size + 1 < Bx ∧ Holds W Bx x.1 ∧ a' = { tmps := #[.func (.func g) #[] lb, undef, .map none, .pointer (some ⟨w.heap.size + 1, 0, none⟩), .pointer (some ⟨Bx, 0, none⟩), undef, undef, .map (some w.heap.size), .func (.func g) #[] lb, .agg #[.int .i64 x.1.d, .int .i64 x.1.e, .int .i64 x.1.x, .int .i64 x.1.y, .int .i64 x.1.z], undef, undef, undef, undef, undef, undef, undef, undef, undef, undef, undef, undef, undef, undef, undef, undef, undef, undef, undef, undef, undef], defers := [] })
    (fun x a' _ X Y row hs hg hr => by
      obtain ⟨Bx, h1, h2, h3⟩ := hs
      refine ⟨Bx, h1, Row.grown h2 hg (fun e => ?_), h3⟩
      obtain ⟨_, o, ho, hc⟩ := hr Bx e.symm
      have h4 : X.heap[Bx]? = _ := h2
      rw [h4] at ho; cases ho; cases hc)
    ?assign ?body ?done ?stop
  case assign =>
    rintro l pre x W K ⟨⟨E, bM1, hM1, hE⟩, hB1⟩ hK
    clear hmm
    dsimp only [encS] at *
    unfold St.val at *
    gi_wp2
    exact hK _ _ ((KeepsOthers.alloc _ _).from _) ((Keep.refl _ W).alloc (by have := hB1.size; omega) _) ⟨⟨E, bM1.alloc _, hM1.alloc _, hE⟩, hB1.alloc hB1.size _⟩ ⟨W.heap.size, bM1.lt, Holds.made W x.1, rfl⟩
  case body =>
    rintro l pre x a' W hl ⟨r, hr⟩ ⟨⟨E, bM1, hM1, hE, hEl⟩, hB1⟩ ⟨Bx, hBx, bX, rfl⟩ hlt
    have hsW := hB1.size
    have hnW : n₀ ≤ W.heap.size := by omega
    have cM := bM1.cell
    have hBl := bX.lt
    have hml := bM1.lt
    obtain ⟨c0, c1, c2, c3, c4⟩ := bX.cells5
    have hlen : (raw (pre ++ [x])) = raw pre ++ [x.1] := by simp [raw]
    rcases hM1.look x.2 with ⟨hrun, hno⟩ | ⟨u, hu, hk, hrun⟩
    · obtain ⟨w1, hst, hM2, hg⟩ := (hM1.alloc (.cells #[.int .i64 0, .int .i64 0, .int .i64 0, .int .i64 0, .int .i64 0] 25)).store (by unfold maxLen; omega) x.2
      unfold St.key St.zero St.val at *
      have HM1 := Lib.hid hM1; have HM2 := Lib.hid hM2; have HG := Lib.hid hg; have HE := Lib.hid (And.intro hE hEl); have HNO := Lib.hid hno; have HBM := Lib.hid bM1; have HB1 := Lib.hid hB1
      clear hM1 hM2 hg hE hEl hno bM1 bX hB1 hmm hr hseq eg hB0 hK0
      gi_wp2
      have hW1 : KeepsFrom (w.heap.size + 2) W (W.alloc (.cells #[.int .i64 0, .int .i64 0, .int .i64 0, .int .i64 0, .int .i64 0] 25)) := (KeepsOthers.alloc _ _).from _
      have hW2 := (Keep.refl n₀ W).alloc hnW (.cells #[.int .i64 0, .int .i64 0, .int .i64 0, .int .i64 0, .int .i64 0] 25)
      refine ⟨by first | exact hW1.trans (KeepsFrom.of_grownBy HG.out (fun j e => by cases e; omega)) | (rw [hsz]; exact hW1.trans (KeepsFrom.of_grownBy HG.out (fun j e => by cases e; omega))), hW2.grown (HM1.out.alloc _) HG.out (by omega), ⟨⟨_, (HBM.out.alloc _).kept HG.out (by simp), by rw [List.length_append]; exact HM2.out, ?_, ?_⟩, (HB1.out.alloc hsW _).grown HG.out (by simp; omega) (fun k e => by cases e; exact Nat.le_refl _)⟩⟩
      · rw [hlen]
        exact HE.out.1.put fun v hv hk => absurd hk (HNO.out v hv)
      · rw [List.length_append]
        have := putS_len (t := x.1) (E := E)
        have := HE.out.2
        simp; omega
    · by_cases hlt2 : x.1.e < u.e
      · obtain ⟨w1, hst, hM2, hg⟩ := (hM1.alloc (.cells #[.int .i64 u.d, .int .i64 u.e, .int .i64 u.x, .int .i64 u.y, .int .i64 u.z] 25)).store (by unfold maxLen; omega) x.2
        have hd := hM1.2.2
        unfold St.key St.val at *
        have HM1 := Lib.hid hM1; have HM2 := Lib.hid hM2; have HG := Lib.hid hg; have HE := Lib.hid (And.intro hE hEl); have HD := Lib.hid (And.intro hd (And.intro hu hk)); have HBM := Lib.hid bM1; have HB1 := Lib.hid hB1
        clear hM1 hM2 hg hE hEl hd hu hk bM1 bX hB1 hmm hr hseq eg hB0 hK0
        gi_wp2
        have hW1 : KeepsFrom (w.heap.size + 2) W (W.alloc (.cells #[.int .i64 u.d, .int .i64 u.e, .int .i64 u.x, .int .i64 u.y, .int .i64 u.z] 25)) := (KeepsOthers.alloc _ _).from _
        have hW2 := (Keep.refl n₀ W).alloc hnW (.cells #[.int .i64 u.d, .int .i64 u.e, .int .i64 u.x, .int .i64 u.y, .int .i64 u.z] 25)
        refine ⟨by first | exact hW1.trans (KeepsFrom.of_grownBy HG.out (fun j e => by cases e; omega)) | (rw [hsz]; exact hW1.trans (KeepsFrom.of_grownBy HG.out (fun j e => by cases e; omega))), hW2.grown (HM1.out.alloc _) HG.out (by omega), ⟨⟨_, (HBM.out.alloc _).kept HG.out (by simp), by rw [List.length_append]; exact HM2.out, ?_, ?_⟩, (HB1.out.alloc hsW _).grown HG.out (by simp; omega) (fun k e => by cases e; exact Nat.le_refl _)⟩⟩
        · rw [hlen]
          refine HE.out.1.put fun v hv hk => ?_
          obtain ⟨hd, hu, hku⟩ := HD.out
          by_cases e : v = u
          · subst e; omega
          · exfalso
            exact e (key_one (E := E) hd hv hu (show v.key = u.key from hk.trans hku.symm))
        · rw [List.length_append]
          have := putS_len (t := x.1) (E := E)
          have := HE.out.2
          simp; omega
      · unfold St.key St.val at *
        have HM1 := Lib.hid hM1; have HE := Lib.hid (And.intro hE hEl); have HD := Lib.hid (And.intro hu hk); have HBM := Lib.hid bM1; have HB1 := Lib.hid hB1
        clear hM1 hE hEl hu hk bM1 bX hB1 hmm hr hseq eg hB0 hK0
        gi_wp2
        refine ⟨(KeepsOthers.alloc _ _).from _, (Keep.refl n₀ W).alloc hnW _, ⟨⟨E, HBM.out.alloc _, (HM1.out.alloc _).mono (by simp), ?_, ?_⟩, HB1.out.alloc hsW _⟩⟩
        · rw [hlen]; exact HE.out.1.stay HD.out.1 HD.out.2 (by omega)
        · rw [List.length_append]; have := HE.out.2; omega
  case done =>
    rintro D ys W hD hys ⟨⟨E, bM1, hM1, hE, hEl⟩, hB1⟩ hK
    have cM := bM1.cell
    have HM1 := Lib.hid hM1; have HE := Lib.hid hE; have HB1 := Lib.hid hB1; have HK := Lib.hid hK
    clear hM1 hE bM1 hB1 hmm hseq eg hB0 hK0 hK
    gi_wp2
    refine ⟨by simp, .inl ⟨_, _, rfl, run_takeDeferred HK.out, ?_⟩⟩
    have hlD : w.heap.size < D := by omega
    refine ⟨_, results_tmp rfl _ _ _, rfl, ⟨ys, E, _, hys, HM1.out.kept (grownBy_putObj' _ D _) (fun e => by cases e; omega), HE.out, by have := hS _ hys; omega⟩, HB1.out.trans (belowK_b (w := w) (Nat.le_refl _) W D _ _ (by omega) HK.out rfl rfl)⟩
  case stop =>
    rintro D c pre W _ _ h _
    exact h.elim
end Go.Proofs.Ytkbabmifdfmhlaa
