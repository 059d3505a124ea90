/- Key, Put, PaAll, PlNode, PlStep -/
import Derived.Test.YtcdofkhkckodjaaGreatDoorCa6
import Derived.Test.YtcdofkhkckodjaaGreatDoorCa12
import Derived.Test.YtcdofkhkckodjaaGreatDoorCa13
import Derived.Test.YtcdofkhkckodjaaGreatDoorCa14
import Derived.Test.YtcdofkhkckodjaaGreatDoorCa11
import Derived.RegionCalls
import Derived.Test.YtcdofkhkckodjaaGreatDoorCa5
namespace Go.Proofs.YtcdofkhkckodjaaGreatDoor
set_option linter.unusedVariables false
section
namespace Free
section
variable {P : Program}
def updb (b : Nat → Bool) (i : Nat) : Nat → Bool := fun j => if j = i then true else b j
def updw (vs : Nat → Value) (i : Nat) (v : Value) : Nat → Value := fun j => if j = i then v else vs j
theorem updb_self {b : Nat → Bool} {i : Nat} : updb b i i = true := if_pos rfl
theorem updb_ne {b : Nat → Bool} {i j : Nat} (h : j ≠ i) : updb b i j = b j := if_neg h
theorem updw_self {vs : Nat → Value} {i : Nat} {v : Value} : updw vs i v i = v := if_pos rfl
theorem updw_ne {vs : Nat → Value} {i j : Nat} {v : Value} (h : j ≠ i) : updw vs i v j = vs j := if_neg h
theorem wp_key {id : Nat} {Q : Exit → Act → World → Prop} {a0 : Act} {w0 : World} {l : List Oper} (hm : P.follows .mixedOrders = true) (hB : okG l a0.tmps.size = true)
    (F : (Nat → Bool) → (Nat → Value) → World → Prop) (V : Nat → Value → Prop) (hF : ∀ vs, F (fun i => decide (l.length ≤ i)) vs w0.drew)
    (hstep : ∀ i o, l[i]? = some o → ∀ (b : Nat → Bool) (vs : Nat → Value) (a : Act) (w : World), (∀ t, t ∉ dsts l → a.eval (.tmp t) = a0.eval (.tmp t)) →
      (∀ j oj t, Region.waitsFor .any l.toArray i j = true → l[j]? = some oj → oj.dst = some t → b j = true ∧ a.eval (.tmp t) = vs j ∧ V j (a.eval (.tmp t))) → b i = false → F b vs w →
      Comes P l a o w (fun v w' => V i v ∧ F (updb b i) (updw vs i v) w'))
    (hend : ∀ (vs : Nat → Value) (w' : World), (∀ i, i < l.length → (∀ o, l[i]? = some o → o.dst.isSome = true) → V i (vs i)) → F (fun _ => true) vs w' → Q .normal (puts a0 l 0 vs) w') : (Code.region id l.toArray true).wp P Q a0 w0 := by
  simp only [okG, Bool.and_eq_true, decide_eq_true_eq] at hB
  obtain ⟨⟨hns, hnd⟩, hlt⟩ := hB
  have hlt' : ∀ t ∈ dsts l, t < a0.tmps.size := fun t ht => by simpa using List.all_eq_true.1 hlt t ht
  let Inv : Array Bool → Act → World → Prop := fun S a w => a.defers = a0.defers ∧ a.tmps.size = a0.tmps.size ∧ (∀ t, t ∉ dsts l → a.tmps.getD t undef = a0.tmps.getD t undef) ∧
    (∃ vs, F (fun i => S.getD i true) vs w ∧ ∀ i o t, l[i]? = some o → S.getD i false = true → o.dst = some t → a.tmps.getD t undef = vs i) ∧
    ∀ i o t, l[i]? = some o → S.getD i false = true → o.dst = some t → V i (a.tmps.getD t undef)
  have main : ∀ (fuel : Nat) (S : Array Bool) (a : Act) (w : World), S.toList.count false = fuel → Stage.Fit .any l.toArray S → Inv S a w → wpAny P .any l.toArray Q fuel S a w := by
    intro fuel
    have fin : ∀ (S : Array Bool) (a : Act) (w : World), Stage.Fit .any l.toArray S → (∀ i, S.getD i true = true) → Inv S a w → Q .normal a w := by
      rintro S a w hFit hS ⟨h1, h2, h3, ⟨vs, h4, h4'⟩, h5⟩
      have hSi : ∀ i, i < l.length → S.getD i false = true := fun i hi => by
        have h1 := hS i
        have : i < S.size := by rw [hFit.size]; simpa using hi
        simp [this] at h1 ⊢; exact h1
      have e : a = puts a0 l 0 vs := by
        have hp := puts_size l a0 0 vs
        refine act_ext (h1.trans hp.2.symm) (h2.trans hp.1.symm) (fun t ht => ?_)
        by_cases hm : t ∈ dsts l
        · obtain ⟨o, ho, e⟩ := List.mem_filterMap.1 hm
          obtain ⟨i, hi⟩ := List.getElem?_of_mem ho
          rw [puts_new l a0 0 _ i o t hnd hi e (hlt' t hm), Nat.zero_add]
          exact h4' i o t hi (hSi i (List.getElem?_eq_some_iff.1 hi).1) e
        · rw [puts_old _ _ _ _ _ hm]; exact h3 t hm
      rw [e]
      refine hend _ w (fun i hi hd => ?_) (by rw [show (fun i => S.getD i true) = fun _ => true from funext hS] at h4; exact h4)
      have hi' : l[i]? = some l[i] := List.getElem?_eq_getElem hi
      obtain ⟨t, ht⟩ := Option.isSome_iff_exists.1 (hd _ hi')
      have := h5 i _ t hi' (hSi i hi) ht
      rwa [h4' i _ t hi' (hSi i hi) ht] at this
    have one : ∀ (S : Array Bool) (a : Act) (w : World) (K : Act → World → Prop), Stage.Fit .any l.toArray S → Inv S a w → ∀ i ∈ Region.ready .any l.toArray S, (∀ a' w', Inv (S.setIfInBounds i true) a' w' → K a' w') → wpOp P l.toArray Q i K a w := by
      rintro S a w K hFit ⟨h1, h2, h3, ⟨vs, h4, h4'⟩, h5⟩ i hi hK
      obtain ⟨hun, o, ho, hall⟩ := mem_ready.1 hi
      have hol : l[i]? = some o := by simpa using ho
      unfold wpOp
      simp only [ho]
      have hpre : ∀ j oj t, Region.waitsFor .any l.toArray i j = true → l[j]? = some oj → oj.dst = some t → (fun i => S.getD i true) j = true ∧ a.eval (.tmp t) = vs j ∧ V j (a.eval (.tmp t)) := by
        intro j oj t hwt hj hd
        have hc := Stage.came hi hwt
        have hSj : S.getD j false = true := by
          have hjl : j < S.size := by rw [hFit.size]; simpa using (List.getElem?_eq_some_iff.1 hj).1
          simp [hjl] at hc ⊢; exact hc
        exact ⟨hc, h4' j oj t hj hSj hd, h5 j oj t hj hSj hd⟩
      have hs := hstep i o hol _ vs a w (fun t ht => h3 t ht) hpre hun h4
      have hSs : ∀ j, (S.setIfInBounds i true).getD j true = updb (fun i => S.getD i true) i j := fun j => by
        unfold updb
        by_cases hji : j = i
        · rw [if_pos hji, hji]; exact Stage.getD_set_self hun
        · rw [if_neg hji, getD_set_ne true (Ne.symm hji)]
      have step : ∀ v w', (V i v ∧ F (updb (fun i => S.getD i true) i) (updw vs i v) w') → K (a.put o.dst v) w' := by
        rintro v w' ⟨r1, r2⟩
        refine hK _ _ ⟨by rw [put_defers]; exact h1, by rw [put_size]; exact h2, fun t ht => ?_, ⟨updw vs i v, by rw [funext hSs]; exact r2, fun j oj t hj hSj hd => ?_⟩, fun j oj t hj hSj hd => ?_⟩
        · rw [put_getD _ _ _ _ (fun e => ht (mem_dsts hol e))]; exact h3 t ht
        · by_cases hij : i = j
          · subst hij
            obtain rfl : oj = o := Option.some.inj (hj.symm.trans hol)
            rw [hd, put_getD_self _ _ _ (by rw [h2]; exact hlt' t (mem_dsts hj hd))]
            exact updw_self.symm
          · rw [getD_set_ne false hij] at hSj
            rw [put_getD _ _ _ _ (fun e => hij (dst_ne hnd hol hj e hd)), updw_ne (Ne.symm hij)]
            exact h4' j oj t hj hSj hd
        · by_cases hij : i = j
          · subst hij
            obtain rfl : oj = o := Option.some.inj (hj.symm.trans hol)
            rw [hd, put_getD_self _ _ _ (by rw [h2]; exact hlt' t (mem_dsts hj hd))]
            exact r1
          · rw [getD_set_ne false hij] at hSj
            rw [put_getD _ _ _ _ (fun e => hij (dst_ne hnd hol hj e hd))]
            exact h5 j oj t hj hSj hd
      rcases hs with ⟨hw, hs⟩ | ⟨hw, hs⟩
      case inr => rw [if_neg (by rw [hw]; exact Bool.false_ne_true)]; exact step _ _ hs
      rw [if_pos hw]
      refine .inl ?_
      unfold Oper.wp
      generalize (execOp a.eval o).run P w = r at hs
      cases r with
      | ok n w' =>
        cases n <;> simp only [gets] at hs <;> simp only [Oper.upon]
        case value u => exact step _ _ hs
        case skip => exact step _ _ hs
        case enter f args => exact hs.mono fun e w'' ⟨v, he, h⟩ => by subst he; exact step _ _ h
      | halt x w' => simp only [gets] at hs
    induction fuel with
    | zero =>
      intro S a w hn hFit hI
      have hS : ∀ i, S.getD i true = true := fun i => by rw [Stage.getD_toList]; exact Stage.all_of_count hn i
      refine ⟨?_, fin S a w hFit hS hI⟩
      cases hr : Region.ready .any l.toArray S with
      | nil => rfl
      | cons i r =>
        have := (mem_ready.1 (show i ∈ Region.ready .any l.toArray S by rw [hr]; simp)).1
        rw [hS i] at this; cases this
    | succ fuel ih =>
      intro S a w hn hFit hI
      refine ⟨fun h0 => ?_, fun i hi => ?_⟩
      · refine fin S a w hFit (fun i => ?_) hI
        induction i using Nat.strongRecOn with
        | _ i ihi =>
          cases hx : S.getD i true with
          | true => rfl
          | false =>
            exfalso
            have hil : i < l.length := by
              rcases Nat.lt_or_ge i S.size with h' | h'
              · rw [hFit.size] at h'; simpa using h'
              · simp [Array.getElem?_eq_none h'] at hx
            have hup := List.all_eq_true.1 hns i (List.mem_range.2 hil)
            rw [List.getElem?_eq_getElem hil] at hup
            have hr : i ∈ Region.ready .any l.toArray S := by
              refine mem_ready.2 ⟨hx, l[i], by simp [hil], fun e he hbe => ?_⟩
              have h1 : e.on < i := by
                have := Array.all_eq_true_iff_forall_mem.1 hup e he
                simpa [hbe] using this
              have h2 := ihi e.on h1
              have h3 : e.on < S.size := by rw [hFit.size]; simp; omega
              simp [h3] at h2 ⊢; exact h2
            rw [h0] at hr; cases hr
      · have hun := (mem_ready.1 hi).1
        have hc : (S.setIfInBounds i true).toList.count false = fuel := by
          rw [Array.toList_setIfInBounds]
          have := Stage.count_set (l := S.toList) (i := i) (by rw [← Stage.getD_toList]; exact hun)
          omega
        exact one S a w _ hFit hI i hi (fun a' w' hI' => ih _ a' w' hc (hFit.set hi) hI')
  refine wp_region_any hm (main _ _ _ _ (by simp) (by simpa using Stage.Fit.start (md := .any) (ops := l.toArray)) ⟨rfl, rfl, fun _ _ => rfl, ⟨fun _ => undef, ?_, fun i o t _ h _ => ?_⟩, fun i o t _ h _ => ?_⟩)
  · have hS0 : (fun i => (Array.replicate l.toArray.size false).getD i true) = fun i => decide (l.length ≤ i) := by
      funext i
      by_cases h : i < l.length
      · simp [h]
      · simp [h]; omega
    rw [hS0]; exact hF _
  · rw [getD_replicate_false] at h; cases h
  · rw [getD_replicate_false] at h; cases h
end
end Free
end

section
open Go.RowKit
def PutF (w0 : World) (iA iS : Nat) (ty : TypeId) (zs cells : List Value) (b : Nat → Bool) (vs : Nat → Value) (w : World) : Prop :=
  Below w0.heap.size w0 w ∧ (b iS = true → b iA = true) ∧ (b iA = true → ∃ blk, vs iA = .pointer (some ⟨blk, 0, none⟩) ∧ w0.heap.size ≤ blk ∧ Row w blk ty (if b iS then cells else zs))
section
variable {w0 w w' : World} {iA iS i : Nat} {ty : TypeId} {zs cells : List Value} {b : Nat → Bool} {vs : Nat → Value} {v : Value}
theorem PutF.start (n : Nat) (hA : iA < n) (hS : iS < n) (w0 : World) (ty : TypeId) (zs cells : List Value) (vs : Nat → Value) : PutF w0 iA iS ty zs cells (fun i => decide (n ≤ i)) vs w0.drew :=
  ⟨(Below.refl _ _).drew, fun h => by simp at h; omega, fun h => by simp at h; omega⟩
theorem PutF.keep (h : PutF w0 iA iS ty zs cells b vs w) (hb : Below w.heap.size w w') (h1 : i ≠ iA) (h2 : i ≠ iS) : PutF w0 iA iS ty zs cells (Free.updb b i) (Free.updw vs i v) w' := by
  obtain ⟨k1, k2, k3⟩ := h
  refine ⟨k1.trans (hb.mono k1.size), ?_, ?_⟩
  · rw [Free.updb_ne (Ne.symm h1), Free.updb_ne (Ne.symm h2)]; exact k2
  · rw [Free.updb_ne (Ne.symm h1), Free.updb_ne (Ne.symm h2), Free.updw_ne (Ne.symm h1)]
    intro hA
    obtain ⟨blk, e1, e2, e3⟩ := k3 hA
    exact ⟨blk, e1, e2, e3.below hb e3.lt⟩
theorem PutF.alloc (h : PutF w0 iA iS ty zs cells b vs w) (hne : iS ≠ iA) (hbi : b iA = false) : PutF w0 iA iS ty zs cells (Free.updb b iA) (Free.updw vs iA (.pointer (some ⟨w.heap.size, 0, none⟩))) (w.alloc (.cells zs.toArray ty)) := by
  obtain ⟨k1, k2, k3⟩ := h
  have hS : b iS = false := by
    cases hb : b iS with
    | false => rfl
    | true => rw [k2 hb] at hbi; cases hbi
  refine ⟨k1.alloc k1.size _, fun _ => Free.updb_self, fun _ => ⟨w.heap.size, Free.updw_self, k1.size, ?_⟩⟩
  rw [Free.updb_ne hne, hS]
  exact Row.made w ty zs
theorem PutF.store (h : PutF w0 iA iS ty zs cells b vs w) (hne : iS ≠ iA) (hA : b iA = true) {blk : Nat} (hv : vs iA = .pointer (some ⟨blk, 0, none⟩)) (hle : w0.heap.size ≤ blk) (hr : Row w' blk ty cells) (hb : Below w0.heap.size w0 w') :
    PutF w0 iA iS ty zs cells (Free.updb b iS) (Free.updw vs iS v) w' := by
  refine ⟨hb, fun _ => ?_, fun _ => ⟨blk, ?_, hle, ?_⟩⟩
  · rw [Free.updb_ne (Ne.symm hne)]; exact hA
  · rw [Free.updw_ne (Ne.symm hne)]; exact hv
  · rw [Free.updb_self]; exact hr
theorem PutF.row (h : PutF w0 iA iS ty zs cells b vs w) (hA : b iA = true) (hbi : b iS = false) : ∃ blk, vs iA = .pointer (some ⟨blk, 0, none⟩) ∧ w0.heap.size ≤ blk ∧ Row w blk ty zs := by
  obtain ⟨blk, h1, h2, h3⟩ := h.2.2 hA
  rw [hbi] at h3
  exact ⟨blk, h1, h2, h3⟩
theorem PutF.done (h : PutF w0 iA iS ty zs cells (fun _ => true) vs w) : Below w0.heap.size w0 w ∧ ∃ blk, vs iA = .pointer (some ⟨blk, 0, none⟩) ∧ w0.heap.size ≤ blk ∧ Row w blk ty cells := by
  obtain ⟨blk, h1, h2, h3⟩ := h.2.2 rfl
  exact ⟨h.1, blk, h1, h2, h3⟩
end
end

section
open Go.ChangeShapes Go.WideShapes Go.ChangeAt Go.RowKit Go.BigFrame
set_option maxRecDepth 100000
theorem of_node {x : Nd} (h : x.smOk) : Sm.of_ ((x.k : Nat) : Int) x.d = x.sm ∧ decide (okOf ((x.k : Nat) : Int) x.d) = true := by
  obtain ⟨h1, h2, h3⟩ := h
  have e : Sm.ofk ((x.k : Nat) : Int) x.d = x.sm := by
    unfold Sm.ofk Nd.sm
    by_cases h7 : x.k = 7
    · rw [if_pos (by omega), if_pos h7]
    · rw [if_neg (by omega), if_neg h7]
      by_cases h8 : x.k = 8
      · rw [if_pos (by omega), if_pos h8]
      · rw [if_neg (by omega), if_neg h8]
        by_cases h9 : x.k = 9
        · rw [if_pos (by omega), if_pos h9]
        · rw [if_neg (by omega), if_neg h9]
  have ho : okOf ((x.k : Nat) : Int) x.d := ⟨by omega, by omega, by rw [e]; exact h3⟩
  exact ⟨by unfold Sm.of_; rw [if_pos ho, e], decide_eq_true ho⟩
theorem OwnA.get {w0 w : World} {v : Value} {L : List (Nat × Sm)} {k : Nat} {a : Nat × Sm} (h : OwnA w0 w v L) (hk : L[k]? = some a) : ∃ g cap, v = .slice (some ⟨g, 0, none⟩) L.length cap ∧ w0.heap.size ≤ g ∧ g < w.heap.size ∧
    ∀ w', Below w.heap.size w w' → (w'.cell? ⟨g, k * 8, none⟩ = some (.int .i64 (a.1 : Nat)) ∧ (Instr.loadAt 78 (.pointer (some ⟨g, k * 8 + 1, none⟩))).run Tryz.prog w' = .ok a.2.v w') := by
  have hl := (List.getElem?_eq_some_iff.1 hk).1
  obtain ⟨g, cap, rfl, hg, hlt⟩ := World.ownsRow.form h (by omega)
  refine ⟨g, cap, rfl, hg, hlt, fun w' hb => ?_⟩
  have hc : ∀ (j : Nat) (u : Value), (kindA.cells a)[j]? = some u → w'.cell? ⟨g, k * 8 + j, none⟩ = some u := fun j u hu => by
    have h1 := World.ownsRow.cells h (g := g) rfl (k * 8 + j) u (Rw.row_at (κ := kindA) L k a hk j u hu)
    rw [add_zero_off] at h1
    exact (hb.cell (p := ⟨g, k * 8 + j, none⟩) hlt).trans h1
  refine ⟨hc 0 _ rfl, ?_⟩
  exact run_loadAt_part g (k * 8 + 1) 78 _ (Sm.cells a.2) (fun j u hu => by
    rw [add_at, Nat.add_assoc]
    exact hc (1 + j) u (by rw [Nat.add_comm]; exact hu)) Tryz.underlying78 rfl (by kernel_rfl)
def AllD (g : List Nd) (i : Nat) (w : World) (e : Ending) (w' : World) : Prop := (∃ v L, e = .returned v ∧ OwnA w w' v L ∧ AllW g i L L.length) ∧ Below w.heap.size w w'
def AllV (g cap k : Nat) (L : List (Nat × Sm)) (go : Nat) (s O S : Sm) (TB : Bool) (i : Nat) (v : Value) : Prop := match i with
  | 0 => v = .slice (some ⟨g, 0, none⟩) L.length cap
  | 1 => v = .int .i64 (k : Nat)
  | 2 => v = .pointer (some ⟨g, k * 8, none⟩)
  | 3 => v = .pointer (some ⟨g, k * 8 + 1, none⟩)
  | 4 => v = .agg #[.int .i64 s.fr, .int .i64 s.to, .int .i64 s.kp, .int .i64 s.ad, .int .i64 s.t0, .int .i64 s.t1, .int .i64 s.t2]
  | 5 => v = .agg #[.int .i64 O.fr, .int .i64 O.to, .int .i64 O.kp, .int .i64 O.ad, .int .i64 O.t0, .int .i64 O.t1, .int .i64 O.t2]
  | 6 => v = .tuple #[.agg #[.int .i64 S.fr, .int .i64 S.to, .int .i64 S.kp, .int .i64 S.ad, .int .i64 S.t0, .int .i64 S.t1, .int .i64 S.t2], .bool TB]
  | 7 => v = .tuple #[.agg #[.int .i64 S.fr, .int .i64 S.to, .int .i64 S.kp, .int .i64 S.ad, .int .i64 S.t0, .int .i64 S.t1, .int .i64 S.t2], .bool TB]
  | 8 => v = .agg #[.int .i64 S.fr, .int .i64 S.to, .int .i64 S.kp, .int .i64 S.ad, .int .i64 S.t0, .int .i64 S.t1, .int .i64 S.t2]
  | 9 => v = .bool TB
  | 10 => True
  | 11 => v = undef
  | _ => v = .bool TB
set_option maxHeartbeats 16000000 in
theorem refAll_in (A : Option Addr) (lg : List Gn) (c i : Nat) (w : World) (hG : Gr w A lg) (hi : i < lg.length) (hl : lg.length ≤ 14) (hI : ∀ x ∈ nds lg, x.ins.length ≤ 40) (hF : Fine (nds lg)) :
    Calls Tryz.prog 44 #[.slice A lg.length c, .int .i64 (i : Nat)] w (AllD (nds lg) i w) := by
  obtain ⟨x, hx⟩ : ∃ x, lg[i]? = some x := ⟨_, List.getElem?_eq_getElem hi⟩
  have hnx : (nds lg)[i]? = some x.nd := by unfold nds; rw [List.getElem?_map, hx]; rfl
  have hiz : (i : Int) < (lg.length : Int) := by omega
  have hi0 : ¬ (i : Int) < 0 := by omega
  have hge : ¬ (lg.length : Int) ≤ (i : Int) := by omega
  obtain ⟨b, o, rfl, hbl, hcl⟩ := hG.at_ hx
  have hst := AllW.start hnx
  obtain ⟨⟨xk, xa, xb, xd, xi⟩, xA, xc⟩ := x
  obtain ⟨c0, c1, c2, c3, c4⟩ := hcl w (Below.refl _ _)
  simp only at c0 c1 c2 c3 c4 hst
  have hfd := feeds_any w (some ⟨b, o, none⟩) lg c (.slice none 0 0) [] i (idS xd) w hG (by omega) hI (Below.refl _ _) (World.ownsRow_nil _ _ _ _) (by simp)
  generalize addA (idS xd) (toG ((i : Nat) : Int) 0 (nds lg)) [] = L0 at *
  have HG := Lib.hid hG; have HI := Lib.hid hI; have HF := Lib.hid hF; have HST := Lib.hid hst; have HFD := Lib.hid hfd
  clear hG hI hF hst hfd hx hnx hcl
  go_enter Tryz.func44, Tryz.ntmps44
  go_wp2_with fail
  refine HFD.out.mono ?_; rintro e w1 ⟨⟨v, rfl, ho⟩, hb⟩
  have HO := Lib.hid ho; have HB := Lib.hid hb; clear ho hb HFD c0 c1 c2 c3 c4
  dsimp only
  go_wp2_with fail
  go_loopw [6, 7] (fun v n wx => ∃ (k : Nat) (L : List (Nat × Sm)), n = .int .i64 k ∧ k ≤ L.length ∧ AllW (nds lg) i L k ∧ OwnA w wx v L ∧ Below w.heap.size w wx) (fun _ n _ => lg.length * 4194304 - (intOf n).toNat)
  case atStart => exact ⟨0, L0, rfl, Nat.zero_le _, HST.out, HO.out, HB.out⟩
  case round =>
    obtain ⟨wo, rfl⟩ : ∃ wo, wo = wr := ⟨_, rfl⟩
    obtain ⟨k, L, rfl, hk, hall, ho, hb⟩ := hrel
    have hbd := AllW.bound HF.out hall
    rw [nds_len] at hbd
    have HALL := Lib.hid hall; have HOL := Lib.hid ho; have HBL := Lib.hid hb; have HBD := Lib.hid hbd; clear hall ho hb hbd HST HO HB
    by_cases hkl : k < L.length
    · have hkz : (k : Int) < (L.length : Int) := by omega
      have hkb : k < 60000000 := by have := HBD.out; omega
      obtain ⟨⟨n, s⟩, hns⟩ : ∃ a, L[k]? = some a := ⟨_, List.getElem?_eq_getElem hkl⟩
      have harr := HALL.out.sound n s (List.mem_of_getElem? hns)
      have hnl : n < lg.length := by have := harr.lt; rwa [nds_len] at this
      have hnz : (n : Int) < (lg.length : Int) := by omega
      obtain ⟨y, hy⟩ : ∃ y, lg[n]? = some y := ⟨_, List.getElem?_eq_getElem hnl⟩
      have hny : (nds lg)[n]? = some y.nd := by unfold nds; rw [List.getElem?_map, hy]; rfl
      have hok := harr.smOk HF.out hny
      obtain ⟨ho1, ho2⟩ := of_node hok
      obtain ⟨g, cap, rfl, hg0, hglt, hgc⟩ := HOL.out.get hns
      obtain ⟨b', o', e, _, hcl⟩ := HG.out.at_ hy
      cases e
      have hskip := fun (h : ¬ s.thenOk y.nd.sm) => HALL.out.skip hns hny (fun h2 => h h2.2)
      have hstep := fun (h : s.thenOk y.nd.sm) => HALL.out.step hns hny hok h
      have hth := fun wz => refThen_any s y.nd.sm wz
      have hyes := Sm.th_yes (a := s) (b := y.nd.sm)
      have hno := Sm.th_no (a := s) (b := y.nd.sm)
      obtain ⟨⟨yk, ya, yb, yd, yi⟩, yA, yc⟩ := y
      obtain ⟨c0, c1, c2, c3, c4⟩ := hcl wo HBL.out
      simp only at c0 c1 c2 c3 c4 ho1 ho2
      have hof := fun wz => refOf_any ((yk : Nat) : Int) yd wz
      rw [ho1, ho2] at hof
      have q0 := (hgc wo (Below.refl _ _)).1
      simp only at q0
      generalize (⟨yk, ya, yb, yd, yi⟩ : Nd).sm = O at *
      generalize s.th O = S at *
      generalize s.thB O = TB at *
      have HGC := Lib.hid hgc; have HSK := Lib.hid hskip; have HSP := Lib.hid hstep; have HTH := Lib.hid hth; have HYES := Lib.hid hyes; have HNO := Lib.hid hno; have HOF := Lib.hid hof
      have hnb : b < wo.heap.size := Nat.lt_of_lt_of_le hbl HBL.out.size
      clear hgc hskip hstep hth hyes hno hof hns harr hy hny hok ho1 ho2 hcl
      go_wp2_with fail
      refine (HOF.out _).mono ?_; rintro e w2 ⟨rfl, hb2⟩
      have hb3 : Below wo.heap.size wo w2 := ((Below.refl _ wo).alloc (Nat.le_refl _) (.cells #[.int .u8 (yk : Nat), .int .u8 (ya : Nat), .int .i64 yb, .int .i64 yd, .slice yA yi.length yc] 35)).trans (hb2.mono (by simp))
      have HB3 := Lib.hid hb3; clear hb2 hb3 c0 c1 c2 c3 c4 q0 HOF
      dsimp only
      go_upto_region 10 with fail
      have hbo : Below wo.heap.size wo (w2.alloc (.cells #[.int .i64 O.fr, .int .i64 O.to, .int .i64 O.kp, .int .i64 O.ad, .int .i64 O.t0, .int .i64 O.t1, .int .i64 O.t2] 78)) := HB3.out.alloc HB3.out.size _
      have hox : HoldsM (w2.alloc (.cells #[.int .i64 O.fr, .int .i64 O.to, .int .i64 O.kp, .int .i64 O.ad, .int .i64 O.t0, .int .i64 O.t1, .int .i64 O.t2] 78)) w2.heap.size 78 O := HoldsM.made w2 _ _
      generalize w2.alloc (.cells #[.int .i64 O.fr, .int .i64 O.to, .int .i64 O.kp, .int .i64 O.ad, .int .i64 O.t0, .int .i64 O.t1, .int .i64 O.t2] 78) = w3 at *
      generalize w2.heap.size = go at *
      have hls := fun wz (hz : Below w3.heap.size w3 wz) => (HGC.out wz (hbo.trans (hz.mono hbo.size))).2
      have HBO := Lib.hid hbo; have HOX := Lib.hid hox; have HLS := Lib.hid hls; clear hbo hox hls HB3
      refine Free.wp_key (by kernel_rfl) (by kernel_rfl) (PutF w3 10 11 78 [.int .i64 0, .int .i64 0, .int .i64 0, .int .i64 0, .int .i64 0, .int .i64 0, .int .i64 0] [.int .i64 S.fr, .int .i64 S.to, .int .i64 S.kp, .int .i64 S.ad, .int .i64 S.t0, .int .i64 S.t1, .int .i64 S.t2]) (AllV g cap k L go s O S TB) (fun vs => PutF.start 13 (by decide) (by decide) _ _ _ _ vs) ?_ ?_
      · intro i o hi bz vs az wa hold hpre hbi hF
        match i with
        | 0 =>
          cases hi
          exact Free.c_all rfl (Free.g_move _ rfl ⟨((hold 6 (by decide)).trans rfl), hF.keep (Below.refl _ _) (by decide) (by decide)⟩)
        | 1 =>
          cases hi
          exact Free.c_all rfl (Free.g_move _ rfl ⟨((hold 7 (by decide)).trans rfl), hF.keep (Below.refl _ _) (by decide) (by decide)⟩)
        | 2 =>
          cases hi
          have h1 : az.eval (.tmp 56) = .slice (some ⟨g, 0, none⟩) L.length cap := (hpre 0 _ _ (by kernel_rfl) rfl rfl).2.2
          have h2 : az.eval (.tmp 57) = .int .i64 (k : Nat) := (hpre 1 _ _ (by kernel_rfl) rfl rfl).2.2
          exact Free.c_all rfl (Free.g_indexAddr (v := .pointer (some ⟨g, k * 8, none⟩)) _ _ _ rfl h1 h2 (by go_simp) ⟨rfl, hF.keep (Below.refl _ _) (by decide) (by decide)⟩)
        | 3 =>
          cases hi
          have h0 : az.eval (.tmp 58) = .pointer (some ⟨g, k * 8, none⟩) := (hpre 2 _ _ (by kernel_rfl) rfl rfl).2.2
          exact Free.c_all rfl (Free.g_field (v := .pointer (some ⟨g, k * 8 + 1, none⟩)) _ _ _ rfl h0 (by go_simp) ⟨rfl, hF.keep (Below.refl _ _) (by decide) (by decide)⟩)
        | 4 =>
          cases hi
          have h0 : az.eval (.tmp 59) = .pointer (some ⟨g, k * 8 + 1, none⟩) := (hpre 3 _ _ (by kernel_rfl) rfl rfl).2.2
          exact Free.c_all rfl (Free.g_load _ _ rfl h0 (HLS.out wa hF.1) ⟨rfl, hF.keep (Below.refl _ _) (by decide) (by decide)⟩)
        | 5 =>
          cases hi
          exact Free.c_all rfl (Free.g_load _ _ rfl ((hold 9 (by decide)).trans rfl) (load_n HOX.out wa hF.1) ⟨rfl, hF.keep (Below.refl _ _) (by decide) (by decide)⟩)
        | 6 =>
          cases hi
          have h0 : az.eval (.tmp 60) = .agg #[.int .i64 s.fr, .int .i64 s.to, .int .i64 s.kp, .int .i64 s.ad, .int .i64 s.t0, .int .i64 s.t1, .int .i64 s.t2] := (hpre 4 _ _ (by kernel_rfl) rfl rfl).2.2
          have h1 : az.eval (.tmp 61) = .agg #[.int .i64 O.fr, .int .i64 O.to, .int .i64 O.kp, .int .i64 O.ad, .int .i64 O.t0, .int .i64 O.t1, .int .i64 O.t2] := (hpre 5 _ _ (by kernel_rfl) rfl rfl).2.2
          refine Free.c_all rfl (Free.g_call _ _ rfl Tryz.func92 (by kernel_rfl) rfl [.agg #[.int .i64 s.fr, .int .i64 s.to, .int .i64 s.kp, .int .i64 s.ad, .int .i64 s.t0, .int .i64 s.t1, .int .i64 s.t2], .agg #[.int .i64 O.fr, .int .i64 O.to, .int .i64 O.kp, .int .i64 O.ad, .int .i64 O.t0, .int .i64 O.t1, .int .i64 O.t2]] (by show [az.eval (.tmp 60), az.eval (.tmp 61)] = _; rw [h0, h1]) ?_)
          exact ((fun wa _ => HTH.out wa) wa hF.1).mono fun e w2 ⟨he, hb2⟩ => ⟨_, he, rfl, hF.keep hb2 (by decide) (by decide)⟩
        | 7 =>
          cases hi
          have h0 : az.eval (.tmp 62) = .tuple #[.agg #[.int .i64 S.fr, .int .i64 S.to, .int .i64 S.kp, .int .i64 S.ad, .int .i64 S.t0, .int .i64 S.t1, .int .i64 S.t2], .bool TB] := (hpre 6 _ _ (by kernel_rfl) rfl rfl).2.2
          exact Free.c_all rfl (Free.g_move _ rfl ⟨h0, hF.keep (Below.refl _ _) (by decide) (by decide)⟩)
        | 8 =>
          cases hi
          have h0 : az.eval (.tmp 55) = .tuple #[.agg #[.int .i64 S.fr, .int .i64 S.to, .int .i64 S.kp, .int .i64 S.ad, .int .i64 S.t0, .int .i64 S.t1, .int .i64 S.t2], .bool TB] := (hpre 7 _ _ (by kernel_rfl) rfl rfl).2.2
          refine Free.c_all rfl ?_
          unfold execOp
          simp only [h0]
          go_simp
          exact ⟨rfl, hF.keep (Below.refl _ _) (by decide) (by decide)⟩
        | 9 =>
          cases hi
          have h0 : az.eval (.tmp 55) = .tuple #[.agg #[.int .i64 S.fr, .int .i64 S.to, .int .i64 S.kp, .int .i64 S.ad, .int .i64 S.t0, .int .i64 S.t1, .int .i64 S.t2], .bool TB] := (hpre 7 _ _ (by kernel_rfl) rfl rfl).2.2
          refine Free.c_all rfl ?_
          unfold execOp
          simp only [h0]
          go_simp
          exact ⟨rfl, hF.keep (Below.refl _ _) (by decide) (by decide)⟩
        | 10 =>
          cases hi
          refine Free.c_all rfl ?_
          unfold execOp
          go_simp
          exact ⟨trivial, hF.alloc (by decide) hbi⟩
        | 11 =>
          cases hi
          have hq := id (hpre (10) _ _ (by kernel_rfl) rfl rfl)
          have hx : az.eval (.tmp 63) = .agg #[.int .i64 S.fr, .int .i64 S.to, .int .i64 S.kp, .int .i64 S.ad, .int .i64 S.t0, .int .i64 S.t1, .int .i64 S.t2] := (hpre 8 _ _ (by kernel_rfl) rfl rfl).2.2
          obtain ⟨blk, hblk, hle, hrow⟩ := hF.row hq.1 hbi
          have hp : az.eval (.tmp 11) = .pointer (some ⟨blk, 0, none⟩) := hq.2.1.trans hblk
          have hc0 := hrow.cell 0; have hf0 := hrow.free 0
          have hc1 := hrow.cell 1; have hf1 := hrow.free 1
          have hc2 := hrow.cell 2; have hf2 := hrow.free 2
          have hc3 := hrow.cell 3; have hf3 := hrow.free 3
          have hc4 := hrow.cell 4; have hf4 := hrow.free 4
          have hc5 := hrow.cell 5; have hf5 := hrow.free 5
          have hc6 := hrow.cell 6; have hf6 := hrow.free 6
          simp only [List.getElem?_cons_succ, List.getElem?_cons_zero] at hc0 hc1 hc2 hc3 hc4 hc5 hc6
          refine Free.c_all rfl ?_
          unfold execOp
          simp only [hp, hx]
          go_simp
          exact ⟨rfl, hF.store (by decide) hq.1 hblk hle (row_set7 hrow) ((((((((hF.1.setCell hle _).setCell hle _).setCell hle _).setCell hle _).setCell hle _).setCell hle _).setCell hle _))⟩
        | 12 =>
          cases hi
          have h0 : az.eval (.tmp 64) = .bool TB := (hpre 9 _ _ (by kernel_rfl) rfl rfl).2.2
          exact Free.c_all rfl (Free.g_assign _ rfl ⟨h0, hF.keep (Below.refl _ _) (by decide) (by decide)⟩)
        | _ + 13 => cases hi
      · intro vs we hv hF
        obtain ⟨hbE, blk, hblk, hle, hrowE⟩ := hF.done
        clear hF
        have e12 : vs 12 = .bool TB := hv 12 (by simp) (by rintro o ⟨⟩; rfl)
        clear hv
        simp only [Free.puts, Nat.reduceAdd, hblk, e12]
        clear e12
        clear hblk
        generalize vs 0 = y0
        generalize vs 1 = y1
        generalize vs 2 = y2
        generalize vs 3 = y3
        generalize vs 4 = y4
        generalize vs 5 = y5
        generalize vs 6 = y6
        generalize vs 7 = y7
        generalize vs 8 = y8
        generalize vs 9 = y9
        generalize vs 11 = y11
        clear vs
        go_simp
        have hb4 := HBO.out.trans (hbE.mono HBO.out.size)
        have HB4 := Lib.hid hb4; have HSX := Lib.hid hrowE; clear hb4 hbE hle hrowE HBO HOX HLS
        generalize we = w4 at *
        generalize blk = gS at *
        cases TB with
        | false =>
          have hskp := HSK.out fun h => by have := (HYES.out h).2; cases this
          have HSKP := Lib.hid hskp; clear hskp
          go_wp2_with fail
          go_roundw
          case rel => exact ⟨k + 1, L, by simp, by omega, HSKP.out, Rw.own_kept HOL.out HB4.out, HBL.out.trans (HB4.out.mono HBL.out.size)⟩
          case measure => simp only [intOf]; have := HBD.out; omega
        | true =>
          have hto : s.thenOk O := by
            apply Classical.byContradiction
            intro h
            have := (HNO.out h).2; cases this
          have hstp := HSP.out hto
          rw [← (HYES.out hto).1] at hstp
          have hfd := fun wz (hz : Below w4.heap.size w4 wz) => feeds_any w (some ⟨b, o, none⟩) lg c (.slice (some ⟨g, 0, none⟩) L.length cap) L n S wz HG.out (by omega) HI.out ((HBL.out.trans (HB4.out.mono HBL.out.size)).trans (hz.mono (Nat.le_trans HBL.out.size HB4.out.size))) (Rw.own_kept (Rw.own_kept HOL.out HB4.out) hz) (by have := HBD.out; omega)
          generalize addA S (toG ((n : Nat) : Int) 0 (nds lg)) L = L' at *
          have q0 : w4.cell? ⟨g, k * 8, none⟩ = some (.int .i64 (n : Nat)) := (HGC.out w4 HB4.out).1
          have d0 : w4.cell? ⟨gS, 0, none⟩ = some (.int .i64 S.fr) := HSX.out.cell 0
          have d1 : w4.cell? ⟨gS, 1, none⟩ = some (.int .i64 S.to) := HSX.out.cell 1
          have d2 : w4.cell? ⟨gS, 2, none⟩ = some (.int .i64 S.kp) := HSX.out.cell 2
          have d3 : w4.cell? ⟨gS, 3, none⟩ = some (.int .i64 S.ad) := HSX.out.cell 3
          have d4 : w4.cell? ⟨gS, 4, none⟩ = some (.int .i64 S.t0) := HSX.out.cell 4
          have d5 : w4.cell? ⟨gS, 5, none⟩ = some (.int .i64 S.t1) := HSX.out.cell 5
          have d6 : w4.cell? ⟨gS, 6, none⟩ = some (.int .i64 S.t2) := HSX.out.cell 6
          have HFD2 := Lib.hid hfd; have HSTP := Lib.hid hstp; clear hfd hstp hto
          go_upto_region 12 with fail
          go_region_with (go_at_call 90; refine (HFD2.out _ (Below.refl _ _).drew).mono ?_; rintro e w5 ⟨⟨v5, rfl, ho5⟩, hb5⟩)
          all_goals
            have hbd' := AllW.bound HF.out HSTP.out
            rw [nds_len] at hbd'
            have HBD' := Lib.hid hbd'; have HO5 := Lib.hid ho5; have HB5 := Lib.hid hb5; clear ho5 hb5 hbd' q0 d0 d1 d2 d3 d4 d5 d6
            have hle := HSTP.out.le
            go_wp2_with fail
            go_roundw
            case rel => exact ⟨k + 1, L', by simp, by omega, HSTP.out, HO5.out, HB5.out⟩
            case measure => simp only [intOf]; have := HBD'.out; omega
    · obtain ⟨MA, mc, rfl, _, _, _, _, _⟩ := Rw.Ts.of_own HOL.out
      have hkz : ¬ (k : Int) < (L.length : Int) := by omega
      have hke : k = L.length := by omega
      have HK := Lib.hid hke; clear hke
      go_wp2_with fail
      go_ret
      have h := HALL.out
      rw [HK.out] at h
      exact ⟨⟨_, L, rfl, HOL.out, h⟩, HBL.out⟩
theorem refAll_out (A : Option Addr) (lg : List Gn) (c : Nat) (f : Int) (w : World) (h : f < 0 ∨ (lg.length : Int) ≤ f) :
    Calls Tryz.prog 44 #[.slice A lg.length c, .int .i64 f] w fun e w' => e = .returned (.slice none 0 0) ∧ Below w.heap.size w w' := by
  by_cases h0 : f < 0
  · clear h
    go_enter Tryz.func44, Tryz.ntmps44
    go_wp2_with fail
    go_ret
    exact ⟨rfl, Below.refl _ _⟩
  · have h1 : (lg.length : Int) ≤ f := by omega
    clear h
    go_enter Tryz.func44, Tryz.ntmps44
    go_wp2_with fail
    go_ret
    exact ⟨rfl, Below.refl _ _⟩
end

section
open Go.ChangeShapes Go.WideShapes Go.ChangeAt Go.RowKit Go.BigFrame
set_option maxRecDepth 100000
theorem nothingMade_any (d : Int) (w : World) : Calls Tryz.prog 128 #[.int .i64 d] w fun e w' => e = .returned (idS d).v ∧ Below w.heap.size w w' := by
  go_enter Tryz.func128, Tryz.ntmps128
  go_wp2_with fail
  refine bodyPost_ret (results_cell_row rfl _ _ w.heap.size 44 _ (0, 0) _ rfl (Row.made _ _ _) Tryz.underlying44 rfl (by kernel_rfl)) rfl ?_
  exact ⟨rfl, (Below.refl _ _).alloc (Nat.le_refl _) _⟩
theorem ofNode_any (xk xa : Nat) (xb xd : Int) (xi : List Int) (xA : Option Addr) (xc : Nat) (w : World) (h : Nd.smOk ⟨xk, xa, xb, xd, xi⟩) :
    Calls Tryz.prog 130 #[.agg #[.int .u8 (xk : Nat), .int .u8 (xa : Nat), .int .i64 xb, .int .i64 xd, .slice xA xi.length xc]] w fun e w' => e = .returned (Nd.sm ⟨xk, xa, xb, xd, xi⟩).v ∧ Below w.heap.size w w' := by
  obtain ⟨e1, e2⟩ := of_node h
  simp only at e1 e2
  have hof := fun wz => of_any ((xk : Nat) : Int) xd wz
  rw [e1, e2] at hof
  generalize Nd.sm ⟨xk, xa, xb, xd, xi⟩ = O at *
  have HOF := Lib.hid hof; clear hof e1 e2 h
  go_enter Tryz.func130, Tryz.ntmps130
  go_wp2_with fail
  refine (HOF.out _).mono ?_; rintro e w2 ⟨rfl, hb2⟩
  have hr0 : Row ((w.alloc (.cells #[.int .u8 (xk : Nat), .int .u8 (xa : Nat), .int .i64 xb, .int .i64 xd, .slice xA xi.length xc] 35)).alloc (.cells #[.int .i64 0, .int .i64 0, .int .i64 0, .int .i64 0, .int .i64 0, .int .i64 0, .int .i64 0] 44)) (w.heap.size + 1) 44 [.int .i64 0, .int .i64 0, .int .i64 0, .int .i64 0, .int .i64 0, .int .i64 0, .int .i64 0] := made2 _ _ _ _
  have hr2 := hr0.below hb2 hr0.lt
  have hb0 : Below w.heap.size w ((w.alloc (.cells #[.int .u8 (xk : Nat), .int .u8 (xa : Nat), .int .i64 xb, .int .i64 xd, .slice xA xi.length xc] 35)).alloc (.cells #[.int .i64 0, .int .i64 0, .int .i64 0, .int .i64 0, .int .i64 0, .int .i64 0, .int .i64 0] 44)) := ((Below.refl _ _).alloc (Nat.le_refl _) _).alloc (by simp) _
  have hb3 := hb0.trans (hb2.mono hb0.size)
  have hsz : w.heap.size + 1 < w2.heap.size := by have := hb2.size; simp at this; omega
  have hz0 : w.heap.size ≤ w.heap.size + 1 := Nat.le_succ _
  have HR2 := Lib.hid hr2; have HB3 := Lib.hid hb3; clear hr0 hr2 hb0 hb2 hb3 HOF
  dsimp only
  generalize w.heap.size + 1 = z0 at *
  have hr3 := HR2.out.alloc (.cells #[.int .i64 O.fr, .int .i64 O.to, .int .i64 O.kp, .int .i64 O.ad, .int .i64 O.t0, .int .i64 O.t1, .int .i64 O.t2] 44)
  have c0 := hr3.cell 0; have c1 := hr3.cell 1; have c2 := hr3.cell 2; have c3 := hr3.cell 3; have c4 := hr3.cell 4; have c5 := hr3.cell 5; have c6 := hr3.cell 6
  have f0 := hr3.free 0; have f1 := hr3.free 1; have f2 := hr3.free 2; have f3 := hr3.free 3; have f4 := hr3.free 4; have f5 := hr3.free 5; have f6 := hr3.free 6
  simp only [List.getElem?_cons_succ, List.getElem?_cons_zero] at c0 c1 c2 c3 c4 c5 c6
  have HR3 := Lib.hid hr3; have HSZ := Lib.hid hsz; have HZ := Lib.hid hz0; clear hr3 hsz
  go_wp2_with fail
  refine bodyPost_ret (results_cell_row rfl _ _ z0 44 _ (0, 0) _ rfl (row_set7 HR3.out) Tryz.underlying44 rfl (by kernel_rfl)) rfl ?_
  refine ⟨rfl, ?_⟩
  have hz : w.heap.size ≤ z0 := HZ.out
  exact (((((((HB3.out.alloc HB3.out.size _).setCell hz _).setCell hz _).setCell hz _).setCell hz _).setCell hz _).setCell hz _).setCell hz _
theorem isNode_any (A : Option Addr) (n c : Nat) (i : Int) (w : World) : Calls Tryz.prog 84 #[.slice A n c, .int .i64 i] w fun e w' => e = .returned (.bool (decide (0 ≤ i ∧ i < (n : Int)))) ∧ w = w' := by
  by_cases h0 : 0 ≤ i
  · by_cases h1 : i < (n : Int)
    · rw [decide_eq_true (And.intro h0 h1)]
      go_enter Tryz.func84, Tryz.ntmps84
      go_wp2_with fail
      go_ret
      exact ⟨rfl, rfl⟩
    · rw [decide_eq_false fun h => h1 h.2]
      go_enter Tryz.func84, Tryz.ntmps84
      go_wp2_with fail
      go_ret
      exact ⟨rfl, rfl⟩
  · rw [decide_eq_false fun h => h0 h.1]
    go_enter Tryz.func84, Tryz.ntmps84
    go_wp2_with fail
    go_ret
    exact ⟨rfl, rfl⟩
theorem reachC (B : Nat) (t : Sm) (w : World) (hB : Mx.Holds w B t) : Mx.Tells 129 #[.pointer (some ⟨B, 0, none⟩)] (fun x => decide (x.L t)) w := by
  intro W x hb
  show Calls _ _ #[x.v, .pointer (some ⟨B, 0, none⟩)] _ (fun e w' => e = .returned (.bool (decide (x.L t))) ∧ Below W.heap.size W w')
  have h : Mx.Holds W B t := HoldsM.below hB hb
  have hc := fun w => leqM_any x t w
  generalize decide (x.L t) = v at *
  have hl : B < W.heap.size := HoldsM.lt h
  obtain ⟨c0, c1, c2, c3, c4, c5, c6⟩ := h.cells5
  unfold Sm.v at *
  have HC := Lib.hid hc; clear hc h hB hb
  go_enter Tryz.func129, Tryz.ntmps129
  go_wp2_with fail
  refine (HC.out _).mono ?_; rintro e w1 ⟨rfl, hb1⟩
  have HB1 := Lib.hid hb1; clear hb1 c0 c1 c2 c3 c4 c5 c6
  go_wp2_with fail
  go_ret
  exact ⟨rfl, ((Below.refl _ _).alloc (Nat.le_refl _) _).trans (HB1.out.mono (by simp))⟩
end

section
section
variable {P : Program} {ops : Array Oper} {o : Oper} {a : Act} {w : World} {K : Act → World → Prop} {Q : Exit → Act → World → Prop} {E : Prop}
theorem wp_of_gets (h : Free.gets P (fun v w' => K (a.put o.dst v) w') ((execOp a.eval o).run P w)) : Oper.wp P o a w K Q := by
  unfold Oper.wp
  generalize (execOp a.eval o).run P w = r at h
  cases r with
  | ok n w' =>
    cases n <;> simp only [Free.gets] at h <;> simp only [Oper.upon]
    case value u => exact h
    case skip => exact h
    case enter f args => exact h.mono fun e w'' ⟨v, he, h⟩ => by subst he; exact h
  | halt x w' => simp only [Free.gets] at h
theorem step_call {f : FuncId} {fn : Func} {c : Code} (hg : o.guard = none) (xs : Array Operand) (ats : Array TypeId) (ho : o.op = .call { callee := .value (.func f), args := xs, argTypes := ats }) (hf : P.funcs[f]? = some fn) (hname : (fn.name == "runtime.NumGoroutine") = false) (hb : fn.body = some c)
    (vs : List Value) (hv : xs.toList.map a.eval = vs) {R : Value → World → Prop} (hc : Calls P f vs.toArray w (fun e w' => ∃ v, e = .returned v ∧ R v w')) (h : ∀ v w', R v w' → K (a.put o.dst v) w') :
    if Region.wanted o (yielded ops a.tmps) = true then Oper.wp P o a w K Q else E := by
  have hw : Region.wanted o (yielded ops a.tmps) = true := by simp [Region.wanted, hg]
  rw [if_pos hw]
  exact wp_of_gets (Free.g_call xs ats ho hf hname hb vs hv (hc.mono fun e w' ⟨v, he, hr⟩ => ⟨v, he, h v w' hr⟩))
end
end
end Go.Proofs.YtcdofkhkckodjaaGreatDoor
