/- As Free.wp_key, where a slot that the region will write to is known till then. -/
import Derived.Test.YtcjdjdhjbchaaaaCa7
namespace Go.Proofs.Ytcjdjdhjbchaaaa
namespace Free
section
variable {P : Program}
/-- each order, with guards: the class F goes by which have come up and what their slots hold -/
theorem wp_key2 {id : Nat} {Q : Exit → Act → World → Prop} {a0 : Act} {w0 : World} {l : List Oper} (hm : P.follows .mixedOrders = true) (hB : okG l a0.tmps.size = true)
    (F : (Nat → Bool) → (Nat → Value) → World → Prop) (V : Nat → Value → Prop) (hF : ∀ vs, F (fun i => decide (l.length ≤ i)) vs w0.drew)
    (hstep : ∀ i o, l[i]? = some o → ∀ (b : Nat → Bool) (vs : Nat → Value) (a : Act) (w : World), (∀ t, (∀ j oj, l[j]? = some oj → oj.dst = some t → b j = false) → a.eval (.tmp t) = a0.eval (.tmp t)) →
      (∀ j oj t, Region.waitsFor .any l.toArray i j = true → l[j]? = some oj → oj.dst = some t → b j = true ∧ a.eval (.tmp t) = vs j ∧ V j (a.eval (.tmp t))) → b i = false → F b vs w →
      Comes P l a o w (fun v w' => V i v ∧ F (updb b i) (updw vs i v) w'))
    (hend : ∀ (vs : Nat → Value) (w' : World), (∀ i, i < l.length → (∀ o, l[i]? = some o → o.dst.isSome = true) → V i (vs i)) → F (fun _ => true) vs w' → Q .normal (puts a0 l 0 vs) w') : (Code.region id l.toArray true).wp P Q a0 w0 := by
  simp only [okG, Bool.and_eq_true, decide_eq_true_eq] at hB
  obtain ⟨⟨hns, hnd⟩, hlt⟩ := hB
  have hlt' : ∀ t ∈ dsts l, t < a0.tmps.size := fun t ht => by simpa using List.all_eq_true.1 hlt t ht
  let Inv : Array Bool → Act → World → Prop := fun S a w => a.defers = a0.defers ∧ a.tmps.size = a0.tmps.size ∧ (∀ t, (∀ j oj, l[j]? = some oj → oj.dst = some t → S.getD j true = false) → a.tmps.getD t undef = a0.tmps.getD t undef) ∧
    (∃ vs, F (fun i => S.getD i true) vs w ∧ ∀ i o t, l[i]? = some o → S.getD i false = true → o.dst = some t → a.tmps.getD t undef = vs i) ∧
    ∀ i o t, l[i]? = some o → S.getD i false = true → o.dst = some t → V i (a.tmps.getD t undef)
  have main : ∀ (fuel : Nat) (S : Array Bool) (a : Act) (w : World), S.toList.count false = fuel → Stage.Fit .any l.toArray S → Inv S a w → wpAny P .any l.toArray Q fuel S a w := by
    intro fuel
    have fin : ∀ (S : Array Bool) (a : Act) (w : World), Stage.Fit .any l.toArray S → (∀ i, S.getD i true = true) → Inv S a w → Q .normal a w := by
      rintro S a w hFit hS ⟨h1, h2, h3, ⟨vs, h4, h4'⟩, h5⟩
      have hSi : ∀ i, i < l.length → S.getD i false = true := fun i hi => by
        have h1 := hS i
        have : i < S.size := by rw [hFit.size]; simpa using hi
        simp [this] at h1 ⊢; exact h1
      have e : a = puts a0 l 0 vs := by
        have hp := puts_size l a0 0 vs
        refine act_ext (h1.trans hp.2.symm) (h2.trans hp.1.symm) (fun t ht => ?_)
        by_cases hm : t ∈ dsts l
        · obtain ⟨o, ho, e⟩ := List.mem_filterMap.1 hm
          obtain ⟨i, hi⟩ := List.getElem?_of_mem ho
          rw [puts_new l a0 0 _ i o t hnd hi e (hlt' t hm), Nat.zero_add]
          exact h4' i o t hi (hSi i (List.getElem?_eq_some_iff.1 hi).1) e
        · rw [puts_old _ _ _ _ _ hm]; exact h3 t (fun j oj hj hd => absurd (mem_dsts hj hd) hm)
      rw [e]
      refine hend _ w (fun i hi hd => ?_) (by rw [show (fun i => S.getD i true) = fun _ => true from funext hS] at h4; exact h4)
      have hi' : l[i]? = some l[i] := List.getElem?_eq_getElem hi
      obtain ⟨t, ht⟩ := Option.isSome_iff_exists.1 (hd _ hi')
      have := h5 i _ t hi' (hSi i hi) ht
      rwa [h4' i _ t hi' (hSi i hi) ht] at this
    have one : ∀ (S : Array Bool) (a : Act) (w : World) (K : Act → World → Prop), Stage.Fit .any l.toArray S → Inv S a w → ∀ i ∈ Region.ready .any l.toArray S, (∀ a' w', Inv (S.setIfInBounds i true) a' w' → K a' w') → wpOp P l.toArray Q i K a w := by
      rintro S a w K hFit ⟨h1, h2, h3, ⟨vs, h4, h4'⟩, h5⟩ i hi hK
      obtain ⟨hun, o, ho, hall⟩ := mem_ready.1 hi
      have hol : l[i]? = some o := by simpa using ho
      unfold wpOp
      simp only [ho]
      have hpre : ∀ j oj t, Region.waitsFor .any l.toArray i j = true → l[j]? = some oj → oj.dst = some t → (fun i => S.getD i true) j = true ∧ a.eval (.tmp t) = vs j ∧ V j (a.eval (.tmp t)) := by
        intro j oj t hwt hj hd
        have hc := Stage.came hi hwt
        have hSj : S.getD j false = true := by
          have hjl : j < S.size := by rw [hFit.size]; simpa using (List.getElem?_eq_some_iff.1 hj).1
          simp [hjl] at hc ⊢; exact hc
        exact ⟨hc, h4' j oj t hj hSj hd, h5 j oj t hj hSj hd⟩
      have hs := hstep i o hol _ vs a w (fun t ht => h3 t ht) hpre hun h4
      have hSs : ∀ j, (S.setIfInBounds i true).getD j true = updb (fun i => S.getD i true) i j := fun j => by
        unfold updb
        by_cases hji : j = i
        · rw [if_pos hji, hji]; exact Stage.getD_set_self hun
        · rw [if_neg hji, getD_set_ne true (Ne.symm hji)]
      have step : ∀ v w', (V i v ∧ F (updb (fun i => S.getD i true) i) (updw vs i v) w') → K (a.put o.dst v) w' := by
        rintro v w' ⟨r1, r2⟩
        refine hK _ _ ⟨by rw [put_defers]; exact h1, by rw [put_size]; exact h2, fun t ht => ?_, ⟨updw vs i v, by rw [funext hSs]; exact r2, fun j oj t hj hSj hd => ?_⟩, fun j oj t hj hSj hd => ?_⟩
        · rw [put_getD _ _ _ _ (fun e => by have := ht i o hol e; rw [hSs i, updb_self] at this; cases this)]
          refine h3 t (fun j oj hj hd => ?_)
          have h := ht j oj hj hd
          rw [hSs j] at h
          by_cases hji : j = i
          · rw [hji, updb_self] at h; cases h
          · rwa [updb_ne hji] at h
        · by_cases hij : i = j
          · subst hij
            obtain rfl : oj = o := Option.some.inj (hj.symm.trans hol)
            rw [hd, put_getD_self _ _ _ (by rw [h2]; exact hlt' t (mem_dsts hj hd))]
            exact updw_self.symm
          · rw [getD_set_ne false hij] at hSj
            rw [put_getD _ _ _ _ (fun e => hij (dst_ne hnd hol hj e hd)), updw_ne (Ne.symm hij)]
            exact h4' j oj t hj hSj hd
        · by_cases hij : i = j
          · subst hij
            obtain rfl : oj = o := Option.some.inj (hj.symm.trans hol)
            rw [hd, put_getD_self _ _ _ (by rw [h2]; exact hlt' t (mem_dsts hj hd))]
            exact r1
          · rw [getD_set_ne false hij] at hSj
            rw [put_getD _ _ _ _ (fun e => hij (dst_ne hnd hol hj e hd))]
            exact h5 j oj t hj hSj hd
      rcases hs with ⟨hw, hs⟩ | ⟨hw, hs⟩
      case inr => rw [if_neg (by rw [hw]; exact Bool.false_ne_true)]; exact step _ _ hs
      rw [if_pos hw]
      refine .inl ?_
      unfold Oper.wp
      generalize (execOp a.eval o).run P w = r at hs
      cases r with
      | ok n w' =>
        cases n <;> simp only [gets] at hs <;> simp only [Oper.upon]
        case value u => exact step _ _ hs
        case skip => exact step _ _ hs
        case enter f args => exact hs.mono fun e w'' ⟨v, he, h⟩ => by subst he; exact step _ _ h
      | halt x w' => simp only [gets] at hs
    induction fuel with
    | zero =>
      intro S a w hn hFit hI
      have hS : ∀ i, S.getD i true = true := fun i => by rw [Stage.getD_toList]; exact Stage.all_of_count hn i
      refine ⟨?_, fin S a w hFit hS hI⟩
      cases hr : Region.ready .any l.toArray S with
      | nil => rfl
      | cons i r =>
        have := (mem_ready.1 (show i ∈ Region.ready .any l.toArray S by rw [hr]; simp)).1
        rw [hS i] at this; cases this
    | succ fuel ih =>
      intro S a w hn hFit hI
      refine ⟨fun h0 => ?_, fun i hi => ?_⟩
      · refine fin S a w hFit (fun i => ?_) hI
        induction i using Nat.strongRecOn with
        | _ i ihi =>
          cases hx : S.getD i true with
          | true => rfl
          | false =>
            exfalso
            have hil : i < l.length := by
              rcases Nat.lt_or_ge i S.size with h' | h'
              · rw [hFit.size] at h'; simpa using h'
              · simp [Array.getElem?_eq_none h'] at hx
            have hup := List.all_eq_true.1 hns i (List.mem_range.2 hil)
            rw [List.getElem?_eq_getElem hil] at hup
            have hr : i ∈ Region.ready .any l.toArray S := by
              refine mem_ready.2 ⟨hx, l[i], by simp [hil], fun e he hbe => ?_⟩
              have h1 : e.on < i := by
                have := Array.all_eq_true_iff_forall_mem.1 hup e he
                simpa [hbe] using this
              have h2 := ihi e.on h1
              have h3 : e.on < S.size := by rw [hFit.size]; simp; omega
              simp [h3] at h2 ⊢; exact h2
            rw [h0] at hr; cases hr
      · have hun := (mem_ready.1 hi).1
        have hc : (S.setIfInBounds i true).toList.count false = fuel := by
          rw [Array.toList_setIfInBounds]
          have := Stage.count_set (l := S.toList) (i := i) (by rw [← Stage.getD_toList]; exact hun)
          omega
        exact one S a w _ hFit hI i hi (fun a' w' hI' => ih _ a' w' hc (hFit.set hi) hI')
  refine wp_region_any hm (main _ _ _ _ (by simp) (by simpa using Stage.Fit.start (md := .any) (ops := l.toArray)) ⟨rfl, rfl, fun _ _ => rfl, ⟨fun _ => undef, ?_, fun i o t _ h _ => ?_⟩, fun i o t _ h _ => ?_⟩)
  · have hS0 : (fun i => (Array.replicate l.toArray.size false).getD i true) = fun i => decide (l.length ≤ i) := by
      funext i
      by_cases h : i < l.length
      · simp [h]
      · simp [h]; omega
    rw [hS0]; exact hF _
  · rw [getD_replicate_false] at h; cases h
  · rw [getD_replicate_false] at h; cases h
end
end Free
end Go.Proofs.Ytcjdjdhjbchaaaa
