/- As Free.wp_region, with what is told of two operations' values. -/
import Derived.Test.YtmliiglhglhjkaaFree
namespace Go.Proofs.Ytmliiglhglhjkaa
namespace Free
section
variable {P : Program}
theorem wp_pairs {id : Nat} {Q : Exit → Act → World → Prop} {a0 : Act} {w0 : World} {l : List Oper} (hm : P.follows .mixedOrders = true) (hB : okB l a0.tmps.size = true)
    (R : Nat → Value → World → Prop) (hR : ∀ j u w w', RowKit.Below w.heap.size w w' → R j u w → R j u w') (E : Nat → Nat → Value → Value → Prop)
    (hstep : ∀ i o, l[i]? = some o → ∀ (a : Act) (w : World), (∀ t, t ∉ dsts l → a.eval (.tmp t) = a0.eval (.tmp t)) →
      (∀ j oj t, Region.waitsFor .any l.toArray i j = true → l[j]? = some oj → oj.dst = some t → R j (a.eval (.tmp t)) w) → RowKit.Below w0.heap.size w0 w →
      gets P (fun v w' => R i v w' ∧ RowKit.Below w.heap.size w w' ∧
        ∀ j oj t, l[j]? = some oj → oj.dst = some t → j ≠ i → Region.waitsFor .any l.toArray j i = false → R j (a.eval (.tmp t)) w → E i j v (a.eval (.tmp t)) ∧ E j i (a.eval (.tmp t)) v) ((execOp a.eval o).run P w))
    (hend : ∀ (vs : Nat → Value) (w' : World), (∀ i, i < l.length → (∀ o, l[i]? = some o → o.dst.isSome = true) → R i (vs i) w') →
      (∀ i j, i < l.length → j < l.length → i ≠ j → (∀ o, l[i]? = some o → o.dst.isSome = true) → (∀ o, l[j]? = some o → o.dst.isSome = true) → E i j (vs i) (vs j)) →
      RowKit.Below w0.heap.size w0 w' → Q .normal (puts a0 l 0 vs) w') : (Code.region id l.toArray true).wp P Q a0 w0 := by
  simp only [okB, Bool.and_eq_true, decide_eq_true_eq] at hB
  obtain ⟨⟨⟨hns, hgd⟩, hnd⟩, hlt⟩ := hB
  have hlt' : ∀ t ∈ dsts l, t < a0.tmps.size := fun t ht => by simpa using List.all_eq_true.1 hlt t ht
  let Inv : Array Bool → Act → World → Prop := fun S a w => a.defers = a0.defers ∧ a.tmps.size = a0.tmps.size ∧ (∀ t, t ∉ dsts l → a.tmps.getD t undef = a0.tmps.getD t undef) ∧ RowKit.Below w0.heap.size w0 w ∧
    (∀ i o t, l[i]? = some o → S.getD i false = true → o.dst = some t → R i (a.tmps.getD t undef) w) ∧
    ∀ i j oi oj ti tj, l[i]? = some oi → l[j]? = some oj → S.getD i false = true → S.getD j false = true → i ≠ j → oi.dst = some ti → oj.dst = some tj → E i j (a.tmps.getD ti undef) (a.tmps.getD tj undef)
  have main : ∀ (fuel : Nat) (S : Array Bool) (a : Act) (w : World), S.toList.count false = fuel → Stage.Fit .any l.toArray S → Inv S a w → wpAny P .any l.toArray Q fuel S a w := by
    intro fuel
    have listed : ∀ (S : Array Bool), Stage.Fit .any l.toArray S → ∀ i, i < l.length → S.getD i true = true → S.getD i false = true := by
      intro S hFit i hi h1
      have : i < S.size := by rw [hFit.size]; simpa using hi
      simp [this] at h1 ⊢; exact h1
    have fin : ∀ (S : Array Bool) (a : Act) (w : World), Stage.Fit .any l.toArray S → (∀ i, S.getD i true = true) → Inv S a w → Q .normal a w := by
      rintro S a w hFit hS ⟨h1, h2, h3, h4, h5, h6⟩
      have e : a = puts a0 l 0 (fun i => match l[i]? with | some o => slot a o | none => undef) := by
        have hp := puts_size l a0 0 (fun i => match l[i]? with | some o => slot a o | none => undef)
        refine act_ext (h1.trans hp.2.symm) (h2.trans hp.1.symm) (fun t ht => ?_)
        by_cases hm : t ∈ dsts l
        · obtain ⟨o, ho, e⟩ := List.mem_filterMap.1 hm
          obtain ⟨i, hi⟩ := List.getElem?_of_mem ho
          rw [puts_new l a0 0 _ i o t hnd hi e (hlt' t hm), Nat.zero_add]
          simp only [hi, slot, e]
        · rw [puts_old _ _ _ _ _ hm]; exact h3 t hm
      rw [e]
      refine hend _ w (fun i hi hd => ?_) (fun i j hi hj hij hdi hdj => ?_) h4
      · have hi' : l[i]? = some l[i] := List.getElem?_eq_getElem hi
        simp only [hi']
        obtain ⟨t, ht⟩ := Option.isSome_iff_exists.1 (hd _ hi')
        have := h5 i _ t hi' (listed S hFit i hi (hS i)) ht
        unfold slot; rw [ht]; exact this
      · have hi' : l[i]? = some l[i] := List.getElem?_eq_getElem hi
        have hj' : l[j]? = some l[j] := List.getElem?_eq_getElem hj
        simp only [hi', hj']
        obtain ⟨ti, hti⟩ := Option.isSome_iff_exists.1 (hdi _ hi')
        obtain ⟨tj, htj⟩ := Option.isSome_iff_exists.1 (hdj _ hj')
        have := h6 i j _ _ ti tj hi' hj' (listed S hFit i hi (hS i)) (listed S hFit j hj (hS j)) hij hti htj
        unfold slot; rw [hti, htj]; exact this
    have one : ∀ (S : Array Bool) (a : Act) (w : World) (K : Act → World → Prop), Stage.Fit .any l.toArray S → Inv S a w → ∀ i ∈ Region.ready .any l.toArray S, (∀ a' w', Inv (S.setIfInBounds i true) a' w' → K a' w') → wpOp P l.toArray Q i K a w := by
      rintro S a w K hFit ⟨h1, h2, h3, h4, h5, h6⟩ i hi hK
      obtain ⟨hun, o, ho, hall⟩ := mem_ready.1 hi
      have hol : l[i]? = some o := by simpa using ho
      unfold wpOp
      simp only [ho]
      have hw : Region.wanted o (yielded l.toArray a.tmps) = true := by
        have := List.all_eq_true.1 hgd o (List.mem_of_getElem? hol)
        have hn : o.guard = none := by simpa using this
        simp [Region.wanted, hn]
      rw [if_pos hw]
      refine .inl ?_
      have hpre : ∀ j oj t, Region.waitsFor .any l.toArray i j = true → l[j]? = some oj → oj.dst = some t → R j (a.eval (.tmp t)) w := by
        intro j oj t hwt hj hd
        exact h5 j oj t hj (listed S hFit j (List.getElem?_eq_some_iff.1 hj).1 (Stage.came hi hwt)) hd
      have hs := hstep i o hol a w (fun t ht => h3 t ht) hpre h4
      have step : ∀ v w', (R i v w' ∧ RowKit.Below w.heap.size w w' ∧ ∀ j oj t, l[j]? = some oj → oj.dst = some t → j ≠ i → Region.waitsFor .any l.toArray j i = false → R j (a.eval (.tmp t)) w → E i j v (a.eval (.tmp t)) ∧ E j i (a.eval (.tmp t)) v) → K (a.put o.dst v) w' := by
        rintro v w' ⟨r1, r2, r3⟩
        have pair : ∀ j oj t, l[j]? = some oj → S.getD j false = true → oj.dst = some t → j ≠ i → E i j v (a.tmps.getD t undef) ∧ E j i (a.tmps.getD t undef) v := by
          intro j oj t hj hSj hd hji
          refine r3 j oj t hj hd hji ?_ (h5 j oj t hj hSj hd)
          cases hwf : Region.waitsFor .any l.toArray j i with
          | false => rfl
          | true =>
            have := hFit.not hun hwf
            rw [getD_both this] at hSj; cases hSj
        refine hK _ _ ⟨by rw [put_defers]; exact h1, by rw [put_size]; exact h2, fun t ht => ?_, h4.trans (r2.mono h4.size), fun j oj t hj hSj hd => ?_, fun j k oj ok tj tk hj hk hSj hSk hjk hdj hdk => ?_⟩
        · rw [put_getD _ _ _ _ (fun e => ht (mem_dsts hol e))]; exact h3 t ht
        · by_cases hij : i = j
          · subst hij
            obtain rfl : oj = o := Option.some.inj (hj.symm.trans hol)
            rw [hd, put_getD_self _ _ _ (by rw [h2]; exact hlt' t (mem_dsts hj hd))]
            exact r1
          · rw [getD_set_ne false hij] at hSj
            rw [put_getD _ _ _ _ (fun e => hij (dst_ne hnd hol hj e hd))]
            exact hR j _ w w' r2 (h5 j oj t hj hSj hd)
        · by_cases hij : i = j
          · subst hij
            obtain rfl : oj = o := Option.some.inj (hj.symm.trans hol)
            rw [getD_set_ne false hjk] at hSk
            rw [put_getD _ _ _ tk (fun e => hjk (dst_ne hnd hol hk e hdk)), hdj, put_getD_self _ _ _ (by rw [h2]; exact hlt' tj (mem_dsts hj hdj))]
            exact (pair k ok tk hk hSk hdk (Ne.symm hjk)).1
          · rw [getD_set_ne false hij] at hSj
            by_cases hik : i = k
            · subst hik
              obtain rfl : ok = o := Option.some.inj (hk.symm.trans hol)
              rw [put_getD _ _ _ tj (fun e => hij (dst_ne hnd hol hj e hdj)), hdk, put_getD_self _ _ _ (by rw [h2]; exact hlt' tk (mem_dsts hk hdk))]
              exact (pair j oj tj hj hSj hdj hjk).2
            · rw [getD_set_ne false hik] at hSk
              rw [put_getD _ _ _ tj (fun e => hij (dst_ne hnd hol hj e hdj)), put_getD _ _ _ tk (fun e => hik (dst_ne hnd hol hk e hdk))]
              exact h6 j k oj ok tj tk hj hk hSj hSk hjk hdj hdk
      unfold Oper.wp
      generalize (execOp a.eval o).run P w = r at hs
      cases r with
      | ok n w' =>
        cases n <;> simp only [gets] at hs <;> simp only [Oper.upon]
        case value u => exact step _ _ hs
        case skip => exact step _ _ hs
        case enter f args => exact hs.mono fun e w'' ⟨v, he, h⟩ => by subst he; exact step _ _ h
      | halt x w' => simp only [gets] at hs
    induction fuel with
    | zero =>
      intro S a w hn hFit hI
      have hS : ∀ i, S.getD i true = true := fun i => by rw [Stage.getD_toList]; exact Stage.all_of_count hn i
      refine ⟨?_, fin S a w hFit hS hI⟩
      cases hr : Region.ready .any l.toArray S with
      | nil => rfl
      | cons i r =>
        have := (mem_ready.1 (show i ∈ Region.ready .any l.toArray S by rw [hr]; simp)).1
        rw [hS i] at this; cases this
    | succ fuel ih =>
      intro S a w hn hFit hI
      refine ⟨fun h0 => ?_, fun i hi => ?_⟩
      · refine fin S a w hFit (fun i => ?_) hI
        induction i using Nat.strongRecOn with
        | _ i ihi =>
          cases hx : S.getD i true with
          | true => rfl
          | false =>
            exfalso
            have hil : i < l.length := by
              rcases Nat.lt_or_ge i S.size with h' | h'
              · rw [hFit.size] at h'; simpa using h'
              · simp [Array.getElem?_eq_none h'] at hx
            have hup := List.all_eq_true.1 hns i (List.mem_range.2 hil)
            rw [List.getElem?_eq_getElem hil] at hup
            have hr : i ∈ Region.ready .any l.toArray S := by
              refine mem_ready.2 ⟨hx, l[i], by simp [hil], fun e he hbe => ?_⟩
              have h1 : e.on < i := by
                have := Array.all_eq_true_iff_forall_mem.1 hup e he
                simpa [hbe] using this
              have h2 := ihi e.on h1
              have h3 : e.on < S.size := by rw [hFit.size]; simp; omega
              simp [h3] at h2 ⊢; exact h2
            rw [h0] at hr; cases hr
      · have hun := (mem_ready.1 hi).1
        have hc : (S.setIfInBounds i true).toList.count false = fuel := by
          rw [Array.toList_setIfInBounds]
          have := Stage.count_set (l := S.toList) (i := i) (by rw [← Stage.getD_toList]; exact hun)
          omega
        exact one S a w _ hFit hI i hi (fun a' w' hI' => ih _ a' w' hc (hFit.set hi) hI')
  refine wp_region_any hm (main _ _ _ _ (by simp) (by simpa using Stage.Fit.start (md := .any) (ops := l.toArray)) ⟨rfl, rfl, fun _ _ => rfl, (RowKit.Below.refl _ _).drew, fun i o t _ h _ => ?_, fun i j oi oj ti tj _ _ h => ?_⟩)
  · rw [getD_replicate_false] at h; cases h
  · rw [getD_replicate_false] at h; cases h
end
end Free
end Go.Proofs.Ytmliiglhglhjkaa
