/- As Free.wp_region, where operations have guards. -/
import Derived.Test.YtcdofkhkckodjaaFree
namespace Go.Proofs.Ytcdofkhkckodjaa
namespace Free
section
variable {P : Program}
def okG (l : List Oper) (n : Nat) : Bool := upB l && decide (dsts l).Nodup && (dsts l).all (fun t => decide (t < n))
/-- when it comes up: it is carried out, or passed over -/
def Comes (P : Program) (l : List Oper) (a : Act) (o : Oper) (w : World) (K : Value → World → Prop) : Prop :=
  (Region.wanted o (yielded l.toArray a.tmps) = true ∧ gets P K ((execOp a.eval o).run P w)) ∨ (Region.wanted o (yielded l.toArray a.tmps) = false ∧ K undef w)
/-- each order, with guards: what each operation's slot holds once it has come up -/
theorem wp_guarded {id : Nat} {Q : Exit → Act → World → Prop} {a0 : Act} {w0 : World} {l : List Oper} (hm : P.follows .mixedOrders = true) (hB : okG l a0.tmps.size = true)
    (F : World → Prop) (V : Nat → Value → Prop) (hF : F w0.drew)
    (hstep : ∀ i o, l[i]? = some o → ∀ (a : Act) (w : World), (∀ t, t ∉ dsts l → a.eval (.tmp t) = a0.eval (.tmp t)) →
      (∀ j oj t, Region.waitsFor .any l.toArray i j = true → l[j]? = some oj → oj.dst = some t → V j (a.eval (.tmp t))) → F w →
      Comes P l a o w (fun v w' => V i v ∧ F w'))
    (hend : ∀ (vs : Nat → Value) (w' : World), (∀ i, i < l.length → (∀ o, l[i]? = some o → o.dst.isSome = true) → V i (vs i)) → F w' → Q .normal (puts a0 l 0 vs) w') : (Code.region id l.toArray true).wp P Q a0 w0 := by
  simp only [okG, Bool.and_eq_true, decide_eq_true_eq] at hB
  obtain ⟨⟨hns, hnd⟩, hlt⟩ := hB
  have hlt' : ∀ t ∈ dsts l, t < a0.tmps.size := fun t ht => by simpa using List.all_eq_true.1 hlt t ht
  let Inv : Array Bool → Act → World → Prop := fun S a w => a.defers = a0.defers ∧ a.tmps.size = a0.tmps.size ∧ (∀ t, t ∉ dsts l → a.tmps.getD t undef = a0.tmps.getD t undef) ∧ F w ∧
    ∀ i o t, l[i]? = some o → S.getD i false = true → o.dst = some t → V i (a.tmps.getD t undef)
  have main : ∀ (fuel : Nat) (S : Array Bool) (a : Act) (w : World), S.toList.count false = fuel → Stage.Fit .any l.toArray S → Inv S a w → wpAny P .any l.toArray Q fuel S a w := by
    intro fuel
    have fin : ∀ (S : Array Bool) (a : Act) (w : World), Stage.Fit .any l.toArray S → (∀ i, S.getD i true = true) → Inv S a w → Q .normal a w := by
      rintro S a w hFit hS ⟨h1, h2, h3, h4, h5⟩
      have e : a = puts a0 l 0 (fun i => match l[i]? with | some o => slot a o | none => undef) := by
        have hp := puts_size l a0 0 (fun i => match l[i]? with | some o => slot a o | none => undef)
        refine act_ext (h1.trans hp.2.symm) (h2.trans hp.1.symm) (fun t ht => ?_)
        by_cases hm : t ∈ dsts l
        · obtain ⟨o, ho, e⟩ := List.mem_filterMap.1 hm
          obtain ⟨i, hi⟩ := List.getElem?_of_mem ho
          rw [puts_new l a0 0 _ i o t hnd hi e (hlt' t hm), Nat.zero_add]
          simp only [hi, slot, e]
        · rw [puts_old _ _ _ _ _ hm]; exact h3 t hm
      rw [e]
      refine hend _ w (fun i hi hd => ?_) h4
      have hi' : l[i]? = some l[i] := List.getElem?_eq_getElem hi
      simp only [hi']
      obtain ⟨t, ht⟩ := Option.isSome_iff_exists.1 (hd _ hi')
      have hSi : S.getD i false = true := by
        have h1 := hS i
        have : i < S.size := by rw [hFit.size]; simpa using hi
        simp [this] at h1 ⊢; exact h1
      have := h5 i _ t hi' hSi ht
      unfold slot; rw [ht]; exact this
    have one : ∀ (S : Array Bool) (a : Act) (w : World) (K : Act → World → Prop), Stage.Fit .any l.toArray S → Inv S a w → ∀ i ∈ Region.ready .any l.toArray S, (∀ a' w', Inv (S.setIfInBounds i true) a' w' → K a' w') → wpOp P l.toArray Q i K a w := by
      rintro S a w K hFit ⟨h1, h2, h3, h4, h5⟩ i hi hK
      obtain ⟨hun, o, ho, hall⟩ := mem_ready.1 hi
      have hol : l[i]? = some o := by simpa using ho
      unfold wpOp
      simp only [ho]
      have hpre : ∀ j oj t, Region.waitsFor .any l.toArray i j = true → l[j]? = some oj → oj.dst = some t → V j (a.eval (.tmp t)) := by
        intro j oj t hwt hj hd
        have hc := Stage.came hi hwt
        have hSj : S.getD j false = true := by
          have hjl : j < S.size := by rw [hFit.size]; simpa using (List.getElem?_eq_some_iff.1 hj).1
          simp [hjl] at hc ⊢; exact hc
        exact h5 j oj t hj hSj hd
      have hs := hstep i o hol a w (fun t ht => h3 t ht) hpre h4
      have step : ∀ v w', (V i v ∧ F w') → K (a.put o.dst v) w' := by
        rintro v w' ⟨r1, r2⟩
        refine hK _ _ ⟨by rw [put_defers]; exact h1, by rw [put_size]; exact h2, fun t ht => ?_, r2, fun j oj t hj hSj hd => ?_⟩
        · rw [put_getD _ _ _ _ (fun e => ht (mem_dsts hol e))]; exact h3 t ht
        · by_cases hij : i = j
          · subst hij
            obtain rfl : oj = o := Option.some.inj (hj.symm.trans hol)
            rw [hd, put_getD_self _ _ _ (by rw [h2]; exact hlt' t (mem_dsts hj hd))]
            exact r1
          · rw [getD_set_ne false hij] at hSj
            rw [put_getD _ _ _ _ (fun e => hij (dst_ne hnd hol hj e hd))]
            exact h5 j oj t hj hSj hd
      rcases hs with ⟨hw, hs⟩ | ⟨hw, hs⟩
      case inr => rw [if_neg (by rw [hw]; exact Bool.false_ne_true)]; exact step _ _ hs
      rw [if_pos hw]
      refine .inl ?_
      unfold Oper.wp
      generalize (execOp a.eval o).run P w = r at hs
      cases r with
      | ok n w' =>
        cases n <;> simp only [gets] at hs <;> simp only [Oper.upon]
        case value u => exact step _ _ hs
        case skip => exact step _ _ hs
        case enter f args => exact hs.mono fun e w'' ⟨v, he, h⟩ => by subst he; exact step _ _ h
      | halt x w' => simp only [gets] at hs
    induction fuel with
    | zero =>
      intro S a w hn hFit hI
      have hS : ∀ i, S.getD i true = true := fun i => by rw [Stage.getD_toList]; exact Stage.all_of_count hn i
      refine ⟨?_, fin S a w hFit hS hI⟩
      cases hr : Region.ready .any l.toArray S with
      | nil => rfl
      | cons i r =>
        have := (mem_ready.1 (show i ∈ Region.ready .any l.toArray S by rw [hr]; simp)).1
        rw [hS i] at this; cases this
    | succ fuel ih =>
      intro S a w hn hFit hI
      refine ⟨fun h0 => ?_, fun i hi => ?_⟩
      · refine fin S a w hFit (fun i => ?_) hI
        induction i using Nat.strongRecOn with
        | _ i ihi =>
          cases hx : S.getD i true with
          | true => rfl
          | false =>
            exfalso
            have hil : i < l.length := by
              rcases Nat.lt_or_ge i S.size with h' | h'
              · rw [hFit.size] at h'; simpa using h'
              · simp [Array.getElem?_eq_none h'] at hx
            have hup := List.all_eq_true.1 hns i (List.mem_range.2 hil)
            rw [List.getElem?_eq_getElem hil] at hup
            have hr : i ∈ Region.ready .any l.toArray S := by
              refine mem_ready.2 ⟨hx, l[i], by simp [hil], fun e he hbe => ?_⟩
              have h1 : e.on < i := by
                have := Array.all_eq_true_iff_forall_mem.1 hup e he
                simpa [hbe] using this
              have h2 := ihi e.on h1
              have h3 : e.on < S.size := by rw [hFit.size]; simp; omega
              simp [h3] at h2 ⊢; exact h2
            rw [h0] at hr; cases hr
      · have hun := (mem_ready.1 hi).1
        have hc : (S.setIfInBounds i true).toList.count false = fuel := by
          rw [Array.toList_setIfInBounds]
          have := Stage.count_set (l := S.toList) (i := i) (by rw [← Stage.getD_toList]; exact hun)
          omega
        exact one S a w _ hFit hI i hi (fun a' w' hI' => ih _ a' w' hc (hFit.set hi) hI')
  refine wp_region_any hm (main _ _ _ _ (by simp) (by simpa using Stage.Fit.start (md := .any) (ops := l.toArray)) ⟨rfl, rfl, fun _ _ => rfl, hF, fun i o t _ h _ => ?_⟩)
  rw [getD_replicate_false] at h; cases h

theorem getD_bool {t : Tmp} {b : Bool} {T : Array Value} (h : T.getD t undef = .bool b) : T[t]? = some (.bool b) := by
  rcases Nat.lt_or_ge t T.size with h' | h'
  · simp [h'] at h ⊢; exact h
  · simp [h', undef] at h
theorem getD_undef {t : Tmp} {T : Array Value} (h : T.getD t undef = undef) : T[t]? = some undef ∨ T[t]? = none := by
  rcases Nat.lt_or_ge t T.size with h' | h'
  · left; simp [h'] at h ⊢; exact h
  · right; simp [h']
section
variable {l : List Oper} {a : Act} {o oj : Oper} {w : World} {K : Value → World → Prop} {j : Nat} {t : Tmp} {want b : Bool}
theorem c_all (hg : o.guard = none) (h : gets P K ((execOp a.eval o).run P w)) : Comes P l a o w K := .inl ⟨by simp [Region.wanted, hg], h⟩
theorem c_yes (hg : o.guard = some (j, want)) (hj : l[j]? = some oj) (hd : oj.dst = some t) (hv : a.eval (.tmp t) = .bool want) (h : gets P K ((execOp a.eval o).run P w)) : Comes P l a o w K := by
  have hv' : a.tmps.getD t undef = .bool want := hv
  refine .inl ⟨?_, h⟩
  simp [Region.wanted, hg, yielded, hj, hd, getD_bool hv']
theorem c_no (hg : o.guard = some (j, want)) (hj : l[j]? = some oj) (hd : oj.dst = some t) (hv : a.eval (.tmp t) = .bool (!want)) (h : K undef w) : Comes P l a o w K := by
  have hv' : a.tmps.getD t undef = .bool (!want) := hv
  refine .inr ⟨?_, h⟩
  simp [Region.wanted, hg, yielded, hj, hd, getD_bool hv']
theorem c_none (hg : o.guard = some (j, want)) (hj : l[j]? = some oj) (hd : oj.dst = some t) (hv : a.eval (.tmp t) = undef) (h : K undef w) : Comes P l a o w K := by
  have hv' : a.tmps.getD t undef = undef := hv
  refine .inr ⟨?_, h⟩
  rcases getD_undef hv' with e | e
  · simp [Region.wanted, hg, yielded, hj, hd, e, undef]
  · simp [Region.wanted, hg, yielded, hj, hd, e]
end
section
variable {K : Value → World → Prop} {a : Act} {o : Oper} {w w' : World}
theorem g_len {v p : Value} (x : Operand) (t : TypeId) (ho : o.op = .call { callee := .builtin .len, args := #[x], argTypes := #[t] }) (hx : a.eval x = p) (hr : (Builtin.len_ #[t] o.type #[p]).run P w = .ok v w') (h : K v w') : gets P K ((execOp a.eval o).run P w) := by
  unfold execOp
  simp only [ho, resolve, invoke, builtin, Sem.run_bind, Sem.run_pure, Result.andThen_ok, List.map_toArray, List.map_cons, List.map_nil, hx, hr, gets]
  exact h
theorem g_pick {u v : Value} {b : Bool} (c x y : Operand) (ho : o.op = .pick c x y) (hc : a.eval c = .bool b) (hx : a.eval x = u) (hy : a.eval y = v) (h : K (if b then u else v) w) : gets P K ((execOp a.eval o).run P w) := by
  unfold execOp
  simp only [ho, hc, hx, hy, Sem.run_bind, asBool, Sem.run_pure, Result.andThen_ok, gets]
  exact h
end
section
variable (w : World) (x y : Operand)
theorem r_eql (t : TypeId) (k : IntKind) (m n : Int) : (do eqGuard .eql t x y (.int k m) (.int k n); binOp .eql t (.int k m) (.int k n) : Sem Value).run P w = .ok (.bool (m == n)) w := by simp [go_sem]
theorem r_neq (t : TypeId) (k : IntKind) (m n : Int) : (do eqGuard .neq t x y (.int k m) (.int k n); binOp .neq t (.int k m) (.int k n) : Sem Value).run P w = .ok (.bool (m != n)) w := by simp [go_sem]
theorem r_gtr (t : TypeId) (k : IntKind) (m n : Int) : (do eqGuard .gtr t x y (.int k m) (.int k n); binOp .gtr t (.int k m) (.int k n) : Sem Value).run P w = .ok (.bool (decide (m > n))) w := by simp [go_sem]
theorem r_add (t : TypeId) (k : IntKind) (m n : Int) : (do eqGuard .add t x y (.int k m) (.int k n); binOp .add t (.int k m) (.int k n) : Sem Value).run P w = .ok (.int k (k.wrap (m + n))) w := by simp [go_sem]
end
end
end Free
end Go.Proofs.Ytcdofkhkckodjaa
