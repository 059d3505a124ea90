/- Free, Conv, VrBytes, VrPut, VrRefPut -/
import Derived.Test.YtkhmefbmffpkcaaCa2
import Derived.Test.YtkhmefbmffpkcaaCa1
import Derived.Test.YtkhmefbmffpkcaaCa3
import Derived.Laws.IdiomStrings
import Derived.Laws.Strings
import Derived.Test.YtkhmefbmffpkcaaCa4
namespace Go.Proofs.Ytkhmefbmffpkcaa
set_option linter.unusedVariables false
section
namespace Free
section
variable {P : Program}

/-- what an operation yields -/
def gets (P : Program) (K : Value → World → Prop) : Result Next → Prop
  | .ok (.value u) w' => K u w'
  | .ok .skip w' => K undef w'
  | .ok (.enter f args) w' => Calls P f args w' (fun e w'' => ∃ v, e = .returned v ∧ K v w'')
  | _ => False
def dsts (l : List Oper) : List Tmp := l.filterMap (·.dst)
/-- what an operation waits for stands ahead of it -/
def upB (l : List Oper) : Bool := (List.range l.length).all fun i => match l[i]? with | some o => o.after.all fun e => !Region.binds .any e || decide (e.on < i) | none => true
def okB (l : List Oper) (n : Nat) : Bool := upB l && l.all (fun o => o.guard.isNone) && decide (dsts l).Nodup && (dsts l).all (fun t => decide (t < n))
def slot (a : Act) (o : Oper) : Value := match o.dst with | some t => a.tmps.getD t undef | none => undef
def puts (a : Act) : List Oper → Nat → (Nat → Value) → Act
  | [], _, _ => a
  | o :: l, k, vs => puts (a.put o.dst (vs k)) l (k + 1) vs

theorem put_getD (a : Act) (d : Option Tmp) (v : Value) (t : Nat) (h : d ≠ some t) : (a.put d v).tmps.getD t undef = a.tmps.getD t undef := by
  unfold Act.put
  cases d with
  | none => rfl
  | some d =>
    have : d ≠ t := fun e => h (by rw [e])
    simp [Array.getElem?_setIfInBounds_ne this]
theorem put_getD_self (a : Act) (t : Nat) (v : Value) (h : t < a.tmps.size) : (a.put (some t) v).tmps.getD t undef = v := by simp [Act.put, h]
theorem put_size (a : Act) (d : Option Tmp) (v : Value) : (a.put d v).tmps.size = a.tmps.size := by unfold Act.put; cases d <;> simp
theorem put_defers (a : Act) (d : Option Tmp) (v : Value) : (a.put d v).defers = a.defers := by unfold Act.put; cases d <;> rfl
theorem puts_size (l : List Oper) : ∀ (a : Act) (k : Nat) (vs : Nat → Value), (puts a l k vs).tmps.size = a.tmps.size ∧ (puts a l k vs).defers = a.defers := by
  induction l with
  | nil => intro a k vs; exact ⟨rfl, rfl⟩
  | cons o l ih => intro a k vs; have := ih (a.put o.dst (vs k)) (k + 1) vs; rw [put_size, put_defers] at this; exact this
theorem mem_dsts {l : List Oper} {i : Nat} {o : Oper} {t : Tmp} (h : l[i]? = some o) (ht : o.dst = some t) : t ∈ dsts l := List.mem_filterMap.2 ⟨o, List.mem_of_getElem? h, ht⟩
theorem puts_old (l : List Oper) : ∀ (a : Act) (k : Nat) (vs : Nat → Value) (t : Nat), t ∉ dsts l → (puts a l k vs).tmps.getD t undef = a.tmps.getD t undef := by
  induction l with
  | nil => intro a k vs t _; rfl
  | cons o l ih =>
    intro a k vs t ht
    rw [puts, ih _ _ _ _ (fun h => ht (by obtain ⟨o', ho', e⟩ := List.mem_filterMap.1 h; exact List.mem_filterMap.2 ⟨o', List.mem_cons_of_mem _ ho', e⟩)),
      put_getD _ _ _ _ (fun e => ht (List.mem_filterMap.2 ⟨o, by simp, e⟩))]
theorem puts_new (l : List Oper) : ∀ (a : Act) (k : Nat) (vs : Nat → Value) (i : Nat) (o : Oper) (t : Nat), (dsts l).Nodup → l[i]? = some o → o.dst = some t → t < a.tmps.size → (puts a l k vs).tmps.getD t undef = vs (k + i) := by
  induction l with
  | nil => intro a k vs i o t _ h; simp at h
  | cons o l ih =>
    intro a k vs i o' t hnd hi ht hlt
    rw [puts]
    cases i with
    | zero =>
      simp at hi; subst hi
      have hd : dsts (o :: l) = t :: dsts l := by simp [dsts, ht]
      rw [hd, List.nodup_cons] at hnd
      rw [puts_old _ _ _ _ _ hnd.1, ht, put_getD_self _ _ _ hlt]; rfl
    | succ i =>
      have hnd' : (dsts l).Nodup := by
        cases hd : o.dst with
        | none => have : dsts (o :: l) = dsts l := by simp [dsts, hd]
                  rwa [this] at hnd
        | some d => have : dsts (o :: l) = d :: dsts l := by simp [dsts, hd]
                    rw [this, List.nodup_cons] at hnd; exact hnd.2
      rw [ih _ _ _ i o' t hnd' (by simpa using hi) ht (by rw [put_size]; exact hlt)]
      congr 1; omega
theorem act_ext {a b : Act} (hd : a.defers = b.defers) (hs : a.tmps.size = b.tmps.size) (h : ∀ t, t < a.tmps.size → a.tmps.getD t undef = b.tmps.getD t undef) : a = b := by
  obtain ⟨ta, da⟩ := a
  obtain ⟨tb, db⟩ := b
  simp only at hd hs h
  subst hd
  congr 1
  apply Array.ext hs
  intro i h1 h2
  have := h i h1
  simpa [h1, h2] using this
theorem dst_ne {l : List Oper} (hnd : (dsts l).Nodup) : ∀ {i j : Nat} {oi oj : Oper} {t : Tmp}, l[i]? = some oi → l[j]? = some oj → oi.dst = some t → oj.dst = some t → i = j := by
  induction l with
  | nil => intro i j oi oj t h; simp at h
  | cons o l ih =>
    intro i j oi oj t hi hj hti htj
    have key : ∀ {k : Nat} {ok : Oper}, l[k]? = some ok → ok.dst = some t → o.dst = some t → False := by
      intro k ok hk h1 h2
      have hd : dsts (o :: l) = t :: dsts l := by simp [dsts, h2]
      have hnd2 := hnd
      rw [hd, List.nodup_cons] at hnd2
      exact hnd2.1 (mem_dsts hk h1)
    have hnd' : (dsts l).Nodup := by
      cases hd : o.dst with
      | none => have : dsts (o :: l) = dsts l := by simp [dsts, hd]
                rwa [this] at hnd
      | some d => have : dsts (o :: l) = d :: dsts l := by simp [dsts, hd]
                  rw [this, List.nodup_cons] at hnd; exact hnd.2
    cases i with
    | zero =>
      cases j with
      | zero => rfl
      | succ j => simp at hi hj; subst hi; exact (key hj htj hti).elim
    | succ i =>
      cases j with
      | zero => simp at hi hj; subst hj; exact (key hi hti htj).elim
      | succ j => exact congrArg (· + 1) (ih hnd' (i := i) (j := j) (by simpa using hi) (by simpa using hj) hti htj)

/-- EACH ORDER, BY A RELATION OF EACH OPERATION'S VALUE -/
theorem wp_region {id : Nat} {Q : Exit → Act → World → Prop} {a0 : Act} {w0 : World} {l : List Oper} (hm : P.follows .mixedOrders = true) (hB : okB l a0.tmps.size = true)
    (F : World → Prop) (R : Nat → Value → World → Prop) (hF : F w0.drew)
    (hstep : ∀ i o, l[i]? = some o → ∀ (a : Act) (w : World), (∀ t, t ∉ dsts l → a.eval (.tmp t) = a0.eval (.tmp t)) →
      (∀ j oj t, Region.waitsFor .any l.toArray i j = true → l[j]? = some oj → oj.dst = some t → R j (a.eval (.tmp t)) w) → F w →
      gets P (fun v w' => R i v w' ∧ F w' ∧ ∀ j u, R j u w → R j u w') ((execOp a.eval o).run P w))
    (hend : ∀ (vs : Nat → Value) (w' : World), (∀ i, i < l.length → (∀ o, l[i]? = some o → o.dst.isSome = true) → R i (vs i) w') → F w' → Q .normal (puts a0 l 0 vs) w') : (Code.region id l.toArray true).wp P Q a0 w0 := by
  simp only [okB, Bool.and_eq_true, decide_eq_true_eq] at hB
  obtain ⟨⟨⟨hns, hgd⟩, hnd⟩, hlt⟩ := hB
  have hlt' : ∀ t ∈ dsts l, t < a0.tmps.size := fun t ht => by simpa using List.all_eq_true.1 hlt t ht
  let Inv : Array Bool → Act → World → Prop := fun S a w => a.defers = a0.defers ∧ a.tmps.size = a0.tmps.size ∧ (∀ t, t ∉ dsts l → a.tmps.getD t undef = a0.tmps.getD t undef) ∧ F w ∧
    ∀ i o t, l[i]? = some o → S.getD i false = true → o.dst = some t → R i (a.tmps.getD t undef) w
  have main : ∀ (fuel : Nat) (S : Array Bool) (a : Act) (w : World), S.toList.count false = fuel → Stage.Fit .any l.toArray S → Inv S a w → wpAny P .any l.toArray Q fuel S a w := by
    intro fuel
    have fin : ∀ (S : Array Bool) (a : Act) (w : World), Stage.Fit .any l.toArray S → (∀ i, S.getD i true = true) → Inv S a w → Q .normal a w := by
      rintro S a w hFit hS ⟨h1, h2, h3, h4, h5⟩
      have e : a = puts a0 l 0 (fun i => match l[i]? with | some o => slot a o | none => undef) := by
        have hp := puts_size l a0 0 (fun i => match l[i]? with | some o => slot a o | none => undef)
        refine act_ext (h1.trans hp.2.symm) (h2.trans hp.1.symm) (fun t ht => ?_)
        by_cases hm : t ∈ dsts l
        · obtain ⟨o, ho, e⟩ := List.mem_filterMap.1 hm
          obtain ⟨i, hi⟩ := List.getElem?_of_mem ho
          rw [puts_new l a0 0 _ i o t hnd hi e (hlt' t hm), Nat.zero_add]
          simp only [hi, slot, e]
        · rw [puts_old _ _ _ _ _ hm]; exact h3 t hm
      rw [e]
      refine hend _ w (fun i hi hd => ?_) h4
      have hi' : l[i]? = some l[i] := List.getElem?_eq_getElem hi
      simp only [hi']
      obtain ⟨t, ht⟩ := Option.isSome_iff_exists.1 (hd _ hi')
      have hSi : S.getD i false = true := by
        have h1 := hS i
        have : i < S.size := by rw [hFit.size]; simpa using hi
        simp [this] at h1 ⊢; exact h1
      have := h5 i _ t hi' hSi ht
      unfold slot; rw [ht]; exact this
    have one : ∀ (S : Array Bool) (a : Act) (w : World) (K : Act → World → Prop), Stage.Fit .any l.toArray S → Inv S a w → ∀ i ∈ Region.ready .any l.toArray S, (∀ a' w', Inv (S.setIfInBounds i true) a' w' → K a' w') → wpOp P l.toArray Q i K a w := by
      rintro S a w K hFit ⟨h1, h2, h3, h4, h5⟩ i hi hK
      obtain ⟨hun, o, ho, hall⟩ := mem_ready.1 hi
      have hol : l[i]? = some o := by simpa using ho
      unfold wpOp
      simp only [ho]
      have hw : Region.wanted o (yielded l.toArray a.tmps) = true := by
        have := List.all_eq_true.1 hgd o (List.mem_of_getElem? hol)
        have hn : o.guard = none := by simpa using this
        simp [Region.wanted, hn]
      rw [if_pos hw]
      refine .inl ?_
      have hpre : ∀ j oj t, Region.waitsFor .any l.toArray i j = true → l[j]? = some oj → oj.dst = some t → R j (a.eval (.tmp t)) w := by
        intro j oj t hwt hj hd
        have hc := Stage.came hi hwt
        have hSj : S.getD j false = true := by
          have hjl : j < S.size := by rw [hFit.size]; simpa using (List.getElem?_eq_some_iff.1 hj).1
          simp [hjl] at hc ⊢; exact hc
        exact h5 j oj t hj hSj hd
      have hs := hstep i o hol a w (fun t ht => h3 t ht) hpre h4
      have step : ∀ v w', (R i v w' ∧ F w' ∧ ∀ j u, R j u w → R j u w') → K (a.put o.dst v) w' := by
        rintro v w' ⟨r1, r2, r3⟩
        refine hK _ _ ⟨by rw [put_defers]; exact h1, by rw [put_size]; exact h2, fun t ht => ?_, r2, fun j oj t hj hSj hd => ?_⟩
        · rw [put_getD _ _ _ _ (fun e => ht (mem_dsts hol e))]; exact h3 t ht
        · by_cases hij : i = j
          · subst hij
            obtain rfl : oj = o := Option.some.inj (hj.symm.trans hol)
            rw [hd, put_getD_self _ _ _ (by rw [h2]; exact hlt' t (mem_dsts hj hd))]
            exact r1
          · rw [getD_set_ne false hij] at hSj
            rw [put_getD _ _ _ _ (fun e => hij (dst_ne hnd hol hj e hd))]
            exact r3 j _ (h5 j oj t hj hSj hd)
      unfold Oper.wp
      generalize (execOp a.eval o).run P w = r at hs
      cases r with
      | ok n w' =>
        cases n <;> simp only [gets] at hs <;> simp only [Oper.upon]
        case value u => exact step _ _ hs
        case skip => exact step _ _ hs
        case enter f args => exact hs.mono fun e w'' ⟨v, he, h⟩ => by subst he; exact step _ _ h
      | halt x w' => simp only [gets] at hs
    induction fuel with
    | zero =>
      intro S a w hn hFit hI
      have hS : ∀ i, S.getD i true = true := fun i => by rw [Stage.getD_toList]; exact Stage.all_of_count hn i
      refine ⟨?_, fin S a w hFit hS hI⟩
      cases hr : Region.ready .any l.toArray S with
      | nil => rfl
      | cons i r =>
        have := (mem_ready.1 (show i ∈ Region.ready .any l.toArray S by rw [hr]; simp)).1
        rw [hS i] at this; cases this
    | succ fuel ih =>
      intro S a w hn hFit hI
      refine ⟨fun h0 => ?_, fun i hi => ?_⟩
      · refine fin S a w hFit (fun i => ?_) hI
        induction i using Nat.strongRecOn with
        | _ i ihi =>
          cases hx : S.getD i true with
          | true => rfl
          | false =>
            exfalso
            have hil : i < l.length := by
              rcases Nat.lt_or_ge i S.size with h' | h'
              · rw [hFit.size] at h'; simpa using h'
              · simp [Array.getElem?_eq_none h'] at hx
            have hup := List.all_eq_true.1 hns i (List.mem_range.2 hil)
            rw [List.getElem?_eq_getElem hil] at hup
            have hr : i ∈ Region.ready .any l.toArray S := by
              refine mem_ready.2 ⟨hx, l[i], by simp [hil], fun e he hbe => ?_⟩
              have h1 : e.on < i := by
                have := Array.all_eq_true_iff_forall_mem.1 hup e he
                simpa [hbe] using this
              have h2 := ihi e.on h1
              have h3 : e.on < S.size := by rw [hFit.size]; simp; omega
              simp [h3] at h2 ⊢; exact h2
            rw [h0] at hr; cases hr
      · have hun := (mem_ready.1 hi).1
        have hc : (S.setIfInBounds i true).toList.count false = fuel := by
          rw [Array.toList_setIfInBounds]
          have := Stage.count_set (l := S.toList) (i := i) (by rw [← Stage.getD_toList]; exact hun)
          omega
        exact one S a w _ hFit hI i hi (fun a' w' hI' => ih _ a' w' hc (hFit.set hi) hI')
  refine wp_region_any hm (main _ _ _ _ (by simp) (by simpa using Stage.Fit.start (md := .any) (ops := l.toArray)) ⟨rfl, rfl, fun _ _ => rfl, hF, fun i o t _ h _ => ?_⟩)
  rw [getD_replicate_false] at h; cases h
/-- the same where nothing that was there is written -/
theorem wp_grow {id : Nat} {Q : Exit → Act → World → Prop} {a0 : Act} {w0 : World} {l : List Oper} (hm : P.follows .mixedOrders = true) (hB : okB l a0.tmps.size = true)
    (R : Nat → Value → World → Prop) (hR : ∀ j u w w', RowKit.Below w.heap.size w w' → R j u w → R j u w')
    (hstep : ∀ i o, l[i]? = some o → ∀ (a : Act) (w : World), (∀ t, t ∉ dsts l → a.eval (.tmp t) = a0.eval (.tmp t)) →
      (∀ j oj t, Region.waitsFor .any l.toArray i j = true → l[j]? = some oj → oj.dst = some t → R j (a.eval (.tmp t)) w) → RowKit.Below w0.heap.size w0 w →
      gets P (fun v w' => R i v w' ∧ RowKit.Below w.heap.size w w') ((execOp a.eval o).run P w))
    (hend : ∀ (vs : Nat → Value) (w' : World), (∀ i, i < l.length → (∀ o, l[i]? = some o → o.dst.isSome = true) → R i (vs i) w') → RowKit.Below w0.heap.size w0 w' → Q .normal (puts a0 l 0 vs) w') : (Code.region id l.toArray true).wp P Q a0 w0 := by
  refine wp_region hm hB (fun w => RowKit.Below w0.heap.size w0 w) R (RowKit.Below.refl _ _).drew (fun i o hi a w h1 h2 h3 => ?_) hend
  have hs := hstep i o hi a w h1 h2 h3
  generalize (execOp a.eval o).run P w = r at hs
  have key : ∀ v w', (R i v w' ∧ RowKit.Below w.heap.size w w') → R i v w' ∧ RowKit.Below w0.heap.size w0 w' ∧ ∀ j u, R j u w → R j u w' := fun v w' ⟨k1, k2⟩ =>
    ⟨k1, h3.trans (k2.mono h3.size), fun j u hj => hR j u w w' k2 hj⟩
  cases r with
  | ok n w' =>
    cases n <;> simp only [gets] at hs ⊢
    case value u => exact key _ _ hs
    case skip => exact key _ _ hs
    case enter f args => exact hs.mono fun e w'' ⟨v, he, h⟩ => ⟨v, he, key _ _ h⟩
  | halt x w' => simp only [gets] at hs

section
variable {K : Value → World → Prop} {a : Act} {o : Oper} {w w' : World}
theorem g_move (x : Operand) (ho : o.op = .move x) (h : K (a.eval x) w) : gets P K ((execOp a.eval o).run P w) := by
  unfold execOp; simp only [ho, Sem.run_pure, gets]; exact h
theorem g_assign (x : Operand) (ho : o.op = .assign x) (h : K (a.eval x) w) : gets P K ((execOp a.eval o).run P w) := by
  unfold execOp; simp only [ho, Sem.run_pure, gets]; exact h
theorem g_load {v p : Value} (t : TypeId) (x : Operand) (ho : o.op = .load t x) (hx : a.eval x = p) (hr : (Instr.loadAt t p).run P w = .ok v w') (h : K v w') : gets P K ((execOp a.eval o).run P w) := by
  unfold execOp; simp only [ho, hx, Sem.run_bind, hr, Result.andThen_ok, Sem.run_pure, gets]; exact h
theorem g_field {v p : Value} (t : TypeId) (x : Operand) (f : Nat) (ho : o.op = .fieldAddr t x f) (hx : a.eval x = p) (hr : (Instr.fieldAt t p f).run P w = .ok v w') (h : K v w') : gets P K ((execOp a.eval o).run P w) := by
  unfold execOp; simp only [ho, hx, Sem.run_bind, hr, Result.andThen_ok, Sem.run_pure, gets]; exact h
theorem g_indexAddr {v p q : Value} (t : TypeId) (x y : Operand) (ho : o.op = .indexAddr t x y) (hx : a.eval x = p) (hy : a.eval y = q) (hr : (Instr.indexAt t p q).run P w = .ok v w') (h : K v w') : gets P K ((execOp a.eval o).run P w) := by
  unfold execOp; simp only [ho, hx, hy, Sem.run_bind, hr, Result.andThen_ok, Sem.run_pure, gets]; exact h
theorem g_convert {v p : Value} (s t : TypeId) (x : Operand) (ho : o.op = .convert s t x) (hx : a.eval x = p) (hr : (convert s t p).run P w = .ok v w') (h : K v w') : gets P K ((execOp a.eval o).run P w) := by
  unfold execOp; simp only [ho, hx, Sem.run_bind, hr, Result.andThen_ok, Sem.run_pure, gets]; exact h
theorem g_bin {v p q : Value} (op : BinOp) (t u : TypeId) (x y : Operand) (ho : o.op = .binOp op t x y u) (hx : a.eval x = p) (hy : a.eval y = q) (hr : (do eqGuard op t x y p q; binOp op t p q : Sem Value).run P w = .ok v w') (h : K v w') : gets P K ((execOp a.eval o).run P w) := by
  unfold execOp; simp only [ho, hx, hy]; rw [Sem.run_bind, hr]; simp only [Result.andThen_ok, Sem.run_pure, gets]; exact h
theorem g_build (t : TypeId) (parts : Array (Nat × Operand)) (ho : o.op = .build t parts) (cells : Array Value) (vs : List (Nat × Value)) (hv : (parts.toList.map fun (i, x) => (i, a.eval x)) = vs) (hb : P.built t vs = some cells) (h : K (.agg cells) w) : gets P K ((execOp a.eval o).run P w) := by
  subst hv
  have hr := run_build (P := P) w t (parts.map fun (i, x) => (i, a.eval x)) cells (by rw [Array.toList_map]; exact hb)
  unfold execOp
  simp only [ho, Sem.run_bind, hr, Result.andThen_ok, Sem.run_pure, gets]; exact h
theorem g_box (t : TypeId) (x : Operand) (ho : o.op = .box t x) (p : Value) (hx : a.eval x = p) (h : K (.pointer (some ⟨w.heap.size, 0, none⟩)) (w.alloc (.cells p.cells t))) : gets P K ((execOp a.eval o).run P w) := by
  unfold execOp
  have hr : (Instr.box t p).run P w = .ok (.pointer (some ⟨w.heap.size, 0, none⟩)) (w.alloc (.cells p.cells t)) := by
    simp [Instr.box, newVar, newRow, newObj, Sem.run_bind]
    rfl
  simp only [ho, hx, Sem.run_bind, hr, Result.andThen_ok, Sem.run_pure, gets]; exact h
theorem run_enter {f : FuncId} {fn : Func} {c : Code} (hf : P.funcs[f]? = some fn) (hname : (fn.name == "runtime.NumGoroutine") = false) (hb : fn.body = some c) (args : Array Value) (w : World) :
    (callFunc f args).run P w = .ok (.enter f args) w := by
  have h1 : fn.name ≠ "runtime.NumGoroutine" := by simpa using hname
  simp [callFunc, hf, h1, hb]
theorem g_call {f : FuncId} {fn : Func} {c : Code} (args : Array Operand) (ats : Array TypeId) (ho : o.op = .call { callee := .value (.func f), args := args, argTypes := ats }) (hf : P.funcs[f]? = some fn) (hname : (fn.name == "runtime.NumGoroutine") = false) (hb : fn.body = some c)
    (vs : List Value) (hv : args.toList.map a.eval = vs) (h : Calls P f vs.toArray w (fun e w'' => ∃ v, e = .returned v ∧ K v w'')) : gets P K ((execOp a.eval o).run P w) := by
  have hv' : args.map a.eval = vs.toArray := by rw [← hv]; apply Array.ext'; simp
  have hr := run_enter (P := P) hf hname hb (vs.toArray) w
  unfold execOp
  simp only [ho, resolve, hv', Act.eval, Deferred.ofValue, Sem.run_bind, Sem.run_pure, Result.andThen_ok, invoke, Array.append_empty, Array.empty_append, hr, gets]
  exact h
theorem at_call {C : World → Prop} {v : Value} {f : FuncId} {fn : Func} {c : Code} (args : Array Operand) (ats : Array TypeId) (ho : o.op = .call { callee := .value (.func f), args := args, argTypes := ats }) (hf : P.funcs[f]? = some fn) (hname : (fn.name == "runtime.NumGoroutine") = false) (hb : fn.body = some c)
    (vs : List Value) (hv : args.toList.map a.eval = vs) (h : Calls P f vs.toArray w (fun e w'' => e = .returned v ∧ C w'')) : Stage.at_ P o a C w v := by
  have hv' : args.map a.eval = vs.toArray := by rw [← hv]; apply Array.ext'; simp
  have hr := run_enter (P := P) hf hname hb (vs.toArray) w
  unfold Stage.at_ execOp
  simp only [ho, resolve, hv', Act.eval, Deferred.ofValue, Sem.run_bind, Sem.run_pure, Result.andThen_ok, invoke, Array.append_empty, Array.empty_append, hr, Stage.upon]
  exact h
theorem at_load {C : World → Prop} {v p : Value} (t : TypeId) (x : Operand) (ho : o.op = .load t x) (hx : a.eval x = p) (hr : (Instr.loadAt t p).run P w = .ok v w) (h : C w) : Stage.at_ P o a C w v := by
  unfold Stage.at_ execOp; simp only [ho, hx, Sem.run_bind, hr, Result.andThen_ok, Sem.run_pure, Stage.upon]; exact ⟨trivial, h⟩
theorem at_convert {C : World → Prop} {v p : Value} (s t : TypeId) (x : Operand) (ho : o.op = .convert s t x) (hx : a.eval x = p) (hr : (convert s t p).run P w = .ok v w) (h : C w) : Stage.at_ P o a C w v := by
  unfold Stage.at_ execOp; simp only [ho, hx, Sem.run_bind, hr, Result.andThen_ok, Sem.run_pure, Stage.upon]; exact ⟨trivial, h⟩
end
end
end Free
end

section
open Go.RowKit
/-- a string's bytes -/
def bl (b : ByteArray) : List Nat := b.data.toList.map UInt8.toNat
theorem bl_len (b : ByteArray) : (bl b).length = b.size := by unfold bl; rw [List.length_map, Array.length_toList]; rfl
theorem bl_lt (b : ByteArray) : ∀ x ∈ bl b, x < 256 := by
  intro x hx
  obtain ⟨u, _, rfl⟩ := List.mem_map.1 hx
  exact u.toNat_lt
theorem strOf_bl (b : ByteArray) : strOf (bl b) = b := by
  apply ByteArray.ext
  apply Array.ext'
  simp only [strOf, strOfNums_data, bl, List.map_map]
  conv => rhs; rw [← List.map_id b.data.toList]
  apply List.map_congr_left
  intro u _
  simp
theorem bl_strOf (xs : List Nat) (h : ∀ x ∈ xs, x < 256) : bl (strOf xs) = xs := by
  unfold bl
  simp only [strOf, strOfNums_data, List.map_map]
  conv => rhs; rw [← List.map_id xs]
  apply List.map_congr_left
  intro x hx
  have := h x hx
  simp; omega
theorem strOf_size (xs : List Nat) : (strOf xs).size = xs.length := by
  show (strOf xs).data.size = _
  have : (strOf xs).data.toList.length = xs.length := by simp only [strOf, strOfNums_data, List.length_map]
  simpa using this
theorem strOf_append (xs ys : List Nat) : strOf (xs ++ ys) = strOf xs ++ strOf ys := by
  apply ByteArray.ext
  apply Array.ext'
  simp [strOf, strOfNums_data]
theorem str_eql (a b : ByteArray) : (a.toList == b.toList) = decide (a = b) := by
  rw [ByteArray.toList_eq, ByteArray.toList_eq, Bool.eq_iff_iff, beq_iff_eq, decide_eq_true_iff]
  exact ⟨fun h => ByteArray.ext (Array.ext' h), fun h => by rw [h]⟩
section
variable {P : Program} {src dst e : TypeId}
theorem run_tobytes (w : World) (s : ByteArray) (hs : P.underlying src = some .string) (hd : P.underlying dst = some (.slice e)) (he : P.underlying e = some (.int .u8)) (hm : s.size ≤ maxLen) :
    ∃ c w', (convert src dst (.string s)).run P w = .ok (.slice (some ⟨w.heap.size, 0, none⟩) s.size c) w' ∧ Bytes w' (some ⟨w.heap.size, 0, none⟩) (bl s) ∧ Below w.heap.size w w' ∧ s.size ≤ c ∧ c ≤ maxLen ∧ w.heap.size < w'.heap.size := by
  refine ⟨_, _, run_bytes_of_string w src dst e s hs hd he, ⟨bl_lt s, fun _ => ⟨_, rfl, by simp, fun j x hj => ?_⟩⟩, (Below.refl _ _).drew.alloc (Nat.le_refl _) _, grownCap_ge _ _ _ _, grownCap_le_maxLen _ _ _ _ hm, by simp⟩
  have hj2 : j < s.size := by rw [← bl_len]; exact (List.getElem?_eq_some_iff.1 hj).1
  rw [add_zero_off, cell_of_row _ w.heap.size j _ e _ (heap_alloc_new w.drew _)]
  unfold bytesRow
  have h1 : j < s.data.size := hj2
  have hx : x = (s.data[j]).toNat := by
    unfold bl at hj
    rw [List.getElem?_map] at hj
    rw [Array.getElem?_toList, Array.getElem?_eq_getElem h1] at hj
    simpa using hj.symm
  subst hx
  rw [Array.getElem?_append_left (by simpa using h1), Array.getElem?_map, Array.getElem?_eq_getElem h1]
  rfl
theorem wpList_tobytes {w : World} {ops : Array Oper} {rest : List Oper} {o : Oper} {a : Act} {Q : Exit → Act → World → Prop} (hgd : o.guard = none) (x : Operand) (ho : o.op = .convert src dst x)
    (hs : P.underlying src = some .string) (hd : P.underlying dst = some (.slice e)) (he : P.underlying e = some (.int .u8)) (s : ByteArray) (hx : a.eval x = .string s) (hm : s.size ≤ maxLen)
    (h : ∀ c w', Bytes w' (some ⟨w.heap.size, 0, none⟩) (bl s) → Below w.heap.size w w' → s.size ≤ c → c ≤ maxLen → w.heap.size < w'.heap.size → wpList P ops Q rest (a.put o.dst (.slice (some ⟨w.heap.size, 0, none⟩) s.size c)) w') : wpList P ops Q (o :: rest) a w := by
  obtain ⟨c, w', hr, h1, h2, h3, h4, h5⟩ := run_tobytes (P := P) w s hs hd he hm
  refine wpList_plain hgd fun K hK => ?_
  unfold Oper.wp execOp
  simp only [ho, hx, Sem.run_bind, hr, Result.andThen_ok, Sem.run_pure, Oper.upon]
  exact hK _ _ (h c w' h1 h2 h3 h4 h5)
/-- s + t -/
theorem run_add_str (w : World) (t : TypeId) (x y : Operand) (a b : ByteArray) (ht : P.underlying t = some .string) (h : a.size + b.size ≤ 9223372036854775807) :
    (do eqGuard .add t x y (.string a) (.string b); binOp .add t (.string a) (.string b) : Sem Value).run P w = .ok (.string (a ++ b)) w := by
  simp [go_sem, eqGuard, binOp, run_underlying ht, Op.stringOp]
  omega
end
end

section
namespace Vr
open Go.ChangeShapes Go.WideShapes Go.ChangeAt Go.RowKit Go.BigFrame
set_option maxRecDepth 100000
def kindB : Kind Nat := ⟨fun x => [.int .u8 (x : Nat)], 1, fun _ => rfl, fun t u hu => by simp only [List.mem_singleton] at hu; subst hu; rfl, by decide⟩
theorem infoU8 : (Try.prog.info? 5).map (fun i => (i.zero, i.size, i.bytes)) = some (some (.int .u8 0), 1, 1) := by kernel_rfl
theorem plain_addr {w : World} {a : Addr} {v : Value} (h : w.cell? a = some v) : ∃ b off, a = ⟨b, off, none⟩ := by
  obtain ⟨b, off, spot⟩ := a
  refine ⟨b, off, ?_⟩
  cases spot with
  | none => rfl
  | some s =>
    unfold World.cell? at h
    split at h
    · simp at h
    · cases h
theorem row_read {α : Type} {κ : Kind α} {f : Nat → Option Value} : ∀ {ts : List α}, (∀ (i : Nat) (t : α), ts[i]? = some t → ∀ (j : Nat) (u : Value), (κ.cells t)[j]? = some u → f (i * κ.K + j) = some u) → ∀ (j : Nat) (u : Value), (Rw.row κ ts)[j]? = some u → f j = some u := by
  intro ts
  induction ts generalizing f with
  | nil => intro _ j u h; simp [Rw.row] at h
  | cons t ts ih =>
    intro h j u hj
    rw [Rw.row_cons] at hj
    by_cases hlt : j < κ.K
    · rw [List.getElem?_append_left (by rw [κ.len]; exact hlt)] at hj
      have := h 0 t rfl j u hj
      rwa [Nat.zero_mul, Nat.zero_add] at this
    · rw [List.getElem?_append_right (by rw [κ.len]; omega), κ.len] at hj
      have := ih (f := fun j => f (κ.K + j)) (fun i t' ht j' u' hu => by
        have := h (i + 1) t' (by simpa using ht) j' u' hu
        rwa [Nat.succ_mul, show i * κ.K + κ.K + j' = κ.K + (i * κ.K + j') by omega] at this) (j - κ.K) u hj
      rwa [show κ.K + (j - κ.K) = j by omega] at this
theorem bytes_ts {w : World} {A : Option Addr} {xs : List Nat} (h : Bytes w A xs) : Rw.Ts kindB w A xs := fun hn => by
  obtain ⟨ad, rfl, hlt, hc⟩ := h.2 hn
  obtain ⟨x, hx⟩ : ∃ x, xs[0]? = some x := ⟨_, List.getElem?_eq_getElem hn⟩
  obtain ⟨b, o, e⟩ := plain_addr (hc 0 x hx)
  obtain rfl : ad = ⟨b, o, none⟩ := by
    obtain ⟨b', o', s'⟩ := ad
    simp [Addr.add] at e
    rw [e.1, e.2.1, e.2.2]
  refine ⟨b, o, rfl, hlt, fun j u hu => ?_⟩
  refine row_read (κ := kindB) (f := fun j => w.cell? ⟨b, o + j, none⟩) (fun i t ht j u hu => ?_) j u hu
  obtain ⟨hj, e⟩ := List.getElem?_eq_some_iff.1 hu
  simp only [kindB, List.length_singleton] at hj
  have hj0 : j = 0 := by omega
  subst hj0
  simp only [kindB, List.getElem_cons_zero] at e
  subst e
  have := hc i t ht
  rw [add_at] at this
  simpa [kindB] using this
theorem bytes_at {w : World} {A : Option Addr} {l : List Nat} (h : Rw.Ts kindB w A l) {i : Nat} {z : Nat} (hi : l[i]? = some z) : ∃ b o, A = some ⟨b, o, none⟩ ∧ b < w.heap.size ∧ ∀ w', Below w.heap.size w w' → w'.cell? ⟨b, o + i, none⟩ = some (.int .u8 (z : Nat)) := by
  obtain ⟨b, o, e, hlt, hc⟩ := h.at_ hi
  refine ⟨b, o, e, hlt, fun w' hb => ?_⟩
  have := hc w' hb 0 _ rfl
  simp only [kindB, Nat.mul_one, Nat.add_zero] at this
  exact this
/-- the number of a row of bytes, the highest first -/
def accU : Nat → List Nat → Nat
  | a, [] => a
  | a, x :: l => accU (a * 256 + x) l
theorem accU_snoc : ∀ (l : List Nat) (a x : Nat), accU a (l ++ [x]) = accU a l * 256 + x
  | [], a, x => rfl
  | y :: l, a, x => accU_snoc l _ x
theorem accU_lt : ∀ (l : List Nat) (a : Nat), (∀ x ∈ l, x < 256) → accU a l < (a + 1) * 256 ^ l.length
  | [], a, _ => by simp [accU]
  | x :: l, a, h => by
    have hx := h x List.mem_cons_self
    have := accU_lt l (a * 256 + x) fun y hy => h y (List.mem_cons_of_mem _ hy)
    simp only [accU, List.length_cons, Nat.pow_succ]
    have h2 : a * 256 + x + 1 ≤ (a + 1) * 256 := by omega
    calc accU (a * 256 + x) l < (a * 256 + x + 1) * 256 ^ l.length := this
      _ ≤ (a + 1) * 256 * 256 ^ l.length := Nat.mul_le_mul_right _ h2
      _ = (a + 1) * (256 ^ l.length * 256) := by rw [Nat.mul_assoc, Nat.mul_comm 256]
theorem accU_take {xs : List Nat} {t j y : Nat} (hy : xs[t + j]? = some y) : accU 0 ((xs.drop t).take (j + 1)) = accU 0 ((xs.drop t).take j) * 256 + y := by
  rw [List.take_add_one, List.getElem?_drop, hy]
  exact accU_snoc _ _ _
theorem accU_small {xs : List Nat} (hx : ∀ x ∈ xs, x < 256) (t j : Nat) (hj : j < 8) : accU 0 ((xs.drop t).take j) < 72057594037927936 := by
  have h := accU_lt ((xs.drop t).take j) 0 fun x h => hx x (List.mem_of_mem_drop (List.mem_of_mem_take h))
  have hle : ((xs.drop t).take j).length ≤ 7 := by have := List.length_take_le j (xs.drop t); omega
  have : 256 ^ ((xs.drop t).take j).length ≤ 256 ^ 7 := Nat.pow_le_pow_right (by decide) hle
  have e : 256 ^ 7 = 72057594037927936 := by decide
  omega
theorem sg64_wrap {X : Nat} (h : X < 18446744073709551616) : IntKind.i64.wrap (X : Int) = sg64 X := by
  unfold sg64
  have e1 : (2 : Int) ^ (64 - 1) = 9223372036854775808 := by decide
  have e2 : (2 : Int) ^ 64 = 18446744073709551616 := by decide
  simp only [IntKind.wrap, IntKind.signed, IntKind.bits, Bool.true_and, decide_eq_true_eq, e1, e2]
  split <;> split <;> omega
def sameB (xs ys : List Nat) : Bool := decide (xs = ys)
theorem str_same {xs ys : List Nat} (hx : ∀ x ∈ xs, x < 256) (hy : ∀ y ∈ ys, y < 256) : ((strOf xs).toList == (strOf ys).toList) = sameB xs ys := by
  rw [str_eql]; unfold sameB; rw [decide_eq_decide]; exact strOf_inj hx hy
/-- a number below n (0 of none) -/
def PickD (n : Nat) (w : World) (e : Ending) (w' : World) : Prop := (∃ k : Nat, e = .returned (.int .i64 (k : Nat)) ∧ (k < n ∨ n = 0 ∧ k = 0)) ∧ w = w'
/-- bytes of the call's own, as bytes -/
theorem own_bytes {w : World} {base n : Nat} {v : Value} {xs : List Nat} (h : w.ownsRow base 5 kindB.K v n (Rw.row kindB xs)) (hx : ∀ x ∈ xs, x < 256) :
    ∃ A c, v = .slice A xs.length c ∧ Bytes w A xs ∧ xs.length ≤ c ∧ c ≤ maxLen ∧ (A = none → c = 0) ∧ ∀ ad, A = some ad → base ≤ ad.block := by
  obtain ⟨A, c, e, hT, h1, h2, h3, h4⟩ := Rw.Ts.of_own h
  refine ⟨A, c, e, ⟨hx, fun hn => ?_⟩, h1, h2, h3, h4⟩
  obtain ⟨b, o, rfl, hlt, _⟩ := hT hn
  refine ⟨_, rfl, hlt, fun j x hj => ?_⟩
  obtain ⟨_, _, e, _, hc⟩ := bytes_at hT hj
  cases e
  rw [add_at]
  exact hc w (Below.refl _ _)
theorem or_i64 (V x : Nat) (hV : V < 72057594037927936) (hx : x < 256) : bits .or .i64 (sg64 (V * 256)) (x : Int) = sg64 (V * 256 + x) := by
  have hl : V * 256 < 18446744073709551616 := by omega
  have h1 : (BitVec.ofInt 64 (sg64 (V * 256))).toNat = V * 256 := by
    have h := uns_sg64 hl
    unfold uns at h
    rw [BitVec.toNat_ofInt]
    have e : ((2 ^ 64 : Nat) : Int) = 18446744073709551616 := by decide
    rw [e]; exact h
  have h2 : (BitVec.ofInt 64 (x : Int)).toNat = x := by
    rw [BitVec.ofInt_natCast, BitVec.toNat_ofNat]; exact Nat.mod_eq_of_lt (by omega)
  have h3 := Nat.two_pow_add_eq_or_of_lt (i := 8) (b := x) (by omega) V
  show IntKind.i64.wrap ((BitVec.ofInt 64 (sg64 (V * 256)) ||| BitVec.ofInt 64 (x : Int)).toNat : Int) = _
  rw [BitVec.toNat_or, h1, h2, show V * 256 = 2 ^ 8 * V by omega, ← h3, show 2 ^ 8 * V + x = V * 256 + x by omega]
  exact sg64_wrap (by omega)
theorem sg64_low {V : Nat} (h : V < 9223372036854775808) : sg64 V = (V : Int) := by unfold sg64; rw [if_pos h]
theorem be8_len (x : Nat) : (be8 x).length = 8 := rfl
theorem be8_lt (x : Nat) : ∀ y ∈ be8 x, y < 256 := by
  intro y hy
  simp only [be8, List.mem_cons, List.not_mem_nil, or_false] at hy
  rcases hy with rfl | rfl | rfl | rfl | rfl | rfl | rfl | rfl <;> omega
/-- append to bytes of the call's own, of a literal's row -/
theorem append_b {w : World} {ops : Array Oper} {rest : List Oper} {o : Oper} {a : Act} {Q : Exit → Act → World → Prop} (hgd : o.guard = none) (s x : Operand)
    (ho : o.op = .call { callee := .builtin .append, args := #[s, x], argTypes := #[48, 48] })
    (base : Nat) (v : Value) (n : Nat) (ts : List Nat) (hs : a.eval s = v) (hown : w.ownsRow base 5 kindB.K v n (Rw.row kindB ts))
    (b : Nat) (c : Nat) (ys : List Nat) (hx : a.eval x = .slice (some ⟨b, 0, none⟩) ys.length c) (hb : Rw.Ts kindB w (some ⟨b, 0, none⟩) ys)
    (hle : n + ys.length ≤ 100000000) (hbase : base ≤ w.heap.size)
    (h : ∀ v' w', w'.ownsRow base 5 kindB.K v' (n + ys.length) (Rw.row kindB (ts ++ ys)) → w.grownBy w' v.ownBlock → wpList Try.prog ops Q rest (a.put o.dst v') w') : wpList Try.prog ops Q (o :: rest) a w :=
  Rw.append_own kindB 5 48 Try.underlying48 infoU8 rfl hgd s x ho base v n ts hs hown (some ⟨b, 0, none⟩) c ys hx (fun e => by cases e) hb (by unfold maxLen; omega) (by omega) hbase h
/-- boxes of records stay -/
def KeepR (w w' : World) : Prop := ∀ g l, Row w g 36 l → Row w' g 36 l
theorem KeepR.refl (w : World) : KeepR w w := fun _ _ h => h
theorem KeepR.trans {a b c : World} (h : KeepR a b) (k : KeepR b c) : KeepR a c := fun g l hr => k g l (h g l hr)
theorem KeepR.alloc (w : World) (o : Obj) : KeepR w (w.alloc o) := fun _ _ h => h.alloc o
theorem KeepR.app {w w' : World} {base n K : Nat} {v : Value} {xs : List Value} (ho : w.ownsRow base 5 K v n xs) (hg : w.grownBy w' v.ownBlock) : KeepR w w' := fun g l hr => hr.grown hg (Rw.own_apart ho hr (by decide))
/-- what is put behind bytes of the call's own -/
def PutN (base : Nat) (w : World) (cs : List Nat) (e : Ending) (w' : World) : Prop := (∃ v', e = .returned v' ∧ w'.ownsRow base 5 kindB.K v' cs.length (Rw.row kindB cs)) ∧ Below base w w' ∧ KeepR w w'
theorem row_app {w : World} {base : Nat} {v : Value} {bs ys zs : List Nat} {B : Nat} (h : w.ownsRow base 5 kindB.K v ((bs ++ ys).length + [B].length) (Rw.row kindB ((bs ++ ys) ++ [B]))) (e : ys ++ [B] = zs) : w.ownsRow base 5 kindB.K v (bs ++ zs).length (Rw.row kindB (bs ++ zs)) := by
  subst e
  rw [← List.append_assoc, List.length_append]
  exact h
end Vr
end

section
namespace Vr
open Go.ChangeShapes Go.WideShapes Go.ChangeAt Go.RowKit Go.BigFrame
set_option maxRecDepth 100000
theorem putR_snoc {l : List Rd} {k : Nat} {r : Rd} (h : l[k]? = some r) : putR (l.take (k + 1)) = putR (l.take k) ++ be8 (uns r.k) ++ be8 (uns r.v) := by
  unfold putR
  rw [List.take_add_one, h]
  simp [Rd.put]
theorem putR_len (l : List Rd) : (putR l).length = 16 * l.length := by
  induction l with
  | nil => rfl
  | cons r l ih =>
    show ((r :: l).map Rd.put).flatten.length = _
    rw [List.map_cons, List.flatten_cons, List.length_append]
    show (r.put).length + (putR l).length = _
    rw [ih]
    show (be8 _ ++ be8 _).length + _ = _
    rw [List.length_append, be8_len, be8_len, List.length_cons]; omega
theorem putR_lt (l : List Rd) : ∀ x ∈ putR l, x < 256 := by
  intro x hx
  unfold putR at hx
  simp only [List.mem_flatten, List.mem_map] at hx
  obtain ⟨_, ⟨r, _, rfl⟩, hx⟩ := hx
  unfold Rd.put at hx
  rcases List.mem_append.1 hx with h | h <;> exact be8_lt _ _ h
/-- what Put answers -/
def PutD (bs : List Nat) (w : World) (e : Ending) (w' : World) : Prop := (∃ v, e = .returned v ∧ w'.ownsRow w.heap.size 5 kindB.K v bs.length (Rw.row kindB bs)) ∧ Below w.heap.size w w'
end Vr
end

section
namespace Vr
open Go.ChangeShapes Go.WideShapes Go.ChangeAt Go.RowKit Go.BigFrame
set_option maxRecDepth 100000
end Vr
end
end Go.Proofs.Ytkhmefbmffpkcaa
