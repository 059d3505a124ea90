/- A region whose order is open and whose operations make memory: what each yields is told by a relation that the others' steps keep. -/
import Derived.Test.YtcdofkhkckodjaaStage
import Derived.Test.YtcdofkhkckodjaaMem
namespace Go.Proofs.Ytcdofkhkckodjaa
namespace Free
section
variable {P : Program}

/-- what an operation yields -/
def gets (P : Program) (K : Value → World → Prop) : Result Next → Prop
  | .ok (.value u) w' => K u w'
  | .ok .skip w' => K undef w'
  | .ok (.enter f args) w' => Calls P f args w' (fun e w'' => ∃ v, e = .returned v ∧ K v w'')
  | _ => False
def dsts (l : List Oper) : List Tmp := l.filterMap (·.dst)
/-- what an operation waits for stands ahead of it -/
def upB (l : List Oper) : Bool := (List.range l.length).all fun i => match l[i]? with | some o => o.after.all fun e => !Region.binds .any e || decide (e.on < i) | none => true
def okB (l : List Oper) (n : Nat) : Bool := upB l && l.all (fun o => o.guard.isNone) && decide (dsts l).Nodup && (dsts l).all (fun t => decide (t < n))
def slot (a : Act) (o : Oper) : Value := match o.dst with | some t => a.tmps.getD t undef | none => undef
def puts (a : Act) : List Oper → Nat → (Nat → Value) → Act
  | [], _, _ => a
  | o :: l, k, vs => puts (a.put o.dst (vs k)) l (k + 1) vs

theorem put_getD (a : Act) (d : Option Tmp) (v : Value) (t : Nat) (h : d ≠ some t) : (a.put d v).tmps.getD t undef = a.tmps.getD t undef := by
  unfold Act.put
  cases d with
  | none => rfl
  | some d =>
    have : d ≠ t := fun e => h (by rw [e])
    simp [Array.getElem?_setIfInBounds_ne this]
theorem put_getD_self (a : Act) (t : Nat) (v : Value) (h : t < a.tmps.size) : (a.put (some t) v).tmps.getD t undef = v := by simp [Act.put, h]
theorem put_size (a : Act) (d : Option Tmp) (v : Value) : (a.put d v).tmps.size = a.tmps.size := by unfold Act.put; cases d <;> simp
theorem put_defers (a : Act) (d : Option Tmp) (v : Value) : (a.put d v).defers = a.defers := by unfold Act.put; cases d <;> rfl
theorem puts_size (l : List Oper) : ∀ (a : Act) (k : Nat) (vs : Nat → Value), (puts a l k vs).tmps.size = a.tmps.size ∧ (puts a l k vs).defers = a.defers := by
  induction l with
  | nil => intro a k vs; exact ⟨rfl, rfl⟩
  | cons o l ih => intro a k vs; have := ih (a.put o.dst (vs k)) (k + 1) vs; rw [put_size, put_defers] at this; exact this
theorem mem_dsts {l : List Oper} {i : Nat} {o : Oper} {t : Tmp} (h : l[i]? = some o) (ht : o.dst = some t) : t ∈ dsts l := List.mem_filterMap.2 ⟨o, List.mem_of_getElem? h, ht⟩
theorem puts_old (l : List Oper) : ∀ (a : Act) (k : Nat) (vs : Nat → Value) (t : Nat), t ∉ dsts l → (puts a l k vs).tmps.getD t undef = a.tmps.getD t undef := by
  induction l with
  | nil => intro a k vs t _; rfl
  | cons o l ih =>
    intro a k vs t ht
    rw [puts, ih _ _ _ _ (fun h => ht (by obtain ⟨o', ho', e⟩ := List.mem_filterMap.1 h; exact List.mem_filterMap.2 ⟨o', List.mem_cons_of_mem _ ho', e⟩)),
      put_getD _ _ _ _ (fun e => ht (List.mem_filterMap.2 ⟨o, by simp, e⟩))]
theorem puts_new (l : List Oper) : ∀ (a : Act) (k : Nat) (vs : Nat → Value) (i : Nat) (o : Oper) (t : Nat), (dsts l).Nodup → l[i]? = some o → o.dst = some t → t < a.tmps.size → (puts a l k vs).tmps.getD t undef = vs (k + i) := by
  induction l with
  | nil => intro a k vs i o t _ h; simp at h
  | cons o l ih =>
    intro a k vs i o' t hnd hi ht hlt
    rw [puts]
    cases i with
    | zero =>
      simp at hi; subst hi
      have hd : dsts (o :: l) = t :: dsts l := by simp [dsts, ht]
      rw [hd, List.nodup_cons] at hnd
      rw [puts_old _ _ _ _ _ hnd.1, ht, put_getD_self _ _ _ hlt]; rfl
    | succ i =>
      have hnd' : (dsts l).Nodup := by
        cases hd : o.dst with
        | none => have : dsts (o :: l) = dsts l := by simp [dsts, hd]
                  rwa [this] at hnd
        | some d => have : dsts (o :: l) = d :: dsts l := by simp [dsts, hd]
                    rw [this, List.nodup_cons] at hnd; exact hnd.2
      rw [ih _ _ _ i o' t hnd' (by simpa using hi) ht (by rw [put_size]; exact hlt)]
      congr 1; omega
theorem act_ext {a b : Act} (hd : a.defers = b.defers) (hs : a.tmps.size = b.tmps.size) (h : ∀ t, t < a.tmps.size → a.tmps.getD t undef = b.tmps.getD t undef) : a = b := by
  obtain ⟨ta, da⟩ := a
  obtain ⟨tb, db⟩ := b
  simp only at hd hs h
  subst hd
  congr 1
  apply Array.ext hs
  intro i h1 h2
  have := h i h1
  simpa [h1, h2] using this
theorem dst_ne {l : List Oper} (hnd : (dsts l).Nodup) : ∀ {i j : Nat} {oi oj : Oper} {t : Tmp}, l[i]? = some oi → l[j]? = some oj → oi.dst = some t → oj.dst = some t → i = j := by
  induction l with
  | nil => intro i j oi oj t h; simp at h
  | cons o l ih =>
    intro i j oi oj t hi hj hti htj
    have key : ∀ {k : Nat} {ok : Oper}, l[k]? = some ok → ok.dst = some t → o.dst = some t → False := by
      intro k ok hk h1 h2
      have hd : dsts (o :: l) = t :: dsts l := by simp [dsts, h2]
      have hnd2 := hnd
      rw [hd, List.nodup_cons] at hnd2
      exact hnd2.1 (mem_dsts hk h1)
    have hnd' : (dsts l).Nodup := by
      cases hd : o.dst with
      | none => have : dsts (o :: l) = dsts l := by simp [dsts, hd]
                rwa [this] at hnd
      | some d => have : dsts (o :: l) = d :: dsts l := by simp [dsts, hd]
                  rw [this, List.nodup_cons] at hnd; exact hnd.2
    cases i with
    | zero =>
      cases j with
      | zero => rfl
      | succ j => simp at hi hj; subst hi; exact (key hj htj hti).elim
    | succ i =>
      cases j with
      | zero => simp at hi hj; subst hj; exact (key hi hti htj).elim
      | succ j => exact congrArg (· + 1) (ih hnd' (i := i) (j := j) (by simpa using hi) (by simpa using hj) hti htj)

/-- EACH ORDER, BY A RELATION OF EACH OPERATION'S VALUE -/
theorem wp_region {id : Nat} {Q : Exit → Act → World → Prop} {a0 : Act} {w0 : World} {l : List Oper} (hm : P.follows .mixedOrders = true) (hB : okB l a0.tmps.size = true)
    (F : World → Prop) (R : Nat → Value → World → Prop) (hF : F w0.drew)
    (hstep : ∀ i o, l[i]? = some o → ∀ (a : Act) (w : World), (∀ t, t ∉ dsts l → a.eval (.tmp t) = a0.eval (.tmp t)) →
      (∀ j oj t, Region.waitsFor .any l.toArray i j = true → l[j]? = some oj → oj.dst = some t → R j (a.eval (.tmp t)) w) → F w →
      gets P (fun v w' => R i v w' ∧ F w' ∧ ∀ j u, R j u w → R j u w') ((execOp a.eval o).run P w))
    (hend : ∀ (vs : Nat → Value) (w' : World), (∀ i, i < l.length → (∀ o, l[i]? = some o → o.dst.isSome = true) → R i (vs i) w') → F w' → Q .normal (puts a0 l 0 vs) w') : (Code.region id l.toArray true).wp P Q a0 w0 := by
  simp only [okB, Bool.and_eq_true, decide_eq_true_eq] at hB
  obtain ⟨⟨⟨hns, hgd⟩, hnd⟩, hlt⟩ := hB
  have hlt' : ∀ t ∈ dsts l, t < a0.tmps.size := fun t ht => by simpa using List.all_eq_true.1 hlt t ht
  let Inv : Array Bool → Act → World → Prop := fun S a w => a.defers = a0.defers ∧ a.tmps.size = a0.tmps.size ∧ (∀ t, t ∉ dsts l → a.tmps.getD t undef = a0.tmps.getD t undef) ∧ F w ∧
    ∀ i o t, l[i]? = some o → S.getD i false = true → o.dst = some t → R i (a.tmps.getD t undef) w
  have main : ∀ (fuel : Nat) (S : Array Bool) (a : Act) (w : World), S.toList.count false = fuel → Stage.Fit .any l.toArray S → Inv S a w → wpAny P .any l.toArray Q fuel S a w := by
    intro fuel
    have fin : ∀ (S : Array Bool) (a : Act) (w : World), Stage.Fit .any l.toArray S → (∀ i, S.getD i true = true) → Inv S a w → Q .normal a w := by
      rintro S a w hFit hS ⟨h1, h2, h3, h4, h5⟩
      have e : a = puts a0 l 0 (fun i => match l[i]? with | some o => slot a o | none => undef) := by
        have hp := puts_size l a0 0 (fun i => match l[i]? with | some o => slot a o | none => undef)
        refine act_ext (h1.trans hp.2.symm) (h2.trans hp.1.symm) (fun t ht => ?_)
        by_cases hm : t ∈ dsts l
        · obtain ⟨o, ho, e⟩ := List.mem_filterMap.1 hm
          obtain ⟨i, hi⟩ := List.getElem?_of_mem ho
          rw [puts_new l a0 0 _ i o t hnd hi e (hlt' t hm), Nat.zero_add]
          simp only [hi, slot, e]
        · rw [puts_old _ _ _ _ _ hm]; exact h3 t hm
      rw [e]
      refine hend _ w (fun i hi hd => ?_) h4
      have hi' : l[i]? = some l[i] := List.getElem?_eq_getElem hi
      simp only [hi']
      obtain ⟨t, ht⟩ := Option.isSome_iff_exists.1 (hd _ hi')
      have hSi : S.getD i false = true := by
        have h1 := hS i
        have : i < S.size := by rw [hFit.size]; simpa using hi
        simp [this] at h1 ⊢; exact h1
      have := h5 i _ t hi' hSi ht
      unfold slot; rw [ht]; exact this
    have one : ∀ (S : Array Bool) (a : Act) (w : World) (K : Act → World → Prop), Stage.Fit .any l.toArray S → Inv S a w → ∀ i ∈ Region.ready .any l.toArray S, (∀ a' w', Inv (S.setIfInBounds i true) a' w' → K a' w') → wpOp P l.toArray Q i K a w := by
      rintro S a w K hFit ⟨h1, h2, h3, h4, h5⟩ i hi hK
      obtain ⟨hun, o, ho, hall⟩ := mem_ready.1 hi
      have hol : l[i]? = some o := by simpa using ho
      unfold wpOp
      simp only [ho]
      have hw : Region.wanted o (yielded l.toArray a.tmps) = true := by
        have := List.all_eq_true.1 hgd o (List.mem_of_getElem? hol)
        have hn : o.guard = none := by simpa using this
        simp [Region.wanted, hn]
      rw [if_pos hw]
      refine .inl ?_
      have hpre : ∀ j oj t, Region.waitsFor .any l.toArray i j = true → l[j]? = some oj → oj.dst = some t → R j (a.eval (.tmp t)) w := by
        intro j oj t hwt hj hd
        have hc := Stage.came hi hwt
        have hSj : S.getD j false = true := by
          have hjl : j < S.size := by rw [hFit.size]; simpa using (List.getElem?_eq_some_iff.1 hj).1
          simp [hjl] at hc ⊢; exact hc
        exact h5 j oj t hj hSj hd
      have hs := hstep i o hol a w (fun t ht => h3 t ht) hpre h4
      have step : ∀ v w', (R i v w' ∧ F w' ∧ ∀ j u, R j u w → R j u w') → K (a.put o.dst v) w' := by
        rintro v w' ⟨r1, r2, r3⟩
        refine hK _ _ ⟨by rw [put_defers]; exact h1, by rw [put_size]; exact h2, fun t ht => ?_, r2, fun j oj t hj hSj hd => ?_⟩
        · rw [put_getD _ _ _ _ (fun e => ht (mem_dsts hol e))]; exact h3 t ht
        · by_cases hij : i = j
          · subst hij
            obtain rfl : oj = o := Option.some.inj (hj.symm.trans hol)
            rw [hd, put_getD_self _ _ _ (by rw [h2]; exact hlt' t (mem_dsts hj hd))]
            exact r1
          · rw [getD_set_ne false hij] at hSj
            rw [put_getD _ _ _ _ (fun e => hij (dst_ne hnd hol hj e hd))]
            exact r3 j _ (h5 j oj t hj hSj hd)
      unfold Oper.wp
      generalize (execOp a.eval o).run P w = r at hs
      cases r with
      | ok n w' =>
        cases n <;> simp only [gets] at hs <;> simp only [Oper.upon]
        case value u => exact step _ _ hs
        case skip => exact step _ _ hs
        case enter f args => exact hs.mono fun e w'' ⟨v, he, h⟩ => by subst he; exact step _ _ h
      | halt x w' => simp only [gets] at hs
    induction fuel with
    | zero =>
      intro S a w hn hFit hI
      have hS : ∀ i, S.getD i true = true := fun i => by rw [Stage.getD_toList]; exact Stage.all_of_count hn i
      refine ⟨?_, fin S a w hFit hS hI⟩
      cases hr : Region.ready .any l.toArray S with
      | nil => rfl
      | cons i r =>
        have := (mem_ready.1 (show i ∈ Region.ready .any l.toArray S by rw [hr]; simp)).1
        rw [hS i] at this; cases this
    | succ fuel ih =>
      intro S a w hn hFit hI
      refine ⟨fun h0 => ?_, fun i hi => ?_⟩
      · refine fin S a w hFit (fun i => ?_) hI
        induction i using Nat.strongRecOn with
        | _ i ihi =>
          cases hx : S.getD i true with
          | true => rfl
          | false =>
            exfalso
            have hil : i < l.length := by
              rcases Nat.lt_or_ge i S.size with h' | h'
              · rw [hFit.size] at h'; simpa using h'
              · simp [Array.getElem?_eq_none h'] at hx
            have hup := List.all_eq_true.1 hns i (List.mem_range.2 hil)
            rw [List.getElem?_eq_getElem hil] at hup
            have hr : i ∈ Region.ready .any l.toArray S := by
              refine mem_ready.2 ⟨hx, l[i], by simp [hil], fun e he hbe => ?_⟩
              have h1 : e.on < i := by
                have := Array.all_eq_true_iff_forall_mem.1 hup e he
                simpa [hbe] using this
              have h2 := ihi e.on h1
              have h3 : e.on < S.size := by rw [hFit.size]; simp; omega
              simp [h3] at h2 ⊢; exact h2
            rw [h0] at hr; cases hr
      · have hun := (mem_ready.1 hi).1
        have hc : (S.setIfInBounds i true).toList.count false = fuel := by
          rw [Array.toList_setIfInBounds]
          have := Stage.count_set (l := S.toList) (i := i) (by rw [← Stage.getD_toList]; exact hun)
          omega
        exact one S a w _ hFit hI i hi (fun a' w' hI' => ih _ a' w' hc (hFit.set hi) hI')
  refine wp_region_any hm (main _ _ _ _ (by simp) (by simpa using Stage.Fit.start (md := .any) (ops := l.toArray)) ⟨rfl, rfl, fun _ _ => rfl, hF, fun i o t _ h _ => ?_⟩)
  rw [getD_replicate_false] at h; cases h
/-- the same where nothing that was there is written -/
theorem wp_grow {id : Nat} {Q : Exit → Act → World → Prop} {a0 : Act} {w0 : World} {l : List Oper} (hm : P.follows .mixedOrders = true) (hB : okB l a0.tmps.size = true)
    (R : Nat → Value → World → Prop) (hR : ∀ j u w w', RowKit.Below w.heap.size w w' → R j u w → R j u w')
    (hstep : ∀ i o, l[i]? = some o → ∀ (a : Act) (w : World), (∀ t, t ∉ dsts l → a.eval (.tmp t) = a0.eval (.tmp t)) →
      (∀ j oj t, Region.waitsFor .any l.toArray i j = true → l[j]? = some oj → oj.dst = some t → R j (a.eval (.tmp t)) w) → RowKit.Below w0.heap.size w0 w →
      gets P (fun v w' => R i v w' ∧ RowKit.Below w.heap.size w w') ((execOp a.eval o).run P w))
    (hend : ∀ (vs : Nat → Value) (w' : World), (∀ i, i < l.length → (∀ o, l[i]? = some o → o.dst.isSome = true) → R i (vs i) w') → RowKit.Below w0.heap.size w0 w' → Q .normal (puts a0 l 0 vs) w') : (Code.region id l.toArray true).wp P Q a0 w0 := by
  refine wp_region hm hB (fun w => RowKit.Below w0.heap.size w0 w) R (RowKit.Below.refl _ _).drew (fun i o hi a w h1 h2 h3 => ?_) hend
  have hs := hstep i o hi a w h1 h2 h3
  generalize (execOp a.eval o).run P w = r at hs
  have key : ∀ v w', (R i v w' ∧ RowKit.Below w.heap.size w w') → R i v w' ∧ RowKit.Below w0.heap.size w0 w' ∧ ∀ j u, R j u w → R j u w' := fun v w' ⟨k1, k2⟩ =>
    ⟨k1, h3.trans (k2.mono h3.size), fun j u hj => hR j u w w' k2 hj⟩
  cases r with
  | ok n w' =>
    cases n <;> simp only [gets] at hs ⊢
    case value u => exact key _ _ hs
    case skip => exact key _ _ hs
    case enter f args => exact hs.mono fun e w'' ⟨v, he, h⟩ => ⟨v, he, key _ _ h⟩
  | halt x w' => simp only [gets] at hs

section
variable {K : Value → World → Prop} {a : Act} {o : Oper} {w w' : World}
theorem g_move (x : Operand) (ho : o.op = .move x) (h : K (a.eval x) w) : gets P K ((execOp a.eval o).run P w) := by
  unfold execOp; simp only [ho, Sem.run_pure, gets]; exact h
theorem g_assign (x : Operand) (ho : o.op = .assign x) (h : K (a.eval x) w) : gets P K ((execOp a.eval o).run P w) := by
  unfold execOp; simp only [ho, Sem.run_pure, gets]; exact h
theorem g_load {v p : Value} (t : TypeId) (x : Operand) (ho : o.op = .load t x) (hx : a.eval x = p) (hr : (Instr.loadAt t p).run P w = .ok v w') (h : K v w') : gets P K ((execOp a.eval o).run P w) := by
  unfold execOp; simp only [ho, hx, Sem.run_bind, hr, Result.andThen_ok, Sem.run_pure, gets]; exact h
theorem g_field {v p : Value} (t : TypeId) (x : Operand) (f : Nat) (ho : o.op = .fieldAddr t x f) (hx : a.eval x = p) (hr : (Instr.fieldAt t p f).run P w = .ok v w') (h : K v w') : gets P K ((execOp a.eval o).run P w) := by
  unfold execOp; simp only [ho, hx, Sem.run_bind, hr, Result.andThen_ok, Sem.run_pure, gets]; exact h
theorem g_indexAddr {v p q : Value} (t : TypeId) (x y : Operand) (ho : o.op = .indexAddr t x y) (hx : a.eval x = p) (hy : a.eval y = q) (hr : (Instr.indexAt t p q).run P w = .ok v w') (h : K v w') : gets P K ((execOp a.eval o).run P w) := by
  unfold execOp; simp only [ho, hx, hy, Sem.run_bind, hr, Result.andThen_ok, Sem.run_pure, gets]; exact h
theorem g_convert {v p : Value} (s t : TypeId) (x : Operand) (ho : o.op = .convert s t x) (hx : a.eval x = p) (hr : (convert s t p).run P w = .ok v w') (h : K v w') : gets P K ((execOp a.eval o).run P w) := by
  unfold execOp; simp only [ho, hx, Sem.run_bind, hr, Result.andThen_ok, Sem.run_pure, gets]; exact h
theorem g_bin {v p q : Value} (op : BinOp) (t u : TypeId) (x y : Operand) (ho : o.op = .binOp op t x y u) (hx : a.eval x = p) (hy : a.eval y = q) (hr : (do eqGuard op t x y p q; binOp op t p q : Sem Value).run P w = .ok v w') (h : K v w') : gets P K ((execOp a.eval o).run P w) := by
  unfold execOp; simp only [ho, hx, hy]; rw [Sem.run_bind, hr]; simp only [Result.andThen_ok, Sem.run_pure, gets]; exact h
theorem g_build (t : TypeId) (parts : Array (Nat × Operand)) (ho : o.op = .build t parts) (cells : Array Value) (vs : List (Nat × Value)) (hv : (parts.toList.map fun (i, x) => (i, a.eval x)) = vs) (hb : P.built t vs = some cells) (h : K (.agg cells) w) : gets P K ((execOp a.eval o).run P w) := by
  subst hv
  have hr := run_build (P := P) w t (parts.map fun (i, x) => (i, a.eval x)) cells (by rw [Array.toList_map]; exact hb)
  unfold execOp
  simp only [ho, Sem.run_bind, hr, Result.andThen_ok, Sem.run_pure, gets]; exact h
theorem g_box (t : TypeId) (x : Operand) (ho : o.op = .box t x) (p : Value) (hx : a.eval x = p) (h : K (.pointer (some ⟨w.heap.size, 0, none⟩)) (w.alloc (.cells p.cells t))) : gets P K ((execOp a.eval o).run P w) := by
  unfold execOp
  have hr : (Instr.box t p).run P w = .ok (.pointer (some ⟨w.heap.size, 0, none⟩)) (w.alloc (.cells p.cells t)) := by
    simp [Instr.box, newVar, newRow, newObj, Sem.run_bind]
    rfl
  simp only [ho, hx, Sem.run_bind, hr, Result.andThen_ok, Sem.run_pure, gets]; exact h
theorem run_enter {f : FuncId} {fn : Func} {c : Code} (hf : P.funcs[f]? = some fn) (hname : (fn.name == "runtime.NumGoroutine") = false) (hb : fn.body = some c) (args : Array Value) (w : World) :
    (callFunc f args).run P w = .ok (.enter f args) w := by
  have h1 : fn.name ≠ "runtime.NumGoroutine" := by simpa using hname
  simp [callFunc, hf, h1, hb]
theorem g_call {f : FuncId} {fn : Func} {c : Code} (args : Array Operand) (ats : Array TypeId) (ho : o.op = .call { callee := .value (.func f), args := args, argTypes := ats }) (hf : P.funcs[f]? = some fn) (hname : (fn.name == "runtime.NumGoroutine") = false) (hb : fn.body = some c)
    (vs : List Value) (hv : args.toList.map a.eval = vs) (h : Calls P f vs.toArray w (fun e w'' => ∃ v, e = .returned v ∧ K v w'')) : gets P K ((execOp a.eval o).run P w) := by
  have hv' : args.map a.eval = vs.toArray := by rw [← hv]; apply Array.ext'; simp
  have hr := run_enter (P := P) hf hname hb (vs.toArray) w
  unfold execOp
  simp only [ho, resolve, hv', Act.eval, Deferred.ofValue, Sem.run_bind, Sem.run_pure, Result.andThen_ok, invoke, Array.append_empty, Array.empty_append, hr, gets]
  exact h
theorem at_call {C : World → Prop} {v : Value} {f : FuncId} {fn : Func} {c : Code} (args : Array Operand) (ats : Array TypeId) (ho : o.op = .call { callee := .value (.func f), args := args, argTypes := ats }) (hf : P.funcs[f]? = some fn) (hname : (fn.name == "runtime.NumGoroutine") = false) (hb : fn.body = some c)
    (vs : List Value) (hv : args.toList.map a.eval = vs) (h : Calls P f vs.toArray w (fun e w'' => e = .returned v ∧ C w'')) : Stage.at_ P o a C w v := by
  have hv' : args.map a.eval = vs.toArray := by rw [← hv]; apply Array.ext'; simp
  have hr := run_enter (P := P) hf hname hb (vs.toArray) w
  unfold Stage.at_ execOp
  simp only [ho, resolve, hv', Act.eval, Deferred.ofValue, Sem.run_bind, Sem.run_pure, Result.andThen_ok, invoke, Array.append_empty, Array.empty_append, hr, Stage.upon]
  exact h
theorem at_load {C : World → Prop} {v p : Value} (t : TypeId) (x : Operand) (ho : o.op = .load t x) (hx : a.eval x = p) (hr : (Instr.loadAt t p).run P w = .ok v w) (h : C w) : Stage.at_ P o a C w v := by
  unfold Stage.at_ execOp; simp only [ho, hx, Sem.run_bind, hr, Result.andThen_ok, Sem.run_pure, Stage.upon]; exact ⟨trivial, h⟩
theorem at_convert {C : World → Prop} {v p : Value} (s t : TypeId) (x : Operand) (ho : o.op = .convert s t x) (hx : a.eval x = p) (hr : (convert s t p).run P w = .ok v w) (h : C w) : Stage.at_ P o a C w v := by
  unfold Stage.at_ execOp; simp only [ho, hx, Sem.run_bind, hr, Result.andThen_ok, Sem.run_pure, Stage.upon]; exact ⟨trivial, h⟩
end
end
end Free
end Go.Proofs.Ytcdofkhkckodjaa
