import Derived.Test.YtonelpnhoiajgaaGreatDoorHd
import Derived.Test.YtonelpnhoiajgaaGreatDoorCa0
import Derived.Test.YtonelpnhoiajgaaGreatDoorCa2
import Derived.Deep.QuietTactic
import Derived.BigQuiet
import Derived.StillTailTactics
import Derived.Laws.IdiomArrays
import Derived.OpenShut
import Derived.SizedLaws
import Derived.BigRegion
import Derived.RegionTactic
import Derived.Deep.DeepCutAuto
import Derived.Deep.CutRange
import Derived.Laws.AppendOwnNone
import Derived.OwnWalk
import Derived.Shelf.Abstract
namespace Go.Proofs.YtonelpnhoiajgaaGreatDoor
set_option linter.unusedSimpArgs false
set_option maxRecDepth 100000
open Go.ChangeShapes Go.WideShapes Go.ChangeAt Go.RowKit Go.BigFrame
set_option linter.unusedVariables false
section
namespace Free
section
variable {P : Program}

def gets (P : Program) (K : Value → World → Prop) : Result Next → Prop
 | .ok (.value u) w' => K u w'
 | .ok .skip w' => K undef w'
 | .ok (.enter f args) w' => Calls P f args w' (fun e w'' => ∃ v,e = .returned v ∧ K v w'')
 | _ => False
def dsts (l : List Oper) : List Tmp:=l.filterMap (·.dst)
def upB (l : List Oper) : Bool:=(List.range l.length).all fun i => match l[i]? with | some o => o.after.all fun e => !Region.binds .any e || decide (e.on < i) | none => true
def okB (l : List Oper) (n : Nat) : Bool:=upB l && l.all (fun o => o.guard.isNone) && decide (dsts l).Nodup && (dsts l).all (fun t => decide (t < n))
def slot (a : Act) (o : Oper) : Value:=match o.dst with | some t => a.tmps.getD t undef | none => undef
def puts (a : Act) : List Oper → Nat → (Nat → Value) → Act
 | [],_,_ => a
 | o :: l,k,vs => puts (a.put o.dst (vs k)) l (k + 1) vs

theorem put_getD (a : Act) (d : Option Tmp) (v : Value) (t : Nat) (h : d ≠ some t) : (a.put d v).tmps.getD t undef = a.tmps.getD t undef:=by
 unfold Act.put
 cases d with
 | none => rfl
 | some d =>
   have : d ≠ t:=fun e => h (by rw [e])
   simp [Array.getElem?_setIfInBounds_ne this]
theorem put_getD_self (a : Act) (t : Nat) (v : Value) (h : t < a.tmps.size) : (a.put (some t) v).tmps.getD t undef = v:=by simp [Act.put,h]
theorem put_size (a : Act) (d : Option Tmp) (v : Value) : (a.put d v).tmps.size = a.tmps.size:=by unfold Act.put;cases d <;> simp
theorem put_defers (a : Act) (d : Option Tmp) (v : Value) : (a.put d v).defers = a.defers:=by unfold Act.put;cases d <;> rfl
theorem puts_size (l : List Oper) : ∀ (a : Act) (k : Nat) (vs : Nat → Value),(puts a l k vs).tmps.size = a.tmps.size ∧ (puts a l k vs).defers = a.defers:=by
 induction l with
 | nil => intro a k vs;exact ⟨rfl,rfl⟩
 | cons o l ih => intro a k vs;have:=ih (a.put o.dst (vs k)) (k + 1) vs;rw [put_size,put_defers] at this;exact this
theorem mem_dsts {l : List Oper} {i : Nat} {o : Oper} {t : Tmp} (h : l[i]? = some o) (ht : o.dst = some t) : t ∈ dsts l:=List.mem_filterMap.2 ⟨o,List.mem_of_getElem? h,ht⟩
theorem puts_old (l : List Oper) : ∀ (a : Act) (k : Nat) (vs : Nat → Value) (t : Nat),t ∉ dsts l → (puts a l k vs).tmps.getD t undef = a.tmps.getD t undef:=by
 induction l with
 | nil => intro a k vs t _;rfl
 | cons o l ih =>
   intro a k vs t ht
   rw [puts,ih _ _ _ _ (fun h => ht (by obtain ⟨o',ho',e⟩:=List.mem_filterMap.1 h;exact List.mem_filterMap.2 ⟨o',List.mem_cons_of_mem _ ho',e⟩)),
    put_getD _ _ _ _ (fun e => ht (List.mem_filterMap.2 ⟨o,by simp,e⟩))]
theorem puts_new (l : List Oper) : ∀ (a : Act) (k : Nat) (vs : Nat → Value) (i : Nat) (o : Oper) (t : Nat),(dsts l).Nodup → l[i]? = some o → o.dst = some t → t < a.tmps.size → (puts a l k vs).tmps.getD t undef = vs (k + i):=by
 induction l with
 | nil => intro a k vs i o t _ h;simp at h
 | cons o l ih =>
   intro a k vs i o' t hnd hi ht hlt
   rw [puts]
   cases i with
   | zero =>
     simp at hi;subst hi
     have hd : dsts (o :: l) = t :: dsts l:=by simp [dsts,ht]
     rw [hd,List.nodup_cons] at hnd
     rw [puts_old _ _ _ _ _ hnd.1,ht,put_getD_self _ _ _ hlt];rfl
   | succ i =>
     have hnd' : (dsts l).Nodup:=by
      cases hd : o.dst with
      | none => have : dsts (o :: l) = dsts l:=by simp [dsts,hd]
                rwa [this] at hnd
      | some d => have : dsts (o :: l) = d :: dsts l:=by simp [dsts,hd]
                  rw [this,List.nodup_cons] at hnd;exact hnd.2
     rw [ih _ _ _ i o' t hnd' (by simpa using hi) ht (by rw [put_size];exact hlt)]
     congr 1;omega
theorem act_ext {a b : Act} (hd : a.defers = b.defers) (hs : a.tmps.size = b.tmps.size) (h : ∀ t,t < a.tmps.size → a.tmps.getD t undef = b.tmps.getD t undef) : a = b:=by
 obtain ⟨ta,da⟩:=a
 obtain ⟨tb,db⟩:=b
 simp only at hd hs h
 subst hd
 congr 1
 apply Array.ext hs
 intro i h1 h2
 have:=h i h1
 simpa [h1,h2] using this
theorem dst_ne {l : List Oper} (hnd : (dsts l).Nodup) : ∀ {i j : Nat} {oi oj : Oper} {t : Tmp},l[i]? = some oi → l[j]? = some oj → oi.dst = some t → oj.dst = some t → i = j:=by
 induction l with
 | nil => intro i j oi oj t h;simp at h
 | cons o l ih =>
   intro i j oi oj t hi hj hti htj
   have key : ∀ {k : Nat} {ok : Oper},l[k]? = some ok → ok.dst = some t → o.dst = some t → False:=by
    intro k ok hk h1 h2
    have hd : dsts (o :: l) = t :: dsts l:=by simp [dsts,h2]
    have hnd2:=hnd
    rw [hd,List.nodup_cons] at hnd2
    exact hnd2.1 (mem_dsts hk h1)
   have hnd' : (dsts l).Nodup:=by
    cases hd : o.dst with
    | none => have : dsts (o :: l) = dsts l:=by simp [dsts,hd]
              rwa [this] at hnd
    | some d => have : dsts (o :: l) = d :: dsts l:=by simp [dsts,hd]
                rw [this,List.nodup_cons] at hnd;exact hnd.2
   cases i with
   | zero =>
     cases j with
     | zero => rfl
     | succ j => simp at hi hj;subst hi;exact (key hj htj hti).elim
   | succ i =>
     cases j with
     | zero => simp at hi hj;subst hj;exact (key hi hti htj).elim
     | succ j => exact congrArg (· + 1) (ih hnd' (i:=i) (j:=j) (by simpa using hi) (by simpa using hj) hti htj)

theorem wp_region {id : Nat} {Q : Exit → Act → World → Prop} {a0 : Act} {w0 : World} {l : List Oper} (hm : P.follows .mixedOrders = true) (hB : okB l a0.tmps.size = true)
 (F : World → Prop) (R : Nat → Value → World → Prop) (hF : F w0.drew)
 (hstep : ∀ i o,l[i]? = some o → ∀ (a : Act) (w : World),(∀ t,t ∉ dsts l → a.eval (.tmp t) = a0.eval (.tmp t)) →
   (∀ j oj t,Region.waitsFor .any l.toArray i j = true → l[j]? = some oj → oj.dst = some t → R j (a.eval (.tmp t)) w) → F w →
   gets P (fun v w' => R i v w' ∧ F w' ∧ ∀ j u,R j u w → R j u w') ((execOp a.eval o).run P w))
 (hend : ∀ (vs : Nat → Value) (w' : World),(∀ i,i < l.length → (∀ o,l[i]? = some o → o.dst.isSome = true) → R i (vs i) w') → F w' → Q .normal (puts a0 l 0 vs) w') : (Code.region id l.toArray true).wp P Q a0 w0:=by
 simp only [okB,Bool.and_eq_true,decide_eq_true_eq] at hB
 obtain ⟨⟨⟨hns,hgd⟩,hnd⟩,hlt⟩:=hB
 have hlt' : ∀ t ∈ dsts l,t < a0.tmps.size:=fun t ht => by simpa using List.all_eq_true.1 hlt t ht
 let Inv : Array Bool → Act → World → Prop:=fun S a w => a.defers = a0.defers ∧ a.tmps.size = a0.tmps.size ∧ (∀ t,t ∉ dsts l → a.tmps.getD t undef = a0.tmps.getD t undef) ∧ F w ∧
  ∀ i o t,l[i]? = some o → S.getD i false = true → o.dst = some t → R i (a.tmps.getD t undef) w
 have main : ∀ (fuel : Nat) (S : Array Bool) (a : Act) (w : World),S.toList.count false = fuel → Stage.Fit .any l.toArray S → Inv S a w → wpAny P .any l.toArray Q fuel S a w:=by
  intro fuel
  have fin : ∀ (S : Array Bool) (a : Act) (w : World),Stage.Fit .any l.toArray S → (∀ i,S.getD i true = true) → Inv S a w → Q .normal a w:=by
   rintro S a w hFit hS ⟨h1,h2,h3,h4,h5⟩
   have e : a = puts a0 l 0 (fun i => match l[i]? with | some o => slot a o | none => undef):=by
    have hp:=puts_size l a0 0 (fun i => match l[i]? with | some o => slot a o | none => undef)
    refine act_ext (h1.trans hp.2.symm) (h2.trans hp.1.symm) (fun t ht => ?_)
    by_cases hm : t ∈ dsts l
    · obtain ⟨o,ho,e⟩:=List.mem_filterMap.1 hm
      obtain ⟨i,hi⟩:=List.getElem?_of_mem ho
      rw [puts_new l a0 0 _ i o t hnd hi e (hlt' t hm),Nat.zero_add]
      simp only [hi,slot,e]
    · rw [puts_old _ _ _ _ _ hm];exact h3 t hm
   rw [e]
   refine hend _ w (fun i hi hd => ?_) h4
   have hi' : l[i]? = some l[i]:=List.getElem?_eq_getElem hi
   simp only [hi']
   obtain ⟨t,ht⟩:=Option.isSome_iff_exists.1 (hd _ hi')
   have hSi : S.getD i false = true:=by
    have h1:=hS i
    have : i < S.size:=by rw [hFit.size];simpa using hi
    simp [this] at h1 ⊢;exact h1
   have:=h5 i _ t hi' hSi ht
   unfold slot;rw [ht];exact this
  have one : ∀ (S : Array Bool) (a : Act) (w : World) (K : Act → World → Prop),Stage.Fit .any l.toArray S → Inv S a w → ∀ i ∈ Region.ready .any l.toArray S,(∀ a' w',Inv (S.setIfInBounds i true) a' w' → K a' w') → wpOp P l.toArray Q i K a w:=by
   rintro S a w K hFit ⟨h1,h2,h3,h4,h5⟩ i hi hK
   obtain ⟨hun,o,ho,hall⟩:=mem_ready.1 hi
   have hol : l[i]? = some o:=by simpa using ho
   unfold wpOp
   simp only [ho]
   have hw : Region.wanted o (yielded l.toArray a.tmps) = true:=by
    have:=List.all_eq_true.1 hgd o (List.mem_of_getElem? hol)
    have hn : o.guard = none:=by simpa using this
    simp [Region.wanted,hn]
   rw [if_pos hw]
   refine .inl ?_
   have hpre : ∀ j oj t,Region.waitsFor .any l.toArray i j = true → l[j]? = some oj → oj.dst = some t → R j (a.eval (.tmp t)) w:=by
    intro j oj t hwt hj hd
    have hc:=Stage.came hi hwt
    have hSj : S.getD j false = true:=by
     have hjl : j < S.size:=by rw [hFit.size];simpa using (List.getElem?_eq_some_iff.1 hj).1
     simp [hjl] at hc ⊢;exact hc
    exact h5 j oj t hj hSj hd
   have hs:=hstep i o hol a w (fun t ht => h3 t ht) hpre h4
   have step : ∀ v w',(R i v w' ∧ F w' ∧ ∀ j u,R j u w → R j u w') → K (a.put o.dst v) w':=by
    rintro v w' ⟨r1,r2,r3⟩
    refine hK _ _ ⟨by rw [put_defers];exact h1,by rw [put_size];exact h2,fun t ht => ?_,r2,fun j oj t hj hSj hd => ?_⟩
    · rw [put_getD _ _ _ _ (fun e => ht (mem_dsts hol e))];exact h3 t ht
    · by_cases hij : i = j
      · subst hij
        obtain rfl : oj = o:=Option.some.inj (hj.symm.trans hol)
        rw [hd,put_getD_self _ _ _ (by rw [h2];exact hlt' t (mem_dsts hj hd))]
        exact r1
      · rw [getD_set_ne false hij] at hSj
        rw [put_getD _ _ _ _ (fun e => hij (dst_ne hnd hol hj e hd))]
        exact r3 j _ (h5 j oj t hj hSj hd)
   unfold Oper.wp
   generalize (execOp a.eval o).run P w = r at hs
   cases r with
   | ok n w' =>
     cases n <;> simp only [gets] at hs <;> simp only [Oper.upon]
     case value u => exact step _ _ hs
     case skip => exact step _ _ hs
     case enter f args => exact hs.mono fun e w'' ⟨v,he,h⟩ => by subst he;exact step _ _ h
   | halt x w' => simp only [gets] at hs
  induction fuel with
  | zero =>
    intro S a w hn hFit hI
    have hS : ∀ i,S.getD i true = true:=fun i => by rw [Stage.getD_toList];exact Stage.all_of_count hn i
    refine ⟨?_,fin S a w hFit hS hI⟩
    cases hr : Region.ready .any l.toArray S with
    | nil => rfl
    | cons i r =>
      have:=(mem_ready.1 (show i ∈ Region.ready .any l.toArray S by rw [hr];simp)).1
      rw [hS i] at this;cases this
  | succ fuel ih =>
    intro S a w hn hFit hI
    refine ⟨fun h0 => ?_,fun i hi => ?_⟩
    · refine fin S a w hFit (fun i => ?_) hI
      induction i using Nat.strongRecOn with
      | _ i ihi =>
        cases hx : S.getD i true with
        | true => rfl
        | false =>
          exfalso
          have hil : i < l.length:=by
           rcases Nat.lt_or_ge i S.size with h' | h'
           · rw [hFit.size] at h';simpa using h'
           · simp [Array.getElem?_eq_none h'] at hx
          have hup:=List.all_eq_true.1 hns i (List.mem_range.2 hil)
          rw [List.getElem?_eq_getElem hil] at hup
          have hr : i ∈ Region.ready .any l.toArray S:=by
           refine mem_ready.2 ⟨hx,l[i],by simp [hil],fun e he hbe => ?_⟩
           have h1 : e.on < i:=by
            have:=Array.all_eq_true_iff_forall_mem.1 hup e he
            simpa [hbe] using this
           have h2:=ihi e.on h1
           have h3 : e.on < S.size:=by rw [hFit.size];simp;omega
           simp [h3] at h2 ⊢;exact h2
          rw [h0] at hr;cases hr
    · have hun:=(mem_ready.1 hi).1
      have hc : (S.setIfInBounds i true).toList.count false = fuel:=by
       rw [Array.toList_setIfInBounds]
       have:=Stage.count_set (l:=S.toList) (i:=i) (by rw [← Stage.getD_toList];exact hun)
       omega
      exact one S a w _ hFit hI i hi (fun a' w' hI' => ih _ a' w' hc (hFit.set hi) hI')
 refine wp_region_any hm (main _ _ _ _ (by simp) (by simpa using Stage.Fit.start (md:=.any) (ops:=l.toArray)) ⟨rfl,rfl,fun _ _ => rfl,hF,fun i o t _ h _ => ?_⟩)
 rw [getD_replicate_false] at h;cases h
theorem wp_grow {id : Nat} {Q : Exit → Act → World → Prop} {a0 : Act} {w0 : World} {l : List Oper} (hm : P.follows .mixedOrders = true) (hB : okB l a0.tmps.size = true)
 (R : Nat → Value → World → Prop) (hR : ∀ j u w w',RowKit.Below w.heap.size w w' → R j u w → R j u w')
 (hstep : ∀ i o,l[i]? = some o → ∀ (a : Act) (w : World),(∀ t,t ∉ dsts l → a.eval (.tmp t) = a0.eval (.tmp t)) →
   (∀ j oj t,Region.waitsFor .any l.toArray i j = true → l[j]? = some oj → oj.dst = some t → R j (a.eval (.tmp t)) w) → RowKit.Below w0.heap.size w0 w →
   gets P (fun v w' => R i v w' ∧ RowKit.Below w.heap.size w w') ((execOp a.eval o).run P w))
 (hend : ∀ (vs : Nat → Value) (w' : World),(∀ i,i < l.length → (∀ o,l[i]? = some o → o.dst.isSome = true) → R i (vs i) w') → RowKit.Below w0.heap.size w0 w' → Q .normal (puts a0 l 0 vs) w') : (Code.region id l.toArray true).wp P Q a0 w0:=by
 refine wp_region hm hB (fun w => RowKit.Below w0.heap.size w0 w) R (RowKit.Below.refl _ _).drew (fun i o hi a w h1 h2 h3 => ?_) hend
 have hs:=hstep i o hi a w h1 h2 h3
 generalize (execOp a.eval o).run P w = r at hs
 have key : ∀ v w',(R i v w' ∧ RowKit.Below w.heap.size w w') → R i v w' ∧ RowKit.Below w0.heap.size w0 w' ∧ ∀ j u,R j u w → R j u w':=fun v w' ⟨k1,k2⟩ =>
  ⟨k1,h3.trans (k2.mono h3.size),fun j u hj => hR j u w w' k2 hj⟩
 cases r with
 | ok n w' =>
   cases n <;> simp only [gets] at hs ⊢
   case value u => exact key _ _ hs
   case skip => exact key _ _ hs
   case enter f args => exact hs.mono fun e w'' ⟨v,he,h⟩ => ⟨v,he,key _ _ h⟩
 | halt x w' => simp only [gets] at hs

section
variable {K : Value → World → Prop} {a : Act} {o : Oper} {w w' : World}
theorem g_move (x : Operand) (ho : o.op = .move x) (h : K (a.eval x) w) : gets P K ((execOp a.eval o).run P w):=by
 unfold execOp;simp only [ho,Sem.run_pure,gets];exact h
theorem g_assign (x : Operand) (ho : o.op = .assign x) (h : K (a.eval x) w) : gets P K ((execOp a.eval o).run P w):=by
 unfold execOp;simp only [ho,Sem.run_pure,gets];exact h
theorem g_load {v p : Value} (t : TypeId) (x : Operand) (ho : o.op = .load t x) (hx : a.eval x = p) (hr : (Instr.loadAt t p).run P w = .ok v w') (h : K v w') : gets P K ((execOp a.eval o).run P w):=by
 unfold execOp;simp only [ho,hx,Sem.run_bind,hr,Result.andThen_ok,Sem.run_pure,gets];exact h
theorem g_field {v p : Value} (t : TypeId) (x : Operand) (f : Nat) (ho : o.op = .fieldAddr t x f) (hx : a.eval x = p) (hr : (Instr.fieldAt t p f).run P w = .ok v w') (h : K v w') : gets P K ((execOp a.eval o).run P w):=by
 unfold execOp;simp only [ho,hx,Sem.run_bind,hr,Result.andThen_ok,Sem.run_pure,gets];exact h
theorem g_indexAddr {v p q : Value} (t : TypeId) (x y : Operand) (ho : o.op = .indexAddr t x y) (hx : a.eval x = p) (hy : a.eval y = q) (hr : (Instr.indexAt t p q).run P w = .ok v w') (h : K v w') : gets P K ((execOp a.eval o).run P w):=by
 unfold execOp;simp only [ho,hx,hy,Sem.run_bind,hr,Result.andThen_ok,Sem.run_pure,gets];exact h
theorem g_bin {v p q : Value} (op : BinOp) (t u : TypeId) (x y : Operand) (ho : o.op = .binOp op t x y u) (hx : a.eval x = p) (hy : a.eval y = q) (hr : (do eqGuard op t x y p q;binOp op t p q : Sem Value).run P w = .ok v w') (h : K v w') : gets P K ((execOp a.eval o).run P w):=by
 unfold execOp;simp only [ho,hx,hy];rw [Sem.run_bind,hr];simp only [Result.andThen_ok,Sem.run_pure,gets];exact h
theorem g_build (t : TypeId) (parts : Array (Nat × Operand)) (ho : o.op = .build t parts) (cells : Array Value) (vs : List (Nat × Value)) (hv : (parts.toList.map fun (i,x) => (i,a.eval x)) = vs) (hb : P.built t vs = some cells) (h : K (.agg cells) w) : gets P K ((execOp a.eval o).run P w):=by
 subst hv
 have hr:=run_build (P:=P) w t (parts.map fun (i,x) => (i,a.eval x)) cells (by rw [Array.toList_map];exact hb)
 unfold execOp
 simp only [ho,Sem.run_bind,hr,Result.andThen_ok,Sem.run_pure,gets];exact h
theorem run_enter {f : FuncId} {fn : Func} {c : Code} (hf : P.funcs[f]? = some fn) (hname : (fn.name == "runtime.NumGoroutine") = false) (hb : fn.body = some c) (args : Array Value) (w : World) :
 (callFunc f args).run P w = .ok (.enter f args) w:=by
 have h1 : fn.name ≠ "runtime.NumGoroutine":=by simpa using hname
 simp [callFunc,hf,h1,hb]
theorem g_call {f : FuncId} {fn : Func} {c : Code} (args : Array Operand) (ats : Array TypeId) (ho : o.op = .call { callee:=.value (.func f),args:=args,argTypes:=ats }) (hf : P.funcs[f]? = some fn) (hname : (fn.name == "runtime.NumGoroutine") = false) (hb : fn.body = some c)
 (vs : List Value) (hv : args.toList.map a.eval = vs) (h : Calls P f vs.toArray w (fun e w'' => ∃ v,e = .returned v ∧ K v w'')) : gets P K ((execOp a.eval o).run P w):=by
 have hv' : args.map a.eval = vs.toArray:=by rw [← hv];apply Array.ext';simp
 have hr:=run_enter (P:=P) hf hname hb (vs.toArray) w
 unfold execOp
 simp only [ho,resolve,hv',Act.eval,Deferred.ofValue,Sem.run_bind,Sem.run_pure,Result.andThen_ok,invoke,Array.append_empty,Array.empty_append,hr,gets]
 exact h
theorem at_call {C : World → Prop} {v : Value} {f : FuncId} {fn : Func} {c : Code} (args : Array Operand) (ats : Array TypeId) (ho : o.op = .call { callee:=.value (.func f),args:=args,argTypes:=ats }) (hf : P.funcs[f]? = some fn) (hname : (fn.name == "runtime.NumGoroutine") = false) (hb : fn.body = some c)
 (vs : List Value) (hv : args.toList.map a.eval = vs) (h : Calls P f vs.toArray w (fun e w'' => e = .returned v ∧ C w'')) : Stage.at_ P o a C w v:=by
 have hv' : args.map a.eval = vs.toArray:=by rw [← hv];apply Array.ext';simp
 have hr:=run_enter (P:=P) hf hname hb (vs.toArray) w
 unfold Stage.at_ execOp
 simp only [ho,resolve,hv',Act.eval,Deferred.ofValue,Sem.run_bind,Sem.run_pure,Result.andThen_ok,invoke,Array.append_empty,Array.empty_append,hr,Stage.upon]
 exact h
theorem at_load {C : World → Prop} {v p : Value} (t : TypeId) (x : Operand) (ho : o.op = .load t x) (hx : a.eval x = p) (hr : (Instr.loadAt t p).run P w = .ok v w) (h : C w) : Stage.at_ P o a C w v:=by
 unfold Stage.at_ execOp;simp only [ho,hx,Sem.run_bind,hr,Result.andThen_ok,Sem.run_pure,Stage.upon];exact ⟨trivial,h⟩
end
end
end Free
end

section
namespace Free
section
variable {P : Program}
def okG (l : List Oper) (n : Nat) : Bool:=upB l && decide (dsts l).Nodup && (dsts l).all (fun t => decide (t < n))
def Comes (P : Program) (l : List Oper) (a : Act) (o : Oper) (w : World) (K : Value → World → Prop) : Prop :=
 (Region.wanted o (yielded l.toArray a.tmps) = true ∧ gets P K ((execOp a.eval o).run P w)) ∨ (Region.wanted o (yielded l.toArray a.tmps) = false ∧ K undef w)
theorem wp_guarded {id : Nat} {Q : Exit → Act → World → Prop} {a0 : Act} {w0 : World} {l : List Oper} (hm : P.follows .mixedOrders = true) (hB : okG l a0.tmps.size = true)
 (F : World → Prop) (V : Nat → Value → Prop) (hF : F w0.drew)
 (hstep : ∀ i o,l[i]? = some o → ∀ (a : Act) (w : World),(∀ t,t ∉ dsts l → a.eval (.tmp t) = a0.eval (.tmp t)) →
   (∀ j oj t,Region.waitsFor .any l.toArray i j = true → l[j]? = some oj → oj.dst = some t → V j (a.eval (.tmp t))) → F w →
   Comes P l a o w (fun v w' => V i v ∧ F w'))
 (hend : ∀ (vs : Nat → Value) (w' : World),(∀ i,i < l.length → (∀ o,l[i]? = some o → o.dst.isSome = true) → V i (vs i)) → F w' → Q .normal (puts a0 l 0 vs) w') : (Code.region id l.toArray true).wp P Q a0 w0:=by
 simp only [okG,Bool.and_eq_true,decide_eq_true_eq] at hB
 obtain ⟨⟨hns,hnd⟩,hlt⟩:=hB
 have hlt' : ∀ t ∈ dsts l,t < a0.tmps.size:=fun t ht => by simpa using List.all_eq_true.1 hlt t ht
 let Inv : Array Bool → Act → World → Prop:=fun S a w => a.defers = a0.defers ∧ a.tmps.size = a0.tmps.size ∧ (∀ t,t ∉ dsts l → a.tmps.getD t undef = a0.tmps.getD t undef) ∧ F w ∧
  ∀ i o t,l[i]? = some o → S.getD i false = true → o.dst = some t → V i (a.tmps.getD t undef)
 have main : ∀ (fuel : Nat) (S : Array Bool) (a : Act) (w : World),S.toList.count false = fuel → Stage.Fit .any l.toArray S → Inv S a w → wpAny P .any l.toArray Q fuel S a w:=by
  intro fuel
  have fin : ∀ (S : Array Bool) (a : Act) (w : World),Stage.Fit .any l.toArray S → (∀ i,S.getD i true = true) → Inv S a w → Q .normal a w:=by
   rintro S a w hFit hS ⟨h1,h2,h3,h4,h5⟩
   have e : a = puts a0 l 0 (fun i => match l[i]? with | some o => slot a o | none => undef):=by
    have hp:=puts_size l a0 0 (fun i => match l[i]? with | some o => slot a o | none => undef)
    refine act_ext (h1.trans hp.2.symm) (h2.trans hp.1.symm) (fun t ht => ?_)
    by_cases hm : t ∈ dsts l
    · obtain ⟨o,ho,e⟩:=List.mem_filterMap.1 hm
      obtain ⟨i,hi⟩:=List.getElem?_of_mem ho
      rw [puts_new l a0 0 _ i o t hnd hi e (hlt' t hm),Nat.zero_add]
      simp only [hi,slot,e]
    · rw [puts_old _ _ _ _ _ hm];exact h3 t hm
   rw [e]
   refine hend _ w (fun i hi hd => ?_) h4
   have hi' : l[i]? = some l[i]:=List.getElem?_eq_getElem hi
   simp only [hi']
   obtain ⟨t,ht⟩:=Option.isSome_iff_exists.1 (hd _ hi')
   have hSi : S.getD i false = true:=by
    have h1:=hS i
    have : i < S.size:=by rw [hFit.size];simpa using hi
    simp [this] at h1 ⊢;exact h1
   have:=h5 i _ t hi' hSi ht
   unfold slot;rw [ht];exact this
  have one : ∀ (S : Array Bool) (a : Act) (w : World) (K : Act → World → Prop),Stage.Fit .any l.toArray S → Inv S a w → ∀ i ∈ Region.ready .any l.toArray S,(∀ a' w',Inv (S.setIfInBounds i true) a' w' → K a' w') → wpOp P l.toArray Q i K a w:=by
   rintro S a w K hFit ⟨h1,h2,h3,h4,h5⟩ i hi hK
   obtain ⟨hun,o,ho,hall⟩:=mem_ready.1 hi
   have hol : l[i]? = some o:=by simpa using ho
   unfold wpOp
   simp only [ho]
   have hpre : ∀ j oj t,Region.waitsFor .any l.toArray i j = true → l[j]? = some oj → oj.dst = some t → V j (a.eval (.tmp t)):=by
    intro j oj t hwt hj hd
    have hc:=Stage.came hi hwt
    have hSj : S.getD j false = true:=by
     have hjl : j < S.size:=by rw [hFit.size];simpa using (List.getElem?_eq_some_iff.1 hj).1
     simp [hjl] at hc ⊢;exact hc
    exact h5 j oj t hj hSj hd
   have hs:=hstep i o hol a w (fun t ht => h3 t ht) hpre h4
   have step : ∀ v w',(V i v ∧ F w') → K (a.put o.dst v) w':=by
    rintro v w' ⟨r1,r2⟩
    refine hK _ _ ⟨by rw [put_defers];exact h1,by rw [put_size];exact h2,fun t ht => ?_,r2,fun j oj t hj hSj hd => ?_⟩
    · rw [put_getD _ _ _ _ (fun e => ht (mem_dsts hol e))];exact h3 t ht
    · by_cases hij : i = j
      · subst hij
        obtain rfl : oj = o:=Option.some.inj (hj.symm.trans hol)
        rw [hd,put_getD_self _ _ _ (by rw [h2];exact hlt' t (mem_dsts hj hd))]
        exact r1
      · rw [getD_set_ne false hij] at hSj
        rw [put_getD _ _ _ _ (fun e => hij (dst_ne hnd hol hj e hd))]
        exact h5 j oj t hj hSj hd
   rcases hs with ⟨hw,hs⟩ | ⟨hw,hs⟩
   case inr => rw [if_neg (by rw [hw];exact Bool.false_ne_true)];exact step _ _ hs
   rw [if_pos hw]
   refine .inl ?_
   unfold Oper.wp
   generalize (execOp a.eval o).run P w = r at hs
   cases r with
   | ok n w' =>
     cases n <;> simp only [gets] at hs <;> simp only [Oper.upon]
     case value u => exact step _ _ hs
     case skip => exact step _ _ hs
     case enter f args => exact hs.mono fun e w'' ⟨v,he,h⟩ => by subst he;exact step _ _ h
   | halt x w' => simp only [gets] at hs
  induction fuel with
  | zero =>
    intro S a w hn hFit hI
    have hS : ∀ i,S.getD i true = true:=fun i => by rw [Stage.getD_toList];exact Stage.all_of_count hn i
    refine ⟨?_,fin S a w hFit hS hI⟩
    cases hr : Region.ready .any l.toArray S with
    | nil => rfl
    | cons i r =>
      have:=(mem_ready.1 (show i ∈ Region.ready .any l.toArray S by rw [hr];simp)).1
      rw [hS i] at this;cases this
  | succ fuel ih =>
    intro S a w hn hFit hI
    refine ⟨fun h0 => ?_,fun i hi => ?_⟩
    · refine fin S a w hFit (fun i => ?_) hI
      induction i using Nat.strongRecOn with
      | _ i ihi =>
        cases hx : S.getD i true with
        | true => rfl
        | false =>
          exfalso
          have hil : i < l.length:=by
           rcases Nat.lt_or_ge i S.size with h' | h'
           · rw [hFit.size] at h';simpa using h'
           · simp [Array.getElem?_eq_none h'] at hx
          have hup:=List.all_eq_true.1 hns i (List.mem_range.2 hil)
          rw [List.getElem?_eq_getElem hil] at hup
          have hr : i ∈ Region.ready .any l.toArray S:=by
           refine mem_ready.2 ⟨hx,l[i],by simp [hil],fun e he hbe => ?_⟩
           have h1 : e.on < i:=by
            have:=Array.all_eq_true_iff_forall_mem.1 hup e he
            simpa [hbe] using this
           have h2:=ihi e.on h1
           have h3 : e.on < S.size:=by rw [hFit.size];simp;omega
           simp [h3] at h2 ⊢;exact h2
          rw [h0] at hr;cases hr
    · have hun:=(mem_ready.1 hi).1
      have hc : (S.setIfInBounds i true).toList.count false = fuel:=by
       rw [Array.toList_setIfInBounds]
       have:=Stage.count_set (l:=S.toList) (i:=i) (by rw [← Stage.getD_toList];exact hun)
       omega
      exact one S a w _ hFit hI i hi (fun a' w' hI' => ih _ a' w' hc (hFit.set hi) hI')
 refine wp_region_any hm (main _ _ _ _ (by simp) (by simpa using Stage.Fit.start (md:=.any) (ops:=l.toArray)) ⟨rfl,rfl,fun _ _ => rfl,hF,fun i o t _ h _ => ?_⟩)
 rw [getD_replicate_false] at h;cases h

theorem getD_bool {t : Tmp} {b : Bool} {T : Array Value} (h : T.getD t undef = .bool b) : T[t]? = some (.bool b):=by
 rcases Nat.lt_or_ge t T.size with h' | h'
 · simp [h'] at h ⊢;exact h
 · simp [h',undef] at h
section
variable {l : List Oper} {a : Act} {o oj : Oper} {w : World} {K : Value → World → Prop} {j : Nat} {t : Tmp} {want b : Bool}
theorem c_all (hg : o.guard = none) (h : gets P K ((execOp a.eval o).run P w)) : Comes P l a o w K:=.inl ⟨by simp [Region.wanted,hg],h⟩
theorem c_yes (hg : o.guard = some (j,want)) (hj : l[j]? = some oj) (hd : oj.dst = some t) (hv : a.eval (.tmp t) = .bool want) (h : gets P K ((execOp a.eval o).run P w)) : Comes P l a o w K:=by
 have hv' : a.tmps.getD t undef = .bool want:=hv
 refine .inl ⟨?_,h⟩
 simp [Region.wanted,hg,yielded,hj,hd,getD_bool hv']
theorem c_no (hg : o.guard = some (j,want)) (hj : l[j]? = some oj) (hd : oj.dst = some t) (hv : a.eval (.tmp t) = .bool (!want)) (h : K undef w) : Comes P l a o w K:=by
 have hv' : a.tmps.getD t undef = .bool (!want):=hv
 refine .inr ⟨?_,h⟩
 simp [Region.wanted,hg,yielded,hj,hd,getD_bool hv']
end
section
variable {K : Value → World → Prop} {a : Act} {o : Oper} {w w' : World}
theorem g_pick {u v : Value} {b : Bool} (c x y : Operand) (ho : o.op = .pick c x y) (hc : a.eval c = .bool b) (hx : a.eval x = u) (hy : a.eval y = v) (h : K (if b then u else v) w) : gets P K ((execOp a.eval o).run P w):=by
 unfold execOp
 simp only [ho,hc,hx,hy,Sem.run_bind,asBool,Sem.run_pure,Result.andThen_ok,gets]
 exact h
end
section
variable (w : World) (x y : Operand)
end
end
end Free
end

section
open Go.RowKit
namespace Stage
section
variable {P : Program} {ops : Array Oper} {md : Region.Mode} {K1 K2 : Nat} {D : Bool → Bool → World → Prop}
theorem two_step {i : Nat} (hl : (decide (i ≠ K1) && decide (i ≠ K2) && leads md ops 8 i K2) = true) {o : Oper} {a : Act} {v : Value} (h : ∀ b w,D b false w → at_ P o a (D b false) w v) :
 ∀ S w,Fit md ops S → i ∈ Region.ready md ops S → two K1 K2 D S w → at_ P o a (two K1 K2 D (S.setIfInBounds i true)) w v:=by
 simp only [Bool.and_eq_true,decide_eq_true_eq] at hl
 intro S w hF hi hS
 have hn:=hF.before 8 i (mem_ready.1 hi).1 hl.2
 unfold two at *
 rw [getD_set_ne true hl.1.1,getD_set_ne true hl.1.2,hn]
 rw [hn] at hS
 exact h _ w hS
end
end Stage
end

section
def St.part (g : Bool) (a b : St) (k : Nat) : St:=⟨a.d,pk g a.e b.e,if 0 < k then pk g a.x b.x else 0,if 1 < k then pk g a.y b.y else 0,if 2 < k then pk g a.z b.z else 0⟩
theorem pk_same (g : Bool) (m : Int) : pk g m m = m:=by unfold pk;cases g <;> simp
theorem part_d (g : Bool) (a b : St) (h : a.B b) {n : Nat} (hn : a.d = n) : St.part g a b n = St.pick g a b:=by
 unfold St.pick;rw [if_pos h]
 obtain ⟨h1,h2,h3⟩:=h
 unfold St.R at h1 h2
 refine St.ext' rfl rfl ?_ ?_ ?_
 · show (if 0 < n then pk g a.x b.x else 0) = pk g a.x b.x
   by_cases hk : 0 < n
   · rw [if_pos hk]
   · rw [if_neg hk,show a.x = 0 by omega,show b.x = 0 by omega,pk_same]
 · show (if 1 < n then pk g a.y b.y else 0) = pk g a.y b.y
   by_cases hk : 1 < n
   · rw [if_pos hk]
   · rw [if_neg hk,show a.y = 0 by omega,show b.y = 0 by omega,pk_same]
 · show (if 2 < n then pk g a.z b.z else 0) = pk g a.z b.z
   by_cases hk : 2 < n
   · rw [if_pos hk]
   · rw [if_neg hk,show a.z = 0 by omega,show b.z = 0 by omega,pk_same]
def wz (W : World) (b : Bool) : World:=if b then W.alloc (.cells #[.int .i64 0,.int .i64 0,.int .i64 0,.int .i64 0,.int .i64 0] 27) else W
theorem wz_below {W w' : World} {b : Bool} (h : w' = wz W b) : Below W.heap.size W w':=by
 subst h;cases b
 · exact Below.refl _ _
 · exact (Below.refl _ _).alloc (Nat.le_refl _) _
section
variable {P : Program} {o : Oper} {a : Act} {C : World → Prop} {w w' : World} {v : Value}
theorem at_of (hr : (execOp a.eval o).run P w = .ok (.value v) w) (h : C w) : Stage.at_ P o a C w v:=by unfold Stage.at_;rw [hr];exact ⟨rfl,h⟩
theorem at_made (hr : (execOp a.eval o).run P w = .ok (.value v) w') (h : C w') : Stage.at_ P o a C w v:=by unfold Stage.at_;rw [hr];exact ⟨rfl,h⟩
theorem at_skip (hr : (execOp a.eval o).run P w = .ok .skip w') (h : C w') : Stage.at_ P o a C w undef:=by unfold Stage.at_;rw [hr];exact ⟨rfl,h⟩
theorem at_fn {f : FuncId} {fn : Func} {c : Code} (x : Operand) (args : Array Operand) (ats : Array TypeId) (ho : o.op = .call { callee:=.value x,args:=args,argTypes:=ats }) (hx : a.eval x = .func (.func f) #[] #[]) (hf : P.funcs[f]? = some fn) (hname : (fn.name == "runtime.NumGoroutine") = false) (hb : fn.body = some c)
 (vs : List Value) (hv : args.toList.map a.eval = vs) (h : Calls P f vs.toArray w (fun e w'' => e = .returned v ∧ C w'')) : Stage.at_ P o a C w v:=by
 have hv' : args.map a.eval = vs.toArray:=by rw [← hv];apply Array.ext';simp
 have hr:=Free.run_enter (P:=P) hf hname hb (vs.toArray) w
 unfold Stage.at_ execOp
 simp only [ho,resolve,hv',hx,Deferred.ofValue,Sem.run_bind,Sem.run_pure,Result.andThen_ok,invoke,Array.append_empty,Array.empty_append,hr,Stage.upon]
 exact h
end
end

section
set_option maxHeartbeats 4000000 in
theorem both_yes_greater (a b : St) (n : Nat) (w : World) (hn : a.d = n) (h : a.B b) :
 Calls Tryz.prog 132 #[a.val,b.val,.func (.func 133) #[] #[]] w fun e w' => e = .returned (.tuple #[(St.part true a b n).val,.bool true]) ∧ Below w.heap.size w w':=by
 have hn3 : n ≤ 3:=by have:=h.1;unfold St.R at this;omega
 obtain ⟨ha,hb,hd⟩:=h
 have HA:=Hd (right_is (decide_eq_true ha) (right_any a));have HB:=Hd (right_is (decide_eq_true hb) (right_any b));clear ha hb
 obtain ⟨d,e,x,y,z⟩:=a
 obtain ⟨d',e',x',y',z'⟩:=b
 unfold St.val at *
 simp only at hd hn HA HB ⊢
 subst hd
 subst hn
 have hz:=zero_made ((w.alloc (.cells #[.int .i64 (n : Int),.int .i64 e,.int .i64 x,.int .i64 y,.int .i64 z] 27)).alloc (.cells #[.int .i64 (n : Int),.int .i64 e',.int .i64 x',.int .i64 y',.int .i64 z'] 27))
 have hya:=((Holds.made w ⟨(n : Int),e,x,y,z⟩).alloc (.cells #[.int .i64 (n : Int),.int .i64 e',.int .i64 x',.int .i64 y',.int .i64 z'] 27)).alloc (.cells #[.int .i64 0,.int .i64 0,.int .i64 0,.int .i64 0,.int .i64 0] 27)
 have hyb:=(Holds.made (w.alloc (.cells #[.int .i64 (n : Int),.int .i64 e,.int .i64 x,.int .i64 y,.int .i64 z] 27)) ⟨(n : Int),e',x',y',z'⟩).alloc (.cells #[.int .i64 0,.int .i64 0,.int .i64 0,.int .i64 0,.int .i64 0] 27)
 rw [size_alloc,size_alloc] at hz
 rw [size_alloc] at hyb
 have HZ:=Hd hz;have HYA:=Hd hya;have HYB:=Hd hyb;clear hz hya hyb
 go_enter Tryz.func132,Tryz.ntmps132
 go_wp2_with fail
 refine (HA.out _).mono ?_;rintro e1 w1 ⟨rfl,hb1⟩
 obtain ⟨hc1,hf1⟩:=old_cells hb1
 have HB1:=Hd hb1;clear hb1
 go_wp2_with fail
 refine (HB.out _).mono ?_;rintro e2 w2 ⟨rfl,hb2⟩
 have hb12:=HB1.out.trans (hb2.mono HB1.out.size)
 clear hc1 hf1
 have h0:=HYA.out.below hb12;have h1:=HYB.out.below hb12;have h2:=HZ.out.below hb12
 have hbw:=below3 hb12
 have hsz:=hb12.size
 simp only [size_alloc] at hsz
 obtain ⟨a0,a1,a2,a3,a4⟩:=h0.cells5
 obtain ⟨b0,b1,b2,b3,b4⟩:=h1.cells5
 simp only at a0 a1 a2 a3 a4 b0 b1 b2 b3 b4
 have H0:=Hd h0;have H1:=Hd h1;have H2:=Hd h2;have HW:=Hd hbw
 clear h0 h1 h2 hb12 hb2 hbw HB1 HYA HYB HZ
 have n0 : w.heap.size < w2.heap.size:=by omega
 have n1 : w.heap.size + 1 < w2.heap.size:=by omega
 have n2 : w.heap.size + 1 + 1 < w2.heap.size:=by omega
 have m0 : w.heap.size ≠ w2.heap.size:=by omega
 have m1 : w.heap.size + 1 ≠ w2.heap.size:=by omega
 have m2 : w.heap.size + 1 + 1 ≠ w2.heap.size:=by omega
 clear hsz
 go_wp2_with fail
 have h0:=H0.out.drewN 1;have h1:=H1.out.drewN 1;have h2:=H2.out.drewN 1;have hbw:=below_drewN HW.out 1
 have q2 : w.heap.size + 1 + 1 < (w2.drewN 1).heap.size:=n2
 clear a0 a1 a2 a3 a4 b0 b1 b2 b3 b4 H0 H1 H2 HW n0 n1 n2 m0 m1 m2
 have hdr : w2.drew = w2.drewN 1:=rfl
 have HDR:=Hd hdr;clear hdr
 obtain ⟨W,hW⟩ : ∃ W,W = w2.drewN 1:=⟨_,rfl⟩
 rw [← hW] at h0 h1 h2 hbw q2
 rw [← hW] at HDR
 clear hW
 have H0:=Hd h0;have H1:=Hd h1;have H2:=Hd h2;have HW:=Hd hbw;have HQ:=Hd q2
 clear h0 h1 h2 hbw q2
 refine Stage.wp_region (by kernel_rfl) (by kernel_rfl) (Stage.two 9 10 (fun b1 b2 w' => w' = if b2 then W.alloc (.cells #[.int .i64 (n : Int),.int .i64 (pk true e e'),.int .i64 0,.int .i64 0,.int .i64 0] 27) else wz W b1)) (Stage.two_start (by simp) (by simp) HDR.out) ?_
 refine Stage.wpSt_do (.pointer (some ⟨w.heap.size,0,none⟩)) rfl (Stage.two_step (by kernel_rfl) (fun b w' hw => ?_)) ?_
 · exact at_of (by go_simp) hw
 go_simp
 refine Stage.wpSt_do (.int .i64 (n : Int)) rfl (Stage.two_step (by kernel_rfl) (fun b w' hw => ?_)) ?_
 · exact Free.at_load _ _ rfl rfl (load_d H0.out w' (wz_below hw)) hw
 go_simp
 refine Stage.wpSt_do (.func (.func 133) #[] #[]) rfl (Stage.two_step (by kernel_rfl) (fun b w' hw => ?_)) ?_
 · exact at_of (by go_simp) hw
 go_simp
 refine Stage.wpSt_do (.pointer (some ⟨w.heap.size,1,none⟩)) rfl (Stage.two_step (by kernel_rfl) (fun b w' hw => ?_)) ?_
 · exact at_of (by go_simp) hw
 go_simp
 refine Stage.wpSt_do (.int .i64 e) rfl (Stage.two_step (by kernel_rfl) (fun b w' hw => ?_)) ?_
 · exact Free.at_load _ _ rfl rfl (load_e H0.out w' (wz_below hw)) hw
 go_simp
 refine Stage.wpSt_do (.pointer (some ⟨w.heap.size + 1,1,none⟩)) rfl (Stage.two_step (by kernel_rfl) (fun b w' hw => ?_)) ?_
 · exact at_of (by go_simp) hw
 go_simp
 refine Stage.wpSt_do (.int .i64 e') rfl (Stage.two_step (by kernel_rfl) (fun b w' hw => ?_)) ?_
 · exact Free.at_load _ _ rfl rfl (load_e H1.out w' (wz_below hw)) hw
 go_simp
 refine Stage.wpSt_do (.int .i64 (pk true e e')) rfl (Stage.two_step (by kernel_rfl) (fun b w' hw => ?_)) ?_
 · refine at_fn (f:=133) _ _ _ rfl rfl Tryz.func133 (by kernel_rfl) rfl [.int .i64 e,.int .i64 e'] rfl ((greater_any _ _ _).mono fun _ _ h => ⟨h.1,by rw [h.2];exact hw⟩)
 go_simp
 refine Stage.wpSt_do (.agg #[.int .i64 (n : Int),.int .i64 (pk true e e'),.int .i64 0,.int .i64 0,.int .i64 0]) rfl (Stage.two_step (by kernel_rfl) (fun b w' hw => ?_)) ?_
 · exact at_of (by go_simp) hw
 go_simp
 refine Stage.wpSt_do (.pointer (some ⟨W.heap.size,0,none⟩)) rfl (Stage.two_first (by decide) (by kernel_rfl) (fun w' hw => ?_)) ?_
 · have hw' : w' = W:=hw
   clear hw;subst hw'
   exact at_made (w':=w'.alloc (.cells #[.int .i64 0,.int .i64 0,.int .i64 0,.int .i64 0,.int .i64 0] 27)) (by go_simp) rfl
 go_simp
 refine Stage.wpSt_do undef rfl (Stage.two_then (by decide) (by kernel_rfl) (fun w' hw => ?_)) ?_
 · have hw' : w' = W.alloc (.cells #[.int .i64 0,.int .i64 0,.int .i64 0,.int .i64 0,.int .i64 0] 27):=hw
   clear hw;subst hw'
   exact at_skip (w':=W.alloc (.cells #[.int .i64 (n : Int),.int .i64 (pk true e e'),.int .i64 0,.int .i64 0,.int .i64 0] 27)) (by go_simp) rfl
 go_simp
 refine Stage.wpSt_nil (Stage.two_end ?_)
 intro w3 hw3
 have hw4 : w3 = W.alloc (.cells #[.int .i64 (n : Int),.int .i64 (pk true e e'),.int .i64 0,.int .i64 0,.int .i64 0] 27):=hw3
 subst hw4
 have m0 : w.heap.size ≠ W.heap.size:=by have:=HQ.out;omega
 have m1 : w.heap.size + 1 ≠ W.heap.size:=by have:=HQ.out;omega
 have m2 : w.heap.size + 1 + 1 ≠ W.heap.size:=by have:=HQ.out;omega
 clear hw3
 go_wp2_with fail
 go_loopw [37] (fun i wr => ∃ k : Nat,k ≤ n ∧ i = .int .i64 k ∧ Holds wr w.heap.size ⟨(n : Int),e,x,y,z⟩ ∧ Holds wr (w.heap.size + 1) ⟨(n : Int),e',x',y',z'⟩ ∧ Holds wr (w.heap.size + 1 + 1) St.zero ∧ Holds wr W.heap.size (St.part true ⟨(n : Int),e,x,y,z⟩ ⟨(n : Int),e',x',y',z'⟩ k) ∧ Below w.heap.size w wr) (fun i _ => n - (intOf i).toNat)
 case atStart => exact ⟨0,by omega,rfl,H0.out.alloc _,H1.out.alloc _,H2.out.alloc _,Holds.made W (St.part true ⟨(n : Int),e,x,y,z⟩ ⟨(n : Int),e',x',y',z'⟩ 0),HW.out.alloc HW.out.size _⟩
 case round =>
  obtain ⟨k,hk,rfl,h0,h1,h2,h3,hbw⟩:=hrel
  obtain ⟨c0,c1,c2,c3,c4⟩:=h0.cells5
  obtain ⟨d0,d1,d2,d3,d4⟩:=h1.cells5
  obtain ⟨f0,f1,f2,f3,f4⟩:=h3.free5
  obtain ⟨e0,e1,e2,e3,e4⟩:=h3.cells5
  simp only at c0 c1 c2 c3 c4 d0 d1 d2 d3 d4
  have HH0:=Hd h0;have HH1:=Hd h1;have HH2:=Hd h2;have HH3:=Hd h3;have HHW:=Hd hbw
  clear h0 h1 h2 h3 hbw H0 H1 H2 c0 c1 d0 d1
  by_cases hlt : k < n
  · simp only [St.part] at e0 e1 e2 e3 e4
    clear e0 e1
    have hcase : k = 0 ∨ k = 1 ∨ k = 2:=by omega
    clear hk
    rcases hcase with rfl | rfl | rfl
    · go_wp2_with fail
      refine wp_tail 13 (by kernel_rfl) (by kernel_rfl) ?_
      simp only [List.take_succ_cons,List.take_zero,List.drop_succ_cons,List.drop_zero]
      repeat still_step
      still_call (greater_any _ _ _)
      repeat still_step
      refine wpStill_nil ?_
      go_wp2_with fail
      go_roundw
      case rel => exact ⟨1,by omega,rfl,(HH0.out.drewN 1).far (by have:=HQ.out;simp;omega) _,(HH1.out.drewN 1).far (by have:=HQ.out;simp;omega) _,(HH2.out.drewN 1).far (by have:=HQ.out;simp;omega) _,(HH3.out.drewN 1).set 2 _ (by simp [St.part]),(below_drewN HHW.out 1).setCell (by have:=HQ.out;simp;omega) _⟩
      case measure => simp [intOf];omega
    · go_wp2_with fail
      refine wp_tail 13 (by kernel_rfl) (by kernel_rfl) ?_
      simp only [List.take_succ_cons,List.take_zero,List.drop_succ_cons,List.drop_zero]
      repeat still_step
      still_call (greater_any _ _ _)
      repeat still_step
      refine wpStill_nil ?_
      go_wp2_with fail
      go_roundw
      case rel => exact ⟨2,by omega,rfl,(HH0.out.drewN 1).far (by have:=HQ.out;simp;omega) _,(HH1.out.drewN 1).far (by have:=HQ.out;simp;omega) _,(HH2.out.drewN 1).far (by have:=HQ.out;simp;omega) _,(HH3.out.drewN 1).set 3 _ (by simp [St.part]),(below_drewN HHW.out 1).setCell (by have:=HQ.out;simp;omega) _⟩
      case measure => simp [intOf];omega
    · go_wp2_with fail
      refine wp_tail 13 (by kernel_rfl) (by kernel_rfl) ?_
      simp only [List.take_succ_cons,List.take_zero,List.drop_succ_cons,List.drop_zero]
      repeat still_step
      still_call (greater_any _ _ _)
      repeat still_step
      refine wpStill_nil ?_
      go_wp2_with fail
      go_roundw
      case rel => exact ⟨3,by omega,rfl,(HH0.out.drewN 1).far (by have:=HQ.out;simp;omega) _,(HH1.out.drewN 1).far (by have:=HQ.out;simp;omega) _,(HH2.out.drewN 1).far (by have:=HQ.out;simp;omega) _,(HH3.out.drewN 1).set 4 _ (by simp [St.part]),(below_drewN HHW.out 1).setCell (by have:=HQ.out;simp;omega) _⟩
      case measure => simp [intOf];omega
  · obtain rfl : k = n:=by omega
    obtain ⟨z0,z1,z2,z3,z4⟩:=HH2.out.free5
    obtain ⟨y0,y1,y2,y3,y4⟩:=HH2.out.cells5
    obtain ⟨T,hT⟩ : ∃ T,T = St.part true ⟨(k : Int),e,x,y,z⟩ ⟨(k : Int),e',x',y',z'⟩ k:=⟨_,rfl⟩
    rw [← hT] at e0 e1 e2 e3 e4
    have HT:=Hd hT;clear hT
    go_wp2_with fail
    refine bodyPost_ret (v:=.tuple #[.agg #[.int .i64 T.d,.int .i64 T.e,.int .i64 T.x,.int .i64 T.y,.int .i64 T.z],.bool true]) (two_results rfl _ _ _ 27 _ (0,0) _ rfl (Holds.all HH2.out _ _ _ _ _) Tryz.underlying27 rfl (by kernel_rfl) rfl) rfl ?_
    exact ⟨by rw [HT.out],below_set5 (g:=w.heap.size + 1 + 1) HHW.out (by omega)⟩
end

section
theorem both_Join (a b : St) (w : World) : Calls Tryz.prog 132 #[a.val,b.val,.func (.func 133) #[] #[]] w fun e w' => e = .returned (.tuple #[(St.pick true a b).val,.bool (decide (a.B b))]) ∧ Below w.heap.size w w':=by
 by_cases h : a.B b
 · obtain ⟨n,hn⟩ : ∃ n : Nat,a.d = n:=⟨a.d.toNat,by have:=h.1;unfold St.R at this;omega⟩
   have:=both_yes_greater a b n w hn h
   rw [part_d _ _ _ h hn] at this
   rw [decide_eq_true h];exact this
 · have:=both_no_greater a b w h
   rw [decide_eq_false h,St.pick,if_neg h];exact this
theorem join_any (a b : St) (w : World) : Calls Tryz.prog 79 #[a.val,b.val] w fun e w' => e = .returned (.tuple #[(a.join b).val,.bool (decide (a.B b))]) ∧ Below w.heap.size w w':=by
 have hc:=fun w => both_Join a b w
 rw [pick_join] at hc
 generalize a.join b = T at *
 generalize decide (a.B b) = B at *
 have HC:=Hd hc;clear hc
 obtain ⟨d,e,x,y,z⟩:=a
 obtain ⟨d',e',x',y',z'⟩:=b
 obtain ⟨p,q,r,s,t⟩:=T
 unfold St.val at *
 simp only at HC ⊢
 have hz:=zero_made ((w.alloc (.cells #[.int .i64 d,.int .i64 e,.int .i64 x,.int .i64 y,.int .i64 z] 27)).alloc (.cells #[.int .i64 d',.int .i64 e',.int .i64 x',.int .i64 y',.int .i64 z'] 27))
 rw [size_alloc,size_alloc] at hz
 have HZ:=Hd hz;clear hz
 go_enter Tryz.func79,Tryz.ntmps79
 go_wp2_with fail
 refine (HC.out _).mono ?_;rintro e1 w1 ⟨rfl,hb1⟩
 have h2:=HZ.out.below hb1
 obtain ⟨f0,f1,f2,f3,f4⟩:=h2.free5
 obtain ⟨c0,c1,c2,c3,c4⟩:=h2.cells5
 have H2:=Hd h2;have HB:=Hd hb1;clear h2 hb1
 go_wp2_with fail
 refine bodyPost_ret (v:=.tuple #[.agg #[.int .i64 p,.int .i64 q,.int .i64 r,.int .i64 s,.int .i64 t],.bool B]) (two_results rfl _ _ _ 27 _ (0,0) _ rfl (Holds.all H2.out _ _ _ _ _) Tryz.underlying27 rfl (by kernel_rfl) rfl) rfl ?_
 exact ⟨rfl,below_set5 (g:=w.heap.size + 1 + 1) (below3 HB.out) (by omega)⟩
end

section
def ov (o : Option St) : St:=o.getD St.zero
theorem stBelow2 {w w' : World} {a b : Obj} (h : Below ((w.alloc a).alloc b).heap.size ((w.alloc a).alloc b) w') : Below w.heap.size w w' :=
 (((Below.refl _ _).alloc (Nat.le_refl _) _).alloc (by simp) _).trans (h.mono (by simp;omega))
end

section
theorem L_join (a b : St) (h : a.B b) : a.L b ↔ (a.join b).e = b.e ∧ (a.join b).x = b.x ∧ (a.join b).y = b.y ∧ (a.join b).z = b.z:=by
 rw [St.join_eq h]
 unfold St.B at h
 unfold St.L
 simp only
 constructor
 · rintro ⟨h1,h2,h3,h4,h5,h6,h7⟩;omega
 · rintro ⟨h1,h2,h3,h4⟩;exact ⟨h.1,h.2.1,h.2.2,by omega,by omega,by omega,by omega⟩
set_option maxHeartbeats 1000000 in
theorem leq_any (a b : St) (w : World) : Calls Tryz.prog 30 #[a.val,b.val] w fun e w' => e = .returned (.bool (decide (a.L b))) ∧ Below w.heap.size w w':=by
 have hc:=fun w => join_any a b w
 by_cases hB : a.B b
 · have hj:=L_join a b hB
   have hdec : decide (a.L b) = (((a.join b).e == b.e) && eqL (a.join b).x (a.join b).y (a.join b).z b.x b.y b.z):=by
    unfold eqL
    rw [Bool.eq_iff_iff]
    simp [hj]
   rw [decide_eq_true hB] at hc
   rw [hdec];clear hdec hj hB
   generalize a.join b = T at *
   have HC:=Hd hc;clear hc
   obtain ⟨d,e,x,y,z⟩:=a
   obtain ⟨d',e',x',y',z'⟩:=b
   obtain ⟨p,q,r,s,t⟩:=T
   unfold St.val at *
   simp only at HC ⊢
   have hy:=Holds.made (w.alloc (.cells #[.int .i64 d,.int .i64 e,.int .i64 x,.int .i64 y,.int .i64 z] 27)) ⟨d',e',x',y',z'⟩
   rw [size_alloc] at hy
   have HY:=Hd hy;clear hy
   have hE : ∀ w,(Op.equalIn 10000 25 (.agg #[.int .i64 r,.int .i64 s,.int .i64 t]) (.agg #[.int .i64 x',.int .i64 y',.int .i64 z'])).run Tryz.prog w = .ok (eqL r s t x' y' z') w:=fun w => eq3 9998 _ _ _ _ _ _ w
   generalize eqL r s t x' y' z' = v at *
   have HE:=Hd hE;clear hE
   by_cases hq : q = e'
   · subst hq
     rw [beq_self_eq_true,Bool.true_and]
     go_enter Tryz.func30,Tryz.ntmps30
     go_wp2_with fail
     refine (HC.out _).mono ?_;rintro e1 w1 ⟨rfl,hb1⟩
     have h2:=HY.out.below hb1
     have hbw:=stBelow2 hb1
     have hsz:=hb1.size
     simp only [size_alloc] at hsz
     obtain ⟨c0,c1,c2,c3,c4⟩:=h2.cells5
     simp only at c0 c1 c2 c3 c4
     have m1 : w.heap.size + 1 ≠ w1.heap.size:=by omega
     have m2 : w.heap.size + 1 < w1.heap.size:=by omega
     have hE:=HE.out
     have HB:=Hd hbw;clear h2 hb1 hbw hsz
     go_wp2_with fail
     go_ret
     exact ⟨rfl,HB.out.alloc HB.out.size _⟩
   · have hq' : (q == e') = false:=by rw [beq_eq_false_iff_ne];exact hq
     rw [hq',Bool.false_and]
     clear hq
     go_enter Tryz.func30,Tryz.ntmps30
     go_wp2_with fail
     refine (HC.out _).mono ?_;rintro e1 w1 ⟨rfl,hb1⟩
     have h2:=HY.out.below hb1
     have hbw:=stBelow2 hb1
     have hsz:=hb1.size
     simp only [size_alloc] at hsz
     obtain ⟨c0,c1,c2,c3,c4⟩:=h2.cells5
     simp only at c0 c1 c2 c3 c4
     have m1 : w.heap.size + 1 ≠ w1.heap.size:=by omega
     have m2 : w.heap.size + 1 < w1.heap.size:=by omega
     have HB:=Hd hbw;clear h2 hb1 hbw hsz
     go_wp2_with fail
     go_ret
     exact ⟨rfl,HB.out.alloc HB.out.size _⟩
 · have hl : decide (a.L b) = false:=by rw [decide_eq_false_iff_not];exact fun h => hB (St.L_B h)
   rw [decide_eq_false hB] at hc
   rw [hl];clear hl hB
   generalize a.join b = T at *
   have HC:=Hd hc;clear hc
   obtain ⟨d,e,x,y,z⟩:=a
   obtain ⟨d',e',x',y',z'⟩:=b
   obtain ⟨p,q,r,s,t⟩:=T
   unfold St.val at *
   simp only at HC ⊢
   go_enter Tryz.func30,Tryz.ntmps30
   go_wp2_with fail
   refine (HC.out _).mono ?_;rintro e1 w1 ⟨rfl,hb1⟩
   have HB:=Hd (stBelow2 hb1);clear hb1
   go_wp2_with fail
   go_ret
   exact ⟨rfl,HB.out.alloc HB.out.size _⟩
end

section
def or_ (p q : Int) : Int:=if p = 0 then q else p
def Ck (s0 s1 s2 s3 s4 : Int) : Nat → Int
 | 0 => or_ s0 s1
 | 1 => or_ (or_ s0 s1) s2
 | 2 => or_ (or_ (or_ s0 s1) s2) s3
 | _ => or_ (or_ (or_ (or_ s0 s1) s2) s3) s4
theorem Ck_C (a b : St) : Ck (sgn a.d b.d) (sgn a.e b.e) (sgn a.x b.x) (sgn a.y b.y) (sgn a.z b.z) 3 = a.C b:=by
 unfold St.C
 generalize sgn a.d b.d = s0
 generalize sgn a.e b.e = s1
 generalize sgn a.x b.x = s2
 generalize sgn a.y b.y = s3
 generalize sgn a.z b.z = s4
 by_cases h0 : s0 = 0 <;> by_cases h1 : s1 = 0 <;> by_cases h2 : s2 = 0 <;> by_cases h3 : s3 = 0 <;> simp [Ck,or_,h0,h1,h2,h3]
theorem or_z (q : Int) : or_ 0 q = q:=if_pos rfl
theorem or_n {p : Int} (h : p ≠ 0) (q : Int) : or_ p q = p:=if_neg h
end

section
theorem nan_any (a : Int) (w : World) : Calls Tryz.prog 188 #[.int .i64 a] w fun e w' => e = .returned (.bool false) ∧ w = w':=by
 go_enter Tryz.func188,Tryz.ntmps188
 go_wp2_with fail
 go_ret
 exact ⟨rfl,rfl⟩
theorem cmpCompare_any (a b : Int) (w : World) : Calls Tryz.prog 155 #[.int .i64 a,.int .i64 b] w fun e w' => e = .returned (.int .i64 (sgn a b)) ∧ w = w':=by
 rcases sgn_cases a b with ⟨h,e⟩ | ⟨h,e⟩ | ⟨h,e⟩ <;> rw [e] <;> clear e
 · go_enter Tryz.func155,Tryz.ntmps155
   go_wp2_with fail
   refine (nan_any _ _).mono ?_;rintro e w' ⟨rfl,rfl⟩
   go_wp2_with fail
   refine (nan_any _ _).mono ?_;rintro e w' ⟨rfl,rfl⟩
   go_wp2_with fail
   go_ret
   exact ⟨rfl,rfl⟩
 · have h2 : ¬ a < b:=by omega
   go_enter Tryz.func155,Tryz.ntmps155
   go_wp2_with fail
   refine (nan_any _ _).mono ?_;rintro e w' ⟨rfl,rfl⟩
   go_wp2_with fail
   refine (nan_any _ _).mono ?_;rintro e w' ⟨rfl,rfl⟩
   go_wp2_with fail
   go_ret
   exact ⟨rfl,rfl⟩
 · subst h
   go_enter Tryz.func155,Tryz.ntmps155
   go_wp2_with fail
   refine (nan_any _ _).mono ?_;rintro e w' ⟨rfl,rfl⟩
   go_wp2_with fail
   refine (nan_any _ _).mono ?_;rintro e w' ⟨rfl,rfl⟩
   go_wp2_with fail
   go_ret
   exact ⟨rfl,rfl⟩
theorem or_any (b : Nat) (p q : Int) (w : World) (h0 : w.cell? ⟨b,0,none⟩ = some (.int .i64 p)) (h1 : w.cell? ⟨b,1,none⟩ = some (.int .i64 q)) :
 Calls Tryz.prog 154 #[.slice (some ⟨b,0,none⟩) 2 2] w fun e w' => e = .returned (.int .i64 (or_ p q)) ∧ w = w':=by
 by_cases hp : p = 0
 · subst hp
   rw [or_z]
   by_cases hq : q = 0
   · subst hq
     go_enter Tryz.func154,Tryz.ntmps154
     go_wp2_with fail
     go_loop [5,8] (fun c i => ∃ k : Nat,k ≤ 2 ∧ i = .int .i64 k) (fun c i => 2 - (intOf i).toNat)
     case atStart => exact ⟨0,by omega,rfl⟩
     case round =>
      obtain ⟨k,hk,rfl⟩:=hrel
      have hcase : k = 0 ∨ k = 1 ∨ k = 2:=by omega
      clear hk
      rcases hcase with rfl | rfl | rfl
      · go_wp2_with fail
        go_round
        case rel => exact ⟨1,by omega,rfl⟩
        case measure => simp [intOf]
      · go_wp2_with fail
        go_round
        case rel => exact ⟨2,by omega,rfl⟩
        case measure => simp [intOf]
      · go_wp2_with fail
        go_ret
        exact ⟨rfl,rfl⟩
   · have hq' : (q != 0) = true:=by simpa using hq
     have Hq:=Hd hq;clear hq
     go_enter Tryz.func154,Tryz.ntmps154
     go_wp2_with fail
     go_loop [5,8] (fun c i => ∃ k : Nat,k ≤ 1 ∧ i = .int .i64 k) (fun c i => 2 - (intOf i).toNat)
     case atStart => exact ⟨0,by omega,rfl⟩
     case round =>
      obtain ⟨k,hk,rfl⟩:=hrel
      have hcase : k = 0 ∨ k = 1:=by omega
      clear hk
      rcases hcase with rfl | rfl
      · go_wp2_with fail
        go_round
        case rel => exact ⟨1,by omega,rfl⟩
        case measure => simp [intOf]
      · go_wp2_with fail
        go_ret
        exact ⟨rfl,rfl⟩
 · have hp' : (p != 0) = true:=by simpa using hp
   rw [or_n hp]
   clear hp
   go_enter Tryz.func154,Tryz.ntmps154
   go_wp2_with fail
   go_loop [5,8] (fun c i => i = .int .i64 0) (fun c i => 2 - (intOf i).toNat)
   case atStart => rfl
   case round =>
    subst hrel
    go_wp2_with fail
    go_ret
    exact ⟨rfl,rfl⟩
end

section
def Grew (w w' : World) : Prop:=Below w.heap.size w w' ∧ w.drawn ≤ w'.drawn
theorem Grew.refl (w : World) : Grew w w:=⟨Below.refl _ _,Nat.le_refl _⟩
theorem Grew.alloc {w w' : World} (h : Grew w w') (o : Obj) : Grew w (w'.alloc o):=⟨h.1.alloc h.1.size o,h.2⟩
theorem Grew.drewN {w w' : World} (h : Grew w w') (n : Nat) : Grew w (w'.drewN n):=⟨below_drewN h.1 n,Nat.le_trans h.2 (Nat.le_add_right _ _)⟩
theorem cc_same (a b : Int) (w : World) : Calls Tryz.prog 155 #[.int .i64 a,.int .i64 b] w fun e w' => e = .returned (.int .i64 (sgn a b)) ∧ w' = w:=(cmpCompare_any a b w).mono fun _ _ h => ⟨h.1,h.2.symm⟩
theorem Ck_stay {s0 s1 s2 s3 s4 : Int} {k : Nat} (h : Ck s0 s1 s2 s3 s4 k ≠ 0) : Ck s0 s1 s2 s3 s4 3 = Ck s0 s1 s2 s3 s4 k:=by
 match k with
 | 0 => have h' : or_ s0 s1 ≠ 0:=h
        show or_ (or_ (or_ (or_ s0 s1) s2) s3) s4 = or_ s0 s1
        rw [or_n h',or_n h',or_n h']
 | 1 => have h' : or_ (or_ s0 s1) s2 ≠ 0:=h
        show or_ (or_ (or_ (or_ s0 s1) s2) s3) s4 = or_ (or_ s0 s1) s2
        rw [or_n h',or_n h']
 | 2 => have h' : or_ (or_ (or_ s0 s1) s2) s3 ≠ 0:=h
        show or_ (or_ (or_ (or_ s0 s1) s2) s3) s4 = or_ (or_ (or_ s0 s1) s2) s3
        rw [or_n h']
 | _ + 3 => rfl
set_option maxHeartbeats 2000000 in
theorem compare_grew (a b : St) (w : World) : Calls Tryz.prog 129 #[a.val,b.val] w fun e w' => e = .returned (.int .i64 (a.C b)) ∧ Grew w w':=by
 have hC:=Ck_C a b
 obtain ⟨d,e,x,y,z⟩:=a
 obtain ⟨d',e',x',y',z'⟩:=b
 unfold St.val
 simp only at hC ⊢
 rw [← hC];clear hC
 have S0:=Hd (cc_same d d');have S1:=Hd (cc_same e e');have S2:=Hd (cc_same x x');have S3:=Hd (cc_same y y');have S4:=Hd (cc_same z z')
 generalize sgn d d' = s0 at *
 generalize sgn e e' = s1 at *
 generalize sgn x x' = s2 at *
 generalize sgn y y' = s3 at *
 generalize sgn z z' = s4 at *
 have hk0 : Ck s0 s1 s2 s3 s4 0 = or_ s0 s1:=rfl
 have hk1 : Ck s0 s1 s2 s3 s4 0 = 0 → Ck s0 s1 s2 s3 s4 1 = s2:=fun h => by show or_ (or_ s0 s1) s2 = s2;rw [show or_ s0 s1 = 0 from h,or_z]
 have hk2 : Ck s0 s1 s2 s3 s4 1 = 0 → Ck s0 s1 s2 s3 s4 2 = s3:=fun h => by show or_ (or_ (or_ s0 s1) s2) s3 = s3;rw [show or_ (or_ s0 s1) s2 = 0 from h,or_z]
 have hk3 : Ck s0 s1 s2 s3 s4 2 = 0 → Ck s0 s1 s2 s3 s4 3 = s4:=fun h => by show or_ (or_ (or_ (or_ s0 s1) s2) s3) s4 = s4;rw [show or_ (or_ (or_ s0 s1) s2) s3 = 0 from h,or_z]
 have hst : ∀ k,Ck s0 s1 s2 s3 s4 k ≠ 0 → Ck s0 s1 s2 s3 s4 3 = Ck s0 s1 s2 s3 s4 k:=fun k h => Ck_stay h
 generalize Ck s0 s1 s2 s3 s4 = F at *
 have Hst:=Hd hst;have Hk1:=Hd hk1;have Hk2:=Hd hk2;have Hk3:=Hd hk3;clear hst hk1 hk2 hk3
 have hor:=fun b w h0 h1 => or_any b s0 s1 w h0 h1
 rw [← hk0] at hor
 have Hor:=Hd hor;clear hor hk0
 by_cases hz : F 0 = 0
 · have HZ:=Hd hz
   have hv : (F 0 != 0) = false:=by rw [hz];rfl
   clear hz
   go_enter Tryz.func129,Tryz.ntmps129
   go_wp2_with fail
   refine wp_tail 10 (by kernel_rfl) (by kernel_rfl) ?_
   simp only [List.take_succ_cons,List.take_zero,List.drop_succ_cons,List.drop_zero]
   still_step
   still_step
   still_step
   still_step
   still_call (S0.out _)
   still_step
   still_step
   still_step
   still_step
   still_call (S1.out _)
   refine wpStill_nil ?_
   go_wp2_with fail
   refine (Hor.out _ _ (by go_simp) (by go_simp)).mono ?_;rintro e w' ⟨rfl,rfl⟩
   have hr0 : Row ((w.alloc (.cells #[.int .i64 d,.int .i64 e,.int .i64 x,.int .i64 y,.int .i64 z] 27)).alloc (.cells #[.int .i64 d',.int .i64 e',.int .i64 x',.int .i64 y',.int .i64 z'] 27)) w.heap.size 27 [.int .i64 d,.int .i64 e,.int .i64 x,.int .i64 y,.int .i64 z]:=(Row.made w _ _).alloc _
   have hr1:=Row.made (w.alloc (.cells #[.int .i64 d,.int .i64 e,.int .i64 x,.int .i64 y,.int .i64 z] 27)) 27 [.int .i64 d',.int .i64 e',.int .i64 x',.int .i64 y',.int .i64 z']
   rw [size_alloc] at hr1
   have HR0:=Hd hr0;have HR1:=Hd hr1;clear hr0 hr1
   go_wp2_with fail
   go_loopw [23] (fun i wr => ∃ k : Nat,k ≤ 3 ∧ i = .int .i64 k ∧ F k = 0 ∧ Row wr w.heap.size 27 [.int .i64 d,.int .i64 e,.int .i64 x,.int .i64 y,.int .i64 z] ∧ Row wr (w.heap.size + 1) 27 [.int .i64 d',.int .i64 e',.int .i64 x',.int .i64 y',.int .i64 z'] ∧ Grew w wr) (fun i _ => 3 - (intOf i).toNat)
   case atStart => exact ⟨0,by omega,rfl,HZ.out,(HR0.out.drewN 1).alloc _,(HR1.out.drewN 1).alloc _,((((Grew.refl w).alloc _).alloc _).drewN 1).alloc _⟩
   case round =>
    obtain ⟨k,hk,rfl,hF,hra,hrb,hbw⟩:=hrel
    have hcase : k = 0 ∨ k = 1 ∨ k = 2 ∨ k = 3:=by omega
    clear hk HR0 HR1 hv HZ Hor
    have a2:=hra.cell 2;have a3:=hra.cell 3;have a4:=hra.cell 4
    have b2:=hrb.cell 2;have b3:=hrb.cell 3;have b4:=hrb.cell 4
    simp only [List.getElem?_cons_succ,List.getElem?_cons_zero] at a2 a3 a4 b2 b3 b4
    have HRA:=Hd hra;have HRB:=Hd hrb;have HBW:=Hd hbw;have HF:=Hd hF;clear hra hrb hbw hF
    rcases hcase with rfl | rfl | rfl | rfl
    · have hn:=Hk1.out HF.out
      have HN:=Hd hn;clear hn
      by_cases hz : s2 = 0
      · subst hz
        go_wp2_with fail
        go_quiet ((exact Calls.quiet_of_same (S2.out _)))
        go_wp2
        go_roundw
        case rel => exact ⟨1,by omega,rfl,HN.out,HRA.out,HRB.out,HBW.out.drewN _⟩
        case measure => simp [intOf]
      · have hz' : (s2 != 0) = true:=by simpa using hz
        have hq : F 3 = s2:=by rw [Hst.out 1 (by rw [HN.out];exact hz),HN.out]
        have HQ:=Hd hq;clear hq hz
        go_wp2_with fail
        go_quiet ((exact Calls.quiet_of_same (S2.out _)))
        go_wp2
        go_ret
        exact ⟨ret_int HQ.out.symm,HBW.out.drewN _⟩
    · have hn:=Hk2.out HF.out
      have HN:=Hd hn;clear hn
      by_cases hz : s3 = 0
      · subst hz
        go_wp2_with fail
        go_quiet ((exact Calls.quiet_of_same (S3.out _)))
        go_wp2
        go_roundw
        case rel => exact ⟨2,by omega,rfl,HN.out,HRA.out,HRB.out,HBW.out.drewN _⟩
        case measure => simp [intOf]
      · have hz' : (s3 != 0) = true:=by simpa using hz
        have hq : F 3 = s3:=by rw [Hst.out 2 (by rw [HN.out];exact hz),HN.out]
        have HQ:=Hd hq;clear hq hz
        go_wp2_with fail
        go_quiet ((exact Calls.quiet_of_same (S3.out _)))
        go_wp2
        go_ret
        exact ⟨ret_int HQ.out.symm,HBW.out.drewN _⟩
    · have hn:=Hk3.out HF.out
      have HN:=Hd hn;clear hn
      by_cases hz : s4 = 0
      · subst hz
        go_wp2_with fail
        go_quiet ((exact Calls.quiet_of_same (S4.out _)))
        go_wp2
        go_roundw
        case rel => exact ⟨3,by omega,rfl,HN.out,HRA.out,HRB.out,HBW.out.drewN _⟩
        case measure => simp [intOf]
      · have hz' : (s4 != 0) = true:=by simpa using hz
        have hq : F 3 = s4:=by rw [Hst.out 3 (by rw [HN.out];exact hz),HN.out]
        have HQ:=Hd hq;clear hq hz
        go_wp2_with fail
        go_quiet ((exact Calls.quiet_of_same (S4.out _)))
        go_wp2
        go_ret
        exact ⟨ret_int HQ.out.symm,HBW.out.drewN _⟩
    · go_wp2_with fail
      go_ret
      exact ⟨ret_int HF.out.symm,HBW.out⟩
 · have hq : F 3 = F 0:=Hst.out 0 hz
   have HQ:=Hd hq
   have hv : (F 0 != 0) = true:=by simpa using hz
   clear hz hq
   go_enter Tryz.func129,Tryz.ntmps129
   go_wp2_with fail
   refine wp_tail 10 (by kernel_rfl) (by kernel_rfl) ?_
   simp only [List.take_succ_cons,List.take_zero,List.drop_succ_cons,List.drop_zero]
   still_step
   still_step
   still_step
   still_step
   still_call (S0.out _)
   still_step
   still_step
   still_step
   still_step
   still_call (S1.out _)
   refine wpStill_nil ?_
   go_wp2_with fail
   refine (Hor.out _ _ (by go_simp) (by go_simp)).mono ?_;rintro e w' ⟨rfl,rfl⟩
   go_wp2_with fail
   go_ret
   exact ⟨ret_int HQ.out.symm,((((Grew.refl w).alloc _).alloc _).drewN 1).alloc _⟩
end

section
theorem stCells_int : Tryz.prog.cellsOf 3 = 1:=by kernel_rfl
theorem cells_arr : Tryz.prog.cellsOf 25 = 3:=by kernel_rfl
end

section
end

section
section
variable {P : Program} {C : World → Prop} {K : Act → Prop} {a : Act} {o : Oper} {ops : Array Oper}
end
section
variable {P : Program} {C : World → Prop} {K : Act → Prop} {a : Act} {o : Oper} {ops : Array Oper}
end
end

section
namespace Mx
open Go.ChangeShapes Go.WideShapes Go.ChangeAt Go.RowKit Go.BigFrame Go.Shelf
abbrev Holds (w : World) (g : Nat) (s : Sm) : Prop:=HoldsM w g 82 s
theorem Holds.made (w : World) (s : Sm) : Holds (w.alloc (.cells #[.int .i64 s.fr,.int .i64 s.to,.int .i64 s.kp,.int .i64 s.ad,.int .i64 s.t0,.int .i64 s.t1,.int .i64 s.t2] 82)) w.heap.size s:=HoldsM.made w _ s
theorem Holds.cells5 {W : World} {g : Nat} {s : Sm} (h : Holds W g s) : W.cell? ⟨g,0,none⟩ = some (.int .i64 s.fr) ∧ W.cell? ⟨g,1,none⟩ = some (.int .i64 s.to) ∧ W.cell? ⟨g,2,none⟩ = some (.int .i64 s.kp) ∧ W.cell? ⟨g,3,none⟩ = some (.int .i64 s.ad) ∧ W.cell? ⟨g,4,none⟩ = some (.int .i64 s.t0) ∧ W.cell? ⟨g,5,none⟩ = some (.int .i64 s.t1) ∧ W.cell? ⟨g,6,none⟩ = some (.int .i64 s.t2):=HoldsM.cells7 h
theorem infoSum : (Tryz.prog.info? 82).map (fun i => (i.zero,i.size,i.bytes)) = some (some (.agg #[.int .i64 0,.int .i64 0,.int .i64 0,.int .i64 0,.int .i64 0,.int .i64 0,.int .i64 0]),7,56):=by kernel_rfl
def rowS (ts : List Sm) : List Value:=(ts.map Sm.cells).flatten
theorem rowS_cons (t : Sm) (ts : List Sm) : rowS (t :: ts) = .int .i64 t.fr :: .int .i64 t.to :: .int .i64 t.kp :: .int .i64 t.ad :: .int .i64 t.t0 :: .int .i64 t.t1 :: .int .i64 t.t2 :: rowS ts:=by simp [rowS,Sm.cells]
theorem rowS_append (ts us : List Sm) : rowS (ts ++ us) = rowS ts ++ rowS us:=by simp [rowS]
theorem rowS_len (ts : List Sm) : (rowS ts).length = ts.length * 7:=by
 induction ts with
 | nil => rfl
 | cons t ts ih => rw [rowS_cons];simp only [List.length_cons,ih];omega
theorem rowS_at : ∀ (ts : List Sm) (i : Nat) (t : Sm),ts[i]? = some t → ∀ (j : Nat) (u : Value),t.cells[j]? = some u → (rowS ts)[i * 7 + j]? = some u
 | x :: ts,0,t,h,j,u,hu => by
   obtain rfl : x = t:=by simpa using h
   rw [rowS_cons,Nat.zero_mul,Nat.zero_add]
   match j,hu with
   | 0,hu => exact hu
   | 1,hu => exact hu
   | 2,hu => exact hu
   | 3,hu => exact hu
   | 4,hu => exact hu
   | 5,hu => exact hu
   | 6,hu => exact hu
   | j + 7,hu => simp [Sm.cells] at hu
 | x :: ts,i + 1,t,h,j,u,hu => by
   have:=rowS_at ts i t (by simpa using h) j u hu
   rw [rowS_cons,show (i + 1) * 7 + j = i * 7 + j + 1 + 1 + 1 + 1 + 1 + 1 + 1 by omega]
   simp only [List.getElem?_cons_succ]
   exact this
theorem rowS_one (ts : List Sm) : ∀ u ∈ rowS ts,u.oneCell' = true:=by
 intro u hu
 simp only [rowS,List.mem_flatten,List.mem_map] at hu
 obtain ⟨l,⟨t,_,rfl⟩,hu⟩:=hu
 simp only [Sm.cells,List.mem_cons,List.not_mem_nil,or_false] at hu
 rcases hu with rfl | rfl | rfl | rfl | rfl | rfl | rfl <;> rfl
def Times (w : World) (A : Option Addr) (ts : List Sm) : Prop :=
 0 < ts.length → ∃ b,A = some ⟨b,0,none⟩ ∧ b < w.heap.size ∧ ∀ (j : Nat) (u : Value),(rowS ts)[j]? = some u → w.cell? ⟨b,j,none⟩ = some u
theorem Times.made (w : World) (ts : List Sm) : Times (w.alloc (.cells (rowS ts).toArray 82)) (some ⟨w.heap.size,0,none⟩) ts:=fun _ => by
 have h : Row (w.alloc (.cells (rowS ts).toArray 82)) w.heap.size 82 (rowS ts):=Row.made w _ _
 exact ⟨_,rfl,h.lt,fun j u hu => (h.cell j).trans hu⟩
theorem Times.of_own {w : World} {base : Nat} {v : Value} {n : Nat} {ts : List Sm} (h : w.ownsRow base 82 7 v n (rowS ts)) :
 ∃ A c,v = .slice A ts.length c ∧ Times w A ts ∧ ts.length ≤ c ∧ c ≤ maxLen:=by
 have hl : ts.length = n:=by have:=h.1;rw [rowS_len] at this;omega
 obtain ⟨_,⟨rfl,h0⟩ | ⟨g,cap,cur,rfl,_,hh,h1,h2,_,ht⟩⟩:=id h
 · exact ⟨none,0,by rw [hl,h0],fun hn => by omega,by omega,by simp⟩
 · refine ⟨some ⟨g,0,none⟩,cap,by rw [hl],fun _ => ⟨g,rfl,?_,fun j u hj => ?_⟩,by omega,h2⟩
   · by_cases hg : g < w.heap.size
     · exact hg
     · rw [Array.getElem?_eq_none (by omega)] at hh;cases hh
   · have:=h.cells (g:=g) rfl j u hj
     rwa [add_zero_off] at this
theorem own_apart {w : World} {base : Nat} {v : Value} {n b : Nat} {xs l : List Value} {t : TypeId} (h : w.ownsRow base 82 7 v n xs) (hr : Row w b t l) (ht : t ≠ 82) : some b ≠ v.ownBlock:=by
 obtain ⟨_,⟨rfl,_⟩ | ⟨g,cap,cur,rfl,_,hh,_⟩⟩:=h
 · intro e;cases e
 · intro e
   injection e with e
   subst e
   unfold Row at hr
   rw [hr] at hh;injection hh with hh;injection hh with _ ht';exact ht ht'
theorem own_belowS {w0 w w' : World} {base n : Nat} {v : Value} {xs : List Value} (h : w.ownsRow base 82 7 v n xs) (hg : w.grownBy w' v.ownBlock) (hb : Below base w0 w) (hB : base ≤ w.heap.size) : Below base w0 w' :=
 hb.grown hg hB (fun k e => (h.lt k e).1)
theorem wpList_append_times {w : World} {ops : Array Oper} {rest : List Oper} {o : Oper} {a : Act} {Q : Exit → Act → World → Prop} (hgd : o.guard = none) (s x : Operand)
 (ho : o.op = .call { callee:=.builtin .append,args:=#[s,x],argTypes:=#[75,75] })
 (base : Nat) (v : Value) (n : Nat) (ts : List Sm) (hs : a.eval s = v) (hown : w.ownsRow base 82 7 v n (rowS ts))
 (ad : Addr) (c : Nat) (ys : List Sm) (hx : a.eval x = .slice (some ad) ys.length c) (hy : 0 < ys.length) (hb : Times w (some ad) ys)
 (hle : n + ys.length ≤ 200000000) (hbase : base ≤ w.heap.size)
 (h : ∀ v' w',w'.ownsRow base 82 7 v' (n + ys.length) (rowS (ts ++ ys)) → w.grownBy w' v.ownBlock → wpList Tryz.prog ops Q rest (a.put o.dst v') w') : wpList Tryz.prog ops Q (o :: rest) a w:=by
 obtain ⟨i,hi,hz0,hz1,hz2⟩:=info_parts infoSum
 obtain ⟨b,e,_,hcell⟩:=hb hy
 cases e
 refine wpList_append_own w hgd s x 75 ho base 82 i _ 7 56 Tryz.underlying75 hi hz0 hz1 hz2 rfl (by omega) v n (rowS ts) hs hown ⟨b,0,none⟩ ys.length c (rowS ys) hx (rowS_len ys) ?_ (rowS_one ys) (by unfold maxLen;omega) (by omega) hbase ?_
 · intro j u hj
   rw [add_zero_off];exact hcell j u hj
 · intro v' w' h1 h2 _
   exact h v' w' (by rw [rowS_append];exact h1) h2

def Ts (w : World) (A : Option Addr) (ts : List Sm) : Prop :=
 0 < ts.length → ∃ b o,A = some ⟨b,o,none⟩ ∧ b < w.heap.size ∧ ∀ (j : Nat) (u : Value),(rowS ts)[j]? = some u → w.cell? ⟨b,o + j,none⟩ = some u
section
variable {w w' : World} {A : Option Addr} {ts : List Sm}
theorem Ts.below (h : Ts w A ts) (hb : Below w.heap.size w w') : Ts w' A ts:=fun hn => by
 obtain ⟨b,o,e,hlt,hc⟩:=h hn
 exact ⟨b,o,e,Nat.lt_of_lt_of_le hlt hb.size,fun j u hu => (hb.cell (p:=⟨b,o + j,none⟩) hlt).trans (hc j u hu)⟩
theorem Ts.nil : Ts w A []:=fun h => absurd h (by simp)
theorem Ts.of (h : Times w A ts) : Ts w A ts:=fun hn => by
 obtain ⟨b,e,hlt,hc⟩:=h hn
 exact ⟨b,0,e,hlt,fun j u hu => by rw [Nat.zero_add];exact hc j u hu⟩
theorem rowS_take (ts : List Sm) (k : Nat) : rowS (ts.take k) = (rowS ts).take (k * 7):=by
 induction ts generalizing k with
 | nil => simp [rowS]
 | cons t ts ih =>
   cases k with
   | zero => simp [rowS]
   | succ k => rw [List.take_succ_cons,rowS_cons,rowS_cons,ih,show (k + 1) * 7 = k * 7 + 1 + 1 + 1 + 1 + 1 + 1 + 1 by omega];simp only [List.take_succ_cons]
theorem rowS_drop (ts : List Sm) (k : Nat) : rowS (ts.drop k) = (rowS ts).drop (k * 7):=by
 induction ts generalizing k with
 | nil => simp [rowS]
 | cons t ts ih =>
   cases k with
   | zero => simp
   | succ k => rw [List.drop_succ_cons,ih,rowS_cons,show (k + 1) * 7 = k * 7 + 1 + 1 + 1 + 1 + 1 + 1 + 1 by omega];simp only [List.drop_succ_cons]
theorem Ts.take (h : Ts w A ts) (k : Nat) : Ts w A (ts.take k):=fun hn => by
 obtain ⟨b,o,e,hlt,hc⟩:=h (by rw [List.length_take] at hn;omega)
 refine ⟨b,o,e,hlt,fun j u hu => hc j u ?_⟩
 rw [rowS_take,List.getElem?_take] at hu
 split at hu
 · exact hu
 · cases hu
theorem Ts.drop {b o : Nat} (h : Ts w (some ⟨b,o,none⟩) ts) (k : Nat) : Ts w (some ⟨b,o + k * 7,none⟩) (ts.drop k):=fun hn => by
 obtain ⟨b',o',e,hlt,hc⟩:=h (by rw [List.length_drop] at hn;omega)
 cases e
 refine ⟨b,o + k * 7,rfl,hlt,fun j u hu => ?_⟩
 rw [rowS_drop,List.getElem?_drop] at hu
 rw [Nat.add_assoc];exact hc _ u hu
theorem run_load_st (w : World) (b o : Nat) (t : Sm) (h : ∀ j v,t.cells[j]? = some v → w.cell? ⟨b,o + j,none⟩ = some v) :
 (Instr.loadAt 82 (.pointer (some ⟨b,o,none⟩))).run Tryz.prog w = .ok (.agg #[.int .i64 t.fr,.int .i64 t.to,.int .i64 t.kp,.int .i64 t.ad,.int .i64 t.t0,.int .i64 t.t1,.int .i64 t.t2]) w :=
 run_loadAt_part b o 82 _ t.cells (fun j v hj => by rw [add_at];exact h j v hj) Tryz.underlying82 rfl (by kernel_rfl)
theorem Ts.load (h : Ts w A ts) {i : Nat} {t : Sm} (hi : ts[i]? = some t) : ∃ b o,A = some ⟨b,o,none⟩ ∧ b < w.heap.size ∧
 ∀ w',Below w.heap.size w w' → (Instr.loadAt 82 (.pointer (some ⟨b,o + i * 7,none⟩))).run Tryz.prog w' = .ok (.agg #[.int .i64 t.fr,.int .i64 t.to,.int .i64 t.kp,.int .i64 t.ad,.int .i64 t.t0,.int .i64 t.t1,.int .i64 t.t2]) w':=by
 obtain ⟨hl,_⟩:=List.getElem?_eq_some_iff.1 hi
 obtain ⟨b,o,e,hlt,hc⟩:=h (by omega)
 refine ⟨b,o,e,hlt,fun w' hb => run_load_st _ _ _ _ fun j v hj => ?_⟩
 rw [hb.cell (p:=⟨b,o + i * 7 + j,none⟩) hlt,Nat.add_assoc]
 exact hc _ v (rowS_at ts i t hi j v hj)
theorem Ts.five (h : Ts w A ts) {i : Nat} {t : Sm} (hi : ts[i]? = some t) : ∃ b o,A = some ⟨b,o,none⟩ ∧ b < w.heap.size ∧
 ∀ w',Below w.heap.size w w' → w'.cell? ⟨b,o + i * 7,none⟩ = some (.int .i64 t.fr) ∧ w'.cell? ⟨b,o + i * 7 + 1,none⟩ = some (.int .i64 t.to) ∧ w'.cell? ⟨b,o + i * 7 + 2,none⟩ = some (.int .i64 t.kp) ∧ w'.cell? ⟨b,o + i * 7 + 3,none⟩ = some (.int .i64 t.ad) ∧ w'.cell? ⟨b,o + i * 7 + 4,none⟩ = some (.int .i64 t.t0) ∧ w'.cell? ⟨b,o + i * 7 + 5,none⟩ = some (.int .i64 t.t1) ∧ w'.cell? ⟨b,o + i * 7 + 6,none⟩ = some (.int .i64 t.t2):=by
 obtain ⟨hl,_⟩:=List.getElem?_eq_some_iff.1 hi
 obtain ⟨b,o,e,hlt,hc⟩:=h (by omega)
 refine ⟨b,o,e,hlt,fun w' hb => ?_⟩
 have key : ∀ j v,t.cells[j]? = some v → w'.cell? ⟨b,o + i * 7 + j,none⟩ = some v:=fun j v hj => by
  rw [hb.cell (p:=⟨b,o + i * 7 + j,none⟩) hlt,Nat.add_assoc]
  exact hc _ v (rowS_at ts i t hi j v hj)
 exact ⟨key 0 _ rfl,key 1 _ rfl,key 2 _ rfl,key 3 _ rfl,key 4 _ rfl,key 5 _ rfl,key 6 _ rfl⟩
end
def Tells (g : Nat) (lb : Array Value) (p : Sm → Bool) (w : World) : Prop :=
 ∀ (W : World) (x : Sm),Below w.heap.size w W → Calls Tryz.prog g (#[x.v] ++ lb) W fun e w' => e = .returned (.bool (p x)) ∧ Below W.heap.size W w'
theorem any_false {p : Sm → Bool} {ts : List Sm} : ts.any p = false ↔ ∀ (j : Nat) (t : Sm),ts[j]? = some t → p t = false:=by
 rw [List.any_eq_false]
 constructor
 · intro h j t ht
   have:=h t (List.mem_of_getElem? ht)
   simpa using this
 · intro h t ht
   obtain ⟨j,hj⟩:=List.getElem?_of_mem ht
   rw [h j t hj];simp
theorem indexFunc_any (A : Option Addr) (ts : List Sm) (c g : Nat) (lb : Array Value) (p : Sm → Bool) (w : World) (hT : Ts w A ts) (hn : ts.length ≤ 200000000)
 (eg : ∀ args w,(callFunc g args).run Tryz.prog w = .ok (.enter g args) w) (hp : 0 < ts.length → Tells g lb p w) :
 Calls Tryz.prog 158 #[.slice A ts.length c,.func (.func g) #[] lb] w fun e w' => (∃ i : Int,e = .returned (.int .i64 i) ∧ decide (0 ≤ i) = ts.any p) ∧ Below w.heap.size w w':=by
 have HT:=Hd hT;have HP:=Hd hp;clear hT hp
 go_enter Tryz.func158,Tryz.ntmps158
 go_wp2_with fail
 go_loopw [5,8] (fun _ i wr => ∃ k : Nat,k ≤ ts.length ∧ i = .int .i64 k ∧ Below w.heap.size w wr ∧ ∀ (j : Nat) (t : Sm),j < k → ts[j]? = some t → p t = false) (fun _ i _ => ts.length - (intOf i).toNat)
 case atStart => exact ⟨0,by omega,rfl,Below.refl _ _,fun j t h => absurd h (by omega)⟩
 case round =>
  obtain ⟨k,hk,rfl,hb,hno⟩:=hrel
  have HB:=Hd hb;have HNO:=Hd hno;clear hb hno
  by_cases hlt : k < ts.length
  · have hltz : (k : Int) < (ts.length : Int):=by omega
    obtain ⟨t,ht⟩ : ∃ t,ts[k]? = some t:=⟨_,List.getElem?_eq_getElem hlt⟩
    obtain ⟨b,o,rfl,hbl,hld⟩:=HT.out.five ht
    obtain ⟨c0,c1,c2,c3,c4,c5,c6⟩:=hld _ HB.out
    have hcall:=HP.out (by omega) wr t HB.out
    have HTT:=Hd ht;clear ht
    cases hq : p t with
    | true =>
      rw [hq] at hcall
      have HQ:=Hd hq;clear hq
      go_wp2_with fail
      refine hcall.mono ?_;rintro e w1 ⟨rfl,hb1⟩
      have HB1:=Hd (HB.out.trans (hb1.mono HB.out.size));clear hb1 hld hcall c0 c1 c2 c3 c4 c5 c6
      go_wp2_with fail
      go_ret
      refine ⟨⟨k,rfl,?_⟩,HB1.out⟩
      rw [decide_eq_true (by omega),eq_comm,List.any_eq_true]
      exact ⟨t,List.mem_of_getElem? HTT.out,HQ.out⟩
    | false =>
      rw [hq] at hcall
      have HQ:=Hd hq;clear hq
      go_wp2_with fail
      refine hcall.mono ?_;rintro e w1 ⟨rfl,hb1⟩
      have HB1:=Hd (HB.out.trans (hb1.mono HB.out.size));clear hb1 hld hcall c0 c1 c2 c3 c4 c5 c6
      go_wp2_with fail
      go_roundw
      case rel =>
       refine ⟨k + 1,by omega,by simp,HB1.out,fun j t' hj ht' => ?_⟩
       by_cases e : j = k
       · subst e
         rw [HTT.out] at ht';cases ht'
         exact HQ.out
       · exact HNO.out j t' (by omega) ht'
      case measure => simp [intOf];omega
  · have hltz : ¬ (k : Int) < (ts.length : Int):=by omega
    go_wp2_with fail
    go_ret
    refine ⟨⟨-1,rfl,?_⟩,HB.out⟩
    rw [decide_eq_false (by omega),eq_comm,any_false]
    exact fun j t ht => HNO.out j t (by have:=(List.getElem?_eq_some_iff.1 ht).1;omega) ht
theorem containsFunc_any (A : Option Addr) (ts : List Sm) (c g : Nat) (lb : Array Value) (p : Sm → Bool) (w : World) (hT : Ts w A ts) (hn : ts.length ≤ 200000000)
 (eg : ∀ args w,(callFunc g args).run Tryz.prog w = .ok (.enter g args) w) (hp : 0 < ts.length → Tells g lb p w) :
 Calls Tryz.prog 93 #[.slice A ts.length c,.func (.func g) #[] lb] w fun e w' => e = .returned (.bool (ts.any p)) ∧ Below w.heap.size w w':=by
 have H:=Hd (indexFunc_any A ts c g lb p w hT hn eg hp);clear hT hp eg
 go_enter Tryz.func93,Tryz.ntmps93
 go_wp2_with fail
 refine (H.out).mono ?_;rintro e w1 ⟨⟨i,rfl,hi⟩,hb⟩
 have HB:=Hd hb;clear hb
 have HI:=Hd hi;clear hi
 go_wp2_with fail
 go_ret
 exact ⟨ret_bool HI.out,HB.out⟩
end Mx
end
end Go.Proofs.YtonelpnhoiajgaaGreatDoor
