import Derived.Test.YtonelpnhoiajgaaGreatDoorHd
import Derived.Test.YtonelpnhoiajgaaGreatDoorCa3
import Derived.Test.YtonelpnhoiajgaaGreatDoorCa6
import Derived.Test.YtonelpnhoiajgaaGreatDoorCa7
import Derived.RegionCalls
import Derived.Test.YtonelpnhoiajgaaGreatDoorCa2
import Derived.Test.YtonelpnhoiajgaaGreatDoorCa1
import Derived.RangeFuncNested
import Derived.RangeFuncBound
import Derived.RangeFuncCalls
import Derived.RangeFuncLeaves
import Derived.Shelf.RegionOpen
import Derived.OwnWalkIn
import Derived.TacticsInMore
import Derived.LoopNIn
import Derived.LoopIn
import Derived.Maps.OwnIn
import Derived.DeepKeys4
import Derived.Laws.IdiomRangeMap
import Derived.Sort.MapsRangeIn
import Derived.Sort.KeysCollected
import Derived.Test.YtonelpnhoiajgaaGreatDoorCa5
import Derived.Test.YtonelpnhoiajgaaGreatDoorMxShelf
import Derived.Shelf.SlSortCmp.NoneTotal
namespace Go.Proofs.YtonelpnhoiajgaaGreatDoor
set_option linter.unusedSimpArgs false
set_option maxRecDepth 100000
open Go.ChangeShapes Go.WideShapes Go.ChangeAt Go.RowKit Go.BigFrame
set_option linter.unusedVariables false
section
namespace Free
section
variable {P : Program}
def updb (b : Nat → Bool) (i : Nat) : Nat → Bool:=fun j => if j = i then true else b j
def updw (vs : Nat → Value) (i : Nat) (v : Value) : Nat → Value:=fun j => if j = i then v else vs j
theorem updb_self {b : Nat → Bool} {i : Nat} : updb b i i = true:=if_pos rfl
theorem updb_ne {b : Nat → Bool} {i j : Nat} (h : j ≠ i) : updb b i j = b j:=if_neg h
theorem updw_self {vs : Nat → Value} {i : Nat} {v : Value} : updw vs i v i = v:=if_pos rfl
theorem updw_ne {vs : Nat → Value} {i j : Nat} {v : Value} (h : j ≠ i) : updw vs i v j = vs j:=if_neg h
theorem wp_key {id : Nat} {Q : Exit → Act → World → Prop} {a0 : Act} {w0 : World} {l : List Oper} (hm : P.follows .mixedOrders = true) (hB : okG l a0.tmps.size = true)
 (F : (Nat → Bool) → (Nat → Value) → World → Prop) (V : Nat → Value → Prop) (hF : ∀ vs,F (fun i => decide (l.length ≤ i)) vs w0.drew)
 (hstep : ∀ i o,l[i]? = some o → ∀ (b : Nat → Bool) (vs : Nat → Value) (a : Act) (w : World),(∀ t,t ∉ dsts l → a.eval (.tmp t) = a0.eval (.tmp t)) →
   (∀ j oj t,Region.waitsFor .any l.toArray i j = true → l[j]? = some oj → oj.dst = some t → b j = true ∧ a.eval (.tmp t) = vs j ∧ V j (a.eval (.tmp t))) → b i = false → F b vs w →
   Comes P l a o w (fun v w' => V i v ∧ F (updb b i) (updw vs i v) w'))
 (hend : ∀ (vs : Nat → Value) (w' : World),(∀ i,i < l.length → (∀ o,l[i]? = some o → o.dst.isSome = true) → V i (vs i)) → F (fun _ => true) vs w' → Q .normal (puts a0 l 0 vs) w') : (Code.region id l.toArray true).wp P Q a0 w0:=by
 simp only [okG,Bool.and_eq_true,decide_eq_true_eq] at hB
 obtain ⟨⟨hns,hnd⟩,hlt⟩:=hB
 have hlt' : ∀ t ∈ dsts l,t < a0.tmps.size:=fun t ht => by simpa using List.all_eq_true.1 hlt t ht
 let Inv : Array Bool → Act → World → Prop:=fun S a w => a.defers = a0.defers ∧ a.tmps.size = a0.tmps.size ∧ (∀ t,t ∉ dsts l → a.tmps.getD t undef = a0.tmps.getD t undef) ∧
  (∃ vs,F (fun i => S.getD i true) vs w ∧ ∀ i o t,l[i]? = some o → S.getD i false = true → o.dst = some t → a.tmps.getD t undef = vs i) ∧
  ∀ i o t,l[i]? = some o → S.getD i false = true → o.dst = some t → V i (a.tmps.getD t undef)
 have main : ∀ (fuel : Nat) (S : Array Bool) (a : Act) (w : World),S.toList.count false = fuel → Stage.Fit .any l.toArray S → Inv S a w → wpAny P .any l.toArray Q fuel S a w:=by
  intro fuel
  have fin : ∀ (S : Array Bool) (a : Act) (w : World),Stage.Fit .any l.toArray S → (∀ i,S.getD i true = true) → Inv S a w → Q .normal a w:=by
   rintro S a w hFit hS ⟨h1,h2,h3,⟨vs,h4,h4'⟩,h5⟩
   have hSi : ∀ i,i < l.length → S.getD i false = true:=fun i hi => by
    have h1:=hS i
    have : i < S.size:=by rw [hFit.size];simpa using hi
    simp [this] at h1 ⊢;exact h1
   have e : a = puts a0 l 0 vs:=by
    have hp:=puts_size l a0 0 vs
    refine act_ext (h1.trans hp.2.symm) (h2.trans hp.1.symm) (fun t ht => ?_)
    by_cases hm : t ∈ dsts l
    · obtain ⟨o,ho,e⟩:=List.mem_filterMap.1 hm
      obtain ⟨i,hi⟩:=List.getElem?_of_mem ho
      rw [puts_new l a0 0 _ i o t hnd hi e (hlt' t hm),Nat.zero_add]
      exact h4' i o t hi (hSi i (List.getElem?_eq_some_iff.1 hi).1) e
    · rw [puts_old _ _ _ _ _ hm];exact h3 t hm
   rw [e]
   refine hend _ w (fun i hi hd => ?_) (by rw [show (fun i => S.getD i true) = fun _ => true from funext hS] at h4;exact h4)
   have hi' : l[i]? = some l[i]:=List.getElem?_eq_getElem hi
   obtain ⟨t,ht⟩:=Option.isSome_iff_exists.1 (hd _ hi')
   have:=h5 i _ t hi' (hSi i hi) ht
   rwa [h4' i _ t hi' (hSi i hi) ht] at this
  have one : ∀ (S : Array Bool) (a : Act) (w : World) (K : Act → World → Prop),Stage.Fit .any l.toArray S → Inv S a w → ∀ i ∈ Region.ready .any l.toArray S,(∀ a' w',Inv (S.setIfInBounds i true) a' w' → K a' w') → wpOp P l.toArray Q i K a w:=by
   rintro S a w K hFit ⟨h1,h2,h3,⟨vs,h4,h4'⟩,h5⟩ i hi hK
   obtain ⟨hun,o,ho,hall⟩:=mem_ready.1 hi
   have hol : l[i]? = some o:=by simpa using ho
   unfold wpOp
   simp only [ho]
   have hpre : ∀ j oj t,Region.waitsFor .any l.toArray i j = true → l[j]? = some oj → oj.dst = some t → (fun i => S.getD i true) j = true ∧ a.eval (.tmp t) = vs j ∧ V j (a.eval (.tmp t)):=by
    intro j oj t hwt hj hd
    have hc:=Stage.came hi hwt
    have hSj : S.getD j false = true:=by
     have hjl : j < S.size:=by rw [hFit.size];simpa using (List.getElem?_eq_some_iff.1 hj).1
     simp [hjl] at hc ⊢;exact hc
    exact ⟨hc,h4' j oj t hj hSj hd,h5 j oj t hj hSj hd⟩
   have hs:=hstep i o hol _ vs a w (fun t ht => h3 t ht) hpre hun h4
   have hSs : ∀ j,(S.setIfInBounds i true).getD j true = updb (fun i => S.getD i true) i j:=fun j => by
    unfold updb
    by_cases hji : j = i
    · rw [if_pos hji,hji];exact Stage.getD_set_self hun
    · rw [if_neg hji,getD_set_ne true (Ne.symm hji)]
   have step : ∀ v w',(V i v ∧ F (updb (fun i => S.getD i true) i) (updw vs i v) w') → K (a.put o.dst v) w':=by
    rintro v w' ⟨r1,r2⟩
    refine hK _ _ ⟨by rw [put_defers];exact h1,by rw [put_size];exact h2,fun t ht => ?_,⟨updw vs i v,by rw [funext hSs];exact r2,fun j oj t hj hSj hd => ?_⟩,fun j oj t hj hSj hd => ?_⟩
    · rw [put_getD _ _ _ _ (fun e => ht (mem_dsts hol e))];exact h3 t ht
    · by_cases hij : i = j
      · subst hij
        obtain rfl : oj = o:=Option.some.inj (hj.symm.trans hol)
        rw [hd,put_getD_self _ _ _ (by rw [h2];exact hlt' t (mem_dsts hj hd))]
        exact updw_self.symm
      · rw [getD_set_ne false hij] at hSj
        rw [put_getD _ _ _ _ (fun e => hij (dst_ne hnd hol hj e hd)),updw_ne (Ne.symm hij)]
        exact h4' j oj t hj hSj hd
    · by_cases hij : i = j
      · subst hij
        obtain rfl : oj = o:=Option.some.inj (hj.symm.trans hol)
        rw [hd,put_getD_self _ _ _ (by rw [h2];exact hlt' t (mem_dsts hj hd))]
        exact r1
      · rw [getD_set_ne false hij] at hSj
        rw [put_getD _ _ _ _ (fun e => hij (dst_ne hnd hol hj e hd))]
        exact h5 j oj t hj hSj hd
   rcases hs with ⟨hw,hs⟩ | ⟨hw,hs⟩
   case inr => rw [if_neg (by rw [hw];exact Bool.false_ne_true)];exact step _ _ hs
   rw [if_pos hw]
   refine .inl ?_
   unfold Oper.wp
   generalize (execOp a.eval o).run P w = r at hs
   cases r with
   | ok n w' =>
     cases n <;> simp only [gets] at hs <;> simp only [Oper.upon]
     case value u => exact step _ _ hs
     case skip => exact step _ _ hs
     case enter f args => exact hs.mono fun e w'' ⟨v,he,h⟩ => by subst he;exact step _ _ h
   | halt x w' => simp only [gets] at hs
  induction fuel with
  | zero =>
    intro S a w hn hFit hI
    have hS : ∀ i,S.getD i true = true:=fun i => by rw [Stage.getD_toList];exact Stage.all_of_count hn i
    refine ⟨?_,fin S a w hFit hS hI⟩
    cases hr : Region.ready .any l.toArray S with
    | nil => rfl
    | cons i r =>
      have:=(mem_ready.1 (show i ∈ Region.ready .any l.toArray S by rw [hr];simp)).1
      rw [hS i] at this;cases this
  | succ fuel ih =>
    intro S a w hn hFit hI
    refine ⟨fun h0 => ?_,fun i hi => ?_⟩
    · refine fin S a w hFit (fun i => ?_) hI
      induction i using Nat.strongRecOn with
      | _ i ihi =>
        cases hx : S.getD i true with
        | true => rfl
        | false =>
          exfalso
          have hil : i < l.length:=by
           rcases Nat.lt_or_ge i S.size with h' | h'
           · rw [hFit.size] at h';simpa using h'
           · simp [Array.getElem?_eq_none h'] at hx
          have hup:=List.all_eq_true.1 hns i (List.mem_range.2 hil)
          rw [List.getElem?_eq_getElem hil] at hup
          have hr : i ∈ Region.ready .any l.toArray S:=by
           refine mem_ready.2 ⟨hx,l[i],by simp [hil],fun e he hbe => ?_⟩
           have h1 : e.on < i:=by
            have:=Array.all_eq_true_iff_forall_mem.1 hup e he
            simpa [hbe] using this
           have h2:=ihi e.on h1
           have h3 : e.on < S.size:=by rw [hFit.size];simp;omega
           simp [h3] at h2 ⊢;exact h2
          rw [h0] at hr;cases hr
    · have hun:=(mem_ready.1 hi).1
      have hc : (S.setIfInBounds i true).toList.count false = fuel:=by
       rw [Array.toList_setIfInBounds]
       have:=Stage.count_set (l:=S.toList) (i:=i) (by rw [← Stage.getD_toList];exact hun)
       omega
      exact one S a w _ hFit hI i hi (fun a' w' hI' => ih _ a' w' hc (hFit.set hi) hI')
 refine wp_region_any hm (main _ _ _ _ (by simp) (by simpa using Stage.Fit.start (md:=.any) (ops:=l.toArray)) ⟨rfl,rfl,fun _ _ => rfl,⟨fun _ => undef,?_,fun i o t _ h _ => ?_⟩,fun i o t _ h _ => ?_⟩)
 · have hS0 : (fun i => (Array.replicate l.toArray.size false).getD i true) = fun i => decide (l.length ≤ i):=by
    funext i
    by_cases h : i < l.length
    · simp [h]
    · simp [h];omega
   rw [hS0];exact hF _
 · rw [getD_replicate_false] at h;cases h
 · rw [getD_replicate_false] at h;cases h
end
end Free
end

section
open Go.RowKit
def PutF (w0 : World) (iA iS : Nat) (ty : TypeId) (zs cells : List Value) (b : Nat → Bool) (vs : Nat → Value) (w : World) : Prop :=
 Below w0.heap.size w0 w ∧ (b iS = true → b iA = true) ∧ (b iA = true → ∃ blk,vs iA = .pointer (some ⟨blk,0,none⟩) ∧ w0.heap.size ≤ blk ∧ Row w blk ty (if b iS then cells else zs))
section
variable {w0 w w' : World} {iA iS i : Nat} {ty : TypeId} {zs cells : List Value} {b : Nat → Bool} {vs : Nat → Value} {v : Value}
theorem PutF.start (n : Nat) (hA : iA < n) (hS : iS < n) (w0 : World) (ty : TypeId) (zs cells : List Value) (vs : Nat → Value) : PutF w0 iA iS ty zs cells (fun i => decide (n ≤ i)) vs w0.drew :=
 ⟨(Below.refl _ _).drew,fun h => by simp at h;omega,fun h => by simp at h;omega⟩
theorem PutF.keep (h : PutF w0 iA iS ty zs cells b vs w) (hb : Below w.heap.size w w') (h1 : i ≠ iA) (h2 : i ≠ iS) : PutF w0 iA iS ty zs cells (Free.updb b i) (Free.updw vs i v) w':=by
 obtain ⟨k1,k2,k3⟩:=h
 refine ⟨k1.trans (hb.mono k1.size),?_,?_⟩
 · rw [Free.updb_ne (Ne.symm h1),Free.updb_ne (Ne.symm h2)];exact k2
 · rw [Free.updb_ne (Ne.symm h1),Free.updb_ne (Ne.symm h2),Free.updw_ne (Ne.symm h1)]
   intro hA
   obtain ⟨blk,e1,e2,e3⟩:=k3 hA
   exact ⟨blk,e1,e2,e3.below hb e3.lt⟩
theorem PutF.alloc (h : PutF w0 iA iS ty zs cells b vs w) (hne : iS ≠ iA) (hbi : b iA = false) : PutF w0 iA iS ty zs cells (Free.updb b iA) (Free.updw vs iA (.pointer (some ⟨w.heap.size,0,none⟩))) (w.alloc (.cells zs.toArray ty)):=by
 obtain ⟨k1,k2,k3⟩:=h
 have hS : b iS = false:=by
  cases hb : b iS with
  | false => rfl
  | true => rw [k2 hb] at hbi;cases hbi
 refine ⟨k1.alloc k1.size _,fun _ => Free.updb_self,fun _ => ⟨w.heap.size,Free.updw_self,k1.size,?_⟩⟩
 rw [Free.updb_ne hne,hS]
 exact Row.made w ty zs
theorem PutF.store (h : PutF w0 iA iS ty zs cells b vs w) (hne : iS ≠ iA) (hA : b iA = true) {blk : Nat} (hv : vs iA = .pointer (some ⟨blk,0,none⟩)) (hle : w0.heap.size ≤ blk) (hr : Row w' blk ty cells) (hb : Below w0.heap.size w0 w') :
 PutF w0 iA iS ty zs cells (Free.updb b iS) (Free.updw vs iS v) w':=by
 refine ⟨hb,fun _ => ?_,fun _ => ⟨blk,?_,hle,?_⟩⟩
 · rw [Free.updb_ne (Ne.symm hne)];exact hA
 · rw [Free.updw_ne (Ne.symm hne)];exact hv
 · rw [Free.updb_self];exact hr
theorem PutF.row (h : PutF w0 iA iS ty zs cells b vs w) (hA : b iA = true) (hbi : b iS = false) : ∃ blk,vs iA = .pointer (some ⟨blk,0,none⟩) ∧ w0.heap.size ≤ blk ∧ Row w blk ty zs:=by
 obtain ⟨blk,h1,h2,h3⟩:=h.2.2 hA
 rw [hbi] at h3
 exact ⟨blk,h1,h2,h3⟩
theorem PutF.done (h : PutF w0 iA iS ty zs cells (fun _ => true) vs w) : Below w0.heap.size w0 w ∧ ∃ blk,vs iA = .pointer (some ⟨blk,0,none⟩) ∧ w0.heap.size ≤ blk ∧ Row w blk ty cells:=by
 obtain ⟨blk,h1,h2,h3⟩:=h.2.2 rfl
 exact ⟨h.1,blk,h1,h2,h3⟩
end
end

section
theorem of_node {x : Nd} (h : x.smOk) : Sm.of_ ((x.k : Nat) : Int) x.d = x.sm ∧ decide (okOf ((x.k : Nat) : Int) x.d) = true:=by
 obtain ⟨h1,h2,h3⟩:=h
 have e : Sm.ofk ((x.k : Nat) : Int) x.d = x.sm:=by
  unfold Sm.ofk Nd.sm
  by_cases h7 : x.k = 7
  · rw [if_pos (by omega),if_pos h7]
  · rw [if_neg (by omega),if_neg h7]
    by_cases h8 : x.k = 8
    · rw [if_pos (by omega),if_pos h8]
    · rw [if_neg (by omega),if_neg h8]
      by_cases h9 : x.k = 9
      · rw [if_pos (by omega),if_pos h9]
      · rw [if_neg (by omega),if_neg h9]
 have ho : okOf ((x.k : Nat) : Int) x.d:=⟨by omega,by omega,by rw [e];exact h3⟩
 exact ⟨by unfold Sm.of_;rw [if_pos ho,e],decide_eq_true ho⟩
theorem OwnA.get {w0 w : World} {v : Value} {L : List (Nat × Sm)} {k : Nat} {a : Nat × Sm} (h : OwnA w0 w v L) (hk : L[k]? = some a) : ∃ g cap,v = .slice (some ⟨g,0,none⟩) L.length cap ∧ w0.heap.size ≤ g ∧ g < w.heap.size ∧
 ∀ w',Below w.heap.size w w' → (w'.cell? ⟨g,k * 8,none⟩ = some (.int .i64 (a.1 : Nat)) ∧ (Instr.loadAt 106 (.pointer (some ⟨g,k * 8 + 1,none⟩))).run Tryz.prog w' = .ok a.2.v w'):=by
 have hl:=(List.getElem?_eq_some_iff.1 hk).1
 obtain ⟨g,cap,rfl,hg,hlt⟩:=World.ownsRow.form h (by omega)
 refine ⟨g,cap,rfl,hg,hlt,fun w' hb => ?_⟩
 have hc : ∀ (j : Nat) (u : Value),(kindA.cells a)[j]? = some u → w'.cell? ⟨g,k * 8 + j,none⟩ = some u:=fun j u hu => by
  have h1:=World.ownsRow.cells h (g:=g) rfl (k * 8 + j) u (Rw.row_at (κ:=kindA) L k a hk j u hu)
  rw [add_zero_off] at h1
  exact (hb.cell (p:=⟨g,k * 8 + j,none⟩) hlt).trans h1
 refine ⟨hc 0 _ rfl,?_⟩
 exact run_loadAt_part g (k * 8 + 1) 106 _ (Sm.cells a.2) (fun j u hu => by
  rw [add_at,Nat.add_assoc]
  exact hc (1 + j) u (by rw [Nat.add_comm];exact hu)) Tryz.underlying106 rfl (by kernel_rfl)
def AllD (g : List Nd) (i : Nat) (w : World) (e : Ending) (w' : World) : Prop:=(∃ v L,e = .returned v ∧ OwnA w w' v L ∧ AllW g i L L.length) ∧ Below w.heap.size w w'
def AllV (g cap k : Nat) (L : List (Nat × Sm)) (go : Nat) (s O S : Sm) (TB : Bool) (i : Nat) (v : Value) : Prop:=match i with
 | 0 => v = .slice (some ⟨g,0,none⟩) L.length cap
 | 1 => v = .int .i64 (k : Nat)
 | 2 => v = .pointer (some ⟨g,k * 8,none⟩)
 | 3 => v = .pointer (some ⟨g,k * 8 + 1,none⟩)
 | 4 => v = .agg #[.int .i64 s.fr,.int .i64 s.to,.int .i64 s.kp,.int .i64 s.ad,.int .i64 s.t0,.int .i64 s.t1,.int .i64 s.t2]
 | 5 => v = .agg #[.int .i64 O.fr,.int .i64 O.to,.int .i64 O.kp,.int .i64 O.ad,.int .i64 O.t0,.int .i64 O.t1,.int .i64 O.t2]
 | 6 => v = .tuple #[.agg #[.int .i64 S.fr,.int .i64 S.to,.int .i64 S.kp,.int .i64 S.ad,.int .i64 S.t0,.int .i64 S.t1,.int .i64 S.t2],.bool TB]
 | 7 => v = .tuple #[.agg #[.int .i64 S.fr,.int .i64 S.to,.int .i64 S.kp,.int .i64 S.ad,.int .i64 S.t0,.int .i64 S.t1,.int .i64 S.t2],.bool TB]
 | 8 => v = .agg #[.int .i64 S.fr,.int .i64 S.to,.int .i64 S.kp,.int .i64 S.ad,.int .i64 S.t0,.int .i64 S.t1,.int .i64 S.t2]
 | 9 => v = .bool TB
 | 10 => True
 | 11 => v = undef
 | _ => v = .bool TB
set_option maxHeartbeats 16000000 in
theorem refAll_in (A : Option Addr) (lg : List Gn) (c i : Nat) (w : World) (hG : Gr w A lg) (hi : i < lg.length) (hl : lg.length ≤ 14) (hI : ∀ x ∈ nds lg,x.ins.length ≤ 40) (hF : Fine (nds lg)) :
 Calls Tryz.prog 61 #[.slice A lg.length c,.int .i64 (i : Nat)] w (AllD (nds lg) i w):=by
 obtain ⟨x,hx⟩ : ∃ x,lg[i]? = some x:=⟨_,List.getElem?_eq_getElem hi⟩
 have hnx : (nds lg)[i]? = some x.nd:=by unfold nds;rw [List.getElem?_map,hx];rfl
 have hiz : (i : Int) < (lg.length : Int):=by omega
 have hi0 : ¬ (i : Int) < 0:=by omega
 have hge : ¬ (lg.length : Int) ≤ (i : Int):=by omega
 obtain ⟨b,o,rfl,hbl,hcl⟩:=hG.at_ hx
 have hst:=AllW.start hnx
 obtain ⟨⟨xk,xa,xb,xd,xi⟩,xA,xc⟩:=x
 obtain ⟨c0,c1,c2,c3,c4⟩:=hcl w (Below.refl _ _)
 simp only at c0 c1 c2 c3 c4 hst
 have hfd:=feeds_any w (some ⟨b,o,none⟩) lg c (.slice none 0 0) [] i (idS xd) w hG (by omega) hI (Below.refl _ _) (World.ownsRow_nil _ _ _ _) (by simp)
 generalize addA (idS xd) (toG ((i : Nat) : Int) 0 (nds lg)) [] = L0 at *
 have HG:=Hd hG;have HI:=Hd hI;have HF:=Hd hF;have HST:=Hd hst;have HFD:=Hd hfd
 clear hG hI hF hst hfd hx hnx hcl
 go_enter Tryz.func61,Tryz.ntmps61
 go_wp2_with fail
 refine HFD.out.mono ?_;rintro e w1 ⟨⟨v,rfl,ho⟩,hb⟩
 have HO:=Hd ho;have HB:=Hd hb;clear ho hb HFD c0 c1 c2 c3 c4
 dsimp only
 go_wp2_with fail
 go_loopw [6,7] (fun v n wx => ∃ (k : Nat) (L : List (Nat × Sm)),n = .int .i64 k ∧ k ≤ L.length ∧ AllW (nds lg) i L k ∧ OwnA w wx v L ∧ Below w.heap.size w wx) (fun _ n _ => lg.length * 4194304 - (intOf n).toNat)
 case atStart => exact ⟨0,L0,rfl,Nat.zero_le _,HST.out,HO.out,HB.out⟩
 case round =>
  obtain ⟨wo,rfl⟩ : ∃ wo,wo = wr:=⟨_,rfl⟩
  obtain ⟨k,L,rfl,hk,hall,ho,hb⟩:=hrel
  have hbd:=AllW.bound HF.out hall
  rw [nds_len] at hbd
  have HALL:=Hd hall;have HOL:=Hd ho;have HBL:=Hd hb;have HBD:=Hd hbd;clear hall ho hb hbd HST HO HB
  by_cases hkl : k < L.length
  · have hkz : (k : Int) < (L.length : Int):=by omega
    have hkb : k < 60000000:=by have:=HBD.out;omega
    obtain ⟨⟨n,s⟩,hns⟩ : ∃ a,L[k]? = some a:=⟨_,List.getElem?_eq_getElem hkl⟩
    have harr:=HALL.out.sound n s (List.mem_of_getElem? hns)
    have hnl : n < lg.length:=by have:=harr.lt;rwa [nds_len] at this
    have hnz : (n : Int) < (lg.length : Int):=by omega
    obtain ⟨y,hy⟩ : ∃ y,lg[n]? = some y:=⟨_,List.getElem?_eq_getElem hnl⟩
    have hny : (nds lg)[n]? = some y.nd:=by unfold nds;rw [List.getElem?_map,hy];rfl
    have hok:=harr.smOk HF.out hny
    obtain ⟨ho1,ho2⟩:=of_node hok
    obtain ⟨g,cap,rfl,hg0,hglt,hgc⟩:=HOL.out.get hns
    obtain ⟨b',o',e,_,hcl⟩:=HG.out.at_ hy
    cases e
    have hskip:=fun (h : ¬ s.thenOk y.nd.sm) => HALL.out.skip hns hny (fun h2 => h h2.2)
    have hstep:=fun (h : s.thenOk y.nd.sm) => HALL.out.step hns hny hok h
    have hth:=fun wz => refThen_any s y.nd.sm wz
    have hyes:=Sm.th_yes (a:=s) (b:=y.nd.sm)
    have hno:=Sm.th_no (a:=s) (b:=y.nd.sm)
    obtain ⟨⟨yk,ya,yb,yd,yi⟩,yA,yc⟩:=y
    obtain ⟨c0,c1,c2,c3,c4⟩:=hcl wo HBL.out
    simp only at c0 c1 c2 c3 c4 ho1 ho2
    have hof:=fun wz => refOf_any ((yk : Nat) : Int) yd wz
    rw [ho1,ho2] at hof
    have q0:=(hgc wo (Below.refl _ _)).1
    simp only at q0
    generalize (⟨yk,ya,yb,yd,yi⟩ : Nd).sm = O at *
    generalize s.th O = S at *
    generalize s.thB O = TB at *
    have HGC:=Hd hgc;have HSK:=Hd hskip;have HSP:=Hd hstep;have HTH:=Hd hth;have HYES:=Hd hyes;have HNO:=Hd hno;have HOF:=Hd hof
    have hnb : b < wo.heap.size:=Nat.lt_of_lt_of_le hbl HBL.out.size
    clear hgc hskip hstep hth hyes hno hof hns harr hy hny hok ho1 ho2 hcl
    go_wp2_with fail
    refine (HOF.out _).mono ?_;rintro e w2 ⟨rfl,hb2⟩
    have hb3 : Below wo.heap.size wo w2:=((Below.refl _ wo).alloc (Nat.le_refl _) (.cells #[.int .u8 (yk : Nat),.int .u8 (ya : Nat),.int .i64 yb,.int .i64 yd,.slice yA yi.length yc] 58)).trans (hb2.mono (by simp))
    have HB3:=Hd hb3;clear hb2 hb3 c0 c1 c2 c3 c4 q0 HOF
    dsimp only
    go_upto_region 10 with fail
    have hbo : Below wo.heap.size wo (w2.alloc (.cells #[.int .i64 O.fr,.int .i64 O.to,.int .i64 O.kp,.int .i64 O.ad,.int .i64 O.t0,.int .i64 O.t1,.int .i64 O.t2] 106)):=HB3.out.alloc HB3.out.size _
    have hox : HoldsM (w2.alloc (.cells #[.int .i64 O.fr,.int .i64 O.to,.int .i64 O.kp,.int .i64 O.ad,.int .i64 O.t0,.int .i64 O.t1,.int .i64 O.t2] 106)) w2.heap.size 106 O:=HoldsM.made w2 _ _
    generalize w2.alloc (.cells #[.int .i64 O.fr,.int .i64 O.to,.int .i64 O.kp,.int .i64 O.ad,.int .i64 O.t0,.int .i64 O.t1,.int .i64 O.t2] 106) = w3 at *
    generalize w2.heap.size = go at *
    have hls:=fun wz (hz : Below w3.heap.size w3 wz) => (HGC.out wz (hbo.trans (hz.mono hbo.size))).2
    have HBO:=Hd hbo;have HOX:=Hd hox;have HLS:=Hd hls;clear hbo hox hls HB3
    refine Free.wp_key (by kernel_rfl) (by kernel_rfl) (PutF w3 10 11 106 [.int .i64 0,.int .i64 0,.int .i64 0,.int .i64 0,.int .i64 0,.int .i64 0,.int .i64 0] [.int .i64 S.fr,.int .i64 S.to,.int .i64 S.kp,.int .i64 S.ad,.int .i64 S.t0,.int .i64 S.t1,.int .i64 S.t2]) (AllV g cap k L go s O S TB) (fun vs => PutF.start 13 (by decide) (by decide) _ _ _ _ vs) ?_ ?_
    · intro i o hi bz vs az wa hold hpre hbi hF
      match i with
      | 0 =>
        cases hi
        exact Free.c_all rfl (Free.g_move _ rfl ⟨((hold 6 (by decide)).trans rfl),hF.keep (Below.refl _ _) (by decide) (by decide)⟩)
      | 1 =>
        cases hi
        exact Free.c_all rfl (Free.g_move _ rfl ⟨((hold 7 (by decide)).trans rfl),hF.keep (Below.refl _ _) (by decide) (by decide)⟩)
      | 2 =>
        cases hi
        have h1 : az.eval (.tmp 56) = .slice (some ⟨g,0,none⟩) L.length cap:=(hpre 0 _ _ (by kernel_rfl) rfl rfl).2.2
        have h2 : az.eval (.tmp 57) = .int .i64 (k : Nat):=(hpre 1 _ _ (by kernel_rfl) rfl rfl).2.2
        exact Free.c_all rfl (Free.g_indexAddr (v:=.pointer (some ⟨g,k * 8,none⟩)) _ _ _ rfl h1 h2 (by go_simp) ⟨rfl,hF.keep (Below.refl _ _) (by decide) (by decide)⟩)
      | 3 =>
        cases hi
        have h0 : az.eval (.tmp 58) = .pointer (some ⟨g,k * 8,none⟩):=(hpre 2 _ _ (by kernel_rfl) rfl rfl).2.2
        exact Free.c_all rfl (Free.g_field (v:=.pointer (some ⟨g,k * 8 + 1,none⟩)) _ _ _ rfl h0 (by go_simp) ⟨rfl,hF.keep (Below.refl _ _) (by decide) (by decide)⟩)
      | 4 =>
        cases hi
        have h0 : az.eval (.tmp 59) = .pointer (some ⟨g,k * 8 + 1,none⟩):=(hpre 3 _ _ (by kernel_rfl) rfl rfl).2.2
        exact Free.c_all rfl (Free.g_load _ _ rfl h0 (HLS.out wa hF.1) ⟨rfl,hF.keep (Below.refl _ _) (by decide) (by decide)⟩)
      | 5 =>
        cases hi
        exact Free.c_all rfl (Free.g_load _ _ rfl ((hold 9 (by decide)).trans rfl) (load_n HOX.out wa hF.1) ⟨rfl,hF.keep (Below.refl _ _) (by decide) (by decide)⟩)
      | 6 =>
        cases hi
        have h0 : az.eval (.tmp 60) = .agg #[.int .i64 s.fr,.int .i64 s.to,.int .i64 s.kp,.int .i64 s.ad,.int .i64 s.t0,.int .i64 s.t1,.int .i64 s.t2]:=(hpre 4 _ _ (by kernel_rfl) rfl rfl).2.2
        have h1 : az.eval (.tmp 61) = .agg #[.int .i64 O.fr,.int .i64 O.to,.int .i64 O.kp,.int .i64 O.ad,.int .i64 O.t0,.int .i64 O.t1,.int .i64 O.t2]:=(hpre 5 _ _ (by kernel_rfl) rfl rfl).2.2
        refine Free.c_all rfl (Free.g_call _ _ rfl Tryz.func111 (by kernel_rfl) rfl [.agg #[.int .i64 s.fr,.int .i64 s.to,.int .i64 s.kp,.int .i64 s.ad,.int .i64 s.t0,.int .i64 s.t1,.int .i64 s.t2],.agg #[.int .i64 O.fr,.int .i64 O.to,.int .i64 O.kp,.int .i64 O.ad,.int .i64 O.t0,.int .i64 O.t1,.int .i64 O.t2]] (by show [az.eval (.tmp 60),az.eval (.tmp 61)] = _;rw [h0,h1]) ?_)
        exact ((fun wa _ => HTH.out wa) wa hF.1).mono fun e w2 ⟨he,hb2⟩ => ⟨_,he,rfl,hF.keep hb2 (by decide) (by decide)⟩
      | 7 =>
        cases hi
        have h0 : az.eval (.tmp 62) = .tuple #[.agg #[.int .i64 S.fr,.int .i64 S.to,.int .i64 S.kp,.int .i64 S.ad,.int .i64 S.t0,.int .i64 S.t1,.int .i64 S.t2],.bool TB]:=(hpre 6 _ _ (by kernel_rfl) rfl rfl).2.2
        exact Free.c_all rfl (Free.g_move _ rfl ⟨h0,hF.keep (Below.refl _ _) (by decide) (by decide)⟩)
      | 8 =>
        cases hi
        have h0 : az.eval (.tmp 55) = .tuple #[.agg #[.int .i64 S.fr,.int .i64 S.to,.int .i64 S.kp,.int .i64 S.ad,.int .i64 S.t0,.int .i64 S.t1,.int .i64 S.t2],.bool TB]:=(hpre 7 _ _ (by kernel_rfl) rfl rfl).2.2
        refine Free.c_all rfl ?_
        unfold execOp
        simp only [h0]
        go_simp
        exact ⟨rfl,hF.keep (Below.refl _ _) (by decide) (by decide)⟩
      | 9 =>
        cases hi
        have h0 : az.eval (.tmp 55) = .tuple #[.agg #[.int .i64 S.fr,.int .i64 S.to,.int .i64 S.kp,.int .i64 S.ad,.int .i64 S.t0,.int .i64 S.t1,.int .i64 S.t2],.bool TB]:=(hpre 7 _ _ (by kernel_rfl) rfl rfl).2.2
        refine Free.c_all rfl ?_
        unfold execOp
        simp only [h0]
        go_simp
        exact ⟨rfl,hF.keep (Below.refl _ _) (by decide) (by decide)⟩
      | 10 =>
        cases hi
        refine Free.c_all rfl ?_
        unfold execOp
        go_simp
        exact ⟨trivial,hF.alloc (by decide) hbi⟩
      | 11 =>
        cases hi
        have hq:=id (hpre (10) _ _ (by kernel_rfl) rfl rfl)
        have hx : az.eval (.tmp 63) = .agg #[.int .i64 S.fr,.int .i64 S.to,.int .i64 S.kp,.int .i64 S.ad,.int .i64 S.t0,.int .i64 S.t1,.int .i64 S.t2]:=(hpre 8 _ _ (by kernel_rfl) rfl rfl).2.2
        obtain ⟨blk,hblk,hle,hrow⟩:=hF.row hq.1 hbi
        have hp : az.eval (.tmp 11) = .pointer (some ⟨blk,0,none⟩):=hq.2.1.trans hblk
        have hc0:=hrow.cell 0;have hf0:=hrow.free 0
        have hc1:=hrow.cell 1;have hf1:=hrow.free 1
        have hc2:=hrow.cell 2;have hf2:=hrow.free 2
        have hc3:=hrow.cell 3;have hf3:=hrow.free 3
        have hc4:=hrow.cell 4;have hf4:=hrow.free 4
        have hc5:=hrow.cell 5;have hf5:=hrow.free 5
        have hc6:=hrow.cell 6;have hf6:=hrow.free 6
        simp only [List.getElem?_cons_succ,List.getElem?_cons_zero] at hc0 hc1 hc2 hc3 hc4 hc5 hc6
        refine Free.c_all rfl ?_
        unfold execOp
        simp only [hp,hx]
        go_simp
        exact ⟨rfl,hF.store (by decide) hq.1 hblk hle (row_set7 hrow) ((((((((hF.1.setCell hle _).setCell hle _).setCell hle _).setCell hle _).setCell hle _).setCell hle _).setCell hle _))⟩
      | 12 =>
        cases hi
        have h0 : az.eval (.tmp 64) = .bool TB:=(hpre 9 _ _ (by kernel_rfl) rfl rfl).2.2
        exact Free.c_all rfl (Free.g_assign _ rfl ⟨h0,hF.keep (Below.refl _ _) (by decide) (by decide)⟩)
      | _ + 13 => cases hi
    · intro vs we hv hF
      obtain ⟨hbE,blk,hblk,hle,hrowE⟩:=hF.done
      clear hF
      have e12 : vs 12 = .bool TB:=hv 12 (by simp) (by rintro o ⟨⟩;rfl)
      clear hv
      simp only [Free.puts,Nat.reduceAdd,hblk,e12]
      clear e12
      clear hblk
      generalize vs 0 = y0
      generalize vs 1 = y1
      generalize vs 2 = y2
      generalize vs 3 = y3
      generalize vs 4 = y4
      generalize vs 5 = y5
      generalize vs 6 = y6
      generalize vs 7 = y7
      generalize vs 8 = y8
      generalize vs 9 = y9
      generalize vs 11 = y11
      clear vs
      go_simp
      have hb4:=HBO.out.trans (hbE.mono HBO.out.size)
      have HB4:=Hd hb4;have HSX:=Hd hrowE;clear hb4 hbE hle hrowE HBO HOX HLS
      generalize we = w4 at *
      generalize blk = gS at *
      cases TB with
      | false =>
        have hskp:=HSK.out fun h => by have:=(HYES.out h).2;cases this
        have HSKP:=Hd hskp;clear hskp
        go_wp2_with fail
        go_roundw
        case rel => exact ⟨k + 1,L,by simp,by omega,HSKP.out,Rw.own_kept HOL.out HB4.out,HBL.out.trans (HB4.out.mono HBL.out.size)⟩
        case measure => simp only [intOf];have:=HBD.out;omega
      | true =>
        have hto : s.thenOk O:=by
         apply Classical.byContradiction
         intro h
         have:=(HNO.out h).2;cases this
        have hstp:=HSP.out hto
        rw [← (HYES.out hto).1] at hstp
        have hfd:=fun wz (hz : Below w4.heap.size w4 wz) => feeds_any w (some ⟨b,o,none⟩) lg c (.slice (some ⟨g,0,none⟩) L.length cap) L n S wz HG.out (by omega) HI.out ((HBL.out.trans (HB4.out.mono HBL.out.size)).trans (hz.mono (Nat.le_trans HBL.out.size HB4.out.size))) (Rw.own_kept (Rw.own_kept HOL.out HB4.out) hz) (by have:=HBD.out;omega)
        generalize addA S (toG ((n : Nat) : Int) 0 (nds lg)) L = L' at *
        have q0 : w4.cell? ⟨g,k * 8,none⟩ = some (.int .i64 (n : Nat)):=(HGC.out w4 HB4.out).1
        have d0 : w4.cell? ⟨gS,0,none⟩ = some (.int .i64 S.fr):=HSX.out.cell 0
        have d1 : w4.cell? ⟨gS,1,none⟩ = some (.int .i64 S.to):=HSX.out.cell 1
        have d2 : w4.cell? ⟨gS,2,none⟩ = some (.int .i64 S.kp):=HSX.out.cell 2
        have d3 : w4.cell? ⟨gS,3,none⟩ = some (.int .i64 S.ad):=HSX.out.cell 3
        have d4 : w4.cell? ⟨gS,4,none⟩ = some (.int .i64 S.t0):=HSX.out.cell 4
        have d5 : w4.cell? ⟨gS,5,none⟩ = some (.int .i64 S.t1):=HSX.out.cell 5
        have d6 : w4.cell? ⟨gS,6,none⟩ = some (.int .i64 S.t2):=HSX.out.cell 6
        have HFD2:=Hd hfd;have HSTP:=Hd hstp;clear hfd hstp hto
        go_upto_region 12 with fail
        go_region_with (go_at_call 109;refine (HFD2.out _ (Below.refl _ _).drew).mono ?_;rintro e w5 ⟨⟨v5,rfl,ho5⟩,hb5⟩)
        all_goals
         have hbd':=AllW.bound HF.out HSTP.out
         rw [nds_len] at hbd'
         have HBD':=Hd hbd';have HO5:=Hd ho5;have HB5:=Hd hb5;clear ho5 hb5 hbd' q0 d0 d1 d2 d3 d4 d5 d6
         have hle:=HSTP.out.le
         go_wp2_with fail
         go_roundw
         case rel => exact ⟨k + 1,L',by simp,by omega,HSTP.out,HO5.out,HB5.out⟩
         case measure => simp only [intOf];have:=HBD'.out;omega
  · obtain ⟨MA,mc,rfl,_,_,_,_,_⟩:=Rw.Ts.of_own HOL.out
    have hkz : ¬ (k : Int) < (L.length : Int):=by omega
    have hke : k = L.length:=by omega
    have HK:=Hd hke;clear hke
    go_wp2_with fail
    go_ret
    have h:=HALL.out
    rw [HK.out] at h
    exact ⟨⟨_,L,rfl,HOL.out,h⟩,HBL.out⟩
theorem refAll_out (A : Option Addr) (lg : List Gn) (c : Nat) (f : Int) (w : World) (h : f < 0 ∨ (lg.length : Int) ≤ f) :
 Calls Tryz.prog 61 #[.slice A lg.length c,.int .i64 f] w fun e w' => e = .returned (.slice none 0 0) ∧ Below w.heap.size w w':=by
 by_cases h0 : f < 0
 · clear h
   go_enter Tryz.func61,Tryz.ntmps61
   go_wp2_with fail
   go_ret
   exact ⟨rfl,Below.refl _ _⟩
 · have h1 : (lg.length : Int) ≤ f:=by omega
   clear h
   go_enter Tryz.func61,Tryz.ntmps61
   go_wp2_with fail
   go_ret
   exact ⟨rfl,Below.refl _ _⟩
end

section
theorem nothingMade_any (d : Int) (w : World) : Calls Tryz.prog 178 #[.int .i64 d] w fun e w' => e = .returned (idS d).v ∧ Below w.heap.size w w':=by
 go_enter Tryz.func178,Tryz.ntmps178
 go_wp2_with fail
 refine bodyPost_ret (results_cell_row rfl _ _ w.heap.size 82 _ (0,0) _ rfl (Row.made _ _ _) Tryz.underlying82 rfl (by kernel_rfl)) rfl ?_
 exact ⟨rfl,(Below.refl _ _).alloc (Nat.le_refl _) _⟩
theorem ofNode_any (xk xa : Nat) (xb xd : Int) (xi : List Int) (xA : Option Addr) (xc : Nat) (w : World) (h : Nd.smOk ⟨xk,xa,xb,xd,xi⟩) :
 Calls Tryz.prog 180 #[.agg #[.int .u8 (xk : Nat),.int .u8 (xa : Nat),.int .i64 xb,.int .i64 xd,.slice xA xi.length xc]] w fun e w' => e = .returned (Nd.sm ⟨xk,xa,xb,xd,xi⟩).v ∧ Below w.heap.size w w':=by
 obtain ⟨e1,e2⟩:=of_node h
 simp only at e1 e2
 have hof:=fun wz => of_any ((xk : Nat) : Int) xd wz
 rw [e1,e2] at hof
 generalize Nd.sm ⟨xk,xa,xb,xd,xi⟩ = O at *
 have HOF:=Hd hof;clear hof e1 e2 h
 go_enter Tryz.func180,Tryz.ntmps180
 go_wp2_with fail
 refine (HOF.out _).mono ?_;rintro e w2 ⟨rfl,hb2⟩
 have hr0 : Row ((w.alloc (.cells #[.int .u8 (xk : Nat),.int .u8 (xa : Nat),.int .i64 xb,.int .i64 xd,.slice xA xi.length xc] 58)).alloc (.cells #[.int .i64 0,.int .i64 0,.int .i64 0,.int .i64 0,.int .i64 0,.int .i64 0,.int .i64 0] 82)) (w.heap.size + 1) 82 [.int .i64 0,.int .i64 0,.int .i64 0,.int .i64 0,.int .i64 0,.int .i64 0,.int .i64 0]:=made2 _ _ _ _
 have hr2:=hr0.below hb2 hr0.lt
 have hb0 : Below w.heap.size w ((w.alloc (.cells #[.int .u8 (xk : Nat),.int .u8 (xa : Nat),.int .i64 xb,.int .i64 xd,.slice xA xi.length xc] 58)).alloc (.cells #[.int .i64 0,.int .i64 0,.int .i64 0,.int .i64 0,.int .i64 0,.int .i64 0,.int .i64 0] 82)):=((Below.refl _ _).alloc (Nat.le_refl _) _).alloc (by simp) _
 have hb3:=hb0.trans (hb2.mono hb0.size)
 have hsz : w.heap.size + 1 < w2.heap.size:=by have:=hb2.size;simp at this;omega
 have hz0 : w.heap.size ≤ w.heap.size + 1:=Nat.le_succ _
 have HR2:=Hd hr2;have HB3:=Hd hb3;clear hr0 hr2 hb0 hb2 hb3 HOF
 dsimp only
 generalize w.heap.size + 1 = z0 at *
 have hr3:=HR2.out.alloc (.cells #[.int .i64 O.fr,.int .i64 O.to,.int .i64 O.kp,.int .i64 O.ad,.int .i64 O.t0,.int .i64 O.t1,.int .i64 O.t2] 82)
 have c0:=hr3.cell 0;have c1:=hr3.cell 1;have c2:=hr3.cell 2;have c3:=hr3.cell 3;have c4:=hr3.cell 4;have c5:=hr3.cell 5;have c6:=hr3.cell 6
 have f0:=hr3.free 0;have f1:=hr3.free 1;have f2:=hr3.free 2;have f3:=hr3.free 3;have f4:=hr3.free 4;have f5:=hr3.free 5;have f6:=hr3.free 6
 simp only [List.getElem?_cons_succ,List.getElem?_cons_zero] at c0 c1 c2 c3 c4 c5 c6
 have HR3:=Hd hr3;have HSZ:=Hd hsz;have HZ:=Hd hz0;clear hr3 hsz
 go_wp2_with fail
 refine bodyPost_ret (results_cell_row rfl _ _ z0 82 _ (0,0) _ rfl (row_set7 HR3.out) Tryz.underlying82 rfl (by kernel_rfl)) rfl ?_
 refine ⟨rfl,?_⟩
 have hz : w.heap.size ≤ z0:=HZ.out
 exact (((((((HB3.out.alloc HB3.out.size _).setCell hz _).setCell hz _).setCell hz _).setCell hz _).setCell hz _).setCell hz _).setCell hz _
theorem isNode_any (A : Option Addr) (n c : Nat) (i : Int) (w : World) : Calls Tryz.prog 140 #[.slice A n c,.int .i64 i] w fun e w' => e = .returned (.bool (decide (0 ≤ i ∧ i < (n : Int)))) ∧ w = w':=by
 by_cases h0 : 0 ≤ i
 · by_cases h1 : i < (n : Int)
   · rw [decide_eq_true (And.intro h0 h1)]
     go_enter Tryz.func140,Tryz.ntmps140
     go_wp2_with fail
     go_ret
     exact ⟨rfl,rfl⟩
   · rw [decide_eq_false fun h => h1 h.2]
     go_enter Tryz.func140,Tryz.ntmps140
     go_wp2_with fail
     go_ret
     exact ⟨rfl,rfl⟩
 · rw [decide_eq_false fun h => h0 h.1]
   go_enter Tryz.func140,Tryz.ntmps140
   go_wp2_with fail
   go_ret
   exact ⟨rfl,rfl⟩
theorem reachC (B : Nat) (t : Sm) (w : World) (hB : Mx.Holds w B t) : Mx.Tells 179 #[.pointer (some ⟨B,0,none⟩)] (fun x => decide (x.L t)) w:=by
 intro W x hb
 show Calls _ _ #[x.v,.pointer (some ⟨B,0,none⟩)] _ (fun e w' => e = .returned (.bool (decide (x.L t))) ∧ Below W.heap.size W w')
 have h : Mx.Holds W B t:=HoldsM.below hB hb
 have hc:=fun w => leqM_any x t w
 generalize decide (x.L t) = v at *
 have hl : B < W.heap.size:=HoldsM.lt h
 obtain ⟨c0,c1,c2,c3,c4,c5,c6⟩:=h.cells5
 unfold Sm.v at *
 have HC:=Hd hc;clear hc h hB hb
 go_enter Tryz.func179,Tryz.ntmps179
 go_wp2_with fail
 refine (HC.out _).mono ?_;rintro e w1 ⟨rfl,hb1⟩
 have HB1:=Hd hb1;clear hb1 c0 c1 c2 c3 c4 c5 c6
 go_wp2_with fail
 go_ret
 exact ⟨rfl,((Below.refl _ _).alloc (Nat.le_refl _) _).trans (HB1.out.mono (by simp))⟩
end

section
section
variable {P : Program} {ops : Array Oper} {o : Oper} {a : Act} {w : World} {K : Act → World → Prop} {Q : Exit → Act → World → Prop} {E : Prop}
theorem wp_of_gets (h : Free.gets P (fun v w' => K (a.put o.dst v) w') ((execOp a.eval o).run P w)) : Oper.wp P o a w K Q:=by
 unfold Oper.wp
 generalize (execOp a.eval o).run P w = r at h
 cases r with
 | ok n w' =>
   cases n <;> simp only [Free.gets] at h <;> simp only [Oper.upon]
   case value u => exact h
   case skip => exact h
   case enter f args => exact h.mono fun e w'' ⟨v,he,h⟩ => by subst he;exact h
 | halt x w' => simp only [Free.gets] at h
theorem step_call {f : FuncId} {fn : Func} {c : Code} (hg : o.guard = none) (xs : Array Operand) (ats : Array TypeId) (ho : o.op = .call { callee:=.value (.func f),args:=xs,argTypes:=ats }) (hf : P.funcs[f]? = some fn) (hname : (fn.name == "runtime.NumGoroutine") = false) (hb : fn.body = some c)
 (vs : List Value) (hv : xs.toList.map a.eval = vs) {R : Value → World → Prop} (hc : Calls P f vs.toArray w (fun e w' => ∃ v,e = .returned v ∧ R v w')) (h : ∀ v w',R v w' → K (a.put o.dst v) w') :
 if Region.wanted o (yielded ops a.tmps) = true then Oper.wp P o a w K Q else E:=by
 have hw : Region.wanted o (yielded ops a.tmps) = true:=by simp [Region.wanted,hg]
 rw [if_pos hw]
 exact wp_of_gets (Free.g_call xs ats ho hf hname hb vs hv (hc.mono fun e w' ⟨v,he,hr⟩ => ⟨v,he,h v w' hr⟩))
end
end

section
namespace Mx
open Go.Maps (Keyed)
open Go.WideElems (Fit rd rg rd_key rd_val rg_of)
open Go.ChangeMaps (notKey putKey)
open Go.ChangeShapes Go.WideShapes Go.ChangeAt Go.RowKit Go.BigFrame Go.Shelf
def BoxAt (w : World) (B : Nat) (v : Value) : Prop:=B < w.heap.size ∧ w.cell? ⟨B,0,none⟩ = some v
section
variable {w w' W : World} {B b o n c : Nat} {A : Option Addr} {v : Value} {x y : Operand} {i j : Int} {p : Bool}
theorem BoxAt.below (h : BoxAt w B v) (hb : Below w.heap.size w w') : BoxAt w' B v:=⟨Nat.lt_of_lt_of_le h.1 hb.size,(hb.cell (p:=⟨B,0,none⟩) h.1).trans h.2⟩
theorem BoxAt.made (w : World) (v : Value) (t : TypeId) : BoxAt (w.alloc (.cells #[v] t)) w.heap.size v:=by
 have h : Row (w.alloc (.cells #[v] t)) w.heap.size t [v]:=Row.made w _ _
 exact ⟨h.lt,h.cell 0⟩
end
abbrev RSm:={ t : Sm // t.R }
def encS (x : RSm) : Array Value:=#[x.1.v]
def raw (l : List RSm) : List Sm:=l.map (·.1)
theorem raw_length (l : List RSm) : (raw l).length = l.length:=by simp [raw]
theorem raw_get (l : List RSm) (k : Nat) (t : RSm) (h : l[k]? = some t) : (raw l)[k]? = some t.1:=by simp [raw,h]
theorem pre_of {α : Type} {xs : List α} {k : Nat} {t : α} (h : xs[k]? = some t) : xs.take k ++ [t] <+: xs:=by
 have e : xs.take (k + 1) = xs.take k ++ [t]:=by rw [List.take_add_one,h];rfl
 rw [← e];exact List.take_prefix _ _
def Keep (n : Nat) (W W' : World) : Prop:=Below n W W' ∧ ∀ (b : Nat) (o : Obj),W.heap[b]? = some o → o.isCells = true → W'.heap[b]? = some o
theorem keep_t {n : Nat} {A B C : World} (h : Keep n A B) (k : Keep n B C) : Keep n A C:=⟨h.1.trans k.1,fun b o ho hc => k.2 b o (h.2 b o ho hc) hc⟩
theorem keep_b {n : Nat} {w : World} (hn : n ≤ w.heap.size) (W : World) (l : Nat) (o o' : Obj) (hl : w.heap.size ≤ l) (ho : W.heap[l]? = some o) (hc : o.isCells = false) (hw : o.isWalk = false) : Keep n W (W.putObj l o') :=
 ⟨(belowK_b (w:=w) hn) W l o o' hl ho hc hw,fun b p hp hpc => by
   by_cases e : b = l
   · subst e;rw [ho] at hp;cases hp;rw [hc] at hpc;cases hpc
   · exact (World.putObj_heap_other e).trans hp⟩
theorem grown_below {w w' : World} (hb : Below w.heap.size w w') : w.grownBy w' none:=⟨hb.os,hb.tape,hb.output,hb.size,fun k hk _ => hb.block k hk⟩

theorem val_inj {s t : Sm} (h : s.v = t.v) : s = t:=by
 simp only [Sm.v,Value.agg.injEq,Array.mk.injEq,List.cons.injEq,Value.int.injEq,true_and,and_true] at h
 exact Sm.ext' h.1 h.2.1 h.2.2.1 h.2.2.2.1 h.2.2.2.2.1 h.2.2.2.2.2.1 h.2.2.2.2.2.2
def Fits (n : Int) : Prop:=(Lit.int .i64 n).wf = true
theorem fits_of {n : Int} (h1 : -9223372036854775808 ≤ n) (h2 : n ≤ 9223372036854775807) : Fits n:=by
 simp [Fits,Lit.wf,IntKind.min,IntKind.max,IntKind.signed,IntKind.bits];omega
def WM (t : Sm) : Prop:=Fits t.fr ∧ Fits t.to ∧ Fits t.kp ∧ Fits t.ad ∧ Fits t.t0 ∧ Fits t.t1 ∧ Fits t.t2
theorem R_w {t : Sm} (h : t.R) : WM t:=by
 unfold Sm.R at h
 exact ⟨fits_of (by omega) (by omega),fits_of (by omega) (by omega),fits_of (by omega) (by omega),fits_of (by omega) (by omega),fits_of (by omega) (by omega),fits_of (by omega) (by omega),fits_of (by omega) (by omega)⟩
theorem keyed7 : Keyed Tryz.prog 82:=Keyed.of_law (deep_law_laid progLaid (m:=8) (by decide) (of_decide_eq_true (by kernel_rfl)) (by kernel_rfl) (by kernel_rfl))
theorem cells_sum : Tryz.prog.cellsOf 82 = 7:=by kernel_rfl
theorem keyLits7 (d : Nat) {t : Sm} (h : WM t) :
 Tryz.prog.keyLits (d + 3) 82 [.int .i64 t.fr,.int .i64 t.to,.int .i64 t.kp,.int .i64 t.ad,.int .i64 t.t0,.int .i64 t.t1,.int .i64 t.t2] = some [.int .i64 t.fr,.int .i64 t.to,.int .i64 t.kp,.int .i64 t.ad,.int .i64 t.t0,.int .i64 t.t1,.int .i64 t.t2]:=by
 obtain ⟨h0,h1,h2,h3,h4,h5,h6⟩:=h
 unfold Fits at *
 simp [Program.keyLits,Tryz.underlying82,Tryz.underlying25,Tryz.underlying3,cells_sum,cells_arr,stCells_int,List.range_succ,h0,h1,h2,h3,h4,h5,h6]
theorem keyOf7_some {t : Sm} (h : WM t) : ∃ l,keyOf Tryz.prog 82 t.v = some l:=by
 have h0 : decide (1 < Tryz.prog.types.size) = true:=by kernel_rfl
 have h0:=of_decide_eq_true h0
 obtain ⟨m,hm⟩ : ∃ m,Tryz.prog.types.size = m + 2:=⟨Tryz.prog.types.size - 2,by omega⟩
 have hk : Tryz.prog.keyType 82 = true:=by kernel_rfl
 unfold keyOf
 rw [Tryz.underlying82,hm]
 simp [hk,Value.formed,Tryz.underlying82,cells_sum,Value.cells]
 exact ⟨_,_,keyLits7 m h,rfl⟩
noncomputable def kt (t : Sm) : Lit:=(keyOf Tryz.prog 82 t.v).getD (.bool false)
theorem keyOf_kt {t : Sm} (h : WM t) : keyOf Tryz.prog 82 t.v = some (kt t):=by
 obtain ⟨l,hl⟩:=keyOf7_some h
 unfold kt;rw [hl];rfl
theorem kt_inj {s t : Sm} (hs : WM s) (ht : WM t) (h : kt s = kt t) : s = t:=val_inj (keyed7.inj (keyOf_kt hs) (by rw [h];exact keyOf_kt ht))
theorem kt_lit {t : Sm} (h : WM t) : WideAt.IsKeyLit (kt t):=keyed7.key (keyOf_kt h)
def RU : Value → Option (DataW Unit × List MemPlace)
 | .agg ⟨[]⟩ => some (.agg [],[])
 | _ => none
theorem RU_inv {v : Value} {y : DataW Unit × List MemPlace} (h : RU v = some y) : v = .agg #[]:=by
 unfold RU at h
 split at h
 · rfl
 · cases h
noncomputable def entK (t : Sm) : Lit × DataW Unit:=(kt t,.agg [])
def MapK (w : World) (b N : Nat) (E : List Sm) : Prop :=
 (∃ D,w.ownsMap Tryz.prog 82 RU b N (.map D) ∧ D.Perm (E.map entK)) ∧ (∀ t ∈ E,t.R) ∧ E.Nodup
def putK (t : Sm) (E : List Sm) : List Sm:=t :: E.filter fun u => decide (u ≠ t)
theorem mem_putK {t u : Sm} {E : List Sm} : u ∈ putK t E ↔ u = t ∨ u ∈ E:=by
 unfold putK
 rw [List.mem_cons,List.mem_filter]
 constructor
 · rintro (h | h)
   · exact .inl h
   · exact .inr h.1
 · rintro (h | h)
   · exact .inl h
   · by_cases e : u = t
     · exact .inl e
     · exact .inr ⟨h,by simpa using e⟩
section
variable {w w' : World} {b n N : Nat} {E : List Sm} {row : Option Nat}
theorem MapK.made (w : World) : MapK (w.alloc (.map #[] 0)) w.heap.size 0 []:=⟨⟨[],World.ownsMap_made _ _ _ _,.refl _⟩,by simp,List.nodup_nil⟩
theorem MapK.kept (h : MapK w b n E) (hg : w.grownBy w' row) (hne : some b ≠ row) : MapK w' b n E:=by
 obtain ⟨⟨L,h1,h2⟩,h3⟩:=h
 exact ⟨⟨L,h1.kept hg hne,h2⟩,h3⟩
theorem MapK.alloc (h : MapK w b n E) (o : Obj) : MapK (w.alloc o) b n E:=h.kept (World.grownBy_alloc w o none) (by simp)
theorem MapK.store (h : MapK w b n E) (hn : n < maxLen) {t : Sm} (ht : t.R) :
 ∃ w',(Instr.mapUpdate 128 (.map (some b)) t.v (.agg #[])).run Tryz.prog w = .ok () w' ∧ MapK w' b (n + 1) (putK t E) ∧ w.grownBy w' (some b):=by
 obtain ⟨⟨L,h1,hp⟩,hR,hd⟩:=h
 obtain ⟨w',hrun,h2,hg⟩:=h1.update keyed7 Tryz.underlying128 hn (keyOf_kt (R_w ht)) (show RU (.agg #[]) = some (.agg [],[]) from rfl)
 rw [DataW.put_eq] at h2
 refine ⟨w',hrun,⟨⟨_,h2,?_⟩,?_,?_⟩,hg⟩
 · unfold putKey putK
   refine (insert_perm _ _).trans ?_
   rw [List.map_cons]
   refine List.Perm.cons _ ?_
   refine (hp.filter _).trans ?_
   rw [List.filter_map]
   refine List.Perm.of_eq ?_
   congr 1
   refine List.filter_congr fun u hu => ?_
   show notKey (kt t) (entK u) = _
   rw [Bool.eq_iff_iff,Go.Maps.notKey_iff (kt_lit (R_w ht)),decide_eq_true_iff]
   constructor
   · intro h e;exact h (by rw [← e];rfl)
   · intro h e;exact h (kt_inj (R_w (hR u hu)) (R_w ht) e)
 · intro u hu
   rcases mem_putK.1 hu with rfl | hu
   · exact ht
   · exact hR u hu
 · unfold putK
   refine List.nodup_cons.2 ⟨fun h => ?_,hd.filter _⟩
   have:=(List.mem_filter.1 h).2
   simp at this
end
theorem mkeys_any (b : Option Nat) (w : World) :
 Calls Tryz.prog 89 #[.map b] w fun e w' => e = .returned (.func (.func 153) #[] #[.pointer (some ⟨w.heap.size,0,none⟩)]) ∧ w' = w.alloc (.cells #[.map b] 128):=by
 go_enter Tryz.func89,Tryz.ntmps89
 go_wp2_with fail
 go_ret
 exact ⟨rfl,rfl⟩
structure ColK (E : List Sm) (left : Lit → Bool) (xs : List RSm) : Prop where
 sub : ∀ t ∈ raw xs,t ∈ E
 nodup : (raw xs).Nodup
 all : ∀ e ∈ E,left (kt e) = true ∨ e ∈ raw xs
 gone : ∀ t ∈ raw xs,left (kt t) = false
section
variable {E : List Sm} {D : List (Lit × DataW Unit)} {left : Lit → Bool} {xs : List RSm}
theorem ColK.start (hp : D.Perm (E.map entK)) (hR : ∀ t ∈ E,t.R) : ColK E (Go.Maps.has (.map D)) []:=by
 refine ⟨by simp [raw],by simp [raw],fun e he => .inl ?_,by simp [raw]⟩
 rw [Go.Maps.has_eq,List.any_eq_true]
 exact ⟨entK e,hp.mem_iff.2 (List.mem_map_of_mem he),WideAt.sameKey_self (kt_lit (R_w (hR e he)))⟩
theorem map_atK {k : Lit} {y : DataW Unit} (hp : D.Perm (E.map entK)) (hat : ∀ zd,(DataW.map D).atKey k zd = y) : ∃ p ∈ E,kt p = k:=by
 have h1 : Go.Maps.has (.map D) k = true:=Go.Maps.has_true_of_atKey hat
 rw [Go.Maps.has_eq,List.any_eq_true] at h1
 obtain ⟨p,hp1,hp2⟩:=h1
 obtain ⟨u,hu,e⟩:=List.mem_map.1 (hp.mem_iff.1 hp1)
 refine ⟨u,hu,?_⟩
 have h5:=WideAt.sameKey_eq hp2
 rw [← e] at h5
 exact h5
theorem ColK.step (h : ColK E left xs) (hR : ∀ t ∈ E,t.R) {c : RSm} (hc : c.1 ∈ E) {k : Lit} (hk : kt c.1 = k) (hl : left k = true) :
 ColK E (fun z => left z && !z.sameKey k) (xs ++ [c]):=by
 have hr : raw (xs ++ [c]) = raw xs ++ [c.1]:=by simp [raw]
 have hself : k.sameKey k = true:=by rw [← hk];exact WideAt.sameKey_self (kt_lit (R_w c.2))
 refine ⟨?_,?_,?_,?_⟩
 · intro t ht
   rw [hr] at ht
   rcases List.mem_append.1 ht with ht | ht
   · exact h.sub t ht
   · rw [List.mem_singleton] at ht;subst ht;exact hc
 · rw [hr,List.nodup_append]
   refine ⟨h.nodup,by simp,fun a ha b hb e => ?_⟩
   rw [List.mem_singleton] at hb
   subst hb;subst e
   have:=h.gone _ ha
   rw [hk,hl] at this;cases this
 · intro e he
   rw [hr]
   by_cases hs : (kt e).sameKey k = true
   · refine .inr (List.mem_append_right _ ?_)
     have h1 : kt e = kt c.1:=(WideAt.sameKey_eq hs).trans hk.symm
     rw [kt_inj (R_w (hR e he)) (R_w c.2) h1]
     simp
   · rcases h.all e he with h1 | h1
     · refine .inl ?_
       simp [h1,hs]
     · exact .inr (List.mem_append_left _ h1)
 · intro t ht
   rw [hr] at ht
   rcases List.mem_append.1 ht with ht | ht
   · simp [h.gone t ht]
   · rw [List.mem_singleton] at ht;subst ht
     rw [hk,hself];simp
end
def AllOf (E : List Sm) (xs : List RSm) : Prop:=(raw xs).Nodup ∧ ∀ t,t ∈ raw xs ↔ t ∈ E
section
variable {E : List Sm} {left : Lit → Bool} {xs : List RSm}
theorem ColK.done (h : ColK E left xs) (hl : ∀ k,left k = false) : AllOf (E) xs :=
 ⟨h.nodup,fun t => ⟨h.sub t,fun ht => by
  rcases h.all t ht with h1 | h1
  · rw [hl] at h1;cases h1
  · exact h1⟩⟩
end
set_option maxHeartbeats 2000000 in
theorem keysC_some (n : Nat) (hn : 1 ≤ n) (Bm b nn : Nat) (E : List Sm) (w : World) (hBm : BoxAt w Bm (.map (some b))) (hM : MapK w b nn E) :
 SeqStopsK Fence.wide n Tryz.prog 153 #[.pointer (some ⟨Bm,0,none⟩)] encS KeepsWalks (AllOf (E)) (fun _ => True) E.length w:=fun l J Jx W hW hJ _ hY h0 => by
 have hm:=(hBm.below hW).2
 obtain ⟨⟨D,hown,hp⟩,hR,hnd⟩:=hM
 have hown : W.ownsMap Tryz.prog 82 RU b nn (.map D):=by
  have hbl:=hown.lt
  obtain ⟨es,clock,hb,Ft,hs,hD⟩:=hown
  exact ⟨es,clock,(hW.block b hbl).trans hb,Ft,hs,hD⟩
 have hsize : Go.Maps.size (DataW.map D) = E.length:=by
  rw [Go.Maps.size_eq,hp.length_eq,List.length_map]
 have HP:=Hd (And.intro hp hR);have HJ:=Hd hJ
 have hcol:=ColK.start hp hR
 clear hp hR hJ hBm hW
 refine callsIn_of_wp Tryz.func153 rfl trivial ?_ rfl
 simp only [Tryz.ntmps153,List.size_toArray,List.length_cons,List.length_nil,Nat.reduceAdd,Nat.reduceSub,Array.replicate_succ,Array.replicate_zero,List.push_toArray,List.append_toArray,List.nil_append,List.cons_append]
 gi_wp2_with (first
  | (gi_at_range;refine wpListIn_range_own _ rfl _ 128 rfl 82 129 keyed7 Tryz.underlying128 RU b nn _ rfl hown ?_;intro w0 hrg0 hg0 hs0)
  | gi_in)
 go_frame
 gi_loopw [3] (fun _ wr => ∃ (left : Lit → Bool) (cnt : Nat) (xs : List RSm),wr.ranges Tryz.prog 82 RU b W.heap.size nn (.map D) left cnt ∧ xs.length + cnt ≤ E.length ∧ ColK E left xs ∧ J xs wr)
  (fun _ wr => wr.rangeLeft b W.heap.size)
 case atStart =>
  exact ⟨_,_,[],hrg0,by rw [hsize];simp,hcol,HJ.out [] W w0 none h0 hg0 (fun r e => by cases e)⟩
 case round =>
  obtain ⟨left,cnt,xs,hrg,hcs,hC,hJs⟩:=hrel
  clear hcol hrg0 hg0 hs0 hm h0
  have HC:=Hd hC;clear hC
  gi_wp2_with (first
   | (gi_at_next;refine wpListIn_next_ranges _ rfl _ rfl 82 keyed7 RU id (fun _ : Unit => Value.agg #[]) (fun key kl _ => ⟨key,rfl⟩) (fun v y hv => ⟨(),RU_inv hv⟩) b W.heap.size nn _ _ _ rfl hrg ?_ ?_)
   | gi_in)
  · intro hc0 hl0
    have H:=Hd (HC.out.done hl0)
    gi_wp2
    go_end0
    exact ⟨⟨_,rfl⟩,.inl ⟨xs,H.out,hJs⟩⟩
  · intro x kl0 yd yp w2 cnt2 hkey hlk hv hat hrg2 hlt hg2 hs2 hen
    obtain ⟨c,hcL,hpk⟩:=map_atK HP.out.1 hat
    have hcR : c.R:=HP.out.2 c hcL
    have hx : x = c.v:=keyed7.inj hkey (by rw [← hpk];exact keyOf_kt (R_w hcR))
    subst hx
    have hJ2 : J xs w2:=HJ.out xs wr w2 (some W.heap.size) hJs hg2 (fun r e => by cases e;exact ⟨Nat.le_refl _,hrg.iter_walk⟩)
    have hJ3 : J xs (w2.alloc (.cells #[.int .i64 c.fr,.int .i64 c.to,.int .i64 c.kp,.int .i64 c.ad,.int .i64 c.t0,.int .i64 c.t1,.int .i64 c.t2] 82)):=HJ.out _ _ _ none hJ2 (World.grownBy_alloc _ _ none) (fun r e => by cases e)
    obtain ⟨fn,tmps,assign,body,hy,hRR⟩:=hY xs ⟨c,hcR⟩ _ hJ3 (by omega)
    dsimp only [encS] at hy
    have hC2:=HC.out.step HP.out.2 (c:=⟨c,hcR⟩) hcL hpk hlk
    have hrg3:=hrg2.of_walks (KeepsWalks.alloc w2 (.cells #[.int .i64 c.fr,.int .i64 c.to,.int .i64 c.kp,.int .i64 c.ad,.int .i64 c.t0,.int .i64 c.t1,.int .i64 c.t2] 82))
    have HC2:=Hd hC2;have HRG:=Hd hrg3;have HR:=Hd hRR;have HRG0:=Hd hrg
    unfold Sm.v at *
    clear hs2 hC2 hrg3 hRR hrg hrg2 hkey hlk hv hat hg2 hJ2 hJ3 hJs HC hpk hcL
    gi_wp2
    refine HR.out.mono ?_
    rintro e W3 (⟨rfl,hJ3,hk3⟩ | ⟨rfl,hJx3⟩)
    · have hrg4:=HRG.out.of_walks hk3
      have HRG4:=Hd hrg4;clear hrg4 hk3
      gi_wp2
      go_roundw
      case rel => exact ⟨_,cnt2,xs ++ [⟨c,_⟩],HRG4.out,by rw [List.length_append];simp;omega,HC2.out,hJ3⟩
      case measure => rw [HRG4.out.left_eq,HRG0.out.left_eq];exact hlt
    · gi_wp2
      refine bodyPost_ret (results_none rfl _ _ _) rfl ?_
      exact ⟨⟨_,rfl⟩,.inr ⟨_,trivial,hJx3⟩⟩
end Mx
end

section
namespace Mx
open Go.ChangeShapes Go.WideShapes Go.ChangeAt Go.RowKit Go.BigFrame Go.Shelf
attribute [local go_sem] Oper.semAt_some
def AppI (w : World) (pre : List RSm) (W : World) : Prop:=∃ v,Boxed W w.heap.size 75 v ∧ W.ownsRow w.heap.size 82 7 v pre.length (rowS (raw pre)) ∧ True
theorem rowS_one_at (w : World) (t : Sm) : ∀ (j : Nat) (u : Value),(rowS [t])[j]? = some u → (w.alloc (.cells #[.int .i64 t.fr,.int .i64 t.to,.int .i64 t.kp,.int .i64 t.ad,.int .i64 t.t0,.int .i64 t.t1,.int .i64 t.t2] 82)).cell? ((⟨w.heap.size,0,none⟩ : Addr).add j) = some u:=by
 intro j u hj
 have h : Row (w.alloc (.cells #[.int .i64 t.fr,.int .i64 t.to,.int .i64 t.kp,.int .i64 t.ad,.int .i64 t.t0,.int .i64 t.t1,.int .i64 t.t2] 82)) w.heap.size 82 (rowS [t]):=Row.made w _ (rowS [t])
 rw [add_zero_off]
 exact (h.cell j).trans hj
set_option maxRecDepth 100000 in
set_option maxHeartbeats 4000000 in
theorem appendSeq_any (g N : Nat) (lb : Array Value) (S Sp : List RSm → Prop) (hN : N ≤ 200000000) (w0 w : World) (hb0 : Below w0.heap.size w0 w) (eg : ∀ args w,(callFunc g args).run Tryz.prog w = .ok (.enter g args) w)
 (hseq : ∀ n,1 ≤ n → SeqStopsK Fence.wide n Tryz.prog g lb encS KeepsWalks S Sp N w0) :
 Calls Tryz.prog 185 #[.slice none 0 0,.func (.func g) #[] lb] w fun e W' => (∃ v xs,e = .returned v ∧ S xs ∧ W'.ownsRow w.heap.size 82 7 v xs.length (rowS (raw xs))) ∧ Below w.heap.size w W':=by
 refine (callsIn_wide (n:=5)).1 ?_
 refine callsIn_of_wp_marks Tryz.func185 rfl trivial ?_ rfl
 simp only [Tryz.ntmps185,List.size_toArray,List.length_cons,List.length_nil,Nat.reduceAdd,Nat.reduceSub,Array.replicate_succ,Array.replicate_zero,List.push_toArray,List.append_toArray,List.nil_append,List.cons_append]
 obtain ⟨i0,hi,hz0,hz1,hz2⟩:=info_parts infoSum
 gi_wp2
 have hsz : (w.alloc (.cells #[.slice none 0 0] 75)).heap.size = w.heap.size + 1:=by simp
 have bM:=Boxed.new w 75 (.slice none 0 0)
 have hB0 : Below w.heap.size w (w.alloc (.cells #[.slice none 0 0] 75)):=(Below.refl _ w).alloc (Nat.le_refl _) _
 have hK0 : Below w0.heap.size w0 (w.alloc (.cells #[.slice none 0 0] 75)):=hb0.alloc hb0.size _
 obtain ⟨W0,hW0⟩ : ∃ W0,w.alloc (.cells #[.slice none 0 0] 75) = W0:=⟨_,rfl⟩
 rw [hW0] at hsz bM hB0 hK0 ⊢
 clear hW0 hb0
 refine wpIn_rangeFunc_ownH rfl (by omega) (gf:=g) (lb:=lb) rfl trivial eg (hseq 4 (by omega)) walksK_t walksK_b hK0 (fun _ => rfl)
  (fun pre W => AppI w pre W ∧ Below w.heap.size w W)
  (fun _ _ _ => False)
  (OwnFrom.and (Own.from (holdsRow_own w.heap.size w.heap.size 75 82 7 (fun pre : List RSm => pre.length) (fun pre => rowS (raw pre)) (fun _ _ => True)) _) (ownFrom_below (Nat.le_refl _) (by omega)))
  (fun _ _ _ _ _ hs _ _ => hs)
  ⟨⟨_,bM,World.ownsRow_nil _ _ _ _,trivial⟩,hB0⟩
  (fun x a' W => ∃ Bx,w.heap.size < Bx ∧ Holds W Bx x.1 ∧ a' = { tmps:=#[.slice none 0 0,.func (.func g) #[] lb,.pointer (some ⟨w.heap.size,0,none⟩),undef,.slice none 0 0,.pointer (some ⟨Bx,0,none⟩),.func (.func g) #[] lb,.agg #[.int .i64 x.1.fr,.int .i64 x.1.to,.int .i64 x.1.kp,.int .i64 x.1.ad,.int .i64 x.1.t0,.int .i64 x.1.t1,.int .i64 x.1.t2],undef,undef,undef,undef,undef],defers:=[] })
  (fun x a' _ X Y row hs hg hr => by
    obtain ⟨Bx,h1,h2,h3⟩:=hs
    refine ⟨Bx,h1,Row.grown h2 hg (fun e => ?_),h3⟩
    obtain ⟨_,o,ho,hc⟩:=hr Bx e.symm
    have h4 : X.heap[Bx]? = _:=h2
    rw [h4] at ho;cases ho;cases hc)
  ?assign ?body ?done ?stop
 case assign =>
  rintro l pre x W K ⟨⟨v,bM1,hr1⟩,hB1⟩ hK
  dsimp only [encS] at *
  unfold Sm.v at *
  gi_wp2
  exact hK _ _ ((KeepsOthers.alloc _ _).from _) (KeepsWalks.alloc W _) ⟨⟨v,bM1.alloc _,hr1.1.alloc _,trivial⟩,hB1.alloc hB1.size _⟩ ⟨W.heap.size,bM1.lt,Holds.made W x.1,rfl⟩
 case body =>
  rintro l pre x a' W hl ⟨r,hr⟩ ⟨⟨v,bM1,hr1,_⟩,hB1⟩ ⟨Bx,hBx,bX,rfl⟩ hlt
  have hsW:=hB1.size
  have cM:=bM1.cell
  have hBl:=bX.lt
  have hml:=bM1.lt
  obtain ⟨c0,c1,c2,c3,c4,c5,c6⟩:=bX.cells5
  have hnews:=rowS_one_at W x.1
  have hrow:=hr1.alloc (.cells #[.int .i64 x.1.fr,.int .i64 x.1.to,.int .i64 x.1.kp,.int .i64 x.1.ad,.int .i64 x.1.t0,.int .i64 x.1.t1,.int .i64 x.1.t2] 82)
  have hlen : rowS (raw pre) ++ rowS [x.1] = rowS (raw (pre ++ [x])):=by rw [← rowS_append];simp [raw]
  have HB:=Hd (And.intro bM1 (And.intro hr1 hB1));have HROW:=Hd hrow;have HN:=Hd hnews;have HL:=Hd hlen
  clear bM1 hr1 hB1 hrow hnews hr bX hseq eg hB0 hK0 hlen
  gi_wp2_with (gi_at_builtin;refine wpListIn_append_own _ rfl _ _ 75 rfl w.heap.size 82 i0 (.agg #[.int .i64 0,.int .i64 0,.int .i64 0,.int .i64 0,.int .i64 0,.int .i64 0,.int .i64 0]) 7 56 Tryz.underlying75 hi hz0 hz1 hz2 rfl (by decide) v pre.length (rowS (raw pre)) rfl HROW.out ⟨W.heap.size,0,none⟩ 1 1 (rowS [x.1]) rfl rfl HN.out (rowS_one [x.1]) (by unfold maxLen;omega) (by omega) (by simp;omega) ?_;intro v' w1 hown' hgrow _;obtain ⟨g',cap',rfl⟩:=ownsRow_succ hown';obtain ⟨hv1,hv2,hr2,hk2,hb2⟩:=(HB.out.1).appended (by decide) HB.out.2.1 hsW (Nat.le_refl _) hown' hgrow;have hc1:=hv1.cell;have hf1:=hv1.frozen)
  rw [HL.out] at hr2
  exact ⟨hk2.from _,hk2.walks,⟨_,hv2,by rw [List.length_append];exact hr2,trivial⟩,HB.out.2.2.trans hb2⟩
 case done =>
  rintro D ys W hD hys ⟨⟨v,bM1,hr1,_⟩,hB1⟩ hK
  have cM:=bM1.cell
  have HR:=Hd hr1;have HB1:=Hd hB1;have HK:=Hd hK
  clear hr1 bM1 hB1 hseq eg hB0 hK0 hK
  gi_wp2
  refine ⟨by simp,.inl ⟨_,_,rfl,run_takeDeferred HK.out,?_⟩⟩
  exact ⟨_,results_tmp rfl _ _ _,⟨_,ys,rfl,hys,ownsRow_putObj HR.out _ HK.out rfl⟩,HB1.out.trans (belowK_b (w:=w) (Nat.le_refl _) W D _ _ (by omega) HK.out rfl rfl)⟩
 case stop =>
  rintro D c pre W _ _ h _
  exact h.elim
theorem collect_any (g N : Nat) (lb : Array Value) (S Sp : List RSm → Prop) (hN : N ≤ 200000000) (w0 w : World) (hb0 : Below w0.heap.size w0 w) (eg : ∀ args w,(callFunc g args).run Tryz.prog w = .ok (.enter g args) w)
 (hseq : ∀ n,1 ≤ n → SeqStopsK Fence.wide n Tryz.prog g lb encS KeepsWalks S Sp N w0) :
 Calls Tryz.prog 151 #[.func (.func g) #[] lb] w fun e W' => (∃ v xs,e = .returned v ∧ S xs ∧ W'.ownsRow w.heap.size 82 7 v xs.length (rowS (raw xs))) ∧ Below w.heap.size w W':=by
 have H:=Hd (appendSeq_any g N lb S Sp hN w0 w hb0 eg hseq)
 clear hseq eg hb0
 go_enter Tryz.func151,Tryz.ntmps151
 go_wp2_with fail
 refine (H.out).mono ?_;rintro e w1 ⟨⟨v,xs,rfl,hS,hr⟩,hb⟩
 have HH:=Hd (And.intro hS (And.intro hr hb));clear hS hr hb
 dsimp only
 go_wp2_with fail
 go_ret
 exact ⟨⟨v,xs,rfl,HH.out.1,HH.out.2.1⟩,HH.out.2.2⟩
end Mx
end

section
namespace Mx
def orL : List Int → Int
 | [] => 0
 | x :: r => if x = 0 then orL r else x
set_option maxHeartbeats 2000000 in
theorem sliceCmp_any (p q : Nat) (a b : Sm) (w : World) (ha : HoldsM w p 82 a) (hb : HoldsM w q 82 b) :
 Calls Tryz.prog 156 #[.slice (some ⟨p,4,none⟩) 3 3,.slice (some ⟨q,4,none⟩) 3 3] w fun e w' => e = .returned (.int .i64 (orL [sgn a.t0 b.t0,sgn a.t1 b.t1,sgn a.t2 b.t2])) ∧ w' = w:=by
 have S0:=Hd (cc_same a.t0 b.t0);have S1:=Hd (cc_same a.t1 b.t1);have S2:=Hd (cc_same a.t2 b.t2)
 obtain ⟨-,-,-,-,a4,a5,a6⟩:=ha.cells7
 obtain ⟨-,-,-,-,b4,b5,b6⟩:=hb.cells7
 clear ha hb
 generalize sgn a.t0 b.t0 = s0 at *
 generalize sgn a.t1 b.t1 = s1 at *
 generalize sgn a.t2 b.t2 = s2 at *
 obtain ⟨F,hF⟩ : ∃ F,F = orL [s0,s1,s2]:=⟨_,rfl⟩
 rw [← hF]
 have HF:=Hd hF;clear hF
 go_enter Tryz.func156,Tryz.ntmps156
 go_wp2_with fail
 go_loop [11] (fun i => ∃ k : Nat,k ≤ 3 ∧ i = .int .i64 k ∧ (0 < k → s0 = 0) ∧ (1 < k → s1 = 0) ∧ (2 < k → s2 = 0)) (fun i => 3 - (intOf i).toNat)
 case atStart => exact ⟨0,by omega,rfl,by omega,by omega,by omega⟩
 case round =>
  obtain ⟨k,hk,rfl,hs⟩:=hrel
  have HS:=Hd hs;clear hs
  have hcase : k = 0 ∨ k = 1 ∨ k = 2 ∨ k = 3:=by omega
  clear hk
  rcases hcase with rfl | rfl | rfl | rfl
  · go_wp2_with fail
    refine (S0.out _).mono ?_;rintro e w' ⟨rfl,rfl⟩
    dsimp only
    by_cases hq : s0 = 0
    · have hq' : (s0 != 0) = false:=by simp [hq]
      have HQ:=Hd hq;clear hq
      go_wp2_with fail
      go_round
      case rel => exact ⟨1,by omega,rfl,fun _ => HQ.out,by omega,by omega⟩
      case measure => simp [intOf]
    · have hq' : (s0 != 0) = true:=by simpa using hq
      have HQ:=Hd hq;clear hq
      go_wp2_with fail
      go_ret
      exact ⟨by rw [HF.out];unfold orL;rw [if_neg HQ.out];rfl,rfl⟩
  · go_wp2_with fail
    refine (S1.out _).mono ?_;rintro e w' ⟨rfl,rfl⟩
    dsimp only
    by_cases hq : s1 = 0
    · have hq' : (s1 != 0) = false:=by simp [hq]
      have HQ:=Hd hq;clear hq
      go_wp2_with fail
      go_round
      case rel => exact ⟨2,by omega,rfl,fun _ => HS.out.1 (by omega),fun _ => HQ.out,by omega⟩
      case measure => simp [intOf]
    · have hq' : (s1 != 0) = true:=by simpa using hq
      have HQ:=Hd hq;clear hq
      go_wp2_with fail
      go_ret
      exact ⟨by rw [HF.out];unfold orL;rw [if_pos (HS.out.1 (by omega))];unfold orL;rw [if_neg HQ.out];rfl,rfl⟩
  · go_wp2_with fail
    refine (S2.out _).mono ?_;rintro e w' ⟨rfl,rfl⟩
    dsimp only
    by_cases hq : s2 = 0
    · have hq' : (s2 != 0) = false:=by simp [hq]
      have HQ:=Hd hq;clear hq
      go_wp2_with fail
      go_round
      case rel => exact ⟨3,by omega,rfl,fun _ => HS.out.1 (by omega),fun _ => HS.out.2.1 (by omega),fun _ => HQ.out⟩
      case measure => simp [intOf]
    · have hq' : (s2 != 0) = true:=by simpa using hq
      have HQ:=Hd hq;clear hq
      go_wp2_with fail
      go_ret
      exact ⟨by rw [HF.out];unfold orL;rw [if_pos (HS.out.1 (by omega))];unfold orL;rw [if_pos (HS.out.2.1 (by omega))];unfold orL;rw [if_neg HQ.out];rfl,rfl⟩
  · go_wp2_with fail
    go_ret
    exact ⟨by rw [HF.out];unfold orL;rw [if_pos (HS.out.1 (by omega))];unfold orL;rw [if_pos (HS.out.2.1 (by omega))];unfold orL;rw [if_pos (HS.out.2.2 (by omega))];rfl,rfl⟩
set_option maxHeartbeats 2000000 in
theorem or5_any (g : Nat) (s0 s1 s2 s3 s4 : Int) (w : World) (ty : TypeId) (hr : Row w g ty [.int .i64 s0,.int .i64 s1,.int .i64 s2,.int .i64 s3,.int .i64 s4]) :
 Calls Tryz.prog 154 #[.slice (some ⟨g,0,none⟩) 5 5] w fun e w' => e = .returned (.int .i64 (orL [s0,s1,s2,s3,s4])) ∧ w = w':=by
 have c0:=hr.cell 0;have c1:=hr.cell 1;have c2:=hr.cell 2;have c3:=hr.cell 3;have c4:=hr.cell 4
 simp only [List.getElem?_cons_succ,List.getElem?_cons_zero] at c0 c1 c2 c3 c4
 clear hr
 obtain ⟨F,hF⟩ : ∃ F,F = orL [s0,s1,s2,s3,s4]:=⟨_,rfl⟩
 rw [← hF]
 have HF:=Hd hF;clear hF
 go_enter Tryz.func154,Tryz.ntmps154
 go_wp2_with fail
 go_loop [5,8] (fun c i => ∃ k : Nat,k ≤ 5 ∧ i = .int .i64 k ∧ (0 < k → s0 = 0) ∧ (1 < k → s1 = 0) ∧ (2 < k → s2 = 0) ∧ (3 < k → s3 = 0) ∧ (4 < k → s4 = 0)) (fun c i => 5 - (intOf i).toNat)
 case atStart => exact ⟨0,by omega,rfl,by omega,by omega,by omega,by omega,by omega⟩
 case round =>
  obtain ⟨k,hk,rfl,hs⟩:=hrel
  have HS:=Hd hs;clear hs
  have hcase : k = 0 ∨ k = 1 ∨ k = 2 ∨ k = 3 ∨ k = 4 ∨ k = 5:=by omega
  clear hk
  rcases hcase with rfl | rfl | rfl | rfl | rfl | rfl
  · by_cases hq : s0 = 0
    · have hq' : (s0 != 0) = false:=by simp [hq]
      have HQ:=Hd hq;clear hq
      go_wp2_with fail
      go_round
      case rel => exact ⟨1,by omega,rfl,fun _ => HQ.out,by omega,by omega,by omega,by omega⟩
      case measure => simp [intOf]
    · have hq' : (s0 != 0) = true:=by simpa using hq
      have HQ:=Hd hq;clear hq
      go_wp2_with fail
      go_ret
      exact ⟨by rw [HF.out];unfold orL;rw [if_neg HQ.out];rfl,rfl⟩
  · by_cases hq : s1 = 0
    · have hq' : (s1 != 0) = false:=by simp [hq]
      have HQ:=Hd hq;clear hq
      go_wp2_with fail
      go_round
      case rel => exact ⟨2,by omega,rfl,fun _ => HS.out.1 (by omega),fun _ => HQ.out,by omega,by omega,by omega⟩
      case measure => simp [intOf]
    · have hq' : (s1 != 0) = true:=by simpa using hq
      have HQ:=Hd hq;clear hq
      go_wp2_with fail
      go_ret
      exact ⟨by rw [HF.out];unfold orL;rw [if_pos (HS.out.1 (by omega))];unfold orL;rw [if_neg HQ.out];rfl,rfl⟩
  · by_cases hq : s2 = 0
    · have hq' : (s2 != 0) = false:=by simp [hq]
      have HQ:=Hd hq;clear hq
      go_wp2_with fail
      go_round
      case rel => exact ⟨3,by omega,rfl,fun _ => HS.out.1 (by omega),fun _ => HS.out.2.1 (by omega),fun _ => HQ.out,by omega,by omega⟩
      case measure => simp [intOf]
    · have hq' : (s2 != 0) = true:=by simpa using hq
      have HQ:=Hd hq;clear hq
      go_wp2_with fail
      go_ret
      exact ⟨by rw [HF.out];unfold orL;rw [if_pos (HS.out.1 (by omega))];unfold orL;rw [if_pos (HS.out.2.1 (by omega))];unfold orL;rw [if_neg HQ.out];rfl,rfl⟩
  · by_cases hq : s3 = 0
    · have hq' : (s3 != 0) = false:=by simp [hq]
      have HQ:=Hd hq;clear hq
      go_wp2_with fail
      go_round
      case rel => exact ⟨4,by omega,rfl,fun _ => HS.out.1 (by omega),fun _ => HS.out.2.1 (by omega),fun _ => HS.out.2.2.1 (by omega),fun _ => HQ.out,by omega⟩
      case measure => simp [intOf]
    · have hq' : (s3 != 0) = true:=by simpa using hq
      have HQ:=Hd hq;clear hq
      go_wp2_with fail
      go_ret
      exact ⟨by rw [HF.out];unfold orL;rw [if_pos (HS.out.1 (by omega))];unfold orL;rw [if_pos (HS.out.2.1 (by omega))];unfold orL;rw [if_pos (HS.out.2.2.1 (by omega))];unfold orL;rw [if_neg HQ.out];rfl,rfl⟩
  · by_cases hq : s4 = 0
    · have hq' : (s4 != 0) = false:=by simp [hq]
      have HQ:=Hd hq;clear hq
      go_wp2_with fail
      go_round
      case rel => exact ⟨5,by omega,rfl,fun _ => HS.out.1 (by omega),fun _ => HS.out.2.1 (by omega),fun _ => HS.out.2.2.1 (by omega),fun _ => HS.out.2.2.2.1 (by omega),fun _ => HQ.out⟩
      case measure => simp [intOf]
    · have hq' : (s4 != 0) = true:=by simpa using hq
      have HQ:=Hd hq;clear hq
      go_wp2_with fail
      go_ret
      exact ⟨by rw [HF.out];unfold orL;rw [if_pos (HS.out.1 (by omega))];unfold orL;rw [if_pos (HS.out.2.1 (by omega))];unfold orL;rw [if_pos (HS.out.2.2.1 (by omega))];unfold orL;rw [if_pos (HS.out.2.2.2.1 (by omega))];unfold orL;rw [if_neg HQ.out];rfl,rfl⟩
  · go_wp2_with fail
    go_ret
    exact ⟨by rw [HF.out];unfold orL;rw [if_pos (HS.out.1 (by omega))];unfold orL;rw [if_pos (HS.out.2.1 (by omega))];unfold orL;rw [if_pos (HS.out.2.2.1 (by omega))];unfold orL;rw [if_pos (HS.out.2.2.2.1 (by omega))];unfold orL;rw [if_pos (HS.out.2.2.2.2 (by omega))];rfl,rfl⟩
def _root_.Go.Proofs.YtonelpnhoiajgaaGreatDoor.Sm.C (a b : Sm) : Int:=orL [sgn a.fr b.fr,sgn a.to b.to,sgn a.kp b.kp,sgn a.ad b.ad,orL [sgn a.t0 b.t0,sgn a.t1 b.t1,sgn a.t2 b.t2]]
theorem orL_neg {x : Int} {r : List Int} : orL (x :: r) < 0 ↔ x < 0 ∨ x = 0 ∧ orL r < 0:=by
 rw [orL];split <;> omega
theorem orL_zero {x : Int} {r : List Int} : orL (x :: r) = 0 ↔ x = 0 ∧ orL r = 0:=by
 rw [orL];split <;> omega
theorem sgn_neg {a b : Int} : sgn a b < 0 ↔ a < b:=by
 rcases sgn_cases a b with ⟨h,e⟩ | ⟨h,e⟩ | ⟨h,e⟩ <;> rw [e] <;> simp <;> omega
theorem C_neg {a b : Sm} : a.C b < 0 ↔ a.A b:=by
 unfold Sm.C Sm.A
 rw [orL_neg,orL_neg,orL_neg,orL_neg,orL_neg,orL_neg,orL_neg,orL_neg,sgn_neg,sgn_neg,sgn_neg,sgn_neg,sgn_neg,sgn_neg,sgn_neg,sgn_zero,sgn_zero,sgn_zero,sgn_zero,sgn_zero,sgn_zero,sgn_zero]
 have h0 : orL [] = 0:=rfl
 rw [h0]
 omega
theorem _root_.Go.Proofs.YtonelpnhoiajgaaGreatDoor.Sm.C_zero {a b : Sm} : a.C b = 0 ↔ a = b:=by
 unfold Sm.C
 rw [orL_zero,orL_zero,orL_zero,orL_zero,orL_zero,orL_zero,orL_zero,orL_zero,sgn_zero,sgn_zero,sgn_zero,sgn_zero,sgn_zero,sgn_zero,sgn_zero,Sm.ext_iff']
 have h0 : orL [] = 0:=rfl
 simp [h0]
theorem _root_.Go.Proofs.YtonelpnhoiajgaaGreatDoor.Sm.C_swap {a b : Sm} : a.C b = - b.C a:=by
 unfold Sm.C
 rw [sgn_swap a.fr b.fr,sgn_swap a.to b.to,sgn_swap a.kp b.kp,sgn_swap a.ad b.ad,sgn_swap a.t0 b.t0,sgn_swap a.t1 b.t1,sgn_swap a.t2 b.t2]
 generalize sgn b.fr a.fr = s1
 generalize sgn b.to a.to = s2
 generalize sgn b.kp a.kp = s3
 generalize sgn b.ad a.ad = s4
 generalize sgn b.t0 a.t0 = s5
 generalize sgn b.t1 a.t1 = s6
 generalize sgn b.t2 a.t2 = s7
 simp only [orL]
 repeat' split
 all_goals omega
theorem _root_.Go.Proofs.YtonelpnhoiajgaaGreatDoor.Sm.C_lt_trans {a b c : Sm} (h1 : a.C b < 0) (h2 : b.C c < 0) : a.C c < 0:=by
 rw [C_neg] at *;exact Sm.A_trans h1 h2
theorem _root_.Go.Proofs.YtonelpnhoiajgaaGreatDoor.Sm.C_trans {a b c : Sm} (h1 : a.C b ≤ 0) (h2 : b.C c ≤ 0) : a.C c ≤ 0:=by
 rcases Int.lt_or_eq_of_le h1 with h3 | h3
 · rcases Int.lt_or_eq_of_le h2 with h4 | h4
   · exact Int.le_of_lt (Sm.C_lt_trans h3 h4)
   · rw [Sm.C_zero] at h4;subst h4;exact h1
 · rw [Sm.C_zero] at h3;subst h3;exact h2
set_option maxHeartbeats 4000000 in
theorem compare_grew (a b : Sm) (w : World) : Calls Tryz.prog 90 #[a.v,b.v] w fun e w' => e = .returned (.int .i64 (a.C b)) ∧ Grew w w':=by
 have hsc:=fun (p q : Nat) (w : World) => sliceCmp_any p q a b w
 have hor:=fun (g : Nat) (w : World) (ty : TypeId) => or5_any g (sgn a.fr b.fr) (sgn a.to b.to) (sgn a.kp b.kp) (sgn a.ad b.ad) (orL [sgn a.t0 b.t0,sgn a.t1 b.t1,sgn a.t2 b.t2]) w ty
 rw [show orL [sgn a.fr b.fr,sgn a.to b.to,sgn a.kp b.kp,sgn a.ad b.ad,orL [sgn a.t0 b.t0,sgn a.t1 b.t1,sgn a.t2 b.t2]] = a.C b from rfl] at hor
 have S0:=Hd (cc_same a.fr b.fr);have S1:=Hd (cc_same a.to b.to);have S2:=Hd (cc_same a.kp b.kp);have S3:=Hd (cc_same a.ad b.ad)
 generalize sgn a.fr b.fr = s0 at *
 generalize sgn a.to b.to = s1 at *
 generalize sgn a.kp b.kp = s2 at *
 generalize sgn a.ad b.ad = s3 at *
 generalize orL [sgn a.t0 b.t0,sgn a.t1 b.t1,sgn a.t2 b.t2] = s4 at *
 generalize a.C b = R at *
 have h2:=Two2.made w 82 a b
 have hg : Grew w ((w.alloc (.cells #[.int .i64 a.fr,.int .i64 a.to,.int .i64 a.kp,.int .i64 a.ad,.int .i64 a.t0,.int .i64 a.t1,.int .i64 a.t2] 82)).alloc (.cells #[.int .i64 b.fr,.int .i64 b.to,.int .i64 b.kp,.int .i64 b.ad,.int .i64 b.t0,.int .i64 b.t1,.int .i64 b.t2] 82)):=((Grew.refl w).alloc _).alloc _
 have H2:=Hd h2;have HG:=Hd hg;have SC:=Hd hsc;have OR:=Hd hor;clear h2 hg hsc hor
 unfold Sm.v
 go_enter Tryz.func90,Tryz.ntmps90
 go_wp2_with fail
 refine wp_tail 25 (by kernel_rfl) (by kernel_rfl) ?_
 simp only [List.take_succ_cons,List.take_zero,List.drop_succ_cons,List.drop_zero]
 have k1 : HoldsM (((w.alloc (.cells #[.int .i64 a.fr,.int .i64 a.to,.int .i64 a.kp,.int .i64 a.ad,.int .i64 a.t0,.int .i64 a.t1,.int .i64 a.t2] 82)).alloc (.cells #[.int .i64 b.fr,.int .i64 b.to,.int .i64 b.kp,.int .i64 b.ad,.int .i64 b.t0,.int .i64 b.t1,.int .i64 b.t2] 82)).drewN 1) w.heap.size 82 a:=HoldsM.drewN H2.out.1 1
 have k2 : HoldsM (((w.alloc (.cells #[.int .i64 a.fr,.int .i64 a.to,.int .i64 a.kp,.int .i64 a.ad,.int .i64 a.t0,.int .i64 a.t1,.int .i64 a.t2] 82)).alloc (.cells #[.int .i64 b.fr,.int .i64 b.to,.int .i64 b.kp,.int .i64 b.ad,.int .i64 b.t0,.int .i64 b.t1,.int .i64 b.t2] 82)).drewN 1) (w.heap.size + 1) 82 b:=HoldsM.drewN H2.out.2 1
 have hgd:=HG.out.drewN 1
 have hsz : (((w.alloc (.cells #[.int .i64 a.fr,.int .i64 a.to,.int .i64 a.kp,.int .i64 a.ad,.int .i64 a.t0,.int .i64 a.t1,.int .i64 a.t2] 82)).alloc (.cells #[.int .i64 b.fr,.int .i64 b.to,.int .i64 b.kp,.int .i64 b.ad,.int .i64 b.t0,.int .i64 b.t1,.int .i64 b.t2] 82)).drewN 1).heap.size = w.heap.size + 1 + 1:=by simp
 generalize ((w.alloc (.cells #[.int .i64 a.fr,.int .i64 a.to,.int .i64 a.kp,.int .i64 a.ad,.int .i64 a.t0,.int .i64 a.t1,.int .i64 a.t2] 82)).alloc (.cells #[.int .i64 b.fr,.int .i64 b.to,.int .i64 b.kp,.int .i64 b.ad,.int .i64 b.t0,.int .i64 b.t1,.int .i64 b.t2] 82)).drewN 1 = W at *
 obtain ⟨a0,a1,a2,a3,a4,a5,a6⟩:=k1.cells7
 obtain ⟨b0,b1,b2,b3,b4,b5,b6⟩:=k2.cells7
 have K:=Hd (And.intro k1 (And.intro k2 hgd));have HSZ:=Hd hsz;clear k1 k2 hgd H2 HG hsz
 still_step
 still_step
 still_step
 still_step
 still_call (S0.out _)
 still_step
 still_step
 still_step
 still_step
 still_call (S1.out _)
 still_step
 still_step
 still_step
 still_step
 still_call (S2.out _)
 still_step
 still_step
 still_step
 still_step
 still_call (S3.out _)
 still_step
 still_step
 still_step
 still_step
 still_call (SC.out _ _ _ K.out.1 K.out.2.1)
 refine wpStill_nil ?_
 clear a0 a1 a2 a3 a4 a5 a6 b0 b1 b2 b3 b4 b5 b6 S0 S1 S2 S3 SC
 go_wp2_with fail
 refine (OR.out _ _ _ (Row.made W _ _)).mono ?_;rintro e w' ⟨rfl,rfl⟩
 dsimp only
 go_wp2_with fail
 go_ret
 exact ⟨rfl,K.out.2.2.alloc _⟩
end Mx
end

section
namespace Mx
open Go.Sort (grow SWO putCells flatK size_flatK get_flatK putRowK HoldsK)
open Go.ChangeShapes Go.WideShapes Go.ChangeAt Go.RowKit Go.BigFrame Go.Shelf
instance : Inhabited Sm:=⟨Sm.zero⟩
theorem grew_grow {W w' : World} (h : Grew W w') : ∃ q os,w' = grow (W.drewN q) os:=by
 obtain ⟨⟨h1,h2,h3,h4,h5⟩,h6⟩:=h
 refine ⟨w'.drawn - W.drawn,w'.heap.extract W.heap.size w'.heap.size,?_⟩
 have hh : w'.heap = W.heap ++ w'.heap.extract W.heap.size w'.heap.size:=by
  apply Array.ext_getElem?
  intro k
  rw [Array.getElem?_append]
  split
  · rename_i hk;exact h5 k hk
  · rename_i hk
    rw [Array.getElem?_extract]
    by_cases hk2 : k < w'.heap.size
    · rw [if_pos (by omega),show W.heap.size + (k - W.heap.size) = k by omega]
    · rw [if_neg (by omega),Array.getElem?_eq_none (by omega)]
 have hd : w'.drawn = W.drawn + (w'.drawn - W.drawn):=by omega
 cases w'
 cases W
 simp only at h1 h2 h3 hh hd
 unfold grow World.drewN
 simp only [World.mk.injEq]
 exact ⟨hh,h2,hd,h1,h3⟩
theorem flat_row (ts : List Sm) : flatK Sm.cells 7 ts.toArray = (rowS ts).toArray:=by
 apply Array.ext_getElem?
 intro k
 by_cases hk : k < ts.length * 7
 · have h1 : k / 7 < ts.length:=by omega
   obtain ⟨t,ht⟩ : ∃ t,ts[k / 7]? = some t:=⟨_,List.getElem?_eq_getElem h1⟩
   obtain ⟨u,hu⟩ : ∃ u,t.cells[k % 7]? = some u:=⟨_,List.getElem?_eq_getElem (by show k % 7 < 7;omega)⟩
   have h2:=rowS_at ts (k / 7) t ht (k % 7) u hu
   rw [show k / 7 * 7 + k % 7 = k by omega] at h2
   have hrhs : (rowS ts).toArray[k]? = some u:=by simpa using h2
   rw [hrhs]
   have h3:=get_flatK Sm.cells 7 ts.toArray k (by simpa using hk)
   have h4 : ts.toArray[k / 7]! = t:=by
    rw [List.getElem!_toArray,List.getElem!_eq_getElem?_getD,ht];rfl
   rw [h4,List.getElem!_eq_getElem?_getD,hu] at h3
   have h5 : k < (flatK Sm.cells 7 ts.toArray).size:=by rw [size_flatK];simpa using hk
   rw [getElem!_pos _ k h5] at h3
   rw [Array.getElem?_eq_getElem h5,h3];rfl
 · rw [Array.getElem?_eq_none (by rw [size_flatK];simpa using hk),Array.getElem?_eq_none (by simp only [List.size_toArray];rw [rowS_len];omega)]
theorem swoC : SWO (ltOf Sm.C) where
 irrefl x:=by
  have : x.C x = 0:=Sm.C_zero.2 rfl
  simp [ltOf,this]
 trans x y z h1 h2:=by
  simp only [ltOf,decide_eq_true_eq] at *
  exact Sm.C_lt_trans h1 h2
 ntrans x y z h1 h2:=by
  simp only [ltOf,decide_eq_false_iff_not] at *
  have e1:=Sm.C_swap (a:=x) (b:=y)
  have e2:=Sm.C_swap (a:=y) (b:=z)
  have e3:=Sm.C_swap (a:=x) (b:=z)
  have:=Sm.C_trans (a:=z) (b:=y) (c:=x) (by omega) (by omega)
  omega
def sortS (ts : List Sm) : List Sm:=ts.mergeSort fun x y => !(ltOf Sm.C) y x
theorem sortS_perm (ts : List Sm) : (sortS ts).Perm ts:=List.mergeSort_perm _ _
theorem sortS_rises (ts : List Sm) : (sortS ts).Pairwise fun x y => x.C y ≤ 0:=by
 refine (List.pairwise_mergeSort (le:=fun x y => !(ltOf Sm.C) y x) ?_ ?_ ts).imp ?_
 · intro a b c h1 h2
   simp only [ltOf,Bool.not_eq_true',decide_eq_false_iff_not] at *
   have e1:=Sm.C_swap (a:=a) (b:=b)
   have e2:=Sm.C_swap (a:=b) (b:=c)
   have e3:=Sm.C_swap (a:=a) (b:=c)
   have:=Sm.C_trans (a:=a) (b:=b) (c:=c) (by omega) (by omega)
   omega
 · intro a b
   have e1:=Sm.C_swap (a:=a) (b:=b)
   simp only [ltOf,Bool.or_eq_true,Bool.not_eq_true',decide_eq_false_iff_not]
   omega
 · intro a b h
   have e1:=Sm.C_swap (a:=a) (b:=b)
   simp only [ltOf,Bool.not_eq_true',decide_eq_false_iff_not] at h
   omega
theorem cmpLays (blk off size : Nat) (w : World) : CmpLays Tryz.prog 90 #[] Sm.cells 7 Sm.C blk off size w:=by
 intro m os dk _ x y
 exact (compare_grew x y _).mono fun _ _ h => ⟨h.1,grew_grow h.2⟩
theorem grown_sorted {w : World} {g n : Nat} {os : Array Obj} (d : Array Sm) : w.grownBy (sortWorldK Sm.cells 7 w g 0 n d os) (some g):=by
 refine ⟨rfl,rfl,rfl,?_,fun k hk hne => ?_⟩
 · exact size_sortWorldK_c Sm.cells 7 w g 0 n d os
 · unfold sortWorldK
   rw [Go.Sort.heap_grow_old _ _ (by simpa [putRowK] using hk)]
   have : g ≠ k:=fun e => hne (by rw [e])
   simp [putRowK,Go.Sort.putRow,Go.Sort.mapBlock,Go.Sort.ahead,Array.getElem?_modify,this]
theorem sortFunc_any (base n : Nat) (v : Value) (ts : List Sm) (w : World) (hr : w.ownsRow base 82 7 v n (rowS ts)) (hn : ts.length ≤ 200000000) :
 Calls Tryz.prog 152 #[v,.func (.func 90) #[] #[]] w fun e w' => e = .returned (.tuple #[]) ∧ w'.ownsRow base 82 7 v n (rowS (sortS ts)) ∧ w.grownBy w' v.ownBlock:=by
 have hl : ts.length = n:=by have:=hr.1;rw [rowS_len] at this;omega
 rcases hr.2 with ⟨rfl,h0⟩ | ⟨g,cap,cur,rfl,hb,hh,h1,h2,h3,h4⟩
 · have : ts = []:=List.eq_nil_of_length_eq_zero (by omega)
   subst this
   exact (AnyF.slices_SortFunc_none Tryz.sortSum none 0 _ w).mono fun e w' ⟨he,hw⟩ => ⟨he,by subst hw;rw [show sortS [] = [] from List.mergeSort_nil];exact hr,by subst hw;exact ⟨rfl,rfl,rfl,Nat.le_refl _,fun _ _ _ => rfl⟩⟩
 · have hg : g < w.heap.size:=(Array.getElem?_eq_some_iff.1 hh).1
   have hH : HoldsK Sm.cells 7 w g 0 ts.toArray:=by
    unfold HoldsK
    rw [flat_row]
    intro j hj
    have hj' : j < (rowS ts).length:=by simpa using hj
    refine ⟨?_,by simp [World.frozen?,hh]⟩
    have hc:=hr.cells (g:=g) rfl j _ (List.getElem?_eq_getElem hj')
    rw [add_zero_off] at hc
    rw [Nat.zero_add,hc,getElem!_pos _ j hj]
    rfl
   have hs:=AnyQ.slices_SortFunc_total Tryz.sortSum 7 Tryz.isAgg82 Tryz.sizeOf82 Sm.cells (fun _ => rfl) (fun x v hv => rowS_one [x] v (by simpa [rowS] using hv)) Sm.C swoC 90 #[] g 0 cap ts.toArray w
    (enters_of Tryz.func90 (by kernel_rfl) rfl) (cmpLays _ _ _ _) hH hg (by simp;omega) (fun x y hx hy => by
      simp only [ltOf,decide_eq_false_iff_not] at hx hy
      have e1:=Sm.C_swap (a:=x) (b:=y)
      exact Sm.C_zero.1 (by omega))
   rw [show ts.toArray.size = n by simpa using hl] at hs
   refine hs.mono fun e w' ⟨he,m,os,hw⟩ => ⟨he,?_,by subst hw;exact grown_sorted _⟩
   subst hw
   refine ⟨by rw [rowS_len,(sortS_perm ts).length_eq,hl],.inr ⟨g,cap,putCells id 0 (rowS (sortS ts)).toArray cur,rfl,hb,?_,h1,h2,by simp [putCells,h3],?_⟩⟩
   · unfold sortWorldK
     rw [Go.Sort.heap_grow_old _ _ (by simpa [putRowK] using hg)]
     show (putRowK Sm.cells 7 (Go.Sort.ahead w m) g 0 (sortS ts).toArray).heap[g]? = _
     unfold putRowK
     rw [flat_row]
     simp [Go.Sort.putRow,Go.Sort.mapBlock,Go.Sort.ahead,Array.getElem?_modify,hh,Go.Sort.onCells]
   · have hlen : (rowS (sortS ts)).length = n * 7:=by rw [rowS_len,(sortS_perm ts).length_eq,hl]
     apply List.ext_getElem?
     intro j
     by_cases hj : j < n * 7
     · rw [List.getElem?_take_of_lt hj,Array.getElem?_toList]
       have : j < cur.size:=by have:=Nat.mul_le_mul_right 7 h1;omega
       simp [putCells,hlen,hj,this]
     · rw [List.getElem?_take_eq_none (by omega),List.getElem?_eq_none (by omega)]
theorem sortedFunc_any (g N : Nat) (lb : Array Value) (S Sp : List RSm → Prop) (hN : N ≤ 200000000) (hS : ∀ xs,S xs → xs.length ≤ 200000000) (w0 w : World) (hb0 : Below w0.heap.size w0 w) (eg : ∀ args w,(callFunc g args).run Tryz.prog w = .ok (.enter g args) w)
 (hseq : ∀ n,1 ≤ n → SeqStopsK Fence.wide n Tryz.prog g lb encS KeepsWalks S Sp N w0) :
 Calls Tryz.prog 88 #[.func (.func g) #[] lb,.func (.func 90) #[] #[]] w fun e W' => (∃ v xs,e = .returned v ∧ S xs ∧ W'.ownsRow w.heap.size 82 7 v xs.length (rowS (sortS (raw xs)))) ∧ Below w.heap.size w W':=by
 have H:=Hd (collect_any g N lb S Sp hN w0 w hb0 eg hseq)
 have HS:=Hd hS
 clear hseq eg hb0 hS
 go_enter Tryz.func88,Tryz.ntmps88
 go_wp2_with fail
 refine (H.out).mono ?_;rintro e w1 ⟨⟨v,xs,rfl,hs,hr⟩,hb⟩
 have hso:=sortFunc_any w.heap.size xs.length v (raw xs) w1 hr (by rw [raw_length];exact HS.out _ hs)
 have hv : ∀ k,v.ownBlock = some k → w.heap.size ≤ k:=fun k hk => (hr.lt k hk).1
 have HH:=Hd (And.intro hs (And.intro hv hb));have HSO:=Hd hso;clear hs hr hb hso hv H
 dsimp only
 go_wp2_with fail
 refine (HSO.out).mono ?_;rintro e w2 ⟨rfl,hr2,hg⟩
 have H2:=Hd (And.intro hr2 (HH.out.2.2.grown hg HH.out.2.2.size HH.out.2.1));clear hr2 hg HSO
 dsimp only
 go_wp2_with fail
 go_ret
 exact ⟨⟨v,xs,rfl,HH.out.1,H2.out.1⟩,H2.out.2⟩
theorem own_len {w : World} {base n : Nat} {v : Value} {ts : List Sm} (h : w.ownsRow base 82 7 v n (rowS ts)) : n = ts.length:=by
 have:=h.1;rw [rowS_len] at this;omega
theorem own_kept {w w' : World} {base n : Nat} {v : Value} {xs : List Value} (h : w.ownsRow base 82 7 v n xs) (hb : Below w.heap.size w w') : w'.ownsRow base 82 7 v n xs:=by
 refine h.kept (grown_below hb) ?_
 cases hv : v.ownBlock with
 | none => exact .inl rfl
 | some k => exact .inr (by simp)
end Mx
end
end Go.Proofs.YtonelpnhoiajgaaGreatDoor
