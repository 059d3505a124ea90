import Derived.Test.YtonelpnhoiajgaaGreatDoorHd
import Derived.Test.YtonelpnhoiajgaaGreatDoorCa19
import Derived.Test.YtonelpnhoiajgaaGreatDoorShelf
import Derived.Shelf.SlSortCmp.NoneTotal
import Derived.Deep.Slices
import Derived.Test.YtonelpnhoiajgaaGreatDoorCa18
import Derived.Deep.Onto
import Derived.Test.YtonelpnhoiajgaaGreatDoorCa3
import Derived.Test.YtonelpnhoiajgaaGreatDoorCa0
import Derived.Laws.BytesArg
import Derived.Laws.AppendOwnNone
import Derived.OwnWalk
import Derived.Laws.IdiomStrings
import Derived.Laws.Strings
import Derived.Test.YtonelpnhoiajgaaGreatDoorCa5
import Derived.Test.YtonelpnhoiajgaaGreatDoorCa11
import Derived.LaidMore
import Derived.Lib.LaidTab
import Derived.Stop.Joined
import Derived.Test.YtonelpnhoiajgaaGreatDoorCards
import Derived.Test.YtonelpnhoiajgaaGreatDoorTie
import Derived.SevenTiedAt
import Derived.Test.YtonelpnhoiajgaaGreatDoorCa4
namespace Go.Proofs.YtonelpnhoiajgaaGreatDoor
set_option linter.unusedSimpArgs false
set_option linter.unusedVariables false
set_option maxRecDepth 100000
open Go.ChangeShapes Go.WideShapes Go.ChangeAt Go.RowKit Go.BigFrame
section
open Go.ChangeShapes Go.WideShapes Go.ChangeAt Go.RowKit Go.BigFrame Go.Shelf
attribute [local go_sem] Oper.semAt_some
def AppI (w : World) (pre : List RSt) (W : World) : Prop:=∃ v,Boxed W w.heap.size 34 v ∧ W.ownsRow w.heap.size 27 5 v pre.length (rowS (raw pre)) ∧ True
theorem rowS_one_at (w : World) (t : St) : ∀ (j : Nat) (u : Value),(rowS [t])[j]? = some u → (w.alloc (.cells #[.int .i64 t.d,.int .i64 t.e,.int .i64 t.x,.int .i64 t.y,.int .i64 t.z] 27)).cell? ((⟨w.heap.size,0,none⟩ : Addr).add j) = some u:=by
 intro j u hj
 have h : Row (w.alloc (.cells #[.int .i64 t.d,.int .i64 t.e,.int .i64 t.x,.int .i64 t.y,.int .i64 t.z] 27)) w.heap.size 27 (rowS [t]):=Row.made w _ (rowS [t])
 rw [add_zero_off]
 exact (h.cell j).trans hj
set_option maxRecDepth 100000 in
set_option maxHeartbeats 4000000 in
theorem appendSeq_any (g N : Nat) (lb : Array Value) (S Sp : List RSt → Prop) (hN : N ≤ 200000000) (w0 w : World) (hb0 : Below w0.heap.size w0 w) (eg : ∀ args w,(callFunc g args).run Tryz.prog w = .ok (.enter g args) w)
 (hseq : ∀ n,1 ≤ n → SeqStopsK Fence.wide n Tryz.prog g lb encS KeepsWalks S Sp N w0) :
 Calls Tryz.prog 199 #[.slice none 0 0,.func (.func g) #[] lb] w fun e W' => (∃ v xs,e = .returned v ∧ S xs ∧ W'.ownsRow w.heap.size 27 5 v xs.length (rowS (raw xs))) ∧ Below w.heap.size w W':=by
 refine (callsIn_wide (n:=5)).1 ?_
 refine callsIn_of_wp_marks Tryz.func199 rfl trivial ?_ rfl
 simp only [Tryz.ntmps199,List.size_toArray,List.length_cons,List.length_nil,Nat.reduceAdd,Nat.reduceSub,Array.replicate_succ,Array.replicate_zero,List.push_toArray,List.append_toArray,List.nil_append,List.cons_append]
 obtain ⟨i0,hi,hz0,hz1,hz2⟩:=info_parts Tryz.infoStamp
 gi_wp2
 have hsz : (w.alloc (.cells #[.slice none 0 0] 34)).heap.size = w.heap.size + 1:=by simp
 have bM:=Boxed.new w 34 (.slice none 0 0)
 have hB0 : Below w.heap.size w (w.alloc (.cells #[.slice none 0 0] 34)):=(Below.refl _ w).alloc (Nat.le_refl _) _
 have hK0 : Below w0.heap.size w0 (w.alloc (.cells #[.slice none 0 0] 34)):=hb0.alloc hb0.size _
 obtain ⟨W0,hW0⟩ : ∃ W0,w.alloc (.cells #[.slice none 0 0] 34) = W0:=⟨_,rfl⟩
 rw [hW0] at hsz bM hB0 hK0 ⊢
 clear hW0 hb0
 refine wpIn_rangeFunc_ownH rfl (by omega) (gf:=g) (lb:=lb) rfl trivial eg (hseq 4 (by omega)) walksK_t walksK_b hK0 (fun _ => rfl)
  (fun pre W => AppI w pre W ∧ Below w.heap.size w W)
  (fun _ _ _ => False)
  (OwnFrom.and (Own.from (holdsRow_own w.heap.size w.heap.size 34 27 5 (fun pre : List RSt => pre.length) (fun pre => rowS (raw pre)) (fun _ _ => True)) _) (ownFrom_below (Nat.le_refl _) (by omega)))
  (fun _ _ _ _ _ hs _ _ => hs)
  ⟨⟨_,bM,World.ownsRow_nil _ _ _ _,trivial⟩,hB0⟩
  (fun x a' W => ∃ Bx,w.heap.size < Bx ∧ Holds W Bx x.1 ∧ a' = { tmps:=#[.slice none 0 0,.func (.func g) #[] lb,.pointer (some ⟨w.heap.size,0,none⟩),undef,.slice none 0 0,.pointer (some ⟨Bx,0,none⟩),.func (.func g) #[] lb,.agg #[.int .i64 x.1.d,.int .i64 x.1.e,.int .i64 x.1.x,.int .i64 x.1.y,.int .i64 x.1.z],undef,undef,undef,undef,undef],defers:=[] })
  (fun x a' _ X Y row hs hg hr => by
    obtain ⟨Bx,h1,h2,h3⟩:=hs
    refine ⟨Bx,h1,Row.grown h2 hg (fun e => ?_),h3⟩
    obtain ⟨_,o,ho,hc⟩:=hr Bx e.symm
    have h4 : X.heap[Bx]? = _:=h2
    rw [h4] at ho;cases ho;cases hc)
  ?assign ?body ?done ?stop
 case assign =>
  rintro l pre x W K ⟨⟨v,bM1,hr1⟩,hB1⟩ hK
  dsimp only [encS] at *
  unfold St.val at *
  gi_wp2
  exact hK _ _ ((KeepsOthers.alloc _ _).from _) (KeepsWalks.alloc W _) ⟨⟨v,bM1.alloc _,hr1.1.alloc _,trivial⟩,hB1.alloc hB1.size _⟩ ⟨W.heap.size,bM1.lt,Holds.made W x.1,rfl⟩
 case body =>
  rintro l pre x a' W hl ⟨r,hr⟩ ⟨⟨v,bM1,hr1,_⟩,hB1⟩ ⟨Bx,hBx,bX,rfl⟩ hlt
  have hsW:=hB1.size
  have cM:=bM1.cell
  have hBl:=bX.lt
  have hml:=bM1.lt
  obtain ⟨c0,c1,c2,c3,c4⟩:=bX.cells5
  have hnews:=rowS_one_at W x.1
  have hrow:=hr1.alloc (.cells #[.int .i64 x.1.d,.int .i64 x.1.e,.int .i64 x.1.x,.int .i64 x.1.y,.int .i64 x.1.z] 27)
  have hlen : rowS (raw pre) ++ rowS [x.1] = rowS (raw (pre ++ [x])):=by rw [← rowS_append];simp [raw]
  have HB:=Hd (And.intro bM1 (And.intro hr1 hB1));have HROW:=Hd hrow;have HN:=Hd hnews;have HL:=Hd hlen
  clear bM1 hr1 hB1 hrow hnews hr bX hseq eg hB0 hK0 hlen
  gi_wp2_with (gi_at_builtin;refine wpListIn_append_own _ rfl _ _ 34 rfl w.heap.size 27 i0 (.agg #[.int .i64 0,.int .i64 0,.int .i64 0,.int .i64 0,.int .i64 0]) 5 40 Tryz.underlying34 hi hz0 hz1 hz2 rfl (by decide) v pre.length (rowS (raw pre)) rfl HROW.out ⟨W.heap.size,0,none⟩ 1 1 (rowS [x.1]) rfl rfl HN.out (rowS_one [x.1]) (by unfold maxLen;omega) (by omega) (by simp;omega) ?_;intro v' w1 hown' hgrow _;obtain ⟨g',cap',rfl⟩:=ownsRow_succ hown';obtain ⟨hv1,hv2,hr2,hk2,hb2⟩:=(HB.out.1).appended (by decide) HB.out.2.1 hsW (Nat.le_refl _) hown' hgrow;have hc1:=hv1.cell;have hf1:=hv1.frozen)
  rw [HL.out] at hr2
  exact ⟨hk2.from _,hk2.walks,⟨_,hv2,by rw [List.length_append];exact hr2,trivial⟩,HB.out.2.2.trans hb2⟩
 case done =>
  rintro D ys W hD hys ⟨⟨v,bM1,hr1,_⟩,hB1⟩ hK
  have cM:=bM1.cell
  have HR:=Hd hr1;have HB1:=Hd hB1;have HK:=Hd hK
  clear hr1 bM1 hB1 hseq eg hB0 hK0 hK
  gi_wp2
  refine ⟨by simp,.inl ⟨_,_,rfl,run_takeDeferred HK.out,?_⟩⟩
  exact ⟨_,results_tmp rfl _ _ _,⟨_,ys,rfl,hys,ownsRow_putObj HR.out _ HK.out rfl⟩,HB1.out.trans (belowK_b (w:=w) (Nat.le_refl _) W D _ _ (by omega) HK.out rfl rfl)⟩
 case stop =>
  rintro D c pre W _ _ h _
  exact h.elim
theorem collect_any (g N : Nat) (lb : Array Value) (S Sp : List RSt → Prop) (hN : N ≤ 200000000) (w0 w : World) (hb0 : Below w0.heap.size w0 w) (eg : ∀ args w,(callFunc g args).run Tryz.prog w = .ok (.enter g args) w)
 (hseq : ∀ n,1 ≤ n → SeqStopsK Fence.wide n Tryz.prog g lb encS KeepsWalks S Sp N w0) :
 Calls Tryz.prog 173 #[.func (.func g) #[] lb] w fun e W' => (∃ v xs,e = .returned v ∧ S xs ∧ W'.ownsRow w.heap.size 27 5 v xs.length (rowS (raw xs))) ∧ Below w.heap.size w W':=by
 have H:=Hd (appendSeq_any g N lb S Sp hN w0 w hb0 eg hseq)
 clear hseq eg hb0
 go_enter Tryz.func173,Tryz.ntmps173
 go_wp2_with fail
 refine (H.out).mono ?_;rintro e w1 ⟨⟨v,xs,rfl,hS,hr⟩,hb⟩
 have HH:=Hd (And.intro hS (And.intro hr hb));clear hS hr hb
 dsimp only
 go_wp2_with fail
 go_ret
 exact ⟨⟨v,xs,rfl,HH.out.1,HH.out.2.1⟩,HH.out.2.2⟩
end

section
open Go.ChangeShapes Go.WideShapes Go.ChangeAt Go.RowKit Go.BigFrame Go.Shelf
open Go.Sort (grow SWO putCells flatK size_flatK get_flatK putRowK HoldsK)
instance : Inhabited St:=⟨St.zero⟩
theorem grew_grow {W w' : World} (h : Grew W w') : ∃ q os,w' = grow (W.drewN q) os:=by
 obtain ⟨⟨h1,h2,h3,h4,h5⟩,h6⟩:=h
 refine ⟨w'.drawn - W.drawn,w'.heap.extract W.heap.size w'.heap.size,?_⟩
 have hh : w'.heap = W.heap ++ w'.heap.extract W.heap.size w'.heap.size:=by
  apply Array.ext_getElem?
  intro k
  rw [Array.getElem?_append]
  split
  · rename_i hk;exact h5 k hk
  · rename_i hk
    rw [Array.getElem?_extract]
    by_cases hk2 : k < w'.heap.size
    · rw [if_pos (by omega),show W.heap.size + (k - W.heap.size) = k by omega]
    · rw [if_neg (by omega),Array.getElem?_eq_none (by omega)]
 have hd : w'.drawn = W.drawn + (w'.drawn - W.drawn):=by omega
 cases w'
 cases W
 simp only at h1 h2 h3 hh hd
 unfold grow World.drewN
 simp only [World.mk.injEq]
 exact ⟨hh,h2,hd,h1,h3⟩
theorem flat_row (ts : List St) : flatK St.cells 5 ts.toArray = (rowS ts).toArray:=by
 apply Array.ext_getElem?
 intro k
 by_cases hk : k < ts.length * 5
 · have h1 : k / 5 < ts.length:=by omega
   obtain ⟨t,ht⟩ : ∃ t,ts[k / 5]? = some t:=⟨_,List.getElem?_eq_getElem h1⟩
   obtain ⟨u,hu⟩ : ∃ u,t.cells[k % 5]? = some u:=⟨_,List.getElem?_eq_getElem (by show k % 5 < 5;omega)⟩
   have h2:=rowS_at ts (k / 5) t ht (k % 5) u hu
   rw [show k / 5 * 5 + k % 5 = k by omega] at h2
   have hrhs : (rowS ts).toArray[k]? = some u:=by simpa using h2
   rw [hrhs]
   have h3:=get_flatK St.cells 5 ts.toArray k (by simpa using hk)
   have h4 : ts.toArray[k / 5]! = t:=by
    rw [List.getElem!_toArray,List.getElem!_eq_getElem?_getD,ht];rfl
   rw [h4,List.getElem!_eq_getElem?_getD,hu] at h3
   have h5 : k < (flatK St.cells 5 ts.toArray).size:=by rw [size_flatK];simpa using hk
   rw [getElem!_pos _ k h5] at h3
   rw [Array.getElem?_eq_getElem h5,h3];rfl
 · rw [Array.getElem?_eq_none (by rw [size_flatK];simpa using hk),Array.getElem?_eq_none (by simp only [List.size_toArray];rw [rowS_len];omega)]
theorem swoC : SWO (ltOf St.C) where
 irrefl x:=by
  have : x.C x = 0:=St.C_zero.2 rfl
  simp [ltOf,this]
 trans x y z h1 h2:=by
  simp only [ltOf,decide_eq_true_eq] at *
  exact St.C_lt_trans h1 h2
 ntrans x y z h1 h2:=by
  simp only [ltOf,decide_eq_false_iff_not] at *
  have e1:=St.C_swap (a:=x) (b:=y)
  have e2:=St.C_swap (a:=y) (b:=z)
  have e3:=St.C_swap (a:=x) (b:=z)
  have:=St.C_trans (a:=z) (b:=y) (c:=x) (by omega) (by omega)
  omega
def sortS (ts : List St) : List St:=ts.mergeSort fun x y => !(ltOf St.C) y x
theorem sortS_perm (ts : List St) : (sortS ts).Perm ts:=List.mergeSort_perm _ _
theorem sortS_rises (ts : List St) : (sortS ts).Pairwise fun x y => x.C y ≤ 0:=by
 refine (List.pairwise_mergeSort (le:=fun x y => !(ltOf St.C) y x) ?_ ?_ ts).imp ?_
 · intro a b c h1 h2
   simp only [ltOf,Bool.not_eq_true',decide_eq_false_iff_not] at *
   have e1:=St.C_swap (a:=a) (b:=b)
   have e2:=St.C_swap (a:=b) (b:=c)
   have e3:=St.C_swap (a:=a) (b:=c)
   have:=St.C_trans (a:=a) (b:=b) (c:=c) (by omega) (by omega)
   omega
 · intro a b
   have e1:=St.C_swap (a:=a) (b:=b)
   simp only [ltOf,Bool.or_eq_true,Bool.not_eq_true',decide_eq_false_iff_not]
   omega
 · intro a b h
   have e1:=St.C_swap (a:=a) (b:=b)
   simp only [ltOf,Bool.not_eq_true',decide_eq_false_iff_not] at h
   omega
theorem cmpLays (blk off size : Nat) (w : World) : CmpLays Tryz.prog 129 #[] St.cells 5 St.C blk off size w:=by
 intro m os dk _ x y
 exact (compare_grew x y _).mono fun _ _ h => ⟨h.1,grew_grow h.2⟩
theorem grown_sorted {w : World} {g n : Nat} {os : Array Obj} (d : Array St) : w.grownBy (sortWorldK St.cells 5 w g 0 n d os) (some g):=by
 refine ⟨rfl,rfl,rfl,?_,fun k hk hne => ?_⟩
 · exact size_sortWorldK_c St.cells 5 w g 0 n d os
 · unfold sortWorldK
   rw [Go.Sort.heap_grow_old _ _ (by simpa [putRowK] using hk)]
   have : g ≠ k:=fun e => hne (by rw [e])
   simp [putRowK,Go.Sort.putRow,Go.Sort.mapBlock,Go.Sort.ahead,Array.getElem?_modify,this]
theorem sortFunc_any (base n : Nat) (v : Value) (ts : List St) (w : World) (hr : w.ownsRow base 27 5 v n (rowS ts)) (hn : ts.length ≤ 200000000) :
 Calls Tryz.prog 174 #[v,.func (.func 129) #[] #[]] w fun e w' => e = .returned (.tuple #[]) ∧ w'.ownsRow base 27 5 v n (rowS (sortS ts)) ∧ w.grownBy w' v.ownBlock:=by
 have hl : ts.length = n:=by have:=hr.1;rw [rowS_len] at this;omega
 rcases hr.2 with ⟨rfl,h0⟩ | ⟨g,cap,cur,rfl,hb,hh,h1,h2,h3,h4⟩
 · have : ts = []:=List.eq_nil_of_length_eq_zero (by omega)
   subst this
   exact (AnyF.slices_SortFunc_none Tryz.sortStamp none 0 _ w).mono fun e w' ⟨he,hw⟩ => ⟨he,by subst hw;rw [show sortS [] = [] from List.mergeSort_nil];exact hr,by subst hw;exact ⟨rfl,rfl,rfl,Nat.le_refl _,fun _ _ _ => rfl⟩⟩
 · have hg : g < w.heap.size:=(Array.getElem?_eq_some_iff.1 hh).1
   have hH : HoldsK St.cells 5 w g 0 ts.toArray:=by
    unfold HoldsK
    rw [flat_row]
    intro j hj
    have hj' : j < (rowS ts).length:=by simpa using hj
    refine ⟨?_,by simp [World.frozen?,hh]⟩
    have hc:=hr.cells (g:=g) rfl j _ (List.getElem?_eq_getElem hj')
    rw [add_zero_off] at hc
    rw [Nat.zero_add,hc,getElem!_pos _ j hj]
    rfl
   have hs:=AnyQ.slices_SortFunc_total Tryz.sortStamp 5 Tryz.isAgg27 Tryz.sizeOf27 St.cells (fun _ => rfl) (fun x v hv => rowS_one [x] v (by simpa [rowS] using hv)) St.C swoC 129 #[] g 0 cap ts.toArray w
    (enters_of Tryz.func129 (by kernel_rfl) rfl) (cmpLays _ _ _ _) hH hg (by simp;omega) (fun x y hx hy => by
      simp only [ltOf,decide_eq_false_iff_not] at hx hy
      have e1:=St.C_swap (a:=x) (b:=y)
      exact St.C_zero.1 (by omega))
   rw [show ts.toArray.size = n by simpa using hl] at hs
   refine hs.mono fun e w' ⟨he,m,os,hw⟩ => ⟨he,?_,by subst hw;exact grown_sorted _⟩
   subst hw
   refine ⟨by rw [rowS_len,(sortS_perm ts).length_eq,hl],.inr ⟨g,cap,putCells id 0 (rowS (sortS ts)).toArray cur,rfl,hb,?_,h1,h2,by simp [putCells,h3],?_⟩⟩
   · unfold sortWorldK
     rw [Go.Sort.heap_grow_old _ _ (by simpa [putRowK] using hg)]
     show (putRowK St.cells 5 (Go.Sort.ahead w m) g 0 (sortS ts).toArray).heap[g]? = _
     unfold putRowK
     rw [flat_row]
     simp [Go.Sort.putRow,Go.Sort.mapBlock,Go.Sort.ahead,Array.getElem?_modify,hh,Go.Sort.onCells]
   · have hlen : (rowS (sortS ts)).length = n * 5:=by rw [rowS_len,(sortS_perm ts).length_eq,hl]
     apply List.ext_getElem?
     intro j
     by_cases hj : j < n * 5
     · rw [List.getElem?_take_of_lt hj,Array.getElem?_toList]
       have : j < cur.size:=by have:=Nat.mul_le_mul_right 5 h1;omega
       simp [putCells,hlen,hj,this]
     · rw [List.getElem?_take_eq_none (by omega),List.getElem?_eq_none (by omega)]
end

section
open Go.ChangeShapes Go.WideShapes Go.ChangeAt Go.RowKit Go.BigFrame Go.Shelf
theorem sortedFunc_any (g N : Nat) (lb : Array Value) (S Sp : List RSt → Prop) (hN : N ≤ 200000000) (hS : ∀ xs,S xs → xs.length ≤ 200000000) (w0 w : World) (hb0 : Below w0.heap.size w0 w) (eg : ∀ args w,(callFunc g args).run Tryz.prog w = .ok (.enter g args) w)
 (hseq : ∀ n,1 ≤ n → SeqStopsK Fence.wide n Tryz.prog g lb encS KeepsWalks S Sp N w0) :
 Calls Tryz.prog 126 #[.func (.func g) #[] lb,.func (.func 129) #[] #[]] w fun e W' => (∃ v xs,e = .returned v ∧ S xs ∧ W'.ownsRow w.heap.size 27 5 v xs.length (rowS (sortS (raw xs)))) ∧ Below w.heap.size w W':=by
 have H:=Hd (collect_any g N lb S Sp hN w0 w hb0 eg hseq)
 have HS:=Hd hS
 clear hseq eg hb0 hS
 go_enter Tryz.func126,Tryz.ntmps126
 go_wp2_with fail
 refine (H.out).mono ?_;rintro e w1 ⟨⟨v,xs,rfl,hs,hr⟩,hb⟩
 have hso:=sortFunc_any w.heap.size xs.length v (raw xs) w1 hr (by rw [raw_length];exact HS.out _ hs)
 have hv : ∀ k,v.ownBlock = some k → w.heap.size ≤ k:=fun k hk => (hr.lt k hk).1
 have HH:=Hd (And.intro hs (And.intro hv hb));have HSO:=Hd hso;clear hs hr hb hso hv H
 dsimp only
 go_wp2_with fail
 refine (HSO.out).mono ?_;rintro e w2 ⟨rfl,hr2,hg⟩
 have H2:=Hd (And.intro hr2 (HH.out.2.2.grown hg HH.out.2.2.size HH.out.2.1));clear hr2 hg HSO
 dsimp only
 go_wp2_with fail
 go_ret
 exact ⟨⟨v,xs,rfl,HH.out.1,H2.out.1⟩,H2.out.2⟩
def take1 (f : List St) (t : St) : List St:=if (f.any fun x => decide (x.L t)) then f else f ++ [t]
def greedy (ds : List St) : List St:=ds.foldl take1 []
theorem greedy_snoc (ds : List St) (t : St) : greedy (ds ++ [t]) = take1 (greedy ds) t:=by simp [greedy]
structure frGr (ds us : List St) : Prop where
 sub : us.Sublist ds
 all : ∀ x ∈ ds,∃ y ∈ us,y.L x
 least : ∀ x ∈ us,∀ y ∈ ds,y.L x → y = x
theorem frGr.step {ds us : List St} {t : St} (h : frGr ds us) (hR : t.R) (hs : ∀ x ∈ ds,x.C t < 0) : frGr (ds ++ [t]) (take1 us t):=by
 have hno : ∀ x ∈ us,¬ t.L x:=fun x hx hl => by
  have h1:=hs x (h.sub.subset hx)
  have h2:=L_C t x hl
  exact h2 h1
 unfold take1
 split
 · rename_i ha
   obtain ⟨u,hu,hl⟩:=List.any_eq_true.1 ha
   have hl : u.L t:=by simpa using hl
   refine ⟨h.sub.trans (List.sublist_append_left _ _),fun x hx => ?_,fun x hx y hy hyx => ?_⟩
   · rcases List.mem_append.1 hx with hx | hx
     · exact h.all x hx
     · rw [List.mem_singleton] at hx;subst hx;exact ⟨u,hu,hl⟩
   · rcases List.mem_append.1 hy with hy | hy
     · exact h.least x hx y hy hyx
     · rw [List.mem_singleton] at hy;subst hy;exact absurd hyx (hno x hx)
 · rename_i ha
   have ha : ∀ u ∈ us,¬ u.L t:=fun u hu hl => ha (List.any_eq_true.2 ⟨u,hu,by simpa using hl⟩)
   refine ⟨h.sub.append (List.Sublist.refl _),fun x hx => ?_,fun x hx y hy hyx => ?_⟩
   · rcases List.mem_append.1 hx with hx | hx
     · obtain ⟨y,hy,hl⟩:=h.all x hx
       exact ⟨y,List.mem_append_left _ hy,hl⟩
     · rw [List.mem_singleton] at hx;subst hx;exact ⟨x,List.mem_append_right _ (by simp),St.L_refl.2 hR⟩
   · rcases List.mem_append.1 hx with kx | kx <;> rcases List.mem_append.1 hy with ky | ky
     · exact h.least x kx y ky hyx
     · rw [List.mem_singleton] at ky;rw [ky] at hyx;exact absurd hyx (hno x kx)
     · rw [List.mem_singleton] at kx;rw [kx] at hyx
       obtain ⟨u,hu,hl⟩:=h.all y ky
       exact absurd (St.L_trans hl hyx) (ha u hu)
     · rw [List.mem_singleton] at kx ky;rw [kx,ky]
theorem gr_greedy : ∀ (n : Nat) (ds : List St),ds.length = n → (∀ x ∈ ds,x.R) → ds.Pairwise (fun x y => x.C y < 0) → frGr ds (greedy ds):=by
 intro n
 induction n with
 | zero =>
   intro ds hl _ _
   have:=List.eq_nil_of_length_eq_zero hl
   subst this
   exact ⟨List.Sublist.refl _,by simp,by simp [greedy]⟩
 | succ n ih =>
   intro ds hl hR hp
   rcases List.eq_nil_or_concat ds with rfl | ⟨es,t,rfl⟩
   · simp at hl
   · rw [List.concat_eq_append] at *
     rw [List.pairwise_append] at hp
     rw [greedy_snoc]
     exact (ih es (by simpa using hl) (fun x hx => hR x (List.mem_append_left _ hx)) hp.1).step (hR t (by simp)) (fun x hx => hp.2.2 x hx t (by simp))
theorem greedy_len : ∀ (n : Nat) (ds : List St),ds.length = n → (greedy ds).length ≤ n:=by
 intro n
 induction n with
 | zero => intro ds hl;have:=List.eq_nil_of_length_eq_zero hl;subst this;simp [greedy]
 | succ n ih =>
   intro ds hl
   rcases List.eq_nil_or_concat ds with rfl | ⟨es,t,rfl⟩
   · simp at hl
   · rw [List.concat_eq_append] at *
     rw [greedy_snoc]
     have:=ih es (by simpa using hl)
     unfold take1
     split
     · omega
     · simp;omega
theorem key_L {e x : St} (he : e.R) (hx : x.R) (hd : e.d = x.d) (hk : e.key = x.key) (hl : e.e ≤ x.e) : e.L x:=by
 obtain ⟨h1,h2,h3⟩:=key_inj.1 hk
 exact ⟨he,hx,hd,hl,Int.le_of_eq h1,Int.le_of_eq h2,Int.le_of_eq h3⟩
theorem first_is {l E : List St} {xs : List RSt} (hl : Even l) (hE : Ear l E) (hx : frAllOf E xs) : greedy (sortS (raw xs)) = ofS l:=by
 have hp:=sortS_perm (raw xs)
 have hm : ∀ t,t ∈ sortS (raw xs) ↔ t ∈ E:=fun t => hp.mem_iff.trans (hx.2 t)
 have hnd : (sortS (raw xs)).Nodup:=hp.nodup_iff.2 hx.1
 have hR : ∀ x ∈ sortS (raw xs),x.R:=fun x h => (hl x (hE.sub x ((hm x).1 h))).1
 have hs : (sortS (raw xs)).Pairwise fun x y => x.C y < 0:=by
  refine (List.Pairwise.and (sortS_rises (raw xs)) hnd).imp ?_
  rintro x y ⟨h1,h2⟩
  rcases Int.lt_or_eq_of_le h1 with h3 | h3
  · exact h3
  · exact absurd (St.C_zero.1 h3) h2
 have hg:=gr_greedy _ (sortS (raw xs)) rfl hR hs
 have hsub : ∀ x ∈ greedy (sortS (raw xs)),x ∈ l:=fun x h => hE.sub x ((hm x).1 (hg.sub.subset h))
 have hf : Fr (greedy (sortS (raw xs))):=⟨fun x h => (hl x (hsub x h)).1,fun x h y k => (hl x (hsub x h)).2 y (hsub y k),hs.sublist hg.sub,fun x h y k hxy => hg.least y k x (hg.sub.subset h) hxy⟩
 refine Fr.ext hf (ofS_fr hl) fun t => ?_
 rw [ofS_up hl]
 constructor
 · rintro ⟨x,h,k⟩;exact ⟨x,hsub x h,k⟩
 · rintro ⟨x,h,k⟩
   obtain ⟨e,he,hk,hle⟩:=hE.all x h
   have hel : e.L x:=key_L (hl e (hE.sub e he)).1 (hl x h).1 ((hl e (hE.sub e he)).2 x h) hk hle
   obtain ⟨u,hu,hue⟩:=hg.all e ((hm e).2 he)
   exact ⟨u,hu,St.L_trans (St.L_trans hue hel) k⟩
theorem own_len {w : World} {base n : Nat} {v : Value} {ts : List St} (h : w.ownsRow base 27 5 v n (rowS ts)) : n = ts.length:=by
 have:=h.1;rw [rowS_len] at this;omega
theorem own_kept {w w' : World} {base n : Nat} {v : Value} {xs : List Value} (h : w.ownsRow base 27 5 v n xs) (hb : Below w.heap.size w w') : w'.ownsRow base 27 5 v n xs:=by
 refine h.kept (frGrown_below hb) ?_
 cases hv : v.ownBlock with
 | none => exact .inl rfl
 | some k => exact .inr (by simp)
set_option maxHeartbeats 4000000 in
theorem first_any (g n₀ : Nat) (lb : Array Value) (ts : List RSt) (Sp : List RSt → Prop) (hl : ts.length ≤ 200000000) (hev : Even (raw ts)) (w0 w : World) (hb0 : Below w0.heap.size w0 w) (hn₀ : n₀ ≤ w0.heap.size) (eg : ∀ args w,(callFunc g args).run Tryz.prog w = .ok (.enter g args) w)
 (hseq : ∀ n,1 ≤ n → SeqStopsK Fence.wide n Tryz.prog g lb encS (Keep n₀) (fun ys => ys = ts) Sp ts.length w0) :
 Calls Tryz.prog 76 #[.func (.func g) #[] lb] w fun e W' => (∃ v,e = .returned v ∧ W'.ownsRow w.heap.size 27 5 v (ofS (raw ts)).length (rowS (ofS (raw ts)))) ∧ Below w.heap.size w W':=by
 have H:=Hd (earliest_any g n₀ ts.length lb _ Sp hl w0 w hb0 hn₀ eg (fun xs h => by rw [h];exact hl) hseq)
 have HEV:=Hd hev
 clear hseq eg hb0 hev
 go_enter Tryz.func76,Tryz.ntmps76
 go_wp2_with fail
 refine (H.out).mono ?_;rintro e w1 ⟨rfl,⟨xs,E,m,rfl,hM,hEar,hEl⟩,hb1⟩
 have hmv:=mvalues_any (some w.heap.size) w1
 have HMV:=Hd hmv;have HM:=Hd (And.intro hM hEar);have HB1:=Hd hb1;clear hmv hM hEar hb1 H
 go_wp2_with fail
 refine (HMV.out).mono ?_;rintro e w2 ⟨rfl,rfl⟩
 have hso:=sortedFunc_any 175 E.length #[.pointer (some ⟨w1.heap.size,0,none⟩)] (frAllOf E) (fun _ => True) hEl
  (fun ys hy => by
    have h1 : (raw ys).Perm E:=(List.perm_ext_iff_of_nodup hy.1 (HM.out.1.2.2.imp fun h e => h (by rw [e]))).2 hy.2
    have h2:=h1.length_eq
    rw [raw_length] at h2;omega)
  _ (w1.alloc (.cells #[.map (some w.heap.size)] 168)) (Below.refl _ _) (enters_of Tryz.func175 (by kernel_rfl) rfl)
  (fun n hn => mvaluesC n hn w1.heap.size w.heap.size m E hEl _ (BoxAt.made w1 _ _) (HM.out.1.alloc _))
 have HSO:=Hd hso;clear hso HMV
 go_wp2_with fail
 refine (HSO.out).mono ?_;rintro e w3 ⟨⟨v,ys,rfl,hys,hr⟩,hb3⟩
 have hylen : (sortS (raw ys)).length ≤ 200000000:=by
  have h1 : (raw ys).Perm E:=(List.perm_ext_iff_of_nodup hys.1 (HM.out.1.2.2.imp fun h e => h (by rw [e]))).2 hys.2
  have h2:=h1.length_eq
  rw [(sortS_perm _).length_eq,h2];exact hEl
 have hfin:=first_is HEV.out HM.out.2 hys
 have hB3 : Below w.heap.size w w3:=(HB1.out.alloc HB1.out.size _).trans (hb3.mono (by have:=HB1.out.size;simp;omega))
 obtain ⟨A,c,rfl,hT,hle,_⟩:=Times.of_own hr
 rw [own_len hr] at *
 have hT:=Ts.of hT
 generalize sortS (raw ys) = ds at *
 have HFIN:=Hd hfin;have HT:=Hd hT;have HB3:=Hd hB3;clear hfin hT hB3 hr hb3 HSO hys HM HB1 HEV hle hEl
 dsimp only
 go_wp2_with fail
 go_loopw [3,11] (fun fv i wr => ∃ k : Nat,k ≤ ds.length ∧ i = .int .i64 k ∧ Below w3.heap.size w3 wr ∧ wr.ownsRow w3.heap.size 27 5 fv (greedy (ds.take k)).length (rowS (greedy (ds.take k)))) (fun _ i _ => ds.length - (intOf i).toNat)
 case atStart => exact ⟨0,Nat.zero_le _,rfl,Below.refl _ _,World.ownsRow_nil _ _ _ _⟩
 case round =>
  obtain ⟨k,hk,rfl,hbw,hro⟩:=hrel
  obtain ⟨B,c',rfl,hTu,hle,hcm⟩:=Times.of_own hro
  have hgl : (greedy (ds.take k)).length ≤ k:=greedy_len _ _ (by rw [List.length_take];omega)
  by_cases hlt : k < ds.length
  · obtain ⟨t,ht⟩ : ∃ t,ds[k]? = some t:=⟨_,List.getElem?_eq_getElem hlt⟩
    have hnext : greedy (ds.take (k + 1)) = take1 (greedy (ds.take k)) t:=by rw [List.take_add_one,ht,Option.toList,greedy_snoc]
    generalize greedy (ds.take k) = us at *
    obtain ⟨b,o,rfl,hbl,h5⟩:=HT.out.five ht
    obtain ⟨c0,c1,c2,c3,c4⟩:=h5 wr hbw
    have hrch:=reached_any B us c' t _ ((Ts.of hTu).below ((Below.refl wr.heap.size wr).alloc (Nat.le_refl _) (.cells #[.int .i64 t.d,.int .i64 t.e,.int .i64 t.x,.int .i64 t.y,.int .i64 t.z] 27))) (by omega)
    have hbx:=Holds.made wr t
    have hsz:=hbw.size
    cases hv : (us.any fun x => decide (x.L t)) with
    | true =>
      have e1 : take1 us t = us:=by unfold take1;rw [if_pos hv]
      rw [hv] at hrch
      rw [e1] at hnext
      have HR:=Hd hrch;have HN:=Hd hnext;have HO:=Hd (And.intro hbw hro)
      clear hrch hnext hbw hro hTu ht h5 hbl hv e1 hbx
      unfold St.val at *
      go_wp2_with fail
      refine (HR.out).mono ?_;rintro e w4 ⟨rfl,hb4⟩
      have hb5 : Below wr.heap.size wr w4:=((Below.refl _ _).alloc (Nat.le_refl _) _).trans (hb4.mono (by simp))
      have HB5:=Hd hb5;clear hb4 hb5 c0 c1 c2 c3 c4 HR
      go_wp2_with fail
      go_roundw
      case rel => exact ⟨k + 1,by omega,by simp,HO.out.1.trans (HB5.out.mono hsz),by rw [HN.out];exact own_kept HO.out.2 HB5.out⟩
      case measure => simp only [intOf];omega
    | false =>
      have e1 : take1 us t = us ++ [t]:=by unfold take1;rw [if_neg (by rw [hv];simp)]
      rw [hv] at hrch
      rw [e1] at hnext
      have HR:=Hd hrch;have HN:=Hd hnext;have HO:=Hd (And.intro hbw hro);have HX:=Hd hbx
      clear hrch hnext hbw hro hTu ht h5 hbl hv e1 hbx
      unfold St.val at *
      go_wp2_with fail
      refine (HR.out).mono ?_;rintro e w4 ⟨rfl,hb4⟩
      have hb5 : Below wr.heap.size wr w4:=((Below.refl _ _).alloc (Nat.le_refl _) _).trans (hb4.mono (by simp))
      have hx4:=HX.out.below hb4
      have hl4:=hx4.lt
      have hs5:=hb5.size
      have hoA:=(own_kept HO.out.2 hb5).alloc (.cells #[.int .i64 t.d,.int .i64 t.e,.int .i64 t.x,.int .i64 t.y,.int .i64 t.z] 27)
      have hTA:=Times.made w4 [t]
      have hba : Below w3.heap.size w3 (w4.alloc (.cells #[.int .i64 t.d,.int .i64 t.e,.int .i64 t.x,.int .i64 t.y,.int .i64 t.z] 27)):=(HO.out.1.trans (hb5.mono hsz)).alloc (by omega) _
      have hbs:=hba.size
      obtain ⟨d0,d1,d2,d3,d4⟩:=hx4.cells5
      have HBA:=Hd hba;clear hb4 hb5 c0 c1 c2 c3 c4 HR hx4 hba
      go_wp2_with (at_builtin;refine wpList_append_times rfl _ _ rfl w3.heap.size _ us.length us rfl hoA ⟨w4.heap.size,0,none⟩ 1 [t] rfl (by simp) hTA (by simp;omega) hbs ?_;intro v' w5 hown' hgr')
      have hb6:=own_belowS hoA hgr' HBA.out hbs
      have H6:=Hd (And.intro hown' hb6);clear hown' hgr' hoA hTA hb6 d0 d1 d2 d3 d4
      go_wp2_with fail
      go_roundw
      case rel => exact ⟨k + 1,by omega,by simp,H6.out.2,by rw [HN.out];simpa using H6.out.1⟩
      case measure => simp only [intOf];omega
  · have hk' : k = ds.length:=by omega
    have hfin : greedy (ds.take k) = ofS (raw xs):=by rw [hk',List.take_length];exact HFIN.out
    rw [hfin] at hro ⊢
    have HO:=Hd (And.intro hbw hro);clear hbw hro hTu hfin
    go_wp2_with fail
    go_ret
    refine ⟨⟨_,rfl,?_⟩,HB3.out.trans (HO.out.1.mono HB3.out.size)⟩
    obtain ⟨h1,h2⟩:=HO.out.2
    refine ⟨h1,?_⟩
    rcases h2 with h2 | ⟨g',cap,cur,hv,hb',h3⟩
    · exact .inl h2
    · exact .inr ⟨g',cap,cur,hv,Nat.le_trans HB3.out.size hb',h3⟩
end

section
open Go.ChangeShapes Go.WideShapes Go.ChangeAt Go.RowKit Go.BigFrame Go.Shelf
theorem grown_refl (w : World) (row : Option Nat) : w.grownBy w row:=⟨rfl,rfl,rfl,Nat.le_refl _,fun _ _ _ => rfl⟩
theorem wpList_append_ts {w : World} {ops : Array Oper} {rest : List Oper} {o : Oper} {a : Act} {Q : Exit → Act → World → Prop} (hgd : o.guard = none) (s x : Operand)
 (ho : o.op = .call { callee:=.builtin .append,args:=#[s,x],argTypes:=#[34,34] })
 (base : Nat) (v : Value) (n : Nat) (ts : List St) (hs : a.eval s = v) (hown : w.ownsRow base 27 5 v n (rowS ts))
 (A : Option Addr) (c : Nat) (ys : List St) (hx : a.eval x = .slice A ys.length c) (hA0 : A = none → c = 0) (hb : Ts w A ys)
 (hle : n + ys.length ≤ 800000000) (hbase : base ≤ w.heap.size)
 (h : ∀ v' w',w'.ownsRow base 27 5 v' (n + ys.length) (rowS (ts ++ ys)) → w.grownBy w' v.ownBlock → wpList Tryz.prog ops Q rest (a.put o.dst v') w') : wpList Tryz.prog ops Q (o :: rest) a w:=by
 obtain ⟨i,hi,hz0,hz1,hz2⟩:=info_parts Tryz.infoStamp
 cases A with
 | none =>
   have hy : ys = []:=by
    cases ys with
    | nil => rfl
    | cons y ys => obtain ⟨b,o,e,_⟩:=hb (by simp);cases e
   subst hy
   rw [hA0 rfl] at hx
   refine wpList_append_own_none hgd s x 34 ho base 27 i 5 Tryz.underlying34 hi v n (rowS ts) hs hown hx ?_
   exact h v w (by rw [List.append_nil];exact hown) (grown_refl _ _)
 | some ad =>
   refine wpList_append_own w hgd s x 34 ho base 27 i _ 5 40 Tryz.underlying34 hi hz0 hz1 hz2 rfl (by omega) v n (rowS ts) hs hown ad ys.length c (rowS ys) hx (rowS_len ys) ?_ (rowS_one ys) (by unfold maxLen;omega) (by omega) hbase ?_
   · intro j u hj
     have hp : 0 < ys.length:=by
      have:=(List.getElem?_eq_some_iff.1 hj).1
      rw [rowS_len] at this;omega
     obtain ⟨b,o,e,_,hcell⟩:=hb hp
     cases e
     rw [add_at];exact hcell j u hj
   · intro v' w' h1 h2 _
     exact h v' w' (by rw [rowS_append];exact h1) h2
end

section
open Go.ChangeShapes Go.WideShapes Go.ChangeAt Go.RowKit Go.BigFrame Go.Shelf
def Gives (w : World) (l : List St) (n : Int) (e : Ending) (w' : World) : Prop :=
 (∃ v,e = .returned (.tuple #[v,.int .i64 n]) ∧ w'.ownsRow w.heap.size 27 5 v l.length (rowS l)) ∧ Below w.heap.size w w'
theorem frOwn_base {w : World} {base base' n : Nat} {v : Value} {xs : List Value} (h : w.ownsRow base 27 5 v n xs) (hb : base' ≤ base) : w.ownsRow base' 27 5 v n xs:=by
 obtain ⟨h1,h2⟩:=h
 refine ⟨h1,?_⟩
 rcases h2 with h2 | ⟨g',cap,cur,hv,hb',h3⟩
 · exact .inl h2
 · exact .inr ⟨g',cap,cur,hv,Nat.le_trans hb hb',h3⟩
def errS (b : Bool) : Int:=if b then 0 else 50
def ifS (b : Bool) (l : List St) : List St:=if b then l else []
theorem lift_even : ∀ (ts : List St),(∀ x ∈ ts,x.R) → ∃ zs : List RSt,raw zs = ts
 | [],_ => ⟨[],rfl⟩
 | x :: ts,h => by
   obtain ⟨zs,hz⟩:=lift_even ts (fun y hy => h y (List.mem_cons_of_mem _ hy))
   exact ⟨⟨x,h x List.mem_cons_self⟩ :: zs,by simp [raw] at hz ⊢;exact hz⟩
set_option maxHeartbeats 1000000 in
theorem frOf_any (A : Option Addr) (ts : List St) (c : Nat) (w : World) (hT : Ts w A ts) (hn : ts.length ≤ 200000000) :
 Calls Tryz.prog 57 #[.slice A ts.length c] w (Gives w (ifS (decide (Even ts)) (ofS ts)) (errS (decide (Even ts)))):=by
 have ha:=alike_any A ts c w hT hn
 by_cases he : Even ts
 · rw [decide_eq_true he] at ha ⊢
   obtain ⟨zs,hz⟩:=lift_even ts (fun x hx => (he x hx).1)
   have hlen : zs.length = ts.length:=by rw [← raw_length,hz]
   have hfst : ∀ w1,Below w.heap.size w w1 → Calls Tryz.prog 76 #[.func (.func 130) #[] #[.pointer (some ⟨w1.heap.size,0,none⟩)]] (w1.alloc (.cells #[.slice A ts.length c] 34)) fun e W' => (∃ v,e = .returned v ∧ W'.ownsRow (w1.alloc (.cells #[.slice A ts.length c] 34)).heap.size 27 5 v (ofS (raw zs)).length (rowS (ofS (raw zs)))) ∧ Below (w1.alloc (.cells #[.slice A ts.length c] 34)).heap.size (w1.alloc (.cells #[.slice A ts.length c] 34)) W':=by
    intro w1 hw1
    refine first_any _ _ _ zs _ (by omega) (by rw [hz];exact he) _ _ (Below.refl _ _) (Nat.le_refl _) (enters_of Tryz.func130 (by kernel_rfl) rfl)
     (fun n hn => valuesC n hn w1.heap.size A zs (by omega) c _ (by rw [hlen];exact BoxAt.made w1 _ _) (by rw [hz];exact (hT.below hw1).below ((Below.refl _ _).alloc (Nat.le_refl _) _)))
   rw [hz] at hfst
   have HA:=Hd ha;have HF:=Hd hfst;clear ha hfst hT he hz hlen
   unfold Gives ifS errS
   simp only [if_true]
   generalize ofS ts = us at *
   go_enter Tryz.func57,Tryz.ntmps57
   go_wp2_with fail
   refine (HA.out).mono ?_;rintro e w1 ⟨rfl,hb1⟩
   have HB1:=Hd hb1;clear hb1
   go_wp2_with fail
   refine (values_any A ts.length c w1).mono ?_;rintro e w2 ⟨rfl,rfl⟩
   go_wp2_with fail
   refine (HF.out _ HB1.out).mono ?_;rintro e w3 ⟨⟨v,rfl,hr⟩,hb3⟩
   have HH:=Hd (And.intro hr hb3);clear hr hb3
   dsimp only
   go_wp2_with fail
   go_ret2
   refine ⟨⟨v,rfl,?_⟩,HB1.out.trans (((Below.refl _ _).alloc (Nat.le_refl _) _).trans (HH.out.2.mono (by simp)) |>.mono HB1.out.size)⟩
   exact frOwn_base HH.out.1 (by have:=HB1.out.size;simp;omega)
 · rw [decide_eq_false he] at ha ⊢
   unfold Gives ifS errS
   simp only [Bool.false_eq_true,if_false]
   have HA:=Hd ha;clear ha hT he
   go_enter Tryz.func57,Tryz.ntmps57
   go_wp2_with fail
   refine (HA.out).mono ?_;rintro e w1 ⟨rfl,hb1⟩
   have HB1:=Hd hb1;clear hb1
   go_wp2_with fail
   go_ret2
   exact ⟨⟨_,rfl,World.ownsRow_nil _ _ _ _⟩,HB1.out⟩
end

section
open Go.ChangeShapes Go.WideShapes Go.ChangeAt Go.RowKit Go.BigFrame Go.Shelf
end

section
open Go.ChangeShapes Go.WideShapes Go.ChangeAt Go.RowKit Go.BigFrame Go.Shelf
section
variable {K : Value → World → Prop} {a : Act} {o : Oper} {w : World}
end
theorem own_slice {w : World} {base n : Nat} {v : Value} {ts : List St} (h : w.ownsRow base 27 5 v n (rowS ts)) : ∃ A c,v = .slice A ts.length c ∧ Ts w A ts ∧ ts.length ≤ c ∧ c ≤ maxLen ∧ (A = none → c = 0):=by
 obtain ⟨A,c,e,h1,h2,h3⟩:=Times.of_own h
 refine ⟨A,c,e,Ts.of h1,h2,h3,fun hA => ?_⟩
 subst hA
 rcases h.2 with ⟨e2,_⟩ | ⟨g,cap,cur,e2,_⟩
 · rw [e] at e2;injection e2
 · rw [e] at e2;injection e2 with h;cases h
end

section
open Go.ChangeShapes Go.WideShapes Go.ChangeAt Go.RowKit Go.BigFrame Go.Shelf
end

section
open Go.ChangeShapes Go.WideShapes Go.ChangeAt Go.RowKit Go.BigFrame Go.Shelf
structure Slc (w : World) (A : Option Addr) (c : Nat) (l : List St) : Prop where
 ts : Ts w A l
 le : l.length ≤ c
 max : c ≤ maxLen
 nil : A = none → c = 0
theorem Slc.below {w w' : World} {A : Option Addr} {c : Nat} {l : List St} (h : Slc w A c l) (hb : Below w.heap.size w w') : Slc w' A c l:=⟨h.ts.below hb,h.le,h.max,h.nil⟩
theorem Slc.of_own {w : World} {base n : Nat} {v : Value} {ts : List St} (h : w.ownsRow base 27 5 v n (rowS ts)) : ∃ A c,v = .slice A ts.length c ∧ Slc w A c ts:=by
 obtain ⟨A,c,e,h1,h2,h3,h4⟩:=own_slice h
 exact ⟨A,c,e,⟨h1,h2,h3,h4⟩⟩
section
variable {A B : Option Addr} {a b : List St} {c d : Nat} {w : World} {t : St} {v : Bool}
end
end

section
open Go.ChangeShapes Go.WideShapes Go.ChangeAt Go.RowKit Go.BigFrame Go.Shelf
section
variable {ts o : List St} {t x y z : St} {k m q : Nat}
def badD (t z : St) : Bool:=!decide t.R || t.d != z.d
def EvenTo (ts : List St) (k : Nat) : Prop:=∀ (j : Nat) (x z : St),j < k → ts[j]? = some x → ts[0]? = some z → badD x z = false
def badJ (k : Nat) (t : St) (j : Nat) (x : St) : Bool:=(!eqB x t && decide (x.L t)) || (decide (j < k) && eqB x t)
def LeastTo (ts : List St) (k : Nat) (t : St) (m : Nat) : Prop:=∀ (j : Nat) (x : St),j < m → ts[j]? = some x → badJ k t j x = false
noncomputable instance (ts : List St) (k : Nat) (t : St) (m : Nat) : Decidable (LeastTo ts k t m):=Classical.propDecidable _
def GoodO (ts : List St) (k : Nat) (o : List St) : Prop:=o.Pairwise (fun x y => x.C y < 0) ∧ ∀ x,x ∈ o ↔ x ∈ ts.take k ∧ Least ts x
theorem least_iff (ht : ts[k]? = some t) : LeastTo ts k t ts.length ↔ Least ts t ∧ t ∉ ts.take k:=by
 constructor
 · intro h
   refine ⟨fun z hz hl => ?_,fun hm => ?_⟩
   · obtain ⟨j,hj⟩:=List.getElem?_of_mem hz
     have:=h j z (List.getElem?_eq_some_iff.1 hj).1 hj
     unfold badJ eqB at this
     simp only [Bool.or_eq_false_iff,Bool.and_eq_false_iff,Bool.not_eq_false',decide_eq_true_eq,decide_eq_false_iff_not] at this
     rcases this.1 with h1 | h1
     · exact h1
     · exact absurd hl h1
   · obtain ⟨j,hj,hx⟩:=mem_take_at hm
     have:=h j t (List.getElem?_eq_some_iff.1 hx).1 hx
     unfold badJ eqB at this
     simp [hj] at this
 · rintro ⟨h1,h2⟩ j x hj hx
   unfold badJ eqB
   simp only [Bool.or_eq_false_iff,Bool.and_eq_false_iff,Bool.not_eq_false',decide_eq_true_eq,decide_eq_false_iff_not]
   refine ⟨?_,?_⟩
   · by_cases hl : x.L t
     · exact .inl (h1 x (List.mem_of_getElem? hx) hl)
     · exact .inr hl
   · by_cases e : x = t
     · subst e
       refine .inl fun hjk => h2 ?_
       exact List.mem_of_getElem? (i:=j) (by rw [List.getElem?_take,if_pos hjk];exact hx)
     · exact .inr e
theorem mem_next (ht : ts[k]? = some t) : x ∈ ts.take (k + 1) ↔ x ∈ ts.take k ∨ x = t:=by
 rw [List.take_add_one,ht];simp
theorem good_skip (h : GoodO ts k o) (ht : ts[k]? = some t) (hl : ¬ LeastTo ts k t ts.length) : GoodO ts (k + 1) o:=by
 rw [least_iff ht] at hl
 refine ⟨h.1,fun x => ?_⟩
 rw [h.2 x,mem_next ht]
 constructor
 · rintro ⟨h1,h2⟩;exact ⟨.inl h1,h2⟩
 · rintro ⟨h1 | rfl,h2⟩
   · exact ⟨h1,h2⟩
   · refine ⟨?_,h2⟩
     apply Classical.byContradiction
     exact fun h3 => hl ⟨h2,h3⟩
def stepS (o : List St) (q : Nat) (t : St) : Bool:=match o[q]? with | some y => decide (y.C t < 0) | none => false
theorem good_put (h : GoodO ts k o) (ht : ts[k]? = some t) (hl : LeastTo ts k t ts.length) (hq : ∀ (j : Nat) (x : St),j < q → o[j]? = some x → x.C t < 0) (hs : stepS o q t = false) : GoodO ts (k + 1) (o.take q ++ [t] ++ o.drop q):=by
 rw [least_iff ht] at hl
 have hno : t ∉ o:=fun hm => hl.2 ((h.2 t).1 hm).1
 have hsort:=h.1
 rw [← List.take_append_drop q o,List.pairwise_append] at hsort
 have hdrop : ∀ y ∈ o.drop q,t.C y < 0:=by
  intro y hy
  cases hd : o.drop q with
  | nil => rw [hd] at hy;cases hy
  | cons a r =>
    have ha : o[q]? = some a:=by
     have : (o.drop q)[0]? = some a:=by rw [hd];rfl
     rwa [List.getElem?_drop] at this
    have hat : t.C a < 0:=by
     unfold stepS at hs
     rw [ha] at hs
     have h1 : ¬ a.C t < 0:=of_decide_eq_false hs
     rcases St.C_total (x:=t) (y:=a) (fun e => hno (by rw [e];exact List.mem_of_getElem? ha)) with h2 | h2
     · exact h2
     · exact absurd h2 h1
    rw [hd] at hy
    rcases List.mem_cons.1 hy with rfl | hy
    · exact hat
    · have:=hsort.2.1
      rw [hd] at this
      exact St.C_lt_trans hat ((List.pairwise_cons.1 this).1 y hy)
 have htake : ∀ y ∈ o.take q,y.C t < 0:=by
  intro y hy
  obtain ⟨j,hj,hx⟩:=mem_take_at hy
  exact hq j y hj hx
 refine ⟨?_,fun x => ?_⟩
 · rw [List.append_assoc,List.pairwise_append]
   refine ⟨hsort.1,?_,?_⟩
   · rw [List.singleton_append,List.pairwise_cons]
     exact ⟨hdrop,hsort.2.1⟩
   · intro a ha b hb
     rw [List.singleton_append] at hb
     rcases List.mem_cons.1 hb with rfl | hb
     · exact htake a ha
     · exact hsort.2.2 a ha b hb
 · have e : x ∈ o.take q ++ [t] ++ o.drop q ↔ x ∈ o ∨ x = t:=by
    conv => rhs;rw [← List.take_append_drop q o]
    simp only [List.mem_append,List.mem_singleton]
    constructor
    · rintro ((h | h) | h)
      · exact .inl (.inl h)
      · exact .inr h
      · exact .inl (.inr h)
    · rintro ((h | h) | h)
      · exact .inl (.inl h)
      · exact .inr h
      · exact .inl (.inr h)
   rw [e,h.2 x,mem_next ht]
   constructor
   · rintro (⟨h1,h2⟩ | rfl)
     · exact ⟨.inl h1,h2⟩
     · exact ⟨.inr rfl,hl.1⟩
   · rintro ⟨h1 | rfl,h2⟩
     · exact .inl ⟨h1,h2⟩
     · exact .inr rfl
theorem good_end (h : GoodO ts ts.length o) (he : EvenTo ts ts.length) : o = ofS ts:=by
 refine ofS_eq h.1 fun x => ?_
 have:=h.2 x
 rwa [List.take_length] at this
theorem Slc.of_ownB {w : World} {base n : Nat} {v : Value} {ts : List St} (h : w.ownsRow base 27 5 v n (rowS ts)) : ∃ A c,v = .slice A ts.length c ∧ Slc w A c ts ∧ ∀ ad,A = some ad → base ≤ ad.block:=by
 obtain ⟨A,c,e,hs⟩:=Slc.of_own h
 refine ⟨A,c,e,hs,fun ad hA => ?_⟩
 obtain ⟨_,⟨hv,_⟩ | ⟨g,cap,cur,hv,hg,_⟩⟩:=h
 · rw [hv] at e;injection e with e1;rw [← e1] at hA;cases hA
 · rw [hv] at e;injection e with e1;rw [← e1] at hA;cases hA;exact hg
theorem wpList_append_tn {w : World} {ops : Array Oper} {rest : List Oper} {o : Oper} {a : Act} {Q : Exit → Act → World → Prop} (hgd : o.guard = none) (s x : Operand)
 (ho : o.op = .call { callee:=.builtin .append,args:=#[s,x],argTypes:=#[34,34] })
 (base : Nat) (v : Value) (n : Nat) (ts : List St) (hs : a.eval s = v) (hown : w.ownsRow base 27 5 v n (rowS ts))
 (A : Option Addr) (c m : Nat) (ys : List St) (hm : ys.length = m) (hx : a.eval x = .slice A m c) (hA0 : A = none → c = 0) (hb : Ts w A ys)
 (hle : n + ys.length ≤ 800000000) (hbase : base ≤ w.heap.size)
 (h : ∀ v' w',w'.ownsRow base 27 5 v' (n + ys.length) (rowS (ts ++ ys)) → w.grownBy w' v.ownBlock → wpList Tryz.prog ops Q rest (a.put o.dst v') w') : wpList Tryz.prog ops Q (o :: rest) a w:=by
 subst hm
 exact wpList_append_ts hgd s x ho base v n ts hs hown A c ys hx hA0 hb hle hbase h
theorem slc_none (w : World) : Slc w none 0 []:=⟨Ts.nil,by simp,by unfold maxLen;omega,fun _ => rfl⟩
end
end

section
def kindU : Kind St:=⟨St.cells,5,fun _ => rfl,fun t u hu => by
 simp only [St.cells,List.mem_cons,List.not_mem_nil,or_false] at hu
 rcases hu with rfl | rfl | rfl | rfl | rfl <;> rfl,by decide⟩
theorem appS_len (T : St) : ∀ l : List Sm,(appS T l).length ≤ l.length
 | [] => Nat.le_refl _
 | s :: l => by
   have:=appS_len T l
   unfold appS
   cases s.apply T with
   | none => simp only [List.length_cons];omega
   | some u => simp only [List.length_cons];omega
end

section
def ApD (w : World) (s : Sm) (t : St) (p q r : Int) (b1 b2 : Bool) (w' : World) : Prop :=
 Below w.heap.size w w' ∧ HoldsM w' w.heap.size 82 s ∧ Holds w' (w.heap.size + 1) ⟨if b1 then s.to else t.d,t.e,if b2 then p else t.x,if b2 then q else t.y,if b2 then r else t.z⟩ ∧ Holds w' (w.heap.size + 1 + 1) St.zero
theorem ApD.below {w : World} {s : Sm} {t : St} {p q r : Int} {b1 b2 : Bool} {v v' : World} (h : ApD w s t p q r b1 b2 v) (hb : Below v.heap.size v v') : ApD w s t p q r b1 b2 v' :=
 ⟨h.1.trans (hb.mono h.1.size),h.2.1.below hb,h.2.2.1.below hb,h.2.2.2.below hb⟩
set_option maxHeartbeats 8000000 in
theorem apply_D (s : Sm) (t : St) (w : World) (h : s.R) (h2 : t.R) (hd : t.d = s.fr) : Calls Tryz.prog 97 #[s.v,t.val] w fun e w' => e = .returned (.tuple #[(s.ap t).val,.bool (s.apB t)]) ∧ Below w.heap.size w w':=by
 have hmr:=Sm.made_R h h2
 have hal:=along_any s t.x t.y t.z
 have bt : (0 ≤ t.x ∧ t.x ≤ 1000) ∧ (0 ≤ t.y ∧ t.y ≤ 1000) ∧ (0 ≤ t.z ∧ t.z ≤ 1000):=by unfold St.R at h2;omega
 have cal:=fun w => hal w h bt.1 bt.2.1 bt.2.2
 rw [show s.al 0 t.x = s.val t 0 from Sm.val_al 0,show s.al 1 t.y = s.val t 1 from Sm.val_al 1,show s.al 2 t.z = s.val t 2 from Sm.val_al 2] at cal
 have r3:=fun w => right_any ⟨s.to,t.e,s.val t 0,s.val t 1,s.val t 2⟩ w
 have hres : (s.ap t).val = (if decide (St.R ⟨s.to,t.e,s.val t 0,s.val t 1,s.val t 2⟩) then (St.val ⟨s.to,t.e,s.val t 0,s.val t 1,s.val t 2⟩) else St.zero.val) ∧ s.apB t = decide (St.R ⟨s.to,t.e,s.val t 0,s.val t 1,s.val t 2⟩):=by
  by_cases hh : s.val t 0 < 16 ∧ s.val t 1 < 16 ∧ s.val t 2 < 16
  · obtain ⟨q1,q2⟩:=Sm.ap_yes (s:=s) (t:=t) ⟨h,h2,hd,hh⟩
    rw [q1,q2,decide_eq_true (hmr.2 hh)];exact ⟨rfl,rfl⟩
  · obtain ⟨q1,q2⟩:=Sm.ap_no (s:=s) (t:=t) (fun g => hh g.2.2.2)
    rw [q1,q2,decide_eq_false (fun g => hh (hmr.1 g))];exact ⟨rfl,rfl⟩
 rw [hres.1,hres.2]
 clear hres hmr hal bt
 have h3:=Trio.made w 82 s t
 have hbw:=below_alloc3 w (.cells #[.int .i64 s.fr,.int .i64 s.to,.int .i64 s.kp,.int .i64 s.ad,.int .i64 s.t0,.int .i64 s.t1,.int .i64 s.t2] 82) (.cells #[.int .i64 t.d,.int .i64 t.e,.int .i64 t.x,.int .i64 t.y,.int .i64 t.z] 27) (.cells #[.int .i64 0,.int .i64 0,.int .i64 0,.int .i64 0,.int .i64 0] 27)
 have H3:=Hd h3;have HB:=Hd hbw;clear h3 hbw
 have r1:=fun w => rightM_true h w
 have r2:=fun w => right_true h2 w
 have hn : (t.d != s.fr) = false:=by simpa using hd
 have R1:=Hd r1;have R2:=Hd r2;clear r1 r2
 clear h h2 hd
 generalize s.val t 0 = p at *
 generalize s.val t 1 = q at *
 generalize s.val t 2 = r at *
 generalize hb : decide (St.R ⟨s.to,t.e,p,q,r⟩) = bb at *
 clear hb
 have R3:=Hd r3;have CAL:=Hd cal;clear r3 cal
 unfold Sm.v St.val at *
 go_enter Tryz.func97,Tryz.ntmps97
 go_wp2_with fail
 refine (R1.out _).mono ?_;rintro e w2 ⟨rfl,hb2⟩
 have k3:=H3.out.below hb2
 have kb:=HB.out.trans (hb2.mono HB.out.size);clear H3 HB
 have H3:=Hd k3;have HB:=Hd kb;clear k3 kb hb2
 obtain ⟨a0,a1,a2,a3,a4⟩:=H3.out.2.1.c5
 obtain ⟨b0,b1,b2,b3,b4,b5,b6⟩:=H3.out.1.cells7
 go_wp2_with fail
 clear a0 a1 a2 a3 a4 b0 b1 b2 b3 b4 b5 b6 R1
 refine (R2.out _).mono ?_;rintro e w3 ⟨rfl,hb3⟩
 have k3:=H3.out.below hb3
 have kb:=HB.out.trans (hb3.mono HB.out.size);clear H3 HB
 have H3:=Hd k3;have HB:=Hd kb;clear k3 kb hb3
 obtain ⟨a0,a1,a2,a3,a4⟩:=H3.out.2.1.c5
 obtain ⟨b0,b1,b2,b3,b4,b5,b6⟩:=H3.out.1.cells7
 go_wp2_with fail
 clear a0 a1 a2 a3 a4 b0 b1 b2 b3 b4 b5 b6 R2 hn
 have hD : ApD w s t p q r false false w3.drew:=⟨HB.out.drew,H3.out.1,H3.out.2.1,H3.out.2.2⟩
 have HD:=Hd hD;clear hD H3 HB
 refine Stage.wp_region (by kernel_rfl) (by kernel_rfl) (Stage.two 7 9 (ApD w s t p q r)) (Stage.two_start (by simp) (by simp) HD.out) ?_
 refine Stage.wpSt_do (.pointer (some ⟨w.heap.size,1,none⟩)) rfl (Stage.two_step (by kernel_rfl) (fun b w' hw => ?_)) ?_
 · exact at_of (by go_simp) hw
 go_simp
 refine Stage.wpSt_do (.int .i64 s.to) rfl (Stage.two_step (by kernel_rfl) (fun b w' hw => ?_)) ?_
 · exact Free.at_load _ _ rfl rfl (load_m1 hw.2.1 1 rfl w' (Below.refl _ _)) hw
 go_simp
 refine Stage.wpSt_do (.agg #[.int .i64 s.fr,.int .i64 s.to,.int .i64 s.kp,.int .i64 s.ad,.int .i64 s.t0,.int .i64 s.t1,.int .i64 s.t2]) rfl (Stage.two_step (by kernel_rfl) (fun b w' hw => ?_)) ?_
 · exact Free.at_load _ _ rfl rfl (load_m hw.2.1 w' (Below.refl _ _)) hw
 go_simp
 refine Stage.wpSt_do (.pointer (some ⟨w.heap.size + 1,2,none⟩)) rfl (Stage.two_step (by kernel_rfl) (fun b w' hw => ?_)) ?_
 · exact at_of (by go_simp) hw
 go_simp
 refine Stage.wpSt_do (.agg #[.int .i64 t.x,.int .i64 t.y,.int .i64 t.z]) rfl (Stage.two_step (by kernel_rfl) (fun b w' hw => ?_)) ?_
 · exact Free.at_load _ _ rfl rfl (load_l hw.2.2.1 w' (Below.refl _ _)) hw
 go_simp
 refine Stage.wpSt_do (.agg #[.int .i64 p,.int .i64 q,.int .i64 r]) rfl (Stage.two_step (by kernel_rfl) (fun b w' hw => ?_)) ?_
 · exact Free.at_call _ _ rfl Tryz.func87 (by kernel_rfl) rfl [.agg #[.int .i64 s.fr,.int .i64 s.to,.int .i64 s.kp,.int .i64 s.ad,.int .i64 s.t0,.int .i64 s.t1,.int .i64 s.t2],.agg #[.int .i64 t.x,.int .i64 t.y,.int .i64 t.z]] rfl ((CAL.out _).mono fun _ _ hh => ⟨hh.1,hw.below hh.2⟩)
 go_simp
 refine Stage.wpSt_do (.pointer (some ⟨w.heap.size + 1,0,none⟩)) rfl (Stage.two_step (by kernel_rfl) (fun b w' hw => ?_)) ?_
 · exact at_of (by go_simp) hw
 go_simp
 refine Stage.wpSt_do undef rfl (Stage.two_first (by decide) (by kernel_rfl) (fun w' hw => ?_)) ?_
 · have c:=hw.2.2.1.c5.1
   have f:=hw.2.2.1.f5.1
   simp only at c
   exact at_skip (w':=w'.setCell ⟨w.heap.size + 1,0,none⟩ (.int .i64 s.to)) (by go_simp) ⟨hw.1.setCell (by simp) _,Row.far hw.2.1 (by simp) _,Row.put hw.2.2.1 0 _,Row.far hw.2.2.2 (by simp) _⟩
 go_simp
 refine Stage.wpSt_do (.pointer (some ⟨w.heap.size + 1,2,none⟩)) rfl (Stage.two_step (by kernel_rfl) (fun b w' hw => ?_)) ?_
 · exact at_of (by go_simp) hw
 go_simp
 refine Stage.wpSt_do undef rfl (Stage.two_then (by decide) (by kernel_rfl) (fun w' hw => ?_)) ?_
 · obtain ⟨c0,c1,c2,c3,c4⟩:=hw.2.2.1.c5
   obtain ⟨f0,f1,f2,f3,f4⟩:=hw.2.2.1.f5
   exact at_skip (w':=((w'.setCell ⟨w.heap.size + 1,2,none⟩ (.int .i64 p)).setCell ⟨w.heap.size + 1,3,none⟩ (.int .i64 q)).setCell ⟨w.heap.size + 1,4,none⟩ (.int .i64 r)) (by go_simp) ⟨((hw.1.setCell (by simp) _).setCell (by simp) _).setCell (by simp) _,Row.far (Row.far (Row.far hw.2.1 (by simp) _) (by simp) _) (by simp) _,Row.put (Row.put (Row.put hw.2.2.1 2 _) 3 _) 4 _,Row.far (Row.far (Row.far hw.2.2.2 (by simp) _) (by simp) _) (by simp) _⟩
 go_simp
 refine Stage.wpSt_nil (Stage.two_end ?_)
 intro w4 hw4
 obtain ⟨hb4,hm4,ht4,hz4⟩:=hw4
 simp only [if_true] at ht4
 obtain ⟨a0,a1,a2,a3,a4⟩:=ht4.c5
 have HB:=Hd hb4;have HT:=Hd ht4;have HZ:=Hd hz4;clear hb4 hm4 ht4 hz4 HD CAL
 go_wp2_with fail
 refine (R3.out _).mono ?_;rintro e w5 ⟨rfl,hb5⟩
 have ht5:=HT.out.below hb5;have hz5:=HZ.out.below hb5;have hbw:=HB.out.trans (hb5.mono HB.out.size)
 clear a0 a1 a2 a3 a4 HT HZ HB hb5 R3
 obtain ⟨a0,a1,a2,a3,a4⟩:=ht5.c5
 obtain ⟨z0,z1,z2,z3,z4⟩:=hz5.c5
 obtain ⟨f0,f1,f2,f3,f4⟩:=hz5.f5
 have HB:=Hd hbw;have HZ:=Hd hz5;clear hbw hz5 ht5
 simp only at a0 a1 a2 a3 a4
 cases bb with
 | true =>
   go_wp2_with fail
   refine bodyPost_ret (v:=.tuple #[.agg #[.int .i64 s.to,.int .i64 t.e,.int .i64 p,.int .i64 q,.int .i64 r],.bool true]) (two_results rfl _ _ _ 27 _ (0,0) _ rfl (row_set5' HZ.out) Tryz.underlying27 rfl (by kernel_rfl) rfl) rfl ?_
   exact ⟨rfl,below_set5' HB.out (by omega)⟩
 | false =>
   go_wp2_with fail
   refine bodyPost_ret (v:=.tuple #[.agg #[.int .i64 0,.int .i64 0,.int .i64 0,.int .i64 0,.int .i64 0],.bool false]) (two_results rfl _ _ _ 27 _ (0,0) _ rfl (row_set5' HZ.out) Tryz.underlying27 rfl (by kernel_rfl) rfl) rfl ?_
   exact ⟨rfl,below_set5' HB.out (by omega)⟩
theorem apply_any (s : Sm) (t : St) (w : World) : Calls Tryz.prog 97 #[s.v,t.val] w fun e w' => e = .returned (.tuple #[(s.ap t).val,.bool (s.apB t)]) ∧ Below w.heap.size w w':=by
 by_cases h : s.R
 · by_cases h2 : t.R
   · by_cases hd : t.d = s.fr
     · exact apply_D s t w h h2 hd
     · exact apply_C s t w h h2 hd
   · exact apply_B s t w h h2
 · exact apply_A s t w h
end

section
theorem WaysOf.one {g : List Nd} {f t : Int} {l : List Sm} (hF : Fine g) (h : WaysOf g f t l) : OneTo l:=by
 rcases h with ⟨i,n,T,D,rfl,rfl,hi,hn,hr,hl⟩ | ⟨_,rfl⟩
 · obtain ⟨x,hx⟩ : ∃ x,g[n]? = some x:=⟨_,List.getElem?_eq_getElem hn⟩
   intro s hs u hu
   rw [(hr.dsound n s (hr.sub n l s hl hs)).to_eq hF hx,(hr.dsound n u (hr.sub n l u hl hu)).to_eq hF hx]
 · intro x hx;cases hx
theorem take_no {T : St} {l : List Sm} {k : Nat} {s : Sm} (h : l[k]? = some s) (hn : s.apB T = false) : appS T (l.take (k + 1)) = appS T (l.take k):=by
 rw [List.take_add_one,h,Option.toList_some,appS_append]
 have : s.apply T = none:=by
  unfold Sm.apB at hn
  cases h2 : s.apply T with
  | none => rfl
  | some u => rw [h2] at hn;cases hn
 have e2 : appS T [s] = []:=by unfold appS;rw [this];rfl
 rw [e2,List.append_nil]
theorem take_yes {T : St} {l : List Sm} {k : Nat} {s : Sm} (h : l[k]? = some s) (hn : s.apB T = true) : appS T (l.take (k + 1)) = appS T (l.take k) ++ [s.ap T]:=by
 rw [List.take_add_one,h,Option.toList_some,appS_append]
 congr 1
 unfold Sm.apB at hn
 unfold Sm.ap appS
 cases h2 : s.apply T with
 | none => rw [h2] at hn;cases hn
 | some u => rfl
theorem app_kept {w1 w4 w5 : World} {o : Obj} {v : Value} {M : List St} (ho : w4.ownsRow w1.heap.size 27 kindU.K v M.length (Rw.row kindU M)) (hb : Below w1.heap.size w1 w4) (hg : (w4.alloc o).grownBy w5 v.ownBlock) : Below w1.heap.size w1 w5 :=
 Rw.own_below (ho.alloc o) hg (hb.alloc hb.size o) (Nat.le_trans hb.size ((Below.refl w4.heap.size w4).alloc (Nat.le_refl _) o).size)
def ComeD (w : World) (base p F : Nat) (A : Option Addr) (c : Nat) (lg : List Gn) (f t : Int) (T : St) (e : Ending) (w' : World) : Prop :=
 (∃ v l,e = .returned v ∧ WaysOf (nds lg) f t l ∧ w'.ownsRow w.heap.size 27 5 v (ofS (appS T l)).length (rowS (ofS (appS T l)))) ∧ (∃ fs,Pth w' base p F A c lg fs) ∧ Touch (fun b => b = F) w w'
set_option maxHeartbeats 16000000 in
theorem comes_any (p F c base : Nat) (A : Option Addr) (lg : List Gn) (fs : List (Option Sl)) (f t : Int) (T : St) (w : World) (hP : Pth w base p F A c lg fs) (hl : lg.length ≤ 14) (hI : ∀ x ∈ nds lg,x.ins.length ≤ 40) (hFi : Fine (nds lg)) :
 Calls Tryz.prog 50 #[.pointer (some ⟨p,0,none⟩),.int .i64 f,T.val,.int .i64 t] w (ComeD w base p F A c lg f t T):=by
 have ht0 : Holds (w.alloc (.cells #[.int .i64 T.d,.int .i64 T.e,.int .i64 T.x,.int .i64 T.y,.int .i64 T.z] 27)) w.heap.size T:=Holds.made w T
 have hb0 : Below w.heap.size w (w.alloc (.cells #[.int .i64 T.d,.int .i64 T.e,.int .i64 T.x,.int .i64 T.y,.int .i64 T.z] 27)):=(Below.refl _ _).alloc (Nat.le_refl _) _
 have hlst:=least_any p F c base A lg fs f t _ (hP.below hb0) hl hI hFi
 have hFF : F ≠ w.heap.size:=by have:=hP.fans.lt;omega
 have HA:=Hd hlst;have HF:=Hd hFi;have HT0:=Hd ht0;have HB0:=Hd hb0;have HFF:=Hd hFF;clear hlst hFi hP hI ht0 hb0 hFF
 go_enter Tryz.func50,Tryz.ntmps50
 go_wp2_with fail
 refine HA.out.mono ?_;rintro e w1 ⟨⟨v,l,rfl,hw,LA,lc,rfl,hTs,h1,h2,h3⟩,⟨fs',hP⟩,ht⟩
 have hbd:=hw.len
 have ht1 : Holds w1 w.heap.size T:=Row.touch (t:=27) HT0.out ht (fun e => HFF.out e.symm)
 have hts : Mx.Ts w1 LA l:=hTs
 have HW:=Hd hw;have HP:=Hd (And.intro hP ht);have HTS:=Hd hts;have HBD:=Hd hbd;have HT1:=Hd ht1;clear hw hTs hts h1 h2 h3 hP ht hbd ht1 HA HT0
 obtain ⟨gt,hgt⟩ : ∃ gt,w.heap.size = gt:=⟨_,rfl⟩
 have HGT:=Hd hgt;rw [hgt] at HT1 ⊢;clear hgt
 dsimp only
 go_wp2_with fail
 go_loopw [9,21] (fun v n wx => ∃ k : Nat,n = .int .i64 k ∧ k ≤ l.length ∧ wx.ownsRow w1.heap.size 27 kindU.K v (appS T (l.take k)).length (Rw.row kindU (appS T (l.take k))) ∧ Below w1.heap.size w1 wx) (fun _ n _ => l.length - (intOf n).toNat)
 case atStart => exact ⟨0,rfl,Nat.zero_le _,World.ownsRow_nil _ _ _ _,Below.refl _ _⟩
 case round =>
  obtain ⟨w3,rfl⟩ : ∃ wo,wo = wr:=⟨_,rfl⟩
  obtain ⟨k,rfl,hk,hn,hb⟩:=hrel
  have HN:=Hd hn;have HB2:=Hd hb;clear hn hb
  by_cases hkl : k < l.length
  · have hkz : (k : Int) < (l.length : Int):=by omega
    have hkb : k < 60000000:=by have:=HBD.out;omega
    obtain ⟨s,hs⟩ : ∃ a,l[k]? = some a:=⟨_,List.getElem?_eq_getElem hkl⟩
    obtain ⟨b,o,rfl,hblt,hld⟩:=Mx.Ts.five HTS.out hs
    obtain ⟨q0,q1,q2,q3,q4,q5,q6⟩:=hld w3 HB2.out
    obtain ⟨d0,d1,d2,d3,d4⟩:=(HT1.out.below HB2.out).c5
    have hlg : gt < w3.heap.size:=(HT1.out.below HB2.out).lt
    have hno:=fun h => take_no (T:=T) hs h
    have hyes:=fun h => take_yes (T:=T) hs h
    have hlen:=appS_len T (l.take k)
    rw [List.length_take] at hlen
    have hap:=fun wz => apply_any s T wz
    generalize appS T (l.take k) = M at *
    generalize s.ap T = U at *
    generalize s.apB T = TB at *
    have HNO:=Hd hno;have HYES:=Hd hyes;have HLEN:=Hd hlen;have HAP:=Hd hap
    clear hno hyes hlen hap hld hs hblt
    go_wp2_with fail
    refine (HAP.out _).mono ?_;rintro e w4 ⟨rfl,hb4⟩
    have hb4' : Below w3.heap.size w3 w4:=((Below.refl _ _).alloc (Nat.le_refl _) _).trans (hb4.mono (by simp))
    have HB4:=Hd hb4';clear hb4 hb4' q0 q1 q2 q3 q4 q5 q6 d0 d1 d2 d3 d4
    dsimp only
    cases TB with
    | false =>
      have hm:=HNO.out rfl
      have HM:=Hd hm;clear hm
      go_wp2_with fail
      go_roundw
      case rel =>
       have hb5:=HB4.out.alloc HB4.out.size (.cells #[.int .i64 U.d,.int .i64 U.e,.int .i64 U.x,.int .i64 U.y,.int .i64 U.z] 27)
       exact ⟨k + 1,by simp,by omega,by rw [HM.out];exact Rw.own_kept HN.out hb5,HB2.out.trans (hb5.mono HB2.out.size)⟩
      case measure => simp only [intOf];omega
    | true =>
      have hm:=HYES.out rfl
      have hb5:=HB4.out.alloc HB4.out.size (.cells #[.int .i64 U.d,.int .i64 U.e,.int .i64 U.x,.int .i64 U.y,.int .i64 U.z] 27)
      have hb6:=HB2.out.trans (hb5.mono HB2.out.size)
      have hn5:=Rw.own_kept HN.out hb5
      obtain ⟨c0,c1,c2,c3,c4⟩:=(Holds.made w4 U).c5
      have HM:=Hd hm;have HN5:=Hd hn5;have HB6:=Hd hb6;clear hm hn5 hb5 hb6
      go_upto_region 7 with fail
      generalize w4.alloc (.cells #[.int .i64 U.d,.int .i64 U.e,.int .i64 U.x,.int .i64 U.y,.int .i64 U.z] 27) = w5 at *
      generalize w4.heap.size = gu at *
      have hty:=Rw.Ts.made (κ:=kindU) w5 [U] 27
      have HTY:=Hd hty;clear hty
      go_wp2_with (at_builtin;refine Rw.append_own kindU 27 34 Tryz.underlying34 Tryz.infoStamp rfl rfl _ _ rfl w1.heap.size _ M.length M rfl (World.ownsRow.alloc HN5.out _) _ 1 [U] rfl (by simp) HTY.out (by unfold maxLen;have:=HLEN.out;simp;omega) (by have:=HLEN.out;simp;omega) (by have:=HB6.out.size;simp;omega) ?_;intro v2 w6 hv2 hg2;have hk2:=app_kept HN5.out HB6.out hg2;have HV:=Hd hv2;have HK:=Hd hk2;clear hv2 hg2 hk2)
      go_roundw
      case rel =>
       refine ⟨k + 1,by simp,by omega,?_,HK.out⟩
       rw [HM.out,List.length_append]
       exact HV.out
      case measure => simp only [intOf];omega
  · have hkz : ¬ (k : Int) < (l.length : Int):=by omega
    have hke : k = l.length:=by omega
    have hn:=HN.out
    rw [hke,List.take_length] at hn
    have hle : (appS T l).length ≤ 200000000:=by have h1:=HBD.out;have h2:=appS_len T l;omega
    have hev : Even (appS T l):=appS_even (HW.out.one HF.out)
    obtain ⟨NA,nc,rfl,hs,_,_,_⟩:=Rw.Ts.of_own hn
    have hs' : Ts w3 NA (appS T l):=hs
    have hcl:=frOf_any NA (appS T l) nc w3 hs' hle
    rw [decide_eq_true hev] at hcl
    have HC:=Hd hcl;clear hcl hn hke hs hs' hle hev HN
    unfold Gives ifS errS at HC
    simp only [if_true] at HC
    go_wp2_with fail
    refine HC.out.mono ?_;rintro e w5 ⟨⟨v5,rfl,ho⟩,hb5⟩
    have HO:=Hd (And.intro ho hb5);clear ho hb5
    dsimp only
    go_wp2_with fail
    go_ret
    obtain ⟨ho,hb5⟩:=HO.out
    obtain ⟨hP,ht⟩:=HP.out
    have hb6:=HB2.out.trans (hb5.mono HB2.out.size)
    have hsz : w.heap.size ≤ w3.heap.size:=Nat.le_trans HB0.out.size (Nat.le_trans ht.size HB2.out.size)
    exact ⟨⟨_,l,rfl,HW.out,frOwn_base ho hsz⟩,⟨_,hP.below hb6⟩,((Touch.of_below HB0.out).trans ht).trans (Touch.of_below (hb6.mono (by exact Nat.le_refl _)))⟩
end

section
open Go.RowKit

section
variable {P : Program}
end
end

section
open Go.RowKit
section
variable {P : Program} {src dst e : TypeId}
end
end

section
end

section
section
variable {P : Program} {src dst : TypeId}
end
end

section
theorem allocs_heap : ∀ (os : List Obj) (w : World),(os.foldl World.alloc w).heap.toList = w.heap.toList ++ os
 | [],w => (List.append_nil _).symm
 | o :: os,w => by
   rw [List.foldl_cons,allocs_heap os (w.alloc o)]
   show (w.heap.push o).toList ++ os = _
   rw [Array.toList_push,List.append_assoc];rfl
theorem allocs_at (os : List Obj) (w : World) {k : Nat} {o : Obj} (h : os[k]? = some o) : (os.foldl World.alloc w).heap[w.heap.size + k]? = some o:=by
 rw [← Array.getElem?_toList,allocs_heap,List.getElem?_append_right (by simp)]
 simpa using h
theorem allocs_below : ∀ (os : List Obj) {B : Nat} {w0 w : World},Below B w0 w → B ≤ w.heap.size → Below B w0 (os.foldl World.alloc w)
 | [],_,_,_,h,_ => h
 | o :: os,_,_,w,h,hB => allocs_below os (h.alloc hB o) (by simp;omega)
theorem allocs_ints (os : List Obj) (w : World) {k : Nat} (zs : List Int) (h : os[k]? = some (.cells (Rw.row kindI zs).toArray 3)) : Rw.Ts kindI (os.foldl World.alloc w) (some ⟨w.heap.size + k,0,none⟩) zs:=Rw.Ts.of_row (t:=3) (allocs_at os w h)
theorem allocs_nodes (os : List Obj) (w : World) {k : Nat} (l : List Gn) (h : os[k]? = some (.cells (Rw.row kindG l).toArray 58)) : Rw.Ts kindG (os.foldl World.alloc w) (some ⟨w.heap.size + k,0,none⟩) l:=Rw.Ts.of_row (t:=58) (allocs_at os w h)
theorem ok_small (k a : Nat) (b d : Int) (ins : List Int) (A : Option Addr) (c : Nat) (h : (k < 256 ∧ a < 256 ∧ -100 ≤ b ∧ b ≤ 100 ∧ -100 ≤ d ∧ d ≤ 100 ∧ ins.length ≤ c ∧ c ≤ 10) ∧ ∀ z ∈ ins,-100 ≤ z ∧ z ≤ 100) (hA : A = none → c = 0) : Gn.Ok ⟨⟨k,a,b,d,ins⟩,A,c⟩:=by
 have h1 : -9223372036854775808 ≤ b ∧ b ≤ 9223372036854775807:=by have:=h.1;omega
 have h2 : -9223372036854775808 ≤ d ∧ d ≤ 9223372036854775807:=by have:=h.1;omega
 have h3 : ∀ z ∈ ins,-9223372036854775808 ≤ z ∧ z ≤ 9223372036854775807:=fun z hz => by have:=h.2 z hz;omega
 have h4 : ins.length ≤ c ∧ c ≤ maxLen:=by have:=h.1;unfold maxLen;omega
 exact ⟨h.1.1,h.1.2.1,h1,h2,h3,h4,hA⟩
end

section
abbrev laidT : List (String × DataW Unit):=[("math/bits.deBruijn32tab",Rows.laid_math_bits_deBruijn32tab)]
def tzInts : List Int:=[0,1,28,2,29,14,24,3,30,22,20,15,25,17,4,8,31,27,13,23,21,19,16,7,26,12,18,6,11,5,10,9]
theorem tz_ints : ∀ i,i < 32 → tzInts.getD i 0 = ((tzTab.getD i 0 : Nat) : Int):=by decide
theorem gTab : Tryz.prog.globalNamed "math/bits.deBruijn32tab" = some 0:=by kernel_rfl
theorem tTab : (Tryz.prog.globals[0]?).map (·.type) = some 214:=by kernel_rfl
theorem cTab : Tryz.prog.cellsOf 214 = 32:=by kernel_rfl
theorem tab_of_laid {W : World} (h : laidMetH Tryz.prog laidT W) : Tab W:=by
 rw [MakeChecks.laidMetH_plain _ _ _ (by kernel_rfl)] at h
 have hT : Lib.TabIs Tryz.prog W "math/bits.deBruijn32tab" .u8 tzInts:=Lib.tabIs_of_head gTab tTab Tryz.underlying214 Tryz.underlying5 cells_u8 cTab h
 intro i hi
 rw [hT.cell gTab i hi,tz_ints i hi]
theorem door_met (os : Os) (args : Array Value) : laidMetH Tryz.prog laidT ((World.doorLaid Tryz.prog 400 os).forCall (fun _ _ => 0) ⟨#[],args,[]⟩).memory :=
 laidMetH_of_parts3 (fuel:=8) (laidMet_of_run' 8 (by kernel_rfl) (by kernel_rfl)) (by kernel_rfl) (by kernel_rfl)
end

section
def FewD (g : List Nd) (w : World) (e : Ending) (w' : World) : Prop:=(∃ b,e = .returned (.bool b) ∧ (b = true → insB g 14 = true)) ∧ w = w'
theorem few_no (g : List Nd) (w : World) : FewD g w (.returned (.bool false)) w:=⟨⟨false,rfl,fun h => by cases h⟩,rfl⟩
theorem few_yes {g : List Nd} (h : insB g 14 = true) (w : World) : FewD g w (.returned (.bool true)) w:=⟨⟨true,rfl,fun _ => h⟩,rfl⟩
set_option maxHeartbeats 1000000 in
theorem few_any (A : Option Addr) (l : List Gn) (c : Nat) (w : World) (hG : Gr w A l) (hl : l.length ≤ maxLen) :
 Calls Tryz.prog 35 #[.slice A l.length c] w (FewD (nds l) w):=by
 have h1:=ins_any A l c 14 w hG hl
 unfold maxLen at hl
 have HG:=Hd hG;clear hG
 cases e1 : insB (nds l) 14 with
 | false =>
   rw [e1] at h1;clear e1;have H1:=Hd h1;clear h1
   go_enter Tryz.func35,Tryz.ntmps35
   go_wp2_with fail
   refine H1.out.mono ?_;rintro e w0 ⟨rfl,rfl⟩
   dsimp only
   go_wp2_with fail
   go_ret
   exact few_no _ _
 | true =>
   have HE:=Hd e1;rw [e1] at h1;clear e1;have H1:=Hd h1;clear h1
   go_enter Tryz.func35,Tryz.ntmps35
   go_wp2_with fail
   refine H1.out.mono ?_;rintro e w0 ⟨rfl,rfl⟩
   dsimp only
   go_wp2_with fail
   go_loop [3] (fun i => ∃ k : Nat,k ≤ l.length ∧ i = .int .i64 k) (fun i => l.length - (intOf i).toNat)
   case atStart => exact ⟨0,by omega,rfl⟩
   case round =>
    obtain ⟨k,hk,rfl⟩:=hrel
    by_cases hlt : k < l.length
    · have hltz : (k : Int) < (l.length : Int):=by omega
      obtain ⟨x,hx⟩ : ∃ x,l[k]? = some x:=⟨_,List.getElem?_eq_getElem hlt⟩
      obtain ⟨b,o,rfl,hbl,hcl⟩:=HG.out.at_ hx
      obtain ⟨c0,c1,c2,c3,c4⟩:=hcl w (Below.refl _ _)
      clear hx hcl
      by_cases h9 : x.nd.k = 9
      · have h9z : (((x.nd.k : Nat) : Int) == 9) = true:=by simp;omega
        clear h9
        by_cases h2 : 2 < x.nd.d
        · go_wp2_with fail
          go_ret
          exact few_no _ _
        · go_wp2_with fail
          go_round
          case rel => exact ⟨k + 1,by omega,by simp⟩
          case measure => simp [intOf];omega
      · have h9z : (((x.nd.k : Nat) : Int) == 9) = false:=by simp;omega
        clear h9
        go_wp2_with fail
        go_round
        case rel => exact ⟨k + 1,by omega,by simp⟩
        case measure => simp [intOf];omega
    · have hltz : ¬ (k : Int) < (l.length : Int):=by omega
      go_wp2_with fail
      go_ret
      exact few_yes HE.out _
def waygL (w : World) : List Gn:=[⟨⟨1,0,0,0,[]⟩,none,0⟩,⟨⟨7,0,0,1,[0]⟩,some ⟨w.heap.size + 0,0,none⟩,1⟩,⟨⟨4,0,0,1,[1,3]⟩,some ⟨w.heap.size + 1,0,none⟩,2⟩,⟨⟨9,0,2,1,[2]⟩,some ⟨w.heap.size + 2,0,none⟩,1⟩,⟨⟨8,0,0,0,[2]⟩,some ⟨w.heap.size + 3,0,none⟩,1⟩,⟨⟨10,0,0,0,[4]⟩,some ⟨w.heap.size + 4,0,none⟩,1⟩]
def waygO (w : World) : List Obj:=[.cells (Rw.row kindI [0]).toArray 3,.cells (Rw.row kindI [1,3]).toArray 3,.cells (Rw.row kindI [2]).toArray 3,.cells (Rw.row kindI [2]).toArray 3,.cells (Rw.row kindI [4]).toArray 3,.cells (Rw.row kindG (waygL w)).toArray 58]
theorem wayg_gr (w : World) : Gr ((waygO w).foldl World.alloc w) (some ⟨w.heap.size + 5,0,none⟩) (waygL w):=by
 refine ⟨allocs_nodes (waygO w) w (waygL w) rfl,fun x hx => ?_⟩
 unfold waygL at hx
 simp only [List.mem_cons,List.not_mem_nil,or_false] at hx
 rcases hx with rfl | rfl | rfl | rfl | rfl | rfl
 · exact ⟨ok_small _ _ _ _ _ _ _ (by decide) (by simp),Rw.Ts.nil⟩
 · exact ⟨ok_small _ _ _ _ _ _ _ (by decide) (by simp),allocs_ints (waygO w) w [0] rfl⟩
 · exact ⟨ok_small _ _ _ _ _ _ _ (by decide) (by simp),allocs_ints (waygO w) w [1,3] rfl⟩
 · exact ⟨ok_small _ _ _ _ _ _ _ (by decide) (by simp),allocs_ints (waygO w) w [2] rfl⟩
 · exact ⟨ok_small _ _ _ _ _ _ _ (by decide) (by simp),allocs_ints (waygO w) w [2] rfl⟩
 · exact ⟨ok_small _ _ _ _ _ _ _ (by decide) (by simp),allocs_ints (waygO w) w [4] rfl⟩
theorem wayg_below (w : World) : Below w.heap.size w ((waygO w).foldl World.alloc w):=allocs_below (waygO w) (Below.refl _ _) (Nat.le_refl _)
theorem wayg_nds (w : World) : nds (waygL w) = wayN:=rfl
theorem way_fine : Fine wayN:=fine_of (checkR_zero (by rw [ex_way])).2.1
theorem own_sum {w : World} {base : Nat} {v : Value} {s : Sm} (h : w.ownsRow base 82 kindS.K v ([s] : List Sm).length (Rw.row kindS [s])) : ∃ b o c,v = .slice (some ⟨b,o,none⟩) 1 c ∧
 w.cell? ⟨b,o,none⟩ = some (.int .i64 s.fr) ∧ w.cell? ⟨b,o + 1,none⟩ = some (.int .i64 s.to) ∧ w.cell? ⟨b,o + 2,none⟩ = some (.int .i64 s.kp) ∧ w.cell? ⟨b,o + 3,none⟩ = some (.int .i64 s.ad) ∧ w.cell? ⟨b,o + 4,none⟩ = some (.int .i64 s.t0) ∧ w.cell? ⟨b,o + 5,none⟩ = some (.int .i64 s.t1) ∧ w.cell? ⟨b,o + 6,none⟩ = some (.int .i64 s.t2):=by
 obtain ⟨A,c,rfl,hT,_⟩:=Rw.Ts.of_own (κ:=kindS) (ts:=[s]) h
 have hT' : Mx.Ts w A [s]:=hT
 obtain ⟨b,o,rfl,_,hc⟩:=Mx.Ts.five hT' (i:=0) rfl
 have:=hc w (Below.refl _ _)
 simp only [Nat.zero_mul,Nat.add_zero] at this
 exact ⟨b,o,c,rfl,this⟩
theorem own_time {w : World} {base : Nat} {v : Value} {t : St} (h : w.ownsRow base 27 5 v ([t] : List St).length (rowS [t])) : ∃ b o c,v = .slice (some ⟨b,o,none⟩) 1 c ∧
 w.cell? ⟨b,o,none⟩ = some (.int .i64 t.d) ∧ w.cell? ⟨b,o + 1,none⟩ = some (.int .i64 t.e) ∧ w.cell? ⟨b,o + 2,none⟩ = some (.int .i64 t.x) ∧ w.cell? ⟨b,o + 3,none⟩ = some (.int .i64 t.y) ∧ w.cell? ⟨b,o + 4,none⟩ = some (.int .i64 t.z):=by
 obtain ⟨A,c,rfl,hT,_⟩:=Rw.Ts.of_own (κ:=kindU) (ts:=[t]) h
 have hT' : Ts w A [t]:=hT
 obtain ⟨b,o,rfl,_,hc⟩:=Ts.five hT' (i:=0) rfl
 have:=hc w (Below.refl _ _)
 simp only [Nat.zero_mul,Nat.add_zero] at this
 exact ⟨b,o,c,rfl,this⟩
structure WkS (w wx : World) (p F : Nat) (A : Option Addr) (c : Nat) (lg : List Gn) (b : Nat) : Prop where
 pth : ∃ fs,Pth wx b p F A c lg fs
 base : w.heap.size ≤ b
 below : Below w.heap.size w wx
theorem WkS.on {w wx wy : World} {p F c b : Nat} {A : Option Addr} {lg : List Gn} (h : WkS w wx p F A c lg b) (hp : ∃ fs,Pth wy b p F A c lg fs) (ht : Touch (fun k => k = F) wx wy) : WkS w wy p F A c lg b:=by
 obtain ⟨fs,hP⟩:=h.pth
 exact ⟨hp,h.base,h.below.trans (ht.below (fun k hk => by subst hk;exact Nat.le_trans h.base hP.lo.2) h.below.size)⟩
theorem WkS.own {w wx wy : World} {p F c b : Nat} {A : Option Addr} {lg : List Gn} (h : WkS w wx p F A c lg b) (ht : Touch (fun k => k = F) wx wy) {base K n : Nat} {T : TypeId} {v : Value} {xs : List Value} (ho : wx.ownsRow base T K v n xs) (hT : 195 ≠ T) : wy.ownsRow base T K v n xs:=by
 obtain ⟨fs,hP⟩:=h.pth
 exact own_touchF ho hP.fans hT ht
set_option maxHeartbeats 16000000 in
theorem plWorks_any (w : World) (hT : Tab w) : Calls Tryz.prog 36 #[] w fun e w' => e = .returned (.bool true) ∧ Below w.heap.size w w':=by
 have HG:=Hd (wayg_gr w)
 have HB:=Hd (wayg_below w)
 have HT:=Hd (hT.below (wayg_below w));clear hT
 go_enter Tryz.func36,Tryz.ntmps36
 go_wp2_with fail
 refine (new_good _ (waygL w) 6 _ HT.out HG.out (by show 6 ≤ 40;decide) (by rw [wayg_nds];decide) (show 6 ≤ 6 ∧ 6 ≤ maxLen by decide) (fun e => by cases e) (by rw [wayg_nds,ex_way])).mono ?_
 rintro e w1 ⟨⟨p,F,A,c,l',rfl,hn,hP⟩,hb⟩
 rw [wayg_nds] at hn
 have hk : WkS w w1 p F A c l' _:=⟨⟨_,hP⟩,HB.out.size,HB.out.trans (hb.mono HB.out.size)⟩
 generalize ((waygO w).foldl World.alloc w).heap.size = b at *
 have hl : l'.length = 6:=by rw [← nds_len,hn];rfl
 have hI : ∀ x ∈ nds l',x.ins.length ≤ 40:=by rw [hn];decide
 have hFi : Fine (nds l'):=by rw [hn];exact way_fine
 have HK:=Hd hk;have HN:=Hd hn;have HL:=Hd hl;have HI:=Hd hI;have HFI:=Hd hFi
 clear hk hn hl hI hFi hP hb HG HB HT
 dsimp only
 go_wp2_with fail
 obtain ⟨fs1,hP1⟩:=HK.out.pth
 refine (ways_any p F c b A l' fs1 0 1 w1 hP1 (by have:=HL.out;omega) HI.out HFI.out).mono ?_
 rintro e w2 ⟨⟨v2,l,rfl,hw,ho⟩,hp,ht⟩
 rw [HN.out] at hw
 obtain rfl:=ex_01 hw
 have h2:=HK.out.on hp ht;clear HK hP1;have HK:=Hd h2;have HO2:=Hd ho;clear h2 ho hw hp ht
 dsimp only
 go_wp2_with fail
 obtain ⟨fs2,hP2⟩:=HK.out.pth
 refine (ways_any p F c b A l' fs2 0 2 w2 hP2 (by have:=HL.out;omega) HI.out HFI.out).mono ?_
 rintro e w3 ⟨⟨v3,l,rfl,hw,ho⟩,hp,ht⟩
 rw [HN.out] at hw
 obtain rfl:=ex_02 hw
 have h2:=HK.out.own ht HO2.out (by decide);clear HO2;have HO2:=Hd h2;clear h2
 have h2:=HK.out.on hp ht;clear HK hP2;have HK:=Hd h2;have HO3:=Hd ho;clear h2 ho hw hp ht
 dsimp only
 go_wp2_with fail
 obtain ⟨fs3,hP3⟩:=HK.out.pth
 refine (ways_any p F c b A l' fs3 2 2 w3 hP3 (by have:=HL.out;omega) HI.out HFI.out).mono ?_
 rintro e w4 ⟨⟨v4,l,rfl,hw,ho⟩,hp,ht⟩
 rw [HN.out] at hw
 obtain rfl:=ex_22 hw
 have h2:=HK.out.own ht HO2.out (by decide);clear HO2;have HO2:=Hd h2;clear h2
 have h2:=HK.out.own ht HO3.out (by decide);clear HO3;have HO3:=Hd h2;clear h2
 have h2:=HK.out.on hp ht;clear HK hP3;have HK:=Hd h2;have HO4:=Hd ho;clear h2 ho hw hp ht
 dsimp only
 go_wp2_with fail
 obtain ⟨fs4,hP4⟩:=HK.out.pth
 refine (comes_any p F c b A l' fs4 2 5 ⟨1,4,2,0,0⟩ w4 hP4 (by have:=HL.out;omega) HI.out HFI.out).mono ?_
 rintro e w5 ⟨⟨v5,l,rfl,hw,ho⟩,hp,ht⟩
 rw [HN.out] at hw
 obtain rfl:=ex_25 hw
 rw [ex_c25] at ho
 have h2:=HK.out.own ht HO2.out (by decide);clear HO2;have HO2:=Hd h2;clear h2
 have h2:=HK.out.own ht HO3.out (by decide);clear HO3;have HO3:=Hd h2;clear h2
 have h2:=HK.out.own ht HO4.out (by decide);clear HO4;have HO4:=Hd h2;clear h2
 have h2:=HK.out.on hp ht;clear HK hP4;have HK:=Hd h2;have HO5:=Hd ho;clear h2 ho hw hp ht
 dsimp only
 go_wp2_with fail
 obtain ⟨fs5,hP5⟩:=HK.out.pth
 refine (comes_any p F c b A l' fs5 0 2 ⟨0,4,0,0,0⟩ w5 hP5 (by have:=HL.out;omega) HI.out HFI.out).mono ?_
 rintro e w6 ⟨⟨v6,l,rfl,hw,ho⟩,hp,ht⟩
 rw [HN.out] at hw
 obtain rfl:=ex_02 hw
 rw [ex_c02] at ho
 have h2:=HK.out.own ht HO2.out (by decide);clear HO2;have HO2:=Hd h2;clear h2
 have h2:=HK.out.own ht HO3.out (by decide);clear HO3;have HO3:=Hd h2;clear h2
 have h2:=HK.out.own ht HO4.out (by decide);clear HO4;have HO4:=Hd h2;clear h2
 have h2:=HK.out.own ht HO5.out (by decide);clear HO5;have HO5:=Hd h2;clear h2
 have h2:=HK.out.on hp ht;clear HK hP5;have HK:=Hd h2;have HO6:=Hd ho;clear h2 ho hw hp ht
 dsimp only
 obtain ⟨b2,o2,c2,rfl,q20,q21,q22,q23,q24,q25,q26⟩:=own_sum HO2.out
 obtain ⟨b3,o3,c3,rfl,q30,q31,q32,q33,q34,q35,q36⟩:=own_sum HO3.out
 obtain ⟨b4,o4,c4,rfl,q40,q41,q42,q43,q44,q45,q46⟩:=own_sum HO4.out
 obtain ⟨b5,o5,c5,rfl,q50,q51,q52,q53,q54⟩:=own_time HO5.out
 obtain ⟨b6,o6,c6,rfl,q60,q61,q62,q63,q64⟩:=own_time HO6.out
 clear HO2 HO3 HO4 HO5 HO6
 have heq3:=fun x y z w => eq3 9997 x y z x y z w
 simp only [and_self,decide_true] at heq3
 go_wp2_with fail
 obtain ⟨fs6,hP6⟩:=HK.out.pth
 refine (comes_any p F c b A l' fs6 5 0 ⟨0,4,0,0,0⟩ w6 hP6 (by have:=HL.out;omega) HI.out HFI.out).mono ?_
 rintro e w7 ⟨⟨v7,l,rfl,hw,ho⟩,hp,ht⟩
 rw [HN.out] at hw
 obtain rfl:=ex_50 hw
 obtain ⟨A7,c7,rfl,_⟩:=Rw.Ts.of_own (κ:=kindU) (ts:=[]) ho
 have h2:=HK.out.on hp ht;clear HK hP6;have HK:=Hd h2;clear h2 ho hw hp ht
 dsimp only
 go_wp2_with fail
 go_ret
 exact ⟨rfl,HK.out.below⟩
end

section
theorem si_graph : Tryz.prog.wantsStandIn 23 = false:=by kernel_rfl
theorem si_int : Tryz.prog.wantsStandIn 3 = false:=by kernel_rfl
theorem si_u8 : Tryz.prog.wantsStandIn 5 = false:=by kernel_rfl
end

section
theorem si_stamp : Tryz.prog.wantsStandIn 27 = false:=by kernel_rfl
theorem few_nds {l : List Gn} (h : insB (nds l) 14 = true) : l.length ≤ 14 ∧ ∀ x ∈ nds l,x.ins.length ≤ 40:=by
 unfold insB at h
 rw [decide_eq_true_iff,nds_len] at h
 exact ⟨by omega,fun x hx => by have:=h.2 x hx;omega⟩
end

section
theorem plain_kept {w w4 w5 : World} {o : Obj} {v : Value} {M : List Sm} (ho : w4.ownsRow w.heap.size 106 kindS.K v M.length (Rw.row kindS M)) (hb : Below w.heap.size w w4) (hg : (w4.alloc o).grownBy w5 v.ownBlock) : Below w.heap.size w w5 :=
 Rw.own_below (ho.alloc o) hg (hb.alloc hb.size o) (Nat.le_trans hb.size ((Below.refl w4.heap.size w4).alloc (Nat.le_refl _) o).size)
set_option maxHeartbeats 16000000 in
theorem plain_any (A : Option Addr) (l : List Sm) (c : Nat) (w : World) (hT : Rw.Ts kindS w A l) (hl : l.length ≤ 4194304) :
 Calls Tryz.prog 41 #[.slice A l.length c] w fun e w' => (∃ v,e = .returned v ∧ w'.ownsRow w.heap.size 106 kindS.K v l.length (Rw.row kindS l)) ∧ Below w.heap.size w w':=by
 have hTs : Mx.Ts w A l:=hT
 have HTS:=Hd hTs;have HBD:=Hd hl;clear hT hTs hl
 go_enter Tryz.func41,Tryz.ntmps41
 go_wp2_with fail
 go_loopw [3,4] (fun v n wx => ∃ k : Nat,n = .int .i64 k ∧ k ≤ l.length ∧ wx.ownsRow w.heap.size 106 kindS.K v (l.take k).length (Rw.row kindS (l.take k)) ∧ Below w.heap.size w wx) (fun _ n _ => l.length - (intOf n).toNat)
 case atStart => exact ⟨0,rfl,Nat.zero_le _,World.ownsRow_nil _ _ _ _,Below.refl _ _⟩
 case round =>
  obtain ⟨w3,rfl⟩ : ∃ wo,wo = wr:=⟨_,rfl⟩
  obtain ⟨k,rfl,hk,hn,hb⟩:=hrel
  have HN:=Hd hn;have HB2:=Hd hb;clear hn hb
  by_cases hkl : k < l.length
  · have hkz : (k : Int) < (l.length : Int):=by omega
    have hkb : k < 60000000:=by have:=HBD.out;omega
    obtain ⟨s,hs⟩ : ∃ a,l[k]? = some a:=⟨_,List.getElem?_eq_getElem hkl⟩
    obtain ⟨b,o,rfl,hblt,hld⟩:=Mx.Ts.five HTS.out hs
    obtain ⟨q0,q1,q2,q3,q4,q5,q6⟩:=hld w3 HB2.out
    have hlen : (l.take k).length ≤ k:=by rw [List.length_take];omega
    have hm : l.take (k + 1) = l.take k ++ [s]:=by rw [List.take_add_one,hs];rfl
    generalize l.take k = M at *
    have HM:=Hd hm;have HLEN:=Hd hlen;clear hm hlen hld hs hblt
    have hb5:=(Below.refl w3.heap.size w3).alloc (Nat.le_refl _) (.cells #[.int .i64 s.fr,.int .i64 s.to,.int .i64 s.kp,.int .i64 s.ad,.int .i64 s.t0,.int .i64 s.t1,.int .i64 s.t2] 82)
    have hb6:=HB2.out.trans (hb5.mono HB2.out.size)
    have hn5:=Rw.own_kept HN.out hb5
    obtain ⟨c0,c1,c2,c3,c4,c5,c6⟩:=(HoldsM.made w3 82 s).cells7
    have HN5:=Hd hn5;have HB6:=Hd hb6;clear hn5 hb5 hb6
    go_upto_region 6 with fail
    generalize w3.alloc (.cells #[.int .i64 s.fr,.int .i64 s.to,.int .i64 s.kp,.int .i64 s.ad,.int .i64 s.t0,.int .i64 s.t1,.int .i64 s.t2] 82) = w5 at *
    generalize w3.heap.size = gu at *
    have hty:=Rw.Ts.made (κ:=kindS) w5 [s] 106
    have HTY:=Hd hty;clear hty
    go_wp2_with (at_builtin;refine Rw.append_own kindS 106 77 Tryz.underlying77 Nx.infoRef rfl rfl _ _ rfl w.heap.size _ M.length M rfl (World.ownsRow.alloc HN5.out _) _ 1 [s] rfl (by simp) HTY.out (by unfold maxLen;have:=HLEN.out;simp;omega) (by have:=HLEN.out;simp;omega) (by have:=HB6.out.size;simp;omega) ?_;intro v2 w6 hv2 hg2;have hk2:=plain_kept HN5.out HB6.out hg2;have HV:=Hd hv2;have HK:=Hd hk2;clear hv2 hg2 hk2)
    go_roundw
    case rel =>
     refine ⟨k + 1,by simp,by omega,?_,HK.out⟩
     rw [HM.out,List.length_append]
     exact HV.out
    case measure => simp only [intOf];omega
  · have hkz : ¬ (k : Int) < (l.length : Int):=by omega
    have hke : k = l.length:=by omega
    have hn:=HN.out
    rw [hke,List.take_length] at hn
    have HE:=Hd hn;clear hn hke
    go_wp2_with fail
    go_ret
    exact ⟨⟨_,rfl,HE.out⟩,HB2.out⟩
end
end Go.Proofs.YtonelpnhoiajgaaGreatDoor
