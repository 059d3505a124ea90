import Derived.Test.YtonelpnhoiajgaaGreatDoorHd
import Derived.Test.YtonelpnhoiajgaaGreatDoorCa4
import Derived.Test.YtonelpnhoiajgaaGreatDoorCa11
import Derived.Laws.OwnMore
import Derived.Test.YtonelpnhoiajgaaGreatDoorCa8
import Derived.Deep.DeepCutAuto
import Derived.Deep.CutRange
import Derived.Test.YtonelpnhoiajgaaGreatDoorCa9
import Derived.Laws.MakeOwn
import Derived.Test.YtonelpnhoiajgaaGreatDoorCa0
import Derived.Tactics2
import Derived.Defers
import Derived.Laws.Pointers
import Derived.Laws.LoneSync
import Derived.Laws.NewBlocks
import Derived.RegionTactic
import Derived.RegionCalls
import Derived.ChangeAlike
import Derived.Lib.Hide
import Derived.Test.YtonelpnhoiajgaaGreatDoorCa3
import Derived.Laws.AppendOwnNone
import Derived.OwnWalk
import Derived.Test.YtonelpnhoiajgaaGreatDoorCa5
import Derived.Maps.OwnSet
namespace Go.Proofs.YtonelpnhoiajgaaGreatDoor
set_option linter.unusedSimpArgs false
set_option maxRecDepth 100000
open Go.ChangeShapes Go.WideShapes Go.ChangeAt Go.RowKit Go.BigFrame
set_option linter.unusedVariables false
section
def kindT : Kind Bool:=⟨fun b => [.bool b],1,fun _ => rfl,fun t u hu => by simp only [List.mem_singleton] at hu;subst hu;rfl,by decide⟩
theorem infoBool : (Tryz.prog.info? 4).map (fun i => (i.zero,i.size,i.bytes)) = some (some (.bool false),1,1):=by kernel_rfl
theorem row_bools : ∀ (l : List Bool),Rw.row kindT l = l.map Value.bool
 | [] => rfl
 | x :: l => by rw [Rw.row_cons,row_bools l];rfl
theorem made_bools (n : Nat) : (madeCells (Value.bool false).cells (n * 1)).toList = Rw.row kindT (List.replicate n false):=by
 have : (Value.bool false).cells = #[.bool false]:=rfl
 rw [this,toList_madeCells_one,row_bools,List.map_replicate,Nat.mul_one]
theorem ints_of (l : List Nat) : Rw.row kindI (l.map Int.ofNat) = l.map fun x => Value.int .i64 (x : Nat):=by rw [row_ints,List.map_map];rfl
noncomputable def stuckB (g : List Nd) (i : Nat) (least : Int) : Bool:=@decide (Stuck g i least) (Classical.propDecidable _)
theorem stuckB_iff {g : List Nd} {i : Nat} {least : Int} : stuckB g i least = true ↔ Stuck g i least:=by unfold stuckB;exact @decide_eq_true_iff _ (Classical.propDecidable _)
theorem stuckB_no {g : List Nd} {i : Nat} {least : Int} (h : ¬ Stuck g i least) : false = stuckB g i least:=by
 cases e : stuckB g i least with
 | true => exact absurd (stuckB_iff.1 e) h
 | false => rfl
theorem Bfs.small {g : List Nd} {least : Int} {first tgt i : Nat} {todo : List Nat} {seen : List Bool} (h : Bfs g least first tgt i todo seen) (hf : first < 2 * g.length) : ∀ s ∈ todo,s < 2 * g.length:=fun s hs => by
 rcases h.reach s hs with rfl | hr
 · exact hf
 · cases hr with
   | one hr => exact hr.lt
   | more _ hr => exact hr.lt
structure RowsS (w0 w : World) (v : Value) (gs : Nat) (todo : List Nat) (seen : List Bool) : Prop where
 below : Below w0.heap.size w0 w
 todo : w.ownsRow w0.heap.size 3 kindI.K v todo.length (Rw.row kindI (todo.map Int.ofNat))
 seen : w.ownsRow w0.heap.size 4 kindT.K (.slice (some ⟨gs,0,none⟩) seen.length seen.length) seen.length (Rw.row kindT seen)
section
variable {w0 w w' : World} {v v' : Value} {gs : Nat} {todo : List Nat} {seen : List Bool}
theorem RowsS.kept (h : RowsS w0 w v gs todo seen) (hb : Below w.heap.size w w') : RowsS w0 w' v gs todo seen:=⟨h.below.trans (hb.mono h.below.size),Rw.own_kept h.todo hb,Rw.own_kept h.seen hb⟩
theorem RowsS.mark (h : RowsS w0 w v gs todo seen) (j : Nat) (hj : j < seen.length) : RowsS w0 (w.setCell ⟨gs,j,none⟩ (.bool true)) v gs todo (seen.set j true) where
 below:=h.below.setCell (h.seen.lt gs rfl).1 _
 todo:=h.todo.kept (grown_set w gs j _) (by
  rcases Rw.own_apart2 h.seen h.todo (by decide) with e | e
  · exact .inl e
  · exact .inr e)
 seen:=by
  have h1:=(h.seen.stored j (.bool true)).1
  have e : (Rw.row kindT seen).set j (.bool true) = Rw.row kindT (seen.set j true):=by rw [row_bools,row_bools,List.map_set]
  rw [e] at h1
  rw [List.length_set];exact h1
theorem RowsS.push (h : RowsS w0 w v gs todo seen) (t : Nat) (o : Obj) (hv : w'.ownsRow w0.heap.size 3 kindI.K v' ((todo.map Int.ofNat).length + 1) (Rw.row kindI (todo.map Int.ofNat ++ [(t : Int)]))) (hg : (w.alloc o).grownBy w' v.ownBlock) : RowsS w0 w' v' gs (todo ++ [t]) seen where
 below:=Rw.own_below (h.todo.alloc o) hg (h.below.alloc h.below.size o) (by have:=h.below.size;simp;omega)
 todo:=by
  rw [List.length_append,List.length_singleton,List.map_append]
  rw [List.length_map] at hv
  exact hv
 seen:=(h.seen.alloc o).kept hg (by
  rcases Rw.own_apart2 h.todo h.seen (by decide) with e | e
  · exact .inl e
  · exact .inr e)
theorem RowsS.at_ (h : RowsS w0 w v gs todo seen) {i s : Nat} (hi : todo[i]? = some s) : ∃ g c,v = .slice (some ⟨g,0,none⟩) todo.length c ∧ w.cell? ⟨g,i,none⟩ = some (.int .i64 (s : Nat)):=by
 have hl:=(List.getElem?_eq_some_iff.1 hi).1
 rcases id h.todo.2 with ⟨_,h0⟩ | ⟨g,cap,cur,e,_⟩
 · omega
 · refine ⟨g,cap,e,?_⟩
   have hown:=h.todo
   rw [e] at hown
   have:=hown.cells (g:=g) rfl i (.int .i64 (s : Nat)) (by rw [ints_of,List.getElem?_map,hi];rfl)
   rwa [add_zero_off] at this
theorem RowsS.bit (h : RowsS w0 w v gs todo seen) {j : Nat} {b : Bool} (hj : seen[j]? = some b) : w.cell? ⟨gs,j,none⟩ = some (.bool b) ∧ w.frozen? ⟨gs,j,none⟩ = false:=by
 have:=h.seen.cells (g:=gs) rfl j (.bool b) (by rw [row_bools,List.getElem?_map,hj];rfl)
 rw [add_zero_off] at this
 exact ⟨this,h.seen.frozenAt j⟩
end
end

section
theorem wpList_push {ops : Array Oper} {rest : List Oper} {o : Oper} {a : Act} {Q : Exit → Act → World → Prop} (hgd : o.guard = none) (s x : Operand)
 (ho : o.op = .call { callee:=.builtin .append,args:=#[s,x],argTypes:=#[56,56] }) {w0 W : World} {v : Value} {gs : Nat} {todo : List Nat} {seen : List Bool} (T g : Nat) (hs : a.eval s = v) (hx : a.eval x = .slice (some ⟨g,0,none⟩) 1 1) (hg : g = W.heap.size)
 (h : RowsS w0 W v gs todo seen) (hb : todo.length ≤ 1000)
 (k : ∀ v' w',RowsS w0 w' v' gs (todo ++ [T]) seen → (W.alloc (.cells #[.int .i64 (T : Nat)] 3)).grownBy w' v.ownBlock → wpList Tryz.prog ops Q rest (a.put o.dst v') w') :
 wpList Tryz.prog ops Q (o :: rest) a (W.alloc (.cells #[.int .i64 (T : Nat)] 3)):=by
 subst hg
 have hlm : (todo.map Int.ofNat).length = todo.length:=List.length_map _
 refine Rw.append_own kindI 3 56 Tryz.underlying56 infoInt rfl hgd s x ho w0.heap.size v todo.length (todo.map Int.ofNat) hs (h.todo.alloc _) _ 1 [(T : Int)] hx (fun e => by cases e) (Rw.Ts.made (κ:=kindI) W [(T : Int)] _) (by unfold maxLen;simp;omega) (by simp;omega) (by have:=h.below.size;simp;omega) ?_
 intro v' w' hv hg
 refine k v' w' (h.push T _ ?_ hg) hg
 rw [hlm];exact hv
end

section
theorem toG_port {g : List Nd} {i : Int} {k n p : Nat} (h : (toG i 0 g)[k]? = some (n,p)) : ∃ x,g[n]? = some x:=by
 obtain ⟨_,x,hx,_⟩:=mem_toG.1 (List.mem_of_getElem? h)
 exact ⟨x,by simpa using hx⟩
set_option maxHeartbeats 16000000 in
theorem refStuck_any (A : Option Addr) (l : List Gn) (c i : Nat) (least : Int) (w : World) (hG : Gr w A l) (hl : l.length ≤ 40) (hi : i < l.length) (hI : ∀ x ∈ nds l,x.ins.length ≤ 40) :
 Calls Tryz.prog 82 #[.slice A l.length c,.int .i64 (i : Nat),.int .i64 least] w fun e w' => e = .returned (.bool (stuckB (nds l) i least)) ∧ Below w.heap.size w w':=by
 obtain ⟨x,hx⟩ : ∃ x,l[i]? = some x:=⟨_,List.getElem?_eq_getElem hi⟩
 have hnx : (nds l)[i]? = some x.nd:=by unfold nds;rw [List.getElem?_map,hx];rfl
 have hiz : (i : Int) < (l.length : Int):=by omega
 obtain ⟨b,o,rfl,hbl,hcl⟩:=hG.at_ hx
 have hst:=refStays_any x.nd.k x.nd.a x.nd.b x.nd.d x.nd.ins x.A x.c least w
 have HG:=Hd hG;have HI:=Hd hI;have HX:=Hd hnx
 obtain ⟨c0,c1,c2,c3,c4⟩:=hcl w (Below.refl _ _)
 have HCL:=Hd hcl
 have hee : (⟨x.nd.k,x.nd.a,x.nd.b,x.nd.d,x.nd.ins⟩ : Nd) = x.nd:=rfl
 rw [hee] at hst
 clear hG hI hnx hcl hx hee
 cases hs : x.nd.stays least with
 | false =>
   rw [hs] at hst
   have HS:=Hd hst
   have HN:=Hd (stuckB_no (g:=nds l) (i:=i) (least:=least) fun h => by
    obtain ⟨y,hy,hys,_⟩:=h
    rw [HX.out] at hy;injection hy with hy;subst hy
    rw [hs] at hys;cases hys)
   clear hst hs
   go_enter Tryz.func82,Tryz.ntmps82
   go_wp2_with fail
   refine HS.out.mono ?_;rintro e w1 ⟨rfl,hb1⟩
   have HB1:=Hd hb1;clear hb1 c0 c1 c2 c3 c4
   dsimp only
   go_wp2_with fail
   go_ret
   exact ⟨retb HN.out,HB1.out⟩
 | true =>
   rw [hs] at hst
   have HS:=Hd hst;have HSX:=Hd hs;clear hst hs
   obtain ⟨i0,hi0,hz0,hz1,hz2⟩:=info_parts infoBool
   have HI0:=Hd hi0;have HZ0:=Hd hz0;have HZ1:=Hd hz1;have HZ2:=Hd hz2;clear hi0 hz0 hz1 hz2
   go_enter Tryz.func82,Tryz.ntmps82
   go_wp2_with fail
   refine HS.out.mono ?_;rintro e w1 ⟨rfl,hb1⟩
   have HB1:=Hd hb1;clear hb1 c0 c1 c2 c3 c4
   dsimp only
   obtain ⟨c0,c1,c2,c3,c4⟩:=HCL.out w1 HB1.out
   have hx3 : ∃ X : Int,x.nd.d = X:=⟨_,rfl⟩
   obtain ⟨X,hX⟩:=hx3
   rw [hX] at c3
   have HX3:=Hd hX;clear hX
   obtain ⟨f0,hf0,hfb⟩ : ∃ f0 : Nat,startN x.nd i least = f0 ∧ f0 < 2 * l.length ∧ f0 = 2 * i + if X = least then 1 else 0:=⟨_,rfl,by unfold startN;split <;> omega,by unfold startN;rw [HX3.out]⟩
   have HF0:=Hd hf0;have HFB:=Hd hfb;clear hf0 hfb
   have hmk:=run_make_full (P:=Tryz.prog) w1 w.heap.size 178 4 i0 _ 1 Tryz.underlying178 HI0.out HZ0.out HZ1.out .i64 .i64 (2 * l.length) (by rw [HZ2.out];omega) (by unfold maxLen;omega) HB1.out.size
   obtain ⟨w2,hr2,ho2,hg2⟩:=hmk
   have hb2:=HB1.out.grown hg2 HB1.out.size (fun _ e => by cases e)
   rw [made_bools] at ho2
   have hrs0 : RowsS w w2 (.slice none 0 0) w1.heap.size [] (List.replicate (2 * l.length) false):=⟨hb2,World.ownsRow_nil _ _ _ _,by rw [List.length_replicate];exact ho2⟩
   rw [show ((2 * l.length : Nat) : Int) = 2 * (l.length : Int) by omega] at hr2
   have HR2:=Hd hr2;have HRS0:=Hd hrs0;clear hr2 ho2 hg2 hb2 hrs0 c0 c1 c2 c3 c4
   obtain ⟨d0,d1,d2,d3,d4⟩:=HCL.out w2 HRS0.out.below
   rw [HX3.out] at d3
   generalize w1.heap.size = gs at *
   go_upto_if 34 with (refine wpList_make_is _ _ 178 rfl rfl _ _ _ rfl rfl HR2.out ?_)
   go_cut [8] from 35 to 36 (fun v wx => v = .int .i64 (f0 : Nat) ∧ wx = w2)
   case first =>
    by_cases hXl : X = least
    · have hXz : (X == least) = true:=by simpa using hXl
      have hf : (2 * (i : Int) + 1) = (f0 : Int):=by have:=HFB.out.2;rw [if_pos hXl] at this;omega
      have HF:=Hd hf;clear hf hXl
      go_wp2_with fail
      go_meet
      exact ⟨by rw [HF.out],rfl⟩
    · have hXz : (X == least) = false:=by simpa using hXl
      have hf : (2 * (i : Int)) = (f0 : Int):=by have:=HFB.out.2;rw [if_neg hXl] at this;omega
      have HF:=Hd hf;clear hf hXl
      go_wp2_with fail
      go_meet
      exact ⟨by rw [HF.out],rfl⟩
   case rest =>
    obtain ⟨rfl,rfl⟩:=hcut
    have hown:=own_base (World.ownsRow_lit (base:=wc.heap.size) (e:=3) (size:=1) wc #[.int .i64 (f0 : Nat)] 1 (Nat.le_refl _) (by decide) rfl) HRS0.out.below.size
    have hrs : RowsS w (wc.alloc (.cells #[.int .i64 (f0 : Nat)] 3)) (.slice (some ⟨wc.heap.size,0,none⟩) 1 1) gs [f0] (List.replicate (2 * l.length) false):=⟨HRS0.out.below.alloc HRS0.out.below.size _,hown,HRS0.out.seen.alloc _⟩
    have hbf:=Bfs.start (nds l) least f0 (2 * i + 1)
    rw [nds_len] at hbf
    have HRS:=Hd hrs;have HBF:=Hd hbf;clear hown hrs hbf HRS0 d0 d1 d2 d3 d4
    go_wp2_with fail
    go_loopw [9,10] (fun v n wx => ∃ (k : Nat) (todo : List Nat) (seen : List Bool),n = .int .i64 k ∧ k ≤ todo.length ∧ Bfs (nds l) least f0 (2 * i + 1) k todo seen ∧ RowsS w wx v gs todo seen) (fun _ n _ => 1 + 2 * l.length - (intOf n).toNat)
    case atStart => exact ⟨0,[f0],_,rfl,by omega,HBF.out,HRS.out⟩
    case round =>
     obtain ⟨wo,rfl⟩ : ∃ wo,wo = wr:=⟨_,rfl⟩
     obtain ⟨k,todo,seen,rfl,hk,hbf,hrs⟩:=hrel
     obtain ⟨g0,cap0,rfl,_⟩:=hrs.at_ hbf.head
     have hbound:=hbf.bound
     rw [nds_len] at hbound
     have HBFS:=Hd hbf;have HRW:=Hd hrs;clear hbf hrs HRS HBF
     by_cases hkl : k < todo.length
     · have hkz : (k : Int) < (todo.length : Int):=by omega
       obtain ⟨s,hs⟩ : ∃ s,todo[k]? = some s:=⟨_,List.getElem?_eq_getElem hkl⟩
       have hs80 : s < 80:=by
        have:=HBFS.out.small (by rw [nds_len];exact HFB.out.1) s (List.mem_of_getElem? hs)
        rw [nds_len] at this;omega
       obtain ⟨_,_,e,q0⟩:=HRW.out.at_ hs
       cases e
       have hin:=HBFS.out.in_ hs
       have hcall:=refTo_any (some ⟨b,o,none⟩) l c ((s : Int) / 2) wo (HG.out.below HRW.out.below) (by omega) HI.out
       have hport : ((s : Int) / 2) = ((s / 2 : Nat) : Int):=by omega
       rw [show toG ((s : Int) / 2) 0 (nds l) = toG ((s / 2 : Nat) : Int) 0 (nds l) by rw [hport]] at hcall
       have hln:=toG_len ((s / 2 : Nat) : Int) 40 (nds l) 0 HI.out
       rw [nds_len] at hln
       have hl1600 : (toG ((s / 2 : Nat) : Int) 0 (nds l)).length ≤ 1600:=by have:=Nat.mul_le_mul_right 40 hl;omega
       have HC:=Hd hcall;have HIN:=Hd hin;clear hcall hport hin hln hs
       generalize hps : toG ((s / 2 : Nat) : Int) 0 (nds l) = ps at *
       have HPS:=Hd hps;clear hps
       go_wp2_with fail
       refine HC.out.mono ?_;rintro e w3 ⟨⟨vp,rfl,hvp⟩,hb3⟩
       obtain ⟨PA,pc,rfl,_,_,_,_,_⟩:=Rw.Ts.of_own hvp
       have HVP:=Hd hvp;have HRW3:=Hd (HRW.out.kept hb3);clear hvp hb3 HC q0
       dsimp only
       go_wp2_with fail
       go_loopw [9,12] (fun v n wx => ∃ (q : Nat) (todo : List Nat) (seen : List Bool),n = .int .i64 q ∧ q ≤ ps.length ∧ BfsIn (nds l) least f0 (2 * i + 1) k todo seen s q ∧ RowsS w wx v gs todo seen ∧ wx.ownsRow wo.heap.size 181 kindP.K (.slice PA ps.length pc) ps.length (Rw.row kindP ps)) (fun _ n _ => ps.length - (intOf n).toNat)
       case atStart => exact ⟨0,todo,seen,rfl,by omega,HIN.out,HRW3.out,HVP.out⟩
       case round =>
        obtain ⟨wi,rfl⟩ : ∃ wi,wi = wr:=⟨_,rfl⟩
        obtain ⟨q,todo',seen',rfl,hq,hbf,hrs,hvp⟩:=hrel
        clear HRW3 HIN HVP
        obtain ⟨g1,cap1,rfl,q1⟩:=hrs.at_ hbf.cur
        have hkl' : k < todo'.length:=(List.getElem?_eq_some_iff.1 hbf.cur).1
        have hkz' : (k : Int) < (todo'.length : Int):=by omega
        have hbound':=hbf.base.bound
        rw [nds_len] at hbound'
        by_cases hql : q < ps.length
        · have hqz : (q : Int) < (ps.length : Int):=by omega
          obtain ⟨⟨n,p⟩,hnp⟩ : ∃ np,ps[q]? = some np:=⟨_,List.getElem?_eq_getElem hql⟩
          obtain ⟨pg,rfl⟩ : ∃ pg,PA = some ⟨pg,0,none⟩:=by
           rcases hvp.2 with ⟨_,h0⟩ | ⟨g,cap,cur,e,_⟩
           · omega
           · injection e with e;exact ⟨g,e⟩
          have hcp:=hvp.cells (g:=pg) rfl (q * 2) (.int .i64 (n : Nat)) (by have:=Rw.row_at (κ:=kindP) ps q (n,p) hnp 0 _ rfl;simpa [kindP] using this)
          rw [add_zero_off] at hcp
          have hport : (toG ((s / 2 : Nat) : Int) 0 (nds l))[q]? = some (n,p):=by rw [HPS.out];exact hnp
          obtain ⟨yn,hyn⟩:=toG_port hport
          obtain ⟨y,hy,rfl⟩ : ∃ y,l[n]? = some y ∧ y.nd = yn:=by
           unfold nds at hyn
           rw [List.getElem?_map,Option.map_eq_some_iff] at hyn
           exact hyn
          have hnl : n < l.length:=(List.getElem?_eq_some_iff.1 hy).1
          have hnz : (n : Int) < (l.length : Int):=by omega
          obtain ⟨b',o',e,_,hcl⟩:=HG.out.at_ hy
          cases e
          obtain ⟨c0,c1,c2,c3,c4⟩:=hcl wi hrs.below
          have hst:=refStays_any y.nd.k y.nd.a y.nd.b y.nd.d y.nd.ins y.A y.c least wi
          have hee : (⟨y.nd.k,y.nd.a,y.nd.b,y.nd.d,y.nd.ins⟩ : Nd) = y.nd:=rfl
          rw [hee] at hst
          have HPO:=Hd hport;have HYN:=Hd hyn;have HBI:=Hd hbf;have HRI:=Hd hrs;have HVP:=Hd hvp;have HCY:=Hd hcl
          clear hport hyn hbf hrs hvp hnp hy hcl hee
          cases hs : y.nd.stays least with
          | false =>
            rw [hs] at hst
            have HST:=Hd hst;have HSK:=Hd (HBI.out.skip HPO.out HYN.out hs);clear hst hs
            go_wp2_with fail
            refine HST.out.mono ?_;rintro e w4 ⟨rfl,hb4⟩
            have HRK:=Hd (HRI.out.kept hb4);have HVK:=Hd (Rw.own_kept HVP.out hb4);clear hb4 c0 c1 c2 c3 c4 hcp q1
            dsimp only
            go_wp2_with fail
            go_roundw
            case rel => exact ⟨q + 1,todo',seen',by simp,by omega,HSK.out,HRK.out,HVK.out⟩
            case measure => simp only [intOf];omega
          | true =>
            rw [hs] at hst
            have HST:=Hd hst;have HSY:=Hd hs;clear hst hs
            go_wp2_with fail
            refine HST.out.mono ?_;rintro e w4 ⟨rfl,hb4⟩
            have hrk:=HRI.out.kept hb4
            have hvk:=Rw.own_kept HVP.out hb4
            clear c0 c1 c2 c3 c4 hcp q1
            obtain ⟨_,_,e,q1⟩:=hrk.at_ HBI.out.cur
            cases e
            obtain ⟨c0,c1,c2,c3,c4⟩:=HCY.out w4 hrk.below
            obtain ⟨T,hT⟩ : ∃ T,nextC least s n y.nd = T:=⟨_,rfl⟩
            have hT2 : T = 2 * n + if y.nd.d = least then 1 else s % 2:=by rw [← hT];rfl
            generalize hY : y.nd.d = Y at *
            have hT80 : T < 2 * l.length:=by rw [hT2];split <;> omega
            have HT:=Hd hT;have HT2:=Hd hT2;have HRK:=Hd hrk;have HVK:=Hd hvk;have HY:=Hd hY
            clear hT hT2 hrk hvk hb4 hY
            dsimp only
            go_upto_if 84 with fail
            go_cut [14] from 85 to 87 (fun v wx => v = .int .i64 (T : Nat) ∧ wx = w4)
            case first =>
             by_cases hYl : Y = least
             · have hYz : (Y == least) = true:=by simpa using hYl
               have hf : (2 * (n : Int) + 1) = (T : Int):=by have:=HT2.out;rw [if_pos hYl] at this;omega
               have HF:=Hd hf;clear hf hYl
               go_wp2_with fail
               go_meet
               exact ⟨by rw [HF.out],rfl⟩
             · have hYz : (Y == least) = false:=by simpa using hYl
               have hf : (2 * (n : Int) + (s : Int) % 2) = (T : Int):=by have:=HT2.out;rw [if_neg hYl] at this;omega
               have HF:=Hd hf;clear hf hYl
               go_wp2_with fail
               go_meet
               exact ⟨by rw [HF.out],rfl⟩
            case rest =>
             obtain ⟨rfl,rfl⟩:=hcut
             clear c0 c1 c2 c3 c4 q1
             by_cases htg : T = 2 * i + 1
             · have htz : ((T : Int) == 2 * (i : Int) + 1) = true:=by simp;omega
               have HN : Hid (true = stuckB (nds l) i least):=Hd (stuckB_iff.2 ⟨x.nd,HX.out,HSX.out,by
                have h1:=HBI.out.step HPO.out HYN.out HSY.out
                rw [HT.out,htg] at h1
                rw [HF0.out];exact h1⟩).symm
               clear htg
               go_wp2_with fail
               go_ret
               exact ⟨retb HN.out,HRK.out.below⟩
             · have htz : ((T : Int) == 2 * (i : Int) + 1) = false:=by simp;omega
               have hlen : seen'.length = 2 * l.length:=by have:=HBI.out.base.len;rw [nds_len] at this;exact this
               obtain ⟨bt,hbt⟩ : ∃ bt,seen'[T]? = some bt:=⟨_,List.getElem?_eq_getElem (by omega)⟩
               have hTz : (T : Int) < 2 * (l.length : Int):=by omega
               obtain ⟨e1,e2⟩:=HRK.out.bit hbt
               have HTG:=Hd htg;have HLEN:=Hd hlen;clear htg hlen
               cases bt with
               | true =>
                 have HOLD:=Hd (HBI.out.old HPO.out HYN.out (by rw [HT.out];exact HTG.out) (by rw [HT.out];exact hbt))
                 clear hbt
                 go_wp2_with fail
                 go_roundw
                 case rel => exact ⟨q + 1,todo',seen',by simp,by omega,HOLD.out,HRK.out,HVK.out⟩
                 case measure => simp only [intOf];omega
               | false =>
                 have HPU:=Hd (HBI.out.push HPO.out HYN.out HSY.out (by rw [HT.out];exact HTG.out) (by rw [HT.out];exact hbt))
                 have hmk:=HRK.out.mark T (by rw [HLEN.out];omega)
                 have hvm : (wc.setCell ⟨gs,T,none⟩ (.bool true)).ownsRow wo.heap.size 181 kindP.K (.slice (some ⟨pg,0,none⟩) ps.length pc) ps.length (Rw.row kindP ps):=HVK.out.kept (grown_set _ _ _ _) (by
                  rcases Rw.own_apart2 HRK.out.seen HVK.out (by decide) with e | e
                  · exact .inl e
                  · exact .inr e)
                 have HMK:=Hd hmk;have HVM:=Hd hvm;clear hbt hmk hvm
                 go_upto_region 24 with fail
                 generalize (wc.setCell ⟨gs,T,none⟩ (Value.bool true)) = wm at *
                 clear e1 e2
                 go_wp2_with (at_builtin;refine wpList_push rfl _ _ rfl T _ rfl rfl rfl HMK.out (by omega) ?_;intro v5 w5 hpu hg5;have hvn:=(HVM.out.alloc _).kept hg5 (Rw.own_apart2 HMK.out.todo HVM.out (by decide));have HPR:=Hd hpu;have HVN:=Hd hvn;clear hpu hvn hg5)
                 go_roundw
                 case rel =>
                  refine ⟨q + 1,todo' ++ [T],seen'.set T true,by simp,by omega,?_,HPR.out,HVN.out⟩
                  have h:=HPU.out
                  rw [HT.out] at h
                  exact h
                 case measure => simp only [intOf];omega
        · have hqz : ¬ (q : Int) < (ps.length : Int):=by omega
          have HEN:=Hd (hbf.ends (by rw [HPS.out];omega));have HRI:=Hd hrs;clear hbf hrs hvp
          go_wp2_with fail
          go_roundw
          case rel => exact ⟨k + 1,todo',seen',by simp,by omega,HEN.out,HRI.out⟩
          case measure => simp only [intOf];omega
     · have hkz : ¬ (k : Int) < (todo.length : Int):=by omega
       have HN:=Hd (stuckB_no (g:=nds l) (i:=i) (least:=least) fun h => by
        obtain ⟨y,hy,_,hr⟩:=h
        rw [HX.out] at hy;injection hy with hy;subst hy
        rw [HF0.out] at hr
        exact HBFS.out.no (by omega) hr)
       go_wp2_with fail
       go_ret
       exact ⟨retb HN.out,HRW.out.below⟩
end

section
theorem putE_may {g : List Nd} (h : putE g = 0) : GMay g:=by
 unfold putE at h
 split at h
 · cases h
 · split at h
   · exact mayB_iff.1 ‹_›
   · cases h
def ChkD (g : List Nd) (w : World) (e : Ending) (w' : World) : Prop:=e = .returned (.tuple #[.int .i64 (checkR g).1,.int .i64 (checkR g).2]) ∧ Below w.heap.size w w'
theorem ChkD.mk {g : List Nd} {w w' : World} {a b : Int} (h : checkR g = (a,b)) (hb : Below w.heap.size w w') : ChkD g w (.returned (.tuple #[.int .i64 a,.int .i64 b])) w':=by unfold ChkD;rw [h];exact ⟨rfl,hb⟩
set_option maxHeartbeats 16000000 in
theorem refCheck_any (A : Option Addr) (l : List Gn) (c : Nat) (w : World) (hG : Gr w A l) (hl : l.length ≤ maxLen) :
 Calls Tryz.prog 34 #[.slice A l.length c] w (ChkD (nds l) w):=by
 have HML:=Hd hl
 unfold maxLen at hl
 have CP:=Hd (refPut_any A l c w hG HML.out)
 have HG:=Hd hG;clear hG
 have cp:=CP.out
 unfold PutD at cp
 by_cases hp : putE (nds l) = 0
 · rw [hp] at cp
   have HCP:=Hd cp
   have hmay:=putE_may hp
   have hl32 : l.length ≤ 32:=by have:=hmay.1.2;rw [nds_len] at this;exact this
   have hins : ∀ x ∈ nds l,x.ins.length ≤ 40:=fun x hx => by have:=(hmay.2 x hx).2.1;omega
   have hdep : ∀ (j : Nat) (x : Gn),l[j]? = some x → 0 ≤ x.nd.d ∧ x.nd.d ≤ 3:=fun j x hx => (hmay.2 x.nd (List.mem_map.2 ⟨x,List.mem_of_getElem? hx,rfl⟩)).1
   have HP:=Hd hp;have HINS:=Hd hins;have HDEP:=Hd hdep;clear cp hp hmay hins hdep CP
   go_enter Tryz.func34,Tryz.ntmps34
   go_wp2_with fail
   refine HCP.out.mono ?_;rintro e w1 ⟨⟨v,rfl,_⟩,hb1⟩
   have HB1:=Hd hb1;clear hb1 HCP
   dsimp only
   go_wp2_with fail
   go_loopw [6] (fun n wx => ∃ k : Nat,n = .int .i64 k ∧ k ≤ l.length ∧ Below w.heap.size w wx ∧ ∀ j : Nat,j < k → nodeE (nds l) j = 0) (fun n _ => l.length - (intOf n).toNat)
   case atStart => exact ⟨0,rfl,by omega,HB1.out,fun j h => absurd h (by omega)⟩
   case round =>
    obtain ⟨wo,rfl⟩ : ∃ wo,wo = wr:=⟨_,rfl⟩
    obtain ⟨k,rfl,hk,hb,hall⟩:=hrel
    have HB:=Hd hb;have HA:=Hd hall;clear hb hall HB1
    by_cases hkl : k < l.length
    · have hkz : (k : Int) < (l.length : Int):=by omega
      have hcall:=refNode_any A l c (k : Int) wo (HG.out.below HB.out) HML.out
      by_cases he : nodeE (nds l) (k : Nat) = 0
      · rw [he] at hcall
        have HC:=Hd hcall;have HE:=Hd he;clear hcall he
        go_wp2_with fail
        refine HC.out.mono ?_;rintro e w2 ⟨rfl,hb2⟩
        have HB2:=Hd (HB.out.trans (hb2.mono HB.out.size));clear hb2
        dsimp only
        go_wp2_with fail
        go_roundw
        case rel =>
         refine ⟨k + 1,by simp,by omega,HB2.out,fun j hj => ?_⟩
         by_cases e : j = k
         · subst e;exact HE.out
         · exact HA.out j (by omega)
        case measure => simp only [intOf];omega
      · have HN:=Hd (checkR_node HP.out (by rw [nds_len];exact hkl) he HA.out)
        have hez : (nodeE (nds l) (k : Nat) != 0) = true:=by simpa using he
        generalize nodeE (nds l) (k : Nat) = E at *
        have HC:=Hd hcall;clear hcall he
        go_wp2_with fail
        refine HC.out.mono ?_;rintro e w2 ⟨rfl,hb2⟩
        have HB2:=Hd (HB.out.trans (hb2.mono HB.out.size));clear hb2
        dsimp only
        go_wp2_with fail
        go_ret2
        exact ChkD.mk HN.out HB2.out
    · have hkz : ¬ (k : Int) < (l.length : Int):=by omega
      have HAL : Hid (∀ j : Nat,j < (nds l).length → nodeE (nds l) j = 0):=Hd fun j hj => HA.out j (by rw [nds_len] at hj;omega)
      clear HA
      go_wp2_with fail
      go_loopw [8] (fun n wx => ∃ k : Nat,n = .int .i64 k ∧ k ≤ l.length ∧ Below w.heap.size w wx ∧ ∀ j : Nat,j < k → ¬ BadAt (nds l) j) (fun n _ => l.length - (intOf n).toNat)
      case atStart => exact ⟨0,rfl,by omega,HB.out,fun j h => absurd h (by omega)⟩
      case round =>
       obtain ⟨wi,rfl⟩ : ∃ wi,wi = wr:=⟨_,rfl⟩
       obtain ⟨m,rfl,hm,hb,hall⟩:=hrel
       have HBI:=Hd hb;have HA:=Hd hall;clear hb hall HB
       by_cases hml : m < l.length
       · have hmz : (m : Int) < (l.length : Int):=by omega
         obtain ⟨x,hx⟩ : ∃ x,l[m]? = some x:=⟨_,List.getElem?_eq_getElem hml⟩
         have hxn : (nds l)[m]? = some x.nd:=by unfold nds;rw [List.getElem?_map,hx];rfl
         obtain ⟨hd0,hd3⟩:=HDEP.out m x hx
         obtain ⟨b,o,rfl,hbl,hcl⟩:=HG.out.at_ hx
         obtain ⟨X,hX⟩ : ∃ X,x.nd.d = X:=⟨_,rfl⟩
         rw [hX] at hd0 hd3
         have HXN:=Hd hxn;have HX:=Hd hX;have HCL:=Hd hcl;clear hx hxn hcl hX
         go_wp2_with fail
         go_loopw [9] (fun n wx => ∃ d : Nat,n = .int .i64 d ∧ (d : Int) ≤ X + 1 ∧ Below w.heap.size w wx ∧ ∀ e : Nat,e < d → ¬ Stuck (nds l) m e) (fun n _ => 4 - (intOf n).toNat)
         case atStart => exact ⟨0,rfl,by omega,HBI.out,fun j h => absurd h (by omega)⟩
         case round =>
          obtain ⟨wj,rfl⟩ : ∃ wj,wj = wr:=⟨_,rfl⟩
          obtain ⟨d,rfl,hd,hb,hno⟩:=hrel
          have HBJ:=Hd hb;have HNO:=Hd hno;clear hb hno HBI
          obtain ⟨_,_,_,c3,_⟩:=HCL.out wj HBJ.out
          rw [HX.out] at c3
          by_cases hdX : (d : Int) ≤ X
          · have hcall:=refStuck_any (some ⟨b,o,none⟩) l c m (d : Int) wj (HG.out.below HBJ.out) (by omega) hml HINS.out
            cases hs : stuckB (nds l) m (d : Int) with
            | true =>
              rw [hs] at hcall
              have HC:=Hd hcall
              have HN:=Hd (checkR_bad HP.out HAL.out (by rw [nds_len];exact hml) ⟨x.nd,HXN.out,(d : Int),by omega,by rw [HX.out];exact hdX,stuckB_iff.1 hs⟩ HA.out)
              clear hcall hs
              go_wp2_with fail
              refine HC.out.mono ?_;rintro e w2 ⟨rfl,hb2⟩
              have HB2:=Hd (HBJ.out.trans (hb2.mono HBJ.out.size));clear hb2 c3
              dsimp only
              go_wp2_with fail
              go_ret2
              exact ChkD.mk HN.out HB2.out
            | false =>
              rw [hs] at hcall
              have HC:=Hd hcall
              have hns : ¬ Stuck (nds l) m (d : Int):=fun h => by rw [stuckB_iff.2 h] at hs;cases hs
              have HNS:=Hd hns
              clear hcall hs hns
              go_wp2_with fail
              refine HC.out.mono ?_;rintro e w2 ⟨rfl,hb2⟩
              have HB2:=Hd (HBJ.out.trans (hb2.mono HBJ.out.size));clear hb2 c3
              dsimp only
              go_wp2_with fail
              go_roundw
              case rel =>
               refine ⟨d + 1,by simp,by omega,HB2.out,fun e he => ?_⟩
               by_cases ee : e = d
               · subst ee;exact HNS.out
               · exact HNO.out e (by omega)
              case measure => simp only [intOf];omega
          · have HNB : Hid (¬ BadAt (nds l) m):=Hd fun h => by
             obtain ⟨y,hy,least,h0,h1,hst⟩:=h
             rw [HXN.out] at hy;injection hy with hy;subst hy
             obtain ⟨e,rfl⟩ : ∃ e : Nat,least = (e : Int):=Int.eq_ofNat_of_zero_le h0
             rw [HX.out] at h1
             exact HNO.out e (by omega) hst
            go_wp2_with fail
            go_roundw
            case rel =>
             refine ⟨m + 1,by simp,by omega,HBJ.out,fun j hj => ?_⟩
             by_cases e : j = m
             · subst e;exact HNB.out
             · exact HA.out j (by omega)
            case measure => simp only [intOf];omega
       · have hmz : ¬ (m : Int) < (l.length : Int):=by omega
         have hN:=checkR_ok HP.out HAL.out (fun j hj => HA.out j (by rw [nds_len] at hj;omega))
         rw [nds_len] at hN
         have HN:=Hd hN;clear hN
         go_wp2_with fail
         go_ret2
         exact ChkD.mk HN.out HBI.out
 · have HN:=Hd (checkR_put hp)
   have hpz : (putE (nds l) != 0) = true:=by simpa using hp
   generalize putE (nds l) = E at *
   have HCP:=Hd cp;clear cp hp CP
   go_enter Tryz.func34,Tryz.ntmps34
   go_wp2_with fail
   refine HCP.out.mono ?_;rintro e w1 ⟨⟨v,rfl,_⟩,hb1⟩
   have HB1:=Hd hb1;clear hb1 HCP
   dsimp only
   go_wp2_with fail
   go_ret2
   exact ChkD.mk HN.out HB1.out
end

section
set_option maxHeartbeats 16000000 in
theorem chkCheck_any (A : Option Addr) (l : List Gn) (c : Nat) (w : World) (hT : Tab w) (hG : Gr w A l) (hl : l.length ≤ 40) (hi : ∀ x ∈ nds l,x.ins.length ≤ 40) (hc : l.length ≤ c ∧ c ≤ maxLen) :
 Calls Tryz.prog 51 #[.slice A l.length c] w (ChkD (nds l) w):=by
 have HML : Hid (l.length ≤ maxLen):=Hd (by unfold maxLen;omega)
 have CP:=Hd (flowPut_any A l c w hG HML.out)
 have HG:=Hd hG;have HT:=Hd hT;clear hG hT hi hc
 have cp:=CP.out
 unfold PutD at cp
 by_cases hp : putE (nds l) = 0
 · rw [hp] at cp
   have HCP:=Hd cp
   have hmay:=putE_may hp
   have hl32 : l.length ≤ 32:=by have:=hmay.1.2;rw [nds_len] at this;exact this
   have hdep : ∀ x ∈ nds l,0 ≤ x.d ∧ x.d ≤ 3:=fun x hx => (hmay.2 x hx).1
   have HP:=Hd hp;have HDEP:=Hd hdep;have HL32:=Hd hl32;clear cp hp hmay hdep hl32 CP
   go_enter Tryz.func51,Tryz.ntmps51
   go_wp2_with fail
   refine HCP.out.mono ?_;rintro e w1 ⟨⟨v,rfl,_⟩,hb1⟩
   have HB1:=Hd hb1;clear hb1 HCP
   dsimp only
   have hnum:=numbers_any w1
   have HNUM:=Hd hnum;clear hnum
   go_wp2_with fail
   refine HNUM.out.mono ?_;rintro e w2 ⟨⟨m,rfl,hR⟩,hb2⟩
   have HB2:=Hd (HB1.out.trans (hb2.mono HB1.out.size));have HR2:=Hd hR;clear hb2 hR HNUM HB1
   dsimp only
   go_wp2_with fail
   go_loopw [21] (fun n wx => ∃ k : Nat,n = .int .i64 k ∧ k ≤ l.length ∧ Below w.heap.size w wx ∧ Rules wx m ∧ ∀ j : Nat,j < k → nodeE (nds l) j = 0) (fun n _ => l.length - (intOf n).toNat)
   case atStart => exact ⟨0,rfl,by omega,HB2.out,HR2.out,fun j h => absurd h (by omega)⟩
   case round =>
    obtain ⟨wo,rfl⟩ : ∃ wo,wo = wr:=⟨_,rfl⟩
    obtain ⟨k,rfl,hk,hb,hR,hall⟩:=hrel
    have HB:=Hd hb;have HR:=Hd hR;have HA:=Hd hall;clear hb hall hR HB2 HR2
    by_cases hkl : k < l.length
    · have hkz : (k : Int) < (l.length : Int):=by omega
      have hcall:=fault_any A l c m (k : Int) wo (HG.out.below HB.out) HML.out HR.out
      by_cases he : nodeE (nds l) (k : Nat) = 0
      · rw [he] at hcall
        have HC:=Hd hcall;have HE:=Hd he;clear hcall he
        go_wp2_with fail
        refine HC.out.mono ?_;rintro e w2 ⟨rfl,hb2⟩
        have HB2:=Hd (HB.out.trans (hb2.mono HB.out.size));have HR2:=Hd (HR.out.below hb2);clear hb2
        dsimp only
        go_wp2_with fail
        go_roundw
        case rel =>
         refine ⟨k + 1,by simp,by omega,HB2.out,HR2.out,fun j hj => ?_⟩
         by_cases e : j = k
         · subst e;exact HE.out
         · exact HA.out j (by omega)
        case measure => simp only [intOf];omega
      · have HN:=Hd (checkR_node HP.out (by rw [nds_len];exact hkl) he HA.out)
        have hez : (nodeE (nds l) (k : Nat) != 0) = true:=by simpa using he
        generalize nodeE (nds l) (k : Nat) = E at *
        have HC:=Hd hcall;clear hcall he
        go_wp2_with fail
        refine HC.out.mono ?_;rintro e w2 ⟨rfl,hb2⟩
        have HB2:=Hd (HB.out.trans (hb2.mono HB.out.size));clear hb2
        dsimp only
        go_wp2_with fail
        go_ret2
        exact ChkD.mk HN.out HB2.out
    · have hkz : ¬ (k : Int) < (l.length : Int):=by omega
      have hal : ∀ j : Nat,j < (nds l).length → nodeE (nds l) j = 0:=fun j hj => HA.out j (by rw [nds_len] at hj;omega)
      have hpo : ∀ x ∈ nds l,∀ z ∈ x.ins,portOk (nds l) z:=fun x hx => by
       obtain ⟨j,hj⟩:=List.getElem?_of_mem hx
       have h:=hal j (List.getElem?_eq_some_iff.1 hj).1
       rw [nodeE_at hj] at h
       exact (err_zero h).2.1.1
      have hcall:=stuck_any A l c wo (HG.out.below HB.out) HL32.out hpo
      have HC:=Hd hcall;have HAL:=Hd hal;clear HA hal hpo hcall
      go_wp2_with fail
      refine HC.out.mono ?_;rintro e w2 ⟨⟨s,rfl,hs⟩,hb2⟩
      have HS : Hid (SetIs s (BadAt (nds l))):=Hd (hs.congr fun j => (bad_iff HDEP.out).symm)
      have HB2:=Hd (HB.out.trans (hb2.mono HB.out.size));clear hb2 hs HC
      dsimp only
      by_cases h0 : s = 0
      · subst h0
        have HN:=Hd (checkR_ok HP.out HAL.out fun j _ h => by have:=(HS.out.2 j).2 h;simp at this)
        rw [nds_len] at HN
        go_wp2_with fail
        go_ret2
        exact ChkD.mk HN.out HB2.out
      · have hsz : (((s : Nat) : Int) != 0) = true:=by simp;omega
        have hlow:=pcLow_any s w2 h0 HS.out.1 (HT.out.below HB2.out)
        have HLOW:=Hd hlow;clear hlow h0
        go_wp2_with fail
        refine HLOW.out.mono ?_;rintro e w3 ⟨i,rfl,rfl,hi,hbit,hno⟩
        have hbad:=(HS.out.2 i).1 hbit
        have hlt : i < (nds l).length:=by
         obtain ⟨x,hx,_⟩:=hbad
         exact (List.getElem?_eq_some_iff.1 hx).1
        have HN:=Hd (checkR_bad HP.out HAL.out hlt hbad fun j hj h => by have:=(HS.out.2 j).2 h;rw [hno j hj] at this;cases this)
        clear hbad hlt hbit hno hi
        dsimp only
        go_wp2_with fail
        go_ret2
        exact ChkD.mk HN.out HB2.out
 · have HN:=Hd (checkR_put hp)
   have hpz : (putE (nds l) != 0) = true:=by simpa using hp
   generalize putE (nds l) = E at *
   have HC:=Hd cp;clear cp hp CP
   go_enter Tryz.func51,Tryz.ntmps51
   go_wp2_with fail
   refine HC.out.mono ?_;rintro e w1 ⟨⟨v,rfl,_⟩,hb1⟩
   have HB1:=Hd hb1;clear hb1 HC
   dsimp only
   go_wp2_with fail
   go_ret2
   exact ChkD.mk HN.out HB1.out
end

section
def fanC : Option Sl → List Value
 | none => [.int .u32 0,.int .i32 0,.int .u32 0,.int .u32 0,.slice none 0 0]
 | some s => [.int .u32 1,.int .i32 0,.int .u32 0,.int .u32 1,s.v]
def kindF : Kind (Option Sl):=⟨fanC,5,fun t => by cases t <;> rfl,fun t u hu => by
 cases t <;> simp only [fanC,List.mem_cons,List.not_mem_nil,or_false] at hu <;> rcases hu with rfl | rfl | rfl | rfl | rfl <;> rfl,by decide⟩
theorem infoFan : (Tryz.prog.info? 195).map (fun i => (i.zero,i.size,i.bytes)) = some (some (.agg #[.int .u32 0,.int .i32 0,.int .u32 0,.int .u32 0,.slice none 0 0]),5,40):=by kernel_rfl
theorem made_fans (n : Nat) : (madeCells (Value.agg #[.int .u32 0,.int .i32 0,.int .u32 0,.int .u32 0,.slice none 0 0]).cells (n * 5)).toList = Rw.row kindF (List.replicate n none):=by
 have hz : (Value.agg #[.int .u32 0,.int .i32 0,.int .u32 0,.int .u32 0,.slice none 0 0]).cells = #[.int .u32 0,.int .i32 0,.int .u32 0,.int .u32 0,.slice none 0 0]:=rfl
 rw [hz]
 apply List.ext_getElem?
 intro j
 by_cases hj : j < n * 5
 · have hr : (List.replicate n (none : Option Sl))[j / 5]? = some none:=by rw [List.getElem?_replicate,if_pos (by omega)]
   have hrow:=fun u hu => Rw.row_at (κ:=kindF) (List.replicate n none) (j / 5) none hr (j % 5) u hu
   rw [show j / 5 * kindF.K + j % 5 = j by show j / 5 * 5 + j % 5 = j;omega] at hrow
   have h5 : j % 5 = 0 ∨ j % 5 = 1 ∨ j % 5 = 2 ∨ j % 5 = 3 ∨ j % 5 = 4:=by omega
   rcases h5 with h | h | h | h | h <;> rw [h] at hrow <;> rw [hrow _ rfl] <;> simp [madeCells,hj,h]
 · rw [List.getElem?_eq_none (by simp [madeCells];omega),List.getElem?_eq_none (by rw [Rw.row_len,List.length_replicate];exact Nat.le_of_not_lt hj)]
def RowsAt (w : World) (base : Nat) (g : List Nd) (k : Nat) (s : Sl) : Prop:=∃ B T D vs,s = ⟨some ⟨B,0,none⟩,g.length,g.length⟩ ∧ TT w base B vs T ∧ Run g k T D []
structure Pth (w : World) (base p F : Nat) (A : Option Addr) (c : Nat) (lg : List Gn) (fs : List (Option Sl)) : Prop where
 row : Row w p 96 [.slice A lg.length c,.slice (some ⟨F,0,none⟩) lg.length lg.length]
 graph : OwnG w base (.slice A lg.length c) lg
 fans : Row w F 195 (Rw.row kindF fs)
 len : fs.length = lg.length
 lo : base ≤ p ∧ base ≤ F
 known : ∀ (k : Nat) (s : Sl),fs[k]? = some (some s) → RowsAt w base (nds lg) k s
def Stays (base : Nat) (w w' : World) : Prop:=w.heap.size ≤ w'.heap.size ∧ ∀ k,base ≤ k → k < w.heap.size → w'.heap[k]? = w.heap[k]?
section
variable {w w' : World} {base p F : Nat} {A : Option Addr} {c : Nat} {lg : List Gn} {fs : List (Option Sl)}
theorem Stays.of_below (h : Below w.heap.size w w') : Stays base w w':=⟨h.size,fun k _ hk => h.block k hk⟩
theorem Stays.far {blk j : Nat} {u : Value} (hb : blk < base) : Stays base w (w.setCell ⟨blk,j,none⟩ u):=⟨by simp [World.setCell],fun k hk _ => Below.heap_setCell w ⟨blk,j,none⟩ u k (by show k ≠ blk;omega)⟩
theorem row_stays {b : Nat} {t : TypeId} {l : List Value} (h : Row w b t l) (hs : Stays base w w') (hb : base ≤ b) : Row w' b t l:=(hs.2 b hb h.lt).trans h
theorem own_stays {base' n K : Nat} {T : TypeId} {v : Value} {xs : List Value} (h : w.ownsRow base' T K v n xs) (hs : Stays base w w') (hb : base ≤ base') : w'.ownsRow base' T K v n xs:=by
 have hlt:=h.lt
 obtain ⟨hl,h | ⟨g,cap,cur,rfl,hg,hh,h1⟩⟩:=h
 · exact ⟨hl,.inl h⟩
 · exact ⟨hl,.inr ⟨g,cap,cur,rfl,hg,(hs.2 g (by omega) (hlt g rfl).2).trans hh,h1⟩⟩
theorem tt_stays {B : Nat} {vs : List Sl} {T : List (List Sm)} (h : TT w base B vs T) (hs : Stays base w w') : TT w' base B vs T :=
 ⟨row_stays h.row hs h.lo,h.lo,h.len,fun j s l hv hl => own_stays (h.own j s l hv hl) hs (Nat.le_refl _),h.apart⟩
theorem RowsAt.stays {g : List Nd} {k : Nat} {s : Sl} (h : RowsAt w base g k s) (hs : Stays base w w') : RowsAt w' base g k s:=by
 obtain ⟨B,T,D,vs,e,ht,hr⟩:=h
 exact ⟨B,T,D,vs,e,tt_stays ht hs,hr⟩
theorem Pth.stays (h : Pth w base p F A c lg fs) (hs : Stays base w w') : Pth w' base p F A c lg fs :=
 ⟨row_stays h.row hs h.lo.1,⟨own_stays h.graph.row hs (Nat.le_refl _),h.graph.ok,fun x hx => own_stays (h.graph.ins x hx) hs (Nat.le_refl _)⟩,row_stays h.fans hs h.lo.2,h.len,h.lo,fun k s hk => (h.known k s hk).stays hs⟩
theorem Pth.below (h : Pth w base p F A c lg fs) (hb : Below w.heap.size w w') : Pth w' base p F A c lg fs:=h.stays (Stays.of_below hb)
end
def NewD (lg : List Gn) (w : World) (e : Ending) (w' : World) : Prop:=(∃ p F A c l',e = .returned (.tuple #[.pointer (some ⟨p,0,none⟩),.int .i64 0]) ∧ nds l' = nds lg ∧ Pth w' w.heap.size p F A c l' (List.replicate lg.length none)) ∧ Below w.heap.size w w'
theorem ownG_mono {w : World} {base base' : Nat} {v : Value} {l : List Gn} (h : OwnG w base v l) (hb : base' ≤ base) : OwnG w base' v l:=⟨own_base h.row hb,h.ok,fun x hx => own_base (h.ins x hx) hb⟩
theorem new_end {w w3 : World} {lg l' : List Gn} {A : Option Addr} {c F p : Nat} (hn : nds l' = nds lg) (ho : OwnG w3 w.heap.size (.slice A l'.length c) l') (hF : Row w3 F 195 (Rw.row kindF (List.replicate lg.length none))) (hlo : w.heap.size ≤ F) (hb3 : Below w.heap.size w w3) (hp : p = w3.heap.size) :
 NewD lg w (.returned (.tuple #[.pointer (some ⟨p,0,none⟩),.int .i64 0])) (w3.alloc (.cells #[.slice A l'.length c,.slice (some ⟨F,0,none⟩) lg.length lg.length] 96)):=by
 subst hp
 have hll : l'.length = lg.length:=by have:=congrArg List.length hn;rwa [nds_len,nds_len] at this
 refine ⟨⟨w3.heap.size,F,A,c,l',rfl,hn,⟨?_,ho.alloc _,hF.alloc _,?_,⟨hb3.size,hlo⟩,fun k s hk => ?_⟩⟩,hb3.alloc hb3.size _⟩
 · rw [hll];exact Row.made w3 _ _
 · rw [List.length_replicate,hll]
 · have:=List.mem_of_getElem? hk
   rw [List.mem_replicate] at this
   cases this.2
set_option maxHeartbeats 8000000 in
theorem new_good (A : Option Addr) (lg : List Gn) (c : Nat) (w : World) (hT : Tab w) (hG : Gr w A lg) (hl : lg.length ≤ 40) (hI : ∀ x ∈ nds lg,x.ins.length ≤ 40) (hc : lg.length ≤ c ∧ c ≤ maxLen) (hn0 : A = none → c = 0) (hE : (checkR (nds lg)).2 = 0) :
 Calls Tryz.prog 14 #[.slice A lg.length c] w (NewD lg w):=by
 have hck:=chkCheck_any A lg c w hT hG hl hI hc
 unfold ChkD at hck
 rw [(checkR_zero hE).2.2.2,nds_len] at hck
 obtain ⟨i0,hi0,hz0,hz1,hz2⟩:=info_parts infoFan
 have hmk : ∀ wz : World,(Instr.makeSlice 94 (.int .i64 (lg.length : Nat)) (.int .i64 (lg.length : Nat))).run Tryz.prog wz = .ok (.slice (some ⟨wz.heap.size,0,none⟩) lg.length lg.length) (wz.alloc (.cells (Rw.row kindF (List.replicate lg.length none)).toArray 195)):=fun wz => by
  have:=run_make (P:=Tryz.prog) wz 94 195 i0 _ Tryz.underlying94 hi0 hz0 .i64 .i64 lg.length lg.length (by omega) (Int.le_refl _) (by rw [hz2];omega) (by omega)
  simp only [Int.toNat_natCast] at this
  rw [this,hz1,← made_fans,Array.toArray_toList]
 have hcp:=fun wz (hz : Below w.heap.size w wz) => copied_any A lg c wz (hG.below hz) (fun e => ⟨hn0 e,List.eq_nil_of_length_eq_zero (by have:=hn0 e;omega)⟩) (by omega) (fun x hx => by have:=hI x.nd (List.mem_map.2 ⟨x,hx,rfl⟩);omega)
 have HC:=Hd hck;have HCP:=Hd hcp;clear hck hE hT hG hI hc hcp hi0 hz0 hz1 hz2
 go_enter Tryz.func14,Tryz.ntmps14
 go_wp2_with fail
 refine HC.out.mono ?_;rintro e w1 ⟨rfl,hb1⟩
 have HB:=Hd hb1;clear hb1 HC
 dsimp only
 go_upto_region 4 with fail
 go_region_with (go_at_call 52;refine (HCP.out _ (by first | exact HB.out.drew | exact (HB.out.alloc HB.out.size _).drew | exact (HB.out.drew).alloc HB.out.size _)).mono ?_;rintro e w3 ⟨⟨v3,l3,rfl,hn3,ho3⟩,hb3⟩;obtain ⟨A3,c3,rfl,_,_,_,_⟩:=ho3.gr)
 all_goals
  have HO3:=Hd (And.intro hn3 (And.intro ho3 hb3));clear hn3 ho3 hb3
  go_wp2_with fail
  go_ret2
  obtain ⟨hn3,ho3,hb3⟩:=HO3.out
  first
   | exact new_end (w3:=w3.alloc (.cells (Rw.row kindF (List.replicate lg.length none)).toArray 195)) hn3 ((ownG_mono ho3 HB.out.size).alloc _) (Row.made _ _ _) (Nat.le_trans HB.out.size hb3.size) ((HB.out.drew.trans (hb3.mono HB.out.size)).alloc (Nat.le_trans HB.out.size hb3.size) _) (by simp)
   | exact new_end hn3 (ownG_mono ho3 (by have:=HB.out.size;simp;omega)) ((Row.made w1.drew 195 (Rw.row kindF (List.replicate lg.length none))).below hb3 (by simp)) HB.out.size ((HB.out.drew.alloc HB.out.size _).trans (hb3.mono (by have:=HB.out.size;simp;omega))) rfl
end

section
theorem once_disable (w : World) : (callFunc 235 #[]).run Tryz.prog w = .ok (.value (.tuple #[])) w:=run_call_mark0 Tryz.func235 (by kernel_rfl) (by kernel_rfl) (by kernel_rfl) .disable (by kernel_rfl) w
theorem once_enable (w : World) : (callFunc 237 #[]).run Tryz.prog w = .ok (.value (.tuple #[])) w:=run_call_mark0 Tryz.func237 (by kernel_rfl) (by kernel_rfl) (by kernel_rfl) .enable (by kernel_rfl) w
theorem once_acquire (a : Addr) (w : World) : (callFunc 238 #[.pointer (some a)]).run Tryz.prog w = .ok (.value (.tuple #[])) w:=run_call_marked Tryz.func238 (by kernel_rfl) (by kernel_rfl) (by kernel_rfl) .acquire (by kernel_rfl) a w
theorem once_release (a : Addr) (w : World) : (callFunc 240 #[.pointer (some a)]).run Tryz.prog w = .ok (.value (.tuple #[])) w:=run_call_marked Tryz.func240 (by kernel_rfl) (by kernel_rfl) (by kernel_rfl) .releaseMerge (by kernel_rfl) a w
theorem flag_load (a : Addr) (x : Int) (v : Bool) (hv : (x != 0) = v) (w : World) (hc : w.cell? a = some (.int .u32 x)) :
 Calls Tryz.prog 141 #[.pointer (some a)] w fun e w' => e = .returned (.bool v) ∧ w' = w:=by
 have hl:=run_call_load (P:=Tryz.prog) Tryz.func176 (by kernel_rfl) (by kernel_rfl) (by kernel_rfl) .u32 (by kernel_rfl) hc
 go_enter Tryz.func141,Tryz.ntmps141
 go_wp2
 first | go_end0 | go_ret
 exact ⟨rfl,rfl⟩
theorem flag_store (a : Addr) (x : Value) (w : World) (hc : w.cell? a = some x) (hz : w.frozen? a = false) :
 Calls Tryz.prog 145 #[.pointer (some a),.bool true] w fun e w' => e = .returned (.tuple #[]) ∧ w' = w.drew.setCell a (.int .u32 1):=by
 have hc' : w.drew.cell? a = some x:=by go_simp
 have hz' : w.drew.frozen? a = false:=by go_simp
 have hst:=run_call_store (P:=Tryz.prog) Tryz.func181 (by kernel_rfl) (by kernel_rfl) (by kernel_rfl) (by kernel_rfl) (k:=.u32) (y:=1) hc' hz'
 go_enter Tryz.func145,Tryz.ntmps145
 go_wp2
 go_region_calls
 all_goals (go_end0;exact ⟨rfl,rfl⟩)
theorem store_deferred (a : Addr) (x : Value) (u : FrameMode) (w : World) (hc : w.cell? a = some x) (hz : w.frozen? a = false) :
 CallsD Tryz.prog 145 #[.pointer (some a),.bool true] u w fun e u' w' => u' = u ∧ (e = .returned (.tuple #[]) ∧ w' = w.drew.setCell a (.int .u32 1)):=by
 have hc' : w.drew.cell? a = some x:=by go_simp
 have hz' : w.drew.frozen? a = false:=by go_simp
 have hst:=run_call_store (P:=Tryz.prog) Tryz.func181 (by kernel_rfl) (by kernel_rfl) (by kernel_rfl) (by kernel_rfl) (k:=.u32) (y:=1) hc' hz'
 go_enter_d Tryz.func145,Tryz.ntmps145
 go_wp2
 go_region_calls
 all_goals (go_end0;exact ⟨rfl,rfl⟩)
theorem unlock_deferred (a : Addr) (u : FrameMode) (w : World) (hc : w.cell? a = some (.int .i32 1)) (hz : w.frozen? a = false) :
 CallsD Tryz.prog 202 #[.pointer (some a)] u w fun e u' w' => u' = u ∧ (e = .returned (.tuple #[]) ∧ w' = w.setCell a (.int .i32 0)):=by
 have hd:=once_disable
 have he:=once_enable
 have hr:=once_release
 have hadd:=run_call_add (P:=Tryz.prog) Tryz.func241 (by kernel_rfl) (by kernel_rfl) (by kernel_rfl) .i32 (by kernel_rfl) (y:=-1) (s:=0) hc hz (by simp [go_sem];rfl)
 have hcv:=run_convert_to_unsafe (P:=Tryz.prog) (src:=269) (dst:=273) Tryz.underlying269 Tryz.underlying273 (by kernel_rfl) hc
 go_enter_d Tryz.func202,Tryz.ntmps202
 go_wp2
 go_end0
 go_wp2
 go_end0
 exact ⟨rfl,rfl⟩
theorem lock_free (a : Addr) (w : World) (hc : w.cell? a = some (.int .i32 0)) (hz : w.frozen? a = false) :
 Calls Tryz.prog 201 #[.pointer (some a)] w fun e w' => e = .returned (.tuple #[]) ∧ w' = w.setCell a (.int .i32 1):=by
 have hd:=once_disable
 have he:=once_enable
 have ha:=once_acquire
 have hcas:=run_call_cas_hit (P:=Tryz.prog) Tryz.func236 (by kernel_rfl) (by kernel_rfl) (by kernel_rfl) .i32 (by kernel_rfl) (y:=1) hc hz
 have hc' : (w.setCell a (.int .i32 1)).cell? a = some (.int .i32 1):=World.cell?_setCell_same w a _ hc
 have hcv:=run_convert_to_unsafe (P:=Tryz.prog) (src:=269) (dst:=273) Tryz.underlying269 Tryz.underlying273 (by kernel_rfl) hc'
 go_enter Tryz.func201,Tryz.ntmps201
 go_wp2
 first | go_end0 | (simp only [Exit.inBlock,Exit.then];refine bodyPost_ret (results_none rfl _ _ _) rfl ?_) | refine bodyPost_ret (results_none rfl _ _ _) rfl ?_
 go_wp2
 go_end0
 exact ⟨rfl,rfl⟩
structure OnceHeld (b off : Nat) (w : World) : Prop where
 c0 : w.cell? ⟨b,off,none⟩ = some (.int .u32 0)
 c1 : w.cell? ⟨b,off + 1,none⟩ = some (.int .i32 1)
 f0 : w.frozen? ⟨b,off,none⟩ = false
 f1 : w.frozen? ⟨b,off + 1,none⟩ = false
theorem slow_any (b off : Nat) (caps : Array Value) (w : World) (Post : World → Prop)
 (h0 : w.cell? ⟨b,off,none⟩ = some (.int .u32 0)) (h1 : w.cell? ⟨b,off + 1,none⟩ = some (.int .i32 0))
 (f0 : w.frozen? ⟨b,off,none⟩ = false) (f1 : w.frozen? ⟨b,off + 1,none⟩ = false)
 (hf : Calls Tryz.prog 143 caps (w.setCell ⟨b,off + 1,none⟩ (.int .i32 1)) fun e w' => e = .returned (.tuple #[]) ∧ OnceHeld b off w' ∧ Post w') :
 Calls Tryz.prog 177 #[.pointer (some ⟨b,off,none⟩),.func (.func 143) #[] caps] w fun e w' => e = .returned (.tuple #[]) ∧
  ∃ w1,Post w1 ∧ OnceHeld b off w1 ∧ w' = (w1.drew.setCell ⟨b,off,none⟩ (.int .u32 1)).setCell ⟨b,off + 1,none⟩ (.int .i32 0):=by
 have hl:=(World.cell?_setCell_other w ⟨b,off + 1,none⟩ ⟨b,off,none⟩ (.int .i32 1) (by simp)).trans h0
 have hnot : ∀ (x : Bool) (w : World),(Op.unary .not (.bool x)).run Tryz.prog w = .ok (.bool (!x)) w:=fun _ _ => rfl
 have HF:=Hd hf;clear hf
 go_enter_defers Tryz.func177,Tryz.ntmps177
 go_wp2_with (first | (go_at_call 201;refine (lock_free ⟨b,off + 1,none⟩ _ (by go_simp) (by go_simp)).mono ?_;rintro e w' ⟨rfl,rfl⟩) | (go_at_call 141;refine (flag_load ⟨b,off,none⟩ 0 false rfl _ hl).mono ?_;rintro e w' ⟨rfl,rfl⟩) | (go_at_call 143;refine HF.out.mono ?_;rintro e w1 ⟨rfl,hh,hp⟩))
 refine leaves_cons (f:=145) (args:=#[.pointer (some ⟨b,off,none⟩),.bool true]) (by simp) (by simp [go_sem]) ?_
 refine (store_deferred ⟨b,off,none⟩ (.int .u32 0) .returning _ hh.c0 hh.f0).mono ?_
 rintro e u' w'' ⟨rfl,rfl,rfl⟩
 refine leaves_cons (f:=202) (args:=#[.pointer (some ⟨b,off + 1,none⟩)]) (by simp [settle]) (by simp [go_sem]) ?_
 refine (unlock_deferred ⟨b,off + 1,none⟩ _ _ ?_ (by simp [hh.f1])).mono ?_
 · refine (World.cell?_setCell_other _ ⟨b,off,none⟩ ⟨b,off + 1,none⟩ _ (by simp)).trans ?_
   rw [World.cell?_drew]
   exact hh.c1
 rintro e u' w'' ⟨rfl,rfl,rfl⟩
 simp [Leaves,settle,results,Tryz.results177]
 exact ⟨w1,hp,hh,rfl⟩
theorem do_first (b off : Nat) (caps : Array Value) (w : World) (Post : World → Prop)
 (h0 : w.cell? ⟨b,off,none⟩ = some (.int .u32 0)) (h1 : w.cell? ⟨b,off + 1,none⟩ = some (.int .i32 0))
 (f0 : w.frozen? ⟨b,off,none⟩ = false) (f1 : w.frozen? ⟨b,off + 1,none⟩ = false)
 (hf : Calls Tryz.prog 143 caps (w.setCell ⟨b,off + 1,none⟩ (.int .i32 1)) fun e w' => e = .returned (.tuple #[]) ∧ OnceHeld b off w' ∧ Post w') :
 Calls Tryz.prog 142 #[.pointer (some ⟨b,off,none⟩),.func (.func 143) #[] caps] w fun e w' => e = .returned (.tuple #[]) ∧
  ∃ w1,Post w1 ∧ OnceHeld b off w1 ∧ w' = (w1.drew.setCell ⟨b,off,none⟩ (.int .u32 1)).setCell ⟨b,off + 1,none⟩ (.int .i32 0):=by
 have hnot : ∀ (x : Bool) (w : World),(Op.unary .not (.bool x)).run Tryz.prog w = .ok (.bool (!x)) w:=fun _ _ => rfl
 have HF:=Hd hf;clear hf
 go_enter Tryz.func142,Tryz.ntmps142
 go_wp2_with (first | (go_at_call 177;refine (slow_any b off caps _ Post h0 h1 f0 f1 HF.out).mono ?_;rintro e w' ⟨rfl,w1,hp,hh,rfl⟩) | (go_at_call 141;refine (flag_load ⟨b,off,none⟩ 0 false rfl _ h0).mono ?_;rintro e w' ⟨rfl,rfl⟩))
 go_end0
 exact ⟨rfl,w1,hp,hh,rfl⟩
end

section
theorem Tryz.infoStamp : (Tryz.prog.info? 27).map (fun i => (i.zero,i.size,i.bytes)) = some (some (.agg #[.int .i64 0,.int .i64 0,.int .i64 0,.int .i64 0,.int .i64 0]),5,40):=by kernel_rfl
def rowS (ts : List St) : List Value:=(ts.map St.cells).flatten
theorem rowS_cons (t : St) (ts : List St) : rowS (t :: ts) = .int .i64 t.d :: .int .i64 t.e :: .int .i64 t.x :: .int .i64 t.y :: .int .i64 t.z :: rowS ts:=by simp [rowS,St.cells]
theorem rowS_append (ts us : List St) : rowS (ts ++ us) = rowS ts ++ rowS us:=by simp [rowS]
theorem rowS_len (ts : List St) : (rowS ts).length = ts.length * 5:=by
 induction ts with
 | nil => rfl
 | cons t ts ih => rw [rowS_cons];simp only [List.length_cons,ih];omega
theorem rowS_at : ∀ (ts : List St) (i : Nat) (t : St),ts[i]? = some t → ∀ (j : Nat) (u : Value),t.cells[j]? = some u → (rowS ts)[i * 5 + j]? = some u
 | x :: ts,0,t,h,j,u,hu => by
   obtain rfl : x = t:=by simpa using h
   rw [rowS_cons,Nat.zero_mul,Nat.zero_add]
   match j,hu with
   | 0,hu => exact hu
   | 1,hu => exact hu
   | 2,hu => exact hu
   | 3,hu => exact hu
   | 4,hu => exact hu
   | j + 5,hu => simp [St.cells] at hu
 | x :: ts,i + 1,t,h,j,u,hu => by
   have:=rowS_at ts i t (by simpa using h) j u hu
   rw [rowS_cons,show (i + 1) * 5 + j = i * 5 + j + 1 + 1 + 1 + 1 + 1 by omega]
   simp only [List.getElem?_cons_succ]
   exact this
theorem rowS_one (ts : List St) : ∀ u ∈ rowS ts,u.oneCell' = true:=by
 intro u hu
 simp only [rowS,List.mem_flatten,List.mem_map] at hu
 obtain ⟨l,⟨t,_,rfl⟩,hu⟩:=hu
 simp only [St.cells,List.mem_cons,List.not_mem_nil,or_false] at hu
 rcases hu with rfl | rfl | rfl | rfl | rfl <;> rfl
def Times (w : World) (A : Option Addr) (ts : List St) : Prop :=
 0 < ts.length → ∃ b,A = some ⟨b,0,none⟩ ∧ b < w.heap.size ∧ ∀ (j : Nat) (u : Value),(rowS ts)[j]? = some u → w.cell? ⟨b,j,none⟩ = some u
theorem Times.made (w : World) (ts : List St) : Times (w.alloc (.cells (rowS ts).toArray 27)) (some ⟨w.heap.size,0,none⟩) ts:=fun _ => by
 have h : Row (w.alloc (.cells (rowS ts).toArray 27)) w.heap.size 27 (rowS ts):=Row.made w _ _
 exact ⟨_,rfl,h.lt,fun j u hu => (h.cell j).trans hu⟩
theorem Times.of_own {w : World} {base : Nat} {v : Value} {n : Nat} {ts : List St} (h : w.ownsRow base 27 5 v n (rowS ts)) :
 ∃ A c,v = .slice A ts.length c ∧ Times w A ts ∧ ts.length ≤ c ∧ c ≤ maxLen:=by
 have hl : ts.length = n:=by have:=h.1;rw [rowS_len] at this;omega
 obtain ⟨_,⟨rfl,h0⟩ | ⟨g,cap,cur,rfl,_,hh,h1,h2,_,ht⟩⟩:=id h
 · exact ⟨none,0,by rw [hl,h0],fun hn => by omega,by omega,by simp⟩
 · refine ⟨some ⟨g,0,none⟩,cap,by rw [hl],fun _ => ⟨g,rfl,?_,fun j u hj => ?_⟩,by omega,h2⟩
   · by_cases hg : g < w.heap.size
     · exact hg
     · rw [Array.getElem?_eq_none (by omega)] at hh;cases hh
   · have:=h.cells (g:=g) rfl j u hj
     rwa [add_zero_off] at this
theorem own_apart {w : World} {base : Nat} {v : Value} {n b : Nat} {xs l : List Value} {t : TypeId} (h : w.ownsRow base 27 5 v n xs) (hr : Row w b t l) (ht : t ≠ 27) : some b ≠ v.ownBlock:=by
 obtain ⟨_,⟨rfl,_⟩ | ⟨g,cap,cur,rfl,_,hh,_⟩⟩:=h
 · intro e;cases e
 · intro e
   injection e with e
   subst e
   unfold Row at hr
   rw [hr] at hh;injection hh with hh;injection hh with _ ht';exact ht ht'
theorem own_belowS {w0 w w' : World} {base n : Nat} {v : Value} {xs : List Value} (h : w.ownsRow base 27 5 v n xs) (hg : w.grownBy w' v.ownBlock) (hb : Below base w0 w) (hB : base ≤ w.heap.size) : Below base w0 w' :=
 hb.grown hg hB (fun k e => (h.lt k e).1)
theorem wpList_append_times {w : World} {ops : Array Oper} {rest : List Oper} {o : Oper} {a : Act} {Q : Exit → Act → World → Prop} (hgd : o.guard = none) (s x : Operand)
 (ho : o.op = .call { callee:=.builtin .append,args:=#[s,x],argTypes:=#[34,34] })
 (base : Nat) (v : Value) (n : Nat) (ts : List St) (hs : a.eval s = v) (hown : w.ownsRow base 27 5 v n (rowS ts))
 (ad : Addr) (c : Nat) (ys : List St) (hx : a.eval x = .slice (some ad) ys.length c) (hy : 0 < ys.length) (hb : Times w (some ad) ys)
 (hle : n + ys.length ≤ 200000000) (hbase : base ≤ w.heap.size)
 (h : ∀ v' w',w'.ownsRow base 27 5 v' (n + ys.length) (rowS (ts ++ ys)) → w.grownBy w' v.ownBlock → wpList Tryz.prog ops Q rest (a.put o.dst v') w') : wpList Tryz.prog ops Q (o :: rest) a w:=by
 obtain ⟨i,hi,hz0,hz1,hz2⟩:=info_parts Tryz.infoStamp
 obtain ⟨b,e,_,hcell⟩:=hb hy
 cases e
 refine wpList_append_own w hgd s x 34 ho base 27 i _ 5 40 Tryz.underlying34 hi hz0 hz1 hz2 rfl (by omega) v n (rowS ts) hs hown ⟨b,0,none⟩ ys.length c (rowS ys) hx (rowS_len ys) ?_ (rowS_one ys) (by unfold maxLen;omega) (by omega) hbase ?_
 · intro j u hj
   rw [add_zero_off];exact hcell j u hj
 · intro v' w' h1 h2 _
   exact h v' w' (by rw [rowS_append];exact h1) h2
end

section
open Go.ChangeShapes Go.WideShapes Go.ChangeAt Go.RowKit Go.BigFrame Go.ChangeMaps Go.MapKept
structure Touch (F : Nat → Prop) (w w' : World) : Prop where
 os : w'.os = w.os
 tape : w'.tape = w.tape
 output : w'.output = w.output
 size : w.heap.size ≤ w'.heap.size
 block : ∀ k,k < w.heap.size → ¬ F k → w'.heap[k]? = w.heap[k]?
section
variable {F F' : Nat → Prop} {w w' w'' : World}
theorem Touch.refl (F : Nat → Prop) (w : World) : Touch F w w:=⟨rfl,rfl,rfl,Nat.le_refl _,fun _ _ _ => rfl⟩
theorem Touch.trans' (h : Touch F w w') (k : Touch F' w' w'') (hF : ∀ i,F' i → F i ∨ w.heap.size ≤ i) : Touch F w w'' :=
 ⟨k.os.trans h.os,k.tape.trans h.tape,k.output.trans h.output,Nat.le_trans h.size k.size,fun i hi hn =>
  (k.block i (Nat.lt_of_lt_of_le hi h.size) (fun e => (hF i e).elim hn (by omega))).trans (h.block i hi hn)⟩
theorem Touch.trans (h : Touch F w w') (k : Touch F w' w'') : Touch F w w'':=h.trans' k fun _ h => .inl h
theorem Touch.mono (h : Touch F w w') (hF : ∀ i,F i → F' i) : Touch F' w w':=⟨h.os,h.tape,h.output,h.size,fun i hi hn => h.block i hi fun e => hn (hF i e)⟩
theorem Touch.drew (h : Touch F w w') : Touch F w w'.drew:=⟨h.os,h.tape,h.output,h.size,h.block⟩
theorem Touch.setCell (h : Touch F w w') {p : Addr} (hp : F p.block ∨ w.heap.size ≤ p.block) (u : Value) : Touch F w (w'.setCell p u) :=
 ⟨h.os,h.tape,h.output,by simpa using h.size,fun i hi hn => (Below.heap_setCell w' p u i (fun e => by subst e;exact hp.elim hn (by omega))).trans (h.block i hi hn)⟩
theorem Touch.of_grown {row : Option Nat} (h : w.grownBy w' row) (hF : ∀ k,row = some k → F k) : Touch F w w' :=
 ⟨h.os,h.tape,h.output,h.size,fun i hi hn => h.block i hi fun e => hn (hF i e.symm)⟩
theorem Touch.of_below (h : Below w.heap.size w w') : Touch F w w':=⟨h.os,h.tape,h.output,h.size,fun i hi _ => h.block i hi⟩
theorem Touch.below (h : Touch F w w') {B : Nat} (hF : ∀ i,F i → B ≤ i) (hB : B ≤ w.heap.size) : Below B w w':=⟨h.os,h.tape,h.output,h.size,fun i hi => h.block i (by omega) fun e => by have:=hF i e;omega⟩
theorem Row.touch {g : Nat} {t : TypeId} {l : List Value} (h : Row w g t l) (ht : Touch F w w') (hg : ¬ F g) : Row w' g t l:=(ht.block g h.lt hg).trans h
theorem ownsRow_touch {base : Nat} {e : TypeId} {size : Nat} {v : Value} {n : Nat} {xs : List Value} (h : w.ownsRow base e size v n xs) (ht : Touch F w w') (hv : ∀ k,v.ownBlock = some k → ¬ F k) : w'.ownsRow base e size v n xs:=by
 have hlt:=h.lt
 obtain ⟨hlen,h | ⟨g,cap,cur,rfl,hg,hh,h1,h2,h3,h4⟩⟩:=h
 · exact ⟨hlen,.inl h⟩
 · exact ⟨hlen,.inr ⟨g,cap,cur,rfl,hg,(ht.block g (hlt g rfl).2 (hv g rfl)).trans hh,h1,h2,h3,h4⟩⟩
end
end

section
structure BodyS (wz w' : World) (F i : Nat) (g : List Nd) (R : List Value) (s : Sl) : Prop where
 rows : RowsAt w' wz.heap.size g i s
 row : Row w' F 195 ((R.set (i * 5 + 4) s.v).set (i * 5 + 3) (.int .u32 1))
 touch : Touch (fun b => b = F) wz w'
theorem touch_cell {F : Nat} {w w' : World} {b o : Nat} {v : Value} (h : Touch (fun b => b = F) w w') (hc : w.cell? ⟨b,o,none⟩ = some v) (hne : b ≠ F) : w'.cell? ⟨b,o,none⟩ = some v:=by
 have hlt:=World.block_lt_of_cell? w ⟨b,o,none⟩ hc
 exact (World.cell?_of_block (a:=⟨b,o,none⟩) (h.block b hlt hne)).trans hc
set_option maxHeartbeats 16000000 in
theorem body_any (wz : World) (bp bi bf p F i : Nat) (A : Option Addr) (c : Nat) (lg : List Gn) (hp : wz.cell? ⟨bp,0,none⟩ = some (.pointer (some ⟨p,0,none⟩))) (hi : wz.cell? ⟨bi,0,none⟩ = some (.int .i64 (i : Nat))) (hf : wz.cell? ⟨bf,0,none⟩ = some (.pointer (some ⟨F,i * 5,none⟩)))
 (hg : wz.cell? ⟨p,0,none⟩ = some (.slice A lg.length c)) (hG : Gr wz A lg) (hil : i < lg.length) (hl : lg.length ≤ 14) (hI : ∀ x ∈ nds lg,x.ins.length ≤ 40) (hF : Fine (nds lg)) (R : List Value) (hR : Row wz F 195 R)
 (h4 : ∃ v,R[i * 5 + 4]? = some v) (h3 : R[i * 5 + 3]? = some (.int .u32 0)) (hne : bf ≠ F) :
 Calls Tryz.prog 143 #[.pointer (some ⟨bp,0,none⟩),.pointer (some ⟨bi,0,none⟩),.pointer (some ⟨bf,0,none⟩)] wz fun e w' => e = .returned (.tuple #[]) ∧ ∃ s,BodyS wz w' F i (nds lg) R s:=by
 obtain ⟨v4,hv4⟩:=h4
 have hr:=fun w5 (h5 : Below wz.heap.size wz w5) => reach_any A lg c i w5 (hG.below h5) hil hl hI hF
 have lp:=World.block_lt_of_cell? wz _ hp;have li:=World.block_lt_of_cell? wz _ hi;have lf:=World.block_lt_of_cell? wz _ hf;have lg':=World.block_lt_of_cell? wz _ hg
 simp only at lp li lf lg'
 have lF:=hR.lt
 have HR:=Hd hr;have HROW:=Hd hR;have HV4:=Hd hv4;have HV3:=Hd h3;have HNE:=Hd hne;have HHF:=Hd hf
 clear hr hR hv4 h3 hG hI hF hne
 go_enter Tryz.func143,Tryz.ntmps143
 go_upto_region 0 with fail
 go_cut [] from 3 to 9 (fun wx => ∃ s,RowsAt wx wz.heap.size (nds lg) i s ∧ Row wx F 195 (R.set (i * 5 + 4) s.v) ∧ Touch (fun b => b = F) wz wx)
 case first =>
  go_region_with (go_at_call 144;refine (HR.out _ (Below.refl _ _).drew).mono ?_;rintro e w5 ⟨⟨B5,T5,D5,vs5,rfl,htt5,hrun5⟩,hb5⟩;have g5 : w5.cell? ⟨bf,0,none⟩ = some (.pointer (some ⟨F,i * 5,none⟩)):=(hb5.cell (p:=⟨bf,0,none⟩) lf).trans (show wz.drew.cell? ⟨bf,0,none⟩ = _ from HHF.out);have r5 : Row w5 F 195 R:=HROW.out.drew.below hb5 lF;have c5 : w5.cell? ⟨F,i * 5 + 4,none⟩ = some v4:=(r5.cell _).trans HV4.out;have f5 : w5.frozen? ⟨F,i * 5 + 4,none⟩ = false:=r5.free _)
  all_goals
   have HB5:=Hd (And.intro htt5 (And.intro hrun5 (And.intro hb5 r5)));clear htt5 hrun5 hb5 r5 c5 f5 g5
   go_wp2_with fail
   go_meet
   obtain ⟨htt5,hrun5,hb5,r5⟩:=HB5.out
   refine ⟨⟨some ⟨B5,0,none⟩,(nds lg).length,(nds lg).length⟩,RowsAt.stays ⟨B5,T5,D5,vs5,rfl,htt5,hrun5⟩ (Stays.far lF),r5.put _ _,?_⟩
   have ht : Touch (fun b => b = F) wz w5:=⟨hb5.os,hb5.tape,hb5.output,hb5.size,fun k hk _ => hb5.block k hk⟩
   exact ht.setCell (.inl rfl) _
 case rest =>
  obtain ⟨s,hrows,hrow,ht⟩:=hcut
  have hf2:=touch_cell ht HHF.out HNE.out
  have hc3 : wc.cell? ⟨F,i * 5 + 3,none⟩ = some (.int .u32 0):=by
   rw [hrow.cell,List.getElem?_set_ne (by omega)];exact HV3.out
  have hst:=fun wy (h : wy = wc) => flag_store ⟨F,i * 5 + 3,none⟩ (.int .u32 0) wy (by rw [h];exact hc3) (by rw [h];exact hrow.free _)
  have HS:=Hd (And.intro hrows (And.intro hrow ht));have HST:=Hd hst;clear hrows hrow ht hst hc3 hp hi hg hf
  go_wp2_with fail
  refine (HST.out _ rfl).mono ?_;rintro e w6 ⟨rfl,rfl⟩
  dsimp only
  go_wp2_with fail
  first | go_end0 | go_ret
  obtain ⟨hrows,hrow,ht⟩:=HS.out
  exact ⟨rfl,s,hrows.stays (Stays.far lF),hrow.put _ _,(ht.drew).setCell (.inl rfl) _⟩
end
end Go.Proofs.YtonelpnhoiajgaaGreatDoor
