import Derived.Test.YtonelpnhoiajgaaGreatDoorHd
import Derived.Test.YtonelpnhoiajgaaGreatDoorCa4
import Derived.Test.YtonelpnhoiajgaaGreatDoorCa5
import Derived.Test.YtonelpnhoiajgaaGreatDoorCa6
import Derived.Test.YtonelpnhoiajgaaGreatDoorCa7
import Derived.Deep.AppendLies
import Derived.Deep.RegionLaw
import Derived.Lib.SliceRun
import Derived.Lib.Hide
import Derived.Laws.OwnMore
import Derived.Laws.Entries
import Derived.Lib.LaidTab
namespace Go.Proofs.YtonelpnhoiajgaaGreatDoor
set_option linter.unusedSimpArgs false
set_option maxRecDepth 100000
open Go.ChangeShapes Go.WideShapes Go.ChangeAt Go.RowKit Go.BigFrame
set_option linter.unusedVariables false
section
theorem infoPort : (Tryz.prog.info? 62).map (fun i => (i.zero,i.size,i.bytes)) = some (some (.agg #[.int .i64 0,.int .i64 0]),2,16):=by kernel_rfl
set_option maxHeartbeats 4000000 in
theorem flowTo_any (A : Option Addr) (l : List Gn) (c : Nat) (i : Int) (w : World) (hG : Gr w A l) (hl : l.length ≤ 40) (hi : ∀ x ∈ nds l,x.ins.length ≤ 40) :
 Calls Tryz.prog 27 #[.slice A l.length c,.int .i64 i] w (ToD 62 (toG i 0 (nds l)) w):=by
 have HG:=Hd hG;have HI:=Hd hi;clear hG hi
 go_enter Tryz.func27,Tryz.ntmps27
 go_wp2_with fail
 go_loopw [5,12] (fun v n wr => ∃ k : Nat,k ≤ l.length ∧ n = .int .i64 k ∧ wr.ownsRow w.heap.size 62 kindP.K v (toG i 0 (nds (l.take k))).length (Rw.row kindP (toG i 0 (nds (l.take k)))) ∧ Below w.heap.size w wr) (fun _ n _ => l.length - (intOf n).toNat)
 case atStart => exact ⟨0,by omega,rfl,World.ownsRow_nil _ _ _ _,Below.refl _ _⟩
 case round =>
  obtain ⟨k,hk,rfl,hown,hb⟩:=hrel
  have HO:=Hd hown;have HB:=Hd hb;clear hown hb
  by_cases hlt : k < l.length
  · have hltz : (k : Int) < (l.length : Int):=by omega
    obtain ⟨x,hx⟩ : ∃ x,l[k]? = some x:=⟨_,List.getElem?_eq_getElem hlt⟩
    have hix:=HI.out x.nd (List.mem_map.2 ⟨x,List.mem_of_getElem? hx,rfl⟩)
    obtain ⟨⟨xk,xa,xb,xd,xi⟩,xA,xc⟩:=x
    obtain ⟨b,o,rfl,hbl,hcl⟩:=HG.out.at_ hx
    have hln : (toG i 0 (nds (l.take k))).length ≤ 1600:=by
     have h1:=toG_len i 40 (nds (l.take k)) 0 fun y hy => HI.out y (by
      unfold nds at hy ⊢
      rw [List.map_take] at hy
      exact List.mem_of_mem_take hy)
     rw [nds_len,List.length_take] at h1
     have : min k l.length ≤ 40:=by omega
     have:=Nat.mul_le_mul_right 40 this
     omega
    have HTK:=Hd (toG_take i hx)
    generalize toG i 0 (nds (l.take k)) = ps at *
    obtain ⟨c0,c1,c2,c3,c4⟩:=hcl wr HB.out
    simp only at hix c0 c1 c2 c3 c4
    have HX:=Hd hx;have HLN:=Hd hln;clear hx hcl hln
    go_wp2_with fail
    go_loopw [5,20] (fun v n wx => ∃ p : Nat,p ≤ xi.length ∧ n = .int .i64 p ∧ wx.ownsRow w.heap.size 62 kindP.K v (ps ++ toIn k i 0 (xi.take p)).length (Rw.row kindP (ps ++ toIn k i 0 (xi.take p))) ∧ Below w.heap.size w wx) (fun _ n _ => xi.length - (intOf n).toNat)
    case atStart => exact ⟨0,by omega,rfl,by simpa [toIn] using HO.out.alloc _,HB.out.alloc HB.out.size _⟩
    case round =>
     obtain ⟨p,hp,rfl,hown,hb⟩:=hrel
     have HO2:=Hd hown;have HB2:=Hd hb;clear hown hb HO HB c0 c1 c2 c3 c4
     by_cases hlp : p < xi.length
     · have hpz : (p : Int) < (xi.length : Int):=by omega
       obtain ⟨z,hz⟩ : ∃ z,xi[p]? = some z:=⟨_,List.getElem?_eq_getElem hlp⟩
       obtain ⟨bb,oo,rfl,_,hq⟩:=ints_at (HG.out.ins HX.out) hz
       have q:=hq wr HB2.out
       have hln2 : (ps ++ toIn k i 0 (xi.take p)).length ≤ 1640:=by
        have:=toIn_len k i (xi.take p) 0
        have:=List.length_take_le p xi
        have:=HLN.out
        rw [List.length_append];omega
       have HTI:=Hd (toIn_take k i hz)
       have HLN2:=Hd hln2;clear hln2 hz hq
       generalize hqs : ps ++ toIn k i 0 (xi.take p) = qs at *
       have HQS:=Hd hqs;clear hqs
       by_cases hzi : z = i
       · subst hzi
         have hbs:=HB2.out.size
         have HBS:=Hd hbs;clear hbs
         go_wp2_with (at_builtin;refine Rw.append_own kindP 62 59 Tryz.underlying59 infoPort rfl rfl _ _ rfl w.heap.size _ qs.length qs rfl (HO2.out.alloc _) _ 1 [(k,p)] rfl (by simp) (Rw.Ts.made _ [(k,p)] _) (by unfold maxLen;have:=HLN2.out;simp;omega) (by have:=HLN2.out;simp;omega) (by have:=HBS.out;simp;omega) ?_;intro v2 w4 hv2 hg2;have hb2:=Rw.own_below (HO2.out.alloc _) hg2 (HB2.out.alloc HB2.out.size _) (by have:=HBS.out;simp;omega);have HV:=Hd hv2;have HB3:=Hd hb2;clear hv2 hg2 hb2)
         go_roundw
         case rel =>
          refine ⟨p + 1,by omega,by simp,?_,HB3.out⟩
          rw [HTI.out,if_pos rfl,← List.append_assoc,HQS.out,List.length_append]
          exact HV.out
         case measure => simp only [intOf];omega
       · have hzb : (z == i) = false:=by simpa using hzi
         have HN:=Hd hzi;clear hzi
         go_wp2_with fail
         go_roundw
         case rel =>
          refine ⟨p + 1,by omega,by simp,?_,HB2.out⟩
          rw [HTI.out,if_neg HN.out,List.append_nil,HQS.out]
          exact HO2.out
         case measure => simp only [intOf];omega
     · have hpz : ¬ (p : Int) < (xi.length : Int):=by omega
       have hpe : p = xi.length:=by omega
       have HPE:=Hd hpe;clear hpe
       go_wp2_with fail
       go_roundw
       case rel =>
        refine ⟨k + 1,by omega,by simp,?_,HB2.out⟩
        have h:=HO2.out
        rw [HPE.out,List.take_length] at h
        rw [HTK.out]
        exact h
       case measure => simp only [intOf];omega
  · have hltz : ¬ (k : Int) < (l.length : Int):=by omega
    have hke : k = l.length:=by omega
    have HK:=Hd hke;clear hke
    go_wp2_with fail
    go_ret
    refine ⟨⟨_,rfl,?_⟩,HB.out⟩
    have h:=HO.out
    rw [HK.out,List.take_length] at h
    exact h
end

section
theorem wpList_make_is {P : Program} {ops : Array Oper} {rest : List Oper} {o : Oper} {a : Act} {w w' : World} {Q : Exit → Act → World → Prop} (l c : Operand) (t : TypeId) (ho : o.op = Op.makeSlice t l c) (hw : Region.wanted o (yielded ops a.tmps) = true)
 (x y v' : Value) (hl : a.eval l = x) (hc : a.eval c = y) (hr : (Instr.makeSlice t x y).run P w = .ok v' w') (h : wpList P ops Q rest (a.put o.dst v') w') : wpList P ops Q (o :: rest) a w:=by
 unfold wpList
 rw [if_pos hw]
 refine .inl ?_
 unfold Oper.wp
 simp [execOp,ho,hl,hc,hr,Result.andThen]
 exact h
end

section
theorem made_rows (n : Nat) : (madeCells (Value.slice none 0 0).cells (n * 1)).toList = List.replicate n (.slice none 0 0):=by
 have : (Value.slice none 0 0).cells = #[.slice none 0 0]:=rfl
 rw [this,toList_madeCells_one,Nat.mul_one]
structure RchS (g : List Nd) (i : Nat) (w : World) (Bt N : Nat) (on : Value) (wx : World) (T : List (List Sm)) (D Q : List (Nat × Sm)) (vs : List Sl) : Prop where
 run : Run g i T D Q
 count : N = 2 * (g.length * 4194304 - D.length) + Q.length
 on : Rc.Own wx w.heap.size 225 kindW.K on Q.length (Rw.row kindW Q)
 tt : TT wx w.heap.size Bt vs T
 below : Below w.heap.size w wx
 few : Q.length ≤ D.length + 1
def RchN (g : List Nd) (i : Nat) (w : World) (Bt : Nat) (on : Value) (wx : World) (N : Nat) : Prop:=∃ T D Q vs,RchS g i w Bt N on wx T D Q vs
structure RchI (g : List Nd) (i j : Nat) (u : Sm) (w : World) (Bt gs N0 : Nat) (ps : List (Nat × Nat)) (q : Nat) (on : Value) (wx : World) (T : List (List Sm)) (D Q : List (Nat × Sm)) (vs : List Sl) : Prop where
 run : Run g i T D ((j,u) :: Q)
 count : 2 * (g.length * 4194304 - D.length) + (Q.length + 1) ≤ N0
 upto : UptoP T ps q u
 on : Rc.Own wx w.heap.size 225 kindW.K on (Q.length + 1) (Rw.row kindW ((j,u) :: Q))
 tt : TT wx w.heap.size Bt vs T
 off : TOff vs gs
 box : Mx.Holds wx gs u
 below : Below w.heap.size w wx
 few : Q.length ≤ D.length
section
variable {g : List Nd} {i j Bt gs N0 q : Nat} {u : Sm} {w wx wy : World} {ps : List (Nat × Nat)} {on : Value} {T : List (List Sm)} {D Q : List (Nat × Sm)} {vs : List Sl}
theorem RchI.kept (h : RchI g i j u w Bt gs N0 ps q on wx T D Q vs) (hb : Below wx.heap.size wx wy) : RchI g i j u w Bt gs N0 ps q on wy T D Q vs :=
 ⟨h.run,h.count,h.upto,h.on.below hb,h.tt.below hb,h.off,HoldsM.below h.box hb,h.below.trans (hb.mono h.below.size),h.few⟩
theorem RchI.skip (h : RchI g i j u w Bt gs N0 ps q on wx T D Q vs) {m z : Nat} (hq : ps[q]? = some (m,z)) (hc : CovAt T m u) : RchI g i j u w Bt gs N0 ps (q + 1) on wx T D Q vs :=
 ⟨h.run,h.count,h.upto.step hq hc,h.on,h.tt,h.off,h.box,h.below,h.few⟩
structure RchJ (g : List Nd) (i j : Nat) (u : Sm) (w : World) (Bt gs N0 : Nat) (ps : List (Nat × Nat)) (q : Nat) (on : Value) (wx : World) (T : List (List Sm)) (D Q : List (Nat × Sm)) (vs : List Sl) (m : Nat) (x : Nd) (T' : List (List Sm)) : Prop where
 run : Run g i T D ((j,u) :: Q)
 run' : Run g i T' (D ++ [(m,u)]) (if u.thenOk x.sm then (j,u) :: Q ++ [(m,u.seq x.sm)] else (j,u) :: Q)
 room : D.length + 1 ≤ g.length * 4194304
 count : 2 * (g.length * 4194304 - D.length) + (Q.length + 1) ≤ N0
 upto : UptoP T' ps (q + 1) u
 on : Rc.Own wx w.heap.size 225 kindW.K on (Q.length + 1) (Rw.row kindW ((j,u) :: Q))
 tt : TT wx w.heap.size Bt vs T'
 off : TOff vs gs
 box : Mx.Holds wx gs u
 below : Below w.heap.size w wx
 few : Q.length ≤ D.length
theorem RchJ.kept {m : Nat} {x : Nd} {T' : List (List Sm)} (h : RchJ g i j u w Bt gs N0 ps q on wx T D Q vs m x T') (hb : Below wx.heap.size wx wy) : RchJ g i j u w Bt gs N0 ps q on wy T D Q vs m x T' :=
 ⟨h.run,h.run',h.room,h.count,h.upto,h.on.below hb,h.tt.below hb,h.off,HoldsM.below h.box hb,h.below.trans (hb.mono h.below.size),h.few⟩
theorem RchI.put {w1 w2 : World} {m z : Nat} {x : Nd} {l : List Sm} {s s2 : Sl} (hF : Fine g) (h : RchI g i j u w Bt gs N0 ps q on wx T D Q vs) (hq : ps[q]? = some (m,z)) (hps : toG ((j : Nat) : Int) 0 g = ps) (hx : g[m]? = some x) (hl : T[m]? = some l) (hs : vs[m]? = some s)
 (hno : ∀ t ∈ l,¬ t.L u) (hg : wx.grownBy w1 s.v.ownBlock) (hb : Below w1.heap.size w1 w2) (hn : w2.ownsRow w1.heap.size 82 7 s2.v (waysS (l ++ [u])).length (Mx.rowS (waysS (l ++ [u])))) :
 RchJ g i j u w Bt gs N0 ps q on (w2.setCell ⟨Bt,m,none⟩ s2.v) T D Q (vs.set m s2) m x (T.set m (waysS (l ++ [u]))):=by
 have hfd : Fd g j m:=by
  refine toG_fd.1 ⟨(m,z),?_,rfl⟩
  rw [hps];exact List.mem_of_getElem? hq
 have ha : Arr g i m u:=(h.run.outs j u List.mem_cons_self).fed hfd
 have hr:=Run.add hF h.run ha hx hl hno
 have hbd:=hr.bound hF
 rw [List.length_append,List.length_singleton] at hbd
 have hown:=h.tt.own m s l hs hl
 have hsB : s.v.ownBlock ≠ some Bt:=fun e => by
  rcases own_apartM hown h.tt.row (by decide) with e2 | e2
  · rw [e2] at e;cases e
  · exact e2 e
 have hon1 : Rc.Own w1 w.heap.size 225 kindW.K on (Q.length + 1) (Rw.row kindW ((j,u) :: Q)):=h.on.kept hg (h.on.apart hown (by decide))
 have hon2:=hon1.below hb
 have hr1 : Row w1 Bt 75 (slv vs):=h.tt.row.grown hg (fun e => hsB e.symm)
 have hr2 : Row w2 Bt 75 (slv vs):=hr1.below hb hr1.lt
 have hb1 : Mx.Holds w1 gs u:=Row.grown h.box hg (fun e => h.off m s hs e.symm)
 have hb2 : Mx.Holds w2 gs u:=HoldsM.below hb1 hb
 have hgl : gs < wx.heap.size:=Row.lt h.box
 have hb0 : Below w.heap.size w w1:=h.below.grown hg h.below.size (fun k e => (hown.lt k e).1)
 refine ⟨h.run,hr,hbd,h.count,(h.upto.mono fun n u => CovAt.set hF h.run hl).step hq (CovAt.put ((ha.ends hF).1) hl),?_,h.tt.step hs hl hg hb hn h.below.size,h.off.set ?_,?_,?_,h.few⟩
 · exact hon2.kept (grown_set w2 Bt m s2.v) (hon2.apart_row hr2 (by decide))
 · intro e
   have:=(hn.lt gs e).1
   have:=hg.size
   omega
 · exact Row.far hb2 (Row.apart hb2 hr2 (by decide)) s2.v
 · exact (hb0.trans (hb.mono hb0.size)).setCell h.tt.lo _
theorem RchJ.no {m : Nat} {x : Nd} {T' : List (List Sm)} (h : RchJ g i j u w Bt gs N0 ps q on wx T D Q vs m x T') (hto : ¬ u.thenOk x.sm) : RchI g i j u w Bt gs N0 ps (q + 1) on wx T' (D ++ [(m,u)]) Q vs:=by
 have hr:=h.run'
 rw [if_neg hto] at hr
 refine ⟨hr,?_,h.upto,h.on,h.tt,h.off,h.box,h.below,?_⟩
 · have:=h.count;have:=h.room
   rw [List.length_append,List.length_singleton];omega
 · have:=h.few
   rw [List.length_append];omega
theorem RchJ.yes {m : Nat} {x : Nd} {T' : List (List Sm)} {on' : Value} {w' wz : World} {ob : Obj} (h : RchJ g i j u w Bt gs N0 ps q on wx T D Q vs m x T') (hto : u.thenOk x.sm) (hz : wz = wx.alloc ob)
 (ho : Rc.Own w' w.heap.size 225 kindW.K on' (Q.length + 1 + 1) (Rw.row kindW (((j,u) :: Q) ++ [(m,u.seq x.sm)]))) (hg : wz.grownBy w' on.ownBlock) :
 RchI g i j u w Bt gs N0 ps (q + 1) on' w' T' (D ++ [(m,u)]) (Q ++ [(m,u.seq x.sm)]) vs:=by
 subst hz
 have hr:=h.run'
 rw [if_pos hto] at hr
 have hon:=h.on.alloc ob
 have htt:=h.tt.alloc ob
 refine ⟨hr,?_,h.upto,?_,htt.grown hg (fun e => ?_) fun k s hs => ?_,h.off,?_,?_,?_⟩
 · have:=h.count;have:=h.room
   rw [List.length_append,List.length_singleton,List.length_append,List.length_singleton];omega
 · rw [List.length_append,List.length_singleton];exact ho
 · exact hon.apart_row htt.row (by decide) e
 · obtain ⟨l,hl⟩ : ∃ l,T'[k]? = some l:=⟨_,List.getElem?_eq_getElem (by have:=(List.getElem?_eq_some_iff.1 hs).1;have:=h.tt.len;omega)⟩
   exact .inr fun e => hon.apart (htt.own k s l hs hl) (by decide) e.symm
 · exact Row.grown (Row.alloc h.box ob) hg (fun e => hon.apart_row (Row.alloc h.box ob) (by decide) e.symm)
 · exact (h.below.alloc h.below.size ob).grown hg (by have:=h.below.size;simp;omega) (fun k e => (hon.lt k e).1)
 · have:=h.few
   rw [List.length_append,List.length_singleton,List.length_append,List.length_singleton];omega
theorem RchI.ends {c' g' off' : Nat} (hF : Fine g) (h : RchI g i j u w Bt gs N0 ps ps.length (.slice (some ⟨g',off',none⟩) (Q.length + 1) c') wx T D Q vs) (hps : toG ((j : Nat) : Int) 0 g = ps) :
 ∃ N,N < N0 ∧ RchS g i w Bt N (.slice (if c' = 1 then some ⟨g',off',none⟩ else some ⟨g',off' + 8,none⟩) Q.length (c' - 1)) wx T D Q vs:=by
 refine ⟨_,?_,h.run.pop (h.upto.all hps),rfl,?_,h.tt,h.below,by have:=h.few;omega⟩
 · have:=h.count;have:=h.run.bound hF;omega
 · have:=h.on.cut (c:=kindW.cells (j,u)) (ys:=Rw.row kindW Q) (Rw.row_cons _ _) rfl (by omega) (by decide)
   exact this
end
theorem least_sl {w7 : World} {base gg cap : Nat} {l : List Sm} {u : Sm} (h : w7.ownsRow base 82 7 (.slice (some ⟨gg,0,none⟩) (l.length + 1) cap) (l.length + 1) (Mx.rowS l ++ Sm.cells u)) (hl : l.length ≤ 4194304) :
 Calls Tryz.prog 47 [.slice (some ⟨gg,0,none⟩) (l.length + 1) cap].toArray w7 (fun e w' => ∃ v,e = .returned v ∧ ∃ A n c,v = .slice A n c ∧ w'.ownsRow w7.heap.size 82 7 (.slice A n c) (waysS (l ++ [u])).length (Mx.rowS (waysS (l ++ [u]))) ∧ Below w7.heap.size w7 w'):=by
 have e : Mx.rowS l ++ Sm.cells u = Rw.row kindS (l ++ [u]):=by
  rw [Rw.row_append,Rw.row_cons,Rw.row_nil,List.append_nil];rfl
 rw [e] at h
 obtain ⟨A,c,e2,hT,_⟩:=Rw.Ts.of_own h
 have hl1 : (l ++ [u]).length = l.length + 1:=by rw [List.length_append,List.length_singleton]
 rw [hl1] at e2
 cases e2
 have hc:=Mx.least_any (some ⟨gg,0,none⟩) (l ++ [u]) cap w7 hT (by rw [hl1];omega)
 rw [hl1] at hc
 refine hc.mono ?_
 rintro e w' ⟨⟨v,rfl,ho⟩,hb⟩
 obtain ⟨A,c,rfl,_⟩:=Rw.Ts.of_own (κ:=kindS) (ts:=waysS (l ++ [u])) ho
 exact ⟨_,rfl,A,_,c,rfl,ho,hb⟩
theorem ways11_kept {w10 w11 : World} {o : Obj} {base bp n k : Nat} {v vp : Value} {xs ys : List Value} (ho : Rc.Own w10 base 225 kindW.K v n xs) (hp : w10.ownsRow bp 62 kindP.K vp k ys) (hg : (w10.alloc o).grownBy w11 v.ownBlock) : w11.ownsRow bp 62 kindP.K vp k ys :=
 (hp.alloc o).kept hg (.inr fun e => (ho.alloc o).apart (hp.alloc o) (by decide) e.symm)
theorem toG_at {g : List Nd} {i : Int} {k n p : Nat} (h : (toG i 0 g)[k]? = some (n,p)) : ∃ x,g[n]? = some x:=by
 obtain ⟨_,x,hx,_⟩:=mem_toG.1 (List.mem_of_getElem? h)
 exact ⟨x,by simpa using hx⟩
def RowsD (g : List Nd) (i : Nat) (w : World) (e : Ending) (w' : World) : Prop:=(∃ B T D vs,e = .returned (.slice (some ⟨B,0,none⟩) g.length g.length) ∧ TT w' w.heap.size B vs T ∧ Run g i T D []) ∧ Below w.heap.size w w'
def RchV (lg : List Gn) (b o c m gs yk ya yc : Nat) (yb yd : Int) (yi : List Int) (yA : Option Addr) (u O S : Sm) (TB : Bool) (i : Nat) (v : Value) : Prop:=match i with
 | 0 => v = .agg #[.int .i64 u.fr,.int .i64 u.to,.int .i64 u.kp,.int .i64 u.ad,.int .i64 u.t0,.int .i64 u.t1,.int .i64 u.t2]
 | 1 => v = .slice (some ⟨b,o,none⟩) lg.length c
 | 2 => v = .int .i64 (m : Nat)
 | 3 => v = .pointer (some ⟨b,o + m * 5,none⟩)
 | 4 => v = .agg #[.int .u8 (yk : Nat),.int .u8 (ya : Nat),.int .i64 yb,.int .i64 yd,.slice yA yi.length yc]
 | 5 => v = .agg #[.int .i64 O.fr,.int .i64 O.to,.int .i64 O.kp,.int .i64 O.ad,.int .i64 O.t0,.int .i64 O.t1,.int .i64 O.t2]
 | 6 => v = .tuple #[.agg #[.int .i64 S.fr,.int .i64 S.to,.int .i64 S.kp,.int .i64 S.ad,.int .i64 S.t0,.int .i64 S.t1,.int .i64 S.t2],.bool TB]
 | 7 => v = .tuple #[.agg #[.int .i64 S.fr,.int .i64 S.to,.int .i64 S.kp,.int .i64 S.ad,.int .i64 S.t0,.int .i64 S.t1,.int .i64 S.t2],.bool TB]
 | 8 => v = .agg #[.int .i64 S.fr,.int .i64 S.to,.int .i64 S.kp,.int .i64 S.ad,.int .i64 S.t0,.int .i64 S.t1,.int .i64 S.t2]
 | 9 => v = .bool TB
 | 10 => True
 | 11 => v = undef
 | _ => v = .bool TB
set_option maxHeartbeats 32000000 in
theorem reach_any (A : Option Addr) (lg : List Gn) (c i : Nat) (w : World) (hG : Gr w A lg) (hi : i < lg.length) (hl : lg.length ≤ 14) (hI : ∀ x ∈ nds lg,x.ins.length ≤ 40) (hF : Fine (nds lg)) :
 Calls Tryz.prog 144 #[.slice A lg.length c,.int .i64 (i : Nat)] w (RowsD (nds lg) i w):=by
 obtain ⟨x,hx⟩ : ∃ x,lg[i]? = some x:=⟨_,List.getElem?_eq_getElem hi⟩
 have hnx : (nds lg)[i]? = some x.nd:=by unfold nds;rw [List.getElem?_map,hx];rfl
 have hiz : (i : Int) < (lg.length : Int):=by omega
 obtain ⟨b,o,rfl,hbl,hcl⟩:=hG.at_ hx
 have hst:=Run.start hnx
 rw [nds_len] at hst
 obtain ⟨⟨xk,xa,xb,xd,xi⟩,xA,xc⟩:=x
 simp only at hst
 have hcl2:=fun w' hb => (hcl w' hb).2.2.2.1
 simp only at hcl2
 obtain ⟨i0,hi0,hz0,hz1,hz2⟩:=info_parts infoSums
 obtain ⟨w2,hr2,ho2,hg2⟩:=run_make_full (P:=Tryz.prog) w w.heap.size 193 75 i0 _ 1 Tryz.underlying193 hi0 hz0 hz1 .i64 .i64 lg.length (by rw [hz2];omega) (by unfold maxLen;omega) (Nat.le_refl _)
 have hb2:=(Below.refl w.heap.size w).grown hg2 (Nat.le_refl _) (fun _ e => by cases e)
 rw [made_rows] at ho2
 have htt : TT w2 w.heap.size w.heap.size (List.replicate lg.length ⟨none,0,0⟩) (List.replicate lg.length []):=TT.start (Row.of_full ho2) (Nat.le_refl _)
 have hnm:=fun wz => nothingMade_any xd wz
 have c3:=hcl2 w2 hb2
 have HG:=Hd hG;have HI:=Hd hI;have HF:=Hd hF;have HST:=Hd hst;have HTT:=Hd htt;have HB2:=Hd hb2;have HR2:=Hd hr2;have HNM:=Hd hnm
 have hnb : b < w2.heap.size:=Nat.lt_of_lt_of_le hbl hb2.size
 clear hG hI hF hst htt hb2 hr2 ho2 hg2 hnm hx hnx hcl hi0 hz0 hz1 hz2
 go_enter Tryz.func144,Tryz.ntmps144
 go_wp2_with (refine wpList_make_is _ _ 193 rfl rfl _ _ _ rfl rfl HR2.out ?_)
 refine (HNM.out _).mono ?_;rintro e w3 ⟨rfl,hb3⟩
 have HB3:=Hd hb3;clear hb3 c3 HNM
 dsimp only
 go_wp2_with fail
 have hon0 : (w3.alloc (.cells (kindW.cells (i,idS xd)).toArray 225)).ownsRow w.heap.size 225 kindW.K (.slice (some ⟨w3.heap.size,0,none⟩) 1 1) 1 (Rw.row kindW [(i,idS xd)]) :=
  own_base (World.ownsRow_lit (base:=w3.heap.size) (e:=225) (size:=8) w3 (kindW.cells (i,idS xd)).toArray 1 (Nat.le_refl _) (by decide) rfl) (Nat.le_trans HB2.out.size HB3.out.size)
 have hbz:=HB2.out.trans (HB3.out.mono HB2.out.size)
 have hrch : RchN (nds lg) i w w.heap.size (.slice (some ⟨w3.heap.size,0,none⟩) 1 1) (w3.alloc (.cells (kindW.cells (i,idS xd)).toArray 225)) (2 * ((nds lg).length * 4194304 - 0) + 1) :=
  ⟨_,[],[(i,idS xd)],_,HST.out,rfl,Rc.Own.of_row hon0 (by simp),(HTT.out.below HB3.out).alloc _,hbz.alloc hbz.size _,by simp⟩
 have HRCH:=Hd hrch;clear hon0 hbz hrch HST HTT HB2 HB3 HR2
 go_loopw [6] (fun on wx => ∃ N,RchN (nds lg) i w w.heap.size on wx N) (fun on wx => leastN (RchN (nds lg) i w w.heap.size on wx))
 case atStart => exact ⟨_,HRCH.out⟩
 case round =>
  obtain ⟨wo,rfl⟩ : ∃ wo,wo = wr:=⟨_,rfl⟩
  have hmin:=leastN_is hrel
  clear hrel HRCH
  obtain ⟨N0,hN0⟩ : ∃ N0,leastN (RchN (nds lg) i w w.heap.size u6 wo) = N0:=⟨_,rfl⟩
  rw [hN0] at hmin
  obtain ⟨T,D,Q,vs,hS⟩:=hmin
  have HN0:=Hd hN0;clear hN0
  obtain ⟨g',off',c',rfl,hg0,hglt,hc1,hc2,hcc⟩:=hS.on.at_
  cases Q with
  | nil =>
    have HS:=Hd hS;clear hS hcc
    go_wp2_with fail
    go_ret
    refine ⟨⟨w.heap.size,T,D,vs,by rw [nds_len];rfl,HS.out.tt,HS.out.run⟩,HS.out.below⟩
  | cons ju Qt =>
    obtain ⟨j,u⟩:=ju
    have hout:=hS.run.outs j u List.mem_cons_self
    have hjl : j < lg.length:=by
     have h : j < (nds lg).length:=by
      rcases hout with ⟨rfl,y,hy,_⟩ | ⟨t,y,ha,_⟩
      · exact (List.getElem?_eq_some_iff.1 hy).1
      · exact ha.lt
     rwa [nds_len] at h
    have hft:=fun wz (hz : Below wo.heap.size wo wz) => flowTo_any (some ⟨b,o,none⟩) lg c ((j : Nat) : Int) wz ((HG.out.below hS.below).below hz) (by omega) HI.out
    have hln:=toG_len ((j : Nat) : Int) 40 (nds lg) 0 HI.out
    rw [nds_len] at hln
    have hl1600 : (toG ((j : Nat) : Int) 0 (nds lg)).length ≤ 1600:=by omega
    obtain ⟨ps,hps⟩ : ∃ ps,toG ((j : Nat) : Int) 0 (nds lg) = ps:=⟨_,rfl⟩
    rw [hps] at hft hl1600
    have c0 : wo.cell? ⟨g',off',none⟩ = some (.int .i64 (j : Nat)):=hcc 0 _ rfl
    have c1 : wo.cell? ⟨g',off' + 1,none⟩ = some (.int .i64 u.fr):=hcc 1 _ rfl
    have c2 : wo.cell? ⟨g',off' + 2,none⟩ = some (.int .i64 u.to):=hcc 2 _ rfl
    have c3 : wo.cell? ⟨g',off' + 3,none⟩ = some (.int .i64 u.kp):=hcc 3 _ rfl
    have c4 : wo.cell? ⟨g',off' + 4,none⟩ = some (.int .i64 u.ad):=hcc 4 _ rfl
    have c5 : wo.cell? ⟨g',off' + 5,none⟩ = some (.int .i64 u.t0):=hcc 5 _ rfl
    have c6 : wo.cell? ⟨g',off' + 6,none⟩ = some (.int .i64 u.t1):=hcc 6 _ rfl
    have c7 : wo.cell? ⟨g',off' + 7,none⟩ = some (.int .i64 u.t2):=hcc 7 _ rfl
    have hcount:=hS.count
    have hrch0 : RchI (nds lg) i j u w w.heap.size wo.heap.size N0 ps 0 (.slice (some ⟨g',off',none⟩) (Qt.length + 1) c') (wo.alloc (.cells #[.int .i64 u.fr,.int .i64 u.to,.int .i64 u.kp,.int .i64 u.ad,.int .i64 u.t0,.int .i64 u.t1,.int .i64 u.t2] 82)) T D Qt vs :=
     ⟨hS.run,by rw [hcount];exact Nat.le_refl _,UptoP.none,hS.on.alloc _,hS.tt.alloc _,hS.tt.off_new,Mx.Holds.made wo u,hS.below.alloc hS.below.size _,by have:=hS.few;rw [List.length_cons] at this;omega⟩
    obtain ⟨nQ,hnQ⟩ : ∃ nQ,Qt.length + 1 = nQ:=⟨_,rfl⟩
    have hQ0 : 0 < nQ:=by omega
    have hQ1 : (0 : Int) < (nQ : Int):=by omega
    have HFT:=Hd hft;have HPS:=Hd hps;have HR0:=Hd hrch0;have HNQ:=Hd hnQ
    rw [show ((j,u) :: Qt).length = nQ from hnQ] at HN0 ⊢
    clear hft hps hrch0 hnQ hS hout hcc hcount hln
    go_wp2_with fail
    refine (HFT.out _ ((Below.refl _ _).alloc (Nat.le_refl _) _)).mono ?_;rintro e w4 ⟨⟨vp,rfl,hvp⟩,hb4⟩
    obtain ⟨PA,pc,rfl,_,_,_,_,_⟩:=Rw.Ts.of_own hvp
    have hr4:=HR0.out.kept hb4
    have HVP:=Hd hvp;have HR4:=Hd hr4;clear hvp hr4 hb4 HR0 HFT c0 c1 c2 c3 c4 c5 c6 c7
    obtain ⟨gs,hgs⟩ : ∃ gs,wo.heap.size = gs:=⟨_,rfl⟩
    rw [hgs] at HR4 ⊢
    clear hgs
    dsimp only
    rw [HNQ.out] at HR4
    go_wp2_with fail
    go_loopw [6,43] (fun on n wx => ∃ (q : Nat) (T : List (List Sm)) (D Q : List (Nat × Sm)) (vs : List Sl),n = .int .i64 q ∧ q ≤ ps.length ∧ RchI (nds lg) i j u w w.heap.size gs N0 ps q on wx T D Q vs ∧ ∃ bp,wx.ownsRow bp 62 kindP.K (.slice PA ps.length pc) ps.length (Rw.row kindP ps)) (fun _ n _ => ps.length - (intOf n).toNat)
    case atStart => exact ⟨0,T,D,Qt,vs,rfl,Nat.zero_le _,HR4.out,_,HVP.out⟩
    case round =>
     obtain ⟨w5,rfl⟩ : ∃ w5,w5 = wr:=⟨_,rfl⟩
     obtain ⟨q,T1,D1,Q1,vs1,rfl,hq,hI1,bp,hvp⟩:=hrel
     obtain ⟨g2,off2,c2,rfl,_,_,hc21,_,_⟩:=hI1.on.at_
     have HI1:=Hd hI1;have HVP1:=Hd hvp;clear hI1 hvp HR4 HVP
     by_cases hql : q < ps.length
     · have hqz : (q : Int) < (ps.length : Int):=by omega
       have hqb : q < 2000:=by omega
       obtain ⟨⟨m,z⟩,hmz⟩ : ∃ mz,ps[q]? = some mz:=⟨_,List.getElem?_eq_getElem hql⟩
       obtain ⟨pg,rfl⟩ : ∃ pg,PA = some ⟨pg,0,none⟩:=by
        rcases HVP1.out.2 with ⟨_,h0⟩ | ⟨g,cap,cur,e,_⟩
        · omega
        · injection e with e;exact ⟨g,e⟩
       have p0:=HVP1.out.cells (g:=pg) rfl (q * 2) (.int .i64 (m : Nat)) (by have:=Rw.row_at (κ:=kindP) ps q (m,z) hmz 0 _ rfl;simpa [kindP] using this)
       have p1:=HVP1.out.cells (g:=pg) rfl (q * 2 + 1) (.int .i64 (z : Nat)) (by have:=Rw.row_at (κ:=kindP) ps q (m,z) hmz 1 _ rfl;simpa [kindP] using this)
       rw [add_zero_off] at p0 p1
       have hpg : pg < w5.heap.size:=(HVP1.out.lt pg rfl).2
       obtain ⟨yn,hyn⟩:=toG_at (by rw [HPS.out];exact hmz)
       obtain ⟨y,hy,rfl⟩ : ∃ y,lg[m]? = some y ∧ y.nd = yn:=by
        unfold nds at hyn
        rw [List.getElem?_map,Option.map_eq_some_iff] at hyn
        exact hyn
       have hml : m < lg.length:=(List.getElem?_eq_some_iff.1 hy).1
       have hmlz : (m : Int) < (lg.length : Int):=by omega
       have hTl:=HI1.out.run.len
       rw [nds_len] at hTl
       obtain ⟨l,hl1⟩ : ∃ l,T1[m]? = some l:=⟨_,List.getElem?_eq_getElem (by omega)⟩
       obtain ⟨⟨sA,sn,sc⟩,hs1,hsn,hso,hsc⟩:=HI1.out.tt.get hl1
       simp only at hsn
       subst hsn
       have hlr:=HI1.out.run.row hl1
       obtain ⟨A9,c9,e9,hTs,_⟩:=Rw.Ts.of_own (κ:=kindS) (ts:=l) hso
       cases e9
       have hcf:=fun wz (hz : Below w5.heap.size w5 wz) => Mx.containsFunc_any sA l sc 179 #[.pointer (some ⟨gs,0,none⟩)] (fun x => decide (x.L u)) wz (Rw.Ts.below hTs hz) (by omega) (enters_of Tryz.func179 (by kernel_rfl) rfl) (fun _ => reachC gs u wz (HoldsM.below HI1.out.box hz))
       have hBl : w.heap.size < w5.heap.size:=HI1.out.tt.row.lt
       have hok : y.nd.smOk:=HF.out.fedOk (toG_fd.1 ⟨(m,z),by rw [HPS.out];exact List.mem_of_getElem? hmz,rfl⟩) hyn
       have HMZ:=Hd hmz;have HYN:=Hd hyn;have HY:=Hd hy;have HL1:=Hd hl1;have HS1:=Hd hs1;have HSO:=Hd hso;have HLR:=Hd hlr;have HCF:=Hd hcf;have HOK:=Hd hok
       clear hmz hyn hy hl1 hs1 hso hlr hcf hok hTs hTl
       go_wp2_with fail
       refine (HCF.out _ ((Below.refl _ _).alloc (Nat.le_refl _) _)).mono ?_;rintro e w6 ⟨rfl,hb6⟩
       have hb56 : Below w5.heap.size w5 w6:=((Below.refl w5.heap.size w5).alloc (Nat.le_refl _) (.cells #[.int .i64 (m : Nat),.int .i64 (z : Nat)] 62)).trans (hb6.mono (by simp))
       have HI6:=Hd (HI1.out.kept hb56);have HVP6:=Hd (Rw.own_kept HVP1.out hb56);have HSO6:=Hd (own_keptM HSO.out hb56)
       have hBl6 : w.heap.size < w6.heap.size:=Nat.lt_of_lt_of_le hBl hb56.size
       clear hb6 hb56 p0 p1 hsc hBl hpg HCF
       dsimp only
       cases hany : (l.any fun x => decide (x.L u)) with
       | true =>
         have hcov : CovAt T1 m u:=by
          obtain ⟨t,ht,hl⟩:=List.any_eq_true.1 hany
          exact ⟨l,t,HL1.out,ht,of_decide_eq_true hl⟩
         have HSK:=Hd (HI6.out.skip HMZ.out hcov);clear hany hcov
         go_wp2_with fail
         go_roundw
         case rel => exact ⟨q + 1,T1,D1,Q1,vs1,by simp,by omega,HSK.out,bp,HVP6.out⟩
         case measure => simp only [intOf];omega
       | false =>
         have hno : ∀ t ∈ l,¬ t.L u:=fun t ht hl => by
          have:=List.any_eq_false.1 hany t ht
          simp only [decide_eq_true_eq] at this
          exact this hl
         have HNO:=Hd hno;clear hno hany
         have e1 : w6.cell? ⟨w.heap.size,m,none⟩ = some (.slice sA l.length sc):=by rw [HI6.out.tt.row.cell];exact slv_at HS1.out
         obtain ⟨d0,d1,d2,d3,d4,d5,d6⟩:=HI6.out.box.cells5
         have hgl : gs < w6.heap.size:=Row.lt HI6.out.box
         have hrow6:=HI6.out.tt.row
         obtain ⟨is,his,hs0,hs1',hs2⟩:=info_parts Mx.infoSum
         have hsB : (Value.slice sA l.length sc).ownBlock ≠ some w.heap.size:=fun e => by
          rcases own_apartM HSO6.out hrow6 (by decide) with e2 | e2
          · rw [e2] at e;cases e
          · exact e2 e
         have HIS:=Hd his;have HZ0:=Hd hs0;have HZ1:=Hd hs1';have HZ2:=Hd hs2;have HROW6:=Hd hrow6;have HSB:=Hd hsB
         clear his hs0 hs1' hs2 hrow6 hsB
         go_upto_region 12 with fail
         go_cut [] from 55 to 65 (fun wx => ∃ vs2,RchJ (nds lg) i j u w w.heap.size gs N0 ps q (.slice (some ⟨g2,off2,none⟩) (Q1.length + 1) c2) wx T1 D1 Q1 vs2 m y.nd (T1.set m (waysS (l ++ [u]))) ∧ wx.ownsRow bp 62 kindP.K (.slice (some ⟨pg,0,none⟩) ps.length pc) ps.length (Rw.row kindP ps))
         case first =>
          go_region_law
           (first
             | (refine step_append_lies _ (by rfl) _ _ _ (by rfl) w.heap.size 82 is _ 7 56 Tryz.underlying75 HIS.out HZ0.out HZ1.out HZ2.out rfl (by omega) (.slice sA l.length sc) _ _ (by rfl) ((HSO6.out.alloc _).drew)
                 ⟨w6.heap.size,0,none⟩ 1 1 [.int .i64 u.fr,.int .i64 u.to,.int .i64 u.kp,.int .i64 u.ad,.int .i64 u.t0,.int .i64 u.t1,.int .i64 u.t2] (by rfl) (by rfl) (World.news_of_block (cs:=#[.int .i64 u.fr,.int .i64 u.to,.int .i64 u.kp,.int .i64 u.ad,.int .i64 u.t0,.int .i64 u.t1,.int .i64 u.t2]) (t:=82) (fr:=(0,0)) (heap_alloc_new w6 _)) (by simp [Value.oneCell'])
                 (by omega) (by unfold maxLen;have:=HLR.out;omega) (by have:=HLR.out;omega) (by simp;omega) (w6.heap.size + 1) (by simp) ?_;intro gg cap w7 hown7 hgrow7 hat7 hlt7)
             | (refine step_call (by rfl) _ _ (by rfl) Tryz.func47 (by kernel_rfl) (by rfl) [.slice (some ⟨gg,0,none⟩) (l.length + 1) cap] (by rfl) (least_sl hown7 HLR.out) ?_;rintro _ w8 ⟨A8,n8,c8,rfl,hown8,hb8⟩;have hr7 : Row w7 w.heap.size 75 (slv vs1):=((HROW6.out.alloc _).drew).grown hgrow7 (fun e => HSB.out e.symm);have hr8 : Row w8 w.heap.size 75 (slv vs1):=hr7.below hb8 hr7.lt;have f5 : w8.frozen? ⟨w.heap.size,m,none⟩ = false:=hr8.free m;have f6 : w8.cell? ⟨w.heap.size,m,none⟩ = some (.slice sA l.length sc):=by { rw [hr8.cell];exact slv_at HS1.out }))
          all_goals
           have hg67 : w6.grownBy w7 (Value.slice sA l.length sc).ownBlock:=World.grownBy.trans (World.grownBy_alloc w6 _ _) ⟨hgrow7.os,hgrow7.tape,hgrow7.output,hgrow7.size,hgrow7.block⟩
           have hJ:=RchI.put (s:=⟨sA,l.length,sc⟩) (s2:=⟨A8,n8,c8⟩) HF.out HI6.out HMZ.out HPS.out HYN.out HL1.out HS1.out HNO.out hg67 hb8 hown8
           have hp7:=HVP6.out.kept hg67 (Rw.own_apart2 HSO6.out HVP6.out (by decide))
           have hp8 : w8.ownsRow bp 62 kindP.K (.slice (some ⟨pg,0,none⟩) ps.length pc) ps.length (Rw.row kindP ps):=Rw.own_kept hp7 hb8
           have hp9:=hp8.kept (grown_set w8 w.heap.size m (.slice A8 n8 c8)) (.inr fun e => Rw.own_apart hp8 hr8 (by decide) e.symm)
           have HJ:=Hd hJ;have HP9:=Hd hp9
           clear hJ hp7 hp8 hp9 hg67 hgrow7 hown7 hown8 hb8 hr7 hr8 f5 f6 hat7
           go_wp2_with fail
           go_meet
           exact ⟨_,HJ.out,HP9.out⟩
         case rest =>
          obtain ⟨vs2,hJ,hp⟩:=hcut
          clear e1 d0 d1 d2 d3 d4 d5 d6
          obtain ⟨w9,rfl⟩ : ∃ w9,w9 = wc:=⟨_,rfl⟩
          obtain ⟨b9,o9,e,_,hln⟩:=(HG.out.below hJ.below).load HY.out
          cases e
          obtain ⟨⟨yk,ya,yb,yd,yi⟩,yA,yc⟩:=y
          have hon:=fun wz => ofNode_any yk ya yb yd yi yA yc wz HOK.out
          obtain ⟨O,hO⟩ : ∃ O,Nd.sm ⟨yk,ya,yb,yd,yi⟩ = O:=⟨_,rfl⟩
          rw [hO] at hon
          have hth:=fun wz => then_any u O wz
          have hyes:=Sm.th_yes (a:=u) (b:=O)
          have hno':=Sm.th_no (a:=u) (b:=O)
          generalize u.th O = S at *
          generalize u.thB O = TB at *
          have hsx : HoldsM w9 gs 82 u:=hJ.box
          have HJ:=Hd hJ;have HP:=Hd hp;have HLN:=Hd hln;have HON:=Hd hon;have HTH:=Hd hth;have HYES:=Hd hyes;have HNO2:=Hd hno';have HSX:=Hd hsx;have HO:=Hd hO
          clear hJ hp hln hon hth hyes hno' hsx hO
          go_upto_region 13 with fail
          refine Free.wp_key (by kernel_rfl) (by kernel_rfl) (PutF w9 10 11 82 [.int .i64 0,.int .i64 0,.int .i64 0,.int .i64 0,.int .i64 0,.int .i64 0,.int .i64 0] [.int .i64 S.fr,.int .i64 S.to,.int .i64 S.kp,.int .i64 S.ad,.int .i64 S.t0,.int .i64 S.t1,.int .i64 S.t2]) (RchV lg b o c m gs yk ya yc yb yd yi yA u O S TB) (fun vs => PutF.start 13 (by decide) (by decide) _ _ _ _ vs) ?_ ?_
          · intro i o hi bz vs az wa hold hpre hbi hF
            match i with
            | 0 =>
              cases hi
              exact Free.c_all rfl (Free.g_load _ _ rfl ((hold 7 (by decide)).trans rfl) (load_m HSX.out wa hF.1) ⟨rfl,hF.keep (Below.refl _ _) (by decide) (by decide)⟩)
            | 1 =>
              cases hi
              exact Free.c_all rfl (Free.g_move _ rfl ⟨((hold 0 (by decide)).trans rfl),hF.keep (Below.refl _ _) (by decide) (by decide)⟩)
            | 2 =>
              cases hi
              exact Free.c_all rfl (Free.g_move _ rfl ⟨((hold 11 (by decide)).trans rfl),hF.keep (Below.refl _ _) (by decide) (by decide)⟩)
            | 3 =>
              cases hi
              have h1 : az.eval (.tmp 68) = .slice (some ⟨b,o,none⟩) lg.length c:=(hpre 1 _ _ (by kernel_rfl) rfl rfl).2.2
              have h2 : az.eval (.tmp 69) = .int .i64 (m : Nat):=(hpre 2 _ _ (by kernel_rfl) rfl rfl).2.2
              exact Free.c_all rfl (Free.g_indexAddr (v:=.pointer (some ⟨b,o + m * 5,none⟩)) _ _ _ rfl h1 h2 (by go_simp) ⟨rfl,hF.keep (Below.refl _ _) (by decide) (by decide)⟩)
            | 4 =>
              cases hi
              have h0 : az.eval (.tmp 70) = .pointer (some ⟨b,o + m * 5,none⟩):=(hpre 3 _ _ (by kernel_rfl) rfl rfl).2.2
              exact Free.c_all rfl (Free.g_load _ _ rfl h0 (HLN.out wa hF.1) ⟨rfl,hF.keep (Below.refl _ _) (by decide) (by decide)⟩)
            | 5 =>
              cases hi
              have h0 : az.eval (.tmp 71) = .agg #[.int .u8 (yk : Nat),.int .u8 (ya : Nat),.int .i64 yb,.int .i64 yd,.slice yA yi.length yc]:=(hpre 4 _ _ (by kernel_rfl) rfl rfl).2.2
              refine Free.c_all rfl (Free.g_call _ _ rfl Tryz.func180 (by kernel_rfl) rfl [.agg #[.int .u8 (yk : Nat),.int .u8 (ya : Nat),.int .i64 yb,.int .i64 yd,.slice yA yi.length yc]] (by show [az.eval (.tmp 71)] = _;rw [h0]) ?_)
              exact ((fun wa _ => HON.out wa) wa hF.1).mono fun e w2 ⟨he,hb2⟩ => ⟨_,he,rfl,hF.keep hb2 (by decide) (by decide)⟩
            | 6 =>
              cases hi
              have h0 : az.eval (.tmp 67) = .agg #[.int .i64 u.fr,.int .i64 u.to,.int .i64 u.kp,.int .i64 u.ad,.int .i64 u.t0,.int .i64 u.t1,.int .i64 u.t2]:=(hpre 0 _ _ (by kernel_rfl) rfl rfl).2.2
              have h1 : az.eval (.tmp 72) = .agg #[.int .i64 O.fr,.int .i64 O.to,.int .i64 O.kp,.int .i64 O.ad,.int .i64 O.t0,.int .i64 O.t1,.int .i64 O.t2]:=(hpre 5 _ _ (by kernel_rfl) rfl rfl).2.2
              refine Free.c_all rfl (Free.g_call _ _ rfl Tryz.func46 (by kernel_rfl) rfl [.agg #[.int .i64 u.fr,.int .i64 u.to,.int .i64 u.kp,.int .i64 u.ad,.int .i64 u.t0,.int .i64 u.t1,.int .i64 u.t2],.agg #[.int .i64 O.fr,.int .i64 O.to,.int .i64 O.kp,.int .i64 O.ad,.int .i64 O.t0,.int .i64 O.t1,.int .i64 O.t2]] (by show [az.eval (.tmp 67),az.eval (.tmp 72)] = _;rw [h0,h1]) ?_)
              exact ((fun wa _ => HTH.out wa) wa hF.1).mono fun e w2 ⟨he,hb2⟩ => ⟨_,he,rfl,hF.keep hb2 (by decide) (by decide)⟩
            | 7 =>
              cases hi
              have h0 : az.eval (.tmp 73) = .tuple #[.agg #[.int .i64 S.fr,.int .i64 S.to,.int .i64 S.kp,.int .i64 S.ad,.int .i64 S.t0,.int .i64 S.t1,.int .i64 S.t2],.bool TB]:=(hpre 6 _ _ (by kernel_rfl) rfl rfl).2.2
              exact Free.c_all rfl (Free.g_move _ rfl ⟨h0,hF.keep (Below.refl _ _) (by decide) (by decide)⟩)
            | 8 =>
              cases hi
              have h0 : az.eval (.tmp 66) = .tuple #[.agg #[.int .i64 S.fr,.int .i64 S.to,.int .i64 S.kp,.int .i64 S.ad,.int .i64 S.t0,.int .i64 S.t1,.int .i64 S.t2],.bool TB]:=(hpre 7 _ _ (by kernel_rfl) rfl rfl).2.2
              refine Free.c_all rfl ?_
              unfold execOp
              simp only [h0]
              go_simp
              exact ⟨rfl,hF.keep (Below.refl _ _) (by decide) (by decide)⟩
            | 9 =>
              cases hi
              have h0 : az.eval (.tmp 66) = .tuple #[.agg #[.int .i64 S.fr,.int .i64 S.to,.int .i64 S.kp,.int .i64 S.ad,.int .i64 S.t0,.int .i64 S.t1,.int .i64 S.t2],.bool TB]:=(hpre 7 _ _ (by kernel_rfl) rfl rfl).2.2
              refine Free.c_all rfl ?_
              unfold execOp
              simp only [h0]
              go_simp
              exact ⟨rfl,hF.keep (Below.refl _ _) (by decide) (by decide)⟩
            | 10 =>
              cases hi
              refine Free.c_all rfl ?_
              unfold execOp
              go_simp
              exact ⟨trivial,hF.alloc (by decide) hbi⟩
            | 11 =>
              cases hi
              have hq:=id (hpre (10) _ _ (by kernel_rfl) rfl rfl)
              have hx : az.eval (.tmp 74) = .agg #[.int .i64 S.fr,.int .i64 S.to,.int .i64 S.kp,.int .i64 S.ad,.int .i64 S.t0,.int .i64 S.t1,.int .i64 S.t2]:=(hpre 8 _ _ (by kernel_rfl) rfl rfl).2.2
              obtain ⟨blk,hblk,hle,hrow⟩:=hF.row hq.1 hbi
              have hp : az.eval (.tmp 12) = .pointer (some ⟨blk,0,none⟩):=hq.2.1.trans hblk
              have hc0:=hrow.cell 0;have hf0:=hrow.free 0
              have hc1:=hrow.cell 1;have hf1:=hrow.free 1
              have hc2:=hrow.cell 2;have hf2:=hrow.free 2
              have hc3:=hrow.cell 3;have hf3:=hrow.free 3
              have hc4:=hrow.cell 4;have hf4:=hrow.free 4
              have hc5:=hrow.cell 5;have hf5:=hrow.free 5
              have hc6:=hrow.cell 6;have hf6:=hrow.free 6
              simp only [List.getElem?_cons_succ,List.getElem?_cons_zero] at hc0 hc1 hc2 hc3 hc4 hc5 hc6
              refine Free.c_all rfl ?_
              unfold execOp
              simp only [hp,hx]
              go_simp
              exact ⟨rfl,hF.store (by decide) hq.1 hblk hle (row_set7 hrow) ((((((((hF.1.setCell hle _).setCell hle _).setCell hle _).setCell hle _).setCell hle _).setCell hle _).setCell hle _))⟩
            | 12 =>
              cases hi
              have h0 : az.eval (.tmp 75) = .bool TB:=(hpre 9 _ _ (by kernel_rfl) rfl rfl).2.2
              exact Free.c_all rfl (Free.g_assign _ rfl ⟨h0,hF.keep (Below.refl _ _) (by decide) (by decide)⟩)
            | _ + 13 => cases hi
          · intro vs we hv hF
            obtain ⟨hbE,blk,hblk,hle,hrowE⟩:=hF.done
            clear hF
            have e12 : vs 12 = .bool TB:=hv 12 (by simp) (by rintro o ⟨⟩;rfl)
            clear hv
            simp only [Free.puts,Nat.reduceAdd,hblk,e12]
            clear e12
            clear hblk
            generalize vs 0 = y0
            generalize vs 1 = y1
            generalize vs 2 = y2
            generalize vs 3 = y3
            generalize vs 4 = y4
            generalize vs 5 = y5
            generalize vs 6 = y6
            generalize vs 7 = y7
            generalize vs 8 = y8
            generalize vs 9 = y9
            generalize vs 11 = y11
            clear vs
            go_simp
            have HJ10:=Hd (HJ.out.kept hbE);have HP10:=Hd (Rw.own_kept HP.out hbE);have HSS : Hid (Mx.Holds we blk S):=Hd hrowE
            clear hbE hle hrowE HJ HP HLN HON HTH HSX
            generalize we = w10 at *
            generalize blk = gM at *
            cases TB with
            | false =>
              have hto : ¬ u.thenOk (Nd.sm ⟨yk,ya,yb,yd,yi⟩):=fun h => by
               rw [HO.out] at h
               have:=(HYES.out h).2;cases this
              have HIN:=Hd (HJ10.out.no hto);clear hto
              go_wp2_with fail
              go_roundw
              case rel => exact ⟨q + 1,_,_,Q1,vs2,by simp,by omega,HIN.out,bp,HP10.out⟩
              case measure => simp only [intOf];omega
            | true =>
              have hto : u.thenOk O:=by
               apply Classical.byContradiction
               intro h
               have:=(HNO2.out h).2;cases this
              have hSe:=(HYES.out hto).1
              rw [← HO.out] at hto hSe
              obtain ⟨s0,s1,s2,s3,s4,s5,s6⟩:=HSS.out.cells5
              have hbnd:=HJ10.out.room
              have hfew:=HJ10.out.few
              rw [nds_len] at hbnd
              have hqn : Q1.length ≤ 60000000:=by omega
              have hty:=Rw.Ts.made (κ:=kindW) w10 [(m,S)] 225
              have hon10:=HJ10.out.on
              have hsz:=HJ10.out.below.size
              have HTO:=Hd hto;have HSE:=Hd hSe;have HQN:=Hd hqn;have HTY:=Hd hty;have HON:=Hd hon10;have HSZ:=Hd hsz
              clear hto hSe hbnd hfew hqn hty hon10 hsz
              go_wp2_with (at_builtin;refine Rc.append_own kindW 225 226 Tryz.underlying226 infoWay rfl rfl _ _ rfl w.heap.size _ (Q1.length + 1) ((j,u) :: Q1) rfl (HON.out.alloc _) _ 1 [(m,S)] rfl HTY.out (by simp) (by unfold maxLen;have:=HQN.out;simp;omega) (by have:=HQN.out;simp;omega) (by have:=HSZ.out;simp;omega) ?_;intro v11 w11 hv11 hg11 _;have hy11:=RchJ.yes HJ10.out HTO.out rfl (by rw [← HSE.out];exact hv11) hg11;have hp11:=ways11_kept HON.out HP10.out hg11;have HY11:=Hd hy11;have HP11:=Hd hp11;clear hy11 hp11 hv11 hg11)
              go_roundw
              case rel => exact ⟨q + 1,_,_,_,vs2,by simp,by omega,HY11.out,bp,HP11.out⟩
              case measure => simp only [intOf];omega
     · have hqz : ¬ (q : Int) < (ps.length : Int):=by omega
       have hqe : q = ps.length:=by omega
       subst hqe
       obtain ⟨N,hN,hS2⟩:=HI1.out.ends HF.out HPS.out
       have HS2:=Hd hS2;have HNN:=Hd hN;clear hS2 hN
       obtain ⟨nQ2,hnQ2⟩ : ∃ nQ2,Q1.length + 1 = nQ2:=⟨_,rfl⟩
       have hQ2 : (1 : Int) ≤ (nQ2 : Int):=by omega
       rw [hnQ2] at hc21 ⊢
       have HNQ2:=Hd hnQ2;clear hnQ2
       have hlast : RchN (nds lg) i w w.heap.size (.slice (if c2 = 1 then some ⟨g2,off2,none⟩ else some ⟨g2,off2 + 8,none⟩) (nQ2 - 1) (c2 - 1)) w5 N:=by
        have e : Q1.length = nQ2 - 1:=by have:=HNQ2.out;omega
        have h:=HS2.out
        rw [e] at h
        exact ⟨T1,D1,Q1,vs1,h⟩
       have HLAST:=Hd hlast;clear hlast
       go_wp2_with fail
       go_roundw
       case rel => exact ⟨N,HLAST.out⟩
       case measure => rw [HN0.out];exact Nat.lt_of_le_of_lt (leastN_le HLAST.out) HNN.out
end

section
def CloneD {α : Type} (κ : Kind α) (T : TypeId) (l : List α) (w : World) (e : Ending) (w' : World) : Prop:=(∃ v,e = .returned v ∧ w'.ownsRow w.heap.size T κ.K v l.length (Rw.row κ l)) ∧ Below w.heap.size w w'
theorem made0 (w : World) (T : TypeId) (size : Nat) : (w.alloc (.cells #[] T)).ownsRow w.heap.size T size (.slice (some ⟨w.heap.size,0,none⟩) 0 0) 0 []:=World.ownsRow_made w #[] 0 (Nat.le_refl _) (Nat.zero_le _) (by simp)
set_option maxHeartbeats 2000000 in
theorem cloneG_any (A : Option Addr) (l : List Gn) (c : Nat) (w : World) (hT : Rw.Ts kindG w A l) (hc : A = none → c = 0 ∧ l = []) (hl : l.length ≤ 60000000) :
 Calls Tryz.prog 103 #[.slice A l.length c] w (CloneD kindG 58 l w):=by
 have q22 : ∀ (w : World) (a : Option Addr) (n c n' c' : Nat),(binOp .eql 23 (.slice a n c) (.slice none n' c')).run Tryz.prog w = .ok (.bool a.isNone) w:=fun w a n c n' c' => Lib.run_eql_slice_nil w _ _ a n c n' c' Tryz.underlying23
 cases A with
 | none =>
   obtain ⟨rfl,rfl⟩:=hc rfl
   clear hT hc
   go_enter Tryz.func103,Tryz.ntmps103
   go_wp2
   go_ret
   exact ⟨⟨_,rfl,World.ownsRow_nil _ _ _ _⟩,Below.refl _ _⟩
 | some a =>
   have HT:=Hd hT;clear hT hc
   go_enter Tryz.func103,Tryz.ntmps103
   go_wp2_with (at_builtin;refine Rw.append_own kindG 58 23 Tryz.underlying23 infoNode rfl rfl _ _ rfl w.heap.size _ 0 [] rfl (made0 w _ _) (some a) c l rfl (fun e => by cases e) (HT.out.below ((Below.refl _ _).alloc (Nat.le_refl _) _)) (by unfold maxLen;omega) (by omega) (by simp) ?_;intro v' w1 hown hgrow)
   have hb : Below w.heap.size w w1:=((Below.refl _ w).alloc (Nat.le_refl _) _).grown hgrow (by simp) (by rintro k ⟨⟩;exact Nat.le_refl _)
   have HO:=Hd (And.intro hown hb);clear hown hb hgrow
   go_wp2_with fail
   go_ret
   refine ⟨⟨v',rfl,?_⟩,HO.out.2⟩
   have h:=HO.out.1
   rw [Nat.zero_add,List.nil_append] at h
   exact h
set_option maxHeartbeats 2000000 in
theorem cloneI_any (A : Option Addr) (l : List Int) (c : Nat) (w : World) (hT : Rw.Ts kindI w A l) (hc : A = none → c = 0 ∧ l = []) (hl : l.length ≤ 60000000) :
 Calls Tryz.prog 104 #[.slice A l.length c] w (CloneD kindI 3 l w):=by
 have q22 : ∀ (w : World) (a : Option Addr) (n c n' c' : Nat),(binOp .eql 56 (.slice a n c) (.slice none n' c')).run Tryz.prog w = .ok (.bool a.isNone) w:=fun w a n c n' c' => Lib.run_eql_slice_nil w _ _ a n c n' c' Tryz.underlying56
 cases A with
 | none =>
   obtain ⟨rfl,rfl⟩:=hc rfl
   clear hT hc
   go_enter Tryz.func104,Tryz.ntmps104
   go_wp2
   go_ret
   exact ⟨⟨_,rfl,World.ownsRow_nil _ _ _ _⟩,Below.refl _ _⟩
 | some a =>
   have HT:=Hd hT;clear hT hc
   go_enter Tryz.func104,Tryz.ntmps104
   go_wp2_with (at_builtin;refine Rw.append_own kindI 3 56 Tryz.underlying56 infoInt rfl rfl _ _ rfl w.heap.size _ 0 [] rfl (made0 w _ _) (some a) c l rfl (fun e => by cases e) (HT.out.below ((Below.refl _ _).alloc (Nat.le_refl _) _)) (by unfold maxLen;omega) (by omega) (by simp) ?_;intro v' w1 hown hgrow)
   have hb : Below w.heap.size w w1:=((Below.refl _ w).alloc (Nat.le_refl _) _).grown hgrow (by simp) (by rintro k ⟨⟩;exact Nat.le_refl _)
   have HO:=Hd (And.intro hown hb);clear hown hb hgrow
   go_wp2_with fail
   go_ret
   refine ⟨⟨v',rfl,?_⟩,HO.out.2⟩
   have h:=HO.out.1
   rw [Nat.zero_add,List.nil_append] at h
   exact h
end

section
theorem row_put {α : Type} (κ : Kind α) (t' : α) (j : Nat) (u : Value) (hj : j < κ.K) : ∀ (ts : List α) (i : Nat) (t : α),ts[i]? = some t → κ.cells t' = (κ.cells t).set j u → (Rw.row κ ts).set (i * κ.K + j) u = Rw.row κ (ts.set i t')
 | [],i,t,h,_ => by simp at h
 | x :: ts,0,t,h,hc => by
   obtain rfl : x = t:=by simpa using h
   rw [List.set_cons_zero,Rw.row_cons,Rw.row_cons,Nat.zero_mul,Nat.zero_add,List.set_append_left (h:=by rw [κ.len];exact hj),hc]
 | x :: ts,i + 1,t,h,hc => by
   rw [List.set_cons_succ,Rw.row_cons,Rw.row_cons,List.set_append_right (h:=by rw [κ.len,Nat.succ_mul];omega),κ.len,Nat.succ_mul,show i * κ.K + κ.K + j - κ.K = i * κ.K + j by omega,row_put κ t' j u hj ts i t (by simpa using h) hc]
structure CopS (w0 wx : World) (v : Value) (l : List Gn) (k : Nat) (M : List Gn) : Prop where
 len : M.length = l.length
 nd : nds M = nds l
 row : wx.ownsRow w0.heap.size 58 kindG.K v M.length (Rw.row kindG M)
 ok : ∀ (j : Nat) (x : Gn),M[j]? = some x → x.Ok
 own : ∀ (j : Nat) (x : Gn),j < k → M[j]? = some x → wx.ownsRow w0.heap.size 3 kindI.K (.slice x.A x.nd.ins.length x.c) x.nd.ins.length (Rw.row kindI x.nd.ins)
 old : ∀ (j : Nat),k ≤ j → M[j]? = l[j]?
 below : Below w0.heap.size w0 wx
section
variable {w0 wx wy wz : World} {v : Value} {l M : List Gn} {k : Nat}
theorem CopS.step {g cap : Nat} {x : Gn} {A : Option Addr} {c : Nat} (h : CopS w0 wx (.slice (some ⟨g,0,none⟩) l.length cap) l k M) (hk : l[k]? = some x) (hb : Below wx.heap.size wx wy)
 (ho : wy.ownsRow wx.heap.size 3 kindI.K (.slice A x.nd.ins.length c) x.nd.ins.length (Rw.row kindI x.nd.ins)) (hc : x.nd.ins.length ≤ c) (hm : c ≤ maxLen) (hn : A = none → c = 0) :
 CopS w0 (wy.setCell ⟨g,k * 5 + 4,none⟩ (.slice A x.nd.ins.length c)) (.slice (some ⟨g,0,none⟩) l.length cap) l (k + 1) (M.set k ⟨x.nd,A,c⟩):=by
 have hx : M[k]? = some x:=(h.old k (Nat.le_refl _)).trans hk
 have hkl : k < M.length:=(List.getElem?_eq_some_iff.1 hx).1
 have hokx:=h.ok k x hx
 have hrow : wy.ownsRow w0.heap.size 58 kindG.K (.slice (some ⟨g,0,none⟩) M.length cap) M.length (Rw.row kindG M):=by
  have:=Rw.own_kept h.row hb
  rw [h.len] at this ⊢
  exact this
 have hst:=(hrow.stored (k * 5 + 4) (.slice A x.nd.ins.length c)).1
 have e:=row_put kindG (⟨x.nd,A,c⟩ : Gn) 4 (.slice A x.nd.ins.length c) (by decide) M k x hx rfl
 rw [show k * kindG.K + 4 = k * 5 + 4 from rfl] at e
 rw [e] at hst
 have hset:=grown_set wy g (k * 5 + 4) (.slice A x.nd.ins.length c)
 have hgb : w0.heap.size ≤ g:=(hrow.lt g rfl).1
 have keep : ∀ {base' n' : Nat} {u : Value} {ys : List Value},wy.ownsRow base' 3 kindI.K u n' ys → (wy.setCell ⟨g,k * 5 + 4,none⟩ (.slice A x.nd.ins.length c)).ownsRow base' 3 kindI.K u n' ys:=fun hy =>
  hy.kept hset (Rw.own_apart2 hrow hy (by decide))
 refine ⟨by rw [List.length_set];exact h.len,?_,?_,fun j y hy => ?_,fun j y hj hy => ?_,fun j hj => ?_,(h.below.trans (hb.mono h.below.size)).setCell hgb _⟩
 · rw [← h.nd]
   unfold nds
   rw [List.map_set]
   apply List.ext_getElem?
   intro j
   by_cases e : k = j
   · subst e
     rw [List.getElem?_set_self (by rw [List.length_map];exact hkl),List.getElem?_map,hx];rfl
   · rw [List.getElem?_set_ne e]
 · rw [List.length_set]
   have:=hst
   rw [h.len] at this ⊢
   exact this
 · by_cases e : k = j
   · subst e
     rw [List.getElem?_set_self hkl] at hy
     cases hy
     exact ⟨hokx.k,hokx.a,hokx.b,hokx.d,hokx.ins,⟨hc,hm⟩,hn⟩
   · rw [List.getElem?_set_ne e] at hy;exact h.ok j y hy
 · by_cases e : k = j
   · subst e
     rw [List.getElem?_set_self hkl] at hy
     cases hy
     exact keep (own_base ho h.below.size)
   · rw [List.getElem?_set_ne e] at hy
     exact keep (Rw.own_kept (h.own j y (by omega) hy) hb)
 · rw [List.getElem?_set_ne (by omega)];exact h.old j (by omega)
end
set_option maxHeartbeats 4000000 in
theorem copied_any (A : Option Addr) (l : List Gn) (c : Nat) (w : World) (hG : Gr w A l) (hn : A = none → c = 0 ∧ l = []) (hl : l.length ≤ 1000) (hi : ∀ x ∈ l,x.nd.ins.length ≤ 1000) :
 Calls Tryz.prog 52 #[.slice A l.length c] w (OwnedG l w):=by
 have hcl:=cloneG_any A l c w hG.1 hn (by omega)
 have HCL:=Hd hcl;have HG:=Hd hG;have HI:=Hd hi;clear hcl hG hi hn
 go_enter Tryz.func52,Tryz.ntmps52
 go_wp2_with fail
 refine HCL.out.mono ?_;rintro e w1 ⟨⟨v,rfl,ho⟩,hb1⟩
 obtain ⟨CA,cc,rfl,_,_,_,_,_⟩:=Rw.Ts.of_own ho
 have hst : CopS w w1 (.slice CA l.length cc) l 0 l:=⟨rfl,rfl,ho,fun j x hx => HG.out.ok hx,fun j x hj => absurd hj (Nat.not_lt_zero _),fun j _ => rfl,hb1⟩
 have HST:=Hd hst;clear hst ho hb1 HCL
 dsimp only
 go_wp2_with fail
 go_loopw [10] (fun n wx => ∃ (k : Nat) (M : List Gn),n = .int .i64 k ∧ k ≤ l.length ∧ CopS w wx (.slice CA l.length cc) l k M) (fun n _ => l.length - (intOf n).toNat)
 case atStart => exact ⟨0,l,rfl,Nat.zero_le _,HST.out⟩
 case round =>
  obtain ⟨wo,rfl⟩ : ∃ wo,wo = wr:=⟨_,rfl⟩
  obtain ⟨k,M,rfl,hk,hS⟩:=hrel
  have HS:=Hd hS;clear hS HST
  by_cases hkl : k < l.length
  · have hkz : (k : Int) < (l.length : Int):=by omega
    obtain ⟨x,hx⟩ : ∃ x,l[k]? = some x:=⟨_,List.getElem?_eq_getElem hkl⟩
    have hxM : M[k]? = some x:=(HS.out.old k (Nat.le_refl _)).trans hx
    obtain ⟨g,rfl⟩ : ∃ g,CA = some ⟨g,0,none⟩:=by
     obtain ⟨g,cap,e,_⟩:=World.ownsRow.form HS.out.row (by have:=HS.out.len;omega)
     injection e with e;exact ⟨g,e⟩
    have hrw : wo.ownsRow w.heap.size 58 kindG.K (.slice (some ⟨g,0,none⟩) l.length cc) M.length (Rw.row kindG M):=HS.out.row
    have hcell : ∀ (j : Nat) (u : Value),(kindG.cells x)[j]? = some u → wo.cell? ⟨g,k * 5 + j,none⟩ = some u:=fun j u hu => by
     have:=World.ownsRow.cells hrw (g:=g) rfl (k * 5 + j) u (Rw.row_at (κ:=kindG) M k x hxM j u hu)
     rw [add_zero_off] at this
     exact this
    have hgl : g < wo.heap.size:=(hrw.lt g rfl).2
    have hci:=fun wz (hz : Below wo.heap.size wo wz) => cloneI_any x.A x.nd.ins x.c wz (((HG.out.below HS.out.below).ins hx).below hz) (fun e => ⟨(HG.out.ok hx).none e,by
     have h1:=(HG.out.ok hx).c;have h2:=(HG.out.ok hx).none e
     exact List.eq_nil_of_length_eq_zero (by omega)⟩) (by have:=HI.out x (List.mem_of_getElem? hx);omega)
    have HCI:=Hd hci;have HX:=Hd hx;clear hci hx hxM hrw
    obtain ⟨⟨xk,xa,xb,xd,xi⟩,xA,xc⟩:=x
    have c0:=hcell 0 _ rfl;have c1:=hcell 1 _ rfl;have c2:=hcell 2 _ rfl;have c3:=hcell 3 _ rfl;have c4:=hcell 4 _ rfl
    simp only [Nat.add_zero] at c0 c1 c2 c3 c4
    clear hcell
    go_wp2_with fail
    refine (HCI.out _ ((Below.refl _ _).alloc (Nat.le_refl _) _)).mono ?_;rintro e w3 ⟨⟨v3,rfl,ho3⟩,hb3⟩
    obtain ⟨A3,c3',rfl,_,hc31,hc32,hc33,_⟩:=Rw.Ts.of_own ho3
    have hb4 : Below wo.heap.size wo w3:=((Below.refl wo.heap.size wo).alloc (Nat.le_refl _) (.cells #[.int .u8 (xk : Nat),.int .u8 (xa : Nat),.int .i64 xb,.int .i64 xd,.slice xA xi.length xc] 58)).trans (hb3.mono (by simp))
    have ho4 : w3.ownsRow wo.heap.size 3 kindI.K (.slice A3 xi.length c3') xi.length (Rw.row kindI xi):=own_base ho3 (by simp)
    have hnext:=HS.out.step HX.out hb4 ho4 hc31 hc32 hc33
    have hrow3:=Rw.own_kept HS.out.row hb4
    have f4 : w3.frozen? ⟨g,k * 5 + 4,none⟩ = false:=World.ownsRow.frozenAt (by have:=HS.out.len;rw [this] at hrow3;exact hrow3) _
    have d4 : w3.cell? ⟨g,k * 5 + 4,none⟩ = some (.slice xA xi.length xc):=(hb4.cell (p:=⟨g,k * 5 + 4,none⟩) hgl).trans c4
    have hgl3 : g < w3.heap.size:=Nat.lt_of_lt_of_le hgl hb4.size
    have HNX:=Hd hnext;clear hnext hrow3 ho3 ho4 hb3 hb4 c0 c1 c2 c3 c4 HCI
    dsimp only
    go_wp2_with fail
    go_roundw
    case rel => exact ⟨k + 1,_,by simp,by omega,HNX.out⟩
    case measure => simp only [intOf];omega
  · have hkz : ¬ (k : Int) < (l.length : Int):=by omega
    have hke : k = l.length:=by omega
    have HK:=Hd hke;clear hke
    go_wp2_with fail
    go_ret
    have h:=HS.out
    have hr:=h.row
    refine ⟨⟨_,M,rfl,h.nd,⟨hr,fun y hy => ?_,fun y hy => ?_⟩⟩,h.below⟩
    · obtain ⟨j,hj⟩:=List.getElem?_of_mem hy
      exact h.ok j y hj
    · obtain ⟨j,hj⟩:=List.getElem?_of_mem hy
      exact h.own j y (by rw [HK.out,← h.len];exact (List.getElem?_eq_some_iff.1 hj).1) hj
end

section
open Go
theorem wrap32 {n : Nat} (h : n < 4294967296) : IntKind.u32.wrap (n : Int) = (n : Int):=by
 simp [IntKind.wrap,IntKind.bits,IntKind.signed];omega
theorem ofInt32 {n : Nat} (h : n < 4294967296) : BitVec.ofInt 32 (n : Int) = BitVec.ofNat 32 n:=by
 apply BitVec.eq_of_toNat_eq
 rw [BitVec.toNat_ofInt,BitVec.toNat_ofNat]
 omega
theorem bits_or32 {a b : Nat} (ha : a < 4294967296) (hb : b < 4294967296) : bits .or .u32 (a : Int) (b : Int) = ((a ||| b : Nat) : Int):=by
 have h : a ||| b < 4294967296:=Nat.or_lt_two_pow (n:=32) ha hb
 show IntKind.u32.wrap ((BitVec.ofInt 32 (a : Int) ||| BitVec.ofInt 32 (b : Int)).toNat : Int) = _
 rw [ofInt32 ha,ofInt32 hb,BitVec.toNat_or,BitVec.toNat_ofNat,BitVec.toNat_ofNat,Nat.mod_eq_of_lt ha,Nat.mod_eq_of_lt hb,wrap32 h]
theorem bits_and32 {a b : Nat} (ha : a < 4294967296) (hb : b < 4294967296) : bits .and .u32 (a : Int) (b : Int) = ((a &&& b : Nat) : Int):=by
 have h : a &&& b < 4294967296:=Nat.lt_of_le_of_lt Nat.and_le_left ha
 show IntKind.u32.wrap ((BitVec.ofInt 32 (a : Int) &&& BitVec.ofInt 32 (b : Int)).toNat : Int) = _
 rw [ofInt32 ha,ofInt32 hb,BitVec.toNat_and,BitVec.toNat_ofNat,BitVec.toNat_ofNat,Nat.mod_eq_of_lt ha,Nat.mod_eq_of_lt hb,wrap32 h]
theorem has_bit {m i : Nat} (hm : m < 4294967296) : (bits .and .u32 ((m : Int) / 2 ^ i) 1 == 1) = m.testBit i:=by
 have h1 : ((m : Int) / 2 ^ i) = ((m / 2 ^ i : Nat) : Int):=by rw [Int.natCast_ediv,Int.natCast_pow];rfl
 have h2 : m / 2 ^ i < 4294967296:=Nat.lt_of_le_of_lt (Nat.div_le_self _ _) hm
 rw [h1,show (1 : Int) = ((1 : Nat) : Int) from rfl,bits_and32 h2 (by omega),Nat.testBit_eq_decide_div_mod_eq,Nat.and_one_is_mod]
 rw [Bool.eq_iff_iff,beq_iff_eq,decide_eq_true_eq]
 omega
theorem with_bit {m i : Nat} (hm : m < 4294967296) (hi : i < 32) : bits .or .u32 (m : Int) (IntKind.u32.wrap (2 ^ i)) = ((m ||| 2 ^ i : Nat) : Int):=by
 have hp : 2 ^ i < 4294967296:=Nat.pow_lt_pow_right (a:=2) (by omega) (show i < 32 from hi)
 have h1 : (2 ^ i : Int) = ((2 ^ i : Nat) : Int):=by rw [Int.natCast_pow];rfl
 rw [h1,wrap32 hp,bits_or32 hm hp]
theorem with_lt {m i : Nat} (hm : m < 4294967296) (hi : i < 32) : m ||| 2 ^ i < 4294967296 :=
 Nat.or_lt_two_pow (n:=32) hm (Nat.pow_lt_pow_right (a:=2) (by omega) hi)
theorem or_lt32 {a b : Nat} (ha : a < 4294967296) (hb : b < 4294967296) : a ||| b < 4294967296:=Nat.or_lt_two_pow (n:=32) ha hb
theorem with_test {m i j : Nat} : (m ||| 2 ^ i).testBit j = (m.testBit j || decide (i = j)):=by rw [Nat.testBit_or,Nat.testBit_two_pow]
def tzTab : List Nat:=[0,1,28,2,29,14,24,3,30,22,20,15,25,17,4,8,31,27,13,23,21,19,16,7,26,12,18,6,11,5,10,9]
theorem low_bit {m : Nat} (h0 : m ≠ 0) (hm : m < 4294967296) : ∃ k q,k < 32 ∧ m = 2 ^ k * (2 * q + 1) ∧ m.testBit k = true ∧ ∀ j,j < k → m.testBit j = false:=by
 have key : ∀ n m : Nat,m ≠ 0 → m < 2 ^ n → ∃ k q,k < n ∧ m = 2 ^ k * (2 * q + 1):=by
  intro n
  induction n with
  | zero => intro m h0 hm;simp at hm;exact absurd hm h0
  | succ n ih =>
    intro m h0 hm
    by_cases ho : m % 2 = 1
    · exact ⟨0,m / 2,by omega,by rw [Nat.pow_zero];omega⟩
    · rw [Nat.pow_succ] at hm
      obtain ⟨k,q,hk,e⟩:=ih (m / 2) (by omega) (by omega)
      exact ⟨k + 1,q,by omega,by rw [Nat.pow_succ,Nat.mul_right_comm,← e];omega⟩
 obtain ⟨k,q,hk,e⟩:=key 32 m h0 hm
 refine ⟨k,q,hk,e,?_,?_⟩
 · rw [e,Nat.testBit_two_pow_mul];simp
 · intro j hj
   rw [e,Nat.testBit_two_pow_mul];simp;intro h;omega
theorem and_neg {k q m : Nat} (hk : k < 32) (hm : m < 4294967296) (e : m = 2 ^ k * (2 * q + 1)) : m &&& (4294967296 - m) = 2 ^ k:=by
 obtain ⟨p,hp⟩ : ∃ p,p = 2 ^ k:=⟨_,rfl⟩
 have hpp : 2 ^ k ∣ 4294967296:=Nat.pow_dvd_pow (a:=2) (m:=k) (n:=32) (by omega)
 obtain ⟨r,hr⟩:=hpp
 obtain ⟨r',hr'⟩ : ∃ r',r = 2 * r':=by
  refine ⟨2 ^ (31 - k),?_⟩
  have h1 : 2 ^ k * (2 * 2 ^ (31 - k)) = 4294967296:=by
   rw [← Nat.pow_succ',← Nat.pow_add];exact congrArg (2 ^ ·) (show k + (31 - k + 1) = 32 by omega)
  exact Nat.eq_of_mul_eq_mul_left (Nat.two_pow_pos k) (by rw [h1,← hr])
 subst hr'
 have hq : 2 * q + 1 ≤ 2 * r':=by
  apply Nat.le_of_mul_le_mul_left (c:=2 ^ k) _ (Nat.two_pow_pos k)
  rw [← e,← hr];omega
 have h2 : 4294967296 - m = 2 ^ k * (2 * (r' - q - 1) + 1):=by
  rw [e,hr,← Nat.mul_sub];congr 1;omega
 have h3 : 2 * (r' - q - 1) + 1 = 2 * (r' - 1 - q) + 1:=by omega
 rw [h2]
 apply Nat.eq_of_testBit_eq
 intro i
 rw [Nat.testBit_and,e,Nat.testBit_two_pow_mul,Nat.testBit_two_pow_mul,Nat.testBit_two_pow]
 by_cases hik : k ≤ i
 · obtain ⟨d,rfl⟩ : ∃ d,i = k + d:=⟨i - k,by omega⟩
   have hd : k + d - k = d:=by omega
   rw [hd]
   simp only [ge_iff_le,hik,decide_true,Bool.true_and]
   cases d with
   | zero => simp
   | succ d =>
     have e1 : (2 * q + 1).testBit (d + 1) = q.testBit d:=by rw [Nat.testBit_succ];congr 1;omega
     have e2 : (2 * (r' - q - 1) + 1).testBit (d + 1) = (r' - q - 1).testBit d:=by rw [Nat.testBit_succ];congr 1;omega
     rw [e1,e2]
     have e3 : decide (k = k + (d + 1)) = false:=decide_eq_false (by omega)
     rw [e3]
     obtain ⟨n,hn⟩ : ∃ n,r' = 2 ^ n:=⟨31 - k,by
      have h1 : 2 ^ k * (2 * 2 ^ (31 - k)) = 4294967296:=by
       rw [← Nat.pow_succ',← Nat.pow_add];exact congrArg (2 ^ ·) (show k + (31 - k + 1) = 32 by omega)
      have:=Nat.eq_of_mul_eq_mul_left (Nat.two_pow_pos k) (hr.symm.trans h1.symm)
      omega⟩
     rw [hn,show 2 ^ n - q - 1 = 2 ^ n - (q + 1) by omega,Nat.testBit_two_pow_sub_succ (by omega)]
     cases q.testBit d <;> simp
 · have : decide (i ≥ k) = false:=decide_eq_false (by omega)
   rw [this];simp;omega
theorem tz_at : ∀ k,k < 32 → tzTab.getD (2 ^ k * 125613361 % 4294967296 / 134217728) 0 = k:=by decide +kernel
theorem tz_lt (k : Nat) : 2 ^ k * 125613361 % 4294967296 / 134217728 < 32:=by omega
/-! ## ways closed up node by node -/
def Way (E : Nat → Nat → Prop) : Nat → Nat → Nat → Prop
 | 0,i,j => E i j
 | k + 1,i,j => Way E k i j ∨ (Way E k i k ∧ Way E k k j)
inductive Plus (E : Nat → Nat → Prop) (i : Nat) : Nat → Prop
 | one {j : Nat} : E i j → Plus E i j
 | more {j k : Nat} : Plus E i j → E j k → Plus E i k
theorem Plus.trans {E : Nat → Nat → Prop} {i j k : Nat} (h : Plus E i j) (h2 : Plus E j k) : Plus E i k:=by
 induction h2 with
 | one h2 => exact h.more h2
 | more _ h3 ih => exact ih.more h3
theorem Way.plus {E : Nat → Nat → Prop} : ∀ {k i j : Nat},Way E k i j → Plus E i j
 | 0,i,j,h => .one h
 | k + 1,i,j,h => h.elim (fun h => Way.plus h) fun h => (Way.plus h.1).trans (Way.plus h.2)
theorem Way.join {E : Nat → Nat → Prop} : ∀ {k i m j : Nat},m < k → Way E k i m → Way E k m j → Way E k i j
 | 0,i,m,j,h,_,_ => absurd h (by omega)
 | k + 1,i,m,j,hm,h1,h2 => by
   by_cases e : m = k
   · subst e
     exact .inr ⟨h1.elim id And.left,h2.elim id And.right⟩
   · have hk : m < k:=by omega
     rcases h1 with h1 | ⟨h1,h1'⟩
     · rcases h2 with h2 | ⟨h2,h2'⟩
       · exact .inl (Way.join hk h1 h2)
       · exact .inr ⟨Way.join hk h1 h2,h2'⟩
     · rcases h2 with h2 | ⟨h2,h2'⟩
       · exact .inr ⟨h1,Way.join hk h1' h2⟩
       · exact .inr ⟨h1,h2'⟩
theorem Way.edge {E : Nat → Nat → Prop} {i j : Nat} (h : E i j) : ∀ k,Way E k i j
 | 0 => h
 | k + 1 => .inl (Way.edge h k)
theorem Plus.way {E : Nat → Nat → Prop} {n i j : Nat} (hE : ∀ a b,E a b → a < n ∧ b < n) (h : Plus E i j) : Way E n i j:=by
 induction h with
 | one h => exact Way.edge h n
 | more h h2 ih => exact Way.join (hE _ _ h2).1 ih (Way.edge h2 n)
theorem way_iff {E : Nat → Nat → Prop} {n i j : Nat} (hE : ∀ a b,E a b → a < n ∧ b < n) : Way E n i j ↔ Plus E i j:=⟨Way.plus,Plus.way hE⟩
/-! ## cycles that don't go on -/
def Feeds (g : List Nd) (least : Int) (a b : Nat) : Prop:=∃ x y,g[a]? = some x ∧ g[b]? = some y ∧ x.stays least = true ∧ y.stays least = true ∧ ((a : Nat) : Int) ∈ y.ins
theorem Feeds.lt {g : List Nd} {least : Int} {a b : Nat} (h : Feeds g least a b) : a < g.length ∧ b < g.length:=by
 obtain ⟨x,y,hx,hy,_⟩:=h
 exact ⟨(List.getElem?_eq_some_iff.1 hx).1,(List.getElem?_eq_some_iff.1 hy).1⟩
def LeastAt (g : List Nd) (least : Int) (j : Nat) : Prop:=∃ x,g[j]? = some x ∧ x.d = least ∧ x.k ≠ 9
theorem step_feeds {g : List Nd} {least : Int} {s t : Nat} {x : Nd} (hx : g[s / 2]? = some x) (hs : x.stays least = true) (h : StepN g least s t) : Feeds g least (s / 2) (t / 2):=by
 obtain ⟨y,hy,hin,hys,_⟩:=h
 exact ⟨x,y,hx,hy,hs,hys,hin⟩
theorem reach_plus {g : List Nd} {least : Int} {s t : Nat} {x : Nd} (hx : g[s / 2]? = some x) (hs : x.stays least = true) (h : ReachN g least s t) :
 Plus (Feeds g least) (s / 2) (t / 2) ∧ (t % 2 = 1 → s % 2 = 1 ∨ ∃ j,LeastAt g least j ∧ Plus (Feeds g least) (s / 2) j ∧ (j = t / 2 ∨ Plus (Feeds g least) j (t / 2))):=by
 induction h with
 | @one t h =>
   have hf:=step_feeds hx hs h
   refine ⟨.one hf,fun ht => ?_⟩
   obtain ⟨y,hy,hin,hys,e⟩:=h
   by_cases hd : y.d = least
   · refine .inr ⟨t / 2,⟨y,hy,hd,?_⟩,.one hf,.inl rfl⟩
     unfold Nd.stays at hys;rw [decide_eq_true_eq] at hys;omega
   · rw [if_neg hd] at e;left;omega
 | @more t u h1 h2 ih =>
   obtain ⟨i1,i2⟩:=ih
   have hnode : ∃ z,g[t / 2]? = some z ∧ z.stays least = true:=by
    have : ∃ s',StepN g least s' t:=by cases h1 with
     | one h => exact ⟨_,h⟩
     | more _ h => exact ⟨_,h⟩
    obtain ⟨s',z,hz,_,hzs,_⟩:=this
    exact ⟨z,hz,hzs⟩
   obtain ⟨z,hz,hzs⟩:=hnode
   have hf:=step_feeds hz hzs h2
   refine ⟨i1.more hf,fun hu => ?_⟩
   obtain ⟨y,hy,hin,hys,e⟩:=h2
   by_cases hd : y.d = least
   · refine .inr ⟨u / 2,⟨y,hy,hd,?_⟩,i1.more hf,.inl rfl⟩
     unfold Nd.stays at hys;rw [decide_eq_true_eq] at hys;omega
   · rw [if_neg hd] at e
     rcases i2 (by omega) with h | ⟨j,hj,h3,h4⟩
     · exact .inl h
     · refine .inr ⟨j,hj,h3,.inr ?_⟩
       rcases h4 with rfl | h4
       · exact .one hf
       · exact h4.more hf
def nextL (least : Int) (s n : Nat) (x : Nd) : Nat:=2 * n + if x.d = least then 1 else s % 2
theorem plus_reach {g : List Nd} {least : Int} {a b : Nat} (h : Plus (Feeds g least) a b) : ∀ s,s / 2 = a → ∃ t,t / 2 = b ∧ ReachN g least s t ∧ (s % 2 = 1 → t % 2 = 1) ∧ (LeastAt g least b → t % 2 = 1):=by
 induction h with
 | @one b h =>
   intro s hs
   obtain ⟨x,y,hx,hy,hxs,hys,hin⟩:=h
   refine ⟨nextL least s b y,by unfold nextL;split <;> omega,.one ⟨y,?_,by rw [hs];exact hin,hys,?_⟩,?_,?_⟩
   · rw [show nextL least s b y / 2 = b by unfold nextL;split <;> omega];exact hy
   · unfold nextL;split <;> omega
   · intro h;unfold nextL;split <;> omega
   · rintro ⟨z,hz,hd,_⟩
     rw [hy] at hz;injection hz with hz;subst hz
     unfold nextL;rw [if_pos hd];omega
 | @more b c h1 h2 ih =>
   intro s hs
   obtain ⟨t,ht,hr,hp,_⟩:=ih s hs
   obtain ⟨x,y,hx,hy,hxs,hys,hin⟩:=h2
   refine ⟨nextL least t c y,by unfold nextL;split <;> omega,hr.more ⟨y,?_,by rw [ht];exact hin,hys,?_⟩,?_,?_⟩
   · rw [show nextL least t c y / 2 = c by unfold nextL;split <;> omega];exact hy
   · unfold nextL;split <;> omega
   · intro h;have:=hp h;unfold nextL;split <;> omega
   · rintro ⟨z,hz,hd,_⟩
     rw [hy] at hz;injection hz with hz;subst hz
     unfold nextL;rw [if_pos hd];omega
def InBad (g : List Nd) (least : Int) (i : Nat) : Prop:=∃ j,LeastAt g least j ∧ Plus (Feeds g least) i j ∧ Plus (Feeds g least) j i
theorem Plus.first {E : Nat → Nat → Prop} {i j : Nat} (h : Plus E i j) : ∃ b,E i b:=by
 induction h with
 | one h => exact ⟨_,h⟩
 | more _ _ ih => exact ih
theorem stuck_iff {g : List Nd} {i : Nat} {least : Int} : Stuck g i least ↔ InBad g least i:=by
 constructor
 · rintro ⟨x,hx,hs,hr⟩
   have hst : startN x i least / 2 = i:=by unfold startN;split <;> omega
   obtain ⟨h1,h2⟩:=reach_plus (s:=startN x i least) (by rw [hst];exact hx) hs hr
   rw [hst,show (2 * i + 1) / 2 = i by omega] at h1 h2
   rcases h2 (by omega) with h | ⟨j,hj,h3,h4⟩
   · have hd : x.d = least:=by unfold startN at h;split at h <;> omega
     refine ⟨i,⟨x,hx,hd,?_⟩,h1,h1⟩
     unfold Nd.stays at hs;rw [decide_eq_true_eq] at hs;omega
   · refine ⟨j,hj,h3,?_⟩
     rcases h4 with rfl | h4
     · exact h1
     · exact h4
 · rintro ⟨j,hj,h1,h2⟩
   obtain ⟨b,x,y,hx,hy,hxs,_,_⟩:=h1.first
   have hst : startN x i least / 2 = i:=by unfold startN;split <;> omega
   obtain ⟨t,ht,hr,_,hl⟩:=plus_reach h1 (startN x i least) hst
   obtain ⟨u,hu,hr2,hp2,_⟩:=plus_reach h2 t ht
   have : u = 2 * i + 1:=by have:=hp2 (hl hj);omega
   subst this
   exact ⟨x,hx,hxs,hr.trans hr2⟩
theorem bad_iff {g : List Nd} {i : Nat} (hd : ∀ x ∈ g,0 ≤ x.d ∧ x.d ≤ 3) : BadAt g i ↔ ∃ d : Nat,d < 4 ∧ InBad g d i:=by
 constructor
 · rintro ⟨x,hx,least,h0,h1,hs⟩
   have:=hd x (List.mem_of_getElem? hx)
   exact ⟨least.toNat,by omega,by rw [Int.toNat_of_nonneg h0];exact stuck_iff.1 hs⟩
 · rintro ⟨d,hd4,hb⟩
   have hs:=stuck_iff.2 hb
   obtain ⟨x,hx,hxs,_⟩:=id hs
   refine ⟨x,hx,d,by omega,?_,hs⟩
   unfold Nd.stays at hxs;rw [decide_eq_true_eq] at hxs;omega
end

section
theorem retu {a b : Int} (h : a = b) : Ending.returned (.int .u32 a) = .returned (.int .u32 b):=by rw [h]
theorem pcHas_any (m i : Nat) (w : World) (hm : m < 4294967296) (hi : i < 32) :
 Calls Tryz.prog 198 #[.int .u32 m,.int .i64 i] w fun e w' => e = .returned (.bool (m.testBit i)) ∧ w = w':=by
 have hi0 : (0 : Int) ≤ (i : Int):=by omega
 have hi1 : (i : Int) ≤ 32:=by omega
 have HH:=Hd (has_bit (i:=i) hm);clear hm
 go_enter Tryz.func198,Tryz.ntmps198
 go_wp2_with fail
 go_ret
 exact ⟨retb HH.out,rfl⟩
theorem pcWith_any (m i : Nat) (w : World) (hm : m < 4294967296) (hi : i < 32) :
 Calls Tryz.prog 196 #[.int .u32 m,.int .i64 i] w fun e w' => e = .returned (.int .u32 ((m ||| 2 ^ i : Nat) : Int)) ∧ w = w':=by
 have hi0 : (0 : Int) ≤ (i : Int):=by omega
 have hi1 : (i : Int) ≤ 32:=by omega
 have HH:=Hd (with_bit hm hi);clear hm
 go_enter Tryz.func196,Tryz.ntmps196
 go_wp2_with fail
 go_ret
 exact ⟨retu HH.out,rfl⟩
def Tab (w : World) : Prop:=∀ i,i < 32 → w.cell? ⟨0,i,none⟩ = some (.int .u8 ((tzTab.getD i 0 : Nat) : Int))
theorem Tab.below {w w' : World} (h : Tab w) (hb : Below w.heap.size w w') : Tab w':=fun i hi => by
 have hc:=h i hi
 have hl:=cell_lt hc
 rw [hb.cell hl];exact hc
def LowD (m : Nat) (w : World) (e : Ending) (w' : World) : Prop:=∃ k : Nat,e = .returned (.int .i64 (k : Int)) ∧ w = w' ∧ k < 32 ∧ m.testBit k = true ∧ ∀ j,j < k → m.testBit j = false
theorem neg32 {m : Nat} (h0 : m ≠ 0) (hm : m < 4294967296) : -(m : Int) % 4294967296 = ((4294967296 - m : Nat) : Int):=by
 omega
theorem mul32 (a b : Nat) : (a : Int) * (b : Int) % 4294967296 = ((a * b % 4294967296 : Nat) : Int):=by
 simp
set_option maxHeartbeats 4000000 in
theorem pcLow_any (m : Nat) (w : World) (h0 : m ≠ 0) (hm : m < 4294967296) (hT : Tab w) :
 Calls Tryz.prog 102 #[.int .u32 m] w (LowD m w):=by
 obtain ⟨k,q,hk,e,hb,hl⟩:=low_bit h0 hm
 have h1 : bits .and .u32 (m : Int) (-(m : Int) % 4294967296) = ((2 ^ k : Nat) : Int):=by rw [neg32 h0 hm,bits_and32 hm (by omega),and_neg hk hm e]
 have h2 : ((2 ^ k : Nat) : Int) * 125613361 % 4294967296 = ((2 ^ k * 125613361 % 4294967296 : Nat) : Int):=mul32 (2 ^ k) 125613361
 obtain ⟨X,hX⟩ : ∃ X : Nat,2 ^ k * 125613361 % 4294967296 / 134217728 = X:=⟨_,rfl⟩
 have h3 : ((2 ^ k * 125613361 % 4294967296 : Nat) : Int) / 134217728 = (X : Int):=by rw [← hX];rfl
 have hX32 : X < 32:=by rw [← hX];exact tz_lt k
 have hc:=hT X hX32
 rw [← hX,tz_at k hk,hX] at hc
 have hmz : ((m : Int) == 0) = false:=by rw [beq_eq_false_iff_ne];omega
 have HF:=Hd (And.intro hk (And.intro hb hl));have H1:=Hd h1;have H2:=Hd h2;have H3:=Hd h3
 clear e hb hl hT h1 h2 h3 hX
 generalize ((2 ^ k : Nat) : Int) = p at *
 generalize ((2 ^ k * 125613361 % 4294967296 : Nat) : Int) = r at *
 have h1:=H1.out;have h2:=H2.out;have h3:=H3.out
 have hXz : (X : Int) < 32:=by omega
 go_enter Tryz.func102,Tryz.ntmps102
 go_wp2_with fail
 go_ret
 exact ⟨k,rfl,rfl,HF.out⟩
end
end Go.Proofs.YtonelpnhoiajgaaGreatDoor
