import Derived.Test.YtonelpnhoiajgaaGreatDoorHd
import Derived.Test.YtonelpnhoiajgaaGreatDoorCa4
import Derived.Deep.RegionHeld3
import Derived.Deep.RegionLaw
import Derived.Deep.AppendLies
import Derived.IntWalk
import Derived.Test.YtonelpnhoiajgaaGreatDoorCa0
namespace Go.Proofs.YtonelpnhoiajgaaGreatDoor
set_option linter.unusedSimpArgs false
set_option linter.unusedVariables false
set_option maxRecDepth 100000
open Go.ChangeShapes Go.WideShapes Go.ChangeAt Go.RowKit Go.BigFrame
section
def kindB : Kind Nat:=⟨fun x => [.int .u8 (x : Nat)],1,fun _ => rfl,fun t u hu => by simp only [List.mem_singleton] at hu;subst hu;rfl,by decide⟩
theorem infoU8 : (Tryz.prog.info? 5).map (fun i => (i.zero,i.size,i.bytes)) = some (some (.int .u8 0),1,1):=by kernel_rfl
noncomputable def putE (g : List Nd) : Int:=if g.length < 1 ∨ 32 < g.length then 3 else if mayB g = true then 0 else 90
noncomputable def putO (g : List Nd) : List Nat:=if g.length < 1 ∨ 32 < g.length then [] else if mayB g = true then putG g else []
def PutD (g : List Nd) (w : World) (e : Ending) (w' : World) : Prop:=(∃ v,e = .returned (.tuple #[v,.int .i64 (putE g)]) ∧ w'.ownsRow w.heap.size 5 kindB.K v (putO g).length (Rw.row kindB (putO g))) ∧ Below w.heap.size w w'
theorem PutD.nil {g : List Nd} {w w' : World} {e : Int} (he : e = putE g) (h0 : putO g = []) (hb : Below w.heap.size w w') : PutD g w (.returned (.tuple #[.slice none 0 0,.int .i64 e])) w' :=
 ⟨⟨_,by rw [he],by rw [h0];exact World.ownsRow_nil _ _ _ _⟩,hb⟩
theorem PutD.yes {g : List Nd} {w w' : World} {v : Value} {xs : List Nat} (he : 0 = putE g) (h0 : putO g = xs) (ho : w'.ownsRow w.heap.size 5 kindB.K v xs.length (Rw.row kindB xs)) (hb : Below w.heap.size w w') : PutD g w (.returned (.tuple #[v,.int .i64 0])) w' :=
 ⟨⟨_,by rw [he],by rw [h0];exact ho⟩,hb⟩
theorem append_b {w : World} {ops : Array Oper} {rest : List Oper} {o : Oper} {a : Act} {Q : Exit → Act → World → Prop} (hgd : o.guard = none) (s x : Operand)
 (ho : o.op = .call { callee:=.builtin .append,args:=#[s,x],argTypes:=#[120,120] })
 (base : Nat) (v : Value) (n : Nat) (ts : List Nat) (hs : a.eval s = v) (hown : w.ownsRow base 5 kindB.K v n (Rw.row kindB ts))
 (b : Nat) (c : Nat) (ys : List Nat) (hx : a.eval x = .slice (some ⟨b,0,none⟩) ys.length c) (hb : Rw.Ts kindB w (some ⟨b,0,none⟩) ys)
 (hle : n + ys.length ≤ 100000) (hbase : base ≤ w.heap.size)
 (h : ∀ v' w',w'.ownsRow base 5 kindB.K v' (n + ys.length) (Rw.row kindB (ts ++ ys)) → w.grownBy w' v.ownBlock → wpList Tryz.prog ops Q rest (a.put o.dst v') w') : wpList Tryz.prog ops Q (o :: rest) a w :=
 Rw.append_own kindB 5 120 Tryz.underlying120 infoU8 rfl hgd s x ho base v n ts hs hown (some ⟨b,0,none⟩) c ys hx (fun e => by cases e) hb (by unfold maxLen;omega) (by omega) hbase h
theorem nodes_bytes (x : Nd) : x.put.length = 12 + x.ins.length:=by simp [Nd.put,be8];omega
theorem putNs_len : ∀ (l : List Nd),(∀ n ∈ l,n.May) → (putNs l).length ≤ l.length * 14
 | [],_ => by simp [putNs]
 | n :: l,hl => by
   have h1:=putNs_len l fun m hm => hl m (List.mem_cons_of_mem _ hm)
   have h2:=(hl n List.mem_cons_self).2.1
   have h3:=nodes_bytes n
   simp only [putNs,List.map_cons,List.flatten_cons,List.length_append,List.length_cons] at h1 ⊢
   omega
theorem putNs_take {l : List Gn} (h : GMay (nds l)) (k : Nat) : (l.length :: putNs (nds (l.take k))).length ≤ 500:=by
 have h1:=putNs_len (nds (l.take k)) fun n hn => h.2 n (by
  unfold nds at hn ⊢
  rw [List.map_take] at hn
  exact List.mem_of_mem_take hn)
 have h2:=h.1.2
 rw [nds_len] at h1 h2
 have : (l.take k).length ≤ l.length:=List.length_take_le' ..
 simp only [List.length_cons];omega
theorem putNs_more {l : List Gn} {k : Nat} {x : Gn} (hx : l[k]? = some x) : putNs (nds (l.take (k + 1))) = putNs (nds (l.take k)) ++ x.nd.put:=by
 unfold nds putNs
 rw [List.take_add_one,hx];simp
structure PutS (w0 w : World) (base g : Nat) (cs : List Value) (v : Value) (bs : List Nat) : Prop where
 below : Below base w0 w
 lo : base ≤ w.heap.size
 row : Row w g 58 cs
 own : w.ownsRow base 5 kindB.K v bs.length (Rw.row kindB bs)
theorem PutS.app {w0 w w' : World} {base g : Nat} {cs : List Value} {v v' : Value} {bs ys : List Nat} (h : PutS w0 w base g cs v bs) (o : Obj) (hv : w'.ownsRow base 5 kindB.K v' (bs.length + ys.length) (Rw.row kindB (bs ++ ys)))
 (hg : (w.alloc o).grownBy w' v.ownBlock) : PutS w0 w' base g cs v' (bs ++ ys) where
 below:=Rw.own_below (h.own.alloc o) hg (h.below.alloc h.lo o) (by have:=h.lo;simp;omega)
 lo:=by have:=h.lo;have:=hg.size;simp at this;omega
 row:=(h.row.alloc o).grown hg (Rw.own_apart (h.own.alloc o) (h.row.alloc o) (by decide))
 own:=by rw [List.length_append];exact hv
set_option maxHeartbeats 4000000 in
theorem refPut_any (A : Option Addr) (l : List Gn) (c : Nat) (w : World) (hG : Gr w A l) (hl : l.length ≤ maxLen) :
 Calls Tryz.prog 80 #[.slice A l.length c] w (PutD (nds l) w):=by
 have hm:=refMay_any A l c w hG hl
 unfold maxLen at hl
 have HG:=Hd hG;clear hG
 by_cases h1 : l.length < 1
 · have he : (3 : Int) = putE (nds l):=by unfold putE;rw [if_pos (by rw [nds_len];omega)]
   have h0 : putO (nds l) = []:=by unfold putO;rw [if_pos (by rw [nds_len];omega)]
   have HE:=Hd he;have H0:=Hd h0;clear he h0 hm
   go_enter Tryz.func80,Tryz.ntmps80
   go_wp2_with fail
   go_ret2
   exact PutD.nil HE.out H0.out (Below.refl _ _)
 · by_cases h2 : 32 < l.length
   · have he : (3 : Int) = putE (nds l):=by unfold putE;rw [if_pos (by rw [nds_len];omega)]
     have h0 : putO (nds l) = []:=by unfold putO;rw [if_pos (by rw [nds_len];omega)]
     have HE:=Hd he;have H0:=Hd h0;clear he h0 hm
     go_enter Tryz.func80,Tryz.ntmps80
     go_wp2_with fail
     go_ret2
     exact PutD.nil HE.out H0.out (Below.refl _ _)
   · cases hmb : mayB (nds l) with
     | false =>
       rw [hmb] at hm
       have he : (90 : Int) = putE (nds l):=by unfold putE;rw [if_neg (by rw [nds_len];omega),if_neg (by rw [hmb];simp)]
       have h0 : putO (nds l) = []:=by unfold putO;rw [if_neg (by rw [nds_len];omega),if_neg (by rw [hmb];simp)]
       have HE:=Hd he;have H0:=Hd h0;have HM:=Hd hm;clear he h0 hm hmb
       go_enter Tryz.func80,Tryz.ntmps80
       go_wp2_with fail
       refine HM.out.mono ?_;rintro e w1 ⟨rfl,rfl⟩
       dsimp only
       go_wp2_with fail
       go_ret2
       exact PutD.nil HE.out H0.out (Below.refl _ _)
     | true =>
       rw [hmb] at hm
       have he : (0 : Int) = putE (nds l):=by unfold putE;rw [if_neg (by rw [nds_len];omega),if_pos hmb]
       have h0 : putO (nds l) = putG (nds l):=by unfold putO;rw [if_neg (by rw [nds_len];omega),if_pos hmb]
       have HE:=Hd he;have H0:=Hd h0;have HM:=Hd hm;have HMAY:=Hd (mayB_iff.1 hmb);clear he h0 hm hmb
       have z1 : decide ((l.length : Int) < 1) = false:=by simp;omega
       have z2 : decide (32 < (l.length : Int)) = false:=by simp;omega
       go_enter Tryz.func80,Tryz.ntmps80
       go_wp2_with fail
       refine HM.out.mono ?_;rintro e w1 ⟨rfl,rfl⟩
       dsimp only
       go_wp2_with fail
       go_loopw [4,5] (fun v i wr => ∃ k : Nat,k ≤ l.length ∧ i = .int .i64 k ∧ Below w.heap.size w wr ∧ wr.ownsRow w.heap.size 5 kindB.K v (l.length :: putNs (nds (l.take k))).length (Rw.row kindB (l.length :: putNs (nds (l.take k))))) (fun _ i _ => l.length - (intOf i).toNat)
       case atStart => exact ⟨0,by omega,rfl,(Below.refl _ _).alloc (Nat.le_refl _) _,World.ownsRow_lit w #[.int .u8 (l.length : Nat)] 1 (Nat.le_refl _) (by decide) rfl⟩
       case round =>
        obtain ⟨k,hk,rfl,hb,hown⟩:=hrel
        have HB:=Hd hb;have HO:=Hd hown;clear hb hown
        by_cases hlt : k < l.length
        · have hltz : (k : Int) < (l.length : Int):=by omega
          obtain ⟨x,hx⟩ : ∃ x,l[k]? = some x:=⟨_,List.getElem?_eq_getElem hlt⟩
          have hmy:=HMAY.out.2 x.nd (List.mem_map.2 ⟨x,List.mem_of_getElem? hx,rfl⟩)
          have hbs:=putNs_take HMAY.out k
          generalize hbd : (l.length :: putNs (nds (l.take k))) = bs at *
          have HBD:=Hd hbd;clear hbd
          have hok:=HG.out.ok hx
          obtain ⟨⟨xk,xa,xb,xd,xi⟩,xA,xc⟩:=x
          obtain ⟨D,rfl⟩ : ∃ D : Nat,xd = (D : Int):=Int.eq_ofNat_of_zero_le hmy.1.1
          obtain ⟨b,o,rfl,hbl,hcl⟩:=HG.out.at_ hx
          obtain ⟨c0,c1,c2,c3,c4⟩:=hcl wr HB.out
          simp only at c0 c1 c2 c3 c4
          have HX:=Hd hx;have HMY:=Hd hmy;have HOK:=Hd hok;have HBS:=Hd hbs;clear hx hcl hmy hok hbs
          go_upto_region 10 with fail
          have hps : PutS w (wr.alloc (.cells #[.int .u8 (xk : Nat),.int .u8 (xa : Nat),.int .i64 xb,.int .i64 (D : Nat),.slice xA xi.length xc] 58)) w.heap.size wr.heap.size [.int .u8 (xk : Nat),.int .u8 (xa : Nat),.int .i64 xb,.int .i64 (D : Nat),.slice xA xi.length xc] _ bs :=
           ⟨HB.out.alloc HB.out.size _,by have:=HB.out.size;simp;omega,Row.made wr _ _,HO.out.alloc _⟩
          have d0:=hps.row.cell 0
          have d1:=hps.row.cell 1
          generalize (wr.alloc (.cells #[.int .u8 (xk : Nat),.int .u8 (xa : Nat),.int .i64 xb,.int .i64 (D : Nat),.slice xA xi.length xc] 58)) = w2 at *
          generalize wr.heap.size = g at *
          have d0' : w2.cell? ⟨g,0,none⟩ = some (.int .u8 (xk : Nat)):=d0
          have d1' : w2.cell? ⟨g,1,none⟩ = some (.int .u8 (xa : Nat)):=d1
          have HP:=Hd hps;clear hps HB HO c0 c1 c2 c3 c4 d0 d1
          go_wp2_with (at_builtin;refine append_b rfl _ _ rfl w.heap.size _ bs.length bs rfl (HP.out.own.alloc _) _ 2 [xk,xa] rfl (Rw.Ts.made _ [xk,xa] _) (by have:=HBS.out;simp;omega) (by have:=HP.out.lo;simp;omega) ?_;intro v1 w3 hv1 hg1;have hp1:=HP.out.app _ hv1 hg1;have HP1:=Hd hp1;clear hp1 hv1 hg1 d0' d1' HP)
          go_loopw [4,7] (fun v i wx => ∃ j : Nat,j ≤ 8 ∧ i = .int .i64 (7 - (j : Int)) ∧ PutS w wx w.heap.size g [.int .u8 (xk : Nat),.int .u8 (xa : Nat),.int .i64 xb,.int .i64 (D : Nat),.slice xA xi.length xc] v (bs ++ [xk,xa] ++ (be8 (uns xb)).take j)) (fun _ i _ => (intOf i + 1).toNat)
          case atStart => exact ⟨0,by omega,rfl,by simpa using HP1.out⟩
          case round =>
           obtain ⟨j,hj,rfl,hps⟩:=hrel
           have hbl : (bs ++ [xk,xa] ++ (be8 (uns xb)).take j).length ≤ 600:=by have:=HBS.out;simp [be8];omega
           have d2 : wr.cell? ⟨g,2,none⟩ = some (.int .i64 xb):=hps.row.cell 2
           have HQ:=Hd hps;have HBL:=Hd hbl;clear hps hbl HP1
           by_cases hj8 : j < 8
           · have hbase:=HQ.out.lo
             have HBA:=Hd hbase;clear hbase
             rcases (show j = 0 ∨ j = 1 ∨ j = 2 ∨ j = 3 ∨ j = 4 ∨ j = 5 ∨ j = 6 ∨ j = 7 by omega) with rfl | rfl | rfl | rfl | rfl | rfl | rfl | rfl
             · obtain ⟨B,hB,hE⟩ : ∃ B : Nat,B = uns xb / 72057594037927936 % 256 ∧ IntKind.u64.wrap xb / 72057594037927936 % 256 = (B : Int):=⟨_,rfl,by unfold uns;rw [show IntKind.u64.wrap xb = xb % 18446744073709551616 by simp [IntKind.wrap,IntKind.signed,IntKind.bits]];omega⟩
               have HB':=Hd hB;clear hB
               go_wp2_with (at_builtin;refine append_b rfl _ _ rfl w.heap.size _ _ _ rfl (HQ.out.own.alloc _) _ 1 [B] rfl (Rw.Ts.made _ [B] _) (by have:=HBL.out;simp only [List.length_cons,List.length_nil];omega) (by have:=HBA.out;simp;omega) ?_;intro v1 w3 hv1 hg1;have hp1:=HQ.out.app _ hv1 hg1;have HP1:=Hd hp1;clear hp1 hv1 hg1)
               go_roundw
               case rel => exact ⟨1,by omega,by simp,by have:=HP1.out;rw [HB'.out,List.append_assoc (bs ++ [xk,xa])] at this;exact this⟩
               case measure => simp [intOf]
             · obtain ⟨B,hB,hE⟩ : ∃ B : Nat,B = uns xb / 281474976710656 % 256 ∧ IntKind.u64.wrap xb / 281474976710656 % 256 = (B : Int):=⟨_,rfl,by unfold uns;rw [show IntKind.u64.wrap xb = xb % 18446744073709551616 by simp [IntKind.wrap,IntKind.signed,IntKind.bits]];omega⟩
               have HB':=Hd hB;clear hB
               go_wp2_with (at_builtin;refine append_b rfl _ _ rfl w.heap.size _ _ _ rfl (HQ.out.own.alloc _) _ 1 [B] rfl (Rw.Ts.made _ [B] _) (by have:=HBL.out;simp only [List.length_cons,List.length_nil];omega) (by have:=HBA.out;simp;omega) ?_;intro v1 w3 hv1 hg1;have hp1:=HQ.out.app _ hv1 hg1;have HP1:=Hd hp1;clear hp1 hv1 hg1)
               go_roundw
               case rel => exact ⟨2,by omega,by simp,by have:=HP1.out;rw [HB'.out,List.append_assoc (bs ++ [xk,xa])] at this;exact this⟩
               case measure => simp [intOf]
             · obtain ⟨B,hB,hE⟩ : ∃ B : Nat,B = uns xb / 1099511627776 % 256 ∧ IntKind.u64.wrap xb / 1099511627776 % 256 = (B : Int):=⟨_,rfl,by unfold uns;rw [show IntKind.u64.wrap xb = xb % 18446744073709551616 by simp [IntKind.wrap,IntKind.signed,IntKind.bits]];omega⟩
               have HB':=Hd hB;clear hB
               go_wp2_with (at_builtin;refine append_b rfl _ _ rfl w.heap.size _ _ _ rfl (HQ.out.own.alloc _) _ 1 [B] rfl (Rw.Ts.made _ [B] _) (by have:=HBL.out;simp only [List.length_cons,List.length_nil];omega) (by have:=HBA.out;simp;omega) ?_;intro v1 w3 hv1 hg1;have hp1:=HQ.out.app _ hv1 hg1;have HP1:=Hd hp1;clear hp1 hv1 hg1)
               go_roundw
               case rel => exact ⟨3,by omega,by simp,by have:=HP1.out;rw [HB'.out,List.append_assoc (bs ++ [xk,xa])] at this;exact this⟩
               case measure => simp [intOf]
             · obtain ⟨B,hB,hE⟩ : ∃ B : Nat,B = uns xb / 4294967296 % 256 ∧ IntKind.u64.wrap xb / 4294967296 % 256 = (B : Int):=⟨_,rfl,by unfold uns;rw [show IntKind.u64.wrap xb = xb % 18446744073709551616 by simp [IntKind.wrap,IntKind.signed,IntKind.bits]];omega⟩
               have HB':=Hd hB;clear hB
               go_wp2_with (at_builtin;refine append_b rfl _ _ rfl w.heap.size _ _ _ rfl (HQ.out.own.alloc _) _ 1 [B] rfl (Rw.Ts.made _ [B] _) (by have:=HBL.out;simp only [List.length_cons,List.length_nil];omega) (by have:=HBA.out;simp;omega) ?_;intro v1 w3 hv1 hg1;have hp1:=HQ.out.app _ hv1 hg1;have HP1:=Hd hp1;clear hp1 hv1 hg1)
               go_roundw
               case rel => exact ⟨4,by omega,by simp,by have:=HP1.out;rw [HB'.out,List.append_assoc (bs ++ [xk,xa])] at this;exact this⟩
               case measure => simp [intOf]
             · obtain ⟨B,hB,hE⟩ : ∃ B : Nat,B = uns xb / 16777216 % 256 ∧ IntKind.u64.wrap xb / 16777216 % 256 = (B : Int):=⟨_,rfl,by unfold uns;rw [show IntKind.u64.wrap xb = xb % 18446744073709551616 by simp [IntKind.wrap,IntKind.signed,IntKind.bits]];omega⟩
               have HB':=Hd hB;clear hB
               go_wp2_with (at_builtin;refine append_b rfl _ _ rfl w.heap.size _ _ _ rfl (HQ.out.own.alloc _) _ 1 [B] rfl (Rw.Ts.made _ [B] _) (by have:=HBL.out;simp only [List.length_cons,List.length_nil];omega) (by have:=HBA.out;simp;omega) ?_;intro v1 w3 hv1 hg1;have hp1:=HQ.out.app _ hv1 hg1;have HP1:=Hd hp1;clear hp1 hv1 hg1)
               go_roundw
               case rel => exact ⟨5,by omega,by simp,by have:=HP1.out;rw [HB'.out,List.append_assoc (bs ++ [xk,xa])] at this;exact this⟩
               case measure => simp [intOf]
             · obtain ⟨B,hB,hE⟩ : ∃ B : Nat,B = uns xb / 65536 % 256 ∧ IntKind.u64.wrap xb / 65536 % 256 = (B : Int):=⟨_,rfl,by unfold uns;rw [show IntKind.u64.wrap xb = xb % 18446744073709551616 by simp [IntKind.wrap,IntKind.signed,IntKind.bits]];omega⟩
               have HB':=Hd hB;clear hB
               go_wp2_with (at_builtin;refine append_b rfl _ _ rfl w.heap.size _ _ _ rfl (HQ.out.own.alloc _) _ 1 [B] rfl (Rw.Ts.made _ [B] _) (by have:=HBL.out;simp only [List.length_cons,List.length_nil];omega) (by have:=HBA.out;simp;omega) ?_;intro v1 w3 hv1 hg1;have hp1:=HQ.out.app _ hv1 hg1;have HP1:=Hd hp1;clear hp1 hv1 hg1)
               go_roundw
               case rel => exact ⟨6,by omega,by simp,by have:=HP1.out;rw [HB'.out,List.append_assoc (bs ++ [xk,xa])] at this;exact this⟩
               case measure => simp [intOf]
             · obtain ⟨B,hB,hE⟩ : ∃ B : Nat,B = uns xb / 256 % 256 ∧ IntKind.u64.wrap xb / 256 % 256 = (B : Int):=⟨_,rfl,by unfold uns;rw [show IntKind.u64.wrap xb = xb % 18446744073709551616 by simp [IntKind.wrap,IntKind.signed,IntKind.bits]];omega⟩
               have HB':=Hd hB;clear hB
               go_wp2_with (at_builtin;refine append_b rfl _ _ rfl w.heap.size _ _ _ rfl (HQ.out.own.alloc _) _ 1 [B] rfl (Rw.Ts.made _ [B] _) (by have:=HBL.out;simp only [List.length_cons,List.length_nil];omega) (by have:=HBA.out;simp;omega) ?_;intro v1 w3 hv1 hg1;have hp1:=HQ.out.app _ hv1 hg1;have HP1:=Hd hp1;clear hp1 hv1 hg1)
               go_roundw
               case rel => exact ⟨7,by omega,by simp,by have:=HP1.out;rw [HB'.out,List.append_assoc (bs ++ [xk,xa])] at this;exact this⟩
               case measure => simp [intOf]
             · obtain ⟨B,hB,hE⟩ : ∃ B : Nat,B = uns xb % 256 ∧ IntKind.u64.wrap xb % 256 = (B : Int):=⟨_,rfl,by unfold uns;rw [show IntKind.u64.wrap xb = xb % 18446744073709551616 by simp [IntKind.wrap,IntKind.signed,IntKind.bits]];omega⟩
               have HB':=Hd hB;clear hB
               go_wp2_with (at_builtin;refine append_b rfl _ _ rfl w.heap.size _ _ _ rfl (HQ.out.own.alloc _) _ 1 [B] rfl (Rw.Ts.made _ [B] _) (by have:=HBL.out;simp only [List.length_cons,List.length_nil];omega) (by have:=HBA.out;simp;omega) ?_;intro v1 w3 hv1 hg1;have hp1:=HQ.out.app _ hv1 hg1;have HP1:=Hd hp1;clear hp1 hv1 hg1)
               go_roundw
               case rel => exact ⟨8,by omega,by simp,by have:=HP1.out;rw [HB'.out,List.append_assoc (bs ++ [xk,xa])] at this;exact this⟩
               case measure => simp [intOf]
           · have hj88 : j = 8:=by omega
             subst hj88
             have hD : D ≤ 3:=by have:=HMY.out.1.2;simp only at this;omega
             have hlx : xi.length ≤ 2:=HMY.out.2.1
             have d3 : wr.cell? ⟨g,3,none⟩ = some (.int .i64 (D : Nat)):=HQ.out.row.cell 3
             have d4 : wr.cell? ⟨g,4,none⟩ = some (.slice xA xi.length xc):=HQ.out.row.cell 4
             have hbase:=HQ.out.lo
             have HBA:=Hd hbase;clear hbase d2
             go_wp2_with (at_builtin;refine append_b rfl _ _ rfl w.heap.size _ _ _ rfl (HQ.out.own.alloc _) _ 2 [D,xi.length] rfl (Rw.Ts.made _ [D,xi.length] _) (by have:=HBL.out;simp only [List.length_cons,List.length_nil];omega) (by have:=HBA.out;simp;omega) ?_;intro v1 w3 hv1 hg1;have hp1:=HQ.out.app _ hv1 hg1;have HP1:=Hd hp1;clear hp1 hv1 hg1 d3 d4)
             go_loopw [4,8] (fun v i wx => ∃ p : Nat,p ≤ xi.length ∧ i = .int .i64 (p : Nat) ∧ PutS w wx w.heap.size g [.int .u8 (xk : Nat),.int .u8 (xa : Nat),.int .i64 xb,.int .i64 (D : Nat),.slice xA xi.length xc] v (bs ++ [xk,xa] ++ (be8 (uns xb)).take 8 ++ [D,xi.length] ++ (xi.take p).map Int.toNat)) (fun _ i _ => xi.length - (intOf i).toNat)
             case atStart => exact ⟨0,by omega,rfl,by simpa using HP1.out⟩
             case round =>
              obtain ⟨p,hp,rfl,hps⟩:=hrel
              have hbl : (bs ++ [xk,xa] ++ (be8 (uns xb)).take 8 ++ [D,xi.length] ++ (xi.take p).map Int.toNat).length ≤ 600:=by have:=HBS.out;simp [be8];omega
              have d4 : wr.cell? ⟨g,4,none⟩ = some (.slice xA xi.length xc):=hps.row.cell 4
              have HQ2:=Hd hps;have HBL2:=Hd hbl;clear hps hbl HP1
              by_cases hlp : p < xi.length
              · have hpz : (p : Int) < (xi.length : Int):=by omega
                obtain ⟨z,hz1⟩ : ∃ z,xi[p]? = some z:=⟨_,List.getElem?_eq_getElem hlp⟩
                have hzz:=HMY.out.2.2 z (List.mem_of_getElem? hz1)
                obtain ⟨Z,rfl⟩ : ∃ Z : Nat,z = (Z : Int):=Int.eq_ofNat_of_zero_le hzz.1
                obtain ⟨bb,oo,rfl,_,hq1⟩:=ints_at (HG.out.ins HX.out) hz1
                have q1:=hq1 wr HQ2.out.below
                have hZ : Z ≤ 31:=by omega
                have HZ1:=Hd hz1;clear hz1 hq1 hzz
                have hbase:=HQ2.out.lo
                have HBA2:=Hd hbase;clear hbase
                go_wp2_with (at_builtin;refine append_b rfl _ _ rfl w.heap.size _ _ _ rfl (HQ2.out.own.alloc _) _ 1 [Z] rfl (Rw.Ts.made _ [Z] _) (by have:=HBL2.out;simp only [List.length_cons,List.length_nil];omega) (by have:=HBA2.out;simp;omega) ?_;intro v1 w3 hv1 hg1;have hp1:=HQ2.out.app _ hv1 hg1;have HP1:=Hd hp1;clear hp1 hv1 hg1)
                go_roundw
                case rel => exact ⟨p + 1,by omega,by simp,by have:=HP1.out;rw [List.append_assoc (bs ++ [xk,xa] ++ (be8 (uns xb)).take 8 ++ [D,xi.length])] at this;have e : (xi.take (p + 1)).map Int.toNat = (xi.take p).map Int.toNat ++ [Z]:=by { rw [List.take_add_one,HZ1.out,List.map_append];rfl };rw [e];exact this⟩
                case measure => simp only [intOf];omega
              · have hpz : ¬ (p : Int) < (xi.length : Int):=by omega
                have hpe : p = xi.length:=by omega
                have HPE:=Hd hpe;clear hpe
                go_wp2_with fail
                go_roundw
                case rel =>
                 refine ⟨k + 1,by omega,by simp,HQ2.out.below,?_⟩
                 have h:=HQ2.out.own
                 have e : l.length :: putNs (nds (l.take (k + 1))) = bs ++ [xk,xa] ++ (be8 (uns xb)).take 8 ++ [D,xi.length] ++ (xi.take p).map Int.toNat:=by
                  rw [putNs_more HX.out,HPE.out,List.take_length,← HBD.out]
                  simp [Nd.put,be8]
                 rw [e];exact h
                case measure => simp only [intOf];omega
        · have hltz : ¬ (k : Int) < (l.length : Int):=by omega
          have hke : k = l.length:=by omega
          have HK:=Hd hke;clear hke hlt hk
          go_wp2_with fail
          go_ret2
          have h:=HO.out
          rw [HK.out,List.take_length] at h
          have e : putO (nds l) = l.length :: putNs (nds l):=by rw [H0.out];unfold putG;rw [nds_len]
          exact PutD.yes HE.out e h HB.out
end

section
end

section
theorem own_base {w : World} {base base' K n : Nat} {T : TypeId} {v : Value} {xs : List Value} (h : w.ownsRow base T K v n xs) (hb : base' ≤ base) : w.ownsRow base' T K v n xs:=by
 obtain ⟨h1,h2 | ⟨g,cap,cur,e,hg,h3⟩⟩:=h
 · exact ⟨h1,.inl h2⟩
 · exact ⟨h1,.inr ⟨g,cap,cur,e,by omega,h3⟩⟩
structure RoundS (wr W : World) (g : Nat) (cs : List Value) (iv : Value) (ins : List Int) : Prop where
 below : Below wr.heap.size wr W
 row : Row W g 58 cs
 hg : wr.heap.size ≤ g
 own : W.ownsRow wr.heap.size 3 kindI.K iv ins.length (Rw.row kindI ins)
section
variable {wr W : World} {g : Nat} {cs : List Value} {iv : Value} {ins : List Int}
end
end

section
def kindP : Kind (Nat × Nat):=⟨fun x => [.int .i64 (x.1 : Nat),.int .i64 (x.2 : Nat)],2,fun _ => rfl,fun t u hu => by
 simp only [List.mem_cons,List.not_mem_nil,or_false] at hu
 rcases hu with rfl | rfl <;> rfl,by decide⟩
theorem infoRPort : (Tryz.prog.info? 181).map (fun i => (i.zero,i.size,i.bytes)) = some (some (.agg #[.int .i64 0,.int .i64 0]),2,16):=by kernel_rfl
def ToD (T : TypeId) (ps : List (Nat × Nat)) (w : World) (e : Ending) (w' : World) : Prop:=(∃ v,e = .returned v ∧ w'.ownsRow w.heap.size T kindP.K v ps.length (Rw.row kindP ps)) ∧ Below w.heap.size w w'
set_option maxHeartbeats 4000000 in
theorem refTo_any (A : Option Addr) (l : List Gn) (c : Nat) (i : Int) (w : World) (hG : Gr w A l) (hl : l.length ≤ 40) (hi : ∀ x ∈ nds l,x.ins.length ≤ 40) :
 Calls Tryz.prog 139 #[.slice A l.length c,.int .i64 i] w (ToD 181 (toG i 0 (nds l)) w):=by
 have HG:=Hd hG;have HI:=Hd hi;clear hG hi
 go_enter Tryz.func139,Tryz.ntmps139
 go_wp2_with fail
 go_loopw [5,6] (fun v n wr => ∃ k : Nat,k ≤ l.length ∧ n = .int .i64 k ∧ wr.ownsRow w.heap.size 181 kindP.K v (toG i 0 (nds (l.take k))).length (Rw.row kindP (toG i 0 (nds (l.take k)))) ∧ Below w.heap.size w wr) (fun _ n _ => l.length - (intOf n).toNat)
 case atStart => exact ⟨0,by omega,rfl,World.ownsRow_nil _ _ _ _,Below.refl _ _⟩
 case round =>
  obtain ⟨k,hk,rfl,hown,hb⟩:=hrel
  have HO:=Hd hown;have HB:=Hd hb;clear hown hb
  by_cases hlt : k < l.length
  · have hltz : (k : Int) < (l.length : Int):=by omega
    obtain ⟨x,hx⟩ : ∃ x,l[k]? = some x:=⟨_,List.getElem?_eq_getElem hlt⟩
    have hix:=HI.out x.nd (List.mem_map.2 ⟨x,List.mem_of_getElem? hx,rfl⟩)
    obtain ⟨⟨xk,xa,xb,xd,xi⟩,xA,xc⟩:=x
    obtain ⟨b,o,rfl,hbl,hcl⟩:=HG.out.at_ hx
    have hln : (toG i 0 (nds (l.take k))).length ≤ 1600:=by
     have h1:=toG_len i 40 (nds (l.take k)) 0 fun y hy => HI.out y (by
      unfold nds at hy ⊢
      rw [List.map_take] at hy
      exact List.mem_of_mem_take hy)
     rw [nds_len,List.length_take] at h1
     have : min k l.length ≤ 40:=by omega
     have:=Nat.mul_le_mul_right 40 this
     omega
    have HTK:=Hd (toG_take i hx)
    generalize toG i 0 (nds (l.take k)) = ps at *
    have HX:=Hd hx;have HCL:=Hd hcl;have HLN:=Hd hln;clear hx hcl hln
    simp only at hix
    go_wp2_with fail
    go_loopw [5,7] (fun v n wx => ∃ p : Nat,p ≤ xi.length ∧ n = .int .i64 p ∧ wx.ownsRow w.heap.size 181 kindP.K v (ps ++ toIn k i 0 (xi.take p)).length (Rw.row kindP (ps ++ toIn k i 0 (xi.take p))) ∧ Below w.heap.size w wx) (fun _ n _ => xi.length - (intOf n).toNat)
    case atStart => exact ⟨0,by omega,rfl,by simpa [toIn] using HO.out,HB.out⟩
    case round =>
     obtain ⟨p,hp,rfl,hown,hb⟩:=hrel
     have HO2:=Hd hown;have HB2:=Hd hb;clear hown hb HO HB
     obtain ⟨_,_,_,_,c4⟩:=HCL.out wr HB2.out
     by_cases hlp : p < xi.length
     · have hpz : (p : Int) < (xi.length : Int):=by omega
       obtain ⟨z,hz⟩ : ∃ z,xi[p]? = some z:=⟨_,List.getElem?_eq_getElem hlp⟩
       obtain ⟨bb,oo,rfl,_,hq⟩:=ints_at (HG.out.ins HX.out) hz
       have q:=hq wr HB2.out
       have hln2 : (ps ++ toIn k i 0 (xi.take p)).length ≤ 1640:=by
        have:=toIn_len k i (xi.take p) 0
        have:=List.length_take_le p xi
        have:=HLN.out
        rw [List.length_append];omega
       have HTI:=Hd (toIn_take k i hz)
       have HLN2:=Hd hln2;clear hln2 hz hq
       generalize hqs : ps ++ toIn k i 0 (xi.take p) = qs at *
       have HQS:=Hd hqs;clear hqs
       by_cases hzi : z = i
       · subst hzi
         have hbs:=HB2.out.size
         have HBS:=Hd hbs;clear hbs
         go_wp2_with (at_builtin;refine Rw.append_own kindP 181 179 Tryz.underlying179 infoRPort rfl rfl _ _ rfl w.heap.size _ qs.length qs rfl (HO2.out.alloc _) _ 1 [(k,p)] rfl (by simp) (Rw.Ts.made _ [(k,p)] _) (by unfold maxLen;have:=HLN2.out;simp;omega) (by have:=HLN2.out;simp;omega) (by have:=HBS.out;simp;omega) ?_;intro v2 w4 hv2 hg2;have hb2:=Rw.own_below (HO2.out.alloc _) hg2 (HB2.out.alloc HB2.out.size _) (by have:=HBS.out;simp;omega);have HV:=Hd hv2;have HB3:=Hd hb2;clear hv2 hg2 hb2)
         go_roundw
         case rel =>
          refine ⟨p + 1,by omega,by simp,?_,HB3.out⟩
          rw [HTI.out,if_pos rfl,← List.append_assoc,HQS.out,List.length_append]
          exact HV.out
         case measure => simp only [intOf];omega
       · have hzb : (z == i) = false:=by simpa using hzi
         have HN:=Hd hzi;clear hzi
         go_wp2_with fail
         go_roundw
         case rel =>
          refine ⟨p + 1,by omega,by simp,?_,HB2.out⟩
          rw [HTI.out,if_neg HN.out,List.append_nil,HQS.out]
          exact HO2.out
         case measure => simp only [intOf];omega
     · have hpz : ¬ (p : Int) < (xi.length : Int):=by omega
       have hpe : p = xi.length:=by omega
       have HPE:=Hd hpe;clear hpe
       go_wp2_with fail
       go_roundw
       case rel =>
        refine ⟨k + 1,by omega,by simp,?_,HB2.out⟩
        have h:=HO2.out
        rw [HPE.out,List.take_length] at h
        rw [HTK.out]
        exact h
       case measure => simp only [intOf];omega
  · have hltz : ¬ (k : Int) < (l.length : Int):=by omega
    have hke : k = l.length:=by omega
    have HK:=Hd hke;clear hke
    go_wp2_with fail
    go_ret
    refine ⟨⟨_,rfl,?_⟩,HB.out⟩
    have h:=HO.out
    rw [HK.out,List.take_length] at h
    exact h
end

section
def Nd.num (n : Nd) : Bool :=
 if n.k = 2 then decide (n.a ≤ 3 ∧ (n.a ≠ 3 ∨ 0 < n.b))
 else if n.k = 3 then decide (n.a ≤ 2 ∧ (n.a ≠ 1 ∨ 0 < n.b))
 else if n.k = 5 then decide (n.a ≤ 3 ∧ n.b = 0)
 else if n.k = 9 then decide (n.a = 0 ∧ 1 ≤ n.b ∧ n.b ≤ 16)
 else decide (1 ≤ n.k ∧ n.k ≤ 10 ∧ n.a = 0 ∧ n.b = 0)
def Nd.want (n : Nd) : Nat:=if n.k = 1 then 0 else if n.k = 4 ∨ n.k = 6 then 2 else 1
def portOk (g : List Nd) (z : Int) : Prop:=0 ≤ z ∧ ∃ m,g[z.toNat]? = some m ∧ m.k ≠ 10
def Nd.Ports (g : List Nd) (n : Nd) : Prop:=(∀ z ∈ n.ins,portOk g z) ∧ n.ins.length = n.want
def Nd.more (n : Nd) : Int:=if n.k = 7 then 1 else if n.k = 8 then -1 else 0
def Nd.deepB (n : Nd) : Bool:=decide (0 ≤ n.d ∧ n.d ≤ 3 ∧ ((n.k = 1 ∨ n.k = 10) → n.d = 0) ∧ (n.k = 9 → 1 ≤ n.d))
def Nd.Deep (g : List Nd) (n : Nd) : Prop:=n.deepB = true ∧ ∀ z ∈ n.ins,∀ m,g[z.toNat]? = some m → n.d - n.more = m.d
open Classical in
noncomputable def Nd.err (g : List Nd) (n : Nd) : Int:=if n.num = false then 130 else if ¬ n.Ports g then 100 else if ¬ n.Deep g then 101 else 0
noncomputable def nodeE (g : List Nd) (i : Int) : Int:=if i < 0 then 2 else match g[i.toNat]? with | some n => n.err g | none => 2
theorem nodeE_at {g : List Nd} {i : Nat} {n : Nd} (h : g[i]? = some n) : nodeE g (i : Nat) = n.err g:=by
 unfold nodeE;rw [if_neg (by omega),Int.toNat_natCast,h]
theorem nodeE_out {g : List Nd} {i : Int} (h : i < 0 ∨ (g.length : Int) ≤ i) : nodeE g i = 2:=by
 unfold nodeE
 split
 · rfl
 · rw [List.getElem?_eq_none (by omega)]
theorem err_num {g : List Nd} {n : Nd} (h : n.num = false) : n.err g = 130:=by unfold Nd.err;rw [if_pos h]
theorem err_ports {g : List Nd} {n : Nd} (h : n.num = true) (h2 : ¬ n.Ports g) : n.err g = 100:=by unfold Nd.err;rw [if_neg (by simp [h]),if_pos h2]
theorem err_deep {g : List Nd} {n : Nd} (h : n.num = true) (h2 : n.Ports g) (h3 : ¬ n.Deep g) : n.err g = 101:=by unfold Nd.err;rw [if_neg (by simp [h]),if_neg (by simpa using h2),if_pos h3]
theorem err_ok {g : List Nd} {n : Nd} (h : n.num = true) (h2 : n.Ports g) (h3 : n.Deep g) : n.err g = 0:=by unfold Nd.err;rw [if_neg (by simp [h]),if_neg (by simpa using h2),if_neg (by simpa using h3)]
theorem err_zero {g : List Nd} {n : Nd} (h : n.err g = 0) : n.num = true ∧ n.Ports g ∧ n.Deep g:=by
 unfold Nd.err at h
 split at h
 · cases h
 · split at h
   · cases h
   · split at h
     · cases h
     · rename_i h1 h2 h3
       exact ⟨by simpa using h1,by simpa using h2,by simpa using h3⟩
open Classical in
noncomputable def firstP (p : Nat → Prop) : Nat → Option Nat
 | 0 => none
 | n + 1 => match firstP p n with | some i => some i | none => if p n then some n else none
theorem firstP_none {p : Nat → Prop} : ∀ {n : Nat},firstP p n = none ↔ ∀ j,j < n → ¬ p j
 | 0 => by simp [firstP]
 | n + 1 => by
   have ih:=firstP_none (p:=p) (n:=n)
   unfold firstP
   cases h : firstP p n with
   | some i =>
     simp only [reduceCtorEq,false_iff]
     intro hh
     rw [ih.2 fun j hj => hh j (by omega)] at h
     cases h
   | none =>
     have h1:=ih.1 h
     by_cases hp : p n
     · simp only [if_pos hp,reduceCtorEq,false_iff]
       exact fun hh => hh n (by omega) hp
     · simp only [if_neg hp,true_iff]
       intro j hj
       by_cases e : j = n
       · subst e;exact hp
       · exact h1 j (by omega)
theorem firstP_some {p : Nat → Prop} : ∀ {n i : Nat},firstP p n = some i ↔ i < n ∧ p i ∧ ∀ j,j < i → ¬ p j
 | 0,i => by simp [firstP]
 | n + 1,i => by
   have ih:=fun i => firstP_some (p:=p) (n:=n) (i:=i)
   have ihn:=firstP_none (p:=p) (n:=n)
   unfold firstP
   cases h : firstP p n with
   | some k =>
     simp only [Option.some.injEq]
     have hk:=(ih k).1 h
     constructor
     · rintro rfl;exact ⟨by omega,hk.2⟩
     · rintro ⟨h1,h2,h3⟩
       by_cases e : k = i
       · exact e
       · by_cases hlt : k < i
         · exact absurd hk.2.1 (h3 k hlt)
         · exact absurd h2 (hk.2.2 i (by omega))
   | none =>
     have hn:=ihn.1 h
     by_cases hp : p n
     · simp only [if_pos hp,Option.some.injEq]
       constructor
       · rintro rfl;exact ⟨by omega,hp,hn⟩
       · rintro ⟨h1,h2,h3⟩
         by_cases e : n = i
         · exact e
         · exact absurd h2 (hn i (by omega))
     · simp only [if_neg hp,reduceCtorEq,false_iff]
       rintro ⟨h1,h2,h3⟩
       by_cases e : i = n
       · subst e;exact hp h2
       · exact hn i (by omega) h2
def Nd.stays (n : Nd) (least : Int) : Bool:=decide (least < n.d ∨ n.d = least ∧ n.k ≠ 9)
def StepN (g : List Nd) (least : Int) (s t : Nat) : Prop :=
 ∃ x,g[t / 2]? = some x ∧ ((s / 2 : Nat) : Int) ∈ x.ins ∧ x.stays least = true ∧ t = 2 * (t / 2) + if x.d = least then 1 else s % 2
inductive ReachN (g : List Nd) (least : Int) (s : Nat) : Nat → Prop
 | one {t : Nat} : StepN g least s t → ReachN g least s t
 | more {t u : Nat} : ReachN g least s t → StepN g least t u → ReachN g least s u
def startN (x : Nd) (i : Nat) (least : Int) : Nat:=2 * i + if x.d = least then 1 else 0
def Stuck (g : List Nd) (i : Nat) (least : Int) : Prop:=∃ x,g[i]? = some x ∧ x.stays least = true ∧ ReachN g least (startN x i least) (2 * i + 1)
def BadAt (g : List Nd) (i : Nat) : Prop:=∃ x,g[i]? = some x ∧ ∃ least : Int,0 ≤ least ∧ least ≤ x.d ∧ Stuck g i least
theorem ReachN.trans {g : List Nd} {least : Int} {s t u : Nat} (h : ReachN g least s t) (k : ReachN g least t u) : ReachN g least s u:=by
 induction k with
 | one k => exact h.more k
 | more _ k ih => exact ih.more k
theorem StepN.lt {g : List Nd} {least : Int} {s t : Nat} (h : StepN g least s t) : t < 2 * g.length:=by
 obtain ⟨x,hx,_⟩:=h
 have:=(List.getElem?_eq_some_iff.1 hx).1
 omega
noncomputable def checkR (g : List Nd) : Int × Int :=
 if putE g ≠ 0 then (0,putE g)
 else match firstP (fun i => nodeE g i ≠ 0) g.length with
  | some i => ((i : Nat),nodeE g i)
  | none => match firstP (BadAt g) g.length with
    | some i => ((i : Nat),102)
    | none => (g.length,0)
theorem checkR_put {g : List Nd} (h : putE g ≠ 0) : checkR g = (0,putE g):=by unfold checkR;rw [if_pos h]
theorem checkR_node {g : List Nd} {i : Nat} (h : putE g = 0) (hi : i < g.length) (h1 : nodeE g i ≠ 0) (h2 : ∀ j : Nat,j < i → nodeE g j = 0) : checkR g = (((i : Nat) : Int),nodeE g i):=by
 unfold checkR
 rw [if_neg (by simpa using h),firstP_some.2 ⟨hi,h1,fun j hj => by simpa using h2 j hj⟩]
theorem checkR_bad {g : List Nd} {i : Nat} (h : putE g = 0) (h2 : ∀ j : Nat,j < g.length → nodeE g j = 0) (hi : i < g.length) (hb : BadAt g i) (hn : ∀ j,j < i → ¬ BadAt g j) : checkR g = (((i : Nat) : Int),102):=by
 unfold checkR
 rw [if_neg (by simpa using h),firstP_none.2 fun j hj => by simpa using h2 j hj]
 simp only
 rw [firstP_some.2 ⟨hi,hb,hn⟩]
theorem checkR_ok {g : List Nd} (h : putE g = 0) (h2 : ∀ j : Nat,j < g.length → nodeE g j = 0) (hn : ∀ j,j < g.length → ¬ BadAt g j) : checkR g = ((g.length : Int),0):=by
 unfold checkR
 rw [if_neg (by simpa using h),firstP_none.2 fun j hj => by simpa using h2 j hj]
 simp only
 rw [firstP_none.2 hn]
theorem checkR_zero {g : List Nd} (h : (checkR g).2 = 0) : putE g = 0 ∧ (∀ j : Nat,j < g.length → nodeE g j = 0) ∧ (∀ j,j < g.length → ¬ BadAt g j) ∧ checkR g = ((g.length : Int),0):=by
 by_cases h0 : putE g = 0
 · unfold checkR at h
   rw [if_neg (by simpa using h0)] at h
   cases h1 : firstP (fun i => nodeE g i ≠ 0) g.length with
   | some i =>
     rw [h1] at h
     exact absurd h (firstP_some.1 h1).2.1
   | none =>
     rw [h1] at h
     have h1' : ∀ j : Nat,j < g.length → nodeE g j = 0:=fun j hj => Classical.not_not.1 (firstP_none.1 h1 j hj)
     cases h2 : firstP (BadAt g) g.length with
     | some i =>
       rw [h2] at h
       cases h
     | none => exact ⟨h0,h1',firstP_none.1 h2,checkR_ok h0 h1' (firstP_none.1 h2)⟩
 · rw [checkR_put h0] at h
   exact absurd h h0
end

section
theorem mem_toIn {n : Nat} {i : Int} {m q : Nat} : ∀ {l : List Int} {p : Nat},(m,q) ∈ toIn n i p l ↔ m = n ∧ p ≤ q ∧ l[q - p]? = some i
 | [],p => by simp [toIn]
 | x :: l,p => by
   have ih:=mem_toIn (n:=n) (i:=i) (m:=m) (q:=q) (l:=l) (p:=p + 1)
   simp only [toIn,List.mem_append,ih]
   by_cases hq : q = p
   · subst hq
     rw [Nat.sub_self,List.getElem?_cons_zero]
     by_cases hx : x = i
     · simp only [hx,if_true,List.mem_singleton,Prod.mk.injEq,and_true,Nat.le_refl,true_and]
       constructor
       · rintro (h | ⟨_,h,_⟩)
         · exact h
         · omega
       · exact .inl
     · simp only [if_neg hx,List.not_mem_nil,false_or,Option.some.injEq,hx,and_false,iff_false]
       rintro ⟨_,h,_⟩;omega
   · have : (m,q) ∈ (if x = i then [(n,p)] else []) ↔ False:=by
      split
      · simp only [List.mem_singleton,Prod.mk.injEq,iff_false];rintro ⟨_,h⟩;exact hq h
      · simp
     rw [this,false_or]
     constructor
     · rintro ⟨h1,h2,h3⟩
       refine ⟨h1,by omega,?_⟩
       rw [show q - p = (q - (p + 1)) + 1 by omega,List.getElem?_cons_succ];exact h3
     · rintro ⟨h1,h2,h3⟩
       rw [show q - p = (q - (p + 1)) + 1 by omega,List.getElem?_cons_succ] at h3
       exact ⟨h1,by omega,h3⟩
theorem mem_toG {i : Int} {m q : Nat} : ∀ {g : List Nd} {n : Nat},(m,q) ∈ toG i n g ↔ n ≤ m ∧ ∃ x,g[m - n]? = some x ∧ x.ins[q]? = some i
 | [],n => by simp [toG]
 | y :: g,n => by
   have ih:=mem_toG (i:=i) (m:=m) (q:=q) (g:=g) (n:=n + 1)
   simp only [toG,List.mem_append,ih,mem_toIn]
   by_cases hm : m = n
   · subst hm
     rw [Nat.sub_self,List.getElem?_cons_zero]
     constructor
     · rintro (⟨_,_,h⟩ | ⟨h,_⟩)
       · exact ⟨Nat.le_refl _,y,rfl,by simpa using h⟩
       · omega
     · rintro ⟨_,x,hx,h⟩
       simp only [Option.some.injEq] at hx
       subst hx
       exact .inl ⟨rfl,Nat.zero_le _,by simpa using h⟩
   · constructor
     · rintro (⟨h,_⟩ | ⟨h,x,hx,h2⟩)
       · exact absurd h hm
       · exact ⟨by omega,x,by rw [show m - n = (m - (n + 1)) + 1 by omega,List.getElem?_cons_succ];exact hx,h2⟩
     · rintro ⟨h,x,hx,h2⟩
       rw [show m - n = (m - (n + 1)) + 1 by omega,List.getElem?_cons_succ] at hx
       exact .inr ⟨by omega,x,hx,h2⟩
def nextC (least : Int) (s n : Nat) (x : Nd) : Nat:=2 * n + if x.d = least then 1 else s % 2
theorem nextC_half (least : Int) (s n : Nat) (x : Nd) : nextC least s n x / 2 = n:=by unfold nextC;split <;> omega
theorem step_port {g : List Nd} {least : Int} {s t : Nat} : StepN g least s t ↔ ∃ (n p : Nat) (x : Nd),(n,p) ∈ toG ((s / 2 : Nat) : Int) 0 g ∧ g[n]? = some x ∧ x.stays least = true ∧ t = nextC least s n x:=by
 constructor
 · rintro ⟨x,hx,hin,hs,ht⟩
   obtain ⟨p,hp⟩:=List.getElem?_of_mem hin
   exact ⟨t / 2,p,x,mem_toG.2 ⟨Nat.zero_le _,x,by simpa using hx,hp⟩,hx,hs,ht⟩
 · rintro ⟨n,p,x,hm,hx,hs,rfl⟩
   obtain ⟨_,y,hy,hp⟩:=mem_toG.1 hm
   rw [Nat.sub_zero,hx] at hy
   injection hy with hy
   subst hy
   refine ⟨x,by rw [nextC_half];exact hx,List.mem_of_getElem? hp,hs,?_⟩
   rw [nextC_half];rfl
theorem count_set : ∀ {l : List Bool} {t : Nat},l[t]? = some false → (l.set t true).count false + 1 = l.count false
 | [],t,h => by simp at h
 | x :: l,0,h => by
   simp only [List.getElem?_cons_zero,Option.some.injEq] at h
   subst h
   simp [List.set_cons_zero,List.count_cons]
 | x :: l,t + 1,h => by
   rw [List.getElem?_cons_succ] at h
   have ih:=count_set h
   rw [List.set_cons_succ,List.count_cons,List.count_cons]
   omega
structure Bfs (g : List Nd) (least : Int) (first tgt i : Nat) (todo : List Nat) (seen : List Bool) : Prop where
 len : seen.length = 2 * g.length
 head : todo[0]? = some first
 reach : ∀ s ∈ todo,s = first ∨ ReachN g least first s
 mem : ∀ t : Nat,seen[t]? = some true → t ∈ todo
 done : ∀ j s,j < i → todo[j]? = some s → ∀ t,StepN g least s t → t ≠ tgt ∧ seen[t]? = some true
 cnt : todo.length + seen.count false = 1 + 2 * g.length
structure BfsIn (g : List Nd) (least : Int) (first tgt i : Nat) (todo : List Nat) (seen : List Bool) (s k : Nat) : Prop where
 base : Bfs g least first tgt i todo seen
 cur : todo[i]? = some s
 part : ∀ (j n p : Nat) (x : Nd),j < k → (toG ((s / 2 : Nat) : Int) 0 g)[j]? = some (n,p) → g[n]? = some x → x.stays least = true → nextC least s n x ≠ tgt ∧ seen[nextC least s n x]? = some true
section
variable {g : List Nd} {least : Int} {first tgt i s k n p : Nat} {todo : List Nat} {seen : List Bool} {x : Nd}
theorem Bfs.start (g : List Nd) (least : Int) (first tgt : Nat) : Bfs g least first tgt 0 [first] (List.replicate (2 * g.length) false) where
 len:=List.length_replicate
 head:=rfl
 reach:=fun s hs => .inl (by simpa using hs)
 mem:=fun t ht => by
  have:=List.eq_of_mem_replicate (List.mem_of_getElem? ht)
  cases this
 done:=fun j s hj => absurd hj (by omega)
 cnt:=by rw [List.count_replicate_self];simp
theorem Bfs.bound (h : Bfs g least first tgt i todo seen) : todo.length ≤ 1 + 2 * g.length:=by have:=h.cnt;omega
theorem Bfs.in_ (h : Bfs g least first tgt i todo seen) (hs : todo[i]? = some s) : BfsIn g least first tgt i todo seen s 0:=⟨h,hs,fun j n p x hj => absurd hj (by omega)⟩
theorem BfsIn.skip (h : BfsIn g least first tgt i todo seen s k) (hk : (toG ((s / 2 : Nat) : Int) 0 g)[k]? = some (n,p)) (hx : g[n]? = some x) (hn : x.stays least = false) : BfsIn g least first tgt i todo seen s (k + 1) :=
 ⟨h.base,h.cur,fun j m q y hj hm hy hs => by
  by_cases e : j = k
  · subst e
    rw [hk] at hm
    simp only [Option.some.injEq,Prod.mk.injEq] at hm
    obtain ⟨rfl,rfl⟩:=hm
    rw [hx] at hy;injection hy with hy;subst hy
    rw [hn] at hs;cases hs
  · exact h.part j m q y (by omega) hm hy hs⟩
theorem BfsIn.old (h : BfsIn g least first tgt i todo seen s k) (hk : (toG ((s / 2 : Nat) : Int) 0 g)[k]? = some (n,p)) (hx : g[n]? = some x) (ht : nextC least s n x ≠ tgt) (hs : seen[nextC least s n x]? = some true) : BfsIn g least first tgt i todo seen s (k + 1) :=
 ⟨h.base,h.cur,fun j m q y hj hm hy hs' => by
  by_cases e : j = k
  · subst e
    rw [hk] at hm
    simp only [Option.some.injEq,Prod.mk.injEq] at hm
    obtain ⟨rfl,rfl⟩:=hm
    rw [hx] at hy;injection hy with hy;subst hy
    exact ⟨ht,hs⟩
  · exact h.part j m q y (by omega) hm hy hs'⟩
theorem BfsIn.step (h : BfsIn g least first tgt i todo seen s k) (hk : (toG ((s / 2 : Nat) : Int) 0 g)[k]? = some (n,p)) (hx : g[n]? = some x) (hs : x.stays least = true) : ReachN g least first (nextC least s n x):=by
 have st : StepN g least s (nextC least s n x):=step_port.2 ⟨n,p,x,List.mem_of_getElem? hk,hx,hs,rfl⟩
 rcases h.base.reach s (List.mem_of_getElem? h.cur) with rfl | hr
 · exact .one st
 · exact hr.more st
theorem BfsIn.push (h : BfsIn g least first tgt i todo seen s k) (hk : (toG ((s / 2 : Nat) : Int) 0 g)[k]? = some (n,p)) (hx : g[n]? = some x) (hs : x.stays least = true) (ht : nextC least s n x ≠ tgt) (hn : seen[nextC least s n x]? = some false) :
 BfsIn g least first tgt i (todo ++ [nextC least s n x]) (seen.set (nextC least s n x) true) s (k + 1):=by
 have hl:=(List.getElem?_eq_some_iff.1 hn).1
 have hi:=(List.getElem?_eq_some_iff.1 h.cur).1
 have up : ∀ t : Nat,seen[t]? = some true → (seen.set (nextC least s n x) true)[t]? = some true:=fun t hh => by
  by_cases e : nextC least s n x = t
  · rw [← e,List.getElem?_set_self hl]
  · rw [List.getElem?_set_ne e];exact hh
 refine ⟨⟨by rw [List.length_set];exact h.base.len,?_,?_,?_,?_,?_⟩,?_,?_⟩
 · rw [List.getElem?_append_left (by omega)];exact h.base.head
 · intro t hm
   rcases List.mem_append.1 hm with hm | hm
   · exact h.base.reach t hm
   · simp only [List.mem_singleton] at hm
     subst hm
     exact .inr (h.step hk hx hs)
 · intro t hh
   by_cases e : nextC least s n x = t
   · exact List.mem_append.2 (.inr (by simp [e]))
   · rw [List.getElem?_set_ne e] at hh
     exact List.mem_append.2 (.inl (h.base.mem t hh))
 · intro j s' hj hs' t hst
   rw [List.getElem?_append_left (by omega)] at hs'
   have:=h.base.done j s' hj hs' t hst
   exact ⟨this.1,up t this.2⟩
 · have:=h.base.cnt
   have:=count_set hn
   rw [List.length_append,List.length_singleton];omega
 · rw [List.getElem?_append_left hi];exact h.cur
 · intro j m q y hj hm hy hs'
   by_cases e : j = k
   · subst e
     rw [hk] at hm
     simp only [Option.some.injEq,Prod.mk.injEq] at hm
     obtain ⟨rfl,rfl⟩:=hm
     rw [hx] at hy;injection hy with hy;subst hy
     exact ⟨ht,List.getElem?_set_self hl⟩
   · have:=h.part j m q y (by omega) hm hy hs'
     exact ⟨this.1,up _ this.2⟩
theorem BfsIn.ends (h : BfsIn g least first tgt i todo seen s k) (hk : k = (toG ((s / 2 : Nat) : Int) 0 g).length) : Bfs g least first tgt (i + 1) todo seen :=
 ⟨h.base.len,h.base.head,h.base.reach,h.base.mem,fun j s' hj hs' t hst => by
  by_cases e : j = i
  · subst e
    rw [h.cur] at hs';injection hs' with hs';subst hs'
    obtain ⟨n,p,x,hm,hx,hsx,rfl⟩:=step_port.1 hst
    obtain ⟨j',hj'⟩:=List.getElem?_of_mem hm
    have:=(List.getElem?_eq_some_iff.1 hj').1
    exact h.part j' n p x (by omega) hj' hx hsx
  · exact h.base.done j s' (by omega) hs' t hst,h.base.cnt⟩
theorem Bfs.no (h : Bfs g least first tgt i todo seen) (hi : i = todo.length) : ¬ ReachN g least first tgt:=by
 have all : ∀ t,ReachN g least first t → t ≠ tgt ∧ t ∈ todo:=by
  intro t ht
  induction ht with
  | one hs =>
    have:=h.done 0 first (by have:=(List.getElem?_eq_some_iff.1 h.head).1;omega) h.head _ hs
    exact ⟨this.1,h.mem _ this.2⟩
  | more _ hs ih =>
    obtain ⟨j,hj⟩:=List.getElem?_of_mem ih.2
    have:=h.done j _ (by have:=(List.getElem?_eq_some_iff.1 hj).1;omega) hj _ hs
    exact ⟨this.1,h.mem _ this.2⟩
 intro hr
 exact (all tgt hr).1 rfl
end
end

section
def Sm.A (a b : Sm) : Prop:=a.fr < b.fr ∨ a.fr = b.fr ∧ (a.to < b.to ∨ a.to = b.to ∧ (a.kp < b.kp ∨ a.kp = b.kp ∧ (a.ad < b.ad ∨ a.ad = b.ad ∧ (a.t0 < b.t0 ∨ a.t0 = b.t0 ∧ (a.t1 < b.t1 ∨ a.t1 = b.t1 ∧ a.t2 < b.t2)))))
instance (a b : Sm) : Decidable (a.A b):=inferInstanceAs (Decidable (_ ∨ _))
section
variable {a b c s t x y z : Sm} {f g l m : List Sm}
theorem Sm.A_irrefl : ¬ x.A x:=by unfold Sm.A;omega
theorem Sm.A_trans (h : x.A y) (k : y.A z) : x.A z:=by unfold Sm.A at *;omega
theorem Sm.A_total (h : x ≠ y) : x.A y ∨ y.A x:=by
 have : ¬ (x.fr = y.fr ∧ x.to = y.to ∧ x.kp = y.kp ∧ x.ad = y.ad ∧ x.t0 = y.t0 ∧ x.t1 = y.t1 ∧ x.t2 = y.t2):=fun e => h (Sm.ext_iff'.2 e)
 unfold Sm.A;omega
theorem sums_ext : ∀ {f g : List Sm},f.Pairwise Sm.A → g.Pairwise Sm.A → (∀ t,t ∈ f ↔ t ∈ g) → f = g
 | [],[],_,_,_ => rfl
 | [],y :: g,_,_,h => absurd ((h y).2 List.mem_cons_self) (by simp)
 | x :: f,[],_,_,h => absurd ((h x).1 List.mem_cons_self) (by simp)
 | x :: f,y :: g,hf,hg,h => by
   rw [List.pairwise_cons] at hf hg
   have hxy : x = y:=by
    have h1:=(h x).1 List.mem_cons_self
    have h2:=(h y).2 List.mem_cons_self
    rcases List.mem_cons.1 h1 with e | h1
    · exact e
    · rcases List.mem_cons.1 h2 with e | h2
      · exact e.symm
      · exact absurd (Sm.A_trans (hf.1 y h2) (hg.1 x h1)) Sm.A_irrefl
   subst hxy
   congr 1
   refine sums_ext hf.2 hg.2 fun t => ⟨fun ht => ?_,fun ht => ?_⟩
   · rcases List.mem_cons.1 ((h t).1 (List.mem_cons_of_mem _ ht)) with e | h1
     · exact absurd (e ▸ hf.1 t ht) Sm.A_irrefl
     · exact h1
   · rcases List.mem_cons.1 ((h t).2 (List.mem_cons_of_mem _ ht)) with e | h1
     · exact absurd (e ▸ hg.1 t ht) Sm.A_irrefl
     · exact h1
def Sm.size (s : Sm) : Nat:=(s.kp + s.N 0 + s.N 1 + s.N 2).toNat
theorem Sm.size_lt (h : x.L y) (hne : x ≠ y) : x.size < y.size:=by
 have l0:=Sm.L_at h (i:=0) (by omega) (by omega);have l1:=Sm.L_at h (i:=1) (by omega) (by omega);have l2:=Sm.L_at h (i:=2) (by omega) (by omega)
 obtain ⟨hx,hy,hf,ht,hk,-⟩:=id h
 have n0:=Sm.N_R hx 0;have n1:=Sm.N_R hx 1;have n2:=Sm.N_R hx 2
 have hx':=hx;unfold Sm.R at hx'
 have : ¬ (x.kp = y.kp ∧ x.N 0 = y.N 0 ∧ x.N 1 = y.N 1 ∧ x.N 2 = y.N 2):=fun ⟨e,e0,e1,e2⟩ => hne (Sm.N_ext hx hy hf ht e fun i hi hi3 => by
  have : i = 0 ∨ i = 1 ∨ i = 2:=by omega
  rcases this with q | q | q <;> subst q <;> assumption)
 unfold Sm.size;omega
def LeastW (l : List Sm) (t : Sm) : Prop:=t.R ∧ ∀ z ∈ l,z.L t → z = t
instance (l : List Sm) (t : Sm) : Decidable (LeastW l t):=inferInstanceAs (Decidable (_ ∧ ∀ z ∈ l,_))
theorem leastW_below (l : List Sm) : ∀ (n : Nat) (x : Sm),x.size ≤ n → x ∈ l → x.R → ∃ y ∈ l,y.L x ∧ LeastW l y:=by
 intro n
 induction n with
 | zero =>
   intro x hn hx hr
   refine ⟨x,hx,Sm.L_refl.2 hr,hr,fun z hz hl => ?_⟩
   by_cases e : z = x
   · exact e
   · have:=Sm.size_lt hl e;omega
 | succ n ih =>
   intro x hn hx hr
   by_cases h : ∀ z ∈ l,z.L x → z = x
   · exact ⟨x,hx,Sm.L_refl.2 hr,hr,h⟩
   · have ⟨z,hz⟩ : ∃ z,z ∈ l ∧ z.L x ∧ z ≠ x:=by
      apply Classical.byContradiction
      intro hn
      apply h
      intro z hz hl
      apply Classical.byContradiction
      intro hne
      exact hn ⟨z,hz,hl,hne⟩
     obtain ⟨hz,hl,hne⟩:=hz
     obtain ⟨y,hy,hyz,hmin⟩:=ih z (by have:=Sm.size_lt hl hne;omega) hz hl.1
     exact ⟨y,hy,Sm.L_trans hyz hl,hmin⟩
def insW (t : Sm) : List Sm → List Sm
 | [] => [t]
 | y :: r => if y.A t then y :: insW t r else t :: y :: r
theorem mem_insW {t x : Sm} : ∀ {l : List Sm},x ∈ insW t l ↔ x = t ∨ x ∈ l
 | [] => by simp [insW]
 | y :: r => by
   unfold insW
   split
   · rw [List.mem_cons,mem_insW,List.mem_cons]
     constructor
     · rintro (h | h | h)
       · exact .inr (.inl h)
       · exact .inl h
       · exact .inr (.inr h)
     · rintro (h | h | h)
       · exact .inr (.inl h)
       · exact .inl h
       · exact .inr (.inr h)
   · simp
theorem insW_sort {t : Sm} : ∀ {l : List Sm},l.Pairwise Sm.A → t ∉ l → (insW t l).Pairwise Sm.A
 | [],_,_ => by simp [insW]
 | y :: r,h,hn => by
   have hh:=h
   rw [List.pairwise_cons] at h
   unfold insW
   split
   · rename_i hc
     rw [List.pairwise_cons]
     refine ⟨fun x hx => ?_,insW_sort h.2 (fun hm => hn (List.mem_cons_of_mem _ hm))⟩
     rcases mem_insW.1 hx with e | hx
     · rw [e];exact hc
     · exact h.1 x hx
   · rename_i hc
     have hty : t.A y:=by
      rcases Sm.A_total (x:=t) (y:=y) (fun e => hn (by rw [e];exact List.mem_cons_self)) with h1 | h1
      · exact h1
      · exact absurd h1 hc
     rw [List.pairwise_cons]
     refine ⟨fun x hx => ?_,hh⟩
     rcases List.mem_cons.1 hx with e | hx
     · rw [e];exact hty
     · exact Sm.A_trans hty (h.1 x hx)
def waysIn (l : List Sm) : List Sm → List Sm
 | [] => []
 | t :: r => if LeastW l t ∧ t ∉ waysIn l r then insW t (waysIn l r) else waysIn l r
def waysS (l : List Sm) : List Sm:=waysIn l l
theorem mem_waysIn (l : List Sm) : ∀ {m : List Sm},x ∈ waysIn l m ↔ x ∈ m ∧ LeastW l x
 | [] => by simp [waysIn]
 | t :: r => by
   unfold waysIn
   split
   · rename_i h
     rw [mem_insW,mem_waysIn l,List.mem_cons]
     constructor
     · rintro (e | ⟨h1,h2⟩)
       · subst e;exact ⟨.inl rfl,h.1⟩
       · exact ⟨.inr h1,h2⟩
     · rintro ⟨e | h1,h2⟩
       · exact .inl e
       · exact .inr ⟨h1,h2⟩
   · rename_i h
     rw [mem_waysIn l,List.mem_cons]
     constructor
     · rintro ⟨h1,h2⟩;exact ⟨.inr h1,h2⟩
     · rintro ⟨e | h1,h2⟩
       · subst e
         have : x ∈ waysIn l r:=Classical.byContradiction fun hn => h ⟨h2,hn⟩
         rw [mem_waysIn l] at this;exact this
       · exact ⟨h1,h2⟩
theorem waysIn_sort (l : List Sm) : ∀ m : List Sm,(waysIn l m).Pairwise Sm.A
 | [] => List.Pairwise.nil
 | t :: r => by
   unfold waysIn
   split
   · rename_i h;exact insW_sort (waysIn_sort l r) h.2
   · exact waysIn_sort l r
theorem mem_waysS : x ∈ waysS l ↔ x ∈ l ∧ LeastW l x:=mem_waysIn l
theorem waysS_eq (hs : f.Pairwise Sm.A) (hm : ∀ x,x ∈ f ↔ x ∈ l ∧ LeastW l x) : f = waysS l :=
 sums_ext hs (waysIn_sort l l) fun x => (hm x).trans mem_waysS.symm
theorem waysS_covers (hx : x ∈ l) (hr : x.R) : ∃ y ∈ waysS l,y.L x:=by
 obtain ⟨y,hy,hyx,hmin⟩:=leastW_below l _ x (Nat.le_refl _) hx hr
 exact ⟨y,mem_waysS.2 ⟨hy,hmin⟩,hyx⟩
theorem waysS_apart (hx : x ∈ waysS l) (hy : y ∈ waysS l) (h : x.L y) : x = y:=(mem_waysS.1 hy).2.2 x (mem_waysS.1 hx).1 h
theorem waysS_self : waysS (waysS l) = waysS l :=
 (waysS_eq (waysIn_sort l l) fun x => ⟨fun h => ⟨h,(mem_waysS.1 h).2.1,fun z hz hl => waysS_apart hz h hl⟩,fun h => h.1⟩).symm
/-! the row is as the document makes it: each in turn takes its place, unless another one is ahead, or it stood before -/
end
end

section
def Up (l : List St) (t : St) : Prop:=∃ x ∈ l,x.L t
structure Fr (f : List St) : Prop where
 right : ∀ x ∈ f,x.R
 depth : ∀ x ∈ f,∀ y ∈ f,x.d = y.d
 sort : f.Pairwise fun x y => x.C y < 0
 anti : ∀ x ∈ f,∀ y ∈ f,x.L y → x = y
section
variable {a b c f g l m : List St} {s t x y z : St}
theorem St.C_irrefl : ¬ x.C x < 0:=by
 have : x.C x = 0:=St.C_zero.2 rfl
 omega
theorem St.C_lt_trans (h : x.C y < 0) (k : y.C z < 0) : x.C z < 0:=by
 rw [St.C_neg] at *
 omega
theorem St.C_total (h : x ≠ y) : x.C y < 0 ∨ y.C x < 0:=by
 have h1 : x.C y ≠ 0:=fun e => h (St.C_zero.1 e)
 have h2:=St.C_swap (a:=x) (b:=y)
 omega
theorem sorted_ext : ∀ {f g : List St},f.Pairwise (fun x y => x.C y < 0) → g.Pairwise (fun x y => x.C y < 0) → (∀ t,t ∈ f ↔ t ∈ g) → f = g
 | [],[],_,_,_ => rfl
 | [],y :: g,_,_,h => absurd ((h y).2 List.mem_cons_self) (by simp)
 | x :: f,[],_,_,h => absurd ((h x).1 List.mem_cons_self) (by simp)
 | x :: f,y :: g,hf,hg,h => by
   rw [List.pairwise_cons] at hf hg
   have hxy : x = y:=by
    have h1:=(h x).1 List.mem_cons_self
    have h2:=(h y).2 List.mem_cons_self
    rcases List.mem_cons.1 h1 with e | h1
    · exact e
    · rcases List.mem_cons.1 h2 with e | h2
      · exact e.symm
      · exact absurd (St.C_lt_trans (hf.1 y h2) (hg.1 x h1)) St.C_irrefl
   subst hxy
   congr 1
   refine sorted_ext hf.2 hg.2 fun t => ⟨fun ht => ?_,fun ht => ?_⟩
   · rcases List.mem_cons.1 ((h t).1 (List.mem_cons_of_mem _ ht)) with e | h1
     · exact absurd (e ▸ hf.1 t ht) St.C_irrefl
     · exact h1
   · rcases List.mem_cons.1 ((h t).2 (List.mem_cons_of_mem _ ht)) with e | h1
     · exact absurd (e ▸ hg.1 t ht) St.C_irrefl
     · exact h1
theorem Up.self (hx : x ∈ l) (hr : x.R) : Up l x:=⟨x,hx,St.L_refl.2 hr⟩
theorem Fr.sub (hf : Fr f) (hg : Fr g) (h : ∀ t,Up f t ↔ Up g t) : ∀ t,t ∈ f → t ∈ g:=by
 intro x hx
 obtain ⟨y,hy,hyx⟩:=(h x).1 (Up.self hx (hf.right x hx))
 obtain ⟨z,hz,hzy⟩:=(h y).2 (Up.self hy (hg.right y hy))
 have e:=hf.anti z hz x hx (St.L_trans hzy hyx)
 subst e
 rw [St.L_antisymm hzy hyx];exact hy
theorem Fr.ext (hf : Fr f) (hg : Fr g) (h : ∀ t,Up f t ↔ Up g t) : f = g :=
 sorted_ext hf.sort hg.sort fun t => ⟨hf.sub hg h t,hg.sub hf (fun t => (h t).symm) t⟩
/-! the frontier of any times of one depth -/
def Even (l : List St) : Prop:=∀ x ∈ l,x.R ∧ ∀ y ∈ l,x.d = y.d
def St.sum (t : St) : Nat:=(t.e + t.x + t.y + t.z).toNat
theorem St.sum_lt (h : x.L y) (hne : x ≠ y) : x.sum < y.sum:=by
 unfold St.L St.R at h
 unfold St.sum
 have : ¬ (x.e = y.e ∧ x.x = y.x ∧ x.y = y.y ∧ x.z = y.z):=fun ⟨h1,h2,h3,h4⟩ => hne (St.ext' h.2.2.1 h1 h2 h3 h4)
 omega
theorem least_below (l : List St) : ∀ (n : Nat) (x : St),x.sum ≤ n → x ∈ l → x.R → ∃ y ∈ l,y.L x ∧ ∀ z ∈ l,z.L y → z = y:=by
 intro n
 induction n with
 | zero =>
   intro x hn hx hr
   refine ⟨x,hx,St.L_refl.2 hr,fun z hz hl => ?_⟩
   by_cases e : z = x
   · exact e
   · have:=St.sum_lt hl e;omega
 | succ n ih =>
   intro x hn hx hr
   by_cases h : ∀ z ∈ l,z.L x → z = x
   · exact ⟨x,hx,St.L_refl.2 hr,h⟩
   · have ⟨z,hz⟩ : ∃ z,z ∈ l ∧ z.L x ∧ z ≠ x:=by
      apply Classical.byContradiction
      intro hn
      apply h
      intro z hz hl
      apply Classical.byContradiction
      intro hne
      exact hn ⟨z,hz,hl,hne⟩
     obtain ⟨hz,hl,hne⟩:=hz
     obtain ⟨y,hy,hyz,hmin⟩:=ih z (by have:=St.sum_lt hl hne;omega) hz hl.1
     exact ⟨y,hy,St.L_trans hyz hl,hmin⟩
def insS (t : St) : List St → List St
 | [] => [t]
 | y :: r => if y.C t < 0 then y :: insS t r else t :: y :: r
theorem mem_insS {t x : St} : ∀ {l : List St},x ∈ insS t l ↔ x = t ∨ x ∈ l
 | [] => by simp [insS]
 | y :: r => by
   unfold insS
   split
   · rw [List.mem_cons,mem_insS,List.mem_cons]
     constructor
     · rintro (h | h | h)
       · exact .inr (.inl h)
       · exact .inl h
       · exact .inr (.inr h)
     · rintro (h | h | h)
       · exact .inr (.inl h)
       · exact .inl h
       · exact .inr (.inr h)
   · simp
theorem insS_sort {t : St} : ∀ {l : List St},l.Pairwise (fun x y => x.C y < 0) → t ∉ l → (insS t l).Pairwise (fun x y => x.C y < 0)
 | [],_,_ => by simp [insS]
 | y :: r,h,hn => by
   have hh:=h
   rw [List.pairwise_cons] at h
   unfold insS
   split
   · rename_i hc
     rw [List.pairwise_cons]
     refine ⟨fun x hx => ?_,insS_sort h.2 (fun hm => hn (List.mem_cons_of_mem _ hm))⟩
     rcases mem_insS.1 hx with e | hx
     · rw [e];exact hc
     · exact h.1 x hx
   · rename_i hc
     have hty : t.C y < 0:=by
      rcases St.C_total (x:=t) (y:=y) (fun e => hn (by rw [e];exact List.mem_cons_self)) with h1 | h1
      · exact h1
      · exact absurd h1 hc
     rw [List.pairwise_cons]
     refine ⟨fun x hx => ?_,hh⟩
     rcases List.mem_cons.1 hx with e | hx
     · rw [e];exact hty
     · exact St.C_lt_trans hty (h.1 x hx)
def Least (l : List St) (t : St) : Prop:=∀ z ∈ l,z.L t → z = t
instance (l : List St) (t : St) : Decidable (Least l t):=inferInstanceAs (Decidable (∀ z ∈ l,_))
def ofIn (l : List St) : List St → List St
 | [] => []
 | t :: r => if Least l t ∧ t ∉ ofIn l r then insS t (ofIn l r) else ofIn l r
def ofS (l : List St) : List St:=ofIn l l
theorem mem_ofIn (l : List St) : ∀ {m : List St},x ∈ ofIn l m ↔ x ∈ m ∧ Least l x
 | [] => by simp [ofIn]
 | t :: r => by
   unfold ofIn
   split
   · rename_i h
     rw [mem_insS,mem_ofIn l,List.mem_cons]
     constructor
     · rintro (e | ⟨h1,h2⟩)
       · subst e;exact ⟨.inl rfl,h.1⟩
       · exact ⟨.inr h1,h2⟩
     · rintro ⟨e | h1,h2⟩
       · exact .inl e
       · exact .inr ⟨h1,h2⟩
   · rename_i h
     rw [mem_ofIn l,List.mem_cons]
     constructor
     · rintro ⟨h1,h2⟩;exact ⟨.inr h1,h2⟩
     · rintro ⟨e | h1,h2⟩
       · subst e
         have : x ∈ ofIn l r:=Classical.byContradiction fun hn => h ⟨h2,hn⟩
         rw [mem_ofIn l] at this;exact this
       · exact ⟨h1,h2⟩
theorem ofIn_sort (l : List St) : ∀ m : List St,(ofIn l m).Pairwise (fun x y => x.C y < 0)
 | [] => List.Pairwise.nil
 | t :: r => by
   unfold ofIn
   split
   · rename_i h;exact insS_sort (ofIn_sort l r) h.2
   · exact ofIn_sort l r
theorem mem_ofS : x ∈ ofS l ↔ x ∈ l ∧ Least l x:=mem_ofIn l
theorem ofS_fr (h : Even l) : Fr (ofS l) :=
 ⟨fun x hx => (h x (mem_ofS.1 hx).1).1,fun x hx y hy => (h x (mem_ofS.1 hx).1).2 y (mem_ofS.1 hy).1,ofIn_sort l l,fun x hx y hy hl => (mem_ofS.1 hy).2 x (mem_ofS.1 hx).1 hl⟩
theorem ofS_up (h : Even l) : Up (ofS l) t ↔ Up l t:=by
 constructor
 · rintro ⟨x,hx,hl⟩;exact ⟨x,(mem_ofS.1 hx).1,hl⟩
 · rintro ⟨x,hx,hl⟩
   obtain ⟨y,hy,hyx,hmin⟩:=least_below l _ x (Nat.le_refl _) hx (h x hx).1
   exact ⟨y,mem_ofS.2 ⟨hy,hmin⟩,St.L_trans hyx hl⟩
theorem ofS_eq (hs : f.Pairwise (fun x y => x.C y < 0)) (hm : ∀ x,x ∈ f ↔ x ∈ l ∧ Least l x) : f = ofS l :=
 sorted_ext hs (ofIn_sort l l) fun x => (hm x).trans mem_ofS.symm
/-! one within the other, both, either -/
def Alike (a b : List St) : Prop:=Fr a ∧ Fr b ∧ ∀ x ∈ a,∀ y ∈ b,x.d = y.d
def In (a b : List St) : Prop:=∀ x ∈ b,Up a x
end
end

section
def Nd.sm (n : Nd) : Sm:=if n.k = 7 then ⟨n.d - 1,n.d,n.d - 1,0,0,0,0⟩ else if n.k = 8 then ⟨n.d + 1,n.d,n.d,0,0,0,0⟩ else if n.k = 9 then ⟨n.d,n.d,n.d,1,0,0,0⟩ else ⟨n.d,n.d,n.d,0,0,0,0⟩
def Nd.smOk (n : Nd) : Prop:=1 ≤ n.k ∧ n.k ≤ 10 ∧ n.sm.R
instance (n : Nd) : Decidable n.smOk:=inferInstanceAs (Decidable (_ ∧ _))
def idS (d : Int) : Sm:=⟨d,d,d,0,0,0,0⟩
theorem idS_R {d : Int} (h0 : 0 ≤ d) (h3 : d ≤ 3) : (idS d).R:=by
 simp only [idS,Sm.R]
 refine ⟨⟨h0,h3⟩,⟨h0,h3⟩,⟨h0,?_,?_⟩,⟨?_,?_,?_⟩,⟨?_,?_,?_⟩,⟨?_,?_,?_⟩,⟨?_,?_,?_⟩⟩ <;> first | omega | (intro _;first | trivial | omega)
theorem sm_to (n : Nd) : n.sm.to = n.d:=by
 unfold Nd.sm
 by_cases h7 : n.k = 7
 · rw [if_pos h7]
 by_cases h8 : n.k = 8
 · rw [if_neg h7,if_pos h8]
 by_cases h9 : n.k = 9
 · rw [if_neg h7,if_neg h8,if_pos h9]
 · rw [if_neg h7,if_neg h8,if_neg h9]
def Fd (g : List Nd) (i n : Nat) : Prop:=∃ x,g[n]? = some x ∧ ((i : Nat) : Int) ∈ x.ins
theorem Fd.lt {g : List Nd} {i n : Nat} (h : Fd g i n) : n < g.length:=by
 obtain ⟨x,hx,_⟩:=h
 exact (List.getElem?_eq_some_iff.1 hx).1
inductive Arr (g : List Nd) (i : Nat) : Nat → Sm → Prop
 | first {n : Nat} {x : Nd} (hx : g[i]? = some x) (hf : Fd g i n) : Arr g i n (idS x.d)
 | on {n m : Nat} {s : Sm} {x : Nd} (h : Arr g i n s) (hx : g[n]? = some x) (ho : x.smOk) (ht : s.thenOk x.sm) (hf : Fd g n m) : Arr g i m (s.seq x.sm)
def Fine (g : List Nd) : Prop:=∀ (n : Nat) (x : Nd),g[n]? = some x → x.num = true ∧ x.Ports g ∧ x.Deep g
theorem fine_of {g : List Nd} (h : ∀ j : Nat,j < g.length → nodeE g j = 0) : Fine g:=fun n x hx => by
 have h1:=h n (List.getElem?_eq_some_iff.1 hx).1
 rw [nodeE_at hx] at h1
 exact err_zero h1
section
variable {g : List Nd} {i n m : Nat} {s t : Sm} {x y : Nd}
theorem Fine.deep (hg : Fine g) (hx : g[n]? = some x) : 0 ≤ x.d ∧ x.d ≤ 3:=by
 have h:=(hg n x hx).2.2.1
 unfold Nd.deepB at h
 have:=of_decide_eq_true h
 exact ⟨this.1,this.2.1⟩
theorem Fine.fed (hg : Fine g) (hx : g[n]? = some x) (hf : Fd g n m) (hy : g[m]? = some y) : y.d - y.more = x.d:=by
 obtain ⟨y',hy',hm⟩:=hf
 rw [hy] at hy'
 cases hy'
 refine (hg m y hy).2.2.2 _ hm x ?_
 rw [show ((n : Nat) : Int).toNat = n by omega]
 exact hx
theorem Arr.ends (hg : Fine g) (h : Arr g i n s) : s.R ∧ (∃ x,g[i]? = some x ∧ s.fr = x.d) ∧ ∃ j y,g[j]? = some y ∧ Fd g j n ∧ s.to = y.d:=by
 induction h with
 | first hx hf =>
   have hd:=hg.deep hx
   exact ⟨idS_R hd.1 hd.2,⟨_,hx,rfl⟩,_,_,hx,hf,rfl⟩
 | on h hx ho ht hf ih => exact ⟨Sm.seq_R ht,ih.2.1,_,_,hx,hf,sm_to _⟩
theorem Arr.lt (h : Arr g i n s) : n < g.length:=by
 cases h with
 | first hx hf => exact hf.lt
 | on h hx ho ht hf => exact hf.lt
theorem Arr.to_eq (hg : Fine g) (h : Arr g i n s) (hx : g[n]? = some x) : s.to = x.d - x.more:=by
 obtain ⟨_,_,j,y,hy,hf,e⟩:=h.ends hg
 rw [e,hg.fed hy hf hx]
structure Cov (g : List Nd) (i : Nat) (P : Nat → Sm → Prop) : Prop where
 sound : ∀ n s,P n s → Arr g i n s
 first : ∀ n x,g[i]? = some x → Fd g i n → ∃ s,P n s ∧ s.L (idS x.d)
 on : ∀ n m s x,P n s → g[n]? = some x → x.smOk → s.thenOk x.sm → Fd g n m → ∃ t,P m t ∧ t.L (s.seq x.sm)
theorem Cov.covers {P : Nat → Sm → Prop} (hP : Cov g i P) (h : Arr g i n s) : ∃ t,P n t ∧ t.L s:=by
 induction h with
 | first hx hf => exact hP.first _ _ hx hf
 | on h hx ho ht hf ih =>
   obtain ⟨t,hp,hl⟩:=ih
   obtain ⟨h1,h2⟩:=Sm.seq_left hl ht
   obtain ⟨u,hu,hl2⟩:=hP.on _ _ _ _ hp hx ho h1 hf
   exact ⟨u,hu,Sm.L_trans hl2 h2⟩
theorem waysS_cover {p l : List Sm} (h1 : ∀ x ∈ p,x ∈ l) (h2 : ∀ x ∈ l,x.R → ∃ y ∈ p,y.L x) : waysS p = waysS l:=by
 refine waysS_eq (waysIn_sort p p) fun x => ?_
 rw [mem_waysS]
 constructor
 · rintro ⟨hx,hr,hm⟩
   refine ⟨h1 x hx,hr,fun z hz hl => ?_⟩
   obtain ⟨y,hy,hyz⟩:=h2 z hz hl.1
   have e:=hm y hy (Sm.L_trans hyz hl)
   subst e
   exact Sm.L_antisymm hl hyz
 · rintro ⟨hx,hr,hm⟩
   obtain ⟨y,hy,hyx⟩:=h2 x hx hr
   have e:=hm y (h1 y hy) hyx
   subst e
   exact ⟨hy,hr,fun z hz hl => hm z (h1 z hz) hl⟩
end
/-! all ways as a row that grows: the document's own -/
def addA (s : Sm) : List (Nat × Nat) → List (Nat × Sm) → List (Nat × Sm)
 | [],l => l
 | p :: ps,l => addA s ps (if (p.1,s) ∈ l then l else l ++ [(p.1,s)])
theorem mem_addA {s : Sm} {a : Nat × Sm} : ∀ {ps : List (Nat × Nat)} {l : List (Nat × Sm)},a ∈ addA s ps l ↔ a ∈ l ∨ a.2 = s ∧ ∃ p ∈ ps,p.1 = a.1
 | [],l => by simp [addA]
 | p :: ps,l => by
   rw [addA,mem_addA]
   obtain ⟨n,t⟩:=a
   by_cases h : (p.1,s) ∈ l
   · rw [if_pos h]
     constructor
     · rintro (h1 | ⟨h1,q,hq,e⟩)
       · exact .inl h1
       · exact .inr ⟨h1,q,List.mem_cons_of_mem _ hq,e⟩
     · rintro (h1 | ⟨h1,q,hq,e⟩)
       · exact .inl h1
       · rcases List.mem_cons.1 hq with rfl | hq
         · simp only at h1 e
           subst h1;subst e
           exact .inl h
         · exact .inr ⟨h1,q,hq,e⟩
   · rw [if_neg h]
     constructor
     · rintro (h1 | ⟨h1,q,hq,e⟩)
       · rcases List.mem_append.1 h1 with h1 | h1
         · exact .inl h1
         · have e:=List.mem_singleton.1 h1
           injection e with e1 e2
           exact .inr ⟨e2,p,List.mem_cons_self,e1.symm⟩
       · exact .inr ⟨h1,q,List.mem_cons_of_mem _ hq,e⟩
     · rintro (h1 | ⟨h1,q,hq,e⟩)
       · exact .inl (List.mem_append_left _ h1)
       · rcases List.mem_cons.1 hq with rfl | hq
         · simp only at h1 e
           subst h1;subst e
           exact .inl (List.mem_append_right _ List.mem_cons_self)
         · exact .inr ⟨h1,q,hq,e⟩
theorem addA_nodup {s : Sm} : ∀ {ps : List (Nat × Nat)} {l : List (Nat × Sm)},l.Nodup → (addA s ps l).Nodup
 | [],l,h => h
 | p :: ps,l,h => by
   rw [addA]
   refine addA_nodup ?_
   by_cases hm : (p.1,s) ∈ l
   · rw [if_pos hm];exact h
   · rw [if_neg hm,List.nodup_append]
     exact ⟨h,by simp,fun a ha b hb e => by
      have:=List.mem_singleton.1 hb
      subst this;subst e
      exact hm ha⟩
theorem addA_pre {s : Sm} : ∀ {ps : List (Nat × Nat)} {l : List (Nat × Sm)},∃ m,addA s ps l = l ++ m
 | [],l => ⟨[],by simp [addA]⟩
 | p :: ps,l => by
   rw [addA]
   by_cases hm : (p.1,s) ∈ l
   · rw [if_pos hm];exact addA_pre
   · rw [if_neg hm]
     obtain ⟨m,e⟩:=addA_pre (s:=s) (ps:=ps) (l:=l ++ [(p.1,s)])
     exact ⟨(p.1,s) :: m,by rw [e,List.append_assoc];rfl⟩
theorem toG_fd {g : List Nd} {i n : Nat} : (∃ p ∈ toG ((i : Nat) : Int) 0 g,p.1 = n) ↔ Fd g i n:=by
 constructor
 · rintro ⟨⟨m,q⟩,hp,rfl⟩
   obtain ⟨_,x,hx,hq⟩:=mem_toG.1 hp
   exact ⟨x,by simpa using hx,List.mem_of_getElem? hq⟩
 · rintro ⟨x,hx,hm⟩
   obtain ⟨q,hq⟩:=List.getElem?_of_mem hm
   exact ⟨(n,q),mem_toG.2 ⟨Nat.zero_le _,x,by simpa using hx,hq⟩,rfl⟩
structure AllW (g : List Nd) (i : Nat) (l : List (Nat × Sm)) (k : Nat) : Prop where
 nodup : l.Nodup
 sound : ∀ n s,(n,s) ∈ l → Arr g i n s
 first : ∀ n x,g[i]? = some x → Fd g i n → (n,idS x.d) ∈ l
 done : ∀ j n s,j < k → l[j]? = some (n,s) → ∀ x m,g[n]? = some x → x.smOk → s.thenOk x.sm → Fd g n m → (m,s.seq x.sm) ∈ l
 le : k ≤ l.length
section
variable {g : List Nd} {i k n : Nat} {l : List (Nat × Sm)} {s : Sm} {x : Nd}
theorem AllW.start (hx : g[i]? = some x) : AllW g i (addA (idS x.d) (toG ((i : Nat) : Int) 0 g) []) 0 where
 nodup:=addA_nodup List.nodup_nil
 sound:=fun n s h => by
  rcases mem_addA.1 h with h2 | ⟨e,h2⟩
  · cases h2
  · simp only at e h2
    subst e
    exact .first hx (toG_fd.1 h2)
 first:=fun n y hy hf => by
  rw [hx] at hy;cases hy
  exact mem_addA.2 (.inr ⟨rfl,toG_fd.2 hf⟩)
 done:=fun j _ _ h => absurd h (Nat.not_lt_zero _)
 le:=Nat.zero_le _
theorem AllW.skip (h : AllW g i l k) (hk : l[k]? = some (n,s)) (hx : g[n]? = some x) (hn : ¬ (x.smOk ∧ s.thenOk x.sm)) : AllW g i l (k + 1) where
 nodup:=h.nodup
 sound:=h.sound
 first:=h.first
 done:=fun j n' s' hj hj2 x' m hx' ho ht hf => by
  rcases Nat.lt_succ_iff_lt_or_eq.1 hj with hj | rfl
  · exact h.done j n' s' hj hj2 x' m hx' ho ht hf
  · rw [hk] at hj2
    cases hj2
    rw [hx] at hx'
    cases hx'
    exact absurd ⟨ho,ht⟩ hn
 le:=(List.getElem?_eq_some_iff.1 hk).1
theorem AllW.step (h : AllW g i l k) (hk : l[k]? = some (n,s)) (hx : g[n]? = some x) (ho : x.smOk) (ht : s.thenOk x.sm) : AllW g i (addA (s.seq x.sm) (toG ((n : Nat) : Int) 0 g) l) (k + 1) where
 nodup:=addA_nodup h.nodup
 sound:=fun m t hm => by
  rcases mem_addA.1 hm with h2 | ⟨e,h2⟩
  · exact h.sound m t h2
  · simp only at e h2
    subst e
    exact .on (h.sound n s (List.mem_of_getElem? hk)) hx ho ht (toG_fd.1 h2)
 first:=fun m y hy hf => mem_addA.2 (.inl (h.first m y hy hf))
 done:=fun j n' s' hj hj2 x' m hx' ho' ht' hf => by
  obtain ⟨r,e⟩:=addA_pre (s:=s.seq x.sm) (ps:=toG ((n : Nat) : Int) 0 g) (l:=l)
  have hkl:=(List.getElem?_eq_some_iff.1 hk).1
  rw [e,List.getElem?_append_left (by omega)] at hj2
  rcases Nat.lt_succ_iff_lt_or_eq.1 hj with hj | rfl
  · exact mem_addA.2 (.inl (h.done j n' s' hj hj2 x' m hx' ho' ht' hf))
  · rw [hk] at hj2
    cases hj2
    rw [hx] at hx'
    cases hx'
    exact mem_addA.2 (.inr ⟨rfl,toG_fd.2 hf⟩)
 le:=by
  obtain ⟨r,e⟩:=addA_pre (s:=s.seq x.sm) (ps:=toG ((n : Nat) : Int) 0 g) (l:=l)
  have hkl:=(List.getElem?_eq_some_iff.1 hk).1
  rw [e,List.length_append];omega
theorem AllW.all (h : AllW g i l l.length) : (n,s) ∈ l ↔ Arr g i n s:=by
 refine ⟨h.sound n s,fun ha => ?_⟩
 induction ha with
 | first hx hf => exact h.first _ _ hx hf
 | on ha hx ho ht hf ih =>
   obtain ⟨j,hj⟩:=List.getElem?_of_mem ih
   exact h.done j _ _ (List.getElem?_eq_some_iff.1 hj).1 hj _ _ hx ho ht hf
end
/-! it comes to an end -/
theorem pigeon : ∀ (N : Nat) (l : List Nat),l.Nodup → (∀ x ∈ l,x < N) → l.length ≤ N
 | 0,l,_,h => by
   cases l with
   | nil => exact Nat.le_refl _
   | cons x l => exact absurd (h x List.mem_cons_self) (Nat.not_lt_zero _)
 | N + 1,l,hn,h => by
   have h1:=pigeon N (l.erase N) (hn.erase N) fun x hx => by
    have h2:=h x (List.mem_of_mem_erase hx)
    have h3 : x ≠ N:=fun e => by subst e;exact hn.not_mem_erase hx
    omega
   have h4:=List.length_erase (a:=N) (l:=l)
   split at h4 <;> omega
def Sm.code (s : Sm) : Nat:=(s.fr + 4 * (s.to + 4 * (s.kp + 4 * (s.ad + 16 * (s.t0 + 16 * (s.t1 + 16 * s.t2)))))).toNat
theorem Sm.code_lt {s : Sm} (h : s.R) : s.code < 4194304:=by unfold Sm.R at h;unfold Sm.code;omega
theorem Sm.code_inj {s t : Sm} (h : s.R) (k : t.R) (e : s.code = t.code) : s = t:=by
 unfold Sm.R at h k;unfold Sm.code at e
 refine Sm.ext' ?_ ?_ ?_ ?_ ?_ ?_ ?_ <;> omega
theorem nodup_map {α : Type} (f : α → Nat) : ∀ (l : List α),l.Nodup → (∀ x ∈ l,∀ y ∈ l,f x = f y → x = y) → (l.map f).Nodup
 | [],_,_ => List.nodup_nil
 | x :: l,h,hf => by
   rw [List.map_cons,List.nodup_cons]
   have h1:=List.nodup_cons.1 h
   refine ⟨fun hm => ?_,nodup_map f l h1.2 fun a ha b hb => hf a (List.mem_cons_of_mem _ ha) b (List.mem_cons_of_mem _ hb)⟩
   obtain ⟨y,hy,e⟩:=List.mem_map.1 hm
   have:=hf y (List.mem_cons_of_mem _ hy) x List.mem_cons_self e
   subst this
   exact h1.1 hy
theorem AllW.bound {g : List Nd} {i k : Nat} {l : List (Nat × Sm)} (hg : Fine g) (h : AllW g i l k) : l.length ≤ g.length * 4194304:=by
 have hr : ∀ a ∈ l,a.1 < g.length ∧ a.2.R:=fun a ha => ⟨(h.sound a.1 a.2 ha).lt,((h.sound a.1 a.2 ha).ends hg).1⟩
 have h1:=pigeon (g.length * 4194304) (l.map fun a => a.1 * 4194304 + a.2.code) (nodup_map _ l h.nodup fun a ha b hb e => by
  have ha2:=hr a ha
  have hb2:=hr b hb
  have h3:=Sm.code_lt ha2.2
  have h4:=Sm.code_lt hb2.2
  have e1 : a.1 = b.1:=by omega
  have e2 : a.2.code = b.2.code:=by omega
  exact Prod.ext e1 (Sm.code_inj ha2.2 hb2.2 e2)) fun x hx => by
  obtain ⟨a,ha,rfl⟩:=List.mem_map.1 hx
  have ha2:=hr a ha
  have h3:=Sm.code_lt ha2.2
  have : a.1 * 4194304 + 4194304 ≤ g.length * 4194304:=by have:=ha2.1;omega
  omega
 rwa [List.length_map] at h1
/-! with a node more that feeds none -/
section
variable {g : List Nd} {i n f : Nat} {s : Sm} {z : Nd}
theorem Fd.from_lt (hg : Fine g) (h : Fd g i n) : i < g.length:=by
 obtain ⟨x,hx,hm⟩:=h
 obtain ⟨h0,m,hm2,_⟩:=(hg n x hx).2.1.1 _ hm
 rw [show ((i : Nat) : Int).toNat = i by omega] at hm2
 exact (List.getElem?_eq_some_iff.1 hm2).1
end
end

section
def atA (n : Nat) : List (Nat × Sm) → List Sm
 | [] => []
 | a :: l => if a.1 = n then a.2 :: atA n l else atA n l
theorem mem_atA {n : Nat} {s : Sm} : ∀ {l : List (Nat × Sm)},s ∈ atA n l ↔ (n,s) ∈ l
 | [] => by simp [atA]
 | (m,t) :: l => by
   unfold atA
   by_cases h : m = n
   · subst h
     rw [if_pos rfl,List.mem_cons,List.mem_cons,mem_atA]
     simp
   · rw [if_neg h,mem_atA,List.mem_cons]
     constructor
     · exact .inr
     · rintro (e | h2)
       · injection e with e1 e2;exact absurd e1.symm h
       · exact h2
def appS (t : St) : List Sm → List St
 | [] => []
 | s :: l => match s.apply t with | some u => u :: appS t l | none => appS t l
theorem mem_appS {t u : St} : ∀ {l : List Sm},u ∈ appS t l ↔ ∃ s ∈ l,s.apply t = some u
 | [] => by simp [appS]
 | s :: l => by
   unfold appS
   cases h : s.apply t with
   | none =>
     simp only
     rw [mem_appS]
     constructor
     · rintro ⟨x,hx,e⟩;exact ⟨x,List.mem_cons_of_mem _ hx,e⟩
     · rintro ⟨x,hx,e⟩
       rcases List.mem_cons.1 hx with rfl | hx
       · rw [h] at e;cases e
       · exact ⟨x,hx,e⟩
   | some v =>
     simp only [List.mem_cons]
     rw [mem_appS]
     constructor
     · rintro (rfl | ⟨x,hx,e⟩)
       · exact ⟨s,.inl rfl,h⟩
       · exact ⟨x,.inr hx,e⟩
     · rintro ⟨x,rfl | hx,e⟩
       · rw [h] at e;cases e;exact .inl rfl
       · exact .inr ⟨x,hx,e⟩
theorem appS_append {t : St} : ∀ {l m : List Sm},appS t (l ++ m) = appS t l ++ appS t m
 | [],m => rfl
 | s :: l,m => by
   rw [List.cons_append]
   show (match s.apply t with | some u => u :: appS t (l ++ m) | none => appS t (l ++ m)) = (match s.apply t with | some u => u :: appS t l | none => appS t l) ++ appS t m
   rw [appS_append]
   cases s.apply t <;> rfl
def OneTo (l : List Sm) : Prop:=∀ x ∈ l,∀ y ∈ l,x.to = y.to
theorem appS_even {t : St} {l : List Sm} (h : OneTo l) : Even (appS t l):=fun u hu => by
 obtain ⟨s,hs,e⟩:=mem_appS.1 hu
 have h1:=Sm.apply_R e
 refine ⟨h1.1,fun v hv => ?_⟩
 obtain ⟨s',hs',e'⟩:=mem_appS.1 hv
 have h2:=Sm.apply_R e'
 rw [h1.2.1,h2.2.1]
 exact h s hs s' hs'
section
variable {g : List Nd} {i n f : Nat} {l l' : List (Nat × Sm)} {x z : Nd}
def AllOf (g : List Nd) (i : Nat) (l : List (Nat × Sm)) : Prop:=∀ n s,(n,s) ∈ l ↔ Arr g i n s
theorem AllOf.at_ (h : AllOf g i l) {s : Sm} : s ∈ atA n l ↔ Arr g i n s:=mem_atA.trans (h n s)
theorem AllOf.cover {P : Nat → Sm → Prop} (h : AllOf g i l) (hP : Cov g i P) {p : List Sm} (hp : ∀ s,s ∈ p ↔ P n s) : waysS p = waysS (atA n l) :=
 waysS_cover (fun s hs => h.at_.2 (hP.sound n s ((hp s).1 hs))) fun s hs hr => by
  obtain ⟨t,ht,hl⟩:=hP.covers (h.at_.1 hs)
  exact ⟨t,(hp t).2 ht,hl⟩
theorem Fine.smOk (hg : Fine g) (hx : g[n]? = some x) (h7 : x.k = 7 → 1 ≤ x.d) (h8 : x.k = 8 → x.d ≤ 2) : x.smOk:=by
 have hd:=hg.deep hx
 obtain ⟨h1,h2,h3⟩:=hg n x hx
 have hk : 1 ≤ x.k ∧ x.k ≤ 10:=by
  unfold Nd.num at h1
  split at h1
  · omega
  split at h1
  · omega
  split at h1
  · omega
  split at h1
  · omega
  have:=of_decide_eq_true h1
  exact ⟨this.1,this.2.1⟩
 have h9 : x.k = 9 → 1 ≤ x.d:=by
  have:=h3.1
  unfold Nd.deepB at this
  exact (of_decide_eq_true this).2.2.2
 refine ⟨hk.1,hk.2,?_⟩
 unfold Nd.sm
 split
 · have:=h7 (by assumption)
   unfold Sm.R;refine ⟨⟨?_,?_⟩,⟨?_,?_⟩,⟨?_,?_,?_⟩,⟨?_,?_,?_⟩,⟨?_,?_,?_⟩,⟨?_,?_,?_⟩,⟨?_,?_,?_⟩⟩ <;> first | (dsimp only;omega) | (intro _;first | trivial | (dsimp only;omega))
 split
 · have:=h8 (by assumption)
   unfold Sm.R;refine ⟨⟨?_,?_⟩,⟨?_,?_⟩,⟨?_,?_,?_⟩,⟨?_,?_,?_⟩,⟨?_,?_,?_⟩,⟨?_,?_,?_⟩,⟨?_,?_,?_⟩⟩ <;> first | (dsimp only;omega) | (intro _;first | trivial | (dsimp only;omega))
 split
 · have:=h9 (by assumption)
   unfold Sm.R;refine ⟨⟨?_,?_⟩,⟨?_,?_⟩,⟨?_,?_,?_⟩,⟨?_,?_,?_⟩,⟨?_,?_,?_⟩,⟨?_,?_,?_⟩,⟨?_,?_,?_⟩⟩ <;> first | (dsimp only;omega) | (intro h0;first | trivial | (dsimp only at h0 ⊢;omega))
 · exact idS_R hd.1 hd.2
end
end
end Go.Proofs.YtonelpnhoiajgaaGreatDoor
