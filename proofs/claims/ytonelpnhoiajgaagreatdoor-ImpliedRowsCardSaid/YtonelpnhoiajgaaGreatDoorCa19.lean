import Derived.Test.YtonelpnhoiajgaaGreatDoorHd
import Derived.Test.YtonelpnhoiajgaaGreatDoorCa18
import Derived.Maps.RangeWalk
import Derived.Test.YtonelpnhoiajgaaGreatDoorCa15
import Derived.Test.YtonelpnhoiajgaaGreatDoorCa12
import Derived.Test.YtonelpnhoiajgaaGreatDoorCa4
import Derived.Test.YtonelpnhoiajgaaGreatDoorCa13
import Derived.Test.YtonelpnhoiajgaaGreatDoorCa0
import Derived.Laws.BytesArg
import Derived.Laws.AppendOwnNone
import Derived.OwnWalk
import Derived.Test.YtonelpnhoiajgaaGreatDoorCa2
import Derived.Laws.IdiomStrings
import Derived.Laws.Strings
import Derived.Test.YtonelpnhoiajgaaGreatDoorCa8
import Derived.LaidMore
import Derived.Lib.LaidTab
import Derived.Stop.Joined
import Derived.Test.YtonelpnhoiajgaaGreatDoorCards
import Derived.Test.YtonelpnhoiajgaaGreatDoorTie
import Derived.SevenTiedAt
import Derived.Test.YtonelpnhoiajgaaGreatDoorCa16
namespace Go.Proofs.YtonelpnhoiajgaaGreatDoor
set_option linter.unusedSimpArgs false
set_option linter.unusedVariables false
set_option maxRecDepth 100000
open Go.ChangeShapes Go.WideShapes Go.ChangeAt Go.RowKit Go.BigFrame
section
theorem ranges_kept {P : Program} {k : TypeId} {R : Value → Option (DataW Unit × List MemPlace)} {w w' : World} {b r n cnt : Nat} {D : DataW Unit} {left : Lit → Bool} (h : w.ranges P k R b r n D left cnt) (hk : Kept w w') : w'.ranges P k R b r n D left cnt:=by
 obtain ⟨es,clock,since,seen,c0,hb,F,hs,hD,hr,rest⟩:=h
 exact ⟨es,clock,since,seen,c0,hk b _ hb rfl,F,hs,hD,hk r _ hr rfl,rest⟩
theorem ranges_off {P : Program} {k : TypeId} {R : Value → Option (DataW Unit × List MemPlace)} {w : World} {b r n cnt : Nat} {D : DataW Unit} {left : Lit → Bool} (h : w.ranges P k R b r n D left cnt) : ∀ t l,¬ Row w r t l:=by
 obtain ⟨es,clock,since,seen,c0,hb,F,hs,hD,hr,rest⟩:=h
 intro t l hrow
 have:=hrow.symm.trans hr
 cases this
theorem fit_WP {g : List Nd} {x : Pl} (h : fitB g x = true) (hg : g.length ≤ 1000) : Ip.WP x:=by
 obtain ⟨i,n,hi,hn,hR,_,_⟩:=fitB_yes h
 have:=(List.getElem?_eq_some_iff.1 hn).1
 unfold St.R at hR
 exact ⟨Ip.fi_of (by omega) (by omega),Ip.fi_of (by omega) (by omega),Ip.fi_of (by omega) (by omega),Ip.fi_of (by omega) (by omega),Ip.fi_of (by omega) (by omega),Ip.fi_of (by omega) (by omega)⟩
def MayD (w : World) (base p F : Nat) (A : Option Addr) (c : Nat) (lg : List Gn) (xs : List Pl) (n : Nat) (e : Ending) (w' : World) : Prop :=
 (∃ v M,e = .returned v ∧ SomeT tmR (nds lg) (xs.map Pl.pc) n M ∧ M.length ≤ xs.length * 4194305 ∧ w'.ownsRow w.heap.size 27 kindU.K v M.length (Rw.row kindU M)) ∧ (∃ fs,Pth w' base p F A c lg fs) ∧ Touch (fun k => k = F) w w'
set_option maxHeartbeats 4000000 in
theorem mayCome_any (base p F : Nat) (A : Option Addr) (c : Nat) (lg : List Gn) (fs : List (Option Sl)) (bg : Nat) (GA : Option Addr) (gc : Nat) (lh : List Gn) (LA : Option Addr) (xs : List Pl) (lc n : Nat) (w : World)
 (hP : Pth w base p F A c lg fs) (hlen : lg.length ≤ 14) (hI : ∀ x ∈ nds lg,x.ins.length ≤ 40) (hF : Fine (nds lg)) (hG : OwnG w bg (.slice GA lh.length gc) lh) (hnd : nds lh = nds lg) (hT : Rw.Ts kindC w LA xs) (hx : xs.length ≤ 60) (hfit : xs.all (fitB (nds lg)) = true) (hn : n < lg.length) :
 Calls Tryz.prog 58 #[.pointer (some ⟨p,0,none⟩),.slice GA lh.length gc,.slice LA xs.length lc,.int .i64 (n : Nat)] w (MayD w base p F A c lg xs n):=by
 have hmm:=@run_makeMap Tryz.prog
 obtain ⟨s,hs⟩ : ∃ s,w.heap.size = s:=⟨_,rfl⟩
 have hw4 : ∃ w4,w4 = (((w.alloc (.cells #[.pointer (some ⟨p,0,none⟩)] 30)).alloc (.cells #[.slice GA lh.length gc] 23)).alloc (.cells #[.int .i64 (n : Nat)] 3)).alloc (.map #[] 0):=⟨_,rfl⟩
 obtain ⟨w4,hw4⟩:=hw4
 have hb4 : Below w.heap.size w w4:=by rw [hw4];exact ((((Below.refl _ _).alloc (Nat.le_refl _) _).alloc (by simp) _).alloc (by simp;omega) _).alloc (by simp;omega) _
 have hsz4 : w4.heap.size = s + 4:=by rw [hw4];simp;omega
 have hpb : Row w4 s 30 [.pointer (some ⟨p,0,none⟩)]:=by rw [hw4,← hs];exact (((Row.made w _ _).alloc _).alloc _).alloc _
 have hgb : Row w4 (s + 1) 23 [.slice GA lh.length gc]:=by
  have h:=((Row.made (w.alloc (.cells #[.pointer (some ⟨p,0,none⟩)] 30)) 23 [.slice GA lh.length gc]).alloc (.cells #[.int .i64 (n : Nat)] 3)).alloc (.map #[] 0)
  rw [hw4];rwa [show (w.alloc (.cells #[.pointer (some ⟨p,0,none⟩)] 30)).heap.size = s + 1 by simp [hs]] at h
 have hnb : Row w4 (s + 2) 3 [.int .i64 (n : Nat)]:=by
  have h:=(Row.made ((w.alloc (.cells #[.pointer (some ⟨p,0,none⟩)] 30)).alloc (.cells #[.slice GA lh.length gc] 23)) 3 [.int .i64 (n : Nat)]).alloc (.map #[] 0)
  rw [hw4];rwa [show ((w.alloc (.cells #[.pointer (some ⟨p,0,none⟩)] 30)).alloc (.cells #[.slice GA lh.length gc] 23)).heap.size = s + 2 by simp [hs]] at h
 have hm4 : Ip.MapP w4 (s + 3) 0 []:=by
  have h:=Ip.MapP.made (((w.alloc (.cells #[.pointer (some ⟨p,0,none⟩)] 30)).alloc (.cells #[.slice GA lh.length gc] 23)).alloc (.cells #[.int .i64 (n : Nat)] 3))
  rw [hw4];rwa [show (((w.alloc (.cells #[.pointer (some ⟨p,0,none⟩)] 30)).alloc (.cells #[.slice GA lh.length gc] 23)).alloc (.cells #[.int .i64 (n : Nat)] 3)).heap.size = s + 3 by simp [hs]] at h
 have hwp : ∀ x ∈ xs,Ip.WP x:=fun x hx => fit_WP (List.all_eq_true.1 hfit x hx) (by rw [nds_len];omega)
 have HPP:=Hd (And.intro hP (And.intro hlen (And.intro hI (And.intro hF (And.intro hG (And.intro hnd (And.intro hfit hn)))))))
 have HX:=Hd hx;have HT:=Hd hT;have HB4:=Hd hb4;have HS4:=Hd hsz4;have HPB:=Hd hpb;have HGB:=Hd hgb;have HNB:=Hd hnb;have HM4:=Hd hm4;have HWP:=Hd hwp;have HS:=Hd hs
 clear hP hlen hI hF hG hnd hfit hn hx hT hb4 hsz4 hpb hgb hnb hm4 hwp
 go_enter Tryz.func58,Tryz.ntmps58
 go_wp2_with fail
 clear hmm
 rw [← hw4]
 simp only [show s + 1 + 1 + 1 = s + 3 from rfl,show s + 1 + 1 = s + 2 from rfl]
 clear hw4 hs
 go_loopw [18] (fun i wr => ∃ (k N : Nat) (E : List Pl),k ≤ xs.length ∧ i = .int .i64 k ∧ Ip.MapP wr (s + 3) N E ∧ N ≤ k ∧ E.length ≤ k ∧ (∀ t,t ∈ E ↔ t ∈ xs.take k) ∧ Below (s + 3) w4 wr) (fun i _ => xs.length - (intOf i).toNat)
 case atStart => exact ⟨0,0,[],by omega,rfl,HM4.out,by omega,by simp,by simp,Below.refl _ _⟩
 case round =>
  obtain ⟨k,N,E,hk,rfl,hM,hN,hE1,hE,hbw⟩:=hrel
  by_cases hlt : k < xs.length
  · have hltz : (k : Int) < (xs.length : Int):=by omega
    have hk60 : k < 60:=by have:=HX.out;omega
    obtain ⟨t,ht⟩ : ∃ t,xs[k]? = some t:=⟨_,List.getElem?_eq_getElem hlt⟩
    have hbw0 : Below w.heap.size w wr:=HB4.out.trans (hbw.mono (by have:=HS.out;omega))
    obtain ⟨b,o,rfl,hbl,h7⟩:=pl_seven HT.out ht
    obtain ⟨c0,c1,c2,c3,c4,c5,c6⟩:=h7 wr hbw0
    have hM2:=hM.alloc (.cells #[.int .i64 t.nd,.bool t.held,.int .i64 t.at_.d,.int .i64 t.at_.e,.int .i64 t.at_.x,.int .i64 t.at_.y,.int .i64 t.at_.z] 50)
    have hsr : s + 3 ≤ wr.heap.size:=by have:=hbw.size;have:=HS4.out;omega
    have hb2:=hbw.alloc hsr (.cells #[.int .i64 t.nd,.bool t.held,.int .i64 t.at_.d,.int .i64 t.at_.e,.int .i64 t.at_.x,.int .i64 t.at_.y,.int .i64 t.at_.z] 50)
    have hnext : ∀ u,u ∈ xs.take (k + 1) ↔ u ∈ xs.take k ∨ u = t:=fun u => by rw [List.take_add_one,ht,Option.toList,List.mem_append,List.mem_singleton]
    obtain ⟨w5,hrun,hM5,hg5⟩:=hM2.store (by have:=HX.out;unfold maxLen;omega) (HWP.out t (List.mem_of_getElem? ht))
    have hb5 : Below (s + 3) w4 w5:=hb2.grown hg5 (by simp;omega) (fun j e => by cases e;exact Nat.le_refl _)
    unfold Pl.v at hrun
    have H5:=Hd (And.intro hM5 (And.intro hb5 hnext));have HE:=Hd hE
    clear hM2 hb2 hM5 hg5 hb5 h7 hnext hE ht hbl hM hbw hbw0 hsr
    go_wp2_with fail
    go_roundw
    case rel =>
     refine ⟨k + 1,N + 1,Ip.putP t E,by omega,by simp,H5.out.1,by omega,Nat.le_trans (Ip.putP_len t E) (by omega),fun u => ?_,H5.out.2.1⟩
     rw [Ip.mem_putP,HE.out,H5.out.2.2]
     exact or_comm
    case measure => simp only [intOf];omega
  · have hge : ¬ (k : Int) < (xs.length : Int):=by omega
    have hkn : k = xs.length:=by omega
    have hE2 : ∀ t,t ∈ E ↔ t ∈ xs:=fun t => by rw [hE,hkn,List.take_length]
    have hsr : s + 4 ≤ wr.heap.size:=by have:=hbw.size;have:=HS4.out;omega
    obtain ⟨⟨D,hown,hp⟩,hW⟩:=hM
    have hsize : Go.Maps.size (DataW.map D) = E.length:=by rw [Go.Maps.size_eq,hp.length_eq,List.length_map]
    have hcol:=Ip.ColP.start hp hW
    have hown2:=hown.kept (World.grownBy_alloc wr (.cells #[.slice none 0 0] 34) none) (by simp)
    have hb2 : Below (s + 3) w4 (wr.alloc (.cells #[.slice none 0 0] 34)):=hbw.alloc (by omega) _
    have htb : Row (wr.alloc (.cells #[.slice none 0 0] 34)) wr.heap.size 34 [.slice none 0 0]:=Row.made wr _ _
    have HP2:=Hd (And.intro hp hW);have HCOL:=Hd hcol;have HSZ:=Hd hsize;have HB2:=Hd hb2;have HTB:=Hd htb;have HE2:=Hd hE2;have HSR:=Hd hsr;have HE1:=Hd hE1
    clear hp hW hcol hsize hb2 htb hE2 hsr hE hE1 hown hbw hkn
    go_wp2_with (first
     | (at_range;refine wpList_range_own _ rfl _ 153 rfl 50 129 Ip.keyedP Tryz.underlying153 Ip.RU (s + 3) N _ rfl hown2 ?_;intro w0 hrg0 hg0 hs0)
     | go_in)
    obtain ⟨bt,hbt⟩ : ∃ bt,wr.heap.size = bt:=⟨_,rfl⟩
    have hz1 : (wr.alloc (.cells #[.slice none 0 0] 34)).heap.size = bt + 1:=by simp [hbt]
    rw [hz1] at hrg0 hs0
    obtain ⟨hP,hlen,hI,hF,hG,hnd,hfit,hn⟩:=HPP.out
    have hb0 : Below (s + 3) w4 w0:=HB2.out.grown hg0 (by have:=HSR.out;have:=HS4.out;simp;omega) (fun j e => by cases e)
    have hbw : Below w.heap.size w w0:=HB4.out.trans (hb0.mono (by have:=HS.out;omega))
    have htb0:=HTB.out.grown hg0 (by simp)
    obtain ⟨q,hq⟩ : ∃ q : GPar,q = ⟨w,base,p,F,A,c,lg,bg,GA,gc,lh,s + 2,bt,s + 1,s,n,bt + 2⟩:=⟨_,rfl⟩
    have hok : GOk q:=by
     subst hq
     exact ⟨hnd,hlen,hI,hF,hn,by show w.heap.size ≤ bt;have:=HSR.out;have:=HS.out;omega,by show w.heap.size ≤ bt + 2;have:=HSR.out;have:=HS.out;omega⟩
    have hgat : Gat q w0 (.slice none 0 0):=by
     subst hq
     exact ⟨Touch.of_below hbw,HNB.out.below hb0 (by omega),by rw [hbt] at htb0;exact htb0,HGB.out.below hb0 (by omega),HPB.out.below hb0 (by omega),⟨fs,hP.below hbw⟩,hG.below hbw⟩
    have hnil : OwnT q w0 (.slice none 0 0) []:=World.ownsRow_nil _ _ _ _
    have hq0 : q.w0 = w:=by rw [hq]
    have hq1 : q.lg = lg:=by rw [hq]
    have hq2 : q.n = n:=by rw [hq]
    have hq3 : q.b1 = bt + 2:=by rw [hq]
    have hq4 : q.Bt = bt:=by rw [hq]
    have hq5 : q.Bn = s + 2 ∧ q.Bg = s + 1 ∧ q.Bp = s:=by rw [hq];exact ⟨rfl,rfl,rfl⟩
    have HQ5:=Hd hq5;clear hq5
    have HQ:=Hd hq
    have hbt2 : s + 4 ≤ bt:=by have:=HSR.out;omega
    have HBT:=Hd (And.intro hbt2 hbt);have HOK:=Hd hok;have HGAT:=Hd hgat;have HNIL:=Hd hnil;have HRG:=Hd hrg0;have HQ0:=Hd hq0;have HQ1:=Hd hq1;have HQ2:=Hd hq2;have HQ3:=Hd hq3;have HQ4:=Hd hq4;have HZ0:=Hd hs0;have HFIT:=Hd hfit;have HGE : Hid (k ≤ xs.length):=Hd hk
    rw [hbt]
    clear hrg0 hg0 hs0 hb0 hbw htb0 hok hgat hnil hown2 hz1 hP hlen hI hF hG hnd hfit hn hq hq0 hq1 hq2 hq3 hq4 hbt2 hbt hge HTB HB2 HPB HGB HNB HM4
    go_loopw [] (fun wy => ∃ (left : Lit → Bool) (cn : Nat) (ys : List Pl) (v : Value) (M : List St),wy.ranges Tryz.prog 50 Ip.RU (s + 3) (bt + 1) N (.map D) left cn ∧ ys.length + cn ≤ E.length ∧ Ip.ColP E left ys ∧ Gat q wy v ∧ OwnT q wy v M ∧ SomeT tmR (nds q.lg) (ys.map Pl.pc) q.n M ∧ M.length ≤ ys.length * 4194305 ∧ bt + 2 ≤ wy.heap.size) (fun wy => wy.rangeLeft (s + 3) (bt + 1))
    case atStart => exact ⟨_,_,[],_,[],HRG.out,by rw [HSZ.out];simp,HCOL.out,HGAT.out,HNIL.out,SomeT.start,by simp,by have:=HZ0.out;omega⟩
    case round =>
     obtain ⟨left,cn,ys,v,M,hrg,hcs,hC,hg,ho,hsome,hml,hsz⟩:=hrel
     obtain ⟨VA,vc,rfl,_⟩:=Rw.Ts.of_own ho
     have hgt:=hg.tb
     rw [HQ4.out] at hgt
     have HC:=Hd hC;have HG:=Hd hg;have HO:=Hd ho;have HSM:=Hd hsome;have HML:=Hd hml;have HSZ2:=Hd hsz;have HCS:=Hd hcs;have HRG0:=Hd hrg;have HGT:=Hd hgt
     clear hC hg ho hsome hml hsz hcs hgt HGAT HNIL HRG HCOL
     go_wp2_with (first
      | (at_next;refine wpList_next_ranges _ rfl _ rfl 50 Ip.keyedP Ip.RU id (fun _ : Unit => Value.agg #[]) (fun key kl _ => ⟨key,rfl⟩) (fun v y hv => ⟨(),Ip.RU_inv hv⟩) (s + 3) (bt + 1) N _ _ _ rfl hrg ?_ ?_)
      | go_in)
     · intro hc0 hl0
       clear hc0
       have c0:=HGT.out.cell 0
       simp only [List.getElem?_cons_zero] at c0
       have HL0:=Hd hl0;clear hl0 hrg
       go_wp2_with fail
       go_ret
       have he : ∀ pc,pc ∈ ys.map Pl.pc ↔ pc ∈ xs.map Pl.pc:=fun pc => by
        constructor
        · intro h
          obtain ⟨x,hx,rfl⟩:=List.mem_map.1 h
          exact List.mem_map_of_mem ((HE2.out x).1 ((HC.out.done HL0.out x).1 hx))
        · intro h
          obtain ⟨x,hx,rfl⟩:=List.mem_map.1 h
          exact List.mem_map_of_mem ((HC.out.done HL0.out x).2 ((HE2.out x).2 hx))
       have h1:=HSM.out.of_set he
       rw [HQ1.out,HQ2.out] at h1
       have hyl : ys.length ≤ xs.length:=by have:=HCS.out;have:=HE1.out;have:=HGE.out;omega
       have hgat:=HG.out
       have hown:=HO.out
       have hml:=HML.out
       have hbs:=HBT.out.1
       have hss:=HS.out
       have hq:=HQ.out
       subst hq
       exact ⟨⟨_,M,rfl,h1,Nat.le_trans hml (Nat.mul_le_mul_right _ hyl),World.ownsRow.mono hown (by show w.heap.size ≤ bt + 2;omega)⟩,hgat.pth,hgat.out⟩
     · intro x kl0 yd yp w2 cnt2 hkey hlk hv hat hrg2 hlt2 hg2 hs2 hen
       obtain ⟨t,htE,htk⟩:=Ip.map_atP HP2.out.1 hat
       have hWt:=HP2.out.2 t htE
       obtain rfl : x = t.v:=Ip.keyedP.inj hkey (by rw [← htk];exact Ip.keyOf_kt hWt)
       have hfx : fitB (nds q.lg) t = true:=by rw [HQ1.out];exact List.all_eq_true.1 HFIT.out t ((HE2.out t).1 htE)
       have hC2:=HC.out.step HP2.out.2 htE htk
       have hoff:=ranges_off HRG0.out
       have hgi:=HG.out.iter hg2 hoff (by rw [HQ0.out];have:=HBT.out.1;have:=HS.out;omega)
       have hoi : OwnT q w2 (.slice VA M.length vc) M:=own_iter HO.out hg2 hoff
       have hba : Below w2.heap.size w2 (w2.alloc (.cells #[.int .i64 t.nd,.bool t.held,.int .i64 t.at_.d,.int .i64 t.at_.e,.int .i64 t.at_.x,.int .i64 t.at_.y,.int .i64 t.at_.z] 50)):=(Below.refl _ _).alloc (Nat.le_refl _) _
       have hsz2 : bt + 2 ≤ w2.heap.size:=by have:=HSZ2.out;omega
       have hcall:=gather_any q HOK.out (.slice VA M.length vc) M t.nd t.held t.at_ (w2.alloc (.cells #[.int .i64 t.nd,.bool t.held,.int .i64 t.at_.d,.int .i64 t.at_.e,.int .i64 t.at_.x,.int .i64 t.at_.y,.int .i64 t.at_.z] 50)) (hgi.below hba) (Rw.own_kept hoi hba) (by rw [HQ3.out];simp;omega) hfx (by have:=HML.out;have:=HCS.out;have:=HE1.out;have:=HGE.out;have:=HX.out;have : ys.length * 4194305 ≤ 60 * 4194305:=Nat.mul_le_mul_right _ (by omega);omega)
       rw [HQ4.out,HQ5.out.1,HQ5.out.2.1,HQ5.out.2.2] at hcall
       have hrg3:=hrg2.alloc (.cells #[.int .i64 t.nd,.bool t.held,.int .i64 t.at_.d,.int .i64 t.at_.e,.int .i64 t.at_.x,.int .i64 t.at_.y,.int .i64 t.at_.z] 50)
       have HC2:=Hd hC2;have HCALL:=Hd hcall;have HRG3:=Hd hrg3;have HLT:=Hd hlt2;have HSZ3:=Hd hsz2
       unfold Pl.v at hen
       clear hkey hlk hv hat hrg2 hlt2 hg2 hs2 hC2 hcall hrg3 hoff hgi hoi hba hsz2 hfx hrg hWt htk
       go_wp2_with fail
       refine HCALL.out.mono ?_;rintro e w5 ⟨rfl,⟨v',m,hg5,ho5,hsome5,hml5⟩,hkp5,hsz5⟩
       have hrg5:=ranges_kept HRG3.out hkp5
       have H5:=Hd (And.intro hg5 (And.intro ho5 (And.intro hsome5 (And.intro hml5 (And.intro hrg5 hsz5)))));clear hg5 ho5 hsome5 hml5 hkp5 hsz5 hrg5 hen HCALL
       dsimp only
       go_wp2_with fail
       go_roundw
       case rel =>
        obtain ⟨hg5,ho5,hsome5,hml5,hrg5,hsz5⟩:=H5.out
        have hs1:=HSM.out.app hsome5
        rw [show List.map Pl.pc ys ++ [Pl.pc ⟨t.nd,t.held,t.at_⟩] = List.map Pl.pc (ys ++ [t]) by rw [List.map_append];rfl] at hs1
        exact ⟨_,cnt2,ys ++ [t],v',M ++ m,hrg5,by rw [List.length_append];have:=HCS.out;have:=HLT.out;simp;omega,HC2.out,hg5,ho5,hs1,by rw [List.length_append,List.length_append];have:=HML.out;simp;omega,by have:=HSZ3.out;simp at hsz5;omega⟩
       case measure => rw [H5.out.2.2.2.2.1.left_eq,HRG0.out.left_eq];exact HLT.out
end

section
def okF (g : List Nd) (xs : List Pl) (node : Int) : Bool:=decide (0 ≤ node ∧ node < (g.length : Int)) && xs.all (fitB g)
def erF (b : Bool) : Int:=if b = true then 0 else 2
structure FrOk (g : List Nd) (xs : List Pl) (node : Int) (f : List St) : Prop where
 yes : okF g xs node = true → FrT g xs node.toNat f
 no : okF g xs node = false → f = []
 len : f.length ≤ xs.length * 4194305
def FrontD (w : World) (base p F : Nat) (A : Option Addr) (c : Nat) (lg : List Gn) (xs : List Pl) (node : Int) (e : Ending) (w' : World) : Prop :=
 (∃ v f,e = .returned (.tuple #[v,.int .i64 (erF (okF (nds lg) xs node))]) ∧ FrOk (nds lg) xs node f ∧ w'.ownsRow w.heap.size 27 5 v f.length (rowS f)) ∧ (∃ fs,Pth w' base p F A c lg fs) ∧ Touch (fun k => k = F) w w'
theorem fine_deep {g : List Nd} (h : Fine g) : ∀ x ∈ g,-1000 ≤ x.d ∧ x.d ≤ 1000:=fun x hx => by
 obtain ⟨j,hj⟩:=List.getElem?_of_mem hx
 have:=h.deep hj
 omega
theorem any_not {α : Type} (p : α → Bool) (l : List α) : (l.any fun x => !p x) = !l.all p:=by
 induction l with
 | nil => rfl
 | cons a l ih => simp only [List.any_cons,List.all_cons,ih,Bool.not_and]
set_option maxHeartbeats 4000000 in
theorem frontier_any (base p F : Nat) (A : Option Addr) (c : Nat) (lg : List Gn) (fs : List (Option Sl)) (LA : Option Addr) (xs : List Pl) (lc : Nat) (node : Int) (w : World)
 (hP : Pth w base p F A c lg fs) (hlen : lg.length ≤ 14) (hI : ∀ x ∈ nds lg,x.ins.length ≤ 40) (hF : Fine (nds lg)) (hT : Rw.Ts kindC w LA xs) (hx : xs.length ≤ 45) :
 Calls Tryz.prog 15 #[.pointer (some ⟨p,0,none⟩),.slice LA xs.length lc,.int .i64 node] w (FrontD w base p F A c lg xs node):=by
 have hgr:=graph_any p F c base A lg fs w hP hlen hI
 have HGR:=Hd hgr;have HPP:=Hd (And.intro hP (And.intro hlen (And.intro hI (And.intro hF (And.intro hT hx)))));clear hgr hP hlen hI hF hT hx
 go_enter Tryz.func15,Tryz.ntmps15
 go_wp2_with fail
 refine HGR.out.mono ?_;rintro e w1 ⟨⟨v,lh,rfl,hnd,hG⟩,hb1⟩
 obtain ⟨hP,hlen,hI,hF,hT,hx⟩:=HPP.out
 obtain ⟨GA,gc,rfl,hgrr,_⟩:=hG.gr
 have hlh : lh.length = lg.length:=by rw [← nds_len,hnd,nds_len]
 obtain ⟨w2,hw2⟩ : ∃ w2,w1.alloc (.cells #[.slice GA lh.length gc] 23) = w2:=⟨_,rfl⟩
 have hb2 : Below w.heap.size w w2:=by rw [← hw2];exact hb1.alloc hb1.size _
 have hb12 : Below w1.heap.size w1 w2:=by rw [← hw2];exact (Below.refl _ _).alloc (Nat.le_refl _) _
 have hgb : w2.cell? ⟨w1.heap.size,0,none⟩ = some (.slice GA lh.length gc):=by rw [← hw2];exact (Row.made w1 _ _).cell 0
 have hin:=impIsNode_any GA lh.length gc node w2
 have hct:=containsWrong_any GA lh gc w1.heap.size LA xs lc w2 (hT.below hb2) (by unfold maxLen;omega) (hgrr.below hb12) (by rw [hnd];exact fine_deep hF) hgb
 rw [any_not,hnd] at hct
 have HIN:=Hd hin;have HCT:=Hd hct;have HB2:=Hd hb2;have HB12:=Hd hb12;have HG:=Hd hG;have HND:=Hd hnd;have HLH:=Hd hlh;have HW2:=Hd hw2
 clear hin hct hb2 hb12 hG hnd hgrr hb1 hP hlen hI hF hT hx HGR
 dsimp only
 by_cases hn : 0 ≤ node ∧ node < (lh.length : Int)
 · rw [decide_eq_true hn] at HIN
   obtain ⟨n,rfl⟩:=Int.eq_ofNat_of_zero_le hn.1
   have hnl : n < lg.length:=by omega
   have hok : okF (nds lg) xs (n : Nat) = xs.all (fitB (nds lg)):=by
    unfold okF
    rw [decide_eq_true (by rw [nds_len];omega),Bool.true_and]
   cases hall : xs.all (fitB (nds lg)) with
   | false =>
     rw [hall] at HCT hok
     have HOK:=Hd hok;clear hok hlh hn hall
     go_wp2_with fail
     refine HIN.out.mono ?_;rintro e w3 ⟨rfl,rfl⟩
     dsimp only
     go_wp2_with fail
     refine HCT.out.mono ?_;rintro e w3 ⟨rfl,hb3⟩
     have HB3:=Hd hb3;clear hb3
     dsimp only
     go_wp2_with fail
     go_ret2
     have hb4:=HB2.out.trans (HB3.out.mono HB2.out.size)
     obtain ⟨hP,hlen,hI,hF,hT,hx⟩:=HPP.out
     exact ⟨⟨_,[],by rw [HOK.out];rfl,⟨fun k => (by rw [HOK.out] at k;cases k),fun _ => rfl,by simp⟩,World.ownsRow_nil _ _ _ _⟩,⟨fs,hP.below hb4⟩,Touch.of_below hb4⟩
   | true =>
     rw [hall] at HCT hok
     have HOK:=Hd hok;have HALL:=Hd hall;have HNL:=Hd hnl;clear hok hlh hn hall hnl
     go_wp2_with fail
     refine HIN.out.mono ?_;rintro e w3 ⟨rfl,rfl⟩
     dsimp only
     go_wp2_with fail
     refine HCT.out.mono ?_;rintro e w3 ⟨rfl,hb3⟩
     have hb23:=HB2.out.trans (hb3.mono HB2.out.size)
     have hb13:=HB12.out.trans (hb3.mono HB12.out.size)
     have hgb3:=cell_below hgb hb3
     obtain ⟨hP,hlen,hI,hF,hT,hx⟩:=HPP.out
     have hmay:=mayCome_any base p F A c lg fs w.heap.size GA gc lh LA xs lc n w3 (hP.below hb23) hlen hI hF (HG.out.below hb13) HND.out (hT.below hb23) (by omega) HALL.out HNL.out
     have HMAY:=Hd hmay;have HB23:=Hd hb23;clear hmay hb23 hb13 hb3 hgb hP hlen hI hF hT hx HCT HIN
     dsimp only
     go_wp2_with fail
     refine HMAY.out.mono ?_;rintro e w4 ⟨⟨v4,M,rfl,hsm,hml,ho4⟩,hp4,ht4⟩
     obtain ⟨hP,hlen,hI,hF,hT,hx⟩:=HPP.out
     obtain ⟨y,hy⟩ : ∃ y,(nds lg)[n]? = some y:=⟨_,List.getElem?_eq_getElem (by rw [nds_len];exact HNL.out)⟩
     have hev : Even M:=hsm.even hF (fit_all HALL.out) hy
     have hlm : M.length ≤ 200000000:=by have : xs.length * 4194305 ≤ 45 * 4194305:=Nat.mul_le_mul_right _ hx;omega
     obtain ⟨NA,nc,rfl,hs4,_⟩:=Rw.Ts.of_own ho4
     have hof:=frOf_any NA M nc w4 hs4 hlm
     rw [decide_eq_true hev] at hof
     unfold Gives ifS errS at hof
     simp only [if_true] at hof
     have HOF:=Hd hof;have H4:=Hd (And.intro hsm (And.intro hp4 (And.intro ht4 (And.intro hev hml))));clear hof hsm hml ho4 hp4 ht4 hs4 hev hlm hP hlen hI hF hT hx hy
     dsimp only
     go_wp2_with fail
     refine HOF.out.mono ?_;rintro e w5 ⟨⟨v5,rfl,ho5⟩,hb5⟩
     have H5:=Hd (And.intro ho5 hb5);clear ho5 hb5
     dsimp only
     go_wp2_with fail
     go_ret2
     obtain ⟨hsm,⟨fs4,hp4⟩,ht4,hev,hml⟩:=H4.out
     have hsz : w.heap.size ≤ w4.heap.size:=Nat.le_trans HB23.out.size ht4.size
     exact ⟨⟨_,ofS M,by rw [HOK.out];rfl,⟨fun _ => ⟨M,by rw [Int.toNat_natCast];exact hsm,rfl⟩,fun k => (by rw [HOK.out] at k;cases k),Nat.le_trans (ofS_len M) hml⟩,frOwn_base H5.out.1 hsz⟩,⟨fs4,hp4.below H5.out.2⟩,((Touch.of_below HB23.out).trans ht4).trans (Touch.of_below H5.out.2)⟩
 · rw [decide_eq_false hn] at HIN
   have hok : okF (nds lg) xs node = false:=by
    unfold okF
    rw [decide_eq_false (by rw [nds_len,← hlh];exact hn),Bool.false_and]
   have HOK:=Hd hok;clear hok hlh hn
   go_wp2_with fail
   refine HIN.out.mono ?_;rintro e w3 ⟨rfl,rfl⟩
   dsimp only
   go_wp2_with fail
   go_ret2
   obtain ⟨hP,hlen,hI,hF,hT,hx⟩:=HPP.out
   exact ⟨⟨_,[],by rw [HOK.out];rfl,⟨fun k => (by rw [HOK.out] at k;cases k),fun _ => rfl,by simp⟩,World.ownsRow_nil _ _ _ _⟩,⟨fs,hP.below HB2.out⟩,Touch.of_below HB2.out⟩
end

section
noncomputable def rightG (g : List Nd) (x : Pl) : Bool:=decide ((checkR g).2 = 0) && fitB g x
def DoneP (g : List Nd) (xs : List Pl) (node : Int) (T : St) : Prop:=okF g xs node = true ∧ ∃ y f,g[node.toNat]? = some y ∧ T.d = y.inD ∧ FrT g xs node.toNat f ∧ Inside f T
def DoneQ (w : World) (base p F : Nat) (A : Option Addr) (c : Nat) (lg : List Gn) (xs : List Pl) (node : Int) (T : St) (e : Ending) (w' : World) : Prop :=
 (∃ b,e = .returned (.bool b) ∧ (b = true ↔ DoneP (nds lg) xs node T)) ∧ (∃ fs,Pth w' base p F A c lg fs) ∧ Touch (fun k => k = F) w w'
theorem ld_node {w wa : World} {b : Nat} {n : Nd} {NA : Option Addr} {nm nc : Nat} (h : Row w b 58 [.int .u8 (n.k : Nat),.int .u8 (n.a : Nat),.int .i64 n.b,.int .i64 n.d,.slice NA nm nc]) (hb : Below w.heap.size w wa) :
 (Instr.loadAt 58 (.pointer (some ⟨b,0,none⟩))).run Tryz.prog wa = .ok (.agg #[.int .u8 (n.k : Nat),.int .u8 (n.a : Nat),.int .i64 n.b,.int .i64 n.d,.slice NA nm nc]) wa :=
 run_loadAt_part b 0 58 _ [.int .u8 (n.k : Nat),.int .u8 (n.a : Nat),.int .i64 n.b,.int .i64 n.d,.slice NA nm nc] (fun j v hj => by rw [add_at,Nat.zero_add,(h.below hb h.lt).cell];exact hj) Tryz.underlying58 rfl (by kernel_rfl)
def DnV (BT BY : Nat) (T : St) (y : Gn) (D : Int) (FA : Option Addr) (fl fc : Nat) (DD H : Bool) : Nat → Value → Prop
 | 0,v => v = .pointer (some ⟨BT,0,none⟩)
 | 1,v => v = .int .i64 T.d
 | 2,v => v = .agg #[.int .u8 (y.nd.k : Nat),.int .u8 (y.nd.a : Nat),.int .i64 y.nd.b,.int .i64 y.nd.d,.slice y.A y.nd.ins.length y.c]
 | 3,v => v = .int .i64 D
 | 4,v => v = .bool DD
 | 5,v => v = .bool DD
 | 6,v => v = if DD = true then .slice FA fl fc else undef
 | 7,v => v = if DD = true then .agg #[.int .i64 T.d,.int .i64 T.e,.int .i64 T.x,.int .i64 T.y,.int .i64 T.z] else undef
 | 8,v => v = if DD = true then .bool H else undef
 | 9,v => v = .bool (DD && H)
 | _,v => v = .bool (DD && H)
set_option maxHeartbeats 8000000 in
theorem done_any (base p F : Nat) (A : Option Addr) (c : Nat) (lg : List Gn) (fs : List (Option Sl)) (LA : Option Addr) (xs : List Pl) (lc : Nat) (node : Int) (T : St) (w : World)
 (hP : Pth w base p F A c lg fs) (hlen : lg.length ≤ 14) (hI : ∀ x ∈ nds lg,x.ins.length ≤ 40) (hF : Fine (nds lg)) (hT : Rw.Ts kindC w LA xs) (hx : xs.length ≤ 45) :
 Calls Tryz.prog 16 #[.pointer (some ⟨p,0,none⟩),.slice LA xs.length lc,.int .i64 node,T.val] w (DoneQ w base p F A c lg xs node T):=by
 have hb0 : Below w.heap.size w (w.alloc (.cells #[.int .i64 T.d,.int .i64 T.e,.int .i64 T.x,.int .i64 T.y,.int .i64 T.z] 27)):=(Below.refl _ _).alloc (Nat.le_refl _) _
 have ht0 : Row (w.alloc (.cells #[.int .i64 T.d,.int .i64 T.e,.int .i64 T.x,.int .i64 T.y,.int .i64 T.z] 27)) w.heap.size 27 T.cells:=Row.made w _ _
 have hfr:=frontier_any base p F A c lg fs LA xs lc node _ (hP.below hb0) hlen hI hF (hT.below hb0) hx
 have hFl:=hP.fans.lt
 have HFR:=Hd hfr;have HB0:=Hd hb0;have HT0:=Hd ht0;have HF:=Hd (And.intro hlen (And.intro hI hF));have HX:=Hd hx;have HFL:=Hd hFl
 clear hfr hb0 ht0 hP hlen hI hF hT hx hFl
 go_enter Tryz.func16,Tryz.ntmps16
 go_wp2_with fail
 generalize w.alloc (.cells #[.int .i64 T.d,.int .i64 T.e,.int .i64 T.x,.int .i64 T.y,.int .i64 T.z] 27) = w1 at *
 refine HFR.out.mono ?_;rintro e w2 ⟨⟨v,f,rfl,hf,ho⟩,⟨fs2,hP2⟩,ht2⟩
 obtain ⟨BT,hBT⟩ : ∃ BT,w.heap.size = BT:=⟨_,rfl⟩
 have hTb : Row w2 BT 27 T.cells:=by rw [← hBT];exact HT0.out.touch ht2 (by have:=HFL.out;omega)
 rw [hBT]
 have htw : Touch (fun k => k = F) w w2:=(Touch.of_below HB0.out).trans ht2
 obtain ⟨hlen,hI,hF⟩:=HF.out
 dsimp only
 cases hok : okF (nds lg) xs node with
 | false =>
   have hno : ¬ DoneP (nds lg) xs node T:=fun h => by have:=h.1;rw [hok] at this;cases this
   have H2:=Hd (And.intro hP2 (And.intro htw hno));clear hP2 htw hno hf ho ht2 hTb hok
   unfold erF
   go_wp2_with fail
   go_ret
   exact ⟨⟨false,rfl,fun h => (by cases h),fun h => (H2.out.2.2 h).elim⟩,⟨fs2,H2.out.1⟩,H2.out.2.1⟩
 | true =>
   obtain ⟨hn0,hall⟩:=Bool.and_eq_true_iff.1 hok
   have hn:=of_decide_eq_true hn0
   obtain ⟨n,rfl⟩:=Int.eq_ofNat_of_zero_le hn.1
   have hnl : n < lg.length:=by have:=hn.2;rw [nds_len] at this;omega
   have hft:=hf.yes hok
   rw [Int.toNat_natCast] at hft
   have hgr:=graph_any p F c base A lg fs2 w2 hP2 hlen hI
   obtain ⟨FA,fc,rfl,hfts,hfc1,hfc2,_⟩:=Rw.Ts.of_own (κ:=kindU) (ts:=f) ho
   have HGR:=Hd hgr;have H2:=Hd (And.intro hP2 htw);have HTB0:=Hd hTb;have HFT:=Hd hft;have HOK:=Hd hok;have HNL:=Hd hnl;have HFTS:=Hd (show Ts w2 FA f from hfts);have HLEN:=Hd hf.len;have HFC:=Hd (And.intro hfc1 hfc2)
   clear hgr hP2 htw hTb hft hok hn hn0 hall hfts hf ho ht2 hfc1 hfc2
   unfold erF
   go_wp2_with fail
   refine HGR.out.mono ?_;rintro e w3 ⟨⟨v3,lh,rfl,hnd,hG⟩,hb3⟩
   obtain ⟨GA,gc,rfl,hgrr,_⟩:=hG.gr
   have hlh : lh.length = lg.length:=by rw [← nds_len,hnd,nds_len]
   obtain ⟨y,hy⟩ : ∃ y,lh[n]? = some y:=⟨_,List.getElem?_eq_getElem (by omega)⟩
   have hyn : (nds lg)[n]? = some y.nd:=by rw [← hnd];unfold nds;rw [List.getElem?_map,hy];rfl
   obtain ⟨gb,go,rfl,_,hcl⟩:=hgrr.at_ hy
   obtain ⟨n0,n1,n2,n3,n4⟩:=hcl w3 (Below.refl _ _)
   have hnz : (n : Int) < (lh.length : Int):=by omega
   obtain ⟨BY,hBY⟩ : ∃ BY,w3.heap.size = BY:=⟨_,rfl⟩
   obtain ⟨w5,hw5⟩ : ∃ w5,w3.alloc (.cells #[.int .u8 (y.nd.k : Nat),.int .u8 (y.nd.a : Nat),.int .i64 y.nd.b,.int .i64 y.nd.d,.slice y.A y.nd.ins.length y.c] 58) = w5:=⟨_,rfl⟩
   have hyb : Row w5 BY 58 [.int .u8 (y.nd.k : Nat),.int .u8 (y.nd.a : Nat),.int .i64 y.nd.b,.int .i64 y.nd.d,.slice y.A y.nd.ins.length y.c]:=by rw [← hw5,← hBY];exact Row.made w3 _ _
   have hb5 : Below w2.heap.size w2 w5:=by rw [← hw5];exact hb3.alloc hb3.size _
   have htb : Row w5 BT 27 T.cells:=HTB0.out.below hb5 HTB0.out.lt
   have hdp:=fun wx => depthIn_any y.nd y.A y.nd.ins.length y.c wx (by have:=fine_deep hF y.nd (List.mem_of_getElem? hyn);exact this)
   have hho:=fun wx (hx : Below w5.heap.size w5 wx) => holds_any FA f fc T wx ((HFTS.out.below hb5).below hx) (by have:=HLEN.out;have : xs.length * 4194305 ≤ 45 * 4194305:=Nat.mul_le_mul_right _ HX.out;omega) HFC.out.1 HFC.out.2
   obtain ⟨H,hH⟩ : ∃ H,decide (Inside f T) = H:=⟨_,rfl⟩
   obtain ⟨D,hD⟩ : ∃ D,y.nd.inD = D:=⟨_,rfl⟩
   obtain ⟨DD,hDD⟩ : ∃ DD,decide (T.d = D) = DD:=⟨_,rfl⟩
   rw [hH] at hho
   rw [hD] at hdp
   have hiff : ((DD && H) = true ↔ DoneP (nds lg) xs (n : Nat) T):=by
    rw [Bool.and_eq_true_iff,← hDD,← hH,decide_eq_true_iff,decide_eq_true_iff]
    constructor
    · rintro ⟨h1,h2⟩
      exact ⟨HOK.out,y.nd,f,by rw [Int.toNat_natCast];exact hyn,by rw [hD];exact h1,by rw [Int.toNat_natCast];exact HFT.out,h2⟩
    · rintro ⟨_,y',f',h1,h2,h3,h4⟩
      rw [Int.toNat_natCast] at h1 h3
      rw [hyn] at h1;cases h1
      have hall:=(Bool.and_eq_true_iff.1 HOK.out).2
      rw [HFT.out.uniq hF hall hyn h3]
      exact ⟨by rw [← hD];exact h2,h4⟩
   have HIFF:=Hd hiff;have HDP:=Hd hdp;have HH:=Hd hho;have HD:=Hd hDD;have HYB:=Hd hyb;have HTB:=Hd htb;have HB5:=Hd hb5
   clear hiff hdp hho hDD hyb htb hb5 hD hH hcl hgrr hG hb3 hyn hy hnd hlh
   dsimp only
   unfold St.val at *
   go_upto_region 5 with fail
   generalize f.length = fl at *
   refine Free.wp_guarded (by kernel_rfl) (by kernel_rfl) (fun w' => Below w5.heap.size w5 w') (DnV BT BY T y D FA fl fc DD H) ((Below.refl _ _).drew) ?_ ?_
   · intro i o hi a wa hold hpre hF
     match i with
     | 0 => cases hi;exact Free.c_all rfl (Free.g_field (v:=.pointer (some ⟨BT,0,none⟩)) _ _ _ rfl ((hold 7 (by decide)).trans rfl) (by go_simp) ⟨rfl,hF⟩)
     | 1 => cases hi;exact Free.c_all rfl (Free.g_load _ _ rfl (hpre 0 _ _ (by kernel_rfl) rfl rfl) (ld_int (row_in HTB.out hF rfl)) ⟨rfl,hF⟩)
     | 2 => cases hi;exact Free.c_all rfl (Free.g_load _ _ rfl ((hold 11 (by decide)).trans rfl) (ld_node HYB.out hF) ⟨rfl,hF⟩)
     | 3 => cases hi;exact Free.c_all rfl (Free.g_call _ _ rfl Tryz.func59 (by kernel_rfl) rfl [.agg #[.int .u8 (y.nd.k : Nat),.int .u8 (y.nd.a : Nat),.int .i64 y.nd.b,.int .i64 y.nd.d,.slice y.A y.nd.ins.length y.c]] (cons_eq (hpre 2 _ _ (by kernel_rfl) rfl rfl) (rfl)) ((HDP.out wa).mono fun e w2 ⟨he,hb2⟩ => ⟨_,he,rfl,hF.trans (hb2.mono hF.size)⟩))
     | 4 => cases hi;exact Free.c_all rfl (Free.g_bin _ _ _ _ _ rfl (hpre 1 _ _ (by kernel_rfl) rfl rfl) (hpre 3 _ _ (by kernel_rfl) rfl rfl) (eqi_b HD.out wa) ⟨rfl,hF⟩)
     | 5 => cases hi;exact Free.c_all rfl (Free.g_move _ rfl ⟨(hpre 4 _ _ (by kernel_rfl) rfl rfl),hF⟩)
     | 6 => cases hi;exact c_if rfl rfl rfl (hpre 5 _ _ (by kernel_rfl) rfl rfl) (fun e => Free.g_move _ rfl ⟨((hold 9 (by decide)).trans rfl),hF⟩) hF
     | 7 => cases hi;exact c_if rfl rfl rfl (hpre 5 _ _ (by kernel_rfl) rfl rfl) (fun e => Free.g_load _ _ rfl ((hold 7 (by decide)).trans rfl) (load_t HTB.out wa hF) ⟨rfl,hF⟩) hF
     | 8 => cases hi;exact c_if rfl rfl rfl (hpre 5 _ _ (by kernel_rfl) rfl rfl) (fun e => Free.g_call _ _ rfl Tryz.func60 (by kernel_rfl) rfl [.slice FA fl fc,.agg #[.int .i64 T.d,.int .i64 T.e,.int .i64 T.x,.int .i64 T.y,.int .i64 T.z]] (cons_eq ((hpre 6 _ _ (by kernel_rfl) rfl rfl).trans (if_pos e)) (cons_eq ((hpre 7 _ _ (by kernel_rfl) rfl rfl).trans (if_pos e)) (rfl))) ((HH.out wa hF).mono fun e w2 ⟨he,hb2⟩ => ⟨_,he,rfl,hF.trans (hb2.mono hF.size)⟩)) hF
     | 9 => cases hi;exact Free.c_all rfl (pick_and rfl (hpre 5 _ _ (by kernel_rfl) rfl rfl) (hpre 8 _ _ (by kernel_rfl) rfl rfl) hF)
     | 10 => cases hi;exact Free.c_all rfl (Free.g_assign _ rfl ⟨(hpre 9 _ _ (by kernel_rfl) rfl rfl),hF⟩)
     | _ + 11 => cases hi
   · intro vs we hv hF
     have f10 : vs 10 = .bool (DD && H):=hv 10 (by simp) (by rintro o ⟨⟩;rfl)
     have HWE:=Hd hF;clear hF hv
     simp only [Free.puts,Nat.reduceAdd,f10]
     generalize vs 0 = y0,vs 1 = y1,vs 2 = y2,vs 3 = y3,vs 4 = y4,vs 5 = y5,vs 6 = y6,vs 7 = y7,vs 8 = y8,vs 9 = y9
     go_simp
     go_wp2_with fail
     go_ret
     have hb6:=HB5.out.trans (HWE.out.mono HB5.out.size)
     exact ⟨⟨_,rfl,HIFF.out⟩,⟨fs2,H2.out.1.below hb6⟩,H2.out.2.trans (Touch.of_below hb6)⟩
set_option maxHeartbeats 4000000 in
theorem impRight_any (A : Option Addr) (l : List Gn) (c : Nat) (nd : Int) (hd : Bool) (T : St) (w : World) (hT : Tab w) (hG : Gr w A l) (hl : l.length ≤ 40) (hI : ∀ x ∈ nds l,x.ins.length ≤ 40) (hc : l.length ≤ c ∧ c ≤ maxLen) :
 Calls Tryz.prog 23 #[.slice A l.length c,.agg #[.int .i64 nd,.bool hd,.int .i64 T.d,.int .i64 T.e,.int .i64 T.x,.int .i64 T.y,.int .i64 T.z]] w fun e w' => e = .returned (.bool (rightG (nds l) ⟨nd,hd,T⟩)) ∧ Below w.heap.size w w':=by
 have hb0 : Below w.heap.size w (w.alloc (.cells #[.int .i64 nd,.bool hd,.int .i64 T.d,.int .i64 T.e,.int .i64 T.x,.int .i64 T.y,.int .i64 T.z] 50)):=(Below.refl _ _).alloc (Nat.le_refl _) _
 have hx0 : Row (w.alloc (.cells #[.int .i64 nd,.bool hd,.int .i64 T.d,.int .i64 T.e,.int .i64 T.x,.int .i64 T.y,.int .i64 T.z] 50)) w.heap.size 50 (Pl.cells ⟨nd,hd,T⟩):=Row.made w _ _
 have hck:=chkCheck_any A l c _ (hT.below hb0) (hG.below hb0) hl hI hc
 unfold ChkD at hck
 have hfit:=fun (hf : Fine (nds l)) wx (hx : Below w.heap.size w wx) => rightIn_any A l c nd hd T wx (hG.below hx) (fine_deep hf)
 have HX:=Hd hx0;have HB:=Hd hb0;clear hx0 hb0
 unfold rightG
 by_cases hE : (checkR (nds l)).2 = 0
 · have hf : Fine (nds l):=fine_of (checkR_zero hE).2.1
   have hcall:=hfit hf
   rw [hE] at hck
   rw [decide_eq_true hE,Bool.true_and]
   generalize (checkR (nds l)).1 = N at *
   generalize fitB (nds l) ⟨nd,hd,T⟩ = K at *
   have HCK:=Hd hck;have HC:=Hd hcall;clear hck hcall hfit hT hG hI hE hf
   go_enter Tryz.func23,Tryz.ntmps23
   go_wp2_with fail
   refine HCK.out.mono ?_;rintro e w1 ⟨rfl,hb1⟩
   have hx1:=HX.out.below hb1 HX.out.lt
   have hb2:=HB.out.trans (hb1.mono HB.out.size)
   obtain ⟨c0,c1,c2,c3,c4,c5,c6⟩:=And.intro (hx1.cell 0) (And.intro (hx1.cell 1) (And.intro (hx1.cell 2) (And.intro (hx1.cell 3) (And.intro (hx1.cell 4) (And.intro (hx1.cell 5) (hx1.cell 6))))))
   simp only [List.getElem?_cons_succ,List.getElem?_cons_zero] at c0 c1 c2 c3 c4 c5 c6
   have HB2:=Hd hb2;have HC2:=Hd (HC.out w1 hb2);clear hx1 hb2 hb1
   dsimp only
   go_wp2_with fail
   refine HC2.out.mono ?_;rintro e w2 ⟨rfl,hb3⟩
   have HB3:=Hd (HB2.out.trans (hb3.mono HB2.out.size));clear hb3 c0 c1 c2 c3 c4 c5 c6
   dsimp only
   go_wp2_with fail
   go_ret
   exact ⟨rfl,HB3.out⟩
 · have hez : ((checkR (nds l)).2 == 0) = false:=by simpa using hE
   rw [decide_eq_false hE,Bool.false_and]
   generalize (checkR (nds l)).1 = N at *
   generalize (checkR (nds l)).2 = E at *
   have HCK:=Hd hck;clear hck hfit hT hG hI hE
   go_enter Tryz.func23,Tryz.ntmps23
   go_wp2_with fail
   refine HCK.out.mono ?_;rintro e w1 ⟨rfl,hb1⟩
   have HB2:=Hd (HB.out.trans (hb1.mono HB.out.size));clear hb1
   dsimp only
   go_wp2_with fail
   go_ret
   exact ⟨rfl,HB2.out⟩
set_option maxHeartbeats 4000000 in
theorem refRight15_any (A : Option Addr) (l : List Gn) (c : Nat) (nd : Int) (hd : Bool) (T : St) (w : World) (hT : Tab w) (hG : Gr w A l) (hl : l.length ≤ 40) (hI : ∀ x ∈ nds l,x.ins.length ≤ 40) (hc : l.length ≤ c ∧ c ≤ maxLen) :
 Calls Tryz.prog 24 #[.slice A l.length c,.agg #[.int .i64 nd,.bool hd,.int .i64 T.d,.int .i64 T.e,.int .i64 T.x,.int .i64 T.y,.int .i64 T.z]] w fun e w' => e = .returned (.bool (rightG (nds l) ⟨nd,hd,T⟩)) ∧ Below w.heap.size w w':=by
 have hb0 : Below w.heap.size w (w.alloc (.cells #[.int .i64 nd,.bool hd,.int .i64 T.d,.int .i64 T.e,.int .i64 T.x,.int .i64 T.y,.int .i64 T.z] 48)):=(Below.refl _ _).alloc (Nat.le_refl _) _
 have hx0 : Row (w.alloc (.cells #[.int .i64 nd,.bool hd,.int .i64 T.d,.int .i64 T.e,.int .i64 T.x,.int .i64 T.y,.int .i64 T.z] 48)) w.heap.size 48 (Pl.cells ⟨nd,hd,T⟩):=Row.made w _ _
 have hck:=refCheck_any A l c _ (hG.below hb0) (by unfold maxLen;omega)
 unfold ChkD at hck
 have hfit:=fun (hf : Fine (nds l)) wx (hx : Below w.heap.size w wx) => refFits_any A l c nd hd T wx (hG.below hx) hl (fine_deep hf)
 have HX:=Hd hx0;have HB:=Hd hb0;clear hx0 hb0
 unfold rightG
 by_cases hE : (checkR (nds l)).2 = 0
 · have hf : Fine (nds l):=fine_of (checkR_zero hE).2.1
   have hcall:=hfit hf
   rw [hE] at hck
   rw [decide_eq_true hE,Bool.true_and]
   generalize (checkR (nds l)).1 = N at *
   generalize fitB (nds l) ⟨nd,hd,T⟩ = K at *
   have HCK:=Hd hck;have HC:=Hd hcall;clear hck hcall hfit hT hG hI hE hf
   go_enter Tryz.func24,Tryz.ntmps24
   go_wp2_with fail
   refine HCK.out.mono ?_;rintro e w1 ⟨rfl,hb1⟩
   have hx1:=HX.out.below hb1 HX.out.lt
   have hb2:=HB.out.trans (hb1.mono HB.out.size)
   obtain ⟨c0,c1,c2,c3,c4,c5,c6⟩:=And.intro (hx1.cell 0) (And.intro (hx1.cell 1) (And.intro (hx1.cell 2) (And.intro (hx1.cell 3) (And.intro (hx1.cell 4) (And.intro (hx1.cell 5) (hx1.cell 6))))))
   simp only [List.getElem?_cons_succ,List.getElem?_cons_zero] at c0 c1 c2 c3 c4 c5 c6
   have HB2:=Hd hb2;have HC2:=Hd (HC.out w1 hb2);clear hx1 hb2 hb1
   dsimp only
   go_wp2_with fail
   refine HC2.out.mono ?_;rintro e w2 ⟨rfl,hb3⟩
   have HB3:=Hd (HB2.out.trans (hb3.mono HB2.out.size));clear hb3 c0 c1 c2 c3 c4 c5 c6
   dsimp only
   go_wp2_with fail
   go_ret
   exact ⟨rfl,HB3.out⟩
 · have hez : ((checkR (nds l)).2 == 0) = false:=by simpa using hE
   rw [decide_eq_false hE,Bool.false_and]
   generalize (checkR (nds l)).1 = N at *
   generalize (checkR (nds l)).2 = E at *
   have HCK:=Hd hck;clear hck hfit hT hG hI hE
   go_enter Tryz.func24,Tryz.ntmps24
   go_wp2_with fail
   refine HCK.out.mono ?_;rintro e w1 ⟨rfl,hb1⟩
   have HB2:=Hd (HB.out.trans (hb1.mono HB.out.size));clear hb1
   dsimp only
   go_wp2_with fail
   go_ret
   exact ⟨rfl,HB2.out⟩
end

section
instance (n : Nd) : Decidable n.May:=inferInstanceAs (Decidable ((0 ≤ n.d ∧ n.d ≤ 3) ∧ n.ins.length ≤ 2 ∧ ∀ x ∈ n.ins,0 ≤ x ∧ x ≤ 31))
instance (g : List Nd) : Decidable (GMay g):=inferInstanceAs (Decidable ((1 ≤ g.length ∧ g.length ≤ 32) ∧ ∀ n ∈ g,n.May))
theorem putE_ok {g : List Nd} (h : GMay g) : putE g = 0:=by
 have h1:=h.1
 unfold putE
 rw [if_neg (by omega),if_pos (mayB_iff.2 h)]
def portC (g : List Nd) (z : Int) : Bool:=decide (0 ≤ z) && match g[z.toNat]? with | some m => decide (m.k ≠ 10) | none => false
def errC (g : List Nd) (n : Nd) : Int :=
 if n.num = false then 130
 else if (n.ins.all (portC g) && decide (n.ins.length = n.want)) = false then 100
 else if (n.deepB && n.ins.all fun z => match g[z.toNat]? with | some m => decide (n.d - n.more = m.d) | none => true) = false then 101 else 0
theorem portC_iff {g : List Nd} {z : Int} : portC g z = true ↔ portOk g z:=by
 unfold portC portOk
 cases h : g[z.toNat]? with
 | none => simp
 | some m => simp
theorem errC_is (g : List Nd) (n : Nd) : n.err g = errC g n:=by
 have hp : (n.ins.all (portC g) && decide (n.ins.length = n.want)) = true ↔ n.Ports g:=by
  unfold Nd.Ports
  rw [Bool.and_eq_true,List.all_eq_true,decide_eq_true_iff]
  exact ⟨fun h => ⟨fun z hz => portC_iff.1 (h.1 z hz),h.2⟩,fun h => ⟨fun z hz => portC_iff.2 (h.1 z hz),h.2⟩⟩
 have hd : (n.deepB && n.ins.all fun z => match g[z.toNat]? with | some m => decide (n.d - n.more = m.d) | none => true) = true ↔ n.Deep g:=by
  unfold Nd.Deep
  rw [Bool.and_eq_true,List.all_eq_true]
  constructor
  · rintro ⟨h1,h2⟩
    refine ⟨h1,fun z hz m hm => ?_⟩
    have:=h2 z hz
    rw [hm] at this
    simpa using this
  · rintro ⟨h1,h2⟩
    refine ⟨h1,fun z hz => ?_⟩
    cases hm : g[z.toNat]? with
    | none => rfl
    | some m => simpa using h2 z hz m hm
 unfold errC
 by_cases h1 : n.num = false
 · rw [err_num h1,if_pos h1]
 · rw [if_neg h1]
   have h1' : n.num = true:=by simpa using h1
   by_cases h2 : n.Ports g
   · rw [if_neg (by rw [hp.2 h2];simp)]
     by_cases h3 : n.Deep g
     · rw [if_neg (by rw [hd.2 h3];simp),err_ok h1' h2 h3]
     · rw [if_pos (by rw [← Bool.not_eq_true];exact fun h => h3 (hd.1 h)),err_deep h1' h2 h3]
   · rw [if_pos (by rw [← Bool.not_eq_true];exact fun h => h2 (hp.1 h)),err_ports h1' h2]
def nodeC (g : List Nd) (i : Nat) : Int:=match g[i]? with | some n => errC g n | none => 2
theorem nodeC_is (g : List Nd) (i : Nat) : nodeE g (i : Nat) = nodeC g i:=by
 unfold nodeC
 cases h : g[i]? with
 | some n => rw [nodeE_at h,errC_is]
 | none => exact nodeE_out (.inr (by have:=List.getElem?_eq_none_iff.1 h;omega))
def succs (g : List Nd) (least : Int) (s : Nat) : List Nat :=
 (List.range g.length).filterMap fun n => match g[n]? with | some x => if (x.ins.contains ((s / 2 : Nat) : Int) && x.stays least) = true then some (nextC least s n x) else none | none => none
theorem mem_succs {g : List Nd} {least : Int} {s t : Nat} : t ∈ succs g least s ↔ StepN g least s t:=by
 unfold succs StepN
 rw [List.mem_filterMap]
 constructor
 · rintro ⟨n,hn,h⟩
   cases hx : g[n]? with
   | none => rw [hx] at h;cases h
   | some x =>
     rw [hx] at h
     simp only at h
     split at h
     · rename_i hc
       injection h with h
       subst h
       rw [Bool.and_eq_true,List.contains_iff_mem] at hc
       exact ⟨x,by rw [nextC_half];exact hx,hc.1,hc.2,by rw [nextC_half];rfl⟩
     · cases h
 · rintro ⟨x,hx,hin,hs,ht⟩
   refine ⟨t / 2,List.mem_range.2 (List.getElem?_eq_some_iff.1 hx).1,?_⟩
   rw [hx]
   simp only
   rw [if_pos (by rw [Bool.and_eq_true,List.contains_iff_mem];exact ⟨hin,hs⟩)]
   congr 1
   exact ht.symm
def chkReachC (g : List Nd) (least : Int) : Nat → List Nat → List Nat
 | 0,S => S
 | k + 1,S => chkReachC g least k (S.foldl (fun S s => (succs g least s).foldl (fun S t => if S.contains t then S else S ++ [t]) S) S)
def closedC (g : List Nd) (least : Int) (first tgt : Nat) (S : List Nat) : Bool:=(succs g least first).all (fun t => S.contains t) && S.all (fun s => (succs g least s).all fun t => S.contains t) && !S.contains tgt
theorem closedC_no {g : List Nd} {least : Int} {first tgt : Nat} {S : List Nat} (h : closedC g least first tgt S = true) : ¬ ReachN g least first tgt:=by
 unfold closedC at h
 rw [Bool.and_eq_true,Bool.and_eq_true] at h
 obtain ⟨⟨h1,h2⟩,h3⟩:=h
 have h1' : ∀ t ∈ succs g least first,t ∈ S:=fun t ht => List.contains_iff_mem.1 (List.all_eq_true.1 h1 t ht)
 have h2' : ∀ s ∈ S,∀ t ∈ succs g least s,t ∈ S:=fun s hs t ht => List.contains_iff_mem.1 (List.all_eq_true.1 (List.all_eq_true.1 h2 s hs) t ht)
 have key : ∀ t,ReachN g least first t → t ∈ S:=by
  intro t ht
  induction ht with
  | one hs => exact h1' _ (mem_succs.2 hs)
  | more _ hs ih => exact h2' _ ih _ (mem_succs.2 hs)
 intro hr
 have:=List.contains_iff_mem.2 (key tgt hr)
 rw [this] at h3;cases h3
def goodC (g : List Nd) (i : Nat) : Bool:=match g[i]? with
 | none => true
 | some x => decide (x.d ≤ 3) && (List.range 4).all fun least => decide (x.d < (least : Int)) || !x.stays least || closedC g least (startN x i least) (2 * i + 1) (chkReachC g least (2 * g.length) (succs g least (startN x i least)))
theorem goodC_no {g : List Nd} {i : Nat} (h : goodC g i = true) : ¬ BadAt g i:=by
 rintro ⟨x,hx,least,h0,hd,y,hy,hs,hr⟩
 rw [hx] at hy;injection hy with hy;subst hy
 unfold goodC at h
 rw [hx] at h
 simp only [Bool.and_eq_true,decide_eq_true_eq,List.all_eq_true] at h
 obtain ⟨L,rfl⟩ : ∃ L : Nat,least = (L : Int):=Int.eq_ofNat_of_zero_le h0
 have h2:=h.2 L (List.mem_range.2 (by omega))
 simp only [Bool.or_eq_true,decide_eq_true_eq,Bool.not_eq_true'] at h2
 rcases h2 with (h2 | h2) | h2
 · omega
 · rw [hs] at h2;cases h2
 · exact closedC_no h2 hr
def okC (g : List Nd) : Bool:=(List.range g.length).all (fun i => decide (nodeC g i = 0)) && (List.range g.length).all (goodC g)
theorem okC_check {g : List Nd} (hm : GMay g) (h : okC g = true) : checkR g = ((g.length : Int),0):=by
 unfold okC at h
 rw [Bool.and_eq_true,List.all_eq_true,List.all_eq_true] at h
 refine checkR_ok (putE_ok hm) (fun j hj => ?_) fun j hj => goodC_no (h.2 j (List.mem_range.2 hj))
 have:=h.1 j (List.mem_range.2 hj)
 rw [nodeC_is];simpa using this
end

section
def covB (g : List Nd) (i : Nat) (L : List (Nat × Sm)) : Bool :=
 (match g[i]? with
   | none => true
   | some x => (toG ((i : Nat) : Int) 0 g).all fun p => L.any fun a => decide (a.1 = p.1 ∧ a.2.L (idS x.d))) &&
 L.all fun a => match g[a.1]? with
  | none => true
  | some x => if x.smOk ∧ a.2.thenOk x.sm then (toG ((a.1 : Nat) : Int) 0 g).all fun p => L.any fun b => decide (b.1 = p.1 ∧ b.2.L (a.2.seq x.sm)) else true
def oneB (g : List Nd) (i : Nat) (acc : List (Nat × Sm)) (a : Nat × Sm) : Bool :=
 (match g[i]? with
   | none => false
   | some x => decide (a.2 = idS x.d) && (toG ((i : Nat) : Int) 0 g).any fun p => decide (p.1 = a.1)) ||
 acc.any fun b => match g[b.1]? with
  | none => false
  | some x => decide (x.smOk ∧ b.2.thenOk x.sm ∧ a.2 = b.2.seq x.sm) && (toG ((b.1 : Nat) : Int) 0 g).any fun p => decide (p.1 = a.1)
def arrB (g : List Nd) (i : Nat) : List (Nat × Sm) → List (Nat × Sm) → Bool
 | _,[] => true
 | acc,a :: l => oneB g i acc a && arrB g i (a :: acc) l
section
variable {g : List Nd} {i n : Nat} {L acc : List (Nat × Sm)} {s : Sm}
theorem fd_any {j m : Nat} (h : ((toG ((j : Nat) : Int) 0 g).any fun p => decide (p.1 = m)) = true) : Fd g j m:=by
 obtain ⟨p,hp,e⟩:=List.any_eq_true.1 h
 exact toG_fd.1 ⟨p,hp,of_decide_eq_true e⟩
theorem one_arr {a : Nat × Sm} (hacc : ∀ b ∈ acc,Arr g i b.1 b.2) (h : oneB g i acc a = true) : Arr g i a.1 a.2:=by
 unfold oneB at h
 rcases Bool.or_eq_true_iff.1 h with h | h
 · cases hx : g[i]? with
   | none => rw [hx] at h;cases h
   | some x =>
     rw [hx] at h
     obtain ⟨h1,h2⟩:=Bool.and_eq_true_iff.1 h
     rw [of_decide_eq_true h1]
     exact .first hx (fd_any h2)
 · obtain ⟨b,hb,h⟩:=List.any_eq_true.1 h
   cases hx : g[b.1]? with
   | none => rw [hx] at h;cases h
   | some x =>
     rw [hx] at h
     obtain ⟨h1,h2⟩:=Bool.and_eq_true_iff.1 h
     obtain ⟨h3,h4,h5⟩:=of_decide_eq_true h1
     rw [h5]
     exact .on (hacc b hb) hx h3 h4 (fd_any h2)
theorem arr_all : ∀ (l acc : List (Nat × Sm)),(∀ b ∈ acc,Arr g i b.1 b.2) → arrB g i acc l = true → ∀ b ∈ l,Arr g i b.1 b.2
 | [],acc,_,_ => fun b hb => by cases hb
 | a :: l,acc,hacc,h => by
   unfold arrB at h
   obtain ⟨h1,h2⟩:=Bool.and_eq_true_iff.1 h
   have ha:=one_arr hacc h1
   have hacc' : ∀ b ∈ a :: acc,Arr g i b.1 b.2:=fun b hb => by
    rcases List.mem_cons.1 hb with rfl | hb
    · exact ha
    · exact hacc b hb
   intro b hb
   rcases List.mem_cons.1 hb with rfl | hb
   · exact ha
   · exact arr_all l (a :: acc) hacc' h2 b hb
theorem cov_any {m : Nat} {u : Sm} {j : Nat} (h : ((toG ((j : Nat) : Int) 0 g).all fun p => L.any fun a => decide (a.1 = p.1 ∧ a.2.L u)) = true) (hf : Fd g j m) : ∃ t,(m,t) ∈ L ∧ t.L u:=by
 obtain ⟨p,hp,rfl⟩:=toG_fd.2 hf
 obtain ⟨a,ha,e⟩:=List.any_eq_true.1 (List.all_eq_true.1 h p hp)
 obtain ⟨e1,e2⟩:=of_decide_eq_true e
 exact ⟨a.2,by rw [← e1];exact ha,e2⟩
theorem cov_of (h : covB g i L = true) (k : arrB g i [] L = true) : Cov g i (fun n s => (n,s) ∈ L) where
 sound:=fun n s hs => arr_all L [] (fun b hb => by cases hb) k (n,s) hs
 first:=fun n x hx hf => by
  obtain ⟨h1,_⟩:=Bool.and_eq_true_iff.1 h
  rw [hx] at h1
  exact cov_any h1 hf
 on:=fun n m s x hs hx ho ht hf => by
  obtain ⟨_,h2⟩:=Bool.and_eq_true_iff.1 h
  have h3:=List.all_eq_true.1 h2 (n,s) hs
  simp only at h3
  rw [hx] at h3
  simp only [if_pos (show x.smOk ∧ s.thenOk x.sm from ⟨ho,ht⟩)] at h3
  exact cov_any h3 hf
end
/-! the law's own graph -/
end

section
open Go.RowKit

section
variable {P : Program}
end
end

section
open Go.RowKit
section
variable {P : Program} {src dst e : TypeId}
end
end

section
end

section
def MyB (w : World) (g n : Nat) : Prop:=∃ (cur : Array Value) (fz : Nat × Nat),w.heap[g]? = some (.cells cur 5 fz) ∧ n ≤ fz.1 ∧ ∀ j,j < n → ∃ x : Nat,x < 256 ∧ cur[j]? = some (.int .u8 (x : Nat))
theorem MyB.at_ {w : World} {g n : Nat} (h : MyB w g n) {j : Nat} (hj : j < n) : ∃ x : Nat,x < 256 ∧ w.cell? ⟨g,j,none⟩ = some (.int .u8 (x : Nat)) ∧ w.frozen? ⟨g,j,none⟩ = false:=by
 obtain ⟨cur,fz,hh,hf,hc⟩:=h
 obtain ⟨x,hx,he⟩:=hc j hj
 refine ⟨x,hx,by rw [cell_of_row w g j cur _ fz hh];exact he,?_⟩
 simp [World.frozen?,hh]
 omega
section
variable {P : Program} {src dst : TypeId}
end
end

section
theorem allocs_heap : ∀ (os : List Obj) (w : World),(os.foldl World.alloc w).heap.toList = w.heap.toList ++ os
 | [],w => (List.append_nil _).symm
 | o :: os,w => by
   rw [List.foldl_cons,allocs_heap os (w.alloc o)]
   show (w.heap.push o).toList ++ os = _
   rw [Array.toList_push,List.append_assoc];rfl
theorem allocs_at (os : List Obj) (w : World) {k : Nat} {o : Obj} (h : os[k]? = some o) : (os.foldl World.alloc w).heap[w.heap.size + k]? = some o:=by
 rw [← Array.getElem?_toList,allocs_heap,List.getElem?_append_right (by simp)]
 simpa using h
theorem allocs_below : ∀ (os : List Obj) {B : Nat} {w0 w : World},Below B w0 w → B ≤ w.heap.size → Below B w0 (os.foldl World.alloc w)
 | [],_,_,_,h,_ => h
 | o :: os,_,_,w,h,hB => allocs_below os (h.alloc hB o) (by simp;omega)
theorem allocs_ints (os : List Obj) (w : World) {k : Nat} (zs : List Int) (h : os[k]? = some (.cells (Rw.row kindI zs).toArray 3)) : Rw.Ts kindI (os.foldl World.alloc w) (some ⟨w.heap.size + k,0,none⟩) zs:=Rw.Ts.of_row (t:=3) (allocs_at os w h)
theorem allocs_nodes (os : List Obj) (w : World) {k : Nat} (l : List Gn) (h : os[k]? = some (.cells (Rw.row kindG l).toArray 58)) : Rw.Ts kindG (os.foldl World.alloc w) (some ⟨w.heap.size + k,0,none⟩) l:=Rw.Ts.of_row (t:=58) (allocs_at os w h)
theorem ok_small (k a : Nat) (b d : Int) (ins : List Int) (A : Option Addr) (c : Nat) (h : (k < 256 ∧ a < 256 ∧ -100 ≤ b ∧ b ≤ 100 ∧ -100 ≤ d ∧ d ≤ 100 ∧ ins.length ≤ c ∧ c ≤ 10) ∧ ∀ z ∈ ins,-100 ≤ z ∧ z ≤ 100) (hA : A = none → c = 0) : Gn.Ok ⟨⟨k,a,b,d,ins⟩,A,c⟩:=by
 have h1 : -9223372036854775808 ≤ b ∧ b ≤ 9223372036854775807:=by have:=h.1;omega
 have h2 : -9223372036854775808 ≤ d ∧ d ≤ 9223372036854775807:=by have:=h.1;omega
 have h3 : ∀ z ∈ ins,-9223372036854775808 ≤ z ∧ z ≤ 9223372036854775807:=fun z hz => by have:=h.2 z hz;omega
 have h4 : ins.length ≤ c ∧ c ≤ maxLen:=by have:=h.1;unfold maxLen;omega
 exact ⟨h.1.1,h.1.2.1,h1,h2,h3,h4,hA⟩
end

section
abbrev laidT : List (String × DataW Unit):=[("math/bits.deBruijn32tab",Rows.laid_math_bits_deBruijn32tab)]
def tzInts : List Int:=[0,1,28,2,29,14,24,3,30,22,20,15,25,17,4,8,31,27,13,23,21,19,16,7,26,12,18,6,11,5,10,9]
theorem tz_ints : ∀ i,i < 32 → tzInts.getD i 0 = ((tzTab.getD i 0 : Nat) : Int):=by decide
theorem gTab : Tryz.prog.globalNamed "math/bits.deBruijn32tab" = some 0:=by kernel_rfl
theorem tTab : (Tryz.prog.globals[0]?).map (·.type) = some 214:=by kernel_rfl
theorem cTab : Tryz.prog.cellsOf 214 = 32:=by kernel_rfl
theorem tab_of_laid {W : World} (h : laidMetH Tryz.prog laidT W) : Tab W:=by
 rw [MakeChecks.laidMetH_plain _ _ _ (by kernel_rfl)] at h
 have hT : Lib.TabIs Tryz.prog W "math/bits.deBruijn32tab" .u8 tzInts:=Lib.tabIs_of_head gTab tTab Tryz.underlying214 Tryz.underlying5 cells_u8 cTab h
 intro i hi
 rw [hT.cell gTab i hi,tz_ints i hi]
theorem door_met (os : Os) (args : Array Value) : laidMetH Tryz.prog laidT ((World.doorLaid Tryz.prog 400 os).forCall (fun _ _ => 0) ⟨#[],args,[]⟩).memory :=
 laidMetH_of_parts3 (fuel:=8) (laidMet_of_run' 8 (by kernel_rfl) (by kernel_rfl)) (by kernel_rfl) (by kernel_rfl)
end

section
def impN : List Nd:=[⟨1,0,0,0,[]⟩,⟨5,0,0,0,[0]⟩,⟨10,0,0,0,[1]⟩]
theorem ex_imp : checkR impN = (3,0):=okC_check (by decide) (by decide +kernel)
theorem imp_fine : Fine impN:=fine_of (checkR_zero (by rw [ex_imp])).2.1
theorem icov0 : Cov impN 0 (fun n s => (n,s) ∈ [(1,⟨0,0,0,0,0,0,0⟩),(2,⟨0,0,0,0,0,0,0⟩)]):=cov_of (by decide +kernel) (by decide +kernel)
theorem icov1 : Cov impN 1 (fun n s => (n,s) ∈ [(2,⟨0,0,0,0,0,0,0⟩)]):=cov_of (by decide +kernel) (by decide +kernel)
theorem one_cov {g : List Nd} {x : Pl} {n i : Nat} {y : Nd} {u : St} {L : List (Nat × Sm)} (hi : x.nd = (i : Nat)) (hy : g[i]? = some y) (hR : x.at_.R) (hu : tmR y x.at_ = some u) (hur : u.R) (hc : Cov g i (fun n s => (n,s) ∈ L)) :
 SomeT tmR g [x.pc] n (ownT n x ++ appS u (atA n L)) where
 sound:=fun v hv => by
  have e : x.pc.node = i:=by show x.nd.toNat = i;omega
  refine ⟨_,List.mem_singleton.2 rfl,?_⟩
  rcases List.mem_append.1 hv with hv | hv
  · exact .inl ((own_br hi).1 hv)
  · obtain ⟨s,hs,ha⟩:=mem_appS.1 hv
    exact .inr ⟨y,u,s,by rw [e];exact hy,hu,by rw [e];exact hc.sound n s (mem_atA.1 hs),ha⟩
 cover:=fun p hp v hv => by
  rw [List.mem_singleton] at hp
  subst hp
  have e : x.pc.node = i:=by show x.nd.toNat = i;omega
  rcases hv with h1 | ⟨y',u',s,hy',hu',ha,hs⟩
  · refine ⟨v,List.mem_append_left _ ((own_br (n:=n) hi).2 h1),?_⟩
    rw [h1.2.2];exact St.L_refl.2 hR
  · rw [e] at hy' ha
    rw [hy] at hy';cases hy'
    have hu2 : some u = some u':=hu.symm.trans hu'
    cases hu2
    obtain ⟨t,ht,htl⟩:=hc.covers ha
    obtain ⟨v',hv',hl'⟩:=Sm.apply_mono htl (St.L_refl.2 hur) hs
    exact ⟨v',List.mem_append_right _ (mem_appS.2 ⟨t,mem_atA.2 ht,hv'⟩),hl'⟩
def inX : List Pl:=[⟨0,true,⟨0,3,0,0,0⟩⟩]
def twoX : List Pl:=[⟨1,true,⟨0,2,0,0,0⟩⟩,⟨0,true,⟨0,4,0,0,0⟩⟩]
def qX : List Pl:=[⟨1,false,⟨0,2,0,0,0⟩⟩]
theorem imp_q (n : Nat) : SomeT tmR impN (qX.map Pl.pc) n (ownT n ⟨1,false,⟨0,2,0,0,0⟩⟩ ++ appS ⟨0,2,0,0,0⟩ (atA n [(2,⟨0,0,0,0,0,0,0⟩)])):=one_cov (i:=1) rfl rfl (by decide) rfl (by decide) icov1
theorem imp_in (n : Nat) : SomeT tmR impN (inX.map Pl.pc) n (ownT n ⟨0,true,⟨0,3,0,0,0⟩⟩ ++ appS ⟨0,3,0,0,0⟩ (atA n [(1,⟨0,0,0,0,0,0,0⟩),(2,⟨0,0,0,0,0,0,0⟩)])):=one_cov (i:=0) rfl rfl (by decide) rfl (by decide) icov0
theorem imp_two (n : Nat) : SomeT tmR impN (twoX.map Pl.pc) n ((ownT n ⟨1,true,⟨0,2,0,0,0⟩⟩ ++ appS ⟨0,2,0,0,0⟩ (atA n [(2,⟨0,0,0,0,0,0,0⟩)])) ++ (ownT n ⟨0,true,⟨0,4,0,0,0⟩⟩ ++ appS ⟨0,4,0,0,0⟩ (atA n [(1,⟨0,0,0,0,0,0,0⟩),(2,⟨0,0,0,0,0,0,0⟩)]))) :=
 (one_cov (x:=⟨1,true,⟨0,2,0,0,0⟩⟩) (i:=1) rfl rfl (by decide) rfl (by decide) icov1).app (one_cov (x:=⟨0,true,⟨0,4,0,0,0⟩⟩) (i:=0) rfl rfl (by decide) rfl (by decide) icov0)
theorem frt_is {xs : List Pl} {n : Nat} {f l r : List St} (hf : xs.all (fitB impN) = true) (hn : n < 3) (h : FrT impN xs n f) (k : SomeT tmR impN (xs.map Pl.pc) n l) (e : ofS l = r) : f = r:=by
 obtain ⟨y,hy⟩ : ∃ y,impN[n]? = some y:=⟨_,List.getElem?_eq_getElem hn⟩
 rw [← e]
 exact h.uniq imp_fine hf hy ⟨l,k,rfl⟩
theorem imp_f1 {f : List St} (h : FrT impN inX 1 f) : f = [⟨0,3,0,0,0⟩]:=frt_is (by decide) (by decide) h (imp_in 1) (by decide +kernel)
theorem imp_f2 {f : List St} (h : FrT impN qX 2 f) : f = [⟨0,2,0,0,0⟩]:=frt_is (by decide) (by decide) h (imp_q 2) (by decide +kernel)
theorem imp_f3 {f : List St} (h : FrT impN twoX 1 f) : f = [⟨0,4,0,0,0⟩]:=frt_is (by decide) (by decide) h (imp_two 1) (by decide +kernel)
theorem imp_f4 {f : List St} (h : FrT impN twoX 2 f) : f = [⟨0,2,0,0,0⟩]:=frt_is (by decide) (by decide) h (imp_two 2) (by decide +kernel)
theorem imp_f5 {f : List St} (h : FrT impN [] 1 f) : f = []:=frt_is (by decide) (by decide) h SomeT.start (by decide +kernel)
theorem imp_fr {t : St} (h : t.R) : Fr [t]:=⟨by simpa using h,by simp,List.pairwise_singleton _ _,by simp⟩
theorem imp_d1 {b : Bool} (h : b = true ↔ DoneP impN twoX 1 ⟨0,3,0,0,0⟩) : b = true :=
 h.2 ⟨by decide,_,[⟨0,4,0,0,0⟩],rfl,by decide,⟨_,imp_two 1,by decide +kernel⟩,⟨imp_fr (by decide),imp_fr (by decide),by decide +kernel⟩,by decide +kernel⟩
theorem imp_d2 {b : Bool} (h : b = true ↔ DoneP impN twoX 2 ⟨0,3,0,0,0⟩) : b = false:=by
 cases b with
 | false => rfl
 | true =>
   obtain ⟨_,y,f,_,_,hf,hi⟩:=h.1 rfl
   rw [imp_f4 hf] at hi
   exact absurd (show Up [(⟨0,2,0,0,0⟩ : St)] ⟨0,3,0,0,0⟩ by decide +kernel) hi.2
def impL (w : World) : List Gn:=[⟨⟨1,0,0,0,[]⟩,none,0⟩,⟨⟨5,0,0,0,[0]⟩,some ⟨w.heap.size + 0,0,none⟩,1⟩,⟨⟨10,0,0,0,[1]⟩,some ⟨w.heap.size + 1,0,none⟩,1⟩]
def impO (w : World) : List Obj:=[.cells (Rw.row kindI [0]).toArray 3,.cells (Rw.row kindI [1]).toArray 3,.cells (Rw.row kindG (impL w)).toArray 58]
theorem impl_gr (w : World) : Gr ((impO w).foldl World.alloc w) (some ⟨w.heap.size + 2,0,none⟩) (impL w):=by
 refine ⟨allocs_nodes (impO w) w (impL w) rfl,fun x hx => ?_⟩
 unfold impL at hx
 simp only [List.mem_cons,List.not_mem_nil,or_false] at hx
 rcases hx with rfl | rfl | rfl
 · exact ⟨ok_small _ _ _ _ _ _ _ (by decide) (by simp),Rw.Ts.nil⟩
 · exact ⟨ok_small _ _ _ _ _ _ _ (by decide) (by simp),allocs_ints (impO w) w [0] rfl⟩
 · exact ⟨ok_small _ _ _ _ _ _ _ (by decide) (by simp),allocs_ints (impO w) w [1] rfl⟩
theorem impl_below (w : World) : Below w.heap.size w ((impO w).foldl World.alloc w):=allocs_below (impO w) (Below.refl _ _) (Nat.le_refl _)
theorem impl_nds (w : World) : nds (impL w) = impN:=rfl
structure WkI (w wx : World) (p F : Nat) (A : Option Addr) (c : Nat) (lg : List Gn) (b : Nat) : Prop where
 pth : ∃ fs,Pth wx b p F A c lg fs
 base : w.heap.size ≤ b
 below : Below w.heap.size w wx
theorem WkI.on {w wx wy : World} {p F c b : Nat} {A : Option Addr} {lg : List Gn} (h : WkI w wx p F A c lg b) (hp : ∃ fs,Pth wy b p F A c lg fs) (ht : Touch (fun k => k = F) wx wy) : WkI w wy p F A c lg b:=by
 obtain ⟨fs,hP⟩:=h.pth
 exact ⟨hp,h.base,h.below.trans (ht.below (fun k hk => by subst hk;exact Nat.le_trans h.base hP.lo.2) h.below.size)⟩
theorem WkI.own {w wx wy : World} {p F c b : Nat} {A : Option Addr} {lg : List Gn} (h : WkI w wx p F A c lg b) (ht : Touch (fun k => k = F) wx wy) {base K n : Nat} {T : TypeId} {v : Value} {xs : List Value} (ho : wx.ownsRow base T K v n xs) (hT : 195 ≠ T) : wy.ownsRow base T K v n xs:=by
 obtain ⟨fs,hP⟩:=h.pth
 exact own_touchF ho hP.fans hT ht
theorem WkI.row {w wx wy : World} {p F c b : Nat} {A : Option Addr} {lg : List Gn} (h : WkI w wx p F A c lg b) (ht : Touch (fun k => k = F) wx wy) {g : Nat} {T : TypeId} {xs : List Value} (hr : Row wx g T xs) (hT : T ≠ 195) : Row wy g T xs:=by
 obtain ⟨fs,hP⟩:=h.pth
 exact hr.touch ht (row_apart hr hP.fans hT)
theorem WkI.alloc {w wx : World} {p F c b : Nat} {A : Option Addr} {lg : List Gn} (h : WkI w wx p F A c lg b) (o : Obj) : WkI w (wx.alloc o) p F A c lg b:=by
 obtain ⟨fs,hP⟩:=h.pth
 exact ⟨⟨fs,hP.below ((Below.refl _ _).alloc (Nat.le_refl _) _)⟩,h.base,h.below.alloc h.below.size _⟩
theorem imp_time {w : World} {base : Nat} {v : Value} {t : St} (h : w.ownsRow base 27 5 v ([t] : List St).length (rowS [t])) : ∃ b o c,v = .slice (some ⟨b,o,none⟩) 1 c ∧ w.cell? ⟨b,o + 1,none⟩ = some (.int .i64 t.e):=by
 obtain ⟨A,c,rfl,hT,_⟩:=Rw.Ts.of_own (κ:=kindU) (ts:=[t]) h
 have hT' : Ts w A [t]:=hT
 obtain ⟨b,o,rfl,_,hc⟩:=Ts.five hT' (i:=0) rfl
 have:=hc w (Below.refl _ _)
 simp only [Nat.zero_mul,Nat.add_zero] at this
 exact ⟨b,o,c,rfl,this.2.1⟩
set_option maxHeartbeats 16000000 in
theorem impWorks_any (w : World) (hT : Tab w) : Calls Tryz.prog 13 #[] w fun e w' => e = .returned (.bool true) ∧ Below w.heap.size w w':=by
 have HG:=Hd (impl_gr w)
 have HB:=Hd (impl_below w)
 have HT:=Hd (hT.below (impl_below w));clear hT
 go_enter Tryz.func13,Tryz.ntmps13
 go_wp2_with fail
 refine (new_good _ (impL w) 3 _ HT.out HG.out (by show 3 ≤ 40;decide) (by rw [impl_nds];decide) (show 3 ≤ 3 ∧ 3 ≤ maxLen by decide) (fun e => by cases e) (by rw [impl_nds,ex_imp])).mono ?_
 rintro e w1 ⟨⟨p,F,A,c,l',rfl,hn,hP⟩,hb⟩
 rw [impl_nds] at hn
 have hk : WkI w w1 p F A c l' _:=⟨⟨_,hP⟩,HB.out.size,HB.out.trans (hb.mono HB.out.size)⟩
 generalize ((impO w).foldl World.alloc w).heap.size = b at *
 have hl : l'.length ≤ 14:=by rw [← nds_len,hn];decide
 have hI : ∀ x ∈ nds l',x.ins.length ≤ 40:=by rw [hn];decide
 have hFi : Fine (nds l'):=by rw [hn];exact imp_fine
 obtain ⟨wa,hwa⟩ : ∃ wa,w1.alloc (.cells #[.int .i64 0,.bool true,.int .i64 0,.int .i64 3,.int .i64 0,.int .i64 0,.int .i64 0] 50) = wa:=⟨_,rfl⟩
 obtain ⟨wb,hwb⟩ : ∃ wb,wa.alloc (.cells #[.int .i64 1,.bool true,.int .i64 0,.int .i64 2,.int .i64 0,.int .i64 0,.int .i64 0,.int .i64 0,.bool true,.int .i64 0,.int .i64 4,.int .i64 0,.int .i64 0,.int .i64 0] 50) = wb:=⟨_,rfl⟩
 have hin : Row wb w1.heap.size 50 (Rw.row kindC inX):=by rw [← hwb,← hwa];exact (Row.made w1 _ (Rw.row kindC inX)).alloc _
 have htwo : Row wb wa.heap.size 50 (Rw.row kindC twoX):=by rw [← hwb];exact Row.made wa _ (Rw.row kindC twoX)
 have hsa : wa.heap.size = w1.heap.size + 1:=by rw [← hwa];simp
 have hkb : WkI w wb p F A c l' b:=by rw [← hwb,← hwa];exact (hk.alloc _).alloc _
 rw [hsa] at htwo
 have HK:=Hd hkb;have HN:=Hd hn;have HL:=Hd hl;have HI:=Hd hI;have HFI:=Hd hFi;have HIN:=Hd hin;have HTW:=Hd htwo
 clear hk hkb hn hl hI hFi hP hb HG HB HT hin htwo
 dsimp only
 go_wp2_with fail
 obtain ⟨fs1,hP1⟩:=HK.out.pth
 refine (frontier_any b p F A c l' fs1 _ inX _ 1 wb hP1 HL.out HI.out HFI.out (Rw.Ts.of_row HIN.out) (by decide)).mono ?_
 rintro e w2 ⟨⟨v1,f,rfl,hf,ho⟩,hp,ht⟩
 rw [HN.out] at hf
 rw [HN.out,show okF impN inX 1 = true by decide]
 obtain rfl:=imp_f1 (hf.yes (by decide))
 have h2:=HK.out.row ht HIN.out (by decide);clear HIN;have HIN:=Hd h2;clear h2
 have h2:=HK.out.row ht HTW.out (by decide);clear HTW;have HTW:=Hd h2;clear h2
 have h2:=HK.out.on hp ht;clear HK hP1;have HK:=Hd h2;have HO1:=Hd ho;clear h2 ho hf hp ht
 unfold erF
 dsimp only
 obtain ⟨w3,hw3⟩ : ∃ w3,w2.alloc (.cells #[.int .i64 1,.bool false,.int .i64 0,.int .i64 2,.int .i64 0,.int .i64 0,.int .i64 0] 50) = w3:=⟨_,rfl⟩
 have hq : Row w3 w2.heap.size 50 (Rw.row kindC qX):=by rw [← hw3];exact Row.made w2 _ (Rw.row kindC qX)
 have hk3 : WkI w w3 p F A c l' b:=by rw [← hw3];exact HK.out.alloc _
 have hb23 : Below w2.heap.size w2 w3:=by rw [← hw3];exact (Below.refl _ _).alloc (Nat.le_refl _) _
 have h2:=Rw.own_kept HO1.out hb23;clear HO1;have HO1:=Hd h2;clear h2
 have h2:=HIN.out.below hb23 HIN.out.lt;clear HIN;have HIN:=Hd h2;clear h2
 have h2:=HTW.out.below hb23 HTW.out.lt;clear HTW;have HTW:=Hd h2;clear h2
 clear HK
 have HK:=Hd hk3;have HQX:=Hd hq;clear hk3 hq hb23
 go_wp2_with fail
 obtain ⟨fs2,hP2⟩:=HK.out.pth
 refine (frontier_any b p F A c l' fs2 _ qX _ 2 w3 hP2 HL.out HI.out HFI.out (Rw.Ts.of_row HQX.out) (by decide)).mono ?_
 rintro e w4 ⟨⟨v2,f,rfl,hf,ho⟩,hp,ht⟩
 rw [HN.out] at hf
 rw [HN.out,show okF impN qX 2 = true by decide]
 obtain rfl:=imp_f2 (hf.yes (by decide))
 have h2:=HK.out.own ht HO1.out (by decide);clear HO1;have HO1:=Hd h2;clear h2
 have h2:=HK.out.row ht HIN.out (by decide);clear HIN;have HIN:=Hd h2;clear h2
 have h2:=HK.out.row ht HTW.out (by decide);clear HTW;have HTW:=Hd h2;clear h2
 have h2:=HK.out.on hp ht;clear HK hP2;have HK:=Hd h2;have HO2:=Hd ho;clear h2 ho hf hp ht
 unfold erF
 dsimp only
 clear HQX
 go_wp2_with fail
 obtain ⟨fs3,hP3⟩:=HK.out.pth
 refine (frontier_any b p F A c l' fs3 _ twoX _ 1 w4 hP3 HL.out HI.out HFI.out (Rw.Ts.of_row HTW.out) (by decide)).mono ?_
 rintro e w5 ⟨⟨v3,f,rfl,hf,ho⟩,hp,ht⟩
 rw [HN.out] at hf
 rw [HN.out,show okF impN twoX 1 = true by decide]
 obtain rfl:=imp_f3 (hf.yes (by decide))
 have h2:=HK.out.own ht HO1.out (by decide);clear HO1;have HO1:=Hd h2;clear h2
 have h2:=HK.out.own ht HO2.out (by decide);clear HO2;have HO2:=Hd h2;clear h2
 have h2:=HK.out.row ht HIN.out (by decide);clear HIN;have HIN:=Hd h2;clear h2
 have h2:=HK.out.row ht HTW.out (by decide);clear HTW;have HTW:=Hd h2;clear h2
 have h2:=HK.out.on hp ht;clear HK hP3;have HK:=Hd h2;have HO3:=Hd ho;clear h2 ho hf hp ht
 unfold erF
 dsimp only
 go_wp2_with fail
 obtain ⟨fs4,hP4⟩:=HK.out.pth
 refine (frontier_any b p F A c l' fs4 _ twoX _ 2 w5 hP4 HL.out HI.out HFI.out (Rw.Ts.of_row HTW.out) (by decide)).mono ?_
 rintro e w6 ⟨⟨v4,f,rfl,hf,ho⟩,hp,ht⟩
 rw [HN.out] at hf
 rw [HN.out,show okF impN twoX 2 = true by decide]
 obtain rfl:=imp_f4 (hf.yes (by decide))
 have h2:=HK.out.own ht HO1.out (by decide);clear HO1;have HO1:=Hd h2;clear h2
 have h2:=HK.out.own ht HO2.out (by decide);clear HO2;have HO2:=Hd h2;clear h2
 have h2:=HK.out.own ht HO3.out (by decide);clear HO3;have HO3:=Hd h2;clear h2
 have h2:=HK.out.row ht HIN.out (by decide);clear HIN;have HIN:=Hd h2;clear h2
 have h2:=HK.out.row ht HTW.out (by decide);clear HTW;have HTW:=Hd h2;clear h2
 have h2:=HK.out.on hp ht;clear HK hP4;have HK:=Hd h2;have HO4:=Hd ho;clear h2 ho hf hp ht
 unfold erF
 dsimp only
 go_wp2_with fail
 obtain ⟨fs5,hP5⟩:=HK.out.pth
 refine (frontier_any b p F A c l' fs5 _ [] _ 1 w6 hP5 HL.out HI.out HFI.out Rw.Ts.nil (by decide)).mono ?_
 rintro e w7 ⟨⟨v5,f,rfl,hf,ho⟩,hp,ht⟩
 rw [HN.out] at hf
 rw [HN.out,show okF impN [] 1 = true by decide]
 obtain rfl:=imp_f5 (hf.yes (by decide))
 have h2:=HK.out.own ht HO1.out (by decide);clear HO1;have HO1:=Hd h2;clear h2
 have h2:=HK.out.own ht HO2.out (by decide);clear HO2;have HO2:=Hd h2;clear h2
 have h2:=HK.out.own ht HO3.out (by decide);clear HO3;have HO3:=Hd h2;clear h2
 have h2:=HK.out.own ht HO4.out (by decide);clear HO4;have HO4:=Hd h2;clear h2
 have h2:=HK.out.row ht HIN.out (by decide);clear HIN;have HIN:=Hd h2;clear h2
 have h2:=HK.out.row ht HTW.out (by decide);clear HTW;have HTW:=Hd h2;clear h2
 have h2:=HK.out.on hp ht;clear HK hP5;have HK:=Hd h2;have HO5:=Hd ho;clear h2 ho hf hp ht
 unfold erF
 dsimp only
 obtain ⟨A5,c5,rfl,_⟩:=Rw.Ts.of_own (κ:=kindU) (ts:=[]) HO5.out
 obtain ⟨b1,o1,c1,rfl,q1⟩:=imp_time HO1.out
 obtain ⟨b2,o2,c2,rfl,q2⟩:=imp_time HO2.out
 obtain ⟨b3,o3,c3,rfl,q3⟩:=imp_time HO3.out
 obtain ⟨b4,o4,c4,rfl,q4⟩:=imp_time HO4.out
 clear HO1 HO2 HO3 HO4 HO5
 go_wp2_with fail
 obtain ⟨fs6,hP6⟩:=HK.out.pth
 refine (done_any b p F A c l' fs6 _ twoX _ 1 ⟨0,3,0,0,0⟩ w7 hP6 HL.out HI.out HFI.out (Rw.Ts.of_row HTW.out) (by decide)).mono ?_
 rintro e w8 ⟨⟨b8,rfl,hd⟩,hp,ht⟩
 rw [HN.out] at hd
 obtain rfl:=imp_d1 hd
 have h2:=HK.out.row ht HTW.out (by decide);clear HTW;have HTW:=Hd h2;clear h2
 have h2:=HK.out.on hp ht;clear HK hP6;have HK:=Hd h2;clear h2 hd hp ht q1 q2 q3 q4
 dsimp only
 go_wp2_with fail
 obtain ⟨fs7,hP7⟩:=HK.out.pth
 refine (done_any b p F A c l' fs7 _ twoX _ 2 ⟨0,3,0,0,0⟩ w8 hP7 HL.out HI.out HFI.out (Rw.Ts.of_row HTW.out) (by decide)).mono ?_
 rintro e w9 ⟨⟨b9,rfl,hd⟩,hp,ht⟩
 rw [HN.out] at hd
 obtain rfl:=imp_d2 hd
 have h2:=HK.out.on hp ht;clear HK hP7;have HK:=Hd h2;clear h2 hd hp ht
 dsimp only
 go_wp2_with fail
 go_ret
 exact ⟨rfl,HK.out.below⟩
end

section
theorem si_graph : Tryz.prog.wantsStandIn 23 = false:=by kernel_rfl
end

section

end

section
theorem cons_eqA {α : Type} {u v : α} {us vs : List α} (h : u = v) (k : us = vs) : u :: us = v :: vs:=by rw [h,k]
theorem si_places : Tryz.prog.wantsStandIn 24 = false:=by kernel_rfl
theorem si_place : Tryz.prog.wantsStandIn 50 = false:=by kernel_rfl
def FewI (g : List Nd) (m top : Nat) (w : World) (e : Ending) (w' : World) : Prop:=(∃ b,e = .returned (.bool b) ∧ (b = true → insB g 12 = true ∧ m ≤ top)) ∧ w = w'
theorem fewI_no (g : List Nd) (m top : Nat) (w : World) : FewI g m top w (.returned (.bool false)) w:=⟨⟨false,rfl,fun h => by cases h⟩,rfl⟩
theorem fewI_nds {l : List Gn} (h : insB (nds l) 12 = true) : l.length ≤ 14 ∧ ∀ x ∈ nds l,x.ins.length ≤ 40:=by
 unfold insB at h
 rw [decide_eq_true_iff,nds_len] at h
 exact ⟨by omega,fun x hx => by have:=h.2 x hx;omega⟩
set_option maxHeartbeats 1000000 in
theorem fewI_any (A : Option Addr) (l : List Gn) (c : Nat) (LA : Option Addr) (m lc top : Nat) (w : World) (hG : Gr w A l) (hl : l.length ≤ maxLen) (hm : m ≤ maxLen) :
 Calls Tryz.prog 12 #[.slice A l.length c,.slice LA m lc,.int .i64 (top : Nat)] w (FewI (nds l) m top w):=by
 have h1:=ins_any A l c 12 w hG hl
 unfold maxLen at hl hm
 have HG:=Hd hG;clear hG
 cases e1 : insB (nds l) 12 with
 | false =>
   rw [e1] at h1;clear e1;have H1:=Hd h1;clear h1
   go_enter Tryz.func12,Tryz.ntmps12
   go_wp2_with fail
   refine H1.out.mono ?_;rintro e w0 ⟨rfl,rfl⟩
   dsimp only
   go_wp2_with fail
   go_ret
   exact fewI_no _ _ _ _
 | true =>
   have HE:=Hd e1;rw [e1] at h1;clear e1;have H1:=Hd h1;clear h1
   by_cases hmt : top < m
   · have hmz : ((top : Nat) : Int) < ((m : Nat) : Int):=by omega
     go_enter Tryz.func12,Tryz.ntmps12
     go_wp2_with fail
     refine H1.out.mono ?_;rintro e w0 ⟨rfl,rfl⟩
     dsimp only
     go_wp2_with fail
     go_ret
     exact fewI_no _ _ _ _
   · have hmz : ¬ ((top : Nat) : Int) < ((m : Nat) : Int):=by omega
     go_enter Tryz.func12,Tryz.ntmps12
     go_wp2_with fail
     refine H1.out.mono ?_;rintro e w0 ⟨rfl,rfl⟩
     dsimp only
     go_wp2_with fail
     go_loop [7] (fun i => ∃ k : Nat,k ≤ l.length ∧ i = .int .i64 k) (fun i => l.length - (intOf i).toNat)
     case atStart => exact ⟨0,by omega,rfl⟩
     case round =>
      obtain ⟨k,hk,rfl⟩:=hrel
      by_cases hlt : k < l.length
      · have hltz : (k : Int) < (l.length : Int):=by omega
        obtain ⟨x,hx⟩ : ∃ x,l[k]? = some x:=⟨_,List.getElem?_eq_getElem hlt⟩
        obtain ⟨b,o,rfl,hbl,hcl⟩:=HG.out.at_ hx
        obtain ⟨c0,c1,c2,c3,c4⟩:=hcl w (Below.refl _ _)
        clear hx hcl
        by_cases h9 : x.nd.k = 9
        · have h9z : (((x.nd.k : Nat) : Int) == 9) = true:=by simp;omega
          clear h9
          by_cases h2 : 2 < x.nd.d
          · go_wp2_with fail
            go_ret
            exact fewI_no _ _ _ _
          · go_wp2_with fail
            go_round
            case rel => exact ⟨k + 1,by omega,by simp⟩
            case measure => simp [intOf];omega
        · have h9z : (((x.nd.k : Nat) : Int) == 9) = false:=by simp;omega
          clear h9
          go_wp2_with fail
          go_round
          case rel => exact ⟨k + 1,by omega,by simp⟩
          case measure => simp [intOf];omega
      · have hltz : ¬ (k : Int) < (l.length : Int):=by omega
        go_wp2_with fail
        go_ret
        exact ⟨⟨true,rfl,fun _ => ⟨HE.out,by omega⟩⟩,rfl⟩
end

section
theorem infoPlace : (Tryz.prog.info? 50).map (fun i => (i.zero,i.size,i.bytes)) = some (some (.agg #[.int .i64 0,.bool false,.int .i64 0,.int .i64 0,.int .i64 0,.int .i64 0,.int .i64 0]),7,56):=by kernel_rfl
section
variable {g : List Nd} {xs ys zs : List Pl} {node : Int} {f h k : List St} {y : Nd} {n : Nat}
theorem okF_yes (h : okF g xs node = true) : ∃ (n : Nat) (y : Nd),node = (n : Nat) ∧ n < g.length ∧ g[n]? = some y ∧ xs.all (fitB g) = true:=by
 obtain ⟨h1,h2⟩:=Bool.and_eq_true_iff.1 h
 have h1:=of_decide_eq_true h1
 exact ⟨node.toNat,g[node.toNat]'(by omega),by omega,by omega,List.getElem?_eq_getElem (by omega),h2⟩
theorem okF_mk (hn : n < g.length) (h : xs.all (fitB g) = true) : okF g xs (n : Nat) = true:=by
 unfold okF;rw [decide_eq_true (by omega),h];rfl
theorem okF_off (h : ¬ (0 ≤ node ∧ node < (g.length : Int))) : okF g xs node = false:=by
 unfold okF;rw [decide_eq_false h];rfl
theorem FrT.alike (hg : Fine g) (hx : xs.all (fitB g) = true) (hz : zs.all (fitB g) = true) (hy : g[n]? = some y) (h1 : FrT g xs n f) (h2 : FrT g zs n k) : Alike f k:=by
 obtain ⟨l,hl,rfl⟩:=h1
 obtain ⟨m,hm,rfl⟩:=h2
 exact hl.alike hg (fit_all hx) (fit_all hz) hy hm
theorem FrT.both (hg : Fine g) (hx : xs.all (fitB g) = true) (hz : zs.all (fitB g) = true) (hy : g[n]? = some y) (h1 : FrT g xs n f) (h2 : FrT g zs n k) (h3 : FrT g ys n h) (he : ∀ p,p ∈ ys ↔ p ∈ xs ∨ p ∈ zs) : h = bothS f k:=by
 obtain ⟨l,hl,rfl⟩:=h1
 obtain ⟨m,hm,rfl⟩:=h2
 obtain ⟨r,hr,rfl⟩:=h3
 refine hl.both hg (fit_all hx) (fit_all hz) hy hm (fun p => ?_) hr
 constructor
 · intro h
   obtain ⟨q,hq,rfl⟩:=List.mem_map.1 h
   rcases (he q).1 hq with h | h
   · exact .inl (List.mem_map_of_mem h)
   · exact .inr (List.mem_map_of_mem h)
 · rintro (h | h)
   · obtain ⟨q,hq,rfl⟩:=List.mem_map.1 h
     exact List.mem_map_of_mem ((he q).2 (.inl hq))
   · obtain ⟨q,hq,rfl⟩:=List.mem_map.1 h
     exact List.mem_map_of_mem ((he q).2 (.inr hq))
theorem FrT.under (hg : Fine g) (hx : xs.all (fitB g) = true) (hz : zs.all (fitB g) = true) (hy : g[n]? = some y) (h1 : FrT g xs n f) (h2 : FrT g zs n k) (hc : ∀ q ∈ zs,∀ u,Br tmR g q.pc n u → ∃ p ∈ xs,∃ v,Br tmR g p.pc n v ∧ v.L u) : Under f k:=by
 refine ⟨h1.alike hg hx hz hy h2,?_⟩
 obtain ⟨l,hl,rfl⟩:=h1
 obtain ⟨m,hm,rfl⟩:=h2
 refine hl.within hg (fit_all hx) (fit_all hz) hy hm fun q hq u hu => ?_
 obtain ⟨z,hz,rfl⟩:=List.mem_map.1 hq
 obtain ⟨p,hp,v,hv,hvl⟩:=hc z hz u hu
 exact ⟨p.pc,List.mem_map_of_mem hp,v,hv,hvl⟩
end
section
variable {w wx wy : World} {p F c b : Nat} {A : Option Addr} {lg : List Gn}
theorem WkI.below' (h : WkI w wx p F A c lg b) (hb : Below wx.heap.size wx wy) : WkI w wy p F A c lg b:=by
 obtain ⟨fs,hP⟩:=h.pth
 exact ⟨⟨fs,hP.below hb⟩,h.base,h.below.trans (hb.mono h.below.size)⟩
theorem WkI.front (h : WkI w wx p F A c lg b) (hl : lg.length ≤ 14) (hI : ∀ x ∈ nds lg,x.ins.length ≤ 40) (hF : Fine (nds lg)) {LA : Option Addr} {xs : List Pl} (lc : Nat) (node : Int) (hT : Rw.Ts kindC wx LA xs) (hx : xs.length ≤ 45) :
 Calls Tryz.prog 15 #[.pointer (some ⟨p,0,none⟩),.slice LA xs.length lc,.int .i64 node] wx fun e wy => (∃ v f,e = .returned (.tuple #[v,.int .i64 (erF (okF (nds lg) xs node))]) ∧ FrOk (nds lg) xs node f ∧ wy.ownsRow wx.heap.size 27 5 v f.length (rowS f)) ∧ WkI w wy p F A c lg b ∧ Touch (fun k => k = F) wx wy:=by
 obtain ⟨fs,hP⟩:=h.pth
 refine (frontier_any b p F A c lg fs LA xs lc node wx hP hl hI hF hT hx).mono ?_
 rintro e wy ⟨h1,h2,h3⟩
 exact ⟨h1,h.on h2 h3,h3⟩
theorem WkI.done (h : WkI w wx p F A c lg b) (hl : lg.length ≤ 14) (hI : ∀ x ∈ nds lg,x.ins.length ≤ 40) (hF : Fine (nds lg)) {LA : Option Addr} {xs : List Pl} (lc : Nat) (node : Int) (T : St) (hT : Rw.Ts kindC wx LA xs) (hx : xs.length ≤ 45) :
 Calls Tryz.prog 16 #[.pointer (some ⟨p,0,none⟩),.slice LA xs.length lc,.int .i64 node,T.val] wx fun e wy => (∃ v,e = .returned (.bool v) ∧ (v = true ↔ DoneP (nds lg) xs node T)) ∧ WkI w wy p F A c lg b ∧ Touch (fun k => k = F) wx wy:=by
 obtain ⟨fs,hP⟩:=h.pth
 refine (done_any b p F A c lg fs LA xs lc node T wx hP hl hI hF hT hx).mono ?_
 rintro e wy ⟨h1,h2,h3⟩
 exact ⟨h1,h.on h2 h3,h3⟩
end
end
end Go.Proofs.YtonelpnhoiajgaaGreatDoor
