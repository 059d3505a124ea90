/- PathsWays: the ways from any node to any node of any graph are the document's, or the graph is refused; the graph is kept by a copy. -/
import Derived.Test.YtonelpnhoiajgaaGreatDoorHd
import Derived.Test.YtonelpnhoiajgaaGreatDoorCa20
import Derived.Test.YtonelpnhoiajgaaGreatDoorCa21
import Derived.Test.YtonelpnhoiajgaaGreatDoorCa4
import Derived.Test.YtonelpnhoiajgaaGreatDoorCa16
namespace Go.Proofs.YtonelpnhoiajgaaGreatDoor
set_option linter.unusedSimpArgs false
open Go.ChangeShapes Go.WideShapes Go.ChangeAt Go.RowKit Go.BigFrame
set_option linter.unusedVariables false
set_option maxRecDepth 100000
theorem nxts_touch {F : Nat} {w w' : World} {A : Option Addr} {l : List Sm} (h : Nx.Ts w A l) (ht : Touch (fun b => b = F) w w') (hA : ∀ ad,A = some ad → F < ad.block) : Nx.Ts w' A l:=fun hn => by
 obtain ⟨b,o,e,hlt,hc⟩:=h hn
 exact ⟨b,o,e,Nat.lt_of_lt_of_le hlt ht.size,fun j u hu => touch_cell ht (hc j u hu) (by have:=hA _ e;simp only at this;omega)⟩
theorem nxts_far {w : World} {A : Option Addr} {l : List Sm} {b' o' : Nat} {u : Value} (h : Nx.Ts w A l) (hA : ∀ ad,A = some ad → b' < ad.block) : Nx.Ts (w.setCell ⟨b',o',none⟩ u) A l:=fun hn => by
 obtain ⟨b,o,e,hlt,hc⟩:=h hn
 refine ⟨b,o,e,by simpa using hlt,fun j v hv => ?_⟩
 have hne : b ≠ b':=by have:=hA _ e;simp only at this;omega
 exact (World.cell?_of_block (a:=⟨b,o + j,none⟩) (Below.heap_setCell w ⟨b',o',none⟩ u b hne)).trans (hc j v hv)
def SumsW (g n : Nat) (w : World) : Prop:=∃ cur : List Value,Row w g 82 cur ∧ ∀ i,i < n → ∃ z : Int,cur[i * 7]? = some (.int .i64 z)
theorem SumsW.put {g n i : Nat} {w : World} (h : SumsW g n w) (z : Int) : SumsW g n (w.setCell ⟨g,i * 7,none⟩ (.int .i64 z)):=by
 obtain ⟨cur,hr,hc⟩:=h
 refine ⟨_,hr.put (i * 7) _,fun k hk => ?_⟩
 obtain ⟨y,hy⟩:=hc k hk
 by_cases e : i * 7 = k * 7
 · rw [e,List.getElem?_set_self (List.getElem?_eq_some_iff.1 hy).1];exact ⟨z,rfl⟩
 · rw [List.getElem?_set_ne e];exact ⟨y,hy⟩
theorem SumsW.of {base : Nat} {w : World} {v : Value} {l : List Sm} (h : w.ownsRow base 82 kindS.K v l.length (Rw.row kindS l)) (hn : 0 < l.length) : ∃ g c,v = .slice (some ⟨g,0,none⟩) l.length c ∧ base ≤ g ∧ g < w.heap.size ∧ SumsW g l.length w:=by
 obtain ⟨g,c,cur,e,hb,hr,hc⟩:=own_row h hn
 refine ⟨g,c,e,hb,hr.lt,cur,hr,fun i hi => ?_⟩
 obtain ⟨s,hs⟩ : ∃ s,l[i]? = some s:=⟨_,List.getElem?_eq_getElem hi⟩
 exact ⟨s.fr,hc _ _ (Rw.row_at (κ:=kindS) l i s hs 0 _ rfl)⟩
namespace pathsWays
set_option maxHeartbeats 16000000 in
theorem walk (A0 : Option Addr) (lg0 : List Gn) (c0 : Nat) (f t : Int) (w : World) (hT : Tab w) (hG : Gr w A0 lg0) (hl : lg0.length ≤ maxLen) (hc : lg0.length ≤ c0 ∧ c0 ≤ maxLen) (hn0 : A0 = none → c0 = 0) :
 Calls Tryz.prog 9 #[.slice A0 lg0.length c0,.int .i64 f,.int .i64 t] w fun e w' => e = .returned (.bool true) ∧ Below w.heap.size w w':=by
 have HT:=Hd hT;have HG:=Hd hG;have HC:=Hd hc;have HLM:=Hd hl;clear hT hG hc hn0 hl
 go_enter Tryz.func9,Tryz.ntmps9
 go_wp2_with fail
 refine (few_any A0 lg0 c0 w HG.out HLM.out).mono ?_;rintro e w2 ⟨⟨bb,rfl,hb⟩,rfl⟩
 cases bb with
 | false =>
   clear hb
   dsimp only
   go_wp2_with fail
   refine (plWorks_any w (HT.out)).mono ?_;rintro e w9 ⟨rfl,hb⟩
   have HBE:=Hd (hb);clear hb
   dsimp only
   go_wp2_with fail
   go_ret
   exact ⟨rfl,HBE.out⟩
 | true =>
   obtain ⟨hl14,hI⟩:=few_nds (hb rfl)
   have HL0:=Hd hl14;have HI0:=Hd hI;clear hl14 hI hb
   dsimp only
   go_wp2_with fail
   refine (own_any A0 lg0 c0 w HG.out (by have:=HL0.out;omega) (fun x hx => by have:=HI0.out x.nd (List.mem_map.2 ⟨x,hx,rfl⟩);omega)).mono ?_
   rintro e w1 ⟨⟨v,lo,rfl,hno,hoo⟩,hb1⟩
   obtain ⟨AO,cO,rfl,hGO,hO1,hO2,hO3⟩:=hoo.gr
   have hll : lo.length = lg0.length:=by rw [← nds_len,hno,nds_len]
   have HNO:=Hd hno;have HOO:=Hd hoo;have HGO:=Hd hGO;have HO:=Hd (And.intro hO1 hO2);have HO3:=Hd hO3;have HB1:=Hd hb1;have HLL:=Hd hll
   clear hno hoo hGO hO1 hO2 hO3 hb1 hll
   dsimp only
   by_cases hE : (checkR (nds lg0)).2 = 0
   · have hfi : Fine (nds lg0):=fine_of (checkR_zero hE).2.1
     have hpos : 0 < lg0.length:=by
      have h0:=(checkR_zero hE).1
      unfold putE at h0
      rcases Nat.eq_zero_or_pos lg0.length with e | e
      · rw [if_pos (.inl (by rw [nds_len];omega))] at h0;cases h0
      · exact e
     have hnew:=new_good AO lo cO w1 (HT.out.below HB1.out) HGO.out (by have:=HL0.out;have:=HLL.out;omega) (by rw [HNO.out];exact HI0.out) HO.out HO3.out (by rw [HNO.out];exact hE)
     have hrc:=fun wn (hn : Below w.heap.size w wn) => refCheck_any A0 lg0 c0 wn (HG.out.below hn) HLM.out
     unfold ChkD at hrc
     rw [hE] at hrc
     have HNEW:=Hd hnew;have HFI0:=Hd hfi;have HRC:=Hd hrc;have HPOS:=Hd hpos;clear hnew hfi hE hrc hpos
     go_wp2_with fail
     refine HNEW.out.mono ?_
     rintro e wn ⟨⟨p,F,A,c,lg,rfl,hn,hP⟩,hbn⟩
     have hlg : lg.length = lo.length:=by rw [← nds_len,hn,nds_len]
     have hbn1:=HB1.out.trans (hbn.mono HB1.out.size)
     have HN : Hid (nds lg = nds lg0):=Hd (hn.trans HNO.out)
     have HFB:=Hd hP.lo.2;have HL : Hid (lg.length ≤ 14):=Hd (by have:=HL0.out;have:=HLL.out;omega)
     have HI : Hid (∀ x ∈ nds lg,x.ins.length ≤ 40):=Hd (by rw [HN.out];exact HI0.out)
     have HFI : Hid (Fine (nds lg)):=Hd (by rw [HN.out];exact HFI0.out)
     obtain ⟨g0,cO',e0,how⟩:=OwnW.of _ HOO.out (by have:=HPOS.out;have:=HLL.out;omega)
     cases e0
     obtain ⟨B1,hB1⟩ : ∃ B1,w1.heap.size = B1:=⟨_,rfl⟩
     rw [hB1] at hP how
     have hown : OwnW w.heap.size B1 g0 lo wn:=by
      obtain ⟨⟨cur,hr,hcur⟩,ha,hins⟩:=how
      refine ⟨⟨cur,Row.below hr hbn hr.lt,hcur⟩,ha,fun i x hx hp => ?_⟩
      obtain ⟨b,e,hb,cur',hr',hc'⟩:=hins i x hx hp
      exact ⟨b,e,hb,cur',Row.below hr' hbn hr'.lt,hc'⟩
     have HP:=Hd hP;have HBN:=Hd hbn1;have HOW:=Hd hown;have HWB : Hid (w.heap.size ≤ B1):=Hd (by rw [← hB1];exact HB1.out.size)
     clear hn hP hbn hlg HNEW how hown hbn1 hB1
     dsimp only
     go_wp2_with fail
     refine (HRC.out wn HBN.out).mono ?_;rintro e w3 ⟨rfl,hb3⟩
     have HP3:=Hd (HP.out.below hb3);have HB3:=Hd (HBN.out.trans (hb3.mono HBN.out.size))
     have HOW3 : Hid (OwnW w.heap.size B1 g0 lo w3):=Hd (by
      obtain ⟨⟨cur,hr,hcur⟩,ha,hins⟩:=HOW.out
      refine ⟨⟨cur,Row.below hr hb3 hr.lt,hcur⟩,ha,fun i x hx hp => ?_⟩
      obtain ⟨b,e,hb,cur',hr',hc'⟩:=hins i x hx hp
      exact ⟨b,e,hb,cur',Row.below hr' hb3 hr'.lt,hc'⟩)
     clear hb3 HP HBN HOW HRC
     dsimp only
     obtain ⟨N,hN⟩ : ∃ N,lo.length = N:=⟨_,rfl⟩
     have HNN:=Hd hN
     rw [hN]
     clear hN
     have hNb : N ≤ 14:=by have:=HL0.out;have:=HLL.out;have:=HNN.out;omega
     go_wp2_with fail
     go_loopw [12] (fun v wx => ∃ k : Nat,v = .int .i64 k ∧ k ≤ N ∧ OwnW w.heap.size B1 g0 lo wx ∧ Pth wx B1 p F A c lg (List.replicate lo.length none) ∧ Below w.heap.size w wx) (fun v _ => N - (intOf v).toNat)
     case atStart => exact ⟨0,rfl,Nat.zero_le _,HOW3.out,HP3.out,HB3.out⟩
     case round =>
      obtain ⟨w4,rfl⟩ : ∃ wo,wo = wr:=⟨_,rfl⟩
      obtain ⟨k,rfl,hk,how,hP,hb⟩:=hrel
      clear HOW3 HP3 HB3
      have HOW:=Hd how;have HP:=Hd hP;have HB4:=Hd hb;clear how hP hb
      by_cases hkl : k < N
      · have hkz : (k : Int) < (N : Int):=by omega
        obtain ⟨x,hx⟩ : ∃ x,lo[k]? = some x:=⟨_,List.getElem?_eq_getElem (by rw [HNN.out];exact hkl)⟩
        have hxb : x.nd.ins.length ≤ 40:=HI0.out x.nd (by rw [← HNO.out];exact List.mem_map.2 ⟨x,List.mem_of_getElem? hx,rfl⟩)
        obtain ⟨cur,hr,hcur⟩:=HOW.out.row
        obtain ⟨z0,hz0⟩:=(hcur k x hx).1
        have q0 : w4.cell? ⟨g0,k * 5,none⟩ = some (.int .u8 (z0 : Nat)):=(hr.cell _).trans hz0
        have qf : w4.frozen? ⟨g0,k * 5,none⟩ = false:=hr.free _
        have hg0:=HOW.out.at_
        have HX:=Hd hx
        have HOW5:=Hd (HOW.out.kind (i:=k) 77)
        have HP5:=Hd (HP.out.stays (Stays.far (blk:=g0) (j:=k * 5) (u:=.int .u8 77) hg0.2))
        have HB5:=Hd (HB4.out.setCell (p:=⟨g0,k * 5,none⟩) hg0.1 (.int .u8 77))
        clear hr hcur hz0 hg0 hx HOW HP HB4
        go_wp2_with fail
        go_loopw [13] (fun v wx => ∃ q : Nat,v = .int .i64 q ∧ q ≤ x.nd.ins.length ∧ OwnW w.heap.size B1 g0 lo wx ∧ Pth wx B1 p F A c lg (List.replicate lo.length none) ∧ Below w.heap.size w wx) (fun v _ => x.nd.ins.length - (intOf v).toNat)
        case atStart => exact ⟨0,rfl,Nat.zero_le _,HOW5.out,HP5.out,HB5.out⟩
        case round =>
         obtain ⟨w5,rfl⟩ : ∃ wo,wo = wr:=⟨_,rfl⟩
         obtain ⟨q,rfl,hq,how,hP,hb⟩:=hrel
         have HOW:=Hd how;have HP:=Hd hP;have HB6:=Hd hb;clear how hP hb
         obtain ⟨cur,hr,hcur⟩:=HOW.out.row
         have q4 : w5.cell? ⟨g0,k * 5 + 4,none⟩ = some (.slice x.A x.nd.ins.length x.c):=(hr.cell _).trans (hcur k x HX.out).2
         clear hr hcur
         by_cases hql : q < x.nd.ins.length
         · have hqz : (q : Int) < (x.nd.ins.length : Int):=by omega
           obtain ⟨b,hAe,hbb,cur',hr',hc'⟩:=HOW.out.ins k x HX.out (by omega)
           obtain ⟨z,hz⟩:=hc' q hql
           rw [hAe] at q4
           have q5 : w5.cell? ⟨b,q,none⟩ = some (.int .i64 z):=(hr'.cell _).trans hz
           have q6 : w5.frozen? ⟨b,q,none⟩ = false:=hr'.free _
           have HOW7:=Hd (HOW.out.input hr' q (-9))
           have HP7:=Hd (HP.out.stays (Stays.far (blk:=b) (j:=q) (u:=.int .i64 (-9)) hbb.2))
           have HB7:=Hd (HB6.out.setCell (p:=⟨b,q,none⟩) hbb.1 (.int .i64 (-9)))
           clear hr' hc' hz hbb HOW HP HB6
           go_wp2_with fail
           go_roundw
           case rel => exact ⟨q + 1,by simp,by omega,HOW7.out,HP7.out,HB7.out⟩
           case measure => simp only [intOf];omega
         · have hqz : ¬ (q : Int) < (x.nd.ins.length : Int):=by omega
           go_wp2_with fail
           go_roundw
           case rel => exact ⟨k + 1,by simp,by omega,HOW.out,HP.out,HB6.out⟩
           case measure => simp only [intOf];omega
      · have hkz : ¬ (k : Int) < (N : Int):=by omega
        clear hk hkl
        go_wp2_with fail
        refine (ways_mid p F c B1 A lg _ f t w4 HP.out HL.out HI.out HFI.out).mono ?_
        rintro e w6 ⟨wm,v,l,fs,rfl,hw,ho,hPm,htm,hbm⟩
        have hbwm : Below w.heap.size w wm:=HB4.out.trans (htm.below (B:=w.heap.size) (fun k hk => by subst hk;exact Nat.le_trans HB1.out.size HFB.out) HB4.out.size)
        have hbw6:=hbwm.trans (hbm.mono hbwm.size)
        rw [HN.out] at hw
        have hlen:=hw.len
        have hsw : 0 < l.length → ∃ g c,v = .slice (some ⟨g,0,none⟩) l.length c ∧ wm.heap.size ≤ g ∧ g < w6.heap.size ∧ SumsW g l.length w6:=SumsW.of ho
        obtain ⟨LA,lc,rfl,hTl,_⟩:=Rw.Ts.of_own (κ:=kindS) (ts:=l) ho
        have hFm : F < w6.heap.size:=Nat.lt_of_lt_of_le hPm.fans.lt hbm.size
        have HSW:=Hd hsw;have HW:=Hd hw;have HPM:=Hd hPm;have HBM:=Hd hbm;have HBW:=Hd hbwm;have HB6:=Hd hbw6;have HTL:=Hd hTl;have HLEN:=Hd hlen;have HFM:=Hd hFm
        clear hsw hw ho hPm htm hbm hbwm hbw6 hTl hlen hFm HOW HP HB4
        dsimp only
        go_wp2_with fail
        refine (refWays_any A0 lg0 c0 f t w6 (HG.out.below HB6.out) HL0.out HI0.out HFI0.out).mono ?_
        rintro e w7 ⟨⟨WB,wc,L,hL,rfl,hs,hbk⟩,hb7⟩
        have el:=HW.out.eq hL
        rw [← el] at hs ⊢
        have HL':=Hd (And.intro hL el);have HWT:=Hd hs.ts;have HBK:=Hd hbk;have HB7:=Hd hb7;clear hL el hs hbk hb7
        dsimp only
        go_wp2_with fail
        refine (plain_any LA l lc w7 (HTL.out.below HB7.out) HLEN.out).mono ?_
        rintro e w8 ⟨⟨v8,rfl,ho8⟩,hb8⟩
        obtain ⟨PA,pc,rfl,hTp,_⟩:=Nx.own_slice (ts:=l) ho8
        have HTP:=Hd hTp;have HB8:=Hd hb8;clear hTp ho8 hb8
        dsimp only
        go_wp2_with fail
        have hl5 : l.length ≤ 200000000:=by have:=HLEN.out;omega
        refine (Nx.same_any PA WB l l pc wc w8 HTP.out (HWT.out.below HB8.out) hl5 hl5).mono ?_
        rintro e w9 ⟨rfl,hb9⟩
        rw [decide_eq_true rfl]
        have hb79:=HB8.out.trans (hb9.mono HB8.out.size)
        have hb69:=HB7.out.trans (hb79.mono HB7.out.size)
        have HM9:=Hd (HBM.out.trans (hb69.mono HBM.out.size));have HW9:=Hd (HWT.out.below hb79)
        have HS9 : Hid (0 < l.length → ∃ g,LA = some ⟨g,0,none⟩ ∧ wm.heap.size ≤ g ∧ g < w6.heap.size ∧ SumsW g l.length w9):=Hd fun h => by
         obtain ⟨g,c9,e9,h1,h2,cur,hr,hc9⟩:=HSW.out h
         injection e9 with e1
         exact ⟨g,e1,h1,h2,cur,hr.below hb69 hr.lt,hc9⟩
        have HN9 : Hid (w6.heap.size ≤ w9.heap.size):=Hd hb69.size
        clear hb9 hb79 hb69 hl5
        dsimp only
        go_wp2_with fail
        go_loopw [16] (fun v wx => ∃ q : Nat,v = .int .i64 q ∧ q ≤ l.length ∧ Below wm.heap.size wm wx ∧ Nx.Ts wx WB l ∧ (0 < l.length → ∃ g,LA = some ⟨g,0,none⟩ ∧ wm.heap.size ≤ g ∧ g < w6.heap.size ∧ SumsW g l.length wx)) (fun v _ => l.length - (intOf v).toNat)
        case atStart => exact ⟨0,rfl,Nat.zero_le _,HM9.out,HW9.out,HS9.out⟩
        case round =>
         obtain ⟨wx,rfl⟩ : ∃ wo,wo = wr:=⟨_,rfl⟩
         obtain ⟨q,rfl,hq,hbx,hwx,hsx⟩:=hrel
         have HMX:=Hd hbx;have HWX:=Hd hwx;have HSX:=Hd hsx;clear hbx hwx hsx HM9 HW9 HS9
         by_cases hql : q < l.length
         · have hqz : (q : Int) < (l.length : Int):=by omega
           have hqb : q < 60000000:=by have:=HLEN.out;omega
           obtain ⟨g,hLA,hg1,hg2,hsg⟩:=HSX.out (by omega)
           obtain ⟨cur,hr,hc'⟩:=hsg
           obtain ⟨z,hz⟩:=hc' q hql
           have q0 : wx.cell? ⟨g,q * 7,none⟩ = some (.int .i64 z):=(hr.cell _).trans hz
           have qf : wx.frozen? ⟨g,q * 7,none⟩ = false:=hr.free _
           have HMY:=Hd (HMX.out.setCell (p:=⟨g,q * 7,none⟩) hg1 (.int .i64 (-9)))
           have HWY:=Hd (nxts_far (o':=q * 7) (u:=.int .i64 (-9)) HWX.out (fun ad e => Nat.lt_of_lt_of_le hg2 (HBK.out ad e)))
           have HSY : Hid (0 < l.length → ∃ g,LA = some ⟨g,0,none⟩ ∧ wm.heap.size ≤ g ∧ g < w6.heap.size ∧ SumsW g l.length (wx.setCell ⟨g,q * 7,none⟩ (.int .i64 (-9)))):=Hd fun _ => ⟨g,hLA,hg1,hg2,SumsW.put (i:=q) ⟨cur,hr,hc'⟩ (-9)⟩
           have HSY' : Hid (0 < l.length → ∃ g',LA = some ⟨g',0,none⟩ ∧ wm.heap.size ≤ g' ∧ g' < w6.heap.size ∧ SumsW g' l.length (wx.setCell ⟨g,q * 7,none⟩ (.int .i64 (-9)))):=Hd fun _ => ⟨g,hLA,hg1,hg2,SumsW.put (i:=q) ⟨cur,hr,hc'⟩ (-9)⟩
           clear hr hc' hz hg1 hg2 HMX HWX HSX HSY
           subst hLA
           go_wp2_with fail
           go_roundw
           case rel => exact ⟨q + 1,by simp,by omega,HMY.out,HWY.out,HSY'.out⟩
           case measure => simp only [intOf];omega
         · have hqz : ¬ (q : Int) < (l.length : Int):=by omega
           have hlgl : lg.length = lg0.length:=by rw [← nds_len,HN.out,nds_len]
           have HGX:=Hd (graph_any p F c B1 A lg fs wx (HPM.out.below HMX.out) HL.out HI.out)
           have HWW:=Hd (HBW.out.trans (HMX.out.mono HBW.out.size))
           have HLL2:=Hd hlgl;clear hlgl
           go_wp2_with fail
           refine HGX.out.mono ?_;rintro e wg ⟨⟨vh,lh,rfl,hnh,hoh⟩,hbg⟩
           have hlh : lh.length = lg0.length:=by rw [← nds_len,hnh,HN.out,nds_len]
           obtain ⟨gh,ch,rfl,howh⟩:=OwnW.of _ hoh (by have:=HPOS.out;omega)
           obtain ⟨AH,cH,eH,hGH,hH1,hH2,hH3⟩:=hoh.gr
           cases eH
           have hsm:=refSame_any (some ⟨gh,0,none⟩) A0 lh lg0 ch c0 wg hGH (HG.out.below (HWW.out.trans (hbg.mono HWW.out.size))) (by have:=HLM.out;omega) HLM.out
           rw [hnh,HN.out,← sameN_yes rfl] at hsm
           have HSM:=Hd hsm;have HOH:=Hd howh;have HBG:=Hd hbg;have HLH:=Hd hlh
           clear hsm howh hbg hoh hGH hH1 hH2 hH3 hnh HGX hlh
           dsimp only
           go_wp2_with fail
           refine HSM.out.mono ?_;rintro e ws ⟨rfl,hbs⟩
           obtain ⟨cur,hr,hcur⟩:=HOH.out.row
           obtain ⟨x0,hx0⟩ : ∃ x0,lh[0]? = some x0:=⟨_,List.getElem?_eq_getElem (by have:=HPOS.out;have:=HLH.out;omega)⟩
           obtain ⟨z0,hz0⟩:=(hcur 0 x0 hx0).1
           rw [Nat.zero_mul] at hz0
           have hr':=hr.below hbs hr.lt
           have q0 : ws.cell? ⟨gh,0,none⟩ = some (.int .u8 (z0 : Nat)):=(hr'.cell _).trans hz0
           have qf : ws.frozen? ⟨gh,0,none⟩ = false:=hr'.free _
           have hxs : Below wx.heap.size wx ws:=HBG.out.trans (hbs.mono HBG.out.size)
           have hxi : Below wx.heap.size wx (ws.setCell ⟨gh,0,none⟩ (.int .u8 77)):=hxs.setCell (p:=⟨gh,0,none⟩) HOH.out.at_.1 (.int .u8 77)
           have hlz : (0 : Int) < (lh.length : Int):=by have:=HPOS.out;have:=HLH.out;omega
           have HXI:=Hd hxi
           clear hr hcur hx0 hz0 hr' hxs hxi hbs HSM HOH
           dsimp only
           go_upto_region 30 with fail
           generalize ws.setCell ⟨gh,0,none⟩ (.int .u8 77) = wi at *
           clear q0 qf
           have HMI:=Hd (HMX.out.trans (HXI.out.mono HMX.out.size));have HWI:=Hd (HWX.out.below HXI.out);have HWZ:=Hd (HWW.out.trans (HXI.out.mono HWW.out.size))
           clear HXI HMX HWX HSX HWW
           have HWAY:=Hd (ways_mid p F c B1 A lg fs f t wi (HPM.out.below HMI.out) HL.out HI.out HFI.out)
           go_wp2_with fail
           refine HWAY.out.mono ?_
           rintro e w10 ⟨wm2,v2,l2,fs2,rfl,hw2,ho2,hP2,ht2,hb2⟩
           rw [HN.out] at hw2
           obtain rfl : l2 = l:=(hw2.eq HL'.out.1).trans HL'.out.2.symm
           obtain ⟨LA2,lc2,rfl,hTl2,_⟩:=Rw.Ts.of_own (κ:=kindS) (ts:=l2) ho2
           have hwm2 : Nx.Ts wm2 WB l2:=nxts_touch HWI.out ht2 (fun ad e => Nat.lt_of_lt_of_le HFM.out (HBK.out ad e))
           have hwz2 : Below w.heap.size w wm2:=HWZ.out.trans (ht2.below (B:=w.heap.size) (fun k hk => by subst hk;exact Nat.le_trans HB1.out.size HFB.out) HWZ.out.size)
           have HP2:=Hd hP2;have HT2:=Hd hTl2;have HWM2:=Hd hwm2;have HWZ2:=Hd hwz2;have HB2:=Hd hb2
           clear hw2 ho2 hP2 ht2 hb2 hTl2 hwm2 hwz2 HWAY HWI HWZ HMI
           dsimp only
           go_wp2_with fail
           refine (plain_any LA2 l2 lc2 w10 HT2.out HLEN.out).mono ?_
           rintro e w11 ⟨⟨v11,rfl,ho11⟩,hb11⟩
           obtain ⟨PA2,pc2,rfl,hTp2,_⟩:=Nx.own_slice (ts:=l2) ho11
           have HTP2:=Hd hTp2;have HB11:=Hd (HB2.out.trans (hb11.mono HB2.out.size));clear hTp2 ho11 hb11
           dsimp only
           go_wp2_with fail
           have hl5 : l2.length ≤ 200000000:=by have:=HLEN.out;omega
           refine (Nx.same_any PA2 WB l2 l2 pc2 wc w11 HTP2.out (HWM2.out.below HB11.out) hl5 hl5).mono ?_
           rintro e w12 ⟨rfl,hb12⟩
           rw [decide_eq_true rfl]
           have HB12:=Hd (HB11.out.trans (hb12.mono HB11.out.size));clear hb12 hl5
           have HG12:=Hd (graph_any p F c B1 A lg fs2 w12 (HP2.out.below HB12.out) HL.out HI.out)
           dsimp only
           go_wp2_with fail
           refine HG12.out.mono ?_;rintro e w13 ⟨⟨vh2,lh2,rfl,hnh2,hoh2⟩,hbg2⟩
           have hlh2 : lh2.length = lg0.length:=by rw [← nds_len,hnh2,HN.out,nds_len]
           obtain ⟨AH2,cH2,rfl,hGH2,_,_,_⟩:=hoh2.gr
           have hb13:=HB12.out.trans (hbg2.mono HB12.out.size)
           have hsm:=refSame_any AH2 A0 lh2 lg0 cH2 c0 w13 hGH2 (HG.out.below (HWZ2.out.trans (hb13.mono HWZ2.out.size))) (by have:=HLM.out;omega) HLM.out
           rw [hnh2,HN.out,← sameN_yes rfl] at hsm
           have HSM:=Hd hsm;have HB13:=Hd (HWZ2.out.trans (hb13.mono HWZ2.out.size))
           clear hsm hoh2 hGH2 hnh2 hbg2 hb13 HG12 hlh2
           dsimp only
           go_wp2_with fail
           refine HSM.out.mono ?_;rintro e w14 ⟨rfl,hb14⟩
           have HB14:=Hd (HB13.out.trans (hb14.mono HB13.out.size));clear hb14
           dsimp only
           go_wp2_with fail
           refine (plWorks_any w14 (HT.out.below HB14.out)).mono ?_;rintro e w9 ⟨rfl,hb⟩
           have HBE:=Hd (HB14.out.trans (hb.mono HB14.out.size));clear hb
           dsimp only
           go_wp2_with fail
           go_ret
           exact ⟨rfl,HBE.out⟩
   · have hnew:=new_bad AO lo cO w1 (HT.out.below HB1.out) HGO.out (by have:=HL0.out;have:=HLL.out;omega) (by rw [HNO.out];exact HI0.out) HO.out (by rw [HNO.out];exact hE)
     rw [HNO.out] at hnew
     have hrc:=fun wn (hn : Below w.heap.size w wn) => refCheck_any A0 lg0 c0 wn (HG.out.below hn) HLM.out
     unfold ChkD at hrc
     have hez : ((checkR (nds lg0)).2 != 0) = true:=by simpa using hE
     generalize (checkR (nds lg0)).2 = E at *
     have hee : (E != E) = false:=by simp
     have HNEW:=Hd hnew;have HRC:=Hd hrc;clear hnew hE hrc
     go_wp2_with fail
     refine HNEW.out.mono ?_
     rintro e wn ⟨rfl,hbn⟩
     have HBN:=Hd (HB1.out.trans (hbn.mono HB1.out.size));clear hbn HNEW
     dsimp only
     go_wp2_with fail
     refine (HRC.out wn HBN.out).mono ?_;rintro e w3 ⟨rfl,hb3⟩
     have HB3:=Hd (HBN.out.trans (hb3.mono HBN.out.size));clear hb3
     dsimp only
     go_wp2_with fail
     refine (plWorks_any w3 (HT.out.below HB3.out)).mono ?_;rintro e w9 ⟨rfl,hb⟩
     have HBE:=Hd (HB3.out.trans (hb.mono HB3.out.size));clear hb
     dsimp only
     go_wp2_with fail
     go_ret
     exact ⟨rfl,HBE.out⟩

set_option maxRecDepth 100000 in
theorem lifted (os : Os) (started : os.Started) (H : Type) (enc : TypeId × Value → H) :
 ReturnsInHanded {} Tryz.checked os 9 .any (fun w args => (Rows.pathsWaysSpec.pre enc Tryz.prog Tryz.f9 [] false w args ∧ laidMetH Tryz.prog laidT w) ∧ sizedMet enc Tryz.prog Tryz.f9 (OpenSpec.ofChange Rows.pathsWaysSpec) false w args) (Rows.pathsWaysSpec.post enc Tryz.prog Tryz.f9 false true false false):=by
 refine returnsInHanded_of_change_and (C:=Tryz.checked) (X:=fun w _ => laidMetH Tryz.prog laidT w) (fun _ _ _ hh h => h.of_heap hh) ownKnob_none started (by kernel_rfl) Tryz.func9
  (ChangeSpec.witness_shaped (enc:=enc) (C:=Tryz.checked) (os:=os) (X:=fun w _ => laidMetH Tryz.prog laidT w) false (World.doorLaid Tryz.prog 400 os) #[.slice none 0 0,.int .i64 0,.int .i64 0] 8 rfl (World.shaped_of_RefB (by kernel_rfl) (by kernel_rfl)) (by kernel_rfl) (by kernel_rfl) (by kernel_rfl) (door_met os _)) ?_
 intro W base args ds gs before hval0 hW hcnd hsz0 hL _
 have hTab:=tab_of_laid hL
 have hval : ∀ (j : Nat) t v,Tryz.f9.params[j]? = some t → args[j]? = some v → Value.okWide Tryz.prog W .any base t v:=hval0
 have hW':=hW
 obtain ⟨p,q,hA0,hV,rfl,hfz,hnd⟩:=hW
 have hA : DataW.TrodAll enc Tryz.prog W 0 (fun _ => true) true Tryz.f9.params.toList args.toList ds p:=hA0
 have hsz : (DataW.weightsEach Tryz.prog (Tryz.f9.params.toList ++ Rows.pathsWaysSpec.plain.varTypes Tryz.prog) (ds ++ gs)).all (· ≤ reachBytes) = true:=hsz0
 rw [Tryz.params9] at hA hval hsz
 obtain ⟨v0,vs0,d0,ds0,p0,q0,hargs,rfl,rfl,h0,r0⟩:=trodAll_cons hA
 obtain ⟨v1,vs1,d1,ds1,p1,q1,rfl,rfl,rfl,h1,r1⟩:=trodAll_cons r0
 obtain ⟨v2,vs2,d2,ds2,p2,q2,rfl,rfl,rfl,h2,r2⟩:=trodAll_cons r1
 obtain ⟨rfl,rfl,rfl⟩:=trodAll_nil r2
 obtain rfl : args = #[v0,v1,v2]:=by cases args;simp_all
 obtain ⟨rfl,rfl⟩:=trodVars_none hV
 obtain ⟨A0,l0,c0,rfl,hG0,hgc0,hgm0,hgn0⟩:=open_graph (hval 0 23 v0 rfl rfl) h0
 obtain ⟨a1,rfl,rfl,rfl,w1⟩:=open_int Tryz.underlying3 (hval 1 3 v1 rfl rfl) h1
 have b1:=i64_wf w1
 obtain ⟨a2,rfl,rfl,rfl,w2⟩:=open_int Tryz.underlying3 (hval 2 3 v2 rfl rfl) h2
 have b2:=i64_wf w2
 clear hA0 hval0 hsz0
 refine (walk A0 l0 c0 a1 a2 W hTab hG0 (Nat.le_trans hgc0 hgm0) ⟨hgc0,hgm0⟩ hgn0).mono fun e W' ⟨he,hg⟩ => ?_
 subst he
 exact ⟨_,rfl,law_post progLaid hW' rfl (by rw [Tryz.params9];intro t ht;simp at ht;rcases ht with rfl | rfl <;> exact ⟨by kernel_rfl,of_decide_eq_true (by kernel_rfl)⟩) rfl Tryz.underlying4 rfl hg⟩

theorem over : Rows.pathsWaysRow.holds Tryz.pinned (OpenSpec.ofChange Rows.pathsWaysSpec) :=
 OpenClaim.holds_of_wide 9 Tryz.f9 rfl rfl rfl rfl rfl rfl rfl ⟨rfl,rfl,rfl,rfl,rfl⟩ rfl rfl rfl rfl rfl (by kernel_rfl) Tryz.func9 (by kernel_rfl)
  (of_decide_eq_true (by kernel_rfl)) (by unfold Func.isWrapper;first | (rw [if_pos (by decide +kernel)];kernel_rfl) | (rw [if_neg (by decide +kernel)];exact ⟨rfl,rfl⟩))
  (fun os started H enc _ => lifted os started H enc)

theorem proved : Rows.PathsWaysCardSaid :=
 Claim7.holds_tied_plain_at .later [] [.data] true Rows.pathsWaysCard.stood.harness false over (fun _ h => by cases h) (by kernel_rfl) (fun _ h => by cases h) pathsWays_row_tie rfl ⟨rfl,rfl⟩ (by kernel_rfl) rfl
  (fun f fn hf hfn => by
    obtain rfl : f = 9:=Option.some.inj ((show Tryz.prog.funcNamed "tailrace/tailracelaw11.PathsWays" = some 9 by kernel_rfl).symm.trans hf) |>.symm
    obtain rfl : fn = Tryz.f9:=(Option.some.inj (Tryz.func9.symm.trans hfn)).symm
    refine ⟨by kernel_rfl,fun j t ht => ?_⟩
    rw [Tryz.params9] at ht
    have hm:=Array.mem_of_getElem? ht
    simp only [List.mem_toArray,List.mem_cons,List.not_mem_nil,or_false] at hm
    first
     | (rcases hm with rfl | rfl | rfl <;> (first | exact si_graph | exact si_int | exact si_u8 | exact si_stamp))
     | cases hm)
  (by kernel_rfl)
end pathsWays
end Go.Proofs.YtonelpnhoiajgaaGreatDoor
