/- ImpliedRows: in whatever order, and however often, places stand, the frontier is the same; of two rows together it is that in both. -/
import Derived.Test.YtonelpnhoiajgaaGreatDoorHd
import Derived.Test.YtonelpnhoiajgaaGreatDoorCa19
import Derived.Test.YtonelpnhoiajgaaGreatDoorCa14
namespace Go.Proofs.YtonelpnhoiajgaaGreatDoor
set_option linter.unusedSimpArgs false
open Go.ChangeShapes Go.WideShapes Go.ChangeAt Go.RowKit Go.BigFrame
set_option linter.unusedVariables false
set_option maxRecDepth 100000
theorem mem_yxy {α : Type} {p : α} {xs ys : List α} : p ∈ ys ++ xs ++ ys ↔ p ∈ xs ∨ p ∈ ys:=by
 simp only [List.mem_append]
 constructor
 · rintro ((h | h) | h)
   · exact .inr h
   · exact .inl h
   · exact .inr h
 · rintro (h | h)
   · exact .inl (.inr h)
   · exact .inr h
theorem place_app {w : World} {ops : Array Oper} {rest : List Oper} {o : Oper} {a : Act} {Q : Exit → Act → World → Prop} (hgd : o.guard = none) (s x : Operand)
 (ho : o.op = .call { callee:=.builtin .append,args:=#[s,x],argTypes:=#[24,24] })
 (base : Nat) (v : Value) (n : Nat) (ts : List Pl) (hs : a.eval s = v) (hown : w.ownsRow base 50 7 v n (Rw.row kindC ts))
 (A : Option Addr) (c : Nat) (ys : List Pl) (hx : a.eval x = .slice A ys.length c) (hA : (ys.length ≤ c ∧ c ≤ maxLen) ∧ (A = none → c = 0)) (hb : Rw.Ts kindC w A ys)
 (hle : n + ys.length ≤ 60) (hbase : base ≤ w.heap.size)
 (h : ∀ v' w',w'.ownsRow base 50 7 v' (n + ys.length) (Rw.row kindC (ts ++ ys)) → w.grownBy w' v.ownBlock → wpList Tryz.prog ops Q rest (a.put o.dst v') w') : wpList Tryz.prog ops Q (o :: rest) a w :=
 Rw.append_own kindC 50 24 Tryz.underlying24 infoPlace rfl hgd s x ho base v n ts hs hown A c ys hx (fun e => ⟨hA.2 e,List.eq_nil_of_length_eq_zero (by have:=hA.2 e;have:=hA.1.1;omega)⟩) hb (by unfold maxLen;omega) (by omega) hbase h
namespace impliedRows
set_option maxHeartbeats 16000000 in
theorem walk (A0 : Option Addr) (lg0 : List Gn) (c0 : Nat) (PA : Option Addr) (xs : List Pl) (pc : Nat) (QA : Option Addr) (ys : List Pl) (qc : Nat) (node : Int) (w : World) (hT : Tab w) (hG : Gr w A0 lg0) (hl : lg0.length ≤ maxLen) (hc : lg0.length ≤ c0 ∧ c0 ≤ maxLen) (hn0 : A0 = none → c0 = 0)
 (hPT : Rw.Ts kindC w PA xs) (hQT : Rw.Ts kindC w QA ys) (hxl : xs.length ≤ pc ∧ pc ≤ maxLen) (hyl : ys.length ≤ qc ∧ qc ≤ maxLen) (hpn : PA = none → pc = 0) (hqn : QA = none → qc = 0) :
 Calls Tryz.prog 6 #[.slice A0 lg0.length c0,.slice PA xs.length pc,.slice QA ys.length qc,.int .i64 node] w fun e w' => e = .returned (.bool true) ∧ Below w.heap.size w w':=by
 have hfew:=fewI_any A0 lg0 c0 PA xs.length pc 15 w hG hl (Nat.le_trans hxl.1 hxl.2)
 have hyq : ys.length ≤ maxLen:=Nat.le_trans hyl.1 hyl.2
 unfold maxLen at hyq
 have HT:=Hd hT;have HG:=Hd hG;have HC:=Hd hc;have HN0:=Hd hn0;have HP:=Hd hPT;have HQ:=Hd hQT;have HPN:=Hd (And.intro hxl hpn);have HQN:=Hd (And.intro hyl hqn);have HFEW:=Hd hfew
 clear hT hG hc hn0 hPT hQT hxl hyl hpn hqn hfew hl
 go_enter Tryz.func6,Tryz.ntmps6
 go_wp2_with fail
 refine HFEW.out.mono ?_;rintro e w2 ⟨⟨bb,rfl,hb⟩,rfl⟩
 clear HFEW
 dsimp only
 cases bb with
 | false =>
   clear hb
   go_wp2_with fail
   refine (impWorks_any w HT.out).mono ?_;rintro e w99 ⟨rfl,hb99⟩
   have HB99:=Hd ((Below.refl w.heap.size w).trans (hb99.mono (Below.refl w.heap.size w).size));clear hb99
   dsimp only
   go_wp2_with fail
   go_ret
   exact ⟨rfl,HB99.out⟩
 | true =>
   obtain ⟨hb12,hx15⟩:=hb rfl
   obtain ⟨hl14,hI0⟩:=fewI_nds hb12
   have HL0:=Hd hl14;have HI0:=Hd hI0;have HX15:=Hd hx15;clear hb hb12 hl14 hI0
   by_cases hy15 : 15 < ys.length
   · have hyz : (15 : Int) < (ys.length : Int):=by omega
     go_wp2_with fail
     refine (impWorks_any w HT.out).mono ?_;rintro e w99 ⟨rfl,hb99⟩
     have HB99:=Hd ((Below.refl w.heap.size w).trans (hb99.mono (Below.refl w.heap.size w).size));clear hb99
     dsimp only
     go_wp2_with fail
     go_ret
     exact ⟨rfl,HB99.out⟩
   · have hyz : ¬ (15 : Int) < (ys.length : Int):=by omega
     have HY15:=Hd (show ys.length ≤ 15 by omega)
     by_cases hE : (checkR (nds lg0)).2 = 0
     · have HFI0:=Hd (fine_of (checkR_zero hE).2.1)
       have HNEW:=Hd (new_good A0 lg0 c0 w HT.out HG.out (by have:=HL0.out;omega) HI0.out HC.out HN0.out hE)
       clear hE
       go_wp2_with fail
       refine HNEW.out.mono ?_
       rintro e w1 ⟨⟨p,F,A,c,lg,rfl,hn,hP⟩,hb1⟩
       have hk1 : WkI w w1 p F A c lg w.heap.size:=⟨⟨_,hP⟩,Nat.le_refl _,hb1⟩
       have hln : lg.length = lg0.length:=by rw [← nds_len,hn,nds_len]
       have hll : lg.length ≤ 14:=hln ▸ HL0.out
       have HK1:=Hd hk1;have HL:=Hd hll;have HI : Hid (∀ x ∈ nds lg,x.ins.length ≤ 40):=Hd (by rw [hn];exact HI0.out)
       have HFI : Hid (Fine (nds lg)):=Hd (by rw [hn];exact HFI0.out)
       clear hn hP hb1 hk1 hll hln HNEW
       dsimp only
       go_wp2_with fail
       refine (HK1.out.front HL.out HI.out HFI.out pc node (HP.out.below HK1.out.below) (by have:=HX15.out;omega)).mono ?_
       rintro e w2 ⟨⟨v2,f2,rfl,hf2,ho2⟩,hk2,ht2⟩
       have HK2:=Hd hk2;have HF2:=Hd hf2;have HO2:=Hd ho2;clear hk2 hf2 ho2 ht2
       dsimp only
       go_wp2_with fail
       refine (HK2.out.front HL.out HI.out HFI.out qc node (HQ.out.below HK2.out.below) (by have:=HY15.out;omega)).mono ?_
       rintro e w3 ⟨⟨v3,f3,rfl,hf3,ho3⟩,hk3,ht3⟩
       have HK3:=Hd hk3;have HF3:=Hd hf3;have HO3:=Hd ho3;have HO2b:=Hd (HK2.out.own ht3 HO2.out (by decide));clear hk3 hf3 ho3 ht3 HK2 HO2 HK1
       dsimp only
       cases hok2 : okF (nds lg) xs node with
       | false =>
         simp only [show erF false = 2 from rfl]
         clear hok2
         go_wp2_with fail
         refine (impWorks_any w3 (HT.out.below HK3.out.below)).mono ?_;rintro e w99 ⟨rfl,hb99⟩
         have HB99:=Hd (HK3.out.below.trans (hb99.mono HK3.out.below.size));clear hb99
         dsimp only
         go_wp2_with fail
         go_ret
         exact ⟨rfl,HB99.out⟩
       | true =>
         cases hok3 : okF (nds lg) ys node with
         | false =>
           simp only [show erF false = 2 from rfl,show erF true = 0 from rfl]
           clear hok2 hok3
           go_wp2_with fail
           refine (impWorks_any w3 (HT.out.below HK3.out.below)).mono ?_;rintro e w99 ⟨rfl,hb99⟩
           have HB99:=Hd (HK3.out.below.trans (hb99.mono HK3.out.below.size));clear hb99
           dsimp only
           go_wp2_with fail
           go_ret
           exact ⟨rfl,HB99.out⟩
         | true =>
           have HOK2:=Hd hok2;have HOK3:=Hd hok3;clear hok2 hok3
           simp only [show erF true = 0 from rfl]
           have hqx:=HQ.out.below HK3.out.below
           have hpx:=HP.out.below HK3.out.below
           have hle1 : 0 + ys.length ≤ 60:=by have:=HY15.out;omega
           go_upto_region 12 with (at_builtin;refine place_app rfl _ _ rfl w3.heap.size (.slice none 0 0) 0 [] rfl (World.ownsRow_nil _ _ _ _) QA qc ys rfl HQN.out hqx hle1 (Nat.le_refl _) ?_;intro v4 w4 hv4 hg4;have hb4 : Below w3.heap.size w3 w4:=Rw.own_below (World.ownsRow_nil w3 w3.heap.size 50 7) hg4 (Below.refl _ _) (Nat.le_refl _);have HV4:=Hd hv4;have HB4:=Hd hb4;have HQX:=Hd hqx;have HP4:=Hd (hpx.below hb4);clear hv4 hg4 hb4 hpx hqx hle1)
           have hp4:=HP4.out;have hle2 : 0 + ys.length + xs.length ≤ 60:=by have:=HY15.out;have:=HX15.out;omega
           go_upto_region 13 with (at_builtin;refine place_app rfl _ _ rfl w3.heap.size v4 _ ([] ++ ys) rfl HV4.out PA pc xs rfl HPN.out hp4 hle2 HB4.out.size ?_;intro v5 w5 hv5 hg5;have hb5 : Below w3.heap.size w3 w5:=Rw.own_below HV4.out hg5 HB4.out HB4.out.size;have HV5:=Hd hv5;have HB5:=Hd hb5;clear hv5 hg5 hb5 hp4 hle2)
           have hq5:=HQX.out.below HB5.out
           have hle3 : 0 + ys.length + xs.length + ys.length ≤ 60:=by have:=HY15.out;have:=HX15.out;omega
           go_wp2_with (at_builtin;refine place_app rfl _ _ rfl w3.heap.size v5 _ ([] ++ ys ++ xs) rfl HV5.out QA qc ys rfl HQN.out hq5 hle3 HB5.out.size ?_;intro v6 w6 hv6 hg6;have hb6 : Below w3.heap.size w3 w6:=Rw.own_below HV5.out hg6 HB5.out HB5.out.size;have hrw : [] ++ ys ++ xs ++ ys = ys ++ xs ++ ys:=rfl;have hln : 0 + ys.length + xs.length + ys.length = (ys ++ xs ++ ys).length:=(by simp only [List.length_append];omega);rw [hrw,hln] at hv6;obtain ⟨A6,c6,rfl,hT6,-⟩:=Rw.Ts.of_own hv6;have HT6:=Hd hT6;have HB6:=Hd hb6;clear hv6 hT6 hb6 hg6 hq5 hrw hln hle3)
           have hk6:=HK3.out.below' HB6.out
           have hokz : okF (nds lg) (ys ++ xs ++ ys) node = true:=by
            have h2:=Bool.and_eq_true_iff.1 HOK2.out
            have h3:=Bool.and_eq_true_iff.1 HOK3.out
            exact Bool.and_eq_true_iff.2 ⟨h2.1,by rw [List.all_append,List.all_append,h2.2,h3.2];rfl⟩
           have hfr:=hk6.front HL.out HI.out HFI.out c6 node HT6.out (by have:=HX15.out;have:=HY15.out;simp only [List.length_append];omega)
           rw [hokz,show (ys ++ xs ++ ys).length = ys.length + (xs.length + ys.length) by simp only [List.length_append,Nat.add_assoc]] at hfr
           have HFR:=Hd hfr;have HK6:=Hd hk6;have HOKZ:=Hd hokz;clear hfr hk6 hokz
           refine HFR.out.mono ?_
           rintro e w7 ⟨⟨v7,f7,rfl,hf7,ho7⟩,hk7,ht7⟩
           obtain ⟨A7,c7,rfl,hs7⟩:=Slc.of_own ho7
           have ho2:=HK6.out.own ht7 (HK3.out.own (Touch.of_below HB6.out) HO2b.out (by decide)) (by decide)
           have ho3:=HK6.out.own ht7 (Rw.own_kept HO3.out HB6.out) (by decide)
           obtain ⟨A2,c2,rfl,hs2⟩:=Slc.of_own ho2
           obtain ⟨A3,c3,rfl,hs3⟩:=Slc.of_own ho3
           clear HFR
           have HS7:=Hd hs7;have HS2:=Hd hs2;have HS3:=Hd hs3;have HK7:=Hd hk7;have HF7:=Hd hf7
           clear hs7 hs2 hs3 hk7 hf7 ht7 ho7 ho2 ho3 HO2b HO3
           obtain ⟨n,y,hnn,hnl,hgy,hxf⟩:=okF_yes HOK2.out
           subst hnn
           obtain ⟨_,_,_,_,_,hyf⟩:=okF_yes HOK3.out
           obtain ⟨_,_,_,_,_,hzf⟩:=okF_yes HOKZ.out
           have hr2:=HF2.out.yes HOK2.out;have hr3:=HF3.out.yes HOK3.out;have hr7:=HF7.out.yes HOKZ.out
           rw [Int.toNat_natCast] at hr2 hr3 hr7
           have hal : Alike f2 f3:=hr2.alike HFI.out hxf hyf hgy hr3
           have heq : f7 = bothS f2 f3:=hr2.both HFI.out hxf hyf hgy hr3 hr7 fun p => mem_yxy
           have hl2:=HF2.out.len;have hl3:=HF3.out.len;have hl7:=HF7.out.len
           have hbo:=bothC HS2.out HS3.out (by have:=HX15.out;omega) (by have:=HY15.out;omega)
           rw [decide_eq_true hal,show ifS true (bothS f2 f3) = bothS f2 f3 from rfl,← heq,show errS true = 0 from rfl] at hbo
           have HBO:=Hd hbo
           have HL7:=Hd (show f7.length ≤ 200000000 by have:=HX15.out;have:=HY15.out;simp only [List.length_append] at hl7;omega)
           clear hbo hal heq hl2 hl3 hl7 hr2 hr3 hr7 hgy hnl hxf hyf hzf HF2 HF3 HF7
           dsimp only
           go_wp2_with fail
           refine HBO.out.mono ?_
           rintro e w8 ⟨⟨A8,c8,rfl,hs8⟩,hb8⟩
           have HS8:=Hd hs8;have HB8:=Hd hb8;clear hs8 hb8 HBO
           dsimp only
           go_wp2_with fail
           refine (refSameW (HS7.out.below HB8.out) HS8.out HL7.out HL7.out (decide_eq_true rfl) w8 (Below.refl _ _)).mono ?_
           rintro e w9 ⟨rfl,hb9⟩
           have HB9:=Hd (HK7.out.below.trans ((HB8.out.mono HK7.out.below.size).trans (hb9.mono (HK7.out.below.trans (HB8.out.mono HK7.out.below.size)).size)));clear hb9
           dsimp only
           go_wp2_with fail
           refine (impWorks_any w9 (HT.out.below HB9.out)).mono ?_;rintro e w99 ⟨rfl,hb99⟩
           have HB99:=Hd (HB9.out.trans (hb99.mono HB9.out.size));clear hb99
           dsimp only
           go_wp2_with fail
           go_ret
           exact ⟨rfl,HB99.out⟩
     · have hnew:=new_bad A0 lg0 c0 w HT.out HG.out (by have:=HL0.out;omega) HI0.out HC.out hE
       have hez : ((checkR (nds lg0)).2 != 0) = true:=by simpa using hE
       generalize (checkR (nds lg0)).2 = E at *
       have HNEW:=Hd hnew;clear hnew hE
       go_wp2_with fail
       refine HNEW.out.mono ?_
       rintro e w1 ⟨rfl,hb1⟩
       have HB1:=Hd hb1;clear hb1 HNEW
       dsimp only
       go_wp2_with fail
       refine (impWorks_any w1 (HT.out.below HB1.out)).mono ?_;rintro e w99 ⟨rfl,hb99⟩
       have HB99:=Hd (HB1.out.trans (hb99.mono HB1.out.size));clear hb99
       dsimp only
       go_wp2_with fail
       go_ret
       exact ⟨rfl,HB99.out⟩

set_option maxRecDepth 100000 in
theorem lifted (os : Os) (started : os.Started) (H : Type) (enc : TypeId × Value → H) :
 ReturnsInHanded {} Tryz.checked os 6 .any (fun w args => (Rows.impliedRowsSpec.pre enc Tryz.prog Tryz.f6 [] false w args ∧ laidMetH Tryz.prog laidT w) ∧ sizedMet enc Tryz.prog Tryz.f6 (OpenSpec.ofChange Rows.impliedRowsSpec) false w args) (Rows.impliedRowsSpec.post enc Tryz.prog Tryz.f6 false true false false):=by
 refine returnsInHanded_of_change_and (C:=Tryz.checked) (X:=fun w _ => laidMetH Tryz.prog laidT w) (fun _ _ _ hh h => h.of_heap hh) ownKnob_none started (by kernel_rfl) Tryz.func6
  (ChangeSpec.witness_shaped (enc:=enc) (C:=Tryz.checked) (os:=os) (X:=fun w _ => laidMetH Tryz.prog laidT w) false (World.doorLaid Tryz.prog 400 os) #[.slice none 0 0,.slice none 0 0,.slice none 0 0,.int .i64 0] 8 rfl (World.shaped_of_RefB (by kernel_rfl) (by kernel_rfl)) (by kernel_rfl) (by kernel_rfl) (by kernel_rfl) (door_met os _)) ?_
 intro W base args ds gs before hval0 hW hcnd hsz0 hL _
 have hTab:=tab_of_laid hL
 have hval : ∀ (j : Nat) t v,Tryz.f6.params[j]? = some t → args[j]? = some v → Value.okWide Tryz.prog W .any base t v:=hval0
 have hW':=hW
 obtain ⟨p,q,hA0,hV,rfl,hfz,hnd⟩:=hW
 have hA : DataW.TrodAll enc Tryz.prog W 0 (fun _ => true) true Tryz.f6.params.toList args.toList ds p:=hA0
 have hsz : (DataW.weightsEach Tryz.prog (Tryz.f6.params.toList ++ Rows.impliedRowsSpec.plain.varTypes Tryz.prog) (ds ++ gs)).all (· ≤ reachBytes) = true:=hsz0
 rw [Tryz.params6] at hA hval hsz
 obtain ⟨v0,vs0,d0,ds0,p0,q0,hargs,rfl,rfl,h0,r0⟩:=trodAll_cons hA
 obtain ⟨v1,vs1,d1,ds1,p1,q1,rfl,rfl,rfl,h1,r1⟩:=trodAll_cons r0
 obtain ⟨v2,vs2,d2,ds2,p2,q2,rfl,rfl,rfl,h2,r2⟩:=trodAll_cons r1
 obtain ⟨v3,vs3,d3,ds3,p3,q3,rfl,rfl,rfl,h3,r3⟩:=trodAll_cons r2
 obtain ⟨rfl,rfl,rfl⟩:=trodAll_nil r3
 obtain rfl : args = #[v0,v1,v2,v3]:=by cases args;simp_all
 obtain ⟨rfl,rfl⟩:=trodVars_none hV
 obtain ⟨A0,l0,c0,rfl,hG0,hgc0,hgm0,hgn0⟩:=open_graph (hval 0 23 v0 rfl rfl) h0
 obtain ⟨A1,l1,c1,rfl,hG1,hw1,hgc1,hgm1,hgn1⟩:=open_places (hval 1 24 v1 rfl rfl) h1
 obtain ⟨A2,l2,c2,rfl,hG2,hw2,hgc2,hgm2,hgn2⟩:=open_places (hval 2 24 v2 rfl rfl) h2
 obtain ⟨a3,rfl,rfl,rfl,w3⟩:=open_int Tryz.underlying3 (hval 3 3 v3 rfl rfl) h3
 have b3:=i64_wf w3
 clear hA0 hval0 hsz0
 refine (walk A0 l0 c0 A1 l1 c1 A2 l2 c2 a3 W hTab hG0 (Nat.le_trans hgc0 hgm0) ⟨hgc0,hgm0⟩ hgn0 hG1 hG2 ⟨hgc1,hgm1⟩ ⟨hgc2,hgm2⟩ hgn1 hgn2).mono fun e W' ⟨he,hg⟩ => ?_
 subst he
 exact ⟨_,rfl,law_post progLaid hW' rfl (by rw [Tryz.params6];intro t ht;simp at ht;rcases ht with rfl | rfl | rfl <;> exact ⟨by kernel_rfl,of_decide_eq_true (by kernel_rfl)⟩) rfl Tryz.underlying4 rfl hg⟩

theorem over : Rows.impliedRowsRow.holds Tryz.pinned (OpenSpec.ofChange Rows.impliedRowsSpec) :=
 OpenClaim.holds_of_wide 6 Tryz.f6 rfl rfl rfl rfl rfl rfl rfl ⟨rfl,rfl,rfl,rfl,rfl⟩ rfl rfl rfl rfl rfl (by kernel_rfl) Tryz.func6 (by kernel_rfl)
  (of_decide_eq_true (by kernel_rfl)) (by unfold Func.isWrapper;first | (rw [if_pos (by decide +kernel)];kernel_rfl) | (rw [if_neg (by decide +kernel)];exact ⟨rfl,rfl⟩))
  (fun os started H enc _ => lifted os started H enc)

theorem proved : Rows.ImpliedRowsCardSaid :=
 Claim7.holds_tied_plain_at .later [] [.data] true Rows.impliedRowsCard.stood.harness false over (fun _ h => by cases h) (by kernel_rfl) (fun _ h => by cases h) impliedRows_row_tie rfl ⟨rfl,rfl⟩ (by kernel_rfl) rfl
  (fun f fn hf hfn => by
    obtain rfl : f = 6:=Option.some.inj ((show Tryz.prog.funcNamed "tailrace/tailracelaw15.ImpliedRows" = some 6 by kernel_rfl).symm.trans hf) |>.symm
    obtain rfl : fn = Tryz.f6:=(Option.some.inj (Tryz.func6.symm.trans hfn)).symm
    refine ⟨by kernel_rfl,fun j t ht => ?_⟩
    rw [Tryz.params6] at ht
    have hm:=Array.mem_of_getElem? ht
    simp only [List.mem_toArray,List.mem_cons,List.not_mem_nil,or_false] at hm
    first
     | (rcases hm with rfl | rfl | rfl | rfl <;> (first | exact si_graph | exact si_int | exact si_u8 | exact si_stamp | exact si_places | exact si_place))
     | cases hm)
  (by kernel_rfl)
end impliedRows
end Go.Proofs.YtonelpnhoiajgaaGreatDoor
