import Derived.Test.YtonelpnhoiajgaaGreatDoorHd
import Derived.Test.YtonelpnhoiajgaaGreatDoorCa6
namespace Go.Proofs.YtonelpnhoiajgaaGreatDoor
set_option linter.unusedSimpArgs false
set_option linter.unusedVariables false
section
open Go.ChangeShapes Go.WideShapes Go.ChangeAt Go.RowKit Go.BigFrame
set_option maxRecDepth 100000
def pM (m0 m1 m2 : Int) (j : Nat) : Int:=if j = 0 then m0 else if j = 1 then m1 else if j = 2 then m2 else 0
def Sm.part (fr tt : Int) (K : Nat) (m0 m1 m2 : Int) (k : Nat) : Sm :=
 ⟨fr,tt,((min k K : Nat) : Int),if min k K = 0 then 0 else pM m0 m1 m2 (min k K - 1),if K < k then pM m0 m1 m2 K else 0,if K + 1 < k then pM m0 m1 m2 (K + 1) else 0,if K + 2 < k then pM m0 m1 m2 (K + 2) else 0⟩
set_option maxHeartbeats 8000000 in
theorem refThen_0 (a b : Sm) (w : World) (h : a.R) (h2 : b.R) (hd : a.to = b.fr) (hK : min a.kp b.kp = 0) : Calls Tryz.prog 111 #[a.v,b.v] w fun e w' => e = .returned (.tuple #[(a.th b).v,.bool (a.thB b)]) ∧ Below w.heap.size w w':=by
 have hno:=Sm.th_no (a:=a) (b:=b)
 have hyes:=Sm.th_yes (a:=a) (b:=b)
 obtain ⟨n,hnn⟩ : ∃ n : Nat,b.to = n:=⟨b.to.toNat,by unfold Sm.R at h2;omega⟩
 have hn3 : n ≤ 3:=by unfold Sm.R at h2;omega
 have hKn : 0 ≤ n:=by unfold Sm.R at h2;omega
 have m3 : a.M b 3 = 0:=Sm.M_out (by omega)
 have m4 : a.M b 4 = 0:=Sm.M_out (by omega)
 have m5 : a.M b 5 = 0:=Sm.M_out (by omega)
 have hs : a.seq b = ⟨a.fr,b.to,0,0,a.M b 0,a.M b 1,a.M b 2⟩:=by unfold Sm.seq;rw [hK];simp [m3,m4,m5]
 rw [hs] at hyes
 unfold Sm.thenOk at hno hyes
 clear hs m3 m4 m5
 have y0 : n ≤ 0 → a.M b 0 = 0:=fun hh => Sm.M_out (by omega)
 have y1 : n ≤ 1 → a.M b 1 = 0:=fun hh => Sm.M_out (by omega)
 have y2 : n ≤ 2 → a.M b 2 = 0:=fun hh => Sm.M_out (by omega)
 have v0 : 0 < n → a.M b 0 = if (0 : Int) < b.kp then a.N 0 + b.N 0 else b.N 0:=fun hl => by unfold Sm.M;rw [if_pos (by rw [hnn];omega)]
 have v1 : 1 < n → a.M b 1 = if (1 : Int) < b.kp then a.N 1 + b.N 1 else b.N 1:=fun hl => by unfold Sm.M;rw [if_pos (by rw [hnn];omega)]
 have v2 : 2 < n → a.M b 2 = if (2 : Int) < b.kp then a.N 2 + b.N 2 else b.N 2:=fun hl => by unfold Sm.M;rw [if_pos (by rw [hnn];omega)]
 have nb:=And.intro (And.intro (Sm.N_R h 0) (And.intro (Sm.N_R h 1) (Sm.N_R h 2))) (And.intro (Sm.N_R h2 0) (And.intro (Sm.N_R h2 1) (Sm.N_R h2 2)))
 have hbk : b.kp ≤ a.to:=by unfold Sm.R at h2;omega
 have ca0:=fun (hl : (0 : Int) < b.kp) w => refAt_any a 0 w h (by omega)
 have ca1:=fun (hl : (1 : Int) < b.kp) w => refAt_any a 1 w h (by omega)
 have ca2:=fun (hl : (2 : Int) < b.kp) w => refAt_any a 2 w h (by omega)
 have cb0:=fun (hl : 0 < n) w => refAt_any b 0 w h2 (by rw [hnn];omega)
 have cb1:=fun (hl : 1 < n) w => refAt_any b 1 w h2 (by rw [hnn];omega)
 have cb2:=fun (hl : 2 < n) w => refAt_any b 2 w h2 (by rw [hnn];omega)
 simp only [Int.natCast_zero,Int.natCast_one] at ca0 ca1 cb0 cb1
 rw [show ((2 : Nat) : Int) = 2 from rfl] at ca2 cb2
 generalize a.M b 0 = m0 at *
 generalize a.M b 1 = m1 at *
 generalize a.M b 2 = m2 at *
 generalize a.N 0 = x0 at *
 generalize a.N 1 = x1 at *
 generalize a.N 2 = x2 at *
 generalize b.N 0 = z0 at *
 generalize b.N 1 = z1 at *
 generalize b.N 2 = z2 at *
 generalize a.th b = T at *
 generalize a.thB b = TB at *
 have hn : (a.to != b.fr) = false:=by simpa using hd
 have r1:=fun w => refRightM_true h w
 have r2:=fun w => refRightM_true h2 w
 have HNO:=Hd hno;have HYES:=Hd hyes;have HC:=Hd (And.intro h (And.intro h2 hd));have HNN:=Hd (And.intro hnn (And.intro hn3 hKn));have HK:=Hd hK;have Y:=Hd (And.intro y0 (And.intro y1 y2));have NB:=Hd nb
 clear hno hyes h h2 hd hnn hn3 hKn hK y0 y1 y2 nb hbk
 unfold Sm.v at ca0 ca1 ca2 cb0 cb1 cb2
 have h3:=Tri2.made w 106 a b
 have hbw:=ba3 w a b 106
 have H3:=Hd h3;have HB:=Hd hbw;clear h3 hbw
 have R1:=Hd r1;have R2:=Hd r2;have CA0:=Hd ca0;have CA1:=Hd ca1;have CA2:=Hd ca2;have CB0:=Hd cb0;have CB1:=Hd cb1;have CB2:=Hd cb2;have V0:=Hd v0;have V1:=Hd v1;have V2:=Hd v2;clear r1 r2 ca0 ca1 ca2 cb0 cb1 cb2 v0 v1 v2
 unfold Sm.v at *
 go_enter Tryz.func111,Tryz.ntmps111
 go_wp2_with fail
 refine (R1.out _).mono ?_;rintro e w2 ⟨rfl,hb2⟩
 have k3:=H3.out.below hb2
 have kb:=HB.out.trans (hb2.mono HB.out.size);clear H3 HB
 have H3:=Hd k3;have HB:=Hd kb;clear k3 kb hb2
 obtain ⟨a0,a1,a2,a3,a4,a5,a6⟩:=H3.out.1.cells7
 obtain ⟨b0,b1,b2,b3,b4,b5,b6⟩:=H3.out.2.1.cells7
 go_wp2_with fail
 clear a0 a1 a2 a3 a4 a5 a6 b0 b1 b2 b3 b4 b5 b6
 refine (R2.out _).mono ?_;rintro e w3 ⟨rfl,hb3⟩
 have k3:=H3.out.below hb3
 have kb:=HB.out.trans (hb3.mono HB.out.size);clear H3 HB
 have H3:=Hd k3;have HB:=Hd kb;clear k3 kb hb3
 obtain ⟨a0,a1,a2,a3,a4,a5,a6⟩:=H3.out.1.cells7
 obtain ⟨b0,b1,b2,b3,b4,b5,b6⟩:=H3.out.2.1.cells7
 go_wp2_with fail
 clear a0 a1 a2 a3 a4 a5 a6 b0 b1 b2 b3 b4 b5 b6
 clear R1 R2 hn
 have k6 : HoldsM (w3.alloc (.cells #[.int .i64 a.fr,.int .i64 b.to,.int .i64 0,.int .i64 0,.int .i64 0,.int .i64 0,.int .i64 0] 106)) w3.heap.size 106 ⟨a.fr,b.to,0,0,0,0,0⟩:=Row.made w3 _ _
 have k3:=H3.out.below ((Below.refl w3.heap.size w3).alloc (Nat.le_refl _) (.cells #[.int .i64 a.fr,.int .i64 b.to,.int .i64 0,.int .i64 0,.int .i64 0,.int .i64 0,.int .i64 0] 106))
 have kb:=HB.out.alloc HB.out.size (.cells #[.int .i64 a.fr,.int .i64 b.to,.int .i64 0,.int .i64 0,.int .i64 0,.int .i64 0,.int .i64 0] 106)
 have hg : w.heap.size + 1 + 1 < w3.heap.size:=H3.out.2.2.lt
 clear H3 HB
 generalize w3.alloc (.cells #[.int .i64 a.fr,.int .i64 b.to,.int .i64 0,.int .i64 0,.int .i64 0,.int .i64 0,.int .i64 0] 106) = w4 at *
 generalize w3.heap.size = g at *
 have H3:=Hd k3;have HB:=Hd kb;have H6:=Hd k6;have HG:=Hd hg;clear k3 kb k6 hg
 go_loopw [7] (fun i wr => ∃ (k : Nat),k ≤ n ∧ i = .int .i64 k ∧ Tri2 wr w.heap.size 106 a b ∧ HoldsM wr g 106 (Sm.part a.fr b.to 0 m0 m1 m2 k) ∧ Below w.heap.size w wr ∧ (0 < k → m0 < 16) ∧ (1 < k → m1 < 16) ∧ (2 < k → m2 < 16)) (fun i _ => n - (intOf i).toNat)
 case atStart => exact ⟨0,by omega,rfl,H3.out,H6.out,HB.out,by omega,by omega,by omega⟩
 case round =>
  obtain ⟨k,hk,rfl,h3,h6,hbw,hv⟩:=hrel
  clear H3 HB H6
  obtain ⟨b0,b1,b2,b3,b4,b5,b6⟩:=h3.2.1.cells7
  have H3:=Hd h3;have H6:=Hd h6;have HB:=Hd hbw;have HV:=Hd hv;clear h3 h6 hbw hv
  by_cases hlt : k < n
  · have hlt' : (k : Int) < b.to:=by have:=HNN.out.1;omega
    have hcase : k = 0 ∨ k = 1 ∨ k = 2:=by have:=HNN.out.2.1;omega
    rcases hcase with rfl | rfl | rfl
    · simp only [Int.natCast_zero,Int.natCast_one,Int.cast_ofNat_Int] at hlt'
      go_wp2_with fail
      refine (CB0.out hlt _).mono ?_;rintro e w5 ⟨rfl,hb5⟩
      dsimp only
      have h3:=H3.out.below hb5;have h6:=H6.out.below hb5;have hbw:=HB.out.trans (hb5.mono HB.out.size);clear H3 H6 HB hb5 b0 b1 b2 b3 b4 b5 b6
      have h6 : HoldsM w5 g 106 ⟨a.fr,b.to,0,0,0,0,0⟩:=h6
      have hl5:=h6.lt
      have hzl : w.heap.size + 1 + 1 < w5.heap.size:=h3.2.2.lt
      have hz0 : w.heap.size < w5.heap.size:=h3.1.lt
      have H3:=Hd h3;have H6:=Hd h6;have HB:=Hd hbw;clear h3 h6 hbw
      have hv:=V0.out hlt
      by_cases hkb : (0 : Int) < b.kp
      case neg =>
       rw [if_neg hkb] at hv
       obtain rfl:=hv
       rw [decide_eq_false hkb]
       clear hkb
       obtain ⟨c0,c1,c2,c3,c4,c5,c6⟩:=H6.out.cells7
       obtain ⟨d0,d1,d2,d3,d4,d5,d6⟩:=H6.out.free7
       simp only at c0 c1 c2 c3 c4 c5 c6
       obtain ⟨q0,q1,q2,q3,q4,q5,q6⟩:=H3.out.2.2.cells7
       obtain ⟨f0,f1,f2,f3,f4,f5,f6⟩:=H3.out.2.2.free7
       by_cases hbig : (16 : Int) ≤ m0
       · have hvb:=HV.out
         obtain ⟨e1,e2⟩:=HNO.out (fun hh => by have:=hh.2.2.2;omega)
         have Q:=Hd (And.intro e1 e2);clear e1 e2 hvb
         go_wp2_with fail
         refine bodyPost_ret (v:=.tuple #[.agg #[.int .i64 0,.int .i64 0,.int .i64 0,.int .i64 0,.int .i64 0,.int .i64 0,.int .i64 0],.bool false]) (two_results rfl _ _ _ 106 _ (0,0) _ rfl (Row.alloc (row_set7 (H3.out.2.2)) _) Tryz.underlying106 rfl (by kernel_rfl) rfl) rfl ?_
         exact ⟨by obtain ⟨e1,e2⟩:=Q.out;subst e1;subst e2;rfl,(below_set7 HB.out (by omega)).alloc (below_set7 HB.out (by omega)).size _⟩
       · go_wp2_with fail
         go_roundw
         case rel =>
          have hg:=HG.out
          refine ⟨1,by omega,rfl,⟨Row.alloc (Row.far (H3.out.1) (by simp;omega) _) _,Row.alloc (Row.far (H3.out.2.1) (by simp;omega) _) _,Row.alloc (Row.far (H3.out.2.2) (by simp;omega) _) _⟩,?_,(HB.out.setCell (by simp;omega) _).alloc (HB.out.setCell (by simp;omega) _).size _,?_⟩
          · exact Row.alloc (Row.put (H6.out) 4 _) _
          · have:=HV.out;omega
         case measure => simp [intOf];omega
      case pos =>
       rw [if_pos hkb] at hv
       have hw:=IntWalk.i64_in (z0 + x0) (by have:=NB.out;omega)
       replace hw:=hw.trans ((Int.add_comm _ _).trans hv.symm)
       rw [decide_eq_true hkb]
       clear hv
       obtain ⟨a0,a1,a2,a3,a4,a5,a6⟩:=H3.out.1.cells7
       have ca:=CA0.out hkb
       rw [decide_eq_false (fun hh : (0 : Int) < a.kp => by have:=HK.out;omega)] at ca
       have CA:=Hd ca;clear ca hkb
       go_wp2_with fail
       have r8 : Row (w5.alloc (.cells #[.bool true,.int .i64 z0] 161)) w5.heap.size 161 [.bool true,.int .i64 z0]:=Row.made w5 _ _
       have h3 : Tri2 (w5.alloc (.cells #[.bool true,.int .i64 z0] 161)) w.heap.size 106 a b:=H3.out.below ((Below.refl _ _).alloc (Nat.le_refl _) _)
       have h6:=HoldsM.alloc H6.out (.cells #[.bool true,.int .i64 z0] 161)
       have hbw:=HB.out.alloc HB.out.size (.cells #[.bool true,.int .i64 z0] 161)
       clear a0 a1 a2 a3 a4 a5 a6 H3 H6 HB
       have hs5 : (w5.alloc (.cells #[.bool true,.int .i64 z0] 161)).heap.size = w5.heap.size + 1:=by simp
       have hws : w.heap.size ≤ w5.heap.size:=by omega
       generalize w5.alloc (.cells #[.bool true,.int .i64 z0] 161) = W5 at *
       generalize w5.heap.size = g8 at *
       have H3:=Hd h3;have H6:=Hd h6;have HB:=Hd hbw;have R8:=Hd r8;clear h3 h6 hbw r8
       refine (CA.out _).mono ?_;rintro e w6 ⟨rfl,hb6⟩
       dsimp only
       have h3:=H3.out.below hb6;have h6:=H6.out.below hb6;have hbw:=HB.out.trans (hb6.mono HB.out.size);have r8:=Row.below R8.out hb6 (by omega)
       have hl8 : g8 < w6.heap.size:=r8.lt
       have hl6 : g < w6.heap.size:=h6.lt
       have hz6 : w.heap.size + 1 + 1 < w6.heap.size:=h3.2.2.lt
       clear H3 H6 HB R8 hb6 CA
       have e0:=r8.cell 0;have e1:=r8.cell 1;have e2:=r8.free 0;have e3:=r8.free 1
       simp only [List.getElem?_cons_succ,List.getElem?_cons_zero] at e0 e1
       have H3:=Hd h3;have H6:=Hd h6;have HB:=Hd hbw;clear h3 h6 hbw r8
       obtain ⟨c0,c1,c2,c3,c4,c5,c6⟩:=H6.out.cells7
       obtain ⟨d0,d1,d2,d3,d4,d5,d6⟩:=H6.out.free7
       simp only at c0 c1 c2 c3 c4 c5 c6
       obtain ⟨q0,q1,q2,q3,q4,q5,q6⟩:=H3.out.2.2.cells7
       obtain ⟨f0,f1,f2,f3,f4,f5,f6⟩:=H3.out.2.2.free7
       by_cases hbig : (16 : Int) ≤ m0
       · have hvb:=HV.out
         obtain ⟨e1,e2⟩:=HNO.out (fun hh => by have:=hh.2.2.2;omega)
         have Q:=Hd (And.intro e1 e2);clear e1 e2 hvb
         go_wp2_with fail
         refine bodyPost_ret (v:=.tuple #[.agg #[.int .i64 0,.int .i64 0,.int .i64 0,.int .i64 0,.int .i64 0,.int .i64 0,.int .i64 0],.bool false]) (two_results rfl _ _ _ 106 _ (0,0) _ rfl (Row.alloc (row_set7 (Row.far (Row.far H3.out.2.2 (by simp;omega) _) (by simp;omega) _)) _) Tryz.underlying106 rfl (by kernel_rfl) rfl) rfl ?_
         exact ⟨by obtain ⟨e1,e2⟩:=Q.out;subst e1;subst e2;rfl,(below_set7 ((HB.out.setCell (by simp;omega) _).setCell (by simp;omega) _) (by omega)).alloc (below_set7 ((HB.out.setCell (by simp;omega) _).setCell (by simp;omega) _) (by omega)).size _⟩
       · go_wp2_with fail
         go_roundw
         case rel =>
          have hg:=HG.out
          refine ⟨1,by omega,rfl,⟨Row.alloc (Row.far (Row.far (Row.far H3.out.1 (by simp;omega) _) (by simp;omega) _) (by simp;omega) _) _,Row.alloc (Row.far (Row.far (Row.far H3.out.2.1 (by simp;omega) _) (by simp;omega) _) (by simp;omega) _) _,Row.alloc (Row.far (Row.far (Row.far H3.out.2.2 (by simp;omega) _) (by simp;omega) _) (by simp;omega) _) _⟩,?_,(((HB.out.setCell (by simp;omega) _).setCell (by simp;omega) _).setCell (by simp;omega) _).alloc (((HB.out.setCell (by simp;omega) _).setCell (by simp;omega) _).setCell (by simp;omega) _).size _,?_⟩
          · exact Row.alloc (Row.put (Row.far (Row.far H6.out (by simp;omega) _) (by simp;omega) _) 4 _) _
          · have:=HV.out;omega
         case measure => simp [intOf];omega
    · simp only [Int.natCast_zero,Int.natCast_one,Int.cast_ofNat_Int] at hlt'
      go_wp2_with fail
      refine (CB1.out hlt _).mono ?_;rintro e w5 ⟨rfl,hb5⟩
      dsimp only
      have h3:=H3.out.below hb5;have h6:=H6.out.below hb5;have hbw:=HB.out.trans (hb5.mono HB.out.size);clear H3 H6 HB hb5 b0 b1 b2 b3 b4 b5 b6
      have h6 : HoldsM w5 g 106 ⟨a.fr,b.to,0,0,m0,0,0⟩:=h6
      have hl5:=h6.lt
      have hzl : w.heap.size + 1 + 1 < w5.heap.size:=h3.2.2.lt
      have hz0 : w.heap.size < w5.heap.size:=h3.1.lt
      have H3:=Hd h3;have H6:=Hd h6;have HB:=Hd hbw;clear h3 h6 hbw
      have hv:=V1.out hlt
      by_cases hkb : (1 : Int) < b.kp
      case neg =>
       rw [if_neg hkb] at hv
       obtain rfl:=hv
       rw [decide_eq_false hkb]
       clear hkb
       obtain ⟨c0,c1,c2,c3,c4,c5,c6⟩:=H6.out.cells7
       obtain ⟨d0,d1,d2,d3,d4,d5,d6⟩:=H6.out.free7
       simp only at c0 c1 c2 c3 c4 c5 c6
       obtain ⟨q0,q1,q2,q3,q4,q5,q6⟩:=H3.out.2.2.cells7
       obtain ⟨f0,f1,f2,f3,f4,f5,f6⟩:=H3.out.2.2.free7
       by_cases hbig : (16 : Int) ≤ m1
       · have hvb:=HV.out
         obtain ⟨e1,e2⟩:=HNO.out (fun hh => by have:=hh.2.2.2;omega)
         have Q:=Hd (And.intro e1 e2);clear e1 e2 hvb
         go_wp2_with fail
         refine bodyPost_ret (v:=.tuple #[.agg #[.int .i64 0,.int .i64 0,.int .i64 0,.int .i64 0,.int .i64 0,.int .i64 0,.int .i64 0],.bool false]) (two_results rfl _ _ _ 106 _ (0,0) _ rfl (Row.alloc (row_set7 (H3.out.2.2)) _) Tryz.underlying106 rfl (by kernel_rfl) rfl) rfl ?_
         exact ⟨by obtain ⟨e1,e2⟩:=Q.out;subst e1;subst e2;rfl,(below_set7 HB.out (by omega)).alloc (below_set7 HB.out (by omega)).size _⟩
       · go_wp2_with fail
         go_roundw
         case rel =>
          have hg:=HG.out
          refine ⟨2,by omega,rfl,⟨Row.alloc (Row.far (H3.out.1) (by simp;omega) _) _,Row.alloc (Row.far (H3.out.2.1) (by simp;omega) _) _,Row.alloc (Row.far (H3.out.2.2) (by simp;omega) _) _⟩,?_,(HB.out.setCell (by simp;omega) _).alloc (HB.out.setCell (by simp;omega) _).size _,?_⟩
          · exact Row.alloc (Row.put (H6.out) 5 _) _
          · have:=HV.out;omega
         case measure => simp [intOf];omega
      case pos =>
       rw [if_pos hkb] at hv
       have hw:=IntWalk.i64_in (z1 + x1) (by have:=NB.out;omega)
       replace hw:=hw.trans ((Int.add_comm _ _).trans hv.symm)
       rw [decide_eq_true hkb]
       clear hv
       obtain ⟨a0,a1,a2,a3,a4,a5,a6⟩:=H3.out.1.cells7
       have ca:=CA1.out hkb
       rw [decide_eq_false (fun hh : (1 : Int) < a.kp => by have:=HK.out;omega)] at ca
       have CA:=Hd ca;clear ca hkb
       go_wp2_with fail
       have r8 : Row (w5.alloc (.cells #[.bool true,.int .i64 z1] 161)) w5.heap.size 161 [.bool true,.int .i64 z1]:=Row.made w5 _ _
       have h3 : Tri2 (w5.alloc (.cells #[.bool true,.int .i64 z1] 161)) w.heap.size 106 a b:=H3.out.below ((Below.refl _ _).alloc (Nat.le_refl _) _)
       have h6:=HoldsM.alloc H6.out (.cells #[.bool true,.int .i64 z1] 161)
       have hbw:=HB.out.alloc HB.out.size (.cells #[.bool true,.int .i64 z1] 161)
       clear a0 a1 a2 a3 a4 a5 a6 H3 H6 HB
       have hs5 : (w5.alloc (.cells #[.bool true,.int .i64 z1] 161)).heap.size = w5.heap.size + 1:=by simp
       have hws : w.heap.size ≤ w5.heap.size:=by omega
       generalize w5.alloc (.cells #[.bool true,.int .i64 z1] 161) = W5 at *
       generalize w5.heap.size = g8 at *
       have H3:=Hd h3;have H6:=Hd h6;have HB:=Hd hbw;have R8:=Hd r8;clear h3 h6 hbw r8
       refine (CA.out _).mono ?_;rintro e w6 ⟨rfl,hb6⟩
       dsimp only
       have h3:=H3.out.below hb6;have h6:=H6.out.below hb6;have hbw:=HB.out.trans (hb6.mono HB.out.size);have r8:=Row.below R8.out hb6 (by omega)
       have hl8 : g8 < w6.heap.size:=r8.lt
       have hl6 : g < w6.heap.size:=h6.lt
       have hz6 : w.heap.size + 1 + 1 < w6.heap.size:=h3.2.2.lt
       clear H3 H6 HB R8 hb6 CA
       have e0:=r8.cell 0;have e1:=r8.cell 1;have e2:=r8.free 0;have e3:=r8.free 1
       simp only [List.getElem?_cons_succ,List.getElem?_cons_zero] at e0 e1
       have H3:=Hd h3;have H6:=Hd h6;have HB:=Hd hbw;clear h3 h6 hbw r8
       obtain ⟨c0,c1,c2,c3,c4,c5,c6⟩:=H6.out.cells7
       obtain ⟨d0,d1,d2,d3,d4,d5,d6⟩:=H6.out.free7
       simp only at c0 c1 c2 c3 c4 c5 c6
       obtain ⟨q0,q1,q2,q3,q4,q5,q6⟩:=H3.out.2.2.cells7
       obtain ⟨f0,f1,f2,f3,f4,f5,f6⟩:=H3.out.2.2.free7
       by_cases hbig : (16 : Int) ≤ m1
       · have hvb:=HV.out
         obtain ⟨e1,e2⟩:=HNO.out (fun hh => by have:=hh.2.2.2;omega)
         have Q:=Hd (And.intro e1 e2);clear e1 e2 hvb
         go_wp2_with fail
         refine bodyPost_ret (v:=.tuple #[.agg #[.int .i64 0,.int .i64 0,.int .i64 0,.int .i64 0,.int .i64 0,.int .i64 0,.int .i64 0],.bool false]) (two_results rfl _ _ _ 106 _ (0,0) _ rfl (Row.alloc (row_set7 (Row.far (Row.far H3.out.2.2 (by simp;omega) _) (by simp;omega) _)) _) Tryz.underlying106 rfl (by kernel_rfl) rfl) rfl ?_
         exact ⟨by obtain ⟨e1,e2⟩:=Q.out;subst e1;subst e2;rfl,(below_set7 ((HB.out.setCell (by simp;omega) _).setCell (by simp;omega) _) (by omega)).alloc (below_set7 ((HB.out.setCell (by simp;omega) _).setCell (by simp;omega) _) (by omega)).size _⟩
       · go_wp2_with fail
         go_roundw
         case rel =>
          have hg:=HG.out
          refine ⟨2,by omega,rfl,⟨Row.alloc (Row.far (Row.far (Row.far H3.out.1 (by simp;omega) _) (by simp;omega) _) (by simp;omega) _) _,Row.alloc (Row.far (Row.far (Row.far H3.out.2.1 (by simp;omega) _) (by simp;omega) _) (by simp;omega) _) _,Row.alloc (Row.far (Row.far (Row.far H3.out.2.2 (by simp;omega) _) (by simp;omega) _) (by simp;omega) _) _⟩,?_,(((HB.out.setCell (by simp;omega) _).setCell (by simp;omega) _).setCell (by simp;omega) _).alloc (((HB.out.setCell (by simp;omega) _).setCell (by simp;omega) _).setCell (by simp;omega) _).size _,?_⟩
          · exact Row.alloc (Row.put (Row.far (Row.far H6.out (by simp;omega) _) (by simp;omega) _) 5 _) _
          · have:=HV.out;omega
         case measure => simp [intOf];omega
    · simp only [Int.natCast_zero,Int.natCast_one,Int.cast_ofNat_Int] at hlt'
      go_wp2_with fail
      refine (CB2.out hlt _).mono ?_;rintro e w5 ⟨rfl,hb5⟩
      dsimp only
      have h3:=H3.out.below hb5;have h6:=H6.out.below hb5;have hbw:=HB.out.trans (hb5.mono HB.out.size);clear H3 H6 HB hb5 b0 b1 b2 b3 b4 b5 b6
      have h6 : HoldsM w5 g 106 ⟨a.fr,b.to,0,0,m0,m1,0⟩:=h6
      have hl5:=h6.lt
      have hzl : w.heap.size + 1 + 1 < w5.heap.size:=h3.2.2.lt
      have hz0 : w.heap.size < w5.heap.size:=h3.1.lt
      have H3:=Hd h3;have H6:=Hd h6;have HB:=Hd hbw;clear h3 h6 hbw
      have hv:=V2.out hlt
      by_cases hkb : (2 : Int) < b.kp
      case neg =>
       rw [if_neg hkb] at hv
       obtain rfl:=hv
       rw [decide_eq_false hkb]
       clear hkb
       obtain ⟨c0,c1,c2,c3,c4,c5,c6⟩:=H6.out.cells7
       obtain ⟨d0,d1,d2,d3,d4,d5,d6⟩:=H6.out.free7
       simp only at c0 c1 c2 c3 c4 c5 c6
       obtain ⟨q0,q1,q2,q3,q4,q5,q6⟩:=H3.out.2.2.cells7
       obtain ⟨f0,f1,f2,f3,f4,f5,f6⟩:=H3.out.2.2.free7
       by_cases hbig : (16 : Int) ≤ m2
       · have hvb:=HV.out
         obtain ⟨e1,e2⟩:=HNO.out (fun hh => by have:=hh.2.2.2;omega)
         have Q:=Hd (And.intro e1 e2);clear e1 e2 hvb
         go_wp2_with fail
         refine bodyPost_ret (v:=.tuple #[.agg #[.int .i64 0,.int .i64 0,.int .i64 0,.int .i64 0,.int .i64 0,.int .i64 0,.int .i64 0],.bool false]) (two_results rfl _ _ _ 106 _ (0,0) _ rfl (Row.alloc (row_set7 (H3.out.2.2)) _) Tryz.underlying106 rfl (by kernel_rfl) rfl) rfl ?_
         exact ⟨by obtain ⟨e1,e2⟩:=Q.out;subst e1;subst e2;rfl,(below_set7 HB.out (by omega)).alloc (below_set7 HB.out (by omega)).size _⟩
       · go_wp2_with fail
         go_roundw
         case rel =>
          have hg:=HG.out
          refine ⟨3,by omega,rfl,⟨Row.alloc (Row.far (H3.out.1) (by simp;omega) _) _,Row.alloc (Row.far (H3.out.2.1) (by simp;omega) _) _,Row.alloc (Row.far (H3.out.2.2) (by simp;omega) _) _⟩,?_,(HB.out.setCell (by simp;omega) _).alloc (HB.out.setCell (by simp;omega) _).size _,?_⟩
          · exact Row.alloc (Row.put (H6.out) 6 _) _
          · have:=HV.out;omega
         case measure => simp [intOf];omega
      case pos =>
       rw [if_pos hkb] at hv
       have hw:=IntWalk.i64_in (z2 + x2) (by have:=NB.out;omega)
       replace hw:=hw.trans ((Int.add_comm _ _).trans hv.symm)
       rw [decide_eq_true hkb]
       clear hv
       obtain ⟨a0,a1,a2,a3,a4,a5,a6⟩:=H3.out.1.cells7
       have ca:=CA2.out hkb
       rw [decide_eq_false (fun hh : (2 : Int) < a.kp => by have:=HK.out;omega)] at ca
       have CA:=Hd ca;clear ca hkb
       go_wp2_with fail
       have r8 : Row (w5.alloc (.cells #[.bool true,.int .i64 z2] 161)) w5.heap.size 161 [.bool true,.int .i64 z2]:=Row.made w5 _ _
       have h3 : Tri2 (w5.alloc (.cells #[.bool true,.int .i64 z2] 161)) w.heap.size 106 a b:=H3.out.below ((Below.refl _ _).alloc (Nat.le_refl _) _)
       have h6:=HoldsM.alloc H6.out (.cells #[.bool true,.int .i64 z2] 161)
       have hbw:=HB.out.alloc HB.out.size (.cells #[.bool true,.int .i64 z2] 161)
       clear a0 a1 a2 a3 a4 a5 a6 H3 H6 HB
       have hs5 : (w5.alloc (.cells #[.bool true,.int .i64 z2] 161)).heap.size = w5.heap.size + 1:=by simp
       have hws : w.heap.size ≤ w5.heap.size:=by omega
       generalize w5.alloc (.cells #[.bool true,.int .i64 z2] 161) = W5 at *
       generalize w5.heap.size = g8 at *
       have H3:=Hd h3;have H6:=Hd h6;have HB:=Hd hbw;have R8:=Hd r8;clear h3 h6 hbw r8
       refine (CA.out _).mono ?_;rintro e w6 ⟨rfl,hb6⟩
       dsimp only
       have h3:=H3.out.below hb6;have h6:=H6.out.below hb6;have hbw:=HB.out.trans (hb6.mono HB.out.size);have r8:=Row.below R8.out hb6 (by omega)
       have hl8 : g8 < w6.heap.size:=r8.lt
       have hl6 : g < w6.heap.size:=h6.lt
       have hz6 : w.heap.size + 1 + 1 < w6.heap.size:=h3.2.2.lt
       clear H3 H6 HB R8 hb6 CA
       have e0:=r8.cell 0;have e1:=r8.cell 1;have e2:=r8.free 0;have e3:=r8.free 1
       simp only [List.getElem?_cons_succ,List.getElem?_cons_zero] at e0 e1
       have H3:=Hd h3;have H6:=Hd h6;have HB:=Hd hbw;clear h3 h6 hbw r8
       obtain ⟨c0,c1,c2,c3,c4,c5,c6⟩:=H6.out.cells7
       obtain ⟨d0,d1,d2,d3,d4,d5,d6⟩:=H6.out.free7
       simp only at c0 c1 c2 c3 c4 c5 c6
       obtain ⟨q0,q1,q2,q3,q4,q5,q6⟩:=H3.out.2.2.cells7
       obtain ⟨f0,f1,f2,f3,f4,f5,f6⟩:=H3.out.2.2.free7
       by_cases hbig : (16 : Int) ≤ m2
       · have hvb:=HV.out
         obtain ⟨e1,e2⟩:=HNO.out (fun hh => by have:=hh.2.2.2;omega)
         have Q:=Hd (And.intro e1 e2);clear e1 e2 hvb
         go_wp2_with fail
         refine bodyPost_ret (v:=.tuple #[.agg #[.int .i64 0,.int .i64 0,.int .i64 0,.int .i64 0,.int .i64 0,.int .i64 0,.int .i64 0],.bool false]) (two_results rfl _ _ _ 106 _ (0,0) _ rfl (Row.alloc (row_set7 (Row.far (Row.far H3.out.2.2 (by simp;omega) _) (by simp;omega) _)) _) Tryz.underlying106 rfl (by kernel_rfl) rfl) rfl ?_
         exact ⟨by obtain ⟨e1,e2⟩:=Q.out;subst e1;subst e2;rfl,(below_set7 ((HB.out.setCell (by simp;omega) _).setCell (by simp;omega) _) (by omega)).alloc (below_set7 ((HB.out.setCell (by simp;omega) _).setCell (by simp;omega) _) (by omega)).size _⟩
       · go_wp2_with fail
         go_roundw
         case rel =>
          have hg:=HG.out
          refine ⟨3,by omega,rfl,⟨Row.alloc (Row.far (Row.far (Row.far H3.out.1 (by simp;omega) _) (by simp;omega) _) (by simp;omega) _) _,Row.alloc (Row.far (Row.far (Row.far H3.out.2.1 (by simp;omega) _) (by simp;omega) _) (by simp;omega) _) _,Row.alloc (Row.far (Row.far (Row.far H3.out.2.2 (by simp;omega) _) (by simp;omega) _) (by simp;omega) _) _⟩,?_,(((HB.out.setCell (by simp;omega) _).setCell (by simp;omega) _).setCell (by simp;omega) _).alloc (((HB.out.setCell (by simp;omega) _).setCell (by simp;omega) _).setCell (by simp;omega) _).size _,?_⟩
          · exact Row.alloc (Row.put (Row.far (Row.far H6.out (by simp;omega) _) (by simp;omega) _) 6 _) _
          · have:=HV.out;omega
         case measure => simp [intOf];omega
  · have hkn : k = n:=by omega
    subst hkn
    have hge : ¬ (k : Int) < b.to:=by have:=HNN.out.1;omega
    obtain ⟨q0,q1,q2,q3,q4,q5,q6⟩:=H3.out.2.2.cells7
    obtain ⟨f0,f1,f2,f3,f4,f5,f6⟩:=H3.out.2.2.free7
    have hr:=HC.out
    have hv:=HV.out
    have y:=Y.out
    have hpe : Sm.part a.fr b.to 0 m0 m1 m2 k = ⟨a.fr,b.to,0,0,m0,m1,m2⟩:=by
     have hk3:=HNN.out.2
     have hk4 : k = 0 ∨ k = 1 ∨ k = 2 ∨ k = 3:=by omega
     rcases hk4 with rfl | rfl | rfl | rfl
     · simp_all [Sm.part,pM]
     · simp_all [Sm.part,pM]
     · simp_all [Sm.part,pM]
     · simp_all [Sm.part,pM]
    have h6:=H6.out
    rw [hpe] at h6
    obtain ⟨c0,c1,c2,c3,c4,c5,c6⟩:=h6.cells7
    simp only at c0 c1 c2 c3 c4 c5 c6
    obtain ⟨e1,e2⟩:=HYES.out ⟨hr.1,hr.2.1,hr.2.2,by by_cases hh : 0 < k <;> omega,by by_cases hh : 1 < k <;> omega,by by_cases hh : 2 < k <;> omega⟩
    have Q:=Hd (And.intro e1 e2);clear e1 e2 hr hv y h6 hpe
    go_wp2_with fail
    refine bodyPost_ret (v:=.tuple #[Sm.v ⟨a.fr,b.to,0,0,m0,m1,m2⟩,.bool true]) (two_results rfl _ _ _ 106 _ (0,0) _ rfl (row_set7 H3.out.2.2) Tryz.underlying106 rfl (by kernel_rfl) rfl) rfl ?_
    exact ⟨by obtain ⟨e1,e2⟩:=Q.out;subst e1;subst e2;rfl,below_set7 HB.out (by omega)⟩
set_option maxHeartbeats 8000000 in
theorem refThen_1 (a b : Sm) (w : World) (h : a.R) (h2 : b.R) (hd : a.to = b.fr) (hK : min a.kp b.kp = 1) : Calls Tryz.prog 111 #[a.v,b.v] w fun e w' => e = .returned (.tuple #[(a.th b).v,.bool (a.thB b)]) ∧ Below w.heap.size w w':=by
 have hno:=Sm.th_no (a:=a) (b:=b)
 have hyes:=Sm.th_yes (a:=a) (b:=b)
 obtain ⟨n,hnn⟩ : ∃ n : Nat,b.to = n:=⟨b.to.toNat,by unfold Sm.R at h2;omega⟩
 have hn3 : n ≤ 3:=by unfold Sm.R at h2;omega
 have hKn : 1 ≤ n:=by unfold Sm.R at h2;omega
 have m3 : a.M b 3 = 0:=Sm.M_out (by omega)
 have m4 : a.M b 4 = 0:=Sm.M_out (by omega)
 have m5 : a.M b 5 = 0:=Sm.M_out (by omega)
 have hs : a.seq b = ⟨a.fr,b.to,1,a.M b 0,a.M b 1,a.M b 2,0⟩:=by unfold Sm.seq;rw [hK];simp [m3,m4,m5]
 rw [hs] at hyes
 unfold Sm.thenOk at hno hyes
 clear hs m3 m4 m5
 have y0 : n ≤ 0 → a.M b 0 = 0:=fun hh => Sm.M_out (by omega)
 have y1 : n ≤ 1 → a.M b 1 = 0:=fun hh => Sm.M_out (by omega)
 have y2 : n ≤ 2 → a.M b 2 = 0:=fun hh => Sm.M_out (by omega)
 have v0 : 0 < n → a.M b 0 = if (0 : Int) < b.kp then a.N 0 + b.N 0 else b.N 0:=fun hl => by unfold Sm.M;rw [if_pos (by rw [hnn];omega)]
 have v1 : 1 < n → a.M b 1 = if (1 : Int) < b.kp then a.N 1 + b.N 1 else b.N 1:=fun hl => by unfold Sm.M;rw [if_pos (by rw [hnn];omega)]
 have v2 : 2 < n → a.M b 2 = if (2 : Int) < b.kp then a.N 2 + b.N 2 else b.N 2:=fun hl => by unfold Sm.M;rw [if_pos (by rw [hnn];omega)]
 have nb:=And.intro (And.intro (Sm.N_R h 0) (And.intro (Sm.N_R h 1) (Sm.N_R h 2))) (And.intro (Sm.N_R h2 0) (And.intro (Sm.N_R h2 1) (Sm.N_R h2 2)))
 have hbk : b.kp ≤ a.to:=by unfold Sm.R at h2;omega
 have ca0:=fun (hl : (0 : Int) < b.kp) w => refAt_any a 0 w h (by omega)
 have ca1:=fun (hl : (1 : Int) < b.kp) w => refAt_any a 1 w h (by omega)
 have ca2:=fun (hl : (2 : Int) < b.kp) w => refAt_any a 2 w h (by omega)
 have cb0:=fun (hl : 0 < n) w => refAt_any b 0 w h2 (by rw [hnn];omega)
 have cb1:=fun (hl : 1 < n) w => refAt_any b 1 w h2 (by rw [hnn];omega)
 have cb2:=fun (hl : 2 < n) w => refAt_any b 2 w h2 (by rw [hnn];omega)
 simp only [Int.natCast_zero,Int.natCast_one] at ca0 ca1 cb0 cb1
 rw [show ((2 : Nat) : Int) = 2 from rfl] at ca2 cb2
 generalize a.M b 0 = m0 at *
 generalize a.M b 1 = m1 at *
 generalize a.M b 2 = m2 at *
 generalize a.N 0 = x0 at *
 generalize a.N 1 = x1 at *
 generalize a.N 2 = x2 at *
 generalize b.N 0 = z0 at *
 generalize b.N 1 = z1 at *
 generalize b.N 2 = z2 at *
 generalize a.th b = T at *
 generalize a.thB b = TB at *
 have hn : (a.to != b.fr) = false:=by simpa using hd
 have r1:=fun w => refRightM_true h w
 have r2:=fun w => refRightM_true h2 w
 have HNO:=Hd hno;have HYES:=Hd hyes;have HC:=Hd (And.intro h (And.intro h2 hd));have HNN:=Hd (And.intro hnn (And.intro hn3 hKn));have HK:=Hd hK;have Y:=Hd (And.intro y0 (And.intro y1 y2));have NB:=Hd nb
 clear hno hyes h h2 hd hnn hn3 hKn hK y0 y1 y2 nb hbk
 unfold Sm.v at ca0 ca1 ca2 cb0 cb1 cb2
 have h3:=Tri2.made w 106 a b
 have hbw:=ba3 w a b 106
 have H3:=Hd h3;have HB:=Hd hbw;clear h3 hbw
 have R1:=Hd r1;have R2:=Hd r2;have CA0:=Hd ca0;have CA1:=Hd ca1;have CA2:=Hd ca2;have CB0:=Hd cb0;have CB1:=Hd cb1;have CB2:=Hd cb2;have V0:=Hd v0;have V1:=Hd v1;have V2:=Hd v2;clear r1 r2 ca0 ca1 ca2 cb0 cb1 cb2 v0 v1 v2
 unfold Sm.v at *
 go_enter Tryz.func111,Tryz.ntmps111
 go_wp2_with fail
 refine (R1.out _).mono ?_;rintro e w2 ⟨rfl,hb2⟩
 have k3:=H3.out.below hb2
 have kb:=HB.out.trans (hb2.mono HB.out.size);clear H3 HB
 have H3:=Hd k3;have HB:=Hd kb;clear k3 kb hb2
 obtain ⟨a0,a1,a2,a3,a4,a5,a6⟩:=H3.out.1.cells7
 obtain ⟨b0,b1,b2,b3,b4,b5,b6⟩:=H3.out.2.1.cells7
 go_wp2_with fail
 clear a0 a1 a2 a3 a4 a5 a6 b0 b1 b2 b3 b4 b5 b6
 refine (R2.out _).mono ?_;rintro e w3 ⟨rfl,hb3⟩
 have k3:=H3.out.below hb3
 have kb:=HB.out.trans (hb3.mono HB.out.size);clear H3 HB
 have H3:=Hd k3;have HB:=Hd kb;clear k3 kb hb3
 obtain ⟨a0,a1,a2,a3,a4,a5,a6⟩:=H3.out.1.cells7
 obtain ⟨b0,b1,b2,b3,b4,b5,b6⟩:=H3.out.2.1.cells7
 go_wp2_with fail
 clear a0 a1 a2 a3 a4 a5 a6 b0 b1 b2 b3 b4 b5 b6
 clear R1 R2 hn
 have k6 : HoldsM (w3.alloc (.cells #[.int .i64 a.fr,.int .i64 b.to,.int .i64 0,.int .i64 0,.int .i64 0,.int .i64 0,.int .i64 0] 106)) w3.heap.size 106 ⟨a.fr,b.to,0,0,0,0,0⟩:=Row.made w3 _ _
 have k3:=H3.out.below ((Below.refl w3.heap.size w3).alloc (Nat.le_refl _) (.cells #[.int .i64 a.fr,.int .i64 b.to,.int .i64 0,.int .i64 0,.int .i64 0,.int .i64 0,.int .i64 0] 106))
 have kb:=HB.out.alloc HB.out.size (.cells #[.int .i64 a.fr,.int .i64 b.to,.int .i64 0,.int .i64 0,.int .i64 0,.int .i64 0,.int .i64 0] 106)
 have hg : w.heap.size + 1 + 1 < w3.heap.size:=H3.out.2.2.lt
 clear H3 HB
 generalize w3.alloc (.cells #[.int .i64 a.fr,.int .i64 b.to,.int .i64 0,.int .i64 0,.int .i64 0,.int .i64 0,.int .i64 0] 106) = w4 at *
 generalize w3.heap.size = g at *
 have H3:=Hd k3;have HB:=Hd kb;have H6:=Hd k6;have HG:=Hd hg;clear k3 kb k6 hg
 go_loopw [7] (fun i wr => ∃ (k : Nat),k ≤ n ∧ i = .int .i64 k ∧ Tri2 wr w.heap.size 106 a b ∧ HoldsM wr g 106 (Sm.part a.fr b.to 1 m0 m1 m2 k) ∧ Below w.heap.size w wr ∧ (0 < k → m0 < 16) ∧ (1 < k → m1 < 16) ∧ (2 < k → m2 < 16)) (fun i _ => n - (intOf i).toNat)
 case atStart => exact ⟨0,by omega,rfl,H3.out,H6.out,HB.out,by omega,by omega,by omega⟩
 case round =>
  obtain ⟨k,hk,rfl,h3,h6,hbw,hv⟩:=hrel
  clear H3 HB H6
  obtain ⟨b0,b1,b2,b3,b4,b5,b6⟩:=h3.2.1.cells7
  have H3:=Hd h3;have H6:=Hd h6;have HB:=Hd hbw;have HV:=Hd hv;clear h3 h6 hbw hv
  by_cases hlt : k < n
  · have hlt' : (k : Int) < b.to:=by have:=HNN.out.1;omega
    have hcase : k = 0 ∨ k = 1 ∨ k = 2:=by have:=HNN.out.2.1;omega
    rcases hcase with rfl | rfl | rfl
    · simp only [Int.natCast_zero,Int.natCast_one,Int.cast_ofNat_Int] at hlt'
      go_wp2_with fail
      refine (CB0.out hlt _).mono ?_;rintro e w5 ⟨rfl,hb5⟩
      dsimp only
      have h3:=H3.out.below hb5;have h6:=H6.out.below hb5;have hbw:=HB.out.trans (hb5.mono HB.out.size);clear H3 H6 HB hb5 b0 b1 b2 b3 b4 b5 b6
      have h6 : HoldsM w5 g 106 ⟨a.fr,b.to,0,0,0,0,0⟩:=h6
      have hl5:=h6.lt
      have hzl : w.heap.size + 1 + 1 < w5.heap.size:=h3.2.2.lt
      have hz0 : w.heap.size < w5.heap.size:=h3.1.lt
      have H3:=Hd h3;have H6:=Hd h6;have HB:=Hd hbw;clear h3 h6 hbw
      have hv:=V0.out hlt
      have hkb : (0 : Int) < b.kp:=by have:=HK.out;omega
      rw [if_pos hkb] at hv
      have hw:=IntWalk.i64_in (z0 + x0) (by have:=NB.out;omega)
      replace hw:=hw.trans ((Int.add_comm _ _).trans hv.symm)
      rw [decide_eq_true hkb]
      clear hv
      obtain ⟨a0,a1,a2,a3,a4,a5,a6⟩:=H3.out.1.cells7
      have ca:=CA0.out hkb
      rw [decide_eq_true (show (0 : Int) < a.kp by have:=HK.out;omega)] at ca
      have CA:=Hd ca;clear ca hkb
      go_wp2_with fail
      have r8 : Row (w5.alloc (.cells #[.bool true,.int .i64 z0] 161)) w5.heap.size 161 [.bool true,.int .i64 z0]:=Row.made w5 _ _
      have h3 : Tri2 (w5.alloc (.cells #[.bool true,.int .i64 z0] 161)) w.heap.size 106 a b:=H3.out.below ((Below.refl _ _).alloc (Nat.le_refl _) _)
      have h6:=HoldsM.alloc H6.out (.cells #[.bool true,.int .i64 z0] 161)
      have hbw:=HB.out.alloc HB.out.size (.cells #[.bool true,.int .i64 z0] 161)
      clear a0 a1 a2 a3 a4 a5 a6 H3 H6 HB
      have hs5 : (w5.alloc (.cells #[.bool true,.int .i64 z0] 161)).heap.size = w5.heap.size + 1:=by simp
      have hws : w.heap.size ≤ w5.heap.size:=by omega
      generalize w5.alloc (.cells #[.bool true,.int .i64 z0] 161) = W5 at *
      generalize w5.heap.size = g8 at *
      have H3:=Hd h3;have H6:=Hd h6;have HB:=Hd hbw;have R8:=Hd r8;clear h3 h6 hbw r8
      refine (CA.out _).mono ?_;rintro e w6 ⟨rfl,hb6⟩
      dsimp only
      have h3:=H3.out.below hb6;have h6:=H6.out.below hb6;have hbw:=HB.out.trans (hb6.mono HB.out.size);have r8:=Row.below R8.out hb6 (by omega)
      have hl8 : g8 < w6.heap.size:=r8.lt
      have hl6 : g < w6.heap.size:=h6.lt
      have hz6 : w.heap.size + 1 + 1 < w6.heap.size:=h3.2.2.lt
      clear H3 H6 HB R8 hb6 CA
      have e0:=r8.cell 0;have e1:=r8.cell 1;have e2:=r8.free 0;have e3:=r8.free 1
      simp only [List.getElem?_cons_succ,List.getElem?_cons_zero] at e0 e1
      have H3:=Hd h3;have H6:=Hd h6;have HB:=Hd hbw;clear h3 h6 hbw r8
      obtain ⟨c0,c1,c2,c3,c4,c5,c6⟩:=H6.out.cells7
      obtain ⟨d0,d1,d2,d3,d4,d5,d6⟩:=H6.out.free7
      simp only at c0 c1 c2 c3 c4 c5 c6
      obtain ⟨q0,q1,q2,q3,q4,q5,q6⟩:=H3.out.2.2.cells7
      obtain ⟨f0,f1,f2,f3,f4,f5,f6⟩:=H3.out.2.2.free7
      by_cases hbig : (16 : Int) ≤ m0
      · have hvb:=HV.out
        obtain ⟨e1,e2⟩:=HNO.out (fun hh => by have:=hh.2.2.2;omega)
        have Q:=Hd (And.intro e1 e2);clear e1 e2 hvb
        go_wp2_with fail
        refine bodyPost_ret (v:=.tuple #[.agg #[.int .i64 0,.int .i64 0,.int .i64 0,.int .i64 0,.int .i64 0,.int .i64 0,.int .i64 0],.bool false]) (two_results rfl _ _ _ 106 _ (0,0) _ rfl (Row.alloc (row_set7 (Row.far (Row.far H3.out.2.2 (by simp;omega) _) (by simp;omega) _)) _) Tryz.underlying106 rfl (by kernel_rfl) rfl) rfl ?_
        exact ⟨by obtain ⟨e1,e2⟩:=Q.out;subst e1;subst e2;rfl,(below_set7 ((HB.out.setCell (by simp;omega) _).setCell (by simp;omega) _) (by omega)).alloc (below_set7 ((HB.out.setCell (by simp;omega) _).setCell (by simp;omega) _) (by omega)).size _⟩
      · go_wp2_with fail
        go_roundw
        case rel =>
         have hg:=HG.out
         refine ⟨1,by omega,rfl,⟨Row.alloc (Row.far (Row.far (Row.far (Row.far H3.out.1 (by simp;omega) _) (by simp;omega) _) (by simp;omega) _) (by simp;omega) _) _,Row.alloc (Row.far (Row.far (Row.far (Row.far H3.out.2.1 (by simp;omega) _) (by simp;omega) _) (by simp;omega) _) (by simp;omega) _) _,Row.alloc (Row.far (Row.far (Row.far (Row.far H3.out.2.2 (by simp;omega) _) (by simp;omega) _) (by simp;omega) _) (by simp;omega) _) _⟩,?_,((((HB.out.setCell (by simp;omega) _).setCell (by simp;omega) _).setCell (by simp;omega) _).setCell (by simp;omega) _).alloc ((((HB.out.setCell (by simp;omega) _).setCell (by simp;omega) _).setCell (by simp;omega) _).setCell (by simp;omega) _).size _,?_⟩
         · exact Row.alloc (Row.put (Row.put (Row.far (Row.far H6.out (by simp;omega) _) (by simp;omega) _) 2 _) 3 _) _
         · have:=HV.out;omega
        case measure => simp [intOf];omega
    · simp only [Int.natCast_zero,Int.natCast_one,Int.cast_ofNat_Int] at hlt'
      go_wp2_with fail
      refine (CB1.out hlt _).mono ?_;rintro e w5 ⟨rfl,hb5⟩
      dsimp only
      have h3:=H3.out.below hb5;have h6:=H6.out.below hb5;have hbw:=HB.out.trans (hb5.mono HB.out.size);clear H3 H6 HB hb5 b0 b1 b2 b3 b4 b5 b6
      have h6 : HoldsM w5 g 106 ⟨a.fr,b.to,1,m0,0,0,0⟩:=h6
      have hl5:=h6.lt
      have hzl : w.heap.size + 1 + 1 < w5.heap.size:=h3.2.2.lt
      have hz0 : w.heap.size < w5.heap.size:=h3.1.lt
      have H3:=Hd h3;have H6:=Hd h6;have HB:=Hd hbw;clear h3 h6 hbw
      have hv:=V1.out hlt
      by_cases hkb : (1 : Int) < b.kp
      case neg =>
       rw [if_neg hkb] at hv
       obtain rfl:=hv
       rw [decide_eq_false hkb]
       clear hkb
       obtain ⟨c0,c1,c2,c3,c4,c5,c6⟩:=H6.out.cells7
       obtain ⟨d0,d1,d2,d3,d4,d5,d6⟩:=H6.out.free7
       simp only at c0 c1 c2 c3 c4 c5 c6
       obtain ⟨q0,q1,q2,q3,q4,q5,q6⟩:=H3.out.2.2.cells7
       obtain ⟨f0,f1,f2,f3,f4,f5,f6⟩:=H3.out.2.2.free7
       by_cases hbig : (16 : Int) ≤ m1
       · have hvb:=HV.out
         obtain ⟨e1,e2⟩:=HNO.out (fun hh => by have:=hh.2.2.2;omega)
         have Q:=Hd (And.intro e1 e2);clear e1 e2 hvb
         go_wp2_with fail
         refine bodyPost_ret (v:=.tuple #[.agg #[.int .i64 0,.int .i64 0,.int .i64 0,.int .i64 0,.int .i64 0,.int .i64 0,.int .i64 0],.bool false]) (two_results rfl _ _ _ 106 _ (0,0) _ rfl (Row.alloc (row_set7 (H3.out.2.2)) _) Tryz.underlying106 rfl (by kernel_rfl) rfl) rfl ?_
         exact ⟨by obtain ⟨e1,e2⟩:=Q.out;subst e1;subst e2;rfl,(below_set7 HB.out (by omega)).alloc (below_set7 HB.out (by omega)).size _⟩
       · go_wp2_with fail
         go_roundw
         case rel =>
          have hg:=HG.out
          refine ⟨2,by omega,rfl,⟨Row.alloc (Row.far (H3.out.1) (by simp;omega) _) _,Row.alloc (Row.far (H3.out.2.1) (by simp;omega) _) _,Row.alloc (Row.far (H3.out.2.2) (by simp;omega) _) _⟩,?_,(HB.out.setCell (by simp;omega) _).alloc (HB.out.setCell (by simp;omega) _).size _,?_⟩
          · exact Row.alloc (Row.put (H6.out) 4 _) _
          · have:=HV.out;omega
         case measure => simp [intOf];omega
      case pos =>
       rw [if_pos hkb] at hv
       have hw:=IntWalk.i64_in (z1 + x1) (by have:=NB.out;omega)
       replace hw:=hw.trans ((Int.add_comm _ _).trans hv.symm)
       rw [decide_eq_true hkb]
       clear hv
       obtain ⟨a0,a1,a2,a3,a4,a5,a6⟩:=H3.out.1.cells7
       have ca:=CA1.out hkb
       rw [decide_eq_false (fun hh : (1 : Int) < a.kp => by have:=HK.out;omega)] at ca
       have CA:=Hd ca;clear ca hkb
       go_wp2_with fail
       have r8 : Row (w5.alloc (.cells #[.bool true,.int .i64 z1] 161)) w5.heap.size 161 [.bool true,.int .i64 z1]:=Row.made w5 _ _
       have h3 : Tri2 (w5.alloc (.cells #[.bool true,.int .i64 z1] 161)) w.heap.size 106 a b:=H3.out.below ((Below.refl _ _).alloc (Nat.le_refl _) _)
       have h6:=HoldsM.alloc H6.out (.cells #[.bool true,.int .i64 z1] 161)
       have hbw:=HB.out.alloc HB.out.size (.cells #[.bool true,.int .i64 z1] 161)
       clear a0 a1 a2 a3 a4 a5 a6 H3 H6 HB
       have hs5 : (w5.alloc (.cells #[.bool true,.int .i64 z1] 161)).heap.size = w5.heap.size + 1:=by simp
       have hws : w.heap.size ≤ w5.heap.size:=by omega
       generalize w5.alloc (.cells #[.bool true,.int .i64 z1] 161) = W5 at *
       generalize w5.heap.size = g8 at *
       have H3:=Hd h3;have H6:=Hd h6;have HB:=Hd hbw;have R8:=Hd r8;clear h3 h6 hbw r8
       refine (CA.out _).mono ?_;rintro e w6 ⟨rfl,hb6⟩
       dsimp only
       have h3:=H3.out.below hb6;have h6:=H6.out.below hb6;have hbw:=HB.out.trans (hb6.mono HB.out.size);have r8:=Row.below R8.out hb6 (by omega)
       have hl8 : g8 < w6.heap.size:=r8.lt
       have hl6 : g < w6.heap.size:=h6.lt
       have hz6 : w.heap.size + 1 + 1 < w6.heap.size:=h3.2.2.lt
       clear H3 H6 HB R8 hb6 CA
       have e0:=r8.cell 0;have e1:=r8.cell 1;have e2:=r8.free 0;have e3:=r8.free 1
       simp only [List.getElem?_cons_succ,List.getElem?_cons_zero] at e0 e1
       have H3:=Hd h3;have H6:=Hd h6;have HB:=Hd hbw;clear h3 h6 hbw r8
       obtain ⟨c0,c1,c2,c3,c4,c5,c6⟩:=H6.out.cells7
       obtain ⟨d0,d1,d2,d3,d4,d5,d6⟩:=H6.out.free7
       simp only at c0 c1 c2 c3 c4 c5 c6
       obtain ⟨q0,q1,q2,q3,q4,q5,q6⟩:=H3.out.2.2.cells7
       obtain ⟨f0,f1,f2,f3,f4,f5,f6⟩:=H3.out.2.2.free7
       by_cases hbig : (16 : Int) ≤ m1
       · have hvb:=HV.out
         obtain ⟨e1,e2⟩:=HNO.out (fun hh => by have:=hh.2.2.2;omega)
         have Q:=Hd (And.intro e1 e2);clear e1 e2 hvb
         go_wp2_with fail
         refine bodyPost_ret (v:=.tuple #[.agg #[.int .i64 0,.int .i64 0,.int .i64 0,.int .i64 0,.int .i64 0,.int .i64 0,.int .i64 0],.bool false]) (two_results rfl _ _ _ 106 _ (0,0) _ rfl (Row.alloc (row_set7 (Row.far (Row.far H3.out.2.2 (by simp;omega) _) (by simp;omega) _)) _) Tryz.underlying106 rfl (by kernel_rfl) rfl) rfl ?_
         exact ⟨by obtain ⟨e1,e2⟩:=Q.out;subst e1;subst e2;rfl,(below_set7 ((HB.out.setCell (by simp;omega) _).setCell (by simp;omega) _) (by omega)).alloc (below_set7 ((HB.out.setCell (by simp;omega) _).setCell (by simp;omega) _) (by omega)).size _⟩
       · go_wp2_with fail
         go_roundw
         case rel =>
          have hg:=HG.out
          refine ⟨2,by omega,rfl,⟨Row.alloc (Row.far (Row.far (Row.far H3.out.1 (by simp;omega) _) (by simp;omega) _) (by simp;omega) _) _,Row.alloc (Row.far (Row.far (Row.far H3.out.2.1 (by simp;omega) _) (by simp;omega) _) (by simp;omega) _) _,Row.alloc (Row.far (Row.far (Row.far H3.out.2.2 (by simp;omega) _) (by simp;omega) _) (by simp;omega) _) _⟩,?_,(((HB.out.setCell (by simp;omega) _).setCell (by simp;omega) _).setCell (by simp;omega) _).alloc (((HB.out.setCell (by simp;omega) _).setCell (by simp;omega) _).setCell (by simp;omega) _).size _,?_⟩
          · exact Row.alloc (Row.put (Row.far (Row.far H6.out (by simp;omega) _) (by simp;omega) _) 4 _) _
          · have:=HV.out;omega
         case measure => simp [intOf];omega
    · simp only [Int.natCast_zero,Int.natCast_one,Int.cast_ofNat_Int] at hlt'
      go_wp2_with fail
      refine (CB2.out hlt _).mono ?_;rintro e w5 ⟨rfl,hb5⟩
      dsimp only
      have h3:=H3.out.below hb5;have h6:=H6.out.below hb5;have hbw:=HB.out.trans (hb5.mono HB.out.size);clear H3 H6 HB hb5 b0 b1 b2 b3 b4 b5 b6
      have h6 : HoldsM w5 g 106 ⟨a.fr,b.to,1,m0,m1,0,0⟩:=h6
      have hl5:=h6.lt
      have hzl : w.heap.size + 1 + 1 < w5.heap.size:=h3.2.2.lt
      have hz0 : w.heap.size < w5.heap.size:=h3.1.lt
      have H3:=Hd h3;have H6:=Hd h6;have HB:=Hd hbw;clear h3 h6 hbw
      have hv:=V2.out hlt
      by_cases hkb : (2 : Int) < b.kp
      case neg =>
       rw [if_neg hkb] at hv
       obtain rfl:=hv
       rw [decide_eq_false hkb]
       clear hkb
       obtain ⟨c0,c1,c2,c3,c4,c5,c6⟩:=H6.out.cells7
       obtain ⟨d0,d1,d2,d3,d4,d5,d6⟩:=H6.out.free7
       simp only at c0 c1 c2 c3 c4 c5 c6
       obtain ⟨q0,q1,q2,q3,q4,q5,q6⟩:=H3.out.2.2.cells7
       obtain ⟨f0,f1,f2,f3,f4,f5,f6⟩:=H3.out.2.2.free7
       by_cases hbig : (16 : Int) ≤ m2
       · have hvb:=HV.out
         obtain ⟨e1,e2⟩:=HNO.out (fun hh => by have:=hh.2.2.2;omega)
         have Q:=Hd (And.intro e1 e2);clear e1 e2 hvb
         go_wp2_with fail
         refine bodyPost_ret (v:=.tuple #[.agg #[.int .i64 0,.int .i64 0,.int .i64 0,.int .i64 0,.int .i64 0,.int .i64 0,.int .i64 0],.bool false]) (two_results rfl _ _ _ 106 _ (0,0) _ rfl (Row.alloc (row_set7 (H3.out.2.2)) _) Tryz.underlying106 rfl (by kernel_rfl) rfl) rfl ?_
         exact ⟨by obtain ⟨e1,e2⟩:=Q.out;subst e1;subst e2;rfl,(below_set7 HB.out (by omega)).alloc (below_set7 HB.out (by omega)).size _⟩
       · go_wp2_with fail
         go_roundw
         case rel =>
          have hg:=HG.out
          refine ⟨3,by omega,rfl,⟨Row.alloc (Row.far (H3.out.1) (by simp;omega) _) _,Row.alloc (Row.far (H3.out.2.1) (by simp;omega) _) _,Row.alloc (Row.far (H3.out.2.2) (by simp;omega) _) _⟩,?_,(HB.out.setCell (by simp;omega) _).alloc (HB.out.setCell (by simp;omega) _).size _,?_⟩
          · exact Row.alloc (Row.put (H6.out) 5 _) _
          · have:=HV.out;omega
         case measure => simp [intOf];omega
      case pos =>
       rw [if_pos hkb] at hv
       have hw:=IntWalk.i64_in (z2 + x2) (by have:=NB.out;omega)
       replace hw:=hw.trans ((Int.add_comm _ _).trans hv.symm)
       rw [decide_eq_true hkb]
       clear hv
       obtain ⟨a0,a1,a2,a3,a4,a5,a6⟩:=H3.out.1.cells7
       have ca:=CA2.out hkb
       rw [decide_eq_false (fun hh : (2 : Int) < a.kp => by have:=HK.out;omega)] at ca
       have CA:=Hd ca;clear ca hkb
       go_wp2_with fail
       have r8 : Row (w5.alloc (.cells #[.bool true,.int .i64 z2] 161)) w5.heap.size 161 [.bool true,.int .i64 z2]:=Row.made w5 _ _
       have h3 : Tri2 (w5.alloc (.cells #[.bool true,.int .i64 z2] 161)) w.heap.size 106 a b:=H3.out.below ((Below.refl _ _).alloc (Nat.le_refl _) _)
       have h6:=HoldsM.alloc H6.out (.cells #[.bool true,.int .i64 z2] 161)
       have hbw:=HB.out.alloc HB.out.size (.cells #[.bool true,.int .i64 z2] 161)
       clear a0 a1 a2 a3 a4 a5 a6 H3 H6 HB
       have hs5 : (w5.alloc (.cells #[.bool true,.int .i64 z2] 161)).heap.size = w5.heap.size + 1:=by simp
       have hws : w.heap.size ≤ w5.heap.size:=by omega
       generalize w5.alloc (.cells #[.bool true,.int .i64 z2] 161) = W5 at *
       generalize w5.heap.size = g8 at *
       have H3:=Hd h3;have H6:=Hd h6;have HB:=Hd hbw;have R8:=Hd r8;clear h3 h6 hbw r8
       refine (CA.out _).mono ?_;rintro e w6 ⟨rfl,hb6⟩
       dsimp only
       have h3:=H3.out.below hb6;have h6:=H6.out.below hb6;have hbw:=HB.out.trans (hb6.mono HB.out.size);have r8:=Row.below R8.out hb6 (by omega)
       have hl8 : g8 < w6.heap.size:=r8.lt
       have hl6 : g < w6.heap.size:=h6.lt
       have hz6 : w.heap.size + 1 + 1 < w6.heap.size:=h3.2.2.lt
       clear H3 H6 HB R8 hb6 CA
       have e0:=r8.cell 0;have e1:=r8.cell 1;have e2:=r8.free 0;have e3:=r8.free 1
       simp only [List.getElem?_cons_succ,List.getElem?_cons_zero] at e0 e1
       have H3:=Hd h3;have H6:=Hd h6;have HB:=Hd hbw;clear h3 h6 hbw r8
       obtain ⟨c0,c1,c2,c3,c4,c5,c6⟩:=H6.out.cells7
       obtain ⟨d0,d1,d2,d3,d4,d5,d6⟩:=H6.out.free7
       simp only at c0 c1 c2 c3 c4 c5 c6
       obtain ⟨q0,q1,q2,q3,q4,q5,q6⟩:=H3.out.2.2.cells7
       obtain ⟨f0,f1,f2,f3,f4,f5,f6⟩:=H3.out.2.2.free7
       by_cases hbig : (16 : Int) ≤ m2
       · have hvb:=HV.out
         obtain ⟨e1,e2⟩:=HNO.out (fun hh => by have:=hh.2.2.2;omega)
         have Q:=Hd (And.intro e1 e2);clear e1 e2 hvb
         go_wp2_with fail
         refine bodyPost_ret (v:=.tuple #[.agg #[.int .i64 0,.int .i64 0,.int .i64 0,.int .i64 0,.int .i64 0,.int .i64 0,.int .i64 0],.bool false]) (two_results rfl _ _ _ 106 _ (0,0) _ rfl (Row.alloc (row_set7 (Row.far (Row.far H3.out.2.2 (by simp;omega) _) (by simp;omega) _)) _) Tryz.underlying106 rfl (by kernel_rfl) rfl) rfl ?_
         exact ⟨by obtain ⟨e1,e2⟩:=Q.out;subst e1;subst e2;rfl,(below_set7 ((HB.out.setCell (by simp;omega) _).setCell (by simp;omega) _) (by omega)).alloc (below_set7 ((HB.out.setCell (by simp;omega) _).setCell (by simp;omega) _) (by omega)).size _⟩
       · go_wp2_with fail
         go_roundw
         case rel =>
          have hg:=HG.out
          refine ⟨3,by omega,rfl,⟨Row.alloc (Row.far (Row.far (Row.far H3.out.1 (by simp;omega) _) (by simp;omega) _) (by simp;omega) _) _,Row.alloc (Row.far (Row.far (Row.far H3.out.2.1 (by simp;omega) _) (by simp;omega) _) (by simp;omega) _) _,Row.alloc (Row.far (Row.far (Row.far H3.out.2.2 (by simp;omega) _) (by simp;omega) _) (by simp;omega) _) _⟩,?_,(((HB.out.setCell (by simp;omega) _).setCell (by simp;omega) _).setCell (by simp;omega) _).alloc (((HB.out.setCell (by simp;omega) _).setCell (by simp;omega) _).setCell (by simp;omega) _).size _,?_⟩
          · exact Row.alloc (Row.put (Row.far (Row.far H6.out (by simp;omega) _) (by simp;omega) _) 5 _) _
          · have:=HV.out;omega
         case measure => simp [intOf];omega
  · have hkn : k = n:=by omega
    subst hkn
    have hge : ¬ (k : Int) < b.to:=by have:=HNN.out.1;omega
    obtain ⟨q0,q1,q2,q3,q4,q5,q6⟩:=H3.out.2.2.cells7
    obtain ⟨f0,f1,f2,f3,f4,f5,f6⟩:=H3.out.2.2.free7
    have hr:=HC.out
    have hv:=HV.out
    have y:=Y.out
    have hpe : Sm.part a.fr b.to 1 m0 m1 m2 k = ⟨a.fr,b.to,1,m0,m1,m2,0⟩:=by
     have hk3:=HNN.out.2
     have hk4 : k = 0 ∨ k = 1 ∨ k = 2 ∨ k = 3:=by omega
     rcases hk4 with rfl | rfl | rfl | rfl
     · simp_all [Sm.part,pM]
     · simp_all [Sm.part,pM]
     · simp_all [Sm.part,pM]
     · simp_all [Sm.part,pM]
    have h6:=H6.out
    rw [hpe] at h6
    obtain ⟨c0,c1,c2,c3,c4,c5,c6⟩:=h6.cells7
    simp only at c0 c1 c2 c3 c4 c5 c6
    obtain ⟨e1,e2⟩:=HYES.out ⟨hr.1,hr.2.1,hr.2.2,by by_cases hh : 0 < k <;> omega,by by_cases hh : 1 < k <;> omega,by by_cases hh : 2 < k <;> omega⟩
    have Q:=Hd (And.intro e1 e2);clear e1 e2 hr hv y h6 hpe
    go_wp2_with fail
    refine bodyPost_ret (v:=.tuple #[Sm.v ⟨a.fr,b.to,1,m0,m1,m2,0⟩,.bool true]) (two_results rfl _ _ _ 106 _ (0,0) _ rfl (row_set7 H3.out.2.2) Tryz.underlying106 rfl (by kernel_rfl) rfl) rfl ?_
    exact ⟨by obtain ⟨e1,e2⟩:=Q.out;subst e1;subst e2;rfl,below_set7 HB.out (by omega)⟩
set_option maxHeartbeats 8000000 in
theorem refThen_2 (a b : Sm) (w : World) (h : a.R) (h2 : b.R) (hd : a.to = b.fr) (hK : min a.kp b.kp = 2) : Calls Tryz.prog 111 #[a.v,b.v] w fun e w' => e = .returned (.tuple #[(a.th b).v,.bool (a.thB b)]) ∧ Below w.heap.size w w':=by
 have hno:=Sm.th_no (a:=a) (b:=b)
 have hyes:=Sm.th_yes (a:=a) (b:=b)
 obtain ⟨n,hnn⟩ : ∃ n : Nat,b.to = n:=⟨b.to.toNat,by unfold Sm.R at h2;omega⟩
 have hn3 : n ≤ 3:=by unfold Sm.R at h2;omega
 have hKn : 2 ≤ n:=by unfold Sm.R at h2;omega
 have m3 : a.M b 3 = 0:=Sm.M_out (by omega)
 have m4 : a.M b 4 = 0:=Sm.M_out (by omega)
 have m5 : a.M b 5 = 0:=Sm.M_out (by omega)
 have hs : a.seq b = ⟨a.fr,b.to,2,a.M b 1,a.M b 2,0,0⟩:=by unfold Sm.seq;rw [hK];simp [m3,m4,m5]
 rw [hs] at hyes
 unfold Sm.thenOk at hno hyes
 clear hs m3 m4 m5
 have y0 : n ≤ 0 → a.M b 0 = 0:=fun hh => Sm.M_out (by omega)
 have y1 : n ≤ 1 → a.M b 1 = 0:=fun hh => Sm.M_out (by omega)
 have y2 : n ≤ 2 → a.M b 2 = 0:=fun hh => Sm.M_out (by omega)
 have v0 : 0 < n → a.M b 0 = if (0 : Int) < b.kp then a.N 0 + b.N 0 else b.N 0:=fun hl => by unfold Sm.M;rw [if_pos (by rw [hnn];omega)]
 have v1 : 1 < n → a.M b 1 = if (1 : Int) < b.kp then a.N 1 + b.N 1 else b.N 1:=fun hl => by unfold Sm.M;rw [if_pos (by rw [hnn];omega)]
 have v2 : 2 < n → a.M b 2 = if (2 : Int) < b.kp then a.N 2 + b.N 2 else b.N 2:=fun hl => by unfold Sm.M;rw [if_pos (by rw [hnn];omega)]
 have nb:=And.intro (And.intro (Sm.N_R h 0) (And.intro (Sm.N_R h 1) (Sm.N_R h 2))) (And.intro (Sm.N_R h2 0) (And.intro (Sm.N_R h2 1) (Sm.N_R h2 2)))
 have hbk : b.kp ≤ a.to:=by unfold Sm.R at h2;omega
 have ca0:=fun (hl : (0 : Int) < b.kp) w => refAt_any a 0 w h (by omega)
 have ca1:=fun (hl : (1 : Int) < b.kp) w => refAt_any a 1 w h (by omega)
 have ca2:=fun (hl : (2 : Int) < b.kp) w => refAt_any a 2 w h (by omega)
 have cb0:=fun (hl : 0 < n) w => refAt_any b 0 w h2 (by rw [hnn];omega)
 have cb1:=fun (hl : 1 < n) w => refAt_any b 1 w h2 (by rw [hnn];omega)
 have cb2:=fun (hl : 2 < n) w => refAt_any b 2 w h2 (by rw [hnn];omega)
 simp only [Int.natCast_zero,Int.natCast_one] at ca0 ca1 cb0 cb1
 rw [show ((2 : Nat) : Int) = 2 from rfl] at ca2 cb2
 generalize a.M b 0 = m0 at *
 generalize a.M b 1 = m1 at *
 generalize a.M b 2 = m2 at *
 generalize a.N 0 = x0 at *
 generalize a.N 1 = x1 at *
 generalize a.N 2 = x2 at *
 generalize b.N 0 = z0 at *
 generalize b.N 1 = z1 at *
 generalize b.N 2 = z2 at *
 generalize a.th b = T at *
 generalize a.thB b = TB at *
 have hn : (a.to != b.fr) = false:=by simpa using hd
 have r1:=fun w => refRightM_true h w
 have r2:=fun w => refRightM_true h2 w
 have HNO:=Hd hno;have HYES:=Hd hyes;have HC:=Hd (And.intro h (And.intro h2 hd));have HNN:=Hd (And.intro hnn (And.intro hn3 hKn));have HK:=Hd hK;have Y:=Hd (And.intro y0 (And.intro y1 y2));have NB:=Hd nb
 clear hno hyes h h2 hd hnn hn3 hKn hK y0 y1 y2 nb hbk
 unfold Sm.v at ca0 ca1 ca2 cb0 cb1 cb2
 have h3:=Tri2.made w 106 a b
 have hbw:=ba3 w a b 106
 have H3:=Hd h3;have HB:=Hd hbw;clear h3 hbw
 have R1:=Hd r1;have R2:=Hd r2;have CA0:=Hd ca0;have CA1:=Hd ca1;have CA2:=Hd ca2;have CB0:=Hd cb0;have CB1:=Hd cb1;have CB2:=Hd cb2;have V0:=Hd v0;have V1:=Hd v1;have V2:=Hd v2;clear r1 r2 ca0 ca1 ca2 cb0 cb1 cb2 v0 v1 v2
 unfold Sm.v at *
 go_enter Tryz.func111,Tryz.ntmps111
 go_wp2_with fail
 refine (R1.out _).mono ?_;rintro e w2 ⟨rfl,hb2⟩
 have k3:=H3.out.below hb2
 have kb:=HB.out.trans (hb2.mono HB.out.size);clear H3 HB
 have H3:=Hd k3;have HB:=Hd kb;clear k3 kb hb2
 obtain ⟨a0,a1,a2,a3,a4,a5,a6⟩:=H3.out.1.cells7
 obtain ⟨b0,b1,b2,b3,b4,b5,b6⟩:=H3.out.2.1.cells7
 go_wp2_with fail
 clear a0 a1 a2 a3 a4 a5 a6 b0 b1 b2 b3 b4 b5 b6
 refine (R2.out _).mono ?_;rintro e w3 ⟨rfl,hb3⟩
 have k3:=H3.out.below hb3
 have kb:=HB.out.trans (hb3.mono HB.out.size);clear H3 HB
 have H3:=Hd k3;have HB:=Hd kb;clear k3 kb hb3
 obtain ⟨a0,a1,a2,a3,a4,a5,a6⟩:=H3.out.1.cells7
 obtain ⟨b0,b1,b2,b3,b4,b5,b6⟩:=H3.out.2.1.cells7
 go_wp2_with fail
 clear a0 a1 a2 a3 a4 a5 a6 b0 b1 b2 b3 b4 b5 b6
 clear R1 R2 hn
 have k6 : HoldsM (w3.alloc (.cells #[.int .i64 a.fr,.int .i64 b.to,.int .i64 0,.int .i64 0,.int .i64 0,.int .i64 0,.int .i64 0] 106)) w3.heap.size 106 ⟨a.fr,b.to,0,0,0,0,0⟩:=Row.made w3 _ _
 have k3:=H3.out.below ((Below.refl w3.heap.size w3).alloc (Nat.le_refl _) (.cells #[.int .i64 a.fr,.int .i64 b.to,.int .i64 0,.int .i64 0,.int .i64 0,.int .i64 0,.int .i64 0] 106))
 have kb:=HB.out.alloc HB.out.size (.cells #[.int .i64 a.fr,.int .i64 b.to,.int .i64 0,.int .i64 0,.int .i64 0,.int .i64 0,.int .i64 0] 106)
 have hg : w.heap.size + 1 + 1 < w3.heap.size:=H3.out.2.2.lt
 clear H3 HB
 generalize w3.alloc (.cells #[.int .i64 a.fr,.int .i64 b.to,.int .i64 0,.int .i64 0,.int .i64 0,.int .i64 0,.int .i64 0] 106) = w4 at *
 generalize w3.heap.size = g at *
 have H3:=Hd k3;have HB:=Hd kb;have H6:=Hd k6;have HG:=Hd hg;clear k3 kb k6 hg
 go_loopw [7] (fun i wr => ∃ (k : Nat),k ≤ n ∧ i = .int .i64 k ∧ Tri2 wr w.heap.size 106 a b ∧ HoldsM wr g 106 (Sm.part a.fr b.to 2 m0 m1 m2 k) ∧ Below w.heap.size w wr ∧ (0 < k → m0 < 16) ∧ (1 < k → m1 < 16) ∧ (2 < k → m2 < 16)) (fun i _ => n - (intOf i).toNat)
 case atStart => exact ⟨0,by omega,rfl,H3.out,H6.out,HB.out,by omega,by omega,by omega⟩
 case round =>
  obtain ⟨k,hk,rfl,h3,h6,hbw,hv⟩:=hrel
  clear H3 HB H6
  obtain ⟨b0,b1,b2,b3,b4,b5,b6⟩:=h3.2.1.cells7
  have H3:=Hd h3;have H6:=Hd h6;have HB:=Hd hbw;have HV:=Hd hv;clear h3 h6 hbw hv
  by_cases hlt : k < n
  · have hlt' : (k : Int) < b.to:=by have:=HNN.out.1;omega
    have hcase : k = 0 ∨ k = 1 ∨ k = 2:=by have:=HNN.out.2.1;omega
    rcases hcase with rfl | rfl | rfl
    · simp only [Int.natCast_zero,Int.natCast_one,Int.cast_ofNat_Int] at hlt'
      go_wp2_with fail
      refine (CB0.out hlt _).mono ?_;rintro e w5 ⟨rfl,hb5⟩
      dsimp only
      have h3:=H3.out.below hb5;have h6:=H6.out.below hb5;have hbw:=HB.out.trans (hb5.mono HB.out.size);clear H3 H6 HB hb5 b0 b1 b2 b3 b4 b5 b6
      have h6 : HoldsM w5 g 106 ⟨a.fr,b.to,0,0,0,0,0⟩:=h6
      have hl5:=h6.lt
      have hzl : w.heap.size + 1 + 1 < w5.heap.size:=h3.2.2.lt
      have hz0 : w.heap.size < w5.heap.size:=h3.1.lt
      have H3:=Hd h3;have H6:=Hd h6;have HB:=Hd hbw;clear h3 h6 hbw
      have hv:=V0.out hlt
      have hkb : (0 : Int) < b.kp:=by have:=HK.out;omega
      rw [if_pos hkb] at hv
      have hw:=IntWalk.i64_in (z0 + x0) (by have:=NB.out;omega)
      replace hw:=hw.trans ((Int.add_comm _ _).trans hv.symm)
      rw [decide_eq_true hkb]
      clear hv
      obtain ⟨a0,a1,a2,a3,a4,a5,a6⟩:=H3.out.1.cells7
      have ca:=CA0.out hkb
      rw [decide_eq_true (show (0 : Int) < a.kp by have:=HK.out;omega)] at ca
      have CA:=Hd ca;clear ca hkb
      go_wp2_with fail
      have r8 : Row (w5.alloc (.cells #[.bool true,.int .i64 z0] 161)) w5.heap.size 161 [.bool true,.int .i64 z0]:=Row.made w5 _ _
      have h3 : Tri2 (w5.alloc (.cells #[.bool true,.int .i64 z0] 161)) w.heap.size 106 a b:=H3.out.below ((Below.refl _ _).alloc (Nat.le_refl _) _)
      have h6:=HoldsM.alloc H6.out (.cells #[.bool true,.int .i64 z0] 161)
      have hbw:=HB.out.alloc HB.out.size (.cells #[.bool true,.int .i64 z0] 161)
      clear a0 a1 a2 a3 a4 a5 a6 H3 H6 HB
      have hs5 : (w5.alloc (.cells #[.bool true,.int .i64 z0] 161)).heap.size = w5.heap.size + 1:=by simp
      have hws : w.heap.size ≤ w5.heap.size:=by omega
      generalize w5.alloc (.cells #[.bool true,.int .i64 z0] 161) = W5 at *
      generalize w5.heap.size = g8 at *
      have H3:=Hd h3;have H6:=Hd h6;have HB:=Hd hbw;have R8:=Hd r8;clear h3 h6 hbw r8
      refine (CA.out _).mono ?_;rintro e w6 ⟨rfl,hb6⟩
      dsimp only
      have h3:=H3.out.below hb6;have h6:=H6.out.below hb6;have hbw:=HB.out.trans (hb6.mono HB.out.size);have r8:=Row.below R8.out hb6 (by omega)
      have hl8 : g8 < w6.heap.size:=r8.lt
      have hl6 : g < w6.heap.size:=h6.lt
      have hz6 : w.heap.size + 1 + 1 < w6.heap.size:=h3.2.2.lt
      clear H3 H6 HB R8 hb6 CA
      have e0:=r8.cell 0;have e1:=r8.cell 1;have e2:=r8.free 0;have e3:=r8.free 1
      simp only [List.getElem?_cons_succ,List.getElem?_cons_zero] at e0 e1
      have H3:=Hd h3;have H6:=Hd h6;have HB:=Hd hbw;clear h3 h6 hbw r8
      obtain ⟨c0,c1,c2,c3,c4,c5,c6⟩:=H6.out.cells7
      obtain ⟨d0,d1,d2,d3,d4,d5,d6⟩:=H6.out.free7
      simp only at c0 c1 c2 c3 c4 c5 c6
      obtain ⟨q0,q1,q2,q3,q4,q5,q6⟩:=H3.out.2.2.cells7
      obtain ⟨f0,f1,f2,f3,f4,f5,f6⟩:=H3.out.2.2.free7
      by_cases hbig : (16 : Int) ≤ m0
      · have hvb:=HV.out
        obtain ⟨e1,e2⟩:=HNO.out (fun hh => by have:=hh.2.2.2;omega)
        have Q:=Hd (And.intro e1 e2);clear e1 e2 hvb
        go_wp2_with fail
        refine bodyPost_ret (v:=.tuple #[.agg #[.int .i64 0,.int .i64 0,.int .i64 0,.int .i64 0,.int .i64 0,.int .i64 0,.int .i64 0],.bool false]) (two_results rfl _ _ _ 106 _ (0,0) _ rfl (Row.alloc (row_set7 (Row.far (Row.far H3.out.2.2 (by simp;omega) _) (by simp;omega) _)) _) Tryz.underlying106 rfl (by kernel_rfl) rfl) rfl ?_
        exact ⟨by obtain ⟨e1,e2⟩:=Q.out;subst e1;subst e2;rfl,(below_set7 ((HB.out.setCell (by simp;omega) _).setCell (by simp;omega) _) (by omega)).alloc (below_set7 ((HB.out.setCell (by simp;omega) _).setCell (by simp;omega) _) (by omega)).size _⟩
      · go_wp2_with fail
        go_roundw
        case rel =>
         have hg:=HG.out
         refine ⟨1,by omega,rfl,⟨Row.alloc (Row.far (Row.far (Row.far (Row.far H3.out.1 (by simp;omega) _) (by simp;omega) _) (by simp;omega) _) (by simp;omega) _) _,Row.alloc (Row.far (Row.far (Row.far (Row.far H3.out.2.1 (by simp;omega) _) (by simp;omega) _) (by simp;omega) _) (by simp;omega) _) _,Row.alloc (Row.far (Row.far (Row.far (Row.far H3.out.2.2 (by simp;omega) _) (by simp;omega) _) (by simp;omega) _) (by simp;omega) _) _⟩,?_,((((HB.out.setCell (by simp;omega) _).setCell (by simp;omega) _).setCell (by simp;omega) _).setCell (by simp;omega) _).alloc ((((HB.out.setCell (by simp;omega) _).setCell (by simp;omega) _).setCell (by simp;omega) _).setCell (by simp;omega) _).size _,?_⟩
         · exact Row.alloc (Row.put (Row.put (Row.far (Row.far H6.out (by simp;omega) _) (by simp;omega) _) 2 _) 3 _) _
         · have:=HV.out;omega
        case measure => simp [intOf];omega
    · simp only [Int.natCast_zero,Int.natCast_one,Int.cast_ofNat_Int] at hlt'
      go_wp2_with fail
      refine (CB1.out hlt _).mono ?_;rintro e w5 ⟨rfl,hb5⟩
      dsimp only
      have h3:=H3.out.below hb5;have h6:=H6.out.below hb5;have hbw:=HB.out.trans (hb5.mono HB.out.size);clear H3 H6 HB hb5 b0 b1 b2 b3 b4 b5 b6
      have h6 : HoldsM w5 g 106 ⟨a.fr,b.to,1,m0,0,0,0⟩:=h6
      have hl5:=h6.lt
      have hzl : w.heap.size + 1 + 1 < w5.heap.size:=h3.2.2.lt
      have hz0 : w.heap.size < w5.heap.size:=h3.1.lt
      have H3:=Hd h3;have H6:=Hd h6;have HB:=Hd hbw;clear h3 h6 hbw
      have hv:=V1.out hlt
      have hkb : (1 : Int) < b.kp:=by have:=HK.out;omega
      rw [if_pos hkb] at hv
      have hw:=IntWalk.i64_in (z1 + x1) (by have:=NB.out;omega)
      replace hw:=hw.trans ((Int.add_comm _ _).trans hv.symm)
      rw [decide_eq_true hkb]
      clear hv
      obtain ⟨a0,a1,a2,a3,a4,a5,a6⟩:=H3.out.1.cells7
      have ca:=CA1.out hkb
      rw [decide_eq_true (show (1 : Int) < a.kp by have:=HK.out;omega)] at ca
      have CA:=Hd ca;clear ca hkb
      go_wp2_with fail
      have r8 : Row (w5.alloc (.cells #[.bool true,.int .i64 z1] 161)) w5.heap.size 161 [.bool true,.int .i64 z1]:=Row.made w5 _ _
      have h3 : Tri2 (w5.alloc (.cells #[.bool true,.int .i64 z1] 161)) w.heap.size 106 a b:=H3.out.below ((Below.refl _ _).alloc (Nat.le_refl _) _)
      have h6:=HoldsM.alloc H6.out (.cells #[.bool true,.int .i64 z1] 161)
      have hbw:=HB.out.alloc HB.out.size (.cells #[.bool true,.int .i64 z1] 161)
      clear a0 a1 a2 a3 a4 a5 a6 H3 H6 HB
      have hs5 : (w5.alloc (.cells #[.bool true,.int .i64 z1] 161)).heap.size = w5.heap.size + 1:=by simp
      have hws : w.heap.size ≤ w5.heap.size:=by omega
      generalize w5.alloc (.cells #[.bool true,.int .i64 z1] 161) = W5 at *
      generalize w5.heap.size = g8 at *
      have H3:=Hd h3;have H6:=Hd h6;have HB:=Hd hbw;have R8:=Hd r8;clear h3 h6 hbw r8
      refine (CA.out _).mono ?_;rintro e w6 ⟨rfl,hb6⟩
      dsimp only
      have h3:=H3.out.below hb6;have h6:=H6.out.below hb6;have hbw:=HB.out.trans (hb6.mono HB.out.size);have r8:=Row.below R8.out hb6 (by omega)
      have hl8 : g8 < w6.heap.size:=r8.lt
      have hl6 : g < w6.heap.size:=h6.lt
      have hz6 : w.heap.size + 1 + 1 < w6.heap.size:=h3.2.2.lt
      clear H3 H6 HB R8 hb6 CA
      have e0:=r8.cell 0;have e1:=r8.cell 1;have e2:=r8.free 0;have e3:=r8.free 1
      simp only [List.getElem?_cons_succ,List.getElem?_cons_zero] at e0 e1
      have H3:=Hd h3;have H6:=Hd h6;have HB:=Hd hbw;clear h3 h6 hbw r8
      obtain ⟨c0,c1,c2,c3,c4,c5,c6⟩:=H6.out.cells7
      obtain ⟨d0,d1,d2,d3,d4,d5,d6⟩:=H6.out.free7
      simp only at c0 c1 c2 c3 c4 c5 c6
      obtain ⟨q0,q1,q2,q3,q4,q5,q6⟩:=H3.out.2.2.cells7
      obtain ⟨f0,f1,f2,f3,f4,f5,f6⟩:=H3.out.2.2.free7
      by_cases hbig : (16 : Int) ≤ m1
      · have hvb:=HV.out
        obtain ⟨e1,e2⟩:=HNO.out (fun hh => by have:=hh.2.2.2;omega)
        have Q:=Hd (And.intro e1 e2);clear e1 e2 hvb
        go_wp2_with fail
        refine bodyPost_ret (v:=.tuple #[.agg #[.int .i64 0,.int .i64 0,.int .i64 0,.int .i64 0,.int .i64 0,.int .i64 0,.int .i64 0],.bool false]) (two_results rfl _ _ _ 106 _ (0,0) _ rfl (Row.alloc (row_set7 (Row.far (Row.far H3.out.2.2 (by simp;omega) _) (by simp;omega) _)) _) Tryz.underlying106 rfl (by kernel_rfl) rfl) rfl ?_
        exact ⟨by obtain ⟨e1,e2⟩:=Q.out;subst e1;subst e2;rfl,(below_set7 ((HB.out.setCell (by simp;omega) _).setCell (by simp;omega) _) (by omega)).alloc (below_set7 ((HB.out.setCell (by simp;omega) _).setCell (by simp;omega) _) (by omega)).size _⟩
      · go_wp2_with fail
        go_roundw
        case rel =>
         have hg:=HG.out
         refine ⟨2,by omega,rfl,⟨Row.alloc (Row.far (Row.far (Row.far (Row.far H3.out.1 (by simp;omega) _) (by simp;omega) _) (by simp;omega) _) (by simp;omega) _) _,Row.alloc (Row.far (Row.far (Row.far (Row.far H3.out.2.1 (by simp;omega) _) (by simp;omega) _) (by simp;omega) _) (by simp;omega) _) _,Row.alloc (Row.far (Row.far (Row.far (Row.far H3.out.2.2 (by simp;omega) _) (by simp;omega) _) (by simp;omega) _) (by simp;omega) _) _⟩,?_,((((HB.out.setCell (by simp;omega) _).setCell (by simp;omega) _).setCell (by simp;omega) _).setCell (by simp;omega) _).alloc ((((HB.out.setCell (by simp;omega) _).setCell (by simp;omega) _).setCell (by simp;omega) _).setCell (by simp;omega) _).size _,?_⟩
         · exact Row.alloc (Row.put (Row.put (Row.far (Row.far H6.out (by simp;omega) _) (by simp;omega) _) 2 _) 3 _) _
         · have:=HV.out;omega
        case measure => simp [intOf];omega
    · simp only [Int.natCast_zero,Int.natCast_one,Int.cast_ofNat_Int] at hlt'
      go_wp2_with fail
      refine (CB2.out hlt _).mono ?_;rintro e w5 ⟨rfl,hb5⟩
      dsimp only
      have h3:=H3.out.below hb5;have h6:=H6.out.below hb5;have hbw:=HB.out.trans (hb5.mono HB.out.size);clear H3 H6 HB hb5 b0 b1 b2 b3 b4 b5 b6
      have h6 : HoldsM w5 g 106 ⟨a.fr,b.to,2,m1,0,0,0⟩:=h6
      have hl5:=h6.lt
      have hzl : w.heap.size + 1 + 1 < w5.heap.size:=h3.2.2.lt
      have hz0 : w.heap.size < w5.heap.size:=h3.1.lt
      have H3:=Hd h3;have H6:=Hd h6;have HB:=Hd hbw;clear h3 h6 hbw
      have hv:=V2.out hlt
      by_cases hkb : (2 : Int) < b.kp
      case neg =>
       rw [if_neg hkb] at hv
       obtain rfl:=hv
       rw [decide_eq_false hkb]
       clear hkb
       obtain ⟨c0,c1,c2,c3,c4,c5,c6⟩:=H6.out.cells7
       obtain ⟨d0,d1,d2,d3,d4,d5,d6⟩:=H6.out.free7
       simp only at c0 c1 c2 c3 c4 c5 c6
       obtain ⟨q0,q1,q2,q3,q4,q5,q6⟩:=H3.out.2.2.cells7
       obtain ⟨f0,f1,f2,f3,f4,f5,f6⟩:=H3.out.2.2.free7
       by_cases hbig : (16 : Int) ≤ m2
       · have hvb:=HV.out
         obtain ⟨e1,e2⟩:=HNO.out (fun hh => by have:=hh.2.2.2;omega)
         have Q:=Hd (And.intro e1 e2);clear e1 e2 hvb
         go_wp2_with fail
         refine bodyPost_ret (v:=.tuple #[.agg #[.int .i64 0,.int .i64 0,.int .i64 0,.int .i64 0,.int .i64 0,.int .i64 0,.int .i64 0],.bool false]) (two_results rfl _ _ _ 106 _ (0,0) _ rfl (Row.alloc (row_set7 (H3.out.2.2)) _) Tryz.underlying106 rfl (by kernel_rfl) rfl) rfl ?_
         exact ⟨by obtain ⟨e1,e2⟩:=Q.out;subst e1;subst e2;rfl,(below_set7 HB.out (by omega)).alloc (below_set7 HB.out (by omega)).size _⟩
       · go_wp2_with fail
         go_roundw
         case rel =>
          have hg:=HG.out
          refine ⟨3,by omega,rfl,⟨Row.alloc (Row.far (H3.out.1) (by simp;omega) _) _,Row.alloc (Row.far (H3.out.2.1) (by simp;omega) _) _,Row.alloc (Row.far (H3.out.2.2) (by simp;omega) _) _⟩,?_,(HB.out.setCell (by simp;omega) _).alloc (HB.out.setCell (by simp;omega) _).size _,?_⟩
          · exact Row.alloc (Row.put (H6.out) 4 _) _
          · have:=HV.out;omega
         case measure => simp [intOf];omega
      case pos =>
       rw [if_pos hkb] at hv
       have hw:=IntWalk.i64_in (z2 + x2) (by have:=NB.out;omega)
       replace hw:=hw.trans ((Int.add_comm _ _).trans hv.symm)
       rw [decide_eq_true hkb]
       clear hv
       obtain ⟨a0,a1,a2,a3,a4,a5,a6⟩:=H3.out.1.cells7
       have ca:=CA2.out hkb
       rw [decide_eq_false (fun hh : (2 : Int) < a.kp => by have:=HK.out;omega)] at ca
       have CA:=Hd ca;clear ca hkb
       go_wp2_with fail
       have r8 : Row (w5.alloc (.cells #[.bool true,.int .i64 z2] 161)) w5.heap.size 161 [.bool true,.int .i64 z2]:=Row.made w5 _ _
       have h3 : Tri2 (w5.alloc (.cells #[.bool true,.int .i64 z2] 161)) w.heap.size 106 a b:=H3.out.below ((Below.refl _ _).alloc (Nat.le_refl _) _)
       have h6:=HoldsM.alloc H6.out (.cells #[.bool true,.int .i64 z2] 161)
       have hbw:=HB.out.alloc HB.out.size (.cells #[.bool true,.int .i64 z2] 161)
       clear a0 a1 a2 a3 a4 a5 a6 H3 H6 HB
       have hs5 : (w5.alloc (.cells #[.bool true,.int .i64 z2] 161)).heap.size = w5.heap.size + 1:=by simp
       have hws : w.heap.size ≤ w5.heap.size:=by omega
       generalize w5.alloc (.cells #[.bool true,.int .i64 z2] 161) = W5 at *
       generalize w5.heap.size = g8 at *
       have H3:=Hd h3;have H6:=Hd h6;have HB:=Hd hbw;have R8:=Hd r8;clear h3 h6 hbw r8
       refine (CA.out _).mono ?_;rintro e w6 ⟨rfl,hb6⟩
       dsimp only
       have h3:=H3.out.below hb6;have h6:=H6.out.below hb6;have hbw:=HB.out.trans (hb6.mono HB.out.size);have r8:=Row.below R8.out hb6 (by omega)
       have hl8 : g8 < w6.heap.size:=r8.lt
       have hl6 : g < w6.heap.size:=h6.lt
       have hz6 : w.heap.size + 1 + 1 < w6.heap.size:=h3.2.2.lt
       clear H3 H6 HB R8 hb6 CA
       have e0:=r8.cell 0;have e1:=r8.cell 1;have e2:=r8.free 0;have e3:=r8.free 1
       simp only [List.getElem?_cons_succ,List.getElem?_cons_zero] at e0 e1
       have H3:=Hd h3;have H6:=Hd h6;have HB:=Hd hbw;clear h3 h6 hbw r8
       obtain ⟨c0,c1,c2,c3,c4,c5,c6⟩:=H6.out.cells7
       obtain ⟨d0,d1,d2,d3,d4,d5,d6⟩:=H6.out.free7
       simp only at c0 c1 c2 c3 c4 c5 c6
       obtain ⟨q0,q1,q2,q3,q4,q5,q6⟩:=H3.out.2.2.cells7
       obtain ⟨f0,f1,f2,f3,f4,f5,f6⟩:=H3.out.2.2.free7
       by_cases hbig : (16 : Int) ≤ m2
       · have hvb:=HV.out
         obtain ⟨e1,e2⟩:=HNO.out (fun hh => by have:=hh.2.2.2;omega)
         have Q:=Hd (And.intro e1 e2);clear e1 e2 hvb
         go_wp2_with fail
         refine bodyPost_ret (v:=.tuple #[.agg #[.int .i64 0,.int .i64 0,.int .i64 0,.int .i64 0,.int .i64 0,.int .i64 0,.int .i64 0],.bool false]) (two_results rfl _ _ _ 106 _ (0,0) _ rfl (Row.alloc (row_set7 (Row.far (Row.far H3.out.2.2 (by simp;omega) _) (by simp;omega) _)) _) Tryz.underlying106 rfl (by kernel_rfl) rfl) rfl ?_
         exact ⟨by obtain ⟨e1,e2⟩:=Q.out;subst e1;subst e2;rfl,(below_set7 ((HB.out.setCell (by simp;omega) _).setCell (by simp;omega) _) (by omega)).alloc (below_set7 ((HB.out.setCell (by simp;omega) _).setCell (by simp;omega) _) (by omega)).size _⟩
       · go_wp2_with fail
         go_roundw
         case rel =>
          have hg:=HG.out
          refine ⟨3,by omega,rfl,⟨Row.alloc (Row.far (Row.far (Row.far H3.out.1 (by simp;omega) _) (by simp;omega) _) (by simp;omega) _) _,Row.alloc (Row.far (Row.far (Row.far H3.out.2.1 (by simp;omega) _) (by simp;omega) _) (by simp;omega) _) _,Row.alloc (Row.far (Row.far (Row.far H3.out.2.2 (by simp;omega) _) (by simp;omega) _) (by simp;omega) _) _⟩,?_,(((HB.out.setCell (by simp;omega) _).setCell (by simp;omega) _).setCell (by simp;omega) _).alloc (((HB.out.setCell (by simp;omega) _).setCell (by simp;omega) _).setCell (by simp;omega) _).size _,?_⟩
          · exact Row.alloc (Row.put (Row.far (Row.far H6.out (by simp;omega) _) (by simp;omega) _) 4 _) _
          · have:=HV.out;omega
         case measure => simp [intOf];omega
  · have hkn : k = n:=by omega
    subst hkn
    have hge : ¬ (k : Int) < b.to:=by have:=HNN.out.1;omega
    obtain ⟨q0,q1,q2,q3,q4,q5,q6⟩:=H3.out.2.2.cells7
    obtain ⟨f0,f1,f2,f3,f4,f5,f6⟩:=H3.out.2.2.free7
    have hr:=HC.out
    have hv:=HV.out
    have y:=Y.out
    have hpe : Sm.part a.fr b.to 2 m0 m1 m2 k = ⟨a.fr,b.to,2,m1,m2,0,0⟩:=by
     have hk3:=HNN.out.2
     have hk4 : k = 0 ∨ k = 1 ∨ k = 2 ∨ k = 3:=by omega
     rcases hk4 with rfl | rfl | rfl | rfl
     · simp_all [Sm.part,pM]
     · simp_all [Sm.part,pM]
     · simp_all [Sm.part,pM]
     · simp_all [Sm.part,pM]
    have h6:=H6.out
    rw [hpe] at h6
    obtain ⟨c0,c1,c2,c3,c4,c5,c6⟩:=h6.cells7
    simp only at c0 c1 c2 c3 c4 c5 c6
    obtain ⟨e1,e2⟩:=HYES.out ⟨hr.1,hr.2.1,hr.2.2,by by_cases hh : 0 < k <;> omega,by by_cases hh : 1 < k <;> omega,by by_cases hh : 2 < k <;> omega⟩
    have Q:=Hd (And.intro e1 e2);clear e1 e2 hr hv y h6 hpe
    go_wp2_with fail
    refine bodyPost_ret (v:=.tuple #[Sm.v ⟨a.fr,b.to,2,m1,m2,0,0⟩,.bool true]) (two_results rfl _ _ _ 106 _ (0,0) _ rfl (row_set7 H3.out.2.2) Tryz.underlying106 rfl (by kernel_rfl) rfl) rfl ?_
    exact ⟨by obtain ⟨e1,e2⟩:=Q.out;subst e1;subst e2;rfl,below_set7 HB.out (by omega)⟩
set_option maxHeartbeats 8000000 in
theorem refThen_3 (a b : Sm) (w : World) (h : a.R) (h2 : b.R) (hd : a.to = b.fr) (hK : min a.kp b.kp = 3) : Calls Tryz.prog 111 #[a.v,b.v] w fun e w' => e = .returned (.tuple #[(a.th b).v,.bool (a.thB b)]) ∧ Below w.heap.size w w':=by
 have hno:=Sm.th_no (a:=a) (b:=b)
 have hyes:=Sm.th_yes (a:=a) (b:=b)
 obtain ⟨n,hnn⟩ : ∃ n : Nat,b.to = n:=⟨b.to.toNat,by unfold Sm.R at h2;omega⟩
 have hn3 : n ≤ 3:=by unfold Sm.R at h2;omega
 have hKn : 3 ≤ n:=by unfold Sm.R at h2;omega
 have m3 : a.M b 3 = 0:=Sm.M_out (by omega)
 have m4 : a.M b 4 = 0:=Sm.M_out (by omega)
 have m5 : a.M b 5 = 0:=Sm.M_out (by omega)
 have hs : a.seq b = ⟨a.fr,b.to,3,a.M b 2,0,0,0⟩:=by unfold Sm.seq;rw [hK];simp [m3,m4,m5]
 rw [hs] at hyes
 unfold Sm.thenOk at hno hyes
 clear hs m3 m4 m5
 have y0 : n ≤ 0 → a.M b 0 = 0:=fun hh => Sm.M_out (by omega)
 have y1 : n ≤ 1 → a.M b 1 = 0:=fun hh => Sm.M_out (by omega)
 have y2 : n ≤ 2 → a.M b 2 = 0:=fun hh => Sm.M_out (by omega)
 have v0 : 0 < n → a.M b 0 = if (0 : Int) < b.kp then a.N 0 + b.N 0 else b.N 0:=fun hl => by unfold Sm.M;rw [if_pos (by rw [hnn];omega)]
 have v1 : 1 < n → a.M b 1 = if (1 : Int) < b.kp then a.N 1 + b.N 1 else b.N 1:=fun hl => by unfold Sm.M;rw [if_pos (by rw [hnn];omega)]
 have v2 : 2 < n → a.M b 2 = if (2 : Int) < b.kp then a.N 2 + b.N 2 else b.N 2:=fun hl => by unfold Sm.M;rw [if_pos (by rw [hnn];omega)]
 have nb:=And.intro (And.intro (Sm.N_R h 0) (And.intro (Sm.N_R h 1) (Sm.N_R h 2))) (And.intro (Sm.N_R h2 0) (And.intro (Sm.N_R h2 1) (Sm.N_R h2 2)))
 have hbk : b.kp ≤ a.to:=by unfold Sm.R at h2;omega
 have ca0:=fun (hl : (0 : Int) < b.kp) w => refAt_any a 0 w h (by omega)
 have ca1:=fun (hl : (1 : Int) < b.kp) w => refAt_any a 1 w h (by omega)
 have ca2:=fun (hl : (2 : Int) < b.kp) w => refAt_any a 2 w h (by omega)
 have cb0:=fun (hl : 0 < n) w => refAt_any b 0 w h2 (by rw [hnn];omega)
 have cb1:=fun (hl : 1 < n) w => refAt_any b 1 w h2 (by rw [hnn];omega)
 have cb2:=fun (hl : 2 < n) w => refAt_any b 2 w h2 (by rw [hnn];omega)
 simp only [Int.natCast_zero,Int.natCast_one] at ca0 ca1 cb0 cb1
 rw [show ((2 : Nat) : Int) = 2 from rfl] at ca2 cb2
 generalize a.M b 0 = m0 at *
 generalize a.M b 1 = m1 at *
 generalize a.M b 2 = m2 at *
 generalize a.N 0 = x0 at *
 generalize a.N 1 = x1 at *
 generalize a.N 2 = x2 at *
 generalize b.N 0 = z0 at *
 generalize b.N 1 = z1 at *
 generalize b.N 2 = z2 at *
 generalize a.th b = T at *
 generalize a.thB b = TB at *
 have hn : (a.to != b.fr) = false:=by simpa using hd
 have r1:=fun w => refRightM_true h w
 have r2:=fun w => refRightM_true h2 w
 have HNO:=Hd hno;have HYES:=Hd hyes;have HC:=Hd (And.intro h (And.intro h2 hd));have HNN:=Hd (And.intro hnn (And.intro hn3 hKn));have HK:=Hd hK;have Y:=Hd (And.intro y0 (And.intro y1 y2));have NB:=Hd nb
 clear hno hyes h h2 hd hnn hn3 hKn hK y0 y1 y2 nb hbk
 unfold Sm.v at ca0 ca1 ca2 cb0 cb1 cb2
 have h3:=Tri2.made w 106 a b
 have hbw:=ba3 w a b 106
 have H3:=Hd h3;have HB:=Hd hbw;clear h3 hbw
 have R1:=Hd r1;have R2:=Hd r2;have CA0:=Hd ca0;have CA1:=Hd ca1;have CA2:=Hd ca2;have CB0:=Hd cb0;have CB1:=Hd cb1;have CB2:=Hd cb2;have V0:=Hd v0;have V1:=Hd v1;have V2:=Hd v2;clear r1 r2 ca0 ca1 ca2 cb0 cb1 cb2 v0 v1 v2
 unfold Sm.v at *
 go_enter Tryz.func111,Tryz.ntmps111
 go_wp2_with fail
 refine (R1.out _).mono ?_;rintro e w2 ⟨rfl,hb2⟩
 have k3:=H3.out.below hb2
 have kb:=HB.out.trans (hb2.mono HB.out.size);clear H3 HB
 have H3:=Hd k3;have HB:=Hd kb;clear k3 kb hb2
 obtain ⟨a0,a1,a2,a3,a4,a5,a6⟩:=H3.out.1.cells7
 obtain ⟨b0,b1,b2,b3,b4,b5,b6⟩:=H3.out.2.1.cells7
 go_wp2_with fail
 clear a0 a1 a2 a3 a4 a5 a6 b0 b1 b2 b3 b4 b5 b6
 refine (R2.out _).mono ?_;rintro e w3 ⟨rfl,hb3⟩
 have k3:=H3.out.below hb3
 have kb:=HB.out.trans (hb3.mono HB.out.size);clear H3 HB
 have H3:=Hd k3;have HB:=Hd kb;clear k3 kb hb3
 obtain ⟨a0,a1,a2,a3,a4,a5,a6⟩:=H3.out.1.cells7
 obtain ⟨b0,b1,b2,b3,b4,b5,b6⟩:=H3.out.2.1.cells7
 go_wp2_with fail
 clear a0 a1 a2 a3 a4 a5 a6 b0 b1 b2 b3 b4 b5 b6
 clear R1 R2 hn
 have k6 : HoldsM (w3.alloc (.cells #[.int .i64 a.fr,.int .i64 b.to,.int .i64 0,.int .i64 0,.int .i64 0,.int .i64 0,.int .i64 0] 106)) w3.heap.size 106 ⟨a.fr,b.to,0,0,0,0,0⟩:=Row.made w3 _ _
 have k3:=H3.out.below ((Below.refl w3.heap.size w3).alloc (Nat.le_refl _) (.cells #[.int .i64 a.fr,.int .i64 b.to,.int .i64 0,.int .i64 0,.int .i64 0,.int .i64 0,.int .i64 0] 106))
 have kb:=HB.out.alloc HB.out.size (.cells #[.int .i64 a.fr,.int .i64 b.to,.int .i64 0,.int .i64 0,.int .i64 0,.int .i64 0,.int .i64 0] 106)
 have hg : w.heap.size + 1 + 1 < w3.heap.size:=H3.out.2.2.lt
 clear H3 HB
 generalize w3.alloc (.cells #[.int .i64 a.fr,.int .i64 b.to,.int .i64 0,.int .i64 0,.int .i64 0,.int .i64 0,.int .i64 0] 106) = w4 at *
 generalize w3.heap.size = g at *
 have H3:=Hd k3;have HB:=Hd kb;have H6:=Hd k6;have HG:=Hd hg;clear k3 kb k6 hg
 go_loopw [7] (fun i wr => ∃ (k : Nat),k ≤ n ∧ i = .int .i64 k ∧ Tri2 wr w.heap.size 106 a b ∧ HoldsM wr g 106 (Sm.part a.fr b.to 3 m0 m1 m2 k) ∧ Below w.heap.size w wr ∧ (0 < k → m0 < 16) ∧ (1 < k → m1 < 16) ∧ (2 < k → m2 < 16)) (fun i _ => n - (intOf i).toNat)
 case atStart => exact ⟨0,by omega,rfl,H3.out,H6.out,HB.out,by omega,by omega,by omega⟩
 case round =>
  obtain ⟨k,hk,rfl,h3,h6,hbw,hv⟩:=hrel
  clear H3 HB H6
  obtain ⟨b0,b1,b2,b3,b4,b5,b6⟩:=h3.2.1.cells7
  have H3:=Hd h3;have H6:=Hd h6;have HB:=Hd hbw;have HV:=Hd hv;clear h3 h6 hbw hv
  by_cases hlt : k < n
  · have hlt' : (k : Int) < b.to:=by have:=HNN.out.1;omega
    have hcase : k = 0 ∨ k = 1 ∨ k = 2:=by have:=HNN.out.2.1;omega
    rcases hcase with rfl | rfl | rfl
    · simp only [Int.natCast_zero,Int.natCast_one,Int.cast_ofNat_Int] at hlt'
      go_wp2_with fail
      refine (CB0.out hlt _).mono ?_;rintro e w5 ⟨rfl,hb5⟩
      dsimp only
      have h3:=H3.out.below hb5;have h6:=H6.out.below hb5;have hbw:=HB.out.trans (hb5.mono HB.out.size);clear H3 H6 HB hb5 b0 b1 b2 b3 b4 b5 b6
      have h6 : HoldsM w5 g 106 ⟨a.fr,b.to,0,0,0,0,0⟩:=h6
      have hl5:=h6.lt
      have hzl : w.heap.size + 1 + 1 < w5.heap.size:=h3.2.2.lt
      have hz0 : w.heap.size < w5.heap.size:=h3.1.lt
      have H3:=Hd h3;have H6:=Hd h6;have HB:=Hd hbw;clear h3 h6 hbw
      have hv:=V0.out hlt
      have hkb : (0 : Int) < b.kp:=by have:=HK.out;omega
      rw [if_pos hkb] at hv
      have hw:=IntWalk.i64_in (z0 + x0) (by have:=NB.out;omega)
      replace hw:=hw.trans ((Int.add_comm _ _).trans hv.symm)
      rw [decide_eq_true hkb]
      clear hv
      obtain ⟨a0,a1,a2,a3,a4,a5,a6⟩:=H3.out.1.cells7
      have ca:=CA0.out hkb
      rw [decide_eq_true (show (0 : Int) < a.kp by have:=HK.out;omega)] at ca
      have CA:=Hd ca;clear ca hkb
      go_wp2_with fail
      have r8 : Row (w5.alloc (.cells #[.bool true,.int .i64 z0] 161)) w5.heap.size 161 [.bool true,.int .i64 z0]:=Row.made w5 _ _
      have h3 : Tri2 (w5.alloc (.cells #[.bool true,.int .i64 z0] 161)) w.heap.size 106 a b:=H3.out.below ((Below.refl _ _).alloc (Nat.le_refl _) _)
      have h6:=HoldsM.alloc H6.out (.cells #[.bool true,.int .i64 z0] 161)
      have hbw:=HB.out.alloc HB.out.size (.cells #[.bool true,.int .i64 z0] 161)
      clear a0 a1 a2 a3 a4 a5 a6 H3 H6 HB
      have hs5 : (w5.alloc (.cells #[.bool true,.int .i64 z0] 161)).heap.size = w5.heap.size + 1:=by simp
      have hws : w.heap.size ≤ w5.heap.size:=by omega
      generalize w5.alloc (.cells #[.bool true,.int .i64 z0] 161) = W5 at *
      generalize w5.heap.size = g8 at *
      have H3:=Hd h3;have H6:=Hd h6;have HB:=Hd hbw;have R8:=Hd r8;clear h3 h6 hbw r8
      refine (CA.out _).mono ?_;rintro e w6 ⟨rfl,hb6⟩
      dsimp only
      have h3:=H3.out.below hb6;have h6:=H6.out.below hb6;have hbw:=HB.out.trans (hb6.mono HB.out.size);have r8:=Row.below R8.out hb6 (by omega)
      have hl8 : g8 < w6.heap.size:=r8.lt
      have hl6 : g < w6.heap.size:=h6.lt
      have hz6 : w.heap.size + 1 + 1 < w6.heap.size:=h3.2.2.lt
      clear H3 H6 HB R8 hb6 CA
      have e0:=r8.cell 0;have e1:=r8.cell 1;have e2:=r8.free 0;have e3:=r8.free 1
      simp only [List.getElem?_cons_succ,List.getElem?_cons_zero] at e0 e1
      have H3:=Hd h3;have H6:=Hd h6;have HB:=Hd hbw;clear h3 h6 hbw r8
      obtain ⟨c0,c1,c2,c3,c4,c5,c6⟩:=H6.out.cells7
      obtain ⟨d0,d1,d2,d3,d4,d5,d6⟩:=H6.out.free7
      simp only at c0 c1 c2 c3 c4 c5 c6
      obtain ⟨q0,q1,q2,q3,q4,q5,q6⟩:=H3.out.2.2.cells7
      obtain ⟨f0,f1,f2,f3,f4,f5,f6⟩:=H3.out.2.2.free7
      by_cases hbig : (16 : Int) ≤ m0
      · have hvb:=HV.out
        obtain ⟨e1,e2⟩:=HNO.out (fun hh => by have:=hh.2.2.2;omega)
        have Q:=Hd (And.intro e1 e2);clear e1 e2 hvb
        go_wp2_with fail
        refine bodyPost_ret (v:=.tuple #[.agg #[.int .i64 0,.int .i64 0,.int .i64 0,.int .i64 0,.int .i64 0,.int .i64 0,.int .i64 0],.bool false]) (two_results rfl _ _ _ 106 _ (0,0) _ rfl (Row.alloc (row_set7 (Row.far (Row.far H3.out.2.2 (by simp;omega) _) (by simp;omega) _)) _) Tryz.underlying106 rfl (by kernel_rfl) rfl) rfl ?_
        exact ⟨by obtain ⟨e1,e2⟩:=Q.out;subst e1;subst e2;rfl,(below_set7 ((HB.out.setCell (by simp;omega) _).setCell (by simp;omega) _) (by omega)).alloc (below_set7 ((HB.out.setCell (by simp;omega) _).setCell (by simp;omega) _) (by omega)).size _⟩
      · go_wp2_with fail
        go_roundw
        case rel =>
         have hg:=HG.out
         refine ⟨1,by omega,rfl,⟨Row.alloc (Row.far (Row.far (Row.far (Row.far H3.out.1 (by simp;omega) _) (by simp;omega) _) (by simp;omega) _) (by simp;omega) _) _,Row.alloc (Row.far (Row.far (Row.far (Row.far H3.out.2.1 (by simp;omega) _) (by simp;omega) _) (by simp;omega) _) (by simp;omega) _) _,Row.alloc (Row.far (Row.far (Row.far (Row.far H3.out.2.2 (by simp;omega) _) (by simp;omega) _) (by simp;omega) _) (by simp;omega) _) _⟩,?_,((((HB.out.setCell (by simp;omega) _).setCell (by simp;omega) _).setCell (by simp;omega) _).setCell (by simp;omega) _).alloc ((((HB.out.setCell (by simp;omega) _).setCell (by simp;omega) _).setCell (by simp;omega) _).setCell (by simp;omega) _).size _,?_⟩
         · exact Row.alloc (Row.put (Row.put (Row.far (Row.far H6.out (by simp;omega) _) (by simp;omega) _) 2 _) 3 _) _
         · have:=HV.out;omega
        case measure => simp [intOf];omega
    · simp only [Int.natCast_zero,Int.natCast_one,Int.cast_ofNat_Int] at hlt'
      go_wp2_with fail
      refine (CB1.out hlt _).mono ?_;rintro e w5 ⟨rfl,hb5⟩
      dsimp only
      have h3:=H3.out.below hb5;have h6:=H6.out.below hb5;have hbw:=HB.out.trans (hb5.mono HB.out.size);clear H3 H6 HB hb5 b0 b1 b2 b3 b4 b5 b6
      have h6 : HoldsM w5 g 106 ⟨a.fr,b.to,1,m0,0,0,0⟩:=h6
      have hl5:=h6.lt
      have hzl : w.heap.size + 1 + 1 < w5.heap.size:=h3.2.2.lt
      have hz0 : w.heap.size < w5.heap.size:=h3.1.lt
      have H3:=Hd h3;have H6:=Hd h6;have HB:=Hd hbw;clear h3 h6 hbw
      have hv:=V1.out hlt
      have hkb : (1 : Int) < b.kp:=by have:=HK.out;omega
      rw [if_pos hkb] at hv
      have hw:=IntWalk.i64_in (z1 + x1) (by have:=NB.out;omega)
      replace hw:=hw.trans ((Int.add_comm _ _).trans hv.symm)
      rw [decide_eq_true hkb]
      clear hv
      obtain ⟨a0,a1,a2,a3,a4,a5,a6⟩:=H3.out.1.cells7
      have ca:=CA1.out hkb
      rw [decide_eq_true (show (1 : Int) < a.kp by have:=HK.out;omega)] at ca
      have CA:=Hd ca;clear ca hkb
      go_wp2_with fail
      have r8 : Row (w5.alloc (.cells #[.bool true,.int .i64 z1] 161)) w5.heap.size 161 [.bool true,.int .i64 z1]:=Row.made w5 _ _
      have h3 : Tri2 (w5.alloc (.cells #[.bool true,.int .i64 z1] 161)) w.heap.size 106 a b:=H3.out.below ((Below.refl _ _).alloc (Nat.le_refl _) _)
      have h6:=HoldsM.alloc H6.out (.cells #[.bool true,.int .i64 z1] 161)
      have hbw:=HB.out.alloc HB.out.size (.cells #[.bool true,.int .i64 z1] 161)
      clear a0 a1 a2 a3 a4 a5 a6 H3 H6 HB
      have hs5 : (w5.alloc (.cells #[.bool true,.int .i64 z1] 161)).heap.size = w5.heap.size + 1:=by simp
      have hws : w.heap.size ≤ w5.heap.size:=by omega
      generalize w5.alloc (.cells #[.bool true,.int .i64 z1] 161) = W5 at *
      generalize w5.heap.size = g8 at *
      have H3:=Hd h3;have H6:=Hd h6;have HB:=Hd hbw;have R8:=Hd r8;clear h3 h6 hbw r8
      refine (CA.out _).mono ?_;rintro e w6 ⟨rfl,hb6⟩
      dsimp only
      have h3:=H3.out.below hb6;have h6:=H6.out.below hb6;have hbw:=HB.out.trans (hb6.mono HB.out.size);have r8:=Row.below R8.out hb6 (by omega)
      have hl8 : g8 < w6.heap.size:=r8.lt
      have hl6 : g < w6.heap.size:=h6.lt
      have hz6 : w.heap.size + 1 + 1 < w6.heap.size:=h3.2.2.lt
      clear H3 H6 HB R8 hb6 CA
      have e0:=r8.cell 0;have e1:=r8.cell 1;have e2:=r8.free 0;have e3:=r8.free 1
      simp only [List.getElem?_cons_succ,List.getElem?_cons_zero] at e0 e1
      have H3:=Hd h3;have H6:=Hd h6;have HB:=Hd hbw;clear h3 h6 hbw r8
      obtain ⟨c0,c1,c2,c3,c4,c5,c6⟩:=H6.out.cells7
      obtain ⟨d0,d1,d2,d3,d4,d5,d6⟩:=H6.out.free7
      simp only at c0 c1 c2 c3 c4 c5 c6
      obtain ⟨q0,q1,q2,q3,q4,q5,q6⟩:=H3.out.2.2.cells7
      obtain ⟨f0,f1,f2,f3,f4,f5,f6⟩:=H3.out.2.2.free7
      by_cases hbig : (16 : Int) ≤ m1
      · have hvb:=HV.out
        obtain ⟨e1,e2⟩:=HNO.out (fun hh => by have:=hh.2.2.2;omega)
        have Q:=Hd (And.intro e1 e2);clear e1 e2 hvb
        go_wp2_with fail
        refine bodyPost_ret (v:=.tuple #[.agg #[.int .i64 0,.int .i64 0,.int .i64 0,.int .i64 0,.int .i64 0,.int .i64 0,.int .i64 0],.bool false]) (two_results rfl _ _ _ 106 _ (0,0) _ rfl (Row.alloc (row_set7 (Row.far (Row.far H3.out.2.2 (by simp;omega) _) (by simp;omega) _)) _) Tryz.underlying106 rfl (by kernel_rfl) rfl) rfl ?_
        exact ⟨by obtain ⟨e1,e2⟩:=Q.out;subst e1;subst e2;rfl,(below_set7 ((HB.out.setCell (by simp;omega) _).setCell (by simp;omega) _) (by omega)).alloc (below_set7 ((HB.out.setCell (by simp;omega) _).setCell (by simp;omega) _) (by omega)).size _⟩
      · go_wp2_with fail
        go_roundw
        case rel =>
         have hg:=HG.out
         refine ⟨2,by omega,rfl,⟨Row.alloc (Row.far (Row.far (Row.far (Row.far H3.out.1 (by simp;omega) _) (by simp;omega) _) (by simp;omega) _) (by simp;omega) _) _,Row.alloc (Row.far (Row.far (Row.far (Row.far H3.out.2.1 (by simp;omega) _) (by simp;omega) _) (by simp;omega) _) (by simp;omega) _) _,Row.alloc (Row.far (Row.far (Row.far (Row.far H3.out.2.2 (by simp;omega) _) (by simp;omega) _) (by simp;omega) _) (by simp;omega) _) _⟩,?_,((((HB.out.setCell (by simp;omega) _).setCell (by simp;omega) _).setCell (by simp;omega) _).setCell (by simp;omega) _).alloc ((((HB.out.setCell (by simp;omega) _).setCell (by simp;omega) _).setCell (by simp;omega) _).setCell (by simp;omega) _).size _,?_⟩
         · exact Row.alloc (Row.put (Row.put (Row.far (Row.far H6.out (by simp;omega) _) (by simp;omega) _) 2 _) 3 _) _
         · have:=HV.out;omega
        case measure => simp [intOf];omega
    · simp only [Int.natCast_zero,Int.natCast_one,Int.cast_ofNat_Int] at hlt'
      go_wp2_with fail
      refine (CB2.out hlt _).mono ?_;rintro e w5 ⟨rfl,hb5⟩
      dsimp only
      have h3:=H3.out.below hb5;have h6:=H6.out.below hb5;have hbw:=HB.out.trans (hb5.mono HB.out.size);clear H3 H6 HB hb5 b0 b1 b2 b3 b4 b5 b6
      have h6 : HoldsM w5 g 106 ⟨a.fr,b.to,2,m1,0,0,0⟩:=h6
      have hl5:=h6.lt
      have hzl : w.heap.size + 1 + 1 < w5.heap.size:=h3.2.2.lt
      have hz0 : w.heap.size < w5.heap.size:=h3.1.lt
      have H3:=Hd h3;have H6:=Hd h6;have HB:=Hd hbw;clear h3 h6 hbw
      have hv:=V2.out hlt
      have hkb : (2 : Int) < b.kp:=by have:=HK.out;omega
      rw [if_pos hkb] at hv
      have hw:=IntWalk.i64_in (z2 + x2) (by have:=NB.out;omega)
      replace hw:=hw.trans ((Int.add_comm _ _).trans hv.symm)
      rw [decide_eq_true hkb]
      clear hv
      obtain ⟨a0,a1,a2,a3,a4,a5,a6⟩:=H3.out.1.cells7
      have ca:=CA2.out hkb
      rw [decide_eq_true (show (2 : Int) < a.kp by have:=HK.out;omega)] at ca
      have CA:=Hd ca;clear ca hkb
      go_wp2_with fail
      have r8 : Row (w5.alloc (.cells #[.bool true,.int .i64 z2] 161)) w5.heap.size 161 [.bool true,.int .i64 z2]:=Row.made w5 _ _
      have h3 : Tri2 (w5.alloc (.cells #[.bool true,.int .i64 z2] 161)) w.heap.size 106 a b:=H3.out.below ((Below.refl _ _).alloc (Nat.le_refl _) _)
      have h6:=HoldsM.alloc H6.out (.cells #[.bool true,.int .i64 z2] 161)
      have hbw:=HB.out.alloc HB.out.size (.cells #[.bool true,.int .i64 z2] 161)
      clear a0 a1 a2 a3 a4 a5 a6 H3 H6 HB
      have hs5 : (w5.alloc (.cells #[.bool true,.int .i64 z2] 161)).heap.size = w5.heap.size + 1:=by simp
      have hws : w.heap.size ≤ w5.heap.size:=by omega
      generalize w5.alloc (.cells #[.bool true,.int .i64 z2] 161) = W5 at *
      generalize w5.heap.size = g8 at *
      have H3:=Hd h3;have H6:=Hd h6;have HB:=Hd hbw;have R8:=Hd r8;clear h3 h6 hbw r8
      refine (CA.out _).mono ?_;rintro e w6 ⟨rfl,hb6⟩
      dsimp only
      have h3:=H3.out.below hb6;have h6:=H6.out.below hb6;have hbw:=HB.out.trans (hb6.mono HB.out.size);have r8:=Row.below R8.out hb6 (by omega)
      have hl8 : g8 < w6.heap.size:=r8.lt
      have hl6 : g < w6.heap.size:=h6.lt
      have hz6 : w.heap.size + 1 + 1 < w6.heap.size:=h3.2.2.lt
      clear H3 H6 HB R8 hb6 CA
      have e0:=r8.cell 0;have e1:=r8.cell 1;have e2:=r8.free 0;have e3:=r8.free 1
      simp only [List.getElem?_cons_succ,List.getElem?_cons_zero] at e0 e1
      have H3:=Hd h3;have H6:=Hd h6;have HB:=Hd hbw;clear h3 h6 hbw r8
      obtain ⟨c0,c1,c2,c3,c4,c5,c6⟩:=H6.out.cells7
      obtain ⟨d0,d1,d2,d3,d4,d5,d6⟩:=H6.out.free7
      simp only at c0 c1 c2 c3 c4 c5 c6
      obtain ⟨q0,q1,q2,q3,q4,q5,q6⟩:=H3.out.2.2.cells7
      obtain ⟨f0,f1,f2,f3,f4,f5,f6⟩:=H3.out.2.2.free7
      by_cases hbig : (16 : Int) ≤ m2
      · have hvb:=HV.out
        obtain ⟨e1,e2⟩:=HNO.out (fun hh => by have:=hh.2.2.2;omega)
        have Q:=Hd (And.intro e1 e2);clear e1 e2 hvb
        go_wp2_with fail
        refine bodyPost_ret (v:=.tuple #[.agg #[.int .i64 0,.int .i64 0,.int .i64 0,.int .i64 0,.int .i64 0,.int .i64 0,.int .i64 0],.bool false]) (two_results rfl _ _ _ 106 _ (0,0) _ rfl (Row.alloc (row_set7 (Row.far (Row.far H3.out.2.2 (by simp;omega) _) (by simp;omega) _)) _) Tryz.underlying106 rfl (by kernel_rfl) rfl) rfl ?_
        exact ⟨by obtain ⟨e1,e2⟩:=Q.out;subst e1;subst e2;rfl,(below_set7 ((HB.out.setCell (by simp;omega) _).setCell (by simp;omega) _) (by omega)).alloc (below_set7 ((HB.out.setCell (by simp;omega) _).setCell (by simp;omega) _) (by omega)).size _⟩
      · go_wp2_with fail
        go_roundw
        case rel =>
         have hg:=HG.out
         refine ⟨3,by omega,rfl,⟨Row.alloc (Row.far (Row.far (Row.far (Row.far H3.out.1 (by simp;omega) _) (by simp;omega) _) (by simp;omega) _) (by simp;omega) _) _,Row.alloc (Row.far (Row.far (Row.far (Row.far H3.out.2.1 (by simp;omega) _) (by simp;omega) _) (by simp;omega) _) (by simp;omega) _) _,Row.alloc (Row.far (Row.far (Row.far (Row.far H3.out.2.2 (by simp;omega) _) (by simp;omega) _) (by simp;omega) _) (by simp;omega) _) _⟩,?_,((((HB.out.setCell (by simp;omega) _).setCell (by simp;omega) _).setCell (by simp;omega) _).setCell (by simp;omega) _).alloc ((((HB.out.setCell (by simp;omega) _).setCell (by simp;omega) _).setCell (by simp;omega) _).setCell (by simp;omega) _).size _,?_⟩
         · exact Row.alloc (Row.put (Row.put (Row.far (Row.far H6.out (by simp;omega) _) (by simp;omega) _) 2 _) 3 _) _
         · have:=HV.out;omega
        case measure => simp [intOf];omega
  · have hkn : k = n:=by omega
    subst hkn
    have hge : ¬ (k : Int) < b.to:=by have:=HNN.out.1;omega
    obtain ⟨q0,q1,q2,q3,q4,q5,q6⟩:=H3.out.2.2.cells7
    obtain ⟨f0,f1,f2,f3,f4,f5,f6⟩:=H3.out.2.2.free7
    have hr:=HC.out
    have hv:=HV.out
    have y:=Y.out
    have hpe : Sm.part a.fr b.to 3 m0 m1 m2 k = ⟨a.fr,b.to,3,m2,0,0,0⟩:=by
     have hk3:=HNN.out.2
     have hk4 : k = 0 ∨ k = 1 ∨ k = 2 ∨ k = 3:=by omega
     rcases hk4 with rfl | rfl | rfl | rfl
     · simp_all [Sm.part,pM]
     · simp_all [Sm.part,pM]
     · simp_all [Sm.part,pM]
     · simp_all [Sm.part,pM]
    have h6:=H6.out
    rw [hpe] at h6
    obtain ⟨c0,c1,c2,c3,c4,c5,c6⟩:=h6.cells7
    simp only at c0 c1 c2 c3 c4 c5 c6
    obtain ⟨e1,e2⟩:=HYES.out ⟨hr.1,hr.2.1,hr.2.2,by by_cases hh : 0 < k <;> omega,by by_cases hh : 1 < k <;> omega,by by_cases hh : 2 < k <;> omega⟩
    have Q:=Hd (And.intro e1 e2);clear e1 e2 hr hv y h6 hpe
    go_wp2_with fail
    refine bodyPost_ret (v:=.tuple #[Sm.v ⟨a.fr,b.to,3,m2,0,0,0⟩,.bool true]) (two_results rfl _ _ _ 106 _ (0,0) _ rfl (row_set7 H3.out.2.2) Tryz.underlying106 rfl (by kernel_rfl) rfl) rfl ?_
    exact ⟨by obtain ⟨e1,e2⟩:=Q.out;subst e1;subst e2;rfl,below_set7 HB.out (by omega)⟩
theorem refThen_any (a b : Sm) (w : World) : Calls Tryz.prog 111 #[a.v,b.v] w fun e w' => e = .returned (.tuple #[(a.th b).v,.bool (a.thB b)]) ∧ Below w.heap.size w w':=by
 by_cases h : a.R
 · by_cases h2 : b.R
   · by_cases hd : a.to = b.fr
     · have hK : min a.kp b.kp = 0 ∨ min a.kp b.kp = 1 ∨ min a.kp b.kp = 2 ∨ min a.kp b.kp = 3:=by unfold Sm.R at h h2;omega
       rcases hK with hK | hK | hK | hK
       · exact refThen_0 a b w h h2 hd hK
       · exact refThen_1 a b w h h2 hd hK
       · exact refThen_2 a b w h h2 hd hK
       · exact refThen_3 a b w h h2 hd hK
     · exact refThen_C a b w h h2 hd
   · exact refThen_B a b w h h2
 · exact refThen_A a b w h
end
end Go.Proofs.YtonelpnhoiajgaaGreatDoor
