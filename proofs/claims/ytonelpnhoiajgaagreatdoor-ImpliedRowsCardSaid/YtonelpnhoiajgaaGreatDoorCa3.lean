import Derived.Test.YtonelpnhoiajgaaGreatDoorHd
import Derived.Test.YtonelpnhoiajgaaGreatDoorCa2
import Derived.Test.YtonelpnhoiajgaaGreatDoorCa0
import Derived.Deep.QuietTactic
import Derived.BigQuiet
import Derived.StillTailTactics
import Derived.Laws.IdiomArrays
import Derived.OpenShut
import Derived.SizedLaws
import Derived.BigRegion
import Derived.RegionTactic
import Derived.Deep.DeepCutAuto
import Derived.Deep.CutRange
import Derived.Laws.AppendOwnNone
import Derived.OwnWalk
import Derived.Shelf.Abstract
import Derived.Maps.AppendAt
namespace Go.Proofs.YtonelpnhoiajgaaGreatDoor
set_option linter.unusedSimpArgs false
set_option maxRecDepth 100000
open Go.ChangeShapes Go.WideShapes Go.ChangeAt Go.RowKit Go.BigFrame
set_option linter.unusedVariables false
section
set_option maxHeartbeats 4000000 in
theorem both_yes_greater (a b : St) (n : Nat) (w : World) (hn : a.d = n) (h : a.B b) :
 Calls Tryz.prog 132 #[a.val,b.val,.func (.func 133) #[] #[]] w fun e w' => e = .returned (.tuple #[(St.part true a b n).val,.bool true]) ∧ Below w.heap.size w w':=by
 have hn3 : n ≤ 3:=by have:=h.1;unfold St.R at this;omega
 obtain ⟨ha,hb,hd⟩:=h
 have HA:=Hd (right_is (decide_eq_true ha) (right_any a));have HB:=Hd (right_is (decide_eq_true hb) (right_any b));clear ha hb
 obtain ⟨d,e,x,y,z⟩:=a
 obtain ⟨d',e',x',y',z'⟩:=b
 unfold St.val at *
 simp only at hd hn HA HB ⊢
 subst hd
 subst hn
 have hz:=zero_made ((w.alloc (.cells #[.int .i64 (n : Int),.int .i64 e,.int .i64 x,.int .i64 y,.int .i64 z] 27)).alloc (.cells #[.int .i64 (n : Int),.int .i64 e',.int .i64 x',.int .i64 y',.int .i64 z'] 27))
 have hya:=((Holds.made w ⟨(n : Int),e,x,y,z⟩).alloc (.cells #[.int .i64 (n : Int),.int .i64 e',.int .i64 x',.int .i64 y',.int .i64 z'] 27)).alloc (.cells #[.int .i64 0,.int .i64 0,.int .i64 0,.int .i64 0,.int .i64 0] 27)
 have hyb:=(Holds.made (w.alloc (.cells #[.int .i64 (n : Int),.int .i64 e,.int .i64 x,.int .i64 y,.int .i64 z] 27)) ⟨(n : Int),e',x',y',z'⟩).alloc (.cells #[.int .i64 0,.int .i64 0,.int .i64 0,.int .i64 0,.int .i64 0] 27)
 rw [size_alloc,size_alloc] at hz
 rw [size_alloc] at hyb
 have HZ:=Hd hz;have HYA:=Hd hya;have HYB:=Hd hyb;clear hz hya hyb
 go_enter Tryz.func132,Tryz.ntmps132
 go_wp2_with fail
 refine (HA.out _).mono ?_;rintro e1 w1 ⟨rfl,hb1⟩
 obtain ⟨hc1,hf1⟩:=old_cells hb1
 have HB1:=Hd hb1;clear hb1
 go_wp2_with fail
 refine (HB.out _).mono ?_;rintro e2 w2 ⟨rfl,hb2⟩
 have hb12:=HB1.out.trans (hb2.mono HB1.out.size)
 clear hc1 hf1
 have h0:=HYA.out.below hb12;have h1:=HYB.out.below hb12;have h2:=HZ.out.below hb12
 have hbw:=below3 hb12
 have hsz:=hb12.size
 simp only [size_alloc] at hsz
 obtain ⟨a0,a1,a2,a3,a4⟩:=h0.cells5
 obtain ⟨b0,b1,b2,b3,b4⟩:=h1.cells5
 simp only at a0 a1 a2 a3 a4 b0 b1 b2 b3 b4
 have H0:=Hd h0;have H1:=Hd h1;have H2:=Hd h2;have HW:=Hd hbw
 clear h0 h1 h2 hb12 hb2 hbw HB1 HYA HYB HZ
 have n0 : w.heap.size < w2.heap.size:=by omega
 have n1 : w.heap.size + 1 < w2.heap.size:=by omega
 have n2 : w.heap.size + 1 + 1 < w2.heap.size:=by omega
 have m0 : w.heap.size ≠ w2.heap.size:=by omega
 have m1 : w.heap.size + 1 ≠ w2.heap.size:=by omega
 have m2 : w.heap.size + 1 + 1 ≠ w2.heap.size:=by omega
 clear hsz
 go_wp2_with fail
 have h0:=H0.out.drewN 1;have h1:=H1.out.drewN 1;have h2:=H2.out.drewN 1;have hbw:=below_drewN HW.out 1
 have q2 : w.heap.size + 1 + 1 < (w2.drewN 1).heap.size:=n2
 clear a0 a1 a2 a3 a4 b0 b1 b2 b3 b4 H0 H1 H2 HW n0 n1 n2 m0 m1 m2
 have hdr : w2.drew = w2.drewN 1:=rfl
 have HDR:=Hd hdr;clear hdr
 obtain ⟨W,hW⟩ : ∃ W,W = w2.drewN 1:=⟨_,rfl⟩
 rw [← hW] at h0 h1 h2 hbw q2
 rw [← hW] at HDR
 clear hW
 have H0:=Hd h0;have H1:=Hd h1;have H2:=Hd h2;have HW:=Hd hbw;have HQ:=Hd q2
 clear h0 h1 h2 hbw q2
 refine Stage.wp_region (by kernel_rfl) (by kernel_rfl) (Stage.two 9 10 (fun b1 b2 w' => w' = if b2 then W.alloc (.cells #[.int .i64 (n : Int),.int .i64 (pk true e e'),.int .i64 0,.int .i64 0,.int .i64 0] 27) else wz W b1)) (Stage.two_start (by simp) (by simp) HDR.out) ?_
 refine Stage.wpSt_do (.pointer (some ⟨w.heap.size,0,none⟩)) rfl (Stage.two_step (by kernel_rfl) (fun b w' hw => ?_)) ?_
 · exact at_of (by go_simp) hw
 go_simp
 refine Stage.wpSt_do (.int .i64 (n : Int)) rfl (Stage.two_step (by kernel_rfl) (fun b w' hw => ?_)) ?_
 · exact Free.at_load _ _ rfl rfl (load_d H0.out w' (wz_below hw)) hw
 go_simp
 refine Stage.wpSt_do (.func (.func 133) #[] #[]) rfl (Stage.two_step (by kernel_rfl) (fun b w' hw => ?_)) ?_
 · exact at_of (by go_simp) hw
 go_simp
 refine Stage.wpSt_do (.pointer (some ⟨w.heap.size,1,none⟩)) rfl (Stage.two_step (by kernel_rfl) (fun b w' hw => ?_)) ?_
 · exact at_of (by go_simp) hw
 go_simp
 refine Stage.wpSt_do (.int .i64 e) rfl (Stage.two_step (by kernel_rfl) (fun b w' hw => ?_)) ?_
 · exact Free.at_load _ _ rfl rfl (load_e H0.out w' (wz_below hw)) hw
 go_simp
 refine Stage.wpSt_do (.pointer (some ⟨w.heap.size + 1,1,none⟩)) rfl (Stage.two_step (by kernel_rfl) (fun b w' hw => ?_)) ?_
 · exact at_of (by go_simp) hw
 go_simp
 refine Stage.wpSt_do (.int .i64 e') rfl (Stage.two_step (by kernel_rfl) (fun b w' hw => ?_)) ?_
 · exact Free.at_load _ _ rfl rfl (load_e H1.out w' (wz_below hw)) hw
 go_simp
 refine Stage.wpSt_do (.int .i64 (pk true e e')) rfl (Stage.two_step (by kernel_rfl) (fun b w' hw => ?_)) ?_
 · refine at_fn (f:=133) _ _ _ rfl rfl Tryz.func133 (by kernel_rfl) rfl [.int .i64 e,.int .i64 e'] rfl ((greater_any _ _ _).mono fun _ _ h => ⟨h.1,by rw [h.2];exact hw⟩)
 go_simp
 refine Stage.wpSt_do (.agg #[.int .i64 (n : Int),.int .i64 (pk true e e'),.int .i64 0,.int .i64 0,.int .i64 0]) rfl (Stage.two_step (by kernel_rfl) (fun b w' hw => ?_)) ?_
 · exact at_of (by go_simp) hw
 go_simp
 refine Stage.wpSt_do (.pointer (some ⟨W.heap.size,0,none⟩)) rfl (Stage.two_first (by decide) (by kernel_rfl) (fun w' hw => ?_)) ?_
 · have hw' : w' = W:=hw
   clear hw;subst hw'
   exact at_made (w':=w'.alloc (.cells #[.int .i64 0,.int .i64 0,.int .i64 0,.int .i64 0,.int .i64 0] 27)) (by go_simp) rfl
 go_simp
 refine Stage.wpSt_do undef rfl (Stage.two_then (by decide) (by kernel_rfl) (fun w' hw => ?_)) ?_
 · have hw' : w' = W.alloc (.cells #[.int .i64 0,.int .i64 0,.int .i64 0,.int .i64 0,.int .i64 0] 27):=hw
   clear hw;subst hw'
   exact at_skip (w':=W.alloc (.cells #[.int .i64 (n : Int),.int .i64 (pk true e e'),.int .i64 0,.int .i64 0,.int .i64 0] 27)) (by go_simp) rfl
 go_simp
 refine Stage.wpSt_nil (Stage.two_end ?_)
 intro w3 hw3
 have hw4 : w3 = W.alloc (.cells #[.int .i64 (n : Int),.int .i64 (pk true e e'),.int .i64 0,.int .i64 0,.int .i64 0] 27):=hw3
 subst hw4
 have m0 : w.heap.size ≠ W.heap.size:=by have:=HQ.out;omega
 have m1 : w.heap.size + 1 ≠ W.heap.size:=by have:=HQ.out;omega
 have m2 : w.heap.size + 1 + 1 ≠ W.heap.size:=by have:=HQ.out;omega
 clear hw3
 go_wp2_with fail
 go_loopw [37] (fun i wr => ∃ k : Nat,k ≤ n ∧ i = .int .i64 k ∧ Holds wr w.heap.size ⟨(n : Int),e,x,y,z⟩ ∧ Holds wr (w.heap.size + 1) ⟨(n : Int),e',x',y',z'⟩ ∧ Holds wr (w.heap.size + 1 + 1) St.zero ∧ Holds wr W.heap.size (St.part true ⟨(n : Int),e,x,y,z⟩ ⟨(n : Int),e',x',y',z'⟩ k) ∧ Below w.heap.size w wr) (fun i _ => n - (intOf i).toNat)
 case atStart => exact ⟨0,by omega,rfl,H0.out.alloc _,H1.out.alloc _,H2.out.alloc _,Holds.made W (St.part true ⟨(n : Int),e,x,y,z⟩ ⟨(n : Int),e',x',y',z'⟩ 0),HW.out.alloc HW.out.size _⟩
 case round =>
  obtain ⟨k,hk,rfl,h0,h1,h2,h3,hbw⟩:=hrel
  obtain ⟨c0,c1,c2,c3,c4⟩:=h0.cells5
  obtain ⟨d0,d1,d2,d3,d4⟩:=h1.cells5
  obtain ⟨f0,f1,f2,f3,f4⟩:=h3.free5
  obtain ⟨e0,e1,e2,e3,e4⟩:=h3.cells5
  simp only at c0 c1 c2 c3 c4 d0 d1 d2 d3 d4
  have HH0:=Hd h0;have HH1:=Hd h1;have HH2:=Hd h2;have HH3:=Hd h3;have HHW:=Hd hbw
  clear h0 h1 h2 h3 hbw H0 H1 H2 c0 c1 d0 d1
  by_cases hlt : k < n
  · simp only [St.part] at e0 e1 e2 e3 e4
    clear e0 e1
    have hcase : k = 0 ∨ k = 1 ∨ k = 2:=by omega
    clear hk
    rcases hcase with rfl | rfl | rfl
    · go_wp2_with fail
      refine wp_tail 13 (by kernel_rfl) (by kernel_rfl) ?_
      simp only [List.take_succ_cons,List.take_zero,List.drop_succ_cons,List.drop_zero]
      repeat still_step
      still_call (greater_any _ _ _)
      repeat still_step
      refine wpStill_nil ?_
      go_wp2_with fail
      go_roundw
      case rel => exact ⟨1,by omega,rfl,(HH0.out.drewN 1).far (by have:=HQ.out;simp;omega) _,(HH1.out.drewN 1).far (by have:=HQ.out;simp;omega) _,(HH2.out.drewN 1).far (by have:=HQ.out;simp;omega) _,(HH3.out.drewN 1).set 2 _ (by simp [St.part]),(below_drewN HHW.out 1).setCell (by have:=HQ.out;simp;omega) _⟩
      case measure => simp [intOf];omega
    · go_wp2_with fail
      refine wp_tail 13 (by kernel_rfl) (by kernel_rfl) ?_
      simp only [List.take_succ_cons,List.take_zero,List.drop_succ_cons,List.drop_zero]
      repeat still_step
      still_call (greater_any _ _ _)
      repeat still_step
      refine wpStill_nil ?_
      go_wp2_with fail
      go_roundw
      case rel => exact ⟨2,by omega,rfl,(HH0.out.drewN 1).far (by have:=HQ.out;simp;omega) _,(HH1.out.drewN 1).far (by have:=HQ.out;simp;omega) _,(HH2.out.drewN 1).far (by have:=HQ.out;simp;omega) _,(HH3.out.drewN 1).set 3 _ (by simp [St.part]),(below_drewN HHW.out 1).setCell (by have:=HQ.out;simp;omega) _⟩
      case measure => simp [intOf];omega
    · go_wp2_with fail
      refine wp_tail 13 (by kernel_rfl) (by kernel_rfl) ?_
      simp only [List.take_succ_cons,List.take_zero,List.drop_succ_cons,List.drop_zero]
      repeat still_step
      still_call (greater_any _ _ _)
      repeat still_step
      refine wpStill_nil ?_
      go_wp2_with fail
      go_roundw
      case rel => exact ⟨3,by omega,rfl,(HH0.out.drewN 1).far (by have:=HQ.out;simp;omega) _,(HH1.out.drewN 1).far (by have:=HQ.out;simp;omega) _,(HH2.out.drewN 1).far (by have:=HQ.out;simp;omega) _,(HH3.out.drewN 1).set 4 _ (by simp [St.part]),(below_drewN HHW.out 1).setCell (by have:=HQ.out;simp;omega) _⟩
      case measure => simp [intOf];omega
  · obtain rfl : k = n:=by omega
    obtain ⟨z0,z1,z2,z3,z4⟩:=HH2.out.free5
    obtain ⟨y0,y1,y2,y3,y4⟩:=HH2.out.cells5
    obtain ⟨T,hT⟩ : ∃ T,T = St.part true ⟨(k : Int),e,x,y,z⟩ ⟨(k : Int),e',x',y',z'⟩ k:=⟨_,rfl⟩
    rw [← hT] at e0 e1 e2 e3 e4
    have HT:=Hd hT;clear hT
    go_wp2_with fail
    refine bodyPost_ret (v:=.tuple #[.agg #[.int .i64 T.d,.int .i64 T.e,.int .i64 T.x,.int .i64 T.y,.int .i64 T.z],.bool true]) (two_results rfl _ _ _ 27 _ (0,0) _ rfl (Holds.all HH2.out _ _ _ _ _) Tryz.underlying27 rfl (by kernel_rfl) rfl) rfl ?_
    exact ⟨by rw [HT.out],below_set5 (g:=w.heap.size + 1 + 1) HHW.out (by omega)⟩
end

section
theorem zero_val : St.zero.val = .agg #[.int .i64 0,.int .i64 0,.int .i64 0,.int .i64 0,.int .i64 0]:=rfl
theorem both_Join (a b : St) (w : World) : Calls Tryz.prog 132 #[a.val,b.val,.func (.func 133) #[] #[]] w fun e w' => e = .returned (.tuple #[(St.pick true a b).val,.bool (decide (a.B b))]) ∧ Below w.heap.size w w':=by
 by_cases h : a.B b
 · obtain ⟨n,hn⟩ : ∃ n : Nat,a.d = n:=⟨a.d.toNat,by have:=h.1;unfold St.R at this;omega⟩
   have:=both_yes_greater a b n w hn h
   rw [part_d _ _ _ h hn] at this
   rw [decide_eq_true h];exact this
 · have:=both_no_greater a b w h
   rw [decide_eq_false h,St.pick,if_neg h];exact this
theorem join_any (a b : St) (w : World) : Calls Tryz.prog 79 #[a.val,b.val] w fun e w' => e = .returned (.tuple #[(a.join b).val,.bool (decide (a.B b))]) ∧ Below w.heap.size w w':=by
 have hc:=fun w => both_Join a b w
 rw [pick_join] at hc
 generalize a.join b = T at *
 generalize decide (a.B b) = B at *
 have HC:=Hd hc;clear hc
 obtain ⟨d,e,x,y,z⟩:=a
 obtain ⟨d',e',x',y',z'⟩:=b
 obtain ⟨p,q,r,s,t⟩:=T
 unfold St.val at *
 simp only at HC ⊢
 have hz:=zero_made ((w.alloc (.cells #[.int .i64 d,.int .i64 e,.int .i64 x,.int .i64 y,.int .i64 z] 27)).alloc (.cells #[.int .i64 d',.int .i64 e',.int .i64 x',.int .i64 y',.int .i64 z'] 27))
 rw [size_alloc,size_alloc] at hz
 have HZ:=Hd hz;clear hz
 go_enter Tryz.func79,Tryz.ntmps79
 go_wp2_with fail
 refine (HC.out _).mono ?_;rintro e1 w1 ⟨rfl,hb1⟩
 have h2:=HZ.out.below hb1
 obtain ⟨f0,f1,f2,f3,f4⟩:=h2.free5
 obtain ⟨c0,c1,c2,c3,c4⟩:=h2.cells5
 have H2:=Hd h2;have HB:=Hd hb1;clear h2 hb1
 go_wp2_with fail
 refine bodyPost_ret (v:=.tuple #[.agg #[.int .i64 p,.int .i64 q,.int .i64 r,.int .i64 s,.int .i64 t],.bool B]) (two_results rfl _ _ _ 27 _ (0,0) _ rfl (Holds.all H2.out _ _ _ _ _) Tryz.underlying27 rfl (by kernel_rfl) rfl) rfl ?_
 exact ⟨rfl,below_set5 (g:=w.heap.size + 1 + 1) (below3 HB.out) (by omega)⟩
end

section
def ov (o : Option St) : St:=o.getD St.zero
theorem stBelow2 {w w' : World} {a b : Obj} (h : Below ((w.alloc a).alloc b).heap.size ((w.alloc a).alloc b) w') : Below w.heap.size w w' :=
 (((Below.refl _ _).alloc (Nat.le_refl _) _).alloc (by simp) _).trans (h.mono (by simp;omega))
set_option maxHeartbeats 4000000 in
theorem into_any (t : St) (w : World) : Calls Tryz.prog 72 #[t.val] w fun e w' => e = .returned (.tuple #[(ov t.into).val,.bool t.into.isSome]) ∧ Below w.heap.size w w':=by
 have hn : ¬ t.R → t.into = none:=fun h => by unfold St.into;rw [if_neg (fun hc => h hc.1)]
 by_cases hR : t.R
 · have HR:=Hd (right_is (decide_eq_true hR) (right_any t))
   have hRd : t.R:=hR
   have hd : t.d = 0 ∨ t.d = 1 ∨ t.d = 2 ∨ t.d = 3:=by unfold St.R at hRd;omega
   have HRt:=Hd hRd
   clear hR hRd hn
   obtain ⟨d,e,x,y,z⟩:=t
   unfold St.val at *
   simp only at hd HR ⊢
   rcases hd with rfl | rfl | rfl | rfl
   · have hv : St.into ⟨0,e,x,y,z⟩ = some ⟨1,e,x,y,z⟩:=by have hr:=HRt.out;unfold St.into;rw [if_pos (by simp [hr])];rfl
     rw [hv];clear hv HRt
     unfold ov
     simp only [Option.getD_none,Option.getD_some,Option.isSome_none,Option.isSome_some,zero_val]
     have hz:=zero_made (w.alloc (.cells #[.int .i64 0,.int .i64 e,.int .i64 x,.int .i64 y,.int .i64 z] 27))
     rw [size_alloc] at hz
     have hy:=(Holds.made w ⟨0,e,x,y,z⟩).alloc (.cells #[.int .i64 0,.int .i64 0,.int .i64 0,.int .i64 0,.int .i64 0] 27)
     have HZ:=Hd hz;have HY:=Hd hy;clear hz hy
     go_enter Tryz.func72,Tryz.ntmps72
     go_wp2_with fail
     refine (HR.out _).mono ?_;rintro e1 w1 ⟨rfl,hb1⟩
     have h2:=HZ.out.below hb1
     have h1:=HY.out.below hb1
     have hbw:=stBelow2 hb1
     obtain ⟨f0,f1,f2,f3,f4⟩:=h2.free5
     obtain ⟨c0,c1,c2,c3,c4⟩:=h2.cells5
     obtain ⟨d0,d1,d2,d3,d4⟩:=h1.cells5
     obtain ⟨g0,g1,g2,g3,g4⟩:=h1.free5
     simp only at d0 d1 d2 d3 d4
     have H1:=Hd h1;have H2:=Hd h2;have HB:=Hd hbw;clear h1 h2 hb1 hbw HY HZ
     go_wp2_with fail
     refine bodyPost_ret (v:=.tuple #[.agg #[.int .i64 1,.int .i64 e,.int .i64 x,.int .i64 y,.int .i64 z],.bool true]) (two_results rfl _ _ _ 27 _ (0,0) _ rfl (Holds.all ((H2.out).far (by simp) _) _ _ _ _ _) Tryz.underlying27 rfl (by kernel_rfl) rfl) rfl ?_
     exact ⟨rfl,below_set5 (g:=w.heap.size + 1) ((HB.out).setCell (by simp) _) (by omega)⟩
   · have hv : St.into ⟨1,e,x,y,z⟩ = some ⟨2,e,x,y,z⟩:=by have hr:=HRt.out;unfold St.into;rw [if_pos (by simp [hr])];rfl
     rw [hv];clear hv HRt
     unfold ov
     simp only [Option.getD_none,Option.getD_some,Option.isSome_none,Option.isSome_some,zero_val]
     have hz:=zero_made (w.alloc (.cells #[.int .i64 1,.int .i64 e,.int .i64 x,.int .i64 y,.int .i64 z] 27))
     rw [size_alloc] at hz
     have hy:=(Holds.made w ⟨1,e,x,y,z⟩).alloc (.cells #[.int .i64 0,.int .i64 0,.int .i64 0,.int .i64 0,.int .i64 0] 27)
     have HZ:=Hd hz;have HY:=Hd hy;clear hz hy
     go_enter Tryz.func72,Tryz.ntmps72
     go_wp2_with fail
     refine (HR.out _).mono ?_;rintro e1 w1 ⟨rfl,hb1⟩
     have h2:=HZ.out.below hb1
     have h1:=HY.out.below hb1
     have hbw:=stBelow2 hb1
     obtain ⟨f0,f1,f2,f3,f4⟩:=h2.free5
     obtain ⟨c0,c1,c2,c3,c4⟩:=h2.cells5
     obtain ⟨d0,d1,d2,d3,d4⟩:=h1.cells5
     obtain ⟨g0,g1,g2,g3,g4⟩:=h1.free5
     simp only at d0 d1 d2 d3 d4
     have H1:=Hd h1;have H2:=Hd h2;have HB:=Hd hbw;clear h1 h2 hb1 hbw HY HZ
     go_wp2_with fail
     refine bodyPost_ret (v:=.tuple #[.agg #[.int .i64 2,.int .i64 e,.int .i64 x,.int .i64 y,.int .i64 z],.bool true]) (two_results rfl _ _ _ 27 _ (0,0) _ rfl (Holds.all ((H2.out).far (by simp) _) _ _ _ _ _) Tryz.underlying27 rfl (by kernel_rfl) rfl) rfl ?_
     exact ⟨rfl,below_set5 (g:=w.heap.size + 1) ((HB.out).setCell (by simp) _) (by omega)⟩
   · have hv : St.into ⟨2,e,x,y,z⟩ = some ⟨3,e,x,y,z⟩:=by have hr:=HRt.out;unfold St.into;rw [if_pos (by simp [hr])];rfl
     rw [hv];clear hv HRt
     unfold ov
     simp only [Option.getD_none,Option.getD_some,Option.isSome_none,Option.isSome_some,zero_val]
     have hz:=zero_made (w.alloc (.cells #[.int .i64 2,.int .i64 e,.int .i64 x,.int .i64 y,.int .i64 z] 27))
     rw [size_alloc] at hz
     have hy:=(Holds.made w ⟨2,e,x,y,z⟩).alloc (.cells #[.int .i64 0,.int .i64 0,.int .i64 0,.int .i64 0,.int .i64 0] 27)
     have HZ:=Hd hz;have HY:=Hd hy;clear hz hy
     go_enter Tryz.func72,Tryz.ntmps72
     go_wp2_with fail
     refine (HR.out _).mono ?_;rintro e1 w1 ⟨rfl,hb1⟩
     have h2:=HZ.out.below hb1
     have h1:=HY.out.below hb1
     have hbw:=stBelow2 hb1
     obtain ⟨f0,f1,f2,f3,f4⟩:=h2.free5
     obtain ⟨c0,c1,c2,c3,c4⟩:=h2.cells5
     obtain ⟨d0,d1,d2,d3,d4⟩:=h1.cells5
     obtain ⟨g0,g1,g2,g3,g4⟩:=h1.free5
     simp only at d0 d1 d2 d3 d4
     have H1:=Hd h1;have H2:=Hd h2;have HB:=Hd hbw;clear h1 h2 hb1 hbw HY HZ
     go_wp2_with fail
     refine bodyPost_ret (v:=.tuple #[.agg #[.int .i64 3,.int .i64 e,.int .i64 x,.int .i64 y,.int .i64 z],.bool true]) (two_results rfl _ _ _ 27 _ (0,0) _ rfl (Holds.all ((H2.out).far (by simp) _) _ _ _ _ _) Tryz.underlying27 rfl (by kernel_rfl) rfl) rfl ?_
     exact ⟨rfl,below_set5 (g:=w.heap.size + 1) ((HB.out).setCell (by simp) _) (by omega)⟩
   · have hv : St.into ⟨3,e,x,y,z⟩ = none:=by unfold St.into;exact if_neg (by simp)
     rw [hv];clear hv HRt
     unfold ov
     simp only [Option.getD_none,Option.getD_some,Option.isSome_none,Option.isSome_some,zero_val]
     have hz:=zero_made (w.alloc (.cells #[.int .i64 3,.int .i64 e,.int .i64 x,.int .i64 y,.int .i64 z] 27))
     rw [size_alloc] at hz
     have hy:=(Holds.made w ⟨3,e,x,y,z⟩).alloc (.cells #[.int .i64 0,.int .i64 0,.int .i64 0,.int .i64 0,.int .i64 0] 27)
     have HZ:=Hd hz;have HY:=Hd hy;clear hz hy
     go_enter Tryz.func72,Tryz.ntmps72
     go_wp2_with fail
     refine (HR.out _).mono ?_;rintro e1 w1 ⟨rfl,hb1⟩
     have h2:=HZ.out.below hb1
     have h1:=HY.out.below hb1
     have hbw:=stBelow2 hb1
     obtain ⟨f0,f1,f2,f3,f4⟩:=h2.free5
     obtain ⟨c0,c1,c2,c3,c4⟩:=h2.cells5
     obtain ⟨d0,d1,d2,d3,d4⟩:=h1.cells5
     obtain ⟨g0,g1,g2,g3,g4⟩:=h1.free5
     simp only at d0 d1 d2 d3 d4
     have H1:=Hd h1;have H2:=Hd h2;have HB:=Hd hbw;clear h1 h2 hb1 hbw HY HZ
     go_wp2_with fail
     refine bodyPost_ret (v:=.tuple #[.agg #[.int .i64 0,.int .i64 0,.int .i64 0,.int .i64 0,.int .i64 0],.bool false]) (two_results rfl _ _ _ 27 _ (0,0) _ rfl (Holds.all (H2.out) _ _ _ _ _) Tryz.underlying27 rfl (by kernel_rfl) rfl) rfl ?_
     exact ⟨rfl,below_set5 (g:=w.heap.size + 1) (HB.out) (by omega)⟩
 · have HR:=Hd (right_is (decide_eq_false hR) (right_any t))
   have hv:=hn hR
   clear hR hn
   rw [hv];clear hv
   unfold ov
   simp only [Option.getD_none,Option.isSome_none,zero_val]
   obtain ⟨d,e,x,y,z⟩:=t
   unfold St.val at *
   simp only at HR ⊢
   have hz:=zero_made (w.alloc (.cells #[.int .i64 d,.int .i64 e,.int .i64 x,.int .i64 y,.int .i64 z] 27))
   rw [size_alloc] at hz
   have hy:=(Holds.made w ⟨d,e,x,y,z⟩).alloc (.cells #[.int .i64 0,.int .i64 0,.int .i64 0,.int .i64 0,.int .i64 0] 27)
   have HZ:=Hd hz;have HY:=Hd hy;clear hz hy
   go_enter Tryz.func72,Tryz.ntmps72
   go_wp2_with fail
   refine (HR.out _).mono ?_;rintro e1 w1 ⟨rfl,hb1⟩
   have h2:=HZ.out.below hb1
   have h1:=HY.out.below hb1
   have hbw:=stBelow2 hb1
   obtain ⟨f0,f1,f2,f3,f4⟩:=h2.free5
   obtain ⟨c0,c1,c2,c3,c4⟩:=h2.cells5
   obtain ⟨d0,d1,d2,d3,d4⟩:=h1.cells5
   obtain ⟨g0,g1,g2,g3,g4⟩:=h1.free5
   simp only at d0 d1 d2 d3 d4
   have H1:=Hd h1;have H2:=Hd h2;have HB:=Hd hbw;clear h1 h2 hb1 hbw HY HZ
   go_wp2_with fail
   refine bodyPost_ret (v:=.tuple #[.agg #[.int .i64 0,.int .i64 0,.int .i64 0,.int .i64 0,.int .i64 0],.bool false]) (two_results rfl _ _ _ 27 _ (0,0) _ rfl (Holds.all (H2.out) _ _ _ _ _) Tryz.underlying27 rfl (by kernel_rfl) rfl) rfl ?_
   exact ⟨rfl,below_set5 (g:=w.heap.size + 1) (HB.out) (by omega)⟩
end

section
theorem L_join (a b : St) (h : a.B b) : a.L b ↔ (a.join b).e = b.e ∧ (a.join b).x = b.x ∧ (a.join b).y = b.y ∧ (a.join b).z = b.z:=by
 rw [St.join_eq h]
 unfold St.B at h
 unfold St.L
 simp only
 constructor
 · rintro ⟨h1,h2,h3,h4,h5,h6,h7⟩;omega
 · rintro ⟨h1,h2,h3,h4⟩;exact ⟨h.1,h.2.1,h.2.2,by omega,by omega,by omega,by omega⟩
set_option maxHeartbeats 1000000 in
theorem leq_any (a b : St) (w : World) : Calls Tryz.prog 30 #[a.val,b.val] w fun e w' => e = .returned (.bool (decide (a.L b))) ∧ Below w.heap.size w w':=by
 have hc:=fun w => join_any a b w
 by_cases hB : a.B b
 · have hj:=L_join a b hB
   have hdec : decide (a.L b) = (((a.join b).e == b.e) && eqL (a.join b).x (a.join b).y (a.join b).z b.x b.y b.z):=by
    unfold eqL
    rw [Bool.eq_iff_iff]
    simp [hj]
   rw [decide_eq_true hB] at hc
   rw [hdec];clear hdec hj hB
   generalize a.join b = T at *
   have HC:=Hd hc;clear hc
   obtain ⟨d,e,x,y,z⟩:=a
   obtain ⟨d',e',x',y',z'⟩:=b
   obtain ⟨p,q,r,s,t⟩:=T
   unfold St.val at *
   simp only at HC ⊢
   have hy:=Holds.made (w.alloc (.cells #[.int .i64 d,.int .i64 e,.int .i64 x,.int .i64 y,.int .i64 z] 27)) ⟨d',e',x',y',z'⟩
   rw [size_alloc] at hy
   have HY:=Hd hy;clear hy
   have hE : ∀ w,(Op.equalIn 10000 25 (.agg #[.int .i64 r,.int .i64 s,.int .i64 t]) (.agg #[.int .i64 x',.int .i64 y',.int .i64 z'])).run Tryz.prog w = .ok (eqL r s t x' y' z') w:=fun w => eq3 9998 _ _ _ _ _ _ w
   generalize eqL r s t x' y' z' = v at *
   have HE:=Hd hE;clear hE
   by_cases hq : q = e'
   · subst hq
     rw [beq_self_eq_true,Bool.true_and]
     go_enter Tryz.func30,Tryz.ntmps30
     go_wp2_with fail
     refine (HC.out _).mono ?_;rintro e1 w1 ⟨rfl,hb1⟩
     have h2:=HY.out.below hb1
     have hbw:=stBelow2 hb1
     have hsz:=hb1.size
     simp only [size_alloc] at hsz
     obtain ⟨c0,c1,c2,c3,c4⟩:=h2.cells5
     simp only at c0 c1 c2 c3 c4
     have m1 : w.heap.size + 1 ≠ w1.heap.size:=by omega
     have m2 : w.heap.size + 1 < w1.heap.size:=by omega
     have hE:=HE.out
     have HB:=Hd hbw;clear h2 hb1 hbw hsz
     go_wp2_with fail
     go_ret
     exact ⟨rfl,HB.out.alloc HB.out.size _⟩
   · have hq' : (q == e') = false:=by rw [beq_eq_false_iff_ne];exact hq
     rw [hq',Bool.false_and]
     clear hq
     go_enter Tryz.func30,Tryz.ntmps30
     go_wp2_with fail
     refine (HC.out _).mono ?_;rintro e1 w1 ⟨rfl,hb1⟩
     have h2:=HY.out.below hb1
     have hbw:=stBelow2 hb1
     have hsz:=hb1.size
     simp only [size_alloc] at hsz
     obtain ⟨c0,c1,c2,c3,c4⟩:=h2.cells5
     simp only at c0 c1 c2 c3 c4
     have m1 : w.heap.size + 1 ≠ w1.heap.size:=by omega
     have m2 : w.heap.size + 1 < w1.heap.size:=by omega
     have HB:=Hd hbw;clear h2 hb1 hbw hsz
     go_wp2_with fail
     go_ret
     exact ⟨rfl,HB.out.alloc HB.out.size _⟩
 · have hl : decide (a.L b) = false:=by rw [decide_eq_false_iff_not];exact fun h => hB (St.L_B h)
   rw [decide_eq_false hB] at hc
   rw [hl];clear hl hB
   generalize a.join b = T at *
   have HC:=Hd hc;clear hc
   obtain ⟨d,e,x,y,z⟩:=a
   obtain ⟨d',e',x',y',z'⟩:=b
   obtain ⟨p,q,r,s,t⟩:=T
   unfold St.val at *
   simp only at HC ⊢
   go_enter Tryz.func30,Tryz.ntmps30
   go_wp2_with fail
   refine (HC.out _).mono ?_;rintro e1 w1 ⟨rfl,hb1⟩
   have HB:=Hd (stBelow2 hb1);clear hb1
   go_wp2_with fail
   go_ret
   exact ⟨rfl,HB.out.alloc HB.out.size _⟩
end

section
def or_ (p q : Int) : Int:=if p = 0 then q else p
def Ck (s0 s1 s2 s3 s4 : Int) : Nat → Int
 | 0 => or_ s0 s1
 | 1 => or_ (or_ s0 s1) s2
 | 2 => or_ (or_ (or_ s0 s1) s2) s3
 | _ => or_ (or_ (or_ (or_ s0 s1) s2) s3) s4
theorem Ck_C (a b : St) : Ck (sgn a.d b.d) (sgn a.e b.e) (sgn a.x b.x) (sgn a.y b.y) (sgn a.z b.z) 3 = a.C b:=by
 unfold St.C
 generalize sgn a.d b.d = s0
 generalize sgn a.e b.e = s1
 generalize sgn a.x b.x = s2
 generalize sgn a.y b.y = s3
 generalize sgn a.z b.z = s4
 by_cases h0 : s0 = 0 <;> by_cases h1 : s1 = 0 <;> by_cases h2 : s2 = 0 <;> by_cases h3 : s3 = 0 <;> simp [Ck,or_,h0,h1,h2,h3]
theorem or_z (q : Int) : or_ 0 q = q:=if_pos rfl
theorem or_n {p : Int} (h : p ≠ 0) (q : Int) : or_ p q = p:=if_neg h
end

section
theorem nan_any (a : Int) (w : World) : Calls Tryz.prog 188 #[.int .i64 a] w fun e w' => e = .returned (.bool false) ∧ w = w':=by
 go_enter Tryz.func188,Tryz.ntmps188
 go_wp2_with fail
 go_ret
 exact ⟨rfl,rfl⟩
theorem cmpCompare_any (a b : Int) (w : World) : Calls Tryz.prog 155 #[.int .i64 a,.int .i64 b] w fun e w' => e = .returned (.int .i64 (sgn a b)) ∧ w = w':=by
 rcases sgn_cases a b with ⟨h,e⟩ | ⟨h,e⟩ | ⟨h,e⟩ <;> rw [e] <;> clear e
 · go_enter Tryz.func155,Tryz.ntmps155
   go_wp2_with fail
   refine (nan_any _ _).mono ?_;rintro e w' ⟨rfl,rfl⟩
   go_wp2_with fail
   refine (nan_any _ _).mono ?_;rintro e w' ⟨rfl,rfl⟩
   go_wp2_with fail
   go_ret
   exact ⟨rfl,rfl⟩
 · have h2 : ¬ a < b:=by omega
   go_enter Tryz.func155,Tryz.ntmps155
   go_wp2_with fail
   refine (nan_any _ _).mono ?_;rintro e w' ⟨rfl,rfl⟩
   go_wp2_with fail
   refine (nan_any _ _).mono ?_;rintro e w' ⟨rfl,rfl⟩
   go_wp2_with fail
   go_ret
   exact ⟨rfl,rfl⟩
 · subst h
   go_enter Tryz.func155,Tryz.ntmps155
   go_wp2_with fail
   refine (nan_any _ _).mono ?_;rintro e w' ⟨rfl,rfl⟩
   go_wp2_with fail
   refine (nan_any _ _).mono ?_;rintro e w' ⟨rfl,rfl⟩
   go_wp2_with fail
   go_ret
   exact ⟨rfl,rfl⟩
theorem or_any (b : Nat) (p q : Int) (w : World) (h0 : w.cell? ⟨b,0,none⟩ = some (.int .i64 p)) (h1 : w.cell? ⟨b,1,none⟩ = some (.int .i64 q)) :
 Calls Tryz.prog 154 #[.slice (some ⟨b,0,none⟩) 2 2] w fun e w' => e = .returned (.int .i64 (or_ p q)) ∧ w = w':=by
 by_cases hp : p = 0
 · subst hp
   rw [or_z]
   by_cases hq : q = 0
   · subst hq
     go_enter Tryz.func154,Tryz.ntmps154
     go_wp2_with fail
     go_loop [5,8] (fun c i => ∃ k : Nat,k ≤ 2 ∧ i = .int .i64 k) (fun c i => 2 - (intOf i).toNat)
     case atStart => exact ⟨0,by omega,rfl⟩
     case round =>
      obtain ⟨k,hk,rfl⟩:=hrel
      have hcase : k = 0 ∨ k = 1 ∨ k = 2:=by omega
      clear hk
      rcases hcase with rfl | rfl | rfl
      · go_wp2_with fail
        go_round
        case rel => exact ⟨1,by omega,rfl⟩
        case measure => simp [intOf]
      · go_wp2_with fail
        go_round
        case rel => exact ⟨2,by omega,rfl⟩
        case measure => simp [intOf]
      · go_wp2_with fail
        go_ret
        exact ⟨rfl,rfl⟩
   · have hq' : (q != 0) = true:=by simpa using hq
     have Hq:=Hd hq;clear hq
     go_enter Tryz.func154,Tryz.ntmps154
     go_wp2_with fail
     go_loop [5,8] (fun c i => ∃ k : Nat,k ≤ 1 ∧ i = .int .i64 k) (fun c i => 2 - (intOf i).toNat)
     case atStart => exact ⟨0,by omega,rfl⟩
     case round =>
      obtain ⟨k,hk,rfl⟩:=hrel
      have hcase : k = 0 ∨ k = 1:=by omega
      clear hk
      rcases hcase with rfl | rfl
      · go_wp2_with fail
        go_round
        case rel => exact ⟨1,by omega,rfl⟩
        case measure => simp [intOf]
      · go_wp2_with fail
        go_ret
        exact ⟨rfl,rfl⟩
 · have hp' : (p != 0) = true:=by simpa using hp
   rw [or_n hp]
   clear hp
   go_enter Tryz.func154,Tryz.ntmps154
   go_wp2_with fail
   go_loop [5,8] (fun c i => i = .int .i64 0) (fun c i => 2 - (intOf i).toNat)
   case atStart => rfl
   case round =>
    subst hrel
    go_wp2_with fail
    go_ret
    exact ⟨rfl,rfl⟩
end

section
def Grew (w w' : World) : Prop:=Below w.heap.size w w' ∧ w.drawn ≤ w'.drawn
theorem Grew.refl (w : World) : Grew w w:=⟨Below.refl _ _,Nat.le_refl _⟩
theorem Grew.alloc {w w' : World} (h : Grew w w') (o : Obj) : Grew w (w'.alloc o):=⟨h.1.alloc h.1.size o,h.2⟩
theorem Grew.drewN {w w' : World} (h : Grew w w') (n : Nat) : Grew w (w'.drewN n):=⟨below_drewN h.1 n,Nat.le_trans h.2 (Nat.le_add_right _ _)⟩
theorem cc_same (a b : Int) (w : World) : Calls Tryz.prog 155 #[.int .i64 a,.int .i64 b] w fun e w' => e = .returned (.int .i64 (sgn a b)) ∧ w' = w:=(cmpCompare_any a b w).mono fun _ _ h => ⟨h.1,h.2.symm⟩
theorem Ck_stay {s0 s1 s2 s3 s4 : Int} {k : Nat} (h : Ck s0 s1 s2 s3 s4 k ≠ 0) : Ck s0 s1 s2 s3 s4 3 = Ck s0 s1 s2 s3 s4 k:=by
 match k with
 | 0 => have h' : or_ s0 s1 ≠ 0:=h
        show or_ (or_ (or_ (or_ s0 s1) s2) s3) s4 = or_ s0 s1
        rw [or_n h',or_n h',or_n h']
 | 1 => have h' : or_ (or_ s0 s1) s2 ≠ 0:=h
        show or_ (or_ (or_ (or_ s0 s1) s2) s3) s4 = or_ (or_ s0 s1) s2
        rw [or_n h',or_n h']
 | 2 => have h' : or_ (or_ (or_ s0 s1) s2) s3 ≠ 0:=h
        show or_ (or_ (or_ (or_ s0 s1) s2) s3) s4 = or_ (or_ (or_ s0 s1) s2) s3
        rw [or_n h']
 | _ + 3 => rfl
set_option maxHeartbeats 2000000 in
theorem compare_grew (a b : St) (w : World) : Calls Tryz.prog 129 #[a.val,b.val] w fun e w' => e = .returned (.int .i64 (a.C b)) ∧ Grew w w':=by
 have hC:=Ck_C a b
 obtain ⟨d,e,x,y,z⟩:=a
 obtain ⟨d',e',x',y',z'⟩:=b
 unfold St.val
 simp only at hC ⊢
 rw [← hC];clear hC
 have S0:=Hd (cc_same d d');have S1:=Hd (cc_same e e');have S2:=Hd (cc_same x x');have S3:=Hd (cc_same y y');have S4:=Hd (cc_same z z')
 generalize sgn d d' = s0 at *
 generalize sgn e e' = s1 at *
 generalize sgn x x' = s2 at *
 generalize sgn y y' = s3 at *
 generalize sgn z z' = s4 at *
 have hk0 : Ck s0 s1 s2 s3 s4 0 = or_ s0 s1:=rfl
 have hk1 : Ck s0 s1 s2 s3 s4 0 = 0 → Ck s0 s1 s2 s3 s4 1 = s2:=fun h => by show or_ (or_ s0 s1) s2 = s2;rw [show or_ s0 s1 = 0 from h,or_z]
 have hk2 : Ck s0 s1 s2 s3 s4 1 = 0 → Ck s0 s1 s2 s3 s4 2 = s3:=fun h => by show or_ (or_ (or_ s0 s1) s2) s3 = s3;rw [show or_ (or_ s0 s1) s2 = 0 from h,or_z]
 have hk3 : Ck s0 s1 s2 s3 s4 2 = 0 → Ck s0 s1 s2 s3 s4 3 = s4:=fun h => by show or_ (or_ (or_ (or_ s0 s1) s2) s3) s4 = s4;rw [show or_ (or_ (or_ s0 s1) s2) s3 = 0 from h,or_z]
 have hst : ∀ k,Ck s0 s1 s2 s3 s4 k ≠ 0 → Ck s0 s1 s2 s3 s4 3 = Ck s0 s1 s2 s3 s4 k:=fun k h => Ck_stay h
 generalize Ck s0 s1 s2 s3 s4 = F at *
 have Hst:=Hd hst;have Hk1:=Hd hk1;have Hk2:=Hd hk2;have Hk3:=Hd hk3;clear hst hk1 hk2 hk3
 have hor:=fun b w h0 h1 => or_any b s0 s1 w h0 h1
 rw [← hk0] at hor
 have Hor:=Hd hor;clear hor hk0
 by_cases hz : F 0 = 0
 · have HZ:=Hd hz
   have hv : (F 0 != 0) = false:=by rw [hz];rfl
   clear hz
   go_enter Tryz.func129,Tryz.ntmps129
   go_wp2_with fail
   refine wp_tail 10 (by kernel_rfl) (by kernel_rfl) ?_
   simp only [List.take_succ_cons,List.take_zero,List.drop_succ_cons,List.drop_zero]
   still_step
   still_step
   still_step
   still_step
   still_call (S0.out _)
   still_step
   still_step
   still_step
   still_step
   still_call (S1.out _)
   refine wpStill_nil ?_
   go_wp2_with fail
   refine (Hor.out _ _ (by go_simp) (by go_simp)).mono ?_;rintro e w' ⟨rfl,rfl⟩
   have hr0 : Row ((w.alloc (.cells #[.int .i64 d,.int .i64 e,.int .i64 x,.int .i64 y,.int .i64 z] 27)).alloc (.cells #[.int .i64 d',.int .i64 e',.int .i64 x',.int .i64 y',.int .i64 z'] 27)) w.heap.size 27 [.int .i64 d,.int .i64 e,.int .i64 x,.int .i64 y,.int .i64 z]:=(Row.made w _ _).alloc _
   have hr1:=Row.made (w.alloc (.cells #[.int .i64 d,.int .i64 e,.int .i64 x,.int .i64 y,.int .i64 z] 27)) 27 [.int .i64 d',.int .i64 e',.int .i64 x',.int .i64 y',.int .i64 z']
   rw [size_alloc] at hr1
   have HR0:=Hd hr0;have HR1:=Hd hr1;clear hr0 hr1
   go_wp2_with fail
   go_loopw [23] (fun i wr => ∃ k : Nat,k ≤ 3 ∧ i = .int .i64 k ∧ F k = 0 ∧ Row wr w.heap.size 27 [.int .i64 d,.int .i64 e,.int .i64 x,.int .i64 y,.int .i64 z] ∧ Row wr (w.heap.size + 1) 27 [.int .i64 d',.int .i64 e',.int .i64 x',.int .i64 y',.int .i64 z'] ∧ Grew w wr) (fun i _ => 3 - (intOf i).toNat)
   case atStart => exact ⟨0,by omega,rfl,HZ.out,(HR0.out.drewN 1).alloc _,(HR1.out.drewN 1).alloc _,((((Grew.refl w).alloc _).alloc _).drewN 1).alloc _⟩
   case round =>
    obtain ⟨k,hk,rfl,hF,hra,hrb,hbw⟩:=hrel
    have hcase : k = 0 ∨ k = 1 ∨ k = 2 ∨ k = 3:=by omega
    clear hk HR0 HR1 hv HZ Hor
    have a2:=hra.cell 2;have a3:=hra.cell 3;have a4:=hra.cell 4
    have b2:=hrb.cell 2;have b3:=hrb.cell 3;have b4:=hrb.cell 4
    simp only [List.getElem?_cons_succ,List.getElem?_cons_zero] at a2 a3 a4 b2 b3 b4
    have HRA:=Hd hra;have HRB:=Hd hrb;have HBW:=Hd hbw;have HF:=Hd hF;clear hra hrb hbw hF
    rcases hcase with rfl | rfl | rfl | rfl
    · have hn:=Hk1.out HF.out
      have HN:=Hd hn;clear hn
      by_cases hz : s2 = 0
      · subst hz
        go_wp2_with fail
        go_quiet ((exact Calls.quiet_of_same (S2.out _)))
        go_wp2
        go_roundw
        case rel => exact ⟨1,by omega,rfl,HN.out,HRA.out,HRB.out,HBW.out.drewN _⟩
        case measure => simp [intOf]
      · have hz' : (s2 != 0) = true:=by simpa using hz
        have hq : F 3 = s2:=by rw [Hst.out 1 (by rw [HN.out];exact hz),HN.out]
        have HQ:=Hd hq;clear hq hz
        go_wp2_with fail
        go_quiet ((exact Calls.quiet_of_same (S2.out _)))
        go_wp2
        go_ret
        exact ⟨ret_int HQ.out.symm,HBW.out.drewN _⟩
    · have hn:=Hk2.out HF.out
      have HN:=Hd hn;clear hn
      by_cases hz : s3 = 0
      · subst hz
        go_wp2_with fail
        go_quiet ((exact Calls.quiet_of_same (S3.out _)))
        go_wp2
        go_roundw
        case rel => exact ⟨2,by omega,rfl,HN.out,HRA.out,HRB.out,HBW.out.drewN _⟩
        case measure => simp [intOf]
      · have hz' : (s3 != 0) = true:=by simpa using hz
        have hq : F 3 = s3:=by rw [Hst.out 2 (by rw [HN.out];exact hz),HN.out]
        have HQ:=Hd hq;clear hq hz
        go_wp2_with fail
        go_quiet ((exact Calls.quiet_of_same (S3.out _)))
        go_wp2
        go_ret
        exact ⟨ret_int HQ.out.symm,HBW.out.drewN _⟩
    · have hn:=Hk3.out HF.out
      have HN:=Hd hn;clear hn
      by_cases hz : s4 = 0
      · subst hz
        go_wp2_with fail
        go_quiet ((exact Calls.quiet_of_same (S4.out _)))
        go_wp2
        go_roundw
        case rel => exact ⟨3,by omega,rfl,HN.out,HRA.out,HRB.out,HBW.out.drewN _⟩
        case measure => simp [intOf]
      · have hz' : (s4 != 0) = true:=by simpa using hz
        have hq : F 3 = s4:=by rw [Hst.out 3 (by rw [HN.out];exact hz),HN.out]
        have HQ:=Hd hq;clear hq hz
        go_wp2_with fail
        go_quiet ((exact Calls.quiet_of_same (S4.out _)))
        go_wp2
        go_ret
        exact ⟨ret_int HQ.out.symm,HBW.out.drewN _⟩
    · go_wp2_with fail
      go_ret
      exact ⟨ret_int HF.out.symm,HBW.out⟩
 · have hq : F 3 = F 0:=Hst.out 0 hz
   have HQ:=Hd hq
   have hv : (F 0 != 0) = true:=by simpa using hz
   clear hz hq
   go_enter Tryz.func129,Tryz.ntmps129
   go_wp2_with fail
   refine wp_tail 10 (by kernel_rfl) (by kernel_rfl) ?_
   simp only [List.take_succ_cons,List.take_zero,List.drop_succ_cons,List.drop_zero]
   still_step
   still_step
   still_step
   still_step
   still_call (S0.out _)
   still_step
   still_step
   still_step
   still_step
   still_call (S1.out _)
   refine wpStill_nil ?_
   go_wp2_with fail
   refine (Hor.out _ _ (by go_simp) (by go_simp)).mono ?_;rintro e w' ⟨rfl,rfl⟩
   go_wp2_with fail
   go_ret
   exact ⟨ret_int HQ.out.symm,((((Grew.refl w).alloc _).alloc _).drewN 1).alloc _⟩
theorem compare_any (a b : St) (w : World) : Calls Tryz.prog 129 #[a.val,b.val] w fun e w' => e = .returned (.int .i64 (a.C b)) ∧ Below w.heap.size w w' :=
 (compare_grew a b w).mono fun _ _ h => ⟨h.1,h.2.1⟩
end

section
theorem stCells_int : Tryz.prog.cellsOf 3 = 1:=by kernel_rfl
theorem cells_arr : Tryz.prog.cellsOf 25 = 3:=by kernel_rfl
theorem cells_stamp : Tryz.prog.cellsOf 27 = 5:=by kernel_rfl
end

section
end

section
section
variable {P : Program} {C : World → Prop} {K : Act → Prop} {a : Act} {o : Oper} {ops : Array Oper}
end
section
variable {P : Program} {C : World → Prop} {K : Act → Prop} {a : Act} {o : Oper} {ops : Array Oper}
end
theorem eqi_is {x y : Operand} {n m : Int} {p : Bool} (h : (n == m) = p) : ∀ w,(do eqGuard .eql 3 x y (.int .i64 n) (.int .i64 m);binOp .eql 3 (.int .i64 n) (.int .i64 m) : Sem Value).run Tryz.prog w = .ok (.bool p) w:=by
 intro w;subst h;go_simp
theorem net_is {x y : Operand} {a b : St} {p : Bool} (h : (!eqB a b) = p) : ∀ w,(do eqGuard .neq 27 x y (.agg #[.int .i64 a.d,.int .i64 a.e,.int .i64 a.x,.int .i64 a.y,.int .i64 a.z]) (.agg #[.int .i64 b.d,.int .i64 b.e,.int .i64 b.x,.int .i64 b.y,.int .i64 b.z]);binOp .neq 27 (.agg #[.int .i64 a.d,.int .i64 a.e,.int .i64 a.x,.int .i64 a.y,.int .i64 a.z]) (.agg #[.int .i64 b.d,.int .i64 b.e,.int .i64 b.x,.int .i64 b.y,.int .i64 b.z]) : Sem Value).run Tryz.prog w = .ok (.bool p) w:=by
 intro w;rw [ne_t x y a b w,h]
end

section
namespace Mx
open Go.ChangeShapes Go.WideShapes Go.ChangeAt Go.RowKit Go.BigFrame Go.Shelf
abbrev Holds (w : World) (g : Nat) (s : Sm) : Prop:=HoldsM w g 82 s
theorem Holds.made (w : World) (s : Sm) : Holds (w.alloc (.cells #[.int .i64 s.fr,.int .i64 s.to,.int .i64 s.kp,.int .i64 s.ad,.int .i64 s.t0,.int .i64 s.t1,.int .i64 s.t2] 82)) w.heap.size s:=HoldsM.made w _ s
theorem Holds.cells5 {W : World} {g : Nat} {s : Sm} (h : Holds W g s) : W.cell? ⟨g,0,none⟩ = some (.int .i64 s.fr) ∧ W.cell? ⟨g,1,none⟩ = some (.int .i64 s.to) ∧ W.cell? ⟨g,2,none⟩ = some (.int .i64 s.kp) ∧ W.cell? ⟨g,3,none⟩ = some (.int .i64 s.ad) ∧ W.cell? ⟨g,4,none⟩ = some (.int .i64 s.t0) ∧ W.cell? ⟨g,5,none⟩ = some (.int .i64 s.t1) ∧ W.cell? ⟨g,6,none⟩ = some (.int .i64 s.t2):=HoldsM.cells7 h
theorem infoSum : (Tryz.prog.info? 82).map (fun i => (i.zero,i.size,i.bytes)) = some (some (.agg #[.int .i64 0,.int .i64 0,.int .i64 0,.int .i64 0,.int .i64 0,.int .i64 0,.int .i64 0]),7,56):=by kernel_rfl
def rowS (ts : List Sm) : List Value:=(ts.map Sm.cells).flatten
theorem rowS_cons (t : Sm) (ts : List Sm) : rowS (t :: ts) = .int .i64 t.fr :: .int .i64 t.to :: .int .i64 t.kp :: .int .i64 t.ad :: .int .i64 t.t0 :: .int .i64 t.t1 :: .int .i64 t.t2 :: rowS ts:=by simp [rowS,Sm.cells]
theorem rowS_append (ts us : List Sm) : rowS (ts ++ us) = rowS ts ++ rowS us:=by simp [rowS]
theorem rowS_len (ts : List Sm) : (rowS ts).length = ts.length * 7:=by
 induction ts with
 | nil => rfl
 | cons t ts ih => rw [rowS_cons];simp only [List.length_cons,ih];omega
theorem rowS_at : ∀ (ts : List Sm) (i : Nat) (t : Sm),ts[i]? = some t → ∀ (j : Nat) (u : Value),t.cells[j]? = some u → (rowS ts)[i * 7 + j]? = some u
 | x :: ts,0,t,h,j,u,hu => by
   obtain rfl : x = t:=by simpa using h
   rw [rowS_cons,Nat.zero_mul,Nat.zero_add]
   match j,hu with
   | 0,hu => exact hu
   | 1,hu => exact hu
   | 2,hu => exact hu
   | 3,hu => exact hu
   | 4,hu => exact hu
   | 5,hu => exact hu
   | 6,hu => exact hu
   | j + 7,hu => simp [Sm.cells] at hu
 | x :: ts,i + 1,t,h,j,u,hu => by
   have:=rowS_at ts i t (by simpa using h) j u hu
   rw [rowS_cons,show (i + 1) * 7 + j = i * 7 + j + 1 + 1 + 1 + 1 + 1 + 1 + 1 by omega]
   simp only [List.getElem?_cons_succ]
   exact this
theorem rowS_one (ts : List Sm) : ∀ u ∈ rowS ts,u.oneCell' = true:=by
 intro u hu
 simp only [rowS,List.mem_flatten,List.mem_map] at hu
 obtain ⟨l,⟨t,_,rfl⟩,hu⟩:=hu
 simp only [Sm.cells,List.mem_cons,List.not_mem_nil,or_false] at hu
 rcases hu with rfl | rfl | rfl | rfl | rfl | rfl | rfl <;> rfl
def Times (w : World) (A : Option Addr) (ts : List Sm) : Prop :=
 0 < ts.length → ∃ b,A = some ⟨b,0,none⟩ ∧ b < w.heap.size ∧ ∀ (j : Nat) (u : Value),(rowS ts)[j]? = some u → w.cell? ⟨b,j,none⟩ = some u
theorem Times.made (w : World) (ts : List Sm) : Times (w.alloc (.cells (rowS ts).toArray 82)) (some ⟨w.heap.size,0,none⟩) ts:=fun _ => by
 have h : Row (w.alloc (.cells (rowS ts).toArray 82)) w.heap.size 82 (rowS ts):=Row.made w _ _
 exact ⟨_,rfl,h.lt,fun j u hu => (h.cell j).trans hu⟩
theorem Times.of_own {w : World} {base : Nat} {v : Value} {n : Nat} {ts : List Sm} (h : w.ownsRow base 82 7 v n (rowS ts)) :
 ∃ A c,v = .slice A ts.length c ∧ Times w A ts ∧ ts.length ≤ c ∧ c ≤ maxLen:=by
 have hl : ts.length = n:=by have:=h.1;rw [rowS_len] at this;omega
 obtain ⟨_,⟨rfl,h0⟩ | ⟨g,cap,cur,rfl,_,hh,h1,h2,_,ht⟩⟩:=id h
 · exact ⟨none,0,by rw [hl,h0],fun hn => by omega,by omega,by simp⟩
 · refine ⟨some ⟨g,0,none⟩,cap,by rw [hl],fun _ => ⟨g,rfl,?_,fun j u hj => ?_⟩,by omega,h2⟩
   · by_cases hg : g < w.heap.size
     · exact hg
     · rw [Array.getElem?_eq_none (by omega)] at hh;cases hh
   · have:=h.cells (g:=g) rfl j u hj
     rwa [add_zero_off] at this
theorem own_apart {w : World} {base : Nat} {v : Value} {n b : Nat} {xs l : List Value} {t : TypeId} (h : w.ownsRow base 82 7 v n xs) (hr : Row w b t l) (ht : t ≠ 82) : some b ≠ v.ownBlock:=by
 obtain ⟨_,⟨rfl,_⟩ | ⟨g,cap,cur,rfl,_,hh,_⟩⟩:=h
 · intro e;cases e
 · intro e
   injection e with e
   subst e
   unfold Row at hr
   rw [hr] at hh;injection hh with hh;injection hh with _ ht';exact ht ht'
theorem own_belowS {w0 w w' : World} {base n : Nat} {v : Value} {xs : List Value} (h : w.ownsRow base 82 7 v n xs) (hg : w.grownBy w' v.ownBlock) (hb : Below base w0 w) (hB : base ≤ w.heap.size) : Below base w0 w' :=
 hb.grown hg hB (fun k e => (h.lt k e).1)
theorem wpList_append_times {w : World} {ops : Array Oper} {rest : List Oper} {o : Oper} {a : Act} {Q : Exit → Act → World → Prop} (hgd : o.guard = none) (s x : Operand)
 (ho : o.op = .call { callee:=.builtin .append,args:=#[s,x],argTypes:=#[75,75] })
 (base : Nat) (v : Value) (n : Nat) (ts : List Sm) (hs : a.eval s = v) (hown : w.ownsRow base 82 7 v n (rowS ts))
 (ad : Addr) (c : Nat) (ys : List Sm) (hx : a.eval x = .slice (some ad) ys.length c) (hy : 0 < ys.length) (hb : Times w (some ad) ys)
 (hle : n + ys.length ≤ 200000000) (hbase : base ≤ w.heap.size)
 (h : ∀ v' w',w'.ownsRow base 82 7 v' (n + ys.length) (rowS (ts ++ ys)) → w.grownBy w' v.ownBlock → wpList Tryz.prog ops Q rest (a.put o.dst v') w') : wpList Tryz.prog ops Q (o :: rest) a w:=by
 obtain ⟨i,hi,hz0,hz1,hz2⟩:=info_parts infoSum
 obtain ⟨b,e,_,hcell⟩:=hb hy
 cases e
 refine wpList_append_own w hgd s x 75 ho base 82 i _ 7 56 Tryz.underlying75 hi hz0 hz1 hz2 rfl (by omega) v n (rowS ts) hs hown ⟨b,0,none⟩ ys.length c (rowS ys) hx (rowS_len ys) ?_ (rowS_one ys) (by unfold maxLen;omega) (by omega) hbase ?_
 · intro j u hj
   rw [add_zero_off];exact hcell j u hj
 · intro v' w' h1 h2 _
   exact h v' w' (by rw [rowS_append];exact h1) h2

def Ts (w : World) (A : Option Addr) (ts : List Sm) : Prop :=
 0 < ts.length → ∃ b o,A = some ⟨b,o,none⟩ ∧ b < w.heap.size ∧ ∀ (j : Nat) (u : Value),(rowS ts)[j]? = some u → w.cell? ⟨b,o + j,none⟩ = some u
section
variable {w w' : World} {A : Option Addr} {ts : List Sm}
theorem Ts.below (h : Ts w A ts) (hb : Below w.heap.size w w') : Ts w' A ts:=fun hn => by
 obtain ⟨b,o,e,hlt,hc⟩:=h hn
 exact ⟨b,o,e,Nat.lt_of_lt_of_le hlt hb.size,fun j u hu => (hb.cell (p:=⟨b,o + j,none⟩) hlt).trans (hc j u hu)⟩
theorem Ts.nil : Ts w A []:=fun h => absurd h (by simp)
theorem Ts.of (h : Times w A ts) : Ts w A ts:=fun hn => by
 obtain ⟨b,e,hlt,hc⟩:=h hn
 exact ⟨b,0,e,hlt,fun j u hu => by rw [Nat.zero_add];exact hc j u hu⟩
theorem rowS_take (ts : List Sm) (k : Nat) : rowS (ts.take k) = (rowS ts).take (k * 7):=by
 induction ts generalizing k with
 | nil => simp [rowS]
 | cons t ts ih =>
   cases k with
   | zero => simp [rowS]
   | succ k => rw [List.take_succ_cons,rowS_cons,rowS_cons,ih,show (k + 1) * 7 = k * 7 + 1 + 1 + 1 + 1 + 1 + 1 + 1 by omega];simp only [List.take_succ_cons]
theorem Ts.take (h : Ts w A ts) (k : Nat) : Ts w A (ts.take k):=fun hn => by
 obtain ⟨b,o,e,hlt,hc⟩:=h (by rw [List.length_take] at hn;omega)
 refine ⟨b,o,e,hlt,fun j u hu => hc j u ?_⟩
 rw [rowS_take,List.getElem?_take] at hu
 split at hu
 · exact hu
 · cases hu
theorem run_load_st (w : World) (b o : Nat) (t : Sm) (h : ∀ j v,t.cells[j]? = some v → w.cell? ⟨b,o + j,none⟩ = some v) :
 (Instr.loadAt 82 (.pointer (some ⟨b,o,none⟩))).run Tryz.prog w = .ok (.agg #[.int .i64 t.fr,.int .i64 t.to,.int .i64 t.kp,.int .i64 t.ad,.int .i64 t.t0,.int .i64 t.t1,.int .i64 t.t2]) w :=
 run_loadAt_part b o 82 _ t.cells (fun j v hj => by rw [add_at];exact h j v hj) Tryz.underlying82 rfl (by kernel_rfl)
theorem Ts.load (h : Ts w A ts) {i : Nat} {t : Sm} (hi : ts[i]? = some t) : ∃ b o,A = some ⟨b,o,none⟩ ∧ b < w.heap.size ∧
 ∀ w',Below w.heap.size w w' → (Instr.loadAt 82 (.pointer (some ⟨b,o + i * 7,none⟩))).run Tryz.prog w' = .ok (.agg #[.int .i64 t.fr,.int .i64 t.to,.int .i64 t.kp,.int .i64 t.ad,.int .i64 t.t0,.int .i64 t.t1,.int .i64 t.t2]) w':=by
 obtain ⟨hl,_⟩:=List.getElem?_eq_some_iff.1 hi
 obtain ⟨b,o,e,hlt,hc⟩:=h (by omega)
 refine ⟨b,o,e,hlt,fun w' hb => run_load_st _ _ _ _ fun j v hj => ?_⟩
 rw [hb.cell (p:=⟨b,o + i * 7 + j,none⟩) hlt,Nat.add_assoc]
 exact hc _ v (rowS_at ts i t hi j v hj)
theorem Ts.five (h : Ts w A ts) {i : Nat} {t : Sm} (hi : ts[i]? = some t) : ∃ b o,A = some ⟨b,o,none⟩ ∧ b < w.heap.size ∧
 ∀ w',Below w.heap.size w w' → w'.cell? ⟨b,o + i * 7,none⟩ = some (.int .i64 t.fr) ∧ w'.cell? ⟨b,o + i * 7 + 1,none⟩ = some (.int .i64 t.to) ∧ w'.cell? ⟨b,o + i * 7 + 2,none⟩ = some (.int .i64 t.kp) ∧ w'.cell? ⟨b,o + i * 7 + 3,none⟩ = some (.int .i64 t.ad) ∧ w'.cell? ⟨b,o + i * 7 + 4,none⟩ = some (.int .i64 t.t0) ∧ w'.cell? ⟨b,o + i * 7 + 5,none⟩ = some (.int .i64 t.t1) ∧ w'.cell? ⟨b,o + i * 7 + 6,none⟩ = some (.int .i64 t.t2):=by
 obtain ⟨hl,_⟩:=List.getElem?_eq_some_iff.1 hi
 obtain ⟨b,o,e,hlt,hc⟩:=h (by omega)
 refine ⟨b,o,e,hlt,fun w' hb => ?_⟩
 have key : ∀ j v,t.cells[j]? = some v → w'.cell? ⟨b,o + i * 7 + j,none⟩ = some v:=fun j v hj => by
  rw [hb.cell (p:=⟨b,o + i * 7 + j,none⟩) hlt,Nat.add_assoc]
  exact hc _ v (rowS_at ts i t hi j v hj)
 exact ⟨key 0 _ rfl,key 1 _ rfl,key 2 _ rfl,key 3 _ rfl,key 4 _ rfl,key 5 _ rfl,key 6 _ rfl⟩
end
def Tells (g : Nat) (lb : Array Value) (p : Sm → Bool) (w : World) : Prop :=
 ∀ (W : World) (x : Sm),Below w.heap.size w W → Calls Tryz.prog g (#[x.v] ++ lb) W fun e w' => e = .returned (.bool (p x)) ∧ Below W.heap.size W w'
theorem any_false {p : Sm → Bool} {ts : List Sm} : ts.any p = false ↔ ∀ (j : Nat) (t : Sm),ts[j]? = some t → p t = false:=by
 rw [List.any_eq_false]
 constructor
 · intro h j t ht
   have:=h t (List.mem_of_getElem? ht)
   simpa using this
 · intro h t ht
   obtain ⟨j,hj⟩:=List.getElem?_of_mem ht
   rw [h j t hj];simp
theorem indexFunc_any (A : Option Addr) (ts : List Sm) (c g : Nat) (lb : Array Value) (p : Sm → Bool) (w : World) (hT : Ts w A ts) (hn : ts.length ≤ 200000000)
 (eg : ∀ args w,(callFunc g args).run Tryz.prog w = .ok (.enter g args) w) (hp : 0 < ts.length → Tells g lb p w) :
 Calls Tryz.prog 158 #[.slice A ts.length c,.func (.func g) #[] lb] w fun e w' => (∃ i : Int,e = .returned (.int .i64 i) ∧ decide (0 ≤ i) = ts.any p) ∧ Below w.heap.size w w':=by
 have HT:=Hd hT;have HP:=Hd hp;clear hT hp
 go_enter Tryz.func158,Tryz.ntmps158
 go_wp2_with fail
 go_loopw [5,8] (fun _ i wr => ∃ k : Nat,k ≤ ts.length ∧ i = .int .i64 k ∧ Below w.heap.size w wr ∧ ∀ (j : Nat) (t : Sm),j < k → ts[j]? = some t → p t = false) (fun _ i _ => ts.length - (intOf i).toNat)
 case atStart => exact ⟨0,by omega,rfl,Below.refl _ _,fun j t h => absurd h (by omega)⟩
 case round =>
  obtain ⟨k,hk,rfl,hb,hno⟩:=hrel
  have HB:=Hd hb;have HNO:=Hd hno;clear hb hno
  by_cases hlt : k < ts.length
  · have hltz : (k : Int) < (ts.length : Int):=by omega
    obtain ⟨t,ht⟩ : ∃ t,ts[k]? = some t:=⟨_,List.getElem?_eq_getElem hlt⟩
    obtain ⟨b,o,rfl,hbl,hld⟩:=HT.out.five ht
    obtain ⟨c0,c1,c2,c3,c4,c5,c6⟩:=hld _ HB.out
    have hcall:=HP.out (by omega) wr t HB.out
    have HTT:=Hd ht;clear ht
    cases hq : p t with
    | true =>
      rw [hq] at hcall
      have HQ:=Hd hq;clear hq
      go_wp2_with fail
      refine hcall.mono ?_;rintro e w1 ⟨rfl,hb1⟩
      have HB1:=Hd (HB.out.trans (hb1.mono HB.out.size));clear hb1 hld hcall c0 c1 c2 c3 c4 c5 c6
      go_wp2_with fail
      go_ret
      refine ⟨⟨k,rfl,?_⟩,HB1.out⟩
      rw [decide_eq_true (by omega),eq_comm,List.any_eq_true]
      exact ⟨t,List.mem_of_getElem? HTT.out,HQ.out⟩
    | false =>
      rw [hq] at hcall
      have HQ:=Hd hq;clear hq
      go_wp2_with fail
      refine hcall.mono ?_;rintro e w1 ⟨rfl,hb1⟩
      have HB1:=Hd (HB.out.trans (hb1.mono HB.out.size));clear hb1 hld hcall c0 c1 c2 c3 c4 c5 c6
      go_wp2_with fail
      go_roundw
      case rel =>
       refine ⟨k + 1,by omega,by simp,HB1.out,fun j t' hj ht' => ?_⟩
       by_cases e : j = k
       · subst e
         rw [HTT.out] at ht';cases ht'
         exact HQ.out
       · exact HNO.out j t' (by omega) ht'
      case measure => simp [intOf];omega
  · have hltz : ¬ (k : Int) < (ts.length : Int):=by omega
    go_wp2_with fail
    go_ret
    refine ⟨⟨-1,rfl,?_⟩,HB.out⟩
    rw [decide_eq_false (by omega),eq_comm,any_false]
    exact fun j t ht => HNO.out j t (by have:=(List.getElem?_eq_some_iff.1 ht).1;omega) ht
theorem containsFunc_any (A : Option Addr) (ts : List Sm) (c g : Nat) (lb : Array Value) (p : Sm → Bool) (w : World) (hT : Ts w A ts) (hn : ts.length ≤ 200000000)
 (eg : ∀ args w,(callFunc g args).run Tryz.prog w = .ok (.enter g args) w) (hp : 0 < ts.length → Tells g lb p w) :
 Calls Tryz.prog 93 #[.slice A ts.length c,.func (.func g) #[] lb] w fun e w' => e = .returned (.bool (ts.any p)) ∧ Below w.heap.size w w':=by
 have H:=Hd (indexFunc_any A ts c g lb p w hT hn eg hp);clear hT hp eg
 go_enter Tryz.func93,Tryz.ntmps93
 go_wp2_with fail
 refine (H.out).mono ?_;rintro e w1 ⟨⟨i,rfl,hi⟩,hb⟩
 have HB:=Hd hb;clear hb
 have HI:=Hd hi;clear hi
 go_wp2_with fail
 go_ret
 exact ⟨ret_bool HI.out,HB.out⟩
end Mx
end

section
open Go.RowKit
structure Kind (α : Type) where
 cells : α → List Value
 K : Nat
 len : ∀ t,(cells t).length = K
 one : ∀ t,∀ u ∈ cells t,u.oneCell' = true
 pos : 0 < K
namespace Rw
theorem grown_below {w w' : World} (h : Below w.heap.size w w') (row : Option Nat) : w.grownBy w' row:=⟨h.os,h.tape,h.output,h.size,fun k hk _ => h.block k hk⟩
section
variable {α : Type} {κ : Kind α}
def row (κ : Kind α) (ts : List α) : List Value:=(ts.map κ.cells).flatten
theorem row_nil : row κ [] = []:=rfl
theorem row_cons (t : α) (ts : List α) : row κ (t :: ts) = κ.cells t ++ row κ ts:=by simp [row]
theorem row_append (ts us : List α) : row κ (ts ++ us) = row κ ts ++ row κ us:=by simp [row]
theorem row_len (ts : List α) : (row κ ts).length = ts.length * κ.K:=by
 induction ts with
 | nil => simp [row]
 | cons t ts ih => rw [row_cons,List.length_append,ih,κ.len,List.length_cons,Nat.succ_mul];omega
theorem row_at : ∀ (ts : List α) (i : Nat) (t : α),ts[i]? = some t → ∀ (j : Nat) (u : Value),(κ.cells t)[j]? = some u → (row κ ts)[i * κ.K + j]? = some u
 | x :: ts,0,t,h,j,u,hu => by
   obtain rfl : x = t:=by simpa using h
   have hj:=(List.getElem?_eq_some_iff.1 hu).1
   rw [row_cons,Nat.zero_mul,Nat.zero_add,List.getElem?_append_left hj];exact hu
 | x :: ts,i + 1,t,h,j,u,hu => by
   have:=row_at ts i t (by simpa using h) j u hu
   rw [row_cons,List.getElem?_append_right (by rw [κ.len,Nat.succ_mul];omega),κ.len,Nat.succ_mul,show i * κ.K + κ.K + j - κ.K = i * κ.K + j by omega]
   exact this
theorem row_one (ts : List α) : ∀ u ∈ row κ ts,u.oneCell' = true:=by
 intro u hu
 simp only [row,List.mem_flatten,List.mem_map] at hu
 obtain ⟨l,⟨t,_,rfl⟩,hu⟩:=hu
 exact κ.one t u hu
theorem row_take (ts : List α) (k : Nat) : row κ (ts.take k) = (row κ ts).take (k * κ.K):=by
 induction ts generalizing k with
 | nil => simp [row]
 | cons t ts ih =>
   cases k with
   | zero => simp [row]
   | succ k => rw [List.take_succ_cons,row_cons,row_cons,ih,List.take_append,κ.len,List.take_of_length_le (l:=κ.cells t) (by rw [κ.len,Nat.succ_mul];omega),Nat.succ_mul,show k * κ.K + κ.K - κ.K = k * κ.K by omega]
def Ts (κ : Kind α) (w : World) (A : Option Addr) (ts : List α) : Prop :=
 0 < ts.length → ∃ b o,A = some ⟨b,o,none⟩ ∧ b < w.heap.size ∧ ∀ (j : Nat) (u : Value),(row κ ts)[j]? = some u → w.cell? ⟨b,o + j,none⟩ = some u
end
section
variable {α : Type} {κ : Kind α} {w w' : World} {A : Option Addr} {ts : List α}
theorem Ts.below (h : Ts κ w A ts) (hb : Below w.heap.size w w') : Ts κ w' A ts:=fun hn => by
 obtain ⟨b,o,e,hlt,hc⟩:=h hn
 exact ⟨b,o,e,Nat.lt_of_lt_of_le hlt hb.size,fun j u hu => (hb.cell (p:=⟨b,o + j,none⟩) hlt).trans (hc j u hu)⟩
theorem Ts.nil : Ts κ w A []:=fun h => absurd h (by simp)
theorem Ts.made (w : World) (ts : List α) (t : TypeId) : Ts κ (w.alloc (.cells (row κ ts).toArray t)) (some ⟨w.heap.size,0,none⟩) ts:=fun _ => by
 have h : Row (w.alloc (.cells (row κ ts).toArray t)) w.heap.size t (row κ ts):=Row.made w _ _
 exact ⟨_,0,rfl,h.lt,fun j u hu => by rw [Nat.zero_add];exact (h.cell j).trans hu⟩
theorem Ts.of_row {g : Nat} {t : TypeId} (h : Row w g t (row κ ts)) : Ts κ w (some ⟨g,0,none⟩) ts:=fun _ =>
 ⟨_,0,rfl,h.lt,fun j u hu => by rw [Nat.zero_add];exact (h.cell j).trans hu⟩
theorem Ts.take (h : Ts κ w A ts) (k : Nat) : Ts κ w A (ts.take k):=fun hn => by
 obtain ⟨b,o,e,hlt,hc⟩:=h (by rw [List.length_take] at hn;omega)
 refine ⟨b,o,e,hlt,fun j u hu => hc j u ?_⟩
 rw [row_take,List.getElem?_take] at hu
 split at hu
 · exact hu
 · cases hu
theorem Ts.at_ (h : Ts κ w A ts) {i : Nat} {t : α} (hi : ts[i]? = some t) : ∃ b o,A = some ⟨b,o,none⟩ ∧ b < w.heap.size ∧
 ∀ w',Below w.heap.size w w' → ∀ (j : Nat) (v : Value),(κ.cells t)[j]? = some v → w'.cell? ⟨b,o + i * κ.K + j,none⟩ = some v:=by
 obtain ⟨hl,_⟩:=List.getElem?_eq_some_iff.1 hi
 obtain ⟨b,o,e,hlt,hc⟩:=h (by omega)
 refine ⟨b,o,e,hlt,fun w' hb j v hj => ?_⟩
 rw [hb.cell (p:=⟨b,o + i * κ.K + j,none⟩) hlt,Nat.add_assoc]
 exact hc _ v (row_at ts i t hi j v hj)
end
section
variable {α : Type} {κ : Kind α} {w w' : World} {base n : Nat} {v : Value} {ts : List α} {T : TypeId}
theorem Ts.of_own (h : w.ownsRow base T κ.K v n (row κ ts)) :
 ∃ A c,v = .slice A ts.length c ∧ Ts κ w A ts ∧ ts.length ≤ c ∧ c ≤ maxLen ∧ (A = none → c = 0) ∧ ∀ ad,A = some ad → base ≤ ad.block:=by
 have hl : ts.length = n:=by
  have:=h.1;rw [row_len] at this
  exact Nat.eq_of_mul_eq_mul_right κ.pos this
 obtain ⟨_,⟨rfl,h0⟩ | ⟨g,cap,cur,rfl,hg,hh,h1,h2,_,ht⟩⟩:=id h
 · exact ⟨none,0,by rw [hl,h0],fun hn => by omega,by omega,by simp,fun _ => rfl,fun _ e => by cases e⟩
 · refine ⟨some ⟨g,0,none⟩,cap,by rw [hl],fun _ => ⟨g,0,rfl,?_,fun j u hj => ?_⟩,by omega,h2,by simp,fun ad e => by cases e;exact hg⟩
   · by_cases hg : g < w.heap.size
     · exact hg
     · rw [Array.getElem?_eq_none (by omega)] at hh;cases hh
   · have:=h.cells (g:=g) rfl j u hj
     rw [Nat.zero_add]
     rwa [add_zero_off] at this
theorem own_kept {xs : List Value} {K : Nat} (h : w.ownsRow base T K v n xs) (hb : Below w.heap.size w w') : w'.ownsRow base T K v n xs:=by
 refine h.kept (grown_below hb none) ?_
 cases hv : v.ownBlock with
 | none => exact .inl rfl
 | some k => exact .inr (by simp)
theorem own_apart {K b : Nat} {xs l : List Value} {t : TypeId} (h : w.ownsRow base T K v n xs) (hr : Row w b t l) (ht : t ≠ T) : some b ≠ v.ownBlock:=by
 obtain ⟨_,⟨rfl,_⟩ | ⟨g,cap,cur,rfl,_,hh,_⟩⟩:=h
 · intro e;cases e
 · intro e
   injection e with e
   subst e
   unfold Row at hr
   rw [hr] at hh;injection hh with hh;injection hh with _ ht';exact ht ht'
theorem own_apart2 {K K' n' base' : Nat} {v' : Value} {xs ys : List Value} {t : TypeId} (h : w.ownsRow base T K v n xs) (h' : w.ownsRow base' t K' v' n' ys) (ht : t ≠ T) : v'.ownBlock = none ∨ v'.ownBlock ≠ v.ownBlock:=by
 obtain ⟨_,⟨rfl,_⟩ | ⟨g',cap',cur',rfl,_,hh',_⟩⟩:=h'
 · exact .inl rfl
 · right
   obtain ⟨_,⟨rfl,_⟩ | ⟨g,cap,cur,rfl,_,hh,_⟩⟩:=h
   · intro e;cases e
   · intro e
     injection e with e
     simp only at e
     subst e
     rw [hh'] at hh;injection hh with hh;injection hh with _ e';exact ht e'
theorem own_below {w0 : World} {K : Nat} {xs : List Value} (h : w.ownsRow base T K v n xs) (hg : w.grownBy w' v.ownBlock) (hb : Below base w0 w) (hB : base ≤ w.heap.size) : Below base w0 w' :=
 hb.grown hg hB (fun k e => (h.lt k e).1)
end
theorem append_own {α : Type} (κ : Kind α) {P : Program} {w : World} {ops : Array Oper} {rest : List Oper} {o : Oper} {a : Act} {Q : Exit → Act → World → Prop} (T TS : TypeId) {z : Value} {bytes : Nat}
 (hu : P.underlying TS = some (.slice T)) (hinfo : (P.info? T).map (fun i => (i.zero,i.size,i.bytes)) = some (some z,κ.K,bytes)) (hz : z.cells.size = κ.K) (hgd : o.guard = none) (s x : Operand)
 (ho : o.op = .call { callee:=.builtin .append,args:=#[s,x],argTypes:=#[TS,TS] })
 (base : Nat) (v : Value) (n : Nat) (ts : List α) (hs : a.eval s = v) (hown : w.ownsRow base T κ.K v n (row κ ts))
 (A : Option Addr) (c : Nat) (ys : List α) (hx : a.eval x = .slice A ys.length c) (hA : A = none → c = 0 ∧ ys = []) (hb : Ts κ w A ys)
 (hle : n + ys.length ≤ maxLen) (hby : (n + ys.length) * bytes ≤ 140737488355328) (hbase : base ≤ w.heap.size)
 (h : ∀ v' w',w'.ownsRow base T κ.K v' (n + ys.length) (row κ (ts ++ ys)) → w.grownBy w' v.ownBlock → wpList P ops Q rest (a.put o.dst v') w') : wpList P ops Q (o :: rest) a w:=by
 obtain ⟨i,hi,hz0,hz1,hz2⟩:=info_parts hinfo
 cases A with
 | none =>
   obtain ⟨rfl,rfl⟩:=hA rfl
   exact wpList_append_own_none hgd s x TS ho base T i κ.K hu hi v n (row κ ts) hs hown hx (h v w (by simpa using hown) (grown_below (Below.refl _ w) _))
 | some ad =>
   refine wpList_append_own w hgd s x TS ho base T i _ κ.K bytes hu hi hz0 hz1 hz2 hz κ.pos v n (row κ ts) hs hown ad ys.length c (row κ ys) hx (row_len ys) ?_ (row_one ys) hle hby hbase ?_
   · intro j u hj
     by_cases h0 : 0 < ys.length
     · obtain ⟨b,o',e,_,hc⟩:=hb h0
       cases e
       have:=hc j u hj
       cases j with
       | zero => exact this
       | succ j => exact this
     · have : ys = []:=by cases ys with
        | nil => rfl
        | cons y ys => simp at h0
       subst this
       simp [row] at hj
   · intro v' w' h1 h2 _
     exact h v' w' (by rw [row_append];exact h1) h2
end Rw
end

section
open Go.RowKit
namespace Rc
theorem add_off (g o j : Nat) : (⟨g,o,none⟩ : Addr).add j = ⟨g,o + j,none⟩:=by unfold Addr.add;split <;> simp_all
def Own (w : World) (base : Nat) (e : TypeId) (size : Nat) (v : Value) (n : Nat) (xs : List Value) : Prop :=
 xs.length = n * size ∧ ∃ g off cap cur,v = .slice (some ⟨g,off,none⟩) n cap ∧ base ≤ g ∧ w.heap[g]? = some (.cells cur e (0,0)) ∧ n ≤ cap ∧ cap ≤ maxLen ∧ off + cap * size ≤ cur.size ∧ ∀ j u,xs[j]? = some u → cur[off + j]? = some u
section
variable {w w' : World} {base n size : Nat} {e : TypeId} {v : Value} {xs : List Value}
theorem Own.of_row (h : w.ownsRow base e size v n xs) (hn : 0 < n) : Own w base e size v n xs:=by
 obtain ⟨hl,⟨_,h0⟩ | ⟨g,cap,cur,hv,hb,hg,h1,h2,h3,h4⟩⟩:=h
 · omega
 · refine ⟨hl,g,0,cap,cur,hv,hb,hg,h1,h2,by omega,fun j u hu => ?_⟩
   rw [← h4,List.getElem?_take] at hu
   split at hu
   · rw [Nat.zero_add];simpa using hu
   · cases hu
theorem Own.at_ (h : Own w base e size v n xs) : ∃ g off cap,v = .slice (some ⟨g,off,none⟩) n cap ∧ base ≤ g ∧ g < w.heap.size ∧ n ≤ cap ∧ cap ≤ maxLen ∧ ∀ j u,xs[j]? = some u → w.cell? ⟨g,off + j,none⟩ = some u:=by
 obtain ⟨hl,g,off,cap,cur,hv,hb,hg,h1,h2,h3,h4⟩:=h
 refine ⟨g,off,cap,hv,hb,(Array.getElem?_eq_some_iff.1 hg).1,h1,h2,fun j u hu => ?_⟩
 rw [cell_of_row w g (off + j) cur e (0,0) hg]
 exact h4 j u hu
theorem Own.kept {row : Option Nat} (h : Own w base e size v n xs) (hg : w.grownBy w' row) (hne : v.ownBlock ≠ row) : Own w' base e size v n xs:=by
 obtain ⟨hl,g,off,cap,cur,rfl,hb,hgg,h1⟩:=h
 refine ⟨hl,g,off,cap,cur,rfl,hb,?_,h1⟩
 rw [hg.block g (Array.getElem?_eq_some_iff.1 hgg).1 (by simpa [Value.ownBlock] using hne)]
 exact hgg
theorem Own.below (h : Own w base e size v n xs) (hb : Below w.heap.size w w') : Own w' base e size v n xs:=by
 obtain ⟨hl,g,off,cap,cur,rfl,hbg,hgg,h1⟩:=h
 refine ⟨hl,g,off,cap,cur,rfl,hbg,?_,h1⟩
 rw [hb.block g (Array.getElem?_eq_some_iff.1 hgg).1]
 exact hgg
theorem Own.alloc (h : Own w base e size v n xs) (o : Obj) : Own (w.alloc o) base e size v n xs:=h.below ((Below.refl _ _).alloc (Nat.le_refl _) _)
theorem Own.lt (h : Own w base e size v n xs) : ∀ k,v.ownBlock = some k → base ≤ k ∧ k < w.heap.size:=by
 obtain ⟨g,off,cap,rfl,hb,hlt,_⟩:=h.at_
 intro k hk
 simp only [Value.ownBlock,Option.some.injEq] at hk
 subst hk
 exact ⟨hb,hlt⟩
theorem Own.apart {K m base' : Nat} {T : TypeId} {v' : Value} {ys : List Value} (h : Own w base e size v n xs) (h' : w.ownsRow base' T K v' m ys) (ht : T ≠ e) : v.ownBlock ≠ v'.ownBlock:=by
 obtain ⟨hl,g,off,cap,cur,rfl,hb,hgg,h1⟩:=h
 obtain ⟨_,⟨rfl,_⟩ | ⟨g',cap',cur',rfl,_,hh',_⟩⟩:=h'
 · simp [Value.ownBlock]
 · intro e
   simp only [Value.ownBlock,Option.some.injEq] at e
   subst e
   rw [hh'] at hgg;injection hgg with hgg;injection hgg with _ e';exact ht e'
theorem Own.apart_row {b : Nat} {T : TypeId} {l : List Value} (h : Own w base e size v n xs) (hr : Row w b T l) (ht : T ≠ e) : v.ownBlock ≠ some b:=by
 obtain ⟨hl,g,off,cap,cur,rfl,hb,hgg,h1⟩:=h
 intro e
 simp only [Value.ownBlock,Option.some.injEq] at e
 subst e
 unfold Row at hr
 rw [hr] at hgg;injection hgg with hgg;injection hgg with _ e';exact ht e'
theorem Own.cut {g off cap : Nat} {c ys : List Value} (h : Own w base e size (.slice (some ⟨g,off,none⟩) n cap) n xs) (hx : xs = c ++ ys) (hc : c.length = size) (hn : 0 < n) (hs : 0 < size) :
 Own w base e size (.slice (if cap = 1 then some ⟨g,off,none⟩ else some ⟨g,off + size,none⟩) (n - 1) (cap - 1)) (n - 1) ys:=by
 obtain ⟨hl,g',off',cap',cur,hv,hb,hgg,h1,h2,h3,h4⟩:=h
 injection hv with e1 e2 e3
 injection e1 with e1
 injection e1 with e1 e4
 subst e1;subst e4;subst e3
 subst hx
 have hm : n * size = (n - 1) * size + size:=by
  rw [← Nat.succ_mul];congr 1;omega
 have hm2 : cap * size = (cap - 1) * size + size:=by
  rw [← Nat.succ_mul];congr 1;omega
 have hyl : ys.length = (n - 1) * size:=by rw [List.length_append] at hl;omega
 by_cases hcap : cap = 1
 · rw [if_pos hcap]
   refine ⟨hyl,g,off,cap - 1,cur,rfl,hb,hgg,by omega,by omega,by omega,fun j u hu => ?_⟩
   have h0:=(List.getElem?_eq_some_iff.1 hu).1
   have : n - 1 = 0:=by omega
   rw [hyl,this,Nat.zero_mul] at h0
   omega
 · rw [if_neg hcap]
   refine ⟨hyl,g,off + size,cap - 1,cur,rfl,hb,hgg,by omega,by omega,by omega,fun j u hu => ?_⟩
   have:=h4 (size + j) u (by rw [← hc,List.getElem?_append_right (by omega)];simpa using hu)
   rw [Nat.add_assoc];exact this
end
section
variable {P : Program} (w : World)
theorem run_append (base : Nat) (t ty e : TypeId) (i : TypeInfo) (z : Value) (size bytes : Nat) (ht : P.underlying t = some (.slice e)) (hi : P.info? e = some i) (hz : i.zero = some z)
 (hsize : i.size = size) (hby : i.bytes = bytes) (hzs : z.cells.size = size) (hsz : 0 < size)
 (v : Value) (n : Nat) (xs : List Value) (hown : Own w base e size v n xs)
 (a : Addr) (m c : Nat) (news : List Value) (hl : news.length = m * size) (hnews : ∀ j u,news[j]? = some u → w.cell? (a.add j) = some u) (h1 : ∀ u ∈ news,u.oneCell' = true)
 (h63 : n + m ≤ maxLen) (hbytes : (n + m) * bytes ≤ 140737488355328) (hbase : base ≤ w.heap.size) :
 ∃ v' w',(Builtin.append_ #[t,t] ty #[v,.slice (some a) m c]).run P w = .ok v' w' ∧ Own w' base e size v' (n + m) (xs ++ news) ∧ w.grownBy w' v.ownBlock ∧
   (v'.ownBlock = v.ownBlock ∨ v'.ownBlock = some w.heap.size):=by
 subst hsize
 subst hby
 have hsmall : n + m ≤ 9223372036854775807:=by simp only [maxLen] at h63;omega
 have hlen : (xs ++ news).length = (n + m) * i.size:=by rw [List.length_append,hown.1,hl,Nat.add_mul]
 obtain ⟨hxl,g,off,cap,cur,rfl,hbg,hg,hnc,hcm,hcs,hcur⟩:=hown
 by_cases hroom : n + m ≤ cap
 · have hmul : (n + m) * i.size ≤ cap * i.size:=Nat.mul_le_mul_right _ hroom
   have hadd : (n + m) * i.size = n * i.size + m * i.size:=Nat.add_mul _ _ _
   have hfit : off + n * i.size + 0 + news.length ≤ cur.size:=by omega
   have hf:=run_firstCells_some (P:=P) w i.size m a m c news hl hnews
   have hst:=run_storeCells_at P g (off + n * i.size) e news 0 cur w hg hfit h1
   simp only [Nat.add_zero] at hst
   refine ⟨.slice (some ⟨g,off,none⟩) (n + m) cap,w.setRow g (cur.toList.take (off + n * i.size) ++ news ++ cur.toList.drop (off + n * i.size + news.length)).toArray,?_,⟨hlen,g,off,cap,_,rfl,hbg,setRow_heap w g cur _ e _ hg,hroom,hcm,?_,?_⟩,⟨rfl,rfl,rfl,by simp,fun k _ hk => setRow_other w g k _ (fun e => hk (by simp [Value.ownBlock,e]))⟩,.inl rfl⟩
   · simp [Builtin.append_,run_underlying ht,sizeOf,typeInfo,hi,Builtin.lenOf,hroom,hf,add_off,hst]
   · simp only [List.size_toArray,List.length_append,List.length_take,List.length_drop,Array.length_toList]
     omega
   · intro j u hu
     have hj:=(List.getElem?_eq_some_iff.1 hu).1
     rw [hlen,hadd] at hj
     have hlt : (cur.toList.take (off + n * i.size)).length = off + n * i.size:=by
      rw [List.length_take,Nat.min_eq_left]
      rw [Array.length_toList];omega
     rw [List.getElem?_toArray,List.append_assoc]
     by_cases hjn : j < n * i.size
     · rw [List.getElem?_append_left (by omega)] at hu
       rw [List.getElem?_append_left (by rw [hlt];omega),List.getElem?_take_of_lt (by omega),Array.getElem?_toList]
       exact hcur j u hu
     · rw [List.getElem?_append_right (by omega)] at hu
       rw [List.getElem?_append_right (by rw [hlt];omega),hlt,List.getElem?_append_left (by omega),show off + j - (off + n * i.size) = j - xs.length by omega]
       exact hu
 · have holds : ∀ j u,xs[j]? = some u → w.cell? ((⟨g,off,none⟩ : Addr).add j) = some u:=fun j u hu => by
    rw [add_off,cell_of_row w g (off + j) cur e (0,0) hg]
    exact hcur j u hu
   have hr:=run_append_grow (P:=P) w t ty e i z ht hi hz ⟨g,off,none⟩ n cap xs hxl holds a m c news hl hnews (by omega) (by omega) (growslice_fits (by omega) hbytes)
   have hge:=grownCap_ge w (n + m) cap e
   have hcm2 : grownCap w (n + m) cap e ≤ maxLen:=grownCap_le_maxLen w (n + m) cap e h63
   refine ⟨_,_,hr,⟨hlen,_,0,_,_,rfl,hbase,heap_alloc_new w.drew _,hge,hcm2,?_,?_⟩,⟨rfl,rfl,rfl,by simp,fun k hk _ => Below.heap_alloc w.drew _ k hk⟩,.inr rfl⟩
   · simp only [Array.size_append,List.size_toArray,size_zeroCells,hzs,hxl,hl,← Nat.add_mul,Nat.zero_add]
     have : n + m + (grownCap w (n + m) cap e - (n + m)) = grownCap w (n + m) cap e:=by omega
     rw [this];exact Nat.le_refl _
   · intro j u hu
     rw [Nat.zero_add,← Array.getElem?_toList]
     simp only [Array.toList_append]
     rw [List.getElem?_append_left (by simpa using (List.getElem?_eq_some_iff.1 hu).1)]
     exact hu
theorem append_own {α : Type} (κ : Kind α) {w : World} {ops : Array Oper} {rest : List Oper} {o : Oper} {a : Act} {Q : Exit → Act → World → Prop} (T TS : TypeId) {z : Value} {bytes : Nat}
 (hu : P.underlying TS = some (.slice T)) (hinfo : (P.info? T).map (fun i => (i.zero,i.size,i.bytes)) = some (some z,κ.K,bytes)) (hz : z.cells.size = κ.K) (hgd : o.guard = none) (s x : Operand)
 (ho : o.op = .call { callee:=.builtin .append,args:=#[s,x],argTypes:=#[TS,TS] })
 (base : Nat) (v : Value) (n : Nat) (ts : List α) (hs : a.eval s = v) (hown : Own w base T κ.K v n (Rw.row κ ts))
 (ad : Addr) (c : Nat) (ys : List α) (hx : a.eval x = .slice (some ad) ys.length c) (hb : Rw.Ts κ w (some ad) ys) (hy : 0 < ys.length)
 (hle : n + ys.length ≤ maxLen) (hby : (n + ys.length) * bytes ≤ 140737488355328) (hbase : base ≤ w.heap.size)
 (h : ∀ v' w',Own w' base T κ.K v' (n + ys.length) (Rw.row κ (ts ++ ys)) → w.grownBy w' v.ownBlock → (v'.ownBlock = v.ownBlock ∨ v'.ownBlock = some w.heap.size) → wpList P ops Q rest (a.put o.dst v') w') : wpList P ops Q (o :: rest) a w:=by
 obtain ⟨i,hi,hz0,hz1,hz2⟩:=info_parts hinfo
 obtain ⟨b,o',e,_,hc⟩:=hb hy
 cases e
 refine wpList_plain hgd fun K hK => ?_
 obtain ⟨v',w',hr,h2,h3,h4⟩:=run_append (P:=P) w base TS o.type T i z κ.K bytes hu hi hz0 hz1 hz2 hz κ.pos v n (Rw.row κ ts) hown ⟨b,o',none⟩ ys.length c (Rw.row κ ys) (Rw.row_len ys) (fun j u hj => by rw [add_off];exact hc j u hj) (Rw.row_one ys) hle hby hbase
 unfold Oper.wp execOp
 simp only [ho,resolve,invoke,builtin,Sem.run_bind,Sem.run_pure,Result.andThen_ok,List.map_toArray,List.map_cons,List.map_nil,hs,hx,hr]
 exact hK _ _ (h v' w' (by rw [Rw.row_append];exact h2) h3 h4)
end
end Rc
end

section
structure Nd where
 k : Nat
 a : Nat
 b : Int
 d : Int
 ins : List Int
def Nd.May (n : Nd) : Prop:=(0 ≤ n.d ∧ n.d ≤ 3) ∧ n.ins.length ≤ 2 ∧ ∀ x ∈ n.ins,0 ≤ x ∧ x ≤ 31
def GMay (g : List Nd) : Prop:=(1 ≤ g.length ∧ g.length ≤ 32) ∧ ∀ n ∈ g,n.May
def be8 (x : Nat) : List Nat:=[x / 72057594037927936 % 256,x / 281474976710656 % 256,x / 1099511627776 % 256,x / 4294967296 % 256,x / 16777216 % 256,x / 65536 % 256,x / 256 % 256,x % 256]
def uns (b : Int) : Nat:=(b % 18446744073709551616).toNat
def Nd.put (n : Nd) : List Nat:=n.k :: n.a :: (be8 (uns n.b) ++ (n.d.toNat :: n.ins.length :: n.ins.map Int.toNat))
def putNs (g : List Nd) : List Nat:=(g.map Nd.put).flatten
def putG (g : List Nd) : List Nat:=g.length :: putNs g
section
variable {n m : Nd} {g h : List Nd} {b r s : List Nat} {x : Nat} {v : Int}
end
end

section
structure Gn where
 nd : Nd
 A : Option Addr
 c : Nat
def kindI : Kind Int:=⟨fun x => [.int .i64 x],1,fun _ => rfl,fun t u hu => by simp only [List.mem_singleton] at hu;subst hu;rfl,by decide⟩
def kindG : Kind Gn:=⟨fun x => [.int .u8 (x.nd.k : Nat),.int .u8 (x.nd.a : Nat),.int .i64 x.nd.b,.int .i64 x.nd.d,.slice x.A x.nd.ins.length x.c],5,fun _ => rfl,fun t u hu => by
 simp only [List.mem_cons,List.not_mem_nil,or_false] at hu
 rcases hu with rfl | rfl | rfl | rfl | rfl <;> rfl,by decide⟩
structure Gn.Ok (x : Gn) : Prop where
 k : x.nd.k < 256
 a : x.nd.a < 256
 b : -9223372036854775808 ≤ x.nd.b ∧ x.nd.b ≤ 9223372036854775807
 d : -9223372036854775808 ≤ x.nd.d ∧ x.nd.d ≤ 9223372036854775807
 ins : ∀ z ∈ x.nd.ins,-9223372036854775808 ≤ z ∧ z ≤ 9223372036854775807
 c : x.nd.ins.length ≤ x.c ∧ x.c ≤ maxLen
 none : x.A = Option.none → x.c = 0
def nds (g : List Gn) : List Nd:=g.map Gn.nd
def Gr (w : World) (A : Option Addr) (g : List Gn) : Prop:=Rw.Ts kindG w A g ∧ ∀ x ∈ g,x.Ok ∧ Rw.Ts kindI w x.A x.nd.ins
section
variable {w w' : World} {A : Option Addr} {g : List Gn}
theorem Gr.below (h : Gr w A g) (hb : Below w.heap.size w w') : Gr w' A g:=⟨h.1.below hb,fun x hx => ⟨(h.2 x hx).1,(h.2 x hx).2.below hb⟩⟩
theorem Gr.nil : Gr w A []:=⟨Rw.Ts.nil,fun x hx => by cases hx⟩
theorem Gr.ok (h : Gr w A g) {i : Nat} {x : Gn} (hi : g[i]? = some x) : x.Ok:=(h.2 x (List.mem_of_getElem? hi)).1
theorem Gr.take (h : Gr w A g) (k : Nat) : Gr w A (g.take k):=⟨h.1.take k,fun x hx => h.2 x (List.mem_of_mem_take hx)⟩
theorem Gr.at_ (h : Gr w A g) {i : Nat} {x : Gn} (hi : g[i]? = some x) : ∃ b o,A = some ⟨b,o,none⟩ ∧ b < w.heap.size ∧ ∀ w',Below w.heap.size w w' →
 w'.cell? ⟨b,o + i * 5,none⟩ = some (.int .u8 (x.nd.k : Nat)) ∧ w'.cell? ⟨b,o + i * 5 + 1,none⟩ = some (.int .u8 (x.nd.a : Nat)) ∧ w'.cell? ⟨b,o + i * 5 + 2,none⟩ = some (.int .i64 x.nd.b) ∧ w'.cell? ⟨b,o + i * 5 + 3,none⟩ = some (.int .i64 x.nd.d) ∧ w'.cell? ⟨b,o + i * 5 + 4,none⟩ = some (.slice x.A x.nd.ins.length x.c):=by
 obtain ⟨b,o,e,hlt,hc⟩:=h.1.at_ hi
 exact ⟨b,o,e,hlt,fun w' hb => ⟨hc w' hb 0 _ rfl,hc w' hb 1 _ rfl,hc w' hb 2 _ rfl,hc w' hb 3 _ rfl,hc w' hb 4 _ rfl⟩⟩
theorem Gr.ins (h : Gr w A g) {i : Nat} {x : Gn} (hi : g[i]? = some x) : Rw.Ts kindI w x.A x.nd.ins:=(h.2 x (List.mem_of_getElem? hi)).2
end
theorem ints_at {w : World} {A : Option Addr} {l : List Int} (h : Rw.Ts kindI w A l) {i : Nat} {z : Int} (hi : l[i]? = some z) : ∃ b o,A = some ⟨b,o,none⟩ ∧ b < w.heap.size ∧ ∀ w',Below w.heap.size w w' → w'.cell? ⟨b,o + i,none⟩ = some (.int .i64 z):=by
 obtain ⟨b,o,e,hlt,hc⟩:=h.at_ hi
 refine ⟨b,o,e,hlt,fun w' hb => ?_⟩
 have:=hc w' hb 0 _ rfl
 simp only [kindI,Nat.mul_one,Nat.add_zero] at this
 exact this
theorem run_load_gn (w : World) (b o : Nat) (x : Gn) (h : ∀ (j : Nat) (v : Value),(kindG.cells x)[j]? = some v → w.cell? ⟨b,o + j,none⟩ = some v) :
 (Instr.loadAt 58 (.pointer (some ⟨b,o,none⟩))).run Tryz.prog w = .ok (.agg #[.int .u8 (x.nd.k : Nat),.int .u8 (x.nd.a : Nat),.int .i64 x.nd.b,.int .i64 x.nd.d,.slice x.A x.nd.ins.length x.c]) w :=
 run_loadAt_part b o 58 _ (kindG.cells x) (fun j v hj => by rw [add_at];exact h j v hj) Tryz.underlying58 rfl (by kernel_rfl)
theorem Gr.load {w : World} {A : Option Addr} {g : List Gn} (h : Gr w A g) {i : Nat} {x : Gn} (hi : g[i]? = some x) : ∃ b o,A = some ⟨b,o,none⟩ ∧ b < w.heap.size ∧
 ∀ w',Below w.heap.size w w' → (Instr.loadAt 58 (.pointer (some ⟨b,o + i * 5,none⟩))).run Tryz.prog w' = .ok (.agg #[.int .u8 (x.nd.k : Nat),.int .u8 (x.nd.a : Nat),.int .i64 x.nd.b,.int .i64 x.nd.d,.slice x.A x.nd.ins.length x.c]) w':=by
 obtain ⟨b,o,e,hlt,hc⟩:=h.1.at_ hi
 exact ⟨b,o,e,hlt,fun w' hb => run_load_gn _ _ _ _ fun j v hj => hc w' hb j v hj⟩
theorem infoNode : (Tryz.prog.info? 58).map (fun i => (i.zero,i.size,i.bytes)) = some (some (.agg #[.int .u8 0,.int .u8 0,.int .i64 0,.int .i64 0,.slice none 0 0]),5,48):=by kernel_rfl
theorem infoInt : (Tryz.prog.info? 3).map (fun i => (i.zero,i.size,i.bytes)) = some (some (.int .i64 0),1,8):=by kernel_rfl
end
end Go.Proofs.YtonelpnhoiajgaaGreatDoor
