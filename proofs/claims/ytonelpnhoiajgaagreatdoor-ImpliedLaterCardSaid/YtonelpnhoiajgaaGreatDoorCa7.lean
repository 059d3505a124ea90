import Derived.Test.YtonelpnhoiajgaaGreatDoorHd
import Derived.Test.YtonelpnhoiajgaaGreatDoorCa5
import Derived.Test.YtonelpnhoiajgaaGreatDoorCa0
namespace Go.Proofs.YtonelpnhoiajgaaGreatDoor
set_option linter.unusedSimpArgs false
set_option linter.unusedVariables false
section
open Go.ChangeShapes Go.WideShapes Go.ChangeAt Go.RowKit Go.BigFrame
set_option maxRecDepth 100000
def ThV (a b : Sm) (p0 p1 p2 m0 m1 m2 : Int) (i : Nat) (v : Value) : Prop:=match i with
 | 0 => v = .agg #[.int .i64 b.fr,.int .i64 b.to,.int .i64 b.kp,.int .i64 b.ad,.int .i64 b.t0,.int .i64 b.t1,.int .i64 b.t2]
 | 1 => v = .agg #[.int .i64 a.fr,.int .i64 a.to,.int .i64 a.kp,.int .i64 a.ad,.int .i64 a.t0,.int .i64 a.t1,.int .i64 a.t2]
 | 2 => v = .agg #[.int .i64 0,.int .i64 0,.int .i64 0]
 | 3 => v = .agg #[.int .i64 p0,.int .i64 p1,.int .i64 p2]
 | 4 => v = .agg #[.int .i64 m0,.int .i64 m1,.int .i64 m2]
 | 5 => True
 | _ => v = undef
theorem row_c3 {w : World} {b : Nat} {t : TypeId} {p q r : Value} (h : Row w b t [p,q,r]) : w.cell? ⟨b,0,none⟩ = some p ∧ w.cell? ⟨b,1,none⟩ = some q ∧ w.cell? ⟨b,2,none⟩ = some r:=⟨h.cell 0,h.cell 1,h.cell 2⟩
theorem row_f3 {w : World} {b : Nat} {t : TypeId} {p q r : Value} (h : Row w b t [p,q,r]) : w.frozen? ⟨b,0,none⟩ = false ∧ w.frozen? ⟨b,1,none⟩ = false ∧ w.frozen? ⟨b,2,none⟩ = false:=⟨h.free 0,h.free 1,h.free 2⟩
set_option maxHeartbeats 4000000 in
theorem then_00 (a b : Sm) (w : World) (p0 p1 p2 m0 m1 m2 : Int) (B : Bool) (h : a.R) (h2 : b.R) (hd : a.to = b.fr) (hk : b.kp < a.kp) (hK : b.kp = 0)
 (ca : ∀ w,Calls Tryz.prog 87 #[a.v,.agg #[.int .i64 0,.int .i64 0,.int .i64 0]] w fun e w' => e = .returned (.agg #[.int .i64 p0,.int .i64 p1,.int .i64 p2]) ∧ Below w.heap.size w w')
 (cb : ∀ w,Calls Tryz.prog 87 #[b.v,.agg #[.int .i64 p0,.int .i64 p1,.int .i64 p2]] w fun e w' => e = .returned (.agg #[.int .i64 m0,.int .i64 m1,.int .i64 m2]) ∧ Below w.heap.size w w')
 (r3 : ∀ w,Calls Tryz.prog 86 #[(⟨a.fr,b.to,0,0,m0,m1,m2⟩ : Sm).v] w fun e w' => e = .returned (.bool B) ∧ Below w.heap.size w w') :
 Calls Tryz.prog 46 #[a.v,b.v] w fun e w' => e = .returned (.tuple #[if B then (⟨a.fr,b.to,0,0,m0,m1,m2⟩ : Sm).v else Sm.zero.v,.bool B]) ∧ Below w.heap.size w w':=by
 have h3:=Tri2.made w 82 a b
 have hbw:=ba3 w a b 82
 have H3:=Hd h3;have HB:=Hd hbw;clear h3 hbw
 have r1:=fun w => rightM_true h w
 have r2:=fun w => rightM_true h2 w
 have hn : (a.to != b.fr) = false:=by simpa using hd
 have R1:=Hd r1;have R2:=Hd r2;have CA:=Hd ca;have CB:=Hd cb;clear r1 r2 ca cb
 clear h h2 hd
 have R3:=Hd r3;clear r3
 have HK:=Hd hK;have HKK:=Hd hk;clear hK hk
 unfold Sm.v at *
 go_enter Tryz.func46,Tryz.ntmps46
 go_wp2_with fail
 refine (R1.out _).mono ?_;rintro e w2 ⟨rfl,hb2⟩
 have k3:=H3.out.below hb2
 have kb:=HB.out.trans (hb2.mono HB.out.size);clear H3 HB
 have H3:=Hd k3;have HB:=Hd kb;clear k3 kb hb2
 obtain ⟨a0,a1,a2,a3,a4,a5,a6⟩:=H3.out.1.cells7
 obtain ⟨b0,b1,b2,b3,b4,b5,b6⟩:=H3.out.2.1.cells7
 go_wp2_with fail
 clear a0 a1 a2 a3 a4 a5 a6 b0 b1 b2 b3 b4 b5 b6
 refine (R2.out _).mono ?_;rintro e w3 ⟨rfl,hb3⟩
 have k3:=H3.out.below hb3
 have kb:=HB.out.trans (hb3.mono HB.out.size);clear H3 HB
 have H3:=Hd k3;have HB:=Hd kb;clear k3 kb hb3
 obtain ⟨a0,a1,a2,a3,a4,a5,a6⟩:=H3.out.1.cells7
 obtain ⟨b0,b1,b2,b3,b4,b5,b6⟩:=H3.out.2.1.cells7
 go_wp2_with fail
 clear a0 a1 a2 a3 a4 a5 a6 b0 b1 b2 b3 b4 b5 b6
 clear hn R1 R2
 refine Free.wp_key (by kernel_rfl) (by kernel_rfl) (PutF w3 5 6 126 [.int .i64 0,.int .i64 0,.int .i64 0] [.int .i64 m0,.int .i64 m1,.int .i64 m2]) (ThV a b p0 p1 p2 m0 m1 m2) (fun vs => PutF.start 7 (by decide) (by decide) _ _ _ _ vs) ?_ ?_
 · intro i o hi bz vs az wa hold hpre hbi hF
   match i with
   | 0 =>
     cases hi
     exact Free.c_all rfl (Free.g_load _ _ rfl ((hold 3 (by decide)).trans rfl) (load_m H3.out.2.1 wa hF.1) ⟨rfl,hF.keep (Below.refl _ _) (by decide) (by decide)⟩)
   | 1 =>
     cases hi
     exact Free.c_all rfl (Free.g_load _ _ rfl ((hold 2 (by decide)).trans rfl) (load_m H3.out.1 wa hF.1) ⟨rfl,hF.keep (Below.refl _ _) (by decide) (by decide)⟩)
   | 2 =>
     cases hi
     exact Free.c_all rfl (Free.g_build _ _ rfl #[.int .i64 0,.int .i64 0,.int .i64 0] [] rfl (by kernel_rfl) ⟨rfl,hF.keep (Below.refl _ _) (by decide) (by decide)⟩)
   | 3 =>
     cases hi
     have h0 : az.eval (.tmp 25) = .agg #[.int .i64 a.fr,.int .i64 a.to,.int .i64 a.kp,.int .i64 a.ad,.int .i64 a.t0,.int .i64 a.t1,.int .i64 a.t2]:=(hpre 1 _ _ (by kernel_rfl) rfl rfl).2.2
     have h1 : az.eval (.tmp 26) = .agg #[.int .i64 0,.int .i64 0,.int .i64 0]:=(hpre 2 _ _ (by kernel_rfl) rfl rfl).2.2
     refine Free.c_all rfl (Free.g_call _ _ rfl Tryz.func87 (by kernel_rfl) rfl [.agg #[.int .i64 a.fr,.int .i64 a.to,.int .i64 a.kp,.int .i64 a.ad,.int .i64 a.t0,.int .i64 a.t1,.int .i64 a.t2],.agg #[.int .i64 0,.int .i64 0,.int .i64 0]] (by show [az.eval (.tmp 25),az.eval (.tmp 26)] = _;rw [h0,h1]) ?_)
     exact ((fun wa _ => CA.out wa) wa hF.1).mono fun e w2 ⟨he,hb2⟩ => ⟨_,he,rfl,hF.keep hb2 (by decide) (by decide)⟩
   | 4 =>
     cases hi
     have h0 : az.eval (.tmp 24) = .agg #[.int .i64 b.fr,.int .i64 b.to,.int .i64 b.kp,.int .i64 b.ad,.int .i64 b.t0,.int .i64 b.t1,.int .i64 b.t2]:=(hpre 0 _ _ (by kernel_rfl) rfl rfl).2.2
     have h1 : az.eval (.tmp 27) = .agg #[.int .i64 p0,.int .i64 p1,.int .i64 p2]:=(hpre 3 _ _ (by kernel_rfl) rfl rfl).2.2
     refine Free.c_all rfl (Free.g_call _ _ rfl Tryz.func87 (by kernel_rfl) rfl [.agg #[.int .i64 b.fr,.int .i64 b.to,.int .i64 b.kp,.int .i64 b.ad,.int .i64 b.t0,.int .i64 b.t1,.int .i64 b.t2],.agg #[.int .i64 p0,.int .i64 p1,.int .i64 p2]] (by show [az.eval (.tmp 24),az.eval (.tmp 27)] = _;rw [h0,h1]) ?_)
     exact ((fun wa _ => CB.out wa) wa hF.1).mono fun e w2 ⟨he,hb2⟩ => ⟨_,he,rfl,hF.keep hb2 (by decide) (by decide)⟩
   | 5 =>
     cases hi
     refine Free.c_all rfl ?_
     unfold execOp
     go_simp
     exact ⟨trivial,hF.alloc (by decide) hbi⟩
   | 6 =>
     cases hi
     have hq:=id (hpre (5) _ _ (by kernel_rfl) rfl rfl)
     have hx : az.eval (.tmp 28) = .agg #[.int .i64 m0,.int .i64 m1,.int .i64 m2]:=(hpre 4 _ _ (by kernel_rfl) rfl rfl).2.2
     obtain ⟨blk,hblk,hle,hrow⟩:=hF.row hq.1 hbi
     have hp : az.eval (.tmp 6) = .pointer (some ⟨blk,0,none⟩):=hq.2.1.trans hblk
     have hc0:=hrow.cell 0;have hf0:=hrow.free 0
     have hc1:=hrow.cell 1;have hf1:=hrow.free 1
     have hc2:=hrow.cell 2;have hf2:=hrow.free 2
     simp only [List.getElem?_cons_succ,List.getElem?_cons_zero] at hc0 hc1 hc2
     refine Free.c_all rfl ?_
     unfold execOp
     simp only [hp,hx]
     go_simp
     exact ⟨rfl,hF.store (by decide) hq.1 hblk hle (row_set3 hrow) (((hF.1.setCell hle _).setCell hle _).setCell hle _)⟩
   | _ + 7 => cases hi
 · intro vs we hv hF
   obtain ⟨hbE,blk,hblk,hle,hrowE⟩:=hF.done
   clear hF
   clear hv
   simp only [Free.puts,Nat.reduceAdd,hblk]
   clear hblk
   generalize vs 0 = y0
   generalize vs 1 = y1
   generalize vs 2 = y2
   generalize vs 3 = y3
   generalize vs 4 = y4
   generalize vs 6 = y6
   clear vs
   go_simp
   have h3:=H3.out.below hbE;have hbw:=HB.out.trans (hbE.mono HB.out.size)
   have hlt3 : w.heap.size + 1 + 1 < w3.heap.size:=H3.out.2.2.lt
   clear H3 HB hbE CA CB
   obtain ⟨c0,c1,c2⟩:=row_c3 hrowE
   obtain ⟨f0,f1,f2⟩:=row_f3 hrowE
   have hbl:=Row.lt hrowE
   obtain ⟨a0,a1,a2,a3,a4,a5,a6⟩:=h3.1.cells7
   obtain ⟨b0,b1,b2,b3,b4,b5,b6⟩:=h3.2.1.cells7
   rw [HK.out] at b2
   have hk:=HKK.out
   rw [HK.out] at hk
   have hmin : min a.kp 0 = 0:=by omega
   have H3:=Hd h3;have HB:=Hd hbw;have HE:=Hd hrowE;have HL:=Hd (And.intro hle hlt3);clear h3 hbw hrowE hle hlt3 HKK
   go_wp2_with fail
   refine wp_tail 5 (by kernel_rfl) (by kernel_rfl) ?_
   simp only [List.take_succ_cons,List.take_zero,List.drop_succ_cons,List.drop_zero]
   clear a0 a1 a2 a3 a4 a5 a6 b0 b1 b2 b3 b4 b5 b6 c0 c1 c2 f0 f1 f2
   have hT : Row ((we.alloc (.cells #[.int .i64 a.fr,.int .i64 b.to,.int .i64 0,.int .i64 0,.int .i64 0,.int .i64 0,.int .i64 0] 82)).drewN 1) we.heap.size 82 [.int .i64 a.fr,.int .i64 b.to,.int .i64 0,.int .i64 0,.int .i64 0,.int .i64 0,.int .i64 0]:=(Row.made we 82 [.int .i64 a.fr,.int .i64 b.to,.int .i64 0,.int .i64 0,.int .i64 0,.int .i64 0,.int .i64 0]).drewN 1
   have hE2 : Row ((we.alloc (.cells #[.int .i64 a.fr,.int .i64 b.to,.int .i64 0,.int .i64 0,.int .i64 0,.int .i64 0,.int .i64 0] 82)).drewN 1) blk 126 [.int .i64 m0,.int .i64 m1,.int .i64 m2]:=(HE.out.alloc _).drewN 1
   have hz : HoldsM ((we.alloc (.cells #[.int .i64 a.fr,.int .i64 b.to,.int .i64 0,.int .i64 0,.int .i64 0,.int .i64 0,.int .i64 0] 82)).drewN 1) (w.heap.size + 1 + 1) 82 Sm.zero:=(Row.alloc H3.out.2.2 _).drewN 1
   have hbw:=below_drewN (HB.out.alloc HB.out.size (.cells #[.int .i64 a.fr,.int .i64 b.to,.int .i64 0,.int .i64 0,.int .i64 0,.int .i64 0,.int .i64 0] 82)) 1
   have hzl : w.heap.size + 1 + 1 < we.heap.size:=H3.out.2.2.lt
   have hsW : ((we.alloc (.cells #[.int .i64 a.fr,.int .i64 b.to,.int .i64 0,.int .i64 0,.int .i64 0,.int .i64 0,.int .i64 0] 82)).drewN 1).heap.size = we.heap.size + 1:=by simp
   have HZL:=Hd hzl;clear hzl HE H3 HB hbl
   generalize (we.alloc (.cells #[.int .i64 a.fr,.int .i64 b.to,.int .i64 0,.int .i64 0,.int .i64 0,.int .i64 0,.int .i64 0] 82)).drewN 1 = W at *
   generalize we.heap.size = g at *
   have t2:=hT.cell 2
   simp only [List.getElem?_cons_succ,List.getElem?_cons_zero] at t2
   have HT:=Hd hT;have HE2:=Hd hE2;have HZ:=Hd hz;have HB:=Hd hbw;have HS:=Hd hsW;clear hT hE2 hz hbw hsW hk
   repeat still_step
   refine wpStill_nil ?_
   have hT:=HT.out;have hE2:=HE2.out;clear t2 HT HE2
   refine wpList_copy_splice rfl _ _ _ _ rfl 3 Tryz.underlying56 (by kernel_rfl) _ _ _ _ _ _ rfl rfl g 4 [.int .i64 a.fr,.int .i64 b.to,.int .i64 0,.int .i64 0,.int .i64 0,.int .i64 0,.int .i64 0] 82 hT [.int .i64 m0,.int .i64 m1,.int .i64 m2] rfl (fun _ => ⟨rfl,⟨blk,0,none⟩,rfl,fun j v hj => by rw [add_at];exact (hE2.cell (0 + j)).trans ((List.getElem?_drop (xs:=([.int .i64 m0,.int .i64 m1,.int .i64 m2] : List Value)) (i:=0)).symm.trans hj)⟩) (by simp) (by intro v hv;simp only [List.mem_cons,List.not_mem_nil,or_false] at hv;rcases hv with rfl | rfl | rfl <;> rfl) g W (Below.refl _ _) (Nat.le_refl _) ?_
   intro w8 hg8 hb8
   have hT8 : HoldsM w8 g 82 ⟨a.fr,b.to,0,0,m0,m1,m2⟩:=hg8.out
   have hz8 : HoldsM w8 (w.heap.size + 1 + 1) 82 Sm.zero:=Row.below HZ.out hb8 HZL.out
   have hbw:=HB.out.trans (hb8.mono (by have:=HZL.out;omega))
   clear hT hE2 hg8 hb8 HZ HB
   obtain ⟨a0,a1,a2,a3,a4,a5,a6⟩:=hT8.cells7
   simp only at a0 a1 a2 a3 a4 a5 a6
   have HT:=Hd hT8;have HZ:=Hd hz8;have HB:=Hd hbw;clear hT8 hz8 hbw
   go_wp2_with fail
   refine (R3.out _).mono ?_;rintro e w9 ⟨rfl,hb9⟩
   dsimp only
   have hT9:=HT.out.below hb9;have hz9:=HZ.out.below hb9;have hbw:=HB.out.trans (hb9.mono HB.out.size)
   clear a0 a1 a2 a3 a4 a5 a6 HT HZ HB hb9
   obtain ⟨a0,a1,a2,a3,a4,a5,a6⟩:=hT9.cells7
   simp only at a0 a1 a2 a3 a4 a5 a6
   obtain ⟨z0,z1,z2,z3,z4,z5,z6⟩:=hz9.cells7
   obtain ⟨f0,f1,f2,f3,f4,f5,f6⟩:=hz9.free7
   have HZ:=Hd hz9;have HB:=Hd hbw;clear hT9 hz9 hbw
   cases B with
   | true =>
     go_wp2_with fail
     refine bodyPost_ret (v:=.tuple #[Sm.v ⟨a.fr,b.to,0,0,m0,m1,m2⟩,.bool true]) (two_results rfl _ _ _ 82 _ (0,0) _ rfl (row_set7 HZ.out) Tryz.underlying82 rfl (by kernel_rfl) rfl) rfl ?_
     exact ⟨rfl,below_set7 HB.out (by omega)⟩
   | false =>
     go_wp2_with fail
     refine bodyPost_ret (v:=.tuple #[Sm.v Sm.zero,.bool false]) (two_results rfl _ _ _ 82 _ (0,0) _ rfl (row_set7 HZ.out) Tryz.underlying82 rfl (by kernel_rfl) rfl) rfl ?_
     exact ⟨rfl,below_set7 HB.out (by omega)⟩
set_option maxHeartbeats 4000000 in
theorem then_01 (a b : Sm) (w : World) (p0 p1 p2 m0 m1 m2 : Int) (B : Bool) (h : a.R) (h2 : b.R) (hd : a.to = b.fr) (hk : b.kp < a.kp) (hK : b.kp = 1)
 (ca : ∀ w,Calls Tryz.prog 87 #[a.v,.agg #[.int .i64 0,.int .i64 0,.int .i64 0]] w fun e w' => e = .returned (.agg #[.int .i64 p0,.int .i64 p1,.int .i64 p2]) ∧ Below w.heap.size w w')
 (cb : ∀ w,Calls Tryz.prog 87 #[b.v,.agg #[.int .i64 p0,.int .i64 p1,.int .i64 p2]] w fun e w' => e = .returned (.agg #[.int .i64 m0,.int .i64 m1,.int .i64 m2]) ∧ Below w.heap.size w w')
 (r3 : ∀ w,Calls Tryz.prog 86 #[(⟨a.fr,b.to,1,m0,m1,m2,0⟩ : Sm).v] w fun e w' => e = .returned (.bool B) ∧ Below w.heap.size w w') :
 Calls Tryz.prog 46 #[a.v,b.v] w fun e w' => e = .returned (.tuple #[if B then (⟨a.fr,b.to,1,m0,m1,m2,0⟩ : Sm).v else Sm.zero.v,.bool B]) ∧ Below w.heap.size w w':=by
 have h3:=Tri2.made w 82 a b
 have hbw:=ba3 w a b 82
 have H3:=Hd h3;have HB:=Hd hbw;clear h3 hbw
 have r1:=fun w => rightM_true h w
 have r2:=fun w => rightM_true h2 w
 have hn : (a.to != b.fr) = false:=by simpa using hd
 have R1:=Hd r1;have R2:=Hd r2;have CA:=Hd ca;have CB:=Hd cb;clear r1 r2 ca cb
 clear h h2 hd
 have R3:=Hd r3;clear r3
 have HK:=Hd hK;have HKK:=Hd hk;clear hK hk
 unfold Sm.v at *
 go_enter Tryz.func46,Tryz.ntmps46
 go_wp2_with fail
 refine (R1.out _).mono ?_;rintro e w2 ⟨rfl,hb2⟩
 have k3:=H3.out.below hb2
 have kb:=HB.out.trans (hb2.mono HB.out.size);clear H3 HB
 have H3:=Hd k3;have HB:=Hd kb;clear k3 kb hb2
 obtain ⟨a0,a1,a2,a3,a4,a5,a6⟩:=H3.out.1.cells7
 obtain ⟨b0,b1,b2,b3,b4,b5,b6⟩:=H3.out.2.1.cells7
 go_wp2_with fail
 clear a0 a1 a2 a3 a4 a5 a6 b0 b1 b2 b3 b4 b5 b6
 refine (R2.out _).mono ?_;rintro e w3 ⟨rfl,hb3⟩
 have k3:=H3.out.below hb3
 have kb:=HB.out.trans (hb3.mono HB.out.size);clear H3 HB
 have H3:=Hd k3;have HB:=Hd kb;clear k3 kb hb3
 obtain ⟨a0,a1,a2,a3,a4,a5,a6⟩:=H3.out.1.cells7
 obtain ⟨b0,b1,b2,b3,b4,b5,b6⟩:=H3.out.2.1.cells7
 go_wp2_with fail
 clear a0 a1 a2 a3 a4 a5 a6 b0 b1 b2 b3 b4 b5 b6
 clear hn R1 R2
 refine Free.wp_key (by kernel_rfl) (by kernel_rfl) (PutF w3 5 6 126 [.int .i64 0,.int .i64 0,.int .i64 0] [.int .i64 m0,.int .i64 m1,.int .i64 m2]) (ThV a b p0 p1 p2 m0 m1 m2) (fun vs => PutF.start 7 (by decide) (by decide) _ _ _ _ vs) ?_ ?_
 · intro i o hi bz vs az wa hold hpre hbi hF
   match i with
   | 0 =>
     cases hi
     exact Free.c_all rfl (Free.g_load _ _ rfl ((hold 3 (by decide)).trans rfl) (load_m H3.out.2.1 wa hF.1) ⟨rfl,hF.keep (Below.refl _ _) (by decide) (by decide)⟩)
   | 1 =>
     cases hi
     exact Free.c_all rfl (Free.g_load _ _ rfl ((hold 2 (by decide)).trans rfl) (load_m H3.out.1 wa hF.1) ⟨rfl,hF.keep (Below.refl _ _) (by decide) (by decide)⟩)
   | 2 =>
     cases hi
     exact Free.c_all rfl (Free.g_build _ _ rfl #[.int .i64 0,.int .i64 0,.int .i64 0] [] rfl (by kernel_rfl) ⟨rfl,hF.keep (Below.refl _ _) (by decide) (by decide)⟩)
   | 3 =>
     cases hi
     have h0 : az.eval (.tmp 25) = .agg #[.int .i64 a.fr,.int .i64 a.to,.int .i64 a.kp,.int .i64 a.ad,.int .i64 a.t0,.int .i64 a.t1,.int .i64 a.t2]:=(hpre 1 _ _ (by kernel_rfl) rfl rfl).2.2
     have h1 : az.eval (.tmp 26) = .agg #[.int .i64 0,.int .i64 0,.int .i64 0]:=(hpre 2 _ _ (by kernel_rfl) rfl rfl).2.2
     refine Free.c_all rfl (Free.g_call _ _ rfl Tryz.func87 (by kernel_rfl) rfl [.agg #[.int .i64 a.fr,.int .i64 a.to,.int .i64 a.kp,.int .i64 a.ad,.int .i64 a.t0,.int .i64 a.t1,.int .i64 a.t2],.agg #[.int .i64 0,.int .i64 0,.int .i64 0]] (by show [az.eval (.tmp 25),az.eval (.tmp 26)] = _;rw [h0,h1]) ?_)
     exact ((fun wa _ => CA.out wa) wa hF.1).mono fun e w2 ⟨he,hb2⟩ => ⟨_,he,rfl,hF.keep hb2 (by decide) (by decide)⟩
   | 4 =>
     cases hi
     have h0 : az.eval (.tmp 24) = .agg #[.int .i64 b.fr,.int .i64 b.to,.int .i64 b.kp,.int .i64 b.ad,.int .i64 b.t0,.int .i64 b.t1,.int .i64 b.t2]:=(hpre 0 _ _ (by kernel_rfl) rfl rfl).2.2
     have h1 : az.eval (.tmp 27) = .agg #[.int .i64 p0,.int .i64 p1,.int .i64 p2]:=(hpre 3 _ _ (by kernel_rfl) rfl rfl).2.2
     refine Free.c_all rfl (Free.g_call _ _ rfl Tryz.func87 (by kernel_rfl) rfl [.agg #[.int .i64 b.fr,.int .i64 b.to,.int .i64 b.kp,.int .i64 b.ad,.int .i64 b.t0,.int .i64 b.t1,.int .i64 b.t2],.agg #[.int .i64 p0,.int .i64 p1,.int .i64 p2]] (by show [az.eval (.tmp 24),az.eval (.tmp 27)] = _;rw [h0,h1]) ?_)
     exact ((fun wa _ => CB.out wa) wa hF.1).mono fun e w2 ⟨he,hb2⟩ => ⟨_,he,rfl,hF.keep hb2 (by decide) (by decide)⟩
   | 5 =>
     cases hi
     refine Free.c_all rfl ?_
     unfold execOp
     go_simp
     exact ⟨trivial,hF.alloc (by decide) hbi⟩
   | 6 =>
     cases hi
     have hq:=id (hpre (5) _ _ (by kernel_rfl) rfl rfl)
     have hx : az.eval (.tmp 28) = .agg #[.int .i64 m0,.int .i64 m1,.int .i64 m2]:=(hpre 4 _ _ (by kernel_rfl) rfl rfl).2.2
     obtain ⟨blk,hblk,hle,hrow⟩:=hF.row hq.1 hbi
     have hp : az.eval (.tmp 6) = .pointer (some ⟨blk,0,none⟩):=hq.2.1.trans hblk
     have hc0:=hrow.cell 0;have hf0:=hrow.free 0
     have hc1:=hrow.cell 1;have hf1:=hrow.free 1
     have hc2:=hrow.cell 2;have hf2:=hrow.free 2
     simp only [List.getElem?_cons_succ,List.getElem?_cons_zero] at hc0 hc1 hc2
     refine Free.c_all rfl ?_
     unfold execOp
     simp only [hp,hx]
     go_simp
     exact ⟨rfl,hF.store (by decide) hq.1 hblk hle (row_set3 hrow) (((hF.1.setCell hle _).setCell hle _).setCell hle _)⟩
   | _ + 7 => cases hi
 · intro vs we hv hF
   obtain ⟨hbE,blk,hblk,hle,hrowE⟩:=hF.done
   clear hF
   clear hv
   simp only [Free.puts,Nat.reduceAdd,hblk]
   clear hblk
   generalize vs 0 = y0
   generalize vs 1 = y1
   generalize vs 2 = y2
   generalize vs 3 = y3
   generalize vs 4 = y4
   generalize vs 6 = y6
   clear vs
   go_simp
   have h3:=H3.out.below hbE;have hbw:=HB.out.trans (hbE.mono HB.out.size)
   have hlt3 : w.heap.size + 1 + 1 < w3.heap.size:=H3.out.2.2.lt
   clear H3 HB hbE CA CB
   obtain ⟨c0,c1,c2⟩:=row_c3 hrowE
   obtain ⟨f0,f1,f2⟩:=row_f3 hrowE
   have hbl:=Row.lt hrowE
   obtain ⟨a0,a1,a2,a3,a4,a5,a6⟩:=h3.1.cells7
   obtain ⟨b0,b1,b2,b3,b4,b5,b6⟩:=h3.2.1.cells7
   rw [HK.out] at b2
   have hk:=HKK.out
   rw [HK.out] at hk
   have hmin : min a.kp 1 = 1:=by omega
   have H3:=Hd h3;have HB:=Hd hbw;have HE:=Hd hrowE;have HL:=Hd (And.intro hle hlt3);clear h3 hbw hrowE hle hlt3 HKK
   go_wp2_with fail
   refine wp_tail 5 (by kernel_rfl) (by kernel_rfl) ?_
   simp only [List.take_succ_cons,List.take_zero,List.drop_succ_cons,List.drop_zero]
   clear a0 a1 a2 a3 a4 a5 a6 b0 b1 b2 b3 b4 b5 b6 c0 c1 c2 f0 f1 f2
   have hT : Row ((we.alloc (.cells #[.int .i64 a.fr,.int .i64 b.to,.int .i64 1,.int .i64 m0,.int .i64 0,.int .i64 0,.int .i64 0] 82)).drewN 1) we.heap.size 82 [.int .i64 a.fr,.int .i64 b.to,.int .i64 1,.int .i64 m0,.int .i64 0,.int .i64 0,.int .i64 0]:=(Row.made we 82 [.int .i64 a.fr,.int .i64 b.to,.int .i64 1,.int .i64 m0,.int .i64 0,.int .i64 0,.int .i64 0]).drewN 1
   have hE2 : Row ((we.alloc (.cells #[.int .i64 a.fr,.int .i64 b.to,.int .i64 1,.int .i64 m0,.int .i64 0,.int .i64 0,.int .i64 0] 82)).drewN 1) blk 126 [.int .i64 m0,.int .i64 m1,.int .i64 m2]:=(HE.out.alloc _).drewN 1
   have hz : HoldsM ((we.alloc (.cells #[.int .i64 a.fr,.int .i64 b.to,.int .i64 1,.int .i64 m0,.int .i64 0,.int .i64 0,.int .i64 0] 82)).drewN 1) (w.heap.size + 1 + 1) 82 Sm.zero:=(Row.alloc H3.out.2.2 _).drewN 1
   have hbw:=below_drewN (HB.out.alloc HB.out.size (.cells #[.int .i64 a.fr,.int .i64 b.to,.int .i64 1,.int .i64 m0,.int .i64 0,.int .i64 0,.int .i64 0] 82)) 1
   have hzl : w.heap.size + 1 + 1 < we.heap.size:=H3.out.2.2.lt
   have hsW : ((we.alloc (.cells #[.int .i64 a.fr,.int .i64 b.to,.int .i64 1,.int .i64 m0,.int .i64 0,.int .i64 0,.int .i64 0] 82)).drewN 1).heap.size = we.heap.size + 1:=by simp
   have HZL:=Hd hzl;clear hzl HE H3 HB hbl
   generalize (we.alloc (.cells #[.int .i64 a.fr,.int .i64 b.to,.int .i64 1,.int .i64 m0,.int .i64 0,.int .i64 0,.int .i64 0] 82)).drewN 1 = W at *
   generalize we.heap.size = g at *
   have t2:=hT.cell 2
   simp only [List.getElem?_cons_succ,List.getElem?_cons_zero] at t2
   have HT:=Hd hT;have HE2:=Hd hE2;have HZ:=Hd hz;have HB:=Hd hbw;have HS:=Hd hsW;clear hT hE2 hz hbw hsW hk
   repeat still_step
   refine wpStill_nil ?_
   have hT:=HT.out;have hE2:=HE2.out;clear t2 HT HE2
   refine wpList_copy_splice rfl _ _ _ _ rfl 3 Tryz.underlying56 (by kernel_rfl) _ _ _ _ _ _ rfl rfl g 4 [.int .i64 a.fr,.int .i64 b.to,.int .i64 1,.int .i64 m0,.int .i64 0,.int .i64 0,.int .i64 0] 82 hT [.int .i64 m1,.int .i64 m2] rfl (fun _ => ⟨rfl,⟨blk,1,none⟩,rfl,fun j v hj => by rw [add_at];exact (hE2.cell (1 + j)).trans ((List.getElem?_drop (xs:=([.int .i64 m0,.int .i64 m1,.int .i64 m2] : List Value)) (i:=1)).symm.trans hj)⟩) (by simp) (by intro v hv;simp only [List.mem_cons,List.not_mem_nil,or_false] at hv;rcases hv with rfl | rfl <;> rfl) g W (Below.refl _ _) (Nat.le_refl _) ?_
   intro w8 hg8 hb8
   have hT8 : HoldsM w8 g 82 ⟨a.fr,b.to,1,m0,m1,m2,0⟩:=hg8.out
   have hz8 : HoldsM w8 (w.heap.size + 1 + 1) 82 Sm.zero:=Row.below HZ.out hb8 HZL.out
   have hbw:=HB.out.trans (hb8.mono (by have:=HZL.out;omega))
   clear hT hE2 hg8 hb8 HZ HB
   obtain ⟨a0,a1,a2,a3,a4,a5,a6⟩:=hT8.cells7
   simp only at a0 a1 a2 a3 a4 a5 a6
   have HT:=Hd hT8;have HZ:=Hd hz8;have HB:=Hd hbw;clear hT8 hz8 hbw
   go_wp2_with fail
   refine (R3.out _).mono ?_;rintro e w9 ⟨rfl,hb9⟩
   dsimp only
   have hT9:=HT.out.below hb9;have hz9:=HZ.out.below hb9;have hbw:=HB.out.trans (hb9.mono HB.out.size)
   clear a0 a1 a2 a3 a4 a5 a6 HT HZ HB hb9
   obtain ⟨a0,a1,a2,a3,a4,a5,a6⟩:=hT9.cells7
   simp only at a0 a1 a2 a3 a4 a5 a6
   obtain ⟨z0,z1,z2,z3,z4,z5,z6⟩:=hz9.cells7
   obtain ⟨f0,f1,f2,f3,f4,f5,f6⟩:=hz9.free7
   have HZ:=Hd hz9;have HB:=Hd hbw;clear hT9 hz9 hbw
   cases B with
   | true =>
     go_wp2_with fail
     refine bodyPost_ret (v:=.tuple #[Sm.v ⟨a.fr,b.to,1,m0,m1,m2,0⟩,.bool true]) (two_results rfl _ _ _ 82 _ (0,0) _ rfl (row_set7 HZ.out) Tryz.underlying82 rfl (by kernel_rfl) rfl) rfl ?_
     exact ⟨rfl,below_set7 HB.out (by omega)⟩
   | false =>
     go_wp2_with fail
     refine bodyPost_ret (v:=.tuple #[Sm.v Sm.zero,.bool false]) (two_results rfl _ _ _ 82 _ (0,0) _ rfl (row_set7 HZ.out) Tryz.underlying82 rfl (by kernel_rfl) rfl) rfl ?_
     exact ⟨rfl,below_set7 HB.out (by omega)⟩
set_option maxHeartbeats 4000000 in
theorem then_02 (a b : Sm) (w : World) (p0 p1 p2 m0 m1 m2 : Int) (B : Bool) (h : a.R) (h2 : b.R) (hd : a.to = b.fr) (hk : b.kp < a.kp) (hK : b.kp = 2)
 (ca : ∀ w,Calls Tryz.prog 87 #[a.v,.agg #[.int .i64 0,.int .i64 0,.int .i64 0]] w fun e w' => e = .returned (.agg #[.int .i64 p0,.int .i64 p1,.int .i64 p2]) ∧ Below w.heap.size w w')
 (cb : ∀ w,Calls Tryz.prog 87 #[b.v,.agg #[.int .i64 p0,.int .i64 p1,.int .i64 p2]] w fun e w' => e = .returned (.agg #[.int .i64 m0,.int .i64 m1,.int .i64 m2]) ∧ Below w.heap.size w w')
 (r3 : ∀ w,Calls Tryz.prog 86 #[(⟨a.fr,b.to,2,m1,m2,0,0⟩ : Sm).v] w fun e w' => e = .returned (.bool B) ∧ Below w.heap.size w w') :
 Calls Tryz.prog 46 #[a.v,b.v] w fun e w' => e = .returned (.tuple #[if B then (⟨a.fr,b.to,2,m1,m2,0,0⟩ : Sm).v else Sm.zero.v,.bool B]) ∧ Below w.heap.size w w':=by
 have h3:=Tri2.made w 82 a b
 have hbw:=ba3 w a b 82
 have H3:=Hd h3;have HB:=Hd hbw;clear h3 hbw
 have r1:=fun w => rightM_true h w
 have r2:=fun w => rightM_true h2 w
 have hn : (a.to != b.fr) = false:=by simpa using hd
 have R1:=Hd r1;have R2:=Hd r2;have CA:=Hd ca;have CB:=Hd cb;clear r1 r2 ca cb
 clear h h2 hd
 have R3:=Hd r3;clear r3
 have HK:=Hd hK;have HKK:=Hd hk;clear hK hk
 unfold Sm.v at *
 go_enter Tryz.func46,Tryz.ntmps46
 go_wp2_with fail
 refine (R1.out _).mono ?_;rintro e w2 ⟨rfl,hb2⟩
 have k3:=H3.out.below hb2
 have kb:=HB.out.trans (hb2.mono HB.out.size);clear H3 HB
 have H3:=Hd k3;have HB:=Hd kb;clear k3 kb hb2
 obtain ⟨a0,a1,a2,a3,a4,a5,a6⟩:=H3.out.1.cells7
 obtain ⟨b0,b1,b2,b3,b4,b5,b6⟩:=H3.out.2.1.cells7
 go_wp2_with fail
 clear a0 a1 a2 a3 a4 a5 a6 b0 b1 b2 b3 b4 b5 b6
 refine (R2.out _).mono ?_;rintro e w3 ⟨rfl,hb3⟩
 have k3:=H3.out.below hb3
 have kb:=HB.out.trans (hb3.mono HB.out.size);clear H3 HB
 have H3:=Hd k3;have HB:=Hd kb;clear k3 kb hb3
 obtain ⟨a0,a1,a2,a3,a4,a5,a6⟩:=H3.out.1.cells7
 obtain ⟨b0,b1,b2,b3,b4,b5,b6⟩:=H3.out.2.1.cells7
 go_wp2_with fail
 clear a0 a1 a2 a3 a4 a5 a6 b0 b1 b2 b3 b4 b5 b6
 clear hn R1 R2
 refine Free.wp_key (by kernel_rfl) (by kernel_rfl) (PutF w3 5 6 126 [.int .i64 0,.int .i64 0,.int .i64 0] [.int .i64 m0,.int .i64 m1,.int .i64 m2]) (ThV a b p0 p1 p2 m0 m1 m2) (fun vs => PutF.start 7 (by decide) (by decide) _ _ _ _ vs) ?_ ?_
 · intro i o hi bz vs az wa hold hpre hbi hF
   match i with
   | 0 =>
     cases hi
     exact Free.c_all rfl (Free.g_load _ _ rfl ((hold 3 (by decide)).trans rfl) (load_m H3.out.2.1 wa hF.1) ⟨rfl,hF.keep (Below.refl _ _) (by decide) (by decide)⟩)
   | 1 =>
     cases hi
     exact Free.c_all rfl (Free.g_load _ _ rfl ((hold 2 (by decide)).trans rfl) (load_m H3.out.1 wa hF.1) ⟨rfl,hF.keep (Below.refl _ _) (by decide) (by decide)⟩)
   | 2 =>
     cases hi
     exact Free.c_all rfl (Free.g_build _ _ rfl #[.int .i64 0,.int .i64 0,.int .i64 0] [] rfl (by kernel_rfl) ⟨rfl,hF.keep (Below.refl _ _) (by decide) (by decide)⟩)
   | 3 =>
     cases hi
     have h0 : az.eval (.tmp 25) = .agg #[.int .i64 a.fr,.int .i64 a.to,.int .i64 a.kp,.int .i64 a.ad,.int .i64 a.t0,.int .i64 a.t1,.int .i64 a.t2]:=(hpre 1 _ _ (by kernel_rfl) rfl rfl).2.2
     have h1 : az.eval (.tmp 26) = .agg #[.int .i64 0,.int .i64 0,.int .i64 0]:=(hpre 2 _ _ (by kernel_rfl) rfl rfl).2.2
     refine Free.c_all rfl (Free.g_call _ _ rfl Tryz.func87 (by kernel_rfl) rfl [.agg #[.int .i64 a.fr,.int .i64 a.to,.int .i64 a.kp,.int .i64 a.ad,.int .i64 a.t0,.int .i64 a.t1,.int .i64 a.t2],.agg #[.int .i64 0,.int .i64 0,.int .i64 0]] (by show [az.eval (.tmp 25),az.eval (.tmp 26)] = _;rw [h0,h1]) ?_)
     exact ((fun wa _ => CA.out wa) wa hF.1).mono fun e w2 ⟨he,hb2⟩ => ⟨_,he,rfl,hF.keep hb2 (by decide) (by decide)⟩
   | 4 =>
     cases hi
     have h0 : az.eval (.tmp 24) = .agg #[.int .i64 b.fr,.int .i64 b.to,.int .i64 b.kp,.int .i64 b.ad,.int .i64 b.t0,.int .i64 b.t1,.int .i64 b.t2]:=(hpre 0 _ _ (by kernel_rfl) rfl rfl).2.2
     have h1 : az.eval (.tmp 27) = .agg #[.int .i64 p0,.int .i64 p1,.int .i64 p2]:=(hpre 3 _ _ (by kernel_rfl) rfl rfl).2.2
     refine Free.c_all rfl (Free.g_call _ _ rfl Tryz.func87 (by kernel_rfl) rfl [.agg #[.int .i64 b.fr,.int .i64 b.to,.int .i64 b.kp,.int .i64 b.ad,.int .i64 b.t0,.int .i64 b.t1,.int .i64 b.t2],.agg #[.int .i64 p0,.int .i64 p1,.int .i64 p2]] (by show [az.eval (.tmp 24),az.eval (.tmp 27)] = _;rw [h0,h1]) ?_)
     exact ((fun wa _ => CB.out wa) wa hF.1).mono fun e w2 ⟨he,hb2⟩ => ⟨_,he,rfl,hF.keep hb2 (by decide) (by decide)⟩
   | 5 =>
     cases hi
     refine Free.c_all rfl ?_
     unfold execOp
     go_simp
     exact ⟨trivial,hF.alloc (by decide) hbi⟩
   | 6 =>
     cases hi
     have hq:=id (hpre (5) _ _ (by kernel_rfl) rfl rfl)
     have hx : az.eval (.tmp 28) = .agg #[.int .i64 m0,.int .i64 m1,.int .i64 m2]:=(hpre 4 _ _ (by kernel_rfl) rfl rfl).2.2
     obtain ⟨blk,hblk,hle,hrow⟩:=hF.row hq.1 hbi
     have hp : az.eval (.tmp 6) = .pointer (some ⟨blk,0,none⟩):=hq.2.1.trans hblk
     have hc0:=hrow.cell 0;have hf0:=hrow.free 0
     have hc1:=hrow.cell 1;have hf1:=hrow.free 1
     have hc2:=hrow.cell 2;have hf2:=hrow.free 2
     simp only [List.getElem?_cons_succ,List.getElem?_cons_zero] at hc0 hc1 hc2
     refine Free.c_all rfl ?_
     unfold execOp
     simp only [hp,hx]
     go_simp
     exact ⟨rfl,hF.store (by decide) hq.1 hblk hle (row_set3 hrow) (((hF.1.setCell hle _).setCell hle _).setCell hle _)⟩
   | _ + 7 => cases hi
 · intro vs we hv hF
   obtain ⟨hbE,blk,hblk,hle,hrowE⟩:=hF.done
   clear hF
   clear hv
   simp only [Free.puts,Nat.reduceAdd,hblk]
   clear hblk
   generalize vs 0 = y0
   generalize vs 1 = y1
   generalize vs 2 = y2
   generalize vs 3 = y3
   generalize vs 4 = y4
   generalize vs 6 = y6
   clear vs
   go_simp
   have h3:=H3.out.below hbE;have hbw:=HB.out.trans (hbE.mono HB.out.size)
   have hlt3 : w.heap.size + 1 + 1 < w3.heap.size:=H3.out.2.2.lt
   clear H3 HB hbE CA CB
   obtain ⟨c0,c1,c2⟩:=row_c3 hrowE
   obtain ⟨f0,f1,f2⟩:=row_f3 hrowE
   have hbl:=Row.lt hrowE
   obtain ⟨a0,a1,a2,a3,a4,a5,a6⟩:=h3.1.cells7
   obtain ⟨b0,b1,b2,b3,b4,b5,b6⟩:=h3.2.1.cells7
   rw [HK.out] at b2
   have hk:=HKK.out
   rw [HK.out] at hk
   have hmin : min a.kp 2 = 2:=by omega
   have H3:=Hd h3;have HB:=Hd hbw;have HE:=Hd hrowE;have HL:=Hd (And.intro hle hlt3);clear h3 hbw hrowE hle hlt3 HKK
   go_wp2_with fail
   refine wp_tail 5 (by kernel_rfl) (by kernel_rfl) ?_
   simp only [List.take_succ_cons,List.take_zero,List.drop_succ_cons,List.drop_zero]
   clear a0 a1 a2 a3 a4 a5 a6 b0 b1 b2 b3 b4 b5 b6 c0 c1 c2 f0 f1 f2
   have hT : Row ((we.alloc (.cells #[.int .i64 a.fr,.int .i64 b.to,.int .i64 2,.int .i64 m1,.int .i64 0,.int .i64 0,.int .i64 0] 82)).drewN 1) we.heap.size 82 [.int .i64 a.fr,.int .i64 b.to,.int .i64 2,.int .i64 m1,.int .i64 0,.int .i64 0,.int .i64 0]:=(Row.made we 82 [.int .i64 a.fr,.int .i64 b.to,.int .i64 2,.int .i64 m1,.int .i64 0,.int .i64 0,.int .i64 0]).drewN 1
   have hE2 : Row ((we.alloc (.cells #[.int .i64 a.fr,.int .i64 b.to,.int .i64 2,.int .i64 m1,.int .i64 0,.int .i64 0,.int .i64 0] 82)).drewN 1) blk 126 [.int .i64 m0,.int .i64 m1,.int .i64 m2]:=(HE.out.alloc _).drewN 1
   have hz : HoldsM ((we.alloc (.cells #[.int .i64 a.fr,.int .i64 b.to,.int .i64 2,.int .i64 m1,.int .i64 0,.int .i64 0,.int .i64 0] 82)).drewN 1) (w.heap.size + 1 + 1) 82 Sm.zero:=(Row.alloc H3.out.2.2 _).drewN 1
   have hbw:=below_drewN (HB.out.alloc HB.out.size (.cells #[.int .i64 a.fr,.int .i64 b.to,.int .i64 2,.int .i64 m1,.int .i64 0,.int .i64 0,.int .i64 0] 82)) 1
   have hzl : w.heap.size + 1 + 1 < we.heap.size:=H3.out.2.2.lt
   have hsW : ((we.alloc (.cells #[.int .i64 a.fr,.int .i64 b.to,.int .i64 2,.int .i64 m1,.int .i64 0,.int .i64 0,.int .i64 0] 82)).drewN 1).heap.size = we.heap.size + 1:=by simp
   have HZL:=Hd hzl;clear hzl HE H3 HB hbl
   generalize (we.alloc (.cells #[.int .i64 a.fr,.int .i64 b.to,.int .i64 2,.int .i64 m1,.int .i64 0,.int .i64 0,.int .i64 0] 82)).drewN 1 = W at *
   generalize we.heap.size = g at *
   have t2:=hT.cell 2
   simp only [List.getElem?_cons_succ,List.getElem?_cons_zero] at t2
   have HT:=Hd hT;have HE2:=Hd hE2;have HZ:=Hd hz;have HB:=Hd hbw;have HS:=Hd hsW;clear hT hE2 hz hbw hsW hk
   repeat still_step
   refine wpStill_nil ?_
   have hT:=HT.out;have hE2:=HE2.out;clear t2 HT HE2
   refine wpList_copy_splice rfl _ _ _ _ rfl 3 Tryz.underlying56 (by kernel_rfl) _ _ _ _ _ _ rfl rfl g 4 [.int .i64 a.fr,.int .i64 b.to,.int .i64 2,.int .i64 m1,.int .i64 0,.int .i64 0,.int .i64 0] 82 hT [.int .i64 m2] rfl (fun _ => ⟨rfl,⟨blk,2,none⟩,rfl,fun j v hj => by rw [add_at];exact (hE2.cell (2 + j)).trans ((List.getElem?_drop (xs:=([.int .i64 m0,.int .i64 m1,.int .i64 m2] : List Value)) (i:=2)).symm.trans hj)⟩) (by simp) (by intro v hv;rw [List.mem_singleton] at hv;subst hv;rfl) g W (Below.refl _ _) (Nat.le_refl _) ?_
   intro w8 hg8 hb8
   have hT8 : HoldsM w8 g 82 ⟨a.fr,b.to,2,m1,m2,0,0⟩:=hg8.out
   have hz8 : HoldsM w8 (w.heap.size + 1 + 1) 82 Sm.zero:=Row.below HZ.out hb8 HZL.out
   have hbw:=HB.out.trans (hb8.mono (by have:=HZL.out;omega))
   clear hT hE2 hg8 hb8 HZ HB
   obtain ⟨a0,a1,a2,a3,a4,a5,a6⟩:=hT8.cells7
   simp only at a0 a1 a2 a3 a4 a5 a6
   have HT:=Hd hT8;have HZ:=Hd hz8;have HB:=Hd hbw;clear hT8 hz8 hbw
   go_wp2_with fail
   refine (R3.out _).mono ?_;rintro e w9 ⟨rfl,hb9⟩
   dsimp only
   have hT9:=HT.out.below hb9;have hz9:=HZ.out.below hb9;have hbw:=HB.out.trans (hb9.mono HB.out.size)
   clear a0 a1 a2 a3 a4 a5 a6 HT HZ HB hb9
   obtain ⟨a0,a1,a2,a3,a4,a5,a6⟩:=hT9.cells7
   simp only at a0 a1 a2 a3 a4 a5 a6
   obtain ⟨z0,z1,z2,z3,z4,z5,z6⟩:=hz9.cells7
   obtain ⟨f0,f1,f2,f3,f4,f5,f6⟩:=hz9.free7
   have HZ:=Hd hz9;have HB:=Hd hbw;clear hT9 hz9 hbw
   cases B with
   | true =>
     go_wp2_with fail
     refine bodyPost_ret (v:=.tuple #[Sm.v ⟨a.fr,b.to,2,m1,m2,0,0⟩,.bool true]) (two_results rfl _ _ _ 82 _ (0,0) _ rfl (row_set7 HZ.out) Tryz.underlying82 rfl (by kernel_rfl) rfl) rfl ?_
     exact ⟨rfl,below_set7 HB.out (by omega)⟩
   | false =>
     go_wp2_with fail
     refine bodyPost_ret (v:=.tuple #[Sm.v Sm.zero,.bool false]) (two_results rfl _ _ _ 82 _ (0,0) _ rfl (row_set7 HZ.out) Tryz.underlying82 rfl (by kernel_rfl) rfl) rfl ?_
     exact ⟨rfl,below_set7 HB.out (by omega)⟩
set_option maxHeartbeats 4000000 in
theorem then_10 (a b : Sm) (w : World) (p0 p1 p2 m0 m1 m2 : Int) (B : Bool) (h : a.R) (h2 : b.R) (hd : a.to = b.fr) (hk : ¬ b.kp < a.kp) (hK : a.kp = 0)
 (ca : ∀ w,Calls Tryz.prog 87 #[a.v,.agg #[.int .i64 0,.int .i64 0,.int .i64 0]] w fun e w' => e = .returned (.agg #[.int .i64 p0,.int .i64 p1,.int .i64 p2]) ∧ Below w.heap.size w w')
 (cb : ∀ w,Calls Tryz.prog 87 #[b.v,.agg #[.int .i64 p0,.int .i64 p1,.int .i64 p2]] w fun e w' => e = .returned (.agg #[.int .i64 m0,.int .i64 m1,.int .i64 m2]) ∧ Below w.heap.size w w')
 (r3 : ∀ w,Calls Tryz.prog 86 #[(⟨a.fr,b.to,0,0,m0,m1,m2⟩ : Sm).v] w fun e w' => e = .returned (.bool B) ∧ Below w.heap.size w w') :
 Calls Tryz.prog 46 #[a.v,b.v] w fun e w' => e = .returned (.tuple #[if B then (⟨a.fr,b.to,0,0,m0,m1,m2⟩ : Sm).v else Sm.zero.v,.bool B]) ∧ Below w.heap.size w w':=by
 have h3:=Tri2.made w 82 a b
 have hbw:=ba3 w a b 82
 have H3:=Hd h3;have HB:=Hd hbw;clear h3 hbw
 have r1:=fun w => rightM_true h w
 have r2:=fun w => rightM_true h2 w
 have hn : (a.to != b.fr) = false:=by simpa using hd
 have R1:=Hd r1;have R2:=Hd r2;have CA:=Hd ca;have CB:=Hd cb;clear r1 r2 ca cb
 clear h h2 hd
 have R3:=Hd r3;clear r3
 have HK:=Hd hK;have HKK:=Hd hk;clear hK hk
 unfold Sm.v at *
 go_enter Tryz.func46,Tryz.ntmps46
 go_wp2_with fail
 refine (R1.out _).mono ?_;rintro e w2 ⟨rfl,hb2⟩
 have k3:=H3.out.below hb2
 have kb:=HB.out.trans (hb2.mono HB.out.size);clear H3 HB
 have H3:=Hd k3;have HB:=Hd kb;clear k3 kb hb2
 obtain ⟨a0,a1,a2,a3,a4,a5,a6⟩:=H3.out.1.cells7
 obtain ⟨b0,b1,b2,b3,b4,b5,b6⟩:=H3.out.2.1.cells7
 go_wp2_with fail
 clear a0 a1 a2 a3 a4 a5 a6 b0 b1 b2 b3 b4 b5 b6
 refine (R2.out _).mono ?_;rintro e w3 ⟨rfl,hb3⟩
 have k3:=H3.out.below hb3
 have kb:=HB.out.trans (hb3.mono HB.out.size);clear H3 HB
 have H3:=Hd k3;have HB:=Hd kb;clear k3 kb hb3
 obtain ⟨a0,a1,a2,a3,a4,a5,a6⟩:=H3.out.1.cells7
 obtain ⟨b0,b1,b2,b3,b4,b5,b6⟩:=H3.out.2.1.cells7
 go_wp2_with fail
 clear a0 a1 a2 a3 a4 a5 a6 b0 b1 b2 b3 b4 b5 b6
 clear hn R1 R2
 refine Free.wp_key (by kernel_rfl) (by kernel_rfl) (PutF w3 5 6 126 [.int .i64 0,.int .i64 0,.int .i64 0] [.int .i64 m0,.int .i64 m1,.int .i64 m2]) (ThV a b p0 p1 p2 m0 m1 m2) (fun vs => PutF.start 7 (by decide) (by decide) _ _ _ _ vs) ?_ ?_
 · intro i o hi bz vs az wa hold hpre hbi hF
   match i with
   | 0 =>
     cases hi
     exact Free.c_all rfl (Free.g_load _ _ rfl ((hold 3 (by decide)).trans rfl) (load_m H3.out.2.1 wa hF.1) ⟨rfl,hF.keep (Below.refl _ _) (by decide) (by decide)⟩)
   | 1 =>
     cases hi
     exact Free.c_all rfl (Free.g_load _ _ rfl ((hold 2 (by decide)).trans rfl) (load_m H3.out.1 wa hF.1) ⟨rfl,hF.keep (Below.refl _ _) (by decide) (by decide)⟩)
   | 2 =>
     cases hi
     exact Free.c_all rfl (Free.g_build _ _ rfl #[.int .i64 0,.int .i64 0,.int .i64 0] [] rfl (by kernel_rfl) ⟨rfl,hF.keep (Below.refl _ _) (by decide) (by decide)⟩)
   | 3 =>
     cases hi
     have h0 : az.eval (.tmp 25) = .agg #[.int .i64 a.fr,.int .i64 a.to,.int .i64 a.kp,.int .i64 a.ad,.int .i64 a.t0,.int .i64 a.t1,.int .i64 a.t2]:=(hpre 1 _ _ (by kernel_rfl) rfl rfl).2.2
     have h1 : az.eval (.tmp 26) = .agg #[.int .i64 0,.int .i64 0,.int .i64 0]:=(hpre 2 _ _ (by kernel_rfl) rfl rfl).2.2
     refine Free.c_all rfl (Free.g_call _ _ rfl Tryz.func87 (by kernel_rfl) rfl [.agg #[.int .i64 a.fr,.int .i64 a.to,.int .i64 a.kp,.int .i64 a.ad,.int .i64 a.t0,.int .i64 a.t1,.int .i64 a.t2],.agg #[.int .i64 0,.int .i64 0,.int .i64 0]] (by show [az.eval (.tmp 25),az.eval (.tmp 26)] = _;rw [h0,h1]) ?_)
     exact ((fun wa _ => CA.out wa) wa hF.1).mono fun e w2 ⟨he,hb2⟩ => ⟨_,he,rfl,hF.keep hb2 (by decide) (by decide)⟩
   | 4 =>
     cases hi
     have h0 : az.eval (.tmp 24) = .agg #[.int .i64 b.fr,.int .i64 b.to,.int .i64 b.kp,.int .i64 b.ad,.int .i64 b.t0,.int .i64 b.t1,.int .i64 b.t2]:=(hpre 0 _ _ (by kernel_rfl) rfl rfl).2.2
     have h1 : az.eval (.tmp 27) = .agg #[.int .i64 p0,.int .i64 p1,.int .i64 p2]:=(hpre 3 _ _ (by kernel_rfl) rfl rfl).2.2
     refine Free.c_all rfl (Free.g_call _ _ rfl Tryz.func87 (by kernel_rfl) rfl [.agg #[.int .i64 b.fr,.int .i64 b.to,.int .i64 b.kp,.int .i64 b.ad,.int .i64 b.t0,.int .i64 b.t1,.int .i64 b.t2],.agg #[.int .i64 p0,.int .i64 p1,.int .i64 p2]] (by show [az.eval (.tmp 24),az.eval (.tmp 27)] = _;rw [h0,h1]) ?_)
     exact ((fun wa _ => CB.out wa) wa hF.1).mono fun e w2 ⟨he,hb2⟩ => ⟨_,he,rfl,hF.keep hb2 (by decide) (by decide)⟩
   | 5 =>
     cases hi
     refine Free.c_all rfl ?_
     unfold execOp
     go_simp
     exact ⟨trivial,hF.alloc (by decide) hbi⟩
   | 6 =>
     cases hi
     have hq:=id (hpre (5) _ _ (by kernel_rfl) rfl rfl)
     have hx : az.eval (.tmp 28) = .agg #[.int .i64 m0,.int .i64 m1,.int .i64 m2]:=(hpre 4 _ _ (by kernel_rfl) rfl rfl).2.2
     obtain ⟨blk,hblk,hle,hrow⟩:=hF.row hq.1 hbi
     have hp : az.eval (.tmp 6) = .pointer (some ⟨blk,0,none⟩):=hq.2.1.trans hblk
     have hc0:=hrow.cell 0;have hf0:=hrow.free 0
     have hc1:=hrow.cell 1;have hf1:=hrow.free 1
     have hc2:=hrow.cell 2;have hf2:=hrow.free 2
     simp only [List.getElem?_cons_succ,List.getElem?_cons_zero] at hc0 hc1 hc2
     refine Free.c_all rfl ?_
     unfold execOp
     simp only [hp,hx]
     go_simp
     exact ⟨rfl,hF.store (by decide) hq.1 hblk hle (row_set3 hrow) (((hF.1.setCell hle _).setCell hle _).setCell hle _)⟩
   | _ + 7 => cases hi
 · intro vs we hv hF
   obtain ⟨hbE,blk,hblk,hle,hrowE⟩:=hF.done
   clear hF
   clear hv
   simp only [Free.puts,Nat.reduceAdd,hblk]
   clear hblk
   generalize vs 0 = y0
   generalize vs 1 = y1
   generalize vs 2 = y2
   generalize vs 3 = y3
   generalize vs 4 = y4
   generalize vs 6 = y6
   clear vs
   go_simp
   have h3:=H3.out.below hbE;have hbw:=HB.out.trans (hbE.mono HB.out.size)
   have hlt3 : w.heap.size + 1 + 1 < w3.heap.size:=H3.out.2.2.lt
   clear H3 HB hbE CA CB
   obtain ⟨c0,c1,c2⟩:=row_c3 hrowE
   obtain ⟨f0,f1,f2⟩:=row_f3 hrowE
   have hbl:=Row.lt hrowE
   obtain ⟨a0,a1,a2,a3,a4,a5,a6⟩:=h3.1.cells7
   obtain ⟨b0,b1,b2,b3,b4,b5,b6⟩:=h3.2.1.cells7
   rw [HK.out] at a2
   have hk:=HKK.out
   rw [HK.out] at hk
   have hmin : min 0 b.kp = 0:=by omega
   have H3:=Hd h3;have HB:=Hd hbw;have HE:=Hd hrowE;have HL:=Hd (And.intro hle hlt3);clear h3 hbw hrowE hle hlt3 HKK
   go_wp2_with fail
   refine wp_tail 5 (by kernel_rfl) (by kernel_rfl) ?_
   simp only [List.take_succ_cons,List.take_zero,List.drop_succ_cons,List.drop_zero]
   clear a0 a1 a2 a3 a4 a5 a6 b0 b1 b2 b3 b4 b5 b6 c0 c1 c2 f0 f1 f2
   have hT : Row ((we.alloc (.cells #[.int .i64 a.fr,.int .i64 b.to,.int .i64 0,.int .i64 0,.int .i64 0,.int .i64 0,.int .i64 0] 82)).drewN 1) we.heap.size 82 [.int .i64 a.fr,.int .i64 b.to,.int .i64 0,.int .i64 0,.int .i64 0,.int .i64 0,.int .i64 0]:=(Row.made we 82 [.int .i64 a.fr,.int .i64 b.to,.int .i64 0,.int .i64 0,.int .i64 0,.int .i64 0,.int .i64 0]).drewN 1
   have hE2 : Row ((we.alloc (.cells #[.int .i64 a.fr,.int .i64 b.to,.int .i64 0,.int .i64 0,.int .i64 0,.int .i64 0,.int .i64 0] 82)).drewN 1) blk 126 [.int .i64 m0,.int .i64 m1,.int .i64 m2]:=(HE.out.alloc _).drewN 1
   have hz : HoldsM ((we.alloc (.cells #[.int .i64 a.fr,.int .i64 b.to,.int .i64 0,.int .i64 0,.int .i64 0,.int .i64 0,.int .i64 0] 82)).drewN 1) (w.heap.size + 1 + 1) 82 Sm.zero:=(Row.alloc H3.out.2.2 _).drewN 1
   have hbw:=below_drewN (HB.out.alloc HB.out.size (.cells #[.int .i64 a.fr,.int .i64 b.to,.int .i64 0,.int .i64 0,.int .i64 0,.int .i64 0,.int .i64 0] 82)) 1
   have hzl : w.heap.size + 1 + 1 < we.heap.size:=H3.out.2.2.lt
   have hsW : ((we.alloc (.cells #[.int .i64 a.fr,.int .i64 b.to,.int .i64 0,.int .i64 0,.int .i64 0,.int .i64 0,.int .i64 0] 82)).drewN 1).heap.size = we.heap.size + 1:=by simp
   have HZL:=Hd hzl;clear hzl HE H3 HB hbl
   generalize (we.alloc (.cells #[.int .i64 a.fr,.int .i64 b.to,.int .i64 0,.int .i64 0,.int .i64 0,.int .i64 0,.int .i64 0] 82)).drewN 1 = W at *
   generalize we.heap.size = g at *
   have t2:=hT.cell 2
   simp only [List.getElem?_cons_succ,List.getElem?_cons_zero] at t2
   have HT:=Hd hT;have HE2:=Hd hE2;have HZ:=Hd hz;have HB:=Hd hbw;have HS:=Hd hsW;clear hT hE2 hz hbw hsW hk
   repeat still_step
   refine wpStill_nil ?_
   have hT:=HT.out;have hE2:=HE2.out;clear t2 HT HE2
   refine wpList_copy_splice rfl _ _ _ _ rfl 3 Tryz.underlying56 (by kernel_rfl) _ _ _ _ _ _ rfl rfl g 4 [.int .i64 a.fr,.int .i64 b.to,.int .i64 0,.int .i64 0,.int .i64 0,.int .i64 0,.int .i64 0] 82 hT [.int .i64 m0,.int .i64 m1,.int .i64 m2] rfl (fun _ => ⟨rfl,⟨blk,0,none⟩,rfl,fun j v hj => by rw [add_at];exact (hE2.cell (0 + j)).trans ((List.getElem?_drop (xs:=([.int .i64 m0,.int .i64 m1,.int .i64 m2] : List Value)) (i:=0)).symm.trans hj)⟩) (by simp) (by intro v hv;simp only [List.mem_cons,List.not_mem_nil,or_false] at hv;rcases hv with rfl | rfl | rfl <;> rfl) g W (Below.refl _ _) (Nat.le_refl _) ?_
   intro w8 hg8 hb8
   have hT8 : HoldsM w8 g 82 ⟨a.fr,b.to,0,0,m0,m1,m2⟩:=hg8.out
   have hz8 : HoldsM w8 (w.heap.size + 1 + 1) 82 Sm.zero:=Row.below HZ.out hb8 HZL.out
   have hbw:=HB.out.trans (hb8.mono (by have:=HZL.out;omega))
   clear hT hE2 hg8 hb8 HZ HB
   obtain ⟨a0,a1,a2,a3,a4,a5,a6⟩:=hT8.cells7
   simp only at a0 a1 a2 a3 a4 a5 a6
   have HT:=Hd hT8;have HZ:=Hd hz8;have HB:=Hd hbw;clear hT8 hz8 hbw
   go_wp2_with fail
   refine (R3.out _).mono ?_;rintro e w9 ⟨rfl,hb9⟩
   dsimp only
   have hT9:=HT.out.below hb9;have hz9:=HZ.out.below hb9;have hbw:=HB.out.trans (hb9.mono HB.out.size)
   clear a0 a1 a2 a3 a4 a5 a6 HT HZ HB hb9
   obtain ⟨a0,a1,a2,a3,a4,a5,a6⟩:=hT9.cells7
   simp only at a0 a1 a2 a3 a4 a5 a6
   obtain ⟨z0,z1,z2,z3,z4,z5,z6⟩:=hz9.cells7
   obtain ⟨f0,f1,f2,f3,f4,f5,f6⟩:=hz9.free7
   have HZ:=Hd hz9;have HB:=Hd hbw;clear hT9 hz9 hbw
   cases B with
   | true =>
     go_wp2_with fail
     refine bodyPost_ret (v:=.tuple #[Sm.v ⟨a.fr,b.to,0,0,m0,m1,m2⟩,.bool true]) (two_results rfl _ _ _ 82 _ (0,0) _ rfl (row_set7 HZ.out) Tryz.underlying82 rfl (by kernel_rfl) rfl) rfl ?_
     exact ⟨rfl,below_set7 HB.out (by omega)⟩
   | false =>
     go_wp2_with fail
     refine bodyPost_ret (v:=.tuple #[Sm.v Sm.zero,.bool false]) (two_results rfl _ _ _ 82 _ (0,0) _ rfl (row_set7 HZ.out) Tryz.underlying82 rfl (by kernel_rfl) rfl) rfl ?_
     exact ⟨rfl,below_set7 HB.out (by omega)⟩
set_option maxHeartbeats 4000000 in
theorem then_11 (a b : Sm) (w : World) (p0 p1 p2 m0 m1 m2 : Int) (B : Bool) (h : a.R) (h2 : b.R) (hd : a.to = b.fr) (hk : ¬ b.kp < a.kp) (hK : a.kp = 1)
 (ca : ∀ w,Calls Tryz.prog 87 #[a.v,.agg #[.int .i64 0,.int .i64 0,.int .i64 0]] w fun e w' => e = .returned (.agg #[.int .i64 p0,.int .i64 p1,.int .i64 p2]) ∧ Below w.heap.size w w')
 (cb : ∀ w,Calls Tryz.prog 87 #[b.v,.agg #[.int .i64 p0,.int .i64 p1,.int .i64 p2]] w fun e w' => e = .returned (.agg #[.int .i64 m0,.int .i64 m1,.int .i64 m2]) ∧ Below w.heap.size w w')
 (r3 : ∀ w,Calls Tryz.prog 86 #[(⟨a.fr,b.to,1,m0,m1,m2,0⟩ : Sm).v] w fun e w' => e = .returned (.bool B) ∧ Below w.heap.size w w') :
 Calls Tryz.prog 46 #[a.v,b.v] w fun e w' => e = .returned (.tuple #[if B then (⟨a.fr,b.to,1,m0,m1,m2,0⟩ : Sm).v else Sm.zero.v,.bool B]) ∧ Below w.heap.size w w':=by
 have h3:=Tri2.made w 82 a b
 have hbw:=ba3 w a b 82
 have H3:=Hd h3;have HB:=Hd hbw;clear h3 hbw
 have r1:=fun w => rightM_true h w
 have r2:=fun w => rightM_true h2 w
 have hn : (a.to != b.fr) = false:=by simpa using hd
 have R1:=Hd r1;have R2:=Hd r2;have CA:=Hd ca;have CB:=Hd cb;clear r1 r2 ca cb
 clear h h2 hd
 have R3:=Hd r3;clear r3
 have HK:=Hd hK;have HKK:=Hd hk;clear hK hk
 unfold Sm.v at *
 go_enter Tryz.func46,Tryz.ntmps46
 go_wp2_with fail
 refine (R1.out _).mono ?_;rintro e w2 ⟨rfl,hb2⟩
 have k3:=H3.out.below hb2
 have kb:=HB.out.trans (hb2.mono HB.out.size);clear H3 HB
 have H3:=Hd k3;have HB:=Hd kb;clear k3 kb hb2
 obtain ⟨a0,a1,a2,a3,a4,a5,a6⟩:=H3.out.1.cells7
 obtain ⟨b0,b1,b2,b3,b4,b5,b6⟩:=H3.out.2.1.cells7
 go_wp2_with fail
 clear a0 a1 a2 a3 a4 a5 a6 b0 b1 b2 b3 b4 b5 b6
 refine (R2.out _).mono ?_;rintro e w3 ⟨rfl,hb3⟩
 have k3:=H3.out.below hb3
 have kb:=HB.out.trans (hb3.mono HB.out.size);clear H3 HB
 have H3:=Hd k3;have HB:=Hd kb;clear k3 kb hb3
 obtain ⟨a0,a1,a2,a3,a4,a5,a6⟩:=H3.out.1.cells7
 obtain ⟨b0,b1,b2,b3,b4,b5,b6⟩:=H3.out.2.1.cells7
 go_wp2_with fail
 clear a0 a1 a2 a3 a4 a5 a6 b0 b1 b2 b3 b4 b5 b6
 clear hn R1 R2
 refine Free.wp_key (by kernel_rfl) (by kernel_rfl) (PutF w3 5 6 126 [.int .i64 0,.int .i64 0,.int .i64 0] [.int .i64 m0,.int .i64 m1,.int .i64 m2]) (ThV a b p0 p1 p2 m0 m1 m2) (fun vs => PutF.start 7 (by decide) (by decide) _ _ _ _ vs) ?_ ?_
 · intro i o hi bz vs az wa hold hpre hbi hF
   match i with
   | 0 =>
     cases hi
     exact Free.c_all rfl (Free.g_load _ _ rfl ((hold 3 (by decide)).trans rfl) (load_m H3.out.2.1 wa hF.1) ⟨rfl,hF.keep (Below.refl _ _) (by decide) (by decide)⟩)
   | 1 =>
     cases hi
     exact Free.c_all rfl (Free.g_load _ _ rfl ((hold 2 (by decide)).trans rfl) (load_m H3.out.1 wa hF.1) ⟨rfl,hF.keep (Below.refl _ _) (by decide) (by decide)⟩)
   | 2 =>
     cases hi
     exact Free.c_all rfl (Free.g_build _ _ rfl #[.int .i64 0,.int .i64 0,.int .i64 0] [] rfl (by kernel_rfl) ⟨rfl,hF.keep (Below.refl _ _) (by decide) (by decide)⟩)
   | 3 =>
     cases hi
     have h0 : az.eval (.tmp 25) = .agg #[.int .i64 a.fr,.int .i64 a.to,.int .i64 a.kp,.int .i64 a.ad,.int .i64 a.t0,.int .i64 a.t1,.int .i64 a.t2]:=(hpre 1 _ _ (by kernel_rfl) rfl rfl).2.2
     have h1 : az.eval (.tmp 26) = .agg #[.int .i64 0,.int .i64 0,.int .i64 0]:=(hpre 2 _ _ (by kernel_rfl) rfl rfl).2.2
     refine Free.c_all rfl (Free.g_call _ _ rfl Tryz.func87 (by kernel_rfl) rfl [.agg #[.int .i64 a.fr,.int .i64 a.to,.int .i64 a.kp,.int .i64 a.ad,.int .i64 a.t0,.int .i64 a.t1,.int .i64 a.t2],.agg #[.int .i64 0,.int .i64 0,.int .i64 0]] (by show [az.eval (.tmp 25),az.eval (.tmp 26)] = _;rw [h0,h1]) ?_)
     exact ((fun wa _ => CA.out wa) wa hF.1).mono fun e w2 ⟨he,hb2⟩ => ⟨_,he,rfl,hF.keep hb2 (by decide) (by decide)⟩
   | 4 =>
     cases hi
     have h0 : az.eval (.tmp 24) = .agg #[.int .i64 b.fr,.int .i64 b.to,.int .i64 b.kp,.int .i64 b.ad,.int .i64 b.t0,.int .i64 b.t1,.int .i64 b.t2]:=(hpre 0 _ _ (by kernel_rfl) rfl rfl).2.2
     have h1 : az.eval (.tmp 27) = .agg #[.int .i64 p0,.int .i64 p1,.int .i64 p2]:=(hpre 3 _ _ (by kernel_rfl) rfl rfl).2.2
     refine Free.c_all rfl (Free.g_call _ _ rfl Tryz.func87 (by kernel_rfl) rfl [.agg #[.int .i64 b.fr,.int .i64 b.to,.int .i64 b.kp,.int .i64 b.ad,.int .i64 b.t0,.int .i64 b.t1,.int .i64 b.t2],.agg #[.int .i64 p0,.int .i64 p1,.int .i64 p2]] (by show [az.eval (.tmp 24),az.eval (.tmp 27)] = _;rw [h0,h1]) ?_)
     exact ((fun wa _ => CB.out wa) wa hF.1).mono fun e w2 ⟨he,hb2⟩ => ⟨_,he,rfl,hF.keep hb2 (by decide) (by decide)⟩
   | 5 =>
     cases hi
     refine Free.c_all rfl ?_
     unfold execOp
     go_simp
     exact ⟨trivial,hF.alloc (by decide) hbi⟩
   | 6 =>
     cases hi
     have hq:=id (hpre (5) _ _ (by kernel_rfl) rfl rfl)
     have hx : az.eval (.tmp 28) = .agg #[.int .i64 m0,.int .i64 m1,.int .i64 m2]:=(hpre 4 _ _ (by kernel_rfl) rfl rfl).2.2
     obtain ⟨blk,hblk,hle,hrow⟩:=hF.row hq.1 hbi
     have hp : az.eval (.tmp 6) = .pointer (some ⟨blk,0,none⟩):=hq.2.1.trans hblk
     have hc0:=hrow.cell 0;have hf0:=hrow.free 0
     have hc1:=hrow.cell 1;have hf1:=hrow.free 1
     have hc2:=hrow.cell 2;have hf2:=hrow.free 2
     simp only [List.getElem?_cons_succ,List.getElem?_cons_zero] at hc0 hc1 hc2
     refine Free.c_all rfl ?_
     unfold execOp
     simp only [hp,hx]
     go_simp
     exact ⟨rfl,hF.store (by decide) hq.1 hblk hle (row_set3 hrow) (((hF.1.setCell hle _).setCell hle _).setCell hle _)⟩
   | _ + 7 => cases hi
 · intro vs we hv hF
   obtain ⟨hbE,blk,hblk,hle,hrowE⟩:=hF.done
   clear hF
   clear hv
   simp only [Free.puts,Nat.reduceAdd,hblk]
   clear hblk
   generalize vs 0 = y0
   generalize vs 1 = y1
   generalize vs 2 = y2
   generalize vs 3 = y3
   generalize vs 4 = y4
   generalize vs 6 = y6
   clear vs
   go_simp
   have h3:=H3.out.below hbE;have hbw:=HB.out.trans (hbE.mono HB.out.size)
   have hlt3 : w.heap.size + 1 + 1 < w3.heap.size:=H3.out.2.2.lt
   clear H3 HB hbE CA CB
   obtain ⟨c0,c1,c2⟩:=row_c3 hrowE
   obtain ⟨f0,f1,f2⟩:=row_f3 hrowE
   have hbl:=Row.lt hrowE
   obtain ⟨a0,a1,a2,a3,a4,a5,a6⟩:=h3.1.cells7
   obtain ⟨b0,b1,b2,b3,b4,b5,b6⟩:=h3.2.1.cells7
   rw [HK.out] at a2
   have hk:=HKK.out
   rw [HK.out] at hk
   have hmin : min 1 b.kp = 1:=by omega
   have H3:=Hd h3;have HB:=Hd hbw;have HE:=Hd hrowE;have HL:=Hd (And.intro hle hlt3);clear h3 hbw hrowE hle hlt3 HKK
   go_wp2_with fail
   refine wp_tail 5 (by kernel_rfl) (by kernel_rfl) ?_
   simp only [List.take_succ_cons,List.take_zero,List.drop_succ_cons,List.drop_zero]
   clear a0 a1 a2 a3 a4 a5 a6 b0 b1 b2 b3 b4 b5 b6 c0 c1 c2 f0 f1 f2
   have hT : Row ((we.alloc (.cells #[.int .i64 a.fr,.int .i64 b.to,.int .i64 1,.int .i64 m0,.int .i64 0,.int .i64 0,.int .i64 0] 82)).drewN 1) we.heap.size 82 [.int .i64 a.fr,.int .i64 b.to,.int .i64 1,.int .i64 m0,.int .i64 0,.int .i64 0,.int .i64 0]:=(Row.made we 82 [.int .i64 a.fr,.int .i64 b.to,.int .i64 1,.int .i64 m0,.int .i64 0,.int .i64 0,.int .i64 0]).drewN 1
   have hE2 : Row ((we.alloc (.cells #[.int .i64 a.fr,.int .i64 b.to,.int .i64 1,.int .i64 m0,.int .i64 0,.int .i64 0,.int .i64 0] 82)).drewN 1) blk 126 [.int .i64 m0,.int .i64 m1,.int .i64 m2]:=(HE.out.alloc _).drewN 1
   have hz : HoldsM ((we.alloc (.cells #[.int .i64 a.fr,.int .i64 b.to,.int .i64 1,.int .i64 m0,.int .i64 0,.int .i64 0,.int .i64 0] 82)).drewN 1) (w.heap.size + 1 + 1) 82 Sm.zero:=(Row.alloc H3.out.2.2 _).drewN 1
   have hbw:=below_drewN (HB.out.alloc HB.out.size (.cells #[.int .i64 a.fr,.int .i64 b.to,.int .i64 1,.int .i64 m0,.int .i64 0,.int .i64 0,.int .i64 0] 82)) 1
   have hzl : w.heap.size + 1 + 1 < we.heap.size:=H3.out.2.2.lt
   have hsW : ((we.alloc (.cells #[.int .i64 a.fr,.int .i64 b.to,.int .i64 1,.int .i64 m0,.int .i64 0,.int .i64 0,.int .i64 0] 82)).drewN 1).heap.size = we.heap.size + 1:=by simp
   have HZL:=Hd hzl;clear hzl HE H3 HB hbl
   generalize (we.alloc (.cells #[.int .i64 a.fr,.int .i64 b.to,.int .i64 1,.int .i64 m0,.int .i64 0,.int .i64 0,.int .i64 0] 82)).drewN 1 = W at *
   generalize we.heap.size = g at *
   have t2:=hT.cell 2
   simp only [List.getElem?_cons_succ,List.getElem?_cons_zero] at t2
   have HT:=Hd hT;have HE2:=Hd hE2;have HZ:=Hd hz;have HB:=Hd hbw;have HS:=Hd hsW;clear hT hE2 hz hbw hsW hk
   repeat still_step
   refine wpStill_nil ?_
   have hT:=HT.out;have hE2:=HE2.out;clear t2 HT HE2
   refine wpList_copy_splice rfl _ _ _ _ rfl 3 Tryz.underlying56 (by kernel_rfl) _ _ _ _ _ _ rfl rfl g 4 [.int .i64 a.fr,.int .i64 b.to,.int .i64 1,.int .i64 m0,.int .i64 0,.int .i64 0,.int .i64 0] 82 hT [.int .i64 m1,.int .i64 m2] rfl (fun _ => ⟨rfl,⟨blk,1,none⟩,rfl,fun j v hj => by rw [add_at];exact (hE2.cell (1 + j)).trans ((List.getElem?_drop (xs:=([.int .i64 m0,.int .i64 m1,.int .i64 m2] : List Value)) (i:=1)).symm.trans hj)⟩) (by simp) (by intro v hv;simp only [List.mem_cons,List.not_mem_nil,or_false] at hv;rcases hv with rfl | rfl <;> rfl) g W (Below.refl _ _) (Nat.le_refl _) ?_
   intro w8 hg8 hb8
   have hT8 : HoldsM w8 g 82 ⟨a.fr,b.to,1,m0,m1,m2,0⟩:=hg8.out
   have hz8 : HoldsM w8 (w.heap.size + 1 + 1) 82 Sm.zero:=Row.below HZ.out hb8 HZL.out
   have hbw:=HB.out.trans (hb8.mono (by have:=HZL.out;omega))
   clear hT hE2 hg8 hb8 HZ HB
   obtain ⟨a0,a1,a2,a3,a4,a5,a6⟩:=hT8.cells7
   simp only at a0 a1 a2 a3 a4 a5 a6
   have HT:=Hd hT8;have HZ:=Hd hz8;have HB:=Hd hbw;clear hT8 hz8 hbw
   go_wp2_with fail
   refine (R3.out _).mono ?_;rintro e w9 ⟨rfl,hb9⟩
   dsimp only
   have hT9:=HT.out.below hb9;have hz9:=HZ.out.below hb9;have hbw:=HB.out.trans (hb9.mono HB.out.size)
   clear a0 a1 a2 a3 a4 a5 a6 HT HZ HB hb9
   obtain ⟨a0,a1,a2,a3,a4,a5,a6⟩:=hT9.cells7
   simp only at a0 a1 a2 a3 a4 a5 a6
   obtain ⟨z0,z1,z2,z3,z4,z5,z6⟩:=hz9.cells7
   obtain ⟨f0,f1,f2,f3,f4,f5,f6⟩:=hz9.free7
   have HZ:=Hd hz9;have HB:=Hd hbw;clear hT9 hz9 hbw
   cases B with
   | true =>
     go_wp2_with fail
     refine bodyPost_ret (v:=.tuple #[Sm.v ⟨a.fr,b.to,1,m0,m1,m2,0⟩,.bool true]) (two_results rfl _ _ _ 82 _ (0,0) _ rfl (row_set7 HZ.out) Tryz.underlying82 rfl (by kernel_rfl) rfl) rfl ?_
     exact ⟨rfl,below_set7 HB.out (by omega)⟩
   | false =>
     go_wp2_with fail
     refine bodyPost_ret (v:=.tuple #[Sm.v Sm.zero,.bool false]) (two_results rfl _ _ _ 82 _ (0,0) _ rfl (row_set7 HZ.out) Tryz.underlying82 rfl (by kernel_rfl) rfl) rfl ?_
     exact ⟨rfl,below_set7 HB.out (by omega)⟩
set_option maxHeartbeats 4000000 in
theorem then_12 (a b : Sm) (w : World) (p0 p1 p2 m0 m1 m2 : Int) (B : Bool) (h : a.R) (h2 : b.R) (hd : a.to = b.fr) (hk : ¬ b.kp < a.kp) (hK : a.kp = 2)
 (ca : ∀ w,Calls Tryz.prog 87 #[a.v,.agg #[.int .i64 0,.int .i64 0,.int .i64 0]] w fun e w' => e = .returned (.agg #[.int .i64 p0,.int .i64 p1,.int .i64 p2]) ∧ Below w.heap.size w w')
 (cb : ∀ w,Calls Tryz.prog 87 #[b.v,.agg #[.int .i64 p0,.int .i64 p1,.int .i64 p2]] w fun e w' => e = .returned (.agg #[.int .i64 m0,.int .i64 m1,.int .i64 m2]) ∧ Below w.heap.size w w')
 (r3 : ∀ w,Calls Tryz.prog 86 #[(⟨a.fr,b.to,2,m1,m2,0,0⟩ : Sm).v] w fun e w' => e = .returned (.bool B) ∧ Below w.heap.size w w') :
 Calls Tryz.prog 46 #[a.v,b.v] w fun e w' => e = .returned (.tuple #[if B then (⟨a.fr,b.to,2,m1,m2,0,0⟩ : Sm).v else Sm.zero.v,.bool B]) ∧ Below w.heap.size w w':=by
 have h3:=Tri2.made w 82 a b
 have hbw:=ba3 w a b 82
 have H3:=Hd h3;have HB:=Hd hbw;clear h3 hbw
 have r1:=fun w => rightM_true h w
 have r2:=fun w => rightM_true h2 w
 have hn : (a.to != b.fr) = false:=by simpa using hd
 have R1:=Hd r1;have R2:=Hd r2;have CA:=Hd ca;have CB:=Hd cb;clear r1 r2 ca cb
 clear h h2 hd
 have R3:=Hd r3;clear r3
 have HK:=Hd hK;have HKK:=Hd hk;clear hK hk
 unfold Sm.v at *
 go_enter Tryz.func46,Tryz.ntmps46
 go_wp2_with fail
 refine (R1.out _).mono ?_;rintro e w2 ⟨rfl,hb2⟩
 have k3:=H3.out.below hb2
 have kb:=HB.out.trans (hb2.mono HB.out.size);clear H3 HB
 have H3:=Hd k3;have HB:=Hd kb;clear k3 kb hb2
 obtain ⟨a0,a1,a2,a3,a4,a5,a6⟩:=H3.out.1.cells7
 obtain ⟨b0,b1,b2,b3,b4,b5,b6⟩:=H3.out.2.1.cells7
 go_wp2_with fail
 clear a0 a1 a2 a3 a4 a5 a6 b0 b1 b2 b3 b4 b5 b6
 refine (R2.out _).mono ?_;rintro e w3 ⟨rfl,hb3⟩
 have k3:=H3.out.below hb3
 have kb:=HB.out.trans (hb3.mono HB.out.size);clear H3 HB
 have H3:=Hd k3;have HB:=Hd kb;clear k3 kb hb3
 obtain ⟨a0,a1,a2,a3,a4,a5,a6⟩:=H3.out.1.cells7
 obtain ⟨b0,b1,b2,b3,b4,b5,b6⟩:=H3.out.2.1.cells7
 go_wp2_with fail
 clear a0 a1 a2 a3 a4 a5 a6 b0 b1 b2 b3 b4 b5 b6
 clear hn R1 R2
 refine Free.wp_key (by kernel_rfl) (by kernel_rfl) (PutF w3 5 6 126 [.int .i64 0,.int .i64 0,.int .i64 0] [.int .i64 m0,.int .i64 m1,.int .i64 m2]) (ThV a b p0 p1 p2 m0 m1 m2) (fun vs => PutF.start 7 (by decide) (by decide) _ _ _ _ vs) ?_ ?_
 · intro i o hi bz vs az wa hold hpre hbi hF
   match i with
   | 0 =>
     cases hi
     exact Free.c_all rfl (Free.g_load _ _ rfl ((hold 3 (by decide)).trans rfl) (load_m H3.out.2.1 wa hF.1) ⟨rfl,hF.keep (Below.refl _ _) (by decide) (by decide)⟩)
   | 1 =>
     cases hi
     exact Free.c_all rfl (Free.g_load _ _ rfl ((hold 2 (by decide)).trans rfl) (load_m H3.out.1 wa hF.1) ⟨rfl,hF.keep (Below.refl _ _) (by decide) (by decide)⟩)
   | 2 =>
     cases hi
     exact Free.c_all rfl (Free.g_build _ _ rfl #[.int .i64 0,.int .i64 0,.int .i64 0] [] rfl (by kernel_rfl) ⟨rfl,hF.keep (Below.refl _ _) (by decide) (by decide)⟩)
   | 3 =>
     cases hi
     have h0 : az.eval (.tmp 25) = .agg #[.int .i64 a.fr,.int .i64 a.to,.int .i64 a.kp,.int .i64 a.ad,.int .i64 a.t0,.int .i64 a.t1,.int .i64 a.t2]:=(hpre 1 _ _ (by kernel_rfl) rfl rfl).2.2
     have h1 : az.eval (.tmp 26) = .agg #[.int .i64 0,.int .i64 0,.int .i64 0]:=(hpre 2 _ _ (by kernel_rfl) rfl rfl).2.2
     refine Free.c_all rfl (Free.g_call _ _ rfl Tryz.func87 (by kernel_rfl) rfl [.agg #[.int .i64 a.fr,.int .i64 a.to,.int .i64 a.kp,.int .i64 a.ad,.int .i64 a.t0,.int .i64 a.t1,.int .i64 a.t2],.agg #[.int .i64 0,.int .i64 0,.int .i64 0]] (by show [az.eval (.tmp 25),az.eval (.tmp 26)] = _;rw [h0,h1]) ?_)
     exact ((fun wa _ => CA.out wa) wa hF.1).mono fun e w2 ⟨he,hb2⟩ => ⟨_,he,rfl,hF.keep hb2 (by decide) (by decide)⟩
   | 4 =>
     cases hi
     have h0 : az.eval (.tmp 24) = .agg #[.int .i64 b.fr,.int .i64 b.to,.int .i64 b.kp,.int .i64 b.ad,.int .i64 b.t0,.int .i64 b.t1,.int .i64 b.t2]:=(hpre 0 _ _ (by kernel_rfl) rfl rfl).2.2
     have h1 : az.eval (.tmp 27) = .agg #[.int .i64 p0,.int .i64 p1,.int .i64 p2]:=(hpre 3 _ _ (by kernel_rfl) rfl rfl).2.2
     refine Free.c_all rfl (Free.g_call _ _ rfl Tryz.func87 (by kernel_rfl) rfl [.agg #[.int .i64 b.fr,.int .i64 b.to,.int .i64 b.kp,.int .i64 b.ad,.int .i64 b.t0,.int .i64 b.t1,.int .i64 b.t2],.agg #[.int .i64 p0,.int .i64 p1,.int .i64 p2]] (by show [az.eval (.tmp 24),az.eval (.tmp 27)] = _;rw [h0,h1]) ?_)
     exact ((fun wa _ => CB.out wa) wa hF.1).mono fun e w2 ⟨he,hb2⟩ => ⟨_,he,rfl,hF.keep hb2 (by decide) (by decide)⟩
   | 5 =>
     cases hi
     refine Free.c_all rfl ?_
     unfold execOp
     go_simp
     exact ⟨trivial,hF.alloc (by decide) hbi⟩
   | 6 =>
     cases hi
     have hq:=id (hpre (5) _ _ (by kernel_rfl) rfl rfl)
     have hx : az.eval (.tmp 28) = .agg #[.int .i64 m0,.int .i64 m1,.int .i64 m2]:=(hpre 4 _ _ (by kernel_rfl) rfl rfl).2.2
     obtain ⟨blk,hblk,hle,hrow⟩:=hF.row hq.1 hbi
     have hp : az.eval (.tmp 6) = .pointer (some ⟨blk,0,none⟩):=hq.2.1.trans hblk
     have hc0:=hrow.cell 0;have hf0:=hrow.free 0
     have hc1:=hrow.cell 1;have hf1:=hrow.free 1
     have hc2:=hrow.cell 2;have hf2:=hrow.free 2
     simp only [List.getElem?_cons_succ,List.getElem?_cons_zero] at hc0 hc1 hc2
     refine Free.c_all rfl ?_
     unfold execOp
     simp only [hp,hx]
     go_simp
     exact ⟨rfl,hF.store (by decide) hq.1 hblk hle (row_set3 hrow) (((hF.1.setCell hle _).setCell hle _).setCell hle _)⟩
   | _ + 7 => cases hi
 · intro vs we hv hF
   obtain ⟨hbE,blk,hblk,hle,hrowE⟩:=hF.done
   clear hF
   clear hv
   simp only [Free.puts,Nat.reduceAdd,hblk]
   clear hblk
   generalize vs 0 = y0
   generalize vs 1 = y1
   generalize vs 2 = y2
   generalize vs 3 = y3
   generalize vs 4 = y4
   generalize vs 6 = y6
   clear vs
   go_simp
   have h3:=H3.out.below hbE;have hbw:=HB.out.trans (hbE.mono HB.out.size)
   have hlt3 : w.heap.size + 1 + 1 < w3.heap.size:=H3.out.2.2.lt
   clear H3 HB hbE CA CB
   obtain ⟨c0,c1,c2⟩:=row_c3 hrowE
   obtain ⟨f0,f1,f2⟩:=row_f3 hrowE
   have hbl:=Row.lt hrowE
   obtain ⟨a0,a1,a2,a3,a4,a5,a6⟩:=h3.1.cells7
   obtain ⟨b0,b1,b2,b3,b4,b5,b6⟩:=h3.2.1.cells7
   rw [HK.out] at a2
   have hk:=HKK.out
   rw [HK.out] at hk
   have hmin : min 2 b.kp = 2:=by omega
   have H3:=Hd h3;have HB:=Hd hbw;have HE:=Hd hrowE;have HL:=Hd (And.intro hle hlt3);clear h3 hbw hrowE hle hlt3 HKK
   go_wp2_with fail
   refine wp_tail 5 (by kernel_rfl) (by kernel_rfl) ?_
   simp only [List.take_succ_cons,List.take_zero,List.drop_succ_cons,List.drop_zero]
   clear a0 a1 a2 a3 a4 a5 a6 b0 b1 b2 b3 b4 b5 b6 c0 c1 c2 f0 f1 f2
   have hT : Row ((we.alloc (.cells #[.int .i64 a.fr,.int .i64 b.to,.int .i64 2,.int .i64 m1,.int .i64 0,.int .i64 0,.int .i64 0] 82)).drewN 1) we.heap.size 82 [.int .i64 a.fr,.int .i64 b.to,.int .i64 2,.int .i64 m1,.int .i64 0,.int .i64 0,.int .i64 0]:=(Row.made we 82 [.int .i64 a.fr,.int .i64 b.to,.int .i64 2,.int .i64 m1,.int .i64 0,.int .i64 0,.int .i64 0]).drewN 1
   have hE2 : Row ((we.alloc (.cells #[.int .i64 a.fr,.int .i64 b.to,.int .i64 2,.int .i64 m1,.int .i64 0,.int .i64 0,.int .i64 0] 82)).drewN 1) blk 126 [.int .i64 m0,.int .i64 m1,.int .i64 m2]:=(HE.out.alloc _).drewN 1
   have hz : HoldsM ((we.alloc (.cells #[.int .i64 a.fr,.int .i64 b.to,.int .i64 2,.int .i64 m1,.int .i64 0,.int .i64 0,.int .i64 0] 82)).drewN 1) (w.heap.size + 1 + 1) 82 Sm.zero:=(Row.alloc H3.out.2.2 _).drewN 1
   have hbw:=below_drewN (HB.out.alloc HB.out.size (.cells #[.int .i64 a.fr,.int .i64 b.to,.int .i64 2,.int .i64 m1,.int .i64 0,.int .i64 0,.int .i64 0] 82)) 1
   have hzl : w.heap.size + 1 + 1 < we.heap.size:=H3.out.2.2.lt
   have hsW : ((we.alloc (.cells #[.int .i64 a.fr,.int .i64 b.to,.int .i64 2,.int .i64 m1,.int .i64 0,.int .i64 0,.int .i64 0] 82)).drewN 1).heap.size = we.heap.size + 1:=by simp
   have HZL:=Hd hzl;clear hzl HE H3 HB hbl
   generalize (we.alloc (.cells #[.int .i64 a.fr,.int .i64 b.to,.int .i64 2,.int .i64 m1,.int .i64 0,.int .i64 0,.int .i64 0] 82)).drewN 1 = W at *
   generalize we.heap.size = g at *
   have t2:=hT.cell 2
   simp only [List.getElem?_cons_succ,List.getElem?_cons_zero] at t2
   have HT:=Hd hT;have HE2:=Hd hE2;have HZ:=Hd hz;have HB:=Hd hbw;have HS:=Hd hsW;clear hT hE2 hz hbw hsW hk
   repeat still_step
   refine wpStill_nil ?_
   have hT:=HT.out;have hE2:=HE2.out;clear t2 HT HE2
   refine wpList_copy_splice rfl _ _ _ _ rfl 3 Tryz.underlying56 (by kernel_rfl) _ _ _ _ _ _ rfl rfl g 4 [.int .i64 a.fr,.int .i64 b.to,.int .i64 2,.int .i64 m1,.int .i64 0,.int .i64 0,.int .i64 0] 82 hT [.int .i64 m2] rfl (fun _ => ⟨rfl,⟨blk,2,none⟩,rfl,fun j v hj => by rw [add_at];exact (hE2.cell (2 + j)).trans ((List.getElem?_drop (xs:=([.int .i64 m0,.int .i64 m1,.int .i64 m2] : List Value)) (i:=2)).symm.trans hj)⟩) (by simp) (by intro v hv;rw [List.mem_singleton] at hv;subst hv;rfl) g W (Below.refl _ _) (Nat.le_refl _) ?_
   intro w8 hg8 hb8
   have hT8 : HoldsM w8 g 82 ⟨a.fr,b.to,2,m1,m2,0,0⟩:=hg8.out
   have hz8 : HoldsM w8 (w.heap.size + 1 + 1) 82 Sm.zero:=Row.below HZ.out hb8 HZL.out
   have hbw:=HB.out.trans (hb8.mono (by have:=HZL.out;omega))
   clear hT hE2 hg8 hb8 HZ HB
   obtain ⟨a0,a1,a2,a3,a4,a5,a6⟩:=hT8.cells7
   simp only at a0 a1 a2 a3 a4 a5 a6
   have HT:=Hd hT8;have HZ:=Hd hz8;have HB:=Hd hbw;clear hT8 hz8 hbw
   go_wp2_with fail
   refine (R3.out _).mono ?_;rintro e w9 ⟨rfl,hb9⟩
   dsimp only
   have hT9:=HT.out.below hb9;have hz9:=HZ.out.below hb9;have hbw:=HB.out.trans (hb9.mono HB.out.size)
   clear a0 a1 a2 a3 a4 a5 a6 HT HZ HB hb9
   obtain ⟨a0,a1,a2,a3,a4,a5,a6⟩:=hT9.cells7
   simp only at a0 a1 a2 a3 a4 a5 a6
   obtain ⟨z0,z1,z2,z3,z4,z5,z6⟩:=hz9.cells7
   obtain ⟨f0,f1,f2,f3,f4,f5,f6⟩:=hz9.free7
   have HZ:=Hd hz9;have HB:=Hd hbw;clear hT9 hz9 hbw
   cases B with
   | true =>
     go_wp2_with fail
     refine bodyPost_ret (v:=.tuple #[Sm.v ⟨a.fr,b.to,2,m1,m2,0,0⟩,.bool true]) (two_results rfl _ _ _ 82 _ (0,0) _ rfl (row_set7 HZ.out) Tryz.underlying82 rfl (by kernel_rfl) rfl) rfl ?_
     exact ⟨rfl,below_set7 HB.out (by omega)⟩
   | false =>
     go_wp2_with fail
     refine bodyPost_ret (v:=.tuple #[Sm.v Sm.zero,.bool false]) (two_results rfl _ _ _ 82 _ (0,0) _ rfl (row_set7 HZ.out) Tryz.underlying82 rfl (by kernel_rfl) rfl) rfl ?_
     exact ⟨rfl,below_set7 HB.out (by omega)⟩
set_option maxHeartbeats 4000000 in
theorem then_13 (a b : Sm) (w : World) (p0 p1 p2 m0 m1 m2 : Int) (B : Bool) (h : a.R) (h2 : b.R) (hd : a.to = b.fr) (hk : ¬ b.kp < a.kp) (hK : a.kp = 3)
 (ca : ∀ w,Calls Tryz.prog 87 #[a.v,.agg #[.int .i64 0,.int .i64 0,.int .i64 0]] w fun e w' => e = .returned (.agg #[.int .i64 p0,.int .i64 p1,.int .i64 p2]) ∧ Below w.heap.size w w')
 (cb : ∀ w,Calls Tryz.prog 87 #[b.v,.agg #[.int .i64 p0,.int .i64 p1,.int .i64 p2]] w fun e w' => e = .returned (.agg #[.int .i64 m0,.int .i64 m1,.int .i64 m2]) ∧ Below w.heap.size w w')
 (r3 : ∀ w,Calls Tryz.prog 86 #[(⟨a.fr,b.to,3,m2,0,0,0⟩ : Sm).v] w fun e w' => e = .returned (.bool B) ∧ Below w.heap.size w w') :
 Calls Tryz.prog 46 #[a.v,b.v] w fun e w' => e = .returned (.tuple #[if B then (⟨a.fr,b.to,3,m2,0,0,0⟩ : Sm).v else Sm.zero.v,.bool B]) ∧ Below w.heap.size w w':=by
 have h3:=Tri2.made w 82 a b
 have hbw:=ba3 w a b 82
 have H3:=Hd h3;have HB:=Hd hbw;clear h3 hbw
 have r1:=fun w => rightM_true h w
 have r2:=fun w => rightM_true h2 w
 have hn : (a.to != b.fr) = false:=by simpa using hd
 have R1:=Hd r1;have R2:=Hd r2;have CA:=Hd ca;have CB:=Hd cb;clear r1 r2 ca cb
 clear h h2 hd
 have R3:=Hd r3;clear r3
 have HK:=Hd hK;have HKK:=Hd hk;clear hK hk
 unfold Sm.v at *
 go_enter Tryz.func46,Tryz.ntmps46
 go_wp2_with fail
 refine (R1.out _).mono ?_;rintro e w2 ⟨rfl,hb2⟩
 have k3:=H3.out.below hb2
 have kb:=HB.out.trans (hb2.mono HB.out.size);clear H3 HB
 have H3:=Hd k3;have HB:=Hd kb;clear k3 kb hb2
 obtain ⟨a0,a1,a2,a3,a4,a5,a6⟩:=H3.out.1.cells7
 obtain ⟨b0,b1,b2,b3,b4,b5,b6⟩:=H3.out.2.1.cells7
 go_wp2_with fail
 clear a0 a1 a2 a3 a4 a5 a6 b0 b1 b2 b3 b4 b5 b6
 refine (R2.out _).mono ?_;rintro e w3 ⟨rfl,hb3⟩
 have k3:=H3.out.below hb3
 have kb:=HB.out.trans (hb3.mono HB.out.size);clear H3 HB
 have H3:=Hd k3;have HB:=Hd kb;clear k3 kb hb3
 obtain ⟨a0,a1,a2,a3,a4,a5,a6⟩:=H3.out.1.cells7
 obtain ⟨b0,b1,b2,b3,b4,b5,b6⟩:=H3.out.2.1.cells7
 go_wp2_with fail
 clear a0 a1 a2 a3 a4 a5 a6 b0 b1 b2 b3 b4 b5 b6
 clear hn R1 R2
 refine Free.wp_key (by kernel_rfl) (by kernel_rfl) (PutF w3 5 6 126 [.int .i64 0,.int .i64 0,.int .i64 0] [.int .i64 m0,.int .i64 m1,.int .i64 m2]) (ThV a b p0 p1 p2 m0 m1 m2) (fun vs => PutF.start 7 (by decide) (by decide) _ _ _ _ vs) ?_ ?_
 · intro i o hi bz vs az wa hold hpre hbi hF
   match i with
   | 0 =>
     cases hi
     exact Free.c_all rfl (Free.g_load _ _ rfl ((hold 3 (by decide)).trans rfl) (load_m H3.out.2.1 wa hF.1) ⟨rfl,hF.keep (Below.refl _ _) (by decide) (by decide)⟩)
   | 1 =>
     cases hi
     exact Free.c_all rfl (Free.g_load _ _ rfl ((hold 2 (by decide)).trans rfl) (load_m H3.out.1 wa hF.1) ⟨rfl,hF.keep (Below.refl _ _) (by decide) (by decide)⟩)
   | 2 =>
     cases hi
     exact Free.c_all rfl (Free.g_build _ _ rfl #[.int .i64 0,.int .i64 0,.int .i64 0] [] rfl (by kernel_rfl) ⟨rfl,hF.keep (Below.refl _ _) (by decide) (by decide)⟩)
   | 3 =>
     cases hi
     have h0 : az.eval (.tmp 25) = .agg #[.int .i64 a.fr,.int .i64 a.to,.int .i64 a.kp,.int .i64 a.ad,.int .i64 a.t0,.int .i64 a.t1,.int .i64 a.t2]:=(hpre 1 _ _ (by kernel_rfl) rfl rfl).2.2
     have h1 : az.eval (.tmp 26) = .agg #[.int .i64 0,.int .i64 0,.int .i64 0]:=(hpre 2 _ _ (by kernel_rfl) rfl rfl).2.2
     refine Free.c_all rfl (Free.g_call _ _ rfl Tryz.func87 (by kernel_rfl) rfl [.agg #[.int .i64 a.fr,.int .i64 a.to,.int .i64 a.kp,.int .i64 a.ad,.int .i64 a.t0,.int .i64 a.t1,.int .i64 a.t2],.agg #[.int .i64 0,.int .i64 0,.int .i64 0]] (by show [az.eval (.tmp 25),az.eval (.tmp 26)] = _;rw [h0,h1]) ?_)
     exact ((fun wa _ => CA.out wa) wa hF.1).mono fun e w2 ⟨he,hb2⟩ => ⟨_,he,rfl,hF.keep hb2 (by decide) (by decide)⟩
   | 4 =>
     cases hi
     have h0 : az.eval (.tmp 24) = .agg #[.int .i64 b.fr,.int .i64 b.to,.int .i64 b.kp,.int .i64 b.ad,.int .i64 b.t0,.int .i64 b.t1,.int .i64 b.t2]:=(hpre 0 _ _ (by kernel_rfl) rfl rfl).2.2
     have h1 : az.eval (.tmp 27) = .agg #[.int .i64 p0,.int .i64 p1,.int .i64 p2]:=(hpre 3 _ _ (by kernel_rfl) rfl rfl).2.2
     refine Free.c_all rfl (Free.g_call _ _ rfl Tryz.func87 (by kernel_rfl) rfl [.agg #[.int .i64 b.fr,.int .i64 b.to,.int .i64 b.kp,.int .i64 b.ad,.int .i64 b.t0,.int .i64 b.t1,.int .i64 b.t2],.agg #[.int .i64 p0,.int .i64 p1,.int .i64 p2]] (by show [az.eval (.tmp 24),az.eval (.tmp 27)] = _;rw [h0,h1]) ?_)
     exact ((fun wa _ => CB.out wa) wa hF.1).mono fun e w2 ⟨he,hb2⟩ => ⟨_,he,rfl,hF.keep hb2 (by decide) (by decide)⟩
   | 5 =>
     cases hi
     refine Free.c_all rfl ?_
     unfold execOp
     go_simp
     exact ⟨trivial,hF.alloc (by decide) hbi⟩
   | 6 =>
     cases hi
     have hq:=id (hpre (5) _ _ (by kernel_rfl) rfl rfl)
     have hx : az.eval (.tmp 28) = .agg #[.int .i64 m0,.int .i64 m1,.int .i64 m2]:=(hpre 4 _ _ (by kernel_rfl) rfl rfl).2.2
     obtain ⟨blk,hblk,hle,hrow⟩:=hF.row hq.1 hbi
     have hp : az.eval (.tmp 6) = .pointer (some ⟨blk,0,none⟩):=hq.2.1.trans hblk
     have hc0:=hrow.cell 0;have hf0:=hrow.free 0
     have hc1:=hrow.cell 1;have hf1:=hrow.free 1
     have hc2:=hrow.cell 2;have hf2:=hrow.free 2
     simp only [List.getElem?_cons_succ,List.getElem?_cons_zero] at hc0 hc1 hc2
     refine Free.c_all rfl ?_
     unfold execOp
     simp only [hp,hx]
     go_simp
     exact ⟨rfl,hF.store (by decide) hq.1 hblk hle (row_set3 hrow) (((hF.1.setCell hle _).setCell hle _).setCell hle _)⟩
   | _ + 7 => cases hi
 · intro vs we hv hF
   obtain ⟨hbE,blk,hblk,hle,hrowE⟩:=hF.done
   clear hF
   clear hv
   simp only [Free.puts,Nat.reduceAdd,hblk]
   clear hblk
   generalize vs 0 = y0
   generalize vs 1 = y1
   generalize vs 2 = y2
   generalize vs 3 = y3
   generalize vs 4 = y4
   generalize vs 6 = y6
   clear vs
   go_simp
   have h3:=H3.out.below hbE;have hbw:=HB.out.trans (hbE.mono HB.out.size)
   have hlt3 : w.heap.size + 1 + 1 < w3.heap.size:=H3.out.2.2.lt
   clear H3 HB hbE CA CB
   obtain ⟨c0,c1,c2⟩:=row_c3 hrowE
   obtain ⟨f0,f1,f2⟩:=row_f3 hrowE
   have hbl:=Row.lt hrowE
   obtain ⟨a0,a1,a2,a3,a4,a5,a6⟩:=h3.1.cells7
   obtain ⟨b0,b1,b2,b3,b4,b5,b6⟩:=h3.2.1.cells7
   rw [HK.out] at a2
   have hk:=HKK.out
   rw [HK.out] at hk
   have hmin : min 3 b.kp = 3:=by omega
   have H3:=Hd h3;have HB:=Hd hbw;have HE:=Hd hrowE;have HL:=Hd (And.intro hle hlt3);clear h3 hbw hrowE hle hlt3 HKK
   go_wp2_with fail
   refine wp_tail 5 (by kernel_rfl) (by kernel_rfl) ?_
   simp only [List.take_succ_cons,List.take_zero,List.drop_succ_cons,List.drop_zero]
   clear a0 a1 a2 a3 a4 a5 a6 b0 b1 b2 b3 b4 b5 b6 c0 c1 c2 f0 f1 f2
   have hT : Row ((we.alloc (.cells #[.int .i64 a.fr,.int .i64 b.to,.int .i64 3,.int .i64 m2,.int .i64 0,.int .i64 0,.int .i64 0] 82)).drewN 1) we.heap.size 82 [.int .i64 a.fr,.int .i64 b.to,.int .i64 3,.int .i64 m2,.int .i64 0,.int .i64 0,.int .i64 0]:=(Row.made we 82 [.int .i64 a.fr,.int .i64 b.to,.int .i64 3,.int .i64 m2,.int .i64 0,.int .i64 0,.int .i64 0]).drewN 1
   have hE2 : Row ((we.alloc (.cells #[.int .i64 a.fr,.int .i64 b.to,.int .i64 3,.int .i64 m2,.int .i64 0,.int .i64 0,.int .i64 0] 82)).drewN 1) blk 126 [.int .i64 m0,.int .i64 m1,.int .i64 m2]:=(HE.out.alloc _).drewN 1
   have hz : HoldsM ((we.alloc (.cells #[.int .i64 a.fr,.int .i64 b.to,.int .i64 3,.int .i64 m2,.int .i64 0,.int .i64 0,.int .i64 0] 82)).drewN 1) (w.heap.size + 1 + 1) 82 Sm.zero:=(Row.alloc H3.out.2.2 _).drewN 1
   have hbw:=below_drewN (HB.out.alloc HB.out.size (.cells #[.int .i64 a.fr,.int .i64 b.to,.int .i64 3,.int .i64 m2,.int .i64 0,.int .i64 0,.int .i64 0] 82)) 1
   have hzl : w.heap.size + 1 + 1 < we.heap.size:=H3.out.2.2.lt
   have hsW : ((we.alloc (.cells #[.int .i64 a.fr,.int .i64 b.to,.int .i64 3,.int .i64 m2,.int .i64 0,.int .i64 0,.int .i64 0] 82)).drewN 1).heap.size = we.heap.size + 1:=by simp
   have HZL:=Hd hzl;clear hzl HE H3 HB hbl
   generalize (we.alloc (.cells #[.int .i64 a.fr,.int .i64 b.to,.int .i64 3,.int .i64 m2,.int .i64 0,.int .i64 0,.int .i64 0] 82)).drewN 1 = W at *
   generalize we.heap.size = g at *
   have t2:=hT.cell 2
   simp only [List.getElem?_cons_succ,List.getElem?_cons_zero] at t2
   have HT:=Hd hT;have HE2:=Hd hE2;have HZ:=Hd hz;have HB:=Hd hbw;have HS:=Hd hsW;clear hT hE2 hz hbw hsW hk
   repeat still_step
   refine wpStill_nil ?_
   have hT:=HT.out;have hE2:=HE2.out;clear t2 HT HE2
   refine wpList_copy_splice rfl _ _ _ _ rfl 3 Tryz.underlying56 (by kernel_rfl) _ _ _ _ _ _ rfl rfl g 4 [.int .i64 a.fr,.int .i64 b.to,.int .i64 3,.int .i64 m2,.int .i64 0,.int .i64 0,.int .i64 0] 82 hT [] rfl (fun hh => absurd hh (by simp)) (by simp) (by intro v hv;cases hv) g W (Below.refl _ _) (Nat.le_refl _) ?_
   intro w8 hg8 hb8
   have hT8 : HoldsM w8 g 82 ⟨a.fr,b.to,3,m2,0,0,0⟩:=hg8.out
   have hz8 : HoldsM w8 (w.heap.size + 1 + 1) 82 Sm.zero:=Row.below HZ.out hb8 HZL.out
   have hbw:=HB.out.trans (hb8.mono (by have:=HZL.out;omega))
   clear hT hE2 hg8 hb8 HZ HB
   obtain ⟨a0,a1,a2,a3,a4,a5,a6⟩:=hT8.cells7
   simp only at a0 a1 a2 a3 a4 a5 a6
   have HT:=Hd hT8;have HZ:=Hd hz8;have HB:=Hd hbw;clear hT8 hz8 hbw
   go_wp2_with fail
   refine (R3.out _).mono ?_;rintro e w9 ⟨rfl,hb9⟩
   dsimp only
   have hT9:=HT.out.below hb9;have hz9:=HZ.out.below hb9;have hbw:=HB.out.trans (hb9.mono HB.out.size)
   clear a0 a1 a2 a3 a4 a5 a6 HT HZ HB hb9
   obtain ⟨a0,a1,a2,a3,a4,a5,a6⟩:=hT9.cells7
   simp only at a0 a1 a2 a3 a4 a5 a6
   obtain ⟨z0,z1,z2,z3,z4,z5,z6⟩:=hz9.cells7
   obtain ⟨f0,f1,f2,f3,f4,f5,f6⟩:=hz9.free7
   have HZ:=Hd hz9;have HB:=Hd hbw;clear hT9 hz9 hbw
   cases B with
   | true =>
     go_wp2_with fail
     refine bodyPost_ret (v:=.tuple #[Sm.v ⟨a.fr,b.to,3,m2,0,0,0⟩,.bool true]) (two_results rfl _ _ _ 82 _ (0,0) _ rfl (row_set7 HZ.out) Tryz.underlying82 rfl (by kernel_rfl) rfl) rfl ?_
     exact ⟨rfl,below_set7 HB.out (by omega)⟩
   | false =>
     go_wp2_with fail
     refine bodyPost_ret (v:=.tuple #[Sm.v Sm.zero,.bool false]) (two_results rfl _ _ _ 82 _ (0,0) _ rfl (row_set7 HZ.out) Tryz.underlying82 rfl (by kernel_rfl) rfl) rfl ?_
     exact ⟨rfl,below_set7 HB.out (by omega)⟩
theorem th_res (a b : Sm) : (if a.thB b then (a.seq b).v else Sm.zero.v) = (a.th b).v:=by
 by_cases h : a.thenOk b
 · rw [(Sm.th_yes h).1,(Sm.th_yes h).2];rfl
 · rw [(Sm.th_no h).1,(Sm.th_no h).2];rfl
theorem then_D (a b : Sm) (w : World) (h : a.R) (h2 : b.R) (hd : a.to = b.fr) : Calls Tryz.prog 46 #[a.v,b.v] w fun e w' => e = .returned (.tuple #[(a.th b).v,.bool (a.thB b)]) ∧ Below w.heap.size w w':=by
 have b0:=Sm.al_b h 0;have b1:=Sm.al_b h 1;have b2:=Sm.al_b h 2
 have ca:=fun w => along_any a 0 0 0 w h (by omega) (by omega) (by omega)
 have cb:=fun w => along_any b (a.al 0 0) (a.al 1 0) (a.al 2 0) w h2 b0 b1 b2
 rw [Sm.al_al h h2 hd 0,Sm.al_al h h2 hd 1,Sm.al_al h h2 hd 2] at cb
 have r3:=fun w => rightM_any (a.seq b) w
 rw [show decide (a.seq b).R = a.thB b from decide_eq_decide.2 (Sm.seq_ok h h2 hd)] at r3
 have m3 : a.M b 3 = 0:=Sm.M_out (by unfold Sm.R at h2;omega)
 have m4 : a.M b 4 = 0:=Sm.M_out (by unfold Sm.R at h2;omega)
 have m5 : a.M b 5 = 0:=Sm.M_out (by unfold Sm.R at h2;omega)
 rw [← th_res]
 by_cases hk : b.kp < a.kp
 · have hK : b.kp = 0 ∨ b.kp = 1 ∨ b.kp = 2:=by unfold Sm.R at h h2;omega
   rcases hK with hK | hK | hK
   · have hm : min a.kp b.kp = 0:=by omega
     have hs : a.seq b = ⟨a.fr,b.to,0,0,a.M b 0,a.M b 1,a.M b 2⟩:=by unfold Sm.seq;rw [hm];simp [m3,m4,m5]
     rw [hs] at r3 ⊢
     exact then_00 a b w _ _ _ _ _ _ _ h h2 hd hk hK ca cb r3
   · have hm : min a.kp b.kp = 1:=by omega
     have hs : a.seq b = ⟨a.fr,b.to,1,a.M b 0,a.M b 1,a.M b 2,0⟩:=by unfold Sm.seq;rw [hm];simp [m3,m4,m5]
     rw [hs] at r3 ⊢
     exact then_01 a b w _ _ _ _ _ _ _ h h2 hd hk hK ca cb r3
   · have hm : min a.kp b.kp = 2:=by omega
     have hs : a.seq b = ⟨a.fr,b.to,2,a.M b 1,a.M b 2,0,0⟩:=by unfold Sm.seq;rw [hm];simp [m3,m4,m5]
     rw [hs] at r3 ⊢
     exact then_02 a b w _ _ _ _ _ _ _ h h2 hd hk hK ca cb r3
 · have hK : a.kp = 0 ∨ a.kp = 1 ∨ a.kp = 2 ∨ a.kp = 3:=by unfold Sm.R at h;omega
   rcases hK with hK | hK | hK | hK
   · have hm : min a.kp b.kp = 0:=by omega
     have hs : a.seq b = ⟨a.fr,b.to,0,0,a.M b 0,a.M b 1,a.M b 2⟩:=by unfold Sm.seq;rw [hm];simp [m3,m4,m5]
     rw [hs] at r3 ⊢
     exact then_10 a b w _ _ _ _ _ _ _ h h2 hd hk hK ca cb r3
   · have hm : min a.kp b.kp = 1:=by omega
     have hs : a.seq b = ⟨a.fr,b.to,1,a.M b 0,a.M b 1,a.M b 2,0⟩:=by unfold Sm.seq;rw [hm];simp [m3,m4,m5]
     rw [hs] at r3 ⊢
     exact then_11 a b w _ _ _ _ _ _ _ h h2 hd hk hK ca cb r3
   · have hm : min a.kp b.kp = 2:=by omega
     have hs : a.seq b = ⟨a.fr,b.to,2,a.M b 1,a.M b 2,0,0⟩:=by unfold Sm.seq;rw [hm];simp [m3,m4,m5]
     rw [hs] at r3 ⊢
     exact then_12 a b w _ _ _ _ _ _ _ h h2 hd hk hK ca cb r3
   · have hm : min a.kp b.kp = 3:=by omega
     have hs : a.seq b = ⟨a.fr,b.to,3,a.M b 2,0,0,0⟩:=by unfold Sm.seq;rw [hm];simp [m3,m4,m5]
     rw [hs] at r3 ⊢
     exact then_13 a b w _ _ _ _ _ _ _ h h2 hd hk hK ca cb r3
theorem then_any (a b : Sm) (w : World) : Calls Tryz.prog 46 #[a.v,b.v] w fun e w' => e = .returned (.tuple #[(a.th b).v,.bool (a.thB b)]) ∧ Below w.heap.size w w':=by
 by_cases h : a.R
 · by_cases h2 : b.R
   · by_cases hd : a.to = b.fr
     · exact then_D a b w h h2 hd
     · exact then_C a b w h h2 hd
   · exact then_B a b w h h2
 · exact then_A a b w h
end
end Go.Proofs.YtonelpnhoiajgaaGreatDoor
