import Derived.Test.YtonelpnhoiajgaaGreatDoorHd
import Derived.Test.YtonelpnhoiajgaaGreatDoorCa3
import Derived.Test.YtonelpnhoiajgaaGreatDoorCa16
import Derived.Deep.QuietTactic
import Derived.BigQuiet
import Derived.Test.YtonelpnhoiajgaaGreatDoorCa2
import Derived.Maps.AppendAt
namespace Go.Proofs.YtonelpnhoiajgaaGreatDoor
set_option linter.unusedSimpArgs false
set_option maxRecDepth 100000
open Go.ChangeShapes Go.WideShapes Go.ChangeAt Go.RowKit Go.BigFrame
set_option linter.unusedVariables false
section
set_option maxHeartbeats 4000000 in
theorem step_any (t : St) (w : World) : Calls Tryz.prog 124 #[t.val] w fun e w' => e = .returned (.tuple #[(ov t.round).val,.bool t.round.isSome]) ∧ Below w.heap.size w w':=by
 have hn : ¬ t.R → t.round = none:=fun h => by unfold St.round;rw [if_neg (fun hc => h hc.1)]
 by_cases hR : t.R
 · have HR:=Hd (right_is (decide_eq_true hR) (right_any t))
   have hRd : t.R:=hR
   have hd : t.d = 0 ∨ t.d = 1 ∨ t.d = 2 ∨ t.d = 3:=by unfold St.R at hRd;omega
   have HRt:=Hd hRd
   clear hR hRd hn
   obtain ⟨d,e,x,y,z⟩:=t
   unfold St.val at *
   simp only at hd HR ⊢
   rcases hd with rfl | rfl | rfl | rfl
   · have hv : St.round ⟨0,e,x,y,z⟩ = none:=by unfold St.round;exact if_neg (by simp)
     rw [hv];clear hv HRt
     unfold ov
     simp only [Option.getD_none,Option.getD_some,Option.isSome_none,Option.isSome_some,zero_val]
     have hz:=zero_made (w.alloc (.cells #[.int .i64 0,.int .i64 e,.int .i64 x,.int .i64 y,.int .i64 z] 27))
     rw [size_alloc] at hz
     have hy:=(Holds.made w ⟨0,e,x,y,z⟩).alloc (.cells #[.int .i64 0,.int .i64 0,.int .i64 0,.int .i64 0,.int .i64 0] 27)
     have HZ:=Hd hz;have HY:=Hd hy;clear hz hy
     go_enter Tryz.func124,Tryz.ntmps124
     go_wp2_with fail
     refine (HR.out _).mono ?_;rintro e1 w1 ⟨rfl,hb1⟩
     have h2:=HZ.out.below hb1
     have h1:=HY.out.below hb1
     have hbw:=stBelow2 hb1
     obtain ⟨f0,f1,f2,f3,f4⟩:=h2.free5
     obtain ⟨c0,c1,c2,c3,c4⟩:=h2.cells5
     obtain ⟨d0,d1,d2,d3,d4⟩:=h1.cells5
     obtain ⟨g0,g1,g2,g3,g4⟩:=h1.free5
     simp only at d0 d1 d2 d3 d4
     have H1:=Hd h1;have H2:=Hd h2;have HB:=Hd hbw;clear h1 h2 hb1 hbw HY HZ
     go_wp2_with fail
     refine bodyPost_ret (v:=.tuple #[.agg #[.int .i64 0,.int .i64 0,.int .i64 0,.int .i64 0,.int .i64 0],.bool false]) (two_results rfl _ _ _ 27 _ (0,0) _ rfl (Holds.all (H2.out) _ _ _ _ _) Tryz.underlying27 rfl (by kernel_rfl) rfl) rfl ?_
     exact ⟨rfl,below_set5 (g:=w.heap.size + 1) (HB.out) (by omega)⟩
   · have hb0 : 0 ≤ x ∧ x < 16:=by have hr:=HRt.out;unfold St.R at hr;simp only at hr;omega
     obtain ⟨hv0,hv1⟩:=hb0
     by_cases hl : x + 1 < 16
     · have hv : St.round ⟨1,e,x,y,z⟩ = some ⟨1,e,x + 1,y,z⟩:=by have hr:=HRt.out;unfold St.round;rw [if_pos ⟨hr,by simp,by simpa [St.last] using hl⟩];rfl
       have HR2:=Hd (right_is (t:=⟨1,e,x + 1,y,z⟩) (b:=true) (by rw [decide_eq_true_iff];have hr:=HRt.out;unfold St.R at hr ⊢;simp only at hr ⊢;omega) (right_any _))
       unfold St.val at HR2
       simp only at HR2
       rw [hv];clear hv HRt
       unfold ov
       simp only [Option.getD_none,Option.getD_some,Option.isSome_none,Option.isSome_some,zero_val]
       have hz:=zero_made (w.alloc (.cells #[.int .i64 1,.int .i64 e,.int .i64 x,.int .i64 y,.int .i64 z] 27))
       rw [size_alloc] at hz
       have hy:=(Holds.made w ⟨1,e,x,y,z⟩).alloc (.cells #[.int .i64 0,.int .i64 0,.int .i64 0,.int .i64 0,.int .i64 0] 27)
       have HZ:=Hd hz;have HY:=Hd hy;clear hz hy
       go_enter Tryz.func124,Tryz.ntmps124
       go_wp2_with fail
       refine (HR.out _).mono ?_;rintro e1 w1 ⟨rfl,hb1⟩
       have h2:=HZ.out.below hb1
       have h1:=HY.out.below hb1
       have hbw:=stBelow2 hb1
       obtain ⟨f0,f1,f2,f3,f4⟩:=h2.free5
       obtain ⟨c0,c1,c2,c3,c4⟩:=h2.cells5
       obtain ⟨d0,d1,d2,d3,d4⟩:=h1.cells5
       obtain ⟨g0,g1,g2,g3,g4⟩:=h1.free5
       simp only at d0 d1 d2 d3 d4
       have H1:=Hd h1;have H2:=Hd h2;have HB:=Hd hbw;clear h1 h2 hb1 hbw HY HZ
       go_wp2_with fail
       have ht:=H1.out.set 2 (x + 1) (t':=⟨1,e,x + 1,y,z⟩) (by simp)
       have hz2:=H2.out.far (p:=⟨w.heap.size,2,none⟩) (by simp) (.int .i64 (x + 1))
       have hb3:=HB.out.setCell (p:=⟨w.heap.size,2,none⟩) (by simp) (.int .i64 (x + 1))
       refine (HR2.out _).mono ?_;rintro e2 w3 ⟨rfl,hb4⟩
       have h5:=hz2.below hb4
       have h6:=ht.below hb4
       have hb5:=hb3.trans (hb4.mono hb3.size)
       clear f0 f1 f2 f3 f4 c0 c1 c2 c3 c4 d0 d1 d2 d3 d4 g0 g1 g2 g3 g4
       obtain ⟨f0,f1,f2,f3,f4⟩:=h5.free5
       obtain ⟨c0,c1,c2,c3,c4⟩:=h5.cells5
       obtain ⟨d0,d1,d2,d3,d4⟩:=h6.cells5
       simp only at d0 d1 d2 d3 d4
       have H5:=Hd h5;have HB5:=Hd hb5;clear h5 h6 hb5 hb4 hb3 ht hz2
       go_wp2_with fail
       refine bodyPost_ret (v:=.tuple #[.agg #[.int .i64 1,.int .i64 e,.int .i64 (x + 1),.int .i64 y,.int .i64 z],.bool true]) (two_results rfl _ _ _ 27 _ (0,0) _ rfl (Holds.all (H5.out) _ _ _ _ _) Tryz.underlying27 rfl (by kernel_rfl) rfl) rfl ?_
       exact ⟨rfl,below_set5 (g:=w.heap.size + 1) (HB5.out) (by omega)⟩
     · have hv : St.round ⟨1,e,x,y,z⟩ = none:=by unfold St.round;exact if_neg (by simp [St.last];omega)
       have HR2:=Hd (right_is (t:=⟨1,e,x + 1,y,z⟩) (b:=false) (by rw [decide_eq_false_iff_not];unfold St.R;simp only;omega) (right_any _))
       unfold St.val at HR2
       simp only at HR2
       rw [hv];clear hv HRt
       unfold ov
       simp only [Option.getD_none,Option.getD_some,Option.isSome_none,Option.isSome_some,zero_val]
       have hz:=zero_made (w.alloc (.cells #[.int .i64 1,.int .i64 e,.int .i64 x,.int .i64 y,.int .i64 z] 27))
       rw [size_alloc] at hz
       have hy:=(Holds.made w ⟨1,e,x,y,z⟩).alloc (.cells #[.int .i64 0,.int .i64 0,.int .i64 0,.int .i64 0,.int .i64 0] 27)
       have HZ:=Hd hz;have HY:=Hd hy;clear hz hy
       go_enter Tryz.func124,Tryz.ntmps124
       go_wp2_with fail
       refine (HR.out _).mono ?_;rintro e1 w1 ⟨rfl,hb1⟩
       have h2:=HZ.out.below hb1
       have h1:=HY.out.below hb1
       have hbw:=stBelow2 hb1
       obtain ⟨f0,f1,f2,f3,f4⟩:=h2.free5
       obtain ⟨c0,c1,c2,c3,c4⟩:=h2.cells5
       obtain ⟨d0,d1,d2,d3,d4⟩:=h1.cells5
       obtain ⟨g0,g1,g2,g3,g4⟩:=h1.free5
       simp only at d0 d1 d2 d3 d4
       have H1:=Hd h1;have H2:=Hd h2;have HB:=Hd hbw;clear h1 h2 hb1 hbw HY HZ
       go_wp2_with fail
       have ht:=H1.out.set 2 (x + 1) (t':=⟨1,e,x + 1,y,z⟩) (by simp)
       have hz2:=H2.out.far (p:=⟨w.heap.size,2,none⟩) (by simp) (.int .i64 (x + 1))
       have hb3:=HB.out.setCell (p:=⟨w.heap.size,2,none⟩) (by simp) (.int .i64 (x + 1))
       refine (HR2.out _).mono ?_;rintro e2 w3 ⟨rfl,hb4⟩
       have h5:=hz2.below hb4
       have h6:=ht.below hb4
       have hb5:=hb3.trans (hb4.mono hb3.size)
       clear f0 f1 f2 f3 f4 c0 c1 c2 c3 c4 d0 d1 d2 d3 d4 g0 g1 g2 g3 g4
       obtain ⟨f0,f1,f2,f3,f4⟩:=h5.free5
       obtain ⟨c0,c1,c2,c3,c4⟩:=h5.cells5
       obtain ⟨d0,d1,d2,d3,d4⟩:=h6.cells5
       simp only at d0 d1 d2 d3 d4
       have H5:=Hd h5;have HB5:=Hd hb5;clear h5 h6 hb5 hb4 hb3 ht hz2
       go_wp2_with fail
       refine bodyPost_ret (v:=.tuple #[.agg #[.int .i64 0,.int .i64 0,.int .i64 0,.int .i64 0,.int .i64 0],.bool false]) (two_results rfl _ _ _ 27 _ (0,0) _ rfl (Holds.all (H5.out) _ _ _ _ _) Tryz.underlying27 rfl (by kernel_rfl) rfl) rfl ?_
       exact ⟨rfl,below_set5 (g:=w.heap.size + 1) (HB5.out) (by omega)⟩
   · have hb0 : 0 ≤ y ∧ y < 16:=by have hr:=HRt.out;unfold St.R at hr;simp only at hr;omega
     obtain ⟨hv0,hv1⟩:=hb0
     by_cases hl : y + 1 < 16
     · have hv : St.round ⟨2,e,x,y,z⟩ = some ⟨2,e,x,y + 1,z⟩:=by have hr:=HRt.out;unfold St.round;rw [if_pos ⟨hr,by simp,by simpa [St.last] using hl⟩];rfl
       have HR2:=Hd (right_is (t:=⟨2,e,x,y + 1,z⟩) (b:=true) (by rw [decide_eq_true_iff];have hr:=HRt.out;unfold St.R at hr ⊢;simp only at hr ⊢;omega) (right_any _))
       unfold St.val at HR2
       simp only at HR2
       rw [hv];clear hv HRt
       unfold ov
       simp only [Option.getD_none,Option.getD_some,Option.isSome_none,Option.isSome_some,zero_val]
       have hz:=zero_made (w.alloc (.cells #[.int .i64 2,.int .i64 e,.int .i64 x,.int .i64 y,.int .i64 z] 27))
       rw [size_alloc] at hz
       have hy:=(Holds.made w ⟨2,e,x,y,z⟩).alloc (.cells #[.int .i64 0,.int .i64 0,.int .i64 0,.int .i64 0,.int .i64 0] 27)
       have HZ:=Hd hz;have HY:=Hd hy;clear hz hy
       go_enter Tryz.func124,Tryz.ntmps124
       go_wp2_with fail
       refine (HR.out _).mono ?_;rintro e1 w1 ⟨rfl,hb1⟩
       have h2:=HZ.out.below hb1
       have h1:=HY.out.below hb1
       have hbw:=stBelow2 hb1
       obtain ⟨f0,f1,f2,f3,f4⟩:=h2.free5
       obtain ⟨c0,c1,c2,c3,c4⟩:=h2.cells5
       obtain ⟨d0,d1,d2,d3,d4⟩:=h1.cells5
       obtain ⟨g0,g1,g2,g3,g4⟩:=h1.free5
       simp only at d0 d1 d2 d3 d4
       have H1:=Hd h1;have H2:=Hd h2;have HB:=Hd hbw;clear h1 h2 hb1 hbw HY HZ
       go_wp2_with fail
       have ht:=H1.out.set 3 (y + 1) (t':=⟨2,e,x,y + 1,z⟩) (by simp)
       have hz2:=H2.out.far (p:=⟨w.heap.size,3,none⟩) (by simp) (.int .i64 (y + 1))
       have hb3:=HB.out.setCell (p:=⟨w.heap.size,3,none⟩) (by simp) (.int .i64 (y + 1))
       refine (HR2.out _).mono ?_;rintro e2 w3 ⟨rfl,hb4⟩
       have h5:=hz2.below hb4
       have h6:=ht.below hb4
       have hb5:=hb3.trans (hb4.mono hb3.size)
       clear f0 f1 f2 f3 f4 c0 c1 c2 c3 c4 d0 d1 d2 d3 d4 g0 g1 g2 g3 g4
       obtain ⟨f0,f1,f2,f3,f4⟩:=h5.free5
       obtain ⟨c0,c1,c2,c3,c4⟩:=h5.cells5
       obtain ⟨d0,d1,d2,d3,d4⟩:=h6.cells5
       simp only at d0 d1 d2 d3 d4
       have H5:=Hd h5;have HB5:=Hd hb5;clear h5 h6 hb5 hb4 hb3 ht hz2
       go_wp2_with fail
       refine bodyPost_ret (v:=.tuple #[.agg #[.int .i64 2,.int .i64 e,.int .i64 x,.int .i64 (y + 1),.int .i64 z],.bool true]) (two_results rfl _ _ _ 27 _ (0,0) _ rfl (Holds.all (H5.out) _ _ _ _ _) Tryz.underlying27 rfl (by kernel_rfl) rfl) rfl ?_
       exact ⟨rfl,below_set5 (g:=w.heap.size + 1) (HB5.out) (by omega)⟩
     · have hv : St.round ⟨2,e,x,y,z⟩ = none:=by unfold St.round;exact if_neg (by simp [St.last];omega)
       have HR2:=Hd (right_is (t:=⟨2,e,x,y + 1,z⟩) (b:=false) (by rw [decide_eq_false_iff_not];unfold St.R;simp only;omega) (right_any _))
       unfold St.val at HR2
       simp only at HR2
       rw [hv];clear hv HRt
       unfold ov
       simp only [Option.getD_none,Option.getD_some,Option.isSome_none,Option.isSome_some,zero_val]
       have hz:=zero_made (w.alloc (.cells #[.int .i64 2,.int .i64 e,.int .i64 x,.int .i64 y,.int .i64 z] 27))
       rw [size_alloc] at hz
       have hy:=(Holds.made w ⟨2,e,x,y,z⟩).alloc (.cells #[.int .i64 0,.int .i64 0,.int .i64 0,.int .i64 0,.int .i64 0] 27)
       have HZ:=Hd hz;have HY:=Hd hy;clear hz hy
       go_enter Tryz.func124,Tryz.ntmps124
       go_wp2_with fail
       refine (HR.out _).mono ?_;rintro e1 w1 ⟨rfl,hb1⟩
       have h2:=HZ.out.below hb1
       have h1:=HY.out.below hb1
       have hbw:=stBelow2 hb1
       obtain ⟨f0,f1,f2,f3,f4⟩:=h2.free5
       obtain ⟨c0,c1,c2,c3,c4⟩:=h2.cells5
       obtain ⟨d0,d1,d2,d3,d4⟩:=h1.cells5
       obtain ⟨g0,g1,g2,g3,g4⟩:=h1.free5
       simp only at d0 d1 d2 d3 d4
       have H1:=Hd h1;have H2:=Hd h2;have HB:=Hd hbw;clear h1 h2 hb1 hbw HY HZ
       go_wp2_with fail
       have ht:=H1.out.set 3 (y + 1) (t':=⟨2,e,x,y + 1,z⟩) (by simp)
       have hz2:=H2.out.far (p:=⟨w.heap.size,3,none⟩) (by simp) (.int .i64 (y + 1))
       have hb3:=HB.out.setCell (p:=⟨w.heap.size,3,none⟩) (by simp) (.int .i64 (y + 1))
       refine (HR2.out _).mono ?_;rintro e2 w3 ⟨rfl,hb4⟩
       have h5:=hz2.below hb4
       have h6:=ht.below hb4
       have hb5:=hb3.trans (hb4.mono hb3.size)
       clear f0 f1 f2 f3 f4 c0 c1 c2 c3 c4 d0 d1 d2 d3 d4 g0 g1 g2 g3 g4
       obtain ⟨f0,f1,f2,f3,f4⟩:=h5.free5
       obtain ⟨c0,c1,c2,c3,c4⟩:=h5.cells5
       obtain ⟨d0,d1,d2,d3,d4⟩:=h6.cells5
       simp only at d0 d1 d2 d3 d4
       have H5:=Hd h5;have HB5:=Hd hb5;clear h5 h6 hb5 hb4 hb3 ht hz2
       go_wp2_with fail
       refine bodyPost_ret (v:=.tuple #[.agg #[.int .i64 0,.int .i64 0,.int .i64 0,.int .i64 0,.int .i64 0],.bool false]) (two_results rfl _ _ _ 27 _ (0,0) _ rfl (Holds.all (H5.out) _ _ _ _ _) Tryz.underlying27 rfl (by kernel_rfl) rfl) rfl ?_
       exact ⟨rfl,below_set5 (g:=w.heap.size + 1) (HB5.out) (by omega)⟩
   · have hb0 : 0 ≤ z ∧ z < 16:=by have hr:=HRt.out;unfold St.R at hr;simp only at hr;omega
     obtain ⟨hv0,hv1⟩:=hb0
     by_cases hl : z + 1 < 16
     · have hv : St.round ⟨3,e,x,y,z⟩ = some ⟨3,e,x,y,z + 1⟩:=by have hr:=HRt.out;unfold St.round;rw [if_pos ⟨hr,by simp,by simpa [St.last] using hl⟩];rfl
       have HR2:=Hd (right_is (t:=⟨3,e,x,y,z + 1⟩) (b:=true) (by rw [decide_eq_true_iff];have hr:=HRt.out;unfold St.R at hr ⊢;simp only at hr ⊢;omega) (right_any _))
       unfold St.val at HR2
       simp only at HR2
       rw [hv];clear hv HRt
       unfold ov
       simp only [Option.getD_none,Option.getD_some,Option.isSome_none,Option.isSome_some,zero_val]
       have hz:=zero_made (w.alloc (.cells #[.int .i64 3,.int .i64 e,.int .i64 x,.int .i64 y,.int .i64 z] 27))
       rw [size_alloc] at hz
       have hy:=(Holds.made w ⟨3,e,x,y,z⟩).alloc (.cells #[.int .i64 0,.int .i64 0,.int .i64 0,.int .i64 0,.int .i64 0] 27)
       have HZ:=Hd hz;have HY:=Hd hy;clear hz hy
       go_enter Tryz.func124,Tryz.ntmps124
       go_wp2_with fail
       refine (HR.out _).mono ?_;rintro e1 w1 ⟨rfl,hb1⟩
       have h2:=HZ.out.below hb1
       have h1:=HY.out.below hb1
       have hbw:=stBelow2 hb1
       obtain ⟨f0,f1,f2,f3,f4⟩:=h2.free5
       obtain ⟨c0,c1,c2,c3,c4⟩:=h2.cells5
       obtain ⟨d0,d1,d2,d3,d4⟩:=h1.cells5
       obtain ⟨g0,g1,g2,g3,g4⟩:=h1.free5
       simp only at d0 d1 d2 d3 d4
       have H1:=Hd h1;have H2:=Hd h2;have HB:=Hd hbw;clear h1 h2 hb1 hbw HY HZ
       go_wp2_with fail
       have ht:=H1.out.set 4 (z + 1) (t':=⟨3,e,x,y,z + 1⟩) (by simp)
       have hz2:=H2.out.far (p:=⟨w.heap.size,4,none⟩) (by simp) (.int .i64 (z + 1))
       have hb3:=HB.out.setCell (p:=⟨w.heap.size,4,none⟩) (by simp) (.int .i64 (z + 1))
       refine (HR2.out _).mono ?_;rintro e2 w3 ⟨rfl,hb4⟩
       have h5:=hz2.below hb4
       have h6:=ht.below hb4
       have hb5:=hb3.trans (hb4.mono hb3.size)
       clear f0 f1 f2 f3 f4 c0 c1 c2 c3 c4 d0 d1 d2 d3 d4 g0 g1 g2 g3 g4
       obtain ⟨f0,f1,f2,f3,f4⟩:=h5.free5
       obtain ⟨c0,c1,c2,c3,c4⟩:=h5.cells5
       obtain ⟨d0,d1,d2,d3,d4⟩:=h6.cells5
       simp only at d0 d1 d2 d3 d4
       have H5:=Hd h5;have HB5:=Hd hb5;clear h5 h6 hb5 hb4 hb3 ht hz2
       go_wp2_with fail
       refine bodyPost_ret (v:=.tuple #[.agg #[.int .i64 3,.int .i64 e,.int .i64 x,.int .i64 y,.int .i64 (z + 1)],.bool true]) (two_results rfl _ _ _ 27 _ (0,0) _ rfl (Holds.all (H5.out) _ _ _ _ _) Tryz.underlying27 rfl (by kernel_rfl) rfl) rfl ?_
       exact ⟨rfl,below_set5 (g:=w.heap.size + 1) (HB5.out) (by omega)⟩
     · have hv : St.round ⟨3,e,x,y,z⟩ = none:=by unfold St.round;exact if_neg (by simp [St.last];omega)
       have HR2:=Hd (right_is (t:=⟨3,e,x,y,z + 1⟩) (b:=false) (by rw [decide_eq_false_iff_not];unfold St.R;simp only;omega) (right_any _))
       unfold St.val at HR2
       simp only at HR2
       rw [hv];clear hv HRt
       unfold ov
       simp only [Option.getD_none,Option.getD_some,Option.isSome_none,Option.isSome_some,zero_val]
       have hz:=zero_made (w.alloc (.cells #[.int .i64 3,.int .i64 e,.int .i64 x,.int .i64 y,.int .i64 z] 27))
       rw [size_alloc] at hz
       have hy:=(Holds.made w ⟨3,e,x,y,z⟩).alloc (.cells #[.int .i64 0,.int .i64 0,.int .i64 0,.int .i64 0,.int .i64 0] 27)
       have HZ:=Hd hz;have HY:=Hd hy;clear hz hy
       go_enter Tryz.func124,Tryz.ntmps124
       go_wp2_with fail
       refine (HR.out _).mono ?_;rintro e1 w1 ⟨rfl,hb1⟩
       have h2:=HZ.out.below hb1
       have h1:=HY.out.below hb1
       have hbw:=stBelow2 hb1
       obtain ⟨f0,f1,f2,f3,f4⟩:=h2.free5
       obtain ⟨c0,c1,c2,c3,c4⟩:=h2.cells5
       obtain ⟨d0,d1,d2,d3,d4⟩:=h1.cells5
       obtain ⟨g0,g1,g2,g3,g4⟩:=h1.free5
       simp only at d0 d1 d2 d3 d4
       have H1:=Hd h1;have H2:=Hd h2;have HB:=Hd hbw;clear h1 h2 hb1 hbw HY HZ
       go_wp2_with fail
       have ht:=H1.out.set 4 (z + 1) (t':=⟨3,e,x,y,z + 1⟩) (by simp)
       have hz2:=H2.out.far (p:=⟨w.heap.size,4,none⟩) (by simp) (.int .i64 (z + 1))
       have hb3:=HB.out.setCell (p:=⟨w.heap.size,4,none⟩) (by simp) (.int .i64 (z + 1))
       refine (HR2.out _).mono ?_;rintro e2 w3 ⟨rfl,hb4⟩
       have h5:=hz2.below hb4
       have h6:=ht.below hb4
       have hb5:=hb3.trans (hb4.mono hb3.size)
       clear f0 f1 f2 f3 f4 c0 c1 c2 c3 c4 d0 d1 d2 d3 d4 g0 g1 g2 g3 g4
       obtain ⟨f0,f1,f2,f3,f4⟩:=h5.free5
       obtain ⟨c0,c1,c2,c3,c4⟩:=h5.cells5
       obtain ⟨d0,d1,d2,d3,d4⟩:=h6.cells5
       simp only at d0 d1 d2 d3 d4
       have H5:=Hd h5;have HB5:=Hd hb5;clear h5 h6 hb5 hb4 hb3 ht hz2
       go_wp2_with fail
       refine bodyPost_ret (v:=.tuple #[.agg #[.int .i64 0,.int .i64 0,.int .i64 0,.int .i64 0,.int .i64 0],.bool false]) (two_results rfl _ _ _ 27 _ (0,0) _ rfl (Holds.all (H5.out) _ _ _ _ _) Tryz.underlying27 rfl (by kernel_rfl) rfl) rfl ?_
       exact ⟨rfl,below_set5 (g:=w.heap.size + 1) (HB5.out) (by omega)⟩
 · have HR:=Hd (right_is (decide_eq_false hR) (right_any t))
   have hv:=hn hR
   clear hR hn
   rw [hv];clear hv
   unfold ov
   simp only [Option.getD_none,Option.isSome_none,zero_val]
   obtain ⟨d,e,x,y,z⟩:=t
   unfold St.val at *
   simp only at HR ⊢
   have hz:=zero_made (w.alloc (.cells #[.int .i64 d,.int .i64 e,.int .i64 x,.int .i64 y,.int .i64 z] 27))
   rw [size_alloc] at hz
   have hy:=(Holds.made w ⟨d,e,x,y,z⟩).alloc (.cells #[.int .i64 0,.int .i64 0,.int .i64 0,.int .i64 0,.int .i64 0] 27)
   have HZ:=Hd hz;have HY:=Hd hy;clear hz hy
   go_enter Tryz.func124,Tryz.ntmps124
   go_wp2_with fail
   refine (HR.out _).mono ?_;rintro e1 w1 ⟨rfl,hb1⟩
   have h2:=HZ.out.below hb1
   have h1:=HY.out.below hb1
   have hbw:=stBelow2 hb1
   obtain ⟨f0,f1,f2,f3,f4⟩:=h2.free5
   obtain ⟨c0,c1,c2,c3,c4⟩:=h2.cells5
   obtain ⟨d0,d1,d2,d3,d4⟩:=h1.cells5
   obtain ⟨g0,g1,g2,g3,g4⟩:=h1.free5
   simp only at d0 d1 d2 d3 d4
   have H1:=Hd h1;have H2:=Hd h2;have HB:=Hd hbw;clear h1 h2 hb1 hbw HY HZ
   go_wp2_with fail
   refine bodyPost_ret (v:=.tuple #[.agg #[.int .i64 0,.int .i64 0,.int .i64 0,.int .i64 0,.int .i64 0],.bool false]) (two_results rfl _ _ _ 27 _ (0,0) _ rfl (Holds.all (H2.out) _ _ _ _ _) Tryz.underlying27 rfl (by kernel_rfl) rfl) rfl ?_
   exact ⟨rfl,below_set5 (g:=w.heap.size + 1) (HB.out) (by omega)⟩
end

section
set_option maxHeartbeats 4000000 in
theorem out_any (t : St) (w : World) : Calls Tryz.prog 73 #[t.val] w fun e w' => e = .returned (.tuple #[(ov t.out).val,.bool t.out.isSome]) ∧ Below w.heap.size w w':=by
 have hn : ¬ t.R → t.out = none:=fun h => by unfold St.out;rw [if_neg (fun hc => h hc.1)]
 by_cases hR : t.R
 · have HR:=Hd (right_is (decide_eq_true hR) (right_any t))
   have hRd : t.R:=hR
   have hd : t.d = 0 ∨ t.d = 1 ∨ t.d = 2 ∨ t.d = 3:=by unfold St.R at hRd;omega
   have HRt:=Hd hRd
   clear hR hRd hn
   obtain ⟨d,e,x,y,z⟩:=t
   unfold St.val at *
   simp only at hd HR ⊢
   rcases hd with rfl | rfl | rfl | rfl
   · have hv : St.out ⟨0,e,x,y,z⟩ = none:=by unfold St.out;exact if_neg (by simp)
     rw [hv];clear hv HRt
     unfold ov
     simp only [Option.getD_none,Option.getD_some,Option.isSome_none,Option.isSome_some,zero_val]
     have hz:=zero_made (w.alloc (.cells #[.int .i64 0,.int .i64 e,.int .i64 x,.int .i64 y,.int .i64 z] 27))
     rw [size_alloc] at hz
     have hy:=(Holds.made w ⟨0,e,x,y,z⟩).alloc (.cells #[.int .i64 0,.int .i64 0,.int .i64 0,.int .i64 0,.int .i64 0] 27)
     have HZ:=Hd hz;have HY:=Hd hy;clear hz hy
     go_enter Tryz.func73,Tryz.ntmps73
     go_wp2_with fail
     refine (HR.out _).mono ?_;rintro e1 w1 ⟨rfl,hb1⟩
     have h2:=HZ.out.below hb1
     have h1:=HY.out.below hb1
     have hbw:=stBelow2 hb1
     obtain ⟨f0,f1,f2,f3,f4⟩:=h2.free5
     obtain ⟨c0,c1,c2,c3,c4⟩:=h2.cells5
     obtain ⟨d0,d1,d2,d3,d4⟩:=h1.cells5
     obtain ⟨g0,g1,g2,g3,g4⟩:=h1.free5
     simp only at d0 d1 d2 d3 d4
     have H1:=Hd h1;have H2:=Hd h2;have HB:=Hd hbw;clear h1 h2 hb1 hbw HY HZ
     go_wp2_with fail
     refine bodyPost_ret (v:=.tuple #[.agg #[.int .i64 0,.int .i64 0,.int .i64 0,.int .i64 0,.int .i64 0],.bool false]) (two_results rfl _ _ _ 27 _ (0,0) _ rfl (Holds.all (H2.out) _ _ _ _ _) Tryz.underlying27 rfl (by kernel_rfl) rfl) rfl ?_
     exact ⟨rfl,below_set5 (g:=w.heap.size + 1) (HB.out) (by omega)⟩
   · have hv : St.out ⟨1,e,x,y,z⟩ = some ⟨0,e,0,y,z⟩:=by have hr:=HRt.out;unfold St.out;rw [if_pos (by simp [hr])];rfl
     rw [hv];clear hv HRt
     unfold ov
     simp only [Option.getD_none,Option.getD_some,Option.isSome_none,Option.isSome_some,zero_val]
     have hz:=zero_made (w.alloc (.cells #[.int .i64 1,.int .i64 e,.int .i64 x,.int .i64 y,.int .i64 z] 27))
     rw [size_alloc] at hz
     have hy:=(Holds.made w ⟨1,e,x,y,z⟩).alloc (.cells #[.int .i64 0,.int .i64 0,.int .i64 0,.int .i64 0,.int .i64 0] 27)
     have HZ:=Hd hz;have HY:=Hd hy;clear hz hy
     go_enter Tryz.func73,Tryz.ntmps73
     go_wp2_with fail
     refine (HR.out _).mono ?_;rintro e1 w1 ⟨rfl,hb1⟩
     have h2:=HZ.out.below hb1
     have h1:=HY.out.below hb1
     have hbw:=stBelow2 hb1
     obtain ⟨f0,f1,f2,f3,f4⟩:=h2.free5
     obtain ⟨c0,c1,c2,c3,c4⟩:=h2.cells5
     obtain ⟨d0,d1,d2,d3,d4⟩:=h1.cells5
     obtain ⟨g0,g1,g2,g3,g4⟩:=h1.free5
     simp only at d0 d1 d2 d3 d4
     have H1:=Hd h1;have H2:=Hd h2;have HB:=Hd hbw;clear h1 h2 hb1 hbw HY HZ
     go_wp2_with fail
     refine bodyPost_ret (v:=.tuple #[.agg #[.int .i64 0,.int .i64 e,.int .i64 0,.int .i64 y,.int .i64 z],.bool true]) (two_results rfl _ _ _ 27 _ (0,0) _ rfl (Holds.all (((H2.out).far (by simp) _).far (by simp) _) _ _ _ _ _) Tryz.underlying27 rfl (by kernel_rfl) rfl) rfl ?_
     exact ⟨rfl,below_set5 (g:=w.heap.size + 1) (((HB.out).setCell (by simp) _).setCell (by simp) _) (by omega)⟩
   · have hv : St.out ⟨2,e,x,y,z⟩ = some ⟨1,e,x,0,z⟩:=by have hr:=HRt.out;unfold St.out;rw [if_pos (by simp [hr])];rfl
     rw [hv];clear hv HRt
     unfold ov
     simp only [Option.getD_none,Option.getD_some,Option.isSome_none,Option.isSome_some,zero_val]
     have hz:=zero_made (w.alloc (.cells #[.int .i64 2,.int .i64 e,.int .i64 x,.int .i64 y,.int .i64 z] 27))
     rw [size_alloc] at hz
     have hy:=(Holds.made w ⟨2,e,x,y,z⟩).alloc (.cells #[.int .i64 0,.int .i64 0,.int .i64 0,.int .i64 0,.int .i64 0] 27)
     have HZ:=Hd hz;have HY:=Hd hy;clear hz hy
     go_enter Tryz.func73,Tryz.ntmps73
     go_wp2_with fail
     refine (HR.out _).mono ?_;rintro e1 w1 ⟨rfl,hb1⟩
     have h2:=HZ.out.below hb1
     have h1:=HY.out.below hb1
     have hbw:=stBelow2 hb1
     obtain ⟨f0,f1,f2,f3,f4⟩:=h2.free5
     obtain ⟨c0,c1,c2,c3,c4⟩:=h2.cells5
     obtain ⟨d0,d1,d2,d3,d4⟩:=h1.cells5
     obtain ⟨g0,g1,g2,g3,g4⟩:=h1.free5
     simp only at d0 d1 d2 d3 d4
     have H1:=Hd h1;have H2:=Hd h2;have HB:=Hd hbw;clear h1 h2 hb1 hbw HY HZ
     go_wp2_with fail
     refine bodyPost_ret (v:=.tuple #[.agg #[.int .i64 1,.int .i64 e,.int .i64 x,.int .i64 0,.int .i64 z],.bool true]) (two_results rfl _ _ _ 27 _ (0,0) _ rfl (Holds.all (((H2.out).far (by simp) _).far (by simp) _) _ _ _ _ _) Tryz.underlying27 rfl (by kernel_rfl) rfl) rfl ?_
     exact ⟨rfl,below_set5 (g:=w.heap.size + 1) (((HB.out).setCell (by simp) _).setCell (by simp) _) (by omega)⟩
   · have hv : St.out ⟨3,e,x,y,z⟩ = some ⟨2,e,x,y,0⟩:=by have hr:=HRt.out;unfold St.out;rw [if_pos (by simp [hr])];rfl
     rw [hv];clear hv HRt
     unfold ov
     simp only [Option.getD_none,Option.getD_some,Option.isSome_none,Option.isSome_some,zero_val]
     have hz:=zero_made (w.alloc (.cells #[.int .i64 3,.int .i64 e,.int .i64 x,.int .i64 y,.int .i64 z] 27))
     rw [size_alloc] at hz
     have hy:=(Holds.made w ⟨3,e,x,y,z⟩).alloc (.cells #[.int .i64 0,.int .i64 0,.int .i64 0,.int .i64 0,.int .i64 0] 27)
     have HZ:=Hd hz;have HY:=Hd hy;clear hz hy
     go_enter Tryz.func73,Tryz.ntmps73
     go_wp2_with fail
     refine (HR.out _).mono ?_;rintro e1 w1 ⟨rfl,hb1⟩
     have h2:=HZ.out.below hb1
     have h1:=HY.out.below hb1
     have hbw:=stBelow2 hb1
     obtain ⟨f0,f1,f2,f3,f4⟩:=h2.free5
     obtain ⟨c0,c1,c2,c3,c4⟩:=h2.cells5
     obtain ⟨d0,d1,d2,d3,d4⟩:=h1.cells5
     obtain ⟨g0,g1,g2,g3,g4⟩:=h1.free5
     simp only at d0 d1 d2 d3 d4
     have H1:=Hd h1;have H2:=Hd h2;have HB:=Hd hbw;clear h1 h2 hb1 hbw HY HZ
     go_wp2_with fail
     refine bodyPost_ret (v:=.tuple #[.agg #[.int .i64 2,.int .i64 e,.int .i64 x,.int .i64 y,.int .i64 0],.bool true]) (two_results rfl _ _ _ 27 _ (0,0) _ rfl (Holds.all (((H2.out).far (by simp) _).far (by simp) _) _ _ _ _ _) Tryz.underlying27 rfl (by kernel_rfl) rfl) rfl ?_
     exact ⟨rfl,below_set5 (g:=w.heap.size + 1) (((HB.out).setCell (by simp) _).setCell (by simp) _) (by omega)⟩
 · have HR:=Hd (right_is (decide_eq_false hR) (right_any t))
   have hv:=hn hR
   clear hR hn
   rw [hv];clear hv
   unfold ov
   simp only [Option.getD_none,Option.isSome_none,zero_val]
   obtain ⟨d,e,x,y,z⟩:=t
   unfold St.val at *
   simp only at HR ⊢
   have hz:=zero_made (w.alloc (.cells #[.int .i64 d,.int .i64 e,.int .i64 x,.int .i64 y,.int .i64 z] 27))
   rw [size_alloc] at hz
   have hy:=(Holds.made w ⟨d,e,x,y,z⟩).alloc (.cells #[.int .i64 0,.int .i64 0,.int .i64 0,.int .i64 0,.int .i64 0] 27)
   have HZ:=Hd hz;have HY:=Hd hy;clear hz hy
   go_enter Tryz.func73,Tryz.ntmps73
   go_wp2_with fail
   refine (HR.out _).mono ?_;rintro e1 w1 ⟨rfl,hb1⟩
   have h2:=HZ.out.below hb1
   have h1:=HY.out.below hb1
   have hbw:=stBelow2 hb1
   obtain ⟨f0,f1,f2,f3,f4⟩:=h2.free5
   obtain ⟨c0,c1,c2,c3,c4⟩:=h2.cells5
   obtain ⟨d0,d1,d2,d3,d4⟩:=h1.cells5
   obtain ⟨g0,g1,g2,g3,g4⟩:=h1.free5
   simp only at d0 d1 d2 d3 d4
   have H1:=Hd h1;have H2:=Hd h2;have HB:=Hd hbw;clear h1 h2 hb1 hbw HY HZ
   go_wp2_with fail
   refine bodyPost_ret (v:=.tuple #[.agg #[.int .i64 0,.int .i64 0,.int .i64 0,.int .i64 0,.int .i64 0],.bool false]) (two_results rfl _ _ _ 27 _ (0,0) _ rfl (Holds.all (H2.out) _ _ _ _ _) Tryz.underlying27 rfl (by kernel_rfl) rfl) rfl ?_
   exact ⟨rfl,below_set5 (g:=w.heap.size + 1) (HB.out) (by omega)⟩
end

section
namespace Op
def roundB (t : St) (bound : Int) : Option St:=match t.round with | some u => if u.last < bound then some u else none | none => none
theorem round_d {t u : St} (h : t.round = some u) : u.d = 1 ∨ u.d = 2 ∨ u.d = 3:=by
 unfold St.round at h
 split at h
 · rename_i hc
   injection h with h
   subst h
   have:=hc.1;unfold St.R at this
   simp only;omega
 · cases h
set_option maxHeartbeats 4000000 in
theorem opRound_any (t : St) (bound : Int) (w : World) : Calls Tryz.prog 74 #[t.val,.int .i64 bound] w fun e w' => e = .returned (.tuple #[(ov (roundB t bound)).val,.bool (roundB t bound).isSome]) ∧ Below w.heap.size w w':=by
 have HC:=Hd fun w' => step_any t w'
 have hz:=zero_made (w.alloc (.cells #[.int .i64 t.d,.int .i64 t.e,.int .i64 t.x,.int .i64 t.y,.int .i64 t.z] 27))
 rw [size_alloc] at hz
 have hb:=((Below.refl _ w).alloc (Nat.le_refl _) (.cells #[.int .i64 t.d,.int .i64 t.e,.int .i64 t.x,.int .i64 t.y,.int .i64 t.z] 27)).alloc (by simp) (.cells #[.int .i64 0,.int .i64 0,.int .i64 0,.int .i64 0,.int .i64 0] 27)
 have HZ:=Hd hz;have HB:=Hd hb;clear hz hb
 cases hr : t.round with
 | none =>
   have e0 : roundB t bound = none:=by unfold roundB;rw [hr]
   rw [e0]
   rw [hr] at HC
   unfold ov at *
   simp only [Option.getD_none,Option.isSome_none,zero_val] at HC ⊢
   clear hr e0
   go_enter Tryz.func74,Tryz.ntmps74
   go_wp2_with fail
   refine (HC.out _).mono ?_;rintro e1 w1 ⟨rfl,hb1⟩
   have hb2:=HB.out.trans (hb1.mono HB.out.size)
   have h2:=HZ.out.below hb1
   have hgz:=h2.lt
   clear HZ HB HC hb1
   go_upto_region 2 with fail
   have hb3:=hb2.alloc hb2.size (.cells #[.int .i64 0,.int .i64 0,.int .i64 0,.int .i64 0,.int .i64 0] 27)
   have h3:=h2.alloc (.cells #[.int .i64 0,.int .i64 0,.int .i64 0,.int .i64 0,.int .i64 0] 27)
   generalize w1.alloc (.cells #[.int .i64 0,.int .i64 0,.int .i64 0,.int .i64 0,.int .i64 0] 27) = wz at *
   obtain ⟨f0,f1,f2,f3,f4⟩:=h3.free5
   obtain ⟨c0,c1,c2,c3,c4⟩:=h3.cells5
   have H3:=Hd h3;have HB3:=Hd hb3;clear h3 hb3 h2 hb2 hgz
   go_wp2_with fail
   refine bodyPost_ret (v:=.tuple #[.agg #[.int .i64 0,.int .i64 0,.int .i64 0,.int .i64 0,.int .i64 0],.bool false]) (two_results rfl _ _ _ 27 _ (0,0) _ rfl (Holds.all H3.out _ _ _ _ _) Tryz.underlying27 rfl (by kernel_rfl) rfl) rfl ?_
   exact ⟨rfl,below_set5 (g:=w.heap.size + 1) HB3.out (by omega)⟩
 | some u =>
   have hd:=round_d hr
   rw [hr] at HC
   obtain ⟨ud,ue,ux,uy,uz⟩:=u
   simp only at hd
   unfold ov at *
   simp only [Option.getD_some,Option.isSome_some] at HC
   rcases hd with rfl | rfl | rfl
   · by_cases hl : ux < bound
     · have e0 : roundB t bound = some ⟨1,ue,ux,uy,uz⟩:=by unfold roundB;rw [hr];simp [St.last,hl]
       rw [e0]
       simp only [Option.getD_some,Option.isSome_some,Option.getD_none,Option.isSome_none,zero_val]
       clear hr e0
       go_enter Tryz.func74,Tryz.ntmps74
       go_wp2_with fail
       refine (HC.out _).mono ?_;rintro e1 w1 ⟨rfl,hb1⟩
       have hb2:=HB.out.trans (hb1.mono HB.out.size)
       have h2:=HZ.out.below hb1
       clear HZ HB HC hb1
       go_upto_region 2 with fail
       have hb3:=hb2.alloc hb2.size (.cells #[.int .i64 1,.int .i64 ue,.int .i64 ux,.int .i64 uy,.int .i64 uz] 27)
       have h3:=h2.alloc (.cells #[.int .i64 1,.int .i64 ue,.int .i64 ux,.int .i64 uy,.int .i64 uz] 27)
       have h4:=Holds.made w1 ⟨1,ue,ux,uy,uz⟩
       have hgz : w.heap.size + 1 < w1.heap.size:=h2.lt
       simp only [St.cells,List.toArray] at h4
       generalize w1.alloc (.cells #[.int .i64 1,.int .i64 ue,.int .i64 ux,.int .i64 uy,.int .i64 uz] 27) = wz at *
       generalize w1.heap.size = g4 at *
       obtain ⟨f0,f1,f2,f3,f4⟩:=h3.free5
       obtain ⟨c0,c1,c2,c3,c4⟩:=h3.cells5
       obtain ⟨d0,d1,d2,d3,d4⟩:=h4.cells5
       simp only at d0 d1 d2 d3 d4
       have H3:=Hd h3;have HB3:=Hd hb3;clear h3 hb3 h2 hb2 h4
       go_wp2_with fail
       refine bodyPost_ret (v:=.tuple #[.agg #[.int .i64 1,.int .i64 ue,.int .i64 ux,.int .i64 uy,.int .i64 uz],.bool true]) (two_results rfl _ _ _ 27 _ (0,0) _ rfl (Holds.all H3.out _ _ _ _ _) Tryz.underlying27 rfl (by kernel_rfl) rfl) rfl ?_
       exact ⟨rfl,below_set5 (g:=w.heap.size + 1) HB3.out (by omega)⟩
     · have e0 : roundB t bound = none:=by unfold roundB;rw [hr];simp [St.last,hl]
       rw [e0]
       simp only [Option.getD_some,Option.isSome_some,Option.getD_none,Option.isSome_none,zero_val]
       clear hr e0
       go_enter Tryz.func74,Tryz.ntmps74
       go_wp2_with fail
       refine (HC.out _).mono ?_;rintro e1 w1 ⟨rfl,hb1⟩
       have hb2:=HB.out.trans (hb1.mono HB.out.size)
       have h2:=HZ.out.below hb1
       clear HZ HB HC hb1
       go_upto_region 2 with fail
       have hb3:=hb2.alloc hb2.size (.cells #[.int .i64 1,.int .i64 ue,.int .i64 ux,.int .i64 uy,.int .i64 uz] 27)
       have h3:=h2.alloc (.cells #[.int .i64 1,.int .i64 ue,.int .i64 ux,.int .i64 uy,.int .i64 uz] 27)
       have h4:=Holds.made w1 ⟨1,ue,ux,uy,uz⟩
       have hgz : w.heap.size + 1 < w1.heap.size:=h2.lt
       simp only [St.cells,List.toArray] at h4
       generalize w1.alloc (.cells #[.int .i64 1,.int .i64 ue,.int .i64 ux,.int .i64 uy,.int .i64 uz] 27) = wz at *
       generalize w1.heap.size = g4 at *
       obtain ⟨f0,f1,f2,f3,f4⟩:=h3.free5
       obtain ⟨c0,c1,c2,c3,c4⟩:=h3.cells5
       obtain ⟨d0,d1,d2,d3,d4⟩:=h4.cells5
       simp only at d0 d1 d2 d3 d4
       have H3:=Hd h3;have HB3:=Hd hb3;clear h3 hb3 h2 hb2 h4
       go_wp2_with fail
       refine bodyPost_ret (v:=.tuple #[.agg #[.int .i64 0,.int .i64 0,.int .i64 0,.int .i64 0,.int .i64 0],.bool false]) (two_results rfl _ _ _ 27 _ (0,0) _ rfl (Holds.all H3.out _ _ _ _ _) Tryz.underlying27 rfl (by kernel_rfl) rfl) rfl ?_
       exact ⟨rfl,below_set5 (g:=w.heap.size + 1) HB3.out (by omega)⟩
   · by_cases hl : uy < bound
     · have e0 : roundB t bound = some ⟨2,ue,ux,uy,uz⟩:=by unfold roundB;rw [hr];simp [St.last,hl]
       rw [e0]
       simp only [Option.getD_some,Option.isSome_some,Option.getD_none,Option.isSome_none,zero_val]
       clear hr e0
       go_enter Tryz.func74,Tryz.ntmps74
       go_wp2_with fail
       refine (HC.out _).mono ?_;rintro e1 w1 ⟨rfl,hb1⟩
       have hb2:=HB.out.trans (hb1.mono HB.out.size)
       have h2:=HZ.out.below hb1
       clear HZ HB HC hb1
       go_upto_region 2 with fail
       have hb3:=hb2.alloc hb2.size (.cells #[.int .i64 2,.int .i64 ue,.int .i64 ux,.int .i64 uy,.int .i64 uz] 27)
       have h3:=h2.alloc (.cells #[.int .i64 2,.int .i64 ue,.int .i64 ux,.int .i64 uy,.int .i64 uz] 27)
       have h4:=Holds.made w1 ⟨2,ue,ux,uy,uz⟩
       have hgz : w.heap.size + 1 < w1.heap.size:=h2.lt
       simp only [St.cells,List.toArray] at h4
       generalize w1.alloc (.cells #[.int .i64 2,.int .i64 ue,.int .i64 ux,.int .i64 uy,.int .i64 uz] 27) = wz at *
       generalize w1.heap.size = g4 at *
       obtain ⟨f0,f1,f2,f3,f4⟩:=h3.free5
       obtain ⟨c0,c1,c2,c3,c4⟩:=h3.cells5
       obtain ⟨d0,d1,d2,d3,d4⟩:=h4.cells5
       simp only at d0 d1 d2 d3 d4
       have H3:=Hd h3;have HB3:=Hd hb3;clear h3 hb3 h2 hb2 h4
       go_wp2_with fail
       refine bodyPost_ret (v:=.tuple #[.agg #[.int .i64 2,.int .i64 ue,.int .i64 ux,.int .i64 uy,.int .i64 uz],.bool true]) (two_results rfl _ _ _ 27 _ (0,0) _ rfl (Holds.all H3.out _ _ _ _ _) Tryz.underlying27 rfl (by kernel_rfl) rfl) rfl ?_
       exact ⟨rfl,below_set5 (g:=w.heap.size + 1) HB3.out (by omega)⟩
     · have e0 : roundB t bound = none:=by unfold roundB;rw [hr];simp [St.last,hl]
       rw [e0]
       simp only [Option.getD_some,Option.isSome_some,Option.getD_none,Option.isSome_none,zero_val]
       clear hr e0
       go_enter Tryz.func74,Tryz.ntmps74
       go_wp2_with fail
       refine (HC.out _).mono ?_;rintro e1 w1 ⟨rfl,hb1⟩
       have hb2:=HB.out.trans (hb1.mono HB.out.size)
       have h2:=HZ.out.below hb1
       clear HZ HB HC hb1
       go_upto_region 2 with fail
       have hb3:=hb2.alloc hb2.size (.cells #[.int .i64 2,.int .i64 ue,.int .i64 ux,.int .i64 uy,.int .i64 uz] 27)
       have h3:=h2.alloc (.cells #[.int .i64 2,.int .i64 ue,.int .i64 ux,.int .i64 uy,.int .i64 uz] 27)
       have h4:=Holds.made w1 ⟨2,ue,ux,uy,uz⟩
       have hgz : w.heap.size + 1 < w1.heap.size:=h2.lt
       simp only [St.cells,List.toArray] at h4
       generalize w1.alloc (.cells #[.int .i64 2,.int .i64 ue,.int .i64 ux,.int .i64 uy,.int .i64 uz] 27) = wz at *
       generalize w1.heap.size = g4 at *
       obtain ⟨f0,f1,f2,f3,f4⟩:=h3.free5
       obtain ⟨c0,c1,c2,c3,c4⟩:=h3.cells5
       obtain ⟨d0,d1,d2,d3,d4⟩:=h4.cells5
       simp only at d0 d1 d2 d3 d4
       have H3:=Hd h3;have HB3:=Hd hb3;clear h3 hb3 h2 hb2 h4
       go_wp2_with fail
       refine bodyPost_ret (v:=.tuple #[.agg #[.int .i64 0,.int .i64 0,.int .i64 0,.int .i64 0,.int .i64 0],.bool false]) (two_results rfl _ _ _ 27 _ (0,0) _ rfl (Holds.all H3.out _ _ _ _ _) Tryz.underlying27 rfl (by kernel_rfl) rfl) rfl ?_
       exact ⟨rfl,below_set5 (g:=w.heap.size + 1) HB3.out (by omega)⟩
   · by_cases hl : uz < bound
     · have e0 : roundB t bound = some ⟨3,ue,ux,uy,uz⟩:=by unfold roundB;rw [hr];simp [St.last,hl]
       rw [e0]
       simp only [Option.getD_some,Option.isSome_some,Option.getD_none,Option.isSome_none,zero_val]
       clear hr e0
       go_enter Tryz.func74,Tryz.ntmps74
       go_wp2_with fail
       refine (HC.out _).mono ?_;rintro e1 w1 ⟨rfl,hb1⟩
       have hb2:=HB.out.trans (hb1.mono HB.out.size)
       have h2:=HZ.out.below hb1
       clear HZ HB HC hb1
       go_upto_region 2 with fail
       have hb3:=hb2.alloc hb2.size (.cells #[.int .i64 3,.int .i64 ue,.int .i64 ux,.int .i64 uy,.int .i64 uz] 27)
       have h3:=h2.alloc (.cells #[.int .i64 3,.int .i64 ue,.int .i64 ux,.int .i64 uy,.int .i64 uz] 27)
       have h4:=Holds.made w1 ⟨3,ue,ux,uy,uz⟩
       have hgz : w.heap.size + 1 < w1.heap.size:=h2.lt
       simp only [St.cells,List.toArray] at h4
       generalize w1.alloc (.cells #[.int .i64 3,.int .i64 ue,.int .i64 ux,.int .i64 uy,.int .i64 uz] 27) = wz at *
       generalize w1.heap.size = g4 at *
       obtain ⟨f0,f1,f2,f3,f4⟩:=h3.free5
       obtain ⟨c0,c1,c2,c3,c4⟩:=h3.cells5
       obtain ⟨d0,d1,d2,d3,d4⟩:=h4.cells5
       simp only at d0 d1 d2 d3 d4
       have H3:=Hd h3;have HB3:=Hd hb3;clear h3 hb3 h2 hb2 h4
       go_wp2_with fail
       refine bodyPost_ret (v:=.tuple #[.agg #[.int .i64 3,.int .i64 ue,.int .i64 ux,.int .i64 uy,.int .i64 uz],.bool true]) (two_results rfl _ _ _ 27 _ (0,0) _ rfl (Holds.all H3.out _ _ _ _ _) Tryz.underlying27 rfl (by kernel_rfl) rfl) rfl ?_
       exact ⟨rfl,below_set5 (g:=w.heap.size + 1) HB3.out (by omega)⟩
     · have e0 : roundB t bound = none:=by unfold roundB;rw [hr];simp [St.last,hl]
       rw [e0]
       simp only [Option.getD_some,Option.isSome_some,Option.getD_none,Option.isSome_none,zero_val]
       clear hr e0
       go_enter Tryz.func74,Tryz.ntmps74
       go_wp2_with fail
       refine (HC.out _).mono ?_;rintro e1 w1 ⟨rfl,hb1⟩
       have hb2:=HB.out.trans (hb1.mono HB.out.size)
       have h2:=HZ.out.below hb1
       clear HZ HB HC hb1
       go_upto_region 2 with fail
       have hb3:=hb2.alloc hb2.size (.cells #[.int .i64 3,.int .i64 ue,.int .i64 ux,.int .i64 uy,.int .i64 uz] 27)
       have h3:=h2.alloc (.cells #[.int .i64 3,.int .i64 ue,.int .i64 ux,.int .i64 uy,.int .i64 uz] 27)
       have h4:=Holds.made w1 ⟨3,ue,ux,uy,uz⟩
       have hgz : w.heap.size + 1 < w1.heap.size:=h2.lt
       simp only [St.cells,List.toArray] at h4
       generalize w1.alloc (.cells #[.int .i64 3,.int .i64 ue,.int .i64 ux,.int .i64 uy,.int .i64 uz] 27) = wz at *
       generalize w1.heap.size = g4 at *
       obtain ⟨f0,f1,f2,f3,f4⟩:=h3.free5
       obtain ⟨c0,c1,c2,c3,c4⟩:=h3.cells5
       obtain ⟨d0,d1,d2,d3,d4⟩:=h4.cells5
       simp only at d0 d1 d2 d3 d4
       have H3:=Hd h3;have HB3:=Hd hb3;clear h3 hb3 h2 hb2 h4
       go_wp2_with fail
       refine bodyPost_ret (v:=.tuple #[.agg #[.int .i64 0,.int .i64 0,.int .i64 0,.int .i64 0,.int .i64 0],.bool false]) (two_results rfl _ _ _ 27 _ (0,0) _ rfl (Holds.all H3.out _ _ _ _ _) Tryz.underlying27 rfl (by kernel_rfl) rfl) rfl ?_
       exact ⟨rfl,below_set5 (g:=w.heap.size + 1) HB3.out (by omega)⟩
end Op
end

section
namespace Op
@[reducible] def nodeV0 (n : Nd) (A : Option Addr) (m c : Nat) : Value:=.agg #[.int .u8 (n.k : Nat),.int .u8 (n.a : Nat),.int .i64 n.b,.int .i64 n.d,.slice A m c]
def timeR (n : Nd) (t : St) : Option St:=if n.k = 7 then t.into else if n.k = 8 then t.out else if n.k = 9 then roundB t n.b else if t.R then some t else none
theorem three_boxes (w : World) (a b c : Obj) : Below w.heap.size w (((w.alloc a).alloc b).alloc c):=(((Below.refl _ w).alloc (Nat.le_refl _) a).alloc (by simp) b).alloc (by simp;omega) c
set_option maxHeartbeats 2000000 in
theorem time7 (n : Nd) (NA : Option Addr) (nm nc : Nat) (t : St) (w : World) : Calls Tryz.prog 26 #[.agg #[.int .u8 ((7 : Nat) : Nat),.int .u8 (n.a : Nat),.int .i64 n.b,.int .i64 n.d,.slice NA nm nc],t.val] w (fun e w' => e = .returned (.tuple #[(ov (t.into)).val,.bool (t.into).isSome]) ∧ Below w.heap.size w w'):=by
 have HC:=Hd fun w' => into_any t w'
 generalize (t.into) = o at *
 obtain ⟨q,hq⟩ : ∃ q,ov o = q:=⟨_,rfl⟩
 rw [hq] at HC ⊢
 generalize o.isSome = B at *
 clear hq
 have hz:=zero_made ((w.alloc (.cells #[.int .u8 ((7 : Nat) : Nat),.int .u8 (n.a : Nat),.int .i64 n.b,.int .i64 n.d,.slice NA nm nc] 58)).alloc (.cells #[.int .i64 t.d,.int .i64 t.e,.int .i64 t.x,.int .i64 t.y,.int .i64 t.z] 27))
 rw [size_alloc,size_alloc] at hz
 have hb:=three_boxes w (.cells #[.int .u8 ((7 : Nat) : Nat),.int .u8 (n.a : Nat),.int .i64 n.b,.int .i64 n.d,.slice NA nm nc] 58) (.cells #[.int .i64 t.d,.int .i64 t.e,.int .i64 t.x,.int .i64 t.y,.int .i64 t.z] 27) (.cells #[.int .i64 0,.int .i64 0,.int .i64 0,.int .i64 0,.int .i64 0] 27)
 have HZ:=Hd hz;have HB:=Hd hb;clear hz hb
 go_enter Tryz.func26,Tryz.ntmps26
 go_wp2_with fail
 refine (HC.out _).mono ?_;rintro e1 w1 ⟨rfl,hb1⟩
 have hb2:=HB.out.trans (hb1.mono HB.out.size)
 have h2:=HZ.out.below hb1
 obtain ⟨f0,f1,f2,f3,f4⟩:=h2.free5
 obtain ⟨c0,c1,c2,c3,c4⟩:=h2.cells5
 have H2:=Hd h2;have HB2:=Hd hb2;clear h2 hb2 hb1 HZ HB HC
 dsimp only
 go_wp2_with fail
 refine bodyPost_ret (v:=.tuple #[.agg #[.int .i64 q.d,.int .i64 q.e,.int .i64 q.x,.int .i64 q.y,.int .i64 q.z],.bool B]) (two_results rfl _ _ _ 27 _ (0,0) _ rfl (Holds.all H2.out _ _ _ _ _) Tryz.underlying27 rfl (by kernel_rfl) rfl) rfl ?_
 exact ⟨rfl,below_set5 (g:=w.heap.size + 1 + 1) HB2.out (by omega)⟩
set_option maxHeartbeats 2000000 in
theorem time8 (n : Nd) (NA : Option Addr) (nm nc : Nat) (t : St) (w : World) : Calls Tryz.prog 26 #[.agg #[.int .u8 ((8 : Nat) : Nat),.int .u8 (n.a : Nat),.int .i64 n.b,.int .i64 n.d,.slice NA nm nc],t.val] w (fun e w' => e = .returned (.tuple #[(ov (t.out)).val,.bool (t.out).isSome]) ∧ Below w.heap.size w w'):=by
 have HC:=Hd fun w' => out_any t w'
 generalize (t.out) = o at *
 obtain ⟨q,hq⟩ : ∃ q,ov o = q:=⟨_,rfl⟩
 rw [hq] at HC ⊢
 generalize o.isSome = B at *
 clear hq
 have hz:=zero_made ((w.alloc (.cells #[.int .u8 ((8 : Nat) : Nat),.int .u8 (n.a : Nat),.int .i64 n.b,.int .i64 n.d,.slice NA nm nc] 58)).alloc (.cells #[.int .i64 t.d,.int .i64 t.e,.int .i64 t.x,.int .i64 t.y,.int .i64 t.z] 27))
 rw [size_alloc,size_alloc] at hz
 have hb:=three_boxes w (.cells #[.int .u8 ((8 : Nat) : Nat),.int .u8 (n.a : Nat),.int .i64 n.b,.int .i64 n.d,.slice NA nm nc] 58) (.cells #[.int .i64 t.d,.int .i64 t.e,.int .i64 t.x,.int .i64 t.y,.int .i64 t.z] 27) (.cells #[.int .i64 0,.int .i64 0,.int .i64 0,.int .i64 0,.int .i64 0] 27)
 have HZ:=Hd hz;have HB:=Hd hb;clear hz hb
 go_enter Tryz.func26,Tryz.ntmps26
 go_wp2_with fail
 refine (HC.out _).mono ?_;rintro e1 w1 ⟨rfl,hb1⟩
 have hb2:=HB.out.trans (hb1.mono HB.out.size)
 have h2:=HZ.out.below hb1
 obtain ⟨f0,f1,f2,f3,f4⟩:=h2.free5
 obtain ⟨c0,c1,c2,c3,c4⟩:=h2.cells5
 have H2:=Hd h2;have HB2:=Hd hb2;clear h2 hb2 hb1 HZ HB HC
 dsimp only
 go_wp2_with fail
 refine bodyPost_ret (v:=.tuple #[.agg #[.int .i64 q.d,.int .i64 q.e,.int .i64 q.x,.int .i64 q.y,.int .i64 q.z],.bool B]) (two_results rfl _ _ _ 27 _ (0,0) _ rfl (Holds.all H2.out _ _ _ _ _) Tryz.underlying27 rfl (by kernel_rfl) rfl) rfl ?_
 exact ⟨rfl,below_set5 (g:=w.heap.size + 1 + 1) HB2.out (by omega)⟩
set_option maxHeartbeats 2000000 in
theorem time9 (n : Nd) (NA : Option Addr) (nm nc : Nat) (t : St) (w : World) : Calls Tryz.prog 26 #[.agg #[.int .u8 ((9 : Nat) : Nat),.int .u8 (n.a : Nat),.int .i64 n.b,.int .i64 n.d,.slice NA nm nc],t.val] w (fun e w' => e = .returned (.tuple #[(ov (roundB t n.b)).val,.bool (roundB t n.b).isSome]) ∧ Below w.heap.size w w'):=by
 have HC:=Hd fun w' => opRound_any t n.b w'
 generalize (roundB t n.b) = o at *
 obtain ⟨q,hq⟩ : ∃ q,ov o = q:=⟨_,rfl⟩
 rw [hq] at HC ⊢
 generalize o.isSome = B at *
 clear hq
 have hz:=zero_made ((w.alloc (.cells #[.int .u8 ((9 : Nat) : Nat),.int .u8 (n.a : Nat),.int .i64 n.b,.int .i64 n.d,.slice NA nm nc] 58)).alloc (.cells #[.int .i64 t.d,.int .i64 t.e,.int .i64 t.x,.int .i64 t.y,.int .i64 t.z] 27))
 rw [size_alloc,size_alloc] at hz
 have hb:=three_boxes w (.cells #[.int .u8 ((9 : Nat) : Nat),.int .u8 (n.a : Nat),.int .i64 n.b,.int .i64 n.d,.slice NA nm nc] 58) (.cells #[.int .i64 t.d,.int .i64 t.e,.int .i64 t.x,.int .i64 t.y,.int .i64 t.z] 27) (.cells #[.int .i64 0,.int .i64 0,.int .i64 0,.int .i64 0,.int .i64 0] 27)
 have HZ:=Hd hz;have HB:=Hd hb;clear hz hb
 go_enter Tryz.func26,Tryz.ntmps26
 go_wp2_with fail
 refine (HC.out _).mono ?_;rintro e1 w1 ⟨rfl,hb1⟩
 have hb2:=HB.out.trans (hb1.mono HB.out.size)
 have h2:=HZ.out.below hb1
 obtain ⟨f0,f1,f2,f3,f4⟩:=h2.free5
 obtain ⟨c0,c1,c2,c3,c4⟩:=h2.cells5
 have H2:=Hd h2;have HB2:=Hd hb2;clear h2 hb2 hb1 HZ HB HC
 dsimp only
 go_wp2_with fail
 refine bodyPost_ret (v:=.tuple #[.agg #[.int .i64 q.d,.int .i64 q.e,.int .i64 q.x,.int .i64 q.y,.int .i64 q.z],.bool B]) (two_results rfl _ _ _ 27 _ (0,0) _ rfl (Holds.all H2.out _ _ _ _ _) Tryz.underlying27 rfl (by kernel_rfl) rfl) rfl ?_
 exact ⟨rfl,below_set5 (g:=w.heap.size + 1 + 1) HB2.out (by omega)⟩
set_option maxHeartbeats 2000000 in
theorem timeElse1 (n : Nd) (NA : Option Addr) (nm nc : Nat) (t : St) (w : World) (h7 : n.k ≠ 7) (h8 : n.k ≠ 8) (h9 : n.k ≠ 9) (hR : t.R) : Calls Tryz.prog 26 #[.agg #[.int .u8 (n.k : Nat),.int .u8 (n.a : Nat),.int .i64 n.b,.int .i64 n.d,.slice NA nm nc],t.val] w (fun e w' => e = .returned (.tuple #[(ov ((some t : Option St))).val,.bool ((some t : Option St)).isSome]) ∧ Below w.heap.size w w'):=by
 have z7 : ((n.k : Int) == 7) = false:=by simp;omega
 have z8 : ((n.k : Int) == 8) = false:=by simp;omega
 have z9 : ((n.k : Int) == 9) = false:=by simp;omega
 have hc:=fun w' => right_any t w'
 rw [decide_eq_true hR] at hc
 have HC:=Hd hc;clear hc hR h7 h8 h9
 unfold ov
 simp only [Option.getD_none,Option.getD_some,Option.isSome_none,Option.isSome_some,zero_val]
 have hz:=zero_made ((w.alloc (.cells #[.int .u8 (n.k : Nat),.int .u8 (n.a : Nat),.int .i64 n.b,.int .i64 n.d,.slice NA nm nc] 58)).alloc (.cells #[.int .i64 t.d,.int .i64 t.e,.int .i64 t.x,.int .i64 t.y,.int .i64 t.z] 27))
 rw [size_alloc,size_alloc] at hz
 have hb:=three_boxes w (.cells #[.int .u8 (n.k : Nat),.int .u8 (n.a : Nat),.int .i64 n.b,.int .i64 n.d,.slice NA nm nc] 58) (.cells #[.int .i64 t.d,.int .i64 t.e,.int .i64 t.x,.int .i64 t.y,.int .i64 t.z] 27) (.cells #[.int .i64 0,.int .i64 0,.int .i64 0,.int .i64 0,.int .i64 0] 27)
 have HZ:=Hd hz;have HB:=Hd hb;clear hz hb
 go_enter Tryz.func26,Tryz.ntmps26
 go_wp2_with fail
 refine (HC.out _).mono ?_;rintro e1 w1 ⟨rfl,hb1⟩
 have h1:=(Row.made (w.alloc (.cells #[.int .u8 (n.k : Nat),.int .u8 (n.a : Nat),.int .i64 n.b,.int .i64 n.d,.slice NA nm nc] 58)) 27 [.int .i64 t.d,.int .i64 t.e,.int .i64 t.x,.int .i64 t.y,.int .i64 t.z]).alloc (.cells #[.int .i64 0,.int .i64 0,.int .i64 0,.int .i64 0,.int .i64 0] 27)
 rw [size_alloc] at h1
 have h1b:=h1.below hb1 h1.lt
 obtain ⟨d0,d1,d2,d3,d4⟩:=cells5 h1b
 clear h1 h1b
 have hb2:=HB.out.trans (hb1.mono HB.out.size)
 have h2:=HZ.out.below hb1
 obtain ⟨f0,f1,f2,f3,f4⟩:=h2.free5
 obtain ⟨c0,c1,c2,c3,c4⟩:=h2.cells5
 have H2:=Hd h2;have HB2:=Hd hb2;clear h2 hb2 hb1 HZ HB HC
 dsimp only
 go_wp2_with fail
 refine bodyPost_ret (v:=.tuple #[.agg #[.int .i64 t.d,.int .i64 t.e,.int .i64 t.x,.int .i64 t.y,.int .i64 t.z],.bool true]) (two_results rfl _ _ _ 27 _ (0,0) _ rfl (Holds.all H2.out _ _ _ _ _) Tryz.underlying27 rfl (by kernel_rfl) rfl) rfl ?_
 exact ⟨rfl,below_set5 (g:=w.heap.size + 1 + 1) HB2.out (by omega)⟩
set_option maxHeartbeats 2000000 in
theorem timeElse0 (n : Nd) (NA : Option Addr) (nm nc : Nat) (t : St) (w : World) (h7 : n.k ≠ 7) (h8 : n.k ≠ 8) (h9 : n.k ≠ 9) (hR : ¬ t.R) : Calls Tryz.prog 26 #[.agg #[.int .u8 (n.k : Nat),.int .u8 (n.a : Nat),.int .i64 n.b,.int .i64 n.d,.slice NA nm nc],t.val] w (fun e w' => e = .returned (.tuple #[(ov ((none : Option St))).val,.bool ((none : Option St)).isSome]) ∧ Below w.heap.size w w'):=by
 have z7 : ((n.k : Int) == 7) = false:=by simp;omega
 have z8 : ((n.k : Int) == 8) = false:=by simp;omega
 have z9 : ((n.k : Int) == 9) = false:=by simp;omega
 have hc:=fun w' => right_any t w'
 rw [decide_eq_false hR] at hc
 have HC:=Hd hc;clear hc hR h7 h8 h9
 unfold ov
 simp only [Option.getD_none,Option.getD_some,Option.isSome_none,Option.isSome_some,zero_val]
 have hz:=zero_made ((w.alloc (.cells #[.int .u8 (n.k : Nat),.int .u8 (n.a : Nat),.int .i64 n.b,.int .i64 n.d,.slice NA nm nc] 58)).alloc (.cells #[.int .i64 t.d,.int .i64 t.e,.int .i64 t.x,.int .i64 t.y,.int .i64 t.z] 27))
 rw [size_alloc,size_alloc] at hz
 have hb:=three_boxes w (.cells #[.int .u8 (n.k : Nat),.int .u8 (n.a : Nat),.int .i64 n.b,.int .i64 n.d,.slice NA nm nc] 58) (.cells #[.int .i64 t.d,.int .i64 t.e,.int .i64 t.x,.int .i64 t.y,.int .i64 t.z] 27) (.cells #[.int .i64 0,.int .i64 0,.int .i64 0,.int .i64 0,.int .i64 0] 27)
 have HZ:=Hd hz;have HB:=Hd hb;clear hz hb
 go_enter Tryz.func26,Tryz.ntmps26
 go_wp2_with fail
 refine (HC.out _).mono ?_;rintro e1 w1 ⟨rfl,hb1⟩
 have hb2:=HB.out.trans (hb1.mono HB.out.size)
 have h2:=HZ.out.below hb1
 obtain ⟨f0,f1,f2,f3,f4⟩:=h2.free5
 obtain ⟨c0,c1,c2,c3,c4⟩:=h2.cells5
 have H2:=Hd h2;have HB2:=Hd hb2;clear h2 hb2 hb1 HZ HB HC
 dsimp only
 go_wp2_with fail
 refine bodyPost_ret (v:=.tuple #[.agg #[.int .i64 0,.int .i64 0,.int .i64 0,.int .i64 0,.int .i64 0],.bool false]) (two_results rfl _ _ _ 27 _ (0,0) _ rfl (Holds.all H2.out _ _ _ _ _) Tryz.underlying27 rfl (by kernel_rfl) rfl) rfl ?_
 exact ⟨rfl,below_set5 (g:=w.heap.size + 1 + 1) HB2.out (by omega)⟩
theorem time_any (n : Nd) (NA : Option Addr) (nm nc : Nat) (t : St) (w : World) : Calls Tryz.prog 26 #[nodeV0 n NA nm nc,t.val] w (fun e w' => e = .returned (.tuple #[(ov (timeR n t)).val,.bool (timeR n t).isSome]) ∧ Below w.heap.size w w'):=by
 unfold timeR
 by_cases h7 : n.k = 7
 · rw [if_pos h7];have:=time7 n NA nm nc t w;unfold nodeV0;rw [h7];exact this
 · rw [if_neg h7]
   by_cases h8 : n.k = 8
   · rw [if_pos h8];have:=time8 n NA nm nc t w;unfold nodeV0;rw [h8];exact this
   · rw [if_neg h8]
     by_cases h9 : n.k = 9
     · rw [if_pos h9];have:=time9 n NA nm nc t w;unfold nodeV0;rw [h9];exact this
     · rw [if_neg h9]
       by_cases hR : t.R
       · rw [if_pos hR];exact timeElse1 n NA nm nc t w h7 h8 h9 hR
       · rw [if_neg hR];exact timeElse0 n NA nm nc t w h7 h8 h9 hR
end Op
end

section
section
variable {w wa : World} {b o g j : Nat} {t : TypeId} {l : List Value} {n : Int} {k : Nat} {h : Bool} {v : Value}
theorem row_in (hr : Row w g t l) (hb : Below w.heap.size w wa) (hj : l[j]? = some v) : wa.cell? ⟨g,j,none⟩ = some v:=((hr.below hb hr.lt).cell j).trans hj
theorem ld_int (hc : w.cell? ⟨b,o,none⟩ = some (.int .i64 n)) : (Instr.loadAt 3 (.pointer (some ⟨b,o,none⟩))).run Tryz.prog w = .ok (.int .i64 n) w:=by go_simp
theorem ld_u8 (hc : w.cell? ⟨b,o,none⟩ = some (.int .u8 (k : Nat))) : (Instr.loadAt 5 (.pointer (some ⟨b,o,none⟩))).run Tryz.prog w = .ok (.int .u8 (k : Nat)) w:=by go_simp
theorem ld_bool (hc : w.cell? ⟨b,o,none⟩ = some (.bool h)) : (Instr.loadAt 4 (.pointer (some ⟨b,o,none⟩))).run Tryz.prog w = .ok (.bool h) w:=by go_simp
theorem ld_graph {A : Option Addr} {m c : Nat} (hc : w.cell? ⟨b,o,none⟩ = some (.slice A m c)) : (Instr.loadAt 23 (.pointer (some ⟨b,o,none⟩))).run Tryz.prog w = .ok (.slice A m c) w:=by go_simp
theorem ld_at (x : Pl) (hr : Row w g t x.cells) (hb : Below w.heap.size w wa) : (Instr.loadAt 27 (.pointer (some ⟨g,2,none⟩))).run Tryz.prog wa = .ok x.at_.val wa :=
 run_loadAt_part g 2 27 _ x.at_.cells (fun j v hj => by
  rw [add_at,(hr.below hb hr.lt).cell]
  match j,hj with
  | 0,hj => exact hj
  | 1,hj => exact hj
  | 2,hj => exact hj
  | 3,hj => exact hj
  | 4,hj => exact hj
  | j + 5,hj => simp [St.cells] at hj) Tryz.underlying27 rfl (by kernel_rfl)
theorem g_not' {K : Value → World → Prop} {a : Act} {o : Oper} {b : Bool} (t : TypeId) (x : Operand) (ho : o.op = .unOp .not t x) (hx : a.eval x = .bool b) (h : K (.bool (!b)) w) : Free.gets Tryz.prog K ((execOp a.eval o).run Tryz.prog w):=by
 unfold execOp;simp only [ho,hx];go_simp;exact h
theorem eqi_b {x y : Operand} {p q : Int} {b : Bool} (h : decide (p = q) = b) : ∀ w,(do eqGuard .eql 3 x y (.int .i64 p) (.int .i64 q);binOp .eql 3 (.int .i64 p) (.int .i64 q) : Sem Value).run Tryz.prog w = .ok (.bool b) w:=by
 intro w;subst h
 by_cases e : p = q
 · subst e;go_simp
 · have e2 : (p == q) = false:=by simpa using e
   go_simp
theorem nei_b {x y : Operand} {p q : Int} {b : Bool} (h : decide (p ≠ q) = b) : ∀ w,(do eqGuard .neq 3 x y (.int .i64 p) (.int .i64 q);binOp .neq 3 (.int .i64 p) (.int .i64 q) : Sem Value).run Tryz.prog w = .ok (.bool b) w:=by
 intro w;subst h
 by_cases e : p = q
 · subst e;go_simp
 · have e2 : (p == q) = false:=by simpa using e
   go_simp
theorem eqb_self {x y : Operand} (p : Bool) : ∀ w,(do eqGuard .eql 4 x y (.bool p) (.bool p);binOp .eql 4 (.bool p) (.bool p) : Sem Value).run Tryz.prog w = .ok (.bool true) w:=by
 intro w;cases p <;> go_simp
theorem lsi_b {x y : Operand} {p q : Int} {b : Bool} (h : decide (p < q) = b) : ∀ w,(do eqGuard .lss 3 x y (.int .i64 p) (.int .i64 q);binOp .lss 3 (.int .i64 p) (.int .i64 q) : Sem Value).run Tryz.prog w = .ok (.bool b) w:=by
 intro w;subst h;go_simp
theorem gei_b {x y : Operand} {p q : Int} {b : Bool} (h : decide (q ≤ p) = b) : ∀ w,(do eqGuard .geq 3 x y (.int .i64 p) (.int .i64 q);binOp .geq 3 (.int .i64 p) (.int .i64 q) : Sem Value).run Tryz.prog w = .ok (.bool b) w:=by
 intro w;subst h;go_simp
end
section
variable {P : Program} {l : List Oper} {a : Act} {o oj : Oper} {w : World} {F : World → Prop} {j t : Nat} {b r want : Bool} {val u v : Value} {vs us : List Value} {c x : Operand}
theorem c_if (hg : o.guard = some (j,want)) (hj : l[j]? = some oj) (hd : oj.dst = some t) (hv : a.eval (.tmp t) = .bool b) (hc : b = want → Free.gets P (fun v w' => v = val ∧ F w') ((execOp a.eval o).run P w)) (hF : F w) :
 Free.Comes P l a o w (fun v w' => v = (if b = want then val else undef) ∧ F w'):=by
 by_cases e : b = want
 · rw [show (if b = want then val else undef) = val from if_pos e]
   exact Free.c_yes hg hj hd (by rw [hv,e]) (hc e)
 · rw [show (if b = want then val else undef) = undef from if_neg e]
   exact Free.c_no hg hj hd (by rw [hv];revert e;cases b <;> cases want <;> simp) ⟨rfl,hF⟩
theorem pick_and (ho : o.op = .pick c x (.const (.bool false))) (hc : a.eval c = .bool b) (hx : a.eval x = if b = true then .bool r else undef) (hF : F w) : Free.gets P (fun v w' => v = .bool (b && r) ∧ F w') ((execOp a.eval o).run P w) :=
 Free.g_pick _ _ _ ho hc hx rfl ⟨by cases b <;> rfl,hF⟩
theorem pick_or (ho : o.op = .pick c (.const (.bool true)) x) (hc : a.eval c = .bool b) (hx : a.eval x = if b = false then .bool r else undef) (hF : F w) : Free.gets P (fun v w' => v = .bool (b || r) ∧ F w') ((execOp a.eval o).run P w) :=
 Free.g_pick _ _ _ ho hc rfl hx ⟨by cases b <;> rfl,hF⟩
theorem cons_eq (h : u = v) (k : us = vs) : u :: us = v :: vs:=by rw [h,k]
end
structure NodeAt (w : World) (A : Option Addr) (n c : Nat) (nd : Int) (y : Gn) (N : Bool) (pt : Value) : Prop where
 ix : N = true → ∀ wa,(Instr.indexAt 23 (.slice A n c) (.int .i64 nd)).run Tryz.prog wa = .ok pt wa
 ld : N = true → ∀ wa,Below w.heap.size w wa → (Instr.loadAt 58 pt).run Tryz.prog wa = .ok (.agg #[.int .u8 (y.nd.k : Nat),.int .u8 (y.nd.a : Nat),.int .i64 y.nd.b,.int .i64 y.nd.d,.slice y.A y.nd.ins.length y.c]) wa
 f0 : N = true → ∀ wa,(Instr.fieldAt 58 pt 0).run Tryz.prog wa = .ok pt wa
 k : N = true → ∀ wa,Below w.heap.size w wa → (Instr.loadAt 5 pt).run Tryz.prog wa = .ok (.int .u8 (y.nd.k : Nat)) wa
theorem nodeAt {w : World} {A : Option Addr} {l : List Gn} (hG : Gr w A l) (hD : ∀ x ∈ nds l,-1000 ≤ x.d ∧ x.d ≤ 1000) (c : Nat) (nd : Int) :
 ∃ y pt,NodeAt w A l.length c nd y (decide (0 ≤ nd ∧ nd < (l.length : Int))) pt ∧ (0 ≤ nd ∧ nd < (l.length : Int) → l[nd.toNat]? = some y) ∧ -1000 ≤ y.nd.d ∧ y.nd.d ≤ 1000:=by
 by_cases h : 0 ≤ nd ∧ nd < (l.length : Int)
 · obtain ⟨i,rfl⟩:=Int.eq_ofNat_of_zero_le h.1
   have hil : i < l.length:=by omega
   have hiz:=h.2
   obtain ⟨y,hy⟩ : ∃ y,l[i]? = some y:=⟨_,List.getElem?_eq_getElem hil⟩
   have hyn : y.nd ∈ nds l:=List.mem_map.2 ⟨y,List.mem_of_getElem? hy,rfl⟩
   obtain ⟨gb,go,rfl,hbl,hcl⟩:=hG.at_ hy
   obtain ⟨gb',go',e',_,hln⟩:=hG.load hy
   cases e'
   refine ⟨y,.pointer (some ⟨gb,go + i * 5,none⟩),⟨fun _ wa => by go_simp,fun _ wa hb => hln wa hb,fun _ wa => by go_simp,fun _ wa hb => ld_u8 (hcl wa hb).1⟩,fun _ => by rw [Int.toNat_natCast];exact hy,hD _ hyn⟩
 · have e : decide (0 ≤ nd ∧ nd < (l.length : Int)) = false:=decide_eq_false h
   exact ⟨⟨⟨0,0,0,0,[]⟩,none,0⟩,undef,⟨fun k => (by rw [e] at k;cases k),fun k => (by rw [e] at k;cases k),fun k => (by rw [e] at k;cases k),fun k => (by rw [e] at k;cases k)⟩,fun k => (h k).elim,by decide,by decide⟩
theorem impIsNode_any (A : Option Addr) (n c : Nat) (i : Int) (w : World) : Calls Tryz.prog 55 #[.slice A n c,.int .i64 i] w fun e w' => e = .returned (.bool (decide (0 ≤ i ∧ i < (n : Int)))) ∧ w = w':=by
 by_cases h0 : 0 ≤ i
 · by_cases h1 : i < (n : Int)
   · rw [decide_eq_true (And.intro h0 h1)]
     go_enter Tryz.func55,Tryz.ntmps55
     go_wp2_with fail
     go_ret
     exact ⟨rfl,rfl⟩
   · rw [decide_eq_false fun h => h1 h.2]
     go_enter Tryz.func55,Tryz.ntmps55
     go_wp2_with fail
     go_ret
     exact ⟨rfl,rfl⟩
 · rw [decide_eq_false fun h => h0 h.1]
   go_enter Tryz.func55,Tryz.ntmps55
   go_wp2_with fail
   go_ret
   exact ⟨rfl,rfl⟩
theorem impWaits_any (k : Nat) (w : World) : Calls Tryz.prog 28 #[.int .u8 (k : Nat)] w fun e w' => e = .returned (.bool (decide (k = 5) || decide (k = 6))) ∧ w = w':=by
 by_cases h5 : k = 5
 · subst h5
   go_enter Tryz.func28,Tryz.ntmps28
   go_wp2_with fail
   go_ret
   exact ⟨rfl,rfl⟩
 · have z5 : (((k : Nat) : Int) == 5) = false:=by simp;omega
   by_cases h6 : k = 6
   · subst h6
     go_enter Tryz.func28,Tryz.ntmps28
     go_wp2_with fail
     go_ret
     exact ⟨rfl,rfl⟩
   · have z6 : (((k : Nat) : Int) == 6) = false:=by simp;omega
     rw [decide_eq_false h5,decide_eq_false h6]
     clear h5 h6
     go_enter Tryz.func28,Tryz.ntmps28
     go_wp2_with fail
     go_ret
     exact ⟨rfl,rfl⟩
theorem mayBe_any (k : Nat) (h : Bool) (w : World) : Calls Tryz.prog 105 #[.int .u8 (k : Nat),.bool h] w fun e w' => e = .returned (.bool (mayK k h)) ∧ w = w':=by
 unfold mayK
 cases h with
 | false =>
   rw [if_neg (by simp)]
   by_cases h1 : k = 1
   · subst h1
     go_enter Tryz.func105,Tryz.ntmps105
     go_wp2_with fail
     go_ret
     exact ⟨rfl,rfl⟩
   · have z1 : (((k : Nat) : Int) != 1) = true:=by simp;omega
     rw [decide_eq_false h1]
     clear h1
     go_enter Tryz.func105,Tryz.ntmps105
     go_wp2_with fail
     go_ret
     exact ⟨rfl,rfl⟩
 | true =>
   rw [if_pos rfl]
   by_cases h1 : k = 1
   · subst h1
     go_enter Tryz.func105,Tryz.ntmps105
     go_wp2_with fail
     go_ret
     exact ⟨rfl,rfl⟩
   · have z1 : (((k : Nat) : Int) == 1) = false:=by simp;omega
     have HW:=Hd (impWaits_any k w)
     rw [decide_eq_false h1,Bool.false_or]
     generalize (decide (k = 5) || decide (k = 6)) = B at *
     clear h1
     go_enter Tryz.func105,Tryz.ntmps105
     go_wp2_with fail
     refine HW.out.mono ?_;rintro e w1 ⟨rfl,rfl⟩
     dsimp only
     go_wp2_with fail
     go_ret
     exact ⟨rfl,rfl⟩
theorem inD7 {n : Nd} (h : n.k = 7) : n.inD = n.d - 1:=by unfold Nd.inD Nd.more;rw [if_pos h]
theorem inD8 {n : Nd} (h : n.k = 8) : n.inD = n.d + 1:=by unfold Nd.inD Nd.more;rw [if_neg (by omega),if_pos h];omega
theorem inD0 {n : Nd} (h7 : n.k ≠ 7) (h8 : n.k ≠ 8) : n.inD = n.d:=by unfold Nd.inD Nd.more;rw [if_neg h7,if_neg h8];omega
theorem depthIn_any (n : Nd) (NA : Option Addr) (nm nc : Nat) (w : World) (hd : -1000 ≤ n.d ∧ n.d ≤ 1000) : Calls Tryz.prog 59 #[.agg #[.int .u8 (n.k : Nat),.int .u8 (n.a : Nat),.int .i64 n.b,.int .i64 n.d,.slice NA nm nc]] w fun e w' => e = .returned (.int .i64 n.inD) ∧ Below w.heap.size w w':=by
 have HB:=Hd ((Below.refl _ w).alloc (Nat.le_refl _) (.cells #[.int .u8 (n.k : Nat),.int .u8 (n.a : Nat),.int .i64 n.b,.int .i64 n.d,.slice NA nm nc] 58))
 have s1 : IntKind.i64.wrap (n.d - 1) = n.d - 1:=IntWalk.i64_in _ (by omega)
 have s2 : IntKind.i64.wrap (n.d + 1) = n.d + 1:=IntWalk.i64_in _ (by omega)
 by_cases h7 : n.k = 7
 · rw [inD7 h7]
   have z7 : (((n.k : Nat) : Int) == 7) = true:=by simp;omega
   clear h7 hd
   go_enter Tryz.func59,Tryz.ntmps59
   go_wp2_with fail
   go_ret
   exact ⟨rfl,HB.out⟩
 · have z7 : (((n.k : Nat) : Int) == 7) = false:=by simp;omega
   by_cases h8 : n.k = 8
   · rw [inD8 h8]
     have z8 : (((n.k : Nat) : Int) == 8) = true:=by simp;omega
     clear h8 hd h7
     go_enter Tryz.func59,Tryz.ntmps59
     go_wp2_with fail
     go_ret
     exact ⟨rfl,HB.out⟩
   · rw [inD0 h7 h8]
     have z8 : (((n.k : Nat) : Int) == 8) = false:=by simp;omega
     clear h8 hd h7
     go_enter Tryz.func59,Tryz.ntmps59
     go_wp2_with fail
     go_ret
     exact ⟨rfl,HB.out⟩
theorem inDepth_any (n : Nd) (NA : Option Addr) (nm nc : Nat) (w : World) (hd : -1000 ≤ n.d ∧ n.d ≤ 1000) : Calls Tryz.prog 66 #[.agg #[.int .u8 (n.k : Nat),.int .u8 (n.a : Nat),.int .i64 n.b,.int .i64 n.d,.slice NA nm nc]] w fun e w' => e = .returned (.int .i64 n.inD) ∧ Below w.heap.size w w':=by
 have HB:=Hd ((Below.refl _ w).alloc (Nat.le_refl _) (.cells #[.int .u8 (n.k : Nat),.int .u8 (n.a : Nat),.int .i64 n.b,.int .i64 n.d,.slice NA nm nc] 58))
 have s1 : IntKind.i64.wrap (n.d - 1) = n.d - 1:=IntWalk.i64_in _ (by omega)
 have s2 : IntKind.i64.wrap (n.d + 1) = n.d + 1:=IntWalk.i64_in _ (by omega)
 by_cases h7 : n.k = 7
 · rw [inD7 h7]
   have z7 : (((n.k : Nat) : Int) == 7) = true:=by simp;omega
   clear h7 hd
   go_enter Tryz.func66,Tryz.ntmps66
   go_wp2_with fail
   go_ret
   exact ⟨rfl,HB.out⟩
 · have z7 : (((n.k : Nat) : Int) == 7) = false:=by simp;omega
   by_cases h8 : n.k = 8
   · rw [inD8 h8]
     have z8 : (((n.k : Nat) : Int) == 8) = true:=by simp;omega
     clear h8 hd h7
     go_enter Tryz.func66,Tryz.ntmps66
     go_wp2_with fail
     go_ret
     exact ⟨rfl,HB.out⟩
   · rw [inD0 h7 h8]
     have z8 : (((n.k : Nat) : Int) == 8) = false:=by simp;omega
     clear h8 hd h7
     go_enter Tryz.func66,Tryz.ntmps66
     go_wp2_with fail
     go_ret
     exact ⟨rfl,HB.out⟩
end

section
def OffS (G : Nat → Prop) (w : World) : Prop:=∀ k,G k → ∀ t l,Row w k t l → t = 34 ∨ t = 27
section
variable {G : Nat → Prop} {w w' : World} {b base K n : Nat} {t T : TypeId} {l xs : List Value} {v : Value}
theorem row_offS (h : Row w b t l) (hG : OffS G w) (ht : Touch G w w') (h1 : t ≠ 34) (h2 : t ≠ 27) : Row w' b t l:=h.touch ht fun hb => (hG b hb t l h).elim h1 h2
theorem own_blockRow (h : w.ownsRow base T K v n xs) {k : Nat} (hk : v.ownBlock = some k) : ∃ l,Row w k T l:=by
 obtain ⟨_,⟨rfl,_⟩ | ⟨g,cap,cur,rfl,_,hh,_⟩⟩:=h
 · cases hk
 · injection hk with hk
   subst hk
   exact ⟨cur.toList,by unfold Row;rw [hh,Array.toArray_toList]⟩
theorem own_offS (h : w.ownsRow base T K v n xs) (hG : OffS G w) (ht : Touch G w w') (h1 : T ≠ 34) (h2 : T ≠ 27) : w'.ownsRow base T K v n xs :=
 ownsRow_touch h ht fun k hk e => by
  obtain ⟨l,hl⟩:=own_blockRow h hk
  exact (hG k e T l hl).elim h1 h2
theorem tt_offS {B : Nat} {vs : List Sl} {L : List (List Sm)} (h : TT w base B vs L) (hG : OffS G w) (ht : Touch G w w') : TT w' base B vs L :=
 ⟨row_offS h.row hG ht (by decide) (by decide),h.lo,h.len,fun j s l hv hl => own_offS (h.own j s l hv hl) hG ht (by decide) (by decide),h.apart⟩
theorem pth_offS {p F c : Nat} {A : Option Addr} {lg : List Gn} {fs : List (Option Sl)} (h : Pth w base p F A c lg fs) (hG : OffS G w) (ht : Touch G w w') : Pth w' base p F A c lg fs where
 row:=row_offS h.row hG ht (by decide) (by decide)
 graph:=⟨own_offS h.graph.row hG ht (by decide) (by decide),h.graph.ok,fun x hx => own_offS (h.graph.ins x hx) hG ht (by decide) (by decide)⟩
 fans:=row_offS h.fans hG ht (by decide) (by decide)
 len:=h.len
 lo:=h.lo
 known:=fun k s hk => by
  obtain ⟨B,L,D,vs,e,h1,h2⟩:=h.known k s hk
  exact ⟨B,L,D,vs,e,tt_offS h1 hG ht,h2⟩
theorem ownG_offS {lg : List Gn} (h : OwnG w base v lg) (hG : OffS G w) (ht : Touch G w w') : OwnG w' base v lg:=⟨own_offS h.row hG ht (by decide) (by decide),h.ok,fun x hx => own_offS (h.ins x hx) hG ht (by decide) (by decide)⟩
theorem ownG_touchF {lg : List Gn} {F : Nat} (h : OwnG w base v lg) (hF : Row w F 195 l) (ht : Touch (fun k => k = F) w w') : OwnG w' base v lg:=⟨own_touchF h.row hF (by decide) ht,h.ok,fun x hx => own_touchF (h.ins x hx) hF (by decide) ht⟩
end
structure GPar where
 w0 : World
 base : Nat
 p : Nat
 F : Nat
 A : Option Addr
 c : Nat
 lg : List Gn
 bg : Nat
 GA : Option Addr
 gc : Nat
 lh : List Gn
 Bn : Nat
 Bt : Nat
 Bg : Nat
 Bp : Nat
 n : Nat
 b1 : Nat
structure GOk (q : GPar) : Prop where
 nd : nds q.lh = nds q.lg
 len : q.lg.length ≤ 14
 ins : ∀ x ∈ nds q.lg,x.ins.length ≤ 40
 fine : Fine (nds q.lg)
 node : q.n < q.lg.length
 lt : q.w0.heap.size ≤ q.Bt ∧ q.w0.heap.size ≤ q.b1
structure Gat (q : GPar) (w : World) (v : Value) : Prop where
 out : Touch (fun k => k = q.F) q.w0 w
 nb : Row w q.Bn 3 [.int .i64 (q.n : Nat)]
 tb : Row w q.Bt 34 [v]
 gb : Row w q.Bg 23 [.slice q.GA q.lh.length q.gc]
 pb : Row w q.Bp 30 [.pointer (some ⟨q.p,0,none⟩)]
 pth : ∃ fs,Pth w q.base q.p q.F q.A q.c q.lg fs
 gr : OwnG w q.bg (.slice q.GA q.lh.length q.gc) q.lh
def OwnT (q : GPar) (w : World) (v : Value) (M : List St) : Prop:=w.ownsRow q.b1 27 kindU.K v M.length (Rw.row kindU M)
section
variable {q : GPar} {w w' : World} {v v' : Value} {M m : List St} {b base K n : Nat} {T t : TypeId} {l xs : List Value}
theorem Gat.below (h : Gat q w v) (hb : Below w.heap.size w w') : Gat q w' v:=by
 obtain ⟨h1,h2,h3,h4,h5,⟨fs,h6⟩,h7⟩:=h
 exact ⟨h1.trans (Touch.of_below hb),h2.below hb h2.lt,h3.below hb h3.lt,h4.below hb h4.lt,h5.below hb h5.lt,⟨fs,h6.below hb⟩,h7.below hb⟩
theorem Gat.come (h : Gat q w v) (hp : ∃ fs,Pth w' q.base q.p q.F q.A q.c q.lg fs) (ht : Touch (fun k => k = q.F) w w') : Gat q w' v:=by
 obtain ⟨h1,h2,h3,h4,h5,⟨fs,h6⟩,h7⟩:=h
 exact ⟨h1.trans ht,h2.touch ht (row_apart h2 h6.fans (by decide)),h3.touch ht (row_apart h3 h6.fans (by decide)),h4.touch ht (row_apart h4 h6.fans (by decide)),h5.touch ht (row_apart h5 h6.fans (by decide)),hp,ownG_touchF h7 h6.fans ht⟩
theorem OwnT.come (h : OwnT q w v M) (hg : Gat q w v') (ht : Touch (fun k => k = q.F) w w') : OwnT q w' v M:=by
 obtain ⟨fs,h6⟩:=hg.pth
 exact own_touchF h h6.fans (by decide) ht
theorem Gat.iter (h : Gat q w v) {r : Nat} (hg : w.grownBy w' (some r)) (hr : ∀ t l,¬ Row w r t l) (hlo : q.w0.heap.size ≤ r) : Gat q w' v:=by
 have ht : Touch (fun k => k = r) w w':=Touch.of_grown hg fun k e => by cases e;rfl
 have hG : OffS (fun k => k = r) w:=fun k e t l hrow => by subst e;exact (hr t l hrow).elim
 obtain ⟨h1,h2,h3,h4,h5,⟨fs,h6⟩,h7⟩:=h
 refine ⟨h1.trans' ht fun i e => .inr (by subst e;exact hlo),row_offS h2 hG ht (by decide) (by decide),h3.touch ht fun e => ?_,row_offS h4 hG ht (by decide) (by decide),row_offS h5 hG ht (by decide) (by decide),⟨fs,pth_offS h6 hG ht⟩,ownG_offS h7 hG ht⟩
 exact hr _ _ (by rw [← e];exact h3)
theorem own_iter (h : w.ownsRow base T K v n xs) {r : Nat} (hg : w.grownBy w' (some r)) (hr : ∀ t l,¬ Row w r t l) : w'.ownsRow base T K v n xs :=
 ownsRow_touch h (Touch.of_grown (F:=fun k => k = r) hg fun k e => by cases e;rfl) fun k hk e => by
  obtain ⟨l,hl⟩:=own_blockRow h hk
  subst e
  exact hr _ _ hl
theorem Gat.grown (h : Gat q w v) (hk : GOk q) (ho : OwnT q w v M) (hg : w.grownBy w' v.ownBlock) : Gat q w' v:=by
 have ht : Touch (fun k => v.ownBlock = some k) w w':=Touch.of_grown hg fun k e => e
 have hG : OffS (fun k => v.ownBlock = some k) w:=fun k e t l hrow => by
  obtain ⟨l',hl'⟩:=own_blockRow ho e
  have:=hrow.symm.trans hl'
  simp only [Option.some.injEq,Obj.cells.injEq] at this
  exact .inr this.2.1
 obtain ⟨h1,h2,h3,h4,h5,⟨fs,h6⟩,h7⟩:=h
 refine ⟨h1.trans' ht fun i e => .inr (Nat.le_trans hk.lt.2 (ho.lt i e).1),row_offS h2 hG ht (by decide) (by decide),h3.touch ht fun e => ?_,row_offS h4 hG ht (by decide) (by decide),row_offS h5 hG ht (by decide) (by decide),⟨fs,pth_offS h6 hG ht⟩,ownG_offS h7 hG ht⟩
 obtain ⟨l',hl'⟩:=own_blockRow ho e
 exact row_apart h3 hl' (by decide) rfl
theorem row_grown (h : Row w b t l) (ho : OwnT q w v M) (hg : w.grownBy w' v.ownBlock) (hne : t ≠ 27) : Row w' b t l :=
 h.grown hg fun e => by
  obtain ⟨l',hl'⟩:=own_blockRow ho e.symm
  exact row_apart h hl' hne rfl
theorem Gat.store (h : Gat q w v) (hk : GOk q) (u : Value) : Gat q (w.setCell ⟨q.Bt,0,none⟩ u) u:=by
 have ht : Touch (fun k => k = q.Bt) w (w.setCell ⟨q.Bt,0,none⟩ u):=(Touch.refl (fun k => k = q.Bt) w).setCell (.inl rfl) u
 have hG : OffS (fun k => k = q.Bt) w:=fun k e t l hrow => by
  subst e
  have:=hrow.symm.trans h.tb
  simp only [Option.some.injEq,Obj.cells.injEq] at this
  exact .inl this.2.1
 obtain ⟨h1,h2,h3,h4,h5,⟨fs,h6⟩,h7⟩:=h
 exact ⟨h1.trans' ht fun i e => .inr (by subst e;exact hk.lt.1),row_offS h2 hG ht (by decide) (by decide),h3.put 0 u,row_offS h4 hG ht (by decide) (by decide),row_offS h5 hG ht (by decide) (by decide),⟨fs,pth_offS h6 hG ht⟩,ownG_offS h7 hG ht⟩
theorem OwnT.store (h : OwnT q w v M) (hg : Gat q w v') (u : Value) : OwnT q (w.setCell ⟨q.Bt,0,none⟩ u) v M :=
 ownsRow_touch (F:=fun k => k = q.Bt) h ((Touch.refl (fun k => k = q.Bt) w).setCell (.inl rfl) u) fun k hk e => by
  obtain ⟨l,hl⟩:=own_blockRow h hk
  subst e
  exact row_apart hg.tb hl (by decide) rfl
theorem row_store (h : Row w b t l) (hg : Gat q w v') (hne : t ≠ 34) (u : Value) : Row (w.setCell ⟨q.Bt,0,none⟩ u) b t l:=h.far (fun e => row_apart h hg.tb hne e) u
def Kept (w w' : World) : Prop:=∀ (k : Nat) (o : Obj),w.heap[k]? = some o → o.isCells = false → w'.heap[k]? = some o
theorem Kept.trans {w'' : World} (h : Kept w w') (k : Kept w' w'') : Kept w w'':=fun i o hi ho => k i o (h i o hi ho) ho
theorem Kept.below (hb : Below w.heap.size w w') : Kept w w':=fun k o hk _ => (hb.block k (Array.getElem?_eq_some_iff.1 hk).1).trans hk
theorem Kept.touch {F : Nat} (hF : Row w F t l) (ht : Touch (fun k => k = F) w w') : Kept w w':=fun k o hk ho => (ht.block k (Array.getElem?_eq_some_iff.1 hk).1 (fun e => by
 subst e
 have:=hF.symm.trans hk
 injection this with this
 subst this
 cases ho)).trans hk
theorem Kept.grown (h : OwnT q w v M) (hg : w.grownBy w' v.ownBlock) : Kept w w':=fun k o hk ho => (hg.block k (Array.getElem?_eq_some_iff.1 hk).1 (fun e => by
 obtain ⟨l,hl⟩:=own_blockRow h e.symm
 have:=hl.symm.trans hk
 injection this with this
 subst this
 cases ho)).trans hk
theorem Kept.store (h : Gat q w v) (u : Value) : Kept w (w.setCell ⟨q.Bt,0,none⟩ u):=Kept.touch h.tb ((Touch.refl (fun k => k = q.Bt) w).setCell (.inl rfl) u)
theorem OwnT.append (h : OwnT q w v M) (hw : q.b1 ≤ w.heap.size) (ys : List St) {y : Value} (hy : ∃ base,w.ownsRow base 27 kindU.K y ys.length (Rw.row kindU ys)) (hM : M.length + ys.length ≤ 1000000000) (ty : TypeId) :
 ∃ v' w',(Builtin.append_ #[34,34] ty #[v,y]).run Tryz.prog w = .ok v' w' ∧ OwnT q w' v' (M ++ ys) ∧ w.grownBy w' v.ownBlock:=by
 obtain ⟨i,hi,hz0,hz1,hz2⟩:=info_parts Tryz.infoStamp
 obtain ⟨base,hy⟩:=hy
 have hyo:=hy
 obtain ⟨_,⟨rfl,h0⟩ | ⟨g,cap,cur,rfl,hg,hh,h1,h2,_,ht⟩⟩:=hy
 · have e0 : ys = []:=List.eq_nil_of_length_eq_zero h0
   subst e0
   refine ⟨v,w,run_append_owned_none (P:=Tryz.prog) (w:=w) q.b1 34 ty 27 i kindU.K Tryz.underlying34 hi v M.length (Rw.row kindU M) h,by rw [List.append_nil];exact h,?_⟩
   exact ⟨rfl,rfl,rfl,Nat.le_refl _,fun _ _ _ => rfl⟩
 · obtain ⟨v',w',hr,r2,r3,_,_⟩:=run_append_own_at (P:=Tryz.prog) w q.b1 34 ty 27 i _ kindU.K 40 Tryz.underlying34 hi hz0 hz1 hz2 rfl kindU.pos v M.length (Rw.row kindU M) h ⟨g,0,none⟩ ys.length cap (Rw.row kindU ys) (Rw.row_len ys)
    (fun j u hj => hyo.cells (g:=g) rfl j u hj) (Rw.row_one ys) (by unfold maxLen;omega) (by omega) hw
   refine ⟨v',w',hr,?_,r3⟩
   unfold OwnT
   rw [List.length_append,Rw.row_append]
   exact r2
end
end
end Go.Proofs.YtonelpnhoiajgaaGreatDoor
