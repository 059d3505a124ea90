import Derived.Test.YtonelpnhoiajgaaGreatDoorHd
import Derived.Test.YtonelpnhoiajgaaGreatDoorCa0
import Derived.Laws.Rows
import Derived.Test.YtonelpnhoiajgaaGreatDoorCa1
namespace Go.Proofs.YtonelpnhoiajgaaGreatDoor
set_option linter.unusedSimpArgs false
set_option maxRecDepth 100000
open Go.ChangeShapes Go.WideShapes Go.ChangeAt Go.RowKit Go.BigFrame
set_option linter.unusedVariables false
section
def Sm.cn (s : Sm) (i n : Int) : Int:=if s.kp ≤ i then s.tl (i - s.kp) else if i = s.kp - 1 then n + s.ad else n
def Sm.al (s : Sm) (i n : Int) : Int:=if i < s.to then s.cn i n else 0
theorem Sm.cn_N {s : Sm} {i n : Int} : s.cn i n = s.N i + (if i < s.kp then n else 0):=by
 unfold Sm.cn Sm.N
 by_cases h : s.kp ≤ i
 · rw [if_pos h,if_pos h,if_neg (by omega)];omega
 · rw [if_neg h,if_neg h]
   by_cases h2 : i = s.kp - 1
   · rw [if_pos h2,if_pos h2,if_pos (show i < s.kp by omega)];omega
   · rw [if_neg h2,if_neg h2,if_pos (show i < s.kp by omega)];omega
theorem makes_any (s : Sm) (w : World) : Calls Tryz.prog 150 #[s.v] w fun e w' => e = .returned (.func (.func 184) #[] #[.pointer (some ⟨w.heap.size,0,none⟩)]) ∧ w' = w.alloc (.cells #[.int .i64 s.fr,.int .i64 s.to,.int .i64 s.kp,.int .i64 s.ad,.int .i64 s.t0,.int .i64 s.t1,.int .i64 s.t2] 82):=by
 unfold Sm.v
 go_enter Tryz.func150,Tryz.ntmps150
 go_wp2_with fail
 go_ret
 exact ⟨rfl,rfl⟩
set_option maxHeartbeats 4000000 in
theorem makes1_any (s : Sm) (i : Nat) (n : Int) (b : Nat) (w : World) (hR : s.R) (hi : i < 3) (hn : 0 ≤ n ∧ n ≤ 1000) (hh : HoldsM w b 82 s) : Calls Tryz.prog 184 #[.int .i64 i,.int .i64 n,.pointer (some ⟨b,0,none⟩)] w fun e w' => e = .returned (.int .i64 (s.cn i n)) ∧ w = w':=by
 have hk : s.kp = 0 ∨ s.kp = 1 ∨ s.kp = 2 ∨ s.kp = 3:=by unfold Sm.R at hR;omega
 have hi3 : i = 0 ∨ i = 1 ∨ i = 2:=by omega
 have hw:=IntWalk.i64_in (n + s.ad) (by unfold Sm.R at hR;omega)
 obtain ⟨c0,c1,c2,c3,c4,c5,c6⟩:=hh.cells7
 clear hR hi hh hn
 obtain ⟨fr,to,kp,ad,x,y,z⟩:=s
 simp only at hk c0 c1 c2 c3 c4 c5 c6 hw
 rcases hk with rfl | rfl | rfl | rfl <;> rcases hi3 with rfl | rfl | rfl
 all_goals
  simp only [Sm.cn,Sm.tl]
  go_enter Tryz.func184,Tryz.ntmps184
  go_wp2_with fail
  go_ret
  exact ⟨rfl,rfl⟩
def pt (k j : Nat) (x : Int) : Int:=if j < k then x else 0
set_option maxHeartbeats 4000000 in
theorem along_any (s : Sm) (l0 l1 l2 : Int) (w : World) (hR : s.R) (h0 : 0 ≤ l0 ∧ l0 ≤ 1000) (h1 : 0 ≤ l1 ∧ l1 ≤ 1000) (h2 : 0 ≤ l2 ∧ l2 ≤ 1000) :
 Calls Tryz.prog 87 #[s.v,.agg #[.int .i64 l0,.int .i64 l1,.int .i64 l2]] w fun e w' => e = .returned (.agg #[.int .i64 (s.al 0 l0),.int .i64 (s.al 1 l1),.int .i64 (s.al 2 l2)]) ∧ Below w.heap.size w w':=by
 obtain ⟨n,hn⟩ : ∃ n : Nat,s.to = n:=⟨s.to.toNat,by unfold Sm.R at hR;omega⟩
 have hn3 : n ≤ 3:=by unfold Sm.R at hR;omega
 have e0 : s.al 0 l0 = pt n 0 (s.cn 0 l0):=by unfold Sm.al pt;rw [hn];by_cases h : 0 < n <;> simp [h]
 have e1 : s.al 1 l1 = pt n 1 (s.cn 1 l1):=by unfold Sm.al pt;rw [hn];by_cases h : 1 < n <;> simp [h] <;> omega
 have e2 : s.al 2 l2 = pt n 2 (s.cn 2 l2):=by unfold Sm.al pt;rw [hn];by_cases h : 2 < n <;> simp [h] <;> omega
 rw [e0,e1,e2]
 clear e0 e1 e2
 have c0:=fun b w => makes1_any s 0 l0 b w hR (by omega) h0
 have c1:=fun b w => makes1_any s 1 l1 b w hR (by omega) h1
 have c2:=fun b w => makes1_any s 2 l2 b w hR (by omega) h2
 have cm:=fun w => makes_any s w
 simp only [Int.ofNat_eq_natCast,Int.natCast_zero,Int.natCast_one] at c0 c1
 rw [show ((2 : Nat) : Int) = 2 from rfl] at c2
 generalize s.cn 0 l0 = m0 at *
 generalize s.cn 1 l1 = m1 at *
 generalize s.cn 2 l2 = m2 at *
 have C0:=Hd c0;have C1:=Hd c1;have C2:=Hd c2;have CM:=Hd cm
 clear c0 c1 c2 cm hR h0 h1 h2
 unfold Sm.v at *
 obtain ⟨fr,to,kp,ad,x,y,z⟩:=s
 simp only at hn CM ⊢
 subst hn
 go_enter Tryz.func87,Tryz.ntmps87
 go_wp2_with fail
 refine (CM.out _).mono ?_;rintro e w2 ⟨rfl,rfl⟩
 go_wp2_with fail
 go_loopw [12] (fun i wr => ∃ (k : Nat),k ≤ n ∧ i = .int .i64 k ∧ Row wr (w.heap.size + 1) 126 [.int .i64 l0,.int .i64 l1,.int .i64 l2] ∧ Row wr (w.heap.size + 2) 126 [.int .i64 0,.int .i64 0,.int .i64 0] ∧ Row wr (w.heap.size + 3) 126 [.int .i64 (pt k 0 m0),.int .i64 (pt k 1 m1),.int .i64 (pt k 2 m2)] ∧ HoldsM wr (w.heap.size + 4) 82 ⟨fr,(n : Int),kp,ad,x,y,z⟩ ∧ Below w.heap.size w wr) (fun i _ => n - (intOf i).toNat)
 case atStart =>
  refine ⟨0,by omega,rfl,?_,?_,?_,?_,?_⟩
  · have:=(((Row.made (w.alloc (.cells #[.int .i64 fr,.int .i64 n,.int .i64 kp,.int .i64 ad,.int .i64 x,.int .i64 y,.int .i64 z] 82)) 126 [.int .i64 l0,.int .i64 l1,.int .i64 l2]).alloc (.cells #[.int .i64 0,.int .i64 0,.int .i64 0] 126)).alloc (.cells #[.int .i64 0,.int .i64 0,.int .i64 0] 126)).alloc (.cells #[.int .i64 fr,.int .i64 n,.int .i64 kp,.int .i64 ad,.int .i64 x,.int .i64 y,.int .i64 z] 82)
    simpa only [size_alloc] using this
  · have:=((Row.made ((w.alloc (.cells #[.int .i64 fr,.int .i64 n,.int .i64 kp,.int .i64 ad,.int .i64 x,.int .i64 y,.int .i64 z] 82)).alloc (.cells #[.int .i64 l0,.int .i64 l1,.int .i64 l2] 126)) 126 [.int .i64 0,.int .i64 0,.int .i64 0]).alloc (.cells #[.int .i64 0,.int .i64 0,.int .i64 0] 126)).alloc (.cells #[.int .i64 fr,.int .i64 n,.int .i64 kp,.int .i64 ad,.int .i64 x,.int .i64 y,.int .i64 z] 82)
    simpa only [size_alloc] using this
  · have:=(Row.made (((w.alloc (.cells #[.int .i64 fr,.int .i64 n,.int .i64 kp,.int .i64 ad,.int .i64 x,.int .i64 y,.int .i64 z] 82)).alloc (.cells #[.int .i64 l0,.int .i64 l1,.int .i64 l2] 126)).alloc (.cells #[.int .i64 0,.int .i64 0,.int .i64 0] 126)) 126 [.int .i64 0,.int .i64 0,.int .i64 0]).alloc (.cells #[.int .i64 fr,.int .i64 n,.int .i64 kp,.int .i64 ad,.int .i64 x,.int .i64 y,.int .i64 z] 82)
    rw [size_alloc,size_alloc,size_alloc] at this
    exact this
  · have:=HoldsM.made ((((w.alloc (.cells #[.int .i64 fr,.int .i64 n,.int .i64 kp,.int .i64 ad,.int .i64 x,.int .i64 y,.int .i64 z] 82)).alloc (.cells #[.int .i64 l0,.int .i64 l1,.int .i64 l2] 126)).alloc (.cells #[.int .i64 0,.int .i64 0,.int .i64 0] 126)).alloc (.cells #[.int .i64 0,.int .i64 0,.int .i64 0] 126)) 82 ⟨fr,(n : Int),kp,ad,x,y,z⟩
    simpa only [size_alloc] using this
  · exact (((((Below.refl _ _).alloc (Nat.le_refl _) _).alloc (by simp) _).alloc (by simp;omega) _).alloc (by simp;omega) _).alloc (by simp;omega) _
 case round =>
  obtain ⟨k,hk,rfl,hra,hrr,hrb,hrs,hbw⟩:=hrel
  by_cases hlt : k < n
  · have hlt' : (k : Int) < (n : Int):=by omega
    have a0:=hra.cell 0;have a1:=hra.cell 1;have a2:=hra.cell 2
    have b0:=hrb.cell 0;have b1:=hrb.cell 1;have b2:=hrb.cell 2
    have f0:=hrb.free 0;have f1:=hrb.free 1;have f2:=hrb.free 2
    simp only [List.getElem?_cons_succ,List.getElem?_cons_zero] at a0 a1 a2 b0 b1 b2
    have HRA:=Hd hra;have HRR:=Hd hrr;have HRB:=Hd hrb;have HRS:=Hd hrs;have HBW:=Hd hbw;clear hra hrr hrb hrs hbw
    have hcase : k = 0 ∨ k = 1 ∨ k = 2:=by omega
    rcases hcase with rfl | rfl | rfl
    · go_wp2_with fail
      refine (C0.out _ _ HRS.out).mono ?_;rintro e w5 ⟨rfl,rfl⟩
      go_wp2_with fail
      go_roundw
      case rel => exact ⟨1,by omega,rfl,HRA.out.far (by simp) _,HRR.out.far (by simp) _,HRB.out.put 0 _,HRS.out.far (by simp) _,HBW.out.setCell (by simp;omega) _⟩
      case measure => simp [intOf];omega
    · go_wp2_with fail
      refine (C1.out _ _ HRS.out).mono ?_;rintro e w5 ⟨rfl,rfl⟩
      go_wp2_with fail
      go_roundw
      case rel => exact ⟨2,by omega,rfl,HRA.out.far (by simp) _,HRR.out.far (by simp) _,HRB.out.put 1 _,HRS.out.far (by simp) _,HBW.out.setCell (by simp;omega) _⟩
      case measure => simp [intOf];omega
    · go_wp2_with fail
      refine (C2.out _ _ HRS.out).mono ?_;rintro e w5 ⟨rfl,rfl⟩
      go_wp2_with fail
      go_roundw
      case rel => exact ⟨3,by omega,rfl,HRA.out.far (by simp) _,HRR.out.far (by simp) _,HRB.out.put 2 _,HRS.out.far (by simp) _,HBW.out.setCell (by simp;omega) _⟩
      case measure => simp [intOf];omega
  · have hkn : k = n:=by omega
    subst hkn
    have b0:=hrb.cell 0;have b1:=hrb.cell 1;have b2:=hrb.cell 2
    have r0:=hrr.cell 0;have r1:=hrr.cell 1;have r2:=hrr.cell 2
    have f0:=hrr.free 0;have f1:=hrr.free 1;have f2:=hrr.free 2
    simp only [List.getElem?_cons_succ,List.getElem?_cons_zero] at b0 b1 b2 r0 r1 r2
    have HRR:=Hd hrr;have HBW:=Hd hbw;clear hra hrr hrb hrs hbw
    obtain ⟨p,hp⟩ : ∃ p,p = pt k 0 m0:=⟨_,rfl⟩
    obtain ⟨q,hq⟩ : ∃ q,q = pt k 1 m1:=⟨_,rfl⟩
    obtain ⟨r,hr⟩ : ∃ r,r = pt k 2 m2:=⟨_,rfl⟩
    rw [← hp] at b0;rw [← hq] at b1;rw [← hr] at b2
    have HP:=Hd hp;have HQ:=Hd hq;have HR:=Hd hr;clear hp hq hr
    go_wp2_with fail
    refine bodyPost_ret (results_cell_row rfl _ _ (w.heap.size + 2) 126 _ (0,0) _ rfl (row_set3 HRR.out) Tryz.underlying126 rfl (by kernel_rfl)) rfl ?_
    exact ⟨by rw [HP.out,HQ.out,HR.out],((HBW.out.setCell (by simp;omega) _).setCell (by simp;omega) _).setCell (by simp;omega) _⟩
theorem index3 (a b c : Int) (k : Nat) (v : Int) (hk : k < 3) (hv : [a,b,c][k]? = some v) (w : World) : (Instr.index 126 (.agg #[.int .i64 a,.int .i64 b,.int .i64 c]) (.int .i64 k)).run Tryz.prog w = .ok (.int .i64 v) w:=by
 have hi : ∀ w,(isAgg 3).run Tryz.prog w = .ok false w:=fun w => by go_simp
 have hz : ∀ w,(sizeOf 3).run Tryz.prog w = .ok 1 w:=fun w => by go_simp
 have hcase : k = 0 ∨ k = 1 ∨ k = 2:=by omega
 have hu:=Tryz.underlying126
 rcases hcase with rfl | rfl | rfl <;> cases hv <;> simp [Instr.index,run_underlying hu,hi,hz,part,Sem.run_bind,go_sem]
def mx (a b : Int) : Int:=if a < b then b else a
set_option maxHeartbeats 4000000 in
theorem greaterM_any (a0 a1 a2 b0 b1 b2 : Int) (w : World) :
 Calls Tryz.prog 157 #[.agg #[.int .i64 a0,.int .i64 a1,.int .i64 a2],.agg #[.int .i64 b0,.int .i64 b1,.int .i64 b2]] w fun e w' => e = .returned (.agg #[.int .i64 (mx a0 b0),.int .i64 (mx a1 b1),.int .i64 (mx a2 b2)]) ∧ Below w.heap.size w w':=by
 go_enter Tryz.func157,Tryz.ntmps157
 go_wp2_with fail
 go_loopw [8] (fun i wr => ∃ (k : Nat),k ≤ 3 ∧ i = .int .i64 k ∧ Row wr w.heap.size 126 [.int .i64 (if 0 < k then mx a0 b0 else a0),.int .i64 (if 1 < k then mx a1 b1 else a1),.int .i64 (if 2 < k then mx a2 b2 else a2)] ∧ Row wr (w.heap.size + 2) 126 [.int .i64 0,.int .i64 0,.int .i64 0] ∧ Below w.heap.size w wr) (fun i _ => 3 - (intOf i).toNat)
 case atStart =>
  refine ⟨0,by omega,rfl,?_,?_,?_⟩
  · exact ((Row.made w 126 [.int .i64 a0,.int .i64 a1,.int .i64 a2]).alloc _).alloc _
  · have:=Row.made ((w.alloc (.cells #[.int .i64 a0,.int .i64 a1,.int .i64 a2] 126)).alloc (.cells #[.int .i64 b0,.int .i64 b1,.int .i64 b2] 126)) 126 [.int .i64 0,.int .i64 0,.int .i64 0]
    simpa only [size_alloc] using this
  · exact (((Below.refl _ _).alloc (Nat.le_refl _) _).alloc (by simp) _).alloc (by simp;omega) _
 case round =>
  obtain ⟨k,hk,rfl,hra,hrr,hbw⟩:=hrel
  have hcase : k = 0 ∨ k = 1 ∨ k = 2 ∨ k = 3:=by omega
  have r0:=hrr.cell 0;have r1:=hrr.cell 1;have r2:=hrr.cell 2
  have g0:=hrr.free 0;have g1:=hrr.free 1;have g2:=hrr.free 2
  have c0:=hra.cell 0;have c1:=hra.cell 1;have c2:=hra.cell 2
  have f0:=hra.free 0;have f1:=hra.free 1;have f2:=hra.free 2
  have HRA:=Hd hra;have HRR:=Hd hrr;have HBW:=Hd hbw;clear hra hrr hbw
  have i0:=index3 b0 b1 b2 0 b0 (by omega) rfl
  have i1:=index3 b0 b1 b2 1 b1 (by omega) rfl
  have i2:=index3 b0 b1 b2 2 b2 (by omega) rfl
  simp only [Int.natCast_zero,Int.natCast_one,Int.ofNat_eq_natCast] at i0 i1
  rw [show ((2 : Nat) : Int) = 2 from rfl] at i2
  rcases hcase with rfl | rfl | rfl | rfl
  all_goals simp only [List.getElem?_cons_succ,List.getElem?_cons_zero,Nat.lt_irrefl,Nat.not_lt_zero,Nat.reduceLT,if_true,if_false] at c0 c1 c2 r0 r1 r2
  · clear r0 r1 r2 g0 g1 g2
    go_wp2_with fail
    go_roundw
    case rel => exact ⟨1,by omega,rfl,HRA.out.put 0 _,HRR.out.far (by simp) _,HBW.out.setCell (by simp) _⟩
    case measure => simp [intOf]
  · clear r0 r1 r2 g0 g1 g2
    go_wp2_with fail
    go_roundw
    case rel => exact ⟨2,by omega,rfl,HRA.out.put 1 _,HRR.out.far (by simp) _,HBW.out.setCell (by simp) _⟩
    case measure => simp [intOf]
  · clear r0 r1 r2 g0 g1 g2
    go_wp2_with fail
    go_roundw
    case rel => exact ⟨3,by omega,rfl,HRA.out.put 2 _,HRR.out.far (by simp) _,HBW.out.setCell (by simp) _⟩
    case measure => simp [intOf]
  · obtain ⟨p,hp⟩ : ∃ p,p = mx a0 b0:=⟨_,rfl⟩
    obtain ⟨q,hq⟩ : ∃ q,q = mx a1 b1:=⟨_,rfl⟩
    obtain ⟨r,hr⟩ : ∃ r,r = mx a2 b2:=⟨_,rfl⟩
    rw [← hp] at c0;rw [← hq] at c1;rw [← hr] at c2
    have HP:=Hd hp;have HQ:=Hd hq;have HR:=Hd hr;clear hp hq hr
    go_wp2_with fail
    refine bodyPost_ret (results_cell_row rfl _ _ (w.heap.size + 2) 126 _ (0,0) _ rfl (row_set3 HRR.out) Tryz.underlying126 rfl (by kernel_rfl)) rfl ?_
    exact ⟨by rw [HP.out,HQ.out,HR.out],((HBW.out.setCell (by simp;omega) _).setCell (by simp;omega) _).setCell (by simp;omega) _⟩
end

section
def pk (g : Bool) (m n : Int) : Int:=if g then max m n else min m n
def St.pick (g : Bool) (a b : St) : St:=if a.B b then ⟨a.d,pk g a.e b.e,pk g a.x b.x,pk g a.y b.y,pk g a.z b.z⟩ else St.zero
theorem pick_join (a b : St) : St.pick true a b = a.join b:=by unfold St.pick St.join pk;rfl
section
variable {W : World} {g : Nat} {t : St}
theorem Holds.set (h : Holds W g t) (j : Nat) (v : Int) {t' : St} (ht : t.cells.set j (.int .i64 v) = t'.cells) : Holds (W.setCell ⟨g,j,none⟩ (.int .i64 v)) g t':=by
 have:=Row.put h j (.int .i64 v)
 rw [ht] at this;exact this
theorem Holds.far {p : Addr} (h : Holds W g t) (hp : g ≠ p.block) (u : Value) : Holds (W.setCell p u) g t:=Row.far h hp u
theorem Holds.all (h : Holds W g t) (a b c d e : Int) : Holds (((((W.setCell ⟨g,0,none⟩ (.int .i64 a)).setCell ⟨g,1,none⟩ (.int .i64 b)).setCell ⟨g,2,none⟩ (.int .i64 c)).setCell ⟨g,3,none⟩ (.int .i64 d)).setCell ⟨g,4,none⟩ (.int .i64 e)) g ⟨a,b,c,d,e⟩ :=
 ((((Row.put h 0 (.int .i64 a)).put 1 (.int .i64 b)).put 2 (.int .i64 c)).put 3 (.int .i64 d)).put 4 (.int .i64 e)
theorem Holds.cells5 (h : Holds W g t) : W.cell? ⟨g,0,none⟩ = some (.int .i64 t.d) ∧ W.cell? ⟨g,1,none⟩ = some (.int .i64 t.e) ∧ W.cell? ⟨g,2,none⟩ = some (.int .i64 t.x) ∧ W.cell? ⟨g,3,none⟩ = some (.int .i64 t.y) ∧ W.cell? ⟨g,4,none⟩ = some (.int .i64 t.z) :=
 ⟨h.at_ 0,h.at_ 1,h.at_ 2,h.at_ 3,h.at_ 4⟩
theorem Holds.free5 (h : Holds W g t) : W.frozen? ⟨g,0,none⟩ = false ∧ W.frozen? ⟨g,1,none⟩ = false ∧ W.frozen? ⟨g,2,none⟩ = false ∧ W.frozen? ⟨g,3,none⟩ = false ∧ W.frozen? ⟨g,4,none⟩ = false :=
 ⟨Row.free h 0,Row.free h 1,Row.free h 2,Row.free h 3,Row.free h 4⟩
end
theorem right_is {f : FuncId} {t : St} {b : Bool} (hb : decide t.R = b) (h : ∀ w,Calls Tryz.prog f #[t.val] w fun e w' => e = .returned (.bool (decide t.R)) ∧ Below w.heap.size w w') : ∀ w,Calls Tryz.prog f #[t.val] w fun e w' => e = .returned (.bool b) ∧ Below w.heap.size w w':=by
 subst hb;exact h
theorem zero_made (w : World) : Holds (w.alloc (.cells #[.int .i64 0,.int .i64 0,.int .i64 0,.int .i64 0,.int .i64 0] 27)) w.heap.size St.zero:=Holds.made w St.zero
theorem two_results {P : Program} {fn : Func} {p q : Tmp} {ty : TypeId} {v : Value} (h : fn.results = #[.cell p ty,.tmp q]) (tmps : Array Value) (w : World) (g : Nat) (t : TypeId) (cs : Array Value) (fr : Nat × Nat) (d : TypeDesc)
 (hp : tmps.getD p undef = .pointer (some ⟨g,0,none⟩)) (hg : w.heap[g]? = some (.cells cs t fr))
 (hu : P.underlying ty = some d) (hd : (match d with | .struct _ | .array _ _ => true | _ => false) = true) (hi : (P.info? ty).map (·.size) = some cs.size) (hq : tmps.getD q undef = v) :
 (results fn tmps).run P w = .ok (.tuple #[.agg cs,v]) w:=by
 have hp' : tmps[p]?.getD undef = .pointer (some ⟨g,0,none⟩):=by simpa using hp
 have hq' : tmps[q]?.getD undef = v:=by simpa using hq
 simp [results,h,hp',hq',asAddr,run_loadVar_row w g t ty cs fr d hg hu hd hi]
theorem below3 {w w' : World} {a b c : Obj} (h : Below (((w.alloc a).alloc b).alloc c).heap.size (((w.alloc a).alloc b).alloc c) w') : Below w.heap.size w w' :=
 ((((Below.refl _ _).alloc (Nat.le_refl _) _).alloc (by simp) _).alloc (by simp;omega) _).trans (h.mono (by simp;omega))
theorem below_set5 {w w' : World} {g : Nat} {p q r s t : Value} (h : Below w.heap.size w w') (hg : w.heap.size ≤ g) :
 Below w.heap.size w (((((w'.setCell ⟨g,0,none⟩ p).setCell ⟨g,1,none⟩ q).setCell ⟨g,2,none⟩ r).setCell ⟨g,3,none⟩ s).setCell ⟨g,4,none⟩ t) :=
 ((((h.setCell hg _).setCell hg _).setCell hg _).setCell hg _).setCell hg _
end

section
def Sm.ap (s : Sm) (t : St) : St:=(s.apply t).getD St.zero
def Sm.apB (s : Sm) (t : St) : Bool:=(s.apply t).isSome
section
variable {s : Sm} {t : St}
theorem Sm.ap_no (h : ¬ (s.R ∧ t.R ∧ t.d = s.fr ∧ s.val t 0 < 16 ∧ s.val t 1 < 16 ∧ s.val t 2 < 16)) : s.ap t = St.zero ∧ s.apB t = false:=by
 unfold Sm.ap Sm.apB Sm.apply;rw [if_neg h];exact ⟨rfl,rfl⟩
theorem Sm.ap_yes (h : s.R ∧ t.R ∧ t.d = s.fr ∧ s.val t 0 < 16 ∧ s.val t 1 < 16 ∧ s.val t 2 < 16) : s.ap t = ⟨s.to,t.e,s.val t 0,s.val t 1,s.val t 2⟩ ∧ s.apB t = true:=by
 unfold Sm.ap Sm.apB Sm.apply;rw [if_pos h];exact ⟨rfl,rfl⟩
theorem Sm.val_al (i : Int) : s.al i (t.at_ i) = s.val t i:=by
 unfold Sm.al Sm.val
 by_cases h : i < s.to
 · rw [if_pos h,if_pos h,Sm.cn_N]
 · rw [if_neg h,if_neg h]
theorem Sm.made_R (hs : s.R) (ht : t.R) : St.R ⟨s.to,t.e,s.val t 0,s.val t 1,s.val t 2⟩ ↔ s.val t 0 < 16 ∧ s.val t 1 < 16 ∧ s.val t 2 < 16:=by
 have g0:=Sm.val_R hs ht 0;have g1:=Sm.val_R hs ht 1;have g2:=Sm.val_R hs ht 2
 have z0:=Sm.val_out (s:=s) (t:=t) (i:=0);have z1:=Sm.val_out (s:=s) (t:=t) (i:=1);have z2:=Sm.val_out (s:=s) (t:=t) (i:=2)
 unfold Sm.R at hs;unfold St.R at *
 simp only
 omega
end
theorem right_false {t : St} (h : ¬ t.R) (w : World) : Calls Tryz.prog 75 #[t.val] w fun e w' => e = .returned (.bool false) ∧ Below w.heap.size w w':=by
 have:=right_any t w;rwa [decide_eq_false h] at this
theorem right_true {t : St} (h : t.R) (w : World) : Calls Tryz.prog 75 #[t.val] w fun e w' => e = .returned (.bool true) ∧ Below w.heap.size w w':=by
 have:=right_any t w;rwa [decide_eq_true h] at this
theorem rightM_false {s : Sm} (h : ¬ s.R) (w : World) : Calls Tryz.prog 86 #[s.v] w fun e w' => e = .returned (.bool false) ∧ Below w.heap.size w w':=by
 have:=rightM_any s w;rwa [decide_eq_false h] at this
theorem rightM_true {s : Sm} (h : s.R) (w : World) : Calls Tryz.prog 86 #[s.v] w fun e w' => e = .returned (.bool true) ∧ Below w.heap.size w w':=by
 have:=rightM_any s w;rwa [decide_eq_true h] at this
theorem refRightM_false {s : Sm} (h : ¬ s.R) (w : World) : Calls Tryz.prog 116 #[s.v] w fun e w' => e = .returned (.bool false) ∧ Below w.heap.size w w':=by
 have:=refRightM_any s w;rwa [decide_eq_false h] at this
theorem refRightM_true {s : Sm} (h : s.R) (w : World) : Calls Tryz.prog 116 #[s.v] w fun e w' => e = .returned (.bool true) ∧ Below w.heap.size w w':=by
 have:=refRightM_any s w;rwa [decide_eq_true h] at this
theorem row_set5' {w : World} {b : Nat} {t : TypeId} {a1 a2 a3 a4 a5 b1 b2 b3 b4 b5 : Value} (h : Row w b t [a1,a2,a3,a4,a5]) :
 Row (((((w.setCell ⟨b,0,none⟩ b1).setCell ⟨b,1,none⟩ b2).setCell ⟨b,2,none⟩ b3).setCell ⟨b,3,none⟩ b4).setCell ⟨b,4,none⟩ b5) b t [b1,b2,b3,b4,b5] :=
 ((((h.put 0 b1).put 1 b2).put 2 b3).put 3 b4).put 4 b5
theorem below_set5' {w w' : World} {B g : Nat} {b1 b2 b3 b4 b5 : Value} (h : Below B w w') (hg : B ≤ g) :
 Below B w (((((w'.setCell ⟨g,0,none⟩ b1).setCell ⟨g,1,none⟩ b2).setCell ⟨g,2,none⟩ b3).setCell ⟨g,3,none⟩ b4).setCell ⟨g,4,none⟩ b5) :=
 ((((h.setCell hg _).setCell hg _).setCell hg _).setCell hg _).setCell hg _
theorem Holds.c5 {W : World} {g : Nat} {t : St} (h : Holds W g t) : W.cell? ⟨g,0,none⟩ = some (.int .i64 t.d) ∧ W.cell? ⟨g,1,none⟩ = some (.int .i64 t.e) ∧ W.cell? ⟨g,2,none⟩ = some (.int .i64 t.x) ∧ W.cell? ⟨g,3,none⟩ = some (.int .i64 t.y) ∧ W.cell? ⟨g,4,none⟩ = some (.int .i64 t.z) :=
 ⟨h.at_ 0,h.at_ 1,h.at_ 2,h.at_ 3,h.at_ 4⟩
theorem Holds.f5 {W : World} {g : Nat} {t : St} (h : Holds W g t) : W.frozen? ⟨g,0,none⟩ = false ∧ W.frozen? ⟨g,1,none⟩ = false ∧ W.frozen? ⟨g,2,none⟩ = false ∧ W.frozen? ⟨g,3,none⟩ = false ∧ W.frozen? ⟨g,4,none⟩ = false :=
 ⟨Row.free h 0,Row.free h 1,Row.free h 2,Row.free h 3,Row.free h 4⟩
theorem below_alloc2' (w : World) (o o' : Obj) : Below w.heap.size w ((w.alloc o).alloc o'):=((Below.refl _ _).alloc (Nat.le_refl _) _).alloc (by simp) _
def Trio (W : World) (b : Nat) (ty : TypeId) (s : Sm) (t : St) : Prop:=HoldsM W b ty s ∧ Holds W (b + 1) t ∧ Holds W (b + 1 + 1) St.zero
theorem Trio.made (w : World) (ty : TypeId) (s : Sm) (t : St) : Trio (((w.alloc (.cells #[.int .i64 s.fr,.int .i64 s.to,.int .i64 s.kp,.int .i64 s.ad,.int .i64 s.t0,.int .i64 s.t1,.int .i64 s.t2] ty)).alloc (.cells #[.int .i64 t.d,.int .i64 t.e,.int .i64 t.x,.int .i64 t.y,.int .i64 t.z] 27)).alloc (.cells #[.int .i64 0,.int .i64 0,.int .i64 0,.int .i64 0,.int .i64 0] 27)) w.heap.size ty s t:=by
 refine ⟨((HoldsM.made w ty s).alloc _).alloc _,?_,?_⟩
 · have:=(Holds.made (w.alloc (.cells #[.int .i64 s.fr,.int .i64 s.to,.int .i64 s.kp,.int .i64 s.ad,.int .i64 s.t0,.int .i64 s.t1,.int .i64 s.t2] ty)) t).alloc (.cells #[.int .i64 0,.int .i64 0,.int .i64 0,.int .i64 0,.int .i64 0] 27)
   rwa [size_alloc] at this
 · have:=Holds.made ((w.alloc (.cells #[.int .i64 s.fr,.int .i64 s.to,.int .i64 s.kp,.int .i64 s.ad,.int .i64 s.t0,.int .i64 s.t1,.int .i64 s.t2] ty)).alloc (.cells #[.int .i64 t.d,.int .i64 t.e,.int .i64 t.x,.int .i64 t.y,.int .i64 t.z] 27)) St.zero
   rwa [size_alloc,size_alloc] at this
theorem Trio.below {W W' : World} {b : Nat} {ty : TypeId} {s : Sm} {t : St} (h : Trio W b ty s t) (hb : Below W.heap.size W W') : Trio W' b ty s t:=⟨h.1.below hb,h.2.1.below hb,h.2.2.below hb⟩
theorem below_alloc3 (w : World) (o o' o'' : Obj) : Below w.heap.size w (((w.alloc o).alloc o').alloc o''):=(below_alloc2' w o o').alloc (by simp;omega) _
theorem ba3 (w : World) (a b : Sm) (T : TypeId) : Below w.heap.size w (((w.alloc (.cells #[.int .i64 a.fr,.int .i64 a.to,.int .i64 a.kp,.int .i64 a.ad,.int .i64 a.t0,.int .i64 a.t1,.int .i64 a.t2] T)).alloc (.cells #[.int .i64 b.fr,.int .i64 b.to,.int .i64 b.kp,.int .i64 b.ad,.int .i64 b.t0,.int .i64 b.t1,.int .i64 b.t2] T)).alloc (.cells #[.int .i64 0,.int .i64 0,.int .i64 0,.int .i64 0,.int .i64 0,.int .i64 0,.int .i64 0] T)):=below_alloc3 w _ _ _
end

section
def Sm.ofk (k d : Int) : Sm:=if k = 7 then ⟨d - 1,d,d - 1,0,0,0,0⟩ else if k = 8 then ⟨d + 1,d,d,0,0,0,0⟩ else if k = 9 then ⟨d,d,d,1,0,0,0⟩ else ⟨d,d,d,0,0,0,0⟩
def okOf (k d : Int) : Prop:=1 ≤ k ∧ k ≤ 10 ∧ (Sm.ofk k d).R
instance (k d : Int) : Decidable (okOf k d):=inferInstanceAs (Decidable (_ ∧ _))
def Sm.of_ (k d : Int) : Sm:=if okOf k d then Sm.ofk k d else Sm.zero
theorem row_set7 {w : World} {b : Nat} {t : TypeId} {a1 a2 a3 a4 a5 a6 a7 b1 b2 b3 b4 b5 b6 b7 : Value} (h : Row w b t [a1,a2,a3,a4,a5,a6,a7]) :
 Row (((((((w.setCell ⟨b,0,none⟩ b1).setCell ⟨b,1,none⟩ b2).setCell ⟨b,2,none⟩ b3).setCell ⟨b,3,none⟩ b4).setCell ⟨b,4,none⟩ b5).setCell ⟨b,5,none⟩ b6).setCell ⟨b,6,none⟩ b7) b t [b1,b2,b3,b4,b5,b6,b7] :=
 ((((((h.put 0 b1).put 1 b2).put 2 b3).put 3 b4).put 4 b5).put 5 b6).put 6 b7
theorem below_set7 {w w' : World} {B g : Nat} {b1 b2 b3 b4 b5 b6 b7 : Value} (h : Below B w w') (hg : B ≤ g) :
 Below B w (((((((w'.setCell ⟨g,0,none⟩ b1).setCell ⟨g,1,none⟩ b2).setCell ⟨g,2,none⟩ b3).setCell ⟨g,3,none⟩ b4).setCell ⟨g,4,none⟩ b5).setCell ⟨g,5,none⟩ b6).setCell ⟨g,6,none⟩ b7) :=
 ((((((h.setCell hg _).setCell hg _).setCell hg _).setCell hg _).setCell hg _).setCell hg _).setCell hg _
theorem made2r (w : World) (o : Obj) (t : TypeId) (l : List Value) : Row ((w.alloc o).alloc (.cells l.toArray t)) (w.heap.size + 1) t l:=smMade2 w o _
theorem below_alloc2 (w : World) (o o' : Obj) : Below w.heap.size w ((w.alloc o).alloc o'):=((Below.refl _ _).alloc (Nat.le_refl _) _).alloc (by simp) _
theorem ba2 (w : World) (a b : Sm) (T : TypeId) : Below w.heap.size w ((w.alloc (.cells #[.int .i64 a.fr,.int .i64 a.to,.int .i64 a.kp,.int .i64 a.ad,.int .i64 a.t0,.int .i64 a.t1,.int .i64 a.t2] T)).alloc (.cells #[.int .i64 b.fr,.int .i64 b.to,.int .i64 b.kp,.int .i64 b.ad,.int .i64 b.t0,.int .i64 b.t1,.int .i64 b.t2] T)):=below_alloc2 w _ _
def Sm.orz (s : Sm) (b : Bool) : Sm:=if b then s else Sm.zero
set_option maxHeartbeats 2000000 in
theorem of_7 (d p : Int) (hp : IntKind.i64.wrap (d - 1) = p) (w : World) : Calls Tryz.prog 45 #[.int .u8 7,.int .i64 d] w fun e w' => e = .returned (.tuple #[(Sm.orz (⟨p,d,p,0,0,0,0⟩ : Sm) (decide (Sm.R (⟨p,d,p,0,0,0,0⟩ : Sm)))).v,.bool (decide (Sm.R (⟨p,d,p,0,0,0,0⟩ : Sm)))]) ∧ Below w.heap.size w w':=by
 have hr:=fun w => rightM_any (⟨p,d,p,0,0,0,0⟩ : Sm) w
 have h1 : HoldsM ((w.alloc (.cells #[.int .i64 0,.int .i64 0,.int .i64 0,.int .i64 0,.int .i64 0,.int .i64 0,.int .i64 0] 82)).alloc (.cells #[.int .i64 ((⟨p,d,p,0,0,0,0⟩ : Sm)).fr,.int .i64 ((⟨p,d,p,0,0,0,0⟩ : Sm)).to,.int .i64 ((⟨p,d,p,0,0,0,0⟩ : Sm)).kp,.int .i64 ((⟨p,d,p,0,0,0,0⟩ : Sm)).ad,.int .i64 ((⟨p,d,p,0,0,0,0⟩ : Sm)).t0,.int .i64 ((⟨p,d,p,0,0,0,0⟩ : Sm)).t1,.int .i64 ((⟨p,d,p,0,0,0,0⟩ : Sm)).t2] 82)) (w.heap.size + 1) 82 (⟨p,d,p,0,0,0,0⟩ : Sm):=made2r w _ _ _
 have h0 : HoldsM ((w.alloc (.cells #[.int .i64 0,.int .i64 0,.int .i64 0,.int .i64 0,.int .i64 0,.int .i64 0,.int .i64 0] 82)).alloc (.cells #[.int .i64 ((⟨p,d,p,0,0,0,0⟩ : Sm)).fr,.int .i64 ((⟨p,d,p,0,0,0,0⟩ : Sm)).to,.int .i64 ((⟨p,d,p,0,0,0,0⟩ : Sm)).kp,.int .i64 ((⟨p,d,p,0,0,0,0⟩ : Sm)).ad,.int .i64 ((⟨p,d,p,0,0,0,0⟩ : Sm)).t0,.int .i64 ((⟨p,d,p,0,0,0,0⟩ : Sm)).t1,.int .i64 ((⟨p,d,p,0,0,0,0⟩ : Sm)).t2] 82)) w.heap.size 82 Sm.zero:=Row.alloc (Row.made w _ _) _
 simp only at h1 h0
 unfold Sm.v at hr
 generalize hb : decide (Sm.R (⟨p,d,p,0,0,0,0⟩ : Sm)) = bb at *
 clear hb
 have HR:=Hd hr;have H1:=Hd h1;have H0:=Hd h0;clear hr h1 h0
 unfold Sm.orz
 go_enter Tryz.func45,Tryz.ntmps45
 go_wp2_with fail
 refine (HR.out _).mono ?_;rintro e w2 ⟨rfl,hb2⟩
 have h1 : HoldsM w2 (w.heap.size + 1) 82 (⟨p,d,p,0,0,0,0⟩ : Sm):=Row.below H1.out hb2 (by simp)
 have h0 : HoldsM w2 w.heap.size 82 Sm.zero:=Row.below H0.out hb2 (by simp;omega)
 obtain ⟨c0,c1,c2,c3,c4,c5,c6⟩:=h1.cells7
 obtain ⟨f0,f1,f2,f3,f4,f5,f6⟩:=h0.free7
 obtain ⟨z0,z1,z2,z3,z4,z5,z6⟩:=h0.cells7
 have HB:=Hd ((below_alloc2 w _ _).trans (hb2.mono (by simp;omega)))
 have HZ:=Hd h0
 clear hb2 h1 h0
 simp only at c0 c1 c2 c3 c4 c5 c6
 cases bb with
 | true =>
   go_wp2_with fail
   refine bodyPost_ret (v:=.tuple #[Sm.v (⟨p,d,p,0,0,0,0⟩ : Sm),.bool true]) (two_results rfl _ _ _ 82 _ (0,0) _ rfl (row_set7 HZ.out) Tryz.underlying82 rfl (by kernel_rfl) rfl) rfl ?_
   exact ⟨rfl,below_set7 HB.out (Nat.le_refl _)⟩
 | false =>
   go_wp2_with fail
   refine bodyPost_ret (v:=.tuple #[Sm.v Sm.zero,.bool false]) (two_results rfl _ _ _ 82 _ (0,0) _ rfl (row_set7 HZ.out) Tryz.underlying82 rfl (by kernel_rfl) rfl) rfl ?_
   exact ⟨rfl,below_set7 HB.out (Nat.le_refl _)⟩
set_option maxHeartbeats 2000000 in
theorem of_8 (d p : Int) (hp : IntKind.i64.wrap (d + 1) = p) (w : World) : Calls Tryz.prog 45 #[.int .u8 8,.int .i64 d] w fun e w' => e = .returned (.tuple #[(Sm.orz (⟨p,d,d,0,0,0,0⟩ : Sm) (decide (Sm.R (⟨p,d,d,0,0,0,0⟩ : Sm)))).v,.bool (decide (Sm.R (⟨p,d,d,0,0,0,0⟩ : Sm)))]) ∧ Below w.heap.size w w':=by
 have hr:=fun w => rightM_any (⟨p,d,d,0,0,0,0⟩ : Sm) w
 have h1 : HoldsM ((w.alloc (.cells #[.int .i64 0,.int .i64 0,.int .i64 0,.int .i64 0,.int .i64 0,.int .i64 0,.int .i64 0] 82)).alloc (.cells #[.int .i64 ((⟨p,d,d,0,0,0,0⟩ : Sm)).fr,.int .i64 ((⟨p,d,d,0,0,0,0⟩ : Sm)).to,.int .i64 ((⟨p,d,d,0,0,0,0⟩ : Sm)).kp,.int .i64 ((⟨p,d,d,0,0,0,0⟩ : Sm)).ad,.int .i64 ((⟨p,d,d,0,0,0,0⟩ : Sm)).t0,.int .i64 ((⟨p,d,d,0,0,0,0⟩ : Sm)).t1,.int .i64 ((⟨p,d,d,0,0,0,0⟩ : Sm)).t2] 82)) (w.heap.size + 1) 82 (⟨p,d,d,0,0,0,0⟩ : Sm):=made2r w _ _ _
 have h0 : HoldsM ((w.alloc (.cells #[.int .i64 0,.int .i64 0,.int .i64 0,.int .i64 0,.int .i64 0,.int .i64 0,.int .i64 0] 82)).alloc (.cells #[.int .i64 ((⟨p,d,d,0,0,0,0⟩ : Sm)).fr,.int .i64 ((⟨p,d,d,0,0,0,0⟩ : Sm)).to,.int .i64 ((⟨p,d,d,0,0,0,0⟩ : Sm)).kp,.int .i64 ((⟨p,d,d,0,0,0,0⟩ : Sm)).ad,.int .i64 ((⟨p,d,d,0,0,0,0⟩ : Sm)).t0,.int .i64 ((⟨p,d,d,0,0,0,0⟩ : Sm)).t1,.int .i64 ((⟨p,d,d,0,0,0,0⟩ : Sm)).t2] 82)) w.heap.size 82 Sm.zero:=Row.alloc (Row.made w _ _) _
 simp only at h1 h0
 unfold Sm.v at hr
 generalize hb : decide (Sm.R (⟨p,d,d,0,0,0,0⟩ : Sm)) = bb at *
 clear hb
 have HR:=Hd hr;have H1:=Hd h1;have H0:=Hd h0;clear hr h1 h0
 unfold Sm.orz
 go_enter Tryz.func45,Tryz.ntmps45
 go_wp2_with fail
 refine (HR.out _).mono ?_;rintro e w2 ⟨rfl,hb2⟩
 have h1 : HoldsM w2 (w.heap.size + 1) 82 (⟨p,d,d,0,0,0,0⟩ : Sm):=Row.below H1.out hb2 (by simp)
 have h0 : HoldsM w2 w.heap.size 82 Sm.zero:=Row.below H0.out hb2 (by simp;omega)
 obtain ⟨c0,c1,c2,c3,c4,c5,c6⟩:=h1.cells7
 obtain ⟨f0,f1,f2,f3,f4,f5,f6⟩:=h0.free7
 obtain ⟨z0,z1,z2,z3,z4,z5,z6⟩:=h0.cells7
 have HB:=Hd ((below_alloc2 w _ _).trans (hb2.mono (by simp;omega)))
 have HZ:=Hd h0
 clear hb2 h1 h0
 simp only at c0 c1 c2 c3 c4 c5 c6
 cases bb with
 | true =>
   go_wp2_with fail
   refine bodyPost_ret (v:=.tuple #[Sm.v (⟨p,d,d,0,0,0,0⟩ : Sm),.bool true]) (two_results rfl _ _ _ 82 _ (0,0) _ rfl (row_set7 HZ.out) Tryz.underlying82 rfl (by kernel_rfl) rfl) rfl ?_
   exact ⟨rfl,below_set7 HB.out (Nat.le_refl _)⟩
 | false =>
   go_wp2_with fail
   refine bodyPost_ret (v:=.tuple #[Sm.v Sm.zero,.bool false]) (two_results rfl _ _ _ 82 _ (0,0) _ rfl (row_set7 HZ.out) Tryz.underlying82 rfl (by kernel_rfl) rfl) rfl ?_
   exact ⟨rfl,below_set7 HB.out (Nat.le_refl _)⟩
set_option maxHeartbeats 2000000 in
theorem of_9 (d : Int) (w : World) : Calls Tryz.prog 45 #[.int .u8 9,.int .i64 d] w fun e w' => e = .returned (.tuple #[(Sm.orz (⟨d,d,d,1,0,0,0⟩ : Sm) (decide (Sm.R (⟨d,d,d,1,0,0,0⟩ : Sm)))).v,.bool (decide (Sm.R (⟨d,d,d,1,0,0,0⟩ : Sm)))]) ∧ Below w.heap.size w w':=by
 have hr:=fun w => rightM_any (⟨d,d,d,1,0,0,0⟩ : Sm) w
 have h1 : HoldsM ((w.alloc (.cells #[.int .i64 0,.int .i64 0,.int .i64 0,.int .i64 0,.int .i64 0,.int .i64 0,.int .i64 0] 82)).alloc (.cells #[.int .i64 ((⟨d,d,d,1,0,0,0⟩ : Sm)).fr,.int .i64 ((⟨d,d,d,1,0,0,0⟩ : Sm)).to,.int .i64 ((⟨d,d,d,1,0,0,0⟩ : Sm)).kp,.int .i64 ((⟨d,d,d,1,0,0,0⟩ : Sm)).ad,.int .i64 ((⟨d,d,d,1,0,0,0⟩ : Sm)).t0,.int .i64 ((⟨d,d,d,1,0,0,0⟩ : Sm)).t1,.int .i64 ((⟨d,d,d,1,0,0,0⟩ : Sm)).t2] 82)) (w.heap.size + 1) 82 (⟨d,d,d,1,0,0,0⟩ : Sm):=made2r w _ _ _
 have h0 : HoldsM ((w.alloc (.cells #[.int .i64 0,.int .i64 0,.int .i64 0,.int .i64 0,.int .i64 0,.int .i64 0,.int .i64 0] 82)).alloc (.cells #[.int .i64 ((⟨d,d,d,1,0,0,0⟩ : Sm)).fr,.int .i64 ((⟨d,d,d,1,0,0,0⟩ : Sm)).to,.int .i64 ((⟨d,d,d,1,0,0,0⟩ : Sm)).kp,.int .i64 ((⟨d,d,d,1,0,0,0⟩ : Sm)).ad,.int .i64 ((⟨d,d,d,1,0,0,0⟩ : Sm)).t0,.int .i64 ((⟨d,d,d,1,0,0,0⟩ : Sm)).t1,.int .i64 ((⟨d,d,d,1,0,0,0⟩ : Sm)).t2] 82)) w.heap.size 82 Sm.zero:=Row.alloc (Row.made w _ _) _
 simp only at h1 h0
 unfold Sm.v at hr
 generalize hb : decide (Sm.R (⟨d,d,d,1,0,0,0⟩ : Sm)) = bb at *
 clear hb
 have HR:=Hd hr;have H1:=Hd h1;have H0:=Hd h0;clear hr h1 h0
 unfold Sm.orz
 go_enter Tryz.func45,Tryz.ntmps45
 go_wp2_with fail
 refine (HR.out _).mono ?_;rintro e w2 ⟨rfl,hb2⟩
 have h1 : HoldsM w2 (w.heap.size + 1) 82 (⟨d,d,d,1,0,0,0⟩ : Sm):=Row.below H1.out hb2 (by simp)
 have h0 : HoldsM w2 w.heap.size 82 Sm.zero:=Row.below H0.out hb2 (by simp;omega)
 obtain ⟨c0,c1,c2,c3,c4,c5,c6⟩:=h1.cells7
 obtain ⟨f0,f1,f2,f3,f4,f5,f6⟩:=h0.free7
 obtain ⟨z0,z1,z2,z3,z4,z5,z6⟩:=h0.cells7
 have HB:=Hd ((below_alloc2 w _ _).trans (hb2.mono (by simp;omega)))
 have HZ:=Hd h0
 clear hb2 h1 h0
 simp only at c0 c1 c2 c3 c4 c5 c6
 cases bb with
 | true =>
   go_wp2_with fail
   refine bodyPost_ret (v:=.tuple #[Sm.v (⟨d,d,d,1,0,0,0⟩ : Sm),.bool true]) (two_results rfl _ _ _ 82 _ (0,0) _ rfl (row_set7 HZ.out) Tryz.underlying82 rfl (by kernel_rfl) rfl) rfl ?_
   exact ⟨rfl,below_set7 HB.out (Nat.le_refl _)⟩
 | false =>
   go_wp2_with fail
   refine bodyPost_ret (v:=.tuple #[Sm.v Sm.zero,.bool false]) (two_results rfl _ _ _ 82 _ (0,0) _ rfl (row_set7 HZ.out) Tryz.underlying82 rfl (by kernel_rfl) rfl) rfl ?_
   exact ⟨rfl,below_set7 HB.out (Nat.le_refl _)⟩
set_option maxHeartbeats 2000000 in
theorem of_x (k d : Int) (h7 : (k == 7) = false) (h8 : (k == 8) = false) (h9 : (k == 9) = false) (h1 : ¬ k < 1) (h10 : ¬ 10 < k) (w : World) : Calls Tryz.prog 45 #[.int .u8 k,.int .i64 d] w fun e w' => e = .returned (.tuple #[(Sm.orz (⟨d,d,d,0,0,0,0⟩ : Sm) (decide (Sm.R (⟨d,d,d,0,0,0,0⟩ : Sm)))).v,.bool (decide (Sm.R (⟨d,d,d,0,0,0,0⟩ : Sm)))]) ∧ Below w.heap.size w w':=by
 have hr:=fun w => rightM_any (⟨d,d,d,0,0,0,0⟩ : Sm) w
 have h1q : HoldsM ((w.alloc (.cells #[.int .i64 0,.int .i64 0,.int .i64 0,.int .i64 0,.int .i64 0,.int .i64 0,.int .i64 0] 82)).alloc (.cells #[.int .i64 ((⟨d,d,d,0,0,0,0⟩ : Sm)).fr,.int .i64 ((⟨d,d,d,0,0,0,0⟩ : Sm)).to,.int .i64 ((⟨d,d,d,0,0,0,0⟩ : Sm)).kp,.int .i64 ((⟨d,d,d,0,0,0,0⟩ : Sm)).ad,.int .i64 ((⟨d,d,d,0,0,0,0⟩ : Sm)).t0,.int .i64 ((⟨d,d,d,0,0,0,0⟩ : Sm)).t1,.int .i64 ((⟨d,d,d,0,0,0,0⟩ : Sm)).t2] 82)) (w.heap.size + 1) 82 (⟨d,d,d,0,0,0,0⟩ : Sm):=made2r w _ _ _
 have h0 : HoldsM ((w.alloc (.cells #[.int .i64 0,.int .i64 0,.int .i64 0,.int .i64 0,.int .i64 0,.int .i64 0,.int .i64 0] 82)).alloc (.cells #[.int .i64 ((⟨d,d,d,0,0,0,0⟩ : Sm)).fr,.int .i64 ((⟨d,d,d,0,0,0,0⟩ : Sm)).to,.int .i64 ((⟨d,d,d,0,0,0,0⟩ : Sm)).kp,.int .i64 ((⟨d,d,d,0,0,0,0⟩ : Sm)).ad,.int .i64 ((⟨d,d,d,0,0,0,0⟩ : Sm)).t0,.int .i64 ((⟨d,d,d,0,0,0,0⟩ : Sm)).t1,.int .i64 ((⟨d,d,d,0,0,0,0⟩ : Sm)).t2] 82)) w.heap.size 82 Sm.zero:=Row.alloc (Row.made w _ _) _
 simp only at h1q h0
 unfold Sm.v at hr
 generalize hb : decide (Sm.R (⟨d,d,d,0,0,0,0⟩ : Sm)) = bb at *
 clear hb
 have HR:=Hd hr;have H1:=Hd h1q;have H0:=Hd h0;clear hr h1q h0
 unfold Sm.orz
 go_enter Tryz.func45,Tryz.ntmps45
 go_wp2_with fail
 refine (HR.out _).mono ?_;rintro e w2 ⟨rfl,hb2⟩
 have h1 : HoldsM w2 (w.heap.size + 1) 82 (⟨d,d,d,0,0,0,0⟩ : Sm):=Row.below H1.out hb2 (by simp)
 have h0 : HoldsM w2 w.heap.size 82 Sm.zero:=Row.below H0.out hb2 (by simp;omega)
 obtain ⟨c0,c1,c2,c3,c4,c5,c6⟩:=h1.cells7
 obtain ⟨f0,f1,f2,f3,f4,f5,f6⟩:=h0.free7
 obtain ⟨z0,z1,z2,z3,z4,z5,z6⟩:=h0.cells7
 have HB:=Hd ((below_alloc2 w _ _).trans (hb2.mono (by simp;omega)))
 have HZ:=Hd h0
 clear hb2 h1 h0
 simp only at c0 c1 c2 c3 c4 c5 c6
 cases bb with
 | true =>
   go_wp2_with fail
   refine bodyPost_ret (v:=.tuple #[Sm.v (⟨d,d,d,0,0,0,0⟩ : Sm),.bool true]) (two_results rfl _ _ _ 82 _ (0,0) _ rfl (row_set7 HZ.out) Tryz.underlying82 rfl (by kernel_rfl) rfl) rfl ?_
   exact ⟨rfl,below_set7 HB.out (Nat.le_refl _)⟩
 | false =>
   go_wp2_with fail
   refine bodyPost_ret (v:=.tuple #[Sm.v Sm.zero,.bool false]) (two_results rfl _ _ _ 82 _ (0,0) _ rfl (row_set7 HZ.out) Tryz.underlying82 rfl (by kernel_rfl) rfl) rfl ?_
   exact ⟨rfl,below_set7 HB.out (Nat.le_refl _)⟩
set_option maxHeartbeats 2000000 in
theorem of_no (k d : Int) (h7 : (k == 7) = false) (h8 : (k == 8) = false) (h9 : (k == 9) = false) (hk : k < 1 ∨ 10 < k) (w : World) : Calls Tryz.prog 45 #[.int .u8 k,.int .i64 d] w fun e w' => e = .returned (.tuple #[Sm.zero.v,.bool false]) ∧ Below w.heap.size w w':=by
 have h0 : HoldsM ((w.alloc (.cells #[.int .i64 0,.int .i64 0,.int .i64 0,.int .i64 0,.int .i64 0,.int .i64 0,.int .i64 0] 82)).alloc (.cells #[.int .i64 d,.int .i64 d,.int .i64 d,.int .i64 0,.int .i64 0,.int .i64 0,.int .i64 0] 82)) w.heap.size 82 Sm.zero:=Row.alloc (Row.made w _ _) _
 have H0:=Hd h0;clear h0
 by_cases h1 : k < 1
 · clear hk
   go_enter Tryz.func45,Tryz.ntmps45
   go_wp2_with fail
   refine bodyPost_ret (v:=.tuple #[Sm.v Sm.zero,.bool false]) (two_results rfl _ _ _ 82 _ (0,0) _ rfl H0.out Tryz.underlying82 rfl (by kernel_rfl) rfl) rfl ?_
   exact ⟨rfl,below_alloc2 w _ _⟩
 · have h10 : 10 < k:=hk.resolve_left h1
   clear hk
   go_enter Tryz.func45,Tryz.ntmps45
   go_wp2_with fail
   refine bodyPost_ret (v:=.tuple #[Sm.v Sm.zero,.bool false]) (two_results rfl _ _ _ 82 _ (0,0) _ rfl H0.out Tryz.underlying82 rfl (by kernel_rfl) rfl) rfl ?_
   exact ⟨rfl,below_alloc2 w _ _⟩
theorem orz_no {s : Sm} (h : ¬ s.R) : s.orz (decide s.R) = Sm.zero ∧ decide s.R = false:=by
 have : decide s.R = false:=decide_eq_false h
 rw [this];exact ⟨rfl,rfl⟩
theorem orz_same {s t : Sm} (h : s = t ∨ (¬ s.R ∧ ¬ t.R)) : s.orz (decide s.R) = t.orz (decide t.R) ∧ decide s.R = decide t.R:=by
 rcases h with rfl | ⟨h1,h2⟩
 · exact ⟨rfl,rfl⟩
 · obtain ⟨a1,a2⟩:=orz_no h1;obtain ⟨b1,b2⟩:=orz_no h2
   exact ⟨a1.trans b1.symm,a2.trans b2.symm⟩
theorem of_orz {k d : Int} (h1 : 1 ≤ k) (h2 : k ≤ 10) : Sm.of_ k d = (Sm.ofk k d).orz (decide (Sm.ofk k d).R) ∧ decide (okOf k d) = decide (Sm.ofk k d).R:=by
 have : decide (okOf k d) = decide (Sm.ofk k d).R:=decide_eq_decide.2 ⟨fun h => h.2.2,fun h => ⟨h1,h2,h⟩⟩
 refine ⟨?_,this⟩
 unfold Sm.of_ Sm.orz
 by_cases h : okOf k d
 · rw [if_pos h,if_pos (by simpa using h.2.2)]
 · rw [if_neg h,if_neg (by simpa using fun h3 => h ⟨h1,h2,h3⟩)]
theorem of_any (k d : Int) (w : World) : Calls Tryz.prog 45 #[.int .u8 k,.int .i64 d] w fun e w' => e = .returned (.tuple #[(Sm.of_ k d).v,.bool (decide (okOf k d))]) ∧ Below w.heap.size w w':=by
 by_cases h7 : k = 7
 · subst h7
   obtain ⟨e1,e2⟩:=of_orz (k:=7) (d:=d) (by omega) (by omega)
   rw [e1,e2,show Sm.ofk 7 d = ⟨d - 1,d,d - 1,0,0,0,0⟩ from rfl]
   obtain ⟨p,hp⟩ : ∃ p,IntKind.i64.wrap (d - 1) = p:=⟨_,rfl⟩
   have hs : (⟨p,d,p,0,0,0,0⟩ : Sm) = ⟨d - 1,d,d - 1,0,0,0,0⟩ ∨ (¬ Sm.R ⟨p,d,p,0,0,0,0⟩ ∧ ¬ Sm.R ⟨d - 1,d,d - 1,0,0,0,0⟩):=by
    by_cases hd : 0 ≤ d ∧ d ≤ 3
    · left
      have:=IntWalk.i64_in (d - 1) (by omega)
      rw [hp] at this;rw [this]
    · right;unfold Sm.R;simp only;omega
   obtain ⟨g1,g2⟩:=orz_same hs
   rw [← g1,← g2]
   exact of_7 d p hp w
 by_cases h8 : k = 8
 · subst h8
   obtain ⟨e1,e2⟩:=of_orz (k:=8) (d:=d) (by omega) (by omega)
   rw [e1,e2,show Sm.ofk 8 d = ⟨d + 1,d,d,0,0,0,0⟩ from rfl]
   obtain ⟨p,hp⟩ : ∃ p,IntKind.i64.wrap (d + 1) = p:=⟨_,rfl⟩
   have hs : (⟨p,d,d,0,0,0,0⟩ : Sm) = ⟨d + 1,d,d,0,0,0,0⟩ ∨ (¬ Sm.R ⟨p,d,d,0,0,0,0⟩ ∧ ¬ Sm.R ⟨d + 1,d,d,0,0,0,0⟩):=by
    by_cases hd : 0 ≤ d ∧ d ≤ 3
    · left
      have:=IntWalk.i64_in (d + 1) (by omega)
      rw [hp] at this;rw [this]
    · right;unfold Sm.R;simp only;omega
   obtain ⟨g1,g2⟩:=orz_same hs
   rw [← g1,← g2]
   exact of_8 d p hp w
 by_cases h9 : k = 9
 · subst h9
   obtain ⟨e1,e2⟩:=of_orz (k:=9) (d:=d) (by omega) (by omega)
   rw [e1,e2,show Sm.ofk 9 d = ⟨d,d,d,1,0,0,0⟩ from rfl]
   exact of_9 d w
 have b7 : (k == 7) = false:=by simpa using h7
 have b8 : (k == 8) = false:=by simpa using h8
 have b9 : (k == 9) = false:=by simpa using h9
 by_cases hk : 1 ≤ k ∧ k ≤ 10
 · obtain ⟨e1,e2⟩:=of_orz (d:=d) hk.1 hk.2
   rw [e1,e2,show Sm.ofk k d = ⟨d,d,d,0,0,0,0⟩ by unfold Sm.ofk;rw [if_neg h7,if_neg h8,if_neg h9]]
   exact of_x k d b7 b8 b9 (by omega) (by omega) w
 · have hno : ¬ okOf k d:=fun h => hk ⟨h.1,h.2.1⟩
   rw [decide_eq_false hno,show Sm.of_ k d = Sm.zero from if_neg hno]
   exact of_no k d b7 b8 b9 (by omega) w
end

section
def Sm.th (a b : Sm) : Sm:=if a.thenOk b then a.seq b else Sm.zero
def Sm.thB (a b : Sm) : Bool:=decide (a.thenOk b)
section
variable {a b : Sm}
theorem Sm.th_no (h : ¬ a.thenOk b) : a.th b = Sm.zero ∧ a.thB b = false:=⟨if_neg h,decide_eq_false h⟩
theorem Sm.th_yes (h : a.thenOk b) : a.th b = a.seq b ∧ a.thB b = true:=⟨if_pos h,decide_eq_true h⟩
theorem Sm.seq_ok (ha : a.R) (hb : b.R) (ht : a.to = b.fr) : (a.seq b).R ↔ a.thenOk b:=by
 constructor
 · intro h
   refine ⟨ha,hb,ht,?_,?_,?_⟩
   · rw [← Sm.seq_N ha hb ht (i:=0) (by omega) (by omega)];exact (Sm.N_R h 0).2
   · rw [← Sm.seq_N ha hb ht (i:=1) (by omega) (by omega)];exact (Sm.N_R h 1).2
   · rw [← Sm.seq_N ha hb ht (i:=2) (by omega) (by omega)];exact (Sm.N_R h 2).2
 · exact Sm.seq_R
theorem Sm.al_zero (i : Int) : a.al i 0 = if i < a.to then a.N i else 0:=by
 unfold Sm.al
 by_cases h : i < a.to
 · rw [if_pos h,if_pos h,Sm.cn_N];split <;> omega
 · rw [if_neg h,if_neg h]
theorem Sm.al_al (ha : a.R) (hb : b.R) (ht : a.to = b.fr) (i : Int) : b.al i (a.al i 0) = a.M b i:=by
 rw [Sm.al_zero]
 unfold Sm.al Sm.M
 by_cases h : i < b.to
 · rw [if_pos h,if_pos h,Sm.cn_N]
   by_cases h2 : i < b.kp
   · rw [if_pos h2,if_pos h2,if_pos (by unfold Sm.R at hb;omega)];omega
   · rw [if_neg h2,if_neg h2];omega
 · rw [if_neg h,if_neg h]
theorem Sm.al_b (ha : a.R) (i : Int) : 0 ≤ a.al i 0 ∧ a.al i 0 ≤ 1000:=by
 rw [Sm.al_zero]
 have:=Sm.N_R ha i
 split <;> omega
end
def Tri2 (W : World) (g : Nat) (ty : TypeId) (a b : Sm) : Prop:=HoldsM W g ty a ∧ HoldsM W (g + 1) ty b ∧ HoldsM W (g + 1 + 1) ty Sm.zero
theorem Tri2.made (w : World) (ty : TypeId) (a b : Sm) : Tri2 (((w.alloc (.cells #[.int .i64 a.fr,.int .i64 a.to,.int .i64 a.kp,.int .i64 a.ad,.int .i64 a.t0,.int .i64 a.t1,.int .i64 a.t2] ty)).alloc (.cells #[.int .i64 b.fr,.int .i64 b.to,.int .i64 b.kp,.int .i64 b.ad,.int .i64 b.t0,.int .i64 b.t1,.int .i64 b.t2] ty)).alloc (.cells #[.int .i64 0,.int .i64 0,.int .i64 0,.int .i64 0,.int .i64 0,.int .i64 0,.int .i64 0] ty)) w.heap.size ty a b:=by
 refine ⟨((HoldsM.made w ty a).alloc _).alloc _,?_,?_⟩
 · have:=(HoldsM.made (w.alloc (.cells #[.int .i64 a.fr,.int .i64 a.to,.int .i64 a.kp,.int .i64 a.ad,.int .i64 a.t0,.int .i64 a.t1,.int .i64 a.t2] ty)) ty b).alloc (.cells #[.int .i64 0,.int .i64 0,.int .i64 0,.int .i64 0,.int .i64 0,.int .i64 0,.int .i64 0] ty)
   rwa [size_alloc] at this
 · have:=HoldsM.made ((w.alloc (.cells #[.int .i64 a.fr,.int .i64 a.to,.int .i64 a.kp,.int .i64 a.ad,.int .i64 a.t0,.int .i64 a.t1,.int .i64 a.t2] ty)).alloc (.cells #[.int .i64 b.fr,.int .i64 b.to,.int .i64 b.kp,.int .i64 b.ad,.int .i64 b.t0,.int .i64 b.t1,.int .i64 b.t2] ty)) ty Sm.zero
   rwa [size_alloc,size_alloc] at this
theorem Tri2.below {W W' : World} {g : Nat} {ty : TypeId} {a b : Sm} (h : Tri2 W g ty a b) (hb : Below W.heap.size W W') : Tri2 W' g ty a b:=⟨h.1.below hb,h.2.1.below hb,h.2.2.below hb⟩
def Two2 (W : World) (g : Nat) (ty : TypeId) (a b : Sm) : Prop:=HoldsM W g ty a ∧ HoldsM W (g + 1) ty b
theorem Two2.made (w : World) (ty : TypeId) (a b : Sm) : Two2 ((w.alloc (.cells #[.int .i64 a.fr,.int .i64 a.to,.int .i64 a.kp,.int .i64 a.ad,.int .i64 a.t0,.int .i64 a.t1,.int .i64 a.t2] ty)).alloc (.cells #[.int .i64 b.fr,.int .i64 b.to,.int .i64 b.kp,.int .i64 b.ad,.int .i64 b.t0,.int .i64 b.t1,.int .i64 b.t2] ty)) w.heap.size ty a b:=by
 refine ⟨(HoldsM.made w ty a).alloc _,?_⟩
 have:=HoldsM.made (w.alloc (.cells #[.int .i64 a.fr,.int .i64 a.to,.int .i64 a.kp,.int .i64 a.ad,.int .i64 a.t0,.int .i64 a.t1,.int .i64 a.t2] ty)) ty b
 rwa [size_alloc] at this
theorem Two2.below {W W' : World} {g : Nat} {ty : TypeId} {a b : Sm} (h : Two2 W g ty a b) (hb : Below W.heap.size W W') : Two2 W' g ty a b:=⟨h.1.below hb,h.2.below hb⟩
end

section
set_option maxHeartbeats 1000000 in
theorem leqM_A (a b : Sm) (w : World) (h : ¬ a.R) : Calls Tryz.prog 92 #[a.v,b.v] w fun e w' => e = .returned (.bool false) ∧ Below w.heap.size w w':=by
 have h3:=Two2.made w 82 a b
 have hbw:=ba2 w a b 82
 have H3:=Hd h3;have HB:=Hd hbw;clear h3 hbw
 have r1:=fun w => rightM_false h w
 have R1:=Hd r1;clear r1
 clear h
 unfold Sm.v at *
 go_enter Tryz.func92,Tryz.ntmps92
 go_wp2_with fail
 refine (R1.out _).mono ?_;rintro e w2 ⟨rfl,hb2⟩
 have k3:=H3.out.below hb2
 have kb:=HB.out.trans (hb2.mono HB.out.size);clear H3 HB
 have H3:=Hd k3;have HB:=Hd kb;clear k3 kb hb2
 go_wp2_with fail
 go_ret
 exact ⟨rfl,HB.out⟩
set_option maxHeartbeats 1000000 in
theorem leqM_B (a b : Sm) (w : World) (h : a.R) (h2 : ¬ b.R) : Calls Tryz.prog 92 #[a.v,b.v] w fun e w' => e = .returned (.bool false) ∧ Below w.heap.size w w':=by
 have h3:=Two2.made w 82 a b
 have hbw:=ba2 w a b 82
 have H3:=Hd h3;have HB:=Hd hbw;clear h3 hbw
 have r1:=fun w => rightM_true h w
 have r2:=fun w => rightM_false h2 w
 have R1:=Hd r1;have R2:=Hd r2;clear r1 r2
 clear h h2
 unfold Sm.v at *
 go_enter Tryz.func92,Tryz.ntmps92
 go_wp2_with fail
 refine (R1.out _).mono ?_;rintro e w2 ⟨rfl,hb2⟩
 have k3:=H3.out.below hb2
 have kb:=HB.out.trans (hb2.mono HB.out.size);clear H3 HB
 have H3:=Hd k3;have HB:=Hd kb;clear k3 kb hb2
 obtain ⟨a0,a1,a2,a3,a4,a5,a6⟩:=H3.out.1.cells7
 obtain ⟨b0,b1,b2,b3,b4,b5,b6⟩:=H3.out.2.cells7
 go_wp2_with fail
 clear a0 a1 a2 a3 a4 a5 a6 b0 b1 b2 b3 b4 b5 b6
 refine (R2.out _).mono ?_;rintro e w3 ⟨rfl,hb3⟩
 have k3:=H3.out.below hb3
 have kb:=HB.out.trans (hb3.mono HB.out.size);clear H3 HB
 have H3:=Hd k3;have HB:=Hd kb;clear k3 kb hb3
 go_wp2_with fail
 go_ret
 exact ⟨rfl,HB.out⟩
set_option maxHeartbeats 1000000 in
theorem leqM_C (a b : Sm) (w : World) (h : a.R) (h2 : b.R) (h3 : (a.fr != b.fr) = true) : Calls Tryz.prog 92 #[a.v,b.v] w fun e w' => e = .returned (.bool false) ∧ Below w.heap.size w w':=by
 have h3:=Two2.made w 82 a b
 have hbw:=ba2 w a b 82
 have H3:=Hd h3;have HB:=Hd hbw;clear h3 hbw
 have r1:=fun w => rightM_true h w
 have r2:=fun w => rightM_true h2 w
 have R1:=Hd r1;have R2:=Hd r2;clear r1 r2
 clear h h2
 unfold Sm.v at *
 go_enter Tryz.func92,Tryz.ntmps92
 go_wp2_with fail
 refine (R1.out _).mono ?_;rintro e w2 ⟨rfl,hb2⟩
 have k3:=H3.out.below hb2
 have kb:=HB.out.trans (hb2.mono HB.out.size);clear H3 HB
 have H3:=Hd k3;have HB:=Hd kb;clear k3 kb hb2
 obtain ⟨a0,a1,a2,a3,a4,a5,a6⟩:=H3.out.1.cells7
 obtain ⟨b0,b1,b2,b3,b4,b5,b6⟩:=H3.out.2.cells7
 go_wp2_with fail
 clear a0 a1 a2 a3 a4 a5 a6 b0 b1 b2 b3 b4 b5 b6
 refine (R2.out _).mono ?_;rintro e w3 ⟨rfl,hb3⟩
 have k3:=H3.out.below hb3
 have kb:=HB.out.trans (hb3.mono HB.out.size);clear H3 HB
 have H3:=Hd k3;have HB:=Hd kb;clear k3 kb hb3
 obtain ⟨a0,a1,a2,a3,a4,a5,a6⟩:=H3.out.1.cells7
 obtain ⟨b0,b1,b2,b3,b4,b5,b6⟩:=H3.out.2.cells7
 go_wp2_with fail
 go_ret
 exact ⟨rfl,HB.out⟩
set_option maxHeartbeats 1000000 in
theorem leqM_D (a b : Sm) (w : World) (h : a.R) (h2 : b.R) (h3 : (a.fr != b.fr) = false) (h4 : (a.to != b.to) = true) : Calls Tryz.prog 92 #[a.v,b.v] w fun e w' => e = .returned (.bool false) ∧ Below w.heap.size w w':=by
 have h3:=Two2.made w 82 a b
 have hbw:=ba2 w a b 82
 have H3:=Hd h3;have HB:=Hd hbw;clear h3 hbw
 have r1:=fun w => rightM_true h w
 have r2:=fun w => rightM_true h2 w
 have R1:=Hd r1;have R2:=Hd r2;clear r1 r2
 clear h h2
 unfold Sm.v at *
 go_enter Tryz.func92,Tryz.ntmps92
 go_wp2_with fail
 refine (R1.out _).mono ?_;rintro e w2 ⟨rfl,hb2⟩
 have k3:=H3.out.below hb2
 have kb:=HB.out.trans (hb2.mono HB.out.size);clear H3 HB
 have H3:=Hd k3;have HB:=Hd kb;clear k3 kb hb2
 obtain ⟨a0,a1,a2,a3,a4,a5,a6⟩:=H3.out.1.cells7
 obtain ⟨b0,b1,b2,b3,b4,b5,b6⟩:=H3.out.2.cells7
 go_wp2_with fail
 clear a0 a1 a2 a3 a4 a5 a6 b0 b1 b2 b3 b4 b5 b6
 refine (R2.out _).mono ?_;rintro e w3 ⟨rfl,hb3⟩
 have k3:=H3.out.below hb3
 have kb:=HB.out.trans (hb3.mono HB.out.size);clear H3 HB
 have H3:=Hd k3;have HB:=Hd kb;clear k3 kb hb3
 obtain ⟨a0,a1,a2,a3,a4,a5,a6⟩:=H3.out.1.cells7
 obtain ⟨b0,b1,b2,b3,b4,b5,b6⟩:=H3.out.2.cells7
 go_wp2_with fail
 go_ret
 exact ⟨rfl,HB.out⟩
set_option maxHeartbeats 1000000 in
theorem leqM_E (a b : Sm) (w : World) (h : a.R) (h2 : b.R) (h3 : (a.fr != b.fr) = false) (h4 : (a.to != b.to) = false) (h5 : b.kp < a.kp) : Calls Tryz.prog 92 #[a.v,b.v] w fun e w' => e = .returned (.bool false) ∧ Below w.heap.size w w':=by
 have h3:=Two2.made w 82 a b
 have hbw:=ba2 w a b 82
 have H3:=Hd h3;have HB:=Hd hbw;clear h3 hbw
 have r1:=fun w => rightM_true h w
 have r2:=fun w => rightM_true h2 w
 have R1:=Hd r1;have R2:=Hd r2;clear r1 r2
 clear h h2
 unfold Sm.v at *
 go_enter Tryz.func92,Tryz.ntmps92
 go_wp2_with fail
 refine (R1.out _).mono ?_;rintro e w2 ⟨rfl,hb2⟩
 have k3:=H3.out.below hb2
 have kb:=HB.out.trans (hb2.mono HB.out.size);clear H3 HB
 have H3:=Hd k3;have HB:=Hd kb;clear k3 kb hb2
 obtain ⟨a0,a1,a2,a3,a4,a5,a6⟩:=H3.out.1.cells7
 obtain ⟨b0,b1,b2,b3,b4,b5,b6⟩:=H3.out.2.cells7
 go_wp2_with fail
 clear a0 a1 a2 a3 a4 a5 a6 b0 b1 b2 b3 b4 b5 b6
 refine (R2.out _).mono ?_;rintro e w3 ⟨rfl,hb3⟩
 have k3:=H3.out.below hb3
 have kb:=HB.out.trans (hb3.mono HB.out.size);clear H3 HB
 have H3:=Hd k3;have HB:=Hd kb;clear k3 kb hb3
 obtain ⟨a0,a1,a2,a3,a4,a5,a6⟩:=H3.out.1.cells7
 obtain ⟨b0,b1,b2,b3,b4,b5,b6⟩:=H3.out.2.cells7
 go_wp2_with fail
 go_ret
 exact ⟨rfl,HB.out⟩
set_option maxHeartbeats 1000000 in
theorem refLeqM_A (a b : Sm) (w : World) (h : ¬ a.R) : Calls Tryz.prog 146 #[a.v,b.v] w fun e w' => e = .returned (.bool false) ∧ Below w.heap.size w w':=by
 have h3:=Two2.made w 106 a b
 have hbw:=ba2 w a b 106
 have H3:=Hd h3;have HB:=Hd hbw;clear h3 hbw
 have r1:=fun w => refRightM_false h w
 have R1:=Hd r1;clear r1
 clear h
 unfold Sm.v at *
 go_enter Tryz.func146,Tryz.ntmps146
 go_wp2_with fail
 refine (R1.out _).mono ?_;rintro e w2 ⟨rfl,hb2⟩
 have k3:=H3.out.below hb2
 have kb:=HB.out.trans (hb2.mono HB.out.size);clear H3 HB
 have H3:=Hd k3;have HB:=Hd kb;clear k3 kb hb2
 go_wp2_with fail
 go_ret
 exact ⟨rfl,HB.out⟩
set_option maxHeartbeats 1000000 in
theorem refLeqM_B (a b : Sm) (w : World) (h : a.R) (h2 : ¬ b.R) : Calls Tryz.prog 146 #[a.v,b.v] w fun e w' => e = .returned (.bool false) ∧ Below w.heap.size w w':=by
 have h3:=Two2.made w 106 a b
 have hbw:=ba2 w a b 106
 have H3:=Hd h3;have HB:=Hd hbw;clear h3 hbw
 have r1:=fun w => refRightM_true h w
 have r2:=fun w => refRightM_false h2 w
 have R1:=Hd r1;have R2:=Hd r2;clear r1 r2
 clear h h2
 unfold Sm.v at *
 go_enter Tryz.func146,Tryz.ntmps146
 go_wp2_with fail
 refine (R1.out _).mono ?_;rintro e w2 ⟨rfl,hb2⟩
 have k3:=H3.out.below hb2
 have kb:=HB.out.trans (hb2.mono HB.out.size);clear H3 HB
 have H3:=Hd k3;have HB:=Hd kb;clear k3 kb hb2
 obtain ⟨a0,a1,a2,a3,a4,a5,a6⟩:=H3.out.1.cells7
 obtain ⟨b0,b1,b2,b3,b4,b5,b6⟩:=H3.out.2.cells7
 go_wp2_with fail
 clear a0 a1 a2 a3 a4 a5 a6 b0 b1 b2 b3 b4 b5 b6
 refine (R2.out _).mono ?_;rintro e w3 ⟨rfl,hb3⟩
 have k3:=H3.out.below hb3
 have kb:=HB.out.trans (hb3.mono HB.out.size);clear H3 HB
 have H3:=Hd k3;have HB:=Hd kb;clear k3 kb hb3
 go_wp2_with fail
 go_ret
 exact ⟨rfl,HB.out⟩
set_option maxHeartbeats 1000000 in
theorem refLeqM_C (a b : Sm) (w : World) (h : a.R) (h2 : b.R) (h3 : (a.fr != b.fr) = true) : Calls Tryz.prog 146 #[a.v,b.v] w fun e w' => e = .returned (.bool false) ∧ Below w.heap.size w w':=by
 have h3:=Two2.made w 106 a b
 have hbw:=ba2 w a b 106
 have H3:=Hd h3;have HB:=Hd hbw;clear h3 hbw
 have r1:=fun w => refRightM_true h w
 have r2:=fun w => refRightM_true h2 w
 have R1:=Hd r1;have R2:=Hd r2;clear r1 r2
 clear h h2
 unfold Sm.v at *
 go_enter Tryz.func146,Tryz.ntmps146
 go_wp2_with fail
 refine (R1.out _).mono ?_;rintro e w2 ⟨rfl,hb2⟩
 have k3:=H3.out.below hb2
 have kb:=HB.out.trans (hb2.mono HB.out.size);clear H3 HB
 have H3:=Hd k3;have HB:=Hd kb;clear k3 kb hb2
 obtain ⟨a0,a1,a2,a3,a4,a5,a6⟩:=H3.out.1.cells7
 obtain ⟨b0,b1,b2,b3,b4,b5,b6⟩:=H3.out.2.cells7
 go_wp2_with fail
 clear a0 a1 a2 a3 a4 a5 a6 b0 b1 b2 b3 b4 b5 b6
 refine (R2.out _).mono ?_;rintro e w3 ⟨rfl,hb3⟩
 have k3:=H3.out.below hb3
 have kb:=HB.out.trans (hb3.mono HB.out.size);clear H3 HB
 have H3:=Hd k3;have HB:=Hd kb;clear k3 kb hb3
 obtain ⟨a0,a1,a2,a3,a4,a5,a6⟩:=H3.out.1.cells7
 obtain ⟨b0,b1,b2,b3,b4,b5,b6⟩:=H3.out.2.cells7
 go_wp2_with fail
 go_ret
 exact ⟨rfl,HB.out⟩
set_option maxHeartbeats 1000000 in
theorem refLeqM_D (a b : Sm) (w : World) (h : a.R) (h2 : b.R) (h3 : (a.fr != b.fr) = false) (h4 : (a.to != b.to) = true) : Calls Tryz.prog 146 #[a.v,b.v] w fun e w' => e = .returned (.bool false) ∧ Below w.heap.size w w':=by
 have h3:=Two2.made w 106 a b
 have hbw:=ba2 w a b 106
 have H3:=Hd h3;have HB:=Hd hbw;clear h3 hbw
 have r1:=fun w => refRightM_true h w
 have r2:=fun w => refRightM_true h2 w
 have R1:=Hd r1;have R2:=Hd r2;clear r1 r2
 clear h h2
 unfold Sm.v at *
 go_enter Tryz.func146,Tryz.ntmps146
 go_wp2_with fail
 refine (R1.out _).mono ?_;rintro e w2 ⟨rfl,hb2⟩
 have k3:=H3.out.below hb2
 have kb:=HB.out.trans (hb2.mono HB.out.size);clear H3 HB
 have H3:=Hd k3;have HB:=Hd kb;clear k3 kb hb2
 obtain ⟨a0,a1,a2,a3,a4,a5,a6⟩:=H3.out.1.cells7
 obtain ⟨b0,b1,b2,b3,b4,b5,b6⟩:=H3.out.2.cells7
 go_wp2_with fail
 clear a0 a1 a2 a3 a4 a5 a6 b0 b1 b2 b3 b4 b5 b6
 refine (R2.out _).mono ?_;rintro e w3 ⟨rfl,hb3⟩
 have k3:=H3.out.below hb3
 have kb:=HB.out.trans (hb3.mono HB.out.size);clear H3 HB
 have H3:=Hd k3;have HB:=Hd kb;clear k3 kb hb3
 obtain ⟨a0,a1,a2,a3,a4,a5,a6⟩:=H3.out.1.cells7
 obtain ⟨b0,b1,b2,b3,b4,b5,b6⟩:=H3.out.2.cells7
 go_wp2_with fail
 go_ret
 exact ⟨rfl,HB.out⟩
set_option maxHeartbeats 1000000 in
theorem refLeqM_E (a b : Sm) (w : World) (h : a.R) (h2 : b.R) (h3 : (a.fr != b.fr) = false) (h4 : (a.to != b.to) = false) (h5 : b.kp < a.kp) : Calls Tryz.prog 146 #[a.v,b.v] w fun e w' => e = .returned (.bool false) ∧ Below w.heap.size w w':=by
 have h3:=Two2.made w 106 a b
 have hbw:=ba2 w a b 106
 have H3:=Hd h3;have HB:=Hd hbw;clear h3 hbw
 have r1:=fun w => refRightM_true h w
 have r2:=fun w => refRightM_true h2 w
 have R1:=Hd r1;have R2:=Hd r2;clear r1 r2
 clear h h2
 unfold Sm.v at *
 go_enter Tryz.func146,Tryz.ntmps146
 go_wp2_with fail
 refine (R1.out _).mono ?_;rintro e w2 ⟨rfl,hb2⟩
 have k3:=H3.out.below hb2
 have kb:=HB.out.trans (hb2.mono HB.out.size);clear H3 HB
 have H3:=Hd k3;have HB:=Hd kb;clear k3 kb hb2
 obtain ⟨a0,a1,a2,a3,a4,a5,a6⟩:=H3.out.1.cells7
 obtain ⟨b0,b1,b2,b3,b4,b5,b6⟩:=H3.out.2.cells7
 go_wp2_with fail
 clear a0 a1 a2 a3 a4 a5 a6 b0 b1 b2 b3 b4 b5 b6
 refine (R2.out _).mono ?_;rintro e w3 ⟨rfl,hb3⟩
 have k3:=H3.out.below hb3
 have kb:=HB.out.trans (hb3.mono HB.out.size);clear H3 HB
 have H3:=Hd k3;have HB:=Hd kb;clear k3 kb hb3
 obtain ⟨a0,a1,a2,a3,a4,a5,a6⟩:=H3.out.1.cells7
 obtain ⟨b0,b1,b2,b3,b4,b5,b6⟩:=H3.out.2.cells7
 go_wp2_with fail
 go_ret
 exact ⟨rfl,HB.out⟩
end

section
theorem mx_le {x y : Int} : mx x y = y ↔ x ≤ y:=by unfold mx;split <;> omega
theorem L_mx {a b : Sm} (ha : a.R) (hb : b.R) (hf : a.fr = b.fr) (ht : a.to = b.to) (hk : a.kp ≤ b.kp) :
 eqL (mx (a.al 0 0) (b.al 0 0)) (mx (a.al 1 0) (b.al 1 0)) (mx (a.al 2 0) (b.al 2 0)) (b.al 0 0) (b.al 1 0) (b.al 2 0) = decide (a.L b):=by
 unfold eqL
 rw [decide_eq_decide,mx_le,mx_le,mx_le,Sm.al_zero,Sm.al_zero,Sm.al_zero,Sm.al_zero,Sm.al_zero,Sm.al_zero,← ht]
 unfold Sm.L
 constructor
 · rintro ⟨h0,h1,h2⟩
   refine ⟨ha,hb,hf,ht,hk,fun h => ?_,fun h => ?_,fun h => ?_⟩
   · rwa [if_pos h,if_pos h] at h0
   · rwa [if_pos h,if_pos h] at h1
   · rwa [if_pos h,if_pos h] at h2
 · rintro ⟨-,-,-,-,-,h0,h1,h2⟩
   refine ⟨?_,?_,?_⟩
   · split
     · rename_i h;exact h0 h
     · exact Int.le_refl _
   · split
     · rename_i h;exact h1 h
     · exact Int.le_refl _
   · split
     · rename_i h;exact h2 h
     · exact Int.le_refl _
theorem load_row {W : World} {g : Nat} {p q r : Int} (h : Row W g 126 [.int .i64 p,.int .i64 q,.int .i64 r]) : ∀ w',Below W.heap.size W w' → (Instr.loadAt 126 (.pointer (some ⟨g,0,none⟩))).run Tryz.prog w' = .ok (.agg #[.int .i64 p,.int .i64 q,.int .i64 r]) w' :=
 fun w' hb => run_loadAt_part g 0 126 _ [.int .i64 p,.int .i64 q,.int .i64 r] (fun j v hj => by rw [add_at,(h.below hb h.lt).cell,Nat.zero_add];exact hj) Tryz.underlying126 rfl (by kernel_rfl)
theorem eq3r (d : Nat) (x y z p q r : Int) (w : World) : (Op.equalIn (d + 2) 126 (.agg #[.int .i64 x,.int .i64 y,.int .i64 z]) (.agg #[.int .i64 p,.int .i64 q,.int .i64 r])).run Tryz.prog w = .ok (decide (x = p ∧ y = q ∧ z = r)) w:=by
 have hu:=Tryz.underlying126
 have hi : ∀ w,(isAgg 3).run Tryz.prog w = .ok false w:=fun w => by go_simp
 unfold Op.equalIn
 simp [run_underlying hu,range3,part,hi,eq_int,Sem.run_bind]
 by_cases h1 : x = p
 · by_cases h2 : y = q
   · by_cases h3 : z = r
     · simp [h1,h2,h3]
     · simp [h1,h2,h3]
   · simp [h1,h2]
 · simp [h1]
theorem eq_r (x y : Operand) (a b c p q r : Int) : ∀ w,(do eqGuard .eql 126 x y (.agg #[.int .i64 a,.int .i64 b,.int .i64 c]) (.agg #[.int .i64 p,.int .i64 q,.int .i64 r]);binOp .eql 126 (.agg #[.int .i64 a,.int .i64 b,.int .i64 c]) (.agg #[.int .i64 p,.int .i64 q,.int .i64 r]) : Sem Value).run Tryz.prog w = .ok (.bool (eqL a b c p q r)) w:=by
 intro w
 rw [Sem.run_bind,run_eqGuard_agg w _ _ _ _ _ _ (by kernel_rfl),Result.andThen_ok,run_eql_struct,eq3r 9998]
 rfl
set_option maxHeartbeats 4000000 in
theorem leqM_F (a b : Sm) (w : World) (p0 p1 p2 q0 q1 q2 : Int) (h : a.R) (h2 : b.R) (h3 : (a.fr != b.fr) = false) (h4 : (a.to != b.to) = false) (h5 : ¬ b.kp < a.kp)
 (ca : ∀ w,Calls Tryz.prog 87 #[a.v,.agg #[.int .i64 0,.int .i64 0,.int .i64 0]] w fun e w' => e = .returned (.agg #[.int .i64 p0,.int .i64 p1,.int .i64 p2]) ∧ Below w.heap.size w w')
 (cb : ∀ w,Calls Tryz.prog 87 #[b.v,.agg #[.int .i64 0,.int .i64 0,.int .i64 0]] w fun e w' => e = .returned (.agg #[.int .i64 q0,.int .i64 q1,.int .i64 q2]) ∧ Below w.heap.size w w') :
 Calls Tryz.prog 92 #[a.v,b.v] w fun e w' => e = .returned (.bool (eqL (mx p0 q0) (mx p1 q1) (mx p2 q2) q0 q1 q2)) ∧ Below w.heap.size w w':=by
 have h3:=Two2.made w 82 a b
 have hbw:=ba2 w a b 82
 have H3:=Hd h3;have HB:=Hd hbw;clear h3 hbw
 have r1:=fun w => rightM_true h w
 have r2:=fun w => rightM_true h2 w
 have cg:=fun w => greaterM_any p0 p1 p2 q0 q1 q2 w
 have R1:=Hd r1;have R2:=Hd r2;have CA:=Hd ca;have CB:=Hd cb;have CG:=Hd cg;clear r1 r2 ca cb cg
 clear h h2
 unfold Sm.v at *
 go_enter Tryz.func92,Tryz.ntmps92
 go_wp2_with fail
 refine (R1.out _).mono ?_;rintro e w2 ⟨rfl,hb2⟩
 have k3:=H3.out.below hb2
 have kb:=HB.out.trans (hb2.mono HB.out.size);clear H3 HB
 have H3:=Hd k3;have HB:=Hd kb;clear k3 kb hb2
 obtain ⟨a0,a1,a2,a3,a4,a5,a6⟩:=H3.out.1.cells7
 obtain ⟨b0,b1,b2,b3,b4,b5,b6⟩:=H3.out.2.cells7
 go_wp2_with fail
 clear a0 a1 a2 a3 a4 a5 a6 b0 b1 b2 b3 b4 b5 b6
 refine (R2.out _).mono ?_;rintro e w3 ⟨rfl,hb3⟩
 have k3:=H3.out.below hb3
 have kb:=HB.out.trans (hb3.mono HB.out.size);clear H3 HB
 have H3:=Hd k3;have HB:=Hd kb;clear k3 kb hb3
 obtain ⟨a0,a1,a2,a3,a4,a5,a6⟩:=H3.out.1.cells7
 obtain ⟨b0,b1,b2,b3,b4,b5,b6⟩:=H3.out.2.cells7
 go_wp2_with fail
 clear a0 a1 a2 a3 a4 a5 a6 b0 b1 b2 b3 b4 b5 b6
 refine (CB.out _).mono ?_;rintro e w4 ⟨rfl,hb4⟩
 have k3:=H3.out.below hb4
 have kb:=HB.out.trans (hb4.mono HB.out.size);clear H3 HB
 have H3:=Hd k3;have HB:=Hd kb;clear k3 kb hb4
 clear h3 h4 h5
 have hc:=HB.out.size
 go_wp2_with fail
 have k3 : Two2 (w4.alloc (.cells #[.int .i64 q0,.int .i64 q1,.int .i64 q2] 126)) w.heap.size 82 a b:=⟨H3.out.1.alloc _,H3.out.2.alloc _⟩
 have kr : Row (w4.alloc (.cells #[.int .i64 q0,.int .i64 q1,.int .i64 q2] 126)) w4.heap.size 126 [.int .i64 q0,.int .i64 q1,.int .i64 q2]:=Row.made w4 _ _
 have kb:=HB.out.alloc HB.out.size (.cells #[.int .i64 q0,.int .i64 q1,.int .i64 q2] 126)
 clear H3 HB hc R1 R2 CB
 generalize w4.alloc (.cells #[.int .i64 q0,.int .i64 q1,.int .i64 q2] 126) = W at *
 generalize w4.heap.size = g at *
 have H3:=Hd k3;have HR:=Hd kr;have HB:=Hd kb;clear k3 kr kb
 refine wp_region_below (by kernel_rfl) (by kernel_rfl) ?_
 refine wpQuiet_step (fun K hK => ?_);refine q_load (p:=.pointer (some ⟨w.heap.size,0,none⟩)) 82 _ rfl rfl rfl (load_m H3.out.1) ?_;go_simp;(with_reducible refine hK _ ?_);clear hK K
 refine wpQuiet_step (fun K hK => ?_);go_simp;(first | (with_reducible refine hK _ ?_) | (with_reducible refine ⟨_,fun _ _ => rfl,hK _ ?_⟩));clear hK K
 refine wpQuiet_step (fun K hK => ?_);go_simp;(with_reducible refine ⟨_,fun _ hb => (CA.out _).mono fun _ _ h => ⟨h.1,hb.trans (h.2.mono (by simpa using hb.size))⟩,hK _ ?_⟩);clear hK K
 refine wpQuiet_step (fun K hK => ?_);refine q_load (p:=.pointer (some ⟨g,0,none⟩)) 126 _ rfl rfl rfl (load_row HR.out) ?_;go_simp;(with_reducible refine hK _ ?_);clear hK K
 refine wpQuiet_step (fun K hK => ?_);go_simp;(with_reducible refine ⟨_,fun _ hb => (CG.out _).mono fun _ _ h => ⟨h.1,hb.trans (h.2.mono (by simpa using hb.size))⟩,hK _ ?_⟩);clear hK K
 refine wpQuiet_step (fun K hK => ?_);refine q_load (p:=.pointer (some ⟨g,0,none⟩)) 126 _ rfl rfl rfl (load_row HR.out) ?_;go_simp;(with_reducible refine hK _ ?_);clear hK K
 refine wpQuiet_step (fun K hK => ?_);refine q_bin _ _ _ _ _ rfl rfl rfl rfl (eq_r _ _ _ _ _ _ _ _) ?_;go_simp;(with_reducible refine hK _ ?_);clear hK K
 refine wpQuiet_step (fun K hK => ?_);go_simp;(first | (with_reducible refine hK _ ?_) | (with_reducible refine ⟨_,fun _ _ => rfl,hK _ ?_⟩));clear hK K
 refine wpQuiet_nil ?_
 intro w8 hb8
 go_wp2_with fail
 go_ret
 exact ⟨rfl,HB.out.trans (hb8.mono HB.out.size)⟩
theorem leqM_any (a b : Sm) (w : World) : Calls Tryz.prog 92 #[a.v,b.v] w fun e w' => e = .returned (.bool (decide (a.L b))) ∧ Below w.heap.size w w':=by
 by_cases h : a.R
 case neg => rw [decide_eq_false (fun hh : a.L b => h hh.1)];exact leqM_A a b w h
 by_cases h2 : b.R
 case neg => rw [decide_eq_false (fun hh : a.L b => h2 hh.2.1)];exact leqM_B a b w h h2
 by_cases h3 : a.fr = b.fr
 case neg => rw [decide_eq_false (fun hh : a.L b => h3 hh.2.2.1)];exact leqM_C a b w h h2 (by simpa using h3)
 by_cases h4 : a.to = b.to
 case neg => rw [decide_eq_false (fun hh : a.L b => h4 hh.2.2.2.1)];exact leqM_D a b w h h2 (by simpa using h3) (by simpa using h4)
 by_cases h5 : b.kp < a.kp
 case pos => rw [decide_eq_false (fun hh : a.L b => by have:=hh.2.2.2.2.1;omega)];exact leqM_E a b w h h2 (by simpa using h3) (by simpa using h4) h5
 rw [← L_mx h h2 h3 h4 (by omega)]
 exact leqM_F a b w _ _ _ _ _ _ h h2 (by simpa using h3) (by simpa using h4) h5 (fun w => along_any a 0 0 0 w h (by omega) (by omega) (by omega)) (fun w => along_any b 0 0 0 w h2 (by omega) (by omega) (by omega))
end

section
end

section
theorem greater_any (m n : Int) (w : World) : Calls Tryz.prog 133 #[.int .i64 m,.int .i64 n] w fun e w' => e = .returned (.int .i64 (pk true m n)) ∧ w' = w:=by
 by_cases h : m < n
 · have h2 : pk true m n = n:=by unfold pk;simp;omega
   rw [h2];clear h2
   go_enter Tryz.func133,Tryz.ntmps133
   go_wp2_with fail
   go_ret
   exact ⟨rfl,rfl⟩
 · have h2 : pk true m n = m:=by unfold pk;simp;omega
   rw [h2];clear h2
   go_enter Tryz.func133,Tryz.ntmps133
   go_wp2_with fail
   go_ret
   exact ⟨rfl,rfl⟩
set_option maxHeartbeats 1000000 in
theorem both_no_greater (a b : St) (w : World) (h : ¬ a.B b) :
 Calls Tryz.prog 132 #[a.val,b.val,.func (.func 133) #[] #[]] w fun e w' => e = .returned (.tuple #[St.zero.val,.bool false]) ∧ Below w.heap.size w w':=by
 unfold St.B at h
 by_cases ha : a.R
 · by_cases hb : b.R
   · have hd : ¬ a.d = b.d:=fun e => h ⟨ha,hb,e⟩
     have HA:=Hd (right_is (decide_eq_true ha) (right_any a));have HB:=Hd (right_is (decide_eq_true hb) (right_any b));clear ha hb h
     obtain ⟨d,e,x,y,z⟩:=a
     obtain ⟨d',e',x',y',z'⟩:=b
     unfold St.val at *
     simp only at hd HA HB ⊢
     have hd' : (d != d') = true:=by simpa using hd
     clear hd
     have hz:=zero_made ((w.alloc (.cells #[.int .i64 d,.int .i64 e,.int .i64 x,.int .i64 y,.int .i64 z] 27)).alloc (.cells #[.int .i64 d',.int .i64 e',.int .i64 x',.int .i64 y',.int .i64 z'] 27))
     rw [size_alloc,size_alloc] at hz
     have HZ:=Hd hz;clear hz
     go_enter Tryz.func132,Tryz.ntmps132
     go_wp2_with fail
     refine (HA.out _).mono ?_;rintro e w1 ⟨rfl,hb1⟩
     obtain ⟨hc1,hf1⟩:=old_cells hb1
     have HB1:=Hd hb1;clear hb1
     go_wp2_with fail
     refine (HB.out _).mono ?_;rintro e w2 ⟨rfl,hb2⟩
     have hb12:=HB1.out.trans (hb2.mono HB1.out.size)
     clear hc1 hf1
     obtain ⟨hc1,hf1⟩:=old_cells hb12
     have HB12:=Hd hb12;clear hb12 hb2
     go_wp2_with fail
     refine bodyPost_ret (v:=.tuple #[.agg #[.int .i64 0,.int .i64 0,.int .i64 0,.int .i64 0,.int .i64 0],.bool false]) (two_results rfl _ _ _ 27 _ (0,0) _ rfl (Holds.all (HZ.out.below HB12.out) 0 0 0 0 0) Tryz.underlying27 rfl (by kernel_rfl) rfl) rfl ?_
     exact ⟨rfl,below_set5 (g:=w.heap.size + 1 + 1) (below3 HB12.out) (by omega)⟩
   · have HA:=Hd (right_is (decide_eq_true ha) (right_any a));have HB:=Hd (right_is (decide_eq_false hb) (right_any b));clear ha hb h
     obtain ⟨d,e,x,y,z⟩:=a
     obtain ⟨d',e',x',y',z'⟩:=b
     unfold St.val at *
     simp only at HA HB ⊢
     have hz:=zero_made ((w.alloc (.cells #[.int .i64 d,.int .i64 e,.int .i64 x,.int .i64 y,.int .i64 z] 27)).alloc (.cells #[.int .i64 d',.int .i64 e',.int .i64 x',.int .i64 y',.int .i64 z'] 27))
     rw [size_alloc,size_alloc] at hz
     have HZ:=Hd hz;clear hz
     go_enter Tryz.func132,Tryz.ntmps132
     go_wp2_with fail
     refine (HA.out _).mono ?_;rintro e w1 ⟨rfl,hb1⟩
     obtain ⟨hc1,hf1⟩:=old_cells hb1
     have HB1:=Hd hb1;clear hb1
     go_wp2_with fail
     refine (HB.out _).mono ?_;rintro e w2 ⟨rfl,hb2⟩
     have hb12:=HB1.out.trans (hb2.mono HB1.out.size)
     clear hc1 hf1
     obtain ⟨hc1,hf1⟩:=old_cells hb12
     have HB12:=Hd hb12;clear hb12 hb2
     go_wp2_with fail
     refine bodyPost_ret (v:=.tuple #[.agg #[.int .i64 0,.int .i64 0,.int .i64 0,.int .i64 0,.int .i64 0],.bool false]) (two_results rfl _ _ _ 27 _ (0,0) _ rfl (Holds.all (HZ.out.below HB12.out) 0 0 0 0 0) Tryz.underlying27 rfl (by kernel_rfl) rfl) rfl ?_
     exact ⟨rfl,below_set5 (g:=w.heap.size + 1 + 1) (below3 HB12.out) (by omega)⟩
 · have HA:=Hd (right_is (decide_eq_false ha) (right_any a));clear ha h
   obtain ⟨d,e,x,y,z⟩:=a
   obtain ⟨d',e',x',y',z'⟩:=b
   unfold St.val at *
   simp only at HA ⊢
   have hz:=zero_made ((w.alloc (.cells #[.int .i64 d,.int .i64 e,.int .i64 x,.int .i64 y,.int .i64 z] 27)).alloc (.cells #[.int .i64 d',.int .i64 e',.int .i64 x',.int .i64 y',.int .i64 z'] 27))
   rw [size_alloc,size_alloc] at hz
   have HZ:=Hd hz;clear hz
   go_enter Tryz.func132,Tryz.ntmps132
   go_wp2_with fail
   refine (HA.out _).mono ?_;rintro e w1 ⟨rfl,hb1⟩
   obtain ⟨hc1,hf1⟩:=old_cells hb1
   have HB1:=Hd hb1;clear hb1
   go_wp2_with fail
   refine bodyPost_ret (v:=.tuple #[.agg #[.int .i64 0,.int .i64 0,.int .i64 0,.int .i64 0,.int .i64 0],.bool false]) (two_results rfl _ _ _ 27 _ (0,0) _ rfl (Holds.all (HZ.out.below HB1.out) 0 0 0 0 0) Tryz.underlying27 rfl (by kernel_rfl) rfl) rfl ?_
   exact ⟨rfl,below_set5 (g:=w.heap.size + 1 + 1) (below3 HB1.out) (by omega)⟩
end
end Go.Proofs.YtonelpnhoiajgaaGreatDoor
