import Derived.Test.YtonelpnhoiajgaaGreatDoorHd
import Derived.Test.YtonelpnhoiajgaaGreatDoorCa1
import Derived.Test.YtonelpnhoiajgaaGreatDoorCa0
namespace Go.Proofs.YtonelpnhoiajgaaGreatDoor
set_option linter.unusedSimpArgs false
set_option maxRecDepth 100000
open Go.ChangeShapes Go.WideShapes Go.ChangeAt Go.RowKit Go.BigFrame
set_option linter.unusedVariables false
section
def Sm.ap (s : Sm) (t : St) : St:=(s.apply t).getD St.zero
def Sm.apB (s : Sm) (t : St) : Bool:=(s.apply t).isSome
section
variable {s : Sm} {t : St}
theorem Sm.ap_no (h : ¬ (s.R ∧ t.R ∧ t.d = s.fr ∧ s.val t 0 < 16 ∧ s.val t 1 < 16 ∧ s.val t 2 < 16)) : s.ap t = St.zero ∧ s.apB t = false:=by
 unfold Sm.ap Sm.apB Sm.apply;rw [if_neg h];exact ⟨rfl,rfl⟩
theorem Sm.ap_yes (h : s.R ∧ t.R ∧ t.d = s.fr ∧ s.val t 0 < 16 ∧ s.val t 1 < 16 ∧ s.val t 2 < 16) : s.ap t = ⟨s.to,t.e,s.val t 0,s.val t 1,s.val t 2⟩ ∧ s.apB t = true:=by
 unfold Sm.ap Sm.apB Sm.apply;rw [if_pos h];exact ⟨rfl,rfl⟩
theorem Sm.val_al (i : Int) : s.al i (t.at_ i) = s.val t i:=by
 unfold Sm.al Sm.val
 by_cases h : i < s.to
 · rw [if_pos h,if_pos h,Sm.cn_N]
 · rw [if_neg h,if_neg h]
theorem Sm.made_R (hs : s.R) (ht : t.R) : St.R ⟨s.to,t.e,s.val t 0,s.val t 1,s.val t 2⟩ ↔ s.val t 0 < 16 ∧ s.val t 1 < 16 ∧ s.val t 2 < 16:=by
 have g0:=Sm.val_R hs ht 0;have g1:=Sm.val_R hs ht 1;have g2:=Sm.val_R hs ht 2
 have z0:=Sm.val_out (s:=s) (t:=t) (i:=0);have z1:=Sm.val_out (s:=s) (t:=t) (i:=1);have z2:=Sm.val_out (s:=s) (t:=t) (i:=2)
 unfold Sm.R at hs;unfold St.R at *
 simp only
 omega
end
theorem right_false {t : St} (h : ¬ t.R) (w : World) : Calls Tryz.prog 75 #[t.val] w fun e w' => e = .returned (.bool false) ∧ Below w.heap.size w w':=by
 have:=right_any t w;rwa [decide_eq_false h] at this
theorem right_true {t : St} (h : t.R) (w : World) : Calls Tryz.prog 75 #[t.val] w fun e w' => e = .returned (.bool true) ∧ Below w.heap.size w w':=by
 have:=right_any t w;rwa [decide_eq_true h] at this
theorem rightM_false {s : Sm} (h : ¬ s.R) (w : World) : Calls Tryz.prog 86 #[s.v] w fun e w' => e = .returned (.bool false) ∧ Below w.heap.size w w':=by
 have:=rightM_any s w;rwa [decide_eq_false h] at this
theorem rightM_true {s : Sm} (h : s.R) (w : World) : Calls Tryz.prog 86 #[s.v] w fun e w' => e = .returned (.bool true) ∧ Below w.heap.size w w':=by
 have:=rightM_any s w;rwa [decide_eq_true h] at this
theorem row_set5' {w : World} {b : Nat} {t : TypeId} {a1 a2 a3 a4 a5 b1 b2 b3 b4 b5 : Value} (h : Row w b t [a1,a2,a3,a4,a5]) :
 Row (((((w.setCell ⟨b,0,none⟩ b1).setCell ⟨b,1,none⟩ b2).setCell ⟨b,2,none⟩ b3).setCell ⟨b,3,none⟩ b4).setCell ⟨b,4,none⟩ b5) b t [b1,b2,b3,b4,b5] :=
 ((((h.put 0 b1).put 1 b2).put 2 b3).put 3 b4).put 4 b5
theorem below_set5' {w w' : World} {B g : Nat} {b1 b2 b3 b4 b5 : Value} (h : Below B w w') (hg : B ≤ g) :
 Below B w (((((w'.setCell ⟨g,0,none⟩ b1).setCell ⟨g,1,none⟩ b2).setCell ⟨g,2,none⟩ b3).setCell ⟨g,3,none⟩ b4).setCell ⟨g,4,none⟩ b5) :=
 ((((h.setCell hg _).setCell hg _).setCell hg _).setCell hg _).setCell hg _
theorem Holds.c5 {W : World} {g : Nat} {t : St} (h : Holds W g t) : W.cell? ⟨g,0,none⟩ = some (.int .i64 t.d) ∧ W.cell? ⟨g,1,none⟩ = some (.int .i64 t.e) ∧ W.cell? ⟨g,2,none⟩ = some (.int .i64 t.x) ∧ W.cell? ⟨g,3,none⟩ = some (.int .i64 t.y) ∧ W.cell? ⟨g,4,none⟩ = some (.int .i64 t.z) :=
 ⟨h.at_ 0,h.at_ 1,h.at_ 2,h.at_ 3,h.at_ 4⟩
theorem Holds.f5 {W : World} {g : Nat} {t : St} (h : Holds W g t) : W.frozen? ⟨g,0,none⟩ = false ∧ W.frozen? ⟨g,1,none⟩ = false ∧ W.frozen? ⟨g,2,none⟩ = false ∧ W.frozen? ⟨g,3,none⟩ = false ∧ W.frozen? ⟨g,4,none⟩ = false :=
 ⟨Row.free h 0,Row.free h 1,Row.free h 2,Row.free h 3,Row.free h 4⟩
theorem below_alloc2' (w : World) (o o' : Obj) : Below w.heap.size w ((w.alloc o).alloc o'):=((Below.refl _ _).alloc (Nat.le_refl _) _).alloc (by simp) _
def Trio (W : World) (b : Nat) (ty : TypeId) (s : Sm) (t : St) : Prop:=HoldsM W b ty s ∧ Holds W (b + 1) t ∧ Holds W (b + 1 + 1) St.zero
theorem Trio.made (w : World) (ty : TypeId) (s : Sm) (t : St) : Trio (((w.alloc (.cells #[.int .i64 s.fr,.int .i64 s.to,.int .i64 s.kp,.int .i64 s.ad,.int .i64 s.t0,.int .i64 s.t1,.int .i64 s.t2] ty)).alloc (.cells #[.int .i64 t.d,.int .i64 t.e,.int .i64 t.x,.int .i64 t.y,.int .i64 t.z] 27)).alloc (.cells #[.int .i64 0,.int .i64 0,.int .i64 0,.int .i64 0,.int .i64 0] 27)) w.heap.size ty s t:=by
 refine ⟨((HoldsM.made w ty s).alloc _).alloc _,?_,?_⟩
 · have:=(Holds.made (w.alloc (.cells #[.int .i64 s.fr,.int .i64 s.to,.int .i64 s.kp,.int .i64 s.ad,.int .i64 s.t0,.int .i64 s.t1,.int .i64 s.t2] ty)) t).alloc (.cells #[.int .i64 0,.int .i64 0,.int .i64 0,.int .i64 0,.int .i64 0] 27)
   rwa [size_alloc] at this
 · have:=Holds.made ((w.alloc (.cells #[.int .i64 s.fr,.int .i64 s.to,.int .i64 s.kp,.int .i64 s.ad,.int .i64 s.t0,.int .i64 s.t1,.int .i64 s.t2] ty)).alloc (.cells #[.int .i64 t.d,.int .i64 t.e,.int .i64 t.x,.int .i64 t.y,.int .i64 t.z] 27)) St.zero
   rwa [size_alloc,size_alloc] at this
theorem Trio.below {W W' : World} {b : Nat} {ty : TypeId} {s : Sm} {t : St} (h : Trio W b ty s t) (hb : Below W.heap.size W W') : Trio W' b ty s t:=⟨h.1.below hb,h.2.1.below hb,h.2.2.below hb⟩
theorem below_alloc3 (w : World) (o o' o'' : Obj) : Below w.heap.size w (((w.alloc o).alloc o').alloc o''):=(below_alloc2' w o o').alloc (by simp;omega) _
theorem ba3 (w : World) (a b : Sm) (T : TypeId) : Below w.heap.size w (((w.alloc (.cells #[.int .i64 a.fr,.int .i64 a.to,.int .i64 a.kp,.int .i64 a.ad,.int .i64 a.t0,.int .i64 a.t1,.int .i64 a.t2] T)).alloc (.cells #[.int .i64 b.fr,.int .i64 b.to,.int .i64 b.kp,.int .i64 b.ad,.int .i64 b.t0,.int .i64 b.t1,.int .i64 b.t2] T)).alloc (.cells #[.int .i64 0,.int .i64 0,.int .i64 0,.int .i64 0,.int .i64 0,.int .i64 0,.int .i64 0] T)):=below_alloc3 w _ _ _
end

section
def Sm.ofk (k d : Int) : Sm:=if k = 7 then ⟨d - 1,d,d - 1,0,0,0,0⟩ else if k = 8 then ⟨d + 1,d,d,0,0,0,0⟩ else if k = 9 then ⟨d,d,d,1,0,0,0⟩ else ⟨d,d,d,0,0,0,0⟩
def okOf (k d : Int) : Prop:=1 ≤ k ∧ k ≤ 10 ∧ (Sm.ofk k d).R
instance (k d : Int) : Decidable (okOf k d):=inferInstanceAs (Decidable (_ ∧ _))
def Sm.of_ (k d : Int) : Sm:=if okOf k d then Sm.ofk k d else Sm.zero
theorem row_set7 {w : World} {b : Nat} {t : TypeId} {a1 a2 a3 a4 a5 a6 a7 b1 b2 b3 b4 b5 b6 b7 : Value} (h : Row w b t [a1,a2,a3,a4,a5,a6,a7]) :
 Row (((((((w.setCell ⟨b,0,none⟩ b1).setCell ⟨b,1,none⟩ b2).setCell ⟨b,2,none⟩ b3).setCell ⟨b,3,none⟩ b4).setCell ⟨b,4,none⟩ b5).setCell ⟨b,5,none⟩ b6).setCell ⟨b,6,none⟩ b7) b t [b1,b2,b3,b4,b5,b6,b7] :=
 ((((((h.put 0 b1).put 1 b2).put 2 b3).put 3 b4).put 4 b5).put 5 b6).put 6 b7
theorem below_set7 {w w' : World} {B g : Nat} {b1 b2 b3 b4 b5 b6 b7 : Value} (h : Below B w w') (hg : B ≤ g) :
 Below B w (((((((w'.setCell ⟨g,0,none⟩ b1).setCell ⟨g,1,none⟩ b2).setCell ⟨g,2,none⟩ b3).setCell ⟨g,3,none⟩ b4).setCell ⟨g,4,none⟩ b5).setCell ⟨g,5,none⟩ b6).setCell ⟨g,6,none⟩ b7) :=
 ((((((h.setCell hg _).setCell hg _).setCell hg _).setCell hg _).setCell hg _).setCell hg _).setCell hg _
theorem made2r (w : World) (o : Obj) (t : TypeId) (l : List Value) : Row ((w.alloc o).alloc (.cells l.toArray t)) (w.heap.size + 1) t l:=smMade2 w o _
theorem below_alloc2 (w : World) (o o' : Obj) : Below w.heap.size w ((w.alloc o).alloc o'):=((Below.refl _ _).alloc (Nat.le_refl _) _).alloc (by simp) _
theorem ba2 (w : World) (a b : Sm) (T : TypeId) : Below w.heap.size w ((w.alloc (.cells #[.int .i64 a.fr,.int .i64 a.to,.int .i64 a.kp,.int .i64 a.ad,.int .i64 a.t0,.int .i64 a.t1,.int .i64 a.t2] T)).alloc (.cells #[.int .i64 b.fr,.int .i64 b.to,.int .i64 b.kp,.int .i64 b.ad,.int .i64 b.t0,.int .i64 b.t1,.int .i64 b.t2] T)):=below_alloc2 w _ _
def Sm.orz (s : Sm) (b : Bool) : Sm:=if b then s else Sm.zero
set_option maxHeartbeats 2000000 in
theorem of_7 (d p : Int) (hp : IntKind.i64.wrap (d - 1) = p) (w : World) : Calls Tryz.prog 45 #[.int .u8 7,.int .i64 d] w fun e w' => e = .returned (.tuple #[(Sm.orz (⟨p,d,p,0,0,0,0⟩ : Sm) (decide (Sm.R (⟨p,d,p,0,0,0,0⟩ : Sm)))).v,.bool (decide (Sm.R (⟨p,d,p,0,0,0,0⟩ : Sm)))]) ∧ Below w.heap.size w w':=by
 have hr:=fun w => rightM_any (⟨p,d,p,0,0,0,0⟩ : Sm) w
 have h1 : HoldsM ((w.alloc (.cells #[.int .i64 0,.int .i64 0,.int .i64 0,.int .i64 0,.int .i64 0,.int .i64 0,.int .i64 0] 82)).alloc (.cells #[.int .i64 ((⟨p,d,p,0,0,0,0⟩ : Sm)).fr,.int .i64 ((⟨p,d,p,0,0,0,0⟩ : Sm)).to,.int .i64 ((⟨p,d,p,0,0,0,0⟩ : Sm)).kp,.int .i64 ((⟨p,d,p,0,0,0,0⟩ : Sm)).ad,.int .i64 ((⟨p,d,p,0,0,0,0⟩ : Sm)).t0,.int .i64 ((⟨p,d,p,0,0,0,0⟩ : Sm)).t1,.int .i64 ((⟨p,d,p,0,0,0,0⟩ : Sm)).t2] 82)) (w.heap.size + 1) 82 (⟨p,d,p,0,0,0,0⟩ : Sm):=made2r w _ _ _
 have h0 : HoldsM ((w.alloc (.cells #[.int .i64 0,.int .i64 0,.int .i64 0,.int .i64 0,.int .i64 0,.int .i64 0,.int .i64 0] 82)).alloc (.cells #[.int .i64 ((⟨p,d,p,0,0,0,0⟩ : Sm)).fr,.int .i64 ((⟨p,d,p,0,0,0,0⟩ : Sm)).to,.int .i64 ((⟨p,d,p,0,0,0,0⟩ : Sm)).kp,.int .i64 ((⟨p,d,p,0,0,0,0⟩ : Sm)).ad,.int .i64 ((⟨p,d,p,0,0,0,0⟩ : Sm)).t0,.int .i64 ((⟨p,d,p,0,0,0,0⟩ : Sm)).t1,.int .i64 ((⟨p,d,p,0,0,0,0⟩ : Sm)).t2] 82)) w.heap.size 82 Sm.zero:=Row.alloc (Row.made w _ _) _
 simp only at h1 h0
 unfold Sm.v at hr
 generalize hb : decide (Sm.R (⟨p,d,p,0,0,0,0⟩ : Sm)) = bb at *
 clear hb
 have HR:=Hd hr;have H1:=Hd h1;have H0:=Hd h0;clear hr h1 h0
 unfold Sm.orz
 go_enter Tryz.func45,Tryz.ntmps45
 go_wp2_with fail
 refine (HR.out _).mono ?_;rintro e w2 ⟨rfl,hb2⟩
 have h1 : HoldsM w2 (w.heap.size + 1) 82 (⟨p,d,p,0,0,0,0⟩ : Sm):=Row.below H1.out hb2 (by simp)
 have h0 : HoldsM w2 w.heap.size 82 Sm.zero:=Row.below H0.out hb2 (by simp;omega)
 obtain ⟨c0,c1,c2,c3,c4,c5,c6⟩:=h1.cells7
 obtain ⟨f0,f1,f2,f3,f4,f5,f6⟩:=h0.free7
 obtain ⟨z0,z1,z2,z3,z4,z5,z6⟩:=h0.cells7
 have HB:=Hd ((below_alloc2 w _ _).trans (hb2.mono (by simp;omega)))
 have HZ:=Hd h0
 clear hb2 h1 h0
 simp only at c0 c1 c2 c3 c4 c5 c6
 cases bb with
 | true =>
   go_wp2_with fail
   refine bodyPost_ret (v:=.tuple #[Sm.v (⟨p,d,p,0,0,0,0⟩ : Sm),.bool true]) (two_results rfl _ _ _ 82 _ (0,0) _ rfl (row_set7 HZ.out) Tryz.underlying82 rfl (by kernel_rfl) rfl) rfl ?_
   exact ⟨rfl,below_set7 HB.out (Nat.le_refl _)⟩
 | false =>
   go_wp2_with fail
   refine bodyPost_ret (v:=.tuple #[Sm.v Sm.zero,.bool false]) (two_results rfl _ _ _ 82 _ (0,0) _ rfl (row_set7 HZ.out) Tryz.underlying82 rfl (by kernel_rfl) rfl) rfl ?_
   exact ⟨rfl,below_set7 HB.out (Nat.le_refl _)⟩
set_option maxHeartbeats 2000000 in
theorem of_8 (d p : Int) (hp : IntKind.i64.wrap (d + 1) = p) (w : World) : Calls Tryz.prog 45 #[.int .u8 8,.int .i64 d] w fun e w' => e = .returned (.tuple #[(Sm.orz (⟨p,d,d,0,0,0,0⟩ : Sm) (decide (Sm.R (⟨p,d,d,0,0,0,0⟩ : Sm)))).v,.bool (decide (Sm.R (⟨p,d,d,0,0,0,0⟩ : Sm)))]) ∧ Below w.heap.size w w':=by
 have hr:=fun w => rightM_any (⟨p,d,d,0,0,0,0⟩ : Sm) w
 have h1 : HoldsM ((w.alloc (.cells #[.int .i64 0,.int .i64 0,.int .i64 0,.int .i64 0,.int .i64 0,.int .i64 0,.int .i64 0] 82)).alloc (.cells #[.int .i64 ((⟨p,d,d,0,0,0,0⟩ : Sm)).fr,.int .i64 ((⟨p,d,d,0,0,0,0⟩ : Sm)).to,.int .i64 ((⟨p,d,d,0,0,0,0⟩ : Sm)).kp,.int .i64 ((⟨p,d,d,0,0,0,0⟩ : Sm)).ad,.int .i64 ((⟨p,d,d,0,0,0,0⟩ : Sm)).t0,.int .i64 ((⟨p,d,d,0,0,0,0⟩ : Sm)).t1,.int .i64 ((⟨p,d,d,0,0,0,0⟩ : Sm)).t2] 82)) (w.heap.size + 1) 82 (⟨p,d,d,0,0,0,0⟩ : Sm):=made2r w _ _ _
 have h0 : HoldsM ((w.alloc (.cells #[.int .i64 0,.int .i64 0,.int .i64 0,.int .i64 0,.int .i64 0,.int .i64 0,.int .i64 0] 82)).alloc (.cells #[.int .i64 ((⟨p,d,d,0,0,0,0⟩ : Sm)).fr,.int .i64 ((⟨p,d,d,0,0,0,0⟩ : Sm)).to,.int .i64 ((⟨p,d,d,0,0,0,0⟩ : Sm)).kp,.int .i64 ((⟨p,d,d,0,0,0,0⟩ : Sm)).ad,.int .i64 ((⟨p,d,d,0,0,0,0⟩ : Sm)).t0,.int .i64 ((⟨p,d,d,0,0,0,0⟩ : Sm)).t1,.int .i64 ((⟨p,d,d,0,0,0,0⟩ : Sm)).t2] 82)) w.heap.size 82 Sm.zero:=Row.alloc (Row.made w _ _) _
 simp only at h1 h0
 unfold Sm.v at hr
 generalize hb : decide (Sm.R (⟨p,d,d,0,0,0,0⟩ : Sm)) = bb at *
 clear hb
 have HR:=Hd hr;have H1:=Hd h1;have H0:=Hd h0;clear hr h1 h0
 unfold Sm.orz
 go_enter Tryz.func45,Tryz.ntmps45
 go_wp2_with fail
 refine (HR.out _).mono ?_;rintro e w2 ⟨rfl,hb2⟩
 have h1 : HoldsM w2 (w.heap.size + 1) 82 (⟨p,d,d,0,0,0,0⟩ : Sm):=Row.below H1.out hb2 (by simp)
 have h0 : HoldsM w2 w.heap.size 82 Sm.zero:=Row.below H0.out hb2 (by simp;omega)
 obtain ⟨c0,c1,c2,c3,c4,c5,c6⟩:=h1.cells7
 obtain ⟨f0,f1,f2,f3,f4,f5,f6⟩:=h0.free7
 obtain ⟨z0,z1,z2,z3,z4,z5,z6⟩:=h0.cells7
 have HB:=Hd ((below_alloc2 w _ _).trans (hb2.mono (by simp;omega)))
 have HZ:=Hd h0
 clear hb2 h1 h0
 simp only at c0 c1 c2 c3 c4 c5 c6
 cases bb with
 | true =>
   go_wp2_with fail
   refine bodyPost_ret (v:=.tuple #[Sm.v (⟨p,d,d,0,0,0,0⟩ : Sm),.bool true]) (two_results rfl _ _ _ 82 _ (0,0) _ rfl (row_set7 HZ.out) Tryz.underlying82 rfl (by kernel_rfl) rfl) rfl ?_
   exact ⟨rfl,below_set7 HB.out (Nat.le_refl _)⟩
 | false =>
   go_wp2_with fail
   refine bodyPost_ret (v:=.tuple #[Sm.v Sm.zero,.bool false]) (two_results rfl _ _ _ 82 _ (0,0) _ rfl (row_set7 HZ.out) Tryz.underlying82 rfl (by kernel_rfl) rfl) rfl ?_
   exact ⟨rfl,below_set7 HB.out (Nat.le_refl _)⟩
set_option maxHeartbeats 2000000 in
theorem of_9 (d : Int) (w : World) : Calls Tryz.prog 45 #[.int .u8 9,.int .i64 d] w fun e w' => e = .returned (.tuple #[(Sm.orz (⟨d,d,d,1,0,0,0⟩ : Sm) (decide (Sm.R (⟨d,d,d,1,0,0,0⟩ : Sm)))).v,.bool (decide (Sm.R (⟨d,d,d,1,0,0,0⟩ : Sm)))]) ∧ Below w.heap.size w w':=by
 have hr:=fun w => rightM_any (⟨d,d,d,1,0,0,0⟩ : Sm) w
 have h1 : HoldsM ((w.alloc (.cells #[.int .i64 0,.int .i64 0,.int .i64 0,.int .i64 0,.int .i64 0,.int .i64 0,.int .i64 0] 82)).alloc (.cells #[.int .i64 ((⟨d,d,d,1,0,0,0⟩ : Sm)).fr,.int .i64 ((⟨d,d,d,1,0,0,0⟩ : Sm)).to,.int .i64 ((⟨d,d,d,1,0,0,0⟩ : Sm)).kp,.int .i64 ((⟨d,d,d,1,0,0,0⟩ : Sm)).ad,.int .i64 ((⟨d,d,d,1,0,0,0⟩ : Sm)).t0,.int .i64 ((⟨d,d,d,1,0,0,0⟩ : Sm)).t1,.int .i64 ((⟨d,d,d,1,0,0,0⟩ : Sm)).t2] 82)) (w.heap.size + 1) 82 (⟨d,d,d,1,0,0,0⟩ : Sm):=made2r w _ _ _
 have h0 : HoldsM ((w.alloc (.cells #[.int .i64 0,.int .i64 0,.int .i64 0,.int .i64 0,.int .i64 0,.int .i64 0,.int .i64 0] 82)).alloc (.cells #[.int .i64 ((⟨d,d,d,1,0,0,0⟩ : Sm)).fr,.int .i64 ((⟨d,d,d,1,0,0,0⟩ : Sm)).to,.int .i64 ((⟨d,d,d,1,0,0,0⟩ : Sm)).kp,.int .i64 ((⟨d,d,d,1,0,0,0⟩ : Sm)).ad,.int .i64 ((⟨d,d,d,1,0,0,0⟩ : Sm)).t0,.int .i64 ((⟨d,d,d,1,0,0,0⟩ : Sm)).t1,.int .i64 ((⟨d,d,d,1,0,0,0⟩ : Sm)).t2] 82)) w.heap.size 82 Sm.zero:=Row.alloc (Row.made w _ _) _
 simp only at h1 h0
 unfold Sm.v at hr
 generalize hb : decide (Sm.R (⟨d,d,d,1,0,0,0⟩ : Sm)) = bb at *
 clear hb
 have HR:=Hd hr;have H1:=Hd h1;have H0:=Hd h0;clear hr h1 h0
 unfold Sm.orz
 go_enter Tryz.func45,Tryz.ntmps45
 go_wp2_with fail
 refine (HR.out _).mono ?_;rintro e w2 ⟨rfl,hb2⟩
 have h1 : HoldsM w2 (w.heap.size + 1) 82 (⟨d,d,d,1,0,0,0⟩ : Sm):=Row.below H1.out hb2 (by simp)
 have h0 : HoldsM w2 w.heap.size 82 Sm.zero:=Row.below H0.out hb2 (by simp;omega)
 obtain ⟨c0,c1,c2,c3,c4,c5,c6⟩:=h1.cells7
 obtain ⟨f0,f1,f2,f3,f4,f5,f6⟩:=h0.free7
 obtain ⟨z0,z1,z2,z3,z4,z5,z6⟩:=h0.cells7
 have HB:=Hd ((below_alloc2 w _ _).trans (hb2.mono (by simp;omega)))
 have HZ:=Hd h0
 clear hb2 h1 h0
 simp only at c0 c1 c2 c3 c4 c5 c6
 cases bb with
 | true =>
   go_wp2_with fail
   refine bodyPost_ret (v:=.tuple #[Sm.v (⟨d,d,d,1,0,0,0⟩ : Sm),.bool true]) (two_results rfl _ _ _ 82 _ (0,0) _ rfl (row_set7 HZ.out) Tryz.underlying82 rfl (by kernel_rfl) rfl) rfl ?_
   exact ⟨rfl,below_set7 HB.out (Nat.le_refl _)⟩
 | false =>
   go_wp2_with fail
   refine bodyPost_ret (v:=.tuple #[Sm.v Sm.zero,.bool false]) (two_results rfl _ _ _ 82 _ (0,0) _ rfl (row_set7 HZ.out) Tryz.underlying82 rfl (by kernel_rfl) rfl) rfl ?_
   exact ⟨rfl,below_set7 HB.out (Nat.le_refl _)⟩
set_option maxHeartbeats 2000000 in
theorem of_x (k d : Int) (h7 : (k == 7) = false) (h8 : (k == 8) = false) (h9 : (k == 9) = false) (h1 : ¬ k < 1) (h10 : ¬ 10 < k) (w : World) : Calls Tryz.prog 45 #[.int .u8 k,.int .i64 d] w fun e w' => e = .returned (.tuple #[(Sm.orz (⟨d,d,d,0,0,0,0⟩ : Sm) (decide (Sm.R (⟨d,d,d,0,0,0,0⟩ : Sm)))).v,.bool (decide (Sm.R (⟨d,d,d,0,0,0,0⟩ : Sm)))]) ∧ Below w.heap.size w w':=by
 have hr:=fun w => rightM_any (⟨d,d,d,0,0,0,0⟩ : Sm) w
 have h1q : HoldsM ((w.alloc (.cells #[.int .i64 0,.int .i64 0,.int .i64 0,.int .i64 0,.int .i64 0,.int .i64 0,.int .i64 0] 82)).alloc (.cells #[.int .i64 ((⟨d,d,d,0,0,0,0⟩ : Sm)).fr,.int .i64 ((⟨d,d,d,0,0,0,0⟩ : Sm)).to,.int .i64 ((⟨d,d,d,0,0,0,0⟩ : Sm)).kp,.int .i64 ((⟨d,d,d,0,0,0,0⟩ : Sm)).ad,.int .i64 ((⟨d,d,d,0,0,0,0⟩ : Sm)).t0,.int .i64 ((⟨d,d,d,0,0,0,0⟩ : Sm)).t1,.int .i64 ((⟨d,d,d,0,0,0,0⟩ : Sm)).t2] 82)) (w.heap.size + 1) 82 (⟨d,d,d,0,0,0,0⟩ : Sm):=made2r w _ _ _
 have h0 : HoldsM ((w.alloc (.cells #[.int .i64 0,.int .i64 0,.int .i64 0,.int .i64 0,.int .i64 0,.int .i64 0,.int .i64 0] 82)).alloc (.cells #[.int .i64 ((⟨d,d,d,0,0,0,0⟩ : Sm)).fr,.int .i64 ((⟨d,d,d,0,0,0,0⟩ : Sm)).to,.int .i64 ((⟨d,d,d,0,0,0,0⟩ : Sm)).kp,.int .i64 ((⟨d,d,d,0,0,0,0⟩ : Sm)).ad,.int .i64 ((⟨d,d,d,0,0,0,0⟩ : Sm)).t0,.int .i64 ((⟨d,d,d,0,0,0,0⟩ : Sm)).t1,.int .i64 ((⟨d,d,d,0,0,0,0⟩ : Sm)).t2] 82)) w.heap.size 82 Sm.zero:=Row.alloc (Row.made w _ _) _
 simp only at h1q h0
 unfold Sm.v at hr
 generalize hb : decide (Sm.R (⟨d,d,d,0,0,0,0⟩ : Sm)) = bb at *
 clear hb
 have HR:=Hd hr;have H1:=Hd h1q;have H0:=Hd h0;clear hr h1q h0
 unfold Sm.orz
 go_enter Tryz.func45,Tryz.ntmps45
 go_wp2_with fail
 refine (HR.out _).mono ?_;rintro e w2 ⟨rfl,hb2⟩
 have h1 : HoldsM w2 (w.heap.size + 1) 82 (⟨d,d,d,0,0,0,0⟩ : Sm):=Row.below H1.out hb2 (by simp)
 have h0 : HoldsM w2 w.heap.size 82 Sm.zero:=Row.below H0.out hb2 (by simp;omega)
 obtain ⟨c0,c1,c2,c3,c4,c5,c6⟩:=h1.cells7
 obtain ⟨f0,f1,f2,f3,f4,f5,f6⟩:=h0.free7
 obtain ⟨z0,z1,z2,z3,z4,z5,z6⟩:=h0.cells7
 have HB:=Hd ((below_alloc2 w _ _).trans (hb2.mono (by simp;omega)))
 have HZ:=Hd h0
 clear hb2 h1 h0
 simp only at c0 c1 c2 c3 c4 c5 c6
 cases bb with
 | true =>
   go_wp2_with fail
   refine bodyPost_ret (v:=.tuple #[Sm.v (⟨d,d,d,0,0,0,0⟩ : Sm),.bool true]) (two_results rfl _ _ _ 82 _ (0,0) _ rfl (row_set7 HZ.out) Tryz.underlying82 rfl (by kernel_rfl) rfl) rfl ?_
   exact ⟨rfl,below_set7 HB.out (Nat.le_refl _)⟩
 | false =>
   go_wp2_with fail
   refine bodyPost_ret (v:=.tuple #[Sm.v Sm.zero,.bool false]) (two_results rfl _ _ _ 82 _ (0,0) _ rfl (row_set7 HZ.out) Tryz.underlying82 rfl (by kernel_rfl) rfl) rfl ?_
   exact ⟨rfl,below_set7 HB.out (Nat.le_refl _)⟩
set_option maxHeartbeats 2000000 in
theorem of_no (k d : Int) (h7 : (k == 7) = false) (h8 : (k == 8) = false) (h9 : (k == 9) = false) (hk : k < 1 ∨ 10 < k) (w : World) : Calls Tryz.prog 45 #[.int .u8 k,.int .i64 d] w fun e w' => e = .returned (.tuple #[Sm.zero.v,.bool false]) ∧ Below w.heap.size w w':=by
 have h0 : HoldsM ((w.alloc (.cells #[.int .i64 0,.int .i64 0,.int .i64 0,.int .i64 0,.int .i64 0,.int .i64 0,.int .i64 0] 82)).alloc (.cells #[.int .i64 d,.int .i64 d,.int .i64 d,.int .i64 0,.int .i64 0,.int .i64 0,.int .i64 0] 82)) w.heap.size 82 Sm.zero:=Row.alloc (Row.made w _ _) _
 have H0:=Hd h0;clear h0
 by_cases h1 : k < 1
 · clear hk
   go_enter Tryz.func45,Tryz.ntmps45
   go_wp2_with fail
   refine bodyPost_ret (v:=.tuple #[Sm.v Sm.zero,.bool false]) (two_results rfl _ _ _ 82 _ (0,0) _ rfl H0.out Tryz.underlying82 rfl (by kernel_rfl) rfl) rfl ?_
   exact ⟨rfl,below_alloc2 w _ _⟩
 · have h10 : 10 < k:=hk.resolve_left h1
   clear hk
   go_enter Tryz.func45,Tryz.ntmps45
   go_wp2_with fail
   refine bodyPost_ret (v:=.tuple #[Sm.v Sm.zero,.bool false]) (two_results rfl _ _ _ 82 _ (0,0) _ rfl H0.out Tryz.underlying82 rfl (by kernel_rfl) rfl) rfl ?_
   exact ⟨rfl,below_alloc2 w _ _⟩
theorem orz_no {s : Sm} (h : ¬ s.R) : s.orz (decide s.R) = Sm.zero ∧ decide s.R = false:=by
 have : decide s.R = false:=decide_eq_false h
 rw [this];exact ⟨rfl,rfl⟩
theorem orz_same {s t : Sm} (h : s = t ∨ (¬ s.R ∧ ¬ t.R)) : s.orz (decide s.R) = t.orz (decide t.R) ∧ decide s.R = decide t.R:=by
 rcases h with rfl | ⟨h1,h2⟩
 · exact ⟨rfl,rfl⟩
 · obtain ⟨a1,a2⟩:=orz_no h1;obtain ⟨b1,b2⟩:=orz_no h2
   exact ⟨a1.trans b1.symm,a2.trans b2.symm⟩
theorem of_orz {k d : Int} (h1 : 1 ≤ k) (h2 : k ≤ 10) : Sm.of_ k d = (Sm.ofk k d).orz (decide (Sm.ofk k d).R) ∧ decide (okOf k d) = decide (Sm.ofk k d).R:=by
 have : decide (okOf k d) = decide (Sm.ofk k d).R:=decide_eq_decide.2 ⟨fun h => h.2.2,fun h => ⟨h1,h2,h⟩⟩
 refine ⟨?_,this⟩
 unfold Sm.of_ Sm.orz
 by_cases h : okOf k d
 · rw [if_pos h,if_pos (by simpa using h.2.2)]
 · rw [if_neg h,if_neg (by simpa using fun h3 => h ⟨h1,h2,h3⟩)]
theorem of_any (k d : Int) (w : World) : Calls Tryz.prog 45 #[.int .u8 k,.int .i64 d] w fun e w' => e = .returned (.tuple #[(Sm.of_ k d).v,.bool (decide (okOf k d))]) ∧ Below w.heap.size w w':=by
 by_cases h7 : k = 7
 · subst h7
   obtain ⟨e1,e2⟩:=of_orz (k:=7) (d:=d) (by omega) (by omega)
   rw [e1,e2,show Sm.ofk 7 d = ⟨d - 1,d,d - 1,0,0,0,0⟩ from rfl]
   obtain ⟨p,hp⟩ : ∃ p,IntKind.i64.wrap (d - 1) = p:=⟨_,rfl⟩
   have hs : (⟨p,d,p,0,0,0,0⟩ : Sm) = ⟨d - 1,d,d - 1,0,0,0,0⟩ ∨ (¬ Sm.R ⟨p,d,p,0,0,0,0⟩ ∧ ¬ Sm.R ⟨d - 1,d,d - 1,0,0,0,0⟩):=by
    by_cases hd : 0 ≤ d ∧ d ≤ 3
    · left
      have:=IntWalk.i64_in (d - 1) (by omega)
      rw [hp] at this;rw [this]
    · right;unfold Sm.R;simp only;omega
   obtain ⟨g1,g2⟩:=orz_same hs
   rw [← g1,← g2]
   exact of_7 d p hp w
 by_cases h8 : k = 8
 · subst h8
   obtain ⟨e1,e2⟩:=of_orz (k:=8) (d:=d) (by omega) (by omega)
   rw [e1,e2,show Sm.ofk 8 d = ⟨d + 1,d,d,0,0,0,0⟩ from rfl]
   obtain ⟨p,hp⟩ : ∃ p,IntKind.i64.wrap (d + 1) = p:=⟨_,rfl⟩
   have hs : (⟨p,d,d,0,0,0,0⟩ : Sm) = ⟨d + 1,d,d,0,0,0,0⟩ ∨ (¬ Sm.R ⟨p,d,d,0,0,0,0⟩ ∧ ¬ Sm.R ⟨d + 1,d,d,0,0,0,0⟩):=by
    by_cases hd : 0 ≤ d ∧ d ≤ 3
    · left
      have:=IntWalk.i64_in (d + 1) (by omega)
      rw [hp] at this;rw [this]
    · right;unfold Sm.R;simp only;omega
   obtain ⟨g1,g2⟩:=orz_same hs
   rw [← g1,← g2]
   exact of_8 d p hp w
 by_cases h9 : k = 9
 · subst h9
   obtain ⟨e1,e2⟩:=of_orz (k:=9) (d:=d) (by omega) (by omega)
   rw [e1,e2,show Sm.ofk 9 d = ⟨d,d,d,1,0,0,0⟩ from rfl]
   exact of_9 d w
 have b7 : (k == 7) = false:=by simpa using h7
 have b8 : (k == 8) = false:=by simpa using h8
 have b9 : (k == 9) = false:=by simpa using h9
 by_cases hk : 1 ≤ k ∧ k ≤ 10
 · obtain ⟨e1,e2⟩:=of_orz (d:=d) hk.1 hk.2
   rw [e1,e2,show Sm.ofk k d = ⟨d,d,d,0,0,0,0⟩ by unfold Sm.ofk;rw [if_neg h7,if_neg h8,if_neg h9]]
   exact of_x k d b7 b8 b9 (by omega) (by omega) w
 · have hno : ¬ okOf k d:=fun h => hk ⟨h.1,h.2.1⟩
   rw [decide_eq_false hno,show Sm.of_ k d = Sm.zero from if_neg hno]
   exact of_no k d b7 b8 b9 (by omega) w
end

section
def Sm.th (a b : Sm) : Sm:=if a.thenOk b then a.seq b else Sm.zero
def Sm.thB (a b : Sm) : Bool:=decide (a.thenOk b)
section
variable {a b : Sm}
theorem Sm.th_no (h : ¬ a.thenOk b) : a.th b = Sm.zero ∧ a.thB b = false:=⟨if_neg h,decide_eq_false h⟩
theorem Sm.th_yes (h : a.thenOk b) : a.th b = a.seq b ∧ a.thB b = true:=⟨if_pos h,decide_eq_true h⟩
theorem Sm.seq_ok (ha : a.R) (hb : b.R) (ht : a.to = b.fr) : (a.seq b).R ↔ a.thenOk b:=by
 constructor
 · intro h
   refine ⟨ha,hb,ht,?_,?_,?_⟩
   · rw [← Sm.seq_N ha hb ht (i:=0) (by omega) (by omega)];exact (Sm.N_R h 0).2
   · rw [← Sm.seq_N ha hb ht (i:=1) (by omega) (by omega)];exact (Sm.N_R h 1).2
   · rw [← Sm.seq_N ha hb ht (i:=2) (by omega) (by omega)];exact (Sm.N_R h 2).2
 · exact Sm.seq_R
theorem Sm.al_zero (i : Int) : a.al i 0 = if i < a.to then a.N i else 0:=by
 unfold Sm.al
 by_cases h : i < a.to
 · rw [if_pos h,if_pos h,Sm.cn_N];split <;> omega
 · rw [if_neg h,if_neg h]
theorem Sm.al_al (ha : a.R) (hb : b.R) (ht : a.to = b.fr) (i : Int) : b.al i (a.al i 0) = a.M b i:=by
 rw [Sm.al_zero]
 unfold Sm.al Sm.M
 by_cases h : i < b.to
 · rw [if_pos h,if_pos h,Sm.cn_N]
   by_cases h2 : i < b.kp
   · rw [if_pos h2,if_pos h2,if_pos (by unfold Sm.R at hb;omega)];omega
   · rw [if_neg h2,if_neg h2];omega
 · rw [if_neg h,if_neg h]
theorem Sm.al_b (ha : a.R) (i : Int) : 0 ≤ a.al i 0 ∧ a.al i 0 ≤ 1000:=by
 rw [Sm.al_zero]
 have:=Sm.N_R ha i
 split <;> omega
end
def Tri2 (W : World) (g : Nat) (ty : TypeId) (a b : Sm) : Prop:=HoldsM W g ty a ∧ HoldsM W (g + 1) ty b ∧ HoldsM W (g + 1 + 1) ty Sm.zero
theorem Tri2.made (w : World) (ty : TypeId) (a b : Sm) : Tri2 (((w.alloc (.cells #[.int .i64 a.fr,.int .i64 a.to,.int .i64 a.kp,.int .i64 a.ad,.int .i64 a.t0,.int .i64 a.t1,.int .i64 a.t2] ty)).alloc (.cells #[.int .i64 b.fr,.int .i64 b.to,.int .i64 b.kp,.int .i64 b.ad,.int .i64 b.t0,.int .i64 b.t1,.int .i64 b.t2] ty)).alloc (.cells #[.int .i64 0,.int .i64 0,.int .i64 0,.int .i64 0,.int .i64 0,.int .i64 0,.int .i64 0] ty)) w.heap.size ty a b:=by
 refine ⟨((HoldsM.made w ty a).alloc _).alloc _,?_,?_⟩
 · have:=(HoldsM.made (w.alloc (.cells #[.int .i64 a.fr,.int .i64 a.to,.int .i64 a.kp,.int .i64 a.ad,.int .i64 a.t0,.int .i64 a.t1,.int .i64 a.t2] ty)) ty b).alloc (.cells #[.int .i64 0,.int .i64 0,.int .i64 0,.int .i64 0,.int .i64 0,.int .i64 0,.int .i64 0] ty)
   rwa [size_alloc] at this
 · have:=HoldsM.made ((w.alloc (.cells #[.int .i64 a.fr,.int .i64 a.to,.int .i64 a.kp,.int .i64 a.ad,.int .i64 a.t0,.int .i64 a.t1,.int .i64 a.t2] ty)).alloc (.cells #[.int .i64 b.fr,.int .i64 b.to,.int .i64 b.kp,.int .i64 b.ad,.int .i64 b.t0,.int .i64 b.t1,.int .i64 b.t2] ty)) ty Sm.zero
   rwa [size_alloc,size_alloc] at this
theorem Tri2.below {W W' : World} {g : Nat} {ty : TypeId} {a b : Sm} (h : Tri2 W g ty a b) (hb : Below W.heap.size W W') : Tri2 W' g ty a b:=⟨h.1.below hb,h.2.1.below hb,h.2.2.below hb⟩
def Two2 (W : World) (g : Nat) (ty : TypeId) (a b : Sm) : Prop:=HoldsM W g ty a ∧ HoldsM W (g + 1) ty b
theorem Two2.made (w : World) (ty : TypeId) (a b : Sm) : Two2 ((w.alloc (.cells #[.int .i64 a.fr,.int .i64 a.to,.int .i64 a.kp,.int .i64 a.ad,.int .i64 a.t0,.int .i64 a.t1,.int .i64 a.t2] ty)).alloc (.cells #[.int .i64 b.fr,.int .i64 b.to,.int .i64 b.kp,.int .i64 b.ad,.int .i64 b.t0,.int .i64 b.t1,.int .i64 b.t2] ty)) w.heap.size ty a b:=by
 refine ⟨(HoldsM.made w ty a).alloc _,?_⟩
 have:=HoldsM.made (w.alloc (.cells #[.int .i64 a.fr,.int .i64 a.to,.int .i64 a.kp,.int .i64 a.ad,.int .i64 a.t0,.int .i64 a.t1,.int .i64 a.t2] ty)) ty b
 rwa [size_alloc] at this
theorem Two2.below {W W' : World} {g : Nat} {ty : TypeId} {a b : Sm} (h : Two2 W g ty a b) (hb : Below W.heap.size W W') : Two2 W' g ty a b:=⟨h.1.below hb,h.2.below hb⟩
end

section
set_option maxHeartbeats 1000000 in
theorem leqM_A (a b : Sm) (w : World) (h : ¬ a.R) : Calls Tryz.prog 92 #[a.v,b.v] w fun e w' => e = .returned (.bool false) ∧ Below w.heap.size w w':=by
 have h3:=Two2.made w 82 a b
 have hbw:=ba2 w a b 82
 have H3:=Hd h3;have HB:=Hd hbw;clear h3 hbw
 have r1:=fun w => rightM_false h w
 have R1:=Hd r1;clear r1
 clear h
 unfold Sm.v at *
 go_enter Tryz.func92,Tryz.ntmps92
 go_wp2_with fail
 refine (R1.out _).mono ?_;rintro e w2 ⟨rfl,hb2⟩
 have k3:=H3.out.below hb2
 have kb:=HB.out.trans (hb2.mono HB.out.size);clear H3 HB
 have H3:=Hd k3;have HB:=Hd kb;clear k3 kb hb2
 go_wp2_with fail
 go_ret
 exact ⟨rfl,HB.out⟩
set_option maxHeartbeats 1000000 in
theorem leqM_B (a b : Sm) (w : World) (h : a.R) (h2 : ¬ b.R) : Calls Tryz.prog 92 #[a.v,b.v] w fun e w' => e = .returned (.bool false) ∧ Below w.heap.size w w':=by
 have h3:=Two2.made w 82 a b
 have hbw:=ba2 w a b 82
 have H3:=Hd h3;have HB:=Hd hbw;clear h3 hbw
 have r1:=fun w => rightM_true h w
 have r2:=fun w => rightM_false h2 w
 have R1:=Hd r1;have R2:=Hd r2;clear r1 r2
 clear h h2
 unfold Sm.v at *
 go_enter Tryz.func92,Tryz.ntmps92
 go_wp2_with fail
 refine (R1.out _).mono ?_;rintro e w2 ⟨rfl,hb2⟩
 have k3:=H3.out.below hb2
 have kb:=HB.out.trans (hb2.mono HB.out.size);clear H3 HB
 have H3:=Hd k3;have HB:=Hd kb;clear k3 kb hb2
 obtain ⟨a0,a1,a2,a3,a4,a5,a6⟩:=H3.out.1.cells7
 obtain ⟨b0,b1,b2,b3,b4,b5,b6⟩:=H3.out.2.cells7
 go_wp2_with fail
 clear a0 a1 a2 a3 a4 a5 a6 b0 b1 b2 b3 b4 b5 b6
 refine (R2.out _).mono ?_;rintro e w3 ⟨rfl,hb3⟩
 have k3:=H3.out.below hb3
 have kb:=HB.out.trans (hb3.mono HB.out.size);clear H3 HB
 have H3:=Hd k3;have HB:=Hd kb;clear k3 kb hb3
 go_wp2_with fail
 go_ret
 exact ⟨rfl,HB.out⟩
set_option maxHeartbeats 1000000 in
theorem leqM_C (a b : Sm) (w : World) (h : a.R) (h2 : b.R) (h3 : (a.fr != b.fr) = true) : Calls Tryz.prog 92 #[a.v,b.v] w fun e w' => e = .returned (.bool false) ∧ Below w.heap.size w w':=by
 have h3:=Two2.made w 82 a b
 have hbw:=ba2 w a b 82
 have H3:=Hd h3;have HB:=Hd hbw;clear h3 hbw
 have r1:=fun w => rightM_true h w
 have r2:=fun w => rightM_true h2 w
 have R1:=Hd r1;have R2:=Hd r2;clear r1 r2
 clear h h2
 unfold Sm.v at *
 go_enter Tryz.func92,Tryz.ntmps92
 go_wp2_with fail
 refine (R1.out _).mono ?_;rintro e w2 ⟨rfl,hb2⟩
 have k3:=H3.out.below hb2
 have kb:=HB.out.trans (hb2.mono HB.out.size);clear H3 HB
 have H3:=Hd k3;have HB:=Hd kb;clear k3 kb hb2
 obtain ⟨a0,a1,a2,a3,a4,a5,a6⟩:=H3.out.1.cells7
 obtain ⟨b0,b1,b2,b3,b4,b5,b6⟩:=H3.out.2.cells7
 go_wp2_with fail
 clear a0 a1 a2 a3 a4 a5 a6 b0 b1 b2 b3 b4 b5 b6
 refine (R2.out _).mono ?_;rintro e w3 ⟨rfl,hb3⟩
 have k3:=H3.out.below hb3
 have kb:=HB.out.trans (hb3.mono HB.out.size);clear H3 HB
 have H3:=Hd k3;have HB:=Hd kb;clear k3 kb hb3
 obtain ⟨a0,a1,a2,a3,a4,a5,a6⟩:=H3.out.1.cells7
 obtain ⟨b0,b1,b2,b3,b4,b5,b6⟩:=H3.out.2.cells7
 go_wp2_with fail
 go_ret
 exact ⟨rfl,HB.out⟩
set_option maxHeartbeats 1000000 in
theorem leqM_D (a b : Sm) (w : World) (h : a.R) (h2 : b.R) (h3 : (a.fr != b.fr) = false) (h4 : (a.to != b.to) = true) : Calls Tryz.prog 92 #[a.v,b.v] w fun e w' => e = .returned (.bool false) ∧ Below w.heap.size w w':=by
 have h3:=Two2.made w 82 a b
 have hbw:=ba2 w a b 82
 have H3:=Hd h3;have HB:=Hd hbw;clear h3 hbw
 have r1:=fun w => rightM_true h w
 have r2:=fun w => rightM_true h2 w
 have R1:=Hd r1;have R2:=Hd r2;clear r1 r2
 clear h h2
 unfold Sm.v at *
 go_enter Tryz.func92,Tryz.ntmps92
 go_wp2_with fail
 refine (R1.out _).mono ?_;rintro e w2 ⟨rfl,hb2⟩
 have k3:=H3.out.below hb2
 have kb:=HB.out.trans (hb2.mono HB.out.size);clear H3 HB
 have H3:=Hd k3;have HB:=Hd kb;clear k3 kb hb2
 obtain ⟨a0,a1,a2,a3,a4,a5,a6⟩:=H3.out.1.cells7
 obtain ⟨b0,b1,b2,b3,b4,b5,b6⟩:=H3.out.2.cells7
 go_wp2_with fail
 clear a0 a1 a2 a3 a4 a5 a6 b0 b1 b2 b3 b4 b5 b6
 refine (R2.out _).mono ?_;rintro e w3 ⟨rfl,hb3⟩
 have k3:=H3.out.below hb3
 have kb:=HB.out.trans (hb3.mono HB.out.size);clear H3 HB
 have H3:=Hd k3;have HB:=Hd kb;clear k3 kb hb3
 obtain ⟨a0,a1,a2,a3,a4,a5,a6⟩:=H3.out.1.cells7
 obtain ⟨b0,b1,b2,b3,b4,b5,b6⟩:=H3.out.2.cells7
 go_wp2_with fail
 go_ret
 exact ⟨rfl,HB.out⟩
set_option maxHeartbeats 1000000 in
theorem leqM_E (a b : Sm) (w : World) (h : a.R) (h2 : b.R) (h3 : (a.fr != b.fr) = false) (h4 : (a.to != b.to) = false) (h5 : b.kp < a.kp) : Calls Tryz.prog 92 #[a.v,b.v] w fun e w' => e = .returned (.bool false) ∧ Below w.heap.size w w':=by
 have h3:=Two2.made w 82 a b
 have hbw:=ba2 w a b 82
 have H3:=Hd h3;have HB:=Hd hbw;clear h3 hbw
 have r1:=fun w => rightM_true h w
 have r2:=fun w => rightM_true h2 w
 have R1:=Hd r1;have R2:=Hd r2;clear r1 r2
 clear h h2
 unfold Sm.v at *
 go_enter Tryz.func92,Tryz.ntmps92
 go_wp2_with fail
 refine (R1.out _).mono ?_;rintro e w2 ⟨rfl,hb2⟩
 have k3:=H3.out.below hb2
 have kb:=HB.out.trans (hb2.mono HB.out.size);clear H3 HB
 have H3:=Hd k3;have HB:=Hd kb;clear k3 kb hb2
 obtain ⟨a0,a1,a2,a3,a4,a5,a6⟩:=H3.out.1.cells7
 obtain ⟨b0,b1,b2,b3,b4,b5,b6⟩:=H3.out.2.cells7
 go_wp2_with fail
 clear a0 a1 a2 a3 a4 a5 a6 b0 b1 b2 b3 b4 b5 b6
 refine (R2.out _).mono ?_;rintro e w3 ⟨rfl,hb3⟩
 have k3:=H3.out.below hb3
 have kb:=HB.out.trans (hb3.mono HB.out.size);clear H3 HB
 have H3:=Hd k3;have HB:=Hd kb;clear k3 kb hb3
 obtain ⟨a0,a1,a2,a3,a4,a5,a6⟩:=H3.out.1.cells7
 obtain ⟨b0,b1,b2,b3,b4,b5,b6⟩:=H3.out.2.cells7
 go_wp2_with fail
 go_ret
 exact ⟨rfl,HB.out⟩
end

section
theorem mx_le {x y : Int} : mx x y = y ↔ x ≤ y:=by unfold mx;split <;> omega
theorem L_mx {a b : Sm} (ha : a.R) (hb : b.R) (hf : a.fr = b.fr) (ht : a.to = b.to) (hk : a.kp ≤ b.kp) :
 eqL (mx (a.al 0 0) (b.al 0 0)) (mx (a.al 1 0) (b.al 1 0)) (mx (a.al 2 0) (b.al 2 0)) (b.al 0 0) (b.al 1 0) (b.al 2 0) = decide (a.L b):=by
 unfold eqL
 rw [decide_eq_decide,mx_le,mx_le,mx_le,Sm.al_zero,Sm.al_zero,Sm.al_zero,Sm.al_zero,Sm.al_zero,Sm.al_zero,← ht]
 unfold Sm.L
 constructor
 · rintro ⟨h0,h1,h2⟩
   refine ⟨ha,hb,hf,ht,hk,fun h => ?_,fun h => ?_,fun h => ?_⟩
   · rwa [if_pos h,if_pos h] at h0
   · rwa [if_pos h,if_pos h] at h1
   · rwa [if_pos h,if_pos h] at h2
 · rintro ⟨-,-,-,-,-,h0,h1,h2⟩
   refine ⟨?_,?_,?_⟩
   · split
     · rename_i h;exact h0 h
     · exact Int.le_refl _
   · split
     · rename_i h;exact h1 h
     · exact Int.le_refl _
   · split
     · rename_i h;exact h2 h
     · exact Int.le_refl _
theorem load_row {W : World} {g : Nat} {p q r : Int} (h : Row W g 126 [.int .i64 p,.int .i64 q,.int .i64 r]) : ∀ w',Below W.heap.size W w' → (Instr.loadAt 126 (.pointer (some ⟨g,0,none⟩))).run Tryz.prog w' = .ok (.agg #[.int .i64 p,.int .i64 q,.int .i64 r]) w' :=
 fun w' hb => run_loadAt_part g 0 126 _ [.int .i64 p,.int .i64 q,.int .i64 r] (fun j v hj => by rw [add_at,(h.below hb h.lt).cell,Nat.zero_add];exact hj) Tryz.underlying126 rfl (by kernel_rfl)
theorem eq3r (d : Nat) (x y z p q r : Int) (w : World) : (Op.equalIn (d + 2) 126 (.agg #[.int .i64 x,.int .i64 y,.int .i64 z]) (.agg #[.int .i64 p,.int .i64 q,.int .i64 r])).run Tryz.prog w = .ok (decide (x = p ∧ y = q ∧ z = r)) w:=by
 have hu:=Tryz.underlying126
 have hi : ∀ w,(isAgg 3).run Tryz.prog w = .ok false w:=fun w => by go_simp
 unfold Op.equalIn
 simp [run_underlying hu,range3,part,hi,eq_int,Sem.run_bind]
 by_cases h1 : x = p
 · by_cases h2 : y = q
   · by_cases h3 : z = r
     · simp [h1,h2,h3]
     · simp [h1,h2,h3]
   · simp [h1,h2]
 · simp [h1]
theorem eq_r (x y : Operand) (a b c p q r : Int) : ∀ w,(do eqGuard .eql 126 x y (.agg #[.int .i64 a,.int .i64 b,.int .i64 c]) (.agg #[.int .i64 p,.int .i64 q,.int .i64 r]);binOp .eql 126 (.agg #[.int .i64 a,.int .i64 b,.int .i64 c]) (.agg #[.int .i64 p,.int .i64 q,.int .i64 r]) : Sem Value).run Tryz.prog w = .ok (.bool (eqL a b c p q r)) w:=by
 intro w
 rw [Sem.run_bind,run_eqGuard_agg w _ _ _ _ _ _ (by kernel_rfl),Result.andThen_ok,run_eql_struct,eq3r 9998]
 rfl
set_option maxHeartbeats 4000000 in
theorem leqM_F (a b : Sm) (w : World) (p0 p1 p2 q0 q1 q2 : Int) (h : a.R) (h2 : b.R) (h3 : (a.fr != b.fr) = false) (h4 : (a.to != b.to) = false) (h5 : ¬ b.kp < a.kp)
 (ca : ∀ w,Calls Tryz.prog 87 #[a.v,.agg #[.int .i64 0,.int .i64 0,.int .i64 0]] w fun e w' => e = .returned (.agg #[.int .i64 p0,.int .i64 p1,.int .i64 p2]) ∧ Below w.heap.size w w')
 (cb : ∀ w,Calls Tryz.prog 87 #[b.v,.agg #[.int .i64 0,.int .i64 0,.int .i64 0]] w fun e w' => e = .returned (.agg #[.int .i64 q0,.int .i64 q1,.int .i64 q2]) ∧ Below w.heap.size w w') :
 Calls Tryz.prog 92 #[a.v,b.v] w fun e w' => e = .returned (.bool (eqL (mx p0 q0) (mx p1 q1) (mx p2 q2) q0 q1 q2)) ∧ Below w.heap.size w w':=by
 have h3:=Two2.made w 82 a b
 have hbw:=ba2 w a b 82
 have H3:=Hd h3;have HB:=Hd hbw;clear h3 hbw
 have r1:=fun w => rightM_true h w
 have r2:=fun w => rightM_true h2 w
 have cg:=fun w => greaterM_any p0 p1 p2 q0 q1 q2 w
 have R1:=Hd r1;have R2:=Hd r2;have CA:=Hd ca;have CB:=Hd cb;have CG:=Hd cg;clear r1 r2 ca cb cg
 clear h h2
 unfold Sm.v at *
 go_enter Tryz.func92,Tryz.ntmps92
 go_wp2_with fail
 refine (R1.out _).mono ?_;rintro e w2 ⟨rfl,hb2⟩
 have k3:=H3.out.below hb2
 have kb:=HB.out.trans (hb2.mono HB.out.size);clear H3 HB
 have H3:=Hd k3;have HB:=Hd kb;clear k3 kb hb2
 obtain ⟨a0,a1,a2,a3,a4,a5,a6⟩:=H3.out.1.cells7
 obtain ⟨b0,b1,b2,b3,b4,b5,b6⟩:=H3.out.2.cells7
 go_wp2_with fail
 clear a0 a1 a2 a3 a4 a5 a6 b0 b1 b2 b3 b4 b5 b6
 refine (R2.out _).mono ?_;rintro e w3 ⟨rfl,hb3⟩
 have k3:=H3.out.below hb3
 have kb:=HB.out.trans (hb3.mono HB.out.size);clear H3 HB
 have H3:=Hd k3;have HB:=Hd kb;clear k3 kb hb3
 obtain ⟨a0,a1,a2,a3,a4,a5,a6⟩:=H3.out.1.cells7
 obtain ⟨b0,b1,b2,b3,b4,b5,b6⟩:=H3.out.2.cells7
 go_wp2_with fail
 clear a0 a1 a2 a3 a4 a5 a6 b0 b1 b2 b3 b4 b5 b6
 refine (CB.out _).mono ?_;rintro e w4 ⟨rfl,hb4⟩
 have k3:=H3.out.below hb4
 have kb:=HB.out.trans (hb4.mono HB.out.size);clear H3 HB
 have H3:=Hd k3;have HB:=Hd kb;clear k3 kb hb4
 clear h3 h4 h5
 have hc:=HB.out.size
 go_wp2_with fail
 have k3 : Two2 (w4.alloc (.cells #[.int .i64 q0,.int .i64 q1,.int .i64 q2] 126)) w.heap.size 82 a b:=⟨H3.out.1.alloc _,H3.out.2.alloc _⟩
 have kr : Row (w4.alloc (.cells #[.int .i64 q0,.int .i64 q1,.int .i64 q2] 126)) w4.heap.size 126 [.int .i64 q0,.int .i64 q1,.int .i64 q2]:=Row.made w4 _ _
 have kb:=HB.out.alloc HB.out.size (.cells #[.int .i64 q0,.int .i64 q1,.int .i64 q2] 126)
 clear H3 HB hc R1 R2 CB
 generalize w4.alloc (.cells #[.int .i64 q0,.int .i64 q1,.int .i64 q2] 126) = W at *
 generalize w4.heap.size = g at *
 have H3:=Hd k3;have HR:=Hd kr;have HB:=Hd kb;clear k3 kr kb
 refine wp_region_below (by kernel_rfl) (by kernel_rfl) ?_
 refine wpQuiet_step (fun K hK => ?_);refine q_load (p:=.pointer (some ⟨w.heap.size,0,none⟩)) 82 _ rfl rfl rfl (load_m H3.out.1) ?_;go_simp;(with_reducible refine hK _ ?_);clear hK K
 refine wpQuiet_step (fun K hK => ?_);go_simp;(first | (with_reducible refine hK _ ?_) | (with_reducible refine ⟨_,fun _ _ => rfl,hK _ ?_⟩));clear hK K
 refine wpQuiet_step (fun K hK => ?_);go_simp;(with_reducible refine ⟨_,fun _ hb => (CA.out _).mono fun _ _ h => ⟨h.1,hb.trans (h.2.mono (by simpa using hb.size))⟩,hK _ ?_⟩);clear hK K
 refine wpQuiet_step (fun K hK => ?_);refine q_load (p:=.pointer (some ⟨g,0,none⟩)) 126 _ rfl rfl rfl (load_row HR.out) ?_;go_simp;(with_reducible refine hK _ ?_);clear hK K
 refine wpQuiet_step (fun K hK => ?_);go_simp;(with_reducible refine ⟨_,fun _ hb => (CG.out _).mono fun _ _ h => ⟨h.1,hb.trans (h.2.mono (by simpa using hb.size))⟩,hK _ ?_⟩);clear hK K
 refine wpQuiet_step (fun K hK => ?_);refine q_load (p:=.pointer (some ⟨g,0,none⟩)) 126 _ rfl rfl rfl (load_row HR.out) ?_;go_simp;(with_reducible refine hK _ ?_);clear hK K
 refine wpQuiet_step (fun K hK => ?_);refine q_bin _ _ _ _ _ rfl rfl rfl rfl (eq_r _ _ _ _ _ _ _ _) ?_;go_simp;(with_reducible refine hK _ ?_);clear hK K
 refine wpQuiet_step (fun K hK => ?_);go_simp;(first | (with_reducible refine hK _ ?_) | (with_reducible refine ⟨_,fun _ _ => rfl,hK _ ?_⟩));clear hK K
 refine wpQuiet_nil ?_
 intro w8 hb8
 go_wp2_with fail
 go_ret
 exact ⟨rfl,HB.out.trans (hb8.mono HB.out.size)⟩
theorem leqM_any (a b : Sm) (w : World) : Calls Tryz.prog 92 #[a.v,b.v] w fun e w' => e = .returned (.bool (decide (a.L b))) ∧ Below w.heap.size w w':=by
 by_cases h : a.R
 case neg => rw [decide_eq_false (fun hh : a.L b => h hh.1)];exact leqM_A a b w h
 by_cases h2 : b.R
 case neg => rw [decide_eq_false (fun hh : a.L b => h2 hh.2.1)];exact leqM_B a b w h h2
 by_cases h3 : a.fr = b.fr
 case neg => rw [decide_eq_false (fun hh : a.L b => h3 hh.2.2.1)];exact leqM_C a b w h h2 (by simpa using h3)
 by_cases h4 : a.to = b.to
 case neg => rw [decide_eq_false (fun hh : a.L b => h4 hh.2.2.2.1)];exact leqM_D a b w h h2 (by simpa using h3) (by simpa using h4)
 by_cases h5 : b.kp < a.kp
 case pos => rw [decide_eq_false (fun hh : a.L b => by have:=hh.2.2.2.2.1;omega)];exact leqM_E a b w h h2 (by simpa using h3) (by simpa using h4) h5
 rw [← L_mx h h2 h3 h4 (by omega)]
 exact leqM_F a b w _ _ _ _ _ _ h h2 (by simpa using h3) (by simpa using h4) h5 (fun w => along_any a 0 0 0 w h (by omega) (by omega) (by omega)) (fun w => along_any b 0 0 0 w h2 (by omega) (by omega) (by omega))
end

section
end

section
theorem greater_any (m n : Int) (w : World) : Calls Tryz.prog 133 #[.int .i64 m,.int .i64 n] w fun e w' => e = .returned (.int .i64 (pk true m n)) ∧ w' = w:=by
 by_cases h : m < n
 · have h2 : pk true m n = n:=by unfold pk;simp;omega
   rw [h2];clear h2
   go_enter Tryz.func133,Tryz.ntmps133
   go_wp2_with fail
   go_ret
   exact ⟨rfl,rfl⟩
 · have h2 : pk true m n = m:=by unfold pk;simp;omega
   rw [h2];clear h2
   go_enter Tryz.func133,Tryz.ntmps133
   go_wp2_with fail
   go_ret
   exact ⟨rfl,rfl⟩
set_option maxHeartbeats 1000000 in
theorem both_no_greater (a b : St) (w : World) (h : ¬ a.B b) :
 Calls Tryz.prog 132 #[a.val,b.val,.func (.func 133) #[] #[]] w fun e w' => e = .returned (.tuple #[St.zero.val,.bool false]) ∧ Below w.heap.size w w':=by
 unfold St.B at h
 by_cases ha : a.R
 · by_cases hb : b.R
   · have hd : ¬ a.d = b.d:=fun e => h ⟨ha,hb,e⟩
     have HA:=Hd (right_is (decide_eq_true ha) (right_any a));have HB:=Hd (right_is (decide_eq_true hb) (right_any b));clear ha hb h
     obtain ⟨d,e,x,y,z⟩:=a
     obtain ⟨d',e',x',y',z'⟩:=b
     unfold St.val at *
     simp only at hd HA HB ⊢
     have hd' : (d != d') = true:=by simpa using hd
     clear hd
     have hz:=zero_made ((w.alloc (.cells #[.int .i64 d,.int .i64 e,.int .i64 x,.int .i64 y,.int .i64 z] 27)).alloc (.cells #[.int .i64 d',.int .i64 e',.int .i64 x',.int .i64 y',.int .i64 z'] 27))
     rw [size_alloc,size_alloc] at hz
     have HZ:=Hd hz;clear hz
     go_enter Tryz.func132,Tryz.ntmps132
     go_wp2_with fail
     refine (HA.out _).mono ?_;rintro e w1 ⟨rfl,hb1⟩
     obtain ⟨hc1,hf1⟩:=old_cells hb1
     have HB1:=Hd hb1;clear hb1
     go_wp2_with fail
     refine (HB.out _).mono ?_;rintro e w2 ⟨rfl,hb2⟩
     have hb12:=HB1.out.trans (hb2.mono HB1.out.size)
     clear hc1 hf1
     obtain ⟨hc1,hf1⟩:=old_cells hb12
     have HB12:=Hd hb12;clear hb12 hb2
     go_wp2_with fail
     refine bodyPost_ret (v:=.tuple #[.agg #[.int .i64 0,.int .i64 0,.int .i64 0,.int .i64 0,.int .i64 0],.bool false]) (two_results rfl _ _ _ 27 _ (0,0) _ rfl (Holds.all (HZ.out.below HB12.out) 0 0 0 0 0) Tryz.underlying27 rfl (by kernel_rfl) rfl) rfl ?_
     exact ⟨rfl,below_set5 (g:=w.heap.size + 1 + 1) (below3 HB12.out) (by omega)⟩
   · have HA:=Hd (right_is (decide_eq_true ha) (right_any a));have HB:=Hd (right_is (decide_eq_false hb) (right_any b));clear ha hb h
     obtain ⟨d,e,x,y,z⟩:=a
     obtain ⟨d',e',x',y',z'⟩:=b
     unfold St.val at *
     simp only at HA HB ⊢
     have hz:=zero_made ((w.alloc (.cells #[.int .i64 d,.int .i64 e,.int .i64 x,.int .i64 y,.int .i64 z] 27)).alloc (.cells #[.int .i64 d',.int .i64 e',.int .i64 x',.int .i64 y',.int .i64 z'] 27))
     rw [size_alloc,size_alloc] at hz
     have HZ:=Hd hz;clear hz
     go_enter Tryz.func132,Tryz.ntmps132
     go_wp2_with fail
     refine (HA.out _).mono ?_;rintro e w1 ⟨rfl,hb1⟩
     obtain ⟨hc1,hf1⟩:=old_cells hb1
     have HB1:=Hd hb1;clear hb1
     go_wp2_with fail
     refine (HB.out _).mono ?_;rintro e w2 ⟨rfl,hb2⟩
     have hb12:=HB1.out.trans (hb2.mono HB1.out.size)
     clear hc1 hf1
     obtain ⟨hc1,hf1⟩:=old_cells hb12
     have HB12:=Hd hb12;clear hb12 hb2
     go_wp2_with fail
     refine bodyPost_ret (v:=.tuple #[.agg #[.int .i64 0,.int .i64 0,.int .i64 0,.int .i64 0,.int .i64 0],.bool false]) (two_results rfl _ _ _ 27 _ (0,0) _ rfl (Holds.all (HZ.out.below HB12.out) 0 0 0 0 0) Tryz.underlying27 rfl (by kernel_rfl) rfl) rfl ?_
     exact ⟨rfl,below_set5 (g:=w.heap.size + 1 + 1) (below3 HB12.out) (by omega)⟩
 · have HA:=Hd (right_is (decide_eq_false ha) (right_any a));clear ha h
   obtain ⟨d,e,x,y,z⟩:=a
   obtain ⟨d',e',x',y',z'⟩:=b
   unfold St.val at *
   simp only at HA ⊢
   have hz:=zero_made ((w.alloc (.cells #[.int .i64 d,.int .i64 e,.int .i64 x,.int .i64 y,.int .i64 z] 27)).alloc (.cells #[.int .i64 d',.int .i64 e',.int .i64 x',.int .i64 y',.int .i64 z'] 27))
   rw [size_alloc,size_alloc] at hz
   have HZ:=Hd hz;clear hz
   go_enter Tryz.func132,Tryz.ntmps132
   go_wp2_with fail
   refine (HA.out _).mono ?_;rintro e w1 ⟨rfl,hb1⟩
   obtain ⟨hc1,hf1⟩:=old_cells hb1
   have HB1:=Hd hb1;clear hb1
   go_wp2_with fail
   refine bodyPost_ret (v:=.tuple #[.agg #[.int .i64 0,.int .i64 0,.int .i64 0,.int .i64 0,.int .i64 0],.bool false]) (two_results rfl _ _ _ 27 _ (0,0) _ rfl (Holds.all (HZ.out.below HB1.out) 0 0 0 0 0) Tryz.underlying27 rfl (by kernel_rfl) rfl) rfl ?_
   exact ⟨rfl,below_set5 (g:=w.heap.size + 1 + 1) (below3 HB1.out) (by omega)⟩
end

section
namespace Free
section
variable {P : Program}

def gets (P : Program) (K : Value → World → Prop) : Result Next → Prop
 | .ok (.value u) w' => K u w'
 | .ok .skip w' => K undef w'
 | .ok (.enter f args) w' => Calls P f args w' (fun e w'' => ∃ v,e = .returned v ∧ K v w'')
 | _ => False
def dsts (l : List Oper) : List Tmp:=l.filterMap (·.dst)
def upB (l : List Oper) : Bool:=(List.range l.length).all fun i => match l[i]? with | some o => o.after.all fun e => !Region.binds .any e || decide (e.on < i) | none => true
def okB (l : List Oper) (n : Nat) : Bool:=upB l && l.all (fun o => o.guard.isNone) && decide (dsts l).Nodup && (dsts l).all (fun t => decide (t < n))
def slot (a : Act) (o : Oper) : Value:=match o.dst with | some t => a.tmps.getD t undef | none => undef
def puts (a : Act) : List Oper → Nat → (Nat → Value) → Act
 | [],_,_ => a
 | o :: l,k,vs => puts (a.put o.dst (vs k)) l (k + 1) vs

theorem put_getD (a : Act) (d : Option Tmp) (v : Value) (t : Nat) (h : d ≠ some t) : (a.put d v).tmps.getD t undef = a.tmps.getD t undef:=by
 unfold Act.put
 cases d with
 | none => rfl
 | some d =>
   have : d ≠ t:=fun e => h (by rw [e])
   simp [Array.getElem?_setIfInBounds_ne this]
theorem put_getD_self (a : Act) (t : Nat) (v : Value) (h : t < a.tmps.size) : (a.put (some t) v).tmps.getD t undef = v:=by simp [Act.put,h]
theorem put_size (a : Act) (d : Option Tmp) (v : Value) : (a.put d v).tmps.size = a.tmps.size:=by unfold Act.put;cases d <;> simp
theorem put_defers (a : Act) (d : Option Tmp) (v : Value) : (a.put d v).defers = a.defers:=by unfold Act.put;cases d <;> rfl
theorem puts_size (l : List Oper) : ∀ (a : Act) (k : Nat) (vs : Nat → Value),(puts a l k vs).tmps.size = a.tmps.size ∧ (puts a l k vs).defers = a.defers:=by
 induction l with
 | nil => intro a k vs;exact ⟨rfl,rfl⟩
 | cons o l ih => intro a k vs;have:=ih (a.put o.dst (vs k)) (k + 1) vs;rw [put_size,put_defers] at this;exact this
theorem mem_dsts {l : List Oper} {i : Nat} {o : Oper} {t : Tmp} (h : l[i]? = some o) (ht : o.dst = some t) : t ∈ dsts l:=List.mem_filterMap.2 ⟨o,List.mem_of_getElem? h,ht⟩
theorem puts_old (l : List Oper) : ∀ (a : Act) (k : Nat) (vs : Nat → Value) (t : Nat),t ∉ dsts l → (puts a l k vs).tmps.getD t undef = a.tmps.getD t undef:=by
 induction l with
 | nil => intro a k vs t _;rfl
 | cons o l ih =>
   intro a k vs t ht
   rw [puts,ih _ _ _ _ (fun h => ht (by obtain ⟨o',ho',e⟩:=List.mem_filterMap.1 h;exact List.mem_filterMap.2 ⟨o',List.mem_cons_of_mem _ ho',e⟩)),
    put_getD _ _ _ _ (fun e => ht (List.mem_filterMap.2 ⟨o,by simp,e⟩))]
theorem puts_new (l : List Oper) : ∀ (a : Act) (k : Nat) (vs : Nat → Value) (i : Nat) (o : Oper) (t : Nat),(dsts l).Nodup → l[i]? = some o → o.dst = some t → t < a.tmps.size → (puts a l k vs).tmps.getD t undef = vs (k + i):=by
 induction l with
 | nil => intro a k vs i o t _ h;simp at h
 | cons o l ih =>
   intro a k vs i o' t hnd hi ht hlt
   rw [puts]
   cases i with
   | zero =>
     simp at hi;subst hi
     have hd : dsts (o :: l) = t :: dsts l:=by simp [dsts,ht]
     rw [hd,List.nodup_cons] at hnd
     rw [puts_old _ _ _ _ _ hnd.1,ht,put_getD_self _ _ _ hlt];rfl
   | succ i =>
     have hnd' : (dsts l).Nodup:=by
      cases hd : o.dst with
      | none => have : dsts (o :: l) = dsts l:=by simp [dsts,hd]
                rwa [this] at hnd
      | some d => have : dsts (o :: l) = d :: dsts l:=by simp [dsts,hd]
                  rw [this,List.nodup_cons] at hnd;exact hnd.2
     rw [ih _ _ _ i o' t hnd' (by simpa using hi) ht (by rw [put_size];exact hlt)]
     congr 1;omega
theorem act_ext {a b : Act} (hd : a.defers = b.defers) (hs : a.tmps.size = b.tmps.size) (h : ∀ t,t < a.tmps.size → a.tmps.getD t undef = b.tmps.getD t undef) : a = b:=by
 obtain ⟨ta,da⟩:=a
 obtain ⟨tb,db⟩:=b
 simp only at hd hs h
 subst hd
 congr 1
 apply Array.ext hs
 intro i h1 h2
 have:=h i h1
 simpa [h1,h2] using this
theorem dst_ne {l : List Oper} (hnd : (dsts l).Nodup) : ∀ {i j : Nat} {oi oj : Oper} {t : Tmp},l[i]? = some oi → l[j]? = some oj → oi.dst = some t → oj.dst = some t → i = j:=by
 induction l with
 | nil => intro i j oi oj t h;simp at h
 | cons o l ih =>
   intro i j oi oj t hi hj hti htj
   have key : ∀ {k : Nat} {ok : Oper},l[k]? = some ok → ok.dst = some t → o.dst = some t → False:=by
    intro k ok hk h1 h2
    have hd : dsts (o :: l) = t :: dsts l:=by simp [dsts,h2]
    have hnd2:=hnd
    rw [hd,List.nodup_cons] at hnd2
    exact hnd2.1 (mem_dsts hk h1)
   have hnd' : (dsts l).Nodup:=by
    cases hd : o.dst with
    | none => have : dsts (o :: l) = dsts l:=by simp [dsts,hd]
              rwa [this] at hnd
    | some d => have : dsts (o :: l) = d :: dsts l:=by simp [dsts,hd]
                rw [this,List.nodup_cons] at hnd;exact hnd.2
   cases i with
   | zero =>
     cases j with
     | zero => rfl
     | succ j => simp at hi hj;subst hi;exact (key hj htj hti).elim
   | succ i =>
     cases j with
     | zero => simp at hi hj;subst hj;exact (key hi hti htj).elim
     | succ j => exact congrArg (· + 1) (ih hnd' (i:=i) (j:=j) (by simpa using hi) (by simpa using hj) hti htj)

theorem wp_region {id : Nat} {Q : Exit → Act → World → Prop} {a0 : Act} {w0 : World} {l : List Oper} (hm : P.follows .mixedOrders = true) (hB : okB l a0.tmps.size = true)
 (F : World → Prop) (R : Nat → Value → World → Prop) (hF : F w0.drew)
 (hstep : ∀ i o,l[i]? = some o → ∀ (a : Act) (w : World),(∀ t,t ∉ dsts l → a.eval (.tmp t) = a0.eval (.tmp t)) →
   (∀ j oj t,Region.waitsFor .any l.toArray i j = true → l[j]? = some oj → oj.dst = some t → R j (a.eval (.tmp t)) w) → F w →
   gets P (fun v w' => R i v w' ∧ F w' ∧ ∀ j u,R j u w → R j u w') ((execOp a.eval o).run P w))
 (hend : ∀ (vs : Nat → Value) (w' : World),(∀ i,i < l.length → (∀ o,l[i]? = some o → o.dst.isSome = true) → R i (vs i) w') → F w' → Q .normal (puts a0 l 0 vs) w') : (Code.region id l.toArray true).wp P Q a0 w0:=by
 simp only [okB,Bool.and_eq_true,decide_eq_true_eq] at hB
 obtain ⟨⟨⟨hns,hgd⟩,hnd⟩,hlt⟩:=hB
 have hlt' : ∀ t ∈ dsts l,t < a0.tmps.size:=fun t ht => by simpa using List.all_eq_true.1 hlt t ht
 let Inv : Array Bool → Act → World → Prop:=fun S a w => a.defers = a0.defers ∧ a.tmps.size = a0.tmps.size ∧ (∀ t,t ∉ dsts l → a.tmps.getD t undef = a0.tmps.getD t undef) ∧ F w ∧
  ∀ i o t,l[i]? = some o → S.getD i false = true → o.dst = some t → R i (a.tmps.getD t undef) w
 have main : ∀ (fuel : Nat) (S : Array Bool) (a : Act) (w : World),S.toList.count false = fuel → Stage.Fit .any l.toArray S → Inv S a w → wpAny P .any l.toArray Q fuel S a w:=by
  intro fuel
  have fin : ∀ (S : Array Bool) (a : Act) (w : World),Stage.Fit .any l.toArray S → (∀ i,S.getD i true = true) → Inv S a w → Q .normal a w:=by
   rintro S a w hFit hS ⟨h1,h2,h3,h4,h5⟩
   have e : a = puts a0 l 0 (fun i => match l[i]? with | some o => slot a o | none => undef):=by
    have hp:=puts_size l a0 0 (fun i => match l[i]? with | some o => slot a o | none => undef)
    refine act_ext (h1.trans hp.2.symm) (h2.trans hp.1.symm) (fun t ht => ?_)
    by_cases hm : t ∈ dsts l
    · obtain ⟨o,ho,e⟩:=List.mem_filterMap.1 hm
      obtain ⟨i,hi⟩:=List.getElem?_of_mem ho
      rw [puts_new l a0 0 _ i o t hnd hi e (hlt' t hm),Nat.zero_add]
      simp only [hi,slot,e]
    · rw [puts_old _ _ _ _ _ hm];exact h3 t hm
   rw [e]
   refine hend _ w (fun i hi hd => ?_) h4
   have hi' : l[i]? = some l[i]:=List.getElem?_eq_getElem hi
   simp only [hi']
   obtain ⟨t,ht⟩:=Option.isSome_iff_exists.1 (hd _ hi')
   have hSi : S.getD i false = true:=by
    have h1:=hS i
    have : i < S.size:=by rw [hFit.size];simpa using hi
    simp [this] at h1 ⊢;exact h1
   have:=h5 i _ t hi' hSi ht
   unfold slot;rw [ht];exact this
  have one : ∀ (S : Array Bool) (a : Act) (w : World) (K : Act → World → Prop),Stage.Fit .any l.toArray S → Inv S a w → ∀ i ∈ Region.ready .any l.toArray S,(∀ a' w',Inv (S.setIfInBounds i true) a' w' → K a' w') → wpOp P l.toArray Q i K a w:=by
   rintro S a w K hFit ⟨h1,h2,h3,h4,h5⟩ i hi hK
   obtain ⟨hun,o,ho,hall⟩:=mem_ready.1 hi
   have hol : l[i]? = some o:=by simpa using ho
   unfold wpOp
   simp only [ho]
   have hw : Region.wanted o (yielded l.toArray a.tmps) = true:=by
    have:=List.all_eq_true.1 hgd o (List.mem_of_getElem? hol)
    have hn : o.guard = none:=by simpa using this
    simp [Region.wanted,hn]
   rw [if_pos hw]
   refine .inl ?_
   have hpre : ∀ j oj t,Region.waitsFor .any l.toArray i j = true → l[j]? = some oj → oj.dst = some t → R j (a.eval (.tmp t)) w:=by
    intro j oj t hwt hj hd
    have hc:=Stage.came hi hwt
    have hSj : S.getD j false = true:=by
     have hjl : j < S.size:=by rw [hFit.size];simpa using (List.getElem?_eq_some_iff.1 hj).1
     simp [hjl] at hc ⊢;exact hc
    exact h5 j oj t hj hSj hd
   have hs:=hstep i o hol a w (fun t ht => h3 t ht) hpre h4
   have step : ∀ v w',(R i v w' ∧ F w' ∧ ∀ j u,R j u w → R j u w') → K (a.put o.dst v) w':=by
    rintro v w' ⟨r1,r2,r3⟩
    refine hK _ _ ⟨by rw [put_defers];exact h1,by rw [put_size];exact h2,fun t ht => ?_,r2,fun j oj t hj hSj hd => ?_⟩
    · rw [put_getD _ _ _ _ (fun e => ht (mem_dsts hol e))];exact h3 t ht
    · by_cases hij : i = j
      · subst hij
        obtain rfl : oj = o:=Option.some.inj (hj.symm.trans hol)
        rw [hd,put_getD_self _ _ _ (by rw [h2];exact hlt' t (mem_dsts hj hd))]
        exact r1
      · rw [getD_set_ne false hij] at hSj
        rw [put_getD _ _ _ _ (fun e => hij (dst_ne hnd hol hj e hd))]
        exact r3 j _ (h5 j oj t hj hSj hd)
   unfold Oper.wp
   generalize (execOp a.eval o).run P w = r at hs
   cases r with
   | ok n w' =>
     cases n <;> simp only [gets] at hs <;> simp only [Oper.upon]
     case value u => exact step _ _ hs
     case skip => exact step _ _ hs
     case enter f args => exact hs.mono fun e w'' ⟨v,he,h⟩ => by subst he;exact step _ _ h
   | halt x w' => simp only [gets] at hs
  induction fuel with
  | zero =>
    intro S a w hn hFit hI
    have hS : ∀ i,S.getD i true = true:=fun i => by rw [Stage.getD_toList];exact Stage.all_of_count hn i
    refine ⟨?_,fin S a w hFit hS hI⟩
    cases hr : Region.ready .any l.toArray S with
    | nil => rfl
    | cons i r =>
      have:=(mem_ready.1 (show i ∈ Region.ready .any l.toArray S by rw [hr];simp)).1
      rw [hS i] at this;cases this
  | succ fuel ih =>
    intro S a w hn hFit hI
    refine ⟨fun h0 => ?_,fun i hi => ?_⟩
    · refine fin S a w hFit (fun i => ?_) hI
      induction i using Nat.strongRecOn with
      | _ i ihi =>
        cases hx : S.getD i true with
        | true => rfl
        | false =>
          exfalso
          have hil : i < l.length:=by
           rcases Nat.lt_or_ge i S.size with h' | h'
           · rw [hFit.size] at h';simpa using h'
           · simp [Array.getElem?_eq_none h'] at hx
          have hup:=List.all_eq_true.1 hns i (List.mem_range.2 hil)
          rw [List.getElem?_eq_getElem hil] at hup
          have hr : i ∈ Region.ready .any l.toArray S:=by
           refine mem_ready.2 ⟨hx,l[i],by simp [hil],fun e he hbe => ?_⟩
           have h1 : e.on < i:=by
            have:=Array.all_eq_true_iff_forall_mem.1 hup e he
            simpa [hbe] using this
           have h2:=ihi e.on h1
           have h3 : e.on < S.size:=by rw [hFit.size];simp;omega
           simp [h3] at h2 ⊢;exact h2
          rw [h0] at hr;cases hr
    · have hun:=(mem_ready.1 hi).1
      have hc : (S.setIfInBounds i true).toList.count false = fuel:=by
       rw [Array.toList_setIfInBounds]
       have:=Stage.count_set (l:=S.toList) (i:=i) (by rw [← Stage.getD_toList];exact hun)
       omega
      exact one S a w _ hFit hI i hi (fun a' w' hI' => ih _ a' w' hc (hFit.set hi) hI')
 refine wp_region_any hm (main _ _ _ _ (by simp) (by simpa using Stage.Fit.start (md:=.any) (ops:=l.toArray)) ⟨rfl,rfl,fun _ _ => rfl,hF,fun i o t _ h _ => ?_⟩)
 rw [getD_replicate_false] at h;cases h
section
variable {K : Value → World → Prop} {a : Act} {o : Oper} {w w' : World}
theorem g_move (x : Operand) (ho : o.op = .move x) (h : K (a.eval x) w) : gets P K ((execOp a.eval o).run P w):=by
 unfold execOp;simp only [ho,Sem.run_pure,gets];exact h
theorem g_assign (x : Operand) (ho : o.op = .assign x) (h : K (a.eval x) w) : gets P K ((execOp a.eval o).run P w):=by
 unfold execOp;simp only [ho,Sem.run_pure,gets];exact h
theorem g_load {v p : Value} (t : TypeId) (x : Operand) (ho : o.op = .load t x) (hx : a.eval x = p) (hr : (Instr.loadAt t p).run P w = .ok v w') (h : K v w') : gets P K ((execOp a.eval o).run P w):=by
 unfold execOp;simp only [ho,hx,Sem.run_bind,hr,Result.andThen_ok,Sem.run_pure,gets];exact h
theorem g_field {v p : Value} (t : TypeId) (x : Operand) (f : Nat) (ho : o.op = .fieldAddr t x f) (hx : a.eval x = p) (hr : (Instr.fieldAt t p f).run P w = .ok v w') (h : K v w') : gets P K ((execOp a.eval o).run P w):=by
 unfold execOp;simp only [ho,hx,Sem.run_bind,hr,Result.andThen_ok,Sem.run_pure,gets];exact h
theorem g_indexAddr {v p q : Value} (t : TypeId) (x y : Operand) (ho : o.op = .indexAddr t x y) (hx : a.eval x = p) (hy : a.eval y = q) (hr : (Instr.indexAt t p q).run P w = .ok v w') (h : K v w') : gets P K ((execOp a.eval o).run P w):=by
 unfold execOp;simp only [ho,hx,hy,Sem.run_bind,hr,Result.andThen_ok,Sem.run_pure,gets];exact h
theorem g_bin {v p q : Value} (op : BinOp) (t u : TypeId) (x y : Operand) (ho : o.op = .binOp op t x y u) (hx : a.eval x = p) (hy : a.eval y = q) (hr : (do eqGuard op t x y p q;binOp op t p q : Sem Value).run P w = .ok v w') (h : K v w') : gets P K ((execOp a.eval o).run P w):=by
 unfold execOp;simp only [ho,hx,hy];rw [Sem.run_bind,hr];simp only [Result.andThen_ok,Sem.run_pure,gets];exact h
theorem g_build (t : TypeId) (parts : Array (Nat × Operand)) (ho : o.op = .build t parts) (cells : Array Value) (vs : List (Nat × Value)) (hv : (parts.toList.map fun (i,x) => (i,a.eval x)) = vs) (hb : P.built t vs = some cells) (h : K (.agg cells) w) : gets P K ((execOp a.eval o).run P w):=by
 subst hv
 have hr:=run_build (P:=P) w t (parts.map fun (i,x) => (i,a.eval x)) cells (by rw [Array.toList_map];exact hb)
 unfold execOp
 simp only [ho,Sem.run_bind,hr,Result.andThen_ok,Sem.run_pure,gets];exact h
theorem run_enter {f : FuncId} {fn : Func} {c : Code} (hf : P.funcs[f]? = some fn) (hname : (fn.name == "runtime.NumGoroutine") = false) (hb : fn.body = some c) (args : Array Value) (w : World) :
 (callFunc f args).run P w = .ok (.enter f args) w:=by
 have h1 : fn.name ≠ "runtime.NumGoroutine":=by simpa using hname
 simp [callFunc,hf,h1,hb]
theorem g_call {f : FuncId} {fn : Func} {c : Code} (args : Array Operand) (ats : Array TypeId) (ho : o.op = .call { callee:=.value (.func f),args:=args,argTypes:=ats }) (hf : P.funcs[f]? = some fn) (hname : (fn.name == "runtime.NumGoroutine") = false) (hb : fn.body = some c)
 (vs : List Value) (hv : args.toList.map a.eval = vs) (h : Calls P f vs.toArray w (fun e w'' => ∃ v,e = .returned v ∧ K v w'')) : gets P K ((execOp a.eval o).run P w):=by
 have hv' : args.map a.eval = vs.toArray:=by rw [← hv];apply Array.ext';simp
 have hr:=run_enter (P:=P) hf hname hb (vs.toArray) w
 unfold execOp
 simp only [ho,resolve,hv',Act.eval,Deferred.ofValue,Sem.run_bind,Sem.run_pure,Result.andThen_ok,invoke,Array.append_empty,Array.empty_append,hr,gets]
 exact h
theorem at_call {C : World → Prop} {v : Value} {f : FuncId} {fn : Func} {c : Code} (args : Array Operand) (ats : Array TypeId) (ho : o.op = .call { callee:=.value (.func f),args:=args,argTypes:=ats }) (hf : P.funcs[f]? = some fn) (hname : (fn.name == "runtime.NumGoroutine") = false) (hb : fn.body = some c)
 (vs : List Value) (hv : args.toList.map a.eval = vs) (h : Calls P f vs.toArray w (fun e w'' => e = .returned v ∧ C w'')) : Stage.at_ P o a C w v:=by
 have hv' : args.map a.eval = vs.toArray:=by rw [← hv];apply Array.ext';simp
 have hr:=run_enter (P:=P) hf hname hb (vs.toArray) w
 unfold Stage.at_ execOp
 simp only [ho,resolve,hv',Act.eval,Deferred.ofValue,Sem.run_bind,Sem.run_pure,Result.andThen_ok,invoke,Array.append_empty,Array.empty_append,hr,Stage.upon]
 exact h
theorem at_load {C : World → Prop} {v p : Value} (t : TypeId) (x : Operand) (ho : o.op = .load t x) (hx : a.eval x = p) (hr : (Instr.loadAt t p).run P w = .ok v w) (h : C w) : Stage.at_ P o a C w v:=by
 unfold Stage.at_ execOp;simp only [ho,hx,Sem.run_bind,hr,Result.andThen_ok,Sem.run_pure,Stage.upon];exact ⟨trivial,h⟩
end
end
end Free
end

section
namespace Free
section
variable {P : Program}
def okG (l : List Oper) (n : Nat) : Bool:=upB l && decide (dsts l).Nodup && (dsts l).all (fun t => decide (t < n))
def Comes (P : Program) (l : List Oper) (a : Act) (o : Oper) (w : World) (K : Value → World → Prop) : Prop :=
 (Region.wanted o (yielded l.toArray a.tmps) = true ∧ gets P K ((execOp a.eval o).run P w)) ∨ (Region.wanted o (yielded l.toArray a.tmps) = false ∧ K undef w)
theorem wp_guarded {id : Nat} {Q : Exit → Act → World → Prop} {a0 : Act} {w0 : World} {l : List Oper} (hm : P.follows .mixedOrders = true) (hB : okG l a0.tmps.size = true)
 (F : World → Prop) (V : Nat → Value → Prop) (hF : F w0.drew)
 (hstep : ∀ i o,l[i]? = some o → ∀ (a : Act) (w : World),(∀ t,t ∉ dsts l → a.eval (.tmp t) = a0.eval (.tmp t)) →
   (∀ j oj t,Region.waitsFor .any l.toArray i j = true → l[j]? = some oj → oj.dst = some t → V j (a.eval (.tmp t))) → F w →
   Comes P l a o w (fun v w' => V i v ∧ F w'))
 (hend : ∀ (vs : Nat → Value) (w' : World),(∀ i,i < l.length → (∀ o,l[i]? = some o → o.dst.isSome = true) → V i (vs i)) → F w' → Q .normal (puts a0 l 0 vs) w') : (Code.region id l.toArray true).wp P Q a0 w0:=by
 simp only [okG,Bool.and_eq_true,decide_eq_true_eq] at hB
 obtain ⟨⟨hns,hnd⟩,hlt⟩:=hB
 have hlt' : ∀ t ∈ dsts l,t < a0.tmps.size:=fun t ht => by simpa using List.all_eq_true.1 hlt t ht
 let Inv : Array Bool → Act → World → Prop:=fun S a w => a.defers = a0.defers ∧ a.tmps.size = a0.tmps.size ∧ (∀ t,t ∉ dsts l → a.tmps.getD t undef = a0.tmps.getD t undef) ∧ F w ∧
  ∀ i o t,l[i]? = some o → S.getD i false = true → o.dst = some t → V i (a.tmps.getD t undef)
 have main : ∀ (fuel : Nat) (S : Array Bool) (a : Act) (w : World),S.toList.count false = fuel → Stage.Fit .any l.toArray S → Inv S a w → wpAny P .any l.toArray Q fuel S a w:=by
  intro fuel
  have fin : ∀ (S : Array Bool) (a : Act) (w : World),Stage.Fit .any l.toArray S → (∀ i,S.getD i true = true) → Inv S a w → Q .normal a w:=by
   rintro S a w hFit hS ⟨h1,h2,h3,h4,h5⟩
   have e : a = puts a0 l 0 (fun i => match l[i]? with | some o => slot a o | none => undef):=by
    have hp:=puts_size l a0 0 (fun i => match l[i]? with | some o => slot a o | none => undef)
    refine act_ext (h1.trans hp.2.symm) (h2.trans hp.1.symm) (fun t ht => ?_)
    by_cases hm : t ∈ dsts l
    · obtain ⟨o,ho,e⟩:=List.mem_filterMap.1 hm
      obtain ⟨i,hi⟩:=List.getElem?_of_mem ho
      rw [puts_new l a0 0 _ i o t hnd hi e (hlt' t hm),Nat.zero_add]
      simp only [hi,slot,e]
    · rw [puts_old _ _ _ _ _ hm];exact h3 t hm
   rw [e]
   refine hend _ w (fun i hi hd => ?_) h4
   have hi' : l[i]? = some l[i]:=List.getElem?_eq_getElem hi
   simp only [hi']
   obtain ⟨t,ht⟩:=Option.isSome_iff_exists.1 (hd _ hi')
   have hSi : S.getD i false = true:=by
    have h1:=hS i
    have : i < S.size:=by rw [hFit.size];simpa using hi
    simp [this] at h1 ⊢;exact h1
   have:=h5 i _ t hi' hSi ht
   unfold slot;rw [ht];exact this
  have one : ∀ (S : Array Bool) (a : Act) (w : World) (K : Act → World → Prop),Stage.Fit .any l.toArray S → Inv S a w → ∀ i ∈ Region.ready .any l.toArray S,(∀ a' w',Inv (S.setIfInBounds i true) a' w' → K a' w') → wpOp P l.toArray Q i K a w:=by
   rintro S a w K hFit ⟨h1,h2,h3,h4,h5⟩ i hi hK
   obtain ⟨hun,o,ho,hall⟩:=mem_ready.1 hi
   have hol : l[i]? = some o:=by simpa using ho
   unfold wpOp
   simp only [ho]
   have hpre : ∀ j oj t,Region.waitsFor .any l.toArray i j = true → l[j]? = some oj → oj.dst = some t → V j (a.eval (.tmp t)):=by
    intro j oj t hwt hj hd
    have hc:=Stage.came hi hwt
    have hSj : S.getD j false = true:=by
     have hjl : j < S.size:=by rw [hFit.size];simpa using (List.getElem?_eq_some_iff.1 hj).1
     simp [hjl] at hc ⊢;exact hc
    exact h5 j oj t hj hSj hd
   have hs:=hstep i o hol a w (fun t ht => h3 t ht) hpre h4
   have step : ∀ v w',(V i v ∧ F w') → K (a.put o.dst v) w':=by
    rintro v w' ⟨r1,r2⟩
    refine hK _ _ ⟨by rw [put_defers];exact h1,by rw [put_size];exact h2,fun t ht => ?_,r2,fun j oj t hj hSj hd => ?_⟩
    · rw [put_getD _ _ _ _ (fun e => ht (mem_dsts hol e))];exact h3 t ht
    · by_cases hij : i = j
      · subst hij
        obtain rfl : oj = o:=Option.some.inj (hj.symm.trans hol)
        rw [hd,put_getD_self _ _ _ (by rw [h2];exact hlt' t (mem_dsts hj hd))]
        exact r1
      · rw [getD_set_ne false hij] at hSj
        rw [put_getD _ _ _ _ (fun e => hij (dst_ne hnd hol hj e hd))]
        exact h5 j oj t hj hSj hd
   rcases hs with ⟨hw,hs⟩ | ⟨hw,hs⟩
   case inr => rw [if_neg (by rw [hw];exact Bool.false_ne_true)];exact step _ _ hs
   rw [if_pos hw]
   refine .inl ?_
   unfold Oper.wp
   generalize (execOp a.eval o).run P w = r at hs
   cases r with
   | ok n w' =>
     cases n <;> simp only [gets] at hs <;> simp only [Oper.upon]
     case value u => exact step _ _ hs
     case skip => exact step _ _ hs
     case enter f args => exact hs.mono fun e w'' ⟨v,he,h⟩ => by subst he;exact step _ _ h
   | halt x w' => simp only [gets] at hs
  induction fuel with
  | zero =>
    intro S a w hn hFit hI
    have hS : ∀ i,S.getD i true = true:=fun i => by rw [Stage.getD_toList];exact Stage.all_of_count hn i
    refine ⟨?_,fin S a w hFit hS hI⟩
    cases hr : Region.ready .any l.toArray S with
    | nil => rfl
    | cons i r =>
      have:=(mem_ready.1 (show i ∈ Region.ready .any l.toArray S by rw [hr];simp)).1
      rw [hS i] at this;cases this
  | succ fuel ih =>
    intro S a w hn hFit hI
    refine ⟨fun h0 => ?_,fun i hi => ?_⟩
    · refine fin S a w hFit (fun i => ?_) hI
      induction i using Nat.strongRecOn with
      | _ i ihi =>
        cases hx : S.getD i true with
        | true => rfl
        | false =>
          exfalso
          have hil : i < l.length:=by
           rcases Nat.lt_or_ge i S.size with h' | h'
           · rw [hFit.size] at h';simpa using h'
           · simp [Array.getElem?_eq_none h'] at hx
          have hup:=List.all_eq_true.1 hns i (List.mem_range.2 hil)
          rw [List.getElem?_eq_getElem hil] at hup
          have hr : i ∈ Region.ready .any l.toArray S:=by
           refine mem_ready.2 ⟨hx,l[i],by simp [hil],fun e he hbe => ?_⟩
           have h1 : e.on < i:=by
            have:=Array.all_eq_true_iff_forall_mem.1 hup e he
            simpa [hbe] using this
           have h2:=ihi e.on h1
           have h3 : e.on < S.size:=by rw [hFit.size];simp;omega
           simp [h3] at h2 ⊢;exact h2
          rw [h0] at hr;cases hr
    · have hun:=(mem_ready.1 hi).1
      have hc : (S.setIfInBounds i true).toList.count false = fuel:=by
       rw [Array.toList_setIfInBounds]
       have:=Stage.count_set (l:=S.toList) (i:=i) (by rw [← Stage.getD_toList];exact hun)
       omega
      exact one S a w _ hFit hI i hi (fun a' w' hI' => ih _ a' w' hc (hFit.set hi) hI')
 refine wp_region_any hm (main _ _ _ _ (by simp) (by simpa using Stage.Fit.start (md:=.any) (ops:=l.toArray)) ⟨rfl,rfl,fun _ _ => rfl,hF,fun i o t _ h _ => ?_⟩)
 rw [getD_replicate_false] at h;cases h

theorem getD_bool {t : Tmp} {b : Bool} {T : Array Value} (h : T.getD t undef = .bool b) : T[t]? = some (.bool b):=by
 rcases Nat.lt_or_ge t T.size with h' | h'
 · simp [h'] at h ⊢;exact h
 · simp [h',undef] at h
section
variable {l : List Oper} {a : Act} {o oj : Oper} {w : World} {K : Value → World → Prop} {j : Nat} {t : Tmp} {want b : Bool}
theorem c_all (hg : o.guard = none) (h : gets P K ((execOp a.eval o).run P w)) : Comes P l a o w K:=.inl ⟨by simp [Region.wanted,hg],h⟩
theorem c_yes (hg : o.guard = some (j,want)) (hj : l[j]? = some oj) (hd : oj.dst = some t) (hv : a.eval (.tmp t) = .bool want) (h : gets P K ((execOp a.eval o).run P w)) : Comes P l a o w K:=by
 have hv' : a.tmps.getD t undef = .bool want:=hv
 refine .inl ⟨?_,h⟩
 simp [Region.wanted,hg,yielded,hj,hd,getD_bool hv']
theorem c_no (hg : o.guard = some (j,want)) (hj : l[j]? = some oj) (hd : oj.dst = some t) (hv : a.eval (.tmp t) = .bool (!want)) (h : K undef w) : Comes P l a o w K:=by
 have hv' : a.tmps.getD t undef = .bool (!want):=hv
 refine .inr ⟨?_,h⟩
 simp [Region.wanted,hg,yielded,hj,hd,getD_bool hv']
end
section
variable {K : Value → World → Prop} {a : Act} {o : Oper} {w w' : World}
theorem g_len {v p : Value} (x : Operand) (t : TypeId) (ho : o.op = .call { callee:=.builtin .len,args:=#[x],argTypes:=#[t] }) (hx : a.eval x = p) (hr : (Builtin.len_ #[t] o.type #[p]).run P w = .ok v w') (h : K v w') : gets P K ((execOp a.eval o).run P w):=by
 unfold execOp
 simp only [ho,resolve,invoke,builtin,Sem.run_bind,Sem.run_pure,Result.andThen_ok,List.map_toArray,List.map_cons,List.map_nil,hx,hr,gets]
 exact h
theorem g_pick {u v : Value} {b : Bool} (c x y : Operand) (ho : o.op = .pick c x y) (hc : a.eval c = .bool b) (hx : a.eval x = u) (hy : a.eval y = v) (h : K (if b then u else v) w) : gets P K ((execOp a.eval o).run P w):=by
 unfold execOp
 simp only [ho,hc,hx,hy,Sem.run_bind,asBool,Sem.run_pure,Result.andThen_ok,gets]
 exact h
end
section
variable (w : World) (x y : Operand)
end
end
end Free
end

section
open Go.RowKit
namespace Stage
section
variable {P : Program} {ops : Array Oper} {md : Region.Mode} {K1 K2 : Nat} {D : Bool → Bool → World → Prop}
theorem two_step {i : Nat} (hl : (decide (i ≠ K1) && decide (i ≠ K2) && leads md ops 8 i K2) = true) {o : Oper} {a : Act} {v : Value} (h : ∀ b w,D b false w → at_ P o a (D b false) w v) :
 ∀ S w,Fit md ops S → i ∈ Region.ready md ops S → two K1 K2 D S w → at_ P o a (two K1 K2 D (S.setIfInBounds i true)) w v:=by
 simp only [Bool.and_eq_true,decide_eq_true_eq] at hl
 intro S w hF hi hS
 have hn:=hF.before 8 i (mem_ready.1 hi).1 hl.2
 unfold two at *
 rw [getD_set_ne true hl.1.1,getD_set_ne true hl.1.2,hn]
 rw [hn] at hS
 exact h _ w hS
end
end Stage
end

section
def St.part (g : Bool) (a b : St) (k : Nat) : St:=⟨a.d,pk g a.e b.e,if 0 < k then pk g a.x b.x else 0,if 1 < k then pk g a.y b.y else 0,if 2 < k then pk g a.z b.z else 0⟩
theorem pk_same (g : Bool) (m : Int) : pk g m m = m:=by unfold pk;cases g <;> simp
theorem part_d (g : Bool) (a b : St) (h : a.B b) {n : Nat} (hn : a.d = n) : St.part g a b n = St.pick g a b:=by
 unfold St.pick;rw [if_pos h]
 obtain ⟨h1,h2,h3⟩:=h
 unfold St.R at h1 h2
 refine St.ext' rfl rfl ?_ ?_ ?_
 · show (if 0 < n then pk g a.x b.x else 0) = pk g a.x b.x
   by_cases hk : 0 < n
   · rw [if_pos hk]
   · rw [if_neg hk,show a.x = 0 by omega,show b.x = 0 by omega,pk_same]
 · show (if 1 < n then pk g a.y b.y else 0) = pk g a.y b.y
   by_cases hk : 1 < n
   · rw [if_pos hk]
   · rw [if_neg hk,show a.y = 0 by omega,show b.y = 0 by omega,pk_same]
 · show (if 2 < n then pk g a.z b.z else 0) = pk g a.z b.z
   by_cases hk : 2 < n
   · rw [if_pos hk]
   · rw [if_neg hk,show a.z = 0 by omega,show b.z = 0 by omega,pk_same]
def wz (W : World) (b : Bool) : World:=if b then W.alloc (.cells #[.int .i64 0,.int .i64 0,.int .i64 0,.int .i64 0,.int .i64 0] 27) else W
theorem wz_below {W w' : World} {b : Bool} (h : w' = wz W b) : Below W.heap.size W w':=by
 subst h;cases b
 · exact Below.refl _ _
 · exact (Below.refl _ _).alloc (Nat.le_refl _) _
section
variable {P : Program} {o : Oper} {a : Act} {C : World → Prop} {w w' : World} {v : Value}
theorem at_of (hr : (execOp a.eval o).run P w = .ok (.value v) w) (h : C w) : Stage.at_ P o a C w v:=by unfold Stage.at_;rw [hr];exact ⟨rfl,h⟩
theorem at_made (hr : (execOp a.eval o).run P w = .ok (.value v) w') (h : C w') : Stage.at_ P o a C w v:=by unfold Stage.at_;rw [hr];exact ⟨rfl,h⟩
theorem at_skip (hr : (execOp a.eval o).run P w = .ok .skip w') (h : C w') : Stage.at_ P o a C w undef:=by unfold Stage.at_;rw [hr];exact ⟨rfl,h⟩
theorem at_fn {f : FuncId} {fn : Func} {c : Code} (x : Operand) (args : Array Operand) (ats : Array TypeId) (ho : o.op = .call { callee:=.value x,args:=args,argTypes:=ats }) (hx : a.eval x = .func (.func f) #[] #[]) (hf : P.funcs[f]? = some fn) (hname : (fn.name == "runtime.NumGoroutine") = false) (hb : fn.body = some c)
 (vs : List Value) (hv : args.toList.map a.eval = vs) (h : Calls P f vs.toArray w (fun e w'' => e = .returned v ∧ C w'')) : Stage.at_ P o a C w v:=by
 have hv' : args.map a.eval = vs.toArray:=by rw [← hv];apply Array.ext';simp
 have hr:=Free.run_enter (P:=P) hf hname hb (vs.toArray) w
 unfold Stage.at_ execOp
 simp only [ho,resolve,hv',hx,Deferred.ofValue,Sem.run_bind,Sem.run_pure,Result.andThen_ok,invoke,Array.append_empty,Array.empty_append,hr,Stage.upon]
 exact h
end
end
end Go.Proofs.YtonelpnhoiajgaaGreatDoor
