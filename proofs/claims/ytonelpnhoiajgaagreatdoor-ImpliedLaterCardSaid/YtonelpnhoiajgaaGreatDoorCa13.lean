import Derived.Test.YtonelpnhoiajgaaGreatDoorHd
import Derived.Test.YtonelpnhoiajgaaGreatDoorCa12
import Derived.BigQuiet
import Derived.Test.YtonelpnhoiajgaaGreatDoorCa2
import Derived.Deep.DeepCutAuto
import Derived.Test.YtonelpnhoiajgaaGreatDoorCa3
import Derived.Test.YtonelpnhoiajgaaGreatDoorCa5
import Derived.Test.YtonelpnhoiajgaaGreatDoorCa0
import Derived.Deep.Slices
import Derived.Test.YtonelpnhoiajgaaGreatDoorCa6
import Derived.Test.YtonelpnhoiajgaaGreatDoorCa8
namespace Go.Proofs.YtonelpnhoiajgaaGreatDoor
set_option linter.unusedSimpArgs false
set_option maxRecDepth 100000
open Go.ChangeShapes Go.WideShapes Go.ChangeAt Go.RowKit Go.BigFrame
set_option linter.unusedVariables false
section
section
variable {K : Value → World → Prop} {a : Act} {o : Oper} {w : World}
theorem g_not {b : Bool} (t : TypeId) (x : Operand) (ho : o.op = .unOp .not t x) (hx : a.eval x = .bool b) (h : K (.bool (!b)) w) : Free.gets Tryz.prog K ((execOp a.eval o).run Tryz.prog w):=by
 unfold execOp;simp only [ho,hx];go_simp;exact h
end
def LeastR (g : List Nd) (i n : Nat) (w' : World) (v : Value) (l : List Sm) : Prop:=∃ A c T D,v = .slice A l.length c ∧ Rw.Ts kindS w' A l ∧ l.length ≤ c ∧ c ≤ maxLen ∧ (A = none → c = 0) ∧ Run g i T D [] ∧ T[n]? = some l
theorem row_fan (s : Sl) : ∀ (fs : List (Option Sl)) (i : Nat),fs[i]? = some none →
 (((((Rw.row kindF fs).set (i * 5 + 1) (.int .i32 1)).set (i * 5 + 4) s.v).set (i * 5 + 3) (.int .u32 1)).set (i * 5) (.int .u32 1)).set (i * 5 + 1) (.int .i32 0) = Rw.row kindF (fs.set i (some s))
 | [],i,h => by simp at h
 | x :: fs,0,h => by
   obtain rfl : x = none:=by simpa using h
   rw [List.set_cons_zero,Rw.row_cons,Rw.row_cons];rfl
 | x :: fs,i + 1,h => by
   have h1:=row_fan s fs i (by simpa using h)
   have el : (kindF.cells x).length = 5:=kindF.len x
   have e : ∀ (l : List Value) (j : Nat) (u : Value),(kindF.cells x ++ l).set ((i + 1) * 5 + j) u = kindF.cells x ++ l.set (i * 5 + j) u:=fun l j u => by
    rw [List.set_append_right (h:=by rw [el];omega),el,show (i + 1) * 5 + j - 5 = i * 5 + j by omega]
   have e0 : ∀ (l : List Value) (u : Value),(kindF.cells x ++ l).set ((i + 1) * 5) u = kindF.cells x ++ l.set (i * 5) u:=fun l u => e l 0 u
   rw [List.set_cons_succ,Rw.row_cons,Rw.row_cons,e,e,e,e0,e,h1]
theorem fan_at {w : World} {F : Nat} {fs : List (Option Sl)} {i : Nat} {x : Option Sl} (h : Row w F 195 (Rw.row kindF fs)) (hx : fs[i]? = some x) (j : Nat) (u : Value) (hu : (fanC x)[j]? = some u) : w.cell? ⟨F,i * 5 + j,none⟩ = some u:=by
 rw [h.cell];exact Rw.row_at (κ:=kindF) fs i x hx j u hu
theorem RowsAt.get {w : World} {base : Nat} {g : List Nd} {k n : Nat} {s : Sl} (h : RowsAt w base g k s) (hn : n < g.length) : ∃ B A l c,s = ⟨some ⟨B,0,none⟩,g.length,g.length⟩ ∧ B < w.heap.size ∧ (∀ w',Below w.heap.size w w' → w'.cell? ⟨B,n,none⟩ = some (.slice A l.length c)) ∧ ∀ w',Below w.heap.size w w' → LeastR g k n w' (.slice A l.length c) l:=by
 obtain ⟨B,T,D,vs,e,ht,hr⟩:=h
 obtain ⟨l,hl⟩ : ∃ l,T[n]? = some l:=⟨_,List.getElem?_eq_getElem (by rw [hr.len];exact hn)⟩
 obtain ⟨⟨sA,sn,sc⟩,hs,hsn,ho,hc⟩:=ht.get hl
 simp only at hsn
 subst hsn
 obtain ⟨A,c,e2,hT,h1,h2,h3,_⟩:=Rw.Ts.of_own (κ:=kindS) (ts:=l) ho
 cases e2
 exact ⟨B,sA,l,sc,e,ht.row.lt,fun w' hb => (hb.cell (p:=⟨B,n,none⟩) ht.row.lt).trans hc,fun w' hb => ⟨sA,sc,T,D,rfl,hT.below hb,h1,h2,h3,hr,hl⟩⟩
theorem ptr_no (x y : Operand) (b o : Nat) : ∀ w : World,(do eqGuard .eql 30 x y (.pointer (some ⟨b,o,none⟩)) (.pointer none);binOp .eql 30 (.pointer (some ⟨b,o,none⟩)) (.pointer none) : Sem Value).run Tryz.prog w = .ok (.bool false) w:=fun w => by go_simp
theorem below_cell {w2 : World} {b o : Nat} {v : Value} (hc : w2.cell? ⟨b,o,none⟩ = some v) : ∀ w',Below w2.heap.size w2 w' → w'.cell? ⟨b,o,none⟩ = some v:=fun w' hb => (hb.cell (p:=⟨b,o,none⟩) (World.block_lt_of_cell? w2 _ hc)).trans hc
theorem load_pp {w2 : World} {b o : Nat} {q : Option Addr} (hc : w2.cell? ⟨b,o,none⟩ = some (.pointer q)) : ∀ w',Below w2.heap.size w2 w' → (Instr.loadAt 30 (.pointer (some ⟨b,o,none⟩))).run Tryz.prog w' = .ok (.pointer q) w':=fun w' hb => by
 have h:=below_cell hc w' hb
 go_simp
theorem load_gg {w2 : World} {b o n c : Nat} {A : Option Addr} (hc : w2.cell? ⟨b,o,none⟩ = some (.slice A n c)) : ∀ w',Below w2.heap.size w2 w' → (Instr.loadAt 23 (.pointer (some ⟨b,o,none⟩))).run Tryz.prog w' = .ok (.slice A n c) w':=fun w' hb => by
 have h:=below_cell hc w' hb
 go_simp
theorem load_ii {w2 : World} {b o : Nat} {z : Int} (hc : w2.cell? ⟨b,o,none⟩ = some (.int .i64 z)) : ∀ w',Below w2.heap.size w2 w' → (Instr.loadAt 3 (.pointer (some ⟨b,o,none⟩))).run Tryz.prog w' = .ok (.int .i64 z) w':=fun w' hb => by
 have h:=below_cell hc w' hb
 go_simp
theorem isNode_below {A : Option Addr} {n c : Nat} {i : Int} {B : Bool} (h : decide (0 ≤ i ∧ i < (n : Int)) = B) (wz : World) : ∀ w,Below wz.heap.size wz w → Calls Tryz.prog 140 #[.slice A n c,.int .i64 i] w fun e w' => e = .returned (.bool B) ∧ Below w.heap.size w w':=fun w _ => (isNode_any A n c i w).mono fun e w' hh => ⟨by rw [← h];exact hh.1,by rw [← hh.2];exact Below.refl _ _⟩
def AskA (p h0 h1 n0 c : Nat) (A : Option Addr) (f t : Int) (i : Nat) (v : Value) : Prop:=match i with
 | 0 => v = .pointer (some ⟨p,0,none⟩)
 | 1 => v = .bool false
 | 2 => v = .bool false
 | 3 => v = .pointer (some ⟨p,0,none⟩)
 | 4 => v = .pointer (some ⟨p,0,none⟩)
 | 5 => v = .pointer (some ⟨p,0,none⟩)
 | 6 => v = .slice A n0 c
 | 7 => v = .int .i64 f
 | 8 => v = .bool true
 | 9 => v = .bool false
 | 10 => v = .bool false
 | 11 => v = .bool false
 | 12 => v = .pointer (some ⟨p,0,none⟩)
 | 13 => v = .pointer (some ⟨p,0,none⟩)
 | 14 => v = .pointer (some ⟨p,0,none⟩)
 | 15 => v = .slice A n0 c
 | 16 => v = .int .i64 t
 | 17 => v = .bool false
 | 18 => v = .bool true
 | _ => v = .bool true
def AskB (p h0 h1 n0 c : Nat) (A : Option Addr) (f t : Int) (i : Nat) (v : Value) : Prop:=match i with
 | 0 => v = .pointer (some ⟨p,0,none⟩)
 | 1 => v = .bool false
 | 2 => v = .bool false
 | 3 => v = .pointer (some ⟨p,0,none⟩)
 | 4 => v = .pointer (some ⟨p,0,none⟩)
 | 5 => v = .pointer (some ⟨p,0,none⟩)
 | 6 => v = .slice A n0 c
 | 7 => v = .int .i64 f
 | 8 => v = .bool false
 | 9 => v = .bool true
 | 10 => v = .bool true
 | 11 => v = .bool true
 | 12 => v = undef
 | 13 => v = undef
 | 14 => v = undef
 | 15 => v = undef
 | 16 => v = undef
 | 17 => v = undef
 | 18 => v = undef
 | _ => v = .bool true
def AskC (p h0 h1 n0 c : Nat) (A : Option Addr) (f t : Int) (i : Nat) (v : Value) : Prop:=match i with
 | 0 => v = .pointer (some ⟨p,0,none⟩)
 | 1 => v = .bool false
 | 2 => v = .bool false
 | 3 => v = .pointer (some ⟨p,0,none⟩)
 | 4 => v = .pointer (some ⟨p,0,none⟩)
 | 5 => v = .pointer (some ⟨p,0,none⟩)
 | 6 => v = .slice A n0 c
 | 7 => v = .int .i64 f
 | 8 => v = .bool true
 | 9 => v = .bool false
 | 10 => v = .bool false
 | 11 => v = .bool false
 | 12 => v = .pointer (some ⟨p,0,none⟩)
 | 13 => v = .pointer (some ⟨p,0,none⟩)
 | 14 => v = .pointer (some ⟨p,0,none⟩)
 | 15 => v = .slice A n0 c
 | 16 => v = .int .i64 t
 | 17 => v = .bool true
 | 18 => v = .bool false
 | _ => v = .bool false
set_option maxHeartbeats 8000000 in
theorem least_offA (p n0 c base : Nat) (A : Option Addr) (f t : Int) (w : World) (hc : w.cell? ⟨p,0,none⟩ = some (.slice A n0 c)) (hf : decide (0 ≤ f ∧ f < (n0 : Int)) = true) (ht : decide (0 ≤ t ∧ t < (n0 : Int)) = false) :
 Calls Tryz.prog 84 #[.pointer (some ⟨p,0,none⟩),.int .i64 f,.int .i64 t] w fun e w' => e = .returned (.slice none 0 0) ∧ Below w.heap.size w w':=by
 have hw0 : (((w.alloc (.cells #[.pointer (some ⟨p,0,none⟩)] 30)).alloc (.cells #[.int .i64 f] 3))).cell? ⟨w.heap.size,0,none⟩ = some (.pointer (some ⟨p,0,none⟩)):=((Row.made w 30 [.pointer (some ⟨p,0,none⟩)]).alloc _).cell 0
 have hw1 : (((w.alloc (.cells #[.pointer (some ⟨p,0,none⟩)] 30)).alloc (.cells #[.int .i64 f] 3))).cell? ⟨w.heap.size + 1,0,none⟩ = some (.int .i64 f):=(made2 w _ 3 [.int .i64 f]).cell 0
 have hbw : Below w.heap.size w ((w.alloc (.cells #[.pointer (some ⟨p,0,none⟩)] 30)).alloc (.cells #[.int .i64 f] 3)):=((Below.refl _ _).alloc (Nat.le_refl _) _).alloc (by simp) _
 have hgc:=below_cell hc _ hbw
 have HW0:=Hd hw0;have HW1:=Hd hw1;have HBW:=Hd hbw;have HGC:=Hd hgc;clear hw0 hw1 hbw hgc hc
 go_enter Tryz.func84,Tryz.ntmps84
 go_wp2_with fail
 generalize (w.alloc (.cells #[.pointer (some ⟨p,0,none⟩)] 30)).alloc (.cells #[.int .i64 f] 3) = w2 at *
 obtain ⟨h0,hh0⟩ : ∃ h0,w.heap.size = h0:=⟨_,rfl⟩
 obtain ⟨h1,hh1⟩ : ∃ h1,w.heap.size + 1 = h1:=⟨_,rfl⟩
 rw [hh1] at HW1 ⊢
 rw [hh0] at HW0 ⊢
 have HH:=Hd (And.intro hh0 hh1);clear hh0 hh1
 have LP:=Hd (load_pp HW0.out);have LG:=Hd (load_gg HGC.out);have LF:=Hd (load_ii HW1.out)
 have H1:=Hd (isNode_below (A:=A) (c:=c) hf w2);have H2:=Hd (isNode_below (A:=A) (c:=c) ht w2);clear hf ht
 refine Free.wp_guarded (by kernel_rfl) (by kernel_rfl) (fun w' => Below w2.heap.size w2 w') (AskA p h0 h1 n0 c A f t) ((Below.refl _ _).drew) ?_ ?_
 · intro i o hi a wa hold hpre hF
   match i with
   | 0 =>
     cases hi
     exact Free.c_all rfl (Free.g_load _ _ rfl ((hold 3 (by decide)).trans rfl) (LP.out wa hF) ⟨rfl,hF⟩)
   | 1 =>
     cases hi
     have h2 : a.eval (.tmp 8) = .pointer (some ⟨p,0,none⟩):=hpre 0 _ _ (by kernel_rfl) rfl rfl
     exact Free.c_all rfl (Free.g_bin _ _ _ _ _ rfl h2 rfl (ptr_no _ _ p 0 wa) ⟨rfl,hF⟩)
   | 2 =>
     cases hi
     have h0 : a.eval (.tmp 9) = .bool false:=hpre 1 _ _ (by kernel_rfl) rfl rfl
     exact Free.c_all rfl (Free.g_move _ rfl ⟨h0,hF⟩)
   | 3 =>
     cases hi
     have hg : a.eval (.tmp 10) = .bool false:=hpre 2 _ _ (by kernel_rfl) rfl rfl
     exact Free.c_yes rfl rfl rfl hg (Free.g_load _ _ rfl ((hold 3 (by decide)).trans rfl) (LP.out wa hF) ⟨rfl,hF⟩)
   | 4 =>
     cases hi
     have hg : a.eval (.tmp 10) = .bool false:=hpre 2 _ _ (by kernel_rfl) rfl rfl
     have h0 : a.eval (.tmp 11) = .pointer (some ⟨p,0,none⟩):=hpre 3 _ _ (by kernel_rfl) rfl rfl
     refine Free.c_yes rfl rfl rfl hg ?_
     unfold execOp
     simp only [h0]
     go_simp
     exact ⟨rfl,hF⟩
   | 5 =>
     cases hi
     have hg : a.eval (.tmp 10) = .bool false:=hpre 2 _ _ (by kernel_rfl) rfl rfl
     have h0 : a.eval (.tmp 12) = .pointer (some ⟨p,0,none⟩):=hpre 4 _ _ (by kernel_rfl) rfl rfl
     exact Free.c_yes rfl rfl rfl hg (Free.g_field (v:=.pointer (some ⟨p,0,none⟩)) _ _ _ rfl h0 (by go_simp) ⟨rfl,hF⟩)
   | 6 =>
     cases hi
     have hg : a.eval (.tmp 10) = .bool false:=hpre 2 _ _ (by kernel_rfl) rfl rfl
     have h0 : a.eval (.tmp 13) = .pointer (some ⟨p,0,none⟩):=hpre 5 _ _ (by kernel_rfl) rfl rfl
     exact Free.c_yes rfl rfl rfl hg (Free.g_load _ _ rfl h0 (LG.out wa hF) ⟨rfl,hF⟩)
   | 7 =>
     cases hi
     have hg : a.eval (.tmp 10) = .bool false:=hpre 2 _ _ (by kernel_rfl) rfl rfl
     exact Free.c_yes rfl rfl rfl hg (Free.g_load _ _ rfl ((hold 4 (by decide)).trans rfl) (LF.out wa hF) ⟨rfl,hF⟩)
   | 8 =>
     cases hi
     have hg : a.eval (.tmp 10) = .bool false:=hpre 2 _ _ (by kernel_rfl) rfl rfl
     have h0 : a.eval (.tmp 14) = .slice A n0 c:=hpre 6 _ _ (by kernel_rfl) rfl rfl
     have h1 : a.eval (.tmp 15) = .int .i64 f:=hpre 7 _ _ (by kernel_rfl) rfl rfl
     refine Free.c_yes rfl rfl rfl hg (Free.g_call _ _ rfl Tryz.func140 (by kernel_rfl) rfl [.slice A n0 c,.int .i64 f] (by show [a.eval (.tmp 14),a.eval (.tmp 15)] = _;rw [h0,h1]) ?_)
     exact (H1.out wa hF).mono fun e w2 ⟨he,hb2⟩ => ⟨_,he,rfl,hF.trans (hb2.mono hF.size)⟩
   | 9 =>
     cases hi
     have hg : a.eval (.tmp 10) = .bool false:=hpre 2 _ _ (by kernel_rfl) rfl rfl
     have h0 : a.eval (.tmp 16) = .bool true:=hpre 8 _ _ (by kernel_rfl) rfl rfl
     exact Free.c_yes rfl rfl rfl hg (g_not _ _ rfl h0 ⟨rfl,hF⟩)
   | 10 =>
     cases hi
     have h1 : a.eval (.tmp 10) = .bool false:=hpre 2 _ _ (by kernel_rfl) rfl rfl
     have h3 : a.eval (.tmp 17) = .bool false:=hpre 9 _ _ (by kernel_rfl) rfl rfl
     exact Free.c_all rfl (Free.g_pick _ _ _ rfl h1 rfl h3 ⟨rfl,hF⟩)
   | 11 =>
     cases hi
     have h0 : a.eval (.tmp 18) = .bool false:=hpre 10 _ _ (by kernel_rfl) rfl rfl
     exact Free.c_all rfl (Free.g_move _ rfl ⟨h0,hF⟩)
   | 12 =>
     cases hi
     have hg : a.eval (.tmp 19) = .bool false:=hpre 11 _ _ (by kernel_rfl) rfl rfl
     exact Free.c_yes rfl rfl rfl hg (Free.g_load _ _ rfl ((hold 3 (by decide)).trans rfl) (LP.out wa hF) ⟨rfl,hF⟩)
   | 13 =>
     cases hi
     have hg : a.eval (.tmp 19) = .bool false:=hpre 11 _ _ (by kernel_rfl) rfl rfl
     have h0 : a.eval (.tmp 20) = .pointer (some ⟨p,0,none⟩):=hpre 12 _ _ (by kernel_rfl) rfl rfl
     refine Free.c_yes rfl rfl rfl hg ?_
     unfold execOp
     simp only [h0]
     go_simp
     exact ⟨rfl,hF⟩
   | 14 =>
     cases hi
     have hg : a.eval (.tmp 19) = .bool false:=hpre 11 _ _ (by kernel_rfl) rfl rfl
     have h0 : a.eval (.tmp 21) = .pointer (some ⟨p,0,none⟩):=hpre 13 _ _ (by kernel_rfl) rfl rfl
     exact Free.c_yes rfl rfl rfl hg (Free.g_field (v:=.pointer (some ⟨p,0,none⟩)) _ _ _ rfl h0 (by go_simp) ⟨rfl,hF⟩)
   | 15 =>
     cases hi
     have hg : a.eval (.tmp 19) = .bool false:=hpre 11 _ _ (by kernel_rfl) rfl rfl
     have h0 : a.eval (.tmp 22) = .pointer (some ⟨p,0,none⟩):=hpre 14 _ _ (by kernel_rfl) rfl rfl
     exact Free.c_yes rfl rfl rfl hg (Free.g_load _ _ rfl h0 (LG.out wa hF) ⟨rfl,hF⟩)
   | 16 =>
     cases hi
     have hg : a.eval (.tmp 19) = .bool false:=hpre 11 _ _ (by kernel_rfl) rfl rfl
     exact Free.c_yes rfl rfl rfl hg (Free.g_move _ rfl ⟨((hold 2 (by decide)).trans rfl),hF⟩)
   | 17 =>
     cases hi
     have hg : a.eval (.tmp 19) = .bool false:=hpre 11 _ _ (by kernel_rfl) rfl rfl
     have h0 : a.eval (.tmp 23) = .slice A n0 c:=hpre 15 _ _ (by kernel_rfl) rfl rfl
     have h1 : a.eval (.tmp 24) = .int .i64 t:=hpre 16 _ _ (by kernel_rfl) rfl rfl
     refine Free.c_yes rfl rfl rfl hg (Free.g_call _ _ rfl Tryz.func140 (by kernel_rfl) rfl [.slice A n0 c,.int .i64 t] (by show [a.eval (.tmp 23),a.eval (.tmp 24)] = _;rw [h0,h1]) ?_)
     exact (H2.out wa hF).mono fun e w2 ⟨he,hb2⟩ => ⟨_,he,rfl,hF.trans (hb2.mono hF.size)⟩
   | 18 =>
     cases hi
     have hg : a.eval (.tmp 19) = .bool false:=hpre 11 _ _ (by kernel_rfl) rfl rfl
     have h0 : a.eval (.tmp 25) = .bool false:=hpre 17 _ _ (by kernel_rfl) rfl rfl
     exact Free.c_yes rfl rfl rfl hg (g_not _ _ rfl h0 ⟨rfl,hF⟩)
   | 19 =>
     cases hi
     have h1 : a.eval (.tmp 19) = .bool false:=hpre 11 _ _ (by kernel_rfl) rfl rfl
     have h3 : a.eval (.tmp 26) = .bool true:=hpre 18 _ _ (by kernel_rfl) rfl rfl
     exact Free.c_all rfl (Free.g_pick _ _ _ rfl h1 rfl h3 ⟨rfl,hF⟩)
   | _ + 20 => cases hi
 · intro vs we hv hF
   have hlast : vs 19 = .bool true:=hv 19 (by simp) (by rintro o ⟨⟩;rfl)
   have HWE:=Hd hF;clear hF hv
   simp only [Free.puts,Nat.reduceAdd,hlast]
   generalize vs 0 = y0
   generalize vs 1 = y1
   generalize vs 2 = y2
   generalize vs 3 = y3
   generalize vs 4 = y4
   generalize vs 5 = y5
   generalize vs 6 = y6
   generalize vs 7 = y7
   generalize vs 8 = y8
   generalize vs 9 = y9
   generalize vs 10 = y10
   generalize vs 11 = y11
   generalize vs 12 = y12
   generalize vs 13 = y13
   generalize vs 14 = y14
   generalize vs 15 = y15
   generalize vs 16 = y16
   generalize vs 17 = y17
   generalize vs 18 = y18
   go_simp
   go_wp2_with fail
   go_ret
   exact ⟨rfl,HBW.out.trans (HWE.out.mono HBW.out.size)⟩
set_option maxHeartbeats 8000000 in
theorem least_offB (p n0 c base : Nat) (A : Option Addr) (f t : Int) (w : World) (hc : w.cell? ⟨p,0,none⟩ = some (.slice A n0 c)) (hf : decide (0 ≤ f ∧ f < (n0 : Int)) = false) :
 Calls Tryz.prog 84 #[.pointer (some ⟨p,0,none⟩),.int .i64 f,.int .i64 t] w fun e w' => e = .returned (.slice none 0 0) ∧ Below w.heap.size w w':=by
 have hw0 : (((w.alloc (.cells #[.pointer (some ⟨p,0,none⟩)] 30)).alloc (.cells #[.int .i64 f] 3))).cell? ⟨w.heap.size,0,none⟩ = some (.pointer (some ⟨p,0,none⟩)):=((Row.made w 30 [.pointer (some ⟨p,0,none⟩)]).alloc _).cell 0
 have hw1 : (((w.alloc (.cells #[.pointer (some ⟨p,0,none⟩)] 30)).alloc (.cells #[.int .i64 f] 3))).cell? ⟨w.heap.size + 1,0,none⟩ = some (.int .i64 f):=(made2 w _ 3 [.int .i64 f]).cell 0
 have hbw : Below w.heap.size w ((w.alloc (.cells #[.pointer (some ⟨p,0,none⟩)] 30)).alloc (.cells #[.int .i64 f] 3)):=((Below.refl _ _).alloc (Nat.le_refl _) _).alloc (by simp) _
 have hgc:=below_cell hc _ hbw
 have HW0:=Hd hw0;have HW1:=Hd hw1;have HBW:=Hd hbw;have HGC:=Hd hgc;clear hw0 hw1 hbw hgc hc
 go_enter Tryz.func84,Tryz.ntmps84
 go_wp2_with fail
 generalize (w.alloc (.cells #[.pointer (some ⟨p,0,none⟩)] 30)).alloc (.cells #[.int .i64 f] 3) = w2 at *
 obtain ⟨h0,hh0⟩ : ∃ h0,w.heap.size = h0:=⟨_,rfl⟩
 obtain ⟨h1,hh1⟩ : ∃ h1,w.heap.size + 1 = h1:=⟨_,rfl⟩
 rw [hh1] at HW1 ⊢
 rw [hh0] at HW0 ⊢
 have HH:=Hd (And.intro hh0 hh1);clear hh0 hh1
 have LP:=Hd (load_pp HW0.out);have LG:=Hd (load_gg HGC.out);have LF:=Hd (load_ii HW1.out)
 have H1:=Hd (isNode_below (A:=A) (c:=c) hf w2);clear hf
 refine Free.wp_guarded (by kernel_rfl) (by kernel_rfl) (fun w' => Below w2.heap.size w2 w') (AskB p h0 h1 n0 c A f t) ((Below.refl _ _).drew) ?_ ?_
 · intro i o hi a wa hold hpre hF
   match i with
   | 0 =>
     cases hi
     exact Free.c_all rfl (Free.g_load _ _ rfl ((hold 3 (by decide)).trans rfl) (LP.out wa hF) ⟨rfl,hF⟩)
   | 1 =>
     cases hi
     have h2 : a.eval (.tmp 8) = .pointer (some ⟨p,0,none⟩):=hpre 0 _ _ (by kernel_rfl) rfl rfl
     exact Free.c_all rfl (Free.g_bin _ _ _ _ _ rfl h2 rfl (ptr_no _ _ p 0 wa) ⟨rfl,hF⟩)
   | 2 =>
     cases hi
     have h0 : a.eval (.tmp 9) = .bool false:=hpre 1 _ _ (by kernel_rfl) rfl rfl
     exact Free.c_all rfl (Free.g_move _ rfl ⟨h0,hF⟩)
   | 3 =>
     cases hi
     have hg : a.eval (.tmp 10) = .bool false:=hpre 2 _ _ (by kernel_rfl) rfl rfl
     exact Free.c_yes rfl rfl rfl hg (Free.g_load _ _ rfl ((hold 3 (by decide)).trans rfl) (LP.out wa hF) ⟨rfl,hF⟩)
   | 4 =>
     cases hi
     have hg : a.eval (.tmp 10) = .bool false:=hpre 2 _ _ (by kernel_rfl) rfl rfl
     have h0 : a.eval (.tmp 11) = .pointer (some ⟨p,0,none⟩):=hpre 3 _ _ (by kernel_rfl) rfl rfl
     refine Free.c_yes rfl rfl rfl hg ?_
     unfold execOp
     simp only [h0]
     go_simp
     exact ⟨rfl,hF⟩
   | 5 =>
     cases hi
     have hg : a.eval (.tmp 10) = .bool false:=hpre 2 _ _ (by kernel_rfl) rfl rfl
     have h0 : a.eval (.tmp 12) = .pointer (some ⟨p,0,none⟩):=hpre 4 _ _ (by kernel_rfl) rfl rfl
     exact Free.c_yes rfl rfl rfl hg (Free.g_field (v:=.pointer (some ⟨p,0,none⟩)) _ _ _ rfl h0 (by go_simp) ⟨rfl,hF⟩)
   | 6 =>
     cases hi
     have hg : a.eval (.tmp 10) = .bool false:=hpre 2 _ _ (by kernel_rfl) rfl rfl
     have h0 : a.eval (.tmp 13) = .pointer (some ⟨p,0,none⟩):=hpre 5 _ _ (by kernel_rfl) rfl rfl
     exact Free.c_yes rfl rfl rfl hg (Free.g_load _ _ rfl h0 (LG.out wa hF) ⟨rfl,hF⟩)
   | 7 =>
     cases hi
     have hg : a.eval (.tmp 10) = .bool false:=hpre 2 _ _ (by kernel_rfl) rfl rfl
     exact Free.c_yes rfl rfl rfl hg (Free.g_load _ _ rfl ((hold 4 (by decide)).trans rfl) (LF.out wa hF) ⟨rfl,hF⟩)
   | 8 =>
     cases hi
     have hg : a.eval (.tmp 10) = .bool false:=hpre 2 _ _ (by kernel_rfl) rfl rfl
     have h0 : a.eval (.tmp 14) = .slice A n0 c:=hpre 6 _ _ (by kernel_rfl) rfl rfl
     have h1 : a.eval (.tmp 15) = .int .i64 f:=hpre 7 _ _ (by kernel_rfl) rfl rfl
     refine Free.c_yes rfl rfl rfl hg (Free.g_call _ _ rfl Tryz.func140 (by kernel_rfl) rfl [.slice A n0 c,.int .i64 f] (by show [a.eval (.tmp 14),a.eval (.tmp 15)] = _;rw [h0,h1]) ?_)
     exact (H1.out wa hF).mono fun e w2 ⟨he,hb2⟩ => ⟨_,he,rfl,hF.trans (hb2.mono hF.size)⟩
   | 9 =>
     cases hi
     have hg : a.eval (.tmp 10) = .bool false:=hpre 2 _ _ (by kernel_rfl) rfl rfl
     have h0 : a.eval (.tmp 16) = .bool false:=hpre 8 _ _ (by kernel_rfl) rfl rfl
     exact Free.c_yes rfl rfl rfl hg (g_not _ _ rfl h0 ⟨rfl,hF⟩)
   | 10 =>
     cases hi
     have h1 : a.eval (.tmp 10) = .bool false:=hpre 2 _ _ (by kernel_rfl) rfl rfl
     have h3 : a.eval (.tmp 17) = .bool true:=hpre 9 _ _ (by kernel_rfl) rfl rfl
     exact Free.c_all rfl (Free.g_pick _ _ _ rfl h1 rfl h3 ⟨rfl,hF⟩)
   | 11 =>
     cases hi
     have h0 : a.eval (.tmp 18) = .bool true:=hpre 10 _ _ (by kernel_rfl) rfl rfl
     exact Free.c_all rfl (Free.g_move _ rfl ⟨h0,hF⟩)
   | 12 =>
     cases hi
     have hg : a.eval (.tmp 19) = .bool true:=hpre 11 _ _ (by kernel_rfl) rfl rfl
     exact Free.c_no rfl rfl rfl hg ⟨rfl,hF⟩
   | 13 =>
     cases hi
     have hg : a.eval (.tmp 19) = .bool true:=hpre 11 _ _ (by kernel_rfl) rfl rfl
     exact Free.c_no rfl rfl rfl hg ⟨rfl,hF⟩
   | 14 =>
     cases hi
     have hg : a.eval (.tmp 19) = .bool true:=hpre 11 _ _ (by kernel_rfl) rfl rfl
     exact Free.c_no rfl rfl rfl hg ⟨rfl,hF⟩
   | 15 =>
     cases hi
     have hg : a.eval (.tmp 19) = .bool true:=hpre 11 _ _ (by kernel_rfl) rfl rfl
     exact Free.c_no rfl rfl rfl hg ⟨rfl,hF⟩
   | 16 =>
     cases hi
     have hg : a.eval (.tmp 19) = .bool true:=hpre 11 _ _ (by kernel_rfl) rfl rfl
     exact Free.c_no rfl rfl rfl hg ⟨rfl,hF⟩
   | 17 =>
     cases hi
     have hg : a.eval (.tmp 19) = .bool true:=hpre 11 _ _ (by kernel_rfl) rfl rfl
     exact Free.c_no rfl rfl rfl hg ⟨rfl,hF⟩
   | 18 =>
     cases hi
     have hg : a.eval (.tmp 19) = .bool true:=hpre 11 _ _ (by kernel_rfl) rfl rfl
     exact Free.c_no rfl rfl rfl hg ⟨rfl,hF⟩
   | 19 =>
     cases hi
     have h1 : a.eval (.tmp 19) = .bool true:=hpre 11 _ _ (by kernel_rfl) rfl rfl
     have h3 : a.eval (.tmp 26) = undef:=hpre 18 _ _ (by kernel_rfl) rfl rfl
     exact Free.c_all rfl (Free.g_pick _ _ _ rfl h1 rfl h3 ⟨rfl,hF⟩)
   | _ + 20 => cases hi
 · intro vs we hv hF
   have hlast : vs 19 = .bool true:=hv 19 (by simp) (by rintro o ⟨⟩;rfl)
   have HWE:=Hd hF;clear hF hv
   simp only [Free.puts,Nat.reduceAdd,hlast]
   generalize vs 0 = y0
   generalize vs 1 = y1
   generalize vs 2 = y2
   generalize vs 3 = y3
   generalize vs 4 = y4
   generalize vs 5 = y5
   generalize vs 6 = y6
   generalize vs 7 = y7
   generalize vs 8 = y8
   generalize vs 9 = y9
   generalize vs 10 = y10
   generalize vs 11 = y11
   generalize vs 12 = y12
   generalize vs 13 = y13
   generalize vs 14 = y14
   generalize vs 15 = y15
   generalize vs 16 = y16
   generalize vs 17 = y17
   generalize vs 18 = y18
   go_simp
   go_wp2_with fail
   go_ret
   exact ⟨rfl,HBW.out.trans (HWE.out.mono HBW.out.size)⟩
theorem least_known (p F c : Nat) (A : Option Addr) (lg : List Gn) (fs : List (Option Sl)) (base i n : Nat) (s : Sl) (w : World) (hP : Pth w base p F A c lg fs) (hi : i < lg.length) (hn : n < lg.length) (hs : fs[i]? = some (some s)) (hl : lg.length ≤ 14) :
 Calls Tryz.prog 84 #[.pointer (some ⟨p,0,none⟩),.int .i64 (i : Nat),.int .i64 (n : Nat)] w fun e w' => (∃ v l,e = .returned v ∧ LeastR (nds lg) i n w' v l) ∧ Below w.heap.size w w':=by
 obtain ⟨f,hfi⟩ : ∃ f : Int,((i : Nat) : Int) = f:=⟨_,rfl⟩
 obtain ⟨t,htn⟩ : ∃ t : Int,((n : Nat) : Int) = t:=⟨_,rfl⟩
 obtain ⟨n0,hn0⟩ : ∃ n0,lg.length = n0:=⟨_,rfl⟩
 have hf : decide (0 ≤ f ∧ f < (n0 : Int)) = true:=decide_eq_true (by omega)
 have ht : decide (0 ≤ t ∧ t < (n0 : Int)) = true:=decide_eq_true (by omega)
 have hc : w.cell? ⟨p,0,none⟩ = some (.slice A n0 c):=by rw [← hn0];exact hP.row.cell 0
 have hc1 : w.cell? ⟨p,1,none⟩ = some (.slice (some ⟨F,0,none⟩) n0 n0):=by rw [← hn0];exact hP.row.cell 1
 have hfz : f < (n0 : Int):=by omega
 have htz : t < (n0 : Int):=by omega
 have hf0 : 0 ≤ f:=by omega
 have ht0 : 0 ≤ t:=by omega
 have f3:=fan_at hP.fans hs 3 _ rfl
 have f4:=fan_at hP.fans hs 4 _ rfl
 obtain ⟨B,rA,l,rc,hse,hBl,hcell,hres⟩:=RowsAt.get (hP.known i s hs) (n:=n) (by rw [nds_len];exact hn)
 have hnl : (nds lg).length = n0:=by rw [nds_len];exact hn0
 rw [hse] at f4
 rw [hnl] at f4
 have hit : f.toNat = i:=by omega
 have hnt : t.toNat = n:=by omega
 have HC1:=Hd hc1;have HF3:=Hd f3;have HF4:=Hd f4;have HCELL:=Hd hcell;have HRES:=Hd hres;have HP:=Hd hP
 rw [hfi,htn]
 clear hc1 f3 f4 hcell hres hP hs hse hnl
 have hw0 : (((w.alloc (.cells #[.pointer (some ⟨p,0,none⟩)] 30)).alloc (.cells #[.int .i64 f] 3))).cell? ⟨w.heap.size,0,none⟩ = some (.pointer (some ⟨p,0,none⟩)):=((Row.made w 30 [.pointer (some ⟨p,0,none⟩)]).alloc _).cell 0
 have hw1 : (((w.alloc (.cells #[.pointer (some ⟨p,0,none⟩)] 30)).alloc (.cells #[.int .i64 f] 3))).cell? ⟨w.heap.size + 1,0,none⟩ = some (.int .i64 f):=(made2 w _ 3 [.int .i64 f]).cell 0
 have hbw : Below w.heap.size w ((w.alloc (.cells #[.pointer (some ⟨p,0,none⟩)] 30)).alloc (.cells #[.int .i64 f] 3)):=((Below.refl _ _).alloc (Nat.le_refl _) _).alloc (by simp) _
 have hgc:=below_cell hc _ hbw
 have HW0:=Hd hw0;have HW1:=Hd hw1;have HBW:=Hd hbw;have HGC:=Hd hgc;clear hw0 hw1 hbw hgc hc
 go_enter Tryz.func84,Tryz.ntmps84
 go_wp2_with fail
 generalize (w.alloc (.cells #[.pointer (some ⟨p,0,none⟩)] 30)).alloc (.cells #[.int .i64 f] 3) = w2 at *
 obtain ⟨h0,hh0⟩ : ∃ h0,w.heap.size = h0:=⟨_,rfl⟩
 obtain ⟨h1,hh1⟩ : ∃ h1,w.heap.size + 1 = h1:=⟨_,rfl⟩
 rw [hh1] at HW1 ⊢
 rw [hh0] at HW0 ⊢
 have HH:=Hd (And.intro hh0 hh1);clear hh0 hh1
 have LP:=Hd (load_pp HW0.out);have LG:=Hd (load_gg HGC.out);have LF:=Hd (load_ii HW1.out)
 have H1:=Hd (isNode_below (A:=A) (c:=c) hf w2);have H2:=Hd (isNode_below (A:=A) (c:=c) ht w2);clear hf ht
 refine Free.wp_guarded (by kernel_rfl) (by kernel_rfl) (fun w' => Below w2.heap.size w2 w') (AskC p h0 h1 n0 c A f t) ((Below.refl _ _).drew) ?_ ?_
 · intro i o hi a wa hold hpre hF
   match i with
   | 0 =>
     cases hi
     exact Free.c_all rfl (Free.g_load _ _ rfl ((hold 3 (by decide)).trans rfl) (LP.out wa hF) ⟨rfl,hF⟩)
   | 1 =>
     cases hi
     have h2 : a.eval (.tmp 8) = .pointer (some ⟨p,0,none⟩):=hpre 0 _ _ (by kernel_rfl) rfl rfl
     exact Free.c_all rfl (Free.g_bin _ _ _ _ _ rfl h2 rfl (ptr_no _ _ p 0 wa) ⟨rfl,hF⟩)
   | 2 =>
     cases hi
     have h0 : a.eval (.tmp 9) = .bool false:=hpre 1 _ _ (by kernel_rfl) rfl rfl
     exact Free.c_all rfl (Free.g_move _ rfl ⟨h0,hF⟩)
   | 3 =>
     cases hi
     have hg : a.eval (.tmp 10) = .bool false:=hpre 2 _ _ (by kernel_rfl) rfl rfl
     exact Free.c_yes rfl rfl rfl hg (Free.g_load _ _ rfl ((hold 3 (by decide)).trans rfl) (LP.out wa hF) ⟨rfl,hF⟩)
   | 4 =>
     cases hi
     have hg : a.eval (.tmp 10) = .bool false:=hpre 2 _ _ (by kernel_rfl) rfl rfl
     have h0 : a.eval (.tmp 11) = .pointer (some ⟨p,0,none⟩):=hpre 3 _ _ (by kernel_rfl) rfl rfl
     refine Free.c_yes rfl rfl rfl hg ?_
     unfold execOp
     simp only [h0]
     go_simp
     exact ⟨rfl,hF⟩
   | 5 =>
     cases hi
     have hg : a.eval (.tmp 10) = .bool false:=hpre 2 _ _ (by kernel_rfl) rfl rfl
     have h0 : a.eval (.tmp 12) = .pointer (some ⟨p,0,none⟩):=hpre 4 _ _ (by kernel_rfl) rfl rfl
     exact Free.c_yes rfl rfl rfl hg (Free.g_field (v:=.pointer (some ⟨p,0,none⟩)) _ _ _ rfl h0 (by go_simp) ⟨rfl,hF⟩)
   | 6 =>
     cases hi
     have hg : a.eval (.tmp 10) = .bool false:=hpre 2 _ _ (by kernel_rfl) rfl rfl
     have h0 : a.eval (.tmp 13) = .pointer (some ⟨p,0,none⟩):=hpre 5 _ _ (by kernel_rfl) rfl rfl
     exact Free.c_yes rfl rfl rfl hg (Free.g_load _ _ rfl h0 (LG.out wa hF) ⟨rfl,hF⟩)
   | 7 =>
     cases hi
     have hg : a.eval (.tmp 10) = .bool false:=hpre 2 _ _ (by kernel_rfl) rfl rfl
     exact Free.c_yes rfl rfl rfl hg (Free.g_load _ _ rfl ((hold 4 (by decide)).trans rfl) (LF.out wa hF) ⟨rfl,hF⟩)
   | 8 =>
     cases hi
     have hg : a.eval (.tmp 10) = .bool false:=hpre 2 _ _ (by kernel_rfl) rfl rfl
     have h0 : a.eval (.tmp 14) = .slice A n0 c:=hpre 6 _ _ (by kernel_rfl) rfl rfl
     have h1 : a.eval (.tmp 15) = .int .i64 f:=hpre 7 _ _ (by kernel_rfl) rfl rfl
     refine Free.c_yes rfl rfl rfl hg (Free.g_call _ _ rfl Tryz.func140 (by kernel_rfl) rfl [.slice A n0 c,.int .i64 f] (by show [a.eval (.tmp 14),a.eval (.tmp 15)] = _;rw [h0,h1]) ?_)
     exact (H1.out wa hF).mono fun e w2 ⟨he,hb2⟩ => ⟨_,he,rfl,hF.trans (hb2.mono hF.size)⟩
   | 9 =>
     cases hi
     have hg : a.eval (.tmp 10) = .bool false:=hpre 2 _ _ (by kernel_rfl) rfl rfl
     have h0 : a.eval (.tmp 16) = .bool true:=hpre 8 _ _ (by kernel_rfl) rfl rfl
     exact Free.c_yes rfl rfl rfl hg (g_not _ _ rfl h0 ⟨rfl,hF⟩)
   | 10 =>
     cases hi
     have h1 : a.eval (.tmp 10) = .bool false:=hpre 2 _ _ (by kernel_rfl) rfl rfl
     have h3 : a.eval (.tmp 17) = .bool false:=hpre 9 _ _ (by kernel_rfl) rfl rfl
     exact Free.c_all rfl (Free.g_pick _ _ _ rfl h1 rfl h3 ⟨rfl,hF⟩)
   | 11 =>
     cases hi
     have h0 : a.eval (.tmp 18) = .bool false:=hpre 10 _ _ (by kernel_rfl) rfl rfl
     exact Free.c_all rfl (Free.g_move _ rfl ⟨h0,hF⟩)
   | 12 =>
     cases hi
     have hg : a.eval (.tmp 19) = .bool false:=hpre 11 _ _ (by kernel_rfl) rfl rfl
     exact Free.c_yes rfl rfl rfl hg (Free.g_load _ _ rfl ((hold 3 (by decide)).trans rfl) (LP.out wa hF) ⟨rfl,hF⟩)
   | 13 =>
     cases hi
     have hg : a.eval (.tmp 19) = .bool false:=hpre 11 _ _ (by kernel_rfl) rfl rfl
     have h0 : a.eval (.tmp 20) = .pointer (some ⟨p,0,none⟩):=hpre 12 _ _ (by kernel_rfl) rfl rfl
     refine Free.c_yes rfl rfl rfl hg ?_
     unfold execOp
     simp only [h0]
     go_simp
     exact ⟨rfl,hF⟩
   | 14 =>
     cases hi
     have hg : a.eval (.tmp 19) = .bool false:=hpre 11 _ _ (by kernel_rfl) rfl rfl
     have h0 : a.eval (.tmp 21) = .pointer (some ⟨p,0,none⟩):=hpre 13 _ _ (by kernel_rfl) rfl rfl
     exact Free.c_yes rfl rfl rfl hg (Free.g_field (v:=.pointer (some ⟨p,0,none⟩)) _ _ _ rfl h0 (by go_simp) ⟨rfl,hF⟩)
   | 15 =>
     cases hi
     have hg : a.eval (.tmp 19) = .bool false:=hpre 11 _ _ (by kernel_rfl) rfl rfl
     have h0 : a.eval (.tmp 22) = .pointer (some ⟨p,0,none⟩):=hpre 14 _ _ (by kernel_rfl) rfl rfl
     exact Free.c_yes rfl rfl rfl hg (Free.g_load _ _ rfl h0 (LG.out wa hF) ⟨rfl,hF⟩)
   | 16 =>
     cases hi
     have hg : a.eval (.tmp 19) = .bool false:=hpre 11 _ _ (by kernel_rfl) rfl rfl
     exact Free.c_yes rfl rfl rfl hg (Free.g_move _ rfl ⟨((hold 2 (by decide)).trans rfl),hF⟩)
   | 17 =>
     cases hi
     have hg : a.eval (.tmp 19) = .bool false:=hpre 11 _ _ (by kernel_rfl) rfl rfl
     have h0 : a.eval (.tmp 23) = .slice A n0 c:=hpre 15 _ _ (by kernel_rfl) rfl rfl
     have h1 : a.eval (.tmp 24) = .int .i64 t:=hpre 16 _ _ (by kernel_rfl) rfl rfl
     refine Free.c_yes rfl rfl rfl hg (Free.g_call _ _ rfl Tryz.func140 (by kernel_rfl) rfl [.slice A n0 c,.int .i64 t] (by show [a.eval (.tmp 23),a.eval (.tmp 24)] = _;rw [h0,h1]) ?_)
     exact (H2.out wa hF).mono fun e w2 ⟨he,hb2⟩ => ⟨_,he,rfl,hF.trans (hb2.mono hF.size)⟩
   | 18 =>
     cases hi
     have hg : a.eval (.tmp 19) = .bool false:=hpre 11 _ _ (by kernel_rfl) rfl rfl
     have h0 : a.eval (.tmp 25) = .bool true:=hpre 17 _ _ (by kernel_rfl) rfl rfl
     exact Free.c_yes rfl rfl rfl hg (g_not _ _ rfl h0 ⟨rfl,hF⟩)
   | 19 =>
     cases hi
     have h1 : a.eval (.tmp 19) = .bool false:=hpre 11 _ _ (by kernel_rfl) rfl rfl
     have h3 : a.eval (.tmp 26) = .bool false:=hpre 18 _ _ (by kernel_rfl) rfl rfl
     exact Free.c_all rfl (Free.g_pick _ _ _ rfl h1 rfl h3 ⟨rfl,hF⟩)
   | _ + 20 => cases hi
 · intro vs we hv hF
   have hlast : vs 19 = .bool false:=hv 19 (by simp) (by rintro o ⟨⟩;rfl)
   have HWE:=Hd hF;clear hF hv
   simp only [Free.puts,Nat.reduceAdd,hlast]
   generalize vs 0 = y0
   generalize vs 1 = y1
   generalize vs 2 = y2
   generalize vs 3 = y3
   generalize vs 4 = y4
   generalize vs 5 = y5
   generalize vs 6 = y6
   generalize vs 7 = y7
   generalize vs 8 = y8
   generalize vs 9 = y9
   generalize vs 10 = y10
   generalize vs 11 = y11
   generalize vs 12 = y12
   generalize vs 13 = y13
   generalize vs 14 = y14
   generalize vs 15 = y15
   generalize vs 16 = y16
   generalize vs 17 = y17
   generalize vs 18 = y18
   go_simp
   have hbe:=HBW.out.trans (HWE.out.mono HBW.out.size)
   have e0:=below_cell HW0.out _ HWE.out
   have e1:=below_cell HW1.out _ HWE.out
   have e2:=below_cell HC1.out _ hbe
   have hle:=(hbe.size)
   have l0:=World.block_lt_of_cell? _ _ e0;have l1:=World.block_lt_of_cell? _ _ e1;have l2:=World.block_lt_of_cell? _ _ e2
   simp only at l0 l1 l2
   have HBE:=Hd hbe;clear hbe
   go_upto_region 3 with fail
   go_cut [7] from 28 to 33 (fun v wx => ∃ hf,v = .pointer (some ⟨hf,0,none⟩) ∧ Row wx hf 182 [.pointer (some ⟨F,i * 5,none⟩)] ∧ Below we.heap.size we wx)
   case first =>
    go_region
    all_goals
     go_wp2_with fail
     go_meet
     refine ⟨_,rfl,?_,?_⟩
     · rw [← hit];first | exact Row.drew (Row.made _ _ _) | exact Row.made _ _ _
     · exact ((Below.refl _ _).alloc (Nat.le_refl _) _).drew
   case rest =>
    obtain ⟨hf,rfl,hrow,hbw⟩:=hcut
    have hbx:=HBE.out.trans (hbw.mono HBE.out.size)
    have g0:=hrow.cell 0
    simp only [List.getElem?_cons_zero] at g0
    have g3:=below_cell HF3.out _ hbx
    have g4 : wc.cell? ⟨F,i * 5 + 4,none⟩ = some (.slice (some ⟨B,0,none⟩) n0 n0):=below_cell HF4.out _ hbx
    have g5:=HCELL.out _ hbx
    have hfl:=flag_load ⟨F,i * 5 + 3,none⟩ 1 true rfl wc g3
    have HRW:=Hd hrow;have HBX:=Hd hbx;have HFL:=Hd hfl;clear hrow hbw hbx e0 e1 e2 hfl g3
    go_wp2_with fail
    refine HFL.out.mono ?_;rintro e w5 ⟨rfl,rfl⟩
    dsimp only
    go_wp2_with fail
    go_ret
    exact ⟨⟨_,l,rfl,HRES.out _ HBX.out⟩,HBX.out⟩
end

section
section
variable {w w' wz : World} {base base' F : Nat}
theorem row_apart {b b' : Nat} {t t' : TypeId} {l l' : List Value} (h : Row w b t l) (h' : Row w b' t' l') (ht : t ≠ t') : b ≠ b':=by
 rintro rfl
 have:=h.symm.trans h'
 simp only [Option.some.injEq,Obj.cells.injEq] at this
 exact ht this.2.1
theorem own_touchF {K n : Nat} {T : TypeId} {v : Value} {xs l : List Value} (h : w.ownsRow base T K v n xs) (hF : Row w F 195 l) (hT : 195 ≠ T) (ht : Touch (fun b => b = F) w w') : w'.ownsRow base T K v n xs :=
 ownsRow_touch h ht fun k hk e => Rw.own_apart h hF hT (by rw [hk,e])
theorem ttF {B : Nat} {vs : List Sl} {T : List (List Sm)} {l : List Value} (h : TT w base B vs T) (hF : Row w F 195 l) (ht : Touch (fun b => b = F) w w') : TT w' base B vs T :=
 ⟨h.row.touch ht (row_apart h.row hF (by decide)),h.lo,h.len,fun j s l hv hl => own_touchF (h.own j s l hv hl) hF (by decide) ht,h.apart⟩
theorem RowsAt.touchF {g : List Nd} {k : Nat} {s : Sl} {l : List Value} (h : RowsAt w base g k s) (hF : Row w F 195 l) (ht : Touch (fun b => b = F) w w') : RowsAt w' base g k s:=by
 obtain ⟨B,T,D,vs,e,h1,h2⟩:=h
 exact ⟨B,T,D,vs,e,ttF h1 hF ht,h2⟩
theorem RowsAt.lower {g : List Nd} {k : Nat} {s : Sl} (h : RowsAt w base g k s) (hb : base' ≤ base) : RowsAt w base' g k s:=by
 obtain ⟨B,T,D,vs,e,h1,h2⟩:=h
 exact ⟨B,T,D,vs,e,⟨h1.row,Nat.le_trans hb h1.lo,h1.len,fun j s l hv hl => own_base (h1.own j s l hv hl) hb,h1.apart⟩,h2⟩
theorem Pth.fresh {p c i : Nat} {A : Option Addr} {lg : List Gn} {fs : List (Option Sl)} {s : Sl} (h : Pth w base p F A c lg fs) (ht : Touch (fun b => b = F) w w') (hr : Row w' F 195 (Rw.row kindF (fs.set i (some s)))) (hs : RowsAt w' base (nds lg) i s) : Pth w' base p F A c lg (fs.set i (some s)) where
 row:=h.row.touch ht (row_apart h.row h.fans (by decide))
 graph:=⟨own_touchF h.graph.row h.fans (by decide) ht,h.graph.ok,fun x hx => own_touchF (h.graph.ins x hx) h.fans (by decide) ht⟩
 fans:=hr
 len:=by rw [List.length_set];exact h.len
 lo:=h.lo
 known:=fun k s' hk => by
  by_cases hki : k = i
  · subst hki
    rw [List.getElem?_set] at hk
    split at hk
    · split at hk
      · cases hk;exact hs
      · cases hk
    · contradiction
  · rw [List.getElem?_set_ne (by omega)] at hk
    exact (h.known k s' hk).touchF h.fans ht
end
theorem touch_put {F : Nat} {w w' : World} (h : Touch (fun b => b = F) w w') (o : Nat) (u : Value) : Touch (fun b => b = F) w (w'.setCell ⟨F,o,none⟩ u):=Touch.setCell (F:=fun b => b = F) h (p:=⟨F,o,none⟩) (.inl rfl) u
structure DoneD (wz w' : World) (base p F : Nat) (A : Option Addr) (c : Nat) (lg : List Gn) (fs : List (Option Sl)) (i : Nat) (s : Sl) : Prop where
 pth : Pth w' base p F A c lg (fs.set i (some s))
 rows : RowsAt w' base (nds lg) i s
 cell : w'.cell? ⟨F,i * 5 + 4,none⟩ = some s.v
 touch : Touch (fun b => b = F) wz w'
theorem do_fresh (base p F c i h0 h1 hf : Nat) (A : Option Addr) (lg : List Gn) (fs : List (Option Sl)) (w : World) (hP : Pth w base p F A c lg fs) (hi : i < lg.length) (hl : lg.length ≤ 14) (hI : ∀ x ∈ nds lg,x.ins.length ≤ 40) (hFi : Fine (nds lg)) (hs : fs[i]? = some none)
 (c0 : w.cell? ⟨h0,0,none⟩ = some (.pointer (some ⟨p,0,none⟩))) (c1 : w.cell? ⟨h1,0,none⟩ = some (.int .i64 (i : Nat))) (c2 : w.cell? ⟨hf,0,none⟩ = some (.pointer (some ⟨F,i * 5,none⟩))) (n0 : h0 ≠ F) (n1 : h1 ≠ F) (n2 : hf ≠ F) :
 Calls Tryz.prog 142 #[.pointer (some ⟨F,i * 5,none⟩),.func (.func 143) #[] #[.pointer (some ⟨h0,0,none⟩),.pointer (some ⟨h1,0,none⟩),.pointer (some ⟨hf,0,none⟩)]] w fun e w' => e = .returned (.tuple #[]) ∧ ∃ s,DoneD w w' base p F A c lg fs i s:=by
 have hpF : p ≠ F:=row_apart hP.row hP.fans (by decide)
 have ht0 : Touch (fun b => b = F) w (w.setCell ⟨F,i * 5 + 1,none⟩ (.int .i32 1)):=touch_put (Touch.refl _ w) _ _
 have hilen : i * 5 + 4 < (Rw.row kindF fs).length:=by
  rw [Rw.row_len];show i * 5 + 4 < fs.length * 5;rw [hP.len];omega
 have hr0 : Row (w.setCell ⟨F,i * 5 + 1,none⟩ (.int .i32 1)) F 195 ((Rw.row kindF fs).set (i * 5 + 1) (.int .i32 1)):=hP.fans.put _ _
 have hat : ∀ (j : Nat) (u : Value),(fanC none)[j]? = some u → (Rw.row kindF fs)[i * 5 + j]? = some u:=fun j u hu => Rw.row_at (κ:=kindF) fs i none hs j u hu
 have hG : Gr (w.setCell ⟨F,i * 5 + 1,none⟩ (.int .i32 1)) A lg:=by
  have hg2 : OwnG (w.setCell ⟨F,i * 5 + 1,none⟩ (.int .i32 1)) base (.slice A lg.length c) lg:=⟨own_touchF hP.graph.row hP.fans (by decide) ht0,hP.graph.ok,fun x hx => own_touchF (hP.graph.ins x hx) hP.fans (by decide) ht0⟩
  obtain ⟨A',c',e,hgr,_⟩:=hg2.gr
  cases e
  exact hgr
 have hg : w.cell? ⟨p,0,none⟩ = some (.slice A lg.length c):=hP.row.cell 0
 have hbody:=body_any (w.setCell ⟨F,i * 5 + 1,none⟩ (.int .i32 1)) h0 h1 hf p F i A c lg (touch_cell ht0 c0 n0) (touch_cell ht0 c1 n1) (touch_cell ht0 c2 n2) (touch_cell ht0 hg hpF) hG hi hl hI hFi _ hr0
  ⟨_,by rw [List.getElem?_set_ne (by omega)];exact hat 4 _ rfl⟩ (by rw [List.getElem?_set_ne (by omega)];exact hat 3 _ rfl) n2
 have hdo:=do_first F (i * 5) #[.pointer (some ⟨h0,0,none⟩),.pointer (some ⟨h1,0,none⟩),.pointer (some ⟨hf,0,none⟩)] w
  (fun w' => ∃ s,BodyS (w.setCell ⟨F,i * 5 + 1,none⟩ (.int .i32 1)) w' F i (nds lg) ((Rw.row kindF fs).set (i * 5 + 1) (.int .i32 1)) s)
  (by rw [hP.fans.cell];exact hat 0 _ rfl) (by rw [hP.fans.cell];exact hat 1 _ rfl) (hP.fans.free _) (hP.fans.free _)
  (hbody.mono fun e w' hh => ⟨hh.1,by
    obtain ⟨s,hb⟩:=hh.2
    refine ⟨?_,?_,hb.row.free _,hb.row.free _⟩
    · rw [hb.row.cell,List.getElem?_set_ne (by omega),List.getElem?_set_ne (by omega),List.getElem?_set_ne (by omega)];exact hat 0 _ rfl
    · rw [hb.row.cell,List.getElem?_set_ne (by omega),List.getElem?_set_ne (by omega),List.getElem?_set_self (by omega)],hh.2⟩)
 refine hdo.mono ?_
 rintro e w' ⟨he,w1,⟨s,hb⟩,_,rfl⟩
 refine ⟨he,s,?_⟩
 have hrow : Row ((w1.drew.setCell ⟨F,i * 5,none⟩ (.int .u32 1)).setCell ⟨F,i * 5 + 1,none⟩ (.int .i32 0)) F 195 (Rw.row kindF (fs.set i (some s))):=by
  have:=(hb.row.drew.put (i * 5) (.int .u32 1)).put (i * 5 + 1) (.int .i32 0)
  rw [row_fan s fs i hs] at this
  exact this
 have ht1 : Touch (fun b => b = F) w1 ((w1.drew.setCell ⟨F,i * 5,none⟩ (.int .u32 1)).setCell ⟨F,i * 5 + 1,none⟩ (.int .i32 0)):=touch_put (touch_put (Touch.refl _ w1).drew _ _) _ _
 have ht2 : Touch (fun b => b = F) w ((w1.drew.setCell ⟨F,i * 5,none⟩ (.int .u32 1)).setCell ⟨F,i * 5 + 1,none⟩ (.int .i32 0)):=(ht0.trans hb.touch).trans ht1
 have hrs : RowsAt ((w1.drew.setCell ⟨F,i * 5,none⟩ (.int .u32 1)).setCell ⟨F,i * 5 + 1,none⟩ (.int .i32 0)) base (nds lg) i s :=
  (hb.rows.touchF hb.row ht1).lower (by have:=hP.fans.lt;have:=hP.lo.2;have:=ht0.size;omega)
 refine ⟨hP.fresh ht2 hrow hrs,hrs,?_,ht2⟩
 rw [hrow.cell]
 exact Rw.row_at (κ:=kindF) _ i (some s) (by rw [List.getElem?_set_self (by rw [hP.len];exact hi)]) 4 _ rfl
end

section
set_option maxHeartbeats 16000000 in
theorem least_fresh (p F c : Nat) (A : Option Addr) (lg : List Gn) (fs : List (Option Sl)) (base i n : Nat) (w : World) (hP : Pth w base p F A c lg fs) (hi : i < lg.length) (hn : n < lg.length) (hs : fs[i]? = some none) (hl : lg.length ≤ 14) (hI : ∀ x ∈ nds lg,x.ins.length ≤ 40) (hFi : Fine (nds lg)) :
 Calls Tryz.prog 84 #[.pointer (some ⟨p,0,none⟩),.int .i64 (i : Nat),.int .i64 (n : Nat)] w fun e w' => (∃ v l,e = .returned v ∧ LeastR (nds lg) i n w' v l) ∧ (∃ s,Pth w' base p F A c lg (fs.set i (some s))) ∧ Touch (fun b => b = F) w w':=by
 obtain ⟨f,hfi⟩ : ∃ f : Int,((i : Nat) : Int) = f:=⟨_,rfl⟩
 obtain ⟨t,htn⟩ : ∃ t : Int,((n : Nat) : Int) = t:=⟨_,rfl⟩
 obtain ⟨n0,hn0⟩ : ∃ n0,lg.length = n0:=⟨_,rfl⟩
 have hf : decide (0 ≤ f ∧ f < (n0 : Int)) = true:=decide_eq_true (by omega)
 have ht : decide (0 ≤ t ∧ t < (n0 : Int)) = true:=decide_eq_true (by omega)
 have hc : w.cell? ⟨p,0,none⟩ = some (.slice A n0 c):=by rw [← hn0];exact hP.row.cell 0
 have hc1 : w.cell? ⟨p,1,none⟩ = some (.slice (some ⟨F,0,none⟩) n0 n0):=by rw [← hn0];exact hP.row.cell 1
 have hfz : f < (n0 : Int):=by omega
 have htz : t < (n0 : Int):=by omega
 have hf0 : 0 ≤ f:=by omega
 have ht0 : 0 ≤ t:=by omega
 have f3:=fan_at hP.fans hs 3 _ rfl
 have hFlt:=hP.fans.lt
 have hit : f.toNat = i:=by omega
 have hnt : t.toNat = n:=by omega
 have hdo:=fun (hf' : Nat) (wz : World) (hb : Below w.heap.size w wz) (hlo : w.heap.size ≤ hf') (k0 : wz.cell? ⟨w.heap.size,0,none⟩ = some (.pointer (some ⟨p,0,none⟩))) (k1 : wz.cell? ⟨w.heap.size + 1,0,none⟩ = some (.int .i64 f)) (k2 : wz.cell? ⟨hf',0,none⟩ = some (.pointer (some ⟨F,i * 5,none⟩))) =>
  do_fresh base p F c i w.heap.size (w.heap.size + 1) hf' A lg fs wz (hP.below hb) hi hl hI hFi hs k0 (by rw [hfi];exact k1) k2 (by omega) (by omega) (by omega)
 have HDO:=Hd hdo;have HC1:=Hd hc1;have HF3:=Hd f3;have HP:=Hd hP;have HI:=Hd (And.intro hi (And.intro hn hn0));have HFLT:=Hd hFlt
 rw [hfi,htn]
 clear hdo hc1 f3 hP hs hI hFi hi hn hl hn0 hFlt
 have hw0 : (((w.alloc (.cells #[.pointer (some ⟨p,0,none⟩)] 30)).alloc (.cells #[.int .i64 f] 3))).cell? ⟨w.heap.size,0,none⟩ = some (.pointer (some ⟨p,0,none⟩)):=((Row.made w 30 [.pointer (some ⟨p,0,none⟩)]).alloc _).cell 0
 have hw1 : (((w.alloc (.cells #[.pointer (some ⟨p,0,none⟩)] 30)).alloc (.cells #[.int .i64 f] 3))).cell? ⟨w.heap.size + 1,0,none⟩ = some (.int .i64 f):=(made2 w _ 3 [.int .i64 f]).cell 0
 have hbw : Below w.heap.size w ((w.alloc (.cells #[.pointer (some ⟨p,0,none⟩)] 30)).alloc (.cells #[.int .i64 f] 3)):=((Below.refl _ _).alloc (Nat.le_refl _) _).alloc (by simp) _
 have hgc:=below_cell hc _ hbw
 have HW0:=Hd hw0;have HW1:=Hd hw1;have HBW:=Hd hbw;have HGC:=Hd hgc;clear hw0 hw1 hbw hgc hc
 go_enter Tryz.func84,Tryz.ntmps84
 go_wp2_with fail
 generalize (w.alloc (.cells #[.pointer (some ⟨p,0,none⟩)] 30)).alloc (.cells #[.int .i64 f] 3) = w2 at *
 obtain ⟨h0,hh0⟩ : ∃ h0,w.heap.size = h0:=⟨_,rfl⟩
 obtain ⟨h1,hh1⟩ : ∃ h1,w.heap.size + 1 = h1:=⟨_,rfl⟩
 rw [hh1] at HW1 ⊢
 rw [hh0] at HW0 ⊢
 have HH:=Hd (And.intro hh0 hh1);clear hh0 hh1
 have LP:=Hd (load_pp HW0.out);have LG:=Hd (load_gg HGC.out);have LF:=Hd (load_ii HW1.out)
 have H1:=Hd (isNode_below (A:=A) (c:=c) hf w2);have H2:=Hd (isNode_below (A:=A) (c:=c) ht w2);clear hf ht
 refine Free.wp_guarded (by kernel_rfl) (by kernel_rfl) (fun w' => Below w2.heap.size w2 w') (AskC p h0 h1 n0 c A f t) ((Below.refl _ _).drew) ?_ ?_
 · intro i o hi a wa hold hpre hF
   match i with
   | 0 =>
     cases hi
     exact Free.c_all rfl (Free.g_load _ _ rfl ((hold 3 (by decide)).trans rfl) (LP.out wa hF) ⟨rfl,hF⟩)
   | 1 =>
     cases hi
     have h2 : a.eval (.tmp 8) = .pointer (some ⟨p,0,none⟩):=hpre 0 _ _ (by kernel_rfl) rfl rfl
     exact Free.c_all rfl (Free.g_bin _ _ _ _ _ rfl h2 rfl (ptr_no _ _ p 0 wa) ⟨rfl,hF⟩)
   | 2 =>
     cases hi
     have h0 : a.eval (.tmp 9) = .bool false:=hpre 1 _ _ (by kernel_rfl) rfl rfl
     exact Free.c_all rfl (Free.g_move _ rfl ⟨h0,hF⟩)
   | 3 =>
     cases hi
     have hg : a.eval (.tmp 10) = .bool false:=hpre 2 _ _ (by kernel_rfl) rfl rfl
     exact Free.c_yes rfl rfl rfl hg (Free.g_load _ _ rfl ((hold 3 (by decide)).trans rfl) (LP.out wa hF) ⟨rfl,hF⟩)
   | 4 =>
     cases hi
     have hg : a.eval (.tmp 10) = .bool false:=hpre 2 _ _ (by kernel_rfl) rfl rfl
     have h0 : a.eval (.tmp 11) = .pointer (some ⟨p,0,none⟩):=hpre 3 _ _ (by kernel_rfl) rfl rfl
     refine Free.c_yes rfl rfl rfl hg ?_
     unfold execOp
     simp only [h0]
     go_simp
     exact ⟨rfl,hF⟩
   | 5 =>
     cases hi
     have hg : a.eval (.tmp 10) = .bool false:=hpre 2 _ _ (by kernel_rfl) rfl rfl
     have h0 : a.eval (.tmp 12) = .pointer (some ⟨p,0,none⟩):=hpre 4 _ _ (by kernel_rfl) rfl rfl
     exact Free.c_yes rfl rfl rfl hg (Free.g_field (v:=.pointer (some ⟨p,0,none⟩)) _ _ _ rfl h0 (by go_simp) ⟨rfl,hF⟩)
   | 6 =>
     cases hi
     have hg : a.eval (.tmp 10) = .bool false:=hpre 2 _ _ (by kernel_rfl) rfl rfl
     have h0 : a.eval (.tmp 13) = .pointer (some ⟨p,0,none⟩):=hpre 5 _ _ (by kernel_rfl) rfl rfl
     exact Free.c_yes rfl rfl rfl hg (Free.g_load _ _ rfl h0 (LG.out wa hF) ⟨rfl,hF⟩)
   | 7 =>
     cases hi
     have hg : a.eval (.tmp 10) = .bool false:=hpre 2 _ _ (by kernel_rfl) rfl rfl
     exact Free.c_yes rfl rfl rfl hg (Free.g_load _ _ rfl ((hold 4 (by decide)).trans rfl) (LF.out wa hF) ⟨rfl,hF⟩)
   | 8 =>
     cases hi
     have hg : a.eval (.tmp 10) = .bool false:=hpre 2 _ _ (by kernel_rfl) rfl rfl
     have h0 : a.eval (.tmp 14) = .slice A n0 c:=hpre 6 _ _ (by kernel_rfl) rfl rfl
     have h1 : a.eval (.tmp 15) = .int .i64 f:=hpre 7 _ _ (by kernel_rfl) rfl rfl
     refine Free.c_yes rfl rfl rfl hg (Free.g_call _ _ rfl Tryz.func140 (by kernel_rfl) rfl [.slice A n0 c,.int .i64 f] (by show [a.eval (.tmp 14),a.eval (.tmp 15)] = _;rw [h0,h1]) ?_)
     exact (H1.out wa hF).mono fun e w2 ⟨he,hb2⟩ => ⟨_,he,rfl,hF.trans (hb2.mono hF.size)⟩
   | 9 =>
     cases hi
     have hg : a.eval (.tmp 10) = .bool false:=hpre 2 _ _ (by kernel_rfl) rfl rfl
     have h0 : a.eval (.tmp 16) = .bool true:=hpre 8 _ _ (by kernel_rfl) rfl rfl
     exact Free.c_yes rfl rfl rfl hg (g_not _ _ rfl h0 ⟨rfl,hF⟩)
   | 10 =>
     cases hi
     have h1 : a.eval (.tmp 10) = .bool false:=hpre 2 _ _ (by kernel_rfl) rfl rfl
     have h3 : a.eval (.tmp 17) = .bool false:=hpre 9 _ _ (by kernel_rfl) rfl rfl
     exact Free.c_all rfl (Free.g_pick _ _ _ rfl h1 rfl h3 ⟨rfl,hF⟩)
   | 11 =>
     cases hi
     have h0 : a.eval (.tmp 18) = .bool false:=hpre 10 _ _ (by kernel_rfl) rfl rfl
     exact Free.c_all rfl (Free.g_move _ rfl ⟨h0,hF⟩)
   | 12 =>
     cases hi
     have hg : a.eval (.tmp 19) = .bool false:=hpre 11 _ _ (by kernel_rfl) rfl rfl
     exact Free.c_yes rfl rfl rfl hg (Free.g_load _ _ rfl ((hold 3 (by decide)).trans rfl) (LP.out wa hF) ⟨rfl,hF⟩)
   | 13 =>
     cases hi
     have hg : a.eval (.tmp 19) = .bool false:=hpre 11 _ _ (by kernel_rfl) rfl rfl
     have h0 : a.eval (.tmp 20) = .pointer (some ⟨p,0,none⟩):=hpre 12 _ _ (by kernel_rfl) rfl rfl
     refine Free.c_yes rfl rfl rfl hg ?_
     unfold execOp
     simp only [h0]
     go_simp
     exact ⟨rfl,hF⟩
   | 14 =>
     cases hi
     have hg : a.eval (.tmp 19) = .bool false:=hpre 11 _ _ (by kernel_rfl) rfl rfl
     have h0 : a.eval (.tmp 21) = .pointer (some ⟨p,0,none⟩):=hpre 13 _ _ (by kernel_rfl) rfl rfl
     exact Free.c_yes rfl rfl rfl hg (Free.g_field (v:=.pointer (some ⟨p,0,none⟩)) _ _ _ rfl h0 (by go_simp) ⟨rfl,hF⟩)
   | 15 =>
     cases hi
     have hg : a.eval (.tmp 19) = .bool false:=hpre 11 _ _ (by kernel_rfl) rfl rfl
     have h0 : a.eval (.tmp 22) = .pointer (some ⟨p,0,none⟩):=hpre 14 _ _ (by kernel_rfl) rfl rfl
     exact Free.c_yes rfl rfl rfl hg (Free.g_load _ _ rfl h0 (LG.out wa hF) ⟨rfl,hF⟩)
   | 16 =>
     cases hi
     have hg : a.eval (.tmp 19) = .bool false:=hpre 11 _ _ (by kernel_rfl) rfl rfl
     exact Free.c_yes rfl rfl rfl hg (Free.g_move _ rfl ⟨((hold 2 (by decide)).trans rfl),hF⟩)
   | 17 =>
     cases hi
     have hg : a.eval (.tmp 19) = .bool false:=hpre 11 _ _ (by kernel_rfl) rfl rfl
     have h0 : a.eval (.tmp 23) = .slice A n0 c:=hpre 15 _ _ (by kernel_rfl) rfl rfl
     have h1 : a.eval (.tmp 24) = .int .i64 t:=hpre 16 _ _ (by kernel_rfl) rfl rfl
     refine Free.c_yes rfl rfl rfl hg (Free.g_call _ _ rfl Tryz.func140 (by kernel_rfl) rfl [.slice A n0 c,.int .i64 t] (by show [a.eval (.tmp 23),a.eval (.tmp 24)] = _;rw [h0,h1]) ?_)
     exact (H2.out wa hF).mono fun e w2 ⟨he,hb2⟩ => ⟨_,he,rfl,hF.trans (hb2.mono hF.size)⟩
   | 18 =>
     cases hi
     have hg : a.eval (.tmp 19) = .bool false:=hpre 11 _ _ (by kernel_rfl) rfl rfl
     have h0 : a.eval (.tmp 25) = .bool true:=hpre 17 _ _ (by kernel_rfl) rfl rfl
     exact Free.c_yes rfl rfl rfl hg (g_not _ _ rfl h0 ⟨rfl,hF⟩)
   | 19 =>
     cases hi
     have h1 : a.eval (.tmp 19) = .bool false:=hpre 11 _ _ (by kernel_rfl) rfl rfl
     have h3 : a.eval (.tmp 26) = .bool false:=hpre 18 _ _ (by kernel_rfl) rfl rfl
     exact Free.c_all rfl (Free.g_pick _ _ _ rfl h1 rfl h3 ⟨rfl,hF⟩)
   | _ + 20 => cases hi
 · intro vs we hv hF
   have hlast : vs 19 = .bool false:=hv 19 (by simp) (by rintro o ⟨⟩;rfl)
   have HWE:=Hd hF;clear hF hv
   simp only [Free.puts,Nat.reduceAdd,hlast]
   generalize vs 0 = y0
   generalize vs 1 = y1
   generalize vs 2 = y2
   generalize vs 3 = y3
   generalize vs 4 = y4
   generalize vs 5 = y5
   generalize vs 6 = y6
   generalize vs 7 = y7
   generalize vs 8 = y8
   generalize vs 9 = y9
   generalize vs 10 = y10
   generalize vs 11 = y11
   generalize vs 12 = y12
   generalize vs 13 = y13
   generalize vs 14 = y14
   generalize vs 15 = y15
   generalize vs 16 = y16
   generalize vs 17 = y17
   generalize vs 18 = y18
   go_simp
   have hbe:=HBW.out.trans (HWE.out.mono HBW.out.size)
   have e0:=below_cell HW0.out _ HWE.out
   have e1:=below_cell HW1.out _ HWE.out
   have e2:=below_cell HC1.out _ hbe
   have l0:=World.block_lt_of_cell? _ _ e0;have l1:=World.block_lt_of_cell? _ _ e1;have l2:=World.block_lt_of_cell? _ _ e2
   simp only at l0 l1 l2
   have HBE:=Hd hbe;clear hbe
   go_upto_region 3 with fail
   go_cut [7] from 28 to 33 (fun v wx => ∃ hf,v = .pointer (some ⟨hf,0,none⟩) ∧ Row wx hf 182 [.pointer (some ⟨F,i * 5,none⟩)] ∧ we.heap.size ≤ hf ∧ Below we.heap.size we wx)
   case first =>
    go_region
    all_goals
     go_wp2_with fail
     go_meet
     refine ⟨_,rfl,?_,?_,?_⟩
     · rw [← hit];first | exact Row.drew (Row.made _ _ _) | exact Row.made _ _ _
     · simp
     · exact ((Below.refl _ _).alloc (Nat.le_refl _) _).drew
   case rest =>
    obtain ⟨hf,rfl,hrow,hflo,hbw⟩:=hcut
    have hbx:=HBE.out.trans (hbw.mono HBE.out.size)
    have g0:=hrow.cell 0
    simp only [List.getElem?_cons_zero] at g0
    have g3:=below_cell HF3.out _ hbx
    have k0:=(hbw.cell (p:=⟨h0,0,none⟩) l0).trans e0
    have k1:=(hbw.cell (p:=⟨h1,0,none⟩) l1).trans e1
    have hfl:=flag_load ⟨F,i * 5 + 3,none⟩ 0 false rfl wc g3
    have hd:=fun wy (hy : wy = wc) => HDO.out hf wy (by rw [hy];exact hbx) (Nat.le_trans HBE.out.size hflo) (by rw [hy,HH.out.1];exact k0) (by rw [hy,HH.out.2];exact k1) (by rw [hy];exact g0)
    rw [HH.out.2,HH.out.1] at hd
    have hfF : hf ≠ F:=by have:=HBE.out.size;have:=HFLT.out;omega
    have HG0:=Hd g0;have HRW:=Hd hrow;have HBX:=Hd hbx;have HFL:=Hd hfl;have HD:=Hd hd;have HFF:=Hd hfF
    clear hrow hbw hbx e0 e1 e2 hfl g3 k0 k1 hd hfF hflo
    go_wp2_with fail
    refine HFL.out.mono ?_;rintro e w5 ⟨rfl,rfl⟩
    dsimp only
    go_wp2_with fail
    refine (HD.out _ rfl).mono ?_;rintro e w6 ⟨rfl,s,hdn⟩
    dsimp only
    obtain ⟨hil,hnl,hn0⟩:=HI.out
    obtain ⟨B,rA,l,rc,hse,hBl,hcell,hres⟩:=RowsAt.get hdn.rows (n:=n) (by rw [nds_len];exact hnl)
    have g6:=touch_cell hdn.touch HG0.out HFF.out
    have g4:=hdn.cell
    have g5:=hcell _ (Below.refl _ _)
    subst hse
    have g4' : w6.cell? ⟨F,i * 5 + 4,none⟩ = some (.slice (some ⟨B,0,none⟩) n0 n0):=by rw [g4,nds_len,hn0]
    have HRES:=Hd (hres _ (Below.refl _ _));have HDN:=Hd hdn;clear hdn hres hcell g0 g4 hil hnl hn0 hBl
    go_wp2_with fail
    go_ret
    exact ⟨⟨_,l,rfl,HRES.out⟩,⟨_,HDN.out.pth⟩,(Touch.of_below HBX.out).trans HDN.out.touch⟩
end

section
namespace Mx
open Go.ChangeShapes Go.WideShapes Go.ChangeAt Go.RowKit Go.BigFrame Go.Shelf
theorem plain_addr {w : World} {a : Addr} {v : Value} (h : w.cell? a = some v) : ∃ b off,a = ⟨b,off,none⟩:=by
 obtain ⟨b,off,spot⟩:=a
 refine ⟨b,off,?_⟩
 cases spot with
 | none => rfl
 | some s =>
   unfold World.cell? at h
   split at h
   · simp at h
   · cases h
end Mx
end

section
namespace Nx
open Go.ChangeShapes Go.WideShapes Go.ChangeAt Go.RowKit Go.BigFrame Go.Shelf
abbrev Holds (w : World) (g : Nat) (s : Sm) : Prop:=HoldsM w g 106 s
theorem Holds.made (w : World) (s : Sm) : Holds (w.alloc (.cells #[.int .i64 s.fr,.int .i64 s.to,.int .i64 s.kp,.int .i64 s.ad,.int .i64 s.t0,.int .i64 s.t1,.int .i64 s.t2] 106)) w.heap.size s:=HoldsM.made w _ s
theorem Holds.cells5 {W : World} {g : Nat} {s : Sm} (h : Holds W g s) : W.cell? ⟨g,0,none⟩ = some (.int .i64 s.fr) ∧ W.cell? ⟨g,1,none⟩ = some (.int .i64 s.to) ∧ W.cell? ⟨g,2,none⟩ = some (.int .i64 s.kp) ∧ W.cell? ⟨g,3,none⟩ = some (.int .i64 s.ad) ∧ W.cell? ⟨g,4,none⟩ = some (.int .i64 s.t0) ∧ W.cell? ⟨g,5,none⟩ = some (.int .i64 s.t1) ∧ W.cell? ⟨g,6,none⟩ = some (.int .i64 s.t2):=HoldsM.cells7 h
theorem infoRef : (Tryz.prog.info? 106).map (fun i => (i.zero,i.size,i.bytes)) = some (some (.agg #[.int .i64 0,.int .i64 0,.int .i64 0,.int .i64 0,.int .i64 0,.int .i64 0,.int .i64 0]),7,56):=by kernel_rfl
def Times (w : World) (A : Option Addr) (ts : List Sm) : Prop :=
 0 < ts.length → ∃ b,A = some ⟨b,0,none⟩ ∧ b < w.heap.size ∧ ∀ (j : Nat) (u : Value),(Mx.rowS ts)[j]? = some u → w.cell? ⟨b,j,none⟩ = some u
theorem Times.made (w : World) (ts : List Sm) : Times (w.alloc (.cells (Mx.rowS ts).toArray 106)) (some ⟨w.heap.size,0,none⟩) ts:=fun _ => by
 have h : Row (w.alloc (.cells (Mx.rowS ts).toArray 106)) w.heap.size 106 (Mx.rowS ts):=Row.made w _ _
 exact ⟨_,rfl,h.lt,fun j u hu => (h.cell j).trans hu⟩
theorem Times.of_own {w : World} {base : Nat} {v : Value} {n : Nat} {ts : List Sm} (h : w.ownsRow base 106 7 v n (Mx.rowS ts)) :
 ∃ A c,v = .slice A ts.length c ∧ Times w A ts ∧ ts.length ≤ c ∧ c ≤ maxLen:=by
 have hl : ts.length = n:=by have:=h.1;rw [Mx.rowS_len] at this;omega
 obtain ⟨_,⟨rfl,h0⟩ | ⟨g,cap,cur,rfl,_,hh,h1,h2,_,ht⟩⟩:=id h
 · exact ⟨none,0,by rw [hl,h0],fun hn => by omega,by omega,by simp⟩
 · refine ⟨some ⟨g,0,none⟩,cap,by rw [hl],fun _ => ⟨g,rfl,?_,fun j u hj => ?_⟩,by omega,h2⟩
   · by_cases hg : g < w.heap.size
     · exact hg
     · rw [Array.getElem?_eq_none (by omega)] at hh;cases hh
   · have:=h.cells (g:=g) rfl j u hj
     rwa [add_zero_off] at this
theorem own_apart {w : World} {base : Nat} {v : Value} {n b : Nat} {xs l : List Value} {t : TypeId} (h : w.ownsRow base 106 7 v n xs) (hr : Row w b t l) (ht : t ≠ 106) : some b ≠ v.ownBlock:=by
 obtain ⟨_,⟨rfl,_⟩ | ⟨g,cap,cur,rfl,_,hh,_⟩⟩:=h
 · intro e;cases e
 · intro e
   injection e with e
   subst e
   unfold Row at hr
   rw [hr] at hh;injection hh with hh;injection hh with _ ht';exact ht ht'
theorem own_belowS {w0 w w' : World} {base n : Nat} {v : Value} {xs : List Value} (h : w.ownsRow base 106 7 v n xs) (hg : w.grownBy w' v.ownBlock) (hb : Below base w0 w) (hB : base ≤ w.heap.size) : Below base w0 w' :=
 hb.grown hg hB (fun k e => (h.lt k e).1)
theorem wpList_append_times {w : World} {ops : Array Oper} {rest : List Oper} {o : Oper} {a : Act} {Q : Exit → Act → World → Prop} (hgd : o.guard = none) (s x : Operand)
 (ho : o.op = .call { callee:=.builtin .append,args:=#[s,x],argTypes:=#[77,77] })
 (base : Nat) (v : Value) (n : Nat) (ts : List Sm) (hs : a.eval s = v) (hown : w.ownsRow base 106 7 v n (Mx.rowS ts))
 (ad : Addr) (c : Nat) (ys : List Sm) (hx : a.eval x = .slice (some ad) ys.length c) (hy : 0 < ys.length) (hb : Times w (some ad) ys)
 (hle : n + ys.length ≤ 200000000) (hbase : base ≤ w.heap.size)
 (h : ∀ v' w',w'.ownsRow base 106 7 v' (n + ys.length) (Mx.rowS (ts ++ ys)) → w.grownBy w' v.ownBlock → wpList Tryz.prog ops Q rest (a.put o.dst v') w') : wpList Tryz.prog ops Q (o :: rest) a w:=by
 obtain ⟨i,hi,hz0,hz1,hz2⟩:=info_parts infoRef
 obtain ⟨b,e,_,hcell⟩:=hb hy
 cases e
 refine wpList_append_own w hgd s x 77 ho base 106 i _ 7 56 Tryz.underlying77 hi hz0 hz1 hz2 rfl (by omega) v n (Mx.rowS ts) hs hown ⟨b,0,none⟩ ys.length c (Mx.rowS ys) hx (Mx.rowS_len ys) ?_ (Mx.rowS_one ys) (by unfold maxLen;omega) (by omega) hbase ?_
 · intro j u hj
   rw [add_zero_off];exact hcell j u hj
 · intro v' w' h1 h2 _
   exact h v' w' (by rw [Mx.rowS_append];exact h1) h2

def Ts (w : World) (A : Option Addr) (ts : List Sm) : Prop :=
 0 < ts.length → ∃ b o,A = some ⟨b,o,none⟩ ∧ b < w.heap.size ∧ ∀ (j : Nat) (u : Value),(Mx.rowS ts)[j]? = some u → w.cell? ⟨b,o + j,none⟩ = some u
section
variable {w w' : World} {A : Option Addr} {ts : List Sm}
theorem Ts.below (h : Ts w A ts) (hb : Below w.heap.size w w') : Ts w' A ts:=fun hn => by
 obtain ⟨b,o,e,hlt,hc⟩:=h hn
 exact ⟨b,o,e,Nat.lt_of_lt_of_le hlt hb.size,fun j u hu => (hb.cell (p:=⟨b,o + j,none⟩) hlt).trans (hc j u hu)⟩
theorem Ts.nil : Ts w A []:=fun h => absurd h (by simp)
theorem Ts.of (h : Times w A ts) : Ts w A ts:=fun hn => by
 obtain ⟨b,e,hlt,hc⟩:=h hn
 exact ⟨b,0,e,hlt,fun j u hu => by rw [Nat.zero_add];exact hc j u hu⟩
theorem Ts.take (h : Ts w A ts) (k : Nat) : Ts w A (ts.take k):=fun hn => by
 obtain ⟨b,o,e,hlt,hc⟩:=h (by rw [List.length_take] at hn;omega)
 refine ⟨b,o,e,hlt,fun j u hu => hc j u ?_⟩
 rw [Mx.rowS_take,List.getElem?_take] at hu
 split at hu
 · exact hu
 · cases hu
theorem run_load_st (w : World) (b o : Nat) (t : Sm) (h : ∀ j v,t.cells[j]? = some v → w.cell? ⟨b,o + j,none⟩ = some v) :
 (Instr.loadAt 106 (.pointer (some ⟨b,o,none⟩))).run Tryz.prog w = .ok (.agg #[.int .i64 t.fr,.int .i64 t.to,.int .i64 t.kp,.int .i64 t.ad,.int .i64 t.t0,.int .i64 t.t1,.int .i64 t.t2]) w :=
 run_loadAt_part b o 106 _ t.cells (fun j v hj => by rw [add_at];exact h j v hj) Tryz.underlying106 rfl (by kernel_rfl)
theorem Ts.load (h : Ts w A ts) {i : Nat} {t : Sm} (hi : ts[i]? = some t) : ∃ b o,A = some ⟨b,o,none⟩ ∧ b < w.heap.size ∧
 ∀ w',Below w.heap.size w w' → (Instr.loadAt 106 (.pointer (some ⟨b,o + i * 7,none⟩))).run Tryz.prog w' = .ok (.agg #[.int .i64 t.fr,.int .i64 t.to,.int .i64 t.kp,.int .i64 t.ad,.int .i64 t.t0,.int .i64 t.t1,.int .i64 t.t2]) w':=by
 obtain ⟨hl,_⟩:=List.getElem?_eq_some_iff.1 hi
 obtain ⟨b,o,e,hlt,hc⟩:=h (by omega)
 refine ⟨b,o,e,hlt,fun w' hb => run_load_st _ _ _ _ fun j v hj => ?_⟩
 rw [hb.cell (p:=⟨b,o + i * 7 + j,none⟩) hlt,Nat.add_assoc]
 exact hc _ v (Mx.rowS_at ts i t hi j v hj)
theorem Ts.five (h : Ts w A ts) {i : Nat} {t : Sm} (hi : ts[i]? = some t) : ∃ b o,A = some ⟨b,o,none⟩ ∧ b < w.heap.size ∧
 ∀ w',Below w.heap.size w w' → w'.cell? ⟨b,o + i * 7,none⟩ = some (.int .i64 t.fr) ∧ w'.cell? ⟨b,o + i * 7 + 1,none⟩ = some (.int .i64 t.to) ∧ w'.cell? ⟨b,o + i * 7 + 2,none⟩ = some (.int .i64 t.kp) ∧ w'.cell? ⟨b,o + i * 7 + 3,none⟩ = some (.int .i64 t.ad) ∧ w'.cell? ⟨b,o + i * 7 + 4,none⟩ = some (.int .i64 t.t0) ∧ w'.cell? ⟨b,o + i * 7 + 5,none⟩ = some (.int .i64 t.t1) ∧ w'.cell? ⟨b,o + i * 7 + 6,none⟩ = some (.int .i64 t.t2):=by
 obtain ⟨hl,_⟩:=List.getElem?_eq_some_iff.1 hi
 obtain ⟨b,o,e,hlt,hc⟩:=h (by omega)
 refine ⟨b,o,e,hlt,fun w' hb => ?_⟩
 have key : ∀ j v,t.cells[j]? = some v → w'.cell? ⟨b,o + i * 7 + j,none⟩ = some v:=fun j v hj => by
  rw [hb.cell (p:=⟨b,o + i * 7 + j,none⟩) hlt,Nat.add_assoc]
  exact hc _ v (Mx.rowS_at ts i t hi j v hj)
 exact ⟨key 0 _ rfl,key 1 _ rfl,key 2 _ rfl,key 3 _ rfl,key 4 _ rfl,key 5 _ rfl,key 6 _ rfl⟩
end
end Nx
end

section
namespace Nx
open Go.ChangeShapes Go.WideShapes Go.ChangeAt Go.RowKit Go.BigFrame Go.Shelf
theorem own_kept {w w' : World} {base n : Nat} {v : Value} {xs : List Value} (h : w.ownsRow base 106 7 v n xs) (hb : Below w.heap.size w w') : w'.ownsRow base 106 7 v n xs:=by
 refine h.kept (Mx.grown_below hb) ?_
 cases hv : v.ownBlock with
 | none => exact .inl rfl
 | some k => exact .inr (by simp)
end Nx
end

section
namespace Nx
open Go.ChangeShapes Go.WideShapes Go.ChangeAt Go.RowKit Go.BigFrame Go.Shelf
def nums (s : Sm) : List Int:=[s.fr,s.to,s.kp,s.ad,s.t0,s.t1,s.t2]
def Nums (w : World) (g : Nat) (s : Sm) : Prop:=Row w g 3 ((nums s).map fun n => Value.int .i64 n)
theorem numbers_any (s : Sm) (w : World) : Calls Tryz.prog 183 #[s.v] w fun e w' => (∃ g,e = .returned (.slice (some ⟨g,0,none⟩) 7 7) ∧ Nums w' g s) ∧ Below w.heap.size w w':=by
 have h : Nums ((w.alloc (.cells #[.int .i64 s.fr,.int .i64 s.to,.int .i64 s.kp,.int .i64 s.ad,.int .i64 s.t0,.int .i64 s.t1,.int .i64 s.t2] 106)).alloc (.cells #[.int .i64 s.fr,.int .i64 s.to,.int .i64 s.kp,.int .i64 s.ad,.int .i64 s.t0,.int .i64 s.t1,.int .i64 s.t2] 3)) (w.heap.size + 1) s:=made2r w _ _ _
 have H:=Hd h;clear h
 unfold Sm.v
 go_enter Tryz.func183,Tryz.ntmps183
 go_wp2_with fail
 go_ret
 exact ⟨⟨_,rfl,H.out⟩,below_alloc2 w _ _⟩
theorem nei_is {x y : Operand} {i j : Int} {p : Bool} (h : (i != j) = p) : ∀ w,(do eqGuard .neq 3 x y (.int .i64 i) (.int .i64 j);binOp .neq 3 (.int .i64 i) (.int .i64 j) : Sem Value).run Tryz.prog w = .ok (.bool p) w:=by
 intro w;subst h;go_simp
end Nx
end

section
namespace Nx
open Go.ChangeShapes Go.WideShapes Go.ChangeAt Go.RowKit Go.BigFrame Go.Shelf
theorem own_slice {w : World} {base n : Nat} {v : Value} {ts : List Sm} (h : w.ownsRow base 106 7 v n (Mx.rowS ts)) : ∃ A c,v = .slice A ts.length c ∧ Ts w A ts ∧ ts.length ≤ c ∧ c ≤ maxLen ∧ (A = none → c = 0):=by
 obtain ⟨A,c,e,h1,h2,h3⟩:=Times.of_own h
 refine ⟨A,c,e,Ts.of h1,h2,h3,fun hA => ?_⟩
 subst hA
 rcases h.2 with ⟨e2,_⟩ | ⟨g,cap,cur,e2,_⟩
 · rw [e] at e2;injection e2
 · rw [e] at e2;injection e2 with h;cases h
structure Slc (w : World) (A : Option Addr) (c : Nat) (l : List Sm) : Prop where
 ts : Ts w A l
 le : l.length ≤ c
 max : c ≤ maxLen
 nil : A = none → c = 0
theorem Slc.of_own {w : World} {base n : Nat} {v : Value} {ts : List Sm} (h : w.ownsRow base 106 7 v n (Mx.rowS ts)) : ∃ A c,v = .slice A ts.length c ∧ Slc w A c ts:=by
 obtain ⟨A,c,e,h1,h2,h3,h4⟩:=own_slice h
 exact ⟨A,c,e,⟨h1,h2,h3,h4⟩⟩
theorem grown_refl (w : World) (row : Option Nat) : w.grownBy w row:=⟨rfl,rfl,rfl,Nat.le_refl _,fun _ _ _ => rfl⟩
theorem wpList_append_ts {w : World} {ops : Array Oper} {rest : List Oper} {o : Oper} {a : Act} {Q : Exit → Act → World → Prop} (hgd : o.guard = none) (s x : Operand)
 (ho : o.op = .call { callee:=.builtin .append,args:=#[s,x],argTypes:=#[77,77] })
 (base : Nat) (v : Value) (n : Nat) (ts : List Sm) (hs : a.eval s = v) (hown : w.ownsRow base 106 7 v n (Mx.rowS ts))
 (A : Option Addr) (c : Nat) (ys : List Sm) (hx : a.eval x = .slice A ys.length c) (hA0 : A = none → c = 0) (hb : Ts w A ys)
 (hle : n + ys.length ≤ 800000000) (hbase : base ≤ w.heap.size)
 (h : ∀ v' w',w'.ownsRow base 106 7 v' (n + ys.length) (Mx.rowS (ts ++ ys)) → w.grownBy w' v.ownBlock → wpList Tryz.prog ops Q rest (a.put o.dst v') w') : wpList Tryz.prog ops Q (o :: rest) a w:=by
 obtain ⟨i,hi,hz0,hz1,hz2⟩:=info_parts infoRef
 cases A with
 | none =>
   have hy : ys = []:=by
    cases ys with
    | nil => rfl
    | cons y ys => obtain ⟨b,o,e,_⟩:=hb (by simp);cases e
   subst hy
   rw [hA0 rfl] at hx
   refine wpList_append_own_none hgd s x 77 ho base 106 i 7 Tryz.underlying77 hi v n (Mx.rowS ts) hs hown hx ?_
   exact h v w (by rw [List.append_nil];exact hown) (grown_refl _ _)
 | some ad =>
   refine wpList_append_own w hgd s x 77 ho base 106 i _ 7 56 Tryz.underlying77 hi hz0 hz1 hz2 rfl (by omega) v n (Mx.rowS ts) hs hown ad ys.length c (Mx.rowS ys) hx (Mx.rowS_len ys) ?_ (Mx.rowS_one ys) (by unfold maxLen;omega) (by omega) hbase ?_
   · intro j u hj
     have hp : 0 < ys.length:=by
      have:=(List.getElem?_eq_some_iff.1 hj).1
      rw [Mx.rowS_len] at this;omega
     obtain ⟨b,o,e,_,hcell⟩:=hb hp
     cases e
     rw [add_at];exact hcell j u hj
   · intro v' w' h1 h2 _
     exact h v' w' (by rw [Mx.rowS_append];exact h1) h2
section
variable {o : List Sm} {k : Nat}
end
section
variable {ts o : List Sm} {t x y z : Sm} {k m q : Nat}
def badJ (k : Nat) (t : Sm) (j : Nat) (x : Sm) : Bool:=(!eqS x t && decide (x.L t)) || (decide (j < k) && eqS x t)
def StayTo (ts : List Sm) (k : Nat) (t : Sm) (m : Nat) : Prop:=t.R ∧ ∀ (j : Nat) (x : Sm),j < m → ts[j]? = some x → badJ k t j x = false
noncomputable instance (ts : List Sm) (k : Nat) (t : Sm) (m : Nat) : Decidable (StayTo ts k t m):=Classical.propDecidable _
theorem lti_is {x y : Operand} {i j : Int} {p : Bool} (h : decide (i < j) = p) : ∀ w,(do eqGuard .lss 3 x y (.int .i64 i) (.int .i64 j);binOp .lss 3 (.int .i64 i) (.int .i64 j) : Sem Value).run Tryz.prog w = .ok (.bool p) w:=by
 intro w;subst h;go_simp
theorem own_len {w : World} {base n : Nat} {v : Value} {ts : List Sm} (h : w.ownsRow base 106 7 v n (Mx.rowS ts)) : n = ts.length:=by
 have:=h.1;rw [Mx.rowS_len] at this;omega
end
end Nx
end

section
section
variable {P : Program} {C : World → Prop} {K : Act → Prop} {a : Act} {o : Oper} {ops : Array Oper}
end
end

section
namespace Nx
open Go.ChangeShapes Go.WideShapes Go.ChangeAt Go.RowKit Go.BigFrame Go.Shelf
end Nx
end

section
structure LOf (g : List Nd) (f : Int) (L : List (Nat × Sm)) : Prop where
 out : (f < 0 ∨ (g.length : Int) ≤ f) → L = []
 all : ∀ i : Nat,f = i → i < g.length → AllW g i L L.length
theorem LOf.len {g : List Nd} {f : Int} {L : List (Nat × Sm)} (hF : Fine g) (h : LOf g f L) : L.length ≤ g.length * 4194304:=by
 by_cases hf : f < 0 ∨ (g.length : Int) ≤ f
 · rw [h.out hf];exact Nat.zero_le _
 · exact (h.all f.toNat (by omega) (by omega)).bound hF
end

section
def WaysOf (g : List Nd) (f t : Int) (l : List Sm) : Prop :=
 (∃ (i n : Nat) (T : List (List Sm)) (D : List (Nat × Sm)),f = (i : Nat) ∧ t = (n : Nat) ∧ i < g.length ∧ n < g.length ∧ Run g i T D [] ∧ T[n]? = some l) ∨
 (¬ ((0 ≤ f ∧ f < (g.length : Int)) ∧ 0 ≤ t ∧ t < (g.length : Int)) ∧ l = [])
theorem WaysOf.len {g : List Nd} {f t : Int} {l : List Sm} (h : WaysOf g f t l) : l.length ≤ 4194304:=by
 rcases h with ⟨i,n,T,D,rfl,rfl,hi,hn,hr,hl⟩ | ⟨hno,rfl⟩
 · exact hr.row hl
 · exact Nat.zero_le _
def RowI (w : World) (v : Value) (l : List Sm) : Prop:=∃ A c,v = .slice A l.length c ∧ Rw.Ts kindS w A l ∧ l.length ≤ c ∧ c ≤ maxLen ∧ (A = none → c = 0)
theorem RowI.nil (w : World) : RowI w (.slice none 0 0) []:=⟨none,0,rfl,Rw.Ts.nil,Nat.le_refl _,Nat.zero_le _,fun _ => rfl⟩
def LeastD (w : World) (base p F : Nat) (A : Option Addr) (c : Nat) (lg : List Gn) (f t : Int) (e : Ending) (w' : World) : Prop :=
 (∃ v l,e = .returned v ∧ WaysOf (nds lg) f t l ∧ RowI w' v l) ∧ (∃ fs,Pth w' base p F A c lg fs) ∧ Touch (fun b => b = F) w w'
theorem least_any (p F c base : Nat) (A : Option Addr) (lg : List Gn) (fs : List (Option Sl)) (f t : Int) (w : World) (hP : Pth w base p F A c lg fs) (hl : lg.length ≤ 14) (hI : ∀ x ∈ nds lg,x.ins.length ≤ 40) (hFi : Fine (nds lg)) :
 Calls Tryz.prog 84 #[.pointer (some ⟨p,0,none⟩),.int .i64 f,.int .i64 t] w (LeastD w base p F A c lg f t):=by
 have hc : w.cell? ⟨p,0,none⟩ = some (.slice A lg.length c):=hP.row.cell 0
 by_cases hf : 0 ≤ f ∧ f < (lg.length : Int)
 · by_cases ht : 0 ≤ t ∧ t < (lg.length : Int)
   · obtain ⟨i,hi⟩ : ∃ i : Nat,f = (i : Nat):=⟨f.toNat,by omega⟩
     obtain ⟨n,hn⟩ : ∃ n : Nat,t = (n : Nat):=⟨t.toNat,by omega⟩
     subst hi hn
     obtain ⟨x,hx⟩ : ∃ x,fs[i]? = some x:=⟨_,List.getElem?_eq_getElem (by rw [hP.len];omega)⟩
     cases x with
     | none =>
       refine (least_fresh p F c A lg fs base i n w hP (by omega) (by omega) hx hl hI hFi).mono ?_
       rintro e w' ⟨⟨v,l,he,B,cc,T,D,hv,hT,h1,h2,h3,hr,hl⟩,⟨s,hp⟩,ht⟩
       exact ⟨⟨v,l,he,.inl ⟨i,n,T,D,rfl,rfl,by rw [nds_len];omega,by rw [nds_len];omega,hr,hl⟩,B,cc,hv,hT,h1,h2,h3⟩,⟨_,hp⟩,ht⟩
     | some s =>
       refine (least_known p F c A lg fs base i n s w hP (by omega) (by omega) hx hl).mono ?_
       rintro e w' ⟨⟨v,l,he,B,cc,T,D,hv,hT,h1,h2,h3,hr,hl⟩,hb⟩
       exact ⟨⟨v,l,he,.inl ⟨i,n,T,D,rfl,rfl,by rw [nds_len];omega,by rw [nds_len];omega,hr,hl⟩,B,cc,hv,hT,h1,h2,h3⟩,⟨_,hP.below hb⟩,Touch.of_below hb⟩
   · refine (least_offA p lg.length c base A f t w hc (decide_eq_true hf) (decide_eq_false ht)).mono ?_
     rintro e w' ⟨rfl,hb⟩
     exact ⟨⟨_,[],rfl,.inr ⟨fun h => ht (by rw [nds_len] at h;exact h.2),rfl⟩,RowI.nil _⟩,⟨_,hP.below hb⟩,Touch.of_below hb⟩
 · refine (least_offB p lg.length c base A f t w hc (decide_eq_false hf)).mono ?_
   rintro e w' ⟨rfl,hb⟩
   exact ⟨⟨_,[],rfl,.inr ⟨fun h => hf (by rw [nds_len] at h;exact h.1),rfl⟩,RowI.nil _⟩,⟨_,hP.below hb⟩,Touch.of_below hb⟩
theorem graph_any (p F c base : Nat) (A : Option Addr) (lg : List Gn) (fs : List (Option Sl)) (w : World) (hP : Pth w base p F A c lg fs) (hl : lg.length ≤ 14) (hI : ∀ x ∈ nds lg,x.ins.length ≤ 40) :
 Calls Tryz.prog 42 #[.pointer (some ⟨p,0,none⟩)] w fun e w' => (∃ v l',e = .returned v ∧ nds l' = nds lg ∧ OwnG w' w.heap.size v l') ∧ Below w.heap.size w w':=by
 have hc : w.cell? ⟨p,0,none⟩ = some (.slice A lg.length c):=hP.row.cell 0
 obtain ⟨A',c',e,hG,h1,h2,h3⟩:=hP.graph.gr
 cases e
 have H:=Hd (copied_any A lg c w hG (fun e => ⟨h3 e,List.eq_nil_of_length_eq_zero (by have:=h3 e;omega)⟩) (by omega) (fun x hx => by have:=hI x.nd (List.mem_map.2 ⟨x,hx,rfl⟩);omega))
 clear hP hG h1 h2 h3 hI
 go_enter Tryz.func42,Tryz.ntmps42
 go_wp2_with fail
 refine H.out.mono ?_;rintro e w1 ⟨⟨v,l',rfl,hn,ho⟩,hb⟩
 have HO:=Hd (And.intro hn (And.intro ho hb));clear hn ho hb H
 dsimp only
 go_wp2_with fail
 go_ret
 exact ⟨⟨_,l',rfl,HO.out.1,HO.out.2.1⟩,HO.out.2.2⟩
end

section
set_option maxHeartbeats 1000000 in
theorem apply_A (s : Sm) (t : St) (w : World) (h : ¬ s.R) : Calls Tryz.prog 97 #[s.v,t.val] w fun e w' => e = .returned (.tuple #[(s.ap t).val,.bool (s.apB t)]) ∧ Below w.heap.size w w':=by
 have h3:=Trio.made w 82 s t
 have hbw:=below_alloc3 w (.cells #[.int .i64 s.fr,.int .i64 s.to,.int .i64 s.kp,.int .i64 s.ad,.int .i64 s.t0,.int .i64 s.t1,.int .i64 s.t2] 82) (.cells #[.int .i64 t.d,.int .i64 t.e,.int .i64 t.x,.int .i64 t.y,.int .i64 t.z] 27) (.cells #[.int .i64 0,.int .i64 0,.int .i64 0,.int .i64 0,.int .i64 0] 27)
 obtain ⟨q1,q2⟩:=Sm.ap_no (s:=s) (t:=t) (fun g => h g.1)
 rw [q1,q2];clear q1 q2
 have H3:=Hd h3;have HB:=Hd hbw;clear h3 hbw
 have r1:=fun w => rightM_false h w
 have R1:=Hd r1;clear r1 h
 unfold Sm.v St.val at *
 go_enter Tryz.func97,Tryz.ntmps97
 go_wp2_with fail
 refine (R1.out _).mono ?_;rintro e w2 ⟨rfl,hb2⟩
 have k3:=H3.out.below hb2
 have kb:=HB.out.trans (hb2.mono HB.out.size);clear H3 HB
 have H3:=Hd k3;have HB:=Hd kb;clear k3 kb hb2
 obtain ⟨f0,f1,f2,f3,f4⟩:=H3.out.2.2.f5
 obtain ⟨z0,z1,z2,z3,z4⟩:=H3.out.2.2.c5
 go_wp2_with fail
 refine bodyPost_ret (v:=.tuple #[.agg #[.int .i64 0,.int .i64 0,.int .i64 0,.int .i64 0,.int .i64 0],.bool false]) (two_results rfl _ _ _ 27 _ (0,0) _ rfl (row_set5' H3.out.2.2) Tryz.underlying27 rfl (by kernel_rfl) rfl) rfl ?_
 exact ⟨rfl,below_set5' HB.out (by omega)⟩
set_option maxHeartbeats 1000000 in
theorem apply_B (s : Sm) (t : St) (w : World) (h : s.R) (h2 : ¬ t.R) : Calls Tryz.prog 97 #[s.v,t.val] w fun e w' => e = .returned (.tuple #[(s.ap t).val,.bool (s.apB t)]) ∧ Below w.heap.size w w':=by
 have h3:=Trio.made w 82 s t
 have hbw:=below_alloc3 w (.cells #[.int .i64 s.fr,.int .i64 s.to,.int .i64 s.kp,.int .i64 s.ad,.int .i64 s.t0,.int .i64 s.t1,.int .i64 s.t2] 82) (.cells #[.int .i64 t.d,.int .i64 t.e,.int .i64 t.x,.int .i64 t.y,.int .i64 t.z] 27) (.cells #[.int .i64 0,.int .i64 0,.int .i64 0,.int .i64 0,.int .i64 0] 27)
 obtain ⟨q1,q2⟩:=Sm.ap_no (s:=s) (t:=t) (fun g => h2 g.2.1)
 rw [q1,q2];clear q1 q2
 have H3:=Hd h3;have HB:=Hd hbw;clear h3 hbw
 have r1:=fun w => rightM_true h w
 have r2:=fun w => right_false h2 w
 have R1:=Hd r1;have R2:=Hd r2;clear r1 r2 h h2
 unfold Sm.v St.val at *
 go_enter Tryz.func97,Tryz.ntmps97
 go_wp2_with fail
 refine (R1.out _).mono ?_;rintro e w2 ⟨rfl,hb2⟩
 have k3:=H3.out.below hb2
 have kb:=HB.out.trans (hb2.mono HB.out.size);clear H3 HB
 have H3:=Hd k3;have HB:=Hd kb;clear k3 kb hb2
 obtain ⟨a0,a1,a2,a3,a4⟩:=H3.out.2.1.c5
 obtain ⟨b0,b1,b2,b3,b4,b5,b6⟩:=H3.out.1.cells7
 go_wp2_with fail
 clear a0 a1 a2 a3 a4 b0 b1 b2 b3 b4 b5 b6
 refine (R2.out _).mono ?_;rintro e w3 ⟨rfl,hb3⟩
 have k3:=H3.out.below hb3
 have kb:=HB.out.trans (hb3.mono HB.out.size);clear H3 HB
 have H3:=Hd k3;have HB:=Hd kb;clear k3 kb hb3
 obtain ⟨f0,f1,f2,f3,f4⟩:=H3.out.2.2.f5
 obtain ⟨z0,z1,z2,z3,z4⟩:=H3.out.2.2.c5
 go_wp2_with fail
 refine bodyPost_ret (v:=.tuple #[.agg #[.int .i64 0,.int .i64 0,.int .i64 0,.int .i64 0,.int .i64 0],.bool false]) (two_results rfl _ _ _ 27 _ (0,0) _ rfl (row_set5' H3.out.2.2) Tryz.underlying27 rfl (by kernel_rfl) rfl) rfl ?_
 exact ⟨rfl,below_set5' HB.out (by omega)⟩
set_option maxHeartbeats 1000000 in
theorem apply_C (s : Sm) (t : St) (w : World) (h : s.R) (h2 : t.R) (hd : ¬ t.d = s.fr) : Calls Tryz.prog 97 #[s.v,t.val] w fun e w' => e = .returned (.tuple #[(s.ap t).val,.bool (s.apB t)]) ∧ Below w.heap.size w w':=by
 have h3:=Trio.made w 82 s t
 have hbw:=below_alloc3 w (.cells #[.int .i64 s.fr,.int .i64 s.to,.int .i64 s.kp,.int .i64 s.ad,.int .i64 s.t0,.int .i64 s.t1,.int .i64 s.t2] 82) (.cells #[.int .i64 t.d,.int .i64 t.e,.int .i64 t.x,.int .i64 t.y,.int .i64 t.z] 27) (.cells #[.int .i64 0,.int .i64 0,.int .i64 0,.int .i64 0,.int .i64 0] 27)
 obtain ⟨q1,q2⟩:=Sm.ap_no (s:=s) (t:=t) (fun g => hd g.2.2.1)
 rw [q1,q2];clear q1 q2
 have H3:=Hd h3;have HB:=Hd hbw;clear h3 hbw
 have r1:=fun w => rightM_true h w
 have r2:=fun w => right_true h2 w
 have hn : (t.d != s.fr) = true:=by simpa using hd
 have R1:=Hd r1;have R2:=Hd r2;clear r1 r2 h h2 hd
 unfold Sm.v St.val at *
 go_enter Tryz.func97,Tryz.ntmps97
 go_wp2_with fail
 refine (R1.out _).mono ?_;rintro e w2 ⟨rfl,hb2⟩
 have k3:=H3.out.below hb2
 have kb:=HB.out.trans (hb2.mono HB.out.size);clear H3 HB
 have H3:=Hd k3;have HB:=Hd kb;clear k3 kb hb2
 obtain ⟨a0,a1,a2,a3,a4⟩:=H3.out.2.1.c5
 obtain ⟨b0,b1,b2,b3,b4,b5,b6⟩:=H3.out.1.cells7
 go_wp2_with fail
 clear a0 a1 a2 a3 a4 b0 b1 b2 b3 b4 b5 b6
 refine (R2.out _).mono ?_;rintro e w3 ⟨rfl,hb3⟩
 have k3:=H3.out.below hb3
 have kb:=HB.out.trans (hb3.mono HB.out.size);clear H3 HB
 have H3:=Hd k3;have HB:=Hd kb;clear k3 kb hb3
 obtain ⟨a0,a1,a2,a3,a4⟩:=H3.out.2.1.c5
 obtain ⟨b0,b1,b2,b3,b4,b5,b6⟩:=H3.out.1.cells7
 obtain ⟨f0,f1,f2,f3,f4⟩:=H3.out.2.2.f5
 obtain ⟨z0,z1,z2,z3,z4⟩:=H3.out.2.2.c5
 go_wp2_with fail
 refine bodyPost_ret (v:=.tuple #[.agg #[.int .i64 0,.int .i64 0,.int .i64 0,.int .i64 0,.int .i64 0],.bool false]) (two_results rfl _ _ _ 27 _ (0,0) _ rfl (row_set5' H3.out.2.2) Tryz.underlying27 rfl (by kernel_rfl) rfl) rfl ?_
 exact ⟨rfl,below_set5' HB.out (by omega)⟩
end

section
end
end Go.Proofs.YtonelpnhoiajgaaGreatDoor
