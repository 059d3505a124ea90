import Derived.Test.YtonelpnhoiajgaaGreatDoorHd
import Derived.Test.YtonelpnhoiajgaaGreatDoorCa12
import Derived.Test.YtonelpnhoiajgaaGreatDoorCa5
import Derived.Shelf.Abstract
namespace Go.Proofs.YtonelpnhoiajgaaGreatDoor
set_option linter.unusedSimpArgs false
set_option maxRecDepth 100000
open Go.ChangeShapes Go.WideShapes Go.ChangeAt Go.RowKit Go.BigFrame
set_option linter.unusedVariables false
section
def Ts (w : World) (A : Option Addr) (ts : List St) : Prop :=
 0 < ts.length → ∃ b o,A = some ⟨b,o,none⟩ ∧ b < w.heap.size ∧ ∀ (j : Nat) (u : Value),(rowS ts)[j]? = some u → w.cell? ⟨b,o + j,none⟩ = some u
section
variable {w w' : World} {A : Option Addr} {ts : List St}
theorem Ts.below (h : Ts w A ts) (hb : Below w.heap.size w w') : Ts w' A ts:=fun hn => by
 obtain ⟨b,o,e,hlt,hc⟩:=h hn
 exact ⟨b,o,e,Nat.lt_of_lt_of_le hlt hb.size,fun j u hu => (hb.cell (p:=⟨b,o + j,none⟩) hlt).trans (hc j u hu)⟩
theorem Ts.nil : Ts w A []:=fun h => absurd h (by simp)
theorem Ts.of (h : Times w A ts) : Ts w A ts:=fun hn => by
 obtain ⟨b,e,hlt,hc⟩:=h hn
 exact ⟨b,0,e,hlt,fun j u hu => by rw [Nat.zero_add];exact hc j u hu⟩
theorem rowS_take (ts : List St) (k : Nat) : rowS (ts.take k) = (rowS ts).take (k * 5):=by
 induction ts generalizing k with
 | nil => simp [rowS]
 | cons t ts ih =>
   cases k with
   | zero => simp [rowS]
   | succ k => rw [List.take_succ_cons,rowS_cons,rowS_cons,ih,show (k + 1) * 5 = k * 5 + 1 + 1 + 1 + 1 + 1 by omega];simp only [List.take_succ_cons]
theorem Ts.take (h : Ts w A ts) (k : Nat) : Ts w A (ts.take k):=fun hn => by
 obtain ⟨b,o,e,hlt,hc⟩:=h (by rw [List.length_take] at hn;omega)
 refine ⟨b,o,e,hlt,fun j u hu => hc j u ?_⟩
 rw [rowS_take,List.getElem?_take] at hu
 split at hu
 · exact hu
 · cases hu
theorem run_load_st (w : World) (b o : Nat) (t : St) (h : ∀ j v,t.cells[j]? = some v → w.cell? ⟨b,o + j,none⟩ = some v) :
 (Instr.loadAt 27 (.pointer (some ⟨b,o,none⟩))).run Tryz.prog w = .ok (.agg #[.int .i64 t.d,.int .i64 t.e,.int .i64 t.x,.int .i64 t.y,.int .i64 t.z]) w :=
 run_loadAt_part b o 27 _ t.cells (fun j v hj => by rw [add_at];exact h j v hj) Tryz.underlying27 rfl (by kernel_rfl)
theorem Ts.load (h : Ts w A ts) {i : Nat} {t : St} (hi : ts[i]? = some t) : ∃ b o,A = some ⟨b,o,none⟩ ∧ b < w.heap.size ∧
 ∀ w',Below w.heap.size w w' → (Instr.loadAt 27 (.pointer (some ⟨b,o + i * 5,none⟩))).run Tryz.prog w' = .ok (.agg #[.int .i64 t.d,.int .i64 t.e,.int .i64 t.x,.int .i64 t.y,.int .i64 t.z]) w':=by
 obtain ⟨hl,_⟩:=List.getElem?_eq_some_iff.1 hi
 obtain ⟨b,o,e,hlt,hc⟩:=h (by omega)
 refine ⟨b,o,e,hlt,fun w' hb => run_load_st _ _ _ _ fun j v hj => ?_⟩
 rw [hb.cell (p:=⟨b,o + i * 5 + j,none⟩) hlt,Nat.add_assoc]
 exact hc _ v (rowS_at ts i t hi j v hj)
theorem Ts.five (h : Ts w A ts) {i : Nat} {t : St} (hi : ts[i]? = some t) : ∃ b o,A = some ⟨b,o,none⟩ ∧ b < w.heap.size ∧
 ∀ w',Below w.heap.size w w' → w'.cell? ⟨b,o + i * 5,none⟩ = some (.int .i64 t.d) ∧ w'.cell? ⟨b,o + i * 5 + 1,none⟩ = some (.int .i64 t.e) ∧ w'.cell? ⟨b,o + i * 5 + 2,none⟩ = some (.int .i64 t.x) ∧ w'.cell? ⟨b,o + i * 5 + 3,none⟩ = some (.int .i64 t.y) ∧ w'.cell? ⟨b,o + i * 5 + 4,none⟩ = some (.int .i64 t.z):=by
 obtain ⟨hl,_⟩:=List.getElem?_eq_some_iff.1 hi
 obtain ⟨b,o,e,hlt,hc⟩:=h (by omega)
 refine ⟨b,o,e,hlt,fun w' hb => ?_⟩
 have key : ∀ j v,t.cells[j]? = some v → w'.cell? ⟨b,o + i * 5 + j,none⟩ = some v:=fun j v hj => by
  rw [hb.cell (p:=⟨b,o + i * 5 + j,none⟩) hlt,Nat.add_assoc]
  exact hc _ v (rowS_at ts i t hi j v hj)
 exact ⟨key 0 _ rfl,key 1 _ rfl,key 2 _ rfl,key 3 _ rfl,key 4 _ rfl⟩
end
def Tells (g : Nat) (lb : Array Value) (p : St → Bool) (w : World) : Prop :=
 ∀ (W : World) (x : St),Below w.heap.size w W → Calls Tryz.prog g (#[x.val] ++ lb) W fun e w' => e = .returned (.bool (p x)) ∧ Below W.heap.size W w'
theorem any_false {p : St → Bool} {ts : List St} : ts.any p = false ↔ ∀ (j : Nat) (t : St),ts[j]? = some t → p t = false:=by
 rw [List.any_eq_false]
 constructor
 · intro h j t ht
   have:=h t (List.mem_of_getElem? ht)
   simpa using this
 · intro h t ht
   obtain ⟨j,hj⟩:=List.getElem?_of_mem ht
   rw [h j t hj];simp
theorem indexFunc_any (A : Option Addr) (ts : List St) (c g : Nat) (lb : Array Value) (p : St → Bool) (w : World) (hT : Ts w A ts) (hn : ts.length ≤ 200000000)
 (eg : ∀ args w,(callFunc g args).run Tryz.prog w = .ok (.enter g args) w) (hp : 0 < ts.length → Tells g lb p w) :
 Calls Tryz.prog 123 #[.slice A ts.length c,.func (.func g) #[] lb] w fun e w' => (∃ i : Int,e = .returned (.int .i64 i) ∧ decide (0 ≤ i) = ts.any p) ∧ Below w.heap.size w w':=by
 have HT:=Hd hT;have HP:=Hd hp;clear hT hp
 go_enter Tryz.func123,Tryz.ntmps123
 go_wp2_with fail
 go_loopw [5,8] (fun _ i wr => ∃ k : Nat,k ≤ ts.length ∧ i = .int .i64 k ∧ Below w.heap.size w wr ∧ ∀ (j : Nat) (t : St),j < k → ts[j]? = some t → p t = false) (fun _ i _ => ts.length - (intOf i).toNat)
 case atStart => exact ⟨0,by omega,rfl,Below.refl _ _,fun j t h => absurd h (by omega)⟩
 case round =>
  obtain ⟨k,hk,rfl,hb,hno⟩:=hrel
  have HB:=Hd hb;have HNO:=Hd hno;clear hb hno
  by_cases hlt : k < ts.length
  · have hltz : (k : Int) < (ts.length : Int):=by omega
    obtain ⟨t,ht⟩ : ∃ t,ts[k]? = some t:=⟨_,List.getElem?_eq_getElem hlt⟩
    obtain ⟨b,o,rfl,hbl,hld⟩:=HT.out.five ht
    obtain ⟨c0,c1,c2,c3,c4⟩:=hld _ HB.out
    have hcall:=HP.out (by omega) wr t HB.out
    have HTT:=Hd ht;clear ht
    cases hq : p t with
    | true =>
      rw [hq] at hcall
      have HQ:=Hd hq;clear hq
      go_wp2_with fail
      refine hcall.mono ?_;rintro e w1 ⟨rfl,hb1⟩
      have HB1:=Hd (HB.out.trans (hb1.mono HB.out.size));clear hb1 hld hcall c0 c1 c2 c3 c4
      go_wp2_with fail
      go_ret
      refine ⟨⟨k,rfl,?_⟩,HB1.out⟩
      rw [decide_eq_true (by omega),eq_comm,List.any_eq_true]
      exact ⟨t,List.mem_of_getElem? HTT.out,HQ.out⟩
    | false =>
      rw [hq] at hcall
      have HQ:=Hd hq;clear hq
      go_wp2_with fail
      refine hcall.mono ?_;rintro e w1 ⟨rfl,hb1⟩
      have HB1:=Hd (HB.out.trans (hb1.mono HB.out.size));clear hb1 hld hcall c0 c1 c2 c3 c4
      go_wp2_with fail
      go_roundw
      case rel =>
       refine ⟨k + 1,by omega,by simp,HB1.out,fun j t' hj ht' => ?_⟩
       by_cases e : j = k
       · subst e
         rw [HTT.out] at ht';cases ht'
         exact HQ.out
       · exact HNO.out j t' (by omega) ht'
      case measure => simp [intOf];omega
  · have hltz : ¬ (k : Int) < (ts.length : Int):=by omega
    go_wp2_with fail
    go_ret
    refine ⟨⟨-1,rfl,?_⟩,HB.out⟩
    rw [decide_eq_false (by omega),eq_comm,any_false]
    exact fun j t ht => HNO.out j t (by have:=(List.getElem?_eq_some_iff.1 ht).1;omega) ht
theorem containsFunc_any (A : Option Addr) (ts : List St) (c g : Nat) (lb : Array Value) (p : St → Bool) (w : World) (hT : Ts w A ts) (hn : ts.length ≤ 200000000)
 (eg : ∀ args w,(callFunc g args).run Tryz.prog w = .ok (.enter g args) w) (hp : 0 < ts.length → Tells g lb p w) :
 Calls Tryz.prog 71 #[.slice A ts.length c,.func (.func g) #[] lb] w fun e w' => e = .returned (.bool (ts.any p)) ∧ Below w.heap.size w w':=by
 have H:=Hd (indexFunc_any A ts c g lb p w hT hn eg hp);clear hT hp eg
 go_enter Tryz.func71,Tryz.ntmps71
 go_wp2_with fail
 refine (H.out).mono ?_;rintro e w1 ⟨⟨i,rfl,hi⟩,hb⟩
 have HB:=Hd hb;clear hb
 have HI:=Hd hi;clear hi
 go_wp2_with fail
 go_ret
 exact ⟨ret_bool HI.out,HB.out⟩
end

section
theorem reachedC (B : Nat) (t : St) (w : World) (hB : Holds w B t) : Tells 121 #[.pointer (some ⟨B,0,none⟩)] (fun x => decide (x.L t)) w:=by
 intro W x hb
 show Calls _ _ #[x.val,.pointer (some ⟨B,0,none⟩)] _ (fun e w' => e = .returned (.bool (decide (x.L t))) ∧ Below W.heap.size W w')
 have h:=hB.below hb
 have hc:=fun w => leq_any x t w
 generalize decide (x.L t) = v at *
 have hl:=h.lt
 obtain ⟨c0,c1,c2,c3,c4⟩:=h.cells5
 unfold St.val at *
 have HC:=Hd hc;clear hc h hB hb
 go_enter Tryz.func121,Tryz.ntmps121
 go_wp2_with fail
 refine (HC.out _).mono ?_;rintro e w1 ⟨rfl,hb1⟩
 have HB1:=Hd hb1;clear hb1 c0 c1 c2 c3 c4
 go_wp2_with fail
 go_ret
 exact ⟨rfl,((Below.refl _ _).alloc (Nat.le_refl _) _).trans (HB1.out.mono (by simp))⟩
theorem reached_any (A : Option Addr) (ts : List St) (c : Nat) (t : St) (w : World) (hT : Ts w A ts) (hn : ts.length ≤ 200000000) :
 Calls Tryz.prog 69 #[.slice A ts.length c,t.val] w fun e w' => e = .returned (.bool (ts.any fun x => decide (x.L t))) ∧ Below w.heap.size w w':=by
 have hh:=Holds.made w t
 have hc:=containsFunc_any A ts c 121 #[.pointer (some ⟨w.heap.size,0,none⟩)] (fun x => decide (x.L t)) _ (hT.below ((Below.refl _ _).alloc (Nat.le_refl _) _)) hn (enters_of Tryz.func121 (by kernel_rfl) rfl) (fun _ => reachedC w.heap.size t _ hh)
 generalize (ts.any fun x => decide (x.L t)) = v at *
 unfold St.val at *
 have HC:=Hd hc;clear hc hh hT
 go_enter Tryz.func69,Tryz.ntmps69
 go_wp2_with fail
 refine (HC.out).mono ?_;rintro e w1 ⟨rfl,hb1⟩
 have HB1:=Hd hb1;clear hb1
 go_wp2_with fail
 go_ret
 exact ⟨rfl,((Below.refl _ _).alloc (Nat.le_refl _) _).trans (HB1.out.mono (by simp))⟩
end

section
def BoxAt (w : World) (B : Nat) (v : Value) : Prop:=B < w.heap.size ∧ w.cell? ⟨B,0,none⟩ = some v
section
variable {w w' W : World} {B b o n c : Nat} {A : Option Addr} {v : Value} {x y : Operand} {i j : Int} {p : Bool}
theorem BoxAt.below (h : BoxAt w B v) (hb : Below w.heap.size w w') : BoxAt w' B v:=⟨Nat.lt_of_lt_of_le h.1 hb.size,(hb.cell (p:=⟨B,0,none⟩) h.1).trans h.2⟩
theorem BoxAt.made (w : World) (v : Value) (t : TypeId) : BoxAt (w.alloc (.cells #[v] t)) w.heap.size v:=by
 have h : Row (w.alloc (.cells #[v] t)) w.heap.size t [v]:=Row.made w _ _
 exact ⟨h.lt,h.cell 0⟩
theorem load_box (h : BoxAt W B (.slice A n c)) : ∀ w',Below W.heap.size W w' → (Instr.loadAt 34 (.pointer (some ⟨B,0,none⟩))).run Tryz.prog w' = .ok (.slice A n c) w':=by
 intro w' hb
 have hc:=(h.below hb).2
 go_simp
theorem load_at (hb : b < W.heap.size) (h : W.cell? ⟨b,o,none⟩ = some (.int .i64 i)) : ∀ w',Below W.heap.size W w' → (Instr.loadAt 3 (.pointer (some ⟨b,o,none⟩))).run Tryz.prog w' = .ok (.int .i64 i) w':=by
 intro w' hbw
 have hc:=(hbw.cell (p:=⟨b,o,none⟩) hb).trans h
 go_simp
theorem nei_is (h : (i != j) = p) : ∀ w,(do eqGuard .neq 3 x y (.int .i64 i) (.int .i64 j);binOp .neq 3 (.int .i64 i) (.int .i64 j) : Sem Value).run Tryz.prog w = .ok (.bool p) w:=by
 intro w;subst h;go_simp
theorem lti_is (h : decide (i < j) = p) : ∀ w,(do eqGuard .lss 3 x y (.int .i64 i) (.int .i64 j);binOp .lss 3 (.int .i64 i) (.int .i64 j) : Sem Value).run Tryz.prog w = .ok (.bool p) w:=by
 intro w;subst h;go_simp
theorem sub_is {k : Int} (h : i - j = k) (h1 : -10000000000 ≤ k) (h2 : k ≤ 10000000000) : ∀ w,(do eqGuard .sub 3 x y (.int .i64 i) (.int .i64 j);binOp .sub 3 (.int .i64 i) (.int .i64 j) : Sem Value).run Tryz.prog w = .ok (.int .i64 k) w:=by
 intro w
 subst h
 have : IntKind.i64.wrap (i - j) = i - j:=IntWalk.i64_in _ (by omega)
 go_simp
theorem Ts.first {ts : List St} {z : St} (h : Ts w A (z :: ts)) : ∃ b o,A = some ⟨b,o,none⟩ ∧ b < w.heap.size ∧ w.cell? ⟨b,o,none⟩ = some (.int .i64 z.d):=by
 obtain ⟨b,o,e,hlt,h5⟩:=h.five (i:=0) rfl
 have:=(h5 w (Below.refl _ _)).1
 rw [Nat.zero_mul,Nat.add_zero] at this
 exact ⟨b,o,e,hlt,this⟩
end
end

section
theorem alikeC (B : Nat) (A : Option Addr) (z : St) (ts : List St) (c : Nat) (w : World) (hB : BoxAt w B (.slice A (z :: ts).length c)) (hT : Ts w A (z :: ts)) : Tells 169 #[.pointer (some ⟨B,0,none⟩)] (fun x => !decide x.R || x.d != z.d) w:=by
 intro W x hb
 show Calls _ _ #[x.val,.pointer (some ⟨B,0,none⟩)] _ (fun e w' => e = .returned (.bool (!decide x.R || x.d != z.d)) ∧ Below W.heap.size W w')
 have hbA:=(Below.refl W.heap.size W).alloc (Nat.le_refl _) (.cells #[.int .i64 x.d,.int .i64 x.e,.int .i64 x.x,.int .i64 x.y,.int .i64 x.z] 27)
 have hbox:=(hB.below hb).below hbA
 obtain ⟨b,o,rfl,hbl,h0⟩:=((hT.below hb).below hbA).first
 have hx:=Holds.made W x
 by_cases hR : x.R
 · have hr:=right_is (decide_eq_true hR) (right_any x)
   have hn : 0 < (z :: ts).length:=by simp
   rw [decide_eq_true hR,Bool.not_true,Bool.false_or]
   generalize hv : (x.d != z.d) = v at *
   generalize (z :: ts).length = n at *
   unfold St.val at *
   have HR:=Hd hr;have HX:=Hd hx;have HBX:=Hd hbox;have H0:=Hd (And.intro hbl h0);have HV:=Hd hv;have HA:=Hd hbA
   clear hr hx hbox hbl h0 hv hbA hB hT hb hR
   go_enter Tryz.func169,Tryz.ntmps169
   go_wp2_with fail
   generalize W.alloc (.cells #[.int .i64 x.d,.int .i64 x.e,.int .i64 x.x,.int .i64 x.y,.int .i64 x.z] 27) = w0 at *
   refine wp_region_below (by kernel_rfl) (by kernel_rfl) ?_
   refine wpQuiet_step (fun K hK => ?_);refine q_load (p:=.pointer (some ⟨W.heap.size,0,none⟩)) 27 _ rfl rfl rfl (load_t HX.out) ?_;go_simp;(with_reducible refine hK _ ?_);clear hK K
   refine wpQuiet_step (fun K hK => ?_);go_simp;(with_reducible refine ⟨_,fun _ hb => (HR.out _).mono fun _ _ h => ⟨h.1,hb.trans (h.2.mono (by simpa using hb.size))⟩,hK _ ?_⟩);clear hK K
   iterate 3 (refine wpQuiet_step (fun K hK => ?_);go_simp;(first | (with_reducible refine hK _ ?_) | (with_reducible refine ⟨_,fun _ _ => rfl,hK _ ?_⟩));clear hK K)
   refine wpQuiet_step (fun K hK => ?_);refine q_load (p:=.pointer (some ⟨W.heap.size,0,none⟩)) 3 _ rfl rfl rfl (load_d HX.out) ?_;go_simp;(with_reducible refine hK _ ?_);clear hK K
   refine wpQuiet_step (fun K hK => ?_);refine q_load (p:=.pointer (some ⟨B,0,none⟩)) 34 _ rfl rfl rfl (load_box HBX.out) ?_;go_simp;(with_reducible refine hK _ ?_);clear hK K
   iterate 2 (refine wpQuiet_step (fun K hK => ?_);go_simp;(first | (with_reducible refine hK _ ?_) | (with_reducible refine ⟨_,fun _ _ => rfl,hK _ ?_⟩));clear hK K)
   refine wpQuiet_step (fun K hK => ?_);refine q_load (p:=.pointer (some ⟨b,o,none⟩)) 3 _ rfl rfl rfl (load_at H0.out.1 H0.out.2) ?_;go_simp;(with_reducible refine hK _ ?_);clear hK K
   refine wpQuiet_step (fun K hK => ?_);refine q_bin _ _ _ _ _ rfl rfl rfl rfl (nei_is HV.out) ?_;go_simp;(with_reducible refine hK _ ?_);clear hK K
   iterate 2 (refine wpQuiet_step (fun K hK => ?_);go_simp;(first | (with_reducible refine hK _ ?_) | (with_reducible refine ⟨_,fun _ _ => rfl,hK _ ?_⟩));clear hK K)
   refine wpQuiet_nil ?_
   intro w1 hb1
   go_wp2_with fail
   go_ret
   exact ⟨rfl,HA.out.trans (hb1.mono HA.out.size)⟩
 · have hr:=right_is (decide_eq_false hR) (right_any x)
   rw [decide_eq_false hR,Bool.not_false,Bool.true_or]
   unfold St.val at *
   have HR:=Hd hr;have HX:=Hd hx;have HA:=Hd hbA
   clear hr hx hbox hbl h0 hbA hB hT hb hR
   go_enter Tryz.func169,Tryz.ntmps169
   go_wp2_with fail
   generalize W.alloc (.cells #[.int .i64 x.d,.int .i64 x.e,.int .i64 x.x,.int .i64 x.y,.int .i64 x.z] 27) = w0 at *
   refine wp_region_below (by kernel_rfl) (by kernel_rfl) ?_
   refine wpQuiet_step (fun K hK => ?_);refine q_load (p:=.pointer (some ⟨W.heap.size,0,none⟩)) 27 _ rfl rfl rfl (load_t HX.out) ?_;go_simp;(with_reducible refine hK _ ?_);clear hK K
   refine wpQuiet_step (fun K hK => ?_);go_simp;(with_reducible refine ⟨_,fun _ hb => (HR.out _).mono fun _ _ h => ⟨h.1,hb.trans (h.2.mono (by simpa using hb.size))⟩,hK _ ?_⟩);clear hK K
   refine wpQuiet_step (fun K hK => ?_);go_simp;(first | (with_reducible refine hK _ ?_) | (with_reducible refine ⟨_,fun _ _ => rfl,hK _ ?_⟩));clear hK K
   refine wpQuiet_step (fun K hK => ?_);go_simp;(try (with_reducible refine ⟨_,fun _ _ => rfl,?_⟩));generalize hA : ({ tmps:=_,defers:=_ } : Act) = A;(with_reducible refine hK A ?_);clear hK K
   iterate 7 (refine wpQuiet_step (fun K hK => ?_);subst hA;go_simp;(try (with_reducible refine ⟨_,fun _ _ => rfl,?_⟩));generalize hA : ({ tmps:=_,defers:=_ } : Act) = A;(with_reducible refine hK A ?_);clear hK K)
   refine wpQuiet_step (fun K hK => ?_);subst hA;go_simp;(first | (with_reducible refine hK _ ?_) | (with_reducible refine ⟨_,fun _ _ => rfl,hK _ ?_⟩));clear hK K
   refine wpQuiet_step (fun K hK => ?_);go_simp;(first | (with_reducible refine hK _ ?_) | (with_reducible refine ⟨_,fun _ _ => rfl,hK _ ?_⟩));clear hK K
   refine wpQuiet_nil ?_
   intro w1 hb1
   go_wp2_with fail
   go_ret
   exact ⟨rfl,HA.out.trans (hb1.mono HA.out.size)⟩
instance (l : List St) : Decidable (Even l):=inferInstanceAs (Decidable (∀ x ∈ l,x.R ∧ ∀ y ∈ l,x.d = y.d))
theorem even_any (z : St) (ts : List St) : (!(z :: ts).any fun x => !decide x.R || x.d != z.d) = decide (Even (z :: ts)):=by
 rw [Bool.eq_iff_iff,Bool.not_eq_true',List.any_eq_false,decide_eq_true_iff]
 simp only [Bool.or_eq_true,Bool.not_eq_true',decide_eq_false_iff_not,bne_iff_ne,ne_eq,not_or,Decidable.not_not]
 constructor
 · intro h x hx
   exact ⟨(h x hx).1,fun y hy => (h x hx).2.trans (h y hy).2.symm⟩
 · intro h x hx
   exact ⟨(h x hx).1,(h x hx).2 z List.mem_cons_self⟩
theorem alike_any (A : Option Addr) (ts : List St) (c : Nat) (w : World) (hT : Ts w A ts) (hn : ts.length ≤ 200000000) :
 Calls Tryz.prog 107 #[.slice A ts.length c] w fun e w' => e = .returned (.bool (decide (Even ts))) ∧ Below w.heap.size w w':=by
 obtain ⟨v,hv,hc⟩ : ∃ v,(!v) = decide (Even ts) ∧ Calls Tryz.prog 71 #[.slice A ts.length c,.func (.func 169) #[] #[.pointer (some ⟨w.heap.size,0,none⟩)]] (w.alloc (.cells #[.slice A ts.length c] 34)) fun e w' => e = .returned (.bool v) ∧ Below (w.alloc (.cells #[.slice A ts.length c] 34)).heap.size (w.alloc (.cells #[.slice A ts.length c] 34)) w':=by
  have hb:=(Below.refl w.heap.size w).alloc (Nat.le_refl _) (.cells #[.slice A ts.length c] 34)
  cases ts with
  | nil => exact ⟨false,(decide_eq_true (fun x hx => absurd hx (by simp))).symm,containsFunc_any A [] c 169 _ (fun _ => false) _ (hT.below hb) hn (enters_of Tryz.func169 (by kernel_rfl) rfl) (fun h => absurd h (by simp))⟩
  | cons z ts => exact ⟨_,even_any z ts,containsFunc_any A (z :: ts) c 169 _ _ _ (hT.below hb) hn (enters_of Tryz.func169 (by kernel_rfl) rfl) (fun _ => alikeC _ A z ts c _ (BoxAt.made w _ _) (hT.below hb))⟩
 rw [← hv]
 have HC:=Hd hc;clear hc hT hv
 go_enter Tryz.func107,Tryz.ntmps107
 go_wp2_with fail
 refine (HC.out).mono ?_;rintro e w1 ⟨rfl,hb1⟩
 have HB1:=Hd hb1;clear hb1
 go_wp2_with fail
 go_ret
 exact ⟨rfl,((Below.refl _ _).alloc (Nat.le_refl _) _).trans (HB1.out.mono (by simp))⟩
end

section
def Rises (ts : List St) : Prop:=∀ (j : Nat) (t u : St),ts[j]? = some t → ts[j + 1]? = some u → ¬ u.C t < 0
noncomputable instance (ts : List St) : Decidable (Rises ts):=Classical.propDecidable _
theorem isSorted_any (A : Option Addr) (ts : List St) (c : Nat) (w : World) (hT : Ts w A ts) (hn : ts.length ≤ 200000000) :
 Calls Tryz.prog 172 #[.slice A ts.length c,.func (.func 129) #[] #[]] w fun e w' => e = .returned (.bool (decide (Rises ts))) ∧ Below w.heap.size w w':=by
 have eg : ∀ args w,(callFunc 129 args).run Tryz.prog w = .ok (.enter 129 args) w:=enters_of Tryz.func129 (by kernel_rfl) rfl
 have HT:=Hd hT;clear hT
 have hw:=IntWalk.i64_in ((ts.length : Int) - 1) (by omega)
 go_enter Tryz.func172,Tryz.ntmps172
 go_wp2_with fail
 go_loopw [5] (fun i wr => ∃ k : Nat,k ≤ ts.length ∧ i = .int .i64 ((k : Int) - 1) ∧ Below w.heap.size w wr ∧ ∀ (j : Nat) (t u : St),k ≤ j + 1 → ts[j]? = some t → ts[j + 1]? = some u → ¬ u.C t < 0) (fun i _ => (intOf i).toNat)
 case atStart => exact ⟨ts.length,Nat.le_refl _,rfl,Below.refl _ _,fun j t u h _ hu => by have:=(List.getElem?_eq_some_iff.1 hu).1;omega⟩
 case round =>
  obtain ⟨k,hk,rfl,hb,hno⟩:=hrel
  clear hw
  by_cases h2 : 2 ≤ k
  · obtain ⟨m,rfl⟩ : ∃ m,k = m + 2:=⟨k - 2,by omega⟩
    rw [show ((m + 2 : Nat) : Int) - 1 = ((m + 1 : Nat) : Int) by omega]
    have l0 : m < ts.length:=by omega
    have l1 : m + 1 < ts.length:=by omega
    have lz : 0 < m + 1:=by omega
    generalize hq : m + 1 = q at *
    obtain ⟨t,ht⟩ : ∃ t,ts[m]? = some t:=⟨_,List.getElem?_eq_getElem l0⟩
    obtain ⟨u,hu⟩ : ∃ u,ts[q]? = some u:=⟨_,List.getElem?_eq_getElem l1⟩
    have hT':=HT.out.below hb
    obtain ⟨b,o,rfl,hbl,hl0⟩:=hT'.load ht
    obtain ⟨b',o',e,_,hl1⟩:=hT'.load hu
    cases e
    have hc:=fun w => compare_any u t w
    generalize hcv : u.C t = cv at *
    unfold St.val at *
    have HB:=Hd hb;have HNO:=Hd hno;have H0:=Hd hl0;have H1:=Hd hl1;have HC:=Hd hc;have HTT:=Hd (And.intro ht hu);have HCV:=Hd hcv;have HQ:=Hd hq
    clear hb hno hl0 hl1 hc ht hu hT' hbl hcv h2 hq
    cases hv : decide (cv < 0) with
    | true =>
      have HV:=Hd hv;clear hv
      go_wp2_with fail
      refine wp_region_below (by kernel_rfl) (by kernel_rfl) ?_
      iterate 4 (refine wpQuiet_step (fun K hK => ?_);go_simp;(first | (with_reducible refine hK _ ?_) | (with_reducible refine ⟨_,fun _ _ => rfl,hK _ ?_⟩));clear hK K)
      refine wpQuiet_step (fun K hK => ?_);refine q_load (p:=.pointer (some ⟨b,o + q * 5,none⟩)) 27 _ rfl rfl rfl (H1.out) ?_;go_simp;(with_reducible refine hK _ ?_);clear hK K
      iterate 2 (refine wpQuiet_step (fun K hK => ?_);go_simp;(first | (with_reducible refine hK _ ?_) | (with_reducible refine ⟨_,fun _ _ => rfl,hK _ ?_⟩));clear hK K)
      refine wpQuiet_step (fun K hK => ?_);refine q_bin _ _ _ _ _ rfl rfl rfl rfl (sub_is (k:=(m : Nat)) (by have:=HQ.out;omega) (by omega) (by have:=HQ.out;omega)) ?_;go_simp;(with_reducible refine hK _ ?_);clear hK K
      refine wpQuiet_step (fun K hK => ?_);go_simp;(first | (with_reducible refine hK _ ?_) | (with_reducible refine ⟨_,fun _ _ => rfl,hK _ ?_⟩));clear hK K
      refine wpQuiet_step (fun K hK => ?_);refine q_load (p:=.pointer (some ⟨b,o + m * 5,none⟩)) 27 _ rfl rfl rfl (H0.out) ?_;go_simp;(with_reducible refine hK _ ?_);clear hK K
      refine wpQuiet_step (fun K hK => ?_);go_simp;(with_reducible refine ⟨_,fun _ hb => (HC.out _).mono fun _ _ h => ⟨h.1,hb.trans (h.2.mono (by simpa using hb.size))⟩,hK _ ?_⟩);clear hK K
      refine wpQuiet_step (fun K hK => ?_);refine q_bin _ _ _ _ _ rfl rfl rfl rfl (lti_is HV.out) ?_;go_simp;(with_reducible refine hK _ ?_);clear hK K
      refine wpQuiet_nil ?_
      intro w1 hb1
      go_wp2_with fail
      go_ret
      refine ⟨ret_bool ?_,HB.out.trans (hb1.mono HB.out.size)⟩
      rw [eq_comm,decide_eq_false_iff_not]
      intro h
      exact absurd (by rw [HCV.out];exact of_decide_eq_true HV.out) (h m t u HTT.out.1 (by rw [HQ.out];exact HTT.out.2))
    | false =>
      have HV:=Hd hv;clear hv
      go_wp2_with fail
      refine wp_region_below (by kernel_rfl) (by kernel_rfl) ?_
      iterate 4 (refine wpQuiet_step (fun K hK => ?_);go_simp;(first | (with_reducible refine hK _ ?_) | (with_reducible refine ⟨_,fun _ _ => rfl,hK _ ?_⟩));clear hK K)
      refine wpQuiet_step (fun K hK => ?_);refine q_load (p:=.pointer (some ⟨b,o + q * 5,none⟩)) 27 _ rfl rfl rfl (H1.out) ?_;go_simp;(with_reducible refine hK _ ?_);clear hK K
      iterate 2 (refine wpQuiet_step (fun K hK => ?_);go_simp;(first | (with_reducible refine hK _ ?_) | (with_reducible refine ⟨_,fun _ _ => rfl,hK _ ?_⟩));clear hK K)
      refine wpQuiet_step (fun K hK => ?_);refine q_bin _ _ _ _ _ rfl rfl rfl rfl (sub_is (k:=(m : Nat)) (by have:=HQ.out;omega) (by omega) (by have:=HQ.out;omega)) ?_;go_simp;(with_reducible refine hK _ ?_);clear hK K
      refine wpQuiet_step (fun K hK => ?_);go_simp;(first | (with_reducible refine hK _ ?_) | (with_reducible refine ⟨_,fun _ _ => rfl,hK _ ?_⟩));clear hK K
      refine wpQuiet_step (fun K hK => ?_);refine q_load (p:=.pointer (some ⟨b,o + m * 5,none⟩)) 27 _ rfl rfl rfl (H0.out) ?_;go_simp;(with_reducible refine hK _ ?_);clear hK K
      refine wpQuiet_step (fun K hK => ?_);go_simp;(with_reducible refine ⟨_,fun _ hb => (HC.out _).mono fun _ _ h => ⟨h.1,hb.trans (h.2.mono (by simpa using hb.size))⟩,hK _ ?_⟩);clear hK K
      refine wpQuiet_step (fun K hK => ?_);refine q_bin _ _ _ _ _ rfl rfl rfl rfl (lti_is HV.out) ?_;go_simp;(with_reducible refine hK _ ?_);clear hK K
      refine wpQuiet_nil ?_
      intro w1 hb1
      have hw2:=IntWalk.i64_in (((q : Nat) : Int) - 1) (by omega)
      go_wp2_with fail
      go_roundw
      case rel =>
       refine ⟨q,by omega,rfl,HB.out.trans (hb1.mono HB.out.size),fun j t' u' hj ht' hu' => ?_⟩
       have hq:=HQ.out
       by_cases e : j = m
       · subst e
         rw [HTT.out.1] at ht';rw [hq,HTT.out.2] at hu';cases ht';cases hu'
         rw [HCV.out];exact of_decide_eq_false HV.out
       · exact Int.not_lt.2 (HNO.out j t' u' (by omega) ht' hu')
      case measure => simp only [intOf];omega
  · have hz : ¬ (0 : Int) < (k : Int) - 1:=by omega
    have HB:=Hd hb;have HNO:=Hd hno;clear hb hno
    go_wp2_with fail
    go_ret
    refine ⟨ret_bool ?_,HB.out⟩
    rw [eq_comm,decide_eq_true_iff]
    exact fun j t u ht hu => Int.not_lt.2 (HNO.out j t u (by omega) ht hu)
end

section
noncomputable instance (ts : List St) : Decidable (Fr ts):=Classical.propDecidable _
theorem L_C (t u : St) (h : t.L u) : ¬ u.C t < 0:=by
 have h1:=St.L_C h
 have h2:=St.C_swap (a:=t) (b:=u)
 omega
theorem rises_pair {ts : List St} (h : Rises ts) : ts.Pairwise fun x y => x.C y ≤ 0:=by
 induction ts with
 | nil => exact List.Pairwise.nil
 | cons t ts ih =>
   have ih:=ih fun j x y hx hy => h (j + 1) x y (by simpa using hx) (by simpa using hy)
   refine List.pairwise_cons.2 ⟨?_,ih⟩
   cases ts with
   | nil => intro y hy;cases hy
   | cons u ts =>
     have h0 : t.C u ≤ 0:=by
      have h1:=h 0 t u rfl rfl
      have h2:=St.C_swap (a:=t) (b:=u)
      omega
     intro y hy
     rcases List.mem_cons.1 hy with rfl | hy
     · exact h0
     · exact St.C_trans h0 ((List.pairwise_cons.1 ih).1 y hy)
theorem fr_of {ts : List St} (he : Even ts) (hr : Rises ts) (hn : ∀ (i : Nat) (t : St),ts[i]? = some t → (ts.take i).any (fun x => decide (x.L t)) = false) : Fr ts:=by
 have hp:=rises_pair hr
 have hno : ∀ (i j : Nat) (x y : St),i < j → ts[i]? = some x → ts[j]? = some y → ¬ x.L y:=by
  intro i j x y hij hx hy hl
  have:=hn j y hy
  rw [List.any_eq_false] at this
  exact this x (List.mem_of_getElem? (i:=i) (by rw [List.getElem?_take,if_pos hij];exact hx)) (by simpa using hl)
 have hlt : ∀ (i j : Nat) (x y : St),i < j → ts[i]? = some x → ts[j]? = some y → x.C y < 0:=by
  intro i j x y hij hx hy
  obtain ⟨hi,ex⟩:=List.getElem?_eq_some_iff.1 hx
  obtain ⟨hj,ey⟩:=List.getElem?_eq_some_iff.1 hy
  have h1:=List.pairwise_iff_getElem.1 hp i j hi hj hij
  rw [ex,ey] at h1
  rcases Int.lt_or_eq_of_le h1 with h2 | h2
  · exact h2
  · have e:=St.C_zero.1 h2
    subst e
    exact absurd (St.L_refl.2 (he x (List.mem_of_getElem? hx)).1) (hno i j x x hij hx hy)
 refine ⟨fun x hx => (he x hx).1,fun x hx => (he x hx).2,List.pairwise_iff_getElem.2 fun i j hi hj hij => hlt i j _ _ hij (List.getElem?_eq_getElem hi) (List.getElem?_eq_getElem hj),fun x hx y hy hl => ?_⟩
 obtain ⟨i,hi⟩:=List.getElem?_of_mem hx
 obtain ⟨j,hj⟩:=List.getElem?_of_mem hy
 rcases Nat.lt_trichotomy i j with h | h | h
 · exact absurd hl (hno i j x y h hi hj)
 · subst h;rw [hi] at hj;cases hj;rfl
 · exact absurd (hlt j i y x h hj hi) (L_C x y hl)
theorem fr_rises {ts : List St} (h : Fr ts) : Rises ts:=fun j t u ht hu => by
 obtain ⟨hi,ex⟩:=List.getElem?_eq_some_iff.1 ht
 obtain ⟨hj,ey⟩:=List.getElem?_eq_some_iff.1 hu
 have:=List.pairwise_iff_getElem.1 h.sort j (j + 1) hi hj (by omega)
 rw [ex,ey] at this
 have h2:=St.C_swap (a:=t) (b:=u)
 omega
theorem fr_apart {ts : List St} (h : Fr ts) (i : Nat) (t : St) (ht : ts[i]? = some t) : (ts.take i).any (fun x => decide (x.L t)) = false:=by
 rw [List.any_eq_false]
 intro x hx hl
 have hl : x.L t:=by simpa using hl
 obtain ⟨j,hj⟩:=List.getElem?_of_mem hx
 rw [List.getElem?_take] at hj
 split at hj
 · rename_i hji
   obtain ⟨hj',ex⟩:=List.getElem?_eq_some_iff.1 hj
   obtain ⟨hi',et⟩:=List.getElem?_eq_some_iff.1 ht
   have h1:=List.pairwise_iff_getElem.1 h.sort j i hj' hi' hji
   rw [ex,et] at h1
   have h2:=h.anti x (List.mem_of_mem_take hx) t (List.mem_of_getElem? ht) hl
   subst h2
   exact absurd h1 (by have : x.C x = 0:=St.C_zero.2 rfl
                       omega)
 · cases hj
theorem right_row_any (A : Option Addr) (ts : List St) (c : Nat) (w : World) (hT : Ts w A ts) (hn : ts.length ≤ 200000000) (hc : ts.length ≤ c) (hm : c ≤ maxLen) :
 Calls Tryz.prog 122 #[.slice A ts.length c] w fun e w' => e = .returned (.bool (decide (Fr ts))) ∧ Below w.heap.size w w':=by
 have ha:=alike_any A ts c w hT hn
 by_cases he : Even ts
 · rw [decide_eq_true he] at ha
   have hs:=fun w hT => isSorted_any A ts c w hT hn
   by_cases hr : Rises ts
   · rw [decide_eq_true hr] at hs
     have HT:=Hd hT;have HS:=Hd hs;have HA:=Hd ha;have HE:=Hd (And.intro he hr);clear hT hs ha he hr
     go_enter Tryz.func122,Tryz.ntmps122
     go_wp2_with fail
     refine (HA.out).mono ?_;rintro e w1 ⟨rfl,hb1⟩
     have HB1:=Hd hb1;clear hb1
     go_wp2_with fail
     refine (HS.out _ (HT.out.below HB1.out)).mono ?_;rintro e w2 ⟨rfl,hb2⟩
     have HB2:=Hd (HB1.out.trans (hb2.mono HB1.out.size));clear hb2
     go_wp2_with fail
     clear HA HS
     go_loopw [15] (fun i wr => ∃ k : Nat,k ≤ ts.length ∧ i = .int .i64 k ∧ Below w.heap.size w wr ∧ ∀ (j : Nat) (t : St),j < k → ts[j]? = some t → (ts.take j).any (fun x => decide (x.L t)) = false) (fun i _ => ts.length - (intOf i).toNat)
     case atStart => exact ⟨0,by omega,rfl,HB2.out,fun j t h => absurd h (by omega)⟩
     case round =>
      obtain ⟨k,hk,rfl,hb,hno⟩:=hrel
      have HB:=Hd hb;have HNO:=Hd hno;clear hb hno HB1 HB2
      by_cases hlt : k < ts.length
      · have hltz : (k : Int) < (ts.length : Int):=by omega
        obtain ⟨t,ht⟩ : ∃ t,ts[k]? = some t:=⟨_,List.getElem?_eq_getElem hlt⟩
        have hT1:=HT.out.below HB.out
        obtain ⟨b,o,rfl,hbl,hld⟩:=hT1.five ht
        obtain ⟨c0,c1,c2,c3,c4⟩:=hld wr (Below.refl _ _)
        have hbt:=(Below.refl wr.heap.size wr).alloc (Nat.le_refl _) (.cells #[.int .i64 t.d,.int .i64 t.e,.int .i64 t.x,.int .i64 t.y,.int .i64 t.z] 27)
        have hx:=Holds.made wr t
        have hcall:=fun w' hb => reached_any (some ⟨b,o,none⟩) (ts.take k) c t w' (((hT1.below hbt).take k).below hb) (by rw [List.length_take];omega)
        rw [show (ts.take k).length = k by rw [List.length_take];omega] at hcall
        have hkc : k ≤ c:=by omega
        generalize hv : ((ts.take k).any fun x => decide (x.L t)) = v at *
        unfold St.val at *
        have HX:=Hd hx;have HC:=Hd hcall;have HBT:=Hd hbt;have HTT:=Hd ht;have HV:=Hd hv
        clear hx hcall hbt ht hv hT1 hld hbl
        cases v with
        | true =>
          go_wp2_with fail
          generalize wr.alloc (.cells #[.int .i64 t.d,.int .i64 t.e,.int .i64 t.x,.int .i64 t.y,.int .i64 t.z] 27) = w0 at *
          refine wp_region_below (by kernel_rfl) (by kernel_rfl) ?_
          iterate 3 (refine wpQuiet_step (fun K hK => ?_);go_simp;(first | (with_reducible refine hK _ ?_) | (with_reducible refine ⟨_,fun _ _ => rfl,hK _ ?_⟩));clear hK K)
          refine wpQuiet_step (fun K hK => ?_);refine q_load (p:=.pointer (some ⟨wr.heap.size,0,none⟩)) 27 _ rfl rfl rfl (load_t HX.out) ?_;go_simp;(with_reducible refine hK _ ?_);clear hK K
          refine wpQuiet_step (fun K hK => ?_);go_simp;(with_reducible refine ⟨_,fun wq hb => (HC.out wq hb).mono fun _ _ h => ⟨h.1,hb.trans (h.2.mono (by simpa using hb.size))⟩,hK _ ?_⟩);clear hK K
          refine wpQuiet_nil ?_
          intro w3 hb3
          go_wp2_with fail
          go_ret
          refine ⟨ret_bool ?_,HB.out.trans ((HBT.out.trans (hb3.mono HBT.out.size)).mono HB.out.size)⟩
          rw [eq_comm,decide_eq_false_iff_not]
          intro h
          have:=fr_apart h k t HTT.out
          rw [HV.out] at this;cases this
        | false =>
          go_wp2_with fail
          generalize wr.alloc (.cells #[.int .i64 t.d,.int .i64 t.e,.int .i64 t.x,.int .i64 t.y,.int .i64 t.z] 27) = w0 at *
          refine wp_region_below (by kernel_rfl) (by kernel_rfl) ?_
          iterate 3 (refine wpQuiet_step (fun K hK => ?_);go_simp;(first | (with_reducible refine hK _ ?_) | (with_reducible refine ⟨_,fun _ _ => rfl,hK _ ?_⟩));clear hK K)
          refine wpQuiet_step (fun K hK => ?_);refine q_load (p:=.pointer (some ⟨wr.heap.size,0,none⟩)) 27 _ rfl rfl rfl (load_t HX.out) ?_;go_simp;(with_reducible refine hK _ ?_);clear hK K
          refine wpQuiet_step (fun K hK => ?_);go_simp;(with_reducible refine ⟨_,fun wq hb => (HC.out wq hb).mono fun _ _ h => ⟨h.1,hb.trans (h.2.mono (by simpa using hb.size))⟩,hK _ ?_⟩);clear hK K
          refine wpQuiet_nil ?_
          intro w3 hb3
          have HB3:=Hd (HB.out.trans ((HBT.out.trans (hb3.mono HBT.out.size)).mono HB.out.size))
          clear hb3 c0 c1 c2 c3 c4
          go_wp2_with fail
          go_roundw
          case rel =>
           refine ⟨k + 1,by omega,by simp,HB3.out,fun j t' hj ht' => ?_⟩
           by_cases e : j = k
           · subst e
             rw [HTT.out] at ht';cases ht'
             exact HV.out
           · exact HNO.out j t' (by omega) ht'
          case measure => simp only [intOf];omega
      · have hltz : ¬ (k : Int) < (ts.length : Int):=by omega
        go_wp2_with fail
        go_ret
        refine ⟨ret_bool ?_,HB.out⟩
        rw [eq_comm,decide_eq_true_iff]
        exact fr_of HE.out.1 HE.out.2 fun i t ht => HNO.out i t (by have:=(List.getElem?_eq_some_iff.1 ht).1;omega) ht
   · have hf : decide (Fr ts) = false:=decide_eq_false fun h => hr (fr_rises h)
     rw [hf,decide_eq_false hr] at *
     have HT:=Hd hT;have HS:=Hd hs;have HA:=Hd ha;clear hT hs ha he hr hf
     go_enter Tryz.func122,Tryz.ntmps122
     go_wp2_with fail
     refine (HA.out).mono ?_;rintro e w1 ⟨rfl,hb1⟩
     have HB1:=Hd hb1;clear hb1
     go_wp2_with fail
     refine (HS.out _ (HT.out.below HB1.out)).mono ?_;rintro e w2 ⟨rfl,hb2⟩
     have HB2:=Hd (HB1.out.trans (hb2.mono HB1.out.size));clear hb2
     go_wp2_with fail
     go_ret
     exact ⟨rfl,HB2.out⟩
 · have hf : decide (Fr ts) = false:=decide_eq_false fun h => he h.even
   rw [hf,decide_eq_false he] at *
   have HA:=Hd ha;clear hT ha he hf
   go_enter Tryz.func122,Tryz.ntmps122
   go_wp2_with fail
   refine (HA.out).mono ?_;rintro e w1 ⟨rfl,hb1⟩
   have HB1:=Hd hb1;clear hb1
   go_wp2_with fail
   go_ret
   exact ⟨rfl,HB1.out⟩
end

section
noncomputable instance (a b : List St) : Decidable (Alike a b):=Classical.propDecidable _
set_option maxHeartbeats 8000000 in
theorem paired_any (A B : Option Addr) (a b : List St) (c d : Nat) (w : World) (hA : Ts w A a) (hB : Ts w B b) (ha : a.length ≤ 200000000) (hb : b.length ≤ 200000000) (hc : a.length ≤ c) (hd : b.length ≤ d) (hcm : c ≤ maxLen) (hdm : d ≤ maxLen) :
 Calls Tryz.prog 70 #[.slice A a.length c,.slice B b.length d] w fun e w' => e = .returned (.bool (decide (Alike a b))) ∧ Below w.heap.size w w':=by
 have h1:=fun w' hw => right_row_any A a c w' (hA.below hw) ha hc hcm
 have h2:=fun w' hw => right_row_any B b d w' (hB.below hw) hb hd hdm
 by_cases fa : Fr a
 · rw [decide_eq_true fa] at h1
   by_cases fb : Fr b
   · rw [decide_eq_true fb] at h2
     cases a with
     | nil =>
       have hv : decide (Alike [] b) = true:=decide_eq_true ⟨fa,fb,fun x hx => absurd hx (by simp)⟩
       have l1 : ((([] : List St).length : Int) == 0) = true:=rfl
       rw [hv];clear hv fa fb
       have H1:=Hd h1;have H2:=Hd h2;have L1:=Hd l1;clear h1 h2 l1 hA hB ha hb hc hd hcm hdm
       generalize ([] : List St).length = n at *
       go_enter Tryz.func70,Tryz.ntmps70
       go_wp2_with fail
       refine wp_region_below (by kernel_rfl) (by kernel_rfl) ?_
       refine wpQuiet_step (fun K hK => ?_);go_simp;(first | (with_reducible refine hK _ ?_) | (with_reducible refine ⟨_,fun _ _ => rfl,hK _ ?_⟩));clear hK K
       refine wpQuiet_step (fun K hK => ?_);go_simp;(with_reducible refine ⟨_,fun wq hb => (H1.out wq hb).mono fun _ _ h => ⟨h.1,hb.trans (h.2.mono (by simpa using hb.size))⟩,hK _ ?_⟩);clear hK K
       iterate 2 (refine wpQuiet_step (fun K hK => ?_);go_simp;(first | (with_reducible refine hK _ ?_) | (with_reducible refine ⟨_,fun _ _ => rfl,hK _ ?_⟩));clear hK K)
       refine wpQuiet_step (fun K hK => ?_);go_simp;(with_reducible refine ⟨_,fun wq hb => (H2.out wq hb).mono fun _ _ h => ⟨h.1,hb.trans (h.2.mono (by simpa using hb.size))⟩,hK _ ?_⟩);clear hK K
       iterate 4 (refine wpQuiet_step (fun K hK => ?_);go_simp;(first | (with_reducible refine hK _ ?_) | (with_reducible refine ⟨_,fun _ _ => rfl,hK _ ?_⟩));clear hK K)
       refine wpQuiet_step (fun K hK => ?_);refine q_bin _ _ _ _ _ rfl rfl rfl rfl (eqi_is L1.out) ?_;go_simp;(with_reducible refine hK _ ?_);clear hK K
       refine wpQuiet_step (fun K hK => ?_);go_simp;(try (with_reducible refine ⟨_,fun _ _ => rfl,?_⟩));generalize hA : ({ tmps:=_,defers:=_ } : Act) = A;(with_reducible refine hK A ?_);clear hK K
       iterate 3 (refine wpQuiet_step (fun K hK => ?_);subst hA;go_simp;(try (with_reducible refine ⟨_,fun _ _ => rfl,?_⟩));generalize hA : ({ tmps:=_,defers:=_ } : Act) = A;(with_reducible refine hK A ?_);clear hK K)
       refine wpQuiet_step (fun K hK => ?_);subst hA;go_simp;(first | (with_reducible refine hK _ ?_) | (with_reducible refine ⟨_,fun _ _ => rfl,hK _ ?_⟩));clear hK K
       refine wpQuiet_step (fun K hK => ?_);go_simp;(try (with_reducible refine ⟨_,fun _ _ => rfl,?_⟩));generalize hA : ({ tmps:=_,defers:=_ } : Act) = A;(with_reducible refine hK A ?_);clear hK K
       iterate 9 (refine wpQuiet_step (fun K hK => ?_);subst hA;go_simp;(try (with_reducible refine ⟨_,fun _ _ => rfl,?_⟩));generalize hA : ({ tmps:=_,defers:=_ } : Act) = A;(with_reducible refine hK A ?_);clear hK K)
       refine wpQuiet_step (fun K hK => ?_);subst hA;go_simp;(first | (with_reducible refine hK _ ?_) | (with_reducible refine ⟨_,fun _ _ => rfl,hK _ ?_⟩));clear hK K
       iterate 2 (refine wpQuiet_step (fun K hK => ?_);go_simp;(first | (with_reducible refine hK _ ?_) | (with_reducible refine ⟨_,fun _ _ => rfl,hK _ ?_⟩));clear hK K)
       refine wpQuiet_nil ?_
       intro w1 hb1
       go_wp2_with fail
       go_ret
       exact ⟨rfl,hb1⟩
     | cons x a =>
       cases b with
       | nil =>
         have hv : decide (Alike (x :: a) []) = true:=decide_eq_true ⟨fa,fb,fun x hx y hy => absurd hy (by simp)⟩
         have l1 : (((x :: a).length : Int) == 0) = false:=by rw [beq_eq_false_iff_ne,List.length_cons];omega
         have l2 : ((([] : List St).length : Int) == 0) = true:=rfl
         rw [hv];clear hv fa fb
         have H1:=Hd h1;have H2:=Hd h2;have L1:=Hd l1;have L2:=Hd l2;clear h1 h2 l1 l2 hA hB ha hb hc hd hcm hdm
         generalize ([] : List St).length = n at *
         generalize (x :: a).length = m at *
         go_enter Tryz.func70,Tryz.ntmps70
         go_wp2_with fail
         refine wp_region_below (by kernel_rfl) (by kernel_rfl) ?_
         refine wpQuiet_step (fun K hK => ?_);go_simp;(first | (with_reducible refine hK _ ?_) | (with_reducible refine ⟨_,fun _ _ => rfl,hK _ ?_⟩));clear hK K
         refine wpQuiet_step (fun K hK => ?_);go_simp;(with_reducible refine ⟨_,fun wq hb => (H1.out wq hb).mono fun _ _ h => ⟨h.1,hb.trans (h.2.mono (by simpa using hb.size))⟩,hK _ ?_⟩);clear hK K
         iterate 2 (refine wpQuiet_step (fun K hK => ?_);go_simp;(first | (with_reducible refine hK _ ?_) | (with_reducible refine ⟨_,fun _ _ => rfl,hK _ ?_⟩));clear hK K)
         refine wpQuiet_step (fun K hK => ?_);go_simp;(with_reducible refine ⟨_,fun wq hb => (H2.out wq hb).mono fun _ _ h => ⟨h.1,hb.trans (h.2.mono (by simpa using hb.size))⟩,hK _ ?_⟩);clear hK K
         iterate 4 (refine wpQuiet_step (fun K hK => ?_);go_simp;(first | (with_reducible refine hK _ ?_) | (with_reducible refine ⟨_,fun _ _ => rfl,hK _ ?_⟩));clear hK K)
         refine wpQuiet_step (fun K hK => ?_);refine q_bin _ _ _ _ _ rfl rfl rfl rfl (eqi_is L1.out) ?_;go_simp;(with_reducible refine hK _ ?_);clear hK K
         iterate 3 (refine wpQuiet_step (fun K hK => ?_);go_simp;(first | (with_reducible refine hK _ ?_) | (with_reducible refine ⟨_,fun _ _ => rfl,hK _ ?_⟩));clear hK K)
         refine wpQuiet_step (fun K hK => ?_);refine q_bin _ _ _ _ _ rfl rfl rfl rfl (eqi_is L2.out) ?_;go_simp;(with_reducible refine hK _ ?_);clear hK K
         refine wpQuiet_step (fun K hK => ?_);go_simp;(first | (with_reducible refine hK _ ?_) | (with_reducible refine ⟨_,fun _ _ => rfl,hK _ ?_⟩));clear hK K
         refine wpQuiet_step (fun K hK => ?_);go_simp;(try (with_reducible refine ⟨_,fun _ _ => rfl,?_⟩));generalize hA : ({ tmps:=_,defers:=_ } : Act) = A;(with_reducible refine hK A ?_);clear hK K
         iterate 9 (refine wpQuiet_step (fun K hK => ?_);subst hA;go_simp;(try (with_reducible refine ⟨_,fun _ _ => rfl,?_⟩));generalize hA : ({ tmps:=_,defers:=_ } : Act) = A;(with_reducible refine hK A ?_);clear hK K)
         refine wpQuiet_step (fun K hK => ?_);subst hA;go_simp;(first | (with_reducible refine hK _ ?_) | (with_reducible refine ⟨_,fun _ _ => rfl,hK _ ?_⟩));clear hK K
         iterate 2 (refine wpQuiet_step (fun K hK => ?_);go_simp;(first | (with_reducible refine hK _ ?_) | (with_reducible refine ⟨_,fun _ _ => rfl,hK _ ?_⟩));clear hK K)
         refine wpQuiet_nil ?_
         intro w1 hb1
         go_wp2_with fail
         go_ret
         exact ⟨rfl,hb1⟩
       | cons y b =>
         have hv : decide (Alike (x :: a) (y :: b)) = (x.d == y.d):=by
          rw [Bool.eq_iff_iff,decide_eq_true_iff,beq_iff_eq]
          exact ⟨fun h => h.2.2 x List.mem_cons_self y List.mem_cons_self,fun h => ⟨fa,fb,fun p hp q hq => (fa.depth p hp x List.mem_cons_self).trans (h.trans (fb.depth y List.mem_cons_self q hq))⟩⟩
         have l1 : (((x :: a).length : Int) == 0) = false:=by rw [beq_eq_false_iff_ne,List.length_cons];omega
         have l2 : (((y :: b).length : Int) == 0) = false:=by rw [beq_eq_false_iff_ne,List.length_cons];omega
         have m1 : 0 < (x :: a).length:=by simp
         have m2 : 0 < (y :: b).length:=by simp
         obtain ⟨p,q,rfl,hpl,hp⟩:=hA.first
         obtain ⟨r,s,rfl,hrl,hr⟩:=hB.first
         rw [hv];clear hv fa fb
         generalize hv : (x.d == y.d) = v at *
         have H1:=Hd h1;have H2:=Hd h2;have L1:=Hd l1;have L2:=Hd l2;have HP:=Hd (And.intro hpl hp);have HR:=Hd (And.intro hrl hr);have HV:=Hd hv;clear h1 h2 l1 l2 hA hB ha hb hc hd hcm hdm hpl hp hrl hr hv
         generalize (y :: b).length = n at *
         generalize (x :: a).length = m at *
         go_enter Tryz.func70,Tryz.ntmps70
         go_wp2_with fail
         refine wp_region_below (by kernel_rfl) (by kernel_rfl) ?_
         refine wpQuiet_step (fun K hK => ?_);go_simp;(first | (with_reducible refine hK _ ?_) | (with_reducible refine ⟨_,fun _ _ => rfl,hK _ ?_⟩));clear hK K
         refine wpQuiet_step (fun K hK => ?_);go_simp;(with_reducible refine ⟨_,fun wq hb => (H1.out wq hb).mono fun _ _ h => ⟨h.1,hb.trans (h.2.mono (by simpa using hb.size))⟩,hK _ ?_⟩);clear hK K
         iterate 2 (refine wpQuiet_step (fun K hK => ?_);go_simp;(first | (with_reducible refine hK _ ?_) | (with_reducible refine ⟨_,fun _ _ => rfl,hK _ ?_⟩));clear hK K)
         refine wpQuiet_step (fun K hK => ?_);go_simp;(with_reducible refine ⟨_,fun wq hb => (H2.out wq hb).mono fun _ _ h => ⟨h.1,hb.trans (h.2.mono (by simpa using hb.size))⟩,hK _ ?_⟩);clear hK K
         iterate 4 (refine wpQuiet_step (fun K hK => ?_);go_simp;(first | (with_reducible refine hK _ ?_) | (with_reducible refine ⟨_,fun _ _ => rfl,hK _ ?_⟩));clear hK K)
         refine wpQuiet_step (fun K hK => ?_);refine q_bin _ _ _ _ _ rfl rfl rfl rfl (eqi_is L1.out) ?_;go_simp;(with_reducible refine hK _ ?_);clear hK K
         iterate 3 (refine wpQuiet_step (fun K hK => ?_);go_simp;(first | (with_reducible refine hK _ ?_) | (with_reducible refine ⟨_,fun _ _ => rfl,hK _ ?_⟩));clear hK K)
         refine wpQuiet_step (fun K hK => ?_);refine q_bin _ _ _ _ _ rfl rfl rfl rfl (eqi_is L2.out) ?_;go_simp;(with_reducible refine hK _ ?_);clear hK K
         iterate 5 (refine wpQuiet_step (fun K hK => ?_);go_simp;(first | (with_reducible refine hK _ ?_) | (with_reducible refine ⟨_,fun _ _ => rfl,hK _ ?_⟩));clear hK K)
         refine wpQuiet_step (fun K hK => ?_);refine q_load (p:=.pointer (some ⟨p,q,none⟩)) 3 _ rfl rfl rfl (load_at HP.out.1 HP.out.2) ?_;go_simp;(with_reducible refine hK _ ?_);clear hK K
         iterate 3 (refine wpQuiet_step (fun K hK => ?_);go_simp;(first | (with_reducible refine hK _ ?_) | (with_reducible refine ⟨_,fun _ _ => rfl,hK _ ?_⟩));clear hK K)
         refine wpQuiet_step (fun K hK => ?_);refine q_load (p:=.pointer (some ⟨r,s,none⟩)) 3 _ rfl rfl rfl (load_at HR.out.1 HR.out.2) ?_;go_simp;(with_reducible refine hK _ ?_);clear hK K
         refine wpQuiet_step (fun K hK => ?_);refine q_bin _ _ _ _ _ rfl rfl rfl rfl (eqi_is HV.out) ?_;go_simp;(with_reducible refine hK _ ?_);clear hK K
         iterate 3 (refine wpQuiet_step (fun K hK => ?_);go_simp;(first | (with_reducible refine hK _ ?_) | (with_reducible refine ⟨_,fun _ _ => rfl,hK _ ?_⟩));clear hK K)
         refine wpQuiet_nil ?_
         intro w1 hb1
         go_wp2_with fail
         go_ret
         exact ⟨rfl,hb1⟩
   · rw [decide_eq_false fb] at h2
     have hv : decide (Alike a b) = false:=decide_eq_false fun h => fb h.2.1
     rw [hv];clear hv fa fb
     have H1:=Hd h1;have H2:=Hd h2;clear h1 h2 hA hB ha hb hc hd hcm hdm
     generalize b.length = n at *
     generalize a.length = m at *
     go_enter Tryz.func70,Tryz.ntmps70
     go_wp2_with fail
     refine wp_region_below (by kernel_rfl) (by kernel_rfl) ?_
     refine wpQuiet_step (fun K hK => ?_);go_simp;(first | (with_reducible refine hK _ ?_) | (with_reducible refine ⟨_,fun _ _ => rfl,hK _ ?_⟩));clear hK K
     refine wpQuiet_step (fun K hK => ?_);go_simp;(with_reducible refine ⟨_,fun wq hb => (H1.out wq hb).mono fun _ _ h => ⟨h.1,hb.trans (h.2.mono (by simpa using hb.size))⟩,hK _ ?_⟩);clear hK K
     iterate 2 (refine wpQuiet_step (fun K hK => ?_);go_simp;(first | (with_reducible refine hK _ ?_) | (with_reducible refine ⟨_,fun _ _ => rfl,hK _ ?_⟩));clear hK K)
     refine wpQuiet_step (fun K hK => ?_);go_simp;(with_reducible refine ⟨_,fun wq hb => (H2.out wq hb).mono fun _ _ h => ⟨h.1,hb.trans (h.2.mono (by simpa using hb.size))⟩,hK _ ?_⟩);clear hK K
     refine wpQuiet_step (fun K hK => ?_);go_simp;(first | (with_reducible refine hK _ ?_) | (with_reducible refine ⟨_,fun _ _ => rfl,hK _ ?_⟩));clear hK K
     refine wpQuiet_step (fun K hK => ?_);go_simp;(try (with_reducible refine ⟨_,fun _ _ => rfl,?_⟩));generalize hA : ({ tmps:=_,defers:=_ } : Act) = A;(with_reducible refine hK A ?_);clear hK K
     iterate 4 (refine wpQuiet_step (fun K hK => ?_);subst hA;go_simp;(try (with_reducible refine ⟨_,fun _ _ => rfl,?_⟩));generalize hA : ({ tmps:=_,defers:=_ } : Act) = A;(with_reducible refine hK A ?_);clear hK K)
     iterate 3 (refine wpQuiet_step (fun K hK => ?_);subst hA;go_simp;generalize hA : ({ tmps:=_,defers:=_ } : Act) = A;rw [if_neg (by simp [undef])];(with_reducible refine hK A ?_);clear hK K)
     iterate 2 (refine wpQuiet_step (fun K hK => ?_);subst hA;go_simp;(try (with_reducible refine ⟨_,fun _ _ => rfl,?_⟩));generalize hA : ({ tmps:=_,defers:=_ } : Act) = A;(with_reducible refine hK A ?_);clear hK K)
     iterate 9 (refine wpQuiet_step (fun K hK => ?_);subst hA;go_simp;generalize hA : ({ tmps:=_,defers:=_ } : Act) = A;rw [if_neg (by simp [undef])];(with_reducible refine hK A ?_);clear hK K)
     refine wpQuiet_step (fun K hK => ?_);subst hA;go_simp;(try (with_reducible refine ⟨_,fun _ _ => rfl,?_⟩));generalize hA : ({ tmps:=_,defers:=_ } : Act) = A;(with_reducible refine hK A ?_);clear hK K
     refine wpQuiet_step (fun K hK => ?_);subst hA;go_simp;(first | (with_reducible refine hK _ ?_) | (with_reducible refine ⟨_,fun _ _ => rfl,hK _ ?_⟩));clear hK K
     refine wpQuiet_step (fun K hK => ?_);go_simp;(first | (with_reducible refine hK _ ?_) | (with_reducible refine ⟨_,fun _ _ => rfl,hK _ ?_⟩));clear hK K
     refine wpQuiet_nil ?_
     intro w1 hb1
     go_wp2_with fail
     go_ret
     exact ⟨rfl,hb1⟩
 · rw [decide_eq_false fa] at h1
   have hv : decide (Alike a b) = false:=decide_eq_false fun h => fa h.1
   rw [hv];clear hv fa
   have H1:=Hd h1;clear h1 h2 hA hB ha hb hc hd hcm hdm
   generalize b.length = n at *
   generalize a.length = m at *
   go_enter Tryz.func70,Tryz.ntmps70
   go_wp2_with fail
   refine wp_region_below (by kernel_rfl) (by kernel_rfl) ?_
   refine wpQuiet_step (fun K hK => ?_);go_simp;(first | (with_reducible refine hK _ ?_) | (with_reducible refine ⟨_,fun _ _ => rfl,hK _ ?_⟩));clear hK K
   refine wpQuiet_step (fun K hK => ?_);go_simp;(with_reducible refine ⟨_,fun wq hb => (H1.out wq hb).mono fun _ _ h => ⟨h.1,hb.trans (h.2.mono (by simpa using hb.size))⟩,hK _ ?_⟩);clear hK K
   refine wpQuiet_step (fun K hK => ?_);go_simp;(try (with_reducible refine ⟨_,fun _ _ => rfl,?_⟩));generalize hA : ({ tmps:=_,defers:=_ } : Act) = A;(with_reducible refine hK A ?_);clear hK K
   iterate 2 (refine wpQuiet_step (fun K hK => ?_);subst hA;go_simp;(try (with_reducible refine ⟨_,fun _ _ => rfl,?_⟩));generalize hA : ({ tmps:=_,defers:=_ } : Act) = A;(with_reducible refine hK A ?_);clear hK K)
   refine wpQuiet_step (fun K hK => ?_);subst hA;go_simp;(first | (with_reducible refine hK _ ?_) | (with_reducible refine ⟨_,fun _ _ => rfl,hK _ ?_⟩));clear hK K
   refine wpQuiet_step (fun K hK => ?_);go_simp;(try (with_reducible refine ⟨_,fun _ _ => rfl,?_⟩));generalize hA : ({ tmps:=_,defers:=_ } : Act) = A;(with_reducible refine hK A ?_);clear hK K
   iterate 4 (refine wpQuiet_step (fun K hK => ?_);subst hA;go_simp;(try (with_reducible refine ⟨_,fun _ _ => rfl,?_⟩));generalize hA : ({ tmps:=_,defers:=_ } : Act) = A;(with_reducible refine hK A ?_);clear hK K)
   iterate 3 (refine wpQuiet_step (fun K hK => ?_);subst hA;go_simp;generalize hA : ({ tmps:=_,defers:=_ } : Act) = A;rw [if_neg (by simp [undef])];(with_reducible refine hK A ?_);clear hK K)
   iterate 2 (refine wpQuiet_step (fun K hK => ?_);subst hA;go_simp;(try (with_reducible refine ⟨_,fun _ _ => rfl,?_⟩));generalize hA : ({ tmps:=_,defers:=_ } : Act) = A;(with_reducible refine hK A ?_);clear hK K)
   iterate 9 (refine wpQuiet_step (fun K hK => ?_);subst hA;go_simp;generalize hA : ({ tmps:=_,defers:=_ } : Act) = A;rw [if_neg (by simp [undef])];(with_reducible refine hK A ?_);clear hK K)
   refine wpQuiet_step (fun K hK => ?_);subst hA;go_simp;(try (with_reducible refine ⟨_,fun _ _ => rfl,?_⟩));generalize hA : ({ tmps:=_,defers:=_ } : Act) = A;(with_reducible refine hK A ?_);clear hK K
   refine wpQuiet_step (fun K hK => ?_);subst hA;go_simp;(first | (with_reducible refine hK _ ?_) | (with_reducible refine ⟨_,fun _ _ => rfl,hK _ ?_⟩));clear hK K
   refine wpQuiet_step (fun K hK => ?_);go_simp;(first | (with_reducible refine hK _ ?_) | (with_reducible refine ⟨_,fun _ _ => rfl,hK _ ?_⟩));clear hK K
   refine wpQuiet_nil ?_
   intro w1 hb1
   go_wp2_with fail
   go_ret
   exact ⟨rfl,hb1⟩
end

section
set_option maxHeartbeats 8000000 in
theorem frRefSame_any (A B : Option Addr) (a b : List St) (c d : Nat) (w : World) (hA : Ts w A a) (hB : Ts w B b) (ha : a.length ≤ 200000000) (hb : b.length ≤ 200000000) :
 Calls Tryz.prog 20 #[.slice A a.length c,.slice B b.length d] w fun e w' => e = .returned (.bool (decide (a = b))) ∧ Below w.heap.size w w':=by
 by_cases hl : a.length = b.length
 · have hln : (((a.length : Nat) : Int) != (b.length : Nat)) = false:=by rw [hl];simp
   have HA:=Hd hA;have HB:=Hd hB;have HL:=Hd hl;clear hA hB hl
   generalize hm : b.length = m at *
   generalize hn : a.length = n at *
   have HN:=Hd hn;have HM:=Hd hm;clear hn hm
   go_enter Tryz.func20,Tryz.ntmps20
   go_wp2_with fail
   go_loopw [5] (fun i wr => ∃ k : Nat,k ≤ n ∧ i = .int .i64 k ∧ Below w.heap.size w wr ∧ a.take k = b.take k) (fun i _ => n - (intOf i).toNat)
   case atStart => exact ⟨0,by omega,rfl,Below.refl _ _,by simp⟩
   case round =>
    obtain ⟨k,hk,rfl,hbw,hso⟩:=hrel
    clear hln
    have HBW:=Hd hbw;have HSO:=Hd hso;clear hbw hso
    by_cases hlt : k < n
    · have hlt2 : k < m:=by have:=HL.out;omega
      obtain ⟨t,ht⟩ : ∃ t,a[k]? = some t:=⟨_,List.getElem?_eq_getElem (by rw [HN.out];exact hlt)⟩
      obtain ⟨u,hu⟩ : ∃ u,b[k]? = some u:=⟨_,List.getElem?_eq_getElem (by rw [HM.out];exact hlt2)⟩
      obtain ⟨p,q,rfl,hpl,h0⟩:=(HA.out.below HBW.out).load ht
      obtain ⟨r,s,rfl,hrl,h1⟩:=(HB.out.below HBW.out).load hu
      have H0:=Hd h0;have H1:=Hd h1;have HT:=Hd ht;have HU:=Hd hu;clear h0 h1 ht hu hpl hrl
      cases hv : !eqB t u with
      | true =>
        have HV:=Hd hv;clear hv
        go_wp2_with fail
        refine wp_region_below (by kernel_rfl) (by kernel_rfl) ?_
        iterate 3 (refine wpQuiet_step (fun K hK => ?_);go_simp;(first | (with_reducible refine hK _ ?_) | (with_reducible refine ⟨_,fun _ _ => rfl,hK _ ?_⟩));clear hK K)
        refine wpQuiet_step (fun K hK => ?_);refine q_load (p:=.pointer (some ⟨p,q + k * 5,none⟩)) 27 _ rfl rfl rfl (H0.out) ?_;go_simp;(with_reducible refine hK _ ?_);clear hK K
        iterate 3 (refine wpQuiet_step (fun K hK => ?_);go_simp;(first | (with_reducible refine hK _ ?_) | (with_reducible refine ⟨_,fun _ _ => rfl,hK _ ?_⟩));clear hK K)
        refine wpQuiet_step (fun K hK => ?_);refine q_load (p:=.pointer (some ⟨r,s + k * 5,none⟩)) 27 _ rfl rfl rfl (H1.out) ?_;go_simp;(with_reducible refine hK _ ?_);clear hK K
        refine wpQuiet_step (fun K hK => ?_);refine q_bin _ _ _ _ _ rfl rfl rfl rfl (net_is HV.out) ?_;go_simp;(with_reducible refine hK _ ?_);clear hK K
        refine wpQuiet_nil ?_
        intro w1 hb1
        go_wp2_with fail
        go_ret
        refine ⟨ret_bool ?_,HBW.out.trans (hb1.mono HBW.out.size)⟩
        rw [eq_comm,decide_eq_false_iff_not]
        intro h
        have h1:=HT.out;have h2:=HU.out
        rw [h] at h1
        rw [h1] at h2;cases h2
        have:=HV.out
        simp [eqB] at this
      | false =>
        have HV:=Hd hv;clear hv
        go_wp2_with fail
        refine wp_region_below (by kernel_rfl) (by kernel_rfl) ?_
        iterate 3 (refine wpQuiet_step (fun K hK => ?_);go_simp;(first | (with_reducible refine hK _ ?_) | (with_reducible refine ⟨_,fun _ _ => rfl,hK _ ?_⟩));clear hK K)
        refine wpQuiet_step (fun K hK => ?_);refine q_load (p:=.pointer (some ⟨p,q + k * 5,none⟩)) 27 _ rfl rfl rfl (H0.out) ?_;go_simp;(with_reducible refine hK _ ?_);clear hK K
        iterate 3 (refine wpQuiet_step (fun K hK => ?_);go_simp;(first | (with_reducible refine hK _ ?_) | (with_reducible refine ⟨_,fun _ _ => rfl,hK _ ?_⟩));clear hK K)
        refine wpQuiet_step (fun K hK => ?_);refine q_load (p:=.pointer (some ⟨r,s + k * 5,none⟩)) 27 _ rfl rfl rfl (H1.out) ?_;go_simp;(with_reducible refine hK _ ?_);clear hK K
        refine wpQuiet_step (fun K hK => ?_);refine q_bin _ _ _ _ _ rfl rfl rfl rfl (net_is HV.out) ?_;go_simp;(with_reducible refine hK _ ?_);clear hK K
        refine wpQuiet_nil ?_
        intro w1 hb1
        go_wp2_with fail
        go_roundw
        case rel =>
         refine ⟨k + 1,by omega,by simp,HBW.out.trans (hb1.mono HBW.out.size),?_⟩
         have hv:=HV.out
         simp [eqB] at hv
         subst hv
         rw [List.take_add_one,List.take_add_one,HSO.out,HT.out,HU.out]
        case measure => simp only [intOf];omega
    · have hlt2 : ¬ (k : Int) < (n : Int):=by omega
      go_wp2_with fail
      go_ret
      refine ⟨ret_bool ?_,HBW.out⟩
      rw [eq_comm,decide_eq_true_iff]
      have h1:=HSO.out
      rwa [List.take_of_length_le (by rw [HN.out];omega),List.take_of_length_le (by rw [HM.out];have:=HL.out;omega)] at h1
 · have hln : (((a.length : Nat) : Int) != (b.length : Nat)) = true:=by simp;omega
   have hf : decide (a = b) = false:=decide_eq_false fun h => hl (by rw [h])
   rw [hf];clear hf hA hB
   have HL:=Hd hln;have HLN:=Hd hl
   generalize b.length = m at *
   generalize a.length = n at *
   clear hl
   go_enter Tryz.func20,Tryz.ntmps20
   go_wp2_with fail
   go_ret
   exact ⟨rfl,Below.refl _ _⟩
end

section
section
variable {a b c f g l m : List St} {s t x y z : St}
/-! in whatever order -/
/-! with a time more -/
end
end
end Go.Proofs.YtonelpnhoiajgaaGreatDoor
