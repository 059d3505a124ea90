import Derived.Test.YtonelpnhoiajgaaGreatDoorHd
import Derived.Test.YtonelpnhoiajgaaGreatDoorCa16
import Derived.Test.YtonelpnhoiajgaaGreatDoorCa3
import Derived.Test.YtonelpnhoiajgaaGreatDoorCa2
namespace Go.Proofs.YtonelpnhoiajgaaGreatDoor
set_option linter.unusedSimpArgs false
set_option maxRecDepth 100000
set_option linter.unusedVariables false
section
namespace Nx
open Go.ChangeShapes Go.WideShapes Go.ChangeAt Go.RowKit Go.BigFrame Go.Shelf
def nums (s : Sm) : List Int:=[s.fr,s.to,s.kp,s.ad,s.t0,s.t1,s.t2]
def lexL : List Int → List Int → Bool
 | x :: r,y :: s => if x = y then lexL r s else decide (x < y)
 | _,_ => false
theorem lex_A (a b : Sm) : lexL (nums a) (nums b) = decide (a.A b):=by
 rw [Bool.eq_iff_iff,decide_eq_true_iff]
 unfold nums Sm.A
 simp only [lexL]
 repeat' split
 all_goals simp only [decide_eq_true_eq,Bool.false_eq_true,false_iff]
 all_goals omega
theorem lex_drop : ∀ (k : Nat) (l m : List Int),(∀ j,j < k → l[j]? = m[j]?) → k ≤ l.length → k ≤ m.length → lexL l m = lexL (l.drop k) (m.drop k)
 | 0,l,m,_,_,_ => rfl
 | k + 1,[],m,_,h,_ => by simp at h
 | k + 1,x :: l,[],_,_,h => by simp at h
 | k + 1,x :: l,y :: m,h,h1,h2 => by
   have e:=h 0 (by omega)
   simp at e;subst e
   rw [lexL,if_pos rfl,List.drop_succ_cons,List.drop_succ_cons]
   exact lex_drop k l m (fun j hj => by have:=h (j + 1) (by omega);simpa using this) (by simpa using h1) (by simpa using h2)
def Nums (w : World) (g : Nat) (s : Sm) : Prop:=Row w g 3 ((nums s).map fun n => Value.int .i64 n)
theorem numbers_any (s : Sm) (w : World) : Calls Tryz.prog 183 #[s.v] w fun e w' => (∃ g,e = .returned (.slice (some ⟨g,0,none⟩) 7 7) ∧ Nums w' g s) ∧ Below w.heap.size w w':=by
 have h : Nums ((w.alloc (.cells #[.int .i64 s.fr,.int .i64 s.to,.int .i64 s.kp,.int .i64 s.ad,.int .i64 s.t0,.int .i64 s.t1,.int .i64 s.t2] 106)).alloc (.cells #[.int .i64 s.fr,.int .i64 s.to,.int .i64 s.kp,.int .i64 s.ad,.int .i64 s.t0,.int .i64 s.t1,.int .i64 s.t2] 3)) (w.heap.size + 1) s:=made2r w _ _ _
 have H:=Hd h;clear h
 unfold Sm.v
 go_enter Tryz.func183,Tryz.ntmps183
 go_wp2_with fail
 go_ret
 exact ⟨⟨_,rfl,H.out⟩,below_alloc2 w _ _⟩
def AhR (a b : Sm) (i : Nat) (v : Value) (w : World) : Prop:=match i with
 | 0 => v = a.v
 | 1 => ∃ g,v = .slice (some ⟨g,0,none⟩) 7 7 ∧ Nums w g a
 | 2 => v = b.v
 | 3 => ∃ g,v = .slice (some ⟨g,0,none⟩) 7 7 ∧ Nums w g b
 | 4 => ∃ g,v = .slice (some ⟨g,0,none⟩) 7 7 ∧ Nums w g a
 | _ => ∃ g,v = .slice (some ⟨g,0,none⟩) 7 7 ∧ Nums w g b
theorem AhR.keep {a b : Sm} (j : Nat) (u : Value) (w w' : World) (hb : Below w.heap.size w w') (h : AhR a b j u w) : AhR a b j u w':=by
 unfold AhR at *
 split at h
 all_goals first
  | exact h
  | (obtain ⟨g,e,hr⟩:=h;exact ⟨g,e,Row.below hr hb (Row.lt hr)⟩)
theorem load_num {w : World} {g k : Nat} {s : Sm} {x : Int} (h : Nums w g s) (hx : (nums s)[k]? = some x) : ∀ w',Below w.heap.size w w' → (Instr.loadAt 3 (.pointer (some ⟨g,k,none⟩))).run Tryz.prog w' = .ok (.int .i64 x) w':=by
 intro w' hb
 have hc : w'.cell? ⟨g,k,none⟩ = some (.int .i64 x):=by
  rw [Row.cell (Row.below h hb (Row.lt h)) k,List.getElem?_map,hx];rfl
 go_simp
theorem nei_is {x y : Operand} {i j : Int} {p : Bool} (h : (i != j) = p) : ∀ w,(do eqGuard .neq 3 x y (.int .i64 i) (.int .i64 j);binOp .neq 3 (.int .i64 i) (.int .i64 j) : Sem Value).run Tryz.prog w = .ok (.bool p) w:=by
 intro w;subst h;go_simp
theorem lti_d {x y : Operand} (i j : Int) : ∀ w,(do eqGuard .lss 3 x y (.int .i64 i) (.int .i64 j);binOp .lss 3 (.int .i64 i) (.int .i64 j) : Sem Value).run Tryz.prog w = .ok (.bool (decide (i < j))) w:=by
 intro w;go_simp
set_option maxHeartbeats 4000000 in
theorem ahead_any (a b : Sm) (w : World) : Calls Tryz.prog 147 #[a.v,b.v] w fun e w' => e = .returned (.bool (decide (a.A b))) ∧ Below w.heap.size w w':=by
 rw [← lex_A]
 have h2:=Two2.made w 106 a b
 have hbw:=ba2 w a b 106
 have cn:=fun (s : Sm) (w : World) => numbers_any s w
 unfold Sm.v at *
 have H2:=Hd h2;have HB:=Hd hbw;have CN:=Hd cn;clear h2 hbw cn
 go_enter Tryz.func147,Tryz.ntmps147
 go_wp2_with fail
 generalize (w.alloc (.cells #[.int .i64 a.fr,.int .i64 a.to,.int .i64 a.kp,.int .i64 a.ad,.int .i64 a.t0,.int .i64 a.t1,.int .i64 a.t2] 106)).alloc (.cells #[.int .i64 b.fr,.int .i64 b.to,.int .i64 b.kp,.int .i64 b.ad,.int .i64 b.t0,.int .i64 b.t1,.int .i64 b.t2] 106) = W at *
 refine Free.wp_grow (by kernel_rfl) (by kernel_rfl) (AhR a b) AhR.keep ?_ ?_
 · intro i o hi az wa hold hpre hF
   match i with
   | 0 =>
     cases hi
     exact Free.g_load _ _ rfl ((hold 2 (by decide)).trans rfl) (load_n H2.out.1 wa hF) ⟨rfl,Below.refl _ _⟩
   | 1 =>
     cases hi
     have h0 : az.eval (.tmp 8) = a.v:=hpre 0 _ _ (by kernel_rfl) rfl rfl
     refine Free.g_call _ _ rfl Tryz.func183 (by kernel_rfl) rfl [a.v] (by show [az.eval (.tmp 8)] = _;rw [h0]) ?_
     exact (CN.out a wa).mono fun e w2 ⟨⟨g,he,hr⟩,hb2⟩ => ⟨_,he,⟨g,rfl,hr⟩,hb2⟩
   | 2 =>
     cases hi
     exact Free.g_load _ _ rfl ((hold 3 (by decide)).trans rfl) (load_n H2.out.2 wa hF) ⟨rfl,Below.refl _ _⟩
   | 3 =>
     cases hi
     have h0 : az.eval (.tmp 10) = b.v:=hpre 2 _ _ (by kernel_rfl) rfl rfl
     refine Free.g_call _ _ rfl Tryz.func183 (by kernel_rfl) rfl [b.v] (by show [az.eval (.tmp 10)] = _;rw [h0]) ?_
     exact (CN.out b wa).mono fun e w2 ⟨⟨g,he,hr⟩,hb2⟩ => ⟨_,he,⟨g,rfl,hr⟩,hb2⟩
   | 4 =>
     cases hi
     have h0 : AhR a b 1 (az.eval (.tmp 9)) wa:=hpre 1 _ _ (by kernel_rfl) rfl rfl
     exact Free.g_assign _ rfl ⟨h0,Below.refl _ _⟩
   | 5 =>
     cases hi
     have h0 : AhR a b 3 (az.eval (.tmp 11)) wa:=hpre 3 _ _ (by kernel_rfl) rfl rfl
     exact Free.g_assign _ rfl ⟨h0,Below.refl _ _⟩
   | _ + 6 => cases hi
 · intro vs we hv hF
   obtain ⟨ga,e4,ra⟩ : AhR a b 4 (vs 4) we:=hv 4 (by simp) (by rintro o ⟨⟩;rfl)
   obtain ⟨gb,e5,rb⟩ : AhR a b 5 (vs 5) we:=hv 5 (by simp) (by rintro o ⟨⟩;rfl)
   clear hv
   simp only [Free.puts,Nat.reduceAdd,e4,e5]
   clear e4 e5
   generalize vs 0 = y0
   generalize vs 1 = y1
   generalize vs 2 = y2
   generalize vs 3 = y3
   clear vs
   have HE:=Hd (HB.out.trans (Below.mono hF (by have:=HB.out.size;simpa using this)));have RA:=Hd ra;have RB:=Hd rb
   clear hF ra rb HB H2 CN
   go_simp
   go_wp2_with fail
   go_loopw [7] (fun i wr => ∃ k : Nat,k ≤ 7 ∧ i = .int .i64 k ∧ Below we.heap.size we wr ∧ ∀ j,j < k → (nums a)[j]? = (nums b)[j]?) (fun i _ => 7 - (intOf i).toNat)
   case atStart => exact ⟨0,by omega,rfl,Below.refl _ _,fun j h => absurd h (by omega)⟩
   case round =>
    obtain ⟨k,hk,rfl,hbw,heq⟩:=hrel
    have HBW:=Hd hbw;have HQ:=Hd heq;clear hbw heq
    by_cases hlt : k < 7
    · have hkz : (k : Int) < 7:=by omega
      obtain ⟨x,hx⟩ : ∃ x,(nums a)[k]? = some x:=⟨_,List.getElem?_eq_getElem (by show k < 7;exact hlt)⟩
      obtain ⟨y,hy⟩ : ∃ y,(nums b)[k]? = some y:=⟨_,List.getElem?_eq_getElem (by show k < 7;exact hlt)⟩
      have la:=load_num (Row.below RA.out HBW.out (Row.lt RA.out)) hx
      have lb:=load_num (Row.below RB.out HBW.out (Row.lt RB.out)) hy
      have hd:=lex_drop k (nums a) (nums b) HQ.out (by show k ≤ 7;omega) (by show k ≤ 7;omega)
      rw [List.drop_eq_getElem_cons (i:=k) (l:=nums a) (by show k < 7;exact hlt),List.drop_eq_getElem_cons (i:=k) (l:=nums b) (by show k < 7;exact hlt)] at hd
      have gx:=(List.getElem?_eq_some_iff.1 hx).2
      have gy:=(List.getElem?_eq_some_iff.1 hy).2
      rw [gx,gy,lexL] at hd
      have LA:=Hd la;have LB:=Hd lb;have HX:=Hd (And.intro hx hy);have HD:=Hd hd
      clear la lb hx hy hd gx gy
      by_cases he : x = y
      · have hq : (x != y) = false:=by simp [he]
        have HN:=Hd hq;have HE2:=Hd he;clear hq he
        go_wp2_with fail
        refine wp_region_below (by kernel_rfl) (by kernel_rfl) ?_
        iterate 3 (refine wpQuiet_step (fun K hK => ?_);go_simp;(first | (with_reducible refine hK _ ?_) | (with_reducible refine ⟨_,fun _ _ => rfl,hK _ ?_⟩));clear hK K)
        refine wpQuiet_step (fun K hK => ?_);refine q_load (p:=.pointer (some ⟨ga,k,none⟩)) 3 _ rfl rfl rfl (LA.out) ?_;go_simp;(with_reducible refine hK _ ?_);clear hK K
        iterate 3 (refine wpQuiet_step (fun K hK => ?_);go_simp;(first | (with_reducible refine hK _ ?_) | (with_reducible refine ⟨_,fun _ _ => rfl,hK _ ?_⟩));clear hK K)
        refine wpQuiet_step (fun K hK => ?_);refine q_load (p:=.pointer (some ⟨gb,k,none⟩)) 3 _ rfl rfl rfl (LB.out) ?_;go_simp;(with_reducible refine hK _ ?_);clear hK K
        refine wpQuiet_step (fun K hK => ?_);refine q_bin _ _ _ _ _ rfl rfl rfl rfl (nei_is HN.out) ?_;go_simp;(with_reducible refine hK _ ?_);clear hK K
        refine wpQuiet_nil ?_
        intro w5 hb5
        have hbz:=HBW.out.trans (hb5.mono HBW.out.size)
        have HBZ:=Hd hbz;clear hb5 hbz
        go_wp2_with fail
        go_roundw
        case rel =>
         refine ⟨k + 1,by omega,by simp,HBZ.out,fun j hj => ?_⟩
         by_cases e : j = k
         · rw [e,HX.out.1,HX.out.2,HE2.out]
         · exact HQ.out j (by omega)
        case measure => simp only [intOf];omega
      · have hq : (x != y) = true:=by simpa using he
        have hd2:=HD.out
        rw [if_neg he] at hd2
        have HN:=Hd hq;have HD2:=Hd hd2;clear hq he hd2 HD
        go_wp2_with fail
        refine wp_region_below (by kernel_rfl) (by kernel_rfl) ?_
        iterate 3 (refine wpQuiet_step (fun K hK => ?_);go_simp;(first | (with_reducible refine hK _ ?_) | (with_reducible refine ⟨_,fun _ _ => rfl,hK _ ?_⟩));clear hK K)
        refine wpQuiet_step (fun K hK => ?_);refine q_load (p:=.pointer (some ⟨ga,k,none⟩)) 3 _ rfl rfl rfl (LA.out) ?_;go_simp;(with_reducible refine hK _ ?_);clear hK K
        iterate 3 (refine wpQuiet_step (fun K hK => ?_);go_simp;(first | (with_reducible refine hK _ ?_) | (with_reducible refine ⟨_,fun _ _ => rfl,hK _ ?_⟩));clear hK K)
        refine wpQuiet_step (fun K hK => ?_);refine q_load (p:=.pointer (some ⟨gb,k,none⟩)) 3 _ rfl rfl rfl (LB.out) ?_;go_simp;(with_reducible refine hK _ ?_);clear hK K
        refine wpQuiet_step (fun K hK => ?_);refine q_bin _ _ _ _ _ rfl rfl rfl rfl (nei_is HN.out) ?_;go_simp;(with_reducible refine hK _ ?_);clear hK K
        refine wpQuiet_nil ?_
        intro w5 hb5
        have hbz:=HBW.out.trans (hb5.mono HBW.out.size)
        have hla5:=load_num (Row.below RA.out hbz (Row.lt RA.out)) HX.out.1
        have hlb5:=load_num (Row.below RB.out hbz (Row.lt RB.out)) HX.out.2
        have LA5:=Hd hla5;have LB5:=Hd hlb5
        have HBZ:=Hd hbz;clear hb5 hbz hla5 hlb5
        go_wp2_with fail
        refine wp_region_below (by kernel_rfl) (by kernel_rfl) ?_
        iterate 3 (refine wpQuiet_step (fun K hK => ?_);go_simp;(first | (with_reducible refine hK _ ?_) | (with_reducible refine ⟨_,fun _ _ => rfl,hK _ ?_⟩));clear hK K)
        refine wpQuiet_step (fun K hK => ?_);refine q_load (p:=.pointer (some ⟨ga,k,none⟩)) 3 _ rfl rfl rfl (LA5.out) ?_;go_simp;(with_reducible refine hK _ ?_);clear hK K
        iterate 3 (refine wpQuiet_step (fun K hK => ?_);go_simp;(first | (with_reducible refine hK _ ?_) | (with_reducible refine ⟨_,fun _ _ => rfl,hK _ ?_⟩));clear hK K)
        refine wpQuiet_step (fun K hK => ?_);refine q_load (p:=.pointer (some ⟨gb,k,none⟩)) 3 _ rfl rfl rfl (LB5.out) ?_;go_simp;(with_reducible refine hK _ ?_);clear hK K
        refine wpQuiet_step (fun K hK => ?_);refine q_bin _ _ _ _ _ rfl rfl rfl rfl (lti_d _ _) ?_;go_simp;(with_reducible refine hK _ ?_);clear hK K
        refine wpQuiet_step (fun K hK => ?_);go_simp;(first | (with_reducible refine hK _ ?_) | (with_reducible refine ⟨_,fun _ _ => rfl,hK _ ?_⟩));clear hK K
        refine wpQuiet_nil ?_
        intro w6 hb6
        have hbz:=HBZ.out.trans (hb6.mono HBZ.out.size)
        have HBY:=Hd hbz;clear hb6 hbz
        go_wp2_with fail
        go_ret
        exact ⟨ret_bool HD2.out.symm,HE.out.trans (HBY.out.mono HE.out.size)⟩
    · have hkz : ¬ (k : Int) < 7:=by omega
      go_wp2_with fail
      go_ret
      refine ⟨ret_bool ?_,HE.out.trans (HBW.out.mono HE.out.size)⟩
      have hd:=lex_drop 7 (nums a) (nums b) (fun j hj => HQ.out j (by omega)) (Nat.le_refl _) (Nat.le_refl _)
      rw [hd];rfl
end Nx
end

section
namespace Nx
open Go.ChangeShapes Go.WideShapes Go.ChangeAt Go.RowKit Go.BigFrame Go.Shelf
theorem own_slice {w : World} {base n : Nat} {v : Value} {ts : List Sm} (h : w.ownsRow base 106 7 v n (Mx.rowS ts)) : ∃ A c,v = .slice A ts.length c ∧ Ts w A ts ∧ ts.length ≤ c ∧ c ≤ maxLen ∧ (A = none → c = 0):=by
 obtain ⟨A,c,e,h1,h2,h3⟩:=Times.of_own h
 refine ⟨A,c,e,Ts.of h1,h2,h3,fun hA => ?_⟩
 subst hA
 rcases h.2 with ⟨e2,_⟩ | ⟨g,cap,cur,e2,_⟩
 · rw [e] at e2;injection e2
 · rw [e] at e2;injection e2 with h;cases h
structure Slc (w : World) (A : Option Addr) (c : Nat) (l : List Sm) : Prop where
 ts : Ts w A l
 le : l.length ≤ c
 max : c ≤ maxLen
 nil : A = none → c = 0
theorem Slc.below {w w' : World} {A : Option Addr} {c : Nat} {l : List Sm} (h : Slc w A c l) (hb : Below w.heap.size w w') : Slc w' A c l:=⟨h.ts.below hb,h.le,h.max,h.nil⟩
theorem Slc.of_own {w : World} {base n : Nat} {v : Value} {ts : List Sm} (h : w.ownsRow base 106 7 v n (Mx.rowS ts)) : ∃ A c,v = .slice A ts.length c ∧ Slc w A c ts:=by
 obtain ⟨A,c,e,h1,h2,h3,h4⟩:=own_slice h
 exact ⟨A,c,e,⟨h1,h2,h3,h4⟩⟩
theorem grown_refl (w : World) (row : Option Nat) : w.grownBy w row:=⟨rfl,rfl,rfl,Nat.le_refl _,fun _ _ _ => rfl⟩
theorem wpList_append_ts {w : World} {ops : Array Oper} {rest : List Oper} {o : Oper} {a : Act} {Q : Exit → Act → World → Prop} (hgd : o.guard = none) (s x : Operand)
 (ho : o.op = .call { callee:=.builtin .append,args:=#[s,x],argTypes:=#[77,77] })
 (base : Nat) (v : Value) (n : Nat) (ts : List Sm) (hs : a.eval s = v) (hown : w.ownsRow base 106 7 v n (Mx.rowS ts))
 (A : Option Addr) (c : Nat) (ys : List Sm) (hx : a.eval x = .slice A ys.length c) (hA0 : A = none → c = 0) (hb : Ts w A ys)
 (hle : n + ys.length ≤ 800000000) (hbase : base ≤ w.heap.size)
 (h : ∀ v' w',w'.ownsRow base 106 7 v' (n + ys.length) (Mx.rowS (ts ++ ys)) → w.grownBy w' v.ownBlock → wpList Tryz.prog ops Q rest (a.put o.dst v') w') : wpList Tryz.prog ops Q (o :: rest) a w:=by
 obtain ⟨i,hi,hz0,hz1,hz2⟩:=info_parts infoRef
 cases A with
 | none =>
   have hy : ys = []:=by
    cases ys with
    | nil => rfl
    | cons y ys => obtain ⟨b,o,e,_⟩:=hb (by simp);cases e
   subst hy
   rw [hA0 rfl] at hx
   refine wpList_append_own_none hgd s x 77 ho base 106 i 7 Tryz.underlying77 hi v n (Mx.rowS ts) hs hown hx ?_
   exact h v w (by rw [List.append_nil];exact hown) (grown_refl _ _)
 | some ad =>
   refine wpList_append_own w hgd s x 77 ho base 106 i _ 7 56 Tryz.underlying77 hi hz0 hz1 hz2 rfl (by omega) v n (Mx.rowS ts) hs hown ad ys.length c (Mx.rowS ys) hx (Mx.rowS_len ys) ?_ (Mx.rowS_one ys) (by unfold maxLen;omega) (by omega) hbase ?_
   · intro j u hj
     have hp : 0 < ys.length:=by
      have:=(List.getElem?_eq_some_iff.1 hj).1
      rw [Mx.rowS_len] at this;omega
     obtain ⟨b,o,e,_,hcell⟩:=hb hp
     cases e
     rw [add_at];exact hcell j u hj
   · intro v' w' h1 h2 _
     exact h v' w' (by rw [Mx.rowS_append];exact h1) h2
section
variable {o : List Sm} {k : Nat}
theorem Slc.of_ownB {w : World} {base n : Nat} {v : Value} {ts : List Sm} (h : w.ownsRow base 106 7 v n (Mx.rowS ts)) : ∃ A c,v = .slice A ts.length c ∧ Slc w A c ts ∧ ∀ ad,A = some ad → base ≤ ad.block:=by
 obtain ⟨A,c,e,hs⟩:=Slc.of_own h
 refine ⟨A,c,e,hs,fun ad hA => ?_⟩
 obtain ⟨_,⟨hv,_⟩ | ⟨g,cap,cur,hv,hg,_⟩⟩:=h
 · rw [hv] at e;injection e with e1;rw [← e1] at hA;cases hA
 · rw [hv] at e;injection e with e1;rw [← e1] at hA;cases hA;exact hg
theorem wpList_append_tn {w : World} {ops : Array Oper} {rest : List Oper} {o : Oper} {a : Act} {Q : Exit → Act → World → Prop} (hgd : o.guard = none) (s x : Operand)
 (ho : o.op = .call { callee:=.builtin .append,args:=#[s,x],argTypes:=#[77,77] })
 (base : Nat) (v : Value) (n : Nat) (ts : List Sm) (hs : a.eval s = v) (hown : w.ownsRow base 106 7 v n (Mx.rowS ts))
 (A : Option Addr) (c m : Nat) (ys : List Sm) (hm : ys.length = m) (hx : a.eval x = .slice A m c) (hA0 : A = none → c = 0) (hb : Ts w A ys)
 (hle : n + ys.length ≤ 800000000) (hbase : base ≤ w.heap.size)
 (h : ∀ v' w',w'.ownsRow base 106 7 v' (n + ys.length) (Mx.rowS (ts ++ ys)) → w.grownBy w' v.ownBlock → wpList Tryz.prog ops Q rest (a.put o.dst v') w') : wpList Tryz.prog ops Q (o :: rest) a w:=by
 subst hm
 exact wpList_append_ts hgd s x ho base v n ts hs hown A c ys hx hA0 hb hle hbase h
theorem slc_none (w : World) : Slc w none 0 []:=⟨Ts.nil,by simp,by unfold maxLen;omega,fun _ => rfl⟩
end
section
variable {ts o : List Sm} {t x y z : Sm} {k m q : Nat}
theorem mem_take_at {k : Nat} (h : x ∈ ts.take k) : ∃ j,j < k ∧ ts[j]? = some x:=by
 obtain ⟨j,hj⟩:=List.getElem?_of_mem h
 rw [List.getElem?_take] at hj
 split at hj
 · rename_i h1;exact ⟨j,h1,hj⟩
 · cases hj
def badJ (k : Nat) (t : Sm) (j : Nat) (x : Sm) : Bool:=(!eqS x t && decide (x.L t)) || (decide (j < k) && eqS x t)
def StayTo (ts : List Sm) (k : Nat) (t : Sm) (m : Nat) : Prop:=t.R ∧ ∀ (j : Nat) (x : Sm),j < m → ts[j]? = some x → badJ k t j x = false
noncomputable instance (ts : List Sm) (k : Nat) (t : Sm) (m : Nat) : Decidable (StayTo ts k t m):=Classical.propDecidable _
theorem stay_zero : decide (StayTo ts k t 0) = decide t.R:=by
 rw [Bool.eq_iff_iff,decide_eq_true_iff,decide_eq_true_iff]
 exact ⟨fun h => h.1,fun h => ⟨h,fun j x hj => absurd hj (by omega)⟩⟩
theorem stay_bad (hx : ts[m]? = some x) (hb : badJ k t m x = true) : decide (StayTo ts k t (m + 1)) = false:=by
 rw [decide_eq_false_iff_not]
 intro h
 have:=h.2 m x (by omega) hx
 rw [hb] at this;cases this
theorem stay_good (hx : ts[m]? = some x) (hb : badJ k t m x = false) : decide (StayTo ts k t (m + 1)) = decide (StayTo ts k t m):=by
 rw [Bool.eq_iff_iff,decide_eq_true_iff,decide_eq_true_iff]
 constructor
 · exact fun h => ⟨h.1,fun j y hj hy => h.2 j y (by omega) hy⟩
 · intro h
   refine ⟨h.1,fun j y hj hy => ?_⟩
   by_cases e : j = m
   · subst e;rw [hx] at hy;cases hy;exact hb
   · exact h.2 j y (by omega) hy
def GoodO (ts : List Sm) (k : Nat) (o : List Sm) : Prop:=o.Pairwise Sm.A ∧ ∀ x,x ∈ o ↔ x ∈ ts.take k ∧ LeastW ts x
theorem stay_iff (ht : ts[k]? = some t) : StayTo ts k t ts.length ↔ LeastW ts t ∧ t ∉ ts.take k:=by
 constructor
 · rintro ⟨hr,h⟩
   refine ⟨⟨hr,fun z hz hl => ?_⟩,fun hm => ?_⟩
   · obtain ⟨j,hj⟩:=List.getElem?_of_mem hz
     have:=h j z (List.getElem?_eq_some_iff.1 hj).1 hj
     unfold badJ eqS at this
     simp only [Bool.or_eq_false_iff,Bool.and_eq_false_iff,Bool.not_eq_false',decide_eq_true_eq,decide_eq_false_iff_not] at this
     rcases this.1 with h1 | h1
     · exact h1
     · exact absurd hl h1
   · obtain ⟨j,hj,hx⟩:=mem_take_at hm
     have:=h j t (List.getElem?_eq_some_iff.1 hx).1 hx
     unfold badJ eqS at this
     simp [hj] at this
 · rintro ⟨h1,h2⟩
   refine ⟨h1.1,fun j x hj hx => ?_⟩
   unfold badJ eqS
   simp only [Bool.or_eq_false_iff,Bool.and_eq_false_iff,Bool.not_eq_false',decide_eq_true_eq,decide_eq_false_iff_not]
   refine ⟨?_,?_⟩
   · by_cases hl : x.L t
     · exact .inl (h1.2 x (List.mem_of_getElem? hx) hl)
     · exact .inr hl
   · by_cases e : x = t
     · subst e
       refine .inl fun hjk => h2 ?_
       exact List.mem_of_getElem? (i:=j) (by rw [List.getElem?_take,if_pos hjk];exact hx)
     · exact .inr e
theorem mem_next (ht : ts[k]? = some t) : x ∈ ts.take (k + 1) ↔ x ∈ ts.take k ∨ x = t:=by
 rw [List.take_add_one,ht];simp
theorem good_skip (h : GoodO ts k o) (ht : ts[k]? = some t) (hl : ¬ StayTo ts k t ts.length) : GoodO ts (k + 1) o:=by
 rw [stay_iff ht] at hl
 refine ⟨h.1,fun x => ?_⟩
 rw [h.2 x,mem_next ht]
 constructor
 · rintro ⟨h1,h2⟩;exact ⟨.inl h1,h2⟩
 · rintro ⟨h1 | rfl,h2⟩
   · exact ⟨h1,h2⟩
   · refine ⟨?_,h2⟩
     apply Classical.byContradiction
     exact fun h3 => hl ⟨h2,h3⟩
def stepS (o : List Sm) (q : Nat) (t : Sm) : Bool:=match o[q]? with | some y => decide (y.A t) | none => false
theorem good_put (h : GoodO ts k o) (ht : ts[k]? = some t) (hl : StayTo ts k t ts.length) (hq : ∀ (j : Nat) (x : Sm),j < q → o[j]? = some x → x.A t) (hs : stepS o q t = false) : GoodO ts (k + 1) (o.take q ++ [t] ++ o.drop q):=by
 rw [stay_iff ht] at hl
 have hno : t ∉ o:=fun hm => hl.2 ((h.2 t).1 hm).1
 have hsort:=h.1
 rw [← List.take_append_drop q o,List.pairwise_append] at hsort
 have hdrop : ∀ y ∈ o.drop q,t.A y:=by
  intro y hy
  cases hd : o.drop q with
  | nil => rw [hd] at hy;cases hy
  | cons a r =>
    have ha : o[q]? = some a:=by
     have : (o.drop q)[0]? = some a:=by rw [hd];rfl
     rwa [List.getElem?_drop] at this
    have hat : t.A a:=by
     unfold stepS at hs
     rw [ha] at hs
     have h1 : ¬ a.A t:=of_decide_eq_false hs
     rcases Sm.A_total (x:=t) (y:=a) (fun e => hno (by rw [e];exact List.mem_of_getElem? ha)) with h2 | h2
     · exact h2
     · exact absurd h2 h1
    rw [hd] at hy
    rcases List.mem_cons.1 hy with rfl | hy
    · exact hat
    · have:=hsort.2.1
      rw [hd] at this
      exact Sm.A_trans hat ((List.pairwise_cons.1 this).1 y hy)
 have htake : ∀ y ∈ o.take q,y.A t:=by
  intro y hy
  obtain ⟨j,hj,hx⟩:=mem_take_at hy
  exact hq j y hj hx
 refine ⟨?_,fun x => ?_⟩
 · rw [List.append_assoc,List.pairwise_append]
   refine ⟨hsort.1,?_,?_⟩
   · rw [List.singleton_append,List.pairwise_cons]
     exact ⟨hdrop,hsort.2.1⟩
   · intro a ha b hb
     rw [List.singleton_append] at hb
     rcases List.mem_cons.1 hb with rfl | hb
     · exact htake a ha
     · exact hsort.2.2 a ha b hb
 · have e : x ∈ o.take q ++ [t] ++ o.drop q ↔ x ∈ o ∨ x = t:=by
    conv => rhs;rw [← List.take_append_drop q o]
    simp only [List.mem_append,List.mem_singleton]
    constructor
    · rintro ((h | h) | h)
      · exact .inl (.inl h)
      · exact .inr h
      · exact .inl (.inr h)
    · rintro ((h | h) | h)
      · exact .inl (.inl h)
      · exact .inr h
      · exact .inl (.inr h)
   rw [e,h.2 x,mem_next ht]
   constructor
   · rintro (⟨h1,h2⟩ | rfl)
     · exact ⟨.inl h1,h2⟩
     · exact ⟨.inr rfl,hl.1⟩
   · rintro ⟨h1 | rfl,h2⟩
     · exact .inl ⟨h1,h2⟩
     · exact .inr rfl
theorem good_end (h : GoodO ts ts.length o) : o = waysS ts:=by
 refine waysS_eq h.1 fun x => ?_
 have:=h.2 x
 rwa [List.take_length] at this
theorem nes_is {a b : Sm} {x y : Operand} {p : Bool} (h : (!eqS a b) = p) : ∀ w,(do eqGuard .neq 106 x y a.v b.v;binOp .neq 106 a.v b.v : Sem Value).run Tryz.prog w = .ok (.bool p) w:=by
 intro w;subst h;exact ne_sr x y a b w
theorem eqs_is {a b : Sm} {x y : Operand} {p : Bool} (h : eqS a b = p) : ∀ w,(do eqGuard .eql 106 x y a.v b.v;binOp .eql 106 a.v b.v : Sem Value).run Tryz.prog w = .ok (.bool p) w:=by
 intro w;subst h;exact eq_sr x y a b w
theorem lti_is {x y : Operand} {i j : Int} {p : Bool} (h : decide (i < j) = p) : ∀ w,(do eqGuard .lss 3 x y (.int .i64 i) (.int .i64 j);binOp .lss 3 (.int .i64 i) (.int .i64 j) : Sem Value).run Tryz.prog w = .ok (.bool p) w:=by
 intro w;subst h;go_simp
theorem own_len {w : World} {base n : Nat} {v : Value} {ts : List Sm} (h : w.ownsRow base 106 7 v n (Mx.rowS ts)) : n = ts.length:=by
 have:=h.1;rw [Mx.rowS_len] at this;omega
end
end Nx
end

section
open Go.ChangeShapes Go.WideShapes Go.ChangeAt Go.RowKit Go.BigFrame
theorem field_n (b : Bool) (n : Int) : ∀ w,(Instr.field 161 (.agg #[.bool b,.int .i64 n]) 1).run Tryz.prog w = .ok (.int .i64 n) w:=by
 intro w
 have hi : ∀ w,(isAgg 3).run Tryz.prog w = .ok false w:=fun w => by go_simp
 have hz : ∀ w,(sizeOf 3).run Tryz.prog w = .ok 1 w:=fun w => by go_simp
 have hu:=Tryz.underlying161
 simp [Instr.field,run_underlying hu,hi,hz,part,Sem.run_bind,go_sem]
 rfl
section
variable {P : Program} {C : World → Prop} {K : Act → Prop} {a : Act} {o : Oper} {ops : Array Oper}
theorem q_field {v p : Value} (t : TypeId) (x : Operand) (f : Nat) (ho : o.op = .field t x f) (hw : Region.wanted o (yielded ops a.tmps) = true) (hx : a.eval x = p)
 (hr : ∀ w',(Instr.field t p f).run P w' = .ok v w') (hk : K (a.put o.dst v)) :
 if Region.wanted o (yielded ops a.tmps) then o.quiet P a C K else K (a.put o.dst undef):=by
 rw [if_pos hw]
 refine ⟨v,fun w' hw' => ?_,hk⟩
 unfold Oper.quietAt execOp
 simp only [ho,hx]
 rw [Sem.run_bind,hr w']
 simp only [Result.andThen_ok,Sem.run_pure,Oper.quietUpon]
 exact ⟨trivial,trivial⟩
end
theorem gtr_is {x y : Operand} {a b : Int} {v : Bool} (h : decide (b < a) = v) : ∀ w,(do eqGuard .gtr 3 x y (.int .i64 a) (.int .i64 b);binOp .gtr 3 (.int .i64 a) (.int .i64 b) : Sem Value).run Tryz.prog w = .ok (.bool v) w:=by
 intro w;subst h;go_simp
set_option maxHeartbeats 8000000 in
theorem refLeqM_F (a b : Sm) (w : World) (h : a.R) (h2 : b.R) (h3 : (a.fr != b.fr) = false) (h4 : (a.to != b.to) = false) (h5 : ¬ b.kp < a.kp) : Calls Tryz.prog 146 #[a.v,b.v] w fun e w' => e = .returned (.bool (decide (a.L b))) ∧ Below w.heap.size w w':=by
 obtain ⟨n,hnn⟩ : ∃ n : Nat,a.to = n:=⟨a.to.toNat,by unfold Sm.R at h;omega⟩
 have hn3 : n ≤ 3:=by unfold Sm.R at h;omega
 have hto : a.to = b.to:=by simpa using h4
 have hL : (a.L b) ↔ (0 < n → a.N 0 ≤ b.N 0) ∧ (1 < n → a.N 1 ≤ b.N 1) ∧ (2 < n → a.N 2 ≤ b.N 2):=by
  unfold Sm.L
  have h3' : a.fr = b.fr:=by simpa using h3
  rw [hnn]
  constructor
  · rintro ⟨-,-,-,-,-,k0,k1,k2⟩;exact ⟨fun q => k0 (by omega),fun q => k1 (by omega),fun q => k2 (by omega)⟩
  · rintro ⟨k0,k1,k2⟩;exact ⟨h,h2,h3',by omega,by omega,fun q => k0 (by omega),fun q => k1 (by omega),fun q => k2 (by omega)⟩
 have ca0:=fun (hl : 0 < n) w => refAt_any a 0 w h (by rw [hnn];omega)
 have ca1:=fun (hl : 1 < n) w => refAt_any a 1 w h (by rw [hnn];omega)
 have ca2:=fun (hl : 2 < n) w => refAt_any a 2 w h (by rw [hnn];omega)
 have cb0:=fun (hl : 0 < n) w => refAt_any b 0 w h2 (by rw [← hto,hnn];omega)
 have cb1:=fun (hl : 1 < n) w => refAt_any b 1 w h2 (by rw [← hto,hnn];omega)
 have cb2:=fun (hl : 2 < n) w => refAt_any b 2 w h2 (by rw [← hto,hnn];omega)
 simp only [Int.natCast_zero,Int.natCast_one] at ca0 ca1 cb0 cb1
 rw [show ((2 : Nat) : Int) = 2 from rfl] at ca2 cb2
 generalize a.N 0 = x0 at *
 generalize a.N 1 = x1 at *
 generalize a.N 2 = x2 at *
 generalize b.N 0 = y0 at *
 generalize b.N 1 = y1 at *
 generalize b.N 2 = y2 at *
 generalize decide ((0 : Int) < a.kp) = ka0 at *
 generalize decide ((1 : Int) < a.kp) = ka1 at *
 generalize decide ((2 : Int) < a.kp) = ka2 at *
 generalize decide ((0 : Int) < b.kp) = kb0 at *
 generalize decide ((1 : Int) < b.kp) = kb1 at *
 generalize decide ((2 : Int) < b.kp) = kb2 at *
 generalize hLL : decide (a.L b) = LL at *
 have hl1 : LL = decide ((0 < n → x0 ≤ y0) ∧ (1 < n → x1 ≤ y1) ∧ (2 < n → x2 ≤ y2)):=by rw [← hLL];exact decide_eq_decide.2 hL
 clear hL hLL hto
 unfold Sm.v at ca0 ca1 ca2 cb0 cb1 cb2
 have h3:=Two2.made w 106 a b
 have hbw:=ba2 w a b 106
 have H3:=Hd h3;have HB:=Hd hbw;clear h3 hbw
 have r1:=fun w => refRightM_true h w
 have r2:=fun w => refRightM_true h2 w
 have R1:=Hd r1;have R2:=Hd r2;have CA0:=Hd ca0;have CA1:=Hd ca1;have CA2:=Hd ca2;have CB0:=Hd cb0;have CB1:=Hd cb1;have CB2:=Hd cb2;clear r1 r2 ca0 ca1 ca2 cb0 cb1 cb2
 have HLL:=Hd hl1;have HNN:=Hd (And.intro hnn hn3);clear hl1 hnn hn3 h h2
 unfold Sm.v at *
 go_enter Tryz.func146,Tryz.ntmps146
 go_wp2_with fail
 refine (R1.out _).mono ?_;rintro e w2 ⟨rfl,hb2⟩
 have k3:=H3.out.below hb2
 have kb:=HB.out.trans (hb2.mono HB.out.size);clear H3 HB
 have H3:=Hd k3;have HB:=Hd kb;clear k3 kb hb2
 obtain ⟨a0,a1,a2,a3,a4,a5,a6⟩:=H3.out.1.cells7
 obtain ⟨b0,b1,b2,b3,b4,b5,b6⟩:=H3.out.2.cells7
 go_wp2_with fail
 clear a0 a1 a2 a3 a4 a5 a6 b0 b1 b2 b3 b4 b5 b6
 refine (R2.out _).mono ?_;rintro e w3 ⟨rfl,hb3⟩
 have k3:=H3.out.below hb3
 have kb:=HB.out.trans (hb3.mono HB.out.size);clear H3 HB
 have H3:=Hd k3;have HB:=Hd kb;clear k3 kb hb3
 obtain ⟨a0,a1,a2,a3,a4,a5,a6⟩:=H3.out.1.cells7
 obtain ⟨b0,b1,b2,b3,b4,b5,b6⟩:=H3.out.2.cells7
 go_wp2_with fail
 clear a0 a1 a2 a3 a4 a5 a6 b0 b1 b2 b3 b4 b5 b6
 clear R1 R2 h3 h4 h5
 go_loopw [5] (fun i wr => ∃ (k : Nat),k ≤ n ∧ i = .int .i64 k ∧ Two2 wr w.heap.size 106 a b ∧ Below w.heap.size w wr ∧ (0 < k → x0 ≤ y0) ∧ (1 < k → x1 ≤ y1) ∧ (2 < k → x2 ≤ y2)) (fun i _ => n - (intOf i).toNat)
 case atStart => exact ⟨0,by omega,rfl,H3.out,HB.out,by omega,by omega,by omega⟩
 case round =>
  obtain ⟨k,hk,rfl,k3,kb,hv⟩:=hrel
  clear H3 HB
  obtain ⟨a0,a1,a2,a3,a4,a5,a6⟩:=k3.1.cells7
  have H3:=Hd k3;have HB:=Hd kb;have HV:=Hd hv;clear k3 kb hv
  by_cases hlt : k < n
  · have hlt' : (k : Int) < a.to:=by have:=HNN.out.1;omega
    have hcase : k = 0 ∨ k = 1 ∨ k = 2:=by have:=HNN.out.2;omega
    rcases hcase with rfl | rfl | rfl
    · simp only [Int.natCast_zero,Int.natCast_one,Int.cast_ofNat_Int] at hlt'
      by_cases hq' : y0 < x0
      · have hq : decide (y0 < x0) = true:=by simpa using hq'
        go_wp2_with fail
        clear a0 a1 a2 a3 a4 a5 a6
        refine wp_region_below (by kernel_rfl) (by kernel_rfl) ?_
        refine wpQuiet_step (fun K hK => ?_);refine q_load (p:=.pointer (some ⟨w.heap.size,0,none⟩)) 106 _ rfl rfl rfl (load_n H3.out.1) ?_;go_simp;(with_reducible refine hK _ ?_);clear hK K
        refine wpQuiet_step (fun K hK => ?_);go_simp;(first | (with_reducible refine hK _ ?_) | (with_reducible refine ⟨_,fun _ _ => rfl,hK _ ?_⟩));clear hK K
        refine wpQuiet_step (fun K hK => ?_);go_simp;(with_reducible refine ⟨_,fun _ hb => (CA0.out hlt _).mono fun _ _ h => ⟨h.1,hb.trans (h.2.mono (by simpa using hb.size))⟩,hK _ ?_⟩);clear hK K
        refine wpQuiet_step (fun K hK => ?_);refine q_field 161 _ 1 rfl rfl rfl (field_n _ _) ?_;go_simp;(with_reducible refine hK _ ?_);clear hK K
        refine wpQuiet_step (fun K hK => ?_);refine q_load (p:=.pointer (some ⟨w.heap.size + 1,0,none⟩)) 106 _ rfl rfl rfl (load_n H3.out.2) ?_;go_simp;(with_reducible refine hK _ ?_);clear hK K
        refine wpQuiet_step (fun K hK => ?_);go_simp;(first | (with_reducible refine hK _ ?_) | (with_reducible refine ⟨_,fun _ _ => rfl,hK _ ?_⟩));clear hK K
        refine wpQuiet_step (fun K hK => ?_);go_simp;(with_reducible refine ⟨_,fun _ hb => (CB0.out hlt _).mono fun _ _ h => ⟨h.1,hb.trans (h.2.mono (by simpa using hb.size))⟩,hK _ ?_⟩);clear hK K
        refine wpQuiet_step (fun K hK => ?_);refine q_field 161 _ 1 rfl rfl rfl (field_n _ _) ?_;go_simp;(with_reducible refine hK _ ?_);clear hK K
        refine wpQuiet_step (fun K hK => ?_);refine q_bin _ _ _ _ _ rfl rfl rfl rfl (gtr_is hq) ?_;go_simp;(with_reducible refine hK _ ?_);clear hK K
        refine wpQuiet_nil ?_
        intro w8 hb8
        go_wp2_with fail
        go_ret
        have hl:=HLL.out
        rw [decide_eq_false (fun hh => by have:=hh.1;have:=hh.2.1;have:=hh.2.2;omega)] at hl
        exact ⟨by rw [hl];rfl,HB.out.trans (hb8.mono HB.out.size)⟩
      · have hq : decide (y0 < x0) = false:=by simpa using hq'
        go_wp2_with fail
        clear a0 a1 a2 a3 a4 a5 a6
        refine wp_region_below (by kernel_rfl) (by kernel_rfl) ?_
        refine wpQuiet_step (fun K hK => ?_);refine q_load (p:=.pointer (some ⟨w.heap.size,0,none⟩)) 106 _ rfl rfl rfl (load_n H3.out.1) ?_;go_simp;(with_reducible refine hK _ ?_);clear hK K
        refine wpQuiet_step (fun K hK => ?_);go_simp;(first | (with_reducible refine hK _ ?_) | (with_reducible refine ⟨_,fun _ _ => rfl,hK _ ?_⟩));clear hK K
        refine wpQuiet_step (fun K hK => ?_);go_simp;(with_reducible refine ⟨_,fun _ hb => (CA0.out hlt _).mono fun _ _ h => ⟨h.1,hb.trans (h.2.mono (by simpa using hb.size))⟩,hK _ ?_⟩);clear hK K
        refine wpQuiet_step (fun K hK => ?_);refine q_field 161 _ 1 rfl rfl rfl (field_n _ _) ?_;go_simp;(with_reducible refine hK _ ?_);clear hK K
        refine wpQuiet_step (fun K hK => ?_);refine q_load (p:=.pointer (some ⟨w.heap.size + 1,0,none⟩)) 106 _ rfl rfl rfl (load_n H3.out.2) ?_;go_simp;(with_reducible refine hK _ ?_);clear hK K
        refine wpQuiet_step (fun K hK => ?_);go_simp;(first | (with_reducible refine hK _ ?_) | (with_reducible refine ⟨_,fun _ _ => rfl,hK _ ?_⟩));clear hK K
        refine wpQuiet_step (fun K hK => ?_);go_simp;(with_reducible refine ⟨_,fun _ hb => (CB0.out hlt _).mono fun _ _ h => ⟨h.1,hb.trans (h.2.mono (by simpa using hb.size))⟩,hK _ ?_⟩);clear hK K
        refine wpQuiet_step (fun K hK => ?_);refine q_field 161 _ 1 rfl rfl rfl (field_n _ _) ?_;go_simp;(with_reducible refine hK _ ?_);clear hK K
        refine wpQuiet_step (fun K hK => ?_);refine q_bin _ _ _ _ _ rfl rfl rfl rfl (gtr_is hq) ?_;go_simp;(with_reducible refine hK _ ?_);clear hK K
        refine wpQuiet_nil ?_
        intro w8 hb8
        go_wp2_with fail
        go_roundw
        case rel => exact ⟨1,by omega,rfl,H3.out.below hb8,HB.out.trans (hb8.mono HB.out.size),by have:=HV.out;omega⟩
        case measure => simp [intOf];omega
    · simp only [Int.natCast_zero,Int.natCast_one,Int.cast_ofNat_Int] at hlt'
      by_cases hq' : y1 < x1
      · have hq : decide (y1 < x1) = true:=by simpa using hq'
        go_wp2_with fail
        clear a0 a1 a2 a3 a4 a5 a6
        refine wp_region_below (by kernel_rfl) (by kernel_rfl) ?_
        refine wpQuiet_step (fun K hK => ?_);refine q_load (p:=.pointer (some ⟨w.heap.size,0,none⟩)) 106 _ rfl rfl rfl (load_n H3.out.1) ?_;go_simp;(with_reducible refine hK _ ?_);clear hK K
        refine wpQuiet_step (fun K hK => ?_);go_simp;(first | (with_reducible refine hK _ ?_) | (with_reducible refine ⟨_,fun _ _ => rfl,hK _ ?_⟩));clear hK K
        refine wpQuiet_step (fun K hK => ?_);go_simp;(with_reducible refine ⟨_,fun _ hb => (CA1.out hlt _).mono fun _ _ h => ⟨h.1,hb.trans (h.2.mono (by simpa using hb.size))⟩,hK _ ?_⟩);clear hK K
        refine wpQuiet_step (fun K hK => ?_);refine q_field 161 _ 1 rfl rfl rfl (field_n _ _) ?_;go_simp;(with_reducible refine hK _ ?_);clear hK K
        refine wpQuiet_step (fun K hK => ?_);refine q_load (p:=.pointer (some ⟨w.heap.size + 1,0,none⟩)) 106 _ rfl rfl rfl (load_n H3.out.2) ?_;go_simp;(with_reducible refine hK _ ?_);clear hK K
        refine wpQuiet_step (fun K hK => ?_);go_simp;(first | (with_reducible refine hK _ ?_) | (with_reducible refine ⟨_,fun _ _ => rfl,hK _ ?_⟩));clear hK K
        refine wpQuiet_step (fun K hK => ?_);go_simp;(with_reducible refine ⟨_,fun _ hb => (CB1.out hlt _).mono fun _ _ h => ⟨h.1,hb.trans (h.2.mono (by simpa using hb.size))⟩,hK _ ?_⟩);clear hK K
        refine wpQuiet_step (fun K hK => ?_);refine q_field 161 _ 1 rfl rfl rfl (field_n _ _) ?_;go_simp;(with_reducible refine hK _ ?_);clear hK K
        refine wpQuiet_step (fun K hK => ?_);refine q_bin _ _ _ _ _ rfl rfl rfl rfl (gtr_is hq) ?_;go_simp;(with_reducible refine hK _ ?_);clear hK K
        refine wpQuiet_nil ?_
        intro w8 hb8
        go_wp2_with fail
        go_ret
        have hl:=HLL.out
        rw [decide_eq_false (fun hh => by have:=hh.1;have:=hh.2.1;have:=hh.2.2;omega)] at hl
        exact ⟨by rw [hl];rfl,HB.out.trans (hb8.mono HB.out.size)⟩
      · have hq : decide (y1 < x1) = false:=by simpa using hq'
        go_wp2_with fail
        clear a0 a1 a2 a3 a4 a5 a6
        refine wp_region_below (by kernel_rfl) (by kernel_rfl) ?_
        refine wpQuiet_step (fun K hK => ?_);refine q_load (p:=.pointer (some ⟨w.heap.size,0,none⟩)) 106 _ rfl rfl rfl (load_n H3.out.1) ?_;go_simp;(with_reducible refine hK _ ?_);clear hK K
        refine wpQuiet_step (fun K hK => ?_);go_simp;(first | (with_reducible refine hK _ ?_) | (with_reducible refine ⟨_,fun _ _ => rfl,hK _ ?_⟩));clear hK K
        refine wpQuiet_step (fun K hK => ?_);go_simp;(with_reducible refine ⟨_,fun _ hb => (CA1.out hlt _).mono fun _ _ h => ⟨h.1,hb.trans (h.2.mono (by simpa using hb.size))⟩,hK _ ?_⟩);clear hK K
        refine wpQuiet_step (fun K hK => ?_);refine q_field 161 _ 1 rfl rfl rfl (field_n _ _) ?_;go_simp;(with_reducible refine hK _ ?_);clear hK K
        refine wpQuiet_step (fun K hK => ?_);refine q_load (p:=.pointer (some ⟨w.heap.size + 1,0,none⟩)) 106 _ rfl rfl rfl (load_n H3.out.2) ?_;go_simp;(with_reducible refine hK _ ?_);clear hK K
        refine wpQuiet_step (fun K hK => ?_);go_simp;(first | (with_reducible refine hK _ ?_) | (with_reducible refine ⟨_,fun _ _ => rfl,hK _ ?_⟩));clear hK K
        refine wpQuiet_step (fun K hK => ?_);go_simp;(with_reducible refine ⟨_,fun _ hb => (CB1.out hlt _).mono fun _ _ h => ⟨h.1,hb.trans (h.2.mono (by simpa using hb.size))⟩,hK _ ?_⟩);clear hK K
        refine wpQuiet_step (fun K hK => ?_);refine q_field 161 _ 1 rfl rfl rfl (field_n _ _) ?_;go_simp;(with_reducible refine hK _ ?_);clear hK K
        refine wpQuiet_step (fun K hK => ?_);refine q_bin _ _ _ _ _ rfl rfl rfl rfl (gtr_is hq) ?_;go_simp;(with_reducible refine hK _ ?_);clear hK K
        refine wpQuiet_nil ?_
        intro w8 hb8
        go_wp2_with fail
        go_roundw
        case rel => exact ⟨2,by omega,rfl,H3.out.below hb8,HB.out.trans (hb8.mono HB.out.size),by have:=HV.out;omega⟩
        case measure => simp [intOf];omega
    · simp only [Int.natCast_zero,Int.natCast_one,Int.cast_ofNat_Int] at hlt'
      by_cases hq' : y2 < x2
      · have hq : decide (y2 < x2) = true:=by simpa using hq'
        go_wp2_with fail
        clear a0 a1 a2 a3 a4 a5 a6
        refine wp_region_below (by kernel_rfl) (by kernel_rfl) ?_
        refine wpQuiet_step (fun K hK => ?_);refine q_load (p:=.pointer (some ⟨w.heap.size,0,none⟩)) 106 _ rfl rfl rfl (load_n H3.out.1) ?_;go_simp;(with_reducible refine hK _ ?_);clear hK K
        refine wpQuiet_step (fun K hK => ?_);go_simp;(first | (with_reducible refine hK _ ?_) | (with_reducible refine ⟨_,fun _ _ => rfl,hK _ ?_⟩));clear hK K
        refine wpQuiet_step (fun K hK => ?_);go_simp;(with_reducible refine ⟨_,fun _ hb => (CA2.out hlt _).mono fun _ _ h => ⟨h.1,hb.trans (h.2.mono (by simpa using hb.size))⟩,hK _ ?_⟩);clear hK K
        refine wpQuiet_step (fun K hK => ?_);refine q_field 161 _ 1 rfl rfl rfl (field_n _ _) ?_;go_simp;(with_reducible refine hK _ ?_);clear hK K
        refine wpQuiet_step (fun K hK => ?_);refine q_load (p:=.pointer (some ⟨w.heap.size + 1,0,none⟩)) 106 _ rfl rfl rfl (load_n H3.out.2) ?_;go_simp;(with_reducible refine hK _ ?_);clear hK K
        refine wpQuiet_step (fun K hK => ?_);go_simp;(first | (with_reducible refine hK _ ?_) | (with_reducible refine ⟨_,fun _ _ => rfl,hK _ ?_⟩));clear hK K
        refine wpQuiet_step (fun K hK => ?_);go_simp;(with_reducible refine ⟨_,fun _ hb => (CB2.out hlt _).mono fun _ _ h => ⟨h.1,hb.trans (h.2.mono (by simpa using hb.size))⟩,hK _ ?_⟩);clear hK K
        refine wpQuiet_step (fun K hK => ?_);refine q_field 161 _ 1 rfl rfl rfl (field_n _ _) ?_;go_simp;(with_reducible refine hK _ ?_);clear hK K
        refine wpQuiet_step (fun K hK => ?_);refine q_bin _ _ _ _ _ rfl rfl rfl rfl (gtr_is hq) ?_;go_simp;(with_reducible refine hK _ ?_);clear hK K
        refine wpQuiet_nil ?_
        intro w8 hb8
        go_wp2_with fail
        go_ret
        have hl:=HLL.out
        rw [decide_eq_false (fun hh => by have:=hh.1;have:=hh.2.1;have:=hh.2.2;omega)] at hl
        exact ⟨by rw [hl];rfl,HB.out.trans (hb8.mono HB.out.size)⟩
      · have hq : decide (y2 < x2) = false:=by simpa using hq'
        go_wp2_with fail
        clear a0 a1 a2 a3 a4 a5 a6
        refine wp_region_below (by kernel_rfl) (by kernel_rfl) ?_
        refine wpQuiet_step (fun K hK => ?_);refine q_load (p:=.pointer (some ⟨w.heap.size,0,none⟩)) 106 _ rfl rfl rfl (load_n H3.out.1) ?_;go_simp;(with_reducible refine hK _ ?_);clear hK K
        refine wpQuiet_step (fun K hK => ?_);go_simp;(first | (with_reducible refine hK _ ?_) | (with_reducible refine ⟨_,fun _ _ => rfl,hK _ ?_⟩));clear hK K
        refine wpQuiet_step (fun K hK => ?_);go_simp;(with_reducible refine ⟨_,fun _ hb => (CA2.out hlt _).mono fun _ _ h => ⟨h.1,hb.trans (h.2.mono (by simpa using hb.size))⟩,hK _ ?_⟩);clear hK K
        refine wpQuiet_step (fun K hK => ?_);refine q_field 161 _ 1 rfl rfl rfl (field_n _ _) ?_;go_simp;(with_reducible refine hK _ ?_);clear hK K
        refine wpQuiet_step (fun K hK => ?_);refine q_load (p:=.pointer (some ⟨w.heap.size + 1,0,none⟩)) 106 _ rfl rfl rfl (load_n H3.out.2) ?_;go_simp;(with_reducible refine hK _ ?_);clear hK K
        refine wpQuiet_step (fun K hK => ?_);go_simp;(first | (with_reducible refine hK _ ?_) | (with_reducible refine ⟨_,fun _ _ => rfl,hK _ ?_⟩));clear hK K
        refine wpQuiet_step (fun K hK => ?_);go_simp;(with_reducible refine ⟨_,fun _ hb => (CB2.out hlt _).mono fun _ _ h => ⟨h.1,hb.trans (h.2.mono (by simpa using hb.size))⟩,hK _ ?_⟩);clear hK K
        refine wpQuiet_step (fun K hK => ?_);refine q_field 161 _ 1 rfl rfl rfl (field_n _ _) ?_;go_simp;(with_reducible refine hK _ ?_);clear hK K
        refine wpQuiet_step (fun K hK => ?_);refine q_bin _ _ _ _ _ rfl rfl rfl rfl (gtr_is hq) ?_;go_simp;(with_reducible refine hK _ ?_);clear hK K
        refine wpQuiet_nil ?_
        intro w8 hb8
        go_wp2_with fail
        go_roundw
        case rel => exact ⟨3,by omega,rfl,H3.out.below hb8,HB.out.trans (hb8.mono HB.out.size),by have:=HV.out;omega⟩
        case measure => simp [intOf];omega
  · have hkn : k = n:=by omega
    subst hkn
    have hge : ¬ (k : Int) < a.to:=by have:=HNN.out.1;omega
    have hl:=HLL.out
    rw [decide_eq_true HV.out] at hl
    have HQ:=Hd hl;clear hl
    go_wp2_with fail
    go_ret
    exact ⟨by rw [HQ.out];rfl,HB.out⟩
theorem refLeqM_any (a b : Sm) (w : World) : Calls Tryz.prog 146 #[a.v,b.v] w fun e w' => e = .returned (.bool (decide (a.L b))) ∧ Below w.heap.size w w':=by
 by_cases h : a.R
 case neg => rw [decide_eq_false (fun hh : a.L b => h hh.1)];exact refLeqM_A a b w h
 by_cases h2 : b.R
 case neg => rw [decide_eq_false (fun hh : a.L b => h2 hh.2.1)];exact refLeqM_B a b w h h2
 by_cases h3 : a.fr = b.fr
 case neg => rw [decide_eq_false (fun hh : a.L b => h3 hh.2.2.1)];exact refLeqM_C a b w h h2 (by simpa using h3)
 by_cases h4 : a.to = b.to
 case neg => rw [decide_eq_false (fun hh : a.L b => h4 hh.2.2.2.1)];exact refLeqM_D a b w h h2 (by simpa using h3) (by simpa using h4)
 by_cases h5 : b.kp < a.kp
 case pos => rw [decide_eq_false (fun hh : a.L b => by have:=hh.2.2.2.2.1;omega)];exact refLeqM_E a b w h h2 (by simpa using h3) (by simpa using h4) h5
 exact refLeqM_F a b w h h2 (by simpa using h3) (by simpa using h4) h5
end
end Go.Proofs.YtonelpnhoiajgaaGreatDoor
