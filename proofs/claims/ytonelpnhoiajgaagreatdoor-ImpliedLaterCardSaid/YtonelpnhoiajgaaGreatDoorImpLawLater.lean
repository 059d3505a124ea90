/- ImpliedLater: one place later, and nothing gets further. -/
import Derived.Test.YtonelpnhoiajgaaGreatDoorHd
import Derived.Test.YtonelpnhoiajgaaGreatDoorCa19
import Derived.Test.YtonelpnhoiajgaaGreatDoorCa3
namespace Go.Proofs.YtonelpnhoiajgaaGreatDoor
set_option linter.unusedSimpArgs false
open Go.ChangeShapes Go.WideShapes Go.ChangeAt Go.RowKit Go.BigFrame
set_option linter.unusedVariables false
set_option maxRecDepth 100000
namespace impliedLater
theorem open_stamp {H : Type} {enc : TypeId × Value → H} {W : World} {base : Nat} {v : Value} {d : DataW H} {p : List MemPlace}
 (hok : Value.okWide Tryz.prog W .any base 27 v) (h : DataW.Trod enc Tryz.prog W 0 (fun _ => true) true 27 v d p) : ∃ t : St,v = t.val:=by
 obtain ⟨cs,rfl,hsz⟩:=okWide_struct Tryz.underlying27 hok
 obtain ⟨l⟩:=cs
 match l,hsz.trans cells_stamp with
 | [c0,c1,c2,c3,c4],_ =>
   obtain ⟨fuel,hf⟩:=h
   obtain ⟨xs,n,_,hx,_,hlen,hg⟩:=DataW.trod_struct Tryz.underlying27 hf
   match xs,hlen with
   | [y0,y1,y2],_ =>
     have h0 : DataW.trod enc Tryz.prog W 0 (fun _ => true) true n 3 [c0] = some y0:=hg 0 _ rfl
     have h1 : DataW.trod enc Tryz.prog W 0 (fun _ => true) true n 3 [c1] = some y1:=hg 1 _ rfl
     have h2 : DataW.trod enc Tryz.prog W 0 (fun _ => true) true n 25 [c2,c3,c4] = some y2:=hg 2 _ rfl
     obtain ⟨z0,z1,z2,m,-,k0,k1,k2⟩:=trod_array3 Tryz.underlying25 stCells_int h2
     obtain ⟨n0,e0,-,-⟩:=DataW.trod_int Tryz.underlying3 h0
     obtain ⟨n1,e1,-,-⟩:=DataW.trod_int Tryz.underlying3 h1
     obtain ⟨n2,e2,-,-⟩:=DataW.trod_int Tryz.underlying3 k0
     obtain ⟨n3,e3,-,-⟩:=DataW.trod_int Tryz.underlying3 k1
     obtain ⟨n4,e4,-,-⟩:=DataW.trod_int Tryz.underlying3 k2
     cases e0;cases e1;cases e2;cases e3;cases e4
     exact ⟨⟨n0,n1,n2,n3,n4⟩,rfl⟩
theorem fit_later {g : List Nd} {p : Pl} {T : St} (hl : p.at_.L T) : fitB g ⟨p.nd,p.held,T⟩ = fitB g p:=by
 rw [Bool.eq_iff_iff]
 constructor
 · intro h
   obtain ⟨i,n,hi,hx,hr,hd,hm⟩:=fitB_yes h
   exact fitB_mk hi hx hl.1 (hl.2.2.1.trans hd) hm
 · intro h
   obtain ⟨i,n,hi,hx,hr,hd,hm⟩:=fitB_yes h
   exact fitB_mk hi hx hl.2.1 (hl.2.2.1.symm.trans hd) hm
theorem split_at {α : Type} {xs : List α} {i : Nat} {p : α} (hp : xs[i]? = some p) : ∃ L R,xs = L ++ p :: R ∧ i = L.length:=by
 obtain ⟨hi,e⟩:=List.getElem?_eq_some_iff.1 hp
 exact ⟨xs.take i,xs.drop (i + 1),by rw [← e,← List.drop_eq_getElem_cons hi,List.take_append_drop],by rw [List.length_take];omega⟩
theorem set_in {α : Type} (l r : List α) (j : Nat) (x : α) : (l ++ r).set (l.length + j) x = l ++ r.set j x:=by
 rw [List.set_append,if_neg (by omega),Nat.add_sub_cancel_left]
theorem set_at {α : Type} (L R : List α) (p q : α) : (L ++ p :: R).set L.length q = L ++ q :: R:=set_in L (p :: R) 0 q
theorem all_later {g : List Nd} {xs : List Pl} {i : Nat} {p : Pl} {T : St} (hp : xs[i]? = some p) (hl : p.at_.L T) : (xs.set i ⟨p.nd,p.held,T⟩).all (fitB g) = xs.all (fitB g):=by
 obtain ⟨L,R,rfl,rfl⟩:=split_at hp
 rw [set_at,List.all_append,List.all_append,List.all_cons,List.all_cons,fit_later hl]
theorem ok_later {g : List Nd} {xs : List Pl} {i : Nat} {p : Pl} {T : St} {node : Int} (hp : xs[i]? = some p) (hl : p.at_.L T) : okF g (xs.set i ⟨p.nd,p.held,T⟩) node = okF g xs node:=by
 unfold okF;rw [all_later hp hl]
theorem row_later (L R : List Pl) (p : Pl) (T : St) : ((((((Rw.row kindC (L ++ p :: R)).set (L.length * 7 + 2) (.int .i64 T.d)).set (L.length * 7 + 3) (.int .i64 T.e)).set (L.length * 7 + 4) (.int .i64 T.x)).set (L.length * 7 + 5) (.int .i64 T.y)).set (L.length * 7 + 6) (.int .i64 T.z)) = Rw.row kindC (L ++ ⟨p.nd,p.held,T⟩ :: R):=by
 have h : L.length * 7 = (Rw.row kindC L).length:=(Rw.row_len (κ:=kindC) L).symm
 rw [Rw.row_append,Rw.row_append,Rw.row_cons,Rw.row_cons,h,set_in,set_in,set_in,set_in,set_in]
 rfl
theorem own_some {w : World} {base K n : Nat} {v : Value} {xs : List Value} (h : w.ownsRow base 50 K v n xs) (hn : 0 < n) : ∃ g c,v = .slice (some ⟨g,0,none⟩) n c ∧ base ≤ g:=by
 obtain ⟨_,⟨rfl,h0⟩ | ⟨g,cap,cur,rfl,hg,_⟩⟩:=h
 · omega
 · exact ⟨g,cap,rfl,hg⟩
theorem list_load {w : World} {ops : Array Oper} {rest : List Oper} {o : Oper} {a : Act} {Q : Exit → Act → World → Prop} (t : TypeId) (x : Operand) (hgd : o.guard = none) (ho : o.op = .load t x) {p v : Value} (hx : a.eval x = p) (hl : (Instr.loadAt t p).run Tryz.prog w = .ok v w)
 (h : wpList Tryz.prog ops Q rest (a.put o.dst v) w) : wpList Tryz.prog ops Q (o :: rest) a w:=by
 refine wpList_plain hgd fun K hK => ?_
 unfold Oper.wp execOp
 simp only [ho,hx,Sem.run_bind,hl,Sem.run_pure,Result.andThen_ok]
 exact hK _ _ h
theorem place_store {w w0 : World} {ops : Array Oper} {rest : List Oper} {o : Oper} {a : Act} {Q : Exit → Act → World → Prop} (hgd : o.guard = none) (x y : Operand) (ho : o.op = .store 27 x y)
 (base g i c : Nat) (xs : List Pl) (p : Pl) (T : St) (hx : a.eval x = .pointer (some ⟨g,i * 7 + 2,none⟩)) (hy : a.eval y = T.val) (hown : w.ownsRow base 50 7 (.slice (some ⟨g,0,none⟩) xs.length c) xs.length (Rw.row kindC xs)) (hp : xs[i]? = some p)
 (hb : Below base w0 w) (hB : base ≤ w0.heap.size)
 (h : ∀ w',w'.ownsRow base 50 7 (.slice (some ⟨g,0,none⟩) xs.length c) xs.length (Rw.row kindC (xs.set i ⟨p.nd,p.held,T⟩)) → Below base w0 w' → wpList Tryz.prog ops Q rest (a.put o.dst undef) w') : wpList Tryz.prog ops Q (o :: rest) a w:=by
 have hi : i < xs.length:=(List.getElem?_eq_some_iff.1 hp).1
 refine wpList_store_mid hgd 27 x y ho g (i * 7 + 2) #[.int .i64 T.d,.int .i64 T.e,.int .i64 T.x,.int .i64 T.y,.int .i64 T.z] hx hy ?_ (by kernel_rfl) (by simp [Value.oneCell']) ?_
 · intro j hj
   have hj : j < 5:=hj
   refine ⟨?_,hown.frozenAt _⟩
   rw [hown.cellAt _ (by omega),List.getElem?_eq_getElem (by rw [Rw.row_len];show _ < xs.length * 7;omega)]
   rfl
 · have h0:=hown.stored (i * 7 + 2) (.int .i64 T.d)
   have h1:=h0.1.stored (i * 7 + 3) (.int .i64 T.e)
   have h2:=h1.1.stored (i * 7 + 4) (.int .i64 T.x)
   have h3:=h2.1.stored (i * 7 + 5) (.int .i64 T.y)
   have h4:=h3.1.stored (i * 7 + 6) (.int .i64 T.z)
   have k0:=Rw.own_below hown h0.2 hb (Nat.le_trans hB hb.size)
   have k1:=Rw.own_below h0.1 h1.2 k0 (Nat.le_trans hB k0.size)
   have k2:=Rw.own_below h1.1 h2.2 k1 (Nat.le_trans hB k1.size)
   have k3:=Rw.own_below h2.1 h3.2 k2 (Nat.le_trans hB k2.size)
   have k4:=Rw.own_below h3.1 h4.2 k3 (Nat.le_trans hB k3.size)
   refine h _ ?_ k4
   have ho:=h4.1
   have hrow : ((((((Rw.row kindC xs).set (i * 7 + 2) (.int .i64 T.d)).set (i * 7 + 3) (.int .i64 T.e)).set (i * 7 + 4) (.int .i64 T.x)).set (i * 7 + 5) (.int .i64 T.y)).set (i * 7 + 6) (.int .i64 T.z)) = Rw.row kindC (xs.set i ⟨p.nd,p.held,T⟩):=by
    obtain ⟨L,R,rfl,rfl⟩:=split_at hp
    rw [set_at]
    exact row_later L R p T
   rw [hrow] at ho
   exact ho
theorem place_app {w : World} {ops : Array Oper} {rest : List Oper} {o : Oper} {a : Act} {Q : Exit → Act → World → Prop} (hgd : o.guard = none) (s x : Operand)
 (ho : o.op = .call { callee:=.builtin .append,args:=#[s,x],argTypes:=#[24,24] })
 (base : Nat) (hs : a.eval s = .slice none 0 0)
 (A : Option Addr) (c : Nat) (ys : List Pl) (hx : a.eval x = .slice A ys.length c) (hA : (ys.length ≤ c ∧ c ≤ maxLen) ∧ (A = none → c = 0)) (hb : Rw.Ts kindC w A ys)
 (hle : ys.length ≤ 60) (hbase : base ≤ w.heap.size)
 (h : ∀ v' w',w'.ownsRow base 50 7 v' ys.length (Rw.row kindC ys) → Below base w w' → wpList Tryz.prog ops Q rest (a.put o.dst v') w') : wpList Tryz.prog ops Q (o :: rest) a w :=
 Rw.append_own kindC 50 24 Tryz.underlying24 infoPlace rfl hgd s x ho base (.slice none 0 0) 0 [] hs (World.ownsRow_nil w base 50 7) A c ys hx (fun e => ⟨hA.2 e,List.eq_nil_of_length_eq_zero (by have:=hA.2 e;have:=hA.1.1;omega)⟩) hb (by unfold maxLen;omega) (by omega) hbase
  fun v' w' h1 h2 => h v' w' (by rw [Nat.zero_add] at h1;exact h1) (Rw.own_below (World.ownsRow_nil w base 50 7) h2 (Below.refl _ _) hbase)
theorem ld_box {w wa : World} {g : Nat} (T : St) (hr : Row w g 27 T.cells) (hb : Below w.heap.size w wa) : (Instr.loadAt 27 (.pointer (some ⟨g,0,none⟩))).run Tryz.prog wa = .ok T.val wa :=
 run_loadAt_part g 0 27 _ T.cells (fun j v hj => by rw [add_at,Nat.zero_add,(hr.below hb hr.lt).cell];exact hj) Tryz.underlying27 rfl (by kernel_rfl)
theorem ld_pl {w wa : World} {b o : Nat} (x : Pl) (hc : ∀ w',Below w.heap.size w w' → ∀ (j : Nat) (u : Value),x.cells[j]? = some u → w'.cell? ⟨b,o + j,none⟩ = some u) (hb : Below w.heap.size w wa) : (Instr.loadAt 27 (.pointer (some ⟨b,o + 2,none⟩))).run Tryz.prog wa = .ok x.at_.val wa :=
 run_loadAt_part b (o + 2) 27 _ x.at_.cells (fun j v hj => by
  rw [add_at]
  match j,hj with
  | 0,hj => exact hc wa hb 2 v hj
  | 1,hj => exact hc wa hb 3 v hj
  | 2,hj => exact hc wa hb 4 v hj
  | 3,hj => exact hc wa hb 5 v hj
  | 4,hj => exact hc wa hb 6 v hj
  | _ + 5,hj => cases hj) Tryz.underlying27 rfl (by kernel_rfl)
def LgV (pb po pc ii B : Nat) (xs : List Pl) (X T : St) (R0 : Bool) : Nat → Value → Prop
 | 0,v => v = .slice (some ⟨pb,po,none⟩) xs.length pc
 | 1,v => v = .int .i64 (ii : Nat)
 | 2,v => v = .pointer (some ⟨pb,po + ii * 7,none⟩)
 | 3,v => v = .pointer (some ⟨pb,po + ii * 7 + 2,none⟩)
 | 4,v => v = .agg #[.int .i64 X.d,.int .i64 X.e,.int .i64 X.x,.int .i64 X.y,.int .i64 X.z]
 | 5,v => v = .agg #[.int .i64 T.d,.int .i64 T.e,.int .i64 T.x,.int .i64 T.y,.int .i64 T.z]
 | 6,v => v = .bool R0
 | _,v => v = .bool (!R0)
set_option maxHeartbeats 16000000 in
theorem walk (A0 : Option Addr) (lg0 : List Gn) (c0 : Nat) (PA : Option Addr) (xs : List Pl) (pc : Nat) (kk : Nat) (T : St) (node : Int) (w : World) (hT : Tab w) (hG : Gr w A0 lg0) (hl : lg0.length ≤ maxLen) (hc : lg0.length ≤ c0 ∧ c0 ≤ maxLen) (hn0 : A0 = none → c0 = 0)
 (hPT : Rw.Ts kindC w PA xs) (hxl : xs.length ≤ pc ∧ pc ≤ maxLen) (hpn : PA = none → pc = 0) (hkk : kk < 256) :
 Calls Tryz.prog 7 #[.slice A0 lg0.length c0,.slice PA xs.length pc,.int .u8 (kk : Nat),T.val,.int .i64 node] w fun e w' => e = .returned (.bool true) ∧ Below w.heap.size w w':=by
 have hb0 : Below w.heap.size w (w.alloc (.cells #[.int .i64 T.d,.int .i64 T.e,.int .i64 T.x,.int .i64 T.y,.int .i64 T.z] 27)):=(Below.refl _ _).alloc (Nat.le_refl _) _
 have hx0 : Row (w.alloc (.cells #[.int .i64 T.d,.int .i64 T.e,.int .i64 T.x,.int .i64 T.y,.int .i64 T.z] 27)) w.heap.size 27 T.cells:=Row.made w _ _
 have hfew:=fewI_any A0 lg0 c0 PA xs.length pc 15 _ (hG.below hb0) hl (Nat.le_trans hxl.1 hxl.2)
 have HT:=Hd (hT.below hb0);have HG:=Hd (hG.below hb0);have HC:=Hd hc;have HN0:=Hd hn0;have HP:=Hd (hPT.below hb0);have HPN:=Hd (And.intro hxl hpn);have HX:=Hd hx0;have HB:=Hd hb0;have HFEW:=Hd hfew;have HL:=Hd hl
 clear hT hG hc hn0 hPT hxl hpn hfew hl hb0 hx0
 unfold St.val
 go_enter Tryz.func7,Tryz.ntmps7
 go_wp2_with fail
 generalize w.alloc (.cells #[.int .i64 T.d,.int .i64 T.e,.int .i64 T.x,.int .i64 T.y,.int .i64 T.z] 27) = w1 at *
 refine HFEW.out.mono ?_;rintro e w2 ⟨⟨bb,rfl,hb⟩,rfl⟩
 clear HFEW
 dsimp only
 cases bb with
 | false =>
   clear hb
   go_wp2_with fail
   refine (impWorks_any w1 HT.out).mono ?_;rintro e w99 ⟨rfl,hb99⟩
   have HB99:=Hd (HB.out.trans (hb99.mono HB.out.size));clear hb99
   dsimp only
   go_wp2_with fail
   go_ret
   exact ⟨rfl,HB99.out⟩
 | true =>
   obtain ⟨hb12,hx15⟩:=hb rfl
   obtain ⟨hl14,hI0⟩:=fewI_nds hb12
   have HL0:=Hd hl14;have HI0:=Hd hI0;have HX15:=Hd hx15;clear hb hb12 hl14 hI0
   by_cases hx0 : xs.length = 0
   · clear hx15
     go_wp2_with fail
     refine (impWorks_any w1 HT.out).mono ?_;rintro e w99 ⟨rfl,hb99⟩
     have HB99:=Hd (HB.out.trans (hb99.mono HB.out.size));clear hb99
     dsimp only
     go_wp2_with fail
     go_ret
     exact ⟨rfl,HB99.out⟩
   · obtain ⟨B,hB⟩ : ∃ B,w.heap.size = B:=⟨_,rfl⟩
     by_cases hE : (checkR (nds lg0)).2 = 0
     · have HFI0:=Hd (fine_of (checkR_zero hE).2.1)
       have HNEW:=Hd (new_good A0 lg0 c0 w1 HT.out HG.out (by have:=HL0.out;omega) HI0.out HC.out HN0.out hE)
       clear hE
       go_wp2_with fail
       refine HNEW.out.mono ?_
       rintro e w2 ⟨⟨p,F,A,c,lg,rfl,hn,hP⟩,hb1⟩
       have hk1 : WkI w1 w2 p F A c lg w1.heap.size:=⟨⟨_,hP⟩,Nat.le_refl _,hb1⟩
       have hln : lg.length = lg0.length:=by rw [← nds_len,hn,nds_len]
       have hll : lg.length ≤ 14:=hln ▸ HL0.out
       have HK1:=Hd hk1;have HL:=Hd hll;have HI : Hid (∀ x ∈ nds lg,x.ins.length ≤ 40):=Hd (by rw [hn];exact HI0.out)
       have HFI : Hid (Fine (nds lg)):=Hd (by rw [hn];exact HFI0.out)
       clear hn hP hb1 hk1 hll hln HNEW
       obtain ⟨ii,hi⟩ : ∃ ii,kk % xs.length = ii:=⟨_,rfl⟩
       have hil : ii < xs.length:=hi ▸ Nat.mod_lt _ (by omega)
       have hrem : ((kk : Nat) : Int).tmod (xs.length : Nat) = (ii : Nat):=by
        rw [Int.tmod_eq_emod_of_nonneg (by omega),← hi];rfl
       dsimp only
       go_upto_region 7 with fail
       obtain ⟨Xp,hXi⟩ : ∃ X,xs[ii]? = some X:=⟨_,List.getElem?_eq_getElem hil⟩
       obtain ⟨pb,po,hPA,_,hcs⟩:=(HP.out.below HK1.out.below).at_ hXi
       subst hPA
       obtain ⟨X,hX⟩ : ∃ X,Xp.at_ = X:=⟨_,rfl⟩
       have hlx:=fun wa (hb : Below w2.heap.size w2 wa) => ld_pl (o:=po + ii * 7) Xp (fun w' hb j u hj => hcs w' hb j u hj) hb
       have hlt:=fun wa (hb : Below w2.heap.size w2 wa) => ld_box T (HX.out.below HK1.out.below HX.out.lt) hb
       have hlq:=fun wa => leq_any X T wa
       obtain ⟨R0,hR0⟩ : ∃ R0,decide (X.L T) = R0:=⟨_,rfl⟩
       rw [hR0] at hlq
       rw [hX] at hlx
       unfold St.val at hlx hlt hlq
       rw [hB] at HX hlt
       have HLX:=Hd hlx;have HLT:=Hd hlt;have HLQ:=Hd hlq;have HXI:=Hd hXi;have HXA:=Hd hX;have HR0:=Hd hR0
       clear hlx hlt hlq hXi hX hR0 hcs hi hrem
       rw [hB]
       clear hB
       refine Free.wp_guarded (by kernel_rfl) (by kernel_rfl) (fun w' => Below w2.heap.size w2 w') (LgV pb po pc ii B xs X T R0) ((Below.refl _ _).drew) ?_ ?_
       · intro i o hi a wa hold hpre hF
         match i with
         | 0 => cases hi;exact Free.c_all rfl (Free.g_move _ rfl ⟨((hold 1 (by decide)).trans rfl),hF⟩)
         | 1 => cases hi;exact Free.c_all rfl (Free.g_move _ rfl ⟨((hold 13 (by decide)).trans rfl),hF⟩)
         | 2 => cases hi;exact Free.c_all rfl (Free.g_indexAddr (v:=.pointer (some ⟨pb,po + ii * 7,none⟩)) _ _ _ rfl (hpre 0 _ _ (by kernel_rfl) rfl rfl) (hpre 1 _ _ (by kernel_rfl) rfl rfl) (by go_simp) ⟨rfl,hF⟩)
         | 3 => cases hi;exact Free.c_all rfl (Free.g_field (v:=.pointer (some ⟨pb,po + ii * 7 + 2,none⟩)) _ _ _ rfl (hpre 2 _ _ (by kernel_rfl) rfl rfl) (by go_simp) ⟨rfl,hF⟩)
         | 4 => cases hi;exact Free.c_all rfl (Free.g_load _ _ rfl (hpre 3 _ _ (by kernel_rfl) rfl rfl) (HLX.out wa hF) ⟨rfl,hF⟩)
         | 5 => cases hi;exact Free.c_all rfl (Free.g_load _ _ rfl ((hold 8 (by decide)).trans rfl) (HLT.out wa hF) ⟨rfl,hF⟩)
         | 6 => cases hi;exact Free.c_all rfl (Free.g_call _ _ rfl Tryz.func30 (by kernel_rfl) rfl [.agg #[.int .i64 X.d,.int .i64 X.e,.int .i64 X.x,.int .i64 X.y,.int .i64 X.z],.agg #[.int .i64 T.d,.int .i64 T.e,.int .i64 T.x,.int .i64 T.y,.int .i64 T.z]] (cons_eq (hpre 4 _ _ (by kernel_rfl) rfl rfl) (cons_eq (hpre 5 _ _ (by kernel_rfl) rfl rfl) (rfl))) ((HLQ.out wa).mono fun e w2 ⟨he,hb2⟩ => ⟨_,he,rfl,hF.trans (hb2.mono hF.size)⟩))
         | 7 => cases hi;exact Free.c_all rfl (g_not' _ _ rfl (hpre 6 _ _ (by kernel_rfl) rfl rfl) ⟨rfl,hF⟩)
         | _ + 8 => cases hi
       · intro vs we hv hF
         have f7 : vs 7 = .bool (!R0):=hv 7 (by simp) (by rintro o ⟨⟩;rfl)
         have HWE:=Hd hF;clear hF hv
         simp only [Free.puts,Nat.reduceAdd,f7]
         generalize vs 0 = y0,vs 1 = y1,vs 2 = y2,vs 3 = y3,vs 4 = y4,vs 5 = y5,vs 6 = y6
         go_simp
         cases R0 with
         | false =>
           have HK2:=Hd (HK1.out.below' HWE.out)
           go_wp2_with fail
           refine (impWorks_any we (HT.out.below HK2.out.below)).mono ?_;rintro e w99 ⟨rfl,hb99⟩
           have HB99:=Hd ((HB.out.trans (HK2.out.below.mono HB.out.size)).trans (hb99.mono (HB.out.trans (HK2.out.below.mono HB.out.size)).size));clear hb99
           dsimp only
           go_wp2_with fail
           go_ret
           exact ⟨rfl,HB99.out⟩
         | true =>
           have HK2:=Hd (HK1.out.below' HWE.out);have HLE:=Hd (of_decide_eq_true HR0.out)
           clear HK1 HWE HR0 HLX HLT HLQ
           go_wp2_with fail
           refine (HK2.out.front HL.out HI.out HFI.out pc node (HP.out.below HK2.out.below) (by have:=HX15.out;omega)).mono ?_
           rintro e w3 ⟨⟨v3,f3,rfl,hf3,ho3⟩,hk3,ht3⟩
           have HK3:=Hd hk3;have HF3:=Hd hf3;have HO3:=Hd ho3;clear hk3 hf3 ho3 ht3 HK2
           dsimp only
           have hpx:=HP.out.below HK3.out.below
           have hle1 : xs.length ≤ 60:=by have:=HX15.out;omega
           go_upto_region 12 with (at_builtin;refine place_app rfl _ _ rfl w3.heap.size rfl (some ⟨pb,po,none⟩) pc xs rfl HPN.out hpx hle1 (Nat.le_refl _) ?_;intro v4 w4 hv4 hb4;obtain ⟨g,c4,rfl,hgb⟩:=own_some hv4 (Nat.pos_of_ne_zero hx0);have HV4:=Hd hv4;have HB4:=Hd hb4;clear hv4 hb4 hpx hle1)
           have hld:=ld_box T ((HX.out.below HK3.out.below HX.out.lt).below HB4.out (Nat.lt_of_lt_of_le HX.out.lt HK3.out.below.size)) (Below.refl _ _)
           unfold St.val at hld
           have HLD:=Hd hld;clear hld
           go_upto_region 13 with (first | (refine list_load 27 _ rfl rfl rfl HLD.out ?_) | (refine place_store rfl _ _ rfl w3.heap.size g ii c4 xs Xp T rfl rfl HV4.out HXI.out HB4.out (Nat.le_refl _) ?_;intro w5 hv5 hb5;have HV5:=Hd hv5;have HB5:=Hd hb5;clear hv5 hb5))
           go_wp2_with fail
           have hle : Xp.at_.L T:=by rw [HXA.out];exact HLE.out
           have hts5 : Rw.Ts kindC w5 (some ⟨g,0,none⟩) (xs.set ii ⟨Xp.nd,Xp.held,T⟩):=by
            obtain ⟨A5,c5,he,hts5,_⟩:=Rw.Ts.of_own HV5.out
            simp only [Value.slice.injEq] at he
            obtain ⟨rfl,-,rfl⟩:=he
            exact hts5
           have hk5:=HK3.out.below' HB5.out
           have hfr:=hk5.front HL.out HI.out HFI.out c4 node hts5 (by rw [List.length_set];have:=HX15.out;omega)
           rw [ok_later HXI.out hle,List.length_set] at hfr
           have HFR:=Hd hfr;have HK5:=Hd hk5;clear hfr hk5 hts5
           refine HFR.out.mono ?_
           rintro e w6 ⟨⟨v6,f6,rfl,hf6,ho6⟩,hk6,ht6⟩
           obtain ⟨A6,c6,rfl,hs6⟩:=Slc.of_own ho6
           have ho3:=HK5.out.own ht6 (Rw.own_kept HO3.out HB5.out) (by decide)
           obtain ⟨A3,c3,rfl,hs3⟩:=Slc.of_own ho3
           have HS6:=Hd hs6;have HS3:=Hd hs3;have HK6:=Hd hk6;have HF6:=Hd hf6;have HLE2:=Hd hle
           clear HFR hs6 hs3 hk6 hf6 ht6 ho6 ho3 hle HO3 HV5 HV4 HLD
           dsimp only
           cases hok : okF (nds lg) xs node with
           | false =>
             simp only [show erF false = 2 from rfl]
             clear hok
             go_wp2_with fail
             refine (impWorks_any w6 (HT.out.below HK6.out.below)).mono ?_;rintro e w99 ⟨rfl,hb99⟩
             have HB99:=Hd ((HB.out.trans (HK6.out.below.mono HB.out.size)).trans (hb99.mono (HB.out.trans (HK6.out.below.mono HB.out.size)).size));clear hb99
             dsimp only
             go_wp2_with fail
             go_ret
             exact ⟨rfl,HB99.out⟩
           | true =>
             obtain ⟨n,y,hnn,hnl,hgy,hxf⟩:=okF_yes hok
             subst hnn
             have hzf : (xs.set ii ⟨Xp.nd,Xp.held,T⟩).all (fitB (nds lg)) = true:=by rw [all_later HXI.out HLE2.out];exact hxf
             have hr3:=HF3.out.yes hok
             have hr6:=HF6.out.yes (by rw [ok_later HXI.out HLE2.out];exact hok)
             rw [Int.toNat_natCast] at hr3 hr6
             have hun : Under f3 f6:=hr3.under HFI.out hxf hzf hgy hr6 fun q hq u hu => by
              have hm : q.pc ∈ (xs.map Pl.pc).set ii ⟨Xp.pc.node,Xp.pc.held,T⟩:=by
               have:=List.mem_map_of_mem (f:=Pl.pc) hq
               rw [List.map_set] at this
               exact this
              obtain ⟨p',hp',v,hv,hvl⟩:=later_within tmR_ok HFI.out (fit_all hxf) hgy (by rw [List.getElem?_map,HXI.out];rfl) HLE2.out q.pc hm u hu
              obtain ⟨z,hz,rfl⟩:=List.mem_map.1 hp'
              exact ⟨z,hz,v,hv,hvl⟩
             have hl3:=HF3.out.len;have hl6:=HF6.out.len
             rw [List.length_set] at hl6
             have HWI:=Hd (withinW HS3.out HS6.out (by have:=HX15.out;omega) (by have:=HX15.out;omega) (decide_eq_true hun) w6 (Below.refl _ _))
             simp only [show erF true = 0 from rfl]
             clear hok hzf hr3 hr6 hun hl3 hl6 hxf hgy hnl
             go_wp2_with fail
             refine HWI.out.mono ?_
             rintro e w7 ⟨rfl,hb7⟩
             have HK7:=Hd (HK6.out.below' hb7);clear hb7 HWI
             dsimp only
             go_wp2_with fail
             refine (impWorks_any w7 (HT.out.below HK7.out.below)).mono ?_;rintro e w99 ⟨rfl,hb99⟩
             have HB99:=Hd ((HB.out.trans (HK7.out.below.mono HB.out.size)).trans (hb99.mono (HB.out.trans (HK7.out.below.mono HB.out.size)).size));clear hb99
             dsimp only
             go_wp2_with fail
             go_ret
             exact ⟨rfl,HB99.out⟩
     · have hnew:=new_bad A0 lg0 c0 w1 HT.out HG.out (by have:=HL0.out;omega) HI0.out HC.out hE
       have hez : ((checkR (nds lg0)).2 != 0) = true:=by simpa using hE
       generalize (checkR (nds lg0)).2 = E at *
       have HNEW:=Hd hnew;clear hnew hE
       go_wp2_with fail
       refine HNEW.out.mono ?_
       rintro e w2 ⟨rfl,hb1⟩
       have HB1:=Hd (HB.out.trans (hb1.mono HB.out.size));have HT1:=Hd (HT.out.below hb1);clear hb1 HNEW
       dsimp only
       go_wp2_with fail
       refine (impWorks_any w2 HT1.out).mono ?_;rintro e w99 ⟨rfl,hb99⟩
       have HB99:=Hd (HB1.out.trans (hb99.mono HB1.out.size));clear hb99
       dsimp only
       go_wp2_with fail
       go_ret
       exact ⟨rfl,HB99.out⟩

set_option maxRecDepth 100000 in
theorem lifted (os : Os) (started : os.Started) (H : Type) (enc : TypeId × Value → H) :
 ReturnsInHanded {} Tryz.checked os 7 .any (fun w args => (Rows.impliedLaterSpec.pre enc Tryz.prog Tryz.f7 [] false w args ∧ laidMetH Tryz.prog laidT w) ∧ sizedMet enc Tryz.prog Tryz.f7 (OpenSpec.ofChange Rows.impliedLaterSpec) false w args) (Rows.impliedLaterSpec.post enc Tryz.prog Tryz.f7 false true false false):=by
 refine returnsInHanded_of_change_and (C:=Tryz.checked) (X:=fun w _ => laidMetH Tryz.prog laidT w) (fun _ _ _ hh h => h.of_heap hh) ownKnob_none started (by kernel_rfl) Tryz.func7
  (ChangeSpec.witness_shaped (enc:=enc) (C:=Tryz.checked) (os:=os) (X:=fun w _ => laidMetH Tryz.prog laidT w) false (World.doorLaid Tryz.prog 400 os) #[.slice none 0 0,.slice none 0 0,.int .u8 0,.agg #[.int .i64 0,.int .i64 0,.int .i64 0,.int .i64 0,.int .i64 0],.int .i64 0] 8 rfl (World.shaped_of_RefB (by kernel_rfl) (by kernel_rfl)) (by kernel_rfl) (by kernel_rfl) (by kernel_rfl) (door_met os _)) ?_
 intro W base args ds gs before hval0 hW hcnd hsz0 hL _
 have hTab:=tab_of_laid hL
 have hval : ∀ (j : Nat) t v,Tryz.f7.params[j]? = some t → args[j]? = some v → Value.okWide Tryz.prog W .any base t v:=hval0
 have hW':=hW
 obtain ⟨p,q,hA0,hV,rfl,hfz,hnd⟩:=hW
 have hA : DataW.TrodAll enc Tryz.prog W 0 (fun _ => true) true Tryz.f7.params.toList args.toList ds p:=hA0
 have hsz : (DataW.weightsEach Tryz.prog (Tryz.f7.params.toList ++ Rows.impliedLaterSpec.plain.varTypes Tryz.prog) (ds ++ gs)).all (· ≤ reachBytes) = true:=hsz0
 rw [Tryz.params7] at hA hval hsz
 obtain ⟨v0,vs0,d0,ds0,p0,q0,hargs,rfl,rfl,h0,r0⟩:=trodAll_cons hA
 obtain ⟨v1,vs1,d1,ds1,p1,q1,rfl,rfl,rfl,h1,r1⟩:=trodAll_cons r0
 obtain ⟨v2,vs2,d2,ds2,p2,q2,rfl,rfl,rfl,h2,r2⟩:=trodAll_cons r1
 obtain ⟨v3,vs3,d3,ds3,p3,q3,rfl,rfl,rfl,h3,r3⟩:=trodAll_cons r2
 obtain ⟨v4,vs4,d4,ds4,p4,q4,rfl,rfl,rfl,h4,r4⟩:=trodAll_cons r3
 obtain ⟨rfl,rfl,rfl⟩:=trodAll_nil r4
 obtain rfl : args = #[v0,v1,v2,v3,v4]:=by cases args;simp_all
 obtain ⟨rfl,rfl⟩:=trodVars_none hV
 obtain ⟨A0,l0,c0,rfl,hG0,hgc0,hgm0,hgn0⟩:=open_graph (hval 0 23 v0 rfl rfl) h0
 obtain ⟨A1,l1,c1,rfl,hG1,hw1,hgc1,hgm1,hgn1⟩:=open_places (hval 1 24 v1 rfl rfl) h1
 obtain ⟨a2,rfl,rfl,rfl,w2⟩:=open_int Tryz.underlying5 (hval 2 5 v2 rfl rfl) h2
 have b2:=u8_wf w2
 obtain ⟨n2,rfl⟩:=Int.eq_ofNat_of_zero_le b2.1
 obtain ⟨t3,rfl⟩:=open_stamp (hval 3 27 v3 rfl rfl) h3
 obtain ⟨a4,rfl,rfl,rfl,w4⟩:=open_int Tryz.underlying3 (hval 4 3 v4 rfl rfl) h4
 have b4:=i64_wf w4
 clear hA0 hval0 hsz0
 refine (walk A0 l0 c0 A1 l1 c1 n2 t3 a4 W hTab hG0 (Nat.le_trans hgc0 hgm0) ⟨hgc0,hgm0⟩ hgn0 hG1 ⟨hgc1,hgm1⟩ hgn1 (by have:=b2.2;omega)).mono fun e W' ⟨he,hg⟩ => ?_
 subst he
 exact ⟨_,rfl,law_post progLaid hW' rfl (by rw [Tryz.params7];intro t ht;simp at ht;rcases ht with rfl | rfl | rfl | rfl | rfl <;> exact ⟨by kernel_rfl,of_decide_eq_true (by kernel_rfl)⟩) rfl Tryz.underlying4 rfl hg⟩

theorem over : Rows.impliedLaterRow.holds Tryz.pinned (OpenSpec.ofChange Rows.impliedLaterSpec) :=
 OpenClaim.holds_of_wide 7 Tryz.f7 rfl rfl rfl rfl rfl rfl rfl ⟨rfl,rfl,rfl,rfl,rfl⟩ rfl rfl rfl rfl rfl (by kernel_rfl) Tryz.func7 (by kernel_rfl)
  (of_decide_eq_true (by kernel_rfl)) (by unfold Func.isWrapper;first | (rw [if_pos (by decide +kernel)];kernel_rfl) | (rw [if_neg (by decide +kernel)];exact ⟨rfl,rfl⟩))
  (fun os started H enc _ => lifted os started H enc)

theorem proved : Rows.ImpliedLaterCardSaid :=
 Claim7.holds_tied_plain_at .later [] [.data] true Rows.impliedLaterCard.stood.harness false over (fun _ h => by cases h) (by kernel_rfl) (fun _ h => by cases h) impliedLater_row_tie rfl ⟨rfl,rfl⟩ (by kernel_rfl) rfl
  (fun f fn hf hfn => by
    obtain rfl : f = 7:=Option.some.inj ((show Tryz.prog.funcNamed "tailrace/tailracelaw15.ImpliedLater" = some 7 by kernel_rfl).symm.trans hf) |>.symm
    obtain rfl : fn = Tryz.f7:=(Option.some.inj (Tryz.func7.symm.trans hfn)).symm
    refine ⟨by kernel_rfl,fun j t ht => ?_⟩
    rw [Tryz.params7] at ht
    have hm:=Array.mem_of_getElem? ht
    simp only [List.mem_toArray,List.mem_cons,List.not_mem_nil,or_false] at hm
    first
     | (rcases hm with rfl | rfl | rfl | rfl | rfl <;> (first | exact si_graph | exact si_int | exact si_u8 | exact si_stamp | exact si_places | exact si_place))
     | cases hm)
  (by kernel_rfl)
end impliedLater
end Go.Proofs.YtonelpnhoiajgaaGreatDoor
