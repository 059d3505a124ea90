/- ImpliedRight: of any place of any graph it is told whether it is right. -/
import Derived.Test.YtonelpnhoiajgaaGreatDoorHd
import Derived.Test.YtonelpnhoiajgaaGreatDoorCa19
namespace Go.Proofs.YtonelpnhoiajgaaGreatDoor
set_option linter.unusedSimpArgs false
open Go.ChangeShapes Go.WideShapes Go.ChangeAt Go.RowKit Go.BigFrame
set_option linter.unusedVariables false
set_option maxRecDepth 100000
namespace impliedRight
theorem ld_place {w wa : World} {g : Nat} (x : Pl) (hr : Row w g 50 x.cells) (hb : Below w.heap.size w wa) : (Instr.loadAt 50 (.pointer (some ⟨g,0,none⟩))).run Tryz.prog wa = .ok x.v wa :=
 run_loadAt_part g 0 50 _ x.cells (fun j v hj => by rw [add_at,Nat.zero_add,(hr.below hb hr.lt).cell];exact hj) Tryz.underlying50 rfl (by kernel_rfl)
def RgV (A : Option Addr) (n c B : Nat) (nd : Int) (hd : Bool) (T : St) (R0 : Bool) : Nat → Value → Prop
 | 0,v => v = .slice A n c
 | 1,v => v = .agg #[.int .i64 nd,.bool hd,.int .i64 T.d,.int .i64 T.e,.int .i64 T.x,.int .i64 T.y,.int .i64 T.z]
 | 2,v => v = .bool R0
 | 3,v => v = .slice A n c
 | 4,v => v = .pointer (some ⟨B,0,none⟩)
 | 5,v => v = .int .i64 nd
 | 6,v => v = .pointer (some ⟨B,1,none⟩)
 | 7,v => v = .bool hd
 | 8,v => v = .pointer (some ⟨B,2,none⟩)
 | 9,v => v = .agg #[.int .i64 T.d,.int .i64 T.e,.int .i64 T.x,.int .i64 T.y,.int .i64 T.z]
 | 10,v => v = .agg #[.int .i64 nd,.bool hd,.int .i64 T.d,.int .i64 T.e,.int .i64 T.x,.int .i64 T.y,.int .i64 T.z]
 | 11,v => v = .bool R0
 | 12,v => v = .bool true
 | 13,v => v = .bool true
 | 14,v => v = if true = true then .bool true else undef
 | 15,v => v = .bool (true && true)
 | _,v => v = .bool (true && true)
set_option maxHeartbeats 8000000 in
theorem walk (A : Option Addr) (l : List Gn) (c : Nat) (x : Pl) (w : World) (hT : Tab w) (hG : Gr w A l) (hl : l.length ≤ maxLen) (hc : l.length ≤ c ∧ c ≤ maxLen) :
 Calls Tryz.prog 4 #[.slice A l.length c,x.v] w fun e w' => e = .returned (.bool true) ∧ Below w.heap.size w w':=by
 obtain ⟨nd,hd,T⟩:=x
 have hb0 : Below w.heap.size w (w.alloc (.cells #[.int .i64 nd,.bool hd,.int .i64 T.d,.int .i64 T.e,.int .i64 T.x,.int .i64 T.y,.int .i64 T.z] 50)):=(Below.refl _ _).alloc (Nat.le_refl _) _
 have hx0 : Row (w.alloc (.cells #[.int .i64 nd,.bool hd,.int .i64 T.d,.int .i64 T.e,.int .i64 T.x,.int .i64 T.y,.int .i64 T.z] 50)) w.heap.size 50 (Pl.cells ⟨nd,hd,T⟩):=Row.made w _ _
 have hin:=ins_any A l c 36 _ (hG.below hb0) hl
 have HT:=Hd (hT.below hb0);have HG:=Hd (hG.below hb0);have HX:=Hd hx0;have HB:=Hd hb0;have HC:=Hd hc;clear hT hG hx0 hb0 hc
 unfold Pl.v
 simp only
 go_enter Tryz.func4,Tryz.ntmps4
 cases e36 : insB (nds l) 36 with
 | false =>
   rw [e36] at hin;have HIN:=Hd hin;clear hin e36
   go_wp2_with fail
   generalize w.alloc (.cells #[.int .i64 nd,.bool hd,.int .i64 T.d,.int .i64 T.e,.int .i64 T.x,.int .i64 T.y,.int .i64 T.z] 50) = w1 at *
   refine HIN.out.mono ?_;rintro e w2 ⟨rfl,rfl⟩
   dsimp only
   go_wp2_with fail
   refine (impWorks_any w1 HT.out).mono ?_;rintro e w9 ⟨rfl,hb⟩
   have HB9:=Hd (HB.out.trans (hb.mono HB.out.size));clear hb
   dsimp only
   go_wp2_with fail
   go_ret
   exact ⟨rfl,HB9.out⟩
 | true =>
   have hl36 : l.length ≤ 40 ∧ ∀ x ∈ nds l,x.ins.length ≤ 40:=by
    unfold insB at e36
    rw [decide_eq_true_iff,nds_len] at e36
    exact ⟨by omega,fun x hx => by have:=e36.2 x hx;omega⟩
   rw [e36] at hin;have HIN:=Hd hin;have HL:=Hd hl36;clear hin e36 hl36
   go_wp2_with fail
   generalize w.alloc (.cells #[.int .i64 nd,.bool hd,.int .i64 T.d,.int .i64 T.e,.int .i64 T.x,.int .i64 T.y,.int .i64 T.z] 50) = w1 at *
   refine HIN.out.mono ?_;rintro e w2 ⟨rfl,rfl⟩
   have hr:=fun wa (hb : Below w1.heap.size w1 wa) => impRight_any A l c nd hd T wa (HT.out.below hb) (HG.out.below hb) HL.out.1 HL.out.2 HC.out
   have hrr:=fun wa (hb : Below w1.heap.size w1 wa) => refRight15_any A l c nd hd T wa (HT.out.below hb) (HG.out.below hb) HL.out.1 HL.out.2 HC.out
   have hw:=fun wa (hb : Below w1.heap.size w1 wa) => impWorks_any wa (HT.out.below hb)
   obtain ⟨R0,hR0⟩ : ∃ R0,rightG (nds l) ⟨nd,hd,T⟩ = R0:=⟨_,rfl⟩
   rw [hR0] at hr hrr
   have HR:=Hd hr;have HRR:=Hd hrr;have HW:=Hd hw;clear hr hrr hw hR0 HIN
   obtain ⟨B,hB⟩ : ∃ B,w.heap.size = B:=⟨_,rfl⟩
   rw [hB] at HX
   dsimp only
   unfold St.val at *
   go_upto_region 3 with fail
   rw [hB]
   clear hB
   generalize l.length = n at *
   refine Free.wp_guarded (by kernel_rfl) (by kernel_rfl) (fun w' => Below w1.heap.size w1 w') (RgV A n c B nd hd T R0) ((Below.refl _ _).drew) ?_ ?_
   · intro i o hi a wa hold hpre hF
     match i with
     | 0 => cases hi;exact Free.c_all rfl (Free.g_move _ rfl ⟨((hold 0 (by decide)).trans rfl),hF⟩)
     | 1 => cases hi;exact Free.c_all rfl (Free.g_load _ _ rfl ((hold 3 (by decide)).trans rfl) (ld_place ⟨nd,hd,T⟩ HX.out hF) ⟨rfl,hF⟩)
     | 2 => cases hi;exact Free.c_all rfl (Free.g_call _ _ rfl Tryz.func23 (by kernel_rfl) rfl [.slice A n c,.agg #[.int .i64 nd,.bool hd,.int .i64 T.d,.int .i64 T.e,.int .i64 T.x,.int .i64 T.y,.int .i64 T.z]] (cons_eq (hpre 0 _ _ (by kernel_rfl) rfl rfl) (cons_eq (hpre 1 _ _ (by kernel_rfl) rfl rfl) (rfl))) ((HR.out wa hF).mono fun e w2 ⟨he,hb2⟩ => ⟨_,he,rfl,hF.trans (hb2.mono hF.size)⟩))
     | 3 => cases hi;exact Free.c_all rfl (Free.g_move _ rfl ⟨((hold 0 (by decide)).trans rfl),hF⟩)
     | 4 => cases hi;exact Free.c_all rfl (Free.g_field (v:=.pointer (some ⟨B,0,none⟩)) _ _ _ rfl ((hold 3 (by decide)).trans rfl) (by go_simp) ⟨rfl,hF⟩)
     | 5 => cases hi;exact Free.c_all rfl (Free.g_load _ _ rfl (hpre 4 _ _ (by kernel_rfl) rfl rfl) (ld_int (row_in HX.out hF rfl)) ⟨rfl,hF⟩)
     | 6 => cases hi;exact Free.c_all rfl (Free.g_field (v:=.pointer (some ⟨B,1,none⟩)) _ _ _ rfl ((hold 3 (by decide)).trans rfl) (by go_simp) ⟨rfl,hF⟩)
     | 7 => cases hi;exact Free.c_all rfl (Free.g_load _ _ rfl (hpre 6 _ _ (by kernel_rfl) rfl rfl) (ld_bool (row_in HX.out hF rfl)) ⟨rfl,hF⟩)
     | 8 => cases hi;exact Free.c_all rfl (Free.g_field (v:=.pointer (some ⟨B,2,none⟩)) _ _ _ rfl ((hold 3 (by decide)).trans rfl) (by go_simp) ⟨rfl,hF⟩)
     | 9 => cases hi;exact Free.c_all rfl (Free.g_load _ _ rfl (hpre 8 _ _ (by kernel_rfl) rfl rfl) (ld_at ⟨nd,hd,T⟩ HX.out hF) ⟨rfl,hF⟩)
     | 10 => cases hi;exact Free.c_all rfl (Free.g_build _ _ rfl #[.int .i64 nd,.bool hd,.int .i64 T.d,.int .i64 T.e,.int .i64 T.x,.int .i64 T.y,.int .i64 T.z] [(0,.int .i64 nd),(1,.bool hd),(2,.agg #[.int .i64 T.d,.int .i64 T.e,.int .i64 T.x,.int .i64 T.y,.int .i64 T.z])] (show [(0,a.eval (.tmp 14)),(1,a.eval (.tmp 16)),(2,a.eval (.tmp 18))] = [(0,.int .i64 nd),(1,.bool hd),(2,.agg #[.int .i64 T.d,.int .i64 T.e,.int .i64 T.x,.int .i64 T.y,.int .i64 T.z])] from cons_eqA (congrArg (Prod.mk 0) (hpre 5 _ _ (by kernel_rfl) rfl rfl)) (cons_eqA (congrArg (Prod.mk 1) (hpre 7 _ _ (by kernel_rfl) rfl rfl)) (cons_eqA (congrArg (Prod.mk 2) (hpre 9 _ _ (by kernel_rfl) rfl rfl)) (rfl)))) (by kernel_rfl) ⟨rfl,hF⟩)
     | 11 => cases hi;exact Free.c_all rfl (Free.g_call _ _ rfl Tryz.func24 (by kernel_rfl) rfl [.slice A n c,.agg #[.int .i64 nd,.bool hd,.int .i64 T.d,.int .i64 T.e,.int .i64 T.x,.int .i64 T.y,.int .i64 T.z]] (cons_eq (hpre 3 _ _ (by kernel_rfl) rfl rfl) (cons_eq (hpre 10 _ _ (by kernel_rfl) rfl rfl) (rfl))) ((HRR.out wa hF).mono fun e w2 ⟨he,hb2⟩ => ⟨_,he,rfl,hF.trans (hb2.mono hF.size)⟩))
     | 12 => cases hi;exact Free.c_all rfl (Free.g_bin _ _ _ _ _ rfl (hpre 2 _ _ (by kernel_rfl) rfl rfl) (hpre 11 _ _ (by kernel_rfl) rfl rfl) (eqb_self R0 wa) ⟨rfl,hF⟩)
     | 13 => cases hi;exact Free.c_all rfl (Free.g_move _ rfl ⟨(hpre 12 _ _ (by kernel_rfl) rfl rfl),hF⟩)
     | 14 => cases hi;exact c_if rfl rfl rfl (hpre 13 _ _ (by kernel_rfl) rfl rfl) (fun e => Free.g_call _ _ rfl Tryz.func13 (by kernel_rfl) rfl [] (rfl) ((HW.out wa hF).mono fun e w2 ⟨he,hb2⟩ => ⟨_,he,rfl,hF.trans (hb2.mono hF.size)⟩)) hF
     | 15 => cases hi;exact Free.c_all rfl (pick_and rfl (hpre 13 _ _ (by kernel_rfl) rfl rfl) (hpre 14 _ _ (by kernel_rfl) rfl rfl) hF)
     | 16 => cases hi;exact Free.c_all rfl (Free.g_assign _ rfl ⟨(hpre 15 _ _ (by kernel_rfl) rfl rfl),hF⟩)
     | _ + 17 => cases hi
   · intro vs we hv hF
     have f16 : vs 16 = .bool (true && true):=hv 16 (by simp) (by rintro o ⟨⟩;rfl)
     have HWE:=Hd hF;clear hF hv
     simp only [Free.puts,Nat.reduceAdd,f16]
     generalize vs 0 = y0,vs 1 = y1,vs 2 = y2,vs 3 = y3,vs 4 = y4,vs 5 = y5,vs 6 = y6,vs 7 = y7,vs 8 = y8,vs 9 = y9,vs 10 = y10,vs 11 = y11,vs 12 = y12,vs 13 = y13,vs 14 = y14,vs 15 = y15
     go_simp
     go_wp2_with fail
     go_ret
     exact ⟨rfl,HB.out.trans (HWE.out.mono HB.out.size)⟩

set_option maxRecDepth 100000 in
theorem lifted (os : Os) (started : os.Started) (H : Type) (enc : TypeId × Value → H) :
 ReturnsInHanded {} Tryz.checked os 4 .any (fun w args => (Rows.impliedRightSpec.pre enc Tryz.prog Tryz.f4 [] false w args ∧ laidMetH Tryz.prog laidT w) ∧ sizedMet enc Tryz.prog Tryz.f4 (OpenSpec.ofChange Rows.impliedRightSpec) false w args) (Rows.impliedRightSpec.post enc Tryz.prog Tryz.f4 false true false false):=by
 refine returnsInHanded_of_change_and (C:=Tryz.checked) (X:=fun w _ => laidMetH Tryz.prog laidT w) (fun _ _ _ hh h => h.of_heap hh) ownKnob_none started (by kernel_rfl) Tryz.func4
  (ChangeSpec.witness_shaped (enc:=enc) (C:=Tryz.checked) (os:=os) (X:=fun w _ => laidMetH Tryz.prog laidT w) false (World.doorLaid Tryz.prog 400 os) #[.slice none 0 0,.agg #[.int .i64 0,.bool false,.int .i64 0,.int .i64 0,.int .i64 0,.int .i64 0,.int .i64 0]] 8 rfl (World.shaped_of_RefB (by kernel_rfl) (by kernel_rfl)) (by kernel_rfl) (by kernel_rfl) (by kernel_rfl) (door_met os _)) ?_
 intro W base args ds gs before hval0 hW hcnd hsz0 hL _
 have hTab:=tab_of_laid hL
 have hval : ∀ (j : Nat) t v,Tryz.f4.params[j]? = some t → args[j]? = some v → Value.okWide Tryz.prog W .any base t v:=hval0
 have hW':=hW
 obtain ⟨p,q,hA0,hV,rfl,hfz,hnd⟩:=hW
 have hA : DataW.TrodAll enc Tryz.prog W 0 (fun _ => true) true Tryz.f4.params.toList args.toList ds p:=hA0
 have hsz : (DataW.weightsEach Tryz.prog (Tryz.f4.params.toList ++ Rows.impliedRightSpec.plain.varTypes Tryz.prog) (ds ++ gs)).all (· ≤ reachBytes) = true:=hsz0
 rw [Tryz.params4] at hA hval hsz
 obtain ⟨v0,vs0,d0,ds0,p0,q0,hargs,rfl,rfl,h0,r0⟩:=trodAll_cons hA
 obtain ⟨v1,vs1,d1,ds1,p1,q1,rfl,rfl,rfl,h1,r1⟩:=trodAll_cons r0
 obtain ⟨rfl,rfl,rfl⟩:=trodAll_nil r1
 obtain rfl : args = #[v0,v1]:=by cases args;simp_all
 obtain ⟨rfl,rfl⟩:=trodVars_none hV
 obtain ⟨A0,l0,c0,rfl,hG0,hgc0,hgm0,hgn0⟩:=open_graph (hval 0 23 v0 rfl rfl) h0
 obtain ⟨x1,rfl,hw1⟩:=open_place (hval 1 50 v1 rfl rfl) h1
 clear hA0 hval0 hsz0
 refine (walk A0 l0 c0 x1 W hTab hG0 (Nat.le_trans hgc0 hgm0) ⟨hgc0,hgm0⟩).mono fun e W' ⟨he,hg⟩ => ?_
 subst he
 exact ⟨_,rfl,law_post progLaid hW' rfl (by rw [Tryz.params4];intro t ht;simp at ht;rcases ht with rfl | rfl <;> exact ⟨by kernel_rfl,of_decide_eq_true (by kernel_rfl)⟩) rfl Tryz.underlying4 rfl hg⟩

theorem over : Rows.impliedRightRow.holds Tryz.pinned (OpenSpec.ofChange Rows.impliedRightSpec) :=
 OpenClaim.holds_of_wide 4 Tryz.f4 rfl rfl rfl rfl rfl rfl rfl ⟨rfl,rfl,rfl,rfl,rfl⟩ rfl rfl rfl rfl rfl (by kernel_rfl) Tryz.func4 (by kernel_rfl)
  (of_decide_eq_true (by kernel_rfl)) (by unfold Func.isWrapper;first | (rw [if_pos (by decide +kernel)];kernel_rfl) | (rw [if_neg (by decide +kernel)];exact ⟨rfl,rfl⟩))
  (fun os started H enc _ => lifted os started H enc)

theorem proved : Rows.ImpliedRightCardSaid :=
 Claim7.holds_tied_plain_at .later [] [.data] true Rows.impliedRightCard.stood.harness false over (fun _ h => by cases h) (by kernel_rfl) (fun _ h => by cases h) impliedRight_row_tie rfl ⟨rfl,rfl⟩ (by kernel_rfl) rfl
  (fun f fn hf hfn => by
    obtain rfl : f = 4:=Option.some.inj ((show Tryz.prog.funcNamed "tailrace/tailracelaw15.ImpliedRight" = some 4 by kernel_rfl).symm.trans hf) |>.symm
    obtain rfl : fn = Tryz.f4:=(Option.some.inj (Tryz.func4.symm.trans hfn)).symm
    refine ⟨by kernel_rfl,fun j t ht => ?_⟩
    rw [Tryz.params4] at ht
    have hm:=Array.mem_of_getElem? ht
    simp only [List.mem_toArray,List.mem_cons,List.not_mem_nil,or_false] at hm
    first
     | (rcases hm with rfl | rfl <;> (first | exact si_graph | exact si_int | exact si_u8 | exact si_stamp | exact si_places | exact si_place))
     | cases hm)
  (by kernel_rfl)
end impliedRight
end Go.Proofs.YtonelpnhoiajgaaGreatDoor
