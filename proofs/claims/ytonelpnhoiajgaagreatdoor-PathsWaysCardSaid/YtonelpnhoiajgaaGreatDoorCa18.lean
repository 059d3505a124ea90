import Derived.Test.YtonelpnhoiajgaaGreatDoorHd
import Derived.Test.YtonelpnhoiajgaaGreatDoorCa17
import Derived.Test.YtonelpnhoiajgaaGreatDoorCa8
import Derived.Test.YtonelpnhoiajgaaGreatDoorCa16
import Derived.Test.YtonelpnhoiajgaaGreatDoorCa11
namespace Go.Proofs.YtonelpnhoiajgaaGreatDoor
set_option linter.unusedSimpArgs false
set_option maxRecDepth 100000
open Go.ChangeShapes Go.WideShapes Go.ChangeAt Go.RowKit Go.BigFrame
set_option linter.unusedVariables false
section
namespace Nx
open Go.ChangeShapes Go.WideShapes Go.ChangeAt Go.RowKit Go.BigFrame Go.Shelf
set_option maxRecDepth 100000 in
set_option maxHeartbeats 16000000 in
theorem refLeast_any (A : Option Addr) (ts : List Sm) (c : Nat) (w : World) (hT : Ts w A ts) (hn : ts.length ≤ 200000000) :
 Calls Tryz.prog 85 #[.slice A ts.length c] w fun e w' => (∃ A' c',e = .returned (.slice A' (waysS ts).length c') ∧ Slc w' A' c' (waysS ts) ∧ ∀ ad,A' = some ad → w.heap.size ≤ ad.block) ∧ Below w.heap.size w w':=by
 have HT:=Hd hT;clear hT
 go_enter Tryz.func85,Tryz.ntmps85
 go_wp2_with fail
 go_loopw [3,4] (fun fv i wr => ∃ (k : Nat) (o : List Sm) (A' : Option Addr) (c' : Nat),k ≤ ts.length ∧ i = .int .i64 k ∧ fv = .slice A' o.length c' ∧ (Slc wr A' c' o ∧ ∀ ad,A' = some ad → w.heap.size ≤ ad.block) ∧ o.length ≤ k ∧ (A' = none ∨ 0 < o.length) ∧ Below w.heap.size w wr ∧ GoodO ts k o) (fun _ i _ => ts.length - (intOf i).toNat)
 case atStart => exact ⟨0,[],none,0,by omega,rfl,rfl,⟨slc_none _,fun _ e => by cases e⟩,by simp,.inl rfl,Below.refl _ _,⟨List.Pairwise.nil,fun x => by simp⟩⟩
 case round =>
  obtain ⟨k,o,A',c',hk,rfl,rfl,⟨hso,hbk⟩,hok,hor,hb,hgo⟩:=hrel
  have HBK:=Hd hbk;clear hbk
  have HOR:=Hd hor;clear hor
  have HB:=Hd hb;have HSO:=Hd hso;have HGO:=Hd hgo;clear hb hso hgo
  by_cases hlt : k < ts.length
  · have hltz : (k : Int) < (ts.length : Int):=by omega
    obtain ⟨t,ht⟩ : ∃ t,ts[k]? = some t:=⟨_,List.getElem?_eq_getElem hlt⟩
    have cr:=fun w => refRightM_any t w
    have hT1:=HT.out.below HB.out
    obtain ⟨b,ob,rfl,hbl,hld⟩:=hT1.five ht
    obtain ⟨c0,c1,c2,c3,c4,c5,c6⟩:=hld wr (Below.refl _ _)
    unfold Sm.v at cr
    have CR:=Hd cr;have HTT:=Hd ht;clear cr ht hT1 hld hbl
    go_wp2_with fail
    clear c0 c1 c2 c3 c4 c5 c6
    refine (CR.out _).mono ?_;rintro e w2 ⟨rfl,hb2⟩
    dsimp only
    have hso:=HSO.out.below hb2
    have hb:=HB.out.trans (hb2.mono HB.out.size)
    clear HSO HB CR hb2
    have HB:=Hd hb;have HSO:=Hd hso;clear hb hso
    go_wp2_with fail
    go_loopw [5,6] (fun bv j wr => ∃ m : Nat,m ≤ ts.length ∧ j = .int .i64 m ∧ bv = .bool (decide (StayTo ts k t m)) ∧ Below w.heap.size w wr ∧ Slc wr A' c' o) (fun _ j _ => ts.length - (intOf j).toNat)
    case atStart => exact ⟨0,by omega,rfl,by rw [stay_zero],HB.out,HSO.out⟩
    case round =>
     obtain ⟨m,hm,rfl,rfl,hb,hso⟩:=hrel
     clear HB HSO
     have HB:=Hd hb;have HSO:=Hd hso;clear hb hso
     by_cases hlm : m < ts.length
     · have hlmz : (m : Int) < (ts.length : Int):=by omega
       obtain ⟨x,hx⟩ : ∃ x,ts[m]? = some x:=⟨_,List.getElem?_eq_getElem hlm⟩
       have hT1:=HT.out.below HB.out
       obtain ⟨b',o',e,_,h0⟩:=hT1.load hx
       cases e
       obtain ⟨b',o',e,_,h1⟩:=hT1.load HTT.out
       cases e
       have H0:=Hd h0;have H1:=Hd h1;have HXX:=Hd hx;clear h0 h1 hx hT1
       go_wp2_with fail
       go_cut [61] from 26 to 61 (fun s wx => s = .bool (badJ k t m x) ∧ Below wr.heap.size wr wx)
       case first =>
        by_cases he : x = t
        · have e1 : eqS x t = true:=decide_eq_true he
          have e2 : (!eqS x t) = false:=by rw [e1];rfl
          by_cases hj : m < k
          · have hbd : badJ k t m x = true:=by unfold badJ;rw [e1,decide_eq_true hj];simp
            have hg : decide ((m : Int) < (k : Int)) = true:=decide_eq_true (by omega)
            have HBD:=Hd hbd;have HE:=Hd e1;have HNE:=Hd e2;have HG:=Hd hg;clear hbd e1 e2 hg he
            refine wp_region_below (by kernel_rfl) (by kernel_rfl) ?_
            iterate 3 (refine wpQuiet_step (fun K hK => ?_);go_simp;(first | (with_reducible refine hK _ ?_) | (with_reducible refine ⟨_,fun _ _ => rfl,hK _ ?_⟩));clear hK K)
            refine wpQuiet_step (fun K hK => ?_);refine q_load (p:=.pointer (some ⟨b,ob + m * 7,none⟩)) 106 _ rfl rfl rfl (H0.out) ?_;go_simp;(with_reducible refine hK _ ?_);clear hK K
            iterate 3 (refine wpQuiet_step (fun K hK => ?_);go_simp;(first | (with_reducible refine hK _ ?_) | (with_reducible refine ⟨_,fun _ _ => rfl,hK _ ?_⟩));clear hK K)
            refine wpQuiet_step (fun K hK => ?_);refine q_load (p:=.pointer (some ⟨b,ob + k * 7,none⟩)) 106 _ rfl rfl rfl (H1.out) ?_;go_simp;(with_reducible refine hK _ ?_);clear hK K
            refine wpQuiet_step (fun K hK => ?_);refine q_bin _ _ _ _ _ rfl rfl rfl rfl (nes_is HNE.out) ?_;go_simp;(with_reducible refine hK _ ?_);clear hK K
            refine wpQuiet_step (fun K hK => ?_);go_simp;(try (with_reducible refine ⟨_,fun _ _ => rfl,?_⟩));generalize hA : ({ tmps:=_,defers:=_ } : Act) = A;(with_reducible refine hK A ?_);clear hK K
            iterate 9 (refine wpQuiet_step (fun K hK => ?_);subst hA;go_simp;(try (with_reducible refine ⟨_,fun _ _ => rfl,?_⟩));generalize hA : ({ tmps:=_,defers:=_ } : Act) = A;(with_reducible refine hK A ?_);clear hK K)
            refine wpQuiet_step (fun K hK => ?_);subst hA;go_simp;(first | (with_reducible refine hK _ ?_) | (with_reducible refine ⟨_,fun _ _ => rfl,hK _ ?_⟩));clear hK K
            iterate 3 (refine wpQuiet_step (fun K hK => ?_);go_simp;(first | (with_reducible refine hK _ ?_) | (with_reducible refine ⟨_,fun _ _ => rfl,hK _ ?_⟩));clear hK K)
            refine wpQuiet_step (fun K hK => ?_);refine q_bin _ _ _ _ _ rfl rfl rfl rfl (lti_is HG.out) ?_;go_simp;(with_reducible refine hK _ ?_);clear hK K
            iterate 4 (refine wpQuiet_step (fun K hK => ?_);go_simp;(first | (with_reducible refine hK _ ?_) | (with_reducible refine ⟨_,fun _ _ => rfl,hK _ ?_⟩));clear hK K)
            refine wpQuiet_step (fun K hK => ?_);refine q_load (p:=.pointer (some ⟨b,ob + m * 7,none⟩)) 106 _ rfl rfl rfl (H0.out) ?_;go_simp;(with_reducible refine hK _ ?_);clear hK K
            iterate 3 (refine wpQuiet_step (fun K hK => ?_);go_simp;(first | (with_reducible refine hK _ ?_) | (with_reducible refine ⟨_,fun _ _ => rfl,hK _ ?_⟩));clear hK K)
            refine wpQuiet_step (fun K hK => ?_);refine q_load (p:=.pointer (some ⟨b,ob + k * 7,none⟩)) 106 _ rfl rfl rfl (H1.out) ?_;go_simp;(with_reducible refine hK _ ?_);clear hK K
            refine wpQuiet_step (fun K hK => ?_);refine q_bin _ _ _ _ _ rfl rfl rfl rfl (eqs_is HE.out) ?_;go_simp;(with_reducible refine hK _ ?_);clear hK K
            iterate 2 (refine wpQuiet_step (fun K hK => ?_);go_simp;(first | (with_reducible refine hK _ ?_) | (with_reducible refine ⟨_,fun _ _ => rfl,hK _ ?_⟩));clear hK K)
            refine wpQuiet_nil ?_
            intro wz hbel
            go_wp2_with fail
            go_meet
            exact ⟨by rw [HBD.out],hbel⟩
          · have hbd : badJ k t m x = false:=by unfold badJ;rw [e1,decide_eq_false hj];simp
            have hg : decide ((m : Int) < (k : Int)) = false:=decide_eq_false (by omega)
            have HBD:=Hd hbd;have HE:=Hd e1;have HNE:=Hd e2;have HG:=Hd hg;clear hbd e1 e2 hg he
            refine wp_region_below (by kernel_rfl) (by kernel_rfl) ?_
            iterate 3 (refine wpQuiet_step (fun K hK => ?_);go_simp;(first | (with_reducible refine hK _ ?_) | (with_reducible refine ⟨_,fun _ _ => rfl,hK _ ?_⟩));clear hK K)
            refine wpQuiet_step (fun K hK => ?_);refine q_load (p:=.pointer (some ⟨b,ob + m * 7,none⟩)) 106 _ rfl rfl rfl (H0.out) ?_;go_simp;(with_reducible refine hK _ ?_);clear hK K
            iterate 3 (refine wpQuiet_step (fun K hK => ?_);go_simp;(first | (with_reducible refine hK _ ?_) | (with_reducible refine ⟨_,fun _ _ => rfl,hK _ ?_⟩));clear hK K)
            refine wpQuiet_step (fun K hK => ?_);refine q_load (p:=.pointer (some ⟨b,ob + k * 7,none⟩)) 106 _ rfl rfl rfl (H1.out) ?_;go_simp;(with_reducible refine hK _ ?_);clear hK K
            refine wpQuiet_step (fun K hK => ?_);refine q_bin _ _ _ _ _ rfl rfl rfl rfl (nes_is HNE.out) ?_;go_simp;(with_reducible refine hK _ ?_);clear hK K
            refine wpQuiet_step (fun K hK => ?_);go_simp;(try (with_reducible refine ⟨_,fun _ _ => rfl,?_⟩));generalize hA : ({ tmps:=_,defers:=_ } : Act) = A;(with_reducible refine hK A ?_);clear hK K
            iterate 9 (refine wpQuiet_step (fun K hK => ?_);subst hA;go_simp;(try (with_reducible refine ⟨_,fun _ _ => rfl,?_⟩));generalize hA : ({ tmps:=_,defers:=_ } : Act) = A;(with_reducible refine hK A ?_);clear hK K)
            refine wpQuiet_step (fun K hK => ?_);subst hA;go_simp;(first | (with_reducible refine hK _ ?_) | (with_reducible refine ⟨_,fun _ _ => rfl,hK _ ?_⟩));clear hK K
            iterate 3 (refine wpQuiet_step (fun K hK => ?_);go_simp;(first | (with_reducible refine hK _ ?_) | (with_reducible refine ⟨_,fun _ _ => rfl,hK _ ?_⟩));clear hK K)
            refine wpQuiet_step (fun K hK => ?_);refine q_bin _ _ _ _ _ rfl rfl rfl rfl (lti_is HG.out) ?_;go_simp;(with_reducible refine hK _ ?_);clear hK K
            refine wpQuiet_step (fun K hK => ?_);go_simp;(try (with_reducible refine ⟨_,fun _ _ => rfl,?_⟩));generalize hA : ({ tmps:=_,defers:=_ } : Act) = A;(with_reducible refine hK A ?_);clear hK K
            iterate 9 (refine wpQuiet_step (fun K hK => ?_);subst hA;go_simp;(try (with_reducible refine ⟨_,fun _ _ => rfl,?_⟩));generalize hA : ({ tmps:=_,defers:=_ } : Act) = A;(with_reducible refine hK A ?_);clear hK K)
            refine wpQuiet_step (fun K hK => ?_);subst hA;go_simp;(first | (with_reducible refine hK _ ?_) | (with_reducible refine ⟨_,fun _ _ => rfl,hK _ ?_⟩));clear hK K
            refine wpQuiet_step (fun K hK => ?_);go_simp;(first | (with_reducible refine hK _ ?_) | (with_reducible refine ⟨_,fun _ _ => rfl,hK _ ?_⟩));clear hK K
            refine wpQuiet_nil ?_
            intro wz hbel
            go_wp2_with fail
            go_meet
            exact ⟨by rw [HBD.out],hbel⟩
        · have e1 : eqS x t = false:=decide_eq_false he
          have e2 : (!eqS x t) = true:=by rw [e1];rfl
          have hc:=fun w => refLeqM_any x t w
          unfold Sm.v at hc
          cases hv : decide (x.L t) with
          | true =>
            rw [hv] at hc
            have hbd : badJ k t m x = true:=by unfold badJ;rw [e1,hv];simp
            have HBD:=Hd hbd;have HNE:=Hd e2;have HC:=Hd hc;clear hbd e1 e2 hc hv he
            refine wp_region_below (by kernel_rfl) (by kernel_rfl) ?_
            iterate 3 (refine wpQuiet_step (fun K hK => ?_);go_simp;(first | (with_reducible refine hK _ ?_) | (with_reducible refine ⟨_,fun _ _ => rfl,hK _ ?_⟩));clear hK K)
            refine wpQuiet_step (fun K hK => ?_);refine q_load (p:=.pointer (some ⟨b,ob + m * 7,none⟩)) 106 _ rfl rfl rfl (H0.out) ?_;go_simp;(with_reducible refine hK _ ?_);clear hK K
            iterate 3 (refine wpQuiet_step (fun K hK => ?_);go_simp;(first | (with_reducible refine hK _ ?_) | (with_reducible refine ⟨_,fun _ _ => rfl,hK _ ?_⟩));clear hK K)
            refine wpQuiet_step (fun K hK => ?_);refine q_load (p:=.pointer (some ⟨b,ob + k * 7,none⟩)) 106 _ rfl rfl rfl (H1.out) ?_;go_simp;(with_reducible refine hK _ ?_);clear hK K
            refine wpQuiet_step (fun K hK => ?_);refine q_bin _ _ _ _ _ rfl rfl rfl rfl (nes_is HNE.out) ?_;go_simp;(with_reducible refine hK _ ?_);clear hK K
            iterate 4 (refine wpQuiet_step (fun K hK => ?_);go_simp;(first | (with_reducible refine hK _ ?_) | (with_reducible refine ⟨_,fun _ _ => rfl,hK _ ?_⟩));clear hK K)
            refine wpQuiet_step (fun K hK => ?_);refine q_load (p:=.pointer (some ⟨b,ob + m * 7,none⟩)) 106 _ rfl rfl rfl (H0.out) ?_;go_simp;(with_reducible refine hK _ ?_);clear hK K
            iterate 3 (refine wpQuiet_step (fun K hK => ?_);go_simp;(first | (with_reducible refine hK _ ?_) | (with_reducible refine ⟨_,fun _ _ => rfl,hK _ ?_⟩));clear hK K)
            refine wpQuiet_step (fun K hK => ?_);refine q_load (p:=.pointer (some ⟨b,ob + k * 7,none⟩)) 106 _ rfl rfl rfl (H1.out) ?_;go_simp;(with_reducible refine hK _ ?_);clear hK K
            refine wpQuiet_step (fun K hK => ?_);go_simp;(with_reducible refine ⟨_,fun _ hb => (HC.out _).mono fun _ _ h => ⟨h.1,hb.trans (h.2.mono (by simpa using hb.size))⟩,hK _ ?_⟩);clear hK K
            refine wpQuiet_step (fun K hK => ?_);go_simp;(first | (with_reducible refine hK _ ?_) | (with_reducible refine ⟨_,fun _ _ => rfl,hK _ ?_⟩));clear hK K
            refine wpQuiet_step (fun K hK => ?_);go_simp;(try (with_reducible refine ⟨_,fun _ _ => rfl,?_⟩));generalize hA : ({ tmps:=_,defers:=_ } : Act) = A;(with_reducible refine hK A ?_);clear hK K
            iterate 4 (refine wpQuiet_step (fun K hK => ?_);subst hA;go_simp;(try (with_reducible refine ⟨_,fun _ _ => rfl,?_⟩));generalize hA : ({ tmps:=_,defers:=_ } : Act) = A;(with_reducible refine hK A ?_);clear hK K)
            iterate 9 (refine wpQuiet_step (fun K hK => ?_);subst hA;go_simp;generalize hA : ({ tmps:=_,defers:=_ } : Act) = A;rw [if_neg (by simp [undef])];(with_reducible refine hK A ?_);clear hK K)
            refine wpQuiet_step (fun K hK => ?_);subst hA;go_simp;(try (with_reducible refine ⟨_,fun _ _ => rfl,?_⟩));generalize hA : ({ tmps:=_,defers:=_ } : Act) = A;(with_reducible refine hK A ?_);clear hK K
            refine wpQuiet_step (fun K hK => ?_);subst hA;go_simp;(first | (with_reducible refine hK _ ?_) | (with_reducible refine ⟨_,fun _ _ => rfl,hK _ ?_⟩));clear hK K
            refine wpQuiet_nil ?_
            intro wz hbel
            go_wp2_with fail
            go_meet
            exact ⟨by rw [HBD.out],hbel⟩
          | false =>
            rw [hv] at hc
            have hbd : badJ k t m x = false:=by unfold badJ;rw [e1,hv];simp
            have HBD:=Hd hbd;have HE:=Hd e1;have HNE:=Hd e2;have HC:=Hd hc;clear hbd e1 e2 hc hv he
            by_cases hj : m < k
            · have hg : decide ((m : Int) < (k : Int)) = true:=decide_eq_true (by omega)
              have HG:=Hd hg;clear hg
              refine wp_region_below (by kernel_rfl) (by kernel_rfl) ?_
              iterate 3 (refine wpQuiet_step (fun K hK => ?_);go_simp;(first | (with_reducible refine hK _ ?_) | (with_reducible refine ⟨_,fun _ _ => rfl,hK _ ?_⟩));clear hK K)
              refine wpQuiet_step (fun K hK => ?_);refine q_load (p:=.pointer (some ⟨b,ob + m * 7,none⟩)) 106 _ rfl rfl rfl (H0.out) ?_;go_simp;(with_reducible refine hK _ ?_);clear hK K
              iterate 3 (refine wpQuiet_step (fun K hK => ?_);go_simp;(first | (with_reducible refine hK _ ?_) | (with_reducible refine ⟨_,fun _ _ => rfl,hK _ ?_⟩));clear hK K)
              refine wpQuiet_step (fun K hK => ?_);refine q_load (p:=.pointer (some ⟨b,ob + k * 7,none⟩)) 106 _ rfl rfl rfl (H1.out) ?_;go_simp;(with_reducible refine hK _ ?_);clear hK K
              refine wpQuiet_step (fun K hK => ?_);refine q_bin _ _ _ _ _ rfl rfl rfl rfl (nes_is HNE.out) ?_;go_simp;(with_reducible refine hK _ ?_);clear hK K
              iterate 4 (refine wpQuiet_step (fun K hK => ?_);go_simp;(first | (with_reducible refine hK _ ?_) | (with_reducible refine ⟨_,fun _ _ => rfl,hK _ ?_⟩));clear hK K)
              refine wpQuiet_step (fun K hK => ?_);refine q_load (p:=.pointer (some ⟨b,ob + m * 7,none⟩)) 106 _ rfl rfl rfl (H0.out) ?_;go_simp;(with_reducible refine hK _ ?_);clear hK K
              iterate 3 (refine wpQuiet_step (fun K hK => ?_);go_simp;(first | (with_reducible refine hK _ ?_) | (with_reducible refine ⟨_,fun _ _ => rfl,hK _ ?_⟩));clear hK K)
              refine wpQuiet_step (fun K hK => ?_);refine q_load (p:=.pointer (some ⟨b,ob + k * 7,none⟩)) 106 _ rfl rfl rfl (H1.out) ?_;go_simp;(with_reducible refine hK _ ?_);clear hK K
              refine wpQuiet_step (fun K hK => ?_);go_simp;(with_reducible refine ⟨_,fun _ hb => (HC.out _).mono fun _ _ h => ⟨h.1,hb.trans (h.2.mono (by simpa using hb.size))⟩,hK _ ?_⟩);clear hK K
              iterate 4 (refine wpQuiet_step (fun K hK => ?_);go_simp;(first | (with_reducible refine hK _ ?_) | (with_reducible refine ⟨_,fun _ _ => rfl,hK _ ?_⟩));clear hK K)
              refine wpQuiet_step (fun K hK => ?_);refine q_bin _ _ _ _ _ rfl rfl rfl rfl (lti_is HG.out) ?_;go_simp;(with_reducible refine hK _ ?_);clear hK K
              iterate 4 (refine wpQuiet_step (fun K hK => ?_);go_simp;(first | (with_reducible refine hK _ ?_) | (with_reducible refine ⟨_,fun _ _ => rfl,hK _ ?_⟩));clear hK K)
              refine wpQuiet_step (fun K hK => ?_);refine q_load (p:=.pointer (some ⟨b,ob + m * 7,none⟩)) 106 _ rfl rfl rfl (H0.out) ?_;go_simp;(with_reducible refine hK _ ?_);clear hK K
              iterate 3 (refine wpQuiet_step (fun K hK => ?_);go_simp;(first | (with_reducible refine hK _ ?_) | (with_reducible refine ⟨_,fun _ _ => rfl,hK _ ?_⟩));clear hK K)
              refine wpQuiet_step (fun K hK => ?_);refine q_load (p:=.pointer (some ⟨b,ob + k * 7,none⟩)) 106 _ rfl rfl rfl (H1.out) ?_;go_simp;(with_reducible refine hK _ ?_);clear hK K
              refine wpQuiet_step (fun K hK => ?_);refine q_bin _ _ _ _ _ rfl rfl rfl rfl (eqs_is HE.out) ?_;go_simp;(with_reducible refine hK _ ?_);clear hK K
              iterate 2 (refine wpQuiet_step (fun K hK => ?_);go_simp;(first | (with_reducible refine hK _ ?_) | (with_reducible refine ⟨_,fun _ _ => rfl,hK _ ?_⟩));clear hK K)
              refine wpQuiet_nil ?_
              intro wz hbel
              go_wp2_with fail
              go_meet
              exact ⟨by rw [HBD.out],hbel⟩
            · have hg : decide ((m : Int) < (k : Int)) = false:=decide_eq_false (by omega)
              have HG:=Hd hg;clear hg
              refine wp_region_below (by kernel_rfl) (by kernel_rfl) ?_
              iterate 3 (refine wpQuiet_step (fun K hK => ?_);go_simp;(first | (with_reducible refine hK _ ?_) | (with_reducible refine ⟨_,fun _ _ => rfl,hK _ ?_⟩));clear hK K)
              refine wpQuiet_step (fun K hK => ?_);refine q_load (p:=.pointer (some ⟨b,ob + m * 7,none⟩)) 106 _ rfl rfl rfl (H0.out) ?_;go_simp;(with_reducible refine hK _ ?_);clear hK K
              iterate 3 (refine wpQuiet_step (fun K hK => ?_);go_simp;(first | (with_reducible refine hK _ ?_) | (with_reducible refine ⟨_,fun _ _ => rfl,hK _ ?_⟩));clear hK K)
              refine wpQuiet_step (fun K hK => ?_);refine q_load (p:=.pointer (some ⟨b,ob + k * 7,none⟩)) 106 _ rfl rfl rfl (H1.out) ?_;go_simp;(with_reducible refine hK _ ?_);clear hK K
              refine wpQuiet_step (fun K hK => ?_);refine q_bin _ _ _ _ _ rfl rfl rfl rfl (nes_is HNE.out) ?_;go_simp;(with_reducible refine hK _ ?_);clear hK K
              iterate 4 (refine wpQuiet_step (fun K hK => ?_);go_simp;(first | (with_reducible refine hK _ ?_) | (with_reducible refine ⟨_,fun _ _ => rfl,hK _ ?_⟩));clear hK K)
              refine wpQuiet_step (fun K hK => ?_);refine q_load (p:=.pointer (some ⟨b,ob + m * 7,none⟩)) 106 _ rfl rfl rfl (H0.out) ?_;go_simp;(with_reducible refine hK _ ?_);clear hK K
              iterate 3 (refine wpQuiet_step (fun K hK => ?_);go_simp;(first | (with_reducible refine hK _ ?_) | (with_reducible refine ⟨_,fun _ _ => rfl,hK _ ?_⟩));clear hK K)
              refine wpQuiet_step (fun K hK => ?_);refine q_load (p:=.pointer (some ⟨b,ob + k * 7,none⟩)) 106 _ rfl rfl rfl (H1.out) ?_;go_simp;(with_reducible refine hK _ ?_);clear hK K
              refine wpQuiet_step (fun K hK => ?_);go_simp;(with_reducible refine ⟨_,fun _ hb => (HC.out _).mono fun _ _ h => ⟨h.1,hb.trans (h.2.mono (by simpa using hb.size))⟩,hK _ ?_⟩);clear hK K
              iterate 4 (refine wpQuiet_step (fun K hK => ?_);go_simp;(first | (with_reducible refine hK _ ?_) | (with_reducible refine ⟨_,fun _ _ => rfl,hK _ ?_⟩));clear hK K)
              refine wpQuiet_step (fun K hK => ?_);refine q_bin _ _ _ _ _ rfl rfl rfl rfl (lti_is HG.out) ?_;go_simp;(with_reducible refine hK _ ?_);clear hK K
              refine wpQuiet_step (fun K hK => ?_);go_simp;(try (with_reducible refine ⟨_,fun _ _ => rfl,?_⟩));generalize hA : ({ tmps:=_,defers:=_ } : Act) = A;(with_reducible refine hK A ?_);clear hK K
              iterate 9 (refine wpQuiet_step (fun K hK => ?_);subst hA;go_simp;(try (with_reducible refine ⟨_,fun _ _ => rfl,?_⟩));generalize hA : ({ tmps:=_,defers:=_ } : Act) = A;(with_reducible refine hK A ?_);clear hK K)
              refine wpQuiet_step (fun K hK => ?_);subst hA;go_simp;(first | (with_reducible refine hK _ ?_) | (with_reducible refine ⟨_,fun _ _ => rfl,hK _ ?_⟩));clear hK K
              refine wpQuiet_step (fun K hK => ?_);go_simp;(first | (with_reducible refine hK _ ?_) | (with_reducible refine ⟨_,fun _ _ => rfl,hK _ ?_⟩));clear hK K
              refine wpQuiet_nil ?_
              intro wz hbel
              go_wp2_with fail
              go_meet
              exact ⟨by rw [HBD.out],hbel⟩
       case rest =>
        obtain ⟨rfl,hbel⟩:=hcut
        have HR2:=Hd (And.intro (HB.out.trans (hbel.mono HB.out.size)) (HSO.out.below hbel));clear hbel
        cases hv : badJ k t m x with
        | true =>
          have HN:=Hd (stay_bad HXX.out hv);clear hv
          go_wp2_with fail
          go_roundw
          case rel => exact ⟨m + 1,by omega,by simp,by rw [HN.out],HR2.out.1,HR2.out.2⟩
          case measure => simp only [intOf];omega
        | false =>
          have HN:=Hd (stay_good HXX.out hv);clear hv
          go_wp2_with fail
          go_roundw
          case rel => exact ⟨m + 1,by omega,by simp,by rw [HN.out],HR2.out.1,HR2.out.2⟩
          case measure => simp only [intOf];omega
     · have hm' : m = ts.length:=by omega
       subst hm'
       by_cases hl : StayTo ts k t ts.length
       case neg =>
        rw [decide_eq_false hl]
        have HG2:=Hd (good_skip HGO.out HTT.out hl);clear hl
        go_wp2_with fail
        go_roundw
        case rel => exact ⟨k + 1,o,A',c',by omega,by simp,rfl,⟨HSO.out,HBK.out⟩,by omega,HOR.out,HB.out,HG2.out⟩
        case measure => simp only [intOf];omega
       rw [decide_eq_true hl]
       have HL:=Hd hl;clear hl
       go_wp2_with fail
       go_loopw [7] (fun av wr => ∃ q : Nat,q ≤ o.length ∧ av = .int .i64 q ∧ Below w.heap.size w wr ∧ Slc wr A' c' o ∧ ∀ (j : Nat) (x : Sm),j < q → o[j]? = some x → x.A t) (fun av _ => o.length - (intOf av).toNat)
       case atStart => exact ⟨0,by omega,rfl,HB.out,HSO.out,fun j x h => absurd h (by omega)⟩
       case round =>
        obtain ⟨q,hq,rfl,hb,hso,hlo⟩:=hrel
        clear HB HSO
        have HB:=Hd hb;have HSO:=Hd hso;have HLO:=Hd hlo;clear hb hso hlo
        by_cases hqo : q < o.length
        · obtain ⟨y,hy⟩ : ∃ y,o[q]? = some y:=⟨_,List.getElem?_eq_getElem hqo⟩
          obtain ⟨b9,o9,hAe,_,h0⟩:=HSO.out.ts.load hy
          subst hAe
          obtain ⟨_,_,e,_,h1⟩:=(HT.out.below HB.out).load HTT.out
          cases e
          have hg : decide ((q : Int) < (o.length : Int)) = true:=decide_eq_true (by omega)
          have hqz : (q : Int) < (o.length : Int):=by omega
          have hc:=fun w => ahead_any y t w
          have hst : stepS o q t = decide (y.A t):=by unfold stepS;rw [hy]
          unfold Sm.v at hc
          have H0:=Hd h0;have H1:=Hd h1;have HG:=Hd hg;have HY:=Hd hy;clear h0 h1 hg hy
          cases hcv : decide (y.A t) with
          | true =>
            rw [hcv] at hst hc
            have HC:=Hd hc;have HCV:=Hd hcv;have HST:=Hd hst;clear hcv hst hc
            go_wp2_with fail
            refine wp_region_below (by kernel_rfl) (by kernel_rfl) ?_
            iterate 3 (refine wpQuiet_step (fun K hK => ?_);go_simp;(first | (with_reducible refine hK _ ?_) | (with_reducible refine ⟨_,fun _ _ => rfl,hK _ ?_⟩));clear hK K)
            refine wpQuiet_step (fun K hK => ?_);refine q_bin _ _ _ _ _ rfl rfl rfl rfl (lti_is HG.out) ?_;go_simp;(with_reducible refine hK _ ?_);clear hK K
            iterate 4 (refine wpQuiet_step (fun K hK => ?_);go_simp;(first | (with_reducible refine hK _ ?_) | (with_reducible refine ⟨_,fun _ _ => rfl,hK _ ?_⟩));clear hK K)
            refine wpQuiet_step (fun K hK => ?_);refine q_load (p:=.pointer (some ⟨b9,o9 + q * 7,none⟩)) 106 _ rfl rfl rfl (H0.out) ?_;go_simp;(with_reducible refine hK _ ?_);clear hK K
            iterate 3 (refine wpQuiet_step (fun K hK => ?_);go_simp;(first | (with_reducible refine hK _ ?_) | (with_reducible refine ⟨_,fun _ _ => rfl,hK _ ?_⟩));clear hK K)
            refine wpQuiet_step (fun K hK => ?_);refine q_load (p:=.pointer (some ⟨b,ob + k * 7,none⟩)) 106 _ rfl rfl rfl (H1.out) ?_;go_simp;(with_reducible refine hK _ ?_);clear hK K
            refine wpQuiet_step (fun K hK => ?_);go_simp;(with_reducible refine ⟨_,fun _ hb => (HC.out _).mono fun _ _ h => ⟨h.1,hb.trans (h.2.mono (by simpa using hb.size))⟩,hK _ ?_⟩);clear hK K
            refine wpQuiet_step (fun K hK => ?_);go_simp;(first | (with_reducible refine hK _ ?_) | (with_reducible refine ⟨_,fun _ _ => rfl,hK _ ?_⟩));clear hK K
            refine wpQuiet_nil ?_
            intro wi hbel
            have hb:=HB.out.trans (hbel.mono HB.out.size);have hso:=HSO.out.below hbel
            clear HB HSO hbel
            have HB:=Hd hb;have HSO:=Hd hso;clear hb hso
            go_wp2_with fail
            go_roundw
            case rel =>
             refine ⟨q + 1,by omega,by simp,HB.out,HSO.out,fun j y' hj hy => ?_⟩
             by_cases e : j = q
             · subst e
               rw [HY.out] at hy;cases hy
               exact of_decide_eq_true HCV.out
             · exact HLO.out j y' (by omega) hy
            case measure => simp only [intOf];omega
          | false =>
            rw [hcv] at hst hc
            have HC:=Hd hc;have HCV:=Hd hcv;have HST:=Hd hst;clear hcv hst hc
            go_wp2_with fail
            refine wp_region_below (by kernel_rfl) (by kernel_rfl) ?_
            iterate 3 (refine wpQuiet_step (fun K hK => ?_);go_simp;(first | (with_reducible refine hK _ ?_) | (with_reducible refine ⟨_,fun _ _ => rfl,hK _ ?_⟩));clear hK K)
            refine wpQuiet_step (fun K hK => ?_);refine q_bin _ _ _ _ _ rfl rfl rfl rfl (lti_is HG.out) ?_;go_simp;(with_reducible refine hK _ ?_);clear hK K
            iterate 4 (refine wpQuiet_step (fun K hK => ?_);go_simp;(first | (with_reducible refine hK _ ?_) | (with_reducible refine ⟨_,fun _ _ => rfl,hK _ ?_⟩));clear hK K)
            refine wpQuiet_step (fun K hK => ?_);refine q_load (p:=.pointer (some ⟨b9,o9 + q * 7,none⟩)) 106 _ rfl rfl rfl (H0.out) ?_;go_simp;(with_reducible refine hK _ ?_);clear hK K
            iterate 3 (refine wpQuiet_step (fun K hK => ?_);go_simp;(first | (with_reducible refine hK _ ?_) | (with_reducible refine ⟨_,fun _ _ => rfl,hK _ ?_⟩));clear hK K)
            refine wpQuiet_step (fun K hK => ?_);refine q_load (p:=.pointer (some ⟨b,ob + k * 7,none⟩)) 106 _ rfl rfl rfl (H1.out) ?_;go_simp;(with_reducible refine hK _ ?_);clear hK K
            refine wpQuiet_step (fun K hK => ?_);go_simp;(with_reducible refine ⟨_,fun _ hb => (HC.out _).mono fun _ _ h => ⟨h.1,hb.trans (h.2.mono (by simpa using hb.size))⟩,hK _ ?_⟩);clear hK K
            refine wpQuiet_step (fun K hK => ?_);go_simp;(first | (with_reducible refine hK _ ?_) | (with_reducible refine ⟨_,fun _ _ => rfl,hK _ ?_⟩));clear hK K
            refine wpQuiet_nil ?_
            intro wi hbel
            have hb:=HB.out.trans (hbel.mono HB.out.size);have hso:=HSO.out.below hbel
            clear HB HSO hbel
            have HB:=Hd hb;have HSO:=Hd hso;clear hb hso
            have HG2:=Hd (good_put HGO.out HTT.out HL.out HLO.out HST.out);clear HLO HGO HL HST
            have hle:=HSO.out.le
            have hqc : q ≤ c':=by omega
            have hnil:=HSO.out.nil;have htk:=HSO.out.ts.take q
            have hbs : wi.heap.size ≤ wi.heap.size:=Nat.le_refl _
            obtain ⟨_,_,e,_,h5⟩:=(HT.out.below HB.out).five HTT.out
            cases e
            have H5:=Hd h5;clear h5
            go_upto_region 17 with (at_builtin;refine wpList_append_tn rfl _ _ rfl wi.heap.size _ 0 [] rfl (World.ownsRow_nil _ _ _ _) (some ⟨b9,o9,none⟩) c' q (o.take q) (by first | (rw [List.length_take];omega) | simp) rfl hnil htk (by first | (rw [List.length_take];omega) | simp) hbs ?_;intro va wa hown hgr)
            have hba:=own_belowS (World.ownsRow_nil wi wi.heap.size 106 7) hgr (Below.refl _ _) hbs
            rw [List.nil_append,Nat.zero_add] at hown
            have HBA:=Hd hba;have HO:=Hd hown
            have hoA:=HO.out.alloc (.cells #[.int .i64 t.fr,.int .i64 t.to,.int .i64 t.kp,.int .i64 t.ad,.int .i64 t.t0,.int .i64 t.t1,.int .i64 t.t2] 106)
            have hTA:=Times.made wa [t]
            have hbA:=HBA.out.alloc HBA.out.size (.cells #[.int .i64 t.fr,.int .i64 t.to,.int .i64 t.kp,.int .i64 t.ad,.int .i64 t.t0,.int .i64 t.t1,.int .i64 t.t2] 106)
            have hbs:=hbA.size
            have HBB:=Hd hbA
            obtain ⟨d0,d1,d2,d3,d4,d5,d6⟩:=H5.out wa hba
            have hlt4 : (o.take q).length ≤ q:=by first | (rw [List.length_take];omega) | simp
            clear hown hgr hba hbA hnil htk
            go_upto_region 18 with (at_builtin;refine wpList_append_times rfl _ _ rfl wi.heap.size _ (o.take q).length (o.take q) rfl hoA ⟨wa.heap.size,0,none⟩ 1 [t] rfl (by simp) hTA (by first | (simp;done) | (simp;omega)) hbs ?_;intro vb wb hown hgr)
            have hbb:=own_belowS hoA hgr HBB.out hbs
            have HBC:=Hd hbb;have HO2:=Hd hown
            clear hown hgr hbb hoA hTA hbs HO HBA HBB d0 d1 d2 d3 d4 d5 d6
            have hbs:=HBC.out.size
            have hown2:=HO2.out
            have hln : (o.take q ++ [t]).length ≤ q + 1:=by first | (simp;done) | (simp;omega)
            have hld : (o.drop q).length = o.length - q:=List.length_drop
            go_wp2_with (at_builtin;refine wpList_append_tn rfl _ _ rfl wi.heap.size _ _ (o.take q ++ [t]) rfl hown2 _ _ _ (o.drop q) (by first | exact hld | (rw [hld];omega) | simp) rfl (fun hh => by cases hh) (Ts.drop ((HSO.out.below HBC.out).ts) q) (by rw [hld];have : [t].length = 1:=rfl;omega) hbs ?_;intro vc wc9 hown hgr)
            have hbc:=own_belowS hown2 hgr HBC.out hbs
            obtain ⟨An,cn,rfl,hsn,hbn⟩:=Slc.of_ownB hown
            have HSN:=Hd hsn;have HBM:=Hd (fun ad e => Nat.le_trans HB.out.size (hbn ad e));have HBN:=Hd (HB.out.trans (hbc.mono HB.out.size))
            clear hown hgr hbc hsn hown2 HBC HO2 hbn
            go_wp2_with fail
            go_roundw
            case rel => exact ⟨k + 1,_,An,cn,by omega,by simp,rfl,⟨HSN.out,HBM.out⟩,by first | (simp;done) | (simp;omega),.inr (by first | (simp;done) | (simp;omega)),HBN.out,HG2.out⟩
            case measure => simp only [intOf];omega
        · have hg : decide ((q : Int) < (o.length : Int)) = false:=decide_eq_false (by omega)
          have hst : stepS o q t = false:=by unfold stepS;rw [List.getElem?_eq_none (by omega)]
          have HST:=Hd hst;have HG:=Hd hg;clear hst hg
          go_wp2_with fail
          refine wp_region_below (by kernel_rfl) (by kernel_rfl) ?_
          iterate 3 (refine wpQuiet_step (fun K hK => ?_);go_simp;(first | (with_reducible refine hK _ ?_) | (with_reducible refine ⟨_,fun _ _ => rfl,hK _ ?_⟩));clear hK K)
          refine wpQuiet_step (fun K hK => ?_);refine q_bin _ _ _ _ _ rfl rfl rfl rfl (lti_is HG.out) ?_;go_simp;(with_reducible refine hK _ ?_);clear hK K
          refine wpQuiet_step (fun K hK => ?_);go_simp;(try (with_reducible refine ⟨_,fun _ _ => rfl,?_⟩));generalize hA : ({ tmps:=_,defers:=_ } : Act) = A;(with_reducible refine hK A ?_);clear hK K
          iterate 9 (refine wpQuiet_step (fun K hK => ?_);subst hA;go_simp;(try (with_reducible refine ⟨_,fun _ _ => rfl,?_⟩));generalize hA : ({ tmps:=_,defers:=_ } : Act) = A;(with_reducible refine hK A ?_);clear hK K)
          refine wpQuiet_step (fun K hK => ?_);subst hA;go_simp;(first | (with_reducible refine hK _ ?_) | (with_reducible refine ⟨_,fun _ _ => rfl,hK _ ?_⟩));clear hK K
          refine wpQuiet_nil ?_
          intro wi hbel
          have hb:=HB.out.trans (hbel.mono HB.out.size);have hso:=HSO.out.below hbel
          clear HB HSO hbel
          have HB:=Hd hb;have HSO:=Hd hso;clear hb hso
          have hor:=HOR.out
          cases A' with
          | none =>
            have hc0 : c' = 0:=HSO.out.nil rfl
            subst hc0
            have ho0 : o = []:=List.eq_nil_of_length_eq_zero (by have:=HSO.out.le;omega)
            subst ho0
            have hq0 : q = 0:=by simpa using hq
            subst hq0
            have HG2:=Hd (good_put HGO.out HTT.out HL.out HLO.out HST.out);clear HLO HGO HL HST
            have hle:=HSO.out.le
            have hqc : 0 ≤ 0:=by omega
            have hnil:=HSO.out.nil;have htk:=HSO.out.ts.take 0
            have hbs : wi.heap.size ≤ wi.heap.size:=Nat.le_refl _
            obtain ⟨_,_,e,_,h5⟩:=(HT.out.below HB.out).five HTT.out
            cases e
            have H5:=Hd h5;clear h5
            go_upto_region 17 with (at_builtin;refine wpList_append_tn rfl _ _ rfl wi.heap.size _ 0 [] rfl (World.ownsRow_nil _ _ _ _) none 0 0 (([] : List Sm).take 0) (by first | (rw [List.length_take];omega) | simp) rfl hnil htk (by first | (rw [List.length_take];omega) | simp) hbs ?_;intro va wa hown hgr)
            have hba:=own_belowS (World.ownsRow_nil wi wi.heap.size 106 7) hgr (Below.refl _ _) hbs
            rw [List.nil_append,Nat.zero_add] at hown
            have HBA:=Hd hba;have HO:=Hd hown
            have hoA:=HO.out.alloc (.cells #[.int .i64 t.fr,.int .i64 t.to,.int .i64 t.kp,.int .i64 t.ad,.int .i64 t.t0,.int .i64 t.t1,.int .i64 t.t2] 106)
            have hTA:=Times.made wa [t]
            have hbA:=HBA.out.alloc HBA.out.size (.cells #[.int .i64 t.fr,.int .i64 t.to,.int .i64 t.kp,.int .i64 t.ad,.int .i64 t.t0,.int .i64 t.t1,.int .i64 t.t2] 106)
            have hbs:=hbA.size
            have HBB:=Hd hbA
            obtain ⟨d0,d1,d2,d3,d4,d5,d6⟩:=H5.out wa hba
            have hlt4 : (([] : List Sm).take 0).length ≤ 0:=by first | (rw [List.length_take];omega) | simp
            clear hown hgr hba hbA hnil htk
            go_upto_region 18 with (at_builtin;refine wpList_append_times rfl _ _ rfl wi.heap.size _ (([] : List Sm).take 0).length (([] : List Sm).take 0) rfl hoA ⟨wa.heap.size,0,none⟩ 1 [t] rfl (by simp) hTA (by first | (simp;done) | (simp;omega)) hbs ?_;intro vb wb hown hgr)
            have hbb:=own_belowS hoA hgr HBB.out hbs
            have HBC:=Hd hbb;have HO2:=Hd hown
            clear hown hgr hbb hoA hTA hbs HO HBA HBB d0 d1 d2 d3 d4 d5 d6
            have hbs:=HBC.out.size
            have hown2:=HO2.out
            have hln : (([] : List Sm).take 0 ++ [t]).length ≤ 0 + 1:=by first | (simp;done) | (simp;omega)
            have hld : (([] : List Sm).drop 0).length = ([] : List Sm).length - 0:=List.length_drop
            go_wp2_with (at_builtin;refine wpList_append_tn rfl _ _ rfl wi.heap.size _ _ (([] : List Sm).take 0 ++ [t]) rfl hown2 _ _ _ (([] : List Sm).drop 0) (by first | exact hld | (rw [hld];omega) | simp) rfl (fun _ => rfl) Ts.nil (by simp) hbs ?_;intro vc wc9 hown hgr)
            have hbc:=own_belowS hown2 hgr HBC.out hbs
            obtain ⟨An,cn,rfl,hsn,hbn⟩:=Slc.of_ownB hown
            have HSN:=Hd hsn;have HBM:=Hd (fun ad e => Nat.le_trans HB.out.size (hbn ad e));have HBN:=Hd (HB.out.trans (hbc.mono HB.out.size))
            clear hown hgr hbc hsn hown2 HBC HO2 hbn
            go_wp2_with fail
            go_roundw
            case rel => exact ⟨k + 1,_,An,cn,by omega,by simp,rfl,⟨HSN.out,HBM.out⟩,by first | (simp;done) | (simp;omega),.inr (by first | (simp;done) | (simp;omega)),HBN.out,HG2.out⟩
            case measure => simp only [intOf];omega
          | some ad =>
            have hop : 0 < o.length:=by
             rcases hor with h | h
             · cases h
             · exact h
            obtain ⟨b9,o9,hAe,_⟩:=HSO.out.ts hop
            cases hAe
            by_cases hcq : c' = q
            · subst hcq
              have HG2:=Hd (good_put HGO.out HTT.out HL.out HLO.out HST.out);clear HLO HGO HL HST
              have hle:=HSO.out.le
              have hqc : c' ≤ c':=by omega
              have hnil:=HSO.out.nil;have htk:=HSO.out.ts.take c'
              have hbs : wi.heap.size ≤ wi.heap.size:=Nat.le_refl _
              obtain ⟨_,_,e,_,h5⟩:=(HT.out.below HB.out).five HTT.out
              cases e
              have H5:=Hd h5;clear h5
              go_upto_region 17 with (at_builtin;refine wpList_append_tn rfl _ _ rfl wi.heap.size _ 0 [] rfl (World.ownsRow_nil _ _ _ _) (some ⟨b9,o9,none⟩) c' c' (o.take c') (by first | (rw [List.length_take];omega) | simp) rfl hnil htk (by first | (rw [List.length_take];omega) | simp) hbs ?_;intro va wa hown hgr)
              have hba:=own_belowS (World.ownsRow_nil wi wi.heap.size 106 7) hgr (Below.refl _ _) hbs
              rw [List.nil_append,Nat.zero_add] at hown
              have HBA:=Hd hba;have HO:=Hd hown
              have hoA:=HO.out.alloc (.cells #[.int .i64 t.fr,.int .i64 t.to,.int .i64 t.kp,.int .i64 t.ad,.int .i64 t.t0,.int .i64 t.t1,.int .i64 t.t2] 106)
              have hTA:=Times.made wa [t]
              have hbA:=HBA.out.alloc HBA.out.size (.cells #[.int .i64 t.fr,.int .i64 t.to,.int .i64 t.kp,.int .i64 t.ad,.int .i64 t.t0,.int .i64 t.t1,.int .i64 t.t2] 106)
              have hbs:=hbA.size
              have HBB:=Hd hbA
              obtain ⟨d0,d1,d2,d3,d4,d5,d6⟩:=H5.out wa hba
              have hlt4 : (o.take c').length ≤ c':=by first | (rw [List.length_take];omega) | simp
              clear hown hgr hba hbA hnil htk
              go_upto_region 18 with (at_builtin;refine wpList_append_times rfl _ _ rfl wi.heap.size _ (o.take c').length (o.take c') rfl hoA ⟨wa.heap.size,0,none⟩ 1 [t] rfl (by simp) hTA (by first | (simp;done) | (simp;omega)) hbs ?_;intro vb wb hown hgr)
              have hbb:=own_belowS hoA hgr HBB.out hbs
              have HBC:=Hd hbb;have HO2:=Hd hown
              clear hown hgr hbb hoA hTA hbs HO HBA HBB d0 d1 d2 d3 d4 d5 d6
              have hbs:=HBC.out.size
              have hown2:=HO2.out
              have hln : (o.take c' ++ [t]).length ≤ c' + 1:=by first | (simp;done) | (simp;omega)
              have hld : (o.drop c').length = o.length - c':=List.length_drop
              go_wp2_with (at_builtin;refine wpList_append_tn rfl _ _ rfl wi.heap.size _ _ (o.take c' ++ [t]) rfl hown2 _ _ _ (o.drop c') (by first | exact hld | (rw [hld];omega) | simp) rfl (by intro hh;first | cases hh | (simp at hh;done) | (split at hh <;> cases hh)) (by first | exact Ts.nil | (rw [List.drop_eq_nil_of_le (by omega)];exact Ts.nil)) (by rw [hld];have : [t].length = 1:=rfl;omega) hbs ?_;intro vc wc9 hown hgr)
              have hbc:=own_belowS hown2 hgr HBC.out hbs
              obtain ⟨An,cn,rfl,hsn,hbn⟩:=Slc.of_ownB hown
              have HSN:=Hd hsn;have HBM:=Hd (fun ad e => Nat.le_trans HB.out.size (hbn ad e));have HBN:=Hd (HB.out.trans (hbc.mono HB.out.size))
              clear hown hgr hbc hsn hown2 HBC HO2 hbn
              go_wp2_with fail
              go_roundw
              case rel => exact ⟨k + 1,_,An,cn,by omega,by simp,rfl,⟨HSN.out,HBM.out⟩,by first | (simp;done) | (simp;omega),.inr (by first | (simp;done) | (simp;omega)),HBN.out,HG2.out⟩
              case measure => simp only [intOf];omega
            · skip
              have HG2:=Hd (good_put HGO.out HTT.out HL.out HLO.out HST.out);clear HLO HGO HL HST
              have hle:=HSO.out.le
              have hqc : q ≤ c':=by omega
              have hnil:=HSO.out.nil;have htk:=HSO.out.ts.take q
              have hbs : wi.heap.size ≤ wi.heap.size:=Nat.le_refl _
              obtain ⟨_,_,e,_,h5⟩:=(HT.out.below HB.out).five HTT.out
              cases e
              have H5:=Hd h5;clear h5
              go_upto_region 17 with (at_builtin;refine wpList_append_tn rfl _ _ rfl wi.heap.size _ 0 [] rfl (World.ownsRow_nil _ _ _ _) (some ⟨b9,o9,none⟩) c' q (o.take q) (by first | (rw [List.length_take];omega) | simp) rfl hnil htk (by first | (rw [List.length_take];omega) | simp) hbs ?_;intro va wa hown hgr)
              have hba:=own_belowS (World.ownsRow_nil wi wi.heap.size 106 7) hgr (Below.refl _ _) hbs
              rw [List.nil_append,Nat.zero_add] at hown
              have HBA:=Hd hba;have HO:=Hd hown
              have hoA:=HO.out.alloc (.cells #[.int .i64 t.fr,.int .i64 t.to,.int .i64 t.kp,.int .i64 t.ad,.int .i64 t.t0,.int .i64 t.t1,.int .i64 t.t2] 106)
              have hTA:=Times.made wa [t]
              have hbA:=HBA.out.alloc HBA.out.size (.cells #[.int .i64 t.fr,.int .i64 t.to,.int .i64 t.kp,.int .i64 t.ad,.int .i64 t.t0,.int .i64 t.t1,.int .i64 t.t2] 106)
              have hbs:=hbA.size
              have HBB:=Hd hbA
              obtain ⟨d0,d1,d2,d3,d4,d5,d6⟩:=H5.out wa hba
              have hlt4 : (o.take q).length ≤ q:=by first | (rw [List.length_take];omega) | simp
              clear hown hgr hba hbA hnil htk
              go_upto_region 18 with (at_builtin;refine wpList_append_times rfl _ _ rfl wi.heap.size _ (o.take q).length (o.take q) rfl hoA ⟨wa.heap.size,0,none⟩ 1 [t] rfl (by simp) hTA (by first | (simp;done) | (simp;omega)) hbs ?_;intro vb wb hown hgr)
              have hbb:=own_belowS hoA hgr HBB.out hbs
              have HBC:=Hd hbb;have HO2:=Hd hown
              clear hown hgr hbb hoA hTA hbs HO HBA HBB d0 d1 d2 d3 d4 d5 d6
              have hbs:=HBC.out.size
              have hown2:=HO2.out
              have hln : (o.take q ++ [t]).length ≤ q + 1:=by first | (simp;done) | (simp;omega)
              have hld : (o.drop q).length = o.length - q:=List.length_drop
              go_wp2_with (at_builtin;refine wpList_append_tn rfl _ _ rfl wi.heap.size _ _ (o.take q ++ [t]) rfl hown2 _ _ _ (o.drop q) (by first | exact hld | (rw [hld];omega) | simp) rfl (by intro hh;first | cases hh | (simp at hh;done) | (split at hh <;> cases hh)) (by first | exact Ts.nil | (rw [List.drop_eq_nil_of_le (by omega)];exact Ts.nil)) (by rw [hld];have : [t].length = 1:=rfl;omega) hbs ?_;intro vc wc9 hown hgr)
              have hbc:=own_belowS hown2 hgr HBC.out hbs
              obtain ⟨An,cn,rfl,hsn,hbn⟩:=Slc.of_ownB hown
              have HSN:=Hd hsn;have HBM:=Hd (fun ad e => Nat.le_trans HB.out.size (hbn ad e));have HBN:=Hd (HB.out.trans (hbc.mono HB.out.size))
              clear hown hgr hbc hsn hown2 HBC HO2 hbn
              go_wp2_with fail
              go_roundw
              case rel => exact ⟨k + 1,_,An,cn,by omega,by simp,rfl,⟨HSN.out,HBM.out⟩,by first | (simp;done) | (simp;omega),.inr (by first | (simp;done) | (simp;omega)),HBN.out,HG2.out⟩
              case measure => simp only [intOf];omega
  · have hk' : k = ts.length:=by omega
    subst hk'
    go_wp2_with fail
    go_ret
    have he:=good_end HGO.out
    have hso:=HSO.out
    rw [he] at hso ⊢
    exact ⟨⟨A',c',rfl,hso,HBK.out⟩,HB.out⟩
end Nx
end

section
def atI (t : Int) : List (Nat × Sm) → List Sm
 | [] => []
 | a :: l => if ((a.1 : Nat) : Int) = t then a.2 :: atI t l else atI t l
theorem atI_nat (n : Nat) : ∀ l : List (Nat × Sm),atI ((n : Nat) : Int) l = atA n l
 | [] => rfl
 | a :: l => by
   unfold atI atA
   rw [atI_nat n l]
   by_cases h : a.1 = n
   · rw [if_pos h,if_pos (by omega)]
   · rw [if_neg h,if_neg (by omega)]
theorem atI_neg {t : Int} (ht : t < 0) : ∀ l : List (Nat × Sm),atI t l = []
 | [] => rfl
 | a :: l => by unfold atI;rw [if_neg (by omega),atI_neg ht l]
theorem atI_append (t : Int) : ∀ l m : List (Nat × Sm),atI t (l ++ m) = atI t l ++ atI t m
 | [],m => rfl
 | a :: l,m => by
   rw [List.cons_append]
   show (if ((a.1 : Nat) : Int) = t then a.2 :: atI t (l ++ m) else atI t (l ++ m)) = (if ((a.1 : Nat) : Int) = t then a.2 :: atI t l else atI t l) ++ atI t m
   rw [atI_append t l m]
   split <;> rfl
theorem atI_take {t : Int} {l : List (Nat × Sm)} {k : Nat} {a : Nat × Sm} (h : l[k]? = some a) : atI t (l.take (k + 1)) = if ((a.1 : Nat) : Int) = t then atI t (l.take k) ++ [a.2] else atI t (l.take k):=by
 rw [List.take_add_one,h,Option.toList_some,atI_append]
 by_cases e : ((a.1 : Nat) : Int) = t
 · rw [if_pos e,show atI t [a] = if ((a.1 : Nat) : Int) = t then [a.2] else [] from rfl,if_pos e]
 · rw [if_neg e,show atI t [a] = if ((a.1 : Nat) : Int) = t then [a.2] else [] from rfl,if_neg e,List.append_nil]
theorem atI_len (t : Int) : ∀ l : List (Nat × Sm),(atI t l).length ≤ l.length
 | [] => Nat.le_refl _
 | a :: l => by
   have:=atI_len t l
   unfold atI
   split
   · rw [List.length_cons,List.length_cons];omega
   · rw [List.length_cons];omega
structure LOf (g : List Nd) (f : Int) (L : List (Nat × Sm)) : Prop where
 out : (f < 0 ∨ (g.length : Int) ≤ f) → L = []
 all : ∀ i : Nat,f = i → i < g.length → AllW g i L L.length
theorem LOf.len {g : List Nd} {f : Int} {L : List (Nat × Sm)} (hF : Fine g) (h : LOf g f L) : L.length ≤ g.length * 4194304:=by
 by_cases hf : f < 0 ∨ (g.length : Int) ≤ f
 · rw [h.out hf];exact Nat.zero_le _
 · exact (h.all f.toNat (by omega) (by omega)).bound hF
theorem LOf.atLen {g : List Nd} {f t : Int} {L : List (Nat × Sm)} (hF : Fine g) (h : LOf g f L) : (atI t L).length ≤ 4194304:=by
 by_cases hf : f < 0 ∨ (g.length : Int) ≤ f
 · rw [h.out hf];exact Nat.zero_le _
 · have ha:=h.all f.toNat (by omega) (by omega)
   by_cases ht : t < 0
   · rw [atI_neg ht];exact Nat.zero_le _
   · rw [show t = ((t.toNat : Nat) : Int) by omega,atI_nat]
     exact atA_bound hF ha.nodup ha.sound _
def AllI (g : List Nd) (f : Int) (w : World) (e : Ending) (w' : World) : Prop:=(∃ v L,e = .returned v ∧ OwnA w w' v L ∧ LOf g f L) ∧ Below w.heap.size w w'
theorem refAll_any (A : Option Addr) (lg : List Gn) (c : Nat) (f : Int) (w : World) (hG : Gr w A lg) (hl : lg.length ≤ 14) (hI : ∀ x ∈ nds lg,x.ins.length ≤ 40) (hF : Fine (nds lg)) :
 Calls Tryz.prog 61 #[.slice A lg.length c,.int .i64 f] w (AllI (nds lg) f w):=by
 by_cases hf : f < 0 ∨ (lg.length : Int) ≤ f
 · refine (refAll_out A lg c f w hf).mono ?_
   rintro e w' ⟨rfl,hb⟩
   exact ⟨⟨_,[],rfl,World.ownsRow_nil _ _ _ _,fun _ => rfl,fun i h1 h2 => by rw [nds_len] at h2;omega⟩,hb⟩
 · obtain ⟨i,rfl⟩ : ∃ i : Nat,f = i:=⟨f.toNat,by omega⟩
   refine (refAll_in A lg c i w hG (by omega) hl hI hF).mono ?_
   rintro e w' ⟨⟨v,L,rfl,ho,ha⟩,hb⟩
   exact ⟨⟨v,L,rfl,ho,fun h => by rw [nds_len] at h;omega,fun j h1 h2 => by
    have : j = i:=by omega
    subst this;exact ha⟩,hb⟩
def OwnN (w0 w : World) (v : Value) (l : List Sm) : Prop:=w.ownsRow w0.heap.size 106 kindS.K v l.length (Rw.row kindS l)
def WaysD (g : List Nd) (f t : Int) (w : World) (e : Ending) (w' : World) : Prop:=(∃ A c L,LOf g f L ∧ e = .returned (.slice A (waysS (atI t L)).length c) ∧ Nx.Slc w' A c (waysS (atI t L)) ∧ ∀ ad,A = some ad → w.heap.size ≤ ad.block) ∧ Below w.heap.size w w'
theorem ways_kept {w w4 w5 : World} {o : Obj} {v vl : Value} {M : List Sm} {L : List (Nat × Sm)} (ho : w4.ownsRow w.heap.size 106 kindS.K v M.length (Rw.row kindS M)) (hb : Below w.heap.size w w4)
 (hp : w4.ownsRow w.heap.size 108 kindA.K vl L.length (Rw.row kindA L)) (hg : (w4.alloc o).grownBy w5 v.ownBlock) :
 Below w.heap.size w w5 ∧ w5.ownsRow w.heap.size 108 kindA.K vl L.length (Rw.row kindA L) :=
 ⟨Rw.own_below (ho.alloc o) hg (hb.alloc hb.size o) (Nat.le_trans hb.size ((Below.refl w4.heap.size w4).alloc (Nat.le_refl _) o).size),(hp.alloc o).kept hg (Rw.own_apart2 (ho.alloc o) (hp.alloc o) (by decide))⟩
set_option maxHeartbeats 8000000 in
theorem refWays_any (A : Option Addr) (lg : List Gn) (c : Nat) (f t : Int) (w : World) (hG : Gr w A lg) (hl : lg.length ≤ 14) (hI : ∀ x ∈ nds lg,x.ins.length ≤ 40) (hF : Fine (nds lg)) :
 Calls Tryz.prog 39 #[.slice A lg.length c,.int .i64 f,.int .i64 t] w (WaysD (nds lg) f t w):=by
 have ha:=refAll_any A lg c f w hG hl hI hF
 have HA:=Hd ha;have HF:=Hd hF;clear ha hF hG hI
 go_enter Tryz.func39,Tryz.ntmps39
 go_wp2_with fail
 refine HA.out.mono ?_;rintro e w1 ⟨⟨v,L,rfl,ho,hL⟩,hb⟩
 have hbd:=hL.len HF.out
 rw [nds_len] at hbd
 obtain ⟨LA,lc,rfl,_,_,_,_,_⟩:=Rw.Ts.of_own ho
 have HO:=Hd ho;have HL:=Hd hL;have HB:=Hd hb;have HBD:=Hd hbd;clear ho hL hb hbd HA
 dsimp only
 go_wp2_with fail
 go_loopw [7,9] (fun v n wx => ∃ k : Nat,n = .int .i64 k ∧ k ≤ L.length ∧ OwnN w wx v (atI t (L.take k)) ∧ OwnA w wx (.slice LA L.length lc) L ∧ Below w.heap.size w wx) (fun _ n _ => L.length - (intOf n).toNat)
 case atStart => exact ⟨0,rfl,Nat.zero_le _,World.ownsRow_nil _ _ _ _,HO.out,HB.out⟩
 case round =>
  obtain ⟨wo,rfl⟩ : ∃ wo,wo = wr:=⟨_,rfl⟩
  obtain ⟨k,rfl,hk,hn,ho,hb⟩:=hrel
  have HN:=Hd hn;have HO2:=Hd ho;have HB2:=Hd hb;clear hn ho hb HO HB
  by_cases hkl : k < L.length
  · have hkz : (k : Int) < (L.length : Int):=by omega
    have hkb : k < 60000000:=by have:=HBD.out;omega
    obtain ⟨⟨n,s⟩,hns⟩ : ∃ a,L[k]? = some a:=⟨_,List.getElem?_eq_getElem hkl⟩
    obtain ⟨g,cap,e,hg0,hglt,hgc⟩:=HO2.out.get hns
    cases e
    have htk:=atI_take (t:=t) hns
    obtain ⟨q0,q1⟩:=hgc wo (Below.refl _ _)
    simp only at q0 q1 htk
    have hlen : (atI t (L.take k)).length ≤ 60000000:=by have:=atI_len t (L.take k);rw [List.length_take] at this;omega
    have HTK:=Hd htk;have HLEN:=Hd hlen;clear htk hlen hgc
    generalize atI t (L.take k) = M at *
    by_cases hnt : ((n : Nat) : Int) = t
    · subst hnt
      have hnx:=HTK.out
      rw [if_pos rfl] at hnx
      obtain ⟨sfr,sto,skp,sad,st0,st1,st2⟩:=s
      have c0 : ∀ j u,(Sm.cells ⟨sfr,sto,skp,sad,st0,st1,st2⟩)[j]? = some u → wo.cell? ⟨g,k * 8 + 1 + j,none⟩ = some u:=fun j u hu => by
       have h1:=World.ownsRow.cells HO2.out (g:=g) rfl (k * 8 + (1 + j)) u (Rw.row_at (κ:=kindA) L k _ hns (1 + j) u (by rw [Nat.add_comm];exact hu))
       rw [add_zero_off,← Nat.add_assoc] at h1
       exact h1
      have d0:=c0 0 _ rfl;have d1:=c0 1 _ rfl;have d2:=c0 2 _ rfl;have d3:=c0 3 _ rfl;have d4:=c0 4 _ rfl;have d5:=c0 5 _ rfl;have d6:=c0 6 _ rfl
      simp only [Nat.add_zero] at d0
      have hty:=Rw.Ts.made (κ:=kindS) wo [⟨sfr,sto,skp,sad,st0,st1,st2⟩] 106
      have HTY:=Hd hty;have HNX:=Hd hnx;clear hty hnx c0 q1 hns
      have hsz:=HB2.out.size
      have HSZ:=Hd hsz;clear hsz
      have hn4 : wo.ownsRow w.heap.size 106 kindS.K _ M.length (Rw.row kindS M):=HN.out
      have ho4 : wo.ownsRow w.heap.size 108 kindA.K (.slice (some ⟨g,0,none⟩) L.length lc) L.length (Rw.row kindA L):=HO2.out
      have HN4:=Hd hn4;have HO4:=Hd ho4;clear hn4 ho4
      go_wp2_with (at_builtin;refine Rw.append_own kindS 106 77 Tryz.underlying77 Nx.infoRef rfl rfl _ _ rfl w.heap.size _ M.length M rfl (HN4.out.alloc _) _ 1 [⟨sfr,sto,skp,sad,st0,st1,st2⟩] rfl (by simp) HTY.out (by unfold maxLen;have:=HLEN.out;simp;omega) (by have:=HLEN.out;simp;omega) (by have:=HSZ.out;simp;omega) ?_;intro v2 w4 hv2 hg2;have hk4:=ways_kept HN4.out HB2.out HO4.out hg2;have HV:=Hd hv2;have HK4:=Hd hk4;clear hv2 hg2 hk4)
      go_roundw
      case rel =>
       refine ⟨k + 1,by simp,by omega,?_,HK4.out.2,HK4.out.1⟩
       rw [HNX.out]
       unfold OwnN
       rw [List.length_append]
       exact HV.out
      case measure => simp only [intOf];omega
    · have hntz : (((n : Nat) : Int) == t) = false:=by simpa using hnt
      have hnx:=HTK.out
      rw [if_neg hnt] at hnx
      have HNX:=Hd hnx;clear hnx hnt q1 hns
      go_wp2_with fail
      go_roundw
      case rel => exact ⟨k + 1,by simp,by omega,by rw [HNX.out];exact HN.out,HO2.out,HB2.out⟩
      case measure => simp only [intOf];omega
  · have hkz : ¬ (k : Int) < (L.length : Int):=by omega
    have hke : k = L.length:=by omega
    have hn:=HN.out
    rw [hke,List.take_length] at hn
    obtain ⟨NA,nc,rfl,hNT,hn1,hn2,hn3,_⟩:=Rw.Ts.of_own hn
    have hcl:=Nx.refLeast_any NA (atI t L) nc wo hNT (by have:=HL.out.atLen HF.out (t:=t);omega)
    have HC:=Hd hcl;clear hcl hn hke hNT
    go_wp2_with fail
    refine HC.out.mono ?_;rintro e w5 ⟨⟨A',c',rfl,hs,hbs⟩,hb5⟩
    have HS:=Hd hs;have HBS:=Hd (fun ad e => Nat.le_trans HB2.out.size (hbs ad e));have HB5:=Hd (HB2.out.trans (hb5.mono HB2.out.size));clear hs hb5 hbs
    dsimp only
    go_wp2_with fail
    go_ret
    exact ⟨⟨A',c',L,HL.out,rfl,HS.out,HBS.out⟩,HB5.out⟩
end

section
def WaysOf (g : List Nd) (f t : Int) (l : List Sm) : Prop :=
 (∃ (i n : Nat) (T : List (List Sm)) (D : List (Nat × Sm)),f = (i : Nat) ∧ t = (n : Nat) ∧ i < g.length ∧ n < g.length ∧ Run g i T D [] ∧ T[n]? = some l) ∨
 (¬ ((0 ≤ f ∧ f < (g.length : Int)) ∧ 0 ≤ t ∧ t < (g.length : Int)) ∧ l = [])
theorem atA_out {g : List Nd} {i n : Nat} {L : List (Nat × Sm)} (hs : ∀ (n : Nat) (s : Sm),(n,s) ∈ L → Arr g i n s) (hn : g.length ≤ n) : atA n L = []:=by
 apply List.eq_nil_iff_forall_not_mem.2
 intro s h
 have:=(hs n s (mem_atA.1 h)).lt
 omega
theorem WaysOf.eq {g : List Nd} {f t : Int} {l : List Sm} {L : List (Nat × Sm)} (h : WaysOf g f t l) (hL : LOf g f L) : l = waysS (atI t L):=by
 rcases h with ⟨i,n,T,D,rfl,rfl,hi,hn,hr,hl⟩ | ⟨hno,rfl⟩
 · rw [atI_nat]
   exact hr.ends (fun m s => (hL.all i rfl hi).all) hl
 · by_cases hf : f < 0 ∨ (g.length : Int) ≤ f
   · rw [hL.out hf];rfl
   · by_cases ht : t < 0
     · rw [atI_neg ht];rfl
     · have ha:=hL.all f.toNat (by omega) (by omega)
       rw [show t = ((t.toNat : Nat) : Int) by omega,atI_nat,atA_out ha.sound (by omega)];rfl
theorem WaysOf.len {g : List Nd} {f t : Int} {l : List Sm} (h : WaysOf g f t l) : l.length ≤ 4194304:=by
 rcases h with ⟨i,n,T,D,rfl,rfl,hi,hn,hr,hl⟩ | ⟨hno,rfl⟩
 · exact hr.row hl
 · exact Nat.zero_le _
def RowI (w : World) (v : Value) (l : List Sm) : Prop:=∃ A c,v = .slice A l.length c ∧ Rw.Ts kindS w A l ∧ l.length ≤ c ∧ c ≤ maxLen ∧ (A = none → c = 0)
theorem RowI.nil (w : World) : RowI w (.slice none 0 0) []:=⟨none,0,rfl,Rw.Ts.nil,Nat.le_refl _,Nat.zero_le _,fun _ => rfl⟩
def LeastD (w : World) (base p F : Nat) (A : Option Addr) (c : Nat) (lg : List Gn) (f t : Int) (e : Ending) (w' : World) : Prop :=
 (∃ v l,e = .returned v ∧ WaysOf (nds lg) f t l ∧ RowI w' v l) ∧ (∃ fs,Pth w' base p F A c lg fs) ∧ Touch (fun b => b = F) w w'
theorem least_any (p F c base : Nat) (A : Option Addr) (lg : List Gn) (fs : List (Option Sl)) (f t : Int) (w : World) (hP : Pth w base p F A c lg fs) (hl : lg.length ≤ 14) (hI : ∀ x ∈ nds lg,x.ins.length ≤ 40) (hFi : Fine (nds lg)) :
 Calls Tryz.prog 84 #[.pointer (some ⟨p,0,none⟩),.int .i64 f,.int .i64 t] w (LeastD w base p F A c lg f t):=by
 have hc : w.cell? ⟨p,0,none⟩ = some (.slice A lg.length c):=hP.row.cell 0
 by_cases hf : 0 ≤ f ∧ f < (lg.length : Int)
 · by_cases ht : 0 ≤ t ∧ t < (lg.length : Int)
   · obtain ⟨i,hi⟩ : ∃ i : Nat,f = (i : Nat):=⟨f.toNat,by omega⟩
     obtain ⟨n,hn⟩ : ∃ n : Nat,t = (n : Nat):=⟨t.toNat,by omega⟩
     subst hi hn
     obtain ⟨x,hx⟩ : ∃ x,fs[i]? = some x:=⟨_,List.getElem?_eq_getElem (by rw [hP.len];omega)⟩
     cases x with
     | none =>
       refine (least_fresh p F c A lg fs base i n w hP (by omega) (by omega) hx hl hI hFi).mono ?_
       rintro e w' ⟨⟨v,l,he,B,cc,T,D,hv,hT,h1,h2,h3,hr,hl⟩,⟨s,hp⟩,ht⟩
       exact ⟨⟨v,l,he,.inl ⟨i,n,T,D,rfl,rfl,by rw [nds_len];omega,by rw [nds_len];omega,hr,hl⟩,B,cc,hv,hT,h1,h2,h3⟩,⟨_,hp⟩,ht⟩
     | some s =>
       refine (least_known p F c A lg fs base i n s w hP (by omega) (by omega) hx hl).mono ?_
       rintro e w' ⟨⟨v,l,he,B,cc,T,D,hv,hT,h1,h2,h3,hr,hl⟩,hb⟩
       exact ⟨⟨v,l,he,.inl ⟨i,n,T,D,rfl,rfl,by rw [nds_len];omega,by rw [nds_len];omega,hr,hl⟩,B,cc,hv,hT,h1,h2,h3⟩,⟨_,hP.below hb⟩,Touch.of_below hb⟩
   · refine (least_offA p lg.length c base A f t w hc (decide_eq_true hf) (decide_eq_false ht)).mono ?_
     rintro e w' ⟨rfl,hb⟩
     exact ⟨⟨_,[],rfl,.inr ⟨fun h => ht (by rw [nds_len] at h;exact h.2),rfl⟩,RowI.nil _⟩,⟨_,hP.below hb⟩,Touch.of_below hb⟩
 · refine (least_offB p lg.length c base A f t w hc (decide_eq_false hf)).mono ?_
   rintro e w' ⟨rfl,hb⟩
   exact ⟨⟨_,[],rfl,.inr ⟨fun h => hf (by rw [nds_len] at h;exact h.1),rfl⟩,RowI.nil _⟩,⟨_,hP.below hb⟩,Touch.of_below hb⟩
def WayD (w : World) (base p F : Nat) (A : Option Addr) (c : Nat) (lg : List Gn) (f t : Int) (e : Ending) (w' : World) : Prop :=
 (∃ v l,e = .returned v ∧ WaysOf (nds lg) f t l ∧ w'.ownsRow w.heap.size 82 kindS.K v l.length (Rw.row kindS l)) ∧ (∃ fs,Pth w' base p F A c lg fs) ∧ Touch (fun b => b = F) w w'
theorem ways_any (p F c base : Nat) (A : Option Addr) (lg : List Gn) (fs : List (Option Sl)) (f t : Int) (w : World) (hP : Pth w base p F A c lg fs) (hl : lg.length ≤ 14) (hI : ∀ x ∈ nds lg,x.ins.length ≤ 40) (hFi : Fine (nds lg)) :
 Calls Tryz.prog 38 #[.pointer (some ⟨p,0,none⟩),.int .i64 f,.int .i64 t] w (WayD w base p F A c lg f t):=by
 have H:=Hd (least_any p F c base A lg fs f t w hP hl hI hFi);clear hP hI hFi
 go_enter Tryz.func38,Tryz.ntmps38
 go_wp2_with fail
 refine H.out.mono ?_;rintro e w1 ⟨⟨v,l,rfl,hw,LA,lc,rfl,hT,h1,h2,h3⟩,⟨fs',hP⟩,ht⟩
 have HCL:=Hd (cloneS_any LA l lc w1 hT (fun e => ⟨h3 e,List.eq_nil_of_length_eq_zero (by have:=h3 e;omega)⟩) (by have:=hw.len;omega))
 have HW:=Hd (And.intro hw (And.intro hP ht));clear hw hT h1 h2 h3 hP ht
 dsimp only
 go_wp2_with fail
 refine HCL.out.mono ?_;rintro e w2 ⟨⟨v2,rfl,ho⟩,hb⟩
 have HO:=Hd (And.intro ho hb);clear ho hb HCL
 dsimp only
 go_wp2_with fail
 go_ret
 obtain ⟨hw,hP,ht⟩:=HW.out
 obtain ⟨ho,hb⟩:=HO.out
 exact ⟨⟨_,l,rfl,hw,own_base ho ht.size⟩,⟨_,hP.below hb⟩,ht.trans (Touch.of_below hb)⟩
theorem graph_any (p F c base : Nat) (A : Option Addr) (lg : List Gn) (fs : List (Option Sl)) (w : World) (hP : Pth w base p F A c lg fs) (hl : lg.length ≤ 14) (hI : ∀ x ∈ nds lg,x.ins.length ≤ 40) :
 Calls Tryz.prog 42 #[.pointer (some ⟨p,0,none⟩)] w fun e w' => (∃ v l',e = .returned v ∧ nds l' = nds lg ∧ OwnG w' w.heap.size v l') ∧ Below w.heap.size w w':=by
 have hc : w.cell? ⟨p,0,none⟩ = some (.slice A lg.length c):=hP.row.cell 0
 obtain ⟨A',c',e,hG,h1,h2,h3⟩:=hP.graph.gr
 cases e
 have H:=Hd (copied_any A lg c w hG (fun e => ⟨h3 e,List.eq_nil_of_length_eq_zero (by have:=h3 e;omega)⟩) (by omega) (fun x hx => by have:=hI x.nd (List.mem_map.2 ⟨x,hx,rfl⟩);omega))
 clear hP hG h1 h2 h3 hI
 go_enter Tryz.func42,Tryz.ntmps42
 go_wp2_with fail
 refine H.out.mono ?_;rintro e w1 ⟨⟨v,l',rfl,hn,ho⟩,hb⟩
 have HO:=Hd (And.intro hn (And.intro ho hb));clear hn ho hb H
 dsimp only
 go_wp2_with fail
 go_ret
 exact ⟨⟨_,l',rfl,HO.out.1,HO.out.2.1⟩,HO.out.2.2⟩
end
end Go.Proofs.YtonelpnhoiajgaaGreatDoor
