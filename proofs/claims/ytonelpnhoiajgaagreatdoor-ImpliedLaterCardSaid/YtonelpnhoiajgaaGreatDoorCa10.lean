import Derived.Test.YtonelpnhoiajgaaGreatDoorHd
import Derived.Test.YtonelpnhoiajgaaGreatDoorCa4
import Derived.RegionTactic
import Derived.BigRegion
import Derived.ChangeAlike
import Derived.Deep.DeepCutAuto
import Derived.Shelf.Abstract
import Derived.Test.YtonelpnhoiajgaaGreatDoorCa9
import Derived.Deep.QuietTactic
import Derived.BigQuiet
import Derived.WalkSmall
namespace Go.Proofs.YtonelpnhoiajgaaGreatDoor
set_option linter.unusedSimpArgs false
set_option maxRecDepth 100000
open Go.ChangeShapes Go.WideShapes Go.ChangeAt Go.RowKit Go.BigFrame
set_option linter.unusedVariables false
section
noncomputable def deepG (g : List Nd) (n : Nd) : Bool:=@decide (n.Deep g) (Classical.propDecidable _)
theorem deepG_iff {g : List Nd} {n : Nd} : deepG g n = true ↔ n.Deep g:=by unfold deepG;exact @decide_eq_true_iff _ (Classical.propDecidable _)
theorem deepG_no {g : List Nd} {n : Nd} (h : ¬ n.Deep g) : false = deepG g n:=by
 cases e : deepG g n with
 | true => exact absurd (deepG_iff.1 e) h
 | false => rfl
theorem deepG_out {g : List Nd} {n : Nd} (h : n.deepB = false) : false = deepG g n:=deepG_no fun hh => by rw [hh.1] at h;cases h
theorem deepG_in {g : List Nd} {n m : Nd} {z : Int} {p : Nat} (hz : n.ins[p]? = some z) (hm : g[z.toNat]? = some m) (h : n.d - n.more ≠ m.d) : false = deepG g n:=deepG_no fun hh => h (hh.2 z (List.mem_of_getElem? hz) m hm)
theorem deepG_yes {g : List Nd} {n : Nd} (h : n.deepB = true) (h2 : ∀ z ∈ n.ins,∀ m,g[z.toNat]? = some m → n.d - n.more = m.d) : true = deepG g n:=(deepG_iff.2 ⟨h,h2⟩).symm
set_option maxHeartbeats 16000000 in
theorem refDepth_any (A : Option Addr) (l : List Gn) (c : Nat) (xk xa : Nat) (xb xd : Int) (xi : List Int) (xA : Option Addr) (xc : Nat) (w : World) (hG : Gr w A l) (hl : l.length ≤ maxLen) (hT : Rw.Ts kindI w xA xi) (hx : xi.length ≤ maxLen) (hP : ∀ z ∈ xi,portOk (nds l) z) :
 Calls Tryz.prog 137 #[.slice A l.length c,.agg #[.int .u8 (xk : Nat),.int .u8 (xa : Nat),.int .i64 xb,.int .i64 xd,.slice xA xi.length xc]] w fun e w' => e = .returned (.bool (deepG (nds l) ⟨xk,xa,xb,xd,xi⟩)) ∧ Below w.heap.size w w':=by
 unfold maxLen at hl hx
 have HB:=Hd ((Below.refl _ w).alloc (Nat.le_refl _) (.cells #[.int .u8 (xk : Nat),.int .u8 (xa : Nat),.int .i64 xb,.int .i64 xd,.slice xA xi.length xc] 58))
 have HR:=Hd (show Row (w.alloc (.cells #[.int .u8 (xk : Nat),.int .u8 (xa : Nat),.int .i64 xb,.int .i64 xd,.slice xA xi.length xc] 58)) w.heap.size 58 [.int .u8 (xk : Nat),.int .u8 (xa : Nat),.int .i64 xb,.int .i64 xd,.slice xA xi.length xc] from Row.made w _ _)
 have HG:=Hd hG;have HT:=Hd hT;have HP:=Hd hP;clear hG hT hP
 obtain ⟨n,hn⟩ : ∃ n : Nd,n = ⟨xk,xa,xb,xd,xi⟩:=⟨_,rfl⟩
 rw [← hn]
 have HN0:=Hd hn;clear hn
 by_cases h0 : xd < 0
 · have HY:=Hd (deepG_out (g:=nds l) (n:=n) (by rw [HN0.out];unfold Nd.deepB;exact decide_eq_false (by first | (simp;done) | (simp;omega))))
   go_enter Tryz.func137,Tryz.ntmps137
   go_wp2_with fail
   go_ret
   exact ⟨retb HY.out,HB.out⟩
 · by_cases h3 : 3 < xd
   · have HY:=Hd (deepG_out (g:=nds l) (n:=n) (by rw [HN0.out];unfold Nd.deepB;exact decide_eq_false (by first | (simp;done) | (simp;omega))))
     go_enter Tryz.func137,Tryz.ntmps137
     go_wp2_with fail
     go_ret
     exact ⟨retb HY.out,HB.out⟩
   · by_cases k1 : xk = 1
     · subst k1
       by_cases hd0 : xd = 0
       · have hd0z : (xd != 0) = false:=by simpa using hd0
         have HD:=Hd (show Nd.deepB n = true by rw [HN0.out];unfold Nd.deepB;exact decide_eq_true (by first | (simp;done) | (simp;omega)))
         have HM:=Hd (show Nd.more n = 0 by rw [HN0.out];rfl)
         obtain ⟨E,hE⟩ : ∃ E,IntKind.i64.wrap (xd - 0) = E:=⟨_,rfl⟩
         have hEE : xd - 0 = E:=by rw [← hE];exact (IntWalk.i64_in _ (by omega)).symm
         have hE2 : IntKind.i64.wrap xd = E:=by rw [← hE,Int.sub_zero]
         have HE:=Hd hEE;clear hEE
         clear hd0
         go_enter Tryz.func137,Tryz.ntmps137
         go_wp2_with fail
         go_loopw [6] (fun i wx => ∃ p : Nat,p ≤ xi.length ∧ i = .int .i64 p ∧ Below (w.alloc (.cells #[.int .u8 (1 : Nat),.int .u8 (xa : Nat),.int .i64 xb,.int .i64 xd,.slice xA xi.length xc] 58)).heap.size (w.alloc (.cells #[.int .u8 (1 : Nat),.int .u8 (xa : Nat),.int .i64 xb,.int .i64 xd,.slice xA xi.length xc] 58)) wx ∧ ∀ (j : Nat) (z : Int) (m : Nd),j < p → xi[j]? = some z → (nds l)[z.toNat]? = some m → E = m.d) (fun i _ => xi.length - (intOf i).toNat)
         case atStart => exact ⟨0,by omega,rfl,Below.refl _ _,fun j z m h => absurd h (by omega)⟩
         case round =>
          obtain ⟨p,hp,rfl,hb,hall⟩:=hrel
          have HA:=Hd hall;have HBX:=Hd hb;clear hall hb
          have d3 : wr.cell? ⟨w.heap.size,3,none⟩ = some (.int .i64 xd):=(HR.out.below HBX.out HR.out.lt).cell 3
          have d4 : wr.cell? ⟨w.heap.size,4,none⟩ = some (.slice xA xi.length xc):=(HR.out.below HBX.out HR.out.lt).cell 4
          have HBW:=Hd (HB.out.trans (HBX.out.mono (by simp)))
          by_cases hlp : p < xi.length
          · have hpz : (p : Int) < (xi.length : Int):=by omega
            obtain ⟨z,hz⟩ : ∃ z,xi[p]? = some z:=⟨_,List.getElem?_eq_getElem hlp⟩
            obtain ⟨hz0,m,hm,_⟩:=HP.out z (List.mem_of_getElem? hz)
            obtain ⟨Z,rfl⟩ : ∃ Z : Nat,z = (Z : Int):=Int.eq_ofNat_of_zero_le hz0
            rw [Int.toNat_natCast] at hm
            obtain ⟨y,hy,rfl⟩ : ∃ y,l[Z]? = some y ∧ y.nd = m:=by
             unfold nds at hm
             rw [List.getElem?_map,Option.map_eq_some_iff] at hm
             exact hm
            have hZl : Z < l.length:=(List.getElem?_eq_some_iff.1 hy).1
            have hZz : (Z : Int) < (l.length : Int):=by omega
            obtain ⟨bb,oo,rfl,hbb,hq⟩:=ints_at HT.out hz
            obtain ⟨b,o,rfl,hbl,hcl⟩:=HG.out.at_ hy
            have q:=hq wr HBW.out
            obtain ⟨_,_,_,c3,_⟩:=hcl wr HBW.out
            have HZ:=Hd hz;have HM2:=Hd hm;clear hz hq hy hcl hm
            generalize hYd : y.nd.d = yd at *
            have HYD:=Hd hYd;clear hYd
            by_cases hey : E = yd
            · subst hey
              go_wp2_with fail
              go_region
              go_wp2_with fail
              go_roundw
              case rel =>
               refine ⟨p + 1,by omega,by simp,HBX.out.drew,fun j z m hj hz hm => ?_⟩
               by_cases e : j = p
               · subst e
                 rw [HZ.out] at hz;injection hz with hz;subst hz
                 rw [Int.toNat_natCast,HM2.out] at hm;injection hm with hm
                 rw [← hm];exact HYD.out.symm
               · exact HA.out j z m (by omega) hz hm
              case measure => simp only [intOf];omega
            · have heyz : (E != yd) = true:=by simpa using hey
              have HN:=Hd (deepG_in (g:=nds l) (n:=n) (by rw [HN0.out];exact HZ.out) (by rw [Int.toNat_natCast];exact HM2.out) (by rw [HM.out,HN0.out,HYD.out];show xd - _ ≠ yd;rw [HE.out];exact hey))
              clear hey
              go_wp2_with fail
              go_region
              go_wp2_with fail
              go_ret
              exact ⟨retb HN.out,HBW.out.drew⟩
          · have hpz : ¬ (p : Int) < (xi.length : Int):=by omega
            have HN:=Hd (deepG_yes (g:=nds l) (n:=n) HD.out fun z hz m hm => by
             rw [HN0.out] at hz
             simp only at hz
             obtain ⟨j,hj⟩:=List.getElem?_of_mem hz
             rw [HM.out,HN0.out]
             show xd - _ = m.d
             rw [HE.out]
             exact HA.out j z m (by have:=(List.getElem?_eq_some_iff.1 hj).1;omega) hj hm)
            go_wp2_with fail
            go_ret
            exact ⟨retb HN.out,HBW.out⟩
       · have hd0z : (xd != 0) = true:=by simpa using hd0
         have HY:=Hd (deepG_out (g:=nds l) (n:=n) (by rw [HN0.out];unfold Nd.deepB;exact decide_eq_false (by first | (simp;done) | (simp;omega))))
         go_enter Tryz.func137,Tryz.ntmps137
         go_wp2_with fail
         go_ret
         exact ⟨retb HY.out,HB.out⟩
     · have k1z : (((xk : Nat) : Int) == 1) = false:=by simp;omega
       by_cases k10 : xk = 10
       · subst k10
         by_cases hd0 : xd = 0
         · have hd0z : (xd != 0) = false:=by simpa using hd0
           have HD:=Hd (show Nd.deepB n = true by rw [HN0.out];unfold Nd.deepB;exact decide_eq_true (by first | (simp;done) | (simp;omega)))
           have HM:=Hd (show Nd.more n = 0 by rw [HN0.out];rfl)
           obtain ⟨E,hE⟩ : ∃ E,IntKind.i64.wrap (xd - 0) = E:=⟨_,rfl⟩
           have hEE : xd - 0 = E:=by rw [← hE];exact (IntWalk.i64_in _ (by omega)).symm
           have hE2 : IntKind.i64.wrap xd = E:=by rw [← hE,Int.sub_zero]
           have HE:=Hd hEE;clear hEE
           clear hd0
           go_enter Tryz.func137,Tryz.ntmps137
           go_wp2_with fail
           go_loopw [6] (fun i wx => ∃ p : Nat,p ≤ xi.length ∧ i = .int .i64 p ∧ Below (w.alloc (.cells #[.int .u8 (10 : Nat),.int .u8 (xa : Nat),.int .i64 xb,.int .i64 xd,.slice xA xi.length xc] 58)).heap.size (w.alloc (.cells #[.int .u8 (10 : Nat),.int .u8 (xa : Nat),.int .i64 xb,.int .i64 xd,.slice xA xi.length xc] 58)) wx ∧ ∀ (j : Nat) (z : Int) (m : Nd),j < p → xi[j]? = some z → (nds l)[z.toNat]? = some m → E = m.d) (fun i _ => xi.length - (intOf i).toNat)
           case atStart => exact ⟨0,by omega,rfl,Below.refl _ _,fun j z m h => absurd h (by omega)⟩
           case round =>
            obtain ⟨p,hp,rfl,hb,hall⟩:=hrel
            have HA:=Hd hall;have HBX:=Hd hb;clear hall hb
            have d3 : wr.cell? ⟨w.heap.size,3,none⟩ = some (.int .i64 xd):=(HR.out.below HBX.out HR.out.lt).cell 3
            have d4 : wr.cell? ⟨w.heap.size,4,none⟩ = some (.slice xA xi.length xc):=(HR.out.below HBX.out HR.out.lt).cell 4
            have HBW:=Hd (HB.out.trans (HBX.out.mono (by simp)))
            by_cases hlp : p < xi.length
            · have hpz : (p : Int) < (xi.length : Int):=by omega
              obtain ⟨z,hz⟩ : ∃ z,xi[p]? = some z:=⟨_,List.getElem?_eq_getElem hlp⟩
              obtain ⟨hz0,m,hm,_⟩:=HP.out z (List.mem_of_getElem? hz)
              obtain ⟨Z,rfl⟩ : ∃ Z : Nat,z = (Z : Int):=Int.eq_ofNat_of_zero_le hz0
              rw [Int.toNat_natCast] at hm
              obtain ⟨y,hy,rfl⟩ : ∃ y,l[Z]? = some y ∧ y.nd = m:=by
               unfold nds at hm
               rw [List.getElem?_map,Option.map_eq_some_iff] at hm
               exact hm
              have hZl : Z < l.length:=(List.getElem?_eq_some_iff.1 hy).1
              have hZz : (Z : Int) < (l.length : Int):=by omega
              obtain ⟨bb,oo,rfl,hbb,hq⟩:=ints_at HT.out hz
              obtain ⟨b,o,rfl,hbl,hcl⟩:=HG.out.at_ hy
              have q:=hq wr HBW.out
              obtain ⟨_,_,_,c3,_⟩:=hcl wr HBW.out
              have HZ:=Hd hz;have HM2:=Hd hm;clear hz hq hy hcl hm
              generalize hYd : y.nd.d = yd at *
              have HYD:=Hd hYd;clear hYd
              by_cases hey : E = yd
              · subst hey
                go_wp2_with fail
                go_region
                go_wp2_with fail
                go_roundw
                case rel =>
                 refine ⟨p + 1,by omega,by simp,HBX.out.drew,fun j z m hj hz hm => ?_⟩
                 by_cases e : j = p
                 · subst e
                   rw [HZ.out] at hz;injection hz with hz;subst hz
                   rw [Int.toNat_natCast,HM2.out] at hm;injection hm with hm
                   rw [← hm];exact HYD.out.symm
                 · exact HA.out j z m (by omega) hz hm
                case measure => simp only [intOf];omega
              · have heyz : (E != yd) = true:=by simpa using hey
                have HN:=Hd (deepG_in (g:=nds l) (n:=n) (by rw [HN0.out];exact HZ.out) (by rw [Int.toNat_natCast];exact HM2.out) (by rw [HM.out,HN0.out,HYD.out];show xd - _ ≠ yd;rw [HE.out];exact hey))
                clear hey
                go_wp2_with fail
                go_region
                go_wp2_with fail
                go_ret
                exact ⟨retb HN.out,HBW.out.drew⟩
            · have hpz : ¬ (p : Int) < (xi.length : Int):=by omega
              have HN:=Hd (deepG_yes (g:=nds l) (n:=n) HD.out fun z hz m hm => by
               rw [HN0.out] at hz
               simp only at hz
               obtain ⟨j,hj⟩:=List.getElem?_of_mem hz
               rw [HM.out,HN0.out]
               show xd - _ = m.d
               rw [HE.out]
               exact HA.out j z m (by have:=(List.getElem?_eq_some_iff.1 hj).1;omega) hj hm)
              go_wp2_with fail
              go_ret
              exact ⟨retb HN.out,HBW.out⟩
         · have hd0z : (xd != 0) = true:=by simpa using hd0
           have HY:=Hd (deepG_out (g:=nds l) (n:=n) (by rw [HN0.out];unfold Nd.deepB;exact decide_eq_false (by first | (simp;done) | (simp;omega))))
           go_enter Tryz.func137,Tryz.ntmps137
           go_wp2_with fail
           go_ret
           exact ⟨retb HY.out,HB.out⟩
       · have k10z : (((xk : Nat) : Int) == 10) = false:=by simp;omega
         by_cases k9 : xk = 9
         · subst k9
           by_cases hd1 : xd < 1
           · have HY:=Hd (deepG_out (g:=nds l) (n:=n) (by rw [HN0.out];unfold Nd.deepB;exact decide_eq_false (by first | (simp;done) | (simp;omega))))
             go_enter Tryz.func137,Tryz.ntmps137
             go_wp2_with fail
             go_ret
             exact ⟨retb HY.out,HB.out⟩
           · have HD:=Hd (show Nd.deepB n = true by rw [HN0.out];unfold Nd.deepB;exact decide_eq_true (by first | (simp;done) | (simp;omega)))
             have HM:=Hd (show Nd.more n = 0 by rw [HN0.out];rfl)
             obtain ⟨E,hE⟩ : ∃ E,IntKind.i64.wrap (xd - 0) = E:=⟨_,rfl⟩
             have hEE : xd - 0 = E:=by rw [← hE];exact (IntWalk.i64_in _ (by omega)).symm
             have hE2 : IntKind.i64.wrap xd = E:=by rw [← hE,Int.sub_zero]
             have HE:=Hd hEE;clear hEE
             go_enter Tryz.func137,Tryz.ntmps137
             go_wp2_with fail
             go_loopw [6] (fun i wx => ∃ p : Nat,p ≤ xi.length ∧ i = .int .i64 p ∧ Below (w.alloc (.cells #[.int .u8 (9 : Nat),.int .u8 (xa : Nat),.int .i64 xb,.int .i64 xd,.slice xA xi.length xc] 58)).heap.size (w.alloc (.cells #[.int .u8 (9 : Nat),.int .u8 (xa : Nat),.int .i64 xb,.int .i64 xd,.slice xA xi.length xc] 58)) wx ∧ ∀ (j : Nat) (z : Int) (m : Nd),j < p → xi[j]? = some z → (nds l)[z.toNat]? = some m → E = m.d) (fun i _ => xi.length - (intOf i).toNat)
             case atStart => exact ⟨0,by omega,rfl,Below.refl _ _,fun j z m h => absurd h (by omega)⟩
             case round =>
              obtain ⟨p,hp,rfl,hb,hall⟩:=hrel
              have HA:=Hd hall;have HBX:=Hd hb;clear hall hb
              have d3 : wr.cell? ⟨w.heap.size,3,none⟩ = some (.int .i64 xd):=(HR.out.below HBX.out HR.out.lt).cell 3
              have d4 : wr.cell? ⟨w.heap.size,4,none⟩ = some (.slice xA xi.length xc):=(HR.out.below HBX.out HR.out.lt).cell 4
              have HBW:=Hd (HB.out.trans (HBX.out.mono (by simp)))
              by_cases hlp : p < xi.length
              · have hpz : (p : Int) < (xi.length : Int):=by omega
                obtain ⟨z,hz⟩ : ∃ z,xi[p]? = some z:=⟨_,List.getElem?_eq_getElem hlp⟩
                obtain ⟨hz0,m,hm,_⟩:=HP.out z (List.mem_of_getElem? hz)
                obtain ⟨Z,rfl⟩ : ∃ Z : Nat,z = (Z : Int):=Int.eq_ofNat_of_zero_le hz0
                rw [Int.toNat_natCast] at hm
                obtain ⟨y,hy,rfl⟩ : ∃ y,l[Z]? = some y ∧ y.nd = m:=by
                 unfold nds at hm
                 rw [List.getElem?_map,Option.map_eq_some_iff] at hm
                 exact hm
                have hZl : Z < l.length:=(List.getElem?_eq_some_iff.1 hy).1
                have hZz : (Z : Int) < (l.length : Int):=by omega
                obtain ⟨bb,oo,rfl,hbb,hq⟩:=ints_at HT.out hz
                obtain ⟨b,o,rfl,hbl,hcl⟩:=HG.out.at_ hy
                have q:=hq wr HBW.out
                obtain ⟨_,_,_,c3,_⟩:=hcl wr HBW.out
                have HZ:=Hd hz;have HM2:=Hd hm;clear hz hq hy hcl hm
                generalize hYd : y.nd.d = yd at *
                have HYD:=Hd hYd;clear hYd
                by_cases hey : E = yd
                · subst hey
                  go_wp2_with fail
                  go_region
                  go_wp2_with fail
                  go_roundw
                  case rel =>
                   refine ⟨p + 1,by omega,by simp,HBX.out.drew,fun j z m hj hz hm => ?_⟩
                   by_cases e : j = p
                   · subst e
                     rw [HZ.out] at hz;injection hz with hz;subst hz
                     rw [Int.toNat_natCast,HM2.out] at hm;injection hm with hm
                     rw [← hm];exact HYD.out.symm
                   · exact HA.out j z m (by omega) hz hm
                  case measure => simp only [intOf];omega
                · have heyz : (E != yd) = true:=by simpa using hey
                  have HN:=Hd (deepG_in (g:=nds l) (n:=n) (by rw [HN0.out];exact HZ.out) (by rw [Int.toNat_natCast];exact HM2.out) (by rw [HM.out,HN0.out,HYD.out];show xd - _ ≠ yd;rw [HE.out];exact hey))
                  clear hey
                  go_wp2_with fail
                  go_region
                  go_wp2_with fail
                  go_ret
                  exact ⟨retb HN.out,HBW.out.drew⟩
              · have hpz : ¬ (p : Int) < (xi.length : Int):=by omega
                have HN:=Hd (deepG_yes (g:=nds l) (n:=n) HD.out fun z hz m hm => by
                 rw [HN0.out] at hz
                 simp only at hz
                 obtain ⟨j,hj⟩:=List.getElem?_of_mem hz
                 rw [HM.out,HN0.out]
                 show xd - _ = m.d
                 rw [HE.out]
                 exact HA.out j z m (by have:=(List.getElem?_eq_some_iff.1 hj).1;omega) hj hm)
                go_wp2_with fail
                go_ret
                exact ⟨retb HN.out,HBW.out⟩
         · have k9z : (((xk : Nat) : Int) == 9) = false:=by simp;omega
           by_cases k7 : xk = 7
           · subst k7
             have HD:=Hd (show Nd.deepB n = true by rw [HN0.out];unfold Nd.deepB;exact decide_eq_true (by first | (simp;done) | (simp;omega)))
             have HM:=Hd (show Nd.more n = 1 by rw [HN0.out];rfl)
             obtain ⟨E,hE⟩ : ∃ E,IntKind.i64.wrap (xd - 1) = E:=⟨_,rfl⟩
             have hEE : xd - 1 = E:=by rw [← hE];exact (IntWalk.i64_in _ (by omega)).symm
             have HE:=Hd hEE;clear hEE
             go_enter Tryz.func137,Tryz.ntmps137
             go_wp2_with fail
             go_loopw [6] (fun i wx => ∃ p : Nat,p ≤ xi.length ∧ i = .int .i64 p ∧ Below (w.alloc (.cells #[.int .u8 (7 : Nat),.int .u8 (xa : Nat),.int .i64 xb,.int .i64 xd,.slice xA xi.length xc] 58)).heap.size (w.alloc (.cells #[.int .u8 (7 : Nat),.int .u8 (xa : Nat),.int .i64 xb,.int .i64 xd,.slice xA xi.length xc] 58)) wx ∧ ∀ (j : Nat) (z : Int) (m : Nd),j < p → xi[j]? = some z → (nds l)[z.toNat]? = some m → E = m.d) (fun i _ => xi.length - (intOf i).toNat)
             case atStart => exact ⟨0,by omega,rfl,Below.refl _ _,fun j z m h => absurd h (by omega)⟩
             case round =>
              obtain ⟨p,hp,rfl,hb,hall⟩:=hrel
              have HA:=Hd hall;have HBX:=Hd hb;clear hall hb
              have d3 : wr.cell? ⟨w.heap.size,3,none⟩ = some (.int .i64 xd):=(HR.out.below HBX.out HR.out.lt).cell 3
              have d4 : wr.cell? ⟨w.heap.size,4,none⟩ = some (.slice xA xi.length xc):=(HR.out.below HBX.out HR.out.lt).cell 4
              have HBW:=Hd (HB.out.trans (HBX.out.mono (by simp)))
              by_cases hlp : p < xi.length
              · have hpz : (p : Int) < (xi.length : Int):=by omega
                obtain ⟨z,hz⟩ : ∃ z,xi[p]? = some z:=⟨_,List.getElem?_eq_getElem hlp⟩
                obtain ⟨hz0,m,hm,_⟩:=HP.out z (List.mem_of_getElem? hz)
                obtain ⟨Z,rfl⟩ : ∃ Z : Nat,z = (Z : Int):=Int.eq_ofNat_of_zero_le hz0
                rw [Int.toNat_natCast] at hm
                obtain ⟨y,hy,rfl⟩ : ∃ y,l[Z]? = some y ∧ y.nd = m:=by
                 unfold nds at hm
                 rw [List.getElem?_map,Option.map_eq_some_iff] at hm
                 exact hm
                have hZl : Z < l.length:=(List.getElem?_eq_some_iff.1 hy).1
                have hZz : (Z : Int) < (l.length : Int):=by omega
                obtain ⟨bb,oo,rfl,hbb,hq⟩:=ints_at HT.out hz
                obtain ⟨b,o,rfl,hbl,hcl⟩:=HG.out.at_ hy
                have q:=hq wr HBW.out
                obtain ⟨_,_,_,c3,_⟩:=hcl wr HBW.out
                have HZ:=Hd hz;have HM2:=Hd hm;clear hz hq hy hcl hm
                generalize hYd : y.nd.d = yd at *
                have HYD:=Hd hYd;clear hYd
                by_cases hey : E = yd
                · subst hey
                  go_wp2_with fail
                  go_region
                  go_wp2_with fail
                  go_roundw
                  case rel =>
                   refine ⟨p + 1,by omega,by simp,HBX.out.drew,fun j z m hj hz hm => ?_⟩
                   by_cases e : j = p
                   · subst e
                     rw [HZ.out] at hz;injection hz with hz;subst hz
                     rw [Int.toNat_natCast,HM2.out] at hm;injection hm with hm
                     rw [← hm];exact HYD.out.symm
                   · exact HA.out j z m (by omega) hz hm
                  case measure => simp only [intOf];omega
                · have heyz : (E != yd) = true:=by simpa using hey
                  have HN:=Hd (deepG_in (g:=nds l) (n:=n) (by rw [HN0.out];exact HZ.out) (by rw [Int.toNat_natCast];exact HM2.out) (by rw [HM.out,HN0.out,HYD.out];show xd - _ ≠ yd;rw [HE.out];exact hey))
                  clear hey
                  go_wp2_with fail
                  go_region
                  go_wp2_with fail
                  go_ret
                  exact ⟨retb HN.out,HBW.out.drew⟩
              · have hpz : ¬ (p : Int) < (xi.length : Int):=by omega
                have HN:=Hd (deepG_yes (g:=nds l) (n:=n) HD.out fun z hz m hm => by
                 rw [HN0.out] at hz
                 simp only at hz
                 obtain ⟨j,hj⟩:=List.getElem?_of_mem hz
                 rw [HM.out,HN0.out]
                 show xd - _ = m.d
                 rw [HE.out]
                 exact HA.out j z m (by have:=(List.getElem?_eq_some_iff.1 hj).1;omega) hj hm)
                go_wp2_with fail
                go_ret
                exact ⟨retb HN.out,HBW.out⟩
           · have k7z : (((xk : Nat) : Int) == 7) = false:=by simp;omega
             by_cases k8 : xk = 8
             · subst k8
               have HD:=Hd (show Nd.deepB n = true by rw [HN0.out];unfold Nd.deepB;exact decide_eq_true (by first | (simp;done) | (simp;omega)))
               have HM:=Hd (show Nd.more n = -1 by rw [HN0.out];rfl)
               obtain ⟨E,hE⟩ : ∃ E,IntKind.i64.wrap (xd - -1) = E:=⟨_,rfl⟩
               have hEE : xd - -1 = E:=by rw [← hE];exact (IntWalk.i64_in _ (by omega)).symm
               have hE2 : IntKind.i64.wrap (xd + 1) = E:=by rw [← hE];congr 1
               have HE:=Hd hEE;clear hEE
               go_enter Tryz.func137,Tryz.ntmps137
               go_wp2_with fail
               go_loopw [6] (fun i wx => ∃ p : Nat,p ≤ xi.length ∧ i = .int .i64 p ∧ Below (w.alloc (.cells #[.int .u8 (8 : Nat),.int .u8 (xa : Nat),.int .i64 xb,.int .i64 xd,.slice xA xi.length xc] 58)).heap.size (w.alloc (.cells #[.int .u8 (8 : Nat),.int .u8 (xa : Nat),.int .i64 xb,.int .i64 xd,.slice xA xi.length xc] 58)) wx ∧ ∀ (j : Nat) (z : Int) (m : Nd),j < p → xi[j]? = some z → (nds l)[z.toNat]? = some m → E = m.d) (fun i _ => xi.length - (intOf i).toNat)
               case atStart => exact ⟨0,by omega,rfl,Below.refl _ _,fun j z m h => absurd h (by omega)⟩
               case round =>
                obtain ⟨p,hp,rfl,hb,hall⟩:=hrel
                have HA:=Hd hall;have HBX:=Hd hb;clear hall hb
                have d3 : wr.cell? ⟨w.heap.size,3,none⟩ = some (.int .i64 xd):=(HR.out.below HBX.out HR.out.lt).cell 3
                have d4 : wr.cell? ⟨w.heap.size,4,none⟩ = some (.slice xA xi.length xc):=(HR.out.below HBX.out HR.out.lt).cell 4
                have HBW:=Hd (HB.out.trans (HBX.out.mono (by simp)))
                by_cases hlp : p < xi.length
                · have hpz : (p : Int) < (xi.length : Int):=by omega
                  obtain ⟨z,hz⟩ : ∃ z,xi[p]? = some z:=⟨_,List.getElem?_eq_getElem hlp⟩
                  obtain ⟨hz0,m,hm,_⟩:=HP.out z (List.mem_of_getElem? hz)
                  obtain ⟨Z,rfl⟩ : ∃ Z : Nat,z = (Z : Int):=Int.eq_ofNat_of_zero_le hz0
                  rw [Int.toNat_natCast] at hm
                  obtain ⟨y,hy,rfl⟩ : ∃ y,l[Z]? = some y ∧ y.nd = m:=by
                   unfold nds at hm
                   rw [List.getElem?_map,Option.map_eq_some_iff] at hm
                   exact hm
                  have hZl : Z < l.length:=(List.getElem?_eq_some_iff.1 hy).1
                  have hZz : (Z : Int) < (l.length : Int):=by omega
                  obtain ⟨bb,oo,rfl,hbb,hq⟩:=ints_at HT.out hz
                  obtain ⟨b,o,rfl,hbl,hcl⟩:=HG.out.at_ hy
                  have q:=hq wr HBW.out
                  obtain ⟨_,_,_,c3,_⟩:=hcl wr HBW.out
                  have HZ:=Hd hz;have HM2:=Hd hm;clear hz hq hy hcl hm
                  generalize hYd : y.nd.d = yd at *
                  have HYD:=Hd hYd;clear hYd
                  by_cases hey : E = yd
                  · subst hey
                    go_wp2_with fail
                    go_region
                    go_wp2_with fail
                    go_roundw
                    case rel =>
                     refine ⟨p + 1,by omega,by simp,HBX.out.drew,fun j z m hj hz hm => ?_⟩
                     by_cases e : j = p
                     · subst e
                       rw [HZ.out] at hz;injection hz with hz;subst hz
                       rw [Int.toNat_natCast,HM2.out] at hm;injection hm with hm
                       rw [← hm];exact HYD.out.symm
                     · exact HA.out j z m (by omega) hz hm
                    case measure => simp only [intOf];omega
                  · have heyz : (E != yd) = true:=by simpa using hey
                    have HN:=Hd (deepG_in (g:=nds l) (n:=n) (by rw [HN0.out];exact HZ.out) (by rw [Int.toNat_natCast];exact HM2.out) (by rw [HM.out,HN0.out,HYD.out];show xd - _ ≠ yd;rw [HE.out];exact hey))
                    clear hey
                    go_wp2_with fail
                    go_region
                    go_wp2_with fail
                    go_ret
                    exact ⟨retb HN.out,HBW.out.drew⟩
                · have hpz : ¬ (p : Int) < (xi.length : Int):=by omega
                  have HN:=Hd (deepG_yes (g:=nds l) (n:=n) HD.out fun z hz m hm => by
                   rw [HN0.out] at hz
                   simp only at hz
                   obtain ⟨j,hj⟩:=List.getElem?_of_mem hz
                   rw [HM.out,HN0.out]
                   show xd - _ = m.d
                   rw [HE.out]
                   exact HA.out j z m (by have:=(List.getElem?_eq_some_iff.1 hj).1;omega) hj hm)
                  go_wp2_with fail
                  go_ret
                  exact ⟨retb HN.out,HBW.out⟩
             · have k8z : (((xk : Nat) : Int) == 8) = false:=by simp;omega
               have HD:=Hd (show Nd.deepB n = true by rw [HN0.out];unfold Nd.deepB;exact decide_eq_true (by first | (simp;done) | (simp;omega)))
               have HM:=Hd (show Nd.more n = 0 by rw [HN0.out];unfold Nd.more;rw [if_neg k7,if_neg k8])
               obtain ⟨E,hE⟩ : ∃ E,IntKind.i64.wrap (xd - 0) = E:=⟨_,rfl⟩
               have hEE : xd - 0 = E:=by rw [← hE];exact (IntWalk.i64_in _ (by omega)).symm
               have hE2 : IntKind.i64.wrap xd = E:=by rw [← hE,Int.sub_zero]
               have HE:=Hd hEE;clear hEE
               go_enter Tryz.func137,Tryz.ntmps137
               go_wp2_with fail
               go_loopw [6] (fun i wx => ∃ p : Nat,p ≤ xi.length ∧ i = .int .i64 p ∧ Below (w.alloc (.cells #[.int .u8 (xk : Nat),.int .u8 (xa : Nat),.int .i64 xb,.int .i64 xd,.slice xA xi.length xc] 58)).heap.size (w.alloc (.cells #[.int .u8 (xk : Nat),.int .u8 (xa : Nat),.int .i64 xb,.int .i64 xd,.slice xA xi.length xc] 58)) wx ∧ ∀ (j : Nat) (z : Int) (m : Nd),j < p → xi[j]? = some z → (nds l)[z.toNat]? = some m → E = m.d) (fun i _ => xi.length - (intOf i).toNat)
               case atStart => exact ⟨0,by omega,rfl,Below.refl _ _,fun j z m h => absurd h (by omega)⟩
               case round =>
                obtain ⟨p,hp,rfl,hb,hall⟩:=hrel
                have HA:=Hd hall;have HBX:=Hd hb;clear hall hb
                have d3 : wr.cell? ⟨w.heap.size,3,none⟩ = some (.int .i64 xd):=(HR.out.below HBX.out HR.out.lt).cell 3
                have d4 : wr.cell? ⟨w.heap.size,4,none⟩ = some (.slice xA xi.length xc):=(HR.out.below HBX.out HR.out.lt).cell 4
                have HBW:=Hd (HB.out.trans (HBX.out.mono (by simp)))
                by_cases hlp : p < xi.length
                · have hpz : (p : Int) < (xi.length : Int):=by omega
                  obtain ⟨z,hz⟩ : ∃ z,xi[p]? = some z:=⟨_,List.getElem?_eq_getElem hlp⟩
                  obtain ⟨hz0,m,hm,_⟩:=HP.out z (List.mem_of_getElem? hz)
                  obtain ⟨Z,rfl⟩ : ∃ Z : Nat,z = (Z : Int):=Int.eq_ofNat_of_zero_le hz0
                  rw [Int.toNat_natCast] at hm
                  obtain ⟨y,hy,rfl⟩ : ∃ y,l[Z]? = some y ∧ y.nd = m:=by
                   unfold nds at hm
                   rw [List.getElem?_map,Option.map_eq_some_iff] at hm
                   exact hm
                  have hZl : Z < l.length:=(List.getElem?_eq_some_iff.1 hy).1
                  have hZz : (Z : Int) < (l.length : Int):=by omega
                  obtain ⟨bb,oo,rfl,hbb,hq⟩:=ints_at HT.out hz
                  obtain ⟨b,o,rfl,hbl,hcl⟩:=HG.out.at_ hy
                  have q:=hq wr HBW.out
                  obtain ⟨_,_,_,c3,_⟩:=hcl wr HBW.out
                  have HZ:=Hd hz;have HM2:=Hd hm;clear hz hq hy hcl hm
                  generalize hYd : y.nd.d = yd at *
                  have HYD:=Hd hYd;clear hYd
                  by_cases hey : E = yd
                  · subst hey
                    go_wp2_with fail
                    go_region
                    go_wp2_with fail
                    go_roundw
                    case rel =>
                     refine ⟨p + 1,by omega,by simp,HBX.out.drew,fun j z m hj hz hm => ?_⟩
                     by_cases e : j = p
                     · subst e
                       rw [HZ.out] at hz;injection hz with hz;subst hz
                       rw [Int.toNat_natCast,HM2.out] at hm;injection hm with hm
                       rw [← hm];exact HYD.out.symm
                     · exact HA.out j z m (by omega) hz hm
                    case measure => simp only [intOf];omega
                  · have heyz : (E != yd) = true:=by simpa using hey
                    have HN:=Hd (deepG_in (g:=nds l) (n:=n) (by rw [HN0.out];exact HZ.out) (by rw [Int.toNat_natCast];exact HM2.out) (by rw [HM.out,HN0.out,HYD.out];show xd - _ ≠ yd;rw [HE.out];exact hey))
                    clear hey
                    go_wp2_with fail
                    go_region
                    go_wp2_with fail
                    go_ret
                    exact ⟨retb HN.out,HBW.out.drew⟩
                · have hpz : ¬ (p : Int) < (xi.length : Int):=by omega
                  have HN:=Hd (deepG_yes (g:=nds l) (n:=n) HD.out fun z hz m hm => by
                   rw [HN0.out] at hz
                   simp only at hz
                   obtain ⟨j,hj⟩:=List.getElem?_of_mem hz
                   rw [HM.out,HN0.out]
                   show xd - _ = m.d
                   rw [HE.out]
                   exact HA.out j z m (by have:=(List.getElem?_eq_some_iff.1 hj).1;omega) hj hm)
                  go_wp2_with fail
                  go_ret
                  exact ⟨retb HN.out,HBW.out⟩
end

section
noncomputable def portsB (g : List Nd) (n : Nd) : Bool:=@decide (n.Ports g) (Classical.propDecidable _)
theorem portsB_iff {g : List Nd} {n : Nd} : portsB g n = true ↔ n.Ports g:=by unfold portsB;exact @decide_eq_true_iff _ (Classical.propDecidable _)
theorem portsB_no {g : List Nd} {n : Nd} (h : ¬ n.Ports g) : false = portsB g n:=by
 cases e : portsB g n with
 | true => exact absurd (portsB_iff.1 e) h
 | false => rfl
theorem ports_no {g : List Nd} {n : Nd} {p : Nat} {z : Int} (hz : n.ins[p]? = some z) (h : ¬ portOk g z) : false = portsB g n:=portsB_no fun hh => h (hh.1 z (List.mem_of_getElem? hz))
theorem ports_len {g : List Nd} {n : Nd} (h : n.ins.length ≠ n.want) : false = portsB g n:=portsB_no fun hh => h hh.2
theorem ports_yes {g : List Nd} {n : Nd} (h : ∀ z ∈ n.ins,portOk g z) (h2 : n.ins.length = n.want) : true = portsB g n:=(portsB_iff.2 ⟨h,h2⟩).symm
set_option maxHeartbeats 8000000 in
theorem refPorts_any (A : Option Addr) (l : List Gn) (c : Nat) (xk xa : Nat) (xb xd : Int) (xi : List Int) (xA : Option Addr) (xc : Nat) (w : World) (hG : Gr w A l) (hl : l.length ≤ maxLen) (hT : Rw.Ts kindI w xA xi) (hx : xi.length ≤ maxLen) :
 Calls Tryz.prog 136 #[.slice A l.length c,.agg #[.int .u8 (xk : Nat),.int .u8 (xa : Nat),.int .i64 xb,.int .i64 xd,.slice xA xi.length xc]] w fun e w' => e = .returned (.bool (portsB (nds l) ⟨xk,xa,xb,xd,xi⟩)) ∧ Below w.heap.size w w':=by
 unfold maxLen at hl hx
 have HB:=Hd ((Below.refl _ w).alloc (Nat.le_refl _) (.cells #[.int .u8 (xk : Nat),.int .u8 (xa : Nat),.int .i64 xb,.int .i64 xd,.slice xA xi.length xc] 58))
 have HG:=Hd hG;have HT:=Hd hT;clear hG hT
 obtain ⟨n,hn⟩ : ∃ n : Nd,n = ⟨xk,xa,xb,xd,xi⟩:=⟨_,rfl⟩
 rw [← hn]
 have HN0:=Hd hn;clear hn
 by_cases k1 : xk = 1
 · subst k1
   have HW:=Hd (show 0 = Nd.want n by rw [HN0.out];rfl)
   go_enter Tryz.func136,Tryz.ntmps136
   go_wp2_with fail
   go_loop [6] (fun i => ∃ p : Nat,p ≤ xi.length ∧ i = .int .i64 p ∧ ∀ (j : Nat) (z : Int),j < p → xi[j]? = some z → portOk (nds l) z) (fun i => xi.length - (intOf i).toNat)
   case atStart => exact ⟨0,by omega,rfl,fun j z h => absurd h (by omega)⟩
   case round =>
    obtain ⟨p,hp,rfl,hall⟩:=hrel
    have HA:=Hd hall;clear hall
    by_cases hlp : p < xi.length
    · have hpz : (p : Int) < (xi.length : Int):=by omega
      obtain ⟨z,hz⟩ : ∃ z,xi[p]? = some z:=⟨_,List.getElem?_eq_getElem hlp⟩
      obtain ⟨bb,oo,rfl,hbb,hq⟩:=ints_at HT.out hz
      have q:=hq _ HB.out
      have q0:=hq w (Below.refl _ _)
      have hbs : bb ≠ w.heap.size:=by omega
      have HZ:=Hd hz;clear hz hq
      by_cases h0 : z < 0
      · have HN:=Hd (ports_no (g:=nds l) (n:=n) (by rw [HN0.out];exact HZ.out) fun h => by have:=h.1;omega)
        go_wp2_with fail
        go_ret
        exact ⟨retb HN.out,HB.out⟩
      · by_cases h1 : (l.length : Int) ≤ z
        · have HN:=Hd (ports_no (g:=nds l) (n:=n) (by rw [HN0.out];exact HZ.out) fun h => by
           obtain ⟨_,m,hm,_⟩:=h
           have:=(List.getElem?_eq_some_iff.1 hm).1
           rw [nds_len] at this;omega)
          go_wp2_with fail
          go_ret
          exact ⟨retb HN.out,HB.out⟩
        · obtain ⟨Z,rfl⟩ : ∃ Z : Nat,z = (Z : Int):=Int.eq_ofNat_of_zero_le (by omega)
          have hZl : Z < l.length:=by omega
          have hZz : (Z : Int) < (l.length : Int):=by omega
          obtain ⟨y,hy⟩ : ∃ y,l[Z]? = some y:=⟨_,List.getElem?_eq_getElem hZl⟩
          have hyn : (nds l)[Z]? = some y.nd:=by unfold nds;rw [List.getElem?_map,hy];rfl
          obtain ⟨b,o,rfl,hbl,hcl⟩:=HG.out.at_ hy
          obtain ⟨c0,_,_,_,_⟩:=hcl _ HB.out
          obtain ⟨e0,_,_,_,_⟩:=hcl w (Below.refl _ _)
          have hbg : b ≠ w.heap.size:=by omega
          have HY:=Hd hyn;clear hy hcl hyn
          by_cases h2 : y.nd.k = 10
          · have h2z : (((y.nd.k : Nat) : Int) == 10) = true:=by simp;omega
            have HN:=Hd (ports_no (g:=nds l) (n:=n) (by rw [HN0.out];exact HZ.out) fun h => by
             obtain ⟨_,m,hm,hk⟩:=h
             rw [Int.toNat_natCast,HY.out] at hm
             injection hm with hm
             exact hk (by rw [← hm];exact h2))
            clear h2
            go_wp2_with fail
            go_ret
            exact ⟨retb HN.out,HB.out⟩
          · have h2z : (((y.nd.k : Nat) : Int) == 10) = false:=by simp;omega
            have H2:=Hd h2;clear h2
            go_wp2_with fail
            go_round
            case rel =>
             refine ⟨p + 1,by omega,by simp,fun j z hj hz => ?_⟩
             by_cases e : j = p
             · subst e
               rw [HZ.out] at hz;injection hz with hz;subst hz
               exact ⟨by omega,y.nd,by rw [Int.toNat_natCast];exact HY.out,H2.out⟩
             · exact HA.out j z (by omega) hz
            case measure => simp only [intOf];omega
    · have hpz : ¬ (p : Int) < (xi.length : Int):=by omega
      have HALL : Hid (∀ z ∈ xi,portOk (nds l) z):=Hd fun z hz => by
       obtain ⟨j,hj⟩:=List.getElem?_of_mem hz
       exact HA.out j z (by have:=(List.getElem?_eq_some_iff.1 hj).1;omega) hj
      by_cases hw : xi.length = 0
      · have hwz : ((xi.length : Int) == 0) = true:=by rw [show (xi.length : Int) = 0 by omega];rfl
        have HN:=Hd (ports_yes (n:=n) (by rw [HN0.out];exact HALL.out) (by rw [← HW.out,HN0.out];exact hw))
        clear hw
        go_wp2_with fail
        go_ret
        exact ⟨retb HN.out,HB.out⟩
      · have hwz : ((xi.length : Int) == 0) = false:=by rw [beq_eq_false_iff_ne];omega
        have HN:=Hd (ports_len (g:=nds l) (n:=n) (by rw [← HW.out,HN0.out];exact hw))
        clear hw
        go_wp2_with fail
        go_ret
        exact ⟨retb HN.out,HB.out⟩
 · have k1z : (((xk : Nat) : Int) == 1) = false:=by simp;omega
   by_cases k4 : xk = 4
   · subst k4
     have HW:=Hd (show 2 = Nd.want n by rw [HN0.out];rfl)
     go_enter Tryz.func136,Tryz.ntmps136
     go_wp2_with fail
     go_loop [6] (fun i => ∃ p : Nat,p ≤ xi.length ∧ i = .int .i64 p ∧ ∀ (j : Nat) (z : Int),j < p → xi[j]? = some z → portOk (nds l) z) (fun i => xi.length - (intOf i).toNat)
     case atStart => exact ⟨0,by omega,rfl,fun j z h => absurd h (by omega)⟩
     case round =>
      obtain ⟨p,hp,rfl,hall⟩:=hrel
      have HA:=Hd hall;clear hall
      by_cases hlp : p < xi.length
      · have hpz : (p : Int) < (xi.length : Int):=by omega
        obtain ⟨z,hz⟩ : ∃ z,xi[p]? = some z:=⟨_,List.getElem?_eq_getElem hlp⟩
        obtain ⟨bb,oo,rfl,hbb,hq⟩:=ints_at HT.out hz
        have q:=hq _ HB.out
        have q0:=hq w (Below.refl _ _)
        have hbs : bb ≠ w.heap.size:=by omega
        have HZ:=Hd hz;clear hz hq
        by_cases h0 : z < 0
        · have HN:=Hd (ports_no (g:=nds l) (n:=n) (by rw [HN0.out];exact HZ.out) fun h => by have:=h.1;omega)
          go_wp2_with fail
          go_ret
          exact ⟨retb HN.out,HB.out⟩
        · by_cases h1 : (l.length : Int) ≤ z
          · have HN:=Hd (ports_no (g:=nds l) (n:=n) (by rw [HN0.out];exact HZ.out) fun h => by
             obtain ⟨_,m,hm,_⟩:=h
             have:=(List.getElem?_eq_some_iff.1 hm).1
             rw [nds_len] at this;omega)
            go_wp2_with fail
            go_ret
            exact ⟨retb HN.out,HB.out⟩
          · obtain ⟨Z,rfl⟩ : ∃ Z : Nat,z = (Z : Int):=Int.eq_ofNat_of_zero_le (by omega)
            have hZl : Z < l.length:=by omega
            have hZz : (Z : Int) < (l.length : Int):=by omega
            obtain ⟨y,hy⟩ : ∃ y,l[Z]? = some y:=⟨_,List.getElem?_eq_getElem hZl⟩
            have hyn : (nds l)[Z]? = some y.nd:=by unfold nds;rw [List.getElem?_map,hy];rfl
            obtain ⟨b,o,rfl,hbl,hcl⟩:=HG.out.at_ hy
            obtain ⟨c0,_,_,_,_⟩:=hcl _ HB.out
            obtain ⟨e0,_,_,_,_⟩:=hcl w (Below.refl _ _)
            have hbg : b ≠ w.heap.size:=by omega
            have HY:=Hd hyn;clear hy hcl hyn
            by_cases h2 : y.nd.k = 10
            · have h2z : (((y.nd.k : Nat) : Int) == 10) = true:=by simp;omega
              have HN:=Hd (ports_no (g:=nds l) (n:=n) (by rw [HN0.out];exact HZ.out) fun h => by
               obtain ⟨_,m,hm,hk⟩:=h
               rw [Int.toNat_natCast,HY.out] at hm
               injection hm with hm
               exact hk (by rw [← hm];exact h2))
              clear h2
              go_wp2_with fail
              go_ret
              exact ⟨retb HN.out,HB.out⟩
            · have h2z : (((y.nd.k : Nat) : Int) == 10) = false:=by simp;omega
              have H2:=Hd h2;clear h2
              go_wp2_with fail
              go_round
              case rel =>
               refine ⟨p + 1,by omega,by simp,fun j z hj hz => ?_⟩
               by_cases e : j = p
               · subst e
                 rw [HZ.out] at hz;injection hz with hz;subst hz
                 exact ⟨by omega,y.nd,by rw [Int.toNat_natCast];exact HY.out,H2.out⟩
               · exact HA.out j z (by omega) hz
              case measure => simp only [intOf];omega
      · have hpz : ¬ (p : Int) < (xi.length : Int):=by omega
        have HALL : Hid (∀ z ∈ xi,portOk (nds l) z):=Hd fun z hz => by
         obtain ⟨j,hj⟩:=List.getElem?_of_mem hz
         exact HA.out j z (by have:=(List.getElem?_eq_some_iff.1 hj).1;omega) hj
        by_cases hw : xi.length = 2
        · have hwz : ((xi.length : Int) == 2) = true:=by rw [show (xi.length : Int) = 2 by omega];rfl
          have HN:=Hd (ports_yes (n:=n) (by rw [HN0.out];exact HALL.out) (by rw [← HW.out,HN0.out];exact hw))
          clear hw
          go_wp2_with fail
          go_ret
          exact ⟨retb HN.out,HB.out⟩
        · have hwz : ((xi.length : Int) == 2) = false:=by rw [beq_eq_false_iff_ne];omega
          have HN:=Hd (ports_len (g:=nds l) (n:=n) (by rw [← HW.out,HN0.out];exact hw))
          clear hw
          go_wp2_with fail
          go_ret
          exact ⟨retb HN.out,HB.out⟩
   · have k4z : (((xk : Nat) : Int) == 4) = false:=by simp;omega
     by_cases k6 : xk = 6
     · subst k6
       have HW:=Hd (show 2 = Nd.want n by rw [HN0.out];rfl)
       go_enter Tryz.func136,Tryz.ntmps136
       go_wp2_with fail
       go_loop [6] (fun i => ∃ p : Nat,p ≤ xi.length ∧ i = .int .i64 p ∧ ∀ (j : Nat) (z : Int),j < p → xi[j]? = some z → portOk (nds l) z) (fun i => xi.length - (intOf i).toNat)
       case atStart => exact ⟨0,by omega,rfl,fun j z h => absurd h (by omega)⟩
       case round =>
        obtain ⟨p,hp,rfl,hall⟩:=hrel
        have HA:=Hd hall;clear hall
        by_cases hlp : p < xi.length
        · have hpz : (p : Int) < (xi.length : Int):=by omega
          obtain ⟨z,hz⟩ : ∃ z,xi[p]? = some z:=⟨_,List.getElem?_eq_getElem hlp⟩
          obtain ⟨bb,oo,rfl,hbb,hq⟩:=ints_at HT.out hz
          have q:=hq _ HB.out
          have q0:=hq w (Below.refl _ _)
          have hbs : bb ≠ w.heap.size:=by omega
          have HZ:=Hd hz;clear hz hq
          by_cases h0 : z < 0
          · have HN:=Hd (ports_no (g:=nds l) (n:=n) (by rw [HN0.out];exact HZ.out) fun h => by have:=h.1;omega)
            go_wp2_with fail
            go_ret
            exact ⟨retb HN.out,HB.out⟩
          · by_cases h1 : (l.length : Int) ≤ z
            · have HN:=Hd (ports_no (g:=nds l) (n:=n) (by rw [HN0.out];exact HZ.out) fun h => by
               obtain ⟨_,m,hm,_⟩:=h
               have:=(List.getElem?_eq_some_iff.1 hm).1
               rw [nds_len] at this;omega)
              go_wp2_with fail
              go_ret
              exact ⟨retb HN.out,HB.out⟩
            · obtain ⟨Z,rfl⟩ : ∃ Z : Nat,z = (Z : Int):=Int.eq_ofNat_of_zero_le (by omega)
              have hZl : Z < l.length:=by omega
              have hZz : (Z : Int) < (l.length : Int):=by omega
              obtain ⟨y,hy⟩ : ∃ y,l[Z]? = some y:=⟨_,List.getElem?_eq_getElem hZl⟩
              have hyn : (nds l)[Z]? = some y.nd:=by unfold nds;rw [List.getElem?_map,hy];rfl
              obtain ⟨b,o,rfl,hbl,hcl⟩:=HG.out.at_ hy
              obtain ⟨c0,_,_,_,_⟩:=hcl _ HB.out
              obtain ⟨e0,_,_,_,_⟩:=hcl w (Below.refl _ _)
              have hbg : b ≠ w.heap.size:=by omega
              have HY:=Hd hyn;clear hy hcl hyn
              by_cases h2 : y.nd.k = 10
              · have h2z : (((y.nd.k : Nat) : Int) == 10) = true:=by simp;omega
                have HN:=Hd (ports_no (g:=nds l) (n:=n) (by rw [HN0.out];exact HZ.out) fun h => by
                 obtain ⟨_,m,hm,hk⟩:=h
                 rw [Int.toNat_natCast,HY.out] at hm
                 injection hm with hm
                 exact hk (by rw [← hm];exact h2))
                clear h2
                go_wp2_with fail
                go_ret
                exact ⟨retb HN.out,HB.out⟩
              · have h2z : (((y.nd.k : Nat) : Int) == 10) = false:=by simp;omega
                have H2:=Hd h2;clear h2
                go_wp2_with fail
                go_round
                case rel =>
                 refine ⟨p + 1,by omega,by simp,fun j z hj hz => ?_⟩
                 by_cases e : j = p
                 · subst e
                   rw [HZ.out] at hz;injection hz with hz;subst hz
                   exact ⟨by omega,y.nd,by rw [Int.toNat_natCast];exact HY.out,H2.out⟩
                 · exact HA.out j z (by omega) hz
                case measure => simp only [intOf];omega
        · have hpz : ¬ (p : Int) < (xi.length : Int):=by omega
          have HALL : Hid (∀ z ∈ xi,portOk (nds l) z):=Hd fun z hz => by
           obtain ⟨j,hj⟩:=List.getElem?_of_mem hz
           exact HA.out j z (by have:=(List.getElem?_eq_some_iff.1 hj).1;omega) hj
          by_cases hw : xi.length = 2
          · have hwz : ((xi.length : Int) == 2) = true:=by rw [show (xi.length : Int) = 2 by omega];rfl
            have HN:=Hd (ports_yes (n:=n) (by rw [HN0.out];exact HALL.out) (by rw [← HW.out,HN0.out];exact hw))
            clear hw
            go_wp2_with fail
            go_ret
            exact ⟨retb HN.out,HB.out⟩
          · have hwz : ((xi.length : Int) == 2) = false:=by rw [beq_eq_false_iff_ne];omega
            have HN:=Hd (ports_len (g:=nds l) (n:=n) (by rw [← HW.out,HN0.out];exact hw))
            clear hw
            go_wp2_with fail
            go_ret
            exact ⟨retb HN.out,HB.out⟩
     · have k6z : (((xk : Nat) : Int) == 6) = false:=by simp;omega
       have HW:=Hd (show 1 = Nd.want n by rw [HN0.out];unfold Nd.want;rw [if_neg k1,if_neg (by simp [k4,k6])])
       go_enter Tryz.func136,Tryz.ntmps136
       go_wp2_with fail
       go_loop [6] (fun i => ∃ p : Nat,p ≤ xi.length ∧ i = .int .i64 p ∧ ∀ (j : Nat) (z : Int),j < p → xi[j]? = some z → portOk (nds l) z) (fun i => xi.length - (intOf i).toNat)
       case atStart => exact ⟨0,by omega,rfl,fun j z h => absurd h (by omega)⟩
       case round =>
        obtain ⟨p,hp,rfl,hall⟩:=hrel
        have HA:=Hd hall;clear hall
        by_cases hlp : p < xi.length
        · have hpz : (p : Int) < (xi.length : Int):=by omega
          obtain ⟨z,hz⟩ : ∃ z,xi[p]? = some z:=⟨_,List.getElem?_eq_getElem hlp⟩
          obtain ⟨bb,oo,rfl,hbb,hq⟩:=ints_at HT.out hz
          have q:=hq _ HB.out
          have q0:=hq w (Below.refl _ _)
          have hbs : bb ≠ w.heap.size:=by omega
          have HZ:=Hd hz;clear hz hq
          by_cases h0 : z < 0
          · have HN:=Hd (ports_no (g:=nds l) (n:=n) (by rw [HN0.out];exact HZ.out) fun h => by have:=h.1;omega)
            go_wp2_with fail
            go_ret
            exact ⟨retb HN.out,HB.out⟩
          · by_cases h1 : (l.length : Int) ≤ z
            · have HN:=Hd (ports_no (g:=nds l) (n:=n) (by rw [HN0.out];exact HZ.out) fun h => by
               obtain ⟨_,m,hm,_⟩:=h
               have:=(List.getElem?_eq_some_iff.1 hm).1
               rw [nds_len] at this;omega)
              go_wp2_with fail
              go_ret
              exact ⟨retb HN.out,HB.out⟩
            · obtain ⟨Z,rfl⟩ : ∃ Z : Nat,z = (Z : Int):=Int.eq_ofNat_of_zero_le (by omega)
              have hZl : Z < l.length:=by omega
              have hZz : (Z : Int) < (l.length : Int):=by omega
              obtain ⟨y,hy⟩ : ∃ y,l[Z]? = some y:=⟨_,List.getElem?_eq_getElem hZl⟩
              have hyn : (nds l)[Z]? = some y.nd:=by unfold nds;rw [List.getElem?_map,hy];rfl
              obtain ⟨b,o,rfl,hbl,hcl⟩:=HG.out.at_ hy
              obtain ⟨c0,_,_,_,_⟩:=hcl _ HB.out
              obtain ⟨e0,_,_,_,_⟩:=hcl w (Below.refl _ _)
              have hbg : b ≠ w.heap.size:=by omega
              have HY:=Hd hyn;clear hy hcl hyn
              by_cases h2 : y.nd.k = 10
              · have h2z : (((y.nd.k : Nat) : Int) == 10) = true:=by simp;omega
                have HN:=Hd (ports_no (g:=nds l) (n:=n) (by rw [HN0.out];exact HZ.out) fun h => by
                 obtain ⟨_,m,hm,hk⟩:=h
                 rw [Int.toNat_natCast,HY.out] at hm
                 injection hm with hm
                 exact hk (by rw [← hm];exact h2))
                clear h2
                go_wp2_with fail
                go_ret
                exact ⟨retb HN.out,HB.out⟩
              · have h2z : (((y.nd.k : Nat) : Int) == 10) = false:=by simp;omega
                have H2:=Hd h2;clear h2
                go_wp2_with fail
                go_round
                case rel =>
                 refine ⟨p + 1,by omega,by simp,fun j z hj hz => ?_⟩
                 by_cases e : j = p
                 · subst e
                   rw [HZ.out] at hz;injection hz with hz;subst hz
                   exact ⟨by omega,y.nd,by rw [Int.toNat_natCast];exact HY.out,H2.out⟩
                 · exact HA.out j z (by omega) hz
                case measure => simp only [intOf];omega
        · have hpz : ¬ (p : Int) < (xi.length : Int):=by omega
          have HALL : Hid (∀ z ∈ xi,portOk (nds l) z):=Hd fun z hz => by
           obtain ⟨j,hj⟩:=List.getElem?_of_mem hz
           exact HA.out j z (by have:=(List.getElem?_eq_some_iff.1 hj).1;omega) hj
          by_cases hw : xi.length = 1
          · have hwz : ((xi.length : Int) == 1) = true:=by rw [show (xi.length : Int) = 1 by omega];rfl
            have HN:=Hd (ports_yes (n:=n) (by rw [HN0.out];exact HALL.out) (by rw [← HW.out,HN0.out];exact hw))
            clear hw
            go_wp2_with fail
            go_ret
            exact ⟨retb HN.out,HB.out⟩
          · have hwz : ((xi.length : Int) == 1) = false:=by rw [beq_eq_false_iff_ne];omega
            have HN:=Hd (ports_len (g:=nds l) (n:=n) (by rw [← HW.out,HN0.out];exact hw))
            clear hw
            go_wp2_with fail
            go_ret
            exact ⟨retb HN.out,HB.out⟩
end

section
def upB (n m : Int) : Bool:=decide (0 ≤ n ∧ n ≤ m)
theorem upB_yes {n m : Int} (h : 0 ≤ n ∧ n ≤ m) : true = upB n m:=by unfold upB;rw [decide_eq_true h]
theorem upB_no {n m : Int} (h : ¬ (0 ≤ n ∧ n ≤ m)) : false = upB n m:=by unfold upB;rw [decide_eq_false h]
theorem upTo_any (n m : Int) (w : World) : Calls Tryz.prog 214 #[.int .i64 n,.int .i64 m] w fun e w' => e = .returned (.bool (upB n m)) ∧ w = w':=by
 by_cases h0 : 0 ≤ n
 · by_cases h1 : n ≤ m
   · have HY:=Hd (upB_yes ⟨h0,h1⟩)
     go_enter Tryz.func214,Tryz.ntmps214
     go_wp2_with fail
     go_ret
     exact ⟨retb HY.out,rfl⟩
   · have HY:=Hd (upB_no fun h => h1 h.2)
     go_enter Tryz.func214,Tryz.ntmps214
     go_wp2_with fail
     go_ret
     exact ⟨retb HY.out,rfl⟩
 · have HY:=Hd (upB_no (m:=m) fun h => h0 h.1)
   go_enter Tryz.func214,Tryz.ntmps214
   go_wp2_with fail
   go_ret
   exact ⟨retb HY.out,rfl⟩
theorem wrongIn_any (n : Int) (w : World) : Calls Tryz.prog 215 #[.int .i64 n] w fun e w' => e = .returned (.bool (!upB n 31)) ∧ w = w':=by
 have h:=upTo_any n 31 w
 generalize upB n 31 = v at *
 have H:=Hd h;clear h
 go_enter Tryz.func215,Tryz.ntmps215
 go_wp2_with fail
 refine H.out.mono ?_;rintro e w1 ⟨rfl,rfl⟩
 go_wp2_with fail
 go_ret
 exact ⟨rfl,rfl⟩
theorem anyI_false {p : Int → Bool} {ts : List Int} (h : ∀ (j : Nat) (t : Int),ts[j]? = some t → p t = false) : false = ts.any p:=by
 rw [eq_comm,List.any_eq_false]
 intro t ht
 obtain ⟨j,hj⟩:=List.getElem?_of_mem ht
 rw [h j t hj];simp
theorem anyI_true {p : Int → Bool} {ts : List Int} {k : Nat} {t : Int} (h : ts[k]? = some t) (hp : p t = true) : true = ts.any p:=by
 rw [eq_comm,List.any_eq_true];exact ⟨t,List.mem_of_getElem? h,hp⟩
def IdxD (b : Bool) (w : World) (e : Ending) (w' : World) : Prop:=(∃ i : Int,e = .returned (.int .i64 i) ∧ decide (0 ≤ i) = b) ∧ Below w.heap.size w w'
set_option maxHeartbeats 2000000 in
theorem indexIn_any (A : Option Addr) (xs : List Int) (c : Nat) (w : World) (hA : Rw.Ts kindI w A xs) (h1 : xs.length ≤ maxLen) :
 Calls Tryz.prog 216 #[.slice A xs.length c,.func (.func 215) #[] #[]] w (IdxD (xs.any fun z => !upB z 31) w):=by
 have eg : ∀ args w,(callFunc 215 args).run Tryz.prog w = .ok (.enter 215 args) w:=enters_of Tryz.func215 (by kernel_rfl) rfl
 unfold maxLen at h1
 have HA:=Hd hA;clear hA
 go_enter Tryz.func216,Tryz.ntmps216
 go_wp2_with fail
 go_loopw [8] (fun i wr => ∃ k : Nat,k ≤ xs.length ∧ i = .int .i64 k ∧ Below w.heap.size w wr ∧ ∀ (j : Nat) (t : Int),j < k → xs[j]? = some t → (!upB t 31) = false) (fun i _ => xs.length - (intOf i).toNat)
 case atStart => exact ⟨0,by omega,rfl,Below.refl _ _,fun j t h => absurd h (by omega)⟩
 case round =>
  obtain ⟨k,hk,rfl,hb,hno⟩:=hrel
  have HB:=Hd hb;have HNO:=Hd hno;clear hb hno
  by_cases hlt : k < xs.length
  · have hltz : (k : Int) < (xs.length : Int):=by omega
    obtain ⟨t,ht⟩ : ∃ t,xs[k]? = some t:=⟨_,List.getElem?_eq_getElem hlt⟩
    obtain ⟨b,o,rfl,hbl,hld⟩:=ints_at HA.out ht
    have c0:=hld _ HB.out
    have hcall:=wrongIn_any t wr
    have HT:=Hd ht;clear ht hld
    cases hq : (!upB t 31) with
    | true =>
      rw [hq] at hcall
      have HQ:=Hd hq;have HC:=Hd hcall;clear hq hcall
      go_wp2_with fail
      refine HC.out.mono ?_;rintro e w1 ⟨rfl,rfl⟩
      go_wp2_with fail
      go_ret
      exact ⟨⟨k,rfl,by rw [decide_eq_true (by omega)];exact anyI_true (p:=fun z => !upB z 31) HT.out HQ.out⟩,HB.out⟩
    | false =>
      rw [hq] at hcall
      have HQ:=Hd hq;have HC:=Hd hcall;clear hq hcall
      go_wp2_with fail
      refine HC.out.mono ?_;rintro e w1 ⟨rfl,rfl⟩
      go_wp2_with fail
      go_roundw
      case rel =>
       refine ⟨k + 1,by omega,by simp,HB.out,fun j t' hj ht' => ?_⟩
       by_cases e : j = k
       · subst e
         rw [HT.out] at ht';cases ht'
         exact HQ.out
       · exact HNO.out j t' (by omega) ht'
      case measure => simp only [intOf];omega
  · have hltz : ¬ (k : Int) < (xs.length : Int):=by omega
    go_wp2_with fail
    go_ret
    exact ⟨⟨-1,rfl,by rw [decide_eq_false (by omega)];exact anyI_false (p:=fun z => !upB z 31) fun j t ht => HNO.out j t (by have:=(List.getElem?_eq_some_iff.1 ht).1;omega) ht⟩,HB.out⟩
theorem containsIn_any (A : Option Addr) (xs : List Int) (c : Nat) (w : World) (hA : Rw.Ts kindI w A xs) (h1 : xs.length ≤ maxLen) :
 Calls Tryz.prog 194 #[.slice A xs.length c,.func (.func 215) #[] #[]] w fun e w' => e = .returned (.bool (xs.any fun z => !upB z 31)) ∧ Below w.heap.size w w':=by
 have H:=Hd (indexIn_any A xs c w hA h1);clear hA
 generalize (xs.any fun z => !upB z 31) = v at *
 go_enter Tryz.func194,Tryz.ntmps194
 go_wp2_with fail
 refine H.out.mono ?_;rintro e w1 ⟨⟨i,rfl,hi⟩,hb1⟩
 have HI:=Hd hi;have HB1:=Hd hb1;clear hi hb1
 go_wp2_with fail
 go_ret
 exact ⟨retb HI.out,HB1.out⟩
def mayD (n : Nd) : Bool:=upB n.d 3 && decide (n.ins.length ≤ 2) && !(n.ins.any fun z => !upB z 31)
theorem mayD_iff {n : Nd} : mayD n = true ↔ n.May:=by
 unfold mayD Nd.May upB
 simp only [Bool.and_eq_true,decide_eq_true_eq,Bool.not_eq_true',List.any_eq_false,decide_eq_false_iff_not,Decidable.not_not]
 exact ⟨fun h => ⟨h.1.1,h.1.2,h.2⟩,fun h => ⟨⟨h.1,h.2.1⟩,h.2.2⟩⟩
set_option maxHeartbeats 4000000 in
theorem rightNode_any (xk xa : Nat) (xb xd : Int) (xi : List Int) (xA : Option Addr) (xc : Nat) (w : World) (hx : Rw.Ts kindI w xA xi) (lx : xi.length ≤ maxLen) :
 Calls Tryz.prog 191 #[.agg #[.int .u8 (xk : Nat),.int .u8 (xa : Nat),.int .i64 xb,.int .i64 xd,.slice xA xi.length xc]] w fun e w' => e = .returned (.bool (mayD ⟨xk,xa,xb,xd,xi⟩)) ∧ Below w.heap.size w w':=by
 have hb1:=(Below.refl _ w).alloc (Nat.le_refl _) (.cells #[.int .u8 (xk : Nat),.int .u8 (xa : Nat),.int .i64 xb,.int .i64 xd,.slice xA xi.length xc] 58)
 have hcall:=containsIn_any xA xi xc _ (hx.below hb1) lx
 have hup:=upTo_any xd 3 (w.alloc (.cells #[.int .u8 (xk : Nat),.int .u8 (xa : Nat),.int .i64 xb,.int .i64 xd,.slice xA xi.length xc] 58))
 have hm : mayD ⟨xk,xa,xb,xd,xi⟩ = (upB xd 3 && decide (xi.length ≤ 2) && !(xi.any fun z => !upB z 31)):=rfl
 rw [hm]
 generalize (xi.any fun z => !upB z 31) = v at *
 have HB:=Hd hb1;have HC:=Hd hcall;clear hb1 hcall hx lx hm
 cases hq : upB xd 3 with
 | false =>
   rw [hq] at hup
   have HU:=Hd hup;clear hup hq
   rw [Bool.false_and,Bool.false_and]
   go_enter Tryz.func191,Tryz.ntmps191
   go_wp2_with fail
   refine HU.out.mono ?_;rintro e w1 ⟨rfl,rfl⟩
   dsimp only
   go_wp2_with fail
   go_ret
   exact ⟨rfl,HB.out⟩
 | true =>
   rw [hq] at hup
   have HU:=Hd hup;clear hup hq
   rw [Bool.true_and]
   by_cases h2 : xi.length ≤ 2
   · rw [decide_eq_true h2,Bool.true_and]
     have h2z : (xi.length : Int) ≤ 2:=by omega
     go_enter Tryz.func191,Tryz.ntmps191
     go_wp2_with fail
     refine HU.out.mono ?_;rintro e w1 ⟨rfl,rfl⟩
     dsimp only
     go_wp2_with fail
     refine HC.out.mono ?_;rintro e w1 ⟨rfl,hb1⟩
     have HB1:=Hd (HB.out.trans (hb1.mono HB.out.size));clear hb1
     dsimp only
     go_wp2_with fail
     go_ret
     exact ⟨rfl,HB1.out⟩
   · rw [decide_eq_false h2,Bool.false_and]
     have h2z : ¬ (xi.length : Int) ≤ 2:=by omega
     go_enter Tryz.func191,Tryz.ntmps191
     go_wp2_with fail
     refine HU.out.mono ?_;rintro e w1 ⟨rfl,rfl⟩
     dsimp only
     go_wp2_with fail
     go_ret
     exact ⟨rfl,HB.out⟩
theorem wrongNode_any (xk xa : Nat) (xb xd : Int) (xi : List Int) (xA : Option Addr) (xc : Nat) (w : World) (hx : Rw.Ts kindI w xA xi) (lx : xi.length ≤ maxLen) :
 Calls Tryz.prog 190 #[.agg #[.int .u8 (xk : Nat),.int .u8 (xa : Nat),.int .i64 xb,.int .i64 xd,.slice xA xi.length xc]] w fun e w' => e = .returned (.bool (!mayD ⟨xk,xa,xb,xd,xi⟩)) ∧ Below w.heap.size w w':=by
 have hb1:=(Below.refl _ w).alloc (Nat.le_refl _) (.cells #[.int .u8 (xk : Nat),.int .u8 (xa : Nat),.int .i64 xb,.int .i64 xd,.slice xA xi.length xc] 58)
 have hcall:=rightNode_any xk xa xb xd xi xA xc _ (hx.below hb1) lx
 generalize mayD ⟨xk,xa,xb,xd,xi⟩ = v at *
 have HB:=Hd hb1;have HC:=Hd hcall;clear hb1 hcall hx lx
 go_enter Tryz.func190,Tryz.ntmps190
 go_wp2_with fail
 refine HC.out.mono ?_;rintro e w1 ⟨rfl,hb1⟩
 have HB1:=Hd (HB.out.trans (hb1.mono HB.out.size));clear hb1
 go_wp2_with fail
 go_ret
 exact ⟨rfl,HB1.out⟩
set_option maxHeartbeats 4000000 in
theorem indexNode_any (A : Option Addr) (l : List Gn) (c : Nat) (w : World) (hG : Gr w A l) (hl : l.length ≤ maxLen) :
 Calls Tryz.prog 213 #[.slice A l.length c,.func (.func 190) #[] #[]] w (IdxD (l.any fun x => !mayD x.nd) w):=by
 have eg : ∀ args w,(callFunc 190 args).run Tryz.prog w = .ok (.enter 190 args) w:=enters_of Tryz.func190 (by kernel_rfl) rfl
 unfold maxLen at hl
 have HG:=Hd hG;clear hG
 go_enter Tryz.func213,Tryz.ntmps213
 go_wp2_with fail
 go_loopw [8] (fun i wr => ∃ k : Nat,k ≤ l.length ∧ i = .int .i64 k ∧ Below w.heap.size w wr ∧ ∀ (j : Nat) (t : Gn),j < k → l[j]? = some t → (!mayD t.nd) = false) (fun i _ => l.length - (intOf i).toNat)
 case atStart => exact ⟨0,by omega,rfl,Below.refl _ _,fun j t h => absurd h (by omega)⟩
 case round =>
  obtain ⟨k,hk,rfl,hb,hno⟩:=hrel
  have HB:=Hd hb;have HNO:=Hd hno;clear hb hno
  by_cases hlt : k < l.length
  · have hltz : (k : Int) < (l.length : Int):=by omega
    obtain ⟨x,hx⟩ : ∃ x,l[k]? = some x:=⟨_,List.getElem?_eq_getElem hlt⟩
    have lx:=(HG.out.ok hx).c
    have tx:=HG.out.ins hx
    obtain ⟨⟨xk,xa,xb,xd,xi⟩,xA,xc⟩:=x
    obtain ⟨b,o,rfl,hbl,hcl⟩:=HG.out.at_ hx
    obtain ⟨c0,c1,c2,c3,c4⟩:=hcl wr HB.out
    simp only at c0 c1 c2 c3 c4 lx tx
    have hcall:=wrongNode_any xk xa xb xd xi xA xc wr (tx.below HB.out) (Nat.le_trans lx.1 lx.2)
    have HT:=Hd hx;clear hx hcl lx tx
    cases hq : (!mayD ⟨xk,xa,xb,xd,xi⟩) with
    | true =>
      rw [hq] at hcall
      have HQ:=Hd hq;have HC:=Hd hcall;clear hq hcall
      go_wp2_with fail
      refine HC.out.mono ?_;rintro e w1 ⟨rfl,hb1⟩
      have HB1:=Hd (HB.out.trans (hb1.mono HB.out.size));clear hb1 c0 c1 c2 c3 c4
      go_wp2_with fail
      go_ret
      exact ⟨⟨k,rfl,by rw [decide_eq_true (by omega),eq_comm,List.any_eq_true];exact ⟨_,List.mem_of_getElem? HT.out,HQ.out⟩⟩,HB1.out⟩
    | false =>
      rw [hq] at hcall
      have HQ:=Hd hq;have HC:=Hd hcall;clear hq hcall
      go_wp2_with fail
      refine HC.out.mono ?_;rintro e w1 ⟨rfl,hb1⟩
      have HB1:=Hd (HB.out.trans (hb1.mono HB.out.size));clear hb1 c0 c1 c2 c3 c4
      go_wp2_with fail
      go_roundw
      case rel =>
       refine ⟨k + 1,by omega,by simp,HB1.out,fun j t' hj ht' => ?_⟩
       by_cases e : j = k
       · subst e
         rw [HT.out] at ht';cases ht'
         exact HQ.out
       · exact HNO.out j t' (by omega) ht'
      case measure => simp only [intOf];omega
  · have hltz : ¬ (k : Int) < (l.length : Int):=by omega
    go_wp2_with fail
    go_ret
    refine ⟨⟨-1,rfl,?_⟩,HB.out⟩
    rw [decide_eq_false (by omega),eq_comm,List.any_eq_false]
    intro t ht
    obtain ⟨j,hj⟩:=List.getElem?_of_mem ht
    rw [HNO.out j t (by have:=(List.getElem?_eq_some_iff.1 hj).1;omega) hj];simp
theorem containsNode_any (A : Option Addr) (l : List Gn) (c : Nat) (w : World) (hG : Gr w A l) (hl : l.length ≤ maxLen) :
 Calls Tryz.prog 189 #[.slice A l.length c,.func (.func 190) #[] #[]] w fun e w' => e = .returned (.bool (l.any fun x => !mayD x.nd)) ∧ Below w.heap.size w w':=by
 have H:=Hd (indexNode_any A l c w hG hl);clear hG
 generalize (l.any fun x => !mayD x.nd) = v at *
 go_enter Tryz.func189,Tryz.ntmps189
 go_wp2_with fail
 refine H.out.mono ?_;rintro e w1 ⟨⟨i,rfl,hi⟩,hb1⟩
 have HI:=Hd hi;have HB1:=Hd hb1;clear hi hb1
 go_wp2_with fail
 go_ret
 exact ⟨retb HI.out,HB1.out⟩
noncomputable def rightB (g : List Nd) : Bool:=@decide (∀ n ∈ g,n.May) (Classical.propDecidable _)
theorem rightB_iff {g : List Nd} : rightB g = true ↔ ∀ n ∈ g,n.May:=by unfold rightB;exact @decide_eq_true_iff _ (Classical.propDecidable _)
theorem rightB_any {l : List Gn} : (!(l.any fun x => !mayD x.nd)) = rightB (nds l):=by
 rw [Bool.eq_iff_iff,rightB_iff,Bool.not_eq_true',List.any_eq_false]
 constructor
 · intro h n hn
   obtain ⟨x,hx,rfl⟩:=List.mem_map.1 hn
   have:=h x hx
   exact mayD_iff.1 (by simpa using this)
 · intro h x hx
   have:=mayD_iff.2 (h x.nd (List.mem_map.2 ⟨x,hx,rfl⟩))
   simpa using this
theorem rightNodes_any (A : Option Addr) (l : List Gn) (c : Nat) (w : World) (hG : Gr w A l) (hl : l.length ≤ maxLen) :
 Calls Tryz.prog 160 #[.slice A l.length c] w fun e w' => e = .returned (.bool (rightB (nds l))) ∧ Below w.heap.size w w':=by
 rw [← rightB_any]
 have H:=Hd (containsNode_any A l c w hG hl);clear hG
 generalize (l.any fun x => !mayD x.nd) = v at *
 go_enter Tryz.func160,Tryz.ntmps160
 go_wp2_with fail
 refine H.out.mono ?_;rintro e w1 ⟨rfl,hb1⟩
 have HB1:=Hd hb1;clear hb1
 go_wp2_with fail
 go_ret
 exact ⟨rfl,HB1.out⟩
def lengthB (n : Nat) : Bool:=decide (0 < n ∧ n ≤ 32)
theorem lengthB_yes {n : Nat} (h : 0 < n ∧ n ≤ 32) : true = lengthB n:=by unfold lengthB;rw [decide_eq_true h]
theorem lengthB_no {n : Nat} (h : ¬ (0 < n ∧ n ≤ 32)) : false = lengthB n:=by unfold lengthB;rw [decide_eq_false h]
theorem rightLength_any (A : Option Addr) (n c : Nat) (w : World) (hl : n ≤ maxLen) :
 Calls Tryz.prog 159 #[.slice A n c] w fun e w' => e = .returned (.bool (lengthB n)) ∧ w = w':=by
 unfold maxLen at hl
 by_cases h0 : 0 < n
 · have h0z : (0 : Int) < (n : Int):=by omega
   by_cases h1 : n ≤ 32
   · have h1z : (n : Int) ≤ 32:=by omega
     have HY:=Hd (lengthB_yes ⟨h0,h1⟩)
     go_enter Tryz.func159,Tryz.ntmps159
     go_wp2_with fail
     go_ret
     exact ⟨retb HY.out,rfl⟩
   · have h1z : ¬ (n : Int) ≤ 32:=by omega
     have HY:=Hd (lengthB_no (n:=n) fun h => h1 h.2)
     go_enter Tryz.func159,Tryz.ntmps159
     go_wp2_with fail
     go_ret
     exact ⟨retb HY.out,rfl⟩
 · have h0z : ¬ (0 : Int) < (n : Int):=by omega
   have HY:=Hd (lengthB_no (n:=n) fun h => h0 h.1)
   go_enter Tryz.func159,Tryz.ntmps159
   go_wp2_with fail
   go_ret
   exact ⟨retb HY.out,rfl⟩
end

section
noncomputable def portB (g : List Nd) (z : Int) : Bool:=@decide (portOk g z) (Classical.propDecidable _)
theorem portB_iff {g : List Nd} {z : Int} : portB g z = true ↔ portOk g z:=by unfold portB;exact @decide_eq_true_iff _ (Classical.propDecidable _)
theorem portB_no {g : List Nd} {z : Int} (h : ¬ portOk g z) : true = !portB g z:=by
 cases e : portB g z with
 | true => exact absurd (portB_iff.1 e) h
 | false => rfl
theorem portB_yes {g : List Nd} {z : Int} (h : portOk g z) : false = !portB g z:=by rw [portB_iff.2 h];rfl
set_option maxHeartbeats 4000000 in
theorem wrongPort_any (A : Option Addr) (l : List Gn) (c B : Nat) (z : Int) (w : World) (hG : Gr w A l) (hl : l.length ≤ maxLen) (hB : w.cell? ⟨B,0,none⟩ = some (.slice A l.length c)) :
 Calls Tryz.prog 192 #[.int .i64 z,.pointer (some ⟨B,0,none⟩)] w fun e w' => e = .returned (.bool (!portB (nds l) z)) ∧ w = w':=by
 unfold maxLen at hl
 by_cases h0 : z < 0
 · have HN:=Hd (portB_no (g:=nds l) (z:=z) fun h => by have:=h.1;omega)
   clear hG
   go_enter Tryz.func192,Tryz.ntmps192
   go_wp2_with fail
   go_ret
   exact ⟨retb HN.out,rfl⟩
 · by_cases h1 : (l.length : Int) ≤ z
   · have HN:=Hd (portB_no (g:=nds l) (z:=z) fun h => by
      obtain ⟨_,m,hm,_⟩:=h
      have:=(List.getElem?_eq_some_iff.1 hm).1
      rw [nds_len] at this;omega)
     clear hG
     go_enter Tryz.func192,Tryz.ntmps192
     go_wp2_with fail
     go_ret
     exact ⟨retb HN.out,rfl⟩
   · obtain ⟨Z,rfl⟩ : ∃ Z : Nat,z = (Z : Int):=Int.eq_ofNat_of_zero_le (by omega)
     have hZl : Z < l.length:=by omega
     have hZz : (Z : Int) < (l.length : Int):=by omega
     obtain ⟨y,hy⟩ : ∃ y,l[Z]? = some y:=⟨_,List.getElem?_eq_getElem hZl⟩
     have hyn : (nds l)[Z]? = some y.nd:=by unfold nds;rw [List.getElem?_map,hy];rfl
     obtain ⟨b,o,rfl,hbl,hcl⟩:=hG.at_ hy
     obtain ⟨c0,_,_,_,_⟩:=hcl w (Below.refl _ _)
     have HY:=Hd hyn;clear hy hcl hyn hG
     by_cases h2 : y.nd.k = 10
     · have h2z : (((y.nd.k : Nat) : Int) == 10) = true:=by simp;omega
       have HN:=Hd (portB_no (g:=nds l) (z:=(Z : Int)) fun h => by
        obtain ⟨_,m,hm,hk⟩:=h
        rw [Int.toNat_natCast,HY.out] at hm
        injection hm with hm
        exact hk (by rw [← hm];exact h2))
       clear h2
       go_enter Tryz.func192,Tryz.ntmps192
       go_wp2_with fail
       go_ret
       exact ⟨retb HN.out,rfl⟩
     · have h2z : (((y.nd.k : Nat) : Int) == 10) = false:=by simp;omega
       have HN:=Hd (portB_yes (g:=nds l) (z:=(Z : Int)) ⟨by omega,y.nd,by rw [Int.toNat_natCast];exact HY.out,h2⟩)
       clear h2
       go_enter Tryz.func192,Tryz.ntmps192
       go_wp2_with fail
       go_ret
       exact ⟨retb HN.out,rfl⟩
def IdxPort (b : Bool) (w : World) (e : Ending) (w' : World) : Prop:=(∃ i : Int,e = .returned (.int .i64 i) ∧ decide (0 ≤ i) = b) ∧ w = w'
set_option maxHeartbeats 4000000 in
theorem indexPort_any (A : Option Addr) (l : List Gn) (c B : Nat) (xA : Option Addr) (xs : List Int) (c1 : Nat) (w : World) (hA : Rw.Ts kindI w xA xs) (h1 : xs.length ≤ maxLen) (hG : Gr w A l) (hl : l.length ≤ maxLen) (hB : w.cell? ⟨B,0,none⟩ = some (.slice A l.length c)) :
 Calls Tryz.prog 216 #[.slice xA xs.length c1,.func (.func 192) #[] #[.pointer (some ⟨B,0,none⟩)]] w (IdxPort (xs.any fun z => !portB (nds l) z) w):=by
 have eg : ∀ args w,(callFunc 192 args).run Tryz.prog w = .ok (.enter 192 args) w:=enters_of Tryz.func192 (by kernel_rfl) rfl
 have HC0:=Hd fun (t : Int) (wr : World) (hb : Below w.heap.size w wr) (ht : t ∈ xs) => wrongPort_any A l c B t wr (hG.below hb) hl (cell_below hB hb)
 unfold maxLen at h1
 have HA:=Hd hA;clear hA
 go_enter Tryz.func216,Tryz.ntmps216
 go_wp2_with fail
 go_loop [8] (fun i => ∃ k : Nat,k ≤ xs.length ∧ i = .int .i64 k ∧ ∀ (j : Nat) (t : Int),j < k → xs[j]? = some t → (fun z => !portB (nds l) z) t = false) (fun i => xs.length - (intOf i).toNat)
 case atStart => exact ⟨0,by omega,rfl,fun j t h => absurd h (by omega)⟩
 case round =>
  obtain ⟨k,hk,rfl,hno⟩:=hrel
  have HNO:=Hd hno;clear hno
  by_cases hlt : k < xs.length
  · have hltz : (k : Int) < (xs.length : Int):=by omega
    obtain ⟨t,ht⟩ : ∃ t,xs[k]? = some t:=⟨_,List.getElem?_eq_getElem hlt⟩
    obtain ⟨b,o,rfl,hbl,hld⟩:=ints_at HA.out ht
    have c0:=hld _ (Below.refl _ _)
    have hcall:=HC0.out t w (Below.refl _ _) (List.mem_of_getElem? ht)
    have HT:=Hd ht;clear ht hld
    cases hq : (fun z => !portB (nds l) z) t with
    | true =>
      simp only [] at hq hcall
      rw [hq] at hcall
      have HQ:=Hd hq;have HC:=Hd hcall;clear hq hcall
      go_wp2_with fail
      refine HC.out.mono ?_;rintro e w1 ⟨rfl,rfl⟩
      go_wp2_with fail
      go_ret
      exact ⟨⟨k,rfl,by rw [decide_eq_true (by omega)];exact anyI_true (p:=fun z => !portB (nds l) z) HT.out HQ.out⟩,rfl⟩
    | false =>
      simp only [] at hq hcall
      rw [hq] at hcall
      have HQ:=Hd hq;have HC:=Hd hcall;clear hq hcall
      go_wp2_with fail
      refine HC.out.mono ?_;rintro e w1 ⟨rfl,rfl⟩
      go_wp2_with fail
      go_round
      case rel =>
       refine ⟨k + 1,by omega,by simp,fun j t' hj ht' => ?_⟩
       by_cases e : j = k
       · subst e
         rw [HT.out] at ht';cases ht'
         exact HQ.out
       · exact HNO.out j t' (by omega) ht'
      case measure => simp only [intOf];omega
  · have hltz : ¬ (k : Int) < (xs.length : Int):=by omega
    go_wp2_with fail
    go_ret
    exact ⟨⟨-1,rfl,by rw [decide_eq_false (by omega)];exact anyI_false (p:=fun z => !portB (nds l) z) fun j t ht => HNO.out j t (by have:=(List.getElem?_eq_some_iff.1 ht).1;omega) ht⟩,rfl⟩
theorem containsPort_any (A : Option Addr) (l : List Gn) (c B : Nat) (xA : Option Addr) (xs : List Int) (c1 : Nat) (w : World) (hA : Rw.Ts kindI w xA xs) (h1 : xs.length ≤ maxLen) (hG : Gr w A l) (hl : l.length ≤ maxLen) (hB : w.cell? ⟨B,0,none⟩ = some (.slice A l.length c)) :
 Calls Tryz.prog 194 #[.slice xA xs.length c1,.func (.func 192) #[] #[.pointer (some ⟨B,0,none⟩)]] w fun e w' => e = .returned (.bool (xs.any fun z => !portB (nds l) z)) ∧ w = w':=by
 have H:=Hd (indexPort_any A l c B xA xs c1 w hA h1 hG hl hB);clear hA
 generalize (xs.any fun z => !portB (nds l) z) = v at *
 go_enter Tryz.func194,Tryz.ntmps194
 go_wp2_with fail
 refine H.out.mono ?_;rintro e w1 ⟨⟨i,rfl,hi⟩,hb1⟩
 have HI:=Hd hi;have HB1:=Hd hb1;clear hi hb1
 go_wp2_with fail
 go_ret
 exact ⟨retb HI.out,HB1.out⟩
def wantK (k : Nat) : Nat:=if k = 1 then 0 else if k = 4 ∨ k = 6 then 2 else 1
theorem retJ {a b : Int} (h : a = b) : Ending.returned (.int .i64 a) = .returned (.int .i64 b):=by rw [h]
theorem inputs_any (k : Nat) (w : World) : Calls Tryz.prog 193 #[.int .u8 (k : Nat)] w fun e w' => e = .returned (.int .i64 (wantK k : Nat)) ∧ w = w':=by
 by_cases k1 : k = 1
 · subst k1
   go_enter Tryz.func193,Tryz.ntmps193
   go_wp2_with fail
   go_ret
   exact ⟨rfl,rfl⟩
 · have k1z : (((k : Nat) : Int) == 1) = false:=by simp;omega
   by_cases k4 : k = 4
   · subst k4
     go_enter Tryz.func193,Tryz.ntmps193
     go_wp2_with fail
     go_ret
     exact ⟨rfl,rfl⟩
   · have k4z : (((k : Nat) : Int) == 4) = false:=by simp;omega
     by_cases k6 : k = 6
     · subst k6
       go_enter Tryz.func193,Tryz.ntmps193
       go_wp2_with fail
       go_ret
       exact ⟨rfl,rfl⟩
     · have k6z : (((k : Nat) : Int) == 6) = false:=by simp;omega
       have HE:=Hd (show (1 : Int) = (wantK k : Nat) by unfold wantK;rw [if_neg k1,if_neg (by omega)];rfl)
       clear k1 k4 k6
       go_enter Tryz.func193,Tryz.ntmps193
       go_wp2_with fail
       go_ret
       exact ⟨retJ HE.out,rfl⟩
set_option maxHeartbeats 8000000 in
theorem rightPorts_any (A : Option Addr) (l : List Gn) (c : Nat) (xk xa : Nat) (xb xd : Int) (xi : List Int) (xA : Option Addr) (xc : Nat) (w : World) (hG : Gr w A l) (hl : l.length ≤ maxLen) (hT : Rw.Ts kindI w xA xi) (hx : xi.length ≤ maxLen) :
 Calls Tryz.prog 166 #[.slice A l.length c,.agg #[.int .u8 (xk : Nat),.int .u8 (xa : Nat),.int .i64 xb,.int .i64 xd,.slice xA xi.length xc]] w fun e w' => e = .returned (.bool (portsB (nds l) ⟨xk,xa,xb,xd,xi⟩)) ∧ Below w.heap.size w w':=by
 have hb1:=(Below.refl _ w).alloc (Nat.le_refl _) (.cells #[.slice A l.length c] 23)
 have hb2:=hb1.alloc hb1.size (.cells #[.int .u8 (xk : Nat),.int .u8 (xa : Nat),.int .i64 xb,.int .i64 xd,.slice xA xi.length xc] 58)
 obtain ⟨wa,hwa⟩ : ∃ wa,((w.alloc (.cells #[.slice A l.length c] 23)).alloc (.cells #[.int .u8 (xk : Nat),.int .u8 (xa : Nat),.int .i64 xb,.int .i64 xd,.slice xA xi.length xc] 58)) = wa:=⟨_,rfl⟩
 have hcell : wa.cell? ⟨w.heap.size,0,none⟩ = some (.slice A l.length c):=by rw [← hwa];exact old_cell (new_cell rfl)
 rw [hwa] at hb2
 have hc1 : ∀ n,_:=fun n => containsPort_any A l c w.heap.size xA xi xc (wa.drewN n) (hT.below (below_drewN hb2 n)) hx (hG.below (below_drewN hb2 n)) hl (cell_below hcell (below_drewN (Below.refl _ _) n))
 have hc2 : ∀ W,_:=fun W => inputs_any xk W
 rw [← hwa] at hc1 hb2
 have hP : ∀ v,(xi.any fun z => !portB (nds l) z) = v → ((decide (xi.length = wantK xk)) && !v) = portsB (nds l) ⟨xk,xa,xb,xd,xi⟩:=by
  intro v hv
  rw [Bool.eq_iff_iff,portsB_iff,← hv]
  simp only [Bool.and_eq_true,decide_eq_true_eq,Bool.not_eq_true',List.any_eq_false]
  constructor
  · exact fun h => ⟨fun z hz => portB_iff.1 (by simpa using h.2 z hz),h.1⟩
  · exact fun h => ⟨h.2,fun z hz => by simp [portB_iff.2 (h.1 z hz)]⟩
 have HB:=Hd hb2;have HC1:=Hd hc1;have HC2:=Hd hc2
 generalize (xi.any fun z => !portB (nds l) z) = v at *
 have HP:=Hd (hP v rfl)
 clear hb1 hb2 hc1 hc2 hP hG hT hcell hwa wa
 generalize portsB (nds l) ⟨xk,xa,xb,xd,xi⟩ = R at *
 generalize wantK xk = W at *
 unfold maxLen at hx hl
 by_cases h1 : xi.length = W
 · have h1z : ((xi.length : Int) == (W : Int)) = true:=by simp;omega
   have HR : Hid ((!v) = R):=Hd (by have:=HP.out;rw [decide_eq_true h1,Bool.true_and] at this;exact this)
   clear h1 HP
   go_enter Tryz.func166,Tryz.ntmps166
   go_wp2_with fail
   go_quiet (first | (exact Calls.quiet_of_same ((HC2.out _).mono fun _ _ h => ⟨h.1,h.2.symm⟩)) | (exact Calls.quiet_of_same ((HC1.out _).mono fun _ _ h => ⟨h.1,h.2.symm⟩)))
   go_wp2
   go_ret
   exact ⟨retb HR.out,below_drewN HB.out _⟩
 · have h1z : ((xi.length : Int) == (W : Int)) = false:=by rw [beq_eq_false_iff_ne];omega
   have HR : Hid (false = R):=Hd (by have:=HP.out;rw [decide_eq_false h1,Bool.false_and] at this;exact this)
   clear h1 HP
   go_enter Tryz.func166,Tryz.ntmps166
   go_wp2_with fail
   go_quiet (first | (exact Calls.quiet_of_same ((HC2.out _).mono fun _ _ h => ⟨h.1,h.2.symm⟩)) | (exact Calls.quiet_of_same ((HC1.out _).mono fun _ _ h => ⟨h.1,h.2.symm⟩)))
   go_wp2
   go_ret
   exact ⟨retb HR.out,below_drewN HB.out _⟩
end
end Go.Proofs.YtonelpnhoiajgaaGreatDoor
