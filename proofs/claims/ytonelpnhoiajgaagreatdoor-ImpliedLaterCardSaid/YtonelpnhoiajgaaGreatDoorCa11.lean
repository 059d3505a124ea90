import Derived.Test.YtonelpnhoiajgaaGreatDoorHd
import Derived.Test.YtonelpnhoiajgaaGreatDoorCa10
import Derived.Test.YtonelpnhoiajgaaGreatDoorCa4
namespace Go.Proofs.YtonelpnhoiajgaaGreatDoor
set_option linter.unusedSimpArgs false
set_option maxRecDepth 100000
open Go.ChangeShapes Go.WideShapes Go.ChangeAt Go.RowKit Go.BigFrame
set_option linter.unusedVariables false
section
def dAt (g : List Nd) (z : Int) : Int:=(g[z.toNat]?.map Nd.d).getD 0
theorem dAt_is {g : List Nd} {z : Int} {m : Nd} (h : g[z.toNat]? = some m) : dAt g z = m.d:=by unfold dAt;rw [h];rfl
theorem deep_any {g : List Nd} {n : Nd} {F : Int} {b : Bool} (hp : ∀ z ∈ n.ins,portOk g z) (hd : n.deepB = true) (hF : F = n.d - n.more) (hb : (n.ins.any fun z => dAt g z != F) = b) : (!b) = deepG g n:=by
 rw [Bool.eq_iff_iff,deepG_iff,← hb,Bool.not_eq_true',List.any_eq_false]
 constructor
 · refine fun h => ⟨hd,fun z hz m hm => ?_⟩
   have:=h z hz
   rw [dAt_is hm] at this
   simp at this
   omega
 · intro h z hz
   obtain ⟨_,m,hm,_⟩:=hp z hz
   rw [dAt_is hm]
   have:=h.2 z hz m hm
   simp;omega
set_option maxHeartbeats 4000000 in
theorem wrongDepth_any (A : Option Addr) (l : List Gn) (c B D : Nat) (F z : Int) (w : World) (hG : Gr w A l) (hl : l.length ≤ maxLen) (hB : w.cell? ⟨B,0,none⟩ = some (.slice A l.length c)) (hD : w.cell? ⟨D,0,none⟩ = some (.int .i64 F)) (hz : portOk (nds l) z) :
 Calls Tryz.prog 195 #[.int .i64 z,.pointer (some ⟨B,0,none⟩),.pointer (some ⟨D,0,none⟩)] w fun e w' => e = .returned (.bool (dAt (nds l) z != F)) ∧ Below w.heap.size w w':=by
 unfold maxLen at hl
 obtain ⟨hz0,m,hm,_⟩:=hz
 obtain ⟨Z,rfl⟩ : ∃ Z : Nat,z = (Z : Int):=Int.eq_ofNat_of_zero_le hz0
 rw [dAt_is hm]
 rw [Int.toNat_natCast] at hm
 have hZl : Z < l.length:=by have:=(List.getElem?_eq_some_iff.1 hm).1;rwa [nds_len] at this
 have hZz : (Z : Int) < (l.length : Int):=by omega
 obtain ⟨y,hy⟩ : ∃ y,l[Z]? = some y:=⟨_,List.getElem?_eq_getElem hZl⟩
 have hyn : y.nd = m:=by unfold nds at hm;rw [List.getElem?_map,hy] at hm;injection hm
 subst hyn
 obtain ⟨b,o,rfl,hbl,hcl⟩:=hG.at_ hy
 obtain ⟨_,_,_,c3,_⟩:=hcl w (Below.refl _ _)
 have HB:=Hd (Below.refl w.heap.size w)
 clear hm hy hcl hG
 generalize y.nd.d = d at *
 go_enter Tryz.func195,Tryz.ntmps195
 go_wp2_with fail
 go_region
 go_wp2
 go_ret
 exact ⟨rfl,HB.out.drew⟩
def IdxDeep (b : Bool) (w : World) (e : Ending) (w' : World) : Prop:=(∃ i : Int,e = .returned (.int .i64 i) ∧ decide (0 ≤ i) = b) ∧ Below w.heap.size w w'
set_option maxHeartbeats 4000000 in
theorem indexDeep_any (A : Option Addr) (l : List Gn) (c B D : Nat) (F : Int) (xA : Option Addr) (xs : List Int) (c1 : Nat) (w : World) (hA : Rw.Ts kindI w xA xs) (h1 : xs.length ≤ maxLen) (hG : Gr w A l) (hl : l.length ≤ maxLen) (hB : w.cell? ⟨B,0,none⟩ = some (.slice A l.length c)) (hD : w.cell? ⟨D,0,none⟩ = some (.int .i64 F)) (hP : ∀ z ∈ xs,portOk (nds l) z) :
 Calls Tryz.prog 216 #[.slice xA xs.length c1,.func (.func 195) #[] #[.pointer (some ⟨B,0,none⟩),.pointer (some ⟨D,0,none⟩)]] w (IdxDeep (xs.any fun z => dAt (nds l) z != F) w):=by
 have eg : ∀ args w,(callFunc 195 args).run Tryz.prog w = .ok (.enter 195 args) w:=enters_of Tryz.func195 (by kernel_rfl) rfl
 have HC0:=Hd fun (t : Int) (wr : World) (hb : Below w.heap.size w wr) (ht : t ∈ xs) => wrongDepth_any A l c B D F t wr (hG.below hb) hl (cell_below hB hb) (cell_below hD hb) (hP _ ht)
 unfold maxLen at h1
 have HA:=Hd hA;clear hA
 go_enter Tryz.func216,Tryz.ntmps216
 go_wp2_with fail
 go_loopw [8] (fun i wr => ∃ k : Nat,k ≤ xs.length ∧ i = .int .i64 k ∧ Below w.heap.size w wr ∧ ∀ (j : Nat) (t : Int),j < k → xs[j]? = some t → (fun z => dAt (nds l) z != F) t = false) (fun i _ => xs.length - (intOf i).toNat)
 case atStart => exact ⟨0,by omega,rfl,Below.refl _ _,fun j t h => absurd h (by omega)⟩
 case round =>
  obtain ⟨k,hk,rfl,hb,hno⟩:=hrel
  have HB:=Hd hb;clear hb
  have HNO:=Hd hno;clear hno
  by_cases hlt : k < xs.length
  · have hltz : (k : Int) < (xs.length : Int):=by omega
    obtain ⟨t,ht⟩ : ∃ t,xs[k]? = some t:=⟨_,List.getElem?_eq_getElem hlt⟩
    obtain ⟨b,o,rfl,hbl,hld⟩:=ints_at HA.out ht
    have c0:=hld _ HB.out
    have hcall:=HC0.out t wr HB.out (List.mem_of_getElem? ht)
    have HT:=Hd ht;clear ht hld
    cases hq : (fun z => dAt (nds l) z != F) t with
    | true =>
      simp only [] at hq hcall
      rw [hq] at hcall
      have HQ:=Hd hq;have HC:=Hd hcall;clear hq hcall
      go_wp2_with fail
      refine HC.out.mono ?_;rintro e w1 ⟨rfl,hb1⟩
      have HB1:=Hd (HB.out.trans (hb1.mono HB.out.size));clear hb1 c0
      go_wp2_with fail
      go_ret
      exact ⟨⟨k,rfl,by rw [decide_eq_true (by omega)];exact anyI_true (p:=fun z => dAt (nds l) z != F) HT.out HQ.out⟩,HB1.out⟩
    | false =>
      simp only [] at hq hcall
      rw [hq] at hcall
      have HQ:=Hd hq;have HC:=Hd hcall;clear hq hcall
      go_wp2_with fail
      refine HC.out.mono ?_;rintro e w1 ⟨rfl,hb1⟩
      have HB1:=Hd (HB.out.trans (hb1.mono HB.out.size));clear hb1 c0
      go_wp2_with fail
      go_roundw
      case rel =>
       refine ⟨k + 1,by omega,by simp,HB1.out,fun j t' hj ht' => ?_⟩
       by_cases e : j = k
       · subst e
         rw [HT.out] at ht';cases ht'
         exact HQ.out
       · exact HNO.out j t' (by omega) ht'
      case measure => simp only [intOf];omega
  · have hltz : ¬ (k : Int) < (xs.length : Int):=by omega
    go_wp2_with fail
    go_ret
    exact ⟨⟨-1,rfl,by rw [decide_eq_false (by omega)];exact anyI_false (p:=fun z => dAt (nds l) z != F) fun j t ht => HNO.out j t (by have:=(List.getElem?_eq_some_iff.1 ht).1;omega) ht⟩,HB.out⟩
theorem containsDeep_any (A : Option Addr) (l : List Gn) (c B D : Nat) (F : Int) (xA : Option Addr) (xs : List Int) (c1 : Nat) (w : World) (hA : Rw.Ts kindI w xA xs) (h1 : xs.length ≤ maxLen) (hG : Gr w A l) (hl : l.length ≤ maxLen) (hB : w.cell? ⟨B,0,none⟩ = some (.slice A l.length c)) (hD : w.cell? ⟨D,0,none⟩ = some (.int .i64 F)) (hP : ∀ z ∈ xs,portOk (nds l) z) :
 Calls Tryz.prog 194 #[.slice xA xs.length c1,.func (.func 195) #[] #[.pointer (some ⟨B,0,none⟩),.pointer (some ⟨D,0,none⟩)]] w fun e w' => e = .returned (.bool (xs.any fun z => dAt (nds l) z != F)) ∧ Below w.heap.size w w':=by
 have H:=Hd (indexDeep_any A l c B D F xA xs c1 w hA h1 hG hl hB hD hP);clear hA
 generalize (xs.any fun z => dAt (nds l) z != F) = v at *
 go_enter Tryz.func194,Tryz.ntmps194
 go_wp2_with fail
 refine H.out.mono ?_;rintro e w1 ⟨⟨i,rfl,hi⟩,hb1⟩
 have HI:=Hd hi;have HB1:=Hd hb1;clear hi hb1
 go_wp2_with fail
 go_ret
 exact ⟨retb HI.out,HB1.out⟩
set_option maxHeartbeats 32000000 in
theorem rightDepth_any (A : Option Addr) (l : List Gn) (c : Nat) (xk xa : Nat) (xb xd : Int) (xi : List Int) (xA : Option Addr) (xc : Nat) (w : World) (hG : Gr w A l) (hl : l.length ≤ maxLen) (hT : Rw.Ts kindI w xA xi) (hx : xi.length ≤ maxLen) (hP : ∀ z ∈ xi,portOk (nds l) z) :
 Calls Tryz.prog 167 #[.slice A l.length c,.agg #[.int .u8 (xk : Nat),.int .u8 (xa : Nat),.int .i64 xb,.int .i64 xd,.slice xA xi.length xc]] w fun e w' => e = .returned (.bool (deepG (nds l) ⟨xk,xa,xb,xd,xi⟩)) ∧ Below w.heap.size w w':=by
 have HG:=Hd hG;have HT:=Hd hT;have HP:=Hd hP;have HL:=Hd hl;have HX:=Hd hx;clear hG hT hP hl hx
 obtain ⟨n,hn⟩ : ∃ n : Nd,n = ⟨xk,xa,xb,xd,xi⟩:=⟨_,rfl⟩
 rw [← hn]
 have HN0:=Hd hn;clear hn
 by_cases k1 : xk = 1
 · subst k1
   by_cases hlo : (0 : Int) ≤ xd
   · by_cases hhi : xd ≤ (0 : Int)
     · have hb1:=(Below.refl _ w).alloc (Nat.le_refl _) (.cells #[.slice A l.length c] 23)
       have hb2:=hb1.alloc hb1.size (.cells #[.int .u8 (1 : Nat),.int .u8 (xa : Nat),.int .i64 xb,.int .i64 xd,.slice xA xi.length xc] 58)
       have hb3:=hb2.alloc hb2.size (.cells #[.int .i64 (xd)] 3)
       obtain ⟨b,hb⟩ : ∃ b,(xi.any fun z => dAt (nds l) z != xd) = b:=⟨_,rfl⟩
       have hcall:=containsDeep_any A l c w.heap.size (w.heap.size + 1 + 1) (xd) xA xi xc (((w.alloc (.cells #[.slice A l.length c] 23)).alloc (.cells #[.int .u8 (1 : Nat),.int .u8 (xa : Nat),.int .i64 xb,.int .i64 xd,.slice xA xi.length xc] 58)).alloc (.cells #[.int .i64 (xd)] 3)) (HT.out.below hb3) HX.out (HG.out.below hb3) HL.out (old_cell (old_cell (new_cell rfl))) (new_cell (by simp)) HP.out
       rw [hb] at hcall
       have HC:=Hd hcall;have HB:=Hd hb3
       have HY:=Hd (deep_any (g:=nds l) (n:=n) (F:=xd) (b:=b) (by rw [HN0.out];exact HP.out) (by rw [HN0.out];unfold Nd.deepB;exact decide_eq_true (by first | (simp;done) | (simp;omega))) (by rw [HN0.out];unfold Nd.more;first | (simp;done) | (simp [*];done) | (simp [*];omega)) (by rw [HN0.out];exact hb))
       clear HG HT HP HN0 hb hcall hb1 hb2 hb3
       go_enter Tryz.func167,Tryz.ntmps167
       go_wp2_with fail
       refine HC.out.mono ?_;rintro e w1 ⟨rfl,hb1⟩
       have HB1:=Hd (HB.out.trans (hb1.mono HB.out.size));clear hb1
       dsimp only
       go_wp2_with fail
       go_ret
       exact ⟨retb HY.out,HB1.out⟩
     · have HY:=Hd (deepG_out (g:=nds l) (n:=n) (by rw [HN0.out];unfold Nd.deepB;exact decide_eq_false (by first | (simp;done) | (simp;omega))))
       have HB:=Hd (((Below.refl _ w).alloc (Nat.le_refl _) (.cells #[.slice A l.length c] 23)).trans ((Below.refl _ _).alloc (Nat.le_refl _) (.cells #[.int .u8 (1 : Nat),.int .u8 (xa : Nat),.int .i64 xb,.int .i64 xd,.slice xA xi.length xc] 58) |>.mono (by simp)))
       clear HG HT HP HN0
       go_enter Tryz.func167,Tryz.ntmps167
       go_wp2_with fail
       go_ret
       exact ⟨retb HY.out,HB.out.alloc (by first | (simp;done) | (simp;omega)) _⟩
   · have HY:=Hd (deepG_out (g:=nds l) (n:=n) (by rw [HN0.out];unfold Nd.deepB;exact decide_eq_false (by first | (simp;done) | (simp;omega))))
     have HB:=Hd (((Below.refl _ w).alloc (Nat.le_refl _) (.cells #[.slice A l.length c] 23)).trans ((Below.refl _ _).alloc (Nat.le_refl _) (.cells #[.int .u8 (1 : Nat),.int .u8 (xa : Nat),.int .i64 xb,.int .i64 xd,.slice xA xi.length xc] 58) |>.mono (by simp)))
     clear HG HT HP HN0
     go_enter Tryz.func167,Tryz.ntmps167
     go_wp2_with fail
     go_ret
     exact ⟨retb HY.out,HB.out.alloc (by first | (simp;done) | (simp;omega)) _⟩
 · have k1z : (((xk : Nat) : Int) == 1) = false:=by simp;omega
   by_cases k10 : xk = 10
   · subst k10
     by_cases hlo : (0 : Int) ≤ xd
     · by_cases hhi : xd ≤ (0 : Int)
       · have hb1:=(Below.refl _ w).alloc (Nat.le_refl _) (.cells #[.slice A l.length c] 23)
         have hb2:=hb1.alloc hb1.size (.cells #[.int .u8 (10 : Nat),.int .u8 (xa : Nat),.int .i64 xb,.int .i64 xd,.slice xA xi.length xc] 58)
         have hb3:=hb2.alloc hb2.size (.cells #[.int .i64 (xd)] 3)
         obtain ⟨b,hb⟩ : ∃ b,(xi.any fun z => dAt (nds l) z != xd) = b:=⟨_,rfl⟩
         have hcall:=containsDeep_any A l c w.heap.size (w.heap.size + 1 + 1) (xd) xA xi xc (((w.alloc (.cells #[.slice A l.length c] 23)).alloc (.cells #[.int .u8 (10 : Nat),.int .u8 (xa : Nat),.int .i64 xb,.int .i64 xd,.slice xA xi.length xc] 58)).alloc (.cells #[.int .i64 (xd)] 3)) (HT.out.below hb3) HX.out (HG.out.below hb3) HL.out (old_cell (old_cell (new_cell rfl))) (new_cell (by simp)) HP.out
         rw [hb] at hcall
         have HC:=Hd hcall;have HB:=Hd hb3
         have HY:=Hd (deep_any (g:=nds l) (n:=n) (F:=xd) (b:=b) (by rw [HN0.out];exact HP.out) (by rw [HN0.out];unfold Nd.deepB;exact decide_eq_true (by first | (simp;done) | (simp;omega))) (by rw [HN0.out];unfold Nd.more;first | (simp;done) | (simp [*];done) | (simp [*];omega)) (by rw [HN0.out];exact hb))
         clear HG HT HP HN0 hb hcall hb1 hb2 hb3
         go_enter Tryz.func167,Tryz.ntmps167
         go_wp2_with fail
         refine HC.out.mono ?_;rintro e w1 ⟨rfl,hb1⟩
         have HB1:=Hd (HB.out.trans (hb1.mono HB.out.size));clear hb1
         dsimp only
         go_wp2_with fail
         go_ret
         exact ⟨retb HY.out,HB1.out⟩
       · have HY:=Hd (deepG_out (g:=nds l) (n:=n) (by rw [HN0.out];unfold Nd.deepB;exact decide_eq_false (by first | (simp;done) | (simp;omega))))
         have HB:=Hd (((Below.refl _ w).alloc (Nat.le_refl _) (.cells #[.slice A l.length c] 23)).trans ((Below.refl _ _).alloc (Nat.le_refl _) (.cells #[.int .u8 (10 : Nat),.int .u8 (xa : Nat),.int .i64 xb,.int .i64 xd,.slice xA xi.length xc] 58) |>.mono (by simp)))
         clear HG HT HP HN0
         go_enter Tryz.func167,Tryz.ntmps167
         go_wp2_with fail
         go_ret
         exact ⟨retb HY.out,HB.out.alloc (by first | (simp;done) | (simp;omega)) _⟩
     · have HY:=Hd (deepG_out (g:=nds l) (n:=n) (by rw [HN0.out];unfold Nd.deepB;exact decide_eq_false (by first | (simp;done) | (simp;omega))))
       have HB:=Hd (((Below.refl _ w).alloc (Nat.le_refl _) (.cells #[.slice A l.length c] 23)).trans ((Below.refl _ _).alloc (Nat.le_refl _) (.cells #[.int .u8 (10 : Nat),.int .u8 (xa : Nat),.int .i64 xb,.int .i64 xd,.slice xA xi.length xc] 58) |>.mono (by simp)))
       clear HG HT HP HN0
       go_enter Tryz.func167,Tryz.ntmps167
       go_wp2_with fail
       go_ret
       exact ⟨retb HY.out,HB.out.alloc (by first | (simp;done) | (simp;omega)) _⟩
   · have k10z : (((xk : Nat) : Int) == 10) = false:=by simp;omega
     by_cases k7 : xk = 7
     · subst k7
       by_cases hlo : (0 : Int) ≤ xd
       · by_cases hhi : xd ≤ (3 : Int)
         · have hr:=IntWalk.i64_in (xd - 1) (by omega)
           have hb1:=(Below.refl _ w).alloc (Nat.le_refl _) (.cells #[.slice A l.length c] 23)
           have hb2:=hb1.alloc hb1.size (.cells #[.int .u8 (7 : Nat),.int .u8 (xa : Nat),.int .i64 xb,.int .i64 xd,.slice xA xi.length xc] 58)
           have hb3:=hb2.alloc hb2.size (.cells #[.int .i64 (xd - 1)] 3)
           obtain ⟨b,hb⟩ : ∃ b,(xi.any fun z => dAt (nds l) z != xd - 1) = b:=⟨_,rfl⟩
           have hcall:=containsDeep_any A l c w.heap.size (w.heap.size + 1 + 1) (xd - 1) xA xi xc (((w.alloc (.cells #[.slice A l.length c] 23)).alloc (.cells #[.int .u8 (7 : Nat),.int .u8 (xa : Nat),.int .i64 xb,.int .i64 xd,.slice xA xi.length xc] 58)).alloc (.cells #[.int .i64 (xd - 1)] 3)) (HT.out.below hb3) HX.out (HG.out.below hb3) HL.out (old_cell (old_cell (new_cell rfl))) (new_cell (by simp)) HP.out
           rw [hb] at hcall
           have HC:=Hd hcall;have HB:=Hd hb3
           have HY:=Hd (deep_any (g:=nds l) (n:=n) (F:=xd - 1) (b:=b) (by rw [HN0.out];exact HP.out) (by rw [HN0.out];unfold Nd.deepB;exact decide_eq_true (by first | (simp;done) | (simp;omega))) (by rw [HN0.out];unfold Nd.more;first | (simp;done) | (simp [*];done) | (simp [*];omega)) (by rw [HN0.out];exact hb))
           clear HG HT HP HN0 hb hcall hb1 hb2 hb3
           go_enter Tryz.func167,Tryz.ntmps167
           go_wp2_with fail
           refine HC.out.mono ?_;rintro e w1 ⟨rfl,hb1⟩
           have HB1:=Hd (HB.out.trans (hb1.mono HB.out.size));clear hb1
           dsimp only
           go_wp2_with fail
           go_ret
           exact ⟨retb HY.out,HB1.out⟩
         · have HY:=Hd (deepG_out (g:=nds l) (n:=n) (by rw [HN0.out];unfold Nd.deepB;exact decide_eq_false (by first | (simp;done) | (simp;omega))))
           obtain ⟨F,hF⟩ : ∃ F,IntKind.i64.wrap (xd - 1) = F:=⟨_,rfl⟩
           have HB:=Hd (((Below.refl _ w).alloc (Nat.le_refl _) (.cells #[.slice A l.length c] 23)).trans ((Below.refl _ _).alloc (Nat.le_refl _) (.cells #[.int .u8 (7 : Nat),.int .u8 (xa : Nat),.int .i64 xb,.int .i64 xd,.slice xA xi.length xc] 58) |>.mono (by simp)))
           clear HG HT HP HN0
           go_enter Tryz.func167,Tryz.ntmps167
           go_wp2_with fail
           go_ret
           exact ⟨retb HY.out,HB.out.alloc (by first | (simp;done) | (simp;omega)) _⟩
       · have HY:=Hd (deepG_out (g:=nds l) (n:=n) (by rw [HN0.out];unfold Nd.deepB;exact decide_eq_false (by first | (simp;done) | (simp;omega))))
         obtain ⟨F,hF⟩ : ∃ F,IntKind.i64.wrap (xd - 1) = F:=⟨_,rfl⟩
         have HB:=Hd (((Below.refl _ w).alloc (Nat.le_refl _) (.cells #[.slice A l.length c] 23)).trans ((Below.refl _ _).alloc (Nat.le_refl _) (.cells #[.int .u8 (7 : Nat),.int .u8 (xa : Nat),.int .i64 xb,.int .i64 xd,.slice xA xi.length xc] 58) |>.mono (by simp)))
         clear HG HT HP HN0
         go_enter Tryz.func167,Tryz.ntmps167
         go_wp2_with fail
         go_ret
         exact ⟨retb HY.out,HB.out.alloc (by first | (simp;done) | (simp;omega)) _⟩
     · have k7z : (((xk : Nat) : Int) == 7) = false:=by simp;omega
       by_cases k8 : xk = 8
       · subst k8
         by_cases hlo : (0 : Int) ≤ xd
         · by_cases hhi : xd ≤ (3 : Int)
           · have hr:=IntWalk.i64_in (xd + 1) (by omega)
             have hb1:=(Below.refl _ w).alloc (Nat.le_refl _) (.cells #[.slice A l.length c] 23)
             have hb2:=hb1.alloc hb1.size (.cells #[.int .u8 (8 : Nat),.int .u8 (xa : Nat),.int .i64 xb,.int .i64 xd,.slice xA xi.length xc] 58)
             have hb3:=hb2.alloc hb2.size (.cells #[.int .i64 (xd + 1)] 3)
             obtain ⟨b,hb⟩ : ∃ b,(xi.any fun z => dAt (nds l) z != xd + 1) = b:=⟨_,rfl⟩
             have hcall:=containsDeep_any A l c w.heap.size (w.heap.size + 1 + 1) (xd + 1) xA xi xc (((w.alloc (.cells #[.slice A l.length c] 23)).alloc (.cells #[.int .u8 (8 : Nat),.int .u8 (xa : Nat),.int .i64 xb,.int .i64 xd,.slice xA xi.length xc] 58)).alloc (.cells #[.int .i64 (xd + 1)] 3)) (HT.out.below hb3) HX.out (HG.out.below hb3) HL.out (old_cell (old_cell (new_cell rfl))) (new_cell (by simp)) HP.out
             rw [hb] at hcall
             have HC:=Hd hcall;have HB:=Hd hb3
             have HY:=Hd (deep_any (g:=nds l) (n:=n) (F:=xd + 1) (b:=b) (by rw [HN0.out];exact HP.out) (by rw [HN0.out];unfold Nd.deepB;exact decide_eq_true (by first | (simp;done) | (simp;omega))) (by rw [HN0.out];unfold Nd.more;first | (simp;done) | (simp [*];done) | (simp [*];omega)) (by rw [HN0.out];exact hb))
             clear HG HT HP HN0 hb hcall hb1 hb2 hb3
             go_enter Tryz.func167,Tryz.ntmps167
             go_wp2_with fail
             refine HC.out.mono ?_;rintro e w1 ⟨rfl,hb1⟩
             have HB1:=Hd (HB.out.trans (hb1.mono HB.out.size));clear hb1
             dsimp only
             go_wp2_with fail
             go_ret
             exact ⟨retb HY.out,HB1.out⟩
           · have HY:=Hd (deepG_out (g:=nds l) (n:=n) (by rw [HN0.out];unfold Nd.deepB;exact decide_eq_false (by first | (simp;done) | (simp;omega))))
             obtain ⟨F,hF⟩ : ∃ F,IntKind.i64.wrap (xd + 1) = F:=⟨_,rfl⟩
             have HB:=Hd (((Below.refl _ w).alloc (Nat.le_refl _) (.cells #[.slice A l.length c] 23)).trans ((Below.refl _ _).alloc (Nat.le_refl _) (.cells #[.int .u8 (8 : Nat),.int .u8 (xa : Nat),.int .i64 xb,.int .i64 xd,.slice xA xi.length xc] 58) |>.mono (by simp)))
             clear HG HT HP HN0
             go_enter Tryz.func167,Tryz.ntmps167
             go_wp2_with fail
             go_ret
             exact ⟨retb HY.out,HB.out.alloc (by first | (simp;done) | (simp;omega)) _⟩
         · have HY:=Hd (deepG_out (g:=nds l) (n:=n) (by rw [HN0.out];unfold Nd.deepB;exact decide_eq_false (by first | (simp;done) | (simp;omega))))
           obtain ⟨F,hF⟩ : ∃ F,IntKind.i64.wrap (xd + 1) = F:=⟨_,rfl⟩
           have HB:=Hd (((Below.refl _ w).alloc (Nat.le_refl _) (.cells #[.slice A l.length c] 23)).trans ((Below.refl _ _).alloc (Nat.le_refl _) (.cells #[.int .u8 (8 : Nat),.int .u8 (xa : Nat),.int .i64 xb,.int .i64 xd,.slice xA xi.length xc] 58) |>.mono (by simp)))
           clear HG HT HP HN0
           go_enter Tryz.func167,Tryz.ntmps167
           go_wp2_with fail
           go_ret
           exact ⟨retb HY.out,HB.out.alloc (by first | (simp;done) | (simp;omega)) _⟩
       · have k8z : (((xk : Nat) : Int) == 8) = false:=by simp;omega
         by_cases k9 : xk = 9
         · subst k9
           by_cases hlo : (1 : Int) ≤ xd
           · by_cases hhi : xd ≤ (3 : Int)
             · have hb1:=(Below.refl _ w).alloc (Nat.le_refl _) (.cells #[.slice A l.length c] 23)
               have hb2:=hb1.alloc hb1.size (.cells #[.int .u8 (9 : Nat),.int .u8 (xa : Nat),.int .i64 xb,.int .i64 xd,.slice xA xi.length xc] 58)
               have hb3:=hb2.alloc hb2.size (.cells #[.int .i64 (xd)] 3)
               obtain ⟨b,hb⟩ : ∃ b,(xi.any fun z => dAt (nds l) z != xd) = b:=⟨_,rfl⟩
               have hcall:=containsDeep_any A l c w.heap.size (w.heap.size + 1 + 1) (xd) xA xi xc (((w.alloc (.cells #[.slice A l.length c] 23)).alloc (.cells #[.int .u8 (9 : Nat),.int .u8 (xa : Nat),.int .i64 xb,.int .i64 xd,.slice xA xi.length xc] 58)).alloc (.cells #[.int .i64 (xd)] 3)) (HT.out.below hb3) HX.out (HG.out.below hb3) HL.out (old_cell (old_cell (new_cell rfl))) (new_cell (by simp)) HP.out
               rw [hb] at hcall
               have HC:=Hd hcall;have HB:=Hd hb3
               have HY:=Hd (deep_any (g:=nds l) (n:=n) (F:=xd) (b:=b) (by rw [HN0.out];exact HP.out) (by rw [HN0.out];unfold Nd.deepB;exact decide_eq_true (by first | (simp;done) | (simp;omega))) (by rw [HN0.out];unfold Nd.more;first | (simp;done) | (simp [*];done) | (simp [*];omega)) (by rw [HN0.out];exact hb))
               clear HG HT HP HN0 hb hcall hb1 hb2 hb3
               go_enter Tryz.func167,Tryz.ntmps167
               go_wp2_with fail
               refine HC.out.mono ?_;rintro e w1 ⟨rfl,hb1⟩
               have HB1:=Hd (HB.out.trans (hb1.mono HB.out.size));clear hb1
               dsimp only
               go_wp2_with fail
               go_ret
               exact ⟨retb HY.out,HB1.out⟩
             · have HY:=Hd (deepG_out (g:=nds l) (n:=n) (by rw [HN0.out];unfold Nd.deepB;exact decide_eq_false (by first | (simp;done) | (simp;omega))))
               have HB:=Hd (((Below.refl _ w).alloc (Nat.le_refl _) (.cells #[.slice A l.length c] 23)).trans ((Below.refl _ _).alloc (Nat.le_refl _) (.cells #[.int .u8 (9 : Nat),.int .u8 (xa : Nat),.int .i64 xb,.int .i64 xd,.slice xA xi.length xc] 58) |>.mono (by simp)))
               clear HG HT HP HN0
               go_enter Tryz.func167,Tryz.ntmps167
               go_wp2_with fail
               go_ret
               exact ⟨retb HY.out,HB.out.alloc (by first | (simp;done) | (simp;omega)) _⟩
           · have HY:=Hd (deepG_out (g:=nds l) (n:=n) (by rw [HN0.out];unfold Nd.deepB;exact decide_eq_false (by first | (simp;done) | (simp;omega))))
             have HB:=Hd (((Below.refl _ w).alloc (Nat.le_refl _) (.cells #[.slice A l.length c] 23)).trans ((Below.refl _ _).alloc (Nat.le_refl _) (.cells #[.int .u8 (9 : Nat),.int .u8 (xa : Nat),.int .i64 xb,.int .i64 xd,.slice xA xi.length xc] 58) |>.mono (by simp)))
             clear HG HT HP HN0
             go_enter Tryz.func167,Tryz.ntmps167
             go_wp2_with fail
             go_ret
             exact ⟨retb HY.out,HB.out.alloc (by first | (simp;done) | (simp;omega)) _⟩
         · have k9z : (((xk : Nat) : Int) == 9) = false:=by simp;omega
           by_cases hlo : (0 : Int) ≤ xd
           · by_cases hhi : xd ≤ (3 : Int)
             · have hb1:=(Below.refl _ w).alloc (Nat.le_refl _) (.cells #[.slice A l.length c] 23)
               have hb2:=hb1.alloc hb1.size (.cells #[.int .u8 (xk : Nat),.int .u8 (xa : Nat),.int .i64 xb,.int .i64 xd,.slice xA xi.length xc] 58)
               have hb3:=hb2.alloc hb2.size (.cells #[.int .i64 (xd)] 3)
               obtain ⟨b,hb⟩ : ∃ b,(xi.any fun z => dAt (nds l) z != xd) = b:=⟨_,rfl⟩
               have hcall:=containsDeep_any A l c w.heap.size (w.heap.size + 1 + 1) (xd) xA xi xc (((w.alloc (.cells #[.slice A l.length c] 23)).alloc (.cells #[.int .u8 (xk : Nat),.int .u8 (xa : Nat),.int .i64 xb,.int .i64 xd,.slice xA xi.length xc] 58)).alloc (.cells #[.int .i64 (xd)] 3)) (HT.out.below hb3) HX.out (HG.out.below hb3) HL.out (old_cell (old_cell (new_cell rfl))) (new_cell (by simp)) HP.out
               rw [hb] at hcall
               have HC:=Hd hcall;have HB:=Hd hb3
               have HY:=Hd (deep_any (g:=nds l) (n:=n) (F:=xd) (b:=b) (by rw [HN0.out];exact HP.out) (by rw [HN0.out];unfold Nd.deepB;exact decide_eq_true (by first | (simp;done) | (simp;omega))) (by rw [HN0.out];unfold Nd.more;first | (simp;done) | (simp [*];done) | (simp [*];omega)) (by rw [HN0.out];exact hb))
               clear HG HT HP HN0 hb hcall hb1 hb2 hb3
               go_enter Tryz.func167,Tryz.ntmps167
               go_wp2_with fail
               refine HC.out.mono ?_;rintro e w1 ⟨rfl,hb1⟩
               have HB1:=Hd (HB.out.trans (hb1.mono HB.out.size));clear hb1
               dsimp only
               go_wp2_with fail
               go_ret
               exact ⟨retb HY.out,HB1.out⟩
             · have HY:=Hd (deepG_out (g:=nds l) (n:=n) (by rw [HN0.out];unfold Nd.deepB;exact decide_eq_false (by first | (simp;done) | (simp;omega))))
               have HB:=Hd (((Below.refl _ w).alloc (Nat.le_refl _) (.cells #[.slice A l.length c] 23)).trans ((Below.refl _ _).alloc (Nat.le_refl _) (.cells #[.int .u8 (xk : Nat),.int .u8 (xa : Nat),.int .i64 xb,.int .i64 xd,.slice xA xi.length xc] 58) |>.mono (by simp)))
               clear HG HT HP HN0
               go_enter Tryz.func167,Tryz.ntmps167
               go_wp2_with fail
               go_ret
               exact ⟨retb HY.out,HB.out.alloc (by first | (simp;done) | (simp;omega)) _⟩
           · have HY:=Hd (deepG_out (g:=nds l) (n:=n) (by rw [HN0.out];unfold Nd.deepB;exact decide_eq_false (by first | (simp;done) | (simp;omega))))
             have HB:=Hd (((Below.refl _ w).alloc (Nat.le_refl _) (.cells #[.slice A l.length c] 23)).trans ((Below.refl _ _).alloc (Nat.le_refl _) (.cells #[.int .u8 (xk : Nat),.int .u8 (xa : Nat),.int .i64 xb,.int .i64 xd,.slice xA xi.length xc] 58) |>.mono (by simp)))
             clear HG HT HP HN0
             go_enter Tryz.func167,Tryz.ntmps167
             go_wp2_with fail
             go_ret
             exact ⟨retb HY.out,HB.out.alloc (by first | (simp;done) | (simp;omega)) _⟩
end

section
set_option maxHeartbeats 8000000 in
theorem refNumbers_any (xk xa : Nat) (xb xd : Int) (xi : List Int) (xA : Option Addr) (xc : Nat) (w : World) :
 Calls Tryz.prog 135 #[.agg #[.int .u8 (xk : Nat),.int .u8 (xa : Nat),.int .i64 xb,.int .i64 xd,.slice xA xi.length xc]] w fun e w' => e = .returned (.bool (Nd.num ⟨xk,xa,xb,xd,xi⟩)) ∧ Below w.heap.size w w':=by
 have HB:=Hd ((Below.refl _ w).alloc (Nat.le_refl _) (.cells #[.int .u8 (xk : Nat),.int .u8 (xa : Nat),.int .i64 xb,.int .i64 xd,.slice xA xi.length xc] 58))
 obtain ⟨N,hN⟩ : ∃ N,Nd.num ⟨xk,xa,xb,xd,xi⟩ = N:=⟨_,rfl⟩
 rw [hN]
 have HN:=Hd hN;clear hN
 by_cases k2 : xk = 2
 · subst k2
   by_cases h1 : xa ≤ 3
   · have h1z : (xa : Int) ≤ 3:=by omega
     by_cases h2 : xa = 3
     · subst h2
       by_cases h3 : 0 < xb
       · go_enter Tryz.func135,Tryz.ntmps135
         go_wp2_with fail
         go_ret
         exact ⟨retb (by rw [← HN.out];unfold Nd.num;first | (simp;done) | (simp;omega)),HB.out⟩
       · go_enter Tryz.func135,Tryz.ntmps135
         go_wp2_with fail
         go_ret
         exact ⟨retb (by rw [← HN.out];unfold Nd.num;first | (simp;done) | (simp;omega)),HB.out⟩
     · have h2z : (((xa : Nat) : Int) != 3) = true:=by simp;omega
       go_enter Tryz.func135,Tryz.ntmps135
       go_wp2_with fail
       go_ret
       exact ⟨retb (by rw [← HN.out];unfold Nd.num;first | (simp;done) | (simp;omega)),HB.out⟩
   · have h1z : ¬ (xa : Int) ≤ 3:=by omega
     go_enter Tryz.func135,Tryz.ntmps135
     go_wp2_with fail
     go_ret
     exact ⟨retb (by rw [← HN.out];unfold Nd.num;first | (simp;done) | (simp;omega)),HB.out⟩
 · have k2z : (((xk : Nat) : Int) == 2) = false:=by simp;omega
   by_cases k3 : xk = 3
   · subst k3
     by_cases h1 : xa ≤ 2
     · have h1z : (xa : Int) ≤ 2:=by omega
       by_cases h2 : xa = 1
       · subst h2
         by_cases h3 : 0 < xb
         · go_enter Tryz.func135,Tryz.ntmps135
           go_wp2_with fail
           go_ret
           exact ⟨retb (by rw [← HN.out];unfold Nd.num;first | (simp;done) | (simp;omega)),HB.out⟩
         · go_enter Tryz.func135,Tryz.ntmps135
           go_wp2_with fail
           go_ret
           exact ⟨retb (by rw [← HN.out];unfold Nd.num;first | (simp;done) | (simp;omega)),HB.out⟩
       · have h2z : (((xa : Nat) : Int) != 1) = true:=by simp;omega
         go_enter Tryz.func135,Tryz.ntmps135
         go_wp2_with fail
         go_ret
         exact ⟨retb (by rw [← HN.out];unfold Nd.num;first | (simp;done) | (simp;omega)),HB.out⟩
     · have h1z : ¬ (xa : Int) ≤ 2:=by omega
       go_enter Tryz.func135,Tryz.ntmps135
       go_wp2_with fail
       go_ret
       exact ⟨retb (by rw [← HN.out];unfold Nd.num;first | (simp;done) | (simp;omega)),HB.out⟩
   · have k3z : (((xk : Nat) : Int) == 3) = false:=by simp;omega
     by_cases k5 : xk = 5
     · subst k5
       by_cases h1 : xa ≤ 3
       · have h1z : (xa : Int) ≤ 3:=by omega
         by_cases h2 : xb = 0
         · subst h2
           go_enter Tryz.func135,Tryz.ntmps135
           go_wp2_with fail
           go_ret
           exact ⟨retb (by rw [← HN.out];unfold Nd.num;first | (simp;done) | (simp;omega)),HB.out⟩
         · have h2z : (xb == 0) = false:=by simp;omega
           go_enter Tryz.func135,Tryz.ntmps135
           go_wp2_with fail
           go_ret
           exact ⟨retb (by rw [← HN.out];unfold Nd.num;first | (simp;done) | (simp;omega)),HB.out⟩
       · have h1z : ¬ (xa : Int) ≤ 3:=by omega
         go_enter Tryz.func135,Tryz.ntmps135
         go_wp2_with fail
         go_ret
         exact ⟨retb (by rw [← HN.out];unfold Nd.num;first | (simp;done) | (simp;omega)),HB.out⟩
     · have k5z : (((xk : Nat) : Int) == 5) = false:=by simp;omega
       by_cases k9 : xk = 9
       · subst k9
         by_cases h1 : xa = 0
         · subst h1
           by_cases h2 : 1 ≤ xb
           · by_cases h3 : xb ≤ 16
             · go_enter Tryz.func135,Tryz.ntmps135
               go_wp2_with fail
               go_ret
               exact ⟨retb (by rw [← HN.out];unfold Nd.num;first | (simp;done) | (simp;omega)),HB.out⟩
             · go_enter Tryz.func135,Tryz.ntmps135
               go_wp2_with fail
               go_ret
               exact ⟨retb (by rw [← HN.out];unfold Nd.num;first | (simp;done) | (simp;omega)),HB.out⟩
           · go_enter Tryz.func135,Tryz.ntmps135
             go_wp2_with fail
             go_ret
             exact ⟨retb (by rw [← HN.out];unfold Nd.num;first | (simp;done) | (simp;omega)),HB.out⟩
         · have h1z : (((xa : Nat) : Int) == 0) = false:=by simp;omega
           go_enter Tryz.func135,Tryz.ntmps135
           go_wp2_with fail
           go_ret
           exact ⟨retb (by rw [← HN.out];unfold Nd.num;first | (simp;done) | (simp;omega)),HB.out⟩
       · have k9z : (((xk : Nat) : Int) == 9) = false:=by simp;omega
         by_cases h1 : 1 ≤ xk
         · have h1z : (1 : Int) ≤ (xk : Int):=by omega
           by_cases h2 : xk ≤ 10
           · have h2z : (xk : Int) ≤ 10:=by omega
             by_cases h3 : xa = 0
             · subst h3
               by_cases h4 : xb = 0
               · subst h4
                 go_enter Tryz.func135,Tryz.ntmps135
                 go_wp2_with fail
                 go_ret
                 exact ⟨retb (by rw [← HN.out];unfold Nd.num;first | (simp [k2,k3,k5,k9];done) | (simp [k2,k3,k5,k9];omega)),HB.out⟩
               · have h4z : (xb == 0) = false:=by simp;omega
                 go_enter Tryz.func135,Tryz.ntmps135
                 go_wp2_with fail
                 go_ret
                 exact ⟨retb (by rw [← HN.out];unfold Nd.num;first | (simp [k2,k3,k5,k9];done) | (simp [k2,k3,k5,k9];omega)),HB.out⟩
             · have h3z : (((xa : Nat) : Int) == 0) = false:=by simp;omega
               go_enter Tryz.func135,Tryz.ntmps135
               go_wp2_with fail
               go_ret
               exact ⟨retb (by rw [← HN.out];unfold Nd.num;first | (simp [k2,k3,k5,k9];done) | (simp [k2,k3,k5,k9];omega)),HB.out⟩
           · have h2z : ¬ (xk : Int) ≤ 10:=by omega
             go_enter Tryz.func135,Tryz.ntmps135
             go_wp2_with fail
             go_ret
             exact ⟨retb (by rw [← HN.out];unfold Nd.num;first | (simp [k2,k3,k5,k9];done) | (simp [k2,k3,k5,k9];omega)),HB.out⟩
         · have h1z : ¬ (1 : Int) ≤ (xk : Int):=by omega
           go_enter Tryz.func135,Tryz.ntmps135
           go_wp2_with fail
           go_ret
           exact ⟨retb (by rw [← HN.out];unfold Nd.num;first | (simp [k2,k3,k5,k9];done) | (simp [k2,k3,k5,k9];omega)),HB.out⟩
end

section
theorem reti {a b : Int} (h : a = b) : Ending.returned (.int .i64 a) = .returned (.int .i64 b):=by rw [h]
set_option maxHeartbeats 8000000 in
theorem refNode_any (A : Option Addr) (l : List Gn) (c : Nat) (i : Int) (w : World) (hG : Gr w A l) (hl : l.length ≤ maxLen) :
 Calls Tryz.prog 81 #[.slice A l.length c,.int .i64 i] w fun e w' => e = .returned (.int .i64 (nodeE (nds l) i)) ∧ Below w.heap.size w w':=by
 have HML:=Hd hl
 unfold maxLen at hl
 by_cases h0 : i < 0
 · have HN:=Hd (nodeE_out (g:=nds l) (i:=i) (.inl h0))
   go_enter Tryz.func81,Tryz.ntmps81
   go_wp2_with fail
   go_ret
   exact ⟨reti HN.out.symm,Below.refl _ _⟩
 · by_cases h1 : (l.length : Int) ≤ i
   · have HN:=Hd (nodeE_out (g:=nds l) (i:=i) (.inr (by rw [nds_len];exact h1)))
     go_enter Tryz.func81,Tryz.ntmps81
     go_wp2_with fail
     go_ret
     exact ⟨reti HN.out.symm,Below.refl _ _⟩
   · obtain ⟨I,rfl⟩ : ∃ I : Nat,i = (I : Int):=Int.eq_ofNat_of_zero_le (by omega)
     have hIl : I < l.length:=by omega
     have hIz : (I : Int) < (l.length : Int):=by omega
     obtain ⟨x,hx⟩ : ∃ x,l[I]? = some x:=⟨_,List.getElem?_eq_getElem hIl⟩
     have hok:=(hG.ok hx).c
     have hti:=hG.ins hx
     have hat:=nodeE_at (g:=nds l) (i:=I) (n:=x.nd) (by unfold nds;rw [List.getElem?_map,hx];rfl)
     have HG:=Hd hG;clear hG h0 h1
     obtain ⟨⟨xk,xa,xb,xd,xi⟩,xA,xc⟩:=x
     simp only at hok hti hat
     obtain ⟨n,hn⟩ : ∃ n : Nd,n = ⟨xk,xa,xb,xd,xi⟩:=⟨_,rfl⟩
     rw [← hn] at hat
     obtain ⟨b,o,rfl,hbl,hcl⟩:=HG.out.at_ hx
     have hxm : xi.length ≤ maxLen:=Nat.le_trans hok.1 hok.2
     have C1:=Hd (refNumbers_any xk xa xb xd xi xA xc w)
     have C2:=Hd fun w1 (hb : Below w.heap.size w w1) => refPorts_any (some ⟨b,o,none⟩) l c xk xa xb xd xi xA xc w1 (HG.out.below hb) HML.out (hti.below hb) hxm
     have C3:=Hd fun w1 (hb : Below w.heap.size w w1) (hP : ∀ z ∈ xi,portOk (nds l) z) => refDepth_any (some ⟨b,o,none⟩) l c xk xa xb xd xi xA xc w1 (HG.out.below hb) HML.out (hti.below hb) hxm hP
     have HCL:=Hd hcl;have HAT:=Hd hat
     obtain ⟨c0,c1,c2,c3,c4⟩:=hcl w (Below.refl _ _)
     simp only at c0 c1 c2 c3 c4
     clear hx hok hti hat hcl hxm
     have h1:=C1.out
     rw [← hn] at h1
     cases e1 : n.num with
     | false =>
       rw [e1] at h1
       have H1:=Hd h1;have HE:=Hd (err_num (g:=nds l) e1);clear h1 e1 hn
       go_enter Tryz.func81,Tryz.ntmps81
       go_wp2_with fail
       refine H1.out.mono ?_;rintro e w1 ⟨rfl,hb1⟩
       have HB1:=Hd hb1;clear hb1
       dsimp only
       go_wp2_with fail
       go_ret
       exact ⟨reti (by rw [HAT.out,HE.out]),HB1.out⟩
     | true =>
       rw [e1] at h1
       have H1:=Hd h1;clear h1
       go_enter Tryz.func81,Tryz.ntmps81
       go_wp2_with fail
       refine H1.out.mono ?_;rintro e w1 ⟨rfl,hb1⟩
       have HB1:=Hd hb1
       have h2:=C2.out w1 hb1
       rw [← hn] at h2
       clear hb1 c0 c1 c2 c3 c4
       obtain ⟨c0,c1,c2,c3,c4⟩:=HCL.out w1 HB1.out
       cases e2 : portsB (nds l) n with
       | false =>
         rw [e2] at h2
         have H2:=Hd h2
         have HE:=Hd (err_ports (g:=nds l) e1 fun h => by rw [portsB_iff.2 h] at e2;cases e2);clear h2 e1 e2 hn
         dsimp only
         go_wp2_with fail
         refine H2.out.mono ?_;rintro e w2 ⟨rfl,hb2⟩
         have HB2:=Hd (HB1.out.trans (hb2.mono HB1.out.size));clear hb2
         dsimp only
         go_wp2_with fail
         go_ret
         exact ⟨reti (by rw [HAT.out,HE.out]),HB2.out⟩
       | true =>
         rw [e2] at h2
         have H2:=Hd h2
         have hp:=portsB_iff.1 e2
         have hpi : ∀ z ∈ xi,portOk (nds l) z:=by have:=hp.1;rw [hn] at this;exact this
         have HP:=Hd hp;have HPI:=Hd hpi;clear h2 e2 hp hpi
         dsimp only
         go_wp2_with fail
         refine H2.out.mono ?_;rintro e w2 ⟨rfl,hb2⟩
         have HB2:=Hd (HB1.out.trans (hb2.mono HB1.out.size))
         have h3:=C3.out w2 HB2.out HPI.out
         rw [← hn] at h3
         clear hb2 c0 c1 c2 c3 c4
         obtain ⟨c0,c1,c2,c3,c4⟩:=HCL.out w2 HB2.out
         cases e3 : deepG (nds l) n with
         | false =>
           rw [e3] at h3
           have H3:=Hd h3
           have HE:=Hd (err_deep (g:=nds l) e1 HP.out fun h => by rw [deepG_iff.2 h] at e3;cases e3);clear h3 e1 e3 hn
           dsimp only
           go_wp2_with fail
           refine H3.out.mono ?_;rintro e w3 ⟨rfl,hb3⟩
           have HB3:=Hd (HB2.out.trans (hb3.mono HB2.out.size));clear hb3
           dsimp only
           go_wp2_with fail
           go_ret
           exact ⟨reti (by rw [HAT.out,HE.out]),HB3.out⟩
         | true =>
           rw [e3] at h3
           have H3:=Hd h3
           have HE:=Hd (err_ok (g:=nds l) e1 HP.out (deepG_iff.1 e3));clear h3 e1 e3 hn
           dsimp only
           go_wp2_with fail
           refine H3.out.mono ?_;rintro e w3 ⟨rfl,hb3⟩
           have HB3:=Hd (HB2.out.trans (hb3.mono HB2.out.size));clear hb3
           dsimp only
           go_wp2_with fail
           go_ret
           exact ⟨reti (by rw [HAT.out,HE.out]),HB3.out⟩
end

section
def witB (xa : Nat) (xb : Int) (last : Nat) (lo hi : Int) : Bool:=decide (xa ≤ last ∧ lo ≤ xb ∧ xb ≤ hi)
def divB (xa : Nat) (xb : Int) (last by_ : Nat) : Bool:=decide (xa ≤ last ∧ (xa ≠ by_ ∨ 0 < xb))
set_option maxHeartbeats 4000000 in
theorem withinCall_any (xk xa : Nat) (xb xd : Int) (xi : List Int) (xA : Option Addr) (xc last : Nat) (lo hi : Int) (b1 b2 b3 : Nat) (w : World) (h1 : w.cell? ⟨b1,0,none⟩ = some (.int .u8 (last : Nat))) (h2 : w.cell? ⟨b2,0,none⟩ = some (.int .i64 lo)) (h3 : w.cell? ⟨b3,0,none⟩ = some (.int .i64 hi)) :
 Calls Tryz.prog 163 #[.agg #[.int .u8 (xk : Nat),.int .u8 (xa : Nat),.int .i64 xb,.int .i64 xd,.slice xA xi.length xc],.pointer (some ⟨b1,0,none⟩),.pointer (some ⟨b2,0,none⟩),.pointer (some ⟨b3,0,none⟩)] w fun e w' => e = .returned (.bool (witB xa xb last lo hi)) ∧ Below w.heap.size w w':=by
 have HB:=Hd ((Below.refl _ w).alloc (Nat.le_refl _) (.cells #[.int .u8 (xk : Nat),.int .u8 (xa : Nat),.int .i64 xb,.int .i64 xd,.slice xA xi.length xc] 58))
 have q1:=old_cell (o:=.cells #[.int .u8 (xk : Nat),.int .u8 (xa : Nat),.int .i64 xb,.int .i64 xd,.slice xA xi.length xc] 58) h1
 have q2:=old_cell (o:=.cells #[.int .u8 (xk : Nat),.int .u8 (xa : Nat),.int .i64 xb,.int .i64 xd,.slice xA xi.length xc] 58) h2
 have q3:=old_cell (o:=.cells #[.int .u8 (xk : Nat),.int .u8 (xa : Nat),.int .i64 xb,.int .i64 xd,.slice xA xi.length xc] 58) h3
 by_cases k1 : (xa : Int) ≤ (last : Int)
 · by_cases k2 : lo ≤ xb
   · by_cases k3 : xb ≤ hi
     · have HY:=Hd (show true = witB xa xb last lo hi by unfold witB;first | exact (decide_eq_true (by omega)).symm | exact (decide_eq_false (by omega)).symm)
       go_enter Tryz.func163,Tryz.ntmps163
       go_wp2_with fail
       go_ret
       exact ⟨retb HY.out,HB.out⟩
     · have HY:=Hd (show false = witB xa xb last lo hi by unfold witB;first | exact (decide_eq_true (by omega)).symm | exact (decide_eq_false (by omega)).symm)
       go_enter Tryz.func163,Tryz.ntmps163
       go_wp2_with fail
       go_ret
       exact ⟨retb HY.out,HB.out⟩
   · have HY:=Hd (show false = witB xa xb last lo hi by unfold witB;first | exact (decide_eq_true (by omega)).symm | exact (decide_eq_false (by omega)).symm)
     go_enter Tryz.func163,Tryz.ntmps163
     go_wp2_with fail
     go_ret
     exact ⟨retb HY.out,HB.out⟩
 · have HY:=Hd (show false = witB xa xb last lo hi by unfold witB;first | exact (decide_eq_true (by omega)).symm | exact (decide_eq_false (by omega)).symm)
   go_enter Tryz.func163,Tryz.ntmps163
   go_wp2_with fail
   go_ret
   exact ⟨retb HY.out,HB.out⟩
set_option maxHeartbeats 4000000 in
theorem dividingCall_any (xk xa : Nat) (xb xd : Int) (xi : List Int) (xA : Option Addr) (xc last by_ : Nat) (b1 b2 : Nat) (w : World) (h1 : w.cell? ⟨b1,0,none⟩ = some (.int .u8 (last : Nat))) (h2 : w.cell? ⟨b2,0,none⟩ = some (.int .u8 (by_ : Nat))) :
 Calls Tryz.prog 165 #[.agg #[.int .u8 (xk : Nat),.int .u8 (xa : Nat),.int .i64 xb,.int .i64 xd,.slice xA xi.length xc],.pointer (some ⟨b1,0,none⟩),.pointer (some ⟨b2,0,none⟩)] w fun e w' => e = .returned (.bool (divB xa xb last by_)) ∧ Below w.heap.size w w':=by
 have HB:=Hd ((Below.refl _ w).alloc (Nat.le_refl _) (.cells #[.int .u8 (xk : Nat),.int .u8 (xa : Nat),.int .i64 xb,.int .i64 xd,.slice xA xi.length xc] 58))
 have q1:=old_cell (o:=.cells #[.int .u8 (xk : Nat),.int .u8 (xa : Nat),.int .i64 xb,.int .i64 xd,.slice xA xi.length xc] 58) h1
 have q2:=old_cell (o:=.cells #[.int .u8 (xk : Nat),.int .u8 (xa : Nat),.int .i64 xb,.int .i64 xd,.slice xA xi.length xc] 58) h2
 by_cases k1 : (xa : Int) ≤ (last : Int)
 · by_cases k2 : xa = by_
   · subst k2
     by_cases k3 : 0 < xb
     · have HY:=Hd (show true = divB xa xb last xa by unfold divB;first | exact (decide_eq_true (by omega)).symm | exact (decide_eq_false (by omega)).symm)
       go_enter Tryz.func165,Tryz.ntmps165
       go_wp2_with fail
       go_ret
       exact ⟨retb HY.out,HB.out⟩
     · have HY:=Hd (show false = divB xa xb last xa by unfold divB;first | exact (decide_eq_true (by omega)).symm | exact (decide_eq_false (by omega)).symm)
       go_enter Tryz.func165,Tryz.ntmps165
       go_wp2_with fail
       go_ret
       exact ⟨retb HY.out,HB.out⟩
   · have k2z : (((xa : Nat) : Int) != ((by_ : Nat) : Int)) = true:=by simp;omega
     have HY:=Hd (show true = divB xa xb last by_ by unfold divB;first | exact (decide_eq_true (by omega)).symm | exact (decide_eq_false (by omega)).symm)
     go_enter Tryz.func165,Tryz.ntmps165
     go_wp2_with fail
     go_ret
     exact ⟨retb HY.out,HB.out⟩
 · have HY:=Hd (show false = divB xa xb last by_ by unfold divB;first | exact (decide_eq_true (by omega)).symm | exact (decide_eq_false (by omega)).symm)
   go_enter Tryz.func165,Tryz.ntmps165
   go_wp2_with fail
   go_ret
   exact ⟨retb HY.out,HB.out⟩
theorem Rules.node {w : World} {m : Nat} {n : Nd} (h : Rules w m) (hk : n.k < 256) :
 ((Instr.lookup 142 (.map (some m)) (.int .u8 (n.k : Nat)) true).run Tryz.prog w = .ok (.tuple #[.nilFunc,.bool false]) w ∧ n.num = false) ∨
 (∃ v last by_,(Instr.lookup 142 (.map (some m)) (.int .u8 (n.k : Nat)) true).run Tryz.prog w = .ok (.tuple #[v,.bool true]) w ∧ Dividing w v last by_ ∧ divB n.a n.b last by_ = n.num) ∨
 ∃ v last lo hi,(Instr.lookup 142 (.map (some m)) (.int .u8 (n.k : Nat)) true).run Tryz.prog w = .ok (.tuple #[v,.bool true]) w ∧ Within w v last lo hi ∧ witB n.a n.b last lo hi = n.num:=by
 rcases h.look hk with ⟨hno,hrun⟩ | ⟨v,hrun,hc⟩
 · refine .inl ⟨hrun,?_⟩
   unfold Nd.num
   rw [if_neg (by omega),if_neg (by omega),if_neg (by omega),if_neg (by omega)]
   exact decide_eq_false (by omega)
 · rcases hc with ⟨e,hd⟩ | ⟨e,hd⟩ | ⟨e,hd⟩ | ⟨e,hd⟩ | ⟨e,hd⟩
   · refine .inr (.inl ⟨v,3,3,hrun,hd,?_⟩)
     unfold Nd.num;rw [if_pos e];rfl
   · refine .inr (.inl ⟨v,2,1,hrun,hd,?_⟩)
     unfold Nd.num;rw [if_neg (by omega),if_pos e];rfl
   · refine .inr (.inr ⟨v,3,0,0,hrun,hd,?_⟩)
     unfold Nd.num witB;rw [if_neg (by omega),if_neg (by omega),if_pos e,Bool.eq_iff_iff,decide_eq_true_eq,decide_eq_true_eq];omega
   · refine .inr (.inr ⟨v,0,1,16,hrun,hd,?_⟩)
     unfold Nd.num witB;rw [if_neg (by omega),if_neg (by omega),if_neg (by omega),if_pos e,Bool.eq_iff_iff,decide_eq_true_eq,decide_eq_true_eq];omega
   · refine .inr (.inr ⟨v,0,0,0,hrun,hd,?_⟩)
     unfold Nd.num witB;rw [if_neg (by omega),if_neg (by omega),if_neg (by omega),if_neg (by omega),Bool.eq_iff_iff,decide_eq_true_eq,decide_eq_true_eq];omega
set_option maxHeartbeats 16000000 in
theorem fault_any (A : Option Addr) (l : List Gn) (c m : Nat) (i : Int) (w : World) (hG : Gr w A l) (hl : l.length ≤ maxLen) (hR : Rules w m) :
 Calls Tryz.prog 100 #[.slice A l.length c,.int .i64 i,.map (some m)] w fun e w' => e = .returned (.int .i64 (nodeE (nds l) i)) ∧ Below w.heap.size w w':=by
 have HML:=Hd hl
 unfold maxLen at hl
 by_cases h0 : i < 0
 · have HN:=Hd (nodeE_out (g:=nds l) (i:=i) (.inl h0))
   clear hR
   go_enter Tryz.func100,Tryz.ntmps100
   go_wp2_with fail
   go_ret
   exact ⟨reti HN.out.symm,Below.refl _ _⟩
 · by_cases h1 : (l.length : Int) ≤ i
   · have HN:=Hd (nodeE_out (g:=nds l) (i:=i) (.inr (by rw [nds_len];exact h1)))
     clear hR
     go_enter Tryz.func100,Tryz.ntmps100
     go_wp2_with fail
     go_ret
     exact ⟨reti HN.out.symm,Below.refl _ _⟩
   · obtain ⟨I,rfl⟩ : ∃ I : Nat,i = (I : Int):=Int.eq_ofNat_of_zero_le (by omega)
     have hIl : I < l.length:=by omega
     have hIz : (I : Int) < (l.length : Int):=by omega
     obtain ⟨x,hx⟩ : ∃ x,l[I]? = some x:=⟨_,List.getElem?_eq_getElem hIl⟩
     have hok:=(hG.ok hx).c
     have hok8:=(hG.ok hx).k
     have hti:=hG.ins hx
     have hat:=nodeE_at (g:=nds l) (i:=I) (n:=x.nd) (by unfold nds;rw [List.getElem?_map,hx];rfl)
     have HG:=Hd hG;clear hG h0 h1
     obtain ⟨⟨xk,xa,xb,xd,xi⟩,xA,xc⟩:=x
     simp only at hok hok8 hti hat
     obtain ⟨n,hn⟩ : ∃ n : Nd,n = ⟨xk,xa,xb,xd,xi⟩:=⟨_,rfl⟩
     rw [← hn] at hat
     obtain ⟨b,o,rfl,hbl,hcl⟩:=HG.out.at_ hx
     have hxm : xi.length ≤ maxLen:=Nat.le_trans hok.1 hok.2
     have C2:=Hd fun w1 (hb : Below w.heap.size w w1) => rightPorts_any (some ⟨b,o,none⟩) l c xk xa xb xd xi xA xc w1 (HG.out.below hb) HML.out (hti.below hb) hxm
     have C3:=Hd fun w1 (hb : Below w.heap.size w w1) (hP : ∀ z ∈ xi,portOk (nds l) z) => rightDepth_any (some ⟨b,o,none⟩) l c xk xa xb xd xi xA xc w1 (HG.out.below hb) HML.out (hti.below hb) hxm hP
     have HCL:=Hd hcl;have HAT:=Hd hat
     obtain ⟨c0,c1,c2,c3,c4⟩:=hcl w (Below.refl _ _)
     simp only at c0 c1 c2 c3 c4
     have hrn:=hR.node (n:=n) (by rw [hn];exact hok8)
     rw [show n.k = xk by rw [hn],show n.a = xa by rw [hn],show n.b = xb by rw [hn]] at hrn
     clear hx hok hti hat hcl hxm hR hok8
     rcases hrn with ⟨hrun,hnum⟩ | ⟨v,last,by_,hrun,⟨b1,b2,rfl,q1,q2⟩,hnum⟩ | ⟨v,last,lo,hi,hrun,⟨b1,b2,b3,rfl,q1,q2,q3⟩,hnum⟩
     · have HE:=Hd (err_num (g:=nds l) hnum);clear hnum hn
       go_enter Tryz.func100,Tryz.ntmps100
       go_wp2_with fail
       go_ret
       exact ⟨reti (by rw [HAT.out,HE.out]),Below.refl _ _⟩
     · have h1:=dividingCall_any xk xa xb xd xi xA xc last by_ b1 b2 w q1 q2
       rw [hnum] at h1
       clear hnum q1 q2
       have eg : ∀ args w,(callFunc 165 args).run Tryz.prog w = .ok (.enter 165 args) w:=enters_of Tryz.func165 (by kernel_rfl) rfl
       cases e1 : n.num with
       | false =>
         rw [e1] at h1
         have H1:=Hd h1;have HE:=Hd (err_num (g:=nds l) e1);clear h1 e1 hn
         go_enter Tryz.func100,Tryz.ntmps100
         go_wp2_with fail
         refine H1.out.mono ?_;rintro e w1 ⟨rfl,hb1⟩
         have HB1:=Hd hb1;clear hb1
         dsimp only
         go_wp2_with fail
         go_ret
         exact ⟨reti (by rw [HAT.out,HE.out]),HB1.out⟩
       | true =>
         rw [e1] at h1
         have H1:=Hd h1;clear h1
         go_enter Tryz.func100,Tryz.ntmps100
         go_wp2_with fail
         refine H1.out.mono ?_;rintro e w1 ⟨rfl,hb1⟩
         have HB1:=Hd hb1
         have h2:=C2.out w1 hb1
         rw [← hn] at h2
         clear hb1 c0 c1 c2 c3 c4
         obtain ⟨c0,c1,c2,c3,c4⟩:=HCL.out w1 HB1.out
         cases e2 : portsB (nds l) n with
         | false =>
           rw [e2] at h2
           have H2:=Hd h2
           have HE:=Hd (err_ports (g:=nds l) e1 fun h => by rw [portsB_iff.2 h] at e2;cases e2);clear h2 e1 e2 hn
           dsimp only
           go_wp2_with fail
           refine H2.out.mono ?_;rintro e w2 ⟨rfl,hb2⟩
           have HB2:=Hd (HB1.out.trans (hb2.mono HB1.out.size));clear hb2
           dsimp only
           go_wp2_with fail
           go_ret
           exact ⟨reti (by rw [HAT.out,HE.out]),HB2.out⟩
         | true =>
           rw [e2] at h2
           have H2:=Hd h2
           have hp:=portsB_iff.1 e2
           have hpi : ∀ z ∈ xi,portOk (nds l) z:=by have:=hp.1;rw [hn] at this;exact this
           have HP:=Hd hp;have HPI:=Hd hpi;clear h2 e2 hp hpi
           dsimp only
           go_wp2_with fail
           refine H2.out.mono ?_;rintro e w2 ⟨rfl,hb2⟩
           have HB2:=Hd (HB1.out.trans (hb2.mono HB1.out.size))
           have h3:=C3.out w2 HB2.out HPI.out
           rw [← hn] at h3
           clear hb2 c0 c1 c2 c3 c4
           obtain ⟨c0,c1,c2,c3,c4⟩:=HCL.out w2 HB2.out
           cases e3 : deepG (nds l) n with
           | false =>
             rw [e3] at h3
             have H3:=Hd h3
             have HE:=Hd (err_deep (g:=nds l) e1 HP.out fun h => by rw [deepG_iff.2 h] at e3;cases e3);clear h3 e1 e3 hn
             dsimp only
             go_wp2_with fail
             refine H3.out.mono ?_;rintro e w3 ⟨rfl,hb3⟩
             have HB3:=Hd (HB2.out.trans (hb3.mono HB2.out.size));clear hb3
             dsimp only
             go_wp2_with fail
             go_ret
             exact ⟨reti (by rw [HAT.out,HE.out]),HB3.out⟩
           | true =>
             rw [e3] at h3
             have H3:=Hd h3
             have HE:=Hd (err_ok (g:=nds l) e1 HP.out (deepG_iff.1 e3));clear h3 e1 e3 hn
             dsimp only
             go_wp2_with fail
             refine H3.out.mono ?_;rintro e w3 ⟨rfl,hb3⟩
             have HB3:=Hd (HB2.out.trans (hb3.mono HB2.out.size));clear hb3
             dsimp only
             go_wp2_with fail
             go_ret
             exact ⟨reti (by rw [HAT.out,HE.out]),HB3.out⟩
     · have h1:=withinCall_any xk xa xb xd xi xA xc last lo hi b1 b2 b3 w q1 q2 q3
       rw [hnum] at h1
       clear hnum q1 q2 q3
       have eg : ∀ args w,(callFunc 163 args).run Tryz.prog w = .ok (.enter 163 args) w:=enters_of Tryz.func163 (by kernel_rfl) rfl
       cases e1 : n.num with
       | false =>
         rw [e1] at h1
         have H1:=Hd h1;have HE:=Hd (err_num (g:=nds l) e1);clear h1 e1 hn
         go_enter Tryz.func100,Tryz.ntmps100
         go_wp2_with fail
         refine H1.out.mono ?_;rintro e w1 ⟨rfl,hb1⟩
         have HB1:=Hd hb1;clear hb1
         dsimp only
         go_wp2_with fail
         go_ret
         exact ⟨reti (by rw [HAT.out,HE.out]),HB1.out⟩
       | true =>
         rw [e1] at h1
         have H1:=Hd h1;clear h1
         go_enter Tryz.func100,Tryz.ntmps100
         go_wp2_with fail
         refine H1.out.mono ?_;rintro e w1 ⟨rfl,hb1⟩
         have HB1:=Hd hb1
         have h2:=C2.out w1 hb1
         rw [← hn] at h2
         clear hb1 c0 c1 c2 c3 c4
         obtain ⟨c0,c1,c2,c3,c4⟩:=HCL.out w1 HB1.out
         cases e2 : portsB (nds l) n with
         | false =>
           rw [e2] at h2
           have H2:=Hd h2
           have HE:=Hd (err_ports (g:=nds l) e1 fun h => by rw [portsB_iff.2 h] at e2;cases e2);clear h2 e1 e2 hn
           dsimp only
           go_wp2_with fail
           refine H2.out.mono ?_;rintro e w2 ⟨rfl,hb2⟩
           have HB2:=Hd (HB1.out.trans (hb2.mono HB1.out.size));clear hb2
           dsimp only
           go_wp2_with fail
           go_ret
           exact ⟨reti (by rw [HAT.out,HE.out]),HB2.out⟩
         | true =>
           rw [e2] at h2
           have H2:=Hd h2
           have hp:=portsB_iff.1 e2
           have hpi : ∀ z ∈ xi,portOk (nds l) z:=by have:=hp.1;rw [hn] at this;exact this
           have HP:=Hd hp;have HPI:=Hd hpi;clear h2 e2 hp hpi
           dsimp only
           go_wp2_with fail
           refine H2.out.mono ?_;rintro e w2 ⟨rfl,hb2⟩
           have HB2:=Hd (HB1.out.trans (hb2.mono HB1.out.size))
           have h3:=C3.out w2 HB2.out HPI.out
           rw [← hn] at h3
           clear hb2 c0 c1 c2 c3 c4
           obtain ⟨c0,c1,c2,c3,c4⟩:=HCL.out w2 HB2.out
           cases e3 : deepG (nds l) n with
           | false =>
             rw [e3] at h3
             have H3:=Hd h3
             have HE:=Hd (err_deep (g:=nds l) e1 HP.out fun h => by rw [deepG_iff.2 h] at e3;cases e3);clear h3 e1 e3 hn
             dsimp only
             go_wp2_with fail
             refine H3.out.mono ?_;rintro e w3 ⟨rfl,hb3⟩
             have HB3:=Hd (HB2.out.trans (hb3.mono HB2.out.size));clear hb3
             dsimp only
             go_wp2_with fail
             go_ret
             exact ⟨reti (by rw [HAT.out,HE.out]),HB3.out⟩
           | true =>
             rw [e3] at h3
             have H3:=Hd h3
             have HE:=Hd (err_ok (g:=nds l) e1 HP.out (deepG_iff.1 e3));clear h3 e1 e3 hn
             dsimp only
             go_wp2_with fail
             refine H3.out.mono ?_;rintro e w3 ⟨rfl,hb3⟩
             have HB3:=Hd (HB2.out.trans (hb3.mono HB2.out.size));clear hb3
             dsimp only
             go_wp2_with fail
             go_ret
             exact ⟨reti (by rw [HAT.out,HE.out]),HB3.out⟩
end

section
def AppD (w0 : World) (cs : List Nat) (e : Ending) (w' : World) : Prop:=(∃ v',e = .returned v' ∧ w'.ownsRow w0.heap.size 5 kindB.K v' cs.length (Rw.row kindB cs)) ∧ Below w0.heap.size w0 w'
theorem PutS.app0 {w0 w w' : World} {base g : Nat} {cs : List Value} {v v' : Value} {bs ys : List Nat} (h : PutS w0 w base g cs v bs) (hv : w'.ownsRow base 5 kindB.K v' (bs.length + ys.length) (Rw.row kindB (bs ++ ys)))
 (hg : w.grownBy w' v.ownBlock) : PutS w0 w' base g cs v' (bs ++ ys) where
 below:=Rw.own_below h.own hg h.below h.lo
 lo:=by have:=h.lo;have:=hg.size;omega
 row:=h.row.grown hg (Rw.own_apart h.own h.row (by decide))
 own:=by rw [List.length_append];exact hv
structure HeadS (w0 w : World) (base g : Nat) (cs : List Value) (v : Value) (bs : List Nat) (hd : List Nat) : Prop where
 put : PutS w0 w base g cs v bs
 arr : Row w (g + 1) 236 (Rw.row kindB hd)
 hg : base ≤ g
theorem row_set : ∀ (hd : List Nat) (i y : Nat),(Rw.row kindB hd).set i (.int .u8 (y : Nat)) = Rw.row kindB (hd.set i y)
 | [],i,y => by simp [Rw.row]
 | x :: l,0,y => by simp [Rw.row,kindB]
 | x :: l,i + 1,y => by
   have:=row_set l i y
   rw [List.set_cons_succ,Rw.row_cons,Rw.row_cons,← this]
   rfl
theorem HeadS.step {w0 w : World} {base g : Nat} {cs : List Value} {v : Value} {bs hd : List Nat} (h : HeadS w0 w base g cs v bs hd) (i y : Nat) : HeadS w0 (w.setCell ⟨g + 1,i,none⟩ (.int .u8 (y : Nat))) base g cs v bs (hd.set i y) where
 put:=⟨h.put.below.setCell (by have:=h.hg;show base ≤ g + 1;omega) _,by have:=h.put.lo;simpa [World.setCell] using this,h.put.row.far (p:=⟨g + 1,i,none⟩) (by show g ≠ g + 1;omega) _,
  h.put.own.kept (grown_set w (g + 1) i _) (.inr fun e => Rw.own_apart h.put.own h.arr (by decide) e.symm)⟩
 arr:=by rw [← row_set];exact h.arr.put i _
 hg:=h.hg
theorem HeadS.drew {w0 w : World} {base g : Nat} {cs : List Value} {v : Value} {bs hd : List Nat} (h : HeadS w0 w base g cs v bs hd) : HeadS w0 w.drew base g cs v bs hd:=⟨⟨h.put.below.drew,h.put.lo,h.put.row,h.put.own⟩,h.arr,h.hg⟩
theorem HeadS.made {w0 w : World} {v : Value} {bs : List Nat} (hb : Below w0.heap.size w0 w) (ho : w.ownsRow w0.heap.size 5 kindB.K v bs.length (Rw.row kindB bs)) (cs : List Value) (hd : List Nat) (ar : Array Value) (har : ar = (Rw.row kindB hd).toArray) :
 HeadS w0 ((w.alloc (.cells cs.toArray 58)).alloc (.cells ar 236)).drew w0.heap.size w.heap.size cs v bs hd:=by
 subst har
 refine ⟨⟨((hb.alloc hb.size _).alloc (by have:=hb.size;simp;omega) _).drew,by have:=hb.size;simp;omega,((Row.made w _ cs).alloc _).drew,((ho.alloc _).alloc _).drew⟩,?_,hb.size⟩
 have:=Row.made (w.alloc (.cells cs.toArray 58)) 236 (Rw.row kindB hd)
 rw [show (w.alloc (.cells cs.toArray 58)).heap.size = w.heap.size + 1 by simp] at this
 exact this
theorem HeadS.cell {w0 w : World} {base g : Nat} {cs : List Value} {v : Value} {bs hd : List Nat} (h : HeadS w0 w base g cs v bs hd) {i x : Nat} (hi : hd[i]? = some x) : w.cell? ⟨g + 1,i,none⟩ = some (.int .u8 (x : Nat)):=by
 rw [h.arr.cell]
 have:=Rw.row_at (κ:=kindB) hd i x hi 0 (.int .u8 (x : Nat)) rfl
 simpa [kindB] using this
def headL (xk xa : Nat) (l : List Nat) (j : Nat) : List Nat:=[xk,xa] ++ List.replicate (8 - j) 0 ++ l.drop (8 - j) ++ [0,0]
set_option maxHeartbeats 16000000 in
theorem appendNode_any (w0 : World) (xk xa D : Nat) (xb : Int) (xi : List Int) (xA : Option Addr) (xc : Nat) (v : Value) (bs : List Nat) (w : World) (hb0 : Below w0.heap.size w0 w) (ht : Rw.Ts kindI w0 xA xi) (ho : w.ownsRow w0.heap.size 5 kindB.K v bs.length (Rw.row kindB bs))
 (hl : bs.length ≤ 500) (hB : -9223372036854775808 ≤ xb ∧ xb ≤ 9223372036854775807) (hd : D ≤ 3) (hli : xi.length ≤ 2) (hz : ∀ z ∈ xi,0 ≤ z ∧ z ≤ 31) :
 Calls Tryz.prog 161 #[v,.agg #[.int .u8 (xk : Nat),.int .u8 (xa : Nat),.int .i64 xb,.int .i64 (D : Nat),.slice xA xi.length xc]] w (AppD w0 (bs ++ Nd.put ⟨xk,xa,xb,D,xi⟩)):=by
 have HB:=Hd hb0;have HT:=Hd ht;have HO:=Hd ho;have HL:=Hd hl;have HZ:=Hd hz;clear hb0 ht ho hl hz
 go_enter Tryz.func161,Tryz.ntmps161
 go_upto_region 2 with fail
 go_cut [] from 9 to 14 (fun wx => HeadS w0 wx w0.heap.size w.heap.size [.int .u8 (xk : Nat),.int .u8 (xa : Nat),.int .i64 xb,.int .i64 (D : Nat),.slice xA xi.length xc] v bs (headL xk xa (be8 (uns xb)) 0))
 case first =>
  go_region
  go_wp2_with fail
  go_meet
  exact HeadS.made HB.out HO.out _ _ _ rfl
 case rest =>
  have HC:=Hd hcut;clear hcut
  go_wp2_with fail
  go_loopw [15] (fun i wx => ∃ j : Nat,j ≤ 8 ∧ i = .int .i64 j ∧ HeadS w0 wx w0.heap.size w.heap.size [.int .u8 (xk : Nat),.int .u8 (xa : Nat),.int .i64 xb,.int .i64 (D : Nat),.slice xA xi.length xc] v bs (headL xk xa (be8 (uns xb)) j)) (fun i _ => 8 - (intOf i).toNat)
  case atStart => exact ⟨0,by omega,rfl,HC.out⟩
  case round =>
   obtain ⟨j,hj,rfl,hps⟩:=hrel
   have d2 : wr.cell? ⟨w.heap.size,2,none⟩ = some (.int .i64 xb):=hps.put.row.cell 2
   have f9 : ∀ i,wr.frozen? ⟨w.heap.size + 1,i,none⟩ = false:=fun i => hps.arr.free i
   have HP:=Hd hps;clear hps HC
   by_cases hj8 : j < 8
   · rcases (show j = 0 ∨ j = 1 ∨ j = 2 ∨ j = 3 ∨ j = 4 ∨ j = 5 ∨ j = 6 ∨ j = 7 by omega) with rfl | rfl | rfl | rfl | rfl | rfl | rfl | rfl
     · have e9 : wr.cell? ⟨w.heap.size + 1,9,none⟩ = some (.int .u8 ((0 : Nat) : Nat)):=HP.out.cell (hd:=headL xk xa (be8 (uns xb)) 0) rfl
       have f9':=f9 9
       clear f9
       obtain ⟨y,hy,hyE⟩ : ∃ y : Nat,y = uns xb % 256 ∧ xb % 256 = (y : Int):=⟨_,rfl,by unfold uns;omega⟩
       have HY:=Hd hy;clear hy
       go_wp2_with fail
       go_roundw
       case rel => exact ⟨1,by omega,rfl,by have h:=HP.out.step 9 y;rw [HY.out] at h ⊢;exact h⟩
       case measure => simp [intOf]
     · have e9 : wr.cell? ⟨w.heap.size + 1,8,none⟩ = some (.int .u8 ((0 : Nat) : Nat)):=HP.out.cell (hd:=headL xk xa (be8 (uns xb)) 1) rfl
       have f9':=f9 8
       clear f9
       obtain ⟨y,hy,hyE⟩ : ∃ y : Nat,y = uns xb / 256 % 256 ∧ xb / 256 % 256 = (y : Int):=⟨_,rfl,by unfold uns;omega⟩
       have HY:=Hd hy;clear hy
       go_wp2_with fail
       go_roundw
       case rel => exact ⟨2,by omega,rfl,by have h:=HP.out.step 8 y;rw [HY.out] at h ⊢;exact h⟩
       case measure => simp [intOf]
     · have e9 : wr.cell? ⟨w.heap.size + 1,7,none⟩ = some (.int .u8 ((0 : Nat) : Nat)):=HP.out.cell (hd:=headL xk xa (be8 (uns xb)) 2) rfl
       have f9':=f9 7
       clear f9
       obtain ⟨y,hy,hyE⟩ : ∃ y : Nat,y = uns xb / 65536 % 256 ∧ xb / 65536 % 256 = (y : Int):=⟨_,rfl,by unfold uns;omega⟩
       have HY:=Hd hy;clear hy
       go_wp2_with fail
       go_roundw
       case rel => exact ⟨3,by omega,rfl,by have h:=HP.out.step 7 y;rw [HY.out] at h ⊢;exact h⟩
       case measure => simp [intOf]
     · have e9 : wr.cell? ⟨w.heap.size + 1,6,none⟩ = some (.int .u8 ((0 : Nat) : Nat)):=HP.out.cell (hd:=headL xk xa (be8 (uns xb)) 3) rfl
       have f9':=f9 6
       clear f9
       obtain ⟨y,hy,hyE⟩ : ∃ y : Nat,y = uns xb / 16777216 % 256 ∧ xb / 16777216 % 256 = (y : Int):=⟨_,rfl,by unfold uns;omega⟩
       have HY:=Hd hy;clear hy
       go_wp2_with fail
       go_roundw
       case rel => exact ⟨4,by omega,rfl,by have h:=HP.out.step 6 y;rw [HY.out] at h ⊢;exact h⟩
       case measure => simp [intOf]
     · have e9 : wr.cell? ⟨w.heap.size + 1,5,none⟩ = some (.int .u8 ((0 : Nat) : Nat)):=HP.out.cell (hd:=headL xk xa (be8 (uns xb)) 4) rfl
       have f9':=f9 5
       clear f9
       obtain ⟨y,hy,hyE⟩ : ∃ y : Nat,y = uns xb / 4294967296 % 256 ∧ xb / 4294967296 % 256 = (y : Int):=⟨_,rfl,by unfold uns;omega⟩
       have HY:=Hd hy;clear hy
       go_wp2_with fail
       go_roundw
       case rel => exact ⟨5,by omega,rfl,by have h:=HP.out.step 5 y;rw [HY.out] at h ⊢;exact h⟩
       case measure => simp [intOf]
     · have e9 : wr.cell? ⟨w.heap.size + 1,4,none⟩ = some (.int .u8 ((0 : Nat) : Nat)):=HP.out.cell (hd:=headL xk xa (be8 (uns xb)) 5) rfl
       have f9':=f9 4
       clear f9
       obtain ⟨y,hy,hyE⟩ : ∃ y : Nat,y = uns xb / 1099511627776 % 256 ∧ xb / 1099511627776 % 256 = (y : Int):=⟨_,rfl,by unfold uns;omega⟩
       have HY:=Hd hy;clear hy
       go_wp2_with fail
       go_roundw
       case rel => exact ⟨6,by omega,rfl,by have h:=HP.out.step 4 y;rw [HY.out] at h ⊢;exact h⟩
       case measure => simp [intOf]
     · have e9 : wr.cell? ⟨w.heap.size + 1,3,none⟩ = some (.int .u8 ((0 : Nat) : Nat)):=HP.out.cell (hd:=headL xk xa (be8 (uns xb)) 6) rfl
       have f9':=f9 3
       clear f9
       obtain ⟨y,hy,hyE⟩ : ∃ y : Nat,y = uns xb / 281474976710656 % 256 ∧ xb / 281474976710656 % 256 = (y : Int):=⟨_,rfl,by unfold uns;omega⟩
       have HY:=Hd hy;clear hy
       go_wp2_with fail
       go_roundw
       case rel => exact ⟨7,by omega,rfl,by have h:=HP.out.step 3 y;rw [HY.out] at h ⊢;exact h⟩
       case measure => simp [intOf]
     · have e9 : wr.cell? ⟨w.heap.size + 1,2,none⟩ = some (.int .u8 ((0 : Nat) : Nat)):=HP.out.cell (hd:=headL xk xa (be8 (uns xb)) 7) rfl
       have f9':=f9 2
       clear f9
       obtain ⟨y,hy,hyE⟩ : ∃ y : Nat,y = uns xb / 72057594037927936 % 256 ∧ xb / 72057594037927936 % 256 = (y : Int):=⟨_,rfl,by unfold uns;omega⟩
       have HY:=Hd hy;clear hy
       go_wp2_with fail
       go_roundw
       case rel => exact ⟨8,by omega,rfl,by have h:=HP.out.step 2 y;rw [HY.out] at h ⊢;exact h⟩
       case measure => simp [intOf]
   · obtain rfl : j = 8:=by omega
     have d3 : wr.cell? ⟨w.heap.size,3,none⟩ = some (.int .i64 (D : Nat)):=HP.out.put.row.cell 3
     have d4 : wr.cell? ⟨w.heap.size,4,none⟩ = some (.slice xA xi.length xc):=HP.out.put.row.cell 4
     have e10 : wr.cell? ⟨w.heap.size + 1,10,none⟩ = some (.int .u8 ((0 : Nat) : Nat)):=HP.out.cell (hd:=headL xk xa (be8 (uns xb)) 8) rfl
     have e11 : wr.cell? ⟨w.heap.size + 1,11,none⟩ = some (.int .u8 ((0 : Nat) : Nat)):=HP.out.cell (hd:=headL xk xa (be8 (uns xb)) 8) rfl
     have g10:=f9 10
     have g11:=f9 11
     clear f9 d2
     go_upto_region 8 with fail
     go_cut [] from 28 to 36 (fun wx => HeadS w0 wx w0.heap.size w.heap.size [.int .u8 (xk : Nat),.int .u8 (xa : Nat),.int .i64 xb,.int .i64 (D : Nat),.slice xA xi.length xc] v bs ([xk,xa] ++ be8 (uns xb) ++ [D,xi.length]))
     case first =>
      go_region
      go_wp2_with fail
      go_meet
      exact ((HP.out.step 10 D).step 11 xi.length).drew
     case rest =>
      have HC:=Hd hcut;clear hcut d3 d4 e10 e11 g10 g11
      go_wp2_with (at_builtin;refine append_b rfl _ _ rfl w0.heap.size _ bs.length bs rfl HC.out.put.own (w.heap.size + 1) 12 ([xk,xa] ++ be8 (uns xb) ++ [D,xi.length]) rfl (Rw.Ts.of_row HC.out.arr) (by have:=HL.out;simp [be8];omega) HC.out.put.lo ?_;intro v1 w3 hv1 hg1;have hp1:=HC.out.put.app0 hv1 hg1;have d4 : w3.cell? ⟨w.heap.size,4,none⟩ = some (.slice xA xi.length xc):=hp1.row.cell 4;have HP1:=Hd hp1;clear hp1 hv1 hg1)
      go_loopw [0,43] (fun u i wx => ∃ p : Nat,p ≤ xi.length ∧ i = .int .i64 (p : Nat) ∧ PutS w0 wx w0.heap.size w.heap.size [.int .u8 (xk : Nat),.int .u8 (xa : Nat),.int .i64 xb,.int .i64 (D : Nat),.slice xA xi.length xc] u (bs ++ ([xk,xa] ++ be8 (uns xb) ++ [D,xi.length]) ++ (xi.take p).map Int.toNat)) (fun _ i _ => xi.length - (intOf i).toNat)
      case atStart => exact ⟨0,by omega,rfl,by simpa using HP1.out⟩
      case round =>
       obtain ⟨p,hp,rfl,hps⟩:=hrel
       have hbl : (bs ++ ([xk,xa] ++ be8 (uns xb) ++ [D,xi.length]) ++ (xi.take p).map Int.toNat).length ≤ 600:=by have:=HL.out;simp [be8];omega
       have HQ2:=Hd hps;have HBL2:=Hd hbl;clear hps hbl HP1 d4
       by_cases hlp : p < xi.length
       · have hpz : (p : Int) < (xi.length : Int):=by omega
         obtain ⟨z,hz1⟩ : ∃ z,xi[p]? = some z:=⟨_,List.getElem?_eq_getElem hlp⟩
         have hzz:=HZ.out z (List.mem_of_getElem? hz1)
         obtain ⟨Z,rfl⟩ : ∃ Z : Nat,z = (Z : Int):=Int.eq_ofNat_of_zero_le hzz.1
         obtain ⟨bb,oo,rfl,_,hq1⟩:=ints_at HT.out hz1
         have q1:=hq1 wr HQ2.out.below
         have hZ : Z ≤ 31:=by omega
         have HZ1:=Hd hz1;clear hz1 hq1 hzz
         have hbase:=HQ2.out.lo
         have HBA2:=Hd hbase;clear hbase
         go_wp2_with (at_builtin;refine append_b rfl _ _ rfl w0.heap.size _ _ _ rfl (HQ2.out.own.alloc _) _ 1 [Z] rfl (Rw.Ts.made _ [Z] _) (by have:=HBL2.out;simp only [List.length_cons,List.length_nil];omega) (by have:=HBA2.out;simp;omega) ?_;intro v1 w3 hv1 hg1;have hp1:=HQ2.out.app _ hv1 hg1;have HP1:=Hd hp1;clear hp1 hv1 hg1)
         go_roundw
         case rel => exact ⟨p + 1,by omega,by simp,by have:=HP1.out;rw [List.append_assoc (bs ++ ([xk,xa] ++ be8 (uns xb) ++ [D,xi.length]))] at this;have e : (xi.take (p + 1)).map Int.toNat = (xi.take p).map Int.toNat ++ [Z]:=by { rw [List.take_add_one,HZ1.out,List.map_append];rfl };rw [e];exact this⟩
         case measure => simp only [intOf];omega
       · have hpz : ¬ (p : Int) < (xi.length : Int):=by omega
         have hpe : p = xi.length:=by omega
         have HPE:=Hd hpe;clear hpe
         go_wp2_with fail
         go_ret
         refine ⟨⟨_,rfl,?_⟩,HQ2.out.below⟩
         have h:=HQ2.out.own
         have e : bs ++ Nd.put ⟨xk,xa,xb,D,xi⟩ = bs ++ ([xk,xa] ++ be8 (uns xb) ++ [D,xi.length]) ++ (xi.take p).map Int.toNat:=by
          rw [HPE.out,List.take_length]
          simp [Nd.put,be8]
         rw [e];exact h
set_option maxHeartbeats 8000000 in
theorem flowPut_any (A : Option Addr) (l : List Gn) (c : Nat) (w : World) (hG : Gr w A l) (hl : l.length ≤ maxLen) :
 Calls Tryz.prog 98 #[.slice A l.length c] w (PutD (nds l) w):=by
 have hlen:=rightLength_any A l.length c w hl
 have hrn:=rightNodes_any A l c w hG hl
 unfold maxLen at hl
 have HG:=Hd hG;clear hG
 cases hle : lengthB l.length with
 | false =>
   rw [hle] at hlen
   have hn : ¬ (0 < l.length ∧ l.length ≤ 32):=by unfold lengthB at hle;exact of_decide_eq_false hle
   have he : (3 : Int) = putE (nds l):=by unfold putE;rw [if_pos (by rw [nds_len];omega)]
   have h0 : putO (nds l) = []:=by unfold putO;rw [if_pos (by rw [nds_len];omega)]
   have HE:=Hd he;have H0:=Hd h0;have H1:=Hd hlen;clear he h0 hlen hrn hn hle
   go_enter Tryz.func98,Tryz.ntmps98
   go_wp2_with fail
   refine H1.out.mono ?_;rintro e w1 ⟨rfl,rfl⟩
   dsimp only
   go_wp2_with fail
   go_ret2
   exact PutD.nil HE.out H0.out (Below.refl _ _)
 | true =>
   rw [hle] at hlen
   have hn : 0 < l.length ∧ l.length ≤ 32:=by unfold lengthB at hle;exact of_decide_eq_true hle
   cases hmb : rightB (nds l) with
   | false =>
     rw [hmb] at hrn
     have hm : mayB (nds l) = false:=(mayB_no fun h => by rw [rightB_iff.2 h.2] at hmb;cases hmb).symm
     have he : (90 : Int) = putE (nds l):=by unfold putE;rw [if_neg (by rw [nds_len];omega),if_neg (by rw [hm];simp)]
     have h0 : putO (nds l) = []:=by unfold putO;rw [if_neg (by rw [nds_len];omega),if_neg (by rw [hm];simp)]
     have HE:=Hd he;have H0:=Hd h0;have H1:=Hd hlen;have H2:=Hd hrn;clear he h0 hlen hrn hn hle hmb hm
     go_enter Tryz.func98,Tryz.ntmps98
     go_wp2_with fail
     refine H1.out.mono ?_;rintro e w1 ⟨rfl,rfl⟩
     dsimp only
     go_wp2_with fail
     refine H2.out.mono ?_;rintro e w1 ⟨rfl,hb1⟩
     have HB1:=Hd hb1;clear hb1
     dsimp only
     go_wp2_with fail
     go_ret2
     exact PutD.nil HE.out H0.out HB1.out
   | true =>
     rw [hmb] at hrn
     have hmay : GMay (nds l):=⟨by rw [nds_len];omega,rightB_iff.1 hmb⟩
     have hm : mayB (nds l) = true:=mayB_iff.2 hmay
     have he : (0 : Int) = putE (nds l):=by unfold putE;rw [if_neg (by rw [nds_len];omega),if_pos hm]
     have h0 : putO (nds l) = putG (nds l):=by unfold putO;rw [if_neg (by rw [nds_len];omega),if_pos hm]
     have HE:=Hd he;have H0:=Hd h0;have H1:=Hd hlen;have H2:=Hd hrn;have HMAY:=Hd hmay;clear he h0 hlen hrn hle hmb hm hmay
     obtain ⟨hn0,hn32⟩:=hn
     go_enter Tryz.func98,Tryz.ntmps98
     go_wp2_with fail
     refine H1.out.mono ?_;rintro e w1 ⟨rfl,rfl⟩
     dsimp only
     go_wp2_with fail
     refine H2.out.mono ?_;rintro e wz ⟨rfl,hb1⟩
     have HBZ:=Hd hb1;clear hb1
     dsimp only
     go_wp2_with fail
     go_loopw [4,19] (fun v i wr => ∃ k : Nat,k ≤ l.length ∧ i = .int .i64 k ∧ Below w.heap.size w wr ∧ wr.ownsRow w.heap.size 5 kindB.K v (l.length :: putNs (nds (l.take k))).length (Rw.row kindB (l.length :: putNs (nds (l.take k))))) (fun _ i _ => l.length - (intOf i).toNat)
     case atStart => exact ⟨0,by omega,rfl,HBZ.out.alloc HBZ.out.size _,own_base (World.ownsRow_lit wz #[.int .u8 (l.length : Nat)] 1 (Nat.le_refl _) (by decide) rfl) HBZ.out.size⟩
     case round =>
      obtain ⟨k,hk,rfl,hb,hown⟩:=hrel
      have HB:=Hd hb;have HO:=Hd hown;clear hb hown
      by_cases hlt : k < l.length
      · have hltz : (k : Int) < (l.length : Int):=by omega
        obtain ⟨x,hx⟩ : ∃ x,l[k]? = some x:=⟨_,List.getElem?_eq_getElem hlt⟩
        have hmy:=HMAY.out.2 x.nd (List.mem_map.2 ⟨x,List.mem_of_getElem? hx,rfl⟩)
        have hbs:=putNs_take HMAY.out k
        have hok:=HG.out.ok hx
        have hti:=HG.out.ins hx
        have hmore:=putNs_more hx
        generalize hbd : (l.length :: putNs (nds (l.take k))) = bs at *
        obtain ⟨⟨xk,xa,xb,xd,xi⟩,xA,xc⟩:=x
        obtain ⟨D,rfl⟩ : ∃ D : Nat,xd = (D : Int):=Int.eq_ofNat_of_zero_le hmy.1.1
        obtain ⟨b,o,rfl,hbl,hcl⟩:=HG.out.at_ hx
        obtain ⟨c0,c1,c2,c3,c4⟩:=hcl wr HB.out
        simp only at c0 c1 c2 c3 c4 hti hmore
        have hcall:=appendNode_any w xk xa D xb xi xA xc _ bs (wr.alloc (.cells #[.int .u8 (xk : Nat),.int .u8 (xa : Nat),.int .i64 xb,.int .i64 (D : Nat),.slice xA xi.length xc] 58)) (HB.out.alloc HB.out.size _) hti (HO.out.alloc _) hbs hok.b (by have:=hmy.1.2;simp only at this;omega) hmy.2.1 hmy.2.2
        have HC:=Hd hcall;have HBD:=Hd hbd;have HMO:=Hd hmore;clear hcall hbd hmore hx hcl hmy hok hbs hti
        go_wp2_with fail
        refine HC.out.mono ?_;rintro e w3 ⟨⟨v3,rfl,hv3⟩,hb3⟩
        have HV3:=Hd hv3;have HB3:=Hd hb3;clear hv3 hb3 c0 c1 c2 c3 c4
        dsimp only
        go_wp2_with fail
        go_roundw
        case rel =>
         refine ⟨k + 1,by omega,by simp,HB3.out,?_⟩
         have h:=HV3.out
         rw [HMO.out,← List.cons_append,HBD.out]
         exact h
        case measure => simp only [intOf];omega
      · have hltz : ¬ (k : Int) < (l.length : Int):=by omega
        have hke : k = l.length:=by omega
        have HK:=Hd hke;clear hke hlt hk
        go_wp2_with fail
        go_ret2
        have h:=HO.out
        rw [HK.out,List.take_length] at h
        have e : putO (nds l) = l.length :: putNs (nds l):=by rw [H0.out];unfold putG;rw [nds_len]
        exact PutD.yes HE.out e h HB.out
end

section
set_option maxHeartbeats 4000000 in
theorem refStays_any (xk xa : Nat) (xb xd : Int) (xi : List Int) (xA : Option Addr) (xc : Nat) (least : Int) (w : World) :
 Calls Tryz.prog 138 #[.agg #[.int .u8 (xk : Nat),.int .u8 (xa : Nat),.int .i64 xb,.int .i64 xd,.slice xA xi.length xc],.int .i64 least] w fun e w' => e = .returned (.bool (Nd.stays ⟨xk,xa,xb,xd,xi⟩ least)) ∧ Below w.heap.size w w':=by
 have HB:=Hd ((Below.refl _ w).alloc (Nat.le_refl _) (.cells #[.int .u8 (xk : Nat),.int .u8 (xa : Nat),.int .i64 xb,.int .i64 xd,.slice xA xi.length xc] 58))
 by_cases h1 : least < xd
 · have HY:=Hd (show true = Nd.stays ⟨xk,xa,xb,xd,xi⟩ least by unfold Nd.stays;exact (decide_eq_true (.inl h1)).symm)
   go_enter Tryz.func138,Tryz.ntmps138
   go_wp2_with fail
   go_ret
   exact ⟨retb HY.out,HB.out⟩
 · by_cases h2 : xd = least
   · subst h2
     by_cases h3 : xk = 9
     · subst h3
       have HY:=Hd (show false = Nd.stays ⟨9,xa,xb,xd,xi⟩ xd by unfold Nd.stays;exact (decide_eq_false (by simp)).symm)
       go_enter Tryz.func138,Tryz.ntmps138
       go_wp2_with fail
       go_ret
       exact ⟨retb HY.out,HB.out⟩
     · have h3z : (((xk : Nat) : Int) != 9) = true:=by simp;omega
       have HY:=Hd (show true = Nd.stays ⟨xk,xa,xb,xd,xi⟩ xd by unfold Nd.stays;exact (decide_eq_true (.inr ⟨rfl,h3⟩)).symm)
       go_enter Tryz.func138,Tryz.ntmps138
       go_wp2_with fail
       go_ret
       exact ⟨retb HY.out,HB.out⟩
   · have h2z : (xd == least) = false:=by simpa using h2
     have HY:=Hd (show false = Nd.stays ⟨xk,xa,xb,xd,xi⟩ least by unfold Nd.stays;exact (decide_eq_false (by simp;omega)).symm)
     clear h2
     go_enter Tryz.func138,Tryz.ntmps138
     go_wp2_with fail
     go_ret
     exact ⟨retb HY.out,HB.out⟩
end
end Go.Proofs.YtonelpnhoiajgaaGreatDoor
