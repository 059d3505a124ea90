import Derived.Test.YtonelpnhoiajgaaGreatDoorHd
import Derived.Test.YtonelpnhoiajgaaGreatDoorCa8
import Derived.Test.YtonelpnhoiajgaaGreatDoorCa1
import Derived.Test.YtonelpnhoiajgaaGreatDoorCa5
namespace Go.Proofs.YtonelpnhoiajgaaGreatDoor
set_option linter.unusedSimpArgs false
set_option linter.unusedVariables false
section
namespace Mx
open Go.ChangeShapes Go.WideShapes Go.ChangeAt Go.RowKit Go.BigFrame Go.Shelf
set_option maxRecDepth 100000
theorem L_A {x y : Sm} (h : x.L y) : x = y ∨ x.A y:=by
 by_cases e : x = y
 · exact .inl e
 · refine .inr ?_
   rcases Sm.A_total e with h1 | h1
   · exact h1
   · exfalso
     have n0:=Sm.L_at h (i:=0) (by omega) (by omega);have n1:=Sm.L_at h (i:=1) (by omega) (by omega);have n2:=Sm.L_at h (i:=2) (by omega) (by omega)
     obtain ⟨hx,hy,hf,ht,hk,-⟩:=id h
     have hx':=hx;have hy':=hy
     unfold Sm.R at hx' hy'
     unfold Sm.A at h1
     have hkk : x.kp = y.kp:=by omega
     have hk4 : x.kp = 0 ∨ x.kp = 1 ∨ x.kp = 2 ∨ x.kp = 3:=by omega
     unfold Sm.N Sm.tl at n0 n1 n2
     rw [← hkk] at n0 n1 n2
     rcases hk4 with e | e | e | e <;> rw [e] at n0 n1 n2 <;> simp at n0 n1 n2 <;> omega
def take1 (f : List Sm) (t : Sm) : List Sm:=if (f.any fun x => decide (x.L t)) then f else f ++ [t]
def greedy (ds : List Sm) : List Sm:=ds.foldl take1 []
theorem greedy_snoc (ds : List Sm) (t : Sm) : greedy (ds ++ [t]) = take1 (greedy ds) t:=by simp [greedy]
structure Gr (ds us : List Sm) : Prop where
 sub : us.Sublist ds
 all : ∀ x ∈ ds,∃ y ∈ us,y.L x
 least : ∀ x ∈ us,∀ y ∈ ds,y.L x → y = x
theorem Gr.step {ds us : List Sm} {t : Sm} (h : Gr ds us) (hR : t.R) (hs : ∀ x ∈ ds,x.C t < 0) : Gr (ds ++ [t]) (take1 us t):=by
 have hno : ∀ x ∈ us,¬ t.L x:=fun x hx hl => by
  have h1:=hs x (h.sub.subset hx)
  rcases L_A hl with e | e
  · subst e
    have:=(Sm.C_zero (a:=t) (b:=t)).2 rfl
    omega
  · have h2:=C_neg.2 e
    have h3:=Sm.C_swap (a:=t) (b:=x)
    omega
 unfold take1
 split
 · rename_i ha
   obtain ⟨u,hu,hl⟩:=List.any_eq_true.1 ha
   have hl : u.L t:=by simpa using hl
   refine ⟨h.sub.trans (List.sublist_append_left _ _),fun x hx => ?_,fun x hx y hy hyx => ?_⟩
   · rcases List.mem_append.1 hx with hx | hx
     · exact h.all x hx
     · rw [List.mem_singleton] at hx;subst hx;exact ⟨u,hu,hl⟩
   · rcases List.mem_append.1 hy with hy | hy
     · exact h.least x hx y hy hyx
     · rw [List.mem_singleton] at hy;subst hy;exact absurd hyx (hno x hx)
 · rename_i ha
   have ha : ∀ u ∈ us,¬ u.L t:=fun u hu hl => ha (List.any_eq_true.2 ⟨u,hu,by simpa using hl⟩)
   refine ⟨h.sub.append (List.Sublist.refl _),fun x hx => ?_,fun x hx y hy hyx => ?_⟩
   · rcases List.mem_append.1 hx with hx | hx
     · obtain ⟨y,hy,hl⟩:=h.all x hx
       exact ⟨y,List.mem_append_left _ hy,hl⟩
     · rw [List.mem_singleton] at hx;subst hx;exact ⟨x,List.mem_append_right _ (by simp),Sm.L_refl.2 hR⟩
   · rcases List.mem_append.1 hx with kx | kx <;> rcases List.mem_append.1 hy with ky | ky
     · exact h.least x kx y ky hyx
     · rw [List.mem_singleton] at ky;rw [ky] at hyx;exact absurd hyx (hno x kx)
     · rw [List.mem_singleton] at kx;rw [kx] at hyx
       obtain ⟨u,hu,hl⟩:=h.all y ky
       exact absurd (Sm.L_trans hl hyx) (ha u hu)
     · rw [List.mem_singleton] at kx ky;rw [kx,ky]
theorem gr_greedy : ∀ (n : Nat) (ds : List Sm),ds.length = n → (∀ x ∈ ds,x.R) → ds.Pairwise (fun x y => x.C y < 0) → Gr ds (greedy ds):=by
 intro n
 induction n with
 | zero =>
   intro ds hl _ _
   have:=List.eq_nil_of_length_eq_zero hl
   subst this
   exact ⟨List.Sublist.refl _,by simp,by simp [greedy]⟩
 | succ n ih =>
   intro ds hl hR hp
   rcases List.eq_nil_or_concat ds with rfl | ⟨es,t,rfl⟩
   · simp at hl
   · rw [List.concat_eq_append] at *
     rw [List.pairwise_append] at hp
     rw [greedy_snoc]
     exact (ih es (by simpa using hl) (fun x hx => hR x (List.mem_append_left _ hx)) hp.1).step (hR t (by simp)) (fun x hx => hp.2.2 x hx t (by simp))
theorem greedy_len : ∀ (n : Nat) (ds : List Sm),ds.length = n → (greedy ds).length ≤ n:=by
 intro n
 induction n with
 | zero => intro ds hl;have:=List.eq_nil_of_length_eq_zero hl;subst this;simp [greedy]
 | succ n ih =>
   intro ds hl
   rcases List.eq_nil_or_concat ds with rfl | ⟨es,t,rfl⟩
   · simp at hl
   · rw [List.concat_eq_append] at *
     rw [greedy_snoc]
     have:=ih es (by simpa using hl)
     unfold take1
     split
     · omega
     · simp;omega
theorem least_is {l E : List Sm} {xs : List RSm} (hE : ∀ t,t ∈ E ↔ t ∈ l ∧ t.R) (hx : AllOf E xs) : greedy (sortS (raw xs)) = waysS l:=by
 have hp:=sortS_perm (raw xs)
 have hm : ∀ t,t ∈ sortS (raw xs) ↔ t ∈ l ∧ t.R:=fun t => hp.mem_iff.trans ((hx.2 t).trans (hE t))
 have hnd : (sortS (raw xs)).Nodup:=hp.nodup_iff.2 hx.1
 have hR : ∀ x ∈ sortS (raw xs),x.R:=fun x h => ((hm x).1 h).2
 have hs : (sortS (raw xs)).Pairwise fun x y => x.C y < 0:=by
  refine (List.Pairwise.and (sortS_rises (raw xs)) hnd).imp ?_
  rintro x y ⟨h1,h2⟩
  rcases Int.lt_or_eq_of_le h1 with h3 | h3
  · exact h3
  · exact absurd (Sm.C_zero.1 h3) h2
 have hg:=gr_greedy _ (sortS (raw xs)) rfl hR hs
 refine waysS_eq ((hs.sublist hg.sub).imp fun h => C_neg.1 h) fun x => ?_
 constructor
 · intro h
   have h1:=(hm x).1 (hg.sub.subset h)
   exact ⟨h1.1,h1.2,fun z hz hl => hg.least x h z ((hm z).2 ⟨hz,hl.1⟩) hl⟩
 · rintro ⟨h1,h2,h3⟩
   obtain ⟨y,hy,hl⟩:=hg.all x ((hm x).2 ⟨h1,h2⟩)
   have:=h3 y ((hm y).1 (hg.sub.subset hy)).1 hl
   rwa [this] at hy
theorem aheadC (B : Nat) (t : Sm) (w : World) (hB : Holds w B t) : Tells 91 #[.pointer (some ⟨B,0,none⟩)] (fun x => decide (x.L t)) w:=by
 intro W x hb
 show Calls _ _ #[x.v,.pointer (some ⟨B,0,none⟩)] _ (fun e w' => e = .returned (.bool (decide (x.L t))) ∧ Below W.heap.size W w')
 have h : Holds W B t:=HoldsM.below hB hb
 have hc:=fun w => leqM_any x t w
 generalize decide (x.L t) = v at *
 have hl : B < W.heap.size:=HoldsM.lt h
 obtain ⟨c0,c1,c2,c3,c4,c5,c6⟩:=h.cells5
 unfold Sm.v at *
 have HC:=Hd hc;clear hc h hB hb
 go_enter Tryz.func91,Tryz.ntmps91
 go_wp2_with fail
 refine (HC.out _).mono ?_;rintro e w1 ⟨rfl,hb1⟩
 have HB1:=Hd hb1;clear hb1 c0 c1 c2 c3 c4 c5 c6
 go_wp2_with fail
 go_ret
 exact ⟨rfl,((Below.refl _ _).alloc (Nat.le_refl _) _).trans (HB1.out.mono (by simp))⟩
theorem putK_len (t : Sm) (E : List Sm) : (putK t E).length ≤ E.length + 1:=by
 unfold putK
 rw [List.length_cons]
 have:=List.length_filter_le (fun u => decide (u ≠ t)) E
 omega
set_option maxHeartbeats 4000000 in
theorem least_any (A : Option Addr) (l : List Sm) (c : Nat) (w : World) (hT : Ts w A l) (hl : l.length ≤ 200000000) :
 Calls Tryz.prog 47 #[.slice A l.length c] w fun e W' => (∃ v,e = .returned v ∧ W'.ownsRow w.heap.size 82 7 v (waysS l).length (rowS (waysS l))) ∧ Below w.heap.size w W':=by
 have hm0:=MapK.made w
 have hb0 : Below w.heap.size w (w.alloc (.map #[] 0)):=(Below.refl _ _).alloc (Nat.le_refl _) _
 have hmm:=@run_makeMap Tryz.prog
 have HT:=Hd hT;have HM0:=Hd hm0;have HB0:=Hd hb0;clear hT hm0 hb0
 go_enter Tryz.func47,Tryz.ntmps47
 go_wp2_with fail
 clear hmm
 go_loopw [13] (fun i wr => ∃ (k N : Nat) (E : List Sm),k ≤ l.length ∧ i = .int .i64 k ∧ MapK wr w.heap.size N E ∧ N ≤ k ∧ E.length ≤ k ∧ (∀ t,t ∈ E ↔ t ∈ l.take k ∧ t.R) ∧ Below w.heap.size w wr) (fun i _ => l.length - (intOf i).toNat)
 case atStart => exact ⟨0,0,[],by omega,rfl,HM0.out,by omega,by simp,by simp,HB0.out⟩
 case round =>
  obtain ⟨k,N,E,hk,rfl,hM,hN,hE1,hE,hbw⟩:=hrel
  by_cases hlt : k < l.length
  · obtain ⟨t,ht⟩ : ∃ t,l[k]? = some t:=⟨_,List.getElem?_eq_getElem hlt⟩
    obtain ⟨b,o,rfl,hbl,h5⟩:=HT.out.five ht
    obtain ⟨c0,c1,c2,c3,c4,c5,c6⟩:=h5 wr hbw
    have hbx:=Holds.made wr t
    have hM2:=hM.alloc (.cells #[.int .i64 t.fr,.int .i64 t.to,.int .i64 t.kp,.int .i64 t.ad,.int .i64 t.t0,.int .i64 t.t1,.int .i64 t.t2] 82)
    have hb2:=hbw.alloc hbw.size (.cells #[.int .i64 t.fr,.int .i64 t.to,.int .i64 t.kp,.int .i64 t.ad,.int .i64 t.t0,.int .i64 t.t1,.int .i64 t.t2] 82)
    have hltz : (k : Int) < (l.length : Int):=by omega
    have hnext : ∀ u,u ∈ l.take (k + 1) ↔ u ∈ l.take k ∨ u = t:=fun u => by rw [List.take_add_one,ht,Option.toList,List.mem_append,List.mem_singleton]
    have hsz:=hbw.size
    have HN:=Hd hnext;have HE:=Hd hE;have HM:=Hd hM2;have HB:=Hd hb2;have HX:=Hd hbx;have HS:=Hd hsz
    by_cases hR : t.R
    · have hc:=fun w => rightM_true hR w
      unfold Sm.v at hc
      have HC:=Hd hc;have HR:=Hd hR
      clear hc hR hM hM2 hb2 hbx hbl h5 hnext hE hbw ht hsz
      go_wp2_with fail
      clear c0 c1 c2 c3 c4 c5 c6
      generalize wr.alloc (.cells #[.int .i64 t.fr,.int .i64 t.to,.int .i64 t.kp,.int .i64 t.ad,.int .i64 t.t0,.int .i64 t.t1,.int .i64 t.t2] 82) = w1 at *
      generalize wr.heap.size = g at *
      refine (HC.out _).mono ?_;rintro e w2 ⟨rfl,hb⟩
      dsimp only
      have hX : Holds w2 g t:=HoldsM.below HX.out hb
      have hM3 : MapK w2 w.heap.size N E:=HM.out.kept (grown_below hb) (by simp)
      have hb3:=HB.out.trans (hb.mono HB.out.size)
      obtain ⟨w5,hrun,hM5,hg5⟩:=hM3.store (by unfold maxLen;omega) HR.out
      have hb5 : Below w.heap.size w w5:=hb3.grown hg5 hb3.size (fun j e => by cases e;exact Nat.le_refl _)
      obtain ⟨c0,c1,c2,c3,c4,c5,c6⟩:=hX.cells5
      have H5:=Hd (And.intro hM5 hb5)
      unfold Sm.v at hrun
      clear hX hM3 hb3 hM5 hg5 hb5 hb HM HB HX
      go_wp2_with fail
      go_roundw
      case rel =>
       refine ⟨k + 1,N + 1,putK t E,by omega,by simp,H5.out.1,by omega,Nat.le_trans (putK_len t E) (by omega),fun u => ?_,H5.out.2⟩
       rw [mem_putK,HE.out,HN.out]
       constructor
       · rintro (e | ⟨h1,h2⟩)
         · subst e;exact ⟨.inr rfl,HR.out⟩
         · exact ⟨.inl h1,h2⟩
       · rintro ⟨h1 | h1,h2⟩
         · exact .inr ⟨h1,h2⟩
         · exact .inl h1
      case measure => simp only [intOf];omega
    · have hc:=fun w => rightM_false hR w
      unfold Sm.v at hc
      have HC:=Hd hc;have HR:=Hd hR
      clear hc hR hM hM2 hb2 hbx hbl h5 hnext hE hbw ht hsz
      go_wp2_with fail
      clear c0 c1 c2 c3 c4 c5 c6
      generalize wr.alloc (.cells #[.int .i64 t.fr,.int .i64 t.to,.int .i64 t.kp,.int .i64 t.ad,.int .i64 t.t0,.int .i64 t.t1,.int .i64 t.t2] 82) = w1 at *
      generalize wr.heap.size = g at *
      refine (HC.out _).mono ?_;rintro e w2 ⟨rfl,hb⟩
      dsimp only
      have hM3 : MapK w2 w.heap.size N E:=HM.out.kept (grown_below hb) (by simp)
      have hb3:=HB.out.trans (hb.mono HB.out.size)
      have H5:=Hd (And.intro hM3 hb3)
      clear hM3 hb3 hb HM HB HX
      go_wp2_with fail
      go_roundw
      case rel =>
       refine ⟨k + 1,N,E,by omega,by simp,H5.out.1,by omega,by omega,fun u => ?_,H5.out.2⟩
       rw [HE.out,HN.out]
       constructor
       · rintro ⟨h1,h2⟩;exact ⟨.inl h1,h2⟩
       · rintro ⟨h1 | h1,h2⟩
         · exact ⟨h1,h2⟩
         · subst h1;exact absurd h2 HR.out
      case measure => simp only [intOf];omega
  · have hkn : k = l.length:=by omega
    have hEl : ∀ t,t ∈ E ↔ t ∈ l ∧ t.R:=fun t => by rw [hE,hkn,List.take_length]
    have hge : ¬ (k : Int) < (l.length : Int):=by omega
    have hE2 : E.length ≤ 200000000:=by omega
    have HM:=Hd (And.intro hM hEl);have HB1:=Hd hbw
    have hmk:=mkeys_any (some w.heap.size) wr
    have HMK:=Hd hmk
    have hnd:=hM.2.2
    clear hM hE hbw hEl hE1 hN hmk
    go_wp2_with fail
    refine (HMK.out).mono ?_;rintro e w2 ⟨rfl,rfl⟩
    dsimp only
    have hlenE : ∀ ys : List RSm,AllOf E ys → ys.length = E.length:=fun ys hy => by
     have h1 : (raw ys).Perm E:=(List.perm_ext_iff_of_nodup hy.1 hnd).2 hy.2
     have h2:=h1.length_eq
     rw [raw_length] at h2;exact h2
    have hso:=sortedFunc_any 153 E.length #[.pointer (some ⟨wr.heap.size,0,none⟩)] (AllOf E) (fun _ => True) hE2
     (fun ys hy => by rw [hlenE ys hy];exact hE2)
     _ (wr.alloc (.cells #[.map (some w.heap.size)] 128)) (Below.refl _ _) (enters_of Tryz.func153 (by kernel_rfl) rfl)
     (fun n hn => keysC_some n hn wr.heap.size w.heap.size N E _ (BoxAt.made wr _ _) (HM.out.1.alloc _))
    have HSO:=Hd hso;have HLE:=Hd hlenE;clear hso hlenE HMK
    go_wp2_with fail
    refine (HSO.out).mono ?_;rintro e w3 ⟨⟨v,ys,rfl,hys,hr⟩,hb3⟩
    dsimp only
    have hylen : (sortS (raw ys)).length ≤ 200000000:=by
     rw [(sortS_perm _).length_eq,raw_length,HLE.out ys hys];exact hE2
    have hfin:=least_is HM.out.2 hys
    have hB3 : Below w.heap.size w w3:=(HB1.out.alloc HB1.out.size _).trans (hb3.mono (by have:=HB1.out.size;simp;omega))
    obtain ⟨A,c,rfl,hT,hle,_⟩:=Times.of_own hr
    rw [own_len hr] at *
    have hT:=Ts.of hT
    generalize sortS (raw ys) = ds at *
    have HFIN:=Hd hfin;have HT2:=Hd hT;have HB3:=Hd hB3;clear hfin hT hB3 hr hb3 HSO hys HM HB1 HT HLE hle hge hnd
    go_wp2_with fail
    go_loopw [6,27] (fun fv i wr => ∃ k : Nat,k ≤ ds.length ∧ i = .int .i64 k ∧ Below w3.heap.size w3 wr ∧ wr.ownsRow w3.heap.size 82 7 fv (greedy (ds.take k)).length (rowS (greedy (ds.take k)))) (fun _ i _ => ds.length - (intOf i).toNat)
    case atStart => exact ⟨0,Nat.zero_le _,rfl,Below.refl _ _,World.ownsRow_nil _ _ _ _⟩
    case round =>
     obtain ⟨k,hk,rfl,hbw,hro⟩:=hrel
     obtain ⟨B,c',rfl,hTu,hle,hcm⟩:=Times.of_own hro
     have hgl : (greedy (ds.take k)).length ≤ k:=greedy_len _ _ (by rw [List.length_take];omega)
     by_cases hlt : k < ds.length
     · obtain ⟨t,ht⟩ : ∃ t,ds[k]? = some t:=⟨_,List.getElem?_eq_getElem hlt⟩
       have hnext : greedy (ds.take (k + 1)) = take1 (greedy (ds.take k)) t:=by rw [List.take_add_one,ht,Option.toList,greedy_snoc]
       generalize greedy (ds.take k) = us at *
       obtain ⟨b,o,rfl,hbl,h5⟩:=HT2.out.five ht
       obtain ⟨c0,c1,c2,c3,c4,c5,c6⟩:=h5 wr hbw
       have hrch:=containsFunc_any B us c' 91 #[.pointer (some ⟨wr.heap.size,0,none⟩)] (fun x => decide (x.L t)) _ ((Ts.of hTu).below ((Below.refl wr.heap.size wr).alloc (Nat.le_refl _) (.cells #[.int .i64 t.fr,.int .i64 t.to,.int .i64 t.kp,.int .i64 t.ad,.int .i64 t.t0,.int .i64 t.t1,.int .i64 t.t2] 82))) (by omega) (enters_of Tryz.func91 (by kernel_rfl) rfl) (fun _ => aheadC wr.heap.size t _ (Holds.made wr t))
       have hbx:=Holds.made wr t
       have hsz:=hbw.size
       cases hv : (us.any fun x => decide (x.L t)) with
       | true =>
         have e1 : take1 us t = us:=by unfold take1;rw [if_pos hv]
         rw [hv] at hrch
         rw [e1] at hnext
         have HR:=Hd hrch;have HN:=Hd hnext;have HO:=Hd (And.intro hbw hro)
         clear hrch hnext hbw hro hTu ht h5 hbl hv e1 hbx
         unfold Sm.v at *
         go_wp2_with fail
         refine (HR.out).mono ?_;rintro e w4 ⟨rfl,hb4⟩
         have hb5 : Below wr.heap.size wr w4:=((Below.refl _ _).alloc (Nat.le_refl _) _).trans (hb4.mono (by simp))
         have HB5:=Hd hb5;clear hb4 hb5 c0 c1 c2 c3 c4 c5 c6 HR
         go_wp2_with fail
         go_roundw
         case rel => exact ⟨k + 1,by omega,by simp,HO.out.1.trans (HB5.out.mono hsz),by rw [HN.out];exact own_kept HO.out.2 HB5.out⟩
         case measure => simp only [intOf];omega
       | false =>
         have e1 : take1 us t = us ++ [t]:=by unfold take1;rw [if_neg (by rw [hv];simp)]
         rw [hv] at hrch
         rw [e1] at hnext
         have HR:=Hd hrch;have HN:=Hd hnext;have HO:=Hd (And.intro hbw hro);have HX:=Hd hbx
         clear hrch hnext hbw hro hTu ht h5 hbl hv e1 hbx
         unfold Sm.v at *
         go_wp2_with fail
         refine (HR.out).mono ?_;rintro e w4 ⟨rfl,hb4⟩
         have hb5 : Below wr.heap.size wr w4:=((Below.refl _ _).alloc (Nat.le_refl _) _).trans (hb4.mono (by simp))
         have hx4 : Holds w4 wr.heap.size t:=HoldsM.below HX.out hb4
         have hl4 : wr.heap.size < w4.heap.size:=HoldsM.lt hx4
         have hs5:=hb5.size
         have hoA:=(own_kept HO.out.2 hb5).alloc (.cells #[.int .i64 t.fr,.int .i64 t.to,.int .i64 t.kp,.int .i64 t.ad,.int .i64 t.t0,.int .i64 t.t1,.int .i64 t.t2] 82)
         have hTA:=Times.made w4 [t]
         have hba : Below w3.heap.size w3 (w4.alloc (.cells #[.int .i64 t.fr,.int .i64 t.to,.int .i64 t.kp,.int .i64 t.ad,.int .i64 t.t0,.int .i64 t.t1,.int .i64 t.t2] 82)):=(HO.out.1.trans (hb5.mono hsz)).alloc (by omega) _
         have hbs:=hba.size
         obtain ⟨d0,d1,d2,d3,d4,d5,d6⟩:=hx4.cells5
         have HBA:=Hd hba;clear hb4 hb5 c0 c1 c2 c3 c4 c5 c6 HR hx4 hba
         go_wp2_with (at_builtin;refine wpList_append_times rfl _ _ rfl w3.heap.size _ us.length us rfl hoA ⟨w4.heap.size,0,none⟩ 1 [t] rfl (by simp) hTA (by simp;omega) hbs ?_;intro v' w5 hown' hgr')
         have hb6:=own_belowS hoA hgr' HBA.out hbs
         have H6:=Hd (And.intro hown' hb6);clear hown' hgr' hoA hTA hb6 d0 d1 d2 d3 d4 d5 d6
         go_wp2_with fail
         go_roundw
         case rel => exact ⟨k + 1,by omega,by simp,H6.out.2,by rw [HN.out];simpa using H6.out.1⟩
         case measure => simp only [intOf];omega
     · have hk' : k = ds.length:=by omega
       have hfin : greedy (ds.take k) = waysS l:=by rw [hk',List.take_length];exact HFIN.out
       rw [hfin] at hro ⊢
       have HO:=Hd (And.intro hbw hro);clear hbw hro hTu hfin
       go_wp2_with fail
       go_ret
       refine ⟨⟨_,rfl,?_⟩,HB3.out.trans (HO.out.1.mono HB3.out.size)⟩
       obtain ⟨h1,h2⟩:=HO.out.2
       refine ⟨h1,?_⟩
       rcases h2 with h2 | ⟨g',cap,cur,hv,hb',h3⟩
       · exact .inl h2
       · exact .inr ⟨g',cap,cur,hv,Nat.le_trans HB3.out.size hb',h3⟩
end Mx
end
end Go.Proofs.YtonelpnhoiajgaaGreatDoor
