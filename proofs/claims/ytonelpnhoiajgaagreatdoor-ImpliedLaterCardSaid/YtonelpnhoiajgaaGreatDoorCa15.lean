import Derived.Test.YtonelpnhoiajgaaGreatDoorHd
import Derived.Test.YtonelpnhoiajgaaGreatDoorCa14
import Derived.RangeFuncNested
import Derived.RangeFuncBound
import Derived.RangeFuncCalls
import Derived.RangeFuncLeaves
import Derived.Shelf.RegionOpen
import Derived.OwnWalkIn
import Derived.TacticsInMore
import Derived.LoopNIn
import Derived.LoopIn
import Derived.Maps.OwnIn
import Derived.DeepKeys4
import Derived.Sort.MapsRangeIn
import Derived.Sort.KeysCollected
import Derived.Test.YtonelpnhoiajgaaGreatDoorShelf
import Derived.Shelf.SlSortCmp.NoneTotal
namespace Go.Proofs.YtonelpnhoiajgaaGreatDoor
set_option linter.unusedSimpArgs false
set_option maxRecDepth 100000
open Go.ChangeShapes Go.WideShapes Go.ChangeAt Go.RowKit Go.BigFrame
set_option linter.unusedVariables false
section
instance (l : List St) (t : St) : Decidable (Up l t):=inferInstanceAs (Decidable (∃ x ∈ l,x.L t))
theorem any_up (l : List St) (t : St) : (l.any fun x => decide (x.L t)) = decide (Up l t):=by
 rw [Bool.eq_iff_iff,List.any_eq_true,decide_eq_true_iff]
 simp [Up]
def Inside (f : List St) (t : St) : Prop:=Alike f [t] ∧ ¬ Up f t
noncomputable instance (f : List St) (t : St) : Decidable (Inside f t):=Classical.propDecidable _
theorem ts_one (w : World) (t : St) : Ts (w.alloc (.cells #[.int .i64 t.d,.int .i64 t.e,.int .i64 t.x,.int .i64 t.y,.int .i64 t.z] 27)) (some ⟨w.heap.size,0,none⟩) [t]:=Ts.of (Times.made w [t])
set_option maxHeartbeats 1000000 in
theorem holds_any (A : Option Addr) (f : List St) (c : Nat) (t : St) (w : World) (hT : Ts w A f) (hn : f.length ≤ 200000000) (hc : f.length ≤ c) (hm : c ≤ maxLen) :
 Calls Tryz.prog 60 #[.slice A f.length c,t.val] w fun e w' => e = .returned (.bool (decide (Inside f t))) ∧ Below w.heap.size w w':=by
 have hb0:=((Below.refl w.heap.size w).alloc (Nat.le_refl _) (.cells #[.int .i64 t.d,.int .i64 t.e,.int .i64 t.x,.int .i64 t.y,.int .i64 t.z] 27)).alloc (by simp) (.cells #[.int .i64 t.d,.int .i64 t.e,.int .i64 t.x,.int .i64 t.y,.int .i64 t.z] 27)
 have hx:=(Holds.made w t).alloc (.cells #[.int .i64 t.d,.int .i64 t.e,.int .i64 t.x,.int .i64 t.y,.int .i64 t.z] 27)
 have h1:=ts_one (w.alloc (.cells #[.int .i64 t.d,.int .i64 t.e,.int .i64 t.x,.int .i64 t.y,.int .i64 t.z] 27)) t
 rw [size_alloc] at h1
 have hp:=paired_any A (some ⟨w.heap.size + 1,0,none⟩) f [t] c 1 _ (hT.below hb0) h1 hn (by simp) hc (by simp) hm (by unfold maxLen;omega)
 rw [show ([t] : List St).length = 1 from rfl] at hp
 by_cases ha : Alike f [t]
 · have hv : decide (Inside f t) = !(decide (Up f t)):=by
    unfold Inside
    rw [Bool.eq_iff_iff];simp [ha]
   have hr:=fun w' hw => reached_any A f c t w' (hT.below hw) hn
   simp only [any_up] at hr
   rw [hv]
   rw [decide_eq_true ha] at hp
   generalize decide (Up f t) = v at *
   unfold St.val at *
   have HX:=Hd hx;have HP:=Hd hp;have HR:=Hd hr;have HB:=Hd hb0;clear hx hp hr hb0 hT hn hc hm h1 ha hv
   go_enter Tryz.func60,Tryz.ntmps60
   go_wp2_with fail
   refine (HP.out).mono ?_;rintro e w1 ⟨rfl,hb1⟩
   obtain ⟨c0,c1,c2,c3,c4⟩:=(HX.out.below hb1).cells5
   have HB1:=Hd (HB.out.trans (hb1.mono HB.out.size));clear hb1
   go_wp2_with fail
   refine (HR.out _ HB1.out).mono ?_;rintro e w2 ⟨rfl,hb2⟩
   have HB2:=Hd (HB1.out.trans (hb2.mono HB1.out.size));clear hb2 c0 c1 c2 c3 c4
   go_wp2_with fail
   go_ret
   exact ⟨rfl,HB2.out⟩
 · have hv : decide (Inside f t) = false:=decide_eq_false fun h => ha h.1
   rw [hv]
   rw [decide_eq_false ha] at hp
   unfold St.val at *
   have HX:=Hd hx;have HP:=Hd hp;have HB:=Hd hb0;clear hx hp hb0 hT hn hc hm h1 ha hv
   go_enter Tryz.func60,Tryz.ntmps60
   go_wp2_with fail
   refine (HP.out).mono ?_;rintro e w1 ⟨rfl,hb1⟩
   have HB1:=Hd (HB.out.trans (hb1.mono HB.out.size));clear hb1
   go_wp2_with fail
   go_ret
   exact ⟨rfl,HB1.out⟩
def Under (a b : List St) : Prop:=Alike a b ∧ In a b
noncomputable instance (a b : List St) : Decidable (Under a b):=Classical.propDecidable _
theorem withinC (B : Nat) (A : Option Addr) (a : List St) (c : Nat) (w : World) (hB : BoxAt w B (.slice A a.length c)) (hT : Ts w A a) (hn : a.length ≤ 200000000) : Tells 68 #[.pointer (some ⟨B,0,none⟩)] (fun x => !decide (Up a x)) w:=by
 intro W x hb
 show Calls _ _ #[x.val,.pointer (some ⟨B,0,none⟩)] _ (fun e w' => e = .returned (.bool (!decide (Up a x))) ∧ Below W.heap.size W w')
 have hbA:=(Below.refl W.heap.size W).alloc (Nat.le_refl _) (.cells #[.int .i64 x.d,.int .i64 x.e,.int .i64 x.x,.int .i64 x.y,.int .i64 x.z] 27)
 have hbox:=(hB.below hb).2
 have hlt:=(hB.below hb).1
 have hr:=reached_any A a c x _ ((hT.below hb).below hbA) hn
 simp only [any_up] at hr
 generalize decide (Up a x) = v at *
 unfold St.val at *
 have HR:=Hd hr;clear hr hT hn hB hb hbA
 go_enter Tryz.func68,Tryz.ntmps68
 go_wp2_with fail
 refine (HR.out).mono ?_;rintro e w1 ⟨rfl,hb1⟩
 have HB1:=Hd hb1;clear hb1 hbox hlt
 go_wp2_with fail
 go_ret
 exact ⟨rfl,((Below.refl _ _).alloc (Nat.le_refl _) _).trans (HB1.out.mono (by simp))⟩
set_option maxHeartbeats 1000000 in
theorem frWithin_any (A B : Option Addr) (a b : List St) (c d : Nat) (w : World) (hA : Ts w A a) (hB : Ts w B b) (ha : a.length ≤ 200000000) (hb : b.length ≤ 200000000) (hc : a.length ≤ c) (hd : b.length ≤ d) (hcm : c ≤ maxLen) (hdm : d ≤ maxLen) :
 Calls Tryz.prog 25 #[.slice A a.length c,.slice B b.length d] w fun e w' => e = .returned (.bool (decide (Under a b))) ∧ Below w.heap.size w w':=by
 have hb0:=(Below.refl w.heap.size w).alloc (Nat.le_refl _) (.cells #[.slice A a.length c] 34)
 have hbox:=BoxAt.made w (.slice A a.length c) 34
 have hp:=paired_any A B a b c d _ (hA.below hb0) (hB.below hb0) ha hb hc hd hcm hdm
 by_cases hal : Alike a b
 · have hv : (!(b.any fun x => !decide (Up a x))) = decide (Under a b):=by
    rw [Bool.eq_iff_iff,Bool.not_eq_true',List.any_eq_false,decide_eq_true_iff]
    simp [Under,hal,In]
   have hr:=fun w' (hw : Below (w.alloc (.cells #[.slice A a.length c] 34)).heap.size (w.alloc (.cells #[.slice A a.length c] 34)) w') => containsFunc_any B b d 68 #[.pointer (some ⟨w.heap.size,0,none⟩)] (fun x => !decide (Up a x)) w' ((hB.below hb0).below hw) hb (enters_of Tryz.func68 (by kernel_rfl) rfl) (fun _ => withinC w.heap.size A a c w' (hbox.below hw) ((hA.below hb0).below hw) ha)
   rw [← hv]
   generalize (b.any fun x => !decide (Up a x)) = v at *
   rw [decide_eq_true hal] at hp
   have HP:=Hd hp;have HR:=Hd hr;have HB:=Hd hb0;clear hp hr hb0 hA hB hbox hc hd hcm hdm hal hv
   generalize b.length = n at *
   generalize a.length = m at *
   go_enter Tryz.func25,Tryz.ntmps25
   go_wp2_with fail
   refine (HP.out).mono ?_;rintro e w1 ⟨rfl,hb1⟩
   have HB1:=Hd hb1;clear hb1
   go_wp2_with fail
   refine (HR.out _ HB1.out).mono ?_;rintro e w2 ⟨rfl,hb2⟩
   have HB2:=Hd (HB1.out.trans (hb2.mono HB1.out.size));clear hb2
   go_wp2_with fail
   go_ret
   exact ⟨rfl,HB.out.trans (HB2.out.mono HB.out.size)⟩
 · have hv : decide (Under a b) = false:=decide_eq_false fun h => hal h.1
   rw [hv]
   rw [decide_eq_false hal] at hp
   have HP:=Hd hp;have HB:=Hd hb0;clear hp hb0 hA hB hbox hc hd hcm hdm hal hv
   generalize b.length = n at *
   generalize a.length = m at *
   go_enter Tryz.func25,Tryz.ntmps25
   go_wp2_with fail
   refine (HP.out).mono ?_;rintro e w1 ⟨rfl,hb1⟩
   have HB1:=Hd hb1;clear hb1
   go_wp2_with fail
   go_ret
   exact ⟨rfl,HB.out.trans (HB1.out.mono HB.out.size)⟩
end

section
section
variable {l ts : List St} {t x z p : St}
end
end

section
section
variable {ts : List St} {t x : St}
end
end

section
open Go.ChangeShapes Go.WideShapes Go.ChangeAt Go.RowKit Go.BigFrame Go.Shelf
abbrev RSt:={ t : St // t.R }
def encS (x : RSt) : Array Value:=#[x.1.val]
def raw (l : List RSt) : List St:=l.map (·.1)
theorem raw_length (l : List RSt) : (raw l).length = l.length:=by simp [raw]
theorem raw_get (l : List RSt) (k : Nat) (t : RSt) (h : l[k]? = some t) : (raw l)[k]? = some t.1:=by simp [raw,h]
theorem pre_of {α : Type} {xs : List α} {k : Nat} {t : α} (h : xs[k]? = some t) : xs.take k ++ [t] <+: xs:=by
 have e : xs.take (k + 1) = xs.take k ++ [t]:=by rw [List.take_add_one,h];rfl
 rw [← e];exact List.take_prefix _ _
def Keep (n : Nat) (W W' : World) : Prop:=Below n W W' ∧ ∀ (b : Nat) (o : Obj),W.heap[b]? = some o → o.isCells = true → W'.heap[b]? = some o
theorem keep_t {n : Nat} {A B C : World} (h : Keep n A B) (k : Keep n B C) : Keep n A C:=⟨h.1.trans k.1,fun b o ho hc => k.2 b o (h.2 b o ho hc) hc⟩
theorem keep_b {n : Nat} {w : World} (hn : n ≤ w.heap.size) (W : World) (l : Nat) (o o' : Obj) (hl : w.heap.size ≤ l) (ho : W.heap[l]? = some o) (hc : o.isCells = false) (hw : o.isWalk = false) : Keep n W (W.putObj l o') :=
 ⟨(belowK_b (w:=w) hn) W l o o' hl ho hc hw,fun b p hp hpc => by
   by_cases e : b = l
   · subst e;rw [ho] at hp;cases hp;rw [hc] at hpc;cases hpc
   · exact (World.putObj_heap_other e).trans hp⟩
theorem frGrown_below {w w' : World} (hb : Below w.heap.size w w') : w.grownBy w' none:=⟨hb.os,hb.tape,hb.output,hb.size,fun k hk _ => hb.block k hk⟩
theorem values_any (a : Option Addr) (n c : Nat) (w : World) :
 Calls Tryz.prog 77 #[.slice a n c] w fun e w' => e = .returned (.func (.func 130) #[] #[.pointer (some ⟨w.heap.size,0,none⟩)]) ∧ w' = w.alloc (.cells #[.slice a n c] 34):=by
 go_enter Tryz.func77,Tryz.ntmps77
 go_wp2_with fail
 go_ret
 exact ⟨rfl,rfl⟩
set_option maxRecDepth 100000 in
set_option maxHeartbeats 1000000 in
theorem valuesC (n : Nat) (hn : 1 ≤ n) (Bs : Nat) (A : Option Addr) (xs : List RSt) (hl : xs.length ≤ 200000000) (c : Nat) (w : World) (hB : BoxAt w Bs (.slice A xs.length c)) (hT : Ts w A (raw xs)) :
 SeqStopsK Fence.wide n Tryz.prog 130 #[.pointer (some ⟨Bs,0,none⟩)] encS (Keep w.heap.size) (fun ys => ys = xs) (fun pre => pre <+: xs) xs.length w:=fun l J Jx W hW hJ _ hY h0 => by
 have hBW:=(hB.below hW).2
 have HT:=Hd hT;have HLE:=Hd hW.size;have HJ:=Hd hJ
 clear hB hT hJ
 have HW:=Hd hW;clear hW
 refine callsIn_of_wp Tryz.func130 rfl trivial ?_ rfl
 simp only [Tryz.ntmps130,List.size_toArray,List.length_cons,List.length_nil,Nat.reduceAdd,Nat.reduceSub,Array.replicate_succ,Array.replicate_zero,List.push_toArray,List.append_toArray,List.nil_append,List.cons_append]
 gi_wp2
 gi_loopw [7] (fun i wr => ∃ k : Nat,k ≤ xs.length ∧ i = .int .i64 k ∧ J (xs.take k) wr ∧ Below w.heap.size W wr) (fun i _ => xs.length - (intOf i).toNat)
 case atStart => exact ⟨0,Nat.zero_le _,rfl,h0,Below.refl _ _⟩
 case round =>
  obtain ⟨k,hk,rfl,hJs,hbel⟩:=hrel
  by_cases hlt : k < xs.length
  · obtain ⟨t,ht⟩ : ∃ t,xs[k]? = some t:=⟨_,List.getElem?_eq_getElem hlt⟩
    have hsz:=hbel.size
    have hJ2 : J (xs.take k) (wr.alloc (.cells #[.int .i64 t.1.d,.int .i64 t.1.e,.int .i64 t.1.x,.int .i64 t.1.y,.int .i64 t.1.z] 27)):=HJ.out _ _ _ none hJs (World.grownBy_alloc _ _ none) (fun r e => by cases e)
    obtain ⟨fn,tmps,assign,body,hy,hR⟩:=hY _ t _ hJ2 (by rw [List.length_take];omega)
    dsimp only [encS] at hy
    unfold St.val at hy
    have hb2 : Below w.heap.size W (wr.alloc (.cells #[.int .i64 t.1.d,.int .i64 t.1.e,.int .i64 t.1.x,.int .i64 t.1.y,.int .i64 t.1.z] 27)):=hbel.alloc (Nat.le_trans HLE.out hsz) _
    obtain ⟨b,o,rfl,hbl,h5⟩:=(HT.out).five (raw_get xs k t ht)
    obtain ⟨c0,c1,c2,c3,c4⟩:=h5 wr (HW.out.trans hbel)
    have HBL:=Hd hbel;have HB2:=Hd hb2;have HTT:=Hd ht
    clear h5 hbl hbel hb2 ht h0
    gi_wp2
    refine hR.mono ?_
    rintro e W3 (⟨rfl,hJ3,hk3⟩ | ⟨rfl,hJx3⟩)
    · have HB3:=Hd (HB2.out.trans hk3.1)
      clear hk3
      gi_wp2
      go_roundw
      case rel => exact ⟨k + 1,by omega,by simp,by rw [List.take_add_one,HTT.out];exact hJ3,HB3.out⟩
      case measure => simp only [intOf];omega
    · gi_wp2
      refine bodyPost_ret (results_none rfl _ _ _) rfl ?_
      exact ⟨⟨_,rfl⟩,.inr ⟨_,pre_of HTT.out,hJx3⟩⟩
  · have hk' : k = xs.length:=by omega
    subst hk'
    have hJ' : J xs wr:=by rwa [List.take_length] at hJs
    clear hJs
    gi_wp2
    go_end0
    exact ⟨⟨_,rfl⟩,.inl ⟨_,rfl,hJ'⟩⟩
structure Pairs (a b : List St) (zs : List RSt) : Prop where
 len : zs.length = a.length * b.length
 at_ : ∀ (k j : Nat) (x y : St),a[k]? = some x → b[j]? = some y → ∃ z : RSt,zs[k * b.length + j]? = some z ∧ z.1 = x.join y ∧ x.B y
end

section
open Go.ChangeShapes Go.WideShapes Go.ChangeAt Go.RowKit Go.BigFrame Go.Shelf
open Go.Maps (Keyed)
open Go.WideElems (Fit rd rg rd_key rd_val rg_of)
open Go.ChangeMaps (notKey putKey)
@[reducible] def St.key (t : St) : Value:=.agg #[.int .i64 t.x,.int .i64 t.y,.int .i64 t.z]
def dat (t : St) : DataW Unit:=.agg [.lit (.int .i64 t.d),.lit (.int .i64 t.e),.lit (.int .i64 t.x),.lit (.int .i64 t.y),.lit (.int .i64 t.z)]
theorem val_inj {s t : St} (h : s.val = t.val) : s = t:=by
 simp only [St.val,Value.agg.injEq,Array.mk.injEq,List.cons.injEq,Value.int.injEq,true_and,and_true] at h
 exact St.ext' h.1 h.2.1 h.2.2.1 h.2.2.2.1 h.2.2.2.2
open Classical in
noncomputable def elS (v : Value) : Option (DataW Unit × List MemPlace):=if h : ∃ t : St,v = t.val then some (dat h.choose,[]) else none
theorem elS_val (t : St) : elS t.val = some (dat t,[]):=by
 have h : ∃ s : St,t.val = s.val:=⟨t,rfl⟩
 unfold elS
 rw [dif_pos h,← val_inj h.choose_spec]
theorem elS_inv {v : Value} {y : DataW Unit × List MemPlace} (h : elS v = some y) : ∃ t : St,v = t.val ∧ y = (dat t,[]):=by
 unfold elS at h
 split at h
 · rename_i hx
   cases h
   exact ⟨_,hx.choose_spec,rfl⟩
 · cases h
theorem dat_inj {s t : St} (h : dat s = dat t) : s = t:=by
 unfold dat at h
 simp at h
 exact St.ext' h.1 h.2.1 h.2.2.1 h.2.2.2.1 h.2.2.2.2
theorem key_inj {s t : St} : s.key = t.key ↔ s.x = t.x ∧ s.y = t.y ∧ s.z = t.z:=by simp [St.key]
theorem keyed3 : Keyed Tryz.prog 25:=Keyed.of_law (deep_law_laid progLaid (m:=5) (by decide) (of_decide_eq_true (by kernel_rfl)) (by kernel_rfl) (by kernel_rfl))
theorem wf_of {n : Int} (h1 : 0 ≤ n) (h2 : n < 16) : (Lit.int .i64 n).wf = true:=by
 simp [Lit.wf,IntKind.min,IntKind.max,IntKind.signed,IntKind.bits];omega
theorem keyLits3 (d : Nat) {x y z : Int} (hx : (Lit.int .i64 x).wf = true) (hy : (Lit.int .i64 y).wf = true) (hz : (Lit.int .i64 z).wf = true) :
 Tryz.prog.keyLits (d + 2) 25 [.int .i64 x,.int .i64 y,.int .i64 z] = some [.int .i64 x,.int .i64 y,.int .i64 z]:=by
 simp [Program.keyLits,Tryz.underlying25,Tryz.underlying3,cells_arr,stCells_int,List.range_succ,hx,hy,hz]
theorem keyOf_some {t : St} (h : t.R) : ∃ l,keyOf Tryz.prog 25 t.key = some l:=by
 have h0 : decide (0 < Tryz.prog.types.size) = true:=by kernel_rfl
 have h0:=of_decide_eq_true h0
 obtain ⟨m,hm⟩ : ∃ m,Tryz.prog.types.size = m + 1:=⟨Tryz.prog.types.size - 1,by omega⟩
 have hk : Tryz.prog.keyType 25 = true:=by kernel_rfl
 unfold St.R at h
 unfold keyOf
 rw [Tryz.underlying25,hm]
 simp [hk,Value.formed,Tryz.underlying25,cells_arr,St.key,Value.cells]
 rw [keyLits3 m (wf_of (by omega) (by omega)) (wf_of (by omega) (by omega)) (wf_of (by omega) (by omega))]
 exact ⟨_,_,rfl,rfl⟩
noncomputable def kl (t : St) : Lit:=(keyOf Tryz.prog 25 t.key).getD (.bool false)
theorem keyOf_kl {t : St} (h : t.R) : keyOf Tryz.prog 25 t.key = some (kl t):=by
 obtain ⟨l,hl⟩:=keyOf_some h
 unfold kl;rw [hl];rfl
theorem kl_inj {s t : St} (hs : s.R) (ht : t.R) (h : kl s = kl t) : s.key = t.key:=keyed3.inj (keyOf_kl hs) (by rw [h];exact keyOf_kl ht)
theorem kl_key {s t : St} (h : s.key = t.key) : kl s = kl t:=by unfold kl;rw [h]
noncomputable def ent (t : St) : Lit × DataW Unit:=(kl t,dat t)
def MapS (w : World) (b n : Nat) (E : List St) : Prop :=
 (∃ L,w.ownsMap Tryz.prog 25 elS b n (.map L) ∧ L.Perm (E.map ent)) ∧ (∀ t ∈ E,t.R) ∧ E.Pairwise fun s t => s.key ≠ t.key
def putS (t : St) (E : List St) : List St:=t :: E.filter fun u => decide (¬ (u.x = t.x ∧ u.y = t.y ∧ u.z = t.z))
section
variable {w w' : World} {b n : Nat} {E : List St} {row : Option Nat}
theorem MapS.made (w : World) : MapS (w.alloc (.map #[] 0)) w.heap.size 0 []:=⟨⟨[],World.ownsMap_made _ _ _ _,.refl _⟩,by simp,List.Pairwise.nil⟩
theorem MapS.kept (h : MapS w b n E) (hg : w.grownBy w' row) (hne : some b ≠ row) : MapS w' b n E:=by
 obtain ⟨⟨L,h1,h2⟩,h3⟩:=h
 exact ⟨⟨L,h1.kept hg hne,h2⟩,h3⟩
theorem MapS.lt (h : MapS w b n E) : b < w.heap.size:=by
 obtain ⟨⟨L,h1,h2⟩,h3⟩:=h
 exact h1.lt
theorem MapS.alloc (h : MapS w b n E) (o : Obj) : MapS (w.alloc o) b n E:=h.kept (World.grownBy_alloc w o none) (by simp)
theorem MapS.look (h : MapS w b n E) {t : St} (ht : t.R) :
 ((Instr.lookup 168 (.map (some b)) t.key true).run Tryz.prog w = .ok (.tuple #[St.zero.val,.bool false]) w ∧ ∀ u ∈ E,u.key ≠ t.key) ∨
 ∃ u ∈ E,u.key = t.key ∧ (Instr.lookup 168 (.map (some b)) t.key true).run Tryz.prog w = .ok (.tuple #[u.val,.bool true]) w:=by
 obtain ⟨⟨L,⟨es,clock,hb,F,_,hD⟩,hp⟩,hR,_⟩:=h
 have hL : L = (es.toList.map (rg Tryz.prog 25 elS)).foldr DataW.insert []:=by injection hD
 have hpe : (es.toList.map (rg Tryz.prog 25 elS)).Perm (E.map ent):=((sorted_perm _).symm.trans (by rw [← hL])).trans hp
 have hz : (zeroValue 27).run Tryz.prog w = .ok St.zero.val w:=Tryz.zeroValue27 w
 rcases Go.Maps.fit_look true keyed3 Tryz.underlying168 hz hb F (keyOf_kl ht) with ⟨hrun,hno,_⟩ | ⟨e0,y,hm,hk,hrun,hR0,_,_⟩
 · refine .inl ⟨hrun,fun u hu hk => ?_⟩
   have : ent u ∈ es.toList.map (rg Tryz.prog 25 elS):=hpe.mem_iff.2 (List.mem_map_of_mem hu)
   obtain ⟨x,hx,he⟩:=List.mem_map.1 this
   obtain ⟨y,hy⟩:=F.reads x hx
   rw [rg_of hy] at he
   subst he
   refine hno x hx ?_
   rw [← hk]
   exact keyed3.inj (rd_key hy) (keyOf_kl (hR u hu))
 · obtain ⟨u,hu,rfl⟩:=elS_inv hR0
   refine .inr ⟨u,?_,?_,by rw [hu] at hrun;exact hrun⟩
   all_goals
    obtain ⟨y,hy⟩:=F.reads e0 hm
    have h1:=rd_key hy
    obtain ⟨z,h2,h3⟩:=rd_val hy
    rw [hR0] at h2;cases h2
    have : y ∈ E.map ent:=hpe.mem_iff.1 (List.mem_map.2 ⟨e0,hm,rg_of hy⟩)
    obtain ⟨u',hu',e⟩:=List.mem_map.1 this
    have h3' : y.2 = dat u:=h3
    have hd : dat u' = dat u:=by rw [← h3',← e];rfl
    have:=dat_inj hd
    subst this
   · exact hu'
   · have h4 : y.1 = kl u':=by rw [← e];rfl
     rw [hk] at h1
     exact keyed3.inj (keyOf_kl (hR u' hu')) (by rw [h1,h4])
theorem MapS.store (h : MapS w b n E) (hn : n < maxLen) {t : St} (ht : t.R) :
 ∃ w',(Instr.mapUpdate 168 (.map (some b)) t.key t.val).run Tryz.prog w = .ok () w' ∧ MapS w' b (n + 1) (putS t E) ∧ w.grownBy w' (some b):=by
 obtain ⟨⟨L,h1,hp⟩,hR,hd⟩:=h
 obtain ⟨w',hrun,h2,hg⟩:=h1.update keyed3 Tryz.underlying168 hn (keyOf_kl ht) (elS_val t)
 rw [DataW.put_eq] at h2
 refine ⟨w',hrun,⟨⟨_,h2,?_⟩,?_,?_⟩,hg⟩
 · unfold putKey putS
   refine (insert_perm _ _).trans ?_
   rw [List.map_cons]
   refine List.Perm.cons _ ?_
   refine (hp.filter _).trans ?_
   rw [List.filter_map]
   have : (notKey (kl t) ∘ ent) = fun u => notKey (kl t) (ent u):=rfl
   rw [this]
   refine List.Perm.of_eq ?_
   congr 1
   refine List.filter_congr fun u hu => ?_
   rw [Bool.eq_iff_iff,decide_eq_true_iff,Go.Maps.notKey_iff (keyed3.key (keyOf_kl ht))]
   rw [← key_inj]
   constructor
   · intro h e;exact h (kl_key e)
   · intro h e;exact h (kl_inj (hR u hu) ht e)
 · intro u hu
   rcases List.mem_cons.1 hu with rfl | hu
   · exact ht
   · exact hR u (List.mem_filter.1 hu).1
 · refine List.pairwise_cons.2 ⟨fun u hu => ?_,hd.filter _⟩
   have:=(List.mem_filter.1 hu).2
   rw [decide_eq_true_iff,← key_inj] at this
   exact fun e => this e.symm
end
end

section
open Go.ChangeShapes Go.WideShapes Go.ChangeAt Go.RowKit Go.BigFrame Go.Shelf
attribute [local go_sem] Oper.semAt_some
structure Ear (xs E : List St) : Prop where
 sub : ∀ e ∈ E,e ∈ xs
 all : ∀ t ∈ xs,∃ e ∈ E,e.key = t.key ∧ e.e ≤ t.e
section
variable {xs E : List St} {x u : St}
theorem mem_putS : u ∈ putS x E ↔ u = x ∨ u ∈ E ∧ u.key ≠ x.key:=by
 unfold putS
 rw [List.mem_cons,List.mem_filter,decide_eq_true_iff,← key_inj]
theorem Ear.put (h : Ear xs E) (hl : ∀ u ∈ E,u.key = x.key → x.e ≤ u.e) : Ear (xs ++ [x]) (putS x E):=by
 refine ⟨fun e he => ?_,fun t ht => ?_⟩
 · rcases mem_putS.1 he with rfl | ⟨he,_⟩
   · simp
   · exact List.mem_append_left _ (h.sub e he)
 · rcases List.mem_append.1 ht with ht | ht
   · obtain ⟨e,he,hk,hle⟩:=h.all t ht
     by_cases hx : e.key = x.key
     · exact ⟨x,mem_putS.2 (.inl rfl),hx.symm.trans hk,Int.le_trans (hl e he hx) hle⟩
     · exact ⟨e,mem_putS.2 (.inr ⟨he,hx⟩),hk,hle⟩
   · have : t = x:=by simpa using ht
     subst this
     exact ⟨t,mem_putS.2 (.inl rfl),rfl,Int.le_refl _⟩
theorem Ear.stay (h : Ear xs E) (hu : u ∈ E) (hk : u.key = x.key) (hl : u.e ≤ x.e) : Ear (xs ++ [x]) E:=by
 refine ⟨fun e he => List.mem_append_left _ (h.sub e he),fun t ht => ?_⟩
 rcases List.mem_append.1 ht with ht | ht
 · exact h.all t ht
 · have : t = x:=by simpa using ht
   subst this
   exact ⟨u,hu,hk,hl⟩
theorem Keep.alloc {n : Nat} {A B : World} (h : Keep n A B) (hn : n ≤ B.heap.size) (o : Obj) : Keep n A (B.alloc o) :=
 ⟨h.1.alloc hn o,fun b p hp hc => (Below.heap_alloc B o b (Array.getElem?_eq_some_iff.1 (h.2 b p hp hc)).1).trans (h.2 b p hp hc)⟩
theorem Keep.refl (n : Nat) (A : World) : Keep n A A:=⟨Below.refl _ _,fun b p hp _ => hp⟩
theorem MapS.isMap {w : World} {b n : Nat} (h : MapS w b n E) : ∃ es c,w.heap[b]? = some (.map es c):=by
 obtain ⟨⟨L,⟨es,clock,hb,_⟩,_⟩,_⟩:=h
 exact ⟨es,clock,hb⟩
theorem MapS.mono {w : World} {b n m : Nat} (h : MapS w b n E) (hm : n ≤ m) : MapS w b m E:=by
 obtain ⟨⟨L,h1,h2⟩,h3⟩:=h
 exact ⟨⟨L,h1.mono hm,h2⟩,h3⟩
theorem Keep.grown {n b m : Nat} {A B C : World} (h : Keep n A B) (hM : MapS B b m E) (hg : B.grownBy C (some b)) (hn : n ≤ b) : Keep n A C :=
 ⟨h.1.grown hg (Nat.le_trans hn (Nat.le_of_lt hM.lt)) (fun k e => by cases e;exact hn),fun k p hp hc => by
  have h1:=h.2 k p hp hc
  by_cases e : k = b
  · subst e
    obtain ⟨es,c,hm⟩:=hM.isMap
    rw [h1] at hm;cases hm;cases hc
  · exact (hg.block k (Array.getElem?_eq_some_iff.1 h1).1 (fun h => e (by cases h;rfl))).trans h1⟩
end
theorem key_one : ∀ {E : List St} {u v : St},E.Pairwise (fun s t => s.key ≠ t.key) → u ∈ E → v ∈ E → u.key = v.key → u = v
 | [],_,_,_,h,_,_ => by cases h
 | x :: E,u,v,hp,hu,hv,hk => by
   obtain ⟨h1,h2⟩:=List.pairwise_cons.1 hp
   rcases List.mem_cons.1 hu with e1 | k1 <;> rcases List.mem_cons.1 hv with e2 | k2
   · rw [e1,e2]
   · rw [e1] at hk;exact absurd hk (h1 v k2)
   · rw [e2] at hk;exact absurd hk.symm (h1 u k1)
   · exact key_one h2 k1 k2 hk
theorem putS_len {E : List St} {t : St} : (putS t E).length ≤ E.length + 1:=by
 unfold putS
 rw [List.length_cons]
 have:=List.length_filter_le (fun u : St => decide (¬ (u.x = t.x ∧ u.y = t.y ∧ u.z = t.z))) E
 omega
def EarI (w : World) (pre : List RSt) (W : World) : Prop:=∃ E,Boxed W (w.heap.size + 1) 168 (.map (some w.heap.size)) ∧ MapS W w.heap.size pre.length E ∧ Ear (raw pre) E ∧ E.length ≤ pre.length
set_option maxRecDepth 100000 in
set_option maxHeartbeats 4000000 in
theorem earliest_any (g n₀ N : Nat) (lb : Array Value) (S Sp : List RSt → Prop) (hN : N ≤ 200000000) (w0 w : World) (hb0 : Below w0.heap.size w0 w) (hn₀ : n₀ ≤ w0.heap.size) (eg : ∀ args w,(callFunc g args).run Tryz.prog w = .ok (.enter g args) w)
 (hS : ∀ xs,S xs → xs.length ≤ 200000000) (hseq : ∀ n,1 ≤ n → SeqStopsK Fence.wide n Tryz.prog g lb encS (Keep n₀) S Sp N w0) :
 Calls Tryz.prog 128 #[.func (.func g) #[] lb] w fun e W' => e = .returned (.map (some w.heap.size)) ∧ (∃ xs E m,S xs ∧ MapS W' w.heap.size m E ∧ Ear (raw xs) E ∧ E.length ≤ 200000000) ∧ Below w.heap.size w W':=by
 refine (callsIn_wide (n:=5)).1 ?_
 have hmm:=@run_makeMap Tryz.prog
 refine callsIn_of_wp_marks Tryz.func128 rfl trivial ?_ rfl
 simp only [Tryz.ntmps128,List.size_toArray,List.length_cons,List.length_nil,Nat.reduceAdd,Nat.reduceSub,Array.replicate_succ,Array.replicate_zero,List.push_toArray,List.append_toArray,List.nil_append,List.cons_append]
 gi_wp2
 have hsz : ((w.alloc (.map #[] 0)).alloc (.cells #[.map (some w.heap.size)] 168)).heap.size = w.heap.size + 2:=by simp
 have bM:=Boxed.new (w.alloc (.map #[] 0)) 168 (.map (some w.heap.size))
 rw [size_alloc] at bM
 have hM:=(MapS.made w).alloc (.cells #[.map (some w.heap.size)] 168)
 have hB0 : Below w.heap.size w ((w.alloc (.map #[] 0)).alloc (.cells #[.map (some w.heap.size)] 168)):=((Below.refl _ w).alloc (Nat.le_refl _) _).alloc (by simp) _
 have hK0 : Below w0.heap.size w0 ((w.alloc (.map #[] 0)).alloc (.cells #[.map (some w.heap.size)] 168)):=(hb0.alloc hb0.size _).alloc (by have:=hb0.size;simp;omega) _
 have hws:=hb0.size
 obtain ⟨W0,hW0⟩ : ∃ W0,(w.alloc (.map #[] 0)).alloc (.cells #[.map (some w.heap.size)] 168) = W0:=⟨_,rfl⟩
 rw [hW0] at hsz bM hM hB0 hK0 ⊢
 clear hW0 hb0
 refine wpIn_rangeFunc_ownH rfl (by omega) (gf:=g) (lb:=lb) rfl trivial eg (hseq 4 (by omega)) keep_t (keep_b (by omega)) hK0 (fun _ => rfl)
  (fun pre W => EarI w pre W ∧ Below w.heap.size w W)
  (fun _ _ _ => False)
  (OwnFrom.and (fun s X Y row hs hg hr => by
    obtain ⟨E,h1,h2,h3⟩:=hs
    exact ⟨E,boxed_own _ _ (fun (_ : Unit) => Value.map (some w.heap.size)) () X Y row h1 hg (fun r e => (hr r e).2),h2.kept hg (fun e => by have:=(hr _ e.symm).1;omega),h3⟩) (ownFrom_below (Nat.le_refl _) (by omega)))
  (fun _ _ _ _ _ hs _ _ => hs)
  ⟨⟨[],bM,hM,⟨by simp,by simp [raw]⟩,by simp⟩,hB0⟩
  (fun x a' W => ∃ Bx,w.heap.size + 1 < Bx ∧ Holds W Bx x.1 ∧ a' = { tmps:=#[.func (.func g) #[] lb,undef,.map none,.pointer (some ⟨w.heap.size + 1,0,none⟩),.pointer (some ⟨Bx,0,none⟩),undef,undef,.map (some w.heap.size),.func (.func g) #[] lb,.agg #[.int .i64 x.1.d,.int .i64 x.1.e,.int .i64 x.1.x,.int .i64 x.1.y,.int .i64 x.1.z],undef,undef,undef,undef,undef,undef,undef,undef,undef,undef,undef,undef,undef,undef,undef,undef,undef,undef,undef,undef,undef],defers:=[] })
  (fun x a' _ X Y row hs hg hr => by
    obtain ⟨Bx,h1,h2,h3⟩:=hs
    refine ⟨Bx,h1,Row.grown h2 hg (fun e => ?_),h3⟩
    obtain ⟨_,o,ho,hc⟩:=hr Bx e.symm
    have h4 : X.heap[Bx]? = _:=h2
    rw [h4] at ho;cases ho;cases hc)
  ?assign ?body ?done ?stop
 case assign =>
  rintro l pre x W K ⟨⟨E,bM1,hM1,hE⟩,hB1⟩ hK
  clear hmm
  dsimp only [encS] at *
  unfold St.val at *
  gi_wp2
  exact hK _ _ ((KeepsOthers.alloc _ _).from _) ((Keep.refl _ W).alloc (by have:=hB1.size;omega) _) ⟨⟨E,bM1.alloc _,hM1.alloc _,hE⟩,hB1.alloc hB1.size _⟩ ⟨W.heap.size,bM1.lt,Holds.made W x.1,rfl⟩
 case body =>
  rintro l pre x a' W hl ⟨r,hr⟩ ⟨⟨E,bM1,hM1,hE,hEl⟩,hB1⟩ ⟨Bx,hBx,bX,rfl⟩ hlt
  have hsW:=hB1.size
  have hnW : n₀ ≤ W.heap.size:=by omega
  have cM:=bM1.cell
  have hBl:=bX.lt
  have hml:=bM1.lt
  obtain ⟨c0,c1,c2,c3,c4⟩:=bX.cells5
  have hlen : (raw (pre ++ [x])) = raw pre ++ [x.1]:=by simp [raw]
  rcases hM1.look x.2 with ⟨hrun,hno⟩ | ⟨u,hu,hk,hrun⟩
  · obtain ⟨w1,hst,hM2,hg⟩:=(hM1.alloc (.cells #[.int .i64 0,.int .i64 0,.int .i64 0,.int .i64 0,.int .i64 0] 27)).store (by unfold maxLen;omega) x.2
    unfold St.key St.zero St.val at *
    have HM1:=Hd hM1;have HM2:=Hd hM2;have HG:=Hd hg;have HE:=Hd (And.intro hE hEl);have HNO:=Hd hno;have HBM:=Hd bM1;have HB1:=Hd hB1
    clear hM1 hM2 hg hE hEl hno bM1 bX hB1 hmm hr hseq eg hB0 hK0
    gi_wp2
    have hW1 : KeepsFrom (w.heap.size + 2) W (W.alloc (.cells #[.int .i64 0,.int .i64 0,.int .i64 0,.int .i64 0,.int .i64 0] 27)):=(KeepsOthers.alloc _ _).from _
    have hW2:=(Keep.refl n₀ W).alloc hnW (.cells #[.int .i64 0,.int .i64 0,.int .i64 0,.int .i64 0,.int .i64 0] 27)
    refine ⟨by first | exact hW1.trans (KeepsFrom.of_grownBy HG.out (fun j e => by cases e;omega)) | (rw [hsz];exact hW1.trans (KeepsFrom.of_grownBy HG.out (fun j e => by cases e;omega))),hW2.grown (HM1.out.alloc _) HG.out (by omega),⟨⟨_,(HBM.out.alloc _).kept HG.out (by simp),by rw [List.length_append];exact HM2.out,?_,?_⟩,(HB1.out.alloc hsW _).grown HG.out (by simp;omega) (fun k e => by cases e;exact Nat.le_refl _)⟩⟩
    · rw [hlen]
      exact HE.out.1.put fun v hv hk => absurd hk (HNO.out v hv)
    · rw [List.length_append]
      have:=putS_len (t:=x.1) (E:=E)
      have:=HE.out.2
      simp;omega
  · by_cases hlt2 : x.1.e < u.e
    · obtain ⟨w1,hst,hM2,hg⟩:=(hM1.alloc (.cells #[.int .i64 u.d,.int .i64 u.e,.int .i64 u.x,.int .i64 u.y,.int .i64 u.z] 27)).store (by unfold maxLen;omega) x.2
      have hd:=hM1.2.2
      unfold St.key St.val at *
      have HM1:=Hd hM1;have HM2:=Hd hM2;have HG:=Hd hg;have HE:=Hd (And.intro hE hEl);have HD:=Hd (And.intro hd (And.intro hu hk));have HBM:=Hd bM1;have HB1:=Hd hB1
      clear hM1 hM2 hg hE hEl hd hu hk bM1 bX hB1 hmm hr hseq eg hB0 hK0
      gi_wp2
      have hW1 : KeepsFrom (w.heap.size + 2) W (W.alloc (.cells #[.int .i64 u.d,.int .i64 u.e,.int .i64 u.x,.int .i64 u.y,.int .i64 u.z] 27)):=(KeepsOthers.alloc _ _).from _
      have hW2:=(Keep.refl n₀ W).alloc hnW (.cells #[.int .i64 u.d,.int .i64 u.e,.int .i64 u.x,.int .i64 u.y,.int .i64 u.z] 27)
      refine ⟨by first | exact hW1.trans (KeepsFrom.of_grownBy HG.out (fun j e => by cases e;omega)) | (rw [hsz];exact hW1.trans (KeepsFrom.of_grownBy HG.out (fun j e => by cases e;omega))),hW2.grown (HM1.out.alloc _) HG.out (by omega),⟨⟨_,(HBM.out.alloc _).kept HG.out (by simp),by rw [List.length_append];exact HM2.out,?_,?_⟩,(HB1.out.alloc hsW _).grown HG.out (by simp;omega) (fun k e => by cases e;exact Nat.le_refl _)⟩⟩
      · rw [hlen]
        refine HE.out.1.put fun v hv hk => ?_
        obtain ⟨hd,hu,hku⟩:=HD.out
        by_cases e : v = u
        · subst e;omega
        · exfalso
          exact e (key_one (E:=E) hd hv hu (show v.key = u.key from hk.trans hku.symm))
      · rw [List.length_append]
        have:=putS_len (t:=x.1) (E:=E)
        have:=HE.out.2
        simp;omega
    · unfold St.key St.val at *
      have HM1:=Hd hM1;have HE:=Hd (And.intro hE hEl);have HD:=Hd (And.intro hu hk);have HBM:=Hd bM1;have HB1:=Hd hB1
      clear hM1 hE hEl hu hk bM1 bX hB1 hmm hr hseq eg hB0 hK0
      gi_wp2
      refine ⟨(KeepsOthers.alloc _ _).from _,(Keep.refl n₀ W).alloc hnW _,⟨⟨E,HBM.out.alloc _,(HM1.out.alloc _).mono (by simp),?_,?_⟩,HB1.out.alloc hsW _⟩⟩
      · rw [hlen];exact HE.out.1.stay HD.out.1 HD.out.2 (by omega)
      · rw [List.length_append];have:=HE.out.2;omega
 case done =>
  rintro D ys W hD hys ⟨⟨E,bM1,hM1,hE,hEl⟩,hB1⟩ hK
  have cM:=bM1.cell
  have HM1:=Hd hM1;have HE:=Hd hE;have HB1:=Hd hB1;have HK:=Hd hK
  clear hM1 hE bM1 hB1 hmm hseq eg hB0 hK0 hK
  gi_wp2
  refine ⟨by simp,.inl ⟨_,_,rfl,run_takeDeferred HK.out,?_⟩⟩
  have hlD : w.heap.size < D:=by omega
  refine ⟨_,results_tmp rfl _ _ _,rfl,⟨ys,E,_,hys,HM1.out.kept (grownBy_putObj' _ D _) (fun e => by cases e;omega),HE.out,by have:=hS _ hys;omega⟩,HB1.out.trans (belowK_b (w:=w) (Nat.le_refl _) W D _ _ (by omega) HK.out rfl rfl)⟩
 case stop =>
  rintro D c pre W _ _ h _
  exact h.elim
end

section
open Go.ChangeShapes Go.WideShapes Go.ChangeAt Go.RowKit Go.BigFrame Go.Shelf
theorem mvalues_any (b : Option Nat) (w : World) :
 Calls Tryz.prog 127 #[.map b] w fun e w' => e = .returned (.func (.func 175) #[] #[.pointer (some ⟨w.heap.size,0,none⟩)]) ∧ w' = w.alloc (.cells #[.map b] 168):=by
 go_enter Tryz.func127,Tryz.ntmps127
 go_wp2_with fail
 go_ret
 exact ⟨rfl,rfl⟩
structure Col (E : List St) (left : Lit → Bool) (xs : List RSt) : Prop where
 sub : ∀ t ∈ raw xs,t ∈ E
 nodup : (raw xs).Nodup
 all : ∀ e ∈ E,left (kl e) = true ∨ e ∈ raw xs
 gone : ∀ t ∈ raw xs,left (kl t) = false
section
variable {E : List St} {L : List (Lit × DataW Unit)} {left : Lit → Bool} {xs : List RSt}
theorem kl_lit {t : St} (h : t.R) : WideAt.IsKeyLit (kl t):=keyed3.key (keyOf_kl h)
theorem Col.start (hp : L.Perm (E.map ent)) (hR : ∀ t ∈ E,t.R) : Col E (Go.Maps.has (.map L)) []:=by
 refine ⟨by simp [raw],by simp [raw],fun e he => .inl ?_,by simp [raw]⟩
 rw [Go.Maps.has_eq,List.any_eq_true]
 exact ⟨ent e,hp.mem_iff.2 (List.mem_map_of_mem he),WideAt.sameKey_self (kl_lit (hR e he))⟩
theorem map_at {k : Lit} {c : St} (hp : L.Perm (E.map ent)) (hat : ∀ zd,(DataW.map L).atKey k zd = dat c) : c ∈ E ∧ kl c = k:=by
 have h1 : Go.Maps.has (.map L) k = true:=Go.Maps.has_true_of_atKey hat
 rw [Go.Maps.has_eq,List.any_eq_true] at h1
 have h2:=hat .nil
 unfold DataW.atKey at h2
 dsimp only at h2
 cases hf : L.find? (fun p => p.1.sameKey k) with
 | none =>
   rw [List.find?_eq_none] at hf
   obtain ⟨p,hp1,hp2⟩:=h1
   exact absurd hp2 (hf p hp1)
 | some p =>
   rw [hf] at h2
   dsimp only at h2
   have hs:=List.find?_some hf
   obtain ⟨u,hu,e⟩:=List.mem_map.1 (hp.mem_iff.1 (List.mem_of_find?_eq_some hf))
   have h3 : dat u = dat c:=by rw [← h2,← e];rfl
   have h4:=dat_inj h3
   subst h4
   refine ⟨hu,?_⟩
   have h5:=WideAt.sameKey_eq hs
   rw [← e] at h5
   exact h5
theorem Col.step (h : Col E left xs) (hp : L.Perm (E.map ent)) (hR : ∀ t ∈ E,t.R) (hd : E.Pairwise fun s t => s.key ≠ t.key) {k : Lit} (c : RSt) (hl : left k = true) (hat : ∀ zd,(DataW.map L).atKey k zd = dat c.1) :
 Col E (fun z => left z && !z.sameKey k) (xs ++ [c]):=by
 obtain ⟨hc,hk⟩:=map_at hp hat
 have hr : raw (xs ++ [c]) = raw xs ++ [c.1]:=by simp [raw]
 have hself : k.sameKey k = true:=by rw [← hk];exact WideAt.sameKey_self (kl_lit (hR _ hc))
 refine ⟨?_,?_,?_,?_⟩
 · intro t ht
   rw [hr] at ht
   rcases List.mem_append.1 ht with ht | ht
   · exact h.sub t ht
   · rw [List.mem_singleton] at ht;subst ht;exact hc
 · rw [hr,List.nodup_append]
   refine ⟨h.nodup,by simp,fun a ha b hb e => ?_⟩
   rw [List.mem_singleton] at hb
   subst hb;subst e
   have:=h.gone _ ha
   rw [hk,hl] at this;cases this
 · intro e he
   rw [hr]
   by_cases hs : (kl e).sameKey k = true
   · refine .inr (List.mem_append_right _ ?_)
     have h1 : kl e = kl c.1:=(WideAt.sameKey_eq hs).trans hk.symm
     rw [key_one hd he hc (kl_inj (hR e he) (hR _ hc) h1)]
     simp
   · rcases h.all e he with h1 | h1
     · refine .inl ?_
       simp [h1,hs]
     · exact .inr (List.mem_append_left _ h1)
 · intro t ht
   rw [hr] at ht
   rcases List.mem_append.1 ht with ht | ht
   · simp [h.gone t ht]
   · rw [List.mem_singleton] at ht;subst ht
     rw [hk,hself];simp
end
def frAllOf (E : List St) (xs : List RSt) : Prop:=(raw xs).Nodup ∧ ∀ t,t ∈ raw xs ↔ t ∈ E
theorem Col.done {E : List St} {left : Lit → Bool} {xs : List RSt} (h : Col E left xs) (hl : ∀ k,left k = false) : frAllOf E xs :=
 ⟨h.nodup,fun t => ⟨h.sub t,fun ht => by
  rcases h.all t ht with h1 | h1
  · rw [hl] at h1;cases h1
  · exact h1⟩⟩
set_option maxRecDepth 100000 in
set_option maxHeartbeats 2000000 in
theorem mvaluesC (n : Nat) (hn : 1 ≤ n) (Bm b nn : Nat) (E : List St) (hEl : E.length ≤ 200000000) (w : World) (hBm : BoxAt w Bm (.map (some b))) (hM : MapS w b nn E) :
 SeqStopsK Fence.wide n Tryz.prog 175 #[.pointer (some ⟨Bm,0,none⟩)] encS KeepsWalks (frAllOf E) (fun _ => True) E.length w:=fun l J Jx W hW hJ _ hY h0 => by
 have hm:=(hBm.below hW).2
 obtain ⟨⟨L,hown,hp⟩,hR,hd⟩:=hM
 have hown : W.ownsMap Tryz.prog 25 elS b nn (.map L):=by
  have hbl:=hown.lt
  obtain ⟨es,clock,hb,Ft,hs,hD⟩:=hown
  exact ⟨es,clock,(hW.block b hbl).trans hb,Ft,hs,hD⟩
 have hsize : Go.Maps.size (DataW.map L) = E.length:=by
  rw [Go.Maps.size_eq,hp.length_eq,List.length_map]
 have HP:=Hd (And.intro hp (And.intro hR hd));have HJ:=Hd hJ
 have hcol:=Col.start hp hR
 clear hp hR hd hJ hBm hW
 refine callsIn_of_wp Tryz.func175 rfl trivial ?_ rfl
 simp only [Tryz.ntmps175,List.size_toArray,List.length_cons,List.length_nil,Nat.reduceAdd,Nat.reduceSub,Array.replicate_succ,Array.replicate_zero,List.push_toArray,List.append_toArray,List.nil_append,List.cons_append]
 gi_wp2_with (first
  | (gi_at_range;refine wpListIn_range_own _ rfl _ 168 rfl 25 27 keyed3 Tryz.underlying168 elS b nn _ rfl hown ?_;intro w0 hrg0 hg0 hs0)
  | gi_in)
 go_frame
 gi_loopw [4] (fun _ wr => ∃ (left : Lit → Bool) (cnt : Nat) (xs : List RSt),wr.ranges Tryz.prog 25 elS b W.heap.size nn (.map L) left cnt ∧ xs.length + cnt ≤ E.length ∧ Col E left xs ∧ J xs wr)
  (fun _ wr => wr.rangeLeft b W.heap.size)
 case atStart =>
  exact ⟨_,_,[],hrg0,by rw [hsize];simp,hcol,HJ.out [] W w0 none h0 hg0 (fun r e => by cases e)⟩
 case round =>
  obtain ⟨left,cnt,xs,hrg,hcs,hC,hJs⟩:=hrel
  clear hcol hrg0 hg0 hs0 hm h0
  have HC:=Hd hC;clear hC
  gi_wp2_with (first
   | (gi_at_next;refine wpListIn_next_ranges _ rfl _ rfl 25 keyed3 elS id St.val (fun key kl _ => ⟨key,rfl⟩) (fun v y hv => by obtain ⟨t,rfl,_⟩:=elS_inv hv;exact ⟨t,rfl⟩) b W.heap.size nn _ _ _ rfl hrg ?_ ?_)
   | gi_in)
  · intro hc0 hl0
    have H:=Hd (HC.out.done hl0)
    gi_wp2
    go_end0
    exact ⟨⟨_,rfl⟩,.inl ⟨xs,H.out,hJs⟩⟩
  · intro x c kl0 yd yp w2 cnt2 hkey hlk hv hat hrg2 hlt hg2 hs2 hen
    obtain ⟨c',ec,ez⟩:=elS_inv hv
    obtain rfl:=val_inj ec
    obtain rfl : yd = dat c:=(Prod.mk.inj ez).1
    clear ez
    have hc:=(map_at HP.out.1 hat).1
    have hJ2 : J xs w2:=HJ.out xs wr w2 (some W.heap.size) hJs hg2 (fun r e => by cases e;exact ⟨Nat.le_refl _,hrg.iter_walk⟩)
    have hJ3 : J xs (w2.alloc (.cells #[.int .i64 c.d,.int .i64 c.e,.int .i64 c.x,.int .i64 c.y,.int .i64 c.z] 27)):=HJ.out _ _ _ none hJ2 (World.grownBy_alloc _ _ none) (fun r e => by cases e)
    obtain ⟨fn,tmps,assign,body,hy,hR⟩:=hY xs ⟨c,HP.out.2.1 c hc⟩ _ hJ3 (by omega)
    dsimp only [encS] at hy
    have hC2:=HC.out.step HP.out.1 HP.out.2.1 HP.out.2.2 ⟨c,HP.out.2.1 c hc⟩ hlk hat
    have hrg3:=hrg2.of_walks (KeepsWalks.alloc w2 (.cells #[.int .i64 c.d,.int .i64 c.e,.int .i64 c.x,.int .i64 c.y,.int .i64 c.z] 27))
    have HC2:=Hd hC2;have HRG:=Hd hrg3;have HR:=Hd hR;have HRG0:=Hd hrg
    unfold St.val at *
    clear hs2 hC2 hrg3 hR hrg hrg2 hkey hlk hv hat hg2 hJ2 hJ3 hJs ec HC
    gi_wp2
    refine HR.out.mono ?_
    rintro e W3 (⟨rfl,hJ3,hk3⟩ | ⟨rfl,hJx3⟩)
    · have hrg4:=HRG.out.of_walks hk3
      have HRG4:=Hd hrg4;clear hrg4 hk3
      gi_wp2
      go_roundw
      case rel => exact ⟨_,cnt2,xs ++ [⟨c,_⟩],HRG4.out,by rw [List.length_append];simp;omega,HC2.out,hJ3⟩
      case measure => rw [HRG4.out.left_eq,HRG0.out.left_eq];exact hlt
    · gi_wp2
      refine bodyPost_ret (results_none rfl _ _ _) rfl ?_
      exact ⟨⟨_,rfl⟩,.inr ⟨_,trivial,hJx3⟩⟩
end

section
open Go.ChangeShapes Go.WideShapes Go.ChangeAt Go.RowKit Go.BigFrame Go.Shelf
attribute [local go_sem] Oper.semAt_some
def AppI (w : World) (pre : List RSt) (W : World) : Prop:=∃ v,Boxed W w.heap.size 34 v ∧ W.ownsRow w.heap.size 27 5 v pre.length (rowS (raw pre)) ∧ True
theorem rowS_one_at (w : World) (t : St) : ∀ (j : Nat) (u : Value),(rowS [t])[j]? = some u → (w.alloc (.cells #[.int .i64 t.d,.int .i64 t.e,.int .i64 t.x,.int .i64 t.y,.int .i64 t.z] 27)).cell? ((⟨w.heap.size,0,none⟩ : Addr).add j) = some u:=by
 intro j u hj
 have h : Row (w.alloc (.cells #[.int .i64 t.d,.int .i64 t.e,.int .i64 t.x,.int .i64 t.y,.int .i64 t.z] 27)) w.heap.size 27 (rowS [t]):=Row.made w _ (rowS [t])
 rw [add_zero_off]
 exact (h.cell j).trans hj
set_option maxRecDepth 100000 in
set_option maxHeartbeats 4000000 in
theorem appendSeq_any (g N : Nat) (lb : Array Value) (S Sp : List RSt → Prop) (hN : N ≤ 200000000) (w0 w : World) (hb0 : Below w0.heap.size w0 w) (eg : ∀ args w,(callFunc g args).run Tryz.prog w = .ok (.enter g args) w)
 (hseq : ∀ n,1 ≤ n → SeqStopsK Fence.wide n Tryz.prog g lb encS KeepsWalks S Sp N w0) :
 Calls Tryz.prog 199 #[.slice none 0 0,.func (.func g) #[] lb] w fun e W' => (∃ v xs,e = .returned v ∧ S xs ∧ W'.ownsRow w.heap.size 27 5 v xs.length (rowS (raw xs))) ∧ Below w.heap.size w W':=by
 refine (callsIn_wide (n:=5)).1 ?_
 refine callsIn_of_wp_marks Tryz.func199 rfl trivial ?_ rfl
 simp only [Tryz.ntmps199,List.size_toArray,List.length_cons,List.length_nil,Nat.reduceAdd,Nat.reduceSub,Array.replicate_succ,Array.replicate_zero,List.push_toArray,List.append_toArray,List.nil_append,List.cons_append]
 obtain ⟨i0,hi,hz0,hz1,hz2⟩:=info_parts Tryz.infoStamp
 gi_wp2
 have hsz : (w.alloc (.cells #[.slice none 0 0] 34)).heap.size = w.heap.size + 1:=by simp
 have bM:=Boxed.new w 34 (.slice none 0 0)
 have hB0 : Below w.heap.size w (w.alloc (.cells #[.slice none 0 0] 34)):=(Below.refl _ w).alloc (Nat.le_refl _) _
 have hK0 : Below w0.heap.size w0 (w.alloc (.cells #[.slice none 0 0] 34)):=hb0.alloc hb0.size _
 obtain ⟨W0,hW0⟩ : ∃ W0,w.alloc (.cells #[.slice none 0 0] 34) = W0:=⟨_,rfl⟩
 rw [hW0] at hsz bM hB0 hK0 ⊢
 clear hW0 hb0
 refine wpIn_rangeFunc_ownH rfl (by omega) (gf:=g) (lb:=lb) rfl trivial eg (hseq 4 (by omega)) walksK_t walksK_b hK0 (fun _ => rfl)
  (fun pre W => AppI w pre W ∧ Below w.heap.size w W)
  (fun _ _ _ => False)
  (OwnFrom.and (Own.from (holdsRow_own w.heap.size w.heap.size 34 27 5 (fun pre : List RSt => pre.length) (fun pre => rowS (raw pre)) (fun _ _ => True)) _) (ownFrom_below (Nat.le_refl _) (by omega)))
  (fun _ _ _ _ _ hs _ _ => hs)
  ⟨⟨_,bM,World.ownsRow_nil _ _ _ _,trivial⟩,hB0⟩
  (fun x a' W => ∃ Bx,w.heap.size < Bx ∧ Holds W Bx x.1 ∧ a' = { tmps:=#[.slice none 0 0,.func (.func g) #[] lb,.pointer (some ⟨w.heap.size,0,none⟩),undef,.slice none 0 0,.pointer (some ⟨Bx,0,none⟩),.func (.func g) #[] lb,.agg #[.int .i64 x.1.d,.int .i64 x.1.e,.int .i64 x.1.x,.int .i64 x.1.y,.int .i64 x.1.z],undef,undef,undef,undef,undef],defers:=[] })
  (fun x a' _ X Y row hs hg hr => by
    obtain ⟨Bx,h1,h2,h3⟩:=hs
    refine ⟨Bx,h1,Row.grown h2 hg (fun e => ?_),h3⟩
    obtain ⟨_,o,ho,hc⟩:=hr Bx e.symm
    have h4 : X.heap[Bx]? = _:=h2
    rw [h4] at ho;cases ho;cases hc)
  ?assign ?body ?done ?stop
 case assign =>
  rintro l pre x W K ⟨⟨v,bM1,hr1⟩,hB1⟩ hK
  dsimp only [encS] at *
  unfold St.val at *
  gi_wp2
  exact hK _ _ ((KeepsOthers.alloc _ _).from _) (KeepsWalks.alloc W _) ⟨⟨v,bM1.alloc _,hr1.1.alloc _,trivial⟩,hB1.alloc hB1.size _⟩ ⟨W.heap.size,bM1.lt,Holds.made W x.1,rfl⟩
 case body =>
  rintro l pre x a' W hl ⟨r,hr⟩ ⟨⟨v,bM1,hr1,_⟩,hB1⟩ ⟨Bx,hBx,bX,rfl⟩ hlt
  have hsW:=hB1.size
  have cM:=bM1.cell
  have hBl:=bX.lt
  have hml:=bM1.lt
  obtain ⟨c0,c1,c2,c3,c4⟩:=bX.cells5
  have hnews:=rowS_one_at W x.1
  have hrow:=hr1.alloc (.cells #[.int .i64 x.1.d,.int .i64 x.1.e,.int .i64 x.1.x,.int .i64 x.1.y,.int .i64 x.1.z] 27)
  have hlen : rowS (raw pre) ++ rowS [x.1] = rowS (raw (pre ++ [x])):=by rw [← rowS_append];simp [raw]
  have HB:=Hd (And.intro bM1 (And.intro hr1 hB1));have HROW:=Hd hrow;have HN:=Hd hnews;have HL:=Hd hlen
  clear bM1 hr1 hB1 hrow hnews hr bX hseq eg hB0 hK0 hlen
  gi_wp2_with (gi_at_builtin;refine wpListIn_append_own _ rfl _ _ 34 rfl w.heap.size 27 i0 (.agg #[.int .i64 0,.int .i64 0,.int .i64 0,.int .i64 0,.int .i64 0]) 5 40 Tryz.underlying34 hi hz0 hz1 hz2 rfl (by decide) v pre.length (rowS (raw pre)) rfl HROW.out ⟨W.heap.size,0,none⟩ 1 1 (rowS [x.1]) rfl rfl HN.out (rowS_one [x.1]) (by unfold maxLen;omega) (by omega) (by simp;omega) ?_;intro v' w1 hown' hgrow _;obtain ⟨g',cap',rfl⟩:=ownsRow_succ hown';obtain ⟨hv1,hv2,hr2,hk2,hb2⟩:=(HB.out.1).appended (by decide) HB.out.2.1 hsW (Nat.le_refl _) hown' hgrow;have hc1:=hv1.cell;have hf1:=hv1.frozen)
  rw [HL.out] at hr2
  exact ⟨hk2.from _,hk2.walks,⟨_,hv2,by rw [List.length_append];exact hr2,trivial⟩,HB.out.2.2.trans hb2⟩
 case done =>
  rintro D ys W hD hys ⟨⟨v,bM1,hr1,_⟩,hB1⟩ hK
  have cM:=bM1.cell
  have HR:=Hd hr1;have HB1:=Hd hB1;have HK:=Hd hK
  clear hr1 bM1 hB1 hseq eg hB0 hK0 hK
  gi_wp2
  refine ⟨by simp,.inl ⟨_,_,rfl,run_takeDeferred HK.out,?_⟩⟩
  exact ⟨_,results_tmp rfl _ _ _,⟨_,ys,rfl,hys,ownsRow_putObj HR.out _ HK.out rfl⟩,HB1.out.trans (belowK_b (w:=w) (Nat.le_refl _) W D _ _ (by omega) HK.out rfl rfl)⟩
 case stop =>
  rintro D c pre W _ _ h _
  exact h.elim
theorem collect_any (g N : Nat) (lb : Array Value) (S Sp : List RSt → Prop) (hN : N ≤ 200000000) (w0 w : World) (hb0 : Below w0.heap.size w0 w) (eg : ∀ args w,(callFunc g args).run Tryz.prog w = .ok (.enter g args) w)
 (hseq : ∀ n,1 ≤ n → SeqStopsK Fence.wide n Tryz.prog g lb encS KeepsWalks S Sp N w0) :
 Calls Tryz.prog 173 #[.func (.func g) #[] lb] w fun e W' => (∃ v xs,e = .returned v ∧ S xs ∧ W'.ownsRow w.heap.size 27 5 v xs.length (rowS (raw xs))) ∧ Below w.heap.size w W':=by
 have H:=Hd (appendSeq_any g N lb S Sp hN w0 w hb0 eg hseq)
 clear hseq eg hb0
 go_enter Tryz.func173,Tryz.ntmps173
 go_wp2_with fail
 refine (H.out).mono ?_;rintro e w1 ⟨⟨v,xs,rfl,hS,hr⟩,hb⟩
 have HH:=Hd (And.intro hS (And.intro hr hb));clear hS hr hb
 dsimp only
 go_wp2_with fail
 go_ret
 exact ⟨⟨v,xs,rfl,HH.out.1,HH.out.2.1⟩,HH.out.2.2⟩
end

section
open Go.ChangeShapes Go.WideShapes Go.ChangeAt Go.RowKit Go.BigFrame Go.Shelf
open Go.Sort (grow SWO putCells flatK size_flatK get_flatK putRowK HoldsK)
instance : Inhabited St:=⟨St.zero⟩
theorem grew_grow {W w' : World} (h : Grew W w') : ∃ q os,w' = grow (W.drewN q) os:=by
 obtain ⟨⟨h1,h2,h3,h4,h5⟩,h6⟩:=h
 refine ⟨w'.drawn - W.drawn,w'.heap.extract W.heap.size w'.heap.size,?_⟩
 have hh : w'.heap = W.heap ++ w'.heap.extract W.heap.size w'.heap.size:=by
  apply Array.ext_getElem?
  intro k
  rw [Array.getElem?_append]
  split
  · rename_i hk;exact h5 k hk
  · rename_i hk
    rw [Array.getElem?_extract]
    by_cases hk2 : k < w'.heap.size
    · rw [if_pos (by omega),show W.heap.size + (k - W.heap.size) = k by omega]
    · rw [if_neg (by omega),Array.getElem?_eq_none (by omega)]
 have hd : w'.drawn = W.drawn + (w'.drawn - W.drawn):=by omega
 cases w'
 cases W
 simp only at h1 h2 h3 hh hd
 unfold grow World.drewN
 simp only [World.mk.injEq]
 exact ⟨hh,h2,hd,h1,h3⟩
theorem flat_row (ts : List St) : flatK St.cells 5 ts.toArray = (rowS ts).toArray:=by
 apply Array.ext_getElem?
 intro k
 by_cases hk : k < ts.length * 5
 · have h1 : k / 5 < ts.length:=by omega
   obtain ⟨t,ht⟩ : ∃ t,ts[k / 5]? = some t:=⟨_,List.getElem?_eq_getElem h1⟩
   obtain ⟨u,hu⟩ : ∃ u,t.cells[k % 5]? = some u:=⟨_,List.getElem?_eq_getElem (by show k % 5 < 5;omega)⟩
   have h2:=rowS_at ts (k / 5) t ht (k % 5) u hu
   rw [show k / 5 * 5 + k % 5 = k by omega] at h2
   have hrhs : (rowS ts).toArray[k]? = some u:=by simpa using h2
   rw [hrhs]
   have h3:=get_flatK St.cells 5 ts.toArray k (by simpa using hk)
   have h4 : ts.toArray[k / 5]! = t:=by
    rw [List.getElem!_toArray,List.getElem!_eq_getElem?_getD,ht];rfl
   rw [h4,List.getElem!_eq_getElem?_getD,hu] at h3
   have h5 : k < (flatK St.cells 5 ts.toArray).size:=by rw [size_flatK];simpa using hk
   rw [getElem!_pos _ k h5] at h3
   rw [Array.getElem?_eq_getElem h5,h3];rfl
 · rw [Array.getElem?_eq_none (by rw [size_flatK];simpa using hk),Array.getElem?_eq_none (by simp only [List.size_toArray];rw [rowS_len];omega)]
theorem swoC : SWO (ltOf St.C) where
 irrefl x:=by
  have : x.C x = 0:=St.C_zero.2 rfl
  simp [ltOf,this]
 trans x y z h1 h2:=by
  simp only [ltOf,decide_eq_true_eq] at *
  exact St.C_lt_trans h1 h2
 ntrans x y z h1 h2:=by
  simp only [ltOf,decide_eq_false_iff_not] at *
  have e1:=St.C_swap (a:=x) (b:=y)
  have e2:=St.C_swap (a:=y) (b:=z)
  have e3:=St.C_swap (a:=x) (b:=z)
  have:=St.C_trans (a:=z) (b:=y) (c:=x) (by omega) (by omega)
  omega
def sortS (ts : List St) : List St:=ts.mergeSort fun x y => !(ltOf St.C) y x
theorem sortS_perm (ts : List St) : (sortS ts).Perm ts:=List.mergeSort_perm _ _
theorem sortS_rises (ts : List St) : (sortS ts).Pairwise fun x y => x.C y ≤ 0:=by
 refine (List.pairwise_mergeSort (le:=fun x y => !(ltOf St.C) y x) ?_ ?_ ts).imp ?_
 · intro a b c h1 h2
   simp only [ltOf,Bool.not_eq_true',decide_eq_false_iff_not] at *
   have e1:=St.C_swap (a:=a) (b:=b)
   have e2:=St.C_swap (a:=b) (b:=c)
   have e3:=St.C_swap (a:=a) (b:=c)
   have:=St.C_trans (a:=a) (b:=b) (c:=c) (by omega) (by omega)
   omega
 · intro a b
   have e1:=St.C_swap (a:=a) (b:=b)
   simp only [ltOf,Bool.or_eq_true,Bool.not_eq_true',decide_eq_false_iff_not]
   omega
 · intro a b h
   have e1:=St.C_swap (a:=a) (b:=b)
   simp only [ltOf,Bool.not_eq_true',decide_eq_false_iff_not] at h
   omega
theorem cmpLays (blk off size : Nat) (w : World) : CmpLays Tryz.prog 129 #[] St.cells 5 St.C blk off size w:=by
 intro m os dk _ x y
 exact (compare_grew x y _).mono fun _ _ h => ⟨h.1,grew_grow h.2⟩
theorem grown_sorted {w : World} {g n : Nat} {os : Array Obj} (d : Array St) : w.grownBy (sortWorldK St.cells 5 w g 0 n d os) (some g):=by
 refine ⟨rfl,rfl,rfl,?_,fun k hk hne => ?_⟩
 · exact size_sortWorldK_c St.cells 5 w g 0 n d os
 · unfold sortWorldK
   rw [Go.Sort.heap_grow_old _ _ (by simpa [putRowK] using hk)]
   have : g ≠ k:=fun e => hne (by rw [e])
   simp [putRowK,Go.Sort.putRow,Go.Sort.mapBlock,Go.Sort.ahead,Array.getElem?_modify,this]
theorem sortFunc_any (base n : Nat) (v : Value) (ts : List St) (w : World) (hr : w.ownsRow base 27 5 v n (rowS ts)) (hn : ts.length ≤ 200000000) :
 Calls Tryz.prog 174 #[v,.func (.func 129) #[] #[]] w fun e w' => e = .returned (.tuple #[]) ∧ w'.ownsRow base 27 5 v n (rowS (sortS ts)) ∧ w.grownBy w' v.ownBlock:=by
 have hl : ts.length = n:=by have:=hr.1;rw [rowS_len] at this;omega
 rcases hr.2 with ⟨rfl,h0⟩ | ⟨g,cap,cur,rfl,hb,hh,h1,h2,h3,h4⟩
 · have : ts = []:=List.eq_nil_of_length_eq_zero (by omega)
   subst this
   exact (AnyF.slices_SortFunc_none Tryz.sortStamp none 0 _ w).mono fun e w' ⟨he,hw⟩ => ⟨he,by subst hw;rw [show sortS [] = [] from List.mergeSort_nil];exact hr,by subst hw;exact ⟨rfl,rfl,rfl,Nat.le_refl _,fun _ _ _ => rfl⟩⟩
 · have hg : g < w.heap.size:=(Array.getElem?_eq_some_iff.1 hh).1
   have hH : HoldsK St.cells 5 w g 0 ts.toArray:=by
    unfold HoldsK
    rw [flat_row]
    intro j hj
    have hj' : j < (rowS ts).length:=by simpa using hj
    refine ⟨?_,by simp [World.frozen?,hh]⟩
    have hc:=hr.cells (g:=g) rfl j _ (List.getElem?_eq_getElem hj')
    rw [add_zero_off] at hc
    rw [Nat.zero_add,hc,getElem!_pos _ j hj]
    rfl
   have hs:=AnyQ.slices_SortFunc_total Tryz.sortStamp 5 Tryz.isAgg27 Tryz.sizeOf27 St.cells (fun _ => rfl) (fun x v hv => rowS_one [x] v (by simpa [rowS] using hv)) St.C swoC 129 #[] g 0 cap ts.toArray w
    (enters_of Tryz.func129 (by kernel_rfl) rfl) (cmpLays _ _ _ _) hH hg (by simp;omega) (fun x y hx hy => by
      simp only [ltOf,decide_eq_false_iff_not] at hx hy
      have e1:=St.C_swap (a:=x) (b:=y)
      exact St.C_zero.1 (by omega))
   rw [show ts.toArray.size = n by simpa using hl] at hs
   refine hs.mono fun e w' ⟨he,m,os,hw⟩ => ⟨he,?_,by subst hw;exact grown_sorted _⟩
   subst hw
   refine ⟨by rw [rowS_len,(sortS_perm ts).length_eq,hl],.inr ⟨g,cap,putCells id 0 (rowS (sortS ts)).toArray cur,rfl,hb,?_,h1,h2,by simp [putCells,h3],?_⟩⟩
   · unfold sortWorldK
     rw [Go.Sort.heap_grow_old _ _ (by simpa [putRowK] using hg)]
     show (putRowK St.cells 5 (Go.Sort.ahead w m) g 0 (sortS ts).toArray).heap[g]? = _
     unfold putRowK
     rw [flat_row]
     simp [Go.Sort.putRow,Go.Sort.mapBlock,Go.Sort.ahead,Array.getElem?_modify,hh,Go.Sort.onCells]
   · have hlen : (rowS (sortS ts)).length = n * 5:=by rw [rowS_len,(sortS_perm ts).length_eq,hl]
     apply List.ext_getElem?
     intro j
     by_cases hj : j < n * 5
     · rw [List.getElem?_take_of_lt hj,Array.getElem?_toList]
       have : j < cur.size:=by have:=Nat.mul_le_mul_right 5 h1;omega
       simp [putCells,hlen,hj,this]
     · rw [List.getElem?_take_eq_none (by omega),List.getElem?_eq_none (by omega)]
end

section
open Go.ChangeShapes Go.WideShapes Go.ChangeAt Go.RowKit Go.BigFrame Go.Shelf
theorem sortedFunc_any (g N : Nat) (lb : Array Value) (S Sp : List RSt → Prop) (hN : N ≤ 200000000) (hS : ∀ xs,S xs → xs.length ≤ 200000000) (w0 w : World) (hb0 : Below w0.heap.size w0 w) (eg : ∀ args w,(callFunc g args).run Tryz.prog w = .ok (.enter g args) w)
 (hseq : ∀ n,1 ≤ n → SeqStopsK Fence.wide n Tryz.prog g lb encS KeepsWalks S Sp N w0) :
 Calls Tryz.prog 126 #[.func (.func g) #[] lb,.func (.func 129) #[] #[]] w fun e W' => (∃ v xs,e = .returned v ∧ S xs ∧ W'.ownsRow w.heap.size 27 5 v xs.length (rowS (sortS (raw xs)))) ∧ Below w.heap.size w W':=by
 have H:=Hd (collect_any g N lb S Sp hN w0 w hb0 eg hseq)
 have HS:=Hd hS
 clear hseq eg hb0 hS
 go_enter Tryz.func126,Tryz.ntmps126
 go_wp2_with fail
 refine (H.out).mono ?_;rintro e w1 ⟨⟨v,xs,rfl,hs,hr⟩,hb⟩
 have hso:=sortFunc_any w.heap.size xs.length v (raw xs) w1 hr (by rw [raw_length];exact HS.out _ hs)
 have hv : ∀ k,v.ownBlock = some k → w.heap.size ≤ k:=fun k hk => (hr.lt k hk).1
 have HH:=Hd (And.intro hs (And.intro hv hb));have HSO:=Hd hso;clear hs hr hb hso hv H
 dsimp only
 go_wp2_with fail
 refine (HSO.out).mono ?_;rintro e w2 ⟨rfl,hr2,hg⟩
 have H2:=Hd (And.intro hr2 (HH.out.2.2.grown hg HH.out.2.2.size HH.out.2.1));clear hr2 hg HSO
 dsimp only
 go_wp2_with fail
 go_ret
 exact ⟨⟨v,xs,rfl,HH.out.1,H2.out.1⟩,H2.out.2⟩
def take1 (f : List St) (t : St) : List St:=if (f.any fun x => decide (x.L t)) then f else f ++ [t]
def greedy (ds : List St) : List St:=ds.foldl take1 []
theorem greedy_snoc (ds : List St) (t : St) : greedy (ds ++ [t]) = take1 (greedy ds) t:=by simp [greedy]
structure frGr (ds us : List St) : Prop where
 sub : us.Sublist ds
 all : ∀ x ∈ ds,∃ y ∈ us,y.L x
 least : ∀ x ∈ us,∀ y ∈ ds,y.L x → y = x
theorem frGr.step {ds us : List St} {t : St} (h : frGr ds us) (hR : t.R) (hs : ∀ x ∈ ds,x.C t < 0) : frGr (ds ++ [t]) (take1 us t):=by
 have hno : ∀ x ∈ us,¬ t.L x:=fun x hx hl => by
  have h1:=hs x (h.sub.subset hx)
  have h2:=L_C t x hl
  exact h2 h1
 unfold take1
 split
 · rename_i ha
   obtain ⟨u,hu,hl⟩:=List.any_eq_true.1 ha
   have hl : u.L t:=by simpa using hl
   refine ⟨h.sub.trans (List.sublist_append_left _ _),fun x hx => ?_,fun x hx y hy hyx => ?_⟩
   · rcases List.mem_append.1 hx with hx | hx
     · exact h.all x hx
     · rw [List.mem_singleton] at hx;subst hx;exact ⟨u,hu,hl⟩
   · rcases List.mem_append.1 hy with hy | hy
     · exact h.least x hx y hy hyx
     · rw [List.mem_singleton] at hy;subst hy;exact absurd hyx (hno x hx)
 · rename_i ha
   have ha : ∀ u ∈ us,¬ u.L t:=fun u hu hl => ha (List.any_eq_true.2 ⟨u,hu,by simpa using hl⟩)
   refine ⟨h.sub.append (List.Sublist.refl _),fun x hx => ?_,fun x hx y hy hyx => ?_⟩
   · rcases List.mem_append.1 hx with hx | hx
     · obtain ⟨y,hy,hl⟩:=h.all x hx
       exact ⟨y,List.mem_append_left _ hy,hl⟩
     · rw [List.mem_singleton] at hx;subst hx;exact ⟨x,List.mem_append_right _ (by simp),St.L_refl.2 hR⟩
   · rcases List.mem_append.1 hx with kx | kx <;> rcases List.mem_append.1 hy with ky | ky
     · exact h.least x kx y ky hyx
     · rw [List.mem_singleton] at ky;rw [ky] at hyx;exact absurd hyx (hno x kx)
     · rw [List.mem_singleton] at kx;rw [kx] at hyx
       obtain ⟨u,hu,hl⟩:=h.all y ky
       exact absurd (St.L_trans hl hyx) (ha u hu)
     · rw [List.mem_singleton] at kx ky;rw [kx,ky]
theorem gr_greedy : ∀ (n : Nat) (ds : List St),ds.length = n → (∀ x ∈ ds,x.R) → ds.Pairwise (fun x y => x.C y < 0) → frGr ds (greedy ds):=by
 intro n
 induction n with
 | zero =>
   intro ds hl _ _
   have:=List.eq_nil_of_length_eq_zero hl
   subst this
   exact ⟨List.Sublist.refl _,by simp,by simp [greedy]⟩
 | succ n ih =>
   intro ds hl hR hp
   rcases List.eq_nil_or_concat ds with rfl | ⟨es,t,rfl⟩
   · simp at hl
   · rw [List.concat_eq_append] at *
     rw [List.pairwise_append] at hp
     rw [greedy_snoc]
     exact (ih es (by simpa using hl) (fun x hx => hR x (List.mem_append_left _ hx)) hp.1).step (hR t (by simp)) (fun x hx => hp.2.2 x hx t (by simp))
theorem greedy_len : ∀ (n : Nat) (ds : List St),ds.length = n → (greedy ds).length ≤ n:=by
 intro n
 induction n with
 | zero => intro ds hl;have:=List.eq_nil_of_length_eq_zero hl;subst this;simp [greedy]
 | succ n ih =>
   intro ds hl
   rcases List.eq_nil_or_concat ds with rfl | ⟨es,t,rfl⟩
   · simp at hl
   · rw [List.concat_eq_append] at *
     rw [greedy_snoc]
     have:=ih es (by simpa using hl)
     unfold take1
     split
     · omega
     · simp;omega
theorem key_L {e x : St} (he : e.R) (hx : x.R) (hd : e.d = x.d) (hk : e.key = x.key) (hl : e.e ≤ x.e) : e.L x:=by
 obtain ⟨h1,h2,h3⟩:=key_inj.1 hk
 exact ⟨he,hx,hd,hl,Int.le_of_eq h1,Int.le_of_eq h2,Int.le_of_eq h3⟩
theorem first_is {l E : List St} {xs : List RSt} (hl : Even l) (hE : Ear l E) (hx : frAllOf E xs) : greedy (sortS (raw xs)) = ofS l:=by
 have hp:=sortS_perm (raw xs)
 have hm : ∀ t,t ∈ sortS (raw xs) ↔ t ∈ E:=fun t => hp.mem_iff.trans (hx.2 t)
 have hnd : (sortS (raw xs)).Nodup:=hp.nodup_iff.2 hx.1
 have hR : ∀ x ∈ sortS (raw xs),x.R:=fun x h => (hl x (hE.sub x ((hm x).1 h))).1
 have hs : (sortS (raw xs)).Pairwise fun x y => x.C y < 0:=by
  refine (List.Pairwise.and (sortS_rises (raw xs)) hnd).imp ?_
  rintro x y ⟨h1,h2⟩
  rcases Int.lt_or_eq_of_le h1 with h3 | h3
  · exact h3
  · exact absurd (St.C_zero.1 h3) h2
 have hg:=gr_greedy _ (sortS (raw xs)) rfl hR hs
 have hsub : ∀ x ∈ greedy (sortS (raw xs)),x ∈ l:=fun x h => hE.sub x ((hm x).1 (hg.sub.subset h))
 have hf : Fr (greedy (sortS (raw xs))):=⟨fun x h => (hl x (hsub x h)).1,fun x h y k => (hl x (hsub x h)).2 y (hsub y k),hs.sublist hg.sub,fun x h y k hxy => hg.least y k x (hg.sub.subset h) hxy⟩
 refine Fr.ext hf (ofS_fr hl) fun t => ?_
 rw [ofS_up hl]
 constructor
 · rintro ⟨x,h,k⟩;exact ⟨x,hsub x h,k⟩
 · rintro ⟨x,h,k⟩
   obtain ⟨e,he,hk,hle⟩:=hE.all x h
   have hel : e.L x:=key_L (hl e (hE.sub e he)).1 (hl x h).1 ((hl e (hE.sub e he)).2 x h) hk hle
   obtain ⟨u,hu,hue⟩:=hg.all e ((hm e).2 he)
   exact ⟨u,hu,St.L_trans (St.L_trans hue hel) k⟩
theorem own_len {w : World} {base n : Nat} {v : Value} {ts : List St} (h : w.ownsRow base 27 5 v n (rowS ts)) : n = ts.length:=by
 have:=h.1;rw [rowS_len] at this;omega
theorem own_kept {w w' : World} {base n : Nat} {v : Value} {xs : List Value} (h : w.ownsRow base 27 5 v n xs) (hb : Below w.heap.size w w') : w'.ownsRow base 27 5 v n xs:=by
 refine h.kept (frGrown_below hb) ?_
 cases hv : v.ownBlock with
 | none => exact .inl rfl
 | some k => exact .inr (by simp)
set_option maxHeartbeats 4000000 in
theorem first_any (g n₀ : Nat) (lb : Array Value) (ts : List RSt) (Sp : List RSt → Prop) (hl : ts.length ≤ 200000000) (hev : Even (raw ts)) (w0 w : World) (hb0 : Below w0.heap.size w0 w) (hn₀ : n₀ ≤ w0.heap.size) (eg : ∀ args w,(callFunc g args).run Tryz.prog w = .ok (.enter g args) w)
 (hseq : ∀ n,1 ≤ n → SeqStopsK Fence.wide n Tryz.prog g lb encS (Keep n₀) (fun ys => ys = ts) Sp ts.length w0) :
 Calls Tryz.prog 76 #[.func (.func g) #[] lb] w fun e W' => (∃ v,e = .returned v ∧ W'.ownsRow w.heap.size 27 5 v (ofS (raw ts)).length (rowS (ofS (raw ts)))) ∧ Below w.heap.size w W':=by
 have H:=Hd (earliest_any g n₀ ts.length lb _ Sp hl w0 w hb0 hn₀ eg (fun xs h => by rw [h];exact hl) hseq)
 have HEV:=Hd hev
 clear hseq eg hb0 hev
 go_enter Tryz.func76,Tryz.ntmps76
 go_wp2_with fail
 refine (H.out).mono ?_;rintro e w1 ⟨rfl,⟨xs,E,m,rfl,hM,hEar,hEl⟩,hb1⟩
 have hmv:=mvalues_any (some w.heap.size) w1
 have HMV:=Hd hmv;have HM:=Hd (And.intro hM hEar);have HB1:=Hd hb1;clear hmv hM hEar hb1 H
 go_wp2_with fail
 refine (HMV.out).mono ?_;rintro e w2 ⟨rfl,rfl⟩
 have hso:=sortedFunc_any 175 E.length #[.pointer (some ⟨w1.heap.size,0,none⟩)] (frAllOf E) (fun _ => True) hEl
  (fun ys hy => by
    have h1 : (raw ys).Perm E:=(List.perm_ext_iff_of_nodup hy.1 (HM.out.1.2.2.imp fun h e => h (by rw [e]))).2 hy.2
    have h2:=h1.length_eq
    rw [raw_length] at h2;omega)
  _ (w1.alloc (.cells #[.map (some w.heap.size)] 168)) (Below.refl _ _) (enters_of Tryz.func175 (by kernel_rfl) rfl)
  (fun n hn => mvaluesC n hn w1.heap.size w.heap.size m E hEl _ (BoxAt.made w1 _ _) (HM.out.1.alloc _))
 have HSO:=Hd hso;clear hso HMV
 go_wp2_with fail
 refine (HSO.out).mono ?_;rintro e w3 ⟨⟨v,ys,rfl,hys,hr⟩,hb3⟩
 have hylen : (sortS (raw ys)).length ≤ 200000000:=by
  have h1 : (raw ys).Perm E:=(List.perm_ext_iff_of_nodup hys.1 (HM.out.1.2.2.imp fun h e => h (by rw [e]))).2 hys.2
  have h2:=h1.length_eq
  rw [(sortS_perm _).length_eq,h2];exact hEl
 have hfin:=first_is HEV.out HM.out.2 hys
 have hB3 : Below w.heap.size w w3:=(HB1.out.alloc HB1.out.size _).trans (hb3.mono (by have:=HB1.out.size;simp;omega))
 obtain ⟨A,c,rfl,hT,hle,_⟩:=Times.of_own hr
 rw [own_len hr] at *
 have hT:=Ts.of hT
 generalize sortS (raw ys) = ds at *
 have HFIN:=Hd hfin;have HT:=Hd hT;have HB3:=Hd hB3;clear hfin hT hB3 hr hb3 HSO hys HM HB1 HEV hle hEl
 dsimp only
 go_wp2_with fail
 go_loopw [3,11] (fun fv i wr => ∃ k : Nat,k ≤ ds.length ∧ i = .int .i64 k ∧ Below w3.heap.size w3 wr ∧ wr.ownsRow w3.heap.size 27 5 fv (greedy (ds.take k)).length (rowS (greedy (ds.take k)))) (fun _ i _ => ds.length - (intOf i).toNat)
 case atStart => exact ⟨0,Nat.zero_le _,rfl,Below.refl _ _,World.ownsRow_nil _ _ _ _⟩
 case round =>
  obtain ⟨k,hk,rfl,hbw,hro⟩:=hrel
  obtain ⟨B,c',rfl,hTu,hle,hcm⟩:=Times.of_own hro
  have hgl : (greedy (ds.take k)).length ≤ k:=greedy_len _ _ (by rw [List.length_take];omega)
  by_cases hlt : k < ds.length
  · obtain ⟨t,ht⟩ : ∃ t,ds[k]? = some t:=⟨_,List.getElem?_eq_getElem hlt⟩
    have hnext : greedy (ds.take (k + 1)) = take1 (greedy (ds.take k)) t:=by rw [List.take_add_one,ht,Option.toList,greedy_snoc]
    generalize greedy (ds.take k) = us at *
    obtain ⟨b,o,rfl,hbl,h5⟩:=HT.out.five ht
    obtain ⟨c0,c1,c2,c3,c4⟩:=h5 wr hbw
    have hrch:=reached_any B us c' t _ ((Ts.of hTu).below ((Below.refl wr.heap.size wr).alloc (Nat.le_refl _) (.cells #[.int .i64 t.d,.int .i64 t.e,.int .i64 t.x,.int .i64 t.y,.int .i64 t.z] 27))) (by omega)
    have hbx:=Holds.made wr t
    have hsz:=hbw.size
    cases hv : (us.any fun x => decide (x.L t)) with
    | true =>
      have e1 : take1 us t = us:=by unfold take1;rw [if_pos hv]
      rw [hv] at hrch
      rw [e1] at hnext
      have HR:=Hd hrch;have HN:=Hd hnext;have HO:=Hd (And.intro hbw hro)
      clear hrch hnext hbw hro hTu ht h5 hbl hv e1 hbx
      unfold St.val at *
      go_wp2_with fail
      refine (HR.out).mono ?_;rintro e w4 ⟨rfl,hb4⟩
      have hb5 : Below wr.heap.size wr w4:=((Below.refl _ _).alloc (Nat.le_refl _) _).trans (hb4.mono (by simp))
      have HB5:=Hd hb5;clear hb4 hb5 c0 c1 c2 c3 c4 HR
      go_wp2_with fail
      go_roundw
      case rel => exact ⟨k + 1,by omega,by simp,HO.out.1.trans (HB5.out.mono hsz),by rw [HN.out];exact own_kept HO.out.2 HB5.out⟩
      case measure => simp only [intOf];omega
    | false =>
      have e1 : take1 us t = us ++ [t]:=by unfold take1;rw [if_neg (by rw [hv];simp)]
      rw [hv] at hrch
      rw [e1] at hnext
      have HR:=Hd hrch;have HN:=Hd hnext;have HO:=Hd (And.intro hbw hro);have HX:=Hd hbx
      clear hrch hnext hbw hro hTu ht h5 hbl hv e1 hbx
      unfold St.val at *
      go_wp2_with fail
      refine (HR.out).mono ?_;rintro e w4 ⟨rfl,hb4⟩
      have hb5 : Below wr.heap.size wr w4:=((Below.refl _ _).alloc (Nat.le_refl _) _).trans (hb4.mono (by simp))
      have hx4:=HX.out.below hb4
      have hl4:=hx4.lt
      have hs5:=hb5.size
      have hoA:=(own_kept HO.out.2 hb5).alloc (.cells #[.int .i64 t.d,.int .i64 t.e,.int .i64 t.x,.int .i64 t.y,.int .i64 t.z] 27)
      have hTA:=Times.made w4 [t]
      have hba : Below w3.heap.size w3 (w4.alloc (.cells #[.int .i64 t.d,.int .i64 t.e,.int .i64 t.x,.int .i64 t.y,.int .i64 t.z] 27)):=(HO.out.1.trans (hb5.mono hsz)).alloc (by omega) _
      have hbs:=hba.size
      obtain ⟨d0,d1,d2,d3,d4⟩:=hx4.cells5
      have HBA:=Hd hba;clear hb4 hb5 c0 c1 c2 c3 c4 HR hx4 hba
      go_wp2_with (at_builtin;refine wpList_append_times rfl _ _ rfl w3.heap.size _ us.length us rfl hoA ⟨w4.heap.size,0,none⟩ 1 [t] rfl (by simp) hTA (by simp;omega) hbs ?_;intro v' w5 hown' hgr')
      have hb6:=own_belowS hoA hgr' HBA.out hbs
      have H6:=Hd (And.intro hown' hb6);clear hown' hgr' hoA hTA hb6 d0 d1 d2 d3 d4
      go_wp2_with fail
      go_roundw
      case rel => exact ⟨k + 1,by omega,by simp,H6.out.2,by rw [HN.out];simpa using H6.out.1⟩
      case measure => simp only [intOf];omega
  · have hk' : k = ds.length:=by omega
    have hfin : greedy (ds.take k) = ofS (raw xs):=by rw [hk',List.take_length];exact HFIN.out
    rw [hfin] at hro ⊢
    have HO:=Hd (And.intro hbw hro);clear hbw hro hTu hfin
    go_wp2_with fail
    go_ret
    refine ⟨⟨_,rfl,?_⟩,HB3.out.trans (HO.out.1.mono HB3.out.size)⟩
    obtain ⟨h1,h2⟩:=HO.out.2
    refine ⟨h1,?_⟩
    rcases h2 with h2 | ⟨g',cap,cur,hv,hb',h3⟩
    · exact .inl h2
    · exact .inr ⟨g',cap,cur,hv,Nat.le_trans HB3.out.size hb',h3⟩
end

section
open Go.ChangeShapes Go.WideShapes Go.ChangeAt Go.RowKit Go.BigFrame Go.Shelf
theorem grown_refl (w : World) (row : Option Nat) : w.grownBy w row:=⟨rfl,rfl,rfl,Nat.le_refl _,fun _ _ _ => rfl⟩
theorem wpList_append_ts {w : World} {ops : Array Oper} {rest : List Oper} {o : Oper} {a : Act} {Q : Exit → Act → World → Prop} (hgd : o.guard = none) (s x : Operand)
 (ho : o.op = .call { callee:=.builtin .append,args:=#[s,x],argTypes:=#[34,34] })
 (base : Nat) (v : Value) (n : Nat) (ts : List St) (hs : a.eval s = v) (hown : w.ownsRow base 27 5 v n (rowS ts))
 (A : Option Addr) (c : Nat) (ys : List St) (hx : a.eval x = .slice A ys.length c) (hA0 : A = none → c = 0) (hb : Ts w A ys)
 (hle : n + ys.length ≤ 800000000) (hbase : base ≤ w.heap.size)
 (h : ∀ v' w',w'.ownsRow base 27 5 v' (n + ys.length) (rowS (ts ++ ys)) → w.grownBy w' v.ownBlock → wpList Tryz.prog ops Q rest (a.put o.dst v') w') : wpList Tryz.prog ops Q (o :: rest) a w:=by
 obtain ⟨i,hi,hz0,hz1,hz2⟩:=info_parts Tryz.infoStamp
 cases A with
 | none =>
   have hy : ys = []:=by
    cases ys with
    | nil => rfl
    | cons y ys => obtain ⟨b,o,e,_⟩:=hb (by simp);cases e
   subst hy
   rw [hA0 rfl] at hx
   refine wpList_append_own_none hgd s x 34 ho base 27 i 5 Tryz.underlying34 hi v n (rowS ts) hs hown hx ?_
   exact h v w (by rw [List.append_nil];exact hown) (grown_refl _ _)
 | some ad =>
   refine wpList_append_own w hgd s x 34 ho base 27 i _ 5 40 Tryz.underlying34 hi hz0 hz1 hz2 rfl (by omega) v n (rowS ts) hs hown ad ys.length c (rowS ys) hx (rowS_len ys) ?_ (rowS_one ys) (by unfold maxLen;omega) (by omega) hbase ?_
   · intro j u hj
     have hp : 0 < ys.length:=by
      have:=(List.getElem?_eq_some_iff.1 hj).1
      rw [rowS_len] at this;omega
     obtain ⟨b,o,e,_,hcell⟩:=hb hp
     cases e
     rw [add_at];exact hcell j u hj
   · intro v' w' h1 h2 _
     exact h v' w' (by rw [rowS_append];exact h1) h2
theorem grow_any (n : Nat) (w : World) (hn : n ≤ 800000000) : Calls Tryz.prog 131 #[.slice none 0 0,.int .i64 n] w fun e w' => (∃ v,e = .returned v ∧ w'.ownsRow w.heap.size 27 5 v 0 (rowS [])) ∧ Below w.heap.size w w':=by
 obtain ⟨i,hi,hz0,hz1,hz2⟩:=info_parts Tryz.infoStamp
 cases n with
 | zero => exact (Any8.slices_Grow_room Tryz.growStamp none 0 0 0 w (by omega) (by omega) (by omega) (by omega)).mono fun e w' ⟨he,hw⟩ => ⟨⟨_,he,World.ownsRow_nil _ _ _ _⟩,by subst hw;exact Below.refl _ _⟩
 | succ n =>
   refine (Any8.slices_Grow_grow Tryz.growStamp i _ hi hz0 (by rw [hz1];omega) none 0 0 (n + 1) [] w (by omega) (by omega) (by rw [hz2];omega) (by omega) (by simp) (fun _ => rfl) (fun a h => by cases h)).mono fun e w' ⟨he,hw⟩ => ?_
   subst hw
   refine ⟨⟨_,he,rfl,.inr ⟨w.heap.size,_,_,rfl,Nat.le_refl _,heap_alloc_new w.drew _,Nat.zero_le _,grownCap_le_maxLen _ _ _ _ (by unfold maxLen;omega),?_,by simp [rowS]⟩⟩,(below_drewN (Below.refl w.heap.size w) 1).alloc (Nat.le_refl _) _⟩
   · have:=grownCap_ge w (n + 1) 0 (Tryz.growStamp_ren.t 25)
     simp [Builtin.zeroCells,Value.cells]
     omega
def part2 (a b : List St) (k : Nat) : List St:=(if 0 < k then a else []) ++ (if 1 < k then b else [])
set_option maxHeartbeats 4000000 in
theorem concat_any (Bc : Nat) (A B : Option Addr) (a b : List St) (c d : Nat) (w : World) (hA : Ts w A a) (hB : Ts w B b) (ha : a.length ≤ 200000000) (hb : b.length ≤ 200000000) (hA0 : A = none → c = 0) (hB0 : B = none → d = 0)
 (hBc : Bc < w.heap.size) (h0 : w.cell? ⟨Bc,0,none⟩ = some (.slice A a.length c)) (h1 : w.cell? ⟨Bc,1,none⟩ = some (.slice B b.length d)) :
 Calls Tryz.prog 78 #[.slice (some ⟨Bc,0,none⟩) 2 2] w fun e w' => (∃ v,e = .returned v ∧ w'.ownsRow w.heap.size 27 5 v (a ++ b).length (rowS (a ++ b))) ∧ Below w.heap.size w w':=by
 have HA:=Hd hA;have HB:=Hd hB;clear hA hB
 go_enter Tryz.func78,Tryz.ntmps78
 go_wp2_with fail
 go_loop [3,11] (fun s i => ∃ k : Nat,k ≤ 2 ∧ i = .int .i64 k ∧ s = .int .i64 ((part2 a b k).length : Nat)) (fun _ i => 2 - (intOf i).toNat)
 case atStart => exact ⟨0,by omega,rfl,rfl⟩
 case round =>
  obtain ⟨k,hk,rfl,rfl⟩:=hrel
  have hcase : k = 0 ∨ k = 1 ∨ k = 2:=by omega
  clear hk
  have p0 : (part2 a b 0).length = 0:=rfl
  have p1 : (part2 a b 1).length = a.length:=by simp [part2]
  have p2 : (part2 a b 2).length = a.length + b.length:=by simp [part2]
  rcases hcase with rfl | rfl | rfl
  · rw [p0]
    have hw1 : wrap64 ((0 : Nat) + (a.length : Int)) = (a.length : Int):=by unfold wrap64;omega
    have hz1 : ¬ ((a.length : Int) < 0):=by omega
    go_wp2_with fail
    go_round
    case rel => exact ⟨1,by omega,rfl,by rw [p1]⟩
    case measure => simp [intOf]
  · rw [p1]
    have hw1 : wrap64 ((a.length : Int) + (b.length : Int)) = ((a.length + b.length : Nat) : Int):=by unfold wrap64;omega
    have hz1 : ¬ ((a.length : Int) + (b.length : Int) < 0):=by omega
    go_wp2_with fail
    go_round
    case rel => exact ⟨2,by omega,rfl,by rw [p2];simp⟩
    case measure => simp [intOf]
  · rw [p2]
    clear p0 p1 p2
    generalize hG : a.length + b.length = G at *
    have hgr:=grow_any G w (by omega)
    have HG:=Hd hgr;clear hgr
    go_wp2_with fail
    refine (HG.out).mono ?_;rintro e w1 ⟨⟨v,rfl,hown⟩,hb1⟩
    have HO:=Hd (And.intro hown hb1)
    have h0':=(hb1.cell (p:=⟨Bc,0,none⟩) hBc).trans h0
    have h1':=(hb1.cell (p:=⟨Bc,1,none⟩) hBc).trans h1
    clear hown HG
    dsimp only
    go_wp2_with fail
    go_loopw [6,27] (fun fv i wr => ∃ k : Nat,k ≤ 2 ∧ i = .int .i64 k ∧ Below w.heap.size w wr ∧ wr.ownsRow w.heap.size 27 5 fv (part2 a b k).length (rowS (part2 a b k))) (fun _ i _ => 2 - (intOf i).toNat)
    case atStart => exact ⟨0,by omega,rfl,HO.out.2,HO.out.1⟩
    case round =>
     obtain ⟨k,hk,rfl,hbw,hro⟩:=hrel
     have hcase : k = 0 ∨ k = 1 ∨ k = 2:=by omega
     clear hk h0' h1' hb1
     have hTA:=HA.out.below hbw
     have hTB:=HB.out.below hbw
     have c0:=(hbw.cell (p:=⟨Bc,0,none⟩) hBc).trans h0
     have c1:=(hbw.cell (p:=⟨Bc,1,none⟩) hBc).trans h1
     have hbs:=hbw.size
     have p0 : part2 a b 0 = []:=rfl
     have p1 : part2 a b 1 = a:=by simp [part2]
     have p2 : part2 a b 2 = a ++ b:=by simp [part2]
     rcases hcase with rfl | rfl | rfl
     · rw [p0] at hro
       have HBW:=Hd hbw;clear hbw
       go_wp2_with (at_builtin;refine wpList_append_ts rfl _ _ rfl w.heap.size _ _ [] rfl hro A c a rfl hA0 hTA (by simp;omega) hbs ?_;intro v' w5 hown' hgr')
       have hb6:=own_belowS hro hgr' HBW.out hbs
       have H6:=Hd (And.intro hown' hb6);clear hown' hgr' hro hb6 hTA hTB c0 c1
       go_wp2_with fail
       go_roundw
       case rel => exact ⟨1,by omega,rfl,H6.out.2,by rw [p1];simpa using H6.out.1⟩
       case measure => simp [intOf]
     · rw [p1] at hro
       have HBW:=Hd hbw;clear hbw
       go_wp2_with (at_builtin;refine wpList_append_ts rfl _ _ rfl w.heap.size _ _ a rfl hro B d b rfl hB0 hTB (by omega) hbs ?_;intro v' w5 hown' hgr')
       have hb6:=own_belowS hro hgr' HBW.out hbs
       have H6:=Hd (And.intro hown' hb6);clear hown' hgr' hro hb6 hTA hTB c0 c1
       go_wp2_with fail
       go_roundw
       case rel => exact ⟨2,by omega,rfl,H6.out.2,by rw [p2,List.length_append];exact H6.out.1⟩
       case measure => simp [intOf]
     · rw [p2] at hro
       have HO2:=Hd (And.intro hbw hro);clear hbw hro hTA hTB
       go_wp2_with fail
       go_ret
       exact ⟨⟨_,rfl,HO2.out.2⟩,HO2.out.1⟩
end
end Go.Proofs.YtonelpnhoiajgaaGreatDoor
