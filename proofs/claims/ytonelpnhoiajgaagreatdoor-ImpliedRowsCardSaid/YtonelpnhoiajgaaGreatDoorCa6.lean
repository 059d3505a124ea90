import Derived.Test.YtonelpnhoiajgaaGreatDoorHd
import Derived.Test.YtonelpnhoiajgaaGreatDoorCa3
import Derived.Test.YtonelpnhoiajgaaGreatDoorCa1
import Derived.RangeFuncNested
import Derived.RangeFuncBound
import Derived.RangeFuncCalls
import Derived.RangeFuncLeaves
import Derived.Shelf.RegionOpen
import Derived.OwnWalkIn
import Derived.TacticsInMore
import Derived.LoopNIn
import Derived.LoopIn
import Derived.Maps.OwnIn
import Derived.DeepKeys4
import Derived.Laws.IdiomRangeMap
import Derived.Sort.MapsRangeIn
import Derived.Sort.KeysCollected
import Derived.Test.YtonelpnhoiajgaaGreatDoorCa4
import Derived.Test.YtonelpnhoiajgaaGreatDoorMxShelf
import Derived.Shelf.SlSortCmp.NoneTotal
namespace Go.Proofs.YtonelpnhoiajgaaGreatDoor
set_option linter.unusedSimpArgs false
set_option maxRecDepth 100000
set_option linter.unusedVariables false
section
namespace Mx
open Go.Maps (Keyed)
open Go.WideElems (Fit rd rg rd_key rd_val rg_of)
open Go.ChangeMaps (notKey putKey)
open Go.ChangeShapes Go.WideShapes Go.ChangeAt Go.RowKit Go.BigFrame Go.Shelf
def BoxAt (w : World) (B : Nat) (v : Value) : Prop:=B < w.heap.size ∧ w.cell? ⟨B,0,none⟩ = some v
section
variable {w w' W : World} {B b o n c : Nat} {A : Option Addr} {v : Value} {x y : Operand} {i j : Int} {p : Bool}
theorem BoxAt.below (h : BoxAt w B v) (hb : Below w.heap.size w w') : BoxAt w' B v:=⟨Nat.lt_of_lt_of_le h.1 hb.size,(hb.cell (p:=⟨B,0,none⟩) h.1).trans h.2⟩
theorem BoxAt.made (w : World) (v : Value) (t : TypeId) : BoxAt (w.alloc (.cells #[v] t)) w.heap.size v:=by
 have h : Row (w.alloc (.cells #[v] t)) w.heap.size t [v]:=Row.made w _ _
 exact ⟨h.lt,h.cell 0⟩
end
abbrev RSm:={ t : Sm // t.R }
def encS (x : RSm) : Array Value:=#[x.1.v]
def raw (l : List RSm) : List Sm:=l.map (·.1)
theorem raw_length (l : List RSm) : (raw l).length = l.length:=by simp [raw]
theorem raw_get (l : List RSm) (k : Nat) (t : RSm) (h : l[k]? = some t) : (raw l)[k]? = some t.1:=by simp [raw,h]
theorem pre_of {α : Type} {xs : List α} {k : Nat} {t : α} (h : xs[k]? = some t) : xs.take k ++ [t] <+: xs:=by
 have e : xs.take (k + 1) = xs.take k ++ [t]:=by rw [List.take_add_one,h];rfl
 rw [← e];exact List.take_prefix _ _
def Keep (n : Nat) (W W' : World) : Prop:=Below n W W' ∧ ∀ (b : Nat) (o : Obj),W.heap[b]? = some o → o.isCells = true → W'.heap[b]? = some o
theorem keep_t {n : Nat} {A B C : World} (h : Keep n A B) (k : Keep n B C) : Keep n A C:=⟨h.1.trans k.1,fun b o ho hc => k.2 b o (h.2 b o ho hc) hc⟩
theorem keep_b {n : Nat} {w : World} (hn : n ≤ w.heap.size) (W : World) (l : Nat) (o o' : Obj) (hl : w.heap.size ≤ l) (ho : W.heap[l]? = some o) (hc : o.isCells = false) (hw : o.isWalk = false) : Keep n W (W.putObj l o') :=
 ⟨(belowK_b (w:=w) hn) W l o o' hl ho hc hw,fun b p hp hpc => by
   by_cases e : b = l
   · subst e;rw [ho] at hp;cases hp;rw [hc] at hpc;cases hpc
   · exact (World.putObj_heap_other e).trans hp⟩
theorem grown_below {w w' : World} (hb : Below w.heap.size w w') : w.grownBy w' none:=⟨hb.os,hb.tape,hb.output,hb.size,fun k hk _ => hb.block k hk⟩

theorem val_inj {s t : Sm} (h : s.v = t.v) : s = t:=by
 simp only [Sm.v,Value.agg.injEq,Array.mk.injEq,List.cons.injEq,Value.int.injEq,true_and,and_true] at h
 exact Sm.ext' h.1 h.2.1 h.2.2.1 h.2.2.2.1 h.2.2.2.2.1 h.2.2.2.2.2.1 h.2.2.2.2.2.2
def Fits (n : Int) : Prop:=(Lit.int .i64 n).wf = true
theorem fits_of {n : Int} (h1 : -9223372036854775808 ≤ n) (h2 : n ≤ 9223372036854775807) : Fits n:=by
 simp [Fits,Lit.wf,IntKind.min,IntKind.max,IntKind.signed,IntKind.bits];omega
def WM (t : Sm) : Prop:=Fits t.fr ∧ Fits t.to ∧ Fits t.kp ∧ Fits t.ad ∧ Fits t.t0 ∧ Fits t.t1 ∧ Fits t.t2
theorem R_w {t : Sm} (h : t.R) : WM t:=by
 unfold Sm.R at h
 exact ⟨fits_of (by omega) (by omega),fits_of (by omega) (by omega),fits_of (by omega) (by omega),fits_of (by omega) (by omega),fits_of (by omega) (by omega),fits_of (by omega) (by omega),fits_of (by omega) (by omega)⟩
theorem keyed7 : Keyed Tryz.prog 82:=Keyed.of_law (deep_law_laid progLaid (m:=8) (by decide) (of_decide_eq_true (by kernel_rfl)) (by kernel_rfl) (by kernel_rfl))
theorem cells_sum : Tryz.prog.cellsOf 82 = 7:=by kernel_rfl
theorem keyLits7 (d : Nat) {t : Sm} (h : WM t) :
 Tryz.prog.keyLits (d + 3) 82 [.int .i64 t.fr,.int .i64 t.to,.int .i64 t.kp,.int .i64 t.ad,.int .i64 t.t0,.int .i64 t.t1,.int .i64 t.t2] = some [.int .i64 t.fr,.int .i64 t.to,.int .i64 t.kp,.int .i64 t.ad,.int .i64 t.t0,.int .i64 t.t1,.int .i64 t.t2]:=by
 obtain ⟨h0,h1,h2,h3,h4,h5,h6⟩:=h
 unfold Fits at *
 simp [Program.keyLits,Tryz.underlying82,Tryz.underlying25,Tryz.underlying3,cells_sum,cells_arr,stCells_int,List.range_succ,h0,h1,h2,h3,h4,h5,h6]
theorem keyOf7_some {t : Sm} (h : WM t) : ∃ l,keyOf Tryz.prog 82 t.v = some l:=by
 have h0 : decide (1 < Tryz.prog.types.size) = true:=by kernel_rfl
 have h0:=of_decide_eq_true h0
 obtain ⟨m,hm⟩ : ∃ m,Tryz.prog.types.size = m + 2:=⟨Tryz.prog.types.size - 2,by omega⟩
 have hk : Tryz.prog.keyType 82 = true:=by kernel_rfl
 unfold keyOf
 rw [Tryz.underlying82,hm]
 simp [hk,Value.formed,Tryz.underlying82,cells_sum,Value.cells]
 exact ⟨_,_,keyLits7 m h,rfl⟩
noncomputable def kt (t : Sm) : Lit:=(keyOf Tryz.prog 82 t.v).getD (.bool false)
theorem keyOf_kt {t : Sm} (h : WM t) : keyOf Tryz.prog 82 t.v = some (kt t):=by
 obtain ⟨l,hl⟩:=keyOf7_some h
 unfold kt;rw [hl];rfl
theorem kt_inj {s t : Sm} (hs : WM s) (ht : WM t) (h : kt s = kt t) : s = t:=val_inj (keyed7.inj (keyOf_kt hs) (by rw [h];exact keyOf_kt ht))
theorem kt_lit {t : Sm} (h : WM t) : WideAt.IsKeyLit (kt t):=keyed7.key (keyOf_kt h)
def RU : Value → Option (DataW Unit × List MemPlace)
 | .agg ⟨[]⟩ => some (.agg [],[])
 | _ => none
theorem RU_inv {v : Value} {y : DataW Unit × List MemPlace} (h : RU v = some y) : v = .agg #[]:=by
 unfold RU at h
 split at h
 · rfl
 · cases h
noncomputable def entK (t : Sm) : Lit × DataW Unit:=(kt t,.agg [])
def MapK (w : World) (b N : Nat) (E : List Sm) : Prop :=
 (∃ D,w.ownsMap Tryz.prog 82 RU b N (.map D) ∧ D.Perm (E.map entK)) ∧ (∀ t ∈ E,t.R) ∧ E.Nodup
def putK (t : Sm) (E : List Sm) : List Sm:=t :: E.filter fun u => decide (u ≠ t)
theorem mem_putK {t u : Sm} {E : List Sm} : u ∈ putK t E ↔ u = t ∨ u ∈ E:=by
 unfold putK
 rw [List.mem_cons,List.mem_filter]
 constructor
 · rintro (h | h)
   · exact .inl h
   · exact .inr h.1
 · rintro (h | h)
   · exact .inl h
   · by_cases e : u = t
     · exact .inl e
     · exact .inr ⟨h,by simpa using e⟩
section
variable {w w' : World} {b n N : Nat} {E : List Sm} {row : Option Nat}
theorem MapK.made (w : World) : MapK (w.alloc (.map #[] 0)) w.heap.size 0 []:=⟨⟨[],World.ownsMap_made _ _ _ _,.refl _⟩,by simp,List.nodup_nil⟩
theorem MapK.kept (h : MapK w b n E) (hg : w.grownBy w' row) (hne : some b ≠ row) : MapK w' b n E:=by
 obtain ⟨⟨L,h1,h2⟩,h3⟩:=h
 exact ⟨⟨L,h1.kept hg hne,h2⟩,h3⟩
theorem MapK.lt (h : MapK w b n E) : b < w.heap.size:=by
 obtain ⟨⟨L,h1,h2⟩,h3⟩:=h
 exact h1.lt
theorem MapK.alloc (h : MapK w b n E) (o : Obj) : MapK (w.alloc o) b n E:=h.kept (World.grownBy_alloc w o none) (by simp)
theorem MapK.store (h : MapK w b n E) (hn : n < maxLen) {t : Sm} (ht : t.R) :
 ∃ w',(Instr.mapUpdate 128 (.map (some b)) t.v (.agg #[])).run Tryz.prog w = .ok () w' ∧ MapK w' b (n + 1) (putK t E) ∧ w.grownBy w' (some b):=by
 obtain ⟨⟨L,h1,hp⟩,hR,hd⟩:=h
 obtain ⟨w',hrun,h2,hg⟩:=h1.update keyed7 Tryz.underlying128 hn (keyOf_kt (R_w ht)) (show RU (.agg #[]) = some (.agg [],[]) from rfl)
 rw [DataW.put_eq] at h2
 refine ⟨w',hrun,⟨⟨_,h2,?_⟩,?_,?_⟩,hg⟩
 · unfold putKey putK
   refine (insert_perm _ _).trans ?_
   rw [List.map_cons]
   refine List.Perm.cons _ ?_
   refine (hp.filter _).trans ?_
   rw [List.filter_map]
   refine List.Perm.of_eq ?_
   congr 1
   refine List.filter_congr fun u hu => ?_
   show notKey (kt t) (entK u) = _
   rw [Bool.eq_iff_iff,Go.Maps.notKey_iff (kt_lit (R_w ht)),decide_eq_true_iff]
   constructor
   · intro h e;exact h (by rw [← e];rfl)
   · intro h e;exact h (kt_inj (R_w (hR u hu)) (R_w ht) e)
 · intro u hu
   rcases mem_putK.1 hu with rfl | hu
   · exact ht
   · exact hR u hu
 · unfold putK
   refine List.nodup_cons.2 ⟨fun h => ?_,hd.filter _⟩
   have:=(List.mem_filter.1 h).2
   simp at this
end
theorem mkeys_any (b : Option Nat) (w : World) :
 Calls Tryz.prog 89 #[.map b] w fun e w' => e = .returned (.func (.func 153) #[] #[.pointer (some ⟨w.heap.size,0,none⟩)]) ∧ w' = w.alloc (.cells #[.map b] 128):=by
 go_enter Tryz.func89,Tryz.ntmps89
 go_wp2_with fail
 go_ret
 exact ⟨rfl,rfl⟩
structure ColK (E : List Sm) (left : Lit → Bool) (xs : List RSm) : Prop where
 sub : ∀ t ∈ raw xs,t ∈ E
 nodup : (raw xs).Nodup
 all : ∀ e ∈ E,left (kt e) = true ∨ e ∈ raw xs
 gone : ∀ t ∈ raw xs,left (kt t) = false
section
variable {E : List Sm} {D : List (Lit × DataW Unit)} {left : Lit → Bool} {xs : List RSm}
theorem ColK.start (hp : D.Perm (E.map entK)) (hR : ∀ t ∈ E,t.R) : ColK E (Go.Maps.has (.map D)) []:=by
 refine ⟨by simp [raw],by simp [raw],fun e he => .inl ?_,by simp [raw]⟩
 rw [Go.Maps.has_eq,List.any_eq_true]
 exact ⟨entK e,hp.mem_iff.2 (List.mem_map_of_mem he),WideAt.sameKey_self (kt_lit (R_w (hR e he)))⟩
theorem map_atK {k : Lit} {y : DataW Unit} (hp : D.Perm (E.map entK)) (hat : ∀ zd,(DataW.map D).atKey k zd = y) : ∃ p ∈ E,kt p = k:=by
 have h1 : Go.Maps.has (.map D) k = true:=Go.Maps.has_true_of_atKey hat
 rw [Go.Maps.has_eq,List.any_eq_true] at h1
 obtain ⟨p,hp1,hp2⟩:=h1
 obtain ⟨u,hu,e⟩:=List.mem_map.1 (hp.mem_iff.1 hp1)
 refine ⟨u,hu,?_⟩
 have h5:=WideAt.sameKey_eq hp2
 rw [← e] at h5
 exact h5
theorem ColK.step (h : ColK E left xs) (hR : ∀ t ∈ E,t.R) {c : RSm} (hc : c.1 ∈ E) {k : Lit} (hk : kt c.1 = k) (hl : left k = true) :
 ColK E (fun z => left z && !z.sameKey k) (xs ++ [c]):=by
 have hr : raw (xs ++ [c]) = raw xs ++ [c.1]:=by simp [raw]
 have hself : k.sameKey k = true:=by rw [← hk];exact WideAt.sameKey_self (kt_lit (R_w c.2))
 refine ⟨?_,?_,?_,?_⟩
 · intro t ht
   rw [hr] at ht
   rcases List.mem_append.1 ht with ht | ht
   · exact h.sub t ht
   · rw [List.mem_singleton] at ht;subst ht;exact hc
 · rw [hr,List.nodup_append]
   refine ⟨h.nodup,by simp,fun a ha b hb e => ?_⟩
   rw [List.mem_singleton] at hb
   subst hb;subst e
   have:=h.gone _ ha
   rw [hk,hl] at this;cases this
 · intro e he
   rw [hr]
   by_cases hs : (kt e).sameKey k = true
   · refine .inr (List.mem_append_right _ ?_)
     have h1 : kt e = kt c.1:=(WideAt.sameKey_eq hs).trans hk.symm
     rw [kt_inj (R_w (hR e he)) (R_w c.2) h1]
     simp
   · rcases h.all e he with h1 | h1
     · refine .inl ?_
       simp [h1,hs]
     · exact .inr (List.mem_append_left _ h1)
 · intro t ht
   rw [hr] at ht
   rcases List.mem_append.1 ht with ht | ht
   · simp [h.gone t ht]
   · rw [List.mem_singleton] at ht;subst ht
     rw [hk,hself];simp
end
def AllOf (E : List Sm) (xs : List RSm) : Prop:=(raw xs).Nodup ∧ ∀ t,t ∈ raw xs ↔ t ∈ E
section
variable {E : List Sm} {left : Lit → Bool} {xs : List RSm}
theorem ColK.done (h : ColK E left xs) (hl : ∀ k,left k = false) : AllOf (E) xs :=
 ⟨h.nodup,fun t => ⟨h.sub t,fun ht => by
  rcases h.all t ht with h1 | h1
  · rw [hl] at h1;cases h1
  · exact h1⟩⟩
end
set_option maxHeartbeats 2000000 in
theorem keysC_some (n : Nat) (hn : 1 ≤ n) (Bm b nn : Nat) (E : List Sm) (w : World) (hBm : BoxAt w Bm (.map (some b))) (hM : MapK w b nn E) :
 SeqStopsK Fence.wide n Tryz.prog 153 #[.pointer (some ⟨Bm,0,none⟩)] encS KeepsWalks (AllOf (E)) (fun _ => True) E.length w:=fun l J Jx W hW hJ _ hY h0 => by
 have hm:=(hBm.below hW).2
 obtain ⟨⟨D,hown,hp⟩,hR,hnd⟩:=hM
 have hown : W.ownsMap Tryz.prog 82 RU b nn (.map D):=by
  have hbl:=hown.lt
  obtain ⟨es,clock,hb,Ft,hs,hD⟩:=hown
  exact ⟨es,clock,(hW.block b hbl).trans hb,Ft,hs,hD⟩
 have hsize : Go.Maps.size (DataW.map D) = E.length:=by
  rw [Go.Maps.size_eq,hp.length_eq,List.length_map]
 have HP:=Hd (And.intro hp hR);have HJ:=Hd hJ
 have hcol:=ColK.start hp hR
 clear hp hR hJ hBm hW
 refine callsIn_of_wp Tryz.func153 rfl trivial ?_ rfl
 simp only [Tryz.ntmps153,List.size_toArray,List.length_cons,List.length_nil,Nat.reduceAdd,Nat.reduceSub,Array.replicate_succ,Array.replicate_zero,List.push_toArray,List.append_toArray,List.nil_append,List.cons_append]
 gi_wp2_with (first
  | (gi_at_range;refine wpListIn_range_own _ rfl _ 128 rfl 82 129 keyed7 Tryz.underlying128 RU b nn _ rfl hown ?_;intro w0 hrg0 hg0 hs0)
  | gi_in)
 go_frame
 gi_loopw [3] (fun _ wr => ∃ (left : Lit → Bool) (cnt : Nat) (xs : List RSm),wr.ranges Tryz.prog 82 RU b W.heap.size nn (.map D) left cnt ∧ xs.length + cnt ≤ E.length ∧ ColK E left xs ∧ J xs wr)
  (fun _ wr => wr.rangeLeft b W.heap.size)
 case atStart =>
  exact ⟨_,_,[],hrg0,by rw [hsize];simp,hcol,HJ.out [] W w0 none h0 hg0 (fun r e => by cases e)⟩
 case round =>
  obtain ⟨left,cnt,xs,hrg,hcs,hC,hJs⟩:=hrel
  clear hcol hrg0 hg0 hs0 hm h0
  have HC:=Hd hC;clear hC
  gi_wp2_with (first
   | (gi_at_next;refine wpListIn_next_ranges _ rfl _ rfl 82 keyed7 RU id (fun _ : Unit => Value.agg #[]) (fun key kl _ => ⟨key,rfl⟩) (fun v y hv => ⟨(),RU_inv hv⟩) b W.heap.size nn _ _ _ rfl hrg ?_ ?_)
   | gi_in)
  · intro hc0 hl0
    have H:=Hd (HC.out.done hl0)
    gi_wp2
    go_end0
    exact ⟨⟨_,rfl⟩,.inl ⟨xs,H.out,hJs⟩⟩
  · intro x kl0 yd yp w2 cnt2 hkey hlk hv hat hrg2 hlt hg2 hs2 hen
    obtain ⟨c,hcL,hpk⟩:=map_atK HP.out.1 hat
    have hcR : c.R:=HP.out.2 c hcL
    have hx : x = c.v:=keyed7.inj hkey (by rw [← hpk];exact keyOf_kt (R_w hcR))
    subst hx
    have hJ2 : J xs w2:=HJ.out xs wr w2 (some W.heap.size) hJs hg2 (fun r e => by cases e;exact ⟨Nat.le_refl _,hrg.iter_walk⟩)
    have hJ3 : J xs (w2.alloc (.cells #[.int .i64 c.fr,.int .i64 c.to,.int .i64 c.kp,.int .i64 c.ad,.int .i64 c.t0,.int .i64 c.t1,.int .i64 c.t2] 82)):=HJ.out _ _ _ none hJ2 (World.grownBy_alloc _ _ none) (fun r e => by cases e)
    obtain ⟨fn,tmps,assign,body,hy,hRR⟩:=hY xs ⟨c,hcR⟩ _ hJ3 (by omega)
    dsimp only [encS] at hy
    have hC2:=HC.out.step HP.out.2 (c:=⟨c,hcR⟩) hcL hpk hlk
    have hrg3:=hrg2.of_walks (KeepsWalks.alloc w2 (.cells #[.int .i64 c.fr,.int .i64 c.to,.int .i64 c.kp,.int .i64 c.ad,.int .i64 c.t0,.int .i64 c.t1,.int .i64 c.t2] 82))
    have HC2:=Hd hC2;have HRG:=Hd hrg3;have HR:=Hd hRR;have HRG0:=Hd hrg
    unfold Sm.v at *
    clear hs2 hC2 hrg3 hRR hrg hrg2 hkey hlk hv hat hg2 hJ2 hJ3 hJs HC hpk hcL
    gi_wp2
    refine HR.out.mono ?_
    rintro e W3 (⟨rfl,hJ3,hk3⟩ | ⟨rfl,hJx3⟩)
    · have hrg4:=HRG.out.of_walks hk3
      have HRG4:=Hd hrg4;clear hrg4 hk3
      gi_wp2
      go_roundw
      case rel => exact ⟨_,cnt2,xs ++ [⟨c,_⟩],HRG4.out,by rw [List.length_append];simp;omega,HC2.out,hJ3⟩
      case measure => rw [HRG4.out.left_eq,HRG0.out.left_eq];exact hlt
    · gi_wp2
      refine bodyPost_ret (results_none rfl _ _ _) rfl ?_
      exact ⟨⟨_,rfl⟩,.inr ⟨_,trivial,hJx3⟩⟩
end Mx
end

section
namespace Mx
open Go.ChangeShapes Go.WideShapes Go.ChangeAt Go.RowKit Go.BigFrame Go.Shelf
attribute [local go_sem] Oper.semAt_some
def AppI (w : World) (pre : List RSm) (W : World) : Prop:=∃ v,Boxed W w.heap.size 75 v ∧ W.ownsRow w.heap.size 82 7 v pre.length (rowS (raw pre)) ∧ True
theorem rowS_one_at (w : World) (t : Sm) : ∀ (j : Nat) (u : Value),(rowS [t])[j]? = some u → (w.alloc (.cells #[.int .i64 t.fr,.int .i64 t.to,.int .i64 t.kp,.int .i64 t.ad,.int .i64 t.t0,.int .i64 t.t1,.int .i64 t.t2] 82)).cell? ((⟨w.heap.size,0,none⟩ : Addr).add j) = some u:=by
 intro j u hj
 have h : Row (w.alloc (.cells #[.int .i64 t.fr,.int .i64 t.to,.int .i64 t.kp,.int .i64 t.ad,.int .i64 t.t0,.int .i64 t.t1,.int .i64 t.t2] 82)) w.heap.size 82 (rowS [t]):=Row.made w _ (rowS [t])
 rw [add_zero_off]
 exact (h.cell j).trans hj
set_option maxRecDepth 100000 in
set_option maxHeartbeats 4000000 in
theorem appendSeq_any (g N : Nat) (lb : Array Value) (S Sp : List RSm → Prop) (hN : N ≤ 200000000) (w0 w : World) (hb0 : Below w0.heap.size w0 w) (eg : ∀ args w,(callFunc g args).run Tryz.prog w = .ok (.enter g args) w)
 (hseq : ∀ n,1 ≤ n → SeqStopsK Fence.wide n Tryz.prog g lb encS KeepsWalks S Sp N w0) :
 Calls Tryz.prog 185 #[.slice none 0 0,.func (.func g) #[] lb] w fun e W' => (∃ v xs,e = .returned v ∧ S xs ∧ W'.ownsRow w.heap.size 82 7 v xs.length (rowS (raw xs))) ∧ Below w.heap.size w W':=by
 refine (callsIn_wide (n:=5)).1 ?_
 refine callsIn_of_wp_marks Tryz.func185 rfl trivial ?_ rfl
 simp only [Tryz.ntmps185,List.size_toArray,List.length_cons,List.length_nil,Nat.reduceAdd,Nat.reduceSub,Array.replicate_succ,Array.replicate_zero,List.push_toArray,List.append_toArray,List.nil_append,List.cons_append]
 obtain ⟨i0,hi,hz0,hz1,hz2⟩:=info_parts infoSum
 gi_wp2
 have hsz : (w.alloc (.cells #[.slice none 0 0] 75)).heap.size = w.heap.size + 1:=by simp
 have bM:=Boxed.new w 75 (.slice none 0 0)
 have hB0 : Below w.heap.size w (w.alloc (.cells #[.slice none 0 0] 75)):=(Below.refl _ w).alloc (Nat.le_refl _) _
 have hK0 : Below w0.heap.size w0 (w.alloc (.cells #[.slice none 0 0] 75)):=hb0.alloc hb0.size _
 obtain ⟨W0,hW0⟩ : ∃ W0,w.alloc (.cells #[.slice none 0 0] 75) = W0:=⟨_,rfl⟩
 rw [hW0] at hsz bM hB0 hK0 ⊢
 clear hW0 hb0
 refine wpIn_rangeFunc_ownH rfl (by omega) (gf:=g) (lb:=lb) rfl trivial eg (hseq 4 (by omega)) walksK_t walksK_b hK0 (fun _ => rfl)
  (fun pre W => AppI w pre W ∧ Below w.heap.size w W)
  (fun _ _ _ => False)
  (OwnFrom.and (Own.from (holdsRow_own w.heap.size w.heap.size 75 82 7 (fun pre : List RSm => pre.length) (fun pre => rowS (raw pre)) (fun _ _ => True)) _) (ownFrom_below (Nat.le_refl _) (by omega)))
  (fun _ _ _ _ _ hs _ _ => hs)
  ⟨⟨_,bM,World.ownsRow_nil _ _ _ _,trivial⟩,hB0⟩
  (fun x a' W => ∃ Bx,w.heap.size < Bx ∧ Holds W Bx x.1 ∧ a' = { tmps:=#[.slice none 0 0,.func (.func g) #[] lb,.pointer (some ⟨w.heap.size,0,none⟩),undef,.slice none 0 0,.pointer (some ⟨Bx,0,none⟩),.func (.func g) #[] lb,.agg #[.int .i64 x.1.fr,.int .i64 x.1.to,.int .i64 x.1.kp,.int .i64 x.1.ad,.int .i64 x.1.t0,.int .i64 x.1.t1,.int .i64 x.1.t2],undef,undef,undef,undef,undef],defers:=[] })
  (fun x a' _ X Y row hs hg hr => by
    obtain ⟨Bx,h1,h2,h3⟩:=hs
    refine ⟨Bx,h1,Row.grown h2 hg (fun e => ?_),h3⟩
    obtain ⟨_,o,ho,hc⟩:=hr Bx e.symm
    have h4 : X.heap[Bx]? = _:=h2
    rw [h4] at ho;cases ho;cases hc)
  ?assign ?body ?done ?stop
 case assign =>
  rintro l pre x W K ⟨⟨v,bM1,hr1⟩,hB1⟩ hK
  dsimp only [encS] at *
  unfold Sm.v at *
  gi_wp2
  exact hK _ _ ((KeepsOthers.alloc _ _).from _) (KeepsWalks.alloc W _) ⟨⟨v,bM1.alloc _,hr1.1.alloc _,trivial⟩,hB1.alloc hB1.size _⟩ ⟨W.heap.size,bM1.lt,Holds.made W x.1,rfl⟩
 case body =>
  rintro l pre x a' W hl ⟨r,hr⟩ ⟨⟨v,bM1,hr1,_⟩,hB1⟩ ⟨Bx,hBx,bX,rfl⟩ hlt
  have hsW:=hB1.size
  have cM:=bM1.cell
  have hBl:=bX.lt
  have hml:=bM1.lt
  obtain ⟨c0,c1,c2,c3,c4,c5,c6⟩:=bX.cells5
  have hnews:=rowS_one_at W x.1
  have hrow:=hr1.alloc (.cells #[.int .i64 x.1.fr,.int .i64 x.1.to,.int .i64 x.1.kp,.int .i64 x.1.ad,.int .i64 x.1.t0,.int .i64 x.1.t1,.int .i64 x.1.t2] 82)
  have hlen : rowS (raw pre) ++ rowS [x.1] = rowS (raw (pre ++ [x])):=by rw [← rowS_append];simp [raw]
  have HB:=Hd (And.intro bM1 (And.intro hr1 hB1));have HROW:=Hd hrow;have HN:=Hd hnews;have HL:=Hd hlen
  clear bM1 hr1 hB1 hrow hnews hr bX hseq eg hB0 hK0 hlen
  gi_wp2_with (gi_at_builtin;refine wpListIn_append_own _ rfl _ _ 75 rfl w.heap.size 82 i0 (.agg #[.int .i64 0,.int .i64 0,.int .i64 0,.int .i64 0,.int .i64 0,.int .i64 0,.int .i64 0]) 7 56 Tryz.underlying75 hi hz0 hz1 hz2 rfl (by decide) v pre.length (rowS (raw pre)) rfl HROW.out ⟨W.heap.size,0,none⟩ 1 1 (rowS [x.1]) rfl rfl HN.out (rowS_one [x.1]) (by unfold maxLen;omega) (by omega) (by simp;omega) ?_;intro v' w1 hown' hgrow _;obtain ⟨g',cap',rfl⟩:=ownsRow_succ hown';obtain ⟨hv1,hv2,hr2,hk2,hb2⟩:=(HB.out.1).appended (by decide) HB.out.2.1 hsW (Nat.le_refl _) hown' hgrow;have hc1:=hv1.cell;have hf1:=hv1.frozen)
  rw [HL.out] at hr2
  exact ⟨hk2.from _,hk2.walks,⟨_,hv2,by rw [List.length_append];exact hr2,trivial⟩,HB.out.2.2.trans hb2⟩
 case done =>
  rintro D ys W hD hys ⟨⟨v,bM1,hr1,_⟩,hB1⟩ hK
  have cM:=bM1.cell
  have HR:=Hd hr1;have HB1:=Hd hB1;have HK:=Hd hK
  clear hr1 bM1 hB1 hseq eg hB0 hK0 hK
  gi_wp2
  refine ⟨by simp,.inl ⟨_,_,rfl,run_takeDeferred HK.out,?_⟩⟩
  exact ⟨_,results_tmp rfl _ _ _,⟨_,ys,rfl,hys,ownsRow_putObj HR.out _ HK.out rfl⟩,HB1.out.trans (belowK_b (w:=w) (Nat.le_refl _) W D _ _ (by omega) HK.out rfl rfl)⟩
 case stop =>
  rintro D c pre W _ _ h _
  exact h.elim
theorem collect_any (g N : Nat) (lb : Array Value) (S Sp : List RSm → Prop) (hN : N ≤ 200000000) (w0 w : World) (hb0 : Below w0.heap.size w0 w) (eg : ∀ args w,(callFunc g args).run Tryz.prog w = .ok (.enter g args) w)
 (hseq : ∀ n,1 ≤ n → SeqStopsK Fence.wide n Tryz.prog g lb encS KeepsWalks S Sp N w0) :
 Calls Tryz.prog 151 #[.func (.func g) #[] lb] w fun e W' => (∃ v xs,e = .returned v ∧ S xs ∧ W'.ownsRow w.heap.size 82 7 v xs.length (rowS (raw xs))) ∧ Below w.heap.size w W':=by
 have H:=Hd (appendSeq_any g N lb S Sp hN w0 w hb0 eg hseq)
 clear hseq eg hb0
 go_enter Tryz.func151,Tryz.ntmps151
 go_wp2_with fail
 refine (H.out).mono ?_;rintro e w1 ⟨⟨v,xs,rfl,hS,hr⟩,hb⟩
 have HH:=Hd (And.intro hS (And.intro hr hb));clear hS hr hb
 dsimp only
 go_wp2_with fail
 go_ret
 exact ⟨⟨v,xs,rfl,HH.out.1,HH.out.2.1⟩,HH.out.2.2⟩
end Mx
end

section
namespace Mx
open Go.ChangeShapes Go.WideShapes Go.ChangeAt Go.RowKit Go.BigFrame
def orL : List Int → Int
 | [] => 0
 | x :: r => if x = 0 then orL r else x
set_option maxHeartbeats 2000000 in
theorem sliceCmp_any (p q : Nat) (a b : Sm) (w : World) (ha : HoldsM w p 82 a) (hb : HoldsM w q 82 b) :
 Calls Tryz.prog 156 #[.slice (some ⟨p,4,none⟩) 3 3,.slice (some ⟨q,4,none⟩) 3 3] w fun e w' => e = .returned (.int .i64 (orL [sgn a.t0 b.t0,sgn a.t1 b.t1,sgn a.t2 b.t2])) ∧ w' = w:=by
 have S0:=Hd (cc_same a.t0 b.t0);have S1:=Hd (cc_same a.t1 b.t1);have S2:=Hd (cc_same a.t2 b.t2)
 obtain ⟨-,-,-,-,a4,a5,a6⟩:=ha.cells7
 obtain ⟨-,-,-,-,b4,b5,b6⟩:=hb.cells7
 clear ha hb
 generalize sgn a.t0 b.t0 = s0 at *
 generalize sgn a.t1 b.t1 = s1 at *
 generalize sgn a.t2 b.t2 = s2 at *
 obtain ⟨F,hF⟩ : ∃ F,F = orL [s0,s1,s2]:=⟨_,rfl⟩
 rw [← hF]
 have HF:=Hd hF;clear hF
 go_enter Tryz.func156,Tryz.ntmps156
 go_wp2_with fail
 go_loop [11] (fun i => ∃ k : Nat,k ≤ 3 ∧ i = .int .i64 k ∧ (0 < k → s0 = 0) ∧ (1 < k → s1 = 0) ∧ (2 < k → s2 = 0)) (fun i => 3 - (intOf i).toNat)
 case atStart => exact ⟨0,by omega,rfl,by omega,by omega,by omega⟩
 case round =>
  obtain ⟨k,hk,rfl,hs⟩:=hrel
  have HS:=Hd hs;clear hs
  have hcase : k = 0 ∨ k = 1 ∨ k = 2 ∨ k = 3:=by omega
  clear hk
  rcases hcase with rfl | rfl | rfl | rfl
  · go_wp2_with fail
    refine (S0.out _).mono ?_;rintro e w' ⟨rfl,rfl⟩
    dsimp only
    by_cases hq : s0 = 0
    · have hq' : (s0 != 0) = false:=by simp [hq]
      have HQ:=Hd hq;clear hq
      go_wp2_with fail
      go_round
      case rel => exact ⟨1,by omega,rfl,fun _ => HQ.out,by omega,by omega⟩
      case measure => simp [intOf]
    · have hq' : (s0 != 0) = true:=by simpa using hq
      have HQ:=Hd hq;clear hq
      go_wp2_with fail
      go_ret
      exact ⟨by rw [HF.out];unfold orL;rw [if_neg HQ.out];rfl,rfl⟩
  · go_wp2_with fail
    refine (S1.out _).mono ?_;rintro e w' ⟨rfl,rfl⟩
    dsimp only
    by_cases hq : s1 = 0
    · have hq' : (s1 != 0) = false:=by simp [hq]
      have HQ:=Hd hq;clear hq
      go_wp2_with fail
      go_round
      case rel => exact ⟨2,by omega,rfl,fun _ => HS.out.1 (by omega),fun _ => HQ.out,by omega⟩
      case measure => simp [intOf]
    · have hq' : (s1 != 0) = true:=by simpa using hq
      have HQ:=Hd hq;clear hq
      go_wp2_with fail
      go_ret
      exact ⟨by rw [HF.out];unfold orL;rw [if_pos (HS.out.1 (by omega))];unfold orL;rw [if_neg HQ.out];rfl,rfl⟩
  · go_wp2_with fail
    refine (S2.out _).mono ?_;rintro e w' ⟨rfl,rfl⟩
    dsimp only
    by_cases hq : s2 = 0
    · have hq' : (s2 != 0) = false:=by simp [hq]
      have HQ:=Hd hq;clear hq
      go_wp2_with fail
      go_round
      case rel => exact ⟨3,by omega,rfl,fun _ => HS.out.1 (by omega),fun _ => HS.out.2.1 (by omega),fun _ => HQ.out⟩
      case measure => simp [intOf]
    · have hq' : (s2 != 0) = true:=by simpa using hq
      have HQ:=Hd hq;clear hq
      go_wp2_with fail
      go_ret
      exact ⟨by rw [HF.out];unfold orL;rw [if_pos (HS.out.1 (by omega))];unfold orL;rw [if_pos (HS.out.2.1 (by omega))];unfold orL;rw [if_neg HQ.out];rfl,rfl⟩
  · go_wp2_with fail
    go_ret
    exact ⟨by rw [HF.out];unfold orL;rw [if_pos (HS.out.1 (by omega))];unfold orL;rw [if_pos (HS.out.2.1 (by omega))];unfold orL;rw [if_pos (HS.out.2.2 (by omega))];rfl,rfl⟩
set_option maxHeartbeats 2000000 in
theorem or5_any (g : Nat) (s0 s1 s2 s3 s4 : Int) (w : World) (ty : TypeId) (hr : Row w g ty [.int .i64 s0,.int .i64 s1,.int .i64 s2,.int .i64 s3,.int .i64 s4]) :
 Calls Tryz.prog 154 #[.slice (some ⟨g,0,none⟩) 5 5] w fun e w' => e = .returned (.int .i64 (orL [s0,s1,s2,s3,s4])) ∧ w = w':=by
 have c0:=hr.cell 0;have c1:=hr.cell 1;have c2:=hr.cell 2;have c3:=hr.cell 3;have c4:=hr.cell 4
 simp only [List.getElem?_cons_succ,List.getElem?_cons_zero] at c0 c1 c2 c3 c4
 clear hr
 obtain ⟨F,hF⟩ : ∃ F,F = orL [s0,s1,s2,s3,s4]:=⟨_,rfl⟩
 rw [← hF]
 have HF:=Hd hF;clear hF
 go_enter Tryz.func154,Tryz.ntmps154
 go_wp2_with fail
 go_loop [5,8] (fun c i => ∃ k : Nat,k ≤ 5 ∧ i = .int .i64 k ∧ (0 < k → s0 = 0) ∧ (1 < k → s1 = 0) ∧ (2 < k → s2 = 0) ∧ (3 < k → s3 = 0) ∧ (4 < k → s4 = 0)) (fun c i => 5 - (intOf i).toNat)
 case atStart => exact ⟨0,by omega,rfl,by omega,by omega,by omega,by omega,by omega⟩
 case round =>
  obtain ⟨k,hk,rfl,hs⟩:=hrel
  have HS:=Hd hs;clear hs
  have hcase : k = 0 ∨ k = 1 ∨ k = 2 ∨ k = 3 ∨ k = 4 ∨ k = 5:=by omega
  clear hk
  rcases hcase with rfl | rfl | rfl | rfl | rfl | rfl
  · by_cases hq : s0 = 0
    · have hq' : (s0 != 0) = false:=by simp [hq]
      have HQ:=Hd hq;clear hq
      go_wp2_with fail
      go_round
      case rel => exact ⟨1,by omega,rfl,fun _ => HQ.out,by omega,by omega,by omega,by omega⟩
      case measure => simp [intOf]
    · have hq' : (s0 != 0) = true:=by simpa using hq
      have HQ:=Hd hq;clear hq
      go_wp2_with fail
      go_ret
      exact ⟨by rw [HF.out];unfold orL;rw [if_neg HQ.out];rfl,rfl⟩
  · by_cases hq : s1 = 0
    · have hq' : (s1 != 0) = false:=by simp [hq]
      have HQ:=Hd hq;clear hq
      go_wp2_with fail
      go_round
      case rel => exact ⟨2,by omega,rfl,fun _ => HS.out.1 (by omega),fun _ => HQ.out,by omega,by omega,by omega⟩
      case measure => simp [intOf]
    · have hq' : (s1 != 0) = true:=by simpa using hq
      have HQ:=Hd hq;clear hq
      go_wp2_with fail
      go_ret
      exact ⟨by rw [HF.out];unfold orL;rw [if_pos (HS.out.1 (by omega))];unfold orL;rw [if_neg HQ.out];rfl,rfl⟩
  · by_cases hq : s2 = 0
    · have hq' : (s2 != 0) = false:=by simp [hq]
      have HQ:=Hd hq;clear hq
      go_wp2_with fail
      go_round
      case rel => exact ⟨3,by omega,rfl,fun _ => HS.out.1 (by omega),fun _ => HS.out.2.1 (by omega),fun _ => HQ.out,by omega,by omega⟩
      case measure => simp [intOf]
    · have hq' : (s2 != 0) = true:=by simpa using hq
      have HQ:=Hd hq;clear hq
      go_wp2_with fail
      go_ret
      exact ⟨by rw [HF.out];unfold orL;rw [if_pos (HS.out.1 (by omega))];unfold orL;rw [if_pos (HS.out.2.1 (by omega))];unfold orL;rw [if_neg HQ.out];rfl,rfl⟩
  · by_cases hq : s3 = 0
    · have hq' : (s3 != 0) = false:=by simp [hq]
      have HQ:=Hd hq;clear hq
      go_wp2_with fail
      go_round
      case rel => exact ⟨4,by omega,rfl,fun _ => HS.out.1 (by omega),fun _ => HS.out.2.1 (by omega),fun _ => HS.out.2.2.1 (by omega),fun _ => HQ.out,by omega⟩
      case measure => simp [intOf]
    · have hq' : (s3 != 0) = true:=by simpa using hq
      have HQ:=Hd hq;clear hq
      go_wp2_with fail
      go_ret
      exact ⟨by rw [HF.out];unfold orL;rw [if_pos (HS.out.1 (by omega))];unfold orL;rw [if_pos (HS.out.2.1 (by omega))];unfold orL;rw [if_pos (HS.out.2.2.1 (by omega))];unfold orL;rw [if_neg HQ.out];rfl,rfl⟩
  · by_cases hq : s4 = 0
    · have hq' : (s4 != 0) = false:=by simp [hq]
      have HQ:=Hd hq;clear hq
      go_wp2_with fail
      go_round
      case rel => exact ⟨5,by omega,rfl,fun _ => HS.out.1 (by omega),fun _ => HS.out.2.1 (by omega),fun _ => HS.out.2.2.1 (by omega),fun _ => HS.out.2.2.2.1 (by omega),fun _ => HQ.out⟩
      case measure => simp [intOf]
    · have hq' : (s4 != 0) = true:=by simpa using hq
      have HQ:=Hd hq;clear hq
      go_wp2_with fail
      go_ret
      exact ⟨by rw [HF.out];unfold orL;rw [if_pos (HS.out.1 (by omega))];unfold orL;rw [if_pos (HS.out.2.1 (by omega))];unfold orL;rw [if_pos (HS.out.2.2.1 (by omega))];unfold orL;rw [if_pos (HS.out.2.2.2.1 (by omega))];unfold orL;rw [if_neg HQ.out];rfl,rfl⟩
  · go_wp2_with fail
    go_ret
    exact ⟨by rw [HF.out];unfold orL;rw [if_pos (HS.out.1 (by omega))];unfold orL;rw [if_pos (HS.out.2.1 (by omega))];unfold orL;rw [if_pos (HS.out.2.2.1 (by omega))];unfold orL;rw [if_pos (HS.out.2.2.2.1 (by omega))];unfold orL;rw [if_pos (HS.out.2.2.2.2 (by omega))];rfl,rfl⟩
def _root_.Go.Proofs.YtonelpnhoiajgaaGreatDoor.Sm.C (a b : Sm) : Int:=orL [sgn a.fr b.fr,sgn a.to b.to,sgn a.kp b.kp,sgn a.ad b.ad,orL [sgn a.t0 b.t0,sgn a.t1 b.t1,sgn a.t2 b.t2]]
theorem orL_neg {x : Int} {r : List Int} : orL (x :: r) < 0 ↔ x < 0 ∨ x = 0 ∧ orL r < 0:=by
 rw [orL];split <;> omega
theorem orL_zero {x : Int} {r : List Int} : orL (x :: r) = 0 ↔ x = 0 ∧ orL r = 0:=by
 rw [orL];split <;> omega
theorem sgn_neg {a b : Int} : sgn a b < 0 ↔ a < b:=by
 rcases sgn_cases a b with ⟨h,e⟩ | ⟨h,e⟩ | ⟨h,e⟩ <;> rw [e] <;> simp <;> omega
theorem C_neg {a b : Sm} : a.C b < 0 ↔ a.A b:=by
 unfold Sm.C Sm.A
 rw [orL_neg,orL_neg,orL_neg,orL_neg,orL_neg,orL_neg,orL_neg,orL_neg,sgn_neg,sgn_neg,sgn_neg,sgn_neg,sgn_neg,sgn_neg,sgn_neg,sgn_zero,sgn_zero,sgn_zero,sgn_zero,sgn_zero,sgn_zero,sgn_zero]
 have h0 : orL [] = 0:=rfl
 rw [h0]
 omega
theorem _root_.Go.Proofs.YtonelpnhoiajgaaGreatDoor.Sm.C_zero {a b : Sm} : a.C b = 0 ↔ a = b:=by
 unfold Sm.C
 rw [orL_zero,orL_zero,orL_zero,orL_zero,orL_zero,orL_zero,orL_zero,orL_zero,sgn_zero,sgn_zero,sgn_zero,sgn_zero,sgn_zero,sgn_zero,sgn_zero,Sm.ext_iff']
 have h0 : orL [] = 0:=rfl
 simp [h0]
theorem _root_.Go.Proofs.YtonelpnhoiajgaaGreatDoor.Sm.C_swap {a b : Sm} : a.C b = - b.C a:=by
 unfold Sm.C
 rw [sgn_swap a.fr b.fr,sgn_swap a.to b.to,sgn_swap a.kp b.kp,sgn_swap a.ad b.ad,sgn_swap a.t0 b.t0,sgn_swap a.t1 b.t1,sgn_swap a.t2 b.t2]
 generalize sgn b.fr a.fr = s1
 generalize sgn b.to a.to = s2
 generalize sgn b.kp a.kp = s3
 generalize sgn b.ad a.ad = s4
 generalize sgn b.t0 a.t0 = s5
 generalize sgn b.t1 a.t1 = s6
 generalize sgn b.t2 a.t2 = s7
 simp only [orL]
 repeat' split
 all_goals omega
theorem _root_.Go.Proofs.YtonelpnhoiajgaaGreatDoor.Sm.C_lt_trans {a b c : Sm} (h1 : a.C b < 0) (h2 : b.C c < 0) : a.C c < 0:=by
 rw [C_neg] at *;exact Sm.A_trans h1 h2
theorem _root_.Go.Proofs.YtonelpnhoiajgaaGreatDoor.Sm.C_trans {a b c : Sm} (h1 : a.C b ≤ 0) (h2 : b.C c ≤ 0) : a.C c ≤ 0:=by
 rcases Int.lt_or_eq_of_le h1 with h3 | h3
 · rcases Int.lt_or_eq_of_le h2 with h4 | h4
   · exact Int.le_of_lt (Sm.C_lt_trans h3 h4)
   · rw [Sm.C_zero] at h4;subst h4;exact h1
 · rw [Sm.C_zero] at h3;subst h3;exact h2
set_option maxHeartbeats 4000000 in
theorem compare_grew (a b : Sm) (w : World) : Calls Tryz.prog 90 #[a.v,b.v] w fun e w' => e = .returned (.int .i64 (a.C b)) ∧ Grew w w':=by
 have hsc:=fun (p q : Nat) (w : World) => sliceCmp_any p q a b w
 have hor:=fun (g : Nat) (w : World) (ty : TypeId) => or5_any g (sgn a.fr b.fr) (sgn a.to b.to) (sgn a.kp b.kp) (sgn a.ad b.ad) (orL [sgn a.t0 b.t0,sgn a.t1 b.t1,sgn a.t2 b.t2]) w ty
 rw [show orL [sgn a.fr b.fr,sgn a.to b.to,sgn a.kp b.kp,sgn a.ad b.ad,orL [sgn a.t0 b.t0,sgn a.t1 b.t1,sgn a.t2 b.t2]] = a.C b from rfl] at hor
 have S0:=Hd (cc_same a.fr b.fr);have S1:=Hd (cc_same a.to b.to);have S2:=Hd (cc_same a.kp b.kp);have S3:=Hd (cc_same a.ad b.ad)
 generalize sgn a.fr b.fr = s0 at *
 generalize sgn a.to b.to = s1 at *
 generalize sgn a.kp b.kp = s2 at *
 generalize sgn a.ad b.ad = s3 at *
 generalize orL [sgn a.t0 b.t0,sgn a.t1 b.t1,sgn a.t2 b.t2] = s4 at *
 generalize a.C b = R at *
 have h2:=Two2.made w 82 a b
 have hg : Grew w ((w.alloc (.cells #[.int .i64 a.fr,.int .i64 a.to,.int .i64 a.kp,.int .i64 a.ad,.int .i64 a.t0,.int .i64 a.t1,.int .i64 a.t2] 82)).alloc (.cells #[.int .i64 b.fr,.int .i64 b.to,.int .i64 b.kp,.int .i64 b.ad,.int .i64 b.t0,.int .i64 b.t1,.int .i64 b.t2] 82)):=((Grew.refl w).alloc _).alloc _
 have H2:=Hd h2;have HG:=Hd hg;have SC:=Hd hsc;have OR:=Hd hor;clear h2 hg hsc hor
 unfold Sm.v
 go_enter Tryz.func90,Tryz.ntmps90
 go_wp2_with fail
 refine wp_tail 25 (by kernel_rfl) (by kernel_rfl) ?_
 simp only [List.take_succ_cons,List.take_zero,List.drop_succ_cons,List.drop_zero]
 have k1 : HoldsM (((w.alloc (.cells #[.int .i64 a.fr,.int .i64 a.to,.int .i64 a.kp,.int .i64 a.ad,.int .i64 a.t0,.int .i64 a.t1,.int .i64 a.t2] 82)).alloc (.cells #[.int .i64 b.fr,.int .i64 b.to,.int .i64 b.kp,.int .i64 b.ad,.int .i64 b.t0,.int .i64 b.t1,.int .i64 b.t2] 82)).drewN 1) w.heap.size 82 a:=HoldsM.drewN H2.out.1 1
 have k2 : HoldsM (((w.alloc (.cells #[.int .i64 a.fr,.int .i64 a.to,.int .i64 a.kp,.int .i64 a.ad,.int .i64 a.t0,.int .i64 a.t1,.int .i64 a.t2] 82)).alloc (.cells #[.int .i64 b.fr,.int .i64 b.to,.int .i64 b.kp,.int .i64 b.ad,.int .i64 b.t0,.int .i64 b.t1,.int .i64 b.t2] 82)).drewN 1) (w.heap.size + 1) 82 b:=HoldsM.drewN H2.out.2 1
 have hgd:=HG.out.drewN 1
 have hsz : (((w.alloc (.cells #[.int .i64 a.fr,.int .i64 a.to,.int .i64 a.kp,.int .i64 a.ad,.int .i64 a.t0,.int .i64 a.t1,.int .i64 a.t2] 82)).alloc (.cells #[.int .i64 b.fr,.int .i64 b.to,.int .i64 b.kp,.int .i64 b.ad,.int .i64 b.t0,.int .i64 b.t1,.int .i64 b.t2] 82)).drewN 1).heap.size = w.heap.size + 1 + 1:=by simp
 generalize ((w.alloc (.cells #[.int .i64 a.fr,.int .i64 a.to,.int .i64 a.kp,.int .i64 a.ad,.int .i64 a.t0,.int .i64 a.t1,.int .i64 a.t2] 82)).alloc (.cells #[.int .i64 b.fr,.int .i64 b.to,.int .i64 b.kp,.int .i64 b.ad,.int .i64 b.t0,.int .i64 b.t1,.int .i64 b.t2] 82)).drewN 1 = W at *
 obtain ⟨a0,a1,a2,a3,a4,a5,a6⟩:=k1.cells7
 obtain ⟨b0,b1,b2,b3,b4,b5,b6⟩:=k2.cells7
 have K:=Hd (And.intro k1 (And.intro k2 hgd));have HSZ:=Hd hsz;clear k1 k2 hgd H2 HG hsz
 still_step
 still_step
 still_step
 still_step
 still_call (S0.out _)
 still_step
 still_step
 still_step
 still_step
 still_call (S1.out _)
 still_step
 still_step
 still_step
 still_step
 still_call (S2.out _)
 still_step
 still_step
 still_step
 still_step
 still_call (S3.out _)
 still_step
 still_step
 still_step
 still_step
 still_call (SC.out _ _ _ K.out.1 K.out.2.1)
 refine wpStill_nil ?_
 clear a0 a1 a2 a3 a4 a5 a6 b0 b1 b2 b3 b4 b5 b6 S0 S1 S2 S3 SC
 go_wp2_with fail
 refine (OR.out _ _ _ (Row.made W _ _)).mono ?_;rintro e w' ⟨rfl,rfl⟩
 dsimp only
 go_wp2_with fail
 go_ret
 exact ⟨rfl,K.out.2.2.alloc _⟩
end Mx
end

section
namespace Mx
open Go.Sort (grow SWO putCells flatK size_flatK get_flatK putRowK HoldsK)
open Go.ChangeShapes Go.WideShapes Go.ChangeAt Go.RowKit Go.BigFrame Go.Shelf
instance : Inhabited Sm:=⟨Sm.zero⟩
theorem grew_grow {W w' : World} (h : Grew W w') : ∃ q os,w' = grow (W.drewN q) os:=by
 obtain ⟨⟨h1,h2,h3,h4,h5⟩,h6⟩:=h
 refine ⟨w'.drawn - W.drawn,w'.heap.extract W.heap.size w'.heap.size,?_⟩
 have hh : w'.heap = W.heap ++ w'.heap.extract W.heap.size w'.heap.size:=by
  apply Array.ext_getElem?
  intro k
  rw [Array.getElem?_append]
  split
  · rename_i hk;exact h5 k hk
  · rename_i hk
    rw [Array.getElem?_extract]
    by_cases hk2 : k < w'.heap.size
    · rw [if_pos (by omega),show W.heap.size + (k - W.heap.size) = k by omega]
    · rw [if_neg (by omega),Array.getElem?_eq_none (by omega)]
 have hd : w'.drawn = W.drawn + (w'.drawn - W.drawn):=by omega
 cases w'
 cases W
 simp only at h1 h2 h3 hh hd
 unfold grow World.drewN
 simp only [World.mk.injEq]
 exact ⟨hh,h2,hd,h1,h3⟩
theorem flat_row (ts : List Sm) : flatK Sm.cells 7 ts.toArray = (rowS ts).toArray:=by
 apply Array.ext_getElem?
 intro k
 by_cases hk : k < ts.length * 7
 · have h1 : k / 7 < ts.length:=by omega
   obtain ⟨t,ht⟩ : ∃ t,ts[k / 7]? = some t:=⟨_,List.getElem?_eq_getElem h1⟩
   obtain ⟨u,hu⟩ : ∃ u,t.cells[k % 7]? = some u:=⟨_,List.getElem?_eq_getElem (by show k % 7 < 7;omega)⟩
   have h2:=rowS_at ts (k / 7) t ht (k % 7) u hu
   rw [show k / 7 * 7 + k % 7 = k by omega] at h2
   have hrhs : (rowS ts).toArray[k]? = some u:=by simpa using h2
   rw [hrhs]
   have h3:=get_flatK Sm.cells 7 ts.toArray k (by simpa using hk)
   have h4 : ts.toArray[k / 7]! = t:=by
    rw [List.getElem!_toArray,List.getElem!_eq_getElem?_getD,ht];rfl
   rw [h4,List.getElem!_eq_getElem?_getD,hu] at h3
   have h5 : k < (flatK Sm.cells 7 ts.toArray).size:=by rw [size_flatK];simpa using hk
   rw [getElem!_pos _ k h5] at h3
   rw [Array.getElem?_eq_getElem h5,h3];rfl
 · rw [Array.getElem?_eq_none (by rw [size_flatK];simpa using hk),Array.getElem?_eq_none (by simp only [List.size_toArray];rw [rowS_len];omega)]
theorem swoC : SWO (ltOf Sm.C) where
 irrefl x:=by
  have : x.C x = 0:=Sm.C_zero.2 rfl
  simp [ltOf,this]
 trans x y z h1 h2:=by
  simp only [ltOf,decide_eq_true_eq] at *
  exact Sm.C_lt_trans h1 h2
 ntrans x y z h1 h2:=by
  simp only [ltOf,decide_eq_false_iff_not] at *
  have e1:=Sm.C_swap (a:=x) (b:=y)
  have e2:=Sm.C_swap (a:=y) (b:=z)
  have e3:=Sm.C_swap (a:=x) (b:=z)
  have:=Sm.C_trans (a:=z) (b:=y) (c:=x) (by omega) (by omega)
  omega
def sortS (ts : List Sm) : List Sm:=ts.mergeSort fun x y => !(ltOf Sm.C) y x
theorem sortS_perm (ts : List Sm) : (sortS ts).Perm ts:=List.mergeSort_perm _ _
theorem sortS_rises (ts : List Sm) : (sortS ts).Pairwise fun x y => x.C y ≤ 0:=by
 refine (List.pairwise_mergeSort (le:=fun x y => !(ltOf Sm.C) y x) ?_ ?_ ts).imp ?_
 · intro a b c h1 h2
   simp only [ltOf,Bool.not_eq_true',decide_eq_false_iff_not] at *
   have e1:=Sm.C_swap (a:=a) (b:=b)
   have e2:=Sm.C_swap (a:=b) (b:=c)
   have e3:=Sm.C_swap (a:=a) (b:=c)
   have:=Sm.C_trans (a:=a) (b:=b) (c:=c) (by omega) (by omega)
   omega
 · intro a b
   have e1:=Sm.C_swap (a:=a) (b:=b)
   simp only [ltOf,Bool.or_eq_true,Bool.not_eq_true',decide_eq_false_iff_not]
   omega
 · intro a b h
   have e1:=Sm.C_swap (a:=a) (b:=b)
   simp only [ltOf,Bool.not_eq_true',decide_eq_false_iff_not] at h
   omega
theorem cmpLays (blk off size : Nat) (w : World) : CmpLays Tryz.prog 90 #[] Sm.cells 7 Sm.C blk off size w:=by
 intro m os dk _ x y
 exact (compare_grew x y _).mono fun _ _ h => ⟨h.1,grew_grow h.2⟩
theorem grown_sorted {w : World} {g n : Nat} {os : Array Obj} (d : Array Sm) : w.grownBy (sortWorldK Sm.cells 7 w g 0 n d os) (some g):=by
 refine ⟨rfl,rfl,rfl,?_,fun k hk hne => ?_⟩
 · exact size_sortWorldK_c Sm.cells 7 w g 0 n d os
 · unfold sortWorldK
   rw [Go.Sort.heap_grow_old _ _ (by simpa [putRowK] using hk)]
   have : g ≠ k:=fun e => hne (by rw [e])
   simp [putRowK,Go.Sort.putRow,Go.Sort.mapBlock,Go.Sort.ahead,Array.getElem?_modify,this]
theorem sortFunc_any (base n : Nat) (v : Value) (ts : List Sm) (w : World) (hr : w.ownsRow base 82 7 v n (rowS ts)) (hn : ts.length ≤ 200000000) :
 Calls Tryz.prog 152 #[v,.func (.func 90) #[] #[]] w fun e w' => e = .returned (.tuple #[]) ∧ w'.ownsRow base 82 7 v n (rowS (sortS ts)) ∧ w.grownBy w' v.ownBlock:=by
 have hl : ts.length = n:=by have:=hr.1;rw [rowS_len] at this;omega
 rcases hr.2 with ⟨rfl,h0⟩ | ⟨g,cap,cur,rfl,hb,hh,h1,h2,h3,h4⟩
 · have : ts = []:=List.eq_nil_of_length_eq_zero (by omega)
   subst this
   exact (AnyF.slices_SortFunc_none Tryz.sortSum none 0 _ w).mono fun e w' ⟨he,hw⟩ => ⟨he,by subst hw;rw [show sortS [] = [] from List.mergeSort_nil];exact hr,by subst hw;exact ⟨rfl,rfl,rfl,Nat.le_refl _,fun _ _ _ => rfl⟩⟩
 · have hg : g < w.heap.size:=(Array.getElem?_eq_some_iff.1 hh).1
   have hH : HoldsK Sm.cells 7 w g 0 ts.toArray:=by
    unfold HoldsK
    rw [flat_row]
    intro j hj
    have hj' : j < (rowS ts).length:=by simpa using hj
    refine ⟨?_,by simp [World.frozen?,hh]⟩
    have hc:=hr.cells (g:=g) rfl j _ (List.getElem?_eq_getElem hj')
    rw [add_zero_off] at hc
    rw [Nat.zero_add,hc,getElem!_pos _ j hj]
    rfl
   have hs:=AnyQ.slices_SortFunc_total Tryz.sortSum 7 Tryz.isAgg82 Tryz.sizeOf82 Sm.cells (fun _ => rfl) (fun x v hv => rowS_one [x] v (by simpa [rowS] using hv)) Sm.C swoC 90 #[] g 0 cap ts.toArray w
    (enters_of Tryz.func90 (by kernel_rfl) rfl) (cmpLays _ _ _ _) hH hg (by simp;omega) (fun x y hx hy => by
      simp only [ltOf,decide_eq_false_iff_not] at hx hy
      have e1:=Sm.C_swap (a:=x) (b:=y)
      exact Sm.C_zero.1 (by omega))
   rw [show ts.toArray.size = n by simpa using hl] at hs
   refine hs.mono fun e w' ⟨he,m,os,hw⟩ => ⟨he,?_,by subst hw;exact grown_sorted _⟩
   subst hw
   refine ⟨by rw [rowS_len,(sortS_perm ts).length_eq,hl],.inr ⟨g,cap,putCells id 0 (rowS (sortS ts)).toArray cur,rfl,hb,?_,h1,h2,by simp [putCells,h3],?_⟩⟩
   · unfold sortWorldK
     rw [Go.Sort.heap_grow_old _ _ (by simpa [putRowK] using hg)]
     show (putRowK Sm.cells 7 (Go.Sort.ahead w m) g 0 (sortS ts).toArray).heap[g]? = _
     unfold putRowK
     rw [flat_row]
     simp [Go.Sort.putRow,Go.Sort.mapBlock,Go.Sort.ahead,Array.getElem?_modify,hh,Go.Sort.onCells]
   · have hlen : (rowS (sortS ts)).length = n * 7:=by rw [rowS_len,(sortS_perm ts).length_eq,hl]
     apply List.ext_getElem?
     intro j
     by_cases hj : j < n * 7
     · rw [List.getElem?_take_of_lt hj,Array.getElem?_toList]
       have : j < cur.size:=by have:=Nat.mul_le_mul_right 7 h1;omega
       simp [putCells,hlen,hj,this]
     · rw [List.getElem?_take_eq_none (by omega),List.getElem?_eq_none (by omega)]
theorem sortedFunc_any (g N : Nat) (lb : Array Value) (S Sp : List RSm → Prop) (hN : N ≤ 200000000) (hS : ∀ xs,S xs → xs.length ≤ 200000000) (w0 w : World) (hb0 : Below w0.heap.size w0 w) (eg : ∀ args w,(callFunc g args).run Tryz.prog w = .ok (.enter g args) w)
 (hseq : ∀ n,1 ≤ n → SeqStopsK Fence.wide n Tryz.prog g lb encS KeepsWalks S Sp N w0) :
 Calls Tryz.prog 88 #[.func (.func g) #[] lb,.func (.func 90) #[] #[]] w fun e W' => (∃ v xs,e = .returned v ∧ S xs ∧ W'.ownsRow w.heap.size 82 7 v xs.length (rowS (sortS (raw xs)))) ∧ Below w.heap.size w W':=by
 have H:=Hd (collect_any g N lb S Sp hN w0 w hb0 eg hseq)
 have HS:=Hd hS
 clear hseq eg hb0 hS
 go_enter Tryz.func88,Tryz.ntmps88
 go_wp2_with fail
 refine (H.out).mono ?_;rintro e w1 ⟨⟨v,xs,rfl,hs,hr⟩,hb⟩
 have hso:=sortFunc_any w.heap.size xs.length v (raw xs) w1 hr (by rw [raw_length];exact HS.out _ hs)
 have hv : ∀ k,v.ownBlock = some k → w.heap.size ≤ k:=fun k hk => (hr.lt k hk).1
 have HH:=Hd (And.intro hs (And.intro hv hb));have HSO:=Hd hso;clear hs hr hb hso hv H
 dsimp only
 go_wp2_with fail
 refine (HSO.out).mono ?_;rintro e w2 ⟨rfl,hr2,hg⟩
 have H2:=Hd (And.intro hr2 (HH.out.2.2.grown hg HH.out.2.2.size HH.out.2.1));clear hr2 hg HSO
 dsimp only
 go_wp2_with fail
 go_ret
 exact ⟨⟨v,xs,rfl,HH.out.1,H2.out.1⟩,H2.out.2⟩
theorem own_len {w : World} {base n : Nat} {v : Value} {ts : List Sm} (h : w.ownsRow base 82 7 v n (rowS ts)) : n = ts.length:=by
 have:=h.1;rw [rowS_len] at this;omega
theorem own_kept {w w' : World} {base n : Nat} {v : Value} {xs : List Value} (h : w.ownsRow base 82 7 v n xs) (hb : Below w.heap.size w w') : w'.ownsRow base 82 7 v n xs:=by
 refine h.kept (grown_below hb) ?_
 cases hv : v.ownBlock with
 | none => exact .inl rfl
 | some k => exact .inr (by simp)
end Mx
end

section
namespace Mx
open Go.ChangeShapes Go.WideShapes Go.ChangeAt Go.RowKit Go.BigFrame Go.Shelf
theorem L_A {x y : Sm} (h : x.L y) : x = y ∨ x.A y:=by
 by_cases e : x = y
 · exact .inl e
 · refine .inr ?_
   rcases Sm.A_total e with h1 | h1
   · exact h1
   · exfalso
     have n0:=Sm.L_at h (i:=0) (by omega) (by omega);have n1:=Sm.L_at h (i:=1) (by omega) (by omega);have n2:=Sm.L_at h (i:=2) (by omega) (by omega)
     obtain ⟨hx,hy,hf,ht,hk,-⟩:=id h
     have hx':=hx;have hy':=hy
     unfold Sm.R at hx' hy'
     unfold Sm.A at h1
     have hkk : x.kp = y.kp:=by omega
     have hk4 : x.kp = 0 ∨ x.kp = 1 ∨ x.kp = 2 ∨ x.kp = 3:=by omega
     unfold Sm.N Sm.tl at n0 n1 n2
     rw [← hkk] at n0 n1 n2
     rcases hk4 with e | e | e | e <;> rw [e] at n0 n1 n2 <;> simp at n0 n1 n2 <;> omega
def take1 (f : List Sm) (t : Sm) : List Sm:=if (f.any fun x => decide (x.L t)) then f else f ++ [t]
def greedy (ds : List Sm) : List Sm:=ds.foldl take1 []
theorem greedy_snoc (ds : List Sm) (t : Sm) : greedy (ds ++ [t]) = take1 (greedy ds) t:=by simp [greedy]
structure Gr (ds us : List Sm) : Prop where
 sub : us.Sublist ds
 all : ∀ x ∈ ds,∃ y ∈ us,y.L x
 least : ∀ x ∈ us,∀ y ∈ ds,y.L x → y = x
theorem Gr.step {ds us : List Sm} {t : Sm} (h : Gr ds us) (hR : t.R) (hs : ∀ x ∈ ds,x.C t < 0) : Gr (ds ++ [t]) (take1 us t):=by
 have hno : ∀ x ∈ us,¬ t.L x:=fun x hx hl => by
  have h1:=hs x (h.sub.subset hx)
  rcases L_A hl with e | e
  · subst e
    have:=(Sm.C_zero (a:=t) (b:=t)).2 rfl
    omega
  · have h2:=C_neg.2 e
    have h3:=Sm.C_swap (a:=t) (b:=x)
    omega
 unfold take1
 split
 · rename_i ha
   obtain ⟨u,hu,hl⟩:=List.any_eq_true.1 ha
   have hl : u.L t:=by simpa using hl
   refine ⟨h.sub.trans (List.sublist_append_left _ _),fun x hx => ?_,fun x hx y hy hyx => ?_⟩
   · rcases List.mem_append.1 hx with hx | hx
     · exact h.all x hx
     · rw [List.mem_singleton] at hx;subst hx;exact ⟨u,hu,hl⟩
   · rcases List.mem_append.1 hy with hy | hy
     · exact h.least x hx y hy hyx
     · rw [List.mem_singleton] at hy;subst hy;exact absurd hyx (hno x hx)
 · rename_i ha
   have ha : ∀ u ∈ us,¬ u.L t:=fun u hu hl => ha (List.any_eq_true.2 ⟨u,hu,by simpa using hl⟩)
   refine ⟨h.sub.append (List.Sublist.refl _),fun x hx => ?_,fun x hx y hy hyx => ?_⟩
   · rcases List.mem_append.1 hx with hx | hx
     · obtain ⟨y,hy,hl⟩:=h.all x hx
       exact ⟨y,List.mem_append_left _ hy,hl⟩
     · rw [List.mem_singleton] at hx;subst hx;exact ⟨x,List.mem_append_right _ (by simp),Sm.L_refl.2 hR⟩
   · rcases List.mem_append.1 hx with kx | kx <;> rcases List.mem_append.1 hy with ky | ky
     · exact h.least x kx y ky hyx
     · rw [List.mem_singleton] at ky;rw [ky] at hyx;exact absurd hyx (hno x kx)
     · rw [List.mem_singleton] at kx;rw [kx] at hyx
       obtain ⟨u,hu,hl⟩:=h.all y ky
       exact absurd (Sm.L_trans hl hyx) (ha u hu)
     · rw [List.mem_singleton] at kx ky;rw [kx,ky]
theorem gr_greedy : ∀ (n : Nat) (ds : List Sm),ds.length = n → (∀ x ∈ ds,x.R) → ds.Pairwise (fun x y => x.C y < 0) → Gr ds (greedy ds):=by
 intro n
 induction n with
 | zero =>
   intro ds hl _ _
   have:=List.eq_nil_of_length_eq_zero hl
   subst this
   exact ⟨List.Sublist.refl _,by simp,by simp [greedy]⟩
 | succ n ih =>
   intro ds hl hR hp
   rcases List.eq_nil_or_concat ds with rfl | ⟨es,t,rfl⟩
   · simp at hl
   · rw [List.concat_eq_append] at *
     rw [List.pairwise_append] at hp
     rw [greedy_snoc]
     exact (ih es (by simpa using hl) (fun x hx => hR x (List.mem_append_left _ hx)) hp.1).step (hR t (by simp)) (fun x hx => hp.2.2 x hx t (by simp))
theorem greedy_len : ∀ (n : Nat) (ds : List Sm),ds.length = n → (greedy ds).length ≤ n:=by
 intro n
 induction n with
 | zero => intro ds hl;have:=List.eq_nil_of_length_eq_zero hl;subst this;simp [greedy]
 | succ n ih =>
   intro ds hl
   rcases List.eq_nil_or_concat ds with rfl | ⟨es,t,rfl⟩
   · simp at hl
   · rw [List.concat_eq_append] at *
     rw [greedy_snoc]
     have:=ih es (by simpa using hl)
     unfold take1
     split
     · omega
     · simp;omega
theorem least_is {l E : List Sm} {xs : List RSm} (hE : ∀ t,t ∈ E ↔ t ∈ l ∧ t.R) (hx : AllOf E xs) : greedy (sortS (raw xs)) = waysS l:=by
 have hp:=sortS_perm (raw xs)
 have hm : ∀ t,t ∈ sortS (raw xs) ↔ t ∈ l ∧ t.R:=fun t => hp.mem_iff.trans ((hx.2 t).trans (hE t))
 have hnd : (sortS (raw xs)).Nodup:=hp.nodup_iff.2 hx.1
 have hR : ∀ x ∈ sortS (raw xs),x.R:=fun x h => ((hm x).1 h).2
 have hs : (sortS (raw xs)).Pairwise fun x y => x.C y < 0:=by
  refine (List.Pairwise.and (sortS_rises (raw xs)) hnd).imp ?_
  rintro x y ⟨h1,h2⟩
  rcases Int.lt_or_eq_of_le h1 with h3 | h3
  · exact h3
  · exact absurd (Sm.C_zero.1 h3) h2
 have hg:=gr_greedy _ (sortS (raw xs)) rfl hR hs
 refine waysS_eq ((hs.sublist hg.sub).imp fun h => C_neg.1 h) fun x => ?_
 constructor
 · intro h
   have h1:=(hm x).1 (hg.sub.subset h)
   exact ⟨h1.1,h1.2,fun z hz hl => hg.least x h z ((hm z).2 ⟨hz,hl.1⟩) hl⟩
 · rintro ⟨h1,h2,h3⟩
   obtain ⟨y,hy,hl⟩:=hg.all x ((hm x).2 ⟨h1,h2⟩)
   have:=h3 y ((hm y).1 (hg.sub.subset hy)).1 hl
   rwa [this] at hy
theorem aheadC (B : Nat) (t : Sm) (w : World) (hB : Holds w B t) : Tells 91 #[.pointer (some ⟨B,0,none⟩)] (fun x => decide (x.L t)) w:=by
 intro W x hb
 show Calls _ _ #[x.v,.pointer (some ⟨B,0,none⟩)] _ (fun e w' => e = .returned (.bool (decide (x.L t))) ∧ Below W.heap.size W w')
 have h : Holds W B t:=HoldsM.below hB hb
 have hc:=fun w => leqM_any x t w
 generalize decide (x.L t) = v at *
 have hl : B < W.heap.size:=HoldsM.lt h
 obtain ⟨c0,c1,c2,c3,c4,c5,c6⟩:=h.cells5
 unfold Sm.v at *
 have HC:=Hd hc;clear hc h hB hb
 go_enter Tryz.func91,Tryz.ntmps91
 go_wp2_with fail
 refine (HC.out _).mono ?_;rintro e w1 ⟨rfl,hb1⟩
 have HB1:=Hd hb1;clear hb1 c0 c1 c2 c3 c4 c5 c6
 go_wp2_with fail
 go_ret
 exact ⟨rfl,((Below.refl _ _).alloc (Nat.le_refl _) _).trans (HB1.out.mono (by simp))⟩
theorem putK_len (t : Sm) (E : List Sm) : (putK t E).length ≤ E.length + 1:=by
 unfold putK
 rw [List.length_cons]
 have:=List.length_filter_le (fun u => decide (u ≠ t)) E
 omega
set_option maxHeartbeats 4000000 in
theorem least_any (A : Option Addr) (l : List Sm) (c : Nat) (w : World) (hT : Ts w A l) (hl : l.length ≤ 200000000) :
 Calls Tryz.prog 47 #[.slice A l.length c] w fun e W' => (∃ v,e = .returned v ∧ W'.ownsRow w.heap.size 82 7 v (waysS l).length (rowS (waysS l))) ∧ Below w.heap.size w W':=by
 have hm0:=MapK.made w
 have hb0 : Below w.heap.size w (w.alloc (.map #[] 0)):=(Below.refl _ _).alloc (Nat.le_refl _) _
 have hmm:=@run_makeMap Tryz.prog
 have HT:=Hd hT;have HM0:=Hd hm0;have HB0:=Hd hb0;clear hT hm0 hb0
 go_enter Tryz.func47,Tryz.ntmps47
 go_wp2_with fail
 clear hmm
 go_loopw [13] (fun i wr => ∃ (k N : Nat) (E : List Sm),k ≤ l.length ∧ i = .int .i64 k ∧ MapK wr w.heap.size N E ∧ N ≤ k ∧ E.length ≤ k ∧ (∀ t,t ∈ E ↔ t ∈ l.take k ∧ t.R) ∧ Below w.heap.size w wr) (fun i _ => l.length - (intOf i).toNat)
 case atStart => exact ⟨0,0,[],by omega,rfl,HM0.out,by omega,by simp,by simp,HB0.out⟩
 case round =>
  obtain ⟨k,N,E,hk,rfl,hM,hN,hE1,hE,hbw⟩:=hrel
  by_cases hlt : k < l.length
  · obtain ⟨t,ht⟩ : ∃ t,l[k]? = some t:=⟨_,List.getElem?_eq_getElem hlt⟩
    obtain ⟨b,o,rfl,hbl,h5⟩:=HT.out.five ht
    obtain ⟨c0,c1,c2,c3,c4,c5,c6⟩:=h5 wr hbw
    have hbx:=Holds.made wr t
    have hM2:=hM.alloc (.cells #[.int .i64 t.fr,.int .i64 t.to,.int .i64 t.kp,.int .i64 t.ad,.int .i64 t.t0,.int .i64 t.t1,.int .i64 t.t2] 82)
    have hb2:=hbw.alloc hbw.size (.cells #[.int .i64 t.fr,.int .i64 t.to,.int .i64 t.kp,.int .i64 t.ad,.int .i64 t.t0,.int .i64 t.t1,.int .i64 t.t2] 82)
    have hltz : (k : Int) < (l.length : Int):=by omega
    have hnext : ∀ u,u ∈ l.take (k + 1) ↔ u ∈ l.take k ∨ u = t:=fun u => by rw [List.take_add_one,ht,Option.toList,List.mem_append,List.mem_singleton]
    have hsz:=hbw.size
    have HN:=Hd hnext;have HE:=Hd hE;have HM:=Hd hM2;have HB:=Hd hb2;have HX:=Hd hbx;have HS:=Hd hsz
    by_cases hR : t.R
    · have hc:=fun w => rightM_true hR w
      unfold Sm.v at hc
      have HC:=Hd hc;have HR:=Hd hR
      clear hc hR hM hM2 hb2 hbx hbl h5 hnext hE hbw ht hsz
      go_wp2_with fail
      clear c0 c1 c2 c3 c4 c5 c6
      generalize wr.alloc (.cells #[.int .i64 t.fr,.int .i64 t.to,.int .i64 t.kp,.int .i64 t.ad,.int .i64 t.t0,.int .i64 t.t1,.int .i64 t.t2] 82) = w1 at *
      generalize wr.heap.size = g at *
      refine (HC.out _).mono ?_;rintro e w2 ⟨rfl,hb⟩
      dsimp only
      have hX : Holds w2 g t:=HoldsM.below HX.out hb
      have hM3 : MapK w2 w.heap.size N E:=HM.out.kept (grown_below hb) (by simp)
      have hb3:=HB.out.trans (hb.mono HB.out.size)
      obtain ⟨w5,hrun,hM5,hg5⟩:=hM3.store (by unfold maxLen;omega) HR.out
      have hb5 : Below w.heap.size w w5:=hb3.grown hg5 hb3.size (fun j e => by cases e;exact Nat.le_refl _)
      obtain ⟨c0,c1,c2,c3,c4,c5,c6⟩:=hX.cells5
      have H5:=Hd (And.intro hM5 hb5)
      unfold Sm.v at hrun
      clear hX hM3 hb3 hM5 hg5 hb5 hb HM HB HX
      go_wp2_with fail
      go_roundw
      case rel =>
       refine ⟨k + 1,N + 1,putK t E,by omega,by simp,H5.out.1,by omega,Nat.le_trans (putK_len t E) (by omega),fun u => ?_,H5.out.2⟩
       rw [mem_putK,HE.out,HN.out]
       constructor
       · rintro (e | ⟨h1,h2⟩)
         · subst e;exact ⟨.inr rfl,HR.out⟩
         · exact ⟨.inl h1,h2⟩
       · rintro ⟨h1 | h1,h2⟩
         · exact .inr ⟨h1,h2⟩
         · exact .inl h1
      case measure => simp only [intOf];omega
    · have hc:=fun w => rightM_false hR w
      unfold Sm.v at hc
      have HC:=Hd hc;have HR:=Hd hR
      clear hc hR hM hM2 hb2 hbx hbl h5 hnext hE hbw ht hsz
      go_wp2_with fail
      clear c0 c1 c2 c3 c4 c5 c6
      generalize wr.alloc (.cells #[.int .i64 t.fr,.int .i64 t.to,.int .i64 t.kp,.int .i64 t.ad,.int .i64 t.t0,.int .i64 t.t1,.int .i64 t.t2] 82) = w1 at *
      generalize wr.heap.size = g at *
      refine (HC.out _).mono ?_;rintro e w2 ⟨rfl,hb⟩
      dsimp only
      have hM3 : MapK w2 w.heap.size N E:=HM.out.kept (grown_below hb) (by simp)
      have hb3:=HB.out.trans (hb.mono HB.out.size)
      have H5:=Hd (And.intro hM3 hb3)
      clear hM3 hb3 hb HM HB HX
      go_wp2_with fail
      go_roundw
      case rel =>
       refine ⟨k + 1,N,E,by omega,by simp,H5.out.1,by omega,by omega,fun u => ?_,H5.out.2⟩
       rw [HE.out,HN.out]
       constructor
       · rintro ⟨h1,h2⟩;exact ⟨.inl h1,h2⟩
       · rintro ⟨h1 | h1,h2⟩
         · exact ⟨h1,h2⟩
         · subst h1;exact absurd h2 HR.out
      case measure => simp only [intOf];omega
  · have hkn : k = l.length:=by omega
    have hEl : ∀ t,t ∈ E ↔ t ∈ l ∧ t.R:=fun t => by rw [hE,hkn,List.take_length]
    have hge : ¬ (k : Int) < (l.length : Int):=by omega
    have hE2 : E.length ≤ 200000000:=by omega
    have HM:=Hd (And.intro hM hEl);have HB1:=Hd hbw
    have hmk:=mkeys_any (some w.heap.size) wr
    have HMK:=Hd hmk
    have hnd:=hM.2.2
    clear hM hE hbw hEl hE1 hN hmk
    go_wp2_with fail
    refine (HMK.out).mono ?_;rintro e w2 ⟨rfl,rfl⟩
    dsimp only
    have hlenE : ∀ ys : List RSm,AllOf E ys → ys.length = E.length:=fun ys hy => by
     have h1 : (raw ys).Perm E:=(List.perm_ext_iff_of_nodup hy.1 hnd).2 hy.2
     have h2:=h1.length_eq
     rw [raw_length] at h2;exact h2
    have hso:=sortedFunc_any 153 E.length #[.pointer (some ⟨wr.heap.size,0,none⟩)] (AllOf E) (fun _ => True) hE2
     (fun ys hy => by rw [hlenE ys hy];exact hE2)
     _ (wr.alloc (.cells #[.map (some w.heap.size)] 128)) (Below.refl _ _) (enters_of Tryz.func153 (by kernel_rfl) rfl)
     (fun n hn => keysC_some n hn wr.heap.size w.heap.size N E _ (BoxAt.made wr _ _) (HM.out.1.alloc _))
    have HSO:=Hd hso;have HLE:=Hd hlenE;clear hso hlenE HMK
    go_wp2_with fail
    refine (HSO.out).mono ?_;rintro e w3 ⟨⟨v,ys,rfl,hys,hr⟩,hb3⟩
    dsimp only
    have hylen : (sortS (raw ys)).length ≤ 200000000:=by
     rw [(sortS_perm _).length_eq,raw_length,HLE.out ys hys];exact hE2
    have hfin:=least_is HM.out.2 hys
    have hB3 : Below w.heap.size w w3:=(HB1.out.alloc HB1.out.size _).trans (hb3.mono (by have:=HB1.out.size;simp;omega))
    obtain ⟨A,c,rfl,hT,hle,_⟩:=Times.of_own hr
    rw [own_len hr] at *
    have hT:=Ts.of hT
    generalize sortS (raw ys) = ds at *
    have HFIN:=Hd hfin;have HT2:=Hd hT;have HB3:=Hd hB3;clear hfin hT hB3 hr hb3 HSO hys HM HB1 HT HLE hle hge hnd
    go_wp2_with fail
    go_loopw [6,27] (fun fv i wr => ∃ k : Nat,k ≤ ds.length ∧ i = .int .i64 k ∧ Below w3.heap.size w3 wr ∧ wr.ownsRow w3.heap.size 82 7 fv (greedy (ds.take k)).length (rowS (greedy (ds.take k)))) (fun _ i _ => ds.length - (intOf i).toNat)
    case atStart => exact ⟨0,Nat.zero_le _,rfl,Below.refl _ _,World.ownsRow_nil _ _ _ _⟩
    case round =>
     obtain ⟨k,hk,rfl,hbw,hro⟩:=hrel
     obtain ⟨B,c',rfl,hTu,hle,hcm⟩:=Times.of_own hro
     have hgl : (greedy (ds.take k)).length ≤ k:=greedy_len _ _ (by rw [List.length_take];omega)
     by_cases hlt : k < ds.length
     · obtain ⟨t,ht⟩ : ∃ t,ds[k]? = some t:=⟨_,List.getElem?_eq_getElem hlt⟩
       have hnext : greedy (ds.take (k + 1)) = take1 (greedy (ds.take k)) t:=by rw [List.take_add_one,ht,Option.toList,greedy_snoc]
       generalize greedy (ds.take k) = us at *
       obtain ⟨b,o,rfl,hbl,h5⟩:=HT2.out.five ht
       obtain ⟨c0,c1,c2,c3,c4,c5,c6⟩:=h5 wr hbw
       have hrch:=containsFunc_any B us c' 91 #[.pointer (some ⟨wr.heap.size,0,none⟩)] (fun x => decide (x.L t)) _ ((Ts.of hTu).below ((Below.refl wr.heap.size wr).alloc (Nat.le_refl _) (.cells #[.int .i64 t.fr,.int .i64 t.to,.int .i64 t.kp,.int .i64 t.ad,.int .i64 t.t0,.int .i64 t.t1,.int .i64 t.t2] 82))) (by omega) (enters_of Tryz.func91 (by kernel_rfl) rfl) (fun _ => aheadC wr.heap.size t _ (Holds.made wr t))
       have hbx:=Holds.made wr t
       have hsz:=hbw.size
       cases hv : (us.any fun x => decide (x.L t)) with
       | true =>
         have e1 : take1 us t = us:=by unfold take1;rw [if_pos hv]
         rw [hv] at hrch
         rw [e1] at hnext
         have HR:=Hd hrch;have HN:=Hd hnext;have HO:=Hd (And.intro hbw hro)
         clear hrch hnext hbw hro hTu ht h5 hbl hv e1 hbx
         unfold Sm.v at *
         go_wp2_with fail
         refine (HR.out).mono ?_;rintro e w4 ⟨rfl,hb4⟩
         have hb5 : Below wr.heap.size wr w4:=((Below.refl _ _).alloc (Nat.le_refl _) _).trans (hb4.mono (by simp))
         have HB5:=Hd hb5;clear hb4 hb5 c0 c1 c2 c3 c4 c5 c6 HR
         go_wp2_with fail
         go_roundw
         case rel => exact ⟨k + 1,by omega,by simp,HO.out.1.trans (HB5.out.mono hsz),by rw [HN.out];exact own_kept HO.out.2 HB5.out⟩
         case measure => simp only [intOf];omega
       | false =>
         have e1 : take1 us t = us ++ [t]:=by unfold take1;rw [if_neg (by rw [hv];simp)]
         rw [hv] at hrch
         rw [e1] at hnext
         have HR:=Hd hrch;have HN:=Hd hnext;have HO:=Hd (And.intro hbw hro);have HX:=Hd hbx
         clear hrch hnext hbw hro hTu ht h5 hbl hv e1 hbx
         unfold Sm.v at *
         go_wp2_with fail
         refine (HR.out).mono ?_;rintro e w4 ⟨rfl,hb4⟩
         have hb5 : Below wr.heap.size wr w4:=((Below.refl _ _).alloc (Nat.le_refl _) _).trans (hb4.mono (by simp))
         have hx4 : Holds w4 wr.heap.size t:=HoldsM.below HX.out hb4
         have hl4 : wr.heap.size < w4.heap.size:=HoldsM.lt hx4
         have hs5:=hb5.size
         have hoA:=(own_kept HO.out.2 hb5).alloc (.cells #[.int .i64 t.fr,.int .i64 t.to,.int .i64 t.kp,.int .i64 t.ad,.int .i64 t.t0,.int .i64 t.t1,.int .i64 t.t2] 82)
         have hTA:=Times.made w4 [t]
         have hba : Below w3.heap.size w3 (w4.alloc (.cells #[.int .i64 t.fr,.int .i64 t.to,.int .i64 t.kp,.int .i64 t.ad,.int .i64 t.t0,.int .i64 t.t1,.int .i64 t.t2] 82)):=(HO.out.1.trans (hb5.mono hsz)).alloc (by omega) _
         have hbs:=hba.size
         obtain ⟨d0,d1,d2,d3,d4,d5,d6⟩:=hx4.cells5
         have HBA:=Hd hba;clear hb4 hb5 c0 c1 c2 c3 c4 c5 c6 HR hx4 hba
         go_wp2_with (at_builtin;refine wpList_append_times rfl _ _ rfl w3.heap.size _ us.length us rfl hoA ⟨w4.heap.size,0,none⟩ 1 [t] rfl (by simp) hTA (by simp;omega) hbs ?_;intro v' w5 hown' hgr')
         have hb6:=own_belowS hoA hgr' HBA.out hbs
         have H6:=Hd (And.intro hown' hb6);clear hown' hgr' hoA hTA hb6 d0 d1 d2 d3 d4 d5 d6
         go_wp2_with fail
         go_roundw
         case rel => exact ⟨k + 1,by omega,by simp,H6.out.2,by rw [HN.out];simpa using H6.out.1⟩
         case measure => simp only [intOf];omega
     · have hk' : k = ds.length:=by omega
       have hfin : greedy (ds.take k) = waysS l:=by rw [hk',List.take_length];exact HFIN.out
       rw [hfin] at hro ⊢
       have HO:=Hd (And.intro hbw hro);clear hbw hro hTu hfin
       go_wp2_with fail
       go_ret
       refine ⟨⟨_,rfl,?_⟩,HB3.out.trans (HO.out.1.mono HB3.out.size)⟩
       obtain ⟨h1,h2⟩:=HO.out.2
       refine ⟨h1,?_⟩
       rcases h2 with h2 | ⟨g',cap,cur,hv,hb',h3⟩
       · exact .inl h2
       · exact .inr ⟨g',cap,cur,hv,Nat.le_trans HB3.out.size hb',h3⟩
end Mx
end
end Go.Proofs.YtonelpnhoiajgaaGreatDoor
