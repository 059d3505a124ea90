import Derived.Test.YtonelpnhoiajgaaGreatDoorHd
import Derived.Test.YtonelpnhoiajgaaGreatDoorCa4
import Derived.Maps.OwnSet
import Derived.Shelf.Abstract
import Derived.Test.YtonelpnhoiajgaaGreatDoorCa8
import Derived.Laws.Tables
import Derived.RegionTactic
import Derived.BigRegion
import Derived.ChangeAlike
import Derived.Deep.DeepCutAuto
namespace Go.Proofs.YtonelpnhoiajgaaGreatDoor
set_option linter.unusedSimpArgs false
set_option maxRecDepth 100000
open Go.ChangeShapes Go.WideShapes Go.ChangeAt Go.RowKit Go.BigFrame
set_option linter.unusedVariables false
section
open Go.Maps (Keyed)
theorem wpList_insert_own {H : Type} {P : Program} (w : World) {ops : Array Oper} {rest : List Oper} {o : Oper} {a : Act} {Q : Exit → Act → World → Prop}
 (hg : o.guard = none) (m x v : Operand) (t : TypeId) (hop : o.op = Op.insert t m x v)
 (k e : TypeId) (K : Keyed P k) (ht : P.underlying t = some (.map k e)) (R : Value → Option (DataW H × List MemPlace)) (b n : Nat) (D : DataW H)
 (hm : a.eval m = .map (some b)) (hown : w.ownsMap P k R b n D) (hn : n < maxLen) (key val : Value) (kl : Lit) (hx : a.eval x = key) (hv : a.eval v = val) (hkey : keyOf P k key = some kl)
 (d : DataW H) (ps : List MemPlace) (hval : R val = some (d,ps))
 (hK : ∀ w',w'.ownsMap P k R b (n + 1) (D.put kl d) → w.grownBy w' (some b) → wpList P ops Q rest (a.put o.dst undef) w') :
 wpList P ops Q (o :: rest) a w:=by
 refine wpList_plain hg fun K' hK' => ?_
 obtain ⟨w',hrun,r1,r2⟩:=hown.update K ht hn hkey hval
 unfold Oper.wp
 simp [execOp,hop,hm,hx,hv,hrun,Result.andThen]
 exact hK' _ _ (hK w' r1 r2)
def RF : Value → Option (DataW Value × List MemPlace):=fun v => some (.held v,[])
theorem keyed8 : Keyed Tryz.prog 5:=Go.Maps.int_keyed Tryz.underlying5
theorem key8 {k : Nat} (h : k < 256) : keyOf Tryz.prog 5 (.int .u8 (k : Nat)) = some (.int .u8 (k : Nat)):=Go.Maps.keyOf_int_mk Tryz.underlying5 (by simp [Lit.wf,IntKind.min,IntKind.max,IntKind.signed,IntKind.bits];omega)
def Within (w : World) (v : Value) (last : Nat) (lo hi : Int) : Prop:=∃ b1 b2 b3 : Nat,v = .func (.func 163) #[] #[.pointer (some ⟨b1,0,none⟩),.pointer (some ⟨b2,0,none⟩),.pointer (some ⟨b3,0,none⟩)] ∧
 w.cell? ⟨b1,0,none⟩ = some (.int .u8 (last : Nat)) ∧ w.cell? ⟨b2,0,none⟩ = some (.int .i64 lo) ∧ w.cell? ⟨b3,0,none⟩ = some (.int .i64 hi)
def Dividing (w : World) (v : Value) (last by_ : Nat) : Prop:=∃ b1 b2 : Nat,v = .func (.func 165) #[] #[.pointer (some ⟨b1,0,none⟩),.pointer (some ⟨b2,0,none⟩)] ∧
 w.cell? ⟨b1,0,none⟩ = some (.int .u8 (last : Nat)) ∧ w.cell? ⟨b2,0,none⟩ = some (.int .u8 (by_ : Nat))
theorem cell_below {w w' : World} {b o : Nat} {v : Value} (h : w.cell? ⟨b,o,none⟩ = some v) (hb : Below w.heap.size w w') : w'.cell? ⟨b,o,none⟩ = some v:=by
 have hl:=cell_lt h
 rw [hb.cell hl];exact h
theorem Within.below {w w' : World} {v : Value} {last : Nat} {lo hi : Int} (h : Within w v last lo hi) (hb : Below w.heap.size w w') : Within w' v last lo hi:=by
 obtain ⟨b1,b2,b3,e,h1,h2,h3⟩:=h
 exact ⟨b1,b2,b3,e,cell_below h1 hb,cell_below h2 hb,cell_below h3 hb⟩
theorem Dividing.below {w w' : World} {v : Value} {last by_ : Nat} (h : Dividing w v last by_) (hb : Below w.heap.size w w') : Dividing w' v last by_:=by
 obtain ⟨b1,b2,e,h1,h2⟩:=h
 exact ⟨b1,b2,e,cell_below h1 hb,cell_below h2 hb⟩
def RulesD (v1 v2 v3 v5 v9 : Value) : DataW Value:=.map [(.int .u8 1,.held v1),(.int .u8 2,.held v2),(.int .u8 3,.held v3),(.int .u8 4,.held v1),(.int .u8 5,.held v5),(.int .u8 6,.held v1),(.int .u8 7,.held v1),(.int .u8 8,.held v1),(.int .u8 9,.held v9),(.int .u8 10,.held v1)]
def Rules (w : World) (b : Nat) : Prop:=∃ v1 v2 v3 v5 v9,w.ownsMap Tryz.prog 5 RF b 10 (RulesD v1 v2 v3 v5 v9) ∧ Within w v1 0 0 0 ∧ Dividing w v2 3 3 ∧ Dividing w v3 2 1 ∧ Within w v5 3 0 0 ∧ Within w v9 0 1 16
theorem ownsMap_below {w w' : World} {b n : Nat} {D : DataW Value} (h : w.ownsMap Tryz.prog 5 RF b n D) (hb : Below w.heap.size w w') : w'.ownsMap Tryz.prog 5 RF b n D:=by
 obtain ⟨es,clock,h1,F,h2,h3⟩:=id h
 exact ⟨es,clock,by rw [hb.block b h.lt];exact h1,F,h2,h3⟩
theorem Rules.below {w w' : World} {b : Nat} (h : Rules w b) (hb : Below w.heap.size w w') : Rules w' b:=by
 obtain ⟨v1,v2,v3,v5,v9,h0,h1,h2,h3,h5,h9⟩:=h
 exact ⟨v1,v2,v3,v5,v9,ownsMap_below h0 hb,h1.below hb,h2.below hb,h3.below hb,h5.below hb,h9.below hb⟩
theorem Rules.look {w : World} {b k : Nat} (h : Rules w b) (hk : k < 256) :
 (¬ (1 ≤ k ∧ k ≤ 10) ∧ (Instr.lookup 142 (.map (some b)) (.int .u8 (k : Nat)) true).run Tryz.prog w = .ok (.tuple #[.nilFunc,.bool false]) w) ∨
 ∃ v,(Instr.lookup 142 (.map (some b)) (.int .u8 (k : Nat)) true).run Tryz.prog w = .ok (.tuple #[v,.bool true]) w ∧
   (k = 2 ∧ Dividing w v 3 3 ∨ k = 3 ∧ Dividing w v 2 1 ∨ k = 5 ∧ Within w v 3 0 0 ∨ k = 9 ∧ Within w v 0 1 16 ∨ (1 ≤ k ∧ k ≤ 10 ∧ k ≠ 2 ∧ k ≠ 3 ∧ k ≠ 5 ∧ k ≠ 9) ∧ Within w v 0 0 0):=by
 obtain ⟨v1,v2,v3,v5,v9,h0,h1,h2,h3,h5,h9⟩:=h
 obtain ⟨v,ps,hrun,hv⟩:=h0.look_ok keyed8 (t:=142) Tryz.underlying142 (z:=.nilFunc) (by kernel_rfl) (zd:=.held .nilFunc) (zp:=[]) rfl (key8 hk)
 have hv' : DataW.held v = (RulesD v1 v2 v3 v5 v9).atKey (.int .u8 (k : Nat)) (.held .nilFunc):=by
  unfold RF at hv;injection hv with hv;injection hv
 by_cases hin : 1 ≤ k ∧ k ≤ 10
 · refine .inr ⟨v,?_,?_⟩
   · rw [hrun]
     have : Maps.has (RulesD v1 v2 v3 v5 v9) (.int .u8 (k : Nat)) = true:=by
      obtain ⟨ha,hb⟩:=hin
      have : k = 1 ∨ k = 2 ∨ k = 3 ∨ k = 4 ∨ k = 5 ∨ k = 6 ∨ k = 7 ∨ k = 8 ∨ k = 9 ∨ k = 10:=by omega
      rcases this with rfl | rfl | rfl | rfl | rfl | rfl | rfl | rfl | rfl | rfl <;> rfl
     rw [this]
   · obtain ⟨ha,hb⟩:=hin
     have : k = 1 ∨ k = 2 ∨ k = 3 ∨ k = 4 ∨ k = 5 ∨ k = 6 ∨ k = 7 ∨ k = 8 ∨ k = 9 ∨ k = 10:=by omega
     rcases this with rfl | rfl | rfl | rfl | rfl | rfl | rfl | rfl | rfl | rfl
     · have : v = v1:=by injection hv'
       subst this;exact .inr (.inr (.inr (.inr ⟨by omega,h1⟩)))
     · have : v = v2:=by injection hv'
       subst this;exact .inl ⟨rfl,h2⟩
     · have : v = v3:=by injection hv'
       subst this;exact .inr (.inl ⟨rfl,h3⟩)
     · have : v = v1:=by injection hv'
       subst this;exact .inr (.inr (.inr (.inr ⟨by omega,h1⟩)))
     · have : v = v5:=by injection hv'
       subst this;exact .inr (.inr (.inl ⟨rfl,h5⟩))
     · have : v = v1:=by injection hv'
       subst this;exact .inr (.inr (.inr (.inr ⟨by omega,h1⟩)))
     · have : v = v1:=by injection hv'
       subst this;exact .inr (.inr (.inr (.inr ⟨by omega,h1⟩)))
     · have : v = v1:=by injection hv'
       subst this;exact .inr (.inr (.inr (.inr ⟨by omega,h1⟩)))
     · have : v = v9:=by injection hv'
       subst this;exact .inr (.inr (.inr (.inl ⟨rfl,h9⟩)))
     · have : v = v1:=by injection hv'
       subst this;exact .inr (.inr (.inr (.inr ⟨by omega,h1⟩)))
 · have hall : ∀ p ∈ [((.int .u8 1 : Lit),DataW.held v1),(.int .u8 2,.held v2),(.int .u8 3,.held v3),(.int .u8 4,.held v1),(.int .u8 5,.held v5),(.int .u8 6,.held v1),(.int .u8 7,.held v1),(.int .u8 8,.held v1),(.int .u8 9,.held v9),(.int .u8 10,.held v1)],p.1.sameKey (.int .u8 (k : Nat)) = false:=by
    intro p hp
    simp only [List.mem_cons,List.not_mem_nil,or_false] at hp
    rcases hp with rfl | rfl | rfl | rfl | rfl | rfl | rfl | rfl | rfl | rfl <;> (simp [Lit.sameKey];omega)
   refine .inl ⟨hin,?_⟩
   have hh : Maps.has (RulesD v1 v2 v3 v5 v9) (.int .u8 (k : Nat)) = false:=List.any_eq_false.2 fun p hp => by rw [hall p hp];simp
   have ha : (RulesD v1 v2 v3 v5 v9).atKey (.int .u8 (k : Nat)) (.held .nilFunc) = .held .nilFunc:=by
    unfold RulesD DataW.atKey
    simp only
    rw [List.find?_eq_none.2 fun p hp => by rw [hall p hp];simp]
   rw [ha] at hv'
   have : v = .nilFunc:=by injection hv'
   subst this
   rw [hrun,hh]
theorem keyLit {n : Int} (h0 : 0 ≤ n) (h1 : n ≤ 255) : keyOf Tryz.prog 5 (.int .u8 n) = some (.int .u8 n):=Go.Maps.keyOf_int_mk Tryz.underlying5 (by simp [Lit.wf,IntKind.min,IntKind.max,IntKind.signed,IntKind.bits];omega)
theorem new_cell {W : World} {b : Nat} {v : Value} {t : TypeId} (h : b = W.heap.size) : (W.alloc (.cells #[v] t)).cell? ⟨b,0,none⟩ = some v:=by
 subst h
 exact cell_one_new W v t 0 v rfl
theorem old_cell {W : World} {b : Nat} {v : Value} {o : Obj} (h : W.cell? ⟨b,0,none⟩ = some v) : (W.alloc o).cell? ⟨b,0,none⟩ = some v:=cell_below h ((Below.refl _ W).alloc (Nat.le_refl _) o)
theorem within_any (last : Nat) (lo hi : Int) (w : World) : Calls Tryz.prog 162 #[.int .u8 (last : Nat),.int .i64 lo,.int .i64 hi] w fun e w' => (∃ v,e = .returned v ∧ Within w' v last lo hi) ∧ Below w.heap.size w w':=by
 have hb1:=(Below.refl _ w).alloc (Nat.le_refl _) (.cells #[.int .u8 (last : Nat)] 5)
 have hb2:=hb1.alloc hb1.size (.cells #[.int .i64 lo] 2)
 have hb3:=hb2.alloc hb2.size (.cells #[.int .i64 hi] 2)
 have HB:=Hd hb3;clear hb1 hb2 hb3
 go_enter Tryz.func162,Tryz.ntmps162
 go_wp2_with fail
 go_ret
 refine ⟨⟨_,rfl,_,_,_,rfl,?_,?_,?_⟩,HB.out⟩
 · exact old_cell (old_cell (new_cell rfl))
 · exact old_cell (new_cell (by simp))
 · exact new_cell (by simp)
theorem dividing_any (last by_ : Nat) (w : World) : Calls Tryz.prog 164 #[.int .u8 (last : Nat),.int .u8 (by_ : Nat)] w fun e w' => (∃ v,e = .returned v ∧ Dividing w' v last by_) ∧ Below w.heap.size w w':=by
 have hb1:=(Below.refl _ w).alloc (Nat.le_refl _) (.cells #[.int .u8 (last : Nat)] 5)
 have hb2:=hb1.alloc hb1.size (.cells #[.int .u8 (by_ : Nat)] 5)
 have HB:=Hd hb2;clear hb1 hb2
 go_enter Tryz.func164,Tryz.ntmps164
 go_wp2_with fail
 go_ret
 refine ⟨⟨_,rfl,_,_,rfl,?_,?_⟩,HB.out⟩
 · exact old_cell (new_cell rfl)
 · exact new_cell (by simp)
def CellsKept (w w' : World) : Prop:=∀ b o v,w.cell? ⟨b,o,none⟩ = some v → w'.cell? ⟨b,o,none⟩ = some v
theorem CellsKept.within {w w' : World} {v : Value} {last : Nat} {lo hi : Int} (k : CellsKept w w') (h : Within w v last lo hi) : Within w' v last lo hi:=by
 obtain ⟨b1,b2,b3,e,h1,h2,h3⟩:=h
 exact ⟨b1,b2,b3,e,k _ _ _ h1,k _ _ _ h2,k _ _ _ h3⟩
theorem CellsKept.dividing {w w' : World} {v : Value} {last by_ : Nat} (k : CellsKept w w') (h : Dividing w v last by_) : Dividing w' v last by_:=by
 obtain ⟨b1,b2,e,h1,h2⟩:=h
 exact ⟨b1,b2,e,k _ _ _ h1,k _ _ _ h2⟩
theorem CellsKept.of_below {w w' : World} (h : Below w.heap.size w w') : CellsKept w w':=fun b o v hc => cell_below hc h
theorem CellsKept.of_map {w w' : World} {b n : Nat} {D : DataW Value} (ho : w.ownsMap Tryz.prog 5 RF b n D) (hg : w.grownBy w' (some b)) : CellsKept w w':=fun c o v hc => by
 have hl:=cell_lt hc
 have hne : c ≠ b:=by
  rintro rfl
  obtain ⟨es,clock,h1,_⟩:=ho
  unfold World.cell? at hc
  simp only [h1] at hc
  cases hc
 rw [World.cell?_of_block (w:=w) (hg.block c hl (by simpa using hne))]
 exact hc
structure NS (w0 w : World) (b n : Nat) (D : DataW Value) (F : World → Prop) : Prop where
 base : w0.heap.size ≤ b
 below : Below w0.heap.size w0 w
 own : w.ownsMap Tryz.prog 5 RF b n D
 cl : F w
 st : ∀ w w',CellsKept w w' → F w → F w'
theorem NS.call {w0 w w' : World} {b n : Nat} {D : DataW Value} {F G : World → Prop} (h : NS w0 w b n D F) (hb : Below w.heap.size w w') (hg : G w') (hs : ∀ w w',CellsKept w w' → G w → G w') : NS w0 w' b n D (fun W => F W ∧ G W) :=
 ⟨h.base,h.below.trans (hb.mono h.below.size),ownsMap_below h.own hb,⟨h.st _ _ (CellsKept.of_below hb) h.cl,hg⟩,fun w w' k hh => ⟨h.st _ _ k hh.1,hs _ _ k hh.2⟩⟩
theorem wpList_insert_ns (w0 w : World) {ops : Array Oper} {rest : List Oper} {o : Oper} {a : Act} {Q : Exit → Act → World → Prop}
 (hg : o.guard = none) (m x v : Operand) (hop : o.op = Op.insert 142 m x v) {b n : Nat} {D : DataW Value} {F : World → Prop} (h : NS w0 w b n D F) (hn : n < maxLen)
 (hm : a.eval m = .map (some b)) (key val : Value) (kl : Lit) (hx : a.eval x = key) (hv : a.eval v = val) (hkey : keyOf Tryz.prog 5 key = some kl)
 (hK : ∀ w',NS w0 w' b (n + 1) (D.put kl (.held val)) F → wpList Tryz.prog ops Q rest (a.put o.dst undef) w') :
 wpList Tryz.prog ops Q (o :: rest) a w :=
 wpList_insert_own w hg m x v 142 hop 5 _ keyed8 Tryz.underlying142 RF b n D hm h.own hn key val kl hx hv hkey _ _ rfl fun w' ho hgr =>
  hK w' ⟨h.base,h.below.grown hgr h.below.size (fun j hj => by cases hj;exact h.base),ho,h.st _ _ (CellsKept.of_map h.own hgr) h.cl,h.st⟩
def NumD (w : World) (e : Ending) (w' : World) : Prop:=(∃ b,e = .returned (.map (some b)) ∧ Rules w' b) ∧ Below w.heap.size w w'
set_option maxHeartbeats 4000000 in
theorem numbers_any (w : World) : Calls Tryz.prog 99 #[] w (NumD w):=by
 have e39 : ∀ args w,(callFunc 162 args).run Tryz.prog w = .ok (.enter 162 args) w:=enters_of Tryz.func162 (by kernel_rfl) rfl
 have e41 : ∀ args w,(callFunc 164 args).run Tryz.prog w = .ok (.enter 164 args) w:=enters_of Tryz.func164 (by kernel_rfl) rfl
 have hmm:=@run_makeMap Tryz.prog
 go_enter Tryz.func99,Tryz.ntmps99
 go_wp2_with fail
 refine (within_any 0 0 0 _).mono ?_;rintro e w1 ⟨⟨v1,rfl,h1⟩,hb1⟩
 have HNS : NS w (w1.alloc (.map #[] 0)) w1.heap.size 0 (.map []) (fun W => Within W v1 0 0 0):=⟨hb1.size,hb1.alloc hb1.size _,World.ownsMap_made _ _ _ _,h1.below ((Below.refl _ _).alloc (Nat.le_refl _) _),fun _ _ k h => k.within h⟩
 clear h1 hb1
 dsimp only
 go_wp2_with (refine wpList_insert_ns _ _ rfl _ _ _ rfl HNS (by unfold maxLen;omega) rfl _ _ _ rfl rfl (keyLit (by decide) (by decide)) ?_;intro wn hns;clear HNS;have HNS:=hns;clear hns)
 refine (dividing_any 3 3 _).mono ?_;rintro e w2 ⟨⟨v2,rfl,h2⟩,hb2⟩
 have HN:=HNS.call (G:=fun W => Dividing W v2 3 3) hb2 h2 (fun _ _ k h => k.dividing h)
 clear HNS hb2 h2;have HNS:=HN;clear HN
 dsimp only
 go_wp2_with (refine wpList_insert_ns _ _ rfl _ _ _ rfl HNS (by unfold maxLen;omega) rfl _ _ _ rfl rfl (keyLit (by decide) (by decide)) ?_;intro wn hns;clear HNS;have HNS:=hns;clear hns)
 refine (dividing_any 2 1 _).mono ?_;rintro e w3 ⟨⟨v3,rfl,h3⟩,hb3⟩
 have HN:=HNS.call (G:=fun W => Dividing W v3 2 1) hb3 h3 (fun _ _ k h => k.dividing h)
 clear HNS hb3 h3;have HNS:=HN;clear HN
 dsimp only
 go_wp2_with (refine wpList_insert_ns _ _ rfl _ _ _ rfl HNS (by unfold maxLen;omega) rfl _ _ _ rfl rfl (keyLit (by decide) (by decide)) ?_;intro wn hns;clear HNS;have HNS:=hns;clear hns)
 refine (within_any 3 0 0 _).mono ?_;rintro e w5 ⟨⟨v5,rfl,h5⟩,hb5⟩
 have HN:=HNS.call (G:=fun W => Within W v5 3 0 0) hb5 h5 (fun _ _ k h => k.within h)
 clear HNS hb5 h5;have HNS:=HN;clear HN
 dsimp only
 go_wp2_with (refine wpList_insert_ns _ _ rfl _ _ _ rfl HNS (by unfold maxLen;omega) rfl _ _ _ rfl rfl (keyLit (by decide) (by decide)) ?_;intro wn hns;clear HNS;have HNS:=hns;clear hns)
 refine (within_any 0 1 16 _).mono ?_;rintro e w9 ⟨⟨v9,rfl,h9⟩,hb9⟩
 have HN:=HNS.call (G:=fun W => Within W v9 0 1 16) hb9 h9 (fun _ _ k h => k.within h)
 clear HNS hb9 h9;have HNS:=HN;clear HN
 dsimp only
 go_wp2_with (refine wpList_insert_ns _ _ rfl _ _ _ rfl HNS (by unfold maxLen;omega) rfl _ _ _ rfl rfl (keyLit (by decide) (by decide)) ?_;intro wn hns;clear HNS;have HNS:=hns;clear hns)
 go_ret
 obtain ⟨⟨⟨⟨h1,h2⟩,h3⟩,h5⟩,h9⟩:=HNS.cl
 exact ⟨⟨_,rfl,v1,v2,v3,v5,v9,HNS.own,h1,h2,h3,h5,h9⟩,HNS.below⟩
end

section
@[reducible] def U32 (m : Nat) : Value:=.int .u32 (m : Nat)
structure BitsAre (M : List Nat) (S : Nat → Nat → Prop) : Prop where
 len : M.length = 32
 lt : ∀ m ∈ M,m < 4294967296
 is : ∀ (a m j : Nat),M[a]? = some m → (m.testBit j = true ↔ S a j)
theorem BitsAre.start : BitsAre (List.replicate 32 0) (fun _ _ => False):=⟨List.length_replicate,fun m hm => by rw [List.eq_of_mem_replicate hm];omega,fun a m j h => by
 rw [List.eq_of_mem_replicate (List.mem_of_getElem? h)];simp⟩
theorem BitsAre.congr {M : List Nat} {S T : Nat → Nat → Prop} (h : BitsAre M S) (e : ∀ a j,a < 32 → (S a j ↔ T a j)) : BitsAre M T:=⟨h.len,h.lt,fun a m j hm => by
 rw [h.is a m j hm]
 exact e a j (by have:=(List.getElem?_eq_some_iff.1 hm).1;rw [h.len] at this;exact this)⟩
theorem BitsAre.at_ {M : List Nat} {S : Nat → Nat → Prop} (h : BitsAre M S) {a : Nat} (ha : a < 32) : ∃ m,M[a]? = some m ∧ m < 4294967296:=by
 obtain ⟨m,hm⟩ : ∃ m,M[a]? = some m:=⟨_,List.getElem?_eq_getElem (by rw [h.len];exact ha)⟩
 exact ⟨m,hm,h.lt m (List.mem_of_getElem? hm)⟩
theorem BitsAre.put {M : List Nat} {S : Nat → Nat → Prop} (h : BitsAre M S) {z m k : Nat} (hz : M[z]? = some m) (hk : k < 32) : BitsAre (M.set z (m ||| 2 ^ k)) (fun a j => S a j ∨ (a = z ∧ j = k)):=by
 have hl:=(List.getElem?_eq_some_iff.1 hz).1
 refine ⟨by rw [List.length_set];exact h.len,fun x hx => ?_,fun a x j hx => ?_⟩
 · rcases List.mem_or_eq_of_mem_set hx with hx | rfl
   · exact h.lt x hx
   · exact with_lt (h.lt m (List.mem_of_getElem? hz)) hk
 · by_cases e : z = a
   · subst e
     rw [List.getElem?_set_self hl] at hx
     injection hx with hx;subst hx
     rw [with_test,Bool.or_eq_true,h.is z m j hz,decide_eq_true_eq]
     constructor
     · rintro (h | h)
       · exact .inl h
       · exact .inr ⟨rfl,h.symm⟩
     · rintro (h | ⟨_,h⟩)
       · exact .inl h
       · exact .inr h.symm
   · rw [List.getElem?_set_ne e] at hx
     rw [h.is a x j hx]
     exact ⟨.inl,fun h => h.elim id fun h => absurd h.1.symm e⟩
theorem BitsAre.join {M : List Nat} {S : Nat → Nat → Prop} (h : BitsAre M S) {i b m n : Nat} (hi : M[i]? = some m) (hb : M[b]? = some n) : BitsAre (M.set i (m ||| n)) (fun a j => S a j ∨ (a = i ∧ S b j)):=by
 have hl:=(List.getElem?_eq_some_iff.1 hi).1
 refine ⟨by rw [List.length_set];exact h.len,fun x hx => ?_,fun a x j hx => ?_⟩
 · rcases List.mem_or_eq_of_mem_set hx with hx | rfl
   · exact h.lt x hx
   · exact or_lt32 (h.lt m (List.mem_of_getElem? hi)) (h.lt n (List.mem_of_getElem? hb))
 · by_cases e : i = a
   · subst e
     rw [List.getElem?_set_self hl] at hx
     injection hx with hx;subst hx
     rw [Nat.testBit_or,Bool.or_eq_true,h.is i m j hi,h.is b n j hb]
     exact ⟨fun h => h.elim .inl fun h => .inr ⟨rfl,h⟩,fun h => h.elim .inl fun h => .inr h.2⟩
   · rw [List.getElem?_set_ne e] at hx
     rw [h.is a x j hx]
     exact ⟨.inl,fun h => h.elim id fun h => absurd h.1.symm e⟩
def FeedsO (g : List Nd) (ov a b : Nat) : Prop:=∃ y,g[b]? = some y ∧ ((a : Nat) : Int) ∈ y.ins ∧ ov.testBit a = true ∧ ov.testBit b = true
def LeadsD (g : List Nd) (ov : Nat) (w : World) (e : Ending) (w' : World) : Prop:=(∃ M,e = .returned (.agg (M.map U32).toArray) ∧ BitsAre M (Plus (FeedsO g ov))) ∧ Below w.heap.size w w'
structure Sets (w0 w : World) (M : List Nat) : Prop where
 row : Row w (w0.heap.size + 1) 240 (M.map U32)
 res : Row w w0.heap.size 240 ((List.replicate 32 0).map U32)
 below : Below w0.heap.size w0 w
theorem Sets.alloc {w0 w : World} {M : List Nat} (h : Sets w0 w M) (o : Obj) : Sets w0 (w.alloc o) M:=⟨h.row.alloc o,h.res.alloc o,h.below.alloc h.below.size o⟩
theorem Sets.drew {w0 w : World} {M : List Nat} (h : Sets w0 w M) : Sets w0 w.drew M:=⟨h.row.drew,h.res.drew,h.below.drew⟩
theorem Sets.put {w0 w : World} {M : List Nat} (h : Sets w0 w M) (z m : Nat) : Sets w0 (w.setCell ⟨w0.heap.size + 1,z,none⟩ (.int .u32 (m : Nat))) (M.set z m):=⟨by rw [List.map_set];exact h.row.put z (U32 m),h.res.far (by simp) _,h.below.setCell (by simp) _⟩
theorem Sets.cell {w0 w : World} {z m : Nat} {M : List Nat} (h : Sets w0 w M) (hz : M[z]? = some m) : w.cell? ⟨w0.heap.size + 1,z,none⟩ = some (.int .u32 (m : Nat)):=by rw [h.row.cell,List.getElem?_map,hz];rfl
theorem Sets.start (w : World) : Sets w ((w.alloc (.cells ((List.replicate 32 0).map U32).toArray 240)).alloc (.cells ((List.replicate 32 0).map U32).toArray 240)) (List.replicate 32 0) where
 row:=by
  have:=Row.made (w.alloc (.cells ((List.replicate 32 0).map U32).toArray 240)) 240 ((List.replicate 32 0).map U32)
  rw [show (w.alloc (.cells ((List.replicate 32 0).map U32).toArray 240)).heap.size = w.heap.size + 1 by simp] at this
  exact this
 res:=(Row.made w 240 ((List.replicate 32 0).map U32)).alloc _
 below:=((Below.refl _ w).alloc (Nat.le_refl _) _).alloc (by simp) _
theorem feedsO_lt {g : List Nd} {ov a b : Nat} (hP : ∀ x ∈ g,∀ z ∈ x.ins,portOk g z) (h : FeedsO g ov a b) : a < g.length ∧ b < g.length:=by
 obtain ⟨y,hy,hin,_⟩:=h
 obtain ⟨_,m,hm,_⟩:=hP y (List.mem_of_getElem? hy) _ hin
 rw [Int.toNat_natCast] at hm
 exact ⟨(List.getElem?_eq_some_iff.1 hm).1,(List.getElem?_eq_some_iff.1 hy).1⟩
theorem way_lt {g : List Nd} {ov a j k : Nat} (hP : ∀ x ∈ g,∀ z ∈ x.ins,portOk g z) (h : Way (FeedsO g ov) k a j) : a < g.length:=by
 obtain ⟨b,hb⟩:=h.plus.first
 exact (feedsO_lt hP hb).1
theorem take_more {xi : List Int} {p : Nat} {z a : Int} (hz : xi[p]? = some z) : a ∈ xi.take (p + 1) ↔ (a ∈ xi.take p ∨ a = z):=by
 rw [List.take_add_one,hz,Option.toList_some,List.mem_append,List.mem_singleton]
def SomeF (g : List Nd) (ov k : Nat) (xs : List Int) (a j : Nat) : Prop:=(j < k ∧ FeedsO g ov a j) ∨ (j = k ∧ ((a : Nat) : Int) ∈ xs ∧ ov.testBit a = true ∧ ov.testBit k = true)
theorem someF_start {g : List Nd} {ov k a j : Nat} : (j < k ∧ FeedsO g ov a j) ↔ SomeF g ov k [] a j:=by unfold SomeF;simp
theorem someF_skip {g : List Nd} {ov k a j p Z : Nat} {xi : List Int} (hz : xi[p]? = some (Z : Int)) (hn : ¬ (ov.testBit Z = true ∧ ov.testBit k = true)) : SomeF g ov k (xi.take p) a j ↔ SomeF g ov k (xi.take (p + 1)) a j:=by
 unfold SomeF
 rw [take_more hz]
 constructor
 · rintro (h | ⟨h1,h2,h3⟩)
   · exact .inl h
   · exact .inr ⟨h1,.inl h2,h3⟩
 · rintro (h | ⟨h1,h2,h3⟩)
   · exact .inl h
   · refine .inr ⟨h1,h2.elim id fun e => ?_,h3⟩
     have : a = Z:=by omega
     subst this
     exact absurd h3 hn
theorem someF_put {g : List Nd} {ov k a j p Z : Nat} {xi : List Int} (hz : xi[p]? = some (Z : Int)) (h1 : ov.testBit Z = true) (h2 : ov.testBit k = true) : (SomeF g ov k (xi.take p) a j ∨ (a = Z ∧ j = k)) ↔ SomeF g ov k (xi.take (p + 1)) a j:=by
 unfold SomeF
 rw [take_more hz]
 constructor
 · rintro ((h | ⟨h1,h2,h3⟩) | ⟨rfl,rfl⟩)
   · exact .inl h
   · exact .inr ⟨h1,.inl h2,h3⟩
   · exact .inr ⟨rfl,.inr rfl,h1,h2⟩
 · rintro (h | ⟨h1,h2,h3⟩)
   · exact .inl (.inl h)
   · rcases h2 with h2 | e
     · exact .inl (.inr ⟨h1,h2,h3⟩)
     · exact .inr ⟨by omega,h1⟩
theorem someF_end {g : List Nd} {ov k a j : Nat} {x : Nd} (hx : g[k]? = some x) : SomeF g ov k x.ins a j ↔ (j < k + 1 ∧ FeedsO g ov a j):=by
 unfold SomeF
 constructor
 · rintro (⟨h1,h2⟩ | ⟨rfl,h2,h3,h4⟩)
   · exact ⟨by omega,h2⟩
   · exact ⟨by omega,x,hx,h2,h3,h4⟩
 · rintro ⟨h1,h2⟩
   by_cases e : j = k
   · subst e
     obtain ⟨y,hy,h3,h4,h5⟩:=h2
     rw [hx] at hy;injection hy with hy;subst hy
     exact .inr ⟨rfl,h3,h4,h5⟩
   · exact .inl ⟨by omega,h2⟩
theorem info79 : (Tryz.prog.info? 240).map (·.size) = some 32:=by kernel_rfl
theorem setRow_row {w : World} {g : Nat} {t : TypeId} {l l' : List Value} (h : Row w g t l) : Row (w.setRow g l'.toArray) g t l':=by
 unfold Row at h ⊢
 exact setRow_heap w g _ _ t _ h
theorem below_setRow {B : Nat} {a w : World} {g : Nat} {cs : Array Value} (h : Below B a w) (hg : B ≤ g) : Below B a (w.setRow g cs) :=
 h.trans ⟨rfl,rfl,rfl,by simp,fun k hk => by
  simp only [World.setRow,Array.getElem?_modify]
  rw [if_neg (by omega)]⟩
theorem way_round {E : Nat → Nat → Prop} {k i a j : Nat} : ((Way E k a j ∨ (a < i ∧ Way E k a k ∧ Way E k k j)) ∨ (a = i ∧ Way E k a k ∧ (Way E k k j ∨ (k < i ∧ Way E k k k ∧ Way E k k j)))) ↔ (Way E k a j ∨ (a < i + 1 ∧ Way E k a k ∧ Way E k k j)):=by
 constructor
 · rintro ((h | ⟨h1,h2,h3⟩) | ⟨h1,h2,h3⟩)
   · exact .inl h
   · exact .inr ⟨by omega,h2,h3⟩
   · refine .inr ⟨by omega,h2,?_⟩
     rcases h3 with h3 | ⟨_,_,h3⟩
     · exact h3
     · exact h3
 · rintro (h | ⟨h1,h2,h3⟩)
   · exact .inl (.inl h)
   · by_cases e : a = i
     · exact .inr ⟨e,h2,.inl h3⟩
     · exact .inl (.inr ⟨by omega,h2,h3⟩)
set_option maxHeartbeats 16000000 in
theorem leads_any (A : Option Addr) (l : List Gn) (c ov : Nat) (w : World) (hG : Gr w A l) (hl : l.length ≤ 32) (hP : ∀ x ∈ nds l,∀ z ∈ x.ins,portOk (nds l) z) (hov : ov < 4294967296) :
 Calls Tryz.prog 197 #[.slice A l.length c,.int .u32 ov] w (LeadsD (nds l) ov w):=by
 have HG:=Hd hG;have HP:=Hd hP;have HOV:=Hd hov;clear hG hP hov
 have HS0:=Hd (Sets.start w)
 go_enter Tryz.func197,Tryz.ntmps197
 go_wp2_with fail
 go_loopw [14] (fun i wr => ∃ (k : Nat) (M : List Nat),k ≤ l.length ∧ i = .int .i64 k ∧ BitsAre M (fun a j => j < k ∧ FeedsO (nds l) ov a j) ∧ Sets w wr M) (fun i _ => l.length - (intOf i).toNat)
 case atStart => exact ⟨0,_,by omega,rfl,BitsAre.start.congr fun a j _ => by simp,HS0.out⟩
 case round =>
  obtain ⟨k,M,hk,rfl,hM,hS⟩:=hrel
  have HM:=Hd hM;have HS:=Hd hS;clear hM hS HS0
  by_cases hlt : k < l.length
  · have hltz : (k : Int) < (l.length : Int):=by omega
    obtain ⟨x,hx⟩ : ∃ x,l[k]? = some x:=⟨_,List.getElem?_eq_getElem hlt⟩
    have hxn : (nds l)[k]? = some x.nd:=by unfold nds;rw [List.getElem?_map,hx];rfl
    have hpx : ∀ z ∈ x.nd.ins,portOk (nds l) z:=HP.out x.nd (List.mem_of_getElem? hxn)
    have hti:=HG.out.ins hx
    have hxm : x.nd.ins.length ≤ maxLen:=Nat.le_trans (HG.out.ok hx).c.1 (HG.out.ok hx).c.2
    unfold maxLen at hxm
    obtain ⟨⟨xk,xa,xb,xd,xi⟩,xA,xc⟩:=x
    obtain ⟨b,o,rfl,hbl,hcl⟩:=HG.out.at_ hx
    obtain ⟨c0,c1,c2,c3,c4⟩:=hcl wr HS.out.below
    simp only at hxn hpx hti hxm c0 c1 c2 c3 c4
    have HXN:=Hd hxn;have HPX:=Hd hpx;have HTI:=Hd hti;clear hx hxn hpx hti hcl
    go_wp2_with fail
    go_loopw [22] (fun i wx => ∃ (p : Nat) (M : List Nat),p ≤ xi.length ∧ i = .int .i64 p ∧ BitsAre M (SomeF (nds l) ov k (xi.take p)) ∧ Sets w wx M) (fun i _ => xi.length - (intOf i).toNat)
    case atStart => exact ⟨0,M,by omega,rfl,HM.out.congr fun a j _ => by rw [List.take_zero];exact someF_start,HS.out.alloc _⟩
    case round =>
     obtain ⟨p,M,hp,rfl,hM,hS⟩:=hrel
     clear HM HS c0 c1 c2 c3 c4
     have HM:=Hd hM;have HS:=Hd hS;clear hM hS
     by_cases hlp : p < xi.length
     · have hpz : (p : Int) < (xi.length : Int):=by omega
       obtain ⟨z,hz⟩ : ∃ z,xi[p]? = some z:=⟨_,List.getElem?_eq_getElem hlp⟩
       obtain ⟨hz0,y,hy,_⟩:=HPX.out z (List.mem_of_getElem? hz)
       obtain ⟨Z,rfl⟩ : ∃ Z : Nat,z = (Z : Int):=Int.eq_ofNat_of_zero_le hz0
       have hZl : Z < l.length:=by
        rw [Int.toNat_natCast] at hy
        have:=(List.getElem?_eq_some_iff.1 hy).1
        rwa [nds_len] at this
       have hZ32 : (Z : Int) < 32:=by omega
       obtain ⟨bb,oo,rfl,hbb,hq⟩:=ints_at HTI.out hz
       have q0:=hq wr HS.out.below
       have HZ:=Hd hz;clear hy hz hq
       have h1:=pcHas_any ov Z wr HOV.out (by omega)
       have h2:=pcHas_any ov k wr HOV.out (by omega)
       cases e1 : ov.testBit Z with
       | false =>
         rw [e1] at h1
         have H1:=Hd h1;have HN:=Hd (show ¬ (ov.testBit Z = true ∧ ov.testBit k = true) by rw [e1];simp);clear h1 h2 e1
         go_wp2_with fail
         refine H1.out.mono ?_;rintro e w1 ⟨rfl,rfl⟩
         dsimp only
         go_wp2_with fail
         go_roundw
         case rel => exact ⟨p + 1,M,by omega,by simp,HM.out.congr fun a j _ => someF_skip HZ.out HN.out,HS.out⟩
         case measure => simp only [intOf];omega
       | true =>
         rw [e1] at h1
         cases e2 : ov.testBit k with
         | false =>
           rw [e2] at h2
           have H1:=Hd h1;have H2:=Hd h2;have HN:=Hd (show ¬ (ov.testBit Z = true ∧ ov.testBit k = true) by rw [e2];simp);clear h1 h2 e1 e2
           go_wp2_with fail
           refine H1.out.mono ?_;rintro e w1 ⟨rfl,rfl⟩
           dsimp only
           go_wp2_with fail
           refine H2.out.mono ?_;rintro e w1 ⟨rfl,rfl⟩
           dsimp only
           go_wp2_with fail
           go_roundw
           case rel => exact ⟨p + 1,M,by omega,by simp,HM.out.congr fun a j _ => someF_skip HZ.out HN.out,HS.out⟩
           case measure => simp only [intOf];omega
         | true =>
           rw [e2] at h2
           obtain ⟨m,hm,hm32⟩:=HM.out.at_ (a:=Z) (by omega)
           have d0:=HS.out.cell hm
           have f0:=HS.out.row.free Z
           have h3:=pcWith_any m k wr hm32 (by omega)
           have H1:=Hd h1;have H2:=Hd h2;have H3:=Hd h3;have HE1:=Hd e1;have HE2:=Hd e2;have HMZ:=Hd hm;clear h1 h2 h3 e1 e2 hm
           go_wp2_with fail
           refine H1.out.mono ?_;rintro e w1 ⟨rfl,rfl⟩
           dsimp only
           go_wp2_with fail
           refine H2.out.mono ?_;rintro e w1 ⟨rfl,rfl⟩
           dsimp only
           go_wp2_with fail
           refine H3.out.mono ?_;rintro e w1 ⟨rfl,rfl⟩
           dsimp only
           go_wp2_with fail
           go_roundw
           case rel => exact ⟨p + 1,_,by omega,by simp,(HM.out.put HMZ.out (k:=k) (by omega)).congr fun a j _ => someF_put HZ.out HE1.out HE2.out,HS.out.put Z _⟩
           case measure => simp only [intOf];omega
     · have hpz : ¬ (p : Int) < (xi.length : Int):=by omega
       have hpe : p = xi.length:=by omega
       have HPE:=Hd hpe;clear hpe
       go_wp2_with fail
       go_roundw
       case rel => exact ⟨k + 1,M,by omega,by simp,HM.out.congr fun a j _ => by rw [HPE.out,List.take_length];exact someF_end (x:=⟨xk,xa,xb,xd,xi⟩) HXN.out,HS.out⟩
       case measure => simp only [intOf];omega
  · have hltz : ¬ (k : Int) < (l.length : Int):=by omega
    have hke : k = l.length:=by omega
    have HM1 : Hid (BitsAre M (Way (FeedsO (nds l) ov) 0)):=Hd (HM.out.congr fun a j _ => ⟨And.right,fun h => ⟨by have:=(feedsO_lt HP.out h).2;rw [nds_len] at this;omega,h⟩⟩)
    clear HM hke
    go_wp2_with fail
    go_loopw [45] (fun i wx => ∃ (b : Nat) (M : List Nat),b ≤ l.length ∧ i = .int .i64 b ∧ BitsAre M (Way (FeedsO (nds l) ov) b) ∧ Sets w wx M) (fun i _ => l.length - (intOf i).toNat)
    case atStart => exact ⟨0,M,by omega,rfl,HM1.out,HS.out⟩
    case round =>
     obtain ⟨b,M,hb,rfl,hM,hS⟩:=hrel
     clear HM1 HS
     have HM:=Hd hM;have HS:=Hd hS;clear hM hS
     by_cases hltb : b < l.length
     · have hltbz : (b : Int) < (l.length : Int):=by omega
       have hb32 : (b : Int) < 32:=by omega
       go_wp2_with fail
       go_loopw [50] (fun i wx => ∃ (q : Nat) (M : List Nat),q ≤ l.length ∧ i = .int .i64 q ∧ BitsAre M (fun a j => Way (FeedsO (nds l) ov) b a j ∨ (a < q ∧ Way (FeedsO (nds l) ov) b a b ∧ Way (FeedsO (nds l) ov) b b j)) ∧ Sets w wx M) (fun i _ => l.length - (intOf i).toNat)
       case atStart => exact ⟨0,M,by omega,rfl,HM.out.congr fun a j _ => by simp,HS.out⟩
       case round =>
        obtain ⟨q,M,hq,rfl,hM,hS⟩:=hrel
        clear HM HS
        have HM:=Hd hM;have HS:=Hd hS;clear hM hS
        by_cases hltq : q < l.length
        · have hltqz : (q : Int) < (l.length : Int):=by omega
          have hq32 : (q : Int) < 32:=by omega
          obtain ⟨m,hm,hm32⟩:=HM.out.at_ (a:=q) (by omega)
          obtain ⟨n,hn,hn32⟩:=HM.out.at_ (a:=b) (by omega)
          have d0:=HS.out.cell hm
          have d1:=HS.out.cell hn
          have f0:=HS.out.row.free q
          have h1:=pcHas_any m b wr hm32 (by omega)
          have hor:=bits_or32 hm32 hn32
          have his:=HM.out.is q m b hm
          have HMQ:=Hd hm;have HNB:=Hd hn
          cases e1 : m.testBit b with
          | false =>
            rw [e1] at h1 his
            have HN : Hid (¬ Way (FeedsO (nds l) ov) b q b):=Hd fun h => by have:=his.2 (.inl h);cases this
            have H1:=Hd h1;clear h1 his e1 hm hn hor
            go_wp2_with fail
            refine H1.out.mono ?_;rintro e w1 ⟨rfl,rfl⟩
            dsimp only
            go_wp2_with fail
            go_roundw
            case rel => exact ⟨q + 1,M,by omega,by simp,HM.out.congr fun a j _ => ⟨fun h => h.elim .inl fun h => .inr ⟨by omega,h.2⟩,fun h => h.elim .inl fun h => .inr ⟨by have : a ≠ q:=(fun e => HN.out (by rw [← e];exact h.2.1));omega,h.2⟩⟩,HS.out⟩
            case measure => simp only [intOf];omega
          | true =>
            rw [e1] at h1 his
            have HW : Hid (Way (FeedsO (nds l) ov) b q b):=Hd ((his.1 rfl).elim id fun h => absurd h.1 (by omega))
            have H1:=Hd h1;clear h1 his e1 hm hn
            go_wp2_with fail
            refine H1.out.mono ?_;rintro e w1 ⟨rfl,rfl⟩
            dsimp only
            go_wp2_with fail
            go_region
            go_wp2
            go_roundw
            case rel => exact ⟨q + 1,_,by omega,by simp,(HM.out.join HMQ.out HNB.out).congr fun a j _ => ⟨fun h => way_round.1 (h.elim .inl fun h => .inr ⟨h.1,by rw [h.1];exact HW.out,h.2⟩),fun h => (way_round.2 h).elim .inl fun h => .inr ⟨h.1,h.2.2⟩⟩,HS.out.drew.put q _⟩
            case measure => simp only [intOf];omega
        · have hltqz : ¬ (q : Int) < (l.length : Int):=by omega
          have hqe : q = l.length:=by omega
          have HQE:=Hd hqe;clear hqe
          go_wp2_with fail
          go_roundw
          case rel => exact ⟨b + 1,M,by omega,by simp,HM.out.congr fun a j _ => ⟨fun h => h.elim .inl fun h => .inr h.2,fun h => h.elim .inl fun h => .inr ⟨by have:=way_lt HP.out h.1;rw [nds_len] at this;rw [HQE.out];exact this,h⟩⟩,HS.out⟩
          case measure => simp only [intOf];omega
     · have hltbz : ¬ (b : Int) < (l.length : Int):=by omega
       have hbe : b = l.length:=by omega
       have HM2 : Hid (BitsAre M (Plus (FeedsO (nds l) ov))):=Hd (HM.out.congr fun a j _ => by rw [hbe,← nds_len];exact way_iff fun x y h => feedsO_lt HP.out h)
       clear HM hbe
       have hsz : (M.map U32).toArray.size = 32:=by simp [HM2.out.len]
       have hsz0 : ((List.replicate 32 0).map U32).toArray.size = 32:=by simp
       have HSZ:=Hd hsz;have HSZ0:=Hd hsz0;clear hsz hsz0
       have HALL : Hid ((M.map U32).toArray.all (·.oneCell') = true):=Hd (by rw [Array.all_eq_true_iff_forall_mem];intro v hv;simp only [List.mem_toArray,List.mem_map] at hv;obtain ⟨m,_,rfl⟩:=hv;rfl)
       have HD : Hid (Row (wr.setRow w.heap.size (M.map U32).toArray) w.heap.size 240 (M.map U32)):=Hd (setRow_row HS.out.res)
       have HBB:=Hd (below_setRow (cs:=(M.map U32).toArray) HS.out.below (Nat.le_refl _))
       go_wp2_with (first | (refine wpList_load_row rfl _ _ rfl (w.heap.size + 1) rfl _ (M.map U32).toArray (0,0) _ HS.out.row Tryz.underlying240 rfl (by rw [HSZ.out];exact info79) ?_) | (refine wpList_store_row rfl _ _ _ rfl w.heap.size _ rfl rfl _ _ HS.out.res (by rw [HSZ.out];exact info79) (by rw [HSZ.out];exact HSZ0.out) HALL.out ?_))
       refine bodyPost_ret (results_cell_row rfl _ _ w.heap.size _ _ (0,0) _ rfl HD.out Tryz.underlying240 rfl (by rw [HSZ.out];exact info79)) rfl ?_
       exact ⟨⟨M,rfl,HM2.out⟩,HBB.out⟩
end

section
def DeepAt (g : List Nd) (d : Int) (j : Nat) : Prop:=∃ x,g[j]? = some x ∧ d < x.d
theorem stays_bits {g : List Nd} {d : Int} {ov j : Nat} (h : ov.testBit j = true ↔ (LeastAt g d j ∨ DeepAt g d j)) : ov.testBit j = true ↔ ∃ x,g[j]? = some x ∧ x.stays d = true:=by
 rw [h]
 constructor
 · rintro (⟨x,hx,h1,h2⟩ | ⟨x,hx,h1⟩)
   · exact ⟨x,hx,by unfold Nd.stays;rw [decide_eq_true_eq];exact .inr ⟨h1,h2⟩⟩
   · exact ⟨x,hx,by unfold Nd.stays;rw [decide_eq_true_eq];exact .inl h1⟩
 · rintro ⟨x,hx,hs⟩
   unfold Nd.stays at hs;rw [decide_eq_true_eq] at hs
   rcases hs with hs | hs
   · exact .inr ⟨x,hx,hs⟩
   · exact .inl ⟨x,hx,hs⟩
theorem feedsO_eq {g : List Nd} {d : Int} {ov : Nat} (h : ∀ j,ov.testBit j = true ↔ (LeastAt g d j ∨ DeepAt g d j)) : FeedsO g ov = Feeds g d:=by
 funext a b
 apply propext
 unfold FeedsO Feeds
 constructor
 · rintro ⟨y,hy,hin,ha,hb⟩
   obtain ⟨x,hx,hxs⟩:=(stays_bits (h a)).1 ha
   obtain ⟨y',hy',hys⟩:=(stays_bits (h b)).1 hb
   rw [hy] at hy';injection hy' with e;subst e
   exact ⟨x,y,hx,hy,hxs,hys,hin⟩
 · rintro ⟨x,y,hx,hy,hxs,hys,hin⟩
   exact ⟨y,hy,hin,(stays_bits (h a)).2 ⟨x,hx,hxs⟩,(stays_bits (h b)).2 ⟨y,hy,hys⟩⟩
def SetIs (s : Nat) (P : Nat → Prop) : Prop:=s < 4294967296 ∧ ∀ j,s.testBit j = true ↔ P j
theorem SetIs.zero {P : Nat → Prop} (h : ∀ j,¬ P j) : SetIs 0 P:=⟨by omega,fun j => by simp [h j]⟩
theorem SetIs.congr {s : Nat} {P Q : Nat → Prop} (h : SetIs s P) (e : ∀ j,P j ↔ Q j) : SetIs s Q:=⟨h.1,fun j => (h.2 j).trans (e j)⟩
theorem SetIs.put {s k : Nat} {P : Nat → Prop} (h : SetIs s P) (hk : k < 32) : SetIs (s ||| 2 ^ k) (fun j => P j ∨ j = k):=⟨with_lt h.1 hk,fun j => by
 rw [with_test,Bool.or_eq_true,h.2 j,decide_eq_true_eq]
 exact ⟨fun h => h.imp id Eq.symm,fun h => h.imp id Eq.symm⟩⟩
theorem SetIs.join {s t : Nat} {P Q : Nat → Prop} (h : SetIs s P) (h2 : SetIs t Q) : SetIs (s ||| t) (fun j => P j ∨ Q j):=⟨or_lt32 h.1 h2.1,fun j => by rw [Nat.testBit_or,Bool.or_eq_true,h.2 j,h2.2 j]⟩
def Upto (k : Nat) (P : Nat → Prop) (j : Nat) : Prop:=j < k ∧ P j
theorem upto_skip {k j : Nat} {P : Nat → Prop} (h : ¬ P k) : Upto k P j ↔ Upto (k + 1) P j:=by
 unfold Upto
 constructor
 · rintro ⟨h1,h2⟩;exact ⟨by omega,h2⟩
 · rintro ⟨h1,h2⟩
   by_cases e : j = k
   · subst e;exact absurd h2 h
   · exact ⟨by omega,h2⟩
theorem upto_put {k j : Nat} {P : Nat → Prop} (h : P k) : (Upto k P j ∨ j = k) ↔ Upto (k + 1) P j:=by
 unfold Upto
 constructor
 · rintro (⟨h1,h2⟩ | rfl)
   · exact ⟨by omega,h2⟩
   · exact ⟨by omega,h⟩
 · rintro ⟨h1,h2⟩
   by_cases e : j = k
   · exact .inr e
   · exact .inl ⟨by omega,h2⟩
def InBadQ (g : List Nd) (d : Int) (i q : Nat) : Prop:=∃ j,j < q ∧ LeastAt g d j ∧ Plus (Feeds g d) i j ∧ Plus (Feeds g d) j i
def InBadS (g : List Nd) (d : Int) (k q : Nat) (j : Nat) : Prop:=Upto k (InBad g d) j ∨ (j = k ∧ InBadQ g d k q)
theorem inBadS_start {g : List Nd} {d : Int} {k j : Nat} : Upto k (InBad g d) j ↔ InBadS g d k 0 j:=by
 unfold InBadS InBadQ;simp
theorem inBadS_skip {g : List Nd} {d : Int} {k q j : Nat} (h : ¬ (LeastAt g d q ∧ Plus (Feeds g d) k q ∧ Plus (Feeds g d) q k)) : InBadS g d k q j ↔ InBadS g d k (q + 1) j:=by
 unfold InBadS InBadQ
 constructor
 · rintro (h1 | ⟨h1,i,h2,h3⟩)
   · exact .inl h1
   · exact .inr ⟨h1,i,by omega,h3⟩
 · rintro (h1 | ⟨h1,i,h2,h3⟩)
   · exact .inl h1
   · refine .inr ⟨h1,i,?_,h3⟩
     have : i ≠ q:=by rintro rfl;exact h h3
     omega
theorem inBadS_put {g : List Nd} {d : Int} {k q j : Nat} (h : LeastAt g d q ∧ Plus (Feeds g d) k q ∧ Plus (Feeds g d) q k) : (InBadS g d k q j ∨ j = k) ↔ InBadS g d k (q + 1) j:=by
 unfold InBadS InBadQ
 constructor
 · rintro ((h1 | ⟨h1,i,h2,h3⟩) | rfl)
   · exact .inl h1
   · exact .inr ⟨h1,i,by omega,h3⟩
   · exact .inr ⟨rfl,q,by omega,h⟩
 · rintro (h1 | ⟨h1,_⟩)
   · exact .inl (.inl h1)
   · exact .inr h1
theorem inBadS_end {g : List Nd} {d : Int} {k q j : Nat} (hq : q = g.length) : InBadS g d k q j ↔ Upto (k + 1) (InBad g d) j:=by
 have hk : InBadQ g d k q ↔ InBad g d k:=by
  unfold InBadQ InBad
  constructor
  · rintro ⟨i,_,h⟩;exact ⟨i,h⟩
  · rintro ⟨i,h⟩
    obtain ⟨x,hx,_⟩:=h.1
    exact ⟨i,by rw [hq];exact (List.getElem?_eq_some_iff.1 hx).1,h⟩
 unfold InBadS
 rw [hk]
 unfold Upto
 constructor
 · rintro (⟨h1,h2⟩ | ⟨rfl,h2⟩)
   · exact ⟨by omega,h2⟩
   · exact ⟨by omega,h2⟩
 · rintro ⟨h1,h2⟩
   by_cases e : j = k
   · subst e;exact .inr ⟨rfl,h2⟩
   · exact .inl ⟨by omega,h2⟩
theorem inBad_lt {g : List Nd} {d : Int} {j : Nat} (h : InBad g d j) : j < g.length:=by
 obtain ⟨i,_,h1,_⟩:=h
 obtain ⟨b,hb⟩:=h1.first
 exact hb.lt.1
def StuckAtD (g : List Nd) (d : Int) (w : World) (e : Ending) (w' : World) : Prop:=(∃ s : Nat,e = .returned (.int .u32 s) ∧ SetIs s (InBad g d)) ∧ Below w.heap.size w w'
set_option maxHeartbeats 16000000 in
theorem stuckAt_any (A : Option Addr) (l : List Gn) (c : Nat) (d : Int) (w : World) (hG : Gr w A l) (hl : l.length ≤ 32) (hP : ∀ x ∈ nds l,∀ z ∈ x.ins,portOk (nds l) z) :
 Calls Tryz.prog 168 #[.slice A l.length c,.int .i64 d] w (StuckAtD (nds l) d w):=by
 have HG:=Hd hG;have HP:=Hd hP;clear hG hP
 have HB0:=Hd (Below.refl w.heap.size w)
 go_enter Tryz.func168,Tryz.ntmps168
 go_wp2_with fail
 go_loopw [5,6,15] (fun a b i wr => ∃ (k le de : Nat),k ≤ l.length ∧ i = .int .i64 k ∧ a = .int .u32 le ∧ b = .int .u32 de ∧ SetIs le (Upto k (LeastAt (nds l) d)) ∧ SetIs de (Upto k (DeepAt (nds l) d)) ∧ Below w.heap.size w wr) (fun _ _ i _ => l.length - (intOf i).toNat)
 case atStart => exact ⟨0,0,0,by omega,rfl,rfl,rfl,SetIs.zero fun j h => absurd h.1 (by omega),SetIs.zero fun j h => absurd h.1 (by omega),HB0.out⟩
 case round =>
  obtain ⟨k,le,de,hk,rfl,rfl,rfl,hle,hde,hb⟩:=hrel
  have HLE:=Hd hle;have HDE:=Hd hde;have HB:=Hd hb;clear hle hde hb HB0
  by_cases hlt : k < l.length
  · have hltz : (k : Int) < (l.length : Int):=by omega
    obtain ⟨x,hx⟩ : ∃ x,l[k]? = some x:=⟨_,List.getElem?_eq_getElem hlt⟩
    have hxn : (nds l)[k]? = some x.nd:=by unfold nds;rw [List.getElem?_map,hx];rfl
    obtain ⟨⟨xk,xa,xb,xd,xi⟩,xA,xc⟩:=x
    obtain ⟨b,o,rfl,hbl,hcl⟩:=HG.out.at_ hx
    obtain ⟨c0,c1,c2,c3,c4⟩:=hcl wr HB.out
    simp only at hxn c0 c1 c2 c3 c4
    have HXN:=Hd hxn;clear hx hxn hcl
    have hbn:=HB.out.alloc HB.out.size (.cells #[.int .u8 (xk : Nat),.int .u8 (xa : Nat),.int .i64 xb,.int .i64 xd,.slice xA xi.length xc] 58)
    have HBN:=Hd hbn;clear hbn
    by_cases h1 : d < xd
    · have HY : Hid (DeepAt (nds l) d k):=Hd ⟨_,HXN.out,h1⟩
      have HN : Hid (¬ LeastAt (nds l) d k):=Hd fun ⟨y,hy,h2,_⟩ => by rw [HXN.out] at hy;injection hy with hy;subst hy;simp only at h2;omega
      have h3:=pcWith_any de k (wr.alloc (.cells #[.int .u8 (xk : Nat),.int .u8 (xa : Nat),.int .i64 xb,.int .i64 xd,.slice xA xi.length xc] 58)) HDE.out.1 (by omega)
      have H3:=Hd h3;clear h3
      go_wp2_with fail
      refine H3.out.mono ?_;rintro e w1 ⟨rfl,rfl⟩
      dsimp only
      go_wp2_with fail
      go_roundw
      case rel => exact ⟨k + 1,le,_,by omega,by simp,rfl,rfl,HLE.out.congr fun j => upto_skip HN.out,(HDE.out.put (by omega)).congr fun j => upto_put HY.out,HBN.out⟩
      case measure => simp only [intOf];omega
    · have HND : Hid (¬ DeepAt (nds l) d k):=Hd fun ⟨y,hy,h2⟩ => by rw [HXN.out] at hy;injection hy with hy;subst hy;simp only at h2;omega
      by_cases h2 : xd = d
      · subst h2
        by_cases h9 : xk = 9
        · have h9z : (((xk : Nat) : Int) != 9) = false:=by simp;omega
          have HN : Hid (¬ LeastAt (nds l) xd k):=Hd fun ⟨y,hy,_,h3⟩ => by rw [HXN.out] at hy;injection hy with hy;subst hy;exact h3 h9
          clear h9
          go_wp2_with fail
          go_roundw
          case rel => exact ⟨k + 1,le,de,by omega,by simp,rfl,rfl,HLE.out.congr fun j => upto_skip HN.out,HDE.out.congr fun j => upto_skip HND.out,HBN.out⟩
          case measure => simp only [intOf];omega
        · have h9z : (((xk : Nat) : Int) != 9) = true:=by simp;omega
          have HY : Hid (LeastAt (nds l) xd k):=Hd ⟨_,HXN.out,rfl,h9⟩
          clear h9
          have h3:=pcWith_any le k (wr.alloc (.cells #[.int .u8 (xk : Nat),.int .u8 (xa : Nat),.int .i64 xb,.int .i64 xd,.slice xA xi.length xc] 58)) HLE.out.1 (by omega)
          have H3:=Hd h3;clear h3
          go_wp2_with fail
          refine H3.out.mono ?_;rintro e w1 ⟨rfl,rfl⟩
          dsimp only
          go_wp2_with fail
          go_roundw
          case rel => exact ⟨k + 1,_,de,by omega,by simp,rfl,rfl,(HLE.out.put (by omega)).congr fun j => upto_put HY.out,HDE.out.congr fun j => upto_skip HND.out,HBN.out⟩
          case measure => simp only [intOf];omega
      · have h2z : (xd == d) = false:=by rw [beq_eq_false_iff_ne];exact h2
        have HN : Hid (¬ LeastAt (nds l) d k):=Hd fun ⟨y,hy,h3,_⟩ => by rw [HXN.out] at hy;injection hy with hy;subst hy;exact h2 h3
        clear h2
        go_wp2_with fail
        go_roundw
        case rel => exact ⟨k + 1,le,de,by omega,by simp,rfl,rfl,HLE.out.congr fun j => upto_skip HN.out,HDE.out.congr fun j => upto_skip HND.out,HBN.out⟩
        case measure => simp only [intOf];omega
  · have hltz : ¬ (k : Int) < (l.length : Int):=by omega
    have hup : ∀ (P : Nat → Prop),(∀ j,P j → j < (nds l).length) → ∀ j,Upto k P j ↔ P j:=fun P h j => ⟨And.right,fun hp => ⟨by have:=h j hp;rw [nds_len] at this;omega,hp⟩⟩
    have hle:=HLE.out.congr (hup (LeastAt (nds l) d) fun j ⟨x,hx,_⟩ => (List.getElem?_eq_some_iff.1 hx).1)
    have hde:=HDE.out.congr (hup (DeepAt (nds l) d) fun j ⟨x,hx,_⟩ => (List.getElem?_eq_some_iff.1 hx).1)
    have hov:=hle.join hde
    have hor:=bits_or32 hle.1 hde.1
    have hcall:=leads_any A l c (le ||| de) wr (HG.out.below HB.out) hl HP.out hov.1
    unfold LeadsD at hcall
    rw [feedsO_eq hov.2] at hcall
    have HC:=Hd hcall;have HLS:=Hd hle;clear HLE HDE hle hde hov hcall hup hltz hk
    generalize le ||| de = ov at *
    go_wp2_with fail
    refine HC.out.mono ?_;rintro e w1 ⟨⟨M,rfl,hM⟩,hb1⟩
    have hB1:=HB.out.trans (hb1.mono HB.out.size)
    have HM:=Hd hM;have HB1:=Hd hB1;clear hM hb1 hB1 HC HB
    have hsz : (M.map U32).toArray.size = 32:=by simp [HM.out.len]
    have hsz0 : ((List.replicate 32 0).map U32).toArray.size = 32:=by simp
    have HSZ:=Hd hsz;have HSZ0:=Hd hsz0;clear hsz hsz0
    have HALL : Hid ((M.map U32).toArray.all (·.oneCell') = true):=Hd (by rw [Array.all_eq_true_iff_forall_mem];intro v hv;simp only [List.mem_toArray,List.mem_map] at hv;obtain ⟨m,_,rfl⟩:=hv;rfl)
    have HR0:=Hd (Row.made w1 240 ((List.replicate 32 0).map U32))
    have hrow:=setRow_row (l':=M.map U32) HR0.out
    have hbel:=below_setRow (cs:=(M.map U32).toArray) (HB1.out.alloc HB1.out.size (.cells ((List.replicate 32 0).map U32).toArray 240)) HB1.out.size
    have HROW:=Hd hrow;have HBEL:=Hd hbel;clear hrow hbel
    dsimp only
    go_wp2_with (refine wpList_store_row rfl _ _ _ rfl w1.heap.size _ rfl rfl _ _ HR0.out (by rw [HSZ.out];exact info79) (by rw [HSZ.out];exact HSZ0.out) HALL.out ?_)
    go_loopw [10,49] (fun a i wx => ∃ (k s : Nat),k ≤ l.length ∧ i = .int .i64 k ∧ a = .int .u32 s ∧ SetIs s (Upto k (InBad (nds l) d)) ∧ Row wx w1.heap.size 240 (M.map U32) ∧ Below w.heap.size w wx) (fun _ i _ => l.length - (intOf i).toNat)
    case atStart => exact ⟨0,0,by omega,rfl,rfl,SetIs.zero fun j h => absurd h.1 (by omega),HROW.out,HBEL.out⟩
    case round =>
     obtain ⟨k,s,hk,rfl,rfl,hs,hrw,hbw⟩:=hrel
     clear HROW HBEL HR0
     have HS:=Hd hs;have HRW:=Hd hrw;have HBW:=Hd hbw;clear hs hrw hbw
     by_cases hlk : k < l.length
     · have hlkz : (k : Int) < (l.length : Int):=by omega
       go_wp2_with fail
       go_loopw [10,54] (fun a i wx => ∃ (q s : Nat),q ≤ l.length ∧ i = .int .i64 q ∧ a = .int .u32 s ∧ SetIs s (InBadS (nds l) d k q) ∧ Row wx w1.heap.size 240 (M.map U32) ∧ Below w.heap.size w wx) (fun _ i _ => l.length - (intOf i).toNat)
       case atStart => exact ⟨0,s,by omega,rfl,rfl,HS.out.congr fun j => inBadS_start,HRW.out,HBW.out⟩
       case round =>
        obtain ⟨q,s,hq,rfl,rfl,hs,hrw,hbw⟩:=hrel
        clear HS HRW HBW
        have HS:=Hd hs;have HRW:=Hd hrw;have HBW:=Hd hbw;clear hs hrw hbw
        by_cases hlq : q < l.length
        · have hlqz : (q : Int) < (l.length : Int):=by omega
          have hk32 : (k : Int) < 32:=by omega
          have hq32 : (q : Int) < 32:=by omega
          obtain ⟨mk,hmk,hmk32⟩:=HM.out.at_ (a:=k) (by omega)
          obtain ⟨mq,hmq,hmq32⟩:=HM.out.at_ (a:=q) (by omega)
          have d0 : wr.cell? ⟨w1.heap.size,k,none⟩ = some (.int .u32 (mk : Nat)):=by rw [HRW.out.cell,List.getElem?_map,hmk];rfl
          have d1 : wr.cell? ⟨w1.heap.size,q,none⟩ = some (.int .u32 (mq : Nat)):=by rw [HRW.out.cell,List.getElem?_map,hmq];rfl
          have h1:=pcHas_any le q wr HLS.out.1 (by omega)
          have h2:=pcHas_any mk q wr hmk32 (by omega)
          have h3:=pcHas_any mq k wr hmq32 (by omega)
          have i1:=HLS.out.2 q
          have i2:=HM.out.is k mk q hmk
          have i3:=HM.out.is q mq k hmq
          clear hmk hmq hmk32 hmq32
          cases e1 : le.testBit q with
          | false =>
            rw [e1] at h1 i1
            have HN : Hid (¬ (LeastAt (nds l) d q ∧ Plus (Feeds (nds l) d) k q ∧ Plus (Feeds (nds l) d) q k)):=Hd fun h => by have:=i1.2 h.1;cases this
            have H1:=Hd h1;clear h1 h2 h3 i1 i2 i3 e1
            go_wp2_with fail
            refine H1.out.mono ?_;rintro e w3 ⟨rfl,rfl⟩
            dsimp only
            go_wp2_with fail
            go_roundw
            case rel => exact ⟨q + 1,s,by omega,by simp,rfl,HS.out.congr fun j => inBadS_skip HN.out,HRW.out,HBW.out⟩
            case measure => simp only [intOf];omega
          | true =>
            rw [e1] at h1 i1
            cases e2 : mk.testBit q with
            | false =>
              rw [e2] at h2 i2
              have HN : Hid (¬ (LeastAt (nds l) d q ∧ Plus (Feeds (nds l) d) k q ∧ Plus (Feeds (nds l) d) q k)):=Hd fun h => by have:=i2.2 h.2.1;cases this
              have H1:=Hd h1;have H2:=Hd h2;clear h1 h2 h3 i1 i2 i3 e1 e2
              go_wp2_with fail
              refine H1.out.mono ?_;rintro e w3 ⟨rfl,rfl⟩
              dsimp only
              go_wp2_with fail
              refine H2.out.mono ?_;rintro e w3 ⟨rfl,rfl⟩
              dsimp only
              go_wp2_with fail
              go_roundw
              case rel => exact ⟨q + 1,s,by omega,by simp,rfl,HS.out.congr fun j => inBadS_skip HN.out,HRW.out,HBW.out⟩
              case measure => simp only [intOf];omega
            | true =>
              rw [e2] at h2 i2
              cases e3 : mq.testBit k with
              | false =>
                rw [e3] at h3 i3
                have HN : Hid (¬ (LeastAt (nds l) d q ∧ Plus (Feeds (nds l) d) k q ∧ Plus (Feeds (nds l) d) q k)):=Hd fun h => by have:=i3.2 h.2.2;cases this
                have H1:=Hd h1;have H2:=Hd h2;have H3:=Hd h3;clear h1 h2 h3 i1 i2 i3 e1 e2 e3
                go_wp2_with fail
                refine H1.out.mono ?_;rintro e w3 ⟨rfl,rfl⟩
                dsimp only
                go_wp2_with fail
                refine H2.out.mono ?_;rintro e w3 ⟨rfl,rfl⟩
                dsimp only
                go_wp2_with fail
                refine H3.out.mono ?_;rintro e w3 ⟨rfl,rfl⟩
                dsimp only
                go_wp2_with fail
                go_roundw
                case rel => exact ⟨q + 1,s,by omega,by simp,rfl,HS.out.congr fun j => inBadS_skip HN.out,HRW.out,HBW.out⟩
                case measure => simp only [intOf];omega
              | true =>
                rw [e3] at h3 i3
                have HY : Hid (LeastAt (nds l) d q ∧ Plus (Feeds (nds l) d) k q ∧ Plus (Feeds (nds l) d) q k):=Hd ⟨i1.1 rfl,i2.1 rfl,i3.1 rfl⟩
                have h4:=pcWith_any s k wr HS.out.1 (by omega)
                have H1:=Hd h1;have H2:=Hd h2;have H3:=Hd h3;have H4:=Hd h4;clear h1 h2 h3 h4 i1 i2 i3 e1 e2 e3
                go_wp2_with fail
                refine H1.out.mono ?_;rintro e w3 ⟨rfl,rfl⟩
                dsimp only
                go_wp2_with fail
                refine H2.out.mono ?_;rintro e w3 ⟨rfl,rfl⟩
                dsimp only
                go_wp2_with fail
                refine H3.out.mono ?_;rintro e w3 ⟨rfl,rfl⟩
                dsimp only
                go_wp2_with fail
                refine H4.out.mono ?_;rintro e w3 ⟨rfl,rfl⟩
                dsimp only
                go_wp2_with fail
                go_roundw
                case rel => exact ⟨q + 1,_,by omega,by simp,rfl,(HS.out.put (by omega)).congr fun j => inBadS_put HY.out,HRW.out,HBW.out⟩
                case measure => simp only [intOf];omega
        · have hlqz : ¬ (q : Int) < (l.length : Int):=by omega
          have hqe : q = l.length:=by omega
          have HQE:=Hd hqe;clear hqe
          go_wp2_with fail
          go_roundw
          case rel => exact ⟨k + 1,s,by omega,by simp,rfl,HS.out.congr fun j => inBadS_end (by rw [nds_len];exact HQE.out),HRW.out,HBW.out⟩
          case measure => simp only [intOf];omega
     · have hlkz : ¬ (k : Int) < (l.length : Int):=by omega
       have HSE : Hid (SetIs s (InBad (nds l) d)):=Hd (HS.out.congr fun j => ⟨And.right,fun h => ⟨by have:=inBad_lt h;rw [nds_len] at this;omega,h⟩⟩)
       clear HS
       go_wp2_with fail
       go_ret
       exact ⟨⟨s,rfl,HSE.out⟩,HBW.out⟩
def StuckD (g : List Nd) (w : World) (e : Ending) (w' : World) : Prop:=(∃ s : Nat,e = .returned (.int .u32 s) ∧ SetIs s (fun j => ∃ d : Nat,d < 4 ∧ InBad g d j)) ∧ Below w.heap.size w w'
set_option maxHeartbeats 8000000 in
theorem stuck_any (A : Option Addr) (l : List Gn) (c : Nat) (w : World) (hG : Gr w A l) (hl : l.length ≤ 32) (hP : ∀ x ∈ nds l,∀ z ∈ x.ins,portOk (nds l) z) :
 Calls Tryz.prog 101 #[.slice A l.length c] w (StuckD (nds l) w):=by
 have HC:=Hd fun (d : Nat) (wr : World) (hb : Below w.heap.size w wr) => stuckAt_any A l c d wr (hG.below hb) hl hP
 have HB0:=Hd (Below.refl w.heap.size w)
 clear hG hP
 go_enter Tryz.func101,Tryz.ntmps101
 go_wp2_with fail
 go_loopw [3,5] (fun a i wr => ∃ (k s : Nat),k ≤ 4 ∧ i = .int .i64 k ∧ a = .int .u32 s ∧ SetIs s (fun j => ∃ d : Nat,d < k ∧ InBad (nds l) d j) ∧ Below w.heap.size w wr) (fun _ i _ => 4 - (intOf i).toNat)
 case atStart => exact ⟨0,0,by omega,rfl,rfl,SetIs.zero fun j ⟨d,h,_⟩ => absurd h (by omega),HB0.out⟩
 case round =>
  obtain ⟨k,s,hk,rfl,rfl,hs,hb⟩:=hrel
  have HS:=Hd hs;have HB:=Hd hb;clear hs hb HB0
  by_cases hlt : k < 4
  · have hltz : (k : Int) < 4:=by omega
    have HK:=Hd (HC.out k wr HB.out)
    go_wp2_with fail
    refine HK.out.mono ?_;rintro e w1 ⟨⟨t,rfl,ht⟩,hb1⟩
    have hor:=bits_or32 HS.out.1 ht.1
    have HT:=Hd ht;have HB1:=Hd (HB.out.trans (hb1.mono HB.out.size));clear ht hb1
    dsimp only
    go_wp2_with fail
    go_roundw
    case rel => exact ⟨k + 1,s ||| t,by omega,by simp,rfl,(HS.out.join HT.out).congr fun j => ⟨fun h => h.elim (fun ⟨d,h1,h2⟩ => ⟨d,by omega,h2⟩) fun h => ⟨k,by omega,h⟩,fun ⟨d,h1,h2⟩ => by
     by_cases e : d = k
     · subst e;exact .inr h2
     · exact .inl ⟨d,by omega,h2⟩⟩,HB1.out⟩
    case measure => simp only [intOf];omega
  · have hltz : ¬ (k : Int) < 4:=by omega
    have hke : k = 4:=by omega
    subst hke
    go_wp2_with fail
    go_ret
    exact ⟨⟨s,rfl,HS.out⟩,HB.out⟩
end
end Go.Proofs.YtonelpnhoiajgaaGreatDoor
