import Derived.Test.YtonelpnhoiajgaaGreatDoorHd
import Derived.Test.YtonelpnhoiajgaaGreatDoorCa3
import Derived.Deep.Slices
import Derived.SizedLaws
import Derived.Test.YtonelpnhoiajgaaGreatDoorCa0
import Derived.Lib.Hide
import Derived.BigRegion
import Derived.RegionTactic
import Derived.ChangeAlike
import Derived.Deep.DeepCutAuto
import Derived.Deep.CutRange
import Derived.Deep.RegionHeld3
import Derived.Deep.RegionLaw
import Derived.Deep.AppendLies
import Derived.IntWalk
namespace Go.Proofs.YtonelpnhoiajgaaGreatDoor
set_option linter.unusedSimpArgs false
set_option linter.unusedVariables false
set_option maxRecDepth 100000
open Go.ChangeShapes Go.WideShapes Go.ChangeAt Go.RowKit Go.BigFrame
section
theorem i64_wf {n : Int} (h : (Lit.int .i64 n).wf = true) : -9223372036854775808 ≤ n ∧ n ≤ 9223372036854775807:=by
 simpa [Lit.wf,IntKind.min,IntKind.max,IntKind.signed,IntKind.bits] using h
theorem plain_addr {w : World} {a : Addr} {v : Value} (h : w.cell? a = some v) : ∃ b off,a = ⟨b,off,none⟩:=by
 obtain ⟨b,off,spot⟩:=a
 cases spot with
 | none => exact ⟨b,off,rfl⟩
 | some q =>
   exfalso
   unfold World.cell? at h
   cases hh : w.heap[b]? with
   | none => simp [hh] at h
   | some o => cases o <;> simp [hh] at h
theorem row_ints : ∀ (l : List Int),Rw.row kindI l = l.map (Value.int .i64)
 | [] => rfl
 | x :: l => by rw [Rw.row_cons,row_ints l];rfl
theorem row_read {α : Type} {κ : Kind α} {f : Nat → Option Value} : ∀ {ts : List α},(∀ (i : Nat) (t : α),ts[i]? = some t → ∀ (j : Nat) (u : Value),(κ.cells t)[j]? = some u → f (i * κ.K + j) = some u) → ∀ (j : Nat) (u : Value),(Rw.row κ ts)[j]? = some u → f j = some u:=by
 intro ts
 induction ts generalizing f with
 | nil => intro _ j u h;simp [Rw.row] at h
 | cons t ts ih =>
   intro h j u hj
   rw [Rw.row_cons] at hj
   by_cases hlt : j < κ.K
   · rw [List.getElem?_append_left (by rw [κ.len];exact hlt)] at hj
     have:=h 0 t rfl j u hj
     rwa [Nat.zero_mul,Nat.zero_add] at this
   · rw [List.getElem?_append_right (by rw [κ.len];omega),κ.len] at hj
     have:=ih (f:=fun j => f (κ.K + j)) (fun i t' ht j' u' hu => by
      have:=h (i + 1) t' (by simpa using ht) j' u' hu
      rwa [Nat.succ_mul,show i * κ.K + κ.K + j' = κ.K + (i * κ.K + j') by omega] at this) (j - κ.K) u hj
     rwa [show κ.K + (j - κ.K) = j by omega] at this
section
variable {H : Type} {enc : TypeId × Value → H}
section
variable {P : Program} {w : World} {base : Nat} {spare : Nat → Bool} {held : Bool}
theorem trod_struct5 {t : TypeId} {f0 f1 f2 f3 f4 : Field} {fuel : Nat} {cs : List Value} {x : DataW H × List MemPlace} (ht : P.underlying t = some (.struct #[f0,f1,f2,f3,f4])) (h : DataW.trod enc P w base spare held fuel t cs = some x) :
 ∃ y0 y1 y2 y3 y4 n,x.1 = .agg [y0.1,y1.1,y2.1,y3.1,y4.1] ∧ cs.length = P.cellsOf t ∧ DataW.trod enc P w base spare held n f0.type ((cs.drop f0.offset).take (P.cellsOf f0.type)) = some y0 ∧
   DataW.trod enc P w base spare held n f1.type ((cs.drop f1.offset).take (P.cellsOf f1.type)) = some y1 ∧ DataW.trod enc P w base spare held n f2.type ((cs.drop f2.offset).take (P.cellsOf f2.type)) = some y2 ∧
   DataW.trod enc P w base spare held n f3.type ((cs.drop f3.offset).take (P.cellsOf f3.type)) = some y3 ∧ DataW.trod enc P w base spare held n f4.type ((cs.drop f4.offset).take (P.cellsOf f4.type)) = some y4:=by
 obtain ⟨xs,n,_,rfl,hl,hlen,hf⟩:=DataW.trod_struct ht h
 match xs,hlen with
 | [y0,y1,y2,y3,y4],_ => exact ⟨y0,y1,y2,y3,y4,n,by simp,hl,by simpa using hf 0 f0 rfl,by simpa using hf 1 f1 rfl,by simpa using hf 2 f2 rfl,by simpa using hf 3 f3 rfl,by simpa using hf 4 f4 rfl⟩
end
theorem cell_add {b off i j : Nat} : ((⟨b,off,none⟩ : Addr).add i).add j = ⟨b,off + i + j,none⟩:=by rw [add_at,add_at]
theorem cells_int : Tryz.prog.cellsOf 3 = 1:=by kernel_rfl
theorem trod_ints {W : World} {n : Nat} {cs : List Value} {y : DataW H × List MemPlace} (h4 : DataW.trod enc Tryz.prog W 0 (fun _ => true) true n 56 cs = some y) :
 ∃ (KA : Option Addr) (ks : List Int) (kc : Nat),cs = [.slice KA ks.length kc] ∧ Rw.Ts kindI W KA ks ∧ (∀ z ∈ ks,-9223372036854775808 ≤ z ∧ z ≤ 9223372036854775807) ∧ ks.length ≤ kc ∧ kc ≤ maxLen ∧ (KA = none → kc = 0):=by
 rcases open_ints Tryz.underlying56 Tryz.underlying3 cells_int h4 with ⟨hcs,_⟩ | ⟨ka,klen,kcap,zs,hcs,_,hkl,hkm,hkz,_,hkcell,hkw⟩
 · exact ⟨none,[],0,hcs,Rw.Ts.nil,by simp,by simp,by simp,fun _ => rfl⟩
 · simp only [if_true] at hkz
   have hlen : (zs.take klen).length = klen:=by simp;omega
   refine ⟨some ka,zs.take klen,kcap,by rw [hlen];exact hcs,fun h0 => ?_,fun z hz => i64_wf (hkw z (List.mem_of_mem_take hz)),by omega,hkm,by simp⟩
   have hc1:=hkcell 0 (by omega)
   have hlt:=cell_lt hc1
   rw [add_block] at hlt
   obtain ⟨b,off,rfl⟩ : ∃ b off,ka = ⟨b,off,none⟩:=by
    obtain ⟨b,off,e⟩:=plain_addr hc1
    obtain ⟨b',off',spot⟩:=ka
    simp [Addr.add] at e
    exact ⟨b',off',by rw [e.2.2]⟩
   refine ⟨b,off,rfl,hlt,fun j u hj => ?_⟩
   rw [row_ints,List.getElem?_map,Option.map_eq_some_iff] at hj
   obtain ⟨z,hj,rfl⟩:=hj
   have hj':=(List.getElem?_eq_some_iff.1 hj).1
   have h2:=hkcell j (by simp at hj';omega)
   rw [add_at] at h2
   rw [h2]
   rw [List.getElem?_take] at hj
   split at hj
   · simp [List.getD_eq_getElem?_getD,hj]
   · cases hj
set_option maxRecDepth 100000 in
set_option maxHeartbeats 4000000 in
theorem open_graph {W : World} {base : Nat} {v : Value} {d : DataW H} {p : List MemPlace} (hok : Value.okWide Tryz.prog W .any base 23 v)
 (h : DataW.Trod enc Tryz.prog W 0 (fun _ => true) true 23 v d p) :
 ∃ (A : Option Addr) (l : List Gn) (c : Nat),v = .slice A l.length c ∧ Gr W A l ∧ l.length ≤ c ∧ c ≤ maxLen ∧ (A = none → c = 0):=by
 obtain ⟨A0,len,cap,rfl⟩:=okWide_slice Tryz.underlying23 hok
 obtain ⟨fuel,hf⟩:=h
 rcases Go.Deep.open_slice Tryz.underlying23 hf with ⟨hcs,_⟩ | ⟨a,len',cap',m,n,D,Pl,hcs,_,hl,hm,hmm,hx,hi⟩
 · simp [Value.cells] at hcs
   obtain ⟨rfl,rfl,rfl⟩:=hcs
   exact ⟨none,[],0,rfl,Gr.nil,by simp,by simp,fun _ => rfl⟩
 · simp [Value.cells] at hcs
   obtain ⟨rfl,rfl,rfl⟩:=hcs
   simp only [if_true] at hmm
   subst hmm
   rw [show Tryz.prog.cellsOf 58 = 5 by kernel_rfl] at hi
   have key : ∀ i,i < len → ∃ x : Gn,(x.Ok ∧ Rw.Ts kindI W x.A x.nd.ins) ∧ W.cell? ((a.add (i * 5)).add 0) = some (.int .u8 (x.nd.k : Nat)) ∧ W.cell? ((a.add (i * 5)).add 1) = some (.int .u8 (x.nd.a : Nat)) ∧ W.cell? ((a.add (i * 5)).add 2) = some (.int .i64 x.nd.b) ∧ W.cell? ((a.add (i * 5)).add 3) = some (.int .i64 x.nd.d) ∧ W.cell? ((a.add (i * 5)).add 4) = some (.slice x.A x.nd.ins.length x.c):=by
    intro i hlt
    obtain ⟨cs',hc,ht⟩:=hi i (by omega)
    obtain ⟨_,hcl,hat⟩:=World.cells?_some hc
    obtain ⟨y0,y1,y2,y3,y4,n',hy,_,h0,h1,h2,h3,h4⟩:=trod_struct5 Tryz.underlying58 ht
    obtain ⟨u,e0,ey0,w0⟩:=DataW.trod_int Tryz.underlying5 h0
    obtain ⟨u',e1,ey1,w1⟩:=DataW.trod_int Tryz.underlying5 h1
    obtain ⟨z',e2,ey2,w2⟩:=DataW.trod_int Tryz.underlying2 h2
    obtain ⟨z,e3,ey3,w3⟩:=DataW.trod_int Tryz.underlying3 h3
    obtain ⟨KA,ks,kc,e4,hK,hkz,hk1,hk2,hkn⟩:=trod_ints h4
    obtain ⟨k,rfl⟩:=Int.eq_ofNat_of_zero_le (u8_wf w0).1
    have hu:=(u8_wf w0).2
    obtain ⟨k',rfl⟩:=Int.eq_ofNat_of_zero_le (u8_wf w1).1
    have hu':=(u8_wf w1).2
    match cs',hcl,e0,e1,e2,e3,e4,hat with
    | [c0,c1,c2,c3,c4],_,e0,e1,e2,e3,e4,hat =>
      rw [show Tryz.prog.cellsOf 5 = 1 by kernel_rfl] at e0 e1
      rw [show Tryz.prog.cellsOf 2 = 1 by kernel_rfl] at e2
      rw [show Tryz.prog.cellsOf 3 = 1 by kernel_rfl] at e3
      rw [show Tryz.prog.cellsOf 56 = 1 by kernel_rfl] at e4
      simp at e0 e1 e2 e3 e4
      subst e0;subst e1;subst e2;subst e3;subst e4
      exact ⟨⟨⟨k,k',z',z,ks⟩,KA,kc⟩,⟨⟨by show k < 256;omega,by show k' < 256;omega,i64_wf w2,i64_wf w3,hkz,⟨hk1,hk2⟩,hkn⟩,hK⟩,hat 0 (by omega),hat 1 (by omega),hat 2 (by omega),hat 3 (by omega),hat 4 (by omega)⟩
   let f : Nat → Gn:=fun i => if h : i < len then Classical.choose (key i h) else ⟨⟨0,0,0,0,[]⟩,none,0⟩
   have hf' : ∀ i (h : i < len),f i = Classical.choose (key i h):=fun i h => by simp only [f];rw [dif_pos h]
   have hspec:=fun i (h : i < len) => (by rw [hf' i h];exact Classical.choose_spec (key i h) :
    (((f i).Ok ∧ Rw.Ts kindI W (f i).A (f i).nd.ins) ∧ W.cell? ((a.add (i * 5)).add 0) = some (.int .u8 ((f i).nd.k : Nat)) ∧ W.cell? ((a.add (i * 5)).add 1) = some (.int .u8 ((f i).nd.a : Nat)) ∧ W.cell? ((a.add (i * 5)).add 2) = some (.int .i64 (f i).nd.b) ∧ W.cell? ((a.add (i * 5)).add 3) = some (.int .i64 (f i).nd.d) ∧ W.cell? ((a.add (i * 5)).add 4) = some (.slice (f i).A (f i).nd.ins.length (f i).c)))
   refine ⟨some a,(List.range len).map f,m,by simp,⟨fun hn => ?_,fun t ht => ?_⟩,by simp;omega,by unfold maxLen at hm ⊢;omega,by simp⟩
   · have hlen : 0 < len:=by simpa using hn
     have h0:=(hspec 0 hlen).2.1
     have hlt:=cell_lt h0
     rw [add_block,add_block] at hlt
     obtain ⟨b,off,rfl⟩ : ∃ b off,a = ⟨b,off,none⟩:=by
      obtain ⟨b,off,e⟩:=plain_addr h0
      obtain ⟨b',off',spot⟩:=a
      simp [Addr.add] at e
      exact ⟨b',off',by rw [e.2.2]⟩
     refine ⟨b,off,rfl,hlt,fun j u hj => ?_⟩
     refine row_read (κ:=kindG) (f:=fun j => W.cell? ⟨b,off + j,none⟩) (fun i t ht j u hu => ?_) j u hj
     have hil : i < len:=by simpa using (List.getElem?_eq_some_iff.1 ht).1
     rw [List.getElem?_map,List.getElem?_range hil] at ht
     obtain rfl : f i = t:=by simpa using ht
     obtain ⟨_,h1,h2,h3,h4,h5⟩:=hspec i hil
     rw [cell_add] at h1 h2 h3 h4 h5
     show W.cell? ⟨b,off + (i * 5 + j),none⟩ = _
     rw [← Nat.add_assoc]
     match j,hu with
     | 0,hu => rw [h1];exact hu
     | 1,hu => rw [h2];exact hu
     | 2,hu => rw [h3];exact hu
     | 3,hu => rw [h4];exact hu
     | 4,hu => rw [h5];exact hu
     | j + 5,hu => simp [kindG] at hu
   · obtain ⟨i,hi2,rfl⟩:=List.mem_map.1 ht
     exact (hspec i (List.mem_range.1 hi2)).1
end
end

section
theorem retb {a b : Bool} (h : a = b) : Ending.returned (.bool a) = .returned (.bool b):=by rw [h]
def insB (l : List Nd) (T : Int) : Bool:=decide ((l.length : Int) ≤ T ∧ ∀ x ∈ l,(x.ins.length : Int) ≤ T)
theorem insB_no1 {l : List Gn} {T : Int} (h : T < (l.length : Int)) : false = insB (nds l) T:=by
 unfold insB nds;rw [decide_eq_false];rw [List.length_map];omega
theorem insB_no2 {l : List Gn} {T : Int} {i : Nat} {x : Gn} (hi : l[i]? = some x) (h : T < (x.nd.ins.length : Int)) : false = insB (nds l) T:=by
 unfold insB nds;rw [decide_eq_false]
 intro hh
 have:=hh.2 x.nd (List.mem_map.2 ⟨x,List.mem_of_getElem? hi,rfl⟩)
 omega
theorem insB_yes {l : List Gn} {T : Int} (h0 : ¬ T < (l.length : Int)) (h : ∀ (j : Nat) (x : Gn),j < l.length → l[j]? = some x → (x.nd.ins.length : Int) ≤ T) : true = insB (nds l) T:=by
 unfold insB nds;rw [decide_eq_true]
 refine ⟨by rw [List.length_map];omega,fun y hy => ?_⟩
 obtain ⟨x,hx,rfl⟩:=List.mem_map.1 hy
 obtain ⟨j,hj⟩:=List.getElem?_of_mem hx
 exact h j x (List.getElem?_eq_some_iff.1 hj).1 hj
set_option maxHeartbeats 1000000 in
theorem ins_any (A : Option Addr) (l : List Gn) (c : Nat) (T : Int) (w : World) (hG : Gr w A l) (hl : l.length ≤ maxLen) :
 Calls Tryz.prog 22 #[.slice A l.length c,.int .i64 T] w fun e w' => e = .returned (.bool (insB (nds l) T)) ∧ w = w':=by
 unfold maxLen at hl
 have HG:=Hd hG;clear hG
 by_cases h0 : T < (l.length : Int)
 · go_enter Tryz.func22,Tryz.ntmps22
   go_wp2_with fail
   go_ret
   exact ⟨retb (insB_no1 h0),rfl⟩
 · go_enter Tryz.func22,Tryz.ntmps22
   go_wp2_with fail
   go_loop [5] (fun i => ∃ k : Nat,k ≤ l.length ∧ i = .int .i64 k ∧ ∀ (j : Nat) (x : Gn),j < k → l[j]? = some x → (x.nd.ins.length : Int) ≤ T) (fun i => l.length - (intOf i).toNat)
   case atStart => exact ⟨0,by omega,rfl,fun j x h => absurd h (by omega)⟩
   case round =>
    obtain ⟨k,hk,rfl,hall⟩:=hrel
    have HA:=Hd hall;clear hall
    by_cases hlt : k < l.length
    · have hltz : (k : Int) < (l.length : Int):=by omega
      obtain ⟨x,hx⟩ : ∃ x,l[k]? = some x:=⟨_,List.getElem?_eq_getElem hlt⟩
      obtain ⟨b,o,rfl,hbl,hcl⟩:=HG.out.at_ hx
      obtain ⟨_,_,_,_,c4⟩:=hcl w (Below.refl _ _)
      have HX:=Hd hx;clear hx hcl
      by_cases h2 : T < (x.nd.ins.length : Int)
      · go_wp2_with fail
        go_ret
        exact ⟨retb (insB_no2 HX.out h2),rfl⟩
      · go_wp2_with fail
        go_round
        case rel =>
         refine ⟨k + 1,by omega,by simp,fun j y hj hy => ?_⟩
         by_cases e : j = k
         · subst e
           rw [HX.out] at hy;cases hy
           omega
         · exact HA.out j y (by omega) hy
        case measure => simp [intOf];omega
    · have hltz : ¬ (k : Int) < (l.length : Int):=by omega
      have hkl : k = l.length:=by omega
      have HK:=Hd hkl;clear hkl
      go_wp2_with fail
      go_ret
      exact ⟨retb (insB_yes (by omega) (by have:=HA.out;rw [HK.out] at this;exact this)),rfl⟩
structure OwnG (w : World) (base : Nat) (v : Value) (l : List Gn) : Prop where
 row : w.ownsRow base 58 kindG.K v l.length (Rw.row kindG l)
 ok : ∀ x ∈ l,x.Ok
 ins : ∀ x ∈ l,w.ownsRow base 3 kindI.K (.slice x.A x.nd.ins.length x.c) x.nd.ins.length (Rw.row kindI x.nd.ins)
section
variable {w w' : World} {base : Nat} {v : Value} {l : List Gn}
theorem OwnG.alloc (h : OwnG w base v l) (o : Obj) : OwnG (w.alloc o) base v l:=⟨h.row.alloc o,h.ok,fun x hx => (h.ins x hx).alloc o⟩
theorem OwnG.below (h : OwnG w base v l) (hb : Below w.heap.size w w') : OwnG w' base v l:=⟨Rw.own_kept h.row hb,h.ok,fun x hx => Rw.own_kept (h.ins x hx) hb⟩
theorem OwnG.gr (h : OwnG w base v l) : ∃ A c,v = .slice A l.length c ∧ Gr w A l ∧ l.length ≤ c ∧ c ≤ maxLen ∧ (A = none → c = 0):=by
 obtain ⟨A,c,e,hT,h1,h2,h3,_⟩:=Rw.Ts.of_own h.row
 refine ⟨A,c,e,⟨hT,fun x hx => ⟨h.ok x hx,?_⟩⟩,h1,h2,h3⟩
 obtain ⟨A',c',e',hT',_⟩:=Rw.Ts.of_own (h.ins x hx)
 cases e'
 exact hT'
end
theorem grown_set (w : World) (b o : Nat) (v : Value) : w.grownBy (w.setCell ⟨b,o,none⟩ v) (some b) :=
 ⟨rfl,rfl,rfl,by simp [World.setCell],fun k _ hk => Below.heap_setCell _ _ _ _ (fun e => hk (by rw [e]))⟩
def OwnedG (l : List Gn) (w : World) (e : Ending) (w' : World) : Prop:=(∃ v l',e = .returned v ∧ nds l' = nds l ∧ OwnG w' w.heap.size v l') ∧ Below w.heap.size w w'
end

section
theorem made2 (w : World) (o : Obj) (t : TypeId) (l : List Value) : Row ((w.alloc o).alloc (.cells l.toArray t)) (w.heap.size + 1) t l:=by
 have:=Row.made (w.alloc o) t l
 rwa [show (w.alloc o).heap.size = w.heap.size + 1 by simp] at this
end

section
noncomputable def mayB (g : List Nd) : Bool:=@decide (GMay g) (Classical.propDecidable _)
theorem mayB_iff {g : List Nd} : mayB g = true ↔ GMay g:=by unfold mayB;exact @decide_eq_true_iff _ (Classical.propDecidable _)
theorem mayB_no {g : List Nd} (h : ¬ GMay g) : false = mayB g:=by
 cases e : mayB g with
 | true => exact absurd (mayB_iff.1 e) h
 | false => rfl
theorem mayB_yes {g : List Nd} (h : GMay g) : true = mayB g:=(mayB_iff.2 h).symm
theorem may_node {l : List Gn} {k : Nat} {x : Gn} (hx : l[k]? = some x) (h : ¬ x.nd.May) : ¬ GMay (nds l):=fun hh => h (hh.2 x.nd (List.mem_map.2 ⟨x,List.mem_of_getElem? hx,rfl⟩))
theorem may_all {l : List Gn} (h : ∀ (j : Nat) (x : Gn),l[j]? = some x → x.nd.May) : ∀ n ∈ nds l,n.May:=by
 intro n hn
 obtain ⟨x,hx,rfl⟩:=List.mem_map.1 hn
 obtain ⟨j,hj⟩:=List.getElem?_of_mem hx
 exact h j x hj
theorem nds_len (l : List Gn) : (nds l).length = l.length:=by unfold nds;rw [List.length_map]
set_option maxHeartbeats 4000000 in
theorem refMay_any (A : Option Addr) (l : List Gn) (c : Nat) (w : World) (hG : Gr w A l) (hl : l.length ≤ maxLen) :
 Calls Tryz.prog 134 #[.slice A l.length c] w fun e w' => e = .returned (.bool (mayB (nds l))) ∧ w = w':=by
 unfold maxLen at hl
 have HG:=Hd hG;clear hG
 go_enter Tryz.func134,Tryz.ntmps134
 go_wp2_with fail
 go_loop [3] (fun i => ∃ k : Nat,k ≤ l.length ∧ i = .int .i64 k ∧ ∀ (j : Nat) (x : Gn),j < k → l[j]? = some x → x.nd.May) (fun i => l.length - (intOf i).toNat)
 case atStart => exact ⟨0,by omega,rfl,fun j x h => absurd h (by omega)⟩
 case round =>
  obtain ⟨k,hk,rfl,hall⟩:=hrel
  have HA:=Hd hall;clear hall
  by_cases hlt : k < l.length
  · have hltz : (k : Int) < (l.length : Int):=by omega
    obtain ⟨x,hx⟩ : ∃ x,l[k]? = some x:=⟨_,List.getElem?_eq_getElem hlt⟩
    obtain ⟨⟨xk,xa,xb,xd,xi⟩,xA,xc⟩:=x
    obtain ⟨b,o,rfl,hbl,hcl⟩:=HG.out.at_ hx
    obtain ⟨_,_,_,c3,c4⟩:=hcl w (Below.refl _ _)
    simp only at c3 c4
    have hxm : xi.length ≤ 9223372036854775807:=by have h1:=(HG.out.ok hx).c;unfold maxLen at h1;simp only at h1;omega
    have HX:=Hd hx;clear hx hcl
    by_cases h1 : xd < 0
    · go_wp2_with fail
      go_ret
      exact ⟨retb (mayB_no (may_node HX.out fun h => by have:=h.1.1;simp only at this;omega)),rfl⟩
    · by_cases h2 : 3 < xd
      · go_wp2_with fail
        go_ret
        exact ⟨retb (mayB_no (may_node HX.out fun h => by have:=h.1.2;simp only at this;omega)),rfl⟩
      · by_cases h3 : 2 < (xi.length : Int)
        · go_wp2_with fail
          go_ret
          exact ⟨retb (mayB_no (may_node HX.out fun h => by have:=h.2.1;simp only at this;omega)),rfl⟩
        · go_wp2_with fail
          go_loop [4] (fun i => ∃ p : Nat,p ≤ xi.length ∧ i = .int .i64 p ∧ ∀ (j : Nat) (z : Int),j < p → xi[j]? = some z → 0 ≤ z ∧ z ≤ 31) (fun i => xi.length - (intOf i).toNat)
          case atStart => exact ⟨0,by omega,rfl,fun j x h => absurd h (by omega)⟩
          case round =>
           obtain ⟨p,hp,rfl,hins⟩:=hrel
           have HI:=Hd hins;clear hins
           by_cases hlp : p < xi.length
           · have hpz : (p : Int) < (xi.length : Int):=by omega
             obtain ⟨z,hz1⟩ : ∃ z,xi[p]? = some z:=⟨_,List.getElem?_eq_getElem hlp⟩
             obtain ⟨bb,oo,rfl,_,hq1⟩:=ints_at (HG.out.ins HX.out) hz1
             have q1:=hq1 w (Below.refl _ _)
             have HZ1:=Hd hz1;clear hz1 hq1
             by_cases h4 : z < 0
             · go_wp2_with fail
               go_ret
               exact ⟨retb (mayB_no (may_node HX.out fun h => by have:=(h.2.2 z (List.mem_of_getElem? HZ1.out)).1;omega)),rfl⟩
             · by_cases h5 : 31 < z
               · go_wp2_with fail
                 go_ret
                 exact ⟨retb (mayB_no (may_node HX.out fun h => by have:=(h.2.2 z (List.mem_of_getElem? HZ1.out)).2;omega)),rfl⟩
               · go_wp2_with fail
                 go_round
                 case rel =>
                  refine ⟨p + 1,by omega,by simp,fun j y hj hy => ?_⟩
                  by_cases e : j = p
                  · subst e
                    rw [HZ1.out] at hy;cases hy
                    omega
                  · exact HI.out j y (by omega) hy
                 case measure => simp only [intOf];omega
           · have hpz : ¬ (p : Int) < (xi.length : Int):=by omega
             go_wp2_with fail
             go_round
             case rel =>
              refine ⟨k + 1,by omega,by simp,fun j y hj hy => ?_⟩
              by_cases e : j = k
              · subst e
                rw [HX.out] at hy;cases hy
                refine ⟨⟨by simp only;omega,by simp only;omega⟩,by simp only;omega,fun z hz => ?_⟩
                obtain ⟨i,hi⟩:=List.getElem?_of_mem hz
                exact HI.out i z (by have:=(List.getElem?_eq_some_iff.1 hi).1;simp only at this;omega) hi
              · exact HA.out j y (by omega) hy
             case measure => simp only [intOf];omega
  · have hltz : ¬ (k : Int) < (l.length : Int):=by omega
    have HALL:=Hd (may_all (l:=l) fun j x hj => HA.out j x (by have:=(List.getElem?_eq_some_iff.1 hj).1;omega) hj)
    by_cases h1 : 1 ≤ l.length
    · by_cases h2 : l.length ≤ 32
      · go_wp2_with fail
        go_ret
        exact ⟨retb ((decide_eq_true (by omega)).trans (mayB_yes ⟨by rw [nds_len];omega,HALL.out⟩)),rfl⟩
      · go_wp2_with fail
        go_ret
        exact ⟨retb ((decide_eq_false (by omega)).trans (mayB_no fun h => by have:=h.1.2;rw [nds_len] at this;omega)),rfl⟩
    · go_wp2_with fail
      go_ret
      exact ⟨retb (mayB_no fun h => by have:=h.1.1;rw [nds_len] at this;omega),rfl⟩
end

section
open Go.RowKit
def toIn (n : Nat) (i : Int) : Nat → List Int → List (Nat × Nat)
 | _,[] => []
 | p,x :: l => (if x = i then [(n,p)] else []) ++ toIn n i (p + 1) l
def toG (i : Int) : Nat → List Nd → List (Nat × Nat)
 | _,[] => []
 | n,x :: g => toIn n i 0 x.ins ++ toG i (n + 1) g
theorem toIn_snoc (n : Nat) (i : Int) : ∀ (l : List Int) (p : Nat) (x : Int),toIn n i p (l ++ [x]) = toIn n i p l ++ if x = i then [(n,p + l.length)] else []
 | [],p,x => by simp [toIn]
 | y :: l,p,x => by
   rw [List.cons_append]
   simp only [toIn]
   rw [toIn_snoc n i l (p + 1) x,List.append_assoc,List.length_cons,show p + 1 + l.length = p + (l.length + 1) by omega]
theorem toG_snoc (i : Int) : ∀ (g : List Nd) (n : Nat) (x : Nd),toG i n (g ++ [x]) = toG i n g ++ toIn (n + g.length) i 0 x.ins
 | [],n,x => by simp [toG]
 | y :: g,n,x => by
   rw [List.cons_append]
   simp only [toG]
   rw [toG_snoc i g (n + 1) x,List.append_assoc,List.length_cons,show n + 1 + g.length = n + (g.length + 1) by omega]
theorem toIn_take {l : List Int} {p : Nat} {x : Int} (n : Nat) (i : Int) (h : l[p]? = some x) : toIn n i 0 (l.take (p + 1)) = toIn n i 0 (l.take p) ++ if x = i then [(n,p)] else []:=by
 have:=(List.getElem?_eq_some_iff.1 h).1
 rw [List.take_add_one,h,Option.toList_some,toIn_snoc,List.length_take,Nat.min_eq_left (by omega),Nat.zero_add]
theorem toG_take {l : List Gn} {k : Nat} {x : Gn} (i : Int) (h : l[k]? = some x) : toG i 0 (nds (l.take (k + 1))) = toG i 0 (nds (l.take k)) ++ toIn k i 0 x.nd.ins:=by
 have:=(List.getElem?_eq_some_iff.1 h).1
 unfold nds
 rw [List.take_add_one,h,Option.toList_some,List.map_append,List.map_cons,List.map_nil,toG_snoc,List.length_map,List.length_take,Nat.min_eq_left (by omega),Nat.zero_add]
theorem toIn_len (n : Nat) (i : Int) : ∀ (l : List Int) (p : Nat),(toIn n i p l).length ≤ l.length
 | [],p => by simp [toIn]
 | x :: l,p => by
   have:=toIn_len n i l (p + 1)
   simp only [toIn,List.length_append,List.length_cons]
   split <;> simp <;> omega
theorem toG_len (i : Int) (T : Nat) : ∀ (g : List Nd) (n : Nat),(∀ x ∈ g,x.ins.length ≤ T) → (toG i n g).length ≤ g.length * T
 | [],n,_ => by simp [toG]
 | x :: g,n,h => by
   have h1:=toG_len i T g (n + 1) fun y hy => h y (List.mem_cons_of_mem _ hy)
   have h2:=toIn_len n i x.ins 0
   have h3:=h x List.mem_cons_self
   simp only [toG,List.length_append,List.length_cons,Nat.succ_mul]
   omega
end

section
def kindB : Kind Nat:=⟨fun x => [.int .u8 (x : Nat)],1,fun _ => rfl,fun t u hu => by simp only [List.mem_singleton] at hu;subst hu;rfl,by decide⟩
theorem infoU8 : (Tryz.prog.info? 5).map (fun i => (i.zero,i.size,i.bytes)) = some (some (.int .u8 0),1,1):=by kernel_rfl
noncomputable def putE (g : List Nd) : Int:=if g.length < 1 ∨ 32 < g.length then 3 else if mayB g = true then 0 else 90
noncomputable def putO (g : List Nd) : List Nat:=if g.length < 1 ∨ 32 < g.length then [] else if mayB g = true then putG g else []
def PutD (g : List Nd) (w : World) (e : Ending) (w' : World) : Prop:=(∃ v,e = .returned (.tuple #[v,.int .i64 (putE g)]) ∧ w'.ownsRow w.heap.size 5 kindB.K v (putO g).length (Rw.row kindB (putO g))) ∧ Below w.heap.size w w'
theorem PutD.nil {g : List Nd} {w w' : World} {e : Int} (he : e = putE g) (h0 : putO g = []) (hb : Below w.heap.size w w') : PutD g w (.returned (.tuple #[.slice none 0 0,.int .i64 e])) w' :=
 ⟨⟨_,by rw [he],by rw [h0];exact World.ownsRow_nil _ _ _ _⟩,hb⟩
theorem PutD.yes {g : List Nd} {w w' : World} {v : Value} {xs : List Nat} (he : 0 = putE g) (h0 : putO g = xs) (ho : w'.ownsRow w.heap.size 5 kindB.K v xs.length (Rw.row kindB xs)) (hb : Below w.heap.size w w') : PutD g w (.returned (.tuple #[v,.int .i64 0])) w' :=
 ⟨⟨_,by rw [he],by rw [h0];exact ho⟩,hb⟩
theorem append_b {w : World} {ops : Array Oper} {rest : List Oper} {o : Oper} {a : Act} {Q : Exit → Act → World → Prop} (hgd : o.guard = none) (s x : Operand)
 (ho : o.op = .call { callee:=.builtin .append,args:=#[s,x],argTypes:=#[120,120] })
 (base : Nat) (v : Value) (n : Nat) (ts : List Nat) (hs : a.eval s = v) (hown : w.ownsRow base 5 kindB.K v n (Rw.row kindB ts))
 (b : Nat) (c : Nat) (ys : List Nat) (hx : a.eval x = .slice (some ⟨b,0,none⟩) ys.length c) (hb : Rw.Ts kindB w (some ⟨b,0,none⟩) ys)
 (hle : n + ys.length ≤ 100000) (hbase : base ≤ w.heap.size)
 (h : ∀ v' w',w'.ownsRow base 5 kindB.K v' (n + ys.length) (Rw.row kindB (ts ++ ys)) → w.grownBy w' v.ownBlock → wpList Tryz.prog ops Q rest (a.put o.dst v') w') : wpList Tryz.prog ops Q (o :: rest) a w :=
 Rw.append_own kindB 5 120 Tryz.underlying120 infoU8 rfl hgd s x ho base v n ts hs hown (some ⟨b,0,none⟩) c ys hx (fun e => by cases e) hb (by unfold maxLen;omega) (by omega) hbase h
theorem nodes_bytes (x : Nd) : x.put.length = 12 + x.ins.length:=by simp [Nd.put,be8];omega
theorem putNs_len : ∀ (l : List Nd),(∀ n ∈ l,n.May) → (putNs l).length ≤ l.length * 14
 | [],_ => by simp [putNs]
 | n :: l,hl => by
   have h1:=putNs_len l fun m hm => hl m (List.mem_cons_of_mem _ hm)
   have h2:=(hl n List.mem_cons_self).2.1
   have h3:=nodes_bytes n
   simp only [putNs,List.map_cons,List.flatten_cons,List.length_append,List.length_cons] at h1 ⊢
   omega
theorem putNs_take {l : List Gn} (h : GMay (nds l)) (k : Nat) : (l.length :: putNs (nds (l.take k))).length ≤ 500:=by
 have h1:=putNs_len (nds (l.take k)) fun n hn => h.2 n (by
  unfold nds at hn ⊢
  rw [List.map_take] at hn
  exact List.mem_of_mem_take hn)
 have h2:=h.1.2
 rw [nds_len] at h1 h2
 have : (l.take k).length ≤ l.length:=List.length_take_le' ..
 simp only [List.length_cons];omega
theorem putNs_more {l : List Gn} {k : Nat} {x : Gn} (hx : l[k]? = some x) : putNs (nds (l.take (k + 1))) = putNs (nds (l.take k)) ++ x.nd.put:=by
 unfold nds putNs
 rw [List.take_add_one,hx];simp
structure PutS (w0 w : World) (base g : Nat) (cs : List Value) (v : Value) (bs : List Nat) : Prop where
 below : Below base w0 w
 lo : base ≤ w.heap.size
 row : Row w g 58 cs
 own : w.ownsRow base 5 kindB.K v bs.length (Rw.row kindB bs)
theorem PutS.app {w0 w w' : World} {base g : Nat} {cs : List Value} {v v' : Value} {bs ys : List Nat} (h : PutS w0 w base g cs v bs) (o : Obj) (hv : w'.ownsRow base 5 kindB.K v' (bs.length + ys.length) (Rw.row kindB (bs ++ ys)))
 (hg : (w.alloc o).grownBy w' v.ownBlock) : PutS w0 w' base g cs v' (bs ++ ys) where
 below:=Rw.own_below (h.own.alloc o) hg (h.below.alloc h.lo o) (by have:=h.lo;simp;omega)
 lo:=by have:=h.lo;have:=hg.size;simp at this;omega
 row:=(h.row.alloc o).grown hg (Rw.own_apart (h.own.alloc o) (h.row.alloc o) (by decide))
 own:=by rw [List.length_append];exact hv
set_option maxHeartbeats 4000000 in
theorem refPut_any (A : Option Addr) (l : List Gn) (c : Nat) (w : World) (hG : Gr w A l) (hl : l.length ≤ maxLen) :
 Calls Tryz.prog 80 #[.slice A l.length c] w (PutD (nds l) w):=by
 have hm:=refMay_any A l c w hG hl
 unfold maxLen at hl
 have HG:=Hd hG;clear hG
 by_cases h1 : l.length < 1
 · have he : (3 : Int) = putE (nds l):=by unfold putE;rw [if_pos (by rw [nds_len];omega)]
   have h0 : putO (nds l) = []:=by unfold putO;rw [if_pos (by rw [nds_len];omega)]
   have HE:=Hd he;have H0:=Hd h0;clear he h0 hm
   go_enter Tryz.func80,Tryz.ntmps80
   go_wp2_with fail
   go_ret2
   exact PutD.nil HE.out H0.out (Below.refl _ _)
 · by_cases h2 : 32 < l.length
   · have he : (3 : Int) = putE (nds l):=by unfold putE;rw [if_pos (by rw [nds_len];omega)]
     have h0 : putO (nds l) = []:=by unfold putO;rw [if_pos (by rw [nds_len];omega)]
     have HE:=Hd he;have H0:=Hd h0;clear he h0 hm
     go_enter Tryz.func80,Tryz.ntmps80
     go_wp2_with fail
     go_ret2
     exact PutD.nil HE.out H0.out (Below.refl _ _)
   · cases hmb : mayB (nds l) with
     | false =>
       rw [hmb] at hm
       have he : (90 : Int) = putE (nds l):=by unfold putE;rw [if_neg (by rw [nds_len];omega),if_neg (by rw [hmb];simp)]
       have h0 : putO (nds l) = []:=by unfold putO;rw [if_neg (by rw [nds_len];omega),if_neg (by rw [hmb];simp)]
       have HE:=Hd he;have H0:=Hd h0;have HM:=Hd hm;clear he h0 hm hmb
       go_enter Tryz.func80,Tryz.ntmps80
       go_wp2_with fail
       refine HM.out.mono ?_;rintro e w1 ⟨rfl,rfl⟩
       dsimp only
       go_wp2_with fail
       go_ret2
       exact PutD.nil HE.out H0.out (Below.refl _ _)
     | true =>
       rw [hmb] at hm
       have he : (0 : Int) = putE (nds l):=by unfold putE;rw [if_neg (by rw [nds_len];omega),if_pos hmb]
       have h0 : putO (nds l) = putG (nds l):=by unfold putO;rw [if_neg (by rw [nds_len];omega),if_pos hmb]
       have HE:=Hd he;have H0:=Hd h0;have HM:=Hd hm;have HMAY:=Hd (mayB_iff.1 hmb);clear he h0 hm hmb
       have z1 : decide ((l.length : Int) < 1) = false:=by simp;omega
       have z2 : decide (32 < (l.length : Int)) = false:=by simp;omega
       go_enter Tryz.func80,Tryz.ntmps80
       go_wp2_with fail
       refine HM.out.mono ?_;rintro e w1 ⟨rfl,rfl⟩
       dsimp only
       go_wp2_with fail
       go_loopw [4,5] (fun v i wr => ∃ k : Nat,k ≤ l.length ∧ i = .int .i64 k ∧ Below w.heap.size w wr ∧ wr.ownsRow w.heap.size 5 kindB.K v (l.length :: putNs (nds (l.take k))).length (Rw.row kindB (l.length :: putNs (nds (l.take k))))) (fun _ i _ => l.length - (intOf i).toNat)
       case atStart => exact ⟨0,by omega,rfl,(Below.refl _ _).alloc (Nat.le_refl _) _,World.ownsRow_lit w #[.int .u8 (l.length : Nat)] 1 (Nat.le_refl _) (by decide) rfl⟩
       case round =>
        obtain ⟨k,hk,rfl,hb,hown⟩:=hrel
        have HB:=Hd hb;have HO:=Hd hown;clear hb hown
        by_cases hlt : k < l.length
        · have hltz : (k : Int) < (l.length : Int):=by omega
          obtain ⟨x,hx⟩ : ∃ x,l[k]? = some x:=⟨_,List.getElem?_eq_getElem hlt⟩
          have hmy:=HMAY.out.2 x.nd (List.mem_map.2 ⟨x,List.mem_of_getElem? hx,rfl⟩)
          have hbs:=putNs_take HMAY.out k
          generalize hbd : (l.length :: putNs (nds (l.take k))) = bs at *
          have HBD:=Hd hbd;clear hbd
          have hok:=HG.out.ok hx
          obtain ⟨⟨xk,xa,xb,xd,xi⟩,xA,xc⟩:=x
          obtain ⟨D,rfl⟩ : ∃ D : Nat,xd = (D : Int):=Int.eq_ofNat_of_zero_le hmy.1.1
          obtain ⟨b,o,rfl,hbl,hcl⟩:=HG.out.at_ hx
          obtain ⟨c0,c1,c2,c3,c4⟩:=hcl wr HB.out
          simp only at c0 c1 c2 c3 c4
          have HX:=Hd hx;have HMY:=Hd hmy;have HOK:=Hd hok;have HBS:=Hd hbs;clear hx hcl hmy hok hbs
          go_upto_region 10 with fail
          have hps : PutS w (wr.alloc (.cells #[.int .u8 (xk : Nat),.int .u8 (xa : Nat),.int .i64 xb,.int .i64 (D : Nat),.slice xA xi.length xc] 58)) w.heap.size wr.heap.size [.int .u8 (xk : Nat),.int .u8 (xa : Nat),.int .i64 xb,.int .i64 (D : Nat),.slice xA xi.length xc] _ bs :=
           ⟨HB.out.alloc HB.out.size _,by have:=HB.out.size;simp;omega,Row.made wr _ _,HO.out.alloc _⟩
          have d0:=hps.row.cell 0
          have d1:=hps.row.cell 1
          generalize (wr.alloc (.cells #[.int .u8 (xk : Nat),.int .u8 (xa : Nat),.int .i64 xb,.int .i64 (D : Nat),.slice xA xi.length xc] 58)) = w2 at *
          generalize wr.heap.size = g at *
          have d0' : w2.cell? ⟨g,0,none⟩ = some (.int .u8 (xk : Nat)):=d0
          have d1' : w2.cell? ⟨g,1,none⟩ = some (.int .u8 (xa : Nat)):=d1
          have HP:=Hd hps;clear hps HB HO c0 c1 c2 c3 c4 d0 d1
          go_wp2_with (at_builtin;refine append_b rfl _ _ rfl w.heap.size _ bs.length bs rfl (HP.out.own.alloc _) _ 2 [xk,xa] rfl (Rw.Ts.made _ [xk,xa] _) (by have:=HBS.out;simp;omega) (by have:=HP.out.lo;simp;omega) ?_;intro v1 w3 hv1 hg1;have hp1:=HP.out.app _ hv1 hg1;have HP1:=Hd hp1;clear hp1 hv1 hg1 d0' d1' HP)
          go_loopw [4,7] (fun v i wx => ∃ j : Nat,j ≤ 8 ∧ i = .int .i64 (7 - (j : Int)) ∧ PutS w wx w.heap.size g [.int .u8 (xk : Nat),.int .u8 (xa : Nat),.int .i64 xb,.int .i64 (D : Nat),.slice xA xi.length xc] v (bs ++ [xk,xa] ++ (be8 (uns xb)).take j)) (fun _ i _ => (intOf i + 1).toNat)
          case atStart => exact ⟨0,by omega,rfl,by simpa using HP1.out⟩
          case round =>
           obtain ⟨j,hj,rfl,hps⟩:=hrel
           have hbl : (bs ++ [xk,xa] ++ (be8 (uns xb)).take j).length ≤ 600:=by have:=HBS.out;simp [be8];omega
           have d2 : wr.cell? ⟨g,2,none⟩ = some (.int .i64 xb):=hps.row.cell 2
           have HQ:=Hd hps;have HBL:=Hd hbl;clear hps hbl HP1
           by_cases hj8 : j < 8
           · have hbase:=HQ.out.lo
             have HBA:=Hd hbase;clear hbase
             rcases (show j = 0 ∨ j = 1 ∨ j = 2 ∨ j = 3 ∨ j = 4 ∨ j = 5 ∨ j = 6 ∨ j = 7 by omega) with rfl | rfl | rfl | rfl | rfl | rfl | rfl | rfl
             · obtain ⟨B,hB,hE⟩ : ∃ B : Nat,B = uns xb / 72057594037927936 % 256 ∧ IntKind.u64.wrap xb / 72057594037927936 % 256 = (B : Int):=⟨_,rfl,by unfold uns;rw [show IntKind.u64.wrap xb = xb % 18446744073709551616 by simp [IntKind.wrap,IntKind.signed,IntKind.bits]];omega⟩
               have HB':=Hd hB;clear hB
               go_wp2_with (at_builtin;refine append_b rfl _ _ rfl w.heap.size _ _ _ rfl (HQ.out.own.alloc _) _ 1 [B] rfl (Rw.Ts.made _ [B] _) (by have:=HBL.out;simp only [List.length_cons,List.length_nil];omega) (by have:=HBA.out;simp;omega) ?_;intro v1 w3 hv1 hg1;have hp1:=HQ.out.app _ hv1 hg1;have HP1:=Hd hp1;clear hp1 hv1 hg1)
               go_roundw
               case rel => exact ⟨1,by omega,by simp,by have:=HP1.out;rw [HB'.out,List.append_assoc (bs ++ [xk,xa])] at this;exact this⟩
               case measure => simp [intOf]
             · obtain ⟨B,hB,hE⟩ : ∃ B : Nat,B = uns xb / 281474976710656 % 256 ∧ IntKind.u64.wrap xb / 281474976710656 % 256 = (B : Int):=⟨_,rfl,by unfold uns;rw [show IntKind.u64.wrap xb = xb % 18446744073709551616 by simp [IntKind.wrap,IntKind.signed,IntKind.bits]];omega⟩
               have HB':=Hd hB;clear hB
               go_wp2_with (at_builtin;refine append_b rfl _ _ rfl w.heap.size _ _ _ rfl (HQ.out.own.alloc _) _ 1 [B] rfl (Rw.Ts.made _ [B] _) (by have:=HBL.out;simp only [List.length_cons,List.length_nil];omega) (by have:=HBA.out;simp;omega) ?_;intro v1 w3 hv1 hg1;have hp1:=HQ.out.app _ hv1 hg1;have HP1:=Hd hp1;clear hp1 hv1 hg1)
               go_roundw
               case rel => exact ⟨2,by omega,by simp,by have:=HP1.out;rw [HB'.out,List.append_assoc (bs ++ [xk,xa])] at this;exact this⟩
               case measure => simp [intOf]
             · obtain ⟨B,hB,hE⟩ : ∃ B : Nat,B = uns xb / 1099511627776 % 256 ∧ IntKind.u64.wrap xb / 1099511627776 % 256 = (B : Int):=⟨_,rfl,by unfold uns;rw [show IntKind.u64.wrap xb = xb % 18446744073709551616 by simp [IntKind.wrap,IntKind.signed,IntKind.bits]];omega⟩
               have HB':=Hd hB;clear hB
               go_wp2_with (at_builtin;refine append_b rfl _ _ rfl w.heap.size _ _ _ rfl (HQ.out.own.alloc _) _ 1 [B] rfl (Rw.Ts.made _ [B] _) (by have:=HBL.out;simp only [List.length_cons,List.length_nil];omega) (by have:=HBA.out;simp;omega) ?_;intro v1 w3 hv1 hg1;have hp1:=HQ.out.app _ hv1 hg1;have HP1:=Hd hp1;clear hp1 hv1 hg1)
               go_roundw
               case rel => exact ⟨3,by omega,by simp,by have:=HP1.out;rw [HB'.out,List.append_assoc (bs ++ [xk,xa])] at this;exact this⟩
               case measure => simp [intOf]
             · obtain ⟨B,hB,hE⟩ : ∃ B : Nat,B = uns xb / 4294967296 % 256 ∧ IntKind.u64.wrap xb / 4294967296 % 256 = (B : Int):=⟨_,rfl,by unfold uns;rw [show IntKind.u64.wrap xb = xb % 18446744073709551616 by simp [IntKind.wrap,IntKind.signed,IntKind.bits]];omega⟩
               have HB':=Hd hB;clear hB
               go_wp2_with (at_builtin;refine append_b rfl _ _ rfl w.heap.size _ _ _ rfl (HQ.out.own.alloc _) _ 1 [B] rfl (Rw.Ts.made _ [B] _) (by have:=HBL.out;simp only [List.length_cons,List.length_nil];omega) (by have:=HBA.out;simp;omega) ?_;intro v1 w3 hv1 hg1;have hp1:=HQ.out.app _ hv1 hg1;have HP1:=Hd hp1;clear hp1 hv1 hg1)
               go_roundw
               case rel => exact ⟨4,by omega,by simp,by have:=HP1.out;rw [HB'.out,List.append_assoc (bs ++ [xk,xa])] at this;exact this⟩
               case measure => simp [intOf]
             · obtain ⟨B,hB,hE⟩ : ∃ B : Nat,B = uns xb / 16777216 % 256 ∧ IntKind.u64.wrap xb / 16777216 % 256 = (B : Int):=⟨_,rfl,by unfold uns;rw [show IntKind.u64.wrap xb = xb % 18446744073709551616 by simp [IntKind.wrap,IntKind.signed,IntKind.bits]];omega⟩
               have HB':=Hd hB;clear hB
               go_wp2_with (at_builtin;refine append_b rfl _ _ rfl w.heap.size _ _ _ rfl (HQ.out.own.alloc _) _ 1 [B] rfl (Rw.Ts.made _ [B] _) (by have:=HBL.out;simp only [List.length_cons,List.length_nil];omega) (by have:=HBA.out;simp;omega) ?_;intro v1 w3 hv1 hg1;have hp1:=HQ.out.app _ hv1 hg1;have HP1:=Hd hp1;clear hp1 hv1 hg1)
               go_roundw
               case rel => exact ⟨5,by omega,by simp,by have:=HP1.out;rw [HB'.out,List.append_assoc (bs ++ [xk,xa])] at this;exact this⟩
               case measure => simp [intOf]
             · obtain ⟨B,hB,hE⟩ : ∃ B : Nat,B = uns xb / 65536 % 256 ∧ IntKind.u64.wrap xb / 65536 % 256 = (B : Int):=⟨_,rfl,by unfold uns;rw [show IntKind.u64.wrap xb = xb % 18446744073709551616 by simp [IntKind.wrap,IntKind.signed,IntKind.bits]];omega⟩
               have HB':=Hd hB;clear hB
               go_wp2_with (at_builtin;refine append_b rfl _ _ rfl w.heap.size _ _ _ rfl (HQ.out.own.alloc _) _ 1 [B] rfl (Rw.Ts.made _ [B] _) (by have:=HBL.out;simp only [List.length_cons,List.length_nil];omega) (by have:=HBA.out;simp;omega) ?_;intro v1 w3 hv1 hg1;have hp1:=HQ.out.app _ hv1 hg1;have HP1:=Hd hp1;clear hp1 hv1 hg1)
               go_roundw
               case rel => exact ⟨6,by omega,by simp,by have:=HP1.out;rw [HB'.out,List.append_assoc (bs ++ [xk,xa])] at this;exact this⟩
               case measure => simp [intOf]
             · obtain ⟨B,hB,hE⟩ : ∃ B : Nat,B = uns xb / 256 % 256 ∧ IntKind.u64.wrap xb / 256 % 256 = (B : Int):=⟨_,rfl,by unfold uns;rw [show IntKind.u64.wrap xb = xb % 18446744073709551616 by simp [IntKind.wrap,IntKind.signed,IntKind.bits]];omega⟩
               have HB':=Hd hB;clear hB
               go_wp2_with (at_builtin;refine append_b rfl _ _ rfl w.heap.size _ _ _ rfl (HQ.out.own.alloc _) _ 1 [B] rfl (Rw.Ts.made _ [B] _) (by have:=HBL.out;simp only [List.length_cons,List.length_nil];omega) (by have:=HBA.out;simp;omega) ?_;intro v1 w3 hv1 hg1;have hp1:=HQ.out.app _ hv1 hg1;have HP1:=Hd hp1;clear hp1 hv1 hg1)
               go_roundw
               case rel => exact ⟨7,by omega,by simp,by have:=HP1.out;rw [HB'.out,List.append_assoc (bs ++ [xk,xa])] at this;exact this⟩
               case measure => simp [intOf]
             · obtain ⟨B,hB,hE⟩ : ∃ B : Nat,B = uns xb % 256 ∧ IntKind.u64.wrap xb % 256 = (B : Int):=⟨_,rfl,by unfold uns;rw [show IntKind.u64.wrap xb = xb % 18446744073709551616 by simp [IntKind.wrap,IntKind.signed,IntKind.bits]];omega⟩
               have HB':=Hd hB;clear hB
               go_wp2_with (at_builtin;refine append_b rfl _ _ rfl w.heap.size _ _ _ rfl (HQ.out.own.alloc _) _ 1 [B] rfl (Rw.Ts.made _ [B] _) (by have:=HBL.out;simp only [List.length_cons,List.length_nil];omega) (by have:=HBA.out;simp;omega) ?_;intro v1 w3 hv1 hg1;have hp1:=HQ.out.app _ hv1 hg1;have HP1:=Hd hp1;clear hp1 hv1 hg1)
               go_roundw
               case rel => exact ⟨8,by omega,by simp,by have:=HP1.out;rw [HB'.out,List.append_assoc (bs ++ [xk,xa])] at this;exact this⟩
               case measure => simp [intOf]
           · have hj88 : j = 8:=by omega
             subst hj88
             have hD : D ≤ 3:=by have:=HMY.out.1.2;simp only at this;omega
             have hlx : xi.length ≤ 2:=HMY.out.2.1
             have d3 : wr.cell? ⟨g,3,none⟩ = some (.int .i64 (D : Nat)):=HQ.out.row.cell 3
             have d4 : wr.cell? ⟨g,4,none⟩ = some (.slice xA xi.length xc):=HQ.out.row.cell 4
             have hbase:=HQ.out.lo
             have HBA:=Hd hbase;clear hbase d2
             go_wp2_with (at_builtin;refine append_b rfl _ _ rfl w.heap.size _ _ _ rfl (HQ.out.own.alloc _) _ 2 [D,xi.length] rfl (Rw.Ts.made _ [D,xi.length] _) (by have:=HBL.out;simp only [List.length_cons,List.length_nil];omega) (by have:=HBA.out;simp;omega) ?_;intro v1 w3 hv1 hg1;have hp1:=HQ.out.app _ hv1 hg1;have HP1:=Hd hp1;clear hp1 hv1 hg1 d3 d4)
             go_loopw [4,8] (fun v i wx => ∃ p : Nat,p ≤ xi.length ∧ i = .int .i64 (p : Nat) ∧ PutS w wx w.heap.size g [.int .u8 (xk : Nat),.int .u8 (xa : Nat),.int .i64 xb,.int .i64 (D : Nat),.slice xA xi.length xc] v (bs ++ [xk,xa] ++ (be8 (uns xb)).take 8 ++ [D,xi.length] ++ (xi.take p).map Int.toNat)) (fun _ i _ => xi.length - (intOf i).toNat)
             case atStart => exact ⟨0,by omega,rfl,by simpa using HP1.out⟩
             case round =>
              obtain ⟨p,hp,rfl,hps⟩:=hrel
              have hbl : (bs ++ [xk,xa] ++ (be8 (uns xb)).take 8 ++ [D,xi.length] ++ (xi.take p).map Int.toNat).length ≤ 600:=by have:=HBS.out;simp [be8];omega
              have d4 : wr.cell? ⟨g,4,none⟩ = some (.slice xA xi.length xc):=hps.row.cell 4
              have HQ2:=Hd hps;have HBL2:=Hd hbl;clear hps hbl HP1
              by_cases hlp : p < xi.length
              · have hpz : (p : Int) < (xi.length : Int):=by omega
                obtain ⟨z,hz1⟩ : ∃ z,xi[p]? = some z:=⟨_,List.getElem?_eq_getElem hlp⟩
                have hzz:=HMY.out.2.2 z (List.mem_of_getElem? hz1)
                obtain ⟨Z,rfl⟩ : ∃ Z : Nat,z = (Z : Int):=Int.eq_ofNat_of_zero_le hzz.1
                obtain ⟨bb,oo,rfl,_,hq1⟩:=ints_at (HG.out.ins HX.out) hz1
                have q1:=hq1 wr HQ2.out.below
                have hZ : Z ≤ 31:=by omega
                have HZ1:=Hd hz1;clear hz1 hq1 hzz
                have hbase:=HQ2.out.lo
                have HBA2:=Hd hbase;clear hbase
                go_wp2_with (at_builtin;refine append_b rfl _ _ rfl w.heap.size _ _ _ rfl (HQ2.out.own.alloc _) _ 1 [Z] rfl (Rw.Ts.made _ [Z] _) (by have:=HBL2.out;simp only [List.length_cons,List.length_nil];omega) (by have:=HBA2.out;simp;omega) ?_;intro v1 w3 hv1 hg1;have hp1:=HQ2.out.app _ hv1 hg1;have HP1:=Hd hp1;clear hp1 hv1 hg1)
                go_roundw
                case rel => exact ⟨p + 1,by omega,by simp,by have:=HP1.out;rw [List.append_assoc (bs ++ [xk,xa] ++ (be8 (uns xb)).take 8 ++ [D,xi.length])] at this;have e : (xi.take (p + 1)).map Int.toNat = (xi.take p).map Int.toNat ++ [Z]:=by { rw [List.take_add_one,HZ1.out,List.map_append];rfl };rw [e];exact this⟩
                case measure => simp only [intOf];omega
              · have hpz : ¬ (p : Int) < (xi.length : Int):=by omega
                have hpe : p = xi.length:=by omega
                have HPE:=Hd hpe;clear hpe
                go_wp2_with fail
                go_roundw
                case rel =>
                 refine ⟨k + 1,by omega,by simp,HQ2.out.below,?_⟩
                 have h:=HQ2.out.own
                 have e : l.length :: putNs (nds (l.take (k + 1))) = bs ++ [xk,xa] ++ (be8 (uns xb)).take 8 ++ [D,xi.length] ++ (xi.take p).map Int.toNat:=by
                  rw [putNs_more HX.out,HPE.out,List.take_length,← HBD.out]
                  simp [Nd.put,be8]
                 rw [e];exact h
                case measure => simp only [intOf];omega
        · have hltz : ¬ (k : Int) < (l.length : Int):=by omega
          have hke : k = l.length:=by omega
          have HK:=Hd hke;clear hke hlt hk
          go_wp2_with fail
          go_ret2
          have h:=HO.out
          rw [HK.out,List.take_length] at h
          have e : putO (nds l) = l.length :: putNs (nds l):=by rw [H0.out];unfold putG;rw [nds_len]
          exact PutD.yes HE.out e h HB.out
end

section
end

section
theorem own_base {w : World} {base base' K n : Nat} {T : TypeId} {v : Value} {xs : List Value} (h : w.ownsRow base T K v n xs) (hb : base' ≤ base) : w.ownsRow base' T K v n xs:=by
 obtain ⟨h1,h2 | ⟨g,cap,cur,e,hg,h3⟩⟩:=h
 · exact ⟨h1,.inl h2⟩
 · exact ⟨h1,.inr ⟨g,cap,cur,e,by omega,h3⟩⟩
structure RoundS (wr W : World) (g : Nat) (cs : List Value) (iv : Value) (ins : List Int) : Prop where
 below : Below wr.heap.size wr W
 row : Row W g 58 cs
 hg : wr.heap.size ≤ g
 own : W.ownsRow wr.heap.size 3 kindI.K iv ins.length (Rw.row kindI ins)
section
variable {wr W : World} {g : Nat} {cs : List Value} {iv : Value} {ins : List Int}
end
end

section
def kindP : Kind (Nat × Nat):=⟨fun x => [.int .i64 (x.1 : Nat),.int .i64 (x.2 : Nat)],2,fun _ => rfl,fun t u hu => by
 simp only [List.mem_cons,List.not_mem_nil,or_false] at hu
 rcases hu with rfl | rfl <;> rfl,by decide⟩
theorem infoRPort : (Tryz.prog.info? 181).map (fun i => (i.zero,i.size,i.bytes)) = some (some (.agg #[.int .i64 0,.int .i64 0]),2,16):=by kernel_rfl
def ToD (T : TypeId) (ps : List (Nat × Nat)) (w : World) (e : Ending) (w' : World) : Prop:=(∃ v,e = .returned v ∧ w'.ownsRow w.heap.size T kindP.K v ps.length (Rw.row kindP ps)) ∧ Below w.heap.size w w'
set_option maxHeartbeats 4000000 in
theorem refTo_any (A : Option Addr) (l : List Gn) (c : Nat) (i : Int) (w : World) (hG : Gr w A l) (hl : l.length ≤ 40) (hi : ∀ x ∈ nds l,x.ins.length ≤ 40) :
 Calls Tryz.prog 139 #[.slice A l.length c,.int .i64 i] w (ToD 181 (toG i 0 (nds l)) w):=by
 have HG:=Hd hG;have HI:=Hd hi;clear hG hi
 go_enter Tryz.func139,Tryz.ntmps139
 go_wp2_with fail
 go_loopw [5,6] (fun v n wr => ∃ k : Nat,k ≤ l.length ∧ n = .int .i64 k ∧ wr.ownsRow w.heap.size 181 kindP.K v (toG i 0 (nds (l.take k))).length (Rw.row kindP (toG i 0 (nds (l.take k)))) ∧ Below w.heap.size w wr) (fun _ n _ => l.length - (intOf n).toNat)
 case atStart => exact ⟨0,by omega,rfl,World.ownsRow_nil _ _ _ _,Below.refl _ _⟩
 case round =>
  obtain ⟨k,hk,rfl,hown,hb⟩:=hrel
  have HO:=Hd hown;have HB:=Hd hb;clear hown hb
  by_cases hlt : k < l.length
  · have hltz : (k : Int) < (l.length : Int):=by omega
    obtain ⟨x,hx⟩ : ∃ x,l[k]? = some x:=⟨_,List.getElem?_eq_getElem hlt⟩
    have hix:=HI.out x.nd (List.mem_map.2 ⟨x,List.mem_of_getElem? hx,rfl⟩)
    obtain ⟨⟨xk,xa,xb,xd,xi⟩,xA,xc⟩:=x
    obtain ⟨b,o,rfl,hbl,hcl⟩:=HG.out.at_ hx
    have hln : (toG i 0 (nds (l.take k))).length ≤ 1600:=by
     have h1:=toG_len i 40 (nds (l.take k)) 0 fun y hy => HI.out y (by
      unfold nds at hy ⊢
      rw [List.map_take] at hy
      exact List.mem_of_mem_take hy)
     rw [nds_len,List.length_take] at h1
     have : min k l.length ≤ 40:=by omega
     have:=Nat.mul_le_mul_right 40 this
     omega
    have HTK:=Hd (toG_take i hx)
    generalize toG i 0 (nds (l.take k)) = ps at *
    have HX:=Hd hx;have HCL:=Hd hcl;have HLN:=Hd hln;clear hx hcl hln
    simp only at hix
    go_wp2_with fail
    go_loopw [5,7] (fun v n wx => ∃ p : Nat,p ≤ xi.length ∧ n = .int .i64 p ∧ wx.ownsRow w.heap.size 181 kindP.K v (ps ++ toIn k i 0 (xi.take p)).length (Rw.row kindP (ps ++ toIn k i 0 (xi.take p))) ∧ Below w.heap.size w wx) (fun _ n _ => xi.length - (intOf n).toNat)
    case atStart => exact ⟨0,by omega,rfl,by simpa [toIn] using HO.out,HB.out⟩
    case round =>
     obtain ⟨p,hp,rfl,hown,hb⟩:=hrel
     have HO2:=Hd hown;have HB2:=Hd hb;clear hown hb HO HB
     obtain ⟨_,_,_,_,c4⟩:=HCL.out wr HB2.out
     by_cases hlp : p < xi.length
     · have hpz : (p : Int) < (xi.length : Int):=by omega
       obtain ⟨z,hz⟩ : ∃ z,xi[p]? = some z:=⟨_,List.getElem?_eq_getElem hlp⟩
       obtain ⟨bb,oo,rfl,_,hq⟩:=ints_at (HG.out.ins HX.out) hz
       have q:=hq wr HB2.out
       have hln2 : (ps ++ toIn k i 0 (xi.take p)).length ≤ 1640:=by
        have:=toIn_len k i (xi.take p) 0
        have:=List.length_take_le p xi
        have:=HLN.out
        rw [List.length_append];omega
       have HTI:=Hd (toIn_take k i hz)
       have HLN2:=Hd hln2;clear hln2 hz hq
       generalize hqs : ps ++ toIn k i 0 (xi.take p) = qs at *
       have HQS:=Hd hqs;clear hqs
       by_cases hzi : z = i
       · subst hzi
         have hbs:=HB2.out.size
         have HBS:=Hd hbs;clear hbs
         go_wp2_with (at_builtin;refine Rw.append_own kindP 181 179 Tryz.underlying179 infoRPort rfl rfl _ _ rfl w.heap.size _ qs.length qs rfl (HO2.out.alloc _) _ 1 [(k,p)] rfl (by simp) (Rw.Ts.made _ [(k,p)] _) (by unfold maxLen;have:=HLN2.out;simp;omega) (by have:=HLN2.out;simp;omega) (by have:=HBS.out;simp;omega) ?_;intro v2 w4 hv2 hg2;have hb2:=Rw.own_below (HO2.out.alloc _) hg2 (HB2.out.alloc HB2.out.size _) (by have:=HBS.out;simp;omega);have HV:=Hd hv2;have HB3:=Hd hb2;clear hv2 hg2 hb2)
         go_roundw
         case rel =>
          refine ⟨p + 1,by omega,by simp,?_,HB3.out⟩
          rw [HTI.out,if_pos rfl,← List.append_assoc,HQS.out,List.length_append]
          exact HV.out
         case measure => simp only [intOf];omega
       · have hzb : (z == i) = false:=by simpa using hzi
         have HN:=Hd hzi;clear hzi
         go_wp2_with fail
         go_roundw
         case rel =>
          refine ⟨p + 1,by omega,by simp,?_,HB2.out⟩
          rw [HTI.out,if_neg HN.out,List.append_nil,HQS.out]
          exact HO2.out
         case measure => simp only [intOf];omega
     · have hpz : ¬ (p : Int) < (xi.length : Int):=by omega
       have hpe : p = xi.length:=by omega
       have HPE:=Hd hpe;clear hpe
       go_wp2_with fail
       go_roundw
       case rel =>
        refine ⟨k + 1,by omega,by simp,?_,HB2.out⟩
        have h:=HO2.out
        rw [HPE.out,List.take_length] at h
        rw [HTK.out]
        exact h
       case measure => simp only [intOf];omega
  · have hltz : ¬ (k : Int) < (l.length : Int):=by omega
    have hke : k = l.length:=by omega
    have HK:=Hd hke;clear hke
    go_wp2_with fail
    go_ret
    refine ⟨⟨_,rfl,?_⟩,HB.out⟩
    have h:=HO.out
    rw [HK.out,List.take_length] at h
    exact h
end

section
def Nd.num (n : Nd) : Bool :=
 if n.k = 2 then decide (n.a ≤ 3 ∧ (n.a ≠ 3 ∨ 0 < n.b))
 else if n.k = 3 then decide (n.a ≤ 2 ∧ (n.a ≠ 1 ∨ 0 < n.b))
 else if n.k = 5 then decide (n.a ≤ 3 ∧ n.b = 0)
 else if n.k = 9 then decide (n.a = 0 ∧ 1 ≤ n.b ∧ n.b ≤ 16)
 else decide (1 ≤ n.k ∧ n.k ≤ 10 ∧ n.a = 0 ∧ n.b = 0)
def Nd.want (n : Nd) : Nat:=if n.k = 1 then 0 else if n.k = 4 ∨ n.k = 6 then 2 else 1
def portOk (g : List Nd) (z : Int) : Prop:=0 ≤ z ∧ ∃ m,g[z.toNat]? = some m ∧ m.k ≠ 10
def Nd.Ports (g : List Nd) (n : Nd) : Prop:=(∀ z ∈ n.ins,portOk g z) ∧ n.ins.length = n.want
def Nd.more (n : Nd) : Int:=if n.k = 7 then 1 else if n.k = 8 then -1 else 0
def Nd.deepB (n : Nd) : Bool:=decide (0 ≤ n.d ∧ n.d ≤ 3 ∧ ((n.k = 1 ∨ n.k = 10) → n.d = 0) ∧ (n.k = 9 → 1 ≤ n.d))
def Nd.Deep (g : List Nd) (n : Nd) : Prop:=n.deepB = true ∧ ∀ z ∈ n.ins,∀ m,g[z.toNat]? = some m → n.d - n.more = m.d
open Classical in
noncomputable def Nd.err (g : List Nd) (n : Nd) : Int:=if n.num = false then 130 else if ¬ n.Ports g then 100 else if ¬ n.Deep g then 101 else 0
noncomputable def nodeE (g : List Nd) (i : Int) : Int:=if i < 0 then 2 else match g[i.toNat]? with | some n => n.err g | none => 2
theorem nodeE_at {g : List Nd} {i : Nat} {n : Nd} (h : g[i]? = some n) : nodeE g (i : Nat) = n.err g:=by
 unfold nodeE;rw [if_neg (by omega),Int.toNat_natCast,h]
theorem nodeE_out {g : List Nd} {i : Int} (h : i < 0 ∨ (g.length : Int) ≤ i) : nodeE g i = 2:=by
 unfold nodeE
 split
 · rfl
 · rw [List.getElem?_eq_none (by omega)]
theorem err_num {g : List Nd} {n : Nd} (h : n.num = false) : n.err g = 130:=by unfold Nd.err;rw [if_pos h]
theorem err_ports {g : List Nd} {n : Nd} (h : n.num = true) (h2 : ¬ n.Ports g) : n.err g = 100:=by unfold Nd.err;rw [if_neg (by simp [h]),if_pos h2]
theorem err_deep {g : List Nd} {n : Nd} (h : n.num = true) (h2 : n.Ports g) (h3 : ¬ n.Deep g) : n.err g = 101:=by unfold Nd.err;rw [if_neg (by simp [h]),if_neg (by simpa using h2),if_pos h3]
theorem err_ok {g : List Nd} {n : Nd} (h : n.num = true) (h2 : n.Ports g) (h3 : n.Deep g) : n.err g = 0:=by unfold Nd.err;rw [if_neg (by simp [h]),if_neg (by simpa using h2),if_neg (by simpa using h3)]
theorem err_zero {g : List Nd} {n : Nd} (h : n.err g = 0) : n.num = true ∧ n.Ports g ∧ n.Deep g:=by
 unfold Nd.err at h
 split at h
 · cases h
 · split at h
   · cases h
   · split at h
     · cases h
     · rename_i h1 h2 h3
       exact ⟨by simpa using h1,by simpa using h2,by simpa using h3⟩
open Classical in
noncomputable def firstP (p : Nat → Prop) : Nat → Option Nat
 | 0 => none
 | n + 1 => match firstP p n with | some i => some i | none => if p n then some n else none
theorem firstP_none {p : Nat → Prop} : ∀ {n : Nat},firstP p n = none ↔ ∀ j,j < n → ¬ p j
 | 0 => by simp [firstP]
 | n + 1 => by
   have ih:=firstP_none (p:=p) (n:=n)
   unfold firstP
   cases h : firstP p n with
   | some i =>
     simp only [reduceCtorEq,false_iff]
     intro hh
     rw [ih.2 fun j hj => hh j (by omega)] at h
     cases h
   | none =>
     have h1:=ih.1 h
     by_cases hp : p n
     · simp only [if_pos hp,reduceCtorEq,false_iff]
       exact fun hh => hh n (by omega) hp
     · simp only [if_neg hp,true_iff]
       intro j hj
       by_cases e : j = n
       · subst e;exact hp
       · exact h1 j (by omega)
theorem firstP_some {p : Nat → Prop} : ∀ {n i : Nat},firstP p n = some i ↔ i < n ∧ p i ∧ ∀ j,j < i → ¬ p j
 | 0,i => by simp [firstP]
 | n + 1,i => by
   have ih:=fun i => firstP_some (p:=p) (n:=n) (i:=i)
   have ihn:=firstP_none (p:=p) (n:=n)
   unfold firstP
   cases h : firstP p n with
   | some k =>
     simp only [Option.some.injEq]
     have hk:=(ih k).1 h
     constructor
     · rintro rfl;exact ⟨by omega,hk.2⟩
     · rintro ⟨h1,h2,h3⟩
       by_cases e : k = i
       · exact e
       · by_cases hlt : k < i
         · exact absurd hk.2.1 (h3 k hlt)
         · exact absurd h2 (hk.2.2 i (by omega))
   | none =>
     have hn:=ihn.1 h
     by_cases hp : p n
     · simp only [if_pos hp,Option.some.injEq]
       constructor
       · rintro rfl;exact ⟨by omega,hp,hn⟩
       · rintro ⟨h1,h2,h3⟩
         by_cases e : n = i
         · exact e
         · exact absurd h2 (hn i (by omega))
     · simp only [if_neg hp,reduceCtorEq,false_iff]
       rintro ⟨h1,h2,h3⟩
       by_cases e : i = n
       · subst e;exact hp h2
       · exact hn i (by omega) h2
def Nd.stays (n : Nd) (least : Int) : Bool:=decide (least < n.d ∨ n.d = least ∧ n.k ≠ 9)
def StepN (g : List Nd) (least : Int) (s t : Nat) : Prop :=
 ∃ x,g[t / 2]? = some x ∧ ((s / 2 : Nat) : Int) ∈ x.ins ∧ x.stays least = true ∧ t = 2 * (t / 2) + if x.d = least then 1 else s % 2
inductive ReachN (g : List Nd) (least : Int) (s : Nat) : Nat → Prop
 | one {t : Nat} : StepN g least s t → ReachN g least s t
 | more {t u : Nat} : ReachN g least s t → StepN g least t u → ReachN g least s u
def startN (x : Nd) (i : Nat) (least : Int) : Nat:=2 * i + if x.d = least then 1 else 0
def Stuck (g : List Nd) (i : Nat) (least : Int) : Prop:=∃ x,g[i]? = some x ∧ x.stays least = true ∧ ReachN g least (startN x i least) (2 * i + 1)
def BadAt (g : List Nd) (i : Nat) : Prop:=∃ x,g[i]? = some x ∧ ∃ least : Int,0 ≤ least ∧ least ≤ x.d ∧ Stuck g i least
theorem ReachN.trans {g : List Nd} {least : Int} {s t u : Nat} (h : ReachN g least s t) (k : ReachN g least t u) : ReachN g least s u:=by
 induction k with
 | one k => exact h.more k
 | more _ k ih => exact ih.more k
theorem StepN.lt {g : List Nd} {least : Int} {s t : Nat} (h : StepN g least s t) : t < 2 * g.length:=by
 obtain ⟨x,hx,_⟩:=h
 have:=(List.getElem?_eq_some_iff.1 hx).1
 omega
noncomputable def checkR (g : List Nd) : Int × Int :=
 if putE g ≠ 0 then (0,putE g)
 else match firstP (fun i => nodeE g i ≠ 0) g.length with
  | some i => ((i : Nat),nodeE g i)
  | none => match firstP (BadAt g) g.length with
    | some i => ((i : Nat),102)
    | none => (g.length,0)
theorem checkR_put {g : List Nd} (h : putE g ≠ 0) : checkR g = (0,putE g):=by unfold checkR;rw [if_pos h]
theorem checkR_node {g : List Nd} {i : Nat} (h : putE g = 0) (hi : i < g.length) (h1 : nodeE g i ≠ 0) (h2 : ∀ j : Nat,j < i → nodeE g j = 0) : checkR g = (((i : Nat) : Int),nodeE g i):=by
 unfold checkR
 rw [if_neg (by simpa using h),firstP_some.2 ⟨hi,h1,fun j hj => by simpa using h2 j hj⟩]
theorem checkR_bad {g : List Nd} {i : Nat} (h : putE g = 0) (h2 : ∀ j : Nat,j < g.length → nodeE g j = 0) (hi : i < g.length) (hb : BadAt g i) (hn : ∀ j,j < i → ¬ BadAt g j) : checkR g = (((i : Nat) : Int),102):=by
 unfold checkR
 rw [if_neg (by simpa using h),firstP_none.2 fun j hj => by simpa using h2 j hj]
 simp only
 rw [firstP_some.2 ⟨hi,hb,hn⟩]
theorem checkR_ok {g : List Nd} (h : putE g = 0) (h2 : ∀ j : Nat,j < g.length → nodeE g j = 0) (hn : ∀ j,j < g.length → ¬ BadAt g j) : checkR g = ((g.length : Int),0):=by
 unfold checkR
 rw [if_neg (by simpa using h),firstP_none.2 fun j hj => by simpa using h2 j hj]
 simp only
 rw [firstP_none.2 hn]
theorem checkR_zero {g : List Nd} (h : (checkR g).2 = 0) : putE g = 0 ∧ (∀ j : Nat,j < g.length → nodeE g j = 0) ∧ (∀ j,j < g.length → ¬ BadAt g j) ∧ checkR g = ((g.length : Int),0):=by
 by_cases h0 : putE g = 0
 · unfold checkR at h
   rw [if_neg (by simpa using h0)] at h
   cases h1 : firstP (fun i => nodeE g i ≠ 0) g.length with
   | some i =>
     rw [h1] at h
     exact absurd h (firstP_some.1 h1).2.1
   | none =>
     rw [h1] at h
     have h1' : ∀ j : Nat,j < g.length → nodeE g j = 0:=fun j hj => Classical.not_not.1 (firstP_none.1 h1 j hj)
     cases h2 : firstP (BadAt g) g.length with
     | some i =>
       rw [h2] at h
       cases h
     | none => exact ⟨h0,h1',firstP_none.1 h2,checkR_ok h0 h1' (firstP_none.1 h2)⟩
 · rw [checkR_put h0] at h
   exact absurd h h0
end

section
theorem mem_toIn {n : Nat} {i : Int} {m q : Nat} : ∀ {l : List Int} {p : Nat},(m,q) ∈ toIn n i p l ↔ m = n ∧ p ≤ q ∧ l[q - p]? = some i
 | [],p => by simp [toIn]
 | x :: l,p => by
   have ih:=mem_toIn (n:=n) (i:=i) (m:=m) (q:=q) (l:=l) (p:=p + 1)
   simp only [toIn,List.mem_append,ih]
   by_cases hq : q = p
   · subst hq
     rw [Nat.sub_self,List.getElem?_cons_zero]
     by_cases hx : x = i
     · simp only [hx,if_true,List.mem_singleton,Prod.mk.injEq,and_true,Nat.le_refl,true_and]
       constructor
       · rintro (h | ⟨_,h,_⟩)
         · exact h
         · omega
       · exact .inl
     · simp only [if_neg hx,List.not_mem_nil,false_or,Option.some.injEq,hx,and_false,iff_false]
       rintro ⟨_,h,_⟩;omega
   · have : (m,q) ∈ (if x = i then [(n,p)] else []) ↔ False:=by
      split
      · simp only [List.mem_singleton,Prod.mk.injEq,iff_false];rintro ⟨_,h⟩;exact hq h
      · simp
     rw [this,false_or]
     constructor
     · rintro ⟨h1,h2,h3⟩
       refine ⟨h1,by omega,?_⟩
       rw [show q - p = (q - (p + 1)) + 1 by omega,List.getElem?_cons_succ];exact h3
     · rintro ⟨h1,h2,h3⟩
       rw [show q - p = (q - (p + 1)) + 1 by omega,List.getElem?_cons_succ] at h3
       exact ⟨h1,by omega,h3⟩
theorem mem_toG {i : Int} {m q : Nat} : ∀ {g : List Nd} {n : Nat},(m,q) ∈ toG i n g ↔ n ≤ m ∧ ∃ x,g[m - n]? = some x ∧ x.ins[q]? = some i
 | [],n => by simp [toG]
 | y :: g,n => by
   have ih:=mem_toG (i:=i) (m:=m) (q:=q) (g:=g) (n:=n + 1)
   simp only [toG,List.mem_append,ih,mem_toIn]
   by_cases hm : m = n
   · subst hm
     rw [Nat.sub_self,List.getElem?_cons_zero]
     constructor
     · rintro (⟨_,_,h⟩ | ⟨h,_⟩)
       · exact ⟨Nat.le_refl _,y,rfl,by simpa using h⟩
       · omega
     · rintro ⟨_,x,hx,h⟩
       simp only [Option.some.injEq] at hx
       subst hx
       exact .inl ⟨rfl,Nat.zero_le _,by simpa using h⟩
   · constructor
     · rintro (⟨h,_⟩ | ⟨h,x,hx,h2⟩)
       · exact absurd h hm
       · exact ⟨by omega,x,by rw [show m - n = (m - (n + 1)) + 1 by omega,List.getElem?_cons_succ];exact hx,h2⟩
     · rintro ⟨h,x,hx,h2⟩
       rw [show m - n = (m - (n + 1)) + 1 by omega,List.getElem?_cons_succ] at hx
       exact .inr ⟨by omega,x,hx,h2⟩
def nextC (least : Int) (s n : Nat) (x : Nd) : Nat:=2 * n + if x.d = least then 1 else s % 2
theorem nextC_half (least : Int) (s n : Nat) (x : Nd) : nextC least s n x / 2 = n:=by unfold nextC;split <;> omega
theorem step_port {g : List Nd} {least : Int} {s t : Nat} : StepN g least s t ↔ ∃ (n p : Nat) (x : Nd),(n,p) ∈ toG ((s / 2 : Nat) : Int) 0 g ∧ g[n]? = some x ∧ x.stays least = true ∧ t = nextC least s n x:=by
 constructor
 · rintro ⟨x,hx,hin,hs,ht⟩
   obtain ⟨p,hp⟩:=List.getElem?_of_mem hin
   exact ⟨t / 2,p,x,mem_toG.2 ⟨Nat.zero_le _,x,by simpa using hx,hp⟩,hx,hs,ht⟩
 · rintro ⟨n,p,x,hm,hx,hs,rfl⟩
   obtain ⟨_,y,hy,hp⟩:=mem_toG.1 hm
   rw [Nat.sub_zero,hx] at hy
   injection hy with hy
   subst hy
   refine ⟨x,by rw [nextC_half];exact hx,List.mem_of_getElem? hp,hs,?_⟩
   rw [nextC_half];rfl
theorem count_set : ∀ {l : List Bool} {t : Nat},l[t]? = some false → (l.set t true).count false + 1 = l.count false
 | [],t,h => by simp at h
 | x :: l,0,h => by
   simp only [List.getElem?_cons_zero,Option.some.injEq] at h
   subst h
   simp [List.set_cons_zero,List.count_cons]
 | x :: l,t + 1,h => by
   rw [List.getElem?_cons_succ] at h
   have ih:=count_set h
   rw [List.set_cons_succ,List.count_cons,List.count_cons]
   omega
structure Bfs (g : List Nd) (least : Int) (first tgt i : Nat) (todo : List Nat) (seen : List Bool) : Prop where
 len : seen.length = 2 * g.length
 head : todo[0]? = some first
 reach : ∀ s ∈ todo,s = first ∨ ReachN g least first s
 mem : ∀ t : Nat,seen[t]? = some true → t ∈ todo
 done : ∀ j s,j < i → todo[j]? = some s → ∀ t,StepN g least s t → t ≠ tgt ∧ seen[t]? = some true
 cnt : todo.length + seen.count false = 1 + 2 * g.length
structure BfsIn (g : List Nd) (least : Int) (first tgt i : Nat) (todo : List Nat) (seen : List Bool) (s k : Nat) : Prop where
 base : Bfs g least first tgt i todo seen
 cur : todo[i]? = some s
 part : ∀ (j n p : Nat) (x : Nd),j < k → (toG ((s / 2 : Nat) : Int) 0 g)[j]? = some (n,p) → g[n]? = some x → x.stays least = true → nextC least s n x ≠ tgt ∧ seen[nextC least s n x]? = some true
section
variable {g : List Nd} {least : Int} {first tgt i s k n p : Nat} {todo : List Nat} {seen : List Bool} {x : Nd}
theorem Bfs.start (g : List Nd) (least : Int) (first tgt : Nat) : Bfs g least first tgt 0 [first] (List.replicate (2 * g.length) false) where
 len:=List.length_replicate
 head:=rfl
 reach:=fun s hs => .inl (by simpa using hs)
 mem:=fun t ht => by
  have:=List.eq_of_mem_replicate (List.mem_of_getElem? ht)
  cases this
 done:=fun j s hj => absurd hj (by omega)
 cnt:=by rw [List.count_replicate_self];simp
theorem Bfs.bound (h : Bfs g least first tgt i todo seen) : todo.length ≤ 1 + 2 * g.length:=by have:=h.cnt;omega
theorem Bfs.in_ (h : Bfs g least first tgt i todo seen) (hs : todo[i]? = some s) : BfsIn g least first tgt i todo seen s 0:=⟨h,hs,fun j n p x hj => absurd hj (by omega)⟩
theorem BfsIn.skip (h : BfsIn g least first tgt i todo seen s k) (hk : (toG ((s / 2 : Nat) : Int) 0 g)[k]? = some (n,p)) (hx : g[n]? = some x) (hn : x.stays least = false) : BfsIn g least first tgt i todo seen s (k + 1) :=
 ⟨h.base,h.cur,fun j m q y hj hm hy hs => by
  by_cases e : j = k
  · subst e
    rw [hk] at hm
    simp only [Option.some.injEq,Prod.mk.injEq] at hm
    obtain ⟨rfl,rfl⟩:=hm
    rw [hx] at hy;injection hy with hy;subst hy
    rw [hn] at hs;cases hs
  · exact h.part j m q y (by omega) hm hy hs⟩
theorem BfsIn.old (h : BfsIn g least first tgt i todo seen s k) (hk : (toG ((s / 2 : Nat) : Int) 0 g)[k]? = some (n,p)) (hx : g[n]? = some x) (ht : nextC least s n x ≠ tgt) (hs : seen[nextC least s n x]? = some true) : BfsIn g least first tgt i todo seen s (k + 1) :=
 ⟨h.base,h.cur,fun j m q y hj hm hy hs' => by
  by_cases e : j = k
  · subst e
    rw [hk] at hm
    simp only [Option.some.injEq,Prod.mk.injEq] at hm
    obtain ⟨rfl,rfl⟩:=hm
    rw [hx] at hy;injection hy with hy;subst hy
    exact ⟨ht,hs⟩
  · exact h.part j m q y (by omega) hm hy hs'⟩
theorem BfsIn.step (h : BfsIn g least first tgt i todo seen s k) (hk : (toG ((s / 2 : Nat) : Int) 0 g)[k]? = some (n,p)) (hx : g[n]? = some x) (hs : x.stays least = true) : ReachN g least first (nextC least s n x):=by
 have st : StepN g least s (nextC least s n x):=step_port.2 ⟨n,p,x,List.mem_of_getElem? hk,hx,hs,rfl⟩
 rcases h.base.reach s (List.mem_of_getElem? h.cur) with rfl | hr
 · exact .one st
 · exact hr.more st
theorem BfsIn.push (h : BfsIn g least first tgt i todo seen s k) (hk : (toG ((s / 2 : Nat) : Int) 0 g)[k]? = some (n,p)) (hx : g[n]? = some x) (hs : x.stays least = true) (ht : nextC least s n x ≠ tgt) (hn : seen[nextC least s n x]? = some false) :
 BfsIn g least first tgt i (todo ++ [nextC least s n x]) (seen.set (nextC least s n x) true) s (k + 1):=by
 have hl:=(List.getElem?_eq_some_iff.1 hn).1
 have hi:=(List.getElem?_eq_some_iff.1 h.cur).1
 have up : ∀ t : Nat,seen[t]? = some true → (seen.set (nextC least s n x) true)[t]? = some true:=fun t hh => by
  by_cases e : nextC least s n x = t
  · rw [← e,List.getElem?_set_self hl]
  · rw [List.getElem?_set_ne e];exact hh
 refine ⟨⟨by rw [List.length_set];exact h.base.len,?_,?_,?_,?_,?_⟩,?_,?_⟩
 · rw [List.getElem?_append_left (by omega)];exact h.base.head
 · intro t hm
   rcases List.mem_append.1 hm with hm | hm
   · exact h.base.reach t hm
   · simp only [List.mem_singleton] at hm
     subst hm
     exact .inr (h.step hk hx hs)
 · intro t hh
   by_cases e : nextC least s n x = t
   · exact List.mem_append.2 (.inr (by simp [e]))
   · rw [List.getElem?_set_ne e] at hh
     exact List.mem_append.2 (.inl (h.base.mem t hh))
 · intro j s' hj hs' t hst
   rw [List.getElem?_append_left (by omega)] at hs'
   have:=h.base.done j s' hj hs' t hst
   exact ⟨this.1,up t this.2⟩
 · have:=h.base.cnt
   have:=count_set hn
   rw [List.length_append,List.length_singleton];omega
 · rw [List.getElem?_append_left hi];exact h.cur
 · intro j m q y hj hm hy hs'
   by_cases e : j = k
   · subst e
     rw [hk] at hm
     simp only [Option.some.injEq,Prod.mk.injEq] at hm
     obtain ⟨rfl,rfl⟩:=hm
     rw [hx] at hy;injection hy with hy;subst hy
     exact ⟨ht,List.getElem?_set_self hl⟩
   · have:=h.part j m q y (by omega) hm hy hs'
     exact ⟨this.1,up _ this.2⟩
theorem BfsIn.ends (h : BfsIn g least first tgt i todo seen s k) (hk : k = (toG ((s / 2 : Nat) : Int) 0 g).length) : Bfs g least first tgt (i + 1) todo seen :=
 ⟨h.base.len,h.base.head,h.base.reach,h.base.mem,fun j s' hj hs' t hst => by
  by_cases e : j = i
  · subst e
    rw [h.cur] at hs';injection hs' with hs';subst hs'
    obtain ⟨n,p,x,hm,hx,hsx,rfl⟩:=step_port.1 hst
    obtain ⟨j',hj'⟩:=List.getElem?_of_mem hm
    have:=(List.getElem?_eq_some_iff.1 hj').1
    exact h.part j' n p x (by omega) hj' hx hsx
  · exact h.base.done j s' (by omega) hs' t hst,h.base.cnt⟩
theorem Bfs.no (h : Bfs g least first tgt i todo seen) (hi : i = todo.length) : ¬ ReachN g least first tgt:=by
 have all : ∀ t,ReachN g least first t → t ≠ tgt ∧ t ∈ todo:=by
  intro t ht
  induction ht with
  | one hs =>
    have:=h.done 0 first (by have:=(List.getElem?_eq_some_iff.1 h.head).1;omega) h.head _ hs
    exact ⟨this.1,h.mem _ this.2⟩
  | more _ hs ih =>
    obtain ⟨j,hj⟩:=List.getElem?_of_mem ih.2
    have:=h.done j _ (by have:=(List.getElem?_eq_some_iff.1 hj).1;omega) hj _ hs
    exact ⟨this.1,h.mem _ this.2⟩
 intro hr
 exact (all tgt hr).1 rfl
end
end

section
def Sm.A (a b : Sm) : Prop:=a.fr < b.fr ∨ a.fr = b.fr ∧ (a.to < b.to ∨ a.to = b.to ∧ (a.kp < b.kp ∨ a.kp = b.kp ∧ (a.ad < b.ad ∨ a.ad = b.ad ∧ (a.t0 < b.t0 ∨ a.t0 = b.t0 ∧ (a.t1 < b.t1 ∨ a.t1 = b.t1 ∧ a.t2 < b.t2)))))
instance (a b : Sm) : Decidable (a.A b):=inferInstanceAs (Decidable (_ ∨ _))
section
variable {a b c s t x y z : Sm} {f g l m : List Sm}
theorem Sm.A_irrefl : ¬ x.A x:=by unfold Sm.A;omega
theorem Sm.A_trans (h : x.A y) (k : y.A z) : x.A z:=by unfold Sm.A at *;omega
theorem Sm.A_total (h : x ≠ y) : x.A y ∨ y.A x:=by
 have : ¬ (x.fr = y.fr ∧ x.to = y.to ∧ x.kp = y.kp ∧ x.ad = y.ad ∧ x.t0 = y.t0 ∧ x.t1 = y.t1 ∧ x.t2 = y.t2):=fun e => h (Sm.ext_iff'.2 e)
 unfold Sm.A;omega
theorem sums_ext : ∀ {f g : List Sm},f.Pairwise Sm.A → g.Pairwise Sm.A → (∀ t,t ∈ f ↔ t ∈ g) → f = g
 | [],[],_,_,_ => rfl
 | [],y :: g,_,_,h => absurd ((h y).2 List.mem_cons_self) (by simp)
 | x :: f,[],_,_,h => absurd ((h x).1 List.mem_cons_self) (by simp)
 | x :: f,y :: g,hf,hg,h => by
   rw [List.pairwise_cons] at hf hg
   have hxy : x = y:=by
    have h1:=(h x).1 List.mem_cons_self
    have h2:=(h y).2 List.mem_cons_self
    rcases List.mem_cons.1 h1 with e | h1
    · exact e
    · rcases List.mem_cons.1 h2 with e | h2
      · exact e.symm
      · exact absurd (Sm.A_trans (hf.1 y h2) (hg.1 x h1)) Sm.A_irrefl
   subst hxy
   congr 1
   refine sums_ext hf.2 hg.2 fun t => ⟨fun ht => ?_,fun ht => ?_⟩
   · rcases List.mem_cons.1 ((h t).1 (List.mem_cons_of_mem _ ht)) with e | h1
     · exact absurd (e ▸ hf.1 t ht) Sm.A_irrefl
     · exact h1
   · rcases List.mem_cons.1 ((h t).2 (List.mem_cons_of_mem _ ht)) with e | h1
     · exact absurd (e ▸ hg.1 t ht) Sm.A_irrefl
     · exact h1
def Sm.size (s : Sm) : Nat:=(s.kp + s.N 0 + s.N 1 + s.N 2).toNat
theorem Sm.size_lt (h : x.L y) (hne : x ≠ y) : x.size < y.size:=by
 have l0:=Sm.L_at h (i:=0) (by omega) (by omega);have l1:=Sm.L_at h (i:=1) (by omega) (by omega);have l2:=Sm.L_at h (i:=2) (by omega) (by omega)
 obtain ⟨hx,hy,hf,ht,hk,-⟩:=id h
 have n0:=Sm.N_R hx 0;have n1:=Sm.N_R hx 1;have n2:=Sm.N_R hx 2
 have hx':=hx;unfold Sm.R at hx'
 have : ¬ (x.kp = y.kp ∧ x.N 0 = y.N 0 ∧ x.N 1 = y.N 1 ∧ x.N 2 = y.N 2):=fun ⟨e,e0,e1,e2⟩ => hne (Sm.N_ext hx hy hf ht e fun i hi hi3 => by
  have : i = 0 ∨ i = 1 ∨ i = 2:=by omega
  rcases this with q | q | q <;> subst q <;> assumption)
 unfold Sm.size;omega
def LeastW (l : List Sm) (t : Sm) : Prop:=t.R ∧ ∀ z ∈ l,z.L t → z = t
instance (l : List Sm) (t : Sm) : Decidable (LeastW l t):=inferInstanceAs (Decidable (_ ∧ ∀ z ∈ l,_))
theorem leastW_below (l : List Sm) : ∀ (n : Nat) (x : Sm),x.size ≤ n → x ∈ l → x.R → ∃ y ∈ l,y.L x ∧ LeastW l y:=by
 intro n
 induction n with
 | zero =>
   intro x hn hx hr
   refine ⟨x,hx,Sm.L_refl.2 hr,hr,fun z hz hl => ?_⟩
   by_cases e : z = x
   · exact e
   · have:=Sm.size_lt hl e;omega
 | succ n ih =>
   intro x hn hx hr
   by_cases h : ∀ z ∈ l,z.L x → z = x
   · exact ⟨x,hx,Sm.L_refl.2 hr,hr,h⟩
   · have ⟨z,hz⟩ : ∃ z,z ∈ l ∧ z.L x ∧ z ≠ x:=by
      apply Classical.byContradiction
      intro hn
      apply h
      intro z hz hl
      apply Classical.byContradiction
      intro hne
      exact hn ⟨z,hz,hl,hne⟩
     obtain ⟨hz,hl,hne⟩:=hz
     obtain ⟨y,hy,hyz,hmin⟩:=ih z (by have:=Sm.size_lt hl hne;omega) hz hl.1
     exact ⟨y,hy,Sm.L_trans hyz hl,hmin⟩
def insW (t : Sm) : List Sm → List Sm
 | [] => [t]
 | y :: r => if y.A t then y :: insW t r else t :: y :: r
theorem mem_insW {t x : Sm} : ∀ {l : List Sm},x ∈ insW t l ↔ x = t ∨ x ∈ l
 | [] => by simp [insW]
 | y :: r => by
   unfold insW
   split
   · rw [List.mem_cons,mem_insW,List.mem_cons]
     constructor
     · rintro (h | h | h)
       · exact .inr (.inl h)
       · exact .inl h
       · exact .inr (.inr h)
     · rintro (h | h | h)
       · exact .inr (.inl h)
       · exact .inl h
       · exact .inr (.inr h)
   · simp
theorem insW_sort {t : Sm} : ∀ {l : List Sm},l.Pairwise Sm.A → t ∉ l → (insW t l).Pairwise Sm.A
 | [],_,_ => by simp [insW]
 | y :: r,h,hn => by
   have hh:=h
   rw [List.pairwise_cons] at h
   unfold insW
   split
   · rename_i hc
     rw [List.pairwise_cons]
     refine ⟨fun x hx => ?_,insW_sort h.2 (fun hm => hn (List.mem_cons_of_mem _ hm))⟩
     rcases mem_insW.1 hx with e | hx
     · rw [e];exact hc
     · exact h.1 x hx
   · rename_i hc
     have hty : t.A y:=by
      rcases Sm.A_total (x:=t) (y:=y) (fun e => hn (by rw [e];exact List.mem_cons_self)) with h1 | h1
      · exact h1
      · exact absurd h1 hc
     rw [List.pairwise_cons]
     refine ⟨fun x hx => ?_,hh⟩
     rcases List.mem_cons.1 hx with e | hx
     · rw [e];exact hty
     · exact Sm.A_trans hty (h.1 x hx)
def waysIn (l : List Sm) : List Sm → List Sm
 | [] => []
 | t :: r => if LeastW l t ∧ t ∉ waysIn l r then insW t (waysIn l r) else waysIn l r
def waysS (l : List Sm) : List Sm:=waysIn l l
theorem mem_waysIn (l : List Sm) : ∀ {m : List Sm},x ∈ waysIn l m ↔ x ∈ m ∧ LeastW l x
 | [] => by simp [waysIn]
 | t :: r => by
   unfold waysIn
   split
   · rename_i h
     rw [mem_insW,mem_waysIn l,List.mem_cons]
     constructor
     · rintro (e | ⟨h1,h2⟩)
       · subst e;exact ⟨.inl rfl,h.1⟩
       · exact ⟨.inr h1,h2⟩
     · rintro ⟨e | h1,h2⟩
       · exact .inl e
       · exact .inr ⟨h1,h2⟩
   · rename_i h
     rw [mem_waysIn l,List.mem_cons]
     constructor
     · rintro ⟨h1,h2⟩;exact ⟨.inr h1,h2⟩
     · rintro ⟨e | h1,h2⟩
       · subst e
         have : x ∈ waysIn l r:=Classical.byContradiction fun hn => h ⟨h2,hn⟩
         rw [mem_waysIn l] at this;exact this
       · exact ⟨h1,h2⟩
theorem waysIn_sort (l : List Sm) : ∀ m : List Sm,(waysIn l m).Pairwise Sm.A
 | [] => List.Pairwise.nil
 | t :: r => by
   unfold waysIn
   split
   · rename_i h;exact insW_sort (waysIn_sort l r) h.2
   · exact waysIn_sort l r
theorem mem_waysS : x ∈ waysS l ↔ x ∈ l ∧ LeastW l x:=mem_waysIn l
theorem waysS_eq (hs : f.Pairwise Sm.A) (hm : ∀ x,x ∈ f ↔ x ∈ l ∧ LeastW l x) : f = waysS l :=
 sums_ext hs (waysIn_sort l l) fun x => (hm x).trans mem_waysS.symm
theorem waysS_covers (hx : x ∈ l) (hr : x.R) : ∃ y ∈ waysS l,y.L x:=by
 obtain ⟨y,hy,hyx,hmin⟩:=leastW_below l _ x (Nat.le_refl _) hx hr
 exact ⟨y,mem_waysS.2 ⟨hy,hmin⟩,hyx⟩
theorem waysS_apart (hx : x ∈ waysS l) (hy : y ∈ waysS l) (h : x.L y) : x = y:=(mem_waysS.1 hy).2.2 x (mem_waysS.1 hx).1 h
theorem waysS_self : waysS (waysS l) = waysS l :=
 (waysS_eq (waysIn_sort l l) fun x => ⟨fun h => ⟨h,(mem_waysS.1 h).2.1,fun z hz hl => waysS_apart hz h hl⟩,fun h => h.1⟩).symm
/-! the row is as the document makes it: each in turn takes its place, unless another one is ahead, or it stood before -/
end
end
end Go.Proofs.YtonelpnhoiajgaaGreatDoor
