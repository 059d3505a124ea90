import Derived.Test.YtonelpnhoiajgaaGreatDoorHd
import Derived.Test.YtonelpnhoiajgaaGreatDoorCa18
namespace Go.Proofs.YtonelpnhoiajgaaGreatDoor
set_option linter.unusedSimpArgs false
set_option linter.unusedVariables false
section
open Go.ChangeShapes Go.WideShapes Go.ChangeAt Go.RowKit Go.BigFrame
set_option maxRecDepth 100000
def WayM (w : World) (base p F : Nat) (A : Option Addr) (c : Nat) (lg : List Gn) (f t : Int) (e : Ending) (w' : World) : Prop :=
 ∃ (wm : World) (v : Value) (l : List Sm) (fs : List (Option Sl)),e = .returned v ∧ WaysOf (nds lg) f t l ∧ w'.ownsRow wm.heap.size 82 kindS.K v l.length (Rw.row kindS l) ∧ Pth wm base p F A c lg fs ∧ Touch (fun b => b = F) w wm ∧ Below wm.heap.size wm w'
theorem ways_mid (p F c base : Nat) (A : Option Addr) (lg : List Gn) (fs : List (Option Sl)) (f t : Int) (w : World) (hP : Pth w base p F A c lg fs) (hl : lg.length ≤ 14) (hI : ∀ x ∈ nds lg,x.ins.length ≤ 40) (hFi : Fine (nds lg)) :
 Calls Tryz.prog 38 #[.pointer (some ⟨p,0,none⟩),.int .i64 f,.int .i64 t] w (WayM w base p F A c lg f t):=by
 have H:=Hd (least_any p F c base A lg fs f t w hP hl hI hFi);clear hP hI hFi
 go_enter Tryz.func38,Tryz.ntmps38
 go_wp2_with fail
 refine H.out.mono ?_;rintro e w1 ⟨⟨v,l,rfl,hw,LA,lc,rfl,hT,h1,h2,h3⟩,⟨fs',hP⟩,ht⟩
 have HCL:=Hd (cloneS_any LA l lc w1 hT (fun e => ⟨h3 e,List.eq_nil_of_length_eq_zero (by have:=h3 e;omega)⟩) (by have:=hw.len;omega))
 have HW:=Hd (And.intro hw (And.intro hP ht));clear hw hT h1 h2 h3 hP ht
 dsimp only
 go_wp2_with fail
 refine HCL.out.mono ?_;rintro e w2 ⟨⟨v2,rfl,ho⟩,hb⟩
 have HO:=Hd (And.intro ho hb);clear ho hb HCL
 dsimp only
 go_wp2_with fail
 go_ret
 exact ⟨w1,_,l,fs',rfl,HW.out.1,HO.out.1,HW.out.2.1,HW.out.2.2,HO.out.2⟩
structure OwnW (lo hi g0 : Nat) (l : List Gn) (w : World) : Prop where
 row : ∃ cur : List Value,Row w g0 58 cur ∧ ∀ (i : Nat) (x : Gn),l[i]? = some x → (∃ z : Nat,cur[i * 5]? = some (.int .u8 (z : Nat))) ∧ cur[i * 5 + 4]? = some (.slice x.A x.nd.ins.length x.c)
 at_ : lo ≤ g0 ∧ g0 < hi
 ins : ∀ (i : Nat) (x : Gn),l[i]? = some x → 0 < x.nd.ins.length → ∃ b,x.A = some ⟨b,0,none⟩ ∧ (lo ≤ b ∧ b < hi) ∧ ∃ cur : List Value,Row w b 3 cur ∧ ∀ j,j < x.nd.ins.length → ∃ z : Int,cur[j]? = some (.int .i64 z)
section
variable {w w' : World} {lo hi g0 i j : Nat} {l : List Gn} {x : Gn}
theorem own_row {base n K : Nat} {T : TypeId} {v : Value} {xs : List Value} (h : w.ownsRow base T K v n xs) (hn : 0 < n) : ∃ (g c : Nat) (cur : List Value),v = .slice (some ⟨g,0,none⟩) n c ∧ base ≤ g ∧ Row w g T cur ∧ ∀ (j : Nat) (u : Value),xs[j]? = some u → cur[j]? = some u:=by
 obtain ⟨hl,⟨_,h0⟩ | ⟨g,cap,cur,e,hg,hh,h1,h2,h3,h4⟩⟩:=h
 · omega
 · refine ⟨g,cap,cur.toList,e,hg,by show w.heap[g]? = _;rw [hh,Array.toArray_toList],fun j u hu => ?_⟩
   rw [← h4,List.getElem?_take] at hu
   split at hu
   · exact hu
   · cases hu
theorem OwnW.of (v : Value) (h : OwnG w lo v l) (hn : 0 < l.length) : ∃ g0 c,v = .slice (some ⟨g0,0,none⟩) l.length c ∧ OwnW lo w.heap.size g0 l w:=by
 obtain ⟨g,c,cur,e,hg,hr,hc⟩:=own_row h.row hn
 refine ⟨g,c,e,⟨cur,hr,fun i x hx => ⟨⟨x.nd.k,?_⟩,?_⟩⟩,⟨hg,hr.lt⟩,fun i x hx hpos => ?_⟩
 · exact hc _ _ (Rw.row_at (κ:=kindG) l i x hx 0 _ rfl)
 · exact hc _ _ (Rw.row_at (κ:=kindG) l i x hx 4 _ rfl)
 · obtain ⟨b,c',cur',e',hb,hr',hc'⟩:=own_row (h.ins x (List.mem_of_getElem? hx)) hpos
   injection e' with e1 e2 e3
   refine ⟨b,e1,⟨hb,hr'.lt⟩,cur',hr',fun j hj => ?_⟩
   obtain ⟨z,hz⟩ : ∃ z,x.nd.ins[j]? = some z:=⟨_,List.getElem?_eq_getElem hj⟩
   refine ⟨z,hc' _ _ ?_⟩
   have:=Rw.row_at (κ:=kindI) x.nd.ins j z hz 0 _ rfl
   simpa [kindI] using this
theorem row_far {b b' o : Nat} {T : TypeId} {cur : List Value} {u : Value} (h : Row w b T cur) (hne : b ≠ b') : Row (w.setCell ⟨b',o,none⟩ u) b T cur:=(Below.heap_setCell w ⟨b',o,none⟩ u b hne).trans h
theorem OwnW.kind (h : OwnW lo hi g0 l w) (z : Nat) : OwnW lo hi g0 l (w.setCell ⟨g0,i * 5,none⟩ (.int .u8 (z : Nat))):=by
 obtain ⟨⟨cur,hr,hc⟩,ha,hins⟩:=h
 refine ⟨⟨_,hr.put (i * 5) _,fun k x hx => ⟨?_,?_⟩⟩,ha,fun k x hx hpos => ?_⟩
 · obtain ⟨y,hy⟩:=(hc k x hx).1
   by_cases e : i * 5 = k * 5
   · rw [e,List.getElem?_set_self (List.getElem?_eq_some_iff.1 hy).1];exact ⟨z,rfl⟩
   · rw [List.getElem?_set_ne e];exact ⟨y,hy⟩
 · rw [List.getElem?_set_ne (by omega)];exact (hc k x hx).2
 · obtain ⟨b,e,hb,cur',hr',hc'⟩:=hins k x hx hpos
   exact ⟨b,e,hb,cur',row_far hr' (fun e => by subst e;have:=hr.symm.trans hr';simp only [Option.some.injEq,Obj.cells.injEq] at this;exact absurd this.2.1 (by decide)),hc'⟩
theorem OwnW.input {b' : Nat} {cur0 : List Value} (h : OwnW lo hi g0 l w) (hr0 : Row w b' 3 cur0) (o : Nat) (z : Int) : OwnW lo hi g0 l (w.setCell ⟨b',o,none⟩ (.int .i64 z)):=by
 obtain ⟨⟨cur,hr,hc⟩,ha,hins⟩:=h
 refine ⟨⟨cur,row_far hr (fun e => by subst e;have:=hr.symm.trans hr0;simp only [Option.some.injEq,Obj.cells.injEq] at this;exact absurd this.2.1 (by decide)),hc⟩,ha,fun k x hx hpos => ?_⟩
 obtain ⟨b,e,hb,cur',hr',hc'⟩:=hins k x hx hpos
 by_cases eb : b = b'
 · subst eb
   refine ⟨b,e,hb,_,hr'.put o _,fun j hj => ?_⟩
   obtain ⟨y,hy⟩:=hc' j hj
   by_cases eo : o = j
   · subst eo;rw [List.getElem?_set_self (List.getElem?_eq_some_iff.1 hy).1];exact ⟨z,rfl⟩
   · rw [List.getElem?_set_ne eo];exact ⟨y,hy⟩
 · exact ⟨b,e,hb,cur',row_far hr' eb,hc'⟩
end
end
end Go.Proofs.YtonelpnhoiajgaaGreatDoor
