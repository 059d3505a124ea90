import Derived.Test.YtonelpnhoiajgaaGreatDoorHd
import Derived.Below
import Derived.Laws.OwnMore
import Derived.Deep.Draws
import Derived.Laws.Rows
import Derived.Deep.QuietTactic
import Derived.BigQuiet
import Derived.Test.YtonelpnhoiajgaaGreatDoorRows
import Derived.WalkKit
import Derived.ProofKit
import Derived.OpenShut
import Derived.Carry
import Derived.Lib.Hide
import Derived.IntWalk
import Derived.StillTailTactics
import Derived.Deep.Quiet
import Derived.StillTail
import Derived.Laws.CopyOwn
import Derived.Laws.Tables
import Derived.Laws.StructEq
namespace Go.Proofs.YtonelpnhoiajgaaGreatDoor
set_option linter.unusedSimpArgs false
set_option maxRecDepth 100000
open Go.ChangeShapes Go.WideShapes Go.ChangeAt Go.RowKit Go.BigFrame
set_option linter.unusedVariables false
section
open Go.RowKit

def Row (w : World) (g : Nat) (t : TypeId) (l : List Value) : Prop:=w.heap[g]? = some (.cells l.toArray t (0,0))

section
variable {w w' : World} {g : Nat} {t : TypeId} {l : List Value}
theorem Row.lt (h : Row w g t l) : g < w.heap.size:=by
 unfold Row at h
 by_cases hg : g < w.heap.size
 · exact hg
 · rw [Array.getElem?_eq_none (by omega)] at h;cases h
theorem Row.cell (h : Row w g t l) (i : Nat) : w.cell? ⟨g,i,none⟩ = l[i]?:=by
 rw [cell_of_row w g i l.toArray t (0,0) h];simp
theorem Row.free (h : Row w g t l) (i : Nat) : w.frozen? ⟨g,i,none⟩ = false:=by
 unfold Row at h;simp [World.frozen?,h]
theorem Row.made (w : World) (t : TypeId) (l : List Value) : Row (w.alloc (.cells l.toArray t)) w.heap.size t l:=heap_alloc_new w _
theorem Row.drew (h : Row w g t l) : Row w.drew g t l:=h
theorem Row.drewN (h : Row w g t l) (n : Nat) : Row (w.drewN n) g t l:=h
theorem Row.alloc (h : Row w g t l) (o : Obj) : Row (w.alloc o) g t l:=(Below.heap_alloc w o g h.lt).trans h
theorem Row.put (h : Row w g t l) (i : Nat) (u : Value) : Row (w.setCell ⟨g,i,none⟩ u) g t (l.set i u):=by
 unfold Row at h ⊢
 simp [World.setCell,Array.getElem?_modify,h]
theorem Row.far (h : Row w g t l) {p : Addr} (hp : g ≠ p.block) (u : Value) : Row (w.setCell p u) g t l:=(Below.heap_setCell w p u g hp).trans h
theorem Row.below {B : Nat} (h : Row w g t l) (hb : Below B w w') (hg : g < B) : Row w' g t l:=(hb.block g hg).trans h
theorem Row.grown {row : Option Nat} (h : Row w g t l) (hb : w.grownBy w' row) (hg : some g ≠ row) : Row w' g t l:=(hb.block g h.lt hg).trans h
theorem Row.apart {g' : Nat} {t' : TypeId} {l' : List Value} (h : Row w g t l) (h' : Row w g' t' l') (hne : t ≠ t') : g ≠ g':=by
 intro e;subst e
 unfold Row at h h';rw [h] at h';injection h' with h';injection h' with _ ht;exact hne ht
end
def Bytes (w : World) (A : Option Addr) (xs : List Nat) : Prop :=
 (∀ x ∈ xs,x < 256) ∧ (0 < xs.length → ∃ ad : Addr,A = some ad ∧ ad.block < w.heap.size ∧ ∀ (j x : Nat),xs[j]? = some x → w.cell? (ad.add j) = some (.int .u8 (x : Nat)))
theorem add_block (a : Addr) (n : Nat) : (a.add n).block = a.block:=by unfold Addr.add;split <;> rfl
theorem Row.of_full {w : World} {base g n : Nat} {t : TypeId} {l : List Value} (h : w.ownsRow base t 1 (.slice (some ⟨g,0,none⟩) n n) n l) : Row w g t l:=by
 obtain ⟨hlen,h | ⟨g',cap,cur,hv,_,hh,_,_,hs,ht⟩⟩:=h
 · cases h.1
 · injection hv with hv1 _ hv2
   injection hv1 with hv1
   injection hv1 with hv1
   subst hv1;subst hv2
   have hs' : cur.size = n:=by omega
   have : cur.toList = l:=by rw [← ht,List.take_of_length_le (by simp;omega)]
   unfold Row;rw [hh,← this]
section
variable {w w' : World} {A : Option Addr} {xs : List Nat}
theorem Bytes.lt (h : Bytes w A xs) {k x : Nat} (hx : xs[k]? = some x) : x < 256:=h.1 x (List.mem_of_getElem? hx)
theorem Bytes.take (h : Bytes w A xs) (k : Nat) : Bytes w A (xs.take k) :=
 ⟨fun x hx => h.1 x (List.mem_of_mem_take hx),fun hn => by
  rw [List.length_take] at hn
  obtain ⟨ad,e,hlt,hc⟩:=h.2 (by omega)
  refine ⟨ad,e,hlt,fun j x hx => ?_⟩
  rw [List.getElem?_take] at hx
  split at hx
  · exact hc j x hx
  · cases hx⟩
theorem Bytes.at_ (h : Bytes w A xs) {k : Nat} (hk : k < xs.length) :
 ∃ ad x,A = some ad ∧ ad.block < w.heap.size ∧ xs[k]? = some x ∧ x < 256 ∧ w.cell? (ad.add k) = some (.int .u8 (x : Nat)):=by
 obtain ⟨ad,e,hlt,hc⟩:=h.2 (by omega)
 have hx:=List.getElem?_eq_getElem hk
 exact ⟨ad,xs[k],e,hlt,hx,h.lt hx,hc k _ hx⟩
theorem add_zero_off (g j : Nat) : (⟨g,0,none⟩ : Addr).add j = ⟨g,j,none⟩:=by
 cases j with
 | zero => rfl
 | succ j => simp [Addr.add]
end
theorem old_cells {B : Nat} {w w' : World} (hb : Below B w w') : (∀ b o,b < B → w'.cell? ⟨b,o,none⟩ = w.cell? ⟨b,o,none⟩) ∧ (∀ b o,b < B → w'.frozen? ⟨b,o,none⟩ = w.frozen? ⟨b,o,none⟩) :=
 ⟨fun b o h => hb.cell (p:=⟨b,o,none⟩) h,fun b o h => hb.frozen (p:=⟨b,o,none⟩) h⟩
end

section
open Go.RowKit
theorem wp_region_below {P : Program} {id : Nat} {Q : Exit → Act → World → Prop} {a : Act} {w : World} {l : List Oper} (hm : P.follows .mixedOrders = true) (hB : Region.lexB .any l.toArray = true)
 (h : wpQuiet P l.toArray (fun w' => Below w.heap.size w w') (fun a' => ∀ w',Below w.heap.size w w' → Q .normal a' w') l a) : (Code.region id l.toArray true).wp P Q a w :=
 wp_region_quiet (C:=fun w' => Below w.heap.size w w') hm hB ((Below.refl _ _).drew) (by simpa using h)
end

section
structure St where
 d : Int
 e : Int
 x : Int
 y : Int
 z : Int
theorem St.ext' {a b : St} (h1 : a.d = b.d) (h2 : a.e = b.e) (h3 : a.x = b.x) (h4 : a.y = b.y) (h5 : a.z = b.z) : a = b:=by
 cases a;cases b;simp at h1 h2 h3 h4 h5;simp [h1,h2,h3,h4,h5]
theorem St.ext_iff' {a b : St} : a = b ↔ a.d = b.d ∧ a.e = b.e ∧ a.x = b.x ∧ a.y = b.y ∧ a.z = b.z :=
 ⟨by rintro rfl;simp,fun ⟨h1,h2,h3,h4,h5⟩ => St.ext' h1 h2 h3 h4 h5⟩
instance : DecidableEq St:=fun a b => decidable_of_iff _ St.ext_iff'.symm
def St.R (t : St) : Prop:=(0 ≤ t.d ∧ t.d ≤ 3) ∧ (0 ≤ t.e ∧ t.e < 1000) ∧ (0 ≤ t.x ∧ t.x < 16 ∧ (t.d ≤ 0 → t.x = 0)) ∧ (0 ≤ t.y ∧ t.y < 16 ∧ (t.d ≤ 1 → t.y = 0)) ∧ (0 ≤ t.z ∧ t.z < 16 ∧ (t.d ≤ 2 → t.z = 0))
instance (t : St) : Decidable t.R:=inferInstanceAs (Decidable (_ ∧ _))
def St.L (a b : St) : Prop:=a.R ∧ b.R ∧ a.d = b.d ∧ a.e ≤ b.e ∧ a.x ≤ b.x ∧ a.y ≤ b.y ∧ a.z ≤ b.z
instance (a b : St) : Decidable (a.L b):=inferInstanceAs (Decidable (_ ∧ _))
def sgn (a b : Int) : Int:=if a < b then -1 else if b < a then 1 else 0
def St.C (a b : St) : Int :=
 if sgn a.d b.d ≠ 0 then sgn a.d b.d else if sgn a.e b.e ≠ 0 then sgn a.e b.e else if sgn a.x b.x ≠ 0 then sgn a.x b.x else if sgn a.y b.y ≠ 0 then sgn a.y b.y else sgn a.z b.z
def St.B (a b : St) : Prop:=a.R ∧ b.R ∧ a.d = b.d
instance (a b : St) : Decidable (a.B b):=inferInstanceAs (Decidable (_ ∧ _))
def St.zero : St:=⟨0,0,0,0,0⟩
def St.join (a b : St) : St:=if a.B b then ⟨a.d,max a.e b.e,max a.x b.x,max a.y b.y,max a.z b.z⟩ else St.zero
section
variable {a b c : St}
theorem sgn_cases (a b : Int) : (a < b ∧ sgn a b = -1) ∨ (b < a ∧ sgn a b = 1) ∨ (a = b ∧ sgn a b = 0):=by
 unfold sgn
 by_cases h : a < b
 · exact .inl ⟨h,if_pos h⟩
 · by_cases h2 : b < a
   · exact .inr (.inl ⟨h2,by rw [if_neg h,if_pos h2]⟩)
   · exact .inr (.inr ⟨by omega,by rw [if_neg h,if_neg h2]⟩)
theorem St.C_neg : a.C b < 0 ↔ a.d < b.d ∨ a.d = b.d ∧ (a.e < b.e ∨ a.e = b.e ∧ (a.x < b.x ∨ a.x = b.x ∧ (a.y < b.y ∨ a.y = b.y ∧ a.z < b.z))):=by
 unfold St.C
 rcases sgn_cases a.d b.d with ⟨h1,e1⟩ | ⟨h1,e1⟩ | ⟨h1,e1⟩ <;> rw [e1] <;>
 rcases sgn_cases a.e b.e with ⟨h2,e2⟩ | ⟨h2,e2⟩ | ⟨h2,e2⟩ <;> rw [e2] <;>
 rcases sgn_cases a.x b.x with ⟨h3,e3⟩ | ⟨h3,e3⟩ | ⟨h3,e3⟩ <;> rw [e3] <;>
 rcases sgn_cases a.y b.y with ⟨h4,e4⟩ | ⟨h4,e4⟩ | ⟨h4,e4⟩ <;> rw [e4] <;>
 rcases sgn_cases a.z b.z with ⟨h5,e5⟩ | ⟨h5,e5⟩ | ⟨h5,e5⟩ <;> rw [e5] <;> simp <;> omega
theorem sgn_swap (a b : Int) : sgn a b = - sgn b a:=by
 rcases sgn_cases a b with ⟨h,e⟩ | ⟨h,e⟩ | ⟨h,e⟩ <;> rcases sgn_cases b a with ⟨h2,e2⟩ | ⟨h2,e2⟩ | ⟨h2,e2⟩ <;> rw [e,e2] <;> omega
theorem sgn_zero {a b : Int} : sgn a b = 0 ↔ a = b:=by
 rcases sgn_cases a b with ⟨h,e⟩ | ⟨h,e⟩ | ⟨h,e⟩ <;> rw [e] <;> simp <;> omega
theorem St.C_swap : a.C b = - b.C a:=by
 unfold St.C
 rw [sgn_swap a.d b.d,sgn_swap a.e b.e,sgn_swap a.x b.x,sgn_swap a.y b.y,sgn_swap a.z b.z]
 generalize sgn b.d a.d = s1
 generalize sgn b.e a.e = s2
 generalize sgn b.x a.x = s3
 generalize sgn b.y a.y = s4
 generalize sgn b.z a.z = s5
 by_cases h1 : s1 = 0
 · by_cases h2 : s2 = 0
   · by_cases h3 : s3 = 0
     · by_cases h4 : s4 = 0
       · simp [h1,h2,h3,h4]
       · simp [h1,h2,h3,h4]
     · simp [h1,h2,h3]
   · simp [h1,h2]
 · simp [h1]
theorem St.C_zero : a.C b = 0 ↔ a = b:=by
 rw [St.ext_iff',← sgn_zero (a:=a.d),← sgn_zero (a:=a.e),← sgn_zero (a:=a.x),← sgn_zero (a:=a.y),← sgn_zero (a:=a.z)]
 unfold St.C
 by_cases h1 : sgn a.d b.d = 0
 · by_cases h2 : sgn a.e b.e = 0
   · by_cases h3 : sgn a.x b.x = 0
     · by_cases h4 : sgn a.y b.y = 0
       · simp [h1,h2,h3,h4]
       · simp [h1,h2,h3,h4]
     · simp [h1,h2,h3]
   · simp [h1,h2]
 · simp [h1]
theorem St.C_le : a.C b ≤ 0 ↔ a.C b < 0 ∨ a = b:=by
 rw [← St.C_zero];omega
theorem St.C_trans (h1 : a.C b ≤ 0) (h2 : b.C c ≤ 0) : a.C c ≤ 0:=by
 rw [St.C_le,St.C_neg,St.ext_iff'] at *
 omega
theorem St.L_antisymm (h1 : a.L b) (h2 : b.L a) : a = b:=by
 unfold St.L at *
 exact St.ext' (by omega) (by omega) (by omega) (by omega) (by omega)
theorem St.L_trans (h1 : a.L b) (h2 : b.L c) : a.L c:=by
 unfold St.L at *
 exact ⟨h1.1,h2.2.1,by omega,by omega,by omega,by omega,by omega⟩
theorem St.L_refl : a.L a ↔ a.R:=by unfold St.L;simp
theorem St.L_C (h : a.L b) : a.C b ≤ 0:=by
 rw [St.C_le,St.C_neg,St.ext_iff']
 unfold St.L at h
 omega
theorem St.L_B (h : a.L b) : a.B b:=⟨h.1,h.2.1,h.2.2.1⟩
/-! loops -/
def St.into (t : St) : Option St:=if t.R ∧ t.d < 3 then some { t with d:=t.d + 1 } else none
def St.out (t : St) : Option St:=if t.R ∧ 0 < t.d then some ⟨t.d - 1,t.e,if t.d = 1 then 0 else t.x,if t.d = 2 then 0 else t.y,if t.d = 3 then 0 else t.z⟩ else none
def St.last (t : St) : Int:=if t.d = 1 then t.x else if t.d = 2 then t.y else t.z
def St.round (t : St) : Option St:=if t.R ∧ 0 < t.d ∧ t.last + 1 < 16 then some ⟨t.d,t.e,if t.d = 1 then t.x + 1 else t.x,if t.d = 2 then t.y + 1 else t.y,if t.d = 3 then t.z + 1 else t.z⟩ else none
end
end

section
section
variable {a b c : St}
theorem St.join_eq (h : a.B b) : a.join b = ⟨a.d,max a.e b.e,max a.x b.x,max a.y b.y,max a.z b.z⟩:=by unfold St.join;rw [if_pos h]
end
/-! bytes -/
end

section
open Go.ChangeShapes Go.WideShapes Go.ChangeAt Go.RowKit

theorem progLaid : laidOutB Tryz.prog = true:=by kernel_rfl
theorem ownKnob_none : ownKnob Tryz.prog.godebug = none:=by kernel_rfl

section
variable {H : Type} {enc : TypeId × Value → H} {P : Program}
theorem trodAll_later (hl : laidOutB P = true) {W W' : World} (hb : Below W.heap.size W W') {sp : Nat → Bool} :
 ∀ (ts : List TypeId) (vs : List Value) (ds : List (DataW H)) (ps : List MemPlace),(∀ t ∈ ts,P.readableRec t = true ∧ t < P.types.size) →
   DataW.TrodAll enc P W 0 (fun _ => true) true ts vs ds ps → (∀ x ∈ ps,x.block < W.heap.size) → (∀ x ∈ ps,sp x.block = true) → DataW.TrodAll enc P W' 0 sp true ts vs ds ps:=by
 intro ts
 induction ts with
 | nil =>
   intro vs ds ps _ h _ _
   cases vs with
   | nil => cases ds with
     | nil => exact h
     | cons d ds => exact h.elim
   | cons v vs => cases ds <;> exact h.elim
 | cons t ts ih =>
   intro vs ds ps hts h hlt hsp
   cases vs with
   | nil => cases ds <;> exact h.elim
   | cons v vs => cases ds with
     | nil => exact h.elim
     | cons d ds =>
       obtain ⟨p,q,h1,h2,rfl⟩:=h
       exact ⟨p,q,WideElems.Trod_stays hl (hts t (by simp)).1 (hts t (by simp)).2 h1 (fun x hx => hb.same (hlt x (by simp [hx]))) (fun x hx => hsp x (by simp [hx])),
        ih vs ds q (fun t' h' => hts t' (by simp [h'])) h2 (fun x hx => hlt x (by simp [hx])) (fun x hx => hsp x (by simp [hx])),rfl⟩

theorem law_post (hl : laidOutB P = true) {f : Func} {s : ChangeSpec} {W W' : World} {args : Array Value} {ds gs : List (DataW H)} {before : List MemPlace} {tb : TypeId}
 (hW : DataW.Whole enc P f.params.toList s.vars false W args.toList ds gs before) (hv : s.vars = [])
 (hts : ∀ t ∈ f.params.toList,P.readableRec t = true ∧ t < P.types.size) (hr : f.resultTypes = #[tb]) (htb : P.underlying tb = some .bool)
 (hfn : (s.fn H (ds ++ gs)) = { results:=[.lit (.bool true)],args:=ds }) (hb : Below W.heap.size W W') :
 s.post enc P f false true false false W args (.bool true) W':=by
 have hlt : ∀ p ∈ before,p.block < W.heap.size:=fun p hp => hW.lt p hp
 obtain ⟨p,q,hA,hV,e,hfz,hnd⟩:=id hW
 rw [hv] at hV
 obtain ⟨rfl,rfl⟩:=trodVars_none hV
 simp only [List.append_nil] at e
 subst e
 have hargs : ∀ sp : Nat → Bool,(∀ x ∈ before,sp x.block = true) → DataW.TrodAll enc P W' 0 sp true f.params.toList args.toList ds before :=
  fun sp hsp => trodAll_later hl hb _ _ _ _ hts hA hlt hsp
 have hold : ∀ x ∈ before,(fun b => decide (b < W.heap.size)) x.block = true:=fun x hx => by simpa using hlt x hx
 have hone : ∀ (sp : Nat → Bool) (hd : Bool) (b : Nat),DataW.TrodAll enc P W' b sp hd f.resultTypes.toList ((Value.bool true).resultList f.resultTypes.size) [.lit (.bool true)] []:=by
  intro sp hd b;rw [hr];exact trodAll_cons_mk (shut_bool htb _) trodAll_mk0
 have hvars : ∀ sp : Nat → Bool,DataW.TrodVars enc P W' sp s.vars [] []:=by intro sp;rw [hv];exact rfl
 refine ⟨ds,[],before,[],before,[],hW,?_,?_,?_,World.keptBut_mono (fun x hx => ⟨hx,by simp [hx]⟩) (hb.frame (· ∈ before)),fun _ => ?_⟩
 · rw [hfn];exact hone _ _ _
 · rw [hfn];exact hargs _ hold
 · rw [hfn];exact hvars _
 · refine ⟨ok_one hr rfl (okWide_bool_mk htb _),_,_,([] ++ before) ++ [],⟨[] ++ before,[],trodAll_append (hargs _ (fun _ _ => rfl)) (hone _ _ _),hvars _,rfl,?_,?_⟩,?_⟩
   · intro b off hp
     have hin : MemPlace.cell b off ∈ before:=by simpa using hp
     rw [hb.frozen (hlt _ hin)]
     exact hfz b off hin
   · intro ha;exact absurd ha (by decide)
   · intro x hx _
     simpa using hx

theorem cell_lt {w : World} {a : Addr} {v : Value} (h : w.cell? a = some v) : a.block < w.heap.size:=by
 by_cases hlt : a.block < w.heap.size
 · exact hlt
 · unfold World.cell? at h;rw [Array.getElem?_eq_none (by omega)] at h;cases h
theorem u8_wf {n : Int} (h : (Lit.int .u8 n).wf = true) : 0 ≤ n ∧ n ≤ 255:=by
 simpa [Lit.wf,IntKind.min,IntKind.max,IntKind.signed,IntKind.bits] using h

end
theorem cells_u8 : Tryz.prog.cellsOf 5 = 1:=by kernel_rfl
end

section

@[reducible] def St.cells (t : St) : List Value:=[.int .i64 t.d,.int .i64 t.e,.int .i64 t.x,.int .i64 t.y,.int .i64 t.z]
@[reducible] def St.val (t : St) : Value:=.agg #[.int .i64 t.d,.int .i64 t.e,.int .i64 t.x,.int .i64 t.y,.int .i64 t.z]
theorem sign_any (a b : Int) (w : World) : Calls Tryz.prog 171 #[.int .i64 a,.int .i64 b] w fun e w' => e = .returned (.int .i64 (sgn a b)) ∧ w = w':=by
 rcases sgn_cases a b with ⟨h,e⟩ | ⟨h,e⟩ | ⟨h,e⟩ <;> rw [e] <;> clear e
 · go_enter Tryz.func171,Tryz.ntmps171
   go_wp2
   go_ret
   exact ⟨rfl,rfl⟩
 · have h2 : ¬ a < b:=by omega
   go_enter Tryz.func171,Tryz.ntmps171
   go_wp2
   go_ret
   exact ⟨rfl,rfl⟩
 · subst h
   go_enter Tryz.func171,Tryz.ntmps171
   go_wp2
   go_ret
   exact ⟨rfl,rfl⟩
theorem ret_bool {a b : Bool} (h : a = b) : Ending.returned (.bool a) = .returned (.bool b):=by rw [h]
theorem ret_int {k : IntKind} {a b : Int} (h : a = b) : Ending.returned (.int k a) = .returned (.int k b):=by rw [h]
theorem below_drewN {B : Nat} {a w : World} (h : Below B a w) (n : Nat) : Below B a (w.drewN n):=⟨h.os,h.tape,h.output,h.size,h.block⟩
theorem size_alloc (w : World) (o : Obj) : (w.alloc o).heap.size = w.heap.size + 1:=by simp
def Ok (d x y z : Int) (k : Nat) : Prop:=(0 < k → 0 ≤ x ∧ x < 16 ∧ (d ≤ 0 → x = 0)) ∧ (1 < k → 0 ≤ y ∧ y < 16 ∧ (d ≤ 1 → y = 0)) ∧ (2 < k → 0 ≤ z ∧ z < 16 ∧ (d ≤ 2 → z = 0))
set_option maxHeartbeats 1000000 in
theorem refRight_any (t : St) (w : World) : Calls Tryz.prog 112 #[t.val] w fun e w' => e = .returned (.bool (decide t.R)) ∧ Below w.heap.size w w':=by
 obtain ⟨d,e,x,y,z⟩:=t
 unfold St.val
 simp only
 by_cases h1 : d < 0
 · have hf : decide (St.R ⟨d,e,x,y,z⟩) = false:=by rw [decide_eq_false_iff_not];unfold St.R;simp only;omega
   rw [hf];clear hf
   go_enter Tryz.func112,Tryz.ntmps112
   go_wp2
   go_ret
   exact ⟨rfl,(Below.refl _ _).alloc (Nat.le_refl _) _⟩
 by_cases h2 : 3 < d
 · have hf : decide (St.R ⟨d,e,x,y,z⟩) = false:=by rw [decide_eq_false_iff_not];unfold St.R;simp only;omega
   rw [hf];clear hf
   go_enter Tryz.func112,Tryz.ntmps112
   go_wp2
   go_ret
   exact ⟨rfl,(Below.refl _ _).alloc (Nat.le_refl _) _⟩
 by_cases h3 : e < 0
 · have hf : decide (St.R ⟨d,e,x,y,z⟩) = false:=by rw [decide_eq_false_iff_not];unfold St.R;simp only;omega
   rw [hf];clear hf
   go_enter Tryz.func112,Tryz.ntmps112
   go_wp2
   go_ret
   exact ⟨rfl,(Below.refl _ _).alloc (Nat.le_refl _) _⟩
 by_cases h4 : 1000 ≤ e
 · have hf : decide (St.R ⟨d,e,x,y,z⟩) = false:=by rw [decide_eq_false_iff_not];unfold St.R;simp only;omega
   rw [hf];clear hf
   go_enter Tryz.func112,Tryz.ntmps112
   go_wp2
   go_ret
   exact ⟨rfl,(Below.refl _ _).alloc (Nat.le_refl _) _⟩
 go_enter Tryz.func112,Tryz.ntmps112
 go_wp2
 go_loop [3] (fun i => ∃ k : Nat,k ≤ 3 ∧ i = .int .i64 k ∧ Ok d x y z k) (fun i => 3 - (intOf i).toNat)
 case atStart => exact ⟨0,by omega,rfl,by unfold Ok;omega⟩
 case round =>
  obtain ⟨k,hk,rfl,hok⟩:=hrel
  have hcase : k = 0 ∨ k = 1 ∨ k = 2 ∨ k = 3:=by omega
  clear hk
  rcases hcase with rfl | rfl | rfl | rfl
  · go_wp2
    all_goals try simp only [bne_iff_ne,ne_eq,bne_eq_false_iff_eq] at *
    all_goals first
     | (go_round
        case rel => exact ⟨1,by omega,rfl,by unfold Ok at *;omega⟩
        case measure => simp [intOf])
     | (go_ret;exact ⟨ret_bool (by rw [eq_comm,decide_eq_false_iff_not];unfold St.R;simp only;omega),(Below.refl _ _).alloc (Nat.le_refl _) _⟩)
  · go_wp2
    all_goals try simp only [bne_iff_ne,ne_eq,bne_eq_false_iff_eq] at *
    all_goals first
     | (go_round
        case rel => exact ⟨2,by omega,rfl,by unfold Ok at *;omega⟩
        case measure => simp [intOf])
     | (go_ret;exact ⟨ret_bool (by rw [eq_comm,decide_eq_false_iff_not];unfold St.R;simp only;omega),(Below.refl _ _).alloc (Nat.le_refl _) _⟩)
  · go_wp2
    all_goals try simp only [bne_iff_ne,ne_eq,bne_eq_false_iff_eq] at *
    all_goals first
     | (go_round
        case rel => exact ⟨3,by omega,rfl,by unfold Ok at *;omega⟩
        case measure => simp [intOf])
     | (go_ret;exact ⟨ret_bool (by rw [eq_comm,decide_eq_false_iff_not];unfold St.R;simp only;omega),(Below.refl _ _).alloc (Nat.le_refl _) _⟩)
  · go_wp2
    go_ret
    exact ⟨ret_bool (by rw [eq_comm,decide_eq_true_iff];unfold Ok at hok;unfold St.R;simp only;omega),(Below.refl _ _).alloc (Nat.le_refl _) _⟩
end

section
theorem wp_tail {P : Program} {id : Nat} {Q : Exit → Act → World → Prop} {a : Act} {w : World} {l : List Oper} (n : Nat) (hm : P.follows .mixedOrders = true) (hB : Region.lexTailB .any l.toArray n = true)
 (h : wpStill P l.toArray (w.drewN 1) (fun a' => wpList P l.toArray Q (l.drop n) a' (w.drewN 1)) (l.take n) a) : (Code.region id l.toArray true).wp P Q a w :=
 wp_region_still_tail n hm hB h
end

section
def nr (x : Int) : Int:=if 15 < if x < 0 then 0 else x then 15 else if x < 0 then 0 else x
theorem nr_eq {x : Int} : nr x = x ↔ 0 ≤ x ∧ x < 16:=by
 unfold nr
 by_cases h : x < 0
 · simp only [if_pos h];rw [if_neg (by omega)];omega
 · simp only [if_neg h]
   by_cases h2 : 15 < x
   · rw [if_pos h2];omega
   · rw [if_neg h2];omega
def nk (k j : Nat) (x : Int) : Int:=if j < k then nr x else 0
theorem row_set3 {w : World} {b : Nat} {t : TypeId} {p q r p' q' r' : Value} (h : Row w b t [p,q,r]) : Row (((w.setCell ⟨b,0,none⟩ p').setCell ⟨b,1,none⟩ q').setCell ⟨b,2,none⟩ r') b t [p',q',r'] :=
 ((h.put 0 p').put 1 q').put 2 r'
set_option maxHeartbeats 1000000 in
theorem nearest_any (d e x y z : Int) (n : Nat) (w : World) (hd : d = n) (h3 : n ≤ 3) :
 Calls Tryz.prog 125 #[.agg #[.int .i64 d,.int .i64 e,.int .i64 x,.int .i64 y,.int .i64 z]] w fun e w' => e = .returned (.agg #[.int .i64 (nk n 0 x),.int .i64 (nk n 1 y),.int .i64 (nk n 2 z)]) ∧ Below w.heap.size w w':=by
 subst hd
 go_enter Tryz.func125,Tryz.ntmps125
 go_wp2_with fail
 go_loopw [7] (fun i wr => ∃ (k : Nat),k ≤ n ∧ i = .int .i64 k ∧ Row wr w.heap.size 27 [.int .i64 n,.int .i64 e,.int .i64 x,.int .i64 y,.int .i64 z] ∧ Row wr (w.heap.size + 1) 25 [.int .i64 0,.int .i64 0,.int .i64 0] ∧ Row wr (w.heap.size + 2) 25 [.int .i64 (nk k 0 x),.int .i64 (nk k 1 y),.int .i64 (nk k 2 z)] ∧ Below w.heap.size w wr) (fun i _ => n - (intOf i).toNat)
 case atStart =>
  refine ⟨0,by omega,rfl,((Row.made w 27 [.int .i64 (n : Int),.int .i64 e,.int .i64 x,.int .i64 y,.int .i64 z]).alloc _).alloc _,?_,?_,?_⟩
  · have:=(Row.made (w.alloc (.cells #[.int .i64 (n : Int),.int .i64 e,.int .i64 x,.int .i64 y,.int .i64 z] 27)) 25 [.int .i64 0,.int .i64 0,.int .i64 0]).alloc (.cells #[.int .i64 0,.int .i64 0,.int .i64 0] 25)
    rwa [size_alloc] at this
  · have:=Row.made ((w.alloc (.cells #[.int .i64 (n : Int),.int .i64 e,.int .i64 x,.int .i64 y,.int .i64 z] 27)).alloc (.cells #[.int .i64 0,.int .i64 0,.int .i64 0] 25)) 25 [.int .i64 0,.int .i64 0,.int .i64 0]
    rwa [size_alloc,size_alloc] at this
  · exact (((Below.refl _ _).alloc (Nat.le_refl _) _).alloc (by simp) _).alloc (by simp;omega) _
 case round =>
  obtain ⟨k,hk,rfl,hra,hrr,hrb,hbw⟩:=hrel
  by_cases hlt : k < n
  · have a2:=hra.cell 2;have a3:=hra.cell 3;have a4:=hra.cell 4
    have b0:=hrb.cell 0;have b1:=hrb.cell 1;have b2:=hrb.cell 2
    have f0:=hrb.free 0;have f1:=hrb.free 1;have f2:=hrb.free 2
    simp only [List.getElem?_cons_succ,List.getElem?_cons_zero] at a2 a3 a4 b0 b1 b2
    have HRA:=Hd hra;have HRR:=Hd hrr;have HRB:=Hd hrb;have HBW:=Hd hbw;clear hra hrr hrb hbw
    have hcase : k = 0 ∨ k = 1 ∨ k = 2:=by omega
    rcases hcase with rfl | rfl | rfl
    · go_wp2_with fail
      go_roundw
      case rel => exact ⟨1,by omega,rfl,HRA.out.far (by simp;omega) _,HRR.out.far (by simp) _,HRB.out.put 0 _,HBW.out.setCell (by simp;omega) _⟩
      case measure => simp [intOf];omega
    · go_wp2_with fail
      go_roundw
      case rel => exact ⟨2,by omega,rfl,HRA.out.far (by simp;omega) _,HRR.out.far (by simp) _,HRB.out.put 1 _,HBW.out.setCell (by simp;omega) _⟩
      case measure => simp [intOf];omega
    · go_wp2_with fail
      go_roundw
      case rel => exact ⟨3,by omega,rfl,HRA.out.far (by simp;omega) _,HRR.out.far (by simp) _,HRB.out.put 2 _,HBW.out.setCell (by simp;omega) _⟩
      case measure => simp [intOf];omega
  · have hkn : k = n:=by omega
    subst hkn
    have b0:=hrb.cell 0;have b1:=hrb.cell 1;have b2:=hrb.cell 2
    have r0:=hrr.cell 0;have r1:=hrr.cell 1;have r2:=hrr.cell 2
    have f0:=hrr.free 0;have f1:=hrr.free 1;have f2:=hrr.free 2
    simp only [List.getElem?_cons_succ,List.getElem?_cons_zero] at b0 b1 b2 r0 r1 r2
    have HRR:=Hd hrr;have HRB:=Hd hrb;have HBW:=Hd hbw;clear hra hrr hrb hbw
    obtain ⟨p,hp⟩ : ∃ p,p = nk k 0 x:=⟨_,rfl⟩
    obtain ⟨q,hq⟩ : ∃ q,q = nk k 1 y:=⟨_,rfl⟩
    obtain ⟨r,hr⟩ : ∃ r,r = nk k 2 z:=⟨_,rfl⟩
    rw [← hp] at b0;rw [← hq] at b1;rw [← hr] at b2
    have HP:=Hd hp;have HQ:=Hd hq;have HR:=Hd hr;clear hp hq hr
    go_wp2_with fail
    refine bodyPost_ret (results_cell_row rfl _ _ (w.heap.size + 1) 25 _ (0,0) _ rfl (row_set3 HRR.out) Tryz.underlying25 rfl (by kernel_rfl)) rfl ?_
    exact ⟨by rw [HP.out,HQ.out,HR.out],((HBW.out.setCell (by simp) _).setCell (by simp) _).setCell (by simp) _⟩
end

section
namespace Stage
section
variable {P : Program} {ops : Array Oper} {md : Region.Mode} {C : Array Bool → World → Prop}

def upon (P : Program) (C : World → Prop) (v : Value) : Result Next → Prop
 | .ok (.value u) w' => u = v ∧ C w'
 | .ok .skip w' => v = undef ∧ C w'
 | .ok (.enter f args) w' => Calls P f args w' (fun e w'' => e = .returned v ∧ C w'')
 | _ => False
def at_ (P : Program) (o : Oper) (a : Act) (C : World → Prop) (w : World) (v : Value) : Prop:=upon P C v ((execOp a.eval o).run P w)
structure Fit (md : Region.Mode) (ops : Array Oper) (S : Array Bool) : Prop where
 size : S.size = ops.size
 closed : ∀ (j : Nat) (oj : Oper),ops[j]? = some oj → S.getD j false = true → ∀ e ∈ oj.after,Region.binds md e = true → S.getD e.on false = true
theorem Fit.start : Fit md ops (Array.replicate ops.size false):=⟨by simp,fun j oj hj h => by rw [getD_replicate_false] at h;cases h⟩
theorem Fit.set {S : Array Bool} {i : Nat} (h : Fit md ops S) (hi : i ∈ Region.ready md ops S) : Fit md ops (S.setIfInBounds i true):=by
 obtain ⟨_,oi,hoi,hall⟩:=mem_ready.1 hi
 refine ⟨by simp [h.size],fun j oj hj hl e he hb => ?_⟩
 by_cases hij : i = j
 · subst hij
   obtain rfl : oj = oi:=Option.some.inj (hj.symm.trans hoi)
   exact getD_set_true (hall e he hb)
 · rw [getD_set_ne false hij] at hl
   exact getD_set_true (h.closed j oj hj hl e he hb)
def leads (md : Region.Mode) (ops : Array Oper) : Nat → Nat → Nat → Bool
 | 0,_,_ => false
 | n + 1,i,K => Region.waitsFor md ops K i || (List.range ops.size).any fun j => Region.waitsFor md ops j i && leads md ops n j K
theorem Fit.not {S : Array Bool} (h : Fit md ops S) {i j : Nat} (hi : S.getD i true = false) (hw : Region.waitsFor md ops j i = true) : S.getD j true = false:=by
 obtain ⟨o,ho,e,he,hb,hon⟩:=Region.waitsFor_spec hw
 have hj : j < S.size:=by rw [h.size];exact (Array.getElem?_eq_some_iff.1 ho).1
 cases hx : S.getD j true with
 | false => rfl
 | true =>
   have hx' : S.getD j false = true:=by simp [hj] at hx ⊢;exact hx
   have:=h.closed j o ho hx' e he hb
   rw [hon,getD_both hi] at this;cases this
theorem Fit.before {S : Array Bool} (h : Fit md ops S) {K : Nat} : ∀ (n i : Nat),S.getD i true = false → leads md ops n i K = true → S.getD K true = false:=by
 intro n
 induction n with
 | zero => intro i _ hl;cases hl
 | succ n ih =>
   intro i hi hl
   simp only [leads,Bool.or_eq_true,List.any_eq_true,Bool.and_eq_true] at hl
   rcases hl with hl | ⟨j,_,hw,hl⟩
   · exact h.not hi hl
   · exact ih j (h.not hi hw) hl
def Yields (P : Program) (md : Region.Mode) (ops : Array Oper) (C : Array Bool → World → Prop) (i : Nat) (o : Oper) (v : Value) (a : Act) : Prop :=
 (Region.wanted o (yielded ops a.tmps) = true ∧ ∀ S w,Fit md ops S → i ∈ Region.ready md ops S → C S w → at_ P o a (C (S.setIfInBounds i true)) w v) ∨
 (Region.wanted o (yielded ops a.tmps) = false ∧ v = undef ∧ ∀ S w,Fit md ops S → i ∈ Region.ready md ops S → C S w → C (S.setIfInBounds i true) w)
def sOp (P : Program) (md : Region.Mode) (ops : Array Oper) (C : Array Bool → World → Prop) (i : Nat) (K : Act → Prop) (a : Act) : Prop :=
 ∃ o v,ops[i]? = some o ∧ Yields P md ops C i o v a ∧ K (a.put o.dst v)
theorem sOp_mono {i : Nat} {a : Act} {K K' : Act → Prop} (h : ∀ a,K a → K' a) (hh : sOp P md ops C i K a) : sOp P md ops C i K' a:=by
 obtain ⟨o,v,h1,h2,h3⟩:=hh
 exact ⟨o,v,h1,h2,h _ h3⟩
def wpAnyT (P : Program) (md : Region.Mode) (ops : Array Oper) (C : Array Bool → World → Prop) (Q : Act → Prop) : Nat → Array Bool → Act → Prop
 | 0,listed,a => Region.ready md ops listed = [] ∧ Q a
 | fuel + 1,listed,a => Region.ready md ops listed ≠ [] ∧ ∀ i ∈ Region.ready md ops listed,sOp P md ops C i (wpAnyT P md ops C Q fuel (listed.setIfInBounds i true)) a

theorem count_set {l : List Bool} : ∀ {i : Nat},l.getD i true = false → (l.set i true).count false + 1 = l.count false:=by
 induction l with
 | nil => intro i h;simp at h
 | cons b l ih =>
   intro i h
   cases i with
   | zero => simp at h;subst h;simp
   | succ i =>
     have:=ih (i:=i) (by simpa using h)
     simp only [List.set_cons_succ,List.count_cons]
     omega
theorem all_of_count {l : List Bool} (h : l.count false = 0) (i : Nat) : l.getD i true = true:=by
 cases hb : l.getD i true with
 | true => rfl
 | false =>
   exfalso
   have hm : false ∈ l:=by
    rw [List.getD_eq_getElem?_getD] at hb
    cases hx : l[i]? with
    | none => simp [hx] at hb
    | some x => simp [hx] at hb;subst hb;exact List.mem_of_getElem? hx
   have:=List.count_pos_iff.2 hm
   omega
theorem getD_toList (S : Array Bool) (i : Nat) : S.getD i true = S.toList.getD i true:=by
 simp [List.getD_eq_getElem?_getD]

theorem wpAny_of {Q : Act → Prop} {Q' : Exit → Act → World → Prop} (hQ : ∀ S a w,(∀ i,S.getD i true = true) → C S w → Q a → Q' .normal a w) : ∀ (fuel : Nat) (listed : Array Bool) (a : Act) (w : World),listed.toList.count false = fuel → Fit md ops listed → C listed w →
 wpAnyT P md ops C Q fuel listed a → wpAny P md ops Q' fuel listed a w
 | 0,listed,a,w,hn,_,hC,h => ⟨h.1,hQ _ _ _ (fun i => by rw [getD_toList];exact all_of_count hn i) hC h.2⟩
 | fuel + 1,listed,a,w,hn,hF,hC,h => by
   refine ⟨fun h0 => absurd h0 h.1,fun i hi => ?_⟩
   obtain ⟨o,v,ho,hy,hK⟩:=h.2 i hi
   have hun:=(mem_ready.1 hi).1
   have hc : (listed.setIfInBounds i true).toList.count false = fuel:=by
    rw [Array.toList_setIfInBounds]
    have:=count_set (l:=listed.toList) (i:=i) (by rw [← getD_toList];exact hun)
    omega
   unfold wpOp
   simp only [ho]
   rcases hy with ⟨hw,hy⟩ | ⟨hw,rfl,hy⟩
   · rw [if_pos hw]
     refine .inl ?_
     have h1:=hy listed w hF hi hC
     unfold at_ at h1
     unfold Oper.wp
     generalize (execOp a.eval o).run P w = r at h1
     cases r with
     | ok n w' =>
       cases n <;> simp only [upon] at h1 <;> simp only [Oper.upon]
       case value u => obtain ⟨rfl,h2⟩:=h1;exact wpAny_of hQ fuel _ _ _ hc (hF.set hi) h2 hK
       case skip => obtain ⟨rfl,h2⟩:=h1;exact wpAny_of hQ fuel _ _ _ hc (hF.set hi) h2 hK
       case enter f args => exact h1.mono fun e w'' ⟨he,h2⟩ => by subst he;exact wpAny_of hQ fuel _ _ _ hc (hF.set hi) h2 hK
     | halt x w' => simp only [upon] at h1
   · rw [if_neg (by rw [hw];exact Bool.false_ne_true)]
     exact wpAny_of hQ fuel _ _ _ hc (hF.set hi) (hy _ _ hF hi hC) hK

theorem Yields.of_same {i : Nat} {o : Oper} {v : Value} {a a' : Act} (hy : Yields P md ops C i o v a) (he : execOp a'.eval o = execOp a.eval o)
 (hw : Region.wanted o (yielded ops a'.tmps) = Region.wanted o (yielded ops a.tmps)) : Yields P md ops C i o v a':=by
 unfold Yields at_ at *
 rw [he,hw]
 exact hy

theorem sOp_put {i j : Nat} {oi oj : Oper} {v : Value} (hj : ops[j]? = some oj) (hap : oi.apart ops oj = true)
 (hsi : ∀ cs b,oi.op ≠ .select cs b) (hsj : ∀ cs b,oj.op ≠ .select cs b) {K : Act → Prop} {a : Act}
 (hy : Yields P md ops C i oi v a) (h : sOp P md ops C j K (a.put oi.dst v)) :
 sOp P md ops C j (fun a' => Yields P md ops C i oi v a' ∧ K (a'.put oi.dst v)) a:=by
 obtain ⟨h1,h2,h3⟩:=Oper.apart_spec hap
 obtain ⟨o,u,ho,hu,hK⟩:=h
 obtain rfl : o = oj:=Option.some.inj (ho.symm.trans hj)
 refine ⟨o,u,hj,hu.of_same (execOp_put o hsj a oi.dst v h1).symm (wanted_put o a oi.dst v h1).symm,?_,?_⟩
 · exact hy.of_same (execOp_put oi hsi a o.dst u h3) (wanted_put oi a o.dst u h3)
 · rw [← Act.put_comm a v u h2];exact hK

theorem wpAnyT_first {Q : Act → Prop} {i : Nat} {oi : Oper} {v : Value} (hi : ops[i]? = some oi) (hsel : ∀ (j : Nat) (o : Oper) cs b,ops[j]? = some o → o.op ≠ .select cs b) :
 ∀ (fuel : Nat) (listed : Array Bool) (a : Act),
   (∀ j oj,ops[j]? = some oj → j ≠ i → listed.getD j true = false → (∀ e ∈ oj.after,Region.binds md e = true → e.on ≠ i) → oi.apart ops oj = true) →
   i ∈ Region.ready md ops listed → Yields P md ops C i oi v a →
   wpAnyT P md ops C Q fuel (listed.setIfInBounds i true) (a.put oi.dst v) → wpAnyT P md ops C Q (fuel + 1) listed a:=by
 intro fuel
 induction fuel with
 | zero =>
   intro listed a _ hr hy H
   refine ⟨fun h => (by rw [h] at hr;cases hr),fun j hj => ?_⟩
   by_cases hji : j = i
   · subst hji;exact ⟨oi,v,hi,hy,H⟩
   · have:=ready_mono hj hji
     rw [H.1] at this
     cases this
 | succ fuel ih =>
   intro listed a hfree hr hy H
   refine ⟨fun h => (by rw [h] at hr;cases hr),fun j hj => ?_⟩
   by_cases hji : j = i
   · subst hji;exact ⟨oi,v,hi,hy,H⟩
   · have h1:=H.2 j (ready_mono hj hji)
     obtain ⟨hjun,oj,hoj,hall⟩:=mem_ready.1 hj
     have hnot : ∀ e ∈ oj.after,Region.binds md e = true → e.on ≠ i:=fun e he hb heq => by
      have h1:=hall e he hb
      have h0:=(mem_ready.1 hr).1
      rw [heq] at h1
      rcases Nat.lt_or_ge i listed.size with h' | h'
      · simp [h'] at h0 h1;rw [h0] at h1;cases h1
      · simp [Array.getElem?_eq_none h'] at h1
     have h2:=sOp_put hoj (hfree j oj hoj hji hjun hnot) (fun cs b => hsel i oi cs b hi) (fun cs b => hsel j oj cs b hoj) hy h1
     have hfree' : ∀ k ok,ops[k]? = some ok → k ≠ i → (listed.setIfInBounds j true).getD k true = false →
      (∀ e ∈ ok.after,Region.binds md e = true → e.on ≠ i) → oi.apart ops ok = true:=fun k ok hk hki hun hno => by
      refine hfree k ok hk hki ?_ hno
      by_cases hjk : j = k
      · subst hjk;exact hjun
      · rw [getD_set_ne true hjk] at hun;exact hun
     refine sOp_mono (fun a' h3 => ih (listed.setIfInBounds j true) a' hfree' (ready_mono hr (Ne.symm hji)) h3.1 ?_) h2
     rw [Array.setIfInBounds_comm _ _ hji]
     exact h3.2

def wpSt (P : Program) (md : Region.Mode) (ops : Array Oper) (C : Array Bool → World → Prop) (Q : Act → Prop) : Nat → List Oper → Act → Prop
 | _,[],a => Q a
 | k,o :: rest,a => ∃ v,Yields P md ops C k o v a ∧ wpSt P md ops C Q (k + 1) rest (a.put o.dst v)

theorem wpAnyT_lex {Q : Act → Prop} (hs : Region.noSelect ops = true) : ∀ (l : List Oper) (k : Nat) (listed : Array Bool) (a : Act),(∀ j,l[j]? = ops[k + j]?) →
 Region.lexFrom md ops l.length k listed = true → wpSt P md ops C Q k l a → wpAnyT P md ops C Q l.length listed a
 | [],_,_,_,_,hB,h => ⟨by simpa [Region.lexFrom] using hB,h⟩
 | o :: l,k,listed,a,hl,hB,h => by
   have h0 : ops[k]? = some o:=by simpa using (hl 0).symm
   simp only [List.length_cons,Region.lexFrom,Bool.and_eq_true] at hB
   obtain ⟨⟨hr,hf⟩,hB'⟩:=hB
   obtain ⟨v,hy,hK⟩:=h
   exact wpAnyT_first h0 (Region.noSelect_spec hs) l.length listed a (Region.free_spec h0 hf) (by simpa using hr) hy
    (wpAnyT_lex hs l (k + 1) _ _ (fun j => by have:=hl (j + 1);simpa [Nat.add_assoc,Nat.add_comm 1 j] using this) hB' hK)

def Ends (C : Array Bool → World → Prop) (Q : Exit → Act → World → Prop) (a : Act) : Prop:=∀ S w',(∀ i,S.getD i true = true) → C S w' → Q .normal a w'
theorem wpSt_nil {Q : Act → Prop} {k : Nat} {a : Act} (h : Q a) : wpSt P md ops C Q k [] a:=h
theorem wp_region {id : Nat} {Q : Exit → Act → World → Prop} {a : Act} {w : World} {l : List Oper} (hm : P.follows .mixedOrders = true) (hB : Region.lexB .any l.toArray = true)
 (C : Array Bool → World → Prop) (hC : C (Array.replicate l.length false) w.drew)
 (h : wpSt P .any l.toArray C (Ends C Q) 0 l a) : (Code.region id l.toArray true).wp P Q a w:=by
 simp only [Region.lexB,Bool.and_eq_true] at hB
 refine wp_region_any hm (wpAny_of (C:=C) (Q:=Ends C Q) (fun S _ w' hS hw' h => h S w' hS hw') _ _ _ _ (by simp) (by simpa using Fit.start (md:=.any) (ops:=l.toArray)) (by simpa using hC) ?_)
 have:=wpAnyT_lex (C:=C) (md:=.any) hB.1 l 0 (Array.replicate l.length false) a (by simp) (by simpa using hB.2) h
 simpa using this

def plain (o : Oper) : Bool:=match o.op with
 | .move _ | .assign _ | .load .. | .nilCheck _ | .binOp .. | .unOp .. | .convert .. | .slice .. | .fieldAddr .. | .field .. | .indexAddr .. | .index .. | .build .. | .extract .. | .pick .. => true
 | .call c => match c.callee with
   | .builtin .len | .builtin .cap => true
   | _ => false
 | _ => false
theorem wpSt_do {Q : Act → Prop} {o : Oper} {l : List Oper} {k : Nat} {a : Act} (v : Value) (hw : Region.wanted o (yielded ops a.tmps) = true)
 (h : ∀ S w,Fit md ops S → k ∈ Region.ready md ops S → C S w → at_ P o a (C (S.setIfInBounds k true)) w v) (hK : wpSt P md ops C Q (k + 1) l (a.put o.dst v)) : wpSt P md ops C Q k (o :: l) a :=
 ⟨v,.inl ⟨hw,h⟩,hK⟩
theorem came {i j : Nat} {S : Array Bool} (hi : i ∈ Region.ready md ops S) (h : Region.waitsFor md ops i j = true) : S.getD j true = true:=by
 obtain ⟨o,ho,e,he,hb,hon⟩:=Region.waitsFor_spec h
 obtain ⟨_,o',ho',hall⟩:=mem_ready.1 hi
 obtain rfl : o = o':=Option.some.inj (ho.symm.trans ho')
 have:=hall e he hb
 rw [hon] at this
 rcases Nat.lt_or_ge j S.size with h' | h'
 · simp [h'] at this ⊢;exact this
 · simp [Array.getElem?_eq_none h'] at this
theorem getD_set_self {S : Array Bool} {i : Nat} (h : S.getD i true = false) : (S.setIfInBounds i true).getD i true = true:=by
 rcases Nat.lt_or_ge i S.size with h' | h'
 · simp [h']
 · simp [Array.getElem?_eq_none h'] at h
theorem getD_rep {n k : Nat} (h : k < n) : (Array.replicate n false).getD k true = false:=by simp [h]

def one (K : Nat) (D : Bool → World → Prop) (S : Array Bool) (w : World) : Prop:=D (S.getD K true) w
section
variable {K : Nat} {D : Bool → World → Prop}
end
def two (K1 K2 : Nat) (D : Bool → Bool → World → Prop) (S : Array Bool) (w : World) : Prop:=D (S.getD K1 true) (S.getD K2 true) w
section
variable {K1 K2 : Nat} {D : Bool → Bool → World → Prop}
theorem two_first {o : Oper} {a : Act} {v : Value} (hne : K1 ≠ K2) (hwt : leads md ops 8 K1 K2 = true) (h : ∀ w,D false false w → at_ P o a (D true false) w v) : ∀ S w,Fit md ops S → K1 ∈ Region.ready md ops S → two K1 K2 D S w → at_ P o a (two K1 K2 D (S.setIfInBounds K1 true)) w v:=by
 intro S w hF hi hS
 have hun:=(mem_ready.1 hi).1
 have hn:=hF.before 8 K1 hun hwt
 unfold two at *
 rw [hun,hn] at hS
 rw [getD_set_self hun,getD_set_ne true hne,hn]
 exact h w hS
theorem two_then {o : Oper} {a : Act} {v : Value} (hne : K1 ≠ K2) (hwt : Region.waitsFor md ops K2 K1 = true) (h : ∀ w,D true false w → at_ P o a (D true true) w v) : ∀ S w,Fit md ops S → K2 ∈ Region.ready md ops S → two K1 K2 D S w → at_ P o a (two K1 K2 D (S.setIfInBounds K2 true)) w v:=by
 intro S w _ hi hS
 have hun:=(mem_ready.1 hi).1
 unfold two at *
 rw [hun,came hi hwt] at hS
 rw [getD_set_self hun,getD_set_ne true (Ne.symm hne),came hi hwt]
 exact h w hS
theorem two_start {n : Nat} {w : World} (h1 : K1 < n) (h2 : K2 < n) (h : D false false w) : two K1 K2 D (Array.replicate n false) w:=by
 unfold two;rw [getD_rep h1,getD_rep h2];exact h
theorem two_end {Q : Exit → Act → World → Prop} {a : Act} (h : ∀ w,D true true w → Q .normal a w) : Ends (two K1 K2 D) Q a:=by
 intro S w hS hD
 unfold two at hD
 rw [hS,hS] at hD
 exact h w hD
end
end
end Stage
end

section
open Go.RowKit

theorem add_at (g off j : Nat) : (⟨g,off,none⟩ : Addr).add j = ⟨g,off + j,none⟩:=by
 cases j with
 | zero => rfl
 | succ j => simp [Addr.add]
section
variable {P : Program} {C : World → Prop} {w : World} {o : Oper} {a : Act}
theorem run_load_part (g off n : Nat) (ty : TypeId) (d : TypeDesc) (cs : List Value) (hc : ∀ j v,cs[j]? = some v → w.cell? ((⟨g,off,none⟩ : Addr).add j) = some v)
 (hu : P.underlying ty = some d) (hd : (match d with | .struct _ | .array _ _ => true | _ => false) = true) (hi : (P.info? ty).map (·.size) = some cs.length) :
 (loadVar ty ⟨g,off,none⟩).run P w = .ok (.agg cs.toArray) w:=by
 have hl : (loadCells ⟨g,off,none⟩ cs.length).run P w = .ok cs.toArray w:=run_loadCells_list (P:=P) w ⟨g,off,none⟩ cs hc
 cases hq : P.info? ty with
 | none => simp [hq] at hi
 | some i =>
   have hs : i.size = cs.length:=by simpa [hq] using hi
   have hagg : (isAgg ty).run P w = .ok true w:=by
    unfold isAgg
    rw [Sem.run_bind,run_underlying hu w]
    cases d <;> simp_all
   simp [loadVar,Sem.run_bind,hagg,sizeOf,typeInfo,hq,hs,hl]
theorem run_loadAt_part (g off : Nat) (ty : TypeId) (d : TypeDesc) (cs : List Value) (hc : ∀ j v,cs[j]? = some v → w.cell? ((⟨g,off,none⟩ : Addr).add j) = some v)
 (hu : P.underlying ty = some d) (hd : (match d with | .struct _ | .array _ _ => true | _ => false) = true) (hi : (P.info? ty).map (·.size) = some cs.length) :
 (Instr.loadAt ty (.pointer (some ⟨g,off,none⟩))).run P w = .ok (.agg cs.toArray) w:=by
 simp only [Instr.loadAt,Instr.sureAddr,Sem.run_bind,Sem.run_pure,Result.andThen_ok,run_load_part g off cs.length ty d cs hc hu hd hi]
end
end

section
open Go.RowKit
section
variable {P : Program} {C : World → Prop} {K : Act → Prop} {a : Act} {o : Oper} {ops : Array Oper}
theorem q_load {v p : Value} (t : TypeId) (x : Operand) (ho : o.op = .load t x) (hw : Region.wanted o (yielded ops a.tmps) = true) (hx : a.eval x = p) (hr : ∀ w',C w' → (Instr.loadAt t p).run P w' = .ok v w') (hk : K (a.put o.dst v)) :
 if Region.wanted o (yielded ops a.tmps) then o.quiet P a C K else K (a.put o.dst undef):=by
 rw [if_pos hw]
 refine ⟨v,fun w' hw' => ?_,hk⟩
 unfold Oper.quietAt execOp
 simp only [ho,hx,Sem.run_bind,hr w' hw',Result.andThen_ok,Sem.run_pure,Oper.quietUpon]
 exact ⟨trivial,trivial⟩
end
def Holds (w : World) (g : Nat) (t : St) : Prop:=Row w g 27 t.cells
section
variable {W : World} {g : Nat} {t : St}
theorem Holds.lt (h : Holds W g t) : g < W.heap.size:=Row.lt h
theorem Holds.below {w' : World} (h : Holds W g t) (hb : Below W.heap.size W w') : Holds w' g t:=Row.below h hb h.lt
theorem Holds.alloc (h : Holds W g t) (o : Obj) : Holds (W.alloc o) g t:=Row.alloc h o
theorem Holds.drewN (h : Holds W g t) (n : Nat) : Holds (W.drewN n) g t:=h
theorem Holds.made (w : World) (t : St) : Holds (w.alloc (.cells #[.int .i64 t.d,.int .i64 t.e,.int .i64 t.x,.int .i64 t.y,.int .i64 t.z] 27)) w.heap.size t:=Row.made w _ _
theorem Holds.at_ (h : Holds W g t) (j : Nat) : W.cell? ⟨g,j,none⟩ = t.cells[j]?:=Row.cell h j
theorem load_t (h : Holds W g t) : ∀ w',Below W.heap.size W w' → (Instr.loadAt 27 (.pointer (some ⟨g,0,none⟩))).run Tryz.prog w' = .ok (.agg #[.int .i64 t.d,.int .i64 t.e,.int .i64 t.x,.int .i64 t.y,.int .i64 t.z]) w' :=
 fun w' hb => run_loadAt_part g 0 27 _ t.cells (fun j v hj => by rw [add_at,(h.below hb).at_,Nat.zero_add];exact hj) Tryz.underlying27 rfl (by kernel_rfl)
theorem load_l (h : Holds W g t) : ∀ w',Below W.heap.size W w' → (Instr.loadAt 25 (.pointer (some ⟨g,2,none⟩))).run Tryz.prog w' = .ok (.agg #[.int .i64 t.x,.int .i64 t.y,.int .i64 t.z]) w' :=
 fun w' hb => run_loadAt_part g 2 25 _ [.int .i64 t.x,.int .i64 t.y,.int .i64 t.z] (fun j v hj => by rw [add_at,(h.below hb).at_,Nat.add_comm];exact hj) Tryz.underlying25 rfl (by kernel_rfl)
theorem load_1 (h : Holds W g t) (j : Nat) {v : Int} (hj : t.cells[j]? = some (.int .i64 v)) : ∀ w',Below W.heap.size W w' → (Instr.loadAt 3 (.pointer (some ⟨g,j,none⟩))).run Tryz.prog w' = .ok (.int .i64 v) w':=by
 intro w' hb
 have hc:=((h.below hb).at_ j).trans hj
 go_simp
theorem load_d (h : Holds W g t) : ∀ w',Below W.heap.size W w' → (Instr.loadAt 3 (.pointer (some ⟨g,0,none⟩))).run Tryz.prog w' = .ok (.int .i64 t.d) w':=load_1 h 0 rfl
theorem load_e (h : Holds W g t) : ∀ w',Below W.heap.size W w' → (Instr.loadAt 3 (.pointer (some ⟨g,1,none⟩))).run Tryz.prog w' = .ok (.int .i64 t.e) w':=load_1 h 1 rfl
theorem load_x (h : Holds W g t) : ∀ w',Below W.heap.size W w' → (Instr.loadAt 3 (.pointer (some ⟨g,2,none⟩))).run Tryz.prog w' = .ok (.int .i64 t.x) w':=load_1 h 2 rfl
theorem load_y (h : Holds W g t) : ∀ w',Below W.heap.size W w' → (Instr.loadAt 3 (.pointer (some ⟨g,3,none⟩))).run Tryz.prog w' = .ok (.int .i64 t.y) w':=load_1 h 3 rfl
theorem load_z (h : Holds W g t) : ∀ w',Below W.heap.size W w' → (Instr.loadAt 3 (.pointer (some ⟨g,4,none⟩))).run Tryz.prog w' = .ok (.int .i64 t.z) w':=load_1 h 4 rfl
end
end

section
theorem eq_int (d : Nat) (a b : Int) (w : World) : (Op.equalIn (d + 1) 3 (.int .i64 a) (.int .i64 b)).run Tryz.prog w = .ok (a == b) w:=run_equalIn_int w d 3 .i64 .i64 a b Tryz.underlying3
theorem range3 : List.range' 0 3 = [0,1,2]:=rfl
theorem eq3 (d : Nat) (x y z p q r : Int) (w : World) : (Op.equalIn (d + 2) 25 (.agg #[.int .i64 x,.int .i64 y,.int .i64 z]) (.agg #[.int .i64 p,.int .i64 q,.int .i64 r])).run Tryz.prog w = .ok (decide (x = p ∧ y = q ∧ z = r)) w:=by
 have hu:=Tryz.underlying25
 have hi : ∀ w,(isAgg 3).run Tryz.prog w = .ok false w:=fun w => by go_simp
 unfold Op.equalIn
 simp [run_underlying hu,range3,part,hi,eq_int,Sem.run_bind]
 by_cases h1 : x = p
 · by_cases h2 : y = q
   · by_cases h3 : z = r
     · simp [h1,h2,h3]
     · simp [h1,h2,h3]
   · simp [h1,h2]
 · simp [h1]
theorem dec5 (a b : St) : decide (a = b) = (decide (a.d = b.d) && (decide (a.e = b.e) && decide (a.x = b.x ∧ a.y = b.y ∧ a.z = b.z))):=by
 rw [Bool.eq_iff_iff]
 simp [St.ext_iff']
theorem run_eq5 (a b : St) (w : World) : (Op.equalIn 10000 27 (.agg #[.int .i64 a.d,.int .i64 a.e,.int .i64 a.x,.int .i64 a.y,.int .i64 a.z]) (.agg #[.int .i64 b.d,.int .i64 b.e,.int .i64 b.x,.int .i64 b.y,.int .i64 b.z])).run Tryz.prog w = .ok (decide (a = b)) w:=by
 have h:=run_equalIn_agg (P:=Tryz.prog) w 9999 27 #[.int .i64 a.d,.int .i64 a.e,.int .i64 a.x,.int .i64 a.y,.int .i64 a.z] #[.int .i64 b.d,.int .i64 b.e,.int .i64 b.x,.int .i64 b.y,.int .i64 b.z] (by kernel_rfl) (by kernel_rfl)
 have hf : (Tryz.prog.fieldsOf 27).toList = (Tryz.prog.fieldsOf 26).toList:=by kernel_rfl
 rw [h,dec5]
 have e1:=fun a b w => eq_int 9998 a b w
 have e3:=fun x y z p q r w => eq3 9997 x y z p q r w
 have hi : ∀ w,(isAgg 3).run Tryz.prog w = .ok false w:=fun w => by go_simp
 have hj : ∀ w,(isAgg 25).run Tryz.prog w = .ok true w:=fun w => by go_simp
 have hs : ∀ w,(sizeOf 25).run Tryz.prog w = .ok 3 w:=fun w => by go_simp
 obtain ⟨fs,hfs⟩ : ∃ fs,(Tryz.prog.fieldsOf 27).toList = fs:=⟨_,rfl⟩
 rw [hfs]
 have hu:=Tryz.underlying27
 simp only [Program.fieldsOf,hu] at hfs
 subst hfs
 simp [Op.eqFields,part,hi,hj,hs,e1,e3,Sem.run_bind,go_sem]
 by_cases h0 : a.d = b.d <;> by_cases h1 : a.e = b.e <;> by_cases h2 : a.x = b.x <;> by_cases h3 : a.y = b.y <;> by_cases h4 : a.z = b.z <;> simp [h0,h1,h2,h3,h4]
section
variable {P : Program} {C : World → Prop} {K : Act → Prop} {a : Act} {o : Oper} {ops : Array Oper}
theorem q_bin {v p q : Value} (op : BinOp) (t u : TypeId) (x y : Operand) (ho : o.op = .binOp op t x y u) (hw : Region.wanted o (yielded ops a.tmps) = true) (hx : a.eval x = p) (hy : a.eval y = q)
 (hr : ∀ w',(do eqGuard op t x y p q;binOp op t p q : Sem Value).run P w' = .ok v w') (hk : K (a.put o.dst v)) :
 if Region.wanted o (yielded ops a.tmps) then o.quiet P a C K else K (a.put o.dst undef):=by
 rw [if_pos hw]
 refine ⟨v,fun w' hw' => ?_,hk⟩
 unfold Oper.quietAt execOp
 simp only [ho,hx,hy]
 rw [Sem.run_bind,hr w']
 simp only [Result.andThen_ok,Sem.run_pure,Oper.quietUpon]
 exact ⟨trivial,trivial⟩
end
def eqL (a b c p q r : Int) : Bool:=decide (a = p ∧ b = q ∧ c = r)
def eqB (a b : St) : Bool:=decide (a = b)
theorem ne_t (x y : Operand) (a b : St) : ∀ w,(do eqGuard .neq 27 x y (.agg #[.int .i64 a.d,.int .i64 a.e,.int .i64 a.x,.int .i64 a.y,.int .i64 a.z]) (.agg #[.int .i64 b.d,.int .i64 b.e,.int .i64 b.x,.int .i64 b.y,.int .i64 b.z]);binOp .neq 27 (.agg #[.int .i64 a.d,.int .i64 a.e,.int .i64 a.x,.int .i64 a.y,.int .i64 a.z]) (.agg #[.int .i64 b.d,.int .i64 b.e,.int .i64 b.x,.int .i64 b.y,.int .i64 b.z]) : Sem Value).run Tryz.prog w = .ok (.bool (!eqB a b)) w:=by
 intro w
 rw [Sem.run_bind,run_eqGuard_agg w _ _ _ _ _ _ (by kernel_rfl),Result.andThen_ok,run_neq_struct,run_eq5]
 rfl
theorem eq_l (x y : Operand) (a b c p q r : Int) : ∀ w,(do eqGuard .eql 25 x y (.agg #[.int .i64 a,.int .i64 b,.int .i64 c]) (.agg #[.int .i64 p,.int .i64 q,.int .i64 r]);binOp .eql 25 (.agg #[.int .i64 a,.int .i64 b,.int .i64 c]) (.agg #[.int .i64 p,.int .i64 q,.int .i64 r]) : Sem Value).run Tryz.prog w = .ok (.bool (eqL a b c p q r)) w:=by
 intro w
 rw [Sem.run_bind,run_eqGuard_agg w _ _ _ _ _ _ (by kernel_rfl),Result.andThen_ok,run_eql_struct,eq3 9998]
 rfl
end

section
theorem R_near (t : St) (n : Nat) (hd : t.d = n) (h3 : n ≤ 3) (h0 : 0 ≤ t.e) (h1 : t.e < 1000) : (t.x = nk n 0 t.x ∧ t.y = nk n 1 t.y ∧ t.z = nk n 2 t.z) ↔ t.R:=by
 have k : ∀ (j : Nat) (v : Int),v = nk n j v ↔ (0 ≤ v ∧ v < 16 ∧ (t.d ≤ j → v = 0)):=by
  intro j v
  unfold nk
  by_cases h : j < n
  · rw [if_pos h,eq_comm,nr_eq];omega
  · rw [if_neg h];omega
 rw [k 0,k 1,k 2]
 unfold St.R
 omega
set_option maxHeartbeats 1000000 in
theorem right_any (t : St) (w : World) : Calls Tryz.prog 75 #[t.val] w fun e w' => e = .returned (.bool (decide t.R)) ∧ Below w.heap.size w w':=by
 by_cases hd : t.d < 0 ∨ 3 < t.d ∨ t.e < 0 ∨ 1000 ≤ t.e
 · have hf : decide t.R = false:=by rw [decide_eq_false_iff_not];unfold St.R;omega
   rw [hf];clear hf
   obtain ⟨d,e,x,y,z⟩:=t
   unfold St.val
   simp only at hd ⊢
   have hcase : d < 0 ∨ (0 ≤ d ∧ 3 < d) ∨ (0 ≤ d ∧ d ≤ 3 ∧ e < 0) ∨ (0 ≤ d ∧ d ≤ 3 ∧ 0 ≤ e ∧ 1000 ≤ e):=by omega
   clear hd
   rcases hcase with h | ⟨h,h2⟩ | ⟨h,h2,h3⟩ | ⟨h,h2,h3,h4⟩
   · have t1 : decide (0 ≤ d) = false:=by simp;omega
     have t1' : decide (d ≥ 0) = false:=by simp;omega
     go_enter Tryz.func75,Tryz.ntmps75
     go_wp2_with fail
     go_quiet (fail)
     go_wp2_with fail
     go_ret
     exact ⟨rfl,below_drewN ((Below.refl _ _).alloc (Nat.le_refl _) _) _⟩
   · have t1 : decide (d ≤ 3) = false:=by simp;omega
     go_enter Tryz.func75,Tryz.ntmps75
     go_wp2_with fail
     go_quiet (fail)
     go_wp2_with fail
     go_ret
     exact ⟨rfl,below_drewN ((Below.refl _ _).alloc (Nat.le_refl _) _) _⟩
   · have t1 : decide (0 ≤ e) = false:=by simp;omega
     have t1' : decide (e ≥ 0) = false:=by simp;omega
     go_enter Tryz.func75,Tryz.ntmps75
     go_wp2_with fail
     go_quiet (fail)
     go_wp2_with fail
     go_ret
     exact ⟨rfl,below_drewN ((Below.refl _ _).alloc (Nat.le_refl _) _) _⟩
   · have t1 : decide (e < 1000) = false:=by simp;omega
     go_enter Tryz.func75,Tryz.ntmps75
     go_wp2_with fail
     go_quiet (fail)
     go_wp2_with fail
     go_ret
     exact ⟨rfl,below_drewN ((Below.refl _ _).alloc (Nat.le_refl _) _) _⟩
 · obtain ⟨n,hn⟩ : ∃ n : Nat,t.d = n:=⟨t.d.toNat,by omega⟩
   have hr:=R_near t n hn (by omega) (by omega) (by omega)
   have hcall:=fun w => nearest_any t.d t.e t.x t.y t.z n w hn (by omega)
   have hdec : decide t.R = decide (t.x = nk n 0 t.x ∧ t.y = nk n 1 t.y ∧ t.z = nk n 2 t.z):=by rw [decide_eq_decide];exact hr.symm
   rw [hdec,show decide (t.x = nk n 0 t.x ∧ t.y = nk n 1 t.y ∧ t.z = nk n 2 t.z) = eqL t.x t.y t.z (nk n 0 t.x) (nk n 1 t.y) (nk n 2 t.z) from rfl];clear hdec hr
   obtain ⟨d,e,x,y,z⟩:=t
   unfold St.val
   simp only at hd hn hcall ⊢
   have g0 : 0 ≤ d:=by omega
   have g1 : d ≤ 3:=by omega
   have g2 : 0 ≤ e:=by omega
   have g3 : e < 1000:=by omega
   clear hd hn
   generalize nk n 0 x = p at *
   generalize nk n 1 y = q at *
   generalize nk n 2 z = r at *
   have HC:=Hd hcall;clear hcall
   go_enter Tryz.func75,Tryz.ntmps75
   go_wp2_with fail
   have hT : Holds (w.alloc (.cells #[.int .i64 d,.int .i64 e,.int .i64 x,.int .i64 y,.int .i64 z] 27)) w.heap.size ⟨d,e,x,y,z⟩:=Holds.made w ⟨d,e,x,y,z⟩
   have HT:=Hd hT;clear hT
   refine wp_region_below (by kernel_rfl) (by kernel_rfl) ?_
   repeat (refine wpQuiet_step (fun K hK => ?_);(first
    | ((first
      | (refine q_load (p:=.pointer (some ⟨w.heap.size,0,none⟩)) 27 _ rfl rfl rfl (load_t HT.out) ?_)
      | (refine q_load (p:=.pointer (some ⟨w.heap.size,2,none⟩)) 25 _ rfl rfl rfl (load_l HT.out) ?_)
      | (refine q_load (p:=.pointer (some ⟨w.heap.size,0,none⟩)) 3 _ rfl rfl rfl (load_d HT.out) ?_)
      | (refine q_load (p:=.pointer (some ⟨w.heap.size,1,none⟩)) 3 _ rfl rfl rfl (load_e HT.out) ?_)
      | (refine q_load (p:=.pointer (some ⟨w.heap.size,2,none⟩)) 3 _ rfl rfl rfl (load_x HT.out) ?_)
      | (refine q_load (p:=.pointer (some ⟨w.heap.size,3,none⟩)) 3 _ rfl rfl rfl (load_y HT.out) ?_)
      | (refine q_load (p:=.pointer (some ⟨w.heap.size,4,none⟩)) 3 _ rfl rfl rfl (load_z HT.out) ?_)
      | (refine q_bin _ _ _ _ _ rfl rfl rfl rfl (eq_l _ _ _ _ _ _ _ _) ?_));go_simp;(with_reducible refine hK _ ?_))
    | (go_simp;(first
      | (with_reducible refine hK _ ?_)
      | (with_reducible refine ⟨_,fun _ _ => rfl,hK _ ?_⟩)
      | (with_reducible refine ⟨_,fun _ hb => (HC.out _).mono fun _ _ h => ⟨h.1,hb.trans (h.2.mono (by simpa using hb.size))⟩,hK _ ?_⟩))));clear hK K)
   refine wpQuiet_nil ?_
   intro w2 hb2
   go_wp2_with fail
   go_ret
   exact ⟨rfl,((Below.refl _ _).alloc (Nat.le_refl _) _).trans (hb2.mono (by simp))⟩
end

section
structure Sm where
 fr : Int
 to : Int
 kp : Int
 ad : Int
 t0 : Int
 t1 : Int
 t2 : Int
theorem Sm.ext' {a b : Sm} (h1 : a.fr = b.fr) (h2 : a.to = b.to) (h3 : a.kp = b.kp) (h4 : a.ad = b.ad) (h5 : a.t0 = b.t0) (h6 : a.t1 = b.t1) (h7 : a.t2 = b.t2) : a = b:=by
 cases a;cases b;simp at *;simp [h1,h2,h3,h4,h5,h6,h7]
theorem Sm.ext_iff' {a b : Sm} : a = b ↔ a.fr = b.fr ∧ a.to = b.to ∧ a.kp = b.kp ∧ a.ad = b.ad ∧ a.t0 = b.t0 ∧ a.t1 = b.t1 ∧ a.t2 = b.t2 :=
 ⟨by rintro rfl;simp,fun ⟨h1,h2,h3,h4,h5,h6,h7⟩ => Sm.ext' h1 h2 h3 h4 h5 h6 h7⟩
instance : DecidableEq Sm:=fun a b => decidable_of_iff _ Sm.ext_iff'.symm
def Sm.tl (s : Sm) (i : Int) : Int:=if i = 0 then s.t0 else if i = 1 then s.t1 else if i = 2 then s.t2 else 0
def Sm.R (s : Sm) : Prop:=(0 ≤ s.fr ∧ s.fr ≤ 3) ∧ (0 ≤ s.to ∧ s.to ≤ 3) ∧ (0 ≤ s.kp ∧ s.kp ≤ s.fr ∧ s.kp ≤ s.to) ∧ (0 ≤ s.ad ∧ s.ad < 16 ∧ (s.kp = 0 → s.ad = 0)) ∧
 (0 ≤ s.t0 ∧ s.t0 < 16 ∧ (s.to - s.kp ≤ 0 → s.t0 = 0)) ∧ (0 ≤ s.t1 ∧ s.t1 < 16 ∧ (s.to - s.kp ≤ 1 → s.t1 = 0)) ∧ (0 ≤ s.t2 ∧ s.t2 < 16 ∧ (s.to - s.kp ≤ 2 → s.t2 = 0))
instance (s : Sm) : Decidable s.R:=inferInstanceAs (Decidable (_ ∧ _))
def Sm.N (s : Sm) (i : Int) : Int:=if s.kp ≤ i then s.tl (i - s.kp) else if i = s.kp - 1 then s.ad else 0
def St.at_ (t : St) (i : Int) : Int:=if i = 0 then t.x else if i = 1 then t.y else if i = 2 then t.z else 0
section
variable {a b c s p q : Sm} {t u v w : St} {i : Int}
theorem Sm.tl_R (h : s.R) (i : Int) : 0 ≤ s.tl i ∧ s.tl i < 16:=by
 unfold Sm.R at h;unfold Sm.tl;repeat' split
 all_goals omega
theorem Sm.N_R (h : s.R) (i : Int) : 0 ≤ s.N i ∧ s.N i < 16:=by
 have h1:=Sm.tl_R h (i - s.kp)
 unfold Sm.R at h;unfold Sm.N;repeat' split
 all_goals omega
theorem Sm.N_zero (h : s.R) (hi : s.to ≤ i) : s.N i = 0:=by
 unfold Sm.R at h;unfold Sm.N Sm.tl;repeat' split
 all_goals omega
theorem St.at_R (h : t.R) (i : Int) : 0 ≤ t.at_ i ∧ t.at_ i < 16:=by
 unfold St.R at h;unfold St.at_;repeat' split
 all_goals omega
theorem Sm.N_ext (ha : a.R) (hb : b.R) (h1 : a.fr = b.fr) (h2 : a.to = b.to) (h3 : a.kp = b.kp) (h : ∀ i,0 ≤ i → i < 3 → a.N i = b.N i) : a = b:=by
 have g0:=h 0 (by omega) (by omega)
 have g1:=h 1 (by omega) (by omega)
 have g2:=h 2 (by omega) (by omega)
 unfold Sm.R at ha hb
 unfold Sm.N Sm.tl at g0 g1 g2
 rw [← h3] at g0 g1 g2
 have hk : a.kp = 0 ∨ a.kp = 1 ∨ a.kp = 2 ∨ a.kp = 3:=by omega
 rcases hk with e | e | e | e
 · rw [e] at g0 g1 g2;simp at g0 g1 g2
   exact Sm.ext' h1 h2 h3 (by omega) g0 g1 g2
 · rw [e] at g0 g1 g2;simp at g0 g1 g2
   exact Sm.ext' h1 h2 h3 g0 g1 g2 (by omega)
 · rw [e] at g0 g1 g2;simp at g0 g1 g2
   exact Sm.ext' h1 h2 h3 g1 g2 (by omega) (by omega)
 · rw [e] at g0 g1 g2;simp at g0 g1 g2
   exact Sm.ext' h1 h2 h3 g2 (by omega) (by omega) (by omega)
/-! applied -/
def Sm.val (s : Sm) (t : St) (i : Int) : Int:=if i < s.to then s.N i + (if i < s.kp then t.at_ i else 0) else 0
def Sm.apply (s : Sm) (t : St) : Option St :=
 if s.R ∧ t.R ∧ t.d = s.fr ∧ s.val t 0 < 16 ∧ s.val t 1 < 16 ∧ s.val t 2 < 16 then some ⟨s.to,t.e,s.val t 0,s.val t 1,s.val t 2⟩ else none
theorem Sm.apply_some : s.apply t = some u ↔ (s.R ∧ t.R ∧ t.d = s.fr ∧ s.val t 0 < 16 ∧ s.val t 1 < 16 ∧ s.val t 2 < 16) ∧ u = ⟨s.to,t.e,s.val t 0,s.val t 1,s.val t 2⟩:=by
 unfold Sm.apply
 split
 · rename_i h;simp only [Option.some.injEq];exact ⟨fun e => ⟨h,e.symm⟩,fun e => e.2.symm⟩
 · rename_i h;simp only [reduceCtorEq,false_iff];exact fun e => h e.1
theorem Sm.val_R (h : s.R) (k : t.R) (i : Int) : 0 ≤ s.val t i:=by
 have h1:=Sm.N_R h i;have h2:=St.at_R k i
 unfold Sm.val;repeat' split
 all_goals omega
theorem Sm.val_out (hi : s.to ≤ i) : s.val t i = 0:=by unfold Sm.val;rw [if_neg (by omega)]
theorem Sm.apply_R (h : s.apply t = some u) : u.R ∧ u.d = s.to ∧ u.e = t.e ∧ ∀ i,0 ≤ i → i < 3 → u.at_ i = s.val t i:=by
 obtain ⟨⟨h1,h2,h3,h4,h5,h6⟩,rfl⟩:=Sm.apply_some.1 h
 have g0:=Sm.val_R h1 h2 0;have g1:=Sm.val_R h1 h2 1;have g2:=Sm.val_R h1 h2 2
 have z0:=Sm.val_out (s:=s) (t:=t) (i:=0);have z1:=Sm.val_out (s:=s) (t:=t) (i:=1);have z2:=Sm.val_out (s:=s) (t:=t) (i:=2)
 have h1':=h1;have h2':=h2
 unfold Sm.R at h1';unfold St.R at h2'
 refine ⟨?_,rfl,rfl,fun i hi hi3 => ?_⟩
 · unfold St.R;simp only
   refine ⟨by omega,by omega,⟨g0,h4,z0⟩,⟨g1,h5,z1⟩,⟨g2,h6,z2⟩⟩
 · have : i = 0 ∨ i = 1 ∨ i = 2:=by omega
   rcases this with e | e | e <;> subst e <;> simp [St.at_]
/-! one behind the other -/
def Sm.M (a b : Sm) (i : Int) : Int:=if i < b.to then (if i < b.kp then a.N i + b.N i else b.N i) else 0
def Sm.seq (a b : Sm) : Sm :=
 ⟨a.fr,b.to,min a.kp b.kp,if min a.kp b.kp = 0 then 0 else a.M b (min a.kp b.kp - 1),a.M b (min a.kp b.kp),a.M b (min a.kp b.kp + 1),a.M b (min a.kp b.kp + 2)⟩
def Sm.thenOk (a b : Sm) : Prop:=a.R ∧ b.R ∧ a.to = b.fr ∧ a.M b 0 < 16 ∧ a.M b 1 < 16 ∧ a.M b 2 < 16
instance : Decidable (a.thenOk b):=inferInstanceAs (Decidable (_ ∧ _))
theorem Sm.M_R (ha : a.R) (hb : b.R) (i : Int) : 0 ≤ a.M b i:=by
 have h1:=Sm.N_R ha i;have h2:=Sm.N_R hb i
 unfold Sm.M;repeat' split
 all_goals omega
theorem Sm.M_out (hi : b.to ≤ i) : a.M b i = 0:=by unfold Sm.M;rw [if_neg (by omega)]
theorem Sm.M_lt (h : a.thenOk b) (hi : 0 ≤ i) : a.M b i < 16:=by
 obtain ⟨ha,hb,_,h0,h1,h2⟩:=h
 have : i = 0 ∨ i = 1 ∨ i = 2 ∨ 3 ≤ i:=by omega
 rcases this with e | e | e | e
 · rw [e];exact h0
 · rw [e];exact h1
 · rw [e];exact h2
 · have hb':=hb;unfold Sm.R at hb'
   rw [Sm.M_out (by omega)];omega
theorem Sm.seq_R (h : a.thenOk b) : (a.seq b).R:=by
 obtain ⟨ha,hb,ht,-⟩:=id h
 have ha':=ha;have hb':=hb
 unfold Sm.R at ha' hb'
 have g : ∀ i,0 ≤ a.M b i:=Sm.M_R ha hb
 have l : ∀ i,0 ≤ i → a.M b i < 16:=fun i hi => Sm.M_lt h hi
 have z : ∀ i,b.to ≤ i → a.M b i = 0:=fun i hi => Sm.M_out hi
 have hk0 : 0 ≤ min a.kp b.kp:=by omega
 unfold Sm.R Sm.seq
 simp only
 refine ⟨by omega,by omega,by omega,⟨?_,?_,?_⟩,⟨g _,l _ hk0,fun hh => z _ (by omega)⟩,⟨g _,l _ (by omega),fun hh => z _ (by omega)⟩,⟨g _,l _ (by omega),fun hh => z _ (by omega)⟩⟩
 · split;omega;exact g _
 · split;omega;exact l _ (by omega)
 · intro hh;rw [if_pos hh]
theorem Sm.seq_N (ha : a.R) (hb : b.R) (ht : a.to = b.fr) (hi : 0 ≤ i) (hi3 : i < 3) : (a.seq b).N i = a.M b i:=by
 have ha':=ha;have hb':=hb
 unfold Sm.R at ha' hb'
 have hkm : 0 ≤ min a.kp b.kp:=by omega
 have hak : ∀ j,j < a.kp - 1 → a.N j = 0:=fun j hj => by unfold Sm.N;rw [if_neg (by omega),if_neg (by omega)]
 have hbk : ∀ j,j < b.kp - 1 → b.N j = 0:=fun j hj => by unfold Sm.N;rw [if_neg (by omega),if_neg (by omega)]
 show (if min a.kp b.kp ≤ i then (a.seq b).tl (i - min a.kp b.kp) else if i = min a.kp b.kp - 1 then (if min a.kp b.kp = 0 then 0 else a.M b (min a.kp b.kp - 1)) else 0) = _
 by_cases h1 : min a.kp b.kp ≤ i
 · rw [if_pos h1]
   unfold Sm.tl
   have : i - min a.kp b.kp = 0 ∨ i - min a.kp b.kp = 1 ∨ i - min a.kp b.kp = 2:=by omega
   rcases this with e | e | e
   · rw [if_pos e];show a.M b (min a.kp b.kp) = _;rw [show min a.kp b.kp = i by omega]
   · rw [if_neg (by omega),if_pos e];show a.M b (min a.kp b.kp + 1) = _;rw [show min a.kp b.kp + 1 = i by omega]
   · rw [if_neg (by omega),if_neg (by omega),if_pos e];show a.M b (min a.kp b.kp + 2) = _;rw [show min a.kp b.kp + 2 = i by omega]
 · rw [if_neg h1]
   by_cases h2 : i = min a.kp b.kp - 1
   · rw [if_pos h2,if_neg (by omega),h2]
   · rw [if_neg h2]
     unfold Sm.M
     rw [if_pos (by omega),if_pos (by omega),hak i (by omega),hbk i (by omega)];rfl
theorem Sm.seq_apply (h : a.thenOk b) (hu : a.apply t = some u) : (a.seq b).apply t = b.apply u:=by
 obtain ⟨ha,hb,ht,-⟩:=id h
 obtain ⟨hur,hud,hue,hua⟩:=Sm.apply_R hu
 obtain ⟨⟨-,htr,htd,-⟩,-⟩:=Sm.apply_some.1 hu
 have hb':=hb;have ha':=ha
 unfold Sm.R at ha' hb'
 have key : ∀ i,0 ≤ i → i < 3 → (a.seq b).val t i = b.val u i:=by
  intro i hi hi3
  show (if i < b.to then (a.seq b).N i + (if i < min a.kp b.kp then t.at_ i else 0) else 0) = _
  unfold Sm.val
  by_cases h1 : i < b.to
  · rw [if_pos h1,if_pos h1,Sm.seq_N ha hb ht hi hi3,hua i hi hi3]
    unfold Sm.M Sm.val
    rw [if_pos h1]
    by_cases h2 : i < b.kp
    · rw [if_pos h2,if_pos h2,if_pos (show i < a.to by omega)]
      by_cases h3 : i < a.kp
      · rw [if_pos (show i < min a.kp b.kp by omega),if_pos h3];omega
      · rw [if_neg (show ¬ i < min a.kp b.kp by omega),if_neg h3];omega
    · rw [if_neg h2,if_neg h2,if_neg (show ¬ i < min a.kp b.kp by omega)]
  · rw [if_neg h1,if_neg h1]
 have k0:=key 0 (by omega) (by omega);have k1:=key 1 (by omega) (by omega);have k2:=key 2 (by omega) (by omega)
 have hsr:=Sm.seq_R h
 unfold Sm.apply
 rw [k0,k1,k2]
 by_cases hc : b.val u 0 < 16 ∧ b.val u 1 < 16 ∧ b.val u 2 < 16
 · rw [if_pos ⟨hsr,htr,htd,hc⟩,if_pos ⟨hb,hur,by rw [hud];exact ht,hc⟩,hue];rfl
 · rw [if_neg (fun e => hc e.2.2.2),if_neg (fun e => hc e.2.2.2)]
theorem Sm.M_assoc (h1 : a.thenOk b) (h2 : b.thenOk c) (hi : 0 ≤ i) (hi3 : i < 3) : (a.seq b).M c i = a.M (b.seq c) i:=by
 obtain ⟨ha,hb,hab,-⟩:=id h1
 obtain ⟨-,hc,hbc,-⟩:=id h2
 have ha':=ha;have hb':=hb;have hc':=hc
 unfold Sm.R at ha' hb' hc'
 show (if i < c.to then (if i < c.kp then (a.seq b).N i + c.N i else c.N i) else 0) = (if i < c.to then (if i < min b.kp c.kp then a.N i + (b.seq c).N i else (b.seq c).N i) else 0)
 by_cases g1 : i < c.to
 · rw [if_pos g1,if_pos g1,Sm.seq_N ha hb hab hi hi3,Sm.seq_N hb hc hbc hi hi3]
   unfold Sm.M
   rw [if_pos g1]
   by_cases g2 : i < c.kp
   · rw [if_pos g2,if_pos g2,if_pos (show i < b.to by omega)]
     by_cases g3 : i < b.kp
     · rw [if_pos g3,if_pos (by omega)];omega
     · rw [if_neg g3,if_neg (by omega)]
   · rw [if_neg g2,if_neg (by omega),if_neg g2]
 · rw [if_neg g1,if_neg g1]
theorem Sm.seq_assoc (h1 : a.thenOk b) (h2 : b.thenOk c) : ((a.seq b).thenOk c ↔ a.thenOk (b.seq c)) ∧ ((a.seq b).thenOk c → (a.seq b).seq c = a.seq (b.seq c)):=by
 have m0:=Sm.M_assoc h1 h2 (i:=0) (by omega) (by omega)
 have m1:=Sm.M_assoc h1 h2 (i:=1) (by omega) (by omega)
 have m2:=Sm.M_assoc h1 h2 (i:=2) (by omega) (by omega)
 have r1:=Sm.seq_R h1;have r2:=Sm.seq_R h2
 have hiff : (a.seq b).thenOk c ↔ a.thenOk (b.seq c):=by
  unfold Sm.thenOk
  rw [m0,m1,m2]
  constructor
  · rintro ⟨_,_,_,h⟩;exact ⟨h1.1,r2,h1.2.2.1,h⟩
  · rintro ⟨_,_,_,h⟩;exact ⟨r1,h2.2.1,h2.2.2.1,h⟩
 refine ⟨hiff,fun h3 => ?_⟩
 refine Sm.N_ext (Sm.seq_R h3) (Sm.seq_R (hiff.1 h3)) rfl rfl ?_ (fun i hi hi3 => ?_)
 · show min (min a.kp b.kp) c.kp = min a.kp (min b.kp c.kp);omega
 · rw [Sm.seq_N r1 h2.2.1 h2.2.2.1 hi hi3,Sm.seq_N h1.1 r2 h1.2.2.1 hi hi3]
   exact Sm.M_assoc h1 h2 hi hi3
/-! their order -/
def Sm.L (a b : Sm) : Prop:=a.R ∧ b.R ∧ a.fr = b.fr ∧ a.to = b.to ∧ a.kp ≤ b.kp ∧ (0 < a.to → a.N 0 ≤ b.N 0) ∧ (1 < a.to → a.N 1 ≤ b.N 1) ∧ (2 < a.to → a.N 2 ≤ b.N 2)
instance : Decidable (a.L b):=inferInstanceAs (Decidable (_ ∧ _))
theorem Sm.L_at (h : a.L b) (hi : 0 ≤ i) (hi3 : i < 3) : a.N i ≤ b.N i:=by
 obtain ⟨ha,hb,_,ht,_,h0,h1,h2⟩:=h
 by_cases hit : i < a.to
 · have : i = 0 ∨ i = 1 ∨ i = 2:=by omega
   rcases this with e | e | e <;> subst e
   · exact h0 hit
   · exact h1 hit
   · exact h2 hit
 · rw [Sm.N_zero ha (by omega),Sm.N_zero hb (by omega)];omega
theorem Sm.L_refl : a.L a ↔ a.R:=⟨fun h => h.1,fun h => ⟨h,h,rfl,rfl,Int.le_refl _,fun _ => Int.le_refl _,fun _ => Int.le_refl _,fun _ => Int.le_refl _⟩⟩
theorem Sm.L_trans (h : a.L b) (k : b.L c) : a.L c:=by
 refine ⟨h.1,k.2.1,h.2.2.1.trans k.2.2.1,h.2.2.2.1.trans k.2.2.2.1,Int.le_trans h.2.2.2.2.1 k.2.2.2.2.1,fun _ => ?_,fun _ => ?_,fun _ => ?_⟩
 · exact Int.le_trans (Sm.L_at h (by omega) (by omega)) (Sm.L_at k (by omega) (by omega))
 · exact Int.le_trans (Sm.L_at h (by omega) (by omega)) (Sm.L_at k (by omega) (by omega))
 · exact Int.le_trans (Sm.L_at h (by omega) (by omega)) (Sm.L_at k (by omega) (by omega))
theorem Sm.L_antisymm (h : a.L b) (k : b.L a) : a = b :=
 Sm.N_ext h.1 h.2.1 h.2.2.1 h.2.2.2.1 (Int.le_antisymm h.2.2.2.2.1 k.2.2.2.2.1) fun i hi hi3 => Int.le_antisymm (Sm.L_at h hi hi3) (Sm.L_at k hi hi3)
theorem Sm.apply_mono (h : a.L b) (hts : w.L t) (hu : b.apply t = some u) : ∃ v,a.apply w = some v ∧ v.L u:=by
 obtain ⟨ha,hb,hf,hto,hk,-⟩:=id h
 obtain ⟨⟨-,htr,htd,g0,g1,g2⟩,rfl⟩:=Sm.apply_some.1 hu
 have hur:=(Sm.apply_R hu).1
 obtain ⟨hwr,-,hwd,hwe,hwx,hwy,hwz⟩:=id hts
 have hat : ∀ i,w.at_ i ≤ t.at_ i:=by
  intro i
  show (if i = 0 then w.x else if i = 1 then w.y else if i = 2 then w.z else 0) ≤ (if i = 0 then t.x else if i = 1 then t.y else if i = 2 then t.z else 0)
  repeat' split
  all_goals omega
 have hle : ∀ i,0 ≤ i → i < 3 → a.val w i ≤ b.val t i:=by
  intro i hi hi3
  have h1:=Sm.L_at h hi hi3
  have h2:=hat i
  have h3:=St.at_R htr i
  unfold Sm.val
  rw [hto]
  by_cases c1 : i < b.to
  · rw [if_pos c1,if_pos c1]
    by_cases c2 : i < a.kp
    · rw [if_pos c2,if_pos (by omega)];omega
    · rw [if_neg c2];split <;> omega
  · rw [if_neg c1,if_neg c1];omega
 have l0:=hle 0 (by omega) (by omega);have l1:=hle 1 (by omega) (by omega);have l2:=hle 2 (by omega) (by omega)
 have hv : a.apply w = some ⟨a.to,w.e,a.val w 0,a.val w 1,a.val w 2⟩:=Sm.apply_some.2 ⟨⟨ha,hwr,by omega,by omega,by omega,by omega⟩,rfl⟩
 refine ⟨_,hv,(Sm.apply_R hv).1,hur,hto,hwe,l0,l1,l2⟩
theorem Sm.seq_left (h : a.L b) (hc : b.thenOk c) : a.thenOk c ∧ (a.seq c).L (b.seq c):=by
 obtain ⟨ha,hb,hf,hto,hk,-⟩:=id h
 obtain ⟨-,hcr,hbc,g0,g1,g2⟩:=id hc
 have hle : ∀ i,0 ≤ i → i < 3 → a.M c i ≤ b.M c i:=by
  intro i hi hi3
  have h1:=Sm.L_at h hi hi3
  unfold Sm.M
  repeat' split
  all_goals omega
 have l0:=hle 0 (by omega) (by omega);have l1:=hle 1 (by omega) (by omega);have l2:=hle 2 (by omega) (by omega)
 have hac : a.thenOk c:=⟨ha,hcr,hto.trans hbc,by omega,by omega,by omega⟩
 refine ⟨hac,Sm.seq_R hac,Sm.seq_R hc,hf,rfl,by show min a.kp c.kp ≤ min b.kp c.kp;omega,fun _ => ?_,fun _ => ?_,fun _ => ?_⟩
 · rw [Sm.seq_N ha hcr hac.2.2.1 (by omega) (by omega),Sm.seq_N hb hcr hbc (by omega) (by omega)];exact l0
 · rw [Sm.seq_N ha hcr hac.2.2.1 (by omega) (by omega),Sm.seq_N hb hcr hbc (by omega) (by omega)];exact l1
 · rw [Sm.seq_N ha hcr hac.2.2.1 (by omega) (by omega),Sm.seq_N hb hcr hbc (by omega) (by omega)];exact l2
end
end

section
@[reducible] def Sm.cells (s : Sm) : List Value:=[.int .i64 s.fr,.int .i64 s.to,.int .i64 s.kp,.int .i64 s.ad,.int .i64 s.t0,.int .i64 s.t1,.int .i64 s.t2]
@[reducible] def Sm.v (s : Sm) : Value:=.agg #[.int .i64 s.fr,.int .i64 s.to,.int .i64 s.kp,.int .i64 s.ad,.int .i64 s.t0,.int .i64 s.t1,.int .i64 s.t2]
def Sm.zero : Sm:=⟨0,0,0,0,0,0,0⟩
def HoldsM (w : World) (g : Nat) (ty : TypeId) (s : Sm) : Prop:=Row w g ty s.cells
section
variable {W : World} {g : Nat} {ty : TypeId} {s : Sm}
theorem HoldsM.lt (h : HoldsM W g ty s) : g < W.heap.size:=Row.lt h
theorem HoldsM.below {w' : World} (h : HoldsM W g ty s) (hb : Below W.heap.size W w') : HoldsM w' g ty s:=Row.below h hb h.lt
theorem HoldsM.alloc (h : HoldsM W g ty s) (o : Obj) : HoldsM (W.alloc o) g ty s:=Row.alloc h o
theorem HoldsM.drewN (h : HoldsM W g ty s) (n : Nat) : HoldsM (W.drewN n) g ty s:=h
theorem HoldsM.made (w : World) (ty : TypeId) (s : Sm) : HoldsM (w.alloc (.cells #[.int .i64 s.fr,.int .i64 s.to,.int .i64 s.kp,.int .i64 s.ad,.int .i64 s.t0,.int .i64 s.t1,.int .i64 s.t2] ty)) w.heap.size ty s:=Row.made w _ _
theorem HoldsM.at_ (h : HoldsM W g ty s) (j : Nat) : W.cell? ⟨g,j,none⟩ = s.cells[j]?:=Row.cell h j
theorem HoldsM.cells7 (h : HoldsM W g ty s) : W.cell? ⟨g,0,none⟩ = some (.int .i64 s.fr) ∧ W.cell? ⟨g,1,none⟩ = some (.int .i64 s.to) ∧ W.cell? ⟨g,2,none⟩ = some (.int .i64 s.kp) ∧ W.cell? ⟨g,3,none⟩ = some (.int .i64 s.ad) ∧ W.cell? ⟨g,4,none⟩ = some (.int .i64 s.t0) ∧ W.cell? ⟨g,5,none⟩ = some (.int .i64 s.t1) ∧ W.cell? ⟨g,6,none⟩ = some (.int .i64 s.t2) :=
 ⟨h.at_ 0,h.at_ 1,h.at_ 2,h.at_ 3,h.at_ 4,h.at_ 5,h.at_ 6⟩
theorem HoldsM.free7 (h : HoldsM W g ty s) : W.frozen? ⟨g,0,none⟩ = false ∧ W.frozen? ⟨g,1,none⟩ = false ∧ W.frozen? ⟨g,2,none⟩ = false ∧ W.frozen? ⟨g,3,none⟩ = false ∧ W.frozen? ⟨g,4,none⟩ = false ∧ W.frozen? ⟨g,5,none⟩ = false ∧ W.frozen? ⟨g,6,none⟩ = false :=
 ⟨Row.free h 0,Row.free h 1,Row.free h 2,Row.free h 3,Row.free h 4,Row.free h 5,Row.free h 6⟩
theorem load_m (h : HoldsM W g 82 s) : ∀ w',Below W.heap.size W w' → (Instr.loadAt 82 (.pointer (some ⟨g,0,none⟩))).run Tryz.prog w' = .ok (.agg #[.int .i64 s.fr,.int .i64 s.to,.int .i64 s.kp,.int .i64 s.ad,.int .i64 s.t0,.int .i64 s.t1,.int .i64 s.t2]) w' :=
 fun w' hb => run_loadAt_part g 0 82 _ s.cells (fun j v hj => by rw [add_at,(h.below hb).at_,Nat.zero_add];exact hj) Tryz.underlying82 rfl (by kernel_rfl)
theorem load_ml (h : HoldsM W g ty s) : ∀ w',Below W.heap.size W w' → (Instr.loadAt 25 (.pointer (some ⟨g,4,none⟩))).run Tryz.prog w' = .ok (.agg #[.int .i64 s.t0,.int .i64 s.t1,.int .i64 s.t2]) w' :=
 fun w' hb => run_loadAt_part g 4 25 _ [.int .i64 s.t0,.int .i64 s.t1,.int .i64 s.t2] (fun j v hj => by rw [add_at,(h.below hb).at_,Nat.add_comm];exact hj) Tryz.underlying25 rfl (by kernel_rfl)
theorem load_m1 (h : HoldsM W g ty s) (j : Nat) {v : Int} (hj : s.cells[j]? = some (.int .i64 v)) : ∀ w',Below W.heap.size W w' → (Instr.loadAt 3 (.pointer (some ⟨g,j,none⟩))).run Tryz.prog w' = .ok (.int .i64 v) w':=by
 intro w' hb
 have hc:=((h.below hb).at_ j).trans hj
 go_simp
end
def smUpB (n m : Int) : Bool:=decide (0 ≤ n ∧ n ≤ m)
theorem smUpTo_any (n m : Int) (w : World) : Calls Tryz.prog 148 #[.int .i64 n,.int .i64 m] w fun e w' => e = .returned (.bool (smUpB n m)) ∧ Below w.heap.size w w':=by
 by_cases h : 0 ≤ n
 · have e : smUpB n m = decide (n ≤ m):=by unfold smUpB;simp [h]
   rw [e];clear e
   go_enter Tryz.func148,Tryz.ntmps148
   go_wp2_with fail
   go_ret
   exact ⟨rfl,Below.refl _ _⟩
 · have e : smUpB n m = false:=by unfold smUpB;simp [h]
   have t1 : decide (0 ≤ n) = false:=by simp [h]
   rw [e];clear e h
   go_enter Tryz.func148,Tryz.ntmps148
   go_wp2_with fail
   go_ret
   exact ⟨rfl,Below.refl _ _⟩
set_option maxHeartbeats 1000000 in
theorem nearestM_any (s : Sm) (n : Nat) (w : World) (hd : s.to - s.kp = n) (h3 : n ≤ 3) :
 Calls Tryz.prog 149 #[s.v] w fun e w' => e = .returned (.agg #[.int .i64 (nk n 0 s.t0),.int .i64 (nk n 1 s.t1),.int .i64 (nk n 2 s.t2)]) ∧ Below w.heap.size w w':=by
 obtain ⟨fr,to,kp,ad,x,y,z⟩:=s
 unfold Sm.v
 simp only at hd ⊢
 have hw:=IntWalk.i64_in (to - kp) (by omega)
 go_enter Tryz.func149,Tryz.ntmps149
 go_wp2_with fail
 go_loopw [10] (fun i wr => ∃ (k : Nat),k ≤ n ∧ i = .int .i64 k ∧ Row wr w.heap.size 82 [.int .i64 fr,.int .i64 to,.int .i64 kp,.int .i64 ad,.int .i64 x,.int .i64 y,.int .i64 z] ∧ Row wr (w.heap.size + 1) 126 [.int .i64 0,.int .i64 0,.int .i64 0] ∧ Row wr (w.heap.size + 2) 126 [.int .i64 (nk k 0 x),.int .i64 (nk k 1 y),.int .i64 (nk k 2 z)] ∧ Below w.heap.size w wr) (fun i _ => n - (intOf i).toNat)
 case atStart =>
  refine ⟨0,by omega,rfl,((Row.made w 82 [.int .i64 fr,.int .i64 to,.int .i64 kp,.int .i64 ad,.int .i64 x,.int .i64 y,.int .i64 z]).alloc _).alloc _,?_,?_,?_⟩
  · have:=(Row.made (w.alloc (.cells #[.int .i64 fr,.int .i64 to,.int .i64 kp,.int .i64 ad,.int .i64 x,.int .i64 y,.int .i64 z] 82)) 126 [.int .i64 0,.int .i64 0,.int .i64 0]).alloc (.cells #[.int .i64 0,.int .i64 0,.int .i64 0] 126)
    rwa [size_alloc] at this
  · have:=Row.made ((w.alloc (.cells #[.int .i64 fr,.int .i64 to,.int .i64 kp,.int .i64 ad,.int .i64 x,.int .i64 y,.int .i64 z] 82)).alloc (.cells #[.int .i64 0,.int .i64 0,.int .i64 0] 126)) 126 [.int .i64 0,.int .i64 0,.int .i64 0]
    rwa [size_alloc,size_alloc] at this
  · exact (((Below.refl _ _).alloc (Nat.le_refl _) _).alloc (by simp) _).alloc (by simp;omega) _
 case round =>
  obtain ⟨k,hk,rfl,hra,hrr,hrb,hbw⟩:=hrel
  by_cases hlt : k < n
  · have hlt' : (k : Int) < to - kp:=by omega
    have a4:=hra.cell 4;have a5:=hra.cell 5;have a6:=hra.cell 6
    have b0:=hrb.cell 0;have b1:=hrb.cell 1;have b2:=hrb.cell 2
    have f0:=hrb.free 0;have f1:=hrb.free 1;have f2:=hrb.free 2
    simp only [List.getElem?_cons_succ,List.getElem?_cons_zero] at a4 a5 a6 b0 b1 b2
    have HRA:=Hd hra;have HRR:=Hd hrr;have HRB:=Hd hrb;have HBW:=Hd hbw;clear hra hrr hrb hbw
    have hcase : k = 0 ∨ k = 1 ∨ k = 2:=by omega
    rcases hcase with rfl | rfl | rfl
    · go_wp2_with fail
      go_roundw
      case rel => exact ⟨1,by omega,rfl,HRA.out.far (by simp;omega) _,HRR.out.far (by simp) _,HRB.out.put 0 _,HBW.out.setCell (by simp;omega) _⟩
      case measure => simp [intOf];omega
    · go_wp2_with fail
      go_roundw
      case rel => exact ⟨2,by omega,rfl,HRA.out.far (by simp;omega) _,HRR.out.far (by simp) _,HRB.out.put 1 _,HBW.out.setCell (by simp;omega) _⟩
      case measure => simp [intOf];omega
    · go_wp2_with fail
      go_roundw
      case rel => exact ⟨3,by omega,rfl,HRA.out.far (by simp;omega) _,HRR.out.far (by simp) _,HRB.out.put 2 _,HBW.out.setCell (by simp;omega) _⟩
      case measure => simp [intOf];omega
  · have hkn : k = n:=by omega
    subst hkn
    have hge : ¬ (k : Int) < to - kp:=by omega
    have b0:=hrb.cell 0;have b1:=hrb.cell 1;have b2:=hrb.cell 2
    have r0:=hrr.cell 0;have r1:=hrr.cell 1;have r2:=hrr.cell 2
    have f0:=hrr.free 0;have f1:=hrr.free 1;have f2:=hrr.free 2
    simp only [List.getElem?_cons_succ,List.getElem?_cons_zero] at b0 b1 b2 r0 r1 r2
    have HRR:=Hd hrr;have HRB:=Hd hrb;have HBW:=Hd hbw;clear hra hrr hrb hbw
    obtain ⟨p,hp⟩ : ∃ p,p = nk k 0 x:=⟨_,rfl⟩
    obtain ⟨q,hq⟩ : ∃ q,q = nk k 1 y:=⟨_,rfl⟩
    obtain ⟨r,hr⟩ : ∃ r,r = nk k 2 z:=⟨_,rfl⟩
    rw [← hp] at b0;rw [← hq] at b1;rw [← hr] at b2
    have HP:=Hd hp;have HQ:=Hd hq;have HR:=Hd hr;clear hp hq hr
    go_wp2_with fail
    refine bodyPost_ret (results_cell_row rfl _ _ (w.heap.size + 1) 126 _ (0,0) _ rfl (row_set3 HRR.out) Tryz.underlying126 rfl (by kernel_rfl)) rfl ?_
    exact ⟨by rw [HP.out,HQ.out,HR.out],((HBW.out.setCell (by simp) _).setCell (by simp) _).setCell (by simp) _⟩
end
end Go.Proofs.YtonelpnhoiajgaaGreatDoor
