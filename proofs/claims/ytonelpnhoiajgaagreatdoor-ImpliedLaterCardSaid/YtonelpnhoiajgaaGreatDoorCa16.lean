import Derived.Test.YtonelpnhoiajgaaGreatDoorHd
import Derived.Test.YtonelpnhoiajgaaGreatDoorCa0
import Derived.Test.YtonelpnhoiajgaaGreatDoorCa1
import Derived.Test.YtonelpnhoiajgaaGreatDoorCa2
import Derived.Test.YtonelpnhoiajgaaGreatDoorCa3
import Derived.Test.YtonelpnhoiajgaaGreatDoorCa4
import Derived.Test.YtonelpnhoiajgaaGreatDoorCa5
import Derived.Test.YtonelpnhoiajgaaGreatDoorCa6
import Derived.Test.YtonelpnhoiajgaaGreatDoorCa7
import Derived.Test.YtonelpnhoiajgaaGreatDoorCa8
import Derived.Test.YtonelpnhoiajgaaGreatDoorCa9
import Derived.Test.YtonelpnhoiajgaaGreatDoorCa10
import Derived.Test.YtonelpnhoiajgaaGreatDoorCa11
import Derived.Test.YtonelpnhoiajgaaGreatDoorCa12
import Derived.Test.YtonelpnhoiajgaaGreatDoorCa13
import Derived.Test.YtonelpnhoiajgaaGreatDoorCa14
import Derived.Test.YtonelpnhoiajgaaGreatDoorCa15
import Derived.Deep.Slices
import Derived.Deep.Onto
import Derived.Deep.Cut
namespace Go.Proofs.YtonelpnhoiajgaaGreatDoor
set_option linter.unusedSimpArgs false
set_option maxRecDepth 100000
open Go.ChangeShapes Go.WideShapes Go.ChangeAt Go.RowKit Go.BigFrame
set_option linter.unusedVariables false
section
section
section
variable {a b c f g l m : List St} {s t x y z : St}
theorem Up_append : Up (a ++ b) t ↔ Up a t ∨ Up b t:=by
 simp only [Up,List.mem_append]
 constructor
 · rintro ⟨x,hx | hx,h⟩
   · exact .inl ⟨x,hx,h⟩
   · exact .inr ⟨x,hx,h⟩
 · rintro (⟨x,hx,h⟩ | ⟨x,hx,h⟩)
   · exact ⟨x,.inl hx,h⟩
   · exact ⟨x,.inr hx,h⟩
theorem both_fr (h : Alike a b) : Fr (bothS a b):=ofS_fr (even_append h)
theorem both_up (h : Alike a b) : Up (bothS a b) t ↔ Up a t ∨ Up b t:=(ofS_up (even_append h)).trans Up_append
end
end

section
section
variable {w w' : World} {base p F : Nat} {A : Option Addr} {c : Nat} {lg : List Gn} {fs : List (Option Sl)}
end
theorem new_bad (A : Option Addr) (lg : List Gn) (c : Nat) (w : World) (hT : Tab w) (hG : Gr w A lg) (hl : lg.length ≤ 40) (hI : ∀ x ∈ nds lg,x.ins.length ≤ 40) (hc : lg.length ≤ c ∧ c ≤ maxLen) (hE : (checkR (nds lg)).2 ≠ 0) :
 Calls Tryz.prog 14 #[.slice A lg.length c] w fun e w' => e = .returned (.tuple #[.pointer none,.int .i64 (checkR (nds lg)).2]) ∧ Below w.heap.size w w':=by
 have hck:=chkCheck_any A lg c w hT hG hl hI hc
 unfold ChkD at hck
 generalize (checkR (nds lg)).1 = N at *
 generalize (checkR (nds lg)).2 = E at *
 have hez : (E != 0) = true:=by simpa using hE
 have HC:=Hd hck;clear hck hE hT hG hI hc
 go_enter Tryz.func14,Tryz.ntmps14
 go_wp2_with fail
 refine HC.out.mono ?_;rintro e w1 ⟨rfl,hb1⟩
 have HB:=Hd hb1;clear hb1 HC
 dsimp only
 go_wp2_with fail
 go_ret2
 exact ⟨rfl,HB.out⟩
end

section
namespace Nx
open Go.ChangeShapes Go.WideShapes Go.ChangeAt Go.RowKit Go.BigFrame Go.Shelf
theorem Slc.below {w w' : World} {A : Option Addr} {c : Nat} {l : List Sm} (h : Slc w A c l) (hb : Below w.heap.size w w') : Slc w' A c l:=⟨h.ts.below hb,h.le,h.max,h.nil⟩
section
variable {o : List Sm} {k : Nat}
end
section
variable {ts o : List Sm} {t x y z : Sm} {k m q : Nat}
end
end Nx
end
end

section
open Go.ChangeShapes Go.WideShapes Go.ChangeAt Go.RowKit Go.BigFrame Go.Shelf
def Gives (w : World) (l : List St) (n : Int) (e : Ending) (w' : World) : Prop :=
 (∃ v,e = .returned (.tuple #[v,.int .i64 n]) ∧ w'.ownsRow w.heap.size 27 5 v l.length (rowS l)) ∧ Below w.heap.size w w'
theorem frOwn_base {w : World} {base base' n : Nat} {v : Value} {xs : List Value} (h : w.ownsRow base 27 5 v n xs) (hb : base' ≤ base) : w.ownsRow base' 27 5 v n xs:=by
 obtain ⟨h1,h2⟩:=h
 refine ⟨h1,?_⟩
 rcases h2 with h2 | ⟨g',cap,cur,hv,hb',h3⟩
 · exact .inl h2
 · exact .inr ⟨g',cap,cur,hv,Nat.le_trans hb hb',h3⟩
def errS (b : Bool) : Int:=if b then 0 else 50
def ifS (b : Bool) (l : List St) : List St:=if b then l else []
theorem lift_even : ∀ (ts : List St),(∀ x ∈ ts,x.R) → ∃ zs : List RSt,raw zs = ts
 | [],_ => ⟨[],rfl⟩
 | x :: ts,h => by
   obtain ⟨zs,hz⟩:=lift_even ts (fun y hy => h y (List.mem_cons_of_mem _ hy))
   exact ⟨⟨x,h x List.mem_cons_self⟩ :: zs,by simp [raw] at hz ⊢;exact hz⟩
set_option maxHeartbeats 1000000 in
theorem frOf_any (A : Option Addr) (ts : List St) (c : Nat) (w : World) (hT : Ts w A ts) (hn : ts.length ≤ 200000000) :
 Calls Tryz.prog 57 #[.slice A ts.length c] w (Gives w (ifS (decide (Even ts)) (ofS ts)) (errS (decide (Even ts)))):=by
 have ha:=alike_any A ts c w hT hn
 by_cases he : Even ts
 · rw [decide_eq_true he] at ha ⊢
   obtain ⟨zs,hz⟩:=lift_even ts (fun x hx => (he x hx).1)
   have hlen : zs.length = ts.length:=by rw [← raw_length,hz]
   have hfst : ∀ w1,Below w.heap.size w w1 → Calls Tryz.prog 76 #[.func (.func 130) #[] #[.pointer (some ⟨w1.heap.size,0,none⟩)]] (w1.alloc (.cells #[.slice A ts.length c] 34)) fun e W' => (∃ v,e = .returned v ∧ W'.ownsRow (w1.alloc (.cells #[.slice A ts.length c] 34)).heap.size 27 5 v (ofS (raw zs)).length (rowS (ofS (raw zs)))) ∧ Below (w1.alloc (.cells #[.slice A ts.length c] 34)).heap.size (w1.alloc (.cells #[.slice A ts.length c] 34)) W':=by
    intro w1 hw1
    refine first_any _ _ _ zs _ (by omega) (by rw [hz];exact he) _ _ (Below.refl _ _) (Nat.le_refl _) (enters_of Tryz.func130 (by kernel_rfl) rfl)
     (fun n hn => valuesC n hn w1.heap.size A zs (by omega) c _ (by rw [hlen];exact BoxAt.made w1 _ _) (by rw [hz];exact (hT.below hw1).below ((Below.refl _ _).alloc (Nat.le_refl _) _)))
   rw [hz] at hfst
   have HA:=Hd ha;have HF:=Hd hfst;clear ha hfst hT he hz hlen
   unfold Gives ifS errS
   simp only [if_true]
   generalize ofS ts = us at *
   go_enter Tryz.func57,Tryz.ntmps57
   go_wp2_with fail
   refine (HA.out).mono ?_;rintro e w1 ⟨rfl,hb1⟩
   have HB1:=Hd hb1;clear hb1
   go_wp2_with fail
   refine (values_any A ts.length c w1).mono ?_;rintro e w2 ⟨rfl,rfl⟩
   go_wp2_with fail
   refine (HF.out _ HB1.out).mono ?_;rintro e w3 ⟨⟨v,rfl,hr⟩,hb3⟩
   have HH:=Hd (And.intro hr hb3);clear hr hb3
   dsimp only
   go_wp2_with fail
   go_ret2
   refine ⟨⟨v,rfl,?_⟩,HB1.out.trans (((Below.refl _ _).alloc (Nat.le_refl _) _).trans (HH.out.2.mono (by simp)) |>.mono HB1.out.size)⟩
   exact frOwn_base HH.out.1 (by have:=HB1.out.size;simp;omega)
 · rw [decide_eq_false he] at ha ⊢
   unfold Gives ifS errS
   simp only [Bool.false_eq_true,if_false]
   have HA:=Hd ha;clear ha hT he
   go_enter Tryz.func57,Tryz.ntmps57
   go_wp2_with fail
   refine (HA.out).mono ?_;rintro e w1 ⟨rfl,hb1⟩
   have HB1:=Hd hb1;clear hb1
   go_wp2_with fail
   go_ret2
   exact ⟨⟨_,rfl,World.ownsRow_nil _ _ _ _⟩,HB1.out⟩
set_option maxHeartbeats 2000000 in
theorem both_any (A B : Option Addr) (a b : List St) (c d : Nat) (w : World) (hA : Ts w A a) (hB : Ts w B b) (ha : a.length ≤ 100000000) (hb : b.length ≤ 100000000) (hc : a.length ≤ c) (hd : b.length ≤ d) (hcm : c ≤ maxLen) (hdm : d ≤ maxLen) (hA0 : A = none → c = 0) (hB0 : B = none → d = 0) :
 Calls Tryz.prog 29 #[.slice A a.length c,.slice B b.length d] w (Gives w (ifS (decide (Alike a b)) (bothS a b)) (errS (decide (Alike a b)))):=by
 have hp:=paired_any A B a b c d w hA hB (by omega) (by omega) hc hd hcm hdm
 by_cases he : Alike a b
 · rw [decide_eq_true he] at hp ⊢
   obtain ⟨zs,hz⟩:=lift_even (a ++ b) (fun x hx => (even_append he x hx).1)
   have hlen : zs.length = a.length + b.length:=by rw [← raw_length,hz,List.length_append]
   have hcon : ∀ w1,Below w.heap.size w w1 → Calls Tryz.prog 78 #[.slice (some ⟨w1.heap.size,0,none⟩) 2 2] (w1.alloc (.cells #[.slice A a.length c,.slice B b.length d] 34)) fun e w' => (∃ v,e = .returned v ∧ w'.ownsRow (w1.alloc (.cells #[.slice A a.length c,.slice B b.length d] 34)).heap.size 27 5 v (a ++ b).length (rowS (a ++ b))) ∧ Below (w1.alloc (.cells #[.slice A a.length c,.slice B b.length d] 34)).heap.size (w1.alloc (.cells #[.slice A a.length c,.slice B b.length d] 34)) w':=by
    intro w1 hw1
    have hr : Row (w1.alloc (.cells #[.slice A a.length c,.slice B b.length d] 34)) w1.heap.size 34 [.slice A a.length c,.slice B b.length d]:=Row.made w1 _ _
    have hal:=(Below.refl w1.heap.size w1).alloc (Nat.le_refl _) (.cells #[.slice A a.length c,.slice B b.length d] 34)
    exact concat_any w1.heap.size A B a b c d _ ((hA.below hw1).below hal) ((hB.below hw1).below hal) (by omega) (by omega) hA0 hB0 hr.lt (hr.cell 0) (hr.cell 1)
   have hfst : ∀ (w1 : World) (C : Option Addr) (k : Nat),Ts w1 C (raw zs) → Calls Tryz.prog 76 #[.func (.func 130) #[] #[.pointer (some ⟨w1.heap.size,0,none⟩)]] (w1.alloc (.cells #[.slice C zs.length k] 34)) fun e W' => (∃ v,e = .returned v ∧ W'.ownsRow (w1.alloc (.cells #[.slice C zs.length k] 34)).heap.size 27 5 v (ofS (raw zs)).length (rowS (ofS (raw zs)))) ∧ Below (w1.alloc (.cells #[.slice C zs.length k] 34)).heap.size (w1.alloc (.cells #[.slice C zs.length k] 34)) W':=by
    intro w1 C k hC
    exact first_any _ _ _ zs _ (by omega) (by rw [hz];exact even_append he) _ _ (Below.refl _ _) (Nat.le_refl _) (enters_of Tryz.func130 (by kernel_rfl) rfl)
     (fun n hn => valuesC n hn w1.heap.size C zs (by omega) k _ (BoxAt.made w1 _ _) (hC.below ((Below.refl _ _).alloc (Nat.le_refl _) _)))
   rw [← hz] at hcon
   have hbo : bothS a b = ofS (raw zs):=by unfold bothS;rw [hz]
   rw [hbo]
   have HP:=Hd hp;have HF:=Hd hfst;have HC:=Hd hcon;clear hp hfst hcon hA hB he hbo hz hlen hc hd hcm hdm hA0 hB0 ha hb
   unfold Gives ifS errS
   simp only [if_true]
   generalize ofS (raw zs) = us at *
   generalize a.length = n at *
   generalize b.length = m at *
   go_enter Tryz.func29,Tryz.ntmps29
   go_wp2_with fail
   refine (HP.out).mono ?_;rintro e w1 ⟨rfl,hb1⟩
   have HB1:=Hd hb1;clear hb1 HP
   go_wp2_with fail
   refine (HC.out _ HB1.out).mono ?_;rintro e w2 ⟨⟨v,rfl,hr⟩,hb2⟩
   obtain ⟨C,k,rfl,hT,_,_⟩:=Times.of_own hr
   rw [own_len hr,raw_length] at *
   have HB2:=Hd (HB1.out.trans ((((Below.refl _ _).alloc (Nat.le_refl _) _).trans (hb2.mono (by simp))).mono HB1.out.size))
   have HF2:=Hd (HF.out w2 C k (Ts.of hT));clear hT hr hb2 HC HF HB1
   dsimp only
   go_wp2_with fail
   refine (values_any C zs.length k w2).mono ?_;rintro e w3 ⟨rfl,rfl⟩
   go_wp2_with fail
   refine (HF2.out).mono ?_;rintro e w4 ⟨⟨v,rfl,hr⟩,hb4⟩
   have HH:=Hd (And.intro hr hb4);clear hr hb4 HF2
   dsimp only
   go_wp2_with fail
   go_ret2
   refine ⟨⟨v,rfl,?_⟩,HB2.out.trans (((Below.refl _ _).alloc (Nat.le_refl _) _).trans (HH.out.2.mono (by simp)) |>.mono HB2.out.size)⟩
   exact frOwn_base HH.out.1 (by have:=HB2.out.size;simp;omega)
 · rw [decide_eq_false he] at hp ⊢
   unfold Gives ifS errS
   simp only [Bool.false_eq_true,if_false]
   have HA:=Hd hp;clear hp hA hB he ha hb hc hd hcm hdm hA0 hB0
   generalize a.length = n at *
   generalize b.length = m at *
   go_enter Tryz.func29,Tryz.ntmps29
   go_wp2_with fail
   refine (HA.out).mono ?_;rintro e w1 ⟨rfl,hb1⟩
   have HB1:=Hd hb1;clear hb1
   go_wp2_with fail
   go_ret2
   exact ⟨⟨_,rfl,World.ownsRow_nil _ _ _ _⟩,HB1.out⟩
end

section
open Go.ChangeShapes Go.WideShapes Go.ChangeAt Go.RowKit Go.BigFrame Go.Shelf
end

section
open Go.ChangeShapes Go.WideShapes Go.ChangeAt Go.RowKit Go.BigFrame Go.Shelf
section
variable {K : Value → World → Prop} {a : Act} {o : Oper} {w : World}
end
theorem own_slice {w : World} {base n : Nat} {v : Value} {ts : List St} (h : w.ownsRow base 27 5 v n (rowS ts)) : ∃ A c,v = .slice A ts.length c ∧ Ts w A ts ∧ ts.length ≤ c ∧ c ≤ maxLen ∧ (A = none → c = 0):=by
 obtain ⟨A,c,e,h1,h2,h3⟩:=Times.of_own h
 refine ⟨A,c,e,Ts.of h1,h2,h3,fun hA => ?_⟩
 subst hA
 rcases h.2 with ⟨e2,_⟩ | ⟨g,cap,cur,e2,_⟩
 · rw [e] at e2;injection e2
 · rw [e] at e2;injection e2 with h;cases h
end

section
open Go.ChangeShapes Go.WideShapes Go.ChangeAt Go.RowKit Go.BigFrame Go.Shelf
end

section
open Go.ChangeShapes Go.WideShapes Go.ChangeAt Go.RowKit Go.BigFrame Go.Shelf
structure Slc (w : World) (A : Option Addr) (c : Nat) (l : List St) : Prop where
 ts : Ts w A l
 le : l.length ≤ c
 max : c ≤ maxLen
 nil : A = none → c = 0
theorem Slc.below {w w' : World} {A : Option Addr} {c : Nat} {l : List St} (h : Slc w A c l) (hb : Below w.heap.size w w') : Slc w' A c l:=⟨h.ts.below hb,h.le,h.max,h.nil⟩
theorem Slc.of_own {w : World} {base n : Nat} {v : Value} {ts : List St} (h : w.ownsRow base 27 5 v n (rowS ts)) : ∃ A c,v = .slice A ts.length c ∧ Slc w A c ts:=by
 obtain ⟨A,c,e,h1,h2,h3,h4⟩:=own_slice h
 exact ⟨A,c,e,⟨h1,h2,h3,h4⟩⟩
def GivesS (w : World) (l : List St) (n : Int) (e : Ending) (w' : World) : Prop :=
 (∃ A c,e = .returned (.tuple #[.slice A l.length c,.int .i64 n]) ∧ Slc w' A c l) ∧ Below w.heap.size w w'
theorem gives_s {w : World} {l : List St} {n : Int} {e : Ending} {w' : World} (h : Gives w l n e w') : GivesS w l n e w':=by
 obtain ⟨⟨v,he,ho⟩,hb⟩:=h
 obtain ⟨A,c,rfl,hs⟩:=Slc.of_own ho
 exact ⟨⟨A,c,he,hs⟩,hb⟩
section
variable {A B : Option Addr} {a b : List St} {c d : Nat} {w : World} {t : St} {v : Bool}
theorem bothC (h : Slc w A c a) (k : Slc w B d b) (ha : a.length ≤ 100000000) (hb : b.length ≤ 100000000) : Calls Tryz.prog 29 #[.slice A a.length c,.slice B b.length d] w (GivesS w (ifS (decide (Alike a b)) (bothS a b)) (errS (decide (Alike a b)))) :=
 (both_any A B a b c d w h.ts k.ts ha hb h.le k.le h.max k.max h.nil k.nil).mono fun _ _ h => gives_s h
theorem withinW (h : Slc w A c a) (k : Slc w B d b) (ha : a.length ≤ 200000000) (hb : b.length ≤ 200000000) (hv : decide (Under a b) = v) : ∀ w',Below w.heap.size w w' → Calls Tryz.prog 25 #[.slice A a.length c,.slice B b.length d] w' fun e w'' => e = .returned (.bool v) ∧ Below w'.heap.size w' w'':=fun w' hw => by
 subst hv;exact frWithin_any A B a b c d w' (h.ts.below hw) (k.ts.below hw) ha hb h.le k.le h.max k.max
theorem refSameW (h : Slc w A c a) (k : Slc w B d b) (ha : a.length ≤ 200000000) (hb : b.length ≤ 200000000) (hv : decide (a = b) = v) : ∀ w',Below w.heap.size w w' → Calls Tryz.prog 20 #[.slice A a.length c,.slice B b.length d] w' fun e w'' => e = .returned (.bool v) ∧ Below w'.heap.size w' w'':=fun w' hw => by
 subst hv;exact frRefSame_any A B a b c d w' (h.ts.below hw) (k.ts.below hw) ha hb
theorem ofS_len (l : List St) : (ofS l).length ≤ l.length:=by
 unfold ofS
 have : ∀ (l m : List St),(ofIn l m).length ≤ m.length:=by
  intro l m
  induction m with
  | nil => simp [ofIn]
  | cons t m ih =>
    unfold ofIn
    have hins : ∀ (t : St) (r : List St),(insS t r).length = r.length + 1:=by
     intro t r
     induction r with
     | nil => simp [insS]
     | cons y r ih => unfold insS;split <;> simp [ih]
    split
    · rw [hins];simp;exact ih
    · simp;omega
 exact this l l
end
end

section
open Go.ChangeShapes Go.WideShapes Go.ChangeAt Go.RowKit Go.BigFrame Go.Shelf
section
variable {ts o : List St} {t x y z : St} {k m q : Nat}
def badJ (k : Nat) (t : St) (j : Nat) (x : St) : Bool:=(!eqB x t && decide (x.L t)) || (decide (j < k) && eqB x t)
def LeastTo (ts : List St) (k : Nat) (t : St) (m : Nat) : Prop:=∀ (j : Nat) (x : St),j < m → ts[j]? = some x → badJ k t j x = false
noncomputable instance (ts : List St) (k : Nat) (t : St) (m : Nat) : Decidable (LeastTo ts k t m):=Classical.propDecidable _
end
end

section
def kindU : Kind St:=⟨St.cells,5,fun _ => rfl,fun t u hu => by
 simp only [St.cells,List.mem_cons,List.not_mem_nil,or_false] at hu
 rcases hu with rfl | rfl | rfl | rfl | rfl <;> rfl,by decide⟩
theorem appS_len (T : St) : ∀ l : List Sm,(appS T l).length ≤ l.length
 | [] => Nat.le_refl _
 | s :: l => by
   have:=appS_len T l
   unfold appS
   cases s.apply T with
   | none => simp only [List.length_cons];omega
   | some u => simp only [List.length_cons];omega
end

section
def ApD (w : World) (s : Sm) (t : St) (p q r : Int) (b1 b2 : Bool) (w' : World) : Prop :=
 Below w.heap.size w w' ∧ HoldsM w' w.heap.size 82 s ∧ Holds w' (w.heap.size + 1) ⟨if b1 then s.to else t.d,t.e,if b2 then p else t.x,if b2 then q else t.y,if b2 then r else t.z⟩ ∧ Holds w' (w.heap.size + 1 + 1) St.zero
theorem ApD.below {w : World} {s : Sm} {t : St} {p q r : Int} {b1 b2 : Bool} {v v' : World} (h : ApD w s t p q r b1 b2 v) (hb : Below v.heap.size v v') : ApD w s t p q r b1 b2 v' :=
 ⟨h.1.trans (hb.mono h.1.size),h.2.1.below hb,h.2.2.1.below hb,h.2.2.2.below hb⟩
set_option maxHeartbeats 8000000 in
theorem apply_D (s : Sm) (t : St) (w : World) (h : s.R) (h2 : t.R) (hd : t.d = s.fr) : Calls Tryz.prog 97 #[s.v,t.val] w fun e w' => e = .returned (.tuple #[(s.ap t).val,.bool (s.apB t)]) ∧ Below w.heap.size w w':=by
 have hmr:=Sm.made_R h h2
 have hal:=along_any s t.x t.y t.z
 have bt : (0 ≤ t.x ∧ t.x ≤ 1000) ∧ (0 ≤ t.y ∧ t.y ≤ 1000) ∧ (0 ≤ t.z ∧ t.z ≤ 1000):=by unfold St.R at h2;omega
 have cal:=fun w => hal w h bt.1 bt.2.1 bt.2.2
 rw [show s.al 0 t.x = s.val t 0 from Sm.val_al 0,show s.al 1 t.y = s.val t 1 from Sm.val_al 1,show s.al 2 t.z = s.val t 2 from Sm.val_al 2] at cal
 have r3:=fun w => right_any ⟨s.to,t.e,s.val t 0,s.val t 1,s.val t 2⟩ w
 have hres : (s.ap t).val = (if decide (St.R ⟨s.to,t.e,s.val t 0,s.val t 1,s.val t 2⟩) then (St.val ⟨s.to,t.e,s.val t 0,s.val t 1,s.val t 2⟩) else St.zero.val) ∧ s.apB t = decide (St.R ⟨s.to,t.e,s.val t 0,s.val t 1,s.val t 2⟩):=by
  by_cases hh : s.val t 0 < 16 ∧ s.val t 1 < 16 ∧ s.val t 2 < 16
  · obtain ⟨q1,q2⟩:=Sm.ap_yes (s:=s) (t:=t) ⟨h,h2,hd,hh⟩
    rw [q1,q2,decide_eq_true (hmr.2 hh)];exact ⟨rfl,rfl⟩
  · obtain ⟨q1,q2⟩:=Sm.ap_no (s:=s) (t:=t) (fun g => hh g.2.2.2)
    rw [q1,q2,decide_eq_false (fun g => hh (hmr.1 g))];exact ⟨rfl,rfl⟩
 rw [hres.1,hres.2]
 clear hres hmr hal bt
 have h3:=Trio.made w 82 s t
 have hbw:=below_alloc3 w (.cells #[.int .i64 s.fr,.int .i64 s.to,.int .i64 s.kp,.int .i64 s.ad,.int .i64 s.t0,.int .i64 s.t1,.int .i64 s.t2] 82) (.cells #[.int .i64 t.d,.int .i64 t.e,.int .i64 t.x,.int .i64 t.y,.int .i64 t.z] 27) (.cells #[.int .i64 0,.int .i64 0,.int .i64 0,.int .i64 0,.int .i64 0] 27)
 have H3:=Hd h3;have HB:=Hd hbw;clear h3 hbw
 have r1:=fun w => rightM_true h w
 have r2:=fun w => right_true h2 w
 have hn : (t.d != s.fr) = false:=by simpa using hd
 have R1:=Hd r1;have R2:=Hd r2;clear r1 r2
 clear h h2 hd
 generalize s.val t 0 = p at *
 generalize s.val t 1 = q at *
 generalize s.val t 2 = r at *
 generalize hb : decide (St.R ⟨s.to,t.e,p,q,r⟩) = bb at *
 clear hb
 have R3:=Hd r3;have CAL:=Hd cal;clear r3 cal
 unfold Sm.v St.val at *
 go_enter Tryz.func97,Tryz.ntmps97
 go_wp2_with fail
 refine (R1.out _).mono ?_;rintro e w2 ⟨rfl,hb2⟩
 have k3:=H3.out.below hb2
 have kb:=HB.out.trans (hb2.mono HB.out.size);clear H3 HB
 have H3:=Hd k3;have HB:=Hd kb;clear k3 kb hb2
 obtain ⟨a0,a1,a2,a3,a4⟩:=H3.out.2.1.c5
 obtain ⟨b0,b1,b2,b3,b4,b5,b6⟩:=H3.out.1.cells7
 go_wp2_with fail
 clear a0 a1 a2 a3 a4 b0 b1 b2 b3 b4 b5 b6 R1
 refine (R2.out _).mono ?_;rintro e w3 ⟨rfl,hb3⟩
 have k3:=H3.out.below hb3
 have kb:=HB.out.trans (hb3.mono HB.out.size);clear H3 HB
 have H3:=Hd k3;have HB:=Hd kb;clear k3 kb hb3
 obtain ⟨a0,a1,a2,a3,a4⟩:=H3.out.2.1.c5
 obtain ⟨b0,b1,b2,b3,b4,b5,b6⟩:=H3.out.1.cells7
 go_wp2_with fail
 clear a0 a1 a2 a3 a4 b0 b1 b2 b3 b4 b5 b6 R2 hn
 have hD : ApD w s t p q r false false w3.drew:=⟨HB.out.drew,H3.out.1,H3.out.2.1,H3.out.2.2⟩
 have HD:=Hd hD;clear hD H3 HB
 refine Stage.wp_region (by kernel_rfl) (by kernel_rfl) (Stage.two 7 9 (ApD w s t p q r)) (Stage.two_start (by simp) (by simp) HD.out) ?_
 refine Stage.wpSt_do (.pointer (some ⟨w.heap.size,1,none⟩)) rfl (Stage.two_step (by kernel_rfl) (fun b w' hw => ?_)) ?_
 · exact at_of (by go_simp) hw
 go_simp
 refine Stage.wpSt_do (.int .i64 s.to) rfl (Stage.two_step (by kernel_rfl) (fun b w' hw => ?_)) ?_
 · exact Free.at_load _ _ rfl rfl (load_m1 hw.2.1 1 rfl w' (Below.refl _ _)) hw
 go_simp
 refine Stage.wpSt_do (.agg #[.int .i64 s.fr,.int .i64 s.to,.int .i64 s.kp,.int .i64 s.ad,.int .i64 s.t0,.int .i64 s.t1,.int .i64 s.t2]) rfl (Stage.two_step (by kernel_rfl) (fun b w' hw => ?_)) ?_
 · exact Free.at_load _ _ rfl rfl (load_m hw.2.1 w' (Below.refl _ _)) hw
 go_simp
 refine Stage.wpSt_do (.pointer (some ⟨w.heap.size + 1,2,none⟩)) rfl (Stage.two_step (by kernel_rfl) (fun b w' hw => ?_)) ?_
 · exact at_of (by go_simp) hw
 go_simp
 refine Stage.wpSt_do (.agg #[.int .i64 t.x,.int .i64 t.y,.int .i64 t.z]) rfl (Stage.two_step (by kernel_rfl) (fun b w' hw => ?_)) ?_
 · exact Free.at_load _ _ rfl rfl (load_l hw.2.2.1 w' (Below.refl _ _)) hw
 go_simp
 refine Stage.wpSt_do (.agg #[.int .i64 p,.int .i64 q,.int .i64 r]) rfl (Stage.two_step (by kernel_rfl) (fun b w' hw => ?_)) ?_
 · exact Free.at_call _ _ rfl Tryz.func87 (by kernel_rfl) rfl [.agg #[.int .i64 s.fr,.int .i64 s.to,.int .i64 s.kp,.int .i64 s.ad,.int .i64 s.t0,.int .i64 s.t1,.int .i64 s.t2],.agg #[.int .i64 t.x,.int .i64 t.y,.int .i64 t.z]] rfl ((CAL.out _).mono fun _ _ hh => ⟨hh.1,hw.below hh.2⟩)
 go_simp
 refine Stage.wpSt_do (.pointer (some ⟨w.heap.size + 1,0,none⟩)) rfl (Stage.two_step (by kernel_rfl) (fun b w' hw => ?_)) ?_
 · exact at_of (by go_simp) hw
 go_simp
 refine Stage.wpSt_do undef rfl (Stage.two_first (by decide) (by kernel_rfl) (fun w' hw => ?_)) ?_
 · have c:=hw.2.2.1.c5.1
   have f:=hw.2.2.1.f5.1
   simp only at c
   exact at_skip (w':=w'.setCell ⟨w.heap.size + 1,0,none⟩ (.int .i64 s.to)) (by go_simp) ⟨hw.1.setCell (by simp) _,Row.far hw.2.1 (by simp) _,Row.put hw.2.2.1 0 _,Row.far hw.2.2.2 (by simp) _⟩
 go_simp
 refine Stage.wpSt_do (.pointer (some ⟨w.heap.size + 1,2,none⟩)) rfl (Stage.two_step (by kernel_rfl) (fun b w' hw => ?_)) ?_
 · exact at_of (by go_simp) hw
 go_simp
 refine Stage.wpSt_do undef rfl (Stage.two_then (by decide) (by kernel_rfl) (fun w' hw => ?_)) ?_
 · obtain ⟨c0,c1,c2,c3,c4⟩:=hw.2.2.1.c5
   obtain ⟨f0,f1,f2,f3,f4⟩:=hw.2.2.1.f5
   exact at_skip (w':=((w'.setCell ⟨w.heap.size + 1,2,none⟩ (.int .i64 p)).setCell ⟨w.heap.size + 1,3,none⟩ (.int .i64 q)).setCell ⟨w.heap.size + 1,4,none⟩ (.int .i64 r)) (by go_simp) ⟨((hw.1.setCell (by simp) _).setCell (by simp) _).setCell (by simp) _,Row.far (Row.far (Row.far hw.2.1 (by simp) _) (by simp) _) (by simp) _,Row.put (Row.put (Row.put hw.2.2.1 2 _) 3 _) 4 _,Row.far (Row.far (Row.far hw.2.2.2 (by simp) _) (by simp) _) (by simp) _⟩
 go_simp
 refine Stage.wpSt_nil (Stage.two_end ?_)
 intro w4 hw4
 obtain ⟨hb4,hm4,ht4,hz4⟩:=hw4
 simp only [if_true] at ht4
 obtain ⟨a0,a1,a2,a3,a4⟩:=ht4.c5
 have HB:=Hd hb4;have HT:=Hd ht4;have HZ:=Hd hz4;clear hb4 hm4 ht4 hz4 HD CAL
 go_wp2_with fail
 refine (R3.out _).mono ?_;rintro e w5 ⟨rfl,hb5⟩
 have ht5:=HT.out.below hb5;have hz5:=HZ.out.below hb5;have hbw:=HB.out.trans (hb5.mono HB.out.size)
 clear a0 a1 a2 a3 a4 HT HZ HB hb5 R3
 obtain ⟨a0,a1,a2,a3,a4⟩:=ht5.c5
 obtain ⟨z0,z1,z2,z3,z4⟩:=hz5.c5
 obtain ⟨f0,f1,f2,f3,f4⟩:=hz5.f5
 have HB:=Hd hbw;have HZ:=Hd hz5;clear hbw hz5 ht5
 simp only at a0 a1 a2 a3 a4
 cases bb with
 | true =>
   go_wp2_with fail
   refine bodyPost_ret (v:=.tuple #[.agg #[.int .i64 s.to,.int .i64 t.e,.int .i64 p,.int .i64 q,.int .i64 r],.bool true]) (two_results rfl _ _ _ 27 _ (0,0) _ rfl (row_set5' HZ.out) Tryz.underlying27 rfl (by kernel_rfl) rfl) rfl ?_
   exact ⟨rfl,below_set5' HB.out (by omega)⟩
 | false =>
   go_wp2_with fail
   refine bodyPost_ret (v:=.tuple #[.agg #[.int .i64 0,.int .i64 0,.int .i64 0,.int .i64 0,.int .i64 0],.bool false]) (two_results rfl _ _ _ 27 _ (0,0) _ rfl (row_set5' HZ.out) Tryz.underlying27 rfl (by kernel_rfl) rfl) rfl ?_
   exact ⟨rfl,below_set5' HB.out (by omega)⟩
theorem apply_any (s : Sm) (t : St) (w : World) : Calls Tryz.prog 97 #[s.v,t.val] w fun e w' => e = .returned (.tuple #[(s.ap t).val,.bool (s.apB t)]) ∧ Below w.heap.size w w':=by
 by_cases h : s.R
 · by_cases h2 : t.R
   · by_cases hd : t.d = s.fr
     · exact apply_D s t w h h2 hd
     · exact apply_C s t w h h2 hd
   · exact apply_B s t w h h2
 · exact apply_A s t w h
end

section
theorem WaysOf.one {g : List Nd} {f t : Int} {l : List Sm} (hF : Fine g) (h : WaysOf g f t l) : OneTo l:=by
 rcases h with ⟨i,n,T,D,rfl,rfl,hi,hn,hr,hl⟩ | ⟨_,rfl⟩
 · obtain ⟨x,hx⟩ : ∃ x,g[n]? = some x:=⟨_,List.getElem?_eq_getElem hn⟩
   intro s hs u hu
   rw [(hr.dsound n s (hr.sub n l s hl hs)).to_eq hF hx,(hr.dsound n u (hr.sub n l u hl hu)).to_eq hF hx]
 · intro x hx;cases hx
theorem take_no {T : St} {l : List Sm} {k : Nat} {s : Sm} (h : l[k]? = some s) (hn : s.apB T = false) : appS T (l.take (k + 1)) = appS T (l.take k):=by
 rw [List.take_add_one,h,Option.toList_some,appS_append]
 have : s.apply T = none:=by
  unfold Sm.apB at hn
  cases h2 : s.apply T with
  | none => rfl
  | some u => rw [h2] at hn;cases hn
 have e2 : appS T [s] = []:=by unfold appS;rw [this];rfl
 rw [e2,List.append_nil]
theorem take_yes {T : St} {l : List Sm} {k : Nat} {s : Sm} (h : l[k]? = some s) (hn : s.apB T = true) : appS T (l.take (k + 1)) = appS T (l.take k) ++ [s.ap T]:=by
 rw [List.take_add_one,h,Option.toList_some,appS_append]
 congr 1
 unfold Sm.apB at hn
 unfold Sm.ap appS
 cases h2 : s.apply T with
 | none => rw [h2] at hn;cases hn
 | some u => rfl
theorem app_kept {w1 w4 w5 : World} {o : Obj} {v : Value} {M : List St} (ho : w4.ownsRow w1.heap.size 27 kindU.K v M.length (Rw.row kindU M)) (hb : Below w1.heap.size w1 w4) (hg : (w4.alloc o).grownBy w5 v.ownBlock) : Below w1.heap.size w1 w5 :=
 Rw.own_below (ho.alloc o) hg (hb.alloc hb.size o) (Nat.le_trans hb.size ((Below.refl w4.heap.size w4).alloc (Nat.le_refl _) o).size)
def ComeD (w : World) (base p F : Nat) (A : Option Addr) (c : Nat) (lg : List Gn) (f t : Int) (T : St) (e : Ending) (w' : World) : Prop :=
 (∃ v l,e = .returned v ∧ WaysOf (nds lg) f t l ∧ w'.ownsRow w.heap.size 27 5 v (ofS (appS T l)).length (rowS (ofS (appS T l)))) ∧ (∃ fs,Pth w' base p F A c lg fs) ∧ Touch (fun b => b = F) w w'
set_option maxHeartbeats 16000000 in
theorem comes_any (p F c base : Nat) (A : Option Addr) (lg : List Gn) (fs : List (Option Sl)) (f t : Int) (T : St) (w : World) (hP : Pth w base p F A c lg fs) (hl : lg.length ≤ 14) (hI : ∀ x ∈ nds lg,x.ins.length ≤ 40) (hFi : Fine (nds lg)) :
 Calls Tryz.prog 50 #[.pointer (some ⟨p,0,none⟩),.int .i64 f,T.val,.int .i64 t] w (ComeD w base p F A c lg f t T):=by
 have ht0 : Holds (w.alloc (.cells #[.int .i64 T.d,.int .i64 T.e,.int .i64 T.x,.int .i64 T.y,.int .i64 T.z] 27)) w.heap.size T:=Holds.made w T
 have hb0 : Below w.heap.size w (w.alloc (.cells #[.int .i64 T.d,.int .i64 T.e,.int .i64 T.x,.int .i64 T.y,.int .i64 T.z] 27)):=(Below.refl _ _).alloc (Nat.le_refl _) _
 have hlst:=least_any p F c base A lg fs f t _ (hP.below hb0) hl hI hFi
 have hFF : F ≠ w.heap.size:=by have:=hP.fans.lt;omega
 have HA:=Hd hlst;have HF:=Hd hFi;have HT0:=Hd ht0;have HB0:=Hd hb0;have HFF:=Hd hFF;clear hlst hFi hP hI ht0 hb0 hFF
 go_enter Tryz.func50,Tryz.ntmps50
 go_wp2_with fail
 refine HA.out.mono ?_;rintro e w1 ⟨⟨v,l,rfl,hw,LA,lc,rfl,hTs,h1,h2,h3⟩,⟨fs',hP⟩,ht⟩
 have hbd:=hw.len
 have ht1 : Holds w1 w.heap.size T:=Row.touch (t:=27) HT0.out ht (fun e => HFF.out e.symm)
 have hts : Mx.Ts w1 LA l:=hTs
 have HW:=Hd hw;have HP:=Hd (And.intro hP ht);have HTS:=Hd hts;have HBD:=Hd hbd;have HT1:=Hd ht1;clear hw hTs hts h1 h2 h3 hP ht hbd ht1 HA HT0
 obtain ⟨gt,hgt⟩ : ∃ gt,w.heap.size = gt:=⟨_,rfl⟩
 have HGT:=Hd hgt;rw [hgt] at HT1 ⊢;clear hgt
 dsimp only
 go_wp2_with fail
 go_loopw [9,21] (fun v n wx => ∃ k : Nat,n = .int .i64 k ∧ k ≤ l.length ∧ wx.ownsRow w1.heap.size 27 kindU.K v (appS T (l.take k)).length (Rw.row kindU (appS T (l.take k))) ∧ Below w1.heap.size w1 wx) (fun _ n _ => l.length - (intOf n).toNat)
 case atStart => exact ⟨0,rfl,Nat.zero_le _,World.ownsRow_nil _ _ _ _,Below.refl _ _⟩
 case round =>
  obtain ⟨w3,rfl⟩ : ∃ wo,wo = wr:=⟨_,rfl⟩
  obtain ⟨k,rfl,hk,hn,hb⟩:=hrel
  have HN:=Hd hn;have HB2:=Hd hb;clear hn hb
  by_cases hkl : k < l.length
  · have hkz : (k : Int) < (l.length : Int):=by omega
    have hkb : k < 60000000:=by have:=HBD.out;omega
    obtain ⟨s,hs⟩ : ∃ a,l[k]? = some a:=⟨_,List.getElem?_eq_getElem hkl⟩
    obtain ⟨b,o,rfl,hblt,hld⟩:=Mx.Ts.five HTS.out hs
    obtain ⟨q0,q1,q2,q3,q4,q5,q6⟩:=hld w3 HB2.out
    obtain ⟨d0,d1,d2,d3,d4⟩:=(HT1.out.below HB2.out).c5
    have hlg : gt < w3.heap.size:=(HT1.out.below HB2.out).lt
    have hno:=fun h => take_no (T:=T) hs h
    have hyes:=fun h => take_yes (T:=T) hs h
    have hlen:=appS_len T (l.take k)
    rw [List.length_take] at hlen
    have hap:=fun wz => apply_any s T wz
    generalize appS T (l.take k) = M at *
    generalize s.ap T = U at *
    generalize s.apB T = TB at *
    have HNO:=Hd hno;have HYES:=Hd hyes;have HLEN:=Hd hlen;have HAP:=Hd hap
    clear hno hyes hlen hap hld hs hblt
    go_wp2_with fail
    refine (HAP.out _).mono ?_;rintro e w4 ⟨rfl,hb4⟩
    have hb4' : Below w3.heap.size w3 w4:=((Below.refl _ _).alloc (Nat.le_refl _) _).trans (hb4.mono (by simp))
    have HB4:=Hd hb4';clear hb4 hb4' q0 q1 q2 q3 q4 q5 q6 d0 d1 d2 d3 d4
    dsimp only
    cases TB with
    | false =>
      have hm:=HNO.out rfl
      have HM:=Hd hm;clear hm
      go_wp2_with fail
      go_roundw
      case rel =>
       have hb5:=HB4.out.alloc HB4.out.size (.cells #[.int .i64 U.d,.int .i64 U.e,.int .i64 U.x,.int .i64 U.y,.int .i64 U.z] 27)
       exact ⟨k + 1,by simp,by omega,by rw [HM.out];exact Rw.own_kept HN.out hb5,HB2.out.trans (hb5.mono HB2.out.size)⟩
      case measure => simp only [intOf];omega
    | true =>
      have hm:=HYES.out rfl
      have hb5:=HB4.out.alloc HB4.out.size (.cells #[.int .i64 U.d,.int .i64 U.e,.int .i64 U.x,.int .i64 U.y,.int .i64 U.z] 27)
      have hb6:=HB2.out.trans (hb5.mono HB2.out.size)
      have hn5:=Rw.own_kept HN.out hb5
      obtain ⟨c0,c1,c2,c3,c4⟩:=(Holds.made w4 U).c5
      have HM:=Hd hm;have HN5:=Hd hn5;have HB6:=Hd hb6;clear hm hn5 hb5 hb6
      go_upto_region 7 with fail
      generalize w4.alloc (.cells #[.int .i64 U.d,.int .i64 U.e,.int .i64 U.x,.int .i64 U.y,.int .i64 U.z] 27) = w5 at *
      generalize w4.heap.size = gu at *
      have hty:=Rw.Ts.made (κ:=kindU) w5 [U] 27
      have HTY:=Hd hty;clear hty
      go_wp2_with (at_builtin;refine Rw.append_own kindU 27 34 Tryz.underlying34 Tryz.infoStamp rfl rfl _ _ rfl w1.heap.size _ M.length M rfl (World.ownsRow.alloc HN5.out _) _ 1 [U] rfl (by simp) HTY.out (by unfold maxLen;have:=HLEN.out;simp;omega) (by have:=HLEN.out;simp;omega) (by have:=HB6.out.size;simp;omega) ?_;intro v2 w6 hv2 hg2;have hk2:=app_kept HN5.out HB6.out hg2;have HV:=Hd hv2;have HK:=Hd hk2;clear hv2 hg2 hk2)
      go_roundw
      case rel =>
       refine ⟨k + 1,by simp,by omega,?_,HK.out⟩
       rw [HM.out,List.length_append]
       exact HV.out
      case measure => simp only [intOf];omega
  · have hkz : ¬ (k : Int) < (l.length : Int):=by omega
    have hke : k = l.length:=by omega
    have hn:=HN.out
    rw [hke,List.take_length] at hn
    have hle : (appS T l).length ≤ 200000000:=by have h1:=HBD.out;have h2:=appS_len T l;omega
    have hev : Even (appS T l):=appS_even (HW.out.one HF.out)
    obtain ⟨NA,nc,rfl,hs,_,_,_⟩:=Rw.Ts.of_own hn
    have hs' : Ts w3 NA (appS T l):=hs
    have hcl:=frOf_any NA (appS T l) nc w3 hs' hle
    rw [decide_eq_true hev] at hcl
    have HC:=Hd hcl;clear hcl hn hke hs hs' hle hev HN
    unfold Gives ifS errS at HC
    simp only [if_true] at HC
    go_wp2_with fail
    refine HC.out.mono ?_;rintro e w5 ⟨⟨v5,rfl,ho⟩,hb5⟩
    have HO:=Hd (And.intro ho hb5);clear ho hb5
    dsimp only
    go_wp2_with fail
    go_ret
    obtain ⟨ho,hb5⟩:=HO.out
    obtain ⟨hP,ht⟩:=HP.out
    have hb6:=HB2.out.trans (hb5.mono HB2.out.size)
    have hsz : w.heap.size ≤ w3.heap.size:=Nat.le_trans HB0.out.size (Nat.le_trans ht.size HB2.out.size)
    exact ⟨⟨_,l,rfl,HW.out,frOwn_base ho hsz⟩,⟨_,hP.below hb6⟩,((Touch.of_below HB0.out).trans ht).trans (Touch.of_below (hb6.mono (by exact Nat.le_refl _)))⟩
end

section
def Nd.inD (x : Nd) : Int:=x.d - x.more
structure Pc where
 node : Nat
 held : Bool
 at_ : St
structure TmOk (tm : Nd → St → Option St) : Prop where
 ap : ∀ x t u,x.smOk → t.d = x.inD → tm x t = some u → x.sm.apply t = some u
 mono : ∀ x t t' u',t.L t' → tm x t' = some u' → ∃ u,tm x t = some u ∧ u.L u'
def Br (tm : Nd → St → Option St) (g : List Nd) (p : Pc) (n : Nat) (u : St) : Prop :=
 (p.held = false ∧ p.node = n ∧ u = p.at_) ∨ ∃ x v s,g[p.node]? = some x ∧ tm x p.at_ = some v ∧ Arr g p.node n s ∧ s.apply v = some u
def Fit (g : List Nd) (p : Pc) : Prop:=∃ x,g[p.node]? = some x ∧ p.at_.R ∧ p.at_.d = x.inD
section
variable {tm : Nd → St → Option St} {g : List Nd} {p : Pc} {n : Nat} {u u' t t' : St} {x y : Nd} {l m a b : List St} {ps qs : List Pc} {s s' o : Sm}
theorem Br.right (hg : Fine g) (hf : Fit g p) (hy : g[n]? = some y) (h : Br tm g p n u) : u.R ∧ u.d = y.inD:=by
 rcases h with ⟨_,e,rfl⟩ | ⟨x,v,s,hx,hv,ha,hu⟩
 · obtain ⟨x,hx,hr,hd⟩:=hf
   rw [e,hy] at hx
   cases hx
   exact ⟨hr,hd⟩
 · have h1:=Sm.apply_R hu
   exact ⟨h1.1,h1.2.1.trans (ha.to_eq hg hy)⟩
theorem Br.later (ht : TmOk tm) (hg : Fine g) (hl : p.at_.L t') (h : Br tm g ⟨p.node,p.held,t'⟩ n u') : ∃ u,Br tm g p n u ∧ u.L u':=by
 rcases h with ⟨h1,h2,rfl⟩ | ⟨x,v,s,hx,hv,ha,hu⟩
 · exact ⟨p.at_,.inl ⟨h1,h2,rfl⟩,hl⟩
 · obtain ⟨v0,hv0,hvl⟩:=ht.mono x _ _ _ hl hv
   obtain ⟨u,hu0,hul⟩:=Sm.apply_mono (Sm.L_refl.2 (ha.ends hg).1) hvl hu
   exact ⟨u,.inr ⟨x,v0,s,hx,hv0,ha,hu0⟩,hul⟩
structure SomeT (tm : Nd → St → Option St) (g : List Nd) (ps : List Pc) (n : Nat) (l : List St) : Prop where
 sound : ∀ u ∈ l,∃ p ∈ ps,Br tm g p n u
 cover : ∀ p ∈ ps,∀ u,Br tm g p n u → ∃ v ∈ l,v.L u
theorem SomeT.even (hg : Fine g) (hf : ∀ p ∈ ps,Fit g p) (hy : g[n]? = some y) (h : SomeT tm g ps n l) : Even l:=fun u hu => by
 obtain ⟨p,hp,hb⟩:=h.sound u hu
 have h1:=hb.right hg (hf p hp) hy
 refine ⟨h1.1,fun v hv => ?_⟩
 obtain ⟨q,hq,hc⟩:=h.sound v hv
 rw [h1.2,(hc.right hg (hf q hq) hy).2]
theorem SomeT.up (hg : Fine g) (hf : ∀ p ∈ ps,Fit g p) (hy : g[n]? = some y) (h : SomeT tm g ps n l) : Up (ofS l) t ↔ ∃ p ∈ ps,∃ u,Br tm g p n u ∧ u.L t:=by
 rw [ofS_up (h.even hg hf hy)]
 constructor
 · rintro ⟨u,hu,hl⟩
   obtain ⟨p,hp,hb⟩:=h.sound u hu
   exact ⟨p,hp,u,hb,hl⟩
 · rintro ⟨p,hp,u,hb,hl⟩
   obtain ⟨v,hv,hvl⟩:=h.cover p hp u hb
   exact ⟨v,hv,St.L_trans hvl hl⟩
theorem SomeT.fr (hg : Fine g) (hf : ∀ p ∈ ps,Fit g p) (hy : g[n]? = some y) (h : SomeT tm g ps n l) : Fr (ofS l):=ofS_fr (h.even hg hf hy)
theorem SomeT.eq (hg : Fine g) (hf : ∀ p ∈ ps,Fit g p) (hy : g[n]? = some y) (h : SomeT tm g ps n l) (k : SomeT tm g ps n m) : ofS l = ofS m :=
 Fr.ext (h.fr hg hf hy) (k.fr hg hf hy) fun t => by rw [h.up hg hf hy,k.up hg hf hy]
theorem SomeT.alike (hg : Fine g) (hf : ∀ p ∈ ps,Fit g p) (hf' : ∀ p ∈ qs,Fit g p) (hy : g[n]? = some y) (h : SomeT tm g ps n l) (k : SomeT tm g qs n m) : Alike (ofS l) (ofS m) :=
 ⟨h.fr hg hf hy,k.fr hg hf' hy,fun v hv w hw => by
  obtain ⟨p,hp,hb⟩:=h.sound v (mem_ofS.1 hv).1
  obtain ⟨q,hq,hc⟩:=k.sound w (mem_ofS.1 hw).1
  rw [(hb.right hg (hf p hp) hy).2,(hc.right hg (hf' q hq) hy).2]⟩
theorem SomeT.both (hg : Fine g) (hf : ∀ p ∈ ps,Fit g p) (hf' : ∀ p ∈ qs,Fit g p) (hy : g[n]? = some y) (h : SomeT tm g ps n l) (k : SomeT tm g qs n m) {rs : List Pc} {r : List St} (he : ∀ p,p ∈ rs ↔ p ∈ ps ∨ p ∈ qs) (j : SomeT tm g rs n r) : ofS r = bothS (ofS l) (ofS m):=by
 have hfr : ∀ p ∈ rs,Fit g p:=fun p hp => by
  rcases (he p).1 hp with h1 | h1
  · exact hf p h1
  · exact hf' p h1
 refine Fr.ext (j.fr hg hfr hy) (both_fr (h.alike hg hf hf' hy k)) fun t => ?_
 rw [both_up (h.alike hg hf hf' hy k),j.up hg hfr hy,h.up hg hf hy,k.up hg hf' hy]
 constructor
 · rintro ⟨p,hp,hu⟩
   rcases (he p).1 hp with h1 | h1
   · exact .inl ⟨p,h1,hu⟩
   · exact .inr ⟨p,h1,hu⟩
 · rintro (⟨p,hp,hu⟩ | ⟨p,hp,hu⟩)
   · exact ⟨p,(he p).2 (.inl hp),hu⟩
   · exact ⟨p,(he p).2 (.inr hp),hu⟩
theorem SomeT.within (hg : Fine g) (hf : ∀ p ∈ ps,Fit g p) (hf' : ∀ p ∈ qs,Fit g p) (hy : g[n]? = some y) (h : SomeT tm g ps n l) (k : SomeT tm g qs n m) (hc : ∀ q ∈ qs,∀ u,Br tm g q n u → ∃ p ∈ ps,∃ v,Br tm g p n v ∧ v.L u) : In (ofS l) (ofS m):=fun u hu => by
 rw [h.up hg hf hy]
 obtain ⟨q,hq,hb⟩:=k.sound u (mem_ofS.1 hu).1
 exact hc q hq u hb
theorem later_within (ht : TmOk tm) (hg : Fine g) (hf : ∀ p ∈ ps,Fit g p) (hy : g[n]? = some y) {k : Nat} {p : Pc} (hp : ps[k]? = some p) (hl : p.at_.L t') : ∀ q ∈ ps.set k ⟨p.node,p.held,t'⟩,∀ u,Br tm g q n u → ∃ p ∈ ps,∃ v,Br tm g p n v ∧ v.L u:=by
 intro q hq u hb
 rcases List.mem_or_eq_of_mem_set hq with h1 | rfl
 · exact ⟨q,h1,u,hb,St.L_refl.2 (hb.right hg (hf q h1) hy).1⟩
 · obtain ⟨v,hv,hvl⟩:=hb.later ht hg hl
   exact ⟨p,List.mem_of_getElem? hp,v,hv,hvl⟩
end
end

section
def baseS (D j : Int) : Sm:=⟨D,D,D,j,0,0,0⟩
def Sm.wad (s : Sm) (j : Int) : Sm:=⟨s.fr,s.to,s.kp,j,s.t0,s.t1,s.t2⟩
section
variable {g : List Nd} {a b m n f : Nat} {s o r : Sm} {x y : Nd} {D j : Int}
theorem wad_self : s.wad s.ad = s:=rfl
theorem wad_N (i : Int) (h : s.kp ≤ i ∨ i ≠ s.kp - 1) : (s.wad j).N i = s.N i:=by
 unfold Sm.N Sm.wad Sm.tl
 simp only
 split
 · rfl
 · rename_i h2
   rw [if_neg (by omega),if_neg (by omega)]
theorem wad_N1 (hk : 1 ≤ s.kp) : (s.wad j).N (s.kp - 1) = j:=by
 unfold Sm.N Sm.wad
 simp only
 rw [if_neg (by omega),if_pos trivial]
theorem N1 (hk : 1 ≤ s.kp) : s.N (s.kp - 1) = s.ad:=by
 unfold Sm.N
 rw [if_neg (by omega),if_pos rfl]
theorem wad_R (hr : s.R) (hk : 1 ≤ s.kp) (h0 : 0 ≤ j) (h1 : j < 16) : (s.wad j).R:=by
 unfold Sm.R at hr ⊢
 unfold Sm.wad
 simp only
 refine ⟨hr.1,hr.2.1,hr.2.2.1,⟨h0,h1,fun e => by omega⟩,hr.2.2.2.2⟩
theorem wad_M (hk : 1 ≤ s.kp) (i : Int) (h : s.kp ≤ i ∨ i ≠ s.kp - 1) : (s.wad j).M o i = s.M o i:=by
 unfold Sm.M
 rw [wad_N i h]
theorem wad_M1 (hk : 1 ≤ s.kp) (h1 : s.kp ≤ o.kp) (h2 : s.kp ≤ o.to) : (s.wad j).M o (s.kp - 1) = j + o.N (s.kp - 1):=by
 unfold Sm.M
 rw [if_pos (by omega),if_pos (by omega),wad_N1 hk]
theorem M1 (hk : 1 ≤ s.kp) (h1 : s.kp ≤ o.kp) (h2 : s.kp ≤ o.to) : s.M o (s.kp - 1) = s.ad + o.N (s.kp - 1):=by
 have:=@wad_M1 s o s.ad hk h1 h2
 rwa [wad_self] at this
theorem seq_kp (h1 : s.kp ≤ o.kp) : (s.seq o).kp = s.kp:=by
 show min s.kp o.kp = s.kp
 omega
theorem seq_ad (hk : 1 ≤ s.kp) (h1 : s.kp ≤ o.kp) (h2 : s.kp ≤ o.to) : (s.seq o).ad = s.ad + o.N (s.kp - 1):=by
 show (if min s.kp o.kp = 0 then 0 else s.M o (min s.kp o.kp - 1)) = _
 rw [show min s.kp o.kp = s.kp by omega,if_neg (by omega),M1 hk h1 h2]
theorem wad_seq (hk : 1 ≤ s.kp) (h1 : s.kp ≤ o.kp) (h2 : s.kp ≤ o.to) : (s.wad j).seq o = (s.seq o).wad (j + o.N (s.kp - 1)):=by
 have hm : min s.kp o.kp = s.kp:=by omega
 refine Sm.ext' rfl rfl rfl ?_ ?_ ?_ ?_
 · show (if min s.kp o.kp = 0 then 0 else (s.wad j).M o (min s.kp o.kp - 1)) = j + o.N (s.kp - 1)
   rw [hm,if_neg (by omega),wad_M1 hk h1 h2]
 · show (s.wad j).M o (min s.kp o.kp) = s.M o (min s.kp o.kp)
   rw [hm];exact wad_M hk _ (by omega)
 · show (s.wad j).M o (min s.kp o.kp + 1) = s.M o (min s.kp o.kp + 1)
   rw [hm];exact wad_M hk _ (by omega)
 · show (s.wad j).M o (min s.kp o.kp + 2) = s.M o (min s.kp o.kp + 2)
   rw [hm];exact wad_M hk _ (by omega)
theorem wad_ok (hs : s.thenOk o) (hk : 1 ≤ s.kp) (h1 : s.kp ≤ o.kp) (h2 : s.kp ≤ o.to) (h0 : 0 ≤ j) (hj : j + o.N (s.kp - 1) < 16) : (s.wad j).thenOk o:=by
 obtain ⟨hr,ho,ht,m0,m1,m2⟩:=hs
 have hn:=Sm.N_R ho (s.kp - 1)
 have key : ∀ i,s.M o i < 16 → (s.wad j).M o i < 16:=fun i hi => by
  by_cases e : i = s.kp - 1
  · subst e;rw [wad_M1 hk h1 h2];exact hj
  · rw [wad_M hk i (.inr e)];exact hi
 exact ⟨wad_R hr hk h0 (by omega),ho,ht,key 0 m0,key 1 m1,key 2 m2⟩
theorem base_of (hr : s.R) (hf : s.fr = D) (hk : s.kp = D) (ht : s.to = D) : s = baseS D s.ad:=by
 unfold Sm.R at hr
 have h:=hr.2.2.2.2
 exact Sm.ext' hf ht hk rfl (h.1.2.2 (by omega)) (h.2.1.2.2 (by omega)) (h.2.2.2.2 (by omega))
theorem sm_N (i : Int) (hi : 0 ≤ i) : x.sm.N i = if x.k = 9 ∧ i = x.d - 1 then 1 else 0:=by
 have ht : ∀ q : Int,(⟨0,0,0,0,0,0,0⟩ : Sm).tl q = 0:=fun q => by unfold Sm.tl;split <;> simp
 unfold Nd.sm
 by_cases h7 : x.k = 7
 · rw [if_pos h7,if_neg (by omega)]
   unfold Sm.N Sm.tl;simp only
   split <;> (try split) <;> (try split) <;> (try split) <;> rfl
 · rw [if_neg h7]
   by_cases h8 : x.k = 8
   · rw [if_pos h8,if_neg (by omega)]
     unfold Sm.N Sm.tl;simp only
     split <;> (try split) <;> (try split) <;> (try split) <;> rfl
   · rw [if_neg h8]
     by_cases h9 : x.k = 9
     · rw [if_pos h9]
       unfold Sm.N Sm.tl;simp only
       by_cases e : x.d ≤ i
       · have hn : ¬ (x.k = 9 ∧ i = x.d - 1):=by omega
         rw [if_pos e,if_neg hn]
         split <;> (try split) <;> (try split) <;> rfl
       · rw [if_neg e]
         by_cases e2 : i = x.d - 1
         · rw [if_pos e2,if_pos ⟨h9,e2⟩]
         · rw [if_neg e2,if_neg (by omega)]
     · rw [if_neg h9,if_neg (by omega)]
       unfold Sm.N Sm.tl;simp only
       split <;> (try split) <;> (try split) <;> (try split) <;> rfl
theorem kept_from (hg : Fine g) (hd : 1 ≤ D) (h : Arr g b m s) : s.kp = D → s.fr = D → s.ad = 0 ∨ ∃ f,Arr g b f (baseS D (s.ad - 1)) ∧ ∀ j,0 ≤ j → j < 15 → Arr g b f (baseS D j) → Arr g b m (s.wad (j + 1)):=by
 induction h with
 | first hx hf => exact fun _ _ => .inl rfl
 | @on n m s x h hx ho ht hf ih =>
   intro hk hfr
   have hR:=(h.ends hg).1
   have hoR:=ho.2.2
   have hm : min s.kp x.sm.kp = D:=hk
   have hkf : s.kp ≤ s.fr:=by unfold Sm.R at hR;exact hR.2.2.1.2.1
   have hsf : s.fr = D:=hfr
   have hsk : s.kp = D:=by omega
   have hok : D ≤ x.sm.kp:=by omega
   have hot : x.sm.kp ≤ x.sm.to:=by unfold Sm.R at hoR;exact hoR.2.2.1.2.2
   have had:=seq_ad (s:=s) (o:=x.sm) (by omega) (by omega) (by omega)
   have hsn:=sm_N (x:=x) (s.kp - 1) (by omega)
   by_cases h9 : x.k = 9 ∧ s.kp - 1 = x.d - 1
   · rw [if_pos h9] at hsn
     have hto : s.to = D:=by
      have h1:=ht.2.2.1
      have h2 : x.sm.fr = x.d:=by unfold Nd.sm;rw [if_neg (by omega),if_neg (by omega),if_pos h9.1]
      omega
     have hb:=base_of hR hsf hsk hto
     refine .inr ⟨n,by rw [had,hsn,show s.ad + 1 - 1 = s.ad by omega,← hb];exact h,fun j h0 hj ha => ?_⟩
     have hbj : baseS D j = s.wad j:=by rw [hb];rfl
     rw [hbj] at ha
     have h3:=wad_seq (s:=s) (o:=x.sm) (j:=j) (by omega) (by omega) (by omega)
     rw [hsn] at h3
     rw [← h3]
     exact .on ha hx ho (wad_ok ht (by omega) (by omega) (by omega) h0 (by rw [hsn];omega)) hf
   · rw [if_neg h9] at hsn
     rcases ih hsk hsf with h1 | ⟨f,h1,h2⟩
     · left;rw [had,hsn,h1];rfl
     · refine .inr ⟨f,by rw [had,hsn,Int.add_zero];exact h1,fun j h0 hj ha => ?_⟩
       have h3:=wad_seq (s:=s) (o:=x.sm) (j:=j + 1) (by omega) (by omega) (by omega)
       rw [hsn,Int.add_zero] at h3
       rw [← h3]
       exact .on (h2 j h0 hj ha) hx ho (wad_ok ht (by omega) (by omega) (by omega) (by omega) (by rw [hsn];omega)) hf
def Mn (g : List Nd) (b : Nat) (D : Int) (f : Nat) (k : Nat) : Prop:=Arr g b f (baseS D (k : Nat)) ∧ ∀ j : Nat,Arr g b f (baseS D (j : Nat)) → k ≤ j
theorem mn_of : ∀ (k : Nat),Arr g b f (baseS D (k : Nat)) → ∃ k',k' ≤ k ∧ Mn g b D f k':=by
 intro k
 induction k using Nat.strongRecOn with
 | _ k ih =>
   intro h
   by_cases e : ∃ j : Nat,j < k ∧ Arr g b f (baseS D (j : Nat))
   · obtain ⟨j,hj,ha⟩:=e
     obtain ⟨k',h1,h2⟩:=ih j hj ha
     exact ⟨k',by omega,h2⟩
   · exact ⟨k,Nat.le_refl _,h,fun j hj => by
      by_cases e2 : k ≤ j
      · exact e2
      · exact absurd ⟨j,by omega,hj⟩ e⟩
theorem base_lt (hg : Fine g) (h : Arr g b f (baseS D j)) : 0 ≤ j ∧ j < 16:=by
 have:=(h.ends hg).1
 unfold Sm.R baseS at this
 exact ⟨this.2.2.2.1.1,this.2.2.2.1.2.1⟩
theorem mn_chain (hg : Fine g) (hd : 1 ≤ D) : ∀ (k f : Nat),Mn g b D f k → ∃ l : List Nat,l.length = k + 1 ∧ l.Nodup ∧ ∀ z ∈ l,z < g.length ∧ ∃ i : Nat,i ≤ k ∧ Mn g b D z i
 | 0,f,h => ⟨[f],rfl,by simp,fun z hz => by simp only [List.mem_singleton] at hz;subst hz;exact ⟨h.1.lt,0,Nat.le_refl _,h⟩⟩
 | k + 1,f,h => by
   have hlt:=(base_lt hg h.1).2
   rcases kept_from hg hd h.1 rfl rfl with h1 | ⟨f',h1,h2⟩
   · have : ((k + 1 : Nat) : Int) = 0:=h1
     omega
   · have h1' : Arr g b f' (baseS D (k : Nat)):=by
      have e : (baseS D ((k + 1 : Nat) : Int)).ad - 1 = ((k : Nat) : Int):=by show ((k + 1 : Nat) : Int) - 1 = _;omega
      rw [e] at h1;exact h1
     have hm : Mn g b D f' k:=⟨h1',fun j hj => by
      by_cases e : k ≤ j
      · exact e
      · have h3:=h2 (j : Nat) (by omega) (by omega) hj
        have h4 : (baseS D ((k + 1 : Nat) : Int)).wad (((j : Nat) : Int) + 1) = baseS D ((j + 1 : Nat) : Int):=rfl
        rw [h4] at h3
        have:=h.2 (j + 1) h3
        omega⟩
     obtain ⟨l,hl,hn,hz⟩:=mn_chain hg hd k f' hm
     refine ⟨f :: l,by simp [hl],List.nodup_cons.2 ⟨fun hf => ?_,hn⟩,fun z hzm => ?_⟩
     · obtain ⟨_,i,hi,hmi⟩:=hz f hf
       have h5:=h.2 i hmi.1
       omega
     · rcases List.mem_cons.1 hzm with rfl | h6
       · exact ⟨h.1.lt,k + 1,Nat.le_refl _,h⟩
       · obtain ⟨h7,i,hi,hmi⟩:=hz z h6
         exact ⟨h7,i,by omega,hmi⟩
theorem mn_lt (hg : Fine g) (hd : 1 ≤ D) {k : Nat} (h : Mn g b D f k) : k < g.length:=by
 obtain ⟨l,hl,hn,hz⟩:=mn_chain hg hd k f h
 have:=pigeon g.length l hn (fun z hzm => (hz z hzm).1)
 omega
theorem cut (hg : Fine g) (hl : g.length ≤ 14) (hd : 1 ≤ D) (h : Arr g b m s) (hk : s.kp = D) (hf : s.fr = D) : ∃ j,0 ≤ j ∧ j ≤ 14 ∧ Arr g b m (s.wad j):=by
 rcases kept_from hg hd h hk hf with h1 | ⟨f,h1,h2⟩
 · exact ⟨0,by omega,by omega,by rw [← h1,wad_self];exact h⟩
 · have h3:=base_lt hg h1
   obtain ⟨k,hk⟩:=Int.eq_ofNat_of_zero_le h3.1
   rw [hk] at h1
   obtain ⟨k',hk',hm⟩:=mn_of k h1
   have:=mn_lt hg hd hm
   exact ⟨(k' : Nat) + 1,by omega,by omega,h2 k' (by omega) (by omega) hm.1⟩
theorem Nk0 : s.N s.kp = s.t0:=by unfold Sm.N Sm.tl;rw [if_pos (Int.le_refl _),Int.sub_self,if_pos rfl]
theorem Nk1 : s.N (s.kp + 1) = s.t1:=by unfold Sm.N Sm.tl;rw [if_pos (by omega),if_neg (by omega),if_pos (by omega)]
theorem Nk2 : s.N (s.kp + 2) = s.t2:=by unfold Sm.N Sm.tl;rw [if_pos (by omega),if_neg (by omega),if_neg (by omega),if_pos (by omega)]
theorem idS_N (d i : Int) : (idS d).N i = 0:=by
 unfold idS Sm.N Sm.tl;simp only
 split <;> (try split) <;> (try split) <;> (try split) <;> rfl
theorem id_seq (hr : o.R) (hf : o.fr = D) : (idS D).seq o = o:=by
 have hkp : o.kp ≤ D:=by unfold Sm.R at hr;omega
 have hM : ∀ i,(idS D).M o i = if i < o.to then o.N i else 0:=fun i => by
  unfold Sm.M;rw [idS_N]
  split
  · split <;> omega
  · rfl
 have hm : min D o.kp = o.kp:=by omega
 unfold Sm.R at hr
 refine Sm.ext' hf.symm rfl hm ?_ ?_ ?_ ?_
 · show (if min D o.kp = 0 then 0 else (idS D).M o (min D o.kp - 1)) = o.ad
   rw [hm,hM]
   by_cases e : o.kp = 0
   · rw [if_pos e];exact (hr.2.2.2.1.2.2 e).symm
   · rw [if_neg e,if_pos (by omega),N1 (by omega)]
 · show (idS D).M o (min D o.kp) = o.t0
   rw [hm,hM,Nk0]
   split
   · rfl
   · exact (hr.2.2.2.2.1.2.2 (by omega)).symm
 · show (idS D).M o (min D o.kp + 1) = o.t1
   rw [hm,hM,Nk1]
   split
   · rfl
   · exact (hr.2.2.2.2.2.1.2.2 (by omega)).symm
 · show (idS D).M o (min D o.kp + 2) = o.t2
   rw [hm,hM,Nk2]
   split
   · rfl
   · exact (hr.2.2.2.2.2.2.2.2 (by omega)).symm
theorem id_ok (hr : o.R) (hf : o.fr = D) : (idS D).thenOk o:=by
 have h1 : 0 ≤ D ∧ D ≤ 3:=by unfold Sm.R at hr;omega
 have hM : ∀ i,(idS D).M o i < 16:=fun i => by
  unfold Sm.M;rw [idS_N]
  have:=(Sm.N_R hr i).2
  split
  · split <;> omega
  · omega
 exact ⟨idS_R h1.1 h1.2,hr,hf.symm,hM 0,hM 1,hM 2⟩
theorem seq_id (hr : s.R) (ht : s.to = D) : s.seq (idS D) = s:=by
 have hkp : s.kp ≤ D:=by unfold Sm.R at hr;omega
 have hM : ∀ i,s.M (idS D) i = if i < D then s.N i else 0:=fun i => by
  unfold Sm.M;rw [idS_N]
  show (if i < D then (if i < D then s.N i + 0 else 0) else 0) = _
  split
  · omega
  · rfl
 have hm : min s.kp D = s.kp:=by omega
 unfold Sm.R at hr
 refine Sm.ext' rfl ht.symm hm ?_ ?_ ?_ ?_
 · show (if min s.kp D = 0 then 0 else s.M (idS D) (min s.kp D - 1)) = s.ad
   rw [hm,hM]
   by_cases e : s.kp = 0
   · rw [if_pos e];exact (hr.2.2.2.1.2.2 e).symm
   · rw [if_neg e,if_pos (by omega),N1 (by omega)]
 · show s.M (idS D) (min s.kp D) = s.t0
   rw [hm,hM,Nk0]
   split
   · rfl
   · exact (hr.2.2.2.2.1.2.2 (by omega)).symm
 · show s.M (idS D) (min s.kp D + 1) = s.t1
   rw [hm,hM,Nk1]
   split
   · rfl
   · exact (hr.2.2.2.2.2.1.2.2 (by omega)).symm
 · show s.M (idS D) (min s.kp D + 2) = s.t2
   rw [hm,hM,Nk2]
   split
   · rfl
   · exact (hr.2.2.2.2.2.2.2.2 (by omega)).symm
theorem through (hg : Fine g) (hx : g[a]? = some x) (hfd : Fd g a b) (hy : g[b]? = some y) (hyo : y.smOk) (hf : Fd g b m) : Arr g a m y.sm:=by
 have hfr : y.sm.fr = x.d:=(sm_fr y).trans (hg.fed hx hfd hy)
 have h1 : Arr g a b (idS x.d):=.first hx hfd
 have h2:=Arr.on h1 hy hyo (id_ok hyo.2.2 hfr) hf
 rwa [id_seq hyo.2.2 hfr] at h2
end
end

section
section
variable {tm : Nd → St → Option St} {g : List Nd} {a b m n : Nat} {s o r : Sm} {x y : Nd} {D j : Int} {u z : St} {p : Pc}
theorem ok9 (hs : s.R) (hk : s.kp = y.d) (hf : s.fr = y.d) (ha : s.ad ≤ 14) (hyo : y.smOk) (hd : 1 ≤ y.d) : y.sm.thenOk s:=by
 have hM : ∀ i,0 ≤ i → y.sm.M s i < 16:=fun i hi => by
  unfold Sm.M
  have h1:=(Sm.N_R hs i).2
  rw [sm_N i hi]
  split
  · split
    · by_cases e : i = y.d - 1
      · have h2 : s.N i = s.ad:=by rw [e,← hk];exact N1 (by omega)
        split <;> omega
      · rw [if_neg (by omega)];omega
    · omega
  · omega
 exact ⟨hyo.2.2,hs,(sm_to y).trans hf.symm,hM 0 (by omega),hM 1 (by omega),hM 2 (by omega)⟩
theorem head0 (hg : Fine g) (hx : g[a]? = some x) (hfd : Fd g a b) (hy : g[b]? = some y) (hyo : y.smOk) (hd : 1 ≤ y.d) (h : Arr g b m s) : s.kp = y.d → s.fr = y.d → s.ad ≤ 14 → ∃ r,Arr g a m r ∧ r.L (y.sm.seq s):=by
 induction h with
 | first hx' hf =>
   intro _ _ _
   rw [hy] at hx'
   cases hx'
   refine ⟨y.sm,through hg hx hfd hy hyo hf,?_⟩
   rw [seq_id hyo.2.2 (sm_to y)]
   exact Sm.L_refl.2 hyo.2.2
 | @on n m s x' h hx' ho ht hf ih =>
   intro hk hfr ha
   have hR:=(h.ends hg).1
   have hR2:=Sm.seq_R ht
   have hoR:=ho.2.2
   have hm : min s.kp x'.sm.kp = y.d:=hk
   have hkf : s.kp ≤ s.fr:=by unfold Sm.R at hR;exact hR.2.2.1.2.1
   have hsf : s.fr = y.d:=hfr
   have hsk : s.kp = y.d:=by omega
   have hot : x'.sm.kp ≤ x'.sm.to:=by unfold Sm.R at hoR;exact hoR.2.2.1.2.2
   have had:=seq_ad (s:=s) (o:=x'.sm) (by omega) (by omega) (by omega)
   have hn:=(Sm.N_R hoR (s.kp - 1)).1
   obtain ⟨r,hr,hrl⟩:=ih hsk hsf (by omega)
   have h1:=Sm.seq_assoc (ok9 hR hsk hsf (by omega) hyo hd) ht
   have h2:=h1.1.2 (ok9 hR2 hk hfr ha hyo hd)
   obtain ⟨h3,h4⟩:=Sm.seq_left hrl h2
   rw [h1.2 h2] at h4
   exact ⟨_,.on hr hx' ho h3 hf,h4⟩
theorem head (hg : Fine g) (hl : g.length ≤ 14) (hx : g[a]? = some x) (hfd : Fd g a b) (hy : g[b]? = some y) (hyo : y.smOk) (h : Arr g b m s) : y.sm.thenOk s → ∃ r,Arr g a m r ∧ r.L (y.sm.seq s):=by
 induction h with
 | first hx' hf =>
   intro _
   rw [hy] at hx'
   cases hx'
   refine ⟨y.sm,through hg hx hfd hy hyo hf,?_⟩
   rw [seq_id hyo.2.2 (sm_to y)]
   exact Sm.L_refl.2 hyo.2.2
 | @on n m s x' h hx' ho ht hf ih =>
   intro hS
   obtain ⟨hR,⟨y',hy',hfr⟩,_⟩:=h.ends hg
   rw [hy] at hy'
   cases hy'
   have hoR:=ho.2.2
   by_cases hS1 : y.sm.thenOk s
   · obtain ⟨r,hr,hrl⟩:=ih hS1
     have h1:=Sm.seq_assoc hS1 ht
     have h2:=h1.1.2 hS
     obtain ⟨h3,h4⟩:=Sm.seq_left hrl h2
     rw [h1.2 h2] at h4
     exact ⟨_,.on hr hx' ho h3 hf,h4⟩
   · -- one round too many
     have hbig : ∃ i,0 ≤ i ∧ i < 3 ∧ 16 ≤ y.sm.M s i:=by
      by_cases e0 : y.sm.M s 0 < 16
      · by_cases e1 : y.sm.M s 1 < 16
        · by_cases e2 : y.sm.M s 2 < 16
          · exact absurd ⟨hyo.2.2,hR,(sm_to y).trans hfr.symm,e0,e1,e2⟩ hS1
          · exact ⟨2,by omega,by omega,by omega⟩
        · exact ⟨1,by omega,by omega,by omega⟩
      · exact ⟨0,by omega,by omega,by omega⟩
     obtain ⟨i,hi,hi3,hM⟩:=hbig
     have hNi:=(Sm.N_R hR i).2
     unfold Sm.M at hM
     rw [sm_N i hi] at hM
     have hto : i < s.to:=by
      by_cases e : i < s.to
      · exact e
      · rw [if_neg e] at hM;omega
     rw [if_pos hto] at hM
     have hkp : i < s.kp:=by
      by_cases e : i < s.kp
      · exact e
      · rw [if_neg e] at hM;omega
     rw [if_pos hkp] at hM
     have h9 : y.k = 9 ∧ i = y.d - 1:=by
      by_cases e : y.k = 9 ∧ i = y.d - 1
      · exact e
      · rw [if_neg e] at hM;omega
     rw [if_pos h9] at hM
     have hkf : s.kp ≤ s.fr ∧ s.kp ≤ s.to:=by unfold Sm.R at hR;exact ⟨hR.2.2.1.2.1,hR.2.2.1.2.2⟩
     have hsk : s.kp = y.d:=by omega
     have hd : 1 ≤ y.d:=by omega
     have had1 : s.N i = s.ad:=by rw [h9.2,← hsk];exact N1 (by omega)
     have hot : x'.sm.kp ≤ x'.sm.to:=by unfold Sm.R at hoR;exact hoR.2.2.1.2.2
     have hxk : x'.sm.kp < y.d:=by
      by_cases e : x'.sm.kp < y.d
      · exact e
      · exfalso
        have h1:=seq_ad (s:=s) (o:=x'.sm) (by omega) (by omega) (by omega)
        have h2:=(Sm.N_R hoR (s.kp - 1)).1
        have h3:=seq_kp (s:=s) (o:=x'.sm) (by omega)
        have h4:=Sm.M_lt hS (i:=i) hi
        unfold Sm.M at h4
        have h5 : (s.seq x'.sm).to = x'.sm.to:=rfl
        rw [sm_N i hi,if_pos h9,if_pos (by omega),if_pos (by omega)] at h4
        have h6 : (s.seq x'.sm).N i = (s.seq x'.sm).ad:=by
         have:=N1 (s:=s.seq x'.sm) (by omega)
         rw [h3,hsk] at this
         rw [h9.2];exact this
        omega
     have hft : s.to = x'.sm.fr:=ht.2.2.1
     have h8 : x'.k = 8 ∧ x'.sm.kp = y.d - 1 ∧ x'.sm.to = y.d - 1 ∧ s.to = y.d:=by
      unfold Nd.sm at hxk hft ⊢
      by_cases e7 : x'.k = 7
      · rw [if_pos e7] at hxk hft;simp only at hxk hft;omega
      · rw [if_neg e7] at hxk hft ⊢
        by_cases e8 : x'.k = 8
        · rw [if_pos e8] at hxk hft ⊢;simp only at hxk hft ⊢;exact ⟨e8,by omega,by omega,by omega⟩
        · rw [if_neg e8] at hxk hft
          by_cases e9 : x'.k = 9
          · rw [if_pos e9] at hxk hft;simp only at hxk hft;omega
          · rw [if_neg e9] at hxk hft;simp only at hxk hft;omega
     obtain ⟨_,hxk1,hxt,hst⟩:=h8
     obtain ⟨j,hj0,hj14,ha⟩:=cut hg hl hd h hsk hfr
     obtain ⟨r,hr,hrl⟩:=head0 hg hx hfd hy hyo hd ha hsk hfr hj14
     have hMj : ∀ i,(s.wad j).M x'.sm i = s.M x'.sm i:=fun i => by
      by_cases e : i = s.kp - 1
      · unfold Sm.M;rw [if_neg (by omega),if_neg (by omega)]
      · exact wad_M (by omega) i (.inr e)
     have hseq : (s.wad j).seq x'.sm = s.seq x'.sm:=by
      refine Sm.ext' rfl rfl rfl ?_ ?_ ?_ ?_
      · show (if min s.kp x'.sm.kp = 0 then 0 else (s.wad j).M x'.sm (min s.kp x'.sm.kp - 1)) = (if min s.kp x'.sm.kp = 0 then 0 else s.M x'.sm (min s.kp x'.sm.kp - 1))
        rw [hMj]
      · exact hMj _
      · exact hMj _
      · exact hMj _
     have hok : (s.wad j).thenOk x'.sm:=by
      refine ⟨wad_R hR (by omega) hj0 (by omega),hoR,hft,?_,?_,?_⟩
      · rw [hMj];exact ht.2.2.2.1
      · rw [hMj];exact ht.2.2.2.2.1
      · rw [hMj];exact ht.2.2.2.2.2
     have hRj:=wad_R (j:=j) hR (by omega) hj0 (by omega)
     have h1:=Sm.seq_assoc (ok9 hRj hsk hfr hj14 hyo hd) hok
     rw [hseq] at h1
     have h2:=h1.1.2 hS
     obtain ⟨h3,h4⟩:=Sm.seq_left hrl h2
     rw [h1.2 h2] at h4
     exact ⟨_,.on hr hx' ho h3 hf,h4⟩
theorem Br.held (h : Br tm g ⟨p.node,true,p.at_⟩ n z) : Br tm g p n z:=by
 rcases h with ⟨e,_⟩ | h
 · cases e
 · exact .inr h
end
end

section
def tmR (n : Nd) (t : St) : Option St:=if n.k = 7 then t.into else if n.k = 8 then t.out else if n.k = 9 then (match t.round with | some u => if u.last < n.b then some u else none | none => none) else if t.R then some t else none
section
variable {x : Nd} {s : Sm} {t t' u u' : St}
theorem apply_mk (hR : s.R) (ht : t.R) (hd : t.d = s.fr) (hu : u.R) (h1 : u.d = s.to) (h2 : u.e = t.e) (h3 : ∀ i,0 ≤ i → i < 3 → u.at_ i = s.val t i) : s.apply t = some u:=by
 have a0:=h3 0 (by omega) (by omega)
 have a1:=h3 1 (by omega) (by omega)
 have a2:=h3 2 (by omega) (by omega)
 refine Sm.apply_some.2 ⟨⟨hR,ht,hd,?_,?_,?_⟩,?_⟩
 · rw [← a0];exact (St.at_R hu 0).2
 · rw [← a1];exact (St.at_R hu 1).2
 · rw [← a2];exact (St.at_R hu 2).2
 · rw [← a0,← a1,← a2,← h1,← h2];rfl
theorem sm_val (h9 : x.k ≠ 9) (i : Int) (hi : 0 ≤ i) : x.sm.val t i = if i < x.d then (if i < x.sm.kp then t.at_ i else 0) else 0:=by
 unfold Sm.val;rw [sm_N i hi,sm_to,if_neg (show ¬ (x.k = 9 ∧ i = x.d - 1) by omega)]
 split
 · omega
 · rfl
theorem sm_val9 (h9 : x.k = 9) (i : Int) (hi : 0 ≤ i) : x.sm.val t i = if i < x.d then (if i = x.d - 1 then 1 else 0) + t.at_ i else 0:=by
 have hkp : x.sm.kp = x.d:=by unfold Nd.sm;rw [if_neg (by omega),if_neg (by omega),if_pos h9]
 unfold Sm.val;rw [sm_N i hi,sm_to,hkp]
 split
 · by_cases e : i = x.d - 1
   · rw [if_pos e,if_pos ⟨h9,e⟩]
   · rw [if_neg e,if_neg (by omega)]
 · rfl
theorem at_out (ht : t.R) (i : Int) (h0 : 0 ≤ i) (h : t.d ≤ i) : t.at_ i = 0:=by
 unfold St.R at ht
 unfold St.at_
 split
 · exact ht.2.2.1.2.2 (by omega)
 · split
   · exact ht.2.2.2.1.2.2 (by omega)
   · split
     · exact ht.2.2.2.2.2.2 (by omega)
     · rfl
theorem into_R (h : t.into = some u) : t.R ∧ u = ⟨t.d + 1,t.e,t.x,t.y,t.z⟩ ∧ u.R:=by
 unfold St.into at h
 split at h
 · rename_i hc
   cases h
   refine ⟨hc.1,rfl,?_⟩
   have:=hc.1
   unfold St.R at this ⊢
   simp only;omega
 · cases h
theorem out_R (h : t.out = some u) : t.R ∧ 0 < t.d ∧ u.d = t.d - 1 ∧ u.e = t.e ∧ u.R ∧ ∀ i,0 ≤ i → i < 3 → u.at_ i = if i < t.d - 1 then t.at_ i else 0:=by
 unfold St.out at h
 split at h
 · rename_i hc
   cases h
   have ht:=hc.1
   unfold St.R at ht
   have hd : t.d = 1 ∨ t.d = 2 ∨ t.d = 3:=by omega
   refine ⟨hc.1,hc.2,rfl,rfl,?_,fun i hi hi3 => ?_⟩
   · unfold St.R
     rcases hd with e | e | e <;> simp [e] <;> omega
   · have hi4 : i = 0 ∨ i = 1 ∨ i = 2:=by omega
     rcases hd with e | e | e <;> rcases hi4 with rfl | rfl | rfl <;> simp [St.at_,e] <;> omega
 · cases h
theorem round_R (h : t.round = some u) : t.R ∧ 0 < t.d ∧ u.d = t.d ∧ u.e = t.e ∧ u.R ∧ u.last = t.last + 1 ∧ ∀ i,0 ≤ i → i < 3 → u.at_ i = (if i = t.d - 1 then 1 else 0) + t.at_ i:=by
 unfold St.round at h
 split at h
 · rename_i hc
   cases h
   have ht:=hc.1
   have hl:=hc.2.2
   unfold St.R at ht
   unfold St.last at hl
   have hd : t.d = 1 ∨ t.d = 2 ∨ t.d = 3:=by omega
   refine ⟨hc.1,hc.2.1,rfl,rfl,?_,?_,fun i hi hi3 => ?_⟩
   · unfold St.R
     rcases hd with e | e | e <;> simp [e] at hl ⊢ <;> omega
   · unfold St.last
     rcases hd with e | e | e <;> simp [e]
   · have hi4 : i = 0 ∨ i = 1 ∨ i = 2:=by omega
     rcases hd with e | e | e <;> rcases hi4 with rfl | rfl | rfl <;> simp [St.at_,e] <;> omega
 · cases h
theorem tm_ap (ho : x.smOk) (hd : t.d = x.inD) (h : tmR x t = some u) : x.sm.apply t = some u:=by
 have hR:=ho.2.2
 have hfr : t.d = x.sm.fr:=hd.trans (sm_fr x).symm
 have hto:=sm_to x
 unfold tmR at h
 by_cases h7 : x.k = 7
 · rw [if_pos h7] at h
   have hkp : x.sm.kp = x.d - 1:=by unfold Nd.sm;rw [if_pos h7]
   have hf : x.sm.fr = x.d - 1:=by unfold Nd.sm;rw [if_pos h7]
   obtain ⟨ht,rfl,hu⟩:=into_R h
   refine apply_mk hR ht hfr hu (show t.d + 1 = x.sm.to by omega) rfl (fun i hi hi3 => ?_)
   rw [sm_val (by omega) i hi,hkp]
   show t.at_ i = _
   by_cases e : i < x.d - 1
   · rw [if_pos e,if_pos (by omega)]
   · rw [at_out ht i hi (by omega),if_neg e];split <;> rfl
 · rw [if_neg h7] at h
   by_cases h8 : x.k = 8
   · rw [if_pos h8] at h
     have hkp : x.sm.kp = x.d:=by unfold Nd.sm;rw [if_neg h7,if_pos h8]
     have hf : x.sm.fr = x.d + 1:=by unfold Nd.sm;rw [if_neg h7,if_pos h8]
     obtain ⟨ht,h1,h2,h3,hu,h4⟩:=out_R h
     refine apply_mk hR ht hfr hu (by omega) h3 (fun i hi hi3 => ?_)
     rw [sm_val (by omega) i hi,hkp,h4 i hi hi3,show t.d - 1 = x.d by omega]
     split <;> rfl
   · rw [if_neg h8] at h
     by_cases h9 : x.k = 9
     · rw [if_pos h9] at h
       have hf : x.sm.fr = x.d:=by unfold Nd.sm;rw [if_neg h7,if_neg h8,if_pos h9]
       cases hr : t.round with
       | none => rw [hr] at h;cases h
       | some v =>
         rw [hr] at h
         simp only at h
         split at h
         · cases h
           obtain ⟨ht,h1,h2,h3,hu,_,h4⟩:=round_R hr
           refine apply_mk hR ht hfr hu (by omega) h3 (fun i hi hi3 => ?_)
           rw [sm_val9 h9 i hi,h4 i hi hi3,show t.d = x.d by omega]
           by_cases e : i < x.d
           · rw [if_pos e]
           · rw [if_neg e,if_neg (by omega),at_out ht i hi (by omega)];rfl
         · cases h
     · rw [if_neg h9] at h
       have hkp : x.sm.kp = x.d:=by unfold Nd.sm;rw [if_neg h7,if_neg h8,if_neg h9]
       have hf : x.sm.fr = x.d:=by unfold Nd.sm;rw [if_neg h7,if_neg h8,if_neg h9]
       split at h
       · rename_i ht
         cases h
         refine apply_mk hR ht hfr ht (by omega) rfl (fun i hi hi3 => ?_)
         rw [sm_val h9 i hi,hkp]
         by_cases e : i < x.d
         · rw [if_pos e,if_pos e]
         · rw [if_neg e,at_out ht i hi (by omega)]
       · cases h
theorem tm_mono (hl : t.L t') (h : tmR x t' = some u') : ∃ u,tmR x t = some u ∧ u.L u':=by
 have hl':=hl
 unfold St.L at hl'
 obtain ⟨hr,hr',hd,he,hx,hy,hz⟩:=hl'
 unfold tmR at h ⊢
 by_cases h7 : x.k = 7
 · rw [if_pos h7] at h ⊢
   obtain ⟨h1,rfl,h2⟩:=into_R h
   have hc : t.into = some ⟨t.d + 1,t.e,t.x,t.y,t.z⟩:=by
    unfold St.into at h ⊢
    split at h
    · rw [if_pos ⟨hr,by omega⟩]
    · cases h
   refine ⟨_,hc,?_⟩
   have h3:=(into_R hc).2.2
   exact ⟨h3,h2,by show t.d + 1 = t'.d + 1;omega,he,hx,hy,hz⟩
 · rw [if_neg h7] at h ⊢
   by_cases h8 : x.k = 8
   · rw [if_pos h8] at h ⊢
     obtain ⟨h1,h2,h3,h4,h5,h6⟩:=out_R h
     have hc : ∃ u,t.out = some u:=by
      unfold St.out
      rw [if_pos ⟨hr,by omega⟩]
      exact ⟨_,rfl⟩
     obtain ⟨u,hu⟩:=hc
     obtain ⟨_,_,g3,g4,g5,g6⟩:=out_R hu
     have key : ∀ i,0 ≤ i → i < 3 → u.at_ i ≤ u'.at_ i:=fun i hi hi3 => by
      rw [g6 i hi hi3,h6 i hi hi3,hd]
      split
      · unfold St.at_;split
        · exact hx
        · split
          · exact hy
          · split
            · exact hz
            · omega
      · omega
     exact ⟨u,hu,g5,h5,by omega,by omega,key 0 (by omega) (by omega),key 1 (by omega) (by omega),key 2 (by omega) (by omega)⟩
   · rw [if_neg h8] at h ⊢
     by_cases h9 : x.k = 9
     · rw [if_pos h9] at h ⊢
       cases hq : t'.round with
       | none => rw [hq] at h;cases h
       | some v =>
         rw [hq] at h
         simp only at h
         split at h
         · rename_i hb
           cases h
           obtain ⟨h1,h2,h3,h4,h5,h5l,h6⟩:=round_R hq
           have hlast : t.last ≤ t'.last:=by
            unfold St.last;rw [hd]
            split
            · exact hx
            · split
              · exact hy
              · exact hz
           have hc : ∃ u,t.round = some u:=by
            have hq':=hq
            unfold St.round at hq' ⊢
            split at hq'
            · rename_i hc;rw [if_pos ⟨hr,by omega,by omega⟩];exact ⟨_,rfl⟩
            · cases hq'
           obtain ⟨u,hu⟩:=hc
           obtain ⟨_,_,g3,g4,g5,g5l,g6⟩:=round_R hu
           have key : ∀ i,0 ≤ i → i < 3 → u.at_ i ≤ u'.at_ i:=fun i hi hi3 => by
            rw [g6 i hi hi3,h6 i hi hi3,hd]
            have : t.at_ i ≤ t'.at_ i:=by
             unfold St.at_;split
             · exact hx
             · split
               · exact hy
               · split
                 · exact hz
                 · omega
            omega
           rw [hu]
           simp only
           exact ⟨u,if_pos (by omega),g5,h5,by omega,by omega,key 0 (by omega) (by omega),key 1 (by omega) (by omega),key 2 (by omega) (by omega)⟩
         · cases h
     · rw [if_neg h9] at h ⊢
       rw [if_pos hr'] at h
       cases h
       exact ⟨t,if_pos hr,hl⟩
theorem tmR_ok : TmOk tmR:=⟨fun x t u ho hd h => tm_ap ho hd h,fun x t t' u' hl h => tm_mono hl h⟩
end
end

section
structure Pl where
 nd : Int
 held : Bool
 at_ : St
def Pl.pc (x : Pl) : Pc:=⟨x.nd.toNat,x.held,x.at_⟩
theorem Pl.ext' {x y : Pl} (h1 : x.nd = y.nd) (h2 : x.held = y.held) (h3 : x.at_ = y.at_) : x = y:=by
 cases x;cases y;simp only at h1 h2 h3;rw [h1,h2,h3]
def mayK (k : Nat) (h : Bool) : Bool:=if h = true then decide (k = 1) || (decide (k = 5) || decide (k = 6)) else !decide (k = 1)
def fitN (n : Nd) (x : Pl) : Bool:=decide x.at_.R && decide (x.at_.d = n.inD) && mayK n.k x.held
def fitB (g : List Nd) (x : Pl) : Bool:=decide (0 ≤ x.nd) && (match g[x.nd.toNat]? with | some n => fitN n x | none => false)
section
variable {tm : Nd → St → Option St} {g : List Nd} {x : Pl} {n i : Nat} {y z : Nd} {u t : St} {l m : List St} {ps qs : List Pc} {ws : List Sm} {L : List (Nat × Sm)} {hd : Bool}
theorem fitB_yes (h : fitB g x = true) : ∃ (i : Nat) (n : Nd),x.nd = (i : Nat) ∧ g[i]? = some n ∧ x.at_.R ∧ x.at_.d = n.inD ∧ mayK n.k x.held = true:=by
 unfold fitB at h
 obtain ⟨h1,h2⟩:=Bool.and_eq_true_iff.1 h
 have h1:=of_decide_eq_true h1
 cases hx : g[x.nd.toNat]? with
 | none => rw [hx] at h2;cases h2
 | some n =>
   rw [hx] at h2
   unfold fitN at h2
   obtain ⟨h3,h4⟩:=Bool.and_eq_true_iff.1 h2
   obtain ⟨h5,h6⟩:=Bool.and_eq_true_iff.1 h3
   exact ⟨x.nd.toNat,n,by omega,hx,of_decide_eq_true h5,of_decide_eq_true h6,h4⟩
theorem fitB_mk (hi : x.nd = (i : Nat)) (hy : g[i]? = some y) (hr : x.at_.R) (hd : x.at_.d = y.inD) (hm : mayK y.k x.held = true) : fitB g x = true:=by
 unfold fitB
 have e : x.nd.toNat = i:=by omega
 rw [e,hy]
 unfold fitN
 simp [hr,hd,hm,hi]
theorem fit_pc (h : fitB g x = true) : Fit g x.pc:=by
 obtain ⟨i,n,hi,hx,hr,hd,_⟩:=fitB_yes h
 have e : x.nd.toNat = i:=by omega
 exact ⟨n,by show g[x.nd.toNat]? = some n;rw [e];exact hx,hr,hd⟩
theorem fit_all {xs : List Pl} (h : xs.all (fitB g) = true) : ∀ p ∈ xs.map Pl.pc,Fit g p:=fun p hp => by
 obtain ⟨x,hx,rfl⟩:=List.mem_map.1 hp
 exact fit_pc (List.all_eq_true.1 h x hx)
end
end

section
section
variable {tm : Nd → St → Option St} {g : List Nd} {x : Pl} {n i : Nat} {y z : Nd} {u t : St} {l m : List St} {ps qs : List Pc} {ws : List Sm} {L : List (Nat × Sm)} {hd : Bool}
theorem SomeT.start : SomeT tm g [] n []:=⟨fun u hu => (by cases hu),fun p hp => (by cases hp)⟩
theorem SomeT.app (h : SomeT tm g ps n l) (k : SomeT tm g qs n m) : SomeT tm g (ps ++ qs) n (l ++ m) where
 sound:=fun u hu => by
  rcases List.mem_append.1 hu with hu | hu
  · obtain ⟨p,hp,hb⟩:=h.sound u hu
    exact ⟨p,List.mem_append_left _ hp,hb⟩
  · obtain ⟨p,hp,hb⟩:=k.sound u hu
    exact ⟨p,List.mem_append_right _ hp,hb⟩
 cover:=fun p hp u hu => by
  rcases List.mem_append.1 hp with hp | hp
  · obtain ⟨v,hv,hl⟩:=h.cover p hp u hu
    exact ⟨v,List.mem_append_left _ hv,hl⟩
  · obtain ⟨v,hv,hl⟩:=k.cover p hp u hu
    exact ⟨v,List.mem_append_right _ hv,hl⟩
theorem SomeT.of_set (he : ∀ p,p ∈ ps ↔ p ∈ qs) (h : SomeT tm g ps n l) : SomeT tm g qs n l :=
 ⟨fun u hu => by obtain ⟨p,hp,hb⟩:=h.sound u hu;exact ⟨p,(he p).1 hp,hb⟩,fun p hp => h.cover p ((he p).2 hp)⟩
def ownT (n : Nat) (x : Pl) : List St:=if x.held = false ∧ x.nd = (n : Nat) then [x.at_] else []
theorem ownT_len : (ownT n x).length ≤ 1:=by unfold ownT;split <;> simp
theorem own_br (hi : x.nd = (i : Nat)) : u ∈ ownT n x ↔ x.pc.held = false ∧ x.pc.node = n ∧ u = x.pc.at_:=by
 unfold ownT
 have e : x.pc.node = i:=by show x.nd.toNat = i;omega
 split
 · rename_i h
   rw [List.mem_singleton,e]
   exact ⟨fun hu => ⟨h.1,by omega,hu⟩,fun hu => hu.2.2⟩
 · rename_i h
   rw [e]
   exact ⟨fun hu => (List.not_mem_nil hu).elim,fun hu => (h ⟨hu.1,by rw [hi,hu.2.1]⟩).elim⟩
theorem ways_cov (h : WaysOf g (i : Nat) (n : Nat) ws) (hi : i < g.length) (hn : n < g.length) : (∀ s ∈ ws,Arr g i n s) ∧ ∀ s,Arr g i n s → ∃ t ∈ ws,t.L s:=by
 rcases h with ⟨i',n',T,D,e1,e2,_,_,hr,hl⟩ | ⟨hno,_⟩
 · obtain rfl : i = i':=by omega
   obtain rfl : n = n':=by omega
   refine ⟨fun s hs => hr.dsound n s (hr.sub n ws s hl hs),fun s hs => ?_⟩
   obtain ⟨t,⟨l',hl',ht⟩,htl⟩:=hr.coverP.covers hs
   rw [hl] at hl';cases hl'
   exact ⟨t,ht,htl⟩
 · exact absurd ⟨⟨by omega,by omega⟩,by omega,by omega⟩ hno
theorem one_some (hg : Fine g) (hi : x.nd = (i : Nat)) (hy : g[i]? = some y) (hR : x.at_.R) (hn : n < g.length) (hc : ∀ u,tm y x.at_ = some u → u.R ∧ ∃ ws,WaysOf g (i : Nat) (n : Nat) ws ∧ l = ofS (appS u ws)) (h0 : tm y x.at_ = none → l = []) : SomeT tm g [x.pc] n (ownT n x ++ l) where
 sound:=fun v hv => by
  refine ⟨_,List.mem_singleton.2 rfl,?_⟩
  rcases List.mem_append.1 hv with hv | hv
  · exact .inl ((own_br hi).1 hv)
  · cases hu : tm y x.at_ with
    | none => rw [h0 hu] at hv;cases hv
    | some u =>
      obtain ⟨hur,ws,hw,rfl⟩:=hc u hu
      obtain ⟨s,hs,ha⟩:=mem_appS.1 (mem_ofS.1 hv).1
      have e : x.pc.node = i:=by show x.nd.toNat = i;omega
      exact .inr ⟨y,u,s,by rw [e];exact hy,hu,by rw [e];exact (ways_cov hw (List.getElem?_eq_some_iff.1 hy).1 hn).1 s hs,ha⟩
 cover:=fun p hp v hv => by
  rw [List.mem_singleton] at hp
  subst hp
  have e : x.pc.node = i:=by show x.nd.toNat = i;omega
  rcases hv with h1 | ⟨y',u,s,hy',hu,ha,hs⟩
  · have h2:=(own_br (n:=n) hi).2 h1
    refine ⟨v,List.mem_append_left _ h2,?_⟩
    rw [h1.2.2];exact St.L_refl.2 hR
  · rw [e] at hy' ha
    rw [hy] at hy';cases hy'
    obtain ⟨hur,ws,hw,rfl⟩:=hc u hu
    obtain ⟨t,ht,htl⟩:=(ways_cov hw (List.getElem?_eq_some_iff.1 hy).1 hn).2 s ha
    obtain ⟨v',hv',hl'⟩:=Sm.apply_mono htl (St.L_refl.2 hur) hs
    have hup : Up (ofS (appS u ws)) v':=(ofS_up (appS_even (hw.one hg))).2 ⟨v',mem_appS.2 ⟨t,ht,hv'⟩,St.L_refl.2 (Sm.apply_R hv').1⟩
    obtain ⟨z,hz,hzl⟩:=hup
    exact ⟨z,List.mem_append_right _ hz,St.L_trans hzl hl'⟩
def FrT (g : List Nd) (xs : List Pl) (n : Nat) (f : List St) : Prop:=∃ l,SomeT tmR g (xs.map Pl.pc) n l ∧ f = ofS l
theorem FrT.uniq {xs : List Pl} {f f' : List St} (hg : Fine g) (hf : xs.all (fitB g) = true) (hy : g[n]? = some y) (h : FrT g xs n f) (k : FrT g xs n f') : f = f':=by
 obtain ⟨l,hl,rfl⟩:=h
 obtain ⟨m,hm,rfl⟩:=k
 exact hl.eq hg (fit_all hf) hy hm
theorem FrT.fr {xs : List Pl} {f : List St} (hg : Fine g) (hf : xs.all (fitB g) = true) (hy : g[n]? = some y) (h : FrT g xs n f) : Fr f:=by
 obtain ⟨l,hl,rfl⟩:=h
 exact hl.fr hg (fit_all hf) hy
end
end

section
@[reducible] def Pl.cells (x : Pl) : List Value:=[.int .i64 x.nd,.bool x.held,.int .i64 x.at_.d,.int .i64 x.at_.e,.int .i64 x.at_.x,.int .i64 x.at_.y,.int .i64 x.at_.z]
@[reducible] def Pl.v (x : Pl) : Value:=.agg #[.int .i64 x.nd,.bool x.held,.int .i64 x.at_.d,.int .i64 x.at_.e,.int .i64 x.at_.x,.int .i64 x.at_.y,.int .i64 x.at_.z]
def kindC : Kind Pl:=⟨Pl.cells,7,fun _ => rfl,fun t u hu => by
 simp only [List.mem_cons,List.not_mem_nil,or_false] at hu
 rcases hu with rfl | rfl | rfl | rfl | rfl | rfl | rfl <;> rfl,by decide⟩
def Pl.W (x : Pl) : Prop:=-9223372036854775808 ≤ x.nd ∧ x.nd ≤ 9223372036854775807
theorem cells_place : Tryz.prog.cellsOf 50 = 7:=by kernel_rfl
theorem imp_stamp_cells {H : Type} {enc : TypeId × Value → H} {W : World} {n : Nat} {cs : List Value} {x : DataW H × List MemPlace} (hl : cs.length = 5) (h : DataW.trod enc Tryz.prog W 0 (fun _ => true) true n 27 cs = some x) : ∃ t : St,cs = [.int .i64 t.d,.int .i64 t.e,.int .i64 t.x,.int .i64 t.y,.int .i64 t.z]:=by
 match cs,hl with
 | [c0,c1,c2,c3,c4],_ =>
   obtain ⟨xs,n',_,hx,_,hlen,hg⟩:=DataW.trod_struct Tryz.underlying27 h
   match xs,hlen with
   | [y0,y1,y2],_ =>
     have h0 : DataW.trod enc Tryz.prog W 0 (fun _ => true) true n' 3 [c0] = some y0:=hg 0 _ rfl
     have h1 : DataW.trod enc Tryz.prog W 0 (fun _ => true) true n' 3 [c1] = some y1:=hg 1 _ rfl
     have h2 : DataW.trod enc Tryz.prog W 0 (fun _ => true) true n' 25 [c2,c3,c4] = some y2:=hg 2 _ rfl
     obtain ⟨z0,z1,z2,m,-,k0,k1,k2⟩:=trod_array3 Tryz.underlying25 cells_int h2
     obtain ⟨n0,e0,-,-⟩:=DataW.trod_int Tryz.underlying3 h0
     obtain ⟨n1,e1,-,-⟩:=DataW.trod_int Tryz.underlying3 h1
     obtain ⟨n2,e2,-,-⟩:=DataW.trod_int Tryz.underlying3 k0
     obtain ⟨n3,e3,-,-⟩:=DataW.trod_int Tryz.underlying3 k1
     obtain ⟨n4,e4,-,-⟩:=DataW.trod_int Tryz.underlying3 k2
     cases e0;cases e1;cases e2;cases e3;cases e4
     exact ⟨⟨n0,n1,n2,n3,n4⟩,rfl⟩
theorem place_cells {H : Type} {enc : TypeId × Value → H} {W : World} {n : Nat} {cs : List Value} {x : DataW H × List MemPlace} (hl : cs.length = 7) (h : DataW.trod enc Tryz.prog W 0 (fun _ => true) true n 50 cs = some x) : ∃ t : Pl,cs = t.cells ∧ t.W:=by
 match cs,hl with
 | [c0,c1,c2,c3,c4,c5,c6],_ =>
   obtain ⟨xs,n',_,hx,_,hlen,hg⟩:=DataW.trod_struct Tryz.underlying50 h
   match xs,hlen with
   | [y0,y1,y2],_ =>
     have h0 : DataW.trod enc Tryz.prog W 0 (fun _ => true) true n' 3 [c0] = some y0:=hg 0 _ rfl
     have h1 : DataW.trod enc Tryz.prog W 0 (fun _ => true) true n' 4 [c1] = some y1:=hg 1 _ rfl
     have h2 : DataW.trod enc Tryz.prog W 0 (fun _ => true) true n' 27 [c2,c3,c4,c5,c6] = some y2:=hg 2 _ rfl
     obtain ⟨n0,e0,-,w0⟩:=DataW.trod_int Tryz.underlying3 h0
     obtain ⟨b1,e1,-⟩:=DataW.trod_bool Tryz.underlying4 h1
     obtain ⟨t,e2⟩:=imp_stamp_cells (cs:=[c2,c3,c4,c5,c6]) rfl h2
     cases e0;cases e1
     refine ⟨⟨n0,b1,t⟩,?_,i64_wf w0⟩
     rw [e2]
theorem open_place {H : Type} {enc : TypeId × Value → H} {W : World} {base : Nat} {v : Value} {d : DataW H} {p : List MemPlace}
 (hok : Value.okWide Tryz.prog W .any base 50 v) (h : DataW.Trod enc Tryz.prog W 0 (fun _ => true) true 50 v d p) : ∃ t : Pl,v = t.v ∧ t.W:=by
 obtain ⟨cs,rfl,hsz⟩:=okWide_struct Tryz.underlying50 hok
 obtain ⟨l⟩:=cs
 match l,hsz.trans cells_place with
 | [c0,c1,c2,c3,c4,c5,c6],_ =>
   obtain ⟨fuel,hf⟩:=h
   obtain ⟨t,e,hW⟩:=place_cells (cs:=[c0,c1,c2,c3,c4,c5,c6]) rfl hf
   refine ⟨t,?_,hW⟩
   rw [e]
def Pl.zero : Pl:=⟨0,false,St.zero⟩
theorem open_places {H : Type} {enc : TypeId × Value → H} {W : World} {base : Nat} {v : Value} {d : DataW H} {p : List MemPlace} (hok : Value.okWide Tryz.prog W .any base 24 v)
 (h : DataW.Trod enc Tryz.prog W 0 (fun _ => true) true 24 v d p) :
 ∃ (A : Option Addr) (l : List Pl) (c : Nat),v = .slice A l.length c ∧ Rw.Ts kindC W A l ∧ (∀ x ∈ l,x.W) ∧ l.length ≤ c ∧ c ≤ maxLen ∧ (A = none → c = 0):=by
 obtain ⟨A0,len,cap,rfl⟩:=okWide_slice Tryz.underlying24 hok
 obtain ⟨fuel,hf⟩:=h
 rcases Go.Deep.open_slice Tryz.underlying24 hf with ⟨hcs,_⟩ | ⟨a,len',cap',m,n,D,Pq,hcs,_,hl,hm,hmm,hx,hi⟩
 · simp [Value.cells] at hcs
   obtain ⟨rfl,rfl,rfl⟩:=hcs
   exact ⟨none,[],0,rfl,Rw.Ts.nil,by simp,by simp,by simp,fun _ => rfl⟩
 · simp [Value.cells] at hcs
   obtain ⟨rfl,rfl,rfl⟩:=hcs
   simp only [if_true] at hmm
   subst hmm
   rw [cells_place] at hi
   have key : ∀ i,i < len → ∃ x : Pl,x.W ∧ ∀ j u,x.cells[j]? = some u → W.cell? ((a.add (i * 7)).add j) = some u:=by
    intro i hlt
    obtain ⟨cs',hc,ht⟩:=hi i (by omega)
    obtain ⟨_,hcl,hat⟩:=World.cells?_some hc
    obtain ⟨t,rfl,hW⟩:=place_cells hcl ht
    refine ⟨t,hW,fun j u hu => ?_⟩
    have hj : j < 7:=(List.getElem?_eq_some_iff.1 hu).1
    rw [hat j hj];exact hu
   let f : Nat → Pl:=fun i => if h : i < len then Classical.choose (key i h) else Pl.zero
   have hf' : ∀ i (h : i < len),f i = Classical.choose (key i h):=fun i h => by simp only [f];rw [dif_pos h]
   have hspec:=fun i (h : i < len) => (by rw [hf' i h];exact Classical.choose_spec (key i h) : (f i).W ∧ ∀ j u,(f i).cells[j]? = some u → W.cell? ((a.add (i * 7)).add j) = some u)
   refine ⟨some a,(List.range len).map f,m,by simp,fun hn => ?_,fun x hx => ?_,by simp;omega,hm,by simp⟩
   · have hlen : 0 < len:=by simpa using hn
     have h0:=(hspec 0 hlen).2 0 _ rfl
     have hlt:=cell_lt h0
     rw [add_block,add_block] at hlt
     obtain ⟨b,off,rfl⟩ : ∃ b off,a = ⟨b,off,none⟩:=by
      obtain ⟨b,off,e⟩:=plain_addr h0
      obtain ⟨b',off',spot⟩:=a
      simp [Addr.add] at e
      exact ⟨b',off',by rw [e.2.2]⟩
     refine ⟨b,off,rfl,hlt,row_read (κ:=kindC) fun i t ht j u hu => ?_⟩
     have hil : i < len:=by have:=(List.getElem?_eq_some_iff.1 ht).1;simpa using this
     rw [List.getElem?_map,List.getElem?_range hil] at ht
     cases ht
     have h2:=(hspec i hil).2 j u hu
     rw [add_at,add_at,Nat.add_assoc] at h2
     exact h2
   · obtain ⟨i,hi2,rfl⟩:=List.mem_map.1 hx
     exact (hspec i (List.mem_range.1 hi2)).1
end

section
namespace Op
theorem cells5 {w : World} {g : Nat} {t : TypeId} {a b c d e : Value} (h : Row w g t [a,b,c,d,e]) : w.cell? ⟨g,0,none⟩ = some a ∧ w.cell? ⟨g,1,none⟩ = some b ∧ w.cell? ⟨g,2,none⟩ = some c ∧ w.cell? ⟨g,3,none⟩ = some d ∧ w.cell? ⟨g,4,none⟩ = some e:=⟨h.cell 0,h.cell 1,h.cell 2,h.cell 3,h.cell 4⟩
end Op
end
end Go.Proofs.YtonelpnhoiajgaaGreatDoor
