import Derived.Test.YtonelpnhoiajgaaGreatDoorHd
import Derived.Test.YtonelpnhoiajgaaGreatDoorCa0
import Derived.Test.YtonelpnhoiajgaaGreatDoorCa4
import Derived.Test.YtonelpnhoiajgaaGreatDoorCa3
import Derived.Deep.Onto
import Derived.Laws.StructEq
import Derived.Lib.Hide
import Derived.Deep.DeepCutAuto
import Derived.Deep.CutRange
import Derived.Test.YtonelpnhoiajgaaGreatDoorCa2
import Derived.RegionCalls
namespace Go.Proofs.YtonelpnhoiajgaaGreatDoor
set_option linter.unusedSimpArgs false
set_option maxRecDepth 100000
open Go.ChangeShapes Go.WideShapes Go.ChangeAt Go.RowKit Go.BigFrame
set_option linter.unusedVariables false
section
def Up (l : List St) (t : St) : Prop:=∃ x ∈ l,x.L t
structure Fr (f : List St) : Prop where
 right : ∀ x ∈ f,x.R
 depth : ∀ x ∈ f,∀ y ∈ f,x.d = y.d
 sort : f.Pairwise fun x y => x.C y < 0
 anti : ∀ x ∈ f,∀ y ∈ f,x.L y → x = y
section
variable {a b c f g l m : List St} {s t x y z : St}
theorem St.C_irrefl : ¬ x.C x < 0:=by
 have : x.C x = 0:=St.C_zero.2 rfl
 omega
theorem St.C_lt_trans (h : x.C y < 0) (k : y.C z < 0) : x.C z < 0:=by
 rw [St.C_neg] at *
 omega
theorem St.C_total (h : x ≠ y) : x.C y < 0 ∨ y.C x < 0:=by
 have h1 : x.C y ≠ 0:=fun e => h (St.C_zero.1 e)
 have h2:=St.C_swap (a:=x) (b:=y)
 omega
theorem sorted_ext : ∀ {f g : List St},f.Pairwise (fun x y => x.C y < 0) → g.Pairwise (fun x y => x.C y < 0) → (∀ t,t ∈ f ↔ t ∈ g) → f = g
 | [],[],_,_,_ => rfl
 | [],y :: g,_,_,h => absurd ((h y).2 List.mem_cons_self) (by simp)
 | x :: f,[],_,_,h => absurd ((h x).1 List.mem_cons_self) (by simp)
 | x :: f,y :: g,hf,hg,h => by
   rw [List.pairwise_cons] at hf hg
   have hxy : x = y:=by
    have h1:=(h x).1 List.mem_cons_self
    have h2:=(h y).2 List.mem_cons_self
    rcases List.mem_cons.1 h1 with e | h1
    · exact e
    · rcases List.mem_cons.1 h2 with e | h2
      · exact e.symm
      · exact absurd (St.C_lt_trans (hf.1 y h2) (hg.1 x h1)) St.C_irrefl
   subst hxy
   congr 1
   refine sorted_ext hf.2 hg.2 fun t => ⟨fun ht => ?_,fun ht => ?_⟩
   · rcases List.mem_cons.1 ((h t).1 (List.mem_cons_of_mem _ ht)) with e | h1
     · exact absurd (e ▸ hf.1 t ht) St.C_irrefl
     · exact h1
   · rcases List.mem_cons.1 ((h t).2 (List.mem_cons_of_mem _ ht)) with e | h1
     · exact absurd (e ▸ hg.1 t ht) St.C_irrefl
     · exact h1
theorem Up.mono (h : Up l s) (k : s.L t) : Up l t:=by
 obtain ⟨x,hx,hl⟩:=h;exact ⟨x,hx,St.L_trans hl k⟩
theorem Up.self (hx : x ∈ l) (hr : x.R) : Up l x:=⟨x,hx,St.L_refl.2 hr⟩
theorem Fr.sub (hf : Fr f) (hg : Fr g) (h : ∀ t,Up f t ↔ Up g t) : ∀ t,t ∈ f → t ∈ g:=by
 intro x hx
 obtain ⟨y,hy,hyx⟩:=(h x).1 (Up.self hx (hf.right x hx))
 obtain ⟨z,hz,hzy⟩:=(h y).2 (Up.self hy (hg.right y hy))
 have e:=hf.anti z hz x hx (St.L_trans hzy hyx)
 subst e
 rw [St.L_antisymm hzy hyx];exact hy
theorem Fr.ext (hf : Fr f) (hg : Fr g) (h : ∀ t,Up f t ↔ Up g t) : f = g :=
 sorted_ext hf.sort hg.sort fun t => ⟨hf.sub hg h t,hg.sub hf (fun t => (h t).symm) t⟩
/-! the frontier of any times of one depth -/
def Even (l : List St) : Prop:=∀ x ∈ l,x.R ∧ ∀ y ∈ l,x.d = y.d
def St.sum (t : St) : Nat:=(t.e + t.x + t.y + t.z).toNat
theorem St.sum_lt (h : x.L y) (hne : x ≠ y) : x.sum < y.sum:=by
 unfold St.L St.R at h
 unfold St.sum
 have : ¬ (x.e = y.e ∧ x.x = y.x ∧ x.y = y.y ∧ x.z = y.z):=fun ⟨h1,h2,h3,h4⟩ => hne (St.ext' h.2.2.1 h1 h2 h3 h4)
 omega
theorem least_below (l : List St) : ∀ (n : Nat) (x : St),x.sum ≤ n → x ∈ l → x.R → ∃ y ∈ l,y.L x ∧ ∀ z ∈ l,z.L y → z = y:=by
 intro n
 induction n with
 | zero =>
   intro x hn hx hr
   refine ⟨x,hx,St.L_refl.2 hr,fun z hz hl => ?_⟩
   by_cases e : z = x
   · exact e
   · have:=St.sum_lt hl e;omega
 | succ n ih =>
   intro x hn hx hr
   by_cases h : ∀ z ∈ l,z.L x → z = x
   · exact ⟨x,hx,St.L_refl.2 hr,h⟩
   · have ⟨z,hz⟩ : ∃ z,z ∈ l ∧ z.L x ∧ z ≠ x:=by
      apply Classical.byContradiction
      intro hn
      apply h
      intro z hz hl
      apply Classical.byContradiction
      intro hne
      exact hn ⟨z,hz,hl,hne⟩
     obtain ⟨hz,hl,hne⟩:=hz
     obtain ⟨y,hy,hyz,hmin⟩:=ih z (by have:=St.sum_lt hl hne;omega) hz hl.1
     exact ⟨y,hy,St.L_trans hyz hl,hmin⟩
def insS (t : St) : List St → List St
 | [] => [t]
 | y :: r => if y.C t < 0 then y :: insS t r else t :: y :: r
theorem mem_insS {t x : St} : ∀ {l : List St},x ∈ insS t l ↔ x = t ∨ x ∈ l
 | [] => by simp [insS]
 | y :: r => by
   unfold insS
   split
   · rw [List.mem_cons,mem_insS,List.mem_cons]
     constructor
     · rintro (h | h | h)
       · exact .inr (.inl h)
       · exact .inl h
       · exact .inr (.inr h)
     · rintro (h | h | h)
       · exact .inr (.inl h)
       · exact .inl h
       · exact .inr (.inr h)
   · simp
theorem insS_sort {t : St} : ∀ {l : List St},l.Pairwise (fun x y => x.C y < 0) → t ∉ l → (insS t l).Pairwise (fun x y => x.C y < 0)
 | [],_,_ => by simp [insS]
 | y :: r,h,hn => by
   have hh:=h
   rw [List.pairwise_cons] at h
   unfold insS
   split
   · rename_i hc
     rw [List.pairwise_cons]
     refine ⟨fun x hx => ?_,insS_sort h.2 (fun hm => hn (List.mem_cons_of_mem _ hm))⟩
     rcases mem_insS.1 hx with e | hx
     · rw [e];exact hc
     · exact h.1 x hx
   · rename_i hc
     have hty : t.C y < 0:=by
      rcases St.C_total (x:=t) (y:=y) (fun e => hn (by rw [e];exact List.mem_cons_self)) with h1 | h1
      · exact h1
      · exact absurd h1 hc
     rw [List.pairwise_cons]
     refine ⟨fun x hx => ?_,hh⟩
     rcases List.mem_cons.1 hx with e | hx
     · rw [e];exact hty
     · exact St.C_lt_trans hty (h.1 x hx)
def Least (l : List St) (t : St) : Prop:=∀ z ∈ l,z.L t → z = t
instance (l : List St) (t : St) : Decidable (Least l t):=inferInstanceAs (Decidable (∀ z ∈ l,_))
def ofIn (l : List St) : List St → List St
 | [] => []
 | t :: r => if Least l t ∧ t ∉ ofIn l r then insS t (ofIn l r) else ofIn l r
def ofS (l : List St) : List St:=ofIn l l
theorem mem_ofIn (l : List St) : ∀ {m : List St},x ∈ ofIn l m ↔ x ∈ m ∧ Least l x
 | [] => by simp [ofIn]
 | t :: r => by
   unfold ofIn
   split
   · rename_i h
     rw [mem_insS,mem_ofIn l,List.mem_cons]
     constructor
     · rintro (e | ⟨h1,h2⟩)
       · subst e;exact ⟨.inl rfl,h.1⟩
       · exact ⟨.inr h1,h2⟩
     · rintro ⟨e | h1,h2⟩
       · exact .inl e
       · exact .inr ⟨h1,h2⟩
   · rename_i h
     rw [mem_ofIn l,List.mem_cons]
     constructor
     · rintro ⟨h1,h2⟩;exact ⟨.inr h1,h2⟩
     · rintro ⟨e | h1,h2⟩
       · subst e
         have : x ∈ ofIn l r:=Classical.byContradiction fun hn => h ⟨h2,hn⟩
         rw [mem_ofIn l] at this;exact this
       · exact ⟨h1,h2⟩
theorem ofIn_sort (l : List St) : ∀ m : List St,(ofIn l m).Pairwise (fun x y => x.C y < 0)
 | [] => List.Pairwise.nil
 | t :: r => by
   unfold ofIn
   split
   · rename_i h;exact insS_sort (ofIn_sort l r) h.2
   · exact ofIn_sort l r
theorem mem_ofS : x ∈ ofS l ↔ x ∈ l ∧ Least l x:=mem_ofIn l
theorem ofS_fr (h : Even l) : Fr (ofS l) :=
 ⟨fun x hx => (h x (mem_ofS.1 hx).1).1,fun x hx y hy => (h x (mem_ofS.1 hx).1).2 y (mem_ofS.1 hy).1,ofIn_sort l l,fun x hx y hy hl => (mem_ofS.1 hy).2 x (mem_ofS.1 hx).1 hl⟩
theorem ofS_up (h : Even l) : Up (ofS l) t ↔ Up l t:=by
 constructor
 · rintro ⟨x,hx,hl⟩;exact ⟨x,(mem_ofS.1 hx).1,hl⟩
 · rintro ⟨x,hx,hl⟩
   obtain ⟨y,hy,hyx,hmin⟩:=least_below l _ x (Nat.le_refl _) hx (h x hx).1
   exact ⟨y,mem_ofS.2 ⟨hy,hmin⟩,St.L_trans hyx hl⟩
theorem Fr.even (h : Fr f) : Even f:=fun x hx => ⟨h.right x hx,h.depth x hx⟩
/-! one within the other, both, either -/
def Alike (a b : List St) : Prop:=Fr a ∧ Fr b ∧ ∀ x ∈ a,∀ y ∈ b,x.d = y.d
def In (a b : List St) : Prop:=∀ x ∈ b,Up a x
def bothS (a b : List St) : List St:=ofS (a ++ b)
theorem even_append (h : Alike a b) : Even (a ++ b):=by
 intro x hx
 refine ⟨?_,fun y hy => ?_⟩
 · rcases List.mem_append.1 hx with hx | hx
   · exact h.1.right x hx
   · exact h.2.1.right x hx
 · rcases List.mem_append.1 hx with hx | hx <;> rcases List.mem_append.1 hy with hy | hy
   · exact h.1.depth x hx y hy
   · exact h.2.2 x hx y hy
   · exact (h.2.2 y hy x hx).symm
   · exact h.2.1.depth x hx y hy
end
end

section
def Nd.sm (n : Nd) : Sm:=if n.k = 7 then ⟨n.d - 1,n.d,n.d - 1,0,0,0,0⟩ else if n.k = 8 then ⟨n.d + 1,n.d,n.d,0,0,0,0⟩ else if n.k = 9 then ⟨n.d,n.d,n.d,1,0,0,0⟩ else ⟨n.d,n.d,n.d,0,0,0,0⟩
def Nd.smOk (n : Nd) : Prop:=1 ≤ n.k ∧ n.k ≤ 10 ∧ n.sm.R
instance (n : Nd) : Decidable n.smOk:=inferInstanceAs (Decidable (_ ∧ _))
def idS (d : Int) : Sm:=⟨d,d,d,0,0,0,0⟩
theorem idS_R {d : Int} (h0 : 0 ≤ d) (h3 : d ≤ 3) : (idS d).R:=by
 simp only [idS,Sm.R]
 refine ⟨⟨h0,h3⟩,⟨h0,h3⟩,⟨h0,?_,?_⟩,⟨?_,?_,?_⟩,⟨?_,?_,?_⟩,⟨?_,?_,?_⟩,⟨?_,?_,?_⟩⟩ <;> first | omega | (intro _;first | trivial | omega)
theorem sm_to (n : Nd) : n.sm.to = n.d:=by
 unfold Nd.sm
 by_cases h7 : n.k = 7
 · rw [if_pos h7]
 by_cases h8 : n.k = 8
 · rw [if_neg h7,if_pos h8]
 by_cases h9 : n.k = 9
 · rw [if_neg h7,if_neg h8,if_pos h9]
 · rw [if_neg h7,if_neg h8,if_neg h9]
theorem sm_fr (n : Nd) : n.sm.fr = n.d - n.more:=by
 unfold Nd.sm Nd.more
 by_cases h7 : n.k = 7
 · rw [if_pos h7,if_pos h7]
 by_cases h8 : n.k = 8
 · rw [if_neg h7,if_neg h7,if_pos h8,if_pos h8];show n.d + 1 = n.d - -1;omega
 by_cases h9 : n.k = 9
 · rw [if_neg h7,if_neg h7,if_neg h8,if_neg h8,if_pos h9];show n.d = n.d - 0;omega
 · rw [if_neg h7,if_neg h7,if_neg h8,if_neg h8,if_neg h9];show n.d = n.d - 0;omega
def Fd (g : List Nd) (i n : Nat) : Prop:=∃ x,g[n]? = some x ∧ ((i : Nat) : Int) ∈ x.ins
theorem Fd.lt {g : List Nd} {i n : Nat} (h : Fd g i n) : n < g.length:=by
 obtain ⟨x,hx,_⟩:=h
 exact (List.getElem?_eq_some_iff.1 hx).1
inductive Arr (g : List Nd) (i : Nat) : Nat → Sm → Prop
 | first {n : Nat} {x : Nd} (hx : g[i]? = some x) (hf : Fd g i n) : Arr g i n (idS x.d)
 | on {n m : Nat} {s : Sm} {x : Nd} (h : Arr g i n s) (hx : g[n]? = some x) (ho : x.smOk) (ht : s.thenOk x.sm) (hf : Fd g n m) : Arr g i m (s.seq x.sm)
def Fine (g : List Nd) : Prop:=∀ (n : Nat) (x : Nd),g[n]? = some x → x.num = true ∧ x.Ports g ∧ x.Deep g
theorem fine_of {g : List Nd} (h : ∀ j : Nat,j < g.length → nodeE g j = 0) : Fine g:=fun n x hx => by
 have h1:=h n (List.getElem?_eq_some_iff.1 hx).1
 rw [nodeE_at hx] at h1
 exact err_zero h1
section
variable {g : List Nd} {i n m : Nat} {s t : Sm} {x y : Nd}
theorem Fine.deep (hg : Fine g) (hx : g[n]? = some x) : 0 ≤ x.d ∧ x.d ≤ 3:=by
 have h:=(hg n x hx).2.2.1
 unfold Nd.deepB at h
 have:=of_decide_eq_true h
 exact ⟨this.1,this.2.1⟩
theorem Fine.fed (hg : Fine g) (hx : g[n]? = some x) (hf : Fd g n m) (hy : g[m]? = some y) : y.d - y.more = x.d:=by
 obtain ⟨y',hy',hm⟩:=hf
 rw [hy] at hy'
 cases hy'
 refine (hg m y hy).2.2.2 _ hm x ?_
 rw [show ((n : Nat) : Int).toNat = n by omega]
 exact hx
theorem Arr.ends (hg : Fine g) (h : Arr g i n s) : s.R ∧ (∃ x,g[i]? = some x ∧ s.fr = x.d) ∧ ∃ j y,g[j]? = some y ∧ Fd g j n ∧ s.to = y.d:=by
 induction h with
 | first hx hf =>
   have hd:=hg.deep hx
   exact ⟨idS_R hd.1 hd.2,⟨_,hx,rfl⟩,_,_,hx,hf,rfl⟩
 | on h hx ho ht hf ih => exact ⟨Sm.seq_R ht,ih.2.1,_,_,hx,hf,sm_to _⟩
theorem Arr.lt (h : Arr g i n s) : n < g.length:=by
 cases h with
 | first hx hf => exact hf.lt
 | on h hx ho ht hf => exact hf.lt
theorem Arr.to_eq (hg : Fine g) (h : Arr g i n s) (hx : g[n]? = some x) : s.to = x.d - x.more:=by
 obtain ⟨_,_,j,y,hy,hf,e⟩:=h.ends hg
 rw [e,hg.fed hy hf hx]
structure Cov (g : List Nd) (i : Nat) (P : Nat → Sm → Prop) : Prop where
 sound : ∀ n s,P n s → Arr g i n s
 first : ∀ n x,g[i]? = some x → Fd g i n → ∃ s,P n s ∧ s.L (idS x.d)
 on : ∀ n m s x,P n s → g[n]? = some x → x.smOk → s.thenOk x.sm → Fd g n m → ∃ t,P m t ∧ t.L (s.seq x.sm)
theorem Cov.covers {P : Nat → Sm → Prop} (hP : Cov g i P) (h : Arr g i n s) : ∃ t,P n t ∧ t.L s:=by
 induction h with
 | first hx hf => exact hP.first _ _ hx hf
 | on h hx ho ht hf ih =>
   obtain ⟨t,hp,hl⟩:=ih
   obtain ⟨h1,h2⟩:=Sm.seq_left hl ht
   obtain ⟨u,hu,hl2⟩:=hP.on _ _ _ _ hp hx ho h1 hf
   exact ⟨u,hu,Sm.L_trans hl2 h2⟩
theorem waysS_cover {p l : List Sm} (h1 : ∀ x ∈ p,x ∈ l) (h2 : ∀ x ∈ l,x.R → ∃ y ∈ p,y.L x) : waysS p = waysS l:=by
 refine waysS_eq (waysIn_sort p p) fun x => ?_
 rw [mem_waysS]
 constructor
 · rintro ⟨hx,hr,hm⟩
   refine ⟨h1 x hx,hr,fun z hz hl => ?_⟩
   obtain ⟨y,hy,hyz⟩:=h2 z hz hl.1
   have e:=hm y hy (Sm.L_trans hyz hl)
   subst e
   exact Sm.L_antisymm hl hyz
 · rintro ⟨hx,hr,hm⟩
   obtain ⟨y,hy,hyx⟩:=h2 x hx hr
   have e:=hm y (h1 y hy) hyx
   subst e
   exact ⟨hy,hr,fun z hz hl => hm z (h1 z hz) hl⟩
end
/-! all ways as a row that grows: the document's own -/
theorem toG_fd {g : List Nd} {i n : Nat} : (∃ p ∈ toG ((i : Nat) : Int) 0 g,p.1 = n) ↔ Fd g i n:=by
 constructor
 · rintro ⟨⟨m,q⟩,hp,rfl⟩
   obtain ⟨_,x,hx,hq⟩:=mem_toG.1 hp
   exact ⟨x,by simpa using hx,List.mem_of_getElem? hq⟩
 · rintro ⟨x,hx,hm⟩
   obtain ⟨q,hq⟩:=List.getElem?_of_mem hm
   exact ⟨(n,q),mem_toG.2 ⟨Nat.zero_le _,x,by simpa using hx,hq⟩,rfl⟩
structure AllW (g : List Nd) (i : Nat) (l : List (Nat × Sm)) (k : Nat) : Prop where
 nodup : l.Nodup
 sound : ∀ n s,(n,s) ∈ l → Arr g i n s
 first : ∀ n x,g[i]? = some x → Fd g i n → (n,idS x.d) ∈ l
 done : ∀ j n s,j < k → l[j]? = some (n,s) → ∀ x m,g[n]? = some x → x.smOk → s.thenOk x.sm → Fd g n m → (m,s.seq x.sm) ∈ l
 le : k ≤ l.length
section
variable {g : List Nd} {i k n : Nat} {l : List (Nat × Sm)} {s : Sm} {x : Nd}
theorem AllW.all (h : AllW g i l l.length) : (n,s) ∈ l ↔ Arr g i n s:=by
 refine ⟨h.sound n s,fun ha => ?_⟩
 induction ha with
 | first hx hf => exact h.first _ _ hx hf
 | on ha hx ho ht hf ih =>
   obtain ⟨j,hj⟩:=List.getElem?_of_mem ih
   exact h.done j _ _ (List.getElem?_eq_some_iff.1 hj).1 hj _ _ hx ho ht hf
end
/-! it comes to an end -/
theorem pigeon : ∀ (N : Nat) (l : List Nat),l.Nodup → (∀ x ∈ l,x < N) → l.length ≤ N
 | 0,l,_,h => by
   cases l with
   | nil => exact Nat.le_refl _
   | cons x l => exact absurd (h x List.mem_cons_self) (Nat.not_lt_zero _)
 | N + 1,l,hn,h => by
   have h1:=pigeon N (l.erase N) (hn.erase N) fun x hx => by
    have h2:=h x (List.mem_of_mem_erase hx)
    have h3 : x ≠ N:=fun e => by subst e;exact hn.not_mem_erase hx
    omega
   have h4:=List.length_erase (a:=N) (l:=l)
   split at h4 <;> omega
def Sm.code (s : Sm) : Nat:=(s.fr + 4 * (s.to + 4 * (s.kp + 4 * (s.ad + 16 * (s.t0 + 16 * (s.t1 + 16 * s.t2)))))).toNat
theorem Sm.code_lt {s : Sm} (h : s.R) : s.code < 4194304:=by unfold Sm.R at h;unfold Sm.code;omega
theorem Sm.code_inj {s t : Sm} (h : s.R) (k : t.R) (e : s.code = t.code) : s = t:=by
 unfold Sm.R at h k;unfold Sm.code at e
 refine Sm.ext' ?_ ?_ ?_ ?_ ?_ ?_ ?_ <;> omega
theorem nodup_map {α : Type} (f : α → Nat) : ∀ (l : List α),l.Nodup → (∀ x ∈ l,∀ y ∈ l,f x = f y → x = y) → (l.map f).Nodup
 | [],_,_ => List.nodup_nil
 | x :: l,h,hf => by
   rw [List.map_cons,List.nodup_cons]
   have h1:=List.nodup_cons.1 h
   refine ⟨fun hm => ?_,nodup_map f l h1.2 fun a ha b hb => hf a (List.mem_cons_of_mem _ ha) b (List.mem_cons_of_mem _ hb)⟩
   obtain ⟨y,hy,e⟩:=List.mem_map.1 hm
   have:=hf y (List.mem_cons_of_mem _ hy) x List.mem_cons_self e
   subst this
   exact h1.1 hy
theorem AllW.bound {g : List Nd} {i k : Nat} {l : List (Nat × Sm)} (hg : Fine g) (h : AllW g i l k) : l.length ≤ g.length * 4194304:=by
 have hr : ∀ a ∈ l,a.1 < g.length ∧ a.2.R:=fun a ha => ⟨(h.sound a.1 a.2 ha).lt,((h.sound a.1 a.2 ha).ends hg).1⟩
 have h1:=pigeon (g.length * 4194304) (l.map fun a => a.1 * 4194304 + a.2.code) (nodup_map _ l h.nodup fun a ha b hb e => by
  have ha2:=hr a ha
  have hb2:=hr b hb
  have h3:=Sm.code_lt ha2.2
  have h4:=Sm.code_lt hb2.2
  have e1 : a.1 = b.1:=by omega
  have e2 : a.2.code = b.2.code:=by omega
  exact Prod.ext e1 (Sm.code_inj ha2.2 hb2.2 e2)) fun x hx => by
  obtain ⟨a,ha,rfl⟩:=List.mem_map.1 hx
  have ha2:=hr a ha
  have h3:=Sm.code_lt ha2.2
  have : a.1 * 4194304 + 4194304 ≤ g.length * 4194304:=by have:=ha2.1;omega
  omega
 rwa [List.length_map] at h1
/-! with a node more that feeds none -/
section
variable {g : List Nd} {i n f : Nat} {s : Sm} {z : Nd}
theorem Fd.from_lt (hg : Fine g) (h : Fd g i n) : i < g.length:=by
 obtain ⟨x,hx,hm⟩:=h
 obtain ⟨h0,m,hm2,_⟩:=(hg n x hx).2.1.1 _ hm
 rw [show ((i : Nat) : Int).toNat = i by omega] at hm2
 exact (List.getElem?_eq_some_iff.1 hm2).1
end
end

section
def atA (n : Nat) : List (Nat × Sm) → List Sm
 | [] => []
 | a :: l => if a.1 = n then a.2 :: atA n l else atA n l
theorem mem_atA {n : Nat} {s : Sm} : ∀ {l : List (Nat × Sm)},s ∈ atA n l ↔ (n,s) ∈ l
 | [] => by simp [atA]
 | (m,t) :: l => by
   unfold atA
   by_cases h : m = n
   · subst h
     rw [if_pos rfl,List.mem_cons,List.mem_cons,mem_atA]
     simp
   · rw [if_neg h,mem_atA,List.mem_cons]
     constructor
     · exact .inr
     · rintro (e | h2)
       · injection e with e1 e2;exact absurd e1.symm h
       · exact h2
def appS (t : St) : List Sm → List St
 | [] => []
 | s :: l => match s.apply t with | some u => u :: appS t l | none => appS t l
theorem mem_appS {t u : St} : ∀ {l : List Sm},u ∈ appS t l ↔ ∃ s ∈ l,s.apply t = some u
 | [] => by simp [appS]
 | s :: l => by
   unfold appS
   cases h : s.apply t with
   | none =>
     simp only
     rw [mem_appS]
     constructor
     · rintro ⟨x,hx,e⟩;exact ⟨x,List.mem_cons_of_mem _ hx,e⟩
     · rintro ⟨x,hx,e⟩
       rcases List.mem_cons.1 hx with rfl | hx
       · rw [h] at e;cases e
       · exact ⟨x,hx,e⟩
   | some v =>
     simp only [List.mem_cons]
     rw [mem_appS]
     constructor
     · rintro (rfl | ⟨x,hx,e⟩)
       · exact ⟨s,.inl rfl,h⟩
       · exact ⟨x,.inr hx,e⟩
     · rintro ⟨x,rfl | hx,e⟩
       · rw [h] at e;cases e;exact .inl rfl
       · exact .inr ⟨x,hx,e⟩
theorem appS_append {t : St} : ∀ {l m : List Sm},appS t (l ++ m) = appS t l ++ appS t m
 | [],m => rfl
 | s :: l,m => by
   rw [List.cons_append]
   show (match s.apply t with | some u => u :: appS t (l ++ m) | none => appS t (l ++ m)) = (match s.apply t with | some u => u :: appS t l | none => appS t l) ++ appS t m
   rw [appS_append]
   cases s.apply t <;> rfl
def OneTo (l : List Sm) : Prop:=∀ x ∈ l,∀ y ∈ l,x.to = y.to
theorem appS_even {t : St} {l : List Sm} (h : OneTo l) : Even (appS t l):=fun u hu => by
 obtain ⟨s,hs,e⟩:=mem_appS.1 hu
 have h1:=Sm.apply_R e
 refine ⟨h1.1,fun v hv => ?_⟩
 obtain ⟨s',hs',e'⟩:=mem_appS.1 hv
 have h2:=Sm.apply_R e'
 rw [h1.2.1,h2.2.1]
 exact h s hs s' hs'
section
variable {g : List Nd} {i n f : Nat} {l l' : List (Nat × Sm)} {x z : Nd}
def AllOf (g : List Nd) (i : Nat) (l : List (Nat × Sm)) : Prop:=∀ n s,(n,s) ∈ l ↔ Arr g i n s
theorem AllOf.at_ (h : AllOf g i l) {s : Sm} : s ∈ atA n l ↔ Arr g i n s:=mem_atA.trans (h n s)
theorem AllOf.ends (hg : Fine g) (h : AllOf g i l) (hx : g[i]? = some x) (hz : g[n]? = some z) {s : Sm} (hs : s ∈ waysS (atA n l)) :
 s.R ∧ s.fr = x.d ∧ ∃ j y,z.ins[0]? = some ((j : Nat) : Int) ∧ g[j]? = some y ∧ s.to = y.d:=by
 have ha:=h.at_.1 (mem_waysS.1 hs).1
 obtain ⟨hr,⟨x',hx',e1⟩,j,y,hy,hf,e2⟩:=ha.ends hg
 rw [hx] at hx'
 cases hx'
 obtain ⟨z',hz',hm⟩:=hf
 rw [hz] at hz'
 cases hz'
 refine ⟨hr,e1,?_⟩
 obtain ⟨c,hc⟩ : ∃ c,z.ins[0]? = some c:=by
  cases h0 : z.ins with
  | nil => rw [h0] at hm;cases hm
  | cons c r => exact ⟨c,rfl⟩
 obtain ⟨h0,m,hm2,_⟩:=(hg n z hz).2.1.1 c (List.mem_of_getElem? hc)
 refine ⟨c.toNat,m,by rw [hc];congr 1;omega,hm2,?_⟩
 rw [ha.to_eq hg hz]
 exact (hg n z hz).2.2.2 c (List.mem_of_getElem? hc) m hm2
theorem AllOf.cover {P : Nat → Sm → Prop} (h : AllOf g i l) (hP : Cov g i P) {p : List Sm} (hp : ∀ s,s ∈ p ↔ P n s) : waysS p = waysS (atA n l) :=
 waysS_cover (fun s hs => h.at_.2 (hP.sound n s ((hp s).1 hs))) fun s hs hr => by
  obtain ⟨t,ht,hl⟩:=hP.covers (h.at_.1 hs)
  exact ⟨t,(hp t).2 ht,hl⟩
theorem Fine.smOk (hg : Fine g) (hx : g[n]? = some x) (h7 : x.k = 7 → 1 ≤ x.d) (h8 : x.k = 8 → x.d ≤ 2) : x.smOk:=by
 have hd:=hg.deep hx
 obtain ⟨h1,h2,h3⟩:=hg n x hx
 have hk : 1 ≤ x.k ∧ x.k ≤ 10:=by
  unfold Nd.num at h1
  split at h1
  · omega
  split at h1
  · omega
  split at h1
  · omega
  split at h1
  · omega
  have:=of_decide_eq_true h1
  exact ⟨this.1,this.2.1⟩
 have h9 : x.k = 9 → 1 ≤ x.d:=by
  have:=h3.1
  unfold Nd.deepB at this
  exact (of_decide_eq_true this).2.2.2
 refine ⟨hk.1,hk.2,?_⟩
 unfold Nd.sm
 split
 · have:=h7 (by assumption)
   unfold Sm.R;refine ⟨⟨?_,?_⟩,⟨?_,?_⟩,⟨?_,?_,?_⟩,⟨?_,?_,?_⟩,⟨?_,?_,?_⟩,⟨?_,?_,?_⟩,⟨?_,?_,?_⟩⟩ <;> first | (dsimp only;omega) | (intro _;first | trivial | (dsimp only;omega))
 split
 · have:=h8 (by assumption)
   unfold Sm.R;refine ⟨⟨?_,?_⟩,⟨?_,?_⟩,⟨?_,?_,?_⟩,⟨?_,?_,?_⟩,⟨?_,?_,?_⟩,⟨?_,?_,?_⟩,⟨?_,?_,?_⟩⟩ <;> first | (dsimp only;omega) | (intro _;first | trivial | (dsimp only;omega))
 split
 · have:=h9 (by assumption)
   unfold Sm.R;refine ⟨⟨?_,?_⟩,⟨?_,?_⟩,⟨?_,?_,?_⟩,⟨?_,?_,?_⟩,⟨?_,?_,?_⟩,⟨?_,?_,?_⟩,⟨?_,?_,?_⟩⟩ <;> first | (dsimp only;omega) | (intro h0;first | trivial | (dsimp only at h0 ⊢;omega))
 · exact idS_R hd.1 hd.2
end
end

section
def Outp (g : List Nd) (i j : Nat) (u : Sm) : Prop:=(j = i ∧ ∃ x,g[i]? = some x ∧ u = idS x.d) ∨ ∃ t x,Arr g i j t ∧ g[j]? = some x ∧ x.smOk ∧ t.thenOk x.sm ∧ u = t.seq x.sm
theorem Outp.fed {g : List Nd} {i j m : Nat} {u : Sm} (h : Outp g i j u) (hf : Fd g j m) : Arr g i m u:=by
 rcases h with ⟨rfl,x,hx,rfl⟩ | ⟨t,x,ha,hx,ho,ht,rfl⟩
 · exact .first hx hf
 · exact .on ha hx ho ht hf
theorem Fine.fedOk {g : List Nd} {j m : Nat} {x : Nd} (hg : Fine g) (hf : Fd g j m) (hx : g[m]? = some x) : x.smOk:=by
 obtain ⟨y,hy⟩ : ∃ y,g[j]? = some y:=⟨_,List.getElem?_eq_getElem (hf.from_lt hg)⟩
 have h1:=hg.fed hy hf hx
 have h2:=hg.deep hy
 unfold Nd.more at h1
 refine hg.smOk hx (fun e => ?_) fun e => ?_
 · rw [if_pos e] at h1;omega
 · rw [if_neg (by omega),if_pos e] at h1;omega
theorem Arr.fd {g : List Nd} {i n : Nat} {s : Sm} (h : Arr g i n s) : ∃ j,Fd g j n:=by
 cases h with
 | first hx hf => exact ⟨_,hf⟩
 | on h hx ho ht hf => exact ⟨_,hf⟩
theorem Arr.smOk {g : List Nd} {i n : Nat} {s : Sm} {x : Nd} (hg : Fine g) (h : Arr g i n s) (hx : g[n]? = some x) : x.smOk:=by
 obtain ⟨j,hf⟩:=h.fd
 exact hg.fedOk hf hx
def CovAt (T : List (List Sm)) (n : Nat) (u : Sm) : Prop:=∃ l t,T[n]? = some l ∧ t ∈ l ∧ t.L u
def DoneAt (g : List Nd) (T : List (List Sm)) (j : Nat) (u : Sm) : Prop:=∀ m,Fd g j m → CovAt T m u
structure Run (g : List Nd) (i : Nat) (T : List (List Sm)) (D Q : List (Nat × Sm)) : Prop where
 len : T.length = g.length
 nodup : D.Nodup
 dsound : ∀ (n : Nat) (s : Sm),(n,s) ∈ D → Arr g i n s
 sub : ∀ (n : Nat) (l : List Sm) (s : Sm),T[n]? = some l → s ∈ l → (n,s) ∈ D
 cov : ∀ (n : Nat) (s : Sm),(n,s) ∈ D → CovAt T n s
 self : ∀ (n : Nat) (l : List Sm),T[n]? = some l → waysS l = l
 outs : ∀ (j : Nat) (u : Sm),(j,u) ∈ Q → Outp g i j u
 first : ∀ x,g[i]? = some x → (i,idS x.d) ∈ Q ∨ DoneAt g T i (idS x.d)
 on : ∀ (n : Nat) (s : Sm) (x : Nd),(n,s) ∈ D → g[n]? = some x → x.smOk → s.thenOk x.sm → (n,s.seq x.sm) ∈ Q ∨ DoneAt g T n (s.seq x.sm)
section
variable {g : List Nd} {i j m n q : Nat} {T : List (List Sm)} {D Q : List (Nat × Sm)} {l : List Sm} {s u : Sm} {x : Nd}
theorem Run.start (hx : g[i]? = some x) : Run g i (List.replicate g.length []) [] [(i,idS x.d)] where
 len:=List.length_replicate
 nodup:=List.nodup_nil
 dsound:=fun n s h => by cases h
 sub:=fun n l s h hs => by
  have:=List.mem_of_getElem? h
  rw [List.mem_replicate] at this
  rw [this.2] at hs
  cases hs
 cov:=fun n s h => by cases h
 self:=fun n l h => by
  have:=List.mem_of_getElem? h
  rw [List.mem_replicate] at this
  rw [this.2]
  rfl
 outs:=fun j u h => by
  have:=List.mem_singleton.1 h
  injection this with e1 e2
  subst e1;subst e2
  exact .inl ⟨rfl,x,hx,rfl⟩
 first:=fun y hy => by
  rw [hx] at hy;cases hy
  exact .inl List.mem_cons_self
 on:=fun n s y h => by cases h
theorem DoneAt.mono {T' : List (List Sm)} (hc : ∀ n u,CovAt T n u → CovAt T' n u) (h : DoneAt g T j u) : DoneAt g T' j u:=fun m hf => hc m u (h m hf)
theorem CovAt.set (hg : Fine g) (h : Run g i T D Q) (hl : T[m]? = some l) {s : Sm} {n : Nat} {u : Sm} (hc : CovAt T n u) : CovAt (T.set m (waysS (l ++ [s]))) n u:=by
 obtain ⟨l',t,hl',ht,hu⟩:=hc
 by_cases e : m = n
 · subst e
   rw [hl] at hl'
   cases hl'
   have hr:=((h.dsound m t (h.sub m l t hl ht)).ends hg).1
   obtain ⟨y,hy,hyt⟩:=waysS_covers (l:=l ++ [s]) (List.mem_append_left _ ht) hr
   exact ⟨_,y,by rw [List.getElem?_set_self (List.getElem?_eq_some_iff.1 hl).1],hy,Sm.L_trans hyt hu⟩
 · exact ⟨l',t,by rw [List.getElem?_set_ne e];exact hl',ht,hu⟩
theorem CovAt.put (hr : s.R) (hl : T[m]? = some l) : CovAt (T.set m (waysS (l ++ [s]))) m s:=by
 obtain ⟨y,hy,hyt⟩:=waysS_covers (l:=l ++ [s]) (List.mem_append_right _ List.mem_cons_self) hr
 exact ⟨_,y,by rw [List.getElem?_set_self (List.getElem?_eq_some_iff.1 hl).1],hy,hyt⟩
theorem Run.add (hg : Fine g) (h : Run g i T D Q) (ha : Arr g i m s) (hx : g[m]? = some x) (hl : T[m]? = some l) (hno : ∀ t ∈ l,¬ t.L s) :
 Run g i (T.set m (waysS (l ++ [s]))) (D ++ [(m,s)]) (if s.thenOk x.sm then Q ++ [(m,s.seq x.sm)] else Q):=by
 have hr:=(ha.ends hg).1
 have hQ : ∀ a ∈ Q,a ∈ (if s.thenOk x.sm then Q ++ [(m,s.seq x.sm)] else Q):=fun a ha => by
  split
  · exact List.mem_append_left _ ha
  · exact ha
 have hc : ∀ n u,CovAt T n u → CovAt (T.set m (waysS (l ++ [s]))) n u:=fun n u => CovAt.set hg h hl
 have hml : m < T.length:=(List.getElem?_eq_some_iff.1 hl).1
 constructor
 · rw [List.length_set];exact h.len
 · rw [List.nodup_append]
   refine ⟨h.nodup,by simp,fun a ha b hb e => ?_⟩
   have:=List.mem_singleton.1 hb
   subst this;subst e
   obtain ⟨l',t,hl',ht,hts⟩:=h.cov m s ha
   rw [hl] at hl'
   cases hl'
   exact hno t ht hts
 · intro n t ht
   rcases List.mem_append.1 ht with ht | ht
   · exact h.dsound n t ht
   · have:=List.mem_singleton.1 ht
     injection this with e1 e2
     subst e1;subst e2
     exact ha
 · intro n l' t hl' ht
   by_cases e : m = n
   · subst e
     rw [List.getElem?_set_self hml] at hl'
     cases hl'
     rcases List.mem_append.1 (mem_waysS.1 ht).1 with h2 | h2
     · exact List.mem_append_left _ (h.sub m l t hl h2)
     · rw [List.mem_singleton.1 h2];exact List.mem_append_right _ List.mem_cons_self
   · rw [List.getElem?_set_ne e] at hl'
     exact List.mem_append_left _ (h.sub n l' t hl' ht)
 · intro n t ht
   rcases List.mem_append.1 ht with ht | ht
   · exact hc n t (h.cov n t ht)
   · have:=List.mem_singleton.1 ht
     injection this with e1 e2
     subst e1;subst e2
     exact CovAt.put hr hl
 · intro n l' hl'
   by_cases e : m = n
   · subst e
     rw [List.getElem?_set_self hml] at hl'
     cases hl'
     exact waysS_self
   · rw [List.getElem?_set_ne e] at hl'
     exact h.self n l' hl'
 · intro j' u' hm
   by_cases ht : s.thenOk x.sm
   · rw [if_pos ht] at hm
     rcases List.mem_append.1 hm with hm | hm
     · exact h.outs j' u' hm
     · have:=List.mem_singleton.1 hm
       injection this with e1 e2
       subst e1;subst e2
       exact .inr ⟨s,x,ha,hx,ha.smOk hg hx,ht,rfl⟩
   · rw [if_neg ht] at hm
     exact h.outs j' u' hm
 · intro y hy
   rcases h.first y hy with h2 | h2
   · exact .inl (hQ _ h2)
   · exact .inr (h2.mono hc)
 · intro n t y ht hy ho hto
   rcases List.mem_append.1 ht with ht | ht
   · rcases h.on n t y ht hy ho hto with h2 | h2
     · exact .inl (hQ _ h2)
     · exact .inr (h2.mono hc)
   · have:=List.mem_singleton.1 ht
     injection this with e1 e2
     subst e1;subst e2
     rw [hx] at hy
     cases hy
     rw [if_pos hto]
     exact .inl (List.mem_append_right _ List.mem_cons_self)
theorem Run.pop (h : Run g i T D ((j,u) :: Q)) (hd : DoneAt g T j u) : Run g i T D Q where
 len:=h.len
 nodup:=h.nodup
 dsound:=h.dsound
 sub:=h.sub
 cov:=h.cov
 self:=h.self
 outs:=fun j' u' hm => h.outs j' u' (List.mem_cons_of_mem _ hm)
 first:=fun y hy => by
  rcases h.first y hy with h2 | h2
  · rcases List.mem_cons.1 h2 with e | h2
    · injection e with e1 e2
      rw [e1,e2];exact .inr hd
    · exact .inl h2
  · exact .inr h2
 on:=fun n t y ht hy ho hto => by
  rcases h.on n t y ht hy ho hto with h2 | h2
  · rcases List.mem_cons.1 h2 with e | h2
    · injection e with e1 e2
      rw [e1,e2];exact .inr hd
    · exact .inl h2
  · exact .inr h2
def UptoP (T : List (List Sm)) (ps : List (Nat × Nat)) (q : Nat) (u : Sm) : Prop:=∀ p m z,p < q → ps[p]? = some (m,z) → CovAt T m u
theorem UptoP.none {ps : List (Nat × Nat)} : UptoP T ps 0 u:=fun p m z h => absurd h (Nat.not_lt_zero _)
theorem UptoP.step {ps : List (Nat × Nat)} {z : Nat} (h : UptoP T ps q u) (hq : ps[q]? = some (m,z)) (hc : CovAt T m u) : UptoP T ps (q + 1) u:=fun p m' z' hp hm => by
 rcases Nat.lt_succ_iff_lt_or_eq.1 hp with hp | rfl
 · exact h p m' z' hp hm
 · rw [hq] at hm
   cases hm
   exact hc
theorem UptoP.mono {T' : List (List Sm)} {ps : List (Nat × Nat)} (h : UptoP T ps q u) (hc : ∀ n u,CovAt T n u → CovAt T' n u) : UptoP T' ps q u:=fun p m z hp hm => hc m u (h p m z hp hm)
theorem UptoP.all {ps : List (Nat × Nat)} (hps : toG ((j : Nat) : Int) 0 g = ps) (h : UptoP T ps ps.length u) : DoneAt g T j u:=fun m hf => by
 obtain ⟨⟨m',z⟩,hp,e⟩:=toG_fd.2 hf
 simp only at e
 subst e
 rw [hps] at hp
 obtain ⟨p,hp⟩:=List.getElem?_of_mem hp
 exact h p _ z (List.getElem?_eq_some_iff.1 hp).1 hp
theorem Run.coverP (h : Run g i T D []) : Cov g i (fun n s => ∃ l,T[n]? = some l ∧ s ∈ l) where
 sound:=fun n s ⟨l,hl,hs⟩ => h.dsound n s (h.sub n l s hl hs)
 first:=fun n x hx hf => by
  rcases h.first x hx with h2 | h2
  · cases h2
  · obtain ⟨l,t,hl,ht,hu⟩:=h2 n hf
    exact ⟨t,⟨l,hl,ht⟩,hu⟩
 on:=fun n m s x ⟨l,hl,hs⟩ hx ho ht hf => by
  rcases h.on n s x (h.sub n l s hl hs) hx ho ht with h2 | h2
  · cases h2
  · obtain ⟨l',t,hl',ht',hu⟩:=h2 m hf
    exact ⟨t,⟨l',hl',ht'⟩,hu⟩
theorem Run.ends {L : List (Nat × Sm)} (h : Run g i T D []) (hL : AllOf g i L) (hl : T[n]? = some l) : l = waysS (atA n L):=by
 rw [← h.self n l hl]
 exact hL.cover h.coverP fun s => ⟨fun hs => ⟨l,hl,hs⟩,fun ⟨l',hl',hs⟩ => by rw [hl] at hl';cases hl';exact hs⟩
/-! how many there may be -/
theorem arr_bound (hg : Fine g) {D : List (Nat × Sm)} (hn : D.Nodup) (hs : ∀ (n : Nat) (s : Sm),(n,s) ∈ D → Arr g i n s) : D.length ≤ g.length * 4194304:=by
 have hr : ∀ a ∈ D,a.1 < g.length ∧ a.2.R:=fun a ha => ⟨(hs a.1 a.2 ha).lt,((hs a.1 a.2 ha).ends hg).1⟩
 have h1:=pigeon (g.length * 4194304) (D.map fun a => a.1 * 4194304 + a.2.code) (nodup_map _ D hn fun a ha b hb e => by
  have ha2:=hr a ha
  have hb2:=hr b hb
  have h3:=Sm.code_lt ha2.2
  have h4:=Sm.code_lt hb2.2
  have e1 : a.1 = b.1:=by omega
  have e2 : a.2.code = b.2.code:=by omega
  exact Prod.ext e1 (Sm.code_inj ha2.2 hb2.2 e2)) fun x hx => by
  obtain ⟨a,ha,rfl⟩:=List.mem_map.1 hx
  have ha2:=hr a ha
  have h3:=Sm.code_lt ha2.2
  have : a.1 * 4194304 + 4194304 ≤ g.length * 4194304:=by have:=ha2.1;omega
  omega
 rwa [List.length_map] at h1
theorem sums_bound {l : List Sm} (hn : l.Nodup) (hr : ∀ s ∈ l,s.R) : l.length ≤ 4194304:=by
 have h1:=pigeon 4194304 (l.map Sm.code) (nodup_map _ l hn fun a ha b hb e => Sm.code_inj (hr a ha) (hr b hb) e) fun x hx => by
  obtain ⟨a,ha,rfl⟩:=List.mem_map.1 hx
  exact Sm.code_lt (hr a ha)
 rwa [List.length_map] at h1
theorem waysS_bound (l : List Sm) : (waysS l).length ≤ 4194304 :=
 sums_bound ((waysIn_sort l l).imp fun h e => by subst e;exact Sm.A_irrefl h) fun s hs => (mem_waysS.1 hs).2.1
theorem Run.bound (hg : Fine g) (h : Run g i T D Q) : D.length ≤ g.length * 4194304:=arr_bound hg h.nodup h.dsound
theorem Run.row (h : Run g i T D Q) (hl : T[n]? = some l) : l.length ≤ 4194304:=by
 rw [← h.self n l hl];exact waysS_bound l
end
theorem exists_least {R : Nat → Prop} (h : ∃ n,R n) : ∃ n,R n ∧ ∀ m,R m → n ≤ m:=by
 obtain ⟨n,hn⟩:=h
 induction n using Nat.strongRecOn with
 | _ n ih =>
   by_cases e : ∃ m,m < n ∧ R m
   · obtain ⟨m,hm,hr⟩:=e
     exact ih m hm hr
   · exact ⟨n,hn,fun m hm => by
      rcases Nat.lt_or_ge m n with h2 | h2
      · exact absurd ⟨m,h2,hm⟩ e
      · exact h2⟩
open Classical in
noncomputable def leastN (R : Nat → Prop) : Nat:=if h : ∃ n,R n then Classical.choose (exists_least h) else 0
theorem leastN_is {R : Nat → Prop} (h : ∃ n,R n) : R (leastN R):=by
 unfold leastN;rw [dif_pos h];exact (Classical.choose_spec (exists_least h)).1
theorem leastN_le {R : Nat → Prop} {n : Nat} (h : R n) : leastN R ≤ n:=by
 unfold leastN;rw [dif_pos ⟨n,h⟩];exact (Classical.choose_spec (exists_least ⟨n,h⟩)).2 n h
end

section
structure Sl where
 A : Option Addr
 n : Nat
 c : Nat
@[reducible] def Sl.v (s : Sl) : Value:=.slice s.A s.n s.c
def slv (vs : List Sl) : List Value:=vs.map Sl.v
theorem slv_at {vs : List Sl} {i : Nat} {s : Sl} (h : vs[i]? = some s) : (slv vs)[i]? = some s.v:=by unfold slv;rw [List.getElem?_map,h];rfl
theorem slv_set (vs : List Sl) (i : Nat) (s : Sl) : slv (vs.set i s) = (slv vs).set i s.v:=by unfold slv;exact List.map_set
structure TT (w : World) (base B : Nat) (vs : List Sl) (T : List (List Sm)) : Prop where
 row : Row w B 75 (slv vs)
 lo : base ≤ B
 len : vs.length = T.length
 own : ∀ (j : Nat) (s : Sl) (l : List Sm),vs[j]? = some s → T[j]? = some l → w.ownsRow base 82 7 s.v l.length (Mx.rowS l)
 apart : ∀ (j k : Nat) (s t : Sl),j ≠ k → vs[j]? = some s → vs[k]? = some t → s.v.ownBlock = none ∨ s.v.ownBlock ≠ t.v.ownBlock
def TOff (vs : List Sl) (g : Nat) : Prop:=∀ (j : Nat) (s : Sl),vs[j]? = some s → s.v.ownBlock ≠ some g
section
variable {w w' w1 w2 : World} {base B i : Nat} {vs : List Sl} {T : List (List Sm)} {s : Sl} {l : List Sm}
theorem own_apartM {b n : Nat} {t : TypeId} {v : Value} {us : List Value} (h : w.ownsRow base 82 7 v n (Mx.rowS l)) (hr : Row w b t us) (ht : t ≠ 82) : v.ownBlock = none ∨ v.ownBlock ≠ some b:=by
 have:=Rw.own_apart h hr ht
 exact .inr fun e => this e.symm
theorem own_keptM {n : Nat} {v : Value} (h : w.ownsRow base 82 7 v n (Mx.rowS l)) (hb : Below w.heap.size w w') : w'.ownsRow base 82 7 v n (Mx.rowS l):=Rw.own_kept h hb
theorem TT.below (h : TT w base B vs T) (hb : Below w.heap.size w w') : TT w' base B vs T :=
 ⟨h.row.below hb h.row.lt,h.lo,h.len,fun j s l hs hl => Rw.own_kept (h.own j s l hs hl) hb,h.apart⟩
theorem TT.alloc (h : TT w base B vs T) (o : Obj) : TT (w.alloc o) base B vs T:=h.below ((Below.refl _ _).alloc (Nat.le_refl _) _)
theorem TT.grown {row : Option Nat} (h : TT w base B vs T) (hg : w.grownBy w' row) (hB : row ≠ some B) (ho : ∀ (j : Nat) (s : Sl),vs[j]? = some s → s.v.ownBlock = none ∨ s.v.ownBlock ≠ row) : TT w' base B vs T :=
 ⟨h.row.grown hg (fun e => hB e.symm),h.lo,h.len,fun j s l hs hl => (h.own j s l hs hl).kept hg (ho j s hs),h.apart⟩
theorem TT.lt (h : TT w base B vs T) {j : Nat} {s : Sl} (hs : vs[j]? = some s) : ∀ k,s.v.ownBlock = some k → base ≤ k ∧ k < w.heap.size:=by
 obtain ⟨l,hl⟩ : ∃ l,T[j]? = some l:=⟨_,List.getElem?_eq_getElem (by have:=(List.getElem?_eq_some_iff.1 hs).1;have:=h.len;omega)⟩
 exact (h.own j s l hs hl).lt
theorem TT.off_new (h : TT w base B vs T) : TOff vs w.heap.size:=fun j s hs e => by
 have:=(h.lt hs _ e).2;omega
theorem TT.get (h : TT w base B vs T) (hl : T[i]? = some l) : ∃ s,vs[i]? = some s ∧ s.n = l.length ∧ w.ownsRow base 82 7 s.v l.length (Mx.rowS l) ∧ w.cell? ⟨B,i,none⟩ = some s.v:=by
 obtain ⟨s,hs⟩ : ∃ s,vs[i]? = some s:=⟨_,List.getElem?_eq_getElem (by have:=(List.getElem?_eq_some_iff.1 hl).1;have:=h.len;omega)⟩
 have ho:=h.own i s l hs hl
 refine ⟨s,hs,?_,ho,by rw [h.row.cell];exact slv_at hs⟩
 rcases ho.2 with ⟨e,h0⟩ | ⟨g,cap,cur,e,_⟩
 · injection e with e1 e2 e3
   rw [e2,h0]
 · injection e with e1 e2 e3
theorem TT.step (h : TT w base B vs T) (hs : vs[i]? = some s) (hl : T[i]? = some l) (hg : w.grownBy w1 s.v.ownBlock) (hb : Below w1.heap.size w1 w2) {s2 : Sl} {l2 : List Sm} (hn : w2.ownsRow w1.heap.size 82 7 s2.v l2.length (Mx.rowS l2)) (hbase : base ≤ w.heap.size) :
 TT (w2.setCell ⟨B,i,none⟩ s2.v) base B (vs.set i s2) (T.set i l2):=by
 have hiv : i < vs.length:=(List.getElem?_eq_some_iff.1 hs).1
 have hiT : i < T.length:=(List.getElem?_eq_some_iff.1 hl).1
 have hB : s.v.ownBlock ≠ some B:=fun e => by
  rcases own_apartM (h.own i s l hs hl) h.row (by decide) with e2 | e2
  · rw [e2] at e;cases e
  · exact e2 e
 have hr1 : Row w1 B 75 (slv vs):=h.row.grown hg (fun e => hB e.symm)
 have hr2 : Row w2 B 75 (slv vs):=hr1.below hb hr1.lt
 have hset:=grown_set w2 B i s2.v
 have hnB : s2.v.ownBlock = none ∨ s2.v.ownBlock ≠ some B:=own_apartM hn hr2 (by decide)
 have hnew : ∀ k,s2.v.ownBlock = some k → w.heap.size ≤ k:=fun k e => Nat.le_trans hg.size (hn.lt k e).1
 refine ⟨by rw [slv_set];exact hr2.put i s2.v,h.lo,by rw [List.length_set,List.length_set];exact h.len,fun j s' l' hs' hl' => ?_,fun j k s' t' hjk hs' ht' => ?_⟩
 · by_cases e : i = j
   · subst e
     rw [List.getElem?_set_self hiv] at hs'
     rw [List.getElem?_set_self hiT] at hl'
     cases hs';cases hl'
     exact (hn.mono (Nat.le_trans hbase hg.size)).kept hset hnB
   · rw [List.getElem?_set_ne e] at hs' hl'
     have h1:=(h.own j s' l' hs' hl').kept hg (h.apart j i s' s (fun e2 => e e2.symm) hs' hs)
     have h2 : w2.ownsRow base 82 7 s'.v l'.length (Mx.rowS l'):=Rw.own_kept h1 hb
     exact h2.kept hset (own_apartM h2 hr2 (by decide))
 · by_cases e : i = j
   · subst e
     rw [List.getElem?_set_self hiv] at hs'
     cases hs'
     rw [List.getElem?_set_ne hjk] at ht'
     cases hv : s2.v.ownBlock with
     | none => exact .inl rfl
     | some b =>
       right
       intro e2
       have h1:=hnew b hv
       have h2:=(h.lt ht' b e2.symm).2
       omega
   · rw [List.getElem?_set_ne e] at hs'
     by_cases e3 : i = k
     · subst e3
       rw [List.getElem?_set_self hiv] at ht'
       cases ht'
       cases hv : s'.v.ownBlock with
       | none => exact .inl rfl
       | some b =>
         right
         intro e2
         have h1:=hnew b e2.symm
         have h2:=(h.lt hs' b hv).2
         omega
     · rw [List.getElem?_set_ne e3] at ht'
       exact h.apart j k s' t' hjk hs' ht'
theorem TOff.set {g : Nat} (h : TOff vs g) {s2 : Sl} (hn : s2.v.ownBlock ≠ some g) : TOff (vs.set i s2) g:=fun j s hs => by
 by_cases e : i = j
 · subst e
   by_cases hi : i < vs.length
   · rw [List.getElem?_set_self hi] at hs;cases hs;exact hn
   · rw [List.getElem?_eq_none (by rw [List.length_set];omega)] at hs;cases hs
 · rw [List.getElem?_set_ne e] at hs;exact h j s hs
theorem TT.start {n : Nat} (h : Row w B 75 (List.replicate n (.slice none 0 0))) (hB : base ≤ B) : TT w base B (List.replicate n ⟨none,0,0⟩) (List.replicate n []):=by
 refine ⟨by unfold slv;rw [List.map_replicate];exact h,hB,by rw [List.length_replicate,List.length_replicate],fun j s l hs hl => ?_,fun j k s t _ hs _ => ?_⟩
 · have h1:=List.mem_of_getElem? hs
   have h2:=List.mem_of_getElem? hl
   rw [List.mem_replicate] at h1 h2
   rw [h1.2,h2.2]
   exact World.ownsRow_nil _ _ _ _
 · have h1:=List.mem_of_getElem? hs
   rw [List.mem_replicate] at h1
   rw [h1.2]
   exact .inl rfl
end
def kindW : Kind (Nat × Sm):=⟨fun a => [.int .i64 (a.1 : Nat),.int .i64 a.2.fr,.int .i64 a.2.to,.int .i64 a.2.kp,.int .i64 a.2.ad,.int .i64 a.2.t0,.int .i64 a.2.t1,.int .i64 a.2.t2],8,fun _ => rfl,fun t u hu => by
 simp only [List.mem_cons,List.not_mem_nil,or_false] at hu
 rcases hu with rfl | rfl | rfl | rfl | rfl | rfl | rfl | rfl <;> rfl,by decide⟩
theorem infoWay : (Tryz.prog.info? 225).map (fun i => (i.zero,i.size,i.bytes)) = some (some (.agg #[.int .i64 0,.int .i64 0,.int .i64 0,.int .i64 0,.int .i64 0,.int .i64 0,.int .i64 0,.int .i64 0]),8,64):=by kernel_rfl
theorem infoSums : (Tryz.prog.info? 75).map (fun i => (i.zero,i.size,i.bytes)) = some (some (.slice none 0 0),1,24):=by kernel_rfl
end

section
def eqS (a b : Sm) : Bool:=decide (a = b)
theorem cells_sum : Tryz.prog.cellsOf 82 = 7:=by kernel_rfl
end

section
end

section
def kindS : Kind Sm:=⟨Sm.cells,7,fun _ => rfl,fun t u hu => by
 simp only [Sm.cells,List.mem_cons,List.not_mem_nil,or_false] at hu
 rcases hu with rfl | rfl | rfl | rfl | rfl | rfl | rfl <;> rfl,by decide⟩
end

section
end

section
end

section
set_option maxHeartbeats 1000000 in
theorem then_A (a b : Sm) (w : World) (h : ¬ a.R) : Calls Tryz.prog 46 #[a.v,b.v] w fun e w' => e = .returned (.tuple #[(a.th b).v,.bool (a.thB b)]) ∧ Below w.heap.size w w':=by
 obtain ⟨q1,q2⟩:=Sm.th_no (a:=a) (b:=b) (fun g => h g.1)
 rw [q1,q2];clear q1 q2
 have h3:=Tri2.made w 82 a b
 have hbw:=ba3 w a b 82
 have H3:=Hd h3;have HB:=Hd hbw;clear h3 hbw
 have r1:=fun w => rightM_false h w
 have R1:=Hd r1;clear r1
 clear h
 unfold Sm.v at *
 go_enter Tryz.func46,Tryz.ntmps46
 go_wp2_with fail
 refine (R1.out _).mono ?_;rintro e w2 ⟨rfl,hb2⟩
 have k3:=H3.out.below hb2
 have kb:=HB.out.trans (hb2.mono HB.out.size);clear H3 HB
 have H3:=Hd k3;have HB:=Hd kb;clear k3 kb hb2
 obtain ⟨f0,f1,f2,f3,f4,f5,f6⟩:=H3.out.2.2.free7
 obtain ⟨z0,z1,z2,z3,z4,z5,z6⟩:=H3.out.2.2.cells7
 go_wp2_with fail
 refine bodyPost_ret (v:=.tuple #[.agg #[.int .i64 0,.int .i64 0,.int .i64 0,.int .i64 0,.int .i64 0,.int .i64 0,.int .i64 0],.bool false]) (two_results rfl _ _ _ 82 _ (0,0) _ rfl (row_set7 H3.out.2.2) Tryz.underlying82 rfl (by kernel_rfl) rfl) rfl ?_
 exact ⟨rfl,below_set7 HB.out (by omega)⟩
set_option maxHeartbeats 1000000 in
theorem then_B (a b : Sm) (w : World) (h : a.R) (h2 : ¬ b.R) : Calls Tryz.prog 46 #[a.v,b.v] w fun e w' => e = .returned (.tuple #[(a.th b).v,.bool (a.thB b)]) ∧ Below w.heap.size w w':=by
 obtain ⟨q1,q2⟩:=Sm.th_no (a:=a) (b:=b) (fun g => h2 g.2.1)
 rw [q1,q2];clear q1 q2
 have h3:=Tri2.made w 82 a b
 have hbw:=ba3 w a b 82
 have H3:=Hd h3;have HB:=Hd hbw;clear h3 hbw
 have r1:=fun w => rightM_true h w
 have r2:=fun w => rightM_false h2 w
 have R1:=Hd r1;have R2:=Hd r2;clear r1 r2
 clear h h2
 unfold Sm.v at *
 go_enter Tryz.func46,Tryz.ntmps46
 go_wp2_with fail
 refine (R1.out _).mono ?_;rintro e w2 ⟨rfl,hb2⟩
 have k3:=H3.out.below hb2
 have kb:=HB.out.trans (hb2.mono HB.out.size);clear H3 HB
 have H3:=Hd k3;have HB:=Hd kb;clear k3 kb hb2
 obtain ⟨a0,a1,a2,a3,a4,a5,a6⟩:=H3.out.1.cells7
 obtain ⟨b0,b1,b2,b3,b4,b5,b6⟩:=H3.out.2.1.cells7
 go_wp2_with fail
 clear a0 a1 a2 a3 a4 a5 a6 b0 b1 b2 b3 b4 b5 b6
 refine (R2.out _).mono ?_;rintro e w3 ⟨rfl,hb3⟩
 have k3:=H3.out.below hb3
 have kb:=HB.out.trans (hb3.mono HB.out.size);clear H3 HB
 have H3:=Hd k3;have HB:=Hd kb;clear k3 kb hb3
 obtain ⟨f0,f1,f2,f3,f4,f5,f6⟩:=H3.out.2.2.free7
 obtain ⟨z0,z1,z2,z3,z4,z5,z6⟩:=H3.out.2.2.cells7
 go_wp2_with fail
 refine bodyPost_ret (v:=.tuple #[.agg #[.int .i64 0,.int .i64 0,.int .i64 0,.int .i64 0,.int .i64 0,.int .i64 0,.int .i64 0],.bool false]) (two_results rfl _ _ _ 82 _ (0,0) _ rfl (row_set7 H3.out.2.2) Tryz.underlying82 rfl (by kernel_rfl) rfl) rfl ?_
 exact ⟨rfl,below_set7 HB.out (by omega)⟩
set_option maxHeartbeats 1000000 in
theorem then_C (a b : Sm) (w : World) (h : a.R) (h2 : b.R) (hd : ¬ a.to = b.fr) : Calls Tryz.prog 46 #[a.v,b.v] w fun e w' => e = .returned (.tuple #[(a.th b).v,.bool (a.thB b)]) ∧ Below w.heap.size w w':=by
 obtain ⟨q1,q2⟩:=Sm.th_no (a:=a) (b:=b) (fun g => hd g.2.2.1)
 rw [q1,q2];clear q1 q2
 have h3:=Tri2.made w 82 a b
 have hbw:=ba3 w a b 82
 have H3:=Hd h3;have HB:=Hd hbw;clear h3 hbw
 have r1:=fun w => rightM_true h w
 have r2:=fun w => rightM_true h2 w
 have hn : (a.to != b.fr) = true:=by simpa using hd
 have R1:=Hd r1;have R2:=Hd r2;clear r1 r2
 clear h h2 hd
 unfold Sm.v at *
 go_enter Tryz.func46,Tryz.ntmps46
 go_wp2_with fail
 refine (R1.out _).mono ?_;rintro e w2 ⟨rfl,hb2⟩
 have k3:=H3.out.below hb2
 have kb:=HB.out.trans (hb2.mono HB.out.size);clear H3 HB
 have H3:=Hd k3;have HB:=Hd kb;clear k3 kb hb2
 obtain ⟨a0,a1,a2,a3,a4,a5,a6⟩:=H3.out.1.cells7
 obtain ⟨b0,b1,b2,b3,b4,b5,b6⟩:=H3.out.2.1.cells7
 go_wp2_with fail
 clear a0 a1 a2 a3 a4 a5 a6 b0 b1 b2 b3 b4 b5 b6
 refine (R2.out _).mono ?_;rintro e w3 ⟨rfl,hb3⟩
 have k3:=H3.out.below hb3
 have kb:=HB.out.trans (hb3.mono HB.out.size);clear H3 HB
 have H3:=Hd k3;have HB:=Hd kb;clear k3 kb hb3
 obtain ⟨a0,a1,a2,a3,a4,a5,a6⟩:=H3.out.1.cells7
 obtain ⟨b0,b1,b2,b3,b4,b5,b6⟩:=H3.out.2.1.cells7
 obtain ⟨f0,f1,f2,f3,f4,f5,f6⟩:=H3.out.2.2.free7
 obtain ⟨z0,z1,z2,z3,z4,z5,z6⟩:=H3.out.2.2.cells7
 go_wp2_with fail
 refine bodyPost_ret (v:=.tuple #[.agg #[.int .i64 0,.int .i64 0,.int .i64 0,.int .i64 0,.int .i64 0,.int .i64 0,.int .i64 0],.bool false]) (two_results rfl _ _ _ 82 _ (0,0) _ rfl (row_set7 H3.out.2.2) Tryz.underlying82 rfl (by kernel_rfl) rfl) rfl ?_
 exact ⟨rfl,below_set7 HB.out (by omega)⟩
end

section
end

section
namespace Free
section
variable {P : Program}
def updb (b : Nat → Bool) (i : Nat) : Nat → Bool:=fun j => if j = i then true else b j
def updw (vs : Nat → Value) (i : Nat) (v : Value) : Nat → Value:=fun j => if j = i then v else vs j
theorem updb_self {b : Nat → Bool} {i : Nat} : updb b i i = true:=if_pos rfl
theorem updb_ne {b : Nat → Bool} {i j : Nat} (h : j ≠ i) : updb b i j = b j:=if_neg h
theorem updw_self {vs : Nat → Value} {i : Nat} {v : Value} : updw vs i v i = v:=if_pos rfl
theorem updw_ne {vs : Nat → Value} {i j : Nat} {v : Value} (h : j ≠ i) : updw vs i v j = vs j:=if_neg h
theorem wp_key {id : Nat} {Q : Exit → Act → World → Prop} {a0 : Act} {w0 : World} {l : List Oper} (hm : P.follows .mixedOrders = true) (hB : okG l a0.tmps.size = true)
 (F : (Nat → Bool) → (Nat → Value) → World → Prop) (V : Nat → Value → Prop) (hF : ∀ vs,F (fun i => decide (l.length ≤ i)) vs w0.drew)
 (hstep : ∀ i o,l[i]? = some o → ∀ (b : Nat → Bool) (vs : Nat → Value) (a : Act) (w : World),(∀ t,t ∉ dsts l → a.eval (.tmp t) = a0.eval (.tmp t)) →
   (∀ j oj t,Region.waitsFor .any l.toArray i j = true → l[j]? = some oj → oj.dst = some t → b j = true ∧ a.eval (.tmp t) = vs j ∧ V j (a.eval (.tmp t))) → b i = false → F b vs w →
   Comes P l a o w (fun v w' => V i v ∧ F (updb b i) (updw vs i v) w'))
 (hend : ∀ (vs : Nat → Value) (w' : World),(∀ i,i < l.length → (∀ o,l[i]? = some o → o.dst.isSome = true) → V i (vs i)) → F (fun _ => true) vs w' → Q .normal (puts a0 l 0 vs) w') : (Code.region id l.toArray true).wp P Q a0 w0:=by
 simp only [okG,Bool.and_eq_true,decide_eq_true_eq] at hB
 obtain ⟨⟨hns,hnd⟩,hlt⟩:=hB
 have hlt' : ∀ t ∈ dsts l,t < a0.tmps.size:=fun t ht => by simpa using List.all_eq_true.1 hlt t ht
 let Inv : Array Bool → Act → World → Prop:=fun S a w => a.defers = a0.defers ∧ a.tmps.size = a0.tmps.size ∧ (∀ t,t ∉ dsts l → a.tmps.getD t undef = a0.tmps.getD t undef) ∧
  (∃ vs,F (fun i => S.getD i true) vs w ∧ ∀ i o t,l[i]? = some o → S.getD i false = true → o.dst = some t → a.tmps.getD t undef = vs i) ∧
  ∀ i o t,l[i]? = some o → S.getD i false = true → o.dst = some t → V i (a.tmps.getD t undef)
 have main : ∀ (fuel : Nat) (S : Array Bool) (a : Act) (w : World),S.toList.count false = fuel → Stage.Fit .any l.toArray S → Inv S a w → wpAny P .any l.toArray Q fuel S a w:=by
  intro fuel
  have fin : ∀ (S : Array Bool) (a : Act) (w : World),Stage.Fit .any l.toArray S → (∀ i,S.getD i true = true) → Inv S a w → Q .normal a w:=by
   rintro S a w hFit hS ⟨h1,h2,h3,⟨vs,h4,h4'⟩,h5⟩
   have hSi : ∀ i,i < l.length → S.getD i false = true:=fun i hi => by
    have h1:=hS i
    have : i < S.size:=by rw [hFit.size];simpa using hi
    simp [this] at h1 ⊢;exact h1
   have e : a = puts a0 l 0 vs:=by
    have hp:=puts_size l a0 0 vs
    refine act_ext (h1.trans hp.2.symm) (h2.trans hp.1.symm) (fun t ht => ?_)
    by_cases hm : t ∈ dsts l
    · obtain ⟨o,ho,e⟩:=List.mem_filterMap.1 hm
      obtain ⟨i,hi⟩:=List.getElem?_of_mem ho
      rw [puts_new l a0 0 _ i o t hnd hi e (hlt' t hm),Nat.zero_add]
      exact h4' i o t hi (hSi i (List.getElem?_eq_some_iff.1 hi).1) e
    · rw [puts_old _ _ _ _ _ hm];exact h3 t hm
   rw [e]
   refine hend _ w (fun i hi hd => ?_) (by rw [show (fun i => S.getD i true) = fun _ => true from funext hS] at h4;exact h4)
   have hi' : l[i]? = some l[i]:=List.getElem?_eq_getElem hi
   obtain ⟨t,ht⟩:=Option.isSome_iff_exists.1 (hd _ hi')
   have:=h5 i _ t hi' (hSi i hi) ht
   rwa [h4' i _ t hi' (hSi i hi) ht] at this
  have one : ∀ (S : Array Bool) (a : Act) (w : World) (K : Act → World → Prop),Stage.Fit .any l.toArray S → Inv S a w → ∀ i ∈ Region.ready .any l.toArray S,(∀ a' w',Inv (S.setIfInBounds i true) a' w' → K a' w') → wpOp P l.toArray Q i K a w:=by
   rintro S a w K hFit ⟨h1,h2,h3,⟨vs,h4,h4'⟩,h5⟩ i hi hK
   obtain ⟨hun,o,ho,hall⟩:=mem_ready.1 hi
   have hol : l[i]? = some o:=by simpa using ho
   unfold wpOp
   simp only [ho]
   have hpre : ∀ j oj t,Region.waitsFor .any l.toArray i j = true → l[j]? = some oj → oj.dst = some t → (fun i => S.getD i true) j = true ∧ a.eval (.tmp t) = vs j ∧ V j (a.eval (.tmp t)):=by
    intro j oj t hwt hj hd
    have hc:=Stage.came hi hwt
    have hSj : S.getD j false = true:=by
     have hjl : j < S.size:=by rw [hFit.size];simpa using (List.getElem?_eq_some_iff.1 hj).1
     simp [hjl] at hc ⊢;exact hc
    exact ⟨hc,h4' j oj t hj hSj hd,h5 j oj t hj hSj hd⟩
   have hs:=hstep i o hol _ vs a w (fun t ht => h3 t ht) hpre hun h4
   have hSs : ∀ j,(S.setIfInBounds i true).getD j true = updb (fun i => S.getD i true) i j:=fun j => by
    unfold updb
    by_cases hji : j = i
    · rw [if_pos hji,hji];exact Stage.getD_set_self hun
    · rw [if_neg hji,getD_set_ne true (Ne.symm hji)]
   have step : ∀ v w',(V i v ∧ F (updb (fun i => S.getD i true) i) (updw vs i v) w') → K (a.put o.dst v) w':=by
    rintro v w' ⟨r1,r2⟩
    refine hK _ _ ⟨by rw [put_defers];exact h1,by rw [put_size];exact h2,fun t ht => ?_,⟨updw vs i v,by rw [funext hSs];exact r2,fun j oj t hj hSj hd => ?_⟩,fun j oj t hj hSj hd => ?_⟩
    · rw [put_getD _ _ _ _ (fun e => ht (mem_dsts hol e))];exact h3 t ht
    · by_cases hij : i = j
      · subst hij
        obtain rfl : oj = o:=Option.some.inj (hj.symm.trans hol)
        rw [hd,put_getD_self _ _ _ (by rw [h2];exact hlt' t (mem_dsts hj hd))]
        exact updw_self.symm
      · rw [getD_set_ne false hij] at hSj
        rw [put_getD _ _ _ _ (fun e => hij (dst_ne hnd hol hj e hd)),updw_ne (Ne.symm hij)]
        exact h4' j oj t hj hSj hd
    · by_cases hij : i = j
      · subst hij
        obtain rfl : oj = o:=Option.some.inj (hj.symm.trans hol)
        rw [hd,put_getD_self _ _ _ (by rw [h2];exact hlt' t (mem_dsts hj hd))]
        exact r1
      · rw [getD_set_ne false hij] at hSj
        rw [put_getD _ _ _ _ (fun e => hij (dst_ne hnd hol hj e hd))]
        exact h5 j oj t hj hSj hd
   rcases hs with ⟨hw,hs⟩ | ⟨hw,hs⟩
   case inr => rw [if_neg (by rw [hw];exact Bool.false_ne_true)];exact step _ _ hs
   rw [if_pos hw]
   refine .inl ?_
   unfold Oper.wp
   generalize (execOp a.eval o).run P w = r at hs
   cases r with
   | ok n w' =>
     cases n <;> simp only [gets] at hs <;> simp only [Oper.upon]
     case value u => exact step _ _ hs
     case skip => exact step _ _ hs
     case enter f args => exact hs.mono fun e w'' ⟨v,he,h⟩ => by subst he;exact step _ _ h
   | halt x w' => simp only [gets] at hs
  induction fuel with
  | zero =>
    intro S a w hn hFit hI
    have hS : ∀ i,S.getD i true = true:=fun i => by rw [Stage.getD_toList];exact Stage.all_of_count hn i
    refine ⟨?_,fin S a w hFit hS hI⟩
    cases hr : Region.ready .any l.toArray S with
    | nil => rfl
    | cons i r =>
      have:=(mem_ready.1 (show i ∈ Region.ready .any l.toArray S by rw [hr];simp)).1
      rw [hS i] at this;cases this
  | succ fuel ih =>
    intro S a w hn hFit hI
    refine ⟨fun h0 => ?_,fun i hi => ?_⟩
    · refine fin S a w hFit (fun i => ?_) hI
      induction i using Nat.strongRecOn with
      | _ i ihi =>
        cases hx : S.getD i true with
        | true => rfl
        | false =>
          exfalso
          have hil : i < l.length:=by
           rcases Nat.lt_or_ge i S.size with h' | h'
           · rw [hFit.size] at h';simpa using h'
           · simp [Array.getElem?_eq_none h'] at hx
          have hup:=List.all_eq_true.1 hns i (List.mem_range.2 hil)
          rw [List.getElem?_eq_getElem hil] at hup
          have hr : i ∈ Region.ready .any l.toArray S:=by
           refine mem_ready.2 ⟨hx,l[i],by simp [hil],fun e he hbe => ?_⟩
           have h1 : e.on < i:=by
            have:=Array.all_eq_true_iff_forall_mem.1 hup e he
            simpa [hbe] using this
           have h2:=ihi e.on h1
           have h3 : e.on < S.size:=by rw [hFit.size];simp;omega
           simp [h3] at h2 ⊢;exact h2
          rw [h0] at hr;cases hr
    · have hun:=(mem_ready.1 hi).1
      have hc : (S.setIfInBounds i true).toList.count false = fuel:=by
       rw [Array.toList_setIfInBounds]
       have:=Stage.count_set (l:=S.toList) (i:=i) (by rw [← Stage.getD_toList];exact hun)
       omega
      exact one S a w _ hFit hI i hi (fun a' w' hI' => ih _ a' w' hc (hFit.set hi) hI')
 refine wp_region_any hm (main _ _ _ _ (by simp) (by simpa using Stage.Fit.start (md:=.any) (ops:=l.toArray)) ⟨rfl,rfl,fun _ _ => rfl,⟨fun _ => undef,?_,fun i o t _ h _ => ?_⟩,fun i o t _ h _ => ?_⟩)
 · have hS0 : (fun i => (Array.replicate l.toArray.size false).getD i true) = fun i => decide (l.length ≤ i):=by
    funext i
    by_cases h : i < l.length
    · simp [h]
    · simp [h];omega
   rw [hS0];exact hF _
 · rw [getD_replicate_false] at h;cases h
 · rw [getD_replicate_false] at h;cases h
end
end Free
end

section
open Go.RowKit
def PutF (w0 : World) (iA iS : Nat) (ty : TypeId) (zs cells : List Value) (b : Nat → Bool) (vs : Nat → Value) (w : World) : Prop :=
 Below w0.heap.size w0 w ∧ (b iS = true → b iA = true) ∧ (b iA = true → ∃ blk,vs iA = .pointer (some ⟨blk,0,none⟩) ∧ w0.heap.size ≤ blk ∧ Row w blk ty (if b iS then cells else zs))
section
variable {w0 w w' : World} {iA iS i : Nat} {ty : TypeId} {zs cells : List Value} {b : Nat → Bool} {vs : Nat → Value} {v : Value}
theorem PutF.start (n : Nat) (hA : iA < n) (hS : iS < n) (w0 : World) (ty : TypeId) (zs cells : List Value) (vs : Nat → Value) : PutF w0 iA iS ty zs cells (fun i => decide (n ≤ i)) vs w0.drew :=
 ⟨(Below.refl _ _).drew,fun h => by simp at h;omega,fun h => by simp at h;omega⟩
theorem PutF.keep (h : PutF w0 iA iS ty zs cells b vs w) (hb : Below w.heap.size w w') (h1 : i ≠ iA) (h2 : i ≠ iS) : PutF w0 iA iS ty zs cells (Free.updb b i) (Free.updw vs i v) w':=by
 obtain ⟨k1,k2,k3⟩:=h
 refine ⟨k1.trans (hb.mono k1.size),?_,?_⟩
 · rw [Free.updb_ne (Ne.symm h1),Free.updb_ne (Ne.symm h2)];exact k2
 · rw [Free.updb_ne (Ne.symm h1),Free.updb_ne (Ne.symm h2),Free.updw_ne (Ne.symm h1)]
   intro hA
   obtain ⟨blk,e1,e2,e3⟩:=k3 hA
   exact ⟨blk,e1,e2,e3.below hb e3.lt⟩
theorem PutF.alloc (h : PutF w0 iA iS ty zs cells b vs w) (hne : iS ≠ iA) (hbi : b iA = false) : PutF w0 iA iS ty zs cells (Free.updb b iA) (Free.updw vs iA (.pointer (some ⟨w.heap.size,0,none⟩))) (w.alloc (.cells zs.toArray ty)):=by
 obtain ⟨k1,k2,k3⟩:=h
 have hS : b iS = false:=by
  cases hb : b iS with
  | false => rfl
  | true => rw [k2 hb] at hbi;cases hbi
 refine ⟨k1.alloc k1.size _,fun _ => Free.updb_self,fun _ => ⟨w.heap.size,Free.updw_self,k1.size,?_⟩⟩
 rw [Free.updb_ne hne,hS]
 exact Row.made w ty zs
theorem PutF.store (h : PutF w0 iA iS ty zs cells b vs w) (hne : iS ≠ iA) (hA : b iA = true) {blk : Nat} (hv : vs iA = .pointer (some ⟨blk,0,none⟩)) (hle : w0.heap.size ≤ blk) (hr : Row w' blk ty cells) (hb : Below w0.heap.size w0 w') :
 PutF w0 iA iS ty zs cells (Free.updb b iS) (Free.updw vs iS v) w':=by
 refine ⟨hb,fun _ => ?_,fun _ => ⟨blk,?_,hle,?_⟩⟩
 · rw [Free.updb_ne (Ne.symm hne)];exact hA
 · rw [Free.updw_ne (Ne.symm hne)];exact hv
 · rw [Free.updb_self];exact hr
theorem PutF.row (h : PutF w0 iA iS ty zs cells b vs w) (hA : b iA = true) (hbi : b iS = false) : ∃ blk,vs iA = .pointer (some ⟨blk,0,none⟩) ∧ w0.heap.size ≤ blk ∧ Row w blk ty zs:=by
 obtain ⟨blk,h1,h2,h3⟩:=h.2.2 hA
 rw [hbi] at h3
 exact ⟨blk,h1,h2,h3⟩
theorem PutF.done (h : PutF w0 iA iS ty zs cells (fun _ => true) vs w) : Below w0.heap.size w0 w ∧ ∃ blk,vs iA = .pointer (some ⟨blk,0,none⟩) ∧ w0.heap.size ≤ blk ∧ Row w blk ty cells:=by
 obtain ⟨blk,h1,h2,h3⟩:=h.2.2 rfl
 exact ⟨h.1,blk,h1,h2,h3⟩
end
end

section
theorem of_node {x : Nd} (h : x.smOk) : Sm.of_ ((x.k : Nat) : Int) x.d = x.sm ∧ decide (okOf ((x.k : Nat) : Int) x.d) = true:=by
 obtain ⟨h1,h2,h3⟩:=h
 have e : Sm.ofk ((x.k : Nat) : Int) x.d = x.sm:=by
  unfold Sm.ofk Nd.sm
  by_cases h7 : x.k = 7
  · rw [if_pos (by omega),if_pos h7]
  · rw [if_neg (by omega),if_neg h7]
    by_cases h8 : x.k = 8
    · rw [if_pos (by omega),if_pos h8]
    · rw [if_neg (by omega),if_neg h8]
      by_cases h9 : x.k = 9
      · rw [if_pos (by omega),if_pos h9]
      · rw [if_neg (by omega),if_neg h9]
 have ho : okOf ((x.k : Nat) : Int) x.d:=⟨by omega,by omega,by rw [e];exact h3⟩
 exact ⟨by unfold Sm.of_;rw [if_pos ho,e],decide_eq_true ho⟩
end

section
theorem nothingMade_any (d : Int) (w : World) : Calls Tryz.prog 178 #[.int .i64 d] w fun e w' => e = .returned (idS d).v ∧ Below w.heap.size w w':=by
 go_enter Tryz.func178,Tryz.ntmps178
 go_wp2_with fail
 refine bodyPost_ret (results_cell_row rfl _ _ w.heap.size 82 _ (0,0) _ rfl (Row.made _ _ _) Tryz.underlying82 rfl (by kernel_rfl)) rfl ?_
 exact ⟨rfl,(Below.refl _ _).alloc (Nat.le_refl _) _⟩
theorem ofNode_any (xk xa : Nat) (xb xd : Int) (xi : List Int) (xA : Option Addr) (xc : Nat) (w : World) (h : Nd.smOk ⟨xk,xa,xb,xd,xi⟩) :
 Calls Tryz.prog 180 #[.agg #[.int .u8 (xk : Nat),.int .u8 (xa : Nat),.int .i64 xb,.int .i64 xd,.slice xA xi.length xc]] w fun e w' => e = .returned (Nd.sm ⟨xk,xa,xb,xd,xi⟩).v ∧ Below w.heap.size w w':=by
 obtain ⟨e1,e2⟩:=of_node h
 simp only at e1 e2
 have hof:=fun wz => of_any ((xk : Nat) : Int) xd wz
 rw [e1,e2] at hof
 generalize Nd.sm ⟨xk,xa,xb,xd,xi⟩ = O at *
 have HOF:=Hd hof;clear hof e1 e2 h
 go_enter Tryz.func180,Tryz.ntmps180
 go_wp2_with fail
 refine (HOF.out _).mono ?_;rintro e w2 ⟨rfl,hb2⟩
 have hr0 : Row ((w.alloc (.cells #[.int .u8 (xk : Nat),.int .u8 (xa : Nat),.int .i64 xb,.int .i64 xd,.slice xA xi.length xc] 58)).alloc (.cells #[.int .i64 0,.int .i64 0,.int .i64 0,.int .i64 0,.int .i64 0,.int .i64 0,.int .i64 0] 82)) (w.heap.size + 1) 82 [.int .i64 0,.int .i64 0,.int .i64 0,.int .i64 0,.int .i64 0,.int .i64 0,.int .i64 0]:=made2 _ _ _ _
 have hr2:=hr0.below hb2 hr0.lt
 have hb0 : Below w.heap.size w ((w.alloc (.cells #[.int .u8 (xk : Nat),.int .u8 (xa : Nat),.int .i64 xb,.int .i64 xd,.slice xA xi.length xc] 58)).alloc (.cells #[.int .i64 0,.int .i64 0,.int .i64 0,.int .i64 0,.int .i64 0,.int .i64 0,.int .i64 0] 82)):=((Below.refl _ _).alloc (Nat.le_refl _) _).alloc (by simp) _
 have hb3:=hb0.trans (hb2.mono hb0.size)
 have hsz : w.heap.size + 1 < w2.heap.size:=by have:=hb2.size;simp at this;omega
 have hz0 : w.heap.size ≤ w.heap.size + 1:=Nat.le_succ _
 have HR2:=Hd hr2;have HB3:=Hd hb3;clear hr0 hr2 hb0 hb2 hb3 HOF
 dsimp only
 generalize w.heap.size + 1 = z0 at *
 have hr3:=HR2.out.alloc (.cells #[.int .i64 O.fr,.int .i64 O.to,.int .i64 O.kp,.int .i64 O.ad,.int .i64 O.t0,.int .i64 O.t1,.int .i64 O.t2] 82)
 have c0:=hr3.cell 0;have c1:=hr3.cell 1;have c2:=hr3.cell 2;have c3:=hr3.cell 3;have c4:=hr3.cell 4;have c5:=hr3.cell 5;have c6:=hr3.cell 6
 have f0:=hr3.free 0;have f1:=hr3.free 1;have f2:=hr3.free 2;have f3:=hr3.free 3;have f4:=hr3.free 4;have f5:=hr3.free 5;have f6:=hr3.free 6
 simp only [List.getElem?_cons_succ,List.getElem?_cons_zero] at c0 c1 c2 c3 c4 c5 c6
 have HR3:=Hd hr3;have HSZ:=Hd hsz;have HZ:=Hd hz0;clear hr3 hsz
 go_wp2_with fail
 refine bodyPost_ret (results_cell_row rfl _ _ z0 82 _ (0,0) _ rfl (row_set7 HR3.out) Tryz.underlying82 rfl (by kernel_rfl)) rfl ?_
 refine ⟨rfl,?_⟩
 have hz : w.heap.size ≤ z0:=HZ.out
 exact (((((((HB3.out.alloc HB3.out.size _).setCell hz _).setCell hz _).setCell hz _).setCell hz _).setCell hz _).setCell hz _).setCell hz _
theorem isNode_any (A : Option Addr) (n c : Nat) (i : Int) (w : World) : Calls Tryz.prog 140 #[.slice A n c,.int .i64 i] w fun e w' => e = .returned (.bool (decide (0 ≤ i ∧ i < (n : Int)))) ∧ w = w':=by
 by_cases h0 : 0 ≤ i
 · by_cases h1 : i < (n : Int)
   · rw [decide_eq_true (And.intro h0 h1)]
     go_enter Tryz.func140,Tryz.ntmps140
     go_wp2_with fail
     go_ret
     exact ⟨rfl,rfl⟩
   · rw [decide_eq_false fun h => h1 h.2]
     go_enter Tryz.func140,Tryz.ntmps140
     go_wp2_with fail
     go_ret
     exact ⟨rfl,rfl⟩
 · rw [decide_eq_false fun h => h0 h.1]
   go_enter Tryz.func140,Tryz.ntmps140
   go_wp2_with fail
   go_ret
   exact ⟨rfl,rfl⟩
theorem reachC (B : Nat) (t : Sm) (w : World) (hB : Mx.Holds w B t) : Mx.Tells 179 #[.pointer (some ⟨B,0,none⟩)] (fun x => decide (x.L t)) w:=by
 intro W x hb
 show Calls _ _ #[x.v,.pointer (some ⟨B,0,none⟩)] _ (fun e w' => e = .returned (.bool (decide (x.L t))) ∧ Below W.heap.size W w')
 have h : Mx.Holds W B t:=HoldsM.below hB hb
 have hc:=fun w => leqM_any x t w
 generalize decide (x.L t) = v at *
 have hl : B < W.heap.size:=HoldsM.lt h
 obtain ⟨c0,c1,c2,c3,c4,c5,c6⟩:=h.cells5
 unfold Sm.v at *
 have HC:=Hd hc;clear hc h hB hb
 go_enter Tryz.func179,Tryz.ntmps179
 go_wp2_with fail
 refine (HC.out _).mono ?_;rintro e w1 ⟨rfl,hb1⟩
 have HB1:=Hd hb1;clear hb1 c0 c1 c2 c3 c4 c5 c6
 go_wp2_with fail
 go_ret
 exact ⟨rfl,((Below.refl _ _).alloc (Nat.le_refl _) _).trans (HB1.out.mono (by simp))⟩
end

section
section
variable {P : Program} {ops : Array Oper} {o : Oper} {a : Act} {w : World} {K : Act → World → Prop} {Q : Exit → Act → World → Prop} {E : Prop}
theorem wp_of_gets (h : Free.gets P (fun v w' => K (a.put o.dst v) w') ((execOp a.eval o).run P w)) : Oper.wp P o a w K Q:=by
 unfold Oper.wp
 generalize (execOp a.eval o).run P w = r at h
 cases r with
 | ok n w' =>
   cases n <;> simp only [Free.gets] at h <;> simp only [Oper.upon]
   case value u => exact h
   case skip => exact h
   case enter f args => exact h.mono fun e w'' ⟨v,he,h⟩ => by subst he;exact h
 | halt x w' => simp only [Free.gets] at h
theorem step_call {f : FuncId} {fn : Func} {c : Code} (hg : o.guard = none) (xs : Array Operand) (ats : Array TypeId) (ho : o.op = .call { callee:=.value (.func f),args:=xs,argTypes:=ats }) (hf : P.funcs[f]? = some fn) (hname : (fn.name == "runtime.NumGoroutine") = false) (hb : fn.body = some c)
 (vs : List Value) (hv : xs.toList.map a.eval = vs) {R : Value → World → Prop} (hc : Calls P f vs.toArray w (fun e w' => ∃ v,e = .returned v ∧ R v w')) (h : ∀ v w',R v w' → K (a.put o.dst v) w') :
 if Region.wanted o (yielded ops a.tmps) = true then Oper.wp P o a w K Q else E:=by
 have hw : Region.wanted o (yielded ops a.tmps) = true:=by simp [Region.wanted,hg]
 rw [if_pos hw]
 exact wp_of_gets (Free.g_call xs ats ho hf hname hb vs hv (hc.mono fun e w' ⟨v,he,hr⟩ => ⟨v,he,h v w' hr⟩))
end
end
end Go.Proofs.YtonelpnhoiajgaaGreatDoor
