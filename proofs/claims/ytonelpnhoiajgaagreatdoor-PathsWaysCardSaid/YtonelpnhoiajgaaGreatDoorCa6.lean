import Derived.Test.YtonelpnhoiajgaaGreatDoorHd
import Derived.Test.YtonelpnhoiajgaaGreatDoorCa5
import Derived.Test.YtonelpnhoiajgaaGreatDoorCa3
import Derived.Test.YtonelpnhoiajgaaGreatDoorCa4
import Derived.Deep.Onto
import Derived.Test.YtonelpnhoiajgaaGreatDoorCa0
import Derived.Laws.StructEq
import Derived.Lib.Hide
import Derived.Deep.DeepCutAuto
import Derived.Deep.CutRange
import Derived.Test.YtonelpnhoiajgaaGreatDoorCa2
namespace Go.Proofs.YtonelpnhoiajgaaGreatDoor
set_option linter.unusedSimpArgs false
set_option maxRecDepth 100000
open Go.ChangeShapes Go.WideShapes Go.ChangeAt Go.RowKit Go.BigFrame
set_option linter.unusedVariables false
section
def Outp (g : List Nd) (i j : Nat) (u : Sm) : Prop:=(j = i ∧ ∃ x,g[i]? = some x ∧ u = idS x.d) ∨ ∃ t x,Arr g i j t ∧ g[j]? = some x ∧ x.smOk ∧ t.thenOk x.sm ∧ u = t.seq x.sm
theorem Outp.fed {g : List Nd} {i j m : Nat} {u : Sm} (h : Outp g i j u) (hf : Fd g j m) : Arr g i m u:=by
 rcases h with ⟨rfl,x,hx,rfl⟩ | ⟨t,x,ha,hx,ho,ht,rfl⟩
 · exact .first hx hf
 · exact .on ha hx ho ht hf
theorem Fine.fedOk {g : List Nd} {j m : Nat} {x : Nd} (hg : Fine g) (hf : Fd g j m) (hx : g[m]? = some x) : x.smOk:=by
 obtain ⟨y,hy⟩ : ∃ y,g[j]? = some y:=⟨_,List.getElem?_eq_getElem (hf.from_lt hg)⟩
 have h1:=hg.fed hy hf hx
 have h2:=hg.deep hy
 unfold Nd.more at h1
 refine hg.smOk hx (fun e => ?_) fun e => ?_
 · rw [if_pos e] at h1;omega
 · rw [if_neg (by omega),if_pos e] at h1;omega
theorem Arr.fd {g : List Nd} {i n : Nat} {s : Sm} (h : Arr g i n s) : ∃ j,Fd g j n:=by
 cases h with
 | first hx hf => exact ⟨_,hf⟩
 | on h hx ho ht hf => exact ⟨_,hf⟩
theorem Arr.smOk {g : List Nd} {i n : Nat} {s : Sm} {x : Nd} (hg : Fine g) (h : Arr g i n s) (hx : g[n]? = some x) : x.smOk:=by
 obtain ⟨j,hf⟩:=h.fd
 exact hg.fedOk hf hx
def CovAt (T : List (List Sm)) (n : Nat) (u : Sm) : Prop:=∃ l t,T[n]? = some l ∧ t ∈ l ∧ t.L u
def DoneAt (g : List Nd) (T : List (List Sm)) (j : Nat) (u : Sm) : Prop:=∀ m,Fd g j m → CovAt T m u
structure Run (g : List Nd) (i : Nat) (T : List (List Sm)) (D Q : List (Nat × Sm)) : Prop where
 len : T.length = g.length
 nodup : D.Nodup
 dsound : ∀ (n : Nat) (s : Sm),(n,s) ∈ D → Arr g i n s
 sub : ∀ (n : Nat) (l : List Sm) (s : Sm),T[n]? = some l → s ∈ l → (n,s) ∈ D
 cov : ∀ (n : Nat) (s : Sm),(n,s) ∈ D → CovAt T n s
 self : ∀ (n : Nat) (l : List Sm),T[n]? = some l → waysS l = l
 outs : ∀ (j : Nat) (u : Sm),(j,u) ∈ Q → Outp g i j u
 first : ∀ x,g[i]? = some x → (i,idS x.d) ∈ Q ∨ DoneAt g T i (idS x.d)
 on : ∀ (n : Nat) (s : Sm) (x : Nd),(n,s) ∈ D → g[n]? = some x → x.smOk → s.thenOk x.sm → (n,s.seq x.sm) ∈ Q ∨ DoneAt g T n (s.seq x.sm)
section
variable {g : List Nd} {i j m n q : Nat} {T : List (List Sm)} {D Q : List (Nat × Sm)} {l : List Sm} {s u : Sm} {x : Nd}
theorem Run.start (hx : g[i]? = some x) : Run g i (List.replicate g.length []) [] [(i,idS x.d)] where
 len:=List.length_replicate
 nodup:=List.nodup_nil
 dsound:=fun n s h => by cases h
 sub:=fun n l s h hs => by
  have:=List.mem_of_getElem? h
  rw [List.mem_replicate] at this
  rw [this.2] at hs
  cases hs
 cov:=fun n s h => by cases h
 self:=fun n l h => by
  have:=List.mem_of_getElem? h
  rw [List.mem_replicate] at this
  rw [this.2]
  rfl
 outs:=fun j u h => by
  have:=List.mem_singleton.1 h
  injection this with e1 e2
  subst e1;subst e2
  exact .inl ⟨rfl,x,hx,rfl⟩
 first:=fun y hy => by
  rw [hx] at hy;cases hy
  exact .inl List.mem_cons_self
 on:=fun n s y h => by cases h
theorem DoneAt.mono {T' : List (List Sm)} (hc : ∀ n u,CovAt T n u → CovAt T' n u) (h : DoneAt g T j u) : DoneAt g T' j u:=fun m hf => hc m u (h m hf)
theorem CovAt.set (hg : Fine g) (h : Run g i T D Q) (hl : T[m]? = some l) {s : Sm} {n : Nat} {u : Sm} (hc : CovAt T n u) : CovAt (T.set m (waysS (l ++ [s]))) n u:=by
 obtain ⟨l',t,hl',ht,hu⟩:=hc
 by_cases e : m = n
 · subst e
   rw [hl] at hl'
   cases hl'
   have hr:=((h.dsound m t (h.sub m l t hl ht)).ends hg).1
   obtain ⟨y,hy,hyt⟩:=waysS_covers (l:=l ++ [s]) (List.mem_append_left _ ht) hr
   exact ⟨_,y,by rw [List.getElem?_set_self (List.getElem?_eq_some_iff.1 hl).1],hy,Sm.L_trans hyt hu⟩
 · exact ⟨l',t,by rw [List.getElem?_set_ne e];exact hl',ht,hu⟩
theorem CovAt.put (hr : s.R) (hl : T[m]? = some l) : CovAt (T.set m (waysS (l ++ [s]))) m s:=by
 obtain ⟨y,hy,hyt⟩:=waysS_covers (l:=l ++ [s]) (List.mem_append_right _ List.mem_cons_self) hr
 exact ⟨_,y,by rw [List.getElem?_set_self (List.getElem?_eq_some_iff.1 hl).1],hy,hyt⟩
theorem Run.add (hg : Fine g) (h : Run g i T D Q) (ha : Arr g i m s) (hx : g[m]? = some x) (hl : T[m]? = some l) (hno : ∀ t ∈ l,¬ t.L s) :
 Run g i (T.set m (waysS (l ++ [s]))) (D ++ [(m,s)]) (if s.thenOk x.sm then Q ++ [(m,s.seq x.sm)] else Q):=by
 have hr:=(ha.ends hg).1
 have hQ : ∀ a ∈ Q,a ∈ (if s.thenOk x.sm then Q ++ [(m,s.seq x.sm)] else Q):=fun a ha => by
  split
  · exact List.mem_append_left _ ha
  · exact ha
 have hc : ∀ n u,CovAt T n u → CovAt (T.set m (waysS (l ++ [s]))) n u:=fun n u => CovAt.set hg h hl
 have hml : m < T.length:=(List.getElem?_eq_some_iff.1 hl).1
 constructor
 · rw [List.length_set];exact h.len
 · rw [List.nodup_append]
   refine ⟨h.nodup,by simp,fun a ha b hb e => ?_⟩
   have:=List.mem_singleton.1 hb
   subst this;subst e
   obtain ⟨l',t,hl',ht,hts⟩:=h.cov m s ha
   rw [hl] at hl'
   cases hl'
   exact hno t ht hts
 · intro n t ht
   rcases List.mem_append.1 ht with ht | ht
   · exact h.dsound n t ht
   · have:=List.mem_singleton.1 ht
     injection this with e1 e2
     subst e1;subst e2
     exact ha
 · intro n l' t hl' ht
   by_cases e : m = n
   · subst e
     rw [List.getElem?_set_self hml] at hl'
     cases hl'
     rcases List.mem_append.1 (mem_waysS.1 ht).1 with h2 | h2
     · exact List.mem_append_left _ (h.sub m l t hl h2)
     · rw [List.mem_singleton.1 h2];exact List.mem_append_right _ List.mem_cons_self
   · rw [List.getElem?_set_ne e] at hl'
     exact List.mem_append_left _ (h.sub n l' t hl' ht)
 · intro n t ht
   rcases List.mem_append.1 ht with ht | ht
   · exact hc n t (h.cov n t ht)
   · have:=List.mem_singleton.1 ht
     injection this with e1 e2
     subst e1;subst e2
     exact CovAt.put hr hl
 · intro n l' hl'
   by_cases e : m = n
   · subst e
     rw [List.getElem?_set_self hml] at hl'
     cases hl'
     exact waysS_self
   · rw [List.getElem?_set_ne e] at hl'
     exact h.self n l' hl'
 · intro j' u' hm
   by_cases ht : s.thenOk x.sm
   · rw [if_pos ht] at hm
     rcases List.mem_append.1 hm with hm | hm
     · exact h.outs j' u' hm
     · have:=List.mem_singleton.1 hm
       injection this with e1 e2
       subst e1;subst e2
       exact .inr ⟨s,x,ha,hx,ha.smOk hg hx,ht,rfl⟩
   · rw [if_neg ht] at hm
     exact h.outs j' u' hm
 · intro y hy
   rcases h.first y hy with h2 | h2
   · exact .inl (hQ _ h2)
   · exact .inr (h2.mono hc)
 · intro n t y ht hy ho hto
   rcases List.mem_append.1 ht with ht | ht
   · rcases h.on n t y ht hy ho hto with h2 | h2
     · exact .inl (hQ _ h2)
     · exact .inr (h2.mono hc)
   · have:=List.mem_singleton.1 ht
     injection this with e1 e2
     subst e1;subst e2
     rw [hx] at hy
     cases hy
     rw [if_pos hto]
     exact .inl (List.mem_append_right _ List.mem_cons_self)
theorem Run.pop (h : Run g i T D ((j,u) :: Q)) (hd : DoneAt g T j u) : Run g i T D Q where
 len:=h.len
 nodup:=h.nodup
 dsound:=h.dsound
 sub:=h.sub
 cov:=h.cov
 self:=h.self
 outs:=fun j' u' hm => h.outs j' u' (List.mem_cons_of_mem _ hm)
 first:=fun y hy => by
  rcases h.first y hy with h2 | h2
  · rcases List.mem_cons.1 h2 with e | h2
    · injection e with e1 e2
      rw [e1,e2];exact .inr hd
    · exact .inl h2
  · exact .inr h2
 on:=fun n t y ht hy ho hto => by
  rcases h.on n t y ht hy ho hto with h2 | h2
  · rcases List.mem_cons.1 h2 with e | h2
    · injection e with e1 e2
      rw [e1,e2];exact .inr hd
    · exact .inl h2
  · exact .inr h2
def UptoP (T : List (List Sm)) (ps : List (Nat × Nat)) (q : Nat) (u : Sm) : Prop:=∀ p m z,p < q → ps[p]? = some (m,z) → CovAt T m u
theorem UptoP.none {ps : List (Nat × Nat)} : UptoP T ps 0 u:=fun p m z h => absurd h (Nat.not_lt_zero _)
theorem UptoP.step {ps : List (Nat × Nat)} {z : Nat} (h : UptoP T ps q u) (hq : ps[q]? = some (m,z)) (hc : CovAt T m u) : UptoP T ps (q + 1) u:=fun p m' z' hp hm => by
 rcases Nat.lt_succ_iff_lt_or_eq.1 hp with hp | rfl
 · exact h p m' z' hp hm
 · rw [hq] at hm
   cases hm
   exact hc
theorem UptoP.mono {T' : List (List Sm)} {ps : List (Nat × Nat)} (h : UptoP T ps q u) (hc : ∀ n u,CovAt T n u → CovAt T' n u) : UptoP T' ps q u:=fun p m z hp hm => hc m u (h p m z hp hm)
theorem UptoP.all {ps : List (Nat × Nat)} (hps : toG ((j : Nat) : Int) 0 g = ps) (h : UptoP T ps ps.length u) : DoneAt g T j u:=fun m hf => by
 obtain ⟨⟨m',z⟩,hp,e⟩:=toG_fd.2 hf
 simp only at e
 subst e
 rw [hps] at hp
 obtain ⟨p,hp⟩:=List.getElem?_of_mem hp
 exact h p _ z (List.getElem?_eq_some_iff.1 hp).1 hp
theorem Run.coverP (h : Run g i T D []) : Cov g i (fun n s => ∃ l,T[n]? = some l ∧ s ∈ l) where
 sound:=fun n s ⟨l,hl,hs⟩ => h.dsound n s (h.sub n l s hl hs)
 first:=fun n x hx hf => by
  rcases h.first x hx with h2 | h2
  · cases h2
  · obtain ⟨l,t,hl,ht,hu⟩:=h2 n hf
    exact ⟨t,⟨l,hl,ht⟩,hu⟩
 on:=fun n m s x ⟨l,hl,hs⟩ hx ho ht hf => by
  rcases h.on n s x (h.sub n l s hl hs) hx ho ht with h2 | h2
  · cases h2
  · obtain ⟨l',t,hl',ht',hu⟩:=h2 m hf
    exact ⟨t,⟨l',hl',ht'⟩,hu⟩
theorem Run.ends {L : List (Nat × Sm)} (h : Run g i T D []) (hL : AllOf g i L) (hl : T[n]? = some l) : l = waysS (atA n L):=by
 rw [← h.self n l hl]
 exact hL.cover h.coverP fun s => ⟨fun hs => ⟨l,hl,hs⟩,fun ⟨l',hl',hs⟩ => by rw [hl] at hl';cases hl';exact hs⟩
/-! how many there may be -/
theorem arr_bound (hg : Fine g) {D : List (Nat × Sm)} (hn : D.Nodup) (hs : ∀ (n : Nat) (s : Sm),(n,s) ∈ D → Arr g i n s) : D.length ≤ g.length * 4194304:=by
 have hr : ∀ a ∈ D,a.1 < g.length ∧ a.2.R:=fun a ha => ⟨(hs a.1 a.2 ha).lt,((hs a.1 a.2 ha).ends hg).1⟩
 have h1:=pigeon (g.length * 4194304) (D.map fun a => a.1 * 4194304 + a.2.code) (nodup_map _ D hn fun a ha b hb e => by
  have ha2:=hr a ha
  have hb2:=hr b hb
  have h3:=Sm.code_lt ha2.2
  have h4:=Sm.code_lt hb2.2
  have e1 : a.1 = b.1:=by omega
  have e2 : a.2.code = b.2.code:=by omega
  exact Prod.ext e1 (Sm.code_inj ha2.2 hb2.2 e2)) fun x hx => by
  obtain ⟨a,ha,rfl⟩:=List.mem_map.1 hx
  have ha2:=hr a ha
  have h3:=Sm.code_lt ha2.2
  have : a.1 * 4194304 + 4194304 ≤ g.length * 4194304:=by have:=ha2.1;omega
  omega
 rwa [List.length_map] at h1
theorem sums_bound {l : List Sm} (hn : l.Nodup) (hr : ∀ s ∈ l,s.R) : l.length ≤ 4194304:=by
 have h1:=pigeon 4194304 (l.map Sm.code) (nodup_map _ l hn fun a ha b hb e => Sm.code_inj (hr a ha) (hr b hb) e) fun x hx => by
  obtain ⟨a,ha,rfl⟩:=List.mem_map.1 hx
  exact Sm.code_lt (hr a ha)
 rwa [List.length_map] at h1
theorem waysS_bound (l : List Sm) : (waysS l).length ≤ 4194304 :=
 sums_bound ((waysIn_sort l l).imp fun h e => by subst e;exact Sm.A_irrefl h) fun s hs => (mem_waysS.1 hs).2.1
theorem Run.bound (hg : Fine g) (h : Run g i T D Q) : D.length ≤ g.length * 4194304:=arr_bound hg h.nodup h.dsound
theorem Run.row (h : Run g i T D Q) (hl : T[n]? = some l) : l.length ≤ 4194304:=by
 rw [← h.self n l hl];exact waysS_bound l
theorem atA_bound (hg : Fine g) {L : List (Nat × Sm)} (hn : L.Nodup) (hs : ∀ (n : Nat) (s : Sm),(n,s) ∈ L → Arr g i n s) (n : Nat) : (atA n L).length ≤ 4194304:=by
 refine sums_bound ?_ fun s h => ((hs n s (mem_atA.1 h)).ends hg).1
 clear hs
 induction L with
 | nil => exact List.nodup_nil
 | cons a L ih =>
   rw [List.nodup_cons] at hn
   unfold atA
   by_cases e : a.1 = n
   · rw [if_pos e,List.nodup_cons]
     refine ⟨fun hm => hn.1 ?_,ih hn.2⟩
     have:=mem_atA.1 hm
     rw [← e] at this
     exact this
   · rw [if_neg e];exact ih hn.2
end
theorem exists_least {R : Nat → Prop} (h : ∃ n,R n) : ∃ n,R n ∧ ∀ m,R m → n ≤ m:=by
 obtain ⟨n,hn⟩:=h
 induction n using Nat.strongRecOn with
 | _ n ih =>
   by_cases e : ∃ m,m < n ∧ R m
   · obtain ⟨m,hm,hr⟩:=e
     exact ih m hm hr
   · exact ⟨n,hn,fun m hm => by
      rcases Nat.lt_or_ge m n with h2 | h2
      · exact absurd ⟨m,h2,hm⟩ e
      · exact h2⟩
open Classical in
noncomputable def leastN (R : Nat → Prop) : Nat:=if h : ∃ n,R n then Classical.choose (exists_least h) else 0
theorem leastN_is {R : Nat → Prop} (h : ∃ n,R n) : R (leastN R):=by
 unfold leastN;rw [dif_pos h];exact (Classical.choose_spec (exists_least h)).1
theorem leastN_le {R : Nat → Prop} {n : Nat} (h : R n) : leastN R ≤ n:=by
 unfold leastN;rw [dif_pos ⟨n,h⟩];exact (Classical.choose_spec (exists_least ⟨n,h⟩)).2 n h
end

section
structure Sl where
 A : Option Addr
 n : Nat
 c : Nat
@[reducible] def Sl.v (s : Sl) : Value:=.slice s.A s.n s.c
def slv (vs : List Sl) : List Value:=vs.map Sl.v
theorem slv_at {vs : List Sl} {i : Nat} {s : Sl} (h : vs[i]? = some s) : (slv vs)[i]? = some s.v:=by unfold slv;rw [List.getElem?_map,h];rfl
theorem slv_set (vs : List Sl) (i : Nat) (s : Sl) : slv (vs.set i s) = (slv vs).set i s.v:=by unfold slv;exact List.map_set
structure TT (w : World) (base B : Nat) (vs : List Sl) (T : List (List Sm)) : Prop where
 row : Row w B 75 (slv vs)
 lo : base ≤ B
 len : vs.length = T.length
 own : ∀ (j : Nat) (s : Sl) (l : List Sm),vs[j]? = some s → T[j]? = some l → w.ownsRow base 82 7 s.v l.length (Mx.rowS l)
 apart : ∀ (j k : Nat) (s t : Sl),j ≠ k → vs[j]? = some s → vs[k]? = some t → s.v.ownBlock = none ∨ s.v.ownBlock ≠ t.v.ownBlock
def TOff (vs : List Sl) (g : Nat) : Prop:=∀ (j : Nat) (s : Sl),vs[j]? = some s → s.v.ownBlock ≠ some g
section
variable {w w' w1 w2 : World} {base B i : Nat} {vs : List Sl} {T : List (List Sm)} {s : Sl} {l : List Sm}
theorem own_apartM {b n : Nat} {t : TypeId} {v : Value} {us : List Value} (h : w.ownsRow base 82 7 v n (Mx.rowS l)) (hr : Row w b t us) (ht : t ≠ 82) : v.ownBlock = none ∨ v.ownBlock ≠ some b:=by
 have:=Rw.own_apart h hr ht
 exact .inr fun e => this e.symm
theorem own_keptM {n : Nat} {v : Value} (h : w.ownsRow base 82 7 v n (Mx.rowS l)) (hb : Below w.heap.size w w') : w'.ownsRow base 82 7 v n (Mx.rowS l):=Rw.own_kept h hb
theorem TT.below (h : TT w base B vs T) (hb : Below w.heap.size w w') : TT w' base B vs T :=
 ⟨h.row.below hb h.row.lt,h.lo,h.len,fun j s l hs hl => Rw.own_kept (h.own j s l hs hl) hb,h.apart⟩
theorem TT.alloc (h : TT w base B vs T) (o : Obj) : TT (w.alloc o) base B vs T:=h.below ((Below.refl _ _).alloc (Nat.le_refl _) _)
theorem TT.grown {row : Option Nat} (h : TT w base B vs T) (hg : w.grownBy w' row) (hB : row ≠ some B) (ho : ∀ (j : Nat) (s : Sl),vs[j]? = some s → s.v.ownBlock = none ∨ s.v.ownBlock ≠ row) : TT w' base B vs T :=
 ⟨h.row.grown hg (fun e => hB e.symm),h.lo,h.len,fun j s l hs hl => (h.own j s l hs hl).kept hg (ho j s hs),h.apart⟩
theorem TT.lt (h : TT w base B vs T) {j : Nat} {s : Sl} (hs : vs[j]? = some s) : ∀ k,s.v.ownBlock = some k → base ≤ k ∧ k < w.heap.size:=by
 obtain ⟨l,hl⟩ : ∃ l,T[j]? = some l:=⟨_,List.getElem?_eq_getElem (by have:=(List.getElem?_eq_some_iff.1 hs).1;have:=h.len;omega)⟩
 exact (h.own j s l hs hl).lt
theorem TT.off_new (h : TT w base B vs T) : TOff vs w.heap.size:=fun j s hs e => by
 have:=(h.lt hs _ e).2;omega
theorem TT.get (h : TT w base B vs T) (hl : T[i]? = some l) : ∃ s,vs[i]? = some s ∧ s.n = l.length ∧ w.ownsRow base 82 7 s.v l.length (Mx.rowS l) ∧ w.cell? ⟨B,i,none⟩ = some s.v:=by
 obtain ⟨s,hs⟩ : ∃ s,vs[i]? = some s:=⟨_,List.getElem?_eq_getElem (by have:=(List.getElem?_eq_some_iff.1 hl).1;have:=h.len;omega)⟩
 have ho:=h.own i s l hs hl
 refine ⟨s,hs,?_,ho,by rw [h.row.cell];exact slv_at hs⟩
 rcases ho.2 with ⟨e,h0⟩ | ⟨g,cap,cur,e,_⟩
 · injection e with e1 e2 e3
   rw [e2,h0]
 · injection e with e1 e2 e3
theorem TT.step (h : TT w base B vs T) (hs : vs[i]? = some s) (hl : T[i]? = some l) (hg : w.grownBy w1 s.v.ownBlock) (hb : Below w1.heap.size w1 w2) {s2 : Sl} {l2 : List Sm} (hn : w2.ownsRow w1.heap.size 82 7 s2.v l2.length (Mx.rowS l2)) (hbase : base ≤ w.heap.size) :
 TT (w2.setCell ⟨B,i,none⟩ s2.v) base B (vs.set i s2) (T.set i l2):=by
 have hiv : i < vs.length:=(List.getElem?_eq_some_iff.1 hs).1
 have hiT : i < T.length:=(List.getElem?_eq_some_iff.1 hl).1
 have hB : s.v.ownBlock ≠ some B:=fun e => by
  rcases own_apartM (h.own i s l hs hl) h.row (by decide) with e2 | e2
  · rw [e2] at e;cases e
  · exact e2 e
 have hr1 : Row w1 B 75 (slv vs):=h.row.grown hg (fun e => hB e.symm)
 have hr2 : Row w2 B 75 (slv vs):=hr1.below hb hr1.lt
 have hset:=grown_set w2 B i s2.v
 have hnB : s2.v.ownBlock = none ∨ s2.v.ownBlock ≠ some B:=own_apartM hn hr2 (by decide)
 have hnew : ∀ k,s2.v.ownBlock = some k → w.heap.size ≤ k:=fun k e => Nat.le_trans hg.size (hn.lt k e).1
 refine ⟨by rw [slv_set];exact hr2.put i s2.v,h.lo,by rw [List.length_set,List.length_set];exact h.len,fun j s' l' hs' hl' => ?_,fun j k s' t' hjk hs' ht' => ?_⟩
 · by_cases e : i = j
   · subst e
     rw [List.getElem?_set_self hiv] at hs'
     rw [List.getElem?_set_self hiT] at hl'
     cases hs';cases hl'
     exact (hn.mono (Nat.le_trans hbase hg.size)).kept hset hnB
   · rw [List.getElem?_set_ne e] at hs' hl'
     have h1:=(h.own j s' l' hs' hl').kept hg (h.apart j i s' s (fun e2 => e e2.symm) hs' hs)
     have h2 : w2.ownsRow base 82 7 s'.v l'.length (Mx.rowS l'):=Rw.own_kept h1 hb
     exact h2.kept hset (own_apartM h2 hr2 (by decide))
 · by_cases e : i = j
   · subst e
     rw [List.getElem?_set_self hiv] at hs'
     cases hs'
     rw [List.getElem?_set_ne hjk] at ht'
     cases hv : s2.v.ownBlock with
     | none => exact .inl rfl
     | some b =>
       right
       intro e2
       have h1:=hnew b hv
       have h2:=(h.lt ht' b e2.symm).2
       omega
   · rw [List.getElem?_set_ne e] at hs'
     by_cases e3 : i = k
     · subst e3
       rw [List.getElem?_set_self hiv] at ht'
       cases ht'
       cases hv : s'.v.ownBlock with
       | none => exact .inl rfl
       | some b =>
         right
         intro e2
         have h1:=hnew b e2.symm
         have h2:=(h.lt hs' b hv).2
         omega
     · rw [List.getElem?_set_ne e3] at ht'
       exact h.apart j k s' t' hjk hs' ht'
theorem TOff.set {g : Nat} (h : TOff vs g) {s2 : Sl} (hn : s2.v.ownBlock ≠ some g) : TOff (vs.set i s2) g:=fun j s hs => by
 by_cases e : i = j
 · subst e
   by_cases hi : i < vs.length
   · rw [List.getElem?_set_self hi] at hs;cases hs;exact hn
   · rw [List.getElem?_eq_none (by rw [List.length_set];omega)] at hs;cases hs
 · rw [List.getElem?_set_ne e] at hs;exact h j s hs
theorem TT.start {n : Nat} (h : Row w B 75 (List.replicate n (.slice none 0 0))) (hB : base ≤ B) : TT w base B (List.replicate n ⟨none,0,0⟩) (List.replicate n []):=by
 refine ⟨by unfold slv;rw [List.map_replicate];exact h,hB,by rw [List.length_replicate,List.length_replicate],fun j s l hs hl => ?_,fun j k s t _ hs _ => ?_⟩
 · have h1:=List.mem_of_getElem? hs
   have h2:=List.mem_of_getElem? hl
   rw [List.mem_replicate] at h1 h2
   rw [h1.2,h2.2]
   exact World.ownsRow_nil _ _ _ _
 · have h1:=List.mem_of_getElem? hs
   rw [List.mem_replicate] at h1
   rw [h1.2]
   exact .inl rfl
end
def kindW : Kind (Nat × Sm):=⟨fun a => [.int .i64 (a.1 : Nat),.int .i64 a.2.fr,.int .i64 a.2.to,.int .i64 a.2.kp,.int .i64 a.2.ad,.int .i64 a.2.t0,.int .i64 a.2.t1,.int .i64 a.2.t2],8,fun _ => rfl,fun t u hu => by
 simp only [List.mem_cons,List.not_mem_nil,or_false] at hu
 rcases hu with rfl | rfl | rfl | rfl | rfl | rfl | rfl | rfl <;> rfl,by decide⟩
theorem infoWay : (Tryz.prog.info? 225).map (fun i => (i.zero,i.size,i.bytes)) = some (some (.agg #[.int .i64 0,.int .i64 0,.int .i64 0,.int .i64 0,.int .i64 0,.int .i64 0,.int .i64 0,.int .i64 0]),8,64):=by kernel_rfl
theorem infoSums : (Tryz.prog.info? 75).map (fun i => (i.zero,i.size,i.bytes)) = some (some (.slice none 0 0),1,24):=by kernel_rfl
end

section
theorem dec7 (a b : Sm) : decide (a = b) = (decide (a.fr = b.fr) && (decide (a.to = b.to) && (decide (a.kp = b.kp) && (decide (a.ad = b.ad) && decide (a.t0 = b.t0 ∧ a.t1 = b.t1 ∧ a.t2 = b.t2))))):=by
 rw [Bool.eq_iff_iff]
 simp [Sm.ext_iff']
theorem run_eq7r (a b : Sm) (w : World) : (Op.equalIn 10000 106 a.v b.v).run Tryz.prog w = .ok (decide (a = b)) w:=by
 have h:=run_equalIn_agg (P:=Tryz.prog) w 9999 106 #[.int .i64 a.fr,.int .i64 a.to,.int .i64 a.kp,.int .i64 a.ad,.int .i64 a.t0,.int .i64 a.t1,.int .i64 a.t2] #[.int .i64 b.fr,.int .i64 b.to,.int .i64 b.kp,.int .i64 b.ad,.int .i64 b.t0,.int .i64 b.t1,.int .i64 b.t2] (by kernel_rfl) (by kernel_rfl)
 unfold Sm.v
 rw [h,dec7]
 have e1:=fun a b w => eq_int 9998 a b w
 have e3:=fun x y z p q r w => eq3 9997 x y z p q r w
 have hi : ∀ w,(isAgg 3).run Tryz.prog w = .ok false w:=fun w => by go_simp
 have hj : ∀ w,(isAgg 25).run Tryz.prog w = .ok true w:=fun w => by go_simp
 have hs : ∀ w,(sizeOf 25).run Tryz.prog w = .ok 3 w:=fun w => by go_simp
 obtain ⟨fs,hfs⟩ : ∃ fs,(Tryz.prog.fieldsOf 106).toList = fs:=⟨_,rfl⟩
 rw [hfs]
 have hu:=Tryz.underlying106
 simp only [Program.fieldsOf,hu] at hfs
 subst hfs
 simp [Op.eqFields,part,hi,hj,hs,e1,e3,Sem.run_bind,go_sem]
 by_cases h0 : a.fr = b.fr
 · by_cases h1 : a.to = b.to
   · by_cases h2 : a.kp = b.kp
     · by_cases h3 : a.ad = b.ad
       · by_cases h4 : a.t0 = b.t0
         · by_cases h5 : a.t1 = b.t1
           · by_cases h6 : a.t2 = b.t2
             · simp [h0,h1,h2,h3,h4,h5,h6]
             · simp [h0,h1,h2,h3,h4,h5,h6]
           · simp [h0,h1,h2,h3,h4,h5]
         · simp [h0,h1,h2,h3,h4]
       · simp [h0,h1,h2,h3]
     · simp [h0,h1,h2]
   · simp [h0,h1]
 · simp [h0]
def eqS (a b : Sm) : Bool:=decide (a = b)
theorem eq_sr (x y : Operand) (a b : Sm) : ∀ w,(do eqGuard .eql 106 x y a.v b.v;binOp .eql 106 a.v b.v : Sem Value).run Tryz.prog w = .ok (.bool (eqS a b)) w:=by
 intro w
 rw [Sem.run_bind,run_eqGuard_agg w _ _ _ _ _ _ (by kernel_rfl),Result.andThen_ok,run_eql_struct,run_eq7r]
 rfl
theorem ne_sr (x y : Operand) (a b : Sm) : ∀ w,(do eqGuard .neq 106 x y a.v b.v;binOp .neq 106 a.v b.v : Sem Value).run Tryz.prog w = .ok (.bool (!eqS a b)) w:=by
 intro w
 rw [Sem.run_bind,run_eqGuard_agg w _ _ _ _ _ _ (by kernel_rfl),Result.andThen_ok,run_neq_struct,run_eq7r]
 rfl
theorem cells_sum : Tryz.prog.cellsOf 82 = 7:=by kernel_rfl
end

section
theorem run_eq7f (f : Nat) (a b : Sm) (w : World) : (Op.equalIn (f + 3) 106 a.v b.v).run Tryz.prog w = .ok (decide (a = b)) w:=by
 have h:=run_equalIn_agg (P:=Tryz.prog) w (f + 2) 106 #[.int .i64 a.fr,.int .i64 a.to,.int .i64 a.kp,.int .i64 a.ad,.int .i64 a.t0,.int .i64 a.t1,.int .i64 a.t2] #[.int .i64 b.fr,.int .i64 b.to,.int .i64 b.kp,.int .i64 b.ad,.int .i64 b.t0,.int .i64 b.t1,.int .i64 b.t2] (by kernel_rfl) (by kernel_rfl)
 unfold Sm.v
 rw [h,dec7]
 have e1:=fun a b w => eq_int (f + 1) a b w
 have e3:=fun x y z p q r w => eq3 f x y z p q r w
 have hi : ∀ w,(isAgg 3).run Tryz.prog w = .ok false w:=fun w => by go_simp
 have hj : ∀ w,(isAgg 25).run Tryz.prog w = .ok true w:=fun w => by go_simp
 have hs : ∀ w,(sizeOf 25).run Tryz.prog w = .ok 3 w:=fun w => by go_simp
 obtain ⟨fs,hfs⟩ : ∃ fs,(Tryz.prog.fieldsOf 106).toList = fs:=⟨_,rfl⟩
 rw [hfs]
 have hu:=Tryz.underlying106
 simp only [Program.fieldsOf,hu] at hfs
 subst hfs
 simp [Op.eqFields,part,hi,hj,hs,e1,e3,Sem.run_bind,go_sem]
 by_cases h0 : a.fr = b.fr
 · by_cases h1 : a.to = b.to
   · by_cases h2 : a.kp = b.kp
     · by_cases h3 : a.ad = b.ad
       · by_cases h4 : a.t0 = b.t0
         · by_cases h5 : a.t1 = b.t1
           · by_cases h6 : a.t2 = b.t2
             · simp [h0,h1,h2,h3,h4,h5,h6]
             · simp [h0,h1,h2,h3,h4,h5,h6]
           · simp [h0,h1,h2,h3,h4,h5]
         · simp [h0,h1,h2,h3,h4]
       · simp [h0,h1,h2,h3]
     · simp [h0,h1,h2]
   · simp [h0,h1]
 · simp [h0]
@[reducible] def av (a : Nat × Sm) : Value:=.agg #[.int .i64 (a.1 : Nat),.int .i64 a.2.fr,.int .i64 a.2.to,.int .i64 a.2.kp,.int .i64 a.2.ad,.int .i64 a.2.t0,.int .i64 a.2.t1,.int .i64 a.2.t2]
def kindA : Kind (Nat × Sm):=⟨fun a => [.int .i64 (a.1 : Nat),.int .i64 a.2.fr,.int .i64 a.2.to,.int .i64 a.2.kp,.int .i64 a.2.ad,.int .i64 a.2.t0,.int .i64 a.2.t1,.int .i64 a.2.t2],8,fun _ => rfl,fun t u hu => by
 simp only [List.mem_cons,List.not_mem_nil,or_false] at hu
 rcases hu with rfl | rfl | rfl | rfl | rfl | rfl | rfl | rfl <;> rfl,by decide⟩
theorem dec8 (a b : Nat × Sm) : decide (a = b) = (decide ((a.1 : Int) = (b.1 : Int)) && decide (a.2 = b.2)):=by
 rw [Bool.eq_iff_iff]
 simp [Prod.ext_iff]
 intro _
 omega
theorem run_eq8r (a b : Nat × Sm) (w : World) : (Op.equalIn 10000 108 (av a) (av b)).run Tryz.prog w = .ok (decide (a = b)) w:=by
 have h:=run_equalIn_agg (P:=Tryz.prog) w 9999 108 #[.int .i64 (a.1 : Nat),.int .i64 a.2.fr,.int .i64 a.2.to,.int .i64 a.2.kp,.int .i64 a.2.ad,.int .i64 a.2.t0,.int .i64 a.2.t1,.int .i64 a.2.t2] #[.int .i64 (b.1 : Nat),.int .i64 b.2.fr,.int .i64 b.2.to,.int .i64 b.2.kp,.int .i64 b.2.ad,.int .i64 b.2.t0,.int .i64 b.2.t1,.int .i64 b.2.t2] (by kernel_rfl) (by kernel_rfl)
 unfold av
 rw [h,dec8]
 have e1:=fun a b w => eq_int 9998 a b w
 have e7:=fun w => run_eq7f 9996 a.2 b.2 w
 unfold Sm.v at e7
 have hi : ∀ w,(isAgg 3).run Tryz.prog w = .ok false w:=fun w => by go_simp
 have hj : ∀ w,(isAgg 106).run Tryz.prog w = .ok true w:=fun w => by go_simp
 have hs : ∀ w,(sizeOf 106).run Tryz.prog w = .ok 7 w:=fun w => by go_simp
 obtain ⟨fs,hfs⟩ : ∃ fs,(Tryz.prog.fieldsOf 108).toList = fs:=⟨_,rfl⟩
 rw [hfs]
 have hu:=Tryz.underlying108
 simp only [Program.fieldsOf,hu] at hfs
 subst hfs
 simp [Op.eqFields,part,hi,hj,hs,e1,e7,Sem.run_bind,go_sem]
 by_cases h0 : (a.1 : Int) = (b.1 : Int)
 · by_cases h1 : a.2 = b.2
   · simp [h0,h1]
   · simp [h0,h1]
 · have h0b : ((a.1 : Int) == (b.1 : Int)) = false:=by simpa using h0
   simp [h0,h0b]
end

section
def kindS : Kind Sm:=⟨Sm.cells,7,fun _ => rfl,fun t u hu => by
 simp only [Sm.cells,List.mem_cons,List.not_mem_nil,or_false] at hu
 rcases hu with rfl | rfl | rfl | rfl | rfl | rfl | rfl <;> rfl,by decide⟩
theorem arr_load {w : World} {A : Option Addr} {l : List (Nat × Sm)} (h : Rw.Ts kindA w A l) {i : Nat} {a : Nat × Sm} (hi : l[i]? = some a) : ∃ b o,A = some ⟨b,o,none⟩ ∧ b < w.heap.size ∧
 ∀ w',Below w.heap.size w w' → (Instr.loadAt 108 (.pointer (some ⟨b,o + i * 8,none⟩))).run Tryz.prog w' = .ok (av a) w':=by
 obtain ⟨b,o,e,hlt,hc⟩:=h.at_ hi
 exact ⟨b,o,e,hlt,fun w' hb => run_loadAt_part b (o + i * 8) 108 _ (kindA.cells a) (fun j v hj => by rw [add_at];exact hc w' hb j v hj) Tryz.underlying108 rfl (by kernel_rfl)⟩
theorem arr_box {w : World} {g : Nat} {a : Nat × Sm} (h : Row w g 108 (kindA.cells a)) : ∀ w',Below w.heap.size w w' → (Instr.loadAt 108 (.pointer (some ⟨g,0,none⟩))).run Tryz.prog w' = .ok (av a) w' :=
 fun w' hb => run_loadAt_part g 0 108 _ (kindA.cells a) (fun j v hj => by rw [add_at,Nat.zero_add,(h.below hb h.lt).cell];exact hj) Tryz.underlying108 rfl (by kernel_rfl)
def eqA (a b : Nat × Sm) : Bool:=decide (a = b)
theorem eq_ar (x y : Operand) (a b : Nat × Sm) : ∀ w,(do eqGuard .eql 108 x y (av a) (av b);binOp .eql 108 (av a) (av b) : Sem Value).run Tryz.prog w = .ok (.bool (eqA a b)) w:=by
 intro w
 rw [Sem.run_bind,run_eqGuard_agg w _ _ _ _ _ _ (by kernel_rfl),Result.andThen_ok,run_eql_struct,run_eq8r]
 rfl
set_option maxHeartbeats 4000000 in
theorem has_any (A : Option Addr) (l : List (Nat × Sm)) (c : Nat) (a : Nat × Sm) (w : World) (hT : Rw.Ts kindA w A l) (hl : l.length ≤ 60000000) :
 Calls Tryz.prog 170 #[.slice A l.length c,av a] w fun e w' => e = .returned (.bool (decide (a ∈ l))) ∧ Below w.heap.size w w':=by
 have hr0 : Row (w.alloc (.cells (kindA.cells a).toArray 108)) w.heap.size 108 (kindA.cells a):=Row.made w _ _
 have hb0 : Below w.heap.size w (w.alloc (.cells (kindA.cells a).toArray 108)):=(Below.refl _ _).alloc (Nat.le_refl _) _
 have HT:=Hd hT;have HR0:=Hd hr0;have HB0:=Hd hb0;clear hT hr0 hb0
 go_enter Tryz.func170,Tryz.ntmps170
 go_wp2_with fail
 go_loopw [5] (fun i wx => ∃ k : Nat,k ≤ l.length ∧ i = .int .i64 k ∧ Below w.heap.size w wx ∧ Row wx w.heap.size 108 (kindA.cells a) ∧ ∀ j,j < k → l[j]? ≠ some a) (fun i _ => l.length - (intOf i).toNat)
 case atStart => exact ⟨0,by omega,rfl,HB0.out,HR0.out,fun j h => absurd h (by omega)⟩
 case round =>
  obtain ⟨k,hk,rfl,hbw,hrow,hno⟩:=hrel
  have HBW:=Hd hbw;have HRW:=Hd hrow;have HN:=Hd hno;clear hbw hrow hno HR0 HB0
  by_cases hlt : k < l.length
  · have hkz : (k : Int) < (l.length : Int):=by omega
    obtain ⟨x,hx⟩ : ∃ x,l[k]? = some x:=⟨_,List.getElem?_eq_getElem hlt⟩
    obtain ⟨bm,om,rfl,hbm,hlm⟩:=arr_load (HT.out.below HBW.out) hx
    have hln:=arr_box HRW.out
    have LM:=Hd hlm;have LN:=Hd hln;have HX:=Hd hx
    clear hlm hln hbm hx
    have hq : ∀ p q : Operand,∀ w,(do eqGuard .eql 108 p q (av x) (av a);binOp .eql 108 (av x) (av a) : Sem Value).run Tryz.prog w = .ok (.bool (eqA x a)) w:=fun p q => eq_ar p q x a
    cases he : eqA x a with
    | true =>
      rw [he] at hq
      have exy : x = a:=by simpa [eqA] using he
      have hin : true = decide (a ∈ l):=by
       rw [eq_comm,decide_eq_true_iff,← exy];exact List.mem_of_getElem? HX.out
      have HQ:=Hd hq;have HIN:=Hd hin;clear hq he exy hin
      go_wp2_with fail
      refine wp_region_below (by kernel_rfl) (by kernel_rfl) ?_
      iterate 3 (refine wpQuiet_step (fun K hK => ?_);go_simp;(first | (with_reducible refine hK _ ?_) | (with_reducible refine ⟨_,fun _ _ => rfl,hK _ ?_⟩));clear hK K)
      refine wpQuiet_step (fun K hK => ?_);refine q_load (p:=.pointer (some ⟨bm,om + k * 8,none⟩)) 108 _ rfl rfl rfl (LM.out) ?_;go_simp;(with_reducible refine hK _ ?_);clear hK K
      refine wpQuiet_step (fun K hK => ?_);refine q_load (p:=.pointer (some ⟨w.heap.size,0,none⟩)) 108 _ rfl rfl rfl (LN.out) ?_;go_simp;(with_reducible refine hK _ ?_);clear hK K
      refine wpQuiet_step (fun K hK => ?_);refine q_bin _ _ _ _ _ rfl rfl rfl rfl (HQ.out _ _) ?_;go_simp;(with_reducible refine hK _ ?_);clear hK K
      refine wpQuiet_nil ?_
      intro w5 hb5
      have hbz:=HBW.out.trans (hb5.mono HBW.out.size)
      have HBZ:=Hd hbz;clear hb5 hbz
      go_wp2_with fail
      go_ret
      exact ⟨ret_bool HIN.out,HBZ.out⟩
    | false =>
      rw [he] at hq
      have exy : x ≠ a:=by simpa [eqA] using he
      have HQ:=Hd hq;have HY:=Hd exy;clear hq he exy
      go_wp2_with fail
      refine wp_region_below (by kernel_rfl) (by kernel_rfl) ?_
      iterate 3 (refine wpQuiet_step (fun K hK => ?_);go_simp;(first | (with_reducible refine hK _ ?_) | (with_reducible refine ⟨_,fun _ _ => rfl,hK _ ?_⟩));clear hK K)
      refine wpQuiet_step (fun K hK => ?_);refine q_load (p:=.pointer (some ⟨bm,om + k * 8,none⟩)) 108 _ rfl rfl rfl (LM.out) ?_;go_simp;(with_reducible refine hK _ ?_);clear hK K
      refine wpQuiet_step (fun K hK => ?_);refine q_load (p:=.pointer (some ⟨w.heap.size,0,none⟩)) 108 _ rfl rfl rfl (LN.out) ?_;go_simp;(with_reducible refine hK _ ?_);clear hK K
      refine wpQuiet_step (fun K hK => ?_);refine q_bin _ _ _ _ _ rfl rfl rfl rfl (HQ.out _ _) ?_;go_simp;(with_reducible refine hK _ ?_);clear hK K
      refine wpQuiet_nil ?_
      intro w5 hb5
      have hbz:=HBW.out.trans (hb5.mono HBW.out.size)
      have hrz:=HRW.out.below hb5 HRW.out.lt
      have HBZ:=Hd hbz;have HRZ:=Hd hrz;clear hb5 hbz hrz
      go_wp2_with fail
      go_roundw
      case rel =>
       refine ⟨k + 1,by omega,by simp,HBZ.out,HRZ.out,fun j hj => ?_⟩
       by_cases e : j = k
       · rw [e,HX.out];intro e2;exact HY.out (Option.some.inj e2)
       · exact HN.out j (by omega)
      case measure => simp only [intOf];omega
  · have hkz : ¬ (k : Int) < (l.length : Int):=by omega
    have hkl : k = l.length:=by omega
    have hin : false = decide (a ∈ l):=by
     rw [eq_comm,decide_eq_false_iff_not]
     intro hm
     obtain ⟨j,hj⟩:=List.getElem?_of_mem hm
     exact HN.out j (by have:=(List.getElem?_eq_some_iff.1 hj).1;omega) hj
    have HIN:=Hd hin;clear hin hkl
    go_wp2_with fail
    go_ret
    exact ⟨ret_bool HIN.out,HBW.out⟩
end

section
theorem infoArr : (Tryz.prog.info? 108).map (fun i => (i.zero,i.size,i.bytes)) = some (some (.agg #[.int .i64 0,.int .i64 0,.int .i64 0,.int .i64 0,.int .i64 0,.int .i64 0,.int .i64 0,.int .i64 0]),8,64):=by kernel_rfl
theorem addA_snoc {s : Sm} (p : Nat × Nat) : ∀ (ps : List (Nat × Nat)) (l : List (Nat × Sm)),addA s (ps ++ [p]) l = if (p.1,s) ∈ addA s ps l then addA s ps l else addA s ps l ++ [(p.1,s)]
 | [],l => rfl
 | q :: ps,l => by
   rw [List.cons_append,addA,addA_snoc p ps]
   rfl
theorem addA_len {s : Sm} : ∀ (ps : List (Nat × Nat)) (l : List (Nat × Sm)),(addA s ps l).length ≤ l.length + ps.length
 | [],l => Nat.le_refl _
 | q :: ps,l => by
   rw [addA]
   by_cases h : (q.1,s) ∈ l
   · rw [if_pos h,List.length_cons]
     have:=addA_len (s:=s) ps l
     omega
   · rw [if_neg h,List.length_cons]
     have:=addA_len (s:=s) ps (l ++ [(q.1,s)])
     rw [List.length_append,List.length_singleton] at this;omega
def OwnA (w0 w : World) (v : Value) (L : List (Nat × Sm)) : Prop:=w.ownsRow w0.heap.size 108 kindA.K v L.length (Rw.row kindA L)
def FeedsD (w0 : World) (L : List (Nat × Sm)) (w : World) (e : Ending) (w' : World) : Prop:=(∃ v,e = .returned v ∧ OwnA w0 w' v L) ∧ Below w0.heap.size w0 w'
theorem feeds_kept {w0 w2 w4 : World} {o : Obj} {v vp : Value} {M : List (Nat × Sm)} {gs bp n : Nat} {l xs : List Value} (ho : w2.ownsRow w0.heap.size 108 kindA.K v M.length (Rw.row kindA M)) (hb : Below w0.heap.size w0 w2)
 (hr : Row w2 gs 106 l) (hp : w2.ownsRow bp 181 kindP.K vp n xs) (hg : (w2.alloc o).grownBy w4 v.ownBlock) :
 Below w0.heap.size w0 w4 ∧ Row w4 gs 106 l ∧ w4.ownsRow bp 181 kindP.K vp n xs :=
 ⟨Rw.own_below (ho.alloc o) hg (hb.alloc hb.size o) (Nat.le_trans hb.size ((Below.refl w2.heap.size w2).alloc (Nat.le_refl _) o).size),(hr.alloc o).grown hg (Rw.own_apart (ho.alloc o) (hr.alloc o) (by decide)),(hp.alloc o).kept hg (Rw.own_apart2 (ho.alloc o) (hp.alloc o) (by decide))⟩
set_option maxHeartbeats 8000000 in
theorem feeds_any (w0 : World) (A : Option Addr) (lg : List Gn) (c : Nat) (v0 : Value) (L : List (Nat × Sm)) (n : Nat) (s : Sm) (w : World) (hG : Gr w0 A lg) (hl : lg.length ≤ 40) (hI : ∀ x ∈ nds lg,x.ins.length ≤ 40)
 (hb : Below w0.heap.size w0 w) (ho : OwnA w0 w v0 L) (hL : L.length ≤ 59000000) :
 Calls Tryz.prog 109 #[.slice A lg.length c,v0,.int .i64 (n : Nat),s.v] w (FeedsD w0 (addA s (toG ((n : Nat) : Int) 0 (nds lg)) L) w):=by
 have hr0 : Row (w.alloc (.cells (Sm.cells s).toArray 106)) w.heap.size 106 (Sm.cells s):=Row.made w _ _
 have hb0 : Below w0.heap.size w0 (w.alloc (.cells (Sm.cells s).toArray 106)):=hb.alloc hb.size _
 have ho0 : OwnA w0 (w.alloc (.cells (Sm.cells s).toArray 106)) v0 L:=World.ownsRow.alloc ho _
 have hto:=refTo_any A lg c ((n : Nat) : Int) (w.alloc (.cells (Sm.cells s).toArray 106)) (hG.below hb0) hl hI
 have hln:=toG_len ((n : Nat) : Int) 40 (nds lg) 0 hI
 rw [nds_len] at hln
 have hl1600 : (toG ((n : Nat) : Int) 0 (nds lg)).length ≤ 1600:=by have:=Nat.mul_le_mul_right 40 hl;omega
 generalize toG ((n : Nat) : Int) 0 (nds lg) = ps at *
 have HR0:=Hd hr0;have HB0:=Hd hb0;have HO0:=Hd ho0;have HTO:=Hd hto;clear hr0 hb0 ho0 hto hln hb ho hG hI
 obtain ⟨sfr,sto,skp,sad,st0,st1,st2⟩:=s
 go_enter Tryz.func109,Tryz.ntmps109
 go_wp2_with fail
 refine HTO.out.mono ?_;rintro e w1 ⟨⟨vp,rfl,hvp⟩,hb1⟩
 have hsz : w.heap.size < (w.alloc (.cells (Sm.cells ⟨sfr,sto,skp,sad,st0,st1,st2⟩).toArray 106)).heap.size:=by simp
 have HB1:=Hd (HB0.out.trans (hb1.mono HB0.out.size))
 have HR1:=Hd (HR0.out.below hb1 HR0.out.lt)
 have ho1 : OwnA w0 w1 v0 L:=Rw.own_kept HO0.out hb1
 have HO1:=Hd ho1
 obtain ⟨PA,pc,rfl,_,_,_,_,_⟩:=Rw.Ts.of_own hvp
 have HVP:=Hd hvp;clear hvp hb1 ho1 hsz HR0 HB0 HO0 HTO
 generalize w.heap.size = gs at *
 dsimp only
 go_wp2_with fail
 go_loopw [1,10] (fun v i wx => ∃ (q : Nat) (M : List (Nat × Sm)),i = .int .i64 q ∧ q ≤ ps.length ∧ M = addA ⟨sfr,sto,skp,sad,st0,st1,st2⟩ (ps.take q) L ∧ OwnA w0 wx v M ∧ Below w0.heap.size w0 wx ∧ Row wx gs 106 (Sm.cells ⟨sfr,sto,skp,sad,st0,st1,st2⟩) ∧ ∃ bp,wx.ownsRow bp 181 kindP.K (.slice PA ps.length pc) ps.length (Rw.row kindP ps)) (fun _ i _ => ps.length - (intOf i).toNat)
 case atStart => exact ⟨0,L,rfl,Nat.zero_le _,rfl,HO1.out,HB1.out,HR1.out,_,HVP.out⟩
 case round =>
  obtain ⟨wo,rfl⟩ : ∃ wo,wo = wr:=⟨_,rfl⟩
  obtain ⟨q,M,rfl,hq,hM,ho,hb,hr,bp,hvp⟩:=hrel
  have hMl : M.length ≤ 59002000:=by rw [hM];have:=addA_len (s:=⟨sfr,sto,skp,sad,st0,st1,st2⟩) (ps.take q) L;rw [List.length_take] at this;omega
  obtain ⟨MA,mc,rfl,hMT,_,_,_,_⟩:=Rw.Ts.of_own ho
  have HM:=Hd hM;have HO:=Hd ho;have HB:=Hd hb;have HR:=Hd hr;have HVP':=Hd hvp;have HMT:=Hd hMT;have HML:=Hd hMl
  clear hM ho hb hr hvp hMT hMl HO1 HB1 HR1 HVP
  by_cases hlt : q < ps.length
  · have hqz : (q : Int) < (ps.length : Int):=by omega
    obtain ⟨⟨m,z⟩,hmz⟩ : ∃ mz,ps[q]? = some mz:=⟨_,List.getElem?_eq_getElem hlt⟩
    obtain ⟨pg,rfl⟩ : ∃ pg,PA = some ⟨pg,0,none⟩:=by
     rcases HVP'.out.2 with ⟨_,h0⟩ | ⟨g,cap,cur,e,_⟩
     · omega
     · injection e with e;exact ⟨g,e⟩
    have hcp:=HVP'.out.cells (g:=pg) rfl (q * 2) (.int .i64 (m : Nat)) (by have:=Rw.row_at (κ:=kindP) ps q (m,z) hmz 0 _ rfl;simpa [kindP] using this)
    rw [add_zero_off] at hcp
    have htk : addA ⟨sfr,sto,skp,sad,st0,st1,st2⟩ (ps.take (q + 1)) L = if (m,(⟨sfr,sto,skp,sad,st0,st1,st2⟩ : Sm)) ∈ M then M else M ++ [(m,⟨sfr,sto,skp,sad,st0,st1,st2⟩)]:=by
     rw [List.take_add_one,hmz,Option.toList_some,addA_snoc,← HM.out]
    have c0 : wo.cell? ⟨gs,0,none⟩ = some (.int .i64 sfr):=HR.out.cell 0
    have c1 : wo.cell? ⟨gs,1,none⟩ = some (.int .i64 sto):=HR.out.cell 1
    have c2 : wo.cell? ⟨gs,2,none⟩ = some (.int .i64 skp):=HR.out.cell 2
    have c3 : wo.cell? ⟨gs,3,none⟩ = some (.int .i64 sad):=HR.out.cell 3
    have c4 : wo.cell? ⟨gs,4,none⟩ = some (.int .i64 st0):=HR.out.cell 4
    have c5 : wo.cell? ⟨gs,5,none⟩ = some (.int .i64 st1):=HR.out.cell 5
    have c6 : wo.cell? ⟨gs,6,none⟩ = some (.int .i64 st2):=HR.out.cell 6
    have hgl:=HR.out.lt
    have hpl : pg < wo.heap.size:=(HVP'.out.lt pg rfl).2
    have HTK:=Hd htk;clear htk hmz
    go_upto_region 5 with fail
    go_cut [11] from 15 to 35 (fun p wx => ∃ g,p = .pointer (some ⟨g,0,none⟩) ∧ Row wx g 108 (kindA.cells (m,⟨sfr,sto,skp,sad,st0,st1,st2⟩)) ∧ Below wo.heap.size wo wx)
    case first =>
     go_region
     all_goals
      go_wp2_with fail
      go_meet
      refine ⟨_,rfl,?_,?_⟩
      · first | exact Row.drew (Row.made _ _ _) | exact Row.made _ _ _
      · exact ((Below.refl _ _).alloc (Nat.le_refl _) _).drew
    case rest =>
     obtain ⟨g,rfl,hg,hbw⟩:=hcut
     clear c0 c1 c2 c3 c4 c5 c6 hcp
     have hh:=has_any MA M mc (m,⟨sfr,sto,skp,sad,st0,st1,st2⟩) wc (HMT.out.below hbw) (by have:=HML.out;omega)
     have e0 : wc.cell? ⟨g,0,none⟩ = some (.int .i64 (m : Nat)):=hg.cell 0
     have e1 : wc.cell? ⟨g,1,none⟩ = some (.int .i64 sfr):=hg.cell 1
     have e2 : wc.cell? ⟨g,2,none⟩ = some (.int .i64 sto):=hg.cell 2
     have e3 : wc.cell? ⟨g,3,none⟩ = some (.int .i64 skp):=hg.cell 3
     have e4 : wc.cell? ⟨g,4,none⟩ = some (.int .i64 sad):=hg.cell 4
     have e5 : wc.cell? ⟨g,5,none⟩ = some (.int .i64 st0):=hg.cell 5
     have e6 : wc.cell? ⟨g,6,none⟩ = some (.int .i64 st1):=hg.cell 6
     have e7 : wc.cell? ⟨g,7,none⟩ = some (.int .i64 st2):=hg.cell 7
     have HH:=Hd hh;have HG:=Hd hg;have HBW:=Hd hbw;clear hh hg hbw
     go_wp2_with fail
     refine HH.out.mono ?_;rintro e w2 ⟨rfl,hb2⟩
     have hg2:=HG.out.below hb2 HG.out.lt
     have hbo:=HBW.out.trans (hb2.mono HBW.out.size)
     have HG2:=Hd hg2;have HBO:=Hd hbo;clear hb2 hg2 hbo HH HG HBW e0 e1 e2 e3 e4 e5 e6 e7
     by_cases hin : (m,(⟨sfr,sto,skp,sad,st0,st1,st2⟩ : Sm)) ∈ M
     · rw [decide_eq_true hin]
       have hnx:=HTK.out
       rw [if_pos hin] at hnx
       have HNX:=Hd hnx;clear hnx hin
       dsimp only
       go_wp2_with fail
       go_roundw
       case rel => exact ⟨q + 1,M,by simp,by omega,HNX.out.symm,Rw.own_kept HO.out HBO.out,HB.out.trans (HBO.out.mono HB.out.size),HR.out.below HBO.out HR.out.lt,bp,Rw.own_kept HVP'.out HBO.out⟩
       case measure => simp only [intOf];omega
     · rw [decide_eq_false hin]
       have hnx:=HTK.out
       rw [if_neg hin] at hnx
       have HNX:=Hd hnx;clear hnx hin
       dsimp only
       have e0 : w2.cell? ⟨g,0,none⟩ = some (.int .i64 (m : Nat)):=HG2.out.cell 0
       have e1 : w2.cell? ⟨g,1,none⟩ = some (.int .i64 sfr):=HG2.out.cell 1
       have e2 : w2.cell? ⟨g,2,none⟩ = some (.int .i64 sto):=HG2.out.cell 2
       have e3 : w2.cell? ⟨g,3,none⟩ = some (.int .i64 skp):=HG2.out.cell 3
       have e4 : w2.cell? ⟨g,4,none⟩ = some (.int .i64 sad):=HG2.out.cell 4
       have e5 : w2.cell? ⟨g,5,none⟩ = some (.int .i64 st0):=HG2.out.cell 5
       have e6 : w2.cell? ⟨g,6,none⟩ = some (.int .i64 st1):=HG2.out.cell 6
       have e7 : w2.cell? ⟨g,7,none⟩ = some (.int .i64 st2):=HG2.out.cell 7
       have hown2 : w2.ownsRow w0.heap.size 108 kindA.K (.slice MA M.length mc) M.length (Rw.row kindA M):=Rw.own_kept HO.out HBO.out
       have hsz2 : w0.heap.size ≤ w2.heap.size:=Nat.le_trans HB.out.size HBO.out.size
       have hb4:=HB.out.trans (HBO.out.mono HB.out.size)
       have hr4:=HR.out.below HBO.out HR.out.lt
       have hp4:=Rw.own_kept HVP'.out HBO.out
       have hty:=Rw.Ts.made (κ:=kindA) w2 [(m,⟨sfr,sto,skp,sad,st0,st1,st2⟩)] 108
       have HTY:=Hd hty;clear hty
       have HOW:=Hd hown2;have HSZ:=Hd hsz2;have HB4:=Hd hb4;have HR4:=Hd hr4;have HP4:=Hd hp4;clear hown2 hsz2 hb4 hr4 hp4
       go_wp2_with (at_builtin;refine Rw.append_own kindA 108 103 Tryz.underlying103 infoArr rfl rfl _ _ rfl w0.heap.size _ M.length M rfl (HOW.out.alloc _) _ 1 [(m,⟨sfr,sto,skp,sad,st0,st1,st2⟩)] rfl (by simp) HTY.out (by unfold maxLen;have:=HML.out;simp;omega) (by have:=HML.out;simp;omega) (by have:=HSZ.out;simp;omega) ?_;intro v2 w4 hv2 hg2;have hk2:=feeds_kept HOW.out HB4.out HR4.out HP4.out hg2;have HV:=Hd hv2;have HK:=Hd hk2;clear hv2 hg2 hk2)
       go_roundw
       case rel =>
        refine ⟨q + 1,M ++ [(m,⟨sfr,sto,skp,sad,st0,st1,st2⟩)],by simp,by omega,HNX.out.symm,?_,HK.out.1,HK.out.2.1,bp,HK.out.2.2⟩
        unfold OwnA
        rw [List.length_append]
        exact HV.out
       case measure => simp only [intOf];omega
  · have hqz : ¬ (q : Int) < (ps.length : Int):=by omega
    have hqe : q = ps.length:=by omega
    have HQ:=Hd hqe;clear hqe
    go_wp2_with fail
    go_ret
    have h:=HM.out
    rw [HQ.out,List.take_length] at h
    rw [← h]
    exact ⟨⟨_,rfl,HO.out⟩,HB.out⟩
end

section
set_option maxHeartbeats 2000000 in
theorem refOf_7 (d p : Int) (d0 : ¬ d < 0) (d3 : ¬ 3 < d) (hp : IntKind.i64.wrap (d - 1) = p) (w : World) : Calls Tryz.prog 110 #[.int .u8 7,.int .i64 d] w fun e w' => e = .returned (.tuple #[(Sm.orz (⟨p,d,p,0,0,0,0⟩ : Sm) (decide (Sm.R (⟨p,d,p,0,0,0,0⟩ : Sm)))).v,.bool (decide (Sm.R (⟨p,d,p,0,0,0,0⟩ : Sm)))]) ∧ Below w.heap.size w w':=by
 have hr:=fun w => refRightM_any (⟨p,d,p,0,0,0,0⟩ : Sm) w
 have h1 : HoldsM ((w.alloc (.cells #[.int .i64 0,.int .i64 0,.int .i64 0,.int .i64 0,.int .i64 0,.int .i64 0,.int .i64 0] 106)).alloc (.cells #[.int .i64 ((⟨p,d,p,0,0,0,0⟩ : Sm)).fr,.int .i64 ((⟨p,d,p,0,0,0,0⟩ : Sm)).to,.int .i64 ((⟨p,d,p,0,0,0,0⟩ : Sm)).kp,.int .i64 ((⟨p,d,p,0,0,0,0⟩ : Sm)).ad,.int .i64 ((⟨p,d,p,0,0,0,0⟩ : Sm)).t0,.int .i64 ((⟨p,d,p,0,0,0,0⟩ : Sm)).t1,.int .i64 ((⟨p,d,p,0,0,0,0⟩ : Sm)).t2] 106)) (w.heap.size + 1) 106 (⟨p,d,p,0,0,0,0⟩ : Sm):=made2r w _ _ _
 have h0 : HoldsM ((w.alloc (.cells #[.int .i64 0,.int .i64 0,.int .i64 0,.int .i64 0,.int .i64 0,.int .i64 0,.int .i64 0] 106)).alloc (.cells #[.int .i64 ((⟨p,d,p,0,0,0,0⟩ : Sm)).fr,.int .i64 ((⟨p,d,p,0,0,0,0⟩ : Sm)).to,.int .i64 ((⟨p,d,p,0,0,0,0⟩ : Sm)).kp,.int .i64 ((⟨p,d,p,0,0,0,0⟩ : Sm)).ad,.int .i64 ((⟨p,d,p,0,0,0,0⟩ : Sm)).t0,.int .i64 ((⟨p,d,p,0,0,0,0⟩ : Sm)).t1,.int .i64 ((⟨p,d,p,0,0,0,0⟩ : Sm)).t2] 106)) w.heap.size 106 Sm.zero:=Row.alloc (Row.made w _ _) _
 simp only at h1 h0
 unfold Sm.v at hr
 generalize hb : decide (Sm.R (⟨p,d,p,0,0,0,0⟩ : Sm)) = bb at *
 clear hb
 have HR:=Hd hr;have H1:=Hd h1;have H0:=Hd h0;clear hr h1 h0
 unfold Sm.orz
 go_enter Tryz.func110,Tryz.ntmps110
 go_wp2_with fail
 refine (HR.out _).mono ?_;rintro e w2 ⟨rfl,hb2⟩
 have h1 : HoldsM w2 (w.heap.size + 1) 106 (⟨p,d,p,0,0,0,0⟩ : Sm):=Row.below H1.out hb2 (by simp)
 have h0 : HoldsM w2 w.heap.size 106 Sm.zero:=Row.below H0.out hb2 (by simp;omega)
 obtain ⟨c0,c1,c2,c3,c4,c5,c6⟩:=h1.cells7
 obtain ⟨f0,f1,f2,f3,f4,f5,f6⟩:=h0.free7
 obtain ⟨z0,z1,z2,z3,z4,z5,z6⟩:=h0.cells7
 have HB:=Hd ((below_alloc2 w _ _).trans (hb2.mono (by simp;omega)))
 have HZ:=Hd h0
 clear hb2 h1 h0
 simp only at c0 c1 c2 c3 c4 c5 c6
 cases bb with
 | true =>
   go_wp2_with fail
   refine bodyPost_ret (v:=.tuple #[Sm.v (⟨p,d,p,0,0,0,0⟩ : Sm),.bool true]) (two_results rfl _ _ _ 106 _ (0,0) _ rfl (row_set7 HZ.out) Tryz.underlying106 rfl (by kernel_rfl) rfl) rfl ?_
   exact ⟨rfl,below_set7 HB.out (Nat.le_refl _)⟩
 | false =>
   go_wp2_with fail
   refine bodyPost_ret (v:=.tuple #[Sm.v Sm.zero,.bool false]) (two_results rfl _ _ _ 106 _ (0,0) _ rfl (row_set7 HZ.out) Tryz.underlying106 rfl (by kernel_rfl) rfl) rfl ?_
   exact ⟨rfl,below_set7 HB.out (Nat.le_refl _)⟩
set_option maxHeartbeats 2000000 in
theorem refOf_8 (d p : Int) (d0 : ¬ d < 0) (d3 : ¬ 3 < d) (hp : IntKind.i64.wrap (d + 1) = p) (w : World) : Calls Tryz.prog 110 #[.int .u8 8,.int .i64 d] w fun e w' => e = .returned (.tuple #[(Sm.orz (⟨p,d,d,0,0,0,0⟩ : Sm) (decide (Sm.R (⟨p,d,d,0,0,0,0⟩ : Sm)))).v,.bool (decide (Sm.R (⟨p,d,d,0,0,0,0⟩ : Sm)))]) ∧ Below w.heap.size w w':=by
 have hr:=fun w => refRightM_any (⟨p,d,d,0,0,0,0⟩ : Sm) w
 have h1 : HoldsM ((w.alloc (.cells #[.int .i64 0,.int .i64 0,.int .i64 0,.int .i64 0,.int .i64 0,.int .i64 0,.int .i64 0] 106)).alloc (.cells #[.int .i64 ((⟨p,d,d,0,0,0,0⟩ : Sm)).fr,.int .i64 ((⟨p,d,d,0,0,0,0⟩ : Sm)).to,.int .i64 ((⟨p,d,d,0,0,0,0⟩ : Sm)).kp,.int .i64 ((⟨p,d,d,0,0,0,0⟩ : Sm)).ad,.int .i64 ((⟨p,d,d,0,0,0,0⟩ : Sm)).t0,.int .i64 ((⟨p,d,d,0,0,0,0⟩ : Sm)).t1,.int .i64 ((⟨p,d,d,0,0,0,0⟩ : Sm)).t2] 106)) (w.heap.size + 1) 106 (⟨p,d,d,0,0,0,0⟩ : Sm):=made2r w _ _ _
 have h0 : HoldsM ((w.alloc (.cells #[.int .i64 0,.int .i64 0,.int .i64 0,.int .i64 0,.int .i64 0,.int .i64 0,.int .i64 0] 106)).alloc (.cells #[.int .i64 ((⟨p,d,d,0,0,0,0⟩ : Sm)).fr,.int .i64 ((⟨p,d,d,0,0,0,0⟩ : Sm)).to,.int .i64 ((⟨p,d,d,0,0,0,0⟩ : Sm)).kp,.int .i64 ((⟨p,d,d,0,0,0,0⟩ : Sm)).ad,.int .i64 ((⟨p,d,d,0,0,0,0⟩ : Sm)).t0,.int .i64 ((⟨p,d,d,0,0,0,0⟩ : Sm)).t1,.int .i64 ((⟨p,d,d,0,0,0,0⟩ : Sm)).t2] 106)) w.heap.size 106 Sm.zero:=Row.alloc (Row.made w _ _) _
 simp only at h1 h0
 unfold Sm.v at hr
 generalize hb : decide (Sm.R (⟨p,d,d,0,0,0,0⟩ : Sm)) = bb at *
 clear hb
 have HR:=Hd hr;have H1:=Hd h1;have H0:=Hd h0;clear hr h1 h0
 unfold Sm.orz
 go_enter Tryz.func110,Tryz.ntmps110
 go_wp2_with fail
 refine (HR.out _).mono ?_;rintro e w2 ⟨rfl,hb2⟩
 have h1 : HoldsM w2 (w.heap.size + 1) 106 (⟨p,d,d,0,0,0,0⟩ : Sm):=Row.below H1.out hb2 (by simp)
 have h0 : HoldsM w2 w.heap.size 106 Sm.zero:=Row.below H0.out hb2 (by simp;omega)
 obtain ⟨c0,c1,c2,c3,c4,c5,c6⟩:=h1.cells7
 obtain ⟨f0,f1,f2,f3,f4,f5,f6⟩:=h0.free7
 obtain ⟨z0,z1,z2,z3,z4,z5,z6⟩:=h0.cells7
 have HB:=Hd ((below_alloc2 w _ _).trans (hb2.mono (by simp;omega)))
 have HZ:=Hd h0
 clear hb2 h1 h0
 simp only at c0 c1 c2 c3 c4 c5 c6
 cases bb with
 | true =>
   go_wp2_with fail
   refine bodyPost_ret (v:=.tuple #[Sm.v (⟨p,d,d,0,0,0,0⟩ : Sm),.bool true]) (two_results rfl _ _ _ 106 _ (0,0) _ rfl (row_set7 HZ.out) Tryz.underlying106 rfl (by kernel_rfl) rfl) rfl ?_
   exact ⟨rfl,below_set7 HB.out (Nat.le_refl _)⟩
 | false =>
   go_wp2_with fail
   refine bodyPost_ret (v:=.tuple #[Sm.v Sm.zero,.bool false]) (two_results rfl _ _ _ 106 _ (0,0) _ rfl (row_set7 HZ.out) Tryz.underlying106 rfl (by kernel_rfl) rfl) rfl ?_
   exact ⟨rfl,below_set7 HB.out (Nat.le_refl _)⟩
set_option maxHeartbeats 2000000 in
theorem refOf_9 (d : Int) (d0 : ¬ d < 0) (d3 : ¬ 3 < d) (w : World) : Calls Tryz.prog 110 #[.int .u8 9,.int .i64 d] w fun e w' => e = .returned (.tuple #[(Sm.orz (⟨d,d,d,1,0,0,0⟩ : Sm) (decide (Sm.R (⟨d,d,d,1,0,0,0⟩ : Sm)))).v,.bool (decide (Sm.R (⟨d,d,d,1,0,0,0⟩ : Sm)))]) ∧ Below w.heap.size w w':=by
 have hr:=fun w => refRightM_any (⟨d,d,d,1,0,0,0⟩ : Sm) w
 have h1 : HoldsM ((w.alloc (.cells #[.int .i64 0,.int .i64 0,.int .i64 0,.int .i64 0,.int .i64 0,.int .i64 0,.int .i64 0] 106)).alloc (.cells #[.int .i64 ((⟨d,d,d,1,0,0,0⟩ : Sm)).fr,.int .i64 ((⟨d,d,d,1,0,0,0⟩ : Sm)).to,.int .i64 ((⟨d,d,d,1,0,0,0⟩ : Sm)).kp,.int .i64 ((⟨d,d,d,1,0,0,0⟩ : Sm)).ad,.int .i64 ((⟨d,d,d,1,0,0,0⟩ : Sm)).t0,.int .i64 ((⟨d,d,d,1,0,0,0⟩ : Sm)).t1,.int .i64 ((⟨d,d,d,1,0,0,0⟩ : Sm)).t2] 106)) (w.heap.size + 1) 106 (⟨d,d,d,1,0,0,0⟩ : Sm):=made2r w _ _ _
 have h0 : HoldsM ((w.alloc (.cells #[.int .i64 0,.int .i64 0,.int .i64 0,.int .i64 0,.int .i64 0,.int .i64 0,.int .i64 0] 106)).alloc (.cells #[.int .i64 ((⟨d,d,d,1,0,0,0⟩ : Sm)).fr,.int .i64 ((⟨d,d,d,1,0,0,0⟩ : Sm)).to,.int .i64 ((⟨d,d,d,1,0,0,0⟩ : Sm)).kp,.int .i64 ((⟨d,d,d,1,0,0,0⟩ : Sm)).ad,.int .i64 ((⟨d,d,d,1,0,0,0⟩ : Sm)).t0,.int .i64 ((⟨d,d,d,1,0,0,0⟩ : Sm)).t1,.int .i64 ((⟨d,d,d,1,0,0,0⟩ : Sm)).t2] 106)) w.heap.size 106 Sm.zero:=Row.alloc (Row.made w _ _) _
 simp only at h1 h0
 unfold Sm.v at hr
 generalize hb : decide (Sm.R (⟨d,d,d,1,0,0,0⟩ : Sm)) = bb at *
 clear hb
 have HR:=Hd hr;have H1:=Hd h1;have H0:=Hd h0;clear hr h1 h0
 unfold Sm.orz
 go_enter Tryz.func110,Tryz.ntmps110
 go_wp2_with fail
 refine (HR.out _).mono ?_;rintro e w2 ⟨rfl,hb2⟩
 have h1 : HoldsM w2 (w.heap.size + 1) 106 (⟨d,d,d,1,0,0,0⟩ : Sm):=Row.below H1.out hb2 (by simp)
 have h0 : HoldsM w2 w.heap.size 106 Sm.zero:=Row.below H0.out hb2 (by simp;omega)
 obtain ⟨c0,c1,c2,c3,c4,c5,c6⟩:=h1.cells7
 obtain ⟨f0,f1,f2,f3,f4,f5,f6⟩:=h0.free7
 obtain ⟨z0,z1,z2,z3,z4,z5,z6⟩:=h0.cells7
 have HB:=Hd ((below_alloc2 w _ _).trans (hb2.mono (by simp;omega)))
 have HZ:=Hd h0
 clear hb2 h1 h0
 simp only at c0 c1 c2 c3 c4 c5 c6
 cases bb with
 | true =>
   go_wp2_with fail
   refine bodyPost_ret (v:=.tuple #[Sm.v (⟨d,d,d,1,0,0,0⟩ : Sm),.bool true]) (two_results rfl _ _ _ 106 _ (0,0) _ rfl (row_set7 HZ.out) Tryz.underlying106 rfl (by kernel_rfl) rfl) rfl ?_
   exact ⟨rfl,below_set7 HB.out (Nat.le_refl _)⟩
 | false =>
   go_wp2_with fail
   refine bodyPost_ret (v:=.tuple #[Sm.v Sm.zero,.bool false]) (two_results rfl _ _ _ 106 _ (0,0) _ rfl (row_set7 HZ.out) Tryz.underlying106 rfl (by kernel_rfl) rfl) rfl ?_
   exact ⟨rfl,below_set7 HB.out (Nat.le_refl _)⟩
set_option maxHeartbeats 2000000 in
theorem refOf_x (k d : Int) (d0 : ¬ d < 0) (d3 : ¬ 3 < d) (h7 : (k == 7) = false) (h8 : (k == 8) = false) (h9 : (k == 9) = false) (h1 : ¬ k < 1) (h10 : ¬ 10 < k) (w : World) : Calls Tryz.prog 110 #[.int .u8 k,.int .i64 d] w fun e w' => e = .returned (.tuple #[(Sm.orz (⟨d,d,d,0,0,0,0⟩ : Sm) (decide (Sm.R (⟨d,d,d,0,0,0,0⟩ : Sm)))).v,.bool (decide (Sm.R (⟨d,d,d,0,0,0,0⟩ : Sm)))]) ∧ Below w.heap.size w w':=by
 have hr:=fun w => refRightM_any (⟨d,d,d,0,0,0,0⟩ : Sm) w
 have h1q : HoldsM ((w.alloc (.cells #[.int .i64 0,.int .i64 0,.int .i64 0,.int .i64 0,.int .i64 0,.int .i64 0,.int .i64 0] 106)).alloc (.cells #[.int .i64 ((⟨d,d,d,0,0,0,0⟩ : Sm)).fr,.int .i64 ((⟨d,d,d,0,0,0,0⟩ : Sm)).to,.int .i64 ((⟨d,d,d,0,0,0,0⟩ : Sm)).kp,.int .i64 ((⟨d,d,d,0,0,0,0⟩ : Sm)).ad,.int .i64 ((⟨d,d,d,0,0,0,0⟩ : Sm)).t0,.int .i64 ((⟨d,d,d,0,0,0,0⟩ : Sm)).t1,.int .i64 ((⟨d,d,d,0,0,0,0⟩ : Sm)).t2] 106)) (w.heap.size + 1) 106 (⟨d,d,d,0,0,0,0⟩ : Sm):=made2r w _ _ _
 have h0 : HoldsM ((w.alloc (.cells #[.int .i64 0,.int .i64 0,.int .i64 0,.int .i64 0,.int .i64 0,.int .i64 0,.int .i64 0] 106)).alloc (.cells #[.int .i64 ((⟨d,d,d,0,0,0,0⟩ : Sm)).fr,.int .i64 ((⟨d,d,d,0,0,0,0⟩ : Sm)).to,.int .i64 ((⟨d,d,d,0,0,0,0⟩ : Sm)).kp,.int .i64 ((⟨d,d,d,0,0,0,0⟩ : Sm)).ad,.int .i64 ((⟨d,d,d,0,0,0,0⟩ : Sm)).t0,.int .i64 ((⟨d,d,d,0,0,0,0⟩ : Sm)).t1,.int .i64 ((⟨d,d,d,0,0,0,0⟩ : Sm)).t2] 106)) w.heap.size 106 Sm.zero:=Row.alloc (Row.made w _ _) _
 simp only at h1q h0
 unfold Sm.v at hr
 generalize hb : decide (Sm.R (⟨d,d,d,0,0,0,0⟩ : Sm)) = bb at *
 clear hb
 have HR:=Hd hr;have H1:=Hd h1q;have H0:=Hd h0;clear hr h1q h0
 unfold Sm.orz
 go_enter Tryz.func110,Tryz.ntmps110
 go_wp2_with fail
 refine (HR.out _).mono ?_;rintro e w2 ⟨rfl,hb2⟩
 have h1 : HoldsM w2 (w.heap.size + 1) 106 (⟨d,d,d,0,0,0,0⟩ : Sm):=Row.below H1.out hb2 (by simp)
 have h0 : HoldsM w2 w.heap.size 106 Sm.zero:=Row.below H0.out hb2 (by simp;omega)
 obtain ⟨c0,c1,c2,c3,c4,c5,c6⟩:=h1.cells7
 obtain ⟨f0,f1,f2,f3,f4,f5,f6⟩:=h0.free7
 obtain ⟨z0,z1,z2,z3,z4,z5,z6⟩:=h0.cells7
 have HB:=Hd ((below_alloc2 w _ _).trans (hb2.mono (by simp;omega)))
 have HZ:=Hd h0
 clear hb2 h1 h0
 simp only at c0 c1 c2 c3 c4 c5 c6
 cases bb with
 | true =>
   go_wp2_with fail
   refine bodyPost_ret (v:=.tuple #[Sm.v (⟨d,d,d,0,0,0,0⟩ : Sm),.bool true]) (two_results rfl _ _ _ 106 _ (0,0) _ rfl (row_set7 HZ.out) Tryz.underlying106 rfl (by kernel_rfl) rfl) rfl ?_
   exact ⟨rfl,below_set7 HB.out (Nat.le_refl _)⟩
 | false =>
   go_wp2_with fail
   refine bodyPost_ret (v:=.tuple #[Sm.v Sm.zero,.bool false]) (two_results rfl _ _ _ 106 _ (0,0) _ rfl (row_set7 HZ.out) Tryz.underlying106 rfl (by kernel_rfl) rfl) rfl ?_
   exact ⟨rfl,below_set7 HB.out (Nat.le_refl _)⟩
set_option maxHeartbeats 2000000 in
theorem refOf_no (k d : Int) (h : k < 1 ∨ 10 < k ∨ d < 0 ∨ 3 < d) (w : World) : Calls Tryz.prog 110 #[.int .u8 k,.int .i64 d] w fun e w' => e = .returned (.tuple #[Sm.zero.v,.bool false]) ∧ Below w.heap.size w w':=by
 have h0 : HoldsM (w.alloc (.cells #[.int .i64 0,.int .i64 0,.int .i64 0,.int .i64 0,.int .i64 0,.int .i64 0,.int .i64 0] 106)) w.heap.size 106 Sm.zero:=Row.made w _ _
 have hb : Below w.heap.size w (w.alloc (.cells #[.int .i64 0,.int .i64 0,.int .i64 0,.int .i64 0,.int .i64 0,.int .i64 0,.int .i64 0] 106)):=(Below.refl _ _).alloc (Nat.le_refl _) _
 have H0:=Hd (And.intro h0 hb);clear h0 hb
 by_cases h1 : k < 1
 case pos =>
  clear h
  go_enter Tryz.func110,Tryz.ntmps110
  go_wp2_with fail
  refine bodyPost_ret (v:=.tuple #[Sm.v Sm.zero,.bool false]) (two_results rfl _ _ _ 106 _ (0,0) _ rfl H0.out.1 Tryz.underlying106 rfl (by kernel_rfl) rfl) rfl ?_
  exact ⟨rfl,H0.out.2⟩
 by_cases h2 : 10 < k
 case pos =>
  clear h
  go_enter Tryz.func110,Tryz.ntmps110
  go_wp2_with fail
  refine bodyPost_ret (v:=.tuple #[Sm.v Sm.zero,.bool false]) (two_results rfl _ _ _ 106 _ (0,0) _ rfl H0.out.1 Tryz.underlying106 rfl (by kernel_rfl) rfl) rfl ?_
  exact ⟨rfl,H0.out.2⟩
 by_cases h3 : d < 0
 case pos =>
  clear h
  go_enter Tryz.func110,Tryz.ntmps110
  go_wp2_with fail
  refine bodyPost_ret (v:=.tuple #[Sm.v Sm.zero,.bool false]) (two_results rfl _ _ _ 106 _ (0,0) _ rfl H0.out.1 Tryz.underlying106 rfl (by kernel_rfl) rfl) rfl ?_
  exact ⟨rfl,H0.out.2⟩
 have h4 : 3 < d:=by omega
 clear h
 go_enter Tryz.func110,Tryz.ntmps110
 go_wp2_with fail
 refine bodyPost_ret (v:=.tuple #[Sm.v Sm.zero,.bool false]) (two_results rfl _ _ _ 106 _ (0,0) _ rfl H0.out.1 Tryz.underlying106 rfl (by kernel_rfl) rfl) rfl ?_
 exact ⟨rfl,H0.out.2⟩
theorem refOf_any (k d : Int) (w : World) : Calls Tryz.prog 110 #[.int .u8 k,.int .i64 d] w fun e w' => e = .returned (.tuple #[(Sm.of_ k d).v,.bool (decide (okOf k d))]) ∧ Below w.heap.size w w':=by
 by_cases hk : 1 ≤ k ∧ k ≤ 10 ∧ 0 ≤ d ∧ d ≤ 3
 case neg =>
  have hno : ¬ okOf k d:=by
   intro h
   have h3:=h.2.2
   unfold okOf at h
   unfold Sm.ofk at h3
   apply hk
   refine ⟨h.1,h.2.1,?_⟩
   split at h3
   · unfold Sm.R at h3;simp only at h3;omega
   · split at h3
     · unfold Sm.R at h3;simp only at h3;omega
     · split at h3
       · unfold Sm.R at h3;simp only at h3;omega
       · unfold Sm.R at h3;simp only at h3;omega
  rw [decide_eq_false hno,show Sm.of_ k d = Sm.zero from if_neg hno]
  exact refOf_no k d (by omega) w
 obtain ⟨hk1,hk2,hd1,hd2⟩:=hk
 obtain ⟨e1,e2⟩:=of_orz (d:=d) hk1 hk2
 rw [e1,e2]
 by_cases h7 : k = 7
 · subst h7
   rw [show Sm.ofk 7 d = ⟨d - 1,d,d - 1,0,0,0,0⟩ from rfl]
   exact refOf_7 d _ (by omega) (by omega) (IntWalk.i64_in (d - 1) (by omega)) w
 by_cases h8 : k = 8
 · subst h8
   rw [show Sm.ofk 8 d = ⟨d + 1,d,d,0,0,0,0⟩ from rfl]
   exact refOf_8 d _ (by omega) (by omega) (IntWalk.i64_in (d + 1) (by omega)) w
 by_cases h9 : k = 9
 · subst h9
   rw [show Sm.ofk 9 d = ⟨d,d,d,1,0,0,0⟩ from rfl]
   exact refOf_9 d (by omega) (by omega) w
 rw [show Sm.ofk k d = ⟨d,d,d,0,0,0,0⟩ by unfold Sm.ofk;rw [if_neg h7,if_neg h8,if_neg h9]]
 exact refOf_x k d (by omega) (by omega) (by simpa using h7) (by simpa using h8) (by simpa using h9) (by omega) (by omega) w
end

section
set_option maxHeartbeats 1000000 in
theorem then_A (a b : Sm) (w : World) (h : ¬ a.R) : Calls Tryz.prog 46 #[a.v,b.v] w fun e w' => e = .returned (.tuple #[(a.th b).v,.bool (a.thB b)]) ∧ Below w.heap.size w w':=by
 obtain ⟨q1,q2⟩:=Sm.th_no (a:=a) (b:=b) (fun g => h g.1)
 rw [q1,q2];clear q1 q2
 have h3:=Tri2.made w 82 a b
 have hbw:=ba3 w a b 82
 have H3:=Hd h3;have HB:=Hd hbw;clear h3 hbw
 have r1:=fun w => rightM_false h w
 have R1:=Hd r1;clear r1
 clear h
 unfold Sm.v at *
 go_enter Tryz.func46,Tryz.ntmps46
 go_wp2_with fail
 refine (R1.out _).mono ?_;rintro e w2 ⟨rfl,hb2⟩
 have k3:=H3.out.below hb2
 have kb:=HB.out.trans (hb2.mono HB.out.size);clear H3 HB
 have H3:=Hd k3;have HB:=Hd kb;clear k3 kb hb2
 obtain ⟨f0,f1,f2,f3,f4,f5,f6⟩:=H3.out.2.2.free7
 obtain ⟨z0,z1,z2,z3,z4,z5,z6⟩:=H3.out.2.2.cells7
 go_wp2_with fail
 refine bodyPost_ret (v:=.tuple #[.agg #[.int .i64 0,.int .i64 0,.int .i64 0,.int .i64 0,.int .i64 0,.int .i64 0,.int .i64 0],.bool false]) (two_results rfl _ _ _ 82 _ (0,0) _ rfl (row_set7 H3.out.2.2) Tryz.underlying82 rfl (by kernel_rfl) rfl) rfl ?_
 exact ⟨rfl,below_set7 HB.out (by omega)⟩
set_option maxHeartbeats 1000000 in
theorem then_B (a b : Sm) (w : World) (h : a.R) (h2 : ¬ b.R) : Calls Tryz.prog 46 #[a.v,b.v] w fun e w' => e = .returned (.tuple #[(a.th b).v,.bool (a.thB b)]) ∧ Below w.heap.size w w':=by
 obtain ⟨q1,q2⟩:=Sm.th_no (a:=a) (b:=b) (fun g => h2 g.2.1)
 rw [q1,q2];clear q1 q2
 have h3:=Tri2.made w 82 a b
 have hbw:=ba3 w a b 82
 have H3:=Hd h3;have HB:=Hd hbw;clear h3 hbw
 have r1:=fun w => rightM_true h w
 have r2:=fun w => rightM_false h2 w
 have R1:=Hd r1;have R2:=Hd r2;clear r1 r2
 clear h h2
 unfold Sm.v at *
 go_enter Tryz.func46,Tryz.ntmps46
 go_wp2_with fail
 refine (R1.out _).mono ?_;rintro e w2 ⟨rfl,hb2⟩
 have k3:=H3.out.below hb2
 have kb:=HB.out.trans (hb2.mono HB.out.size);clear H3 HB
 have H3:=Hd k3;have HB:=Hd kb;clear k3 kb hb2
 obtain ⟨a0,a1,a2,a3,a4,a5,a6⟩:=H3.out.1.cells7
 obtain ⟨b0,b1,b2,b3,b4,b5,b6⟩:=H3.out.2.1.cells7
 go_wp2_with fail
 clear a0 a1 a2 a3 a4 a5 a6 b0 b1 b2 b3 b4 b5 b6
 refine (R2.out _).mono ?_;rintro e w3 ⟨rfl,hb3⟩
 have k3:=H3.out.below hb3
 have kb:=HB.out.trans (hb3.mono HB.out.size);clear H3 HB
 have H3:=Hd k3;have HB:=Hd kb;clear k3 kb hb3
 obtain ⟨f0,f1,f2,f3,f4,f5,f6⟩:=H3.out.2.2.free7
 obtain ⟨z0,z1,z2,z3,z4,z5,z6⟩:=H3.out.2.2.cells7
 go_wp2_with fail
 refine bodyPost_ret (v:=.tuple #[.agg #[.int .i64 0,.int .i64 0,.int .i64 0,.int .i64 0,.int .i64 0,.int .i64 0,.int .i64 0],.bool false]) (two_results rfl _ _ _ 82 _ (0,0) _ rfl (row_set7 H3.out.2.2) Tryz.underlying82 rfl (by kernel_rfl) rfl) rfl ?_
 exact ⟨rfl,below_set7 HB.out (by omega)⟩
set_option maxHeartbeats 1000000 in
theorem then_C (a b : Sm) (w : World) (h : a.R) (h2 : b.R) (hd : ¬ a.to = b.fr) : Calls Tryz.prog 46 #[a.v,b.v] w fun e w' => e = .returned (.tuple #[(a.th b).v,.bool (a.thB b)]) ∧ Below w.heap.size w w':=by
 obtain ⟨q1,q2⟩:=Sm.th_no (a:=a) (b:=b) (fun g => hd g.2.2.1)
 rw [q1,q2];clear q1 q2
 have h3:=Tri2.made w 82 a b
 have hbw:=ba3 w a b 82
 have H3:=Hd h3;have HB:=Hd hbw;clear h3 hbw
 have r1:=fun w => rightM_true h w
 have r2:=fun w => rightM_true h2 w
 have hn : (a.to != b.fr) = true:=by simpa using hd
 have R1:=Hd r1;have R2:=Hd r2;clear r1 r2
 clear h h2 hd
 unfold Sm.v at *
 go_enter Tryz.func46,Tryz.ntmps46
 go_wp2_with fail
 refine (R1.out _).mono ?_;rintro e w2 ⟨rfl,hb2⟩
 have k3:=H3.out.below hb2
 have kb:=HB.out.trans (hb2.mono HB.out.size);clear H3 HB
 have H3:=Hd k3;have HB:=Hd kb;clear k3 kb hb2
 obtain ⟨a0,a1,a2,a3,a4,a5,a6⟩:=H3.out.1.cells7
 obtain ⟨b0,b1,b2,b3,b4,b5,b6⟩:=H3.out.2.1.cells7
 go_wp2_with fail
 clear a0 a1 a2 a3 a4 a5 a6 b0 b1 b2 b3 b4 b5 b6
 refine (R2.out _).mono ?_;rintro e w3 ⟨rfl,hb3⟩
 have k3:=H3.out.below hb3
 have kb:=HB.out.trans (hb3.mono HB.out.size);clear H3 HB
 have H3:=Hd k3;have HB:=Hd kb;clear k3 kb hb3
 obtain ⟨a0,a1,a2,a3,a4,a5,a6⟩:=H3.out.1.cells7
 obtain ⟨b0,b1,b2,b3,b4,b5,b6⟩:=H3.out.2.1.cells7
 obtain ⟨f0,f1,f2,f3,f4,f5,f6⟩:=H3.out.2.2.free7
 obtain ⟨z0,z1,z2,z3,z4,z5,z6⟩:=H3.out.2.2.cells7
 go_wp2_with fail
 refine bodyPost_ret (v:=.tuple #[.agg #[.int .i64 0,.int .i64 0,.int .i64 0,.int .i64 0,.int .i64 0,.int .i64 0,.int .i64 0],.bool false]) (two_results rfl _ _ _ 82 _ (0,0) _ rfl (row_set7 H3.out.2.2) Tryz.underlying82 rfl (by kernel_rfl) rfl) rfl ?_
 exact ⟨rfl,below_set7 HB.out (by omega)⟩
set_option maxHeartbeats 1000000 in
theorem refThen_A (a b : Sm) (w : World) (h : ¬ a.R) : Calls Tryz.prog 111 #[a.v,b.v] w fun e w' => e = .returned (.tuple #[(a.th b).v,.bool (a.thB b)]) ∧ Below w.heap.size w w':=by
 obtain ⟨q1,q2⟩:=Sm.th_no (a:=a) (b:=b) (fun g => h g.1)
 rw [q1,q2];clear q1 q2
 have h3:=Tri2.made w 106 a b
 have hbw:=ba3 w a b 106
 have H3:=Hd h3;have HB:=Hd hbw;clear h3 hbw
 have r1:=fun w => refRightM_false h w
 have R1:=Hd r1;clear r1
 clear h
 unfold Sm.v at *
 go_enter Tryz.func111,Tryz.ntmps111
 go_wp2_with fail
 refine (R1.out _).mono ?_;rintro e w2 ⟨rfl,hb2⟩
 have k3:=H3.out.below hb2
 have kb:=HB.out.trans (hb2.mono HB.out.size);clear H3 HB
 have H3:=Hd k3;have HB:=Hd kb;clear k3 kb hb2
 obtain ⟨f0,f1,f2,f3,f4,f5,f6⟩:=H3.out.2.2.free7
 obtain ⟨z0,z1,z2,z3,z4,z5,z6⟩:=H3.out.2.2.cells7
 go_wp2_with fail
 refine bodyPost_ret (v:=.tuple #[.agg #[.int .i64 0,.int .i64 0,.int .i64 0,.int .i64 0,.int .i64 0,.int .i64 0,.int .i64 0],.bool false]) (two_results rfl _ _ _ 106 _ (0,0) _ rfl (row_set7 H3.out.2.2) Tryz.underlying106 rfl (by kernel_rfl) rfl) rfl ?_
 exact ⟨rfl,below_set7 HB.out (by omega)⟩
set_option maxHeartbeats 1000000 in
theorem refThen_B (a b : Sm) (w : World) (h : a.R) (h2 : ¬ b.R) : Calls Tryz.prog 111 #[a.v,b.v] w fun e w' => e = .returned (.tuple #[(a.th b).v,.bool (a.thB b)]) ∧ Below w.heap.size w w':=by
 obtain ⟨q1,q2⟩:=Sm.th_no (a:=a) (b:=b) (fun g => h2 g.2.1)
 rw [q1,q2];clear q1 q2
 have h3:=Tri2.made w 106 a b
 have hbw:=ba3 w a b 106
 have H3:=Hd h3;have HB:=Hd hbw;clear h3 hbw
 have r1:=fun w => refRightM_true h w
 have r2:=fun w => refRightM_false h2 w
 have R1:=Hd r1;have R2:=Hd r2;clear r1 r2
 clear h h2
 unfold Sm.v at *
 go_enter Tryz.func111,Tryz.ntmps111
 go_wp2_with fail
 refine (R1.out _).mono ?_;rintro e w2 ⟨rfl,hb2⟩
 have k3:=H3.out.below hb2
 have kb:=HB.out.trans (hb2.mono HB.out.size);clear H3 HB
 have H3:=Hd k3;have HB:=Hd kb;clear k3 kb hb2
 obtain ⟨a0,a1,a2,a3,a4,a5,a6⟩:=H3.out.1.cells7
 obtain ⟨b0,b1,b2,b3,b4,b5,b6⟩:=H3.out.2.1.cells7
 go_wp2_with fail
 clear a0 a1 a2 a3 a4 a5 a6 b0 b1 b2 b3 b4 b5 b6
 refine (R2.out _).mono ?_;rintro e w3 ⟨rfl,hb3⟩
 have k3:=H3.out.below hb3
 have kb:=HB.out.trans (hb3.mono HB.out.size);clear H3 HB
 have H3:=Hd k3;have HB:=Hd kb;clear k3 kb hb3
 obtain ⟨f0,f1,f2,f3,f4,f5,f6⟩:=H3.out.2.2.free7
 obtain ⟨z0,z1,z2,z3,z4,z5,z6⟩:=H3.out.2.2.cells7
 go_wp2_with fail
 refine bodyPost_ret (v:=.tuple #[.agg #[.int .i64 0,.int .i64 0,.int .i64 0,.int .i64 0,.int .i64 0,.int .i64 0,.int .i64 0],.bool false]) (two_results rfl _ _ _ 106 _ (0,0) _ rfl (row_set7 H3.out.2.2) Tryz.underlying106 rfl (by kernel_rfl) rfl) rfl ?_
 exact ⟨rfl,below_set7 HB.out (by omega)⟩
set_option maxHeartbeats 1000000 in
theorem refThen_C (a b : Sm) (w : World) (h : a.R) (h2 : b.R) (hd : ¬ a.to = b.fr) : Calls Tryz.prog 111 #[a.v,b.v] w fun e w' => e = .returned (.tuple #[(a.th b).v,.bool (a.thB b)]) ∧ Below w.heap.size w w':=by
 obtain ⟨q1,q2⟩:=Sm.th_no (a:=a) (b:=b) (fun g => hd g.2.2.1)
 rw [q1,q2];clear q1 q2
 have h3:=Tri2.made w 106 a b
 have hbw:=ba3 w a b 106
 have H3:=Hd h3;have HB:=Hd hbw;clear h3 hbw
 have r1:=fun w => refRightM_true h w
 have r2:=fun w => refRightM_true h2 w
 have hn : (a.to != b.fr) = true:=by simpa using hd
 have R1:=Hd r1;have R2:=Hd r2;clear r1 r2
 clear h h2 hd
 unfold Sm.v at *
 go_enter Tryz.func111,Tryz.ntmps111
 go_wp2_with fail
 refine (R1.out _).mono ?_;rintro e w2 ⟨rfl,hb2⟩
 have k3:=H3.out.below hb2
 have kb:=HB.out.trans (hb2.mono HB.out.size);clear H3 HB
 have H3:=Hd k3;have HB:=Hd kb;clear k3 kb hb2
 obtain ⟨a0,a1,a2,a3,a4,a5,a6⟩:=H3.out.1.cells7
 obtain ⟨b0,b1,b2,b3,b4,b5,b6⟩:=H3.out.2.1.cells7
 go_wp2_with fail
 clear a0 a1 a2 a3 a4 a5 a6 b0 b1 b2 b3 b4 b5 b6
 refine (R2.out _).mono ?_;rintro e w3 ⟨rfl,hb3⟩
 have k3:=H3.out.below hb3
 have kb:=HB.out.trans (hb3.mono HB.out.size);clear H3 HB
 have H3:=Hd k3;have HB:=Hd kb;clear k3 kb hb3
 obtain ⟨a0,a1,a2,a3,a4,a5,a6⟩:=H3.out.1.cells7
 obtain ⟨b0,b1,b2,b3,b4,b5,b6⟩:=H3.out.2.1.cells7
 obtain ⟨f0,f1,f2,f3,f4,f5,f6⟩:=H3.out.2.2.free7
 obtain ⟨z0,z1,z2,z3,z4,z5,z6⟩:=H3.out.2.2.cells7
 go_wp2_with fail
 refine bodyPost_ret (v:=.tuple #[.agg #[.int .i64 0,.int .i64 0,.int .i64 0,.int .i64 0,.int .i64 0,.int .i64 0,.int .i64 0],.bool false]) (two_results rfl _ _ _ 106 _ (0,0) _ rfl (row_set7 H3.out.2.2) Tryz.underlying106 rfl (by kernel_rfl) rfl) rfl ?_
 exact ⟨rfl,below_set7 HB.out (by omega)⟩
end
end Go.Proofs.YtonelpnhoiajgaaGreatDoor
