/- PathRun, PlTT, SmEq, PaEq, PaHas, PaFeeds, SmOfR, SmThenN, SmThenR, Key -/
import Derived.Test.YtmhophmpbpbjaaaGreatDoorCa9
import Derived.Test.YtmhophmpbpbjaaaGreatDoorCa7
import Derived.Test.YtmhophmpbpbjaaaGreatDoorCa8
import Derived.Deep.Onto
import Derived.Test.YtmhophmpbpbjaaaGreatDoorCa1
import Derived.Test.YtmhophmpbpbjaaaGreatDoorCa6
import Derived.Laws.StructEq
import Derived.Test.YtmhophmpbpbjaaaGreatDoorCa0
import Derived.Lib.Hide
import Derived.Deep.DeepCutAuto
import Derived.Deep.CutRange
import Derived.Test.YtmhophmpbpbjaaaGreatDoorCa4
import Derived.Test.YtmhophmpbpbjaaaGreatDoorCa5
namespace Go.Proofs.YtmhophmpbpbjaaaGreatDoor
set_option linter.unusedVariables false
section
def Outp (g : List Nd) (i j : Nat) (u : Sm) : Prop := (j = i ∧ ∃ x, g[i]? = some x ∧ u = idS x.d) ∨ ∃ t x, Arr g i j t ∧ g[j]? = some x ∧ x.smOk ∧ t.thenOk x.sm ∧ u = t.seq x.sm
theorem Outp.fed {g : List Nd} {i j m : Nat} {u : Sm} (h : Outp g i j u) (hf : Fd g j m) : Arr g i m u := by
  rcases h with ⟨rfl, x, hx, rfl⟩ | ⟨t, x, ha, hx, ho, ht, rfl⟩
  · exact .first hx hf
  · exact .on ha hx ho ht hf
theorem Fine.fedOk {g : List Nd} {j m : Nat} {x : Nd} (hg : Fine g) (hf : Fd g j m) (hx : g[m]? = some x) : x.smOk := by
  obtain ⟨y, hy⟩ : ∃ y, g[j]? = some y := ⟨_, List.getElem?_eq_getElem (hf.from_lt hg)⟩
  have h1 := hg.fed hy hf hx
  have h2 := hg.deep hy
  unfold Nd.more at h1
  refine hg.smOk hx (fun e => ?_) fun e => ?_
  · rw [if_pos e] at h1; omega
  · rw [if_neg (by omega), if_pos e] at h1; omega
theorem Arr.fd {g : List Nd} {i n : Nat} {s : Sm} (h : Arr g i n s) : ∃ j, Fd g j n := by
  cases h with
  | first hx hf => exact ⟨_, hf⟩
  | on h hx ho ht hf => exact ⟨_, hf⟩
theorem Arr.smOk {g : List Nd} {i n : Nat} {s : Sm} {x : Nd} (hg : Fine g) (h : Arr g i n s) (hx : g[n]? = some x) : x.smOk := by
  obtain ⟨j, hf⟩ := h.fd
  exact hg.fedOk hf hx
def CovAt (T : List (List Sm)) (n : Nat) (u : Sm) : Prop := ∃ l t, T[n]? = some l ∧ t ∈ l ∧ t.L u
def DoneAt (g : List Nd) (T : List (List Sm)) (j : Nat) (u : Sm) : Prop := ∀ m, Fd g j m → CovAt T m u
structure Run (g : List Nd) (i : Nat) (T : List (List Sm)) (D Q : List (Nat × Sm)) : Prop where
  len : T.length = g.length
  nodup : D.Nodup
  dsound : ∀ (n : Nat) (s : Sm), (n, s) ∈ D → Arr g i n s
  sub : ∀ (n : Nat) (l : List Sm) (s : Sm), T[n]? = some l → s ∈ l → (n, s) ∈ D
  cov : ∀ (n : Nat) (s : Sm), (n, s) ∈ D → CovAt T n s
  self : ∀ (n : Nat) (l : List Sm), T[n]? = some l → waysS l = l
  outs : ∀ (j : Nat) (u : Sm), (j, u) ∈ Q → Outp g i j u
  first : ∀ x, g[i]? = some x → (i, idS x.d) ∈ Q ∨ DoneAt g T i (idS x.d)
  on : ∀ (n : Nat) (s : Sm) (x : Nd), (n, s) ∈ D → g[n]? = some x → x.smOk → s.thenOk x.sm → (n, s.seq x.sm) ∈ Q ∨ DoneAt g T n (s.seq x.sm)
section
variable {g : List Nd} {i j m n q : Nat} {T : List (List Sm)} {D Q : List (Nat × Sm)} {l : List Sm} {s u : Sm} {x : Nd}
theorem Run.start (hx : g[i]? = some x) : Run g i (List.replicate g.length []) [] [(i, idS x.d)] where
  len := List.length_replicate
  nodup := List.nodup_nil
  dsound := fun n s h => by cases h
  sub := fun n l s h hs => by
    have := List.mem_of_getElem? h
    rw [List.mem_replicate] at this
    rw [this.2] at hs
    cases hs
  cov := fun n s h => by cases h
  self := fun n l h => by
    have := List.mem_of_getElem? h
    rw [List.mem_replicate] at this
    rw [this.2]
    rfl
  outs := fun j u h => by
    have := List.mem_singleton.1 h
    injection this with e1 e2
    subst e1; subst e2
    exact .inl ⟨rfl, x, hx, rfl⟩
  first := fun y hy => by
    rw [hx] at hy; cases hy
    exact .inl List.mem_cons_self
  on := fun n s y h => by cases h
theorem DoneAt.mono {T' : List (List Sm)} (hc : ∀ n u, CovAt T n u → CovAt T' n u) (h : DoneAt g T j u) : DoneAt g T' j u := fun m hf => hc m u (h m hf)
theorem CovAt.set (hg : Fine g) (h : Run g i T D Q) (hl : T[m]? = some l) {s : Sm} {n : Nat} {u : Sm} (hc : CovAt T n u) : CovAt (T.set m (waysS (l ++ [s]))) n u := by
  obtain ⟨l', t, hl', ht, hu⟩ := hc
  by_cases e : m = n
  · subst e
    rw [hl] at hl'
    cases hl'
    have hr := ((h.dsound m t (h.sub m l t hl ht)).ends hg).1
    obtain ⟨y, hy, hyt⟩ := waysS_covers (l := l ++ [s]) (List.mem_append_left _ ht) hr
    exact ⟨_, y, by rw [List.getElem?_set_self (List.getElem?_eq_some_iff.1 hl).1], hy, Sm.L_trans hyt hu⟩
  · exact ⟨l', t, by rw [List.getElem?_set_ne e]; exact hl', ht, hu⟩
theorem CovAt.put (hr : s.R) (hl : T[m]? = some l) : CovAt (T.set m (waysS (l ++ [s]))) m s := by
  obtain ⟨y, hy, hyt⟩ := waysS_covers (l := l ++ [s]) (List.mem_append_right _ List.mem_cons_self) hr
  exact ⟨_, y, by rw [List.getElem?_set_self (List.getElem?_eq_some_iff.1 hl).1], hy, hyt⟩
theorem Run.add (hg : Fine g) (h : Run g i T D Q) (ha : Arr g i m s) (hx : g[m]? = some x) (hl : T[m]? = some l) (hno : ∀ t ∈ l, ¬ t.L s) :
    Run g i (T.set m (waysS (l ++ [s]))) (D ++ [(m, s)]) (if s.thenOk x.sm then Q ++ [(m, s.seq x.sm)] else Q) := by
  have hr := (ha.ends hg).1
  have hQ : ∀ a ∈ Q, a ∈ (if s.thenOk x.sm then Q ++ [(m, s.seq x.sm)] else Q) := fun a ha => by
    split
    · exact List.mem_append_left _ ha
    · exact ha
  have hc : ∀ n u, CovAt T n u → CovAt (T.set m (waysS (l ++ [s]))) n u := fun n u => CovAt.set hg h hl
  have hml : m < T.length := (List.getElem?_eq_some_iff.1 hl).1
  constructor
  · rw [List.length_set]; exact h.len
  · rw [List.nodup_append]
    refine ⟨h.nodup, by simp, fun a ha b hb e => ?_⟩
    have := List.mem_singleton.1 hb
    subst this; subst e
    obtain ⟨l', t, hl', ht, hts⟩ := h.cov m s ha
    rw [hl] at hl'
    cases hl'
    exact hno t ht hts
  · intro n t ht
    rcases List.mem_append.1 ht with ht | ht
    · exact h.dsound n t ht
    · have := List.mem_singleton.1 ht
      injection this with e1 e2
      subst e1; subst e2
      exact ha
  · intro n l' t hl' ht
    by_cases e : m = n
    · subst e
      rw [List.getElem?_set_self hml] at hl'
      cases hl'
      rcases List.mem_append.1 (mem_waysS.1 ht).1 with h2 | h2
      · exact List.mem_append_left _ (h.sub m l t hl h2)
      · rw [List.mem_singleton.1 h2]; exact List.mem_append_right _ List.mem_cons_self
    · rw [List.getElem?_set_ne e] at hl'
      exact List.mem_append_left _ (h.sub n l' t hl' ht)
  · intro n t ht
    rcases List.mem_append.1 ht with ht | ht
    · exact hc n t (h.cov n t ht)
    · have := List.mem_singleton.1 ht
      injection this with e1 e2
      subst e1; subst e2
      exact CovAt.put hr hl
  · intro n l' hl'
    by_cases e : m = n
    · subst e
      rw [List.getElem?_set_self hml] at hl'
      cases hl'
      exact waysS_self
    · rw [List.getElem?_set_ne e] at hl'
      exact h.self n l' hl'
  · intro j' u' hm
    by_cases ht : s.thenOk x.sm
    · rw [if_pos ht] at hm
      rcases List.mem_append.1 hm with hm | hm
      · exact h.outs j' u' hm
      · have := List.mem_singleton.1 hm
        injection this with e1 e2
        subst e1; subst e2
        exact .inr ⟨s, x, ha, hx, ha.smOk hg hx, ht, rfl⟩
    · rw [if_neg ht] at hm
      exact h.outs j' u' hm
  · intro y hy
    rcases h.first y hy with h2 | h2
    · exact .inl (hQ _ h2)
    · exact .inr (h2.mono hc)
  · intro n t y ht hy ho hto
    rcases List.mem_append.1 ht with ht | ht
    · rcases h.on n t y ht hy ho hto with h2 | h2
      · exact .inl (hQ _ h2)
      · exact .inr (h2.mono hc)
    · have := List.mem_singleton.1 ht
      injection this with e1 e2
      subst e1; subst e2
      rw [hx] at hy
      cases hy
      rw [if_pos hto]
      exact .inl (List.mem_append_right _ List.mem_cons_self)
theorem Run.pop (h : Run g i T D ((j, u) :: Q)) (hd : DoneAt g T j u) : Run g i T D Q where
  len := h.len
  nodup := h.nodup
  dsound := h.dsound
  sub := h.sub
  cov := h.cov
  self := h.self
  outs := fun j' u' hm => h.outs j' u' (List.mem_cons_of_mem _ hm)
  first := fun y hy => by
    rcases h.first y hy with h2 | h2
    · rcases List.mem_cons.1 h2 with e | h2
      · injection e with e1 e2
        rw [e1, e2]; exact .inr hd
      · exact .inl h2
    · exact .inr h2
  on := fun n t y ht hy ho hto => by
    rcases h.on n t y ht hy ho hto with h2 | h2
    · rcases List.mem_cons.1 h2 with e | h2
      · injection e with e1 e2
        rw [e1, e2]; exact .inr hd
      · exact .inl h2
    · exact .inr h2
def UptoP (T : List (List Sm)) (ps : List (Nat × Nat)) (q : Nat) (u : Sm) : Prop := ∀ p m z, p < q → ps[p]? = some (m, z) → CovAt T m u
theorem UptoP.none {ps : List (Nat × Nat)} : UptoP T ps 0 u := fun p m z h => absurd h (Nat.not_lt_zero _)
theorem UptoP.step {ps : List (Nat × Nat)} {z : Nat} (h : UptoP T ps q u) (hq : ps[q]? = some (m, z)) (hc : CovAt T m u) : UptoP T ps (q + 1) u := fun p m' z' hp hm => by
  rcases Nat.lt_succ_iff_lt_or_eq.1 hp with hp | rfl
  · exact h p m' z' hp hm
  · rw [hq] at hm
    cases hm
    exact hc
theorem UptoP.mono {T' : List (List Sm)} {ps : List (Nat × Nat)} (h : UptoP T ps q u) (hc : ∀ n u, CovAt T n u → CovAt T' n u) : UptoP T' ps q u := fun p m z hp hm => hc m u (h p m z hp hm)
theorem UptoP.all {ps : List (Nat × Nat)} (hps : toG ((j : Nat) : Int) 0 g = ps) (h : UptoP T ps ps.length u) : DoneAt g T j u := fun m hf => by
  obtain ⟨⟨m', z⟩, hp, e⟩ := toG_fd.2 hf
  simp only at e
  subst e
  rw [hps] at hp
  obtain ⟨p, hp⟩ := List.getElem?_of_mem hp
  exact h p _ z (List.getElem?_eq_some_iff.1 hp).1 hp
theorem Run.coverP (h : Run g i T D []) : Cov g i (fun n s => ∃ l, T[n]? = some l ∧ s ∈ l) where
  sound := fun n s ⟨l, hl, hs⟩ => h.dsound n s (h.sub n l s hl hs)
  first := fun n x hx hf => by
    rcases h.first x hx with h2 | h2
    · cases h2
    · obtain ⟨l, t, hl, ht, hu⟩ := h2 n hf
      exact ⟨t, ⟨l, hl, ht⟩, hu⟩
  on := fun n m s x ⟨l, hl, hs⟩ hx ho ht hf => by
    rcases h.on n s x (h.sub n l s hl hs) hx ho ht with h2 | h2
    · cases h2
    · obtain ⟨l', t, hl', ht', hu⟩ := h2 m hf
      exact ⟨t, ⟨l', hl', ht'⟩, hu⟩
theorem Run.ends {L : List (Nat × Sm)} (h : Run g i T D []) (hL : AllOf g i L) (hl : T[n]? = some l) : l = waysS (atA n L) := by
  rw [← h.self n l hl]
  exact hL.cover h.coverP fun s => ⟨fun hs => ⟨l, hl, hs⟩, fun ⟨l', hl', hs⟩ => by rw [hl] at hl'; cases hl'; exact hs⟩
/-! how many there may be -/
theorem arr_bound (hg : Fine g) {D : List (Nat × Sm)} (hn : D.Nodup) (hs : ∀ (n : Nat) (s : Sm), (n, s) ∈ D → Arr g i n s) : D.length ≤ g.length * 4194304 := by
  have hr : ∀ a ∈ D, a.1 < g.length ∧ a.2.R := fun a ha => ⟨(hs a.1 a.2 ha).lt, ((hs a.1 a.2 ha).ends hg).1⟩
  have h1 := pigeon (g.length * 4194304) (D.map fun a => a.1 * 4194304 + a.2.code) (nodup_map _ D hn fun a ha b hb e => by
    have ha2 := hr a ha
    have hb2 := hr b hb
    have h3 := Sm.code_lt ha2.2
    have h4 := Sm.code_lt hb2.2
    have e1 : a.1 = b.1 := by omega
    have e2 : a.2.code = b.2.code := by omega
    exact Prod.ext e1 (Sm.code_inj ha2.2 hb2.2 e2)) fun x hx => by
    obtain ⟨a, ha, rfl⟩ := List.mem_map.1 hx
    have ha2 := hr a ha
    have h3 := Sm.code_lt ha2.2
    have : a.1 * 4194304 + 4194304 ≤ g.length * 4194304 := by have := ha2.1; omega
    omega
  rwa [List.length_map] at h1
theorem sums_bound {l : List Sm} (hn : l.Nodup) (hr : ∀ s ∈ l, s.R) : l.length ≤ 4194304 := by
  have h1 := pigeon 4194304 (l.map Sm.code) (nodup_map _ l hn fun a ha b hb e => Sm.code_inj (hr a ha) (hr b hb) e) fun x hx => by
    obtain ⟨a, ha, rfl⟩ := List.mem_map.1 hx
    exact Sm.code_lt (hr a ha)
  rwa [List.length_map] at h1
theorem waysS_bound (l : List Sm) : (waysS l).length ≤ 4194304 :=
  sums_bound ((waysIn_sort l l).imp fun h e => by subst e; exact Sm.A_irrefl h) fun s hs => (mem_waysS.1 hs).2.1
theorem Run.bound (hg : Fine g) (h : Run g i T D Q) : D.length ≤ g.length * 4194304 := arr_bound hg h.nodup h.dsound
theorem Run.row (h : Run g i T D Q) (hl : T[n]? = some l) : l.length ≤ 4194304 := by
  rw [← h.self n l hl]; exact waysS_bound l
end
theorem exists_least {R : Nat → Prop} (h : ∃ n, R n) : ∃ n, R n ∧ ∀ m, R m → n ≤ m := by
  obtain ⟨n, hn⟩ := h
  induction n using Nat.strongRecOn with
  | _ n ih =>
    by_cases e : ∃ m, m < n ∧ R m
    · obtain ⟨m, hm, hr⟩ := e
      exact ih m hm hr
    · exact ⟨n, hn, fun m hm => by
        rcases Nat.lt_or_ge m n with h2 | h2
        · exact absurd ⟨m, h2, hm⟩ e
        · exact h2⟩
open Classical in
noncomputable def leastN (R : Nat → Prop) : Nat := if h : ∃ n, R n then Classical.choose (exists_least h) else 0
theorem leastN_is {R : Nat → Prop} (h : ∃ n, R n) : R (leastN R) := by
  unfold leastN; rw [dif_pos h]; exact (Classical.choose_spec (exists_least h)).1
theorem leastN_le {R : Nat → Prop} {n : Nat} (h : R n) : leastN R ≤ n := by
  unfold leastN; rw [dif_pos ⟨n, h⟩]; exact (Classical.choose_spec (exists_least ⟨n, h⟩)).2 n h
end

section
open Go.ChangeShapes Go.WideShapes Go.ChangeAt Go.RowKit Go.BigFrame
set_option maxRecDepth 100000
structure Sl where
  A : Option Addr
  n : Nat
  c : Nat
@[reducible] def Sl.v (s : Sl) : Value := .slice s.A s.n s.c
def slv (vs : List Sl) : List Value := vs.map Sl.v
theorem slv_at {vs : List Sl} {i : Nat} {s : Sl} (h : vs[i]? = some s) : (slv vs)[i]? = some s.v := by unfold slv; rw [List.getElem?_map, h]; rfl
theorem slv_set (vs : List Sl) (i : Nat) (s : Sl) : slv (vs.set i s) = (slv vs).set i s.v := by unfold slv; exact List.map_set
structure TT (w : World) (base B : Nat) (vs : List Sl) (T : List (List Sm)) : Prop where
  row : Row w B 36 (slv vs)
  lo : base ≤ B
  len : vs.length = T.length
  own : ∀ (j : Nat) (s : Sl) (l : List Sm), vs[j]? = some s → T[j]? = some l → w.ownsRow base 44 7 s.v l.length (Mx.rowS l)
  apart : ∀ (j k : Nat) (s t : Sl), j ≠ k → vs[j]? = some s → vs[k]? = some t → s.v.ownBlock = none ∨ s.v.ownBlock ≠ t.v.ownBlock
def TOff (vs : List Sl) (g : Nat) : Prop := ∀ (j : Nat) (s : Sl), vs[j]? = some s → s.v.ownBlock ≠ some g
section
variable {w w' w1 w2 : World} {base B i : Nat} {vs : List Sl} {T : List (List Sm)} {s : Sl} {l : List Sm}
theorem own_apartM {b n : Nat} {t : TypeId} {v : Value} {us : List Value} (h : w.ownsRow base 44 7 v n (Mx.rowS l)) (hr : Row w b t us) (ht : t ≠ 44) : v.ownBlock = none ∨ v.ownBlock ≠ some b := by
  have := Rw.own_apart h hr ht
  exact .inr fun e => this e.symm
theorem own_keptM {n : Nat} {v : Value} (h : w.ownsRow base 44 7 v n (Mx.rowS l)) (hb : Below w.heap.size w w') : w'.ownsRow base 44 7 v n (Mx.rowS l) := Rw.own_kept h hb
theorem TT.below (h : TT w base B vs T) (hb : Below w.heap.size w w') : TT w' base B vs T :=
  ⟨h.row.below hb h.row.lt, h.lo, h.len, fun j s l hs hl => Rw.own_kept (h.own j s l hs hl) hb, h.apart⟩
theorem TT.alloc (h : TT w base B vs T) (o : Obj) : TT (w.alloc o) base B vs T := h.below ((Below.refl _ _).alloc (Nat.le_refl _) _)
theorem TT.grown {row : Option Nat} (h : TT w base B vs T) (hg : w.grownBy w' row) (hB : row ≠ some B) (ho : ∀ (j : Nat) (s : Sl), vs[j]? = some s → s.v.ownBlock = none ∨ s.v.ownBlock ≠ row) : TT w' base B vs T :=
  ⟨h.row.grown hg (fun e => hB e.symm), h.lo, h.len, fun j s l hs hl => (h.own j s l hs hl).kept hg (ho j s hs), h.apart⟩
theorem TT.lt (h : TT w base B vs T) {j : Nat} {s : Sl} (hs : vs[j]? = some s) : ∀ k, s.v.ownBlock = some k → base ≤ k ∧ k < w.heap.size := by
  obtain ⟨l, hl⟩ : ∃ l, T[j]? = some l := ⟨_, List.getElem?_eq_getElem (by have := (List.getElem?_eq_some_iff.1 hs).1; have := h.len; omega)⟩
  exact (h.own j s l hs hl).lt
theorem TT.off_new (h : TT w base B vs T) : TOff vs w.heap.size := fun j s hs e => by
  have := (h.lt hs _ e).2; omega
theorem TT.get (h : TT w base B vs T) (hl : T[i]? = some l) : ∃ s, vs[i]? = some s ∧ s.n = l.length ∧ w.ownsRow base 44 7 s.v l.length (Mx.rowS l) ∧ w.cell? ⟨B, i, none⟩ = some s.v := by
  obtain ⟨s, hs⟩ : ∃ s, vs[i]? = some s := ⟨_, List.getElem?_eq_getElem (by have := (List.getElem?_eq_some_iff.1 hl).1; have := h.len; omega)⟩
  have ho := h.own i s l hs hl
  refine ⟨s, hs, ?_, ho, by rw [h.row.cell]; exact slv_at hs⟩
  rcases ho.2 with ⟨e, h0⟩ | ⟨g, cap, cur, e, _⟩
  · injection e with e1 e2 e3
    rw [e2, h0]
  · injection e with e1 e2 e3
theorem TT.step (h : TT w base B vs T) (hs : vs[i]? = some s) (hl : T[i]? = some l) (hg : w.grownBy w1 s.v.ownBlock) (hb : Below w1.heap.size w1 w2) {s2 : Sl} {l2 : List Sm} (hn : w2.ownsRow w1.heap.size 44 7 s2.v l2.length (Mx.rowS l2)) (hbase : base ≤ w.heap.size) :
    TT (w2.setCell ⟨B, i, none⟩ s2.v) base B (vs.set i s2) (T.set i l2) := by
  have hiv : i < vs.length := (List.getElem?_eq_some_iff.1 hs).1
  have hiT : i < T.length := (List.getElem?_eq_some_iff.1 hl).1
  have hB : s.v.ownBlock ≠ some B := fun e => by
    rcases own_apartM (h.own i s l hs hl) h.row (by decide) with e2 | e2
    · rw [e2] at e; cases e
    · exact e2 e
  have hr1 : Row w1 B 36 (slv vs) := h.row.grown hg (fun e => hB e.symm)
  have hr2 : Row w2 B 36 (slv vs) := hr1.below hb hr1.lt
  have hset := grown_set w2 B i s2.v
  have hnB : s2.v.ownBlock = none ∨ s2.v.ownBlock ≠ some B := own_apartM hn hr2 (by decide)
  have hnew : ∀ k, s2.v.ownBlock = some k → w.heap.size ≤ k := fun k e => Nat.le_trans hg.size (hn.lt k e).1
  refine ⟨by rw [slv_set]; exact hr2.put i s2.v, h.lo, by rw [List.length_set, List.length_set]; exact h.len, fun j s' l' hs' hl' => ?_, fun j k s' t' hjk hs' ht' => ?_⟩
  · by_cases e : i = j
    · subst e
      rw [List.getElem?_set_self hiv] at hs'
      rw [List.getElem?_set_self hiT] at hl'
      cases hs'; cases hl'
      exact (hn.mono (Nat.le_trans hbase hg.size)).kept hset hnB
    · rw [List.getElem?_set_ne e] at hs' hl'
      have h1 := (h.own j s' l' hs' hl').kept hg (h.apart j i s' s (fun e2 => e e2.symm) hs' hs)
      have h2 : w2.ownsRow base 44 7 s'.v l'.length (Mx.rowS l') := Rw.own_kept h1 hb
      exact h2.kept hset (own_apartM h2 hr2 (by decide))
  · by_cases e : i = j
    · subst e
      rw [List.getElem?_set_self hiv] at hs'
      cases hs'
      rw [List.getElem?_set_ne hjk] at ht'
      cases hv : s2.v.ownBlock with
      | none => exact .inl rfl
      | some b =>
        right
        intro e2
        have h1 := hnew b hv
        have h2 := (h.lt ht' b e2.symm).2
        omega
    · rw [List.getElem?_set_ne e] at hs'
      by_cases e3 : i = k
      · subst e3
        rw [List.getElem?_set_self hiv] at ht'
        cases ht'
        cases hv : s'.v.ownBlock with
        | none => exact .inl rfl
        | some b =>
          right
          intro e2
          have h1 := hnew b e2.symm
          have h2 := (h.lt hs' b hv).2
          omega
      · rw [List.getElem?_set_ne e3] at ht'
        exact h.apart j k s' t' hjk hs' ht'
theorem TOff.set {g : Nat} (h : TOff vs g) {s2 : Sl} (hn : s2.v.ownBlock ≠ some g) : TOff (vs.set i s2) g := fun j s hs => by
  by_cases e : i = j
  · subst e
    by_cases hi : i < vs.length
    · rw [List.getElem?_set_self hi] at hs; cases hs; exact hn
    · rw [List.getElem?_eq_none (by rw [List.length_set]; omega)] at hs; cases hs
  · rw [List.getElem?_set_ne e] at hs; exact h j s hs
theorem TT.start {n : Nat} (h : Row w B 36 (List.replicate n (.slice none 0 0))) (hB : base ≤ B) : TT w base B (List.replicate n ⟨none, 0, 0⟩) (List.replicate n []) := by
  refine ⟨by unfold slv; rw [List.map_replicate]; exact h, hB, by rw [List.length_replicate, List.length_replicate], fun j s l hs hl => ?_, fun j k s t _ hs _ => ?_⟩
  · have h1 := List.mem_of_getElem? hs
    have h2 := List.mem_of_getElem? hl
    rw [List.mem_replicate] at h1 h2
    rw [h1.2, h2.2]
    exact World.ownsRow_nil _ _ _ _
  · have h1 := List.mem_of_getElem? hs
    rw [List.mem_replicate] at h1
    rw [h1.2]
    exact .inl rfl
end
def kindW : Kind (Nat × Sm) := ⟨fun a => [.int .i64 (a.1 : Nat), .int .i64 a.2.fr, .int .i64 a.2.to, .int .i64 a.2.kp, .int .i64 a.2.ad, .int .i64 a.2.t0, .int .i64 a.2.t1, .int .i64 a.2.t2], 8, fun _ => rfl, fun t u hu => by
  simp only [List.mem_cons, List.not_mem_nil, or_false] at hu
  rcases hu with rfl | rfl | rfl | rfl | rfl | rfl | rfl | rfl <;> rfl, by decide⟩
theorem infoWay : (Tryz.prog.info? 182).map (fun i => (i.zero, i.size, i.bytes)) = some (some (.agg #[.int .i64 0, .int .i64 0, .int .i64 0, .int .i64 0, .int .i64 0, .int .i64 0, .int .i64 0, .int .i64 0]), 8, 64) := by kernel_rfl
theorem infoSums : (Tryz.prog.info? 36).map (fun i => (i.zero, i.size, i.bytes)) = some (some (.slice none 0 0), 1, 24) := by kernel_rfl
end

section
open Go.ChangeShapes Go.WideShapes Go.ChangeAt Go.RowKit Go.BigFrame
set_option maxRecDepth 100000
def eqS (a b : Sm) : Bool := decide (a = b)
theorem cells_sum : Tryz.prog.cellsOf 44 = 7 := by kernel_rfl
end

section
open Go.ChangeShapes Go.WideShapes Go.ChangeAt Go.RowKit Go.BigFrame
set_option maxRecDepth 100000
end

section
open Go.ChangeShapes Go.WideShapes Go.ChangeAt Go.RowKit Go.BigFrame
set_option maxRecDepth 100000
def kindS : Kind Sm := ⟨Sm.cells, 7, fun _ => rfl, fun t u hu => by
  simp only [Sm.cells, List.mem_cons, List.not_mem_nil, or_false] at hu
  rcases hu with rfl | rfl | rfl | rfl | rfl | rfl | rfl <;> rfl, by decide⟩
end

section
open Go.ChangeShapes Go.WideShapes Go.ChangeAt Go.RowKit Go.BigFrame
set_option maxRecDepth 100000
end

section
open Go.ChangeShapes Go.WideShapes Go.ChangeAt Go.RowKit Go.BigFrame
set_option maxRecDepth 100000
end

section
open Go.ChangeShapes Go.WideShapes Go.ChangeAt Go.RowKit Go.BigFrame
set_option maxRecDepth 100000
set_option maxHeartbeats 1000000 in
theorem then_A (a b : Sm) (w : World) (h : ¬ a.R) : Calls Tryz.prog 29 #[a.v, b.v] w fun e w' => e = .returned (.tuple #[(a.th b).v, .bool (a.thB b)]) ∧ Below w.heap.size w w' := by
  obtain ⟨q1, q2⟩ := Sm.th_no (a := a) (b := b) (fun g => h g.1)
  rw [q1, q2]; clear q1 q2
  have h3 := Tri2.made w 44 a b
  have hbw := below_alloc3 w (.cells #[.int .i64 a.fr, .int .i64 a.to, .int .i64 a.kp, .int .i64 a.ad, .int .i64 a.t0, .int .i64 a.t1, .int .i64 a.t2] 44) (.cells #[.int .i64 b.fr, .int .i64 b.to, .int .i64 b.kp, .int .i64 b.ad, .int .i64 b.t0, .int .i64 b.t1, .int .i64 b.t2] 44) (.cells #[.int .i64 0, .int .i64 0, .int .i64 0, .int .i64 0, .int .i64 0, .int .i64 0, .int .i64 0] 44)
  have H3 := Lib.hid h3; have HB := Lib.hid hbw; clear h3 hbw
  have r1 := fun w => rightM_false h w
  have R1 := Lib.hid r1; clear r1
  clear h
  unfold Sm.v at *
  go_enter Tryz.func29, Tryz.ntmps29
  go_wp2_with fail
  refine (R1.out _).mono ?_; rintro e w2 ⟨rfl, hb2⟩
  have k3 := H3.out.below hb2
  have kb := HB.out.trans (hb2.mono HB.out.size); clear H3 HB
  have H3 := Lib.hid k3; have HB := Lib.hid kb; clear k3 kb hb2
  obtain ⟨f0, f1, f2, f3, f4, f5, f6⟩ := H3.out.2.2.free7
  obtain ⟨z0, z1, z2, z3, z4, z5, z6⟩ := H3.out.2.2.cells7
  go_wp2_with fail
  refine bodyPost_ret (v := .tuple #[.agg #[.int .i64 0, .int .i64 0, .int .i64 0, .int .i64 0, .int .i64 0, .int .i64 0, .int .i64 0], .bool false]) (two_results rfl _ _ _ 44 _ (0, 0) _ rfl (row_set7 H3.out.2.2) Tryz.underlying44 rfl (by kernel_rfl) rfl) rfl ?_
  exact ⟨rfl, below_set7 HB.out (by omega)⟩
set_option maxHeartbeats 1000000 in
theorem then_B (a b : Sm) (w : World) (h : a.R) (h2 : ¬ b.R) : Calls Tryz.prog 29 #[a.v, b.v] w fun e w' => e = .returned (.tuple #[(a.th b).v, .bool (a.thB b)]) ∧ Below w.heap.size w w' := by
  obtain ⟨q1, q2⟩ := Sm.th_no (a := a) (b := b) (fun g => h2 g.2.1)
  rw [q1, q2]; clear q1 q2
  have h3 := Tri2.made w 44 a b
  have hbw := below_alloc3 w (.cells #[.int .i64 a.fr, .int .i64 a.to, .int .i64 a.kp, .int .i64 a.ad, .int .i64 a.t0, .int .i64 a.t1, .int .i64 a.t2] 44) (.cells #[.int .i64 b.fr, .int .i64 b.to, .int .i64 b.kp, .int .i64 b.ad, .int .i64 b.t0, .int .i64 b.t1, .int .i64 b.t2] 44) (.cells #[.int .i64 0, .int .i64 0, .int .i64 0, .int .i64 0, .int .i64 0, .int .i64 0, .int .i64 0] 44)
  have H3 := Lib.hid h3; have HB := Lib.hid hbw; clear h3 hbw
  have r1 := fun w => rightM_true h w
  have r2 := fun w => rightM_false h2 w
  have R1 := Lib.hid r1; have R2 := Lib.hid r2; clear r1 r2
  clear h h2
  unfold Sm.v at *
  go_enter Tryz.func29, Tryz.ntmps29
  go_wp2_with fail
  refine (R1.out _).mono ?_; rintro e w2 ⟨rfl, hb2⟩
  have k3 := H3.out.below hb2
  have kb := HB.out.trans (hb2.mono HB.out.size); clear H3 HB
  have H3 := Lib.hid k3; have HB := Lib.hid kb; clear k3 kb hb2
  obtain ⟨a0, a1, a2, a3, a4, a5, a6⟩ := H3.out.1.cells7
  obtain ⟨b0, b1, b2, b3, b4, b5, b6⟩ := H3.out.2.1.cells7
  go_wp2_with fail
  clear a0 a1 a2 a3 a4 a5 a6 b0 b1 b2 b3 b4 b5 b6
  refine (R2.out _).mono ?_; rintro e w3 ⟨rfl, hb3⟩
  have k3 := H3.out.below hb3
  have kb := HB.out.trans (hb3.mono HB.out.size); clear H3 HB
  have H3 := Lib.hid k3; have HB := Lib.hid kb; clear k3 kb hb3
  obtain ⟨f0, f1, f2, f3, f4, f5, f6⟩ := H3.out.2.2.free7
  obtain ⟨z0, z1, z2, z3, z4, z5, z6⟩ := H3.out.2.2.cells7
  go_wp2_with fail
  refine bodyPost_ret (v := .tuple #[.agg #[.int .i64 0, .int .i64 0, .int .i64 0, .int .i64 0, .int .i64 0, .int .i64 0, .int .i64 0], .bool false]) (two_results rfl _ _ _ 44 _ (0, 0) _ rfl (row_set7 H3.out.2.2) Tryz.underlying44 rfl (by kernel_rfl) rfl) rfl ?_
  exact ⟨rfl, below_set7 HB.out (by omega)⟩
set_option maxHeartbeats 1000000 in
theorem then_C (a b : Sm) (w : World) (h : a.R) (h2 : b.R) (hd : ¬ a.to = b.fr) : Calls Tryz.prog 29 #[a.v, b.v] w fun e w' => e = .returned (.tuple #[(a.th b).v, .bool (a.thB b)]) ∧ Below w.heap.size w w' := by
  obtain ⟨q1, q2⟩ := Sm.th_no (a := a) (b := b) (fun g => hd g.2.2.1)
  rw [q1, q2]; clear q1 q2
  have h3 := Tri2.made w 44 a b
  have hbw := below_alloc3 w (.cells #[.int .i64 a.fr, .int .i64 a.to, .int .i64 a.kp, .int .i64 a.ad, .int .i64 a.t0, .int .i64 a.t1, .int .i64 a.t2] 44) (.cells #[.int .i64 b.fr, .int .i64 b.to, .int .i64 b.kp, .int .i64 b.ad, .int .i64 b.t0, .int .i64 b.t1, .int .i64 b.t2] 44) (.cells #[.int .i64 0, .int .i64 0, .int .i64 0, .int .i64 0, .int .i64 0, .int .i64 0, .int .i64 0] 44)
  have H3 := Lib.hid h3; have HB := Lib.hid hbw; clear h3 hbw
  have r1 := fun w => rightM_true h w
  have r2 := fun w => rightM_true h2 w
  have hn : (a.to != b.fr) = true := by simpa using hd
  have R1 := Lib.hid r1; have R2 := Lib.hid r2; clear r1 r2
  clear h h2 hd
  unfold Sm.v at *
  go_enter Tryz.func29, Tryz.ntmps29
  go_wp2_with fail
  refine (R1.out _).mono ?_; rintro e w2 ⟨rfl, hb2⟩
  have k3 := H3.out.below hb2
  have kb := HB.out.trans (hb2.mono HB.out.size); clear H3 HB
  have H3 := Lib.hid k3; have HB := Lib.hid kb; clear k3 kb hb2
  obtain ⟨a0, a1, a2, a3, a4, a5, a6⟩ := H3.out.1.cells7
  obtain ⟨b0, b1, b2, b3, b4, b5, b6⟩ := H3.out.2.1.cells7
  go_wp2_with fail
  clear a0 a1 a2 a3 a4 a5 a6 b0 b1 b2 b3 b4 b5 b6
  refine (R2.out _).mono ?_; rintro e w3 ⟨rfl, hb3⟩
  have k3 := H3.out.below hb3
  have kb := HB.out.trans (hb3.mono HB.out.size); clear H3 HB
  have H3 := Lib.hid k3; have HB := Lib.hid kb; clear k3 kb hb3
  obtain ⟨a0, a1, a2, a3, a4, a5, a6⟩ := H3.out.1.cells7
  obtain ⟨b0, b1, b2, b3, b4, b5, b6⟩ := H3.out.2.1.cells7
  obtain ⟨f0, f1, f2, f3, f4, f5, f6⟩ := H3.out.2.2.free7
  obtain ⟨z0, z1, z2, z3, z4, z5, z6⟩ := H3.out.2.2.cells7
  go_wp2_with fail
  refine bodyPost_ret (v := .tuple #[.agg #[.int .i64 0, .int .i64 0, .int .i64 0, .int .i64 0, .int .i64 0, .int .i64 0, .int .i64 0], .bool false]) (two_results rfl _ _ _ 44 _ (0, 0) _ rfl (row_set7 H3.out.2.2) Tryz.underlying44 rfl (by kernel_rfl) rfl) rfl ?_
  exact ⟨rfl, below_set7 HB.out (by omega)⟩
end

section
open Go.ChangeShapes Go.WideShapes Go.ChangeAt Go.RowKit Go.BigFrame
set_option maxRecDepth 100000
def pM (m0 m1 m2 : Int) (j : Nat) : Int := if j = 0 then m0 else if j = 1 then m1 else if j = 2 then m2 else 0
def Sm.part (fr tt : Int) (K : Nat) (m0 m1 m2 : Int) (k : Nat) : Sm :=
  ⟨fr, tt, ((min k K : Nat) : Int), if min k K = 0 then 0 else pM m0 m1 m2 (min k K - 1), if K < k then pM m0 m1 m2 K else 0, if K + 1 < k then pM m0 m1 m2 (K + 1) else 0, if K + 2 < k then pM m0 m1 m2 (K + 2) else 0⟩
end

section
namespace Free
section
variable {P : Program}
def updb (b : Nat → Bool) (i : Nat) : Nat → Bool := fun j => if j = i then true else b j
def updw (vs : Nat → Value) (i : Nat) (v : Value) : Nat → Value := fun j => if j = i then v else vs j
theorem updb_self {b : Nat → Bool} {i : Nat} : updb b i i = true := if_pos rfl
theorem updb_ne {b : Nat → Bool} {i j : Nat} (h : j ≠ i) : updb b i j = b j := if_neg h
theorem updw_self {vs : Nat → Value} {i : Nat} {v : Value} : updw vs i v i = v := if_pos rfl
theorem updw_ne {vs : Nat → Value} {i j : Nat} {v : Value} (h : j ≠ i) : updw vs i v j = vs j := if_neg h
theorem wp_key {id : Nat} {Q : Exit → Act → World → Prop} {a0 : Act} {w0 : World} {l : List Oper} (hm : P.follows .mixedOrders = true) (hB : okG l a0.tmps.size = true)
    (F : (Nat → Bool) → (Nat → Value) → World → Prop) (V : Nat → Value → Prop) (hF : ∀ vs, F (fun i => decide (l.length ≤ i)) vs w0.drew)
    (hstep : ∀ i o, l[i]? = some o → ∀ (b : Nat → Bool) (vs : Nat → Value) (a : Act) (w : World), (∀ t, t ∉ dsts l → a.eval (.tmp t) = a0.eval (.tmp t)) →
      (∀ j oj t, Region.waitsFor .any l.toArray i j = true → l[j]? = some oj → oj.dst = some t → b j = true ∧ a.eval (.tmp t) = vs j ∧ V j (a.eval (.tmp t))) → b i = false → F b vs w →
      Comes P l a o w (fun v w' => V i v ∧ F (updb b i) (updw vs i v) w'))
    (hend : ∀ (vs : Nat → Value) (w' : World), (∀ i, i < l.length → (∀ o, l[i]? = some o → o.dst.isSome = true) → V i (vs i)) → F (fun _ => true) vs w' → Q .normal (puts a0 l 0 vs) w') : (Code.region id l.toArray true).wp P Q a0 w0 := by
  simp only [okG, Bool.and_eq_true, decide_eq_true_eq] at hB
  obtain ⟨⟨hns, hnd⟩, hlt⟩ := hB
  have hlt' : ∀ t ∈ dsts l, t < a0.tmps.size := fun t ht => by simpa using List.all_eq_true.1 hlt t ht
  let Inv : Array Bool → Act → World → Prop := fun S a w => a.defers = a0.defers ∧ a.tmps.size = a0.tmps.size ∧ (∀ t, t ∉ dsts l → a.tmps.getD t undef = a0.tmps.getD t undef) ∧
    (∃ vs, F (fun i => S.getD i true) vs w ∧ ∀ i o t, l[i]? = some o → S.getD i false = true → o.dst = some t → a.tmps.getD t undef = vs i) ∧
    ∀ i o t, l[i]? = some o → S.getD i false = true → o.dst = some t → V i (a.tmps.getD t undef)
  have main : ∀ (fuel : Nat) (S : Array Bool) (a : Act) (w : World), S.toList.count false = fuel → Stage.Fit .any l.toArray S → Inv S a w → wpAny P .any l.toArray Q fuel S a w := by
    intro fuel
    have fin : ∀ (S : Array Bool) (a : Act) (w : World), Stage.Fit .any l.toArray S → (∀ i, S.getD i true = true) → Inv S a w → Q .normal a w := by
      rintro S a w hFit hS ⟨h1, h2, h3, ⟨vs, h4, h4'⟩, h5⟩
      have hSi : ∀ i, i < l.length → S.getD i false = true := fun i hi => by
        have h1 := hS i
        have : i < S.size := by rw [hFit.size]; simpa using hi
        simp [this] at h1 ⊢; exact h1
      have e : a = puts a0 l 0 vs := by
        have hp := puts_size l a0 0 vs
        refine act_ext (h1.trans hp.2.symm) (h2.trans hp.1.symm) (fun t ht => ?_)
        by_cases hm : t ∈ dsts l
        · obtain ⟨o, ho, e⟩ := List.mem_filterMap.1 hm
          obtain ⟨i, hi⟩ := List.getElem?_of_mem ho
          rw [puts_new l a0 0 _ i o t hnd hi e (hlt' t hm), Nat.zero_add]
          exact h4' i o t hi (hSi i (List.getElem?_eq_some_iff.1 hi).1) e
        · rw [puts_old _ _ _ _ _ hm]; exact h3 t hm
      rw [e]
      refine hend _ w (fun i hi hd => ?_) (by rw [show (fun i => S.getD i true) = fun _ => true from funext hS] at h4; exact h4)
      have hi' : l[i]? = some l[i] := List.getElem?_eq_getElem hi
      obtain ⟨t, ht⟩ := Option.isSome_iff_exists.1 (hd _ hi')
      have := h5 i _ t hi' (hSi i hi) ht
      rwa [h4' i _ t hi' (hSi i hi) ht] at this
    have one : ∀ (S : Array Bool) (a : Act) (w : World) (K : Act → World → Prop), Stage.Fit .any l.toArray S → Inv S a w → ∀ i ∈ Region.ready .any l.toArray S, (∀ a' w', Inv (S.setIfInBounds i true) a' w' → K a' w') → wpOp P l.toArray Q i K a w := by
      rintro S a w K hFit ⟨h1, h2, h3, ⟨vs, h4, h4'⟩, h5⟩ i hi hK
      obtain ⟨hun, o, ho, hall⟩ := mem_ready.1 hi
      have hol : l[i]? = some o := by simpa using ho
      unfold wpOp
      simp only [ho]
      have hpre : ∀ j oj t, Region.waitsFor .any l.toArray i j = true → l[j]? = some oj → oj.dst = some t → (fun i => S.getD i true) j = true ∧ a.eval (.tmp t) = vs j ∧ V j (a.eval (.tmp t)) := by
        intro j oj t hwt hj hd
        have hc := Stage.came hi hwt
        have hSj : S.getD j false = true := by
          have hjl : j < S.size := by rw [hFit.size]; simpa using (List.getElem?_eq_some_iff.1 hj).1
          simp [hjl] at hc ⊢; exact hc
        exact ⟨hc, h4' j oj t hj hSj hd, h5 j oj t hj hSj hd⟩
      have hs := hstep i o hol _ vs a w (fun t ht => h3 t ht) hpre hun h4
      have hSs : ∀ j, (S.setIfInBounds i true).getD j true = updb (fun i => S.getD i true) i j := fun j => by
        unfold updb
        by_cases hji : j = i
        · rw [if_pos hji, hji]; exact Stage.getD_set_self hun
        · rw [if_neg hji, getD_set_ne true (Ne.symm hji)]
      have step : ∀ v w', (V i v ∧ F (updb (fun i => S.getD i true) i) (updw vs i v) w') → K (a.put o.dst v) w' := by
        rintro v w' ⟨r1, r2⟩
        refine hK _ _ ⟨by rw [put_defers]; exact h1, by rw [put_size]; exact h2, fun t ht => ?_, ⟨updw vs i v, by rw [funext hSs]; exact r2, fun j oj t hj hSj hd => ?_⟩, fun j oj t hj hSj hd => ?_⟩
        · rw [put_getD _ _ _ _ (fun e => ht (mem_dsts hol e))]; exact h3 t ht
        · by_cases hij : i = j
          · subst hij
            obtain rfl : oj = o := Option.some.inj (hj.symm.trans hol)
            rw [hd, put_getD_self _ _ _ (by rw [h2]; exact hlt' t (mem_dsts hj hd))]
            exact updw_self.symm
          · rw [getD_set_ne false hij] at hSj
            rw [put_getD _ _ _ _ (fun e => hij (dst_ne hnd hol hj e hd)), updw_ne (Ne.symm hij)]
            exact h4' j oj t hj hSj hd
        · by_cases hij : i = j
          · subst hij
            obtain rfl : oj = o := Option.some.inj (hj.symm.trans hol)
            rw [hd, put_getD_self _ _ _ (by rw [h2]; exact hlt' t (mem_dsts hj hd))]
            exact r1
          · rw [getD_set_ne false hij] at hSj
            rw [put_getD _ _ _ _ (fun e => hij (dst_ne hnd hol hj e hd))]
            exact h5 j oj t hj hSj hd
      rcases hs with ⟨hw, hs⟩ | ⟨hw, hs⟩
      case inr => rw [if_neg (by rw [hw]; exact Bool.false_ne_true)]; exact step _ _ hs
      rw [if_pos hw]
      refine .inl ?_
      unfold Oper.wp
      generalize (execOp a.eval o).run P w = r at hs
      cases r with
      | ok n w' =>
        cases n <;> simp only [gets] at hs <;> simp only [Oper.upon]
        case value u => exact step _ _ hs
        case skip => exact step _ _ hs
        case enter f args => exact hs.mono fun e w'' ⟨v, he, h⟩ => by subst he; exact step _ _ h
      | halt x w' => simp only [gets] at hs
    induction fuel with
    | zero =>
      intro S a w hn hFit hI
      have hS : ∀ i, S.getD i true = true := fun i => by rw [Stage.getD_toList]; exact Stage.all_of_count hn i
      refine ⟨?_, fin S a w hFit hS hI⟩
      cases hr : Region.ready .any l.toArray S with
      | nil => rfl
      | cons i r =>
        have := (mem_ready.1 (show i ∈ Region.ready .any l.toArray S by rw [hr]; simp)).1
        rw [hS i] at this; cases this
    | succ fuel ih =>
      intro S a w hn hFit hI
      refine ⟨fun h0 => ?_, fun i hi => ?_⟩
      · refine fin S a w hFit (fun i => ?_) hI
        induction i using Nat.strongRecOn with
        | _ i ihi =>
          cases hx : S.getD i true with
          | true => rfl
          | false =>
            exfalso
            have hil : i < l.length := by
              rcases Nat.lt_or_ge i S.size with h' | h'
              · rw [hFit.size] at h'; simpa using h'
              · simp [Array.getElem?_eq_none h'] at hx
            have hup := List.all_eq_true.1 hns i (List.mem_range.2 hil)
            rw [List.getElem?_eq_getElem hil] at hup
            have hr : i ∈ Region.ready .any l.toArray S := by
              refine mem_ready.2 ⟨hx, l[i], by simp [hil], fun e he hbe => ?_⟩
              have h1 : e.on < i := by
                have := Array.all_eq_true_iff_forall_mem.1 hup e he
                simpa [hbe] using this
              have h2 := ihi e.on h1
              have h3 : e.on < S.size := by rw [hFit.size]; simp; omega
              simp [h3] at h2 ⊢; exact h2
            rw [h0] at hr; cases hr
      · have hun := (mem_ready.1 hi).1
        have hc : (S.setIfInBounds i true).toList.count false = fuel := by
          rw [Array.toList_setIfInBounds]
          have := Stage.count_set (l := S.toList) (i := i) (by rw [← Stage.getD_toList]; exact hun)
          omega
        exact one S a w _ hFit hI i hi (fun a' w' hI' => ih _ a' w' hc (hFit.set hi) hI')
  refine wp_region_any hm (main _ _ _ _ (by simp) (by simpa using Stage.Fit.start (md := .any) (ops := l.toArray)) ⟨rfl, rfl, fun _ _ => rfl, ⟨fun _ => undef, ?_, fun i o t _ h _ => ?_⟩, fun i o t _ h _ => ?_⟩)
  · have hS0 : (fun i => (Array.replicate l.toArray.size false).getD i true) = fun i => decide (l.length ≤ i) := by
      funext i
      by_cases h : i < l.length
      · simp [h]
      · simp [h]; omega
    rw [hS0]; exact hF _
  · rw [getD_replicate_false] at h; cases h
  · rw [getD_replicate_false] at h; cases h
end
end Free
end
end Go.Proofs.YtmhophmpbpbjaaaGreatDoor
