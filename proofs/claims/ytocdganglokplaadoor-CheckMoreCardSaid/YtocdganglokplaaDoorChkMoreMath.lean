/- A graph with a node more that others feed and that feeds none: plain mathematics, of no code. -/
import Derived.Test.YtocdganglokplaaDoorChkRunA
namespace Go.Proofs.YtocdganglokplaaDoor
set_option linter.unusedVariables false
theorem may_putE {g : List Nd} (h : GMay g) : putE g = 0 := by
  unfold putE
  rw [if_neg (by have := h.1; omega), if_pos (mayB_iff.2 h)]
theorem putE_may' {g : List Nd} (h : putE g = 0) : GMay g := by
  unfold putE at h
  split at h
  · cases h
  · split at h
    · rename_i h1; exact mayB_iff.1 h1
    · cases h
theorem more_at {g : List Nd} {x : Nd} {j : Nat} (h : j < g.length) : (g ++ [x])[j]? = g[j]? := List.getElem?_append_left h
theorem more_end (g : List Nd) (x : Nd) : (g ++ [x])[g.length]? = some x := by rw [List.getElem?_append_right (Nat.le_refl _), Nat.sub_self]; rfl
theorem more_len (g : List Nd) (x : Nd) : (g ++ [x]).length = g.length + 1 := by rw [List.length_append, List.length_singleton]
/-- an input of a node of a graph whose nodes are right lies in it -/
theorem ins_in {g : List Nd} (h : ∀ j : Nat, j < g.length → nodeE g j = 0) {j : Nat} {n : Nd} (hn : g[j]? = some n) {z : Int} (hz : z ∈ n.ins) : 0 ≤ z ∧ z.toNat < g.length := by
  have h1 := h j (List.getElem?_eq_some_iff.1 hn).1
  rw [nodeE_at hn] at h1
  obtain ⟨_, h2, _⟩ := err_zero h1
  obtain ⟨h3, m, hm, _⟩ := h2.1 z hz
  exact ⟨h3, (List.getElem?_eq_some_iff.1 hm).1⟩
theorem err_more {g : List Nd} (x : Nd) {n : Nd} (h : n.err g = 0) : n.err (g ++ [x]) = 0 := by
  obtain ⟨h1, h2, h3⟩ := err_zero h
  have hp : ∀ z ∈ n.ins, (g ++ [x])[z.toNat]? = g[z.toNat]? := fun z hz => by
    obtain ⟨_, m, hm, _⟩ := h2.1 z hz
    exact more_at (List.getElem?_eq_some_iff.1 hm).1
  refine err_ok h1 ⟨fun z hz => ?_, h2.2⟩ ⟨h3.1, fun z hz m hm => h3.2 z hz m (by rw [← hp z hz]; exact hm)⟩
  obtain ⟨h4, m, hm, h5⟩ := h2.1 z hz
  exact ⟨h4, m, by rw [hp z hz]; exact hm, h5⟩
/-- a step of the graph with a node more: to the new node, or one of the graph -/
theorem step_more {g : List Nd} {x : Nd} {least : Int} {s t : Nat} (h : StepN (g ++ [x]) least s t) : t / 2 = g.length ∨ StepN g least s t := by
  obtain ⟨y, hy, h1⟩ := h
  by_cases e : t / 2 < g.length
  · rw [more_at e] at hy
    exact .inr ⟨y, hy, h1⟩
  · have := (List.getElem?_eq_some_iff.1 hy).1
    rw [more_len] at this
    exact .inl (by omega)
/-- from the new node no step goes -/
theorem step_end {g : List Nd} {x : Nd} (h : ∀ j : Nat, j < g.length → nodeE g j = 0) (hx : ∀ z ∈ x.ins, z.toNat < g.length) {least : Int} {s t : Nat} (hs : s / 2 = g.length) : ¬ StepN (g ++ [x]) least s t := by
  rintro ⟨y, hy, h1, _⟩
  have hin : ∀ z ∈ y.ins, z.toNat < g.length := by
    by_cases e : t / 2 < g.length
    · rw [more_at e] at hy
      exact fun z hz => (ins_in h hy hz).2
    · have := (List.getElem?_eq_some_iff.1 hy).1
      rw [more_len] at this
      have e1 : t / 2 = g.length := by omega
      rw [e1, more_end] at hy
      cases hy
      exact hx
  have := hin _ h1
  rw [Int.toNat_natCast] at this
  omega
theorem reach_more {g : List Nd} {x : Nd} (h : ∀ j : Nat, j < g.length → nodeE g j = 0) (hx : ∀ z ∈ x.ins, z.toNat < g.length) {least : Int} {s t : Nat} (k : ReachN (g ++ [x]) least s t) : t / 2 = g.length ∨ ReachN g least s t := by
  induction k with
  | one k => exact (step_more k).imp id .one
  | more _ k ih =>
    rcases ih with ih | ih
    · exact absurd k (step_end h hx ih)
    · exact (step_more k).imp id fun k => ih.more k
theorem reach_end {g : List Nd} {x : Nd} (h : ∀ j : Nat, j < g.length → nodeE g j = 0) (hx : ∀ z ∈ x.ins, z.toNat < g.length) {least : Int} {s t : Nat} (hs : s / 2 = g.length) (k : ReachN (g ++ [x]) least s t) : False := by
  induction k with
  | one k => exact step_end h hx hs k
  | more _ _ ih => exact ih
theorem startN_half (x : Nd) (i : Nat) (least : Int) : startN x i least / 2 = i := by unfold startN; split <;> omega
theorem bad_more {g : List Nd} {x : Nd} (h : ∀ j : Nat, j < g.length → nodeE g j = 0) (hx : ∀ z ∈ x.ins, z.toNat < g.length) {j : Nat} (hj : j < g.length + 1) (hb : BadAt (g ++ [x]) j) : j < g.length ∧ BadAt g j := by
  obtain ⟨y, hy, least, h1, h2, y', hy', h3, h4⟩ := hb
  by_cases e : j < g.length
  · refine ⟨e, y, by rw [← more_at e]; exact hy, least, h1, h2, y', by rw [← more_at e]; exact hy', h3, ?_⟩
    rcases reach_more h hx h4 with h5 | h5
    · omega
    · exact h5
  · exact absurd h4 fun h4 => reach_end h hx (by rw [startN_half]; omega) h4
/-- a graph that may be run may be run with a node more that is right -/
theorem check_more {g : List Nd} {x : Nd} (h : (checkR g).2 = 0) (hl : g.length ≤ 31) (hm : x.May) (he : x.err (g ++ [x]) = 0) (hx : ∀ z ∈ x.ins, z.toNat < g.length) : checkR (g ++ [x]) = (((g.length : Int) + 1), 0) := by
  obtain ⟨h0, h1, h2, _⟩ := checkR_zero h
  have hg := putE_may' h0
  have := checkR_ok (g := g ++ [x]) (may_putE ⟨by rw [more_len]; omega, fun n hn => by
      rcases List.mem_append.1 hn with hn | hn
      · exact hg.2 n hn
      · rw [List.mem_singleton] at hn; subst hn; exact hm⟩) (fun j hj => by
      rw [more_len] at hj
      by_cases e : j < g.length
      · obtain ⟨n, hn⟩ : ∃ n, g[j]? = some n := ⟨_, List.getElem?_eq_getElem e⟩
        have h3 := h1 j e
        rw [nodeE_at hn] at h3
        rw [nodeE_at (by rw [more_at e]; exact hn)]
        exact err_more x h3
      · obtain rfl : j = g.length := by omega
        rw [nodeE_at (more_end g x)]
        exact he) (fun j hj hb => by
      rw [more_len] at hj
      obtain ⟨e, hb⟩ := bad_more h1 hx hj hb
      exact h2 j e hb)
  rw [this, more_len]
  rfl
/-- with a node more that is wrong it may not be run -/
theorem check_wrong {g : List Nd} {x : Nd} (he : x.err (g ++ [x]) ≠ 0) : (checkR (g ++ [x])).2 ≠ 0 := fun h => by
  obtain ⟨_, h1, _⟩ := checkR_zero h
  have := h1 g.length (by rw [more_len]; omega)
  rw [nodeE_at (more_end g x)] at this
  exact he this
theorem may_more {g : List Nd} {x : Nd} {T : List Nat} {i : Nat} (hi : i < g.length) : MayNext (g ++ [x]) T i ↔ MayNext g T i := by
  unfold MayNext; rw [more_at hi]
/-- every place stands in a full order -/
theorem full_mem {T : List Nat} {n : Nat} (hd : T.Nodup) (hl : ∀ x ∈ T, x < n) (hn : T.length = n) {i : Nat} (hi : i < n) : i ∈ T := by
  apply Classical.byContradiction
  intro hm
  have h1 := nodup_le (l := i :: T) (m := List.range n) (List.nodup_cons.2 ⟨hm, hd⟩) (fun x hx => by
    rcases List.mem_cons.1 hx with e | hx
    · subst e; exact List.mem_range.2 hi
    · exact List.mem_range.2 (hl x hx))
  rw [List.length_range, List.length_cons] at h1
  omega
theorem ordT_more {g : List Nd} {x : Nd} {T : List Nat} (hT : OrdT g T) (hn : T.length = g.length) (hx : ∀ z ∈ x.ins, 0 ≤ z ∧ z.toNat < g.length) : OrdT (g ++ [x]) (T ++ [g.length]) := by
  have h1 : OrdT (g ++ [x]) T := fun j i hj => by
    have h2 := hT j i hj
    unfold nextO at h2 ⊢
    obtain ⟨h3, h4, h5⟩ := firstP_some.1 h2
    exact firstP_some.2 ⟨by rw [more_len]; omega, (may_more h3).2 h4, fun k hk hm => h5 k hk ((may_more (by omega)).1 hm)⟩
  have hall := fun i hi => full_mem hT.nodup hT.lt hn (i := i) hi
  refine h1.snoc (firstP_some.2 ⟨by rw [more_len]; omega, ⟨fun hm => ?_, x, more_end g x, .inr fun z hz => ⟨(hx z hz).1, hall _ (hx z hz).2⟩⟩, fun j hj hm => hm.1 (hall j hj)⟩)
  have := hT.lt _ hm
  omega
/-- and its order is the same, with it at the end -/
theorem order_more {g : List Nd} {x : Nd} (h : (checkR g).2 = 0) (h2 : (checkR (g ++ [x])).2 = 0) (hx : ∀ z ∈ x.ins, 0 ≤ z ∧ z.toNat < g.length) : ∃ T, orderR g = (T, 0) ∧ OrdT g T ∧ T.length = g.length ∧ orderR (g ++ [x]) = (T ++ [g.length], 0) := by
  obtain ⟨T, h3, h4, h5⟩ := order_there h
  exact ⟨T, h3, h4, h5, orderR_ok h2 (ordT_more h4 h5 hx) (by rw [more_len, List.length_append, List.length_singleton, h5])⟩
/-- the node that the statement adds -/
def addN (k : Nat) (d : Int) (z : Nat) : Nd := ⟨k, 0, 0, d, [(z : Int)]⟩
theorem addN_ok {g : List Nd} {z k : Nat} {m : Nd} (h : (checkR g).2 = 0) (hm : g[z]? = some m) (hk : m.k ≠ 10) (h1 : k = 2 ∨ k = 3 ∨ k = 5 ∨ k = 8 ∨ k = 10) {d : Int} (hd : d = if k = 8 then m.d - 1 else m.d) (x : Nd) (hx : x = addN k d z) :
    (x.err (g ++ [x]) = 0 ↔ (k = 8 → 0 ≤ d) ∧ (k = 10 → d = 0)) ∧ ((k = 8 → 0 ≤ d) → g.length ≤ 32 → x.May) := by
  obtain ⟨h0, hn, _, _⟩ := checkR_zero h
  have hzl := (List.getElem?_eq_some_iff.1 hm).1
  have hmz := hn z hzl
  rw [nodeE_at hm] at hmz
  have hdm := (err_zero hmz).2.2.1
  unfold Nd.deepB at hdm
  rw [decide_eq_true_eq] at hdm
  have hmx : (g ++ [x])[z]? = some m := by rw [more_at hzl]; exact hm
  subst hx
  constructor
  · constructor
    · intro he
      have hb := (err_zero he).2.2.1
      unfold Nd.deepB at hb
      rw [decide_eq_true_eq] at hb
      exact ⟨fun _ => hb.1, fun e => hb.2.2.1 (.inr e)⟩
    · rintro ⟨e8, e10⟩
      refine err_ok ?_ ⟨fun y hy => ?_, ?_⟩ ⟨?_, fun y hy n hn => ?_⟩
      · rcases h1 with rfl | rfl | rfl | rfl | rfl <;> rfl
      · obtain rfl := List.mem_singleton.1 hy
        exact ⟨by omega, m, by rw [Int.toNat_natCast]; exact hmx, hk⟩
      · rcases h1 with rfl | rfl | rfl | rfl | rfl <;> rfl
      · unfold Nd.deepB
        rw [decide_eq_true_eq]
        unfold addN
        simp only
        refine ⟨?_, ?_, ?_, ?_⟩
        · split at hd <;> omega
        · split at hd <;> omega
        · rintro (e | e)
          · omega
          · exact e10 e
        · intro e; omega
      · obtain rfl := List.mem_singleton.1 hy
        rw [Int.toNat_natCast, hmx] at hn
        cases hn
        unfold Nd.more addN
        simp only
        split at hd
        · rw [if_neg (by omega), if_pos (by omega)]; omega
        · rw [if_neg (by omega), if_neg (by omega)]; omega
  · intro e8 hl
    unfold addN Nd.May
    simp only
    refine ⟨?_, by simp, fun y hy => ?_⟩
    · split at hd
      · rename_i e; have := e8 e; omega
      · omega
    · obtain rfl := List.mem_singleton.1 hy
      omega
/-- how deep a place lies is at most its place in the order -/
def Deeps (T : List Nat) (D : List Int) : Prop := ∀ (j m : Nat), T[j]? = some m → ∃ v, D[m]? = some v ∧ 0 ≤ v ∧ v ≤ j
theorem Deeps.start (D : List Int) : Deeps [] D := fun j m h => by simp at h
theorem Deeps.mem {T : List Nat} {D : List Int} (h : Deeps T D) {m : Nat} (hm : m ∈ T) : ∃ v, D[m]? = some v ∧ 0 ≤ v ∧ v < T.length := by
  obtain ⟨j, hj⟩ := List.getElem?_of_mem hm
  obtain ⟨v, h1, h2, h3⟩ := h j m hj
  have := (List.getElem?_eq_some_iff.1 hj).1
  exact ⟨v, h1, h2, by omega⟩
theorem Deeps.set {T : List Nat} {D : List Int} (h : Deeps T D) {t : Nat} (ht : t ∉ T) (v : Int) : Deeps T (D.set t v) := fun j m hj => by
  obtain ⟨u, h1, h2⟩ := h j m hj
  have : t ≠ m := fun e => ht (e ▸ List.mem_of_getElem? hj)
  exact ⟨u, by rw [List.getElem?_set_ne this]; exact h1, h2⟩
theorem Deeps.snoc {T : List Nat} {D : List Int} (h : Deeps T D) {t : Nat} {v : Int} (ht : D[t]? = some v) (h0 : 0 ≤ v) (hv : v ≤ T.length) : Deeps (T ++ [t]) D := fun j m hj => by
  by_cases e : j < T.length
  · rw [List.getElem?_append_left e] at hj
    exact h j m hj
  · have hl := (List.getElem?_eq_some_iff.1 hj).1
    simp only [List.length_append, List.length_singleton] at hl
    obtain rfl : j = T.length := by omega
    rw [List.getElem?_append_right (Nat.le_refl _), Nat.sub_self] at hj
    simp only [List.getElem?_cons_zero, Option.some.injEq] at hj
    subst hj
    exact ⟨v, ht, h0, hv⟩
end Go.Proofs.YtocdganglokplaaDoor
