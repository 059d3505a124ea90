/- Which nodes are right, which graphs may be run: plain mathematics, of no code. -/
import Derived.Test.YtocdganglokplaaDoorGrTo
namespace Go.Proofs.YtocdganglokplaaDoor
set_option linter.unusedVariables false
/-- are its numbers right? -/
def Nd.num (n : Nd) : Bool :=
  if n.k = 2 then decide (n.a ≤ 3 ∧ (n.a ≠ 3 ∨ 0 < n.b))
  else if n.k = 3 then decide (n.a ≤ 2 ∧ (n.a ≠ 1 ∨ 0 < n.b))
  else if n.k = 5 then decide (n.a ≤ 3 ∧ n.b = 0)
  else if n.k = 9 then decide (n.a = 0 ∧ 1 ≤ n.b ∧ n.b ≤ 16)
  else decide (1 ≤ n.k ∧ n.k ≤ 10 ∧ n.a = 0 ∧ n.b = 0)
/-- how many inputs its kind has -/
def Nd.want (n : Nd) : Nat := if n.k = 1 then 0 else if n.k = 4 ∨ n.k = 6 then 2 else 1
/-- is z the place of a node that is no Output? -/
def portOk (g : List Nd) (z : Int) : Prop := 0 ≤ z ∧ ∃ m, g[z.toNat]? = some m ∧ m.k ≠ 10
def Nd.Ports (g : List Nd) (n : Nd) : Prop := (∀ z ∈ n.ins, portOk g z) ∧ n.ins.length = n.want
def Nd.more (n : Nd) : Int := if n.k = 7 then 1 else if n.k = 8 then -1 else 0
/-- is its depth right, of itself? -/
def Nd.deepB (n : Nd) : Bool := decide (0 ≤ n.d ∧ n.d ≤ 3 ∧ ((n.k = 1 ∨ n.k = 10) → n.d = 0) ∧ (n.k = 9 → 1 ≤ n.d))
def Nd.Deep (g : List Nd) (n : Nd) : Prop := n.deepB = true ∧ ∀ z ∈ n.ins, ∀ m, g[z.toNat]? = some m → n.d - n.more = m.d
open Classical in
/-- the error of a node that is there -/
noncomputable def Nd.err (g : List Nd) (n : Nd) : Int := if n.num = false then 130 else if ¬ n.Ports g then 100 else if ¬ n.Deep g then 101 else 0
/-- the error of the node at i -/
noncomputable def nodeE (g : List Nd) (i : Int) : Int := if i < 0 then 2 else match g[i.toNat]? with | some n => n.err g | none => 2
theorem nodeE_at {g : List Nd} {i : Nat} {n : Nd} (h : g[i]? = some n) : nodeE g (i : Nat) = n.err g := by
  unfold nodeE; rw [if_neg (by omega), Int.toNat_natCast, h]
theorem nodeE_out {g : List Nd} {i : Int} (h : i < 0 ∨ (g.length : Int) ≤ i) : nodeE g i = 2 := by
  unfold nodeE
  split
  · rfl
  · rw [List.getElem?_eq_none (by omega)]
theorem err_num {g : List Nd} {n : Nd} (h : n.num = false) : n.err g = 130 := by unfold Nd.err; rw [if_pos h]
theorem err_ports {g : List Nd} {n : Nd} (h : n.num = true) (h2 : ¬ n.Ports g) : n.err g = 100 := by unfold Nd.err; rw [if_neg (by simp [h]), if_pos h2]
theorem err_deep {g : List Nd} {n : Nd} (h : n.num = true) (h2 : n.Ports g) (h3 : ¬ n.Deep g) : n.err g = 101 := by unfold Nd.err; rw [if_neg (by simp [h]), if_neg (by simpa using h2), if_pos h3]
theorem err_ok {g : List Nd} {n : Nd} (h : n.num = true) (h2 : n.Ports g) (h3 : n.Deep g) : n.err g = 0 := by unfold Nd.err; rw [if_neg (by simp [h]), if_neg (by simpa using h2), if_neg (by simpa using h3)]
theorem err_zero {g : List Nd} {n : Nd} (h : n.err g = 0) : n.num = true ∧ n.Ports g ∧ n.Deep g := by
  unfold Nd.err at h
  split at h
  · cases h
  · split at h
    · cases h
    · split at h
      · cases h
      · rename_i h1 h2 h3
        exact ⟨by simpa using h1, by simpa using h2, by simpa using h3⟩
open Classical in
/-- the least place below n of which p holds -/
noncomputable def firstP (p : Nat → Prop) : Nat → Option Nat
  | 0 => none
  | n + 1 => match firstP p n with | some i => some i | none => if p n then some n else none
theorem firstP_none {p : Nat → Prop} : ∀ {n : Nat}, firstP p n = none ↔ ∀ j, j < n → ¬ p j
  | 0 => by simp [firstP]
  | n + 1 => by
    have ih := firstP_none (p := p) (n := n)
    unfold firstP
    cases h : firstP p n with
    | some i =>
      simp only [reduceCtorEq, false_iff]
      intro hh
      rw [ih.2 fun j hj => hh j (by omega)] at h
      cases h
    | none =>
      have h1 := ih.1 h
      by_cases hp : p n
      · simp only [if_pos hp, reduceCtorEq, false_iff]
        exact fun hh => hh n (by omega) hp
      · simp only [if_neg hp, true_iff]
        intro j hj
        by_cases e : j = n
        · subst e; exact hp
        · exact h1 j (by omega)
theorem firstP_some {p : Nat → Prop} : ∀ {n i : Nat}, firstP p n = some i ↔ i < n ∧ p i ∧ ∀ j, j < i → ¬ p j
  | 0, i => by simp [firstP]
  | n + 1, i => by
    have ih := fun i => firstP_some (p := p) (n := n) (i := i)
    have ihn := firstP_none (p := p) (n := n)
    unfold firstP
    cases h : firstP p n with
    | some k =>
      simp only [Option.some.injEq]
      have hk := (ih k).1 h
      constructor
      · rintro rfl; exact ⟨by omega, hk.2⟩
      · rintro ⟨h1, h2, h3⟩
        by_cases e : k = i
        · exact e
        · by_cases hlt : k < i
          · exact absurd hk.2.1 (h3 k hlt)
          · exact absurd h2 (hk.2.2 i (by omega))
    | none =>
      have hn := ihn.1 h
      by_cases hp : p n
      · simp only [if_pos hp, Option.some.injEq]
        constructor
        · rintro rfl; exact ⟨by omega, hp, hn⟩
        · rintro ⟨h1, h2, h3⟩
          by_cases e : n = i
          · exact e
          · exact absurd h2 (hn i (by omega))
      · simp only [if_neg hp, reduceCtorEq, false_iff]
        rintro ⟨h1, h2, h3⟩
        by_cases e : i = n
        · subst e; exact hp h2
        · exact hn i (by omega) h2
/-- may a node stand in a cycle whose least depth is that one, and of which no Feedback has it? -/
def Nd.stays (n : Nd) (least : Int) : Bool := decide (least < n.d ∨ n.d = least ∧ n.k ≠ 9)
/-- a state: a place, doubled, and 1 more where a node of the least depth was met -/
def StepN (g : List Nd) (least : Int) (s t : Nat) : Prop :=
  ∃ x, g[t / 2]? = some x ∧ ((s / 2 : Nat) : Int) ∈ x.ins ∧ x.stays least = true ∧ t = 2 * (t / 2) + if x.d = least then 1 else s % 2
inductive ReachN (g : List Nd) (least : Int) (s : Nat) : Nat → Prop
  | one {t : Nat} : StepN g least s t → ReachN g least s t
  | more {t u : Nat} : ReachN g least s t → StepN g least t u → ReachN g least s u
def startN (x : Nd) (i : Nat) (least : Int) : Nat := 2 * i + if x.d = least then 1 else 0
/-- does the node at i stand in a cycle whose least depth is that one, and of which no Feedback has it? -/
def Stuck (g : List Nd) (i : Nat) (least : Int) : Prop := ∃ x, g[i]? = some x ∧ x.stays least = true ∧ ReachN g least (startN x i least) (2 * i + 1)
/-- does it stand in a cycle that doesn't go on? -/
def BadAt (g : List Nd) (i : Nat) : Prop := ∃ x, g[i]? = some x ∧ ∃ least : Int, 0 ≤ least ∧ least ≤ x.d ∧ Stuck g i least
theorem ReachN.trans {g : List Nd} {least : Int} {s t u : Nat} (h : ReachN g least s t) (k : ReachN g least t u) : ReachN g least s u := by
  induction k with
  | one k => exact h.more k
  | more _ k ih => exact ih.more k
theorem StepN.lt {g : List Nd} {least : Int} {s t : Nat} (h : StepN g least s t) : t < 2 * g.length := by
  obtain ⟨x, hx, _⟩ := h
  have := (List.getElem?_eq_some_iff.1 hx).1
  omega
/-- Check: a place, and an error -/
noncomputable def checkR (g : List Nd) : Int × Int :=
  if putE g ≠ 0 then (0, putE g)
  else match firstP (fun i => nodeE g i ≠ 0) g.length with
    | some i => ((i : Nat), nodeE g i)
    | none => match firstP (BadAt g) g.length with
      | some i => ((i : Nat), 102)
      | none => (g.length, 0)
theorem checkR_put {g : List Nd} (h : putE g ≠ 0) : checkR g = (0, putE g) := by unfold checkR; rw [if_pos h]
theorem checkR_node {g : List Nd} {i : Nat} (h : putE g = 0) (hi : i < g.length) (h1 : nodeE g i ≠ 0) (h2 : ∀ j : Nat, j < i → nodeE g j = 0) : checkR g = (((i : Nat) : Int), nodeE g i) := by
  unfold checkR
  rw [if_neg (by simpa using h), firstP_some.2 ⟨hi, h1, fun j hj => by simpa using h2 j hj⟩]
theorem checkR_bad {g : List Nd} {i : Nat} (h : putE g = 0) (h2 : ∀ j : Nat, j < g.length → nodeE g j = 0) (hi : i < g.length) (hb : BadAt g i) (hn : ∀ j, j < i → ¬ BadAt g j) : checkR g = (((i : Nat) : Int), 102) := by
  unfold checkR
  rw [if_neg (by simpa using h), firstP_none.2 fun j hj => by simpa using h2 j hj]
  simp only
  rw [firstP_some.2 ⟨hi, hb, hn⟩]
theorem checkR_ok {g : List Nd} (h : putE g = 0) (h2 : ∀ j : Nat, j < g.length → nodeE g j = 0) (hn : ∀ j, j < g.length → ¬ BadAt g j) : checkR g = ((g.length : Int), 0) := by
  unfold checkR
  rw [if_neg (by simpa using h), firstP_none.2 fun j hj => by simpa using h2 j hj]
  simp only
  rw [firstP_none.2 hn]
/-- what follows of a graph that may be run -/
theorem checkR_zero {g : List Nd} (h : (checkR g).2 = 0) : putE g = 0 ∧ (∀ j : Nat, j < g.length → nodeE g j = 0) ∧ (∀ j, j < g.length → ¬ BadAt g j) ∧ checkR g = ((g.length : Int), 0) := by
  by_cases h0 : putE g = 0
  · unfold checkR at h
    rw [if_neg (by simpa using h0)] at h
    cases h1 : firstP (fun i => nodeE g i ≠ 0) g.length with
    | some i =>
      rw [h1] at h
      exact absurd h (firstP_some.1 h1).2.1
    | none =>
      rw [h1] at h
      have h1' : ∀ j : Nat, j < g.length → nodeE g j = 0 := fun j hj => Classical.not_not.1 (firstP_none.1 h1 j hj)
      cases h2 : firstP (BadAt g) g.length with
      | some i =>
        rw [h2] at h
        cases h
      | none => exact ⟨h0, h1', firstP_none.1 h2, checkR_ok h0 h1' (firstP_none.1 h2)⟩
  · rw [checkR_put h0] at h
    exact absurd h h0
end Go.Proofs.YtocdganglokplaaDoor
