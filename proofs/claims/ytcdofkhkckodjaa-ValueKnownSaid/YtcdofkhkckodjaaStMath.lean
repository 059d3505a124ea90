/- Times: right ones, their order, joins and meets, loops: plain mathematics, of no code. -/
import Derived.Below
namespace Go.Proofs.Ytcdofkhkckodjaa
set_option linter.unusedVariables false
set_option maxRecDepth 100000
/-- a time: its depth, its epoch, its three counters -/
structure St where
  d : Int
  e : Int
  x : Int
  y : Int
  z : Int
theorem St.ext' {a b : St} (h1 : a.d = b.d) (h2 : a.e = b.e) (h3 : a.x = b.x) (h4 : a.y = b.y) (h5 : a.z = b.z) : a = b := by
  cases a; cases b; simp at h1 h2 h3 h4 h5; simp [h1, h2, h3, h4, h5]
theorem St.ext_iff' {a b : St} : a = b ↔ a.d = b.d ∧ a.e = b.e ∧ a.x = b.x ∧ a.y = b.y ∧ a.z = b.z :=
  ⟨by rintro rfl; simp, fun ⟨h1, h2, h3, h4, h5⟩ => St.ext' h1 h2 h3 h4 h5⟩
instance : DecidableEq St := fun a b => decidable_of_iff _ St.ext_iff'.symm
/-- is it right? -/
def St.R (t : St) : Prop := (0 ≤ t.d ∧ t.d ≤ 3) ∧ (0 ≤ t.e ∧ t.e < 1000) ∧ (0 ≤ t.x ∧ t.x < 16 ∧ (t.d ≤ 0 → t.x = 0)) ∧ (0 ≤ t.y ∧ t.y < 16 ∧ (t.d ≤ 1 → t.y = 0)) ∧ (0 ≤ t.z ∧ t.z < 16 ∧ (t.d ≤ 2 → t.z = 0))
instance (t : St) : Decidable t.R := inferInstanceAs (Decidable (_ ∧ _))
/-- is a at or ahead of b? -/
def St.L (a b : St) : Prop := a.R ∧ b.R ∧ a.d = b.d ∧ a.e ≤ b.e ∧ a.x ≤ b.x ∧ a.y ≤ b.y ∧ a.z ≤ b.z
instance (a b : St) : Decidable (a.L b) := inferInstanceAs (Decidable (_ ∧ _))
def sgn (a b : Int) : Int := if a < b then -1 else if b < a then 1 else 0
/-- the order by depth, epoch, counters -/
def St.C (a b : St) : Int :=
  if sgn a.d b.d ≠ 0 then sgn a.d b.d else if sgn a.e b.e ≠ 0 then sgn a.e b.e else if sgn a.x b.x ≠ 0 then sgn a.x b.x else if sgn a.y b.y ≠ 0 then sgn a.y b.y else sgn a.z b.z
/-- have they a join? -/
def St.B (a b : St) : Prop := a.R ∧ b.R ∧ a.d = b.d
instance (a b : St) : Decidable (a.B b) := inferInstanceAs (Decidable (_ ∧ _))
def St.zero : St := ⟨0, 0, 0, 0, 0⟩
def St.join (a b : St) : St := if a.B b then ⟨a.d, max a.e b.e, max a.x b.x, max a.y b.y, max a.z b.z⟩ else St.zero
def St.meet (a b : St) : St := if a.B b then ⟨a.d, min a.e b.e, min a.x b.x, min a.y b.y, min a.z b.z⟩ else St.zero
section
variable {a b c : St}
theorem sgn_cases (a b : Int) : (a < b ∧ sgn a b = -1) ∨ (b < a ∧ sgn a b = 1) ∨ (a = b ∧ sgn a b = 0) := by
  unfold sgn
  by_cases h : a < b
  · exact .inl ⟨h, if_pos h⟩
  · by_cases h2 : b < a
    · exact .inr (.inl ⟨h2, by rw [if_neg h, if_pos h2]⟩)
    · exact .inr (.inr ⟨by omega, by rw [if_neg h, if_neg h2]⟩)
/-- what Compare's number says -/
theorem St.C_neg : a.C b < 0 ↔ a.d < b.d ∨ a.d = b.d ∧ (a.e < b.e ∨ a.e = b.e ∧ (a.x < b.x ∨ a.x = b.x ∧ (a.y < b.y ∨ a.y = b.y ∧ a.z < b.z))) := by
  unfold St.C
  rcases sgn_cases a.d b.d with ⟨h1, e1⟩ | ⟨h1, e1⟩ | ⟨h1, e1⟩ <;> rw [e1] <;>
  rcases sgn_cases a.e b.e with ⟨h2, e2⟩ | ⟨h2, e2⟩ | ⟨h2, e2⟩ <;> rw [e2] <;>
  rcases sgn_cases a.x b.x with ⟨h3, e3⟩ | ⟨h3, e3⟩ | ⟨h3, e3⟩ <;> rw [e3] <;>
  rcases sgn_cases a.y b.y with ⟨h4, e4⟩ | ⟨h4, e4⟩ | ⟨h4, e4⟩ <;> rw [e4] <;>
  rcases sgn_cases a.z b.z with ⟨h5, e5⟩ | ⟨h5, e5⟩ | ⟨h5, e5⟩ <;> rw [e5] <;> simp <;> omega
theorem sgn_swap (a b : Int) : sgn a b = - sgn b a := by
  rcases sgn_cases a b with ⟨h, e⟩ | ⟨h, e⟩ | ⟨h, e⟩ <;> rcases sgn_cases b a with ⟨h2, e2⟩ | ⟨h2, e2⟩ | ⟨h2, e2⟩ <;> rw [e, e2] <;> omega
theorem sgn_zero {a b : Int} : sgn a b = 0 ↔ a = b := by
  rcases sgn_cases a b with ⟨h, e⟩ | ⟨h, e⟩ | ⟨h, e⟩ <;> rw [e] <;> simp <;> omega
theorem St.C_swap : a.C b = - b.C a := by
  unfold St.C
  rw [sgn_swap a.d b.d, sgn_swap a.e b.e, sgn_swap a.x b.x, sgn_swap a.y b.y, sgn_swap a.z b.z]
  generalize sgn b.d a.d = s1
  generalize sgn b.e a.e = s2
  generalize sgn b.x a.x = s3
  generalize sgn b.y a.y = s4
  generalize sgn b.z a.z = s5
  by_cases h1 : s1 = 0
  · by_cases h2 : s2 = 0
    · by_cases h3 : s3 = 0
      · by_cases h4 : s4 = 0
        · simp [h1, h2, h3, h4]
        · simp [h1, h2, h3, h4]
      · simp [h1, h2, h3]
    · simp [h1, h2]
  · simp [h1]
theorem St.C_zero : a.C b = 0 ↔ a = b := by
  rw [St.ext_iff', ← sgn_zero (a := a.d), ← sgn_zero (a := a.e), ← sgn_zero (a := a.x), ← sgn_zero (a := a.y), ← sgn_zero (a := a.z)]
  unfold St.C
  by_cases h1 : sgn a.d b.d = 0
  · by_cases h2 : sgn a.e b.e = 0
    · by_cases h3 : sgn a.x b.x = 0
      · by_cases h4 : sgn a.y b.y = 0
        · simp [h1, h2, h3, h4]
        · simp [h1, h2, h3, h4]
      · simp [h1, h2, h3]
    · simp [h1, h2]
  · simp [h1]
theorem St.C_le : a.C b ≤ 0 ↔ a.C b < 0 ∨ a = b := by
  rw [← St.C_zero]; omega
theorem St.C_trans (h1 : a.C b ≤ 0) (h2 : b.C c ≤ 0) : a.C c ≤ 0 := by
  rw [St.C_le, St.C_neg, St.ext_iff'] at *
  omega
theorem St.L_antisymm (h1 : a.L b) (h2 : b.L a) : a = b := by
  unfold St.L at *
  exact St.ext' (by omega) (by omega) (by omega) (by omega) (by omega)
theorem St.L_trans (h1 : a.L b) (h2 : b.L c) : a.L c := by
  unfold St.L at *
  exact ⟨h1.1, h2.2.1, by omega, by omega, by omega, by omega, by omega⟩
theorem St.L_refl : a.L a ↔ a.R := by unfold St.L; simp
theorem St.L_C (h : a.L b) : a.C b ≤ 0 := by
  rw [St.C_le, St.C_neg, St.ext_iff']
  unfold St.L at h
  omega
theorem St.L_B (h : a.L b) : a.B b := ⟨h.1, h.2.1, h.2.2.1⟩
theorem St.B_swap : a.B b ↔ b.B a := by unfold St.B; constructor <;> (rintro ⟨h1, h2, h3⟩; exact ⟨h2, h1, h3.symm⟩)
theorem St.join_R (h : a.B b) : (a.join b).R := by
  unfold St.join; rw [if_pos h]
  unfold St.B St.R at *
  simp only
  omega
theorem St.meet_R (h : a.B b) : (a.meet b).R := by
  unfold St.meet; rw [if_pos h]
  unfold St.B St.R at *
  simp only
  omega
theorem St.le_join (h : a.B b) : a.L (a.join b) ∧ b.L (a.join b) := by
  have hr := St.join_R h
  unfold St.join at *
  rw [if_pos h] at *
  unfold St.B at h
  unfold St.L
  simp only
  exact ⟨⟨h.1, hr, by trivial, by omega, by omega, by omega, by omega⟩, ⟨h.2.1, hr, by omega, by omega, by omega, by omega, by omega⟩⟩
theorem St.meet_le (h : a.B b) : (a.meet b).L a ∧ (a.meet b).L b := by
  have hr := St.meet_R h
  unfold St.meet at *
  rw [if_pos h] at *
  unfold St.B at h
  unfold St.L
  simp only
  exact ⟨⟨hr, h.1, by trivial, by omega, by omega, by omega, by omega⟩, ⟨hr, h.2.1, by omega, by omega, by omega, by omega, by omega⟩⟩
theorem St.join_least (h : a.B b) : (a.join b).L c ↔ a.L c ∧ b.L c := by
  have hl := St.le_join h
  constructor
  · intro hc; exact ⟨St.L_trans hl.1 hc, St.L_trans hl.2 hc⟩
  · rintro ⟨h1, h2⟩
    have hr := St.join_R h
    unfold St.join at *
    rw [if_pos h] at *
    unfold St.L at *
    simp only at *
    exact ⟨hr, h1.2.1, by omega, by omega, by omega, by omega, by omega⟩
theorem St.meet_greatest (h : a.B b) : c.L (a.meet b) ↔ c.L a ∧ c.L b := by
  have hl := St.meet_le h
  constructor
  · intro hc; exact ⟨St.L_trans hc hl.1, St.L_trans hc hl.2⟩
  · rintro ⟨h1, h2⟩
    have hr := St.meet_R h
    unfold St.meet at *
    rw [if_pos h] at *
    unfold St.L at *
    simp only at *
    exact ⟨h1.1, hr, by omega, by omega, by omega, by omega, by omega⟩
/-! loops -/
/-- into a loop, out of it, round in it; none: not so -/
def St.into (t : St) : Option St := if t.R ∧ t.d < 3 then some { t with d := t.d + 1 } else none
def St.out (t : St) : Option St := if t.R ∧ 0 < t.d then some ⟨t.d - 1, t.e, if t.d = 1 then 0 else t.x, if t.d = 2 then 0 else t.y, if t.d = 3 then 0 else t.z⟩ else none
def St.last (t : St) : Int := if t.d = 1 then t.x else if t.d = 2 then t.y else t.z
def St.round (t : St) : Option St := if t.R ∧ 0 < t.d ∧ t.last + 1 < 16 then some ⟨t.d, t.e, if t.d = 1 then t.x + 1 else t.x, if t.d = 2 then t.y + 1 else t.y, if t.d = 3 then t.z + 1 else t.z⟩ else none
theorem St.into_out {x : St} (h : a.into = some x) : x.out = some a := by
  unfold St.into at h
  split at h
  · rename_i hc
    obtain ⟨hr, hd⟩ := hc
    cases h
    unfold St.R at hr
    have hx : ({ a with d := a.d + 1 } : St).R ∧ 0 < ({ a with d := a.d + 1 } : St).d := by unfold St.R; simp only; omega
    unfold St.out
    rw [if_pos hx]
    congr 1
    refine St.ext' ?_ rfl ?_ ?_ ?_ <;> simp only <;> (try split) <;> omega
  · cases h
theorem St.round_gt {x : St} (h : a.round = some x) : a.L x ∧ x ≠ a := by
  unfold St.round at h
  split at h
  · rename_i hc
    obtain ⟨hr, hd, hl⟩ := hc
    cases h
    have hr' := hr
    unfold St.last at hl
    unfold St.R at hr
    refine ⟨⟨hr', ?_, rfl, Int.le_refl _, ?_, ?_, ?_⟩, ?_⟩
    · unfold St.R; simp only; split at hl <;> (repeat' split) <;> omega
    · simp only; split <;> omega
    · simp only; split <;> omega
    · simp only; split <;> omega
    · rw [Ne, St.ext_iff']; simp only; split at hl <;> (repeat' split) <;> omega
  · cases h
theorem St.into_mono (h : a.L b) : a.into.isSome = b.into.isSome ∧ ∀ x y, a.into = some x → b.into = some y → x.L y := by
  unfold St.L at h
  obtain ⟨h1, h2, h3, h4⟩ := h
  unfold St.into
  by_cases hd : a.d < 3
  · rw [if_pos ⟨h1, hd⟩, if_pos ⟨h2, by omega⟩]
    refine ⟨rfl, fun x y hx hy => ?_⟩
    cases hx; cases hy
    unfold St.L St.R at *
    simp only
    omega
  · rw [if_neg (by rintro ⟨_, h⟩; omega), if_neg (by rintro ⟨_, h⟩; omega)]
    exact ⟨rfl, fun x y hx => by cases hx⟩
theorem St.out_mono (h : a.L b) : a.out.isSome = b.out.isSome ∧ ∀ x y, a.out = some x → b.out = some y → x.L y := by
  unfold St.L at h
  obtain ⟨h1, h2, h3, h4⟩ := h
  unfold St.out
  by_cases hd : 0 < a.d
  · rw [if_pos (show a.R ∧ 0 < a.d from ⟨h1, hd⟩), if_pos (show b.R ∧ 0 < b.d from ⟨h2, by omega⟩)]
    refine ⟨rfl, fun x y hx hy => ?_⟩
    cases hx; cases hy
    unfold St.L St.R at *
    simp only
    have : a.d = 1 ∨ a.d = 2 ∨ a.d = 3 := by omega
    rcases this with e | e | e <;> (have e2 : b.d = _ := h3.symm.trans e) <;> simp [e, e2] <;> omega
  · rw [if_neg (show ¬ (a.R ∧ 0 < a.d) by rintro ⟨_, h⟩; omega), if_neg (show ¬ (b.R ∧ 0 < b.d) by rintro ⟨_, h⟩; omega)]
    exact ⟨rfl, fun x y hx => by cases hx⟩
theorem St.round_mono (h : a.L b) : ∀ x y, a.round = some x → b.round = some y → x.L y := by
  intro x y hx hy
  have hgx := (St.round_gt hx).1.2.1
  have hgy := (St.round_gt hy).1.2.1
  unfold St.L at h
  obtain ⟨h1, h2, h3, h4⟩ := h
  unfold St.round at hx hy
  split at hx
  · split at hy
    · cases hx; cases hy
      refine ⟨hgx, hgy, h3, h4.1, ?_, ?_, ?_⟩ <;> simp only <;> (repeat' split) <;> omega
    · cases hy
  · cases hx
end
end Go.Proofs.Ytcdofkhkckodjaa
