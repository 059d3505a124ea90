/- StMath, StLattice, FlowMath -/
import Derived.Below
namespace Go.Proofs.Ytcjdjdhjbchaaaa
set_option linter.unusedVariables false
section
set_option maxRecDepth 100000
/-- a time: its depth, its epoch, its three counters -/
structure St where
  d : Int
  e : Int
  x : Int
  y : Int
  z : Int
theorem St.ext' {a b : St} (h1 : a.d = b.d) (h2 : a.e = b.e) (h3 : a.x = b.x) (h4 : a.y = b.y) (h5 : a.z = b.z) : a = b := by
  cases a; cases b; simp at h1 h2 h3 h4 h5; simp [h1, h2, h3, h4, h5]
theorem St.ext_iff' {a b : St} : a = b ↔ a.d = b.d ∧ a.e = b.e ∧ a.x = b.x ∧ a.y = b.y ∧ a.z = b.z :=
  ⟨by rintro rfl; simp, fun ⟨h1, h2, h3, h4, h5⟩ => St.ext' h1 h2 h3 h4 h5⟩
instance : DecidableEq St := fun a b => decidable_of_iff _ St.ext_iff'.symm
/-- is it right? -/
def St.R (t : St) : Prop := (0 ≤ t.d ∧ t.d ≤ 3) ∧ (0 ≤ t.e ∧ t.e < 1000) ∧ (0 ≤ t.x ∧ t.x < 16 ∧ (t.d ≤ 0 → t.x = 0)) ∧ (0 ≤ t.y ∧ t.y < 16 ∧ (t.d ≤ 1 → t.y = 0)) ∧ (0 ≤ t.z ∧ t.z < 16 ∧ (t.d ≤ 2 → t.z = 0))
instance (t : St) : Decidable t.R := inferInstanceAs (Decidable (_ ∧ _))
/-- is a at or ahead of b? -/
def St.L (a b : St) : Prop := a.R ∧ b.R ∧ a.d = b.d ∧ a.e ≤ b.e ∧ a.x ≤ b.x ∧ a.y ≤ b.y ∧ a.z ≤ b.z
instance (a b : St) : Decidable (a.L b) := inferInstanceAs (Decidable (_ ∧ _))
def sgn (a b : Int) : Int := if a < b then -1 else if b < a then 1 else 0
/-- the order by depth, epoch, counters -/
def St.C (a b : St) : Int :=
  if sgn a.d b.d ≠ 0 then sgn a.d b.d else if sgn a.e b.e ≠ 0 then sgn a.e b.e else if sgn a.x b.x ≠ 0 then sgn a.x b.x else if sgn a.y b.y ≠ 0 then sgn a.y b.y else sgn a.z b.z
/-- have they a join? -/
def St.B (a b : St) : Prop := a.R ∧ b.R ∧ a.d = b.d
instance (a b : St) : Decidable (a.B b) := inferInstanceAs (Decidable (_ ∧ _))
def St.zero : St := ⟨0, 0, 0, 0, 0⟩
def St.join (a b : St) : St := if a.B b then ⟨a.d, max a.e b.e, max a.x b.x, max a.y b.y, max a.z b.z⟩ else St.zero
def St.meet (a b : St) : St := if a.B b then ⟨a.d, min a.e b.e, min a.x b.x, min a.y b.y, min a.z b.z⟩ else St.zero
section
variable {a b c : St}
theorem sgn_cases (a b : Int) : (a < b ∧ sgn a b = -1) ∨ (b < a ∧ sgn a b = 1) ∨ (a = b ∧ sgn a b = 0) := by
  unfold sgn
  by_cases h : a < b
  · exact .inl ⟨h, if_pos h⟩
  · by_cases h2 : b < a
    · exact .inr (.inl ⟨h2, by rw [if_neg h, if_pos h2]⟩)
    · exact .inr (.inr ⟨by omega, by rw [if_neg h, if_neg h2]⟩)
/-- what Compare's number says -/
theorem St.C_neg : a.C b < 0 ↔ a.d < b.d ∨ a.d = b.d ∧ (a.e < b.e ∨ a.e = b.e ∧ (a.x < b.x ∨ a.x = b.x ∧ (a.y < b.y ∨ a.y = b.y ∧ a.z < b.z))) := by
  unfold St.C
  rcases sgn_cases a.d b.d with ⟨h1, e1⟩ | ⟨h1, e1⟩ | ⟨h1, e1⟩ <;> rw [e1] <;>
  rcases sgn_cases a.e b.e with ⟨h2, e2⟩ | ⟨h2, e2⟩ | ⟨h2, e2⟩ <;> rw [e2] <;>
  rcases sgn_cases a.x b.x with ⟨h3, e3⟩ | ⟨h3, e3⟩ | ⟨h3, e3⟩ <;> rw [e3] <;>
  rcases sgn_cases a.y b.y with ⟨h4, e4⟩ | ⟨h4, e4⟩ | ⟨h4, e4⟩ <;> rw [e4] <;>
  rcases sgn_cases a.z b.z with ⟨h5, e5⟩ | ⟨h5, e5⟩ | ⟨h5, e5⟩ <;> rw [e5] <;> simp <;> omega
theorem sgn_swap (a b : Int) : sgn a b = - sgn b a := by
  rcases sgn_cases a b with ⟨h, e⟩ | ⟨h, e⟩ | ⟨h, e⟩ <;> rcases sgn_cases b a with ⟨h2, e2⟩ | ⟨h2, e2⟩ | ⟨h2, e2⟩ <;> rw [e, e2] <;> omega
theorem sgn_zero {a b : Int} : sgn a b = 0 ↔ a = b := by
  rcases sgn_cases a b with ⟨h, e⟩ | ⟨h, e⟩ | ⟨h, e⟩ <;> rw [e] <;> simp <;> omega
theorem St.C_swap : a.C b = - b.C a := by
  unfold St.C
  rw [sgn_swap a.d b.d, sgn_swap a.e b.e, sgn_swap a.x b.x, sgn_swap a.y b.y, sgn_swap a.z b.z]
  generalize sgn b.d a.d = s1
  generalize sgn b.e a.e = s2
  generalize sgn b.x a.x = s3
  generalize sgn b.y a.y = s4
  generalize sgn b.z a.z = s5
  by_cases h1 : s1 = 0
  · by_cases h2 : s2 = 0
    · by_cases h3 : s3 = 0
      · by_cases h4 : s4 = 0
        · simp [h1, h2, h3, h4]
        · simp [h1, h2, h3, h4]
      · simp [h1, h2, h3]
    · simp [h1, h2]
  · simp [h1]
theorem St.C_zero : a.C b = 0 ↔ a = b := by
  rw [St.ext_iff', ← sgn_zero (a := a.d), ← sgn_zero (a := a.e), ← sgn_zero (a := a.x), ← sgn_zero (a := a.y), ← sgn_zero (a := a.z)]
  unfold St.C
  by_cases h1 : sgn a.d b.d = 0
  · by_cases h2 : sgn a.e b.e = 0
    · by_cases h3 : sgn a.x b.x = 0
      · by_cases h4 : sgn a.y b.y = 0
        · simp [h1, h2, h3, h4]
        · simp [h1, h2, h3, h4]
      · simp [h1, h2, h3]
    · simp [h1, h2]
  · simp [h1]
theorem St.C_le : a.C b ≤ 0 ↔ a.C b < 0 ∨ a = b := by
  rw [← St.C_zero]; omega
theorem St.C_trans (h1 : a.C b ≤ 0) (h2 : b.C c ≤ 0) : a.C c ≤ 0 := by
  rw [St.C_le, St.C_neg, St.ext_iff'] at *
  omega
theorem St.L_antisymm (h1 : a.L b) (h2 : b.L a) : a = b := by
  unfold St.L at *
  exact St.ext' (by omega) (by omega) (by omega) (by omega) (by omega)
theorem St.L_trans (h1 : a.L b) (h2 : b.L c) : a.L c := by
  unfold St.L at *
  exact ⟨h1.1, h2.2.1, by omega, by omega, by omega, by omega, by omega⟩
theorem St.L_refl : a.L a ↔ a.R := by unfold St.L; simp
theorem St.L_C (h : a.L b) : a.C b ≤ 0 := by
  rw [St.C_le, St.C_neg, St.ext_iff']
  unfold St.L at h
  omega
theorem St.L_B (h : a.L b) : a.B b := ⟨h.1, h.2.1, h.2.2.1⟩
theorem St.B_swap : a.B b ↔ b.B a := by unfold St.B; constructor <;> (rintro ⟨h1, h2, h3⟩; exact ⟨h2, h1, h3.symm⟩)
theorem St.join_R (h : a.B b) : (a.join b).R := by
  unfold St.join; rw [if_pos h]
  unfold St.B St.R at *
  simp only
  omega
theorem St.meet_R (h : a.B b) : (a.meet b).R := by
  unfold St.meet; rw [if_pos h]
  unfold St.B St.R at *
  simp only
  omega
theorem St.le_join (h : a.B b) : a.L (a.join b) ∧ b.L (a.join b) := by
  have hr := St.join_R h
  unfold St.join at *
  rw [if_pos h] at *
  unfold St.B at h
  unfold St.L
  simp only
  exact ⟨⟨h.1, hr, by trivial, by omega, by omega, by omega, by omega⟩, ⟨h.2.1, hr, by omega, by omega, by omega, by omega, by omega⟩⟩
theorem St.meet_le (h : a.B b) : (a.meet b).L a ∧ (a.meet b).L b := by
  have hr := St.meet_R h
  unfold St.meet at *
  rw [if_pos h] at *
  unfold St.B at h
  unfold St.L
  simp only
  exact ⟨⟨hr, h.1, by trivial, by omega, by omega, by omega, by omega⟩, ⟨hr, h.2.1, by omega, by omega, by omega, by omega, by omega⟩⟩
theorem St.join_least (h : a.B b) : (a.join b).L c ↔ a.L c ∧ b.L c := by
  have hl := St.le_join h
  constructor
  · intro hc; exact ⟨St.L_trans hl.1 hc, St.L_trans hl.2 hc⟩
  · rintro ⟨h1, h2⟩
    have hr := St.join_R h
    unfold St.join at *
    rw [if_pos h] at *
    unfold St.L at *
    simp only at *
    exact ⟨hr, h1.2.1, by omega, by omega, by omega, by omega, by omega⟩
theorem St.meet_greatest (h : a.B b) : c.L (a.meet b) ↔ c.L a ∧ c.L b := by
  have hl := St.meet_le h
  constructor
  · intro hc; exact ⟨St.L_trans hc hl.1, St.L_trans hc hl.2⟩
  · rintro ⟨h1, h2⟩
    have hr := St.meet_R h
    unfold St.meet at *
    rw [if_pos h] at *
    unfold St.L at *
    simp only at *
    exact ⟨h1.1, hr, by omega, by omega, by omega, by omega, by omega⟩
/-! loops -/
/-- into a loop, out of it, round in it; none: not so -/
def St.into (t : St) : Option St := if t.R ∧ t.d < 3 then some { t with d := t.d + 1 } else none
def St.out (t : St) : Option St := if t.R ∧ 0 < t.d then some ⟨t.d - 1, t.e, if t.d = 1 then 0 else t.x, if t.d = 2 then 0 else t.y, if t.d = 3 then 0 else t.z⟩ else none
def St.last (t : St) : Int := if t.d = 1 then t.x else if t.d = 2 then t.y else t.z
def St.round (t : St) : Option St := if t.R ∧ 0 < t.d ∧ t.last + 1 < 16 then some ⟨t.d, t.e, if t.d = 1 then t.x + 1 else t.x, if t.d = 2 then t.y + 1 else t.y, if t.d = 3 then t.z + 1 else t.z⟩ else none
theorem St.into_out {x : St} (h : a.into = some x) : x.out = some a := by
  unfold St.into at h
  split at h
  · rename_i hc
    obtain ⟨hr, hd⟩ := hc
    cases h
    unfold St.R at hr
    have hx : ({ a with d := a.d + 1 } : St).R ∧ 0 < ({ a with d := a.d + 1 } : St).d := by unfold St.R; simp only; omega
    unfold St.out
    rw [if_pos hx]
    congr 1
    refine St.ext' ?_ rfl ?_ ?_ ?_ <;> simp only <;> (try split) <;> omega
  · cases h
theorem St.round_gt {x : St} (h : a.round = some x) : a.L x ∧ x ≠ a := by
  unfold St.round at h
  split at h
  · rename_i hc
    obtain ⟨hr, hd, hl⟩ := hc
    cases h
    have hr' := hr
    unfold St.last at hl
    unfold St.R at hr
    refine ⟨⟨hr', ?_, rfl, Int.le_refl _, ?_, ?_, ?_⟩, ?_⟩
    · unfold St.R; simp only; split at hl <;> (repeat' split) <;> omega
    · simp only; split <;> omega
    · simp only; split <;> omega
    · simp only; split <;> omega
    · rw [Ne, St.ext_iff']; simp only; split at hl <;> (repeat' split) <;> omega
  · cases h
theorem St.into_mono (h : a.L b) : a.into.isSome = b.into.isSome ∧ ∀ x y, a.into = some x → b.into = some y → x.L y := by
  unfold St.L at h
  obtain ⟨h1, h2, h3, h4⟩ := h
  unfold St.into
  by_cases hd : a.d < 3
  · rw [if_pos ⟨h1, hd⟩, if_pos ⟨h2, by omega⟩]
    refine ⟨rfl, fun x y hx hy => ?_⟩
    cases hx; cases hy
    unfold St.L St.R at *
    simp only
    omega
  · rw [if_neg (by rintro ⟨_, h⟩; omega), if_neg (by rintro ⟨_, h⟩; omega)]
    exact ⟨rfl, fun x y hx => by cases hx⟩
theorem St.out_mono (h : a.L b) : a.out.isSome = b.out.isSome ∧ ∀ x y, a.out = some x → b.out = some y → x.L y := by
  unfold St.L at h
  obtain ⟨h1, h2, h3, h4⟩ := h
  unfold St.out
  by_cases hd : 0 < a.d
  · rw [if_pos (show a.R ∧ 0 < a.d from ⟨h1, hd⟩), if_pos (show b.R ∧ 0 < b.d from ⟨h2, by omega⟩)]
    refine ⟨rfl, fun x y hx hy => ?_⟩
    cases hx; cases hy
    unfold St.L St.R at *
    simp only
    have : a.d = 1 ∨ a.d = 2 ∨ a.d = 3 := by omega
    rcases this with e | e | e <;> (have e2 : b.d = _ := h3.symm.trans e) <;> simp [e, e2] <;> omega
  · rw [if_neg (show ¬ (a.R ∧ 0 < a.d) by rintro ⟨_, h⟩; omega), if_neg (show ¬ (b.R ∧ 0 < b.d) by rintro ⟨_, h⟩; omega)]
    exact ⟨rfl, fun x y hx => by cases hx⟩
theorem St.round_mono (h : a.L b) : ∀ x y, a.round = some x → b.round = some y → x.L y := by
  intro x y hx hy
  have hgx := (St.round_gt hx).1.2.1
  have hgy := (St.round_gt hy).1.2.1
  unfold St.L at h
  obtain ⟨h1, h2, h3, h4⟩ := h
  unfold St.round at hx hy
  split at hx
  · split at hy
    · cases hx; cases hy
      refine ⟨hgx, hgy, h3, h4.1, ?_, ?_, ?_⟩ <;> simp only <;> (repeat' split) <;> omega
    · cases hy
  · cases hx
end
end

section
set_option maxRecDepth 100000
section
variable {a b c : St}
theorem St.join_eq (h : a.B b) : a.join b = ⟨a.d, max a.e b.e, max a.x b.x, max a.y b.y, max a.z b.z⟩ := by unfold St.join; rw [if_pos h]
theorem St.meet_eq (h : a.B b) : a.meet b = ⟨a.d, min a.e b.e, min a.x b.x, min a.y b.y, min a.z b.z⟩ := by unfold St.meet; rw [if_pos h]
theorem St.join_d (h : a.B b) : (a.join b).d = a.d := by rw [St.join_eq h]
theorem St.meet_d (h : a.B b) : (a.meet b).d = a.d := by rw [St.meet_eq h]
theorem St.join_comm (h : a.B b) : a.join b = b.join a := by
  rw [St.join_eq h, St.join_eq (St.B_swap.1 h)]
  exact St.ext' h.2.2 (Int.max_comm _ _) (Int.max_comm _ _) (Int.max_comm _ _) (Int.max_comm _ _)
theorem St.meet_comm (h : a.B b) : a.meet b = b.meet a := by
  rw [St.meet_eq h, St.meet_eq (St.B_swap.1 h)]
  exact St.ext' h.2.2 (Int.min_comm _ _) (Int.min_comm _ _) (Int.min_comm _ _) (Int.min_comm _ _)
theorem St.B_meet (h : a.B b) : a.B (a.meet b) := ⟨h.1, St.meet_R h, (St.meet_d h).symm⟩
theorem St.B_join (h : a.B b) : a.B (a.join b) := ⟨h.1, St.join_R h, (St.join_d h).symm⟩
theorem St.B_trans (h : a.B b) (k : b.B c) : a.B c := ⟨h.1, k.2.1, h.2.2.trans k.2.2⟩
theorem St.join_absorb (h : a.B b) : a.join (a.meet b) = a := by
  rw [St.join_eq (St.B_meet h), St.meet_eq h]
  exact St.ext' rfl (by simp only; omega) (by simp only; omega) (by simp only; omega) (by simp only; omega)
theorem St.meet_absorb (h : a.B b) : a.meet (a.join b) = a := by
  rw [St.meet_eq (St.B_join h), St.join_eq h]
  exact St.ext' rfl (by simp only; omega) (by simp only; omega) (by simp only; omega) (by simp only; omega)
theorem St.join_over (h : a.B b) (k : b.B c) : a.join (b.meet c) = (a.join b).meet (a.join c) := by
  have hac := St.B_trans h k
  have h1 : a.B (b.meet c) := ⟨h.1, St.meet_R k, by rw [St.meet_d k]; exact h.2.2⟩
  have h2 : (a.join b).B (a.join c) := ⟨St.join_R h, St.join_R hac, by rw [St.join_d h, St.join_d hac]⟩
  rw [St.join_eq h1, St.meet_eq h2, St.meet_eq k, St.join_eq h, St.join_eq hac]
  exact St.ext' rfl (by simp only; omega) (by simp only; omega) (by simp only; omega) (by simp only; omega)
theorem St.join_assoc (h : a.B b) (k : b.B c) : (a.join b).join c = a.join (b.join c) := by
  have h1 : (a.join b).B c := ⟨St.join_R h, k.2.1, by rw [St.join_d h]; exact h.2.2.trans k.2.2⟩
  have h2 : a.B (b.join c) := ⟨h.1, St.join_R k, by rw [St.join_d k]; exact h.2.2⟩
  rw [St.join_eq h1, St.join_eq h2, St.join_eq h, St.join_eq k]
  exact St.ext' rfl (by simp only; omega) (by simp only; omega) (by simp only; omega) (by simp only; omega)
end
/-! bytes -/
/-- the counters that count, one behind the other -/
def St.tail (t : St) : List Nat := [t.x.toNat, t.y.toNat, t.z.toNat].take t.d.toNat
/-- a time's bytes -/
def St.put (t : St) : List Nat := t.d.toNat :: (t.e / 256).toNat :: (t.e % 256).toNat :: t.tail
theorem St.put_len {t : St} (h : t.R) : t.put.length = 3 + t.d.toNat := by
  unfold St.R at h
  unfold St.put St.tail
  simp only [List.length_cons, List.length_take, List.length_nil]
  omega
theorem St.put_lt {t : St} (h : t.R) : ∀ x ∈ t.put, x < 256 := by
  intro x hx
  unfold St.R at h
  unfold St.put St.tail at hx
  simp only [List.mem_cons] at hx
  rcases hx with rfl | rfl | rfl | hx
  · omega
  · omega
  · omega
  · have := List.mem_of_mem_take hx
    simp only [List.mem_cons, List.not_mem_nil, or_false] at this
    rcases this with rfl | rfl | rfl <;> omega
/-- byte by byte -/
def cmpL : List Nat → List Nat → Int
  | x :: p, y :: q => if x < y then -1 else if y < x then 1 else cmpL p q
  | _, _ => 0
theorem cmpL_self : ∀ p : List Nat, cmpL p p = 0
  | [] => rfl
  | x :: p => by simp [cmpL, cmpL_self p]
/-- bytes stand as the times do -/
theorem St.put_cmp {a b : St} (ha : a.R) (hb : b.R) : cmpL a.put b.put = a.C b := by
  unfold St.R at ha hb
  unfold St.put St.C
  rcases sgn_cases a.d b.d with ⟨h1, e1⟩ | ⟨h1, e1⟩ | ⟨h1, e1⟩
  · rw [e1, if_pos (show (-1 : Int) ≠ 0 by decide)]; simp only [cmpL]; rw [if_pos (by omega)]
  · rw [e1, if_pos (show (1 : Int) ≠ 0 by decide)]; simp only [cmpL]; rw [if_neg (by omega), if_pos (by omega)]
  rw [e1, if_neg (show ¬ (0 : Int) ≠ 0 by decide)]
  simp only [cmpL]
  rw [if_neg (by omega), if_neg (by omega)]
  rcases sgn_cases a.e b.e with ⟨h2, e2⟩ | ⟨h2, e2⟩ | ⟨h2, e2⟩
  · rw [e2, if_pos (show (-1 : Int) ≠ 0 by decide)]
    by_cases hq : (a.e / 256).toNat < (b.e / 256).toNat
    · rw [if_pos hq]
    · rw [if_neg hq, if_neg (by omega), if_pos (by omega)]
  · rw [e2, if_pos (show (1 : Int) ≠ 0 by decide)]
    by_cases hq : (a.e / 256).toNat < (b.e / 256).toNat
    · omega
    · rw [if_neg hq]
      by_cases hq2 : (b.e / 256).toNat < (a.e / 256).toNat
      · rw [if_pos hq2]
      · rw [if_neg hq2, if_neg (by omega), if_pos (by omega)]
  rw [e2, if_neg (show ¬ (0 : Int) ≠ 0 by decide), h2]
  rw [if_neg (by omega), if_neg (by omega), if_neg (by omega), if_neg (by omega)]
  unfold St.tail
  rw [h1]
  have hd : b.d = 0 ∨ b.d = 1 ∨ b.d = 2 ∨ b.d = 3 := by omega
  have key : ∀ (m n : Int), 0 ≤ m → 0 ≤ n → ∀ p q : List Nat, cmpL (m.toNat :: p) (n.toNat :: q) = if sgn m n ≠ 0 then sgn m n else cmpL p q := by
    intro m n hm hn p q
    simp only [cmpL]
    rcases sgn_cases m n with ⟨h, e⟩ | ⟨h, e⟩ | ⟨h, e⟩
    · rw [e, if_pos (by omega), if_pos (by decide)]
    · rw [e, if_neg (by omega), if_pos (by omega), if_pos (by decide)]
    · rw [e, if_neg (by omega), if_neg (by omega), if_neg (by decide)]
  have zz : ∀ m n : Int, m = 0 → n = 0 → sgn m n = 0 := by rintro m n rfl rfl; rfl
  rcases hd with e | e | e | e <;> rw [e]
  · rw [zz a.x b.x (by omega) (by omega), zz a.y b.y (by omega) (by omega), zz a.z b.z (by omega) (by omega)]
    simp [cmpL]
  · rw [show (1 : Int).toNat = 1 from rfl]
    simp only [List.take_succ_cons, List.take_zero]
    rw [key a.x b.x (by omega) (by omega), zz a.y b.y (by omega) (by omega), zz a.z b.z (by omega) (by omega)]
    simp [cmpL]
  · rw [show (2 : Int).toNat = 2 from rfl]
    simp only [List.take_succ_cons, List.take_zero]
    rw [key a.x b.x (by omega) (by omega), key a.y b.y (by omega) (by omega), zz a.z b.z (by omega) (by omega)]
    simp [cmpL]
  · rw [show (3 : Int).toNat = 3 from rfl]
    simp only [List.take_succ_cons, List.take_zero]
    rw [key a.x b.x (by omega) (by omega), key a.y b.y (by omega) (by omega), key a.z b.z (by omega) (by omega)]
    by_cases h1 : sgn a.x b.x = 0 <;> by_cases h2 : sgn a.y b.y = 0 <;> by_cases h3 : sgn a.z b.z = 0 <;> simp [cmpL, h1, h2, h3]
end

section
/-- a node -/
structure Nd where
  k : Nat
  a : Nat
  b : Int
  d : Int
  ins : List Int
/-- its parts are numbers of their kinds -/
def Nd.W (n : Nd) : Prop := n.k < 256 ∧ n.a < 256 ∧ -9223372036854775808 ≤ n.b ∧ n.b < 9223372036854775808
/-- it may be written -/
def Nd.May (n : Nd) : Prop := (0 ≤ n.d ∧ n.d ≤ 3) ∧ n.ins.length ≤ 2 ∧ ∀ x ∈ n.ins, 0 ≤ x ∧ x ≤ 31
def GMay (g : List Nd) : Prop := (1 ≤ g.length ∧ g.length ≤ 32) ∧ ∀ n ∈ g, n.May
/-- a number's eight bytes, the highest first -/
def be8 (x : Nat) : List Nat := [x / 72057594037927936 % 256, x / 281474976710656 % 256, x / 1099511627776 % 256, x / 4294967296 % 256, x / 16777216 % 256, x / 65536 % 256, x / 256 % 256, x % 256]
def of8 (a b c d e f g h : Nat) : Nat := ((((((a * 256 + b) * 256 + c) * 256 + d) * 256 + e) * 256 + f) * 256 + g) * 256 + h
def uns (b : Int) : Nat := (b % 18446744073709551616).toNat
def sg64 (x : Nat) : Int := if x < 9223372036854775808 then x else (x : Int) - 18446744073709551616
def Nd.put (n : Nd) : List Nat := n.k :: n.a :: (be8 (uns n.b) ++ (n.d.toNat :: n.ins.length :: n.ins.map Int.toNat))
/-- a node off the front of bytes -/
def getN : List Nat → Option (Nd × List Nat)
  | k :: a :: b0 :: b1 :: b2 :: b3 :: b4 :: b5 :: b6 :: b7 :: d :: n :: r =>
    if n ≤ r.length then some (⟨k, a, sg64 (of8 b0 b1 b2 b3 b4 b5 b6 b7), d, (r.take n).map Int.ofNat⟩, r.drop n) else none
  | _ => none
def getNs : Nat → List Nat → Option (List Nd × List Nat)
  | 0, b => some ([], b)
  | m + 1, b => match getN b with
    | none => none
    | some (n, r) => match getNs m r with
      | none => none
      | some (g, s) => some (n :: g, s)
def putNs (g : List Nd) : List Nat := (g.map Nd.put).flatten
def putG (g : List Nd) : List Nat := g.length :: putNs g
/-- the graph that bytes are: all nodes, and nothing behind them -/
def getG : List Nat → Option (List Nd)
  | [] => none
  | m :: b => match getNs m b with
    | some (g, []) => some g
    | _ => none
section
variable {n m : Nd} {g h : List Nd} {b r s : List Nat} {x : Nat} {v : Int}
theorem of8_be8 (h : x < 18446744073709551616) : of8 (x / 72057594037927936 % 256) (x / 281474976710656 % 256) (x / 1099511627776 % 256) (x / 4294967296 % 256) (x / 16777216 % 256) (x / 65536 % 256) (x / 256 % 256) (x % 256) = x := by
  unfold of8; omega
theorem of8_lt {a b c d e f g h : Nat} (ha : a < 256) (hb : b < 256) (hc : c < 256) (hd : d < 256) (he : e < 256) (hf : f < 256) (hg : g < 256) (hh : h < 256) : of8 a b c d e f g h < 18446744073709551616 := by
  unfold of8; omega
theorem be8_of8 {a b c d e f g h : Nat} (ha : a < 256) (hb : b < 256) (hc : c < 256) (hd : d < 256) (he : e < 256) (hf : f < 256) (hg : g < 256) (hh : h < 256) : be8 (of8 a b c d e f g h) = [a, b, c, d, e, f, g, h] := by
  unfold be8 of8
  simp only [List.cons.injEq, and_true]
  refine ⟨?_, ?_, ?_, ?_, ?_, ?_, ?_, ?_⟩ <;> omega
theorem sg64_uns (h : -9223372036854775808 ≤ v) (k : v < 9223372036854775808) : sg64 (uns v) = v := by
  unfold sg64 uns; split <;> omega
theorem uns_sg64 (h : x < 18446744073709551616) : uns (sg64 x) = x := by
  unfold sg64 uns; split <;> omega
theorem uns_lt : uns v < 18446744073709551616 := by unfold uns; omega
theorem sg64_W (h : x < 18446744073709551616) : -9223372036854775808 ≤ sg64 x ∧ sg64 x < 9223372036854775808 := by
  unfold sg64; split <;> omega
theorem back_ints : ∀ {l : List Int}, (∀ x ∈ l, 0 ≤ x) → (l.map Int.toNat).map Int.ofNat = l
  | [], _ => rfl
  | x :: l, h => by
    have := h x List.mem_cons_self
    simp only [List.map_cons]
    rw [back_ints fun y hy => h y (List.mem_cons_of_mem _ hy)]
    congr 1
    show ((x.toNat : Nat) : Int) = x
    omega
theorem back_nats : ∀ {l : List Nat}, (l.map Int.ofNat).map Int.toNat = l
  | [] => rfl
  | x :: l => by simp only [List.map_cons]; rw [back_nats]; rfl
theorem getN_cons {k a b0 b1 b2 b3 b4 b5 b6 b7 d n : Nat} {r : List Nat} : getN (k :: a :: b0 :: b1 :: b2 :: b3 :: b4 :: b5 :: b6 :: b7 :: d :: n :: r) =
    if n ≤ r.length then some (⟨k, a, sg64 (of8 b0 b1 b2 b3 b4 b5 b6 b7), d, (r.take n).map Int.ofNat⟩, r.drop n) else none := rfl
/-- what is put is got as it was -/
theorem getN_put (hw : n.W) (hm : n.May) : getN (n.put ++ r) = some (n, r) := by
  obtain ⟨h1, h2, h3, h4⟩ := hw
  obtain ⟨⟨h5, h6⟩, h7, h8⟩ := hm
  unfold Nd.put be8
  simp only [List.cons_append, List.nil_append]
  rw [getN_cons, if_pos (by simp), of8_be8 uns_lt, sg64_uns h3 h4]
  have e1 : (List.map Int.toNat n.ins ++ r).take n.ins.length = List.map Int.toNat n.ins := by
    rw [List.take_append_of_le_length (by simp)]; exact List.take_of_length_le (by simp)
  have e2 : (List.map Int.toNat n.ins ++ r).drop n.ins.length = r := by
    rw [List.drop_append_of_le_length (by simp), List.drop_of_length_le (by simp)]; rfl
  rw [e1, e2, back_ints fun y hy => (h8 y hy).1]
  congr 2
  cases n with | mk k a b d ins =>
  simp only [Nd.mk.injEq, true_and, and_true]
  simp only at h5
  omega
/-- what is got is put as the same bytes -/
theorem getN_some (hb : ∀ x ∈ b, x < 256) (h : getN b = some (n, r)) : n.W ∧ b = n.put ++ r ∧ 0 ≤ n.d ∧ (∀ x ∈ n.ins, 0 ≤ x) ∧ ∀ x ∈ r, x < 256 := by
  unfold getN at h
  split at h
  · rename_i k a b0 b1 b2 b3 b4 b5 b6 b7 d m q
    split at h
    · rename_i hm
      simp only [Option.some.injEq, Prod.mk.injEq] at h
      obtain ⟨rfl, rfl⟩ := h
      simp only [List.mem_cons, forall_eq_or_imp] at hb
      obtain ⟨hk, ha, g0, g1, g2, g3, g4, g5, g6, g7, hd, hn, hq⟩ := hb
      have hl := of8_lt g0 g1 g2 g3 g4 g5 g6 g7
      refine ⟨⟨hk, ha, sg64_W hl⟩, ?_, ?_, ?_, fun x hx => hq x (List.mem_of_mem_drop hx)⟩
      · unfold Nd.put
        simp only
        rw [uns_sg64 hl, be8_of8 g0 g1 g2 g3 g4 g5 g6 g7, back_nats]
        simp only [List.cons_append, List.nil_append, List.length_map, List.length_take, List.append_assoc, List.take_append_drop]
        rw [Nat.min_eq_left hm]; rfl
      · show (0 : Int) ≤ (d : Int); omega
      · intro x hx
        obtain ⟨y, _, rfl⟩ := List.mem_map.1 hx
        exact Int.natCast_nonneg y
    · exact absurd h (by simp)
  · exact absurd h (by simp)
theorem getNs_put : ∀ {g : List Nd}, (∀ n ∈ g, n.W ∧ n.May) → getNs g.length (putNs g ++ r) = some (g, r)
  | [], _ => rfl
  | n :: g, h => by
    have hn := h n List.mem_cons_self
    show getNs (g.length + 1) (((n.put :: g.map Nd.put).flatten) ++ r) = _
    unfold getNs
    rw [List.flatten_cons, List.append_assoc, getN_put hn.1 hn.2]
    simp only
    rw [show (g.map Nd.put).flatten = putNs g from rfl, getNs_put fun y hy => h y (List.mem_cons_of_mem _ hy)]
theorem getNs_some : ∀ {m : Nat} {b : List Nat} {g : List Nd} {r : List Nat}, (∀ x ∈ b, x < 256) → getNs m b = some (g, r) → g.length = m ∧ (∀ n ∈ g, n.W) ∧ b = putNs g ++ r
  | 0, b, g, r, _, h => by
    simp only [getNs, Option.some.injEq, Prod.mk.injEq] at h
    obtain ⟨rfl, rfl⟩ := h
    exact ⟨rfl, by simp, rfl⟩
  | m + 1, b, g, r, hb, h => by
    unfold getNs at h
    split at h
    · exact absurd h (by simp)
    · rename_i n q hq
      obtain ⟨hw, e, -, -, hqb⟩ := getN_some hb hq
      split at h
      · exact absurd h (by simp)
      · rename_i g' s hs
        simp only [Option.some.injEq, Prod.mk.injEq] at h
        obtain ⟨rfl, rfl⟩ := h
        obtain ⟨h1, h2, h3⟩ := getNs_some hqb hs
        refine ⟨by rw [List.length_cons, h1], fun y hy => ?_, ?_⟩
        · rcases List.mem_cons.1 hy with e' | hy
          · rw [e']; exact hw
          · exact h2 y hy
        · rw [e, h3, show putNs (n :: g') = n.put ++ putNs g' from rfl, List.append_assoc]
/-- a graph that may be written, of its bytes -/
theorem getG_put (hw : ∀ n ∈ g, n.W) (hm : GMay g) : getG (putG g) = some g := by
  have := getNs_put (r := []) fun n hn => ⟨hw n hn, hm.2 n hn⟩
  rw [List.append_nil] at this
  unfold getG putG
  simp only
  rw [this]
theorem getG_some (hb : ∀ x ∈ b, x < 256) (h : getG b = some g) : (∀ n ∈ g, n.W) ∧ b = putG g := by
  unfold getG at h
  split at h
  · exact absurd h (by simp)
  · rename_i m b'
    split at h
    · rename_i g' hg
      simp only [Option.some.injEq] at h
      subst h
      obtain ⟨h1, h2, h3⟩ := getNs_some (fun x hx => hb x (List.mem_cons_of_mem _ hx)) hg
      refine ⟨h2, ?_⟩
      unfold putG
      rw [h1, h3, List.append_nil]
    · exact absurd h (by simp)
/-- the bytes of a graph that may be written are of no other one -/
theorem getG_iff (hb : ∀ x ∈ b, x < 256) : (getG b = some g ∧ GMay g) ↔ ((∀ n ∈ g, n.W) ∧ GMay g ∧ b = putG g) := by
  constructor
  · rintro ⟨h1, h2⟩
    obtain ⟨h3, h4⟩ := getG_some hb h1
    exact ⟨h3, h2, h4⟩
  · rintro ⟨h1, h2, rfl⟩
    exact ⟨getG_put h1 h2, h2⟩
/-- unlike graphs have unlike bytes -/
theorem putG_inj (hg : ∀ n ∈ g, n.W) (hh : ∀ n ∈ h, n.W) (mg : GMay g) (mh : GMay h) : putG g = putG h ↔ g = h := by
  constructor
  · intro e
    have h1 := getG_put hg mg
    rw [e, getG_put hh mh] at h1
    exact (Option.some.inj h1).symm
  · intro e; rw [e]
/-- no beginning of a graph's bytes, shorter than they are, is a graph's -/
theorem putG_begins (hg : ∀ n ∈ g, n.W) (hh : ∀ n ∈ h, n.W) (mg : GMay g) (mh : GMay h) (e : putG h ++ s = putG g) : s = [] := by
  unfold putG at e
  rw [List.cons_append, List.cons.injEq] at e
  have h1 := getNs_put (r := []) fun n hn => ⟨hg n hn, mg.2 n hn⟩
  have h2 := getNs_put (r := s) fun n hn => ⟨hh n hn, mh.2 n hn⟩
  rw [List.append_nil, ← e.1, ← e.2, h2] at h1
  simp only [Option.some.injEq, Prod.mk.injEq] at h1
  exact h1.2
/-- each byte is one -/
theorem putN_lt (hw : n.W) (hm : n.May) : ∀ x ∈ n.put, x < 256 := by
  obtain ⟨h1, h2, -, -⟩ := hw
  obtain ⟨⟨h5, h6⟩, h7, h8⟩ := hm
  unfold Nd.put be8
  simp only [List.cons_append, List.nil_append, List.mem_cons, forall_eq_or_imp]
  refine ⟨h1, h2, by omega, by omega, by omega, by omega, by omega, by omega, by omega, by omega, by omega, by omega, fun x hx => ?_⟩
  obtain ⟨y, hy, rfl⟩ := List.mem_map.1 hx
  have := h8 y hy
  omega
theorem putG_lt (hw : ∀ n ∈ g, n.W) (hm : GMay g) : ∀ x ∈ putG g, x < 256 := by
  intro x hx
  unfold putG at hx
  rcases List.mem_cons.1 hx with e | hx
  · have := hm.1.2; omega
  · obtain ⟨l, hl, hxl⟩ := List.mem_flatten.1 hx
    obtain ⟨n, hn, rfl⟩ := List.mem_map.1 hl
    exact putN_lt (hw n hn) (hm.2 n hn) x hxl
end
end
end Go.Proofs.Ytcjdjdhjbchaaaa
