/- Times: joins and meets in whatever order; their bytes: plain mathematics, of no code. -/
import Derived.Test.YtcdofkhkckodjaaStMath
namespace Go.Proofs.Ytcdofkhkckodjaa
set_option linter.unusedVariables false
set_option maxRecDepth 100000
section
variable {a b c : St}
theorem St.join_eq (h : a.B b) : a.join b = ⟨a.d, max a.e b.e, max a.x b.x, max a.y b.y, max a.z b.z⟩ := by unfold St.join; rw [if_pos h]
theorem St.meet_eq (h : a.B b) : a.meet b = ⟨a.d, min a.e b.e, min a.x b.x, min a.y b.y, min a.z b.z⟩ := by unfold St.meet; rw [if_pos h]
theorem St.join_d (h : a.B b) : (a.join b).d = a.d := by rw [St.join_eq h]
theorem St.meet_d (h : a.B b) : (a.meet b).d = a.d := by rw [St.meet_eq h]
theorem St.join_comm (h : a.B b) : a.join b = b.join a := by
  rw [St.join_eq h, St.join_eq (St.B_swap.1 h)]
  exact St.ext' h.2.2 (Int.max_comm _ _) (Int.max_comm _ _) (Int.max_comm _ _) (Int.max_comm _ _)
theorem St.meet_comm (h : a.B b) : a.meet b = b.meet a := by
  rw [St.meet_eq h, St.meet_eq (St.B_swap.1 h)]
  exact St.ext' h.2.2 (Int.min_comm _ _) (Int.min_comm _ _) (Int.min_comm _ _) (Int.min_comm _ _)
theorem St.B_meet (h : a.B b) : a.B (a.meet b) := ⟨h.1, St.meet_R h, (St.meet_d h).symm⟩
theorem St.B_join (h : a.B b) : a.B (a.join b) := ⟨h.1, St.join_R h, (St.join_d h).symm⟩
theorem St.B_trans (h : a.B b) (k : b.B c) : a.B c := ⟨h.1, k.2.1, h.2.2.trans k.2.2⟩
theorem St.join_absorb (h : a.B b) : a.join (a.meet b) = a := by
  rw [St.join_eq (St.B_meet h), St.meet_eq h]
  exact St.ext' rfl (by simp only; omega) (by simp only; omega) (by simp only; omega) (by simp only; omega)
theorem St.meet_absorb (h : a.B b) : a.meet (a.join b) = a := by
  rw [St.meet_eq (St.B_join h), St.join_eq h]
  exact St.ext' rfl (by simp only; omega) (by simp only; omega) (by simp only; omega) (by simp only; omega)
theorem St.join_over (h : a.B b) (k : b.B c) : a.join (b.meet c) = (a.join b).meet (a.join c) := by
  have hac := St.B_trans h k
  have h1 : a.B (b.meet c) := ⟨h.1, St.meet_R k, by rw [St.meet_d k]; exact h.2.2⟩
  have h2 : (a.join b).B (a.join c) := ⟨St.join_R h, St.join_R hac, by rw [St.join_d h, St.join_d hac]⟩
  rw [St.join_eq h1, St.meet_eq h2, St.meet_eq k, St.join_eq h, St.join_eq hac]
  exact St.ext' rfl (by simp only; omega) (by simp only; omega) (by simp only; omega) (by simp only; omega)
theorem St.join_assoc (h : a.B b) (k : b.B c) : (a.join b).join c = a.join (b.join c) := by
  have h1 : (a.join b).B c := ⟨St.join_R h, k.2.1, by rw [St.join_d h]; exact h.2.2.trans k.2.2⟩
  have h2 : a.B (b.join c) := ⟨h.1, St.join_R k, by rw [St.join_d k]; exact h.2.2⟩
  rw [St.join_eq h1, St.join_eq h2, St.join_eq h, St.join_eq k]
  exact St.ext' rfl (by simp only; omega) (by simp only; omega) (by simp only; omega) (by simp only; omega)
end
/-! bytes -/
/-- the counters that count, one behind the other -/
def St.tail (t : St) : List Nat := [t.x.toNat, t.y.toNat, t.z.toNat].take t.d.toNat
/-- a time's bytes -/
def St.put (t : St) : List Nat := t.d.toNat :: (t.e / 256).toNat :: (t.e % 256).toNat :: t.tail
theorem St.put_len {t : St} (h : t.R) : t.put.length = 3 + t.d.toNat := by
  unfold St.R at h
  unfold St.put St.tail
  simp only [List.length_cons, List.length_take, List.length_nil]
  omega
theorem St.put_lt {t : St} (h : t.R) : ∀ x ∈ t.put, x < 256 := by
  intro x hx
  unfold St.R at h
  unfold St.put St.tail at hx
  simp only [List.mem_cons] at hx
  rcases hx with rfl | rfl | rfl | hx
  · omega
  · omega
  · omega
  · have := List.mem_of_mem_take hx
    simp only [List.mem_cons, List.not_mem_nil, or_false] at this
    rcases this with rfl | rfl | rfl <;> omega
/-- byte by byte -/
def cmpL : List Nat → List Nat → Int
  | x :: p, y :: q => if x < y then -1 else if y < x then 1 else cmpL p q
  | _, _ => 0
theorem cmpL_self : ∀ p : List Nat, cmpL p p = 0
  | [] => rfl
  | x :: p => by simp [cmpL, cmpL_self p]
/-- bytes stand as the times do -/
theorem St.put_cmp {a b : St} (ha : a.R) (hb : b.R) : cmpL a.put b.put = a.C b := by
  unfold St.R at ha hb
  unfold St.put St.C
  rcases sgn_cases a.d b.d with ⟨h1, e1⟩ | ⟨h1, e1⟩ | ⟨h1, e1⟩
  · rw [e1, if_pos (show (-1 : Int) ≠ 0 by decide)]; simp only [cmpL]; rw [if_pos (by omega)]
  · rw [e1, if_pos (show (1 : Int) ≠ 0 by decide)]; simp only [cmpL]; rw [if_neg (by omega), if_pos (by omega)]
  rw [e1, if_neg (show ¬ (0 : Int) ≠ 0 by decide)]
  simp only [cmpL]
  rw [if_neg (by omega), if_neg (by omega)]
  rcases sgn_cases a.e b.e with ⟨h2, e2⟩ | ⟨h2, e2⟩ | ⟨h2, e2⟩
  · rw [e2, if_pos (show (-1 : Int) ≠ 0 by decide)]
    by_cases hq : (a.e / 256).toNat < (b.e / 256).toNat
    · rw [if_pos hq]
    · rw [if_neg hq, if_neg (by omega), if_pos (by omega)]
  · rw [e2, if_pos (show (1 : Int) ≠ 0 by decide)]
    by_cases hq : (a.e / 256).toNat < (b.e / 256).toNat
    · omega
    · rw [if_neg hq]
      by_cases hq2 : (b.e / 256).toNat < (a.e / 256).toNat
      · rw [if_pos hq2]
      · rw [if_neg hq2, if_neg (by omega), if_pos (by omega)]
  rw [e2, if_neg (show ¬ (0 : Int) ≠ 0 by decide), h2]
  rw [if_neg (by omega), if_neg (by omega), if_neg (by omega), if_neg (by omega)]
  unfold St.tail
  rw [h1]
  have hd : b.d = 0 ∨ b.d = 1 ∨ b.d = 2 ∨ b.d = 3 := by omega
  have key : ∀ (m n : Int), 0 ≤ m → 0 ≤ n → ∀ p q : List Nat, cmpL (m.toNat :: p) (n.toNat :: q) = if sgn m n ≠ 0 then sgn m n else cmpL p q := by
    intro m n hm hn p q
    simp only [cmpL]
    rcases sgn_cases m n with ⟨h, e⟩ | ⟨h, e⟩ | ⟨h, e⟩
    · rw [e, if_pos (by omega), if_pos (by decide)]
    · rw [e, if_neg (by omega), if_pos (by omega), if_pos (by decide)]
    · rw [e, if_neg (by omega), if_neg (by omega), if_neg (by decide)]
  have zz : ∀ m n : Int, m = 0 → n = 0 → sgn m n = 0 := by rintro m n rfl rfl; rfl
  rcases hd with e | e | e | e <;> rw [e]
  · rw [zz a.x b.x (by omega) (by omega), zz a.y b.y (by omega) (by omega), zz a.z b.z (by omega) (by omega)]
    simp [cmpL]
  · rw [show (1 : Int).toNat = 1 from rfl]
    simp only [List.take_succ_cons, List.take_zero]
    rw [key a.x b.x (by omega) (by omega), zz a.y b.y (by omega) (by omega), zz a.z b.z (by omega) (by omega)]
    simp [cmpL]
  · rw [show (2 : Int).toNat = 2 from rfl]
    simp only [List.take_succ_cons, List.take_zero]
    rw [key a.x b.x (by omega) (by omega), key a.y b.y (by omega) (by omega), zz a.z b.z (by omega) (by omega)]
    simp [cmpL]
  · rw [show (3 : Int).toNat = 3 from rfl]
    simp only [List.take_succ_cons, List.take_zero]
    rw [key a.x b.x (by omega) (by omega), key a.y b.y (by omega) (by omega), key a.z b.z (by omega) (by omega)]
    by_cases h1 : sgn a.x b.x = 0 <;> by_cases h2 : sgn a.y b.y = 0 <;> by_cases h3 : sgn a.z b.z = 0 <;> simp [cmpL, h1, h2, h3]
end Go.Proofs.Ytcdofkhkckodjaa
