/- BsMath, PcBits, ChkTab -/
import Derived.Test.YtocdganglokplaaDoorChkMath
import Derived.Laws.Entries
import Derived.Lib.LaidTab
import Derived.Test.YtocdganglokplaaDoorLaw
import Derived.LaidMore
import Derived.Stop.Joined
namespace Go.Proofs.YtocdganglokplaaDoor
set_option linter.unusedVariables false
section
open Go
theorem wrap32 {n : Nat} (h : n < 4294967296) : IntKind.u32.wrap (n : Int) = (n : Int) := by
  simp [IntKind.wrap, IntKind.bits, IntKind.signed]; omega
theorem ofInt32 {n : Nat} (h : n < 4294967296) : BitVec.ofInt 32 (n : Int) = BitVec.ofNat 32 n := by
  apply BitVec.eq_of_toNat_eq
  rw [BitVec.toNat_ofInt, BitVec.toNat_ofNat]
  omega
theorem bits_or32 {a b : Nat} (ha : a < 4294967296) (hb : b < 4294967296) : bits .or .u32 (a : Int) (b : Int) = ((a ||| b : Nat) : Int) := by
  have h : a ||| b < 4294967296 := Nat.or_lt_two_pow (n := 32) ha hb
  show IntKind.u32.wrap ((BitVec.ofInt 32 (a : Int) ||| BitVec.ofInt 32 (b : Int)).toNat : Int) = _
  rw [ofInt32 ha, ofInt32 hb, BitVec.toNat_or, BitVec.toNat_ofNat, BitVec.toNat_ofNat, Nat.mod_eq_of_lt ha, Nat.mod_eq_of_lt hb, wrap32 h]
theorem bits_and32 {a b : Nat} (ha : a < 4294967296) (hb : b < 4294967296) : bits .and .u32 (a : Int) (b : Int) = ((a &&& b : Nat) : Int) := by
  have h : a &&& b < 4294967296 := Nat.lt_of_le_of_lt Nat.and_le_left ha
  show IntKind.u32.wrap ((BitVec.ofInt 32 (a : Int) &&& BitVec.ofInt 32 (b : Int)).toNat : Int) = _
  rw [ofInt32 ha, ofInt32 hb, BitVec.toNat_and, BitVec.toNat_ofNat, BitVec.toNat_ofNat, Nat.mod_eq_of_lt ha, Nat.mod_eq_of_lt hb, wrap32 h]
/-- m >> i & 1 == 1 -/
theorem has_bit {m i : Nat} (hm : m < 4294967296) : (bits .and .u32 ((m : Int) / 2 ^ i) 1 == 1) = m.testBit i := by
  have h1 : ((m : Int) / 2 ^ i) = ((m / 2 ^ i : Nat) : Int) := by rw [Int.natCast_ediv, Int.natCast_pow]; rfl
  have h2 : m / 2 ^ i < 4294967296 := Nat.lt_of_le_of_lt (Nat.div_le_self _ _) hm
  rw [h1, show (1 : Int) = ((1 : Nat) : Int) from rfl, bits_and32 h2 (by omega), Nat.testBit_eq_decide_div_mod_eq, Nat.and_one_is_mod]
  rw [Bool.eq_iff_iff, beq_iff_eq, decide_eq_true_eq]
  omega
/-- m | 1 << i -/
theorem with_bit {m i : Nat} (hm : m < 4294967296) (hi : i < 32) : bits .or .u32 (m : Int) (IntKind.u32.wrap (2 ^ i)) = ((m ||| 2 ^ i : Nat) : Int) := by
  have hp : 2 ^ i < 4294967296 := Nat.pow_lt_pow_right (a := 2) (by omega) (show i < 32 from hi)
  have h1 : (2 ^ i : Int) = ((2 ^ i : Nat) : Int) := by rw [Int.natCast_pow]; rfl
  rw [h1, wrap32 hp, bits_or32 hm hp]
theorem with_lt {m i : Nat} (hm : m < 4294967296) (hi : i < 32) : m ||| 2 ^ i < 4294967296 :=
  Nat.or_lt_two_pow (n := 32) hm (Nat.pow_lt_pow_right (a := 2) (by omega) hi)
theorem or_lt32 {a b : Nat} (ha : a < 4294967296) (hb : b < 4294967296) : a ||| b < 4294967296 := Nat.or_lt_two_pow (n := 32) ha hb
theorem with_test {m i j : Nat} : (m ||| 2 ^ i).testBit j = (m.testBit j || decide (i = j)) := by rw [Nat.testBit_or, Nat.testBit_two_pow]
theorem testBit_ge {m i : Nat} (hm : m < 4294967296) (hi : 32 ≤ i) : m.testBit i = false :=
  Nat.testBit_lt_two_pow (Nat.lt_of_lt_of_le hm (show 2 ^ 32 ≤ 2 ^ i from Nat.pow_le_pow_right (by omega) hi))
theorem bits_zero {m : Nat} (hm : m < 4294967296) (h : ∀ i, i < 32 → m.testBit i = false) : m = 0 := by
  apply Nat.eq_of_testBit_eq
  intro i
  rw [Nat.zero_testBit]
  by_cases hi : i < 32
  · exact h i hi
  · exact testBit_ge hm (by omega)
/-- the table by which the least bit is told -/
def tzTab : List Nat := [0, 1, 28, 2, 29, 14, 24, 3, 30, 22, 20, 15, 25, 17, 4, 8, 31, 27, 13, 23, 21, 19, 16, 7, 26, 12, 18, 6, 11, 5, 10, 9]
/-- m has just the bits from k on, and k -/
theorem low_bit {m : Nat} (h0 : m ≠ 0) (hm : m < 4294967296) : ∃ k q, k < 32 ∧ m = 2 ^ k * (2 * q + 1) ∧ m.testBit k = true ∧ ∀ j, j < k → m.testBit j = false := by
  have key : ∀ n m : Nat, m ≠ 0 → m < 2 ^ n → ∃ k q, k < n ∧ m = 2 ^ k * (2 * q + 1) := by
    intro n
    induction n with
    | zero => intro m h0 hm; simp at hm; exact absurd hm h0
    | succ n ih =>
      intro m h0 hm
      by_cases ho : m % 2 = 1
      · exact ⟨0, m / 2, by omega, by rw [Nat.pow_zero]; omega⟩
      · rw [Nat.pow_succ] at hm
        obtain ⟨k, q, hk, e⟩ := ih (m / 2) (by omega) (by omega)
        exact ⟨k + 1, q, by omega, by rw [Nat.pow_succ, Nat.mul_right_comm, ← e]; omega⟩
  obtain ⟨k, q, hk, e⟩ := key 32 m h0 hm
  refine ⟨k, q, hk, e, ?_, ?_⟩
  · rw [e, Nat.testBit_two_pow_mul]; simp
  · intro j hj
    rw [e, Nat.testBit_two_pow_mul]; simp; intro h; omega
theorem and_neg {k q m : Nat} (hk : k < 32) (hm : m < 4294967296) (e : m = 2 ^ k * (2 * q + 1)) : m &&& (4294967296 - m) = 2 ^ k := by
  obtain ⟨p, hp⟩ : ∃ p, p = 2 ^ k := ⟨_, rfl⟩
  have hpp : 2 ^ k ∣ 4294967296 := Nat.pow_dvd_pow (a := 2) (m := k) (n := 32) (by omega)
  obtain ⟨r, hr⟩ := hpp
  obtain ⟨r', hr'⟩ : ∃ r', r = 2 * r' := by
    refine ⟨2 ^ (31 - k), ?_⟩
    have h1 : 2 ^ k * (2 * 2 ^ (31 - k)) = 4294967296 := by
      rw [← Nat.pow_succ', ← Nat.pow_add]; exact congrArg (2 ^ ·) (show k + (31 - k + 1) = 32 by omega)
    exact Nat.eq_of_mul_eq_mul_left (Nat.two_pow_pos k) (by rw [h1, ← hr])
  subst hr'
  have hq : 2 * q + 1 ≤ 2 * r' := by
    apply Nat.le_of_mul_le_mul_left (c := 2 ^ k) _ (Nat.two_pow_pos k)
    rw [← e, ← hr]; omega
  have h2 : 4294967296 - m = 2 ^ k * (2 * (r' - q - 1) + 1) := by
    rw [e, hr, ← Nat.mul_sub]; congr 1; omega
  have h3 : 2 * (r' - q - 1) + 1 = 2 * (r' - 1 - q) + 1 := by omega
  rw [h2]
  apply Nat.eq_of_testBit_eq
  intro i
  rw [Nat.testBit_and, e, Nat.testBit_two_pow_mul, Nat.testBit_two_pow_mul, Nat.testBit_two_pow]
  by_cases hik : k ≤ i
  · obtain ⟨d, rfl⟩ : ∃ d, i = k + d := ⟨i - k, by omega⟩
    have hd : k + d - k = d := by omega
    rw [hd]
    simp only [ge_iff_le, hik, decide_true, Bool.true_and]
    cases d with
    | zero => simp
    | succ d =>
      have e1 : (2 * q + 1).testBit (d + 1) = q.testBit d := by rw [Nat.testBit_succ]; congr 1; omega
      have e2 : (2 * (r' - q - 1) + 1).testBit (d + 1) = (r' - q - 1).testBit d := by rw [Nat.testBit_succ]; congr 1; omega
      rw [e1, e2]
      have e3 : decide (k = k + (d + 1)) = false := decide_eq_false (by omega)
      rw [e3]
      obtain ⟨n, hn⟩ : ∃ n, r' = 2 ^ n := ⟨31 - k, by
        have h1 : 2 ^ k * (2 * 2 ^ (31 - k)) = 4294967296 := by
          rw [← Nat.pow_succ', ← Nat.pow_add]; exact congrArg (2 ^ ·) (show k + (31 - k + 1) = 32 by omega)
        have := Nat.eq_of_mul_eq_mul_left (Nat.two_pow_pos k) (hr.symm.trans h1.symm)
        omega⟩
      rw [hn, show 2 ^ n - q - 1 = 2 ^ n - (q + 1) by omega, Nat.testBit_two_pow_sub_succ (by omega)]
      cases q.testBit d <;> simp
  · have : decide (i ≥ k) = false := decide_eq_false (by omega)
    rw [this]; simp; omega
theorem tz_at : ∀ k, k < 32 → tzTab.getD (2 ^ k * 125613361 % 4294967296 / 134217728) 0 = k := by decide +kernel
theorem tz_lt (k : Nat) : 2 ^ k * 125613361 % 4294967296 / 134217728 < 32 := by omega
/-! ## ways closed up node by node -/
/-- there is a way from i to j whose inner nodes are below k -/
def Way (E : Nat → Nat → Prop) : Nat → Nat → Nat → Prop
  | 0, i, j => E i j
  | k + 1, i, j => Way E k i j ∨ (Way E k i k ∧ Way E k k j)
inductive Plus (E : Nat → Nat → Prop) (i : Nat) : Nat → Prop
  | one {j : Nat} : E i j → Plus E i j
  | more {j k : Nat} : Plus E i j → E j k → Plus E i k
theorem Plus.trans {E : Nat → Nat → Prop} {i j k : Nat} (h : Plus E i j) (h2 : Plus E j k) : Plus E i k := by
  induction h2 with
  | one h2 => exact h.more h2
  | more _ h3 ih => exact ih.more h3
theorem Way.plus {E : Nat → Nat → Prop} : ∀ {k i j : Nat}, Way E k i j → Plus E i j
  | 0, i, j, h => .one h
  | k + 1, i, j, h => h.elim (fun h => Way.plus h) fun h => (Way.plus h.1).trans (Way.plus h.2)
theorem Way.join {E : Nat → Nat → Prop} : ∀ {k i m j : Nat}, m < k → Way E k i m → Way E k m j → Way E k i j
  | 0, i, m, j, h, _, _ => absurd h (by omega)
  | k + 1, i, m, j, hm, h1, h2 => by
    by_cases e : m = k
    · subst e
      exact .inr ⟨h1.elim id And.left, h2.elim id And.right⟩
    · have hk : m < k := by omega
      rcases h1 with h1 | ⟨h1, h1'⟩
      · rcases h2 with h2 | ⟨h2, h2'⟩
        · exact .inl (Way.join hk h1 h2)
        · exact .inr ⟨Way.join hk h1 h2, h2'⟩
      · rcases h2 with h2 | ⟨h2, h2'⟩
        · exact .inr ⟨h1, Way.join hk h1' h2⟩
        · exact .inr ⟨h1, h2'⟩
theorem Way.edge {E : Nat → Nat → Prop} {i j : Nat} (h : E i j) : ∀ k, Way E k i j
  | 0 => h
  | k + 1 => .inl (Way.edge h k)
theorem Plus.way {E : Nat → Nat → Prop} {n i j : Nat} (hE : ∀ a b, E a b → a < n ∧ b < n) (h : Plus E i j) : Way E n i j := by
  induction h with
  | one h => exact Way.edge h n
  | more h h2 ih => exact Way.join (hE _ _ h2).1 ih (Way.edge h2 n)
theorem way_iff {E : Nat → Nat → Prop} {n i j : Nat} (hE : ∀ a b, E a b → a < n ∧ b < n) : Way E n i j ↔ Plus E i j := ⟨Way.plus, Plus.way hE⟩
/-! ## cycles that don't go on -/
/-- x feeds y, and both may stand in a cycle of that least depth -/
def Feeds (g : List Nd) (least : Int) (a b : Nat) : Prop := ∃ x y, g[a]? = some x ∧ g[b]? = some y ∧ x.stays least = true ∧ y.stays least = true ∧ ((a : Nat) : Int) ∈ y.ins
theorem Feeds.lt {g : List Nd} {least : Int} {a b : Nat} (h : Feeds g least a b) : a < g.length ∧ b < g.length := by
  obtain ⟨x, y, hx, hy, _⟩ := h
  exact ⟨(List.getElem?_eq_some_iff.1 hx).1, (List.getElem?_eq_some_iff.1 hy).1⟩
/-- has the node at j that depth, and is no Feedback? -/
def LeastAt (g : List Nd) (least : Int) (j : Nat) : Prop := ∃ x, g[j]? = some x ∧ x.d = least ∧ x.k ≠ 9
theorem step_feeds {g : List Nd} {least : Int} {s t : Nat} {x : Nd} (hx : g[s / 2]? = some x) (hs : x.stays least = true) (h : StepN g least s t) : Feeds g least (s / 2) (t / 2) := by
  obtain ⟨y, hy, hin, hys, _⟩ := h
  exact ⟨x, y, hx, hy, hs, hys, hin⟩
theorem reach_plus {g : List Nd} {least : Int} {s t : Nat} {x : Nd} (hx : g[s / 2]? = some x) (hs : x.stays least = true) (h : ReachN g least s t) :
    Plus (Feeds g least) (s / 2) (t / 2) ∧ (t % 2 = 1 → s % 2 = 1 ∨ ∃ j, LeastAt g least j ∧ Plus (Feeds g least) (s / 2) j ∧ (j = t / 2 ∨ Plus (Feeds g least) j (t / 2))) := by
  induction h with
  | @one t h =>
    have hf := step_feeds hx hs h
    refine ⟨.one hf, fun ht => ?_⟩
    obtain ⟨y, hy, hin, hys, e⟩ := h
    by_cases hd : y.d = least
    · refine .inr ⟨t / 2, ⟨y, hy, hd, ?_⟩, .one hf, .inl rfl⟩
      unfold Nd.stays at hys; rw [decide_eq_true_eq] at hys; omega
    · rw [if_neg hd] at e; left; omega
  | @more t u h1 h2 ih =>
    obtain ⟨i1, i2⟩ := ih
    have hnode : ∃ z, g[t / 2]? = some z ∧ z.stays least = true := by
      have : ∃ s', StepN g least s' t := by cases h1 with
        | one h => exact ⟨_, h⟩
        | more _ h => exact ⟨_, h⟩
      obtain ⟨s', z, hz, _, hzs, _⟩ := this
      exact ⟨z, hz, hzs⟩
    obtain ⟨z, hz, hzs⟩ := hnode
    have hf := step_feeds hz hzs h2
    refine ⟨i1.more hf, fun hu => ?_⟩
    obtain ⟨y, hy, hin, hys, e⟩ := h2
    by_cases hd : y.d = least
    · refine .inr ⟨u / 2, ⟨y, hy, hd, ?_⟩, i1.more hf, .inl rfl⟩
      unfold Nd.stays at hys; rw [decide_eq_true_eq] at hys; omega
    · rw [if_neg hd] at e
      rcases i2 (by omega) with h | ⟨j, hj, h3, h4⟩
      · exact .inl h
      · refine .inr ⟨j, hj, h3, .inr ?_⟩
        rcases h4 with rfl | h4
        · exact .one hf
        · exact h4.more hf
def nextL (least : Int) (s n : Nat) (x : Nd) : Nat := 2 * n + if x.d = least then 1 else s % 2
theorem plus_reach {g : List Nd} {least : Int} {a b : Nat} (h : Plus (Feeds g least) a b) : ∀ s, s / 2 = a → ∃ t, t / 2 = b ∧ ReachN g least s t ∧ (s % 2 = 1 → t % 2 = 1) ∧ (LeastAt g least b → t % 2 = 1) := by
  induction h with
  | @one b h =>
    intro s hs
    obtain ⟨x, y, hx, hy, hxs, hys, hin⟩ := h
    refine ⟨nextL least s b y, by unfold nextL; split <;> omega, .one ⟨y, ?_, by rw [hs]; exact hin, hys, ?_⟩, ?_, ?_⟩
    · rw [show nextL least s b y / 2 = b by unfold nextL; split <;> omega]; exact hy
    · unfold nextL; split <;> omega
    · intro h; unfold nextL; split <;> omega
    · rintro ⟨z, hz, hd, _⟩
      rw [hy] at hz; injection hz with hz; subst hz
      unfold nextL; rw [if_pos hd]; omega
  | @more b c h1 h2 ih =>
    intro s hs
    obtain ⟨t, ht, hr, hp, _⟩ := ih s hs
    obtain ⟨x, y, hx, hy, hxs, hys, hin⟩ := h2
    refine ⟨nextL least t c y, by unfold nextL; split <;> omega, hr.more ⟨y, ?_, by rw [ht]; exact hin, hys, ?_⟩, ?_, ?_⟩
    · rw [show nextL least t c y / 2 = c by unfold nextL; split <;> omega]; exact hy
    · unfold nextL; split <;> omega
    · intro h; have := hp h; unfold nextL; split <;> omega
    · rintro ⟨z, hz, hd, _⟩
      rw [hy] at hz; injection hz with hz; subst hz
      unfold nextL; rw [if_pos hd]; omega
/-- in a cycle that doesn't go on, and of that least depth: to one of that depth, and back -/
def InBad (g : List Nd) (least : Int) (i : Nat) : Prop := ∃ j, LeastAt g least j ∧ Plus (Feeds g least) i j ∧ Plus (Feeds g least) j i
theorem Plus.first {E : Nat → Nat → Prop} {i j : Nat} (h : Plus E i j) : ∃ b, E i b := by
  induction h with
  | one h => exact ⟨_, h⟩
  | more _ _ ih => exact ih
theorem stuck_iff {g : List Nd} {i : Nat} {least : Int} : Stuck g i least ↔ InBad g least i := by
  constructor
  · rintro ⟨x, hx, hs, hr⟩
    have hst : startN x i least / 2 = i := by unfold startN; split <;> omega
    obtain ⟨h1, h2⟩ := reach_plus (s := startN x i least) (by rw [hst]; exact hx) hs hr
    rw [hst, show (2 * i + 1) / 2 = i by omega] at h1 h2
    rcases h2 (by omega) with h | ⟨j, hj, h3, h4⟩
    · have hd : x.d = least := by unfold startN at h; split at h <;> omega
      refine ⟨i, ⟨x, hx, hd, ?_⟩, h1, h1⟩
      unfold Nd.stays at hs; rw [decide_eq_true_eq] at hs; omega
    · refine ⟨j, hj, h3, ?_⟩
      rcases h4 with rfl | h4
      · exact h1
      · exact h4
  · rintro ⟨j, hj, h1, h2⟩
    obtain ⟨b, x, y, hx, hy, hxs, _, _⟩ := h1.first
    have hst : startN x i least / 2 = i := by unfold startN; split <;> omega
    obtain ⟨t, ht, hr, _, hl⟩ := plus_reach h1 (startN x i least) hst
    obtain ⟨u, hu, hr2, hp2, _⟩ := plus_reach h2 t ht
    have : u = 2 * i + 1 := by have := hp2 (hl hj); omega
    subst this
    exact ⟨x, hx, hxs, hr.trans hr2⟩
/-- of a graph whose nodes' depths are from 0 to 3 -/
theorem bad_iff {g : List Nd} {i : Nat} (hd : ∀ x ∈ g, 0 ≤ x.d ∧ x.d ≤ 3) : BadAt g i ↔ ∃ d : Nat, d < 4 ∧ InBad g d i := by
  constructor
  · rintro ⟨x, hx, least, h0, h1, hs⟩
    have := hd x (List.mem_of_getElem? hx)
    exact ⟨least.toNat, by omega, by rw [Int.toNat_of_nonneg h0]; exact stuck_iff.1 hs⟩
  · rintro ⟨d, hd4, hb⟩
    have hs := stuck_iff.2 hb
    obtain ⟨x, hx, hxs, _⟩ := id hs
    refine ⟨x, hx, d, by omega, ?_, hs⟩
    unfold Nd.stays at hxs; rw [decide_eq_true_eq] at hxs; omega
end

section
open Go.ChangeShapes Go.WideShapes Go.ChangeAt Go.RowKit Go.BigFrame
set_option maxRecDepth 100000
theorem retu {a b : Int} (h : a = b) : Ending.returned (.int .u32 a) = .returned (.int .u32 b) := by rw [h]
theorem pcHas_any (m i : Nat) (w : World) (hm : m < 4294967296) (hi : i < 32) :
    Calls Tryd.prog 34 #[.int .u32 m, .int .i64 i] w fun e w' => e = .returned (.bool (m.testBit i)) ∧ w = w' := by
  have hi0 : (0 : Int) ≤ (i : Int) := by omega
  have hi1 : (i : Int) ≤ 32 := by omega
  have HH := Lib.hid (has_bit (i := i) hm); clear hm
  go_enter Tryd.func34, Tryd.ntmps34
  go_wp2_with fail
  go_ret
  exact ⟨retb HH.out, rfl⟩
theorem pcWith_any (m i : Nat) (w : World) (hm : m < 4294967296) (hi : i < 32) :
    Calls Tryd.prog 36 #[.int .u32 m, .int .i64 i] w fun e w' => e = .returned (.int .u32 ((m ||| 2 ^ i : Nat) : Int)) ∧ w = w' := by
  have hi0 : (0 : Int) ≤ (i : Int) := by omega
  have hi1 : (i : Int) ≤ 32 := by omega
  have HH := Lib.hid (with_bit hm hi); clear hm
  go_enter Tryd.func36, Tryd.ntmps36
  go_wp2_with fail
  go_ret
  exact ⟨retu HH.out, rfl⟩
/-- the table lies where it does -/
def Tab (w : World) : Prop := ∀ i, i < 32 → w.cell? ⟨0, i, none⟩ = some (.int .u8 ((tzTab.getD i 0 : Nat) : Int))
theorem Tab.below {w w' : World} (h : Tab w) (hb : Below w.heap.size w w') : Tab w' := fun i hi => by
  have hc := h i hi
  have hl := cell_lt hc
  rw [hb.cell hl]; exact hc
/-- what the least bit is told to be -/
def LowD (m : Nat) (w : World) (e : Ending) (w' : World) : Prop := ∃ k : Nat, e = .returned (.int .i64 (k : Int)) ∧ w = w' ∧ k < 32 ∧ m.testBit k = true ∧ ∀ j, j < k → m.testBit j = false
theorem neg32 {m : Nat} (h0 : m ≠ 0) (hm : m < 4294967296) : -(m : Int) % 4294967296 = ((4294967296 - m : Nat) : Int) := by
  omega
theorem mul32 (a b : Nat) : (a : Int) * (b : Int) % 4294967296 = ((a * b % 4294967296 : Nat) : Int) := by
  simp
set_option maxHeartbeats 4000000 in
theorem pcLow_any (m : Nat) (w : World) (h0 : m ≠ 0) (hm : m < 4294967296) (hT : Tab w) :
    Calls Tryd.prog 31 #[.int .u32 m] w (LowD m w) := by
  obtain ⟨k, q, hk, e, hb, hl⟩ := low_bit h0 hm
  have h1 : bits .and .u32 (m : Int) (-(m : Int) % 4294967296) = ((2 ^ k : Nat) : Int) := by rw [neg32 h0 hm, bits_and32 hm (by omega), and_neg hk hm e]
  have h2 : ((2 ^ k : Nat) : Int) * 125613361 % 4294967296 = ((2 ^ k * 125613361 % 4294967296 : Nat) : Int) := mul32 (2 ^ k) 125613361
  obtain ⟨X, hX⟩ : ∃ X : Nat, 2 ^ k * 125613361 % 4294967296 / 134217728 = X := ⟨_, rfl⟩
  have h3 : ((2 ^ k * 125613361 % 4294967296 : Nat) : Int) / 134217728 = (X : Int) := by rw [← hX]; rfl
  have hX32 : X < 32 := by rw [← hX]; exact tz_lt k
  have hc := hT X hX32
  rw [← hX, tz_at k hk, hX] at hc
  have hmz : ((m : Int) == 0) = false := by rw [beq_eq_false_iff_ne]; omega
  have HF := Lib.hid (And.intro hk (And.intro hb hl)); have H1 := Lib.hid h1; have H2 := Lib.hid h2; have H3 := Lib.hid h3
  clear e hb hl hT h1 h2 h3 hX
  generalize ((2 ^ k : Nat) : Int) = p at *
  generalize ((2 ^ k * 125613361 % 4294967296 : Nat) : Int) = r at *
  have h1 := H1.out; have h2 := H2.out; have h3 := H3.out
  have hXz : (X : Int) < 32 := by omega
  go_enter Tryd.func31, Tryd.ntmps31
  go_wp2_with fail
  go_ret
  exact ⟨k, rfl, rfl, HF.out⟩
end

section
open Go.ChangeShapes Go.WideShapes Go.ChangeAt Go.RowKit Go.BigFrame
set_option maxRecDepth 100000
abbrev laidT : List (String × DataW Unit) := [("math/bits.deBruijn32tab", Rows.laid_math_bits_deBruijn32tab)]
def tzInts : List Int := [0, 1, 28, 2, 29, 14, 24, 3, 30, 22, 20, 15, 25, 17, 4, 8, 31, 27, 13, 23, 21, 19, 16, 7, 26, 12, 18, 6, 11, 5, 10, 9]
theorem tz_ints : ∀ i, i < 32 → tzInts.getD i 0 = ((tzTab.getD i 0 : Nat) : Int) := by decide
theorem gTab : Tryd.prog.globalNamed "math/bits.deBruijn32tab" = some 0 := by kernel_rfl
theorem tTab : (Tryd.prog.globals[0]?).map (·.type) = some 67 := by kernel_rfl
theorem cTab : Tryd.prog.cellsOf 67 = 32 := by kernel_rfl
theorem tab_of_laid {W : World} (h : laidMetH Tryd.prog laidT W) : Tab W := by
  rw [MakeChecks.laidMetH_plain _ _ _ (by kernel_rfl)] at h
  have hT : Lib.TabIs Tryd.prog W "math/bits.deBruijn32tab" .u8 tzInts := Lib.tabIs_of_head gTab tTab Tryd.underlying67 Tryd.underlying5 cells_u8 cTab h
  intro i hi
  rw [hT.cell gTab i hi, tz_ints i hi]
/-- The door's own heap meets the condition. -/
theorem door_met (os : Os) (args : Array Value) : laidMetH Tryd.prog laidT ((World.doorLaid Tryd.prog 400 os).forCall (fun _ _ => 0) ⟨#[], args, []⟩).memory :=
  laidMetH_of_parts3 (fuel := 8) (laidMet_of_run' 8 (by kernel_rfl) (by kernel_rfl)) (by kernel_rfl) (by kernel_rfl)
end
end Go.Proofs.YtocdganglokplaaDoor
