/- OrdMath, BfsMath, ChkRun -/
import Derived.Test.YtocdganglokplaaDoorChkMath
namespace Go.Proofs.YtocdganglokplaaDoor
set_option linter.unusedVariables false
section
theorem nodup_le {α : Type} : ∀ {l m : List α}, l.Nodup → (∀ x ∈ l, x ∈ m) → l.length ≤ m.length
  | [], m, _, _ => Nat.zero_le _
  | x :: l, m, h, hs => by
    classical
    have hx := hs x List.mem_cons_self
    have h1 := List.nodup_cons.1 h
    have := nodup_le (l := l) (m := m.erase x) h1.2 fun y hy => (List.mem_erase_of_ne (fun e : y = x => h1.1 (by rw [← e]; exact hy))).2 (hs y (List.mem_cons_of_mem _ hy))
    have hl := List.length_erase_of_mem hx
    have hp : 0 < m.length := List.length_pos_of_mem hx
    simp only [List.length_cons]; omega
/-- what is missing in a row of places without repetition -/
theorem missing {T : List Nat} {n : Nat} (hd : T.Nodup) (hl : ∀ x ∈ T, x < n) (hn : T.length < n) : ∃ i, i < n ∧ i ∉ T := by
  apply Classical.byContradiction
  intro h
  have hall : ∀ i ∈ List.range n, i ∈ T := fun i hi => Classical.byContradiction fun hm => h ⟨i, List.mem_range.1 hi, hm⟩
  have := nodup_le List.nodup_range hall
  rw [List.length_range] at this
  omega
/-- may the node at i come next, behind those of T? -/
def MayNext (g : List Nd) (T : List Nat) (i : Nat) : Prop := i ∉ T ∧ ∃ x, g[i]? = some x ∧ (x.k = 9 ∨ ∀ z ∈ x.ins, 0 ≤ z ∧ z.toNat ∈ T)
noncomputable def nextO (g : List Nd) (T : List Nat) : Option Nat := firstP (MayNext g T) g.length
noncomputable def ordF (g : List Nd) : Nat → List Nat → Option (List Nat)
  | 0, T => some T
  | n + 1, T => match nextO g T with | none => none | some i => ordF g n (T ++ [i])
/-- Order: the places, and an error -/
noncomputable def orderR (g : List Nd) : List Nat × Int := if (checkR g).2 ≠ 0 then ([], (checkR g).2) else match ordF g g.length [] with | some l => (l, 0) | none => ([], 102)
/-- a row of places, each one such as may come next -/
def OrdT (g : List Nd) (T : List Nat) : Prop := ∀ (j i : Nat), T[j]? = some i → nextO g (T.take j) = some i
theorem nextO_lt {g : List Nd} {T : List Nat} {i : Nat} (h : nextO g T = some i) : i < g.length ∧ MayNext g T i := ⟨(firstP_some.1 h).1, (firstP_some.1 h).2.1⟩
theorem OrdT.nil (g : List Nd) : OrdT g [] := fun j i h => by simp at h
theorem OrdT.snoc {g : List Nd} {T : List Nat} {i : Nat} (h : OrdT g T) (hi : nextO g T = some i) : OrdT g (T ++ [i]) := fun j k hk => by
  by_cases hj : j < T.length
  · rw [List.getElem?_append_left hj] at hk
    rw [List.take_append_of_le_length (by omega)]
    exact h j k hk
  · have hl := (List.getElem?_eq_some_iff.1 hk).1
    simp only [List.length_append, List.length_singleton] at hl
    have : j = T.length := by omega
    subst this
    rw [List.getElem?_append_right (Nat.le_refl _), Nat.sub_self] at hk
    simp only [List.getElem?_cons_zero, Option.some.injEq] at hk
    subst hk
    rw [List.take_left]; exact hi
theorem OrdT.take {g : List Nd} {T : List Nat} (h : OrdT g T) (n : Nat) : OrdT g (T.take n) := fun j i hi => by
  rw [List.getElem?_take] at hi
  split at hi
  · rw [List.take_take, Nat.min_eq_left (by omega)]
    exact h j i hi
  · cases hi
theorem OrdT.lt {g : List Nd} {T : List Nat} (h : OrdT g T) : ∀ x ∈ T, x < g.length := fun x hx => by
  obtain ⟨j, hj⟩ := List.getElem?_of_mem hx
  exact (nextO_lt (h j x hj)).1
theorem OrdT.nodup {g : List Nd} : ∀ {T : List Nat}, OrdT g T → T.Nodup := by
  intro T h
  rw [List.Nodup, List.pairwise_iff_getElem]
  intro i j hi hj hij e
  have h1 := (nextO_lt (h j T[j] (List.getElem?_eq_getElem hj))).2.1
  apply h1
  rw [← e]
  exact List.mem_of_getElem? (i := i) (by rw [List.getElem?_take, if_pos hij, List.getElem?_eq_getElem hi])
theorem ordF_some {g : List Nd} : ∀ {n : Nat} {T l : List Nat}, OrdT g T → ordF g n T = some l → OrdT g l ∧ l.length = T.length + n
  | 0, T, l, h, e => by
    simp only [ordF, Option.some.injEq] at e
    subst e; exact ⟨h, by omega⟩
  | n + 1, T, l, h, e => by
    unfold ordF at e
    cases hi : nextO g T with
    | none => rw [hi] at e; cases e
    | some i =>
      rw [hi] at e
      have := ordF_some (h.snoc hi) e
      rw [List.length_append, List.length_singleton] at this
      exact ⟨this.1, by omega⟩
/-- going on from a row that is there -/
theorem ordF_from {g : List Nd} : ∀ {n : Nat} {T l : List Nat}, OrdT g T → OrdT g l → T = l.take T.length → l.length = T.length + n → ordF g n T = some l
  | 0, T, l, h, hl, e, hn => by
    have : l.take T.length = l := List.take_of_length_le (by omega)
    rw [this] at e
    rw [e]; rfl
  | n + 1, T, l, h, hl, e, hn => by
    obtain ⟨i, hi⟩ : ∃ i, l[T.length]? = some i := ⟨_, List.getElem?_eq_getElem (by omega)⟩
    have h1 := hl T.length i hi
    rw [← e] at h1
    unfold ordF
    rw [h1]
    refine ordF_from (h.snoc h1) hl ?_ (by rw [List.length_append, List.length_singleton]; omega)
    rw [List.length_append, List.length_singleton, List.take_add_one, hi, ← e]; rfl
theorem orderR_ok {g : List Nd} {l : List Nat} (h : (checkR g).2 = 0) (hl : OrdT g l) (hn : l.length = g.length) : orderR g = (l, 0) := by
  unfold orderR
  rw [if_neg (by simpa using h), ordF_from (OrdT.nil g) hl rfl (by simpa using hn)]
theorem orderR_no {g : List Nd} (h : (checkR g).2 ≠ 0) : orderR g = ([], (checkR g).2) := by unfold orderR; rw [if_pos h]
/-- iterates of a function from places to places, some two are the same -/
theorem again {n : Nat} {f : Nat → Nat} (hf : ∀ i, i < n → f i < n) {i : Nat} (hi : i < n) : ∃ u v, u < v ∧ Nat.repeat f u i = Nat.repeat f v i := by
  have hlt : ∀ u, Nat.repeat f u i < n := fun u => by
    induction u with
    | zero => exact hi
    | succ u ih => exact hf _ ih
  apply Classical.byContradiction
  intro h
  have hd : ((List.range (n + 1)).map fun u => Nat.repeat f u i).Nodup := by
    rw [List.Nodup, List.pairwise_map, List.pairwise_iff_getElem]
    intro a b ha hb hab e
    simp only [List.getElem_range] at e
    exact h ⟨a, b, hab, e⟩
  have := nodup_le hd (m := List.range n) fun x hx => by
    obtain ⟨u, _, rfl⟩ := List.mem_map.1 hx
    exact List.mem_range.2 (hlt u)
  rw [List.length_map, List.length_range, List.length_range] at this
  omega
theorem repeat_add (f : Nat → Nat) (a b i : Nat) : Nat.repeat f (a + b) i = Nat.repeat f a (Nat.repeat f b i) := by
  induction a with
  | zero => rw [Nat.zero_add]; rfl
  | succ a ih => rw [Nat.succ_add]; show f _ = f _; rw [ih]
/-- of finitely many numbers one is the least -/
theorem least_of (d : Nat → Int) : ∀ n, ∃ k, k < n + 1 ∧ ∀ j, j < n + 1 → d k ≤ d j
  | 0 => ⟨0, by omega, fun j hj => by
    have : j = 0 := by omega
    subst this; exact Int.le_refl _⟩
  | n + 1 => by
    obtain ⟨k, hk, h⟩ := least_of d n
    by_cases hd : d k ≤ d (n + 1)
    · refine ⟨k, by omega, fun j hj => ?_⟩
      by_cases e : j = n + 1
      · subst e; exact hd
      · exact h j (by omega)
    · refine ⟨n + 1, by omega, fun j hj => ?_⟩
      by_cases e : j = n + 1
      · subst e; exact Int.le_refl _
      · have := h j (by omega); omega
/-- where each place has one behind it that it is fed by, and none is a Feedback, there is a cycle that doesn't go on -/
theorem back_bad {g : List Nd} {f : Nat → Nat} {U : Nat → Prop} (hU : ∀ i, U i → U (f i) ∧ ∃ x, g[i]? = some x ∧ x.k ≠ 9 ∧ 0 ≤ x.d ∧ ((f i : Nat) : Int) ∈ x.ins) (hf : ∀ i, i < g.length → f i < g.length) {i : Nat} (hi : i < g.length) (h0 : U i) : ∃ j, j < g.length ∧ BadAt g j := by
  obtain ⟨u, v, huv, e⟩ := again hf hi
  have hUr : ∀ n, U (Nat.repeat f n i) := fun n => by
    induction n with
    | zero => exact h0
    | succ n ih => exact (hU _ ih).1
  let dep : Nat → Int := fun n => (g[Nat.repeat f n i]?.map Nd.d).getD 0
  obtain ⟨k, hk, hmin⟩ := least_of (fun j => dep (u + j)) (v - u - 1)
  have per : ∀ m, Nat.repeat f (u + m + (v - u)) i = Nat.repeat f (u + m) i := fun m => by
    rw [show u + m + (v - u) = m + v by omega, repeat_add, ← e, ← repeat_add, Nat.add_comm]
  have hmin2 : ∀ m, dep (u + k) ≤ dep (u + m) := by
    intro m
    induction m using Nat.strongRecOn with
    | _ m ih =>
      by_cases hm : m < v - u - 1 + 1
      · exact hmin m hm
      · have h1 := ih (m - (v - u)) (by omega)
        have h2 := per (m - (v - u))
        rw [show u + (m - (v - u)) + (v - u) = u + m by omega] at h2
        have h3 : dep (u + m) = dep (u + (m - (v - u))) := by show (g[Nat.repeat f (u + m) i]?.map Nd.d).getD 0 = _; rw [h2]
        rw [h3]; exact h1
  obtain ⟨x, hx, hxk, hxd, _⟩ := (hU _ (hUr (u + k))).2
  have hdx : dep (u + k) = x.d := by show (g[Nat.repeat f (u + k) i]?.map Nd.d).getD 0 = _; rw [hx]; rfl
  have step : ∀ m s, s % 2 = 1 → s / 2 = Nat.repeat f (u + k + m + 1) i → StepN g x.d s (2 * Nat.repeat f (u + k + m) i + 1) := by
    intro m s hs1 hs2
    obtain ⟨y, hy, hyk, hyd, hyin⟩ := (hU _ (hUr (u + k + m))).2
    have hdy : dep (u + k + m) = y.d := by show (g[Nat.repeat f (u + k + m) i]?.map Nd.d).getD 0 = _; rw [hy]; rfl
    have hle := hmin2 (k + m)
    rw [show u + (k + m) = u + k + m by omega, hdx, hdy] at hle
    refine ⟨y, by rw [show (2 * Nat.repeat f (u + k + m) i + 1) / 2 = Nat.repeat f (u + k + m) i by omega]; exact hy, ?_, ?_, ?_⟩
    · rw [hs2]; exact hyin
    · unfold Nd.stays; rw [decide_eq_true_eq]; omega
    · split <;> omega
  have walk : ∀ m, ReachN g x.d (2 * Nat.repeat f (u + k + (m + 1)) i + 1) (2 * Nat.repeat f (u + k) i + 1) := by
    intro m
    induction m with
    | zero => exact .one (by
        have := step 0 (2 * Nat.repeat f (u + k + 1) i + 1) (by omega) (by rw [Nat.add_zero (u + k)]; omega)
        rw [Nat.add_zero (u + k)] at this
        exact this)
    | succ m ih => exact ReachN.trans (.one (step (m + 1) (2 * Nat.repeat f (u + k + (m + 1 + 1)) i + 1) (by omega) (by rw [show u + k + (m + 1) + 1 = u + k + (m + 1 + 1) by omega]; omega))) ih
  have hw := walk (v - u - 1)
  rw [show u + k + (v - u - 1 + 1) = u + k + (v - u) by omega, per k] at hw
  refine ⟨Nat.repeat f (u + k) i, (List.getElem?_eq_some_iff.1 hx).1, x, hx, x.d, hxd, Int.le_refl _, x, hx, ?_, ?_⟩
  · unfold Nd.stays; rw [decide_eq_true_eq]; exact .inr ⟨rfl, hxk⟩
  · unfold startN; rw [if_pos rfl]; exact hw
/-- a graph that may be run: as long as one is missing, one may come next -/
theorem next_there {g : List Nd} (h : (checkR g).2 = 0) {T : List Nat} (hT : OrdT g T) (hn : T.length < g.length) : ∃ i, nextO g T = some i := by
  cases hne : nextO g T with
  | some i => exact ⟨i, rfl⟩
  | none =>
    exfalso
    obtain ⟨h0, h1, h2, _⟩ := checkR_zero h
    have hno := firstP_none.1 hne
    obtain ⟨i, hi, hiT⟩ := missing hT.nodup hT.lt hn
    have key : ∀ j, j < g.length ∧ j ∉ T → ∃ p, (p < g.length ∧ p ∉ T) ∧ ∃ x, g[j]? = some x ∧ x.k ≠ 9 ∧ 0 ≤ x.d ∧ ((p : Nat) : Int) ∈ x.ins := by
      rintro j ⟨hj, hjT⟩
      obtain ⟨x, hx⟩ : ∃ x, g[j]? = some x := ⟨_, List.getElem?_eq_getElem hj⟩
      have he := h1 j hj
      rw [nodeE_at hx] at he
      obtain ⟨_, hp, hd⟩ := err_zero he
      have hm := hno j hj
      have hxk : x.k ≠ 9 := fun e => hm ⟨hjT, x, hx, .inl e⟩
      have : ∃ z ∈ x.ins, ¬ (0 ≤ z ∧ z.toNat ∈ T) := Classical.byContradiction fun hh => hm ⟨hjT, x, hx, .inr fun z hz => Classical.byContradiction fun h3 => hh ⟨z, hz, h3⟩⟩
      obtain ⟨z, hz, hzT⟩ := this
      obtain ⟨hz0, y, hy, _⟩ := hp.1 z hz
      have hd2 := hd.1
      unfold Nd.deepB at hd2
      rw [decide_eq_true_eq] at hd2
      exact ⟨z.toNat, ⟨(List.getElem?_eq_some_iff.1 hy).1, fun hm => hzT ⟨hz0, hm⟩⟩, x, hx, hxk, hd2.1, by rw [Int.toNat_of_nonneg hz0]; exact hz⟩
    classical
    let f : Nat → Nat := fun j => if hj : j < g.length ∧ j ∉ T then Classical.choose (key j hj) else j
    have hfj : ∀ j (hj : j < g.length ∧ j ∉ T), f j = Classical.choose (key j hj) := fun j hj => by simp only [f]; rw [dif_pos hj]
    obtain ⟨b, hb, hbad⟩ := back_bad (g := g) (f := f) (U := fun j => j < g.length ∧ j ∉ T) (fun j hj => by
      have := Classical.choose_spec (key j hj)
      rw [hfj j hj]
      exact this) (fun j hj => by
      by_cases hm : j ∉ T
      · rw [hfj j ⟨hj, hm⟩]; exact (Classical.choose_spec (key j ⟨hj, hm⟩)).1.1
      · have : f j = j := by simp only [f]; rw [dif_neg (by intro h; exact hm h.2)]
        rw [this]; exact hj) hi ⟨hi, hiT⟩
    exact h2 b hb hbad
theorem ordF_ok {g : List Nd} (h : (checkR g).2 = 0) : ∀ (n : Nat) (T : List Nat), OrdT g T → T.length + n = g.length → ∃ l, ordF g n T = some l
  | 0, T, _, _ => ⟨T, rfl⟩
  | n + 1, T, hT, hn => by
    obtain ⟨i, hi⟩ := next_there h hT (by omega)
    unfold ordF
    rw [hi]
    exact ordF_ok h n (T ++ [i]) (hT.snoc hi) (by rw [List.length_append, List.length_singleton]; omega)
/-- the order of a graph that may be run -/
theorem order_there {g : List Nd} (h : (checkR g).2 = 0) : ∃ l, orderR g = (l, 0) ∧ OrdT g l ∧ l.length = g.length := by
  obtain ⟨l, hl⟩ := ordF_ok h g.length [] (OrdT.nil g) (by simp)
  have := ordF_some (OrdT.nil g) hl
  exact ⟨l, orderR_ok h this.1 (by simpa using this.2), this.1, by simpa using this.2⟩
end

section
theorem mem_toIn {n : Nat} {i : Int} {m q : Nat} : ∀ {l : List Int} {p : Nat}, (m, q) ∈ toIn n i p l ↔ m = n ∧ p ≤ q ∧ l[q - p]? = some i
  | [], p => by simp [toIn]
  | x :: l, p => by
    have ih := mem_toIn (n := n) (i := i) (m := m) (q := q) (l := l) (p := p + 1)
    simp only [toIn, List.mem_append, ih]
    by_cases hq : q = p
    · subst hq
      rw [Nat.sub_self, List.getElem?_cons_zero]
      by_cases hx : x = i
      · simp only [hx, if_true, List.mem_singleton, Prod.mk.injEq, and_true, Nat.le_refl, true_and]
        constructor
        · rintro (h | ⟨_, h, _⟩)
          · exact h
          · omega
        · exact .inl
      · simp only [if_neg hx, List.not_mem_nil, false_or, Option.some.injEq, hx, and_false, iff_false]
        rintro ⟨_, h, _⟩; omega
    · have : (m, q) ∈ (if x = i then [(n, p)] else []) ↔ False := by
        split
        · simp only [List.mem_singleton, Prod.mk.injEq, iff_false]; rintro ⟨_, h⟩; exact hq h
        · simp
      rw [this, false_or]
      constructor
      · rintro ⟨h1, h2, h3⟩
        refine ⟨h1, by omega, ?_⟩
        rw [show q - p = (q - (p + 1)) + 1 by omega, List.getElem?_cons_succ]; exact h3
      · rintro ⟨h1, h2, h3⟩
        rw [show q - p = (q - (p + 1)) + 1 by omega, List.getElem?_cons_succ] at h3
        exact ⟨h1, by omega, h3⟩
theorem mem_toG {i : Int} {m q : Nat} : ∀ {g : List Nd} {n : Nat}, (m, q) ∈ toG i n g ↔ n ≤ m ∧ ∃ x, g[m - n]? = some x ∧ x.ins[q]? = some i
  | [], n => by simp [toG]
  | y :: g, n => by
    have ih := mem_toG (i := i) (m := m) (q := q) (g := g) (n := n + 1)
    simp only [toG, List.mem_append, ih, mem_toIn]
    by_cases hm : m = n
    · subst hm
      rw [Nat.sub_self, List.getElem?_cons_zero]
      constructor
      · rintro (⟨_, _, h⟩ | ⟨h, _⟩)
        · exact ⟨Nat.le_refl _, y, rfl, by simpa using h⟩
        · omega
      · rintro ⟨_, x, hx, h⟩
        simp only [Option.some.injEq] at hx
        subst hx
        exact .inl ⟨rfl, Nat.zero_le _, by simpa using h⟩
    · constructor
      · rintro (⟨h, _⟩ | ⟨h, x, hx, h2⟩)
        · exact absurd h hm
        · exact ⟨by omega, x, by rw [show m - n = (m - (n + 1)) + 1 by omega, List.getElem?_cons_succ]; exact hx, h2⟩
      · rintro ⟨h, x, hx, h2⟩
        rw [show m - n = (m - (n + 1)) + 1 by omega, List.getElem?_cons_succ] at hx
        exact .inr ⟨by omega, x, hx, h2⟩
/-- the state behind s at place n -/
def nextC (least : Int) (s n : Nat) (x : Nd) : Nat := 2 * n + if x.d = least then 1 else s % 2
theorem nextC_half (least : Int) (s n : Nat) (x : Nd) : nextC least s n x / 2 = n := by unfold nextC; split <;> omega
theorem step_port {g : List Nd} {least : Int} {s t : Nat} : StepN g least s t ↔ ∃ (n p : Nat) (x : Nd), (n, p) ∈ toG ((s / 2 : Nat) : Int) 0 g ∧ g[n]? = some x ∧ x.stays least = true ∧ t = nextC least s n x := by
  constructor
  · rintro ⟨x, hx, hin, hs, ht⟩
    obtain ⟨p, hp⟩ := List.getElem?_of_mem hin
    exact ⟨t / 2, p, x, mem_toG.2 ⟨Nat.zero_le _, x, by simpa using hx, hp⟩, hx, hs, ht⟩
  · rintro ⟨n, p, x, hm, hx, hs, rfl⟩
    obtain ⟨_, y, hy, hp⟩ := mem_toG.1 hm
    rw [Nat.sub_zero, hx] at hy
    injection hy with hy
    subst hy
    refine ⟨x, by rw [nextC_half]; exact hx, List.mem_of_getElem? hp, hs, ?_⟩
    rw [nextC_half]; rfl
theorem count_set : ∀ {l : List Bool} {t : Nat}, l[t]? = some false → (l.set t true).count false + 1 = l.count false
  | [], t, h => by simp at h
  | x :: l, 0, h => by
    simp only [List.getElem?_cons_zero, Option.some.injEq] at h
    subst h
    simp [List.set_cons_zero, List.count_cons]
  | x :: l, t + 1, h => by
    rw [List.getElem?_cons_succ] at h
    have ih := count_set h
    rw [List.set_cons_succ, List.count_cons, List.count_cons]
    omega
/-- in the search: i states are done -/
structure Bfs (g : List Nd) (least : Int) (first tgt i : Nat) (todo : List Nat) (seen : List Bool) : Prop where
  len : seen.length = 2 * g.length
  head : todo[0]? = some first
  reach : ∀ s ∈ todo, s = first ∨ ReachN g least first s
  mem : ∀ t : Nat, seen[t]? = some true → t ∈ todo
  done : ∀ j s, j < i → todo[j]? = some s → ∀ t, StepN g least s t → t ≠ tgt ∧ seen[t]? = some true
  cnt : todo.length + seen.count false = 1 + 2 * g.length
/-- and k of the inputs that the next one feeds -/
structure BfsIn (g : List Nd) (least : Int) (first tgt i : Nat) (todo : List Nat) (seen : List Bool) (s k : Nat) : Prop where
  base : Bfs g least first tgt i todo seen
  cur : todo[i]? = some s
  part : ∀ (j n p : Nat) (x : Nd), j < k → (toG ((s / 2 : Nat) : Int) 0 g)[j]? = some (n, p) → g[n]? = some x → x.stays least = true → nextC least s n x ≠ tgt ∧ seen[nextC least s n x]? = some true
section
variable {g : List Nd} {least : Int} {first tgt i s k n p : Nat} {todo : List Nat} {seen : List Bool} {x : Nd}
theorem Bfs.start (g : List Nd) (least : Int) (first tgt : Nat) : Bfs g least first tgt 0 [first] (List.replicate (2 * g.length) false) where
  len := List.length_replicate
  head := rfl
  reach := fun s hs => .inl (by simpa using hs)
  mem := fun t ht => by
    have := List.eq_of_mem_replicate (List.mem_of_getElem? ht)
    cases this
  done := fun j s hj => absurd hj (by omega)
  cnt := by rw [List.count_replicate_self]; simp
theorem Bfs.bound (h : Bfs g least first tgt i todo seen) : todo.length ≤ 1 + 2 * g.length := by have := h.cnt; omega
theorem Bfs.in_ (h : Bfs g least first tgt i todo seen) (hs : todo[i]? = some s) : BfsIn g least first tgt i todo seen s 0 := ⟨h, hs, fun j n p x hj => absurd hj (by omega)⟩
theorem BfsIn.skip (h : BfsIn g least first tgt i todo seen s k) (hk : (toG ((s / 2 : Nat) : Int) 0 g)[k]? = some (n, p)) (hx : g[n]? = some x) (hn : x.stays least = false) : BfsIn g least first tgt i todo seen s (k + 1) :=
  ⟨h.base, h.cur, fun j m q y hj hm hy hs => by
    by_cases e : j = k
    · subst e
      rw [hk] at hm
      simp only [Option.some.injEq, Prod.mk.injEq] at hm
      obtain ⟨rfl, rfl⟩ := hm
      rw [hx] at hy; injection hy with hy; subst hy
      rw [hn] at hs; cases hs
    · exact h.part j m q y (by omega) hm hy hs⟩
theorem BfsIn.old (h : BfsIn g least first tgt i todo seen s k) (hk : (toG ((s / 2 : Nat) : Int) 0 g)[k]? = some (n, p)) (hx : g[n]? = some x) (ht : nextC least s n x ≠ tgt) (hs : seen[nextC least s n x]? = some true) : BfsIn g least first tgt i todo seen s (k + 1) :=
  ⟨h.base, h.cur, fun j m q y hj hm hy hs' => by
    by_cases e : j = k
    · subst e
      rw [hk] at hm
      simp only [Option.some.injEq, Prod.mk.injEq] at hm
      obtain ⟨rfl, rfl⟩ := hm
      rw [hx] at hy; injection hy with hy; subst hy
      exact ⟨ht, hs⟩
    · exact h.part j m q y (by omega) hm hy hs'⟩
theorem BfsIn.step (h : BfsIn g least first tgt i todo seen s k) (hk : (toG ((s / 2 : Nat) : Int) 0 g)[k]? = some (n, p)) (hx : g[n]? = some x) (hs : x.stays least = true) : ReachN g least first (nextC least s n x) := by
  have st : StepN g least s (nextC least s n x) := step_port.2 ⟨n, p, x, List.mem_of_getElem? hk, hx, hs, rfl⟩
  rcases h.base.reach s (List.mem_of_getElem? h.cur) with rfl | hr
  · exact .one st
  · exact hr.more st
theorem BfsIn.push (h : BfsIn g least first tgt i todo seen s k) (hk : (toG ((s / 2 : Nat) : Int) 0 g)[k]? = some (n, p)) (hx : g[n]? = some x) (hs : x.stays least = true) (ht : nextC least s n x ≠ tgt) (hn : seen[nextC least s n x]? = some false) :
    BfsIn g least first tgt i (todo ++ [nextC least s n x]) (seen.set (nextC least s n x) true) s (k + 1) := by
  have hl := (List.getElem?_eq_some_iff.1 hn).1
  have hi := (List.getElem?_eq_some_iff.1 h.cur).1
  have up : ∀ t : Nat, seen[t]? = some true → (seen.set (nextC least s n x) true)[t]? = some true := fun t hh => by
    by_cases e : nextC least s n x = t
    · rw [← e, List.getElem?_set_self hl]
    · rw [List.getElem?_set_ne e]; exact hh
  refine ⟨⟨by rw [List.length_set]; exact h.base.len, ?_, ?_, ?_, ?_, ?_⟩, ?_, ?_⟩
  · rw [List.getElem?_append_left (by omega)]; exact h.base.head
  · intro t hm
    rcases List.mem_append.1 hm with hm | hm
    · exact h.base.reach t hm
    · simp only [List.mem_singleton] at hm
      subst hm
      exact .inr (h.step hk hx hs)
  · intro t hh
    by_cases e : nextC least s n x = t
    · exact List.mem_append.2 (.inr (by simp [e]))
    · rw [List.getElem?_set_ne e] at hh
      exact List.mem_append.2 (.inl (h.base.mem t hh))
  · intro j s' hj hs' t hst
    rw [List.getElem?_append_left (by omega)] at hs'
    have := h.base.done j s' hj hs' t hst
    exact ⟨this.1, up t this.2⟩
  · have := h.base.cnt
    have := count_set hn
    rw [List.length_append, List.length_singleton]; omega
  · rw [List.getElem?_append_left hi]; exact h.cur
  · intro j m q y hj hm hy hs'
    by_cases e : j = k
    · subst e
      rw [hk] at hm
      simp only [Option.some.injEq, Prod.mk.injEq] at hm
      obtain ⟨rfl, rfl⟩ := hm
      rw [hx] at hy; injection hy with hy; subst hy
      exact ⟨ht, List.getElem?_set_self hl⟩
    · have := h.part j m q y (by omega) hm hy hs'
      exact ⟨this.1, up _ this.2⟩
theorem BfsIn.ends (h : BfsIn g least first tgt i todo seen s k) (hk : k = (toG ((s / 2 : Nat) : Int) 0 g).length) : Bfs g least first tgt (i + 1) todo seen :=
  ⟨h.base.len, h.base.head, h.base.reach, h.base.mem, fun j s' hj hs' t hst => by
    by_cases e : j = i
    · subst e
      rw [h.cur] at hs'; injection hs' with hs'; subst hs'
      obtain ⟨n, p, x, hm, hx, hsx, rfl⟩ := step_port.1 hst
      obtain ⟨j', hj'⟩ := List.getElem?_of_mem hm
      have := (List.getElem?_eq_some_iff.1 hj').1
      exact h.part j' n p x (by omega) hj' hx hsx
    · exact h.base.done j s' (by omega) hs' t hst, h.base.cnt⟩
theorem Bfs.no (h : Bfs g least first tgt i todo seen) (hi : i = todo.length) : ¬ ReachN g least first tgt := by
  have all : ∀ t, ReachN g least first t → t ≠ tgt ∧ t ∈ todo := by
    intro t ht
    induction ht with
    | one hs =>
      have := h.done 0 first (by have := (List.getElem?_eq_some_iff.1 h.head).1; omega) h.head _ hs
      exact ⟨this.1, h.mem _ this.2⟩
    | more _ hs ih =>
      obtain ⟨j, hj⟩ := List.getElem?_of_mem ih.2
      have := h.done j _ (by have := (List.getElem?_eq_some_iff.1 hj).1; omega) hj _ hs
      exact ⟨this.1, h.mem _ this.2⟩
  intro hr
  exact (all tgt hr).1 rfl
end
end

section
instance (n : Nd) : Decidable n.May := inferInstanceAs (Decidable ((0 ≤ n.d ∧ n.d ≤ 3) ∧ n.ins.length ≤ 2 ∧ ∀ x ∈ n.ins, 0 ≤ x ∧ x ≤ 31))
instance (g : List Nd) : Decidable (GMay g) := inferInstanceAs (Decidable ((1 ≤ g.length ∧ g.length ≤ 32) ∧ ∀ n ∈ g, n.May))
theorem putE_ok {g : List Nd} (h : GMay g) : putE g = 0 := by
  have h1 := h.1
  unfold putE
  rw [if_neg (by omega), if_pos (mayB_iff.2 h)]
/-- the error of a node, reckoned -/
def portC (g : List Nd) (z : Int) : Bool := decide (0 ≤ z) && match g[z.toNat]? with | some m => decide (m.k ≠ 10) | none => false
def errC (g : List Nd) (n : Nd) : Int :=
  if n.num = false then 130
  else if (n.ins.all (portC g) && decide (n.ins.length = n.want)) = false then 100
  else if (n.deepB && n.ins.all fun z => match g[z.toNat]? with | some m => decide (n.d - n.more = m.d) | none => true) = false then 101 else 0
theorem portC_iff {g : List Nd} {z : Int} : portC g z = true ↔ portOk g z := by
  unfold portC portOk
  cases h : g[z.toNat]? with
  | none => simp
  | some m => simp
theorem errC_is (g : List Nd) (n : Nd) : n.err g = errC g n := by
  have hp : (n.ins.all (portC g) && decide (n.ins.length = n.want)) = true ↔ n.Ports g := by
    unfold Nd.Ports
    rw [Bool.and_eq_true, List.all_eq_true, decide_eq_true_iff]
    exact ⟨fun h => ⟨fun z hz => portC_iff.1 (h.1 z hz), h.2⟩, fun h => ⟨fun z hz => portC_iff.2 (h.1 z hz), h.2⟩⟩
  have hd : (n.deepB && n.ins.all fun z => match g[z.toNat]? with | some m => decide (n.d - n.more = m.d) | none => true) = true ↔ n.Deep g := by
    unfold Nd.Deep
    rw [Bool.and_eq_true, List.all_eq_true]
    constructor
    · rintro ⟨h1, h2⟩
      refine ⟨h1, fun z hz m hm => ?_⟩
      have := h2 z hz
      rw [hm] at this
      simpa using this
    · rintro ⟨h1, h2⟩
      refine ⟨h1, fun z hz => ?_⟩
      cases hm : g[z.toNat]? with
      | none => rfl
      | some m => simpa using h2 z hz m hm
  unfold errC
  by_cases h1 : n.num = false
  · rw [err_num h1, if_pos h1]
  · rw [if_neg h1]
    have h1' : n.num = true := by simpa using h1
    by_cases h2 : n.Ports g
    · rw [if_neg (by rw [hp.2 h2]; simp)]
      by_cases h3 : n.Deep g
      · rw [if_neg (by rw [hd.2 h3]; simp), err_ok h1' h2 h3]
      · rw [if_pos (by rw [← Bool.not_eq_true]; exact fun h => h3 (hd.1 h)), err_deep h1' h2 h3]
    · rw [if_pos (by rw [← Bool.not_eq_true]; exact fun h => h2 (hp.1 h)), err_ports h1' h2]
/-- the error of the node at i, reckoned -/
def nodeC (g : List Nd) (i : Nat) : Int := match g[i]? with | some n => errC g n | none => 2
theorem nodeC_is (g : List Nd) (i : Nat) : nodeE g (i : Nat) = nodeC g i := by
  unfold nodeC
  cases h : g[i]? with
  | some n => rw [nodeE_at h, errC_is]
  | none => exact nodeE_out (.inr (by have := List.getElem?_eq_none_iff.1 h; omega))
/-- the states behind s -/
def succs (g : List Nd) (least : Int) (s : Nat) : List Nat :=
  (List.range g.length).filterMap fun n => match g[n]? with | some x => if (x.ins.contains ((s / 2 : Nat) : Int) && x.stays least) = true then some (nextC least s n x) else none | none => none
theorem mem_succs {g : List Nd} {least : Int} {s t : Nat} : t ∈ succs g least s ↔ StepN g least s t := by
  unfold succs StepN
  rw [List.mem_filterMap]
  constructor
  · rintro ⟨n, hn, h⟩
    cases hx : g[n]? with
    | none => rw [hx] at h; cases h
    | some x =>
      rw [hx] at h
      simp only at h
      split at h
      · rename_i hc
        injection h with h
        subst h
        rw [Bool.and_eq_true, List.contains_iff_mem] at hc
        exact ⟨x, by rw [nextC_half]; exact hx, hc.1, hc.2, by rw [nextC_half]; rfl⟩
      · cases h
  · rintro ⟨x, hx, hin, hs, ht⟩
    refine ⟨t / 2, List.mem_range.2 (List.getElem?_eq_some_iff.1 hx).1, ?_⟩
    rw [hx]
    simp only
    rw [if_pos (by rw [Bool.and_eq_true, List.contains_iff_mem]; exact ⟨hin, hs⟩)]
    congr 1
    exact ht.symm
/-- those of the states that are reached in so many steps -/
def reachC (g : List Nd) (least : Int) : Nat → List Nat → List Nat
  | 0, S => S
  | k + 1, S => reachC g least k (S.foldl (fun S s => (succs g least s).foldl (fun S t => if S.contains t then S else S ++ [t]) S) S)
/-- no way, by a row that is closed -/
def closedC (g : List Nd) (least : Int) (first tgt : Nat) (S : List Nat) : Bool := (succs g least first).all (fun t => S.contains t) && S.all (fun s => (succs g least s).all fun t => S.contains t) && !S.contains tgt
theorem closedC_no {g : List Nd} {least : Int} {first tgt : Nat} {S : List Nat} (h : closedC g least first tgt S = true) : ¬ ReachN g least first tgt := by
  unfold closedC at h
  rw [Bool.and_eq_true, Bool.and_eq_true] at h
  obtain ⟨⟨h1, h2⟩, h3⟩ := h
  have h1' : ∀ t ∈ succs g least first, t ∈ S := fun t ht => List.contains_iff_mem.1 (List.all_eq_true.1 h1 t ht)
  have h2' : ∀ s ∈ S, ∀ t ∈ succs g least s, t ∈ S := fun s hs t ht => List.contains_iff_mem.1 (List.all_eq_true.1 (List.all_eq_true.1 h2 s hs) t ht)
  have key : ∀ t, ReachN g least first t → t ∈ S := by
    intro t ht
    induction ht with
    | one hs => exact h1' _ (mem_succs.2 hs)
    | more _ hs ih => exact h2' _ ih _ (mem_succs.2 hs)
  intro hr
  have := List.contains_iff_mem.2 (key tgt hr)
  rw [this] at h3; cases h3
/-- a way, step by step -/
def wayC (g : List Nd) (least : Int) : Nat → List Nat → Bool
  | _, [] => true
  | s, t :: l => (succs g least s).contains t && wayC g least t l
theorem wayC_reach {g : List Nd} {least : Int} : ∀ {l : List Nat} {s t : Nat}, wayC g least s (l ++ [t]) = true → ReachN g least s t
  | [], s, t, h => by
    simp only [List.nil_append, wayC, Bool.and_true] at h
    exact .one (mem_succs.1 (List.contains_iff_mem.1 h))
  | u :: l, s, t, h => by
    simp only [List.cons_append, wayC, Bool.and_eq_true] at h
    exact ReachN.trans (.one (mem_succs.1 (List.contains_iff_mem.1 h.1))) (wayC_reach h.2)
/-- the node at i stands in no cycle that doesn't go on -/
def goodC (g : List Nd) (i : Nat) : Bool := match g[i]? with
  | none => true
  | some x => decide (x.d ≤ 3) && (List.range 4).all fun least => decide (x.d < (least : Int)) || !x.stays least || closedC g least (startN x i least) (2 * i + 1) (reachC g least (2 * g.length) (succs g least (startN x i least)))
theorem goodC_no {g : List Nd} {i : Nat} (h : goodC g i = true) : ¬ BadAt g i := by
  rintro ⟨x, hx, least, h0, hd, y, hy, hs, hr⟩
  rw [hx] at hy; injection hy with hy; subst hy
  unfold goodC at h
  rw [hx] at h
  simp only [Bool.and_eq_true, decide_eq_true_eq, List.all_eq_true] at h
  obtain ⟨L, rfl⟩ : ∃ L : Nat, least = (L : Int) := Int.eq_ofNat_of_zero_le h0
  have h2 := h.2 L (List.mem_range.2 (by omega))
  simp only [Bool.or_eq_true, decide_eq_true_eq, Bool.not_eq_true'] at h2
  rcases h2 with (h2 | h2) | h2
  · omega
  · rw [hs] at h2; cases h2
  · exact closedC_no h2 hr
/-- what is reckoned of a graph that may be run -/
def okC (g : List Nd) : Bool := (List.range g.length).all (fun i => decide (nodeC g i = 0)) && (List.range g.length).all (goodC g)
theorem okC_check {g : List Nd} (hm : GMay g) (h : okC g = true) : checkR g = ((g.length : Int), 0) := by
  unfold okC at h
  rw [Bool.and_eq_true, List.all_eq_true, List.all_eq_true] at h
  refine checkR_ok (putE_ok hm) (fun j hj => ?_) fun j hj => goodC_no (h.2 j (List.mem_range.2 hj))
  have := h.1 j (List.mem_range.2 hj)
  rw [nodeC_is]; simpa using this
theorem nodeC_check {g : List Nd} {i : Nat} {e : Int} (hm : GMay g) (hi : i < g.length) (h1 : nodeC g i = e) (h0 : e ≠ 0) (h2 : ∀ j, j < i → nodeC g j = 0) : checkR g = ((i : Int), e) := by
  have := checkR_node (putE_ok hm) hi (by rw [nodeC_is, h1]; exact h0) (fun j hj => by rw [nodeC_is]; exact h2 j hj)
  rw [nodeC_is, h1] at this; exact this
theorem badC_check {g : List Nd} {i : Nat} {x : Nd} {l : List Nat} (least : Nat) (hm : GMay g) (hn : ∀ j, j < g.length → nodeC g j = 0) (hx : g[i]? = some x) (hd : (least : Int) ≤ x.d) (hs : x.stays least = true) (hw : wayC g least (startN x i least) (l ++ [2 * i + 1]) = true) (hg : ∀ j, j < i → goodC g j = true) : checkR g = ((i : Int), 102) :=
  checkR_bad (putE_ok hm) (fun j hj => by rw [nodeC_is]; exact hn j hj) (List.getElem?_eq_some_iff.1 hx).1 ⟨x, hx, least, by omega, hd, x, hx, hs, wayC_reach hw⟩ fun j hj => goodC_no (hg j hj)
-- the chapter's examples
def straightN : List Nd := [⟨1, 0, 0, 0, []⟩, ⟨10, 0, 0, 0, [0]⟩]
def raceN : List Nd := [⟨1, 0, 0, 0, []⟩, ⟨2, 0, 1, 0, [0]⟩, ⟨7, 0, 0, 1, [1]⟩, ⟨4, 0, 0, 1, [2, 6]⟩, ⟨2, 0, 2, 1, [3]⟩, ⟨3, 0, 9, 1, [4]⟩, ⟨9, 0, 3, 1, [5]⟩, ⟨8, 0, 0, 0, [4]⟩, ⟨5, 0, 0, 0, [7]⟩, ⟨10, 0, 0, 0, [8]⟩]
def deeperN : List Nd := [⟨1, 0, 0, 0, []⟩, ⟨4, 0, 0, 0, [0, 4]⟩, ⟨7, 0, 0, 1, [1]⟩, ⟨9, 0, 2, 1, [2]⟩, ⟨8, 0, 0, 0, [3]⟩]
theorem ex_straight : checkR straightN = (2, 0) := okC_check (by decide) (by decide +kernel)
theorem ex_race : checkR raceN = (10, 0) := okC_check (by decide) (by decide +kernel)
theorem ex_output : checkR [⟨10, 0, 0, 0, [0]⟩] = (0, 100) := nodeC_check (i := 0) (by decide) (by decide) (by decide +kernel) (by decide) (by omega)
theorem ex_depth : checkR [⟨1, 0, 0, 0, []⟩, ⟨7, 0, 0, 0, [0]⟩] = (1, 101) := nodeC_check (i := 1) (by decide) (by decide) (by decide +kernel) (by decide) (by decide +kernel)
theorem ex_oper : checkR [⟨2, 4, 0, 0, []⟩] = (0, 130) := nodeC_check (i := 0) (by decide) (by decide) (by decide +kernel) (by decide) (by omega)
theorem ex_cycle : checkR [⟨1, 0, 0, 0, []⟩, ⟨4, 0, 0, 0, [0, 2]⟩, ⟨2, 0, 0, 0, [1]⟩] = (1, 102) := badC_check (i := 1) (l := [5]) 0 (by decide) (by decide +kernel) rfl (by decide) (by decide) (by decide +kernel) (by decide +kernel)
theorem ex_deeper : checkR deeperN = (1, 102) := badC_check (i := 1) (l := [5, 7, 9]) 0 (by decide) (by decide +kernel) rfl (by decide) (by decide) (by decide +kernel) (by decide +kernel)
end
end Go.Proofs.YtocdganglokplaaDoor
