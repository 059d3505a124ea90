/- OpMath, Gr, GrOpen -/
import Derived.Test.YtcjdjdhjbchaaaaCa1
import Derived.RowKit
import Derived.Test.YtcjdjdhjbchaaaaCa3
import Derived.Test.YtcjdjdhjbchaaaaCa0
import Derived.Deep.Slices
import Derived.SizedLaws
namespace Go.Proofs.Ytcjdjdhjbchaaaa
set_option linter.unusedVariables false
section
namespace Op
open Go.RowKit (wrap64)
theorem wrap_add (a b : Int) : wrap64 (wrap64 a + b) = wrap64 (a + b) := by unfold wrap64; omega
theorem wrap_in (n : Int) (h : -9223372036854775808 ≤ n ∧ n ≤ 9223372036854775807) : wrap64 n = n := by unfold wrap64; omega
theorem wrap_W (n : Int) : -9223372036854775808 ≤ wrap64 n ∧ wrap64 n < 9223372036854775808 := by unfold wrap64; omega
def mapR (n : Nd) (r : Rd) : Rd := if n.a = 0 then ⟨r.k, wrap64 (r.v + n.b)⟩ else if n.a = 1 then ⟨r.k, wrap64 (r.v * n.b)⟩ else if n.a = 2 then ⟨r.v, r.k⟩ else ⟨r.v % n.b, r.v⟩
def passB (n : Nd) (r : Rd) : Bool := if n.a = 0 then decide (r.v < n.b) else if n.a = 1 then decide (r.v.tmod n.b = 0) else decide (r.k < n.b)
/-- the keys of a row, the last one's first -/
def keysRev : List Rd → List Int
  | [] => []
  | r :: l => if r.k ∈ keysRev l then keysRev l else keysRev l ++ [r.k]
/-- the keys of a row, in the order in which they come -/
def keysOf (l : List Rd) : List Int := keysRev l.reverse
theorem keysOf_nil : keysOf [] = [] := rfl
theorem keysOf_snoc (l : List Rd) (r : Rd) : keysOf (l ++ [r]) = if r.k ∈ keysOf l then keysOf l else keysOf l ++ [r.k] := by
  unfold keysOf; rw [List.reverse_append]; rfl
theorem mem_keysRev {k : Int} : ∀ {l : List Rd}, k ∈ keysRev l ↔ ∃ r ∈ l, r.k = k
  | [] => by simp [keysRev]
  | r :: l => by
    have ih := mem_keysRev (k := k) (l := l)
    unfold keysRev
    split
    · rename_i h
      rw [ih]
      constructor
      · rintro ⟨x, hx, e⟩; exact ⟨x, List.mem_cons_of_mem _ hx, e⟩
      · rintro ⟨x, hx, e⟩
        rcases List.mem_cons.1 hx with rfl | hx
        · rw [e] at h; exact (ih.1 h)
        · exact ⟨x, hx, e⟩
    · rw [List.mem_append, ih, List.mem_singleton]
      constructor
      · rintro (⟨x, hx, e⟩ | e)
        · exact ⟨x, List.mem_cons_of_mem _ hx, e⟩
        · exact ⟨r, List.mem_cons_self, e.symm⟩
      · rintro ⟨x, hx, e⟩
        rcases List.mem_cons.1 hx with rfl | hx
        · exact .inr e.symm
        · exact .inl ⟨x, hx, e⟩
theorem mem_keysOf {k : Int} {l : List Rd} : k ∈ keysOf l ↔ ∃ r ∈ l, r.k = k := by
  unfold keysOf; rw [mem_keysRev]; simp
theorem nodup_keysRev : ∀ {l : List Rd}, (keysRev l).Nodup
  | [] => by simp [keysRev]
  | r :: l => by
    have ih := nodup_keysRev (l := l)
    unfold keysRev
    split
    · exact ih
    · rename_i h
      rw [List.nodup_append]
      refine ⟨ih, by simp, fun a ha b hb => ?_⟩
      rw [List.mem_singleton] at hb
      subst hb
      rintro rfl
      exact h ha
theorem nodup_keysOf {l : List Rd} : (keysOf l).Nodup := nodup_keysRev
theorem keysOf_len {l : List Rd} : (keysOf l).length ≤ l.length := by
  have h : ∀ l : List Rd, (keysRev l).length ≤ l.length := by
    intro l
    induction l with
    | nil => simp [keysRev]
    | cons r l ih => unfold keysRev; split <;> simp <;> omega
  have := h l.reverse
  rw [List.length_reverse] at this
  exact this
/-- the numbers of a key -/
def valsOf (l : List Rd) (key : Int) : List Int := (l.filter fun r => decide (r.k = key)).map Rd.v
theorem valsOf_nil (k : Int) : valsOf [] k = [] := rfl
theorem valsOf_cons (r : Rd) (l : List Rd) (k : Int) : valsOf (r :: l) k = if r.k = k then r.v :: valsOf l k else valsOf l k := by
  unfold valsOf
  by_cases h : r.k = k <;> simp [h]
theorem valsOf_app (l m : List Rd) (k : Int) : valsOf (l ++ m) k = valsOf l k ++ valsOf m k := by
  unfold valsOf; rw [List.filter_append, List.map_append]
theorem valsOf_snoc (l : List Rd) (r : Rd) (k : Int) : valsOf (l ++ [r]) k = if r.k = k then valsOf l k ++ [r.v] else valsOf l k := by
  rw [valsOf_app, valsOf_cons, valsOf_nil]
  split <;> simp
theorem valsOf_len {l : List Rd} {k : Int} : (valsOf l k).length ≤ l.length := by
  unfold valsOf; rw [List.length_map]; exact List.length_filter_le _ _
theorem valsOf_perm {l m : List Rd} (h : l.Perm m) (k : Int) : (valsOf l k).Perm (valsOf m k) := (h.filter _).map _
theorem valsOf_none {l : List Rd} {k : Int} : valsOf l k = [] ↔ k ∉ keysOf l := by
  unfold valsOf
  rw [List.map_eq_nil_iff, List.filter_eq_nil_iff, mem_keysOf]
  constructor
  · rintro h ⟨r, hr, e⟩; exact h r hr (decide_eq_true e)
  · intro h r hr e; exact h ⟨r, hr, of_decide_eq_true e⟩
theorem mem_valsOf {l : List Rd} {k v : Int} : v ∈ valsOf l k ↔ ⟨k, v⟩ ∈ l := by
  unfold valsOf
  rw [List.mem_map]
  constructor
  · rintro ⟨r, hr, rfl⟩
    rw [List.mem_filter] at hr
    have : r.k = k := of_decide_eq_true hr.2
    subst this
    exact hr.1
  · intro h
    exact ⟨_, List.mem_filter.2 ⟨h, decide_eq_true rfl⟩, rfl⟩
/-! what Reduce makes of numbers -/
def sumF (vs : List Int) : Int := vs.foldl (fun s v => wrap64 (s + v)) 0
def minF : List Int → Int
  | [] => 0
  | x :: xs => xs.foldl (fun m v => if v < m then v else m) x
def maxF : List Int → Int
  | [] => 0
  | x :: xs => xs.foldl (fun m v => if m < v then v else m) x
def redV (a : Nat) (vs : List Int) : Int := if a = 1 then vs.length else if a = 2 then minF vs else if a = 3 then maxF vs else sumF vs
theorem sumF_snoc (vs : List Int) (v : Int) : sumF (vs ++ [v]) = wrap64 (sumF vs + v) := by unfold sumF; rw [List.foldl_append]; rfl
theorem minF_snoc (vs : List Int) (v : Int) : minF (vs ++ [v]) = if vs = [] then v else if v < minF vs then v else minF vs := by
  cases vs with
  | nil => rfl
  | cons x xs => show List.foldl _ x (xs ++ [v]) = _; rw [List.foldl_append]; rfl
theorem maxF_snoc (vs : List Int) (v : Int) : maxF (vs ++ [v]) = if vs = [] then v else if maxF vs < v then v else maxF vs := by
  cases vs with
  | nil => rfl
  | cons x xs => show List.foldl _ x (xs ++ [v]) = _; rw [List.foldl_append]; rfl
theorem sumF_eq : ∀ (vs : List Int) (s : Int), vs.foldl (fun s v => wrap64 (s + v)) (wrap64 s) = wrap64 (s + vs.sum)
  | [], s => by simp
  | v :: vs, s => by
    rw [List.foldl_cons, wrap_add, sumF_eq vs (s + v), List.sum_cons, Int.add_assoc]
theorem sumF_sum (vs : List Int) : sumF vs = wrap64 vs.sum := by
  have := sumF_eq vs 0
  rw [Int.zero_add, wrap_in 0 (by omega)] at this
  exact this
theorem sum_perm {vs ws : List Int} (h : vs.Perm ws) : vs.sum = ws.sum := by
  induction h with
  | nil => rfl
  | cons x _ ih => rw [List.sum_cons, List.sum_cons, ih]
  | swap x y l => simp only [List.sum_cons]; omega
  | trans _ _ h1 h2 => rw [h1, h2]
theorem minF_is : ∀ (xs : List Int) (x : Int), (minF (x :: xs) ∈ x :: xs) ∧ ∀ v ∈ x :: xs, minF (x :: xs) ≤ v
  | [], x => by simp [minF]
  | y :: xs, x => by
    have e : minF (x :: y :: xs) = minF ((if y < x then y else x) :: xs) := rfl
    obtain ⟨h1, h2⟩ := minF_is xs (if y < x then y else x)
    rw [e]
    have h3 := h2 _ List.mem_cons_self
    have h4 : (if y < x then y else x) = x ∨ (if y < x then y else x) = y := by split <;> simp
    have h5 : (if y < x then y else x) ≤ x ∧ (if y < x then y else x) ≤ y := by split <;> constructor <;> omega
    generalize (if y < x then y else x) = z at *
    refine ⟨?_, fun v hv => ?_⟩
    · rcases List.mem_cons.1 h1 with h | h
      · rw [h]; rcases h4 with h4 | h4 <;> rw [h4] <;> simp
      · exact List.mem_cons_of_mem _ (List.mem_cons_of_mem _ h)
    · rcases List.mem_cons.1 hv with e1 | hv
      · rw [e1]; omega
      · rcases List.mem_cons.1 hv with e1 | hv
        · rw [e1]; omega
        · exact h2 v (List.mem_cons_of_mem _ hv)
theorem maxF_is : ∀ (xs : List Int) (x : Int), (maxF (x :: xs) ∈ x :: xs) ∧ ∀ v ∈ x :: xs, v ≤ maxF (x :: xs)
  | [], x => by simp [maxF]
  | y :: xs, x => by
    have e : maxF (x :: y :: xs) = maxF ((if x < y then y else x) :: xs) := rfl
    obtain ⟨h1, h2⟩ := maxF_is xs (if x < y then y else x)
    rw [e]
    have h3 := h2 _ List.mem_cons_self
    have h4 : (if x < y then y else x) = x ∨ (if x < y then y else x) = y := by split <;> simp
    have h5 : (if x < y then y else x) ≥ x ∧ (if x < y then y else x) ≥ y := by split <;> constructor <;> omega
    generalize (if x < y then y else x) = z at *
    refine ⟨?_, fun v hv => ?_⟩
    · rcases List.mem_cons.1 h1 with h | h
      · rw [h]; rcases h4 with h4 | h4 <;> rw [h4] <;> simp
      · exact List.mem_cons_of_mem _ (List.mem_cons_of_mem _ h)
    · rcases List.mem_cons.1 hv with e1 | hv
      · rw [e1]; omega
      · rcases List.mem_cons.1 hv with e1 | hv
        · rw [e1]; omega
        · exact h2 v (List.mem_cons_of_mem _ hv)
theorem minF_mem {vs : List Int} (h : vs ≠ []) : minF vs ∈ vs ∧ ∀ v ∈ vs, minF vs ≤ v := by
  cases vs with
  | nil => exact absurd rfl h
  | cons x xs => exact minF_is xs x
theorem maxF_mem {vs : List Int} (h : vs ≠ []) : maxF vs ∈ vs ∧ ∀ v ∈ vs, v ≤ maxF vs := by
  cases vs with
  | nil => exact absurd rfl h
  | cons x xs => exact maxF_is xs x
theorem redV_perm {vs ws : List Int} (a : Nat) (h : vs.Perm ws) : redV a vs = redV a ws := by
  unfold redV
  split
  · rw [h.length_eq]
  · split
    · by_cases e : vs = []
      · subst e; rw [List.nil_perm.1 h]
      · have e2 : ws ≠ [] := by rintro rfl; exact e (List.perm_nil.1 h)
        obtain ⟨h1, h2⟩ := minF_mem e
        obtain ⟨h3, h4⟩ := minF_mem e2
        have := h2 _ (h.mem_iff.2 h3)
        have := h4 _ (h.mem_iff.1 h1)
        omega
    · split
      · by_cases e : vs = []
        · subst e; rw [List.nil_perm.1 h]
        · have e2 : ws ≠ [] := by rintro rfl; exact e (List.perm_nil.1 h)
          obtain ⟨h1, h2⟩ := maxF_mem e
          obtain ⟨h3, h4⟩ := maxF_mem e2
          have := h2 _ (h.mem_iff.2 h3)
          have := h4 _ (h.mem_iff.1 h1)
          omega
      · rw [sumF_sum, sumF_sum, sum_perm h]
def reduceR (a : Nat) (l : List Rd) : List Rd := (keysOf l).map fun k => ⟨k, redV a (valsOf l k)⟩
def joinR (a b : List Rd) : List Rd := a.flatMap fun r => (valsOf b r.k).map fun v => ⟨r.k, wrap64 (r.v + v)⟩
/-- what a node makes of rows, as many as it has inputs -/
def makesR (n : Nd) (ins : List (List Rd)) : List Rd :=
  if n.k = 2 then (ins.getD 0 []).map (mapR n) else if n.k = 3 then (ins.getD 0 []).filter (passB n) else if n.k = 5 then reduceR n.a (ins.getD 0 []) else if n.k = 6 then joinR (ins.getD 0 []) (ins.getD 1 []) else ins.flatten
section
variable {n : Nd} {a b c d l m x y z u : List Rd}
theorem reduceR_perm {g : Nat} (h : l.Perm m) : (reduceR g l).Perm (reduceR g m) := by
  have hk : (keysOf l).Perm (keysOf m) := (List.perm_ext_iff_of_nodup nodup_keysOf nodup_keysOf).2 fun k => by
    rw [mem_keysOf, mem_keysOf]
    constructor
    · rintro ⟨r, hr, e⟩; exact ⟨r, h.mem_iff.1 hr, e⟩
    · rintro ⟨r, hr, e⟩; exact ⟨r, h.mem_iff.2 hr, e⟩
  unfold reduceR
  rw [show (fun k => (⟨k, redV g (valsOf l k)⟩ : Rd)) = fun k => ⟨k, redV g (valsOf m k)⟩ from funext fun k => by rw [redV_perm g (valsOf_perm h k)]]
  exact hk.map _
theorem flatMap_perm {α β : Type} {f g : α → List β} : ∀ {l : List α}, (∀ x ∈ l, (f x).Perm (g x)) → (l.flatMap f).Perm (l.flatMap g)
  | [], _ => List.Perm.refl _
  | x :: l, h => by
    rw [List.flatMap_cons, List.flatMap_cons]
    exact (h x List.mem_cons_self).append (flatMap_perm fun y hy => h y (List.mem_cons_of_mem _ hy))
theorem joinR_perm (h : a.Perm c) (k : b.Perm d) : (joinR a b).Perm (joinR c d) := by
  unfold joinR
  exact (h.flatMap_right _).trans (flatMap_perm fun r _ => (valsOf_perm k r.k).map _)
theorem joinR_app : joinR (x ++ y) b = joinR x b ++ joinR y b := by unfold joinR; rw [List.flatMap_append]
theorem joinR_nil_left : joinR [] b = [] := rfl
theorem joinR_nil_right : joinR a [] = [] := by
  unfold joinR
  induction a with
  | nil => rfl
  | cons r a ih => rw [List.flatMap_cons, ih]; rfl
theorem joinR_cons (r : Rd) : joinR (r :: a) b = ((valsOf b r.k).map fun v => (⟨r.k, wrap64 (r.v + v)⟩ : Rd)) ++ joinR a b := by unfold joinR; rw [List.flatMap_cons]
theorem joinR_cons_right (r : Rd) : (joinR b (r :: a)).Perm (((valsOf b r.k).map fun v => (⟨r.k, wrap64 (r.v + v)⟩ : Rd)) ++ joinR b a) := by
  induction b with
  | nil => simp [joinR, valsOf]
  | cons q b ih =>
    rw [joinR_cons, joinR_cons, valsOf_cons, valsOf_cons]
    by_cases h : r.k = q.k
    · rw [if_pos h, if_pos h.symm, List.map_cons, List.map_cons, List.cons_append, List.cons_append, h, show r.v + q.v = q.v + r.v from Int.add_comm _ _]
      refine List.Perm.cons _ ?_
      refine (List.Perm.append_left _ (h ▸ ih)).trans ?_
      rw [← List.append_assoc, ← List.append_assoc]
      exact List.Perm.append_right _ List.perm_append_comm
    · rw [if_neg h, if_neg fun e => h e.symm]
      refine (List.Perm.append_left _ ih).trans ?_
      rw [← List.append_assoc, ← List.append_assoc]
      exact List.Perm.append_right _ List.perm_append_comm
theorem joinR_swap : (joinR a b).Perm (joinR b a) := by
  induction a with
  | nil => rw [joinR_nil_right]; exact List.Perm.refl _
  | cons r a ih => rw [joinR_cons]; exact (List.Perm.append_left _ ih).trans (joinR_cons_right r).symm
theorem joinR_key {r : Rd} (h : r ∈ joinR a b) : r.k ∈ keysOf a ∧ r.k ∈ keysOf b := by
  unfold joinR at h
  obtain ⟨x, hx, h⟩ := List.mem_flatMap.1 h
  obtain ⟨v, hv, rfl⟩ := List.mem_map.1 h
  exact ⟨mem_keysOf.2 ⟨x, hx, rfl⟩, mem_keysOf.2 ⟨_, mem_valsOf.1 hv, rfl⟩⟩
theorem joinR_len : (joinR a b).length ≤ a.length * b.length := by
  induction a with
  | nil => simp [joinR]
  | cons r a ih =>
    rw [joinR_cons, List.length_append, List.length_map, List.length_cons, Nat.add_mul, Nat.one_mul]
    have := valsOf_len (l := b) (k := r.k)
    omega
/-- rows whose keys are apart -/
def Apart (x y : List Rd) : Prop := ∀ r ∈ x, ∀ s ∈ y, r.k ≠ s.k
theorem Apart.vals (h : Apart x y) {k : Int} (hk : k ∈ keysOf x) : valsOf y k = [] := valsOf_none.2 fun hk2 => by
  obtain ⟨r, hr, e⟩ := mem_keysOf.1 hk
  obtain ⟨s, hs, e2⟩ := mem_keysOf.1 hk2
  exact h r hr s hs (e.trans e2.symm)
theorem Apart.symm (h : Apart x y) : Apart y x := fun r hr s hs e => h s hs r hr e.symm
theorem reduceR_apart {g : Nat} (h : Apart x y) : (reduceR g (x ++ y)).Perm (reduceR g x ++ reduceR g y) := by
  have hk : (keysOf (x ++ y)).Perm (keysOf x ++ keysOf y) := by
    refine (List.perm_ext_iff_of_nodup nodup_keysOf ?_).2 fun k => ?_
    · rw [List.nodup_append]
      refine ⟨nodup_keysOf, nodup_keysOf, fun p hp q hq => ?_⟩
      rintro rfl
      obtain ⟨r, hr, e⟩ := mem_keysOf.1 hp
      obtain ⟨s, hs, e2⟩ := mem_keysOf.1 hq
      exact h r hr s hs (e.trans e2.symm)
    · rw [List.mem_append, mem_keysOf, mem_keysOf, mem_keysOf]
      constructor
      · rintro ⟨r, hr, e⟩
        rcases List.mem_append.1 hr with hr | hr
        · exact .inl ⟨r, hr, e⟩
        · exact .inr ⟨r, hr, e⟩
      · rintro (⟨r, hr, e⟩ | ⟨r, hr, e⟩)
        · exact ⟨r, List.mem_append_left _ hr, e⟩
        · exact ⟨r, List.mem_append_right _ hr, e⟩
  unfold reduceR
  refine (hk.map _).trans ?_
  rw [List.map_append]
  rw [List.map_congr_left (l := keysOf x) (g := fun k => (⟨k, redV g (valsOf x k)⟩ : Rd)) fun k hk => by rw [valsOf_app, h.vals hk, List.append_nil]]
  rw [List.map_congr_left (l := keysOf y) (g := fun k => (⟨k, redV g (valsOf y k)⟩ : Rd)) fun k hk => by rw [valsOf_app, h.symm.vals hk, List.nil_append]]
theorem joinR_right_apart (h : Apart x u) : joinR x (z ++ u) = joinR x z := by
  induction x with
  | nil => rfl
  | cons r x ih =>
    rw [joinR_cons, joinR_cons, ih fun p hp => h p (List.mem_cons_of_mem _ hp), valsOf_app, h.vals (mem_keysOf.2 ⟨r, List.mem_cons_self, rfl⟩), List.append_nil]
theorem joinR_left_apart (h : Apart y z) : joinR y (z ++ u) = joinR y u := by
  induction y with
  | nil => rfl
  | cons r x ih =>
    rw [joinR_cons, joinR_cons, ih fun p hp => h p (List.mem_cons_of_mem _ hp), valsOf_app, h.vals (mem_keysOf.2 ⟨r, List.mem_cons_self, rfl⟩), List.nil_append]
theorem joinR_apart (h : Apart x u) (k : Apart y z) : joinR (x ++ y) (z ++ u) = joinR x z ++ joinR y u := by
  rw [joinR_app, joinR_right_apart h, joinR_left_apart k]
/-! in whatever order -/
theorem makes_one (h : a.Perm c) : (makesR n [a]).Perm (makesR n [c]) := by
  unfold makesR
  split
  · exact h.map _
  · split
    · exact h.filter _
    · split
      · exact reduceR_perm h
      · split
        · exact joinR_perm h (List.Perm.refl _)
        · simpa using h
theorem makes_two (h : a.Perm c) (k : b.Perm d) : (makesR n [a, b]).Perm (makesR n [c, d]) := by
  unfold makesR
  split
  · exact h.map _
  · split
    · exact h.filter _
    · split
      · exact reduceR_perm h
      · split
        · exact joinR_perm h k
        · simpa using h.append k
/-! of kinds that do not wait: together -/
theorem makes_one_app (h5 : n.k ≠ 5) (h6 : n.k ≠ 6) : makesR n [x ++ y] = makesR n [x] ++ makesR n [y] := by
  unfold makesR
  split
  · simp
  · split
    · simp
    · simp
theorem makes_two_app (h5 : n.k ≠ 5) (h6 : n.k ≠ 6) : (makesR n [x ++ y, z ++ u]).Perm (makesR n [x, z] ++ makesR n [y, u]) := by
  unfold makesR
  split
  · simp
  · split
    · simp
    · simp only [List.flatten_cons, List.flatten_nil, List.append_nil, List.append_assoc]
      refine List.Perm.append_left _ ?_
      rw [← List.append_assoc, ← List.append_assoc]
      exact List.Perm.append_right _ List.perm_append_comm
/-! of kinds that wait: where keys are apart -/
theorem makes_one_apart (h6 : n.k = 5) (h : Apart x y) : (makesR n [x ++ y]).Perm (makesR n [x] ++ makesR n [y]) := by
  have e : ∀ l, makesR n [l] = reduceR n.a l := fun l => by unfold makesR; rw [if_neg (by omega), if_neg (by omega), if_pos h6]; rfl
  rw [e, e, e]; exact reduceR_apart h
theorem makes_two_apart (h6 : n.k = 6) (h : Apart x u) (k : Apart y z) : (makesR n [x ++ y, z ++ u]).Perm (makesR n [x, z] ++ makesR n [y, u]) := by
  have e : ∀ l m, makesR n [l, m] = joinR l m := fun l m => by unfold makesR; rw [if_neg (by omega), if_neg (by omega), if_neg (by omega), if_pos h6]; rfl
  rw [e, e, e, joinR_apart h k]
theorem makes_len1 : (makesR n [a]).length ≤ a.length := by
  unfold makesR
  split
  · simp
  · split
    · exact List.length_filter_le _ _
    · split
      · unfold reduceR; rw [List.length_map]; exact keysOf_len
      · split
        · show (joinR a []).length ≤ _; rw [joinR_nil_right]; simp
        · simp
theorem makes_len2 : (makesR n [a, b]).length ≤ a.length + b.length + a.length * b.length := by
  unfold makesR
  split
  · simp; omega
  · split
    · have := List.length_filter_le (passB n) a; simp at this ⊢; omega
    · split
      · unfold reduceR; rw [List.length_map]; have := keysOf_len (l := a); simp at this ⊢; omega
      · split
        · have := joinR_len (a := a) (b := b); simp at this ⊢; omega
        · simp
end
end Op
end

section
open Go.ChangeShapes Go.WideShapes Go.ChangeAt Go.RowKit Go.BigFrame
set_option maxRecDepth 100000
/-- a node, and where its inputs lie -/
structure Gn where
  nd : Nd
  A : Option Addr
  c : Nat
def kindI : Kind Int := ⟨fun x => [.int .i64 x], 1, fun _ => rfl, fun t u hu => by simp only [List.mem_singleton] at hu; subst hu; rfl, by decide⟩
def kindG : Kind Gn := ⟨fun x => [.int .u8 (x.nd.k : Nat), .int .u8 (x.nd.a : Nat), .int .i64 x.nd.b, .int .i64 x.nd.d, .slice x.A x.nd.ins.length x.c], 5, fun _ => rfl, fun t u hu => by
  simp only [List.mem_cons, List.not_mem_nil, or_false] at hu
  rcases hu with rfl | rfl | rfl | rfl | rfl <;> rfl, by decide⟩
/-- its numbers are such -/
structure Gn.Ok (x : Gn) : Prop where
  k : x.nd.k < 256
  a : x.nd.a < 256
  b : -9223372036854775808 ≤ x.nd.b ∧ x.nd.b ≤ 9223372036854775807
  d : -9223372036854775808 ≤ x.nd.d ∧ x.nd.d ≤ 9223372036854775807
  ins : ∀ z ∈ x.nd.ins, -9223372036854775808 ≤ z ∧ z ≤ 9223372036854775807
  c : x.nd.ins.length ≤ x.c ∧ x.c ≤ maxLen
  none : x.A = Option.none → x.c = 0
def nds (g : List Gn) : List Nd := g.map Gn.nd
/-- the slice at A holds the graph g -/
def Gr (w : World) (A : Option Addr) (g : List Gn) : Prop := Rw.Ts kindG w A g ∧ ∀ x ∈ g, x.Ok ∧ Rw.Ts kindI w x.A x.nd.ins
section
variable {w w' : World} {A : Option Addr} {g : List Gn}
theorem Gr.below (h : Gr w A g) (hb : Below w.heap.size w w') : Gr w' A g := ⟨h.1.below hb, fun x hx => ⟨(h.2 x hx).1, (h.2 x hx).2.below hb⟩⟩
theorem Gr.nil : Gr w A [] := ⟨Rw.Ts.nil, fun x hx => by cases hx⟩
theorem Gr.ok (h : Gr w A g) {i : Nat} {x : Gn} (hi : g[i]? = some x) : x.Ok := (h.2 x (List.mem_of_getElem? hi)).1
theorem Gr.take (h : Gr w A g) (k : Nat) : Gr w A (g.take k) := ⟨h.1.take k, fun x hx => h.2 x (List.mem_of_mem_take hx)⟩
theorem Gr.at_ (h : Gr w A g) {i : Nat} {x : Gn} (hi : g[i]? = some x) : ∃ b o, A = some ⟨b, o, none⟩ ∧ b < w.heap.size ∧ ∀ w', Below w.heap.size w w' →
    w'.cell? ⟨b, o + i * 5, none⟩ = some (.int .u8 (x.nd.k : Nat)) ∧ w'.cell? ⟨b, o + i * 5 + 1, none⟩ = some (.int .u8 (x.nd.a : Nat)) ∧ w'.cell? ⟨b, o + i * 5 + 2, none⟩ = some (.int .i64 x.nd.b) ∧ w'.cell? ⟨b, o + i * 5 + 3, none⟩ = some (.int .i64 x.nd.d) ∧ w'.cell? ⟨b, o + i * 5 + 4, none⟩ = some (.slice x.A x.nd.ins.length x.c) := by
  obtain ⟨b, o, e, hlt, hc⟩ := h.1.at_ hi
  exact ⟨b, o, e, hlt, fun w' hb => ⟨hc w' hb 0 _ rfl, hc w' hb 1 _ rfl, hc w' hb 2 _ rfl, hc w' hb 3 _ rfl, hc w' hb 4 _ rfl⟩⟩
theorem Gr.ins (h : Gr w A g) {i : Nat} {x : Gn} (hi : g[i]? = some x) : Rw.Ts kindI w x.A x.nd.ins := (h.2 x (List.mem_of_getElem? hi)).2
end
theorem ints_at {w : World} {A : Option Addr} {l : List Int} (h : Rw.Ts kindI w A l) {i : Nat} {z : Int} (hi : l[i]? = some z) : ∃ b o, A = some ⟨b, o, none⟩ ∧ b < w.heap.size ∧ ∀ w', Below w.heap.size w w' → w'.cell? ⟨b, o + i, none⟩ = some (.int .i64 z) := by
  obtain ⟨b, o, e, hlt, hc⟩ := h.at_ hi
  refine ⟨b, o, e, hlt, fun w' hb => ?_⟩
  have := hc w' hb 0 _ rfl
  simp only [kindI, Nat.mul_one, Nat.add_zero] at this
  exact this
/-- a node as it lies in memory, loaded whole -/
theorem run_load_gn (w : World) (b o : Nat) (x : Gn) (h : ∀ (j : Nat) (v : Value), (kindG.cells x)[j]? = some v → w.cell? ⟨b, o + j, none⟩ = some v) :
    (Instr.loadAt 24 (.pointer (some ⟨b, o, none⟩))).run Try.prog w = .ok (.agg #[.int .u8 (x.nd.k : Nat), .int .u8 (x.nd.a : Nat), .int .i64 x.nd.b, .int .i64 x.nd.d, .slice x.A x.nd.ins.length x.c]) w :=
  run_loadAt_part b o 24 _ (kindG.cells x) (fun j v hj => by rw [add_at]; exact h j v hj) Try.underlying24 rfl (by kernel_rfl)
theorem Gr.load {w : World} {A : Option Addr} {g : List Gn} (h : Gr w A g) {i : Nat} {x : Gn} (hi : g[i]? = some x) : ∃ b o, A = some ⟨b, o, none⟩ ∧ b < w.heap.size ∧
    ∀ w', Below w.heap.size w w' → (Instr.loadAt 24 (.pointer (some ⟨b, o + i * 5, none⟩))).run Try.prog w' = .ok (.agg #[.int .u8 (x.nd.k : Nat), .int .u8 (x.nd.a : Nat), .int .i64 x.nd.b, .int .i64 x.nd.d, .slice x.A x.nd.ins.length x.c]) w' := by
  obtain ⟨b, o, e, hlt, hc⟩ := h.1.at_ hi
  exact ⟨b, o, e, hlt, fun w' hb => run_load_gn _ _ _ _ fun j v hj => hc w' hb j v hj⟩
theorem infoNode : (Try.prog.info? 24).map (fun i => (i.zero, i.size, i.bytes)) = some (some (.agg #[.int .u8 0, .int .u8 0, .int .i64 0, .int .i64 0, .slice none 0 0]), 5, 48) := by kernel_rfl
theorem infoInt : (Try.prog.info? 3).map (fun i => (i.zero, i.size, i.bytes)) = some (some (.int .i64 0), 1, 8) := by kernel_rfl
end

section
open Go.ChangeShapes Go.WideShapes Go.ChangeAt Go.RowKit Go.BigFrame
theorem i64_wf {n : Int} (h : (Lit.int .i64 n).wf = true) : -9223372036854775808 ≤ n ∧ n ≤ 9223372036854775807 := by
  simpa [Lit.wf, IntKind.min, IntKind.max, IntKind.signed, IntKind.bits] using h
theorem plain_addr {w : World} {a : Addr} {v : Value} (h : w.cell? a = some v) : ∃ b off, a = ⟨b, off, none⟩ := by
  obtain ⟨b, off, spot⟩ := a
  cases spot with
  | none => exact ⟨b, off, rfl⟩
  | some q =>
    exfalso
    unfold World.cell? at h
    cases hh : w.heap[b]? with
    | none => simp [hh] at h
    | some o => cases o <;> simp [hh] at h
theorem row_ints : ∀ (l : List Int), Rw.row kindI l = l.map (Value.int .i64)
  | [] => rfl
  | x :: l => by rw [Rw.row_cons, row_ints l]; rfl
/-- a row read cell by cell -/
theorem row_read {α : Type} {κ : Kind α} {f : Nat → Option Value} : ∀ {ts : List α}, (∀ (i : Nat) (t : α), ts[i]? = some t → ∀ (j : Nat) (u : Value), (κ.cells t)[j]? = some u → f (i * κ.K + j) = some u) → ∀ (j : Nat) (u : Value), (Rw.row κ ts)[j]? = some u → f j = some u := by
  intro ts
  induction ts generalizing f with
  | nil => intro _ j u h; simp [Rw.row] at h
  | cons t ts ih =>
    intro h j u hj
    rw [Rw.row_cons] at hj
    by_cases hlt : j < κ.K
    · rw [List.getElem?_append_left (by rw [κ.len]; exact hlt)] at hj
      have := h 0 t rfl j u hj
      rwa [Nat.zero_mul, Nat.zero_add] at this
    · rw [List.getElem?_append_right (by rw [κ.len]; omega), κ.len] at hj
      have := ih (f := fun j => f (κ.K + j)) (fun i t' ht j' u' hu => by
        have := h (i + 1) t' (by simpa using ht) j' u' hu
        rwa [Nat.succ_mul, show i * κ.K + κ.K + j' = κ.K + (i * κ.K + j') by omega] at this) (j - κ.K) u hj
      rwa [show κ.K + (j - κ.K) = j by omega] at this
section
variable {H : Type} {enc : TypeId × Value → H}
section
variable {P : Program} {w : World} {base : Nat} {spare : Nat → Bool} {held : Bool}
theorem trod_struct5 {t : TypeId} {f0 f1 f2 f3 f4 : Field} {fuel : Nat} {cs : List Value} {x : DataW H × List MemPlace} (ht : P.underlying t = some (.struct #[f0, f1, f2, f3, f4])) (h : DataW.trod enc P w base spare held fuel t cs = some x) :
    ∃ y0 y1 y2 y3 y4 n, x.1 = .agg [y0.1, y1.1, y2.1, y3.1, y4.1] ∧ cs.length = P.cellsOf t ∧ DataW.trod enc P w base spare held n f0.type ((cs.drop f0.offset).take (P.cellsOf f0.type)) = some y0 ∧
      DataW.trod enc P w base spare held n f1.type ((cs.drop f1.offset).take (P.cellsOf f1.type)) = some y1 ∧ DataW.trod enc P w base spare held n f2.type ((cs.drop f2.offset).take (P.cellsOf f2.type)) = some y2 ∧
      DataW.trod enc P w base spare held n f3.type ((cs.drop f3.offset).take (P.cellsOf f3.type)) = some y3 ∧ DataW.trod enc P w base spare held n f4.type ((cs.drop f4.offset).take (P.cellsOf f4.type)) = some y4 := by
  obtain ⟨xs, n, _, rfl, hl, hlen, hf⟩ := DataW.trod_struct ht h
  match xs, hlen with
  | [y0, y1, y2, y3, y4], _ => exact ⟨y0, y1, y2, y3, y4, n, by simp, hl, by simpa using hf 0 f0 rfl, by simpa using hf 1 f1 rfl, by simpa using hf 2 f2 rfl, by simpa using hf 3 f3 rfl, by simpa using hf 4 f4 rfl⟩
end
theorem cell_add {b off i j : Nat} : ((⟨b, off, none⟩ : Addr).add i).add j = ⟨b, off + i + j, none⟩ := by rw [add_at, add_at]
theorem cells_int : Try.prog.cellsOf 3 = 1 := by kernel_rfl
/-- a []int, as its cells tell -/
theorem trod_ints {W : World} {n : Nat} {cs : List Value} {y : DataW H × List MemPlace} (h4 : DataW.trod enc Try.prog W 0 (fun _ => true) true n 22 cs = some y) :
    ∃ (KA : Option Addr) (ks : List Int) (kc : Nat), cs = [.slice KA ks.length kc] ∧ Rw.Ts kindI W KA ks ∧ (∀ z ∈ ks, -9223372036854775808 ≤ z ∧ z ≤ 9223372036854775807) ∧ ks.length ≤ kc ∧ kc ≤ maxLen ∧ (KA = none → kc = 0) := by
  rcases open_ints Try.underlying22 Try.underlying3 cells_int h4 with ⟨hcs, _⟩ | ⟨ka, klen, kcap, zs, hcs, _, hkl, hkm, hkz, _, hkcell, hkw⟩
  · exact ⟨none, [], 0, hcs, Rw.Ts.nil, by simp, by simp, by simp, fun _ => rfl⟩
  · simp only [if_true] at hkz
    have hlen : (zs.take klen).length = klen := by simp; omega
    refine ⟨some ka, zs.take klen, kcap, by rw [hlen]; exact hcs, fun h0 => ?_, fun z hz => i64_wf (hkw z (List.mem_of_mem_take hz)), by omega, hkm, by simp⟩
    have hc1 := hkcell 0 (by omega)
    have hlt := cell_lt hc1
    rw [add_block] at hlt
    obtain ⟨b, off, rfl⟩ : ∃ b off, ka = ⟨b, off, none⟩ := by
      obtain ⟨b, off, e⟩ := plain_addr hc1
      obtain ⟨b', off', spot⟩ := ka
      simp [Addr.add] at e
      exact ⟨b', off', by rw [e.2.2]⟩
    refine ⟨b, off, rfl, hlt, fun j u hj => ?_⟩
    rw [row_ints, List.getElem?_map, Option.map_eq_some_iff] at hj
    obtain ⟨z, hj, rfl⟩ := hj
    have hj' := (List.getElem?_eq_some_iff.1 hj).1
    have h2 := hkcell j (by simp at hj'; omega)
    rw [add_at] at h2
    rw [h2]
    rw [List.getElem?_take] at hj
    split at hj
    · simp [List.getD_eq_getElem?_getD, hj]
    · cases hj
set_option maxRecDepth 100000 in
set_option maxHeartbeats 4000000 in
theorem open_graph {W : World} {base : Nat} {v : Value} {d : DataW H} {p : List MemPlace} (hok : Value.okWide Try.prog W .any base 68 v)
    (h : DataW.Trod enc Try.prog W 0 (fun _ => true) true 68 v d p) :
    ∃ (A : Option Addr) (l : List Gn) (c : Nat), v = .slice A l.length c ∧ Gr W A l ∧ l.length ≤ c ∧ c ≤ maxLen ∧ (A = none → c = 0) := by
  obtain ⟨A0, len, cap, rfl⟩ := okWide_slice Try.underlying68 hok
  obtain ⟨fuel, hf⟩ := h
  rcases Go.Deep.open_slice Try.underlying68 hf with ⟨hcs, _⟩ | ⟨a, len', cap', m, n, D, Pl, hcs, _, hl, hm, hmm, hx, hi⟩
  · simp [Value.cells] at hcs
    obtain ⟨rfl, rfl, rfl⟩ := hcs
    exact ⟨none, [], 0, rfl, Gr.nil, by simp, by simp, fun _ => rfl⟩
  · simp [Value.cells] at hcs
    obtain ⟨rfl, rfl, rfl⟩ := hcs
    simp only [if_true] at hmm
    subst hmm
    rw [show Try.prog.cellsOf 24 = 5 by kernel_rfl] at hi
    have key : ∀ i, i < len → ∃ x : Gn, (x.Ok ∧ Rw.Ts kindI W x.A x.nd.ins) ∧ W.cell? ((a.add (i * 5)).add 0) = some (.int .u8 (x.nd.k : Nat)) ∧ W.cell? ((a.add (i * 5)).add 1) = some (.int .u8 (x.nd.a : Nat)) ∧ W.cell? ((a.add (i * 5)).add 2) = some (.int .i64 x.nd.b) ∧ W.cell? ((a.add (i * 5)).add 3) = some (.int .i64 x.nd.d) ∧ W.cell? ((a.add (i * 5)).add 4) = some (.slice x.A x.nd.ins.length x.c) := by
      intro i hlt
      obtain ⟨cs', hc, ht⟩ := hi i (by omega)
      obtain ⟨_, hcl, hat⟩ := World.cells?_some hc
      obtain ⟨y0, y1, y2, y3, y4, n', hy, _, h0, h1, h2, h3, h4⟩ := trod_struct5 Try.underlying24 ht
      obtain ⟨u, e0, ey0, w0⟩ := DataW.trod_int Try.underlying5 h0
      obtain ⟨u', e1, ey1, w1⟩ := DataW.trod_int Try.underlying5 h1
      obtain ⟨z', e2, ey2, w2⟩ := DataW.trod_int Try.underlying2 h2
      obtain ⟨z, e3, ey3, w3⟩ := DataW.trod_int Try.underlying3 h3
      obtain ⟨KA, ks, kc, e4, hK, hkz, hk1, hk2, hkn⟩ := trod_ints h4
      obtain ⟨k, rfl⟩ := Int.eq_ofNat_of_zero_le (u8_wf w0).1
      have hu := (u8_wf w0).2
      obtain ⟨k', rfl⟩ := Int.eq_ofNat_of_zero_le (u8_wf w1).1
      have hu' := (u8_wf w1).2
      match cs', hcl, e0, e1, e2, e3, e4, hat with
      | [c0, c1, c2, c3, c4], _, e0, e1, e2, e3, e4, hat =>
        rw [show Try.prog.cellsOf 5 = 1 by kernel_rfl] at e0 e1
        rw [show Try.prog.cellsOf 2 = 1 by kernel_rfl] at e2
        rw [show Try.prog.cellsOf 3 = 1 by kernel_rfl] at e3
        rw [show Try.prog.cellsOf 22 = 1 by kernel_rfl] at e4
        simp at e0 e1 e2 e3 e4
        subst e0; subst e1; subst e2; subst e3; subst e4
        exact ⟨⟨⟨k, k', z', z, ks⟩, KA, kc⟩, ⟨⟨by show k < 256; omega, by show k' < 256; omega, i64_wf w2, i64_wf w3, hkz, ⟨hk1, hk2⟩, hkn⟩, hK⟩, hat 0 (by omega), hat 1 (by omega), hat 2 (by omega), hat 3 (by omega), hat 4 (by omega)⟩
    let f : Nat → Gn := fun i => if h : i < len then Classical.choose (key i h) else ⟨⟨0, 0, 0, 0, []⟩, none, 0⟩
    have hf' : ∀ i (h : i < len), f i = Classical.choose (key i h) := fun i h => by simp only [f]; rw [dif_pos h]
    have hspec := fun i (h : i < len) => (by rw [hf' i h]; exact Classical.choose_spec (key i h) :
      (((f i).Ok ∧ Rw.Ts kindI W (f i).A (f i).nd.ins) ∧ W.cell? ((a.add (i * 5)).add 0) = some (.int .u8 ((f i).nd.k : Nat)) ∧ W.cell? ((a.add (i * 5)).add 1) = some (.int .u8 ((f i).nd.a : Nat)) ∧ W.cell? ((a.add (i * 5)).add 2) = some (.int .i64 (f i).nd.b) ∧ W.cell? ((a.add (i * 5)).add 3) = some (.int .i64 (f i).nd.d) ∧ W.cell? ((a.add (i * 5)).add 4) = some (.slice (f i).A (f i).nd.ins.length (f i).c)))
    refine ⟨some a, (List.range len).map f, m, by simp, ⟨fun hn => ?_, fun t ht => ?_⟩, by simp; omega, by unfold maxLen at hm ⊢; omega, by simp⟩
    · have hlen : 0 < len := by simpa using hn
      have h0 := (hspec 0 hlen).2.1
      have hlt := cell_lt h0
      rw [add_block, add_block] at hlt
      obtain ⟨b, off, rfl⟩ : ∃ b off, a = ⟨b, off, none⟩ := by
        obtain ⟨b, off, e⟩ := plain_addr h0
        obtain ⟨b', off', spot⟩ := a
        simp [Addr.add] at e
        exact ⟨b', off', by rw [e.2.2]⟩
      refine ⟨b, off, rfl, hlt, fun j u hj => ?_⟩
      refine row_read (κ := kindG) (f := fun j => W.cell? ⟨b, off + j, none⟩) (fun i t ht j u hu => ?_) j u hj
      have hil : i < len := by simpa using (List.getElem?_eq_some_iff.1 ht).1
      rw [List.getElem?_map, List.getElem?_range hil] at ht
      obtain rfl : f i = t := by simpa using ht
      obtain ⟨_, h1, h2, h3, h4, h5⟩ := hspec i hil
      rw [cell_add] at h1 h2 h3 h4 h5
      show W.cell? ⟨b, off + (i * 5 + j), none⟩ = _
      rw [← Nat.add_assoc]
      match j, hu with
      | 0, hu => rw [h1]; exact hu
      | 1, hu => rw [h2]; exact hu
      | 2, hu => rw [h3]; exact hu
      | 3, hu => rw [h4]; exact hu
      | 4, hu => rw [h5]; exact hu
      | j + 5, hu => simp [kindG] at hu
    · obtain ⟨i, hi2, rfl⟩ := List.mem_map.1 ht
      exact (hspec i (List.mem_range.1 hi2)).1
end
end
end Go.Proofs.Ytcjdjdhjbchaaaa
