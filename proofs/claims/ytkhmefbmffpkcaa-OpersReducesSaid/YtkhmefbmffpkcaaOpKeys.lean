/- What Reduce makes, sorted: by its keys, each once. -/
import Derived.Test.YtkhmefbmffpkcaaCa8
namespace Go.Proofs.Ytkhmefbmffpkcaa
namespace Op
set_option linter.unusedVariables false
/-- the keys of a row, sorted -/
def skeys (l : List Rd) : List Int := (sortR ((keysOf l).map fun k => (⟨k, 0⟩ : Rd))).map Rd.k
section
variable {l : List Rd}
theorem skeys_perm : (skeys l).Perm (keysOf l) := by
  have h := (sortR_perm (l := (keysOf l).map fun k => (⟨k, 0⟩ : Rd))).map Rd.k
  rw [List.map_map] at h
  have e : (Rd.k ∘ fun k => (⟨k, 0⟩ : Rd)) = id := rfl
  rw [e, List.map_id] at h
  exact h
theorem skeys_nodup : (skeys l).Nodup := skeys_perm.nodup_iff.2 nodup_keysOf
theorem skeys_sorted : (skeys l).Pairwise (· < ·) := by
  have h1 : (skeys l).Pairwise (· ≤ ·) := by
    unfold skeys
    rw [List.pairwise_map]
    refine List.Pairwise.imp (fun {a b} h => ?_) sortR_sort
    unfold Rd.Le at h; omega
  have h2 : (skeys l).Pairwise (· ≠ ·) := skeys_nodup
  exact (h1.and h2).imp fun {a b} h => by omega
theorem mem_skeys {k : Int} : k ∈ skeys l ↔ k ∈ keysOf l := skeys_perm.mem_iff
theorem sort_by_keys (f : Int → Int) : sortR ((keysOf l).map fun k => (⟨k, f k⟩ : Rd)) = (skeys l).map fun k => ⟨k, f k⟩ := by
  refine (sortR_eq ?_ (skeys_perm.map _)).symm
  rw [List.pairwise_map]
  refine skeys_sorted.imp fun {a b} h => ?_
  unfold Rd.Le; simp only; omega
theorem reduce_sorted (a : Nat) : sortR (reduceR a l) = (skeys l).map fun k => ⟨k, redV a (valsOf l k)⟩ := sort_by_keys _
theorem skeys_len : (skeys l).length ≤ l.length := by rw [skeys_perm.length_eq]; exact keysOf_len
/-- how many records the first i keys have -/
def seenN (l : List Rd) (i : Nat) : Nat := (((skeys l).take i).map fun k => (valsOf l k).length).sum
theorem seenN_zero : seenN l 0 = 0 := by unfold seenN; simp
theorem seenN_step {i : Nat} {k : Int} (h : (skeys l)[i]? = some k) : seenN l (i + 1) = seenN l i + (valsOf l k).length := by
  unfold seenN
  rw [List.take_add_one, h]
  simp
theorem sum_plus (f : Int → Nat) (a : Int) : ∀ {K : List Int}, K.Nodup → a ∈ K → (K.map fun k => f k + if a = k then 1 else 0).sum = (K.map f).sum + 1
  | [], _, h => by cases h
  | k :: K, hn, h => by
    rw [List.nodup_cons] at hn
    rw [List.map_cons, List.map_cons, List.sum_cons, List.sum_cons]
    by_cases e : a = k
    · subst e
      rw [if_pos rfl]
      have : (K.map fun k => f k + if a = k then 1 else 0) = K.map f := List.map_congr_left fun k hk => by
        have hne : ¬ a = k := by rintro rfl; exact hn.1 hk
        rw [if_neg hne]; rfl
      rw [this]; omega
    · rw [if_neg e, sum_plus f a hn.2 ((List.mem_cons.1 h).resolve_left e)]; omega
theorem sum_zero : ∀ (K : List Int), (K.map fun _ => (0 : Nat)).sum = 0
  | [] => rfl
  | k :: K => by rw [List.map_cons, List.sum_cons, sum_zero K]
theorem sum_vals : ∀ (l : List Rd) {K : List Int}, K.Nodup → (∀ r ∈ l, r.k ∈ K) → (K.map fun k => (valsOf l k).length).sum = l.length
  | [], K, _, _ => by
    have e : (K.map fun k => (valsOf [] k).length) = K.map fun _ => 0 := rfl
    rw [e, sum_zero]; rfl
  | r :: l, K, hn, h => by
    have ih := sum_vals l hn fun q hq => h q (List.mem_cons_of_mem _ hq)
    have := sum_plus (fun k => (valsOf l k).length) r.k hn (h r List.mem_cons_self)
    rw [ih] at this
    rw [List.length_cons, ← this]
    congr 1
    refine List.map_congr_left fun k _ => ?_
    rw [valsOf_cons]
    by_cases e : r.k = k <;> simp [e]
theorem seenN_end : seenN l (skeys l).length = l.length := by
  unfold seenN
  rw [List.take_length]
  exact sum_vals l skeys_nodup fun r hr => mem_skeys.2 (mem_keysOf.2 ⟨r, hr, rfl⟩)
theorem seenN_le {i : Nat} : seenN l i ≤ l.length := by
  have h := seenN_end (l := l)
  unfold seenN at *
  have e : (skeys l) = (skeys l).take i ++ (skeys l).drop i := (List.take_append_drop i _).symm
  rw [List.take_length] at h
  rw [← h]
  conv => rhs; rw [e]
  rw [List.map_append, List.sum_append]
  omega
/-- what stands at a place -/
structure AtKey (l : List Rd) (k : Int) : Prop where
  lo : (⟨k, redV 2 (valsOf l k)⟩ : Rd) ∈ l
  hi : (⟨k, redV 3 (valsOf l k)⟩ : Rd) ∈ l
  all : ∀ r ∈ l, r.k = k → redV 2 (valsOf l k) ≤ r.v ∧ r.v ≤ redV 3 (valsOf l k)
theorem atKey {i : Nat} {k : Int} (h : (skeys l)[i]? = some k) : AtKey l k := by
  have hk : k ∈ keysOf l := mem_skeys.1 (List.mem_of_getElem? h)
  have hne : valsOf l k ≠ [] := fun e => valsOf_none.1 e hk
  obtain ⟨h1, h2⟩ := minF_mem hne
  obtain ⟨h3, h4⟩ := maxF_mem hne
  have e2 : redV 2 (valsOf l k) = minF (valsOf l k) := rfl
  have e3 : redV 3 (valsOf l k) = maxF (valsOf l k) := rfl
  refine ⟨by rw [e2]; exact mem_valsOf.1 h1, by rw [e3]; exact mem_valsOf.1 h3, fun r hr e => ?_⟩
  have hm : r.v ∈ valsOf l k := mem_valsOf.2 (by subst e; exact hr)
  rw [e2, e3]
  exact ⟨h2 _ hm, h4 _ hm⟩
theorem keys_lt {i : Nat} {k j : Int} (hi : 0 < i) (h1 : (skeys l)[i - 1]? = some j) (h2 : (skeys l)[i]? = some k) : j < k := by
  obtain ⟨b1, e1⟩ := List.getElem?_eq_some_iff.1 h1
  obtain ⟨b2, e2⟩ := List.getElem?_eq_some_iff.1 h2
  rw [← e1, ← e2]
  exact List.pairwise_iff_getElem.1 skeys_sorted (i - 1) i b1 b2 (by omega)
end
end Op
end Go.Proofs.Ytkhmefbmffpkcaa
