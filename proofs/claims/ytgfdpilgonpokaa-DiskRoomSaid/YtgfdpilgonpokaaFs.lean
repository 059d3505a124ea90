/- A disk's files as a sorted row: plain lists, and the datum of a map that has them. -/
import Derived.Maps.Own
import Derived.Maps.OwnSet
import Derived.Sort.KeysCollected
namespace Go.Proofs.Ytgfdpilgonpokaa
open Go.ChangeMaps

/-- a file: its bytes, how many of them are sure, and whether it is made -/
structure Fil where
  b : List Nat
  sure : Nat
  made : Bool
abbrev Nm := List UInt8
abbrev Fs := List (Nm × Fil)

def insF (x : Nm × Fil) : Fs → Fs
  | [] => [x]
  | y :: r => if bytesBefore x.1 y.1 then x :: y :: r else y :: insF x r
def delF (n : Nm) (fs : Fs) : Fs := fs.filter fun p => !(p.1 == n)
def putF (n : Nm) (f : Fil) (fs : Fs) : Fs := insF (n, f) (delF n fs)
def getF (n : Nm) (fs : Fs) : Option Fil := (fs.find? fun p => p.1 == n).map (·.2)
def lenF (n : Nm) (fs : Fs) : Nat := match getF n fs with | some f => f.b.length | none => 0
def usedF : Fs → Nat
  | [] => 0
  | p :: r => p.2.b.length + usedF r
def SortF (fs : Fs) : Prop := fs.Pairwise fun p q => bytesBefore p.1 q.1 = true

theorem bb_irrefl : ∀ a : Nm, bytesBefore a a = false
  | [] => rfl
  | a :: r => by simp [bytesBefore, bb_irrefl r]
theorem bb_trans : ∀ {a b c : Nm}, bytesBefore a b = true → bytesBefore b c = true → bytesBefore a c = true
  | [], _ :: _, _ :: _, _, _ => rfl
  | [], [], _, h, _ => by simp [bytesBefore] at h
  | [], _ :: _, [], _, h => by simp [bytesBefore] at h
  | _ :: _, [], _, h, _ => by simp [bytesBefore] at h
  | _ :: _, _ :: _, [], _, h => by simp [bytesBefore] at h
  | a :: r, b :: s, c :: t, h, k => by
    simp only [bytesBefore, Bool.or_eq_true, Bool.and_eq_true, decide_eq_true_eq, beq_iff_eq] at h k ⊢
    rcases h with h | ⟨rfl, h⟩
    · rcases k with k | ⟨rfl, k⟩
      · exact .inl (UInt8.lt_trans h k)
      · exact .inl h
    · rcases k with k | ⟨rfl, k⟩
      · exact .inl k
      · exact .inr ⟨rfl, bb_trans h k⟩
theorem bb_total : ∀ {a b : Nm}, a ≠ b → bytesBefore a b = true ∨ bytesBefore b a = true
  | [], [], h => absurd rfl h
  | [], _ :: _, _ => .inl rfl
  | _ :: _, [], _ => .inr rfl
  | a :: r, b :: s, h => by
    simp only [bytesBefore, Bool.or_eq_true, Bool.and_eq_true, decide_eq_true_eq, beq_iff_eq]
    by_cases hab : a = b
    · subst hab
      have : r ≠ s := fun e => h (by rw [e])
      rcases bb_total this with k | k
      · exact .inl (.inr ⟨rfl, k⟩)
      · exact .inr (.inr ⟨rfl, k⟩)
    · have : a < b ∨ b < a := by
        have h1 : a.toNat ≠ b.toNat := fun e => hab (UInt8.toNat_inj.1 e)
        rw [UInt8.lt_iff_toNat_lt, UInt8.lt_iff_toNat_lt]; omega
      rcases this with k | k
      · exact .inl (.inl k)
      · exact .inr (.inl k)
theorem bb_ne {a b : Nm} (h : bytesBefore a b = true) : a ≠ b := by rintro rfl; rw [bb_irrefl] at h; cases h
theorem bb_le : ∀ {a b : Nm}, bytesBefore a b = true → a ≤ b
  | [], _, _ => by simp
  | _ :: _, [], h => by simp [bytesBefore] at h
  | a :: r, b :: s, h => by
    simp only [bytesBefore, Bool.or_eq_true, Bool.and_eq_true, decide_eq_true_eq, beq_iff_eq] at h
    rw [List.cons_le_cons_iff]
    rcases h with h | ⟨rfl, h⟩
    · exact .inl h
    · exact .inr ⟨rfl, bb_le h⟩

section
variable {fs : Fs} {n m : Nm} {f : Fil}
theorem mem_insF {x y : Nm × Fil} : ∀ {fs : Fs}, y ∈ insF x fs ↔ y = x ∨ y ∈ fs
  | [] => by simp [insF]
  | z :: r => by
    unfold insF; split
    · simp
    · simp only [List.mem_cons, mem_insF (fs := r)]
      constructor
      · rintro (h | h | h)
        · exact .inr (.inl h)
        · exact .inl h
        · exact .inr (.inr h)
      · rintro (h | h | h)
        · exact .inr (.inl h)
        · exact .inl h
        · exact .inr (.inr h)
theorem SortF.ins {x : Nm × Fil} : ∀ {fs : Fs}, SortF fs → (∀ p ∈ fs, p.1 ≠ x.1) → SortF (insF x fs)
  | [], _, _ => by simp [insF, SortF]
  | y :: r, h, hne => by
    unfold SortF at h
    rw [List.pairwise_cons] at h
    unfold insF
    by_cases hb : bytesBefore x.1 y.1 = true
    · rw [if_pos hb]
      unfold SortF
      rw [List.pairwise_cons, List.pairwise_cons]
      refine ⟨fun z hz => ?_, h.1, h.2⟩
      rcases List.mem_cons.1 hz with rfl | hz
      · exact hb
      · exact bb_trans hb (h.1 z hz)
    · rw [if_neg hb]
      have hyx : bytesBefore y.1 x.1 = true := (bb_total (hne y (by simp))).resolve_right hb
      unfold SortF
      rw [List.pairwise_cons]
      refine ⟨fun z hz => ?_, SortF.ins h.2 (fun p hp => hne p (by simp [hp]))⟩
      rcases mem_insF.1 hz with rfl | hz
      · exact hyx
      · exact h.1 z hz
theorem SortF.del (h : SortF fs) : SortF (delF n fs) := List.Pairwise.filter _ h
theorem mem_delF {p : Nm × Fil} : p ∈ delF n fs ↔ p ∈ fs ∧ p.1 ≠ n := by simp [delF]
theorem SortF.put (h : SortF fs) : SortF (putF n f fs) := SortF.ins h.del fun _ hp => (mem_delF.1 hp).2
theorem getF_ins_same : ∀ {fs : Fs}, (∀ p ∈ fs, p.1 ≠ n) → getF n (insF (n, f) fs) = some f
  | [], _ => by simp [getF, insF]
  | y :: r, h => by
    have hy : ¬ y.1 = n := h y (by simp)
    unfold insF
    split
    · simp [getF]
    · have := getF_ins_same (fs := r) (fun p hp => h p (by simp [hp]))
      simp only [getF, List.find?_cons] at this ⊢
      simp only [beq_eq_false_iff_ne.2 hy]
      exact this
theorem getF_ins_ne (hne : m ≠ n) : ∀ {fs : Fs}, getF m (insF (n, f) fs) = getF m fs
  | [] => by simp [getF, insF, beq_eq_false_iff_ne.2 (Ne.symm hne)]
  | y :: r => by
    have ih := getF_ins_ne hne (fs := r)
    simp only [getF] at ih
    unfold insF
    split
    · simp [getF, beq_eq_false_iff_ne.2 (Ne.symm hne)]
    · simp only [getF, List.find?_cons]
      split
      · rfl
      · exact ih
theorem getF_del_same : getF n (delF n fs) = none := by
  simp only [getF, delF, Option.map_eq_none_iff, List.find?_eq_none]
  intro p hp
  have := (List.mem_filter.1 hp).2
  simpa using this
theorem getF_del_ne (hne : m ≠ n) : getF m (delF n fs) = getF m fs := by
  simp only [getF, delF]
  rw [List.find?_filter]
  congr 2
  funext p
  by_cases hp : p.1 = m
  · subst hp; simp [hne]
  · simp [hp]
theorem getF_put_same : getF n (putF n f fs) = some f := getF_ins_same fun _ hp => (mem_delF.1 hp).2
theorem getF_put_ne (hne : m ≠ n) : getF m (putF n f fs) = getF m fs := by unfold putF; rw [getF_ins_ne hne, getF_del_ne hne]
theorem mem_of_getF (h : getF n fs = some f) : (n, f) ∈ fs := by
  unfold getF at h
  obtain ⟨p, hp, rfl⟩ := Option.map_eq_some_iff.1 h
  have h1 := List.mem_of_find?_eq_some hp
  have h2 := List.find?_some hp
  have : p.1 = n := by simpa using h2
  subst this; exact h1
theorem getF_of_mem : ∀ {fs : Fs}, SortF fs → (n, f) ∈ fs → getF n fs = some f
  | [], _, h => by simp at h
  | y :: r, hs, h => by
    unfold SortF at hs
    rw [List.pairwise_cons] at hs
    unfold getF
    rw [List.find?_cons]
    rcases List.mem_cons.1 h with rfl | h
    · simp
    · have := bb_ne (hs.1 _ h)
      simp only [beq_eq_false_iff_ne.2 this]
      exact getF_of_mem hs.2 h
theorem mem_iff_getF (hs : SortF fs) : (n, f) ∈ fs ↔ getF n fs = some f := ⟨getF_of_mem hs, mem_of_getF⟩
theorem getF_none (h : getF n fs = none) : ∀ p ∈ fs, p.1 ≠ n := by
  unfold getF at h
  rw [Option.map_eq_none_iff, List.find?_eq_none] at h
  intro p hp
  simpa using h p hp
theorem delF_none (h : getF n fs = none) : delF n fs = fs := by
  unfold delF
  rw [List.filter_eq_self]
  intro p hp
  simpa using getF_none h p hp
theorem usedF_ins {x : Nm × Fil} : ∀ {fs : Fs}, usedF (insF x fs) = x.2.b.length + usedF fs
  | [] => rfl
  | y :: r => by
    unfold insF; split
    · rfl
    · simp only [usedF, usedF_ins (fs := r)]; omega
theorem usedF_del : ∀ {fs : Fs}, SortF fs → usedF (delF n fs) + lenF n fs = usedF fs
  | [], _ => rfl
  | y :: r, hs => by
    unfold SortF at hs
    rw [List.pairwise_cons] at hs
    by_cases hy : y.1 = n
    · have h1 : delF n (y :: r) = r := by
        unfold delF
        rw [List.filter_cons]
        simp only [hy, beq_self_eq_true, Bool.not_true, if_neg Bool.false_ne_true]
        rw [List.filter_eq_self]
        intro p hp
        have := bb_ne (hs.1 p hp)
        rw [hy] at this
        simpa using Ne.symm this
      have h2 : getF n (y :: r) = some y.2 := by simp [getF, hy]
      rw [h1]; simp only [lenF, h2, usedF]; omega
    · have h1 : delF n (y :: r) = y :: delF n r := by unfold delF; rw [List.filter_cons]; simp [hy]
      have h2 : getF n (y :: r) = getF n r := by simp [getF, hy]
      have ih := usedF_del (fs := r) hs.2
      rw [h1]; simp only [lenF, h2, usedF] at ih ⊢; omega
theorem usedF_put (hs : SortF fs) : usedF (putF n f fs) + lenF n fs = usedF fs + f.b.length := by
  unfold putF
  rw [usedF_ins]
  have := usedF_del (n := n) hs
  simp only; omega
theorem lenF_le (hs : SortF fs) : lenF n fs ≤ usedF fs := by have := usedF_del (n := n) hs; omega
theorem put_put : putF n f (delF n fs) = putF n f fs := by unfold putF delF; rw [List.filter_filter]; simp
end

/-- the datum of a map from names to blocks -/
def dat (fs : Fs) (g : Nm → Nat) : DataW Unit := .map (fs.map fun p => (.string p.1, .lit (.int .i64 (g p.1))))
def upd (g : Nm → Nat) (n : Nm) (k : Nat) : Nm → Nat := fun m => if m = n then k else g m
theorem dat_ins (g : Nm → Nat) (x : Nm × Fil) : ∀ fs : Fs, DataW.insert (Lit.string x.1, (DataW.lit (.int .i64 (g x.1)) : DataW Unit)) (fs.map fun p => (.string p.1, .lit (.int .i64 (g p.1)))) = (insF x fs).map fun p => (.string p.1, .lit (.int .i64 (g p.1)))
  | [] => rfl
  | y :: r => by
    rw [List.map_cons]
    unfold DataW.insert insF
    by_cases hb : bytesBefore x.1 y.1 = true
    · have hb' : (Lit.string x.1).before (.string y.1) = true := hb
      rw [if_pos hb, if_pos hb']
      rfl
    · have hb' : ¬ (Lit.string x.1).before (.string y.1) = true := hb
      rw [if_neg hb, if_neg hb', List.map_cons, dat_ins g x r]
theorem dat_del (fs : Fs) (g : Nm → Nat) (n : Nm) : (dat fs g).del (.string n) = dat (delF n fs) g := by
  simp only [dat, DataW.del, delF, List.filter_map]
  rfl
theorem dat_congr {fs : Fs} {g g' : Nm → Nat} (h : ∀ p ∈ fs, g p.1 = g' p.1) : dat fs g = dat fs g' := by
  unfold dat; congr 1
  apply List.map_congr_left
  intro p hp; rw [h p hp]
theorem dat_put (fs : Fs) (g : Nm → Nat) (n : Nm) (f : Fil) (k : Nat) : (dat fs g).put (.string n) (.lit (.int .i64 k)) = dat (putF n f fs) (upd g n k) := by
  have h1 : (dat fs g).put (.string n) (.lit (.int .i64 (k : Nat))) = (dat (delF n fs) g).put (.string n) (.lit (.int .i64 (k : Nat))) := by
    simp only [dat, DataW.put, delF, List.filter_map]
    congr 2
    rw [List.filter_filter]
    congr 1
    apply List.filter_congr
    intro p _
    simp [Lit.sameKey]
  rw [h1, dat_congr (g' := upd g n k) (fun p hp => by simp [upd, (mem_delF.1 hp).2])]
  simp only [dat, DataW.put]
  congr 1
  have h2 : ((delF n fs).map fun p => ((Lit.string p.1, DataW.lit (.int .i64 (upd g n k p.1))) : Lit × DataW Unit)).filter (fun p => !p.1.sameKey (.string n)) = (delF n fs).map fun p => (Lit.string p.1, DataW.lit (.int .i64 (upd g n k p.1))) := by
    rw [List.filter_eq_self]
    intro p hp
    obtain ⟨q, hq, rfl⟩ := List.mem_map.1 hp
    have := (mem_delF.1 hq).2
    simp [Lit.sameKey, this]
  rw [h2]
  have := dat_ins (upd g n k) (n, f) (delF n fs)
  simp only [upd, if_pos] at this ⊢
  exact this
theorem dat_at (fs : Fs) (g : Nm → Nat) (n : Nm) (z : DataW Unit) : (dat fs g).atKey (.string n) z = match getF n fs with | some _ => .lit (.int .i64 (g n)) | none => z := by
  simp only [dat, DataW.atKey, getF, List.find?_map]
  have h : ((fun p : Lit × DataW Unit => p.1.sameKey (.string n)) ∘ fun p : Nm × Fil => ((Lit.string p.1, DataW.lit (.int .i64 (g p.1))) : Lit × DataW Unit)) = fun p : Nm × Fil => p.1 == n := by
    funext p; rfl
  rw [h]
  cases hf : fs.find? (fun p => p.1 == n) with
  | none => rfl
  | some p =>
    have : p.1 = n := by simpa using List.find?_some hf
    simp [this]
theorem dat_keys (fs : Fs) (g : Nm → Nat) : strKeys (dat fs g) = fs.map (·.1) := by
  simp only [dat, strKeys, List.map_map]
  apply List.map_congr_left
  intro p _; rfl
theorem dat_size (fs : Fs) (g : Nm → Nat) : Maps.size (dat fs g) = fs.length := by simp [dat, Maps.size]
theorem names_sorted {fs : Fs} (h : SortF fs) {ss : List Nm} (hp : ss.Perm (fs.map (·.1))) : ss.mergeSort (fun x y => decide (x ≤ y)) = fs.map (·.1) := by
  have h1 : ss.mergeSort (fun x y => decide (x ≤ y)) = (fs.map (·.1)).mergeSort (fun x y => decide (x ≤ y)) := mergeSort_of_perm hp
  rw [h1]
  apply List.mergeSort_of_pairwise
  rw [List.pairwise_map]
  exact h.imp fun hb => by simpa using bb_le hb
end Go.Proofs.Ytgfdpilgonpokaa
