/- Several texts in one: Fs, Mem, Bytes. -/
import Derived.Maps.Own
import Derived.Maps.OwnSet
import Derived.Sort.KeysCollected
import Derived.Below
import Derived.Laws.OwnMore
import Derived.Deep.Draws
import Derived.Laws.Rows
import Derived.Laws.BytesArg
import Derived.Laws.AppendOwnNone
import Derived.OwnWalk
namespace Go.Proofs.Ytiagoaaldpajmaa
open Go.ChangeMaps

/-- a file: its bytes, how many of them are sure, and whether it is made -/
structure Fil where
  b : List Nat
  sure : Nat
  made : Bool
abbrev Nm := List UInt8
abbrev Fs := List (Nm × Fil)

def insF (x : Nm × Fil) : Fs → Fs
  | [] => [x]
  | y :: r => if bytesBefore x.1 y.1 then x :: y :: r else y :: insF x r
def delF (n : Nm) (fs : Fs) : Fs := fs.filter fun p => !(p.1 == n)
def putF (n : Nm) (f : Fil) (fs : Fs) : Fs := insF (n, f) (delF n fs)
def getF (n : Nm) (fs : Fs) : Option Fil := (fs.find? fun p => p.1 == n).map (·.2)
def lenF (n : Nm) (fs : Fs) : Nat := match getF n fs with | some f => f.b.length | none => 0
def usedF : Fs → Nat
  | [] => 0
  | p :: r => p.2.b.length + usedF r
def SortF (fs : Fs) : Prop := fs.Pairwise fun p q => bytesBefore p.1 q.1 = true

theorem bb_irrefl : ∀ a : Nm, bytesBefore a a = false
  | [] => rfl
  | a :: r => by simp [bytesBefore, bb_irrefl r]
theorem bb_trans : ∀ {a b c : Nm}, bytesBefore a b = true → bytesBefore b c = true → bytesBefore a c = true
  | [], _ :: _, _ :: _, _, _ => rfl
  | [], [], _, h, _ => by simp [bytesBefore] at h
  | [], _ :: _, [], _, h => by simp [bytesBefore] at h
  | _ :: _, [], _, h, _ => by simp [bytesBefore] at h
  | _ :: _, _ :: _, [], _, h => by simp [bytesBefore] at h
  | a :: r, b :: s, c :: t, h, k => by
    simp only [bytesBefore, Bool.or_eq_true, Bool.and_eq_true, decide_eq_true_eq, beq_iff_eq] at h k ⊢
    rcases h with h | ⟨rfl, h⟩
    · rcases k with k | ⟨rfl, k⟩
      · exact .inl (UInt8.lt_trans h k)
      · exact .inl h
    · rcases k with k | ⟨rfl, k⟩
      · exact .inl k
      · exact .inr ⟨rfl, bb_trans h k⟩
theorem bb_total : ∀ {a b : Nm}, a ≠ b → bytesBefore a b = true ∨ bytesBefore b a = true
  | [], [], h => absurd rfl h
  | [], _ :: _, _ => .inl rfl
  | _ :: _, [], _ => .inr rfl
  | a :: r, b :: s, h => by
    simp only [bytesBefore, Bool.or_eq_true, Bool.and_eq_true, decide_eq_true_eq, beq_iff_eq]
    by_cases hab : a = b
    · subst hab
      have : r ≠ s := fun e => h (by rw [e])
      rcases bb_total this with k | k
      · exact .inl (.inr ⟨rfl, k⟩)
      · exact .inr (.inr ⟨rfl, k⟩)
    · have : a < b ∨ b < a := by
        have h1 : a.toNat ≠ b.toNat := fun e => hab (UInt8.toNat_inj.1 e)
        rw [UInt8.lt_iff_toNat_lt, UInt8.lt_iff_toNat_lt]; omega
      rcases this with k | k
      · exact .inl (.inl k)
      · exact .inr (.inl k)
theorem bb_ne {a b : Nm} (h : bytesBefore a b = true) : a ≠ b := by rintro rfl; rw [bb_irrefl] at h; cases h
theorem bb_le : ∀ {a b : Nm}, bytesBefore a b = true → a ≤ b
  | [], _, _ => by simp
  | _ :: _, [], h => by simp [bytesBefore] at h
  | a :: r, b :: s, h => by
    simp only [bytesBefore, Bool.or_eq_true, Bool.and_eq_true, decide_eq_true_eq, beq_iff_eq] at h
    rw [List.cons_le_cons_iff]
    rcases h with h | ⟨rfl, h⟩
    · exact .inl h
    · exact .inr ⟨rfl, bb_le h⟩

section
variable {fs : Fs} {n m : Nm} {f : Fil}
theorem mem_insF {x y : Nm × Fil} : ∀ {fs : Fs}, y ∈ insF x fs ↔ y = x ∨ y ∈ fs
  | [] => by simp [insF]
  | z :: r => by
    unfold insF; split
    · simp
    · simp only [List.mem_cons, mem_insF (fs := r)]
      constructor
      · rintro (h | h | h)
        · exact .inr (.inl h)
        · exact .inl h
        · exact .inr (.inr h)
      · rintro (h | h | h)
        · exact .inr (.inl h)
        · exact .inl h
        · exact .inr (.inr h)
theorem SortF.ins {x : Nm × Fil} : ∀ {fs : Fs}, SortF fs → (∀ p ∈ fs, p.1 ≠ x.1) → SortF (insF x fs)
  | [], _, _ => by simp [insF, SortF]
  | y :: r, h, hne => by
    unfold SortF at h
    rw [List.pairwise_cons] at h
    unfold insF
    by_cases hb : bytesBefore x.1 y.1 = true
    · rw [if_pos hb]
      unfold SortF
      rw [List.pairwise_cons, List.pairwise_cons]
      refine ⟨fun z hz => ?_, h.1, h.2⟩
      rcases List.mem_cons.1 hz with rfl | hz
      · exact hb
      · exact bb_trans hb (h.1 z hz)
    · rw [if_neg hb]
      have hyx : bytesBefore y.1 x.1 = true := (bb_total (hne y (by simp))).resolve_right hb
      unfold SortF
      rw [List.pairwise_cons]
      refine ⟨fun z hz => ?_, SortF.ins h.2 (fun p hp => hne p (by simp [hp]))⟩
      rcases mem_insF.1 hz with rfl | hz
      · exact hyx
      · exact h.1 z hz
theorem SortF.del (h : SortF fs) : SortF (delF n fs) := List.Pairwise.filter _ h
theorem mem_delF {p : Nm × Fil} : p ∈ delF n fs ↔ p ∈ fs ∧ p.1 ≠ n := by simp [delF]
theorem SortF.put (h : SortF fs) : SortF (putF n f fs) := SortF.ins h.del fun _ hp => (mem_delF.1 hp).2
theorem getF_ins_same : ∀ {fs : Fs}, (∀ p ∈ fs, p.1 ≠ n) → getF n (insF (n, f) fs) = some f
  | [], _ => by simp [getF, insF]
  | y :: r, h => by
    have hy : ¬ y.1 = n := h y (by simp)
    unfold insF
    split
    · simp [getF]
    · have := getF_ins_same (fs := r) (fun p hp => h p (by simp [hp]))
      simp only [getF, List.find?_cons] at this ⊢
      simp only [beq_eq_false_iff_ne.2 hy]
      exact this
theorem getF_ins_ne (hne : m ≠ n) : ∀ {fs : Fs}, getF m (insF (n, f) fs) = getF m fs
  | [] => by simp [getF, insF, beq_eq_false_iff_ne.2 (Ne.symm hne)]
  | y :: r => by
    have ih := getF_ins_ne hne (fs := r)
    simp only [getF] at ih
    unfold insF
    split
    · simp [getF, beq_eq_false_iff_ne.2 (Ne.symm hne)]
    · simp only [getF, List.find?_cons]
      split
      · rfl
      · exact ih
theorem getF_del_same : getF n (delF n fs) = none := by
  simp only [getF, delF, Option.map_eq_none_iff, List.find?_eq_none]
  intro p hp
  have := (List.mem_filter.1 hp).2
  simpa using this
theorem getF_del_ne (hne : m ≠ n) : getF m (delF n fs) = getF m fs := by
  simp only [getF, delF]
  rw [List.find?_filter]
  congr 2
  funext p
  by_cases hp : p.1 = m
  · subst hp; simp [hne]
  · simp [hp]
theorem getF_put_same : getF n (putF n f fs) = some f := getF_ins_same fun _ hp => (mem_delF.1 hp).2
theorem getF_put_ne (hne : m ≠ n) : getF m (putF n f fs) = getF m fs := by unfold putF; rw [getF_ins_ne hne, getF_del_ne hne]
theorem mem_of_getF (h : getF n fs = some f) : (n, f) ∈ fs := by
  unfold getF at h
  obtain ⟨p, hp, rfl⟩ := Option.map_eq_some_iff.1 h
  have h1 := List.mem_of_find?_eq_some hp
  have h2 := List.find?_some hp
  have : p.1 = n := by simpa using h2
  subst this; exact h1
theorem getF_of_mem : ∀ {fs : Fs}, SortF fs → (n, f) ∈ fs → getF n fs = some f
  | [], _, h => by simp at h
  | y :: r, hs, h => by
    unfold SortF at hs
    rw [List.pairwise_cons] at hs
    unfold getF
    rw [List.find?_cons]
    rcases List.mem_cons.1 h with rfl | h
    · simp
    · have := bb_ne (hs.1 _ h)
      simp only [beq_eq_false_iff_ne.2 this]
      exact getF_of_mem hs.2 h
theorem mem_iff_getF (hs : SortF fs) : (n, f) ∈ fs ↔ getF n fs = some f := ⟨getF_of_mem hs, mem_of_getF⟩
theorem getF_none (h : getF n fs = none) : ∀ p ∈ fs, p.1 ≠ n := by
  unfold getF at h
  rw [Option.map_eq_none_iff, List.find?_eq_none] at h
  intro p hp
  simpa using h p hp
theorem delF_none (h : getF n fs = none) : delF n fs = fs := by
  unfold delF
  rw [List.filter_eq_self]
  intro p hp
  simpa using getF_none h p hp
theorem usedF_ins {x : Nm × Fil} : ∀ {fs : Fs}, usedF (insF x fs) = x.2.b.length + usedF fs
  | [] => rfl
  | y :: r => by
    unfold insF; split
    · rfl
    · simp only [usedF, usedF_ins (fs := r)]; omega
theorem usedF_del : ∀ {fs : Fs}, SortF fs → usedF (delF n fs) + lenF n fs = usedF fs
  | [], _ => rfl
  | y :: r, hs => by
    unfold SortF at hs
    rw [List.pairwise_cons] at hs
    by_cases hy : y.1 = n
    · have h1 : delF n (y :: r) = r := by
        unfold delF
        rw [List.filter_cons]
        simp only [hy, beq_self_eq_true, Bool.not_true, if_neg Bool.false_ne_true]
        rw [List.filter_eq_self]
        intro p hp
        have := bb_ne (hs.1 p hp)
        rw [hy] at this
        simpa using Ne.symm this
      have h2 : getF n (y :: r) = some y.2 := by simp [getF, hy]
      rw [h1]; simp only [lenF, h2, usedF]; omega
    · have h1 : delF n (y :: r) = y :: delF n r := by unfold delF; rw [List.filter_cons]; simp [hy]
      have h2 : getF n (y :: r) = getF n r := by simp [getF, hy]
      have ih := usedF_del (fs := r) hs.2
      rw [h1]; simp only [lenF, h2, usedF] at ih ⊢; omega
theorem usedF_put (hs : SortF fs) : usedF (putF n f fs) + lenF n fs = usedF fs + f.b.length := by
  unfold putF
  rw [usedF_ins]
  have := usedF_del (n := n) hs
  simp only; omega
theorem lenF_le (hs : SortF fs) : lenF n fs ≤ usedF fs := by have := usedF_del (n := n) hs; omega
theorem put_put : putF n f (delF n fs) = putF n f fs := by unfold putF delF; rw [List.filter_filter]; simp
end

/-- the datum of a map from names to blocks -/
def dat (fs : Fs) (g : Nm → Nat) : DataW Unit := .map (fs.map fun p => (.string p.1, .lit (.int .i64 (g p.1))))
def upd (g : Nm → Nat) (n : Nm) (k : Nat) : Nm → Nat := fun m => if m = n then k else g m
theorem dat_ins (g : Nm → Nat) (x : Nm × Fil) : ∀ fs : Fs, DataW.insert (Lit.string x.1, (DataW.lit (.int .i64 (g x.1)) : DataW Unit)) (fs.map fun p => (.string p.1, .lit (.int .i64 (g p.1)))) = (insF x fs).map fun p => (.string p.1, .lit (.int .i64 (g p.1)))
  | [] => rfl
  | y :: r => by
    rw [List.map_cons]
    unfold DataW.insert insF
    by_cases hb : bytesBefore x.1 y.1 = true
    · have hb' : (Lit.string x.1).before (.string y.1) = true := hb
      rw [if_pos hb, if_pos hb']
      rfl
    · have hb' : ¬ (Lit.string x.1).before (.string y.1) = true := hb
      rw [if_neg hb, if_neg hb', List.map_cons, dat_ins g x r]
theorem dat_del (fs : Fs) (g : Nm → Nat) (n : Nm) : (dat fs g).del (.string n) = dat (delF n fs) g := by
  simp only [dat, DataW.del, delF, List.filter_map]
  rfl
theorem dat_congr {fs : Fs} {g g' : Nm → Nat} (h : ∀ p ∈ fs, g p.1 = g' p.1) : dat fs g = dat fs g' := by
  unfold dat; congr 1
  apply List.map_congr_left
  intro p hp; rw [h p hp]
theorem dat_put (fs : Fs) (g : Nm → Nat) (n : Nm) (f : Fil) (k : Nat) : (dat fs g).put (.string n) (.lit (.int .i64 k)) = dat (putF n f fs) (upd g n k) := by
  have h1 : (dat fs g).put (.string n) (.lit (.int .i64 (k : Nat))) = (dat (delF n fs) g).put (.string n) (.lit (.int .i64 (k : Nat))) := by
    simp only [dat, DataW.put, delF, List.filter_map]
    congr 2
    rw [List.filter_filter]
    congr 1
    apply List.filter_congr
    intro p _
    simp [Lit.sameKey]
  rw [h1, dat_congr (g' := upd g n k) (fun p hp => by simp [upd, (mem_delF.1 hp).2])]
  simp only [dat, DataW.put]
  congr 1
  have h2 : ((delF n fs).map fun p => ((Lit.string p.1, DataW.lit (.int .i64 (upd g n k p.1))) : Lit × DataW Unit)).filter (fun p => !p.1.sameKey (.string n)) = (delF n fs).map fun p => (Lit.string p.1, DataW.lit (.int .i64 (upd g n k p.1))) := by
    rw [List.filter_eq_self]
    intro p hp
    obtain ⟨q, hq, rfl⟩ := List.mem_map.1 hp
    have := (mem_delF.1 hq).2
    simp [Lit.sameKey, this]
  rw [h2]
  have := dat_ins (upd g n k) (n, f) (delF n fs)
  simp only [upd, if_pos] at this ⊢
  exact this
theorem dat_at (fs : Fs) (g : Nm → Nat) (n : Nm) (z : DataW Unit) : (dat fs g).atKey (.string n) z = match getF n fs with | some _ => .lit (.int .i64 (g n)) | none => z := by
  simp only [dat, DataW.atKey, getF, List.find?_map]
  have h : ((fun p : Lit × DataW Unit => p.1.sameKey (.string n)) ∘ fun p : Nm × Fil => ((Lit.string p.1, DataW.lit (.int .i64 (g p.1))) : Lit × DataW Unit)) = fun p : Nm × Fil => p.1 == n := by
    funext p; rfl
  rw [h]
  cases hf : fs.find? (fun p => p.1 == n) with
  | none => rfl
  | some p =>
    have : p.1 = n := by simpa using List.find?_some hf
    simp [this]
theorem dat_keys (fs : Fs) (g : Nm → Nat) : strKeys (dat fs g) = fs.map (·.1) := by
  simp only [dat, strKeys, List.map_map]
  apply List.map_congr_left
  intro p _; rfl
theorem dat_size (fs : Fs) (g : Nm → Nat) : Maps.size (dat fs g) = fs.length := by simp [dat, Maps.size]
theorem names_sorted {fs : Fs} (h : SortF fs) {ss : List Nm} (hp : ss.Perm (fs.map (·.1))) : ss.mergeSort (fun x y => decide (x ≤ y)) = fs.map (·.1) := by
  have h1 : ss.mergeSort (fun x y => decide (x ≤ y)) = (fs.map (·.1)).mergeSort (fun x y => decide (x ≤ y)) := mergeSort_of_perm hp
  rw [h1]
  apply List.mergeSort_of_pairwise
  rw [List.pairwise_map]
  exact h.imp fun hb => by simpa using bb_le hb
end Go.Proofs.Ytiagoaaldpajmaa
namespace Go.Proofs.Ytiagoaaldpajmaa
open Go.RowKit

/-- block g holds just the values l, of element type t; none is frozen -/
def Row (w : World) (g : Nat) (t : TypeId) (l : List Value) : Prop := w.heap[g]? = some (.cells l.toArray t (0, 0))

section
variable {w w' : World} {g : Nat} {t : TypeId} {l : List Value}
theorem Row.lt (h : Row w g t l) : g < w.heap.size := by
  unfold Row at h
  by_cases hg : g < w.heap.size
  · exact hg
  · rw [Array.getElem?_eq_none (by omega)] at h; cases h
theorem Row.cell (h : Row w g t l) (i : Nat) : w.cell? ⟨g, i, none⟩ = l[i]? := by
  rw [cell_of_row w g i l.toArray t (0, 0) h]; simp
theorem Row.free (h : Row w g t l) (i : Nat) : w.frozen? ⟨g, i, none⟩ = false := by
  unfold Row at h; simp [World.frozen?, h]
theorem Row.made (w : World) (t : TypeId) (l : List Value) : Row (w.alloc (.cells l.toArray t)) w.heap.size t l := heap_alloc_new w _
theorem Row.drew (h : Row w g t l) : Row w.drew g t l := h
theorem Row.drewN (h : Row w g t l) (n : Nat) : Row (w.drewN n) g t l := h
theorem Row.alloc (h : Row w g t l) (o : Obj) : Row (w.alloc o) g t l := (Below.heap_alloc w o g h.lt).trans h
theorem Row.put (h : Row w g t l) (i : Nat) (u : Value) : Row (w.setCell ⟨g, i, none⟩ u) g t (l.set i u) := by
  unfold Row at h ⊢
  simp [World.setCell, Array.getElem?_modify, h]
theorem Row.far (h : Row w g t l) {p : Addr} (hp : g ≠ p.block) (u : Value) : Row (w.setCell p u) g t l := (Below.heap_setCell w p u g hp).trans h
theorem Row.below {B : Nat} (h : Row w g t l) (hb : Below B w w') (hg : g < B) : Row w' g t l := (hb.block g hg).trans h
theorem Row.grown {row : Option Nat} (h : Row w g t l) (hb : w.grownBy w' row) (hg : some g ≠ row) : Row w' g t l := (hb.block g h.lt hg).trans h
theorem Row.apart {g' : Nat} {t' : TypeId} {l' : List Value} (h : Row w g t l) (h' : Row w g' t' l') (hne : t ≠ t') : g ≠ g' := by
  intro e; subst e
  unfold Row at h h'; rw [h] at h'; injection h' with h'; injection h' with _ ht; exact hne ht
end
/-- the slice at A holds the bytes xs -/
def Bytes (w : World) (A : Option Addr) (xs : List Nat) : Prop :=
  (∀ x ∈ xs, x < 256) ∧ (0 < xs.length → ∃ ad : Addr, A = some ad ∧ ad.block < w.heap.size ∧ ∀ (j x : Nat), xs[j]? = some x → w.cell? (ad.add j) = some (.int .u8 (x : Nat)))
theorem add_block (a : Addr) (n : Nat) : (a.add n).block = a.block := by unfold Addr.add; split <;> rfl
/-- a block that 'make' has filled -/
theorem Row.of_full {w : World} {base g n : Nat} {t : TypeId} {l : List Value} (h : w.ownsRow base t 1 (.slice (some ⟨g, 0, none⟩) n n) n l) : Row w g t l := by
  obtain ⟨hlen, h | ⟨g', cap, cur, hv, _, hh, _, _, hs, ht⟩⟩ := h
  · cases h.1
  · injection hv with hv1 _ hv2
    injection hv1 with hv1
    injection hv1 with hv1
    subst hv1; subst hv2
    have hs' : cur.size = n := by omega
    have : cur.toList = l := by rw [← ht, List.take_of_length_le (by simp; omega)]
    unfold Row; rw [hh, ← this]
section
variable {w w' : World} {A : Option Addr} {xs : List Nat}
theorem Bytes.lt (h : Bytes w A xs) {k x : Nat} (hx : xs[k]? = some x) : x < 256 := h.1 x (List.mem_of_getElem? hx)
theorem Bytes.below (h : Bytes w A xs) (hb : Below w.heap.size w w') : Bytes w' A xs :=
  ⟨h.1, fun hn => by
    obtain ⟨ad, e, hlt, hc⟩ := h.2 hn
    exact ⟨ad, e, Nat.lt_of_lt_of_le hlt hb.size, fun j x hx => (hb.cell (p := ad.add j) (by rw [add_block]; exact hlt)).trans (hc j x hx)⟩⟩
theorem Bytes.take (h : Bytes w A xs) (k : Nat) : Bytes w A (xs.take k) :=
  ⟨fun x hx => h.1 x (List.mem_of_mem_take hx), fun hn => by
    rw [List.length_take] at hn
    obtain ⟨ad, e, hlt, hc⟩ := h.2 (by omega)
    refine ⟨ad, e, hlt, fun j x hx => ?_⟩
    rw [List.getElem?_take] at hx
    split at hx
    · exact hc j x hx
    · cases hx⟩
theorem Bytes.drewN (h : Bytes w A xs) (k : Nat) : Bytes (w.drewN k) A xs := h
theorem Bytes.drew (h : Bytes w A xs) : Bytes w.drew A xs := h
theorem Bytes.at_ (h : Bytes w A xs) {k : Nat} (hk : k < xs.length) :
    ∃ ad x, A = some ad ∧ ad.block < w.heap.size ∧ xs[k]? = some x ∧ x < 256 ∧ w.cell? (ad.add k) = some (.int .u8 (x : Nat)) := by
  obtain ⟨ad, e, hlt, hc⟩ := h.2 (by omega)
  have hx := List.getElem?_eq_getElem hk
  exact ⟨ad, xs[k], e, hlt, hx, h.lt hx, hc k _ hx⟩
theorem add_zero_off (g j : Nat) : (⟨g, 0, none⟩ : Addr).add j = ⟨g, j, none⟩ := by
  cases j with
  | zero => rfl
  | succ j => simp [Addr.add]
theorem Bytes.of_row {g : Nat} {t : TypeId} (h : Row w g t (xs.map fun x : Nat => Value.int .u8 (x : Nat))) (hx : ∀ x ∈ xs, x < 256) : Bytes w (some ⟨g, 0, none⟩) xs :=
  ⟨hx, fun _ => ⟨⟨g, 0, none⟩, rfl, h.lt, fun j x hj => by rw [add_zero_off, h.cell, List.getElem?_map, hj]; rfl⟩⟩
/-- a new block of bytes, marked or not -/
theorem Bytes.made (w : World) (t : TypeId) (fz : Nat × Nat) (hx : ∀ x ∈ xs, x < 256) : Bytes (w.alloc (.cells (xs.map fun x : Nat => Value.int .u8 (x : Nat)).toArray t fz)) (some ⟨w.heap.size, 0, none⟩) xs :=
  ⟨hx, fun _ => ⟨⟨w.heap.size, 0, none⟩, rfl, by simp, fun j x hj => by
    rw [add_zero_off, cell_of_row _ w.heap.size j _ t fz (heap_alloc_new w _), List.getElem?_toArray, List.getElem?_map, hj]; rfl⟩⟩
end
/-- nothing below B has turned: cells and marks -/
theorem old_cells {B : Nat} {w w' : World} (hb : Below B w w') : (∀ b o, b < B → w'.cell? ⟨b, o, none⟩ = w.cell? ⟨b, o, none⟩) ∧ (∀ b o, b < B → w'.frozen? ⟨b, o, none⟩ = w.frozen? ⟨b, o, none⟩) :=
  ⟨fun b o h => hb.cell (p := ⟨b, o, none⟩) h, fun b o h => hb.frozen (p := ⟨b, o, none⟩) h⟩
end Go.Proofs.Ytiagoaaldpajmaa
namespace Go.Proofs.Ytiagoaaldpajmaa
open Go.RowKit

abbrev u8s (xs : List Nat) : List Value := xs.map fun x : Nat => Value.int .u8 (x : Nat)
theorem Bytes.plain {w : World} {A : Option Addr} {xs : List Nat} (h : Bytes w A xs) (hn : 0 < xs.length) :
    ∃ b off, A = some ⟨b, off, none⟩ ∧ ∀ (j x : Nat), xs[j]? = some x → w.cell? ⟨b, off + j, none⟩ = some (.int .u8 (x : Nat)) := by
  obtain ⟨ad, rfl, _, hc⟩ := h.2 hn
  have h0 := hc 0 xs[0] (List.getElem?_eq_getElem hn)
  obtain ⟨b, off, spot⟩ := ad
  cases spot with
  | none =>
    refine ⟨b, off, rfl, fun j x hx => ?_⟩
    have := hc j x hx
    cases j with
    | zero => exact this
    | succ j => simpa [Addr.add] using this
  | some q =>
    exfalso
    simp only [Addr.add, if_true] at h0
    unfold World.cell? at h0
    cases hh : w.heap[b]? with
    | none => simp [hh] at h0
    | some o => cases o <;> simp [hh] at h0

def strOf (xs : List Nat) : ByteArray := strOfNums (xs.map fun x : Nat => (x : Int))
theorem strOf_inj {xs ys : List Nat} (hx : ∀ x ∈ xs, x < 256) (hy : ∀ y ∈ ys, y < 256) : strOf xs = strOf ys ↔ xs = ys := by
  constructor
  · intro h
    have h1 : (strOf xs).data.toList = (strOf ys).data.toList := by rw [h]
    simp only [strOf, strOfNums_data, List.map_map] at h1
    have key : ∀ (l : List Nat), (∀ x ∈ l, x < 256) → (l.map ((fun n : Int => UInt8.ofNat n.toNat) ∘ fun x : Nat => (x : Int))).map UInt8.toNat = l := by
      intro l hl
      rw [List.map_map]
      conv => rhs; rw [← List.map_id l]
      apply List.map_congr_left
      intro x hx
      simp; have := hl x hx; omega
    rw [← key xs hx, ← key ys hy, h1]
  · rintro rfl; rfl
/-- a row of the call's own that is not empty lies at the head of a block -/
theorem Row.of_own_some {w : World} {base : Nat} {t : TypeId} {v : Value} {n : Nat} {l : List Value} (h : w.ownsRow base t 1 v n l) (hn : 0 < n) :
    ∃ g rest cap, v = .slice (some ⟨g, 0, none⟩) n cap ∧ base ≤ g ∧ Row w g t (l ++ rest) := by
  obtain ⟨hlen, ⟨_, h0⟩ | ⟨g, cap, cur, rfl, hg, hh, _, _, _, ht⟩⟩ := h
  · omega
  · refine ⟨g, cur.toList.drop (n * 1), cap, rfl, hg, ?_⟩
    unfold Row
    rw [hh, ← ht, List.take_append_drop]
theorem Bytes.of_row_pre {w : World} {g : Nat} {t : TypeId} {xs : List Nat} {rest : List Value} (h : Row w g t (u8s xs ++ rest)) (hx : ∀ x ∈ xs, x < 256) : Bytes w (some ⟨g, 0, none⟩) xs :=
  ⟨hx, fun _ => ⟨⟨g, 0, none⟩, rfl, h.lt, fun j x hj => by
    have hlt := (List.getElem?_eq_some_iff.1 hj).1
    rw [add_zero_off, h.cell, List.getElem?_append_left (by simpa using hlt), List.getElem?_map, hj]; rfl⟩⟩
section
variable {P : Program}
theorem conv_bytes {w : World} {A : Option Addr} {xs : List Nat} {src e dst : TypeId} (hs : P.underlying src = some (.slice e)) (he : P.underlying e = some (.int .u8)) (hd : P.underlying dst = some .string)
    (h : Bytes w A xs) (c : Nat) : (convert src dst (.slice A xs.length c)).run P w = .ok (.string (strOf xs)) w := by
  by_cases hn : 0 < xs.length
  · obtain ⟨b, off, rfl, hc⟩ := h.plain hn
    refine run_convert_bytes_arg w src e hs he b off xs.length c _ (by simp) (fun i hi => ?_) dst hd
    rw [hc i _ (List.getElem?_eq_getElem hi)]
    simp [List.getD_eq_getElem?_getD, hi]
  · obtain rfl : xs = [] := by cases xs with
      | nil => rfl
      | cons a l => exact absurd (by simp) hn
    rw [run_convert_bytes_string w src dst e _ _ c hs he hd]
    cases A <;> simp [Conv.bytesToString, loadCells]
    all_goals rfl

theorem Bytes.of_own {w : World} {base : Nat} {t : TypeId} {v : Value} {n : Nat} {xs : List Nat} (h : w.ownsRow base t 1 v n (u8s xs)) (hx : ∀ x ∈ xs, x < 256) :
    ∃ A c, v = .slice A xs.length c ∧ Bytes w A xs ∧ n = xs.length := by
  have hl : xs.length = n := by have := h.1; simpa using this
  obtain ⟨_, ⟨rfl, h0⟩ | ⟨g, cap, cur, rfl, _, hh, _, _, _, ht⟩⟩ := id h
  · obtain rfl : xs = [] := by cases xs with
      | nil => rfl
      | cons a l => simp at hl; omega
    exact ⟨none, 0, rfl, ⟨by simp, by simp⟩, by simp [h0]⟩
  · refine ⟨some ⟨g, 0, none⟩, cap, by rw [hl], ⟨hx, fun _ => ⟨_, rfl, ?_, fun j x hj => ?_⟩⟩, hl.symm⟩
    · by_cases hg : g < w.heap.size
      · exact hg
      · rw [Array.getElem?_eq_none (by omega)] at hh; cases hh
    · exact h.cells (g := g) rfl j _ (by rw [List.getElem?_map, hj]; rfl)

/-- append of a row of bytes, nil or not, to one of the call's own -/
theorem wpList_append_bytes {w : World} {ops : Array Oper} {rest : List Oper} {o : Oper} {a : Act} {Q : Exit → Act → World → Prop} (hgd : o.guard = none) (s x : Operand) (t : TypeId)
    (ho : o.op = .call { callee := .builtin .append, args := #[s, x], argTypes := #[t, t] })
    (base : Nat) (e : TypeId) (i : TypeInfo) (z : Value) (ht : P.underlying t = some (.slice e)) (hi : P.info? e = some i) (hz : i.zero = some z)
    (hsize : i.size = 1) (hby : i.bytes = 1) (hzs : z.cells.size = 1)
    (v : Value) (n : Nat) (xs : List Nat) (hs : a.eval s = v) (hown : w.ownsRow base e 1 v n (u8s xs))
    (A : Option Addr) (c : Nat) (ys : List Nat) (hx : a.eval x = .slice A ys.length c) (hb : Bytes w A ys) (hc : A = none → c = 0)
    (hle : n + ys.length ≤ 1000000) (hbase : base ≤ w.heap.size)
    (h : ∀ v' w', w'.ownsRow base e 1 v' (n + ys.length) (u8s (xs ++ ys)) → w.grownBy w' v.ownBlock → wpList P ops Q rest (a.put o.dst v') w') : wpList P ops Q (o :: rest) a w := by
  cases hA : A with
  | some ad =>
    subst hA
    refine wpList_append_own w hgd s x t ho base e i z 1 1 ht hi hz hsize hby hzs (by omega) v n (u8s xs) hs hown ad ys.length c (u8s ys) hx (by simp) ?_ ?_ (by unfold maxLen; omega) (by omega) hbase ?_
    · intro j u hj
      by_cases hn : 0 < ys.length
      · obtain ⟨ad', e', _, hcell⟩ := hb.2 hn
        cases e'
        rw [List.getElem?_map] at hj
        cases hy : ys[j]? with
        | none => simp [hy] at hj
        | some y => simp [hy] at hj; rw [← hj]; exact hcell j y hy
      · have : j < (u8s ys).length := (List.getElem?_eq_some_iff.1 hj).1
        simp at this; omega
    · intro u hu
      obtain ⟨y, _, rfl⟩ := List.mem_map.1 hu
      rfl
    · intro v' w' h1 h2 _
      exact h v' w' (by rw [show u8s (xs ++ ys) = u8s xs ++ u8s ys from List.map_append]; exact h1) h2
  | none =>
    subst hA
    have hn : ys = [] := by
      cases ys with
      | nil => rfl
      | cons y l => obtain ⟨_, e', _⟩ := hb.2 (by simp); cases e'
    subst hn
    have hc0 := hc rfl
    subst hc0
    refine wpList_append_own_none hgd s x t ho base e i 1 ht hi v n (u8s xs) hs hown hx ?_
    refine h v w (by simpa using hown) ⟨rfl, rfl, rfl, Nat.le_refl _, fun _ _ _ => rfl⟩
end
end Go.Proofs.Ytiagoaaldpajmaa
