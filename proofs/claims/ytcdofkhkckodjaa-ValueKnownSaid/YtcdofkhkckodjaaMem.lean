/- Words for memory of my own: a block that holds a known row of values. -/
import Derived.Below
import Derived.Laws.OwnMore
import Derived.Deep.Draws
import Derived.Laws.Rows
namespace Go.Proofs.Ytcdofkhkckodjaa
open Go.RowKit

/-- block g holds just the values l, of element type t; none is frozen -/
def Row (w : World) (g : Nat) (t : TypeId) (l : List Value) : Prop := w.heap[g]? = some (.cells l.toArray t (0, 0))

section
variable {w w' : World} {g : Nat} {t : TypeId} {l : List Value}
theorem Row.lt (h : Row w g t l) : g < w.heap.size := by
  unfold Row at h
  by_cases hg : g < w.heap.size
  · exact hg
  · rw [Array.getElem?_eq_none (by omega)] at h; cases h
theorem Row.cell (h : Row w g t l) (i : Nat) : w.cell? ⟨g, i, none⟩ = l[i]? := by
  rw [cell_of_row w g i l.toArray t (0, 0) h]; simp
theorem Row.free (h : Row w g t l) (i : Nat) : w.frozen? ⟨g, i, none⟩ = false := by
  unfold Row at h; simp [World.frozen?, h]
theorem Row.made (w : World) (t : TypeId) (l : List Value) : Row (w.alloc (.cells l.toArray t)) w.heap.size t l := heap_alloc_new w _
theorem Row.drew (h : Row w g t l) : Row w.drew g t l := h
theorem Row.drewN (h : Row w g t l) (n : Nat) : Row (w.drewN n) g t l := h
theorem Row.alloc (h : Row w g t l) (o : Obj) : Row (w.alloc o) g t l := (Below.heap_alloc w o g h.lt).trans h
theorem Row.put (h : Row w g t l) (i : Nat) (u : Value) : Row (w.setCell ⟨g, i, none⟩ u) g t (l.set i u) := by
  unfold Row at h ⊢
  simp [World.setCell, Array.getElem?_modify, h]
theorem Row.far (h : Row w g t l) {p : Addr} (hp : g ≠ p.block) (u : Value) : Row (w.setCell p u) g t l := (Below.heap_setCell w p u g hp).trans h
theorem Row.below {B : Nat} (h : Row w g t l) (hb : Below B w w') (hg : g < B) : Row w' g t l := (hb.block g hg).trans h
theorem Row.grown {row : Option Nat} (h : Row w g t l) (hb : w.grownBy w' row) (hg : some g ≠ row) : Row w' g t l := (hb.block g h.lt hg).trans h
theorem Row.apart {g' : Nat} {t' : TypeId} {l' : List Value} (h : Row w g t l) (h' : Row w g' t' l') (hne : t ≠ t') : g ≠ g' := by
  intro e; subst e
  unfold Row at h h'; rw [h] at h'; injection h' with h'; injection h' with _ ht; exact hne ht
end
/-- the slice at A holds the bytes xs -/
def Bytes (w : World) (A : Option Addr) (xs : List Nat) : Prop :=
  (∀ x ∈ xs, x < 256) ∧ (0 < xs.length → ∃ ad : Addr, A = some ad ∧ ad.block < w.heap.size ∧ ∀ (j x : Nat), xs[j]? = some x → w.cell? (ad.add j) = some (.int .u8 (x : Nat)))
theorem add_block (a : Addr) (n : Nat) : (a.add n).block = a.block := by unfold Addr.add; split <;> rfl
/-- a block that 'make' has filled -/
theorem Row.of_full {w : World} {base g n : Nat} {t : TypeId} {l : List Value} (h : w.ownsRow base t 1 (.slice (some ⟨g, 0, none⟩) n n) n l) : Row w g t l := by
  obtain ⟨hlen, h | ⟨g', cap, cur, hv, _, hh, _, _, hs, ht⟩⟩ := h
  · cases h.1
  · injection hv with hv1 _ hv2
    injection hv1 with hv1
    injection hv1 with hv1
    subst hv1; subst hv2
    have hs' : cur.size = n := by omega
    have : cur.toList = l := by rw [← ht, List.take_of_length_le (by simp; omega)]
    unfold Row; rw [hh, ← this]
section
variable {w w' : World} {A : Option Addr} {xs : List Nat}
theorem Bytes.lt (h : Bytes w A xs) {k x : Nat} (hx : xs[k]? = some x) : x < 256 := h.1 x (List.mem_of_getElem? hx)
theorem Bytes.below (h : Bytes w A xs) (hb : Below w.heap.size w w') : Bytes w' A xs :=
  ⟨h.1, fun hn => by
    obtain ⟨ad, e, hlt, hc⟩ := h.2 hn
    exact ⟨ad, e, Nat.lt_of_lt_of_le hlt hb.size, fun j x hx => (hb.cell (p := ad.add j) (by rw [add_block]; exact hlt)).trans (hc j x hx)⟩⟩
theorem Bytes.take (h : Bytes w A xs) (k : Nat) : Bytes w A (xs.take k) :=
  ⟨fun x hx => h.1 x (List.mem_of_mem_take hx), fun hn => by
    rw [List.length_take] at hn
    obtain ⟨ad, e, hlt, hc⟩ := h.2 (by omega)
    refine ⟨ad, e, hlt, fun j x hx => ?_⟩
    rw [List.getElem?_take] at hx
    split at hx
    · exact hc j x hx
    · cases hx⟩
theorem Bytes.drewN (h : Bytes w A xs) (k : Nat) : Bytes (w.drewN k) A xs := h
theorem Bytes.drew (h : Bytes w A xs) : Bytes w.drew A xs := h
theorem Bytes.at_ (h : Bytes w A xs) {k : Nat} (hk : k < xs.length) :
    ∃ ad x, A = some ad ∧ ad.block < w.heap.size ∧ xs[k]? = some x ∧ x < 256 ∧ w.cell? (ad.add k) = some (.int .u8 (x : Nat)) := by
  obtain ⟨ad, e, hlt, hc⟩ := h.2 (by omega)
  have hx := List.getElem?_eq_getElem hk
  exact ⟨ad, xs[k], e, hlt, hx, h.lt hx, hc k _ hx⟩
theorem add_zero_off (g j : Nat) : (⟨g, 0, none⟩ : Addr).add j = ⟨g, j, none⟩ := by
  cases j with
  | zero => rfl
  | succ j => simp [Addr.add]
theorem Bytes.of_row {g : Nat} {t : TypeId} (h : Row w g t (xs.map fun x : Nat => Value.int .u8 (x : Nat))) (hx : ∀ x ∈ xs, x < 256) : Bytes w (some ⟨g, 0, none⟩) xs :=
  ⟨hx, fun _ => ⟨⟨g, 0, none⟩, rfl, h.lt, fun j x hj => by rw [add_zero_off, h.cell, List.getElem?_map, hj]; rfl⟩⟩
/-- a new block of bytes, marked or not -/
theorem Bytes.made (w : World) (t : TypeId) (fz : Nat × Nat) (hx : ∀ x ∈ xs, x < 256) : Bytes (w.alloc (.cells (xs.map fun x : Nat => Value.int .u8 (x : Nat)).toArray t fz)) (some ⟨w.heap.size, 0, none⟩) xs :=
  ⟨hx, fun _ => ⟨⟨w.heap.size, 0, none⟩, rfl, by simp, fun j x hj => by
    rw [add_zero_off, cell_of_row _ w.heap.size j _ t fz (heap_alloc_new w _), List.getElem?_toArray, List.getElem?_map, hj]; rfl⟩⟩
end
/-- nothing below B has turned: cells and marks -/
theorem old_cells {B : Nat} {w w' : World} (hb : Below B w w') : (∀ b o, b < B → w'.cell? ⟨b, o, none⟩ = w.cell? ⟨b, o, none⟩) ∧ (∀ b o, b < B → w'.frozen? ⟨b, o, none⟩ = w.frozen? ⟨b, o, none⟩) :=
  ⟨fun b o h => hb.cell (p := ⟨b, o, none⟩) h, fun b o h => hb.frozen (p := ⟨b, o, none⟩) h⟩
end Go.Proofs.Ytcdofkhkckodjaa
