/- A region in any order, one operation of which makes a block, and another one fills it: the class for Free.wp_key. -/
import Derived.Test.YtdpadkellpkppaaKey
import Derived.Test.YtdpadkellpkppaaStBothB
namespace Go.Proofs.Ytdpadkellpkppaa
open Go.RowKit
set_option linter.unusedVariables false
/-- operation iA makes the block, of zs; iS fills it with cells -/
def PutF (w0 : World) (iA iS : Nat) (ty : TypeId) (zs cells : List Value) (b : Nat → Bool) (vs : Nat → Value) (w : World) : Prop :=
  Below w0.heap.size w0 w ∧ (b iS = true → b iA = true) ∧ (b iA = true → ∃ blk, vs iA = .pointer (some ⟨blk, 0, none⟩) ∧ w0.heap.size ≤ blk ∧ Row w blk ty (if b iS then cells else zs))
section
variable {w0 w w' : World} {iA iS i : Nat} {ty : TypeId} {zs cells : List Value} {b : Nat → Bool} {vs : Nat → Value} {v : Value}
theorem PutF.start (n : Nat) (hA : iA < n) (hS : iS < n) (w0 : World) (ty : TypeId) (zs cells : List Value) (vs : Nat → Value) : PutF w0 iA iS ty zs cells (fun i => decide (n ≤ i)) vs w0.drew :=
  ⟨(Below.refl _ _).drew, fun h => by simp at h; omega, fun h => by simp at h; omega⟩
theorem PutF.keep (h : PutF w0 iA iS ty zs cells b vs w) (hb : Below w.heap.size w w') (h1 : i ≠ iA) (h2 : i ≠ iS) : PutF w0 iA iS ty zs cells (Free.updb b i) (Free.updw vs i v) w' := by
  obtain ⟨k1, k2, k3⟩ := h
  refine ⟨k1.trans (hb.mono k1.size), ?_, ?_⟩
  · rw [Free.updb_ne (Ne.symm h1), Free.updb_ne (Ne.symm h2)]; exact k2
  · rw [Free.updb_ne (Ne.symm h1), Free.updb_ne (Ne.symm h2), Free.updw_ne (Ne.symm h1)]
    intro hA
    obtain ⟨blk, e1, e2, e3⟩ := k3 hA
    exact ⟨blk, e1, e2, e3.below hb e3.lt⟩
theorem PutF.alloc (h : PutF w0 iA iS ty zs cells b vs w) (hne : iS ≠ iA) (hbi : b iA = false) : PutF w0 iA iS ty zs cells (Free.updb b iA) (Free.updw vs iA (.pointer (some ⟨w.heap.size, 0, none⟩))) (w.alloc (.cells zs.toArray ty)) := by
  obtain ⟨k1, k2, k3⟩ := h
  have hS : b iS = false := by
    cases hb : b iS with
    | false => rfl
    | true => rw [k2 hb] at hbi; cases hbi
  refine ⟨k1.alloc k1.size _, fun _ => Free.updb_self, fun _ => ⟨w.heap.size, Free.updw_self, k1.size, ?_⟩⟩
  rw [Free.updb_ne hne, hS]
  exact Row.made w ty zs
theorem PutF.store (h : PutF w0 iA iS ty zs cells b vs w) (hne : iS ≠ iA) (hA : b iA = true) {blk : Nat} (hv : vs iA = .pointer (some ⟨blk, 0, none⟩)) (hle : w0.heap.size ≤ blk) (hr : Row w' blk ty cells) (hb : Below w0.heap.size w0 w') :
    PutF w0 iA iS ty zs cells (Free.updb b iS) (Free.updw vs iS v) w' := by
  refine ⟨hb, fun _ => ?_, fun _ => ⟨blk, ?_, hle, ?_⟩⟩
  · rw [Free.updb_ne (Ne.symm hne)]; exact hA
  · rw [Free.updw_ne (Ne.symm hne)]; exact hv
  · rw [Free.updb_self]; exact hr
theorem PutF.row (h : PutF w0 iA iS ty zs cells b vs w) (hA : b iA = true) (hbi : b iS = false) : ∃ blk, vs iA = .pointer (some ⟨blk, 0, none⟩) ∧ w0.heap.size ≤ blk ∧ Row w blk ty zs := by
  obtain ⟨blk, h1, h2, h3⟩ := h.2.2 hA
  rw [hbi] at h3
  exact ⟨blk, h1, h2, h3⟩
theorem PutF.done (h : PutF w0 iA iS ty zs cells (fun _ => true) vs w) : Below w0.heap.size w0 w ∧ ∃ blk, vs iA = .pointer (some ⟨blk, 0, none⟩) ∧ w0.heap.size ≤ blk ∧ Row w blk ty cells := by
  obtain ⟨blk, h1, h2, h3⟩ := h.2.2 rfl
  exact ⟨h.1, blk, h1, h2, h3⟩
end
end Go.Proofs.Ytdpadkellpkppaa
