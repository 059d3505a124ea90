/- Parts of a block: loaded whole, built of parts, boxed; each as one operation of a region whose order is open. -/
import Derived.Test.YtcdofkhkckodjaaStage
import Derived.Test.YtcdofkhkckodjaaMem
import Derived.Laws.CopyOwn
import Derived.Laws.Tables
namespace Go.Proofs.Ytcdofkhkckodjaa
open Go.RowKit

theorem splice_cons {α : Type} (L : List α) (o : Nat) (x : α) (l : List α) (h : o + (l.length + 1) ≤ L.length) : splice (L.set o x) (o + 1) l = splice L o (x :: l) := by
  unfold splice
  rw [List.take_set, List.drop_set_of_lt (by omega), List.length_cons, show o + 1 + l.length = o + (l.length + 1) by omega]
  rw [List.take_succ_eq_append_getElem (by omega), List.set_append_right (h := by simp; omega)]
  simp [show o - min o L.length = 0 by omega]
theorem foldl_cells (vs : List Value) : ∀ (k off : Nat) (cs : Array Value), off + k + vs.length ≤ cs.size →
    ((vs.zipIdx k).foldl (fun cs (x : Value × Nat) => cs.setIfInBounds (off + x.2) x.1) cs).toList = splice cs.toList (off + k) vs := by
  induction vs with
  | nil => intro k off cs h; simp [splice]
  | cons v vs ih =>
    intro k off cs h
    simp only [List.length_cons] at h
    rw [List.zipIdx_cons, List.foldl_cons, ih (k + 1) off _ (by simp; omega), Array.toList_setIfInBounds]
    exact splice_cons cs.toList (off + k) v vs (by simp; omega)
theorem fill_step (place : Nat → Option (Nat × Nat)) (cells : Array Value) (i : Nat) (v : Value) (rest : List (Nat × Value)) (off size : Nat) (hp : place i = some (off, size)) (hs : v.cells.size = size) (hf : off + size ≤ cells.size) :
    Instr.fill place cells ((i, v) :: rest) = Instr.fill place (splice cells.toList off v.cells.toList).toArray rest := by
  rw [Instr.fill, hp]
  simp only
  rw [if_neg (by simp [hs]; omega)]
  congr 1
  apply Array.ext'
  have := foldl_cells v.cells.toList 0 off cells (by simp [hs]; omega)
  simp only [Nat.add_zero] at this
  rw [← this, show v.cells.toList.zipIdx = v.cells.zipIdx.toList by simp, Array.foldl_toList]

theorem add_at (g off j : Nat) : (⟨g, off, none⟩ : Addr).add j = ⟨g, off + j, none⟩ := by
  cases j with
  | zero => rfl
  | succ j => simp [Addr.add]
section
variable {P : Program} {C : World → Prop} {w : World} {o : Oper} {a : Act}
theorem run_load_part (g off n : Nat) (ty : TypeId) (d : TypeDesc) (cs : List Value) (hc : ∀ j v, cs[j]? = some v → w.cell? ((⟨g, off, none⟩ : Addr).add j) = some v)
    (hu : P.underlying ty = some d) (hd : (match d with | .struct _ | .array _ _ => true | _ => false) = true) (hi : (P.info? ty).map (·.size) = some cs.length) :
    (loadVar ty ⟨g, off, none⟩).run P w = .ok (.agg cs.toArray) w := by
  have hl : (loadCells ⟨g, off, none⟩ cs.length).run P w = .ok cs.toArray w := run_loadCells_list (P := P) w ⟨g, off, none⟩ cs hc
  cases hq : P.info? ty with
  | none => simp [hq] at hi
  | some i =>
    have hs : i.size = cs.length := by simpa [hq] using hi
    have hagg : (isAgg ty).run P w = .ok true w := by
      unfold isAgg
      rw [Sem.run_bind, run_underlying hu w]
      cases d <;> simp_all
    simp [loadVar, Sem.run_bind, hagg, sizeOf, typeInfo, hq, hs, hl]
theorem run_loadAt_part (g off : Nat) (ty : TypeId) (d : TypeDesc) (cs : List Value) (hc : ∀ j v, cs[j]? = some v → w.cell? ((⟨g, off, none⟩ : Addr).add j) = some v)
    (hu : P.underlying ty = some d) (hd : (match d with | .struct _ | .array _ _ => true | _ => false) = true) (hi : (P.info? ty).map (·.size) = some cs.length) :
    (Instr.loadAt ty (.pointer (some ⟨g, off, none⟩))).run P w = .ok (.agg cs.toArray) w := by
  simp only [Instr.loadAt, Instr.sureAddr, Sem.run_bind, Sem.run_pure, Result.andThen_ok, run_load_part g off cs.length ty d cs hc hu hd hi]
theorem at_load_part (ty : TypeId) (x : Operand) (ho : o.op = .load ty x) (g off : Nat) (hx : a.eval x = .pointer (some ⟨g, off, none⟩)) (d : TypeDesc) (cs : List Value)
    (hc : ∀ j v, cs[j]? = some v → w.cell? ((⟨g, off, none⟩ : Addr).add j) = some v)
    (hu : P.underlying ty = some d) (hd : (match d with | .struct _ | .array _ _ => true | _ => false) = true) (hi : (P.info? ty).map (·.size) = some cs.length) (h : C w) : Stage.at_ P o a C w (.agg cs.toArray) := by
  unfold Stage.at_ execOp
  simp only [ho, hx, Instr.loadAt, Instr.sureAddr, Sem.run_bind, Sem.run_pure, Result.andThen_ok, run_load_part g off cs.length ty d cs hc hu hd hi, Stage.upon]
  exact ⟨trivial, h⟩
theorem at_build (t : TypeId) (parts : Array (Nat × Operand)) (ho : o.op = .build t parts) (cells : Array Value) (vs : List (Nat × Value)) (hv : (parts.toList.map fun (i, x) => (i, a.eval x)) = vs) (hb : P.built t vs = some cells) (h : C w) : Stage.at_ P o a C w (.agg cells) := by
  subst hv
  have hr := run_build (P := P) w t (parts.map fun (i, x) => (i, a.eval x)) cells (by rw [Array.toList_map]; exact hb)
  unfold Stage.at_ execOp
  simp only [ho, Sem.run_bind, hr, Result.andThen_ok, Sem.run_pure, Stage.upon]
  exact ⟨trivial, h⟩
theorem at_box (t : TypeId) (x : Operand) (ho : o.op = .box t x) (cells : Array Value) (hx : (a.eval x).cells = cells) (n : Nat) (hn : w.heap.size = n) (h : C (w.alloc (.cells cells t))) : Stage.at_ P o a C w (.pointer (some ⟨n, 0, none⟩)) := by
  subst hn
  unfold Stage.at_ execOp
  simp only [ho]
  have hr : (Instr.box t (a.eval x)).run P w = .ok (.pointer (some ⟨w.heap.size, 0, none⟩)) (w.alloc (.cells cells t)) := by
    rw [← hx]
    simp [Instr.box, newVar, newRow, newObj, Sem.run_bind]
    rfl
  simp only [Sem.run_bind, hr, Result.andThen_ok, Sem.run_pure, Stage.upon]
  exact ⟨trivial, h⟩
end
end Go.Proofs.Ytcdofkhkckodjaa
