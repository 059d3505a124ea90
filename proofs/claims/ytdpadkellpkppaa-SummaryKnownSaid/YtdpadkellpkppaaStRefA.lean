/- StRef, StRefYes -/
import Derived.Test.YtdpadkellpkppaaStEq
import Derived.Laws.Rows
namespace Go.Proofs.Ytdpadkellpkppaa
set_option linter.unusedVariables false
section
open Go.ChangeShapes Go.WideShapes Go.ChangeAt Go.RowKit Go.BigFrame
set_option maxRecDepth 100000
/-- of two numbers the greater, or the less -/
def pk (g : Bool) (m n : Int) : Int := if g then max m n else min m n
def St.pick (g : Bool) (a b : St) : St := if a.B b then ⟨a.d, pk g a.e b.e, pk g a.x b.x, pk g a.y b.y, pk g a.z b.z⟩ else St.zero
theorem pick_join (a b : St) : St.pick true a b = a.join b := by unfold St.pick St.join pk; rfl
theorem pick_meet (a b : St) : St.pick false a b = a.meet b := by unfold St.pick St.meet pk; rfl
section
variable {W : World} {g : Nat} {t : St}
theorem Holds.set (h : Holds W g t) (j : Nat) (v : Int) {t' : St} (ht : t.cells.set j (.int .i64 v) = t'.cells) : Holds (W.setCell ⟨g, j, none⟩ (.int .i64 v)) g t' := by
  have := Row.put h j (.int .i64 v)
  rw [ht] at this; exact this
theorem Holds.far {p : Addr} (h : Holds W g t) (hp : g ≠ p.block) (u : Value) : Holds (W.setCell p u) g t := Row.far h hp u
theorem Holds.all (h : Holds W g t) (a b c d e : Int) : Holds (((((W.setCell ⟨g, 0, none⟩ (.int .i64 a)).setCell ⟨g, 1, none⟩ (.int .i64 b)).setCell ⟨g, 2, none⟩ (.int .i64 c)).setCell ⟨g, 3, none⟩ (.int .i64 d)).setCell ⟨g, 4, none⟩ (.int .i64 e)) g ⟨a, b, c, d, e⟩ :=
  ((((Row.put h 0 (.int .i64 a)).put 1 (.int .i64 b)).put 2 (.int .i64 c)).put 3 (.int .i64 d)).put 4 (.int .i64 e)
theorem Holds.cells5 (h : Holds W g t) : W.cell? ⟨g, 0, none⟩ = some (.int .i64 t.d) ∧ W.cell? ⟨g, 1, none⟩ = some (.int .i64 t.e) ∧ W.cell? ⟨g, 2, none⟩ = some (.int .i64 t.x) ∧ W.cell? ⟨g, 3, none⟩ = some (.int .i64 t.y) ∧ W.cell? ⟨g, 4, none⟩ = some (.int .i64 t.z) :=
  ⟨h.at_ 0, h.at_ 1, h.at_ 2, h.at_ 3, h.at_ 4⟩
theorem Holds.free5 (h : Holds W g t) : W.frozen? ⟨g, 0, none⟩ = false ∧ W.frozen? ⟨g, 1, none⟩ = false ∧ W.frozen? ⟨g, 2, none⟩ = false ∧ W.frozen? ⟨g, 3, none⟩ = false ∧ W.frozen? ⟨g, 4, none⟩ = false :=
  ⟨Row.free h 0, Row.free h 1, Row.free h 2, Row.free h 3, Row.free h 4⟩
end
theorem pk_new {g : Bool} {m n : Int} (h : (decide (m < n) == g) = true) : pk g m n = n := by
  unfold pk
  cases g
  · simp at h; simp; omega
  · simp at h; simp; omega
theorem pk_old {g : Bool} {m n : Int} (h : (decide (m < n) == g) = false) : pk g m n = m := by
  unfold pk
  cases g
  · simp at h; simp; omega
  · simp at h; simp; omega
theorem right_is {f : FuncId} {t : St} {b : Bool} (hb : decide t.R = b) (h : ∀ w, Calls Try.prog f #[t.val] w fun e w' => e = .returned (.bool (decide t.R)) ∧ Below w.heap.size w w') : ∀ w, Calls Try.prog f #[t.val] w fun e w' => e = .returned (.bool b) ∧ Below w.heap.size w w' := by
  subst hb; exact h
theorem zero_made (w : World) : Holds (w.alloc (.cells #[.int .i64 0, .int .i64 0, .int .i64 0, .int .i64 0, .int .i64 0] 26)) w.heap.size St.zero := Holds.made w St.zero
theorem two_results {P : Program} {fn : Func} {p q : Tmp} {ty : TypeId} {v : Value} (h : fn.results = #[.cell p ty, .tmp q]) (tmps : Array Value) (w : World) (g : Nat) (t : TypeId) (cs : Array Value) (fr : Nat × Nat) (d : TypeDesc)
    (hp : tmps.getD p undef = .pointer (some ⟨g, 0, none⟩)) (hg : w.heap[g]? = some (.cells cs t fr))
    (hu : P.underlying ty = some d) (hd : (match d with | .struct _ | .array _ _ => true | _ => false) = true) (hi : (P.info? ty).map (·.size) = some cs.size) (hq : tmps.getD q undef = v) :
    (results fn tmps).run P w = .ok (.tuple #[.agg cs, v]) w := by
  have hp' : tmps[p]?.getD undef = .pointer (some ⟨g, 0, none⟩) := by simpa using hp
  have hq' : tmps[q]?.getD undef = v := by simpa using hq
  simp [results, h, hp', hq', asAddr, run_loadVar_row w g t ty cs fr d hg hu hd hi]
theorem below3 {w w' : World} {a b c : Obj} (h : Below (((w.alloc a).alloc b).alloc c).heap.size (((w.alloc a).alloc b).alloc c) w') : Below w.heap.size w w' :=
  ((((Below.refl _ _).alloc (Nat.le_refl _) _).alloc (by simp) _).alloc (by simp; omega) _).trans (h.mono (by simp; omega))
theorem below_set5 {w w' : World} {g : Nat} {p q r s t : Value} (h : Below w.heap.size w w') (hg : w.heap.size ≤ g) :
    Below w.heap.size w (((((w'.setCell ⟨g, 0, none⟩ p).setCell ⟨g, 1, none⟩ q).setCell ⟨g, 2, none⟩ r).setCell ⟨g, 3, none⟩ s).setCell ⟨g, 4, none⟩ t) :=
  ((((h.setCell hg _).setCell hg _).setCell hg _).setCell hg _).setCell hg _
end

section
open Go.ChangeShapes Go.WideShapes Go.ChangeAt Go.RowKit Go.BigFrame
set_option maxRecDepth 100000
/-- the time so far -/
def St.sofar (g : Bool) (a b : St) (k : Nat) : St := ⟨a.d, pk g a.e b.e, if 0 < k then pk g a.x b.x else a.x, if 1 < k then pk g a.y b.y else a.y, if 2 < k then pk g a.z b.z else a.z⟩
theorem sofar_3 (g : Bool) (a b : St) (h : a.B b) : St.sofar g a b 3 = St.pick g a b := by unfold St.pick; rw [if_pos h]; rfl
theorem same_holds {w : World} {g : Nat} {t t' : St} (h : Holds w g t) (e : t = t') : Holds w g t' := e ▸ h
end
end Go.Proofs.Ytdpadkellpkppaa
