/- Rows of records, sorted, with a hole, written to; of the call's own. -/
import Derived.Test.YtcdofkhkckodjaaVrAlike
namespace Go.Proofs.Ytcdofkhkckodjaa
namespace Vr
open Go.ChangeShapes Go.WideShapes Go.ChangeAt Go.RowKit Go.BigFrame
set_option linter.unusedVariables false
set_option maxRecDepth 100000
/-- what Add, Sorted answer: a row of the call's own -/
def AddD (l : List Rd) (w : World) (e : Ending) (w' : World) : Prop := (∃ v, e = .returned v ∧ w'.ownsRow w.heap.size 32 kindR.K v l.length (Rw.row kindR l)) ∧ Below w.heap.size w w'
theorem ins_sorted {s : List Rd} {x : Rd} {p : Nat} (hs : s.Pairwise Rd.Le) (h1 : ∀ q y, p = q + 1 → s[q]? = some y → y.Le x) (h2 : ∀ y ∈ s.drop p, ¬ y.Le x) (hp : p ≤ s.length) : s.take p ++ x :: s.drop p = sortR (s ++ [x]) := by
  have hpw : (s.take p ++ s.drop p).Pairwise Rd.Le := by rw [List.take_append_drop]; exact hs
  obtain ⟨p1, p2, p3⟩ := List.pairwise_append.1 hpw
  refine sortR_eq ?_ ?_
  · rw [List.pairwise_append, List.pairwise_cons]
    refine ⟨p1, ⟨fun y hy => Rd.Le_total (h2 y hy), p2⟩, fun a ha b hb => ?_⟩
    rcases List.mem_cons.1 hb with rfl | hb
    · cases p with
      | zero => simp at ha
      | succ q =>
        obtain ⟨y, hy⟩ : ∃ y, s[q]? = some y := ⟨_, List.getElem?_eq_getElem (by omega)⟩
        have hyx := h1 q y rfl hy
        rw [List.take_add_one, hy] at ha p1
        rcases List.mem_append.1 ha with ha | ha
        · exact Rd.Le_trans ((List.pairwise_append.1 p1).2.2 a ha y (by simp)) hyx
        · simp at ha; subst ha; exact hyx
    · exact p3 a ha b hb
  · have : (s.take p ++ s.drop p ++ [x]).Perm (s ++ [x]) := by rw [List.take_append_drop]
    refine List.Perm.trans ?_ this
    rw [List.append_assoc]
    exact List.Perm.append_left _ (List.perm_append_comm (l₁ := [x]) (l₂ := s.drop p))
/-- a hole at k, in the row s -/
def holeR (s : List Rd) (k : Nat) (z : Rd) : List Rd := s.take k ++ z :: s.drop k
theorem hole_len {s : List Rd} {k : Nat} {z : Rd} : (holeR s k z).length = s.length + 1 := by
  unfold holeR; rw [List.length_append, List.length_cons, List.length_take, List.length_drop]; omega
theorem hole_end (s : List Rd) (z : Rd) : holeR s s.length z = s ++ [z] := by unfold holeR; simp
theorem hole_at {s : List Rd} {k j : Nat} {z : Rd} (h : j < k) (hk : k ≤ s.length) : (holeR s k z)[j]? = s[j]? := by
  unfold holeR; rw [List.getElem?_append_left (by rw [List.length_take]; omega), List.getElem?_take, if_pos h]
theorem hole_set {s : List Rd} {k : Nat} {z y : Rd} (hk : k ≤ s.length) : (holeR s k z).set k y = holeR s k y := by
  unfold holeR
  rw [List.set_append_right _ _ (by rw [List.length_take]; omega), List.length_take, show k - min k s.length = 0 by omega]; rfl
theorem hole_down {s : List Rd} {k : Nat} {y : Rd} (h : s[k]? = some y) : holeR s (k + 1) y = holeR s k y := by
  have hk := (List.getElem?_eq_some_iff.1 h).1
  unfold holeR
  rw [List.take_add_one, h, List.append_assoc, List.drop_eq_getElem_cons hk]
  have : s[k] = y := (List.getElem?_eq_some_iff.1 h).2
  rw [this]; rfl
theorem row_setR (l : List Rd) (i : Nat) (r : Rd) : ((Rw.row kindR l).set (i * 2) (.int .i64 r.k)).set (i * 2 + 1) (.int .i64 r.v) = Rw.row kindR (l.set i r) := by
  induction l generalizing i with
  | nil => simp [Rw.row]
  | cons x l ih =>
    cases i with
    | zero => rw [List.set_cons_zero, Rw.row_cons, Rw.row_cons]; rfl
    | succ i =>
      rw [List.set_cons_succ, Rw.row_cons, Rw.row_cons, ← ih i]
      show ((kindR.cells x ++ _).set _ _).set _ _ = _
      rw [List.set_append_right _ _ (by show 2 ≤ (i + 1) * 2; omega), List.set_append_right _ _ (by show 2 ≤ (i + 1) * 2 + 1; omega)]
      rw [show (i + 1) * 2 - (kindR.cells x).length = i * 2 by show (i + 1) * 2 - 2 = i * 2; omega, show (i + 1) * 2 + 1 - (kindR.cells x).length = i * 2 + 1 by show (i + 1) * 2 + 1 - 2 = _; omega]
/-- a record stored into a row of the call's own -/
theorem own_putR {w : World} {base g n c : Nat} {l : List Rd} (h : w.ownsRow base 32 kindR.K (.slice (some ⟨g, 0, none⟩) n c) n (Rw.row kindR l)) (i : Nat) (r : Rd) :
    ((w.setCell ⟨g, i * 2, none⟩ (.int .i64 r.k)).setCell ⟨g, i * 2 + 1, none⟩ (.int .i64 r.v)).ownsRow base 32 kindR.K (.slice (some ⟨g, 0, none⟩) n c) n (Rw.row kindR (l.set i r)) := by
  rw [← row_setR]
  exact (h.stored (i * 2) _).1.stored (i * 2 + 1) _ |>.1
theorem own_pos {w : World} {base n K : Nat} {T : TypeId} {v : Value} {xs : List Value} (h : w.ownsRow base T K v n xs) (hn : 0 < n) : ∃ g c, v = .slice (some ⟨g, 0, none⟩) n c ∧ base ≤ g := by
  obtain ⟨_, ⟨_, h0⟩ | ⟨g, cap, cur, rfl, hb, _⟩⟩ := h
  · omega
  · exact ⟨g, cap, rfl, hb⟩
/-- the cells of one, of a row of the call's own; they may be written -/
theorem own_at {w : World} {base g n c : Nat} {l : List Rd} (h : w.ownsRow base 32 kindR.K (.slice (some ⟨g, 0, none⟩) n c) n (Rw.row kindR l)) {i : Nat} {r : Rd} (hi : l[i]? = some r) :
    w.cell? ⟨g, i * 2, none⟩ = some (.int .i64 r.k) ∧ w.cell? ⟨g, i * 2 + 1, none⟩ = some (.int .i64 r.v) ∧ w.frozen? ⟨g, i * 2, none⟩ = false ∧ w.frozen? ⟨g, i * 2 + 1, none⟩ = false := by
  have hl := h.1
  rw [Rw.row_len] at hl
  have hln : l.length = n := Nat.eq_of_mul_eq_mul_right kindR.pos hl
  have hlt := (List.getElem?_eq_some_iff.1 hi).1
  have h0 := Rw.row_at (κ := kindR) l i r hi 0 _ rfl
  have h1 := Rw.row_at (κ := kindR) l i r hi 1 _ rfl
  refine ⟨?_, ?_, h.frozenAt _, h.frozenAt _⟩
  · rw [h.cellAt _ (show i * 2 < n * 2 by omega)]; exact h0
  · rw [h.cellAt _ (show i * 2 + 1 < n * 2 by omega)]; exact h1
end Vr
end Go.Proofs.Ytcdofkhkckodjaa
