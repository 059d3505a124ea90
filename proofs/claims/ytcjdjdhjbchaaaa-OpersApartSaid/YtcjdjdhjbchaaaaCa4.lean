/- VrCmp, VrAlike, VrRefMath, VrBytes, VrPut, VrRefPut -/
import Derived.Test.YtcjdjdhjbchaaaaCa3
import Derived.Laws.StructEq
import Derived.Test.YtcjdjdhjbchaaaaCa2
import Derived.BigRegion
import Derived.RegionTactic
import Derived.ChangeAlike
import Derived.Deep.RegionWith
import Derived.IntWalk
import Derived.Deep.DeepCutAuto
import Derived.Deep.CutRange
namespace Go.Proofs.Ytcjdjdhjbchaaaa
set_option linter.unusedVariables false
section
namespace Vr
open Go.ChangeShapes Go.WideShapes Go.ChangeAt Go.RowKit Go.BigFrame
set_option maxRecDepth 100000
theorem run_eqR (a b : Rd) (w : World) : (Op.equalIn 10000 36 (.agg #[.int .i64 a.k, .int .i64 a.v]) (.agg #[.int .i64 b.k, .int .i64 b.v])).run Try.prog w = .ok (decide (a = b)) w := by
  have h := run_equalIn_agg (P := Try.prog) w 9999 36 #[.int .i64 a.k, .int .i64 a.v] #[.int .i64 b.k, .int .i64 b.v] (by kernel_rfl) (by kernel_rfl)
  have e1 := fun a b w => run_equalIn_int (P := Try.prog) w 9998 2 .i64 .i64 a b Try.underlying2
  have hi : ∀ w, (isAgg 2).run Try.prog w = .ok false w := fun w => by go_simp
  have hd : decide (a = b) = (decide (a.k = b.k) && decide (a.v = b.v)) := by
    rw [Bool.eq_iff_iff]; simp [Rd.ext_iff']
  rw [h, hd]
  obtain ⟨fs, hfs⟩ : ∃ fs, (Try.prog.fieldsOf 36).toList = fs := ⟨_, rfl⟩
  rw [hfs]
  have hu := Try.underlying36
  simp only [Program.fieldsOf, hu] at hfs
  subst hfs
  simp [Op.eqFields, part, hi, e1, Sem.run_bind, go_sem]
  by_cases h0 : a.k = b.k <;> by_cases h1 : a.v = b.v <;> simp [h0, h1]
section
variable {P : Program} {C : World → Prop} {K : Act → Prop} {a : Act} {o : Oper} {ops : Array Oper}
theorem q_load {v p : Value} (t : TypeId) (x : Operand) (ho : o.op = .load t x) (hw : Region.wanted o (yielded ops a.tmps) = true) (hx : a.eval x = p) (hr : ∀ w', C w' → (Instr.loadAt t p).run P w' = .ok v w') (hk : K (a.put o.dst v)) :
    if Region.wanted o (yielded ops a.tmps) then o.quiet P a C K else K (a.put o.dst undef) := by
  rw [if_pos hw]
  refine ⟨v, fun w' hw' => ?_, hk⟩
  unfold Oper.quietAt execOp
  simp only [ho, hx, Sem.run_bind, hr w' hw', Result.andThen_ok, Sem.run_pure, Oper.quietUpon]
  exact ⟨trivial, trivial⟩
theorem q_bin {v p q : Value} (op : BinOp) (t u : TypeId) (x y : Operand) (ho : o.op = .binOp op t x y u) (hw : Region.wanted o (yielded ops a.tmps) = true) (hx : a.eval x = p) (hy : a.eval y = q)
    (hr : ∀ w', (do eqGuard op t x y p q; binOp op t p q : Sem Value).run P w' = .ok v w') (hk : K (a.put o.dst v)) :
    if Region.wanted o (yielded ops a.tmps) then o.quiet P a C K else K (a.put o.dst undef) := by
  rw [if_pos hw]
  refine ⟨v, fun w' hw' => ?_, hk⟩
  unfold Oper.quietAt execOp
  simp only [ho, hx, hy]
  rw [Sem.run_bind, hr w']
  simp only [Result.andThen_ok, Sem.run_pure, Oper.quietUpon]
  exact ⟨trivial, trivial⟩
end
def eqB (a b : Rd) : Bool := decide (a = b)
theorem eqB_yes {a b : Rd} (h : a = b) : eqB a b = true := decide_eq_true h
theorem eqB_no {a b : Rd} (h : ¬ a = b) : eqB a b = false := decide_eq_false h
/-- two records compared as values: one bool -/
theorem eq_r (x y : Operand) (a b : Rd) : ∀ w, (do eqGuard .eql 36 x y (.agg #[.int .i64 a.k, .int .i64 a.v]) (.agg #[.int .i64 b.k, .int .i64 b.v]); binOp .eql 36 (.agg #[.int .i64 a.k, .int .i64 a.v]) (.agg #[.int .i64 b.k, .int .i64 b.v]) : Sem Value).run Try.prog w = .ok (.bool (eqB a b)) w := by
  intro w
  rw [Sem.run_bind, run_eqGuard_agg w _ _ _ _ _ _ (by kernel_rfl), Result.andThen_ok, run_eql_struct, run_eqR]
  rfl
theorem ne_r (x y : Operand) (a b : Rd) : ∀ w, (do eqGuard .neq 36 x y (.agg #[.int .i64 a.k, .int .i64 a.v]) (.agg #[.int .i64 b.k, .int .i64 b.v]); binOp .neq 36 (.agg #[.int .i64 a.k, .int .i64 a.v]) (.agg #[.int .i64 b.k, .int .i64 b.v]) : Sem Value).run Try.prog w = .ok (.bool (!eqB a b)) w := by
  intro w
  rw [Sem.run_bind, run_eqGuard_agg w _ _ _ _ _ _ (by kernel_rfl), Result.andThen_ok, run_neq_struct, run_eqR]
  rfl
/-- a record loaded from a row, in each later world -/
theorem load_r {w : World} {A : Option Addr} {ts : List Rd} (h : Rw.Ts kindR w A ts) {i : Nat} {t : Rd} (hi : ts[i]? = some t) : ∃ b o, A = some ⟨b, o, none⟩ ∧ b < w.heap.size ∧
    ∀ w', Below w.heap.size w w' → (Instr.loadAt 36 (.pointer (some ⟨b, o + i * 2, none⟩))).run Try.prog w' = .ok (.agg #[.int .i64 t.k, .int .i64 t.v]) w' := by
  obtain ⟨b, o, e, hlt, hc⟩ := h.at_ hi
  exact ⟨b, o, e, hlt, fun w' hb => run_loadAt_part b (o + i * 2) 36 _ t.cells (fun j v hj => by rw [add_at]; exact hc w' hb j v hj) Try.underlying36 rfl (by kernel_rfl)⟩
theorem retI {a b : Int} (h : a = b) : Ending.returned (.int .i64 a) = .returned (.int .i64 b) := by rw [h]
theorem retb {a b : Bool} (h : a = b) : Ending.returned (.bool a) = .returned (.bool b) := by rw [h]
set_option maxHeartbeats 1000000 in
theorem refCompare_any (a b : Rd) (w : World) : Calls Try.prog 63 #[a.val, b.val] w fun e w' => e = .returned (.int .i64 (a.C b)) ∧ Below w.heap.size w w' := by
  have he := run_eqR a b
  by_cases h1 : a.k < b.k
  · have hC : a.C b = -1 := by unfold Rd.C; rw [if_pos (.inl h1)]
    rw [hC]; clear hC he
    have d1 : decide (a.k < b.k) = true := by simpa using h1
    go_enter Try.func63, Try.ntmps63
    go_wp2_with fail
    go_ret
    exact ⟨rfl, ((Below.refl _ w).alloc (Nat.le_refl _) _).alloc (by simp) _⟩
  · have d1 : decide (a.k < b.k) = false := by simpa using h1
    by_cases h2 : a.k = b.k
    · have d2 : (a.k == b.k) = true := by simpa using h2
      by_cases h3 : a.v < b.v
      · have hC : a.C b = -1 := by unfold Rd.C; rw [if_pos (.inr ⟨h2, h3⟩)]
        rw [hC]; clear hC he
        have d3 : decide (a.v < b.v) = true := by simpa using h3
        have H2 := Lib.hid h2; clear h2
        go_enter Try.func63, Try.ntmps63
        go_wp2_with fail
        go_ret
        exact ⟨rfl, ((Below.refl _ w).alloc (Nat.le_refl _) _).alloc (by simp) _⟩
      · have d3 : decide (a.v < b.v) = false := by simpa using h3
        by_cases h4 : a = b
        · have hC : a.C b = 0 := Rd.C_zero.2 h4
          have he' : ∀ w, (Op.equalIn 10000 36 (.agg #[.int .i64 a.k, .int .i64 a.v]) (.agg #[.int .i64 b.k, .int .i64 b.v])).run Try.prog w = .ok true w := fun w => by rw [he, decide_eq_true h4]
          rw [hC]
          have H2 := Lib.hid h2; have H4 := Lib.hid h4; clear h2 h4 hC he
          go_enter Try.func63, Try.ntmps63
          go_wp2_with fail
          go_ret
          exact ⟨rfl, ((Below.refl _ w).alloc (Nat.le_refl _) _).alloc (by simp) _⟩
        · have hC : a.C b = 1 := by unfold Rd.C; rw [if_neg (by omega), if_neg h4]
          have he' : ∀ w, (Op.equalIn 10000 36 (.agg #[.int .i64 a.k, .int .i64 a.v]) (.agg #[.int .i64 b.k, .int .i64 b.v])).run Try.prog w = .ok false w := fun w => by rw [he, decide_eq_false h4]
          rw [hC]
          have H2 := Lib.hid h2; have H4 := Lib.hid h4; clear h2 h4 hC he
          go_enter Try.func63, Try.ntmps63
          go_wp2_with fail
          go_ret
          exact ⟨rfl, ((Below.refl _ w).alloc (Nat.le_refl _) _).alloc (by simp) _⟩
    · have d2 : (a.k == b.k) = false := by simpa using h2
      have h4 : ¬ a = b := fun e => h2 (by rw [e])
      have hC : a.C b = 1 := by unfold Rd.C; rw [if_neg (by omega), if_neg h4]
      have he' : ∀ w, (Op.equalIn 10000 36 (.agg #[.int .i64 a.k, .int .i64 a.v]) (.agg #[.int .i64 b.k, .int .i64 b.v])).run Try.prog w = .ok false w := fun w => by rw [he, decide_eq_false h4]
      rw [hC]
      have H2 := Lib.hid h2; have H4 := Lib.hid h4; clear h2 h4 hC he
      go_enter Try.func63, Try.ntmps63
      go_wp2_with fail
      go_ret
      exact ⟨rfl, ((Below.refl _ w).alloc (Nat.le_refl _) _).alloc (by simp) _⟩
end Vr
end

section
namespace Vr
open Go.ChangeShapes Go.WideShapes Go.ChangeAt Go.RowKit Go.BigFrame
set_option maxRecDepth 100000
/-- are two rows one? -/
def sameR (l m : List Rd) : Bool := decide (l = m)
theorem sameR_yes {l m : List Rd} (h : l = m) : true = sameR l m := (decide_eq_true h).symm
theorem sameR_no {l m : List Rd} (h : l ≠ m) : false = sameR l m := (decide_eq_false h).symm
theorem sameR_self (l : List Rd) : sameR l l = true := decide_eq_true rfl
theorem sameR_iff {l m : List Rd} : sameR l m = true ↔ l = m := decide_eq_true_iff
set_option maxHeartbeats 2000000 in
theorem alike_any (A B : Option Addr) (l m : List Rd) (c d : Nat) (w : World) (hA : Rw.Ts kindR w A l) (hB : Rw.Ts kindR w B m) (hl : l.length ≤ 1000000) (hm : m.length ≤ 1000000) :
    Calls Try.prog 16 #[.slice A l.length c, .slice B m.length d] w fun e w' => e = .returned (.bool (sameR l m)) ∧ Below w.heap.size w w' := by
  have HA := Lib.hid hA; have HB := Lib.hid hB; clear hA hB
  by_cases hlm : l.length = m.length
  · have hz : ((l.length : Int) != (m.length : Int)) = false := by simp; omega
    have HLM := Lib.hid hlm
    go_enter Try.func16, Try.ntmps16
    go_wp2_with fail
    go_loopw [5] (fun i wr => ∃ k : Nat, k ≤ l.length ∧ i = .int .i64 k ∧ Below w.heap.size w wr ∧ l.take k = m.take k) (fun i _ => l.length - (intOf i).toNat)
    case atStart => exact ⟨0, by omega, rfl, Below.refl _ _, rfl⟩
    case round =>
      obtain ⟨k, hk, rfl, hb, hall⟩ := hrel
      have HE := Lib.hid hall; have HBW := Lib.hid hb; clear hall hb hz
      by_cases hlt : k < l.length
      · have hltz : (k : Int) < (l.length : Int) := by omega
        have hltm : (k : Int) < (m.length : Int) := by omega
        obtain ⟨x, hx⟩ : ∃ x, l[k]? = some x := ⟨_, List.getElem?_eq_getElem hlt⟩
        obtain ⟨y, hy⟩ : ∃ y, m[k]? = some y := ⟨_, List.getElem?_eq_getElem (by omega)⟩
        obtain ⟨b, o, rfl, hbl, hcl⟩ := recs_at HA.out hx
        obtain ⟨b', o', rfl, hbl', hcl'⟩ := recs_at HB.out hy
        obtain ⟨c0, c1⟩ := hcl wr HBW.out
        obtain ⟨d0, d1⟩ := hcl' wr HBW.out
        have he := run_eqR x y
        have HX := Lib.hid hx; have HY := Lib.hid hy; clear hx hcl hy hcl' hlm
        by_cases hxy : x = y
        · have he' : ∀ w, (Op.equalIn 10000 36 (.agg #[.int .i64 x.k, .int .i64 x.v]) (.agg #[.int .i64 y.k, .int .i64 y.v])).run Try.prog w = .ok true w := fun w => by rw [he, decide_eq_true hxy]
          have HXY := Lib.hid hxy; clear he hxy
          go_wp2_with fail
          go_region
          go_wp2_with fail
          go_roundw
          case rel => exact ⟨k + 1, by omega, by simp, HBW.out.drew, by rw [List.take_add_one, List.take_add_one, HX.out, HY.out, HE.out, HXY.out]⟩
          case measure => simp only [intOf]; omega
        · have he' : ∀ w, (Op.equalIn 10000 36 (.agg #[.int .i64 x.k, .int .i64 x.v]) (.agg #[.int .i64 y.k, .int .i64 y.v])).run Try.prog w = .ok false w := fun w => by rw [he, decide_eq_false hxy]
          have HXY := Lib.hid hxy; clear he hxy
          go_wp2_with fail
          go_region
          go_wp2_with fail
          go_ret
          exact ⟨retb (sameR_no fun e => by have h := HX.out; rw [e, HY.out] at h; exact HXY.out (Option.some.inj h).symm), HBW.out.drew⟩
      · have hltz : ¬ (k : Int) < (l.length : Int) := by omega
        have hkl : k = l.length := by omega
        subst hkl
        have HR : Hid (true = sameR l m) := Lib.hid (sameR_yes (by have h := HE.out; rw [List.take_length, List.take_of_length_le (by omega)] at h; exact h))
        clear hlm
        go_wp2_with fail
        go_ret
        exact ⟨retb HR.out, HBW.out⟩
  · have hz : ((l.length : Int) != (m.length : Int)) = true := by simp; omega
    have HLM := Lib.hid hlm; clear hlm
    go_enter Try.func16, Try.ntmps16
    go_wp2_with fail
    go_ret
    exact ⟨retb (sameR_no fun e => HLM.out (by rw [e])), Below.refl _ _⟩
end Vr
end

section
namespace Vr
open Go.ChangeShapes Go.WideShapes Go.ChangeAt Go.RowKit Go.BigFrame
set_option maxRecDepth 100000
/-- what Add, Sorted answer: a row of the call's own -/
def AddD (l : List Rd) (w : World) (e : Ending) (w' : World) : Prop := (∃ v, e = .returned v ∧ w'.ownsRow w.heap.size 36 kindR.K v l.length (Rw.row kindR l)) ∧ Below w.heap.size w w'
theorem ins_sorted {s : List Rd} {x : Rd} {p : Nat} (hs : s.Pairwise Rd.Le) (h1 : ∀ q y, p = q + 1 → s[q]? = some y → y.Le x) (h2 : ∀ y ∈ s.drop p, ¬ y.Le x) (hp : p ≤ s.length) : s.take p ++ x :: s.drop p = sortR (s ++ [x]) := by
  have hpw : (s.take p ++ s.drop p).Pairwise Rd.Le := by rw [List.take_append_drop]; exact hs
  obtain ⟨p1, p2, p3⟩ := List.pairwise_append.1 hpw
  refine sortR_eq ?_ ?_
  · rw [List.pairwise_append, List.pairwise_cons]
    refine ⟨p1, ⟨fun y hy => Rd.Le_total (h2 y hy), p2⟩, fun a ha b hb => ?_⟩
    rcases List.mem_cons.1 hb with rfl | hb
    · cases p with
      | zero => simp at ha
      | succ q =>
        obtain ⟨y, hy⟩ : ∃ y, s[q]? = some y := ⟨_, List.getElem?_eq_getElem (by omega)⟩
        have hyx := h1 q y rfl hy
        rw [List.take_add_one, hy] at ha p1
        rcases List.mem_append.1 ha with ha | ha
        · exact Rd.Le_trans ((List.pairwise_append.1 p1).2.2 a ha y (by simp)) hyx
        · simp at ha; subst ha; exact hyx
    · exact p3 a ha b hb
  · have : (s.take p ++ s.drop p ++ [x]).Perm (s ++ [x]) := by rw [List.take_append_drop]
    refine List.Perm.trans ?_ this
    rw [List.append_assoc]
    exact List.Perm.append_left _ (List.perm_append_comm (l₁ := [x]) (l₂ := s.drop p))
/-- a hole at k, in the row s -/
def holeR (s : List Rd) (k : Nat) (z : Rd) : List Rd := s.take k ++ z :: s.drop k
theorem hole_len {s : List Rd} {k : Nat} {z : Rd} : (holeR s k z).length = s.length + 1 := by
  unfold holeR; rw [List.length_append, List.length_cons, List.length_take, List.length_drop]; omega
theorem hole_end (s : List Rd) (z : Rd) : holeR s s.length z = s ++ [z] := by unfold holeR; simp
theorem hole_at {s : List Rd} {k j : Nat} {z : Rd} (h : j < k) (hk : k ≤ s.length) : (holeR s k z)[j]? = s[j]? := by
  unfold holeR; rw [List.getElem?_append_left (by rw [List.length_take]; omega), List.getElem?_take, if_pos h]
theorem hole_set {s : List Rd} {k : Nat} {z y : Rd} (hk : k ≤ s.length) : (holeR s k z).set k y = holeR s k y := by
  unfold holeR
  rw [List.set_append_right _ _ (by rw [List.length_take]; omega), List.length_take, show k - min k s.length = 0 by omega]; rfl
theorem hole_down {s : List Rd} {k : Nat} {y : Rd} (h : s[k]? = some y) : holeR s (k + 1) y = holeR s k y := by
  have hk := (List.getElem?_eq_some_iff.1 h).1
  unfold holeR
  rw [List.take_add_one, h, List.append_assoc, List.drop_eq_getElem_cons hk]
  have : s[k] = y := (List.getElem?_eq_some_iff.1 h).2
  rw [this]; rfl
theorem row_setR (l : List Rd) (i : Nat) (r : Rd) : ((Rw.row kindR l).set (i * 2) (.int .i64 r.k)).set (i * 2 + 1) (.int .i64 r.v) = Rw.row kindR (l.set i r) := by
  induction l generalizing i with
  | nil => simp [Rw.row]
  | cons x l ih =>
    cases i with
    | zero => rw [List.set_cons_zero, Rw.row_cons, Rw.row_cons]; rfl
    | succ i =>
      rw [List.set_cons_succ, Rw.row_cons, Rw.row_cons, ← ih i]
      show ((kindR.cells x ++ _).set _ _).set _ _ = _
      rw [List.set_append_right _ _ (by show 2 ≤ (i + 1) * 2; omega), List.set_append_right _ _ (by show 2 ≤ (i + 1) * 2 + 1; omega)]
      rw [show (i + 1) * 2 - (kindR.cells x).length = i * 2 by show (i + 1) * 2 - 2 = i * 2; omega, show (i + 1) * 2 + 1 - (kindR.cells x).length = i * 2 + 1 by show (i + 1) * 2 + 1 - 2 = _; omega]
/-- a record stored into a row of the call's own -/
theorem own_putR {w : World} {base g n c : Nat} {l : List Rd} (h : w.ownsRow base 36 kindR.K (.slice (some ⟨g, 0, none⟩) n c) n (Rw.row kindR l)) (i : Nat) (r : Rd) :
    ((w.setCell ⟨g, i * 2, none⟩ (.int .i64 r.k)).setCell ⟨g, i * 2 + 1, none⟩ (.int .i64 r.v)).ownsRow base 36 kindR.K (.slice (some ⟨g, 0, none⟩) n c) n (Rw.row kindR (l.set i r)) := by
  rw [← row_setR]
  exact (h.stored (i * 2) _).1.stored (i * 2 + 1) _ |>.1
theorem own_pos {w : World} {base n K : Nat} {T : TypeId} {v : Value} {xs : List Value} (h : w.ownsRow base T K v n xs) (hn : 0 < n) : ∃ g c, v = .slice (some ⟨g, 0, none⟩) n c ∧ base ≤ g := by
  obtain ⟨_, ⟨_, h0⟩ | ⟨g, cap, cur, rfl, hb, _⟩⟩ := h
  · omega
  · exact ⟨g, cap, rfl, hb⟩
/-- the cells of one, of a row of the call's own; they may be written -/
theorem own_at {w : World} {base g n c : Nat} {l : List Rd} (h : w.ownsRow base 36 kindR.K (.slice (some ⟨g, 0, none⟩) n c) n (Rw.row kindR l)) {i : Nat} {r : Rd} (hi : l[i]? = some r) :
    w.cell? ⟨g, i * 2, none⟩ = some (.int .i64 r.k) ∧ w.cell? ⟨g, i * 2 + 1, none⟩ = some (.int .i64 r.v) ∧ w.frozen? ⟨g, i * 2, none⟩ = false ∧ w.frozen? ⟨g, i * 2 + 1, none⟩ = false := by
  have hl := h.1
  rw [Rw.row_len] at hl
  have hln : l.length = n := Nat.eq_of_mul_eq_mul_right kindR.pos hl
  have hlt := (List.getElem?_eq_some_iff.1 hi).1
  have h0 := Rw.row_at (κ := kindR) l i r hi 0 _ rfl
  have h1 := Rw.row_at (κ := kindR) l i r hi 1 _ rfl
  refine ⟨?_, ?_, h.frozenAt _, h.frozenAt _⟩
  · rw [h.cellAt _ (show i * 2 < n * 2 by omega)]; exact h0
  · rw [h.cellAt _ (show i * 2 + 1 < n * 2 by omega)]; exact h1
end Vr
end

section
namespace Vr
open Go.ChangeShapes Go.WideShapes Go.ChangeAt Go.RowKit Go.BigFrame
set_option maxRecDepth 100000
def kindB : Kind Nat := ⟨fun x => [.int .u8 (x : Nat)], 1, fun _ => rfl, fun t u hu => by simp only [List.mem_singleton] at hu; subst hu; rfl, by decide⟩
theorem infoU8 : (Try.prog.info? 5).map (fun i => (i.zero, i.size, i.bytes)) = some (some (.int .u8 0), 1, 1) := by kernel_rfl
theorem plain_addr {w : World} {a : Addr} {v : Value} (h : w.cell? a = some v) : ∃ b off, a = ⟨b, off, none⟩ := by
  obtain ⟨b, off, spot⟩ := a
  refine ⟨b, off, ?_⟩
  cases spot with
  | none => rfl
  | some s =>
    unfold World.cell? at h
    split at h
    · simp at h
    · cases h
theorem row_read {α : Type} {κ : Kind α} {f : Nat → Option Value} : ∀ {ts : List α}, (∀ (i : Nat) (t : α), ts[i]? = some t → ∀ (j : Nat) (u : Value), (κ.cells t)[j]? = some u → f (i * κ.K + j) = some u) → ∀ (j : Nat) (u : Value), (Rw.row κ ts)[j]? = some u → f j = some u := by
  intro ts
  induction ts generalizing f with
  | nil => intro _ j u h; simp [Rw.row] at h
  | cons t ts ih =>
    intro h j u hj
    rw [Rw.row_cons] at hj
    by_cases hlt : j < κ.K
    · rw [List.getElem?_append_left (by rw [κ.len]; exact hlt)] at hj
      have := h 0 t rfl j u hj
      rwa [Nat.zero_mul, Nat.zero_add] at this
    · rw [List.getElem?_append_right (by rw [κ.len]; omega), κ.len] at hj
      have := ih (f := fun j => f (κ.K + j)) (fun i t' ht j' u' hu => by
        have := h (i + 1) t' (by simpa using ht) j' u' hu
        rwa [Nat.succ_mul, show i * κ.K + κ.K + j' = κ.K + (i * κ.K + j') by omega] at this) (j - κ.K) u hj
      rwa [show κ.K + (j - κ.K) = j by omega] at this
theorem bytes_ts {w : World} {A : Option Addr} {xs : List Nat} (h : Bytes w A xs) : Rw.Ts kindB w A xs := fun hn => by
  obtain ⟨ad, rfl, hlt, hc⟩ := h.2 hn
  obtain ⟨x, hx⟩ : ∃ x, xs[0]? = some x := ⟨_, List.getElem?_eq_getElem hn⟩
  obtain ⟨b, o, e⟩ := plain_addr (hc 0 x hx)
  obtain rfl : ad = ⟨b, o, none⟩ := by
    obtain ⟨b', o', s'⟩ := ad
    simp [Addr.add] at e
    rw [e.1, e.2.1, e.2.2]
  refine ⟨b, o, rfl, hlt, fun j u hu => ?_⟩
  refine row_read (κ := kindB) (f := fun j => w.cell? ⟨b, o + j, none⟩) (fun i t ht j u hu => ?_) j u hu
  obtain ⟨hj, e⟩ := List.getElem?_eq_some_iff.1 hu
  simp only [kindB, List.length_singleton] at hj
  have hj0 : j = 0 := by omega
  subst hj0
  simp only [kindB, List.getElem_cons_zero] at e
  subst e
  have := hc i t ht
  rw [add_at] at this
  simpa [kindB] using this
theorem bytes_at {w : World} {A : Option Addr} {l : List Nat} (h : Rw.Ts kindB w A l) {i : Nat} {z : Nat} (hi : l[i]? = some z) : ∃ b o, A = some ⟨b, o, none⟩ ∧ b < w.heap.size ∧ ∀ w', Below w.heap.size w w' → w'.cell? ⟨b, o + i, none⟩ = some (.int .u8 (z : Nat)) := by
  obtain ⟨b, o, e, hlt, hc⟩ := h.at_ hi
  refine ⟨b, o, e, hlt, fun w' hb => ?_⟩
  have := hc w' hb 0 _ rfl
  simp only [kindB, Nat.mul_one, Nat.add_zero] at this
  exact this
/-- the number of a row of bytes, the highest first -/
def accU : Nat → List Nat → Nat
  | a, [] => a
  | a, x :: l => accU (a * 256 + x) l
theorem accU_snoc : ∀ (l : List Nat) (a x : Nat), accU a (l ++ [x]) = accU a l * 256 + x
  | [], a, x => rfl
  | y :: l, a, x => accU_snoc l _ x
theorem accU_lt : ∀ (l : List Nat) (a : Nat), (∀ x ∈ l, x < 256) → accU a l < (a + 1) * 256 ^ l.length
  | [], a, _ => by simp [accU]
  | x :: l, a, h => by
    have hx := h x List.mem_cons_self
    have := accU_lt l (a * 256 + x) fun y hy => h y (List.mem_cons_of_mem _ hy)
    simp only [accU, List.length_cons, Nat.pow_succ]
    have h2 : a * 256 + x + 1 ≤ (a + 1) * 256 := by omega
    calc accU (a * 256 + x) l < (a * 256 + x + 1) * 256 ^ l.length := this
      _ ≤ (a + 1) * 256 * 256 ^ l.length := Nat.mul_le_mul_right _ h2
      _ = (a + 1) * (256 ^ l.length * 256) := by rw [Nat.mul_assoc, Nat.mul_comm 256]
theorem accU_take {xs : List Nat} {t j y : Nat} (hy : xs[t + j]? = some y) : accU 0 ((xs.drop t).take (j + 1)) = accU 0 ((xs.drop t).take j) * 256 + y := by
  rw [List.take_add_one, List.getElem?_drop, hy]
  exact accU_snoc _ _ _
theorem accU_small {xs : List Nat} (hx : ∀ x ∈ xs, x < 256) (t j : Nat) (hj : j < 8) : accU 0 ((xs.drop t).take j) < 72057594037927936 := by
  have h := accU_lt ((xs.drop t).take j) 0 fun x h => hx x (List.mem_of_mem_drop (List.mem_of_mem_take h))
  have hle : ((xs.drop t).take j).length ≤ 7 := by have := List.length_take_le j (xs.drop t); omega
  have : 256 ^ ((xs.drop t).take j).length ≤ 256 ^ 7 := Nat.pow_le_pow_right (by decide) hle
  have e : 256 ^ 7 = 72057594037927936 := by decide
  omega
theorem sg64_wrap {X : Nat} (h : X < 18446744073709551616) : IntKind.i64.wrap (X : Int) = sg64 X := by
  unfold sg64
  have e1 : (2 : Int) ^ (64 - 1) = 9223372036854775808 := by decide
  have e2 : (2 : Int) ^ 64 = 18446744073709551616 := by decide
  simp only [IntKind.wrap, IntKind.signed, IntKind.bits, Bool.true_and, decide_eq_true_eq, e1, e2]
  split <;> split <;> omega
def sameB (xs ys : List Nat) : Bool := decide (xs = ys)
theorem str_same {xs ys : List Nat} (hx : ∀ x ∈ xs, x < 256) (hy : ∀ y ∈ ys, y < 256) : ((strOf xs).toList == (strOf ys).toList) = sameB xs ys := by
  rw [str_eql]; unfold sameB; rw [decide_eq_decide]; exact strOf_inj hx hy
/-- a number below n (0 of none) -/
def PickD (n : Nat) (w : World) (e : Ending) (w' : World) : Prop := (∃ k : Nat, e = .returned (.int .i64 (k : Nat)) ∧ (k < n ∨ n = 0 ∧ k = 0)) ∧ w = w'
/-- bytes of the call's own, as bytes -/
theorem own_bytes {w : World} {base n : Nat} {v : Value} {xs : List Nat} (h : w.ownsRow base 5 kindB.K v n (Rw.row kindB xs)) (hx : ∀ x ∈ xs, x < 256) :
    ∃ A c, v = .slice A xs.length c ∧ Bytes w A xs ∧ xs.length ≤ c ∧ c ≤ maxLen ∧ (A = none → c = 0) ∧ ∀ ad, A = some ad → base ≤ ad.block := by
  obtain ⟨A, c, e, hT, h1, h2, h3, h4⟩ := Rw.Ts.of_own h
  refine ⟨A, c, e, ⟨hx, fun hn => ?_⟩, h1, h2, h3, h4⟩
  obtain ⟨b, o, rfl, hlt, _⟩ := hT hn
  refine ⟨_, rfl, hlt, fun j x hj => ?_⟩
  obtain ⟨_, _, e, _, hc⟩ := bytes_at hT hj
  cases e
  rw [add_at]
  exact hc w (Below.refl _ _)
theorem or_i64 (V x : Nat) (hV : V < 72057594037927936) (hx : x < 256) : bits .or .i64 (sg64 (V * 256)) (x : Int) = sg64 (V * 256 + x) := by
  have hl : V * 256 < 18446744073709551616 := by omega
  have h1 : (BitVec.ofInt 64 (sg64 (V * 256))).toNat = V * 256 := by
    have h := uns_sg64 hl
    unfold uns at h
    rw [BitVec.toNat_ofInt]
    have e : ((2 ^ 64 : Nat) : Int) = 18446744073709551616 := by decide
    rw [e]; exact h
  have h2 : (BitVec.ofInt 64 (x : Int)).toNat = x := by
    rw [BitVec.ofInt_natCast, BitVec.toNat_ofNat]; exact Nat.mod_eq_of_lt (by omega)
  have h3 := Nat.two_pow_add_eq_or_of_lt (i := 8) (b := x) (by omega) V
  show IntKind.i64.wrap ((BitVec.ofInt 64 (sg64 (V * 256)) ||| BitVec.ofInt 64 (x : Int)).toNat : Int) = _
  rw [BitVec.toNat_or, h1, h2, show V * 256 = 2 ^ 8 * V by omega, ← h3, show 2 ^ 8 * V + x = V * 256 + x by omega]
  exact sg64_wrap (by omega)
theorem sg64_low {V : Nat} (h : V < 9223372036854775808) : sg64 V = (V : Int) := by unfold sg64; rw [if_pos h]
theorem be8_len (x : Nat) : (be8 x).length = 8 := rfl
theorem be8_lt (x : Nat) : ∀ y ∈ be8 x, y < 256 := by
  intro y hy
  simp only [be8, List.mem_cons, List.not_mem_nil, or_false] at hy
  rcases hy with rfl | rfl | rfl | rfl | rfl | rfl | rfl | rfl <;> omega
/-- append to bytes of the call's own, of a literal's row -/
theorem append_b {w : World} {ops : Array Oper} {rest : List Oper} {o : Oper} {a : Act} {Q : Exit → Act → World → Prop} (hgd : o.guard = none) (s x : Operand)
    (ho : o.op = .call { callee := .builtin .append, args := #[s, x], argTypes := #[48, 48] })
    (base : Nat) (v : Value) (n : Nat) (ts : List Nat) (hs : a.eval s = v) (hown : w.ownsRow base 5 kindB.K v n (Rw.row kindB ts))
    (b : Nat) (c : Nat) (ys : List Nat) (hx : a.eval x = .slice (some ⟨b, 0, none⟩) ys.length c) (hb : Rw.Ts kindB w (some ⟨b, 0, none⟩) ys)
    (hle : n + ys.length ≤ 100000000) (hbase : base ≤ w.heap.size)
    (h : ∀ v' w', w'.ownsRow base 5 kindB.K v' (n + ys.length) (Rw.row kindB (ts ++ ys)) → w.grownBy w' v.ownBlock → wpList Try.prog ops Q rest (a.put o.dst v') w') : wpList Try.prog ops Q (o :: rest) a w :=
  Rw.append_own kindB 5 48 Try.underlying48 infoU8 rfl hgd s x ho base v n ts hs hown (some ⟨b, 0, none⟩) c ys hx (fun e => by cases e) hb (by unfold maxLen; omega) (by omega) hbase h
/-- boxes of records stay -/
def KeepR (w w' : World) : Prop := ∀ g l, Row w g 36 l → Row w' g 36 l
theorem KeepR.refl (w : World) : KeepR w w := fun _ _ h => h
theorem KeepR.trans {a b c : World} (h : KeepR a b) (k : KeepR b c) : KeepR a c := fun g l hr => k g l (h g l hr)
theorem KeepR.alloc (w : World) (o : Obj) : KeepR w (w.alloc o) := fun _ _ h => h.alloc o
theorem KeepR.app {w w' : World} {base n K : Nat} {v : Value} {xs : List Value} (ho : w.ownsRow base 5 K v n xs) (hg : w.grownBy w' v.ownBlock) : KeepR w w' := fun g l hr => hr.grown hg (Rw.own_apart ho hr (by decide))
/-- what is put behind bytes of the call's own -/
def PutN (base : Nat) (w : World) (cs : List Nat) (e : Ending) (w' : World) : Prop := (∃ v', e = .returned v' ∧ w'.ownsRow base 5 kindB.K v' cs.length (Rw.row kindB cs)) ∧ Below base w w' ∧ KeepR w w'
theorem row_app {w : World} {base : Nat} {v : Value} {bs ys zs : List Nat} {B : Nat} (h : w.ownsRow base 5 kindB.K v ((bs ++ ys).length + [B].length) (Rw.row kindB ((bs ++ ys) ++ [B]))) (e : ys ++ [B] = zs) : w.ownsRow base 5 kindB.K v (bs ++ zs).length (Rw.row kindB (bs ++ zs)) := by
  subst e
  rw [← List.append_assoc, List.length_append]
  exact h
end Vr
end

section
namespace Vr
open Go.ChangeShapes Go.WideShapes Go.ChangeAt Go.RowKit Go.BigFrame
set_option maxRecDepth 100000
theorem putR_snoc {l : List Rd} {k : Nat} {r : Rd} (h : l[k]? = some r) : putR (l.take (k + 1)) = putR (l.take k) ++ be8 (uns r.k) ++ be8 (uns r.v) := by
  unfold putR
  rw [List.take_add_one, h]
  simp [Rd.put]
theorem putR_len (l : List Rd) : (putR l).length = 16 * l.length := by
  induction l with
  | nil => rfl
  | cons r l ih =>
    show ((r :: l).map Rd.put).flatten.length = _
    rw [List.map_cons, List.flatten_cons, List.length_append]
    show (r.put).length + (putR l).length = _
    rw [ih]
    show (be8 _ ++ be8 _).length + _ = _
    rw [List.length_append, be8_len, be8_len, List.length_cons]; omega
theorem putR_lt (l : List Rd) : ∀ x ∈ putR l, x < 256 := by
  intro x hx
  unfold putR at hx
  simp only [List.mem_flatten, List.mem_map] at hx
  obtain ⟨_, ⟨r, _, rfl⟩, hx⟩ := hx
  unfold Rd.put at hx
  rcases List.mem_append.1 hx with h | h <;> exact be8_lt _ _ h
/-- what Put answers -/
def PutD (bs : List Nat) (w : World) (e : Ending) (w' : World) : Prop := (∃ v, e = .returned v ∧ w'.ownsRow w.heap.size 5 kindB.K v bs.length (Rw.row kindB bs)) ∧ Below w.heap.size w w'
end Vr
end

section
namespace Vr
open Go.ChangeShapes Go.WideShapes Go.ChangeAt Go.RowKit Go.BigFrame
set_option maxRecDepth 100000
end Vr
end
end Go.Proofs.Ytcjdjdhjbchaaaa
