/- VrCmp, VrAlike, VrRefMath, VrConcat -/
import Derived.Test.YtkhmefbmffpkcaaCa3
import Derived.Laws.StructEq
import Derived.Test.YtkhmefbmffpkcaaCa2
import Derived.BigRegion
import Derived.RegionTactic
import Derived.ChangeAlike
import Derived.Deep.RegionWith
import Derived.IntWalk
import Derived.Deep.DeepCutAuto
import Derived.Deep.CutRange
namespace Go.Proofs.Ytkhmefbmffpkcaa
set_option linter.unusedVariables false
section
namespace Vr
open Go.ChangeShapes Go.WideShapes Go.ChangeAt Go.RowKit Go.BigFrame
set_option maxRecDepth 100000
theorem run_eqR (a b : Rd) (w : World) : (Op.equalIn 10000 36 (.agg #[.int .i64 a.k, .int .i64 a.v]) (.agg #[.int .i64 b.k, .int .i64 b.v])).run Try.prog w = .ok (decide (a = b)) w := by
  have h := run_equalIn_agg (P := Try.prog) w 9999 36 #[.int .i64 a.k, .int .i64 a.v] #[.int .i64 b.k, .int .i64 b.v] (by kernel_rfl) (by kernel_rfl)
  have e1 := fun a b w => run_equalIn_int (P := Try.prog) w 9998 2 .i64 .i64 a b Try.underlying2
  have hi : ∀ w, (isAgg 2).run Try.prog w = .ok false w := fun w => by go_simp
  have hd : decide (a = b) = (decide (a.k = b.k) && decide (a.v = b.v)) := by
    rw [Bool.eq_iff_iff]; simp [Rd.ext_iff']
  rw [h, hd]
  obtain ⟨fs, hfs⟩ : ∃ fs, (Try.prog.fieldsOf 36).toList = fs := ⟨_, rfl⟩
  rw [hfs]
  have hu := Try.underlying36
  simp only [Program.fieldsOf, hu] at hfs
  subst hfs
  simp [Op.eqFields, part, hi, e1, Sem.run_bind, go_sem]
  by_cases h0 : a.k = b.k <;> by_cases h1 : a.v = b.v <;> simp [h0, h1]
section
variable {P : Program} {C : World → Prop} {K : Act → Prop} {a : Act} {o : Oper} {ops : Array Oper}
theorem q_load {v p : Value} (t : TypeId) (x : Operand) (ho : o.op = .load t x) (hw : Region.wanted o (yielded ops a.tmps) = true) (hx : a.eval x = p) (hr : ∀ w', C w' → (Instr.loadAt t p).run P w' = .ok v w') (hk : K (a.put o.dst v)) :
    if Region.wanted o (yielded ops a.tmps) then o.quiet P a C K else K (a.put o.dst undef) := by
  rw [if_pos hw]
  refine ⟨v, fun w' hw' => ?_, hk⟩
  unfold Oper.quietAt execOp
  simp only [ho, hx, Sem.run_bind, hr w' hw', Result.andThen_ok, Sem.run_pure, Oper.quietUpon]
  exact ⟨trivial, trivial⟩
theorem q_bin {v p q : Value} (op : BinOp) (t u : TypeId) (x y : Operand) (ho : o.op = .binOp op t x y u) (hw : Region.wanted o (yielded ops a.tmps) = true) (hx : a.eval x = p) (hy : a.eval y = q)
    (hr : ∀ w', (do eqGuard op t x y p q; binOp op t p q : Sem Value).run P w' = .ok v w') (hk : K (a.put o.dst v)) :
    if Region.wanted o (yielded ops a.tmps) then o.quiet P a C K else K (a.put o.dst undef) := by
  rw [if_pos hw]
  refine ⟨v, fun w' hw' => ?_, hk⟩
  unfold Oper.quietAt execOp
  simp only [ho, hx, hy]
  rw [Sem.run_bind, hr w']
  simp only [Result.andThen_ok, Sem.run_pure, Oper.quietUpon]
  exact ⟨trivial, trivial⟩
end
def eqB (a b : Rd) : Bool := decide (a = b)
theorem eqB_yes {a b : Rd} (h : a = b) : eqB a b = true := decide_eq_true h
theorem eqB_no {a b : Rd} (h : ¬ a = b) : eqB a b = false := decide_eq_false h
/-- two records compared as values: one bool -/
theorem eq_r (x y : Operand) (a b : Rd) : ∀ w, (do eqGuard .eql 36 x y (.agg #[.int .i64 a.k, .int .i64 a.v]) (.agg #[.int .i64 b.k, .int .i64 b.v]); binOp .eql 36 (.agg #[.int .i64 a.k, .int .i64 a.v]) (.agg #[.int .i64 b.k, .int .i64 b.v]) : Sem Value).run Try.prog w = .ok (.bool (eqB a b)) w := by
  intro w
  rw [Sem.run_bind, run_eqGuard_agg w _ _ _ _ _ _ (by kernel_rfl), Result.andThen_ok, run_eql_struct, run_eqR]
  rfl
theorem ne_r (x y : Operand) (a b : Rd) : ∀ w, (do eqGuard .neq 36 x y (.agg #[.int .i64 a.k, .int .i64 a.v]) (.agg #[.int .i64 b.k, .int .i64 b.v]); binOp .neq 36 (.agg #[.int .i64 a.k, .int .i64 a.v]) (.agg #[.int .i64 b.k, .int .i64 b.v]) : Sem Value).run Try.prog w = .ok (.bool (!eqB a b)) w := by
  intro w
  rw [Sem.run_bind, run_eqGuard_agg w _ _ _ _ _ _ (by kernel_rfl), Result.andThen_ok, run_neq_struct, run_eqR]
  rfl
/-- a record loaded from a row, in each later world -/
theorem load_r {w : World} {A : Option Addr} {ts : List Rd} (h : Rw.Ts kindR w A ts) {i : Nat} {t : Rd} (hi : ts[i]? = some t) : ∃ b o, A = some ⟨b, o, none⟩ ∧ b < w.heap.size ∧
    ∀ w', Below w.heap.size w w' → (Instr.loadAt 36 (.pointer (some ⟨b, o + i * 2, none⟩))).run Try.prog w' = .ok (.agg #[.int .i64 t.k, .int .i64 t.v]) w' := by
  obtain ⟨b, o, e, hlt, hc⟩ := h.at_ hi
  exact ⟨b, o, e, hlt, fun w' hb => run_loadAt_part b (o + i * 2) 36 _ t.cells (fun j v hj => by rw [add_at]; exact hc w' hb j v hj) Try.underlying36 rfl (by kernel_rfl)⟩
theorem retI {a b : Int} (h : a = b) : Ending.returned (.int .i64 a) = .returned (.int .i64 b) := by rw [h]
theorem retb {a b : Bool} (h : a = b) : Ending.returned (.bool a) = .returned (.bool b) := by rw [h]
set_option maxHeartbeats 1000000 in
theorem refCompare_any (a b : Rd) (w : World) : Calls Try.prog 63 #[a.val, b.val] w fun e w' => e = .returned (.int .i64 (a.C b)) ∧ Below w.heap.size w w' := by
  have he := run_eqR a b
  by_cases h1 : a.k < b.k
  · have hC : a.C b = -1 := by unfold Rd.C; rw [if_pos (.inl h1)]
    rw [hC]; clear hC he
    have d1 : decide (a.k < b.k) = true := by simpa using h1
    go_enter Try.func63, Try.ntmps63
    go_wp2_with fail
    go_ret
    exact ⟨rfl, ((Below.refl _ w).alloc (Nat.le_refl _) _).alloc (by simp) _⟩
  · have d1 : decide (a.k < b.k) = false := by simpa using h1
    by_cases h2 : a.k = b.k
    · have d2 : (a.k == b.k) = true := by simpa using h2
      by_cases h3 : a.v < b.v
      · have hC : a.C b = -1 := by unfold Rd.C; rw [if_pos (.inr ⟨h2, h3⟩)]
        rw [hC]; clear hC he
        have d3 : decide (a.v < b.v) = true := by simpa using h3
        have H2 := Lib.hid h2; clear h2
        go_enter Try.func63, Try.ntmps63
        go_wp2_with fail
        go_ret
        exact ⟨rfl, ((Below.refl _ w).alloc (Nat.le_refl _) _).alloc (by simp) _⟩
      · have d3 : decide (a.v < b.v) = false := by simpa using h3
        by_cases h4 : a = b
        · have hC : a.C b = 0 := Rd.C_zero.2 h4
          have he' : ∀ w, (Op.equalIn 10000 36 (.agg #[.int .i64 a.k, .int .i64 a.v]) (.agg #[.int .i64 b.k, .int .i64 b.v])).run Try.prog w = .ok true w := fun w => by rw [he, decide_eq_true h4]
          rw [hC]
          have H2 := Lib.hid h2; have H4 := Lib.hid h4; clear h2 h4 hC he
          go_enter Try.func63, Try.ntmps63
          go_wp2_with fail
          go_ret
          exact ⟨rfl, ((Below.refl _ w).alloc (Nat.le_refl _) _).alloc (by simp) _⟩
        · have hC : a.C b = 1 := by unfold Rd.C; rw [if_neg (by omega), if_neg h4]
          have he' : ∀ w, (Op.equalIn 10000 36 (.agg #[.int .i64 a.k, .int .i64 a.v]) (.agg #[.int .i64 b.k, .int .i64 b.v])).run Try.prog w = .ok false w := fun w => by rw [he, decide_eq_false h4]
          rw [hC]
          have H2 := Lib.hid h2; have H4 := Lib.hid h4; clear h2 h4 hC he
          go_enter Try.func63, Try.ntmps63
          go_wp2_with fail
          go_ret
          exact ⟨rfl, ((Below.refl _ w).alloc (Nat.le_refl _) _).alloc (by simp) _⟩
    · have d2 : (a.k == b.k) = false := by simpa using h2
      have h4 : ¬ a = b := fun e => h2 (by rw [e])
      have hC : a.C b = 1 := by unfold Rd.C; rw [if_neg (by omega), if_neg h4]
      have he' : ∀ w, (Op.equalIn 10000 36 (.agg #[.int .i64 a.k, .int .i64 a.v]) (.agg #[.int .i64 b.k, .int .i64 b.v])).run Try.prog w = .ok false w := fun w => by rw [he, decide_eq_false h4]
      rw [hC]
      have H2 := Lib.hid h2; have H4 := Lib.hid h4; clear h2 h4 hC he
      go_enter Try.func63, Try.ntmps63
      go_wp2_with fail
      go_ret
      exact ⟨rfl, ((Below.refl _ w).alloc (Nat.le_refl _) _).alloc (by simp) _⟩
end Vr
end

section
namespace Vr
open Go.ChangeShapes Go.WideShapes Go.ChangeAt Go.RowKit Go.BigFrame
set_option maxRecDepth 100000
/-- are two rows one? -/
def sameR (l m : List Rd) : Bool := decide (l = m)
theorem sameR_yes {l m : List Rd} (h : l = m) : true = sameR l m := (decide_eq_true h).symm
theorem sameR_no {l m : List Rd} (h : l ≠ m) : false = sameR l m := (decide_eq_false h).symm
theorem sameR_self (l : List Rd) : sameR l l = true := decide_eq_true rfl
theorem sameR_iff {l m : List Rd} : sameR l m = true ↔ l = m := decide_eq_true_iff
set_option maxHeartbeats 2000000 in
theorem alike_any (A B : Option Addr) (l m : List Rd) (c d : Nat) (w : World) (hA : Rw.Ts kindR w A l) (hB : Rw.Ts kindR w B m) (hl : l.length ≤ 1000000) (hm : m.length ≤ 1000000) :
    Calls Try.prog 16 #[.slice A l.length c, .slice B m.length d] w fun e w' => e = .returned (.bool (sameR l m)) ∧ Below w.heap.size w w' := by
  have HA := Lib.hid hA; have HB := Lib.hid hB; clear hA hB
  by_cases hlm : l.length = m.length
  · have hz : ((l.length : Int) != (m.length : Int)) = false := by simp; omega
    have HLM := Lib.hid hlm
    go_enter Try.func16, Try.ntmps16
    go_wp2_with fail
    go_loopw [5] (fun i wr => ∃ k : Nat, k ≤ l.length ∧ i = .int .i64 k ∧ Below w.heap.size w wr ∧ l.take k = m.take k) (fun i _ => l.length - (intOf i).toNat)
    case atStart => exact ⟨0, by omega, rfl, Below.refl _ _, rfl⟩
    case round =>
      obtain ⟨k, hk, rfl, hb, hall⟩ := hrel
      have HE := Lib.hid hall; have HBW := Lib.hid hb; clear hall hb hz
      by_cases hlt : k < l.length
      · have hltz : (k : Int) < (l.length : Int) := by omega
        have hltm : (k : Int) < (m.length : Int) := by omega
        obtain ⟨x, hx⟩ : ∃ x, l[k]? = some x := ⟨_, List.getElem?_eq_getElem hlt⟩
        obtain ⟨y, hy⟩ : ∃ y, m[k]? = some y := ⟨_, List.getElem?_eq_getElem (by omega)⟩
        obtain ⟨b, o, rfl, hbl, hcl⟩ := recs_at HA.out hx
        obtain ⟨b', o', rfl, hbl', hcl'⟩ := recs_at HB.out hy
        obtain ⟨c0, c1⟩ := hcl wr HBW.out
        obtain ⟨d0, d1⟩ := hcl' wr HBW.out
        have he := run_eqR x y
        have HX := Lib.hid hx; have HY := Lib.hid hy; clear hx hcl hy hcl' hlm
        by_cases hxy : x = y
        · have he' : ∀ w, (Op.equalIn 10000 36 (.agg #[.int .i64 x.k, .int .i64 x.v]) (.agg #[.int .i64 y.k, .int .i64 y.v])).run Try.prog w = .ok true w := fun w => by rw [he, decide_eq_true hxy]
          have HXY := Lib.hid hxy; clear he hxy
          go_wp2_with fail
          go_region
          go_wp2_with fail
          go_roundw
          case rel => exact ⟨k + 1, by omega, by simp, HBW.out.drew, by rw [List.take_add_one, List.take_add_one, HX.out, HY.out, HE.out, HXY.out]⟩
          case measure => simp only [intOf]; omega
        · have he' : ∀ w, (Op.equalIn 10000 36 (.agg #[.int .i64 x.k, .int .i64 x.v]) (.agg #[.int .i64 y.k, .int .i64 y.v])).run Try.prog w = .ok false w := fun w => by rw [he, decide_eq_false hxy]
          have HXY := Lib.hid hxy; clear he hxy
          go_wp2_with fail
          go_region
          go_wp2_with fail
          go_ret
          exact ⟨retb (sameR_no fun e => by have h := HX.out; rw [e, HY.out] at h; exact HXY.out (Option.some.inj h).symm), HBW.out.drew⟩
      · have hltz : ¬ (k : Int) < (l.length : Int) := by omega
        have hkl : k = l.length := by omega
        subst hkl
        have HR : Hid (true = sameR l m) := Lib.hid (sameR_yes (by have h := HE.out; rw [List.take_length, List.take_of_length_le (by omega)] at h; exact h))
        clear hlm
        go_wp2_with fail
        go_ret
        exact ⟨retb HR.out, HBW.out⟩
  · have hz : ((l.length : Int) != (m.length : Int)) = true := by simp; omega
    have HLM := Lib.hid hlm; clear hlm
    go_enter Try.func16, Try.ntmps16
    go_wp2_with fail
    go_ret
    exact ⟨retb (sameR_no fun e => HLM.out (by rw [e])), Below.refl _ _⟩
end Vr
end

section
namespace Vr
open Go.ChangeShapes Go.WideShapes Go.ChangeAt Go.RowKit Go.BigFrame
set_option maxRecDepth 100000
/-- what Add, Sorted answer: a row of the call's own -/
def AddD (l : List Rd) (w : World) (e : Ending) (w' : World) : Prop := (∃ v, e = .returned v ∧ w'.ownsRow w.heap.size 36 kindR.K v l.length (Rw.row kindR l)) ∧ Below w.heap.size w w'
theorem ins_sorted {s : List Rd} {x : Rd} {p : Nat} (hs : s.Pairwise Rd.Le) (h1 : ∀ q y, p = q + 1 → s[q]? = some y → y.Le x) (h2 : ∀ y ∈ s.drop p, ¬ y.Le x) (hp : p ≤ s.length) : s.take p ++ x :: s.drop p = sortR (s ++ [x]) := by
  have hpw : (s.take p ++ s.drop p).Pairwise Rd.Le := by rw [List.take_append_drop]; exact hs
  obtain ⟨p1, p2, p3⟩ := List.pairwise_append.1 hpw
  refine sortR_eq ?_ ?_
  · rw [List.pairwise_append, List.pairwise_cons]
    refine ⟨p1, ⟨fun y hy => Rd.Le_total (h2 y hy), p2⟩, fun a ha b hb => ?_⟩
    rcases List.mem_cons.1 hb with rfl | hb
    · cases p with
      | zero => simp at ha
      | succ q =>
        obtain ⟨y, hy⟩ : ∃ y, s[q]? = some y := ⟨_, List.getElem?_eq_getElem (by omega)⟩
        have hyx := h1 q y rfl hy
        rw [List.take_add_one, hy] at ha p1
        rcases List.mem_append.1 ha with ha | ha
        · exact Rd.Le_trans ((List.pairwise_append.1 p1).2.2 a ha y (by simp)) hyx
        · simp at ha; subst ha; exact hyx
    · exact p3 a ha b hb
  · have : (s.take p ++ s.drop p ++ [x]).Perm (s ++ [x]) := by rw [List.take_append_drop]
    refine List.Perm.trans ?_ this
    rw [List.append_assoc]
    exact List.Perm.append_left _ (List.perm_append_comm (l₁ := [x]) (l₂ := s.drop p))
/-- a hole at k, in the row s -/
def holeR (s : List Rd) (k : Nat) (z : Rd) : List Rd := s.take k ++ z :: s.drop k
theorem hole_len {s : List Rd} {k : Nat} {z : Rd} : (holeR s k z).length = s.length + 1 := by
  unfold holeR; rw [List.length_append, List.length_cons, List.length_take, List.length_drop]; omega
theorem hole_end (s : List Rd) (z : Rd) : holeR s s.length z = s ++ [z] := by unfold holeR; simp
theorem hole_at {s : List Rd} {k j : Nat} {z : Rd} (h : j < k) (hk : k ≤ s.length) : (holeR s k z)[j]? = s[j]? := by
  unfold holeR; rw [List.getElem?_append_left (by rw [List.length_take]; omega), List.getElem?_take, if_pos h]
theorem hole_set {s : List Rd} {k : Nat} {z y : Rd} (hk : k ≤ s.length) : (holeR s k z).set k y = holeR s k y := by
  unfold holeR
  rw [List.set_append_right _ _ (by rw [List.length_take]; omega), List.length_take, show k - min k s.length = 0 by omega]; rfl
theorem hole_down {s : List Rd} {k : Nat} {y : Rd} (h : s[k]? = some y) : holeR s (k + 1) y = holeR s k y := by
  have hk := (List.getElem?_eq_some_iff.1 h).1
  unfold holeR
  rw [List.take_add_one, h, List.append_assoc, List.drop_eq_getElem_cons hk]
  have : s[k] = y := (List.getElem?_eq_some_iff.1 h).2
  rw [this]; rfl
theorem row_setR (l : List Rd) (i : Nat) (r : Rd) : ((Rw.row kindR l).set (i * 2) (.int .i64 r.k)).set (i * 2 + 1) (.int .i64 r.v) = Rw.row kindR (l.set i r) := by
  induction l generalizing i with
  | nil => simp [Rw.row]
  | cons x l ih =>
    cases i with
    | zero => rw [List.set_cons_zero, Rw.row_cons, Rw.row_cons]; rfl
    | succ i =>
      rw [List.set_cons_succ, Rw.row_cons, Rw.row_cons, ← ih i]
      show ((kindR.cells x ++ _).set _ _).set _ _ = _
      rw [List.set_append_right _ _ (by show 2 ≤ (i + 1) * 2; omega), List.set_append_right _ _ (by show 2 ≤ (i + 1) * 2 + 1; omega)]
      rw [show (i + 1) * 2 - (kindR.cells x).length = i * 2 by show (i + 1) * 2 - 2 = i * 2; omega, show (i + 1) * 2 + 1 - (kindR.cells x).length = i * 2 + 1 by show (i + 1) * 2 + 1 - 2 = _; omega]
/-- a record stored into a row of the call's own -/
theorem own_putR {w : World} {base g n c : Nat} {l : List Rd} (h : w.ownsRow base 36 kindR.K (.slice (some ⟨g, 0, none⟩) n c) n (Rw.row kindR l)) (i : Nat) (r : Rd) :
    ((w.setCell ⟨g, i * 2, none⟩ (.int .i64 r.k)).setCell ⟨g, i * 2 + 1, none⟩ (.int .i64 r.v)).ownsRow base 36 kindR.K (.slice (some ⟨g, 0, none⟩) n c) n (Rw.row kindR (l.set i r)) := by
  rw [← row_setR]
  exact (h.stored (i * 2) _).1.stored (i * 2 + 1) _ |>.1
theorem own_pos {w : World} {base n K : Nat} {T : TypeId} {v : Value} {xs : List Value} (h : w.ownsRow base T K v n xs) (hn : 0 < n) : ∃ g c, v = .slice (some ⟨g, 0, none⟩) n c ∧ base ≤ g := by
  obtain ⟨_, ⟨_, h0⟩ | ⟨g, cap, cur, rfl, hb, _⟩⟩ := h
  · omega
  · exact ⟨g, cap, rfl, hb⟩
/-- the cells of one, of a row of the call's own; they may be written -/
theorem own_at {w : World} {base g n c : Nat} {l : List Rd} (h : w.ownsRow base 36 kindR.K (.slice (some ⟨g, 0, none⟩) n c) n (Rw.row kindR l)) {i : Nat} {r : Rd} (hi : l[i]? = some r) :
    w.cell? ⟨g, i * 2, none⟩ = some (.int .i64 r.k) ∧ w.cell? ⟨g, i * 2 + 1, none⟩ = some (.int .i64 r.v) ∧ w.frozen? ⟨g, i * 2, none⟩ = false ∧ w.frozen? ⟨g, i * 2 + 1, none⟩ = false := by
  have hl := h.1
  rw [Rw.row_len] at hl
  have hln : l.length = n := Nat.eq_of_mul_eq_mul_right kindR.pos hl
  have hlt := (List.getElem?_eq_some_iff.1 hi).1
  have h0 := Rw.row_at (κ := kindR) l i r hi 0 _ rfl
  have h1 := Rw.row_at (κ := kindR) l i r hi 1 _ rfl
  refine ⟨?_, ?_, h.frozenAt _, h.frozenAt _⟩
  · rw [h.cellAt _ (show i * 2 < n * 2 by omega)]; exact h0
  · rw [h.cellAt _ (show i * 2 + 1 < n * 2 by omega)]; exact h1
end Vr
end

section
namespace Vr
open Go.ChangeShapes Go.WideShapes Go.ChangeAt Go.RowKit Go.BigFrame Go.Shelf
set_option maxRecDepth 100000
/-- a row that can be read, and its slice -/
structure Rr where
  A : Option Addr
  ts : List Rd
  c : Nat
def Rr.val (r : Rr) : Value := .slice r.A r.ts.length r.c
structure Rr.Ok (w : World) (r : Rr) : Prop where
  ts : Rw.Ts kindR w r.A r.ts
  nil : r.A = none → r.c = 0 ∧ r.ts = []
/-- block B holds the slices of these rows -/
structure RowsAt (w : World) (B : Nat) (L : List Rr) : Prop where
  row : Row w B 28 (L.map Rr.val)
  ok : ∀ r ∈ L, r.Ok w
def cat (L : List Rr) : List Rd := (L.map Rr.ts).flatten
theorem cat_take {L : List Rr} {k : Nat} {r : Rr} (h : L[k]? = some r) : cat (L.take (k + 1)) = cat (L.take k) ++ r.ts := by
  unfold cat
  rw [List.take_add_one, h]
  simp
theorem cat_take_le (L : List Rr) (k : Nat) : (cat (L.take k)).length ≤ (cat L).length := by
  have : cat L = cat (L.take k) ++ cat (L.drop k) := by
    unfold cat
    rw [← List.flatten_append, ← List.map_append, List.take_append_drop]
  rw [this, List.length_append]; omega
theorem Rr.Ok.below {w w' : World} {r : Rr} (h : r.Ok w) (hb : Below w.heap.size w w') : r.Ok w' := ⟨h.ts.below hb, h.nil⟩
theorem RowsAt.below {w w' : World} {B : Nat} {L : List Rr} (h : RowsAt w B L) (hb : Below w.heap.size w w') : RowsAt w' B L := ⟨h.row.below hb h.row.lt, fun r hr => (h.ok r hr).below hb⟩
theorem RowsAt.made (w : World) (L : List Rr) (h : ∀ r ∈ L, r.Ok w) : RowsAt (w.alloc (.cells (L.map Rr.val).toArray 28)) w.heap.size L :=
  ⟨Row.made w _ _, fun r hr => (h r hr).below ((Below.refl _ _).alloc (Nat.le_refl _) _)⟩
/-- room for n records -/
theorem grow_any (n : Nat) (w : World) (hn : n ≤ 1000000) : Calls Try.prog 69 #[.slice none 0 0, .int .i64 n] w fun e w' => (∃ v, e = .returned v ∧ w'.ownsRow w.heap.size 36 kindR.K v 0 (Rw.row kindR [])) ∧ Below w.heap.size w w' := by
  obtain ⟨i, hi, hz0, hz1, hz2⟩ := info_parts infoRec
  cases n with
  | zero => exact (Any8.slices_Grow_room Try.growRec none 0 0 0 w (by omega) (by omega) (by omega) (by omega)).mono fun e w' ⟨he, hw⟩ => ⟨⟨_, he, World.ownsRow_nil _ _ _ _⟩, by subst hw; exact Below.refl _ _⟩
  | succ n =>
    refine (Any8.slices_Grow_grow Try.growRec i _ hi hz0 (by rw [hz1]; show 0 < 2; omega) none 0 0 (n + 1) [] w (by omega) (by omega) (by rw [hz2]; omega) (by omega) (by simp) (fun _ => rfl) (fun a h => by cases h)).mono fun e w' ⟨he, hw⟩ => ?_
    subst hw
    refine ⟨⟨_, he, rfl, .inr ⟨w.heap.size, _, _, rfl, Nat.le_refl _, heap_alloc_new w.drew _, Nat.zero_le _, grownCap_le_maxLen _ _ _ _ (by unfold maxLen; omega), ?_, by simp [Rw.row]⟩⟩, ((Below.refl w.heap.size w).drew).alloc (Nat.le_refl _) _⟩
    · have := grownCap_ge w (n + 1) 0 (Try.growRec_ren.t 25)
      simp [Builtin.zeroCells, Value.cells]
      show _ = _ * 2
      omega
set_option maxHeartbeats 4000000 in
theorem concat_any (B : Nat) (L : List Rr) (w : World) (hL : RowsAt w B L) (hl : L.length ≤ 1000) (hn : (cat L).length ≤ 1000000) :
    Calls Try.prog 44 #[.slice (some ⟨B, 0, none⟩) L.length L.length] w fun e w' => (∃ v, e = .returned v ∧ w'.ownsRow w.heap.size 36 kindR.K v (cat L).length (Rw.row kindR (cat L))) ∧ Below w.heap.size w w' := by
  have HL := Lib.hid hL; have HN := Lib.hid hn; clear hL hn
  go_enter Try.func44, Try.ntmps44
  go_wp2_with fail
  go_loop [3, 11] (fun s i => ∃ k : Nat, k ≤ L.length ∧ i = .int .i64 k ∧ s = .int .i64 ((cat (L.take k)).length : Nat)) (fun _ i => L.length - (intOf i).toNat)
  case atStart => exact ⟨0, by omega, rfl, rfl⟩
  case round =>
    obtain ⟨k, hk, rfl, rfl⟩ := hrel
    by_cases hlt : k < L.length
    · have hltz : (k : Int) < (L.length : Int) := by omega
      obtain ⟨r, hr⟩ : ∃ r, L[k]? = some r := ⟨_, List.getElem?_eq_getElem hlt⟩
      have q : w.cell? ⟨B, k, none⟩ = some (.slice r.A r.ts.length r.c) := (HL.out.row.cell k).trans (by rw [List.getElem?_map, hr]; rfl)
      have ht := cat_take hr
      have hle := cat_take_le L (k + 1)
      rw [ht, List.length_append] at hle
      obtain ⟨p, hp⟩ : ∃ p, (cat (L.take k)).length = p := ⟨_, rfl⟩
      rw [hp] at hle ⊢
      have hb : p + r.ts.length ≤ 1000000 := by have := HN.out; omega
      have hz : ¬ ((p : Int) + (r.ts.length : Int) < 0) := by omega
      have HT := Lib.hid ht; have HP := Lib.hid hp
      clear hle hr ht hp
      go_wp2_with fail
      go_round
      case rel => exact ⟨k + 1, by omega, by simp, by rw [HT.out, List.length_append, HP.out]; simp⟩
      case measure => simp [intOf]; omega
    · have hkl : k = L.length := by omega
      subst hkl
      rw [List.take_length]
      have hg := grow_any (cat L).length w HN.out
      have HG := Lib.hid hg; clear hg
      have hnn : (cat L).length ≤ 1000000 := HN.out
      go_wp2_with fail
      refine HG.out.mono ?_; rintro e w1 ⟨⟨v, rfl, hown⟩, hb1⟩
      have HO := Lib.hid hown; have HB := Lib.hid hb1; clear hown hb1 HG
      dsimp only
      go_wp2_with fail
      go_loopw [6, 27] (fun fv i wr => ∃ k : Nat, k ≤ L.length ∧ i = .int .i64 k ∧ Below w.heap.size w wr ∧ wr.ownsRow w.heap.size 36 kindR.K fv (cat (L.take k)).length (Rw.row kindR (cat (L.take k)))) (fun _ i _ => L.length - (intOf i).toNat)
      case atStart => exact ⟨0, by omega, rfl, HB.out, HO.out⟩
      case round =>
        obtain ⟨k, hk, rfl, hbw, hro⟩ := hrel
        have HBW := Lib.hid hbw; have HRO := Lib.hid hro; clear hbw hro HO HB
        by_cases hlt : k < L.length
        · have hltz : (k : Int) < (L.length : Int) := by omega
          obtain ⟨r, hr⟩ : ∃ r, L[k]? = some r := ⟨_, List.getElem?_eq_getElem hlt⟩
          have hrow := HL.out.row.below HBW.out HL.out.row.lt
          have q : wr.cell? ⟨B, k, none⟩ = some (.slice r.A r.ts.length r.c) := (hrow.cell k).trans (by rw [List.getElem?_map, hr]; rfl)
          have hok := HL.out.ok r (List.mem_of_getElem? hr)
          have ht := cat_take hr
          have hle := cat_take_le L (k + 1)
          rw [ht, List.length_append] at hle
          generalize cat (L.take k) = us at *
          have hb : us.length + r.ts.length ≤ 1000000 := by omega
          have hbs := HBW.out.size
          have HT := Lib.hid ht; have HOK := Lib.hid hok; have HBS := Lib.hid hbs
          clear hle hr ht hok hrow hbs
          go_wp2_with (at_builtin; refine Rw.append_own kindR 36 28 Try.underlying28 infoRec rfl rfl _ _ rfl w.heap.size _ us.length us rfl HRO.out r.A r.c r.ts rfl HOK.out.nil (HOK.out.ts.below HBW.out) (by unfold maxLen; omega) (by omega) HBS.out ?_; intro v2 w4 hv2 hg2; have hb2 := Rw.own_below HRO.out hg2 HBW.out HBS.out; have HV := Lib.hid hv2; have HB2 := Lib.hid hb2; clear hv2 hg2 hb2)
          go_roundw
          case rel => exact ⟨k + 1, by omega, by simp, HB2.out, by rw [HT.out, List.length_append]; exact HV.out⟩
          case measure => simp only [intOf]; omega
        · have hkl : k = L.length := by omega
          subst hkl
          have hro := HRO.out
          rw [List.take_length] at hro
          have HRO' := Lib.hid hro; clear hro
          go_wp2_with fail
          go_ret
          exact ⟨⟨_, rfl, HRO'.out⟩, HBW.out⟩
set_option maxHeartbeats 1000000 in
theorem add_any (B : Nat) (L : List Rr) (w : World) (hL : RowsAt w B L) (hl : L.length ≤ 1000) (hn : (cat L).length ≤ 1000000) :
    Calls Try.prog 23 #[.slice (some ⟨B, 0, none⟩) L.length L.length] w (AddD (sortR (cat L)) w) := by
  have hc := concat_any B L w hL hl hn
  have hs := fun (v : Value) (w1 : World) (h : w1.ownsRow w.heap.size 36 kindR.K v (cat L).length (Rw.row kindR (cat L))) => sortFunc_any w.heap.size (cat L).length v (cat L) w1 h hn
  have hlen : (sortR (cat L)).length = (cat L).length := sortR_perm.length_eq
  generalize sortR (cat L) = ss at *
  generalize cat L = us at *
  generalize L.length = n at *
  have HC := Lib.hid hc; have HS := Lib.hid hs; have HLEN := Lib.hid hlen; clear hc hs hlen hL hn hl
  go_enter Try.func23, Try.ntmps23
  go_wp2_with fail
  refine HC.out.mono ?_; rintro e w1 ⟨⟨v, rfl, hown⟩, hb1⟩
  have hs1 := HS.out v w1 hown
  have HO := Lib.hid hown; have HB := Lib.hid hb1; have HS1 := Lib.hid hs1; clear hown hb1 hs1 HS HC
  dsimp only
  go_wp2_with fail
  refine (byKey_any _).mono ?_; rintro e w' ⟨rfl, rfl⟩
  go_wp2_with fail
  refine HS1.out.mono ?_; rintro e w2 ⟨rfl, hown2, hg2⟩
  have hb2 := Rw.own_below HO.out hg2 HB.out HB.out.size
  have HO2 := Lib.hid hown2; have HB2 := Lib.hid hb2; clear hown2 hg2 hb2
  dsimp only
  go_wp2_with fail
  go_ret
  exact ⟨⟨_, rfl, by rw [HLEN.out]; exact HO2.out⟩, HB2.out⟩
set_option maxHeartbeats 1000000 in
theorem sorted_any (A : Option Addr) (l : List Rd) (c : Nat) (w : World) (hT : Rw.Ts kindR w A l) (hA : A = none → c = 0 ∧ l = []) (hn : l.length ≤ 1000000) :
    Calls Try.prog 31 #[.slice A l.length c] w (AddD (sortR l) w) := by
  have hr := RowsAt.made w [⟨A, l, c⟩] (by intro r hr; simp only [List.mem_singleton] at hr; subst hr; exact ⟨hT, hA⟩)
  have ha0 := add_any w.heap.size [⟨A, l, c⟩] _ hr (by simp) (by simpa [cat] using hn)
  rw [show cat [⟨A, l, c⟩] = l by simp [cat]] at ha0
  have ha : Calls Try.prog 23 #[.slice (some ⟨w.heap.size, 0, none⟩) 1 1] (w.alloc (.cells #[.slice A l.length c] 28)) (AddD (sortR l) (w.alloc (.cells #[.slice A l.length c] 28))) := ha0
  clear ha0
  have HA := Lib.hid ha; clear ha hr hT hA
  generalize sortR l = ss at *
  generalize l.length = n at *
  go_enter Try.func31, Try.ntmps31
  go_wp2_with fail
  refine HA.out.mono ?_; rintro e w1 ⟨⟨v, rfl, hown⟩, hb1⟩
  have HO := Lib.hid hown; have HB := Lib.hid hb1; clear hown hb1 HA
  dsimp only
  go_wp2_with fail
  go_ret
  refine ⟨⟨_, rfl, own_base HO.out (by simp)⟩, ?_⟩
  exact ((Below.refl _ w).alloc (Nat.le_refl _) _).trans (HB.out.mono (by simp))
end Vr
end
end Go.Proofs.Ytkhmefbmffpkcaa
