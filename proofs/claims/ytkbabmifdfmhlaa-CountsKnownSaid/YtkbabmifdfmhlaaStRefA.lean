/- StRef, StRefYes -/
import Derived.Test.YtkbabmifdfmhlaaStEq
import Derived.Laws.Rows
namespace Go.Proofs.Ytkbabmifdfmhlaa
set_option linter.unusedVariables false
section
open Go.ChangeShapes Go.WideShapes Go.ChangeAt Go.RowKit Go.BigFrame
set_option maxRecDepth 100000
/-- of two numbers the greater, or the less -/
def pk (g : Bool) (m n : Int) : Int := if g then max m n else min m n
def St.pick (g : Bool) (a b : St) : St := if a.B b then ⟨a.d, pk g a.e b.e, pk g a.x b.x, pk g a.y b.y, pk g a.z b.z⟩ else St.zero
theorem pick_join (a b : St) : St.pick true a b = a.join b := by unfold St.pick St.join pk; rfl
theorem pick_meet (a b : St) : St.pick false a b = a.meet b := by unfold St.pick St.meet pk; rfl
section
variable {W : World} {g : Nat} {t : St}
theorem Holds.set (h : Holds W g t) (j : Nat) (v : Int) {t' : St} (ht : t.cells.set j (.int .i64 v) = t'.cells) : Holds (W.setCell ⟨g, j, none⟩ (.int .i64 v)) g t' := by
  have := Row.put h j (.int .i64 v)
  rw [ht] at this; exact this
theorem Holds.far {p : Addr} (h : Holds W g t) (hp : g ≠ p.block) (u : Value) : Holds (W.setCell p u) g t := Row.far h hp u
theorem Holds.all (h : Holds W g t) (a b c d e : Int) : Holds (((((W.setCell ⟨g, 0, none⟩ (.int .i64 a)).setCell ⟨g, 1, none⟩ (.int .i64 b)).setCell ⟨g, 2, none⟩ (.int .i64 c)).setCell ⟨g, 3, none⟩ (.int .i64 d)).setCell ⟨g, 4, none⟩ (.int .i64 e)) g ⟨a, b, c, d, e⟩ :=
  ((((Row.put h 0 (.int .i64 a)).put 1 (.int .i64 b)).put 2 (.int .i64 c)).put 3 (.int .i64 d)).put 4 (.int .i64 e)
theorem Holds.cells5 (h : Holds W g t) : W.cell? ⟨g, 0, none⟩ = some (.int .i64 t.d) ∧ W.cell? ⟨g, 1, none⟩ = some (.int .i64 t.e) ∧ W.cell? ⟨g, 2, none⟩ = some (.int .i64 t.x) ∧ W.cell? ⟨g, 3, none⟩ = some (.int .i64 t.y) ∧ W.cell? ⟨g, 4, none⟩ = some (.int .i64 t.z) :=
  ⟨h.at_ 0, h.at_ 1, h.at_ 2, h.at_ 3, h.at_ 4⟩
theorem Holds.free5 (h : Holds W g t) : W.frozen? ⟨g, 0, none⟩ = false ∧ W.frozen? ⟨g, 1, none⟩ = false ∧ W.frozen? ⟨g, 2, none⟩ = false ∧ W.frozen? ⟨g, 3, none⟩ = false ∧ W.frozen? ⟨g, 4, none⟩ = false :=
  ⟨Row.free h 0, Row.free h 1, Row.free h 2, Row.free h 3, Row.free h 4⟩
end
theorem pk_new {g : Bool} {m n : Int} (h : (decide (m < n) == g) = true) : pk g m n = n := by
  unfold pk
  cases g
  · simp at h; simp; omega
  · simp at h; simp; omega
theorem pk_old {g : Bool} {m n : Int} (h : (decide (m < n) == g) = false) : pk g m n = m := by
  unfold pk
  cases g
  · simp at h; simp; omega
  · simp at h; simp; omega
theorem right_is {f : FuncId} {t : St} {b : Bool} (hb : decide t.R = b) (h : ∀ w, Calls Try.prog f #[t.val] w fun e w' => e = .returned (.bool (decide t.R)) ∧ Below w.heap.size w w') : ∀ w, Calls Try.prog f #[t.val] w fun e w' => e = .returned (.bool b) ∧ Below w.heap.size w w' := by
  subst hb; exact h
theorem zero_made (w : World) : Holds (w.alloc (.cells #[.int .i64 0, .int .i64 0, .int .i64 0, .int .i64 0, .int .i64 0] 25)) w.heap.size St.zero := Holds.made w St.zero
theorem two_results {P : Program} {fn : Func} {p q : Tmp} {ty : TypeId} {v : Value} (h : fn.results = #[.cell p ty, .tmp q]) (tmps : Array Value) (w : World) (g : Nat) (t : TypeId) (cs : Array Value) (fr : Nat × Nat) (d : TypeDesc)
    (hp : tmps.getD p undef = .pointer (some ⟨g, 0, none⟩)) (hg : w.heap[g]? = some (.cells cs t fr))
    (hu : P.underlying ty = some d) (hd : (match d with | .struct _ | .array _ _ => true | _ => false) = true) (hi : (P.info? ty).map (·.size) = some cs.size) (hq : tmps.getD q undef = v) :
    (results fn tmps).run P w = .ok (.tuple #[.agg cs, v]) w := by
  have hp' : tmps[p]?.getD undef = .pointer (some ⟨g, 0, none⟩) := by simpa using hp
  have hq' : tmps[q]?.getD undef = v := by simpa using hq
  simp [results, h, hp', hq', asAddr, run_loadVar_row w g t ty cs fr d hg hu hd hi]
theorem below3 {w w' : World} {a b c : Obj} (h : Below (((w.alloc a).alloc b).alloc c).heap.size (((w.alloc a).alloc b).alloc c) w') : Below w.heap.size w w' :=
  ((((Below.refl _ _).alloc (Nat.le_refl _) _).alloc (by simp) _).alloc (by simp; omega) _).trans (h.mono (by simp; omega))
theorem below_set5 {w w' : World} {g : Nat} {p q r s t : Value} (h : Below w.heap.size w w') (hg : w.heap.size ≤ g) :
    Below w.heap.size w (((((w'.setCell ⟨g, 0, none⟩ p).setCell ⟨g, 1, none⟩ q).setCell ⟨g, 2, none⟩ r).setCell ⟨g, 3, none⟩ s).setCell ⟨g, 4, none⟩ t) :=
  ((((h.setCell hg _).setCell hg _).setCell hg _).setCell hg _).setCell hg _
set_option maxHeartbeats 1000000 in
theorem refBoth_no (a b : St) (g : Bool) (w : World) (h : ¬ a.B b) :
    Calls Try.prog 91 #[a.val, b.val, .bool g] w fun e w' => e = .returned (.tuple #[St.zero.val, .bool false]) ∧ Below w.heap.size w w' := by
  unfold St.B at h
  by_cases ha : a.R
  · by_cases hb : b.R
    · have hd : ¬ a.d = b.d := fun e => h ⟨ha, hb, e⟩
      have HA := Lib.hid (right_is (decide_eq_true ha) (refRight_any a)); have HB := Lib.hid (right_is (decide_eq_true hb) (refRight_any b)); clear ha hb h
      obtain ⟨d, e, x, y, z⟩ := a
      obtain ⟨d', e', x', y', z'⟩ := b
      unfold St.val at *
      simp only at hd HA HB ⊢
      have hd' : (d != d') = true := by simpa using hd
      clear hd
      have hz := zero_made ((w.alloc (.cells #[.int .i64 d, .int .i64 e, .int .i64 x, .int .i64 y, .int .i64 z] 25)).alloc (.cells #[.int .i64 d', .int .i64 e', .int .i64 x', .int .i64 y', .int .i64 z'] 25))
      rw [size_alloc, size_alloc] at hz
      have HZ := Lib.hid hz; clear hz
      go_enter Try.func91, Try.ntmps91
      go_wp2_with fail
      refine (HA.out _).mono ?_; rintro e w1 ⟨rfl, hb1⟩
      obtain ⟨hc1, hf1⟩ := old_cells hb1
      have HB1 := Lib.hid hb1; clear hb1
      go_wp2_with fail
      refine (HB.out _).mono ?_; rintro e w2 ⟨rfl, hb2⟩
      have hb12 := HB1.out.trans (hb2.mono HB1.out.size)
      clear hc1 hf1
      obtain ⟨hc1, hf1⟩ := old_cells hb12
      have HB12 := Lib.hid hb12; clear hb12 hb2
      go_wp2_with fail
      refine bodyPost_ret (v := .tuple #[.agg #[.int .i64 0, .int .i64 0, .int .i64 0, .int .i64 0, .int .i64 0], .bool false]) (two_results rfl _ _ _ 25 _ (0, 0) _ rfl (Holds.all (HZ.out.below HB12.out) 0 0 0 0 0) Try.underlying25 rfl (by kernel_rfl) rfl) rfl ?_
      exact ⟨rfl, below_set5 (g := w.heap.size + 1 + 1) (below3 HB12.out) (by omega)⟩
    · have HA := Lib.hid (right_is (decide_eq_true ha) (refRight_any a)); have HB := Lib.hid (right_is (decide_eq_false hb) (refRight_any b)); clear ha hb h
      obtain ⟨d, e, x, y, z⟩ := a
      obtain ⟨d', e', x', y', z'⟩ := b
      unfold St.val at *
      simp only at HA HB ⊢
      have hz := zero_made ((w.alloc (.cells #[.int .i64 d, .int .i64 e, .int .i64 x, .int .i64 y, .int .i64 z] 25)).alloc (.cells #[.int .i64 d', .int .i64 e', .int .i64 x', .int .i64 y', .int .i64 z'] 25))
      rw [size_alloc, size_alloc] at hz
      have HZ := Lib.hid hz; clear hz
      go_enter Try.func91, Try.ntmps91
      go_wp2_with fail
      refine (HA.out _).mono ?_; rintro e w1 ⟨rfl, hb1⟩
      obtain ⟨hc1, hf1⟩ := old_cells hb1
      have HB1 := Lib.hid hb1; clear hb1
      go_wp2_with fail
      refine (HB.out _).mono ?_; rintro e w2 ⟨rfl, hb2⟩
      have hb12 := HB1.out.trans (hb2.mono HB1.out.size)
      clear hc1 hf1
      obtain ⟨hc1, hf1⟩ := old_cells hb12
      have HB12 := Lib.hid hb12; clear hb12 hb2
      go_wp2_with fail
      refine bodyPost_ret (v := .tuple #[.agg #[.int .i64 0, .int .i64 0, .int .i64 0, .int .i64 0, .int .i64 0], .bool false]) (two_results rfl _ _ _ 25 _ (0, 0) _ rfl (Holds.all (HZ.out.below HB12.out) 0 0 0 0 0) Try.underlying25 rfl (by kernel_rfl) rfl) rfl ?_
      exact ⟨rfl, below_set5 (g := w.heap.size + 1 + 1) (below3 HB12.out) (by omega)⟩
  · have HA := Lib.hid (right_is (decide_eq_false ha) (refRight_any a)); clear ha h
    obtain ⟨d, e, x, y, z⟩ := a
    obtain ⟨d', e', x', y', z'⟩ := b
    unfold St.val at *
    simp only at HA ⊢
    have hz := zero_made ((w.alloc (.cells #[.int .i64 d, .int .i64 e, .int .i64 x, .int .i64 y, .int .i64 z] 25)).alloc (.cells #[.int .i64 d', .int .i64 e', .int .i64 x', .int .i64 y', .int .i64 z'] 25))
    rw [size_alloc, size_alloc] at hz
    have HZ := Lib.hid hz; clear hz
    go_enter Try.func91, Try.ntmps91
    go_wp2_with fail
    refine (HA.out _).mono ?_; rintro e w1 ⟨rfl, hb1⟩
    obtain ⟨hc1, hf1⟩ := old_cells hb1
    have HB1 := Lib.hid hb1; clear hb1
    go_wp2_with fail
    refine bodyPost_ret (v := .tuple #[.agg #[.int .i64 0, .int .i64 0, .int .i64 0, .int .i64 0, .int .i64 0], .bool false]) (two_results rfl _ _ _ 25 _ (0, 0) _ rfl (Holds.all (HZ.out.below HB1.out) 0 0 0 0 0) Try.underlying25 rfl (by kernel_rfl) rfl) rfl ?_
    exact ⟨rfl, below_set5 (g := w.heap.size + 1 + 1) (below3 HB1.out) (by omega)⟩
end

section
open Go.ChangeShapes Go.WideShapes Go.ChangeAt Go.RowKit Go.BigFrame
set_option maxRecDepth 100000
/-- the time so far -/
def St.sofar (g : Bool) (a b : St) (k : Nat) : St := ⟨a.d, pk g a.e b.e, if 0 < k then pk g a.x b.x else a.x, if 1 < k then pk g a.y b.y else a.y, if 2 < k then pk g a.z b.z else a.z⟩
theorem sofar_3 (g : Bool) (a b : St) (h : a.B b) : St.sofar g a b 3 = St.pick g a b := by unfold St.pick; rw [if_pos h]; rfl
theorem same_holds {w : World} {g : Nat} {t t' : St} (h : Holds w g t) (e : t = t') : Holds w g t' := e ▸ h
set_option maxHeartbeats 4000000 in
theorem refBoth_yes (a b : St) (g : Bool) (w : World) (h : a.B b) :
    Calls Try.prog 91 #[a.val, b.val, .bool g] w fun e w' => e = .returned (.tuple #[(St.sofar g a b 3).val, .bool true]) ∧ Below w.heap.size w w' := by
  obtain ⟨ha, hb, hd⟩ := h
  have HA := Lib.hid (right_is (decide_eq_true ha) (refRight_any a)); have HB := Lib.hid (right_is (decide_eq_true hb) (refRight_any b)); clear ha hb
  obtain ⟨d, e, x, y, z⟩ := a
  obtain ⟨d', e', x', y', z'⟩ := b
  unfold St.val at *
  simp only at hd HA HB ⊢
  subst hd
  have hz := zero_made ((w.alloc (.cells #[.int .i64 d, .int .i64 e, .int .i64 x, .int .i64 y, .int .i64 z] 25)).alloc (.cells #[.int .i64 d, .int .i64 e', .int .i64 x', .int .i64 y', .int .i64 z'] 25))
  have hya := ((Holds.made w ⟨d, e, x, y, z⟩).alloc (.cells #[.int .i64 d, .int .i64 e', .int .i64 x', .int .i64 y', .int .i64 z'] 25)).alloc (.cells #[.int .i64 0, .int .i64 0, .int .i64 0, .int .i64 0, .int .i64 0] 25)
  have hyb := (Holds.made (w.alloc (.cells #[.int .i64 d, .int .i64 e, .int .i64 x, .int .i64 y, .int .i64 z] 25)) ⟨d, e', x', y', z'⟩).alloc (.cells #[.int .i64 0, .int .i64 0, .int .i64 0, .int .i64 0, .int .i64 0] 25)
  rw [size_alloc, size_alloc] at hz
  rw [size_alloc] at hyb
  have HZ := Lib.hid hz; have HYA := Lib.hid hya; have HYB := Lib.hid hyb; clear hz hya hyb
  by_cases hg : (decide (e < e') == g) = true
  · have HG := Lib.hid (pk_new hg)
    go_enter Try.func91, Try.ntmps91
    go_wp2_with fail
    refine (HA.out _).mono ?_; rintro e1 w1 ⟨rfl, hb1⟩
    obtain ⟨hc1, hf1⟩ := old_cells hb1
    have HB1 := Lib.hid hb1; clear hb1
    go_wp2_with fail
    refine (HB.out _).mono ?_; rintro e2 w2 ⟨rfl, hb2⟩
    have hb12 := HB1.out.trans (hb2.mono HB1.out.size)
    clear hc1 hf1
    have h0 := HYA.out.below hb12; have h1 := HYB.out.below hb12; have h2 := HZ.out.below hb12
    have hbw := below3 hb12
    have hsz := hb12.size
    simp only [size_alloc] at hsz
    obtain ⟨a0, a1, a2, a3, a4⟩ := h0.cells5
    obtain ⟨b0, b1, b2, b3, b4⟩ := h1.cells5
    simp only at a0 a1 a2 a3 a4 b0 b1 b2 b3 b4
    have H0 := Lib.hid h0; have H1 := Lib.hid h1; have H2 := Lib.hid h2; have HW := Lib.hid hbw
    clear h0 h1 h2 hb12 hb2 hbw HB1 HYA HYB HZ
    have n0 : w.heap.size < w2.heap.size := by omega
    have n1 : w.heap.size + 1 < w2.heap.size := by omega
    have n2 : w.heap.size + 1 + 1 < w2.heap.size := by omega
    have m0 : w.heap.size ≠ w2.heap.size := by omega
    have m1 : w.heap.size + 1 ≠ w2.heap.size := by omega
    have m2 : w.heap.size + 1 + 1 ≠ w2.heap.size := by omega
    clear hsz
    go_wp2_with fail
    go_loopw [9] (fun i wr => ∃ k : Nat, k ≤ 3 ∧ i = .int .i64 k ∧ Holds wr w.heap.size ⟨d, e, x, y, z⟩ ∧ Holds wr (w.heap.size + 1) ⟨d, e', x', y', z'⟩ ∧ Holds wr (w.heap.size + 1 + 1) St.zero ∧ Holds wr w2.heap.size (St.sofar g ⟨d, e, x, y, z⟩ ⟨d, e', x', y', z'⟩ k) ∧ Below w.heap.size w wr) (fun i _ => 3 - (intOf i).toNat)
    case atStart => exact ⟨0, by omega, rfl, H0.out.alloc _, H1.out.alloc _, H2.out.alloc _, same_holds (Holds.made w2 ⟨d, e', x, y, z⟩) (by simp [St.sofar, HG.out]), HW.out.alloc HW.out.size _⟩
    case round =>
      obtain ⟨k, hk, rfl, h0, h1, h2, h3, hbw⟩ := hrel
      obtain ⟨c0, c1, c2, c3, c4⟩ := h0.cells5
      obtain ⟨d0, d1, d2, d3, d4⟩ := h1.cells5
      obtain ⟨f0, f1, f2, f3, f4⟩ := h3.free5
      obtain ⟨e0, e1, e2, e3, e4⟩ := h3.cells5
      simp only at c0 c1 c2 c3 c4 d0 d1 d2 d3 d4
      clear a0 a1 a2 a3 a4 b0 b1 b2 b3 b4 hg
      have HH0 := Lib.hid h0; have HH1 := Lib.hid h1; have HH2 := Lib.hid h2; have HH3 := Lib.hid h3; have HHW := Lib.hid hbw
      clear h0 h1 h2 h3 hbw H0 H1 H2 c0 c1 d0 d1
      have hcase : k = 0 ∨ k = 1 ∨ k = 2 ∨ k = 3 := by omega
      clear hk
      rcases hcase with rfl | rfl | rfl | rfl
      · simp only [St.sofar] at e0 e1 e2 e3 e4
        clear e0 e1
        by_cases hq : (decide (x < x') == g) = true
        · go_wp2_with fail
          go_quiet (fail)
          go_wp2_with fail
          go_roundw
          case rel => exact ⟨1, by omega, rfl, (HH0.out.drewN _).far (by simp; omega) _, (HH1.out.drewN _).far (by simp; omega) _, (HH2.out.drewN _).far (by simp; omega) _, (HH3.out.drewN _).set 2 x' (by simp [St.sofar, pk_new hq]), (below_drewN HHW.out _).setCell (by simp; omega) _⟩
          case measure => simp [intOf]
        · have hq' : (decide (x < x') == g) = false := by simpa using hq
          clear hq
          go_wp2_with fail
          go_quiet (fail)
          go_wp2_with fail
          go_roundw
          case rel => exact ⟨1, by omega, rfl, HH0.out.drewN _, HH1.out.drewN _, HH2.out.drewN _, same_holds (HH3.out.drewN _) (by simp [St.sofar, pk_old hq']), below_drewN HHW.out _⟩
          case measure => simp [intOf]
      · simp only [St.sofar] at e0 e1 e2 e3 e4
        clear e0 e1
        by_cases hq : (decide (y < y') == g) = true
        · go_wp2_with fail
          go_quiet (fail)
          go_wp2_with fail
          go_roundw
          case rel => exact ⟨2, by omega, rfl, (HH0.out.drewN _).far (by simp; omega) _, (HH1.out.drewN _).far (by simp; omega) _, (HH2.out.drewN _).far (by simp; omega) _, (HH3.out.drewN _).set 3 y' (by simp [St.sofar, pk_new hq]), (below_drewN HHW.out _).setCell (by simp; omega) _⟩
          case measure => simp [intOf]
        · have hq' : (decide (y < y') == g) = false := by simpa using hq
          clear hq
          go_wp2_with fail
          go_quiet (fail)
          go_wp2_with fail
          go_roundw
          case rel => exact ⟨2, by omega, rfl, HH0.out.drewN _, HH1.out.drewN _, HH2.out.drewN _, same_holds (HH3.out.drewN _) (by simp [St.sofar, pk_old hq']), below_drewN HHW.out _⟩
          case measure => simp [intOf]
      · simp only [St.sofar] at e0 e1 e2 e3 e4
        clear e0 e1
        by_cases hq : (decide (z < z') == g) = true
        · go_wp2_with fail
          go_quiet (fail)
          go_wp2_with fail
          go_roundw
          case rel => exact ⟨3, by omega, rfl, (HH0.out.drewN _).far (by simp; omega) _, (HH1.out.drewN _).far (by simp; omega) _, (HH2.out.drewN _).far (by simp; omega) _, (HH3.out.drewN _).set 4 z' (by simp [St.sofar, pk_new hq]), (below_drewN HHW.out _).setCell (by simp; omega) _⟩
          case measure => simp [intOf]
        · have hq' : (decide (z < z') == g) = false := by simpa using hq
          clear hq
          go_wp2_with fail
          go_quiet (fail)
          go_wp2_with fail
          go_roundw
          case rel => exact ⟨3, by omega, rfl, HH0.out.drewN _, HH1.out.drewN _, HH2.out.drewN _, same_holds (HH3.out.drewN _) (by simp [St.sofar, pk_old hq']), below_drewN HHW.out _⟩
          case measure => simp [intOf]
      · obtain ⟨z0, z1, z2, z3, z4⟩ := HH2.out.free5
        obtain ⟨y0, y1, y2, y3, y4⟩ := HH2.out.cells5
        obtain ⟨T, hT⟩ : ∃ T, T = St.sofar g ⟨d, e, x, y, z⟩ ⟨d, e', x', y', z'⟩ 3 := ⟨_, rfl⟩
        rw [← hT] at e0 e1 e2 e3 e4
        have HT := Lib.hid hT; clear hT
        go_wp2_with fail
        refine bodyPost_ret (v := .tuple #[.agg #[.int .i64 T.d, .int .i64 T.e, .int .i64 T.x, .int .i64 T.y, .int .i64 T.z], .bool true]) (two_results rfl _ _ _ 25 _ (0, 0) _ rfl (Holds.all HH2.out _ _ _ _ _) Try.underlying25 rfl (by kernel_rfl) rfl) rfl ?_
        exact ⟨by rw [HT.out], below_set5 (g := w.heap.size + 1 + 1) HHW.out (by omega)⟩
  · have hg' : (decide (e < e') == g) = false := by simpa using hg
    have HG := Lib.hid (pk_old hg')
    clear hg
    go_enter Try.func91, Try.ntmps91
    go_wp2_with fail
    refine (HA.out _).mono ?_; rintro e1 w1 ⟨rfl, hb1⟩
    obtain ⟨hc1, hf1⟩ := old_cells hb1
    have HB1 := Lib.hid hb1; clear hb1
    go_wp2_with fail
    refine (HB.out _).mono ?_; rintro e2 w2 ⟨rfl, hb2⟩
    have hb12 := HB1.out.trans (hb2.mono HB1.out.size)
    clear hc1 hf1
    have h0 := HYA.out.below hb12; have h1 := HYB.out.below hb12; have h2 := HZ.out.below hb12
    have hbw := below3 hb12
    have hsz := hb12.size
    simp only [size_alloc] at hsz
    obtain ⟨a0, a1, a2, a3, a4⟩ := h0.cells5
    obtain ⟨b0, b1, b2, b3, b4⟩ := h1.cells5
    simp only at a0 a1 a2 a3 a4 b0 b1 b2 b3 b4
    have H0 := Lib.hid h0; have H1 := Lib.hid h1; have H2 := Lib.hid h2; have HW := Lib.hid hbw
    clear h0 h1 h2 hb12 hb2 hbw HB1 HYA HYB HZ
    have n0 : w.heap.size < w2.heap.size := by omega
    have n1 : w.heap.size + 1 < w2.heap.size := by omega
    have n2 : w.heap.size + 1 + 1 < w2.heap.size := by omega
    have m0 : w.heap.size ≠ w2.heap.size := by omega
    have m1 : w.heap.size + 1 ≠ w2.heap.size := by omega
    have m2 : w.heap.size + 1 + 1 ≠ w2.heap.size := by omega
    clear hsz
    go_wp2_with fail
    go_loopw [9] (fun i wr => ∃ k : Nat, k ≤ 3 ∧ i = .int .i64 k ∧ Holds wr w.heap.size ⟨d, e, x, y, z⟩ ∧ Holds wr (w.heap.size + 1) ⟨d, e', x', y', z'⟩ ∧ Holds wr (w.heap.size + 1 + 1) St.zero ∧ Holds wr w2.heap.size (St.sofar g ⟨d, e, x, y, z⟩ ⟨d, e', x', y', z'⟩ k) ∧ Below w.heap.size w wr) (fun i _ => 3 - (intOf i).toNat)
    case atStart => exact ⟨0, by omega, rfl, H0.out.alloc _, H1.out.alloc _, H2.out.alloc _, same_holds (Holds.made w2 ⟨d, e, x, y, z⟩) (by simp [St.sofar, HG.out]), HW.out.alloc HW.out.size _⟩
    case round =>
      obtain ⟨k, hk, rfl, h0, h1, h2, h3, hbw⟩ := hrel
      obtain ⟨c0, c1, c2, c3, c4⟩ := h0.cells5
      obtain ⟨d0, d1, d2, d3, d4⟩ := h1.cells5
      obtain ⟨f0, f1, f2, f3, f4⟩ := h3.free5
      obtain ⟨e0, e1, e2, e3, e4⟩ := h3.cells5
      simp only at c0 c1 c2 c3 c4 d0 d1 d2 d3 d4
      clear a0 a1 a2 a3 a4 b0 b1 b2 b3 b4 hg'
      have HH0 := Lib.hid h0; have HH1 := Lib.hid h1; have HH2 := Lib.hid h2; have HH3 := Lib.hid h3; have HHW := Lib.hid hbw
      clear h0 h1 h2 h3 hbw H0 H1 H2 c0 c1 d0 d1
      have hcase : k = 0 ∨ k = 1 ∨ k = 2 ∨ k = 3 := by omega
      clear hk
      rcases hcase with rfl | rfl | rfl | rfl
      · simp only [St.sofar] at e0 e1 e2 e3 e4
        clear e0 e1
        by_cases hq : (decide (x < x') == g) = true
        · go_wp2_with fail
          go_quiet (fail)
          go_wp2_with fail
          go_roundw
          case rel => exact ⟨1, by omega, rfl, (HH0.out.drewN _).far (by simp; omega) _, (HH1.out.drewN _).far (by simp; omega) _, (HH2.out.drewN _).far (by simp; omega) _, (HH3.out.drewN _).set 2 x' (by simp [St.sofar, pk_new hq]), (below_drewN HHW.out _).setCell (by simp; omega) _⟩
          case measure => simp [intOf]
        · have hq' : (decide (x < x') == g) = false := by simpa using hq
          clear hq
          go_wp2_with fail
          go_quiet (fail)
          go_wp2_with fail
          go_roundw
          case rel => exact ⟨1, by omega, rfl, HH0.out.drewN _, HH1.out.drewN _, HH2.out.drewN _, same_holds (HH3.out.drewN _) (by simp [St.sofar, pk_old hq']), below_drewN HHW.out _⟩
          case measure => simp [intOf]
      · simp only [St.sofar] at e0 e1 e2 e3 e4
        clear e0 e1
        by_cases hq : (decide (y < y') == g) = true
        · go_wp2_with fail
          go_quiet (fail)
          go_wp2_with fail
          go_roundw
          case rel => exact ⟨2, by omega, rfl, (HH0.out.drewN _).far (by simp; omega) _, (HH1.out.drewN _).far (by simp; omega) _, (HH2.out.drewN _).far (by simp; omega) _, (HH3.out.drewN _).set 3 y' (by simp [St.sofar, pk_new hq]), (below_drewN HHW.out _).setCell (by simp; omega) _⟩
          case measure => simp [intOf]
        · have hq' : (decide (y < y') == g) = false := by simpa using hq
          clear hq
          go_wp2_with fail
          go_quiet (fail)
          go_wp2_with fail
          go_roundw
          case rel => exact ⟨2, by omega, rfl, HH0.out.drewN _, HH1.out.drewN _, HH2.out.drewN _, same_holds (HH3.out.drewN _) (by simp [St.sofar, pk_old hq']), below_drewN HHW.out _⟩
          case measure => simp [intOf]
      · simp only [St.sofar] at e0 e1 e2 e3 e4
        clear e0 e1
        by_cases hq : (decide (z < z') == g) = true
        · go_wp2_with fail
          go_quiet (fail)
          go_wp2_with fail
          go_roundw
          case rel => exact ⟨3, by omega, rfl, (HH0.out.drewN _).far (by simp; omega) _, (HH1.out.drewN _).far (by simp; omega) _, (HH2.out.drewN _).far (by simp; omega) _, (HH3.out.drewN _).set 4 z' (by simp [St.sofar, pk_new hq]), (below_drewN HHW.out _).setCell (by simp; omega) _⟩
          case measure => simp [intOf]
        · have hq' : (decide (z < z') == g) = false := by simpa using hq
          clear hq
          go_wp2_with fail
          go_quiet (fail)
          go_wp2_with fail
          go_roundw
          case rel => exact ⟨3, by omega, rfl, HH0.out.drewN _, HH1.out.drewN _, HH2.out.drewN _, same_holds (HH3.out.drewN _) (by simp [St.sofar, pk_old hq']), below_drewN HHW.out _⟩
          case measure => simp [intOf]
      · obtain ⟨z0, z1, z2, z3, z4⟩ := HH2.out.free5
        obtain ⟨y0, y1, y2, y3, y4⟩ := HH2.out.cells5
        obtain ⟨T, hT⟩ : ∃ T, T = St.sofar g ⟨d, e, x, y, z⟩ ⟨d, e', x', y', z'⟩ 3 := ⟨_, rfl⟩
        rw [← hT] at e0 e1 e2 e3 e4
        have HT := Lib.hid hT; clear hT
        go_wp2_with fail
        refine bodyPost_ret (v := .tuple #[.agg #[.int .i64 T.d, .int .i64 T.e, .int .i64 T.x, .int .i64 T.y, .int .i64 T.z], .bool true]) (two_results rfl _ _ _ 25 _ (0, 0) _ rfl (Holds.all HH2.out _ _ _ _ _) Try.underlying25 rfl (by kernel_rfl) rfl) rfl ?_
        exact ⟨by rw [HT.out], below_set5 (g := w.heap.size + 1 + 1) HHW.out (by omega)⟩
end
end Go.Proofs.Ytkbabmifdfmhlaa
