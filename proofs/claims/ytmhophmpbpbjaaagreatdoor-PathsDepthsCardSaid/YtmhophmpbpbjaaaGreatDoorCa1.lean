/- Quiet, StEq, StRight, SumMath, SmVal -/
import Derived.Test.YtmhophmpbpbjaaaGreatDoorCa0
import Derived.Laws.StructEq
namespace Go.Proofs.YtmhophmpbpbjaaaGreatDoor
set_option linter.unusedVariables false
section
open Go.RowKit
section
variable {P : Program} {C : World → Prop} {K : Act → Prop} {a : Act} {o : Oper} {ops : Array Oper}
theorem q_load {v p : Value} (t : TypeId) (x : Operand) (ho : o.op = .load t x) (hw : Region.wanted o (yielded ops a.tmps) = true) (hx : a.eval x = p) (hr : ∀ w', C w' → (Instr.loadAt t p).run P w' = .ok v w') (hk : K (a.put o.dst v)) :
    if Region.wanted o (yielded ops a.tmps) then o.quiet P a C K else K (a.put o.dst undef) := by
  rw [if_pos hw]
  refine ⟨v, fun w' hw' => ?_, hk⟩
  unfold Oper.quietAt execOp
  simp only [ho, hx, Sem.run_bind, hr w' hw', Result.andThen_ok, Sem.run_pure, Oper.quietUpon]
  exact ⟨trivial, trivial⟩
end
def Holds (w : World) (g : Nat) (t : St) : Prop := Row w g 49 t.cells
section
variable {W : World} {g : Nat} {t : St}
theorem Holds.lt (h : Holds W g t) : g < W.heap.size := Row.lt h
theorem Holds.below {w' : World} (h : Holds W g t) (hb : Below W.heap.size W w') : Holds w' g t := Row.below h hb h.lt
theorem Holds.alloc (h : Holds W g t) (o : Obj) : Holds (W.alloc o) g t := Row.alloc h o
theorem Holds.drewN (h : Holds W g t) (n : Nat) : Holds (W.drewN n) g t := h
theorem Holds.made (w : World) (t : St) : Holds (w.alloc (.cells #[.int .i64 t.d, .int .i64 t.e, .int .i64 t.x, .int .i64 t.y, .int .i64 t.z] 49)) w.heap.size t := Row.made w _ _
theorem Holds.at_ (h : Holds W g t) (j : Nat) : W.cell? ⟨g, j, none⟩ = t.cells[j]? := Row.cell h j
theorem load_t (h : Holds W g t) : ∀ w', Below W.heap.size W w' → (Instr.loadAt 49 (.pointer (some ⟨g, 0, none⟩))).run Tryz.prog w' = .ok (.agg #[.int .i64 t.d, .int .i64 t.e, .int .i64 t.x, .int .i64 t.y, .int .i64 t.z]) w' :=
  fun w' hb => run_loadAt_part g 0 49 _ t.cells (fun j v hj => by rw [add_at, (h.below hb).at_, Nat.zero_add]; exact hj) Tryz.underlying49 rfl (by kernel_rfl)
theorem load_l (h : Holds W g t) : ∀ w', Below W.heap.size W w' → (Instr.loadAt 42 (.pointer (some ⟨g, 2, none⟩))).run Tryz.prog w' = .ok (.agg #[.int .i64 t.x, .int .i64 t.y, .int .i64 t.z]) w' :=
  fun w' hb => run_loadAt_part g 2 42 _ [.int .i64 t.x, .int .i64 t.y, .int .i64 t.z] (fun j v hj => by rw [add_at, (h.below hb).at_, Nat.add_comm]; exact hj) Tryz.underlying42 rfl (by kernel_rfl)
theorem load_1 (h : Holds W g t) (j : Nat) {v : Int} (hj : t.cells[j]? = some (.int .i64 v)) : ∀ w', Below W.heap.size W w' → (Instr.loadAt 3 (.pointer (some ⟨g, j, none⟩))).run Tryz.prog w' = .ok (.int .i64 v) w' := by
  intro w' hb
  have hc := ((h.below hb).at_ j).trans hj
  go_simp
theorem load_d (h : Holds W g t) : ∀ w', Below W.heap.size W w' → (Instr.loadAt 3 (.pointer (some ⟨g, 0, none⟩))).run Tryz.prog w' = .ok (.int .i64 t.d) w' := load_1 h 0 rfl
theorem load_e (h : Holds W g t) : ∀ w', Below W.heap.size W w' → (Instr.loadAt 3 (.pointer (some ⟨g, 1, none⟩))).run Tryz.prog w' = .ok (.int .i64 t.e) w' := load_1 h 1 rfl
theorem load_x (h : Holds W g t) : ∀ w', Below W.heap.size W w' → (Instr.loadAt 3 (.pointer (some ⟨g, 2, none⟩))).run Tryz.prog w' = .ok (.int .i64 t.x) w' := load_1 h 2 rfl
theorem load_y (h : Holds W g t) : ∀ w', Below W.heap.size W w' → (Instr.loadAt 3 (.pointer (some ⟨g, 3, none⟩))).run Tryz.prog w' = .ok (.int .i64 t.y) w' := load_1 h 3 rfl
theorem load_z (h : Holds W g t) : ∀ w', Below W.heap.size W w' → (Instr.loadAt 3 (.pointer (some ⟨g, 4, none⟩))).run Tryz.prog w' = .ok (.int .i64 t.z) w' := load_1 h 4 rfl
end
end

section
open Go.ChangeShapes Go.WideShapes Go.ChangeAt Go.RowKit Go.BigFrame
set_option maxRecDepth 100000
theorem eq_int (d : Nat) (a b : Int) (w : World) : (Op.equalIn (d + 1) 3 (.int .i64 a) (.int .i64 b)).run Tryz.prog w = .ok (a == b) w := run_equalIn_int w d 3 .i64 .i64 a b Tryz.underlying3
theorem range3 : List.range' 0 3 = [0, 1, 2] := rfl
theorem eq3 (d : Nat) (x y z p q r : Int) (w : World) : (Op.equalIn (d + 2) 42 (.agg #[.int .i64 x, .int .i64 y, .int .i64 z]) (.agg #[.int .i64 p, .int .i64 q, .int .i64 r])).run Tryz.prog w = .ok (decide (x = p ∧ y = q ∧ z = r)) w := by
  have hu := Tryz.underlying42
  have hi : ∀ w, (isAgg 3).run Tryz.prog w = .ok false w := fun w => by go_simp
  unfold Op.equalIn
  simp [run_underlying hu, range3, part, hi, eq_int, Sem.run_bind]
  by_cases h1 : x = p
  · by_cases h2 : y = q
    · by_cases h3 : z = r
      · simp [h1, h2, h3]
      · simp [h1, h2, h3]
    · simp [h1, h2]
  · simp [h1]
section
variable {P : Program} {C : World → Prop} {K : Act → Prop} {a : Act} {o : Oper} {ops : Array Oper}
theorem q_bin {v p q : Value} (op : BinOp) (t u : TypeId) (x y : Operand) (ho : o.op = .binOp op t x y u) (hw : Region.wanted o (yielded ops a.tmps) = true) (hx : a.eval x = p) (hy : a.eval y = q)
    (hr : ∀ w', (do eqGuard op t x y p q; binOp op t p q : Sem Value).run P w' = .ok v w') (hk : K (a.put o.dst v)) :
    if Region.wanted o (yielded ops a.tmps) then o.quiet P a C K else K (a.put o.dst undef) := by
  rw [if_pos hw]
  refine ⟨v, fun w' hw' => ?_, hk⟩
  unfold Oper.quietAt execOp
  simp only [ho, hx, hy]
  rw [Sem.run_bind, hr w']
  simp only [Result.andThen_ok, Sem.run_pure, Oper.quietUpon]
  exact ⟨trivial, trivial⟩
end
def eqL (a b c p q r : Int) : Bool := decide (a = p ∧ b = q ∧ c = r)
def eqB (a b : St) : Bool := decide (a = b)
theorem eq_l (x y : Operand) (a b c p q r : Int) : ∀ w, (do eqGuard .eql 42 x y (.agg #[.int .i64 a, .int .i64 b, .int .i64 c]) (.agg #[.int .i64 p, .int .i64 q, .int .i64 r]); binOp .eql 42 (.agg #[.int .i64 a, .int .i64 b, .int .i64 c]) (.agg #[.int .i64 p, .int .i64 q, .int .i64 r]) : Sem Value).run Tryz.prog w = .ok (.bool (eqL a b c p q r)) w := by
  intro w
  rw [Sem.run_bind, run_eqGuard_agg w _ _ _ _ _ _ (by kernel_rfl), Result.andThen_ok, run_eql_struct, eq3 9998]
  rfl
end

section
open Go.ChangeShapes Go.WideShapes Go.ChangeAt Go.RowKit Go.BigFrame
set_option maxRecDepth 100000
theorem R_near (t : St) (n : Nat) (hd : t.d = n) (h3 : n ≤ 3) (h0 : 0 ≤ t.e) (h1 : t.e < 1000) : (t.x = nk n 0 t.x ∧ t.y = nk n 1 t.y ∧ t.z = nk n 2 t.z) ↔ t.R := by
  have k : ∀ (j : Nat) (v : Int), v = nk n j v ↔ (0 ≤ v ∧ v < 16 ∧ (t.d ≤ j → v = 0)) := by
    intro j v
    unfold nk
    by_cases h : j < n
    · rw [if_pos h, eq_comm, nr_eq]; omega
    · rw [if_neg h]; omega
  rw [k 0, k 1, k 2]
  unfold St.R
  omega
set_option maxHeartbeats 1000000 in
theorem right_any (t : St) (w : World) : Calls Tryz.prog 96 #[t.val] w fun e w' => e = .returned (.bool (decide t.R)) ∧ Below w.heap.size w w' := by
  by_cases hd : t.d < 0 ∨ 3 < t.d ∨ t.e < 0 ∨ 1000 ≤ t.e
  · have hf : decide t.R = false := by rw [decide_eq_false_iff_not]; unfold St.R; omega
    rw [hf]; clear hf
    obtain ⟨d, e, x, y, z⟩ := t
    unfold St.val
    simp only at hd ⊢
    have hcase : d < 0 ∨ (0 ≤ d ∧ 3 < d) ∨ (0 ≤ d ∧ d ≤ 3 ∧ e < 0) ∨ (0 ≤ d ∧ d ≤ 3 ∧ 0 ≤ e ∧ 1000 ≤ e) := by omega
    clear hd
    rcases hcase with h | ⟨h, h2⟩ | ⟨h, h2, h3⟩ | ⟨h, h2, h3, h4⟩
    · have t1 : decide (0 ≤ d) = false := by simp; omega
      have t1' : decide (d ≥ 0) = false := by simp; omega
      go_enter Tryz.func96, Tryz.ntmps96
      go_wp2_with fail
      go_quiet (fail)
      go_wp2_with fail
      go_ret
      exact ⟨rfl, below_drewN ((Below.refl _ _).alloc (Nat.le_refl _) _) _⟩
    · have t1 : decide (d ≤ 3) = false := by simp; omega
      go_enter Tryz.func96, Tryz.ntmps96
      go_wp2_with fail
      go_quiet (fail)
      go_wp2_with fail
      go_ret
      exact ⟨rfl, below_drewN ((Below.refl _ _).alloc (Nat.le_refl _) _) _⟩
    · have t1 : decide (0 ≤ e) = false := by simp; omega
      have t1' : decide (e ≥ 0) = false := by simp; omega
      go_enter Tryz.func96, Tryz.ntmps96
      go_wp2_with fail
      go_quiet (fail)
      go_wp2_with fail
      go_ret
      exact ⟨rfl, below_drewN ((Below.refl _ _).alloc (Nat.le_refl _) _) _⟩
    · have t1 : decide (e < 1000) = false := by simp; omega
      go_enter Tryz.func96, Tryz.ntmps96
      go_wp2_with fail
      go_quiet (fail)
      go_wp2_with fail
      go_ret
      exact ⟨rfl, below_drewN ((Below.refl _ _).alloc (Nat.le_refl _) _) _⟩
  · obtain ⟨n, hn⟩ : ∃ n : Nat, t.d = n := ⟨t.d.toNat, by omega⟩
    have hr := R_near t n hn (by omega) (by omega) (by omega)
    have hcall := fun w => nearest_any t.d t.e t.x t.y t.z n w hn (by omega)
    have hdec : decide t.R = decide (t.x = nk n 0 t.x ∧ t.y = nk n 1 t.y ∧ t.z = nk n 2 t.z) := by rw [decide_eq_decide]; exact hr.symm
    rw [hdec, show decide (t.x = nk n 0 t.x ∧ t.y = nk n 1 t.y ∧ t.z = nk n 2 t.z) = eqL t.x t.y t.z (nk n 0 t.x) (nk n 1 t.y) (nk n 2 t.z) from rfl]; clear hdec hr
    obtain ⟨d, e, x, y, z⟩ := t
    unfold St.val
    simp only at hd hn hcall ⊢
    have g0 : 0 ≤ d := by omega
    have g1 : d ≤ 3 := by omega
    have g2 : 0 ≤ e := by omega
    have g3 : e < 1000 := by omega
    clear hd hn
    generalize nk n 0 x = p at *
    generalize nk n 1 y = q at *
    generalize nk n 2 z = r at *
    have HC := Lib.hid hcall; clear hcall
    go_enter Tryz.func96, Tryz.ntmps96
    go_wp2_with fail
    have hT : Holds (w.alloc (.cells #[.int .i64 d, .int .i64 e, .int .i64 x, .int .i64 y, .int .i64 z] 49)) w.heap.size ⟨d, e, x, y, z⟩ := Holds.made w ⟨d, e, x, y, z⟩
    have HT := Lib.hid hT; clear hT
    refine wp_region_below (by kernel_rfl) (by kernel_rfl) ?_
    repeat (refine wpQuiet_step (fun K hK => ?_); (first
      | ((first
        | (refine q_load (p := .pointer (some ⟨w.heap.size, 0, none⟩)) 49 _ rfl rfl rfl (load_t HT.out) ?_)
        | (refine q_load (p := .pointer (some ⟨w.heap.size, 2, none⟩)) 42 _ rfl rfl rfl (load_l HT.out) ?_)
        | (refine q_load (p := .pointer (some ⟨w.heap.size, 0, none⟩)) 3 _ rfl rfl rfl (load_d HT.out) ?_)
        | (refine q_load (p := .pointer (some ⟨w.heap.size, 1, none⟩)) 3 _ rfl rfl rfl (load_e HT.out) ?_)
        | (refine q_load (p := .pointer (some ⟨w.heap.size, 2, none⟩)) 3 _ rfl rfl rfl (load_x HT.out) ?_)
        | (refine q_load (p := .pointer (some ⟨w.heap.size, 3, none⟩)) 3 _ rfl rfl rfl (load_y HT.out) ?_)
        | (refine q_load (p := .pointer (some ⟨w.heap.size, 4, none⟩)) 3 _ rfl rfl rfl (load_z HT.out) ?_)
        | (refine q_bin _ _ _ _ _ rfl rfl rfl rfl (eq_l _ _ _ _ _ _ _ _) ?_)); go_simp; (with_reducible refine hK _ ?_))
      | (go_simp; (first
        | (with_reducible refine hK _ ?_)
        | (with_reducible refine ⟨_, fun _ _ => rfl, hK _ ?_⟩)
        | (with_reducible refine ⟨_, fun _ hb => (HC.out _).mono fun _ _ h => ⟨h.1, hb.trans (h.2.mono (by simpa using hb.size))⟩, hK _ ?_⟩)))); clear hK K)
    refine wpQuiet_nil ?_
    intro w2 hb2
    go_wp2_with fail
    go_ret
    exact ⟨rfl, ((Below.refl _ _).alloc (Nat.le_refl _) _).trans (hb2.mono (by simp))⟩
end

section
structure Sm where
  fr : Int
  to : Int
  kp : Int
  ad : Int
  t0 : Int
  t1 : Int
  t2 : Int
theorem Sm.ext' {a b : Sm} (h1 : a.fr = b.fr) (h2 : a.to = b.to) (h3 : a.kp = b.kp) (h4 : a.ad = b.ad) (h5 : a.t0 = b.t0) (h6 : a.t1 = b.t1) (h7 : a.t2 = b.t2) : a = b := by
  cases a; cases b; simp at *; simp [h1, h2, h3, h4, h5, h6, h7]
theorem Sm.ext_iff' {a b : Sm} : a = b ↔ a.fr = b.fr ∧ a.to = b.to ∧ a.kp = b.kp ∧ a.ad = b.ad ∧ a.t0 = b.t0 ∧ a.t1 = b.t1 ∧ a.t2 = b.t2 :=
  ⟨by rintro rfl; simp, fun ⟨h1, h2, h3, h4, h5, h6, h7⟩ => Sm.ext' h1 h2 h3 h4 h5 h6 h7⟩
instance : DecidableEq Sm := fun a b => decidable_of_iff _ Sm.ext_iff'.symm
def Sm.tl (s : Sm) (i : Int) : Int := if i = 0 then s.t0 else if i = 1 then s.t1 else if i = 2 then s.t2 else 0
def Sm.R (s : Sm) : Prop := (0 ≤ s.fr ∧ s.fr ≤ 3) ∧ (0 ≤ s.to ∧ s.to ≤ 3) ∧ (0 ≤ s.kp ∧ s.kp ≤ s.fr ∧ s.kp ≤ s.to) ∧ (0 ≤ s.ad ∧ s.ad < 16 ∧ (s.kp = 0 → s.ad = 0)) ∧
  (0 ≤ s.t0 ∧ s.t0 < 16 ∧ (s.to - s.kp ≤ 0 → s.t0 = 0)) ∧ (0 ≤ s.t1 ∧ s.t1 < 16 ∧ (s.to - s.kp ≤ 1 → s.t1 = 0)) ∧ (0 ≤ s.t2 ∧ s.t2 < 16 ∧ (s.to - s.kp ≤ 2 → s.t2 = 0))
instance (s : Sm) : Decidable s.R := inferInstanceAs (Decidable (_ ∧ _))
def Sm.N (s : Sm) (i : Int) : Int := if s.kp ≤ i then s.tl (i - s.kp) else if i = s.kp - 1 then s.ad else 0
def St.at_ (t : St) (i : Int) : Int := if i = 0 then t.x else if i = 1 then t.y else if i = 2 then t.z else 0
section
variable {a b c s p q : Sm} {t u v w : St} {i : Int}
theorem Sm.tl_R (h : s.R) (i : Int) : 0 ≤ s.tl i ∧ s.tl i < 16 := by
  unfold Sm.R at h; unfold Sm.tl; repeat' split
  all_goals omega
theorem Sm.N_R (h : s.R) (i : Int) : 0 ≤ s.N i ∧ s.N i < 16 := by
  have h1 := Sm.tl_R h (i - s.kp)
  unfold Sm.R at h; unfold Sm.N; repeat' split
  all_goals omega
theorem Sm.N_zero (h : s.R) (hi : s.to ≤ i) : s.N i = 0 := by
  unfold Sm.R at h; unfold Sm.N Sm.tl; repeat' split
  all_goals omega
theorem St.at_R (h : t.R) (i : Int) : 0 ≤ t.at_ i ∧ t.at_ i < 16 := by
  unfold St.R at h; unfold St.at_; repeat' split
  all_goals omega
theorem Sm.N_ext (ha : a.R) (hb : b.R) (h1 : a.fr = b.fr) (h2 : a.to = b.to) (h3 : a.kp = b.kp) (h : ∀ i, 0 ≤ i → i < 3 → a.N i = b.N i) : a = b := by
  have g0 := h 0 (by omega) (by omega)
  have g1 := h 1 (by omega) (by omega)
  have g2 := h 2 (by omega) (by omega)
  unfold Sm.R at ha hb
  unfold Sm.N Sm.tl at g0 g1 g2
  rw [← h3] at g0 g1 g2
  have hk : a.kp = 0 ∨ a.kp = 1 ∨ a.kp = 2 ∨ a.kp = 3 := by omega
  rcases hk with e | e | e | e
  · rw [e] at g0 g1 g2; simp at g0 g1 g2
    exact Sm.ext' h1 h2 h3 (by omega) g0 g1 g2
  · rw [e] at g0 g1 g2; simp at g0 g1 g2
    exact Sm.ext' h1 h2 h3 g0 g1 g2 (by omega)
  · rw [e] at g0 g1 g2; simp at g0 g1 g2
    exact Sm.ext' h1 h2 h3 g1 g2 (by omega) (by omega)
  · rw [e] at g0 g1 g2; simp at g0 g1 g2
    exact Sm.ext' h1 h2 h3 g2 (by omega) (by omega) (by omega)
/-! applied -/
def Sm.val (s : Sm) (t : St) (i : Int) : Int := if i < s.to then s.N i + (if i < s.kp then t.at_ i else 0) else 0
def Sm.apply (s : Sm) (t : St) : Option St :=
  if s.R ∧ t.R ∧ t.d = s.fr ∧ s.val t 0 < 16 ∧ s.val t 1 < 16 ∧ s.val t 2 < 16 then some ⟨s.to, t.e, s.val t 0, s.val t 1, s.val t 2⟩ else none
theorem Sm.apply_some : s.apply t = some u ↔ (s.R ∧ t.R ∧ t.d = s.fr ∧ s.val t 0 < 16 ∧ s.val t 1 < 16 ∧ s.val t 2 < 16) ∧ u = ⟨s.to, t.e, s.val t 0, s.val t 1, s.val t 2⟩ := by
  unfold Sm.apply
  split
  · rename_i h; simp only [Option.some.injEq]; exact ⟨fun e => ⟨h, e.symm⟩, fun e => e.2.symm⟩
  · rename_i h; simp only [reduceCtorEq, false_iff]; exact fun e => h e.1
theorem Sm.val_R (h : s.R) (k : t.R) (i : Int) : 0 ≤ s.val t i := by
  have h1 := Sm.N_R h i; have h2 := St.at_R k i
  unfold Sm.val; repeat' split
  all_goals omega
theorem Sm.val_out (hi : s.to ≤ i) : s.val t i = 0 := by unfold Sm.val; rw [if_neg (by omega)]
theorem Sm.apply_R (h : s.apply t = some u) : u.R ∧ u.d = s.to ∧ u.e = t.e ∧ ∀ i, 0 ≤ i → i < 3 → u.at_ i = s.val t i := by
  obtain ⟨⟨h1, h2, h3, h4, h5, h6⟩, rfl⟩ := Sm.apply_some.1 h
  have g0 := Sm.val_R h1 h2 0; have g1 := Sm.val_R h1 h2 1; have g2 := Sm.val_R h1 h2 2
  have z0 := Sm.val_out (s := s) (t := t) (i := 0); have z1 := Sm.val_out (s := s) (t := t) (i := 1); have z2 := Sm.val_out (s := s) (t := t) (i := 2)
  have h1' := h1; have h2' := h2
  unfold Sm.R at h1'; unfold St.R at h2'
  refine ⟨?_, rfl, rfl, fun i hi hi3 => ?_⟩
  · unfold St.R; simp only
    refine ⟨by omega, by omega, ⟨g0, h4, z0⟩, ⟨g1, h5, z1⟩, ⟨g2, h6, z2⟩⟩
  · have : i = 0 ∨ i = 1 ∨ i = 2 := by omega
    rcases this with e | e | e <;> subst e <;> simp [St.at_]
/-! one behind the other -/
def Sm.M (a b : Sm) (i : Int) : Int := if i < b.to then (if i < b.kp then a.N i + b.N i else b.N i) else 0
def Sm.seq (a b : Sm) : Sm :=
  ⟨a.fr, b.to, min a.kp b.kp, if min a.kp b.kp = 0 then 0 else a.M b (min a.kp b.kp - 1), a.M b (min a.kp b.kp), a.M b (min a.kp b.kp + 1), a.M b (min a.kp b.kp + 2)⟩
def Sm.thenOk (a b : Sm) : Prop := a.R ∧ b.R ∧ a.to = b.fr ∧ a.M b 0 < 16 ∧ a.M b 1 < 16 ∧ a.M b 2 < 16
instance : Decidable (a.thenOk b) := inferInstanceAs (Decidable (_ ∧ _))
theorem Sm.M_R (ha : a.R) (hb : b.R) (i : Int) : 0 ≤ a.M b i := by
  have h1 := Sm.N_R ha i; have h2 := Sm.N_R hb i
  unfold Sm.M; repeat' split
  all_goals omega
theorem Sm.M_out (hi : b.to ≤ i) : a.M b i = 0 := by unfold Sm.M; rw [if_neg (by omega)]
theorem Sm.M_lt (h : a.thenOk b) (hi : 0 ≤ i) : a.M b i < 16 := by
  obtain ⟨ha, hb, _, h0, h1, h2⟩ := h
  have : i = 0 ∨ i = 1 ∨ i = 2 ∨ 3 ≤ i := by omega
  rcases this with e | e | e | e
  · rw [e]; exact h0
  · rw [e]; exact h1
  · rw [e]; exact h2
  · have hb' := hb; unfold Sm.R at hb'
    rw [Sm.M_out (by omega)]; omega
theorem Sm.seq_R (h : a.thenOk b) : (a.seq b).R := by
  obtain ⟨ha, hb, ht, -⟩ := id h
  have ha' := ha; have hb' := hb
  unfold Sm.R at ha' hb'
  have g : ∀ i, 0 ≤ a.M b i := Sm.M_R ha hb
  have l : ∀ i, 0 ≤ i → a.M b i < 16 := fun i hi => Sm.M_lt h hi
  have z : ∀ i, b.to ≤ i → a.M b i = 0 := fun i hi => Sm.M_out hi
  have hk0 : 0 ≤ min a.kp b.kp := by omega
  unfold Sm.R Sm.seq
  simp only
  refine ⟨by omega, by omega, by omega, ⟨?_, ?_, ?_⟩, ⟨g _, l _ hk0, fun hh => z _ (by omega)⟩, ⟨g _, l _ (by omega), fun hh => z _ (by omega)⟩, ⟨g _, l _ (by omega), fun hh => z _ (by omega)⟩⟩
  · split; omega; exact g _
  · split; omega; exact l _ (by omega)
  · intro hh; rw [if_pos hh]
theorem Sm.seq_N (ha : a.R) (hb : b.R) (ht : a.to = b.fr) (hi : 0 ≤ i) (hi3 : i < 3) : (a.seq b).N i = a.M b i := by
  have ha' := ha; have hb' := hb
  unfold Sm.R at ha' hb'
  have hkm : 0 ≤ min a.kp b.kp := by omega
  have hak : ∀ j, j < a.kp - 1 → a.N j = 0 := fun j hj => by unfold Sm.N; rw [if_neg (by omega), if_neg (by omega)]
  have hbk : ∀ j, j < b.kp - 1 → b.N j = 0 := fun j hj => by unfold Sm.N; rw [if_neg (by omega), if_neg (by omega)]
  show (if min a.kp b.kp ≤ i then (a.seq b).tl (i - min a.kp b.kp) else if i = min a.kp b.kp - 1 then (if min a.kp b.kp = 0 then 0 else a.M b (min a.kp b.kp - 1)) else 0) = _
  by_cases h1 : min a.kp b.kp ≤ i
  · rw [if_pos h1]
    unfold Sm.tl
    have : i - min a.kp b.kp = 0 ∨ i - min a.kp b.kp = 1 ∨ i - min a.kp b.kp = 2 := by omega
    rcases this with e | e | e
    · rw [if_pos e]; show a.M b (min a.kp b.kp) = _; rw [show min a.kp b.kp = i by omega]
    · rw [if_neg (by omega), if_pos e]; show a.M b (min a.kp b.kp + 1) = _; rw [show min a.kp b.kp + 1 = i by omega]
    · rw [if_neg (by omega), if_neg (by omega), if_pos e]; show a.M b (min a.kp b.kp + 2) = _; rw [show min a.kp b.kp + 2 = i by omega]
  · rw [if_neg h1]
    by_cases h2 : i = min a.kp b.kp - 1
    · rw [if_pos h2, if_neg (by omega), h2]
    · rw [if_neg h2]
      unfold Sm.M
      rw [if_pos (by omega), if_pos (by omega), hak i (by omega), hbk i (by omega)]; rfl
theorem Sm.M_assoc (h1 : a.thenOk b) (h2 : b.thenOk c) (hi : 0 ≤ i) (hi3 : i < 3) : (a.seq b).M c i = a.M (b.seq c) i := by
  obtain ⟨ha, hb, hab, -⟩ := id h1
  obtain ⟨-, hc, hbc, -⟩ := id h2
  have ha' := ha; have hb' := hb; have hc' := hc
  unfold Sm.R at ha' hb' hc'
  show (if i < c.to then (if i < c.kp then (a.seq b).N i + c.N i else c.N i) else 0) = (if i < c.to then (if i < min b.kp c.kp then a.N i + (b.seq c).N i else (b.seq c).N i) else 0)
  by_cases g1 : i < c.to
  · rw [if_pos g1, if_pos g1, Sm.seq_N ha hb hab hi hi3, Sm.seq_N hb hc hbc hi hi3]
    unfold Sm.M
    rw [if_pos g1]
    by_cases g2 : i < c.kp
    · rw [if_pos g2, if_pos g2, if_pos (show i < b.to by omega)]
      by_cases g3 : i < b.kp
      · rw [if_pos g3, if_pos (by omega)]; omega
      · rw [if_neg g3, if_neg (by omega)]
    · rw [if_neg g2, if_neg (by omega), if_neg g2]
  · rw [if_neg g1, if_neg g1]
theorem Sm.seq_assoc (h1 : a.thenOk b) (h2 : b.thenOk c) : ((a.seq b).thenOk c ↔ a.thenOk (b.seq c)) ∧ ((a.seq b).thenOk c → (a.seq b).seq c = a.seq (b.seq c)) := by
  have m0 := Sm.M_assoc h1 h2 (i := 0) (by omega) (by omega)
  have m1 := Sm.M_assoc h1 h2 (i := 1) (by omega) (by omega)
  have m2 := Sm.M_assoc h1 h2 (i := 2) (by omega) (by omega)
  have r1 := Sm.seq_R h1; have r2 := Sm.seq_R h2
  have hiff : (a.seq b).thenOk c ↔ a.thenOk (b.seq c) := by
    unfold Sm.thenOk
    rw [m0, m1, m2]
    constructor
    · rintro ⟨_, _, _, h⟩; exact ⟨h1.1, r2, h1.2.2.1, h⟩
    · rintro ⟨_, _, _, h⟩; exact ⟨r1, h2.2.1, h2.2.2.1, h⟩
  refine ⟨hiff, fun h3 => ?_⟩
  refine Sm.N_ext (Sm.seq_R h3) (Sm.seq_R (hiff.1 h3)) rfl rfl ?_ (fun i hi hi3 => ?_)
  · show min (min a.kp b.kp) c.kp = min a.kp (min b.kp c.kp); omega
  · rw [Sm.seq_N r1 h2.2.1 h2.2.2.1 hi hi3, Sm.seq_N h1.1 r2 h1.2.2.1 hi hi3]
    exact Sm.M_assoc h1 h2 hi hi3
/-! their order -/
def Sm.L (a b : Sm) : Prop := a.R ∧ b.R ∧ a.fr = b.fr ∧ a.to = b.to ∧ a.kp ≤ b.kp ∧ (0 < a.to → a.N 0 ≤ b.N 0) ∧ (1 < a.to → a.N 1 ≤ b.N 1) ∧ (2 < a.to → a.N 2 ≤ b.N 2)
instance : Decidable (a.L b) := inferInstanceAs (Decidable (_ ∧ _))
theorem Sm.L_at (h : a.L b) (hi : 0 ≤ i) (hi3 : i < 3) : a.N i ≤ b.N i := by
  obtain ⟨ha, hb, _, ht, _, h0, h1, h2⟩ := h
  by_cases hit : i < a.to
  · have : i = 0 ∨ i = 1 ∨ i = 2 := by omega
    rcases this with e | e | e <;> subst e
    · exact h0 hit
    · exact h1 hit
    · exact h2 hit
  · rw [Sm.N_zero ha (by omega), Sm.N_zero hb (by omega)]; omega
theorem Sm.L_refl : a.L a ↔ a.R := ⟨fun h => h.1, fun h => ⟨h, h, rfl, rfl, Int.le_refl _, fun _ => Int.le_refl _, fun _ => Int.le_refl _, fun _ => Int.le_refl _⟩⟩
theorem Sm.L_trans (h : a.L b) (k : b.L c) : a.L c := by
  refine ⟨h.1, k.2.1, h.2.2.1.trans k.2.2.1, h.2.2.2.1.trans k.2.2.2.1, Int.le_trans h.2.2.2.2.1 k.2.2.2.2.1, fun _ => ?_, fun _ => ?_, fun _ => ?_⟩
  · exact Int.le_trans (Sm.L_at h (by omega) (by omega)) (Sm.L_at k (by omega) (by omega))
  · exact Int.le_trans (Sm.L_at h (by omega) (by omega)) (Sm.L_at k (by omega) (by omega))
  · exact Int.le_trans (Sm.L_at h (by omega) (by omega)) (Sm.L_at k (by omega) (by omega))
theorem Sm.L_antisymm (h : a.L b) (k : b.L a) : a = b :=
  Sm.N_ext h.1 h.2.1 h.2.2.1 h.2.2.2.1 (Int.le_antisymm h.2.2.2.2.1 k.2.2.2.2.1) fun i hi hi3 => Int.le_antisymm (Sm.L_at h hi hi3) (Sm.L_at k hi hi3)
theorem Sm.seq_left (h : a.L b) (hc : b.thenOk c) : a.thenOk c ∧ (a.seq c).L (b.seq c) := by
  obtain ⟨ha, hb, hf, hto, hk, -⟩ := id h
  obtain ⟨-, hcr, hbc, g0, g1, g2⟩ := id hc
  have hle : ∀ i, 0 ≤ i → i < 3 → a.M c i ≤ b.M c i := by
    intro i hi hi3
    have h1 := Sm.L_at h hi hi3
    unfold Sm.M
    repeat' split
    all_goals omega
  have l0 := hle 0 (by omega) (by omega); have l1 := hle 1 (by omega) (by omega); have l2 := hle 2 (by omega) (by omega)
  have hac : a.thenOk c := ⟨ha, hcr, hto.trans hbc, by omega, by omega, by omega⟩
  refine ⟨hac, Sm.seq_R hac, Sm.seq_R hc, hf, rfl, by show min a.kp c.kp ≤ min b.kp c.kp; omega, fun _ => ?_, fun _ => ?_, fun _ => ?_⟩
  · rw [Sm.seq_N ha hcr hac.2.2.1 (by omega) (by omega), Sm.seq_N hb hcr hbc (by omega) (by omega)]; exact l0
  · rw [Sm.seq_N ha hcr hac.2.2.1 (by omega) (by omega), Sm.seq_N hb hcr hbc (by omega) (by omega)]; exact l1
  · rw [Sm.seq_N ha hcr hac.2.2.1 (by omega) (by omega), Sm.seq_N hb hcr hbc (by omega) (by omega)]; exact l2
end
end

section
open Go.ChangeShapes Go.WideShapes Go.ChangeAt Go.RowKit Go.BigFrame
@[reducible] def Sm.cells (s : Sm) : List Value := [.int .i64 s.fr, .int .i64 s.to, .int .i64 s.kp, .int .i64 s.ad, .int .i64 s.t0, .int .i64 s.t1, .int .i64 s.t2]
@[reducible] def Sm.v (s : Sm) : Value := .agg #[.int .i64 s.fr, .int .i64 s.to, .int .i64 s.kp, .int .i64 s.ad, .int .i64 s.t0, .int .i64 s.t1, .int .i64 s.t2]
def Sm.zero : Sm := ⟨0, 0, 0, 0, 0, 0, 0⟩
def HoldsM (w : World) (g : Nat) (ty : TypeId) (s : Sm) : Prop := Row w g ty s.cells
section
variable {W : World} {g : Nat} {ty : TypeId} {s : Sm}
theorem HoldsM.lt (h : HoldsM W g ty s) : g < W.heap.size := Row.lt h
theorem HoldsM.below {w' : World} (h : HoldsM W g ty s) (hb : Below W.heap.size W w') : HoldsM w' g ty s := Row.below h hb h.lt
theorem HoldsM.alloc (h : HoldsM W g ty s) (o : Obj) : HoldsM (W.alloc o) g ty s := Row.alloc h o
theorem HoldsM.drewN (h : HoldsM W g ty s) (n : Nat) : HoldsM (W.drewN n) g ty s := h
theorem HoldsM.made (w : World) (ty : TypeId) (s : Sm) : HoldsM (w.alloc (.cells #[.int .i64 s.fr, .int .i64 s.to, .int .i64 s.kp, .int .i64 s.ad, .int .i64 s.t0, .int .i64 s.t1, .int .i64 s.t2] ty)) w.heap.size ty s := Row.made w _ _
theorem HoldsM.at_ (h : HoldsM W g ty s) (j : Nat) : W.cell? ⟨g, j, none⟩ = s.cells[j]? := Row.cell h j
theorem HoldsM.cells7 (h : HoldsM W g ty s) : W.cell? ⟨g, 0, none⟩ = some (.int .i64 s.fr) ∧ W.cell? ⟨g, 1, none⟩ = some (.int .i64 s.to) ∧ W.cell? ⟨g, 2, none⟩ = some (.int .i64 s.kp) ∧ W.cell? ⟨g, 3, none⟩ = some (.int .i64 s.ad) ∧ W.cell? ⟨g, 4, none⟩ = some (.int .i64 s.t0) ∧ W.cell? ⟨g, 5, none⟩ = some (.int .i64 s.t1) ∧ W.cell? ⟨g, 6, none⟩ = some (.int .i64 s.t2) :=
  ⟨h.at_ 0, h.at_ 1, h.at_ 2, h.at_ 3, h.at_ 4, h.at_ 5, h.at_ 6⟩
theorem HoldsM.free7 (h : HoldsM W g ty s) : W.frozen? ⟨g, 0, none⟩ = false ∧ W.frozen? ⟨g, 1, none⟩ = false ∧ W.frozen? ⟨g, 2, none⟩ = false ∧ W.frozen? ⟨g, 3, none⟩ = false ∧ W.frozen? ⟨g, 4, none⟩ = false ∧ W.frozen? ⟨g, 5, none⟩ = false ∧ W.frozen? ⟨g, 6, none⟩ = false :=
  ⟨Row.free h 0, Row.free h 1, Row.free h 2, Row.free h 3, Row.free h 4, Row.free h 5, Row.free h 6⟩
theorem load_m (h : HoldsM W g 44 s) : ∀ w', Below W.heap.size W w' → (Instr.loadAt 44 (.pointer (some ⟨g, 0, none⟩))).run Tryz.prog w' = .ok (.agg #[.int .i64 s.fr, .int .i64 s.to, .int .i64 s.kp, .int .i64 s.ad, .int .i64 s.t0, .int .i64 s.t1, .int .i64 s.t2]) w' :=
  fun w' hb => run_loadAt_part g 0 44 _ s.cells (fun j v hj => by rw [add_at, (h.below hb).at_, Nat.zero_add]; exact hj) Tryz.underlying44 rfl (by kernel_rfl)
theorem load_ml (h : HoldsM W g ty s) : ∀ w', Below W.heap.size W w' → (Instr.loadAt 42 (.pointer (some ⟨g, 4, none⟩))).run Tryz.prog w' = .ok (.agg #[.int .i64 s.t0, .int .i64 s.t1, .int .i64 s.t2]) w' :=
  fun w' hb => run_loadAt_part g 4 42 _ [.int .i64 s.t0, .int .i64 s.t1, .int .i64 s.t2] (fun j v hj => by rw [add_at, (h.below hb).at_, Nat.add_comm]; exact hj) Tryz.underlying42 rfl (by kernel_rfl)
theorem load_m1 (h : HoldsM W g ty s) (j : Nat) {v : Int} (hj : s.cells[j]? = some (.int .i64 v)) : ∀ w', Below W.heap.size W w' → (Instr.loadAt 3 (.pointer (some ⟨g, j, none⟩))).run Tryz.prog w' = .ok (.int .i64 v) w' := by
  intro w' hb
  have hc := ((h.below hb).at_ j).trans hj
  go_simp
end
def smUpB (n m : Int) : Bool := decide (0 ≤ n ∧ n ≤ m)
theorem smUpTo_any (n m : Int) (w : World) : Calls Tryz.prog 64 #[.int .i64 n, .int .i64 m] w fun e w' => e = .returned (.bool (smUpB n m)) ∧ Below w.heap.size w w' := by
  by_cases h : 0 ≤ n
  · have e : smUpB n m = decide (n ≤ m) := by unfold smUpB; simp [h]
    rw [e]; clear e
    go_enter Tryz.func64, Tryz.ntmps64
    go_wp2_with fail
    go_ret
    exact ⟨rfl, Below.refl _ _⟩
  · have e : smUpB n m = false := by unfold smUpB; simp [h]
    have t1 : decide (0 ≤ n) = false := by simp [h]
    rw [e]; clear e h
    go_enter Tryz.func64, Tryz.ntmps64
    go_wp2_with fail
    go_ret
    exact ⟨rfl, Below.refl _ _⟩
set_option maxHeartbeats 1000000 in
theorem nearestM_any (s : Sm) (n : Nat) (w : World) (hd : s.to - s.kp = n) (h3 : n ≤ 3) :
    Calls Tryz.prog 65 #[s.v] w fun e w' => e = .returned (.agg #[.int .i64 (nk n 0 s.t0), .int .i64 (nk n 1 s.t1), .int .i64 (nk n 2 s.t2)]) ∧ Below w.heap.size w w' := by
  obtain ⟨fr, to, kp, ad, x, y, z⟩ := s
  unfold Sm.v
  simp only at hd ⊢
  have hw := IntWalk.i64_in (to - kp) (by omega)
  go_enter Tryz.func65, Tryz.ntmps65
  go_wp2_with fail
  go_loopw [10] (fun i wr => ∃ (k : Nat), k ≤ n ∧ i = .int .i64 k ∧ Row wr w.heap.size 44 [.int .i64 fr, .int .i64 to, .int .i64 kp, .int .i64 ad, .int .i64 x, .int .i64 y, .int .i64 z] ∧ Row wr (w.heap.size + 1) 94 [.int .i64 0, .int .i64 0, .int .i64 0] ∧ Row wr (w.heap.size + 2) 94 [.int .i64 (nk k 0 x), .int .i64 (nk k 1 y), .int .i64 (nk k 2 z)] ∧ Below w.heap.size w wr) (fun i _ => n - (intOf i).toNat)
  case atStart =>
    refine ⟨0, by omega, rfl, ((Row.made w 44 [.int .i64 fr, .int .i64 to, .int .i64 kp, .int .i64 ad, .int .i64 x, .int .i64 y, .int .i64 z]).alloc _).alloc _, ?_, ?_, ?_⟩
    · have := (Row.made (w.alloc (.cells #[.int .i64 fr, .int .i64 to, .int .i64 kp, .int .i64 ad, .int .i64 x, .int .i64 y, .int .i64 z] 44)) 94 [.int .i64 0, .int .i64 0, .int .i64 0]).alloc (.cells #[.int .i64 0, .int .i64 0, .int .i64 0] 94)
      rwa [size_alloc] at this
    · have := Row.made ((w.alloc (.cells #[.int .i64 fr, .int .i64 to, .int .i64 kp, .int .i64 ad, .int .i64 x, .int .i64 y, .int .i64 z] 44)).alloc (.cells #[.int .i64 0, .int .i64 0, .int .i64 0] 94)) 94 [.int .i64 0, .int .i64 0, .int .i64 0]
      rwa [size_alloc, size_alloc] at this
    · exact (((Below.refl _ _).alloc (Nat.le_refl _) _).alloc (by simp) _).alloc (by simp; omega) _
  case round =>
    obtain ⟨k, hk, rfl, hra, hrr, hrb, hbw⟩ := hrel
    by_cases hlt : k < n
    · have hlt' : (k : Int) < to - kp := by omega
      have a4 := hra.cell 4; have a5 := hra.cell 5; have a6 := hra.cell 6
      have b0 := hrb.cell 0; have b1 := hrb.cell 1; have b2 := hrb.cell 2
      have f0 := hrb.free 0; have f1 := hrb.free 1; have f2 := hrb.free 2
      simp only [List.getElem?_cons_succ, List.getElem?_cons_zero] at a4 a5 a6 b0 b1 b2
      have HRA := Lib.hid hra; have HRR := Lib.hid hrr; have HRB := Lib.hid hrb; have HBW := Lib.hid hbw; clear hra hrr hrb hbw
      have hcase : k = 0 ∨ k = 1 ∨ k = 2 := by omega
      rcases hcase with rfl | rfl | rfl
      · go_wp2_with fail
        go_roundw
        case rel => exact ⟨1, by omega, rfl, HRA.out.far (by simp; omega) _, HRR.out.far (by simp) _, HRB.out.put 0 _, HBW.out.setCell (by simp; omega) _⟩
        case measure => simp [intOf]; omega
      · go_wp2_with fail
        go_roundw
        case rel => exact ⟨2, by omega, rfl, HRA.out.far (by simp; omega) _, HRR.out.far (by simp) _, HRB.out.put 1 _, HBW.out.setCell (by simp; omega) _⟩
        case measure => simp [intOf]; omega
      · go_wp2_with fail
        go_roundw
        case rel => exact ⟨3, by omega, rfl, HRA.out.far (by simp; omega) _, HRR.out.far (by simp) _, HRB.out.put 2 _, HBW.out.setCell (by simp; omega) _⟩
        case measure => simp [intOf]; omega
    · have hkn : k = n := by omega
      subst hkn
      have hge : ¬ (k : Int) < to - kp := by omega
      have b0 := hrb.cell 0; have b1 := hrb.cell 1; have b2 := hrb.cell 2
      have r0 := hrr.cell 0; have r1 := hrr.cell 1; have r2 := hrr.cell 2
      have f0 := hrr.free 0; have f1 := hrr.free 1; have f2 := hrr.free 2
      simp only [List.getElem?_cons_succ, List.getElem?_cons_zero] at b0 b1 b2 r0 r1 r2
      have HRR := Lib.hid hrr; have HRB := Lib.hid hrb; have HBW := Lib.hid hbw; clear hra hrr hrb hbw
      obtain ⟨p, hp⟩ : ∃ p, p = nk k 0 x := ⟨_, rfl⟩
      obtain ⟨q, hq⟩ : ∃ q, q = nk k 1 y := ⟨_, rfl⟩
      obtain ⟨r, hr⟩ : ∃ r, r = nk k 2 z := ⟨_, rfl⟩
      rw [← hp] at b0; rw [← hq] at b1; rw [← hr] at b2
      have HP := Lib.hid hp; have HQ := Lib.hid hq; have HR := Lib.hid hr; clear hp hq hr
      go_wp2_with fail
      refine bodyPost_ret (results_cell_row rfl _ _ (w.heap.size + 1) 94 _ (0, 0) _ rfl (row_set3 HRR.out) Tryz.underlying94 rfl (by kernel_rfl)) rfl ?_
      exact ⟨by rw [HP.out, HQ.out, HR.out], ((HBW.out.setCell (by simp) _).setCell (by simp) _).setCell (by simp) _⟩
end
end Go.Proofs.YtmhophmpbpbjaaaGreatDoor
