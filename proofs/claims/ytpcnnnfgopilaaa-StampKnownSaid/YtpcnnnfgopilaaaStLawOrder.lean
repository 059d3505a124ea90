/- StampOrder, the stage's theorem: Leq is a partial order, which Compare goes on; the join is the least that both are at or ahead of, the meet the greatest that is so of both; for all times. -/
import Derived.Test.YtpcnnnfgopilaaaStFrame
namespace Go.Proofs.Ytpcnnnfgopilaaa
open Go.ChangeShapes Go.WideShapes Go.ChangeAt Go.RowKit Go.BigFrame
set_option linter.unusedVariables false
namespace stampOrder
theorem C_small (a b : St) : -2 < a.C b ∧ a.C b < 2 := by
  unfold St.C
  rcases sgn_cases a.d b.d with ⟨_, e1⟩ | ⟨_, e1⟩ | ⟨_, e1⟩ <;> rw [e1] <;>
  rcases sgn_cases a.e b.e with ⟨_, e2⟩ | ⟨_, e2⟩ | ⟨_, e2⟩ <;> rw [e2] <;>
  rcases sgn_cases a.x b.x with ⟨_, e3⟩ | ⟨_, e3⟩ | ⟨_, e3⟩ <;> rw [e3] <;>
  rcases sgn_cases a.y b.y with ⟨_, e4⟩ | ⟨_, e4⟩ | ⟨_, e4⟩ <;> rw [e4] <;>
  rcases sgn_cases a.z b.z with ⟨_, e5⟩ | ⟨_, e5⟩ | ⟨_, e5⟩ <;> rw [e5] <;> simp
/-- what the first test asks -/
structure One (n m p q : Int) (s : Bool) : Prop where
  neg : n = -m
  lo : -2 < m
  hi : m < 2
  zero : (n == 0) = s
  trans : n ≤ 0 → p ≤ 0 → q ≤ 0
theorem one (a b c : St) : One (a.C b) (b.C a) (b.C c) (a.C c) (eqB a b) :=
  ⟨St.C_swap, (C_small b a).1, (C_small b a).2, by unfold eqB; rw [Bool.eq_iff_iff]; simp [St.C_zero], fun h1 h2 => St.C_trans h1 h2⟩
/-- what the second test asks -/
structure Two (n : Int) (ab ba bc ac s : Bool) : Prop where
  anti : ab = true → ba = true → s = true
  trans : ab = true → bc = true → ac = true
  goes : ab = true → n ≤ 0
theorem two (a b c : St) : Two (a.C b) (decide (a.L b)) (decide (b.L a)) (decide (b.L c)) (decide (a.L c)) (eqB a b) :=
  ⟨fun h1 h2 => by unfold eqB; rw [decide_eq_true_iff] at *; exact St.L_antisymm h1 h2, fun h1 h2 => by rw [decide_eq_true_iff] at *; exact St.L_trans h1 h2, fun h => by rw [decide_eq_true_iff] at h; exact St.L_C h⟩
theorem two_no (a b c : St) (h : ¬ a.B b) : Two (a.C b) false (decide (b.L a)) (decide (b.L c)) (decide (a.L c)) (eqB a b) := ⟨(fun h => by cases h), (fun h => by cases h), (fun h => by cases h)⟩
theorem call_is {f : FuncId} {args : Array Value} {b b' : Bool} (hb : b = b') (h : ∀ w, Calls Try.prog f args w fun e w' => e = .returned (.bool b) ∧ Below w.heap.size w w') : ∀ w, Calls Try.prog f args w fun e w' => e = .returned (.bool b') ∧ Below w.heap.size w w' := by
  subst hb; exact h
theorem pair_is {f : FuncId} {args : Array Value} {v : Value} {b b' : Bool} (hb : b = b') (h : ∀ w, Calls Try.prog f args w fun e w' => e = .returned (.tuple #[v, .bool b]) ∧ Below w.heap.size w w') : ∀ w, Calls Try.prog f args w fun e w' => e = .returned (.tuple #[v, .bool b']) ∧ Below w.heap.size w w' := by
  subst hb; exact h
set_option maxRecDepth 100000 in
set_option maxHeartbeats 8000000 in
theorem walk_no (a b c : St) (w : World) (h : ¬ a.B b) : Calls Try.prog 5 #[a.val, b.val, c.val] w fun e w' => e = .returned (.bool true) ∧ Below w.heap.size w w' := by
  have k1 := one a b c
  have k2 := two_no a b c h
  have r1 := fun w => compare_any a b w
  have r2 := fun w => compare_any b a w
  have r3 := fun w => compare_any b c w
  have r4 := fun w => compare_any a c w
  have q1 := call_is (decide_eq_false (fun hl : a.L b => h (St.L_B hl))) (fun w => leq_any a b w)
  have q2 := fun w => leq_any b a w
  have q3 := fun w => leq_any b c w
  have q4 := fun w => leq_any a c w
  have q5 := call_is (show decide (a.L a) = decide a.R by rw [Bool.eq_iff_iff]; simp [St.L_refl]) (fun w => leq_any a a w)
  have q6 := fun w => right_any a w
  have ww := fun w => works_any w
  have j1 := pair_is (decide_eq_false h) (fun w => join_any a b w)
  have j2 := pair_is (decide_eq_false h) (fun w => meet_any a b w)
  generalize a.C b = n1' at *
  generalize b.C a = m1' at *
  generalize b.C c = n2' at *
  generalize a.C c = n3' at *
  generalize decide (b.L a) = ba at *
  generalize decide (b.L c) = bc at *
  generalize decide (a.L c) = ac at *
  generalize decide a.R = ra at *
  have hs : eqB a b = eqB a b := rfl
  generalize hsb : eqB a b = sb at k1 k2
  clear hs h
  generalize a.join b = J at *
  generalize a.meet b = M at *
  unfold St.val at *
  have Xk1 := Lib.hid k1; clear k1
  have Xk2 := Lib.hid k2; clear k2
  have Xr1 := Lib.hid r1; clear r1
  have Xr2 := Lib.hid r2; clear r2
  have Xr3 := Lib.hid r3; clear r3
  have Xr4 := Lib.hid r4; clear r4
  have Xq1 := Lib.hid q1; clear q1
  have Xq2 := Lib.hid q2; clear q2
  have Xq3 := Lib.hid q3; clear q3
  have Xq4 := Lib.hid q4; clear q4
  have Xq5 := Lib.hid q5; clear q5
  have Xq6 := Lib.hid q6; clear q6
  have Xj1 := Lib.hid j1; clear j1
  have Xj2 := Lib.hid j2; clear j2
  have Xww := Lib.hid ww; clear ww
  have Xhsb := Lib.hid hsb; clear hsb
  have ha := Holds.made w a
  have ha := ha.alloc (.cells #[.int .i64 b.d, .int .i64 b.e, .int .i64 b.x, .int .i64 b.y, .int .i64 b.z] 24)
  have hb := Holds.made (w.alloc (.cells #[.int .i64 a.d, .int .i64 a.e, .int .i64 a.x, .int .i64 a.y, .int .i64 a.z] 24)) b
  rw [size_alloc] at hb
  have ha := ha.alloc (.cells #[.int .i64 c.d, .int .i64 c.e, .int .i64 c.x, .int .i64 c.y, .int .i64 c.z] 24)
  have hb := hb.alloc (.cells #[.int .i64 c.d, .int .i64 c.e, .int .i64 c.x, .int .i64 c.y, .int .i64 c.z] 24)
  have hc := Holds.made ((w.alloc (.cells #[.int .i64 a.d, .int .i64 a.e, .int .i64 a.x, .int .i64 a.y, .int .i64 a.z] 24)).alloc (.cells #[.int .i64 b.d, .int .i64 b.e, .int .i64 b.x, .int .i64 b.y, .int .i64 b.z] 24)) c
  rw [size_alloc, size_alloc] at hc
  have hbw : Below w.heap.size w (((w.alloc (.cells #[.int .i64 a.d, .int .i64 a.e, .int .i64 a.x, .int .i64 a.y, .int .i64 a.z] 24)).alloc (.cells #[.int .i64 b.d, .int .i64 b.e, .int .i64 b.x, .int .i64 b.y, .int .i64 b.z] 24)).alloc (.cells #[.int .i64 c.d, .int .i64 c.e, .int .i64 c.x, .int .i64 c.y, .int .i64 c.z] 24)) := (((Below.refl _ _).alloc (by simp) _).alloc (by simp) _).alloc (by simp; omega) _
  have Ha := Lib.hid ha; clear ha
  have Hb := Lib.hid hb; clear hb
  have Hc := Lib.hid hc; clear hc
  have HBW := Lib.hid hbw; clear hbw
  go_enter Try.func5, Try.ntmps5
  go_wp2_with fail
  generalize ((w.alloc (.cells #[.int .i64 a.d, .int .i64 a.e, .int .i64 a.x, .int .i64 a.y, .int .i64 a.z] 24)).alloc (.cells #[.int .i64 b.d, .int .i64 b.e, .int .i64 b.x, .int .i64 b.y, .int .i64 b.z] 24)).alloc (.cells #[.int .i64 c.d, .int .i64 c.e, .int .i64 c.x, .int .i64 c.y, .int .i64 c.z] 24) = w0 at *
  go_cut [50] from 15 to 49 (fun s wx => s = .bool false ∧ Below w0.heap.size w0 wx)
  case first =>
    by_cases u1 : n1' ≤ 0
    · by_cases u2 : n2' ≤ 0
      · have u3 := Xk1.out.trans u1 u2
        have d1 := decide_eq_true u1
        have d2 := decide_eq_true u2
        have d3 : decide (n3' > 0) = false := decide_eq_false (by omega)
        have Xu1 := Lib.hid d1; have Xu2 := Lib.hid d2; have Xu3 := Lib.hid d3; clear u1 u2 u3 d1 d2 d3
        refine wp_region_below (by kernel_rfl) (by kernel_rfl) ?_
        refine wpQuiet_step (fun K hK => ?_); refine q_load (p := .pointer (some ⟨w.heap.size, 0, none⟩)) 24 _ rfl rfl rfl (load_t Ha.out) ?_; go_simp; (with_reducible refine hK _ ?_); clear hK K
        refine wpQuiet_step (fun K hK => ?_); refine q_load (p := .pointer (some ⟨(w.heap.size + 1), 0, none⟩)) 24 _ rfl rfl rfl (load_t Hb.out) ?_; go_simp; (with_reducible refine hK _ ?_); clear hK K
        refine wpQuiet_step (fun K hK => ?_); go_simp; (with_reducible refine ⟨_, fun _ hb => (Xr1.out _).mono fun _ _ h => ⟨h.1, hb.trans (h.2.mono (by simpa using hb.size))⟩, hK _ ?_⟩); clear hK K
        refine wpQuiet_step (fun K hK => ?_); refine q_load (p := .pointer (some ⟨(w.heap.size + 1), 0, none⟩)) 24 _ rfl rfl rfl (load_t Hb.out) ?_; go_simp; (with_reducible refine hK _ ?_); clear hK K
        refine wpQuiet_step (fun K hK => ?_); refine q_load (p := .pointer (some ⟨w.heap.size, 0, none⟩)) 24 _ rfl rfl rfl (load_t Ha.out) ?_; go_simp; (with_reducible refine hK _ ?_); clear hK K
        refine wpQuiet_step (fun K hK => ?_); go_simp; (with_reducible refine ⟨_, fun _ hb => (Xr2.out _).mono fun _ _ h => ⟨h.1, hb.trans (h.2.mono (by simpa using hb.size))⟩, hK _ ?_⟩); clear hK K
        refine wpQuiet_step (fun K hK => ?_); refine q_un .neg 3 _ rfl rfl rfl (neg_is Xk1.out.neg Xk1.out.lo Xk1.out.hi) ?_; go_simp; (with_reducible refine hK _ ?_); clear hK K
        refine wpQuiet_step (fun K hK => ?_); refine q_bin _ _ _ _ _ rfl rfl rfl rfl (neqi_self _ _ _) ?_; go_simp; (with_reducible refine hK _ ?_); clear hK K
        refine wpQuiet_step (fun K hK => ?_); go_simp; (first | (with_reducible refine hK _ ?_) | (with_reducible refine ⟨_, fun _ _ => rfl, hK _ ?_⟩)); clear hK K
        refine wpQuiet_step (fun K hK => ?_); refine q_load (p := .pointer (some ⟨w.heap.size, 0, none⟩)) 24 _ rfl rfl rfl (load_t Ha.out) ?_; go_simp; (with_reducible refine hK _ ?_); clear hK K
        refine wpQuiet_step (fun K hK => ?_); refine q_load (p := .pointer (some ⟨(w.heap.size + 1), 0, none⟩)) 24 _ rfl rfl rfl (load_t Hb.out) ?_; go_simp; (with_reducible refine hK _ ?_); clear hK K
        refine wpQuiet_step (fun K hK => ?_); go_simp; (with_reducible refine ⟨_, fun _ hb => (Xr1.out _).mono fun _ _ h => ⟨h.1, hb.trans (h.2.mono (by simpa using hb.size))⟩, hK _ ?_⟩); clear hK K
        refine wpQuiet_step (fun K hK => ?_); refine q_bin _ _ _ _ _ rfl rfl rfl rfl (eqi_is Xk1.out.zero) ?_; go_simp; (with_reducible refine hK _ ?_); clear hK K
        refine wpQuiet_step (fun K hK => ?_); refine q_load (p := .pointer (some ⟨w.heap.size, 0, none⟩)) 24 _ rfl rfl rfl (load_t Ha.out) ?_; go_simp; (with_reducible refine hK _ ?_); clear hK K
        refine wpQuiet_step (fun K hK => ?_); refine q_load (p := .pointer (some ⟨(w.heap.size + 1), 0, none⟩)) 24 _ rfl rfl rfl (load_t Hb.out) ?_; go_simp; (with_reducible refine hK _ ?_); clear hK K
        refine wpQuiet_step (fun K hK => ?_); refine q_bin _ _ _ _ _ rfl rfl rfl rfl (eqt_is Xhsb.out) ?_; go_simp; (with_reducible refine hK _ ?_); clear hK K
        refine wpQuiet_step (fun K hK => ?_); refine q_bin _ _ _ _ _ rfl rfl rfl rfl (neqb_self _ _ _) ?_; go_simp; (with_reducible refine hK _ ?_); clear hK K
        refine wpQuiet_step (fun K hK => ?_); go_simp; (first | (with_reducible refine hK _ ?_) | (with_reducible refine ⟨_, fun _ _ => rfl, hK _ ?_⟩)); clear hK K
        refine wpQuiet_step (fun K hK => ?_); go_simp; (first | (with_reducible refine hK _ ?_) | (with_reducible refine ⟨_, fun _ _ => rfl, hK _ ?_⟩)); clear hK K
        refine wpQuiet_step (fun K hK => ?_); refine q_load (p := .pointer (some ⟨w.heap.size, 0, none⟩)) 24 _ rfl rfl rfl (load_t Ha.out) ?_; go_simp; (with_reducible refine hK _ ?_); clear hK K
        refine wpQuiet_step (fun K hK => ?_); refine q_load (p := .pointer (some ⟨(w.heap.size + 1), 0, none⟩)) 24 _ rfl rfl rfl (load_t Hb.out) ?_; go_simp; (with_reducible refine hK _ ?_); clear hK K
        refine wpQuiet_step (fun K hK => ?_); go_simp; (with_reducible refine ⟨_, fun _ hb => (Xr1.out _).mono fun _ _ h => ⟨h.1, hb.trans (h.2.mono (by simpa using hb.size))⟩, hK _ ?_⟩); clear hK K
        refine wpQuiet_step (fun K hK => ?_); refine q_bin _ _ _ _ _ rfl rfl rfl rfl (lei_is Xu1.out) ?_; go_simp; (with_reducible refine hK _ ?_); clear hK K
        refine wpQuiet_step (fun K hK => ?_); go_simp; (first | (with_reducible refine hK _ ?_) | (with_reducible refine ⟨_, fun _ _ => rfl, hK _ ?_⟩)); clear hK K
        refine wpQuiet_step (fun K hK => ?_); refine q_load (p := .pointer (some ⟨(w.heap.size + 1), 0, none⟩)) 24 _ rfl rfl rfl (load_t Hb.out) ?_; go_simp; (with_reducible refine hK _ ?_); clear hK K
        refine wpQuiet_step (fun K hK => ?_); refine q_load (p := .pointer (some ⟨(w.heap.size + 2), 0, none⟩)) 24 _ rfl rfl rfl (load_t Hc.out) ?_; go_simp; (with_reducible refine hK _ ?_); clear hK K
        refine wpQuiet_step (fun K hK => ?_); go_simp; (with_reducible refine ⟨_, fun _ hb => (Xr3.out _).mono fun _ _ h => ⟨h.1, hb.trans (h.2.mono (by simpa using hb.size))⟩, hK _ ?_⟩); clear hK K
        refine wpQuiet_step (fun K hK => ?_); refine q_bin _ _ _ _ _ rfl rfl rfl rfl (lei_is Xu2.out) ?_; go_simp; (with_reducible refine hK _ ?_); clear hK K
        refine wpQuiet_step (fun K hK => ?_); go_simp; (first | (with_reducible refine hK _ ?_) | (with_reducible refine ⟨_, fun _ _ => rfl, hK _ ?_⟩)); clear hK K
        refine wpQuiet_step (fun K hK => ?_); go_simp; (first | (with_reducible refine hK _ ?_) | (with_reducible refine ⟨_, fun _ _ => rfl, hK _ ?_⟩)); clear hK K
        refine wpQuiet_step (fun K hK => ?_); refine q_load (p := .pointer (some ⟨w.heap.size, 0, none⟩)) 24 _ rfl rfl rfl (load_t Ha.out) ?_; go_simp; (with_reducible refine hK _ ?_); clear hK K
        refine wpQuiet_step (fun K hK => ?_); refine q_load (p := .pointer (some ⟨(w.heap.size + 2), 0, none⟩)) 24 _ rfl rfl rfl (load_t Hc.out) ?_; go_simp; (with_reducible refine hK _ ?_); clear hK K
        refine wpQuiet_step (fun K hK => ?_); go_simp; (with_reducible refine ⟨_, fun _ hb => (Xr4.out _).mono fun _ _ h => ⟨h.1, hb.trans (h.2.mono (by simpa using hb.size))⟩, hK _ ?_⟩); clear hK K
        refine wpQuiet_step (fun K hK => ?_); refine q_bin _ _ _ _ _ rfl rfl rfl rfl (gti_is Xu3.out) ?_; go_simp; (with_reducible refine hK _ ?_); clear hK K
        refine wpQuiet_step (fun K hK => ?_); go_simp; (first | (with_reducible refine hK _ ?_) | (with_reducible refine ⟨_, fun _ _ => rfl, hK _ ?_⟩)); clear hK K
        refine wpQuiet_step (fun K hK => ?_); go_simp; (first | (with_reducible refine hK _ ?_) | (with_reducible refine ⟨_, fun _ _ => rfl, hK _ ?_⟩)); clear hK K
        refine wpQuiet_nil ?_
        intro wz hbel
        go_wp2_with fail
        go_meet
        exact ⟨rfl, hbel⟩
      · have d1 := decide_eq_true u1
        have d2 := decide_eq_false u2
        have Xu1 := Lib.hid d1; have Xu2 := Lib.hid d2; clear u1 u2 d1 d2
        refine wp_region_below (by kernel_rfl) (by kernel_rfl) ?_
        refine wpQuiet_step (fun K hK => ?_); refine q_load (p := .pointer (some ⟨w.heap.size, 0, none⟩)) 24 _ rfl rfl rfl (load_t Ha.out) ?_; go_simp; (with_reducible refine hK _ ?_); clear hK K
        refine wpQuiet_step (fun K hK => ?_); refine q_load (p := .pointer (some ⟨(w.heap.size + 1), 0, none⟩)) 24 _ rfl rfl rfl (load_t Hb.out) ?_; go_simp; (with_reducible refine hK _ ?_); clear hK K
        refine wpQuiet_step (fun K hK => ?_); go_simp; (with_reducible refine ⟨_, fun _ hb => (Xr1.out _).mono fun _ _ h => ⟨h.1, hb.trans (h.2.mono (by simpa using hb.size))⟩, hK _ ?_⟩); clear hK K
        refine wpQuiet_step (fun K hK => ?_); refine q_load (p := .pointer (some ⟨(w.heap.size + 1), 0, none⟩)) 24 _ rfl rfl rfl (load_t Hb.out) ?_; go_simp; (with_reducible refine hK _ ?_); clear hK K
        refine wpQuiet_step (fun K hK => ?_); refine q_load (p := .pointer (some ⟨w.heap.size, 0, none⟩)) 24 _ rfl rfl rfl (load_t Ha.out) ?_; go_simp; (with_reducible refine hK _ ?_); clear hK K
        refine wpQuiet_step (fun K hK => ?_); go_simp; (with_reducible refine ⟨_, fun _ hb => (Xr2.out _).mono fun _ _ h => ⟨h.1, hb.trans (h.2.mono (by simpa using hb.size))⟩, hK _ ?_⟩); clear hK K
        refine wpQuiet_step (fun K hK => ?_); refine q_un .neg 3 _ rfl rfl rfl (neg_is Xk1.out.neg Xk1.out.lo Xk1.out.hi) ?_; go_simp; (with_reducible refine hK _ ?_); clear hK K
        refine wpQuiet_step (fun K hK => ?_); refine q_bin _ _ _ _ _ rfl rfl rfl rfl (neqi_self _ _ _) ?_; go_simp; (with_reducible refine hK _ ?_); clear hK K
        refine wpQuiet_step (fun K hK => ?_); go_simp; (first | (with_reducible refine hK _ ?_) | (with_reducible refine ⟨_, fun _ _ => rfl, hK _ ?_⟩)); clear hK K
        refine wpQuiet_step (fun K hK => ?_); refine q_load (p := .pointer (some ⟨w.heap.size, 0, none⟩)) 24 _ rfl rfl rfl (load_t Ha.out) ?_; go_simp; (with_reducible refine hK _ ?_); clear hK K
        refine wpQuiet_step (fun K hK => ?_); refine q_load (p := .pointer (some ⟨(w.heap.size + 1), 0, none⟩)) 24 _ rfl rfl rfl (load_t Hb.out) ?_; go_simp; (with_reducible refine hK _ ?_); clear hK K
        refine wpQuiet_step (fun K hK => ?_); go_simp; (with_reducible refine ⟨_, fun _ hb => (Xr1.out _).mono fun _ _ h => ⟨h.1, hb.trans (h.2.mono (by simpa using hb.size))⟩, hK _ ?_⟩); clear hK K
        refine wpQuiet_step (fun K hK => ?_); refine q_bin _ _ _ _ _ rfl rfl rfl rfl (eqi_is Xk1.out.zero) ?_; go_simp; (with_reducible refine hK _ ?_); clear hK K
        refine wpQuiet_step (fun K hK => ?_); refine q_load (p := .pointer (some ⟨w.heap.size, 0, none⟩)) 24 _ rfl rfl rfl (load_t Ha.out) ?_; go_simp; (with_reducible refine hK _ ?_); clear hK K
        refine wpQuiet_step (fun K hK => ?_); refine q_load (p := .pointer (some ⟨(w.heap.size + 1), 0, none⟩)) 24 _ rfl rfl rfl (load_t Hb.out) ?_; go_simp; (with_reducible refine hK _ ?_); clear hK K
        refine wpQuiet_step (fun K hK => ?_); refine q_bin _ _ _ _ _ rfl rfl rfl rfl (eqt_is Xhsb.out) ?_; go_simp; (with_reducible refine hK _ ?_); clear hK K
        refine wpQuiet_step (fun K hK => ?_); refine q_bin _ _ _ _ _ rfl rfl rfl rfl (neqb_self _ _ _) ?_; go_simp; (with_reducible refine hK _ ?_); clear hK K
        refine wpQuiet_step (fun K hK => ?_); go_simp; (first | (with_reducible refine hK _ ?_) | (with_reducible refine ⟨_, fun _ _ => rfl, hK _ ?_⟩)); clear hK K
        refine wpQuiet_step (fun K hK => ?_); go_simp; (first | (with_reducible refine hK _ ?_) | (with_reducible refine ⟨_, fun _ _ => rfl, hK _ ?_⟩)); clear hK K
        refine wpQuiet_step (fun K hK => ?_); refine q_load (p := .pointer (some ⟨w.heap.size, 0, none⟩)) 24 _ rfl rfl rfl (load_t Ha.out) ?_; go_simp; (with_reducible refine hK _ ?_); clear hK K
        refine wpQuiet_step (fun K hK => ?_); refine q_load (p := .pointer (some ⟨(w.heap.size + 1), 0, none⟩)) 24 _ rfl rfl rfl (load_t Hb.out) ?_; go_simp; (with_reducible refine hK _ ?_); clear hK K
        refine wpQuiet_step (fun K hK => ?_); go_simp; (with_reducible refine ⟨_, fun _ hb => (Xr1.out _).mono fun _ _ h => ⟨h.1, hb.trans (h.2.mono (by simpa using hb.size))⟩, hK _ ?_⟩); clear hK K
        refine wpQuiet_step (fun K hK => ?_); refine q_bin _ _ _ _ _ rfl rfl rfl rfl (lei_is Xu1.out) ?_; go_simp; (with_reducible refine hK _ ?_); clear hK K
        refine wpQuiet_step (fun K hK => ?_); go_simp; (first | (with_reducible refine hK _ ?_) | (with_reducible refine ⟨_, fun _ _ => rfl, hK _ ?_⟩)); clear hK K
        refine wpQuiet_step (fun K hK => ?_); refine q_load (p := .pointer (some ⟨(w.heap.size + 1), 0, none⟩)) 24 _ rfl rfl rfl (load_t Hb.out) ?_; go_simp; (with_reducible refine hK _ ?_); clear hK K
        refine wpQuiet_step (fun K hK => ?_); refine q_load (p := .pointer (some ⟨(w.heap.size + 2), 0, none⟩)) 24 _ rfl rfl rfl (load_t Hc.out) ?_; go_simp; (with_reducible refine hK _ ?_); clear hK K
        refine wpQuiet_step (fun K hK => ?_); go_simp; (with_reducible refine ⟨_, fun _ hb => (Xr3.out _).mono fun _ _ h => ⟨h.1, hb.trans (h.2.mono (by simpa using hb.size))⟩, hK _ ?_⟩); clear hK K
        refine wpQuiet_step (fun K hK => ?_); refine q_bin _ _ _ _ _ rfl rfl rfl rfl (lei_is Xu2.out) ?_; go_simp; (with_reducible refine hK _ ?_); clear hK K
        refine wpQuiet_step (fun K hK => ?_); go_simp; (first | (with_reducible refine hK _ ?_) | (with_reducible refine ⟨_, fun _ _ => rfl, hK _ ?_⟩)); clear hK K
        refine wpQuiet_step (fun K hK => ?_); go_simp; (first | (with_reducible refine hK _ ?_) | (with_reducible refine ⟨_, fun _ _ => rfl, hK _ ?_⟩)); clear hK K
        refine wpQuiet_step (fun K hK => ?_); go_simp; (first | (with_reducible refine hK _ ?_) | (with_reducible refine ⟨_, fun _ _ => rfl, hK _ ?_⟩)); clear hK K
        refine wpQuiet_step (fun K hK => ?_); go_simp; (first | (with_reducible refine hK _ ?_) | (with_reducible refine ⟨_, fun _ _ => rfl, hK _ ?_⟩)); clear hK K
        refine wpQuiet_step (fun K hK => ?_); go_simp; (first | (with_reducible refine hK _ ?_) | (with_reducible refine ⟨_, fun _ _ => rfl, hK _ ?_⟩)); clear hK K
        refine wpQuiet_step (fun K hK => ?_); go_simp; (first | (with_reducible refine hK _ ?_) | (with_reducible refine ⟨_, fun _ _ => rfl, hK _ ?_⟩)); clear hK K
        refine wpQuiet_step (fun K hK => ?_); go_simp; (first | (with_reducible refine hK _ ?_) | (with_reducible refine ⟨_, fun _ _ => rfl, hK _ ?_⟩)); clear hK K
        refine wpQuiet_step (fun K hK => ?_); go_simp; (first | (with_reducible refine hK _ ?_) | (with_reducible refine ⟨_, fun _ _ => rfl, hK _ ?_⟩)); clear hK K
        refine wpQuiet_nil ?_
        intro wz hbel
        go_wp2_with fail
        go_meet
        exact ⟨rfl, hbel⟩
    · have d1 := decide_eq_false u1
      have Xu1 := Lib.hid d1; clear u1 d1
      refine wp_region_below (by kernel_rfl) (by kernel_rfl) ?_
      refine wpQuiet_step (fun K hK => ?_); refine q_load (p := .pointer (some ⟨w.heap.size, 0, none⟩)) 24 _ rfl rfl rfl (load_t Ha.out) ?_; go_simp; (with_reducible refine hK _ ?_); clear hK K
      refine wpQuiet_step (fun K hK => ?_); refine q_load (p := .pointer (some ⟨(w.heap.size + 1), 0, none⟩)) 24 _ rfl rfl rfl (load_t Hb.out) ?_; go_simp; (with_reducible refine hK _ ?_); clear hK K
      refine wpQuiet_step (fun K hK => ?_); go_simp; (with_reducible refine ⟨_, fun _ hb => (Xr1.out _).mono fun _ _ h => ⟨h.1, hb.trans (h.2.mono (by simpa using hb.size))⟩, hK _ ?_⟩); clear hK K
      refine wpQuiet_step (fun K hK => ?_); refine q_load (p := .pointer (some ⟨(w.heap.size + 1), 0, none⟩)) 24 _ rfl rfl rfl (load_t Hb.out) ?_; go_simp; (with_reducible refine hK _ ?_); clear hK K
      refine wpQuiet_step (fun K hK => ?_); refine q_load (p := .pointer (some ⟨w.heap.size, 0, none⟩)) 24 _ rfl rfl rfl (load_t Ha.out) ?_; go_simp; (with_reducible refine hK _ ?_); clear hK K
      refine wpQuiet_step (fun K hK => ?_); go_simp; (with_reducible refine ⟨_, fun _ hb => (Xr2.out _).mono fun _ _ h => ⟨h.1, hb.trans (h.2.mono (by simpa using hb.size))⟩, hK _ ?_⟩); clear hK K
      refine wpQuiet_step (fun K hK => ?_); refine q_un .neg 3 _ rfl rfl rfl (neg_is Xk1.out.neg Xk1.out.lo Xk1.out.hi) ?_; go_simp; (with_reducible refine hK _ ?_); clear hK K
      refine wpQuiet_step (fun K hK => ?_); refine q_bin _ _ _ _ _ rfl rfl rfl rfl (neqi_self _ _ _) ?_; go_simp; (with_reducible refine hK _ ?_); clear hK K
      refine wpQuiet_step (fun K hK => ?_); go_simp; (first | (with_reducible refine hK _ ?_) | (with_reducible refine ⟨_, fun _ _ => rfl, hK _ ?_⟩)); clear hK K
      refine wpQuiet_step (fun K hK => ?_); refine q_load (p := .pointer (some ⟨w.heap.size, 0, none⟩)) 24 _ rfl rfl rfl (load_t Ha.out) ?_; go_simp; (with_reducible refine hK _ ?_); clear hK K
      refine wpQuiet_step (fun K hK => ?_); refine q_load (p := .pointer (some ⟨(w.heap.size + 1), 0, none⟩)) 24 _ rfl rfl rfl (load_t Hb.out) ?_; go_simp; (with_reducible refine hK _ ?_); clear hK K
      refine wpQuiet_step (fun K hK => ?_); go_simp; (with_reducible refine ⟨_, fun _ hb => (Xr1.out _).mono fun _ _ h => ⟨h.1, hb.trans (h.2.mono (by simpa using hb.size))⟩, hK _ ?_⟩); clear hK K
      refine wpQuiet_step (fun K hK => ?_); refine q_bin _ _ _ _ _ rfl rfl rfl rfl (eqi_is Xk1.out.zero) ?_; go_simp; (with_reducible refine hK _ ?_); clear hK K
      refine wpQuiet_step (fun K hK => ?_); refine q_load (p := .pointer (some ⟨w.heap.size, 0, none⟩)) 24 _ rfl rfl rfl (load_t Ha.out) ?_; go_simp; (with_reducible refine hK _ ?_); clear hK K
      refine wpQuiet_step (fun K hK => ?_); refine q_load (p := .pointer (some ⟨(w.heap.size + 1), 0, none⟩)) 24 _ rfl rfl rfl (load_t Hb.out) ?_; go_simp; (with_reducible refine hK _ ?_); clear hK K
      refine wpQuiet_step (fun K hK => ?_); refine q_bin _ _ _ _ _ rfl rfl rfl rfl (eqt_is Xhsb.out) ?_; go_simp; (with_reducible refine hK _ ?_); clear hK K
      refine wpQuiet_step (fun K hK => ?_); refine q_bin _ _ _ _ _ rfl rfl rfl rfl (neqb_self _ _ _) ?_; go_simp; (with_reducible refine hK _ ?_); clear hK K
      refine wpQuiet_step (fun K hK => ?_); go_simp; (first | (with_reducible refine hK _ ?_) | (with_reducible refine ⟨_, fun _ _ => rfl, hK _ ?_⟩)); clear hK K
      refine wpQuiet_step (fun K hK => ?_); go_simp; (first | (with_reducible refine hK _ ?_) | (with_reducible refine ⟨_, fun _ _ => rfl, hK _ ?_⟩)); clear hK K
      refine wpQuiet_step (fun K hK => ?_); refine q_load (p := .pointer (some ⟨w.heap.size, 0, none⟩)) 24 _ rfl rfl rfl (load_t Ha.out) ?_; go_simp; (with_reducible refine hK _ ?_); clear hK K
      refine wpQuiet_step (fun K hK => ?_); refine q_load (p := .pointer (some ⟨(w.heap.size + 1), 0, none⟩)) 24 _ rfl rfl rfl (load_t Hb.out) ?_; go_simp; (with_reducible refine hK _ ?_); clear hK K
      refine wpQuiet_step (fun K hK => ?_); go_simp; (with_reducible refine ⟨_, fun _ hb => (Xr1.out _).mono fun _ _ h => ⟨h.1, hb.trans (h.2.mono (by simpa using hb.size))⟩, hK _ ?_⟩); clear hK K
      refine wpQuiet_step (fun K hK => ?_); refine q_bin _ _ _ _ _ rfl rfl rfl rfl (lei_is Xu1.out) ?_; go_simp; (with_reducible refine hK _ ?_); clear hK K
      refine wpQuiet_step (fun K hK => ?_); go_simp; (first | (with_reducible refine hK _ ?_) | (with_reducible refine ⟨_, fun _ _ => rfl, hK _ ?_⟩)); clear hK K
      refine wpQuiet_step (fun K hK => ?_); go_simp; (first | (with_reducible refine hK _ ?_) | (with_reducible refine ⟨_, fun _ _ => rfl, hK _ ?_⟩)); clear hK K
      refine wpQuiet_step (fun K hK => ?_); go_simp; (first | (with_reducible refine hK _ ?_) | (with_reducible refine ⟨_, fun _ _ => rfl, hK _ ?_⟩)); clear hK K
      refine wpQuiet_step (fun K hK => ?_); go_simp; (first | (with_reducible refine hK _ ?_) | (with_reducible refine ⟨_, fun _ _ => rfl, hK _ ?_⟩)); clear hK K
      refine wpQuiet_step (fun K hK => ?_); go_simp; (first | (with_reducible refine hK _ ?_) | (with_reducible refine ⟨_, fun _ _ => rfl, hK _ ?_⟩)); clear hK K
      refine wpQuiet_step (fun K hK => ?_); go_simp; (first | (with_reducible refine hK _ ?_) | (with_reducible refine ⟨_, fun _ _ => rfl, hK _ ?_⟩)); clear hK K
      refine wpQuiet_step (fun K hK => ?_); go_simp; (first | (with_reducible refine hK _ ?_) | (with_reducible refine ⟨_, fun _ _ => rfl, hK _ ?_⟩)); clear hK K
      refine wpQuiet_step (fun K hK => ?_); go_simp; (first | (with_reducible refine hK _ ?_) | (with_reducible refine ⟨_, fun _ _ => rfl, hK _ ?_⟩)); clear hK K
      refine wpQuiet_step (fun K hK => ?_); go_simp; (first | (with_reducible refine hK _ ?_) | (with_reducible refine ⟨_, fun _ _ => rfl, hK _ ?_⟩)); clear hK K
      refine wpQuiet_step (fun K hK => ?_); go_simp; (first | (with_reducible refine hK _ ?_) | (with_reducible refine ⟨_, fun _ _ => rfl, hK _ ?_⟩)); clear hK K
      refine wpQuiet_step (fun K hK => ?_); go_simp; (first | (with_reducible refine hK _ ?_) | (with_reducible refine ⟨_, fun _ _ => rfl, hK _ ?_⟩)); clear hK K
      refine wpQuiet_step (fun K hK => ?_); go_simp; (first | (with_reducible refine hK _ ?_) | (with_reducible refine ⟨_, fun _ _ => rfl, hK _ ?_⟩)); clear hK K
      refine wpQuiet_step (fun K hK => ?_); go_simp; (first | (with_reducible refine hK _ ?_) | (with_reducible refine ⟨_, fun _ _ => rfl, hK _ ?_⟩)); clear hK K
      refine wpQuiet_nil ?_
      intro wz hbel
      go_wp2_with fail
      go_meet
      exact ⟨rfl, hbel⟩
  case rest =>
    obtain ⟨rfl, hbel⟩ := hcut
    have ha := Ha.out.below hbel; clear Ha
    have hb := Hb.out.below hbel; clear Hb
    have hc := Hc.out.below hbel; clear Hc
    have hbw := HBW.out.trans (hbel.mono HBW.out.size); clear HBW hbel
    have Ha := Lib.hid ha; clear ha
    have Hb := Lib.hid hb; clear hb
    have Hc := Lib.hid hc; clear hc
    have HBW := Lib.hid hbw; clear hbw
    have la := Ha.out.lt
    have lb := Hb.out.lt
    have lc := Hc.out.lt
    go_wp2_with fail
    clear la lb lc
    refine wp_region_below (by kernel_rfl) (by kernel_rfl) ?_
    refine wpQuiet_step (fun K hK => ?_); refine q_load (p := .pointer (some ⟨w.heap.size, 0, none⟩)) 24 _ rfl rfl rfl (load_t Ha.out) ?_; go_simp; (with_reducible refine hK _ ?_); clear hK K
    refine wpQuiet_step (fun K hK => ?_); refine q_load (p := .pointer (some ⟨(w.heap.size + 1), 0, none⟩)) 24 _ rfl rfl rfl (load_t Hb.out) ?_; go_simp; (with_reducible refine hK _ ?_); clear hK K
    refine wpQuiet_step (fun K hK => ?_); go_simp; (with_reducible refine ⟨_, fun _ hb => (Xq1.out _).mono fun _ _ h => ⟨h.1, hb.trans (h.2.mono (by simpa using hb.size))⟩, hK _ ?_⟩); clear hK K
    refine wpQuiet_step (fun K hK => ?_); refine q_load (p := .pointer (some ⟨(w.heap.size + 1), 0, none⟩)) 24 _ rfl rfl rfl (load_t Hb.out) ?_; go_simp; (with_reducible refine hK _ ?_); clear hK K
    refine wpQuiet_step (fun K hK => ?_); refine q_load (p := .pointer (some ⟨w.heap.size, 0, none⟩)) 24 _ rfl rfl rfl (load_t Ha.out) ?_; go_simp; (with_reducible refine hK _ ?_); clear hK K
    refine wpQuiet_step (fun K hK => ?_); go_simp; (with_reducible refine ⟨_, fun _ hb => (Xq2.out _).mono fun _ _ h => ⟨h.1, hb.trans (h.2.mono (by simpa using hb.size))⟩, hK _ ?_⟩); clear hK K
    refine wpQuiet_step (fun K hK => ?_); refine q_load (p := .pointer (some ⟨(w.heap.size + 1), 0, none⟩)) 24 _ rfl rfl rfl (load_t Hb.out) ?_; go_simp; (with_reducible refine hK _ ?_); clear hK K
    refine wpQuiet_step (fun K hK => ?_); refine q_load (p := .pointer (some ⟨(w.heap.size + 2), 0, none⟩)) 24 _ rfl rfl rfl (load_t Hc.out) ?_; go_simp; (with_reducible refine hK _ ?_); clear hK K
    refine wpQuiet_step (fun K hK => ?_); go_simp; (with_reducible refine ⟨_, fun _ hb => (Xq3.out _).mono fun _ _ h => ⟨h.1, hb.trans (h.2.mono (by simpa using hb.size))⟩, hK _ ?_⟩); clear hK K
    refine wpQuiet_step (fun K hK => ?_); refine q_load (p := .pointer (some ⟨w.heap.size, 0, none⟩)) 24 _ rfl rfl rfl (load_t Ha.out) ?_; go_simp; (with_reducible refine hK _ ?_); clear hK K
    refine wpQuiet_step (fun K hK => ?_); refine q_load (p := .pointer (some ⟨(w.heap.size + 2), 0, none⟩)) 24 _ rfl rfl rfl (load_t Hc.out) ?_; go_simp; (with_reducible refine hK _ ?_); clear hK K
    refine wpQuiet_step (fun K hK => ?_); go_simp; (with_reducible refine ⟨_, fun _ hb => (Xq4.out _).mono fun _ _ h => ⟨h.1, hb.trans (h.2.mono (by simpa using hb.size))⟩, hK _ ?_⟩); clear hK K
    refine wpQuiet_step (fun K hK => ?_); go_simp; (first | (with_reducible refine hK _ ?_) | (with_reducible refine ⟨_, fun _ _ => rfl, hK _ ?_⟩)); clear hK K
    refine wpQuiet_step (fun K hK => ?_); go_simp; (first | (with_reducible refine hK _ ?_) | (with_reducible refine ⟨_, fun _ _ => rfl, hK _ ?_⟩)); clear hK K
    refine wpQuiet_step (fun K hK => ?_); go_simp; (first | (with_reducible refine hK _ ?_) | (with_reducible refine ⟨_, fun _ _ => rfl, hK _ ?_⟩)); clear hK K
    refine wpQuiet_step (fun K hK => ?_); go_simp; (first | (with_reducible refine hK _ ?_) | (with_reducible refine ⟨_, fun _ _ => rfl, hK _ ?_⟩)); clear hK K
    refine wpQuiet_nil ?_
    intro v2 hbel
    have ha := Ha.out.below hbel; clear Ha
    have hb := Hb.out.below hbel; clear Hb
    have hc := Hc.out.below hbel; clear Hc
    have hbw := HBW.out.trans (hbel.mono HBW.out.size); clear HBW hbel
    have Ha := Lib.hid ha; clear ha
    have Hb := Lib.hid hb; clear hb
    have Hc := Lib.hid hc; clear hc
    have HBW := Lib.hid hbw; clear hbw
    have la := Ha.out.lt
    have lb := Hb.out.lt
    have lc := Hc.out.lt
    go_wp2_with fail
    clear la lb lc
    go_cut [98] from 63 to 97 (fun s wx => s = .bool false ∧ Below v2.heap.size v2 wx)
    case first =>
      refine wp_region_below (by kernel_rfl) (by kernel_rfl) ?_
      refine wpQuiet_step (fun K hK => ?_); go_simp; (first | (with_reducible refine hK _ ?_) | (with_reducible refine ⟨_, fun _ _ => rfl, hK _ ?_⟩)); clear hK K
      refine wpQuiet_step (fun K hK => ?_); go_simp; (first | (with_reducible refine hK _ ?_) | (with_reducible refine ⟨_, fun _ _ => rfl, hK _ ?_⟩)); clear hK K
      refine wpQuiet_step (fun K hK => ?_); go_simp; (first | (with_reducible refine hK _ ?_) | (with_reducible refine ⟨_, fun _ _ => rfl, hK _ ?_⟩)); clear hK K
      refine wpQuiet_step (fun K hK => ?_); go_simp; (first | (with_reducible refine hK _ ?_) | (with_reducible refine ⟨_, fun _ _ => rfl, hK _ ?_⟩)); clear hK K
      refine wpQuiet_step (fun K hK => ?_); go_simp; (first | (with_reducible refine hK _ ?_) | (with_reducible refine ⟨_, fun _ _ => rfl, hK _ ?_⟩)); clear hK K
      refine wpQuiet_step (fun K hK => ?_); go_simp; (first | (with_reducible refine hK _ ?_) | (with_reducible refine ⟨_, fun _ _ => rfl, hK _ ?_⟩)); clear hK K
      refine wpQuiet_step (fun K hK => ?_); go_simp; (first | (with_reducible refine hK _ ?_) | (with_reducible refine ⟨_, fun _ _ => rfl, hK _ ?_⟩)); clear hK K
      refine wpQuiet_step (fun K hK => ?_); go_simp; (first | (with_reducible refine hK _ ?_) | (with_reducible refine ⟨_, fun _ _ => rfl, hK _ ?_⟩)); clear hK K
      refine wpQuiet_step (fun K hK => ?_); go_simp; (first | (with_reducible refine hK _ ?_) | (with_reducible refine ⟨_, fun _ _ => rfl, hK _ ?_⟩)); clear hK K
      refine wpQuiet_step (fun K hK => ?_); go_simp; (first | (with_reducible refine hK _ ?_) | (with_reducible refine ⟨_, fun _ _ => rfl, hK _ ?_⟩)); clear hK K
      refine wpQuiet_step (fun K hK => ?_); go_simp; (first | (with_reducible refine hK _ ?_) | (with_reducible refine ⟨_, fun _ _ => rfl, hK _ ?_⟩)); clear hK K
      refine wpQuiet_step (fun K hK => ?_); go_simp; (first | (with_reducible refine hK _ ?_) | (with_reducible refine ⟨_, fun _ _ => rfl, hK _ ?_⟩)); clear hK K
      refine wpQuiet_step (fun K hK => ?_); go_simp; (first | (with_reducible refine hK _ ?_) | (with_reducible refine ⟨_, fun _ _ => rfl, hK _ ?_⟩)); clear hK K
      refine wpQuiet_step (fun K hK => ?_); go_simp; (first | (with_reducible refine hK _ ?_) | (with_reducible refine ⟨_, fun _ _ => rfl, hK _ ?_⟩)); clear hK K
      refine wpQuiet_step (fun K hK => ?_); go_simp; (first | (with_reducible refine hK _ ?_) | (with_reducible refine ⟨_, fun _ _ => rfl, hK _ ?_⟩)); clear hK K
      refine wpQuiet_step (fun K hK => ?_); go_simp; (first | (with_reducible refine hK _ ?_) | (with_reducible refine ⟨_, fun _ _ => rfl, hK _ ?_⟩)); clear hK K
      refine wpQuiet_step (fun K hK => ?_); go_simp; (first | (with_reducible refine hK _ ?_) | (with_reducible refine ⟨_, fun _ _ => rfl, hK _ ?_⟩)); clear hK K
      refine wpQuiet_step (fun K hK => ?_); go_simp; (first | (with_reducible refine hK _ ?_) | (with_reducible refine ⟨_, fun _ _ => rfl, hK _ ?_⟩)); clear hK K
      refine wpQuiet_step (fun K hK => ?_); go_simp; (first | (with_reducible refine hK _ ?_) | (with_reducible refine ⟨_, fun _ _ => rfl, hK _ ?_⟩)); clear hK K
      refine wpQuiet_step (fun K hK => ?_); go_simp; (first | (with_reducible refine hK _ ?_) | (with_reducible refine ⟨_, fun _ _ => rfl, hK _ ?_⟩)); clear hK K
      refine wpQuiet_step (fun K hK => ?_); go_simp; (first | (with_reducible refine hK _ ?_) | (with_reducible refine ⟨_, fun _ _ => rfl, hK _ ?_⟩)); clear hK K
      refine wpQuiet_step (fun K hK => ?_); go_simp; (first | (with_reducible refine hK _ ?_) | (with_reducible refine ⟨_, fun _ _ => rfl, hK _ ?_⟩)); clear hK K
      refine wpQuiet_step (fun K hK => ?_); go_simp; (first | (with_reducible refine hK _ ?_) | (with_reducible refine ⟨_, fun _ _ => rfl, hK _ ?_⟩)); clear hK K
      refine wpQuiet_step (fun K hK => ?_); go_simp; (first | (with_reducible refine hK _ ?_) | (with_reducible refine ⟨_, fun _ _ => rfl, hK _ ?_⟩)); clear hK K
      refine wpQuiet_step (fun K hK => ?_); go_simp; (first | (with_reducible refine hK _ ?_) | (with_reducible refine ⟨_, fun _ _ => rfl, hK _ ?_⟩)); clear hK K
      refine wpQuiet_step (fun K hK => ?_); go_simp; (first | (with_reducible refine hK _ ?_) | (with_reducible refine ⟨_, fun _ _ => rfl, hK _ ?_⟩)); clear hK K
      refine wpQuiet_step (fun K hK => ?_); go_simp; (first | (with_reducible refine hK _ ?_) | (with_reducible refine ⟨_, fun _ _ => rfl, hK _ ?_⟩)); clear hK K
      refine wpQuiet_step (fun K hK => ?_); go_simp; (first | (with_reducible refine hK _ ?_) | (with_reducible refine ⟨_, fun _ _ => rfl, hK _ ?_⟩)); clear hK K
      refine wpQuiet_step (fun K hK => ?_); go_simp; (first | (with_reducible refine hK _ ?_) | (with_reducible refine ⟨_, fun _ _ => rfl, hK _ ?_⟩)); clear hK K
      refine wpQuiet_step (fun K hK => ?_); refine q_load (p := .pointer (some ⟨w.heap.size, 0, none⟩)) 24 _ rfl rfl rfl (load_t Ha.out) ?_; go_simp; (with_reducible refine hK _ ?_); clear hK K
      refine wpQuiet_step (fun K hK => ?_); refine q_load (p := .pointer (some ⟨w.heap.size, 0, none⟩)) 24 _ rfl rfl rfl (load_t Ha.out) ?_; go_simp; (with_reducible refine hK _ ?_); clear hK K
      refine wpQuiet_step (fun K hK => ?_); go_simp; (with_reducible refine ⟨_, fun _ hb => (Xq5.out _).mono fun _ _ h => ⟨h.1, hb.trans (h.2.mono (by simpa using hb.size))⟩, hK _ ?_⟩); clear hK K
      refine wpQuiet_step (fun K hK => ?_); refine q_load (p := .pointer (some ⟨w.heap.size, 0, none⟩)) 24 _ rfl rfl rfl (load_t Ha.out) ?_; go_simp; (with_reducible refine hK _ ?_); clear hK K
      refine wpQuiet_step (fun K hK => ?_); go_simp; (with_reducible refine ⟨_, fun _ hb => (Xq6.out _).mono fun _ _ h => ⟨h.1, hb.trans (h.2.mono (by simpa using hb.size))⟩, hK _ ?_⟩); clear hK K
      refine wpQuiet_step (fun K hK => ?_); refine q_bin _ _ _ _ _ rfl rfl rfl rfl (neqb_self _ _ _) ?_; go_simp; (with_reducible refine hK _ ?_); clear hK K
      refine wpQuiet_step (fun K hK => ?_); go_simp; (first | (with_reducible refine hK _ ?_) | (with_reducible refine ⟨_, fun _ _ => rfl, hK _ ?_⟩)); clear hK K
      refine wpQuiet_nil ?_
      intro wz hbel
      go_wp2_with fail
      go_meet
      exact ⟨rfl, hbel⟩
    case rest =>
      obtain ⟨rfl, hbel⟩ := hcut
      have ha := Ha.out.below hbel; clear Ha
      have hb := Hb.out.below hbel; clear Hb
      have hc := Hc.out.below hbel; clear Hc
      have hbw := HBW.out.trans (hbel.mono HBW.out.size); clear HBW hbel
      have Ha := Lib.hid ha; clear ha
      have Hb := Lib.hid hb; clear hb
      have Hc := Lib.hid hc; clear hc
      have HBW := Lib.hid hbw; clear hbw
      have la := Ha.out.lt
      have lb := Hb.out.lt
      have lc := Hc.out.lt
      obtain ⟨ca0, ca1, ca2, ca3, ca4⟩ := Ha.out.cells5
      obtain ⟨cb0, cb1, cb2, cb3, cb4⟩ := Hb.out.cells5
      go_wp2_with fail
      clear la lb lc ca0 ca1 ca2 ca3 ca4 cb0 cb1 cb2 cb3 cb4
      refine (Xj1.out _).mono ?_; rintro e v4 ⟨rfl, hbel⟩
      have ha := Ha.out.below hbel; clear Ha
      have hb := Hb.out.below hbel; clear Hb
      have hc := Hc.out.below hbel; clear Hc
      have hbw := HBW.out.trans (hbel.mono HBW.out.size); clear HBW hbel
      have Ha := Lib.hid ha; clear ha
      have Hb := Lib.hid hb; clear hb
      have Hc := Lib.hid hc; clear hc
      have HBW := Lib.hid hbw; clear hbw
      have la := Ha.out.lt
      have lb := Hb.out.lt
      have lc := Hc.out.lt
      obtain ⟨ca0, ca1, ca2, ca3, ca4⟩ := Ha.out.cells5
      obtain ⟨cb0, cb1, cb2, cb3, cb4⟩ := Hb.out.cells5
      go_wp2_with fail
      clear la lb lc ca0 ca1 ca2 ca3 ca4 cb0 cb1 cb2 cb3 cb4
      have ha := Ha.out.alloc (.cells #[.int .i64 J.d, .int .i64 J.e, .int .i64 J.x, .int .i64 J.y, .int .i64 J.z] 24); clear Ha
      have hb := Hb.out.alloc (.cells #[.int .i64 J.d, .int .i64 J.e, .int .i64 J.x, .int .i64 J.y, .int .i64 J.z] 24); clear Hb
      have hc := Hc.out.alloc (.cells #[.int .i64 J.d, .int .i64 J.e, .int .i64 J.x, .int .i64 J.y, .int .i64 J.z] 24); clear Hc
      have hbj := Holds.made v4 J
      have hbw := HBW.out.alloc HBW.out.size (.cells #[.int .i64 J.d, .int .i64 J.e, .int .i64 J.x, .int .i64 J.y, .int .i64 J.z] 24); clear HBW
      generalize v4.alloc (.cells #[.int .i64 J.d, .int .i64 J.e, .int .i64 J.x, .int .i64 J.y, .int .i64 J.z] 24) = v5 at *
      generalize v4.heap.size = gbj at *
      have Ha := Lib.hid ha; clear ha
      have Hb := Lib.hid hb; clear hb
      have Hc := Lib.hid hc; clear hc
      have Hbj := Lib.hid hbj; clear hbj
      have HBW := Lib.hid hbw; clear hbw
      refine (Xj2.out _).mono ?_; rintro e v6 ⟨rfl, hbel⟩
      have ha := Ha.out.below hbel; clear Ha
      have hb := Hb.out.below hbel; clear Hb
      have hc := Hc.out.below hbel; clear Hc
      have hbj := Hbj.out.below hbel; clear Hbj
      have hbw := HBW.out.trans (hbel.mono HBW.out.size); clear HBW hbel
      have Ha := Lib.hid ha; clear ha
      have Hb := Lib.hid hb; clear hb
      have Hc := Lib.hid hc; clear hc
      have Hbj := Lib.hid hbj; clear hbj
      have HBW := Lib.hid hbw; clear hbw
      have la := Ha.out.lt
      have lb := Hb.out.lt
      have lc := Hc.out.lt
      have lbj := Hbj.out.lt
      go_wp2_with fail
      clear la lb lc lbj
      have ha := Ha.out.alloc (.cells #[.int .i64 M.d, .int .i64 M.e, .int .i64 M.x, .int .i64 M.y, .int .i64 M.z] 24); clear Ha
      have hb := Hb.out.alloc (.cells #[.int .i64 M.d, .int .i64 M.e, .int .i64 M.x, .int .i64 M.y, .int .i64 M.z] 24); clear Hb
      have hc := Hc.out.alloc (.cells #[.int .i64 M.d, .int .i64 M.e, .int .i64 M.x, .int .i64 M.y, .int .i64 M.z] 24); clear Hc
      have hbj := Hbj.out.alloc (.cells #[.int .i64 M.d, .int .i64 M.e, .int .i64 M.x, .int .i64 M.y, .int .i64 M.z] 24); clear Hbj
      have hbm := Holds.made v6 M
      have hbw := HBW.out.alloc HBW.out.size (.cells #[.int .i64 M.d, .int .i64 M.e, .int .i64 M.x, .int .i64 M.y, .int .i64 M.z] 24); clear HBW
      generalize v6.alloc (.cells #[.int .i64 M.d, .int .i64 M.e, .int .i64 M.x, .int .i64 M.y, .int .i64 M.z] 24) = v7 at *
      generalize v6.heap.size = gbm at *
      have Ha := Lib.hid ha; clear ha
      have Hb := Lib.hid hb; clear hb
      have Hc := Lib.hid hc; clear hc
      have Hbj := Lib.hid hbj; clear hbj
      have Hbm := Lib.hid hbm; clear hbm
      have HBW := Lib.hid hbw; clear hbw
      refine (Xww.out _).mono ?_; rintro e v8 ⟨rfl, hbel⟩
      have ha := Ha.out.below hbel; clear Ha
      have hb := Hb.out.below hbel; clear Hb
      have hc := Hc.out.below hbel; clear Hc
      have hbj := Hbj.out.below hbel; clear Hbj
      have hbm := Hbm.out.below hbel; clear Hbm
      have hbw := HBW.out.trans (hbel.mono HBW.out.size); clear HBW hbel
      have Ha := Lib.hid ha; clear ha
      have Hb := Lib.hid hb; clear hb
      have Hc := Lib.hid hc; clear hc
      have Hbj := Lib.hid hbj; clear hbj
      have Hbm := Lib.hid hbm; clear hbm
      have HBW := Lib.hid hbw; clear hbw
      go_wp2_with fail
      go_ret
      exact ⟨rfl, HBW.out⟩
set_option maxRecDepth 100000 in
set_option maxHeartbeats 8000000 in
theorem walk_yes (a b c : St) (w : World) (h : a.B b) : Calls Try.prog 5 #[a.val, b.val, c.val] w fun e w' => e = .returned (.bool true) ∧ Below w.heap.size w w' := by
  have k1 := one a b c
  have k2 := two a b c
  have r1 := fun w => compare_any a b w
  have r2 := fun w => compare_any b a w
  have r3 := fun w => compare_any b c w
  have r4 := fun w => compare_any a c w
  have q1 := fun w => leq_any a b w
  have q2 := fun w => leq_any b a w
  have q3 := fun w => leq_any b c w
  have q4 := fun w => leq_any a c w
  have q5 := call_is (show decide (a.L a) = decide a.R by rw [Bool.eq_iff_iff]; simp [St.L_refl]) (fun w => leq_any a a w)
  have q6 := fun w => right_any a w
  have ww := fun w => works_any w
  have j1 := pair_is (decide_eq_true h) (fun w => join_any a b w)
  have j2 := pair_is (decide_eq_true h) (fun w => meet_any a b w)
  have m1 := right_is (decide_eq_true (St.join_R h)) (right_any (a.join b))
  have m2 := right_is (decide_eq_true (St.meet_R h)) (right_any (a.meet b))
  have n1 := call_is (decide_eq_true (St.le_join h).1) (fun w => leq_any a (a.join b) w)
  have n2 := call_is (decide_eq_true (St.le_join h).2) (fun w => leq_any b (a.join b) w)
  have n3 := call_is (decide_eq_true (St.meet_le h).1) (fun w => leq_any (a.meet b) a w)
  have n4 := call_is (decide_eq_true (St.meet_le h).2) (fun w => leq_any (a.meet b) b w)
  have o1 := call_is (show decide ((a.join b).L c) = (decide (a.L c) && decide (b.L c)) by rw [Bool.eq_iff_iff]; simp [St.join_least h]) (fun w => leq_any (a.join b) c w)
  have o2 := call_is (show decide (c.L (a.meet b)) = (decide (c.L a) && decide (c.L b)) by rw [Bool.eq_iff_iff]; simp [St.meet_greatest h]) (fun w => leq_any c (a.meet b) w)
  have o3 := fun w => leq_any c a w
  have o4 := fun w => leq_any c b w
  generalize decide (c.L a) = ca at *
  generalize decide (c.L b) = cb at *
  generalize a.C b = n1' at *
  generalize b.C a = m1' at *
  generalize b.C c = n2' at *
  generalize a.C c = n3' at *
  generalize decide (a.L b) = ab at *
  generalize decide (b.L a) = ba at *
  generalize decide (b.L c) = bc at *
  generalize decide (a.L c) = ac at *
  generalize decide a.R = ra at *
  have hs : eqB a b = eqB a b := rfl
  generalize hsb : eqB a b = sb at k1 k2
  clear hs h
  generalize a.join b = J at *
  generalize a.meet b = M at *
  unfold St.val at *
  have Xk1 := Lib.hid k1; clear k1
  have Xk2 := Lib.hid k2; clear k2
  have Xr1 := Lib.hid r1; clear r1
  have Xr2 := Lib.hid r2; clear r2
  have Xr3 := Lib.hid r3; clear r3
  have Xr4 := Lib.hid r4; clear r4
  have Xq1 := Lib.hid q1; clear q1
  have Xq2 := Lib.hid q2; clear q2
  have Xq3 := Lib.hid q3; clear q3
  have Xq4 := Lib.hid q4; clear q4
  have Xq5 := Lib.hid q5; clear q5
  have Xq6 := Lib.hid q6; clear q6
  have Xj1 := Lib.hid j1; clear j1
  have Xj2 := Lib.hid j2; clear j2
  have Xww := Lib.hid ww; clear ww
  have Xhsb := Lib.hid hsb; clear hsb
  have Xm1 := Lib.hid m1; clear m1
  have Xm2 := Lib.hid m2; clear m2
  have Xn1 := Lib.hid n1; clear n1
  have Xn2 := Lib.hid n2; clear n2
  have Xn3 := Lib.hid n3; clear n3
  have Xn4 := Lib.hid n4; clear n4
  have Xo1 := Lib.hid o1; clear o1
  have Xo2 := Lib.hid o2; clear o2
  have Xo3 := Lib.hid o3; clear o3
  have Xo4 := Lib.hid o4; clear o4
  have ha := Holds.made w a
  have ha := ha.alloc (.cells #[.int .i64 b.d, .int .i64 b.e, .int .i64 b.x, .int .i64 b.y, .int .i64 b.z] 24)
  have hb := Holds.made (w.alloc (.cells #[.int .i64 a.d, .int .i64 a.e, .int .i64 a.x, .int .i64 a.y, .int .i64 a.z] 24)) b
  rw [size_alloc] at hb
  have ha := ha.alloc (.cells #[.int .i64 c.d, .int .i64 c.e, .int .i64 c.x, .int .i64 c.y, .int .i64 c.z] 24)
  have hb := hb.alloc (.cells #[.int .i64 c.d, .int .i64 c.e, .int .i64 c.x, .int .i64 c.y, .int .i64 c.z] 24)
  have hc := Holds.made ((w.alloc (.cells #[.int .i64 a.d, .int .i64 a.e, .int .i64 a.x, .int .i64 a.y, .int .i64 a.z] 24)).alloc (.cells #[.int .i64 b.d, .int .i64 b.e, .int .i64 b.x, .int .i64 b.y, .int .i64 b.z] 24)) c
  rw [size_alloc, size_alloc] at hc
  have hbw : Below w.heap.size w (((w.alloc (.cells #[.int .i64 a.d, .int .i64 a.e, .int .i64 a.x, .int .i64 a.y, .int .i64 a.z] 24)).alloc (.cells #[.int .i64 b.d, .int .i64 b.e, .int .i64 b.x, .int .i64 b.y, .int .i64 b.z] 24)).alloc (.cells #[.int .i64 c.d, .int .i64 c.e, .int .i64 c.x, .int .i64 c.y, .int .i64 c.z] 24)) := (((Below.refl _ _).alloc (by simp) _).alloc (by simp) _).alloc (by simp; omega) _
  have Ha := Lib.hid ha; clear ha
  have Hb := Lib.hid hb; clear hb
  have Hc := Lib.hid hc; clear hc
  have HBW := Lib.hid hbw; clear hbw
  go_enter Try.func5, Try.ntmps5
  go_wp2_with fail
  generalize ((w.alloc (.cells #[.int .i64 a.d, .int .i64 a.e, .int .i64 a.x, .int .i64 a.y, .int .i64 a.z] 24)).alloc (.cells #[.int .i64 b.d, .int .i64 b.e, .int .i64 b.x, .int .i64 b.y, .int .i64 b.z] 24)).alloc (.cells #[.int .i64 c.d, .int .i64 c.e, .int .i64 c.x, .int .i64 c.y, .int .i64 c.z] 24) = w0 at *
  go_cut [50] from 15 to 49 (fun s wx => s = .bool false ∧ Below w0.heap.size w0 wx)
  case first =>
    by_cases u1 : n1' ≤ 0
    · by_cases u2 : n2' ≤ 0
      · have u3 := Xk1.out.trans u1 u2
        have d1 := decide_eq_true u1
        have d2 := decide_eq_true u2
        have d3 : decide (n3' > 0) = false := decide_eq_false (by omega)
        have Xu1 := Lib.hid d1; have Xu2 := Lib.hid d2; have Xu3 := Lib.hid d3; clear u1 u2 u3 d1 d2 d3
        refine wp_region_below (by kernel_rfl) (by kernel_rfl) ?_
        refine wpQuiet_step (fun K hK => ?_); refine q_load (p := .pointer (some ⟨w.heap.size, 0, none⟩)) 24 _ rfl rfl rfl (load_t Ha.out) ?_; go_simp; (with_reducible refine hK _ ?_); clear hK K
        refine wpQuiet_step (fun K hK => ?_); refine q_load (p := .pointer (some ⟨(w.heap.size + 1), 0, none⟩)) 24 _ rfl rfl rfl (load_t Hb.out) ?_; go_simp; (with_reducible refine hK _ ?_); clear hK K
        refine wpQuiet_step (fun K hK => ?_); go_simp; (with_reducible refine ⟨_, fun _ hb => (Xr1.out _).mono fun _ _ h => ⟨h.1, hb.trans (h.2.mono (by simpa using hb.size))⟩, hK _ ?_⟩); clear hK K
        refine wpQuiet_step (fun K hK => ?_); refine q_load (p := .pointer (some ⟨(w.heap.size + 1), 0, none⟩)) 24 _ rfl rfl rfl (load_t Hb.out) ?_; go_simp; (with_reducible refine hK _ ?_); clear hK K
        refine wpQuiet_step (fun K hK => ?_); refine q_load (p := .pointer (some ⟨w.heap.size, 0, none⟩)) 24 _ rfl rfl rfl (load_t Ha.out) ?_; go_simp; (with_reducible refine hK _ ?_); clear hK K
        refine wpQuiet_step (fun K hK => ?_); go_simp; (with_reducible refine ⟨_, fun _ hb => (Xr2.out _).mono fun _ _ h => ⟨h.1, hb.trans (h.2.mono (by simpa using hb.size))⟩, hK _ ?_⟩); clear hK K
        refine wpQuiet_step (fun K hK => ?_); refine q_un .neg 3 _ rfl rfl rfl (neg_is Xk1.out.neg Xk1.out.lo Xk1.out.hi) ?_; go_simp; (with_reducible refine hK _ ?_); clear hK K
        refine wpQuiet_step (fun K hK => ?_); refine q_bin _ _ _ _ _ rfl rfl rfl rfl (neqi_self _ _ _) ?_; go_simp; (with_reducible refine hK _ ?_); clear hK K
        refine wpQuiet_step (fun K hK => ?_); go_simp; (first | (with_reducible refine hK _ ?_) | (with_reducible refine ⟨_, fun _ _ => rfl, hK _ ?_⟩)); clear hK K
        refine wpQuiet_step (fun K hK => ?_); refine q_load (p := .pointer (some ⟨w.heap.size, 0, none⟩)) 24 _ rfl rfl rfl (load_t Ha.out) ?_; go_simp; (with_reducible refine hK _ ?_); clear hK K
        refine wpQuiet_step (fun K hK => ?_); refine q_load (p := .pointer (some ⟨(w.heap.size + 1), 0, none⟩)) 24 _ rfl rfl rfl (load_t Hb.out) ?_; go_simp; (with_reducible refine hK _ ?_); clear hK K
        refine wpQuiet_step (fun K hK => ?_); go_simp; (with_reducible refine ⟨_, fun _ hb => (Xr1.out _).mono fun _ _ h => ⟨h.1, hb.trans (h.2.mono (by simpa using hb.size))⟩, hK _ ?_⟩); clear hK K
        refine wpQuiet_step (fun K hK => ?_); refine q_bin _ _ _ _ _ rfl rfl rfl rfl (eqi_is Xk1.out.zero) ?_; go_simp; (with_reducible refine hK _ ?_); clear hK K
        refine wpQuiet_step (fun K hK => ?_); refine q_load (p := .pointer (some ⟨w.heap.size, 0, none⟩)) 24 _ rfl rfl rfl (load_t Ha.out) ?_; go_simp; (with_reducible refine hK _ ?_); clear hK K
        refine wpQuiet_step (fun K hK => ?_); refine q_load (p := .pointer (some ⟨(w.heap.size + 1), 0, none⟩)) 24 _ rfl rfl rfl (load_t Hb.out) ?_; go_simp; (with_reducible refine hK _ ?_); clear hK K
        refine wpQuiet_step (fun K hK => ?_); refine q_bin _ _ _ _ _ rfl rfl rfl rfl (eqt_is Xhsb.out) ?_; go_simp; (with_reducible refine hK _ ?_); clear hK K
        refine wpQuiet_step (fun K hK => ?_); refine q_bin _ _ _ _ _ rfl rfl rfl rfl (neqb_self _ _ _) ?_; go_simp; (with_reducible refine hK _ ?_); clear hK K
        refine wpQuiet_step (fun K hK => ?_); go_simp; (first | (with_reducible refine hK _ ?_) | (with_reducible refine ⟨_, fun _ _ => rfl, hK _ ?_⟩)); clear hK K
        refine wpQuiet_step (fun K hK => ?_); go_simp; (first | (with_reducible refine hK _ ?_) | (with_reducible refine ⟨_, fun _ _ => rfl, hK _ ?_⟩)); clear hK K
        refine wpQuiet_step (fun K hK => ?_); refine q_load (p := .pointer (some ⟨w.heap.size, 0, none⟩)) 24 _ rfl rfl rfl (load_t Ha.out) ?_; go_simp; (with_reducible refine hK _ ?_); clear hK K
        refine wpQuiet_step (fun K hK => ?_); refine q_load (p := .pointer (some ⟨(w.heap.size + 1), 0, none⟩)) 24 _ rfl rfl rfl (load_t Hb.out) ?_; go_simp; (with_reducible refine hK _ ?_); clear hK K
        refine wpQuiet_step (fun K hK => ?_); go_simp; (with_reducible refine ⟨_, fun _ hb => (Xr1.out _).mono fun _ _ h => ⟨h.1, hb.trans (h.2.mono (by simpa using hb.size))⟩, hK _ ?_⟩); clear hK K
        refine wpQuiet_step (fun K hK => ?_); refine q_bin _ _ _ _ _ rfl rfl rfl rfl (lei_is Xu1.out) ?_; go_simp; (with_reducible refine hK _ ?_); clear hK K
        refine wpQuiet_step (fun K hK => ?_); go_simp; (first | (with_reducible refine hK _ ?_) | (with_reducible refine ⟨_, fun _ _ => rfl, hK _ ?_⟩)); clear hK K
        refine wpQuiet_step (fun K hK => ?_); refine q_load (p := .pointer (some ⟨(w.heap.size + 1), 0, none⟩)) 24 _ rfl rfl rfl (load_t Hb.out) ?_; go_simp; (with_reducible refine hK _ ?_); clear hK K
        refine wpQuiet_step (fun K hK => ?_); refine q_load (p := .pointer (some ⟨(w.heap.size + 2), 0, none⟩)) 24 _ rfl rfl rfl (load_t Hc.out) ?_; go_simp; (with_reducible refine hK _ ?_); clear hK K
        refine wpQuiet_step (fun K hK => ?_); go_simp; (with_reducible refine ⟨_, fun _ hb => (Xr3.out _).mono fun _ _ h => ⟨h.1, hb.trans (h.2.mono (by simpa using hb.size))⟩, hK _ ?_⟩); clear hK K
        refine wpQuiet_step (fun K hK => ?_); refine q_bin _ _ _ _ _ rfl rfl rfl rfl (lei_is Xu2.out) ?_; go_simp; (with_reducible refine hK _ ?_); clear hK K
        refine wpQuiet_step (fun K hK => ?_); go_simp; (first | (with_reducible refine hK _ ?_) | (with_reducible refine ⟨_, fun _ _ => rfl, hK _ ?_⟩)); clear hK K
        refine wpQuiet_step (fun K hK => ?_); go_simp; (first | (with_reducible refine hK _ ?_) | (with_reducible refine ⟨_, fun _ _ => rfl, hK _ ?_⟩)); clear hK K
        refine wpQuiet_step (fun K hK => ?_); refine q_load (p := .pointer (some ⟨w.heap.size, 0, none⟩)) 24 _ rfl rfl rfl (load_t Ha.out) ?_; go_simp; (with_reducible refine hK _ ?_); clear hK K
        refine wpQuiet_step (fun K hK => ?_); refine q_load (p := .pointer (some ⟨(w.heap.size + 2), 0, none⟩)) 24 _ rfl rfl rfl (load_t Hc.out) ?_; go_simp; (with_reducible refine hK _ ?_); clear hK K
        refine wpQuiet_step (fun K hK => ?_); go_simp; (with_reducible refine ⟨_, fun _ hb => (Xr4.out _).mono fun _ _ h => ⟨h.1, hb.trans (h.2.mono (by simpa using hb.size))⟩, hK _ ?_⟩); clear hK K
        refine wpQuiet_step (fun K hK => ?_); refine q_bin _ _ _ _ _ rfl rfl rfl rfl (gti_is Xu3.out) ?_; go_simp; (with_reducible refine hK _ ?_); clear hK K
        refine wpQuiet_step (fun K hK => ?_); go_simp; (first | (with_reducible refine hK _ ?_) | (with_reducible refine ⟨_, fun _ _ => rfl, hK _ ?_⟩)); clear hK K
        refine wpQuiet_step (fun K hK => ?_); go_simp; (first | (with_reducible refine hK _ ?_) | (with_reducible refine ⟨_, fun _ _ => rfl, hK _ ?_⟩)); clear hK K
        refine wpQuiet_nil ?_
        intro wz hbel
        go_wp2_with fail
        go_meet
        exact ⟨rfl, hbel⟩
      · have d1 := decide_eq_true u1
        have d2 := decide_eq_false u2
        have Xu1 := Lib.hid d1; have Xu2 := Lib.hid d2; clear u1 u2 d1 d2
        refine wp_region_below (by kernel_rfl) (by kernel_rfl) ?_
        refine wpQuiet_step (fun K hK => ?_); refine q_load (p := .pointer (some ⟨w.heap.size, 0, none⟩)) 24 _ rfl rfl rfl (load_t Ha.out) ?_; go_simp; (with_reducible refine hK _ ?_); clear hK K
        refine wpQuiet_step (fun K hK => ?_); refine q_load (p := .pointer (some ⟨(w.heap.size + 1), 0, none⟩)) 24 _ rfl rfl rfl (load_t Hb.out) ?_; go_simp; (with_reducible refine hK _ ?_); clear hK K
        refine wpQuiet_step (fun K hK => ?_); go_simp; (with_reducible refine ⟨_, fun _ hb => (Xr1.out _).mono fun _ _ h => ⟨h.1, hb.trans (h.2.mono (by simpa using hb.size))⟩, hK _ ?_⟩); clear hK K
        refine wpQuiet_step (fun K hK => ?_); refine q_load (p := .pointer (some ⟨(w.heap.size + 1), 0, none⟩)) 24 _ rfl rfl rfl (load_t Hb.out) ?_; go_simp; (with_reducible refine hK _ ?_); clear hK K
        refine wpQuiet_step (fun K hK => ?_); refine q_load (p := .pointer (some ⟨w.heap.size, 0, none⟩)) 24 _ rfl rfl rfl (load_t Ha.out) ?_; go_simp; (with_reducible refine hK _ ?_); clear hK K
        refine wpQuiet_step (fun K hK => ?_); go_simp; (with_reducible refine ⟨_, fun _ hb => (Xr2.out _).mono fun _ _ h => ⟨h.1, hb.trans (h.2.mono (by simpa using hb.size))⟩, hK _ ?_⟩); clear hK K
        refine wpQuiet_step (fun K hK => ?_); refine q_un .neg 3 _ rfl rfl rfl (neg_is Xk1.out.neg Xk1.out.lo Xk1.out.hi) ?_; go_simp; (with_reducible refine hK _ ?_); clear hK K
        refine wpQuiet_step (fun K hK => ?_); refine q_bin _ _ _ _ _ rfl rfl rfl rfl (neqi_self _ _ _) ?_; go_simp; (with_reducible refine hK _ ?_); clear hK K
        refine wpQuiet_step (fun K hK => ?_); go_simp; (first | (with_reducible refine hK _ ?_) | (with_reducible refine ⟨_, fun _ _ => rfl, hK _ ?_⟩)); clear hK K
        refine wpQuiet_step (fun K hK => ?_); refine q_load (p := .pointer (some ⟨w.heap.size, 0, none⟩)) 24 _ rfl rfl rfl (load_t Ha.out) ?_; go_simp; (with_reducible refine hK _ ?_); clear hK K
        refine wpQuiet_step (fun K hK => ?_); refine q_load (p := .pointer (some ⟨(w.heap.size + 1), 0, none⟩)) 24 _ rfl rfl rfl (load_t Hb.out) ?_; go_simp; (with_reducible refine hK _ ?_); clear hK K
        refine wpQuiet_step (fun K hK => ?_); go_simp; (with_reducible refine ⟨_, fun _ hb => (Xr1.out _).mono fun _ _ h => ⟨h.1, hb.trans (h.2.mono (by simpa using hb.size))⟩, hK _ ?_⟩); clear hK K
        refine wpQuiet_step (fun K hK => ?_); refine q_bin _ _ _ _ _ rfl rfl rfl rfl (eqi_is Xk1.out.zero) ?_; go_simp; (with_reducible refine hK _ ?_); clear hK K
        refine wpQuiet_step (fun K hK => ?_); refine q_load (p := .pointer (some ⟨w.heap.size, 0, none⟩)) 24 _ rfl rfl rfl (load_t Ha.out) ?_; go_simp; (with_reducible refine hK _ ?_); clear hK K
        refine wpQuiet_step (fun K hK => ?_); refine q_load (p := .pointer (some ⟨(w.heap.size + 1), 0, none⟩)) 24 _ rfl rfl rfl (load_t Hb.out) ?_; go_simp; (with_reducible refine hK _ ?_); clear hK K
        refine wpQuiet_step (fun K hK => ?_); refine q_bin _ _ _ _ _ rfl rfl rfl rfl (eqt_is Xhsb.out) ?_; go_simp; (with_reducible refine hK _ ?_); clear hK K
        refine wpQuiet_step (fun K hK => ?_); refine q_bin _ _ _ _ _ rfl rfl rfl rfl (neqb_self _ _ _) ?_; go_simp; (with_reducible refine hK _ ?_); clear hK K
        refine wpQuiet_step (fun K hK => ?_); go_simp; (first | (with_reducible refine hK _ ?_) | (with_reducible refine ⟨_, fun _ _ => rfl, hK _ ?_⟩)); clear hK K
        refine wpQuiet_step (fun K hK => ?_); go_simp; (first | (with_reducible refine hK _ ?_) | (with_reducible refine ⟨_, fun _ _ => rfl, hK _ ?_⟩)); clear hK K
        refine wpQuiet_step (fun K hK => ?_); refine q_load (p := .pointer (some ⟨w.heap.size, 0, none⟩)) 24 _ rfl rfl rfl (load_t Ha.out) ?_; go_simp; (with_reducible refine hK _ ?_); clear hK K
        refine wpQuiet_step (fun K hK => ?_); refine q_load (p := .pointer (some ⟨(w.heap.size + 1), 0, none⟩)) 24 _ rfl rfl rfl (load_t Hb.out) ?_; go_simp; (with_reducible refine hK _ ?_); clear hK K
        refine wpQuiet_step (fun K hK => ?_); go_simp; (with_reducible refine ⟨_, fun _ hb => (Xr1.out _).mono fun _ _ h => ⟨h.1, hb.trans (h.2.mono (by simpa using hb.size))⟩, hK _ ?_⟩); clear hK K
        refine wpQuiet_step (fun K hK => ?_); refine q_bin _ _ _ _ _ rfl rfl rfl rfl (lei_is Xu1.out) ?_; go_simp; (with_reducible refine hK _ ?_); clear hK K
        refine wpQuiet_step (fun K hK => ?_); go_simp; (first | (with_reducible refine hK _ ?_) | (with_reducible refine ⟨_, fun _ _ => rfl, hK _ ?_⟩)); clear hK K
        refine wpQuiet_step (fun K hK => ?_); refine q_load (p := .pointer (some ⟨(w.heap.size + 1), 0, none⟩)) 24 _ rfl rfl rfl (load_t Hb.out) ?_; go_simp; (with_reducible refine hK _ ?_); clear hK K
        refine wpQuiet_step (fun K hK => ?_); refine q_load (p := .pointer (some ⟨(w.heap.size + 2), 0, none⟩)) 24 _ rfl rfl rfl (load_t Hc.out) ?_; go_simp; (with_reducible refine hK _ ?_); clear hK K
        refine wpQuiet_step (fun K hK => ?_); go_simp; (with_reducible refine ⟨_, fun _ hb => (Xr3.out _).mono fun _ _ h => ⟨h.1, hb.trans (h.2.mono (by simpa using hb.size))⟩, hK _ ?_⟩); clear hK K
        refine wpQuiet_step (fun K hK => ?_); refine q_bin _ _ _ _ _ rfl rfl rfl rfl (lei_is Xu2.out) ?_; go_simp; (with_reducible refine hK _ ?_); clear hK K
        refine wpQuiet_step (fun K hK => ?_); go_simp; (first | (with_reducible refine hK _ ?_) | (with_reducible refine ⟨_, fun _ _ => rfl, hK _ ?_⟩)); clear hK K
        refine wpQuiet_step (fun K hK => ?_); go_simp; (first | (with_reducible refine hK _ ?_) | (with_reducible refine ⟨_, fun _ _ => rfl, hK _ ?_⟩)); clear hK K
        refine wpQuiet_step (fun K hK => ?_); go_simp; (first | (with_reducible refine hK _ ?_) | (with_reducible refine ⟨_, fun _ _ => rfl, hK _ ?_⟩)); clear hK K
        refine wpQuiet_step (fun K hK => ?_); go_simp; (first | (with_reducible refine hK _ ?_) | (with_reducible refine ⟨_, fun _ _ => rfl, hK _ ?_⟩)); clear hK K
        refine wpQuiet_step (fun K hK => ?_); go_simp; (first | (with_reducible refine hK _ ?_) | (with_reducible refine ⟨_, fun _ _ => rfl, hK _ ?_⟩)); clear hK K
        refine wpQuiet_step (fun K hK => ?_); go_simp; (first | (with_reducible refine hK _ ?_) | (with_reducible refine ⟨_, fun _ _ => rfl, hK _ ?_⟩)); clear hK K
        refine wpQuiet_step (fun K hK => ?_); go_simp; (first | (with_reducible refine hK _ ?_) | (with_reducible refine ⟨_, fun _ _ => rfl, hK _ ?_⟩)); clear hK K
        refine wpQuiet_step (fun K hK => ?_); go_simp; (first | (with_reducible refine hK _ ?_) | (with_reducible refine ⟨_, fun _ _ => rfl, hK _ ?_⟩)); clear hK K
        refine wpQuiet_nil ?_
        intro wz hbel
        go_wp2_with fail
        go_meet
        exact ⟨rfl, hbel⟩
    · have d1 := decide_eq_false u1
      have Xu1 := Lib.hid d1; clear u1 d1
      refine wp_region_below (by kernel_rfl) (by kernel_rfl) ?_
      refine wpQuiet_step (fun K hK => ?_); refine q_load (p := .pointer (some ⟨w.heap.size, 0, none⟩)) 24 _ rfl rfl rfl (load_t Ha.out) ?_; go_simp; (with_reducible refine hK _ ?_); clear hK K
      refine wpQuiet_step (fun K hK => ?_); refine q_load (p := .pointer (some ⟨(w.heap.size + 1), 0, none⟩)) 24 _ rfl rfl rfl (load_t Hb.out) ?_; go_simp; (with_reducible refine hK _ ?_); clear hK K
      refine wpQuiet_step (fun K hK => ?_); go_simp; (with_reducible refine ⟨_, fun _ hb => (Xr1.out _).mono fun _ _ h => ⟨h.1, hb.trans (h.2.mono (by simpa using hb.size))⟩, hK _ ?_⟩); clear hK K
      refine wpQuiet_step (fun K hK => ?_); refine q_load (p := .pointer (some ⟨(w.heap.size + 1), 0, none⟩)) 24 _ rfl rfl rfl (load_t Hb.out) ?_; go_simp; (with_reducible refine hK _ ?_); clear hK K
      refine wpQuiet_step (fun K hK => ?_); refine q_load (p := .pointer (some ⟨w.heap.size, 0, none⟩)) 24 _ rfl rfl rfl (load_t Ha.out) ?_; go_simp; (with_reducible refine hK _ ?_); clear hK K
      refine wpQuiet_step (fun K hK => ?_); go_simp; (with_reducible refine ⟨_, fun _ hb => (Xr2.out _).mono fun _ _ h => ⟨h.1, hb.trans (h.2.mono (by simpa using hb.size))⟩, hK _ ?_⟩); clear hK K
      refine wpQuiet_step (fun K hK => ?_); refine q_un .neg 3 _ rfl rfl rfl (neg_is Xk1.out.neg Xk1.out.lo Xk1.out.hi) ?_; go_simp; (with_reducible refine hK _ ?_); clear hK K
      refine wpQuiet_step (fun K hK => ?_); refine q_bin _ _ _ _ _ rfl rfl rfl rfl (neqi_self _ _ _) ?_; go_simp; (with_reducible refine hK _ ?_); clear hK K
      refine wpQuiet_step (fun K hK => ?_); go_simp; (first | (with_reducible refine hK _ ?_) | (with_reducible refine ⟨_, fun _ _ => rfl, hK _ ?_⟩)); clear hK K
      refine wpQuiet_step (fun K hK => ?_); refine q_load (p := .pointer (some ⟨w.heap.size, 0, none⟩)) 24 _ rfl rfl rfl (load_t Ha.out) ?_; go_simp; (with_reducible refine hK _ ?_); clear hK K
      refine wpQuiet_step (fun K hK => ?_); refine q_load (p := .pointer (some ⟨(w.heap.size + 1), 0, none⟩)) 24 _ rfl rfl rfl (load_t Hb.out) ?_; go_simp; (with_reducible refine hK _ ?_); clear hK K
      refine wpQuiet_step (fun K hK => ?_); go_simp; (with_reducible refine ⟨_, fun _ hb => (Xr1.out _).mono fun _ _ h => ⟨h.1, hb.trans (h.2.mono (by simpa using hb.size))⟩, hK _ ?_⟩); clear hK K
      refine wpQuiet_step (fun K hK => ?_); refine q_bin _ _ _ _ _ rfl rfl rfl rfl (eqi_is Xk1.out.zero) ?_; go_simp; (with_reducible refine hK _ ?_); clear hK K
      refine wpQuiet_step (fun K hK => ?_); refine q_load (p := .pointer (some ⟨w.heap.size, 0, none⟩)) 24 _ rfl rfl rfl (load_t Ha.out) ?_; go_simp; (with_reducible refine hK _ ?_); clear hK K
      refine wpQuiet_step (fun K hK => ?_); refine q_load (p := .pointer (some ⟨(w.heap.size + 1), 0, none⟩)) 24 _ rfl rfl rfl (load_t Hb.out) ?_; go_simp; (with_reducible refine hK _ ?_); clear hK K
      refine wpQuiet_step (fun K hK => ?_); refine q_bin _ _ _ _ _ rfl rfl rfl rfl (eqt_is Xhsb.out) ?_; go_simp; (with_reducible refine hK _ ?_); clear hK K
      refine wpQuiet_step (fun K hK => ?_); refine q_bin _ _ _ _ _ rfl rfl rfl rfl (neqb_self _ _ _) ?_; go_simp; (with_reducible refine hK _ ?_); clear hK K
      refine wpQuiet_step (fun K hK => ?_); go_simp; (first | (with_reducible refine hK _ ?_) | (with_reducible refine ⟨_, fun _ _ => rfl, hK _ ?_⟩)); clear hK K
      refine wpQuiet_step (fun K hK => ?_); go_simp; (first | (with_reducible refine hK _ ?_) | (with_reducible refine ⟨_, fun _ _ => rfl, hK _ ?_⟩)); clear hK K
      refine wpQuiet_step (fun K hK => ?_); refine q_load (p := .pointer (some ⟨w.heap.size, 0, none⟩)) 24 _ rfl rfl rfl (load_t Ha.out) ?_; go_simp; (with_reducible refine hK _ ?_); clear hK K
      refine wpQuiet_step (fun K hK => ?_); refine q_load (p := .pointer (some ⟨(w.heap.size + 1), 0, none⟩)) 24 _ rfl rfl rfl (load_t Hb.out) ?_; go_simp; (with_reducible refine hK _ ?_); clear hK K
      refine wpQuiet_step (fun K hK => ?_); go_simp; (with_reducible refine ⟨_, fun _ hb => (Xr1.out _).mono fun _ _ h => ⟨h.1, hb.trans (h.2.mono (by simpa using hb.size))⟩, hK _ ?_⟩); clear hK K
      refine wpQuiet_step (fun K hK => ?_); refine q_bin _ _ _ _ _ rfl rfl rfl rfl (lei_is Xu1.out) ?_; go_simp; (with_reducible refine hK _ ?_); clear hK K
      refine wpQuiet_step (fun K hK => ?_); go_simp; (first | (with_reducible refine hK _ ?_) | (with_reducible refine ⟨_, fun _ _ => rfl, hK _ ?_⟩)); clear hK K
      refine wpQuiet_step (fun K hK => ?_); go_simp; (first | (with_reducible refine hK _ ?_) | (with_reducible refine ⟨_, fun _ _ => rfl, hK _ ?_⟩)); clear hK K
      refine wpQuiet_step (fun K hK => ?_); go_simp; (first | (with_reducible refine hK _ ?_) | (with_reducible refine ⟨_, fun _ _ => rfl, hK _ ?_⟩)); clear hK K
      refine wpQuiet_step (fun K hK => ?_); go_simp; (first | (with_reducible refine hK _ ?_) | (with_reducible refine ⟨_, fun _ _ => rfl, hK _ ?_⟩)); clear hK K
      refine wpQuiet_step (fun K hK => ?_); go_simp; (first | (with_reducible refine hK _ ?_) | (with_reducible refine ⟨_, fun _ _ => rfl, hK _ ?_⟩)); clear hK K
      refine wpQuiet_step (fun K hK => ?_); go_simp; (first | (with_reducible refine hK _ ?_) | (with_reducible refine ⟨_, fun _ _ => rfl, hK _ ?_⟩)); clear hK K
      refine wpQuiet_step (fun K hK => ?_); go_simp; (first | (with_reducible refine hK _ ?_) | (with_reducible refine ⟨_, fun _ _ => rfl, hK _ ?_⟩)); clear hK K
      refine wpQuiet_step (fun K hK => ?_); go_simp; (first | (with_reducible refine hK _ ?_) | (with_reducible refine ⟨_, fun _ _ => rfl, hK _ ?_⟩)); clear hK K
      refine wpQuiet_step (fun K hK => ?_); go_simp; (first | (with_reducible refine hK _ ?_) | (with_reducible refine ⟨_, fun _ _ => rfl, hK _ ?_⟩)); clear hK K
      refine wpQuiet_step (fun K hK => ?_); go_simp; (first | (with_reducible refine hK _ ?_) | (with_reducible refine ⟨_, fun _ _ => rfl, hK _ ?_⟩)); clear hK K
      refine wpQuiet_step (fun K hK => ?_); go_simp; (first | (with_reducible refine hK _ ?_) | (with_reducible refine ⟨_, fun _ _ => rfl, hK _ ?_⟩)); clear hK K
      refine wpQuiet_step (fun K hK => ?_); go_simp; (first | (with_reducible refine hK _ ?_) | (with_reducible refine ⟨_, fun _ _ => rfl, hK _ ?_⟩)); clear hK K
      refine wpQuiet_step (fun K hK => ?_); go_simp; (first | (with_reducible refine hK _ ?_) | (with_reducible refine ⟨_, fun _ _ => rfl, hK _ ?_⟩)); clear hK K
      refine wpQuiet_nil ?_
      intro wz hbel
      go_wp2_with fail
      go_meet
      exact ⟨rfl, hbel⟩
  case rest =>
    obtain ⟨rfl, hbel⟩ := hcut
    have ha := Ha.out.below hbel; clear Ha
    have hb := Hb.out.below hbel; clear Hb
    have hc := Hc.out.below hbel; clear Hc
    have hbw := HBW.out.trans (hbel.mono HBW.out.size); clear HBW hbel
    have Ha := Lib.hid ha; clear ha
    have Hb := Lib.hid hb; clear hb
    have Hc := Lib.hid hc; clear hc
    have HBW := Lib.hid hbw; clear hbw
    have la := Ha.out.lt
    have lb := Hb.out.lt
    have lc := Hc.out.lt
    go_wp2_with fail
    clear la lb lc
    refine wp_region_below (by kernel_rfl) (by kernel_rfl) ?_
    refine wpQuiet_step (fun K hK => ?_); refine q_load (p := .pointer (some ⟨w.heap.size, 0, none⟩)) 24 _ rfl rfl rfl (load_t Ha.out) ?_; go_simp; (with_reducible refine hK _ ?_); clear hK K
    refine wpQuiet_step (fun K hK => ?_); refine q_load (p := .pointer (some ⟨(w.heap.size + 1), 0, none⟩)) 24 _ rfl rfl rfl (load_t Hb.out) ?_; go_simp; (with_reducible refine hK _ ?_); clear hK K
    refine wpQuiet_step (fun K hK => ?_); go_simp; (with_reducible refine ⟨_, fun _ hb => (Xq1.out _).mono fun _ _ h => ⟨h.1, hb.trans (h.2.mono (by simpa using hb.size))⟩, hK _ ?_⟩); clear hK K
    refine wpQuiet_step (fun K hK => ?_); refine q_load (p := .pointer (some ⟨(w.heap.size + 1), 0, none⟩)) 24 _ rfl rfl rfl (load_t Hb.out) ?_; go_simp; (with_reducible refine hK _ ?_); clear hK K
    refine wpQuiet_step (fun K hK => ?_); refine q_load (p := .pointer (some ⟨w.heap.size, 0, none⟩)) 24 _ rfl rfl rfl (load_t Ha.out) ?_; go_simp; (with_reducible refine hK _ ?_); clear hK K
    refine wpQuiet_step (fun K hK => ?_); go_simp; (with_reducible refine ⟨_, fun _ hb => (Xq2.out _).mono fun _ _ h => ⟨h.1, hb.trans (h.2.mono (by simpa using hb.size))⟩, hK _ ?_⟩); clear hK K
    refine wpQuiet_step (fun K hK => ?_); refine q_load (p := .pointer (some ⟨(w.heap.size + 1), 0, none⟩)) 24 _ rfl rfl rfl (load_t Hb.out) ?_; go_simp; (with_reducible refine hK _ ?_); clear hK K
    refine wpQuiet_step (fun K hK => ?_); refine q_load (p := .pointer (some ⟨(w.heap.size + 2), 0, none⟩)) 24 _ rfl rfl rfl (load_t Hc.out) ?_; go_simp; (with_reducible refine hK _ ?_); clear hK K
    refine wpQuiet_step (fun K hK => ?_); go_simp; (with_reducible refine ⟨_, fun _ hb => (Xq3.out _).mono fun _ _ h => ⟨h.1, hb.trans (h.2.mono (by simpa using hb.size))⟩, hK _ ?_⟩); clear hK K
    refine wpQuiet_step (fun K hK => ?_); refine q_load (p := .pointer (some ⟨w.heap.size, 0, none⟩)) 24 _ rfl rfl rfl (load_t Ha.out) ?_; go_simp; (with_reducible refine hK _ ?_); clear hK K
    refine wpQuiet_step (fun K hK => ?_); refine q_load (p := .pointer (some ⟨(w.heap.size + 2), 0, none⟩)) 24 _ rfl rfl rfl (load_t Hc.out) ?_; go_simp; (with_reducible refine hK _ ?_); clear hK K
    refine wpQuiet_step (fun K hK => ?_); go_simp; (with_reducible refine ⟨_, fun _ hb => (Xq4.out _).mono fun _ _ h => ⟨h.1, hb.trans (h.2.mono (by simpa using hb.size))⟩, hK _ ?_⟩); clear hK K
    refine wpQuiet_step (fun K hK => ?_); go_simp; (first | (with_reducible refine hK _ ?_) | (with_reducible refine ⟨_, fun _ _ => rfl, hK _ ?_⟩)); clear hK K
    refine wpQuiet_step (fun K hK => ?_); go_simp; (first | (with_reducible refine hK _ ?_) | (with_reducible refine ⟨_, fun _ _ => rfl, hK _ ?_⟩)); clear hK K
    refine wpQuiet_step (fun K hK => ?_); go_simp; (first | (with_reducible refine hK _ ?_) | (with_reducible refine ⟨_, fun _ _ => rfl, hK _ ?_⟩)); clear hK K
    refine wpQuiet_step (fun K hK => ?_); go_simp; (first | (with_reducible refine hK _ ?_) | (with_reducible refine ⟨_, fun _ _ => rfl, hK _ ?_⟩)); clear hK K
    refine wpQuiet_nil ?_
    intro v2 hbel
    have ha := Ha.out.below hbel; clear Ha
    have hb := Hb.out.below hbel; clear Hb
    have hc := Hc.out.below hbel; clear Hc
    have hbw := HBW.out.trans (hbel.mono HBW.out.size); clear HBW hbel
    have Ha := Lib.hid ha; clear ha
    have Hb := Lib.hid hb; clear hb
    have Hc := Lib.hid hc; clear hc
    have HBW := Lib.hid hbw; clear hbw
    have la := Ha.out.lt
    have lb := Hb.out.lt
    have lc := Hc.out.lt
    go_wp2_with fail
    clear la lb lc
    go_cut [98] from 63 to 97 (fun s wx => s = .bool false ∧ Below v2.heap.size v2 wx)
    case first =>
      cases ab
      · skip
        refine wp_region_below (by kernel_rfl) (by kernel_rfl) ?_
        refine wpQuiet_step (fun K hK => ?_); go_simp; (first | (with_reducible refine hK _ ?_) | (with_reducible refine ⟨_, fun _ _ => rfl, hK _ ?_⟩)); clear hK K
        refine wpQuiet_step (fun K hK => ?_); go_simp; (first | (with_reducible refine hK _ ?_) | (with_reducible refine ⟨_, fun _ _ => rfl, hK _ ?_⟩)); clear hK K
        refine wpQuiet_step (fun K hK => ?_); go_simp; (first | (with_reducible refine hK _ ?_) | (with_reducible refine ⟨_, fun _ _ => rfl, hK _ ?_⟩)); clear hK K
        refine wpQuiet_step (fun K hK => ?_); go_simp; (first | (with_reducible refine hK _ ?_) | (with_reducible refine ⟨_, fun _ _ => rfl, hK _ ?_⟩)); clear hK K
        refine wpQuiet_step (fun K hK => ?_); go_simp; (first | (with_reducible refine hK _ ?_) | (with_reducible refine ⟨_, fun _ _ => rfl, hK _ ?_⟩)); clear hK K
        refine wpQuiet_step (fun K hK => ?_); go_simp; (first | (with_reducible refine hK _ ?_) | (with_reducible refine ⟨_, fun _ _ => rfl, hK _ ?_⟩)); clear hK K
        refine wpQuiet_step (fun K hK => ?_); go_simp; (first | (with_reducible refine hK _ ?_) | (with_reducible refine ⟨_, fun _ _ => rfl, hK _ ?_⟩)); clear hK K
        refine wpQuiet_step (fun K hK => ?_); go_simp; (first | (with_reducible refine hK _ ?_) | (with_reducible refine ⟨_, fun _ _ => rfl, hK _ ?_⟩)); clear hK K
        refine wpQuiet_step (fun K hK => ?_); go_simp; (first | (with_reducible refine hK _ ?_) | (with_reducible refine ⟨_, fun _ _ => rfl, hK _ ?_⟩)); clear hK K
        refine wpQuiet_step (fun K hK => ?_); go_simp; (first | (with_reducible refine hK _ ?_) | (with_reducible refine ⟨_, fun _ _ => rfl, hK _ ?_⟩)); clear hK K
        refine wpQuiet_step (fun K hK => ?_); go_simp; (first | (with_reducible refine hK _ ?_) | (with_reducible refine ⟨_, fun _ _ => rfl, hK _ ?_⟩)); clear hK K
        refine wpQuiet_step (fun K hK => ?_); go_simp; (first | (with_reducible refine hK _ ?_) | (with_reducible refine ⟨_, fun _ _ => rfl, hK _ ?_⟩)); clear hK K
        refine wpQuiet_step (fun K hK => ?_); go_simp; (first | (with_reducible refine hK _ ?_) | (with_reducible refine ⟨_, fun _ _ => rfl, hK _ ?_⟩)); clear hK K
        refine wpQuiet_step (fun K hK => ?_); go_simp; (first | (with_reducible refine hK _ ?_) | (with_reducible refine ⟨_, fun _ _ => rfl, hK _ ?_⟩)); clear hK K
        refine wpQuiet_step (fun K hK => ?_); go_simp; (first | (with_reducible refine hK _ ?_) | (with_reducible refine ⟨_, fun _ _ => rfl, hK _ ?_⟩)); clear hK K
        refine wpQuiet_step (fun K hK => ?_); go_simp; (first | (with_reducible refine hK _ ?_) | (with_reducible refine ⟨_, fun _ _ => rfl, hK _ ?_⟩)); clear hK K
        refine wpQuiet_step (fun K hK => ?_); go_simp; (first | (with_reducible refine hK _ ?_) | (with_reducible refine ⟨_, fun _ _ => rfl, hK _ ?_⟩)); clear hK K
        refine wpQuiet_step (fun K hK => ?_); go_simp; (first | (with_reducible refine hK _ ?_) | (with_reducible refine ⟨_, fun _ _ => rfl, hK _ ?_⟩)); clear hK K
        refine wpQuiet_step (fun K hK => ?_); go_simp; (first | (with_reducible refine hK _ ?_) | (with_reducible refine ⟨_, fun _ _ => rfl, hK _ ?_⟩)); clear hK K
        refine wpQuiet_step (fun K hK => ?_); go_simp; (first | (with_reducible refine hK _ ?_) | (with_reducible refine ⟨_, fun _ _ => rfl, hK _ ?_⟩)); clear hK K
        refine wpQuiet_step (fun K hK => ?_); go_simp; (first | (with_reducible refine hK _ ?_) | (with_reducible refine ⟨_, fun _ _ => rfl, hK _ ?_⟩)); clear hK K
        refine wpQuiet_step (fun K hK => ?_); go_simp; (first | (with_reducible refine hK _ ?_) | (with_reducible refine ⟨_, fun _ _ => rfl, hK _ ?_⟩)); clear hK K
        refine wpQuiet_step (fun K hK => ?_); go_simp; (first | (with_reducible refine hK _ ?_) | (with_reducible refine ⟨_, fun _ _ => rfl, hK _ ?_⟩)); clear hK K
        refine wpQuiet_step (fun K hK => ?_); go_simp; (first | (with_reducible refine hK _ ?_) | (with_reducible refine ⟨_, fun _ _ => rfl, hK _ ?_⟩)); clear hK K
        refine wpQuiet_step (fun K hK => ?_); go_simp; (first | (with_reducible refine hK _ ?_) | (with_reducible refine ⟨_, fun _ _ => rfl, hK _ ?_⟩)); clear hK K
        refine wpQuiet_step (fun K hK => ?_); go_simp; (first | (with_reducible refine hK _ ?_) | (with_reducible refine ⟨_, fun _ _ => rfl, hK _ ?_⟩)); clear hK K
        refine wpQuiet_step (fun K hK => ?_); go_simp; (first | (with_reducible refine hK _ ?_) | (with_reducible refine ⟨_, fun _ _ => rfl, hK _ ?_⟩)); clear hK K
        refine wpQuiet_step (fun K hK => ?_); go_simp; (first | (with_reducible refine hK _ ?_) | (with_reducible refine ⟨_, fun _ _ => rfl, hK _ ?_⟩)); clear hK K
        refine wpQuiet_step (fun K hK => ?_); go_simp; (first | (with_reducible refine hK _ ?_) | (with_reducible refine ⟨_, fun _ _ => rfl, hK _ ?_⟩)); clear hK K
        refine wpQuiet_step (fun K hK => ?_); refine q_load (p := .pointer (some ⟨w.heap.size, 0, none⟩)) 24 _ rfl rfl rfl (load_t Ha.out) ?_; go_simp; (with_reducible refine hK _ ?_); clear hK K
        refine wpQuiet_step (fun K hK => ?_); refine q_load (p := .pointer (some ⟨w.heap.size, 0, none⟩)) 24 _ rfl rfl rfl (load_t Ha.out) ?_; go_simp; (with_reducible refine hK _ ?_); clear hK K
        refine wpQuiet_step (fun K hK => ?_); go_simp; (with_reducible refine ⟨_, fun _ hb => (Xq5.out _).mono fun _ _ h => ⟨h.1, hb.trans (h.2.mono (by simpa using hb.size))⟩, hK _ ?_⟩); clear hK K
        refine wpQuiet_step (fun K hK => ?_); refine q_load (p := .pointer (some ⟨w.heap.size, 0, none⟩)) 24 _ rfl rfl rfl (load_t Ha.out) ?_; go_simp; (with_reducible refine hK _ ?_); clear hK K
        refine wpQuiet_step (fun K hK => ?_); go_simp; (with_reducible refine ⟨_, fun _ hb => (Xq6.out _).mono fun _ _ h => ⟨h.1, hb.trans (h.2.mono (by simpa using hb.size))⟩, hK _ ?_⟩); clear hK K
        refine wpQuiet_step (fun K hK => ?_); refine q_bin _ _ _ _ _ rfl rfl rfl rfl (neqb_self _ _ _) ?_; go_simp; (with_reducible refine hK _ ?_); clear hK K
        refine wpQuiet_step (fun K hK => ?_); go_simp; (first | (with_reducible refine hK _ ?_) | (with_reducible refine ⟨_, fun _ _ => rfl, hK _ ?_⟩)); clear hK K
        refine wpQuiet_nil ?_
        intro wz hbel
        go_wp2_with fail
        go_meet
        exact ⟨rfl, hbel⟩
      · have d1 : decide (n1' > 0) = false := decide_eq_false (by have := Xk2.out.goes rfl; omega)
        have Xu := Lib.hid d1; clear d1
        cases ba
        · skip
          cases bc
          · skip
            refine wp_region_below (by kernel_rfl) (by kernel_rfl) ?_
            refine wpQuiet_step (fun K hK => ?_); go_simp; (first | (with_reducible refine hK _ ?_) | (with_reducible refine ⟨_, fun _ _ => rfl, hK _ ?_⟩)); clear hK K
            refine wpQuiet_step (fun K hK => ?_); go_simp; (first | (with_reducible refine hK _ ?_) | (with_reducible refine ⟨_, fun _ _ => rfl, hK _ ?_⟩)); clear hK K
            refine wpQuiet_step (fun K hK => ?_); go_simp; (first | (with_reducible refine hK _ ?_) | (with_reducible refine ⟨_, fun _ _ => rfl, hK _ ?_⟩)); clear hK K
            refine wpQuiet_step (fun K hK => ?_); go_simp; (first | (with_reducible refine hK _ ?_) | (with_reducible refine ⟨_, fun _ _ => rfl, hK _ ?_⟩)); clear hK K
            refine wpQuiet_step (fun K hK => ?_); go_simp; (first | (with_reducible refine hK _ ?_) | (with_reducible refine ⟨_, fun _ _ => rfl, hK _ ?_⟩)); clear hK K
            refine wpQuiet_step (fun K hK => ?_); go_simp; (first | (with_reducible refine hK _ ?_) | (with_reducible refine ⟨_, fun _ _ => rfl, hK _ ?_⟩)); clear hK K
            refine wpQuiet_step (fun K hK => ?_); go_simp; (first | (with_reducible refine hK _ ?_) | (with_reducible refine ⟨_, fun _ _ => rfl, hK _ ?_⟩)); clear hK K
            refine wpQuiet_step (fun K hK => ?_); go_simp; (first | (with_reducible refine hK _ ?_) | (with_reducible refine ⟨_, fun _ _ => rfl, hK _ ?_⟩)); clear hK K
            refine wpQuiet_step (fun K hK => ?_); go_simp; (first | (with_reducible refine hK _ ?_) | (with_reducible refine ⟨_, fun _ _ => rfl, hK _ ?_⟩)); clear hK K
            refine wpQuiet_step (fun K hK => ?_); go_simp; (first | (with_reducible refine hK _ ?_) | (with_reducible refine ⟨_, fun _ _ => rfl, hK _ ?_⟩)); clear hK K
            refine wpQuiet_step (fun K hK => ?_); go_simp; (first | (with_reducible refine hK _ ?_) | (with_reducible refine ⟨_, fun _ _ => rfl, hK _ ?_⟩)); clear hK K
            refine wpQuiet_step (fun K hK => ?_); go_simp; (first | (with_reducible refine hK _ ?_) | (with_reducible refine ⟨_, fun _ _ => rfl, hK _ ?_⟩)); clear hK K
            refine wpQuiet_step (fun K hK => ?_); go_simp; (first | (with_reducible refine hK _ ?_) | (with_reducible refine ⟨_, fun _ _ => rfl, hK _ ?_⟩)); clear hK K
            refine wpQuiet_step (fun K hK => ?_); go_simp; (first | (with_reducible refine hK _ ?_) | (with_reducible refine ⟨_, fun _ _ => rfl, hK _ ?_⟩)); clear hK K
            refine wpQuiet_step (fun K hK => ?_); go_simp; (first | (with_reducible refine hK _ ?_) | (with_reducible refine ⟨_, fun _ _ => rfl, hK _ ?_⟩)); clear hK K
            refine wpQuiet_step (fun K hK => ?_); go_simp; (first | (with_reducible refine hK _ ?_) | (with_reducible refine ⟨_, fun _ _ => rfl, hK _ ?_⟩)); clear hK K
            refine wpQuiet_step (fun K hK => ?_); go_simp; (first | (with_reducible refine hK _ ?_) | (with_reducible refine ⟨_, fun _ _ => rfl, hK _ ?_⟩)); clear hK K
            refine wpQuiet_step (fun K hK => ?_); go_simp; (first | (with_reducible refine hK _ ?_) | (with_reducible refine ⟨_, fun _ _ => rfl, hK _ ?_⟩)); clear hK K
            refine wpQuiet_step (fun K hK => ?_); go_simp; (first | (with_reducible refine hK _ ?_) | (with_reducible refine ⟨_, fun _ _ => rfl, hK _ ?_⟩)); clear hK K
            refine wpQuiet_step (fun K hK => ?_); go_simp; (first | (with_reducible refine hK _ ?_) | (with_reducible refine ⟨_, fun _ _ => rfl, hK _ ?_⟩)); clear hK K
            refine wpQuiet_step (fun K hK => ?_); go_simp; (first | (with_reducible refine hK _ ?_) | (with_reducible refine ⟨_, fun _ _ => rfl, hK _ ?_⟩)); clear hK K
            refine wpQuiet_step (fun K hK => ?_); go_simp; (first | (with_reducible refine hK _ ?_) | (with_reducible refine ⟨_, fun _ _ => rfl, hK _ ?_⟩)); clear hK K
            refine wpQuiet_step (fun K hK => ?_); refine q_load (p := .pointer (some ⟨w.heap.size, 0, none⟩)) 24 _ rfl rfl rfl (load_t Ha.out) ?_; go_simp; (with_reducible refine hK _ ?_); clear hK K
            refine wpQuiet_step (fun K hK => ?_); refine q_load (p := .pointer (some ⟨(w.heap.size + 1), 0, none⟩)) 24 _ rfl rfl rfl (load_t Hb.out) ?_; go_simp; (with_reducible refine hK _ ?_); clear hK K
            refine wpQuiet_step (fun K hK => ?_); go_simp; (with_reducible refine ⟨_, fun _ hb => (Xr1.out _).mono fun _ _ h => ⟨h.1, hb.trans (h.2.mono (by simpa using hb.size))⟩, hK _ ?_⟩); clear hK K
            refine wpQuiet_step (fun K hK => ?_); refine q_bin _ _ _ _ _ rfl rfl rfl rfl (gti_is Xu.out) ?_; go_simp; (with_reducible refine hK _ ?_); clear hK K
            refine wpQuiet_step (fun K hK => ?_); go_simp; (first | (with_reducible refine hK _ ?_) | (with_reducible refine ⟨_, fun _ _ => rfl, hK _ ?_⟩)); clear hK K
            refine wpQuiet_step (fun K hK => ?_); go_simp; (first | (with_reducible refine hK _ ?_) | (with_reducible refine ⟨_, fun _ _ => rfl, hK _ ?_⟩)); clear hK K
            refine wpQuiet_step (fun K hK => ?_); go_simp; (first | (with_reducible refine hK _ ?_) | (with_reducible refine ⟨_, fun _ _ => rfl, hK _ ?_⟩)); clear hK K
            refine wpQuiet_step (fun K hK => ?_); refine q_load (p := .pointer (some ⟨w.heap.size, 0, none⟩)) 24 _ rfl rfl rfl (load_t Ha.out) ?_; go_simp; (with_reducible refine hK _ ?_); clear hK K
            refine wpQuiet_step (fun K hK => ?_); refine q_load (p := .pointer (some ⟨w.heap.size, 0, none⟩)) 24 _ rfl rfl rfl (load_t Ha.out) ?_; go_simp; (with_reducible refine hK _ ?_); clear hK K
            refine wpQuiet_step (fun K hK => ?_); go_simp; (with_reducible refine ⟨_, fun _ hb => (Xq5.out _).mono fun _ _ h => ⟨h.1, hb.trans (h.2.mono (by simpa using hb.size))⟩, hK _ ?_⟩); clear hK K
            refine wpQuiet_step (fun K hK => ?_); refine q_load (p := .pointer (some ⟨w.heap.size, 0, none⟩)) 24 _ rfl rfl rfl (load_t Ha.out) ?_; go_simp; (with_reducible refine hK _ ?_); clear hK K
            refine wpQuiet_step (fun K hK => ?_); go_simp; (with_reducible refine ⟨_, fun _ hb => (Xq6.out _).mono fun _ _ h => ⟨h.1, hb.trans (h.2.mono (by simpa using hb.size))⟩, hK _ ?_⟩); clear hK K
            refine wpQuiet_step (fun K hK => ?_); refine q_bin _ _ _ _ _ rfl rfl rfl rfl (neqb_self _ _ _) ?_; go_simp; (with_reducible refine hK _ ?_); clear hK K
            refine wpQuiet_step (fun K hK => ?_); go_simp; (first | (with_reducible refine hK _ ?_) | (with_reducible refine ⟨_, fun _ _ => rfl, hK _ ?_⟩)); clear hK K
            refine wpQuiet_nil ?_
            intro wz hbel
            go_wp2_with fail
            go_meet
            exact ⟨rfl, hbel⟩
          · skip
            obtain rfl : ac = true := Xk2.out.trans rfl rfl
            refine wp_region_below (by kernel_rfl) (by kernel_rfl) ?_
            refine wpQuiet_step (fun K hK => ?_); go_simp; (first | (with_reducible refine hK _ ?_) | (with_reducible refine ⟨_, fun _ _ => rfl, hK _ ?_⟩)); clear hK K
            refine wpQuiet_step (fun K hK => ?_); go_simp; (first | (with_reducible refine hK _ ?_) | (with_reducible refine ⟨_, fun _ _ => rfl, hK _ ?_⟩)); clear hK K
            refine wpQuiet_step (fun K hK => ?_); go_simp; (first | (with_reducible refine hK _ ?_) | (with_reducible refine ⟨_, fun _ _ => rfl, hK _ ?_⟩)); clear hK K
            refine wpQuiet_step (fun K hK => ?_); go_simp; (first | (with_reducible refine hK _ ?_) | (with_reducible refine ⟨_, fun _ _ => rfl, hK _ ?_⟩)); clear hK K
            refine wpQuiet_step (fun K hK => ?_); go_simp; (first | (with_reducible refine hK _ ?_) | (with_reducible refine ⟨_, fun _ _ => rfl, hK _ ?_⟩)); clear hK K
            refine wpQuiet_step (fun K hK => ?_); go_simp; (first | (with_reducible refine hK _ ?_) | (with_reducible refine ⟨_, fun _ _ => rfl, hK _ ?_⟩)); clear hK K
            refine wpQuiet_step (fun K hK => ?_); go_simp; (first | (with_reducible refine hK _ ?_) | (with_reducible refine ⟨_, fun _ _ => rfl, hK _ ?_⟩)); clear hK K
            refine wpQuiet_step (fun K hK => ?_); go_simp; (first | (with_reducible refine hK _ ?_) | (with_reducible refine ⟨_, fun _ _ => rfl, hK _ ?_⟩)); clear hK K
            refine wpQuiet_step (fun K hK => ?_); go_simp; (first | (with_reducible refine hK _ ?_) | (with_reducible refine ⟨_, fun _ _ => rfl, hK _ ?_⟩)); clear hK K
            refine wpQuiet_step (fun K hK => ?_); go_simp; (first | (with_reducible refine hK _ ?_) | (with_reducible refine ⟨_, fun _ _ => rfl, hK _ ?_⟩)); clear hK K
            refine wpQuiet_step (fun K hK => ?_); go_simp; (first | (with_reducible refine hK _ ?_) | (with_reducible refine ⟨_, fun _ _ => rfl, hK _ ?_⟩)); clear hK K
            refine wpQuiet_step (fun K hK => ?_); go_simp; (first | (with_reducible refine hK _ ?_) | (with_reducible refine ⟨_, fun _ _ => rfl, hK _ ?_⟩)); clear hK K
            refine wpQuiet_step (fun K hK => ?_); go_simp; (first | (with_reducible refine hK _ ?_) | (with_reducible refine ⟨_, fun _ _ => rfl, hK _ ?_⟩)); clear hK K
            refine wpQuiet_step (fun K hK => ?_); go_simp; (first | (with_reducible refine hK _ ?_) | (with_reducible refine ⟨_, fun _ _ => rfl, hK _ ?_⟩)); clear hK K
            refine wpQuiet_step (fun K hK => ?_); go_simp; (first | (with_reducible refine hK _ ?_) | (with_reducible refine ⟨_, fun _ _ => rfl, hK _ ?_⟩)); clear hK K
            refine wpQuiet_step (fun K hK => ?_); go_simp; (first | (with_reducible refine hK _ ?_) | (with_reducible refine ⟨_, fun _ _ => rfl, hK _ ?_⟩)); clear hK K
            refine wpQuiet_step (fun K hK => ?_); go_simp; (first | (with_reducible refine hK _ ?_) | (with_reducible refine ⟨_, fun _ _ => rfl, hK _ ?_⟩)); clear hK K
            refine wpQuiet_step (fun K hK => ?_); go_simp; (first | (with_reducible refine hK _ ?_) | (with_reducible refine ⟨_, fun _ _ => rfl, hK _ ?_⟩)); clear hK K
            refine wpQuiet_step (fun K hK => ?_); go_simp; (first | (with_reducible refine hK _ ?_) | (with_reducible refine ⟨_, fun _ _ => rfl, hK _ ?_⟩)); clear hK K
            refine wpQuiet_step (fun K hK => ?_); go_simp; (first | (with_reducible refine hK _ ?_) | (with_reducible refine ⟨_, fun _ _ => rfl, hK _ ?_⟩)); clear hK K
            refine wpQuiet_step (fun K hK => ?_); go_simp; (first | (with_reducible refine hK _ ?_) | (with_reducible refine ⟨_, fun _ _ => rfl, hK _ ?_⟩)); clear hK K
            refine wpQuiet_step (fun K hK => ?_); go_simp; (first | (with_reducible refine hK _ ?_) | (with_reducible refine ⟨_, fun _ _ => rfl, hK _ ?_⟩)); clear hK K
            refine wpQuiet_step (fun K hK => ?_); refine q_load (p := .pointer (some ⟨w.heap.size, 0, none⟩)) 24 _ rfl rfl rfl (load_t Ha.out) ?_; go_simp; (with_reducible refine hK _ ?_); clear hK K
            refine wpQuiet_step (fun K hK => ?_); refine q_load (p := .pointer (some ⟨(w.heap.size + 1), 0, none⟩)) 24 _ rfl rfl rfl (load_t Hb.out) ?_; go_simp; (with_reducible refine hK _ ?_); clear hK K
            refine wpQuiet_step (fun K hK => ?_); go_simp; (with_reducible refine ⟨_, fun _ hb => (Xr1.out _).mono fun _ _ h => ⟨h.1, hb.trans (h.2.mono (by simpa using hb.size))⟩, hK _ ?_⟩); clear hK K
            refine wpQuiet_step (fun K hK => ?_); refine q_bin _ _ _ _ _ rfl rfl rfl rfl (gti_is Xu.out) ?_; go_simp; (with_reducible refine hK _ ?_); clear hK K
            refine wpQuiet_step (fun K hK => ?_); go_simp; (first | (with_reducible refine hK _ ?_) | (with_reducible refine ⟨_, fun _ _ => rfl, hK _ ?_⟩)); clear hK K
            refine wpQuiet_step (fun K hK => ?_); go_simp; (first | (with_reducible refine hK _ ?_) | (with_reducible refine ⟨_, fun _ _ => rfl, hK _ ?_⟩)); clear hK K
            refine wpQuiet_step (fun K hK => ?_); go_simp; (first | (with_reducible refine hK _ ?_) | (with_reducible refine ⟨_, fun _ _ => rfl, hK _ ?_⟩)); clear hK K
            refine wpQuiet_step (fun K hK => ?_); refine q_load (p := .pointer (some ⟨w.heap.size, 0, none⟩)) 24 _ rfl rfl rfl (load_t Ha.out) ?_; go_simp; (with_reducible refine hK _ ?_); clear hK K
            refine wpQuiet_step (fun K hK => ?_); refine q_load (p := .pointer (some ⟨w.heap.size, 0, none⟩)) 24 _ rfl rfl rfl (load_t Ha.out) ?_; go_simp; (with_reducible refine hK _ ?_); clear hK K
            refine wpQuiet_step (fun K hK => ?_); go_simp; (with_reducible refine ⟨_, fun _ hb => (Xq5.out _).mono fun _ _ h => ⟨h.1, hb.trans (h.2.mono (by simpa using hb.size))⟩, hK _ ?_⟩); clear hK K
            refine wpQuiet_step (fun K hK => ?_); refine q_load (p := .pointer (some ⟨w.heap.size, 0, none⟩)) 24 _ rfl rfl rfl (load_t Ha.out) ?_; go_simp; (with_reducible refine hK _ ?_); clear hK K
            refine wpQuiet_step (fun K hK => ?_); go_simp; (with_reducible refine ⟨_, fun _ hb => (Xq6.out _).mono fun _ _ h => ⟨h.1, hb.trans (h.2.mono (by simpa using hb.size))⟩, hK _ ?_⟩); clear hK K
            refine wpQuiet_step (fun K hK => ?_); refine q_bin _ _ _ _ _ rfl rfl rfl rfl (neqb_self _ _ _) ?_; go_simp; (with_reducible refine hK _ ?_); clear hK K
            refine wpQuiet_step (fun K hK => ?_); go_simp; (first | (with_reducible refine hK _ ?_) | (with_reducible refine ⟨_, fun _ _ => rfl, hK _ ?_⟩)); clear hK K
            refine wpQuiet_nil ?_
            intro wz hbel
            go_wp2_with fail
            go_meet
            exact ⟨rfl, hbel⟩
        · skip
          have d2 : (!eqB a b) = false := by rw [Xhsb.out, Xk2.out.anti rfl rfl]; rfl
          have Xs := Lib.hid d2; clear d2
          cases bc
          · skip
            refine wp_region_below (by kernel_rfl) (by kernel_rfl) ?_
            refine wpQuiet_step (fun K hK => ?_); go_simp; (first | (with_reducible refine hK _ ?_) | (with_reducible refine ⟨_, fun _ _ => rfl, hK _ ?_⟩)); clear hK K
            refine wpQuiet_step (fun K hK => ?_); go_simp; (first | (with_reducible refine hK _ ?_) | (with_reducible refine ⟨_, fun _ _ => rfl, hK _ ?_⟩)); clear hK K
            refine wpQuiet_step (fun K hK => ?_); go_simp; (first | (with_reducible refine hK _ ?_) | (with_reducible refine ⟨_, fun _ _ => rfl, hK _ ?_⟩)); clear hK K
            refine wpQuiet_step (fun K hK => ?_); go_simp; (first | (with_reducible refine hK _ ?_) | (with_reducible refine ⟨_, fun _ _ => rfl, hK _ ?_⟩)); clear hK K
            refine wpQuiet_step (fun K hK => ?_); go_simp; (first | (with_reducible refine hK _ ?_) | (with_reducible refine ⟨_, fun _ _ => rfl, hK _ ?_⟩)); clear hK K
            refine wpQuiet_step (fun K hK => ?_); refine q_load (p := .pointer (some ⟨w.heap.size, 0, none⟩)) 24 _ rfl rfl rfl (load_t Ha.out) ?_; go_simp; (with_reducible refine hK _ ?_); clear hK K
            refine wpQuiet_step (fun K hK => ?_); refine q_load (p := .pointer (some ⟨(w.heap.size + 1), 0, none⟩)) 24 _ rfl rfl rfl (load_t Hb.out) ?_; go_simp; (with_reducible refine hK _ ?_); clear hK K
            refine wpQuiet_step (fun K hK => ?_); refine q_bin _ _ _ _ _ rfl rfl rfl rfl (net_is Xs.out) ?_; go_simp; (with_reducible refine hK _ ?_); clear hK K
            refine wpQuiet_step (fun K hK => ?_); go_simp; (first | (with_reducible refine hK _ ?_) | (with_reducible refine ⟨_, fun _ _ => rfl, hK _ ?_⟩)); clear hK K
            refine wpQuiet_step (fun K hK => ?_); go_simp; (first | (with_reducible refine hK _ ?_) | (with_reducible refine ⟨_, fun _ _ => rfl, hK _ ?_⟩)); clear hK K
            refine wpQuiet_step (fun K hK => ?_); go_simp; (first | (with_reducible refine hK _ ?_) | (with_reducible refine ⟨_, fun _ _ => rfl, hK _ ?_⟩)); clear hK K
            refine wpQuiet_step (fun K hK => ?_); go_simp; (first | (with_reducible refine hK _ ?_) | (with_reducible refine ⟨_, fun _ _ => rfl, hK _ ?_⟩)); clear hK K
            refine wpQuiet_step (fun K hK => ?_); go_simp; (first | (with_reducible refine hK _ ?_) | (with_reducible refine ⟨_, fun _ _ => rfl, hK _ ?_⟩)); clear hK K
            refine wpQuiet_step (fun K hK => ?_); go_simp; (first | (with_reducible refine hK _ ?_) | (with_reducible refine ⟨_, fun _ _ => rfl, hK _ ?_⟩)); clear hK K
            refine wpQuiet_step (fun K hK => ?_); go_simp; (first | (with_reducible refine hK _ ?_) | (with_reducible refine ⟨_, fun _ _ => rfl, hK _ ?_⟩)); clear hK K
            refine wpQuiet_step (fun K hK => ?_); go_simp; (first | (with_reducible refine hK _ ?_) | (with_reducible refine ⟨_, fun _ _ => rfl, hK _ ?_⟩)); clear hK K
            refine wpQuiet_step (fun K hK => ?_); go_simp; (first | (with_reducible refine hK _ ?_) | (with_reducible refine ⟨_, fun _ _ => rfl, hK _ ?_⟩)); clear hK K
            refine wpQuiet_step (fun K hK => ?_); go_simp; (first | (with_reducible refine hK _ ?_) | (with_reducible refine ⟨_, fun _ _ => rfl, hK _ ?_⟩)); clear hK K
            refine wpQuiet_step (fun K hK => ?_); go_simp; (first | (with_reducible refine hK _ ?_) | (with_reducible refine ⟨_, fun _ _ => rfl, hK _ ?_⟩)); clear hK K
            refine wpQuiet_step (fun K hK => ?_); go_simp; (first | (with_reducible refine hK _ ?_) | (with_reducible refine ⟨_, fun _ _ => rfl, hK _ ?_⟩)); clear hK K
            refine wpQuiet_step (fun K hK => ?_); go_simp; (first | (with_reducible refine hK _ ?_) | (with_reducible refine ⟨_, fun _ _ => rfl, hK _ ?_⟩)); clear hK K
            refine wpQuiet_step (fun K hK => ?_); go_simp; (first | (with_reducible refine hK _ ?_) | (with_reducible refine ⟨_, fun _ _ => rfl, hK _ ?_⟩)); clear hK K
            refine wpQuiet_step (fun K hK => ?_); refine q_load (p := .pointer (some ⟨w.heap.size, 0, none⟩)) 24 _ rfl rfl rfl (load_t Ha.out) ?_; go_simp; (with_reducible refine hK _ ?_); clear hK K
            refine wpQuiet_step (fun K hK => ?_); refine q_load (p := .pointer (some ⟨(w.heap.size + 1), 0, none⟩)) 24 _ rfl rfl rfl (load_t Hb.out) ?_; go_simp; (with_reducible refine hK _ ?_); clear hK K
            refine wpQuiet_step (fun K hK => ?_); go_simp; (with_reducible refine ⟨_, fun _ hb => (Xr1.out _).mono fun _ _ h => ⟨h.1, hb.trans (h.2.mono (by simpa using hb.size))⟩, hK _ ?_⟩); clear hK K
            refine wpQuiet_step (fun K hK => ?_); refine q_bin _ _ _ _ _ rfl rfl rfl rfl (gti_is Xu.out) ?_; go_simp; (with_reducible refine hK _ ?_); clear hK K
            refine wpQuiet_step (fun K hK => ?_); go_simp; (first | (with_reducible refine hK _ ?_) | (with_reducible refine ⟨_, fun _ _ => rfl, hK _ ?_⟩)); clear hK K
            refine wpQuiet_step (fun K hK => ?_); go_simp; (first | (with_reducible refine hK _ ?_) | (with_reducible refine ⟨_, fun _ _ => rfl, hK _ ?_⟩)); clear hK K
            refine wpQuiet_step (fun K hK => ?_); go_simp; (first | (with_reducible refine hK _ ?_) | (with_reducible refine ⟨_, fun _ _ => rfl, hK _ ?_⟩)); clear hK K
            refine wpQuiet_step (fun K hK => ?_); refine q_load (p := .pointer (some ⟨w.heap.size, 0, none⟩)) 24 _ rfl rfl rfl (load_t Ha.out) ?_; go_simp; (with_reducible refine hK _ ?_); clear hK K
            refine wpQuiet_step (fun K hK => ?_); refine q_load (p := .pointer (some ⟨w.heap.size, 0, none⟩)) 24 _ rfl rfl rfl (load_t Ha.out) ?_; go_simp; (with_reducible refine hK _ ?_); clear hK K
            refine wpQuiet_step (fun K hK => ?_); go_simp; (with_reducible refine ⟨_, fun _ hb => (Xq5.out _).mono fun _ _ h => ⟨h.1, hb.trans (h.2.mono (by simpa using hb.size))⟩, hK _ ?_⟩); clear hK K
            refine wpQuiet_step (fun K hK => ?_); refine q_load (p := .pointer (some ⟨w.heap.size, 0, none⟩)) 24 _ rfl rfl rfl (load_t Ha.out) ?_; go_simp; (with_reducible refine hK _ ?_); clear hK K
            refine wpQuiet_step (fun K hK => ?_); go_simp; (with_reducible refine ⟨_, fun _ hb => (Xq6.out _).mono fun _ _ h => ⟨h.1, hb.trans (h.2.mono (by simpa using hb.size))⟩, hK _ ?_⟩); clear hK K
            refine wpQuiet_step (fun K hK => ?_); refine q_bin _ _ _ _ _ rfl rfl rfl rfl (neqb_self _ _ _) ?_; go_simp; (with_reducible refine hK _ ?_); clear hK K
            refine wpQuiet_step (fun K hK => ?_); go_simp; (first | (with_reducible refine hK _ ?_) | (with_reducible refine ⟨_, fun _ _ => rfl, hK _ ?_⟩)); clear hK K
            refine wpQuiet_nil ?_
            intro wz hbel
            go_wp2_with fail
            go_meet
            exact ⟨rfl, hbel⟩
          · skip
            obtain rfl : ac = true := Xk2.out.trans rfl rfl
            refine wp_region_below (by kernel_rfl) (by kernel_rfl) ?_
            refine wpQuiet_step (fun K hK => ?_); go_simp; (first | (with_reducible refine hK _ ?_) | (with_reducible refine ⟨_, fun _ _ => rfl, hK _ ?_⟩)); clear hK K
            refine wpQuiet_step (fun K hK => ?_); go_simp; (first | (with_reducible refine hK _ ?_) | (with_reducible refine ⟨_, fun _ _ => rfl, hK _ ?_⟩)); clear hK K
            refine wpQuiet_step (fun K hK => ?_); go_simp; (first | (with_reducible refine hK _ ?_) | (with_reducible refine ⟨_, fun _ _ => rfl, hK _ ?_⟩)); clear hK K
            refine wpQuiet_step (fun K hK => ?_); go_simp; (first | (with_reducible refine hK _ ?_) | (with_reducible refine ⟨_, fun _ _ => rfl, hK _ ?_⟩)); clear hK K
            refine wpQuiet_step (fun K hK => ?_); go_simp; (first | (with_reducible refine hK _ ?_) | (with_reducible refine ⟨_, fun _ _ => rfl, hK _ ?_⟩)); clear hK K
            refine wpQuiet_step (fun K hK => ?_); refine q_load (p := .pointer (some ⟨w.heap.size, 0, none⟩)) 24 _ rfl rfl rfl (load_t Ha.out) ?_; go_simp; (with_reducible refine hK _ ?_); clear hK K
            refine wpQuiet_step (fun K hK => ?_); refine q_load (p := .pointer (some ⟨(w.heap.size + 1), 0, none⟩)) 24 _ rfl rfl rfl (load_t Hb.out) ?_; go_simp; (with_reducible refine hK _ ?_); clear hK K
            refine wpQuiet_step (fun K hK => ?_); refine q_bin _ _ _ _ _ rfl rfl rfl rfl (net_is Xs.out) ?_; go_simp; (with_reducible refine hK _ ?_); clear hK K
            refine wpQuiet_step (fun K hK => ?_); go_simp; (first | (with_reducible refine hK _ ?_) | (with_reducible refine ⟨_, fun _ _ => rfl, hK _ ?_⟩)); clear hK K
            refine wpQuiet_step (fun K hK => ?_); go_simp; (first | (with_reducible refine hK _ ?_) | (with_reducible refine ⟨_, fun _ _ => rfl, hK _ ?_⟩)); clear hK K
            refine wpQuiet_step (fun K hK => ?_); go_simp; (first | (with_reducible refine hK _ ?_) | (with_reducible refine ⟨_, fun _ _ => rfl, hK _ ?_⟩)); clear hK K
            refine wpQuiet_step (fun K hK => ?_); go_simp; (first | (with_reducible refine hK _ ?_) | (with_reducible refine ⟨_, fun _ _ => rfl, hK _ ?_⟩)); clear hK K
            refine wpQuiet_step (fun K hK => ?_); go_simp; (first | (with_reducible refine hK _ ?_) | (with_reducible refine ⟨_, fun _ _ => rfl, hK _ ?_⟩)); clear hK K
            refine wpQuiet_step (fun K hK => ?_); go_simp; (first | (with_reducible refine hK _ ?_) | (with_reducible refine ⟨_, fun _ _ => rfl, hK _ ?_⟩)); clear hK K
            refine wpQuiet_step (fun K hK => ?_); go_simp; (first | (with_reducible refine hK _ ?_) | (with_reducible refine ⟨_, fun _ _ => rfl, hK _ ?_⟩)); clear hK K
            refine wpQuiet_step (fun K hK => ?_); go_simp; (first | (with_reducible refine hK _ ?_) | (with_reducible refine ⟨_, fun _ _ => rfl, hK _ ?_⟩)); clear hK K
            refine wpQuiet_step (fun K hK => ?_); go_simp; (first | (with_reducible refine hK _ ?_) | (with_reducible refine ⟨_, fun _ _ => rfl, hK _ ?_⟩)); clear hK K
            refine wpQuiet_step (fun K hK => ?_); go_simp; (first | (with_reducible refine hK _ ?_) | (with_reducible refine ⟨_, fun _ _ => rfl, hK _ ?_⟩)); clear hK K
            refine wpQuiet_step (fun K hK => ?_); go_simp; (first | (with_reducible refine hK _ ?_) | (with_reducible refine ⟨_, fun _ _ => rfl, hK _ ?_⟩)); clear hK K
            refine wpQuiet_step (fun K hK => ?_); go_simp; (first | (with_reducible refine hK _ ?_) | (with_reducible refine ⟨_, fun _ _ => rfl, hK _ ?_⟩)); clear hK K
            refine wpQuiet_step (fun K hK => ?_); go_simp; (first | (with_reducible refine hK _ ?_) | (with_reducible refine ⟨_, fun _ _ => rfl, hK _ ?_⟩)); clear hK K
            refine wpQuiet_step (fun K hK => ?_); go_simp; (first | (with_reducible refine hK _ ?_) | (with_reducible refine ⟨_, fun _ _ => rfl, hK _ ?_⟩)); clear hK K
            refine wpQuiet_step (fun K hK => ?_); refine q_load (p := .pointer (some ⟨w.heap.size, 0, none⟩)) 24 _ rfl rfl rfl (load_t Ha.out) ?_; go_simp; (with_reducible refine hK _ ?_); clear hK K
            refine wpQuiet_step (fun K hK => ?_); refine q_load (p := .pointer (some ⟨(w.heap.size + 1), 0, none⟩)) 24 _ rfl rfl rfl (load_t Hb.out) ?_; go_simp; (with_reducible refine hK _ ?_); clear hK K
            refine wpQuiet_step (fun K hK => ?_); go_simp; (with_reducible refine ⟨_, fun _ hb => (Xr1.out _).mono fun _ _ h => ⟨h.1, hb.trans (h.2.mono (by simpa using hb.size))⟩, hK _ ?_⟩); clear hK K
            refine wpQuiet_step (fun K hK => ?_); refine q_bin _ _ _ _ _ rfl rfl rfl rfl (gti_is Xu.out) ?_; go_simp; (with_reducible refine hK _ ?_); clear hK K
            refine wpQuiet_step (fun K hK => ?_); go_simp; (first | (with_reducible refine hK _ ?_) | (with_reducible refine ⟨_, fun _ _ => rfl, hK _ ?_⟩)); clear hK K
            refine wpQuiet_step (fun K hK => ?_); go_simp; (first | (with_reducible refine hK _ ?_) | (with_reducible refine ⟨_, fun _ _ => rfl, hK _ ?_⟩)); clear hK K
            refine wpQuiet_step (fun K hK => ?_); go_simp; (first | (with_reducible refine hK _ ?_) | (with_reducible refine ⟨_, fun _ _ => rfl, hK _ ?_⟩)); clear hK K
            refine wpQuiet_step (fun K hK => ?_); refine q_load (p := .pointer (some ⟨w.heap.size, 0, none⟩)) 24 _ rfl rfl rfl (load_t Ha.out) ?_; go_simp; (with_reducible refine hK _ ?_); clear hK K
            refine wpQuiet_step (fun K hK => ?_); refine q_load (p := .pointer (some ⟨w.heap.size, 0, none⟩)) 24 _ rfl rfl rfl (load_t Ha.out) ?_; go_simp; (with_reducible refine hK _ ?_); clear hK K
            refine wpQuiet_step (fun K hK => ?_); go_simp; (with_reducible refine ⟨_, fun _ hb => (Xq5.out _).mono fun _ _ h => ⟨h.1, hb.trans (h.2.mono (by simpa using hb.size))⟩, hK _ ?_⟩); clear hK K
            refine wpQuiet_step (fun K hK => ?_); refine q_load (p := .pointer (some ⟨w.heap.size, 0, none⟩)) 24 _ rfl rfl rfl (load_t Ha.out) ?_; go_simp; (with_reducible refine hK _ ?_); clear hK K
            refine wpQuiet_step (fun K hK => ?_); go_simp; (with_reducible refine ⟨_, fun _ hb => (Xq6.out _).mono fun _ _ h => ⟨h.1, hb.trans (h.2.mono (by simpa using hb.size))⟩, hK _ ?_⟩); clear hK K
            refine wpQuiet_step (fun K hK => ?_); refine q_bin _ _ _ _ _ rfl rfl rfl rfl (neqb_self _ _ _) ?_; go_simp; (with_reducible refine hK _ ?_); clear hK K
            refine wpQuiet_step (fun K hK => ?_); go_simp; (first | (with_reducible refine hK _ ?_) | (with_reducible refine ⟨_, fun _ _ => rfl, hK _ ?_⟩)); clear hK K
            refine wpQuiet_nil ?_
            intro wz hbel
            go_wp2_with fail
            go_meet
            exact ⟨rfl, hbel⟩
    case rest =>
      obtain ⟨rfl, hbel⟩ := hcut
      have ha := Ha.out.below hbel; clear Ha
      have hb := Hb.out.below hbel; clear Hb
      have hc := Hc.out.below hbel; clear Hc
      have hbw := HBW.out.trans (hbel.mono HBW.out.size); clear HBW hbel
      have Ha := Lib.hid ha; clear ha
      have Hb := Lib.hid hb; clear hb
      have Hc := Lib.hid hc; clear hc
      have HBW := Lib.hid hbw; clear hbw
      have la := Ha.out.lt
      have lb := Hb.out.lt
      have lc := Hc.out.lt
      obtain ⟨ca0, ca1, ca2, ca3, ca4⟩ := Ha.out.cells5
      obtain ⟨cb0, cb1, cb2, cb3, cb4⟩ := Hb.out.cells5
      go_wp2_with fail
      clear la lb lc ca0 ca1 ca2 ca3 ca4 cb0 cb1 cb2 cb3 cb4
      refine (Xj1.out _).mono ?_; rintro e v4 ⟨rfl, hbel⟩
      have ha := Ha.out.below hbel; clear Ha
      have hb := Hb.out.below hbel; clear Hb
      have hc := Hc.out.below hbel; clear Hc
      have hbw := HBW.out.trans (hbel.mono HBW.out.size); clear HBW hbel
      have Ha := Lib.hid ha; clear ha
      have Hb := Lib.hid hb; clear hb
      have Hc := Lib.hid hc; clear hc
      have HBW := Lib.hid hbw; clear hbw
      have la := Ha.out.lt
      have lb := Hb.out.lt
      have lc := Hc.out.lt
      obtain ⟨ca0, ca1, ca2, ca3, ca4⟩ := Ha.out.cells5
      obtain ⟨cb0, cb1, cb2, cb3, cb4⟩ := Hb.out.cells5
      go_wp2_with fail
      clear la lb lc ca0 ca1 ca2 ca3 ca4 cb0 cb1 cb2 cb3 cb4
      have ha := Ha.out.alloc (.cells #[.int .i64 J.d, .int .i64 J.e, .int .i64 J.x, .int .i64 J.y, .int .i64 J.z] 24); clear Ha
      have hb := Hb.out.alloc (.cells #[.int .i64 J.d, .int .i64 J.e, .int .i64 J.x, .int .i64 J.y, .int .i64 J.z] 24); clear Hb
      have hc := Hc.out.alloc (.cells #[.int .i64 J.d, .int .i64 J.e, .int .i64 J.x, .int .i64 J.y, .int .i64 J.z] 24); clear Hc
      have hbj := Holds.made v4 J
      have hbw := HBW.out.alloc HBW.out.size (.cells #[.int .i64 J.d, .int .i64 J.e, .int .i64 J.x, .int .i64 J.y, .int .i64 J.z] 24); clear HBW
      generalize v4.alloc (.cells #[.int .i64 J.d, .int .i64 J.e, .int .i64 J.x, .int .i64 J.y, .int .i64 J.z] 24) = v5 at *
      generalize v4.heap.size = gbj at *
      have Ha := Lib.hid ha; clear ha
      have Hb := Lib.hid hb; clear hb
      have Hc := Lib.hid hc; clear hc
      have Hbj := Lib.hid hbj; clear hbj
      have HBW := Lib.hid hbw; clear hbw
      refine (Xj2.out _).mono ?_; rintro e v6 ⟨rfl, hbel⟩
      have ha := Ha.out.below hbel; clear Ha
      have hb := Hb.out.below hbel; clear Hb
      have hc := Hc.out.below hbel; clear Hc
      have hbj := Hbj.out.below hbel; clear Hbj
      have hbw := HBW.out.trans (hbel.mono HBW.out.size); clear HBW hbel
      have Ha := Lib.hid ha; clear ha
      have Hb := Lib.hid hb; clear hb
      have Hc := Lib.hid hc; clear hc
      have Hbj := Lib.hid hbj; clear hbj
      have HBW := Lib.hid hbw; clear hbw
      have la := Ha.out.lt
      have lb := Hb.out.lt
      have lc := Hc.out.lt
      have lbj := Hbj.out.lt
      obtain ⟨ca0, ca1, ca2, ca3, ca4⟩ := Ha.out.cells5
      obtain ⟨cb0, cb1, cb2, cb3, cb4⟩ := Hb.out.cells5
      obtain ⟨cbj0, cbj1, cbj2, cbj3, cbj4⟩ := Hbj.out.cells5
      go_wp2_with fail
      clear la lb lc lbj ca0 ca1 ca2 ca3 ca4 cb0 cb1 cb2 cb3 cb4 cbj0 cbj1 cbj2 cbj3 cbj4
      have ha := Ha.out.alloc (.cells #[.int .i64 M.d, .int .i64 M.e, .int .i64 M.x, .int .i64 M.y, .int .i64 M.z] 24); clear Ha
      have hb := Hb.out.alloc (.cells #[.int .i64 M.d, .int .i64 M.e, .int .i64 M.x, .int .i64 M.y, .int .i64 M.z] 24); clear Hb
      have hc := Hc.out.alloc (.cells #[.int .i64 M.d, .int .i64 M.e, .int .i64 M.x, .int .i64 M.y, .int .i64 M.z] 24); clear Hc
      have hbj := Hbj.out.alloc (.cells #[.int .i64 M.d, .int .i64 M.e, .int .i64 M.x, .int .i64 M.y, .int .i64 M.z] 24); clear Hbj
      have hbm := Holds.made v6 M
      have hbw := HBW.out.alloc HBW.out.size (.cells #[.int .i64 M.d, .int .i64 M.e, .int .i64 M.x, .int .i64 M.y, .int .i64 M.z] 24); clear HBW
      generalize v6.alloc (.cells #[.int .i64 M.d, .int .i64 M.e, .int .i64 M.x, .int .i64 M.y, .int .i64 M.z] 24) = v7 at *
      generalize v6.heap.size = gbm at *
      have Ha := Lib.hid ha; clear ha
      have Hb := Lib.hid hb; clear hb
      have Hc := Lib.hid hc; clear hc
      have Hbj := Lib.hid hbj; clear hbj
      have Hbm := Lib.hid hbm; clear hbm
      have HBW := Lib.hid hbw; clear hbw
      refine (Xm1.out _).mono ?_; rintro e v8 ⟨rfl, hbel⟩
      have ha := Ha.out.below hbel; clear Ha
      have hb := Hb.out.below hbel; clear Hb
      have hc := Hc.out.below hbel; clear Hc
      have hbj := Hbj.out.below hbel; clear Hbj
      have hbm := Hbm.out.below hbel; clear Hbm
      have hbw := HBW.out.trans (hbel.mono HBW.out.size); clear HBW hbel
      have Ha := Lib.hid ha; clear ha
      have Hb := Lib.hid hb; clear hb
      have Hc := Lib.hid hc; clear hc
      have Hbj := Lib.hid hbj; clear hbj
      have Hbm := Lib.hid hbm; clear hbm
      have HBW := Lib.hid hbw; clear hbw
      have la := Ha.out.lt
      have lb := Hb.out.lt
      have lc := Hc.out.lt
      have lbj := Hbj.out.lt
      have lbm := Hbm.out.lt
      obtain ⟨cbm0, cbm1, cbm2, cbm3, cbm4⟩ := Hbm.out.cells5
      go_wp2_with fail
      clear la lb lc lbj lbm cbm0 cbm1 cbm2 cbm3 cbm4
      refine (Xm2.out _).mono ?_; rintro e v9 ⟨rfl, hbel⟩
      have ha := Ha.out.below hbel; clear Ha
      have hb := Hb.out.below hbel; clear Hb
      have hc := Hc.out.below hbel; clear Hc
      have hbj := Hbj.out.below hbel; clear Hbj
      have hbm := Hbm.out.below hbel; clear Hbm
      have hbw := HBW.out.trans (hbel.mono HBW.out.size); clear HBW hbel
      have Ha := Lib.hid ha; clear ha
      have Hb := Lib.hid hb; clear hb
      have Hc := Lib.hid hc; clear hc
      have Hbj := Lib.hid hbj; clear hbj
      have Hbm := Lib.hid hbm; clear hbm
      have HBW := Lib.hid hbw; clear hbw
      have la := Ha.out.lt
      have lb := Hb.out.lt
      have lc := Hc.out.lt
      have lbj := Hbj.out.lt
      have lbm := Hbm.out.lt
      obtain ⟨ca0, ca1, ca2, ca3, ca4⟩ := Ha.out.cells5
      obtain ⟨cb0, cb1, cb2, cb3, cb4⟩ := Hb.out.cells5
      obtain ⟨cbj0, cbj1, cbj2, cbj3, cbj4⟩ := Hbj.out.cells5
      obtain ⟨cbm0, cbm1, cbm2, cbm3, cbm4⟩ := Hbm.out.cells5
      go_wp2_with fail
      clear la lb lc lbj lbm ca0 ca1 ca2 ca3 ca4 cb0 cb1 cb2 cb3 cb4 cbj0 cbj1 cbj2 cbj3 cbj4 cbm0 cbm1 cbm2 cbm3 cbm4
      refine (Xn1.out _).mono ?_; rintro e v10 ⟨rfl, hbel⟩
      have ha := Ha.out.below hbel; clear Ha
      have hb := Hb.out.below hbel; clear Hb
      have hc := Hc.out.below hbel; clear Hc
      have hbj := Hbj.out.below hbel; clear Hbj
      have hbm := Hbm.out.below hbel; clear Hbm
      have hbw := HBW.out.trans (hbel.mono HBW.out.size); clear HBW hbel
      have Ha := Lib.hid ha; clear ha
      have Hb := Lib.hid hb; clear hb
      have Hc := Lib.hid hc; clear hc
      have Hbj := Lib.hid hbj; clear hbj
      have Hbm := Lib.hid hbm; clear hbm
      have HBW := Lib.hid hbw; clear hbw
      have la := Ha.out.lt
      have lb := Hb.out.lt
      have lc := Hc.out.lt
      have lbj := Hbj.out.lt
      have lbm := Hbm.out.lt
      obtain ⟨ca0, ca1, ca2, ca3, ca4⟩ := Ha.out.cells5
      obtain ⟨cb0, cb1, cb2, cb3, cb4⟩ := Hb.out.cells5
      obtain ⟨cbj0, cbj1, cbj2, cbj3, cbj4⟩ := Hbj.out.cells5
      obtain ⟨cbm0, cbm1, cbm2, cbm3, cbm4⟩ := Hbm.out.cells5
      go_wp2_with fail
      clear la lb lc lbj lbm ca0 ca1 ca2 ca3 ca4 cb0 cb1 cb2 cb3 cb4 cbj0 cbj1 cbj2 cbj3 cbj4 cbm0 cbm1 cbm2 cbm3 cbm4
      refine (Xn2.out _).mono ?_; rintro e v11 ⟨rfl, hbel⟩
      have ha := Ha.out.below hbel; clear Ha
      have hb := Hb.out.below hbel; clear Hb
      have hc := Hc.out.below hbel; clear Hc
      have hbj := Hbj.out.below hbel; clear Hbj
      have hbm := Hbm.out.below hbel; clear Hbm
      have hbw := HBW.out.trans (hbel.mono HBW.out.size); clear HBW hbel
      have Ha := Lib.hid ha; clear ha
      have Hb := Lib.hid hb; clear hb
      have Hc := Lib.hid hc; clear hc
      have Hbj := Lib.hid hbj; clear hbj
      have Hbm := Lib.hid hbm; clear hbm
      have HBW := Lib.hid hbw; clear hbw
      have la := Ha.out.lt
      have lb := Hb.out.lt
      have lc := Hc.out.lt
      have lbj := Hbj.out.lt
      have lbm := Hbm.out.lt
      obtain ⟨ca0, ca1, ca2, ca3, ca4⟩ := Ha.out.cells5
      obtain ⟨cb0, cb1, cb2, cb3, cb4⟩ := Hb.out.cells5
      obtain ⟨cbj0, cbj1, cbj2, cbj3, cbj4⟩ := Hbj.out.cells5
      obtain ⟨cbm0, cbm1, cbm2, cbm3, cbm4⟩ := Hbm.out.cells5
      go_wp2_with fail
      clear la lb lc lbj lbm ca0 ca1 ca2 ca3 ca4 cb0 cb1 cb2 cb3 cb4 cbj0 cbj1 cbj2 cbj3 cbj4 cbm0 cbm1 cbm2 cbm3 cbm4
      refine (Xn3.out _).mono ?_; rintro e v12 ⟨rfl, hbel⟩
      have ha := Ha.out.below hbel; clear Ha
      have hb := Hb.out.below hbel; clear Hb
      have hc := Hc.out.below hbel; clear Hc
      have hbj := Hbj.out.below hbel; clear Hbj
      have hbm := Hbm.out.below hbel; clear Hbm
      have hbw := HBW.out.trans (hbel.mono HBW.out.size); clear HBW hbel
      have Ha := Lib.hid ha; clear ha
      have Hb := Lib.hid hb; clear hb
      have Hc := Lib.hid hc; clear hc
      have Hbj := Lib.hid hbj; clear hbj
      have Hbm := Lib.hid hbm; clear hbm
      have HBW := Lib.hid hbw; clear hbw
      have la := Ha.out.lt
      have lb := Hb.out.lt
      have lc := Hc.out.lt
      have lbj := Hbj.out.lt
      have lbm := Hbm.out.lt
      obtain ⟨ca0, ca1, ca2, ca3, ca4⟩ := Ha.out.cells5
      obtain ⟨cb0, cb1, cb2, cb3, cb4⟩ := Hb.out.cells5
      obtain ⟨cbj0, cbj1, cbj2, cbj3, cbj4⟩ := Hbj.out.cells5
      obtain ⟨cbm0, cbm1, cbm2, cbm3, cbm4⟩ := Hbm.out.cells5
      go_wp2_with fail
      clear la lb lc lbj lbm ca0 ca1 ca2 ca3 ca4 cb0 cb1 cb2 cb3 cb4 cbj0 cbj1 cbj2 cbj3 cbj4 cbm0 cbm1 cbm2 cbm3 cbm4
      refine (Xn4.out _).mono ?_; rintro e v13 ⟨rfl, hbel⟩
      have ha := Ha.out.below hbel; clear Ha
      have hb := Hb.out.below hbel; clear Hb
      have hc := Hc.out.below hbel; clear Hc
      have hbj := Hbj.out.below hbel; clear Hbj
      have hbm := Hbm.out.below hbel; clear Hbm
      have hbw := HBW.out.trans (hbel.mono HBW.out.size); clear HBW hbel
      have Ha := Lib.hid ha; clear ha
      have Hb := Lib.hid hb; clear hb
      have Hc := Lib.hid hc; clear hc
      have Hbj := Lib.hid hbj; clear hbj
      have Hbm := Lib.hid hbm; clear hbm
      have HBW := Lib.hid hbw; clear hbw
      have la := Ha.out.lt
      have lb := Hb.out.lt
      have lc := Hc.out.lt
      have lbj := Hbj.out.lt
      have lbm := Hbm.out.lt
      go_wp2_with fail
      clear la lb lc lbj lbm
      have o1 := Xo1.out
      have o2 := Xo2.out
      clear Xo1 Xo2
      cases ac
      · cases ca
        · simp only [Bool.false_and, Bool.true_and] at o1 o2
          have Xo1 := Lib.hid o1; have Xo2 := Lib.hid o2; clear o1 o2
          refine wp_region_below (by kernel_rfl) (by kernel_rfl) ?_
          refine wpQuiet_step (fun K hK => ?_); refine q_load (p := .pointer (some ⟨gbj, 0, none⟩)) 24 _ rfl rfl rfl (load_t Hbj.out) ?_; go_simp; (with_reducible refine hK _ ?_); clear hK K
          refine wpQuiet_step (fun K hK => ?_); refine q_load (p := .pointer (some ⟨(w.heap.size + 2), 0, none⟩)) 24 _ rfl rfl rfl (load_t Hc.out) ?_; go_simp; (with_reducible refine hK _ ?_); clear hK K
          refine wpQuiet_step (fun K hK => ?_); go_simp; (with_reducible refine ⟨_, fun _ hb => (Xo1.out _).mono fun _ _ h => ⟨h.1, hb.trans (h.2.mono (by simpa using hb.size))⟩, hK _ ?_⟩); clear hK K
          refine wpQuiet_step (fun K hK => ?_); go_simp; (first | (with_reducible refine hK _ ?_) | (with_reducible refine ⟨_, fun _ _ => rfl, hK _ ?_⟩)); clear hK K
          refine wpQuiet_step (fun K hK => ?_); go_simp; (first | (with_reducible refine hK _ ?_) | (with_reducible refine ⟨_, fun _ _ => rfl, hK _ ?_⟩)); clear hK K
          refine wpQuiet_step (fun K hK => ?_); go_simp; (first | (with_reducible refine hK _ ?_) | (with_reducible refine ⟨_, fun _ _ => rfl, hK _ ?_⟩)); clear hK K
          refine wpQuiet_step (fun K hK => ?_); go_simp; (first | (with_reducible refine hK _ ?_) | (with_reducible refine ⟨_, fun _ _ => rfl, hK _ ?_⟩)); clear hK K
          refine wpQuiet_step (fun K hK => ?_); refine q_bin _ _ _ _ _ rfl rfl rfl rfl (eqb_self _ _ _) ?_; go_simp; (with_reducible refine hK _ ?_); clear hK K
          refine wpQuiet_step (fun K hK => ?_); go_simp; (first | (with_reducible refine hK _ ?_) | (with_reducible refine ⟨_, fun _ _ => rfl, hK _ ?_⟩)); clear hK K
          refine wpQuiet_step (fun K hK => ?_); refine q_load (p := .pointer (some ⟨(w.heap.size + 2), 0, none⟩)) 24 _ rfl rfl rfl (load_t Hc.out) ?_; go_simp; (with_reducible refine hK _ ?_); clear hK K
          refine wpQuiet_step (fun K hK => ?_); refine q_load (p := .pointer (some ⟨gbm, 0, none⟩)) 24 _ rfl rfl rfl (load_t Hbm.out) ?_; go_simp; (with_reducible refine hK _ ?_); clear hK K
          refine wpQuiet_step (fun K hK => ?_); go_simp; (with_reducible refine ⟨_, fun _ hb => (Xo2.out _).mono fun _ _ h => ⟨h.1, hb.trans (h.2.mono (by simpa using hb.size))⟩, hK _ ?_⟩); clear hK K
          refine wpQuiet_step (fun K hK => ?_); refine q_load (p := .pointer (some ⟨(w.heap.size + 2), 0, none⟩)) 24 _ rfl rfl rfl (load_t Hc.out) ?_; go_simp; (with_reducible refine hK _ ?_); clear hK K
          refine wpQuiet_step (fun K hK => ?_); refine q_load (p := .pointer (some ⟨w.heap.size, 0, none⟩)) 24 _ rfl rfl rfl (load_t Ha.out) ?_; go_simp; (with_reducible refine hK _ ?_); clear hK K
          refine wpQuiet_step (fun K hK => ?_); go_simp; (with_reducible refine ⟨_, fun _ hb => (Xo3.out _).mono fun _ _ h => ⟨h.1, hb.trans (h.2.mono (by simpa using hb.size))⟩, hK _ ?_⟩); clear hK K
          refine wpQuiet_step (fun K hK => ?_); go_simp; (first | (with_reducible refine hK _ ?_) | (with_reducible refine ⟨_, fun _ _ => rfl, hK _ ?_⟩)); clear hK K
          refine wpQuiet_step (fun K hK => ?_); go_simp; (first | (with_reducible refine hK _ ?_) | (with_reducible refine ⟨_, fun _ _ => rfl, hK _ ?_⟩)); clear hK K
          refine wpQuiet_step (fun K hK => ?_); go_simp; (first | (with_reducible refine hK _ ?_) | (with_reducible refine ⟨_, fun _ _ => rfl, hK _ ?_⟩)); clear hK K
          refine wpQuiet_step (fun K hK => ?_); go_simp; (first | (with_reducible refine hK _ ?_) | (with_reducible refine ⟨_, fun _ _ => rfl, hK _ ?_⟩)); clear hK K
          refine wpQuiet_step (fun K hK => ?_); go_simp; (first | (with_reducible refine hK _ ?_) | (with_reducible refine ⟨_, fun _ _ => rfl, hK _ ?_⟩)); clear hK K
          refine wpQuiet_step (fun K hK => ?_); refine q_bin _ _ _ _ _ rfl rfl rfl rfl (eqb_self _ _ _) ?_; go_simp; (with_reducible refine hK _ ?_); clear hK K
          refine wpQuiet_step (fun K hK => ?_); go_simp; (first | (with_reducible refine hK _ ?_) | (with_reducible refine ⟨_, fun _ _ => rfl, hK _ ?_⟩)); clear hK K
          refine wpQuiet_step (fun K hK => ?_); go_simp; (first | (with_reducible refine hK _ ?_) | (with_reducible refine ⟨_, fun _ _ => rfl, hK _ ?_⟩)); clear hK K
          refine wpQuiet_step (fun K hK => ?_); go_simp; (with_reducible refine ⟨_, fun _ hb => (Xww.out _).mono fun _ _ h => ⟨h.1, hb.trans (h.2.mono (by simpa using hb.size))⟩, hK _ ?_⟩); clear hK K
          refine wpQuiet_step (fun K hK => ?_); go_simp; (first | (with_reducible refine hK _ ?_) | (with_reducible refine ⟨_, fun _ _ => rfl, hK _ ?_⟩)); clear hK K
          refine wpQuiet_step (fun K hK => ?_); go_simp; (first | (with_reducible refine hK _ ?_) | (with_reducible refine ⟨_, fun _ _ => rfl, hK _ ?_⟩)); clear hK K
          refine wpQuiet_nil ?_
          intro v14 hbel
          have ha := Ha.out.below hbel; clear Ha
          have hb := Hb.out.below hbel; clear Hb
          have hc := Hc.out.below hbel; clear Hc
          have hbj := Hbj.out.below hbel; clear Hbj
          have hbm := Hbm.out.below hbel; clear Hbm
          have hbw := HBW.out.trans (hbel.mono HBW.out.size); clear HBW hbel
          have Ha := Lib.hid ha; clear ha
          have Hb := Lib.hid hb; clear hb
          have Hc := Lib.hid hc; clear hc
          have Hbj := Lib.hid hbj; clear hbj
          have Hbm := Lib.hid hbm; clear hbm
          have HBW := Lib.hid hbw; clear hbw
          go_wp2_with fail
          go_ret
          exact ⟨rfl, HBW.out⟩
        · simp only [Bool.false_and, Bool.true_and] at o1 o2
          have Xo1 := Lib.hid o1; have Xo2 := Lib.hid o2; clear o1 o2
          refine wp_region_below (by kernel_rfl) (by kernel_rfl) ?_
          refine wpQuiet_step (fun K hK => ?_); refine q_load (p := .pointer (some ⟨gbj, 0, none⟩)) 24 _ rfl rfl rfl (load_t Hbj.out) ?_; go_simp; (with_reducible refine hK _ ?_); clear hK K
          refine wpQuiet_step (fun K hK => ?_); refine q_load (p := .pointer (some ⟨(w.heap.size + 2), 0, none⟩)) 24 _ rfl rfl rfl (load_t Hc.out) ?_; go_simp; (with_reducible refine hK _ ?_); clear hK K
          refine wpQuiet_step (fun K hK => ?_); go_simp; (with_reducible refine ⟨_, fun _ hb => (Xo1.out _).mono fun _ _ h => ⟨h.1, hb.trans (h.2.mono (by simpa using hb.size))⟩, hK _ ?_⟩); clear hK K
          refine wpQuiet_step (fun K hK => ?_); go_simp; (first | (with_reducible refine hK _ ?_) | (with_reducible refine ⟨_, fun _ _ => rfl, hK _ ?_⟩)); clear hK K
          refine wpQuiet_step (fun K hK => ?_); go_simp; (first | (with_reducible refine hK _ ?_) | (with_reducible refine ⟨_, fun _ _ => rfl, hK _ ?_⟩)); clear hK K
          refine wpQuiet_step (fun K hK => ?_); go_simp; (first | (with_reducible refine hK _ ?_) | (with_reducible refine ⟨_, fun _ _ => rfl, hK _ ?_⟩)); clear hK K
          refine wpQuiet_step (fun K hK => ?_); go_simp; (first | (with_reducible refine hK _ ?_) | (with_reducible refine ⟨_, fun _ _ => rfl, hK _ ?_⟩)); clear hK K
          refine wpQuiet_step (fun K hK => ?_); refine q_bin _ _ _ _ _ rfl rfl rfl rfl (eqb_self _ _ _) ?_; go_simp; (with_reducible refine hK _ ?_); clear hK K
          refine wpQuiet_step (fun K hK => ?_); go_simp; (first | (with_reducible refine hK _ ?_) | (with_reducible refine ⟨_, fun _ _ => rfl, hK _ ?_⟩)); clear hK K
          refine wpQuiet_step (fun K hK => ?_); refine q_load (p := .pointer (some ⟨(w.heap.size + 2), 0, none⟩)) 24 _ rfl rfl rfl (load_t Hc.out) ?_; go_simp; (with_reducible refine hK _ ?_); clear hK K
          refine wpQuiet_step (fun K hK => ?_); refine q_load (p := .pointer (some ⟨gbm, 0, none⟩)) 24 _ rfl rfl rfl (load_t Hbm.out) ?_; go_simp; (with_reducible refine hK _ ?_); clear hK K
          refine wpQuiet_step (fun K hK => ?_); go_simp; (with_reducible refine ⟨_, fun _ hb => (Xo2.out _).mono fun _ _ h => ⟨h.1, hb.trans (h.2.mono (by simpa using hb.size))⟩, hK _ ?_⟩); clear hK K
          refine wpQuiet_step (fun K hK => ?_); refine q_load (p := .pointer (some ⟨(w.heap.size + 2), 0, none⟩)) 24 _ rfl rfl rfl (load_t Hc.out) ?_; go_simp; (with_reducible refine hK _ ?_); clear hK K
          refine wpQuiet_step (fun K hK => ?_); refine q_load (p := .pointer (some ⟨w.heap.size, 0, none⟩)) 24 _ rfl rfl rfl (load_t Ha.out) ?_; go_simp; (with_reducible refine hK _ ?_); clear hK K
          refine wpQuiet_step (fun K hK => ?_); go_simp; (with_reducible refine ⟨_, fun _ hb => (Xo3.out _).mono fun _ _ h => ⟨h.1, hb.trans (h.2.mono (by simpa using hb.size))⟩, hK _ ?_⟩); clear hK K
          refine wpQuiet_step (fun K hK => ?_); go_simp; (first | (with_reducible refine hK _ ?_) | (with_reducible refine ⟨_, fun _ _ => rfl, hK _ ?_⟩)); clear hK K
          refine wpQuiet_step (fun K hK => ?_); refine q_load (p := .pointer (some ⟨(w.heap.size + 2), 0, none⟩)) 24 _ rfl rfl rfl (load_t Hc.out) ?_; go_simp; (with_reducible refine hK _ ?_); clear hK K
          refine wpQuiet_step (fun K hK => ?_); refine q_load (p := .pointer (some ⟨(w.heap.size + 1), 0, none⟩)) 24 _ rfl rfl rfl (load_t Hb.out) ?_; go_simp; (with_reducible refine hK _ ?_); clear hK K
          refine wpQuiet_step (fun K hK => ?_); go_simp; (with_reducible refine ⟨_, fun _ hb => (Xo4.out _).mono fun _ _ h => ⟨h.1, hb.trans (h.2.mono (by simpa using hb.size))⟩, hK _ ?_⟩); clear hK K
          refine wpQuiet_step (fun K hK => ?_); go_simp; (first | (with_reducible refine hK _ ?_) | (with_reducible refine ⟨_, fun _ _ => rfl, hK _ ?_⟩)); clear hK K
          refine wpQuiet_step (fun K hK => ?_); refine q_bin _ _ _ _ _ rfl rfl rfl rfl (eqb_self _ _ _) ?_; go_simp; (with_reducible refine hK _ ?_); clear hK K
          refine wpQuiet_step (fun K hK => ?_); go_simp; (first | (with_reducible refine hK _ ?_) | (with_reducible refine ⟨_, fun _ _ => rfl, hK _ ?_⟩)); clear hK K
          refine wpQuiet_step (fun K hK => ?_); go_simp; (first | (with_reducible refine hK _ ?_) | (with_reducible refine ⟨_, fun _ _ => rfl, hK _ ?_⟩)); clear hK K
          refine wpQuiet_step (fun K hK => ?_); go_simp; (with_reducible refine ⟨_, fun _ hb => (Xww.out _).mono fun _ _ h => ⟨h.1, hb.trans (h.2.mono (by simpa using hb.size))⟩, hK _ ?_⟩); clear hK K
          refine wpQuiet_step (fun K hK => ?_); go_simp; (first | (with_reducible refine hK _ ?_) | (with_reducible refine ⟨_, fun _ _ => rfl, hK _ ?_⟩)); clear hK K
          refine wpQuiet_step (fun K hK => ?_); go_simp; (first | (with_reducible refine hK _ ?_) | (with_reducible refine ⟨_, fun _ _ => rfl, hK _ ?_⟩)); clear hK K
          refine wpQuiet_nil ?_
          intro v14 hbel
          have ha := Ha.out.below hbel; clear Ha
          have hb := Hb.out.below hbel; clear Hb
          have hc := Hc.out.below hbel; clear Hc
          have hbj := Hbj.out.below hbel; clear Hbj
          have hbm := Hbm.out.below hbel; clear Hbm
          have hbw := HBW.out.trans (hbel.mono HBW.out.size); clear HBW hbel
          have Ha := Lib.hid ha; clear ha
          have Hb := Lib.hid hb; clear hb
          have Hc := Lib.hid hc; clear hc
          have Hbj := Lib.hid hbj; clear hbj
          have Hbm := Lib.hid hbm; clear hbm
          have HBW := Lib.hid hbw; clear hbw
          go_wp2_with fail
          go_ret
          exact ⟨rfl, HBW.out⟩
      · cases ca
        · simp only [Bool.false_and, Bool.true_and] at o1 o2
          have Xo1 := Lib.hid o1; have Xo2 := Lib.hid o2; clear o1 o2
          refine wp_region_below (by kernel_rfl) (by kernel_rfl) ?_
          refine wpQuiet_step (fun K hK => ?_); refine q_load (p := .pointer (some ⟨gbj, 0, none⟩)) 24 _ rfl rfl rfl (load_t Hbj.out) ?_; go_simp; (with_reducible refine hK _ ?_); clear hK K
          refine wpQuiet_step (fun K hK => ?_); refine q_load (p := .pointer (some ⟨(w.heap.size + 2), 0, none⟩)) 24 _ rfl rfl rfl (load_t Hc.out) ?_; go_simp; (with_reducible refine hK _ ?_); clear hK K
          refine wpQuiet_step (fun K hK => ?_); go_simp; (with_reducible refine ⟨_, fun _ hb => (Xo1.out _).mono fun _ _ h => ⟨h.1, hb.trans (h.2.mono (by simpa using hb.size))⟩, hK _ ?_⟩); clear hK K
          refine wpQuiet_step (fun K hK => ?_); go_simp; (first | (with_reducible refine hK _ ?_) | (with_reducible refine ⟨_, fun _ _ => rfl, hK _ ?_⟩)); clear hK K
          refine wpQuiet_step (fun K hK => ?_); go_simp; (first | (with_reducible refine hK _ ?_) | (with_reducible refine ⟨_, fun _ _ => rfl, hK _ ?_⟩)); clear hK K
          refine wpQuiet_step (fun K hK => ?_); go_simp; (first | (with_reducible refine hK _ ?_) | (with_reducible refine ⟨_, fun _ _ => rfl, hK _ ?_⟩)); clear hK K
          refine wpQuiet_step (fun K hK => ?_); go_simp; (first | (with_reducible refine hK _ ?_) | (with_reducible refine ⟨_, fun _ _ => rfl, hK _ ?_⟩)); clear hK K
          refine wpQuiet_step (fun K hK => ?_); refine q_bin _ _ _ _ _ rfl rfl rfl rfl (eqb_self _ _ _) ?_; go_simp; (with_reducible refine hK _ ?_); clear hK K
          refine wpQuiet_step (fun K hK => ?_); go_simp; (first | (with_reducible refine hK _ ?_) | (with_reducible refine ⟨_, fun _ _ => rfl, hK _ ?_⟩)); clear hK K
          refine wpQuiet_step (fun K hK => ?_); refine q_load (p := .pointer (some ⟨(w.heap.size + 2), 0, none⟩)) 24 _ rfl rfl rfl (load_t Hc.out) ?_; go_simp; (with_reducible refine hK _ ?_); clear hK K
          refine wpQuiet_step (fun K hK => ?_); refine q_load (p := .pointer (some ⟨gbm, 0, none⟩)) 24 _ rfl rfl rfl (load_t Hbm.out) ?_; go_simp; (with_reducible refine hK _ ?_); clear hK K
          refine wpQuiet_step (fun K hK => ?_); go_simp; (with_reducible refine ⟨_, fun _ hb => (Xo2.out _).mono fun _ _ h => ⟨h.1, hb.trans (h.2.mono (by simpa using hb.size))⟩, hK _ ?_⟩); clear hK K
          refine wpQuiet_step (fun K hK => ?_); refine q_load (p := .pointer (some ⟨(w.heap.size + 2), 0, none⟩)) 24 _ rfl rfl rfl (load_t Hc.out) ?_; go_simp; (with_reducible refine hK _ ?_); clear hK K
          refine wpQuiet_step (fun K hK => ?_); refine q_load (p := .pointer (some ⟨w.heap.size, 0, none⟩)) 24 _ rfl rfl rfl (load_t Ha.out) ?_; go_simp; (with_reducible refine hK _ ?_); clear hK K
          refine wpQuiet_step (fun K hK => ?_); go_simp; (with_reducible refine ⟨_, fun _ hb => (Xo3.out _).mono fun _ _ h => ⟨h.1, hb.trans (h.2.mono (by simpa using hb.size))⟩, hK _ ?_⟩); clear hK K
          refine wpQuiet_step (fun K hK => ?_); go_simp; (first | (with_reducible refine hK _ ?_) | (with_reducible refine ⟨_, fun _ _ => rfl, hK _ ?_⟩)); clear hK K
          refine wpQuiet_step (fun K hK => ?_); go_simp; (first | (with_reducible refine hK _ ?_) | (with_reducible refine ⟨_, fun _ _ => rfl, hK _ ?_⟩)); clear hK K
          refine wpQuiet_step (fun K hK => ?_); go_simp; (first | (with_reducible refine hK _ ?_) | (with_reducible refine ⟨_, fun _ _ => rfl, hK _ ?_⟩)); clear hK K
          refine wpQuiet_step (fun K hK => ?_); go_simp; (first | (with_reducible refine hK _ ?_) | (with_reducible refine ⟨_, fun _ _ => rfl, hK _ ?_⟩)); clear hK K
          refine wpQuiet_step (fun K hK => ?_); go_simp; (first | (with_reducible refine hK _ ?_) | (with_reducible refine ⟨_, fun _ _ => rfl, hK _ ?_⟩)); clear hK K
          refine wpQuiet_step (fun K hK => ?_); refine q_bin _ _ _ _ _ rfl rfl rfl rfl (eqb_self _ _ _) ?_; go_simp; (with_reducible refine hK _ ?_); clear hK K
          refine wpQuiet_step (fun K hK => ?_); go_simp; (first | (with_reducible refine hK _ ?_) | (with_reducible refine ⟨_, fun _ _ => rfl, hK _ ?_⟩)); clear hK K
          refine wpQuiet_step (fun K hK => ?_); go_simp; (first | (with_reducible refine hK _ ?_) | (with_reducible refine ⟨_, fun _ _ => rfl, hK _ ?_⟩)); clear hK K
          refine wpQuiet_step (fun K hK => ?_); go_simp; (with_reducible refine ⟨_, fun _ hb => (Xww.out _).mono fun _ _ h => ⟨h.1, hb.trans (h.2.mono (by simpa using hb.size))⟩, hK _ ?_⟩); clear hK K
          refine wpQuiet_step (fun K hK => ?_); go_simp; (first | (with_reducible refine hK _ ?_) | (with_reducible refine ⟨_, fun _ _ => rfl, hK _ ?_⟩)); clear hK K
          refine wpQuiet_step (fun K hK => ?_); go_simp; (first | (with_reducible refine hK _ ?_) | (with_reducible refine ⟨_, fun _ _ => rfl, hK _ ?_⟩)); clear hK K
          refine wpQuiet_nil ?_
          intro v14 hbel
          have ha := Ha.out.below hbel; clear Ha
          have hb := Hb.out.below hbel; clear Hb
          have hc := Hc.out.below hbel; clear Hc
          have hbj := Hbj.out.below hbel; clear Hbj
          have hbm := Hbm.out.below hbel; clear Hbm
          have hbw := HBW.out.trans (hbel.mono HBW.out.size); clear HBW hbel
          have Ha := Lib.hid ha; clear ha
          have Hb := Lib.hid hb; clear hb
          have Hc := Lib.hid hc; clear hc
          have Hbj := Lib.hid hbj; clear hbj
          have Hbm := Lib.hid hbm; clear hbm
          have HBW := Lib.hid hbw; clear hbw
          go_wp2_with fail
          go_ret
          exact ⟨rfl, HBW.out⟩
        · simp only [Bool.false_and, Bool.true_and] at o1 o2
          have Xo1 := Lib.hid o1; have Xo2 := Lib.hid o2; clear o1 o2
          refine wp_region_below (by kernel_rfl) (by kernel_rfl) ?_
          refine wpQuiet_step (fun K hK => ?_); refine q_load (p := .pointer (some ⟨gbj, 0, none⟩)) 24 _ rfl rfl rfl (load_t Hbj.out) ?_; go_simp; (with_reducible refine hK _ ?_); clear hK K
          refine wpQuiet_step (fun K hK => ?_); refine q_load (p := .pointer (some ⟨(w.heap.size + 2), 0, none⟩)) 24 _ rfl rfl rfl (load_t Hc.out) ?_; go_simp; (with_reducible refine hK _ ?_); clear hK K
          refine wpQuiet_step (fun K hK => ?_); go_simp; (with_reducible refine ⟨_, fun _ hb => (Xo1.out _).mono fun _ _ h => ⟨h.1, hb.trans (h.2.mono (by simpa using hb.size))⟩, hK _ ?_⟩); clear hK K
          refine wpQuiet_step (fun K hK => ?_); go_simp; (first | (with_reducible refine hK _ ?_) | (with_reducible refine ⟨_, fun _ _ => rfl, hK _ ?_⟩)); clear hK K
          refine wpQuiet_step (fun K hK => ?_); go_simp; (first | (with_reducible refine hK _ ?_) | (with_reducible refine ⟨_, fun _ _ => rfl, hK _ ?_⟩)); clear hK K
          refine wpQuiet_step (fun K hK => ?_); go_simp; (first | (with_reducible refine hK _ ?_) | (with_reducible refine ⟨_, fun _ _ => rfl, hK _ ?_⟩)); clear hK K
          refine wpQuiet_step (fun K hK => ?_); go_simp; (first | (with_reducible refine hK _ ?_) | (with_reducible refine ⟨_, fun _ _ => rfl, hK _ ?_⟩)); clear hK K
          refine wpQuiet_step (fun K hK => ?_); refine q_bin _ _ _ _ _ rfl rfl rfl rfl (eqb_self _ _ _) ?_; go_simp; (with_reducible refine hK _ ?_); clear hK K
          refine wpQuiet_step (fun K hK => ?_); go_simp; (first | (with_reducible refine hK _ ?_) | (with_reducible refine ⟨_, fun _ _ => rfl, hK _ ?_⟩)); clear hK K
          refine wpQuiet_step (fun K hK => ?_); refine q_load (p := .pointer (some ⟨(w.heap.size + 2), 0, none⟩)) 24 _ rfl rfl rfl (load_t Hc.out) ?_; go_simp; (with_reducible refine hK _ ?_); clear hK K
          refine wpQuiet_step (fun K hK => ?_); refine q_load (p := .pointer (some ⟨gbm, 0, none⟩)) 24 _ rfl rfl rfl (load_t Hbm.out) ?_; go_simp; (with_reducible refine hK _ ?_); clear hK K
          refine wpQuiet_step (fun K hK => ?_); go_simp; (with_reducible refine ⟨_, fun _ hb => (Xo2.out _).mono fun _ _ h => ⟨h.1, hb.trans (h.2.mono (by simpa using hb.size))⟩, hK _ ?_⟩); clear hK K
          refine wpQuiet_step (fun K hK => ?_); refine q_load (p := .pointer (some ⟨(w.heap.size + 2), 0, none⟩)) 24 _ rfl rfl rfl (load_t Hc.out) ?_; go_simp; (with_reducible refine hK _ ?_); clear hK K
          refine wpQuiet_step (fun K hK => ?_); refine q_load (p := .pointer (some ⟨w.heap.size, 0, none⟩)) 24 _ rfl rfl rfl (load_t Ha.out) ?_; go_simp; (with_reducible refine hK _ ?_); clear hK K
          refine wpQuiet_step (fun K hK => ?_); go_simp; (with_reducible refine ⟨_, fun _ hb => (Xo3.out _).mono fun _ _ h => ⟨h.1, hb.trans (h.2.mono (by simpa using hb.size))⟩, hK _ ?_⟩); clear hK K
          refine wpQuiet_step (fun K hK => ?_); go_simp; (first | (with_reducible refine hK _ ?_) | (with_reducible refine ⟨_, fun _ _ => rfl, hK _ ?_⟩)); clear hK K
          refine wpQuiet_step (fun K hK => ?_); refine q_load (p := .pointer (some ⟨(w.heap.size + 2), 0, none⟩)) 24 _ rfl rfl rfl (load_t Hc.out) ?_; go_simp; (with_reducible refine hK _ ?_); clear hK K
          refine wpQuiet_step (fun K hK => ?_); refine q_load (p := .pointer (some ⟨(w.heap.size + 1), 0, none⟩)) 24 _ rfl rfl rfl (load_t Hb.out) ?_; go_simp; (with_reducible refine hK _ ?_); clear hK K
          refine wpQuiet_step (fun K hK => ?_); go_simp; (with_reducible refine ⟨_, fun _ hb => (Xo4.out _).mono fun _ _ h => ⟨h.1, hb.trans (h.2.mono (by simpa using hb.size))⟩, hK _ ?_⟩); clear hK K
          refine wpQuiet_step (fun K hK => ?_); go_simp; (first | (with_reducible refine hK _ ?_) | (with_reducible refine ⟨_, fun _ _ => rfl, hK _ ?_⟩)); clear hK K
          refine wpQuiet_step (fun K hK => ?_); refine q_bin _ _ _ _ _ rfl rfl rfl rfl (eqb_self _ _ _) ?_; go_simp; (with_reducible refine hK _ ?_); clear hK K
          refine wpQuiet_step (fun K hK => ?_); go_simp; (first | (with_reducible refine hK _ ?_) | (with_reducible refine ⟨_, fun _ _ => rfl, hK _ ?_⟩)); clear hK K
          refine wpQuiet_step (fun K hK => ?_); go_simp; (first | (with_reducible refine hK _ ?_) | (with_reducible refine ⟨_, fun _ _ => rfl, hK _ ?_⟩)); clear hK K
          refine wpQuiet_step (fun K hK => ?_); go_simp; (with_reducible refine ⟨_, fun _ hb => (Xww.out _).mono fun _ _ h => ⟨h.1, hb.trans (h.2.mono (by simpa using hb.size))⟩, hK _ ?_⟩); clear hK K
          refine wpQuiet_step (fun K hK => ?_); go_simp; (first | (with_reducible refine hK _ ?_) | (with_reducible refine ⟨_, fun _ _ => rfl, hK _ ?_⟩)); clear hK K
          refine wpQuiet_step (fun K hK => ?_); go_simp; (first | (with_reducible refine hK _ ?_) | (with_reducible refine ⟨_, fun _ _ => rfl, hK _ ?_⟩)); clear hK K
          refine wpQuiet_nil ?_
          intro v14 hbel
          have ha := Ha.out.below hbel; clear Ha
          have hb := Hb.out.below hbel; clear Hb
          have hc := Hc.out.below hbel; clear Hc
          have hbj := Hbj.out.below hbel; clear Hbj
          have hbm := Hbm.out.below hbel; clear Hbm
          have hbw := HBW.out.trans (hbel.mono HBW.out.size); clear HBW hbel
          have Ha := Lib.hid ha; clear ha
          have Hb := Lib.hid hb; clear hb
          have Hc := Lib.hid hc; clear hc
          have Hbj := Lib.hid hbj; clear hbj
          have Hbm := Lib.hid hbm; clear hbm
          have HBW := Lib.hid hbw; clear hbw
          go_wp2_with fail
          go_ret
          exact ⟨rfl, HBW.out⟩
theorem walk (a b c : St) (w : World) : Calls Try.prog 5 #[a.val, b.val, c.val] w fun e w' => e = .returned (.bool true) ∧ Below w.heap.size w w' := by
  by_cases h : a.B b
  · exact walk_yes a b c w h
  · exact walk_no a b c w h

set_option maxRecDepth 100000 in
theorem lifted (os : Os) (started : os.Started) (H : Type) (enc : TypeId × Value → H) :
    ReturnsInHanded {} Try.checked os 5 .any (Rows.stampOrderSpec.pre6 enc Try.prog Try.f5 Rows.stampOrderRow.domain false) (Rows.stampOrderSpec.post enc Try.prog Try.f5 false true false false) := by
  refine returnsInHanded_of_change_sized (C := Try.checked) ownKnob_none started (by kernel_rfl) Try.func5
    (ChangeSpec.witness6 (enc := enc) (C := Try.checked) false ⟨#[], #[.agg #[.int .i64 0, .int .i64 0, .int .i64 0, .int .i64 0, .int .i64 0], .agg #[.int .i64 0, .int .i64 0, .int .i64 0, .int .i64 0, .int .i64 0], .agg #[.int .i64 0, .int .i64 0, .int .i64 0, .int .i64 0, .int .i64 0]], []⟩ 8 (by kernel_rfl) (by kernel_rfl) (by kernel_rfl) (by kernel_rfl)) ?_
  intro W base args ds gs before hval0 hW hcnd hsz0 _
  have hval : ∀ (j : Nat) t v, Try.f5.params[j]? = some t → args[j]? = some v → Value.okWide Try.prog W .any base t v := hval0
  have hW' := hW
  obtain ⟨p, q, hA0, hV, rfl, hfz, hnd⟩ := hW
  have hA : DataW.TrodAll enc Try.prog W 0 (fun _ => true) true Try.f5.params.toList args.toList ds p := hA0
  have hsz : (DataW.weightsEach Try.prog (Try.f5.params.toList ++ Rows.stampOrderSpec.plain.varTypes Try.prog) (ds ++ gs)).all (· ≤ reachBytes) = true := hsz0
  rw [Try.params5] at hA hval hsz
  obtain ⟨v0, vs0, d0, ds0, p0, q0, hargs, rfl, rfl, h0, r0⟩ := trodAll_cons hA
  obtain ⟨v1, vs1, d1, ds1, p1, q1, rfl, rfl, rfl, h1, r1⟩ := trodAll_cons r0
  obtain ⟨v2, vs2, d2, ds2, p2, q2, rfl, rfl, rfl, h2, r2⟩ := trodAll_cons r1
  obtain ⟨rfl, rfl, rfl⟩ := trodAll_nil r2
  obtain rfl : args = #[v0, v1, v2] := by cases args; simp_all
  obtain ⟨rfl, rfl⟩ := trodVars_none hV
  obtain ⟨t0, rfl⟩ := open_stamp (hval 0 24 v0 rfl rfl) h0
  obtain ⟨t1, rfl⟩ := open_stamp (hval 1 24 v1 rfl rfl) h1
  obtain ⟨t2, rfl⟩ := open_stamp (hval 2 24 v2 rfl rfl) h2
  clear hA0 hval0 hsz0
  refine (walk t0 t1 t2 W).mono fun e W' ⟨he, hg⟩ => ?_
  subst he
  exact ⟨_, rfl, law_post progLaid hW' rfl (by rw [Try.params5]; intro t ht; simp at ht; subst ht; exact ⟨by kernel_rfl, of_decide_eq_true (by kernel_rfl)⟩) rfl Try.underlying4 rfl hg⟩

theorem over : Rows.stampOrderRow.holds Try.pinned (OpenSpec.ofChange Rows.stampOrderSpec) :=
  OpenClaim.holds_of_wide 5 Try.f5 rfl rfl rfl rfl rfl rfl rfl ⟨rfl, rfl, rfl, rfl, rfl⟩ rfl rfl rfl rfl rfl (by kernel_rfl) Try.func5 (by kernel_rfl)
    (of_decide_eq_true (by kernel_rfl)) (by unfold Func.isWrapper; first | (rw [if_pos (by decide +kernel)]; kernel_rfl) | (rw [if_neg (by decide +kernel)]; exact ⟨rfl, rfl⟩))
    (fun os started H enc _ => lifted os started H enc)

/-- The statement. -/
theorem proved : Rows.StampOrderSaid :=
  over
end stampOrder
end Go.Proofs.Ytpcnnnfgopilaaa
