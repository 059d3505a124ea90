import Derived.Test.YtonelpnhoiajgaaGreatDoorHd
import Derived.Test.YtonelpnhoiajgaaGreatDoorCa0
import Derived.Laws.Rows
namespace Go.Proofs.YtonelpnhoiajgaaGreatDoor
set_option linter.unusedSimpArgs false
set_option maxRecDepth 100000
open Go.ChangeShapes Go.WideShapes Go.ChangeAt Go.RowKit Go.BigFrame
set_option linter.unusedVariables false
section
theorem RM_near (s : Sm) (n : Nat) (hd : s.to - s.kp = n) (h1 : smUpB s.fr 3 = true) (h2 : smUpB s.to 3 = true) (h3 : smUpB s.kp (min s.fr s.to) = true) (h4 : smUpB s.ad 15 = true) (h5 : 0 < s.kp ∨ s.ad = 0) :
 (s.t0 = nk n 0 s.t0 ∧ s.t1 = nk n 1 s.t1 ∧ s.t2 = nk n 2 s.t2) ↔ s.R:=by
 unfold smUpB at *
 simp only [decide_eq_true_eq] at h1 h2 h3 h4
 have k : ∀ (j : Nat) (v : Int),v = nk n j v ↔ (0 ≤ v ∧ v < 16 ∧ (s.to - s.kp ≤ j → v = 0)):=by
  intro j v
  unfold nk
  by_cases h : j < n
  · rw [if_pos h,eq_comm,nr_eq];omega
  · rw [if_neg h];omega
 rw [k 0,k 1,k 2]
 unfold Sm.R
 have:=Int.min_def s.fr s.to
 omega
theorem RM_up {s : Sm} (h : s.R) : smUpB s.fr 3 = true ∧ smUpB s.to 3 = true ∧ smUpB s.kp (min s.fr s.to) = true ∧ smUpB s.ad 15 = true ∧ (0 < s.kp ∨ s.ad = 0):=by
 unfold Sm.R at h
 unfold smUpB
 simp only [decide_eq_true_eq]
 have:=Int.min_def s.fr s.to
 omega
theorem gtr0 {x y : Operand} {a : Int} {b : Bool} (h : decide (0 < a) = b) : ∀ w,(do eqGuard .gtr 3 x y (.int .i64 a) (.int .i64 0);binOp .gtr 3 (.int .i64 a) (.int .i64 0) : Sem Value).run Tryz.prog w = .ok (.bool b) w:=by
 intro w;subst h;go_simp
theorem eql0 {x y : Operand} {a : Int} {b : Bool} (h : (a == 0) = b) : ∀ w,(do eqGuard .eql 3 x y (.int .i64 a) (.int .i64 0);binOp .eql 3 (.int .i64 a) (.int .i64 0) : Sem Value).run Tryz.prog w = .ok (.bool b) w:=by
 intro w;subst h;go_simp
theorem eq_row (x y : Operand) (a b c p q r : Int) : ∀ w,(do eqGuard .eql 25 x y (.agg #[.int .i64 a,.int .i64 b,.int .i64 c]) (.agg #[.int .i64 p,.int .i64 q,.int .i64 r]);binOp .eql 25 (.agg #[.int .i64 a,.int .i64 b,.int .i64 c]) (.agg #[.int .i64 p,.int .i64 q,.int .i64 r]) : Sem Value).run Tryz.prog w = .ok (.bool (eqL a b c p q r)) w:=eq_l x y a b c p q r
set_option maxHeartbeats 1000000 in
theorem rightM_1 (s : Sm) (w : World) (h1 : smUpB s.fr 3 = false) : Calls Tryz.prog 86 #[s.v] w fun e w' => e = .returned (.bool false) ∧ Below w.heap.size w w':=by
 have u1:=fun w => smUpTo_any s.fr 3 w
 rw [h1] at u1;clear h1
 have U1:=Hd u1;clear u1
 have ht : HoldsM (w.alloc (.cells #[.int .i64 s.fr,.int .i64 s.to,.int .i64 s.kp,.int .i64 s.ad,.int .i64 s.t0,.int .i64 s.t1,.int .i64 s.t2] 82)) w.heap.size 82 s:=HoldsM.made w _ s
 have HT:=Hd ht;clear ht
 unfold Sm.v
 go_enter Tryz.func86,Tryz.ntmps86
 go_wp2_with fail
 refine wp_region_below (by kernel_rfl) (by kernel_rfl) ?_
 refine wpQuiet_step (fun K hK => ?_);go_simp;(first | (with_reducible refine hK _ ?_) | (with_reducible refine ⟨_,fun _ _ => rfl,hK _ ?_⟩));clear hK K
 refine wpQuiet_step (fun K hK => ?_);refine q_load (p:=.pointer (some ⟨w.heap.size,0,none⟩)) 3 _ rfl rfl rfl (load_m1 HT.out 0 rfl) ?_;go_simp;(with_reducible refine hK _ ?_);clear hK K
 refine wpQuiet_step (fun K hK => ?_);go_simp;(with_reducible refine ⟨_,fun _ hb => (U1.out _).mono fun _ _ h => ⟨h.1,hb.trans (h.2.mono (by simpa using hb.size))⟩,hK _ ?_⟩);clear hK K
 refine wpQuiet_step (fun K hK => ?_);go_simp;(try (with_reducible refine ⟨_,fun _ _ => rfl,?_⟩));generalize hA : ({ tmps:=_,defers:=_ } : Act) = A;(with_reducible refine hK A ?_);clear hK K
 iterate 3 (refine wpQuiet_step (fun K hK => ?_);subst hA;go_simp;(try (with_reducible refine ⟨_,fun _ _ => rfl,?_⟩));generalize hA : ({ tmps:=_,defers:=_ } : Act) = A;(with_reducible refine hK A ?_);clear hK K)
 refine wpQuiet_step (fun K hK => ?_);subst hA;go_simp;(first | (with_reducible refine hK _ ?_) | (with_reducible refine ⟨_,fun _ _ => rfl,hK _ ?_⟩));clear hK K
 refine wpQuiet_step (fun K hK => ?_);go_simp;(try (with_reducible refine ⟨_,fun _ _ => rfl,?_⟩));generalize hA : ({ tmps:=_,defers:=_ } : Act) = A;(with_reducible refine hK A ?_);clear hK K
 iterate 8 (refine wpQuiet_step (fun K hK => ?_);subst hA;go_simp;(try (with_reducible refine ⟨_,fun _ _ => rfl,?_⟩));generalize hA : ({ tmps:=_,defers:=_ } : Act) = A;(with_reducible refine hK A ?_);clear hK K)
 refine wpQuiet_step (fun K hK => ?_);subst hA;go_simp;(first | (with_reducible refine hK _ ?_) | (with_reducible refine ⟨_,fun _ _ => rfl,hK _ ?_⟩));clear hK K
 refine wpQuiet_step (fun K hK => ?_);go_simp;(try (with_reducible refine ⟨_,fun _ _ => rfl,?_⟩));generalize hA : ({ tmps:=_,defers:=_ } : Act) = A;(with_reducible refine hK A ?_);clear hK K
 iterate 3 (refine wpQuiet_step (fun K hK => ?_);subst hA;go_simp;(try (with_reducible refine ⟨_,fun _ _ => rfl,?_⟩));generalize hA : ({ tmps:=_,defers:=_ } : Act) = A;(with_reducible refine hK A ?_);clear hK K)
 refine wpQuiet_step (fun K hK => ?_);subst hA;go_simp;(first | (with_reducible refine hK _ ?_) | (with_reducible refine ⟨_,fun _ _ => rfl,hK _ ?_⟩));clear hK K
 refine wpQuiet_step (fun K hK => ?_);go_simp;(try (with_reducible refine ⟨_,fun _ _ => rfl,?_⟩));generalize hA : ({ tmps:=_,defers:=_ } : Act) = A;(with_reducible refine hK A ?_);clear hK K
 iterate 4 (refine wpQuiet_step (fun K hK => ?_);subst hA;go_simp;(try (with_reducible refine ⟨_,fun _ _ => rfl,?_⟩));generalize hA : ({ tmps:=_,defers:=_ } : Act) = A;(with_reducible refine hK A ?_);clear hK K)
 iterate 3 (refine wpQuiet_step (fun K hK => ?_);subst hA;go_simp;generalize hA : ({ tmps:=_,defers:=_ } : Act) = A;rw [if_neg (by simp [undef])];(with_reducible refine hK A ?_);clear hK K)
 refine wpQuiet_step (fun K hK => ?_);subst hA;go_simp;(try (with_reducible refine ⟨_,fun _ _ => rfl,?_⟩));generalize hA : ({ tmps:=_,defers:=_ } : Act) = A;(with_reducible refine hK A ?_);clear hK K
 refine wpQuiet_step (fun K hK => ?_);subst hA;go_simp;(first | (with_reducible refine hK _ ?_) | (with_reducible refine ⟨_,fun _ _ => rfl,hK _ ?_⟩));clear hK K
 refine wpQuiet_step (fun K hK => ?_);go_simp;(try (with_reducible refine ⟨_,fun _ _ => rfl,?_⟩));generalize hA : ({ tmps:=_,defers:=_ } : Act) = A;(with_reducible refine hK A ?_);clear hK K
 iterate 5 (refine wpQuiet_step (fun K hK => ?_);subst hA;go_simp;(try (with_reducible refine ⟨_,fun _ _ => rfl,?_⟩));generalize hA : ({ tmps:=_,defers:=_ } : Act) = A;(with_reducible refine hK A ?_);clear hK K)
 refine wpQuiet_step (fun K hK => ?_);subst hA;go_simp;(first | (with_reducible refine hK _ ?_) | (with_reducible refine ⟨_,fun _ _ => rfl,hK _ ?_⟩));clear hK K
 refine wpQuiet_step (fun K hK => ?_);go_simp;(first | (with_reducible refine hK _ ?_) | (with_reducible refine ⟨_,fun _ _ => rfl,hK _ ?_⟩));clear hK K
 refine wpQuiet_nil ?_
 intro w2 hb2
 go_wp2_with fail
 go_ret
 exact ⟨rfl,((Below.refl _ _).alloc (Nat.le_refl _) _).trans (hb2.mono (by simp))⟩
set_option maxHeartbeats 1000000 in
theorem rightM_2 (s : Sm) (w : World) (h1 : smUpB s.fr 3 = true) (h2 : smUpB s.to 3 = false) : Calls Tryz.prog 86 #[s.v] w fun e w' => e = .returned (.bool false) ∧ Below w.heap.size w w':=by
 have u1:=fun w => smUpTo_any s.fr 3 w
 rw [h1] at u1;clear h1
 have u2:=fun w => smUpTo_any s.to 3 w
 rw [h2] at u2;clear h2
 have U1:=Hd u1;clear u1;have U2:=Hd u2;clear u2
 have ht : HoldsM (w.alloc (.cells #[.int .i64 s.fr,.int .i64 s.to,.int .i64 s.kp,.int .i64 s.ad,.int .i64 s.t0,.int .i64 s.t1,.int .i64 s.t2] 82)) w.heap.size 82 s:=HoldsM.made w _ s
 have HT:=Hd ht;clear ht
 unfold Sm.v
 go_enter Tryz.func86,Tryz.ntmps86
 go_wp2_with fail
 refine wp_region_below (by kernel_rfl) (by kernel_rfl) ?_
 refine wpQuiet_step (fun K hK => ?_);go_simp;(first | (with_reducible refine hK _ ?_) | (with_reducible refine ⟨_,fun _ _ => rfl,hK _ ?_⟩));clear hK K
 refine wpQuiet_step (fun K hK => ?_);refine q_load (p:=.pointer (some ⟨w.heap.size,0,none⟩)) 3 _ rfl rfl rfl (load_m1 HT.out 0 rfl) ?_;go_simp;(with_reducible refine hK _ ?_);clear hK K
 refine wpQuiet_step (fun K hK => ?_);go_simp;(with_reducible refine ⟨_,fun _ hb => (U1.out _).mono fun _ _ h => ⟨h.1,hb.trans (h.2.mono (by simpa using hb.size))⟩,hK _ ?_⟩);clear hK K
 iterate 2 (refine wpQuiet_step (fun K hK => ?_);go_simp;(first | (with_reducible refine hK _ ?_) | (with_reducible refine ⟨_,fun _ _ => rfl,hK _ ?_⟩));clear hK K)
 refine wpQuiet_step (fun K hK => ?_);refine q_load (p:=.pointer (some ⟨w.heap.size,1,none⟩)) 3 _ rfl rfl rfl (load_m1 HT.out 1 rfl) ?_;go_simp;(with_reducible refine hK _ ?_);clear hK K
 refine wpQuiet_step (fun K hK => ?_);go_simp;(with_reducible refine ⟨_,fun _ hb => (U2.out _).mono fun _ _ h => ⟨h.1,hb.trans (h.2.mono (by simpa using hb.size))⟩,hK _ ?_⟩);clear hK K
 refine wpQuiet_step (fun K hK => ?_);go_simp;(first | (with_reducible refine hK _ ?_) | (with_reducible refine ⟨_,fun _ _ => rfl,hK _ ?_⟩));clear hK K
 refine wpQuiet_step (fun K hK => ?_);go_simp;(try (with_reducible refine ⟨_,fun _ _ => rfl,?_⟩));generalize hA : ({ tmps:=_,defers:=_ } : Act) = A;(with_reducible refine hK A ?_);clear hK K
 iterate 8 (refine wpQuiet_step (fun K hK => ?_);subst hA;go_simp;(try (with_reducible refine ⟨_,fun _ _ => rfl,?_⟩));generalize hA : ({ tmps:=_,defers:=_ } : Act) = A;(with_reducible refine hK A ?_);clear hK K)
 refine wpQuiet_step (fun K hK => ?_);subst hA;go_simp;(first | (with_reducible refine hK _ ?_) | (with_reducible refine ⟨_,fun _ _ => rfl,hK _ ?_⟩));clear hK K
 refine wpQuiet_step (fun K hK => ?_);go_simp;(try (with_reducible refine ⟨_,fun _ _ => rfl,?_⟩));generalize hA : ({ tmps:=_,defers:=_ } : Act) = A;(with_reducible refine hK A ?_);clear hK K
 iterate 3 (refine wpQuiet_step (fun K hK => ?_);subst hA;go_simp;(try (with_reducible refine ⟨_,fun _ _ => rfl,?_⟩));generalize hA : ({ tmps:=_,defers:=_ } : Act) = A;(with_reducible refine hK A ?_);clear hK K)
 refine wpQuiet_step (fun K hK => ?_);subst hA;go_simp;(first | (with_reducible refine hK _ ?_) | (with_reducible refine ⟨_,fun _ _ => rfl,hK _ ?_⟩));clear hK K
 refine wpQuiet_step (fun K hK => ?_);go_simp;(try (with_reducible refine ⟨_,fun _ _ => rfl,?_⟩));generalize hA : ({ tmps:=_,defers:=_ } : Act) = A;(with_reducible refine hK A ?_);clear hK K
 iterate 4 (refine wpQuiet_step (fun K hK => ?_);subst hA;go_simp;(try (with_reducible refine ⟨_,fun _ _ => rfl,?_⟩));generalize hA : ({ tmps:=_,defers:=_ } : Act) = A;(with_reducible refine hK A ?_);clear hK K)
 iterate 3 (refine wpQuiet_step (fun K hK => ?_);subst hA;go_simp;generalize hA : ({ tmps:=_,defers:=_ } : Act) = A;rw [if_neg (by simp [undef])];(with_reducible refine hK A ?_);clear hK K)
 refine wpQuiet_step (fun K hK => ?_);subst hA;go_simp;(try (with_reducible refine ⟨_,fun _ _ => rfl,?_⟩));generalize hA : ({ tmps:=_,defers:=_ } : Act) = A;(with_reducible refine hK A ?_);clear hK K
 refine wpQuiet_step (fun K hK => ?_);subst hA;go_simp;(first | (with_reducible refine hK _ ?_) | (with_reducible refine ⟨_,fun _ _ => rfl,hK _ ?_⟩));clear hK K
 refine wpQuiet_step (fun K hK => ?_);go_simp;(try (with_reducible refine ⟨_,fun _ _ => rfl,?_⟩));generalize hA : ({ tmps:=_,defers:=_ } : Act) = A;(with_reducible refine hK A ?_);clear hK K
 iterate 5 (refine wpQuiet_step (fun K hK => ?_);subst hA;go_simp;(try (with_reducible refine ⟨_,fun _ _ => rfl,?_⟩));generalize hA : ({ tmps:=_,defers:=_ } : Act) = A;(with_reducible refine hK A ?_);clear hK K)
 refine wpQuiet_step (fun K hK => ?_);subst hA;go_simp;(first | (with_reducible refine hK _ ?_) | (with_reducible refine ⟨_,fun _ _ => rfl,hK _ ?_⟩));clear hK K
 refine wpQuiet_step (fun K hK => ?_);go_simp;(first | (with_reducible refine hK _ ?_) | (with_reducible refine ⟨_,fun _ _ => rfl,hK _ ?_⟩));clear hK K
 refine wpQuiet_nil ?_
 intro w2 hb2
 go_wp2_with fail
 go_ret
 exact ⟨rfl,((Below.refl _ _).alloc (Nat.le_refl _) _).trans (hb2.mono (by simp))⟩
set_option maxHeartbeats 1000000 in
theorem rightM_3 (s : Sm) (w : World) (h1 : smUpB s.fr 3 = true) (h2 : smUpB s.to 3 = true) (h3 : smUpB s.kp (min s.fr s.to) = false) : Calls Tryz.prog 86 #[s.v] w fun e w' => e = .returned (.bool false) ∧ Below w.heap.size w w':=by
 have u1:=fun w => smUpTo_any s.fr 3 w
 rw [h1] at u1;clear h1
 have u2:=fun w => smUpTo_any s.to 3 w
 rw [h2] at u2;clear h2
 have u3:=fun w => smUpTo_any s.kp (if s.to < s.fr then s.to else s.fr) w
 have hm : (if s.to < s.fr then s.to else s.fr) = min s.fr s.to:=by rw [Int.min_def];split <;> split <;> omega
 rw [hm] at u3
 rw [h3] at u3;clear h3
 generalize min s.fr s.to = M at *
 have HM:=Hd hm;clear hm
 have U1:=Hd u1;clear u1;have U2:=Hd u2;clear u2;have U3:=Hd u3;clear u3
 have ht : HoldsM (w.alloc (.cells #[.int .i64 s.fr,.int .i64 s.to,.int .i64 s.kp,.int .i64 s.ad,.int .i64 s.t0,.int .i64 s.t1,.int .i64 s.t2] 82)) w.heap.size 82 s:=HoldsM.made w _ s
 have HT:=Hd ht;clear ht
 unfold Sm.v
 go_enter Tryz.func86,Tryz.ntmps86
 go_wp2_with fail
 refine wp_region_below (by kernel_rfl) (by kernel_rfl) ?_
 refine wpQuiet_step (fun K hK => ?_);go_simp;(first | (with_reducible refine hK _ ?_) | (with_reducible refine ⟨_,fun _ _ => rfl,hK _ ?_⟩));clear hK K
 refine wpQuiet_step (fun K hK => ?_);refine q_load (p:=.pointer (some ⟨w.heap.size,0,none⟩)) 3 _ rfl rfl rfl (load_m1 HT.out 0 rfl) ?_;go_simp;(with_reducible refine hK _ ?_);clear hK K
 refine wpQuiet_step (fun K hK => ?_);go_simp;(with_reducible refine ⟨_,fun _ hb => (U1.out _).mono fun _ _ h => ⟨h.1,hb.trans (h.2.mono (by simpa using hb.size))⟩,hK _ ?_⟩);clear hK K
 iterate 2 (refine wpQuiet_step (fun K hK => ?_);go_simp;(first | (with_reducible refine hK _ ?_) | (with_reducible refine ⟨_,fun _ _ => rfl,hK _ ?_⟩));clear hK K)
 refine wpQuiet_step (fun K hK => ?_);refine q_load (p:=.pointer (some ⟨w.heap.size,1,none⟩)) 3 _ rfl rfl rfl (load_m1 HT.out 1 rfl) ?_;go_simp;(with_reducible refine hK _ ?_);clear hK K
 refine wpQuiet_step (fun K hK => ?_);go_simp;(with_reducible refine ⟨_,fun _ hb => (U2.out _).mono fun _ _ h => ⟨h.1,hb.trans (h.2.mono (by simpa using hb.size))⟩,hK _ ?_⟩);clear hK K
 iterate 3 (refine wpQuiet_step (fun K hK => ?_);go_simp;(first | (with_reducible refine hK _ ?_) | (with_reducible refine ⟨_,fun _ _ => rfl,hK _ ?_⟩));clear hK K)
 refine wpQuiet_step (fun K hK => ?_);refine q_load (p:=.pointer (some ⟨w.heap.size,2,none⟩)) 3 _ rfl rfl rfl (load_m1 HT.out 2 rfl) ?_;go_simp;(with_reducible refine hK _ ?_);clear hK K
 refine wpQuiet_step (fun K hK => ?_);go_simp;(first | (with_reducible refine hK _ ?_) | (with_reducible refine ⟨_,fun _ _ => rfl,hK _ ?_⟩));clear hK K
 refine wpQuiet_step (fun K hK => ?_);refine q_load (p:=.pointer (some ⟨w.heap.size,0,none⟩)) 3 _ rfl rfl rfl (load_m1 HT.out 0 rfl) ?_;go_simp;(with_reducible refine hK _ ?_);clear hK K
 refine wpQuiet_step (fun K hK => ?_);go_simp;(first | (with_reducible refine hK _ ?_) | (with_reducible refine ⟨_,fun _ _ => rfl,hK _ ?_⟩));clear hK K
 refine wpQuiet_step (fun K hK => ?_);refine q_load (p:=.pointer (some ⟨w.heap.size,1,none⟩)) 3 _ rfl rfl rfl (load_m1 HT.out 1 rfl) ?_;go_simp;(with_reducible refine hK _ ?_);clear hK K
 refine wpQuiet_step (fun K hK => ?_);go_simp;(first | (with_reducible refine ⟨_,fun _ _ => rfl,?_⟩) | skip);rw [HM.out];(with_reducible refine hK _ ?_);clear hK K
 refine wpQuiet_step (fun K hK => ?_);go_simp;(with_reducible refine ⟨_,fun _ hb => (U3.out _).mono fun _ _ h => ⟨h.1,hb.trans (h.2.mono (by simpa using hb.size))⟩,hK _ ?_⟩);clear hK K
 refine wpQuiet_step (fun K hK => ?_);go_simp;(first | (with_reducible refine hK _ ?_) | (with_reducible refine ⟨_,fun _ _ => rfl,hK _ ?_⟩));clear hK K
 refine wpQuiet_step (fun K hK => ?_);go_simp;(try (with_reducible refine ⟨_,fun _ _ => rfl,?_⟩));generalize hA : ({ tmps:=_,defers:=_ } : Act) = A;(with_reducible refine hK A ?_);clear hK K
 iterate 3 (refine wpQuiet_step (fun K hK => ?_);subst hA;go_simp;(try (with_reducible refine ⟨_,fun _ _ => rfl,?_⟩));generalize hA : ({ tmps:=_,defers:=_ } : Act) = A;(with_reducible refine hK A ?_);clear hK K)
 refine wpQuiet_step (fun K hK => ?_);subst hA;go_simp;(first | (with_reducible refine hK _ ?_) | (with_reducible refine ⟨_,fun _ _ => rfl,hK _ ?_⟩));clear hK K
 refine wpQuiet_step (fun K hK => ?_);go_simp;(try (with_reducible refine ⟨_,fun _ _ => rfl,?_⟩));generalize hA : ({ tmps:=_,defers:=_ } : Act) = A;(with_reducible refine hK A ?_);clear hK K
 iterate 4 (refine wpQuiet_step (fun K hK => ?_);subst hA;go_simp;(try (with_reducible refine ⟨_,fun _ _ => rfl,?_⟩));generalize hA : ({ tmps:=_,defers:=_ } : Act) = A;(with_reducible refine hK A ?_);clear hK K)
 iterate 3 (refine wpQuiet_step (fun K hK => ?_);subst hA;go_simp;generalize hA : ({ tmps:=_,defers:=_ } : Act) = A;rw [if_neg (by simp [undef])];(with_reducible refine hK A ?_);clear hK K)
 refine wpQuiet_step (fun K hK => ?_);subst hA;go_simp;(try (with_reducible refine ⟨_,fun _ _ => rfl,?_⟩));generalize hA : ({ tmps:=_,defers:=_ } : Act) = A;(with_reducible refine hK A ?_);clear hK K
 refine wpQuiet_step (fun K hK => ?_);subst hA;go_simp;(first | (with_reducible refine hK _ ?_) | (with_reducible refine ⟨_,fun _ _ => rfl,hK _ ?_⟩));clear hK K
 refine wpQuiet_step (fun K hK => ?_);go_simp;(try (with_reducible refine ⟨_,fun _ _ => rfl,?_⟩));generalize hA : ({ tmps:=_,defers:=_ } : Act) = A;(with_reducible refine hK A ?_);clear hK K
 iterate 5 (refine wpQuiet_step (fun K hK => ?_);subst hA;go_simp;(try (with_reducible refine ⟨_,fun _ _ => rfl,?_⟩));generalize hA : ({ tmps:=_,defers:=_ } : Act) = A;(with_reducible refine hK A ?_);clear hK K)
 refine wpQuiet_step (fun K hK => ?_);subst hA;go_simp;(first | (with_reducible refine hK _ ?_) | (with_reducible refine ⟨_,fun _ _ => rfl,hK _ ?_⟩));clear hK K
 refine wpQuiet_step (fun K hK => ?_);go_simp;(first | (with_reducible refine hK _ ?_) | (with_reducible refine ⟨_,fun _ _ => rfl,hK _ ?_⟩));clear hK K
 refine wpQuiet_nil ?_
 intro w2 hb2
 go_wp2_with fail
 go_ret
 exact ⟨rfl,((Below.refl _ _).alloc (Nat.le_refl _) _).trans (hb2.mono (by simp))⟩
set_option maxHeartbeats 1000000 in
theorem rightM_4 (s : Sm) (w : World) (h1 : smUpB s.fr 3 = true) (h2 : smUpB s.to 3 = true) (h3 : smUpB s.kp (min s.fr s.to) = true) (h4 : smUpB s.ad 15 = false) : Calls Tryz.prog 86 #[s.v] w fun e w' => e = .returned (.bool false) ∧ Below w.heap.size w w':=by
 have u1:=fun w => smUpTo_any s.fr 3 w
 rw [h1] at u1;clear h1
 have u2:=fun w => smUpTo_any s.to 3 w
 rw [h2] at u2;clear h2
 have u3:=fun w => smUpTo_any s.kp (if s.to < s.fr then s.to else s.fr) w
 have hm : (if s.to < s.fr then s.to else s.fr) = min s.fr s.to:=by rw [Int.min_def];split <;> split <;> omega
 rw [hm] at u3
 rw [h3] at u3;clear h3
 generalize min s.fr s.to = M at *
 have HM:=Hd hm;clear hm
 have u4:=fun w => smUpTo_any s.ad 15 w
 rw [h4] at u4;clear h4
 have U1:=Hd u1;clear u1;have U2:=Hd u2;clear u2;have U3:=Hd u3;clear u3;have U4:=Hd u4;clear u4
 have ht : HoldsM (w.alloc (.cells #[.int .i64 s.fr,.int .i64 s.to,.int .i64 s.kp,.int .i64 s.ad,.int .i64 s.t0,.int .i64 s.t1,.int .i64 s.t2] 82)) w.heap.size 82 s:=HoldsM.made w _ s
 have HT:=Hd ht;clear ht
 unfold Sm.v
 go_enter Tryz.func86,Tryz.ntmps86
 go_wp2_with fail
 refine wp_region_below (by kernel_rfl) (by kernel_rfl) ?_
 refine wpQuiet_step (fun K hK => ?_);go_simp;(first | (with_reducible refine hK _ ?_) | (with_reducible refine ⟨_,fun _ _ => rfl,hK _ ?_⟩));clear hK K
 refine wpQuiet_step (fun K hK => ?_);refine q_load (p:=.pointer (some ⟨w.heap.size,0,none⟩)) 3 _ rfl rfl rfl (load_m1 HT.out 0 rfl) ?_;go_simp;(with_reducible refine hK _ ?_);clear hK K
 refine wpQuiet_step (fun K hK => ?_);go_simp;(with_reducible refine ⟨_,fun _ hb => (U1.out _).mono fun _ _ h => ⟨h.1,hb.trans (h.2.mono (by simpa using hb.size))⟩,hK _ ?_⟩);clear hK K
 iterate 2 (refine wpQuiet_step (fun K hK => ?_);go_simp;(first | (with_reducible refine hK _ ?_) | (with_reducible refine ⟨_,fun _ _ => rfl,hK _ ?_⟩));clear hK K)
 refine wpQuiet_step (fun K hK => ?_);refine q_load (p:=.pointer (some ⟨w.heap.size,1,none⟩)) 3 _ rfl rfl rfl (load_m1 HT.out 1 rfl) ?_;go_simp;(with_reducible refine hK _ ?_);clear hK K
 refine wpQuiet_step (fun K hK => ?_);go_simp;(with_reducible refine ⟨_,fun _ hb => (U2.out _).mono fun _ _ h => ⟨h.1,hb.trans (h.2.mono (by simpa using hb.size))⟩,hK _ ?_⟩);clear hK K
 iterate 3 (refine wpQuiet_step (fun K hK => ?_);go_simp;(first | (with_reducible refine hK _ ?_) | (with_reducible refine ⟨_,fun _ _ => rfl,hK _ ?_⟩));clear hK K)
 refine wpQuiet_step (fun K hK => ?_);refine q_load (p:=.pointer (some ⟨w.heap.size,2,none⟩)) 3 _ rfl rfl rfl (load_m1 HT.out 2 rfl) ?_;go_simp;(with_reducible refine hK _ ?_);clear hK K
 refine wpQuiet_step (fun K hK => ?_);go_simp;(first | (with_reducible refine hK _ ?_) | (with_reducible refine ⟨_,fun _ _ => rfl,hK _ ?_⟩));clear hK K
 refine wpQuiet_step (fun K hK => ?_);refine q_load (p:=.pointer (some ⟨w.heap.size,0,none⟩)) 3 _ rfl rfl rfl (load_m1 HT.out 0 rfl) ?_;go_simp;(with_reducible refine hK _ ?_);clear hK K
 refine wpQuiet_step (fun K hK => ?_);go_simp;(first | (with_reducible refine hK _ ?_) | (with_reducible refine ⟨_,fun _ _ => rfl,hK _ ?_⟩));clear hK K
 refine wpQuiet_step (fun K hK => ?_);refine q_load (p:=.pointer (some ⟨w.heap.size,1,none⟩)) 3 _ rfl rfl rfl (load_m1 HT.out 1 rfl) ?_;go_simp;(with_reducible refine hK _ ?_);clear hK K
 refine wpQuiet_step (fun K hK => ?_);go_simp;(first | (with_reducible refine ⟨_,fun _ _ => rfl,?_⟩) | skip);rw [HM.out];(with_reducible refine hK _ ?_);clear hK K
 refine wpQuiet_step (fun K hK => ?_);go_simp;(with_reducible refine ⟨_,fun _ hb => (U3.out _).mono fun _ _ h => ⟨h.1,hb.trans (h.2.mono (by simpa using hb.size))⟩,hK _ ?_⟩);clear hK K
 iterate 3 (refine wpQuiet_step (fun K hK => ?_);go_simp;(first | (with_reducible refine hK _ ?_) | (with_reducible refine ⟨_,fun _ _ => rfl,hK _ ?_⟩));clear hK K)
 refine wpQuiet_step (fun K hK => ?_);refine q_load (p:=.pointer (some ⟨w.heap.size,3,none⟩)) 3 _ rfl rfl rfl (load_m1 HT.out 3 rfl) ?_;go_simp;(with_reducible refine hK _ ?_);clear hK K
 refine wpQuiet_step (fun K hK => ?_);go_simp;(with_reducible refine ⟨_,fun _ hb => (U4.out _).mono fun _ _ h => ⟨h.1,hb.trans (h.2.mono (by simpa using hb.size))⟩,hK _ ?_⟩);clear hK K
 refine wpQuiet_step (fun K hK => ?_);go_simp;(first | (with_reducible refine hK _ ?_) | (with_reducible refine ⟨_,fun _ _ => rfl,hK _ ?_⟩));clear hK K
 refine wpQuiet_step (fun K hK => ?_);go_simp;(try (with_reducible refine ⟨_,fun _ _ => rfl,?_⟩));generalize hA : ({ tmps:=_,defers:=_ } : Act) = A;(with_reducible refine hK A ?_);clear hK K
 iterate 4 (refine wpQuiet_step (fun K hK => ?_);subst hA;go_simp;(try (with_reducible refine ⟨_,fun _ _ => rfl,?_⟩));generalize hA : ({ tmps:=_,defers:=_ } : Act) = A;(with_reducible refine hK A ?_);clear hK K)
 iterate 3 (refine wpQuiet_step (fun K hK => ?_);subst hA;go_simp;generalize hA : ({ tmps:=_,defers:=_ } : Act) = A;rw [if_neg (by simp [undef])];(with_reducible refine hK A ?_);clear hK K)
 refine wpQuiet_step (fun K hK => ?_);subst hA;go_simp;(try (with_reducible refine ⟨_,fun _ _ => rfl,?_⟩));generalize hA : ({ tmps:=_,defers:=_ } : Act) = A;(with_reducible refine hK A ?_);clear hK K
 refine wpQuiet_step (fun K hK => ?_);subst hA;go_simp;(first | (with_reducible refine hK _ ?_) | (with_reducible refine ⟨_,fun _ _ => rfl,hK _ ?_⟩));clear hK K
 refine wpQuiet_step (fun K hK => ?_);go_simp;(try (with_reducible refine ⟨_,fun _ _ => rfl,?_⟩));generalize hA : ({ tmps:=_,defers:=_ } : Act) = A;(with_reducible refine hK A ?_);clear hK K
 iterate 5 (refine wpQuiet_step (fun K hK => ?_);subst hA;go_simp;(try (with_reducible refine ⟨_,fun _ _ => rfl,?_⟩));generalize hA : ({ tmps:=_,defers:=_ } : Act) = A;(with_reducible refine hK A ?_);clear hK K)
 refine wpQuiet_step (fun K hK => ?_);subst hA;go_simp;(first | (with_reducible refine hK _ ?_) | (with_reducible refine ⟨_,fun _ _ => rfl,hK _ ?_⟩));clear hK K
 refine wpQuiet_step (fun K hK => ?_);go_simp;(first | (with_reducible refine hK _ ?_) | (with_reducible refine ⟨_,fun _ _ => rfl,hK _ ?_⟩));clear hK K
 refine wpQuiet_nil ?_
 intro w2 hb2
 go_wp2_with fail
 go_ret
 exact ⟨rfl,((Below.refl _ _).alloc (Nat.le_refl _) _).trans (hb2.mono (by simp))⟩
set_option maxHeartbeats 1000000 in
theorem rightM_5 (s : Sm) (w : World) (h1 : smUpB s.fr 3 = true) (h2 : smUpB s.to 3 = true) (h3 : smUpB s.kp (min s.fr s.to) = true) (h4 : smUpB s.ad 15 = true) (h5 : decide (0 < s.kp) = false) (h6 : (s.ad == 0) = false) : Calls Tryz.prog 86 #[s.v] w fun e w' => e = .returned (.bool false) ∧ Below w.heap.size w w':=by
 have G5:=Hd h5;have G6:=Hd h6;clear h5 h6
 have u1:=fun w => smUpTo_any s.fr 3 w
 rw [h1] at u1;clear h1
 have u2:=fun w => smUpTo_any s.to 3 w
 rw [h2] at u2;clear h2
 have u3:=fun w => smUpTo_any s.kp (if s.to < s.fr then s.to else s.fr) w
 have hm : (if s.to < s.fr then s.to else s.fr) = min s.fr s.to:=by rw [Int.min_def];split <;> split <;> omega
 rw [hm] at u3
 rw [h3] at u3;clear h3
 generalize min s.fr s.to = M at *
 have HM:=Hd hm;clear hm
 have u4:=fun w => smUpTo_any s.ad 15 w
 rw [h4] at u4;clear h4
 have U1:=Hd u1;clear u1;have U2:=Hd u2;clear u2;have U3:=Hd u3;clear u3;have U4:=Hd u4;clear u4
 have ht : HoldsM (w.alloc (.cells #[.int .i64 s.fr,.int .i64 s.to,.int .i64 s.kp,.int .i64 s.ad,.int .i64 s.t0,.int .i64 s.t1,.int .i64 s.t2] 82)) w.heap.size 82 s:=HoldsM.made w _ s
 have HT:=Hd ht;clear ht
 unfold Sm.v
 go_enter Tryz.func86,Tryz.ntmps86
 go_wp2_with fail
 refine wp_region_below (by kernel_rfl) (by kernel_rfl) ?_
 refine wpQuiet_step (fun K hK => ?_);go_simp;(first | (with_reducible refine hK _ ?_) | (with_reducible refine ⟨_,fun _ _ => rfl,hK _ ?_⟩));clear hK K
 refine wpQuiet_step (fun K hK => ?_);refine q_load (p:=.pointer (some ⟨w.heap.size,0,none⟩)) 3 _ rfl rfl rfl (load_m1 HT.out 0 rfl) ?_;go_simp;(with_reducible refine hK _ ?_);clear hK K
 refine wpQuiet_step (fun K hK => ?_);go_simp;(with_reducible refine ⟨_,fun _ hb => (U1.out _).mono fun _ _ h => ⟨h.1,hb.trans (h.2.mono (by simpa using hb.size))⟩,hK _ ?_⟩);clear hK K
 iterate 2 (refine wpQuiet_step (fun K hK => ?_);go_simp;(first | (with_reducible refine hK _ ?_) | (with_reducible refine ⟨_,fun _ _ => rfl,hK _ ?_⟩));clear hK K)
 refine wpQuiet_step (fun K hK => ?_);refine q_load (p:=.pointer (some ⟨w.heap.size,1,none⟩)) 3 _ rfl rfl rfl (load_m1 HT.out 1 rfl) ?_;go_simp;(with_reducible refine hK _ ?_);clear hK K
 refine wpQuiet_step (fun K hK => ?_);go_simp;(with_reducible refine ⟨_,fun _ hb => (U2.out _).mono fun _ _ h => ⟨h.1,hb.trans (h.2.mono (by simpa using hb.size))⟩,hK _ ?_⟩);clear hK K
 iterate 3 (refine wpQuiet_step (fun K hK => ?_);go_simp;(first | (with_reducible refine hK _ ?_) | (with_reducible refine ⟨_,fun _ _ => rfl,hK _ ?_⟩));clear hK K)
 refine wpQuiet_step (fun K hK => ?_);refine q_load (p:=.pointer (some ⟨w.heap.size,2,none⟩)) 3 _ rfl rfl rfl (load_m1 HT.out 2 rfl) ?_;go_simp;(with_reducible refine hK _ ?_);clear hK K
 refine wpQuiet_step (fun K hK => ?_);go_simp;(first | (with_reducible refine hK _ ?_) | (with_reducible refine ⟨_,fun _ _ => rfl,hK _ ?_⟩));clear hK K
 refine wpQuiet_step (fun K hK => ?_);refine q_load (p:=.pointer (some ⟨w.heap.size,0,none⟩)) 3 _ rfl rfl rfl (load_m1 HT.out 0 rfl) ?_;go_simp;(with_reducible refine hK _ ?_);clear hK K
 refine wpQuiet_step (fun K hK => ?_);go_simp;(first | (with_reducible refine hK _ ?_) | (with_reducible refine ⟨_,fun _ _ => rfl,hK _ ?_⟩));clear hK K
 refine wpQuiet_step (fun K hK => ?_);refine q_load (p:=.pointer (some ⟨w.heap.size,1,none⟩)) 3 _ rfl rfl rfl (load_m1 HT.out 1 rfl) ?_;go_simp;(with_reducible refine hK _ ?_);clear hK K
 refine wpQuiet_step (fun K hK => ?_);go_simp;(first | (with_reducible refine ⟨_,fun _ _ => rfl,?_⟩) | skip);rw [HM.out];(with_reducible refine hK _ ?_);clear hK K
 refine wpQuiet_step (fun K hK => ?_);go_simp;(with_reducible refine ⟨_,fun _ hb => (U3.out _).mono fun _ _ h => ⟨h.1,hb.trans (h.2.mono (by simpa using hb.size))⟩,hK _ ?_⟩);clear hK K
 iterate 3 (refine wpQuiet_step (fun K hK => ?_);go_simp;(first | (with_reducible refine hK _ ?_) | (with_reducible refine ⟨_,fun _ _ => rfl,hK _ ?_⟩));clear hK K)
 refine wpQuiet_step (fun K hK => ?_);refine q_load (p:=.pointer (some ⟨w.heap.size,3,none⟩)) 3 _ rfl rfl rfl (load_m1 HT.out 3 rfl) ?_;go_simp;(with_reducible refine hK _ ?_);clear hK K
 refine wpQuiet_step (fun K hK => ?_);go_simp;(with_reducible refine ⟨_,fun _ hb => (U4.out _).mono fun _ _ h => ⟨h.1,hb.trans (h.2.mono (by simpa using hb.size))⟩,hK _ ?_⟩);clear hK K
 iterate 3 (refine wpQuiet_step (fun K hK => ?_);go_simp;(first | (with_reducible refine hK _ ?_) | (with_reducible refine ⟨_,fun _ _ => rfl,hK _ ?_⟩));clear hK K)
 refine wpQuiet_step (fun K hK => ?_);refine q_load (p:=.pointer (some ⟨w.heap.size,2,none⟩)) 3 _ rfl rfl rfl (load_m1 HT.out 2 rfl) ?_;go_simp;(with_reducible refine hK _ ?_);clear hK K
 refine wpQuiet_step (fun K hK => ?_);refine q_bin _ _ _ _ _ rfl rfl rfl rfl (gtr0 G5.out) ?_;go_simp;(with_reducible refine hK _ ?_);clear hK K
 iterate 2 (refine wpQuiet_step (fun K hK => ?_);go_simp;(first | (with_reducible refine hK _ ?_) | (with_reducible refine ⟨_,fun _ _ => rfl,hK _ ?_⟩));clear hK K)
 refine wpQuiet_step (fun K hK => ?_);refine q_load (p:=.pointer (some ⟨w.heap.size,3,none⟩)) 3 _ rfl rfl rfl (load_m1 HT.out 3 rfl) ?_;go_simp;(with_reducible refine hK _ ?_);clear hK K
 refine wpQuiet_step (fun K hK => ?_);refine q_bin _ _ _ _ _ rfl rfl rfl rfl (eql0 G6.out) ?_;go_simp;(with_reducible refine hK _ ?_);clear hK K
 iterate 2 (refine wpQuiet_step (fun K hK => ?_);go_simp;(first | (with_reducible refine hK _ ?_) | (with_reducible refine ⟨_,fun _ _ => rfl,hK _ ?_⟩));clear hK K)
 refine wpQuiet_step (fun K hK => ?_);go_simp;(try (with_reducible refine ⟨_,fun _ _ => rfl,?_⟩));generalize hA : ({ tmps:=_,defers:=_ } : Act) = A;(with_reducible refine hK A ?_);clear hK K
 iterate 5 (refine wpQuiet_step (fun K hK => ?_);subst hA;go_simp;(try (with_reducible refine ⟨_,fun _ _ => rfl,?_⟩));generalize hA : ({ tmps:=_,defers:=_ } : Act) = A;(with_reducible refine hK A ?_);clear hK K)
 refine wpQuiet_step (fun K hK => ?_);subst hA;go_simp;(first | (with_reducible refine hK _ ?_) | (with_reducible refine ⟨_,fun _ _ => rfl,hK _ ?_⟩));clear hK K
 refine wpQuiet_step (fun K hK => ?_);go_simp;(first | (with_reducible refine hK _ ?_) | (with_reducible refine ⟨_,fun _ _ => rfl,hK _ ?_⟩));clear hK K
 refine wpQuiet_nil ?_
 intro w2 hb2
 go_wp2_with fail
 go_ret
 exact ⟨rfl,((Below.refl _ _).alloc (Nat.le_refl _) _).trans (hb2.mono (by simp))⟩
set_option maxHeartbeats 1000000 in
theorem rightM_6 (s : Sm) (p q r : Int) (w : World) (h1 : smUpB s.fr 3 = true) (h2 : smUpB s.to 3 = true) (h3 : smUpB s.kp (min s.fr s.to) = true) (h4 : smUpB s.ad 15 = true) (h5 : decide (0 < s.kp) = true) (hc : ∀ w,Calls Tryz.prog 149 #[s.v] w fun e w' => e = .returned (.agg #[.int .i64 p,.int .i64 q,.int .i64 r]) ∧ Below w.heap.size w w') : Calls Tryz.prog 86 #[s.v] w fun e w' => e = .returned (.bool (eqL s.t0 s.t1 s.t2 p q r)) ∧ Below w.heap.size w w':=by
 have G5:=Hd h5;clear h5
 unfold Sm.v at hc
 have HC:=Hd hc;clear hc
 have u1:=fun w => smUpTo_any s.fr 3 w
 rw [h1] at u1;clear h1
 have u2:=fun w => smUpTo_any s.to 3 w
 rw [h2] at u2;clear h2
 have u3:=fun w => smUpTo_any s.kp (if s.to < s.fr then s.to else s.fr) w
 have hm : (if s.to < s.fr then s.to else s.fr) = min s.fr s.to:=by rw [Int.min_def];split <;> split <;> omega
 rw [hm] at u3
 rw [h3] at u3;clear h3
 generalize min s.fr s.to = M at *
 have HM:=Hd hm;clear hm
 have u4:=fun w => smUpTo_any s.ad 15 w
 rw [h4] at u4;clear h4
 have U1:=Hd u1;clear u1;have U2:=Hd u2;clear u2;have U3:=Hd u3;clear u3;have U4:=Hd u4;clear u4
 have ht : HoldsM (w.alloc (.cells #[.int .i64 s.fr,.int .i64 s.to,.int .i64 s.kp,.int .i64 s.ad,.int .i64 s.t0,.int .i64 s.t1,.int .i64 s.t2] 82)) w.heap.size 82 s:=HoldsM.made w _ s
 have HT:=Hd ht;clear ht
 unfold Sm.v
 go_enter Tryz.func86,Tryz.ntmps86
 go_wp2_with fail
 refine wp_region_below (by kernel_rfl) (by kernel_rfl) ?_
 refine wpQuiet_step (fun K hK => ?_);go_simp;(first | (with_reducible refine hK _ ?_) | (with_reducible refine ⟨_,fun _ _ => rfl,hK _ ?_⟩));clear hK K
 refine wpQuiet_step (fun K hK => ?_);refine q_load (p:=.pointer (some ⟨w.heap.size,0,none⟩)) 3 _ rfl rfl rfl (load_m1 HT.out 0 rfl) ?_;go_simp;(with_reducible refine hK _ ?_);clear hK K
 refine wpQuiet_step (fun K hK => ?_);go_simp;(with_reducible refine ⟨_,fun _ hb => (U1.out _).mono fun _ _ h => ⟨h.1,hb.trans (h.2.mono (by simpa using hb.size))⟩,hK _ ?_⟩);clear hK K
 iterate 2 (refine wpQuiet_step (fun K hK => ?_);go_simp;(first | (with_reducible refine hK _ ?_) | (with_reducible refine ⟨_,fun _ _ => rfl,hK _ ?_⟩));clear hK K)
 refine wpQuiet_step (fun K hK => ?_);refine q_load (p:=.pointer (some ⟨w.heap.size,1,none⟩)) 3 _ rfl rfl rfl (load_m1 HT.out 1 rfl) ?_;go_simp;(with_reducible refine hK _ ?_);clear hK K
 refine wpQuiet_step (fun K hK => ?_);go_simp;(with_reducible refine ⟨_,fun _ hb => (U2.out _).mono fun _ _ h => ⟨h.1,hb.trans (h.2.mono (by simpa using hb.size))⟩,hK _ ?_⟩);clear hK K
 iterate 3 (refine wpQuiet_step (fun K hK => ?_);go_simp;(first | (with_reducible refine hK _ ?_) | (with_reducible refine ⟨_,fun _ _ => rfl,hK _ ?_⟩));clear hK K)
 refine wpQuiet_step (fun K hK => ?_);refine q_load (p:=.pointer (some ⟨w.heap.size,2,none⟩)) 3 _ rfl rfl rfl (load_m1 HT.out 2 rfl) ?_;go_simp;(with_reducible refine hK _ ?_);clear hK K
 refine wpQuiet_step (fun K hK => ?_);go_simp;(first | (with_reducible refine hK _ ?_) | (with_reducible refine ⟨_,fun _ _ => rfl,hK _ ?_⟩));clear hK K
 refine wpQuiet_step (fun K hK => ?_);refine q_load (p:=.pointer (some ⟨w.heap.size,0,none⟩)) 3 _ rfl rfl rfl (load_m1 HT.out 0 rfl) ?_;go_simp;(with_reducible refine hK _ ?_);clear hK K
 refine wpQuiet_step (fun K hK => ?_);go_simp;(first | (with_reducible refine hK _ ?_) | (with_reducible refine ⟨_,fun _ _ => rfl,hK _ ?_⟩));clear hK K
 refine wpQuiet_step (fun K hK => ?_);refine q_load (p:=.pointer (some ⟨w.heap.size,1,none⟩)) 3 _ rfl rfl rfl (load_m1 HT.out 1 rfl) ?_;go_simp;(with_reducible refine hK _ ?_);clear hK K
 refine wpQuiet_step (fun K hK => ?_);go_simp;(first | (with_reducible refine ⟨_,fun _ _ => rfl,?_⟩) | skip);rw [HM.out];(with_reducible refine hK _ ?_);clear hK K
 refine wpQuiet_step (fun K hK => ?_);go_simp;(with_reducible refine ⟨_,fun _ hb => (U3.out _).mono fun _ _ h => ⟨h.1,hb.trans (h.2.mono (by simpa using hb.size))⟩,hK _ ?_⟩);clear hK K
 iterate 3 (refine wpQuiet_step (fun K hK => ?_);go_simp;(first | (with_reducible refine hK _ ?_) | (with_reducible refine ⟨_,fun _ _ => rfl,hK _ ?_⟩));clear hK K)
 refine wpQuiet_step (fun K hK => ?_);refine q_load (p:=.pointer (some ⟨w.heap.size,3,none⟩)) 3 _ rfl rfl rfl (load_m1 HT.out 3 rfl) ?_;go_simp;(with_reducible refine hK _ ?_);clear hK K
 refine wpQuiet_step (fun K hK => ?_);go_simp;(with_reducible refine ⟨_,fun _ hb => (U4.out _).mono fun _ _ h => ⟨h.1,hb.trans (h.2.mono (by simpa using hb.size))⟩,hK _ ?_⟩);clear hK K
 iterate 3 (refine wpQuiet_step (fun K hK => ?_);go_simp;(first | (with_reducible refine hK _ ?_) | (with_reducible refine ⟨_,fun _ _ => rfl,hK _ ?_⟩));clear hK K)
 refine wpQuiet_step (fun K hK => ?_);refine q_load (p:=.pointer (some ⟨w.heap.size,2,none⟩)) 3 _ rfl rfl rfl (load_m1 HT.out 2 rfl) ?_;go_simp;(with_reducible refine hK _ ?_);clear hK K
 refine wpQuiet_step (fun K hK => ?_);refine q_bin _ _ _ _ _ rfl rfl rfl rfl (gtr0 G5.out) ?_;go_simp;(with_reducible refine hK _ ?_);clear hK K
 iterate 8 (refine wpQuiet_step (fun K hK => ?_);go_simp;(first | (with_reducible refine hK _ ?_) | (with_reducible refine ⟨_,fun _ _ => rfl,hK _ ?_⟩));clear hK K)
 refine wpQuiet_step (fun K hK => ?_);refine q_load (p:=.pointer (some ⟨w.heap.size,4,none⟩)) 25 _ rfl rfl rfl (load_ml HT.out) ?_;go_simp;(with_reducible refine hK _ ?_);clear hK K
 refine wpQuiet_step (fun K hK => ?_);refine q_load (p:=.pointer (some ⟨w.heap.size,0,none⟩)) 82 _ rfl rfl rfl (load_m HT.out) ?_;go_simp;(with_reducible refine hK _ ?_);clear hK K
 refine wpQuiet_step (fun K hK => ?_);go_simp;(with_reducible refine ⟨_,fun _ hb => (HC.out _).mono fun _ _ h => ⟨h.1,hb.trans (h.2.mono (by simpa using hb.size))⟩,hK _ ?_⟩);clear hK K
 refine wpQuiet_step (fun K hK => ?_);refine q_bin _ _ _ _ _ rfl rfl rfl rfl (eq_row _ _ _ _ _ _ _ _) ?_;go_simp;(with_reducible refine hK _ ?_);clear hK K
 iterate 2 (refine wpQuiet_step (fun K hK => ?_);go_simp;(first | (with_reducible refine hK _ ?_) | (with_reducible refine ⟨_,fun _ _ => rfl,hK _ ?_⟩));clear hK K)
 refine wpQuiet_nil ?_
 intro w2 hb2
 go_wp2_with fail
 go_ret
 exact ⟨rfl,((Below.refl _ _).alloc (Nat.le_refl _) _).trans (hb2.mono (by simp))⟩
set_option maxHeartbeats 1000000 in
theorem rightM_7 (s : Sm) (p q r : Int) (w : World) (h1 : smUpB s.fr 3 = true) (h2 : smUpB s.to 3 = true) (h3 : smUpB s.kp (min s.fr s.to) = true) (h4 : smUpB s.ad 15 = true) (h5 : decide (0 < s.kp) = false) (h6 : (s.ad == 0) = true) (hc : ∀ w,Calls Tryz.prog 149 #[s.v] w fun e w' => e = .returned (.agg #[.int .i64 p,.int .i64 q,.int .i64 r]) ∧ Below w.heap.size w w') : Calls Tryz.prog 86 #[s.v] w fun e w' => e = .returned (.bool (eqL s.t0 s.t1 s.t2 p q r)) ∧ Below w.heap.size w w':=by
 have G5:=Hd h5;clear h5
 have G6:=Hd h6;clear h6
 unfold Sm.v at hc
 have HC:=Hd hc;clear hc
 have u1:=fun w => smUpTo_any s.fr 3 w
 rw [h1] at u1;clear h1
 have u2:=fun w => smUpTo_any s.to 3 w
 rw [h2] at u2;clear h2
 have u3:=fun w => smUpTo_any s.kp (if s.to < s.fr then s.to else s.fr) w
 have hm : (if s.to < s.fr then s.to else s.fr) = min s.fr s.to:=by rw [Int.min_def];split <;> split <;> omega
 rw [hm] at u3
 rw [h3] at u3;clear h3
 generalize min s.fr s.to = M at *
 have HM:=Hd hm;clear hm
 have u4:=fun w => smUpTo_any s.ad 15 w
 rw [h4] at u4;clear h4
 have U1:=Hd u1;clear u1;have U2:=Hd u2;clear u2;have U3:=Hd u3;clear u3;have U4:=Hd u4;clear u4
 have ht : HoldsM (w.alloc (.cells #[.int .i64 s.fr,.int .i64 s.to,.int .i64 s.kp,.int .i64 s.ad,.int .i64 s.t0,.int .i64 s.t1,.int .i64 s.t2] 82)) w.heap.size 82 s:=HoldsM.made w _ s
 have HT:=Hd ht;clear ht
 unfold Sm.v
 go_enter Tryz.func86,Tryz.ntmps86
 go_wp2_with fail
 refine wp_region_below (by kernel_rfl) (by kernel_rfl) ?_
 refine wpQuiet_step (fun K hK => ?_);go_simp;(first | (with_reducible refine hK _ ?_) | (with_reducible refine ⟨_,fun _ _ => rfl,hK _ ?_⟩));clear hK K
 refine wpQuiet_step (fun K hK => ?_);refine q_load (p:=.pointer (some ⟨w.heap.size,0,none⟩)) 3 _ rfl rfl rfl (load_m1 HT.out 0 rfl) ?_;go_simp;(with_reducible refine hK _ ?_);clear hK K
 refine wpQuiet_step (fun K hK => ?_);go_simp;(with_reducible refine ⟨_,fun _ hb => (U1.out _).mono fun _ _ h => ⟨h.1,hb.trans (h.2.mono (by simpa using hb.size))⟩,hK _ ?_⟩);clear hK K
 iterate 2 (refine wpQuiet_step (fun K hK => ?_);go_simp;(first | (with_reducible refine hK _ ?_) | (with_reducible refine ⟨_,fun _ _ => rfl,hK _ ?_⟩));clear hK K)
 refine wpQuiet_step (fun K hK => ?_);refine q_load (p:=.pointer (some ⟨w.heap.size,1,none⟩)) 3 _ rfl rfl rfl (load_m1 HT.out 1 rfl) ?_;go_simp;(with_reducible refine hK _ ?_);clear hK K
 refine wpQuiet_step (fun K hK => ?_);go_simp;(with_reducible refine ⟨_,fun _ hb => (U2.out _).mono fun _ _ h => ⟨h.1,hb.trans (h.2.mono (by simpa using hb.size))⟩,hK _ ?_⟩);clear hK K
 iterate 3 (refine wpQuiet_step (fun K hK => ?_);go_simp;(first | (with_reducible refine hK _ ?_) | (with_reducible refine ⟨_,fun _ _ => rfl,hK _ ?_⟩));clear hK K)
 refine wpQuiet_step (fun K hK => ?_);refine q_load (p:=.pointer (some ⟨w.heap.size,2,none⟩)) 3 _ rfl rfl rfl (load_m1 HT.out 2 rfl) ?_;go_simp;(with_reducible refine hK _ ?_);clear hK K
 refine wpQuiet_step (fun K hK => ?_);go_simp;(first | (with_reducible refine hK _ ?_) | (with_reducible refine ⟨_,fun _ _ => rfl,hK _ ?_⟩));clear hK K
 refine wpQuiet_step (fun K hK => ?_);refine q_load (p:=.pointer (some ⟨w.heap.size,0,none⟩)) 3 _ rfl rfl rfl (load_m1 HT.out 0 rfl) ?_;go_simp;(with_reducible refine hK _ ?_);clear hK K
 refine wpQuiet_step (fun K hK => ?_);go_simp;(first | (with_reducible refine hK _ ?_) | (with_reducible refine ⟨_,fun _ _ => rfl,hK _ ?_⟩));clear hK K
 refine wpQuiet_step (fun K hK => ?_);refine q_load (p:=.pointer (some ⟨w.heap.size,1,none⟩)) 3 _ rfl rfl rfl (load_m1 HT.out 1 rfl) ?_;go_simp;(with_reducible refine hK _ ?_);clear hK K
 refine wpQuiet_step (fun K hK => ?_);go_simp;(first | (with_reducible refine ⟨_,fun _ _ => rfl,?_⟩) | skip);rw [HM.out];(with_reducible refine hK _ ?_);clear hK K
 refine wpQuiet_step (fun K hK => ?_);go_simp;(with_reducible refine ⟨_,fun _ hb => (U3.out _).mono fun _ _ h => ⟨h.1,hb.trans (h.2.mono (by simpa using hb.size))⟩,hK _ ?_⟩);clear hK K
 iterate 3 (refine wpQuiet_step (fun K hK => ?_);go_simp;(first | (with_reducible refine hK _ ?_) | (with_reducible refine ⟨_,fun _ _ => rfl,hK _ ?_⟩));clear hK K)
 refine wpQuiet_step (fun K hK => ?_);refine q_load (p:=.pointer (some ⟨w.heap.size,3,none⟩)) 3 _ rfl rfl rfl (load_m1 HT.out 3 rfl) ?_;go_simp;(with_reducible refine hK _ ?_);clear hK K
 refine wpQuiet_step (fun K hK => ?_);go_simp;(with_reducible refine ⟨_,fun _ hb => (U4.out _).mono fun _ _ h => ⟨h.1,hb.trans (h.2.mono (by simpa using hb.size))⟩,hK _ ?_⟩);clear hK K
 iterate 3 (refine wpQuiet_step (fun K hK => ?_);go_simp;(first | (with_reducible refine hK _ ?_) | (with_reducible refine ⟨_,fun _ _ => rfl,hK _ ?_⟩));clear hK K)
 refine wpQuiet_step (fun K hK => ?_);refine q_load (p:=.pointer (some ⟨w.heap.size,2,none⟩)) 3 _ rfl rfl rfl (load_m1 HT.out 2 rfl) ?_;go_simp;(with_reducible refine hK _ ?_);clear hK K
 refine wpQuiet_step (fun K hK => ?_);refine q_bin _ _ _ _ _ rfl rfl rfl rfl (gtr0 G5.out) ?_;go_simp;(with_reducible refine hK _ ?_);clear hK K
 iterate 2 (refine wpQuiet_step (fun K hK => ?_);go_simp;(first | (with_reducible refine hK _ ?_) | (with_reducible refine ⟨_,fun _ _ => rfl,hK _ ?_⟩));clear hK K)
 refine wpQuiet_step (fun K hK => ?_);refine q_load (p:=.pointer (some ⟨w.heap.size,3,none⟩)) 3 _ rfl rfl rfl (load_m1 HT.out 3 rfl) ?_;go_simp;(with_reducible refine hK _ ?_);clear hK K
 refine wpQuiet_step (fun K hK => ?_);refine q_bin _ _ _ _ _ rfl rfl rfl rfl (eql0 G6.out) ?_;go_simp;(with_reducible refine hK _ ?_);clear hK K
 iterate 4 (refine wpQuiet_step (fun K hK => ?_);go_simp;(first | (with_reducible refine hK _ ?_) | (with_reducible refine ⟨_,fun _ _ => rfl,hK _ ?_⟩));clear hK K)
 refine wpQuiet_step (fun K hK => ?_);refine q_load (p:=.pointer (some ⟨w.heap.size,4,none⟩)) 25 _ rfl rfl rfl (load_ml HT.out) ?_;go_simp;(with_reducible refine hK _ ?_);clear hK K
 refine wpQuiet_step (fun K hK => ?_);refine q_load (p:=.pointer (some ⟨w.heap.size,0,none⟩)) 82 _ rfl rfl rfl (load_m HT.out) ?_;go_simp;(with_reducible refine hK _ ?_);clear hK K
 refine wpQuiet_step (fun K hK => ?_);go_simp;(with_reducible refine ⟨_,fun _ hb => (HC.out _).mono fun _ _ h => ⟨h.1,hb.trans (h.2.mono (by simpa using hb.size))⟩,hK _ ?_⟩);clear hK K
 refine wpQuiet_step (fun K hK => ?_);refine q_bin _ _ _ _ _ rfl rfl rfl rfl (eq_row _ _ _ _ _ _ _ _) ?_;go_simp;(with_reducible refine hK _ ?_);clear hK K
 iterate 2 (refine wpQuiet_step (fun K hK => ?_);go_simp;(first | (with_reducible refine hK _ ?_) | (with_reducible refine ⟨_,fun _ _ => rfl,hK _ ?_⟩));clear hK K)
 refine wpQuiet_nil ?_
 intro w2 hb2
 go_wp2_with fail
 go_ret
 exact ⟨rfl,((Below.refl _ _).alloc (Nat.le_refl _) _).trans (hb2.mono (by simp))⟩
theorem rightM_any (s : Sm) (w : World) : Calls Tryz.prog 86 #[s.v] w fun e w' => e = .returned (.bool (decide s.R)) ∧ Below w.heap.size w w':=by
 by_cases h1 : smUpB s.fr 3 = true
 case neg => rw [show decide s.R = false by rw [decide_eq_false_iff_not];exact fun h => h1 (RM_up h).1];exact rightM_1 s w (Bool.eq_false_iff.2 h1)
 by_cases h2 : smUpB s.to 3 = true
 case neg => rw [show decide s.R = false by rw [decide_eq_false_iff_not];exact fun h => h2 (RM_up h).2.1];exact rightM_2 s w h1 (Bool.eq_false_iff.2 h2)
 by_cases h3 : smUpB s.kp (min s.fr s.to) = true
 case neg => rw [show decide s.R = false by rw [decide_eq_false_iff_not];exact fun h => h3 (RM_up h).2.2.1];exact rightM_3 s w h1 h2 (Bool.eq_false_iff.2 h3)
 by_cases h4 : smUpB s.ad 15 = true
 case neg => rw [show decide s.R = false by rw [decide_eq_false_iff_not];exact fun h => h4 (RM_up h).2.2.2.1];exact rightM_4 s w h1 h2 h3 (Bool.eq_false_iff.2 h4)
 have hb : (0 ≤ s.fr ∧ s.fr ≤ 3) ∧ (0 ≤ s.to ∧ s.to ≤ 3) ∧ (0 ≤ s.kp ∧ s.kp ≤ min s.fr s.to):=by
  unfold smUpB at h1 h2 h3
  simpa using And.intro h1 (And.intro h2 h3)
 obtain ⟨n,hn⟩ : ∃ n : Nat,s.to - s.kp = n:=⟨(s.to - s.kp).toNat,by have:=Int.min_def s.fr s.to;split at this <;> omega⟩
 have hc:=fun w => nearestM_any s n w hn (by omega)
 by_cases h5 : 0 < s.kp
 · rw [show decide s.R = eqL s.t0 s.t1 s.t2 (nk n 0 s.t0) (nk n 1 s.t1) (nk n 2 s.t2) from (decide_eq_decide.2 (RM_near s n hn h1 h2 h3 h4 (.inl h5))).symm]
   exact rightM_6 s _ _ _ w h1 h2 h3 h4 (by simpa using h5) hc
 · by_cases h6 : s.ad = 0
   · rw [show decide s.R = eqL s.t0 s.t1 s.t2 (nk n 0 s.t0) (nk n 1 s.t1) (nk n 2 s.t2) from (decide_eq_decide.2 (RM_near s n hn h1 h2 h3 h4 (.inr h6))).symm]
     exact rightM_7 s _ _ _ w h1 h2 h3 h4 (by simpa using h5) (by simpa using h6) hc
   · rw [show decide s.R = false by rw [decide_eq_false_iff_not];exact fun h => (RM_up h).2.2.2.2.elim h5 h6]
     exact rightM_5 s w h1 h2 h3 h4 (by simpa using h5) (by simpa using h6)
end

section
end

section
theorem smMade2 (w : World) (o o' : Obj) : ((w.alloc o).alloc o').heap[w.heap.size + 1]? = some o':=by
 have:=heap_alloc_new (w.alloc o) o'
 rwa [size_alloc] at this
end

section
def Sm.cn (s : Sm) (i n : Int) : Int:=if s.kp ≤ i then s.tl (i - s.kp) else if i = s.kp - 1 then n + s.ad else n
def Sm.al (s : Sm) (i n : Int) : Int:=if i < s.to then s.cn i n else 0
theorem Sm.cn_N {s : Sm} {i n : Int} : s.cn i n = s.N i + (if i < s.kp then n else 0):=by
 unfold Sm.cn Sm.N
 by_cases h : s.kp ≤ i
 · rw [if_pos h,if_pos h,if_neg (by omega)];omega
 · rw [if_neg h,if_neg h]
   by_cases h2 : i = s.kp - 1
   · rw [if_pos h2,if_pos h2,if_pos (show i < s.kp by omega)];omega
   · rw [if_neg h2,if_neg h2,if_pos (show i < s.kp by omega)];omega
theorem makes_any (s : Sm) (w : World) : Calls Tryz.prog 150 #[s.v] w fun e w' => e = .returned (.func (.func 184) #[] #[.pointer (some ⟨w.heap.size,0,none⟩)]) ∧ w' = w.alloc (.cells #[.int .i64 s.fr,.int .i64 s.to,.int .i64 s.kp,.int .i64 s.ad,.int .i64 s.t0,.int .i64 s.t1,.int .i64 s.t2] 82):=by
 unfold Sm.v
 go_enter Tryz.func150,Tryz.ntmps150
 go_wp2_with fail
 go_ret
 exact ⟨rfl,rfl⟩
set_option maxHeartbeats 4000000 in
theorem makes1_any (s : Sm) (i : Nat) (n : Int) (b : Nat) (w : World) (hR : s.R) (hi : i < 3) (hn : 0 ≤ n ∧ n ≤ 1000) (hh : HoldsM w b 82 s) : Calls Tryz.prog 184 #[.int .i64 i,.int .i64 n,.pointer (some ⟨b,0,none⟩)] w fun e w' => e = .returned (.int .i64 (s.cn i n)) ∧ w = w':=by
 have hk : s.kp = 0 ∨ s.kp = 1 ∨ s.kp = 2 ∨ s.kp = 3:=by unfold Sm.R at hR;omega
 have hi3 : i = 0 ∨ i = 1 ∨ i = 2:=by omega
 have hw:=IntWalk.i64_in (n + s.ad) (by unfold Sm.R at hR;omega)
 obtain ⟨c0,c1,c2,c3,c4,c5,c6⟩:=hh.cells7
 clear hR hi hh hn
 obtain ⟨fr,to,kp,ad,x,y,z⟩:=s
 simp only at hk c0 c1 c2 c3 c4 c5 c6 hw
 rcases hk with rfl | rfl | rfl | rfl <;> rcases hi3 with rfl | rfl | rfl
 all_goals
  simp only [Sm.cn,Sm.tl]
  go_enter Tryz.func184,Tryz.ntmps184
  go_wp2_with fail
  go_ret
  exact ⟨rfl,rfl⟩
def pt (k j : Nat) (x : Int) : Int:=if j < k then x else 0
set_option maxHeartbeats 4000000 in
theorem along_any (s : Sm) (l0 l1 l2 : Int) (w : World) (hR : s.R) (h0 : 0 ≤ l0 ∧ l0 ≤ 1000) (h1 : 0 ≤ l1 ∧ l1 ≤ 1000) (h2 : 0 ≤ l2 ∧ l2 ≤ 1000) :
 Calls Tryz.prog 87 #[s.v,.agg #[.int .i64 l0,.int .i64 l1,.int .i64 l2]] w fun e w' => e = .returned (.agg #[.int .i64 (s.al 0 l0),.int .i64 (s.al 1 l1),.int .i64 (s.al 2 l2)]) ∧ Below w.heap.size w w':=by
 obtain ⟨n,hn⟩ : ∃ n : Nat,s.to = n:=⟨s.to.toNat,by unfold Sm.R at hR;omega⟩
 have hn3 : n ≤ 3:=by unfold Sm.R at hR;omega
 have e0 : s.al 0 l0 = pt n 0 (s.cn 0 l0):=by unfold Sm.al pt;rw [hn];by_cases h : 0 < n <;> simp [h]
 have e1 : s.al 1 l1 = pt n 1 (s.cn 1 l1):=by unfold Sm.al pt;rw [hn];by_cases h : 1 < n <;> simp [h] <;> omega
 have e2 : s.al 2 l2 = pt n 2 (s.cn 2 l2):=by unfold Sm.al pt;rw [hn];by_cases h : 2 < n <;> simp [h] <;> omega
 rw [e0,e1,e2]
 clear e0 e1 e2
 have c0:=fun b w => makes1_any s 0 l0 b w hR (by omega) h0
 have c1:=fun b w => makes1_any s 1 l1 b w hR (by omega) h1
 have c2:=fun b w => makes1_any s 2 l2 b w hR (by omega) h2
 have cm:=fun w => makes_any s w
 simp only [Int.ofNat_eq_natCast,Int.natCast_zero,Int.natCast_one] at c0 c1
 rw [show ((2 : Nat) : Int) = 2 from rfl] at c2
 generalize s.cn 0 l0 = m0 at *
 generalize s.cn 1 l1 = m1 at *
 generalize s.cn 2 l2 = m2 at *
 have C0:=Hd c0;have C1:=Hd c1;have C2:=Hd c2;have CM:=Hd cm
 clear c0 c1 c2 cm hR h0 h1 h2
 unfold Sm.v at *
 obtain ⟨fr,to,kp,ad,x,y,z⟩:=s
 simp only at hn CM ⊢
 subst hn
 go_enter Tryz.func87,Tryz.ntmps87
 go_wp2_with fail
 refine (CM.out _).mono ?_;rintro e w2 ⟨rfl,rfl⟩
 go_wp2_with fail
 go_loopw [12] (fun i wr => ∃ (k : Nat),k ≤ n ∧ i = .int .i64 k ∧ Row wr (w.heap.size + 1) 126 [.int .i64 l0,.int .i64 l1,.int .i64 l2] ∧ Row wr (w.heap.size + 2) 126 [.int .i64 0,.int .i64 0,.int .i64 0] ∧ Row wr (w.heap.size + 3) 126 [.int .i64 (pt k 0 m0),.int .i64 (pt k 1 m1),.int .i64 (pt k 2 m2)] ∧ HoldsM wr (w.heap.size + 4) 82 ⟨fr,(n : Int),kp,ad,x,y,z⟩ ∧ Below w.heap.size w wr) (fun i _ => n - (intOf i).toNat)
 case atStart =>
  refine ⟨0,by omega,rfl,?_,?_,?_,?_,?_⟩
  · have:=(((Row.made (w.alloc (.cells #[.int .i64 fr,.int .i64 n,.int .i64 kp,.int .i64 ad,.int .i64 x,.int .i64 y,.int .i64 z] 82)) 126 [.int .i64 l0,.int .i64 l1,.int .i64 l2]).alloc (.cells #[.int .i64 0,.int .i64 0,.int .i64 0] 126)).alloc (.cells #[.int .i64 0,.int .i64 0,.int .i64 0] 126)).alloc (.cells #[.int .i64 fr,.int .i64 n,.int .i64 kp,.int .i64 ad,.int .i64 x,.int .i64 y,.int .i64 z] 82)
    simpa only [size_alloc] using this
  · have:=((Row.made ((w.alloc (.cells #[.int .i64 fr,.int .i64 n,.int .i64 kp,.int .i64 ad,.int .i64 x,.int .i64 y,.int .i64 z] 82)).alloc (.cells #[.int .i64 l0,.int .i64 l1,.int .i64 l2] 126)) 126 [.int .i64 0,.int .i64 0,.int .i64 0]).alloc (.cells #[.int .i64 0,.int .i64 0,.int .i64 0] 126)).alloc (.cells #[.int .i64 fr,.int .i64 n,.int .i64 kp,.int .i64 ad,.int .i64 x,.int .i64 y,.int .i64 z] 82)
    simpa only [size_alloc] using this
  · have:=(Row.made (((w.alloc (.cells #[.int .i64 fr,.int .i64 n,.int .i64 kp,.int .i64 ad,.int .i64 x,.int .i64 y,.int .i64 z] 82)).alloc (.cells #[.int .i64 l0,.int .i64 l1,.int .i64 l2] 126)).alloc (.cells #[.int .i64 0,.int .i64 0,.int .i64 0] 126)) 126 [.int .i64 0,.int .i64 0,.int .i64 0]).alloc (.cells #[.int .i64 fr,.int .i64 n,.int .i64 kp,.int .i64 ad,.int .i64 x,.int .i64 y,.int .i64 z] 82)
    rw [size_alloc,size_alloc,size_alloc] at this
    exact this
  · have:=HoldsM.made ((((w.alloc (.cells #[.int .i64 fr,.int .i64 n,.int .i64 kp,.int .i64 ad,.int .i64 x,.int .i64 y,.int .i64 z] 82)).alloc (.cells #[.int .i64 l0,.int .i64 l1,.int .i64 l2] 126)).alloc (.cells #[.int .i64 0,.int .i64 0,.int .i64 0] 126)).alloc (.cells #[.int .i64 0,.int .i64 0,.int .i64 0] 126)) 82 ⟨fr,(n : Int),kp,ad,x,y,z⟩
    simpa only [size_alloc] using this
  · exact (((((Below.refl _ _).alloc (Nat.le_refl _) _).alloc (by simp) _).alloc (by simp;omega) _).alloc (by simp;omega) _).alloc (by simp;omega) _
 case round =>
  obtain ⟨k,hk,rfl,hra,hrr,hrb,hrs,hbw⟩:=hrel
  by_cases hlt : k < n
  · have hlt' : (k : Int) < (n : Int):=by omega
    have a0:=hra.cell 0;have a1:=hra.cell 1;have a2:=hra.cell 2
    have b0:=hrb.cell 0;have b1:=hrb.cell 1;have b2:=hrb.cell 2
    have f0:=hrb.free 0;have f1:=hrb.free 1;have f2:=hrb.free 2
    simp only [List.getElem?_cons_succ,List.getElem?_cons_zero] at a0 a1 a2 b0 b1 b2
    have HRA:=Hd hra;have HRR:=Hd hrr;have HRB:=Hd hrb;have HRS:=Hd hrs;have HBW:=Hd hbw;clear hra hrr hrb hrs hbw
    have hcase : k = 0 ∨ k = 1 ∨ k = 2:=by omega
    rcases hcase with rfl | rfl | rfl
    · go_wp2_with fail
      refine (C0.out _ _ HRS.out).mono ?_;rintro e w5 ⟨rfl,rfl⟩
      go_wp2_with fail
      go_roundw
      case rel => exact ⟨1,by omega,rfl,HRA.out.far (by simp) _,HRR.out.far (by simp) _,HRB.out.put 0 _,HRS.out.far (by simp) _,HBW.out.setCell (by simp;omega) _⟩
      case measure => simp [intOf];omega
    · go_wp2_with fail
      refine (C1.out _ _ HRS.out).mono ?_;rintro e w5 ⟨rfl,rfl⟩
      go_wp2_with fail
      go_roundw
      case rel => exact ⟨2,by omega,rfl,HRA.out.far (by simp) _,HRR.out.far (by simp) _,HRB.out.put 1 _,HRS.out.far (by simp) _,HBW.out.setCell (by simp;omega) _⟩
      case measure => simp [intOf];omega
    · go_wp2_with fail
      refine (C2.out _ _ HRS.out).mono ?_;rintro e w5 ⟨rfl,rfl⟩
      go_wp2_with fail
      go_roundw
      case rel => exact ⟨3,by omega,rfl,HRA.out.far (by simp) _,HRR.out.far (by simp) _,HRB.out.put 2 _,HRS.out.far (by simp) _,HBW.out.setCell (by simp;omega) _⟩
      case measure => simp [intOf];omega
  · have hkn : k = n:=by omega
    subst hkn
    have b0:=hrb.cell 0;have b1:=hrb.cell 1;have b2:=hrb.cell 2
    have r0:=hrr.cell 0;have r1:=hrr.cell 1;have r2:=hrr.cell 2
    have f0:=hrr.free 0;have f1:=hrr.free 1;have f2:=hrr.free 2
    simp only [List.getElem?_cons_succ,List.getElem?_cons_zero] at b0 b1 b2 r0 r1 r2
    have HRR:=Hd hrr;have HBW:=Hd hbw;clear hra hrr hrb hrs hbw
    obtain ⟨p,hp⟩ : ∃ p,p = pt k 0 m0:=⟨_,rfl⟩
    obtain ⟨q,hq⟩ : ∃ q,q = pt k 1 m1:=⟨_,rfl⟩
    obtain ⟨r,hr⟩ : ∃ r,r = pt k 2 m2:=⟨_,rfl⟩
    rw [← hp] at b0;rw [← hq] at b1;rw [← hr] at b2
    have HP:=Hd hp;have HQ:=Hd hq;have HR:=Hd hr;clear hp hq hr
    go_wp2_with fail
    refine bodyPost_ret (results_cell_row rfl _ _ (w.heap.size + 2) 126 _ (0,0) _ rfl (row_set3 HRR.out) Tryz.underlying126 rfl (by kernel_rfl)) rfl ?_
    exact ⟨by rw [HP.out,HQ.out,HR.out],((HBW.out.setCell (by simp;omega) _).setCell (by simp;omega) _).setCell (by simp;omega) _⟩
theorem index3 (a b c : Int) (k : Nat) (v : Int) (hk : k < 3) (hv : [a,b,c][k]? = some v) (w : World) : (Instr.index 126 (.agg #[.int .i64 a,.int .i64 b,.int .i64 c]) (.int .i64 k)).run Tryz.prog w = .ok (.int .i64 v) w:=by
 have hi : ∀ w,(isAgg 3).run Tryz.prog w = .ok false w:=fun w => by go_simp
 have hz : ∀ w,(sizeOf 3).run Tryz.prog w = .ok 1 w:=fun w => by go_simp
 have hcase : k = 0 ∨ k = 1 ∨ k = 2:=by omega
 have hu:=Tryz.underlying126
 rcases hcase with rfl | rfl | rfl <;> cases hv <;> simp [Instr.index,run_underlying hu,hi,hz,part,Sem.run_bind,go_sem]
def mx (a b : Int) : Int:=if a < b then b else a
set_option maxHeartbeats 4000000 in
theorem greaterM_any (a0 a1 a2 b0 b1 b2 : Int) (w : World) :
 Calls Tryz.prog 157 #[.agg #[.int .i64 a0,.int .i64 a1,.int .i64 a2],.agg #[.int .i64 b0,.int .i64 b1,.int .i64 b2]] w fun e w' => e = .returned (.agg #[.int .i64 (mx a0 b0),.int .i64 (mx a1 b1),.int .i64 (mx a2 b2)]) ∧ Below w.heap.size w w':=by
 go_enter Tryz.func157,Tryz.ntmps157
 go_wp2_with fail
 go_loopw [8] (fun i wr => ∃ (k : Nat),k ≤ 3 ∧ i = .int .i64 k ∧ Row wr w.heap.size 126 [.int .i64 (if 0 < k then mx a0 b0 else a0),.int .i64 (if 1 < k then mx a1 b1 else a1),.int .i64 (if 2 < k then mx a2 b2 else a2)] ∧ Row wr (w.heap.size + 2) 126 [.int .i64 0,.int .i64 0,.int .i64 0] ∧ Below w.heap.size w wr) (fun i _ => 3 - (intOf i).toNat)
 case atStart =>
  refine ⟨0,by omega,rfl,?_,?_,?_⟩
  · exact ((Row.made w 126 [.int .i64 a0,.int .i64 a1,.int .i64 a2]).alloc _).alloc _
  · have:=Row.made ((w.alloc (.cells #[.int .i64 a0,.int .i64 a1,.int .i64 a2] 126)).alloc (.cells #[.int .i64 b0,.int .i64 b1,.int .i64 b2] 126)) 126 [.int .i64 0,.int .i64 0,.int .i64 0]
    simpa only [size_alloc] using this
  · exact (((Below.refl _ _).alloc (Nat.le_refl _) _).alloc (by simp) _).alloc (by simp;omega) _
 case round =>
  obtain ⟨k,hk,rfl,hra,hrr,hbw⟩:=hrel
  have hcase : k = 0 ∨ k = 1 ∨ k = 2 ∨ k = 3:=by omega
  have r0:=hrr.cell 0;have r1:=hrr.cell 1;have r2:=hrr.cell 2
  have g0:=hrr.free 0;have g1:=hrr.free 1;have g2:=hrr.free 2
  have c0:=hra.cell 0;have c1:=hra.cell 1;have c2:=hra.cell 2
  have f0:=hra.free 0;have f1:=hra.free 1;have f2:=hra.free 2
  have HRA:=Hd hra;have HRR:=Hd hrr;have HBW:=Hd hbw;clear hra hrr hbw
  have i0:=index3 b0 b1 b2 0 b0 (by omega) rfl
  have i1:=index3 b0 b1 b2 1 b1 (by omega) rfl
  have i2:=index3 b0 b1 b2 2 b2 (by omega) rfl
  simp only [Int.natCast_zero,Int.natCast_one,Int.ofNat_eq_natCast] at i0 i1
  rw [show ((2 : Nat) : Int) = 2 from rfl] at i2
  rcases hcase with rfl | rfl | rfl | rfl
  all_goals simp only [List.getElem?_cons_succ,List.getElem?_cons_zero,Nat.lt_irrefl,Nat.not_lt_zero,Nat.reduceLT,if_true,if_false] at c0 c1 c2 r0 r1 r2
  · clear r0 r1 r2 g0 g1 g2
    go_wp2_with fail
    go_roundw
    case rel => exact ⟨1,by omega,rfl,HRA.out.put 0 _,HRR.out.far (by simp) _,HBW.out.setCell (by simp) _⟩
    case measure => simp [intOf]
  · clear r0 r1 r2 g0 g1 g2
    go_wp2_with fail
    go_roundw
    case rel => exact ⟨2,by omega,rfl,HRA.out.put 1 _,HRR.out.far (by simp) _,HBW.out.setCell (by simp) _⟩
    case measure => simp [intOf]
  · clear r0 r1 r2 g0 g1 g2
    go_wp2_with fail
    go_roundw
    case rel => exact ⟨3,by omega,rfl,HRA.out.put 2 _,HRR.out.far (by simp) _,HBW.out.setCell (by simp) _⟩
    case measure => simp [intOf]
  · obtain ⟨p,hp⟩ : ∃ p,p = mx a0 b0:=⟨_,rfl⟩
    obtain ⟨q,hq⟩ : ∃ q,q = mx a1 b1:=⟨_,rfl⟩
    obtain ⟨r,hr⟩ : ∃ r,r = mx a2 b2:=⟨_,rfl⟩
    rw [← hp] at c0;rw [← hq] at c1;rw [← hr] at c2
    have HP:=Hd hp;have HQ:=Hd hq;have HR:=Hd hr;clear hp hq hr
    go_wp2_with fail
    refine bodyPost_ret (results_cell_row rfl _ _ (w.heap.size + 2) 126 _ (0,0) _ rfl (row_set3 HRR.out) Tryz.underlying126 rfl (by kernel_rfl)) rfl ?_
    exact ⟨by rw [HP.out,HQ.out,HR.out],((HBW.out.setCell (by simp;omega) _).setCell (by simp;omega) _).setCell (by simp;omega) _⟩
end

section
def pk (g : Bool) (m n : Int) : Int:=if g then max m n else min m n
def St.pick (g : Bool) (a b : St) : St:=if a.B b then ⟨a.d,pk g a.e b.e,pk g a.x b.x,pk g a.y b.y,pk g a.z b.z⟩ else St.zero
theorem pick_join (a b : St) : St.pick true a b = a.join b:=by unfold St.pick St.join pk;rfl
section
variable {W : World} {g : Nat} {t : St}
theorem Holds.set (h : Holds W g t) (j : Nat) (v : Int) {t' : St} (ht : t.cells.set j (.int .i64 v) = t'.cells) : Holds (W.setCell ⟨g,j,none⟩ (.int .i64 v)) g t':=by
 have:=Row.put h j (.int .i64 v)
 rw [ht] at this;exact this
theorem Holds.far {p : Addr} (h : Holds W g t) (hp : g ≠ p.block) (u : Value) : Holds (W.setCell p u) g t:=Row.far h hp u
theorem Holds.all (h : Holds W g t) (a b c d e : Int) : Holds (((((W.setCell ⟨g,0,none⟩ (.int .i64 a)).setCell ⟨g,1,none⟩ (.int .i64 b)).setCell ⟨g,2,none⟩ (.int .i64 c)).setCell ⟨g,3,none⟩ (.int .i64 d)).setCell ⟨g,4,none⟩ (.int .i64 e)) g ⟨a,b,c,d,e⟩ :=
 ((((Row.put h 0 (.int .i64 a)).put 1 (.int .i64 b)).put 2 (.int .i64 c)).put 3 (.int .i64 d)).put 4 (.int .i64 e)
theorem Holds.cells5 (h : Holds W g t) : W.cell? ⟨g,0,none⟩ = some (.int .i64 t.d) ∧ W.cell? ⟨g,1,none⟩ = some (.int .i64 t.e) ∧ W.cell? ⟨g,2,none⟩ = some (.int .i64 t.x) ∧ W.cell? ⟨g,3,none⟩ = some (.int .i64 t.y) ∧ W.cell? ⟨g,4,none⟩ = some (.int .i64 t.z) :=
 ⟨h.at_ 0,h.at_ 1,h.at_ 2,h.at_ 3,h.at_ 4⟩
theorem Holds.free5 (h : Holds W g t) : W.frozen? ⟨g,0,none⟩ = false ∧ W.frozen? ⟨g,1,none⟩ = false ∧ W.frozen? ⟨g,2,none⟩ = false ∧ W.frozen? ⟨g,3,none⟩ = false ∧ W.frozen? ⟨g,4,none⟩ = false :=
 ⟨Row.free h 0,Row.free h 1,Row.free h 2,Row.free h 3,Row.free h 4⟩
end
theorem right_is {f : FuncId} {t : St} {b : Bool} (hb : decide t.R = b) (h : ∀ w,Calls Tryz.prog f #[t.val] w fun e w' => e = .returned (.bool (decide t.R)) ∧ Below w.heap.size w w') : ∀ w,Calls Tryz.prog f #[t.val] w fun e w' => e = .returned (.bool b) ∧ Below w.heap.size w w':=by
 subst hb;exact h
theorem zero_made (w : World) : Holds (w.alloc (.cells #[.int .i64 0,.int .i64 0,.int .i64 0,.int .i64 0,.int .i64 0] 27)) w.heap.size St.zero:=Holds.made w St.zero
theorem two_results {P : Program} {fn : Func} {p q : Tmp} {ty : TypeId} {v : Value} (h : fn.results = #[.cell p ty,.tmp q]) (tmps : Array Value) (w : World) (g : Nat) (t : TypeId) (cs : Array Value) (fr : Nat × Nat) (d : TypeDesc)
 (hp : tmps.getD p undef = .pointer (some ⟨g,0,none⟩)) (hg : w.heap[g]? = some (.cells cs t fr))
 (hu : P.underlying ty = some d) (hd : (match d with | .struct _ | .array _ _ => true | _ => false) = true) (hi : (P.info? ty).map (·.size) = some cs.size) (hq : tmps.getD q undef = v) :
 (results fn tmps).run P w = .ok (.tuple #[.agg cs,v]) w:=by
 have hp' : tmps[p]?.getD undef = .pointer (some ⟨g,0,none⟩):=by simpa using hp
 have hq' : tmps[q]?.getD undef = v:=by simpa using hq
 simp [results,h,hp',hq',asAddr,run_loadVar_row w g t ty cs fr d hg hu hd hi]
theorem below3 {w w' : World} {a b c : Obj} (h : Below (((w.alloc a).alloc b).alloc c).heap.size (((w.alloc a).alloc b).alloc c) w') : Below w.heap.size w w' :=
 ((((Below.refl _ _).alloc (Nat.le_refl _) _).alloc (by simp) _).alloc (by simp;omega) _).trans (h.mono (by simp;omega))
theorem below_set5 {w w' : World} {g : Nat} {p q r s t : Value} (h : Below w.heap.size w w') (hg : w.heap.size ≤ g) :
 Below w.heap.size w (((((w'.setCell ⟨g,0,none⟩ p).setCell ⟨g,1,none⟩ q).setCell ⟨g,2,none⟩ r).setCell ⟨g,3,none⟩ s).setCell ⟨g,4,none⟩ t) :=
 ((((h.setCell hg _).setCell hg _).setCell hg _).setCell hg _).setCell hg _
end
end Go.Proofs.YtonelpnhoiajgaaGreatDoor
