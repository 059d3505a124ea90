import Derived.Test.YtonelpnhoiajgaaGreatDoorHd
import Derived.Test.YtonelpnhoiajgaaGreatDoorCa0
namespace Go.Proofs.YtonelpnhoiajgaaGreatDoor
set_option linter.unusedSimpArgs false
set_option maxRecDepth 100000
open Go.ChangeShapes Go.WideShapes Go.ChangeAt Go.RowKit Go.BigFrame
set_option linter.unusedVariables false
section
theorem RM_near (s : Sm) (n : Nat) (hd : s.to - s.kp = n) (h1 : smUpB s.fr 3 = true) (h2 : smUpB s.to 3 = true) (h3 : smUpB s.kp (min s.fr s.to) = true) (h4 : smUpB s.ad 15 = true) (h5 : 0 < s.kp ∨ s.ad = 0) :
 (s.t0 = nk n 0 s.t0 ∧ s.t1 = nk n 1 s.t1 ∧ s.t2 = nk n 2 s.t2) ↔ s.R:=by
 unfold smUpB at *
 simp only [decide_eq_true_eq] at h1 h2 h3 h4
 have k : ∀ (j : Nat) (v : Int),v = nk n j v ↔ (0 ≤ v ∧ v < 16 ∧ (s.to - s.kp ≤ j → v = 0)):=by
  intro j v
  unfold nk
  by_cases h : j < n
  · rw [if_pos h,eq_comm,nr_eq];omega
  · rw [if_neg h];omega
 rw [k 0,k 1,k 2]
 unfold Sm.R
 have:=Int.min_def s.fr s.to
 omega
theorem RM_up {s : Sm} (h : s.R) : smUpB s.fr 3 = true ∧ smUpB s.to 3 = true ∧ smUpB s.kp (min s.fr s.to) = true ∧ smUpB s.ad 15 = true ∧ (0 < s.kp ∨ s.ad = 0):=by
 unfold Sm.R at h
 unfold smUpB
 simp only [decide_eq_true_eq]
 have:=Int.min_def s.fr s.to
 omega
theorem gtr0 {x y : Operand} {a : Int} {b : Bool} (h : decide (0 < a) = b) : ∀ w,(do eqGuard .gtr 3 x y (.int .i64 a) (.int .i64 0);binOp .gtr 3 (.int .i64 a) (.int .i64 0) : Sem Value).run Tryz.prog w = .ok (.bool b) w:=by
 intro w;subst h;go_simp
theorem eql0 {x y : Operand} {a : Int} {b : Bool} (h : (a == 0) = b) : ∀ w,(do eqGuard .eql 3 x y (.int .i64 a) (.int .i64 0);binOp .eql 3 (.int .i64 a) (.int .i64 0) : Sem Value).run Tryz.prog w = .ok (.bool b) w:=by
 intro w;subst h;go_simp
theorem eq_row (x y : Operand) (a b c p q r : Int) : ∀ w,(do eqGuard .eql 25 x y (.agg #[.int .i64 a,.int .i64 b,.int .i64 c]) (.agg #[.int .i64 p,.int .i64 q,.int .i64 r]);binOp .eql 25 (.agg #[.int .i64 a,.int .i64 b,.int .i64 c]) (.agg #[.int .i64 p,.int .i64 q,.int .i64 r]) : Sem Value).run Tryz.prog w = .ok (.bool (eqL a b c p q r)) w:=eq_l x y a b c p q r
set_option maxHeartbeats 1000000 in
theorem rightM_1 (s : Sm) (w : World) (h1 : smUpB s.fr 3 = false) : Calls Tryz.prog 86 #[s.v] w fun e w' => e = .returned (.bool false) ∧ Below w.heap.size w w':=by
 have u1:=fun w => smUpTo_any s.fr 3 w
 rw [h1] at u1;clear h1
 have U1:=Hd u1;clear u1
 have ht : HoldsM (w.alloc (.cells #[.int .i64 s.fr,.int .i64 s.to,.int .i64 s.kp,.int .i64 s.ad,.int .i64 s.t0,.int .i64 s.t1,.int .i64 s.t2] 82)) w.heap.size 82 s:=HoldsM.made w _ s
 have HT:=Hd ht;clear ht
 unfold Sm.v
 go_enter Tryz.func86,Tryz.ntmps86
 go_wp2_with fail
 refine wp_region_below (by kernel_rfl) (by kernel_rfl) ?_
 refine wpQuiet_step (fun K hK => ?_);go_simp;(first | (with_reducible refine hK _ ?_) | (with_reducible refine ⟨_,fun _ _ => rfl,hK _ ?_⟩));clear hK K
 refine wpQuiet_step (fun K hK => ?_);refine q_load (p:=.pointer (some ⟨w.heap.size,0,none⟩)) 3 _ rfl rfl rfl (load_m1 HT.out 0 rfl) ?_;go_simp;(with_reducible refine hK _ ?_);clear hK K
 refine wpQuiet_step (fun K hK => ?_);go_simp;(with_reducible refine ⟨_,fun _ hb => (U1.out _).mono fun _ _ h => ⟨h.1,hb.trans (h.2.mono (by simpa using hb.size))⟩,hK _ ?_⟩);clear hK K
 refine wpQuiet_step (fun K hK => ?_);go_simp;(try (with_reducible refine ⟨_,fun _ _ => rfl,?_⟩));generalize hA : ({ tmps:=_,defers:=_ } : Act) = A;(with_reducible refine hK A ?_);clear hK K
 iterate 3 (refine wpQuiet_step (fun K hK => ?_);subst hA;go_simp;(try (with_reducible refine ⟨_,fun _ _ => rfl,?_⟩));generalize hA : ({ tmps:=_,defers:=_ } : Act) = A;(with_reducible refine hK A ?_);clear hK K)
 refine wpQuiet_step (fun K hK => ?_);subst hA;go_simp;(first | (with_reducible refine hK _ ?_) | (with_reducible refine ⟨_,fun _ _ => rfl,hK _ ?_⟩));clear hK K
 refine wpQuiet_step (fun K hK => ?_);go_simp;(try (with_reducible refine ⟨_,fun _ _ => rfl,?_⟩));generalize hA : ({ tmps:=_,defers:=_ } : Act) = A;(with_reducible refine hK A ?_);clear hK K
 iterate 8 (refine wpQuiet_step (fun K hK => ?_);subst hA;go_simp;(try (with_reducible refine ⟨_,fun _ _ => rfl,?_⟩));generalize hA : ({ tmps:=_,defers:=_ } : Act) = A;(with_reducible refine hK A ?_);clear hK K)
 refine wpQuiet_step (fun K hK => ?_);subst hA;go_simp;(first | (with_reducible refine hK _ ?_) | (with_reducible refine ⟨_,fun _ _ => rfl,hK _ ?_⟩));clear hK K
 refine wpQuiet_step (fun K hK => ?_);go_simp;(try (with_reducible refine ⟨_,fun _ _ => rfl,?_⟩));generalize hA : ({ tmps:=_,defers:=_ } : Act) = A;(with_reducible refine hK A ?_);clear hK K
 iterate 3 (refine wpQuiet_step (fun K hK => ?_);subst hA;go_simp;(try (with_reducible refine ⟨_,fun _ _ => rfl,?_⟩));generalize hA : ({ tmps:=_,defers:=_ } : Act) = A;(with_reducible refine hK A ?_);clear hK K)
 refine wpQuiet_step (fun K hK => ?_);subst hA;go_simp;(first | (with_reducible refine hK _ ?_) | (with_reducible refine ⟨_,fun _ _ => rfl,hK _ ?_⟩));clear hK K
 refine wpQuiet_step (fun K hK => ?_);go_simp;(try (with_reducible refine ⟨_,fun _ _ => rfl,?_⟩));generalize hA : ({ tmps:=_,defers:=_ } : Act) = A;(with_reducible refine hK A ?_);clear hK K
 iterate 4 (refine wpQuiet_step (fun K hK => ?_);subst hA;go_simp;(try (with_reducible refine ⟨_,fun _ _ => rfl,?_⟩));generalize hA : ({ tmps:=_,defers:=_ } : Act) = A;(with_reducible refine hK A ?_);clear hK K)
 iterate 3 (refine wpQuiet_step (fun K hK => ?_);subst hA;go_simp;generalize hA : ({ tmps:=_,defers:=_ } : Act) = A;rw [if_neg (by simp [undef])];(with_reducible refine hK A ?_);clear hK K)
 refine wpQuiet_step (fun K hK => ?_);subst hA;go_simp;(try (with_reducible refine ⟨_,fun _ _ => rfl,?_⟩));generalize hA : ({ tmps:=_,defers:=_ } : Act) = A;(with_reducible refine hK A ?_);clear hK K
 refine wpQuiet_step (fun K hK => ?_);subst hA;go_simp;(first | (with_reducible refine hK _ ?_) | (with_reducible refine ⟨_,fun _ _ => rfl,hK _ ?_⟩));clear hK K
 refine wpQuiet_step (fun K hK => ?_);go_simp;(try (with_reducible refine ⟨_,fun _ _ => rfl,?_⟩));generalize hA : ({ tmps:=_,defers:=_ } : Act) = A;(with_reducible refine hK A ?_);clear hK K
 iterate 5 (refine wpQuiet_step (fun K hK => ?_);subst hA;go_simp;(try (with_reducible refine ⟨_,fun _ _ => rfl,?_⟩));generalize hA : ({ tmps:=_,defers:=_ } : Act) = A;(with_reducible refine hK A ?_);clear hK K)
 refine wpQuiet_step (fun K hK => ?_);subst hA;go_simp;(first | (with_reducible refine hK _ ?_) | (with_reducible refine ⟨_,fun _ _ => rfl,hK _ ?_⟩));clear hK K
 refine wpQuiet_step (fun K hK => ?_);go_simp;(first | (with_reducible refine hK _ ?_) | (with_reducible refine ⟨_,fun _ _ => rfl,hK _ ?_⟩));clear hK K
 refine wpQuiet_nil ?_
 intro w2 hb2
 go_wp2_with fail
 go_ret
 exact ⟨rfl,((Below.refl _ _).alloc (Nat.le_refl _) _).trans (hb2.mono (by simp))⟩
set_option maxHeartbeats 1000000 in
theorem rightM_2 (s : Sm) (w : World) (h1 : smUpB s.fr 3 = true) (h2 : smUpB s.to 3 = false) : Calls Tryz.prog 86 #[s.v] w fun e w' => e = .returned (.bool false) ∧ Below w.heap.size w w':=by
 have u1:=fun w => smUpTo_any s.fr 3 w
 rw [h1] at u1;clear h1
 have u2:=fun w => smUpTo_any s.to 3 w
 rw [h2] at u2;clear h2
 have U1:=Hd u1;clear u1;have U2:=Hd u2;clear u2
 have ht : HoldsM (w.alloc (.cells #[.int .i64 s.fr,.int .i64 s.to,.int .i64 s.kp,.int .i64 s.ad,.int .i64 s.t0,.int .i64 s.t1,.int .i64 s.t2] 82)) w.heap.size 82 s:=HoldsM.made w _ s
 have HT:=Hd ht;clear ht
 unfold Sm.v
 go_enter Tryz.func86,Tryz.ntmps86
 go_wp2_with fail
 refine wp_region_below (by kernel_rfl) (by kernel_rfl) ?_
 refine wpQuiet_step (fun K hK => ?_);go_simp;(first | (with_reducible refine hK _ ?_) | (with_reducible refine ⟨_,fun _ _ => rfl,hK _ ?_⟩));clear hK K
 refine wpQuiet_step (fun K hK => ?_);refine q_load (p:=.pointer (some ⟨w.heap.size,0,none⟩)) 3 _ rfl rfl rfl (load_m1 HT.out 0 rfl) ?_;go_simp;(with_reducible refine hK _ ?_);clear hK K
 refine wpQuiet_step (fun K hK => ?_);go_simp;(with_reducible refine ⟨_,fun _ hb => (U1.out _).mono fun _ _ h => ⟨h.1,hb.trans (h.2.mono (by simpa using hb.size))⟩,hK _ ?_⟩);clear hK K
 iterate 2 (refine wpQuiet_step (fun K hK => ?_);go_simp;(first | (with_reducible refine hK _ ?_) | (with_reducible refine ⟨_,fun _ _ => rfl,hK _ ?_⟩));clear hK K)
 refine wpQuiet_step (fun K hK => ?_);refine q_load (p:=.pointer (some ⟨w.heap.size,1,none⟩)) 3 _ rfl rfl rfl (load_m1 HT.out 1 rfl) ?_;go_simp;(with_reducible refine hK _ ?_);clear hK K
 refine wpQuiet_step (fun K hK => ?_);go_simp;(with_reducible refine ⟨_,fun _ hb => (U2.out _).mono fun _ _ h => ⟨h.1,hb.trans (h.2.mono (by simpa using hb.size))⟩,hK _ ?_⟩);clear hK K
 refine wpQuiet_step (fun K hK => ?_);go_simp;(first | (with_reducible refine hK _ ?_) | (with_reducible refine ⟨_,fun _ _ => rfl,hK _ ?_⟩));clear hK K
 refine wpQuiet_step (fun K hK => ?_);go_simp;(try (with_reducible refine ⟨_,fun _ _ => rfl,?_⟩));generalize hA : ({ tmps:=_,defers:=_ } : Act) = A;(with_reducible refine hK A ?_);clear hK K
 iterate 8 (refine wpQuiet_step (fun K hK => ?_);subst hA;go_simp;(try (with_reducible refine ⟨_,fun _ _ => rfl,?_⟩));generalize hA : ({ tmps:=_,defers:=_ } : Act) = A;(with_reducible refine hK A ?_);clear hK K)
 refine wpQuiet_step (fun K hK => ?_);subst hA;go_simp;(first | (with_reducible refine hK _ ?_) | (with_reducible refine ⟨_,fun _ _ => rfl,hK _ ?_⟩));clear hK K
 refine wpQuiet_step (fun K hK => ?_);go_simp;(try (with_reducible refine ⟨_,fun _ _ => rfl,?_⟩));generalize hA : ({ tmps:=_,defers:=_ } : Act) = A;(with_reducible refine hK A ?_);clear hK K
 iterate 3 (refine wpQuiet_step (fun K hK => ?_);subst hA;go_simp;(try (with_reducible refine ⟨_,fun _ _ => rfl,?_⟩));generalize hA : ({ tmps:=_,defers:=_ } : Act) = A;(with_reducible refine hK A ?_);clear hK K)
 refine wpQuiet_step (fun K hK => ?_);subst hA;go_simp;(first | (with_reducible refine hK _ ?_) | (with_reducible refine ⟨_,fun _ _ => rfl,hK _ ?_⟩));clear hK K
 refine wpQuiet_step (fun K hK => ?_);go_simp;(try (with_reducible refine ⟨_,fun _ _ => rfl,?_⟩));generalize hA : ({ tmps:=_,defers:=_ } : Act) = A;(with_reducible refine hK A ?_);clear hK K
 iterate 4 (refine wpQuiet_step (fun K hK => ?_);subst hA;go_simp;(try (with_reducible refine ⟨_,fun _ _ => rfl,?_⟩));generalize hA : ({ tmps:=_,defers:=_ } : Act) = A;(with_reducible refine hK A ?_);clear hK K)
 iterate 3 (refine wpQuiet_step (fun K hK => ?_);subst hA;go_simp;generalize hA : ({ tmps:=_,defers:=_ } : Act) = A;rw [if_neg (by simp [undef])];(with_reducible refine hK A ?_);clear hK K)
 refine wpQuiet_step (fun K hK => ?_);subst hA;go_simp;(try (with_reducible refine ⟨_,fun _ _ => rfl,?_⟩));generalize hA : ({ tmps:=_,defers:=_ } : Act) = A;(with_reducible refine hK A ?_);clear hK K
 refine wpQuiet_step (fun K hK => ?_);subst hA;go_simp;(first | (with_reducible refine hK _ ?_) | (with_reducible refine ⟨_,fun _ _ => rfl,hK _ ?_⟩));clear hK K
 refine wpQuiet_step (fun K hK => ?_);go_simp;(try (with_reducible refine ⟨_,fun _ _ => rfl,?_⟩));generalize hA : ({ tmps:=_,defers:=_ } : Act) = A;(with_reducible refine hK A ?_);clear hK K
 iterate 5 (refine wpQuiet_step (fun K hK => ?_);subst hA;go_simp;(try (with_reducible refine ⟨_,fun _ _ => rfl,?_⟩));generalize hA : ({ tmps:=_,defers:=_ } : Act) = A;(with_reducible refine hK A ?_);clear hK K)
 refine wpQuiet_step (fun K hK => ?_);subst hA;go_simp;(first | (with_reducible refine hK _ ?_) | (with_reducible refine ⟨_,fun _ _ => rfl,hK _ ?_⟩));clear hK K
 refine wpQuiet_step (fun K hK => ?_);go_simp;(first | (with_reducible refine hK _ ?_) | (with_reducible refine ⟨_,fun _ _ => rfl,hK _ ?_⟩));clear hK K
 refine wpQuiet_nil ?_
 intro w2 hb2
 go_wp2_with fail
 go_ret
 exact ⟨rfl,((Below.refl _ _).alloc (Nat.le_refl _) _).trans (hb2.mono (by simp))⟩
set_option maxHeartbeats 1000000 in
theorem rightM_3 (s : Sm) (w : World) (h1 : smUpB s.fr 3 = true) (h2 : smUpB s.to 3 = true) (h3 : smUpB s.kp (min s.fr s.to) = false) : Calls Tryz.prog 86 #[s.v] w fun e w' => e = .returned (.bool false) ∧ Below w.heap.size w w':=by
 have u1:=fun w => smUpTo_any s.fr 3 w
 rw [h1] at u1;clear h1
 have u2:=fun w => smUpTo_any s.to 3 w
 rw [h2] at u2;clear h2
 have u3:=fun w => smUpTo_any s.kp (if s.to < s.fr then s.to else s.fr) w
 have hm : (if s.to < s.fr then s.to else s.fr) = min s.fr s.to:=by rw [Int.min_def];split <;> split <;> omega
 rw [hm] at u3
 rw [h3] at u3;clear h3
 generalize min s.fr s.to = M at *
 have HM:=Hd hm;clear hm
 have U1:=Hd u1;clear u1;have U2:=Hd u2;clear u2;have U3:=Hd u3;clear u3
 have ht : HoldsM (w.alloc (.cells #[.int .i64 s.fr,.int .i64 s.to,.int .i64 s.kp,.int .i64 s.ad,.int .i64 s.t0,.int .i64 s.t1,.int .i64 s.t2] 82)) w.heap.size 82 s:=HoldsM.made w _ s
 have HT:=Hd ht;clear ht
 unfold Sm.v
 go_enter Tryz.func86,Tryz.ntmps86
 go_wp2_with fail
 refine wp_region_below (by kernel_rfl) (by kernel_rfl) ?_
 refine wpQuiet_step (fun K hK => ?_);go_simp;(first | (with_reducible refine hK _ ?_) | (with_reducible refine ⟨_,fun _ _ => rfl,hK _ ?_⟩));clear hK K
 refine wpQuiet_step (fun K hK => ?_);refine q_load (p:=.pointer (some ⟨w.heap.size,0,none⟩)) 3 _ rfl rfl rfl (load_m1 HT.out 0 rfl) ?_;go_simp;(with_reducible refine hK _ ?_);clear hK K
 refine wpQuiet_step (fun K hK => ?_);go_simp;(with_reducible refine ⟨_,fun _ hb => (U1.out _).mono fun _ _ h => ⟨h.1,hb.trans (h.2.mono (by simpa using hb.size))⟩,hK _ ?_⟩);clear hK K
 iterate 2 (refine wpQuiet_step (fun K hK => ?_);go_simp;(first | (with_reducible refine hK _ ?_) | (with_reducible refine ⟨_,fun _ _ => rfl,hK _ ?_⟩));clear hK K)
 refine wpQuiet_step (fun K hK => ?_);refine q_load (p:=.pointer (some ⟨w.heap.size,1,none⟩)) 3 _ rfl rfl rfl (load_m1 HT.out 1 rfl) ?_;go_simp;(with_reducible refine hK _ ?_);clear hK K
 refine wpQuiet_step (fun K hK => ?_);go_simp;(with_reducible refine ⟨_,fun _ hb => (U2.out _).mono fun _ _ h => ⟨h.1,hb.trans (h.2.mono (by simpa using hb.size))⟩,hK _ ?_⟩);clear hK K
 iterate 3 (refine wpQuiet_step (fun K hK => ?_);go_simp;(first | (with_reducible refine hK _ ?_) | (with_reducible refine ⟨_,fun _ _ => rfl,hK _ ?_⟩));clear hK K)
 refine wpQuiet_step (fun K hK => ?_);refine q_load (p:=.pointer (some ⟨w.heap.size,2,none⟩)) 3 _ rfl rfl rfl (load_m1 HT.out 2 rfl) ?_;go_simp;(with_reducible refine hK _ ?_);clear hK K
 refine wpQuiet_step (fun K hK => ?_);go_simp;(first | (with_reducible refine hK _ ?_) | (with_reducible refine ⟨_,fun _ _ => rfl,hK _ ?_⟩));clear hK K
 refine wpQuiet_step (fun K hK => ?_);refine q_load (p:=.pointer (some ⟨w.heap.size,0,none⟩)) 3 _ rfl rfl rfl (load_m1 HT.out 0 rfl) ?_;go_simp;(with_reducible refine hK _ ?_);clear hK K
 refine wpQuiet_step (fun K hK => ?_);go_simp;(first | (with_reducible refine hK _ ?_) | (with_reducible refine ⟨_,fun _ _ => rfl,hK _ ?_⟩));clear hK K
 refine wpQuiet_step (fun K hK => ?_);refine q_load (p:=.pointer (some ⟨w.heap.size,1,none⟩)) 3 _ rfl rfl rfl (load_m1 HT.out 1 rfl) ?_;go_simp;(with_reducible refine hK _ ?_);clear hK K
 refine wpQuiet_step (fun K hK => ?_);go_simp;(first | (with_reducible refine ⟨_,fun _ _ => rfl,?_⟩) | skip);rw [HM.out];(with_reducible refine hK _ ?_);clear hK K
 refine wpQuiet_step (fun K hK => ?_);go_simp;(with_reducible refine ⟨_,fun _ hb => (U3.out _).mono fun _ _ h => ⟨h.1,hb.trans (h.2.mono (by simpa using hb.size))⟩,hK _ ?_⟩);clear hK K
 refine wpQuiet_step (fun K hK => ?_);go_simp;(first | (with_reducible refine hK _ ?_) | (with_reducible refine ⟨_,fun _ _ => rfl,hK _ ?_⟩));clear hK K
 refine wpQuiet_step (fun K hK => ?_);go_simp;(try (with_reducible refine ⟨_,fun _ _ => rfl,?_⟩));generalize hA : ({ tmps:=_,defers:=_ } : Act) = A;(with_reducible refine hK A ?_);clear hK K
 iterate 3 (refine wpQuiet_step (fun K hK => ?_);subst hA;go_simp;(try (with_reducible refine ⟨_,fun _ _ => rfl,?_⟩));generalize hA : ({ tmps:=_,defers:=_ } : Act) = A;(with_reducible refine hK A ?_);clear hK K)
 refine wpQuiet_step (fun K hK => ?_);subst hA;go_simp;(first | (with_reducible refine hK _ ?_) | (with_reducible refine ⟨_,fun _ _ => rfl,hK _ ?_⟩));clear hK K
 refine wpQuiet_step (fun K hK => ?_);go_simp;(try (with_reducible refine ⟨_,fun _ _ => rfl,?_⟩));generalize hA : ({ tmps:=_,defers:=_ } : Act) = A;(with_reducible refine hK A ?_);clear hK K
 iterate 4 (refine wpQuiet_step (fun K hK => ?_);subst hA;go_simp;(try (with_reducible refine ⟨_,fun _ _ => rfl,?_⟩));generalize hA : ({ tmps:=_,defers:=_ } : Act) = A;(with_reducible refine hK A ?_);clear hK K)
 iterate 3 (refine wpQuiet_step (fun K hK => ?_);subst hA;go_simp;generalize hA : ({ tmps:=_,defers:=_ } : Act) = A;rw [if_neg (by simp [undef])];(with_reducible refine hK A ?_);clear hK K)
 refine wpQuiet_step (fun K hK => ?_);subst hA;go_simp;(try (with_reducible refine ⟨_,fun _ _ => rfl,?_⟩));generalize hA : ({ tmps:=_,defers:=_ } : Act) = A;(with_reducible refine hK A ?_);clear hK K
 refine wpQuiet_step (fun K hK => ?_);subst hA;go_simp;(first | (with_reducible refine hK _ ?_) | (with_reducible refine ⟨_,fun _ _ => rfl,hK _ ?_⟩));clear hK K
 refine wpQuiet_step (fun K hK => ?_);go_simp;(try (with_reducible refine ⟨_,fun _ _ => rfl,?_⟩));generalize hA : ({ tmps:=_,defers:=_ } : Act) = A;(with_reducible refine hK A ?_);clear hK K
 iterate 5 (refine wpQuiet_step (fun K hK => ?_);subst hA;go_simp;(try (with_reducible refine ⟨_,fun _ _ => rfl,?_⟩));generalize hA : ({ tmps:=_,defers:=_ } : Act) = A;(with_reducible refine hK A ?_);clear hK K)
 refine wpQuiet_step (fun K hK => ?_);subst hA;go_simp;(first | (with_reducible refine hK _ ?_) | (with_reducible refine ⟨_,fun _ _ => rfl,hK _ ?_⟩));clear hK K
 refine wpQuiet_step (fun K hK => ?_);go_simp;(first | (with_reducible refine hK _ ?_) | (with_reducible refine ⟨_,fun _ _ => rfl,hK _ ?_⟩));clear hK K
 refine wpQuiet_nil ?_
 intro w2 hb2
 go_wp2_with fail
 go_ret
 exact ⟨rfl,((Below.refl _ _).alloc (Nat.le_refl _) _).trans (hb2.mono (by simp))⟩
set_option maxHeartbeats 1000000 in
theorem rightM_4 (s : Sm) (w : World) (h1 : smUpB s.fr 3 = true) (h2 : smUpB s.to 3 = true) (h3 : smUpB s.kp (min s.fr s.to) = true) (h4 : smUpB s.ad 15 = false) : Calls Tryz.prog 86 #[s.v] w fun e w' => e = .returned (.bool false) ∧ Below w.heap.size w w':=by
 have u1:=fun w => smUpTo_any s.fr 3 w
 rw [h1] at u1;clear h1
 have u2:=fun w => smUpTo_any s.to 3 w
 rw [h2] at u2;clear h2
 have u3:=fun w => smUpTo_any s.kp (if s.to < s.fr then s.to else s.fr) w
 have hm : (if s.to < s.fr then s.to else s.fr) = min s.fr s.to:=by rw [Int.min_def];split <;> split <;> omega
 rw [hm] at u3
 rw [h3] at u3;clear h3
 generalize min s.fr s.to = M at *
 have HM:=Hd hm;clear hm
 have u4:=fun w => smUpTo_any s.ad 15 w
 rw [h4] at u4;clear h4
 have U1:=Hd u1;clear u1;have U2:=Hd u2;clear u2;have U3:=Hd u3;clear u3;have U4:=Hd u4;clear u4
 have ht : HoldsM (w.alloc (.cells #[.int .i64 s.fr,.int .i64 s.to,.int .i64 s.kp,.int .i64 s.ad,.int .i64 s.t0,.int .i64 s.t1,.int .i64 s.t2] 82)) w.heap.size 82 s:=HoldsM.made w _ s
 have HT:=Hd ht;clear ht
 unfold Sm.v
 go_enter Tryz.func86,Tryz.ntmps86
 go_wp2_with fail
 refine wp_region_below (by kernel_rfl) (by kernel_rfl) ?_
 refine wpQuiet_step (fun K hK => ?_);go_simp;(first | (with_reducible refine hK _ ?_) | (with_reducible refine ⟨_,fun _ _ => rfl,hK _ ?_⟩));clear hK K
 refine wpQuiet_step (fun K hK => ?_);refine q_load (p:=.pointer (some ⟨w.heap.size,0,none⟩)) 3 _ rfl rfl rfl (load_m1 HT.out 0 rfl) ?_;go_simp;(with_reducible refine hK _ ?_);clear hK K
 refine wpQuiet_step (fun K hK => ?_);go_simp;(with_reducible refine ⟨_,fun _ hb => (U1.out _).mono fun _ _ h => ⟨h.1,hb.trans (h.2.mono (by simpa using hb.size))⟩,hK _ ?_⟩);clear hK K
 iterate 2 (refine wpQuiet_step (fun K hK => ?_);go_simp;(first | (with_reducible refine hK _ ?_) | (with_reducible refine ⟨_,fun _ _ => rfl,hK _ ?_⟩));clear hK K)
 refine wpQuiet_step (fun K hK => ?_);refine q_load (p:=.pointer (some ⟨w.heap.size,1,none⟩)) 3 _ rfl rfl rfl (load_m1 HT.out 1 rfl) ?_;go_simp;(with_reducible refine hK _ ?_);clear hK K
 refine wpQuiet_step (fun K hK => ?_);go_simp;(with_reducible refine ⟨_,fun _ hb => (U2.out _).mono fun _ _ h => ⟨h.1,hb.trans (h.2.mono (by simpa using hb.size))⟩,hK _ ?_⟩);clear hK K
 iterate 3 (refine wpQuiet_step (fun K hK => ?_);go_simp;(first | (with_reducible refine hK _ ?_) | (with_reducible refine ⟨_,fun _ _ => rfl,hK _ ?_⟩));clear hK K)
 refine wpQuiet_step (fun K hK => ?_);refine q_load (p:=.pointer (some ⟨w.heap.size,2,none⟩)) 3 _ rfl rfl rfl (load_m1 HT.out 2 rfl) ?_;go_simp;(with_reducible refine hK _ ?_);clear hK K
 refine wpQuiet_step (fun K hK => ?_);go_simp;(first | (with_reducible refine hK _ ?_) | (with_reducible refine ⟨_,fun _ _ => rfl,hK _ ?_⟩));clear hK K
 refine wpQuiet_step (fun K hK => ?_);refine q_load (p:=.pointer (some ⟨w.heap.size,0,none⟩)) 3 _ rfl rfl rfl (load_m1 HT.out 0 rfl) ?_;go_simp;(with_reducible refine hK _ ?_);clear hK K
 refine wpQuiet_step (fun K hK => ?_);go_simp;(first | (with_reducible refine hK _ ?_) | (with_reducible refine ⟨_,fun _ _ => rfl,hK _ ?_⟩));clear hK K
 refine wpQuiet_step (fun K hK => ?_);refine q_load (p:=.pointer (some ⟨w.heap.size,1,none⟩)) 3 _ rfl rfl rfl (load_m1 HT.out 1 rfl) ?_;go_simp;(with_reducible refine hK _ ?_);clear hK K
 refine wpQuiet_step (fun K hK => ?_);go_simp;(first | (with_reducible refine ⟨_,fun _ _ => rfl,?_⟩) | skip);rw [HM.out];(with_reducible refine hK _ ?_);clear hK K
 refine wpQuiet_step (fun K hK => ?_);go_simp;(with_reducible refine ⟨_,fun _ hb => (U3.out _).mono fun _ _ h => ⟨h.1,hb.trans (h.2.mono (by simpa using hb.size))⟩,hK _ ?_⟩);clear hK K
 iterate 3 (refine wpQuiet_step (fun K hK => ?_);go_simp;(first | (with_reducible refine hK _ ?_) | (with_reducible refine ⟨_,fun _ _ => rfl,hK _ ?_⟩));clear hK K)
 refine wpQuiet_step (fun K hK => ?_);refine q_load (p:=.pointer (some ⟨w.heap.size,3,none⟩)) 3 _ rfl rfl rfl (load_m1 HT.out 3 rfl) ?_;go_simp;(with_reducible refine hK _ ?_);clear hK K
 refine wpQuiet_step (fun K hK => ?_);go_simp;(with_reducible refine ⟨_,fun _ hb => (U4.out _).mono fun _ _ h => ⟨h.1,hb.trans (h.2.mono (by simpa using hb.size))⟩,hK _ ?_⟩);clear hK K
 refine wpQuiet_step (fun K hK => ?_);go_simp;(first | (with_reducible refine hK _ ?_) | (with_reducible refine ⟨_,fun _ _ => rfl,hK _ ?_⟩));clear hK K
 refine wpQuiet_step (fun K hK => ?_);go_simp;(try (with_reducible refine ⟨_,fun _ _ => rfl,?_⟩));generalize hA : ({ tmps:=_,defers:=_ } : Act) = A;(with_reducible refine hK A ?_);clear hK K
 iterate 4 (refine wpQuiet_step (fun K hK => ?_);subst hA;go_simp;(try (with_reducible refine ⟨_,fun _ _ => rfl,?_⟩));generalize hA : ({ tmps:=_,defers:=_ } : Act) = A;(with_reducible refine hK A ?_);clear hK K)
 iterate 3 (refine wpQuiet_step (fun K hK => ?_);subst hA;go_simp;generalize hA : ({ tmps:=_,defers:=_ } : Act) = A;rw [if_neg (by simp [undef])];(with_reducible refine hK A ?_);clear hK K)
 refine wpQuiet_step (fun K hK => ?_);subst hA;go_simp;(try (with_reducible refine ⟨_,fun _ _ => rfl,?_⟩));generalize hA : ({ tmps:=_,defers:=_ } : Act) = A;(with_reducible refine hK A ?_);clear hK K
 refine wpQuiet_step (fun K hK => ?_);subst hA;go_simp;(first | (with_reducible refine hK _ ?_) | (with_reducible refine ⟨_,fun _ _ => rfl,hK _ ?_⟩));clear hK K
 refine wpQuiet_step (fun K hK => ?_);go_simp;(try (with_reducible refine ⟨_,fun _ _ => rfl,?_⟩));generalize hA : ({ tmps:=_,defers:=_ } : Act) = A;(with_reducible refine hK A ?_);clear hK K
 iterate 5 (refine wpQuiet_step (fun K hK => ?_);subst hA;go_simp;(try (with_reducible refine ⟨_,fun _ _ => rfl,?_⟩));generalize hA : ({ tmps:=_,defers:=_ } : Act) = A;(with_reducible refine hK A ?_);clear hK K)
 refine wpQuiet_step (fun K hK => ?_);subst hA;go_simp;(first | (with_reducible refine hK _ ?_) | (with_reducible refine ⟨_,fun _ _ => rfl,hK _ ?_⟩));clear hK K
 refine wpQuiet_step (fun K hK => ?_);go_simp;(first | (with_reducible refine hK _ ?_) | (with_reducible refine ⟨_,fun _ _ => rfl,hK _ ?_⟩));clear hK K
 refine wpQuiet_nil ?_
 intro w2 hb2
 go_wp2_with fail
 go_ret
 exact ⟨rfl,((Below.refl _ _).alloc (Nat.le_refl _) _).trans (hb2.mono (by simp))⟩
set_option maxHeartbeats 1000000 in
theorem rightM_5 (s : Sm) (w : World) (h1 : smUpB s.fr 3 = true) (h2 : smUpB s.to 3 = true) (h3 : smUpB s.kp (min s.fr s.to) = true) (h4 : smUpB s.ad 15 = true) (h5 : decide (0 < s.kp) = false) (h6 : (s.ad == 0) = false) : Calls Tryz.prog 86 #[s.v] w fun e w' => e = .returned (.bool false) ∧ Below w.heap.size w w':=by
 have G5:=Hd h5;have G6:=Hd h6;clear h5 h6
 have u1:=fun w => smUpTo_any s.fr 3 w
 rw [h1] at u1;clear h1
 have u2:=fun w => smUpTo_any s.to 3 w
 rw [h2] at u2;clear h2
 have u3:=fun w => smUpTo_any s.kp (if s.to < s.fr then s.to else s.fr) w
 have hm : (if s.to < s.fr then s.to else s.fr) = min s.fr s.to:=by rw [Int.min_def];split <;> split <;> omega
 rw [hm] at u3
 rw [h3] at u3;clear h3
 generalize min s.fr s.to = M at *
 have HM:=Hd hm;clear hm
 have u4:=fun w => smUpTo_any s.ad 15 w
 rw [h4] at u4;clear h4
 have U1:=Hd u1;clear u1;have U2:=Hd u2;clear u2;have U3:=Hd u3;clear u3;have U4:=Hd u4;clear u4
 have ht : HoldsM (w.alloc (.cells #[.int .i64 s.fr,.int .i64 s.to,.int .i64 s.kp,.int .i64 s.ad,.int .i64 s.t0,.int .i64 s.t1,.int .i64 s.t2] 82)) w.heap.size 82 s:=HoldsM.made w _ s
 have HT:=Hd ht;clear ht
 unfold Sm.v
 go_enter Tryz.func86,Tryz.ntmps86
 go_wp2_with fail
 refine wp_region_below (by kernel_rfl) (by kernel_rfl) ?_
 refine wpQuiet_step (fun K hK => ?_);go_simp;(first | (with_reducible refine hK _ ?_) | (with_reducible refine ⟨_,fun _ _ => rfl,hK _ ?_⟩));clear hK K
 refine wpQuiet_step (fun K hK => ?_);refine q_load (p:=.pointer (some ⟨w.heap.size,0,none⟩)) 3 _ rfl rfl rfl (load_m1 HT.out 0 rfl) ?_;go_simp;(with_reducible refine hK _ ?_);clear hK K
 refine wpQuiet_step (fun K hK => ?_);go_simp;(with_reducible refine ⟨_,fun _ hb => (U1.out _).mono fun _ _ h => ⟨h.1,hb.trans (h.2.mono (by simpa using hb.size))⟩,hK _ ?_⟩);clear hK K
 iterate 2 (refine wpQuiet_step (fun K hK => ?_);go_simp;(first | (with_reducible refine hK _ ?_) | (with_reducible refine ⟨_,fun _ _ => rfl,hK _ ?_⟩));clear hK K)
 refine wpQuiet_step (fun K hK => ?_);refine q_load (p:=.pointer (some ⟨w.heap.size,1,none⟩)) 3 _ rfl rfl rfl (load_m1 HT.out 1 rfl) ?_;go_simp;(with_reducible refine hK _ ?_);clear hK K
 refine wpQuiet_step (fun K hK => ?_);go_simp;(with_reducible refine ⟨_,fun _ hb => (U2.out _).mono fun _ _ h => ⟨h.1,hb.trans (h.2.mono (by simpa using hb.size))⟩,hK _ ?_⟩);clear hK K
 iterate 3 (refine wpQuiet_step (fun K hK => ?_);go_simp;(first | (with_reducible refine hK _ ?_) | (with_reducible refine ⟨_,fun _ _ => rfl,hK _ ?_⟩));clear hK K)
 refine wpQuiet_step (fun K hK => ?_);refine q_load (p:=.pointer (some ⟨w.heap.size,2,none⟩)) 3 _ rfl rfl rfl (load_m1 HT.out 2 rfl) ?_;go_simp;(with_reducible refine hK _ ?_);clear hK K
 refine wpQuiet_step (fun K hK => ?_);go_simp;(first | (with_reducible refine hK _ ?_) | (with_reducible refine ⟨_,fun _ _ => rfl,hK _ ?_⟩));clear hK K
 refine wpQuiet_step (fun K hK => ?_);refine q_load (p:=.pointer (some ⟨w.heap.size,0,none⟩)) 3 _ rfl rfl rfl (load_m1 HT.out 0 rfl) ?_;go_simp;(with_reducible refine hK _ ?_);clear hK K
 refine wpQuiet_step (fun K hK => ?_);go_simp;(first | (with_reducible refine hK _ ?_) | (with_reducible refine ⟨_,fun _ _ => rfl,hK _ ?_⟩));clear hK K
 refine wpQuiet_step (fun K hK => ?_);refine q_load (p:=.pointer (some ⟨w.heap.size,1,none⟩)) 3 _ rfl rfl rfl (load_m1 HT.out 1 rfl) ?_;go_simp;(with_reducible refine hK _ ?_);clear hK K
 refine wpQuiet_step (fun K hK => ?_);go_simp;(first | (with_reducible refine ⟨_,fun _ _ => rfl,?_⟩) | skip);rw [HM.out];(with_reducible refine hK _ ?_);clear hK K
 refine wpQuiet_step (fun K hK => ?_);go_simp;(with_reducible refine ⟨_,fun _ hb => (U3.out _).mono fun _ _ h => ⟨h.1,hb.trans (h.2.mono (by simpa using hb.size))⟩,hK _ ?_⟩);clear hK K
 iterate 3 (refine wpQuiet_step (fun K hK => ?_);go_simp;(first | (with_reducible refine hK _ ?_) | (with_reducible refine ⟨_,fun _ _ => rfl,hK _ ?_⟩));clear hK K)
 refine wpQuiet_step (fun K hK => ?_);refine q_load (p:=.pointer (some ⟨w.heap.size,3,none⟩)) 3 _ rfl rfl rfl (load_m1 HT.out 3 rfl) ?_;go_simp;(with_reducible refine hK _ ?_);clear hK K
 refine wpQuiet_step (fun K hK => ?_);go_simp;(with_reducible refine ⟨_,fun _ hb => (U4.out _).mono fun _ _ h => ⟨h.1,hb.trans (h.2.mono (by simpa using hb.size))⟩,hK _ ?_⟩);clear hK K
 iterate 3 (refine wpQuiet_step (fun K hK => ?_);go_simp;(first | (with_reducible refine hK _ ?_) | (with_reducible refine ⟨_,fun _ _ => rfl,hK _ ?_⟩));clear hK K)
 refine wpQuiet_step (fun K hK => ?_);refine q_load (p:=.pointer (some ⟨w.heap.size,2,none⟩)) 3 _ rfl rfl rfl (load_m1 HT.out 2 rfl) ?_;go_simp;(with_reducible refine hK _ ?_);clear hK K
 refine wpQuiet_step (fun K hK => ?_);refine q_bin _ _ _ _ _ rfl rfl rfl rfl (gtr0 G5.out) ?_;go_simp;(with_reducible refine hK _ ?_);clear hK K
 iterate 2 (refine wpQuiet_step (fun K hK => ?_);go_simp;(first | (with_reducible refine hK _ ?_) | (with_reducible refine ⟨_,fun _ _ => rfl,hK _ ?_⟩));clear hK K)
 refine wpQuiet_step (fun K hK => ?_);refine q_load (p:=.pointer (some ⟨w.heap.size,3,none⟩)) 3 _ rfl rfl rfl (load_m1 HT.out 3 rfl) ?_;go_simp;(with_reducible refine hK _ ?_);clear hK K
 refine wpQuiet_step (fun K hK => ?_);refine q_bin _ _ _ _ _ rfl rfl rfl rfl (eql0 G6.out) ?_;go_simp;(with_reducible refine hK _ ?_);clear hK K
 iterate 2 (refine wpQuiet_step (fun K hK => ?_);go_simp;(first | (with_reducible refine hK _ ?_) | (with_reducible refine ⟨_,fun _ _ => rfl,hK _ ?_⟩));clear hK K)
 refine wpQuiet_step (fun K hK => ?_);go_simp;(try (with_reducible refine ⟨_,fun _ _ => rfl,?_⟩));generalize hA : ({ tmps:=_,defers:=_ } : Act) = A;(with_reducible refine hK A ?_);clear hK K
 iterate 5 (refine wpQuiet_step (fun K hK => ?_);subst hA;go_simp;(try (with_reducible refine ⟨_,fun _ _ => rfl,?_⟩));generalize hA : ({ tmps:=_,defers:=_ } : Act) = A;(with_reducible refine hK A ?_);clear hK K)
 refine wpQuiet_step (fun K hK => ?_);subst hA;go_simp;(first | (with_reducible refine hK _ ?_) | (with_reducible refine ⟨_,fun _ _ => rfl,hK _ ?_⟩));clear hK K
 refine wpQuiet_step (fun K hK => ?_);go_simp;(first | (with_reducible refine hK _ ?_) | (with_reducible refine ⟨_,fun _ _ => rfl,hK _ ?_⟩));clear hK K
 refine wpQuiet_nil ?_
 intro w2 hb2
 go_wp2_with fail
 go_ret
 exact ⟨rfl,((Below.refl _ _).alloc (Nat.le_refl _) _).trans (hb2.mono (by simp))⟩
set_option maxHeartbeats 1000000 in
theorem rightM_6 (s : Sm) (p q r : Int) (w : World) (h1 : smUpB s.fr 3 = true) (h2 : smUpB s.to 3 = true) (h3 : smUpB s.kp (min s.fr s.to) = true) (h4 : smUpB s.ad 15 = true) (h5 : decide (0 < s.kp) = true) (hc : ∀ w,Calls Tryz.prog 149 #[s.v] w fun e w' => e = .returned (.agg #[.int .i64 p,.int .i64 q,.int .i64 r]) ∧ Below w.heap.size w w') : Calls Tryz.prog 86 #[s.v] w fun e w' => e = .returned (.bool (eqL s.t0 s.t1 s.t2 p q r)) ∧ Below w.heap.size w w':=by
 have G5:=Hd h5;clear h5
 unfold Sm.v at hc
 have HC:=Hd hc;clear hc
 have u1:=fun w => smUpTo_any s.fr 3 w
 rw [h1] at u1;clear h1
 have u2:=fun w => smUpTo_any s.to 3 w
 rw [h2] at u2;clear h2
 have u3:=fun w => smUpTo_any s.kp (if s.to < s.fr then s.to else s.fr) w
 have hm : (if s.to < s.fr then s.to else s.fr) = min s.fr s.to:=by rw [Int.min_def];split <;> split <;> omega
 rw [hm] at u3
 rw [h3] at u3;clear h3
 generalize min s.fr s.to = M at *
 have HM:=Hd hm;clear hm
 have u4:=fun w => smUpTo_any s.ad 15 w
 rw [h4] at u4;clear h4
 have U1:=Hd u1;clear u1;have U2:=Hd u2;clear u2;have U3:=Hd u3;clear u3;have U4:=Hd u4;clear u4
 have ht : HoldsM (w.alloc (.cells #[.int .i64 s.fr,.int .i64 s.to,.int .i64 s.kp,.int .i64 s.ad,.int .i64 s.t0,.int .i64 s.t1,.int .i64 s.t2] 82)) w.heap.size 82 s:=HoldsM.made w _ s
 have HT:=Hd ht;clear ht
 unfold Sm.v
 go_enter Tryz.func86,Tryz.ntmps86
 go_wp2_with fail
 refine wp_region_below (by kernel_rfl) (by kernel_rfl) ?_
 refine wpQuiet_step (fun K hK => ?_);go_simp;(first | (with_reducible refine hK _ ?_) | (with_reducible refine ⟨_,fun _ _ => rfl,hK _ ?_⟩));clear hK K
 refine wpQuiet_step (fun K hK => ?_);refine q_load (p:=.pointer (some ⟨w.heap.size,0,none⟩)) 3 _ rfl rfl rfl (load_m1 HT.out 0 rfl) ?_;go_simp;(with_reducible refine hK _ ?_);clear hK K
 refine wpQuiet_step (fun K hK => ?_);go_simp;(with_reducible refine ⟨_,fun _ hb => (U1.out _).mono fun _ _ h => ⟨h.1,hb.trans (h.2.mono (by simpa using hb.size))⟩,hK _ ?_⟩);clear hK K
 iterate 2 (refine wpQuiet_step (fun K hK => ?_);go_simp;(first | (with_reducible refine hK _ ?_) | (with_reducible refine ⟨_,fun _ _ => rfl,hK _ ?_⟩));clear hK K)
 refine wpQuiet_step (fun K hK => ?_);refine q_load (p:=.pointer (some ⟨w.heap.size,1,none⟩)) 3 _ rfl rfl rfl (load_m1 HT.out 1 rfl) ?_;go_simp;(with_reducible refine hK _ ?_);clear hK K
 refine wpQuiet_step (fun K hK => ?_);go_simp;(with_reducible refine ⟨_,fun _ hb => (U2.out _).mono fun _ _ h => ⟨h.1,hb.trans (h.2.mono (by simpa using hb.size))⟩,hK _ ?_⟩);clear hK K
 iterate 3 (refine wpQuiet_step (fun K hK => ?_);go_simp;(first | (with_reducible refine hK _ ?_) | (with_reducible refine ⟨_,fun _ _ => rfl,hK _ ?_⟩));clear hK K)
 refine wpQuiet_step (fun K hK => ?_);refine q_load (p:=.pointer (some ⟨w.heap.size,2,none⟩)) 3 _ rfl rfl rfl (load_m1 HT.out 2 rfl) ?_;go_simp;(with_reducible refine hK _ ?_);clear hK K
 refine wpQuiet_step (fun K hK => ?_);go_simp;(first | (with_reducible refine hK _ ?_) | (with_reducible refine ⟨_,fun _ _ => rfl,hK _ ?_⟩));clear hK K
 refine wpQuiet_step (fun K hK => ?_);refine q_load (p:=.pointer (some ⟨w.heap.size,0,none⟩)) 3 _ rfl rfl rfl (load_m1 HT.out 0 rfl) ?_;go_simp;(with_reducible refine hK _ ?_);clear hK K
 refine wpQuiet_step (fun K hK => ?_);go_simp;(first | (with_reducible refine hK _ ?_) | (with_reducible refine ⟨_,fun _ _ => rfl,hK _ ?_⟩));clear hK K
 refine wpQuiet_step (fun K hK => ?_);refine q_load (p:=.pointer (some ⟨w.heap.size,1,none⟩)) 3 _ rfl rfl rfl (load_m1 HT.out 1 rfl) ?_;go_simp;(with_reducible refine hK _ ?_);clear hK K
 refine wpQuiet_step (fun K hK => ?_);go_simp;(first | (with_reducible refine ⟨_,fun _ _ => rfl,?_⟩) | skip);rw [HM.out];(with_reducible refine hK _ ?_);clear hK K
 refine wpQuiet_step (fun K hK => ?_);go_simp;(with_reducible refine ⟨_,fun _ hb => (U3.out _).mono fun _ _ h => ⟨h.1,hb.trans (h.2.mono (by simpa using hb.size))⟩,hK _ ?_⟩);clear hK K
 iterate 3 (refine wpQuiet_step (fun K hK => ?_);go_simp;(first | (with_reducible refine hK _ ?_) | (with_reducible refine ⟨_,fun _ _ => rfl,hK _ ?_⟩));clear hK K)
 refine wpQuiet_step (fun K hK => ?_);refine q_load (p:=.pointer (some ⟨w.heap.size,3,none⟩)) 3 _ rfl rfl rfl (load_m1 HT.out 3 rfl) ?_;go_simp;(with_reducible refine hK _ ?_);clear hK K
 refine wpQuiet_step (fun K hK => ?_);go_simp;(with_reducible refine ⟨_,fun _ hb => (U4.out _).mono fun _ _ h => ⟨h.1,hb.trans (h.2.mono (by simpa using hb.size))⟩,hK _ ?_⟩);clear hK K
 iterate 3 (refine wpQuiet_step (fun K hK => ?_);go_simp;(first | (with_reducible refine hK _ ?_) | (with_reducible refine ⟨_,fun _ _ => rfl,hK _ ?_⟩));clear hK K)
 refine wpQuiet_step (fun K hK => ?_);refine q_load (p:=.pointer (some ⟨w.heap.size,2,none⟩)) 3 _ rfl rfl rfl (load_m1 HT.out 2 rfl) ?_;go_simp;(with_reducible refine hK _ ?_);clear hK K
 refine wpQuiet_step (fun K hK => ?_);refine q_bin _ _ _ _ _ rfl rfl rfl rfl (gtr0 G5.out) ?_;go_simp;(with_reducible refine hK _ ?_);clear hK K
 iterate 8 (refine wpQuiet_step (fun K hK => ?_);go_simp;(first | (with_reducible refine hK _ ?_) | (with_reducible refine ⟨_,fun _ _ => rfl,hK _ ?_⟩));clear hK K)
 refine wpQuiet_step (fun K hK => ?_);refine q_load (p:=.pointer (some ⟨w.heap.size,4,none⟩)) 25 _ rfl rfl rfl (load_ml HT.out) ?_;go_simp;(with_reducible refine hK _ ?_);clear hK K
 refine wpQuiet_step (fun K hK => ?_);refine q_load (p:=.pointer (some ⟨w.heap.size,0,none⟩)) 82 _ rfl rfl rfl (load_m HT.out) ?_;go_simp;(with_reducible refine hK _ ?_);clear hK K
 refine wpQuiet_step (fun K hK => ?_);go_simp;(with_reducible refine ⟨_,fun _ hb => (HC.out _).mono fun _ _ h => ⟨h.1,hb.trans (h.2.mono (by simpa using hb.size))⟩,hK _ ?_⟩);clear hK K
 refine wpQuiet_step (fun K hK => ?_);refine q_bin _ _ _ _ _ rfl rfl rfl rfl (eq_row _ _ _ _ _ _ _ _) ?_;go_simp;(with_reducible refine hK _ ?_);clear hK K
 iterate 2 (refine wpQuiet_step (fun K hK => ?_);go_simp;(first | (with_reducible refine hK _ ?_) | (with_reducible refine ⟨_,fun _ _ => rfl,hK _ ?_⟩));clear hK K)
 refine wpQuiet_nil ?_
 intro w2 hb2
 go_wp2_with fail
 go_ret
 exact ⟨rfl,((Below.refl _ _).alloc (Nat.le_refl _) _).trans (hb2.mono (by simp))⟩
set_option maxHeartbeats 1000000 in
theorem rightM_7 (s : Sm) (p q r : Int) (w : World) (h1 : smUpB s.fr 3 = true) (h2 : smUpB s.to 3 = true) (h3 : smUpB s.kp (min s.fr s.to) = true) (h4 : smUpB s.ad 15 = true) (h5 : decide (0 < s.kp) = false) (h6 : (s.ad == 0) = true) (hc : ∀ w,Calls Tryz.prog 149 #[s.v] w fun e w' => e = .returned (.agg #[.int .i64 p,.int .i64 q,.int .i64 r]) ∧ Below w.heap.size w w') : Calls Tryz.prog 86 #[s.v] w fun e w' => e = .returned (.bool (eqL s.t0 s.t1 s.t2 p q r)) ∧ Below w.heap.size w w':=by
 have G5:=Hd h5;clear h5
 have G6:=Hd h6;clear h6
 unfold Sm.v at hc
 have HC:=Hd hc;clear hc
 have u1:=fun w => smUpTo_any s.fr 3 w
 rw [h1] at u1;clear h1
 have u2:=fun w => smUpTo_any s.to 3 w
 rw [h2] at u2;clear h2
 have u3:=fun w => smUpTo_any s.kp (if s.to < s.fr then s.to else s.fr) w
 have hm : (if s.to < s.fr then s.to else s.fr) = min s.fr s.to:=by rw [Int.min_def];split <;> split <;> omega
 rw [hm] at u3
 rw [h3] at u3;clear h3
 generalize min s.fr s.to = M at *
 have HM:=Hd hm;clear hm
 have u4:=fun w => smUpTo_any s.ad 15 w
 rw [h4] at u4;clear h4
 have U1:=Hd u1;clear u1;have U2:=Hd u2;clear u2;have U3:=Hd u3;clear u3;have U4:=Hd u4;clear u4
 have ht : HoldsM (w.alloc (.cells #[.int .i64 s.fr,.int .i64 s.to,.int .i64 s.kp,.int .i64 s.ad,.int .i64 s.t0,.int .i64 s.t1,.int .i64 s.t2] 82)) w.heap.size 82 s:=HoldsM.made w _ s
 have HT:=Hd ht;clear ht
 unfold Sm.v
 go_enter Tryz.func86,Tryz.ntmps86
 go_wp2_with fail
 refine wp_region_below (by kernel_rfl) (by kernel_rfl) ?_
 refine wpQuiet_step (fun K hK => ?_);go_simp;(first | (with_reducible refine hK _ ?_) | (with_reducible refine ⟨_,fun _ _ => rfl,hK _ ?_⟩));clear hK K
 refine wpQuiet_step (fun K hK => ?_);refine q_load (p:=.pointer (some ⟨w.heap.size,0,none⟩)) 3 _ rfl rfl rfl (load_m1 HT.out 0 rfl) ?_;go_simp;(with_reducible refine hK _ ?_);clear hK K
 refine wpQuiet_step (fun K hK => ?_);go_simp;(with_reducible refine ⟨_,fun _ hb => (U1.out _).mono fun _ _ h => ⟨h.1,hb.trans (h.2.mono (by simpa using hb.size))⟩,hK _ ?_⟩);clear hK K
 iterate 2 (refine wpQuiet_step (fun K hK => ?_);go_simp;(first | (with_reducible refine hK _ ?_) | (with_reducible refine ⟨_,fun _ _ => rfl,hK _ ?_⟩));clear hK K)
 refine wpQuiet_step (fun K hK => ?_);refine q_load (p:=.pointer (some ⟨w.heap.size,1,none⟩)) 3 _ rfl rfl rfl (load_m1 HT.out 1 rfl) ?_;go_simp;(with_reducible refine hK _ ?_);clear hK K
 refine wpQuiet_step (fun K hK => ?_);go_simp;(with_reducible refine ⟨_,fun _ hb => (U2.out _).mono fun _ _ h => ⟨h.1,hb.trans (h.2.mono (by simpa using hb.size))⟩,hK _ ?_⟩);clear hK K
 iterate 3 (refine wpQuiet_step (fun K hK => ?_);go_simp;(first | (with_reducible refine hK _ ?_) | (with_reducible refine ⟨_,fun _ _ => rfl,hK _ ?_⟩));clear hK K)
 refine wpQuiet_step (fun K hK => ?_);refine q_load (p:=.pointer (some ⟨w.heap.size,2,none⟩)) 3 _ rfl rfl rfl (load_m1 HT.out 2 rfl) ?_;go_simp;(with_reducible refine hK _ ?_);clear hK K
 refine wpQuiet_step (fun K hK => ?_);go_simp;(first | (with_reducible refine hK _ ?_) | (with_reducible refine ⟨_,fun _ _ => rfl,hK _ ?_⟩));clear hK K
 refine wpQuiet_step (fun K hK => ?_);refine q_load (p:=.pointer (some ⟨w.heap.size,0,none⟩)) 3 _ rfl rfl rfl (load_m1 HT.out 0 rfl) ?_;go_simp;(with_reducible refine hK _ ?_);clear hK K
 refine wpQuiet_step (fun K hK => ?_);go_simp;(first | (with_reducible refine hK _ ?_) | (with_reducible refine ⟨_,fun _ _ => rfl,hK _ ?_⟩));clear hK K
 refine wpQuiet_step (fun K hK => ?_);refine q_load (p:=.pointer (some ⟨w.heap.size,1,none⟩)) 3 _ rfl rfl rfl (load_m1 HT.out 1 rfl) ?_;go_simp;(with_reducible refine hK _ ?_);clear hK K
 refine wpQuiet_step (fun K hK => ?_);go_simp;(first | (with_reducible refine ⟨_,fun _ _ => rfl,?_⟩) | skip);rw [HM.out];(with_reducible refine hK _ ?_);clear hK K
 refine wpQuiet_step (fun K hK => ?_);go_simp;(with_reducible refine ⟨_,fun _ hb => (U3.out _).mono fun _ _ h => ⟨h.1,hb.trans (h.2.mono (by simpa using hb.size))⟩,hK _ ?_⟩);clear hK K
 iterate 3 (refine wpQuiet_step (fun K hK => ?_);go_simp;(first | (with_reducible refine hK _ ?_) | (with_reducible refine ⟨_,fun _ _ => rfl,hK _ ?_⟩));clear hK K)
 refine wpQuiet_step (fun K hK => ?_);refine q_load (p:=.pointer (some ⟨w.heap.size,3,none⟩)) 3 _ rfl rfl rfl (load_m1 HT.out 3 rfl) ?_;go_simp;(with_reducible refine hK _ ?_);clear hK K
 refine wpQuiet_step (fun K hK => ?_);go_simp;(with_reducible refine ⟨_,fun _ hb => (U4.out _).mono fun _ _ h => ⟨h.1,hb.trans (h.2.mono (by simpa using hb.size))⟩,hK _ ?_⟩);clear hK K
 iterate 3 (refine wpQuiet_step (fun K hK => ?_);go_simp;(first | (with_reducible refine hK _ ?_) | (with_reducible refine ⟨_,fun _ _ => rfl,hK _ ?_⟩));clear hK K)
 refine wpQuiet_step (fun K hK => ?_);refine q_load (p:=.pointer (some ⟨w.heap.size,2,none⟩)) 3 _ rfl rfl rfl (load_m1 HT.out 2 rfl) ?_;go_simp;(with_reducible refine hK _ ?_);clear hK K
 refine wpQuiet_step (fun K hK => ?_);refine q_bin _ _ _ _ _ rfl rfl rfl rfl (gtr0 G5.out) ?_;go_simp;(with_reducible refine hK _ ?_);clear hK K
 iterate 2 (refine wpQuiet_step (fun K hK => ?_);go_simp;(first | (with_reducible refine hK _ ?_) | (with_reducible refine ⟨_,fun _ _ => rfl,hK _ ?_⟩));clear hK K)
 refine wpQuiet_step (fun K hK => ?_);refine q_load (p:=.pointer (some ⟨w.heap.size,3,none⟩)) 3 _ rfl rfl rfl (load_m1 HT.out 3 rfl) ?_;go_simp;(with_reducible refine hK _ ?_);clear hK K
 refine wpQuiet_step (fun K hK => ?_);refine q_bin _ _ _ _ _ rfl rfl rfl rfl (eql0 G6.out) ?_;go_simp;(with_reducible refine hK _ ?_);clear hK K
 iterate 4 (refine wpQuiet_step (fun K hK => ?_);go_simp;(first | (with_reducible refine hK _ ?_) | (with_reducible refine ⟨_,fun _ _ => rfl,hK _ ?_⟩));clear hK K)
 refine wpQuiet_step (fun K hK => ?_);refine q_load (p:=.pointer (some ⟨w.heap.size,4,none⟩)) 25 _ rfl rfl rfl (load_ml HT.out) ?_;go_simp;(with_reducible refine hK _ ?_);clear hK K
 refine wpQuiet_step (fun K hK => ?_);refine q_load (p:=.pointer (some ⟨w.heap.size,0,none⟩)) 82 _ rfl rfl rfl (load_m HT.out) ?_;go_simp;(with_reducible refine hK _ ?_);clear hK K
 refine wpQuiet_step (fun K hK => ?_);go_simp;(with_reducible refine ⟨_,fun _ hb => (HC.out _).mono fun _ _ h => ⟨h.1,hb.trans (h.2.mono (by simpa using hb.size))⟩,hK _ ?_⟩);clear hK K
 refine wpQuiet_step (fun K hK => ?_);refine q_bin _ _ _ _ _ rfl rfl rfl rfl (eq_row _ _ _ _ _ _ _ _) ?_;go_simp;(with_reducible refine hK _ ?_);clear hK K
 iterate 2 (refine wpQuiet_step (fun K hK => ?_);go_simp;(first | (with_reducible refine hK _ ?_) | (with_reducible refine ⟨_,fun _ _ => rfl,hK _ ?_⟩));clear hK K)
 refine wpQuiet_nil ?_
 intro w2 hb2
 go_wp2_with fail
 go_ret
 exact ⟨rfl,((Below.refl _ _).alloc (Nat.le_refl _) _).trans (hb2.mono (by simp))⟩
theorem rightM_any (s : Sm) (w : World) : Calls Tryz.prog 86 #[s.v] w fun e w' => e = .returned (.bool (decide s.R)) ∧ Below w.heap.size w w':=by
 by_cases h1 : smUpB s.fr 3 = true
 case neg => rw [show decide s.R = false by rw [decide_eq_false_iff_not];exact fun h => h1 (RM_up h).1];exact rightM_1 s w (Bool.eq_false_iff.2 h1)
 by_cases h2 : smUpB s.to 3 = true
 case neg => rw [show decide s.R = false by rw [decide_eq_false_iff_not];exact fun h => h2 (RM_up h).2.1];exact rightM_2 s w h1 (Bool.eq_false_iff.2 h2)
 by_cases h3 : smUpB s.kp (min s.fr s.to) = true
 case neg => rw [show decide s.R = false by rw [decide_eq_false_iff_not];exact fun h => h3 (RM_up h).2.2.1];exact rightM_3 s w h1 h2 (Bool.eq_false_iff.2 h3)
 by_cases h4 : smUpB s.ad 15 = true
 case neg => rw [show decide s.R = false by rw [decide_eq_false_iff_not];exact fun h => h4 (RM_up h).2.2.2.1];exact rightM_4 s w h1 h2 h3 (Bool.eq_false_iff.2 h4)
 have hb : (0 ≤ s.fr ∧ s.fr ≤ 3) ∧ (0 ≤ s.to ∧ s.to ≤ 3) ∧ (0 ≤ s.kp ∧ s.kp ≤ min s.fr s.to):=by
  unfold smUpB at h1 h2 h3
  simpa using And.intro h1 (And.intro h2 h3)
 obtain ⟨n,hn⟩ : ∃ n : Nat,s.to - s.kp = n:=⟨(s.to - s.kp).toNat,by have:=Int.min_def s.fr s.to;split at this <;> omega⟩
 have hc:=fun w => nearestM_any s n w hn (by omega)
 by_cases h5 : 0 < s.kp
 · rw [show decide s.R = eqL s.t0 s.t1 s.t2 (nk n 0 s.t0) (nk n 1 s.t1) (nk n 2 s.t2) from (decide_eq_decide.2 (RM_near s n hn h1 h2 h3 h4 (.inl h5))).symm]
   exact rightM_6 s _ _ _ w h1 h2 h3 h4 (by simpa using h5) hc
 · by_cases h6 : s.ad = 0
   · rw [show decide s.R = eqL s.t0 s.t1 s.t2 (nk n 0 s.t0) (nk n 1 s.t1) (nk n 2 s.t2) from (decide_eq_decide.2 (RM_near s n hn h1 h2 h3 h4 (.inr h6))).symm]
     exact rightM_7 s _ _ _ w h1 h2 h3 h4 (by simpa using h5) (by simpa using h6) hc
   · rw [show decide s.R = false by rw [decide_eq_false_iff_not];exact fun h => (RM_up h).2.2.2.2.elim h5 h6]
     exact rightM_5 s w h1 h2 h3 h4 (by simpa using h5) (by simpa using h6)
end

section
set_option maxHeartbeats 2000000 in
theorem refRightM_any (s : Sm) (w : World) : Calls Tryz.prog 116 #[s.v] w fun e w' => e = .returned (.bool (decide s.R)) ∧ Below w.heap.size w w':=by
 obtain ⟨fr,to,kp,ad,x,y,z⟩:=s
 unfold Sm.v
 simp only
 by_cases h1 : fr < 0
 case pos =>
  have hf : decide (Sm.R ⟨fr,to,kp,ad,x,y,z⟩) = false:=by rw [decide_eq_false_iff_not];unfold Sm.R;simp only;omega
  rw [hf];clear hf
  go_enter Tryz.func116,Tryz.ntmps116
  go_wp2
  go_ret
  exact ⟨rfl,(Below.refl _ _).alloc (Nat.le_refl _) _⟩
 by_cases h2 : 3 < fr
 case pos =>
  have hf : decide (Sm.R ⟨fr,to,kp,ad,x,y,z⟩) = false:=by rw [decide_eq_false_iff_not];unfold Sm.R;simp only;omega
  rw [hf];clear hf
  go_enter Tryz.func116,Tryz.ntmps116
  go_wp2
  go_ret
  exact ⟨rfl,(Below.refl _ _).alloc (Nat.le_refl _) _⟩
 by_cases h3 : to < 0
 case pos =>
  have hf : decide (Sm.R ⟨fr,to,kp,ad,x,y,z⟩) = false:=by rw [decide_eq_false_iff_not];unfold Sm.R;simp only;omega
  rw [hf];clear hf
  go_enter Tryz.func116,Tryz.ntmps116
  go_wp2
  go_ret
  exact ⟨rfl,(Below.refl _ _).alloc (Nat.le_refl _) _⟩
 by_cases h4 : 3 < to
 case pos =>
  have hf : decide (Sm.R ⟨fr,to,kp,ad,x,y,z⟩) = false:=by rw [decide_eq_false_iff_not];unfold Sm.R;simp only;omega
  rw [hf];clear hf
  go_enter Tryz.func116,Tryz.ntmps116
  go_wp2
  go_ret
  exact ⟨rfl,(Below.refl _ _).alloc (Nat.le_refl _) _⟩
 by_cases h5 : kp < 0
 case pos =>
  have hf : decide (Sm.R ⟨fr,to,kp,ad,x,y,z⟩) = false:=by rw [decide_eq_false_iff_not];unfold Sm.R;simp only;omega
  rw [hf];clear hf
  go_enter Tryz.func116,Tryz.ntmps116
  go_wp2
  go_ret
  exact ⟨rfl,(Below.refl _ _).alloc (Nat.le_refl _) _⟩
 by_cases h6 : fr < kp
 case pos =>
  have hf : decide (Sm.R ⟨fr,to,kp,ad,x,y,z⟩) = false:=by rw [decide_eq_false_iff_not];unfold Sm.R;simp only;omega
  rw [hf];clear hf
  go_enter Tryz.func116,Tryz.ntmps116
  go_wp2
  go_ret
  exact ⟨rfl,(Below.refl _ _).alloc (Nat.le_refl _) _⟩
 by_cases h7 : to < kp
 case pos =>
  have hf : decide (Sm.R ⟨fr,to,kp,ad,x,y,z⟩) = false:=by rw [decide_eq_false_iff_not];unfold Sm.R;simp only;omega
  rw [hf];clear hf
  go_enter Tryz.func116,Tryz.ntmps116
  go_wp2
  go_ret
  exact ⟨rfl,(Below.refl _ _).alloc (Nat.le_refl _) _⟩
 by_cases h8 : ad < 0
 case pos =>
  have hf : decide (Sm.R ⟨fr,to,kp,ad,x,y,z⟩) = false:=by rw [decide_eq_false_iff_not];unfold Sm.R;simp only;omega
  rw [hf];clear hf
  go_enter Tryz.func116,Tryz.ntmps116
  go_wp2
  go_ret
  exact ⟨rfl,(Below.refl _ _).alloc (Nat.le_refl _) _⟩
 by_cases h9 : 16 ≤ ad
 case pos =>
  have hf : decide (Sm.R ⟨fr,to,kp,ad,x,y,z⟩) = false:=by rw [decide_eq_false_iff_not];unfold Sm.R;simp only;omega
  rw [hf];clear hf
  go_enter Tryz.func116,Tryz.ntmps116
  go_wp2
  go_ret
  exact ⟨rfl,(Below.refl _ _).alloc (Nat.le_refl _) _⟩
 by_cases h10 : 0 < ad ∧ kp = 0
 case pos =>
  obtain ⟨h10,rfl⟩:=h10
  have hf : decide (Sm.R ⟨fr,to,0,ad,x,y,z⟩) = false:=by rw [decide_eq_false_iff_not];unfold Sm.R;simp only;intro h;have:=h.2.2.2.1.2.2 trivial;omega
  rw [hf];clear hf
  go_enter Tryz.func116,Tryz.ntmps116
  go_wp2
  go_ret
  exact ⟨rfl,(Below.refl _ _).alloc (Nat.le_refl _) _⟩
 by_cases h11 : 0 < ad
 · have h12 : ¬ kp = 0:=fun e => h10 ⟨h11,e⟩
   clear h10
   have hw:=IntWalk.i64_in (to - kp) (by omega)
   go_enter Tryz.func116,Tryz.ntmps116
   go_wp2
   go_loop [3] (fun i => ∃ k : Nat,k ≤ 3 ∧ i = .int .i64 k ∧ Ok (to - kp) x y z k) (fun i => 3 - (intOf i).toNat)
   case atStart => exact ⟨0,by omega,rfl,by unfold Ok;omega⟩
   case round =>
    obtain ⟨k,hk,rfl,hok⟩:=hrel
    have hcase : k = 0 ∨ k = 1 ∨ k = 2 ∨ k = 3:=by omega
    clear hk
    rcases hcase with rfl | rfl | rfl | rfl
    · go_wp2
      all_goals try simp only [bne_iff_ne,ne_eq,bne_eq_false_iff_eq] at *
      all_goals first
       | (go_round
          case rel => exact ⟨1,by omega,rfl,by unfold Ok at *;omega⟩
          case measure => simp [intOf])
       | (go_ret;exact ⟨ret_bool (by rw [eq_comm,decide_eq_false_iff_not];unfold Sm.R;simp only;omega),(Below.refl _ _).alloc (Nat.le_refl _) _⟩)
    · go_wp2
      all_goals try simp only [bne_iff_ne,ne_eq,bne_eq_false_iff_eq] at *
      all_goals first
       | (go_round
          case rel => exact ⟨2,by omega,rfl,by unfold Ok at *;omega⟩
          case measure => simp [intOf])
       | (go_ret;exact ⟨ret_bool (by rw [eq_comm,decide_eq_false_iff_not];unfold Sm.R;simp only;omega),(Below.refl _ _).alloc (Nat.le_refl _) _⟩)
    · go_wp2
      all_goals try simp only [bne_iff_ne,ne_eq,bne_eq_false_iff_eq] at *
      all_goals first
       | (go_round
          case rel => exact ⟨3,by omega,rfl,by unfold Ok at *;omega⟩
          case measure => simp [intOf])
       | (go_ret;exact ⟨ret_bool (by rw [eq_comm,decide_eq_false_iff_not];unfold Sm.R;simp only;omega),(Below.refl _ _).alloc (Nat.le_refl _) _⟩)
    · go_wp2
      go_ret
      exact ⟨ret_bool (by rw [eq_comm,decide_eq_true_iff];unfold Ok at hok;unfold Sm.R;simp only;omega),(Below.refl _ _).alloc (Nat.le_refl _) _⟩
 · clear h10
   have hw:=IntWalk.i64_in (to - kp) (by omega)
   go_enter Tryz.func116,Tryz.ntmps116
   go_wp2
   go_loop [3] (fun i => ∃ k : Nat,k ≤ 3 ∧ i = .int .i64 k ∧ Ok (to - kp) x y z k) (fun i => 3 - (intOf i).toNat)
   case atStart => exact ⟨0,by omega,rfl,by unfold Ok;omega⟩
   case round =>
    obtain ⟨k,hk,rfl,hok⟩:=hrel
    have hcase : k = 0 ∨ k = 1 ∨ k = 2 ∨ k = 3:=by omega
    clear hk
    rcases hcase with rfl | rfl | rfl | rfl
    · go_wp2
      all_goals try simp only [bne_iff_ne,ne_eq,bne_eq_false_iff_eq] at *
      all_goals first
       | (go_round
          case rel => exact ⟨1,by omega,rfl,by unfold Ok at *;omega⟩
          case measure => simp [intOf])
       | (go_ret;exact ⟨ret_bool (by rw [eq_comm,decide_eq_false_iff_not];unfold Sm.R;simp only;omega),(Below.refl _ _).alloc (Nat.le_refl _) _⟩)
    · go_wp2
      all_goals try simp only [bne_iff_ne,ne_eq,bne_eq_false_iff_eq] at *
      all_goals first
       | (go_round
          case rel => exact ⟨2,by omega,rfl,by unfold Ok at *;omega⟩
          case measure => simp [intOf])
       | (go_ret;exact ⟨ret_bool (by rw [eq_comm,decide_eq_false_iff_not];unfold Sm.R;simp only;omega),(Below.refl _ _).alloc (Nat.le_refl _) _⟩)
    · go_wp2
      all_goals try simp only [bne_iff_ne,ne_eq,bne_eq_false_iff_eq] at *
      all_goals first
       | (go_round
          case rel => exact ⟨3,by omega,rfl,by unfold Ok at *;omega⟩
          case measure => simp [intOf])
       | (go_ret;exact ⟨ret_bool (by rw [eq_comm,decide_eq_false_iff_not];unfold Sm.R;simp only;omega),(Below.refl _ _).alloc (Nat.le_refl _) _⟩)
    · go_wp2
      go_ret
      exact ⟨ret_bool (by rw [eq_comm,decide_eq_true_iff];unfold Ok at hok;unfold Sm.R;simp only;omega),(Below.refl _ _).alloc (Nat.le_refl _) _⟩
end

section
theorem smMade2 (w : World) (o o' : Obj) : ((w.alloc o).alloc o').heap[w.heap.size + 1]? = some o':=by
 have:=heap_alloc_new (w.alloc o) o'
 rwa [size_alloc] at this
set_option maxHeartbeats 4000000 in
theorem refAt_any (s : Sm) (i : Nat) (w : World) (hR : s.R) (hi : (i : Int) < s.to) : Calls Tryz.prog 117 #[s.v,.int .i64 i] w fun e w' => e = .returned (.agg #[.bool (decide ((i : Int) < s.kp)),.int .i64 (s.N i)]) ∧ Below w.heap.size w w':=by
 have hk : s.kp = 0 ∨ s.kp = 1 ∨ s.kp = 2 ∨ s.kp = 3:=by unfold Sm.R at hR;omega
 have hi3 : i = 0 ∨ i = 1 ∨ i = 2:=by unfold Sm.R at hR;omega
 clear hR hi
 obtain ⟨fr,to,kp,ad,x,y,z⟩:=s
 unfold Sm.v
 simp only at hk ⊢
 rcases hk with rfl | rfl | rfl | rfl <;> rcases hi3 with rfl | rfl | rfl
 all_goals
  simp only [Sm.N,Sm.tl]
  go_enter Tryz.func117,Tryz.ntmps117
  go_wp2_with fail
  refine bodyPost_ret (results_cell_row rfl _ _ (w.heap.size + 1) 161 _ (0,0) _ rfl (smMade2 _ _ _) Tryz.underlying161 rfl (by kernel_rfl)) rfl ?_
  exact ⟨rfl,((Below.refl _ _).alloc (Nat.le_refl _) _).alloc (by simp) _⟩
end
end Go.Proofs.YtonelpnhoiajgaaGreatDoor
