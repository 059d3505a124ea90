/- StampLattice: of times of one Depth joins and meets are the same in whatever order, absorb each other, and each goes through the other; for all times. -/
import Derived.Test.YtpcnnnfgopilaaaStFrame
namespace Go.Proofs.Ytpcnnnfgopilaaa
open Go.ChangeShapes Go.WideShapes Go.ChangeAt Go.RowKit Go.BigFrame
set_option linter.unusedVariables false
namespace stampLattice
set_option maxRecDepth 100000 in
set_option maxHeartbeats 4000000 in
theorem walk_first (a b c : St) (w : World) (h : ¬ a.B b) : Calls Try.prog 8 #[a.val, b.val, c.val] w fun e w' => e = .returned (.bool true) ∧ Below w.heap.size w w' := by
  have c1 := fun w => join_any a b w
  have c2 := fun w => join_any b c w
  rw [decide_eq_false h] at c1
  clear h
  generalize decide (b.B c) = B at *
  have c3 := fun w => works_any w
  generalize a.join b = J at *
  generalize b.join c = K at *
  unfold St.val at *
  have C1 := Lib.hid c1; clear c1
  have C2 := Lib.hid c2; clear c2
  have C3 := Lib.hid c3; clear c3
  have ha := Holds.made w a
  have ha := ha.alloc (.cells #[.int .i64 b.d, .int .i64 b.e, .int .i64 b.x, .int .i64 b.y, .int .i64 b.z] 24)
  have hb := Holds.made (w.alloc (.cells #[.int .i64 a.d, .int .i64 a.e, .int .i64 a.x, .int .i64 a.y, .int .i64 a.z] 24)) b
  rw [size_alloc] at hb
  have ha := ha.alloc (.cells #[.int .i64 c.d, .int .i64 c.e, .int .i64 c.x, .int .i64 c.y, .int .i64 c.z] 24)
  have hb := hb.alloc (.cells #[.int .i64 c.d, .int .i64 c.e, .int .i64 c.x, .int .i64 c.y, .int .i64 c.z] 24)
  have hc := Holds.made ((w.alloc (.cells #[.int .i64 a.d, .int .i64 a.e, .int .i64 a.x, .int .i64 a.y, .int .i64 a.z] 24)).alloc (.cells #[.int .i64 b.d, .int .i64 b.e, .int .i64 b.x, .int .i64 b.y, .int .i64 b.z] 24)) c
  rw [size_alloc, size_alloc] at hc
  have hbw : Below w.heap.size w (((w.alloc (.cells #[.int .i64 a.d, .int .i64 a.e, .int .i64 a.x, .int .i64 a.y, .int .i64 a.z] 24)).alloc (.cells #[.int .i64 b.d, .int .i64 b.e, .int .i64 b.x, .int .i64 b.y, .int .i64 b.z] 24)).alloc (.cells #[.int .i64 c.d, .int .i64 c.e, .int .i64 c.x, .int .i64 c.y, .int .i64 c.z] 24)) := (((Below.refl _ _).alloc (by simp) _).alloc (by simp) _).alloc (by simp; omega) _
  have Ha := Lib.hid ha; clear ha
  have Hb := Lib.hid hb; clear hb
  have Hc := Lib.hid hc; clear hc
  have HBW := Lib.hid hbw; clear hbw
  go_enter Try.func8, Try.ntmps8
  go_wp2_with fail
  generalize ((w.alloc (.cells #[.int .i64 a.d, .int .i64 a.e, .int .i64 a.x, .int .i64 a.y, .int .i64 a.z] 24)).alloc (.cells #[.int .i64 b.d, .int .i64 b.e, .int .i64 b.x, .int .i64 b.y, .int .i64 b.z] 24)).alloc (.cells #[.int .i64 c.d, .int .i64 c.e, .int .i64 c.x, .int .i64 c.y, .int .i64 c.z] 24) = w0 at *
  refine (C1.out _).mono ?_; rintro e v1 ⟨rfl, hbel⟩
  have ha := Ha.out.below hbel; clear Ha
  have hb := Hb.out.below hbel; clear Hb
  have hc := Hc.out.below hbel; clear Hc
  have hbw := HBW.out.trans (hbel.mono HBW.out.size); clear HBW hbel
  have Ha := Lib.hid ha; clear ha
  have Hb := Lib.hid hb; clear hb
  have Hc := Lib.hid hc; clear hc
  have HBW := Lib.hid hbw; clear hbw
  have la := Ha.out.lt
  have lb := Hb.out.lt
  have lc := Hc.out.lt
  obtain ⟨cb0, cb1, cb2, cb3, cb4⟩ := Hb.out.cells5
  obtain ⟨cc0, cc1, cc2, cc3, cc4⟩ := Hc.out.cells5
  go_wp2_with fail
  clear la lb lc cb0 cb1 cb2 cb3 cb4 cc0 cc1 cc2 cc3 cc4
  have ha := Ha.out.alloc (.cells #[.int .i64 J.d, .int .i64 J.e, .int .i64 J.x, .int .i64 J.y, .int .i64 J.z] 24); clear Ha
  have hb := Hb.out.alloc (.cells #[.int .i64 J.d, .int .i64 J.e, .int .i64 J.x, .int .i64 J.y, .int .i64 J.z] 24); clear Hb
  have hc := Hc.out.alloc (.cells #[.int .i64 J.d, .int .i64 J.e, .int .i64 J.x, .int .i64 J.y, .int .i64 J.z] 24); clear Hc
  have hj := Holds.made v1 J
  have hbw := HBW.out.alloc HBW.out.size (.cells #[.int .i64 J.d, .int .i64 J.e, .int .i64 J.x, .int .i64 J.y, .int .i64 J.z] 24); clear HBW
  generalize v1.alloc (.cells #[.int .i64 J.d, .int .i64 J.e, .int .i64 J.x, .int .i64 J.y, .int .i64 J.z] 24) = v2 at *
  generalize v1.heap.size = gj at *
  have Ha := Lib.hid ha; clear ha
  have Hb := Lib.hid hb; clear hb
  have Hc := Lib.hid hc; clear hc
  have Hj := Lib.hid hj; clear hj
  have HBW := Lib.hid hbw; clear hbw
  refine (C2.out _).mono ?_; rintro e v3 ⟨rfl, hbel⟩
  have ha := Ha.out.below hbel; clear Ha
  have hb := Hb.out.below hbel; clear Hb
  have hc := Hc.out.below hbel; clear Hc
  have hj := Hj.out.below hbel; clear Hj
  have hbw := HBW.out.trans (hbel.mono HBW.out.size); clear HBW hbel
  have Ha := Lib.hid ha; clear ha
  have Hb := Lib.hid hb; clear hb
  have Hc := Lib.hid hc; clear hc
  have Hj := Lib.hid hj; clear hj
  have HBW := Lib.hid hbw; clear hbw
  have la := Ha.out.lt
  have lb := Hb.out.lt
  have lc := Hc.out.lt
  have lj := Hj.out.lt
  go_wp2_with fail
  clear la lb lc lj
  have ha := Ha.out.alloc (.cells #[.int .i64 K.d, .int .i64 K.e, .int .i64 K.x, .int .i64 K.y, .int .i64 K.z] 24); clear Ha
  have hb := Hb.out.alloc (.cells #[.int .i64 K.d, .int .i64 K.e, .int .i64 K.x, .int .i64 K.y, .int .i64 K.z] 24); clear Hb
  have hc := Hc.out.alloc (.cells #[.int .i64 K.d, .int .i64 K.e, .int .i64 K.x, .int .i64 K.y, .int .i64 K.z] 24); clear Hc
  have hj := Hj.out.alloc (.cells #[.int .i64 K.d, .int .i64 K.e, .int .i64 K.x, .int .i64 K.y, .int .i64 K.z] 24); clear Hj
  have hk := Holds.made v3 K
  have hbw := HBW.out.alloc HBW.out.size (.cells #[.int .i64 K.d, .int .i64 K.e, .int .i64 K.x, .int .i64 K.y, .int .i64 K.z] 24); clear HBW
  generalize v3.alloc (.cells #[.int .i64 K.d, .int .i64 K.e, .int .i64 K.x, .int .i64 K.y, .int .i64 K.z] 24) = v4 at *
  generalize v3.heap.size = gk at *
  have Ha := Lib.hid ha; clear ha
  have Hb := Lib.hid hb; clear hb
  have Hc := Lib.hid hc; clear hc
  have Hj := Lib.hid hj; clear hj
  have Hk := Lib.hid hk; clear hk
  have HBW := Lib.hid hbw; clear hbw
  refine (C3.out _).mono ?_; rintro e v5 ⟨rfl, hbel⟩
  have ha := Ha.out.below hbel; clear Ha
  have hb := Hb.out.below hbel; clear Hb
  have hc := Hc.out.below hbel; clear Hc
  have hj := Hj.out.below hbel; clear Hj
  have hk := Hk.out.below hbel; clear Hk
  have hbw := HBW.out.trans (hbel.mono HBW.out.size); clear HBW hbel
  have Ha := Lib.hid ha; clear ha
  have Hb := Lib.hid hb; clear hb
  have Hc := Lib.hid hc; clear hc
  have Hj := Lib.hid hj; clear hj
  have Hk := Lib.hid hk; clear hk
  have HBW := Lib.hid hbw; clear hbw
  go_wp2_with fail
  go_ret
  exact ⟨rfl, HBW.out⟩
set_option maxRecDepth 100000 in
set_option maxHeartbeats 4000000 in
theorem walk_second (a b c : St) (w : World) (h : a.B b) (k : ¬ b.B c) : Calls Try.prog 8 #[a.val, b.val, c.val] w fun e w' => e = .returned (.bool true) ∧ Below w.heap.size w w' := by
  have c1 := fun w => join_any a b w
  have c2 := fun w => join_any b c w
  rw [decide_eq_true h] at c1
  rw [decide_eq_false k] at c2
  clear h k
  have c3 := fun w => works_any w
  generalize a.join b = J at *
  generalize b.join c = K at *
  unfold St.val at *
  have C1 := Lib.hid c1; clear c1
  have C2 := Lib.hid c2; clear c2
  have C3 := Lib.hid c3; clear c3
  have ha := Holds.made w a
  have ha := ha.alloc (.cells #[.int .i64 b.d, .int .i64 b.e, .int .i64 b.x, .int .i64 b.y, .int .i64 b.z] 24)
  have hb := Holds.made (w.alloc (.cells #[.int .i64 a.d, .int .i64 a.e, .int .i64 a.x, .int .i64 a.y, .int .i64 a.z] 24)) b
  rw [size_alloc] at hb
  have ha := ha.alloc (.cells #[.int .i64 c.d, .int .i64 c.e, .int .i64 c.x, .int .i64 c.y, .int .i64 c.z] 24)
  have hb := hb.alloc (.cells #[.int .i64 c.d, .int .i64 c.e, .int .i64 c.x, .int .i64 c.y, .int .i64 c.z] 24)
  have hc := Holds.made ((w.alloc (.cells #[.int .i64 a.d, .int .i64 a.e, .int .i64 a.x, .int .i64 a.y, .int .i64 a.z] 24)).alloc (.cells #[.int .i64 b.d, .int .i64 b.e, .int .i64 b.x, .int .i64 b.y, .int .i64 b.z] 24)) c
  rw [size_alloc, size_alloc] at hc
  have hbw : Below w.heap.size w (((w.alloc (.cells #[.int .i64 a.d, .int .i64 a.e, .int .i64 a.x, .int .i64 a.y, .int .i64 a.z] 24)).alloc (.cells #[.int .i64 b.d, .int .i64 b.e, .int .i64 b.x, .int .i64 b.y, .int .i64 b.z] 24)).alloc (.cells #[.int .i64 c.d, .int .i64 c.e, .int .i64 c.x, .int .i64 c.y, .int .i64 c.z] 24)) := (((Below.refl _ _).alloc (by simp) _).alloc (by simp) _).alloc (by simp; omega) _
  have Ha := Lib.hid ha; clear ha
  have Hb := Lib.hid hb; clear hb
  have Hc := Lib.hid hc; clear hc
  have HBW := Lib.hid hbw; clear hbw
  go_enter Try.func8, Try.ntmps8
  go_wp2_with fail
  generalize ((w.alloc (.cells #[.int .i64 a.d, .int .i64 a.e, .int .i64 a.x, .int .i64 a.y, .int .i64 a.z] 24)).alloc (.cells #[.int .i64 b.d, .int .i64 b.e, .int .i64 b.x, .int .i64 b.y, .int .i64 b.z] 24)).alloc (.cells #[.int .i64 c.d, .int .i64 c.e, .int .i64 c.x, .int .i64 c.y, .int .i64 c.z] 24) = w0 at *
  refine (C1.out _).mono ?_; rintro e v1 ⟨rfl, hbel⟩
  have ha := Ha.out.below hbel; clear Ha
  have hb := Hb.out.below hbel; clear Hb
  have hc := Hc.out.below hbel; clear Hc
  have hbw := HBW.out.trans (hbel.mono HBW.out.size); clear HBW hbel
  have Ha := Lib.hid ha; clear ha
  have Hb := Lib.hid hb; clear hb
  have Hc := Lib.hid hc; clear hc
  have HBW := Lib.hid hbw; clear hbw
  have la := Ha.out.lt
  have lb := Hb.out.lt
  have lc := Hc.out.lt
  obtain ⟨cb0, cb1, cb2, cb3, cb4⟩ := Hb.out.cells5
  obtain ⟨cc0, cc1, cc2, cc3, cc4⟩ := Hc.out.cells5
  go_wp2_with fail
  clear la lb lc cb0 cb1 cb2 cb3 cb4 cc0 cc1 cc2 cc3 cc4
  have ha := Ha.out.alloc (.cells #[.int .i64 J.d, .int .i64 J.e, .int .i64 J.x, .int .i64 J.y, .int .i64 J.z] 24); clear Ha
  have hb := Hb.out.alloc (.cells #[.int .i64 J.d, .int .i64 J.e, .int .i64 J.x, .int .i64 J.y, .int .i64 J.z] 24); clear Hb
  have hc := Hc.out.alloc (.cells #[.int .i64 J.d, .int .i64 J.e, .int .i64 J.x, .int .i64 J.y, .int .i64 J.z] 24); clear Hc
  have hj := Holds.made v1 J
  have hbw := HBW.out.alloc HBW.out.size (.cells #[.int .i64 J.d, .int .i64 J.e, .int .i64 J.x, .int .i64 J.y, .int .i64 J.z] 24); clear HBW
  generalize v1.alloc (.cells #[.int .i64 J.d, .int .i64 J.e, .int .i64 J.x, .int .i64 J.y, .int .i64 J.z] 24) = v2 at *
  generalize v1.heap.size = gj at *
  have Ha := Lib.hid ha; clear ha
  have Hb := Lib.hid hb; clear hb
  have Hc := Lib.hid hc; clear hc
  have Hj := Lib.hid hj; clear hj
  have HBW := Lib.hid hbw; clear hbw
  refine (C2.out _).mono ?_; rintro e v3 ⟨rfl, hbel⟩
  have ha := Ha.out.below hbel; clear Ha
  have hb := Hb.out.below hbel; clear Hb
  have hc := Hc.out.below hbel; clear Hc
  have hj := Hj.out.below hbel; clear Hj
  have hbw := HBW.out.trans (hbel.mono HBW.out.size); clear HBW hbel
  have Ha := Lib.hid ha; clear ha
  have Hb := Lib.hid hb; clear hb
  have Hc := Lib.hid hc; clear hc
  have Hj := Lib.hid hj; clear hj
  have HBW := Lib.hid hbw; clear hbw
  have la := Ha.out.lt
  have lb := Hb.out.lt
  have lc := Hc.out.lt
  have lj := Hj.out.lt
  go_wp2_with fail
  clear la lb lc lj
  have ha := Ha.out.alloc (.cells #[.int .i64 K.d, .int .i64 K.e, .int .i64 K.x, .int .i64 K.y, .int .i64 K.z] 24); clear Ha
  have hb := Hb.out.alloc (.cells #[.int .i64 K.d, .int .i64 K.e, .int .i64 K.x, .int .i64 K.y, .int .i64 K.z] 24); clear Hb
  have hc := Hc.out.alloc (.cells #[.int .i64 K.d, .int .i64 K.e, .int .i64 K.x, .int .i64 K.y, .int .i64 K.z] 24); clear Hc
  have hj := Hj.out.alloc (.cells #[.int .i64 K.d, .int .i64 K.e, .int .i64 K.x, .int .i64 K.y, .int .i64 K.z] 24); clear Hj
  have hk := Holds.made v3 K
  have hbw := HBW.out.alloc HBW.out.size (.cells #[.int .i64 K.d, .int .i64 K.e, .int .i64 K.x, .int .i64 K.y, .int .i64 K.z] 24); clear HBW
  generalize v3.alloc (.cells #[.int .i64 K.d, .int .i64 K.e, .int .i64 K.x, .int .i64 K.y, .int .i64 K.z] 24) = v4 at *
  generalize v3.heap.size = gk at *
  have Ha := Lib.hid ha; clear ha
  have Hb := Lib.hid hb; clear hb
  have Hc := Lib.hid hc; clear hc
  have Hj := Lib.hid hj; clear hj
  have Hk := Lib.hid hk; clear hk
  have HBW := Lib.hid hbw; clear hbw
  refine (C3.out _).mono ?_; rintro e v5 ⟨rfl, hbel⟩
  have ha := Ha.out.below hbel; clear Ha
  have hb := Hb.out.below hbel; clear Hb
  have hc := Hc.out.below hbel; clear Hc
  have hj := Hj.out.below hbel; clear Hj
  have hk := Hk.out.below hbel; clear Hk
  have hbw := HBW.out.trans (hbel.mono HBW.out.size); clear HBW hbel
  have Ha := Lib.hid ha; clear ha
  have Hb := Lib.hid hb; clear hb
  have Hc := Lib.hid hc; clear hc
  have Hj := Lib.hid hj; clear hj
  have Hk := Lib.hid hk; clear hk
  have HBW := Lib.hid hbw; clear hbw
  go_wp2_with fail
  go_ret
  exact ⟨rfl, HBW.out⟩
set_option maxRecDepth 100000 in
set_option maxHeartbeats 8000000 in
theorem walk_main (a b c : St) (w : World) (h : a.B b) (k : b.B c) : Calls Try.prog 8 #[a.val, b.val, c.val] w fun e w' => e = .returned (.bool true) ∧ Below w.heap.size w w' := by
  have c1 := fun w => join_any a b w
  have c2 := fun w => join_any b c w
  have c3 := fun w => join_any b a w
  have c4 := fun w => meet_any a b w
  have c5 := fun w => meet_any b a w
  have c6 := fun w => join_any a (a.meet b) w
  have c7 := fun w => meet_any a (a.join b) w
  have c8 := fun w => meet_any b c w
  have c9 := fun w => join_any a c w
  have c10 := fun w => join_any a (b.meet c) w
  have c11 := fun w => meet_any (a.join b) (a.join c) w
  have c12 := fun w => join_any (a.join b) c w
  have c13 := fun w => join_any a (b.join c) w
  have c14 := fun w => works_any w
  rw [decide_eq_true h] at c1
  rw [decide_eq_true k] at c2
  rw [← St.join_comm h] at c3
  rw [← St.meet_comm h] at c5
  rw [St.join_absorb h] at c6
  rw [St.meet_absorb h] at c7
  rw [← St.join_over h k] at c11
  rw [St.join_assoc h k] at c12
  generalize decide (b.B a) = b3 at *
  generalize decide (a.B b) = b4 at *
  generalize decide (a.B (a.meet b)) = b6 at *
  generalize decide (a.B (a.join b)) = b7 at *
  generalize decide (b.B c) = b8 at *
  generalize decide (a.B c) = b9 at *
  generalize decide (a.B (b.meet c)) = b10 at *
  generalize decide ((a.join b).B (a.join c)) = b11 at *
  generalize decide ((a.join b).B c) = b12 at *
  generalize decide (a.B (b.join c)) = b13 at *
  generalize a.join (b.meet c) = P at *
  generalize a.join (b.join c) = Q at *
  generalize b.join c = K at *
  generalize a.join b = J at *
  generalize a.join c = X at *
  generalize a.meet b = M at *
  generalize b.meet c = Y at *
  clear h k
  unfold St.val at *
  have e0 : ∀ w, (Op.equalIn 10000 24 (.agg #[.int .i64 J.d, .int .i64 J.e, .int .i64 J.x, .int .i64 J.y, .int .i64 J.z]) (.agg #[.int .i64 J.d, .int .i64 J.e, .int .i64 J.x, .int .i64 J.y, .int .i64 J.z])).run Try.prog w = .ok true w := fun w => by rw [run_eq5, decide_eq_true rfl]
  have HE0 := Lib.hid e0; clear e0
  have e1 : ∀ w, (Op.equalIn 10000 24 (.agg #[.int .i64 M.d, .int .i64 M.e, .int .i64 M.x, .int .i64 M.y, .int .i64 M.z]) (.agg #[.int .i64 M.d, .int .i64 M.e, .int .i64 M.x, .int .i64 M.y, .int .i64 M.z])).run Try.prog w = .ok true w := fun w => by rw [run_eq5, decide_eq_true rfl]
  have HE1 := Lib.hid e1; clear e1
  have e2 : ∀ w, (Op.equalIn 10000 24 (.agg #[.int .i64 a.d, .int .i64 a.e, .int .i64 a.x, .int .i64 a.y, .int .i64 a.z]) (.agg #[.int .i64 a.d, .int .i64 a.e, .int .i64 a.x, .int .i64 a.y, .int .i64 a.z])).run Try.prog w = .ok true w := fun w => by rw [run_eq5, decide_eq_true rfl]
  have HE2 := Lib.hid e2; clear e2
  have e3 : ∀ w, (Op.equalIn 10000 24 (.agg #[.int .i64 P.d, .int .i64 P.e, .int .i64 P.x, .int .i64 P.y, .int .i64 P.z]) (.agg #[.int .i64 P.d, .int .i64 P.e, .int .i64 P.x, .int .i64 P.y, .int .i64 P.z])).run Try.prog w = .ok true w := fun w => by rw [run_eq5, decide_eq_true rfl]
  have HE3 := Lib.hid e3; clear e3
  have e4 : ∀ w, (Op.equalIn 10000 24 (.agg #[.int .i64 Q.d, .int .i64 Q.e, .int .i64 Q.x, .int .i64 Q.y, .int .i64 Q.z]) (.agg #[.int .i64 Q.d, .int .i64 Q.e, .int .i64 Q.x, .int .i64 Q.y, .int .i64 Q.z])).run Try.prog w = .ok true w := fun w => by rw [run_eq5, decide_eq_true rfl]
  have HE4 := Lib.hid e4; clear e4
  have C15 := Lib.hid c2; have C1 := Lib.hid c1; clear c1
  have C2 := Lib.hid c2; clear c2
  have C3 := Lib.hid c3; clear c3
  have C4 := Lib.hid c4; clear c4
  have C5 := Lib.hid c5; clear c5
  have C6 := Lib.hid c6; clear c6
  have C7 := Lib.hid c7; clear c7
  have C8 := Lib.hid c8; clear c8
  have C9 := Lib.hid c9; clear c9
  have C10 := Lib.hid c10; clear c10
  have C11 := Lib.hid c11; clear c11
  have C12 := Lib.hid c12; clear c12
  have C13 := Lib.hid c13; clear c13
  have C14 := Lib.hid c14; clear c14
  have ha := Holds.made w a
  have ha := ha.alloc (.cells #[.int .i64 b.d, .int .i64 b.e, .int .i64 b.x, .int .i64 b.y, .int .i64 b.z] 24)
  have hb := Holds.made (w.alloc (.cells #[.int .i64 a.d, .int .i64 a.e, .int .i64 a.x, .int .i64 a.y, .int .i64 a.z] 24)) b
  rw [size_alloc] at hb
  have ha := ha.alloc (.cells #[.int .i64 c.d, .int .i64 c.e, .int .i64 c.x, .int .i64 c.y, .int .i64 c.z] 24)
  have hb := hb.alloc (.cells #[.int .i64 c.d, .int .i64 c.e, .int .i64 c.x, .int .i64 c.y, .int .i64 c.z] 24)
  have hc := Holds.made ((w.alloc (.cells #[.int .i64 a.d, .int .i64 a.e, .int .i64 a.x, .int .i64 a.y, .int .i64 a.z] 24)).alloc (.cells #[.int .i64 b.d, .int .i64 b.e, .int .i64 b.x, .int .i64 b.y, .int .i64 b.z] 24)) c
  rw [size_alloc, size_alloc] at hc
  have hbw : Below w.heap.size w (((w.alloc (.cells #[.int .i64 a.d, .int .i64 a.e, .int .i64 a.x, .int .i64 a.y, .int .i64 a.z] 24)).alloc (.cells #[.int .i64 b.d, .int .i64 b.e, .int .i64 b.x, .int .i64 b.y, .int .i64 b.z] 24)).alloc (.cells #[.int .i64 c.d, .int .i64 c.e, .int .i64 c.x, .int .i64 c.y, .int .i64 c.z] 24)) := (((Below.refl _ _).alloc (by simp) _).alloc (by simp) _).alloc (by simp; omega) _
  have Ha := Lib.hid ha; clear ha
  have Hb := Lib.hid hb; clear hb
  have Hc := Lib.hid hc; clear hc
  have HBW := Lib.hid hbw; clear hbw
  go_enter Try.func8, Try.ntmps8
  go_wp2_with fail
  generalize ((w.alloc (.cells #[.int .i64 a.d, .int .i64 a.e, .int .i64 a.x, .int .i64 a.y, .int .i64 a.z] 24)).alloc (.cells #[.int .i64 b.d, .int .i64 b.e, .int .i64 b.x, .int .i64 b.y, .int .i64 b.z] 24)).alloc (.cells #[.int .i64 c.d, .int .i64 c.e, .int .i64 c.x, .int .i64 c.y, .int .i64 c.z] 24) = w0 at *
  refine (C1.out _).mono ?_; rintro e v1 ⟨rfl, hbel⟩
  have ha := Ha.out.below hbel; clear Ha
  have hb := Hb.out.below hbel; clear Hb
  have hc := Hc.out.below hbel; clear Hc
  have hbw := HBW.out.trans (hbel.mono HBW.out.size); clear HBW hbel
  have Ha := Lib.hid ha; clear ha
  have Hb := Lib.hid hb; clear hb
  have Hc := Lib.hid hc; clear hc
  have HBW := Lib.hid hbw; clear hbw
  have la := Ha.out.lt
  have lb := Hb.out.lt
  have lc := Hc.out.lt
  obtain ⟨cb0, cb1, cb2, cb3, cb4⟩ := Hb.out.cells5
  obtain ⟨cc0, cc1, cc2, cc3, cc4⟩ := Hc.out.cells5
  go_wp2_with fail
  clear la lb lc cb0 cb1 cb2 cb3 cb4 cc0 cc1 cc2 cc3 cc4
  have ha := Ha.out.alloc (.cells #[.int .i64 J.d, .int .i64 J.e, .int .i64 J.x, .int .i64 J.y, .int .i64 J.z] 24); clear Ha
  have hb := Hb.out.alloc (.cells #[.int .i64 J.d, .int .i64 J.e, .int .i64 J.x, .int .i64 J.y, .int .i64 J.z] 24); clear Hb
  have hc := Hc.out.alloc (.cells #[.int .i64 J.d, .int .i64 J.e, .int .i64 J.x, .int .i64 J.y, .int .i64 J.z] 24); clear Hc
  have hbj := Holds.made v1 J
  have hbw := HBW.out.alloc HBW.out.size (.cells #[.int .i64 J.d, .int .i64 J.e, .int .i64 J.x, .int .i64 J.y, .int .i64 J.z] 24); clear HBW
  generalize v1.alloc (.cells #[.int .i64 J.d, .int .i64 J.e, .int .i64 J.x, .int .i64 J.y, .int .i64 J.z] 24) = v2 at *
  generalize v1.heap.size = gbj at *
  have Ha := Lib.hid ha; clear ha
  have Hb := Lib.hid hb; clear hb
  have Hc := Lib.hid hc; clear hc
  have Hbj := Lib.hid hbj; clear hbj
  have HBW := Lib.hid hbw; clear hbw
  refine (C2.out _).mono ?_; rintro e v3 ⟨rfl, hbel⟩
  have ha := Ha.out.below hbel; clear Ha
  have hb := Hb.out.below hbel; clear Hb
  have hc := Hc.out.below hbel; clear Hc
  have hbj := Hbj.out.below hbel; clear Hbj
  have hbw := HBW.out.trans (hbel.mono HBW.out.size); clear HBW hbel
  have Ha := Lib.hid ha; clear ha
  have Hb := Lib.hid hb; clear hb
  have Hc := Lib.hid hc; clear hc
  have Hbj := Lib.hid hbj; clear hbj
  have HBW := Lib.hid hbw; clear hbw
  have la := Ha.out.lt
  have lb := Hb.out.lt
  have lc := Hc.out.lt
  have lbj := Hbj.out.lt
  obtain ⟨ca0, ca1, ca2, ca3, ca4⟩ := Ha.out.cells5
  obtain ⟨cb0, cb1, cb2, cb3, cb4⟩ := Hb.out.cells5
  go_wp2_with fail
  clear la lb lc lbj ca0 ca1 ca2 ca3 ca4 cb0 cb1 cb2 cb3 cb4
  have ha := Ha.out.alloc (.cells #[.int .i64 K.d, .int .i64 K.e, .int .i64 K.x, .int .i64 K.y, .int .i64 K.z] 24); clear Ha
  have hb := Hb.out.alloc (.cells #[.int .i64 K.d, .int .i64 K.e, .int .i64 K.x, .int .i64 K.y, .int .i64 K.z] 24); clear Hb
  have hc := Hc.out.alloc (.cells #[.int .i64 K.d, .int .i64 K.e, .int .i64 K.x, .int .i64 K.y, .int .i64 K.z] 24); clear Hc
  have hbj := Hbj.out.alloc (.cells #[.int .i64 K.d, .int .i64 K.e, .int .i64 K.x, .int .i64 K.y, .int .i64 K.z] 24); clear Hbj
  have hbk := Holds.made v3 K
  have hbw := HBW.out.alloc HBW.out.size (.cells #[.int .i64 K.d, .int .i64 K.e, .int .i64 K.x, .int .i64 K.y, .int .i64 K.z] 24); clear HBW
  generalize v3.alloc (.cells #[.int .i64 K.d, .int .i64 K.e, .int .i64 K.x, .int .i64 K.y, .int .i64 K.z] 24) = v4 at *
  generalize v3.heap.size = gbk at *
  have Ha := Lib.hid ha; clear ha
  have Hb := Lib.hid hb; clear hb
  have Hc := Lib.hid hc; clear hc
  have Hbj := Lib.hid hbj; clear hbj
  have Hbk := Lib.hid hbk; clear hbk
  have HBW := Lib.hid hbw; clear hbw
  refine (C3.out _).mono ?_; rintro e v5 ⟨rfl, hbel⟩
  have ha := Ha.out.below hbel; clear Ha
  have hb := Hb.out.below hbel; clear Hb
  have hc := Hc.out.below hbel; clear Hc
  have hbj := Hbj.out.below hbel; clear Hbj
  have hbk := Hbk.out.below hbel; clear Hbk
  have hbw := HBW.out.trans (hbel.mono HBW.out.size); clear HBW hbel
  have Ha := Lib.hid ha; clear ha
  have Hb := Lib.hid hb; clear hb
  have Hc := Lib.hid hc; clear hc
  have Hbj := Lib.hid hbj; clear hbj
  have Hbk := Lib.hid hbk; clear hbk
  have HBW := Lib.hid hbw; clear hbw
  have la := Ha.out.lt
  have lb := Hb.out.lt
  have lc := Hc.out.lt
  have lbj := Hbj.out.lt
  have lbk := Hbk.out.lt
  obtain ⟨ca0, ca1, ca2, ca3, ca4⟩ := Ha.out.cells5
  obtain ⟨cb0, cb1, cb2, cb3, cb4⟩ := Hb.out.cells5
  go_wp2_with fail
  clear la lb lc lbj lbk ca0 ca1 ca2 ca3 ca4 cb0 cb1 cb2 cb3 cb4
  have ha := Ha.out.alloc (.cells #[.int .i64 J.d, .int .i64 J.e, .int .i64 J.x, .int .i64 J.y, .int .i64 J.z] 24); clear Ha
  have hb := Hb.out.alloc (.cells #[.int .i64 J.d, .int .i64 J.e, .int .i64 J.x, .int .i64 J.y, .int .i64 J.z] 24); clear Hb
  have hc := Hc.out.alloc (.cells #[.int .i64 J.d, .int .i64 J.e, .int .i64 J.x, .int .i64 J.y, .int .i64 J.z] 24); clear Hc
  have hbj := Hbj.out.alloc (.cells #[.int .i64 J.d, .int .i64 J.e, .int .i64 J.x, .int .i64 J.y, .int .i64 J.z] 24); clear Hbj
  have hbk := Hbk.out.alloc (.cells #[.int .i64 J.d, .int .i64 J.e, .int .i64 J.x, .int .i64 J.y, .int .i64 J.z] 24); clear Hbk
  have hbl := Holds.made v5 J
  have hbw := HBW.out.alloc HBW.out.size (.cells #[.int .i64 J.d, .int .i64 J.e, .int .i64 J.x, .int .i64 J.y, .int .i64 J.z] 24); clear HBW
  generalize v5.alloc (.cells #[.int .i64 J.d, .int .i64 J.e, .int .i64 J.x, .int .i64 J.y, .int .i64 J.z] 24) = v6 at *
  generalize v5.heap.size = gbl at *
  have Ha := Lib.hid ha; clear ha
  have Hb := Lib.hid hb; clear hb
  have Hc := Lib.hid hc; clear hc
  have Hbj := Lib.hid hbj; clear hbj
  have Hbk := Lib.hid hbk; clear hbk
  have Hbl := Lib.hid hbl; clear hbl
  have HBW := Lib.hid hbw; clear hbw
  refine (C4.out _).mono ?_; rintro e v7 ⟨rfl, hbel⟩
  have ha := Ha.out.below hbel; clear Ha
  have hb := Hb.out.below hbel; clear Hb
  have hc := Hc.out.below hbel; clear Hc
  have hbj := Hbj.out.below hbel; clear Hbj
  have hbk := Hbk.out.below hbel; clear Hbk
  have hbl := Hbl.out.below hbel; clear Hbl
  have hbw := HBW.out.trans (hbel.mono HBW.out.size); clear HBW hbel
  have Ha := Lib.hid ha; clear ha
  have Hb := Lib.hid hb; clear hb
  have Hc := Lib.hid hc; clear hc
  have Hbj := Lib.hid hbj; clear hbj
  have Hbk := Lib.hid hbk; clear hbk
  have Hbl := Lib.hid hbl; clear hbl
  have HBW := Lib.hid hbw; clear hbw
  have la := Ha.out.lt
  have lb := Hb.out.lt
  have lc := Hc.out.lt
  have lbj := Hbj.out.lt
  have lbk := Hbk.out.lt
  have lbl := Hbl.out.lt
  obtain ⟨ca0, ca1, ca2, ca3, ca4⟩ := Ha.out.cells5
  obtain ⟨cb0, cb1, cb2, cb3, cb4⟩ := Hb.out.cells5
  go_wp2_with fail
  clear la lb lc lbj lbk lbl ca0 ca1 ca2 ca3 ca4 cb0 cb1 cb2 cb3 cb4
  have ha := Ha.out.alloc (.cells #[.int .i64 M.d, .int .i64 M.e, .int .i64 M.x, .int .i64 M.y, .int .i64 M.z] 24); clear Ha
  have hb := Hb.out.alloc (.cells #[.int .i64 M.d, .int .i64 M.e, .int .i64 M.x, .int .i64 M.y, .int .i64 M.z] 24); clear Hb
  have hc := Hc.out.alloc (.cells #[.int .i64 M.d, .int .i64 M.e, .int .i64 M.x, .int .i64 M.y, .int .i64 M.z] 24); clear Hc
  have hbj := Hbj.out.alloc (.cells #[.int .i64 M.d, .int .i64 M.e, .int .i64 M.x, .int .i64 M.y, .int .i64 M.z] 24); clear Hbj
  have hbk := Hbk.out.alloc (.cells #[.int .i64 M.d, .int .i64 M.e, .int .i64 M.x, .int .i64 M.y, .int .i64 M.z] 24); clear Hbk
  have hbl := Hbl.out.alloc (.cells #[.int .i64 M.d, .int .i64 M.e, .int .i64 M.x, .int .i64 M.y, .int .i64 M.z] 24); clear Hbl
  have hbm := Holds.made v7 M
  have hbw := HBW.out.alloc HBW.out.size (.cells #[.int .i64 M.d, .int .i64 M.e, .int .i64 M.x, .int .i64 M.y, .int .i64 M.z] 24); clear HBW
  generalize v7.alloc (.cells #[.int .i64 M.d, .int .i64 M.e, .int .i64 M.x, .int .i64 M.y, .int .i64 M.z] 24) = v8 at *
  generalize v7.heap.size = gbm at *
  have Ha := Lib.hid ha; clear ha
  have Hb := Lib.hid hb; clear hb
  have Hc := Lib.hid hc; clear hc
  have Hbj := Lib.hid hbj; clear hbj
  have Hbk := Lib.hid hbk; clear hbk
  have Hbl := Lib.hid hbl; clear hbl
  have Hbm := Lib.hid hbm; clear hbm
  have HBW := Lib.hid hbw; clear hbw
  refine (C5.out _).mono ?_; rintro e v9 ⟨rfl, hbel⟩
  have ha := Ha.out.below hbel; clear Ha
  have hb := Hb.out.below hbel; clear Hb
  have hc := Hc.out.below hbel; clear Hc
  have hbj := Hbj.out.below hbel; clear Hbj
  have hbk := Hbk.out.below hbel; clear Hbk
  have hbl := Hbl.out.below hbel; clear Hbl
  have hbm := Hbm.out.below hbel; clear Hbm
  have hbw := HBW.out.trans (hbel.mono HBW.out.size); clear HBW hbel
  have Ha := Lib.hid ha; clear ha
  have Hb := Lib.hid hb; clear hb
  have Hc := Lib.hid hc; clear hc
  have Hbj := Lib.hid hbj; clear hbj
  have Hbk := Lib.hid hbk; clear hbk
  have Hbl := Lib.hid hbl; clear hbl
  have Hbm := Lib.hid hbm; clear hbm
  have HBW := Lib.hid hbw; clear hbw
  have la := Ha.out.lt
  have lb := Hb.out.lt
  have lc := Hc.out.lt
  have lbj := Hbj.out.lt
  have lbk := Hbk.out.lt
  have lbl := Hbl.out.lt
  have lbm := Hbm.out.lt
  obtain ⟨ca0, ca1, ca2, ca3, ca4⟩ := Ha.out.cells5
  obtain ⟨cbm0, cbm1, cbm2, cbm3, cbm4⟩ := Hbm.out.cells5
  go_wp2_with fail
  clear la lb lc lbj lbk lbl lbm ca0 ca1 ca2 ca3 ca4 cbm0 cbm1 cbm2 cbm3 cbm4
  have ha := Ha.out.alloc (.cells #[.int .i64 M.d, .int .i64 M.e, .int .i64 M.x, .int .i64 M.y, .int .i64 M.z] 24); clear Ha
  have hb := Hb.out.alloc (.cells #[.int .i64 M.d, .int .i64 M.e, .int .i64 M.x, .int .i64 M.y, .int .i64 M.z] 24); clear Hb
  have hc := Hc.out.alloc (.cells #[.int .i64 M.d, .int .i64 M.e, .int .i64 M.x, .int .i64 M.y, .int .i64 M.z] 24); clear Hc
  have hbj := Hbj.out.alloc (.cells #[.int .i64 M.d, .int .i64 M.e, .int .i64 M.x, .int .i64 M.y, .int .i64 M.z] 24); clear Hbj
  have hbk := Hbk.out.alloc (.cells #[.int .i64 M.d, .int .i64 M.e, .int .i64 M.x, .int .i64 M.y, .int .i64 M.z] 24); clear Hbk
  have hbl := Hbl.out.alloc (.cells #[.int .i64 M.d, .int .i64 M.e, .int .i64 M.x, .int .i64 M.y, .int .i64 M.z] 24); clear Hbl
  have hbm := Hbm.out.alloc (.cells #[.int .i64 M.d, .int .i64 M.e, .int .i64 M.x, .int .i64 M.y, .int .i64 M.z] 24); clear Hbm
  have hbn := Holds.made v9 M
  have hbw := HBW.out.alloc HBW.out.size (.cells #[.int .i64 M.d, .int .i64 M.e, .int .i64 M.x, .int .i64 M.y, .int .i64 M.z] 24); clear HBW
  generalize v9.alloc (.cells #[.int .i64 M.d, .int .i64 M.e, .int .i64 M.x, .int .i64 M.y, .int .i64 M.z] 24) = v10 at *
  generalize v9.heap.size = gbn at *
  have Ha := Lib.hid ha; clear ha
  have Hb := Lib.hid hb; clear hb
  have Hc := Lib.hid hc; clear hc
  have Hbj := Lib.hid hbj; clear hbj
  have Hbk := Lib.hid hbk; clear hbk
  have Hbl := Lib.hid hbl; clear hbl
  have Hbm := Lib.hid hbm; clear hbm
  have Hbn := Lib.hid hbn; clear hbn
  have HBW := Lib.hid hbw; clear hbw
  refine (C6.out _).mono ?_; rintro e v11 ⟨rfl, hbel⟩
  have ha := Ha.out.below hbel; clear Ha
  have hb := Hb.out.below hbel; clear Hb
  have hc := Hc.out.below hbel; clear Hc
  have hbj := Hbj.out.below hbel; clear Hbj
  have hbk := Hbk.out.below hbel; clear Hbk
  have hbl := Hbl.out.below hbel; clear Hbl
  have hbm := Hbm.out.below hbel; clear Hbm
  have hbn := Hbn.out.below hbel; clear Hbn
  have hbw := HBW.out.trans (hbel.mono HBW.out.size); clear HBW hbel
  have Ha := Lib.hid ha; clear ha
  have Hb := Lib.hid hb; clear hb
  have Hc := Lib.hid hc; clear hc
  have Hbj := Lib.hid hbj; clear hbj
  have Hbk := Lib.hid hbk; clear hbk
  have Hbl := Lib.hid hbl; clear hbl
  have Hbm := Lib.hid hbm; clear hbm
  have Hbn := Lib.hid hbn; clear hbn
  have HBW := Lib.hid hbw; clear hbw
  have la := Ha.out.lt
  have lb := Hb.out.lt
  have lc := Hc.out.lt
  have lbj := Hbj.out.lt
  have lbk := Hbk.out.lt
  have lbl := Hbl.out.lt
  have lbm := Hbm.out.lt
  have lbn := Hbn.out.lt
  obtain ⟨ca0, ca1, ca2, ca3, ca4⟩ := Ha.out.cells5
  obtain ⟨cbj0, cbj1, cbj2, cbj3, cbj4⟩ := Hbj.out.cells5
  go_wp2_with fail
  clear la lb lc lbj lbk lbl lbm lbn ca0 ca1 ca2 ca3 ca4 cbj0 cbj1 cbj2 cbj3 cbj4
  have ha := Ha.out.alloc (.cells #[.int .i64 a.d, .int .i64 a.e, .int .i64 a.x, .int .i64 a.y, .int .i64 a.z] 24); clear Ha
  have hb := Hb.out.alloc (.cells #[.int .i64 a.d, .int .i64 a.e, .int .i64 a.x, .int .i64 a.y, .int .i64 a.z] 24); clear Hb
  have hc := Hc.out.alloc (.cells #[.int .i64 a.d, .int .i64 a.e, .int .i64 a.x, .int .i64 a.y, .int .i64 a.z] 24); clear Hc
  have hbj := Hbj.out.alloc (.cells #[.int .i64 a.d, .int .i64 a.e, .int .i64 a.x, .int .i64 a.y, .int .i64 a.z] 24); clear Hbj
  have hbk := Hbk.out.alloc (.cells #[.int .i64 a.d, .int .i64 a.e, .int .i64 a.x, .int .i64 a.y, .int .i64 a.z] 24); clear Hbk
  have hbl := Hbl.out.alloc (.cells #[.int .i64 a.d, .int .i64 a.e, .int .i64 a.x, .int .i64 a.y, .int .i64 a.z] 24); clear Hbl
  have hbm := Hbm.out.alloc (.cells #[.int .i64 a.d, .int .i64 a.e, .int .i64 a.x, .int .i64 a.y, .int .i64 a.z] 24); clear Hbm
  have hbn := Hbn.out.alloc (.cells #[.int .i64 a.d, .int .i64 a.e, .int .i64 a.x, .int .i64 a.y, .int .i64 a.z] 24); clear Hbn
  have hbx := Holds.made v11 a
  have hbw := HBW.out.alloc HBW.out.size (.cells #[.int .i64 a.d, .int .i64 a.e, .int .i64 a.x, .int .i64 a.y, .int .i64 a.z] 24); clear HBW
  generalize v11.alloc (.cells #[.int .i64 a.d, .int .i64 a.e, .int .i64 a.x, .int .i64 a.y, .int .i64 a.z] 24) = v12 at *
  generalize v11.heap.size = gbx at *
  have Ha := Lib.hid ha; clear ha
  have Hb := Lib.hid hb; clear hb
  have Hc := Lib.hid hc; clear hc
  have Hbj := Lib.hid hbj; clear hbj
  have Hbk := Lib.hid hbk; clear hbk
  have Hbl := Lib.hid hbl; clear hbl
  have Hbm := Lib.hid hbm; clear hbm
  have Hbn := Lib.hid hbn; clear hbn
  have Hbx := Lib.hid hbx; clear hbx
  have HBW := Lib.hid hbw; clear hbw
  refine (C7.out _).mono ?_; rintro e v13 ⟨rfl, hbel⟩
  have ha := Ha.out.below hbel; clear Ha
  have hb := Hb.out.below hbel; clear Hb
  have hc := Hc.out.below hbel; clear Hc
  have hbj := Hbj.out.below hbel; clear Hbj
  have hbk := Hbk.out.below hbel; clear Hbk
  have hbl := Hbl.out.below hbel; clear Hbl
  have hbm := Hbm.out.below hbel; clear Hbm
  have hbn := Hbn.out.below hbel; clear Hbn
  have hbx := Hbx.out.below hbel; clear Hbx
  have hbw := HBW.out.trans (hbel.mono HBW.out.size); clear HBW hbel
  have Ha := Lib.hid ha; clear ha
  have Hb := Lib.hid hb; clear hb
  have Hc := Lib.hid hc; clear hc
  have Hbj := Lib.hid hbj; clear hbj
  have Hbk := Lib.hid hbk; clear hbk
  have Hbl := Lib.hid hbl; clear hbl
  have Hbm := Lib.hid hbm; clear hbm
  have Hbn := Lib.hid hbn; clear hbn
  have Hbx := Lib.hid hbx; clear hbx
  have HBW := Lib.hid hbw; clear hbw
  have e0 := HE0.out
  have e1 := HE1.out
  have e2 := HE2.out
  have la := Ha.out.lt
  have lb := Hb.out.lt
  have lc := Hc.out.lt
  have lbj := Hbj.out.lt
  have lbk := Hbk.out.lt
  have lbl := Hbl.out.lt
  have lbm := Hbm.out.lt
  have lbn := Hbn.out.lt
  have lbx := Hbx.out.lt
  obtain ⟨ca0, ca1, ca2, ca3, ca4⟩ := Ha.out.cells5
  obtain ⟨cb0, cb1, cb2, cb3, cb4⟩ := Hb.out.cells5
  obtain ⟨cc0, cc1, cc2, cc3, cc4⟩ := Hc.out.cells5
  obtain ⟨cbj0, cbj1, cbj2, cbj3, cbj4⟩ := Hbj.out.cells5
  obtain ⟨cbl0, cbl1, cbl2, cbl3, cbl4⟩ := Hbl.out.cells5
  obtain ⟨cbm0, cbm1, cbm2, cbm3, cbm4⟩ := Hbm.out.cells5
  obtain ⟨cbn0, cbn1, cbn2, cbn3, cbn4⟩ := Hbn.out.cells5
  obtain ⟨cbx0, cbx1, cbx2, cbx3, cbx4⟩ := Hbx.out.cells5
  go_wp2_with fail
  clear la lb lc lbj lbk lbl lbm lbn lbx ca0 ca1 ca2 ca3 ca4 cb0 cb1 cb2 cb3 cb4 cc0 cc1 cc2 cc3 cc4 cbj0 cbj1 cbj2 cbj3 cbj4 cbl0 cbl1 cbl2 cbl3 cbl4 cbm0 cbm1 cbm2 cbm3 cbm4 cbn0 cbn1 cbn2 cbn3 cbn4 cbx0 cbx1 cbx2 cbx3 cbx4
  have ha := Ha.out.alloc (.cells #[.int .i64 a.d, .int .i64 a.e, .int .i64 a.x, .int .i64 a.y, .int .i64 a.z] 24); clear Ha
  have hb := Hb.out.alloc (.cells #[.int .i64 a.d, .int .i64 a.e, .int .i64 a.x, .int .i64 a.y, .int .i64 a.z] 24); clear Hb
  have hc := Hc.out.alloc (.cells #[.int .i64 a.d, .int .i64 a.e, .int .i64 a.x, .int .i64 a.y, .int .i64 a.z] 24); clear Hc
  have hbj := Hbj.out.alloc (.cells #[.int .i64 a.d, .int .i64 a.e, .int .i64 a.x, .int .i64 a.y, .int .i64 a.z] 24); clear Hbj
  have hbk := Hbk.out.alloc (.cells #[.int .i64 a.d, .int .i64 a.e, .int .i64 a.x, .int .i64 a.y, .int .i64 a.z] 24); clear Hbk
  have hbl := Hbl.out.alloc (.cells #[.int .i64 a.d, .int .i64 a.e, .int .i64 a.x, .int .i64 a.y, .int .i64 a.z] 24); clear Hbl
  have hbm := Hbm.out.alloc (.cells #[.int .i64 a.d, .int .i64 a.e, .int .i64 a.x, .int .i64 a.y, .int .i64 a.z] 24); clear Hbm
  have hbn := Hbn.out.alloc (.cells #[.int .i64 a.d, .int .i64 a.e, .int .i64 a.x, .int .i64 a.y, .int .i64 a.z] 24); clear Hbn
  have hbx := Hbx.out.alloc (.cells #[.int .i64 a.d, .int .i64 a.e, .int .i64 a.x, .int .i64 a.y, .int .i64 a.z] 24); clear Hbx
  have hby := Holds.made v13 a
  have hbw := HBW.out.alloc HBW.out.size (.cells #[.int .i64 a.d, .int .i64 a.e, .int .i64 a.x, .int .i64 a.y, .int .i64 a.z] 24); clear HBW
  generalize v13.alloc (.cells #[.int .i64 a.d, .int .i64 a.e, .int .i64 a.x, .int .i64 a.y, .int .i64 a.z] 24) = v14 at *
  generalize v13.heap.size = gby at *
  have Ha := Lib.hid ha; clear ha
  have Hb := Lib.hid hb; clear hb
  have Hc := Lib.hid hc; clear hc
  have Hbj := Lib.hid hbj; clear hbj
  have Hbk := Lib.hid hbk; clear hbk
  have Hbl := Lib.hid hbl; clear hbl
  have Hbm := Lib.hid hbm; clear hbm
  have Hbn := Lib.hid hbn; clear hbn
  have Hbx := Lib.hid hbx; clear hbx
  have Hby := Lib.hid hby; clear hby
  have HBW := Lib.hid hbw; clear hbw
  refine (C8.out _).mono ?_; rintro e v15 ⟨rfl, hbel⟩
  have ha := Ha.out.below hbel; clear Ha
  have hb := Hb.out.below hbel; clear Hb
  have hc := Hc.out.below hbel; clear Hc
  have hbj := Hbj.out.below hbel; clear Hbj
  have hbk := Hbk.out.below hbel; clear Hbk
  have hbl := Hbl.out.below hbel; clear Hbl
  have hbm := Hbm.out.below hbel; clear Hbm
  have hbn := Hbn.out.below hbel; clear Hbn
  have hbx := Hbx.out.below hbel; clear Hbx
  have hby := Hby.out.below hbel; clear Hby
  have hbw := HBW.out.trans (hbel.mono HBW.out.size); clear HBW hbel
  have Ha := Lib.hid ha; clear ha
  have Hb := Lib.hid hb; clear hb
  have Hc := Lib.hid hc; clear hc
  have Hbj := Lib.hid hbj; clear hbj
  have Hbk := Lib.hid hbk; clear hbk
  have Hbl := Lib.hid hbl; clear hbl
  have Hbm := Lib.hid hbm; clear hbm
  have Hbn := Lib.hid hbn; clear hbn
  have Hbx := Lib.hid hbx; clear hbx
  have Hby := Lib.hid hby; clear hby
  have HBW := Lib.hid hbw; clear hbw
  clear e0 e1 e2
  have la := Ha.out.lt
  have lb := Hb.out.lt
  have lc := Hc.out.lt
  have lbj := Hbj.out.lt
  have lbk := Hbk.out.lt
  have lbl := Hbl.out.lt
  have lbm := Hbm.out.lt
  have lbn := Hbn.out.lt
  have lbx := Hbx.out.lt
  have lby := Hby.out.lt
  obtain ⟨ca0, ca1, ca2, ca3, ca4⟩ := Ha.out.cells5
  obtain ⟨cc0, cc1, cc2, cc3, cc4⟩ := Hc.out.cells5
  go_wp2_with fail
  clear la lb lc lbj lbk lbl lbm lbn lbx lby ca0 ca1 ca2 ca3 ca4 cc0 cc1 cc2 cc3 cc4
  have ha := Ha.out.alloc (.cells #[.int .i64 Y.d, .int .i64 Y.e, .int .i64 Y.x, .int .i64 Y.y, .int .i64 Y.z] 24); clear Ha
  have hb := Hb.out.alloc (.cells #[.int .i64 Y.d, .int .i64 Y.e, .int .i64 Y.x, .int .i64 Y.y, .int .i64 Y.z] 24); clear Hb
  have hc := Hc.out.alloc (.cells #[.int .i64 Y.d, .int .i64 Y.e, .int .i64 Y.x, .int .i64 Y.y, .int .i64 Y.z] 24); clear Hc
  have hbj := Hbj.out.alloc (.cells #[.int .i64 Y.d, .int .i64 Y.e, .int .i64 Y.x, .int .i64 Y.y, .int .i64 Y.z] 24); clear Hbj
  have hbk := Hbk.out.alloc (.cells #[.int .i64 Y.d, .int .i64 Y.e, .int .i64 Y.x, .int .i64 Y.y, .int .i64 Y.z] 24); clear Hbk
  have hbl := Hbl.out.alloc (.cells #[.int .i64 Y.d, .int .i64 Y.e, .int .i64 Y.x, .int .i64 Y.y, .int .i64 Y.z] 24); clear Hbl
  have hbm := Hbm.out.alloc (.cells #[.int .i64 Y.d, .int .i64 Y.e, .int .i64 Y.x, .int .i64 Y.y, .int .i64 Y.z] 24); clear Hbm
  have hbn := Hbn.out.alloc (.cells #[.int .i64 Y.d, .int .i64 Y.e, .int .i64 Y.x, .int .i64 Y.y, .int .i64 Y.z] 24); clear Hbn
  have hbx := Hbx.out.alloc (.cells #[.int .i64 Y.d, .int .i64 Y.e, .int .i64 Y.x, .int .i64 Y.y, .int .i64 Y.z] 24); clear Hbx
  have hby := Hby.out.alloc (.cells #[.int .i64 Y.d, .int .i64 Y.e, .int .i64 Y.x, .int .i64 Y.y, .int .i64 Y.z] 24); clear Hby
  have hbbc := Holds.made v15 Y
  have hbw := HBW.out.alloc HBW.out.size (.cells #[.int .i64 Y.d, .int .i64 Y.e, .int .i64 Y.x, .int .i64 Y.y, .int .i64 Y.z] 24); clear HBW
  generalize v15.alloc (.cells #[.int .i64 Y.d, .int .i64 Y.e, .int .i64 Y.x, .int .i64 Y.y, .int .i64 Y.z] 24) = v16 at *
  generalize v15.heap.size = gbbc at *
  have Ha := Lib.hid ha; clear ha
  have Hb := Lib.hid hb; clear hb
  have Hc := Lib.hid hc; clear hc
  have Hbj := Lib.hid hbj; clear hbj
  have Hbk := Lib.hid hbk; clear hbk
  have Hbl := Lib.hid hbl; clear hbl
  have Hbm := Lib.hid hbm; clear hbm
  have Hbn := Lib.hid hbn; clear hbn
  have Hbx := Lib.hid hbx; clear hbx
  have Hby := Lib.hid hby; clear hby
  have Hbbc := Lib.hid hbbc; clear hbbc
  have HBW := Lib.hid hbw; clear hbw
  refine (C9.out _).mono ?_; rintro e v17 ⟨rfl, hbel⟩
  have ha := Ha.out.below hbel; clear Ha
  have hb := Hb.out.below hbel; clear Hb
  have hc := Hc.out.below hbel; clear Hc
  have hbj := Hbj.out.below hbel; clear Hbj
  have hbk := Hbk.out.below hbel; clear Hbk
  have hbl := Hbl.out.below hbel; clear Hbl
  have hbm := Hbm.out.below hbel; clear Hbm
  have hbn := Hbn.out.below hbel; clear Hbn
  have hbx := Hbx.out.below hbel; clear Hbx
  have hby := Hby.out.below hbel; clear Hby
  have hbbc := Hbbc.out.below hbel; clear Hbbc
  have hbw := HBW.out.trans (hbel.mono HBW.out.size); clear HBW hbel
  have Ha := Lib.hid ha; clear ha
  have Hb := Lib.hid hb; clear hb
  have Hc := Lib.hid hc; clear hc
  have Hbj := Lib.hid hbj; clear hbj
  have Hbk := Lib.hid hbk; clear hbk
  have Hbl := Lib.hid hbl; clear hbl
  have Hbm := Lib.hid hbm; clear hbm
  have Hbn := Lib.hid hbn; clear hbn
  have Hbx := Lib.hid hbx; clear hbx
  have Hby := Lib.hid hby; clear hby
  have Hbbc := Lib.hid hbbc; clear hbbc
  have HBW := Lib.hid hbw; clear hbw
  have la := Ha.out.lt
  have lb := Hb.out.lt
  have lc := Hc.out.lt
  have lbj := Hbj.out.lt
  have lbk := Hbk.out.lt
  have lbl := Hbl.out.lt
  have lbm := Hbm.out.lt
  have lbn := Hbn.out.lt
  have lbx := Hbx.out.lt
  have lby := Hby.out.lt
  have lbbc := Hbbc.out.lt
  obtain ⟨ca0, ca1, ca2, ca3, ca4⟩ := Ha.out.cells5
  obtain ⟨cbbc0, cbbc1, cbbc2, cbbc3, cbbc4⟩ := Hbbc.out.cells5
  go_wp2_with fail
  clear la lb lc lbj lbk lbl lbm lbn lbx lby lbbc ca0 ca1 ca2 ca3 ca4 cbbc0 cbbc1 cbbc2 cbbc3 cbbc4
  have ha := Ha.out.alloc (.cells #[.int .i64 X.d, .int .i64 X.e, .int .i64 X.x, .int .i64 X.y, .int .i64 X.z] 24); clear Ha
  have hb := Hb.out.alloc (.cells #[.int .i64 X.d, .int .i64 X.e, .int .i64 X.x, .int .i64 X.y, .int .i64 X.z] 24); clear Hb
  have hc := Hc.out.alloc (.cells #[.int .i64 X.d, .int .i64 X.e, .int .i64 X.x, .int .i64 X.y, .int .i64 X.z] 24); clear Hc
  have hbj := Hbj.out.alloc (.cells #[.int .i64 X.d, .int .i64 X.e, .int .i64 X.x, .int .i64 X.y, .int .i64 X.z] 24); clear Hbj
  have hbk := Hbk.out.alloc (.cells #[.int .i64 X.d, .int .i64 X.e, .int .i64 X.x, .int .i64 X.y, .int .i64 X.z] 24); clear Hbk
  have hbl := Hbl.out.alloc (.cells #[.int .i64 X.d, .int .i64 X.e, .int .i64 X.x, .int .i64 X.y, .int .i64 X.z] 24); clear Hbl
  have hbm := Hbm.out.alloc (.cells #[.int .i64 X.d, .int .i64 X.e, .int .i64 X.x, .int .i64 X.y, .int .i64 X.z] 24); clear Hbm
  have hbn := Hbn.out.alloc (.cells #[.int .i64 X.d, .int .i64 X.e, .int .i64 X.x, .int .i64 X.y, .int .i64 X.z] 24); clear Hbn
  have hbx := Hbx.out.alloc (.cells #[.int .i64 X.d, .int .i64 X.e, .int .i64 X.x, .int .i64 X.y, .int .i64 X.z] 24); clear Hbx
  have hby := Hby.out.alloc (.cells #[.int .i64 X.d, .int .i64 X.e, .int .i64 X.x, .int .i64 X.y, .int .i64 X.z] 24); clear Hby
  have hbbc := Hbbc.out.alloc (.cells #[.int .i64 X.d, .int .i64 X.e, .int .i64 X.x, .int .i64 X.y, .int .i64 X.z] 24); clear Hbbc
  have hbac := Holds.made v17 X
  have hbw := HBW.out.alloc HBW.out.size (.cells #[.int .i64 X.d, .int .i64 X.e, .int .i64 X.x, .int .i64 X.y, .int .i64 X.z] 24); clear HBW
  generalize v17.alloc (.cells #[.int .i64 X.d, .int .i64 X.e, .int .i64 X.x, .int .i64 X.y, .int .i64 X.z] 24) = v18 at *
  generalize v17.heap.size = gbac at *
  have Ha := Lib.hid ha; clear ha
  have Hb := Lib.hid hb; clear hb
  have Hc := Lib.hid hc; clear hc
  have Hbj := Lib.hid hbj; clear hbj
  have Hbk := Lib.hid hbk; clear hbk
  have Hbl := Lib.hid hbl; clear hbl
  have Hbm := Lib.hid hbm; clear hbm
  have Hbn := Lib.hid hbn; clear hbn
  have Hbx := Lib.hid hbx; clear hbx
  have Hby := Lib.hid hby; clear hby
  have Hbbc := Lib.hid hbbc; clear hbbc
  have Hbac := Lib.hid hbac; clear hbac
  have HBW := Lib.hid hbw; clear hbw
  refine (C10.out _).mono ?_; rintro e v19 ⟨rfl, hbel⟩
  have ha := Ha.out.below hbel; clear Ha
  have hb := Hb.out.below hbel; clear Hb
  have hc := Hc.out.below hbel; clear Hc
  have hbj := Hbj.out.below hbel; clear Hbj
  have hbk := Hbk.out.below hbel; clear Hbk
  have hbl := Hbl.out.below hbel; clear Hbl
  have hbm := Hbm.out.below hbel; clear Hbm
  have hbn := Hbn.out.below hbel; clear Hbn
  have hbx := Hbx.out.below hbel; clear Hbx
  have hby := Hby.out.below hbel; clear Hby
  have hbbc := Hbbc.out.below hbel; clear Hbbc
  have hbac := Hbac.out.below hbel; clear Hbac
  have hbw := HBW.out.trans (hbel.mono HBW.out.size); clear HBW hbel
  have Ha := Lib.hid ha; clear ha
  have Hb := Lib.hid hb; clear hb
  have Hc := Lib.hid hc; clear hc
  have Hbj := Lib.hid hbj; clear hbj
  have Hbk := Lib.hid hbk; clear hbk
  have Hbl := Lib.hid hbl; clear hbl
  have Hbm := Lib.hid hbm; clear hbm
  have Hbn := Lib.hid hbn; clear hbn
  have Hbx := Lib.hid hbx; clear hbx
  have Hby := Lib.hid hby; clear hby
  have Hbbc := Lib.hid hbbc; clear hbbc
  have Hbac := Lib.hid hbac; clear hbac
  have HBW := Lib.hid hbw; clear hbw
  have la := Ha.out.lt
  have lb := Hb.out.lt
  have lc := Hc.out.lt
  have lbj := Hbj.out.lt
  have lbk := Hbk.out.lt
  have lbl := Hbl.out.lt
  have lbm := Hbm.out.lt
  have lbn := Hbn.out.lt
  have lbx := Hbx.out.lt
  have lby := Hby.out.lt
  have lbbc := Hbbc.out.lt
  have lbac := Hbac.out.lt
  obtain ⟨cbj0, cbj1, cbj2, cbj3, cbj4⟩ := Hbj.out.cells5
  obtain ⟨cbac0, cbac1, cbac2, cbac3, cbac4⟩ := Hbac.out.cells5
  go_wp2_with fail
  clear la lb lc lbj lbk lbl lbm lbn lbx lby lbbc lbac cbj0 cbj1 cbj2 cbj3 cbj4 cbac0 cbac1 cbac2 cbac3 cbac4
  have ha := Ha.out.alloc (.cells #[.int .i64 P.d, .int .i64 P.e, .int .i64 P.x, .int .i64 P.y, .int .i64 P.z] 24); clear Ha
  have hb := Hb.out.alloc (.cells #[.int .i64 P.d, .int .i64 P.e, .int .i64 P.x, .int .i64 P.y, .int .i64 P.z] 24); clear Hb
  have hc := Hc.out.alloc (.cells #[.int .i64 P.d, .int .i64 P.e, .int .i64 P.x, .int .i64 P.y, .int .i64 P.z] 24); clear Hc
  have hbj := Hbj.out.alloc (.cells #[.int .i64 P.d, .int .i64 P.e, .int .i64 P.x, .int .i64 P.y, .int .i64 P.z] 24); clear Hbj
  have hbk := Hbk.out.alloc (.cells #[.int .i64 P.d, .int .i64 P.e, .int .i64 P.x, .int .i64 P.y, .int .i64 P.z] 24); clear Hbk
  have hbl := Hbl.out.alloc (.cells #[.int .i64 P.d, .int .i64 P.e, .int .i64 P.x, .int .i64 P.y, .int .i64 P.z] 24); clear Hbl
  have hbm := Hbm.out.alloc (.cells #[.int .i64 P.d, .int .i64 P.e, .int .i64 P.x, .int .i64 P.y, .int .i64 P.z] 24); clear Hbm
  have hbn := Hbn.out.alloc (.cells #[.int .i64 P.d, .int .i64 P.e, .int .i64 P.x, .int .i64 P.y, .int .i64 P.z] 24); clear Hbn
  have hbx := Hbx.out.alloc (.cells #[.int .i64 P.d, .int .i64 P.e, .int .i64 P.x, .int .i64 P.y, .int .i64 P.z] 24); clear Hbx
  have hby := Hby.out.alloc (.cells #[.int .i64 P.d, .int .i64 P.e, .int .i64 P.x, .int .i64 P.y, .int .i64 P.z] 24); clear Hby
  have hbbc := Hbbc.out.alloc (.cells #[.int .i64 P.d, .int .i64 P.e, .int .i64 P.x, .int .i64 P.y, .int .i64 P.z] 24); clear Hbbc
  have hbac := Hbac.out.alloc (.cells #[.int .i64 P.d, .int .i64 P.e, .int .i64 P.x, .int .i64 P.y, .int .i64 P.z] 24); clear Hbac
  have hbp := Holds.made v19 P
  have hbw := HBW.out.alloc HBW.out.size (.cells #[.int .i64 P.d, .int .i64 P.e, .int .i64 P.x, .int .i64 P.y, .int .i64 P.z] 24); clear HBW
  generalize v19.alloc (.cells #[.int .i64 P.d, .int .i64 P.e, .int .i64 P.x, .int .i64 P.y, .int .i64 P.z] 24) = v20 at *
  generalize v19.heap.size = gbp at *
  have Ha := Lib.hid ha; clear ha
  have Hb := Lib.hid hb; clear hb
  have Hc := Lib.hid hc; clear hc
  have Hbj := Lib.hid hbj; clear hbj
  have Hbk := Lib.hid hbk; clear hbk
  have Hbl := Lib.hid hbl; clear hbl
  have Hbm := Lib.hid hbm; clear hbm
  have Hbn := Lib.hid hbn; clear hbn
  have Hbx := Lib.hid hbx; clear hbx
  have Hby := Lib.hid hby; clear hby
  have Hbbc := Lib.hid hbbc; clear hbbc
  have Hbac := Lib.hid hbac; clear hbac
  have Hbp := Lib.hid hbp; clear hbp
  have HBW := Lib.hid hbw; clear hbw
  refine (C11.out _).mono ?_; rintro e v21 ⟨rfl, hbel⟩
  have ha := Ha.out.below hbel; clear Ha
  have hb := Hb.out.below hbel; clear Hb
  have hc := Hc.out.below hbel; clear Hc
  have hbj := Hbj.out.below hbel; clear Hbj
  have hbk := Hbk.out.below hbel; clear Hbk
  have hbl := Hbl.out.below hbel; clear Hbl
  have hbm := Hbm.out.below hbel; clear Hbm
  have hbn := Hbn.out.below hbel; clear Hbn
  have hbx := Hbx.out.below hbel; clear Hbx
  have hby := Hby.out.below hbel; clear Hby
  have hbbc := Hbbc.out.below hbel; clear Hbbc
  have hbac := Hbac.out.below hbel; clear Hbac
  have hbp := Hbp.out.below hbel; clear Hbp
  have hbw := HBW.out.trans (hbel.mono HBW.out.size); clear HBW hbel
  have Ha := Lib.hid ha; clear ha
  have Hb := Lib.hid hb; clear hb
  have Hc := Lib.hid hc; clear hc
  have Hbj := Lib.hid hbj; clear hbj
  have Hbk := Lib.hid hbk; clear hbk
  have Hbl := Lib.hid hbl; clear hbl
  have Hbm := Lib.hid hbm; clear hbm
  have Hbn := Lib.hid hbn; clear hbn
  have Hbx := Lib.hid hbx; clear hbx
  have Hby := Lib.hid hby; clear hby
  have Hbbc := Lib.hid hbbc; clear hbbc
  have Hbac := Lib.hid hbac; clear hbac
  have Hbp := Lib.hid hbp; clear hbp
  have HBW := Lib.hid hbw; clear hbw
  have la := Ha.out.lt
  have lb := Hb.out.lt
  have lc := Hc.out.lt
  have lbj := Hbj.out.lt
  have lbk := Hbk.out.lt
  have lbl := Hbl.out.lt
  have lbm := Hbm.out.lt
  have lbn := Hbn.out.lt
  have lbx := Hbx.out.lt
  have lby := Hby.out.lt
  have lbbc := Hbbc.out.lt
  have lbac := Hbac.out.lt
  have lbp := Hbp.out.lt
  obtain ⟨cbj0, cbj1, cbj2, cbj3, cbj4⟩ := Hbj.out.cells5
  obtain ⟨cc0, cc1, cc2, cc3, cc4⟩ := Hc.out.cells5
  go_wp2_with fail
  clear la lb lc lbj lbk lbl lbm lbn lbx lby lbbc lbac lbp cbj0 cbj1 cbj2 cbj3 cbj4 cc0 cc1 cc2 cc3 cc4
  have ha := Ha.out.alloc (.cells #[.int .i64 P.d, .int .i64 P.e, .int .i64 P.x, .int .i64 P.y, .int .i64 P.z] 24); clear Ha
  have hb := Hb.out.alloc (.cells #[.int .i64 P.d, .int .i64 P.e, .int .i64 P.x, .int .i64 P.y, .int .i64 P.z] 24); clear Hb
  have hc := Hc.out.alloc (.cells #[.int .i64 P.d, .int .i64 P.e, .int .i64 P.x, .int .i64 P.y, .int .i64 P.z] 24); clear Hc
  have hbj := Hbj.out.alloc (.cells #[.int .i64 P.d, .int .i64 P.e, .int .i64 P.x, .int .i64 P.y, .int .i64 P.z] 24); clear Hbj
  have hbk := Hbk.out.alloc (.cells #[.int .i64 P.d, .int .i64 P.e, .int .i64 P.x, .int .i64 P.y, .int .i64 P.z] 24); clear Hbk
  have hbl := Hbl.out.alloc (.cells #[.int .i64 P.d, .int .i64 P.e, .int .i64 P.x, .int .i64 P.y, .int .i64 P.z] 24); clear Hbl
  have hbm := Hbm.out.alloc (.cells #[.int .i64 P.d, .int .i64 P.e, .int .i64 P.x, .int .i64 P.y, .int .i64 P.z] 24); clear Hbm
  have hbn := Hbn.out.alloc (.cells #[.int .i64 P.d, .int .i64 P.e, .int .i64 P.x, .int .i64 P.y, .int .i64 P.z] 24); clear Hbn
  have hbx := Hbx.out.alloc (.cells #[.int .i64 P.d, .int .i64 P.e, .int .i64 P.x, .int .i64 P.y, .int .i64 P.z] 24); clear Hbx
  have hby := Hby.out.alloc (.cells #[.int .i64 P.d, .int .i64 P.e, .int .i64 P.x, .int .i64 P.y, .int .i64 P.z] 24); clear Hby
  have hbbc := Hbbc.out.alloc (.cells #[.int .i64 P.d, .int .i64 P.e, .int .i64 P.x, .int .i64 P.y, .int .i64 P.z] 24); clear Hbbc
  have hbac := Hbac.out.alloc (.cells #[.int .i64 P.d, .int .i64 P.e, .int .i64 P.x, .int .i64 P.y, .int .i64 P.z] 24); clear Hbac
  have hbp := Hbp.out.alloc (.cells #[.int .i64 P.d, .int .i64 P.e, .int .i64 P.x, .int .i64 P.y, .int .i64 P.z] 24); clear Hbp
  have hbq := Holds.made v21 P
  have hbw := HBW.out.alloc HBW.out.size (.cells #[.int .i64 P.d, .int .i64 P.e, .int .i64 P.x, .int .i64 P.y, .int .i64 P.z] 24); clear HBW
  generalize v21.alloc (.cells #[.int .i64 P.d, .int .i64 P.e, .int .i64 P.x, .int .i64 P.y, .int .i64 P.z] 24) = v22 at *
  generalize v21.heap.size = gbq at *
  have Ha := Lib.hid ha; clear ha
  have Hb := Lib.hid hb; clear hb
  have Hc := Lib.hid hc; clear hc
  have Hbj := Lib.hid hbj; clear hbj
  have Hbk := Lib.hid hbk; clear hbk
  have Hbl := Lib.hid hbl; clear hbl
  have Hbm := Lib.hid hbm; clear hbm
  have Hbn := Lib.hid hbn; clear hbn
  have Hbx := Lib.hid hbx; clear hbx
  have Hby := Lib.hid hby; clear hby
  have Hbbc := Lib.hid hbbc; clear hbbc
  have Hbac := Lib.hid hbac; clear hbac
  have Hbp := Lib.hid hbp; clear hbp
  have Hbq := Lib.hid hbq; clear hbq
  have HBW := Lib.hid hbw; clear hbw
  refine (C12.out _).mono ?_; rintro e v23 ⟨rfl, hbel⟩
  have ha := Ha.out.below hbel; clear Ha
  have hb := Hb.out.below hbel; clear Hb
  have hc := Hc.out.below hbel; clear Hc
  have hbj := Hbj.out.below hbel; clear Hbj
  have hbk := Hbk.out.below hbel; clear Hbk
  have hbl := Hbl.out.below hbel; clear Hbl
  have hbm := Hbm.out.below hbel; clear Hbm
  have hbn := Hbn.out.below hbel; clear Hbn
  have hbx := Hbx.out.below hbel; clear Hbx
  have hby := Hby.out.below hbel; clear Hby
  have hbbc := Hbbc.out.below hbel; clear Hbbc
  have hbac := Hbac.out.below hbel; clear Hbac
  have hbp := Hbp.out.below hbel; clear Hbp
  have hbq := Hbq.out.below hbel; clear Hbq
  have hbw := HBW.out.trans (hbel.mono HBW.out.size); clear HBW hbel
  have Ha := Lib.hid ha; clear ha
  have Hb := Lib.hid hb; clear hb
  have Hc := Lib.hid hc; clear hc
  have Hbj := Lib.hid hbj; clear hbj
  have Hbk := Lib.hid hbk; clear hbk
  have Hbl := Lib.hid hbl; clear hbl
  have Hbm := Lib.hid hbm; clear hbm
  have Hbn := Lib.hid hbn; clear hbn
  have Hbx := Lib.hid hbx; clear hbx
  have Hby := Lib.hid hby; clear hby
  have Hbbc := Lib.hid hbbc; clear hbbc
  have Hbac := Lib.hid hbac; clear hbac
  have Hbp := Lib.hid hbp; clear hbp
  have Hbq := Lib.hid hbq; clear hbq
  have HBW := Lib.hid hbw; clear hbw
  have la := Ha.out.lt
  have lb := Hb.out.lt
  have lc := Hc.out.lt
  have lbj := Hbj.out.lt
  have lbk := Hbk.out.lt
  have lbl := Hbl.out.lt
  have lbm := Hbm.out.lt
  have lbn := Hbn.out.lt
  have lbx := Hbx.out.lt
  have lby := Hby.out.lt
  have lbbc := Hbbc.out.lt
  have lbac := Hbac.out.lt
  have lbp := Hbp.out.lt
  have lbq := Hbq.out.lt
  obtain ⟨cb0, cb1, cb2, cb3, cb4⟩ := Hb.out.cells5
  obtain ⟨cc0, cc1, cc2, cc3, cc4⟩ := Hc.out.cells5
  go_wp2_with fail
  clear la lb lc lbj lbk lbl lbm lbn lbx lby lbbc lbac lbp lbq cb0 cb1 cb2 cb3 cb4 cc0 cc1 cc2 cc3 cc4
  have ha := Ha.out.alloc (.cells #[.int .i64 Q.d, .int .i64 Q.e, .int .i64 Q.x, .int .i64 Q.y, .int .i64 Q.z] 24); clear Ha
  have hb := Hb.out.alloc (.cells #[.int .i64 Q.d, .int .i64 Q.e, .int .i64 Q.x, .int .i64 Q.y, .int .i64 Q.z] 24); clear Hb
  have hc := Hc.out.alloc (.cells #[.int .i64 Q.d, .int .i64 Q.e, .int .i64 Q.x, .int .i64 Q.y, .int .i64 Q.z] 24); clear Hc
  have hbj := Hbj.out.alloc (.cells #[.int .i64 Q.d, .int .i64 Q.e, .int .i64 Q.x, .int .i64 Q.y, .int .i64 Q.z] 24); clear Hbj
  have hbk := Hbk.out.alloc (.cells #[.int .i64 Q.d, .int .i64 Q.e, .int .i64 Q.x, .int .i64 Q.y, .int .i64 Q.z] 24); clear Hbk
  have hbl := Hbl.out.alloc (.cells #[.int .i64 Q.d, .int .i64 Q.e, .int .i64 Q.x, .int .i64 Q.y, .int .i64 Q.z] 24); clear Hbl
  have hbm := Hbm.out.alloc (.cells #[.int .i64 Q.d, .int .i64 Q.e, .int .i64 Q.x, .int .i64 Q.y, .int .i64 Q.z] 24); clear Hbm
  have hbn := Hbn.out.alloc (.cells #[.int .i64 Q.d, .int .i64 Q.e, .int .i64 Q.x, .int .i64 Q.y, .int .i64 Q.z] 24); clear Hbn
  have hbx := Hbx.out.alloc (.cells #[.int .i64 Q.d, .int .i64 Q.e, .int .i64 Q.x, .int .i64 Q.y, .int .i64 Q.z] 24); clear Hbx
  have hby := Hby.out.alloc (.cells #[.int .i64 Q.d, .int .i64 Q.e, .int .i64 Q.x, .int .i64 Q.y, .int .i64 Q.z] 24); clear Hby
  have hbbc := Hbbc.out.alloc (.cells #[.int .i64 Q.d, .int .i64 Q.e, .int .i64 Q.x, .int .i64 Q.y, .int .i64 Q.z] 24); clear Hbbc
  have hbac := Hbac.out.alloc (.cells #[.int .i64 Q.d, .int .i64 Q.e, .int .i64 Q.x, .int .i64 Q.y, .int .i64 Q.z] 24); clear Hbac
  have hbp := Hbp.out.alloc (.cells #[.int .i64 Q.d, .int .i64 Q.e, .int .i64 Q.x, .int .i64 Q.y, .int .i64 Q.z] 24); clear Hbp
  have hbq := Hbq.out.alloc (.cells #[.int .i64 Q.d, .int .i64 Q.e, .int .i64 Q.x, .int .i64 Q.y, .int .i64 Q.z] 24); clear Hbq
  have hbjc := Holds.made v23 Q
  have hbw := HBW.out.alloc HBW.out.size (.cells #[.int .i64 Q.d, .int .i64 Q.e, .int .i64 Q.x, .int .i64 Q.y, .int .i64 Q.z] 24); clear HBW
  generalize v23.alloc (.cells #[.int .i64 Q.d, .int .i64 Q.e, .int .i64 Q.x, .int .i64 Q.y, .int .i64 Q.z] 24) = v24 at *
  generalize v23.heap.size = gbjc at *
  have Ha := Lib.hid ha; clear ha
  have Hb := Lib.hid hb; clear hb
  have Hc := Lib.hid hc; clear hc
  have Hbj := Lib.hid hbj; clear hbj
  have Hbk := Lib.hid hbk; clear hbk
  have Hbl := Lib.hid hbl; clear hbl
  have Hbm := Lib.hid hbm; clear hbm
  have Hbn := Lib.hid hbn; clear hbn
  have Hbx := Lib.hid hbx; clear hbx
  have Hby := Lib.hid hby; clear hby
  have Hbbc := Lib.hid hbbc; clear hbbc
  have Hbac := Lib.hid hbac; clear hbac
  have Hbp := Lib.hid hbp; clear hbp
  have Hbq := Lib.hid hbq; clear hbq
  have Hbjc := Lib.hid hbjc; clear hbjc
  have HBW := Lib.hid hbw; clear hbw
  refine (C15.out _).mono ?_; rintro e v25 ⟨rfl, hbel⟩
  have ha := Ha.out.below hbel; clear Ha
  have hb := Hb.out.below hbel; clear Hb
  have hc := Hc.out.below hbel; clear Hc
  have hbj := Hbj.out.below hbel; clear Hbj
  have hbk := Hbk.out.below hbel; clear Hbk
  have hbl := Hbl.out.below hbel; clear Hbl
  have hbm := Hbm.out.below hbel; clear Hbm
  have hbn := Hbn.out.below hbel; clear Hbn
  have hbx := Hbx.out.below hbel; clear Hbx
  have hby := Hby.out.below hbel; clear Hby
  have hbbc := Hbbc.out.below hbel; clear Hbbc
  have hbac := Hbac.out.below hbel; clear Hbac
  have hbp := Hbp.out.below hbel; clear Hbp
  have hbq := Hbq.out.below hbel; clear Hbq
  have hbjc := Hbjc.out.below hbel; clear Hbjc
  have hbw := HBW.out.trans (hbel.mono HBW.out.size); clear HBW hbel
  have Ha := Lib.hid ha; clear ha
  have Hb := Lib.hid hb; clear hb
  have Hc := Lib.hid hc; clear hc
  have Hbj := Lib.hid hbj; clear hbj
  have Hbk := Lib.hid hbk; clear hbk
  have Hbl := Lib.hid hbl; clear hbl
  have Hbm := Lib.hid hbm; clear hbm
  have Hbn := Lib.hid hbn; clear hbn
  have Hbx := Lib.hid hbx; clear hbx
  have Hby := Lib.hid hby; clear hby
  have Hbbc := Lib.hid hbbc; clear hbbc
  have Hbac := Lib.hid hbac; clear hbac
  have Hbp := Lib.hid hbp; clear hbp
  have Hbq := Lib.hid hbq; clear hbq
  have Hbjc := Lib.hid hbjc; clear hbjc
  have HBW := Lib.hid hbw; clear hbw
  have la := Ha.out.lt
  have lb := Hb.out.lt
  have lc := Hc.out.lt
  have lbj := Hbj.out.lt
  have lbk := Hbk.out.lt
  have lbl := Hbl.out.lt
  have lbm := Hbm.out.lt
  have lbn := Hbn.out.lt
  have lbx := Hbx.out.lt
  have lby := Hby.out.lt
  have lbbc := Hbbc.out.lt
  have lbac := Hbac.out.lt
  have lbp := Hbp.out.lt
  have lbq := Hbq.out.lt
  have lbjc := Hbjc.out.lt
  obtain ⟨ca0, ca1, ca2, ca3, ca4⟩ := Ha.out.cells5
  go_wp2_with fail
  clear la lb lc lbj lbk lbl lbm lbn lbx lby lbbc lbac lbp lbq lbjc ca0 ca1 ca2 ca3 ca4
  have ha := Ha.out.alloc (.cells #[.int .i64 K.d, .int .i64 K.e, .int .i64 K.x, .int .i64 K.y, .int .i64 K.z] 24); clear Ha
  have hb := Hb.out.alloc (.cells #[.int .i64 K.d, .int .i64 K.e, .int .i64 K.x, .int .i64 K.y, .int .i64 K.z] 24); clear Hb
  have hc := Hc.out.alloc (.cells #[.int .i64 K.d, .int .i64 K.e, .int .i64 K.x, .int .i64 K.y, .int .i64 K.z] 24); clear Hc
  have hbj := Hbj.out.alloc (.cells #[.int .i64 K.d, .int .i64 K.e, .int .i64 K.x, .int .i64 K.y, .int .i64 K.z] 24); clear Hbj
  have hbk := Hbk.out.alloc (.cells #[.int .i64 K.d, .int .i64 K.e, .int .i64 K.x, .int .i64 K.y, .int .i64 K.z] 24); clear Hbk
  have hbl := Hbl.out.alloc (.cells #[.int .i64 K.d, .int .i64 K.e, .int .i64 K.x, .int .i64 K.y, .int .i64 K.z] 24); clear Hbl
  have hbm := Hbm.out.alloc (.cells #[.int .i64 K.d, .int .i64 K.e, .int .i64 K.x, .int .i64 K.y, .int .i64 K.z] 24); clear Hbm
  have hbn := Hbn.out.alloc (.cells #[.int .i64 K.d, .int .i64 K.e, .int .i64 K.x, .int .i64 K.y, .int .i64 K.z] 24); clear Hbn
  have hbx := Hbx.out.alloc (.cells #[.int .i64 K.d, .int .i64 K.e, .int .i64 K.x, .int .i64 K.y, .int .i64 K.z] 24); clear Hbx
  have hby := Hby.out.alloc (.cells #[.int .i64 K.d, .int .i64 K.e, .int .i64 K.x, .int .i64 K.y, .int .i64 K.z] 24); clear Hby
  have hbbc := Hbbc.out.alloc (.cells #[.int .i64 K.d, .int .i64 K.e, .int .i64 K.x, .int .i64 K.y, .int .i64 K.z] 24); clear Hbbc
  have hbac := Hbac.out.alloc (.cells #[.int .i64 K.d, .int .i64 K.e, .int .i64 K.x, .int .i64 K.y, .int .i64 K.z] 24); clear Hbac
  have hbp := Hbp.out.alloc (.cells #[.int .i64 K.d, .int .i64 K.e, .int .i64 K.x, .int .i64 K.y, .int .i64 K.z] 24); clear Hbp
  have hbq := Hbq.out.alloc (.cells #[.int .i64 K.d, .int .i64 K.e, .int .i64 K.x, .int .i64 K.y, .int .i64 K.z] 24); clear Hbq
  have hbjc := Hbjc.out.alloc (.cells #[.int .i64 K.d, .int .i64 K.e, .int .i64 K.x, .int .i64 K.y, .int .i64 K.z] 24); clear Hbjc
  have hbbj := Holds.made v25 K
  have hbw := HBW.out.alloc HBW.out.size (.cells #[.int .i64 K.d, .int .i64 K.e, .int .i64 K.x, .int .i64 K.y, .int .i64 K.z] 24); clear HBW
  generalize v25.alloc (.cells #[.int .i64 K.d, .int .i64 K.e, .int .i64 K.x, .int .i64 K.y, .int .i64 K.z] 24) = v26 at *
  generalize v25.heap.size = gbbj at *
  have Ha := Lib.hid ha; clear ha
  have Hb := Lib.hid hb; clear hb
  have Hc := Lib.hid hc; clear hc
  have Hbj := Lib.hid hbj; clear hbj
  have Hbk := Lib.hid hbk; clear hbk
  have Hbl := Lib.hid hbl; clear hbl
  have Hbm := Lib.hid hbm; clear hbm
  have Hbn := Lib.hid hbn; clear hbn
  have Hbx := Lib.hid hbx; clear hbx
  have Hby := Lib.hid hby; clear hby
  have Hbbc := Lib.hid hbbc; clear hbbc
  have Hbac := Lib.hid hbac; clear hbac
  have Hbp := Lib.hid hbp; clear hbp
  have Hbq := Lib.hid hbq; clear hbq
  have Hbjc := Lib.hid hbjc; clear hbjc
  have Hbbj := Lib.hid hbbj; clear hbbj
  have HBW := Lib.hid hbw; clear hbw
  refine (C13.out _).mono ?_; rintro e v27 ⟨rfl, hbel⟩
  have ha := Ha.out.below hbel; clear Ha
  have hb := Hb.out.below hbel; clear Hb
  have hc := Hc.out.below hbel; clear Hc
  have hbj := Hbj.out.below hbel; clear Hbj
  have hbk := Hbk.out.below hbel; clear Hbk
  have hbl := Hbl.out.below hbel; clear Hbl
  have hbm := Hbm.out.below hbel; clear Hbm
  have hbn := Hbn.out.below hbel; clear Hbn
  have hbx := Hbx.out.below hbel; clear Hbx
  have hby := Hby.out.below hbel; clear Hby
  have hbbc := Hbbc.out.below hbel; clear Hbbc
  have hbac := Hbac.out.below hbel; clear Hbac
  have hbp := Hbp.out.below hbel; clear Hbp
  have hbq := Hbq.out.below hbel; clear Hbq
  have hbjc := Hbjc.out.below hbel; clear Hbjc
  have hbbj := Hbbj.out.below hbel; clear Hbbj
  have hbw := HBW.out.trans (hbel.mono HBW.out.size); clear HBW hbel
  have Ha := Lib.hid ha; clear ha
  have Hb := Lib.hid hb; clear hb
  have Hc := Lib.hid hc; clear hc
  have Hbj := Lib.hid hbj; clear hbj
  have Hbk := Lib.hid hbk; clear hbk
  have Hbl := Lib.hid hbl; clear hbl
  have Hbm := Lib.hid hbm; clear hbm
  have Hbn := Lib.hid hbn; clear hbn
  have Hbx := Lib.hid hbx; clear hbx
  have Hby := Lib.hid hby; clear hby
  have Hbbc := Lib.hid hbbc; clear hbbc
  have Hbac := Lib.hid hbac; clear hbac
  have Hbp := Lib.hid hbp; clear hbp
  have Hbq := Lib.hid hbq; clear hbq
  have Hbjc := Lib.hid hbjc; clear hbjc
  have Hbbj := Lib.hid hbbj; clear hbbj
  have HBW := Lib.hid hbw; clear hbw
  have e3 := HE3.out
  have e4 := HE4.out
  have la := Ha.out.lt
  have lb := Hb.out.lt
  have lc := Hc.out.lt
  have lbj := Hbj.out.lt
  have lbk := Hbk.out.lt
  have lbl := Hbl.out.lt
  have lbm := Hbm.out.lt
  have lbn := Hbn.out.lt
  have lbx := Hbx.out.lt
  have lby := Hby.out.lt
  have lbbc := Hbbc.out.lt
  have lbac := Hbac.out.lt
  have lbp := Hbp.out.lt
  have lbq := Hbq.out.lt
  have lbjc := Hbjc.out.lt
  have lbbj := Hbbj.out.lt
  obtain ⟨cbp0, cbp1, cbp2, cbp3, cbp4⟩ := Hbp.out.cells5
  obtain ⟨cbq0, cbq1, cbq2, cbq3, cbq4⟩ := Hbq.out.cells5
  obtain ⟨cbjc0, cbjc1, cbjc2, cbjc3, cbjc4⟩ := Hbjc.out.cells5
  go_wp2_with fail
  clear la lb lc lbj lbk lbl lbm lbn lbx lby lbbc lbac lbp lbq lbjc lbbj cbp0 cbp1 cbp2 cbp3 cbp4 cbq0 cbq1 cbq2 cbq3 cbq4 cbjc0 cbjc1 cbjc2 cbjc3 cbjc4
  have ha := Ha.out.alloc (.cells #[.int .i64 Q.d, .int .i64 Q.e, .int .i64 Q.x, .int .i64 Q.y, .int .i64 Q.z] 24); clear Ha
  have hb := Hb.out.alloc (.cells #[.int .i64 Q.d, .int .i64 Q.e, .int .i64 Q.x, .int .i64 Q.y, .int .i64 Q.z] 24); clear Hb
  have hc := Hc.out.alloc (.cells #[.int .i64 Q.d, .int .i64 Q.e, .int .i64 Q.x, .int .i64 Q.y, .int .i64 Q.z] 24); clear Hc
  have hbj := Hbj.out.alloc (.cells #[.int .i64 Q.d, .int .i64 Q.e, .int .i64 Q.x, .int .i64 Q.y, .int .i64 Q.z] 24); clear Hbj
  have hbk := Hbk.out.alloc (.cells #[.int .i64 Q.d, .int .i64 Q.e, .int .i64 Q.x, .int .i64 Q.y, .int .i64 Q.z] 24); clear Hbk
  have hbl := Hbl.out.alloc (.cells #[.int .i64 Q.d, .int .i64 Q.e, .int .i64 Q.x, .int .i64 Q.y, .int .i64 Q.z] 24); clear Hbl
  have hbm := Hbm.out.alloc (.cells #[.int .i64 Q.d, .int .i64 Q.e, .int .i64 Q.x, .int .i64 Q.y, .int .i64 Q.z] 24); clear Hbm
  have hbn := Hbn.out.alloc (.cells #[.int .i64 Q.d, .int .i64 Q.e, .int .i64 Q.x, .int .i64 Q.y, .int .i64 Q.z] 24); clear Hbn
  have hbx := Hbx.out.alloc (.cells #[.int .i64 Q.d, .int .i64 Q.e, .int .i64 Q.x, .int .i64 Q.y, .int .i64 Q.z] 24); clear Hbx
  have hby := Hby.out.alloc (.cells #[.int .i64 Q.d, .int .i64 Q.e, .int .i64 Q.x, .int .i64 Q.y, .int .i64 Q.z] 24); clear Hby
  have hbbc := Hbbc.out.alloc (.cells #[.int .i64 Q.d, .int .i64 Q.e, .int .i64 Q.x, .int .i64 Q.y, .int .i64 Q.z] 24); clear Hbbc
  have hbac := Hbac.out.alloc (.cells #[.int .i64 Q.d, .int .i64 Q.e, .int .i64 Q.x, .int .i64 Q.y, .int .i64 Q.z] 24); clear Hbac
  have hbp := Hbp.out.alloc (.cells #[.int .i64 Q.d, .int .i64 Q.e, .int .i64 Q.x, .int .i64 Q.y, .int .i64 Q.z] 24); clear Hbp
  have hbq := Hbq.out.alloc (.cells #[.int .i64 Q.d, .int .i64 Q.e, .int .i64 Q.x, .int .i64 Q.y, .int .i64 Q.z] 24); clear Hbq
  have hbjc := Hbjc.out.alloc (.cells #[.int .i64 Q.d, .int .i64 Q.e, .int .i64 Q.x, .int .i64 Q.y, .int .i64 Q.z] 24); clear Hbjc
  have hbbj := Hbbj.out.alloc (.cells #[.int .i64 Q.d, .int .i64 Q.e, .int .i64 Q.x, .int .i64 Q.y, .int .i64 Q.z] 24); clear Hbbj
  have hbr := Holds.made v27 Q
  have hbw := HBW.out.alloc HBW.out.size (.cells #[.int .i64 Q.d, .int .i64 Q.e, .int .i64 Q.x, .int .i64 Q.y, .int .i64 Q.z] 24); clear HBW
  generalize v27.alloc (.cells #[.int .i64 Q.d, .int .i64 Q.e, .int .i64 Q.x, .int .i64 Q.y, .int .i64 Q.z] 24) = v28 at *
  generalize v27.heap.size = gbr at *
  have Ha := Lib.hid ha; clear ha
  have Hb := Lib.hid hb; clear hb
  have Hc := Lib.hid hc; clear hc
  have Hbj := Lib.hid hbj; clear hbj
  have Hbk := Lib.hid hbk; clear hbk
  have Hbl := Lib.hid hbl; clear hbl
  have Hbm := Lib.hid hbm; clear hbm
  have Hbn := Lib.hid hbn; clear hbn
  have Hbx := Lib.hid hbx; clear hbx
  have Hby := Lib.hid hby; clear hby
  have Hbbc := Lib.hid hbbc; clear hbbc
  have Hbac := Lib.hid hbac; clear hbac
  have Hbp := Lib.hid hbp; clear hbp
  have Hbq := Lib.hid hbq; clear hbq
  have Hbjc := Lib.hid hbjc; clear hbjc
  have Hbbj := Lib.hid hbbj; clear hbbj
  have Hbr := Lib.hid hbr; clear hbr
  have HBW := Lib.hid hbw; clear hbw
  refine (C14.out _).mono ?_; rintro e v29 ⟨rfl, hbel⟩
  have ha := Ha.out.below hbel; clear Ha
  have hb := Hb.out.below hbel; clear Hb
  have hc := Hc.out.below hbel; clear Hc
  have hbj := Hbj.out.below hbel; clear Hbj
  have hbk := Hbk.out.below hbel; clear Hbk
  have hbl := Hbl.out.below hbel; clear Hbl
  have hbm := Hbm.out.below hbel; clear Hbm
  have hbn := Hbn.out.below hbel; clear Hbn
  have hbx := Hbx.out.below hbel; clear Hbx
  have hby := Hby.out.below hbel; clear Hby
  have hbbc := Hbbc.out.below hbel; clear Hbbc
  have hbac := Hbac.out.below hbel; clear Hbac
  have hbp := Hbp.out.below hbel; clear Hbp
  have hbq := Hbq.out.below hbel; clear Hbq
  have hbjc := Hbjc.out.below hbel; clear Hbjc
  have hbbj := Hbbj.out.below hbel; clear Hbbj
  have hbr := Hbr.out.below hbel; clear Hbr
  have hbw := HBW.out.trans (hbel.mono HBW.out.size); clear HBW hbel
  have Ha := Lib.hid ha; clear ha
  have Hb := Lib.hid hb; clear hb
  have Hc := Lib.hid hc; clear hc
  have Hbj := Lib.hid hbj; clear hbj
  have Hbk := Lib.hid hbk; clear hbk
  have Hbl := Lib.hid hbl; clear hbl
  have Hbm := Lib.hid hbm; clear hbm
  have Hbn := Lib.hid hbn; clear hbn
  have Hbx := Lib.hid hbx; clear hbx
  have Hby := Lib.hid hby; clear hby
  have Hbbc := Lib.hid hbbc; clear hbbc
  have Hbac := Lib.hid hbac; clear hbac
  have Hbp := Lib.hid hbp; clear hbp
  have Hbq := Lib.hid hbq; clear hbq
  have Hbjc := Lib.hid hbjc; clear hbjc
  have Hbbj := Lib.hid hbbj; clear hbbj
  have Hbr := Lib.hid hbr; clear hbr
  have HBW := Lib.hid hbw; clear hbw
  clear e3 e4
  go_wp2_with fail
  go_ret
  exact ⟨rfl, HBW.out⟩
theorem walk (a b c : St) (w : World) : Calls Try.prog 8 #[a.val, b.val, c.val] w fun e w' => e = .returned (.bool true) ∧ Below w.heap.size w w' := by
  by_cases h : a.B b
  · by_cases k : b.B c
    · exact walk_main a b c w h k
    · exact walk_second a b c w h k
  · exact walk_first a b c w h

set_option maxRecDepth 100000 in
theorem lifted (os : Os) (started : os.Started) (H : Type) (enc : TypeId × Value → H) :
    ReturnsInHanded {} Try.checked os 8 .any (Rows.stampLatticeSpec.pre6 enc Try.prog Try.f8 Rows.stampLatticeRow.domain false) (Rows.stampLatticeSpec.post enc Try.prog Try.f8 false true false false) := by
  refine returnsInHanded_of_change_sized (C := Try.checked) ownKnob_none started (by kernel_rfl) Try.func8
    (ChangeSpec.witness6 (enc := enc) (C := Try.checked) false ⟨#[], #[.agg #[.int .i64 0, .int .i64 0, .int .i64 0, .int .i64 0, .int .i64 0], .agg #[.int .i64 0, .int .i64 0, .int .i64 0, .int .i64 0, .int .i64 0], .agg #[.int .i64 0, .int .i64 0, .int .i64 0, .int .i64 0, .int .i64 0]], []⟩ 8 (by kernel_rfl) (by kernel_rfl) (by kernel_rfl) (by kernel_rfl)) ?_
  intro W base args ds gs before hval0 hW hcnd hsz0 _
  have hval : ∀ (j : Nat) t v, Try.f8.params[j]? = some t → args[j]? = some v → Value.okWide Try.prog W .any base t v := hval0
  have hW' := hW
  obtain ⟨p, q, hA0, hV, rfl, hfz, hnd⟩ := hW
  have hA : DataW.TrodAll enc Try.prog W 0 (fun _ => true) true Try.f8.params.toList args.toList ds p := hA0
  have hsz : (DataW.weightsEach Try.prog (Try.f8.params.toList ++ Rows.stampLatticeSpec.plain.varTypes Try.prog) (ds ++ gs)).all (· ≤ reachBytes) = true := hsz0
  rw [Try.params8] at hA hval hsz
  obtain ⟨v0, vs0, d0, ds0, p0, q0, hargs, rfl, rfl, h0, r0⟩ := trodAll_cons hA
  obtain ⟨v1, vs1, d1, ds1, p1, q1, rfl, rfl, rfl, h1, r1⟩ := trodAll_cons r0
  obtain ⟨v2, vs2, d2, ds2, p2, q2, rfl, rfl, rfl, h2, r2⟩ := trodAll_cons r1
  obtain ⟨rfl, rfl, rfl⟩ := trodAll_nil r2
  obtain rfl : args = #[v0, v1, v2] := by cases args; simp_all
  obtain ⟨rfl, rfl⟩ := trodVars_none hV
  obtain ⟨t0, rfl⟩ := open_stamp (hval 0 24 v0 rfl rfl) h0
  obtain ⟨t1, rfl⟩ := open_stamp (hval 1 24 v1 rfl rfl) h1
  obtain ⟨t2, rfl⟩ := open_stamp (hval 2 24 v2 rfl rfl) h2
  clear hA0 hval0 hsz0
  refine (walk t0 t1 t2 W).mono fun e W' ⟨he, hg⟩ => ?_
  subst he
  exact ⟨_, rfl, law_post progLaid hW' rfl (by rw [Try.params8]; intro t ht; simp at ht; subst ht; exact ⟨by kernel_rfl, of_decide_eq_true (by kernel_rfl)⟩) rfl Try.underlying4 rfl hg⟩

theorem over : Rows.stampLatticeRow.holds Try.pinned (OpenSpec.ofChange Rows.stampLatticeSpec) :=
  OpenClaim.holds_of_wide 8 Try.f8 rfl rfl rfl rfl rfl rfl rfl ⟨rfl, rfl, rfl, rfl, rfl⟩ rfl rfl rfl rfl rfl (by kernel_rfl) Try.func8 (by kernel_rfl)
    (of_decide_eq_true (by kernel_rfl)) (by unfold Func.isWrapper; first | (rw [if_pos (by decide +kernel)]; kernel_rfl) | (rw [if_neg (by decide +kernel)]; exact ⟨rfl, rfl⟩))
    (fun os started H enc _ => lifted os started H enc)

/-- The statement. -/
theorem proved : Rows.StampLatticeSaid :=
  over
end stampLattice
end Go.Proofs.Ytpcnnnfgopilaaa
