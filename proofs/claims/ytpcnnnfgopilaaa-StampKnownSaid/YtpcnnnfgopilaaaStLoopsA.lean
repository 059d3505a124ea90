/- StampLoops: Out undoes Into; Into, Out and Step go with the order; a time that goes round is behind what it was; for all times. -/
import Derived.Test.YtpcnnnfgopilaaaStFrame
namespace Go.Proofs.Ytpcnnnfgopilaaa
open Go.ChangeShapes Go.WideShapes Go.ChangeAt Go.RowKit Go.BigFrame
set_option linter.unusedVariables false
namespace stampLoops
theorem call_is {f : FuncId} {args : Array Value} {b b' : Bool} (hb : b = b') (h : ∀ w, Calls Try.prog f args w fun e w' => e = .returned (.bool b) ∧ Below w.heap.size w w') : ∀ w, Calls Try.prog f args w fun e w' => e = .returned (.bool b') ∧ Below w.heap.size w w' := by
  subst hb; exact h
theorem opt_is {f : FuncId} {args : Array Value} {o o' : Option St} (ho : o = o') (h : ∀ w, Calls Try.prog f args w fun e w' => e = .returned (.tuple #[(ov o).val, .bool o.isSome]) ∧ Below w.heap.size w w') : ∀ w, Calls Try.prog f args w fun e w' => e = .returned (.tuple #[(ov o').val, .bool o'.isSome]) ∧ Below w.heap.size w w' := by
  subst ho; exact h
set_option maxRecDepth 100000 in
set_option maxHeartbeats 8000000 in
theorem walk_000 (a b : St) (w : World) (hi : a.into = none) (hg : a.round = none) (hl : ¬ a.L b) : Calls Try.prog 6 #[a.val, b.val] w fun e w' => e = .returned (.bool true) ∧ Below w.heap.size w w' := by
  have c1 := opt_is hi (fun w => into_any a w)
  have c3 := opt_is hg (fun w => step_any a w)
  have c5 := call_is (decide_eq_false hl) (fun w => leq_any a b w)
  have c12 := fun w => works_any w
  have z : ov none = St.zero := rfl
  simp only [ov, Option.getD_none, Option.getD_some, Option.isSome_none, Option.isSome_some] at *
  clear z hl hi hg
  generalize St.zero = Z at *
  unfold St.val at *
  have C1 := Lib.hid c1; clear c1
  have C3 := Lib.hid c3; clear c3
  have C5 := Lib.hid c5; clear c5
  have C12 := Lib.hid c12; clear c12
  have ha := Holds.made w a
  have ha := ha.alloc (.cells #[.int .i64 b.d, .int .i64 b.e, .int .i64 b.x, .int .i64 b.y, .int .i64 b.z] 24)
  have hb := Holds.made (w.alloc (.cells #[.int .i64 a.d, .int .i64 a.e, .int .i64 a.x, .int .i64 a.y, .int .i64 a.z] 24)) b
  rw [size_alloc] at hb
  have hbw : Below w.heap.size w ((w.alloc (.cells #[.int .i64 a.d, .int .i64 a.e, .int .i64 a.x, .int .i64 a.y, .int .i64 a.z] 24)).alloc (.cells #[.int .i64 b.d, .int .i64 b.e, .int .i64 b.x, .int .i64 b.y, .int .i64 b.z] 24)) := ((Below.refl _ _).alloc (by simp) _).alloc (by simp) _
  have Ha := Lib.hid ha; clear ha
  have Hb := Lib.hid hb; clear hb
  have HBW := Lib.hid hbw; clear hbw
  go_enter Try.func6, Try.ntmps6
  go_wp2_with fail
  generalize (w.alloc (.cells #[.int .i64 a.d, .int .i64 a.e, .int .i64 a.x, .int .i64 a.y, .int .i64 a.z] 24)).alloc (.cells #[.int .i64 b.d, .int .i64 b.e, .int .i64 b.x, .int .i64 b.y, .int .i64 b.z] 24) = w0 at *
  refine (C1.out _).mono ?_; rintro e v1 ⟨rfl, hbel⟩
  have ha := Ha.out.below hbel; clear Ha
  have hb := Hb.out.below hbel; clear Hb
  have hbw := HBW.out.trans (hbel.mono HBW.out.size); clear HBW hbel
  have Ha := Lib.hid ha; clear ha
  have Hb := Lib.hid hb; clear hb
  have HBW := Lib.hid hbw; clear hbw
  have la := Ha.out.lt
  have lb := Hb.out.lt
  obtain ⟨ca0, ca1, ca2, ca3, ca4⟩ := Ha.out.cells5
  go_wp2_with fail
  clear la lb ca0 ca1 ca2 ca3 ca4
  have ha := Ha.out.alloc (.cells #[.int .i64 Z.d, .int .i64 Z.e, .int .i64 Z.x, .int .i64 Z.y, .int .i64 Z.z] 24); clear Ha
  have hb := Hb.out.alloc (.cells #[.int .i64 Z.d, .int .i64 Z.e, .int .i64 Z.x, .int .i64 Z.y, .int .i64 Z.z] 24); clear Hb
  have hbx := Holds.made v1 Z
  have hbw := HBW.out.alloc HBW.out.size (.cells #[.int .i64 Z.d, .int .i64 Z.e, .int .i64 Z.x, .int .i64 Z.y, .int .i64 Z.z] 24); clear HBW
  generalize v1.alloc (.cells #[.int .i64 Z.d, .int .i64 Z.e, .int .i64 Z.x, .int .i64 Z.y, .int .i64 Z.z] 24) = v2 at *
  generalize v1.heap.size = gbx at *
  have Ha := Lib.hid ha; clear ha
  have Hb := Lib.hid hb; clear hb
  have Hbx := Lib.hid hbx; clear hbx
  have HBW := Lib.hid hbw; clear hbw
  refine (C3.out _).mono ?_; rintro e v3 ⟨rfl, hbel⟩
  have ha := Ha.out.below hbel; clear Ha
  have hb := Hb.out.below hbel; clear Hb
  have hbx := Hbx.out.below hbel; clear Hbx
  have hbw := HBW.out.trans (hbel.mono HBW.out.size); clear HBW hbel
  have Ha := Lib.hid ha; clear ha
  have Hb := Lib.hid hb; clear hb
  have Hbx := Lib.hid hbx; clear hbx
  have HBW := Lib.hid hbw; clear hbw
  have la := Ha.out.lt
  have lb := Hb.out.lt
  have lbx := Hbx.out.lt
  obtain ⟨ca0, ca1, ca2, ca3, ca4⟩ := Ha.out.cells5
  obtain ⟨cb0, cb1, cb2, cb3, cb4⟩ := Hb.out.cells5
  go_wp2_with fail
  clear la lb lbx ca0 ca1 ca2 ca3 ca4 cb0 cb1 cb2 cb3 cb4
  have ha := Ha.out.alloc (.cells #[.int .i64 Z.d, .int .i64 Z.e, .int .i64 Z.x, .int .i64 Z.y, .int .i64 Z.z] 24); clear Ha
  have hb := Hb.out.alloc (.cells #[.int .i64 Z.d, .int .i64 Z.e, .int .i64 Z.x, .int .i64 Z.y, .int .i64 Z.z] 24); clear Hb
  have hbx := Hbx.out.alloc (.cells #[.int .i64 Z.d, .int .i64 Z.e, .int .i64 Z.x, .int .i64 Z.y, .int .i64 Z.z] 24); clear Hbx
  have hbs := Holds.made v3 Z
  have hbw := HBW.out.alloc HBW.out.size (.cells #[.int .i64 Z.d, .int .i64 Z.e, .int .i64 Z.x, .int .i64 Z.y, .int .i64 Z.z] 24); clear HBW
  generalize v3.alloc (.cells #[.int .i64 Z.d, .int .i64 Z.e, .int .i64 Z.x, .int .i64 Z.y, .int .i64 Z.z] 24) = v4 at *
  generalize v3.heap.size = gbs at *
  have Ha := Lib.hid ha; clear ha
  have Hb := Lib.hid hb; clear hb
  have Hbx := Lib.hid hbx; clear hbx
  have Hbs := Lib.hid hbs; clear hbs
  have HBW := Lib.hid hbw; clear hbw
  refine (C5.out _).mono ?_; rintro e v5 ⟨rfl, hbel⟩
  have ha := Ha.out.below hbel; clear Ha
  have hb := Hb.out.below hbel; clear Hb
  have hbx := Hbx.out.below hbel; clear Hbx
  have hbs := Hbs.out.below hbel; clear Hbs
  have hbw := HBW.out.trans (hbel.mono HBW.out.size); clear HBW hbel
  have Ha := Lib.hid ha; clear ha
  have Hb := Lib.hid hb; clear hb
  have Hbx := Lib.hid hbx; clear hbx
  have Hbs := Lib.hid hbs; clear hbs
  have HBW := Lib.hid hbw; clear hbw
  have la := Ha.out.lt
  have lb := Hb.out.lt
  have lbx := Hbx.out.lt
  have lbs := Hbs.out.lt
  go_wp2_with fail
  clear la lb lbx lbs
  refine (C12.out _).mono ?_; rintro e v6 ⟨rfl, hbel⟩
  have ha := Ha.out.below hbel; clear Ha
  have hb := Hb.out.below hbel; clear Hb
  have hbx := Hbx.out.below hbel; clear Hbx
  have hbs := Hbs.out.below hbel; clear Hbs
  have hbw := HBW.out.trans (hbel.mono HBW.out.size); clear HBW hbel
  have Ha := Lib.hid ha; clear ha
  have Hb := Lib.hid hb; clear hb
  have Hbx := Lib.hid hbx; clear hbx
  have Hbs := Lib.hid hbs; clear hbs
  have HBW := Lib.hid hbw; clear hbw
  go_wp2_with fail
  go_ret
  exact ⟨rfl, HBW.out⟩
set_option maxRecDepth 100000 in
set_option maxHeartbeats 8000000 in
theorem walk_00100 (a b : St) (w : World) (hi : a.into = none) (hg : a.round = none) (hl : a.L b) (hi2 : b.into = none) (ho : a.out = none) (ho2 : b.out = none) (hh : b.round = none) : Calls Try.prog 6 #[a.val, b.val] w fun e w' => e = .returned (.bool true) ∧ Below w.heap.size w w' := by
  have c1 := opt_is hi (fun w => into_any a w)
  have c3 := opt_is hg (fun w => step_any a w)
  have c5 := call_is (decide_eq_true hl) (fun w => leq_any a b w)
  have c12 := fun w => works_any w
  have c6 := opt_is hi2 (fun w => into_any b w)
  have c8 := opt_is ho (fun w => out_any a w)
  have c9 := opt_is ho2 (fun w => out_any b w)
  have c11 := opt_is hh (fun w => step_any b w)
  have z : ov none = St.zero := rfl
  simp only [ov, Option.getD_none, Option.getD_some, Option.isSome_none, Option.isSome_some] at *
  clear z hl hi hg hi2 ho ho2 hh
  generalize St.zero = Z at *
  unfold St.val at *
  have C1 := Lib.hid c1; clear c1
  have C3 := Lib.hid c3; clear c3
  have C5 := Lib.hid c5; clear c5
  have C12 := Lib.hid c12; clear c12
  have C6 := Lib.hid c6; clear c6
  have C8 := Lib.hid c8; clear c8
  have C9 := Lib.hid c9; clear c9
  have C11 := Lib.hid c11; clear c11
  have ha := Holds.made w a
  have ha := ha.alloc (.cells #[.int .i64 b.d, .int .i64 b.e, .int .i64 b.x, .int .i64 b.y, .int .i64 b.z] 24)
  have hb := Holds.made (w.alloc (.cells #[.int .i64 a.d, .int .i64 a.e, .int .i64 a.x, .int .i64 a.y, .int .i64 a.z] 24)) b
  rw [size_alloc] at hb
  have hbw : Below w.heap.size w ((w.alloc (.cells #[.int .i64 a.d, .int .i64 a.e, .int .i64 a.x, .int .i64 a.y, .int .i64 a.z] 24)).alloc (.cells #[.int .i64 b.d, .int .i64 b.e, .int .i64 b.x, .int .i64 b.y, .int .i64 b.z] 24)) := ((Below.refl _ _).alloc (by simp) _).alloc (by simp) _
  have Ha := Lib.hid ha; clear ha
  have Hb := Lib.hid hb; clear hb
  have HBW := Lib.hid hbw; clear hbw
  go_enter Try.func6, Try.ntmps6
  go_wp2_with fail
  generalize (w.alloc (.cells #[.int .i64 a.d, .int .i64 a.e, .int .i64 a.x, .int .i64 a.y, .int .i64 a.z] 24)).alloc (.cells #[.int .i64 b.d, .int .i64 b.e, .int .i64 b.x, .int .i64 b.y, .int .i64 b.z] 24) = w0 at *
  refine (C1.out _).mono ?_; rintro e v1 ⟨rfl, hbel⟩
  have ha := Ha.out.below hbel; clear Ha
  have hb := Hb.out.below hbel; clear Hb
  have hbw := HBW.out.trans (hbel.mono HBW.out.size); clear HBW hbel
  have Ha := Lib.hid ha; clear ha
  have Hb := Lib.hid hb; clear hb
  have HBW := Lib.hid hbw; clear hbw
  have la := Ha.out.lt
  have lb := Hb.out.lt
  obtain ⟨ca0, ca1, ca2, ca3, ca4⟩ := Ha.out.cells5
  go_wp2_with fail
  clear la lb ca0 ca1 ca2 ca3 ca4
  have ha := Ha.out.alloc (.cells #[.int .i64 Z.d, .int .i64 Z.e, .int .i64 Z.x, .int .i64 Z.y, .int .i64 Z.z] 24); clear Ha
  have hb := Hb.out.alloc (.cells #[.int .i64 Z.d, .int .i64 Z.e, .int .i64 Z.x, .int .i64 Z.y, .int .i64 Z.z] 24); clear Hb
  have hbx := Holds.made v1 Z
  have hbw := HBW.out.alloc HBW.out.size (.cells #[.int .i64 Z.d, .int .i64 Z.e, .int .i64 Z.x, .int .i64 Z.y, .int .i64 Z.z] 24); clear HBW
  generalize v1.alloc (.cells #[.int .i64 Z.d, .int .i64 Z.e, .int .i64 Z.x, .int .i64 Z.y, .int .i64 Z.z] 24) = v2 at *
  generalize v1.heap.size = gbx at *
  have Ha := Lib.hid ha; clear ha
  have Hb := Lib.hid hb; clear hb
  have Hbx := Lib.hid hbx; clear hbx
  have HBW := Lib.hid hbw; clear hbw
  refine (C3.out _).mono ?_; rintro e v3 ⟨rfl, hbel⟩
  have ha := Ha.out.below hbel; clear Ha
  have hb := Hb.out.below hbel; clear Hb
  have hbx := Hbx.out.below hbel; clear Hbx
  have hbw := HBW.out.trans (hbel.mono HBW.out.size); clear HBW hbel
  have Ha := Lib.hid ha; clear ha
  have Hb := Lib.hid hb; clear hb
  have Hbx := Lib.hid hbx; clear hbx
  have HBW := Lib.hid hbw; clear hbw
  have la := Ha.out.lt
  have lb := Hb.out.lt
  have lbx := Hbx.out.lt
  obtain ⟨ca0, ca1, ca2, ca3, ca4⟩ := Ha.out.cells5
  obtain ⟨cb0, cb1, cb2, cb3, cb4⟩ := Hb.out.cells5
  go_wp2_with fail
  clear la lb lbx ca0 ca1 ca2 ca3 ca4 cb0 cb1 cb2 cb3 cb4
  have ha := Ha.out.alloc (.cells #[.int .i64 Z.d, .int .i64 Z.e, .int .i64 Z.x, .int .i64 Z.y, .int .i64 Z.z] 24); clear Ha
  have hb := Hb.out.alloc (.cells #[.int .i64 Z.d, .int .i64 Z.e, .int .i64 Z.x, .int .i64 Z.y, .int .i64 Z.z] 24); clear Hb
  have hbx := Hbx.out.alloc (.cells #[.int .i64 Z.d, .int .i64 Z.e, .int .i64 Z.x, .int .i64 Z.y, .int .i64 Z.z] 24); clear Hbx
  have hbs := Holds.made v3 Z
  have hbw := HBW.out.alloc HBW.out.size (.cells #[.int .i64 Z.d, .int .i64 Z.e, .int .i64 Z.x, .int .i64 Z.y, .int .i64 Z.z] 24); clear HBW
  generalize v3.alloc (.cells #[.int .i64 Z.d, .int .i64 Z.e, .int .i64 Z.x, .int .i64 Z.y, .int .i64 Z.z] 24) = v4 at *
  generalize v3.heap.size = gbs at *
  have Ha := Lib.hid ha; clear ha
  have Hb := Lib.hid hb; clear hb
  have Hbx := Lib.hid hbx; clear hbx
  have Hbs := Lib.hid hbs; clear hbs
  have HBW := Lib.hid hbw; clear hbw
  refine (C5.out _).mono ?_; rintro e v5 ⟨rfl, hbel⟩
  have ha := Ha.out.below hbel; clear Ha
  have hb := Hb.out.below hbel; clear Hb
  have hbx := Hbx.out.below hbel; clear Hbx
  have hbs := Hbs.out.below hbel; clear Hbs
  have hbw := HBW.out.trans (hbel.mono HBW.out.size); clear HBW hbel
  have Ha := Lib.hid ha; clear ha
  have Hb := Lib.hid hb; clear hb
  have Hbx := Lib.hid hbx; clear hbx
  have Hbs := Lib.hid hbs; clear hbs
  have HBW := Lib.hid hbw; clear hbw
  have la := Ha.out.lt
  have lb := Hb.out.lt
  have lbx := Hbx.out.lt
  have lbs := Hbs.out.lt
  obtain ⟨cb0, cb1, cb2, cb3, cb4⟩ := Hb.out.cells5
  go_wp2_with fail
  clear la lb lbx lbs cb0 cb1 cb2 cb3 cb4
  refine (C6.out _).mono ?_; rintro e v6 ⟨rfl, hbel⟩
  have ha := Ha.out.below hbel; clear Ha
  have hb := Hb.out.below hbel; clear Hb
  have hbx := Hbx.out.below hbel; clear Hbx
  have hbs := Hbs.out.below hbel; clear Hbs
  have hbw := HBW.out.trans (hbel.mono HBW.out.size); clear HBW hbel
  have Ha := Lib.hid ha; clear ha
  have Hb := Lib.hid hb; clear hb
  have Hbx := Lib.hid hbx; clear hbx
  have Hbs := Lib.hid hbs; clear hbs
  have HBW := Lib.hid hbw; clear hbw
  have la := Ha.out.lt
  have lb := Hb.out.lt
  have lbx := Hbx.out.lt
  have lbs := Hbs.out.lt
  obtain ⟨ca0, ca1, ca2, ca3, ca4⟩ := Ha.out.cells5
  go_wp2_with fail
  clear la lb lbx lbs ca0 ca1 ca2 ca3 ca4
  have ha := Ha.out.alloc (.cells #[.int .i64 Z.d, .int .i64 Z.e, .int .i64 Z.x, .int .i64 Z.y, .int .i64 Z.z] 24); clear Ha
  have hb := Hb.out.alloc (.cells #[.int .i64 Z.d, .int .i64 Z.e, .int .i64 Z.x, .int .i64 Z.y, .int .i64 Z.z] 24); clear Hb
  have hbx := Hbx.out.alloc (.cells #[.int .i64 Z.d, .int .i64 Z.e, .int .i64 Z.x, .int .i64 Z.y, .int .i64 Z.z] 24); clear Hbx
  have hbs := Hbs.out.alloc (.cells #[.int .i64 Z.d, .int .i64 Z.e, .int .i64 Z.x, .int .i64 Z.y, .int .i64 Z.z] 24); clear Hbs
  have hby2 := Holds.made v6 Z
  have hbw := HBW.out.alloc HBW.out.size (.cells #[.int .i64 Z.d, .int .i64 Z.e, .int .i64 Z.x, .int .i64 Z.y, .int .i64 Z.z] 24); clear HBW
  generalize v6.alloc (.cells #[.int .i64 Z.d, .int .i64 Z.e, .int .i64 Z.x, .int .i64 Z.y, .int .i64 Z.z] 24) = v7 at *
  generalize v6.heap.size = gby2 at *
  have Ha := Lib.hid ha; clear ha
  have Hb := Lib.hid hb; clear hb
  have Hbx := Lib.hid hbx; clear hbx
  have Hbs := Lib.hid hbs; clear hbs
  have Hby2 := Lib.hid hby2; clear hby2
  have HBW := Lib.hid hbw; clear hbw
  refine (C8.out _).mono ?_; rintro e v8 ⟨rfl, hbel⟩
  have ha := Ha.out.below hbel; clear Ha
  have hb := Hb.out.below hbel; clear Hb
  have hbx := Hbx.out.below hbel; clear Hbx
  have hbs := Hbs.out.below hbel; clear Hbs
  have hby2 := Hby2.out.below hbel; clear Hby2
  have hbw := HBW.out.trans (hbel.mono HBW.out.size); clear HBW hbel
  have Ha := Lib.hid ha; clear ha
  have Hb := Lib.hid hb; clear hb
  have Hbx := Lib.hid hbx; clear hbx
  have Hbs := Lib.hid hbs; clear hbs
  have Hby2 := Lib.hid hby2; clear hby2
  have HBW := Lib.hid hbw; clear hbw
  have la := Ha.out.lt
  have lb := Hb.out.lt
  have lbx := Hbx.out.lt
  have lbs := Hbs.out.lt
  have lby2 := Hby2.out.lt
  obtain ⟨cb0, cb1, cb2, cb3, cb4⟩ := Hb.out.cells5
  go_wp2_with fail
  clear la lb lbx lbs lby2 cb0 cb1 cb2 cb3 cb4
  have ha := Ha.out.alloc (.cells #[.int .i64 Z.d, .int .i64 Z.e, .int .i64 Z.x, .int .i64 Z.y, .int .i64 Z.z] 24); clear Ha
  have hb := Hb.out.alloc (.cells #[.int .i64 Z.d, .int .i64 Z.e, .int .i64 Z.x, .int .i64 Z.y, .int .i64 Z.z] 24); clear Hb
  have hbx := Hbx.out.alloc (.cells #[.int .i64 Z.d, .int .i64 Z.e, .int .i64 Z.x, .int .i64 Z.y, .int .i64 Z.z] 24); clear Hbx
  have hbs := Hbs.out.alloc (.cells #[.int .i64 Z.d, .int .i64 Z.e, .int .i64 Z.x, .int .i64 Z.y, .int .i64 Z.z] 24); clear Hbs
  have hby2 := Hby2.out.alloc (.cells #[.int .i64 Z.d, .int .i64 Z.e, .int .i64 Z.x, .int .i64 Z.y, .int .i64 Z.z] 24); clear Hby2
  have hbc := Holds.made v8 Z
  have hbw := HBW.out.alloc HBW.out.size (.cells #[.int .i64 Z.d, .int .i64 Z.e, .int .i64 Z.x, .int .i64 Z.y, .int .i64 Z.z] 24); clear HBW
  generalize v8.alloc (.cells #[.int .i64 Z.d, .int .i64 Z.e, .int .i64 Z.x, .int .i64 Z.y, .int .i64 Z.z] 24) = v9 at *
  generalize v8.heap.size = gbc at *
  have Ha := Lib.hid ha; clear ha
  have Hb := Lib.hid hb; clear hb
  have Hbx := Lib.hid hbx; clear hbx
  have Hbs := Lib.hid hbs; clear hbs
  have Hby2 := Lib.hid hby2; clear hby2
  have Hbc := Lib.hid hbc; clear hbc
  have HBW := Lib.hid hbw; clear hbw
  refine (C9.out _).mono ?_; rintro e v10 ⟨rfl, hbel⟩
  have ha := Ha.out.below hbel; clear Ha
  have hb := Hb.out.below hbel; clear Hb
  have hbx := Hbx.out.below hbel; clear Hbx
  have hbs := Hbs.out.below hbel; clear Hbs
  have hby2 := Hby2.out.below hbel; clear Hby2
  have hbc := Hbc.out.below hbel; clear Hbc
  have hbw := HBW.out.trans (hbel.mono HBW.out.size); clear HBW hbel
  have Ha := Lib.hid ha; clear ha
  have Hb := Lib.hid hb; clear hb
  have Hbx := Lib.hid hbx; clear hbx
  have Hbs := Lib.hid hbs; clear hbs
  have Hby2 := Lib.hid hby2; clear hby2
  have Hbc := Lib.hid hbc; clear hbc
  have HBW := Lib.hid hbw; clear hbw
  have la := Ha.out.lt
  have lb := Hb.out.lt
  have lbx := Hbx.out.lt
  have lbs := Hbs.out.lt
  have lby2 := Hby2.out.lt
  have lbc := Hbc.out.lt
  obtain ⟨cb0, cb1, cb2, cb3, cb4⟩ := Hb.out.cells5
  go_wp2_with fail
  clear la lb lbx lbs lby2 lbc cb0 cb1 cb2 cb3 cb4
  have ha := Ha.out.alloc (.cells #[.int .i64 Z.d, .int .i64 Z.e, .int .i64 Z.x, .int .i64 Z.y, .int .i64 Z.z] 24); clear Ha
  have hb := Hb.out.alloc (.cells #[.int .i64 Z.d, .int .i64 Z.e, .int .i64 Z.x, .int .i64 Z.y, .int .i64 Z.z] 24); clear Hb
  have hbx := Hbx.out.alloc (.cells #[.int .i64 Z.d, .int .i64 Z.e, .int .i64 Z.x, .int .i64 Z.y, .int .i64 Z.z] 24); clear Hbx
  have hbs := Hbs.out.alloc (.cells #[.int .i64 Z.d, .int .i64 Z.e, .int .i64 Z.x, .int .i64 Z.y, .int .i64 Z.z] 24); clear Hbs
  have hby2 := Hby2.out.alloc (.cells #[.int .i64 Z.d, .int .i64 Z.e, .int .i64 Z.x, .int .i64 Z.y, .int .i64 Z.z] 24); clear Hby2
  have hbc := Hbc.out.alloc (.cells #[.int .i64 Z.d, .int .i64 Z.e, .int .i64 Z.x, .int .i64 Z.y, .int .i64 Z.z] 24); clear Hbc
  have hbd := Holds.made v10 Z
  have hbw := HBW.out.alloc HBW.out.size (.cells #[.int .i64 Z.d, .int .i64 Z.e, .int .i64 Z.x, .int .i64 Z.y, .int .i64 Z.z] 24); clear HBW
  generalize v10.alloc (.cells #[.int .i64 Z.d, .int .i64 Z.e, .int .i64 Z.x, .int .i64 Z.y, .int .i64 Z.z] 24) = v11 at *
  generalize v10.heap.size = gbd at *
  have Ha := Lib.hid ha; clear ha
  have Hb := Lib.hid hb; clear hb
  have Hbx := Lib.hid hbx; clear hbx
  have Hbs := Lib.hid hbs; clear hbs
  have Hby2 := Lib.hid hby2; clear hby2
  have Hbc := Lib.hid hbc; clear hbc
  have Hbd := Lib.hid hbd; clear hbd
  have HBW := Lib.hid hbw; clear hbw
  refine (C11.out _).mono ?_; rintro e v12 ⟨rfl, hbel⟩
  have ha := Ha.out.below hbel; clear Ha
  have hb := Hb.out.below hbel; clear Hb
  have hbx := Hbx.out.below hbel; clear Hbx
  have hbs := Hbs.out.below hbel; clear Hbs
  have hby2 := Hby2.out.below hbel; clear Hby2
  have hbc := Hbc.out.below hbel; clear Hbc
  have hbd := Hbd.out.below hbel; clear Hbd
  have hbw := HBW.out.trans (hbel.mono HBW.out.size); clear HBW hbel
  have Ha := Lib.hid ha; clear ha
  have Hb := Lib.hid hb; clear hb
  have Hbx := Lib.hid hbx; clear hbx
  have Hbs := Lib.hid hbs; clear hbs
  have Hby2 := Lib.hid hby2; clear hby2
  have Hbc := Lib.hid hbc; clear hbc
  have Hbd := Lib.hid hbd; clear hbd
  have HBW := Lib.hid hbw; clear hbw
  have la := Ha.out.lt
  have lb := Hb.out.lt
  have lbx := Hbx.out.lt
  have lbs := Hbs.out.lt
  have lby2 := Hby2.out.lt
  have lbc := Hbc.out.lt
  have lbd := Hbd.out.lt
  go_wp2_with fail
  clear la lb lbx lbs lby2 lbc lbd
  have ha := Ha.out.alloc (.cells #[.int .i64 Z.d, .int .i64 Z.e, .int .i64 Z.x, .int .i64 Z.y, .int .i64 Z.z] 24); clear Ha
  have hb := Hb.out.alloc (.cells #[.int .i64 Z.d, .int .i64 Z.e, .int .i64 Z.x, .int .i64 Z.y, .int .i64 Z.z] 24); clear Hb
  have hbx := Hbx.out.alloc (.cells #[.int .i64 Z.d, .int .i64 Z.e, .int .i64 Z.x, .int .i64 Z.y, .int .i64 Z.z] 24); clear Hbx
  have hbs := Hbs.out.alloc (.cells #[.int .i64 Z.d, .int .i64 Z.e, .int .i64 Z.x, .int .i64 Z.y, .int .i64 Z.z] 24); clear Hbs
  have hby2 := Hby2.out.alloc (.cells #[.int .i64 Z.d, .int .i64 Z.e, .int .i64 Z.x, .int .i64 Z.y, .int .i64 Z.z] 24); clear Hby2
  have hbc := Hbc.out.alloc (.cells #[.int .i64 Z.d, .int .i64 Z.e, .int .i64 Z.x, .int .i64 Z.y, .int .i64 Z.z] 24); clear Hbc
  have hbd := Hbd.out.alloc (.cells #[.int .i64 Z.d, .int .i64 Z.e, .int .i64 Z.x, .int .i64 Z.y, .int .i64 Z.z] 24); clear Hbd
  have hbt := Holds.made v12 Z
  have hbw := HBW.out.alloc HBW.out.size (.cells #[.int .i64 Z.d, .int .i64 Z.e, .int .i64 Z.x, .int .i64 Z.y, .int .i64 Z.z] 24); clear HBW
  generalize v12.alloc (.cells #[.int .i64 Z.d, .int .i64 Z.e, .int .i64 Z.x, .int .i64 Z.y, .int .i64 Z.z] 24) = v13 at *
  generalize v12.heap.size = gbt at *
  have Ha := Lib.hid ha; clear ha
  have Hb := Lib.hid hb; clear hb
  have Hbx := Lib.hid hbx; clear hbx
  have Hbs := Lib.hid hbs; clear hbs
  have Hby2 := Lib.hid hby2; clear hby2
  have Hbc := Lib.hid hbc; clear hbc
  have Hbd := Lib.hid hbd; clear hbd
  have Hbt := Lib.hid hbt; clear hbt
  have HBW := Lib.hid hbw; clear hbw
  refine (C12.out _).mono ?_; rintro e v14 ⟨rfl, hbel⟩
  have ha := Ha.out.below hbel; clear Ha
  have hb := Hb.out.below hbel; clear Hb
  have hbx := Hbx.out.below hbel; clear Hbx
  have hbs := Hbs.out.below hbel; clear Hbs
  have hby2 := Hby2.out.below hbel; clear Hby2
  have hbc := Hbc.out.below hbel; clear Hbc
  have hbd := Hbd.out.below hbel; clear Hbd
  have hbt := Hbt.out.below hbel; clear Hbt
  have hbw := HBW.out.trans (hbel.mono HBW.out.size); clear HBW hbel
  have Ha := Lib.hid ha; clear ha
  have Hb := Lib.hid hb; clear hb
  have Hbx := Lib.hid hbx; clear hbx
  have Hbs := Lib.hid hbs; clear hbs
  have Hby2 := Lib.hid hby2; clear hby2
  have Hbc := Lib.hid hbc; clear hbc
  have Hbd := Lib.hid hbd; clear hbd
  have Hbt := Lib.hid hbt; clear hbt
  have HBW := Lib.hid hbw; clear hbw
  go_wp2_with fail
  go_ret
  exact ⟨rfl, HBW.out⟩
set_option maxRecDepth 100000 in
set_option maxHeartbeats 8000000 in
theorem walk_00101 (a b : St) (w : World) (hi : a.into = none) (hg : a.round = none) (hl : a.L b) (hi2 : b.into = none) (ho : a.out = none) (ho2 : b.out = none) (t : St) (hh : b.round = some t) : Calls Try.prog 6 #[a.val, b.val] w fun e w' => e = .returned (.bool true) ∧ Below w.heap.size w w' := by
  have c1 := opt_is hi (fun w => into_any a w)
  have c3 := opt_is hg (fun w => step_any a w)
  have c5 := call_is (decide_eq_true hl) (fun w => leq_any a b w)
  have c12 := fun w => works_any w
  have c6 := opt_is hi2 (fun w => into_any b w)
  have c8 := opt_is ho (fun w => out_any a w)
  have c9 := opt_is ho2 (fun w => out_any b w)
  have c11 := opt_is hh (fun w => step_any b w)
  have z : ov none = St.zero := rfl
  simp only [ov, Option.getD_none, Option.getD_some, Option.isSome_none, Option.isSome_some] at *
  clear z hl hi hg hi2 ho ho2 hh
  generalize St.zero = Z at *
  unfold St.val at *
  have C1 := Lib.hid c1; clear c1
  have C3 := Lib.hid c3; clear c3
  have C5 := Lib.hid c5; clear c5
  have C12 := Lib.hid c12; clear c12
  have C6 := Lib.hid c6; clear c6
  have C8 := Lib.hid c8; clear c8
  have C9 := Lib.hid c9; clear c9
  have C11 := Lib.hid c11; clear c11
  have ha := Holds.made w a
  have ha := ha.alloc (.cells #[.int .i64 b.d, .int .i64 b.e, .int .i64 b.x, .int .i64 b.y, .int .i64 b.z] 24)
  have hb := Holds.made (w.alloc (.cells #[.int .i64 a.d, .int .i64 a.e, .int .i64 a.x, .int .i64 a.y, .int .i64 a.z] 24)) b
  rw [size_alloc] at hb
  have hbw : Below w.heap.size w ((w.alloc (.cells #[.int .i64 a.d, .int .i64 a.e, .int .i64 a.x, .int .i64 a.y, .int .i64 a.z] 24)).alloc (.cells #[.int .i64 b.d, .int .i64 b.e, .int .i64 b.x, .int .i64 b.y, .int .i64 b.z] 24)) := ((Below.refl _ _).alloc (by simp) _).alloc (by simp) _
  have Ha := Lib.hid ha; clear ha
  have Hb := Lib.hid hb; clear hb
  have HBW := Lib.hid hbw; clear hbw
  go_enter Try.func6, Try.ntmps6
  go_wp2_with fail
  generalize (w.alloc (.cells #[.int .i64 a.d, .int .i64 a.e, .int .i64 a.x, .int .i64 a.y, .int .i64 a.z] 24)).alloc (.cells #[.int .i64 b.d, .int .i64 b.e, .int .i64 b.x, .int .i64 b.y, .int .i64 b.z] 24) = w0 at *
  refine (C1.out _).mono ?_; rintro e v1 ⟨rfl, hbel⟩
  have ha := Ha.out.below hbel; clear Ha
  have hb := Hb.out.below hbel; clear Hb
  have hbw := HBW.out.trans (hbel.mono HBW.out.size); clear HBW hbel
  have Ha := Lib.hid ha; clear ha
  have Hb := Lib.hid hb; clear hb
  have HBW := Lib.hid hbw; clear hbw
  have la := Ha.out.lt
  have lb := Hb.out.lt
  obtain ⟨ca0, ca1, ca2, ca3, ca4⟩ := Ha.out.cells5
  go_wp2_with fail
  clear la lb ca0 ca1 ca2 ca3 ca4
  have ha := Ha.out.alloc (.cells #[.int .i64 Z.d, .int .i64 Z.e, .int .i64 Z.x, .int .i64 Z.y, .int .i64 Z.z] 24); clear Ha
  have hb := Hb.out.alloc (.cells #[.int .i64 Z.d, .int .i64 Z.e, .int .i64 Z.x, .int .i64 Z.y, .int .i64 Z.z] 24); clear Hb
  have hbx := Holds.made v1 Z
  have hbw := HBW.out.alloc HBW.out.size (.cells #[.int .i64 Z.d, .int .i64 Z.e, .int .i64 Z.x, .int .i64 Z.y, .int .i64 Z.z] 24); clear HBW
  generalize v1.alloc (.cells #[.int .i64 Z.d, .int .i64 Z.e, .int .i64 Z.x, .int .i64 Z.y, .int .i64 Z.z] 24) = v2 at *
  generalize v1.heap.size = gbx at *
  have Ha := Lib.hid ha; clear ha
  have Hb := Lib.hid hb; clear hb
  have Hbx := Lib.hid hbx; clear hbx
  have HBW := Lib.hid hbw; clear hbw
  refine (C3.out _).mono ?_; rintro e v3 ⟨rfl, hbel⟩
  have ha := Ha.out.below hbel; clear Ha
  have hb := Hb.out.below hbel; clear Hb
  have hbx := Hbx.out.below hbel; clear Hbx
  have hbw := HBW.out.trans (hbel.mono HBW.out.size); clear HBW hbel
  have Ha := Lib.hid ha; clear ha
  have Hb := Lib.hid hb; clear hb
  have Hbx := Lib.hid hbx; clear hbx
  have HBW := Lib.hid hbw; clear hbw
  have la := Ha.out.lt
  have lb := Hb.out.lt
  have lbx := Hbx.out.lt
  obtain ⟨ca0, ca1, ca2, ca3, ca4⟩ := Ha.out.cells5
  obtain ⟨cb0, cb1, cb2, cb3, cb4⟩ := Hb.out.cells5
  go_wp2_with fail
  clear la lb lbx ca0 ca1 ca2 ca3 ca4 cb0 cb1 cb2 cb3 cb4
  have ha := Ha.out.alloc (.cells #[.int .i64 Z.d, .int .i64 Z.e, .int .i64 Z.x, .int .i64 Z.y, .int .i64 Z.z] 24); clear Ha
  have hb := Hb.out.alloc (.cells #[.int .i64 Z.d, .int .i64 Z.e, .int .i64 Z.x, .int .i64 Z.y, .int .i64 Z.z] 24); clear Hb
  have hbx := Hbx.out.alloc (.cells #[.int .i64 Z.d, .int .i64 Z.e, .int .i64 Z.x, .int .i64 Z.y, .int .i64 Z.z] 24); clear Hbx
  have hbs := Holds.made v3 Z
  have hbw := HBW.out.alloc HBW.out.size (.cells #[.int .i64 Z.d, .int .i64 Z.e, .int .i64 Z.x, .int .i64 Z.y, .int .i64 Z.z] 24); clear HBW
  generalize v3.alloc (.cells #[.int .i64 Z.d, .int .i64 Z.e, .int .i64 Z.x, .int .i64 Z.y, .int .i64 Z.z] 24) = v4 at *
  generalize v3.heap.size = gbs at *
  have Ha := Lib.hid ha; clear ha
  have Hb := Lib.hid hb; clear hb
  have Hbx := Lib.hid hbx; clear hbx
  have Hbs := Lib.hid hbs; clear hbs
  have HBW := Lib.hid hbw; clear hbw
  refine (C5.out _).mono ?_; rintro e v5 ⟨rfl, hbel⟩
  have ha := Ha.out.below hbel; clear Ha
  have hb := Hb.out.below hbel; clear Hb
  have hbx := Hbx.out.below hbel; clear Hbx
  have hbs := Hbs.out.below hbel; clear Hbs
  have hbw := HBW.out.trans (hbel.mono HBW.out.size); clear HBW hbel
  have Ha := Lib.hid ha; clear ha
  have Hb := Lib.hid hb; clear hb
  have Hbx := Lib.hid hbx; clear hbx
  have Hbs := Lib.hid hbs; clear hbs
  have HBW := Lib.hid hbw; clear hbw
  have la := Ha.out.lt
  have lb := Hb.out.lt
  have lbx := Hbx.out.lt
  have lbs := Hbs.out.lt
  obtain ⟨cb0, cb1, cb2, cb3, cb4⟩ := Hb.out.cells5
  go_wp2_with fail
  clear la lb lbx lbs cb0 cb1 cb2 cb3 cb4
  refine (C6.out _).mono ?_; rintro e v6 ⟨rfl, hbel⟩
  have ha := Ha.out.below hbel; clear Ha
  have hb := Hb.out.below hbel; clear Hb
  have hbx := Hbx.out.below hbel; clear Hbx
  have hbs := Hbs.out.below hbel; clear Hbs
  have hbw := HBW.out.trans (hbel.mono HBW.out.size); clear HBW hbel
  have Ha := Lib.hid ha; clear ha
  have Hb := Lib.hid hb; clear hb
  have Hbx := Lib.hid hbx; clear hbx
  have Hbs := Lib.hid hbs; clear hbs
  have HBW := Lib.hid hbw; clear hbw
  have la := Ha.out.lt
  have lb := Hb.out.lt
  have lbx := Hbx.out.lt
  have lbs := Hbs.out.lt
  obtain ⟨ca0, ca1, ca2, ca3, ca4⟩ := Ha.out.cells5
  go_wp2_with fail
  clear la lb lbx lbs ca0 ca1 ca2 ca3 ca4
  have ha := Ha.out.alloc (.cells #[.int .i64 Z.d, .int .i64 Z.e, .int .i64 Z.x, .int .i64 Z.y, .int .i64 Z.z] 24); clear Ha
  have hb := Hb.out.alloc (.cells #[.int .i64 Z.d, .int .i64 Z.e, .int .i64 Z.x, .int .i64 Z.y, .int .i64 Z.z] 24); clear Hb
  have hbx := Hbx.out.alloc (.cells #[.int .i64 Z.d, .int .i64 Z.e, .int .i64 Z.x, .int .i64 Z.y, .int .i64 Z.z] 24); clear Hbx
  have hbs := Hbs.out.alloc (.cells #[.int .i64 Z.d, .int .i64 Z.e, .int .i64 Z.x, .int .i64 Z.y, .int .i64 Z.z] 24); clear Hbs
  have hby2 := Holds.made v6 Z
  have hbw := HBW.out.alloc HBW.out.size (.cells #[.int .i64 Z.d, .int .i64 Z.e, .int .i64 Z.x, .int .i64 Z.y, .int .i64 Z.z] 24); clear HBW
  generalize v6.alloc (.cells #[.int .i64 Z.d, .int .i64 Z.e, .int .i64 Z.x, .int .i64 Z.y, .int .i64 Z.z] 24) = v7 at *
  generalize v6.heap.size = gby2 at *
  have Ha := Lib.hid ha; clear ha
  have Hb := Lib.hid hb; clear hb
  have Hbx := Lib.hid hbx; clear hbx
  have Hbs := Lib.hid hbs; clear hbs
  have Hby2 := Lib.hid hby2; clear hby2
  have HBW := Lib.hid hbw; clear hbw
  refine (C8.out _).mono ?_; rintro e v8 ⟨rfl, hbel⟩
  have ha := Ha.out.below hbel; clear Ha
  have hb := Hb.out.below hbel; clear Hb
  have hbx := Hbx.out.below hbel; clear Hbx
  have hbs := Hbs.out.below hbel; clear Hbs
  have hby2 := Hby2.out.below hbel; clear Hby2
  have hbw := HBW.out.trans (hbel.mono HBW.out.size); clear HBW hbel
  have Ha := Lib.hid ha; clear ha
  have Hb := Lib.hid hb; clear hb
  have Hbx := Lib.hid hbx; clear hbx
  have Hbs := Lib.hid hbs; clear hbs
  have Hby2 := Lib.hid hby2; clear hby2
  have HBW := Lib.hid hbw; clear hbw
  have la := Ha.out.lt
  have lb := Hb.out.lt
  have lbx := Hbx.out.lt
  have lbs := Hbs.out.lt
  have lby2 := Hby2.out.lt
  obtain ⟨cb0, cb1, cb2, cb3, cb4⟩ := Hb.out.cells5
  go_wp2_with fail
  clear la lb lbx lbs lby2 cb0 cb1 cb2 cb3 cb4
  have ha := Ha.out.alloc (.cells #[.int .i64 Z.d, .int .i64 Z.e, .int .i64 Z.x, .int .i64 Z.y, .int .i64 Z.z] 24); clear Ha
  have hb := Hb.out.alloc (.cells #[.int .i64 Z.d, .int .i64 Z.e, .int .i64 Z.x, .int .i64 Z.y, .int .i64 Z.z] 24); clear Hb
  have hbx := Hbx.out.alloc (.cells #[.int .i64 Z.d, .int .i64 Z.e, .int .i64 Z.x, .int .i64 Z.y, .int .i64 Z.z] 24); clear Hbx
  have hbs := Hbs.out.alloc (.cells #[.int .i64 Z.d, .int .i64 Z.e, .int .i64 Z.x, .int .i64 Z.y, .int .i64 Z.z] 24); clear Hbs
  have hby2 := Hby2.out.alloc (.cells #[.int .i64 Z.d, .int .i64 Z.e, .int .i64 Z.x, .int .i64 Z.y, .int .i64 Z.z] 24); clear Hby2
  have hbc := Holds.made v8 Z
  have hbw := HBW.out.alloc HBW.out.size (.cells #[.int .i64 Z.d, .int .i64 Z.e, .int .i64 Z.x, .int .i64 Z.y, .int .i64 Z.z] 24); clear HBW
  generalize v8.alloc (.cells #[.int .i64 Z.d, .int .i64 Z.e, .int .i64 Z.x, .int .i64 Z.y, .int .i64 Z.z] 24) = v9 at *
  generalize v8.heap.size = gbc at *
  have Ha := Lib.hid ha; clear ha
  have Hb := Lib.hid hb; clear hb
  have Hbx := Lib.hid hbx; clear hbx
  have Hbs := Lib.hid hbs; clear hbs
  have Hby2 := Lib.hid hby2; clear hby2
  have Hbc := Lib.hid hbc; clear hbc
  have HBW := Lib.hid hbw; clear hbw
  refine (C9.out _).mono ?_; rintro e v10 ⟨rfl, hbel⟩
  have ha := Ha.out.below hbel; clear Ha
  have hb := Hb.out.below hbel; clear Hb
  have hbx := Hbx.out.below hbel; clear Hbx
  have hbs := Hbs.out.below hbel; clear Hbs
  have hby2 := Hby2.out.below hbel; clear Hby2
  have hbc := Hbc.out.below hbel; clear Hbc
  have hbw := HBW.out.trans (hbel.mono HBW.out.size); clear HBW hbel
  have Ha := Lib.hid ha; clear ha
  have Hb := Lib.hid hb; clear hb
  have Hbx := Lib.hid hbx; clear hbx
  have Hbs := Lib.hid hbs; clear hbs
  have Hby2 := Lib.hid hby2; clear hby2
  have Hbc := Lib.hid hbc; clear hbc
  have HBW := Lib.hid hbw; clear hbw
  have la := Ha.out.lt
  have lb := Hb.out.lt
  have lbx := Hbx.out.lt
  have lbs := Hbs.out.lt
  have lby2 := Hby2.out.lt
  have lbc := Hbc.out.lt
  obtain ⟨cb0, cb1, cb2, cb3, cb4⟩ := Hb.out.cells5
  go_wp2_with fail
  clear la lb lbx lbs lby2 lbc cb0 cb1 cb2 cb3 cb4
  have ha := Ha.out.alloc (.cells #[.int .i64 Z.d, .int .i64 Z.e, .int .i64 Z.x, .int .i64 Z.y, .int .i64 Z.z] 24); clear Ha
  have hb := Hb.out.alloc (.cells #[.int .i64 Z.d, .int .i64 Z.e, .int .i64 Z.x, .int .i64 Z.y, .int .i64 Z.z] 24); clear Hb
  have hbx := Hbx.out.alloc (.cells #[.int .i64 Z.d, .int .i64 Z.e, .int .i64 Z.x, .int .i64 Z.y, .int .i64 Z.z] 24); clear Hbx
  have hbs := Hbs.out.alloc (.cells #[.int .i64 Z.d, .int .i64 Z.e, .int .i64 Z.x, .int .i64 Z.y, .int .i64 Z.z] 24); clear Hbs
  have hby2 := Hby2.out.alloc (.cells #[.int .i64 Z.d, .int .i64 Z.e, .int .i64 Z.x, .int .i64 Z.y, .int .i64 Z.z] 24); clear Hby2
  have hbc := Hbc.out.alloc (.cells #[.int .i64 Z.d, .int .i64 Z.e, .int .i64 Z.x, .int .i64 Z.y, .int .i64 Z.z] 24); clear Hbc
  have hbd := Holds.made v10 Z
  have hbw := HBW.out.alloc HBW.out.size (.cells #[.int .i64 Z.d, .int .i64 Z.e, .int .i64 Z.x, .int .i64 Z.y, .int .i64 Z.z] 24); clear HBW
  generalize v10.alloc (.cells #[.int .i64 Z.d, .int .i64 Z.e, .int .i64 Z.x, .int .i64 Z.y, .int .i64 Z.z] 24) = v11 at *
  generalize v10.heap.size = gbd at *
  have Ha := Lib.hid ha; clear ha
  have Hb := Lib.hid hb; clear hb
  have Hbx := Lib.hid hbx; clear hbx
  have Hbs := Lib.hid hbs; clear hbs
  have Hby2 := Lib.hid hby2; clear hby2
  have Hbc := Lib.hid hbc; clear hbc
  have Hbd := Lib.hid hbd; clear hbd
  have HBW := Lib.hid hbw; clear hbw
  refine (C11.out _).mono ?_; rintro e v12 ⟨rfl, hbel⟩
  have ha := Ha.out.below hbel; clear Ha
  have hb := Hb.out.below hbel; clear Hb
  have hbx := Hbx.out.below hbel; clear Hbx
  have hbs := Hbs.out.below hbel; clear Hbs
  have hby2 := Hby2.out.below hbel; clear Hby2
  have hbc := Hbc.out.below hbel; clear Hbc
  have hbd := Hbd.out.below hbel; clear Hbd
  have hbw := HBW.out.trans (hbel.mono HBW.out.size); clear HBW hbel
  have Ha := Lib.hid ha; clear ha
  have Hb := Lib.hid hb; clear hb
  have Hbx := Lib.hid hbx; clear hbx
  have Hbs := Lib.hid hbs; clear hbs
  have Hby2 := Lib.hid hby2; clear hby2
  have Hbc := Lib.hid hbc; clear hbc
  have Hbd := Lib.hid hbd; clear hbd
  have HBW := Lib.hid hbw; clear hbw
  have la := Ha.out.lt
  have lb := Hb.out.lt
  have lbx := Hbx.out.lt
  have lbs := Hbs.out.lt
  have lby2 := Hby2.out.lt
  have lbc := Hbc.out.lt
  have lbd := Hbd.out.lt
  go_wp2_with fail
  clear la lb lbx lbs lby2 lbc lbd
  have ha := Ha.out.alloc (.cells #[.int .i64 t.d, .int .i64 t.e, .int .i64 t.x, .int .i64 t.y, .int .i64 t.z] 24); clear Ha
  have hb := Hb.out.alloc (.cells #[.int .i64 t.d, .int .i64 t.e, .int .i64 t.x, .int .i64 t.y, .int .i64 t.z] 24); clear Hb
  have hbx := Hbx.out.alloc (.cells #[.int .i64 t.d, .int .i64 t.e, .int .i64 t.x, .int .i64 t.y, .int .i64 t.z] 24); clear Hbx
  have hbs := Hbs.out.alloc (.cells #[.int .i64 t.d, .int .i64 t.e, .int .i64 t.x, .int .i64 t.y, .int .i64 t.z] 24); clear Hbs
  have hby2 := Hby2.out.alloc (.cells #[.int .i64 t.d, .int .i64 t.e, .int .i64 t.x, .int .i64 t.y, .int .i64 t.z] 24); clear Hby2
  have hbc := Hbc.out.alloc (.cells #[.int .i64 t.d, .int .i64 t.e, .int .i64 t.x, .int .i64 t.y, .int .i64 t.z] 24); clear Hbc
  have hbd := Hbd.out.alloc (.cells #[.int .i64 t.d, .int .i64 t.e, .int .i64 t.x, .int .i64 t.y, .int .i64 t.z] 24); clear Hbd
  have hbt := Holds.made v12 t
  have hbw := HBW.out.alloc HBW.out.size (.cells #[.int .i64 t.d, .int .i64 t.e, .int .i64 t.x, .int .i64 t.y, .int .i64 t.z] 24); clear HBW
  generalize v12.alloc (.cells #[.int .i64 t.d, .int .i64 t.e, .int .i64 t.x, .int .i64 t.y, .int .i64 t.z] 24) = v13 at *
  generalize v12.heap.size = gbt at *
  have Ha := Lib.hid ha; clear ha
  have Hb := Lib.hid hb; clear hb
  have Hbx := Lib.hid hbx; clear hbx
  have Hbs := Lib.hid hbs; clear hbs
  have Hby2 := Lib.hid hby2; clear hby2
  have Hbc := Lib.hid hbc; clear hbc
  have Hbd := Lib.hid hbd; clear hbd
  have Hbt := Lib.hid hbt; clear hbt
  have HBW := Lib.hid hbw; clear hbw
  refine (C12.out _).mono ?_; rintro e v14 ⟨rfl, hbel⟩
  have ha := Ha.out.below hbel; clear Ha
  have hb := Hb.out.below hbel; clear Hb
  have hbx := Hbx.out.below hbel; clear Hbx
  have hbs := Hbs.out.below hbel; clear Hbs
  have hby2 := Hby2.out.below hbel; clear Hby2
  have hbc := Hbc.out.below hbel; clear Hbc
  have hbd := Hbd.out.below hbel; clear Hbd
  have hbt := Hbt.out.below hbel; clear Hbt
  have hbw := HBW.out.trans (hbel.mono HBW.out.size); clear HBW hbel
  have Ha := Lib.hid ha; clear ha
  have Hb := Lib.hid hb; clear hb
  have Hbx := Lib.hid hbx; clear hbx
  have Hbs := Lib.hid hbs; clear hbs
  have Hby2 := Lib.hid hby2; clear hby2
  have Hbc := Lib.hid hbc; clear hbc
  have Hbd := Lib.hid hbd; clear hbd
  have Hbt := Lib.hid hbt; clear hbt
  have HBW := Lib.hid hbw; clear hbw
  go_wp2_with fail
  go_ret
  exact ⟨rfl, HBW.out⟩
set_option maxRecDepth 100000 in
set_option maxHeartbeats 8000000 in
theorem walk_00110 (a b : St) (w : World) (hi : a.into = none) (hg : a.round = none) (hl : a.L b) (hi2 : b.into = none) (c d : St) (ho : a.out = some c) (ho2 : b.out = some d) (hh : b.round = none) : Calls Try.prog 6 #[a.val, b.val] w fun e w' => e = .returned (.bool true) ∧ Below w.heap.size w w' := by
  have c1 := opt_is hi (fun w => into_any a w)
  have c3 := opt_is hg (fun w => step_any a w)
  have c5 := call_is (decide_eq_true hl) (fun w => leq_any a b w)
  have c12 := fun w => works_any w
  have c6 := opt_is hi2 (fun w => into_any b w)
  have c8 := opt_is ho (fun w => out_any a w)
  have c9 := opt_is ho2 (fun w => out_any b w)
  have c10 := call_is (decide_eq_true ((St.out_mono hl).2 c d ho ho2)) (fun w => leq_any c d w)
  have c11 := opt_is hh (fun w => step_any b w)
  have z : ov none = St.zero := rfl
  simp only [ov, Option.getD_none, Option.getD_some, Option.isSome_none, Option.isSome_some] at *
  clear z hl hi hg hi2 ho ho2 hh
  generalize St.zero = Z at *
  unfold St.val at *
  have C1 := Lib.hid c1; clear c1
  have C3 := Lib.hid c3; clear c3
  have C5 := Lib.hid c5; clear c5
  have C12 := Lib.hid c12; clear c12
  have C6 := Lib.hid c6; clear c6
  have C8 := Lib.hid c8; clear c8
  have C9 := Lib.hid c9; clear c9
  have C10 := Lib.hid c10; clear c10
  have C11 := Lib.hid c11; clear c11
  have ha := Holds.made w a
  have ha := ha.alloc (.cells #[.int .i64 b.d, .int .i64 b.e, .int .i64 b.x, .int .i64 b.y, .int .i64 b.z] 24)
  have hb := Holds.made (w.alloc (.cells #[.int .i64 a.d, .int .i64 a.e, .int .i64 a.x, .int .i64 a.y, .int .i64 a.z] 24)) b
  rw [size_alloc] at hb
  have hbw : Below w.heap.size w ((w.alloc (.cells #[.int .i64 a.d, .int .i64 a.e, .int .i64 a.x, .int .i64 a.y, .int .i64 a.z] 24)).alloc (.cells #[.int .i64 b.d, .int .i64 b.e, .int .i64 b.x, .int .i64 b.y, .int .i64 b.z] 24)) := ((Below.refl _ _).alloc (by simp) _).alloc (by simp) _
  have Ha := Lib.hid ha; clear ha
  have Hb := Lib.hid hb; clear hb
  have HBW := Lib.hid hbw; clear hbw
  go_enter Try.func6, Try.ntmps6
  go_wp2_with fail
  generalize (w.alloc (.cells #[.int .i64 a.d, .int .i64 a.e, .int .i64 a.x, .int .i64 a.y, .int .i64 a.z] 24)).alloc (.cells #[.int .i64 b.d, .int .i64 b.e, .int .i64 b.x, .int .i64 b.y, .int .i64 b.z] 24) = w0 at *
  refine (C1.out _).mono ?_; rintro e v1 ⟨rfl, hbel⟩
  have ha := Ha.out.below hbel; clear Ha
  have hb := Hb.out.below hbel; clear Hb
  have hbw := HBW.out.trans (hbel.mono HBW.out.size); clear HBW hbel
  have Ha := Lib.hid ha; clear ha
  have Hb := Lib.hid hb; clear hb
  have HBW := Lib.hid hbw; clear hbw
  have la := Ha.out.lt
  have lb := Hb.out.lt
  obtain ⟨ca0, ca1, ca2, ca3, ca4⟩ := Ha.out.cells5
  go_wp2_with fail
  clear la lb ca0 ca1 ca2 ca3 ca4
  have ha := Ha.out.alloc (.cells #[.int .i64 Z.d, .int .i64 Z.e, .int .i64 Z.x, .int .i64 Z.y, .int .i64 Z.z] 24); clear Ha
  have hb := Hb.out.alloc (.cells #[.int .i64 Z.d, .int .i64 Z.e, .int .i64 Z.x, .int .i64 Z.y, .int .i64 Z.z] 24); clear Hb
  have hbx := Holds.made v1 Z
  have hbw := HBW.out.alloc HBW.out.size (.cells #[.int .i64 Z.d, .int .i64 Z.e, .int .i64 Z.x, .int .i64 Z.y, .int .i64 Z.z] 24); clear HBW
  generalize v1.alloc (.cells #[.int .i64 Z.d, .int .i64 Z.e, .int .i64 Z.x, .int .i64 Z.y, .int .i64 Z.z] 24) = v2 at *
  generalize v1.heap.size = gbx at *
  have Ha := Lib.hid ha; clear ha
  have Hb := Lib.hid hb; clear hb
  have Hbx := Lib.hid hbx; clear hbx
  have HBW := Lib.hid hbw; clear hbw
  refine (C3.out _).mono ?_; rintro e v3 ⟨rfl, hbel⟩
  have ha := Ha.out.below hbel; clear Ha
  have hb := Hb.out.below hbel; clear Hb
  have hbx := Hbx.out.below hbel; clear Hbx
  have hbw := HBW.out.trans (hbel.mono HBW.out.size); clear HBW hbel
  have Ha := Lib.hid ha; clear ha
  have Hb := Lib.hid hb; clear hb
  have Hbx := Lib.hid hbx; clear hbx
  have HBW := Lib.hid hbw; clear hbw
  have la := Ha.out.lt
  have lb := Hb.out.lt
  have lbx := Hbx.out.lt
  obtain ⟨ca0, ca1, ca2, ca3, ca4⟩ := Ha.out.cells5
  obtain ⟨cb0, cb1, cb2, cb3, cb4⟩ := Hb.out.cells5
  go_wp2_with fail
  clear la lb lbx ca0 ca1 ca2 ca3 ca4 cb0 cb1 cb2 cb3 cb4
  have ha := Ha.out.alloc (.cells #[.int .i64 Z.d, .int .i64 Z.e, .int .i64 Z.x, .int .i64 Z.y, .int .i64 Z.z] 24); clear Ha
  have hb := Hb.out.alloc (.cells #[.int .i64 Z.d, .int .i64 Z.e, .int .i64 Z.x, .int .i64 Z.y, .int .i64 Z.z] 24); clear Hb
  have hbx := Hbx.out.alloc (.cells #[.int .i64 Z.d, .int .i64 Z.e, .int .i64 Z.x, .int .i64 Z.y, .int .i64 Z.z] 24); clear Hbx
  have hbs := Holds.made v3 Z
  have hbw := HBW.out.alloc HBW.out.size (.cells #[.int .i64 Z.d, .int .i64 Z.e, .int .i64 Z.x, .int .i64 Z.y, .int .i64 Z.z] 24); clear HBW
  generalize v3.alloc (.cells #[.int .i64 Z.d, .int .i64 Z.e, .int .i64 Z.x, .int .i64 Z.y, .int .i64 Z.z] 24) = v4 at *
  generalize v3.heap.size = gbs at *
  have Ha := Lib.hid ha; clear ha
  have Hb := Lib.hid hb; clear hb
  have Hbx := Lib.hid hbx; clear hbx
  have Hbs := Lib.hid hbs; clear hbs
  have HBW := Lib.hid hbw; clear hbw
  refine (C5.out _).mono ?_; rintro e v5 ⟨rfl, hbel⟩
  have ha := Ha.out.below hbel; clear Ha
  have hb := Hb.out.below hbel; clear Hb
  have hbx := Hbx.out.below hbel; clear Hbx
  have hbs := Hbs.out.below hbel; clear Hbs
  have hbw := HBW.out.trans (hbel.mono HBW.out.size); clear HBW hbel
  have Ha := Lib.hid ha; clear ha
  have Hb := Lib.hid hb; clear hb
  have Hbx := Lib.hid hbx; clear hbx
  have Hbs := Lib.hid hbs; clear hbs
  have HBW := Lib.hid hbw; clear hbw
  have la := Ha.out.lt
  have lb := Hb.out.lt
  have lbx := Hbx.out.lt
  have lbs := Hbs.out.lt
  obtain ⟨cb0, cb1, cb2, cb3, cb4⟩ := Hb.out.cells5
  go_wp2_with fail
  clear la lb lbx lbs cb0 cb1 cb2 cb3 cb4
  refine (C6.out _).mono ?_; rintro e v6 ⟨rfl, hbel⟩
  have ha := Ha.out.below hbel; clear Ha
  have hb := Hb.out.below hbel; clear Hb
  have hbx := Hbx.out.below hbel; clear Hbx
  have hbs := Hbs.out.below hbel; clear Hbs
  have hbw := HBW.out.trans (hbel.mono HBW.out.size); clear HBW hbel
  have Ha := Lib.hid ha; clear ha
  have Hb := Lib.hid hb; clear hb
  have Hbx := Lib.hid hbx; clear hbx
  have Hbs := Lib.hid hbs; clear hbs
  have HBW := Lib.hid hbw; clear hbw
  have la := Ha.out.lt
  have lb := Hb.out.lt
  have lbx := Hbx.out.lt
  have lbs := Hbs.out.lt
  obtain ⟨ca0, ca1, ca2, ca3, ca4⟩ := Ha.out.cells5
  go_wp2_with fail
  clear la lb lbx lbs ca0 ca1 ca2 ca3 ca4
  have ha := Ha.out.alloc (.cells #[.int .i64 Z.d, .int .i64 Z.e, .int .i64 Z.x, .int .i64 Z.y, .int .i64 Z.z] 24); clear Ha
  have hb := Hb.out.alloc (.cells #[.int .i64 Z.d, .int .i64 Z.e, .int .i64 Z.x, .int .i64 Z.y, .int .i64 Z.z] 24); clear Hb
  have hbx := Hbx.out.alloc (.cells #[.int .i64 Z.d, .int .i64 Z.e, .int .i64 Z.x, .int .i64 Z.y, .int .i64 Z.z] 24); clear Hbx
  have hbs := Hbs.out.alloc (.cells #[.int .i64 Z.d, .int .i64 Z.e, .int .i64 Z.x, .int .i64 Z.y, .int .i64 Z.z] 24); clear Hbs
  have hby2 := Holds.made v6 Z
  have hbw := HBW.out.alloc HBW.out.size (.cells #[.int .i64 Z.d, .int .i64 Z.e, .int .i64 Z.x, .int .i64 Z.y, .int .i64 Z.z] 24); clear HBW
  generalize v6.alloc (.cells #[.int .i64 Z.d, .int .i64 Z.e, .int .i64 Z.x, .int .i64 Z.y, .int .i64 Z.z] 24) = v7 at *
  generalize v6.heap.size = gby2 at *
  have Ha := Lib.hid ha; clear ha
  have Hb := Lib.hid hb; clear hb
  have Hbx := Lib.hid hbx; clear hbx
  have Hbs := Lib.hid hbs; clear hbs
  have Hby2 := Lib.hid hby2; clear hby2
  have HBW := Lib.hid hbw; clear hbw
  refine (C8.out _).mono ?_; rintro e v8 ⟨rfl, hbel⟩
  have ha := Ha.out.below hbel; clear Ha
  have hb := Hb.out.below hbel; clear Hb
  have hbx := Hbx.out.below hbel; clear Hbx
  have hbs := Hbs.out.below hbel; clear Hbs
  have hby2 := Hby2.out.below hbel; clear Hby2
  have hbw := HBW.out.trans (hbel.mono HBW.out.size); clear HBW hbel
  have Ha := Lib.hid ha; clear ha
  have Hb := Lib.hid hb; clear hb
  have Hbx := Lib.hid hbx; clear hbx
  have Hbs := Lib.hid hbs; clear hbs
  have Hby2 := Lib.hid hby2; clear hby2
  have HBW := Lib.hid hbw; clear hbw
  have la := Ha.out.lt
  have lb := Hb.out.lt
  have lbx := Hbx.out.lt
  have lbs := Hbs.out.lt
  have lby2 := Hby2.out.lt
  obtain ⟨cb0, cb1, cb2, cb3, cb4⟩ := Hb.out.cells5
  go_wp2_with fail
  clear la lb lbx lbs lby2 cb0 cb1 cb2 cb3 cb4
  have ha := Ha.out.alloc (.cells #[.int .i64 c.d, .int .i64 c.e, .int .i64 c.x, .int .i64 c.y, .int .i64 c.z] 24); clear Ha
  have hb := Hb.out.alloc (.cells #[.int .i64 c.d, .int .i64 c.e, .int .i64 c.x, .int .i64 c.y, .int .i64 c.z] 24); clear Hb
  have hbx := Hbx.out.alloc (.cells #[.int .i64 c.d, .int .i64 c.e, .int .i64 c.x, .int .i64 c.y, .int .i64 c.z] 24); clear Hbx
  have hbs := Hbs.out.alloc (.cells #[.int .i64 c.d, .int .i64 c.e, .int .i64 c.x, .int .i64 c.y, .int .i64 c.z] 24); clear Hbs
  have hby2 := Hby2.out.alloc (.cells #[.int .i64 c.d, .int .i64 c.e, .int .i64 c.x, .int .i64 c.y, .int .i64 c.z] 24); clear Hby2
  have hbc := Holds.made v8 c
  have hbw := HBW.out.alloc HBW.out.size (.cells #[.int .i64 c.d, .int .i64 c.e, .int .i64 c.x, .int .i64 c.y, .int .i64 c.z] 24); clear HBW
  generalize v8.alloc (.cells #[.int .i64 c.d, .int .i64 c.e, .int .i64 c.x, .int .i64 c.y, .int .i64 c.z] 24) = v9 at *
  generalize v8.heap.size = gbc at *
  have Ha := Lib.hid ha; clear ha
  have Hb := Lib.hid hb; clear hb
  have Hbx := Lib.hid hbx; clear hbx
  have Hbs := Lib.hid hbs; clear hbs
  have Hby2 := Lib.hid hby2; clear hby2
  have Hbc := Lib.hid hbc; clear hbc
  have HBW := Lib.hid hbw; clear hbw
  refine (C9.out _).mono ?_; rintro e v10 ⟨rfl, hbel⟩
  have ha := Ha.out.below hbel; clear Ha
  have hb := Hb.out.below hbel; clear Hb
  have hbx := Hbx.out.below hbel; clear Hbx
  have hbs := Hbs.out.below hbel; clear Hbs
  have hby2 := Hby2.out.below hbel; clear Hby2
  have hbc := Hbc.out.below hbel; clear Hbc
  have hbw := HBW.out.trans (hbel.mono HBW.out.size); clear HBW hbel
  have Ha := Lib.hid ha; clear ha
  have Hb := Lib.hid hb; clear hb
  have Hbx := Lib.hid hbx; clear hbx
  have Hbs := Lib.hid hbs; clear hbs
  have Hby2 := Lib.hid hby2; clear hby2
  have Hbc := Lib.hid hbc; clear hbc
  have HBW := Lib.hid hbw; clear hbw
  have la := Ha.out.lt
  have lb := Hb.out.lt
  have lbx := Hbx.out.lt
  have lbs := Hbs.out.lt
  have lby2 := Hby2.out.lt
  have lbc := Hbc.out.lt
  obtain ⟨cbc0, cbc1, cbc2, cbc3, cbc4⟩ := Hbc.out.cells5
  go_wp2_with fail
  clear la lb lbx lbs lby2 lbc cbc0 cbc1 cbc2 cbc3 cbc4
  have ha := Ha.out.alloc (.cells #[.int .i64 d.d, .int .i64 d.e, .int .i64 d.x, .int .i64 d.y, .int .i64 d.z] 24); clear Ha
  have hb := Hb.out.alloc (.cells #[.int .i64 d.d, .int .i64 d.e, .int .i64 d.x, .int .i64 d.y, .int .i64 d.z] 24); clear Hb
  have hbx := Hbx.out.alloc (.cells #[.int .i64 d.d, .int .i64 d.e, .int .i64 d.x, .int .i64 d.y, .int .i64 d.z] 24); clear Hbx
  have hbs := Hbs.out.alloc (.cells #[.int .i64 d.d, .int .i64 d.e, .int .i64 d.x, .int .i64 d.y, .int .i64 d.z] 24); clear Hbs
  have hby2 := Hby2.out.alloc (.cells #[.int .i64 d.d, .int .i64 d.e, .int .i64 d.x, .int .i64 d.y, .int .i64 d.z] 24); clear Hby2
  have hbc := Hbc.out.alloc (.cells #[.int .i64 d.d, .int .i64 d.e, .int .i64 d.x, .int .i64 d.y, .int .i64 d.z] 24); clear Hbc
  have hbd := Holds.made v10 d
  have hbw := HBW.out.alloc HBW.out.size (.cells #[.int .i64 d.d, .int .i64 d.e, .int .i64 d.x, .int .i64 d.y, .int .i64 d.z] 24); clear HBW
  generalize v10.alloc (.cells #[.int .i64 d.d, .int .i64 d.e, .int .i64 d.x, .int .i64 d.y, .int .i64 d.z] 24) = v11 at *
  generalize v10.heap.size = gbd at *
  have Ha := Lib.hid ha; clear ha
  have Hb := Lib.hid hb; clear hb
  have Hbx := Lib.hid hbx; clear hbx
  have Hbs := Lib.hid hbs; clear hbs
  have Hby2 := Lib.hid hby2; clear hby2
  have Hbc := Lib.hid hbc; clear hbc
  have Hbd := Lib.hid hbd; clear hbd
  have HBW := Lib.hid hbw; clear hbw
  refine (C10.out _).mono ?_; rintro e v12 ⟨rfl, hbel⟩
  have ha := Ha.out.below hbel; clear Ha
  have hb := Hb.out.below hbel; clear Hb
  have hbx := Hbx.out.below hbel; clear Hbx
  have hbs := Hbs.out.below hbel; clear Hbs
  have hby2 := Hby2.out.below hbel; clear Hby2
  have hbc := Hbc.out.below hbel; clear Hbc
  have hbd := Hbd.out.below hbel; clear Hbd
  have hbw := HBW.out.trans (hbel.mono HBW.out.size); clear HBW hbel
  have Ha := Lib.hid ha; clear ha
  have Hb := Lib.hid hb; clear hb
  have Hbx := Lib.hid hbx; clear hbx
  have Hbs := Lib.hid hbs; clear hbs
  have Hby2 := Lib.hid hby2; clear hby2
  have Hbc := Lib.hid hbc; clear hbc
  have Hbd := Lib.hid hbd; clear hbd
  have HBW := Lib.hid hbw; clear hbw
  have la := Ha.out.lt
  have lb := Hb.out.lt
  have lbx := Hbx.out.lt
  have lbs := Hbs.out.lt
  have lby2 := Hby2.out.lt
  have lbc := Hbc.out.lt
  have lbd := Hbd.out.lt
  obtain ⟨cb0, cb1, cb2, cb3, cb4⟩ := Hb.out.cells5
  go_wp2_with fail
  clear la lb lbx lbs lby2 lbc lbd cb0 cb1 cb2 cb3 cb4
  refine (C11.out _).mono ?_; rintro e v13 ⟨rfl, hbel⟩
  have ha := Ha.out.below hbel; clear Ha
  have hb := Hb.out.below hbel; clear Hb
  have hbx := Hbx.out.below hbel; clear Hbx
  have hbs := Hbs.out.below hbel; clear Hbs
  have hby2 := Hby2.out.below hbel; clear Hby2
  have hbc := Hbc.out.below hbel; clear Hbc
  have hbd := Hbd.out.below hbel; clear Hbd
  have hbw := HBW.out.trans (hbel.mono HBW.out.size); clear HBW hbel
  have Ha := Lib.hid ha; clear ha
  have Hb := Lib.hid hb; clear hb
  have Hbx := Lib.hid hbx; clear hbx
  have Hbs := Lib.hid hbs; clear hbs
  have Hby2 := Lib.hid hby2; clear hby2
  have Hbc := Lib.hid hbc; clear hbc
  have Hbd := Lib.hid hbd; clear hbd
  have HBW := Lib.hid hbw; clear hbw
  have la := Ha.out.lt
  have lb := Hb.out.lt
  have lbx := Hbx.out.lt
  have lbs := Hbs.out.lt
  have lby2 := Hby2.out.lt
  have lbc := Hbc.out.lt
  have lbd := Hbd.out.lt
  go_wp2_with fail
  clear la lb lbx lbs lby2 lbc lbd
  have ha := Ha.out.alloc (.cells #[.int .i64 Z.d, .int .i64 Z.e, .int .i64 Z.x, .int .i64 Z.y, .int .i64 Z.z] 24); clear Ha
  have hb := Hb.out.alloc (.cells #[.int .i64 Z.d, .int .i64 Z.e, .int .i64 Z.x, .int .i64 Z.y, .int .i64 Z.z] 24); clear Hb
  have hbx := Hbx.out.alloc (.cells #[.int .i64 Z.d, .int .i64 Z.e, .int .i64 Z.x, .int .i64 Z.y, .int .i64 Z.z] 24); clear Hbx
  have hbs := Hbs.out.alloc (.cells #[.int .i64 Z.d, .int .i64 Z.e, .int .i64 Z.x, .int .i64 Z.y, .int .i64 Z.z] 24); clear Hbs
  have hby2 := Hby2.out.alloc (.cells #[.int .i64 Z.d, .int .i64 Z.e, .int .i64 Z.x, .int .i64 Z.y, .int .i64 Z.z] 24); clear Hby2
  have hbc := Hbc.out.alloc (.cells #[.int .i64 Z.d, .int .i64 Z.e, .int .i64 Z.x, .int .i64 Z.y, .int .i64 Z.z] 24); clear Hbc
  have hbd := Hbd.out.alloc (.cells #[.int .i64 Z.d, .int .i64 Z.e, .int .i64 Z.x, .int .i64 Z.y, .int .i64 Z.z] 24); clear Hbd
  have hbt := Holds.made v13 Z
  have hbw := HBW.out.alloc HBW.out.size (.cells #[.int .i64 Z.d, .int .i64 Z.e, .int .i64 Z.x, .int .i64 Z.y, .int .i64 Z.z] 24); clear HBW
  generalize v13.alloc (.cells #[.int .i64 Z.d, .int .i64 Z.e, .int .i64 Z.x, .int .i64 Z.y, .int .i64 Z.z] 24) = v14 at *
  generalize v13.heap.size = gbt at *
  have Ha := Lib.hid ha; clear ha
  have Hb := Lib.hid hb; clear hb
  have Hbx := Lib.hid hbx; clear hbx
  have Hbs := Lib.hid hbs; clear hbs
  have Hby2 := Lib.hid hby2; clear hby2
  have Hbc := Lib.hid hbc; clear hbc
  have Hbd := Lib.hid hbd; clear hbd
  have Hbt := Lib.hid hbt; clear hbt
  have HBW := Lib.hid hbw; clear hbw
  refine (C12.out _).mono ?_; rintro e v15 ⟨rfl, hbel⟩
  have ha := Ha.out.below hbel; clear Ha
  have hb := Hb.out.below hbel; clear Hb
  have hbx := Hbx.out.below hbel; clear Hbx
  have hbs := Hbs.out.below hbel; clear Hbs
  have hby2 := Hby2.out.below hbel; clear Hby2
  have hbc := Hbc.out.below hbel; clear Hbc
  have hbd := Hbd.out.below hbel; clear Hbd
  have hbt := Hbt.out.below hbel; clear Hbt
  have hbw := HBW.out.trans (hbel.mono HBW.out.size); clear HBW hbel
  have Ha := Lib.hid ha; clear ha
  have Hb := Lib.hid hb; clear hb
  have Hbx := Lib.hid hbx; clear hbx
  have Hbs := Lib.hid hbs; clear hbs
  have Hby2 := Lib.hid hby2; clear hby2
  have Hbc := Lib.hid hbc; clear hbc
  have Hbd := Lib.hid hbd; clear hbd
  have Hbt := Lib.hid hbt; clear hbt
  have HBW := Lib.hid hbw; clear hbw
  go_wp2_with fail
  go_ret
  exact ⟨rfl, HBW.out⟩
set_option maxRecDepth 100000 in
set_option maxHeartbeats 8000000 in
theorem walk_00111 (a b : St) (w : World) (hi : a.into = none) (hg : a.round = none) (hl : a.L b) (hi2 : b.into = none) (c d : St) (ho : a.out = some c) (ho2 : b.out = some d) (t : St) (hh : b.round = some t) : Calls Try.prog 6 #[a.val, b.val] w fun e w' => e = .returned (.bool true) ∧ Below w.heap.size w w' := by
  have c1 := opt_is hi (fun w => into_any a w)
  have c3 := opt_is hg (fun w => step_any a w)
  have c5 := call_is (decide_eq_true hl) (fun w => leq_any a b w)
  have c12 := fun w => works_any w
  have c6 := opt_is hi2 (fun w => into_any b w)
  have c8 := opt_is ho (fun w => out_any a w)
  have c9 := opt_is ho2 (fun w => out_any b w)
  have c10 := call_is (decide_eq_true ((St.out_mono hl).2 c d ho ho2)) (fun w => leq_any c d w)
  have c11 := opt_is hh (fun w => step_any b w)
  have z : ov none = St.zero := rfl
  simp only [ov, Option.getD_none, Option.getD_some, Option.isSome_none, Option.isSome_some] at *
  clear z hl hi hg hi2 ho ho2 hh
  generalize St.zero = Z at *
  unfold St.val at *
  have C1 := Lib.hid c1; clear c1
  have C3 := Lib.hid c3; clear c3
  have C5 := Lib.hid c5; clear c5
  have C12 := Lib.hid c12; clear c12
  have C6 := Lib.hid c6; clear c6
  have C8 := Lib.hid c8; clear c8
  have C9 := Lib.hid c9; clear c9
  have C10 := Lib.hid c10; clear c10
  have C11 := Lib.hid c11; clear c11
  have ha := Holds.made w a
  have ha := ha.alloc (.cells #[.int .i64 b.d, .int .i64 b.e, .int .i64 b.x, .int .i64 b.y, .int .i64 b.z] 24)
  have hb := Holds.made (w.alloc (.cells #[.int .i64 a.d, .int .i64 a.e, .int .i64 a.x, .int .i64 a.y, .int .i64 a.z] 24)) b
  rw [size_alloc] at hb
  have hbw : Below w.heap.size w ((w.alloc (.cells #[.int .i64 a.d, .int .i64 a.e, .int .i64 a.x, .int .i64 a.y, .int .i64 a.z] 24)).alloc (.cells #[.int .i64 b.d, .int .i64 b.e, .int .i64 b.x, .int .i64 b.y, .int .i64 b.z] 24)) := ((Below.refl _ _).alloc (by simp) _).alloc (by simp) _
  have Ha := Lib.hid ha; clear ha
  have Hb := Lib.hid hb; clear hb
  have HBW := Lib.hid hbw; clear hbw
  go_enter Try.func6, Try.ntmps6
  go_wp2_with fail
  generalize (w.alloc (.cells #[.int .i64 a.d, .int .i64 a.e, .int .i64 a.x, .int .i64 a.y, .int .i64 a.z] 24)).alloc (.cells #[.int .i64 b.d, .int .i64 b.e, .int .i64 b.x, .int .i64 b.y, .int .i64 b.z] 24) = w0 at *
  refine (C1.out _).mono ?_; rintro e v1 ⟨rfl, hbel⟩
  have ha := Ha.out.below hbel; clear Ha
  have hb := Hb.out.below hbel; clear Hb
  have hbw := HBW.out.trans (hbel.mono HBW.out.size); clear HBW hbel
  have Ha := Lib.hid ha; clear ha
  have Hb := Lib.hid hb; clear hb
  have HBW := Lib.hid hbw; clear hbw
  have la := Ha.out.lt
  have lb := Hb.out.lt
  obtain ⟨ca0, ca1, ca2, ca3, ca4⟩ := Ha.out.cells5
  go_wp2_with fail
  clear la lb ca0 ca1 ca2 ca3 ca4
  have ha := Ha.out.alloc (.cells #[.int .i64 Z.d, .int .i64 Z.e, .int .i64 Z.x, .int .i64 Z.y, .int .i64 Z.z] 24); clear Ha
  have hb := Hb.out.alloc (.cells #[.int .i64 Z.d, .int .i64 Z.e, .int .i64 Z.x, .int .i64 Z.y, .int .i64 Z.z] 24); clear Hb
  have hbx := Holds.made v1 Z
  have hbw := HBW.out.alloc HBW.out.size (.cells #[.int .i64 Z.d, .int .i64 Z.e, .int .i64 Z.x, .int .i64 Z.y, .int .i64 Z.z] 24); clear HBW
  generalize v1.alloc (.cells #[.int .i64 Z.d, .int .i64 Z.e, .int .i64 Z.x, .int .i64 Z.y, .int .i64 Z.z] 24) = v2 at *
  generalize v1.heap.size = gbx at *
  have Ha := Lib.hid ha; clear ha
  have Hb := Lib.hid hb; clear hb
  have Hbx := Lib.hid hbx; clear hbx
  have HBW := Lib.hid hbw; clear hbw
  refine (C3.out _).mono ?_; rintro e v3 ⟨rfl, hbel⟩
  have ha := Ha.out.below hbel; clear Ha
  have hb := Hb.out.below hbel; clear Hb
  have hbx := Hbx.out.below hbel; clear Hbx
  have hbw := HBW.out.trans (hbel.mono HBW.out.size); clear HBW hbel
  have Ha := Lib.hid ha; clear ha
  have Hb := Lib.hid hb; clear hb
  have Hbx := Lib.hid hbx; clear hbx
  have HBW := Lib.hid hbw; clear hbw
  have la := Ha.out.lt
  have lb := Hb.out.lt
  have lbx := Hbx.out.lt
  obtain ⟨ca0, ca1, ca2, ca3, ca4⟩ := Ha.out.cells5
  obtain ⟨cb0, cb1, cb2, cb3, cb4⟩ := Hb.out.cells5
  go_wp2_with fail
  clear la lb lbx ca0 ca1 ca2 ca3 ca4 cb0 cb1 cb2 cb3 cb4
  have ha := Ha.out.alloc (.cells #[.int .i64 Z.d, .int .i64 Z.e, .int .i64 Z.x, .int .i64 Z.y, .int .i64 Z.z] 24); clear Ha
  have hb := Hb.out.alloc (.cells #[.int .i64 Z.d, .int .i64 Z.e, .int .i64 Z.x, .int .i64 Z.y, .int .i64 Z.z] 24); clear Hb
  have hbx := Hbx.out.alloc (.cells #[.int .i64 Z.d, .int .i64 Z.e, .int .i64 Z.x, .int .i64 Z.y, .int .i64 Z.z] 24); clear Hbx
  have hbs := Holds.made v3 Z
  have hbw := HBW.out.alloc HBW.out.size (.cells #[.int .i64 Z.d, .int .i64 Z.e, .int .i64 Z.x, .int .i64 Z.y, .int .i64 Z.z] 24); clear HBW
  generalize v3.alloc (.cells #[.int .i64 Z.d, .int .i64 Z.e, .int .i64 Z.x, .int .i64 Z.y, .int .i64 Z.z] 24) = v4 at *
  generalize v3.heap.size = gbs at *
  have Ha := Lib.hid ha; clear ha
  have Hb := Lib.hid hb; clear hb
  have Hbx := Lib.hid hbx; clear hbx
  have Hbs := Lib.hid hbs; clear hbs
  have HBW := Lib.hid hbw; clear hbw
  refine (C5.out _).mono ?_; rintro e v5 ⟨rfl, hbel⟩
  have ha := Ha.out.below hbel; clear Ha
  have hb := Hb.out.below hbel; clear Hb
  have hbx := Hbx.out.below hbel; clear Hbx
  have hbs := Hbs.out.below hbel; clear Hbs
  have hbw := HBW.out.trans (hbel.mono HBW.out.size); clear HBW hbel
  have Ha := Lib.hid ha; clear ha
  have Hb := Lib.hid hb; clear hb
  have Hbx := Lib.hid hbx; clear hbx
  have Hbs := Lib.hid hbs; clear hbs
  have HBW := Lib.hid hbw; clear hbw
  have la := Ha.out.lt
  have lb := Hb.out.lt
  have lbx := Hbx.out.lt
  have lbs := Hbs.out.lt
  obtain ⟨cb0, cb1, cb2, cb3, cb4⟩ := Hb.out.cells5
  go_wp2_with fail
  clear la lb lbx lbs cb0 cb1 cb2 cb3 cb4
  refine (C6.out _).mono ?_; rintro e v6 ⟨rfl, hbel⟩
  have ha := Ha.out.below hbel; clear Ha
  have hb := Hb.out.below hbel; clear Hb
  have hbx := Hbx.out.below hbel; clear Hbx
  have hbs := Hbs.out.below hbel; clear Hbs
  have hbw := HBW.out.trans (hbel.mono HBW.out.size); clear HBW hbel
  have Ha := Lib.hid ha; clear ha
  have Hb := Lib.hid hb; clear hb
  have Hbx := Lib.hid hbx; clear hbx
  have Hbs := Lib.hid hbs; clear hbs
  have HBW := Lib.hid hbw; clear hbw
  have la := Ha.out.lt
  have lb := Hb.out.lt
  have lbx := Hbx.out.lt
  have lbs := Hbs.out.lt
  obtain ⟨ca0, ca1, ca2, ca3, ca4⟩ := Ha.out.cells5
  go_wp2_with fail
  clear la lb lbx lbs ca0 ca1 ca2 ca3 ca4
  have ha := Ha.out.alloc (.cells #[.int .i64 Z.d, .int .i64 Z.e, .int .i64 Z.x, .int .i64 Z.y, .int .i64 Z.z] 24); clear Ha
  have hb := Hb.out.alloc (.cells #[.int .i64 Z.d, .int .i64 Z.e, .int .i64 Z.x, .int .i64 Z.y, .int .i64 Z.z] 24); clear Hb
  have hbx := Hbx.out.alloc (.cells #[.int .i64 Z.d, .int .i64 Z.e, .int .i64 Z.x, .int .i64 Z.y, .int .i64 Z.z] 24); clear Hbx
  have hbs := Hbs.out.alloc (.cells #[.int .i64 Z.d, .int .i64 Z.e, .int .i64 Z.x, .int .i64 Z.y, .int .i64 Z.z] 24); clear Hbs
  have hby2 := Holds.made v6 Z
  have hbw := HBW.out.alloc HBW.out.size (.cells #[.int .i64 Z.d, .int .i64 Z.e, .int .i64 Z.x, .int .i64 Z.y, .int .i64 Z.z] 24); clear HBW
  generalize v6.alloc (.cells #[.int .i64 Z.d, .int .i64 Z.e, .int .i64 Z.x, .int .i64 Z.y, .int .i64 Z.z] 24) = v7 at *
  generalize v6.heap.size = gby2 at *
  have Ha := Lib.hid ha; clear ha
  have Hb := Lib.hid hb; clear hb
  have Hbx := Lib.hid hbx; clear hbx
  have Hbs := Lib.hid hbs; clear hbs
  have Hby2 := Lib.hid hby2; clear hby2
  have HBW := Lib.hid hbw; clear hbw
  refine (C8.out _).mono ?_; rintro e v8 ⟨rfl, hbel⟩
  have ha := Ha.out.below hbel; clear Ha
  have hb := Hb.out.below hbel; clear Hb
  have hbx := Hbx.out.below hbel; clear Hbx
  have hbs := Hbs.out.below hbel; clear Hbs
  have hby2 := Hby2.out.below hbel; clear Hby2
  have hbw := HBW.out.trans (hbel.mono HBW.out.size); clear HBW hbel
  have Ha := Lib.hid ha; clear ha
  have Hb := Lib.hid hb; clear hb
  have Hbx := Lib.hid hbx; clear hbx
  have Hbs := Lib.hid hbs; clear hbs
  have Hby2 := Lib.hid hby2; clear hby2
  have HBW := Lib.hid hbw; clear hbw
  have la := Ha.out.lt
  have lb := Hb.out.lt
  have lbx := Hbx.out.lt
  have lbs := Hbs.out.lt
  have lby2 := Hby2.out.lt
  obtain ⟨cb0, cb1, cb2, cb3, cb4⟩ := Hb.out.cells5
  go_wp2_with fail
  clear la lb lbx lbs lby2 cb0 cb1 cb2 cb3 cb4
  have ha := Ha.out.alloc (.cells #[.int .i64 c.d, .int .i64 c.e, .int .i64 c.x, .int .i64 c.y, .int .i64 c.z] 24); clear Ha
  have hb := Hb.out.alloc (.cells #[.int .i64 c.d, .int .i64 c.e, .int .i64 c.x, .int .i64 c.y, .int .i64 c.z] 24); clear Hb
  have hbx := Hbx.out.alloc (.cells #[.int .i64 c.d, .int .i64 c.e, .int .i64 c.x, .int .i64 c.y, .int .i64 c.z] 24); clear Hbx
  have hbs := Hbs.out.alloc (.cells #[.int .i64 c.d, .int .i64 c.e, .int .i64 c.x, .int .i64 c.y, .int .i64 c.z] 24); clear Hbs
  have hby2 := Hby2.out.alloc (.cells #[.int .i64 c.d, .int .i64 c.e, .int .i64 c.x, .int .i64 c.y, .int .i64 c.z] 24); clear Hby2
  have hbc := Holds.made v8 c
  have hbw := HBW.out.alloc HBW.out.size (.cells #[.int .i64 c.d, .int .i64 c.e, .int .i64 c.x, .int .i64 c.y, .int .i64 c.z] 24); clear HBW
  generalize v8.alloc (.cells #[.int .i64 c.d, .int .i64 c.e, .int .i64 c.x, .int .i64 c.y, .int .i64 c.z] 24) = v9 at *
  generalize v8.heap.size = gbc at *
  have Ha := Lib.hid ha; clear ha
  have Hb := Lib.hid hb; clear hb
  have Hbx := Lib.hid hbx; clear hbx
  have Hbs := Lib.hid hbs; clear hbs
  have Hby2 := Lib.hid hby2; clear hby2
  have Hbc := Lib.hid hbc; clear hbc
  have HBW := Lib.hid hbw; clear hbw
  refine (C9.out _).mono ?_; rintro e v10 ⟨rfl, hbel⟩
  have ha := Ha.out.below hbel; clear Ha
  have hb := Hb.out.below hbel; clear Hb
  have hbx := Hbx.out.below hbel; clear Hbx
  have hbs := Hbs.out.below hbel; clear Hbs
  have hby2 := Hby2.out.below hbel; clear Hby2
  have hbc := Hbc.out.below hbel; clear Hbc
  have hbw := HBW.out.trans (hbel.mono HBW.out.size); clear HBW hbel
  have Ha := Lib.hid ha; clear ha
  have Hb := Lib.hid hb; clear hb
  have Hbx := Lib.hid hbx; clear hbx
  have Hbs := Lib.hid hbs; clear hbs
  have Hby2 := Lib.hid hby2; clear hby2
  have Hbc := Lib.hid hbc; clear hbc
  have HBW := Lib.hid hbw; clear hbw
  have la := Ha.out.lt
  have lb := Hb.out.lt
  have lbx := Hbx.out.lt
  have lbs := Hbs.out.lt
  have lby2 := Hby2.out.lt
  have lbc := Hbc.out.lt
  obtain ⟨cbc0, cbc1, cbc2, cbc3, cbc4⟩ := Hbc.out.cells5
  go_wp2_with fail
  clear la lb lbx lbs lby2 lbc cbc0 cbc1 cbc2 cbc3 cbc4
  have ha := Ha.out.alloc (.cells #[.int .i64 d.d, .int .i64 d.e, .int .i64 d.x, .int .i64 d.y, .int .i64 d.z] 24); clear Ha
  have hb := Hb.out.alloc (.cells #[.int .i64 d.d, .int .i64 d.e, .int .i64 d.x, .int .i64 d.y, .int .i64 d.z] 24); clear Hb
  have hbx := Hbx.out.alloc (.cells #[.int .i64 d.d, .int .i64 d.e, .int .i64 d.x, .int .i64 d.y, .int .i64 d.z] 24); clear Hbx
  have hbs := Hbs.out.alloc (.cells #[.int .i64 d.d, .int .i64 d.e, .int .i64 d.x, .int .i64 d.y, .int .i64 d.z] 24); clear Hbs
  have hby2 := Hby2.out.alloc (.cells #[.int .i64 d.d, .int .i64 d.e, .int .i64 d.x, .int .i64 d.y, .int .i64 d.z] 24); clear Hby2
  have hbc := Hbc.out.alloc (.cells #[.int .i64 d.d, .int .i64 d.e, .int .i64 d.x, .int .i64 d.y, .int .i64 d.z] 24); clear Hbc
  have hbd := Holds.made v10 d
  have hbw := HBW.out.alloc HBW.out.size (.cells #[.int .i64 d.d, .int .i64 d.e, .int .i64 d.x, .int .i64 d.y, .int .i64 d.z] 24); clear HBW
  generalize v10.alloc (.cells #[.int .i64 d.d, .int .i64 d.e, .int .i64 d.x, .int .i64 d.y, .int .i64 d.z] 24) = v11 at *
  generalize v10.heap.size = gbd at *
  have Ha := Lib.hid ha; clear ha
  have Hb := Lib.hid hb; clear hb
  have Hbx := Lib.hid hbx; clear hbx
  have Hbs := Lib.hid hbs; clear hbs
  have Hby2 := Lib.hid hby2; clear hby2
  have Hbc := Lib.hid hbc; clear hbc
  have Hbd := Lib.hid hbd; clear hbd
  have HBW := Lib.hid hbw; clear hbw
  refine (C10.out _).mono ?_; rintro e v12 ⟨rfl, hbel⟩
  have ha := Ha.out.below hbel; clear Ha
  have hb := Hb.out.below hbel; clear Hb
  have hbx := Hbx.out.below hbel; clear Hbx
  have hbs := Hbs.out.below hbel; clear Hbs
  have hby2 := Hby2.out.below hbel; clear Hby2
  have hbc := Hbc.out.below hbel; clear Hbc
  have hbd := Hbd.out.below hbel; clear Hbd
  have hbw := HBW.out.trans (hbel.mono HBW.out.size); clear HBW hbel
  have Ha := Lib.hid ha; clear ha
  have Hb := Lib.hid hb; clear hb
  have Hbx := Lib.hid hbx; clear hbx
  have Hbs := Lib.hid hbs; clear hbs
  have Hby2 := Lib.hid hby2; clear hby2
  have Hbc := Lib.hid hbc; clear hbc
  have Hbd := Lib.hid hbd; clear hbd
  have HBW := Lib.hid hbw; clear hbw
  have la := Ha.out.lt
  have lb := Hb.out.lt
  have lbx := Hbx.out.lt
  have lbs := Hbs.out.lt
  have lby2 := Hby2.out.lt
  have lbc := Hbc.out.lt
  have lbd := Hbd.out.lt
  obtain ⟨cb0, cb1, cb2, cb3, cb4⟩ := Hb.out.cells5
  go_wp2_with fail
  clear la lb lbx lbs lby2 lbc lbd cb0 cb1 cb2 cb3 cb4
  refine (C11.out _).mono ?_; rintro e v13 ⟨rfl, hbel⟩
  have ha := Ha.out.below hbel; clear Ha
  have hb := Hb.out.below hbel; clear Hb
  have hbx := Hbx.out.below hbel; clear Hbx
  have hbs := Hbs.out.below hbel; clear Hbs
  have hby2 := Hby2.out.below hbel; clear Hby2
  have hbc := Hbc.out.below hbel; clear Hbc
  have hbd := Hbd.out.below hbel; clear Hbd
  have hbw := HBW.out.trans (hbel.mono HBW.out.size); clear HBW hbel
  have Ha := Lib.hid ha; clear ha
  have Hb := Lib.hid hb; clear hb
  have Hbx := Lib.hid hbx; clear hbx
  have Hbs := Lib.hid hbs; clear hbs
  have Hby2 := Lib.hid hby2; clear hby2
  have Hbc := Lib.hid hbc; clear hbc
  have Hbd := Lib.hid hbd; clear hbd
  have HBW := Lib.hid hbw; clear hbw
  have la := Ha.out.lt
  have lb := Hb.out.lt
  have lbx := Hbx.out.lt
  have lbs := Hbs.out.lt
  have lby2 := Hby2.out.lt
  have lbc := Hbc.out.lt
  have lbd := Hbd.out.lt
  go_wp2_with fail
  clear la lb lbx lbs lby2 lbc lbd
  have ha := Ha.out.alloc (.cells #[.int .i64 t.d, .int .i64 t.e, .int .i64 t.x, .int .i64 t.y, .int .i64 t.z] 24); clear Ha
  have hb := Hb.out.alloc (.cells #[.int .i64 t.d, .int .i64 t.e, .int .i64 t.x, .int .i64 t.y, .int .i64 t.z] 24); clear Hb
  have hbx := Hbx.out.alloc (.cells #[.int .i64 t.d, .int .i64 t.e, .int .i64 t.x, .int .i64 t.y, .int .i64 t.z] 24); clear Hbx
  have hbs := Hbs.out.alloc (.cells #[.int .i64 t.d, .int .i64 t.e, .int .i64 t.x, .int .i64 t.y, .int .i64 t.z] 24); clear Hbs
  have hby2 := Hby2.out.alloc (.cells #[.int .i64 t.d, .int .i64 t.e, .int .i64 t.x, .int .i64 t.y, .int .i64 t.z] 24); clear Hby2
  have hbc := Hbc.out.alloc (.cells #[.int .i64 t.d, .int .i64 t.e, .int .i64 t.x, .int .i64 t.y, .int .i64 t.z] 24); clear Hbc
  have hbd := Hbd.out.alloc (.cells #[.int .i64 t.d, .int .i64 t.e, .int .i64 t.x, .int .i64 t.y, .int .i64 t.z] 24); clear Hbd
  have hbt := Holds.made v13 t
  have hbw := HBW.out.alloc HBW.out.size (.cells #[.int .i64 t.d, .int .i64 t.e, .int .i64 t.x, .int .i64 t.y, .int .i64 t.z] 24); clear HBW
  generalize v13.alloc (.cells #[.int .i64 t.d, .int .i64 t.e, .int .i64 t.x, .int .i64 t.y, .int .i64 t.z] 24) = v14 at *
  generalize v13.heap.size = gbt at *
  have Ha := Lib.hid ha; clear ha
  have Hb := Lib.hid hb; clear hb
  have Hbx := Lib.hid hbx; clear hbx
  have Hbs := Lib.hid hbs; clear hbs
  have Hby2 := Lib.hid hby2; clear hby2
  have Hbc := Lib.hid hbc; clear hbc
  have Hbd := Lib.hid hbd; clear hbd
  have Hbt := Lib.hid hbt; clear hbt
  have HBW := Lib.hid hbw; clear hbw
  refine (C12.out _).mono ?_; rintro e v15 ⟨rfl, hbel⟩
  have ha := Ha.out.below hbel; clear Ha
  have hb := Hb.out.below hbel; clear Hb
  have hbx := Hbx.out.below hbel; clear Hbx
  have hbs := Hbs.out.below hbel; clear Hbs
  have hby2 := Hby2.out.below hbel; clear Hby2
  have hbc := Hbc.out.below hbel; clear Hbc
  have hbd := Hbd.out.below hbel; clear Hbd
  have hbt := Hbt.out.below hbel; clear Hbt
  have hbw := HBW.out.trans (hbel.mono HBW.out.size); clear HBW hbel
  have Ha := Lib.hid ha; clear ha
  have Hb := Lib.hid hb; clear hb
  have Hbx := Lib.hid hbx; clear hbx
  have Hbs := Lib.hid hbs; clear hbs
  have Hby2 := Lib.hid hby2; clear hby2
  have Hbc := Lib.hid hbc; clear hbc
  have Hbd := Lib.hid hbd; clear hbd
  have Hbt := Lib.hid hbt; clear hbt
  have HBW := Lib.hid hbw; clear hbw
  go_wp2_with fail
  go_ret
  exact ⟨rfl, HBW.out⟩
set_option maxRecDepth 100000 in
set_option maxHeartbeats 8000000 in
theorem walk_010 (a b : St) (w : World) (hi : a.into = none) (s : St) (hg : a.round = some s) (hl : ¬ a.L b) : Calls Try.prog 6 #[a.val, b.val] w fun e w' => e = .returned (.bool true) ∧ Below w.heap.size w w' := by
  have c1 := opt_is hi (fun w => into_any a w)
  have c3 := opt_is hg (fun w => step_any a w)
  have c4 := call_is (decide_eq_true (St.round_gt hg).1) (fun w => leq_any a s w)
  have k1 : eqB s a = false := by unfold eqB; exact decide_eq_false (St.round_gt hg).2
  have c5 := call_is (decide_eq_false hl) (fun w => leq_any a b w)
  have c12 := fun w => works_any w
  have z : ov none = St.zero := rfl
  simp only [ov, Option.getD_none, Option.getD_some, Option.isSome_none, Option.isSome_some] at *
  clear z hl hi hg
  generalize St.zero = Z at *
  unfold St.val at *
  have e1 : ∀ w, (Op.equalIn 10000 24 (.agg #[.int .i64 s.d, .int .i64 s.e, .int .i64 s.x, .int .i64 s.y, .int .i64 s.z]) (.agg #[.int .i64 a.d, .int .i64 a.e, .int .i64 a.x, .int .i64 a.y, .int .i64 a.z])).run Try.prog w = .ok false w := fun w => by rw [run_eq5]; exact congrArg (fun b => Result.ok b w) k1
  have HE1 := Lib.hid e1; clear e1
  have C1 := Lib.hid c1; clear c1
  have C3 := Lib.hid c3; clear c3
  have C5 := Lib.hid c5; clear c5
  have C12 := Lib.hid c12; clear c12
  have C4 := Lib.hid c4; clear c4
  clear k1
  have ha := Holds.made w a
  have ha := ha.alloc (.cells #[.int .i64 b.d, .int .i64 b.e, .int .i64 b.x, .int .i64 b.y, .int .i64 b.z] 24)
  have hb := Holds.made (w.alloc (.cells #[.int .i64 a.d, .int .i64 a.e, .int .i64 a.x, .int .i64 a.y, .int .i64 a.z] 24)) b
  rw [size_alloc] at hb
  have hbw : Below w.heap.size w ((w.alloc (.cells #[.int .i64 a.d, .int .i64 a.e, .int .i64 a.x, .int .i64 a.y, .int .i64 a.z] 24)).alloc (.cells #[.int .i64 b.d, .int .i64 b.e, .int .i64 b.x, .int .i64 b.y, .int .i64 b.z] 24)) := ((Below.refl _ _).alloc (by simp) _).alloc (by simp) _
  have Ha := Lib.hid ha; clear ha
  have Hb := Lib.hid hb; clear hb
  have HBW := Lib.hid hbw; clear hbw
  go_enter Try.func6, Try.ntmps6
  go_wp2_with fail
  generalize (w.alloc (.cells #[.int .i64 a.d, .int .i64 a.e, .int .i64 a.x, .int .i64 a.y, .int .i64 a.z] 24)).alloc (.cells #[.int .i64 b.d, .int .i64 b.e, .int .i64 b.x, .int .i64 b.y, .int .i64 b.z] 24) = w0 at *
  refine (C1.out _).mono ?_; rintro e v1 ⟨rfl, hbel⟩
  have ha := Ha.out.below hbel; clear Ha
  have hb := Hb.out.below hbel; clear Hb
  have hbw := HBW.out.trans (hbel.mono HBW.out.size); clear HBW hbel
  have Ha := Lib.hid ha; clear ha
  have Hb := Lib.hid hb; clear hb
  have HBW := Lib.hid hbw; clear hbw
  have la := Ha.out.lt
  have lb := Hb.out.lt
  obtain ⟨ca0, ca1, ca2, ca3, ca4⟩ := Ha.out.cells5
  go_wp2_with fail
  clear la lb ca0 ca1 ca2 ca3 ca4
  have ha := Ha.out.alloc (.cells #[.int .i64 Z.d, .int .i64 Z.e, .int .i64 Z.x, .int .i64 Z.y, .int .i64 Z.z] 24); clear Ha
  have hb := Hb.out.alloc (.cells #[.int .i64 Z.d, .int .i64 Z.e, .int .i64 Z.x, .int .i64 Z.y, .int .i64 Z.z] 24); clear Hb
  have hbx := Holds.made v1 Z
  have hbw := HBW.out.alloc HBW.out.size (.cells #[.int .i64 Z.d, .int .i64 Z.e, .int .i64 Z.x, .int .i64 Z.y, .int .i64 Z.z] 24); clear HBW
  generalize v1.alloc (.cells #[.int .i64 Z.d, .int .i64 Z.e, .int .i64 Z.x, .int .i64 Z.y, .int .i64 Z.z] 24) = v2 at *
  generalize v1.heap.size = gbx at *
  have Ha := Lib.hid ha; clear ha
  have Hb := Lib.hid hb; clear hb
  have Hbx := Lib.hid hbx; clear hbx
  have HBW := Lib.hid hbw; clear hbw
  refine (C3.out _).mono ?_; rintro e v3 ⟨rfl, hbel⟩
  have ha := Ha.out.below hbel; clear Ha
  have hb := Hb.out.below hbel; clear Hb
  have hbx := Hbx.out.below hbel; clear Hbx
  have hbw := HBW.out.trans (hbel.mono HBW.out.size); clear HBW hbel
  have Ha := Lib.hid ha; clear ha
  have Hb := Lib.hid hb; clear hb
  have Hbx := Lib.hid hbx; clear hbx
  have HBW := Lib.hid hbw; clear hbw
  have la := Ha.out.lt
  have lb := Hb.out.lt
  have lbx := Hbx.out.lt
  obtain ⟨ca0, ca1, ca2, ca3, ca4⟩ := Ha.out.cells5
  go_wp2_with fail
  clear la lb lbx ca0 ca1 ca2 ca3 ca4
  have ha := Ha.out.alloc (.cells #[.int .i64 s.d, .int .i64 s.e, .int .i64 s.x, .int .i64 s.y, .int .i64 s.z] 24); clear Ha
  have hb := Hb.out.alloc (.cells #[.int .i64 s.d, .int .i64 s.e, .int .i64 s.x, .int .i64 s.y, .int .i64 s.z] 24); clear Hb
  have hbx := Hbx.out.alloc (.cells #[.int .i64 s.d, .int .i64 s.e, .int .i64 s.x, .int .i64 s.y, .int .i64 s.z] 24); clear Hbx
  have hbs := Holds.made v3 s
  have hbw := HBW.out.alloc HBW.out.size (.cells #[.int .i64 s.d, .int .i64 s.e, .int .i64 s.x, .int .i64 s.y, .int .i64 s.z] 24); clear HBW
  generalize v3.alloc (.cells #[.int .i64 s.d, .int .i64 s.e, .int .i64 s.x, .int .i64 s.y, .int .i64 s.z] 24) = v4 at *
  generalize v3.heap.size = gbs at *
  have Ha := Lib.hid ha; clear ha
  have Hb := Lib.hid hb; clear hb
  have Hbx := Lib.hid hbx; clear hbx
  have Hbs := Lib.hid hbs; clear hbs
  have HBW := Lib.hid hbw; clear hbw
  refine (C4.out _).mono ?_; rintro e v5 ⟨rfl, hbel⟩
  have ha := Ha.out.below hbel; clear Ha
  have hb := Hb.out.below hbel; clear Hb
  have hbx := Hbx.out.below hbel; clear Hbx
  have hbs := Hbs.out.below hbel; clear Hbs
  have hbw := HBW.out.trans (hbel.mono HBW.out.size); clear HBW hbel
  have Ha := Lib.hid ha; clear ha
  have Hb := Lib.hid hb; clear hb
  have Hbx := Lib.hid hbx; clear hbx
  have Hbs := Lib.hid hbs; clear hbs
  have HBW := Lib.hid hbw; clear hbw
  have e1 := HE1.out
  have la := Ha.out.lt
  have lb := Hb.out.lt
  have lbx := Hbx.out.lt
  have lbs := Hbs.out.lt
  obtain ⟨ca0, ca1, ca2, ca3, ca4⟩ := Ha.out.cells5
  obtain ⟨cb0, cb1, cb2, cb3, cb4⟩ := Hb.out.cells5
  obtain ⟨cbs0, cbs1, cbs2, cbs3, cbs4⟩ := Hbs.out.cells5
  go_wp2_with fail
  clear la lb lbx lbs ca0 ca1 ca2 ca3 ca4 cb0 cb1 cb2 cb3 cb4 cbs0 cbs1 cbs2 cbs3 cbs4
  refine (C5.out _).mono ?_; rintro e v6 ⟨rfl, hbel⟩
  have ha := Ha.out.below hbel; clear Ha
  have hb := Hb.out.below hbel; clear Hb
  have hbx := Hbx.out.below hbel; clear Hbx
  have hbs := Hbs.out.below hbel; clear Hbs
  have hbw := HBW.out.trans (hbel.mono HBW.out.size); clear HBW hbel
  have Ha := Lib.hid ha; clear ha
  have Hb := Lib.hid hb; clear hb
  have Hbx := Lib.hid hbx; clear hbx
  have Hbs := Lib.hid hbs; clear hbs
  have HBW := Lib.hid hbw; clear hbw
  clear e1
  have la := Ha.out.lt
  have lb := Hb.out.lt
  have lbx := Hbx.out.lt
  have lbs := Hbs.out.lt
  go_wp2_with fail
  clear la lb lbx lbs
  refine (C12.out _).mono ?_; rintro e v7 ⟨rfl, hbel⟩
  have ha := Ha.out.below hbel; clear Ha
  have hb := Hb.out.below hbel; clear Hb
  have hbx := Hbx.out.below hbel; clear Hbx
  have hbs := Hbs.out.below hbel; clear Hbs
  have hbw := HBW.out.trans (hbel.mono HBW.out.size); clear HBW hbel
  have Ha := Lib.hid ha; clear ha
  have Hb := Lib.hid hb; clear hb
  have Hbx := Lib.hid hbx; clear hbx
  have Hbs := Lib.hid hbs; clear hbs
  have HBW := Lib.hid hbw; clear hbw
  go_wp2_with fail
  go_ret
  exact ⟨rfl, HBW.out⟩
set_option maxRecDepth 100000 in
set_option maxHeartbeats 8000000 in
theorem walk_01100 (a b : St) (w : World) (hi : a.into = none) (s : St) (hg : a.round = some s) (hl : a.L b) (hi2 : b.into = none) (ho : a.out = none) (ho2 : b.out = none) (hh : b.round = none) : Calls Try.prog 6 #[a.val, b.val] w fun e w' => e = .returned (.bool true) ∧ Below w.heap.size w w' := by
  have c1 := opt_is hi (fun w => into_any a w)
  have c3 := opt_is hg (fun w => step_any a w)
  have c4 := call_is (decide_eq_true (St.round_gt hg).1) (fun w => leq_any a s w)
  have k1 : eqB s a = false := by unfold eqB; exact decide_eq_false (St.round_gt hg).2
  have c5 := call_is (decide_eq_true hl) (fun w => leq_any a b w)
  have c12 := fun w => works_any w
  have c6 := opt_is hi2 (fun w => into_any b w)
  have c8 := opt_is ho (fun w => out_any a w)
  have c9 := opt_is ho2 (fun w => out_any b w)
  have c11 := opt_is hh (fun w => step_any b w)
  have z : ov none = St.zero := rfl
  simp only [ov, Option.getD_none, Option.getD_some, Option.isSome_none, Option.isSome_some] at *
  clear z hl hi hg hi2 ho ho2 hh
  generalize St.zero = Z at *
  unfold St.val at *
  have e1 : ∀ w, (Op.equalIn 10000 24 (.agg #[.int .i64 s.d, .int .i64 s.e, .int .i64 s.x, .int .i64 s.y, .int .i64 s.z]) (.agg #[.int .i64 a.d, .int .i64 a.e, .int .i64 a.x, .int .i64 a.y, .int .i64 a.z])).run Try.prog w = .ok false w := fun w => by rw [run_eq5]; exact congrArg (fun b => Result.ok b w) k1
  have HE1 := Lib.hid e1; clear e1
  have C1 := Lib.hid c1; clear c1
  have C3 := Lib.hid c3; clear c3
  have C5 := Lib.hid c5; clear c5
  have C12 := Lib.hid c12; clear c12
  have C4 := Lib.hid c4; clear c4
  clear k1
  have C6 := Lib.hid c6; clear c6
  have C8 := Lib.hid c8; clear c8
  have C9 := Lib.hid c9; clear c9
  have C11 := Lib.hid c11; clear c11
  have ha := Holds.made w a
  have ha := ha.alloc (.cells #[.int .i64 b.d, .int .i64 b.e, .int .i64 b.x, .int .i64 b.y, .int .i64 b.z] 24)
  have hb := Holds.made (w.alloc (.cells #[.int .i64 a.d, .int .i64 a.e, .int .i64 a.x, .int .i64 a.y, .int .i64 a.z] 24)) b
  rw [size_alloc] at hb
  have hbw : Below w.heap.size w ((w.alloc (.cells #[.int .i64 a.d, .int .i64 a.e, .int .i64 a.x, .int .i64 a.y, .int .i64 a.z] 24)).alloc (.cells #[.int .i64 b.d, .int .i64 b.e, .int .i64 b.x, .int .i64 b.y, .int .i64 b.z] 24)) := ((Below.refl _ _).alloc (by simp) _).alloc (by simp) _
  have Ha := Lib.hid ha; clear ha
  have Hb := Lib.hid hb; clear hb
  have HBW := Lib.hid hbw; clear hbw
  go_enter Try.func6, Try.ntmps6
  go_wp2_with fail
  generalize (w.alloc (.cells #[.int .i64 a.d, .int .i64 a.e, .int .i64 a.x, .int .i64 a.y, .int .i64 a.z] 24)).alloc (.cells #[.int .i64 b.d, .int .i64 b.e, .int .i64 b.x, .int .i64 b.y, .int .i64 b.z] 24) = w0 at *
  refine (C1.out _).mono ?_; rintro e v1 ⟨rfl, hbel⟩
  have ha := Ha.out.below hbel; clear Ha
  have hb := Hb.out.below hbel; clear Hb
  have hbw := HBW.out.trans (hbel.mono HBW.out.size); clear HBW hbel
  have Ha := Lib.hid ha; clear ha
  have Hb := Lib.hid hb; clear hb
  have HBW := Lib.hid hbw; clear hbw
  have la := Ha.out.lt
  have lb := Hb.out.lt
  obtain ⟨ca0, ca1, ca2, ca3, ca4⟩ := Ha.out.cells5
  go_wp2_with fail
  clear la lb ca0 ca1 ca2 ca3 ca4
  have ha := Ha.out.alloc (.cells #[.int .i64 Z.d, .int .i64 Z.e, .int .i64 Z.x, .int .i64 Z.y, .int .i64 Z.z] 24); clear Ha
  have hb := Hb.out.alloc (.cells #[.int .i64 Z.d, .int .i64 Z.e, .int .i64 Z.x, .int .i64 Z.y, .int .i64 Z.z] 24); clear Hb
  have hbx := Holds.made v1 Z
  have hbw := HBW.out.alloc HBW.out.size (.cells #[.int .i64 Z.d, .int .i64 Z.e, .int .i64 Z.x, .int .i64 Z.y, .int .i64 Z.z] 24); clear HBW
  generalize v1.alloc (.cells #[.int .i64 Z.d, .int .i64 Z.e, .int .i64 Z.x, .int .i64 Z.y, .int .i64 Z.z] 24) = v2 at *
  generalize v1.heap.size = gbx at *
  have Ha := Lib.hid ha; clear ha
  have Hb := Lib.hid hb; clear hb
  have Hbx := Lib.hid hbx; clear hbx
  have HBW := Lib.hid hbw; clear hbw
  refine (C3.out _).mono ?_; rintro e v3 ⟨rfl, hbel⟩
  have ha := Ha.out.below hbel; clear Ha
  have hb := Hb.out.below hbel; clear Hb
  have hbx := Hbx.out.below hbel; clear Hbx
  have hbw := HBW.out.trans (hbel.mono HBW.out.size); clear HBW hbel
  have Ha := Lib.hid ha; clear ha
  have Hb := Lib.hid hb; clear hb
  have Hbx := Lib.hid hbx; clear hbx
  have HBW := Lib.hid hbw; clear hbw
  have la := Ha.out.lt
  have lb := Hb.out.lt
  have lbx := Hbx.out.lt
  obtain ⟨ca0, ca1, ca2, ca3, ca4⟩ := Ha.out.cells5
  go_wp2_with fail
  clear la lb lbx ca0 ca1 ca2 ca3 ca4
  have ha := Ha.out.alloc (.cells #[.int .i64 s.d, .int .i64 s.e, .int .i64 s.x, .int .i64 s.y, .int .i64 s.z] 24); clear Ha
  have hb := Hb.out.alloc (.cells #[.int .i64 s.d, .int .i64 s.e, .int .i64 s.x, .int .i64 s.y, .int .i64 s.z] 24); clear Hb
  have hbx := Hbx.out.alloc (.cells #[.int .i64 s.d, .int .i64 s.e, .int .i64 s.x, .int .i64 s.y, .int .i64 s.z] 24); clear Hbx
  have hbs := Holds.made v3 s
  have hbw := HBW.out.alloc HBW.out.size (.cells #[.int .i64 s.d, .int .i64 s.e, .int .i64 s.x, .int .i64 s.y, .int .i64 s.z] 24); clear HBW
  generalize v3.alloc (.cells #[.int .i64 s.d, .int .i64 s.e, .int .i64 s.x, .int .i64 s.y, .int .i64 s.z] 24) = v4 at *
  generalize v3.heap.size = gbs at *
  have Ha := Lib.hid ha; clear ha
  have Hb := Lib.hid hb; clear hb
  have Hbx := Lib.hid hbx; clear hbx
  have Hbs := Lib.hid hbs; clear hbs
  have HBW := Lib.hid hbw; clear hbw
  refine (C4.out _).mono ?_; rintro e v5 ⟨rfl, hbel⟩
  have ha := Ha.out.below hbel; clear Ha
  have hb := Hb.out.below hbel; clear Hb
  have hbx := Hbx.out.below hbel; clear Hbx
  have hbs := Hbs.out.below hbel; clear Hbs
  have hbw := HBW.out.trans (hbel.mono HBW.out.size); clear HBW hbel
  have Ha := Lib.hid ha; clear ha
  have Hb := Lib.hid hb; clear hb
  have Hbx := Lib.hid hbx; clear hbx
  have Hbs := Lib.hid hbs; clear hbs
  have HBW := Lib.hid hbw; clear hbw
  have e1 := HE1.out
  have la := Ha.out.lt
  have lb := Hb.out.lt
  have lbx := Hbx.out.lt
  have lbs := Hbs.out.lt
  obtain ⟨ca0, ca1, ca2, ca3, ca4⟩ := Ha.out.cells5
  obtain ⟨cb0, cb1, cb2, cb3, cb4⟩ := Hb.out.cells5
  obtain ⟨cbs0, cbs1, cbs2, cbs3, cbs4⟩ := Hbs.out.cells5
  go_wp2_with fail
  clear la lb lbx lbs ca0 ca1 ca2 ca3 ca4 cb0 cb1 cb2 cb3 cb4 cbs0 cbs1 cbs2 cbs3 cbs4
  refine (C5.out _).mono ?_; rintro e v6 ⟨rfl, hbel⟩
  have ha := Ha.out.below hbel; clear Ha
  have hb := Hb.out.below hbel; clear Hb
  have hbx := Hbx.out.below hbel; clear Hbx
  have hbs := Hbs.out.below hbel; clear Hbs
  have hbw := HBW.out.trans (hbel.mono HBW.out.size); clear HBW hbel
  have Ha := Lib.hid ha; clear ha
  have Hb := Lib.hid hb; clear hb
  have Hbx := Lib.hid hbx; clear hbx
  have Hbs := Lib.hid hbs; clear hbs
  have HBW := Lib.hid hbw; clear hbw
  clear e1
  have la := Ha.out.lt
  have lb := Hb.out.lt
  have lbx := Hbx.out.lt
  have lbs := Hbs.out.lt
  obtain ⟨cb0, cb1, cb2, cb3, cb4⟩ := Hb.out.cells5
  go_wp2_with fail
  clear la lb lbx lbs cb0 cb1 cb2 cb3 cb4
  refine (C6.out _).mono ?_; rintro e v7 ⟨rfl, hbel⟩
  have ha := Ha.out.below hbel; clear Ha
  have hb := Hb.out.below hbel; clear Hb
  have hbx := Hbx.out.below hbel; clear Hbx
  have hbs := Hbs.out.below hbel; clear Hbs
  have hbw := HBW.out.trans (hbel.mono HBW.out.size); clear HBW hbel
  have Ha := Lib.hid ha; clear ha
  have Hb := Lib.hid hb; clear hb
  have Hbx := Lib.hid hbx; clear hbx
  have Hbs := Lib.hid hbs; clear hbs
  have HBW := Lib.hid hbw; clear hbw
  have la := Ha.out.lt
  have lb := Hb.out.lt
  have lbx := Hbx.out.lt
  have lbs := Hbs.out.lt
  obtain ⟨ca0, ca1, ca2, ca3, ca4⟩ := Ha.out.cells5
  go_wp2_with fail
  clear la lb lbx lbs ca0 ca1 ca2 ca3 ca4
  have ha := Ha.out.alloc (.cells #[.int .i64 Z.d, .int .i64 Z.e, .int .i64 Z.x, .int .i64 Z.y, .int .i64 Z.z] 24); clear Ha
  have hb := Hb.out.alloc (.cells #[.int .i64 Z.d, .int .i64 Z.e, .int .i64 Z.x, .int .i64 Z.y, .int .i64 Z.z] 24); clear Hb
  have hbx := Hbx.out.alloc (.cells #[.int .i64 Z.d, .int .i64 Z.e, .int .i64 Z.x, .int .i64 Z.y, .int .i64 Z.z] 24); clear Hbx
  have hbs := Hbs.out.alloc (.cells #[.int .i64 Z.d, .int .i64 Z.e, .int .i64 Z.x, .int .i64 Z.y, .int .i64 Z.z] 24); clear Hbs
  have hby2 := Holds.made v7 Z
  have hbw := HBW.out.alloc HBW.out.size (.cells #[.int .i64 Z.d, .int .i64 Z.e, .int .i64 Z.x, .int .i64 Z.y, .int .i64 Z.z] 24); clear HBW
  generalize v7.alloc (.cells #[.int .i64 Z.d, .int .i64 Z.e, .int .i64 Z.x, .int .i64 Z.y, .int .i64 Z.z] 24) = v8 at *
  generalize v7.heap.size = gby2 at *
  have Ha := Lib.hid ha; clear ha
  have Hb := Lib.hid hb; clear hb
  have Hbx := Lib.hid hbx; clear hbx
  have Hbs := Lib.hid hbs; clear hbs
  have Hby2 := Lib.hid hby2; clear hby2
  have HBW := Lib.hid hbw; clear hbw
  refine (C8.out _).mono ?_; rintro e v9 ⟨rfl, hbel⟩
  have ha := Ha.out.below hbel; clear Ha
  have hb := Hb.out.below hbel; clear Hb
  have hbx := Hbx.out.below hbel; clear Hbx
  have hbs := Hbs.out.below hbel; clear Hbs
  have hby2 := Hby2.out.below hbel; clear Hby2
  have hbw := HBW.out.trans (hbel.mono HBW.out.size); clear HBW hbel
  have Ha := Lib.hid ha; clear ha
  have Hb := Lib.hid hb; clear hb
  have Hbx := Lib.hid hbx; clear hbx
  have Hbs := Lib.hid hbs; clear hbs
  have Hby2 := Lib.hid hby2; clear hby2
  have HBW := Lib.hid hbw; clear hbw
  have la := Ha.out.lt
  have lb := Hb.out.lt
  have lbx := Hbx.out.lt
  have lbs := Hbs.out.lt
  have lby2 := Hby2.out.lt
  obtain ⟨cb0, cb1, cb2, cb3, cb4⟩ := Hb.out.cells5
  go_wp2_with fail
  clear la lb lbx lbs lby2 cb0 cb1 cb2 cb3 cb4
  have ha := Ha.out.alloc (.cells #[.int .i64 Z.d, .int .i64 Z.e, .int .i64 Z.x, .int .i64 Z.y, .int .i64 Z.z] 24); clear Ha
  have hb := Hb.out.alloc (.cells #[.int .i64 Z.d, .int .i64 Z.e, .int .i64 Z.x, .int .i64 Z.y, .int .i64 Z.z] 24); clear Hb
  have hbx := Hbx.out.alloc (.cells #[.int .i64 Z.d, .int .i64 Z.e, .int .i64 Z.x, .int .i64 Z.y, .int .i64 Z.z] 24); clear Hbx
  have hbs := Hbs.out.alloc (.cells #[.int .i64 Z.d, .int .i64 Z.e, .int .i64 Z.x, .int .i64 Z.y, .int .i64 Z.z] 24); clear Hbs
  have hby2 := Hby2.out.alloc (.cells #[.int .i64 Z.d, .int .i64 Z.e, .int .i64 Z.x, .int .i64 Z.y, .int .i64 Z.z] 24); clear Hby2
  have hbc := Holds.made v9 Z
  have hbw := HBW.out.alloc HBW.out.size (.cells #[.int .i64 Z.d, .int .i64 Z.e, .int .i64 Z.x, .int .i64 Z.y, .int .i64 Z.z] 24); clear HBW
  generalize v9.alloc (.cells #[.int .i64 Z.d, .int .i64 Z.e, .int .i64 Z.x, .int .i64 Z.y, .int .i64 Z.z] 24) = v10 at *
  generalize v9.heap.size = gbc at *
  have Ha := Lib.hid ha; clear ha
  have Hb := Lib.hid hb; clear hb
  have Hbx := Lib.hid hbx; clear hbx
  have Hbs := Lib.hid hbs; clear hbs
  have Hby2 := Lib.hid hby2; clear hby2
  have Hbc := Lib.hid hbc; clear hbc
  have HBW := Lib.hid hbw; clear hbw
  refine (C9.out _).mono ?_; rintro e v11 ⟨rfl, hbel⟩
  have ha := Ha.out.below hbel; clear Ha
  have hb := Hb.out.below hbel; clear Hb
  have hbx := Hbx.out.below hbel; clear Hbx
  have hbs := Hbs.out.below hbel; clear Hbs
  have hby2 := Hby2.out.below hbel; clear Hby2
  have hbc := Hbc.out.below hbel; clear Hbc
  have hbw := HBW.out.trans (hbel.mono HBW.out.size); clear HBW hbel
  have Ha := Lib.hid ha; clear ha
  have Hb := Lib.hid hb; clear hb
  have Hbx := Lib.hid hbx; clear hbx
  have Hbs := Lib.hid hbs; clear hbs
  have Hby2 := Lib.hid hby2; clear hby2
  have Hbc := Lib.hid hbc; clear hbc
  have HBW := Lib.hid hbw; clear hbw
  have la := Ha.out.lt
  have lb := Hb.out.lt
  have lbx := Hbx.out.lt
  have lbs := Hbs.out.lt
  have lby2 := Hby2.out.lt
  have lbc := Hbc.out.lt
  obtain ⟨cb0, cb1, cb2, cb3, cb4⟩ := Hb.out.cells5
  go_wp2_with fail
  clear la lb lbx lbs lby2 lbc cb0 cb1 cb2 cb3 cb4
  have ha := Ha.out.alloc (.cells #[.int .i64 Z.d, .int .i64 Z.e, .int .i64 Z.x, .int .i64 Z.y, .int .i64 Z.z] 24); clear Ha
  have hb := Hb.out.alloc (.cells #[.int .i64 Z.d, .int .i64 Z.e, .int .i64 Z.x, .int .i64 Z.y, .int .i64 Z.z] 24); clear Hb
  have hbx := Hbx.out.alloc (.cells #[.int .i64 Z.d, .int .i64 Z.e, .int .i64 Z.x, .int .i64 Z.y, .int .i64 Z.z] 24); clear Hbx
  have hbs := Hbs.out.alloc (.cells #[.int .i64 Z.d, .int .i64 Z.e, .int .i64 Z.x, .int .i64 Z.y, .int .i64 Z.z] 24); clear Hbs
  have hby2 := Hby2.out.alloc (.cells #[.int .i64 Z.d, .int .i64 Z.e, .int .i64 Z.x, .int .i64 Z.y, .int .i64 Z.z] 24); clear Hby2
  have hbc := Hbc.out.alloc (.cells #[.int .i64 Z.d, .int .i64 Z.e, .int .i64 Z.x, .int .i64 Z.y, .int .i64 Z.z] 24); clear Hbc
  have hbd := Holds.made v11 Z
  have hbw := HBW.out.alloc HBW.out.size (.cells #[.int .i64 Z.d, .int .i64 Z.e, .int .i64 Z.x, .int .i64 Z.y, .int .i64 Z.z] 24); clear HBW
  generalize v11.alloc (.cells #[.int .i64 Z.d, .int .i64 Z.e, .int .i64 Z.x, .int .i64 Z.y, .int .i64 Z.z] 24) = v12 at *
  generalize v11.heap.size = gbd at *
  have Ha := Lib.hid ha; clear ha
  have Hb := Lib.hid hb; clear hb
  have Hbx := Lib.hid hbx; clear hbx
  have Hbs := Lib.hid hbs; clear hbs
  have Hby2 := Lib.hid hby2; clear hby2
  have Hbc := Lib.hid hbc; clear hbc
  have Hbd := Lib.hid hbd; clear hbd
  have HBW := Lib.hid hbw; clear hbw
  refine (C11.out _).mono ?_; rintro e v13 ⟨rfl, hbel⟩
  have ha := Ha.out.below hbel; clear Ha
  have hb := Hb.out.below hbel; clear Hb
  have hbx := Hbx.out.below hbel; clear Hbx
  have hbs := Hbs.out.below hbel; clear Hbs
  have hby2 := Hby2.out.below hbel; clear Hby2
  have hbc := Hbc.out.below hbel; clear Hbc
  have hbd := Hbd.out.below hbel; clear Hbd
  have hbw := HBW.out.trans (hbel.mono HBW.out.size); clear HBW hbel
  have Ha := Lib.hid ha; clear ha
  have Hb := Lib.hid hb; clear hb
  have Hbx := Lib.hid hbx; clear hbx
  have Hbs := Lib.hid hbs; clear hbs
  have Hby2 := Lib.hid hby2; clear hby2
  have Hbc := Lib.hid hbc; clear hbc
  have Hbd := Lib.hid hbd; clear hbd
  have HBW := Lib.hid hbw; clear hbw
  have la := Ha.out.lt
  have lb := Hb.out.lt
  have lbx := Hbx.out.lt
  have lbs := Hbs.out.lt
  have lby2 := Hby2.out.lt
  have lbc := Hbc.out.lt
  have lbd := Hbd.out.lt
  go_wp2_with fail
  clear la lb lbx lbs lby2 lbc lbd
  have ha := Ha.out.alloc (.cells #[.int .i64 Z.d, .int .i64 Z.e, .int .i64 Z.x, .int .i64 Z.y, .int .i64 Z.z] 24); clear Ha
  have hb := Hb.out.alloc (.cells #[.int .i64 Z.d, .int .i64 Z.e, .int .i64 Z.x, .int .i64 Z.y, .int .i64 Z.z] 24); clear Hb
  have hbx := Hbx.out.alloc (.cells #[.int .i64 Z.d, .int .i64 Z.e, .int .i64 Z.x, .int .i64 Z.y, .int .i64 Z.z] 24); clear Hbx
  have hbs := Hbs.out.alloc (.cells #[.int .i64 Z.d, .int .i64 Z.e, .int .i64 Z.x, .int .i64 Z.y, .int .i64 Z.z] 24); clear Hbs
  have hby2 := Hby2.out.alloc (.cells #[.int .i64 Z.d, .int .i64 Z.e, .int .i64 Z.x, .int .i64 Z.y, .int .i64 Z.z] 24); clear Hby2
  have hbc := Hbc.out.alloc (.cells #[.int .i64 Z.d, .int .i64 Z.e, .int .i64 Z.x, .int .i64 Z.y, .int .i64 Z.z] 24); clear Hbc
  have hbd := Hbd.out.alloc (.cells #[.int .i64 Z.d, .int .i64 Z.e, .int .i64 Z.x, .int .i64 Z.y, .int .i64 Z.z] 24); clear Hbd
  have hbt := Holds.made v13 Z
  have hbw := HBW.out.alloc HBW.out.size (.cells #[.int .i64 Z.d, .int .i64 Z.e, .int .i64 Z.x, .int .i64 Z.y, .int .i64 Z.z] 24); clear HBW
  generalize v13.alloc (.cells #[.int .i64 Z.d, .int .i64 Z.e, .int .i64 Z.x, .int .i64 Z.y, .int .i64 Z.z] 24) = v14 at *
  generalize v13.heap.size = gbt at *
  have Ha := Lib.hid ha; clear ha
  have Hb := Lib.hid hb; clear hb
  have Hbx := Lib.hid hbx; clear hbx
  have Hbs := Lib.hid hbs; clear hbs
  have Hby2 := Lib.hid hby2; clear hby2
  have Hbc := Lib.hid hbc; clear hbc
  have Hbd := Lib.hid hbd; clear hbd
  have Hbt := Lib.hid hbt; clear hbt
  have HBW := Lib.hid hbw; clear hbw
  refine (C12.out _).mono ?_; rintro e v15 ⟨rfl, hbel⟩
  have ha := Ha.out.below hbel; clear Ha
  have hb := Hb.out.below hbel; clear Hb
  have hbx := Hbx.out.below hbel; clear Hbx
  have hbs := Hbs.out.below hbel; clear Hbs
  have hby2 := Hby2.out.below hbel; clear Hby2
  have hbc := Hbc.out.below hbel; clear Hbc
  have hbd := Hbd.out.below hbel; clear Hbd
  have hbt := Hbt.out.below hbel; clear Hbt
  have hbw := HBW.out.trans (hbel.mono HBW.out.size); clear HBW hbel
  have Ha := Lib.hid ha; clear ha
  have Hb := Lib.hid hb; clear hb
  have Hbx := Lib.hid hbx; clear hbx
  have Hbs := Lib.hid hbs; clear hbs
  have Hby2 := Lib.hid hby2; clear hby2
  have Hbc := Lib.hid hbc; clear hbc
  have Hbd := Lib.hid hbd; clear hbd
  have Hbt := Lib.hid hbt; clear hbt
  have HBW := Lib.hid hbw; clear hbw
  go_wp2_with fail
  go_ret
  exact ⟨rfl, HBW.out⟩
set_option maxRecDepth 100000 in
set_option maxHeartbeats 8000000 in
theorem walk_01101 (a b : St) (w : World) (hi : a.into = none) (s : St) (hg : a.round = some s) (hl : a.L b) (hi2 : b.into = none) (ho : a.out = none) (ho2 : b.out = none) (t : St) (hh : b.round = some t) : Calls Try.prog 6 #[a.val, b.val] w fun e w' => e = .returned (.bool true) ∧ Below w.heap.size w w' := by
  have c1 := opt_is hi (fun w => into_any a w)
  have c3 := opt_is hg (fun w => step_any a w)
  have c4 := call_is (decide_eq_true (St.round_gt hg).1) (fun w => leq_any a s w)
  have k1 : eqB s a = false := by unfold eqB; exact decide_eq_false (St.round_gt hg).2
  have c5 := call_is (decide_eq_true hl) (fun w => leq_any a b w)
  have c12 := fun w => works_any w
  have c6 := opt_is hi2 (fun w => into_any b w)
  have c8 := opt_is ho (fun w => out_any a w)
  have c9 := opt_is ho2 (fun w => out_any b w)
  have c11 := opt_is hh (fun w => step_any b w)
  have c13 := call_is (decide_eq_true (St.round_mono hl s t hg hh)) (fun w => leq_any s t w)
  have z : ov none = St.zero := rfl
  simp only [ov, Option.getD_none, Option.getD_some, Option.isSome_none, Option.isSome_some] at *
  clear z hl hi hg hi2 ho ho2 hh
  generalize St.zero = Z at *
  unfold St.val at *
  have e1 : ∀ w, (Op.equalIn 10000 24 (.agg #[.int .i64 s.d, .int .i64 s.e, .int .i64 s.x, .int .i64 s.y, .int .i64 s.z]) (.agg #[.int .i64 a.d, .int .i64 a.e, .int .i64 a.x, .int .i64 a.y, .int .i64 a.z])).run Try.prog w = .ok false w := fun w => by rw [run_eq5]; exact congrArg (fun b => Result.ok b w) k1
  have HE1 := Lib.hid e1; clear e1
  have C1 := Lib.hid c1; clear c1
  have C3 := Lib.hid c3; clear c3
  have C5 := Lib.hid c5; clear c5
  have C12 := Lib.hid c12; clear c12
  have C4 := Lib.hid c4; clear c4
  clear k1
  have C6 := Lib.hid c6; clear c6
  have C8 := Lib.hid c8; clear c8
  have C9 := Lib.hid c9; clear c9
  have C11 := Lib.hid c11; clear c11
  have C13 := Lib.hid c13; clear c13
  have ha := Holds.made w a
  have ha := ha.alloc (.cells #[.int .i64 b.d, .int .i64 b.e, .int .i64 b.x, .int .i64 b.y, .int .i64 b.z] 24)
  have hb := Holds.made (w.alloc (.cells #[.int .i64 a.d, .int .i64 a.e, .int .i64 a.x, .int .i64 a.y, .int .i64 a.z] 24)) b
  rw [size_alloc] at hb
  have hbw : Below w.heap.size w ((w.alloc (.cells #[.int .i64 a.d, .int .i64 a.e, .int .i64 a.x, .int .i64 a.y, .int .i64 a.z] 24)).alloc (.cells #[.int .i64 b.d, .int .i64 b.e, .int .i64 b.x, .int .i64 b.y, .int .i64 b.z] 24)) := ((Below.refl _ _).alloc (by simp) _).alloc (by simp) _
  have Ha := Lib.hid ha; clear ha
  have Hb := Lib.hid hb; clear hb
  have HBW := Lib.hid hbw; clear hbw
  go_enter Try.func6, Try.ntmps6
  go_wp2_with fail
  generalize (w.alloc (.cells #[.int .i64 a.d, .int .i64 a.e, .int .i64 a.x, .int .i64 a.y, .int .i64 a.z] 24)).alloc (.cells #[.int .i64 b.d, .int .i64 b.e, .int .i64 b.x, .int .i64 b.y, .int .i64 b.z] 24) = w0 at *
  refine (C1.out _).mono ?_; rintro e v1 ⟨rfl, hbel⟩
  have ha := Ha.out.below hbel; clear Ha
  have hb := Hb.out.below hbel; clear Hb
  have hbw := HBW.out.trans (hbel.mono HBW.out.size); clear HBW hbel
  have Ha := Lib.hid ha; clear ha
  have Hb := Lib.hid hb; clear hb
  have HBW := Lib.hid hbw; clear hbw
  have la := Ha.out.lt
  have lb := Hb.out.lt
  obtain ⟨ca0, ca1, ca2, ca3, ca4⟩ := Ha.out.cells5
  go_wp2_with fail
  clear la lb ca0 ca1 ca2 ca3 ca4
  have ha := Ha.out.alloc (.cells #[.int .i64 Z.d, .int .i64 Z.e, .int .i64 Z.x, .int .i64 Z.y, .int .i64 Z.z] 24); clear Ha
  have hb := Hb.out.alloc (.cells #[.int .i64 Z.d, .int .i64 Z.e, .int .i64 Z.x, .int .i64 Z.y, .int .i64 Z.z] 24); clear Hb
  have hbx := Holds.made v1 Z
  have hbw := HBW.out.alloc HBW.out.size (.cells #[.int .i64 Z.d, .int .i64 Z.e, .int .i64 Z.x, .int .i64 Z.y, .int .i64 Z.z] 24); clear HBW
  generalize v1.alloc (.cells #[.int .i64 Z.d, .int .i64 Z.e, .int .i64 Z.x, .int .i64 Z.y, .int .i64 Z.z] 24) = v2 at *
  generalize v1.heap.size = gbx at *
  have Ha := Lib.hid ha; clear ha
  have Hb := Lib.hid hb; clear hb
  have Hbx := Lib.hid hbx; clear hbx
  have HBW := Lib.hid hbw; clear hbw
  refine (C3.out _).mono ?_; rintro e v3 ⟨rfl, hbel⟩
  have ha := Ha.out.below hbel; clear Ha
  have hb := Hb.out.below hbel; clear Hb
  have hbx := Hbx.out.below hbel; clear Hbx
  have hbw := HBW.out.trans (hbel.mono HBW.out.size); clear HBW hbel
  have Ha := Lib.hid ha; clear ha
  have Hb := Lib.hid hb; clear hb
  have Hbx := Lib.hid hbx; clear hbx
  have HBW := Lib.hid hbw; clear hbw
  have la := Ha.out.lt
  have lb := Hb.out.lt
  have lbx := Hbx.out.lt
  obtain ⟨ca0, ca1, ca2, ca3, ca4⟩ := Ha.out.cells5
  go_wp2_with fail
  clear la lb lbx ca0 ca1 ca2 ca3 ca4
  have ha := Ha.out.alloc (.cells #[.int .i64 s.d, .int .i64 s.e, .int .i64 s.x, .int .i64 s.y, .int .i64 s.z] 24); clear Ha
  have hb := Hb.out.alloc (.cells #[.int .i64 s.d, .int .i64 s.e, .int .i64 s.x, .int .i64 s.y, .int .i64 s.z] 24); clear Hb
  have hbx := Hbx.out.alloc (.cells #[.int .i64 s.d, .int .i64 s.e, .int .i64 s.x, .int .i64 s.y, .int .i64 s.z] 24); clear Hbx
  have hbs := Holds.made v3 s
  have hbw := HBW.out.alloc HBW.out.size (.cells #[.int .i64 s.d, .int .i64 s.e, .int .i64 s.x, .int .i64 s.y, .int .i64 s.z] 24); clear HBW
  generalize v3.alloc (.cells #[.int .i64 s.d, .int .i64 s.e, .int .i64 s.x, .int .i64 s.y, .int .i64 s.z] 24) = v4 at *
  generalize v3.heap.size = gbs at *
  have Ha := Lib.hid ha; clear ha
  have Hb := Lib.hid hb; clear hb
  have Hbx := Lib.hid hbx; clear hbx
  have Hbs := Lib.hid hbs; clear hbs
  have HBW := Lib.hid hbw; clear hbw
  refine (C4.out _).mono ?_; rintro e v5 ⟨rfl, hbel⟩
  have ha := Ha.out.below hbel; clear Ha
  have hb := Hb.out.below hbel; clear Hb
  have hbx := Hbx.out.below hbel; clear Hbx
  have hbs := Hbs.out.below hbel; clear Hbs
  have hbw := HBW.out.trans (hbel.mono HBW.out.size); clear HBW hbel
  have Ha := Lib.hid ha; clear ha
  have Hb := Lib.hid hb; clear hb
  have Hbx := Lib.hid hbx; clear hbx
  have Hbs := Lib.hid hbs; clear hbs
  have HBW := Lib.hid hbw; clear hbw
  have e1 := HE1.out
  have la := Ha.out.lt
  have lb := Hb.out.lt
  have lbx := Hbx.out.lt
  have lbs := Hbs.out.lt
  obtain ⟨ca0, ca1, ca2, ca3, ca4⟩ := Ha.out.cells5
  obtain ⟨cb0, cb1, cb2, cb3, cb4⟩ := Hb.out.cells5
  obtain ⟨cbs0, cbs1, cbs2, cbs3, cbs4⟩ := Hbs.out.cells5
  go_wp2_with fail
  clear la lb lbx lbs ca0 ca1 ca2 ca3 ca4 cb0 cb1 cb2 cb3 cb4 cbs0 cbs1 cbs2 cbs3 cbs4
  refine (C5.out _).mono ?_; rintro e v6 ⟨rfl, hbel⟩
  have ha := Ha.out.below hbel; clear Ha
  have hb := Hb.out.below hbel; clear Hb
  have hbx := Hbx.out.below hbel; clear Hbx
  have hbs := Hbs.out.below hbel; clear Hbs
  have hbw := HBW.out.trans (hbel.mono HBW.out.size); clear HBW hbel
  have Ha := Lib.hid ha; clear ha
  have Hb := Lib.hid hb; clear hb
  have Hbx := Lib.hid hbx; clear hbx
  have Hbs := Lib.hid hbs; clear hbs
  have HBW := Lib.hid hbw; clear hbw
  clear e1
  have la := Ha.out.lt
  have lb := Hb.out.lt
  have lbx := Hbx.out.lt
  have lbs := Hbs.out.lt
  obtain ⟨cb0, cb1, cb2, cb3, cb4⟩ := Hb.out.cells5
  go_wp2_with fail
  clear la lb lbx lbs cb0 cb1 cb2 cb3 cb4
  refine (C6.out _).mono ?_; rintro e v7 ⟨rfl, hbel⟩
  have ha := Ha.out.below hbel; clear Ha
  have hb := Hb.out.below hbel; clear Hb
  have hbx := Hbx.out.below hbel; clear Hbx
  have hbs := Hbs.out.below hbel; clear Hbs
  have hbw := HBW.out.trans (hbel.mono HBW.out.size); clear HBW hbel
  have Ha := Lib.hid ha; clear ha
  have Hb := Lib.hid hb; clear hb
  have Hbx := Lib.hid hbx; clear hbx
  have Hbs := Lib.hid hbs; clear hbs
  have HBW := Lib.hid hbw; clear hbw
  have la := Ha.out.lt
  have lb := Hb.out.lt
  have lbx := Hbx.out.lt
  have lbs := Hbs.out.lt
  obtain ⟨ca0, ca1, ca2, ca3, ca4⟩ := Ha.out.cells5
  go_wp2_with fail
  clear la lb lbx lbs ca0 ca1 ca2 ca3 ca4
  have ha := Ha.out.alloc (.cells #[.int .i64 Z.d, .int .i64 Z.e, .int .i64 Z.x, .int .i64 Z.y, .int .i64 Z.z] 24); clear Ha
  have hb := Hb.out.alloc (.cells #[.int .i64 Z.d, .int .i64 Z.e, .int .i64 Z.x, .int .i64 Z.y, .int .i64 Z.z] 24); clear Hb
  have hbx := Hbx.out.alloc (.cells #[.int .i64 Z.d, .int .i64 Z.e, .int .i64 Z.x, .int .i64 Z.y, .int .i64 Z.z] 24); clear Hbx
  have hbs := Hbs.out.alloc (.cells #[.int .i64 Z.d, .int .i64 Z.e, .int .i64 Z.x, .int .i64 Z.y, .int .i64 Z.z] 24); clear Hbs
  have hby2 := Holds.made v7 Z
  have hbw := HBW.out.alloc HBW.out.size (.cells #[.int .i64 Z.d, .int .i64 Z.e, .int .i64 Z.x, .int .i64 Z.y, .int .i64 Z.z] 24); clear HBW
  generalize v7.alloc (.cells #[.int .i64 Z.d, .int .i64 Z.e, .int .i64 Z.x, .int .i64 Z.y, .int .i64 Z.z] 24) = v8 at *
  generalize v7.heap.size = gby2 at *
  have Ha := Lib.hid ha; clear ha
  have Hb := Lib.hid hb; clear hb
  have Hbx := Lib.hid hbx; clear hbx
  have Hbs := Lib.hid hbs; clear hbs
  have Hby2 := Lib.hid hby2; clear hby2
  have HBW := Lib.hid hbw; clear hbw
  refine (C8.out _).mono ?_; rintro e v9 ⟨rfl, hbel⟩
  have ha := Ha.out.below hbel; clear Ha
  have hb := Hb.out.below hbel; clear Hb
  have hbx := Hbx.out.below hbel; clear Hbx
  have hbs := Hbs.out.below hbel; clear Hbs
  have hby2 := Hby2.out.below hbel; clear Hby2
  have hbw := HBW.out.trans (hbel.mono HBW.out.size); clear HBW hbel
  have Ha := Lib.hid ha; clear ha
  have Hb := Lib.hid hb; clear hb
  have Hbx := Lib.hid hbx; clear hbx
  have Hbs := Lib.hid hbs; clear hbs
  have Hby2 := Lib.hid hby2; clear hby2
  have HBW := Lib.hid hbw; clear hbw
  have la := Ha.out.lt
  have lb := Hb.out.lt
  have lbx := Hbx.out.lt
  have lbs := Hbs.out.lt
  have lby2 := Hby2.out.lt
  obtain ⟨cb0, cb1, cb2, cb3, cb4⟩ := Hb.out.cells5
  go_wp2_with fail
  clear la lb lbx lbs lby2 cb0 cb1 cb2 cb3 cb4
  have ha := Ha.out.alloc (.cells #[.int .i64 Z.d, .int .i64 Z.e, .int .i64 Z.x, .int .i64 Z.y, .int .i64 Z.z] 24); clear Ha
  have hb := Hb.out.alloc (.cells #[.int .i64 Z.d, .int .i64 Z.e, .int .i64 Z.x, .int .i64 Z.y, .int .i64 Z.z] 24); clear Hb
  have hbx := Hbx.out.alloc (.cells #[.int .i64 Z.d, .int .i64 Z.e, .int .i64 Z.x, .int .i64 Z.y, .int .i64 Z.z] 24); clear Hbx
  have hbs := Hbs.out.alloc (.cells #[.int .i64 Z.d, .int .i64 Z.e, .int .i64 Z.x, .int .i64 Z.y, .int .i64 Z.z] 24); clear Hbs
  have hby2 := Hby2.out.alloc (.cells #[.int .i64 Z.d, .int .i64 Z.e, .int .i64 Z.x, .int .i64 Z.y, .int .i64 Z.z] 24); clear Hby2
  have hbc := Holds.made v9 Z
  have hbw := HBW.out.alloc HBW.out.size (.cells #[.int .i64 Z.d, .int .i64 Z.e, .int .i64 Z.x, .int .i64 Z.y, .int .i64 Z.z] 24); clear HBW
  generalize v9.alloc (.cells #[.int .i64 Z.d, .int .i64 Z.e, .int .i64 Z.x, .int .i64 Z.y, .int .i64 Z.z] 24) = v10 at *
  generalize v9.heap.size = gbc at *
  have Ha := Lib.hid ha; clear ha
  have Hb := Lib.hid hb; clear hb
  have Hbx := Lib.hid hbx; clear hbx
  have Hbs := Lib.hid hbs; clear hbs
  have Hby2 := Lib.hid hby2; clear hby2
  have Hbc := Lib.hid hbc; clear hbc
  have HBW := Lib.hid hbw; clear hbw
  refine (C9.out _).mono ?_; rintro e v11 ⟨rfl, hbel⟩
  have ha := Ha.out.below hbel; clear Ha
  have hb := Hb.out.below hbel; clear Hb
  have hbx := Hbx.out.below hbel; clear Hbx
  have hbs := Hbs.out.below hbel; clear Hbs
  have hby2 := Hby2.out.below hbel; clear Hby2
  have hbc := Hbc.out.below hbel; clear Hbc
  have hbw := HBW.out.trans (hbel.mono HBW.out.size); clear HBW hbel
  have Ha := Lib.hid ha; clear ha
  have Hb := Lib.hid hb; clear hb
  have Hbx := Lib.hid hbx; clear hbx
  have Hbs := Lib.hid hbs; clear hbs
  have Hby2 := Lib.hid hby2; clear hby2
  have Hbc := Lib.hid hbc; clear hbc
  have HBW := Lib.hid hbw; clear hbw
  have la := Ha.out.lt
  have lb := Hb.out.lt
  have lbx := Hbx.out.lt
  have lbs := Hbs.out.lt
  have lby2 := Hby2.out.lt
  have lbc := Hbc.out.lt
  obtain ⟨cb0, cb1, cb2, cb3, cb4⟩ := Hb.out.cells5
  go_wp2_with fail
  clear la lb lbx lbs lby2 lbc cb0 cb1 cb2 cb3 cb4
  have ha := Ha.out.alloc (.cells #[.int .i64 Z.d, .int .i64 Z.e, .int .i64 Z.x, .int .i64 Z.y, .int .i64 Z.z] 24); clear Ha
  have hb := Hb.out.alloc (.cells #[.int .i64 Z.d, .int .i64 Z.e, .int .i64 Z.x, .int .i64 Z.y, .int .i64 Z.z] 24); clear Hb
  have hbx := Hbx.out.alloc (.cells #[.int .i64 Z.d, .int .i64 Z.e, .int .i64 Z.x, .int .i64 Z.y, .int .i64 Z.z] 24); clear Hbx
  have hbs := Hbs.out.alloc (.cells #[.int .i64 Z.d, .int .i64 Z.e, .int .i64 Z.x, .int .i64 Z.y, .int .i64 Z.z] 24); clear Hbs
  have hby2 := Hby2.out.alloc (.cells #[.int .i64 Z.d, .int .i64 Z.e, .int .i64 Z.x, .int .i64 Z.y, .int .i64 Z.z] 24); clear Hby2
  have hbc := Hbc.out.alloc (.cells #[.int .i64 Z.d, .int .i64 Z.e, .int .i64 Z.x, .int .i64 Z.y, .int .i64 Z.z] 24); clear Hbc
  have hbd := Holds.made v11 Z
  have hbw := HBW.out.alloc HBW.out.size (.cells #[.int .i64 Z.d, .int .i64 Z.e, .int .i64 Z.x, .int .i64 Z.y, .int .i64 Z.z] 24); clear HBW
  generalize v11.alloc (.cells #[.int .i64 Z.d, .int .i64 Z.e, .int .i64 Z.x, .int .i64 Z.y, .int .i64 Z.z] 24) = v12 at *
  generalize v11.heap.size = gbd at *
  have Ha := Lib.hid ha; clear ha
  have Hb := Lib.hid hb; clear hb
  have Hbx := Lib.hid hbx; clear hbx
  have Hbs := Lib.hid hbs; clear hbs
  have Hby2 := Lib.hid hby2; clear hby2
  have Hbc := Lib.hid hbc; clear hbc
  have Hbd := Lib.hid hbd; clear hbd
  have HBW := Lib.hid hbw; clear hbw
  refine (C11.out _).mono ?_; rintro e v13 ⟨rfl, hbel⟩
  have ha := Ha.out.below hbel; clear Ha
  have hb := Hb.out.below hbel; clear Hb
  have hbx := Hbx.out.below hbel; clear Hbx
  have hbs := Hbs.out.below hbel; clear Hbs
  have hby2 := Hby2.out.below hbel; clear Hby2
  have hbc := Hbc.out.below hbel; clear Hbc
  have hbd := Hbd.out.below hbel; clear Hbd
  have hbw := HBW.out.trans (hbel.mono HBW.out.size); clear HBW hbel
  have Ha := Lib.hid ha; clear ha
  have Hb := Lib.hid hb; clear hb
  have Hbx := Lib.hid hbx; clear hbx
  have Hbs := Lib.hid hbs; clear hbs
  have Hby2 := Lib.hid hby2; clear hby2
  have Hbc := Lib.hid hbc; clear hbc
  have Hbd := Lib.hid hbd; clear hbd
  have HBW := Lib.hid hbw; clear hbw
  have la := Ha.out.lt
  have lb := Hb.out.lt
  have lbx := Hbx.out.lt
  have lbs := Hbs.out.lt
  have lby2 := Hby2.out.lt
  have lbc := Hbc.out.lt
  have lbd := Hbd.out.lt
  obtain ⟨cbs0, cbs1, cbs2, cbs3, cbs4⟩ := Hbs.out.cells5
  go_wp2_with fail
  clear la lb lbx lbs lby2 lbc lbd cbs0 cbs1 cbs2 cbs3 cbs4
  have ha := Ha.out.alloc (.cells #[.int .i64 t.d, .int .i64 t.e, .int .i64 t.x, .int .i64 t.y, .int .i64 t.z] 24); clear Ha
  have hb := Hb.out.alloc (.cells #[.int .i64 t.d, .int .i64 t.e, .int .i64 t.x, .int .i64 t.y, .int .i64 t.z] 24); clear Hb
  have hbx := Hbx.out.alloc (.cells #[.int .i64 t.d, .int .i64 t.e, .int .i64 t.x, .int .i64 t.y, .int .i64 t.z] 24); clear Hbx
  have hbs := Hbs.out.alloc (.cells #[.int .i64 t.d, .int .i64 t.e, .int .i64 t.x, .int .i64 t.y, .int .i64 t.z] 24); clear Hbs
  have hby2 := Hby2.out.alloc (.cells #[.int .i64 t.d, .int .i64 t.e, .int .i64 t.x, .int .i64 t.y, .int .i64 t.z] 24); clear Hby2
  have hbc := Hbc.out.alloc (.cells #[.int .i64 t.d, .int .i64 t.e, .int .i64 t.x, .int .i64 t.y, .int .i64 t.z] 24); clear Hbc
  have hbd := Hbd.out.alloc (.cells #[.int .i64 t.d, .int .i64 t.e, .int .i64 t.x, .int .i64 t.y, .int .i64 t.z] 24); clear Hbd
  have hbt := Holds.made v13 t
  have hbw := HBW.out.alloc HBW.out.size (.cells #[.int .i64 t.d, .int .i64 t.e, .int .i64 t.x, .int .i64 t.y, .int .i64 t.z] 24); clear HBW
  generalize v13.alloc (.cells #[.int .i64 t.d, .int .i64 t.e, .int .i64 t.x, .int .i64 t.y, .int .i64 t.z] 24) = v14 at *
  generalize v13.heap.size = gbt at *
  have Ha := Lib.hid ha; clear ha
  have Hb := Lib.hid hb; clear hb
  have Hbx := Lib.hid hbx; clear hbx
  have Hbs := Lib.hid hbs; clear hbs
  have Hby2 := Lib.hid hby2; clear hby2
  have Hbc := Lib.hid hbc; clear hbc
  have Hbd := Lib.hid hbd; clear hbd
  have Hbt := Lib.hid hbt; clear hbt
  have HBW := Lib.hid hbw; clear hbw
  refine (C13.out _).mono ?_; rintro e v15 ⟨rfl, hbel⟩
  have ha := Ha.out.below hbel; clear Ha
  have hb := Hb.out.below hbel; clear Hb
  have hbx := Hbx.out.below hbel; clear Hbx
  have hbs := Hbs.out.below hbel; clear Hbs
  have hby2 := Hby2.out.below hbel; clear Hby2
  have hbc := Hbc.out.below hbel; clear Hbc
  have hbd := Hbd.out.below hbel; clear Hbd
  have hbt := Hbt.out.below hbel; clear Hbt
  have hbw := HBW.out.trans (hbel.mono HBW.out.size); clear HBW hbel
  have Ha := Lib.hid ha; clear ha
  have Hb := Lib.hid hb; clear hb
  have Hbx := Lib.hid hbx; clear hbx
  have Hbs := Lib.hid hbs; clear hbs
  have Hby2 := Lib.hid hby2; clear hby2
  have Hbc := Lib.hid hbc; clear hbc
  have Hbd := Lib.hid hbd; clear hbd
  have Hbt := Lib.hid hbt; clear hbt
  have HBW := Lib.hid hbw; clear hbw
  have la := Ha.out.lt
  have lb := Hb.out.lt
  have lbx := Hbx.out.lt
  have lbs := Hbs.out.lt
  have lby2 := Hby2.out.lt
  have lbc := Hbc.out.lt
  have lbd := Hbd.out.lt
  have lbt := Hbt.out.lt
  go_wp2_with fail
  clear la lb lbx lbs lby2 lbc lbd lbt
  refine (C12.out _).mono ?_; rintro e v16 ⟨rfl, hbel⟩
  have ha := Ha.out.below hbel; clear Ha
  have hb := Hb.out.below hbel; clear Hb
  have hbx := Hbx.out.below hbel; clear Hbx
  have hbs := Hbs.out.below hbel; clear Hbs
  have hby2 := Hby2.out.below hbel; clear Hby2
  have hbc := Hbc.out.below hbel; clear Hbc
  have hbd := Hbd.out.below hbel; clear Hbd
  have hbt := Hbt.out.below hbel; clear Hbt
  have hbw := HBW.out.trans (hbel.mono HBW.out.size); clear HBW hbel
  have Ha := Lib.hid ha; clear ha
  have Hb := Lib.hid hb; clear hb
  have Hbx := Lib.hid hbx; clear hbx
  have Hbs := Lib.hid hbs; clear hbs
  have Hby2 := Lib.hid hby2; clear hby2
  have Hbc := Lib.hid hbc; clear hbc
  have Hbd := Lib.hid hbd; clear hbd
  have Hbt := Lib.hid hbt; clear hbt
  have HBW := Lib.hid hbw; clear hbw
  go_wp2_with fail
  go_ret
  exact ⟨rfl, HBW.out⟩
set_option maxRecDepth 100000 in
set_option maxHeartbeats 8000000 in
theorem walk_01110 (a b : St) (w : World) (hi : a.into = none) (s : St) (hg : a.round = some s) (hl : a.L b) (hi2 : b.into = none) (c d : St) (ho : a.out = some c) (ho2 : b.out = some d) (hh : b.round = none) : Calls Try.prog 6 #[a.val, b.val] w fun e w' => e = .returned (.bool true) ∧ Below w.heap.size w w' := by
  have c1 := opt_is hi (fun w => into_any a w)
  have c3 := opt_is hg (fun w => step_any a w)
  have c4 := call_is (decide_eq_true (St.round_gt hg).1) (fun w => leq_any a s w)
  have k1 : eqB s a = false := by unfold eqB; exact decide_eq_false (St.round_gt hg).2
  have c5 := call_is (decide_eq_true hl) (fun w => leq_any a b w)
  have c12 := fun w => works_any w
  have c6 := opt_is hi2 (fun w => into_any b w)
  have c8 := opt_is ho (fun w => out_any a w)
  have c9 := opt_is ho2 (fun w => out_any b w)
  have c10 := call_is (decide_eq_true ((St.out_mono hl).2 c d ho ho2)) (fun w => leq_any c d w)
  have c11 := opt_is hh (fun w => step_any b w)
  have z : ov none = St.zero := rfl
  simp only [ov, Option.getD_none, Option.getD_some, Option.isSome_none, Option.isSome_some] at *
  clear z hl hi hg hi2 ho ho2 hh
  generalize St.zero = Z at *
  unfold St.val at *
  have e1 : ∀ w, (Op.equalIn 10000 24 (.agg #[.int .i64 s.d, .int .i64 s.e, .int .i64 s.x, .int .i64 s.y, .int .i64 s.z]) (.agg #[.int .i64 a.d, .int .i64 a.e, .int .i64 a.x, .int .i64 a.y, .int .i64 a.z])).run Try.prog w = .ok false w := fun w => by rw [run_eq5]; exact congrArg (fun b => Result.ok b w) k1
  have HE1 := Lib.hid e1; clear e1
  have C1 := Lib.hid c1; clear c1
  have C3 := Lib.hid c3; clear c3
  have C5 := Lib.hid c5; clear c5
  have C12 := Lib.hid c12; clear c12
  have C4 := Lib.hid c4; clear c4
  clear k1
  have C6 := Lib.hid c6; clear c6
  have C8 := Lib.hid c8; clear c8
  have C9 := Lib.hid c9; clear c9
  have C10 := Lib.hid c10; clear c10
  have C11 := Lib.hid c11; clear c11
  have ha := Holds.made w a
  have ha := ha.alloc (.cells #[.int .i64 b.d, .int .i64 b.e, .int .i64 b.x, .int .i64 b.y, .int .i64 b.z] 24)
  have hb := Holds.made (w.alloc (.cells #[.int .i64 a.d, .int .i64 a.e, .int .i64 a.x, .int .i64 a.y, .int .i64 a.z] 24)) b
  rw [size_alloc] at hb
  have hbw : Below w.heap.size w ((w.alloc (.cells #[.int .i64 a.d, .int .i64 a.e, .int .i64 a.x, .int .i64 a.y, .int .i64 a.z] 24)).alloc (.cells #[.int .i64 b.d, .int .i64 b.e, .int .i64 b.x, .int .i64 b.y, .int .i64 b.z] 24)) := ((Below.refl _ _).alloc (by simp) _).alloc (by simp) _
  have Ha := Lib.hid ha; clear ha
  have Hb := Lib.hid hb; clear hb
  have HBW := Lib.hid hbw; clear hbw
  go_enter Try.func6, Try.ntmps6
  go_wp2_with fail
  generalize (w.alloc (.cells #[.int .i64 a.d, .int .i64 a.e, .int .i64 a.x, .int .i64 a.y, .int .i64 a.z] 24)).alloc (.cells #[.int .i64 b.d, .int .i64 b.e, .int .i64 b.x, .int .i64 b.y, .int .i64 b.z] 24) = w0 at *
  refine (C1.out _).mono ?_; rintro e v1 ⟨rfl, hbel⟩
  have ha := Ha.out.below hbel; clear Ha
  have hb := Hb.out.below hbel; clear Hb
  have hbw := HBW.out.trans (hbel.mono HBW.out.size); clear HBW hbel
  have Ha := Lib.hid ha; clear ha
  have Hb := Lib.hid hb; clear hb
  have HBW := Lib.hid hbw; clear hbw
  have la := Ha.out.lt
  have lb := Hb.out.lt
  obtain ⟨ca0, ca1, ca2, ca3, ca4⟩ := Ha.out.cells5
  go_wp2_with fail
  clear la lb ca0 ca1 ca2 ca3 ca4
  have ha := Ha.out.alloc (.cells #[.int .i64 Z.d, .int .i64 Z.e, .int .i64 Z.x, .int .i64 Z.y, .int .i64 Z.z] 24); clear Ha
  have hb := Hb.out.alloc (.cells #[.int .i64 Z.d, .int .i64 Z.e, .int .i64 Z.x, .int .i64 Z.y, .int .i64 Z.z] 24); clear Hb
  have hbx := Holds.made v1 Z
  have hbw := HBW.out.alloc HBW.out.size (.cells #[.int .i64 Z.d, .int .i64 Z.e, .int .i64 Z.x, .int .i64 Z.y, .int .i64 Z.z] 24); clear HBW
  generalize v1.alloc (.cells #[.int .i64 Z.d, .int .i64 Z.e, .int .i64 Z.x, .int .i64 Z.y, .int .i64 Z.z] 24) = v2 at *
  generalize v1.heap.size = gbx at *
  have Ha := Lib.hid ha; clear ha
  have Hb := Lib.hid hb; clear hb
  have Hbx := Lib.hid hbx; clear hbx
  have HBW := Lib.hid hbw; clear hbw
  refine (C3.out _).mono ?_; rintro e v3 ⟨rfl, hbel⟩
  have ha := Ha.out.below hbel; clear Ha
  have hb := Hb.out.below hbel; clear Hb
  have hbx := Hbx.out.below hbel; clear Hbx
  have hbw := HBW.out.trans (hbel.mono HBW.out.size); clear HBW hbel
  have Ha := Lib.hid ha; clear ha
  have Hb := Lib.hid hb; clear hb
  have Hbx := Lib.hid hbx; clear hbx
  have HBW := Lib.hid hbw; clear hbw
  have la := Ha.out.lt
  have lb := Hb.out.lt
  have lbx := Hbx.out.lt
  obtain ⟨ca0, ca1, ca2, ca3, ca4⟩ := Ha.out.cells5
  go_wp2_with fail
  clear la lb lbx ca0 ca1 ca2 ca3 ca4
  have ha := Ha.out.alloc (.cells #[.int .i64 s.d, .int .i64 s.e, .int .i64 s.x, .int .i64 s.y, .int .i64 s.z] 24); clear Ha
  have hb := Hb.out.alloc (.cells #[.int .i64 s.d, .int .i64 s.e, .int .i64 s.x, .int .i64 s.y, .int .i64 s.z] 24); clear Hb
  have hbx := Hbx.out.alloc (.cells #[.int .i64 s.d, .int .i64 s.e, .int .i64 s.x, .int .i64 s.y, .int .i64 s.z] 24); clear Hbx
  have hbs := Holds.made v3 s
  have hbw := HBW.out.alloc HBW.out.size (.cells #[.int .i64 s.d, .int .i64 s.e, .int .i64 s.x, .int .i64 s.y, .int .i64 s.z] 24); clear HBW
  generalize v3.alloc (.cells #[.int .i64 s.d, .int .i64 s.e, .int .i64 s.x, .int .i64 s.y, .int .i64 s.z] 24) = v4 at *
  generalize v3.heap.size = gbs at *
  have Ha := Lib.hid ha; clear ha
  have Hb := Lib.hid hb; clear hb
  have Hbx := Lib.hid hbx; clear hbx
  have Hbs := Lib.hid hbs; clear hbs
  have HBW := Lib.hid hbw; clear hbw
  refine (C4.out _).mono ?_; rintro e v5 ⟨rfl, hbel⟩
  have ha := Ha.out.below hbel; clear Ha
  have hb := Hb.out.below hbel; clear Hb
  have hbx := Hbx.out.below hbel; clear Hbx
  have hbs := Hbs.out.below hbel; clear Hbs
  have hbw := HBW.out.trans (hbel.mono HBW.out.size); clear HBW hbel
  have Ha := Lib.hid ha; clear ha
  have Hb := Lib.hid hb; clear hb
  have Hbx := Lib.hid hbx; clear hbx
  have Hbs := Lib.hid hbs; clear hbs
  have HBW := Lib.hid hbw; clear hbw
  have e1 := HE1.out
  have la := Ha.out.lt
  have lb := Hb.out.lt
  have lbx := Hbx.out.lt
  have lbs := Hbs.out.lt
  obtain ⟨ca0, ca1, ca2, ca3, ca4⟩ := Ha.out.cells5
  obtain ⟨cb0, cb1, cb2, cb3, cb4⟩ := Hb.out.cells5
  obtain ⟨cbs0, cbs1, cbs2, cbs3, cbs4⟩ := Hbs.out.cells5
  go_wp2_with fail
  clear la lb lbx lbs ca0 ca1 ca2 ca3 ca4 cb0 cb1 cb2 cb3 cb4 cbs0 cbs1 cbs2 cbs3 cbs4
  refine (C5.out _).mono ?_; rintro e v6 ⟨rfl, hbel⟩
  have ha := Ha.out.below hbel; clear Ha
  have hb := Hb.out.below hbel; clear Hb
  have hbx := Hbx.out.below hbel; clear Hbx
  have hbs := Hbs.out.below hbel; clear Hbs
  have hbw := HBW.out.trans (hbel.mono HBW.out.size); clear HBW hbel
  have Ha := Lib.hid ha; clear ha
  have Hb := Lib.hid hb; clear hb
  have Hbx := Lib.hid hbx; clear hbx
  have Hbs := Lib.hid hbs; clear hbs
  have HBW := Lib.hid hbw; clear hbw
  clear e1
  have la := Ha.out.lt
  have lb := Hb.out.lt
  have lbx := Hbx.out.lt
  have lbs := Hbs.out.lt
  obtain ⟨cb0, cb1, cb2, cb3, cb4⟩ := Hb.out.cells5
  go_wp2_with fail
  clear la lb lbx lbs cb0 cb1 cb2 cb3 cb4
  refine (C6.out _).mono ?_; rintro e v7 ⟨rfl, hbel⟩
  have ha := Ha.out.below hbel; clear Ha
  have hb := Hb.out.below hbel; clear Hb
  have hbx := Hbx.out.below hbel; clear Hbx
  have hbs := Hbs.out.below hbel; clear Hbs
  have hbw := HBW.out.trans (hbel.mono HBW.out.size); clear HBW hbel
  have Ha := Lib.hid ha; clear ha
  have Hb := Lib.hid hb; clear hb
  have Hbx := Lib.hid hbx; clear hbx
  have Hbs := Lib.hid hbs; clear hbs
  have HBW := Lib.hid hbw; clear hbw
  have la := Ha.out.lt
  have lb := Hb.out.lt
  have lbx := Hbx.out.lt
  have lbs := Hbs.out.lt
  obtain ⟨ca0, ca1, ca2, ca3, ca4⟩ := Ha.out.cells5
  go_wp2_with fail
  clear la lb lbx lbs ca0 ca1 ca2 ca3 ca4
  have ha := Ha.out.alloc (.cells #[.int .i64 Z.d, .int .i64 Z.e, .int .i64 Z.x, .int .i64 Z.y, .int .i64 Z.z] 24); clear Ha
  have hb := Hb.out.alloc (.cells #[.int .i64 Z.d, .int .i64 Z.e, .int .i64 Z.x, .int .i64 Z.y, .int .i64 Z.z] 24); clear Hb
  have hbx := Hbx.out.alloc (.cells #[.int .i64 Z.d, .int .i64 Z.e, .int .i64 Z.x, .int .i64 Z.y, .int .i64 Z.z] 24); clear Hbx
  have hbs := Hbs.out.alloc (.cells #[.int .i64 Z.d, .int .i64 Z.e, .int .i64 Z.x, .int .i64 Z.y, .int .i64 Z.z] 24); clear Hbs
  have hby2 := Holds.made v7 Z
  have hbw := HBW.out.alloc HBW.out.size (.cells #[.int .i64 Z.d, .int .i64 Z.e, .int .i64 Z.x, .int .i64 Z.y, .int .i64 Z.z] 24); clear HBW
  generalize v7.alloc (.cells #[.int .i64 Z.d, .int .i64 Z.e, .int .i64 Z.x, .int .i64 Z.y, .int .i64 Z.z] 24) = v8 at *
  generalize v7.heap.size = gby2 at *
  have Ha := Lib.hid ha; clear ha
  have Hb := Lib.hid hb; clear hb
  have Hbx := Lib.hid hbx; clear hbx
  have Hbs := Lib.hid hbs; clear hbs
  have Hby2 := Lib.hid hby2; clear hby2
  have HBW := Lib.hid hbw; clear hbw
  refine (C8.out _).mono ?_; rintro e v9 ⟨rfl, hbel⟩
  have ha := Ha.out.below hbel; clear Ha
  have hb := Hb.out.below hbel; clear Hb
  have hbx := Hbx.out.below hbel; clear Hbx
  have hbs := Hbs.out.below hbel; clear Hbs
  have hby2 := Hby2.out.below hbel; clear Hby2
  have hbw := HBW.out.trans (hbel.mono HBW.out.size); clear HBW hbel
  have Ha := Lib.hid ha; clear ha
  have Hb := Lib.hid hb; clear hb
  have Hbx := Lib.hid hbx; clear hbx
  have Hbs := Lib.hid hbs; clear hbs
  have Hby2 := Lib.hid hby2; clear hby2
  have HBW := Lib.hid hbw; clear hbw
  have la := Ha.out.lt
  have lb := Hb.out.lt
  have lbx := Hbx.out.lt
  have lbs := Hbs.out.lt
  have lby2 := Hby2.out.lt
  obtain ⟨cb0, cb1, cb2, cb3, cb4⟩ := Hb.out.cells5
  go_wp2_with fail
  clear la lb lbx lbs lby2 cb0 cb1 cb2 cb3 cb4
  have ha := Ha.out.alloc (.cells #[.int .i64 c.d, .int .i64 c.e, .int .i64 c.x, .int .i64 c.y, .int .i64 c.z] 24); clear Ha
  have hb := Hb.out.alloc (.cells #[.int .i64 c.d, .int .i64 c.e, .int .i64 c.x, .int .i64 c.y, .int .i64 c.z] 24); clear Hb
  have hbx := Hbx.out.alloc (.cells #[.int .i64 c.d, .int .i64 c.e, .int .i64 c.x, .int .i64 c.y, .int .i64 c.z] 24); clear Hbx
  have hbs := Hbs.out.alloc (.cells #[.int .i64 c.d, .int .i64 c.e, .int .i64 c.x, .int .i64 c.y, .int .i64 c.z] 24); clear Hbs
  have hby2 := Hby2.out.alloc (.cells #[.int .i64 c.d, .int .i64 c.e, .int .i64 c.x, .int .i64 c.y, .int .i64 c.z] 24); clear Hby2
  have hbc := Holds.made v9 c
  have hbw := HBW.out.alloc HBW.out.size (.cells #[.int .i64 c.d, .int .i64 c.e, .int .i64 c.x, .int .i64 c.y, .int .i64 c.z] 24); clear HBW
  generalize v9.alloc (.cells #[.int .i64 c.d, .int .i64 c.e, .int .i64 c.x, .int .i64 c.y, .int .i64 c.z] 24) = v10 at *
  generalize v9.heap.size = gbc at *
  have Ha := Lib.hid ha; clear ha
  have Hb := Lib.hid hb; clear hb
  have Hbx := Lib.hid hbx; clear hbx
  have Hbs := Lib.hid hbs; clear hbs
  have Hby2 := Lib.hid hby2; clear hby2
  have Hbc := Lib.hid hbc; clear hbc
  have HBW := Lib.hid hbw; clear hbw
  refine (C9.out _).mono ?_; rintro e v11 ⟨rfl, hbel⟩
  have ha := Ha.out.below hbel; clear Ha
  have hb := Hb.out.below hbel; clear Hb
  have hbx := Hbx.out.below hbel; clear Hbx
  have hbs := Hbs.out.below hbel; clear Hbs
  have hby2 := Hby2.out.below hbel; clear Hby2
  have hbc := Hbc.out.below hbel; clear Hbc
  have hbw := HBW.out.trans (hbel.mono HBW.out.size); clear HBW hbel
  have Ha := Lib.hid ha; clear ha
  have Hb := Lib.hid hb; clear hb
  have Hbx := Lib.hid hbx; clear hbx
  have Hbs := Lib.hid hbs; clear hbs
  have Hby2 := Lib.hid hby2; clear hby2
  have Hbc := Lib.hid hbc; clear hbc
  have HBW := Lib.hid hbw; clear hbw
  have la := Ha.out.lt
  have lb := Hb.out.lt
  have lbx := Hbx.out.lt
  have lbs := Hbs.out.lt
  have lby2 := Hby2.out.lt
  have lbc := Hbc.out.lt
  obtain ⟨cbc0, cbc1, cbc2, cbc3, cbc4⟩ := Hbc.out.cells5
  go_wp2_with fail
  clear la lb lbx lbs lby2 lbc cbc0 cbc1 cbc2 cbc3 cbc4
  have ha := Ha.out.alloc (.cells #[.int .i64 d.d, .int .i64 d.e, .int .i64 d.x, .int .i64 d.y, .int .i64 d.z] 24); clear Ha
  have hb := Hb.out.alloc (.cells #[.int .i64 d.d, .int .i64 d.e, .int .i64 d.x, .int .i64 d.y, .int .i64 d.z] 24); clear Hb
  have hbx := Hbx.out.alloc (.cells #[.int .i64 d.d, .int .i64 d.e, .int .i64 d.x, .int .i64 d.y, .int .i64 d.z] 24); clear Hbx
  have hbs := Hbs.out.alloc (.cells #[.int .i64 d.d, .int .i64 d.e, .int .i64 d.x, .int .i64 d.y, .int .i64 d.z] 24); clear Hbs
  have hby2 := Hby2.out.alloc (.cells #[.int .i64 d.d, .int .i64 d.e, .int .i64 d.x, .int .i64 d.y, .int .i64 d.z] 24); clear Hby2
  have hbc := Hbc.out.alloc (.cells #[.int .i64 d.d, .int .i64 d.e, .int .i64 d.x, .int .i64 d.y, .int .i64 d.z] 24); clear Hbc
  have hbd := Holds.made v11 d
  have hbw := HBW.out.alloc HBW.out.size (.cells #[.int .i64 d.d, .int .i64 d.e, .int .i64 d.x, .int .i64 d.y, .int .i64 d.z] 24); clear HBW
  generalize v11.alloc (.cells #[.int .i64 d.d, .int .i64 d.e, .int .i64 d.x, .int .i64 d.y, .int .i64 d.z] 24) = v12 at *
  generalize v11.heap.size = gbd at *
  have Ha := Lib.hid ha; clear ha
  have Hb := Lib.hid hb; clear hb
  have Hbx := Lib.hid hbx; clear hbx
  have Hbs := Lib.hid hbs; clear hbs
  have Hby2 := Lib.hid hby2; clear hby2
  have Hbc := Lib.hid hbc; clear hbc
  have Hbd := Lib.hid hbd; clear hbd
  have HBW := Lib.hid hbw; clear hbw
  refine (C10.out _).mono ?_; rintro e v13 ⟨rfl, hbel⟩
  have ha := Ha.out.below hbel; clear Ha
  have hb := Hb.out.below hbel; clear Hb
  have hbx := Hbx.out.below hbel; clear Hbx
  have hbs := Hbs.out.below hbel; clear Hbs
  have hby2 := Hby2.out.below hbel; clear Hby2
  have hbc := Hbc.out.below hbel; clear Hbc
  have hbd := Hbd.out.below hbel; clear Hbd
  have hbw := HBW.out.trans (hbel.mono HBW.out.size); clear HBW hbel
  have Ha := Lib.hid ha; clear ha
  have Hb := Lib.hid hb; clear hb
  have Hbx := Lib.hid hbx; clear hbx
  have Hbs := Lib.hid hbs; clear hbs
  have Hby2 := Lib.hid hby2; clear hby2
  have Hbc := Lib.hid hbc; clear hbc
  have Hbd := Lib.hid hbd; clear hbd
  have HBW := Lib.hid hbw; clear hbw
  have la := Ha.out.lt
  have lb := Hb.out.lt
  have lbx := Hbx.out.lt
  have lbs := Hbs.out.lt
  have lby2 := Hby2.out.lt
  have lbc := Hbc.out.lt
  have lbd := Hbd.out.lt
  obtain ⟨cb0, cb1, cb2, cb3, cb4⟩ := Hb.out.cells5
  go_wp2_with fail
  clear la lb lbx lbs lby2 lbc lbd cb0 cb1 cb2 cb3 cb4
  refine (C11.out _).mono ?_; rintro e v14 ⟨rfl, hbel⟩
  have ha := Ha.out.below hbel; clear Ha
  have hb := Hb.out.below hbel; clear Hb
  have hbx := Hbx.out.below hbel; clear Hbx
  have hbs := Hbs.out.below hbel; clear Hbs
  have hby2 := Hby2.out.below hbel; clear Hby2
  have hbc := Hbc.out.below hbel; clear Hbc
  have hbd := Hbd.out.below hbel; clear Hbd
  have hbw := HBW.out.trans (hbel.mono HBW.out.size); clear HBW hbel
  have Ha := Lib.hid ha; clear ha
  have Hb := Lib.hid hb; clear hb
  have Hbx := Lib.hid hbx; clear hbx
  have Hbs := Lib.hid hbs; clear hbs
  have Hby2 := Lib.hid hby2; clear hby2
  have Hbc := Lib.hid hbc; clear hbc
  have Hbd := Lib.hid hbd; clear hbd
  have HBW := Lib.hid hbw; clear hbw
  have la := Ha.out.lt
  have lb := Hb.out.lt
  have lbx := Hbx.out.lt
  have lbs := Hbs.out.lt
  have lby2 := Hby2.out.lt
  have lbc := Hbc.out.lt
  have lbd := Hbd.out.lt
  go_wp2_with fail
  clear la lb lbx lbs lby2 lbc lbd
  have ha := Ha.out.alloc (.cells #[.int .i64 Z.d, .int .i64 Z.e, .int .i64 Z.x, .int .i64 Z.y, .int .i64 Z.z] 24); clear Ha
  have hb := Hb.out.alloc (.cells #[.int .i64 Z.d, .int .i64 Z.e, .int .i64 Z.x, .int .i64 Z.y, .int .i64 Z.z] 24); clear Hb
  have hbx := Hbx.out.alloc (.cells #[.int .i64 Z.d, .int .i64 Z.e, .int .i64 Z.x, .int .i64 Z.y, .int .i64 Z.z] 24); clear Hbx
  have hbs := Hbs.out.alloc (.cells #[.int .i64 Z.d, .int .i64 Z.e, .int .i64 Z.x, .int .i64 Z.y, .int .i64 Z.z] 24); clear Hbs
  have hby2 := Hby2.out.alloc (.cells #[.int .i64 Z.d, .int .i64 Z.e, .int .i64 Z.x, .int .i64 Z.y, .int .i64 Z.z] 24); clear Hby2
  have hbc := Hbc.out.alloc (.cells #[.int .i64 Z.d, .int .i64 Z.e, .int .i64 Z.x, .int .i64 Z.y, .int .i64 Z.z] 24); clear Hbc
  have hbd := Hbd.out.alloc (.cells #[.int .i64 Z.d, .int .i64 Z.e, .int .i64 Z.x, .int .i64 Z.y, .int .i64 Z.z] 24); clear Hbd
  have hbt := Holds.made v14 Z
  have hbw := HBW.out.alloc HBW.out.size (.cells #[.int .i64 Z.d, .int .i64 Z.e, .int .i64 Z.x, .int .i64 Z.y, .int .i64 Z.z] 24); clear HBW
  generalize v14.alloc (.cells #[.int .i64 Z.d, .int .i64 Z.e, .int .i64 Z.x, .int .i64 Z.y, .int .i64 Z.z] 24) = v15 at *
  generalize v14.heap.size = gbt at *
  have Ha := Lib.hid ha; clear ha
  have Hb := Lib.hid hb; clear hb
  have Hbx := Lib.hid hbx; clear hbx
  have Hbs := Lib.hid hbs; clear hbs
  have Hby2 := Lib.hid hby2; clear hby2
  have Hbc := Lib.hid hbc; clear hbc
  have Hbd := Lib.hid hbd; clear hbd
  have Hbt := Lib.hid hbt; clear hbt
  have HBW := Lib.hid hbw; clear hbw
  refine (C12.out _).mono ?_; rintro e v16 ⟨rfl, hbel⟩
  have ha := Ha.out.below hbel; clear Ha
  have hb := Hb.out.below hbel; clear Hb
  have hbx := Hbx.out.below hbel; clear Hbx
  have hbs := Hbs.out.below hbel; clear Hbs
  have hby2 := Hby2.out.below hbel; clear Hby2
  have hbc := Hbc.out.below hbel; clear Hbc
  have hbd := Hbd.out.below hbel; clear Hbd
  have hbt := Hbt.out.below hbel; clear Hbt
  have hbw := HBW.out.trans (hbel.mono HBW.out.size); clear HBW hbel
  have Ha := Lib.hid ha; clear ha
  have Hb := Lib.hid hb; clear hb
  have Hbx := Lib.hid hbx; clear hbx
  have Hbs := Lib.hid hbs; clear hbs
  have Hby2 := Lib.hid hby2; clear hby2
  have Hbc := Lib.hid hbc; clear hbc
  have Hbd := Lib.hid hbd; clear hbd
  have Hbt := Lib.hid hbt; clear hbt
  have HBW := Lib.hid hbw; clear hbw
  go_wp2_with fail
  go_ret
  exact ⟨rfl, HBW.out⟩
set_option maxRecDepth 100000 in
set_option maxHeartbeats 8000000 in
theorem walk_01111 (a b : St) (w : World) (hi : a.into = none) (s : St) (hg : a.round = some s) (hl : a.L b) (hi2 : b.into = none) (c d : St) (ho : a.out = some c) (ho2 : b.out = some d) (t : St) (hh : b.round = some t) : Calls Try.prog 6 #[a.val, b.val] w fun e w' => e = .returned (.bool true) ∧ Below w.heap.size w w' := by
  have c1 := opt_is hi (fun w => into_any a w)
  have c3 := opt_is hg (fun w => step_any a w)
  have c4 := call_is (decide_eq_true (St.round_gt hg).1) (fun w => leq_any a s w)
  have k1 : eqB s a = false := by unfold eqB; exact decide_eq_false (St.round_gt hg).2
  have c5 := call_is (decide_eq_true hl) (fun w => leq_any a b w)
  have c12 := fun w => works_any w
  have c6 := opt_is hi2 (fun w => into_any b w)
  have c8 := opt_is ho (fun w => out_any a w)
  have c9 := opt_is ho2 (fun w => out_any b w)
  have c10 := call_is (decide_eq_true ((St.out_mono hl).2 c d ho ho2)) (fun w => leq_any c d w)
  have c11 := opt_is hh (fun w => step_any b w)
  have c13 := call_is (decide_eq_true (St.round_mono hl s t hg hh)) (fun w => leq_any s t w)
  have z : ov none = St.zero := rfl
  simp only [ov, Option.getD_none, Option.getD_some, Option.isSome_none, Option.isSome_some] at *
  clear z hl hi hg hi2 ho ho2 hh
  generalize St.zero = Z at *
  unfold St.val at *
  have e1 : ∀ w, (Op.equalIn 10000 24 (.agg #[.int .i64 s.d, .int .i64 s.e, .int .i64 s.x, .int .i64 s.y, .int .i64 s.z]) (.agg #[.int .i64 a.d, .int .i64 a.e, .int .i64 a.x, .int .i64 a.y, .int .i64 a.z])).run Try.prog w = .ok false w := fun w => by rw [run_eq5]; exact congrArg (fun b => Result.ok b w) k1
  have HE1 := Lib.hid e1; clear e1
  have C1 := Lib.hid c1; clear c1
  have C3 := Lib.hid c3; clear c3
  have C5 := Lib.hid c5; clear c5
  have C12 := Lib.hid c12; clear c12
  have C4 := Lib.hid c4; clear c4
  clear k1
  have C6 := Lib.hid c6; clear c6
  have C8 := Lib.hid c8; clear c8
  have C9 := Lib.hid c9; clear c9
  have C10 := Lib.hid c10; clear c10
  have C11 := Lib.hid c11; clear c11
  have C13 := Lib.hid c13; clear c13
  have ha := Holds.made w a
  have ha := ha.alloc (.cells #[.int .i64 b.d, .int .i64 b.e, .int .i64 b.x, .int .i64 b.y, .int .i64 b.z] 24)
  have hb := Holds.made (w.alloc (.cells #[.int .i64 a.d, .int .i64 a.e, .int .i64 a.x, .int .i64 a.y, .int .i64 a.z] 24)) b
  rw [size_alloc] at hb
  have hbw : Below w.heap.size w ((w.alloc (.cells #[.int .i64 a.d, .int .i64 a.e, .int .i64 a.x, .int .i64 a.y, .int .i64 a.z] 24)).alloc (.cells #[.int .i64 b.d, .int .i64 b.e, .int .i64 b.x, .int .i64 b.y, .int .i64 b.z] 24)) := ((Below.refl _ _).alloc (by simp) _).alloc (by simp) _
  have Ha := Lib.hid ha; clear ha
  have Hb := Lib.hid hb; clear hb
  have HBW := Lib.hid hbw; clear hbw
  go_enter Try.func6, Try.ntmps6
  go_wp2_with fail
  generalize (w.alloc (.cells #[.int .i64 a.d, .int .i64 a.e, .int .i64 a.x, .int .i64 a.y, .int .i64 a.z] 24)).alloc (.cells #[.int .i64 b.d, .int .i64 b.e, .int .i64 b.x, .int .i64 b.y, .int .i64 b.z] 24) = w0 at *
  refine (C1.out _).mono ?_; rintro e v1 ⟨rfl, hbel⟩
  have ha := Ha.out.below hbel; clear Ha
  have hb := Hb.out.below hbel; clear Hb
  have hbw := HBW.out.trans (hbel.mono HBW.out.size); clear HBW hbel
  have Ha := Lib.hid ha; clear ha
  have Hb := Lib.hid hb; clear hb
  have HBW := Lib.hid hbw; clear hbw
  have la := Ha.out.lt
  have lb := Hb.out.lt
  obtain ⟨ca0, ca1, ca2, ca3, ca4⟩ := Ha.out.cells5
  go_wp2_with fail
  clear la lb ca0 ca1 ca2 ca3 ca4
  have ha := Ha.out.alloc (.cells #[.int .i64 Z.d, .int .i64 Z.e, .int .i64 Z.x, .int .i64 Z.y, .int .i64 Z.z] 24); clear Ha
  have hb := Hb.out.alloc (.cells #[.int .i64 Z.d, .int .i64 Z.e, .int .i64 Z.x, .int .i64 Z.y, .int .i64 Z.z] 24); clear Hb
  have hbx := Holds.made v1 Z
  have hbw := HBW.out.alloc HBW.out.size (.cells #[.int .i64 Z.d, .int .i64 Z.e, .int .i64 Z.x, .int .i64 Z.y, .int .i64 Z.z] 24); clear HBW
  generalize v1.alloc (.cells #[.int .i64 Z.d, .int .i64 Z.e, .int .i64 Z.x, .int .i64 Z.y, .int .i64 Z.z] 24) = v2 at *
  generalize v1.heap.size = gbx at *
  have Ha := Lib.hid ha; clear ha
  have Hb := Lib.hid hb; clear hb
  have Hbx := Lib.hid hbx; clear hbx
  have HBW := Lib.hid hbw; clear hbw
  refine (C3.out _).mono ?_; rintro e v3 ⟨rfl, hbel⟩
  have ha := Ha.out.below hbel; clear Ha
  have hb := Hb.out.below hbel; clear Hb
  have hbx := Hbx.out.below hbel; clear Hbx
  have hbw := HBW.out.trans (hbel.mono HBW.out.size); clear HBW hbel
  have Ha := Lib.hid ha; clear ha
  have Hb := Lib.hid hb; clear hb
  have Hbx := Lib.hid hbx; clear hbx
  have HBW := Lib.hid hbw; clear hbw
  have la := Ha.out.lt
  have lb := Hb.out.lt
  have lbx := Hbx.out.lt
  obtain ⟨ca0, ca1, ca2, ca3, ca4⟩ := Ha.out.cells5
  go_wp2_with fail
  clear la lb lbx ca0 ca1 ca2 ca3 ca4
  have ha := Ha.out.alloc (.cells #[.int .i64 s.d, .int .i64 s.e, .int .i64 s.x, .int .i64 s.y, .int .i64 s.z] 24); clear Ha
  have hb := Hb.out.alloc (.cells #[.int .i64 s.d, .int .i64 s.e, .int .i64 s.x, .int .i64 s.y, .int .i64 s.z] 24); clear Hb
  have hbx := Hbx.out.alloc (.cells #[.int .i64 s.d, .int .i64 s.e, .int .i64 s.x, .int .i64 s.y, .int .i64 s.z] 24); clear Hbx
  have hbs := Holds.made v3 s
  have hbw := HBW.out.alloc HBW.out.size (.cells #[.int .i64 s.d, .int .i64 s.e, .int .i64 s.x, .int .i64 s.y, .int .i64 s.z] 24); clear HBW
  generalize v3.alloc (.cells #[.int .i64 s.d, .int .i64 s.e, .int .i64 s.x, .int .i64 s.y, .int .i64 s.z] 24) = v4 at *
  generalize v3.heap.size = gbs at *
  have Ha := Lib.hid ha; clear ha
  have Hb := Lib.hid hb; clear hb
  have Hbx := Lib.hid hbx; clear hbx
  have Hbs := Lib.hid hbs; clear hbs
  have HBW := Lib.hid hbw; clear hbw
  refine (C4.out _).mono ?_; rintro e v5 ⟨rfl, hbel⟩
  have ha := Ha.out.below hbel; clear Ha
  have hb := Hb.out.below hbel; clear Hb
  have hbx := Hbx.out.below hbel; clear Hbx
  have hbs := Hbs.out.below hbel; clear Hbs
  have hbw := HBW.out.trans (hbel.mono HBW.out.size); clear HBW hbel
  have Ha := Lib.hid ha; clear ha
  have Hb := Lib.hid hb; clear hb
  have Hbx := Lib.hid hbx; clear hbx
  have Hbs := Lib.hid hbs; clear hbs
  have HBW := Lib.hid hbw; clear hbw
  have e1 := HE1.out
  have la := Ha.out.lt
  have lb := Hb.out.lt
  have lbx := Hbx.out.lt
  have lbs := Hbs.out.lt
  obtain ⟨ca0, ca1, ca2, ca3, ca4⟩ := Ha.out.cells5
  obtain ⟨cb0, cb1, cb2, cb3, cb4⟩ := Hb.out.cells5
  obtain ⟨cbs0, cbs1, cbs2, cbs3, cbs4⟩ := Hbs.out.cells5
  go_wp2_with fail
  clear la lb lbx lbs ca0 ca1 ca2 ca3 ca4 cb0 cb1 cb2 cb3 cb4 cbs0 cbs1 cbs2 cbs3 cbs4
  refine (C5.out _).mono ?_; rintro e v6 ⟨rfl, hbel⟩
  have ha := Ha.out.below hbel; clear Ha
  have hb := Hb.out.below hbel; clear Hb
  have hbx := Hbx.out.below hbel; clear Hbx
  have hbs := Hbs.out.below hbel; clear Hbs
  have hbw := HBW.out.trans (hbel.mono HBW.out.size); clear HBW hbel
  have Ha := Lib.hid ha; clear ha
  have Hb := Lib.hid hb; clear hb
  have Hbx := Lib.hid hbx; clear hbx
  have Hbs := Lib.hid hbs; clear hbs
  have HBW := Lib.hid hbw; clear hbw
  clear e1
  have la := Ha.out.lt
  have lb := Hb.out.lt
  have lbx := Hbx.out.lt
  have lbs := Hbs.out.lt
  obtain ⟨cb0, cb1, cb2, cb3, cb4⟩ := Hb.out.cells5
  go_wp2_with fail
  clear la lb lbx lbs cb0 cb1 cb2 cb3 cb4
  refine (C6.out _).mono ?_; rintro e v7 ⟨rfl, hbel⟩
  have ha := Ha.out.below hbel; clear Ha
  have hb := Hb.out.below hbel; clear Hb
  have hbx := Hbx.out.below hbel; clear Hbx
  have hbs := Hbs.out.below hbel; clear Hbs
  have hbw := HBW.out.trans (hbel.mono HBW.out.size); clear HBW hbel
  have Ha := Lib.hid ha; clear ha
  have Hb := Lib.hid hb; clear hb
  have Hbx := Lib.hid hbx; clear hbx
  have Hbs := Lib.hid hbs; clear hbs
  have HBW := Lib.hid hbw; clear hbw
  have la := Ha.out.lt
  have lb := Hb.out.lt
  have lbx := Hbx.out.lt
  have lbs := Hbs.out.lt
  obtain ⟨ca0, ca1, ca2, ca3, ca4⟩ := Ha.out.cells5
  go_wp2_with fail
  clear la lb lbx lbs ca0 ca1 ca2 ca3 ca4
  have ha := Ha.out.alloc (.cells #[.int .i64 Z.d, .int .i64 Z.e, .int .i64 Z.x, .int .i64 Z.y, .int .i64 Z.z] 24); clear Ha
  have hb := Hb.out.alloc (.cells #[.int .i64 Z.d, .int .i64 Z.e, .int .i64 Z.x, .int .i64 Z.y, .int .i64 Z.z] 24); clear Hb
  have hbx := Hbx.out.alloc (.cells #[.int .i64 Z.d, .int .i64 Z.e, .int .i64 Z.x, .int .i64 Z.y, .int .i64 Z.z] 24); clear Hbx
  have hbs := Hbs.out.alloc (.cells #[.int .i64 Z.d, .int .i64 Z.e, .int .i64 Z.x, .int .i64 Z.y, .int .i64 Z.z] 24); clear Hbs
  have hby2 := Holds.made v7 Z
  have hbw := HBW.out.alloc HBW.out.size (.cells #[.int .i64 Z.d, .int .i64 Z.e, .int .i64 Z.x, .int .i64 Z.y, .int .i64 Z.z] 24); clear HBW
  generalize v7.alloc (.cells #[.int .i64 Z.d, .int .i64 Z.e, .int .i64 Z.x, .int .i64 Z.y, .int .i64 Z.z] 24) = v8 at *
  generalize v7.heap.size = gby2 at *
  have Ha := Lib.hid ha; clear ha
  have Hb := Lib.hid hb; clear hb
  have Hbx := Lib.hid hbx; clear hbx
  have Hbs := Lib.hid hbs; clear hbs
  have Hby2 := Lib.hid hby2; clear hby2
  have HBW := Lib.hid hbw; clear hbw
  refine (C8.out _).mono ?_; rintro e v9 ⟨rfl, hbel⟩
  have ha := Ha.out.below hbel; clear Ha
  have hb := Hb.out.below hbel; clear Hb
  have hbx := Hbx.out.below hbel; clear Hbx
  have hbs := Hbs.out.below hbel; clear Hbs
  have hby2 := Hby2.out.below hbel; clear Hby2
  have hbw := HBW.out.trans (hbel.mono HBW.out.size); clear HBW hbel
  have Ha := Lib.hid ha; clear ha
  have Hb := Lib.hid hb; clear hb
  have Hbx := Lib.hid hbx; clear hbx
  have Hbs := Lib.hid hbs; clear hbs
  have Hby2 := Lib.hid hby2; clear hby2
  have HBW := Lib.hid hbw; clear hbw
  have la := Ha.out.lt
  have lb := Hb.out.lt
  have lbx := Hbx.out.lt
  have lbs := Hbs.out.lt
  have lby2 := Hby2.out.lt
  obtain ⟨cb0, cb1, cb2, cb3, cb4⟩ := Hb.out.cells5
  go_wp2_with fail
  clear la lb lbx lbs lby2 cb0 cb1 cb2 cb3 cb4
  have ha := Ha.out.alloc (.cells #[.int .i64 c.d, .int .i64 c.e, .int .i64 c.x, .int .i64 c.y, .int .i64 c.z] 24); clear Ha
  have hb := Hb.out.alloc (.cells #[.int .i64 c.d, .int .i64 c.e, .int .i64 c.x, .int .i64 c.y, .int .i64 c.z] 24); clear Hb
  have hbx := Hbx.out.alloc (.cells #[.int .i64 c.d, .int .i64 c.e, .int .i64 c.x, .int .i64 c.y, .int .i64 c.z] 24); clear Hbx
  have hbs := Hbs.out.alloc (.cells #[.int .i64 c.d, .int .i64 c.e, .int .i64 c.x, .int .i64 c.y, .int .i64 c.z] 24); clear Hbs
  have hby2 := Hby2.out.alloc (.cells #[.int .i64 c.d, .int .i64 c.e, .int .i64 c.x, .int .i64 c.y, .int .i64 c.z] 24); clear Hby2
  have hbc := Holds.made v9 c
  have hbw := HBW.out.alloc HBW.out.size (.cells #[.int .i64 c.d, .int .i64 c.e, .int .i64 c.x, .int .i64 c.y, .int .i64 c.z] 24); clear HBW
  generalize v9.alloc (.cells #[.int .i64 c.d, .int .i64 c.e, .int .i64 c.x, .int .i64 c.y, .int .i64 c.z] 24) = v10 at *
  generalize v9.heap.size = gbc at *
  have Ha := Lib.hid ha; clear ha
  have Hb := Lib.hid hb; clear hb
  have Hbx := Lib.hid hbx; clear hbx
  have Hbs := Lib.hid hbs; clear hbs
  have Hby2 := Lib.hid hby2; clear hby2
  have Hbc := Lib.hid hbc; clear hbc
  have HBW := Lib.hid hbw; clear hbw
  refine (C9.out _).mono ?_; rintro e v11 ⟨rfl, hbel⟩
  have ha := Ha.out.below hbel; clear Ha
  have hb := Hb.out.below hbel; clear Hb
  have hbx := Hbx.out.below hbel; clear Hbx
  have hbs := Hbs.out.below hbel; clear Hbs
  have hby2 := Hby2.out.below hbel; clear Hby2
  have hbc := Hbc.out.below hbel; clear Hbc
  have hbw := HBW.out.trans (hbel.mono HBW.out.size); clear HBW hbel
  have Ha := Lib.hid ha; clear ha
  have Hb := Lib.hid hb; clear hb
  have Hbx := Lib.hid hbx; clear hbx
  have Hbs := Lib.hid hbs; clear hbs
  have Hby2 := Lib.hid hby2; clear hby2
  have Hbc := Lib.hid hbc; clear hbc
  have HBW := Lib.hid hbw; clear hbw
  have la := Ha.out.lt
  have lb := Hb.out.lt
  have lbx := Hbx.out.lt
  have lbs := Hbs.out.lt
  have lby2 := Hby2.out.lt
  have lbc := Hbc.out.lt
  obtain ⟨cbc0, cbc1, cbc2, cbc3, cbc4⟩ := Hbc.out.cells5
  go_wp2_with fail
  clear la lb lbx lbs lby2 lbc cbc0 cbc1 cbc2 cbc3 cbc4
  have ha := Ha.out.alloc (.cells #[.int .i64 d.d, .int .i64 d.e, .int .i64 d.x, .int .i64 d.y, .int .i64 d.z] 24); clear Ha
  have hb := Hb.out.alloc (.cells #[.int .i64 d.d, .int .i64 d.e, .int .i64 d.x, .int .i64 d.y, .int .i64 d.z] 24); clear Hb
  have hbx := Hbx.out.alloc (.cells #[.int .i64 d.d, .int .i64 d.e, .int .i64 d.x, .int .i64 d.y, .int .i64 d.z] 24); clear Hbx
  have hbs := Hbs.out.alloc (.cells #[.int .i64 d.d, .int .i64 d.e, .int .i64 d.x, .int .i64 d.y, .int .i64 d.z] 24); clear Hbs
  have hby2 := Hby2.out.alloc (.cells #[.int .i64 d.d, .int .i64 d.e, .int .i64 d.x, .int .i64 d.y, .int .i64 d.z] 24); clear Hby2
  have hbc := Hbc.out.alloc (.cells #[.int .i64 d.d, .int .i64 d.e, .int .i64 d.x, .int .i64 d.y, .int .i64 d.z] 24); clear Hbc
  have hbd := Holds.made v11 d
  have hbw := HBW.out.alloc HBW.out.size (.cells #[.int .i64 d.d, .int .i64 d.e, .int .i64 d.x, .int .i64 d.y, .int .i64 d.z] 24); clear HBW
  generalize v11.alloc (.cells #[.int .i64 d.d, .int .i64 d.e, .int .i64 d.x, .int .i64 d.y, .int .i64 d.z] 24) = v12 at *
  generalize v11.heap.size = gbd at *
  have Ha := Lib.hid ha; clear ha
  have Hb := Lib.hid hb; clear hb
  have Hbx := Lib.hid hbx; clear hbx
  have Hbs := Lib.hid hbs; clear hbs
  have Hby2 := Lib.hid hby2; clear hby2
  have Hbc := Lib.hid hbc; clear hbc
  have Hbd := Lib.hid hbd; clear hbd
  have HBW := Lib.hid hbw; clear hbw
  refine (C10.out _).mono ?_; rintro e v13 ⟨rfl, hbel⟩
  have ha := Ha.out.below hbel; clear Ha
  have hb := Hb.out.below hbel; clear Hb
  have hbx := Hbx.out.below hbel; clear Hbx
  have hbs := Hbs.out.below hbel; clear Hbs
  have hby2 := Hby2.out.below hbel; clear Hby2
  have hbc := Hbc.out.below hbel; clear Hbc
  have hbd := Hbd.out.below hbel; clear Hbd
  have hbw := HBW.out.trans (hbel.mono HBW.out.size); clear HBW hbel
  have Ha := Lib.hid ha; clear ha
  have Hb := Lib.hid hb; clear hb
  have Hbx := Lib.hid hbx; clear hbx
  have Hbs := Lib.hid hbs; clear hbs
  have Hby2 := Lib.hid hby2; clear hby2
  have Hbc := Lib.hid hbc; clear hbc
  have Hbd := Lib.hid hbd; clear hbd
  have HBW := Lib.hid hbw; clear hbw
  have la := Ha.out.lt
  have lb := Hb.out.lt
  have lbx := Hbx.out.lt
  have lbs := Hbs.out.lt
  have lby2 := Hby2.out.lt
  have lbc := Hbc.out.lt
  have lbd := Hbd.out.lt
  obtain ⟨cb0, cb1, cb2, cb3, cb4⟩ := Hb.out.cells5
  go_wp2_with fail
  clear la lb lbx lbs lby2 lbc lbd cb0 cb1 cb2 cb3 cb4
  refine (C11.out _).mono ?_; rintro e v14 ⟨rfl, hbel⟩
  have ha := Ha.out.below hbel; clear Ha
  have hb := Hb.out.below hbel; clear Hb
  have hbx := Hbx.out.below hbel; clear Hbx
  have hbs := Hbs.out.below hbel; clear Hbs
  have hby2 := Hby2.out.below hbel; clear Hby2
  have hbc := Hbc.out.below hbel; clear Hbc
  have hbd := Hbd.out.below hbel; clear Hbd
  have hbw := HBW.out.trans (hbel.mono HBW.out.size); clear HBW hbel
  have Ha := Lib.hid ha; clear ha
  have Hb := Lib.hid hb; clear hb
  have Hbx := Lib.hid hbx; clear hbx
  have Hbs := Lib.hid hbs; clear hbs
  have Hby2 := Lib.hid hby2; clear hby2
  have Hbc := Lib.hid hbc; clear hbc
  have Hbd := Lib.hid hbd; clear hbd
  have HBW := Lib.hid hbw; clear hbw
  have la := Ha.out.lt
  have lb := Hb.out.lt
  have lbx := Hbx.out.lt
  have lbs := Hbs.out.lt
  have lby2 := Hby2.out.lt
  have lbc := Hbc.out.lt
  have lbd := Hbd.out.lt
  obtain ⟨cbs0, cbs1, cbs2, cbs3, cbs4⟩ := Hbs.out.cells5
  go_wp2_with fail
  clear la lb lbx lbs lby2 lbc lbd cbs0 cbs1 cbs2 cbs3 cbs4
  have ha := Ha.out.alloc (.cells #[.int .i64 t.d, .int .i64 t.e, .int .i64 t.x, .int .i64 t.y, .int .i64 t.z] 24); clear Ha
  have hb := Hb.out.alloc (.cells #[.int .i64 t.d, .int .i64 t.e, .int .i64 t.x, .int .i64 t.y, .int .i64 t.z] 24); clear Hb
  have hbx := Hbx.out.alloc (.cells #[.int .i64 t.d, .int .i64 t.e, .int .i64 t.x, .int .i64 t.y, .int .i64 t.z] 24); clear Hbx
  have hbs := Hbs.out.alloc (.cells #[.int .i64 t.d, .int .i64 t.e, .int .i64 t.x, .int .i64 t.y, .int .i64 t.z] 24); clear Hbs
  have hby2 := Hby2.out.alloc (.cells #[.int .i64 t.d, .int .i64 t.e, .int .i64 t.x, .int .i64 t.y, .int .i64 t.z] 24); clear Hby2
  have hbc := Hbc.out.alloc (.cells #[.int .i64 t.d, .int .i64 t.e, .int .i64 t.x, .int .i64 t.y, .int .i64 t.z] 24); clear Hbc
  have hbd := Hbd.out.alloc (.cells #[.int .i64 t.d, .int .i64 t.e, .int .i64 t.x, .int .i64 t.y, .int .i64 t.z] 24); clear Hbd
  have hbt := Holds.made v14 t
  have hbw := HBW.out.alloc HBW.out.size (.cells #[.int .i64 t.d, .int .i64 t.e, .int .i64 t.x, .int .i64 t.y, .int .i64 t.z] 24); clear HBW
  generalize v14.alloc (.cells #[.int .i64 t.d, .int .i64 t.e, .int .i64 t.x, .int .i64 t.y, .int .i64 t.z] 24) = v15 at *
  generalize v14.heap.size = gbt at *
  have Ha := Lib.hid ha; clear ha
  have Hb := Lib.hid hb; clear hb
  have Hbx := Lib.hid hbx; clear hbx
  have Hbs := Lib.hid hbs; clear hbs
  have Hby2 := Lib.hid hby2; clear hby2
  have Hbc := Lib.hid hbc; clear hbc
  have Hbd := Lib.hid hbd; clear hbd
  have Hbt := Lib.hid hbt; clear hbt
  have HBW := Lib.hid hbw; clear hbw
  refine (C13.out _).mono ?_; rintro e v16 ⟨rfl, hbel⟩
  have ha := Ha.out.below hbel; clear Ha
  have hb := Hb.out.below hbel; clear Hb
  have hbx := Hbx.out.below hbel; clear Hbx
  have hbs := Hbs.out.below hbel; clear Hbs
  have hby2 := Hby2.out.below hbel; clear Hby2
  have hbc := Hbc.out.below hbel; clear Hbc
  have hbd := Hbd.out.below hbel; clear Hbd
  have hbt := Hbt.out.below hbel; clear Hbt
  have hbw := HBW.out.trans (hbel.mono HBW.out.size); clear HBW hbel
  have Ha := Lib.hid ha; clear ha
  have Hb := Lib.hid hb; clear hb
  have Hbx := Lib.hid hbx; clear hbx
  have Hbs := Lib.hid hbs; clear hbs
  have Hby2 := Lib.hid hby2; clear hby2
  have Hbc := Lib.hid hbc; clear hbc
  have Hbd := Lib.hid hbd; clear hbd
  have Hbt := Lib.hid hbt; clear hbt
  have HBW := Lib.hid hbw; clear hbw
  have la := Ha.out.lt
  have lb := Hb.out.lt
  have lbx := Hbx.out.lt
  have lbs := Hbs.out.lt
  have lby2 := Hby2.out.lt
  have lbc := Hbc.out.lt
  have lbd := Hbd.out.lt
  have lbt := Hbt.out.lt
  go_wp2_with fail
  clear la lb lbx lbs lby2 lbc lbd lbt
  refine (C12.out _).mono ?_; rintro e v17 ⟨rfl, hbel⟩
  have ha := Ha.out.below hbel; clear Ha
  have hb := Hb.out.below hbel; clear Hb
  have hbx := Hbx.out.below hbel; clear Hbx
  have hbs := Hbs.out.below hbel; clear Hbs
  have hby2 := Hby2.out.below hbel; clear Hby2
  have hbc := Hbc.out.below hbel; clear Hbc
  have hbd := Hbd.out.below hbel; clear Hbd
  have hbt := Hbt.out.below hbel; clear Hbt
  have hbw := HBW.out.trans (hbel.mono HBW.out.size); clear HBW hbel
  have Ha := Lib.hid ha; clear ha
  have Hb := Lib.hid hb; clear hb
  have Hbx := Lib.hid hbx; clear hbx
  have Hbs := Lib.hid hbs; clear hbs
  have Hby2 := Lib.hid hby2; clear hby2
  have Hbc := Lib.hid hbc; clear hbc
  have Hbd := Lib.hid hbd; clear hbd
  have Hbt := Lib.hid hbt; clear hbt
  have HBW := Lib.hid hbw; clear hbw
  go_wp2_with fail
  go_ret
  exact ⟨rfl, HBW.out⟩
end stampLoops
end Go.Proofs.Ytpcnnnfgopilaaa
