/- SummaryThen: what a way and another one behind it make of a time is what the second one makes of what the first one does; however three are put together, it is the same; for all summaries and times. -/
import Derived.Test.YtdpadkellpkppaaSmThen
import Derived.Test.YtdpadkellpkppaaSmB
import Derived.Test.YtdpadkellpkppaaSmWorks
import Derived.Test.YtdpadkellpkppaaStFrame
import Derived.Test.YtdpadkellpkppaaLaw
namespace Go.Proofs.Ytdpadkellpkppaa
open Go.ChangeShapes Go.WideShapes Go.ChangeAt Go.RowKit Go.BigFrame
set_option linter.unusedVariables false
set_option maxRecDepth 100000
namespace summaryThen
/-- two put together make of a time what the second makes of what the first makes -/
theorem ap_th {a b : Sm} {t : St} (h : a.thB b = true) (h2 : a.apB t = true) : (a.th b).ap t = b.ap (a.ap t) ∧ (a.th b).apB t = b.apB (a.ap t) := by
  have hk : a.thenOk b := by simpa [Sm.thB] using h
  obtain ⟨u, hu⟩ : ∃ u, a.apply t = some u := Option.isSome_iff_exists.1 h2
  have e : a.ap t = u := by unfold Sm.ap; rw [hu]; rfl
  rw [e, (Sm.th_yes hk).1]
  unfold Sm.ap Sm.apB
  rw [Sm.seq_apply hk hu]; exact ⟨rfl, rfl⟩
/-- three put together -/
theorem th_th {a b c : Sm} (h : a.thB b = true) (h2 : b.thB c = true) : (a.th b).th c = a.th (b.th c) ∧ (a.th b).thB c = a.thB (b.th c) := by
  have k1 : a.thenOk b := by simpa [Sm.thB] using h
  have k2 : b.thenOk c := by simpa [Sm.thB] using h2
  rw [(Sm.th_yes k1).1, (Sm.th_yes k2).1]
  obtain ⟨hi, he⟩ := Sm.seq_assoc k1 k2
  by_cases hk : (a.seq b).thenOk c
  · rw [(Sm.th_yes hk).1, (Sm.th_yes hk).2, (Sm.th_yes (hi.1 hk)).1, (Sm.th_yes (hi.1 hk)).2]; exact ⟨he hk, rfl⟩
  · have hk' := fun hh => hk (hi.2 hh)
    rw [(Sm.th_no hk).1, (Sm.th_no hk).2, (Sm.th_no hk').1, (Sm.th_no hk').2]; exact ⟨rfl, rfl⟩
theorem zero_R : Sm.zero.R := by decide +kernel
set_option maxHeartbeats 4000000 in
theorem w_no (a b c X Y P : Sm) (t U V : St) (B2 B5 B3 B6 : Bool) (w : World)
    (c1 : ∀ w, Calls Try.prog 19 #[.agg #[.int .i64 a.fr, .int .i64 a.to, .int .i64 a.kp, .int .i64 a.ad, .int .i64 a.t0, .int .i64 a.t1, .int .i64 a.t2], .agg #[.int .i64 b.fr, .int .i64 b.to, .int .i64 b.kp, .int .i64 b.ad, .int .i64 b.t0, .int .i64 b.t1, .int .i64 b.t2]] w fun e w' => e = .returned (.tuple #[.agg #[.int .i64 X.fr, .int .i64 X.to, .int .i64 X.kp, .int .i64 X.ad, .int .i64 X.t0, .int .i64 X.t1, .int .i64 X.t2], .bool false]) ∧ Below w.heap.size w w')
    (c2 : ∀ w, Calls Try.prog 11 #[.agg #[.int .i64 a.fr, .int .i64 a.to, .int .i64 a.kp, .int .i64 a.ad, .int .i64 a.t0, .int .i64 a.t1, .int .i64 a.t2], .agg #[.int .i64 t.d, .int .i64 t.e, .int .i64 t.x, .int .i64 t.y, .int .i64 t.z]] w fun e w' => e = .returned (.tuple #[.agg #[.int .i64 U.d, .int .i64 U.e, .int .i64 U.x, .int .i64 U.y, .int .i64 U.z], .bool B2]) ∧ Below w.heap.size w w')
    (c3 : ∀ w, Calls Try.prog 11 #[.agg #[.int .i64 b.fr, .int .i64 b.to, .int .i64 b.kp, .int .i64 b.ad, .int .i64 b.t0, .int .i64 b.t1, .int .i64 b.t2], .agg #[.int .i64 U.d, .int .i64 U.e, .int .i64 U.x, .int .i64 U.y, .int .i64 U.z]] w fun e w' => e = .returned (.tuple #[.agg #[.int .i64 V.d, .int .i64 V.e, .int .i64 V.x, .int .i64 V.y, .int .i64 V.z], .bool B3]) ∧ Below w.heap.size w w')
    (c5 : ∀ w, Calls Try.prog 19 #[.agg #[.int .i64 b.fr, .int .i64 b.to, .int .i64 b.kp, .int .i64 b.ad, .int .i64 b.t0, .int .i64 b.t1, .int .i64 b.t2], .agg #[.int .i64 c.fr, .int .i64 c.to, .int .i64 c.kp, .int .i64 c.ad, .int .i64 c.t0, .int .i64 c.t1, .int .i64 c.t2]] w fun e w' => e = .returned (.tuple #[.agg #[.int .i64 Y.fr, .int .i64 Y.to, .int .i64 Y.kp, .int .i64 Y.ad, .int .i64 Y.t0, .int .i64 Y.t1, .int .i64 Y.t2], .bool B5]) ∧ Below w.heap.size w w')
    : Calls Try.prog 6 #[.agg #[.int .i64 a.fr, .int .i64 a.to, .int .i64 a.kp, .int .i64 a.ad, .int .i64 a.t0, .int .i64 a.t1, .int .i64 a.t2], .agg #[.int .i64 b.fr, .int .i64 b.to, .int .i64 b.kp, .int .i64 b.ad, .int .i64 b.t0, .int .i64 b.t1, .int .i64 b.t2], .agg #[.int .i64 c.fr, .int .i64 c.to, .int .i64 c.kp, .int .i64 c.ad, .int .i64 c.t0, .int .i64 c.t1, .int .i64 c.t2], .agg #[.int .i64 t.d, .int .i64 t.e, .int .i64 t.x, .int .i64 t.y, .int .i64 t.z]] w fun e w' => e = .returned (.bool true) ∧ Below w.heap.size w w' := by
  have cw := fun w => works_any w
  have C1 := Lib.hid c1; have C2 := Lib.hid c2; have C3 := Lib.hid c3; have C5 := Lib.hid c5; have CW := Lib.hid cw; clear c1 c2 c3 c5 cw
  have ha : HoldsM ((((w.alloc (.cells #[.int .i64 a.fr, .int .i64 a.to, .int .i64 a.kp, .int .i64 a.ad, .int .i64 a.t0, .int .i64 a.t1, .int .i64 a.t2] 24)).alloc (.cells #[.int .i64 b.fr, .int .i64 b.to, .int .i64 b.kp, .int .i64 b.ad, .int .i64 b.t0, .int .i64 b.t1, .int .i64 b.t2] 24)).alloc (.cells #[.int .i64 c.fr, .int .i64 c.to, .int .i64 c.kp, .int .i64 c.ad, .int .i64 c.t0, .int .i64 c.t1, .int .i64 c.t2] 24)).alloc (.cells #[.int .i64 t.d, .int .i64 t.e, .int .i64 t.x, .int .i64 t.y, .int .i64 t.z] 26)) w.heap.size 24 a := by
    have hq := Row.alloc (Row.alloc (Row.alloc (Row.made w 24 [.int .i64 a.fr, .int .i64 a.to, .int .i64 a.kp, .int .i64 a.ad, .int .i64 a.t0, .int .i64 a.t1, .int .i64 a.t2]) (.cells #[.int .i64 b.fr, .int .i64 b.to, .int .i64 b.kp, .int .i64 b.ad, .int .i64 b.t0, .int .i64 b.t1, .int .i64 b.t2] 24)) (.cells #[.int .i64 c.fr, .int .i64 c.to, .int .i64 c.kp, .int .i64 c.ad, .int .i64 c.t0, .int .i64 c.t1, .int .i64 c.t2] 24)) (.cells #[.int .i64 t.d, .int .i64 t.e, .int .i64 t.x, .int .i64 t.y, .int .i64 t.z] 26)
    exact hq
  have hb : HoldsM ((((w.alloc (.cells #[.int .i64 a.fr, .int .i64 a.to, .int .i64 a.kp, .int .i64 a.ad, .int .i64 a.t0, .int .i64 a.t1, .int .i64 a.t2] 24)).alloc (.cells #[.int .i64 b.fr, .int .i64 b.to, .int .i64 b.kp, .int .i64 b.ad, .int .i64 b.t0, .int .i64 b.t1, .int .i64 b.t2] 24)).alloc (.cells #[.int .i64 c.fr, .int .i64 c.to, .int .i64 c.kp, .int .i64 c.ad, .int .i64 c.t0, .int .i64 c.t1, .int .i64 c.t2] 24)).alloc (.cells #[.int .i64 t.d, .int .i64 t.e, .int .i64 t.x, .int .i64 t.y, .int .i64 t.z] 26)) (w.heap.size + 1) 24 b := by
    have hq := Row.alloc (Row.alloc (Row.made (w.alloc (.cells #[.int .i64 a.fr, .int .i64 a.to, .int .i64 a.kp, .int .i64 a.ad, .int .i64 a.t0, .int .i64 a.t1, .int .i64 a.t2] 24)) 24 [.int .i64 b.fr, .int .i64 b.to, .int .i64 b.kp, .int .i64 b.ad, .int .i64 b.t0, .int .i64 b.t1, .int .i64 b.t2]) (.cells #[.int .i64 c.fr, .int .i64 c.to, .int .i64 c.kp, .int .i64 c.ad, .int .i64 c.t0, .int .i64 c.t1, .int .i64 c.t2] 24)) (.cells #[.int .i64 t.d, .int .i64 t.e, .int .i64 t.x, .int .i64 t.y, .int .i64 t.z] 26)
    rw [size_alloc] at hq
    exact hq
  have hc : HoldsM ((((w.alloc (.cells #[.int .i64 a.fr, .int .i64 a.to, .int .i64 a.kp, .int .i64 a.ad, .int .i64 a.t0, .int .i64 a.t1, .int .i64 a.t2] 24)).alloc (.cells #[.int .i64 b.fr, .int .i64 b.to, .int .i64 b.kp, .int .i64 b.ad, .int .i64 b.t0, .int .i64 b.t1, .int .i64 b.t2] 24)).alloc (.cells #[.int .i64 c.fr, .int .i64 c.to, .int .i64 c.kp, .int .i64 c.ad, .int .i64 c.t0, .int .i64 c.t1, .int .i64 c.t2] 24)).alloc (.cells #[.int .i64 t.d, .int .i64 t.e, .int .i64 t.x, .int .i64 t.y, .int .i64 t.z] 26)) (w.heap.size + 1 + 1) 24 c := by
    have hq := Row.alloc (Row.made ((w.alloc (.cells #[.int .i64 a.fr, .int .i64 a.to, .int .i64 a.kp, .int .i64 a.ad, .int .i64 a.t0, .int .i64 a.t1, .int .i64 a.t2] 24)).alloc (.cells #[.int .i64 b.fr, .int .i64 b.to, .int .i64 b.kp, .int .i64 b.ad, .int .i64 b.t0, .int .i64 b.t1, .int .i64 b.t2] 24)) 24 [.int .i64 c.fr, .int .i64 c.to, .int .i64 c.kp, .int .i64 c.ad, .int .i64 c.t0, .int .i64 c.t1, .int .i64 c.t2]) (.cells #[.int .i64 t.d, .int .i64 t.e, .int .i64 t.x, .int .i64 t.y, .int .i64 t.z] 26)
    rw [size_alloc, size_alloc] at hq
    exact hq
  have ht : Holds ((((w.alloc (.cells #[.int .i64 a.fr, .int .i64 a.to, .int .i64 a.kp, .int .i64 a.ad, .int .i64 a.t0, .int .i64 a.t1, .int .i64 a.t2] 24)).alloc (.cells #[.int .i64 b.fr, .int .i64 b.to, .int .i64 b.kp, .int .i64 b.ad, .int .i64 b.t0, .int .i64 b.t1, .int .i64 b.t2] 24)).alloc (.cells #[.int .i64 c.fr, .int .i64 c.to, .int .i64 c.kp, .int .i64 c.ad, .int .i64 c.t0, .int .i64 c.t1, .int .i64 c.t2] 24)).alloc (.cells #[.int .i64 t.d, .int .i64 t.e, .int .i64 t.x, .int .i64 t.y, .int .i64 t.z] 26)) (w.heap.size + 1 + 1 + 1) t := by
    have hq := Row.made (((w.alloc (.cells #[.int .i64 a.fr, .int .i64 a.to, .int .i64 a.kp, .int .i64 a.ad, .int .i64 a.t0, .int .i64 a.t1, .int .i64 a.t2] 24)).alloc (.cells #[.int .i64 b.fr, .int .i64 b.to, .int .i64 b.kp, .int .i64 b.ad, .int .i64 b.t0, .int .i64 b.t1, .int .i64 b.t2] 24)).alloc (.cells #[.int .i64 c.fr, .int .i64 c.to, .int .i64 c.kp, .int .i64 c.ad, .int .i64 c.t0, .int .i64 c.t1, .int .i64 c.t2] 24)) 26 [.int .i64 t.d, .int .i64 t.e, .int .i64 t.x, .int .i64 t.y, .int .i64 t.z]
    rw [size_alloc, size_alloc, size_alloc] at hq
    exact hq
  have hbw : Below w.heap.size w ((((w.alloc (.cells #[.int .i64 a.fr, .int .i64 a.to, .int .i64 a.kp, .int .i64 a.ad, .int .i64 a.t0, .int .i64 a.t1, .int .i64 a.t2] 24)).alloc (.cells #[.int .i64 b.fr, .int .i64 b.to, .int .i64 b.kp, .int .i64 b.ad, .int .i64 b.t0, .int .i64 b.t1, .int .i64 b.t2] 24)).alloc (.cells #[.int .i64 c.fr, .int .i64 c.to, .int .i64 c.kp, .int .i64 c.ad, .int .i64 c.t0, .int .i64 c.t1, .int .i64 c.t2] 24)).alloc (.cells #[.int .i64 t.d, .int .i64 t.e, .int .i64 t.x, .int .i64 t.y, .int .i64 t.z] 26)) := ((((Below.refl _ _).alloc (by simp) _).alloc (by simp) _).alloc (by simp; omega) _).alloc (by simp; omega) _
  have Ha := Lib.hid ha; clear ha
  have Hb := Lib.hid hb; clear hb
  have Hc := Lib.hid hc; clear hc
  have Ht := Lib.hid ht; clear ht
  have HBW := Lib.hid hbw; clear hbw
  go_enter Try.func6, Try.ntmps6
  go_wp2_with fail
  generalize (((w.alloc (.cells #[.int .i64 a.fr, .int .i64 a.to, .int .i64 a.kp, .int .i64 a.ad, .int .i64 a.t0, .int .i64 a.t1, .int .i64 a.t2] 24)).alloc (.cells #[.int .i64 b.fr, .int .i64 b.to, .int .i64 b.kp, .int .i64 b.ad, .int .i64 b.t0, .int .i64 b.t1, .int .i64 b.t2] 24)).alloc (.cells #[.int .i64 c.fr, .int .i64 c.to, .int .i64 c.kp, .int .i64 c.ad, .int .i64 c.t0, .int .i64 c.t1, .int .i64 c.t2] 24)).alloc (.cells #[.int .i64 t.d, .int .i64 t.e, .int .i64 t.x, .int .i64 t.y, .int .i64 t.z] 26) = w0 at *
  have la := Ha.out.lt
  have lb := Hb.out.lt
  have lc := Hc.out.lt
  have lt := Ht.out.lt
  obtain ⟨ca0, ca1, ca2, ca3, ca4, ca5, ca6⟩ := Ha.out.cells7
  obtain ⟨cb0, cb1, cb2, cb3, cb4, cb5, cb6⟩ := Hb.out.cells7
  go_wp2_with fail
  clear la lb lc lt ca0 ca1 ca2 ca3 ca4 ca5 ca6 cb0 cb1 cb2 cb3 cb4 cb5 cb6
  refine (C1.out _).mono ?_; rintro e v1 ⟨rfl, hbel⟩
  dsimp only
  have ha := Ha.out.below hbel; clear Ha
  have hb := Hb.out.below hbel; clear Hb
  have hc := Hc.out.below hbel; clear Hc
  have ht := Ht.out.below hbel; clear Ht
  have hbw := HBW.out.trans (hbel.mono HBW.out.size); clear HBW hbel
  have Ha := Lib.hid ha; clear ha
  have Hb := Lib.hid hb; clear hb
  have Hc := Lib.hid hc; clear hc
  have Ht := Lib.hid ht; clear ht
  have HBW := Lib.hid hbw; clear hbw
  have la := Ha.out.lt
  have lb := Hb.out.lt
  have lc := Hc.out.lt
  have lt := Ht.out.lt
  obtain ⟨ca0, ca1, ca2, ca3, ca4, ca5, ca6⟩ := Ha.out.cells7
  obtain ⟨ct0, ct1, ct2, ct3, ct4⟩ := Ht.out.c5
  go_wp2_with fail
  clear la lb lc lt ca0 ca1 ca2 ca3 ca4 ca5 ca6 ct0 ct1 ct2 ct3 ct4
  have ha := Ha.out.alloc (.cells #[.int .i64 X.fr, .int .i64 X.to, .int .i64 X.kp, .int .i64 X.ad, .int .i64 X.t0, .int .i64 X.t1, .int .i64 X.t2] 24); clear Ha
  have hb := Hb.out.alloc (.cells #[.int .i64 X.fr, .int .i64 X.to, .int .i64 X.kp, .int .i64 X.ad, .int .i64 X.t0, .int .i64 X.t1, .int .i64 X.t2] 24); clear Hb
  have hc := Hc.out.alloc (.cells #[.int .i64 X.fr, .int .i64 X.to, .int .i64 X.kp, .int .i64 X.ad, .int .i64 X.t0, .int .i64 X.t1, .int .i64 X.t2] 24); clear Hc
  have ht := Ht.out.alloc (.cells #[.int .i64 X.fr, .int .i64 X.to, .int .i64 X.kp, .int .i64 X.ad, .int .i64 X.t0, .int .i64 X.t1, .int .i64 X.t2] 24); clear Ht
  have hx : HoldsM (v1.alloc (.cells #[.int .i64 X.fr, .int .i64 X.to, .int .i64 X.kp, .int .i64 X.ad, .int .i64 X.t0, .int .i64 X.t1, .int .i64 X.t2] 24)) v1.heap.size 24 X := Row.made v1 _ _
  have hbw := HBW.out.alloc HBW.out.size (.cells #[.int .i64 X.fr, .int .i64 X.to, .int .i64 X.kp, .int .i64 X.ad, .int .i64 X.t0, .int .i64 X.t1, .int .i64 X.t2] 24); clear HBW
  generalize v1.alloc (.cells #[.int .i64 X.fr, .int .i64 X.to, .int .i64 X.kp, .int .i64 X.ad, .int .i64 X.t0, .int .i64 X.t1, .int .i64 X.t2] 24) = v2 at *
  generalize v1.heap.size = gx at *
  have Ha := Lib.hid ha; clear ha
  have Hb := Lib.hid hb; clear hb
  have Hc := Lib.hid hc; clear hc
  have Ht := Lib.hid ht; clear ht
  have Hx := Lib.hid hx; clear hx
  have HBW := Lib.hid hbw; clear hbw
  refine (C2.out _).mono ?_; rintro e v3 ⟨rfl, hbel⟩
  dsimp only
  have ha := Ha.out.below hbel; clear Ha
  have hb := Hb.out.below hbel; clear Hb
  have hc := Hc.out.below hbel; clear Hc
  have ht := Ht.out.below hbel; clear Ht
  have hx := Hx.out.below hbel; clear Hx
  have hbw := HBW.out.trans (hbel.mono HBW.out.size); clear HBW hbel
  have Ha := Lib.hid ha; clear ha
  have Hb := Lib.hid hb; clear hb
  have Hc := Lib.hid hc; clear hc
  have Ht := Lib.hid ht; clear ht
  have Hx := Lib.hid hx; clear hx
  have HBW := Lib.hid hbw; clear hbw
  have la := Ha.out.lt
  have lb := Hb.out.lt
  have lc := Hc.out.lt
  have lt := Ht.out.lt
  have lx := Hx.out.lt
  obtain ⟨cb0, cb1, cb2, cb3, cb4, cb5, cb6⟩ := Hb.out.cells7
  go_wp2_with fail
  clear la lb lc lt lx cb0 cb1 cb2 cb3 cb4 cb5 cb6
  have ha := Ha.out.alloc (.cells #[.int .i64 U.d, .int .i64 U.e, .int .i64 U.x, .int .i64 U.y, .int .i64 U.z] 26); clear Ha
  have hb := Hb.out.alloc (.cells #[.int .i64 U.d, .int .i64 U.e, .int .i64 U.x, .int .i64 U.y, .int .i64 U.z] 26); clear Hb
  have hc := Hc.out.alloc (.cells #[.int .i64 U.d, .int .i64 U.e, .int .i64 U.x, .int .i64 U.y, .int .i64 U.z] 26); clear Hc
  have ht := Ht.out.alloc (.cells #[.int .i64 U.d, .int .i64 U.e, .int .i64 U.x, .int .i64 U.y, .int .i64 U.z] 26); clear Ht
  have hx := Hx.out.alloc (.cells #[.int .i64 U.d, .int .i64 U.e, .int .i64 U.x, .int .i64 U.y, .int .i64 U.z] 26); clear Hx
  have hu : Holds (v3.alloc (.cells #[.int .i64 U.d, .int .i64 U.e, .int .i64 U.x, .int .i64 U.y, .int .i64 U.z] 26)) v3.heap.size U := Row.made v3 _ _
  have hbw := HBW.out.alloc HBW.out.size (.cells #[.int .i64 U.d, .int .i64 U.e, .int .i64 U.x, .int .i64 U.y, .int .i64 U.z] 26); clear HBW
  generalize v3.alloc (.cells #[.int .i64 U.d, .int .i64 U.e, .int .i64 U.x, .int .i64 U.y, .int .i64 U.z] 26) = v4 at *
  generalize v3.heap.size = gu at *
  have Ha := Lib.hid ha; clear ha
  have Hb := Lib.hid hb; clear hb
  have Hc := Lib.hid hc; clear hc
  have Ht := Lib.hid ht; clear ht
  have Hx := Lib.hid hx; clear hx
  have Hu := Lib.hid hu; clear hu
  have HBW := Lib.hid hbw; clear hbw
  refine (C3.out _).mono ?_; rintro e v5 ⟨rfl, hbel⟩
  dsimp only
  have ha := Ha.out.below hbel; clear Ha
  have hb := Hb.out.below hbel; clear Hb
  have hc := Hc.out.below hbel; clear Hc
  have ht := Ht.out.below hbel; clear Ht
  have hx := Hx.out.below hbel; clear Hx
  have hu := Hu.out.below hbel; clear Hu
  have hbw := HBW.out.trans (hbel.mono HBW.out.size); clear HBW hbel
  have Ha := Lib.hid ha; clear ha
  have Hb := Lib.hid hb; clear hb
  have Hc := Lib.hid hc; clear hc
  have Ht := Lib.hid ht; clear ht
  have Hx := Lib.hid hx; clear hx
  have Hu := Lib.hid hu; clear hu
  have HBW := Lib.hid hbw; clear hbw
  have la := Ha.out.lt
  have lb := Hb.out.lt
  have lc := Hc.out.lt
  have lt := Ht.out.lt
  have lx := Hx.out.lt
  have lu := Hu.out.lt
  obtain ⟨cb0, cb1, cb2, cb3, cb4, cb5, cb6⟩ := Hb.out.cells7
  obtain ⟨cc0, cc1, cc2, cc3, cc4, cc5, cc6⟩ := Hc.out.cells7
  go_wp2_with fail
  clear la lb lc lt lx lu cb0 cb1 cb2 cb3 cb4 cb5 cb6 cc0 cc1 cc2 cc3 cc4 cc5 cc6
  have ha := Ha.out.alloc (.cells #[.int .i64 V.d, .int .i64 V.e, .int .i64 V.x, .int .i64 V.y, .int .i64 V.z] 26); clear Ha
  have hb := Hb.out.alloc (.cells #[.int .i64 V.d, .int .i64 V.e, .int .i64 V.x, .int .i64 V.y, .int .i64 V.z] 26); clear Hb
  have hc := Hc.out.alloc (.cells #[.int .i64 V.d, .int .i64 V.e, .int .i64 V.x, .int .i64 V.y, .int .i64 V.z] 26); clear Hc
  have ht := Ht.out.alloc (.cells #[.int .i64 V.d, .int .i64 V.e, .int .i64 V.x, .int .i64 V.y, .int .i64 V.z] 26); clear Ht
  have hx := Hx.out.alloc (.cells #[.int .i64 V.d, .int .i64 V.e, .int .i64 V.x, .int .i64 V.y, .int .i64 V.z] 26); clear Hx
  have hu := Hu.out.alloc (.cells #[.int .i64 V.d, .int .i64 V.e, .int .i64 V.x, .int .i64 V.y, .int .i64 V.z] 26); clear Hu
  have hv : Holds (v5.alloc (.cells #[.int .i64 V.d, .int .i64 V.e, .int .i64 V.x, .int .i64 V.y, .int .i64 V.z] 26)) v5.heap.size V := Row.made v5 _ _
  have hbw := HBW.out.alloc HBW.out.size (.cells #[.int .i64 V.d, .int .i64 V.e, .int .i64 V.x, .int .i64 V.y, .int .i64 V.z] 26); clear HBW
  generalize v5.alloc (.cells #[.int .i64 V.d, .int .i64 V.e, .int .i64 V.x, .int .i64 V.y, .int .i64 V.z] 26) = v6 at *
  generalize v5.heap.size = gv at *
  have Ha := Lib.hid ha; clear ha
  have Hb := Lib.hid hb; clear hb
  have Hc := Lib.hid hc; clear hc
  have Ht := Lib.hid ht; clear ht
  have Hx := Lib.hid hx; clear hx
  have Hu := Lib.hid hu; clear hu
  have Hv := Lib.hid hv; clear hv
  have HBW := Lib.hid hbw; clear hbw
  refine (C5.out _).mono ?_; rintro e v7 ⟨rfl, hbel⟩
  dsimp only
  have ha := Ha.out.below hbel; clear Ha
  have hb := Hb.out.below hbel; clear Hb
  have hc := Hc.out.below hbel; clear Hc
  have ht := Ht.out.below hbel; clear Ht
  have hx := Hx.out.below hbel; clear Hx
  have hu := Hu.out.below hbel; clear Hu
  have hv := Hv.out.below hbel; clear Hv
  have hbw := HBW.out.trans (hbel.mono HBW.out.size); clear HBW hbel
  have Ha := Lib.hid ha; clear ha
  have Hb := Lib.hid hb; clear hb
  have Hc := Lib.hid hc; clear hc
  have Ht := Lib.hid ht; clear ht
  have Hx := Lib.hid hx; clear hx
  have Hu := Lib.hid hu; clear hu
  have Hv := Lib.hid hv; clear hv
  have HBW := Lib.hid hbw; clear hbw
  have la := Ha.out.lt
  have lb := Hb.out.lt
  have lc := Hc.out.lt
  have lt := Ht.out.lt
  have lx := Hx.out.lt
  have lu := Hu.out.lt
  have lv := Hv.out.lt
  go_wp2_with fail
  clear la lb lc lt lx lu lv
  have ha := Ha.out.alloc (.cells #[.int .i64 Y.fr, .int .i64 Y.to, .int .i64 Y.kp, .int .i64 Y.ad, .int .i64 Y.t0, .int .i64 Y.t1, .int .i64 Y.t2] 24); clear Ha
  have hb := Hb.out.alloc (.cells #[.int .i64 Y.fr, .int .i64 Y.to, .int .i64 Y.kp, .int .i64 Y.ad, .int .i64 Y.t0, .int .i64 Y.t1, .int .i64 Y.t2] 24); clear Hb
  have hc := Hc.out.alloc (.cells #[.int .i64 Y.fr, .int .i64 Y.to, .int .i64 Y.kp, .int .i64 Y.ad, .int .i64 Y.t0, .int .i64 Y.t1, .int .i64 Y.t2] 24); clear Hc
  have ht := Ht.out.alloc (.cells #[.int .i64 Y.fr, .int .i64 Y.to, .int .i64 Y.kp, .int .i64 Y.ad, .int .i64 Y.t0, .int .i64 Y.t1, .int .i64 Y.t2] 24); clear Ht
  have hx := Hx.out.alloc (.cells #[.int .i64 Y.fr, .int .i64 Y.to, .int .i64 Y.kp, .int .i64 Y.ad, .int .i64 Y.t0, .int .i64 Y.t1, .int .i64 Y.t2] 24); clear Hx
  have hu := Hu.out.alloc (.cells #[.int .i64 Y.fr, .int .i64 Y.to, .int .i64 Y.kp, .int .i64 Y.ad, .int .i64 Y.t0, .int .i64 Y.t1, .int .i64 Y.t2] 24); clear Hu
  have hv := Hv.out.alloc (.cells #[.int .i64 Y.fr, .int .i64 Y.to, .int .i64 Y.kp, .int .i64 Y.ad, .int .i64 Y.t0, .int .i64 Y.t1, .int .i64 Y.t2] 24); clear Hv
  have hy : HoldsM (v7.alloc (.cells #[.int .i64 Y.fr, .int .i64 Y.to, .int .i64 Y.kp, .int .i64 Y.ad, .int .i64 Y.t0, .int .i64 Y.t1, .int .i64 Y.t2] 24)) v7.heap.size 24 Y := Row.made v7 _ _
  have hbw := HBW.out.alloc HBW.out.size (.cells #[.int .i64 Y.fr, .int .i64 Y.to, .int .i64 Y.kp, .int .i64 Y.ad, .int .i64 Y.t0, .int .i64 Y.t1, .int .i64 Y.t2] 24); clear HBW
  generalize v7.alloc (.cells #[.int .i64 Y.fr, .int .i64 Y.to, .int .i64 Y.kp, .int .i64 Y.ad, .int .i64 Y.t0, .int .i64 Y.t1, .int .i64 Y.t2] 24) = v8 at *
  generalize v7.heap.size = gy at *
  have Ha := Lib.hid ha; clear ha
  have Hb := Lib.hid hb; clear hb
  have Hc := Lib.hid hc; clear hc
  have Ht := Lib.hid ht; clear ht
  have Hx := Lib.hid hx; clear hx
  have Hu := Lib.hid hu; clear hu
  have Hv := Lib.hid hv; clear hv
  have Hy := Lib.hid hy; clear hy
  have HBW := Lib.hid hbw; clear hbw
  refine (CW.out _).mono ?_; rintro e v9 ⟨rfl, hbel⟩
  dsimp only
  have ha := Ha.out.below hbel; clear Ha
  have hb := Hb.out.below hbel; clear Hb
  have hc := Hc.out.below hbel; clear Hc
  have ht := Ht.out.below hbel; clear Ht
  have hx := Hx.out.below hbel; clear Hx
  have hu := Hu.out.below hbel; clear Hu
  have hv := Hv.out.below hbel; clear Hv
  have hy := Hy.out.below hbel; clear Hy
  have hbw := HBW.out.trans (hbel.mono HBW.out.size); clear HBW hbel
  have Ha := Lib.hid ha; clear ha
  have Hb := Lib.hid hb; clear hb
  have Hc := Lib.hid hc; clear hc
  have Ht := Lib.hid ht; clear ht
  have Hx := Lib.hid hx; clear hx
  have Hu := Lib.hid hu; clear hu
  have Hv := Lib.hid hv; clear hv
  have Hy := Lib.hid hy; clear hy
  have HBW := Lib.hid hbw; clear hbw
  have la := Ha.out.lt
  have lb := Hb.out.lt
  have lc := Hc.out.lt
  have lt := Ht.out.lt
  have lx := Hx.out.lt
  have lu := Hu.out.lt
  have lv := Hv.out.lt
  have ly := Hy.out.lt
  go_wp2_with fail
  clear la lb lc lt lx lu lv ly
  go_ret
  exact ⟨rfl, HBW.out⟩
set_option maxHeartbeats 4000000 in
theorem w_yn_f (a b c X Y P : Sm) (t U V : St) (B3 B6 : Bool) (w : World)
    (c1 : ∀ w, Calls Try.prog 19 #[.agg #[.int .i64 a.fr, .int .i64 a.to, .int .i64 a.kp, .int .i64 a.ad, .int .i64 a.t0, .int .i64 a.t1, .int .i64 a.t2], .agg #[.int .i64 b.fr, .int .i64 b.to, .int .i64 b.kp, .int .i64 b.ad, .int .i64 b.t0, .int .i64 b.t1, .int .i64 b.t2]] w fun e w' => e = .returned (.tuple #[.agg #[.int .i64 X.fr, .int .i64 X.to, .int .i64 X.kp, .int .i64 X.ad, .int .i64 X.t0, .int .i64 X.t1, .int .i64 X.t2], .bool true]) ∧ Below w.heap.size w w')
    (c2 : ∀ w, Calls Try.prog 11 #[.agg #[.int .i64 a.fr, .int .i64 a.to, .int .i64 a.kp, .int .i64 a.ad, .int .i64 a.t0, .int .i64 a.t1, .int .i64 a.t2], .agg #[.int .i64 t.d, .int .i64 t.e, .int .i64 t.x, .int .i64 t.y, .int .i64 t.z]] w fun e w' => e = .returned (.tuple #[.agg #[.int .i64 U.d, .int .i64 U.e, .int .i64 U.x, .int .i64 U.y, .int .i64 U.z], .bool false]) ∧ Below w.heap.size w w')
    (c3 : ∀ w, Calls Try.prog 11 #[.agg #[.int .i64 b.fr, .int .i64 b.to, .int .i64 b.kp, .int .i64 b.ad, .int .i64 b.t0, .int .i64 b.t1, .int .i64 b.t2], .agg #[.int .i64 U.d, .int .i64 U.e, .int .i64 U.x, .int .i64 U.y, .int .i64 U.z]] w fun e w' => e = .returned (.tuple #[.agg #[.int .i64 V.d, .int .i64 V.e, .int .i64 V.x, .int .i64 V.y, .int .i64 V.z], .bool B3]) ∧ Below w.heap.size w w')
    (c5 : ∀ w, Calls Try.prog 19 #[.agg #[.int .i64 b.fr, .int .i64 b.to, .int .i64 b.kp, .int .i64 b.ad, .int .i64 b.t0, .int .i64 b.t1, .int .i64 b.t2], .agg #[.int .i64 c.fr, .int .i64 c.to, .int .i64 c.kp, .int .i64 c.ad, .int .i64 c.t0, .int .i64 c.t1, .int .i64 c.t2]] w fun e w' => e = .returned (.tuple #[.agg #[.int .i64 Y.fr, .int .i64 Y.to, .int .i64 Y.kp, .int .i64 Y.ad, .int .i64 Y.t0, .int .i64 Y.t1, .int .i64 Y.t2], .bool false]) ∧ Below w.heap.size w w')
    : Calls Try.prog 6 #[.agg #[.int .i64 a.fr, .int .i64 a.to, .int .i64 a.kp, .int .i64 a.ad, .int .i64 a.t0, .int .i64 a.t1, .int .i64 a.t2], .agg #[.int .i64 b.fr, .int .i64 b.to, .int .i64 b.kp, .int .i64 b.ad, .int .i64 b.t0, .int .i64 b.t1, .int .i64 b.t2], .agg #[.int .i64 c.fr, .int .i64 c.to, .int .i64 c.kp, .int .i64 c.ad, .int .i64 c.t0, .int .i64 c.t1, .int .i64 c.t2], .agg #[.int .i64 t.d, .int .i64 t.e, .int .i64 t.x, .int .i64 t.y, .int .i64 t.z]] w fun e w' => e = .returned (.bool true) ∧ Below w.heap.size w w' := by
  have cw := fun w => works_any w
  have C1 := Lib.hid c1; have C2 := Lib.hid c2; have C3 := Lib.hid c3; have C5 := Lib.hid c5; have CW := Lib.hid cw; clear c1 c2 c3 c5 cw
  have ha : HoldsM ((((w.alloc (.cells #[.int .i64 a.fr, .int .i64 a.to, .int .i64 a.kp, .int .i64 a.ad, .int .i64 a.t0, .int .i64 a.t1, .int .i64 a.t2] 24)).alloc (.cells #[.int .i64 b.fr, .int .i64 b.to, .int .i64 b.kp, .int .i64 b.ad, .int .i64 b.t0, .int .i64 b.t1, .int .i64 b.t2] 24)).alloc (.cells #[.int .i64 c.fr, .int .i64 c.to, .int .i64 c.kp, .int .i64 c.ad, .int .i64 c.t0, .int .i64 c.t1, .int .i64 c.t2] 24)).alloc (.cells #[.int .i64 t.d, .int .i64 t.e, .int .i64 t.x, .int .i64 t.y, .int .i64 t.z] 26)) w.heap.size 24 a := by
    have hq := Row.alloc (Row.alloc (Row.alloc (Row.made w 24 [.int .i64 a.fr, .int .i64 a.to, .int .i64 a.kp, .int .i64 a.ad, .int .i64 a.t0, .int .i64 a.t1, .int .i64 a.t2]) (.cells #[.int .i64 b.fr, .int .i64 b.to, .int .i64 b.kp, .int .i64 b.ad, .int .i64 b.t0, .int .i64 b.t1, .int .i64 b.t2] 24)) (.cells #[.int .i64 c.fr, .int .i64 c.to, .int .i64 c.kp, .int .i64 c.ad, .int .i64 c.t0, .int .i64 c.t1, .int .i64 c.t2] 24)) (.cells #[.int .i64 t.d, .int .i64 t.e, .int .i64 t.x, .int .i64 t.y, .int .i64 t.z] 26)
    exact hq
  have hb : HoldsM ((((w.alloc (.cells #[.int .i64 a.fr, .int .i64 a.to, .int .i64 a.kp, .int .i64 a.ad, .int .i64 a.t0, .int .i64 a.t1, .int .i64 a.t2] 24)).alloc (.cells #[.int .i64 b.fr, .int .i64 b.to, .int .i64 b.kp, .int .i64 b.ad, .int .i64 b.t0, .int .i64 b.t1, .int .i64 b.t2] 24)).alloc (.cells #[.int .i64 c.fr, .int .i64 c.to, .int .i64 c.kp, .int .i64 c.ad, .int .i64 c.t0, .int .i64 c.t1, .int .i64 c.t2] 24)).alloc (.cells #[.int .i64 t.d, .int .i64 t.e, .int .i64 t.x, .int .i64 t.y, .int .i64 t.z] 26)) (w.heap.size + 1) 24 b := by
    have hq := Row.alloc (Row.alloc (Row.made (w.alloc (.cells #[.int .i64 a.fr, .int .i64 a.to, .int .i64 a.kp, .int .i64 a.ad, .int .i64 a.t0, .int .i64 a.t1, .int .i64 a.t2] 24)) 24 [.int .i64 b.fr, .int .i64 b.to, .int .i64 b.kp, .int .i64 b.ad, .int .i64 b.t0, .int .i64 b.t1, .int .i64 b.t2]) (.cells #[.int .i64 c.fr, .int .i64 c.to, .int .i64 c.kp, .int .i64 c.ad, .int .i64 c.t0, .int .i64 c.t1, .int .i64 c.t2] 24)) (.cells #[.int .i64 t.d, .int .i64 t.e, .int .i64 t.x, .int .i64 t.y, .int .i64 t.z] 26)
    rw [size_alloc] at hq
    exact hq
  have hc : HoldsM ((((w.alloc (.cells #[.int .i64 a.fr, .int .i64 a.to, .int .i64 a.kp, .int .i64 a.ad, .int .i64 a.t0, .int .i64 a.t1, .int .i64 a.t2] 24)).alloc (.cells #[.int .i64 b.fr, .int .i64 b.to, .int .i64 b.kp, .int .i64 b.ad, .int .i64 b.t0, .int .i64 b.t1, .int .i64 b.t2] 24)).alloc (.cells #[.int .i64 c.fr, .int .i64 c.to, .int .i64 c.kp, .int .i64 c.ad, .int .i64 c.t0, .int .i64 c.t1, .int .i64 c.t2] 24)).alloc (.cells #[.int .i64 t.d, .int .i64 t.e, .int .i64 t.x, .int .i64 t.y, .int .i64 t.z] 26)) (w.heap.size + 1 + 1) 24 c := by
    have hq := Row.alloc (Row.made ((w.alloc (.cells #[.int .i64 a.fr, .int .i64 a.to, .int .i64 a.kp, .int .i64 a.ad, .int .i64 a.t0, .int .i64 a.t1, .int .i64 a.t2] 24)).alloc (.cells #[.int .i64 b.fr, .int .i64 b.to, .int .i64 b.kp, .int .i64 b.ad, .int .i64 b.t0, .int .i64 b.t1, .int .i64 b.t2] 24)) 24 [.int .i64 c.fr, .int .i64 c.to, .int .i64 c.kp, .int .i64 c.ad, .int .i64 c.t0, .int .i64 c.t1, .int .i64 c.t2]) (.cells #[.int .i64 t.d, .int .i64 t.e, .int .i64 t.x, .int .i64 t.y, .int .i64 t.z] 26)
    rw [size_alloc, size_alloc] at hq
    exact hq
  have ht : Holds ((((w.alloc (.cells #[.int .i64 a.fr, .int .i64 a.to, .int .i64 a.kp, .int .i64 a.ad, .int .i64 a.t0, .int .i64 a.t1, .int .i64 a.t2] 24)).alloc (.cells #[.int .i64 b.fr, .int .i64 b.to, .int .i64 b.kp, .int .i64 b.ad, .int .i64 b.t0, .int .i64 b.t1, .int .i64 b.t2] 24)).alloc (.cells #[.int .i64 c.fr, .int .i64 c.to, .int .i64 c.kp, .int .i64 c.ad, .int .i64 c.t0, .int .i64 c.t1, .int .i64 c.t2] 24)).alloc (.cells #[.int .i64 t.d, .int .i64 t.e, .int .i64 t.x, .int .i64 t.y, .int .i64 t.z] 26)) (w.heap.size + 1 + 1 + 1) t := by
    have hq := Row.made (((w.alloc (.cells #[.int .i64 a.fr, .int .i64 a.to, .int .i64 a.kp, .int .i64 a.ad, .int .i64 a.t0, .int .i64 a.t1, .int .i64 a.t2] 24)).alloc (.cells #[.int .i64 b.fr, .int .i64 b.to, .int .i64 b.kp, .int .i64 b.ad, .int .i64 b.t0, .int .i64 b.t1, .int .i64 b.t2] 24)).alloc (.cells #[.int .i64 c.fr, .int .i64 c.to, .int .i64 c.kp, .int .i64 c.ad, .int .i64 c.t0, .int .i64 c.t1, .int .i64 c.t2] 24)) 26 [.int .i64 t.d, .int .i64 t.e, .int .i64 t.x, .int .i64 t.y, .int .i64 t.z]
    rw [size_alloc, size_alloc, size_alloc] at hq
    exact hq
  have hbw : Below w.heap.size w ((((w.alloc (.cells #[.int .i64 a.fr, .int .i64 a.to, .int .i64 a.kp, .int .i64 a.ad, .int .i64 a.t0, .int .i64 a.t1, .int .i64 a.t2] 24)).alloc (.cells #[.int .i64 b.fr, .int .i64 b.to, .int .i64 b.kp, .int .i64 b.ad, .int .i64 b.t0, .int .i64 b.t1, .int .i64 b.t2] 24)).alloc (.cells #[.int .i64 c.fr, .int .i64 c.to, .int .i64 c.kp, .int .i64 c.ad, .int .i64 c.t0, .int .i64 c.t1, .int .i64 c.t2] 24)).alloc (.cells #[.int .i64 t.d, .int .i64 t.e, .int .i64 t.x, .int .i64 t.y, .int .i64 t.z] 26)) := ((((Below.refl _ _).alloc (by simp) _).alloc (by simp) _).alloc (by simp; omega) _).alloc (by simp; omega) _
  have Ha := Lib.hid ha; clear ha
  have Hb := Lib.hid hb; clear hb
  have Hc := Lib.hid hc; clear hc
  have Ht := Lib.hid ht; clear ht
  have HBW := Lib.hid hbw; clear hbw
  go_enter Try.func6, Try.ntmps6
  go_wp2_with fail
  generalize (((w.alloc (.cells #[.int .i64 a.fr, .int .i64 a.to, .int .i64 a.kp, .int .i64 a.ad, .int .i64 a.t0, .int .i64 a.t1, .int .i64 a.t2] 24)).alloc (.cells #[.int .i64 b.fr, .int .i64 b.to, .int .i64 b.kp, .int .i64 b.ad, .int .i64 b.t0, .int .i64 b.t1, .int .i64 b.t2] 24)).alloc (.cells #[.int .i64 c.fr, .int .i64 c.to, .int .i64 c.kp, .int .i64 c.ad, .int .i64 c.t0, .int .i64 c.t1, .int .i64 c.t2] 24)).alloc (.cells #[.int .i64 t.d, .int .i64 t.e, .int .i64 t.x, .int .i64 t.y, .int .i64 t.z] 26) = w0 at *
  have la := Ha.out.lt
  have lb := Hb.out.lt
  have lc := Hc.out.lt
  have lt := Ht.out.lt
  obtain ⟨ca0, ca1, ca2, ca3, ca4, ca5, ca6⟩ := Ha.out.cells7
  obtain ⟨cb0, cb1, cb2, cb3, cb4, cb5, cb6⟩ := Hb.out.cells7
  go_wp2_with fail
  clear la lb lc lt ca0 ca1 ca2 ca3 ca4 ca5 ca6 cb0 cb1 cb2 cb3 cb4 cb5 cb6
  refine (C1.out _).mono ?_; rintro e v1 ⟨rfl, hbel⟩
  dsimp only
  have ha := Ha.out.below hbel; clear Ha
  have hb := Hb.out.below hbel; clear Hb
  have hc := Hc.out.below hbel; clear Hc
  have ht := Ht.out.below hbel; clear Ht
  have hbw := HBW.out.trans (hbel.mono HBW.out.size); clear HBW hbel
  have Ha := Lib.hid ha; clear ha
  have Hb := Lib.hid hb; clear hb
  have Hc := Lib.hid hc; clear hc
  have Ht := Lib.hid ht; clear ht
  have HBW := Lib.hid hbw; clear hbw
  have la := Ha.out.lt
  have lb := Hb.out.lt
  have lc := Hc.out.lt
  have lt := Ht.out.lt
  obtain ⟨ca0, ca1, ca2, ca3, ca4, ca5, ca6⟩ := Ha.out.cells7
  obtain ⟨ct0, ct1, ct2, ct3, ct4⟩ := Ht.out.c5
  go_wp2_with fail
  clear la lb lc lt ca0 ca1 ca2 ca3 ca4 ca5 ca6 ct0 ct1 ct2 ct3 ct4
  have ha := Ha.out.alloc (.cells #[.int .i64 X.fr, .int .i64 X.to, .int .i64 X.kp, .int .i64 X.ad, .int .i64 X.t0, .int .i64 X.t1, .int .i64 X.t2] 24); clear Ha
  have hb := Hb.out.alloc (.cells #[.int .i64 X.fr, .int .i64 X.to, .int .i64 X.kp, .int .i64 X.ad, .int .i64 X.t0, .int .i64 X.t1, .int .i64 X.t2] 24); clear Hb
  have hc := Hc.out.alloc (.cells #[.int .i64 X.fr, .int .i64 X.to, .int .i64 X.kp, .int .i64 X.ad, .int .i64 X.t0, .int .i64 X.t1, .int .i64 X.t2] 24); clear Hc
  have ht := Ht.out.alloc (.cells #[.int .i64 X.fr, .int .i64 X.to, .int .i64 X.kp, .int .i64 X.ad, .int .i64 X.t0, .int .i64 X.t1, .int .i64 X.t2] 24); clear Ht
  have hx : HoldsM (v1.alloc (.cells #[.int .i64 X.fr, .int .i64 X.to, .int .i64 X.kp, .int .i64 X.ad, .int .i64 X.t0, .int .i64 X.t1, .int .i64 X.t2] 24)) v1.heap.size 24 X := Row.made v1 _ _
  have hbw := HBW.out.alloc HBW.out.size (.cells #[.int .i64 X.fr, .int .i64 X.to, .int .i64 X.kp, .int .i64 X.ad, .int .i64 X.t0, .int .i64 X.t1, .int .i64 X.t2] 24); clear HBW
  generalize v1.alloc (.cells #[.int .i64 X.fr, .int .i64 X.to, .int .i64 X.kp, .int .i64 X.ad, .int .i64 X.t0, .int .i64 X.t1, .int .i64 X.t2] 24) = v2 at *
  generalize v1.heap.size = gx at *
  have Ha := Lib.hid ha; clear ha
  have Hb := Lib.hid hb; clear hb
  have Hc := Lib.hid hc; clear hc
  have Ht := Lib.hid ht; clear ht
  have Hx := Lib.hid hx; clear hx
  have HBW := Lib.hid hbw; clear hbw
  refine (C2.out _).mono ?_; rintro e v3 ⟨rfl, hbel⟩
  dsimp only
  have ha := Ha.out.below hbel; clear Ha
  have hb := Hb.out.below hbel; clear Hb
  have hc := Hc.out.below hbel; clear Hc
  have ht := Ht.out.below hbel; clear Ht
  have hx := Hx.out.below hbel; clear Hx
  have hbw := HBW.out.trans (hbel.mono HBW.out.size); clear HBW hbel
  have Ha := Lib.hid ha; clear ha
  have Hb := Lib.hid hb; clear hb
  have Hc := Lib.hid hc; clear hc
  have Ht := Lib.hid ht; clear ht
  have Hx := Lib.hid hx; clear hx
  have HBW := Lib.hid hbw; clear hbw
  have la := Ha.out.lt
  have lb := Hb.out.lt
  have lc := Hc.out.lt
  have lt := Ht.out.lt
  have lx := Hx.out.lt
  obtain ⟨cb0, cb1, cb2, cb3, cb4, cb5, cb6⟩ := Hb.out.cells7
  go_wp2_with fail
  clear la lb lc lt lx cb0 cb1 cb2 cb3 cb4 cb5 cb6
  have ha := Ha.out.alloc (.cells #[.int .i64 U.d, .int .i64 U.e, .int .i64 U.x, .int .i64 U.y, .int .i64 U.z] 26); clear Ha
  have hb := Hb.out.alloc (.cells #[.int .i64 U.d, .int .i64 U.e, .int .i64 U.x, .int .i64 U.y, .int .i64 U.z] 26); clear Hb
  have hc := Hc.out.alloc (.cells #[.int .i64 U.d, .int .i64 U.e, .int .i64 U.x, .int .i64 U.y, .int .i64 U.z] 26); clear Hc
  have ht := Ht.out.alloc (.cells #[.int .i64 U.d, .int .i64 U.e, .int .i64 U.x, .int .i64 U.y, .int .i64 U.z] 26); clear Ht
  have hx := Hx.out.alloc (.cells #[.int .i64 U.d, .int .i64 U.e, .int .i64 U.x, .int .i64 U.y, .int .i64 U.z] 26); clear Hx
  have hu : Holds (v3.alloc (.cells #[.int .i64 U.d, .int .i64 U.e, .int .i64 U.x, .int .i64 U.y, .int .i64 U.z] 26)) v3.heap.size U := Row.made v3 _ _
  have hbw := HBW.out.alloc HBW.out.size (.cells #[.int .i64 U.d, .int .i64 U.e, .int .i64 U.x, .int .i64 U.y, .int .i64 U.z] 26); clear HBW
  generalize v3.alloc (.cells #[.int .i64 U.d, .int .i64 U.e, .int .i64 U.x, .int .i64 U.y, .int .i64 U.z] 26) = v4 at *
  generalize v3.heap.size = gu at *
  have Ha := Lib.hid ha; clear ha
  have Hb := Lib.hid hb; clear hb
  have Hc := Lib.hid hc; clear hc
  have Ht := Lib.hid ht; clear ht
  have Hx := Lib.hid hx; clear hx
  have Hu := Lib.hid hu; clear hu
  have HBW := Lib.hid hbw; clear hbw
  refine (C3.out _).mono ?_; rintro e v5 ⟨rfl, hbel⟩
  dsimp only
  have ha := Ha.out.below hbel; clear Ha
  have hb := Hb.out.below hbel; clear Hb
  have hc := Hc.out.below hbel; clear Hc
  have ht := Ht.out.below hbel; clear Ht
  have hx := Hx.out.below hbel; clear Hx
  have hu := Hu.out.below hbel; clear Hu
  have hbw := HBW.out.trans (hbel.mono HBW.out.size); clear HBW hbel
  have Ha := Lib.hid ha; clear ha
  have Hb := Lib.hid hb; clear hb
  have Hc := Lib.hid hc; clear hc
  have Ht := Lib.hid ht; clear ht
  have Hx := Lib.hid hx; clear hx
  have Hu := Lib.hid hu; clear hu
  have HBW := Lib.hid hbw; clear hbw
  have la := Ha.out.lt
  have lb := Hb.out.lt
  have lc := Hc.out.lt
  have lt := Ht.out.lt
  have lx := Hx.out.lt
  have lu := Hu.out.lt
  obtain ⟨cb0, cb1, cb2, cb3, cb4, cb5, cb6⟩ := Hb.out.cells7
  obtain ⟨cc0, cc1, cc2, cc3, cc4, cc5, cc6⟩ := Hc.out.cells7
  go_wp2_with fail
  clear la lb lc lt lx lu cb0 cb1 cb2 cb3 cb4 cb5 cb6 cc0 cc1 cc2 cc3 cc4 cc5 cc6
  have ha := Ha.out.alloc (.cells #[.int .i64 V.d, .int .i64 V.e, .int .i64 V.x, .int .i64 V.y, .int .i64 V.z] 26); clear Ha
  have hb := Hb.out.alloc (.cells #[.int .i64 V.d, .int .i64 V.e, .int .i64 V.x, .int .i64 V.y, .int .i64 V.z] 26); clear Hb
  have hc := Hc.out.alloc (.cells #[.int .i64 V.d, .int .i64 V.e, .int .i64 V.x, .int .i64 V.y, .int .i64 V.z] 26); clear Hc
  have ht := Ht.out.alloc (.cells #[.int .i64 V.d, .int .i64 V.e, .int .i64 V.x, .int .i64 V.y, .int .i64 V.z] 26); clear Ht
  have hx := Hx.out.alloc (.cells #[.int .i64 V.d, .int .i64 V.e, .int .i64 V.x, .int .i64 V.y, .int .i64 V.z] 26); clear Hx
  have hu := Hu.out.alloc (.cells #[.int .i64 V.d, .int .i64 V.e, .int .i64 V.x, .int .i64 V.y, .int .i64 V.z] 26); clear Hu
  have hv : Holds (v5.alloc (.cells #[.int .i64 V.d, .int .i64 V.e, .int .i64 V.x, .int .i64 V.y, .int .i64 V.z] 26)) v5.heap.size V := Row.made v5 _ _
  have hbw := HBW.out.alloc HBW.out.size (.cells #[.int .i64 V.d, .int .i64 V.e, .int .i64 V.x, .int .i64 V.y, .int .i64 V.z] 26); clear HBW
  generalize v5.alloc (.cells #[.int .i64 V.d, .int .i64 V.e, .int .i64 V.x, .int .i64 V.y, .int .i64 V.z] 26) = v6 at *
  generalize v5.heap.size = gv at *
  have Ha := Lib.hid ha; clear ha
  have Hb := Lib.hid hb; clear hb
  have Hc := Lib.hid hc; clear hc
  have Ht := Lib.hid ht; clear ht
  have Hx := Lib.hid hx; clear hx
  have Hu := Lib.hid hu; clear hu
  have Hv := Lib.hid hv; clear hv
  have HBW := Lib.hid hbw; clear hbw
  refine (C5.out _).mono ?_; rintro e v7 ⟨rfl, hbel⟩
  dsimp only
  have ha := Ha.out.below hbel; clear Ha
  have hb := Hb.out.below hbel; clear Hb
  have hc := Hc.out.below hbel; clear Hc
  have ht := Ht.out.below hbel; clear Ht
  have hx := Hx.out.below hbel; clear Hx
  have hu := Hu.out.below hbel; clear Hu
  have hv := Hv.out.below hbel; clear Hv
  have hbw := HBW.out.trans (hbel.mono HBW.out.size); clear HBW hbel
  have Ha := Lib.hid ha; clear ha
  have Hb := Lib.hid hb; clear hb
  have Hc := Lib.hid hc; clear hc
  have Ht := Lib.hid ht; clear ht
  have Hx := Lib.hid hx; clear hx
  have Hu := Lib.hid hu; clear hu
  have Hv := Lib.hid hv; clear hv
  have HBW := Lib.hid hbw; clear hbw
  have la := Ha.out.lt
  have lb := Hb.out.lt
  have lc := Hc.out.lt
  have lt := Ht.out.lt
  have lx := Hx.out.lt
  have lu := Hu.out.lt
  have lv := Hv.out.lt
  go_wp2_with fail
  clear la lb lc lt lx lu lv
  have ha := Ha.out.alloc (.cells #[.int .i64 Y.fr, .int .i64 Y.to, .int .i64 Y.kp, .int .i64 Y.ad, .int .i64 Y.t0, .int .i64 Y.t1, .int .i64 Y.t2] 24); clear Ha
  have hb := Hb.out.alloc (.cells #[.int .i64 Y.fr, .int .i64 Y.to, .int .i64 Y.kp, .int .i64 Y.ad, .int .i64 Y.t0, .int .i64 Y.t1, .int .i64 Y.t2] 24); clear Hb
  have hc := Hc.out.alloc (.cells #[.int .i64 Y.fr, .int .i64 Y.to, .int .i64 Y.kp, .int .i64 Y.ad, .int .i64 Y.t0, .int .i64 Y.t1, .int .i64 Y.t2] 24); clear Hc
  have ht := Ht.out.alloc (.cells #[.int .i64 Y.fr, .int .i64 Y.to, .int .i64 Y.kp, .int .i64 Y.ad, .int .i64 Y.t0, .int .i64 Y.t1, .int .i64 Y.t2] 24); clear Ht
  have hx := Hx.out.alloc (.cells #[.int .i64 Y.fr, .int .i64 Y.to, .int .i64 Y.kp, .int .i64 Y.ad, .int .i64 Y.t0, .int .i64 Y.t1, .int .i64 Y.t2] 24); clear Hx
  have hu := Hu.out.alloc (.cells #[.int .i64 Y.fr, .int .i64 Y.to, .int .i64 Y.kp, .int .i64 Y.ad, .int .i64 Y.t0, .int .i64 Y.t1, .int .i64 Y.t2] 24); clear Hu
  have hv := Hv.out.alloc (.cells #[.int .i64 Y.fr, .int .i64 Y.to, .int .i64 Y.kp, .int .i64 Y.ad, .int .i64 Y.t0, .int .i64 Y.t1, .int .i64 Y.t2] 24); clear Hv
  have hy : HoldsM (v7.alloc (.cells #[.int .i64 Y.fr, .int .i64 Y.to, .int .i64 Y.kp, .int .i64 Y.ad, .int .i64 Y.t0, .int .i64 Y.t1, .int .i64 Y.t2] 24)) v7.heap.size 24 Y := Row.made v7 _ _
  have hbw := HBW.out.alloc HBW.out.size (.cells #[.int .i64 Y.fr, .int .i64 Y.to, .int .i64 Y.kp, .int .i64 Y.ad, .int .i64 Y.t0, .int .i64 Y.t1, .int .i64 Y.t2] 24); clear HBW
  generalize v7.alloc (.cells #[.int .i64 Y.fr, .int .i64 Y.to, .int .i64 Y.kp, .int .i64 Y.ad, .int .i64 Y.t0, .int .i64 Y.t1, .int .i64 Y.t2] 24) = v8 at *
  generalize v7.heap.size = gy at *
  have Ha := Lib.hid ha; clear ha
  have Hb := Lib.hid hb; clear hb
  have Hc := Lib.hid hc; clear hc
  have Ht := Lib.hid ht; clear ht
  have Hx := Lib.hid hx; clear hx
  have Hu := Lib.hid hu; clear hu
  have Hv := Lib.hid hv; clear hv
  have Hy := Lib.hid hy; clear hy
  have HBW := Lib.hid hbw; clear hbw
  refine (CW.out _).mono ?_; rintro e v9 ⟨rfl, hbel⟩
  dsimp only
  have ha := Ha.out.below hbel; clear Ha
  have hb := Hb.out.below hbel; clear Hb
  have hc := Hc.out.below hbel; clear Hc
  have ht := Ht.out.below hbel; clear Ht
  have hx := Hx.out.below hbel; clear Hx
  have hu := Hu.out.below hbel; clear Hu
  have hv := Hv.out.below hbel; clear Hv
  have hy := Hy.out.below hbel; clear Hy
  have hbw := HBW.out.trans (hbel.mono HBW.out.size); clear HBW hbel
  have Ha := Lib.hid ha; clear ha
  have Hb := Lib.hid hb; clear hb
  have Hc := Lib.hid hc; clear hc
  have Ht := Lib.hid ht; clear ht
  have Hx := Lib.hid hx; clear hx
  have Hu := Lib.hid hu; clear hu
  have Hv := Lib.hid hv; clear hv
  have Hy := Lib.hid hy; clear hy
  have HBW := Lib.hid hbw; clear hbw
  have la := Ha.out.lt
  have lb := Hb.out.lt
  have lc := Hc.out.lt
  have lt := Ht.out.lt
  have lx := Hx.out.lt
  have lu := Hu.out.lt
  have lv := Hv.out.lt
  have ly := Hy.out.lt
  go_wp2_with fail
  clear la lb lc lt lx lu lv ly
  go_ret
  exact ⟨rfl, HBW.out⟩
set_option maxHeartbeats 4000000 in
theorem w_yn_t (a b c X Y P : Sm) (t U V : St) (B3 B6 : Bool) (w : World)
    (c1 : ∀ w, Calls Try.prog 19 #[.agg #[.int .i64 a.fr, .int .i64 a.to, .int .i64 a.kp, .int .i64 a.ad, .int .i64 a.t0, .int .i64 a.t1, .int .i64 a.t2], .agg #[.int .i64 b.fr, .int .i64 b.to, .int .i64 b.kp, .int .i64 b.ad, .int .i64 b.t0, .int .i64 b.t1, .int .i64 b.t2]] w fun e w' => e = .returned (.tuple #[.agg #[.int .i64 X.fr, .int .i64 X.to, .int .i64 X.kp, .int .i64 X.ad, .int .i64 X.t0, .int .i64 X.t1, .int .i64 X.t2], .bool true]) ∧ Below w.heap.size w w')
    (c2 : ∀ w, Calls Try.prog 11 #[.agg #[.int .i64 a.fr, .int .i64 a.to, .int .i64 a.kp, .int .i64 a.ad, .int .i64 a.t0, .int .i64 a.t1, .int .i64 a.t2], .agg #[.int .i64 t.d, .int .i64 t.e, .int .i64 t.x, .int .i64 t.y, .int .i64 t.z]] w fun e w' => e = .returned (.tuple #[.agg #[.int .i64 U.d, .int .i64 U.e, .int .i64 U.x, .int .i64 U.y, .int .i64 U.z], .bool false]) ∧ Below w.heap.size w w')
    (c3 : ∀ w, Calls Try.prog 11 #[.agg #[.int .i64 b.fr, .int .i64 b.to, .int .i64 b.kp, .int .i64 b.ad, .int .i64 b.t0, .int .i64 b.t1, .int .i64 b.t2], .agg #[.int .i64 U.d, .int .i64 U.e, .int .i64 U.x, .int .i64 U.y, .int .i64 U.z]] w fun e w' => e = .returned (.tuple #[.agg #[.int .i64 V.d, .int .i64 V.e, .int .i64 V.x, .int .i64 V.y, .int .i64 V.z], .bool B3]) ∧ Below w.heap.size w w')
    (c5 : ∀ w, Calls Try.prog 19 #[.agg #[.int .i64 b.fr, .int .i64 b.to, .int .i64 b.kp, .int .i64 b.ad, .int .i64 b.t0, .int .i64 b.t1, .int .i64 b.t2], .agg #[.int .i64 c.fr, .int .i64 c.to, .int .i64 c.kp, .int .i64 c.ad, .int .i64 c.t0, .int .i64 c.t1, .int .i64 c.t2]] w fun e w' => e = .returned (.tuple #[.agg #[.int .i64 Y.fr, .int .i64 Y.to, .int .i64 Y.kp, .int .i64 Y.ad, .int .i64 Y.t0, .int .i64 Y.t1, .int .i64 Y.t2], .bool true]) ∧ Below w.heap.size w w')
    (c6 : ∀ w, Calls Try.prog 19 #[.agg #[.int .i64 X.fr, .int .i64 X.to, .int .i64 X.kp, .int .i64 X.ad, .int .i64 X.t0, .int .i64 X.t1, .int .i64 X.t2], .agg #[.int .i64 c.fr, .int .i64 c.to, .int .i64 c.kp, .int .i64 c.ad, .int .i64 c.t0, .int .i64 c.t1, .int .i64 c.t2]] w fun e w' => e = .returned (.tuple #[.agg #[.int .i64 P.fr, .int .i64 P.to, .int .i64 P.kp, .int .i64 P.ad, .int .i64 P.t0, .int .i64 P.t1, .int .i64 P.t2], .bool B6]) ∧ Below w.heap.size w w')
    (c7 : ∀ w, Calls Try.prog 19 #[.agg #[.int .i64 a.fr, .int .i64 a.to, .int .i64 a.kp, .int .i64 a.ad, .int .i64 a.t0, .int .i64 a.t1, .int .i64 a.t2], .agg #[.int .i64 Y.fr, .int .i64 Y.to, .int .i64 Y.kp, .int .i64 Y.ad, .int .i64 Y.t0, .int .i64 Y.t1, .int .i64 Y.t2]] w fun e w' => e = .returned (.tuple #[.agg #[.int .i64 P.fr, .int .i64 P.to, .int .i64 P.kp, .int .i64 P.ad, .int .i64 P.t0, .int .i64 P.t1, .int .i64 P.t2], .bool B6]) ∧ Below w.heap.size w w')
    : Calls Try.prog 6 #[.agg #[.int .i64 a.fr, .int .i64 a.to, .int .i64 a.kp, .int .i64 a.ad, .int .i64 a.t0, .int .i64 a.t1, .int .i64 a.t2], .agg #[.int .i64 b.fr, .int .i64 b.to, .int .i64 b.kp, .int .i64 b.ad, .int .i64 b.t0, .int .i64 b.t1, .int .i64 b.t2], .agg #[.int .i64 c.fr, .int .i64 c.to, .int .i64 c.kp, .int .i64 c.ad, .int .i64 c.t0, .int .i64 c.t1, .int .i64 c.t2], .agg #[.int .i64 t.d, .int .i64 t.e, .int .i64 t.x, .int .i64 t.y, .int .i64 t.z]] w fun e w' => e = .returned (.bool true) ∧ Below w.heap.size w w' := by
  have cw := fun w => works_any w
  have C1 := Lib.hid c1; have C2 := Lib.hid c2; have C3 := Lib.hid c3; have C5 := Lib.hid c5; have CW := Lib.hid cw; have C6 := Lib.hid c6; have C7 := Lib.hid c7; clear c1 c2 c3 c5 cw c6 c7
  have ha : HoldsM ((((w.alloc (.cells #[.int .i64 a.fr, .int .i64 a.to, .int .i64 a.kp, .int .i64 a.ad, .int .i64 a.t0, .int .i64 a.t1, .int .i64 a.t2] 24)).alloc (.cells #[.int .i64 b.fr, .int .i64 b.to, .int .i64 b.kp, .int .i64 b.ad, .int .i64 b.t0, .int .i64 b.t1, .int .i64 b.t2] 24)).alloc (.cells #[.int .i64 c.fr, .int .i64 c.to, .int .i64 c.kp, .int .i64 c.ad, .int .i64 c.t0, .int .i64 c.t1, .int .i64 c.t2] 24)).alloc (.cells #[.int .i64 t.d, .int .i64 t.e, .int .i64 t.x, .int .i64 t.y, .int .i64 t.z] 26)) w.heap.size 24 a := by
    have hq := Row.alloc (Row.alloc (Row.alloc (Row.made w 24 [.int .i64 a.fr, .int .i64 a.to, .int .i64 a.kp, .int .i64 a.ad, .int .i64 a.t0, .int .i64 a.t1, .int .i64 a.t2]) (.cells #[.int .i64 b.fr, .int .i64 b.to, .int .i64 b.kp, .int .i64 b.ad, .int .i64 b.t0, .int .i64 b.t1, .int .i64 b.t2] 24)) (.cells #[.int .i64 c.fr, .int .i64 c.to, .int .i64 c.kp, .int .i64 c.ad, .int .i64 c.t0, .int .i64 c.t1, .int .i64 c.t2] 24)) (.cells #[.int .i64 t.d, .int .i64 t.e, .int .i64 t.x, .int .i64 t.y, .int .i64 t.z] 26)
    exact hq
  have hb : HoldsM ((((w.alloc (.cells #[.int .i64 a.fr, .int .i64 a.to, .int .i64 a.kp, .int .i64 a.ad, .int .i64 a.t0, .int .i64 a.t1, .int .i64 a.t2] 24)).alloc (.cells #[.int .i64 b.fr, .int .i64 b.to, .int .i64 b.kp, .int .i64 b.ad, .int .i64 b.t0, .int .i64 b.t1, .int .i64 b.t2] 24)).alloc (.cells #[.int .i64 c.fr, .int .i64 c.to, .int .i64 c.kp, .int .i64 c.ad, .int .i64 c.t0, .int .i64 c.t1, .int .i64 c.t2] 24)).alloc (.cells #[.int .i64 t.d, .int .i64 t.e, .int .i64 t.x, .int .i64 t.y, .int .i64 t.z] 26)) (w.heap.size + 1) 24 b := by
    have hq := Row.alloc (Row.alloc (Row.made (w.alloc (.cells #[.int .i64 a.fr, .int .i64 a.to, .int .i64 a.kp, .int .i64 a.ad, .int .i64 a.t0, .int .i64 a.t1, .int .i64 a.t2] 24)) 24 [.int .i64 b.fr, .int .i64 b.to, .int .i64 b.kp, .int .i64 b.ad, .int .i64 b.t0, .int .i64 b.t1, .int .i64 b.t2]) (.cells #[.int .i64 c.fr, .int .i64 c.to, .int .i64 c.kp, .int .i64 c.ad, .int .i64 c.t0, .int .i64 c.t1, .int .i64 c.t2] 24)) (.cells #[.int .i64 t.d, .int .i64 t.e, .int .i64 t.x, .int .i64 t.y, .int .i64 t.z] 26)
    rw [size_alloc] at hq
    exact hq
  have hc : HoldsM ((((w.alloc (.cells #[.int .i64 a.fr, .int .i64 a.to, .int .i64 a.kp, .int .i64 a.ad, .int .i64 a.t0, .int .i64 a.t1, .int .i64 a.t2] 24)).alloc (.cells #[.int .i64 b.fr, .int .i64 b.to, .int .i64 b.kp, .int .i64 b.ad, .int .i64 b.t0, .int .i64 b.t1, .int .i64 b.t2] 24)).alloc (.cells #[.int .i64 c.fr, .int .i64 c.to, .int .i64 c.kp, .int .i64 c.ad, .int .i64 c.t0, .int .i64 c.t1, .int .i64 c.t2] 24)).alloc (.cells #[.int .i64 t.d, .int .i64 t.e, .int .i64 t.x, .int .i64 t.y, .int .i64 t.z] 26)) (w.heap.size + 1 + 1) 24 c := by
    have hq := Row.alloc (Row.made ((w.alloc (.cells #[.int .i64 a.fr, .int .i64 a.to, .int .i64 a.kp, .int .i64 a.ad, .int .i64 a.t0, .int .i64 a.t1, .int .i64 a.t2] 24)).alloc (.cells #[.int .i64 b.fr, .int .i64 b.to, .int .i64 b.kp, .int .i64 b.ad, .int .i64 b.t0, .int .i64 b.t1, .int .i64 b.t2] 24)) 24 [.int .i64 c.fr, .int .i64 c.to, .int .i64 c.kp, .int .i64 c.ad, .int .i64 c.t0, .int .i64 c.t1, .int .i64 c.t2]) (.cells #[.int .i64 t.d, .int .i64 t.e, .int .i64 t.x, .int .i64 t.y, .int .i64 t.z] 26)
    rw [size_alloc, size_alloc] at hq
    exact hq
  have ht : Holds ((((w.alloc (.cells #[.int .i64 a.fr, .int .i64 a.to, .int .i64 a.kp, .int .i64 a.ad, .int .i64 a.t0, .int .i64 a.t1, .int .i64 a.t2] 24)).alloc (.cells #[.int .i64 b.fr, .int .i64 b.to, .int .i64 b.kp, .int .i64 b.ad, .int .i64 b.t0, .int .i64 b.t1, .int .i64 b.t2] 24)).alloc (.cells #[.int .i64 c.fr, .int .i64 c.to, .int .i64 c.kp, .int .i64 c.ad, .int .i64 c.t0, .int .i64 c.t1, .int .i64 c.t2] 24)).alloc (.cells #[.int .i64 t.d, .int .i64 t.e, .int .i64 t.x, .int .i64 t.y, .int .i64 t.z] 26)) (w.heap.size + 1 + 1 + 1) t := by
    have hq := Row.made (((w.alloc (.cells #[.int .i64 a.fr, .int .i64 a.to, .int .i64 a.kp, .int .i64 a.ad, .int .i64 a.t0, .int .i64 a.t1, .int .i64 a.t2] 24)).alloc (.cells #[.int .i64 b.fr, .int .i64 b.to, .int .i64 b.kp, .int .i64 b.ad, .int .i64 b.t0, .int .i64 b.t1, .int .i64 b.t2] 24)).alloc (.cells #[.int .i64 c.fr, .int .i64 c.to, .int .i64 c.kp, .int .i64 c.ad, .int .i64 c.t0, .int .i64 c.t1, .int .i64 c.t2] 24)) 26 [.int .i64 t.d, .int .i64 t.e, .int .i64 t.x, .int .i64 t.y, .int .i64 t.z]
    rw [size_alloc, size_alloc, size_alloc] at hq
    exact hq
  have hbw : Below w.heap.size w ((((w.alloc (.cells #[.int .i64 a.fr, .int .i64 a.to, .int .i64 a.kp, .int .i64 a.ad, .int .i64 a.t0, .int .i64 a.t1, .int .i64 a.t2] 24)).alloc (.cells #[.int .i64 b.fr, .int .i64 b.to, .int .i64 b.kp, .int .i64 b.ad, .int .i64 b.t0, .int .i64 b.t1, .int .i64 b.t2] 24)).alloc (.cells #[.int .i64 c.fr, .int .i64 c.to, .int .i64 c.kp, .int .i64 c.ad, .int .i64 c.t0, .int .i64 c.t1, .int .i64 c.t2] 24)).alloc (.cells #[.int .i64 t.d, .int .i64 t.e, .int .i64 t.x, .int .i64 t.y, .int .i64 t.z] 26)) := ((((Below.refl _ _).alloc (by simp) _).alloc (by simp) _).alloc (by simp; omega) _).alloc (by simp; omega) _
  have Ha := Lib.hid ha; clear ha
  have Hb := Lib.hid hb; clear hb
  have Hc := Lib.hid hc; clear hc
  have Ht := Lib.hid ht; clear ht
  have HBW := Lib.hid hbw; clear hbw
  go_enter Try.func6, Try.ntmps6
  go_wp2_with fail
  generalize (((w.alloc (.cells #[.int .i64 a.fr, .int .i64 a.to, .int .i64 a.kp, .int .i64 a.ad, .int .i64 a.t0, .int .i64 a.t1, .int .i64 a.t2] 24)).alloc (.cells #[.int .i64 b.fr, .int .i64 b.to, .int .i64 b.kp, .int .i64 b.ad, .int .i64 b.t0, .int .i64 b.t1, .int .i64 b.t2] 24)).alloc (.cells #[.int .i64 c.fr, .int .i64 c.to, .int .i64 c.kp, .int .i64 c.ad, .int .i64 c.t0, .int .i64 c.t1, .int .i64 c.t2] 24)).alloc (.cells #[.int .i64 t.d, .int .i64 t.e, .int .i64 t.x, .int .i64 t.y, .int .i64 t.z] 26) = w0 at *
  have la := Ha.out.lt
  have lb := Hb.out.lt
  have lc := Hc.out.lt
  have lt := Ht.out.lt
  obtain ⟨ca0, ca1, ca2, ca3, ca4, ca5, ca6⟩ := Ha.out.cells7
  obtain ⟨cb0, cb1, cb2, cb3, cb4, cb5, cb6⟩ := Hb.out.cells7
  go_wp2_with fail
  clear la lb lc lt ca0 ca1 ca2 ca3 ca4 ca5 ca6 cb0 cb1 cb2 cb3 cb4 cb5 cb6
  refine (C1.out _).mono ?_; rintro e v1 ⟨rfl, hbel⟩
  dsimp only
  have ha := Ha.out.below hbel; clear Ha
  have hb := Hb.out.below hbel; clear Hb
  have hc := Hc.out.below hbel; clear Hc
  have ht := Ht.out.below hbel; clear Ht
  have hbw := HBW.out.trans (hbel.mono HBW.out.size); clear HBW hbel
  have Ha := Lib.hid ha; clear ha
  have Hb := Lib.hid hb; clear hb
  have Hc := Lib.hid hc; clear hc
  have Ht := Lib.hid ht; clear ht
  have HBW := Lib.hid hbw; clear hbw
  have la := Ha.out.lt
  have lb := Hb.out.lt
  have lc := Hc.out.lt
  have lt := Ht.out.lt
  obtain ⟨ca0, ca1, ca2, ca3, ca4, ca5, ca6⟩ := Ha.out.cells7
  obtain ⟨ct0, ct1, ct2, ct3, ct4⟩ := Ht.out.c5
  go_wp2_with fail
  clear la lb lc lt ca0 ca1 ca2 ca3 ca4 ca5 ca6 ct0 ct1 ct2 ct3 ct4
  have ha := Ha.out.alloc (.cells #[.int .i64 X.fr, .int .i64 X.to, .int .i64 X.kp, .int .i64 X.ad, .int .i64 X.t0, .int .i64 X.t1, .int .i64 X.t2] 24); clear Ha
  have hb := Hb.out.alloc (.cells #[.int .i64 X.fr, .int .i64 X.to, .int .i64 X.kp, .int .i64 X.ad, .int .i64 X.t0, .int .i64 X.t1, .int .i64 X.t2] 24); clear Hb
  have hc := Hc.out.alloc (.cells #[.int .i64 X.fr, .int .i64 X.to, .int .i64 X.kp, .int .i64 X.ad, .int .i64 X.t0, .int .i64 X.t1, .int .i64 X.t2] 24); clear Hc
  have ht := Ht.out.alloc (.cells #[.int .i64 X.fr, .int .i64 X.to, .int .i64 X.kp, .int .i64 X.ad, .int .i64 X.t0, .int .i64 X.t1, .int .i64 X.t2] 24); clear Ht
  have hx : HoldsM (v1.alloc (.cells #[.int .i64 X.fr, .int .i64 X.to, .int .i64 X.kp, .int .i64 X.ad, .int .i64 X.t0, .int .i64 X.t1, .int .i64 X.t2] 24)) v1.heap.size 24 X := Row.made v1 _ _
  have hbw := HBW.out.alloc HBW.out.size (.cells #[.int .i64 X.fr, .int .i64 X.to, .int .i64 X.kp, .int .i64 X.ad, .int .i64 X.t0, .int .i64 X.t1, .int .i64 X.t2] 24); clear HBW
  generalize v1.alloc (.cells #[.int .i64 X.fr, .int .i64 X.to, .int .i64 X.kp, .int .i64 X.ad, .int .i64 X.t0, .int .i64 X.t1, .int .i64 X.t2] 24) = v2 at *
  generalize v1.heap.size = gx at *
  have Ha := Lib.hid ha; clear ha
  have Hb := Lib.hid hb; clear hb
  have Hc := Lib.hid hc; clear hc
  have Ht := Lib.hid ht; clear ht
  have Hx := Lib.hid hx; clear hx
  have HBW := Lib.hid hbw; clear hbw
  refine (C2.out _).mono ?_; rintro e v3 ⟨rfl, hbel⟩
  dsimp only
  have ha := Ha.out.below hbel; clear Ha
  have hb := Hb.out.below hbel; clear Hb
  have hc := Hc.out.below hbel; clear Hc
  have ht := Ht.out.below hbel; clear Ht
  have hx := Hx.out.below hbel; clear Hx
  have hbw := HBW.out.trans (hbel.mono HBW.out.size); clear HBW hbel
  have Ha := Lib.hid ha; clear ha
  have Hb := Lib.hid hb; clear hb
  have Hc := Lib.hid hc; clear hc
  have Ht := Lib.hid ht; clear ht
  have Hx := Lib.hid hx; clear hx
  have HBW := Lib.hid hbw; clear hbw
  have la := Ha.out.lt
  have lb := Hb.out.lt
  have lc := Hc.out.lt
  have lt := Ht.out.lt
  have lx := Hx.out.lt
  obtain ⟨cb0, cb1, cb2, cb3, cb4, cb5, cb6⟩ := Hb.out.cells7
  go_wp2_with fail
  clear la lb lc lt lx cb0 cb1 cb2 cb3 cb4 cb5 cb6
  have ha := Ha.out.alloc (.cells #[.int .i64 U.d, .int .i64 U.e, .int .i64 U.x, .int .i64 U.y, .int .i64 U.z] 26); clear Ha
  have hb := Hb.out.alloc (.cells #[.int .i64 U.d, .int .i64 U.e, .int .i64 U.x, .int .i64 U.y, .int .i64 U.z] 26); clear Hb
  have hc := Hc.out.alloc (.cells #[.int .i64 U.d, .int .i64 U.e, .int .i64 U.x, .int .i64 U.y, .int .i64 U.z] 26); clear Hc
  have ht := Ht.out.alloc (.cells #[.int .i64 U.d, .int .i64 U.e, .int .i64 U.x, .int .i64 U.y, .int .i64 U.z] 26); clear Ht
  have hx := Hx.out.alloc (.cells #[.int .i64 U.d, .int .i64 U.e, .int .i64 U.x, .int .i64 U.y, .int .i64 U.z] 26); clear Hx
  have hu : Holds (v3.alloc (.cells #[.int .i64 U.d, .int .i64 U.e, .int .i64 U.x, .int .i64 U.y, .int .i64 U.z] 26)) v3.heap.size U := Row.made v3 _ _
  have hbw := HBW.out.alloc HBW.out.size (.cells #[.int .i64 U.d, .int .i64 U.e, .int .i64 U.x, .int .i64 U.y, .int .i64 U.z] 26); clear HBW
  generalize v3.alloc (.cells #[.int .i64 U.d, .int .i64 U.e, .int .i64 U.x, .int .i64 U.y, .int .i64 U.z] 26) = v4 at *
  generalize v3.heap.size = gu at *
  have Ha := Lib.hid ha; clear ha
  have Hb := Lib.hid hb; clear hb
  have Hc := Lib.hid hc; clear hc
  have Ht := Lib.hid ht; clear ht
  have Hx := Lib.hid hx; clear hx
  have Hu := Lib.hid hu; clear hu
  have HBW := Lib.hid hbw; clear hbw
  refine (C3.out _).mono ?_; rintro e v5 ⟨rfl, hbel⟩
  dsimp only
  have ha := Ha.out.below hbel; clear Ha
  have hb := Hb.out.below hbel; clear Hb
  have hc := Hc.out.below hbel; clear Hc
  have ht := Ht.out.below hbel; clear Ht
  have hx := Hx.out.below hbel; clear Hx
  have hu := Hu.out.below hbel; clear Hu
  have hbw := HBW.out.trans (hbel.mono HBW.out.size); clear HBW hbel
  have Ha := Lib.hid ha; clear ha
  have Hb := Lib.hid hb; clear hb
  have Hc := Lib.hid hc; clear hc
  have Ht := Lib.hid ht; clear ht
  have Hx := Lib.hid hx; clear hx
  have Hu := Lib.hid hu; clear hu
  have HBW := Lib.hid hbw; clear hbw
  have la := Ha.out.lt
  have lb := Hb.out.lt
  have lc := Hc.out.lt
  have lt := Ht.out.lt
  have lx := Hx.out.lt
  have lu := Hu.out.lt
  obtain ⟨cb0, cb1, cb2, cb3, cb4, cb5, cb6⟩ := Hb.out.cells7
  obtain ⟨cc0, cc1, cc2, cc3, cc4, cc5, cc6⟩ := Hc.out.cells7
  go_wp2_with fail
  clear la lb lc lt lx lu cb0 cb1 cb2 cb3 cb4 cb5 cb6 cc0 cc1 cc2 cc3 cc4 cc5 cc6
  have ha := Ha.out.alloc (.cells #[.int .i64 V.d, .int .i64 V.e, .int .i64 V.x, .int .i64 V.y, .int .i64 V.z] 26); clear Ha
  have hb := Hb.out.alloc (.cells #[.int .i64 V.d, .int .i64 V.e, .int .i64 V.x, .int .i64 V.y, .int .i64 V.z] 26); clear Hb
  have hc := Hc.out.alloc (.cells #[.int .i64 V.d, .int .i64 V.e, .int .i64 V.x, .int .i64 V.y, .int .i64 V.z] 26); clear Hc
  have ht := Ht.out.alloc (.cells #[.int .i64 V.d, .int .i64 V.e, .int .i64 V.x, .int .i64 V.y, .int .i64 V.z] 26); clear Ht
  have hx := Hx.out.alloc (.cells #[.int .i64 V.d, .int .i64 V.e, .int .i64 V.x, .int .i64 V.y, .int .i64 V.z] 26); clear Hx
  have hu := Hu.out.alloc (.cells #[.int .i64 V.d, .int .i64 V.e, .int .i64 V.x, .int .i64 V.y, .int .i64 V.z] 26); clear Hu
  have hv : Holds (v5.alloc (.cells #[.int .i64 V.d, .int .i64 V.e, .int .i64 V.x, .int .i64 V.y, .int .i64 V.z] 26)) v5.heap.size V := Row.made v5 _ _
  have hbw := HBW.out.alloc HBW.out.size (.cells #[.int .i64 V.d, .int .i64 V.e, .int .i64 V.x, .int .i64 V.y, .int .i64 V.z] 26); clear HBW
  generalize v5.alloc (.cells #[.int .i64 V.d, .int .i64 V.e, .int .i64 V.x, .int .i64 V.y, .int .i64 V.z] 26) = v6 at *
  generalize v5.heap.size = gv at *
  have Ha := Lib.hid ha; clear ha
  have Hb := Lib.hid hb; clear hb
  have Hc := Lib.hid hc; clear hc
  have Ht := Lib.hid ht; clear ht
  have Hx := Lib.hid hx; clear hx
  have Hu := Lib.hid hu; clear hu
  have Hv := Lib.hid hv; clear hv
  have HBW := Lib.hid hbw; clear hbw
  refine (C5.out _).mono ?_; rintro e v7 ⟨rfl, hbel⟩
  dsimp only
  have ha := Ha.out.below hbel; clear Ha
  have hb := Hb.out.below hbel; clear Hb
  have hc := Hc.out.below hbel; clear Hc
  have ht := Ht.out.below hbel; clear Ht
  have hx := Hx.out.below hbel; clear Hx
  have hu := Hu.out.below hbel; clear Hu
  have hv := Hv.out.below hbel; clear Hv
  have hbw := HBW.out.trans (hbel.mono HBW.out.size); clear HBW hbel
  have Ha := Lib.hid ha; clear ha
  have Hb := Lib.hid hb; clear hb
  have Hc := Lib.hid hc; clear hc
  have Ht := Lib.hid ht; clear ht
  have Hx := Lib.hid hx; clear hx
  have Hu := Lib.hid hu; clear hu
  have Hv := Lib.hid hv; clear hv
  have HBW := Lib.hid hbw; clear hbw
  have la := Ha.out.lt
  have lb := Hb.out.lt
  have lc := Hc.out.lt
  have lt := Ht.out.lt
  have lx := Hx.out.lt
  have lu := Hu.out.lt
  have lv := Hv.out.lt
  obtain ⟨cc0, cc1, cc2, cc3, cc4, cc5, cc6⟩ := Hc.out.cells7
  obtain ⟨cx0, cx1, cx2, cx3, cx4, cx5, cx6⟩ := Hx.out.cells7
  go_wp2_with fail
  clear la lb lc lt lx lu lv cc0 cc1 cc2 cc3 cc4 cc5 cc6 cx0 cx1 cx2 cx3 cx4 cx5 cx6
  have ha := Ha.out.alloc (.cells #[.int .i64 Y.fr, .int .i64 Y.to, .int .i64 Y.kp, .int .i64 Y.ad, .int .i64 Y.t0, .int .i64 Y.t1, .int .i64 Y.t2] 24); clear Ha
  have hb := Hb.out.alloc (.cells #[.int .i64 Y.fr, .int .i64 Y.to, .int .i64 Y.kp, .int .i64 Y.ad, .int .i64 Y.t0, .int .i64 Y.t1, .int .i64 Y.t2] 24); clear Hb
  have hc := Hc.out.alloc (.cells #[.int .i64 Y.fr, .int .i64 Y.to, .int .i64 Y.kp, .int .i64 Y.ad, .int .i64 Y.t0, .int .i64 Y.t1, .int .i64 Y.t2] 24); clear Hc
  have ht := Ht.out.alloc (.cells #[.int .i64 Y.fr, .int .i64 Y.to, .int .i64 Y.kp, .int .i64 Y.ad, .int .i64 Y.t0, .int .i64 Y.t1, .int .i64 Y.t2] 24); clear Ht
  have hx := Hx.out.alloc (.cells #[.int .i64 Y.fr, .int .i64 Y.to, .int .i64 Y.kp, .int .i64 Y.ad, .int .i64 Y.t0, .int .i64 Y.t1, .int .i64 Y.t2] 24); clear Hx
  have hu := Hu.out.alloc (.cells #[.int .i64 Y.fr, .int .i64 Y.to, .int .i64 Y.kp, .int .i64 Y.ad, .int .i64 Y.t0, .int .i64 Y.t1, .int .i64 Y.t2] 24); clear Hu
  have hv := Hv.out.alloc (.cells #[.int .i64 Y.fr, .int .i64 Y.to, .int .i64 Y.kp, .int .i64 Y.ad, .int .i64 Y.t0, .int .i64 Y.t1, .int .i64 Y.t2] 24); clear Hv
  have hy : HoldsM (v7.alloc (.cells #[.int .i64 Y.fr, .int .i64 Y.to, .int .i64 Y.kp, .int .i64 Y.ad, .int .i64 Y.t0, .int .i64 Y.t1, .int .i64 Y.t2] 24)) v7.heap.size 24 Y := Row.made v7 _ _
  have hbw := HBW.out.alloc HBW.out.size (.cells #[.int .i64 Y.fr, .int .i64 Y.to, .int .i64 Y.kp, .int .i64 Y.ad, .int .i64 Y.t0, .int .i64 Y.t1, .int .i64 Y.t2] 24); clear HBW
  generalize v7.alloc (.cells #[.int .i64 Y.fr, .int .i64 Y.to, .int .i64 Y.kp, .int .i64 Y.ad, .int .i64 Y.t0, .int .i64 Y.t1, .int .i64 Y.t2] 24) = v8 at *
  generalize v7.heap.size = gy at *
  have Ha := Lib.hid ha; clear ha
  have Hb := Lib.hid hb; clear hb
  have Hc := Lib.hid hc; clear hc
  have Ht := Lib.hid ht; clear ht
  have Hx := Lib.hid hx; clear hx
  have Hu := Lib.hid hu; clear hu
  have Hv := Lib.hid hv; clear hv
  have Hy := Lib.hid hy; clear hy
  have HBW := Lib.hid hbw; clear hbw
  refine (C6.out _).mono ?_; rintro e v9 ⟨rfl, hbel⟩
  dsimp only
  have ha := Ha.out.below hbel; clear Ha
  have hb := Hb.out.below hbel; clear Hb
  have hc := Hc.out.below hbel; clear Hc
  have ht := Ht.out.below hbel; clear Ht
  have hx := Hx.out.below hbel; clear Hx
  have hu := Hu.out.below hbel; clear Hu
  have hv := Hv.out.below hbel; clear Hv
  have hy := Hy.out.below hbel; clear Hy
  have hbw := HBW.out.trans (hbel.mono HBW.out.size); clear HBW hbel
  have Ha := Lib.hid ha; clear ha
  have Hb := Lib.hid hb; clear hb
  have Hc := Lib.hid hc; clear hc
  have Ht := Lib.hid ht; clear ht
  have Hx := Lib.hid hx; clear hx
  have Hu := Lib.hid hu; clear hu
  have Hv := Lib.hid hv; clear hv
  have Hy := Lib.hid hy; clear hy
  have HBW := Lib.hid hbw; clear hbw
  have la := Ha.out.lt
  have lb := Hb.out.lt
  have lc := Hc.out.lt
  have lt := Ht.out.lt
  have lx := Hx.out.lt
  have lu := Hu.out.lt
  have lv := Hv.out.lt
  have ly := Hy.out.lt
  obtain ⟨ca0, ca1, ca2, ca3, ca4, ca5, ca6⟩ := Ha.out.cells7
  obtain ⟨cy0, cy1, cy2, cy3, cy4, cy5, cy6⟩ := Hy.out.cells7
  go_wp2_with fail
  clear la lb lc lt lx lu lv ly ca0 ca1 ca2 ca3 ca4 ca5 ca6 cy0 cy1 cy2 cy3 cy4 cy5 cy6
  have ha := Ha.out.alloc (.cells #[.int .i64 P.fr, .int .i64 P.to, .int .i64 P.kp, .int .i64 P.ad, .int .i64 P.t0, .int .i64 P.t1, .int .i64 P.t2] 24); clear Ha
  have hb := Hb.out.alloc (.cells #[.int .i64 P.fr, .int .i64 P.to, .int .i64 P.kp, .int .i64 P.ad, .int .i64 P.t0, .int .i64 P.t1, .int .i64 P.t2] 24); clear Hb
  have hc := Hc.out.alloc (.cells #[.int .i64 P.fr, .int .i64 P.to, .int .i64 P.kp, .int .i64 P.ad, .int .i64 P.t0, .int .i64 P.t1, .int .i64 P.t2] 24); clear Hc
  have ht := Ht.out.alloc (.cells #[.int .i64 P.fr, .int .i64 P.to, .int .i64 P.kp, .int .i64 P.ad, .int .i64 P.t0, .int .i64 P.t1, .int .i64 P.t2] 24); clear Ht
  have hx := Hx.out.alloc (.cells #[.int .i64 P.fr, .int .i64 P.to, .int .i64 P.kp, .int .i64 P.ad, .int .i64 P.t0, .int .i64 P.t1, .int .i64 P.t2] 24); clear Hx
  have hu := Hu.out.alloc (.cells #[.int .i64 P.fr, .int .i64 P.to, .int .i64 P.kp, .int .i64 P.ad, .int .i64 P.t0, .int .i64 P.t1, .int .i64 P.t2] 24); clear Hu
  have hv := Hv.out.alloc (.cells #[.int .i64 P.fr, .int .i64 P.to, .int .i64 P.kp, .int .i64 P.ad, .int .i64 P.t0, .int .i64 P.t1, .int .i64 P.t2] 24); clear Hv
  have hy := Hy.out.alloc (.cells #[.int .i64 P.fr, .int .i64 P.to, .int .i64 P.kp, .int .i64 P.ad, .int .i64 P.t0, .int .i64 P.t1, .int .i64 P.t2] 24); clear Hy
  have hp : HoldsM (v9.alloc (.cells #[.int .i64 P.fr, .int .i64 P.to, .int .i64 P.kp, .int .i64 P.ad, .int .i64 P.t0, .int .i64 P.t1, .int .i64 P.t2] 24)) v9.heap.size 24 P := Row.made v9 _ _
  have hbw := HBW.out.alloc HBW.out.size (.cells #[.int .i64 P.fr, .int .i64 P.to, .int .i64 P.kp, .int .i64 P.ad, .int .i64 P.t0, .int .i64 P.t1, .int .i64 P.t2] 24); clear HBW
  generalize v9.alloc (.cells #[.int .i64 P.fr, .int .i64 P.to, .int .i64 P.kp, .int .i64 P.ad, .int .i64 P.t0, .int .i64 P.t1, .int .i64 P.t2] 24) = v10 at *
  generalize v9.heap.size = gp at *
  have Ha := Lib.hid ha; clear ha
  have Hb := Lib.hid hb; clear hb
  have Hc := Lib.hid hc; clear hc
  have Ht := Lib.hid ht; clear ht
  have Hx := Lib.hid hx; clear hx
  have Hu := Lib.hid hu; clear hu
  have Hv := Lib.hid hv; clear hv
  have Hy := Lib.hid hy; clear hy
  have Hp := Lib.hid hp; clear hp
  have HBW := Lib.hid hbw; clear hbw
  refine (C7.out _).mono ?_; rintro e v11 ⟨rfl, hbel⟩
  dsimp only
  have ha := Ha.out.below hbel; clear Ha
  have hb := Hb.out.below hbel; clear Hb
  have hc := Hc.out.below hbel; clear Hc
  have ht := Ht.out.below hbel; clear Ht
  have hx := Hx.out.below hbel; clear Hx
  have hu := Hu.out.below hbel; clear Hu
  have hv := Hv.out.below hbel; clear Hv
  have hy := Hy.out.below hbel; clear Hy
  have hp := Hp.out.below hbel; clear Hp
  have hbw := HBW.out.trans (hbel.mono HBW.out.size); clear HBW hbel
  have Ha := Lib.hid ha; clear ha
  have Hb := Lib.hid hb; clear hb
  have Hc := Lib.hid hc; clear hc
  have Ht := Lib.hid ht; clear ht
  have Hx := Lib.hid hx; clear hx
  have Hu := Lib.hid hu; clear hu
  have Hv := Lib.hid hv; clear hv
  have Hy := Lib.hid hy; clear hy
  have Hp := Lib.hid hp; clear hp
  have HBW := Lib.hid hbw; clear hbw
  have he : ∀ w, (Op.equalIn 10000 24 (.agg #[.int .i64 P.fr, .int .i64 P.to, .int .i64 P.kp, .int .i64 P.ad, .int .i64 P.t0, .int .i64 P.t1, .int .i64 P.t2]) (.agg #[.int .i64 P.fr, .int .i64 P.to, .int .i64 P.kp, .int .i64 P.ad, .int .i64 P.t0, .int .i64 P.t1, .int .i64 P.t2])).run Try.prog w = .ok true w := fun w => by
    have hq := run_eq7 P P w
    rw [decide_eq_true rfl] at hq
    exact hq
  have la := Ha.out.lt
  have lb := Hb.out.lt
  have lc := Hc.out.lt
  have lt := Ht.out.lt
  have lx := Hx.out.lt
  have lu := Hu.out.lt
  have lv := Hv.out.lt
  have ly := Hy.out.lt
  have lp := Hp.out.lt
  obtain ⟨cp0, cp1, cp2, cp3, cp4, cp5, cp6⟩ := Hp.out.cells7
  go_wp2_with fail
  clear la lb lc lt lx lu lv ly lp cp0 cp1 cp2 cp3 cp4 cp5 cp6
  have ha := Ha.out.alloc (.cells #[.int .i64 P.fr, .int .i64 P.to, .int .i64 P.kp, .int .i64 P.ad, .int .i64 P.t0, .int .i64 P.t1, .int .i64 P.t2] 24); clear Ha
  have hb := Hb.out.alloc (.cells #[.int .i64 P.fr, .int .i64 P.to, .int .i64 P.kp, .int .i64 P.ad, .int .i64 P.t0, .int .i64 P.t1, .int .i64 P.t2] 24); clear Hb
  have hc := Hc.out.alloc (.cells #[.int .i64 P.fr, .int .i64 P.to, .int .i64 P.kp, .int .i64 P.ad, .int .i64 P.t0, .int .i64 P.t1, .int .i64 P.t2] 24); clear Hc
  have ht := Ht.out.alloc (.cells #[.int .i64 P.fr, .int .i64 P.to, .int .i64 P.kp, .int .i64 P.ad, .int .i64 P.t0, .int .i64 P.t1, .int .i64 P.t2] 24); clear Ht
  have hx := Hx.out.alloc (.cells #[.int .i64 P.fr, .int .i64 P.to, .int .i64 P.kp, .int .i64 P.ad, .int .i64 P.t0, .int .i64 P.t1, .int .i64 P.t2] 24); clear Hx
  have hu := Hu.out.alloc (.cells #[.int .i64 P.fr, .int .i64 P.to, .int .i64 P.kp, .int .i64 P.ad, .int .i64 P.t0, .int .i64 P.t1, .int .i64 P.t2] 24); clear Hu
  have hv := Hv.out.alloc (.cells #[.int .i64 P.fr, .int .i64 P.to, .int .i64 P.kp, .int .i64 P.ad, .int .i64 P.t0, .int .i64 P.t1, .int .i64 P.t2] 24); clear Hv
  have hy := Hy.out.alloc (.cells #[.int .i64 P.fr, .int .i64 P.to, .int .i64 P.kp, .int .i64 P.ad, .int .i64 P.t0, .int .i64 P.t1, .int .i64 P.t2] 24); clear Hy
  have hp := Hp.out.alloc (.cells #[.int .i64 P.fr, .int .i64 P.to, .int .i64 P.kp, .int .i64 P.ad, .int .i64 P.t0, .int .i64 P.t1, .int .i64 P.t2] 24); clear Hp
  have hq : HoldsM (v11.alloc (.cells #[.int .i64 P.fr, .int .i64 P.to, .int .i64 P.kp, .int .i64 P.ad, .int .i64 P.t0, .int .i64 P.t1, .int .i64 P.t2] 24)) v11.heap.size 24 P := Row.made v11 _ _
  have hbw := HBW.out.alloc HBW.out.size (.cells #[.int .i64 P.fr, .int .i64 P.to, .int .i64 P.kp, .int .i64 P.ad, .int .i64 P.t0, .int .i64 P.t1, .int .i64 P.t2] 24); clear HBW
  generalize v11.alloc (.cells #[.int .i64 P.fr, .int .i64 P.to, .int .i64 P.kp, .int .i64 P.ad, .int .i64 P.t0, .int .i64 P.t1, .int .i64 P.t2] 24) = v12 at *
  generalize v11.heap.size = gq at *
  have Ha := Lib.hid ha; clear ha
  have Hb := Lib.hid hb; clear hb
  have Hc := Lib.hid hc; clear hc
  have Ht := Lib.hid ht; clear ht
  have Hx := Lib.hid hx; clear hx
  have Hu := Lib.hid hu; clear hu
  have Hv := Lib.hid hv; clear hv
  have Hy := Lib.hid hy; clear hy
  have Hp := Lib.hid hp; clear hp
  have Hq := Lib.hid hq; clear hq
  have HBW := Lib.hid hbw; clear hbw
  refine (CW.out _).mono ?_; rintro e v13 ⟨rfl, hbel⟩
  dsimp only
  have ha := Ha.out.below hbel; clear Ha
  have hb := Hb.out.below hbel; clear Hb
  have hc := Hc.out.below hbel; clear Hc
  have ht := Ht.out.below hbel; clear Ht
  have hx := Hx.out.below hbel; clear Hx
  have hu := Hu.out.below hbel; clear Hu
  have hv := Hv.out.below hbel; clear Hv
  have hy := Hy.out.below hbel; clear Hy
  have hp := Hp.out.below hbel; clear Hp
  have hq := Hq.out.below hbel; clear Hq
  have hbw := HBW.out.trans (hbel.mono HBW.out.size); clear HBW hbel
  have Ha := Lib.hid ha; clear ha
  have Hb := Lib.hid hb; clear hb
  have Hc := Lib.hid hc; clear hc
  have Ht := Lib.hid ht; clear ht
  have Hx := Lib.hid hx; clear hx
  have Hu := Lib.hid hu; clear hu
  have Hv := Lib.hid hv; clear hv
  have Hy := Lib.hid hy; clear hy
  have Hp := Lib.hid hp; clear hp
  have Hq := Lib.hid hq; clear hq
  have HBW := Lib.hid hbw; clear hbw
  have la := Ha.out.lt
  have lb := Hb.out.lt
  have lc := Hc.out.lt
  have lt := Ht.out.lt
  have lx := Hx.out.lt
  have lu := Hu.out.lt
  have lv := Hv.out.lt
  have ly := Hy.out.lt
  have lp := Hp.out.lt
  have lq := Hq.out.lt
  go_wp2_with fail
  clear la lb lc lt lx lu lv ly lp lq
  go_ret
  exact ⟨rfl, HBW.out⟩
set_option maxHeartbeats 4000000 in
theorem w_yy_f (a b c X Y P : Sm) (t U V : St) (B3 B6 : Bool) (w : World)
    (c1 : ∀ w, Calls Try.prog 19 #[.agg #[.int .i64 a.fr, .int .i64 a.to, .int .i64 a.kp, .int .i64 a.ad, .int .i64 a.t0, .int .i64 a.t1, .int .i64 a.t2], .agg #[.int .i64 b.fr, .int .i64 b.to, .int .i64 b.kp, .int .i64 b.ad, .int .i64 b.t0, .int .i64 b.t1, .int .i64 b.t2]] w fun e w' => e = .returned (.tuple #[.agg #[.int .i64 X.fr, .int .i64 X.to, .int .i64 X.kp, .int .i64 X.ad, .int .i64 X.t0, .int .i64 X.t1, .int .i64 X.t2], .bool true]) ∧ Below w.heap.size w w')
    (c2 : ∀ w, Calls Try.prog 11 #[.agg #[.int .i64 a.fr, .int .i64 a.to, .int .i64 a.kp, .int .i64 a.ad, .int .i64 a.t0, .int .i64 a.t1, .int .i64 a.t2], .agg #[.int .i64 t.d, .int .i64 t.e, .int .i64 t.x, .int .i64 t.y, .int .i64 t.z]] w fun e w' => e = .returned (.tuple #[.agg #[.int .i64 U.d, .int .i64 U.e, .int .i64 U.x, .int .i64 U.y, .int .i64 U.z], .bool true]) ∧ Below w.heap.size w w')
    (c3 : ∀ w, Calls Try.prog 11 #[.agg #[.int .i64 b.fr, .int .i64 b.to, .int .i64 b.kp, .int .i64 b.ad, .int .i64 b.t0, .int .i64 b.t1, .int .i64 b.t2], .agg #[.int .i64 U.d, .int .i64 U.e, .int .i64 U.x, .int .i64 U.y, .int .i64 U.z]] w fun e w' => e = .returned (.tuple #[.agg #[.int .i64 V.d, .int .i64 V.e, .int .i64 V.x, .int .i64 V.y, .int .i64 V.z], .bool B3]) ∧ Below w.heap.size w w')
    (cr : ∀ w, Calls Try.prog 16 #[.agg #[.int .i64 b.fr, .int .i64 b.to, .int .i64 b.kp, .int .i64 b.ad, .int .i64 b.t0, .int .i64 b.t1, .int .i64 b.t2]] w fun e w' => e = .returned (.bool true) ∧ Below w.heap.size w w')
    (c4 : ∀ w, Calls Try.prog 11 #[.agg #[.int .i64 X.fr, .int .i64 X.to, .int .i64 X.kp, .int .i64 X.ad, .int .i64 X.t0, .int .i64 X.t1, .int .i64 X.t2], .agg #[.int .i64 t.d, .int .i64 t.e, .int .i64 t.x, .int .i64 t.y, .int .i64 t.z]] w fun e w' => e = .returned (.tuple #[.agg #[.int .i64 V.d, .int .i64 V.e, .int .i64 V.x, .int .i64 V.y, .int .i64 V.z], .bool B3]) ∧ Below w.heap.size w w')
    (c5 : ∀ w, Calls Try.prog 19 #[.agg #[.int .i64 b.fr, .int .i64 b.to, .int .i64 b.kp, .int .i64 b.ad, .int .i64 b.t0, .int .i64 b.t1, .int .i64 b.t2], .agg #[.int .i64 c.fr, .int .i64 c.to, .int .i64 c.kp, .int .i64 c.ad, .int .i64 c.t0, .int .i64 c.t1, .int .i64 c.t2]] w fun e w' => e = .returned (.tuple #[.agg #[.int .i64 Y.fr, .int .i64 Y.to, .int .i64 Y.kp, .int .i64 Y.ad, .int .i64 Y.t0, .int .i64 Y.t1, .int .i64 Y.t2], .bool false]) ∧ Below w.heap.size w w')
    : Calls Try.prog 6 #[.agg #[.int .i64 a.fr, .int .i64 a.to, .int .i64 a.kp, .int .i64 a.ad, .int .i64 a.t0, .int .i64 a.t1, .int .i64 a.t2], .agg #[.int .i64 b.fr, .int .i64 b.to, .int .i64 b.kp, .int .i64 b.ad, .int .i64 b.t0, .int .i64 b.t1, .int .i64 b.t2], .agg #[.int .i64 c.fr, .int .i64 c.to, .int .i64 c.kp, .int .i64 c.ad, .int .i64 c.t0, .int .i64 c.t1, .int .i64 c.t2], .agg #[.int .i64 t.d, .int .i64 t.e, .int .i64 t.x, .int .i64 t.y, .int .i64 t.z]] w fun e w' => e = .returned (.bool true) ∧ Below w.heap.size w w' := by
  have cw := fun w => works_any w
  have C1 := Lib.hid c1; have C2 := Lib.hid c2; have C3 := Lib.hid c3; have C5 := Lib.hid c5; have CW := Lib.hid cw; have CR := Lib.hid cr; have C4 := Lib.hid c4; clear c1 c2 c3 c5 cw cr c4
  cases B3
  case false =>
    have ha : HoldsM ((((w.alloc (.cells #[.int .i64 a.fr, .int .i64 a.to, .int .i64 a.kp, .int .i64 a.ad, .int .i64 a.t0, .int .i64 a.t1, .int .i64 a.t2] 24)).alloc (.cells #[.int .i64 b.fr, .int .i64 b.to, .int .i64 b.kp, .int .i64 b.ad, .int .i64 b.t0, .int .i64 b.t1, .int .i64 b.t2] 24)).alloc (.cells #[.int .i64 c.fr, .int .i64 c.to, .int .i64 c.kp, .int .i64 c.ad, .int .i64 c.t0, .int .i64 c.t1, .int .i64 c.t2] 24)).alloc (.cells #[.int .i64 t.d, .int .i64 t.e, .int .i64 t.x, .int .i64 t.y, .int .i64 t.z] 26)) w.heap.size 24 a := by
      have hq := Row.alloc (Row.alloc (Row.alloc (Row.made w 24 [.int .i64 a.fr, .int .i64 a.to, .int .i64 a.kp, .int .i64 a.ad, .int .i64 a.t0, .int .i64 a.t1, .int .i64 a.t2]) (.cells #[.int .i64 b.fr, .int .i64 b.to, .int .i64 b.kp, .int .i64 b.ad, .int .i64 b.t0, .int .i64 b.t1, .int .i64 b.t2] 24)) (.cells #[.int .i64 c.fr, .int .i64 c.to, .int .i64 c.kp, .int .i64 c.ad, .int .i64 c.t0, .int .i64 c.t1, .int .i64 c.t2] 24)) (.cells #[.int .i64 t.d, .int .i64 t.e, .int .i64 t.x, .int .i64 t.y, .int .i64 t.z] 26)
      exact hq
    have hb : HoldsM ((((w.alloc (.cells #[.int .i64 a.fr, .int .i64 a.to, .int .i64 a.kp, .int .i64 a.ad, .int .i64 a.t0, .int .i64 a.t1, .int .i64 a.t2] 24)).alloc (.cells #[.int .i64 b.fr, .int .i64 b.to, .int .i64 b.kp, .int .i64 b.ad, .int .i64 b.t0, .int .i64 b.t1, .int .i64 b.t2] 24)).alloc (.cells #[.int .i64 c.fr, .int .i64 c.to, .int .i64 c.kp, .int .i64 c.ad, .int .i64 c.t0, .int .i64 c.t1, .int .i64 c.t2] 24)).alloc (.cells #[.int .i64 t.d, .int .i64 t.e, .int .i64 t.x, .int .i64 t.y, .int .i64 t.z] 26)) (w.heap.size + 1) 24 b := by
      have hq := Row.alloc (Row.alloc (Row.made (w.alloc (.cells #[.int .i64 a.fr, .int .i64 a.to, .int .i64 a.kp, .int .i64 a.ad, .int .i64 a.t0, .int .i64 a.t1, .int .i64 a.t2] 24)) 24 [.int .i64 b.fr, .int .i64 b.to, .int .i64 b.kp, .int .i64 b.ad, .int .i64 b.t0, .int .i64 b.t1, .int .i64 b.t2]) (.cells #[.int .i64 c.fr, .int .i64 c.to, .int .i64 c.kp, .int .i64 c.ad, .int .i64 c.t0, .int .i64 c.t1, .int .i64 c.t2] 24)) (.cells #[.int .i64 t.d, .int .i64 t.e, .int .i64 t.x, .int .i64 t.y, .int .i64 t.z] 26)
      rw [size_alloc] at hq
      exact hq
    have hc : HoldsM ((((w.alloc (.cells #[.int .i64 a.fr, .int .i64 a.to, .int .i64 a.kp, .int .i64 a.ad, .int .i64 a.t0, .int .i64 a.t1, .int .i64 a.t2] 24)).alloc (.cells #[.int .i64 b.fr, .int .i64 b.to, .int .i64 b.kp, .int .i64 b.ad, .int .i64 b.t0, .int .i64 b.t1, .int .i64 b.t2] 24)).alloc (.cells #[.int .i64 c.fr, .int .i64 c.to, .int .i64 c.kp, .int .i64 c.ad, .int .i64 c.t0, .int .i64 c.t1, .int .i64 c.t2] 24)).alloc (.cells #[.int .i64 t.d, .int .i64 t.e, .int .i64 t.x, .int .i64 t.y, .int .i64 t.z] 26)) (w.heap.size + 1 + 1) 24 c := by
      have hq := Row.alloc (Row.made ((w.alloc (.cells #[.int .i64 a.fr, .int .i64 a.to, .int .i64 a.kp, .int .i64 a.ad, .int .i64 a.t0, .int .i64 a.t1, .int .i64 a.t2] 24)).alloc (.cells #[.int .i64 b.fr, .int .i64 b.to, .int .i64 b.kp, .int .i64 b.ad, .int .i64 b.t0, .int .i64 b.t1, .int .i64 b.t2] 24)) 24 [.int .i64 c.fr, .int .i64 c.to, .int .i64 c.kp, .int .i64 c.ad, .int .i64 c.t0, .int .i64 c.t1, .int .i64 c.t2]) (.cells #[.int .i64 t.d, .int .i64 t.e, .int .i64 t.x, .int .i64 t.y, .int .i64 t.z] 26)
      rw [size_alloc, size_alloc] at hq
      exact hq
    have ht : Holds ((((w.alloc (.cells #[.int .i64 a.fr, .int .i64 a.to, .int .i64 a.kp, .int .i64 a.ad, .int .i64 a.t0, .int .i64 a.t1, .int .i64 a.t2] 24)).alloc (.cells #[.int .i64 b.fr, .int .i64 b.to, .int .i64 b.kp, .int .i64 b.ad, .int .i64 b.t0, .int .i64 b.t1, .int .i64 b.t2] 24)).alloc (.cells #[.int .i64 c.fr, .int .i64 c.to, .int .i64 c.kp, .int .i64 c.ad, .int .i64 c.t0, .int .i64 c.t1, .int .i64 c.t2] 24)).alloc (.cells #[.int .i64 t.d, .int .i64 t.e, .int .i64 t.x, .int .i64 t.y, .int .i64 t.z] 26)) (w.heap.size + 1 + 1 + 1) t := by
      have hq := Row.made (((w.alloc (.cells #[.int .i64 a.fr, .int .i64 a.to, .int .i64 a.kp, .int .i64 a.ad, .int .i64 a.t0, .int .i64 a.t1, .int .i64 a.t2] 24)).alloc (.cells #[.int .i64 b.fr, .int .i64 b.to, .int .i64 b.kp, .int .i64 b.ad, .int .i64 b.t0, .int .i64 b.t1, .int .i64 b.t2] 24)).alloc (.cells #[.int .i64 c.fr, .int .i64 c.to, .int .i64 c.kp, .int .i64 c.ad, .int .i64 c.t0, .int .i64 c.t1, .int .i64 c.t2] 24)) 26 [.int .i64 t.d, .int .i64 t.e, .int .i64 t.x, .int .i64 t.y, .int .i64 t.z]
      rw [size_alloc, size_alloc, size_alloc] at hq
      exact hq
    have hbw : Below w.heap.size w ((((w.alloc (.cells #[.int .i64 a.fr, .int .i64 a.to, .int .i64 a.kp, .int .i64 a.ad, .int .i64 a.t0, .int .i64 a.t1, .int .i64 a.t2] 24)).alloc (.cells #[.int .i64 b.fr, .int .i64 b.to, .int .i64 b.kp, .int .i64 b.ad, .int .i64 b.t0, .int .i64 b.t1, .int .i64 b.t2] 24)).alloc (.cells #[.int .i64 c.fr, .int .i64 c.to, .int .i64 c.kp, .int .i64 c.ad, .int .i64 c.t0, .int .i64 c.t1, .int .i64 c.t2] 24)).alloc (.cells #[.int .i64 t.d, .int .i64 t.e, .int .i64 t.x, .int .i64 t.y, .int .i64 t.z] 26)) := ((((Below.refl _ _).alloc (by simp) _).alloc (by simp) _).alloc (by simp; omega) _).alloc (by simp; omega) _
    have Ha := Lib.hid ha; clear ha
    have Hb := Lib.hid hb; clear hb
    have Hc := Lib.hid hc; clear hc
    have Ht := Lib.hid ht; clear ht
    have HBW := Lib.hid hbw; clear hbw
    go_enter Try.func6, Try.ntmps6
    go_wp2_with fail
    generalize (((w.alloc (.cells #[.int .i64 a.fr, .int .i64 a.to, .int .i64 a.kp, .int .i64 a.ad, .int .i64 a.t0, .int .i64 a.t1, .int .i64 a.t2] 24)).alloc (.cells #[.int .i64 b.fr, .int .i64 b.to, .int .i64 b.kp, .int .i64 b.ad, .int .i64 b.t0, .int .i64 b.t1, .int .i64 b.t2] 24)).alloc (.cells #[.int .i64 c.fr, .int .i64 c.to, .int .i64 c.kp, .int .i64 c.ad, .int .i64 c.t0, .int .i64 c.t1, .int .i64 c.t2] 24)).alloc (.cells #[.int .i64 t.d, .int .i64 t.e, .int .i64 t.x, .int .i64 t.y, .int .i64 t.z] 26) = w0 at *
    have la := Ha.out.lt
    have lb := Hb.out.lt
    have lc := Hc.out.lt
    have lt := Ht.out.lt
    obtain ⟨ca0, ca1, ca2, ca3, ca4, ca5, ca6⟩ := Ha.out.cells7
    obtain ⟨cb0, cb1, cb2, cb3, cb4, cb5, cb6⟩ := Hb.out.cells7
    go_wp2_with fail
    clear la lb lc lt ca0 ca1 ca2 ca3 ca4 ca5 ca6 cb0 cb1 cb2 cb3 cb4 cb5 cb6
    refine (C1.out _).mono ?_; rintro e v1 ⟨rfl, hbel⟩
    dsimp only
    have ha := Ha.out.below hbel; clear Ha
    have hb := Hb.out.below hbel; clear Hb
    have hc := Hc.out.below hbel; clear Hc
    have ht := Ht.out.below hbel; clear Ht
    have hbw := HBW.out.trans (hbel.mono HBW.out.size); clear HBW hbel
    have Ha := Lib.hid ha; clear ha
    have Hb := Lib.hid hb; clear hb
    have Hc := Lib.hid hc; clear hc
    have Ht := Lib.hid ht; clear ht
    have HBW := Lib.hid hbw; clear hbw
    have la := Ha.out.lt
    have lb := Hb.out.lt
    have lc := Hc.out.lt
    have lt := Ht.out.lt
    obtain ⟨ca0, ca1, ca2, ca3, ca4, ca5, ca6⟩ := Ha.out.cells7
    obtain ⟨ct0, ct1, ct2, ct3, ct4⟩ := Ht.out.c5
    go_wp2_with fail
    clear la lb lc lt ca0 ca1 ca2 ca3 ca4 ca5 ca6 ct0 ct1 ct2 ct3 ct4
    have ha := Ha.out.alloc (.cells #[.int .i64 X.fr, .int .i64 X.to, .int .i64 X.kp, .int .i64 X.ad, .int .i64 X.t0, .int .i64 X.t1, .int .i64 X.t2] 24); clear Ha
    have hb := Hb.out.alloc (.cells #[.int .i64 X.fr, .int .i64 X.to, .int .i64 X.kp, .int .i64 X.ad, .int .i64 X.t0, .int .i64 X.t1, .int .i64 X.t2] 24); clear Hb
    have hc := Hc.out.alloc (.cells #[.int .i64 X.fr, .int .i64 X.to, .int .i64 X.kp, .int .i64 X.ad, .int .i64 X.t0, .int .i64 X.t1, .int .i64 X.t2] 24); clear Hc
    have ht := Ht.out.alloc (.cells #[.int .i64 X.fr, .int .i64 X.to, .int .i64 X.kp, .int .i64 X.ad, .int .i64 X.t0, .int .i64 X.t1, .int .i64 X.t2] 24); clear Ht
    have hx : HoldsM (v1.alloc (.cells #[.int .i64 X.fr, .int .i64 X.to, .int .i64 X.kp, .int .i64 X.ad, .int .i64 X.t0, .int .i64 X.t1, .int .i64 X.t2] 24)) v1.heap.size 24 X := Row.made v1 _ _
    have hbw := HBW.out.alloc HBW.out.size (.cells #[.int .i64 X.fr, .int .i64 X.to, .int .i64 X.kp, .int .i64 X.ad, .int .i64 X.t0, .int .i64 X.t1, .int .i64 X.t2] 24); clear HBW
    generalize v1.alloc (.cells #[.int .i64 X.fr, .int .i64 X.to, .int .i64 X.kp, .int .i64 X.ad, .int .i64 X.t0, .int .i64 X.t1, .int .i64 X.t2] 24) = v2 at *
    generalize v1.heap.size = gx at *
    have Ha := Lib.hid ha; clear ha
    have Hb := Lib.hid hb; clear hb
    have Hc := Lib.hid hc; clear hc
    have Ht := Lib.hid ht; clear ht
    have Hx := Lib.hid hx; clear hx
    have HBW := Lib.hid hbw; clear hbw
    refine (C2.out _).mono ?_; rintro e v3 ⟨rfl, hbel⟩
    dsimp only
    have ha := Ha.out.below hbel; clear Ha
    have hb := Hb.out.below hbel; clear Hb
    have hc := Hc.out.below hbel; clear Hc
    have ht := Ht.out.below hbel; clear Ht
    have hx := Hx.out.below hbel; clear Hx
    have hbw := HBW.out.trans (hbel.mono HBW.out.size); clear HBW hbel
    have Ha := Lib.hid ha; clear ha
    have Hb := Lib.hid hb; clear hb
    have Hc := Lib.hid hc; clear hc
    have Ht := Lib.hid ht; clear ht
    have Hx := Lib.hid hx; clear hx
    have HBW := Lib.hid hbw; clear hbw
    have la := Ha.out.lt
    have lb := Hb.out.lt
    have lc := Hc.out.lt
    have lt := Ht.out.lt
    have lx := Hx.out.lt
    obtain ⟨cb0, cb1, cb2, cb3, cb4, cb5, cb6⟩ := Hb.out.cells7
    go_wp2_with fail
    clear la lb lc lt lx cb0 cb1 cb2 cb3 cb4 cb5 cb6
    have ha := Ha.out.alloc (.cells #[.int .i64 U.d, .int .i64 U.e, .int .i64 U.x, .int .i64 U.y, .int .i64 U.z] 26); clear Ha
    have hb := Hb.out.alloc (.cells #[.int .i64 U.d, .int .i64 U.e, .int .i64 U.x, .int .i64 U.y, .int .i64 U.z] 26); clear Hb
    have hc := Hc.out.alloc (.cells #[.int .i64 U.d, .int .i64 U.e, .int .i64 U.x, .int .i64 U.y, .int .i64 U.z] 26); clear Hc
    have ht := Ht.out.alloc (.cells #[.int .i64 U.d, .int .i64 U.e, .int .i64 U.x, .int .i64 U.y, .int .i64 U.z] 26); clear Ht
    have hx := Hx.out.alloc (.cells #[.int .i64 U.d, .int .i64 U.e, .int .i64 U.x, .int .i64 U.y, .int .i64 U.z] 26); clear Hx
    have hu : Holds (v3.alloc (.cells #[.int .i64 U.d, .int .i64 U.e, .int .i64 U.x, .int .i64 U.y, .int .i64 U.z] 26)) v3.heap.size U := Row.made v3 _ _
    have hbw := HBW.out.alloc HBW.out.size (.cells #[.int .i64 U.d, .int .i64 U.e, .int .i64 U.x, .int .i64 U.y, .int .i64 U.z] 26); clear HBW
    generalize v3.alloc (.cells #[.int .i64 U.d, .int .i64 U.e, .int .i64 U.x, .int .i64 U.y, .int .i64 U.z] 26) = v4 at *
    generalize v3.heap.size = gu at *
    have Ha := Lib.hid ha; clear ha
    have Hb := Lib.hid hb; clear hb
    have Hc := Lib.hid hc; clear hc
    have Ht := Lib.hid ht; clear ht
    have Hx := Lib.hid hx; clear hx
    have Hu := Lib.hid hu; clear hu
    have HBW := Lib.hid hbw; clear hbw
    refine (C3.out _).mono ?_; rintro e v5 ⟨rfl, hbel⟩
    dsimp only
    have ha := Ha.out.below hbel; clear Ha
    have hb := Hb.out.below hbel; clear Hb
    have hc := Hc.out.below hbel; clear Hc
    have ht := Ht.out.below hbel; clear Ht
    have hx := Hx.out.below hbel; clear Hx
    have hu := Hu.out.below hbel; clear Hu
    have hbw := HBW.out.trans (hbel.mono HBW.out.size); clear HBW hbel
    have Ha := Lib.hid ha; clear ha
    have Hb := Lib.hid hb; clear hb
    have Hc := Lib.hid hc; clear hc
    have Ht := Lib.hid ht; clear ht
    have Hx := Lib.hid hx; clear hx
    have Hu := Lib.hid hu; clear hu
    have HBW := Lib.hid hbw; clear hbw
    have la := Ha.out.lt
    have lb := Hb.out.lt
    have lc := Hc.out.lt
    have lt := Ht.out.lt
    have lx := Hx.out.lt
    have lu := Hu.out.lt
    obtain ⟨cb0, cb1, cb2, cb3, cb4, cb5, cb6⟩ := Hb.out.cells7
    go_wp2_with fail
    clear la lb lc lt lx lu cb0 cb1 cb2 cb3 cb4 cb5 cb6
    have ha := Ha.out.alloc (.cells #[.int .i64 V.d, .int .i64 V.e, .int .i64 V.x, .int .i64 V.y, .int .i64 V.z] 26); clear Ha
    have hb := Hb.out.alloc (.cells #[.int .i64 V.d, .int .i64 V.e, .int .i64 V.x, .int .i64 V.y, .int .i64 V.z] 26); clear Hb
    have hc := Hc.out.alloc (.cells #[.int .i64 V.d, .int .i64 V.e, .int .i64 V.x, .int .i64 V.y, .int .i64 V.z] 26); clear Hc
    have ht := Ht.out.alloc (.cells #[.int .i64 V.d, .int .i64 V.e, .int .i64 V.x, .int .i64 V.y, .int .i64 V.z] 26); clear Ht
    have hx := Hx.out.alloc (.cells #[.int .i64 V.d, .int .i64 V.e, .int .i64 V.x, .int .i64 V.y, .int .i64 V.z] 26); clear Hx
    have hu := Hu.out.alloc (.cells #[.int .i64 V.d, .int .i64 V.e, .int .i64 V.x, .int .i64 V.y, .int .i64 V.z] 26); clear Hu
    have hv : Holds (v5.alloc (.cells #[.int .i64 V.d, .int .i64 V.e, .int .i64 V.x, .int .i64 V.y, .int .i64 V.z] 26)) v5.heap.size V := Row.made v5 _ _
    have hbw := HBW.out.alloc HBW.out.size (.cells #[.int .i64 V.d, .int .i64 V.e, .int .i64 V.x, .int .i64 V.y, .int .i64 V.z] 26); clear HBW
    generalize v5.alloc (.cells #[.int .i64 V.d, .int .i64 V.e, .int .i64 V.x, .int .i64 V.y, .int .i64 V.z] 26) = v6 at *
    generalize v5.heap.size = gv at *
    have Ha := Lib.hid ha; clear ha
    have Hb := Lib.hid hb; clear hb
    have Hc := Lib.hid hc; clear hc
    have Ht := Lib.hid ht; clear ht
    have Hx := Lib.hid hx; clear hx
    have Hu := Lib.hid hu; clear hu
    have Hv := Lib.hid hv; clear hv
    have HBW := Lib.hid hbw; clear hbw
    refine (CR.out _).mono ?_; rintro e v7 ⟨rfl, hbel⟩
    dsimp only
    have ha := Ha.out.below hbel; clear Ha
    have hb := Hb.out.below hbel; clear Hb
    have hc := Hc.out.below hbel; clear Hc
    have ht := Ht.out.below hbel; clear Ht
    have hx := Hx.out.below hbel; clear Hx
    have hu := Hu.out.below hbel; clear Hu
    have hv := Hv.out.below hbel; clear Hv
    have hbw := HBW.out.trans (hbel.mono HBW.out.size); clear HBW hbel
    have Ha := Lib.hid ha; clear ha
    have Hb := Lib.hid hb; clear hb
    have Hc := Lib.hid hc; clear hc
    have Ht := Lib.hid ht; clear ht
    have Hx := Lib.hid hx; clear hx
    have Hu := Lib.hid hu; clear hu
    have Hv := Lib.hid hv; clear hv
    have HBW := Lib.hid hbw; clear hbw
    have la := Ha.out.lt
    have lb := Hb.out.lt
    have lc := Hc.out.lt
    have lt := Ht.out.lt
    have lx := Hx.out.lt
    have lu := Hu.out.lt
    have lv := Hv.out.lt
    obtain ⟨ct0, ct1, ct2, ct3, ct4⟩ := Ht.out.c5
    obtain ⟨cx0, cx1, cx2, cx3, cx4, cx5, cx6⟩ := Hx.out.cells7
    go_wp2_with fail
    clear la lb lc lt lx lu lv ct0 ct1 ct2 ct3 ct4 cx0 cx1 cx2 cx3 cx4 cx5 cx6
    refine (C4.out _).mono ?_; rintro e v8 ⟨rfl, hbel⟩
    dsimp only
    have ha := Ha.out.below hbel; clear Ha
    have hb := Hb.out.below hbel; clear Hb
    have hc := Hc.out.below hbel; clear Hc
    have ht := Ht.out.below hbel; clear Ht
    have hx := Hx.out.below hbel; clear Hx
    have hu := Hu.out.below hbel; clear Hu
    have hv := Hv.out.below hbel; clear Hv
    have hbw := HBW.out.trans (hbel.mono HBW.out.size); clear HBW hbel
    have Ha := Lib.hid ha; clear ha
    have Hb := Lib.hid hb; clear hb
    have Hc := Lib.hid hc; clear hc
    have Ht := Lib.hid ht; clear ht
    have Hx := Lib.hid hx; clear hx
    have Hu := Lib.hid hu; clear hu
    have Hv := Lib.hid hv; clear hv
    have HBW := Lib.hid hbw; clear hbw
    have he : ∀ w, (Op.equalIn 10000 26 (.agg #[.int .i64 V.d, .int .i64 V.e, .int .i64 V.x, .int .i64 V.y, .int .i64 V.z]) (.agg #[.int .i64 V.d, .int .i64 V.e, .int .i64 V.x, .int .i64 V.y, .int .i64 V.z])).run Try.prog w = .ok true w := fun w => by
      have hq := run_eq5 V V w
      rw [decide_eq_true rfl] at hq
      exact hq
    have la := Ha.out.lt
    have lb := Hb.out.lt
    have lc := Hc.out.lt
    have lt := Ht.out.lt
    have lx := Hx.out.lt
    have lu := Hu.out.lt
    have lv := Hv.out.lt
    obtain ⟨cb0, cb1, cb2, cb3, cb4, cb5, cb6⟩ := Hb.out.cells7
    obtain ⟨cc0, cc1, cc2, cc3, cc4, cc5, cc6⟩ := Hc.out.cells7
    obtain ⟨cv0, cv1, cv2, cv3, cv4⟩ := Hv.out.c5
    go_wp2_with fail
    clear la lb lc lt lx lu lv cb0 cb1 cb2 cb3 cb4 cb5 cb6 cc0 cc1 cc2 cc3 cc4 cc5 cc6 cv0 cv1 cv2 cv3 cv4
    have ha := Ha.out.alloc (.cells #[.int .i64 V.d, .int .i64 V.e, .int .i64 V.x, .int .i64 V.y, .int .i64 V.z] 26); clear Ha
    have hb := Hb.out.alloc (.cells #[.int .i64 V.d, .int .i64 V.e, .int .i64 V.x, .int .i64 V.y, .int .i64 V.z] 26); clear Hb
    have hc := Hc.out.alloc (.cells #[.int .i64 V.d, .int .i64 V.e, .int .i64 V.x, .int .i64 V.y, .int .i64 V.z] 26); clear Hc
    have ht := Ht.out.alloc (.cells #[.int .i64 V.d, .int .i64 V.e, .int .i64 V.x, .int .i64 V.y, .int .i64 V.z] 26); clear Ht
    have hx := Hx.out.alloc (.cells #[.int .i64 V.d, .int .i64 V.e, .int .i64 V.x, .int .i64 V.y, .int .i64 V.z] 26); clear Hx
    have hu := Hu.out.alloc (.cells #[.int .i64 V.d, .int .i64 V.e, .int .i64 V.x, .int .i64 V.y, .int .i64 V.z] 26); clear Hu
    have hv := Hv.out.alloc (.cells #[.int .i64 V.d, .int .i64 V.e, .int .i64 V.x, .int .i64 V.y, .int .i64 V.z] 26); clear Hv
    have hw2 : Holds (v8.alloc (.cells #[.int .i64 V.d, .int .i64 V.e, .int .i64 V.x, .int .i64 V.y, .int .i64 V.z] 26)) v8.heap.size V := Row.made v8 _ _
    have hbw := HBW.out.alloc HBW.out.size (.cells #[.int .i64 V.d, .int .i64 V.e, .int .i64 V.x, .int .i64 V.y, .int .i64 V.z] 26); clear HBW
    generalize v8.alloc (.cells #[.int .i64 V.d, .int .i64 V.e, .int .i64 V.x, .int .i64 V.y, .int .i64 V.z] 26) = v9 at *
    generalize v8.heap.size = gw2 at *
    have Ha := Lib.hid ha; clear ha
    have Hb := Lib.hid hb; clear hb
    have Hc := Lib.hid hc; clear hc
    have Ht := Lib.hid ht; clear ht
    have Hx := Lib.hid hx; clear hx
    have Hu := Lib.hid hu; clear hu
    have Hv := Lib.hid hv; clear hv
    have Hw2 := Lib.hid hw2; clear hw2
    have HBW := Lib.hid hbw; clear hbw
    refine (C5.out _).mono ?_; rintro e v10 ⟨rfl, hbel⟩
    dsimp only
    have ha := Ha.out.below hbel; clear Ha
    have hb := Hb.out.below hbel; clear Hb
    have hc := Hc.out.below hbel; clear Hc
    have ht := Ht.out.below hbel; clear Ht
    have hx := Hx.out.below hbel; clear Hx
    have hu := Hu.out.below hbel; clear Hu
    have hv := Hv.out.below hbel; clear Hv
    have hw2 := Hw2.out.below hbel; clear Hw2
    have hbw := HBW.out.trans (hbel.mono HBW.out.size); clear HBW hbel
    have Ha := Lib.hid ha; clear ha
    have Hb := Lib.hid hb; clear hb
    have Hc := Lib.hid hc; clear hc
    have Ht := Lib.hid ht; clear ht
    have Hx := Lib.hid hx; clear hx
    have Hu := Lib.hid hu; clear hu
    have Hv := Lib.hid hv; clear hv
    have Hw2 := Lib.hid hw2; clear hw2
    have HBW := Lib.hid hbw; clear hbw
    have la := Ha.out.lt
    have lb := Hb.out.lt
    have lc := Hc.out.lt
    have lt := Ht.out.lt
    have lx := Hx.out.lt
    have lu := Hu.out.lt
    have lv := Hv.out.lt
    have lw2 := Hw2.out.lt
    go_wp2_with fail
    clear la lb lc lt lx lu lv lw2
    have ha := Ha.out.alloc (.cells #[.int .i64 Y.fr, .int .i64 Y.to, .int .i64 Y.kp, .int .i64 Y.ad, .int .i64 Y.t0, .int .i64 Y.t1, .int .i64 Y.t2] 24); clear Ha
    have hb := Hb.out.alloc (.cells #[.int .i64 Y.fr, .int .i64 Y.to, .int .i64 Y.kp, .int .i64 Y.ad, .int .i64 Y.t0, .int .i64 Y.t1, .int .i64 Y.t2] 24); clear Hb
    have hc := Hc.out.alloc (.cells #[.int .i64 Y.fr, .int .i64 Y.to, .int .i64 Y.kp, .int .i64 Y.ad, .int .i64 Y.t0, .int .i64 Y.t1, .int .i64 Y.t2] 24); clear Hc
    have ht := Ht.out.alloc (.cells #[.int .i64 Y.fr, .int .i64 Y.to, .int .i64 Y.kp, .int .i64 Y.ad, .int .i64 Y.t0, .int .i64 Y.t1, .int .i64 Y.t2] 24); clear Ht
    have hx := Hx.out.alloc (.cells #[.int .i64 Y.fr, .int .i64 Y.to, .int .i64 Y.kp, .int .i64 Y.ad, .int .i64 Y.t0, .int .i64 Y.t1, .int .i64 Y.t2] 24); clear Hx
    have hu := Hu.out.alloc (.cells #[.int .i64 Y.fr, .int .i64 Y.to, .int .i64 Y.kp, .int .i64 Y.ad, .int .i64 Y.t0, .int .i64 Y.t1, .int .i64 Y.t2] 24); clear Hu
    have hv := Hv.out.alloc (.cells #[.int .i64 Y.fr, .int .i64 Y.to, .int .i64 Y.kp, .int .i64 Y.ad, .int .i64 Y.t0, .int .i64 Y.t1, .int .i64 Y.t2] 24); clear Hv
    have hw2 := Hw2.out.alloc (.cells #[.int .i64 Y.fr, .int .i64 Y.to, .int .i64 Y.kp, .int .i64 Y.ad, .int .i64 Y.t0, .int .i64 Y.t1, .int .i64 Y.t2] 24); clear Hw2
    have hy : HoldsM (v10.alloc (.cells #[.int .i64 Y.fr, .int .i64 Y.to, .int .i64 Y.kp, .int .i64 Y.ad, .int .i64 Y.t0, .int .i64 Y.t1, .int .i64 Y.t2] 24)) v10.heap.size 24 Y := Row.made v10 _ _
    have hbw := HBW.out.alloc HBW.out.size (.cells #[.int .i64 Y.fr, .int .i64 Y.to, .int .i64 Y.kp, .int .i64 Y.ad, .int .i64 Y.t0, .int .i64 Y.t1, .int .i64 Y.t2] 24); clear HBW
    generalize v10.alloc (.cells #[.int .i64 Y.fr, .int .i64 Y.to, .int .i64 Y.kp, .int .i64 Y.ad, .int .i64 Y.t0, .int .i64 Y.t1, .int .i64 Y.t2] 24) = v11 at *
    generalize v10.heap.size = gy at *
    have Ha := Lib.hid ha; clear ha
    have Hb := Lib.hid hb; clear hb
    have Hc := Lib.hid hc; clear hc
    have Ht := Lib.hid ht; clear ht
    have Hx := Lib.hid hx; clear hx
    have Hu := Lib.hid hu; clear hu
    have Hv := Lib.hid hv; clear hv
    have Hw2 := Lib.hid hw2; clear hw2
    have Hy := Lib.hid hy; clear hy
    have HBW := Lib.hid hbw; clear hbw
    refine (CW.out _).mono ?_; rintro e v12 ⟨rfl, hbel⟩
    dsimp only
    have ha := Ha.out.below hbel; clear Ha
    have hb := Hb.out.below hbel; clear Hb
    have hc := Hc.out.below hbel; clear Hc
    have ht := Ht.out.below hbel; clear Ht
    have hx := Hx.out.below hbel; clear Hx
    have hu := Hu.out.below hbel; clear Hu
    have hv := Hv.out.below hbel; clear Hv
    have hw2 := Hw2.out.below hbel; clear Hw2
    have hy := Hy.out.below hbel; clear Hy
    have hbw := HBW.out.trans (hbel.mono HBW.out.size); clear HBW hbel
    have Ha := Lib.hid ha; clear ha
    have Hb := Lib.hid hb; clear hb
    have Hc := Lib.hid hc; clear hc
    have Ht := Lib.hid ht; clear ht
    have Hx := Lib.hid hx; clear hx
    have Hu := Lib.hid hu; clear hu
    have Hv := Lib.hid hv; clear hv
    have Hw2 := Lib.hid hw2; clear hw2
    have Hy := Lib.hid hy; clear hy
    have HBW := Lib.hid hbw; clear hbw
    have la := Ha.out.lt
    have lb := Hb.out.lt
    have lc := Hc.out.lt
    have lt := Ht.out.lt
    have lx := Hx.out.lt
    have lu := Hu.out.lt
    have lv := Hv.out.lt
    have lw2 := Hw2.out.lt
    have ly := Hy.out.lt
    go_wp2_with fail
    clear la lb lc lt lx lu lv lw2 ly
    go_ret
    exact ⟨rfl, HBW.out⟩
  case true =>
    have ha : HoldsM ((((w.alloc (.cells #[.int .i64 a.fr, .int .i64 a.to, .int .i64 a.kp, .int .i64 a.ad, .int .i64 a.t0, .int .i64 a.t1, .int .i64 a.t2] 24)).alloc (.cells #[.int .i64 b.fr, .int .i64 b.to, .int .i64 b.kp, .int .i64 b.ad, .int .i64 b.t0, .int .i64 b.t1, .int .i64 b.t2] 24)).alloc (.cells #[.int .i64 c.fr, .int .i64 c.to, .int .i64 c.kp, .int .i64 c.ad, .int .i64 c.t0, .int .i64 c.t1, .int .i64 c.t2] 24)).alloc (.cells #[.int .i64 t.d, .int .i64 t.e, .int .i64 t.x, .int .i64 t.y, .int .i64 t.z] 26)) w.heap.size 24 a := by
      have hq := Row.alloc (Row.alloc (Row.alloc (Row.made w 24 [.int .i64 a.fr, .int .i64 a.to, .int .i64 a.kp, .int .i64 a.ad, .int .i64 a.t0, .int .i64 a.t1, .int .i64 a.t2]) (.cells #[.int .i64 b.fr, .int .i64 b.to, .int .i64 b.kp, .int .i64 b.ad, .int .i64 b.t0, .int .i64 b.t1, .int .i64 b.t2] 24)) (.cells #[.int .i64 c.fr, .int .i64 c.to, .int .i64 c.kp, .int .i64 c.ad, .int .i64 c.t0, .int .i64 c.t1, .int .i64 c.t2] 24)) (.cells #[.int .i64 t.d, .int .i64 t.e, .int .i64 t.x, .int .i64 t.y, .int .i64 t.z] 26)
      exact hq
    have hb : HoldsM ((((w.alloc (.cells #[.int .i64 a.fr, .int .i64 a.to, .int .i64 a.kp, .int .i64 a.ad, .int .i64 a.t0, .int .i64 a.t1, .int .i64 a.t2] 24)).alloc (.cells #[.int .i64 b.fr, .int .i64 b.to, .int .i64 b.kp, .int .i64 b.ad, .int .i64 b.t0, .int .i64 b.t1, .int .i64 b.t2] 24)).alloc (.cells #[.int .i64 c.fr, .int .i64 c.to, .int .i64 c.kp, .int .i64 c.ad, .int .i64 c.t0, .int .i64 c.t1, .int .i64 c.t2] 24)).alloc (.cells #[.int .i64 t.d, .int .i64 t.e, .int .i64 t.x, .int .i64 t.y, .int .i64 t.z] 26)) (w.heap.size + 1) 24 b := by
      have hq := Row.alloc (Row.alloc (Row.made (w.alloc (.cells #[.int .i64 a.fr, .int .i64 a.to, .int .i64 a.kp, .int .i64 a.ad, .int .i64 a.t0, .int .i64 a.t1, .int .i64 a.t2] 24)) 24 [.int .i64 b.fr, .int .i64 b.to, .int .i64 b.kp, .int .i64 b.ad, .int .i64 b.t0, .int .i64 b.t1, .int .i64 b.t2]) (.cells #[.int .i64 c.fr, .int .i64 c.to, .int .i64 c.kp, .int .i64 c.ad, .int .i64 c.t0, .int .i64 c.t1, .int .i64 c.t2] 24)) (.cells #[.int .i64 t.d, .int .i64 t.e, .int .i64 t.x, .int .i64 t.y, .int .i64 t.z] 26)
      rw [size_alloc] at hq
      exact hq
    have hc : HoldsM ((((w.alloc (.cells #[.int .i64 a.fr, .int .i64 a.to, .int .i64 a.kp, .int .i64 a.ad, .int .i64 a.t0, .int .i64 a.t1, .int .i64 a.t2] 24)).alloc (.cells #[.int .i64 b.fr, .int .i64 b.to, .int .i64 b.kp, .int .i64 b.ad, .int .i64 b.t0, .int .i64 b.t1, .int .i64 b.t2] 24)).alloc (.cells #[.int .i64 c.fr, .int .i64 c.to, .int .i64 c.kp, .int .i64 c.ad, .int .i64 c.t0, .int .i64 c.t1, .int .i64 c.t2] 24)).alloc (.cells #[.int .i64 t.d, .int .i64 t.e, .int .i64 t.x, .int .i64 t.y, .int .i64 t.z] 26)) (w.heap.size + 1 + 1) 24 c := by
      have hq := Row.alloc (Row.made ((w.alloc (.cells #[.int .i64 a.fr, .int .i64 a.to, .int .i64 a.kp, .int .i64 a.ad, .int .i64 a.t0, .int .i64 a.t1, .int .i64 a.t2] 24)).alloc (.cells #[.int .i64 b.fr, .int .i64 b.to, .int .i64 b.kp, .int .i64 b.ad, .int .i64 b.t0, .int .i64 b.t1, .int .i64 b.t2] 24)) 24 [.int .i64 c.fr, .int .i64 c.to, .int .i64 c.kp, .int .i64 c.ad, .int .i64 c.t0, .int .i64 c.t1, .int .i64 c.t2]) (.cells #[.int .i64 t.d, .int .i64 t.e, .int .i64 t.x, .int .i64 t.y, .int .i64 t.z] 26)
      rw [size_alloc, size_alloc] at hq
      exact hq
    have ht : Holds ((((w.alloc (.cells #[.int .i64 a.fr, .int .i64 a.to, .int .i64 a.kp, .int .i64 a.ad, .int .i64 a.t0, .int .i64 a.t1, .int .i64 a.t2] 24)).alloc (.cells #[.int .i64 b.fr, .int .i64 b.to, .int .i64 b.kp, .int .i64 b.ad, .int .i64 b.t0, .int .i64 b.t1, .int .i64 b.t2] 24)).alloc (.cells #[.int .i64 c.fr, .int .i64 c.to, .int .i64 c.kp, .int .i64 c.ad, .int .i64 c.t0, .int .i64 c.t1, .int .i64 c.t2] 24)).alloc (.cells #[.int .i64 t.d, .int .i64 t.e, .int .i64 t.x, .int .i64 t.y, .int .i64 t.z] 26)) (w.heap.size + 1 + 1 + 1) t := by
      have hq := Row.made (((w.alloc (.cells #[.int .i64 a.fr, .int .i64 a.to, .int .i64 a.kp, .int .i64 a.ad, .int .i64 a.t0, .int .i64 a.t1, .int .i64 a.t2] 24)).alloc (.cells #[.int .i64 b.fr, .int .i64 b.to, .int .i64 b.kp, .int .i64 b.ad, .int .i64 b.t0, .int .i64 b.t1, .int .i64 b.t2] 24)).alloc (.cells #[.int .i64 c.fr, .int .i64 c.to, .int .i64 c.kp, .int .i64 c.ad, .int .i64 c.t0, .int .i64 c.t1, .int .i64 c.t2] 24)) 26 [.int .i64 t.d, .int .i64 t.e, .int .i64 t.x, .int .i64 t.y, .int .i64 t.z]
      rw [size_alloc, size_alloc, size_alloc] at hq
      exact hq
    have hbw : Below w.heap.size w ((((w.alloc (.cells #[.int .i64 a.fr, .int .i64 a.to, .int .i64 a.kp, .int .i64 a.ad, .int .i64 a.t0, .int .i64 a.t1, .int .i64 a.t2] 24)).alloc (.cells #[.int .i64 b.fr, .int .i64 b.to, .int .i64 b.kp, .int .i64 b.ad, .int .i64 b.t0, .int .i64 b.t1, .int .i64 b.t2] 24)).alloc (.cells #[.int .i64 c.fr, .int .i64 c.to, .int .i64 c.kp, .int .i64 c.ad, .int .i64 c.t0, .int .i64 c.t1, .int .i64 c.t2] 24)).alloc (.cells #[.int .i64 t.d, .int .i64 t.e, .int .i64 t.x, .int .i64 t.y, .int .i64 t.z] 26)) := ((((Below.refl _ _).alloc (by simp) _).alloc (by simp) _).alloc (by simp; omega) _).alloc (by simp; omega) _
    have Ha := Lib.hid ha; clear ha
    have Hb := Lib.hid hb; clear hb
    have Hc := Lib.hid hc; clear hc
    have Ht := Lib.hid ht; clear ht
    have HBW := Lib.hid hbw; clear hbw
    go_enter Try.func6, Try.ntmps6
    go_wp2_with fail
    generalize (((w.alloc (.cells #[.int .i64 a.fr, .int .i64 a.to, .int .i64 a.kp, .int .i64 a.ad, .int .i64 a.t0, .int .i64 a.t1, .int .i64 a.t2] 24)).alloc (.cells #[.int .i64 b.fr, .int .i64 b.to, .int .i64 b.kp, .int .i64 b.ad, .int .i64 b.t0, .int .i64 b.t1, .int .i64 b.t2] 24)).alloc (.cells #[.int .i64 c.fr, .int .i64 c.to, .int .i64 c.kp, .int .i64 c.ad, .int .i64 c.t0, .int .i64 c.t1, .int .i64 c.t2] 24)).alloc (.cells #[.int .i64 t.d, .int .i64 t.e, .int .i64 t.x, .int .i64 t.y, .int .i64 t.z] 26) = w0 at *
    have la := Ha.out.lt
    have lb := Hb.out.lt
    have lc := Hc.out.lt
    have lt := Ht.out.lt
    obtain ⟨ca0, ca1, ca2, ca3, ca4, ca5, ca6⟩ := Ha.out.cells7
    obtain ⟨cb0, cb1, cb2, cb3, cb4, cb5, cb6⟩ := Hb.out.cells7
    go_wp2_with fail
    clear la lb lc lt ca0 ca1 ca2 ca3 ca4 ca5 ca6 cb0 cb1 cb2 cb3 cb4 cb5 cb6
    refine (C1.out _).mono ?_; rintro e v1 ⟨rfl, hbel⟩
    dsimp only
    have ha := Ha.out.below hbel; clear Ha
    have hb := Hb.out.below hbel; clear Hb
    have hc := Hc.out.below hbel; clear Hc
    have ht := Ht.out.below hbel; clear Ht
    have hbw := HBW.out.trans (hbel.mono HBW.out.size); clear HBW hbel
    have Ha := Lib.hid ha; clear ha
    have Hb := Lib.hid hb; clear hb
    have Hc := Lib.hid hc; clear hc
    have Ht := Lib.hid ht; clear ht
    have HBW := Lib.hid hbw; clear hbw
    have la := Ha.out.lt
    have lb := Hb.out.lt
    have lc := Hc.out.lt
    have lt := Ht.out.lt
    obtain ⟨ca0, ca1, ca2, ca3, ca4, ca5, ca6⟩ := Ha.out.cells7
    obtain ⟨ct0, ct1, ct2, ct3, ct4⟩ := Ht.out.c5
    go_wp2_with fail
    clear la lb lc lt ca0 ca1 ca2 ca3 ca4 ca5 ca6 ct0 ct1 ct2 ct3 ct4
    have ha := Ha.out.alloc (.cells #[.int .i64 X.fr, .int .i64 X.to, .int .i64 X.kp, .int .i64 X.ad, .int .i64 X.t0, .int .i64 X.t1, .int .i64 X.t2] 24); clear Ha
    have hb := Hb.out.alloc (.cells #[.int .i64 X.fr, .int .i64 X.to, .int .i64 X.kp, .int .i64 X.ad, .int .i64 X.t0, .int .i64 X.t1, .int .i64 X.t2] 24); clear Hb
    have hc := Hc.out.alloc (.cells #[.int .i64 X.fr, .int .i64 X.to, .int .i64 X.kp, .int .i64 X.ad, .int .i64 X.t0, .int .i64 X.t1, .int .i64 X.t2] 24); clear Hc
    have ht := Ht.out.alloc (.cells #[.int .i64 X.fr, .int .i64 X.to, .int .i64 X.kp, .int .i64 X.ad, .int .i64 X.t0, .int .i64 X.t1, .int .i64 X.t2] 24); clear Ht
    have hx : HoldsM (v1.alloc (.cells #[.int .i64 X.fr, .int .i64 X.to, .int .i64 X.kp, .int .i64 X.ad, .int .i64 X.t0, .int .i64 X.t1, .int .i64 X.t2] 24)) v1.heap.size 24 X := Row.made v1 _ _
    have hbw := HBW.out.alloc HBW.out.size (.cells #[.int .i64 X.fr, .int .i64 X.to, .int .i64 X.kp, .int .i64 X.ad, .int .i64 X.t0, .int .i64 X.t1, .int .i64 X.t2] 24); clear HBW
    generalize v1.alloc (.cells #[.int .i64 X.fr, .int .i64 X.to, .int .i64 X.kp, .int .i64 X.ad, .int .i64 X.t0, .int .i64 X.t1, .int .i64 X.t2] 24) = v2 at *
    generalize v1.heap.size = gx at *
    have Ha := Lib.hid ha; clear ha
    have Hb := Lib.hid hb; clear hb
    have Hc := Lib.hid hc; clear hc
    have Ht := Lib.hid ht; clear ht
    have Hx := Lib.hid hx; clear hx
    have HBW := Lib.hid hbw; clear hbw
    refine (C2.out _).mono ?_; rintro e v3 ⟨rfl, hbel⟩
    dsimp only
    have ha := Ha.out.below hbel; clear Ha
    have hb := Hb.out.below hbel; clear Hb
    have hc := Hc.out.below hbel; clear Hc
    have ht := Ht.out.below hbel; clear Ht
    have hx := Hx.out.below hbel; clear Hx
    have hbw := HBW.out.trans (hbel.mono HBW.out.size); clear HBW hbel
    have Ha := Lib.hid ha; clear ha
    have Hb := Lib.hid hb; clear hb
    have Hc := Lib.hid hc; clear hc
    have Ht := Lib.hid ht; clear ht
    have Hx := Lib.hid hx; clear hx
    have HBW := Lib.hid hbw; clear hbw
    have la := Ha.out.lt
    have lb := Hb.out.lt
    have lc := Hc.out.lt
    have lt := Ht.out.lt
    have lx := Hx.out.lt
    obtain ⟨cb0, cb1, cb2, cb3, cb4, cb5, cb6⟩ := Hb.out.cells7
    go_wp2_with fail
    clear la lb lc lt lx cb0 cb1 cb2 cb3 cb4 cb5 cb6
    have ha := Ha.out.alloc (.cells #[.int .i64 U.d, .int .i64 U.e, .int .i64 U.x, .int .i64 U.y, .int .i64 U.z] 26); clear Ha
    have hb := Hb.out.alloc (.cells #[.int .i64 U.d, .int .i64 U.e, .int .i64 U.x, .int .i64 U.y, .int .i64 U.z] 26); clear Hb
    have hc := Hc.out.alloc (.cells #[.int .i64 U.d, .int .i64 U.e, .int .i64 U.x, .int .i64 U.y, .int .i64 U.z] 26); clear Hc
    have ht := Ht.out.alloc (.cells #[.int .i64 U.d, .int .i64 U.e, .int .i64 U.x, .int .i64 U.y, .int .i64 U.z] 26); clear Ht
    have hx := Hx.out.alloc (.cells #[.int .i64 U.d, .int .i64 U.e, .int .i64 U.x, .int .i64 U.y, .int .i64 U.z] 26); clear Hx
    have hu : Holds (v3.alloc (.cells #[.int .i64 U.d, .int .i64 U.e, .int .i64 U.x, .int .i64 U.y, .int .i64 U.z] 26)) v3.heap.size U := Row.made v3 _ _
    have hbw := HBW.out.alloc HBW.out.size (.cells #[.int .i64 U.d, .int .i64 U.e, .int .i64 U.x, .int .i64 U.y, .int .i64 U.z] 26); clear HBW
    generalize v3.alloc (.cells #[.int .i64 U.d, .int .i64 U.e, .int .i64 U.x, .int .i64 U.y, .int .i64 U.z] 26) = v4 at *
    generalize v3.heap.size = gu at *
    have Ha := Lib.hid ha; clear ha
    have Hb := Lib.hid hb; clear hb
    have Hc := Lib.hid hc; clear hc
    have Ht := Lib.hid ht; clear ht
    have Hx := Lib.hid hx; clear hx
    have Hu := Lib.hid hu; clear hu
    have HBW := Lib.hid hbw; clear hbw
    refine (C3.out _).mono ?_; rintro e v5 ⟨rfl, hbel⟩
    dsimp only
    have ha := Ha.out.below hbel; clear Ha
    have hb := Hb.out.below hbel; clear Hb
    have hc := Hc.out.below hbel; clear Hc
    have ht := Ht.out.below hbel; clear Ht
    have hx := Hx.out.below hbel; clear Hx
    have hu := Hu.out.below hbel; clear Hu
    have hbw := HBW.out.trans (hbel.mono HBW.out.size); clear HBW hbel
    have Ha := Lib.hid ha; clear ha
    have Hb := Lib.hid hb; clear hb
    have Hc := Lib.hid hc; clear hc
    have Ht := Lib.hid ht; clear ht
    have Hx := Lib.hid hx; clear hx
    have Hu := Lib.hid hu; clear hu
    have HBW := Lib.hid hbw; clear hbw
    have la := Ha.out.lt
    have lb := Hb.out.lt
    have lc := Hc.out.lt
    have lt := Ht.out.lt
    have lx := Hx.out.lt
    have lu := Hu.out.lt
    obtain ⟨cb0, cb1, cb2, cb3, cb4, cb5, cb6⟩ := Hb.out.cells7
    go_wp2_with fail
    clear la lb lc lt lx lu cb0 cb1 cb2 cb3 cb4 cb5 cb6
    have ha := Ha.out.alloc (.cells #[.int .i64 V.d, .int .i64 V.e, .int .i64 V.x, .int .i64 V.y, .int .i64 V.z] 26); clear Ha
    have hb := Hb.out.alloc (.cells #[.int .i64 V.d, .int .i64 V.e, .int .i64 V.x, .int .i64 V.y, .int .i64 V.z] 26); clear Hb
    have hc := Hc.out.alloc (.cells #[.int .i64 V.d, .int .i64 V.e, .int .i64 V.x, .int .i64 V.y, .int .i64 V.z] 26); clear Hc
    have ht := Ht.out.alloc (.cells #[.int .i64 V.d, .int .i64 V.e, .int .i64 V.x, .int .i64 V.y, .int .i64 V.z] 26); clear Ht
    have hx := Hx.out.alloc (.cells #[.int .i64 V.d, .int .i64 V.e, .int .i64 V.x, .int .i64 V.y, .int .i64 V.z] 26); clear Hx
    have hu := Hu.out.alloc (.cells #[.int .i64 V.d, .int .i64 V.e, .int .i64 V.x, .int .i64 V.y, .int .i64 V.z] 26); clear Hu
    have hv : Holds (v5.alloc (.cells #[.int .i64 V.d, .int .i64 V.e, .int .i64 V.x, .int .i64 V.y, .int .i64 V.z] 26)) v5.heap.size V := Row.made v5 _ _
    have hbw := HBW.out.alloc HBW.out.size (.cells #[.int .i64 V.d, .int .i64 V.e, .int .i64 V.x, .int .i64 V.y, .int .i64 V.z] 26); clear HBW
    generalize v5.alloc (.cells #[.int .i64 V.d, .int .i64 V.e, .int .i64 V.x, .int .i64 V.y, .int .i64 V.z] 26) = v6 at *
    generalize v5.heap.size = gv at *
    have Ha := Lib.hid ha; clear ha
    have Hb := Lib.hid hb; clear hb
    have Hc := Lib.hid hc; clear hc
    have Ht := Lib.hid ht; clear ht
    have Hx := Lib.hid hx; clear hx
    have Hu := Lib.hid hu; clear hu
    have Hv := Lib.hid hv; clear hv
    have HBW := Lib.hid hbw; clear hbw
    refine (CR.out _).mono ?_; rintro e v7 ⟨rfl, hbel⟩
    dsimp only
    have ha := Ha.out.below hbel; clear Ha
    have hb := Hb.out.below hbel; clear Hb
    have hc := Hc.out.below hbel; clear Hc
    have ht := Ht.out.below hbel; clear Ht
    have hx := Hx.out.below hbel; clear Hx
    have hu := Hu.out.below hbel; clear Hu
    have hv := Hv.out.below hbel; clear Hv
    have hbw := HBW.out.trans (hbel.mono HBW.out.size); clear HBW hbel
    have Ha := Lib.hid ha; clear ha
    have Hb := Lib.hid hb; clear hb
    have Hc := Lib.hid hc; clear hc
    have Ht := Lib.hid ht; clear ht
    have Hx := Lib.hid hx; clear hx
    have Hu := Lib.hid hu; clear hu
    have Hv := Lib.hid hv; clear hv
    have HBW := Lib.hid hbw; clear hbw
    have la := Ha.out.lt
    have lb := Hb.out.lt
    have lc := Hc.out.lt
    have lt := Ht.out.lt
    have lx := Hx.out.lt
    have lu := Hu.out.lt
    have lv := Hv.out.lt
    obtain ⟨ct0, ct1, ct2, ct3, ct4⟩ := Ht.out.c5
    obtain ⟨cx0, cx1, cx2, cx3, cx4, cx5, cx6⟩ := Hx.out.cells7
    go_wp2_with fail
    clear la lb lc lt lx lu lv ct0 ct1 ct2 ct3 ct4 cx0 cx1 cx2 cx3 cx4 cx5 cx6
    refine (C4.out _).mono ?_; rintro e v8 ⟨rfl, hbel⟩
    dsimp only
    have ha := Ha.out.below hbel; clear Ha
    have hb := Hb.out.below hbel; clear Hb
    have hc := Hc.out.below hbel; clear Hc
    have ht := Ht.out.below hbel; clear Ht
    have hx := Hx.out.below hbel; clear Hx
    have hu := Hu.out.below hbel; clear Hu
    have hv := Hv.out.below hbel; clear Hv
    have hbw := HBW.out.trans (hbel.mono HBW.out.size); clear HBW hbel
    have Ha := Lib.hid ha; clear ha
    have Hb := Lib.hid hb; clear hb
    have Hc := Lib.hid hc; clear hc
    have Ht := Lib.hid ht; clear ht
    have Hx := Lib.hid hx; clear hx
    have Hu := Lib.hid hu; clear hu
    have Hv := Lib.hid hv; clear hv
    have HBW := Lib.hid hbw; clear hbw
    have he : ∀ w, (Op.equalIn 10000 26 (.agg #[.int .i64 V.d, .int .i64 V.e, .int .i64 V.x, .int .i64 V.y, .int .i64 V.z]) (.agg #[.int .i64 V.d, .int .i64 V.e, .int .i64 V.x, .int .i64 V.y, .int .i64 V.z])).run Try.prog w = .ok true w := fun w => by
      have hq := run_eq5 V V w
      rw [decide_eq_true rfl] at hq
      exact hq
    have la := Ha.out.lt
    have lb := Hb.out.lt
    have lc := Hc.out.lt
    have lt := Ht.out.lt
    have lx := Hx.out.lt
    have lu := Hu.out.lt
    have lv := Hv.out.lt
    obtain ⟨cb0, cb1, cb2, cb3, cb4, cb5, cb6⟩ := Hb.out.cells7
    obtain ⟨cc0, cc1, cc2, cc3, cc4, cc5, cc6⟩ := Hc.out.cells7
    obtain ⟨cv0, cv1, cv2, cv3, cv4⟩ := Hv.out.c5
    go_wp2_with fail
    clear la lb lc lt lx lu lv cb0 cb1 cb2 cb3 cb4 cb5 cb6 cc0 cc1 cc2 cc3 cc4 cc5 cc6 cv0 cv1 cv2 cv3 cv4
    have ha := Ha.out.alloc (.cells #[.int .i64 V.d, .int .i64 V.e, .int .i64 V.x, .int .i64 V.y, .int .i64 V.z] 26); clear Ha
    have hb := Hb.out.alloc (.cells #[.int .i64 V.d, .int .i64 V.e, .int .i64 V.x, .int .i64 V.y, .int .i64 V.z] 26); clear Hb
    have hc := Hc.out.alloc (.cells #[.int .i64 V.d, .int .i64 V.e, .int .i64 V.x, .int .i64 V.y, .int .i64 V.z] 26); clear Hc
    have ht := Ht.out.alloc (.cells #[.int .i64 V.d, .int .i64 V.e, .int .i64 V.x, .int .i64 V.y, .int .i64 V.z] 26); clear Ht
    have hx := Hx.out.alloc (.cells #[.int .i64 V.d, .int .i64 V.e, .int .i64 V.x, .int .i64 V.y, .int .i64 V.z] 26); clear Hx
    have hu := Hu.out.alloc (.cells #[.int .i64 V.d, .int .i64 V.e, .int .i64 V.x, .int .i64 V.y, .int .i64 V.z] 26); clear Hu
    have hv := Hv.out.alloc (.cells #[.int .i64 V.d, .int .i64 V.e, .int .i64 V.x, .int .i64 V.y, .int .i64 V.z] 26); clear Hv
    have hw2 : Holds (v8.alloc (.cells #[.int .i64 V.d, .int .i64 V.e, .int .i64 V.x, .int .i64 V.y, .int .i64 V.z] 26)) v8.heap.size V := Row.made v8 _ _
    have hbw := HBW.out.alloc HBW.out.size (.cells #[.int .i64 V.d, .int .i64 V.e, .int .i64 V.x, .int .i64 V.y, .int .i64 V.z] 26); clear HBW
    generalize v8.alloc (.cells #[.int .i64 V.d, .int .i64 V.e, .int .i64 V.x, .int .i64 V.y, .int .i64 V.z] 26) = v9 at *
    generalize v8.heap.size = gw2 at *
    have Ha := Lib.hid ha; clear ha
    have Hb := Lib.hid hb; clear hb
    have Hc := Lib.hid hc; clear hc
    have Ht := Lib.hid ht; clear ht
    have Hx := Lib.hid hx; clear hx
    have Hu := Lib.hid hu; clear hu
    have Hv := Lib.hid hv; clear hv
    have Hw2 := Lib.hid hw2; clear hw2
    have HBW := Lib.hid hbw; clear hbw
    refine (C5.out _).mono ?_; rintro e v10 ⟨rfl, hbel⟩
    dsimp only
    have ha := Ha.out.below hbel; clear Ha
    have hb := Hb.out.below hbel; clear Hb
    have hc := Hc.out.below hbel; clear Hc
    have ht := Ht.out.below hbel; clear Ht
    have hx := Hx.out.below hbel; clear Hx
    have hu := Hu.out.below hbel; clear Hu
    have hv := Hv.out.below hbel; clear Hv
    have hw2 := Hw2.out.below hbel; clear Hw2
    have hbw := HBW.out.trans (hbel.mono HBW.out.size); clear HBW hbel
    have Ha := Lib.hid ha; clear ha
    have Hb := Lib.hid hb; clear hb
    have Hc := Lib.hid hc; clear hc
    have Ht := Lib.hid ht; clear ht
    have Hx := Lib.hid hx; clear hx
    have Hu := Lib.hid hu; clear hu
    have Hv := Lib.hid hv; clear hv
    have Hw2 := Lib.hid hw2; clear hw2
    have HBW := Lib.hid hbw; clear hbw
    have la := Ha.out.lt
    have lb := Hb.out.lt
    have lc := Hc.out.lt
    have lt := Ht.out.lt
    have lx := Hx.out.lt
    have lu := Hu.out.lt
    have lv := Hv.out.lt
    have lw2 := Hw2.out.lt
    go_wp2_with fail
    clear la lb lc lt lx lu lv lw2
    have ha := Ha.out.alloc (.cells #[.int .i64 Y.fr, .int .i64 Y.to, .int .i64 Y.kp, .int .i64 Y.ad, .int .i64 Y.t0, .int .i64 Y.t1, .int .i64 Y.t2] 24); clear Ha
    have hb := Hb.out.alloc (.cells #[.int .i64 Y.fr, .int .i64 Y.to, .int .i64 Y.kp, .int .i64 Y.ad, .int .i64 Y.t0, .int .i64 Y.t1, .int .i64 Y.t2] 24); clear Hb
    have hc := Hc.out.alloc (.cells #[.int .i64 Y.fr, .int .i64 Y.to, .int .i64 Y.kp, .int .i64 Y.ad, .int .i64 Y.t0, .int .i64 Y.t1, .int .i64 Y.t2] 24); clear Hc
    have ht := Ht.out.alloc (.cells #[.int .i64 Y.fr, .int .i64 Y.to, .int .i64 Y.kp, .int .i64 Y.ad, .int .i64 Y.t0, .int .i64 Y.t1, .int .i64 Y.t2] 24); clear Ht
    have hx := Hx.out.alloc (.cells #[.int .i64 Y.fr, .int .i64 Y.to, .int .i64 Y.kp, .int .i64 Y.ad, .int .i64 Y.t0, .int .i64 Y.t1, .int .i64 Y.t2] 24); clear Hx
    have hu := Hu.out.alloc (.cells #[.int .i64 Y.fr, .int .i64 Y.to, .int .i64 Y.kp, .int .i64 Y.ad, .int .i64 Y.t0, .int .i64 Y.t1, .int .i64 Y.t2] 24); clear Hu
    have hv := Hv.out.alloc (.cells #[.int .i64 Y.fr, .int .i64 Y.to, .int .i64 Y.kp, .int .i64 Y.ad, .int .i64 Y.t0, .int .i64 Y.t1, .int .i64 Y.t2] 24); clear Hv
    have hw2 := Hw2.out.alloc (.cells #[.int .i64 Y.fr, .int .i64 Y.to, .int .i64 Y.kp, .int .i64 Y.ad, .int .i64 Y.t0, .int .i64 Y.t1, .int .i64 Y.t2] 24); clear Hw2
    have hy : HoldsM (v10.alloc (.cells #[.int .i64 Y.fr, .int .i64 Y.to, .int .i64 Y.kp, .int .i64 Y.ad, .int .i64 Y.t0, .int .i64 Y.t1, .int .i64 Y.t2] 24)) v10.heap.size 24 Y := Row.made v10 _ _
    have hbw := HBW.out.alloc HBW.out.size (.cells #[.int .i64 Y.fr, .int .i64 Y.to, .int .i64 Y.kp, .int .i64 Y.ad, .int .i64 Y.t0, .int .i64 Y.t1, .int .i64 Y.t2] 24); clear HBW
    generalize v10.alloc (.cells #[.int .i64 Y.fr, .int .i64 Y.to, .int .i64 Y.kp, .int .i64 Y.ad, .int .i64 Y.t0, .int .i64 Y.t1, .int .i64 Y.t2] 24) = v11 at *
    generalize v10.heap.size = gy at *
    have Ha := Lib.hid ha; clear ha
    have Hb := Lib.hid hb; clear hb
    have Hc := Lib.hid hc; clear hc
    have Ht := Lib.hid ht; clear ht
    have Hx := Lib.hid hx; clear hx
    have Hu := Lib.hid hu; clear hu
    have Hv := Lib.hid hv; clear hv
    have Hw2 := Lib.hid hw2; clear hw2
    have Hy := Lib.hid hy; clear hy
    have HBW := Lib.hid hbw; clear hbw
    refine (CW.out _).mono ?_; rintro e v12 ⟨rfl, hbel⟩
    dsimp only
    have ha := Ha.out.below hbel; clear Ha
    have hb := Hb.out.below hbel; clear Hb
    have hc := Hc.out.below hbel; clear Hc
    have ht := Ht.out.below hbel; clear Ht
    have hx := Hx.out.below hbel; clear Hx
    have hu := Hu.out.below hbel; clear Hu
    have hv := Hv.out.below hbel; clear Hv
    have hw2 := Hw2.out.below hbel; clear Hw2
    have hy := Hy.out.below hbel; clear Hy
    have hbw := HBW.out.trans (hbel.mono HBW.out.size); clear HBW hbel
    have Ha := Lib.hid ha; clear ha
    have Hb := Lib.hid hb; clear hb
    have Hc := Lib.hid hc; clear hc
    have Ht := Lib.hid ht; clear ht
    have Hx := Lib.hid hx; clear hx
    have Hu := Lib.hid hu; clear hu
    have Hv := Lib.hid hv; clear hv
    have Hw2 := Lib.hid hw2; clear hw2
    have Hy := Lib.hid hy; clear hy
    have HBW := Lib.hid hbw; clear hbw
    have la := Ha.out.lt
    have lb := Hb.out.lt
    have lc := Hc.out.lt
    have lt := Ht.out.lt
    have lx := Hx.out.lt
    have lu := Hu.out.lt
    have lv := Hv.out.lt
    have lw2 := Hw2.out.lt
    have ly := Hy.out.lt
    go_wp2_with fail
    clear la lb lc lt lx lu lv lw2 ly
    go_ret
    exact ⟨rfl, HBW.out⟩
set_option maxHeartbeats 4000000 in
theorem w_yy_t (a b c X Y P : Sm) (t U V : St) (B3 B6 : Bool) (w : World)
    (c1 : ∀ w, Calls Try.prog 19 #[.agg #[.int .i64 a.fr, .int .i64 a.to, .int .i64 a.kp, .int .i64 a.ad, .int .i64 a.t0, .int .i64 a.t1, .int .i64 a.t2], .agg #[.int .i64 b.fr, .int .i64 b.to, .int .i64 b.kp, .int .i64 b.ad, .int .i64 b.t0, .int .i64 b.t1, .int .i64 b.t2]] w fun e w' => e = .returned (.tuple #[.agg #[.int .i64 X.fr, .int .i64 X.to, .int .i64 X.kp, .int .i64 X.ad, .int .i64 X.t0, .int .i64 X.t1, .int .i64 X.t2], .bool true]) ∧ Below w.heap.size w w')
    (c2 : ∀ w, Calls Try.prog 11 #[.agg #[.int .i64 a.fr, .int .i64 a.to, .int .i64 a.kp, .int .i64 a.ad, .int .i64 a.t0, .int .i64 a.t1, .int .i64 a.t2], .agg #[.int .i64 t.d, .int .i64 t.e, .int .i64 t.x, .int .i64 t.y, .int .i64 t.z]] w fun e w' => e = .returned (.tuple #[.agg #[.int .i64 U.d, .int .i64 U.e, .int .i64 U.x, .int .i64 U.y, .int .i64 U.z], .bool true]) ∧ Below w.heap.size w w')
    (c3 : ∀ w, Calls Try.prog 11 #[.agg #[.int .i64 b.fr, .int .i64 b.to, .int .i64 b.kp, .int .i64 b.ad, .int .i64 b.t0, .int .i64 b.t1, .int .i64 b.t2], .agg #[.int .i64 U.d, .int .i64 U.e, .int .i64 U.x, .int .i64 U.y, .int .i64 U.z]] w fun e w' => e = .returned (.tuple #[.agg #[.int .i64 V.d, .int .i64 V.e, .int .i64 V.x, .int .i64 V.y, .int .i64 V.z], .bool B3]) ∧ Below w.heap.size w w')
    (cr : ∀ w, Calls Try.prog 16 #[.agg #[.int .i64 b.fr, .int .i64 b.to, .int .i64 b.kp, .int .i64 b.ad, .int .i64 b.t0, .int .i64 b.t1, .int .i64 b.t2]] w fun e w' => e = .returned (.bool true) ∧ Below w.heap.size w w')
    (c4 : ∀ w, Calls Try.prog 11 #[.agg #[.int .i64 X.fr, .int .i64 X.to, .int .i64 X.kp, .int .i64 X.ad, .int .i64 X.t0, .int .i64 X.t1, .int .i64 X.t2], .agg #[.int .i64 t.d, .int .i64 t.e, .int .i64 t.x, .int .i64 t.y, .int .i64 t.z]] w fun e w' => e = .returned (.tuple #[.agg #[.int .i64 V.d, .int .i64 V.e, .int .i64 V.x, .int .i64 V.y, .int .i64 V.z], .bool B3]) ∧ Below w.heap.size w w')
    (c5 : ∀ w, Calls Try.prog 19 #[.agg #[.int .i64 b.fr, .int .i64 b.to, .int .i64 b.kp, .int .i64 b.ad, .int .i64 b.t0, .int .i64 b.t1, .int .i64 b.t2], .agg #[.int .i64 c.fr, .int .i64 c.to, .int .i64 c.kp, .int .i64 c.ad, .int .i64 c.t0, .int .i64 c.t1, .int .i64 c.t2]] w fun e w' => e = .returned (.tuple #[.agg #[.int .i64 Y.fr, .int .i64 Y.to, .int .i64 Y.kp, .int .i64 Y.ad, .int .i64 Y.t0, .int .i64 Y.t1, .int .i64 Y.t2], .bool true]) ∧ Below w.heap.size w w')
    (c6 : ∀ w, Calls Try.prog 19 #[.agg #[.int .i64 X.fr, .int .i64 X.to, .int .i64 X.kp, .int .i64 X.ad, .int .i64 X.t0, .int .i64 X.t1, .int .i64 X.t2], .agg #[.int .i64 c.fr, .int .i64 c.to, .int .i64 c.kp, .int .i64 c.ad, .int .i64 c.t0, .int .i64 c.t1, .int .i64 c.t2]] w fun e w' => e = .returned (.tuple #[.agg #[.int .i64 P.fr, .int .i64 P.to, .int .i64 P.kp, .int .i64 P.ad, .int .i64 P.t0, .int .i64 P.t1, .int .i64 P.t2], .bool B6]) ∧ Below w.heap.size w w')
    (c7 : ∀ w, Calls Try.prog 19 #[.agg #[.int .i64 a.fr, .int .i64 a.to, .int .i64 a.kp, .int .i64 a.ad, .int .i64 a.t0, .int .i64 a.t1, .int .i64 a.t2], .agg #[.int .i64 Y.fr, .int .i64 Y.to, .int .i64 Y.kp, .int .i64 Y.ad, .int .i64 Y.t0, .int .i64 Y.t1, .int .i64 Y.t2]] w fun e w' => e = .returned (.tuple #[.agg #[.int .i64 P.fr, .int .i64 P.to, .int .i64 P.kp, .int .i64 P.ad, .int .i64 P.t0, .int .i64 P.t1, .int .i64 P.t2], .bool B6]) ∧ Below w.heap.size w w')
    : Calls Try.prog 6 #[.agg #[.int .i64 a.fr, .int .i64 a.to, .int .i64 a.kp, .int .i64 a.ad, .int .i64 a.t0, .int .i64 a.t1, .int .i64 a.t2], .agg #[.int .i64 b.fr, .int .i64 b.to, .int .i64 b.kp, .int .i64 b.ad, .int .i64 b.t0, .int .i64 b.t1, .int .i64 b.t2], .agg #[.int .i64 c.fr, .int .i64 c.to, .int .i64 c.kp, .int .i64 c.ad, .int .i64 c.t0, .int .i64 c.t1, .int .i64 c.t2], .agg #[.int .i64 t.d, .int .i64 t.e, .int .i64 t.x, .int .i64 t.y, .int .i64 t.z]] w fun e w' => e = .returned (.bool true) ∧ Below w.heap.size w w' := by
  have cw := fun w => works_any w
  have C1 := Lib.hid c1; have C2 := Lib.hid c2; have C3 := Lib.hid c3; have C5 := Lib.hid c5; have CW := Lib.hid cw; have CR := Lib.hid cr; have C4 := Lib.hid c4; have C6 := Lib.hid c6; have C7 := Lib.hid c7; clear c1 c2 c3 c5 cw cr c4 c6 c7
  cases B3
  case false =>
    have ha : HoldsM ((((w.alloc (.cells #[.int .i64 a.fr, .int .i64 a.to, .int .i64 a.kp, .int .i64 a.ad, .int .i64 a.t0, .int .i64 a.t1, .int .i64 a.t2] 24)).alloc (.cells #[.int .i64 b.fr, .int .i64 b.to, .int .i64 b.kp, .int .i64 b.ad, .int .i64 b.t0, .int .i64 b.t1, .int .i64 b.t2] 24)).alloc (.cells #[.int .i64 c.fr, .int .i64 c.to, .int .i64 c.kp, .int .i64 c.ad, .int .i64 c.t0, .int .i64 c.t1, .int .i64 c.t2] 24)).alloc (.cells #[.int .i64 t.d, .int .i64 t.e, .int .i64 t.x, .int .i64 t.y, .int .i64 t.z] 26)) w.heap.size 24 a := by
      have hq := Row.alloc (Row.alloc (Row.alloc (Row.made w 24 [.int .i64 a.fr, .int .i64 a.to, .int .i64 a.kp, .int .i64 a.ad, .int .i64 a.t0, .int .i64 a.t1, .int .i64 a.t2]) (.cells #[.int .i64 b.fr, .int .i64 b.to, .int .i64 b.kp, .int .i64 b.ad, .int .i64 b.t0, .int .i64 b.t1, .int .i64 b.t2] 24)) (.cells #[.int .i64 c.fr, .int .i64 c.to, .int .i64 c.kp, .int .i64 c.ad, .int .i64 c.t0, .int .i64 c.t1, .int .i64 c.t2] 24)) (.cells #[.int .i64 t.d, .int .i64 t.e, .int .i64 t.x, .int .i64 t.y, .int .i64 t.z] 26)
      exact hq
    have hb : HoldsM ((((w.alloc (.cells #[.int .i64 a.fr, .int .i64 a.to, .int .i64 a.kp, .int .i64 a.ad, .int .i64 a.t0, .int .i64 a.t1, .int .i64 a.t2] 24)).alloc (.cells #[.int .i64 b.fr, .int .i64 b.to, .int .i64 b.kp, .int .i64 b.ad, .int .i64 b.t0, .int .i64 b.t1, .int .i64 b.t2] 24)).alloc (.cells #[.int .i64 c.fr, .int .i64 c.to, .int .i64 c.kp, .int .i64 c.ad, .int .i64 c.t0, .int .i64 c.t1, .int .i64 c.t2] 24)).alloc (.cells #[.int .i64 t.d, .int .i64 t.e, .int .i64 t.x, .int .i64 t.y, .int .i64 t.z] 26)) (w.heap.size + 1) 24 b := by
      have hq := Row.alloc (Row.alloc (Row.made (w.alloc (.cells #[.int .i64 a.fr, .int .i64 a.to, .int .i64 a.kp, .int .i64 a.ad, .int .i64 a.t0, .int .i64 a.t1, .int .i64 a.t2] 24)) 24 [.int .i64 b.fr, .int .i64 b.to, .int .i64 b.kp, .int .i64 b.ad, .int .i64 b.t0, .int .i64 b.t1, .int .i64 b.t2]) (.cells #[.int .i64 c.fr, .int .i64 c.to, .int .i64 c.kp, .int .i64 c.ad, .int .i64 c.t0, .int .i64 c.t1, .int .i64 c.t2] 24)) (.cells #[.int .i64 t.d, .int .i64 t.e, .int .i64 t.x, .int .i64 t.y, .int .i64 t.z] 26)
      rw [size_alloc] at hq
      exact hq
    have hc : HoldsM ((((w.alloc (.cells #[.int .i64 a.fr, .int .i64 a.to, .int .i64 a.kp, .int .i64 a.ad, .int .i64 a.t0, .int .i64 a.t1, .int .i64 a.t2] 24)).alloc (.cells #[.int .i64 b.fr, .int .i64 b.to, .int .i64 b.kp, .int .i64 b.ad, .int .i64 b.t0, .int .i64 b.t1, .int .i64 b.t2] 24)).alloc (.cells #[.int .i64 c.fr, .int .i64 c.to, .int .i64 c.kp, .int .i64 c.ad, .int .i64 c.t0, .int .i64 c.t1, .int .i64 c.t2] 24)).alloc (.cells #[.int .i64 t.d, .int .i64 t.e, .int .i64 t.x, .int .i64 t.y, .int .i64 t.z] 26)) (w.heap.size + 1 + 1) 24 c := by
      have hq := Row.alloc (Row.made ((w.alloc (.cells #[.int .i64 a.fr, .int .i64 a.to, .int .i64 a.kp, .int .i64 a.ad, .int .i64 a.t0, .int .i64 a.t1, .int .i64 a.t2] 24)).alloc (.cells #[.int .i64 b.fr, .int .i64 b.to, .int .i64 b.kp, .int .i64 b.ad, .int .i64 b.t0, .int .i64 b.t1, .int .i64 b.t2] 24)) 24 [.int .i64 c.fr, .int .i64 c.to, .int .i64 c.kp, .int .i64 c.ad, .int .i64 c.t0, .int .i64 c.t1, .int .i64 c.t2]) (.cells #[.int .i64 t.d, .int .i64 t.e, .int .i64 t.x, .int .i64 t.y, .int .i64 t.z] 26)
      rw [size_alloc, size_alloc] at hq
      exact hq
    have ht : Holds ((((w.alloc (.cells #[.int .i64 a.fr, .int .i64 a.to, .int .i64 a.kp, .int .i64 a.ad, .int .i64 a.t0, .int .i64 a.t1, .int .i64 a.t2] 24)).alloc (.cells #[.int .i64 b.fr, .int .i64 b.to, .int .i64 b.kp, .int .i64 b.ad, .int .i64 b.t0, .int .i64 b.t1, .int .i64 b.t2] 24)).alloc (.cells #[.int .i64 c.fr, .int .i64 c.to, .int .i64 c.kp, .int .i64 c.ad, .int .i64 c.t0, .int .i64 c.t1, .int .i64 c.t2] 24)).alloc (.cells #[.int .i64 t.d, .int .i64 t.e, .int .i64 t.x, .int .i64 t.y, .int .i64 t.z] 26)) (w.heap.size + 1 + 1 + 1) t := by
      have hq := Row.made (((w.alloc (.cells #[.int .i64 a.fr, .int .i64 a.to, .int .i64 a.kp, .int .i64 a.ad, .int .i64 a.t0, .int .i64 a.t1, .int .i64 a.t2] 24)).alloc (.cells #[.int .i64 b.fr, .int .i64 b.to, .int .i64 b.kp, .int .i64 b.ad, .int .i64 b.t0, .int .i64 b.t1, .int .i64 b.t2] 24)).alloc (.cells #[.int .i64 c.fr, .int .i64 c.to, .int .i64 c.kp, .int .i64 c.ad, .int .i64 c.t0, .int .i64 c.t1, .int .i64 c.t2] 24)) 26 [.int .i64 t.d, .int .i64 t.e, .int .i64 t.x, .int .i64 t.y, .int .i64 t.z]
      rw [size_alloc, size_alloc, size_alloc] at hq
      exact hq
    have hbw : Below w.heap.size w ((((w.alloc (.cells #[.int .i64 a.fr, .int .i64 a.to, .int .i64 a.kp, .int .i64 a.ad, .int .i64 a.t0, .int .i64 a.t1, .int .i64 a.t2] 24)).alloc (.cells #[.int .i64 b.fr, .int .i64 b.to, .int .i64 b.kp, .int .i64 b.ad, .int .i64 b.t0, .int .i64 b.t1, .int .i64 b.t2] 24)).alloc (.cells #[.int .i64 c.fr, .int .i64 c.to, .int .i64 c.kp, .int .i64 c.ad, .int .i64 c.t0, .int .i64 c.t1, .int .i64 c.t2] 24)).alloc (.cells #[.int .i64 t.d, .int .i64 t.e, .int .i64 t.x, .int .i64 t.y, .int .i64 t.z] 26)) := ((((Below.refl _ _).alloc (by simp) _).alloc (by simp) _).alloc (by simp; omega) _).alloc (by simp; omega) _
    have Ha := Lib.hid ha; clear ha
    have Hb := Lib.hid hb; clear hb
    have Hc := Lib.hid hc; clear hc
    have Ht := Lib.hid ht; clear ht
    have HBW := Lib.hid hbw; clear hbw
    go_enter Try.func6, Try.ntmps6
    go_wp2_with fail
    generalize (((w.alloc (.cells #[.int .i64 a.fr, .int .i64 a.to, .int .i64 a.kp, .int .i64 a.ad, .int .i64 a.t0, .int .i64 a.t1, .int .i64 a.t2] 24)).alloc (.cells #[.int .i64 b.fr, .int .i64 b.to, .int .i64 b.kp, .int .i64 b.ad, .int .i64 b.t0, .int .i64 b.t1, .int .i64 b.t2] 24)).alloc (.cells #[.int .i64 c.fr, .int .i64 c.to, .int .i64 c.kp, .int .i64 c.ad, .int .i64 c.t0, .int .i64 c.t1, .int .i64 c.t2] 24)).alloc (.cells #[.int .i64 t.d, .int .i64 t.e, .int .i64 t.x, .int .i64 t.y, .int .i64 t.z] 26) = w0 at *
    have la := Ha.out.lt
    have lb := Hb.out.lt
    have lc := Hc.out.lt
    have lt := Ht.out.lt
    obtain ⟨ca0, ca1, ca2, ca3, ca4, ca5, ca6⟩ := Ha.out.cells7
    obtain ⟨cb0, cb1, cb2, cb3, cb4, cb5, cb6⟩ := Hb.out.cells7
    go_wp2_with fail
    clear la lb lc lt ca0 ca1 ca2 ca3 ca4 ca5 ca6 cb0 cb1 cb2 cb3 cb4 cb5 cb6
    refine (C1.out _).mono ?_; rintro e v1 ⟨rfl, hbel⟩
    dsimp only
    have ha := Ha.out.below hbel; clear Ha
    have hb := Hb.out.below hbel; clear Hb
    have hc := Hc.out.below hbel; clear Hc
    have ht := Ht.out.below hbel; clear Ht
    have hbw := HBW.out.trans (hbel.mono HBW.out.size); clear HBW hbel
    have Ha := Lib.hid ha; clear ha
    have Hb := Lib.hid hb; clear hb
    have Hc := Lib.hid hc; clear hc
    have Ht := Lib.hid ht; clear ht
    have HBW := Lib.hid hbw; clear hbw
    have la := Ha.out.lt
    have lb := Hb.out.lt
    have lc := Hc.out.lt
    have lt := Ht.out.lt
    obtain ⟨ca0, ca1, ca2, ca3, ca4, ca5, ca6⟩ := Ha.out.cells7
    obtain ⟨ct0, ct1, ct2, ct3, ct4⟩ := Ht.out.c5
    go_wp2_with fail
    clear la lb lc lt ca0 ca1 ca2 ca3 ca4 ca5 ca6 ct0 ct1 ct2 ct3 ct4
    have ha := Ha.out.alloc (.cells #[.int .i64 X.fr, .int .i64 X.to, .int .i64 X.kp, .int .i64 X.ad, .int .i64 X.t0, .int .i64 X.t1, .int .i64 X.t2] 24); clear Ha
    have hb := Hb.out.alloc (.cells #[.int .i64 X.fr, .int .i64 X.to, .int .i64 X.kp, .int .i64 X.ad, .int .i64 X.t0, .int .i64 X.t1, .int .i64 X.t2] 24); clear Hb
    have hc := Hc.out.alloc (.cells #[.int .i64 X.fr, .int .i64 X.to, .int .i64 X.kp, .int .i64 X.ad, .int .i64 X.t0, .int .i64 X.t1, .int .i64 X.t2] 24); clear Hc
    have ht := Ht.out.alloc (.cells #[.int .i64 X.fr, .int .i64 X.to, .int .i64 X.kp, .int .i64 X.ad, .int .i64 X.t0, .int .i64 X.t1, .int .i64 X.t2] 24); clear Ht
    have hx : HoldsM (v1.alloc (.cells #[.int .i64 X.fr, .int .i64 X.to, .int .i64 X.kp, .int .i64 X.ad, .int .i64 X.t0, .int .i64 X.t1, .int .i64 X.t2] 24)) v1.heap.size 24 X := Row.made v1 _ _
    have hbw := HBW.out.alloc HBW.out.size (.cells #[.int .i64 X.fr, .int .i64 X.to, .int .i64 X.kp, .int .i64 X.ad, .int .i64 X.t0, .int .i64 X.t1, .int .i64 X.t2] 24); clear HBW
    generalize v1.alloc (.cells #[.int .i64 X.fr, .int .i64 X.to, .int .i64 X.kp, .int .i64 X.ad, .int .i64 X.t0, .int .i64 X.t1, .int .i64 X.t2] 24) = v2 at *
    generalize v1.heap.size = gx at *
    have Ha := Lib.hid ha; clear ha
    have Hb := Lib.hid hb; clear hb
    have Hc := Lib.hid hc; clear hc
    have Ht := Lib.hid ht; clear ht
    have Hx := Lib.hid hx; clear hx
    have HBW := Lib.hid hbw; clear hbw
    refine (C2.out _).mono ?_; rintro e v3 ⟨rfl, hbel⟩
    dsimp only
    have ha := Ha.out.below hbel; clear Ha
    have hb := Hb.out.below hbel; clear Hb
    have hc := Hc.out.below hbel; clear Hc
    have ht := Ht.out.below hbel; clear Ht
    have hx := Hx.out.below hbel; clear Hx
    have hbw := HBW.out.trans (hbel.mono HBW.out.size); clear HBW hbel
    have Ha := Lib.hid ha; clear ha
    have Hb := Lib.hid hb; clear hb
    have Hc := Lib.hid hc; clear hc
    have Ht := Lib.hid ht; clear ht
    have Hx := Lib.hid hx; clear hx
    have HBW := Lib.hid hbw; clear hbw
    have la := Ha.out.lt
    have lb := Hb.out.lt
    have lc := Hc.out.lt
    have lt := Ht.out.lt
    have lx := Hx.out.lt
    obtain ⟨cb0, cb1, cb2, cb3, cb4, cb5, cb6⟩ := Hb.out.cells7
    go_wp2_with fail
    clear la lb lc lt lx cb0 cb1 cb2 cb3 cb4 cb5 cb6
    have ha := Ha.out.alloc (.cells #[.int .i64 U.d, .int .i64 U.e, .int .i64 U.x, .int .i64 U.y, .int .i64 U.z] 26); clear Ha
    have hb := Hb.out.alloc (.cells #[.int .i64 U.d, .int .i64 U.e, .int .i64 U.x, .int .i64 U.y, .int .i64 U.z] 26); clear Hb
    have hc := Hc.out.alloc (.cells #[.int .i64 U.d, .int .i64 U.e, .int .i64 U.x, .int .i64 U.y, .int .i64 U.z] 26); clear Hc
    have ht := Ht.out.alloc (.cells #[.int .i64 U.d, .int .i64 U.e, .int .i64 U.x, .int .i64 U.y, .int .i64 U.z] 26); clear Ht
    have hx := Hx.out.alloc (.cells #[.int .i64 U.d, .int .i64 U.e, .int .i64 U.x, .int .i64 U.y, .int .i64 U.z] 26); clear Hx
    have hu : Holds (v3.alloc (.cells #[.int .i64 U.d, .int .i64 U.e, .int .i64 U.x, .int .i64 U.y, .int .i64 U.z] 26)) v3.heap.size U := Row.made v3 _ _
    have hbw := HBW.out.alloc HBW.out.size (.cells #[.int .i64 U.d, .int .i64 U.e, .int .i64 U.x, .int .i64 U.y, .int .i64 U.z] 26); clear HBW
    generalize v3.alloc (.cells #[.int .i64 U.d, .int .i64 U.e, .int .i64 U.x, .int .i64 U.y, .int .i64 U.z] 26) = v4 at *
    generalize v3.heap.size = gu at *
    have Ha := Lib.hid ha; clear ha
    have Hb := Lib.hid hb; clear hb
    have Hc := Lib.hid hc; clear hc
    have Ht := Lib.hid ht; clear ht
    have Hx := Lib.hid hx; clear hx
    have Hu := Lib.hid hu; clear hu
    have HBW := Lib.hid hbw; clear hbw
    refine (C3.out _).mono ?_; rintro e v5 ⟨rfl, hbel⟩
    dsimp only
    have ha := Ha.out.below hbel; clear Ha
    have hb := Hb.out.below hbel; clear Hb
    have hc := Hc.out.below hbel; clear Hc
    have ht := Ht.out.below hbel; clear Ht
    have hx := Hx.out.below hbel; clear Hx
    have hu := Hu.out.below hbel; clear Hu
    have hbw := HBW.out.trans (hbel.mono HBW.out.size); clear HBW hbel
    have Ha := Lib.hid ha; clear ha
    have Hb := Lib.hid hb; clear hb
    have Hc := Lib.hid hc; clear hc
    have Ht := Lib.hid ht; clear ht
    have Hx := Lib.hid hx; clear hx
    have Hu := Lib.hid hu; clear hu
    have HBW := Lib.hid hbw; clear hbw
    have la := Ha.out.lt
    have lb := Hb.out.lt
    have lc := Hc.out.lt
    have lt := Ht.out.lt
    have lx := Hx.out.lt
    have lu := Hu.out.lt
    obtain ⟨cb0, cb1, cb2, cb3, cb4, cb5, cb6⟩ := Hb.out.cells7
    go_wp2_with fail
    clear la lb lc lt lx lu cb0 cb1 cb2 cb3 cb4 cb5 cb6
    have ha := Ha.out.alloc (.cells #[.int .i64 V.d, .int .i64 V.e, .int .i64 V.x, .int .i64 V.y, .int .i64 V.z] 26); clear Ha
    have hb := Hb.out.alloc (.cells #[.int .i64 V.d, .int .i64 V.e, .int .i64 V.x, .int .i64 V.y, .int .i64 V.z] 26); clear Hb
    have hc := Hc.out.alloc (.cells #[.int .i64 V.d, .int .i64 V.e, .int .i64 V.x, .int .i64 V.y, .int .i64 V.z] 26); clear Hc
    have ht := Ht.out.alloc (.cells #[.int .i64 V.d, .int .i64 V.e, .int .i64 V.x, .int .i64 V.y, .int .i64 V.z] 26); clear Ht
    have hx := Hx.out.alloc (.cells #[.int .i64 V.d, .int .i64 V.e, .int .i64 V.x, .int .i64 V.y, .int .i64 V.z] 26); clear Hx
    have hu := Hu.out.alloc (.cells #[.int .i64 V.d, .int .i64 V.e, .int .i64 V.x, .int .i64 V.y, .int .i64 V.z] 26); clear Hu
    have hv : Holds (v5.alloc (.cells #[.int .i64 V.d, .int .i64 V.e, .int .i64 V.x, .int .i64 V.y, .int .i64 V.z] 26)) v5.heap.size V := Row.made v5 _ _
    have hbw := HBW.out.alloc HBW.out.size (.cells #[.int .i64 V.d, .int .i64 V.e, .int .i64 V.x, .int .i64 V.y, .int .i64 V.z] 26); clear HBW
    generalize v5.alloc (.cells #[.int .i64 V.d, .int .i64 V.e, .int .i64 V.x, .int .i64 V.y, .int .i64 V.z] 26) = v6 at *
    generalize v5.heap.size = gv at *
    have Ha := Lib.hid ha; clear ha
    have Hb := Lib.hid hb; clear hb
    have Hc := Lib.hid hc; clear hc
    have Ht := Lib.hid ht; clear ht
    have Hx := Lib.hid hx; clear hx
    have Hu := Lib.hid hu; clear hu
    have Hv := Lib.hid hv; clear hv
    have HBW := Lib.hid hbw; clear hbw
    refine (CR.out _).mono ?_; rintro e v7 ⟨rfl, hbel⟩
    dsimp only
    have ha := Ha.out.below hbel; clear Ha
    have hb := Hb.out.below hbel; clear Hb
    have hc := Hc.out.below hbel; clear Hc
    have ht := Ht.out.below hbel; clear Ht
    have hx := Hx.out.below hbel; clear Hx
    have hu := Hu.out.below hbel; clear Hu
    have hv := Hv.out.below hbel; clear Hv
    have hbw := HBW.out.trans (hbel.mono HBW.out.size); clear HBW hbel
    have Ha := Lib.hid ha; clear ha
    have Hb := Lib.hid hb; clear hb
    have Hc := Lib.hid hc; clear hc
    have Ht := Lib.hid ht; clear ht
    have Hx := Lib.hid hx; clear hx
    have Hu := Lib.hid hu; clear hu
    have Hv := Lib.hid hv; clear hv
    have HBW := Lib.hid hbw; clear hbw
    have la := Ha.out.lt
    have lb := Hb.out.lt
    have lc := Hc.out.lt
    have lt := Ht.out.lt
    have lx := Hx.out.lt
    have lu := Hu.out.lt
    have lv := Hv.out.lt
    obtain ⟨ct0, ct1, ct2, ct3, ct4⟩ := Ht.out.c5
    obtain ⟨cx0, cx1, cx2, cx3, cx4, cx5, cx6⟩ := Hx.out.cells7
    go_wp2_with fail
    clear la lb lc lt lx lu lv ct0 ct1 ct2 ct3 ct4 cx0 cx1 cx2 cx3 cx4 cx5 cx6
    refine (C4.out _).mono ?_; rintro e v8 ⟨rfl, hbel⟩
    dsimp only
    have ha := Ha.out.below hbel; clear Ha
    have hb := Hb.out.below hbel; clear Hb
    have hc := Hc.out.below hbel; clear Hc
    have ht := Ht.out.below hbel; clear Ht
    have hx := Hx.out.below hbel; clear Hx
    have hu := Hu.out.below hbel; clear Hu
    have hv := Hv.out.below hbel; clear Hv
    have hbw := HBW.out.trans (hbel.mono HBW.out.size); clear HBW hbel
    have Ha := Lib.hid ha; clear ha
    have Hb := Lib.hid hb; clear hb
    have Hc := Lib.hid hc; clear hc
    have Ht := Lib.hid ht; clear ht
    have Hx := Lib.hid hx; clear hx
    have Hu := Lib.hid hu; clear hu
    have Hv := Lib.hid hv; clear hv
    have HBW := Lib.hid hbw; clear hbw
    have he : ∀ w, (Op.equalIn 10000 26 (.agg #[.int .i64 V.d, .int .i64 V.e, .int .i64 V.x, .int .i64 V.y, .int .i64 V.z]) (.agg #[.int .i64 V.d, .int .i64 V.e, .int .i64 V.x, .int .i64 V.y, .int .i64 V.z])).run Try.prog w = .ok true w := fun w => by
      have hq := run_eq5 V V w
      rw [decide_eq_true rfl] at hq
      exact hq
    have la := Ha.out.lt
    have lb := Hb.out.lt
    have lc := Hc.out.lt
    have lt := Ht.out.lt
    have lx := Hx.out.lt
    have lu := Hu.out.lt
    have lv := Hv.out.lt
    obtain ⟨cb0, cb1, cb2, cb3, cb4, cb5, cb6⟩ := Hb.out.cells7
    obtain ⟨cc0, cc1, cc2, cc3, cc4, cc5, cc6⟩ := Hc.out.cells7
    obtain ⟨cv0, cv1, cv2, cv3, cv4⟩ := Hv.out.c5
    go_wp2_with fail
    clear la lb lc lt lx lu lv cb0 cb1 cb2 cb3 cb4 cb5 cb6 cc0 cc1 cc2 cc3 cc4 cc5 cc6 cv0 cv1 cv2 cv3 cv4
    have ha := Ha.out.alloc (.cells #[.int .i64 V.d, .int .i64 V.e, .int .i64 V.x, .int .i64 V.y, .int .i64 V.z] 26); clear Ha
    have hb := Hb.out.alloc (.cells #[.int .i64 V.d, .int .i64 V.e, .int .i64 V.x, .int .i64 V.y, .int .i64 V.z] 26); clear Hb
    have hc := Hc.out.alloc (.cells #[.int .i64 V.d, .int .i64 V.e, .int .i64 V.x, .int .i64 V.y, .int .i64 V.z] 26); clear Hc
    have ht := Ht.out.alloc (.cells #[.int .i64 V.d, .int .i64 V.e, .int .i64 V.x, .int .i64 V.y, .int .i64 V.z] 26); clear Ht
    have hx := Hx.out.alloc (.cells #[.int .i64 V.d, .int .i64 V.e, .int .i64 V.x, .int .i64 V.y, .int .i64 V.z] 26); clear Hx
    have hu := Hu.out.alloc (.cells #[.int .i64 V.d, .int .i64 V.e, .int .i64 V.x, .int .i64 V.y, .int .i64 V.z] 26); clear Hu
    have hv := Hv.out.alloc (.cells #[.int .i64 V.d, .int .i64 V.e, .int .i64 V.x, .int .i64 V.y, .int .i64 V.z] 26); clear Hv
    have hw2 : Holds (v8.alloc (.cells #[.int .i64 V.d, .int .i64 V.e, .int .i64 V.x, .int .i64 V.y, .int .i64 V.z] 26)) v8.heap.size V := Row.made v8 _ _
    have hbw := HBW.out.alloc HBW.out.size (.cells #[.int .i64 V.d, .int .i64 V.e, .int .i64 V.x, .int .i64 V.y, .int .i64 V.z] 26); clear HBW
    generalize v8.alloc (.cells #[.int .i64 V.d, .int .i64 V.e, .int .i64 V.x, .int .i64 V.y, .int .i64 V.z] 26) = v9 at *
    generalize v8.heap.size = gw2 at *
    have Ha := Lib.hid ha; clear ha
    have Hb := Lib.hid hb; clear hb
    have Hc := Lib.hid hc; clear hc
    have Ht := Lib.hid ht; clear ht
    have Hx := Lib.hid hx; clear hx
    have Hu := Lib.hid hu; clear hu
    have Hv := Lib.hid hv; clear hv
    have Hw2 := Lib.hid hw2; clear hw2
    have HBW := Lib.hid hbw; clear hbw
    refine (C5.out _).mono ?_; rintro e v10 ⟨rfl, hbel⟩
    dsimp only
    have ha := Ha.out.below hbel; clear Ha
    have hb := Hb.out.below hbel; clear Hb
    have hc := Hc.out.below hbel; clear Hc
    have ht := Ht.out.below hbel; clear Ht
    have hx := Hx.out.below hbel; clear Hx
    have hu := Hu.out.below hbel; clear Hu
    have hv := Hv.out.below hbel; clear Hv
    have hw2 := Hw2.out.below hbel; clear Hw2
    have hbw := HBW.out.trans (hbel.mono HBW.out.size); clear HBW hbel
    have Ha := Lib.hid ha; clear ha
    have Hb := Lib.hid hb; clear hb
    have Hc := Lib.hid hc; clear hc
    have Ht := Lib.hid ht; clear ht
    have Hx := Lib.hid hx; clear hx
    have Hu := Lib.hid hu; clear hu
    have Hv := Lib.hid hv; clear hv
    have Hw2 := Lib.hid hw2; clear hw2
    have HBW := Lib.hid hbw; clear hbw
    have la := Ha.out.lt
    have lb := Hb.out.lt
    have lc := Hc.out.lt
    have lt := Ht.out.lt
    have lx := Hx.out.lt
    have lu := Hu.out.lt
    have lv := Hv.out.lt
    have lw2 := Hw2.out.lt
    obtain ⟨cc0, cc1, cc2, cc3, cc4, cc5, cc6⟩ := Hc.out.cells7
    obtain ⟨cx0, cx1, cx2, cx3, cx4, cx5, cx6⟩ := Hx.out.cells7
    go_wp2_with fail
    clear la lb lc lt lx lu lv lw2 cc0 cc1 cc2 cc3 cc4 cc5 cc6 cx0 cx1 cx2 cx3 cx4 cx5 cx6
    have ha := Ha.out.alloc (.cells #[.int .i64 Y.fr, .int .i64 Y.to, .int .i64 Y.kp, .int .i64 Y.ad, .int .i64 Y.t0, .int .i64 Y.t1, .int .i64 Y.t2] 24); clear Ha
    have hb := Hb.out.alloc (.cells #[.int .i64 Y.fr, .int .i64 Y.to, .int .i64 Y.kp, .int .i64 Y.ad, .int .i64 Y.t0, .int .i64 Y.t1, .int .i64 Y.t2] 24); clear Hb
    have hc := Hc.out.alloc (.cells #[.int .i64 Y.fr, .int .i64 Y.to, .int .i64 Y.kp, .int .i64 Y.ad, .int .i64 Y.t0, .int .i64 Y.t1, .int .i64 Y.t2] 24); clear Hc
    have ht := Ht.out.alloc (.cells #[.int .i64 Y.fr, .int .i64 Y.to, .int .i64 Y.kp, .int .i64 Y.ad, .int .i64 Y.t0, .int .i64 Y.t1, .int .i64 Y.t2] 24); clear Ht
    have hx := Hx.out.alloc (.cells #[.int .i64 Y.fr, .int .i64 Y.to, .int .i64 Y.kp, .int .i64 Y.ad, .int .i64 Y.t0, .int .i64 Y.t1, .int .i64 Y.t2] 24); clear Hx
    have hu := Hu.out.alloc (.cells #[.int .i64 Y.fr, .int .i64 Y.to, .int .i64 Y.kp, .int .i64 Y.ad, .int .i64 Y.t0, .int .i64 Y.t1, .int .i64 Y.t2] 24); clear Hu
    have hv := Hv.out.alloc (.cells #[.int .i64 Y.fr, .int .i64 Y.to, .int .i64 Y.kp, .int .i64 Y.ad, .int .i64 Y.t0, .int .i64 Y.t1, .int .i64 Y.t2] 24); clear Hv
    have hw2 := Hw2.out.alloc (.cells #[.int .i64 Y.fr, .int .i64 Y.to, .int .i64 Y.kp, .int .i64 Y.ad, .int .i64 Y.t0, .int .i64 Y.t1, .int .i64 Y.t2] 24); clear Hw2
    have hy : HoldsM (v10.alloc (.cells #[.int .i64 Y.fr, .int .i64 Y.to, .int .i64 Y.kp, .int .i64 Y.ad, .int .i64 Y.t0, .int .i64 Y.t1, .int .i64 Y.t2] 24)) v10.heap.size 24 Y := Row.made v10 _ _
    have hbw := HBW.out.alloc HBW.out.size (.cells #[.int .i64 Y.fr, .int .i64 Y.to, .int .i64 Y.kp, .int .i64 Y.ad, .int .i64 Y.t0, .int .i64 Y.t1, .int .i64 Y.t2] 24); clear HBW
    generalize v10.alloc (.cells #[.int .i64 Y.fr, .int .i64 Y.to, .int .i64 Y.kp, .int .i64 Y.ad, .int .i64 Y.t0, .int .i64 Y.t1, .int .i64 Y.t2] 24) = v11 at *
    generalize v10.heap.size = gy at *
    have Ha := Lib.hid ha; clear ha
    have Hb := Lib.hid hb; clear hb
    have Hc := Lib.hid hc; clear hc
    have Ht := Lib.hid ht; clear ht
    have Hx := Lib.hid hx; clear hx
    have Hu := Lib.hid hu; clear hu
    have Hv := Lib.hid hv; clear hv
    have Hw2 := Lib.hid hw2; clear hw2
    have Hy := Lib.hid hy; clear hy
    have HBW := Lib.hid hbw; clear hbw
    refine (C6.out _).mono ?_; rintro e v12 ⟨rfl, hbel⟩
    dsimp only
    have ha := Ha.out.below hbel; clear Ha
    have hb := Hb.out.below hbel; clear Hb
    have hc := Hc.out.below hbel; clear Hc
    have ht := Ht.out.below hbel; clear Ht
    have hx := Hx.out.below hbel; clear Hx
    have hu := Hu.out.below hbel; clear Hu
    have hv := Hv.out.below hbel; clear Hv
    have hw2 := Hw2.out.below hbel; clear Hw2
    have hy := Hy.out.below hbel; clear Hy
    have hbw := HBW.out.trans (hbel.mono HBW.out.size); clear HBW hbel
    have Ha := Lib.hid ha; clear ha
    have Hb := Lib.hid hb; clear hb
    have Hc := Lib.hid hc; clear hc
    have Ht := Lib.hid ht; clear ht
    have Hx := Lib.hid hx; clear hx
    have Hu := Lib.hid hu; clear hu
    have Hv := Lib.hid hv; clear hv
    have Hw2 := Lib.hid hw2; clear hw2
    have Hy := Lib.hid hy; clear hy
    have HBW := Lib.hid hbw; clear hbw
    have la := Ha.out.lt
    have lb := Hb.out.lt
    have lc := Hc.out.lt
    have lt := Ht.out.lt
    have lx := Hx.out.lt
    have lu := Hu.out.lt
    have lv := Hv.out.lt
    have lw2 := Hw2.out.lt
    have ly := Hy.out.lt
    obtain ⟨ca0, ca1, ca2, ca3, ca4, ca5, ca6⟩ := Ha.out.cells7
    obtain ⟨cy0, cy1, cy2, cy3, cy4, cy5, cy6⟩ := Hy.out.cells7
    go_wp2_with fail
    clear la lb lc lt lx lu lv lw2 ly ca0 ca1 ca2 ca3 ca4 ca5 ca6 cy0 cy1 cy2 cy3 cy4 cy5 cy6
    have ha := Ha.out.alloc (.cells #[.int .i64 P.fr, .int .i64 P.to, .int .i64 P.kp, .int .i64 P.ad, .int .i64 P.t0, .int .i64 P.t1, .int .i64 P.t2] 24); clear Ha
    have hb := Hb.out.alloc (.cells #[.int .i64 P.fr, .int .i64 P.to, .int .i64 P.kp, .int .i64 P.ad, .int .i64 P.t0, .int .i64 P.t1, .int .i64 P.t2] 24); clear Hb
    have hc := Hc.out.alloc (.cells #[.int .i64 P.fr, .int .i64 P.to, .int .i64 P.kp, .int .i64 P.ad, .int .i64 P.t0, .int .i64 P.t1, .int .i64 P.t2] 24); clear Hc
    have ht := Ht.out.alloc (.cells #[.int .i64 P.fr, .int .i64 P.to, .int .i64 P.kp, .int .i64 P.ad, .int .i64 P.t0, .int .i64 P.t1, .int .i64 P.t2] 24); clear Ht
    have hx := Hx.out.alloc (.cells #[.int .i64 P.fr, .int .i64 P.to, .int .i64 P.kp, .int .i64 P.ad, .int .i64 P.t0, .int .i64 P.t1, .int .i64 P.t2] 24); clear Hx
    have hu := Hu.out.alloc (.cells #[.int .i64 P.fr, .int .i64 P.to, .int .i64 P.kp, .int .i64 P.ad, .int .i64 P.t0, .int .i64 P.t1, .int .i64 P.t2] 24); clear Hu
    have hv := Hv.out.alloc (.cells #[.int .i64 P.fr, .int .i64 P.to, .int .i64 P.kp, .int .i64 P.ad, .int .i64 P.t0, .int .i64 P.t1, .int .i64 P.t2] 24); clear Hv
    have hw2 := Hw2.out.alloc (.cells #[.int .i64 P.fr, .int .i64 P.to, .int .i64 P.kp, .int .i64 P.ad, .int .i64 P.t0, .int .i64 P.t1, .int .i64 P.t2] 24); clear Hw2
    have hy := Hy.out.alloc (.cells #[.int .i64 P.fr, .int .i64 P.to, .int .i64 P.kp, .int .i64 P.ad, .int .i64 P.t0, .int .i64 P.t1, .int .i64 P.t2] 24); clear Hy
    have hp : HoldsM (v12.alloc (.cells #[.int .i64 P.fr, .int .i64 P.to, .int .i64 P.kp, .int .i64 P.ad, .int .i64 P.t0, .int .i64 P.t1, .int .i64 P.t2] 24)) v12.heap.size 24 P := Row.made v12 _ _
    have hbw := HBW.out.alloc HBW.out.size (.cells #[.int .i64 P.fr, .int .i64 P.to, .int .i64 P.kp, .int .i64 P.ad, .int .i64 P.t0, .int .i64 P.t1, .int .i64 P.t2] 24); clear HBW
    generalize v12.alloc (.cells #[.int .i64 P.fr, .int .i64 P.to, .int .i64 P.kp, .int .i64 P.ad, .int .i64 P.t0, .int .i64 P.t1, .int .i64 P.t2] 24) = v13 at *
    generalize v12.heap.size = gp at *
    have Ha := Lib.hid ha; clear ha
    have Hb := Lib.hid hb; clear hb
    have Hc := Lib.hid hc; clear hc
    have Ht := Lib.hid ht; clear ht
    have Hx := Lib.hid hx; clear hx
    have Hu := Lib.hid hu; clear hu
    have Hv := Lib.hid hv; clear hv
    have Hw2 := Lib.hid hw2; clear hw2
    have Hy := Lib.hid hy; clear hy
    have Hp := Lib.hid hp; clear hp
    have HBW := Lib.hid hbw; clear hbw
    refine (C7.out _).mono ?_; rintro e v14 ⟨rfl, hbel⟩
    dsimp only
    have ha := Ha.out.below hbel; clear Ha
    have hb := Hb.out.below hbel; clear Hb
    have hc := Hc.out.below hbel; clear Hc
    have ht := Ht.out.below hbel; clear Ht
    have hx := Hx.out.below hbel; clear Hx
    have hu := Hu.out.below hbel; clear Hu
    have hv := Hv.out.below hbel; clear Hv
    have hw2 := Hw2.out.below hbel; clear Hw2
    have hy := Hy.out.below hbel; clear Hy
    have hp := Hp.out.below hbel; clear Hp
    have hbw := HBW.out.trans (hbel.mono HBW.out.size); clear HBW hbel
    have Ha := Lib.hid ha; clear ha
    have Hb := Lib.hid hb; clear hb
    have Hc := Lib.hid hc; clear hc
    have Ht := Lib.hid ht; clear ht
    have Hx := Lib.hid hx; clear hx
    have Hu := Lib.hid hu; clear hu
    have Hv := Lib.hid hv; clear hv
    have Hw2 := Lib.hid hw2; clear hw2
    have Hy := Lib.hid hy; clear hy
    have Hp := Lib.hid hp; clear hp
    have HBW := Lib.hid hbw; clear hbw
    have he : ∀ w, (Op.equalIn 10000 24 (.agg #[.int .i64 P.fr, .int .i64 P.to, .int .i64 P.kp, .int .i64 P.ad, .int .i64 P.t0, .int .i64 P.t1, .int .i64 P.t2]) (.agg #[.int .i64 P.fr, .int .i64 P.to, .int .i64 P.kp, .int .i64 P.ad, .int .i64 P.t0, .int .i64 P.t1, .int .i64 P.t2])).run Try.prog w = .ok true w := fun w => by
      have hq := run_eq7 P P w
      rw [decide_eq_true rfl] at hq
      exact hq
    have la := Ha.out.lt
    have lb := Hb.out.lt
    have lc := Hc.out.lt
    have lt := Ht.out.lt
    have lx := Hx.out.lt
    have lu := Hu.out.lt
    have lv := Hv.out.lt
    have lw2 := Hw2.out.lt
    have ly := Hy.out.lt
    have lp := Hp.out.lt
    obtain ⟨cp0, cp1, cp2, cp3, cp4, cp5, cp6⟩ := Hp.out.cells7
    go_wp2_with fail
    clear la lb lc lt lx lu lv lw2 ly lp cp0 cp1 cp2 cp3 cp4 cp5 cp6
    have ha := Ha.out.alloc (.cells #[.int .i64 P.fr, .int .i64 P.to, .int .i64 P.kp, .int .i64 P.ad, .int .i64 P.t0, .int .i64 P.t1, .int .i64 P.t2] 24); clear Ha
    have hb := Hb.out.alloc (.cells #[.int .i64 P.fr, .int .i64 P.to, .int .i64 P.kp, .int .i64 P.ad, .int .i64 P.t0, .int .i64 P.t1, .int .i64 P.t2] 24); clear Hb
    have hc := Hc.out.alloc (.cells #[.int .i64 P.fr, .int .i64 P.to, .int .i64 P.kp, .int .i64 P.ad, .int .i64 P.t0, .int .i64 P.t1, .int .i64 P.t2] 24); clear Hc
    have ht := Ht.out.alloc (.cells #[.int .i64 P.fr, .int .i64 P.to, .int .i64 P.kp, .int .i64 P.ad, .int .i64 P.t0, .int .i64 P.t1, .int .i64 P.t2] 24); clear Ht
    have hx := Hx.out.alloc (.cells #[.int .i64 P.fr, .int .i64 P.to, .int .i64 P.kp, .int .i64 P.ad, .int .i64 P.t0, .int .i64 P.t1, .int .i64 P.t2] 24); clear Hx
    have hu := Hu.out.alloc (.cells #[.int .i64 P.fr, .int .i64 P.to, .int .i64 P.kp, .int .i64 P.ad, .int .i64 P.t0, .int .i64 P.t1, .int .i64 P.t2] 24); clear Hu
    have hv := Hv.out.alloc (.cells #[.int .i64 P.fr, .int .i64 P.to, .int .i64 P.kp, .int .i64 P.ad, .int .i64 P.t0, .int .i64 P.t1, .int .i64 P.t2] 24); clear Hv
    have hw2 := Hw2.out.alloc (.cells #[.int .i64 P.fr, .int .i64 P.to, .int .i64 P.kp, .int .i64 P.ad, .int .i64 P.t0, .int .i64 P.t1, .int .i64 P.t2] 24); clear Hw2
    have hy := Hy.out.alloc (.cells #[.int .i64 P.fr, .int .i64 P.to, .int .i64 P.kp, .int .i64 P.ad, .int .i64 P.t0, .int .i64 P.t1, .int .i64 P.t2] 24); clear Hy
    have hp := Hp.out.alloc (.cells #[.int .i64 P.fr, .int .i64 P.to, .int .i64 P.kp, .int .i64 P.ad, .int .i64 P.t0, .int .i64 P.t1, .int .i64 P.t2] 24); clear Hp
    have hq : HoldsM (v14.alloc (.cells #[.int .i64 P.fr, .int .i64 P.to, .int .i64 P.kp, .int .i64 P.ad, .int .i64 P.t0, .int .i64 P.t1, .int .i64 P.t2] 24)) v14.heap.size 24 P := Row.made v14 _ _
    have hbw := HBW.out.alloc HBW.out.size (.cells #[.int .i64 P.fr, .int .i64 P.to, .int .i64 P.kp, .int .i64 P.ad, .int .i64 P.t0, .int .i64 P.t1, .int .i64 P.t2] 24); clear HBW
    generalize v14.alloc (.cells #[.int .i64 P.fr, .int .i64 P.to, .int .i64 P.kp, .int .i64 P.ad, .int .i64 P.t0, .int .i64 P.t1, .int .i64 P.t2] 24) = v15 at *
    generalize v14.heap.size = gq at *
    have Ha := Lib.hid ha; clear ha
    have Hb := Lib.hid hb; clear hb
    have Hc := Lib.hid hc; clear hc
    have Ht := Lib.hid ht; clear ht
    have Hx := Lib.hid hx; clear hx
    have Hu := Lib.hid hu; clear hu
    have Hv := Lib.hid hv; clear hv
    have Hw2 := Lib.hid hw2; clear hw2
    have Hy := Lib.hid hy; clear hy
    have Hp := Lib.hid hp; clear hp
    have Hq := Lib.hid hq; clear hq
    have HBW := Lib.hid hbw; clear hbw
    refine (CW.out _).mono ?_; rintro e v16 ⟨rfl, hbel⟩
    dsimp only
    have ha := Ha.out.below hbel; clear Ha
    have hb := Hb.out.below hbel; clear Hb
    have hc := Hc.out.below hbel; clear Hc
    have ht := Ht.out.below hbel; clear Ht
    have hx := Hx.out.below hbel; clear Hx
    have hu := Hu.out.below hbel; clear Hu
    have hv := Hv.out.below hbel; clear Hv
    have hw2 := Hw2.out.below hbel; clear Hw2
    have hy := Hy.out.below hbel; clear Hy
    have hp := Hp.out.below hbel; clear Hp
    have hq := Hq.out.below hbel; clear Hq
    have hbw := HBW.out.trans (hbel.mono HBW.out.size); clear HBW hbel
    have Ha := Lib.hid ha; clear ha
    have Hb := Lib.hid hb; clear hb
    have Hc := Lib.hid hc; clear hc
    have Ht := Lib.hid ht; clear ht
    have Hx := Lib.hid hx; clear hx
    have Hu := Lib.hid hu; clear hu
    have Hv := Lib.hid hv; clear hv
    have Hw2 := Lib.hid hw2; clear hw2
    have Hy := Lib.hid hy; clear hy
    have Hp := Lib.hid hp; clear hp
    have Hq := Lib.hid hq; clear hq
    have HBW := Lib.hid hbw; clear hbw
    have la := Ha.out.lt
    have lb := Hb.out.lt
    have lc := Hc.out.lt
    have lt := Ht.out.lt
    have lx := Hx.out.lt
    have lu := Hu.out.lt
    have lv := Hv.out.lt
    have lw2 := Hw2.out.lt
    have ly := Hy.out.lt
    have lp := Hp.out.lt
    have lq := Hq.out.lt
    go_wp2_with fail
    clear la lb lc lt lx lu lv lw2 ly lp lq
    go_ret
    exact ⟨rfl, HBW.out⟩
  case true =>
    have ha : HoldsM ((((w.alloc (.cells #[.int .i64 a.fr, .int .i64 a.to, .int .i64 a.kp, .int .i64 a.ad, .int .i64 a.t0, .int .i64 a.t1, .int .i64 a.t2] 24)).alloc (.cells #[.int .i64 b.fr, .int .i64 b.to, .int .i64 b.kp, .int .i64 b.ad, .int .i64 b.t0, .int .i64 b.t1, .int .i64 b.t2] 24)).alloc (.cells #[.int .i64 c.fr, .int .i64 c.to, .int .i64 c.kp, .int .i64 c.ad, .int .i64 c.t0, .int .i64 c.t1, .int .i64 c.t2] 24)).alloc (.cells #[.int .i64 t.d, .int .i64 t.e, .int .i64 t.x, .int .i64 t.y, .int .i64 t.z] 26)) w.heap.size 24 a := by
      have hq := Row.alloc (Row.alloc (Row.alloc (Row.made w 24 [.int .i64 a.fr, .int .i64 a.to, .int .i64 a.kp, .int .i64 a.ad, .int .i64 a.t0, .int .i64 a.t1, .int .i64 a.t2]) (.cells #[.int .i64 b.fr, .int .i64 b.to, .int .i64 b.kp, .int .i64 b.ad, .int .i64 b.t0, .int .i64 b.t1, .int .i64 b.t2] 24)) (.cells #[.int .i64 c.fr, .int .i64 c.to, .int .i64 c.kp, .int .i64 c.ad, .int .i64 c.t0, .int .i64 c.t1, .int .i64 c.t2] 24)) (.cells #[.int .i64 t.d, .int .i64 t.e, .int .i64 t.x, .int .i64 t.y, .int .i64 t.z] 26)
      exact hq
    have hb : HoldsM ((((w.alloc (.cells #[.int .i64 a.fr, .int .i64 a.to, .int .i64 a.kp, .int .i64 a.ad, .int .i64 a.t0, .int .i64 a.t1, .int .i64 a.t2] 24)).alloc (.cells #[.int .i64 b.fr, .int .i64 b.to, .int .i64 b.kp, .int .i64 b.ad, .int .i64 b.t0, .int .i64 b.t1, .int .i64 b.t2] 24)).alloc (.cells #[.int .i64 c.fr, .int .i64 c.to, .int .i64 c.kp, .int .i64 c.ad, .int .i64 c.t0, .int .i64 c.t1, .int .i64 c.t2] 24)).alloc (.cells #[.int .i64 t.d, .int .i64 t.e, .int .i64 t.x, .int .i64 t.y, .int .i64 t.z] 26)) (w.heap.size + 1) 24 b := by
      have hq := Row.alloc (Row.alloc (Row.made (w.alloc (.cells #[.int .i64 a.fr, .int .i64 a.to, .int .i64 a.kp, .int .i64 a.ad, .int .i64 a.t0, .int .i64 a.t1, .int .i64 a.t2] 24)) 24 [.int .i64 b.fr, .int .i64 b.to, .int .i64 b.kp, .int .i64 b.ad, .int .i64 b.t0, .int .i64 b.t1, .int .i64 b.t2]) (.cells #[.int .i64 c.fr, .int .i64 c.to, .int .i64 c.kp, .int .i64 c.ad, .int .i64 c.t0, .int .i64 c.t1, .int .i64 c.t2] 24)) (.cells #[.int .i64 t.d, .int .i64 t.e, .int .i64 t.x, .int .i64 t.y, .int .i64 t.z] 26)
      rw [size_alloc] at hq
      exact hq
    have hc : HoldsM ((((w.alloc (.cells #[.int .i64 a.fr, .int .i64 a.to, .int .i64 a.kp, .int .i64 a.ad, .int .i64 a.t0, .int .i64 a.t1, .int .i64 a.t2] 24)).alloc (.cells #[.int .i64 b.fr, .int .i64 b.to, .int .i64 b.kp, .int .i64 b.ad, .int .i64 b.t0, .int .i64 b.t1, .int .i64 b.t2] 24)).alloc (.cells #[.int .i64 c.fr, .int .i64 c.to, .int .i64 c.kp, .int .i64 c.ad, .int .i64 c.t0, .int .i64 c.t1, .int .i64 c.t2] 24)).alloc (.cells #[.int .i64 t.d, .int .i64 t.e, .int .i64 t.x, .int .i64 t.y, .int .i64 t.z] 26)) (w.heap.size + 1 + 1) 24 c := by
      have hq := Row.alloc (Row.made ((w.alloc (.cells #[.int .i64 a.fr, .int .i64 a.to, .int .i64 a.kp, .int .i64 a.ad, .int .i64 a.t0, .int .i64 a.t1, .int .i64 a.t2] 24)).alloc (.cells #[.int .i64 b.fr, .int .i64 b.to, .int .i64 b.kp, .int .i64 b.ad, .int .i64 b.t0, .int .i64 b.t1, .int .i64 b.t2] 24)) 24 [.int .i64 c.fr, .int .i64 c.to, .int .i64 c.kp, .int .i64 c.ad, .int .i64 c.t0, .int .i64 c.t1, .int .i64 c.t2]) (.cells #[.int .i64 t.d, .int .i64 t.e, .int .i64 t.x, .int .i64 t.y, .int .i64 t.z] 26)
      rw [size_alloc, size_alloc] at hq
      exact hq
    have ht : Holds ((((w.alloc (.cells #[.int .i64 a.fr, .int .i64 a.to, .int .i64 a.kp, .int .i64 a.ad, .int .i64 a.t0, .int .i64 a.t1, .int .i64 a.t2] 24)).alloc (.cells #[.int .i64 b.fr, .int .i64 b.to, .int .i64 b.kp, .int .i64 b.ad, .int .i64 b.t0, .int .i64 b.t1, .int .i64 b.t2] 24)).alloc (.cells #[.int .i64 c.fr, .int .i64 c.to, .int .i64 c.kp, .int .i64 c.ad, .int .i64 c.t0, .int .i64 c.t1, .int .i64 c.t2] 24)).alloc (.cells #[.int .i64 t.d, .int .i64 t.e, .int .i64 t.x, .int .i64 t.y, .int .i64 t.z] 26)) (w.heap.size + 1 + 1 + 1) t := by
      have hq := Row.made (((w.alloc (.cells #[.int .i64 a.fr, .int .i64 a.to, .int .i64 a.kp, .int .i64 a.ad, .int .i64 a.t0, .int .i64 a.t1, .int .i64 a.t2] 24)).alloc (.cells #[.int .i64 b.fr, .int .i64 b.to, .int .i64 b.kp, .int .i64 b.ad, .int .i64 b.t0, .int .i64 b.t1, .int .i64 b.t2] 24)).alloc (.cells #[.int .i64 c.fr, .int .i64 c.to, .int .i64 c.kp, .int .i64 c.ad, .int .i64 c.t0, .int .i64 c.t1, .int .i64 c.t2] 24)) 26 [.int .i64 t.d, .int .i64 t.e, .int .i64 t.x, .int .i64 t.y, .int .i64 t.z]
      rw [size_alloc, size_alloc, size_alloc] at hq
      exact hq
    have hbw : Below w.heap.size w ((((w.alloc (.cells #[.int .i64 a.fr, .int .i64 a.to, .int .i64 a.kp, .int .i64 a.ad, .int .i64 a.t0, .int .i64 a.t1, .int .i64 a.t2] 24)).alloc (.cells #[.int .i64 b.fr, .int .i64 b.to, .int .i64 b.kp, .int .i64 b.ad, .int .i64 b.t0, .int .i64 b.t1, .int .i64 b.t2] 24)).alloc (.cells #[.int .i64 c.fr, .int .i64 c.to, .int .i64 c.kp, .int .i64 c.ad, .int .i64 c.t0, .int .i64 c.t1, .int .i64 c.t2] 24)).alloc (.cells #[.int .i64 t.d, .int .i64 t.e, .int .i64 t.x, .int .i64 t.y, .int .i64 t.z] 26)) := ((((Below.refl _ _).alloc (by simp) _).alloc (by simp) _).alloc (by simp; omega) _).alloc (by simp; omega) _
    have Ha := Lib.hid ha; clear ha
    have Hb := Lib.hid hb; clear hb
    have Hc := Lib.hid hc; clear hc
    have Ht := Lib.hid ht; clear ht
    have HBW := Lib.hid hbw; clear hbw
    go_enter Try.func6, Try.ntmps6
    go_wp2_with fail
    generalize (((w.alloc (.cells #[.int .i64 a.fr, .int .i64 a.to, .int .i64 a.kp, .int .i64 a.ad, .int .i64 a.t0, .int .i64 a.t1, .int .i64 a.t2] 24)).alloc (.cells #[.int .i64 b.fr, .int .i64 b.to, .int .i64 b.kp, .int .i64 b.ad, .int .i64 b.t0, .int .i64 b.t1, .int .i64 b.t2] 24)).alloc (.cells #[.int .i64 c.fr, .int .i64 c.to, .int .i64 c.kp, .int .i64 c.ad, .int .i64 c.t0, .int .i64 c.t1, .int .i64 c.t2] 24)).alloc (.cells #[.int .i64 t.d, .int .i64 t.e, .int .i64 t.x, .int .i64 t.y, .int .i64 t.z] 26) = w0 at *
    have la := Ha.out.lt
    have lb := Hb.out.lt
    have lc := Hc.out.lt
    have lt := Ht.out.lt
    obtain ⟨ca0, ca1, ca2, ca3, ca4, ca5, ca6⟩ := Ha.out.cells7
    obtain ⟨cb0, cb1, cb2, cb3, cb4, cb5, cb6⟩ := Hb.out.cells7
    go_wp2_with fail
    clear la lb lc lt ca0 ca1 ca2 ca3 ca4 ca5 ca6 cb0 cb1 cb2 cb3 cb4 cb5 cb6
    refine (C1.out _).mono ?_; rintro e v1 ⟨rfl, hbel⟩
    dsimp only
    have ha := Ha.out.below hbel; clear Ha
    have hb := Hb.out.below hbel; clear Hb
    have hc := Hc.out.below hbel; clear Hc
    have ht := Ht.out.below hbel; clear Ht
    have hbw := HBW.out.trans (hbel.mono HBW.out.size); clear HBW hbel
    have Ha := Lib.hid ha; clear ha
    have Hb := Lib.hid hb; clear hb
    have Hc := Lib.hid hc; clear hc
    have Ht := Lib.hid ht; clear ht
    have HBW := Lib.hid hbw; clear hbw
    have la := Ha.out.lt
    have lb := Hb.out.lt
    have lc := Hc.out.lt
    have lt := Ht.out.lt
    obtain ⟨ca0, ca1, ca2, ca3, ca4, ca5, ca6⟩ := Ha.out.cells7
    obtain ⟨ct0, ct1, ct2, ct3, ct4⟩ := Ht.out.c5
    go_wp2_with fail
    clear la lb lc lt ca0 ca1 ca2 ca3 ca4 ca5 ca6 ct0 ct1 ct2 ct3 ct4
    have ha := Ha.out.alloc (.cells #[.int .i64 X.fr, .int .i64 X.to, .int .i64 X.kp, .int .i64 X.ad, .int .i64 X.t0, .int .i64 X.t1, .int .i64 X.t2] 24); clear Ha
    have hb := Hb.out.alloc (.cells #[.int .i64 X.fr, .int .i64 X.to, .int .i64 X.kp, .int .i64 X.ad, .int .i64 X.t0, .int .i64 X.t1, .int .i64 X.t2] 24); clear Hb
    have hc := Hc.out.alloc (.cells #[.int .i64 X.fr, .int .i64 X.to, .int .i64 X.kp, .int .i64 X.ad, .int .i64 X.t0, .int .i64 X.t1, .int .i64 X.t2] 24); clear Hc
    have ht := Ht.out.alloc (.cells #[.int .i64 X.fr, .int .i64 X.to, .int .i64 X.kp, .int .i64 X.ad, .int .i64 X.t0, .int .i64 X.t1, .int .i64 X.t2] 24); clear Ht
    have hx : HoldsM (v1.alloc (.cells #[.int .i64 X.fr, .int .i64 X.to, .int .i64 X.kp, .int .i64 X.ad, .int .i64 X.t0, .int .i64 X.t1, .int .i64 X.t2] 24)) v1.heap.size 24 X := Row.made v1 _ _
    have hbw := HBW.out.alloc HBW.out.size (.cells #[.int .i64 X.fr, .int .i64 X.to, .int .i64 X.kp, .int .i64 X.ad, .int .i64 X.t0, .int .i64 X.t1, .int .i64 X.t2] 24); clear HBW
    generalize v1.alloc (.cells #[.int .i64 X.fr, .int .i64 X.to, .int .i64 X.kp, .int .i64 X.ad, .int .i64 X.t0, .int .i64 X.t1, .int .i64 X.t2] 24) = v2 at *
    generalize v1.heap.size = gx at *
    have Ha := Lib.hid ha; clear ha
    have Hb := Lib.hid hb; clear hb
    have Hc := Lib.hid hc; clear hc
    have Ht := Lib.hid ht; clear ht
    have Hx := Lib.hid hx; clear hx
    have HBW := Lib.hid hbw; clear hbw
    refine (C2.out _).mono ?_; rintro e v3 ⟨rfl, hbel⟩
    dsimp only
    have ha := Ha.out.below hbel; clear Ha
    have hb := Hb.out.below hbel; clear Hb
    have hc := Hc.out.below hbel; clear Hc
    have ht := Ht.out.below hbel; clear Ht
    have hx := Hx.out.below hbel; clear Hx
    have hbw := HBW.out.trans (hbel.mono HBW.out.size); clear HBW hbel
    have Ha := Lib.hid ha; clear ha
    have Hb := Lib.hid hb; clear hb
    have Hc := Lib.hid hc; clear hc
    have Ht := Lib.hid ht; clear ht
    have Hx := Lib.hid hx; clear hx
    have HBW := Lib.hid hbw; clear hbw
    have la := Ha.out.lt
    have lb := Hb.out.lt
    have lc := Hc.out.lt
    have lt := Ht.out.lt
    have lx := Hx.out.lt
    obtain ⟨cb0, cb1, cb2, cb3, cb4, cb5, cb6⟩ := Hb.out.cells7
    go_wp2_with fail
    clear la lb lc lt lx cb0 cb1 cb2 cb3 cb4 cb5 cb6
    have ha := Ha.out.alloc (.cells #[.int .i64 U.d, .int .i64 U.e, .int .i64 U.x, .int .i64 U.y, .int .i64 U.z] 26); clear Ha
    have hb := Hb.out.alloc (.cells #[.int .i64 U.d, .int .i64 U.e, .int .i64 U.x, .int .i64 U.y, .int .i64 U.z] 26); clear Hb
    have hc := Hc.out.alloc (.cells #[.int .i64 U.d, .int .i64 U.e, .int .i64 U.x, .int .i64 U.y, .int .i64 U.z] 26); clear Hc
    have ht := Ht.out.alloc (.cells #[.int .i64 U.d, .int .i64 U.e, .int .i64 U.x, .int .i64 U.y, .int .i64 U.z] 26); clear Ht
    have hx := Hx.out.alloc (.cells #[.int .i64 U.d, .int .i64 U.e, .int .i64 U.x, .int .i64 U.y, .int .i64 U.z] 26); clear Hx
    have hu : Holds (v3.alloc (.cells #[.int .i64 U.d, .int .i64 U.e, .int .i64 U.x, .int .i64 U.y, .int .i64 U.z] 26)) v3.heap.size U := Row.made v3 _ _
    have hbw := HBW.out.alloc HBW.out.size (.cells #[.int .i64 U.d, .int .i64 U.e, .int .i64 U.x, .int .i64 U.y, .int .i64 U.z] 26); clear HBW
    generalize v3.alloc (.cells #[.int .i64 U.d, .int .i64 U.e, .int .i64 U.x, .int .i64 U.y, .int .i64 U.z] 26) = v4 at *
    generalize v3.heap.size = gu at *
    have Ha := Lib.hid ha; clear ha
    have Hb := Lib.hid hb; clear hb
    have Hc := Lib.hid hc; clear hc
    have Ht := Lib.hid ht; clear ht
    have Hx := Lib.hid hx; clear hx
    have Hu := Lib.hid hu; clear hu
    have HBW := Lib.hid hbw; clear hbw
    refine (C3.out _).mono ?_; rintro e v5 ⟨rfl, hbel⟩
    dsimp only
    have ha := Ha.out.below hbel; clear Ha
    have hb := Hb.out.below hbel; clear Hb
    have hc := Hc.out.below hbel; clear Hc
    have ht := Ht.out.below hbel; clear Ht
    have hx := Hx.out.below hbel; clear Hx
    have hu := Hu.out.below hbel; clear Hu
    have hbw := HBW.out.trans (hbel.mono HBW.out.size); clear HBW hbel
    have Ha := Lib.hid ha; clear ha
    have Hb := Lib.hid hb; clear hb
    have Hc := Lib.hid hc; clear hc
    have Ht := Lib.hid ht; clear ht
    have Hx := Lib.hid hx; clear hx
    have Hu := Lib.hid hu; clear hu
    have HBW := Lib.hid hbw; clear hbw
    have la := Ha.out.lt
    have lb := Hb.out.lt
    have lc := Hc.out.lt
    have lt := Ht.out.lt
    have lx := Hx.out.lt
    have lu := Hu.out.lt
    obtain ⟨cb0, cb1, cb2, cb3, cb4, cb5, cb6⟩ := Hb.out.cells7
    go_wp2_with fail
    clear la lb lc lt lx lu cb0 cb1 cb2 cb3 cb4 cb5 cb6
    have ha := Ha.out.alloc (.cells #[.int .i64 V.d, .int .i64 V.e, .int .i64 V.x, .int .i64 V.y, .int .i64 V.z] 26); clear Ha
    have hb := Hb.out.alloc (.cells #[.int .i64 V.d, .int .i64 V.e, .int .i64 V.x, .int .i64 V.y, .int .i64 V.z] 26); clear Hb
    have hc := Hc.out.alloc (.cells #[.int .i64 V.d, .int .i64 V.e, .int .i64 V.x, .int .i64 V.y, .int .i64 V.z] 26); clear Hc
    have ht := Ht.out.alloc (.cells #[.int .i64 V.d, .int .i64 V.e, .int .i64 V.x, .int .i64 V.y, .int .i64 V.z] 26); clear Ht
    have hx := Hx.out.alloc (.cells #[.int .i64 V.d, .int .i64 V.e, .int .i64 V.x, .int .i64 V.y, .int .i64 V.z] 26); clear Hx
    have hu := Hu.out.alloc (.cells #[.int .i64 V.d, .int .i64 V.e, .int .i64 V.x, .int .i64 V.y, .int .i64 V.z] 26); clear Hu
    have hv : Holds (v5.alloc (.cells #[.int .i64 V.d, .int .i64 V.e, .int .i64 V.x, .int .i64 V.y, .int .i64 V.z] 26)) v5.heap.size V := Row.made v5 _ _
    have hbw := HBW.out.alloc HBW.out.size (.cells #[.int .i64 V.d, .int .i64 V.e, .int .i64 V.x, .int .i64 V.y, .int .i64 V.z] 26); clear HBW
    generalize v5.alloc (.cells #[.int .i64 V.d, .int .i64 V.e, .int .i64 V.x, .int .i64 V.y, .int .i64 V.z] 26) = v6 at *
    generalize v5.heap.size = gv at *
    have Ha := Lib.hid ha; clear ha
    have Hb := Lib.hid hb; clear hb
    have Hc := Lib.hid hc; clear hc
    have Ht := Lib.hid ht; clear ht
    have Hx := Lib.hid hx; clear hx
    have Hu := Lib.hid hu; clear hu
    have Hv := Lib.hid hv; clear hv
    have HBW := Lib.hid hbw; clear hbw
    refine (CR.out _).mono ?_; rintro e v7 ⟨rfl, hbel⟩
    dsimp only
    have ha := Ha.out.below hbel; clear Ha
    have hb := Hb.out.below hbel; clear Hb
    have hc := Hc.out.below hbel; clear Hc
    have ht := Ht.out.below hbel; clear Ht
    have hx := Hx.out.below hbel; clear Hx
    have hu := Hu.out.below hbel; clear Hu
    have hv := Hv.out.below hbel; clear Hv
    have hbw := HBW.out.trans (hbel.mono HBW.out.size); clear HBW hbel
    have Ha := Lib.hid ha; clear ha
    have Hb := Lib.hid hb; clear hb
    have Hc := Lib.hid hc; clear hc
    have Ht := Lib.hid ht; clear ht
    have Hx := Lib.hid hx; clear hx
    have Hu := Lib.hid hu; clear hu
    have Hv := Lib.hid hv; clear hv
    have HBW := Lib.hid hbw; clear hbw
    have la := Ha.out.lt
    have lb := Hb.out.lt
    have lc := Hc.out.lt
    have lt := Ht.out.lt
    have lx := Hx.out.lt
    have lu := Hu.out.lt
    have lv := Hv.out.lt
    obtain ⟨ct0, ct1, ct2, ct3, ct4⟩ := Ht.out.c5
    obtain ⟨cx0, cx1, cx2, cx3, cx4, cx5, cx6⟩ := Hx.out.cells7
    go_wp2_with fail
    clear la lb lc lt lx lu lv ct0 ct1 ct2 ct3 ct4 cx0 cx1 cx2 cx3 cx4 cx5 cx6
    refine (C4.out _).mono ?_; rintro e v8 ⟨rfl, hbel⟩
    dsimp only
    have ha := Ha.out.below hbel; clear Ha
    have hb := Hb.out.below hbel; clear Hb
    have hc := Hc.out.below hbel; clear Hc
    have ht := Ht.out.below hbel; clear Ht
    have hx := Hx.out.below hbel; clear Hx
    have hu := Hu.out.below hbel; clear Hu
    have hv := Hv.out.below hbel; clear Hv
    have hbw := HBW.out.trans (hbel.mono HBW.out.size); clear HBW hbel
    have Ha := Lib.hid ha; clear ha
    have Hb := Lib.hid hb; clear hb
    have Hc := Lib.hid hc; clear hc
    have Ht := Lib.hid ht; clear ht
    have Hx := Lib.hid hx; clear hx
    have Hu := Lib.hid hu; clear hu
    have Hv := Lib.hid hv; clear hv
    have HBW := Lib.hid hbw; clear hbw
    have he : ∀ w, (Op.equalIn 10000 26 (.agg #[.int .i64 V.d, .int .i64 V.e, .int .i64 V.x, .int .i64 V.y, .int .i64 V.z]) (.agg #[.int .i64 V.d, .int .i64 V.e, .int .i64 V.x, .int .i64 V.y, .int .i64 V.z])).run Try.prog w = .ok true w := fun w => by
      have hq := run_eq5 V V w
      rw [decide_eq_true rfl] at hq
      exact hq
    have la := Ha.out.lt
    have lb := Hb.out.lt
    have lc := Hc.out.lt
    have lt := Ht.out.lt
    have lx := Hx.out.lt
    have lu := Hu.out.lt
    have lv := Hv.out.lt
    obtain ⟨cb0, cb1, cb2, cb3, cb4, cb5, cb6⟩ := Hb.out.cells7
    obtain ⟨cc0, cc1, cc2, cc3, cc4, cc5, cc6⟩ := Hc.out.cells7
    obtain ⟨cv0, cv1, cv2, cv3, cv4⟩ := Hv.out.c5
    go_wp2_with fail
    clear la lb lc lt lx lu lv cb0 cb1 cb2 cb3 cb4 cb5 cb6 cc0 cc1 cc2 cc3 cc4 cc5 cc6 cv0 cv1 cv2 cv3 cv4
    have ha := Ha.out.alloc (.cells #[.int .i64 V.d, .int .i64 V.e, .int .i64 V.x, .int .i64 V.y, .int .i64 V.z] 26); clear Ha
    have hb := Hb.out.alloc (.cells #[.int .i64 V.d, .int .i64 V.e, .int .i64 V.x, .int .i64 V.y, .int .i64 V.z] 26); clear Hb
    have hc := Hc.out.alloc (.cells #[.int .i64 V.d, .int .i64 V.e, .int .i64 V.x, .int .i64 V.y, .int .i64 V.z] 26); clear Hc
    have ht := Ht.out.alloc (.cells #[.int .i64 V.d, .int .i64 V.e, .int .i64 V.x, .int .i64 V.y, .int .i64 V.z] 26); clear Ht
    have hx := Hx.out.alloc (.cells #[.int .i64 V.d, .int .i64 V.e, .int .i64 V.x, .int .i64 V.y, .int .i64 V.z] 26); clear Hx
    have hu := Hu.out.alloc (.cells #[.int .i64 V.d, .int .i64 V.e, .int .i64 V.x, .int .i64 V.y, .int .i64 V.z] 26); clear Hu
    have hv := Hv.out.alloc (.cells #[.int .i64 V.d, .int .i64 V.e, .int .i64 V.x, .int .i64 V.y, .int .i64 V.z] 26); clear Hv
    have hw2 : Holds (v8.alloc (.cells #[.int .i64 V.d, .int .i64 V.e, .int .i64 V.x, .int .i64 V.y, .int .i64 V.z] 26)) v8.heap.size V := Row.made v8 _ _
    have hbw := HBW.out.alloc HBW.out.size (.cells #[.int .i64 V.d, .int .i64 V.e, .int .i64 V.x, .int .i64 V.y, .int .i64 V.z] 26); clear HBW
    generalize v8.alloc (.cells #[.int .i64 V.d, .int .i64 V.e, .int .i64 V.x, .int .i64 V.y, .int .i64 V.z] 26) = v9 at *
    generalize v8.heap.size = gw2 at *
    have Ha := Lib.hid ha; clear ha
    have Hb := Lib.hid hb; clear hb
    have Hc := Lib.hid hc; clear hc
    have Ht := Lib.hid ht; clear ht
    have Hx := Lib.hid hx; clear hx
    have Hu := Lib.hid hu; clear hu
    have Hv := Lib.hid hv; clear hv
    have Hw2 := Lib.hid hw2; clear hw2
    have HBW := Lib.hid hbw; clear hbw
    refine (C5.out _).mono ?_; rintro e v10 ⟨rfl, hbel⟩
    dsimp only
    have ha := Ha.out.below hbel; clear Ha
    have hb := Hb.out.below hbel; clear Hb
    have hc := Hc.out.below hbel; clear Hc
    have ht := Ht.out.below hbel; clear Ht
    have hx := Hx.out.below hbel; clear Hx
    have hu := Hu.out.below hbel; clear Hu
    have hv := Hv.out.below hbel; clear Hv
    have hw2 := Hw2.out.below hbel; clear Hw2
    have hbw := HBW.out.trans (hbel.mono HBW.out.size); clear HBW hbel
    have Ha := Lib.hid ha; clear ha
    have Hb := Lib.hid hb; clear hb
    have Hc := Lib.hid hc; clear hc
    have Ht := Lib.hid ht; clear ht
    have Hx := Lib.hid hx; clear hx
    have Hu := Lib.hid hu; clear hu
    have Hv := Lib.hid hv; clear hv
    have Hw2 := Lib.hid hw2; clear hw2
    have HBW := Lib.hid hbw; clear hbw
    have la := Ha.out.lt
    have lb := Hb.out.lt
    have lc := Hc.out.lt
    have lt := Ht.out.lt
    have lx := Hx.out.lt
    have lu := Hu.out.lt
    have lv := Hv.out.lt
    have lw2 := Hw2.out.lt
    obtain ⟨cc0, cc1, cc2, cc3, cc4, cc5, cc6⟩ := Hc.out.cells7
    obtain ⟨cx0, cx1, cx2, cx3, cx4, cx5, cx6⟩ := Hx.out.cells7
    go_wp2_with fail
    clear la lb lc lt lx lu lv lw2 cc0 cc1 cc2 cc3 cc4 cc5 cc6 cx0 cx1 cx2 cx3 cx4 cx5 cx6
    have ha := Ha.out.alloc (.cells #[.int .i64 Y.fr, .int .i64 Y.to, .int .i64 Y.kp, .int .i64 Y.ad, .int .i64 Y.t0, .int .i64 Y.t1, .int .i64 Y.t2] 24); clear Ha
    have hb := Hb.out.alloc (.cells #[.int .i64 Y.fr, .int .i64 Y.to, .int .i64 Y.kp, .int .i64 Y.ad, .int .i64 Y.t0, .int .i64 Y.t1, .int .i64 Y.t2] 24); clear Hb
    have hc := Hc.out.alloc (.cells #[.int .i64 Y.fr, .int .i64 Y.to, .int .i64 Y.kp, .int .i64 Y.ad, .int .i64 Y.t0, .int .i64 Y.t1, .int .i64 Y.t2] 24); clear Hc
    have ht := Ht.out.alloc (.cells #[.int .i64 Y.fr, .int .i64 Y.to, .int .i64 Y.kp, .int .i64 Y.ad, .int .i64 Y.t0, .int .i64 Y.t1, .int .i64 Y.t2] 24); clear Ht
    have hx := Hx.out.alloc (.cells #[.int .i64 Y.fr, .int .i64 Y.to, .int .i64 Y.kp, .int .i64 Y.ad, .int .i64 Y.t0, .int .i64 Y.t1, .int .i64 Y.t2] 24); clear Hx
    have hu := Hu.out.alloc (.cells #[.int .i64 Y.fr, .int .i64 Y.to, .int .i64 Y.kp, .int .i64 Y.ad, .int .i64 Y.t0, .int .i64 Y.t1, .int .i64 Y.t2] 24); clear Hu
    have hv := Hv.out.alloc (.cells #[.int .i64 Y.fr, .int .i64 Y.to, .int .i64 Y.kp, .int .i64 Y.ad, .int .i64 Y.t0, .int .i64 Y.t1, .int .i64 Y.t2] 24); clear Hv
    have hw2 := Hw2.out.alloc (.cells #[.int .i64 Y.fr, .int .i64 Y.to, .int .i64 Y.kp, .int .i64 Y.ad, .int .i64 Y.t0, .int .i64 Y.t1, .int .i64 Y.t2] 24); clear Hw2
    have hy : HoldsM (v10.alloc (.cells #[.int .i64 Y.fr, .int .i64 Y.to, .int .i64 Y.kp, .int .i64 Y.ad, .int .i64 Y.t0, .int .i64 Y.t1, .int .i64 Y.t2] 24)) v10.heap.size 24 Y := Row.made v10 _ _
    have hbw := HBW.out.alloc HBW.out.size (.cells #[.int .i64 Y.fr, .int .i64 Y.to, .int .i64 Y.kp, .int .i64 Y.ad, .int .i64 Y.t0, .int .i64 Y.t1, .int .i64 Y.t2] 24); clear HBW
    generalize v10.alloc (.cells #[.int .i64 Y.fr, .int .i64 Y.to, .int .i64 Y.kp, .int .i64 Y.ad, .int .i64 Y.t0, .int .i64 Y.t1, .int .i64 Y.t2] 24) = v11 at *
    generalize v10.heap.size = gy at *
    have Ha := Lib.hid ha; clear ha
    have Hb := Lib.hid hb; clear hb
    have Hc := Lib.hid hc; clear hc
    have Ht := Lib.hid ht; clear ht
    have Hx := Lib.hid hx; clear hx
    have Hu := Lib.hid hu; clear hu
    have Hv := Lib.hid hv; clear hv
    have Hw2 := Lib.hid hw2; clear hw2
    have Hy := Lib.hid hy; clear hy
    have HBW := Lib.hid hbw; clear hbw
    refine (C6.out _).mono ?_; rintro e v12 ⟨rfl, hbel⟩
    dsimp only
    have ha := Ha.out.below hbel; clear Ha
    have hb := Hb.out.below hbel; clear Hb
    have hc := Hc.out.below hbel; clear Hc
    have ht := Ht.out.below hbel; clear Ht
    have hx := Hx.out.below hbel; clear Hx
    have hu := Hu.out.below hbel; clear Hu
    have hv := Hv.out.below hbel; clear Hv
    have hw2 := Hw2.out.below hbel; clear Hw2
    have hy := Hy.out.below hbel; clear Hy
    have hbw := HBW.out.trans (hbel.mono HBW.out.size); clear HBW hbel
    have Ha := Lib.hid ha; clear ha
    have Hb := Lib.hid hb; clear hb
    have Hc := Lib.hid hc; clear hc
    have Ht := Lib.hid ht; clear ht
    have Hx := Lib.hid hx; clear hx
    have Hu := Lib.hid hu; clear hu
    have Hv := Lib.hid hv; clear hv
    have Hw2 := Lib.hid hw2; clear hw2
    have Hy := Lib.hid hy; clear hy
    have HBW := Lib.hid hbw; clear hbw
    have la := Ha.out.lt
    have lb := Hb.out.lt
    have lc := Hc.out.lt
    have lt := Ht.out.lt
    have lx := Hx.out.lt
    have lu := Hu.out.lt
    have lv := Hv.out.lt
    have lw2 := Hw2.out.lt
    have ly := Hy.out.lt
    obtain ⟨ca0, ca1, ca2, ca3, ca4, ca5, ca6⟩ := Ha.out.cells7
    obtain ⟨cy0, cy1, cy2, cy3, cy4, cy5, cy6⟩ := Hy.out.cells7
    go_wp2_with fail
    clear la lb lc lt lx lu lv lw2 ly ca0 ca1 ca2 ca3 ca4 ca5 ca6 cy0 cy1 cy2 cy3 cy4 cy5 cy6
    have ha := Ha.out.alloc (.cells #[.int .i64 P.fr, .int .i64 P.to, .int .i64 P.kp, .int .i64 P.ad, .int .i64 P.t0, .int .i64 P.t1, .int .i64 P.t2] 24); clear Ha
    have hb := Hb.out.alloc (.cells #[.int .i64 P.fr, .int .i64 P.to, .int .i64 P.kp, .int .i64 P.ad, .int .i64 P.t0, .int .i64 P.t1, .int .i64 P.t2] 24); clear Hb
    have hc := Hc.out.alloc (.cells #[.int .i64 P.fr, .int .i64 P.to, .int .i64 P.kp, .int .i64 P.ad, .int .i64 P.t0, .int .i64 P.t1, .int .i64 P.t2] 24); clear Hc
    have ht := Ht.out.alloc (.cells #[.int .i64 P.fr, .int .i64 P.to, .int .i64 P.kp, .int .i64 P.ad, .int .i64 P.t0, .int .i64 P.t1, .int .i64 P.t2] 24); clear Ht
    have hx := Hx.out.alloc (.cells #[.int .i64 P.fr, .int .i64 P.to, .int .i64 P.kp, .int .i64 P.ad, .int .i64 P.t0, .int .i64 P.t1, .int .i64 P.t2] 24); clear Hx
    have hu := Hu.out.alloc (.cells #[.int .i64 P.fr, .int .i64 P.to, .int .i64 P.kp, .int .i64 P.ad, .int .i64 P.t0, .int .i64 P.t1, .int .i64 P.t2] 24); clear Hu
    have hv := Hv.out.alloc (.cells #[.int .i64 P.fr, .int .i64 P.to, .int .i64 P.kp, .int .i64 P.ad, .int .i64 P.t0, .int .i64 P.t1, .int .i64 P.t2] 24); clear Hv
    have hw2 := Hw2.out.alloc (.cells #[.int .i64 P.fr, .int .i64 P.to, .int .i64 P.kp, .int .i64 P.ad, .int .i64 P.t0, .int .i64 P.t1, .int .i64 P.t2] 24); clear Hw2
    have hy := Hy.out.alloc (.cells #[.int .i64 P.fr, .int .i64 P.to, .int .i64 P.kp, .int .i64 P.ad, .int .i64 P.t0, .int .i64 P.t1, .int .i64 P.t2] 24); clear Hy
    have hp : HoldsM (v12.alloc (.cells #[.int .i64 P.fr, .int .i64 P.to, .int .i64 P.kp, .int .i64 P.ad, .int .i64 P.t0, .int .i64 P.t1, .int .i64 P.t2] 24)) v12.heap.size 24 P := Row.made v12 _ _
    have hbw := HBW.out.alloc HBW.out.size (.cells #[.int .i64 P.fr, .int .i64 P.to, .int .i64 P.kp, .int .i64 P.ad, .int .i64 P.t0, .int .i64 P.t1, .int .i64 P.t2] 24); clear HBW
    generalize v12.alloc (.cells #[.int .i64 P.fr, .int .i64 P.to, .int .i64 P.kp, .int .i64 P.ad, .int .i64 P.t0, .int .i64 P.t1, .int .i64 P.t2] 24) = v13 at *
    generalize v12.heap.size = gp at *
    have Ha := Lib.hid ha; clear ha
    have Hb := Lib.hid hb; clear hb
    have Hc := Lib.hid hc; clear hc
    have Ht := Lib.hid ht; clear ht
    have Hx := Lib.hid hx; clear hx
    have Hu := Lib.hid hu; clear hu
    have Hv := Lib.hid hv; clear hv
    have Hw2 := Lib.hid hw2; clear hw2
    have Hy := Lib.hid hy; clear hy
    have Hp := Lib.hid hp; clear hp
    have HBW := Lib.hid hbw; clear hbw
    refine (C7.out _).mono ?_; rintro e v14 ⟨rfl, hbel⟩
    dsimp only
    have ha := Ha.out.below hbel; clear Ha
    have hb := Hb.out.below hbel; clear Hb
    have hc := Hc.out.below hbel; clear Hc
    have ht := Ht.out.below hbel; clear Ht
    have hx := Hx.out.below hbel; clear Hx
    have hu := Hu.out.below hbel; clear Hu
    have hv := Hv.out.below hbel; clear Hv
    have hw2 := Hw2.out.below hbel; clear Hw2
    have hy := Hy.out.below hbel; clear Hy
    have hp := Hp.out.below hbel; clear Hp
    have hbw := HBW.out.trans (hbel.mono HBW.out.size); clear HBW hbel
    have Ha := Lib.hid ha; clear ha
    have Hb := Lib.hid hb; clear hb
    have Hc := Lib.hid hc; clear hc
    have Ht := Lib.hid ht; clear ht
    have Hx := Lib.hid hx; clear hx
    have Hu := Lib.hid hu; clear hu
    have Hv := Lib.hid hv; clear hv
    have Hw2 := Lib.hid hw2; clear hw2
    have Hy := Lib.hid hy; clear hy
    have Hp := Lib.hid hp; clear hp
    have HBW := Lib.hid hbw; clear hbw
    have he : ∀ w, (Op.equalIn 10000 24 (.agg #[.int .i64 P.fr, .int .i64 P.to, .int .i64 P.kp, .int .i64 P.ad, .int .i64 P.t0, .int .i64 P.t1, .int .i64 P.t2]) (.agg #[.int .i64 P.fr, .int .i64 P.to, .int .i64 P.kp, .int .i64 P.ad, .int .i64 P.t0, .int .i64 P.t1, .int .i64 P.t2])).run Try.prog w = .ok true w := fun w => by
      have hq := run_eq7 P P w
      rw [decide_eq_true rfl] at hq
      exact hq
    have la := Ha.out.lt
    have lb := Hb.out.lt
    have lc := Hc.out.lt
    have lt := Ht.out.lt
    have lx := Hx.out.lt
    have lu := Hu.out.lt
    have lv := Hv.out.lt
    have lw2 := Hw2.out.lt
    have ly := Hy.out.lt
    have lp := Hp.out.lt
    obtain ⟨cp0, cp1, cp2, cp3, cp4, cp5, cp6⟩ := Hp.out.cells7
    go_wp2_with fail
    clear la lb lc lt lx lu lv lw2 ly lp cp0 cp1 cp2 cp3 cp4 cp5 cp6
    have ha := Ha.out.alloc (.cells #[.int .i64 P.fr, .int .i64 P.to, .int .i64 P.kp, .int .i64 P.ad, .int .i64 P.t0, .int .i64 P.t1, .int .i64 P.t2] 24); clear Ha
    have hb := Hb.out.alloc (.cells #[.int .i64 P.fr, .int .i64 P.to, .int .i64 P.kp, .int .i64 P.ad, .int .i64 P.t0, .int .i64 P.t1, .int .i64 P.t2] 24); clear Hb
    have hc := Hc.out.alloc (.cells #[.int .i64 P.fr, .int .i64 P.to, .int .i64 P.kp, .int .i64 P.ad, .int .i64 P.t0, .int .i64 P.t1, .int .i64 P.t2] 24); clear Hc
    have ht := Ht.out.alloc (.cells #[.int .i64 P.fr, .int .i64 P.to, .int .i64 P.kp, .int .i64 P.ad, .int .i64 P.t0, .int .i64 P.t1, .int .i64 P.t2] 24); clear Ht
    have hx := Hx.out.alloc (.cells #[.int .i64 P.fr, .int .i64 P.to, .int .i64 P.kp, .int .i64 P.ad, .int .i64 P.t0, .int .i64 P.t1, .int .i64 P.t2] 24); clear Hx
    have hu := Hu.out.alloc (.cells #[.int .i64 P.fr, .int .i64 P.to, .int .i64 P.kp, .int .i64 P.ad, .int .i64 P.t0, .int .i64 P.t1, .int .i64 P.t2] 24); clear Hu
    have hv := Hv.out.alloc (.cells #[.int .i64 P.fr, .int .i64 P.to, .int .i64 P.kp, .int .i64 P.ad, .int .i64 P.t0, .int .i64 P.t1, .int .i64 P.t2] 24); clear Hv
    have hw2 := Hw2.out.alloc (.cells #[.int .i64 P.fr, .int .i64 P.to, .int .i64 P.kp, .int .i64 P.ad, .int .i64 P.t0, .int .i64 P.t1, .int .i64 P.t2] 24); clear Hw2
    have hy := Hy.out.alloc (.cells #[.int .i64 P.fr, .int .i64 P.to, .int .i64 P.kp, .int .i64 P.ad, .int .i64 P.t0, .int .i64 P.t1, .int .i64 P.t2] 24); clear Hy
    have hp := Hp.out.alloc (.cells #[.int .i64 P.fr, .int .i64 P.to, .int .i64 P.kp, .int .i64 P.ad, .int .i64 P.t0, .int .i64 P.t1, .int .i64 P.t2] 24); clear Hp
    have hq : HoldsM (v14.alloc (.cells #[.int .i64 P.fr, .int .i64 P.to, .int .i64 P.kp, .int .i64 P.ad, .int .i64 P.t0, .int .i64 P.t1, .int .i64 P.t2] 24)) v14.heap.size 24 P := Row.made v14 _ _
    have hbw := HBW.out.alloc HBW.out.size (.cells #[.int .i64 P.fr, .int .i64 P.to, .int .i64 P.kp, .int .i64 P.ad, .int .i64 P.t0, .int .i64 P.t1, .int .i64 P.t2] 24); clear HBW
    generalize v14.alloc (.cells #[.int .i64 P.fr, .int .i64 P.to, .int .i64 P.kp, .int .i64 P.ad, .int .i64 P.t0, .int .i64 P.t1, .int .i64 P.t2] 24) = v15 at *
    generalize v14.heap.size = gq at *
    have Ha := Lib.hid ha; clear ha
    have Hb := Lib.hid hb; clear hb
    have Hc := Lib.hid hc; clear hc
    have Ht := Lib.hid ht; clear ht
    have Hx := Lib.hid hx; clear hx
    have Hu := Lib.hid hu; clear hu
    have Hv := Lib.hid hv; clear hv
    have Hw2 := Lib.hid hw2; clear hw2
    have Hy := Lib.hid hy; clear hy
    have Hp := Lib.hid hp; clear hp
    have Hq := Lib.hid hq; clear hq
    have HBW := Lib.hid hbw; clear hbw
    refine (CW.out _).mono ?_; rintro e v16 ⟨rfl, hbel⟩
    dsimp only
    have ha := Ha.out.below hbel; clear Ha
    have hb := Hb.out.below hbel; clear Hb
    have hc := Hc.out.below hbel; clear Hc
    have ht := Ht.out.below hbel; clear Ht
    have hx := Hx.out.below hbel; clear Hx
    have hu := Hu.out.below hbel; clear Hu
    have hv := Hv.out.below hbel; clear Hv
    have hw2 := Hw2.out.below hbel; clear Hw2
    have hy := Hy.out.below hbel; clear Hy
    have hp := Hp.out.below hbel; clear Hp
    have hq := Hq.out.below hbel; clear Hq
    have hbw := HBW.out.trans (hbel.mono HBW.out.size); clear HBW hbel
    have Ha := Lib.hid ha; clear ha
    have Hb := Lib.hid hb; clear hb
    have Hc := Lib.hid hc; clear hc
    have Ht := Lib.hid ht; clear ht
    have Hx := Lib.hid hx; clear hx
    have Hu := Lib.hid hu; clear hu
    have Hv := Lib.hid hv; clear hv
    have Hw2 := Lib.hid hw2; clear hw2
    have Hy := Lib.hid hy; clear hy
    have Hp := Lib.hid hp; clear hp
    have Hq := Lib.hid hq; clear hq
    have HBW := Lib.hid hbw; clear hbw
    have la := Ha.out.lt
    have lb := Hb.out.lt
    have lc := Hc.out.lt
    have lt := Ht.out.lt
    have lx := Hx.out.lt
    have lu := Hu.out.lt
    have lv := Hv.out.lt
    have lw2 := Hw2.out.lt
    have ly := Hy.out.lt
    have lp := Hp.out.lt
    have lq := Hq.out.lt
    go_wp2_with fail
    clear la lb lc lt lx lu lv lw2 ly lp lq
    go_ret
    exact ⟨rfl, HBW.out⟩
theorem walk (a b c : Sm) (t : St) (w : World) : Calls Try.prog 6 #[a.v, b.v, c.v, t.val] w fun e w' => e = .returned (.bool true) ∧ Below w.heap.size w w' := by
  have c1 := fun w => then_any a b w
  have c2 := fun w => apply_any a t w
  have c3 := fun w => apply_any b (a.ap t) w
  have c4 := fun w => apply_any (a.th b) t w
  have c5 := fun w => then_any b c w
  have c6 := fun w => then_any (a.th b) c w
  have c7 := fun w => then_any a (b.th c) w
  cases h1 : a.thB b with
  | false =>
    rw [h1] at c1
    exact w_no a b c _ _ Sm.zero t _ _ _ _ _ false w c1 c2 c3 c5
  | true =>
    rw [h1] at c1
    have hk : a.thenOk b := by simpa [Sm.thB] using h1
    have hbR : b.R := hk.2.1
    have cr := fun w => rightM_true hbR w
    cases h2 : a.apB t with
    | false =>
      rw [h2] at c2
      cases h5 : b.thB c with
      | false => rw [h5] at c5; exact w_yn_f a b c _ _ Sm.zero t _ _ _ false w c1 c2 c3 c5
      | true =>
        rw [h5] at c5
        obtain ⟨e1, e2⟩ := th_th h1 h5
        rw [← e1, ← e2] at c7
        exact w_yn_t a b c _ _ _ t _ _ _ _ w c1 c2 c3 c5 c6 c7
    | true =>
      rw [h2] at c2
      obtain ⟨f1, f2⟩ := ap_th h1 h2
      rw [f1, f2] at c4
      cases h5 : b.thB c with
      | false => rw [h5] at c5; exact w_yy_f a b c _ _ Sm.zero t _ _ _ false w c1 c2 c3 cr c4 c5
      | true =>
        rw [h5] at c5
        obtain ⟨e1, e2⟩ := th_th h1 h5
        rw [← e1, ← e2] at c7
        exact w_yy_t a b c _ _ _ t _ _ _ _ w c1 c2 c3 cr c4 c5 c6 c7
end summaryThen
end Go.Proofs.Ytdpadkellpkppaa
