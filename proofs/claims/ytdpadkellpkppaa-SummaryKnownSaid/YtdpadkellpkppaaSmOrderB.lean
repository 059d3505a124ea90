/- SummaryOrder: the walks where the later one makes something of the time. -/
import Derived.Test.YtdpadkellpkppaaSmOrderA
namespace Go.Proofs.Ytdpadkellpkppaa
open Go.ChangeShapes Go.WideShapes Go.ChangeAt Go.RowKit Go.BigFrame
set_option linter.unusedVariables false
set_option maxRecDepth 100000
namespace summaryOrder
set_option maxHeartbeats 8000000 in
theorem w_100 (a b N : Sm) (t s U V W2 X : St) (I Y E F R D : Bool) (w : World) (hR : R = true → E = true ∧ F = true ∧ X = t)
    (c1 : ∀ w, Calls Try.prog 11 #[.agg #[.int .i64 b.fr, .int .i64 b.to, .int .i64 b.kp, .int .i64 b.ad, .int .i64 b.t0, .int .i64 b.t1, .int .i64 b.t2], .agg #[.int .i64 t.d, .int .i64 t.e, .int .i64 t.x, .int .i64 t.y, .int .i64 t.z]] w fun e w' => e = .returned (.tuple #[.agg #[.int .i64 U.d, .int .i64 U.e, .int .i64 U.x, .int .i64 U.y, .int .i64 U.z], .bool true]) ∧ Below w.heap.size w w')
    (c2 : ∀ w, Calls Try.prog 11 #[.agg #[.int .i64 a.fr, .int .i64 a.to, .int .i64 a.kp, .int .i64 a.ad, .int .i64 a.t0, .int .i64 a.t1, .int .i64 a.t2], .agg #[.int .i64 t.d, .int .i64 t.e, .int .i64 t.x, .int .i64 t.y, .int .i64 t.z]] w fun e w' => e = .returned (.tuple #[.agg #[.int .i64 V.d, .int .i64 V.e, .int .i64 V.x, .int .i64 V.y, .int .i64 V.z], .bool I]) ∧ Below w.heap.size w w')
    (c3 : ∀ w, Calls Try.prog 21 #[.agg #[.int .i64 a.fr, .int .i64 a.to, .int .i64 a.kp, .int .i64 a.ad, .int .i64 a.t0, .int .i64 a.t1, .int .i64 a.t2], .agg #[.int .i64 b.fr, .int .i64 b.to, .int .i64 b.kp, .int .i64 b.ad, .int .i64 b.t0, .int .i64 b.t1, .int .i64 b.t2]] w fun e w' => e = .returned (.bool false) ∧ Below w.heap.size w w')
    (c5 : ∀ w, Calls Try.prog 11 #[.agg #[.int .i64 b.fr, .int .i64 b.to, .int .i64 b.kp, .int .i64 b.ad, .int .i64 b.t0, .int .i64 b.t1, .int .i64 b.t2], .agg #[.int .i64 s.d, .int .i64 s.e, .int .i64 s.x, .int .i64 s.y, .int .i64 s.z]] w fun e w' => e = .returned (.tuple #[.agg #[.int .i64 W2.d, .int .i64 W2.e, .int .i64 W2.x, .int .i64 W2.y, .int .i64 W2.z], .bool Y]) ∧ Below w.heap.size w w')
    (c6 : ∀ w, Calls Try.prog 27 #[.agg #[.int .i64 s.d, .int .i64 s.e, .int .i64 s.x, .int .i64 s.y, .int .i64 s.z], .agg #[.int .i64 t.d, .int .i64 t.e, .int .i64 t.x, .int .i64 t.y, .int .i64 t.z]] w fun e w' => e = .returned (.bool false) ∧ Below w.heap.size w w')
    (c8 : ∀ w, Calls Try.prog 14 #[.int .u8 2, .int .i64 t.d] w fun e w' => e = .returned (.tuple #[.agg #[.int .i64 N.fr, .int .i64 N.to, .int .i64 N.kp, .int .i64 N.ad, .int .i64 N.t0, .int .i64 N.t1, .int .i64 N.t2], .bool E]) ∧ Below w.heap.size w w')
    (c9 : ∀ w, Calls Try.prog 11 #[.agg #[.int .i64 N.fr, .int .i64 N.to, .int .i64 N.kp, .int .i64 N.ad, .int .i64 N.t0, .int .i64 N.t1, .int .i64 N.t2], .agg #[.int .i64 t.d, .int .i64 t.e, .int .i64 t.x, .int .i64 t.y, .int .i64 t.z]] w fun e w' => e = .returned (.tuple #[.agg #[.int .i64 X.d, .int .i64 X.e, .int .i64 X.x, .int .i64 X.y, .int .i64 X.z], .bool F]) ∧ Below w.heap.size w w')
    (c10 : ∀ w, Calls Try.prog 28 #[.agg #[.int .i64 t.d, .int .i64 t.e, .int .i64 t.x, .int .i64 t.y, .int .i64 t.z]] w fun e w' => e = .returned (.bool R) ∧ Below w.heap.size w w')
    (c11 : ∀ w, Calls Try.prog 21 #[.agg #[.int .i64 a.fr, .int .i64 a.to, .int .i64 a.kp, .int .i64 a.ad, .int .i64 a.t0, .int .i64 a.t1, .int .i64 a.t2], .agg #[.int .i64 a.fr, .int .i64 a.to, .int .i64 a.kp, .int .i64 a.ad, .int .i64 a.t0, .int .i64 a.t1, .int .i64 a.t2]] w fun e w' => e = .returned (.bool D) ∧ Below w.heap.size w w')
    (c12 : ∀ w, Calls Try.prog 16 #[.agg #[.int .i64 a.fr, .int .i64 a.to, .int .i64 a.kp, .int .i64 a.ad, .int .i64 a.t0, .int .i64 a.t1, .int .i64 a.t2]] w fun e w' => e = .returned (.bool D) ∧ Below w.heap.size w w')
    : Calls Try.prog 7 #[.agg #[.int .i64 a.fr, .int .i64 a.to, .int .i64 a.kp, .int .i64 a.ad, .int .i64 a.t0, .int .i64 a.t1, .int .i64 a.t2], .agg #[.int .i64 b.fr, .int .i64 b.to, .int .i64 b.kp, .int .i64 b.ad, .int .i64 b.t0, .int .i64 b.t1, .int .i64 b.t2], .agg #[.int .i64 t.d, .int .i64 t.e, .int .i64 t.x, .int .i64 t.y, .int .i64 t.z], .agg #[.int .i64 s.d, .int .i64 s.e, .int .i64 s.x, .int .i64 s.y, .int .i64 s.z]] w fun e w' => e = .returned (.bool true) ∧ Below w.heap.size w w' := by
  have cw := fun w => works_any w
  have C1 := Lib.hid c1; have C2 := Lib.hid c2; have C3 := Lib.hid c3; have C5 := Lib.hid c5; have C6 := Lib.hid c6; have C8 := Lib.hid c8; have C9 := Lib.hid c9; have C10 := Lib.hid c10; have C11 := Lib.hid c11; have C12 := Lib.hid c12; have CW := Lib.hid cw; clear c1 c2 c3 c5 c6 c8 c9 c10 c11 c12 cw
  have HR := Lib.hid hR; clear hR
  have ha : HoldsM ((((w.alloc (.cells #[.int .i64 a.fr, .int .i64 a.to, .int .i64 a.kp, .int .i64 a.ad, .int .i64 a.t0, .int .i64 a.t1, .int .i64 a.t2] 24)).alloc (.cells #[.int .i64 b.fr, .int .i64 b.to, .int .i64 b.kp, .int .i64 b.ad, .int .i64 b.t0, .int .i64 b.t1, .int .i64 b.t2] 24)).alloc (.cells #[.int .i64 t.d, .int .i64 t.e, .int .i64 t.x, .int .i64 t.y, .int .i64 t.z] 26)).alloc (.cells #[.int .i64 s.d, .int .i64 s.e, .int .i64 s.x, .int .i64 s.y, .int .i64 s.z] 26)) w.heap.size 24 a := by
    have hq := Row.alloc (Row.alloc (Row.alloc (Row.made w 24 [.int .i64 a.fr, .int .i64 a.to, .int .i64 a.kp, .int .i64 a.ad, .int .i64 a.t0, .int .i64 a.t1, .int .i64 a.t2]) (.cells #[.int .i64 b.fr, .int .i64 b.to, .int .i64 b.kp, .int .i64 b.ad, .int .i64 b.t0, .int .i64 b.t1, .int .i64 b.t2] 24)) (.cells #[.int .i64 t.d, .int .i64 t.e, .int .i64 t.x, .int .i64 t.y, .int .i64 t.z] 26)) (.cells #[.int .i64 s.d, .int .i64 s.e, .int .i64 s.x, .int .i64 s.y, .int .i64 s.z] 26)
    exact hq
  have hb : HoldsM ((((w.alloc (.cells #[.int .i64 a.fr, .int .i64 a.to, .int .i64 a.kp, .int .i64 a.ad, .int .i64 a.t0, .int .i64 a.t1, .int .i64 a.t2] 24)).alloc (.cells #[.int .i64 b.fr, .int .i64 b.to, .int .i64 b.kp, .int .i64 b.ad, .int .i64 b.t0, .int .i64 b.t1, .int .i64 b.t2] 24)).alloc (.cells #[.int .i64 t.d, .int .i64 t.e, .int .i64 t.x, .int .i64 t.y, .int .i64 t.z] 26)).alloc (.cells #[.int .i64 s.d, .int .i64 s.e, .int .i64 s.x, .int .i64 s.y, .int .i64 s.z] 26)) (w.heap.size + 1) 24 b := by
    have hq := Row.alloc (Row.alloc (Row.made (w.alloc (.cells #[.int .i64 a.fr, .int .i64 a.to, .int .i64 a.kp, .int .i64 a.ad, .int .i64 a.t0, .int .i64 a.t1, .int .i64 a.t2] 24)) 24 [.int .i64 b.fr, .int .i64 b.to, .int .i64 b.kp, .int .i64 b.ad, .int .i64 b.t0, .int .i64 b.t1, .int .i64 b.t2]) (.cells #[.int .i64 t.d, .int .i64 t.e, .int .i64 t.x, .int .i64 t.y, .int .i64 t.z] 26)) (.cells #[.int .i64 s.d, .int .i64 s.e, .int .i64 s.x, .int .i64 s.y, .int .i64 s.z] 26)
    rw [size_alloc] at hq
    exact hq
  have ht : Holds ((((w.alloc (.cells #[.int .i64 a.fr, .int .i64 a.to, .int .i64 a.kp, .int .i64 a.ad, .int .i64 a.t0, .int .i64 a.t1, .int .i64 a.t2] 24)).alloc (.cells #[.int .i64 b.fr, .int .i64 b.to, .int .i64 b.kp, .int .i64 b.ad, .int .i64 b.t0, .int .i64 b.t1, .int .i64 b.t2] 24)).alloc (.cells #[.int .i64 t.d, .int .i64 t.e, .int .i64 t.x, .int .i64 t.y, .int .i64 t.z] 26)).alloc (.cells #[.int .i64 s.d, .int .i64 s.e, .int .i64 s.x, .int .i64 s.y, .int .i64 s.z] 26)) (w.heap.size + 1 + 1) t := by
    have hq := Row.alloc (Row.made ((w.alloc (.cells #[.int .i64 a.fr, .int .i64 a.to, .int .i64 a.kp, .int .i64 a.ad, .int .i64 a.t0, .int .i64 a.t1, .int .i64 a.t2] 24)).alloc (.cells #[.int .i64 b.fr, .int .i64 b.to, .int .i64 b.kp, .int .i64 b.ad, .int .i64 b.t0, .int .i64 b.t1, .int .i64 b.t2] 24)) 26 [.int .i64 t.d, .int .i64 t.e, .int .i64 t.x, .int .i64 t.y, .int .i64 t.z]) (.cells #[.int .i64 s.d, .int .i64 s.e, .int .i64 s.x, .int .i64 s.y, .int .i64 s.z] 26)
    rw [size_alloc, size_alloc] at hq
    exact hq
  have hs : Holds ((((w.alloc (.cells #[.int .i64 a.fr, .int .i64 a.to, .int .i64 a.kp, .int .i64 a.ad, .int .i64 a.t0, .int .i64 a.t1, .int .i64 a.t2] 24)).alloc (.cells #[.int .i64 b.fr, .int .i64 b.to, .int .i64 b.kp, .int .i64 b.ad, .int .i64 b.t0, .int .i64 b.t1, .int .i64 b.t2] 24)).alloc (.cells #[.int .i64 t.d, .int .i64 t.e, .int .i64 t.x, .int .i64 t.y, .int .i64 t.z] 26)).alloc (.cells #[.int .i64 s.d, .int .i64 s.e, .int .i64 s.x, .int .i64 s.y, .int .i64 s.z] 26)) (w.heap.size + 1 + 1 + 1) s := by
    have hq := Row.made (((w.alloc (.cells #[.int .i64 a.fr, .int .i64 a.to, .int .i64 a.kp, .int .i64 a.ad, .int .i64 a.t0, .int .i64 a.t1, .int .i64 a.t2] 24)).alloc (.cells #[.int .i64 b.fr, .int .i64 b.to, .int .i64 b.kp, .int .i64 b.ad, .int .i64 b.t0, .int .i64 b.t1, .int .i64 b.t2] 24)).alloc (.cells #[.int .i64 t.d, .int .i64 t.e, .int .i64 t.x, .int .i64 t.y, .int .i64 t.z] 26)) 26 [.int .i64 s.d, .int .i64 s.e, .int .i64 s.x, .int .i64 s.y, .int .i64 s.z]
    rw [size_alloc, size_alloc, size_alloc] at hq
    exact hq
  have hbw : Below w.heap.size w ((((w.alloc (.cells #[.int .i64 a.fr, .int .i64 a.to, .int .i64 a.kp, .int .i64 a.ad, .int .i64 a.t0, .int .i64 a.t1, .int .i64 a.t2] 24)).alloc (.cells #[.int .i64 b.fr, .int .i64 b.to, .int .i64 b.kp, .int .i64 b.ad, .int .i64 b.t0, .int .i64 b.t1, .int .i64 b.t2] 24)).alloc (.cells #[.int .i64 t.d, .int .i64 t.e, .int .i64 t.x, .int .i64 t.y, .int .i64 t.z] 26)).alloc (.cells #[.int .i64 s.d, .int .i64 s.e, .int .i64 s.x, .int .i64 s.y, .int .i64 s.z] 26)) := ((((Below.refl _ _).alloc (by simp) _).alloc (by simp) _).alloc (by simp; omega) _).alloc (by simp; omega) _
  have Ha := Lib.hid ha; clear ha
  have Hb := Lib.hid hb; clear hb
  have Ht := Lib.hid ht; clear ht
  have Hs := Lib.hid hs; clear hs
  have HBW := Lib.hid hbw; clear hbw
  go_enter Try.func7, Try.ntmps7
  go_wp2_with fail
  generalize (((w.alloc (.cells #[.int .i64 a.fr, .int .i64 a.to, .int .i64 a.kp, .int .i64 a.ad, .int .i64 a.t0, .int .i64 a.t1, .int .i64 a.t2] 24)).alloc (.cells #[.int .i64 b.fr, .int .i64 b.to, .int .i64 b.kp, .int .i64 b.ad, .int .i64 b.t0, .int .i64 b.t1, .int .i64 b.t2] 24)).alloc (.cells #[.int .i64 t.d, .int .i64 t.e, .int .i64 t.x, .int .i64 t.y, .int .i64 t.z] 26)).alloc (.cells #[.int .i64 s.d, .int .i64 s.e, .int .i64 s.x, .int .i64 s.y, .int .i64 s.z] 26) = w0 at *
  have la := Ha.out.lt
  have lb := Hb.out.lt
  have lt := Ht.out.lt
  have ls := Hs.out.lt
  obtain ⟨cb0, cb1, cb2, cb3, cb4, cb5, cb6⟩ := Hb.out.cells7
  obtain ⟨ct0, ct1, ct2, ct3, ct4⟩ := Ht.out.c5
  go_wp2_with fail
  clear la lb lt ls cb0 cb1 cb2 cb3 cb4 cb5 cb6 ct0 ct1 ct2 ct3 ct4
  refine (C1.out _).mono ?_; rintro e v1 ⟨rfl, hbel⟩
  dsimp only
  have ha := Ha.out.below hbel; clear Ha
  have hb := Hb.out.below hbel; clear Hb
  have ht := Ht.out.below hbel; clear Ht
  have hs := Hs.out.below hbel; clear Hs
  have hbw := HBW.out.trans (hbel.mono HBW.out.size); clear HBW hbel
  have Ha := Lib.hid ha; clear ha
  have Hb := Lib.hid hb; clear hb
  have Ht := Lib.hid ht; clear ht
  have Hs := Lib.hid hs; clear hs
  have HBW := Lib.hid hbw; clear hbw
  have la := Ha.out.lt
  have lb := Hb.out.lt
  have lt := Ht.out.lt
  have ls := Hs.out.lt
  obtain ⟨ca0, ca1, ca2, ca3, ca4, ca5, ca6⟩ := Ha.out.cells7
  obtain ⟨ct0, ct1, ct2, ct3, ct4⟩ := Ht.out.c5
  go_wp2_with fail
  clear la lb lt ls ca0 ca1 ca2 ca3 ca4 ca5 ca6 ct0 ct1 ct2 ct3 ct4
  have ha := Ha.out.alloc (.cells #[.int .i64 U.d, .int .i64 U.e, .int .i64 U.x, .int .i64 U.y, .int .i64 U.z] 26); clear Ha
  have hb := Hb.out.alloc (.cells #[.int .i64 U.d, .int .i64 U.e, .int .i64 U.x, .int .i64 U.y, .int .i64 U.z] 26); clear Hb
  have ht := Ht.out.alloc (.cells #[.int .i64 U.d, .int .i64 U.e, .int .i64 U.x, .int .i64 U.y, .int .i64 U.z] 26); clear Ht
  have hs := Hs.out.alloc (.cells #[.int .i64 U.d, .int .i64 U.e, .int .i64 U.x, .int .i64 U.y, .int .i64 U.z] 26); clear Hs
  have hu : Holds (v1.alloc (.cells #[.int .i64 U.d, .int .i64 U.e, .int .i64 U.x, .int .i64 U.y, .int .i64 U.z] 26)) v1.heap.size U := Row.made v1 _ _
  have hbw := HBW.out.alloc HBW.out.size (.cells #[.int .i64 U.d, .int .i64 U.e, .int .i64 U.x, .int .i64 U.y, .int .i64 U.z] 26); clear HBW
  generalize v1.alloc (.cells #[.int .i64 U.d, .int .i64 U.e, .int .i64 U.x, .int .i64 U.y, .int .i64 U.z] 26) = v2 at *
  generalize v1.heap.size = gu at *
  have Ha := Lib.hid ha; clear ha
  have Hb := Lib.hid hb; clear hb
  have Ht := Lib.hid ht; clear ht
  have Hs := Lib.hid hs; clear hs
  have Hu := Lib.hid hu; clear hu
  have HBW := Lib.hid hbw; clear hbw
  refine (C2.out _).mono ?_; rintro e v3 ⟨rfl, hbel⟩
  dsimp only
  have ha := Ha.out.below hbel; clear Ha
  have hb := Hb.out.below hbel; clear Hb
  have ht := Ht.out.below hbel; clear Ht
  have hs := Hs.out.below hbel; clear Hs
  have hu := Hu.out.below hbel; clear Hu
  have hbw := HBW.out.trans (hbel.mono HBW.out.size); clear HBW hbel
  have Ha := Lib.hid ha; clear ha
  have Hb := Lib.hid hb; clear hb
  have Ht := Lib.hid ht; clear ht
  have Hs := Lib.hid hs; clear hs
  have Hu := Lib.hid hu; clear hu
  have HBW := Lib.hid hbw; clear hbw
  have la := Ha.out.lt
  have lb := Hb.out.lt
  have lt := Ht.out.lt
  have ls := Hs.out.lt
  have lu := Hu.out.lt
  obtain ⟨ca0, ca1, ca2, ca3, ca4, ca5, ca6⟩ := Ha.out.cells7
  obtain ⟨cb0, cb1, cb2, cb3, cb4, cb5, cb6⟩ := Hb.out.cells7
  go_wp2_with fail
  clear la lb lt ls lu ca0 ca1 ca2 ca3 ca4 ca5 ca6 cb0 cb1 cb2 cb3 cb4 cb5 cb6
  have ha := Ha.out.alloc (.cells #[.int .i64 V.d, .int .i64 V.e, .int .i64 V.x, .int .i64 V.y, .int .i64 V.z] 26); clear Ha
  have hb := Hb.out.alloc (.cells #[.int .i64 V.d, .int .i64 V.e, .int .i64 V.x, .int .i64 V.y, .int .i64 V.z] 26); clear Hb
  have ht := Ht.out.alloc (.cells #[.int .i64 V.d, .int .i64 V.e, .int .i64 V.x, .int .i64 V.y, .int .i64 V.z] 26); clear Ht
  have hs := Hs.out.alloc (.cells #[.int .i64 V.d, .int .i64 V.e, .int .i64 V.x, .int .i64 V.y, .int .i64 V.z] 26); clear Hs
  have hu := Hu.out.alloc (.cells #[.int .i64 V.d, .int .i64 V.e, .int .i64 V.x, .int .i64 V.y, .int .i64 V.z] 26); clear Hu
  have hv : Holds (v3.alloc (.cells #[.int .i64 V.d, .int .i64 V.e, .int .i64 V.x, .int .i64 V.y, .int .i64 V.z] 26)) v3.heap.size V := Row.made v3 _ _
  have hbw := HBW.out.alloc HBW.out.size (.cells #[.int .i64 V.d, .int .i64 V.e, .int .i64 V.x, .int .i64 V.y, .int .i64 V.z] 26); clear HBW
  generalize v3.alloc (.cells #[.int .i64 V.d, .int .i64 V.e, .int .i64 V.x, .int .i64 V.y, .int .i64 V.z] 26) = v4 at *
  generalize v3.heap.size = gv at *
  have Ha := Lib.hid ha; clear ha
  have Hb := Lib.hid hb; clear hb
  have Ht := Lib.hid ht; clear ht
  have Hs := Lib.hid hs; clear hs
  have Hu := Lib.hid hu; clear hu
  have Hv := Lib.hid hv; clear hv
  have HBW := Lib.hid hbw; clear hbw
  refine (C3.out _).mono ?_; rintro e v5 ⟨rfl, hbel⟩
  dsimp only
  have ha := Ha.out.below hbel; clear Ha
  have hb := Hb.out.below hbel; clear Hb
  have ht := Ht.out.below hbel; clear Ht
  have hs := Hs.out.below hbel; clear Hs
  have hu := Hu.out.below hbel; clear Hu
  have hv := Hv.out.below hbel; clear Hv
  have hbw := HBW.out.trans (hbel.mono HBW.out.size); clear HBW hbel
  have Ha := Lib.hid ha; clear ha
  have Hb := Lib.hid hb; clear hb
  have Ht := Lib.hid ht; clear ht
  have Hs := Lib.hid hs; clear hs
  have Hu := Lib.hid hu; clear hu
  have Hv := Lib.hid hv; clear hv
  have HBW := Lib.hid hbw; clear hbw
  have la := Ha.out.lt
  have lb := Hb.out.lt
  have lt := Ht.out.lt
  have ls := Hs.out.lt
  have lu := Hu.out.lt
  have lv := Hv.out.lt
  obtain ⟨cb0, cb1, cb2, cb3, cb4, cb5, cb6⟩ := Hb.out.cells7
  obtain ⟨cs0, cs1, cs2, cs3, cs4⟩ := Hs.out.c5
  go_wp2_with fail
  clear la lb lt ls lu lv cb0 cb1 cb2 cb3 cb4 cb5 cb6 cs0 cs1 cs2 cs3 cs4
  refine (C5.out _).mono ?_; rintro e v6 ⟨rfl, hbel⟩
  dsimp only
  have ha := Ha.out.below hbel; clear Ha
  have hb := Hb.out.below hbel; clear Hb
  have ht := Ht.out.below hbel; clear Ht
  have hs := Hs.out.below hbel; clear Hs
  have hu := Hu.out.below hbel; clear Hu
  have hv := Hv.out.below hbel; clear Hv
  have hbw := HBW.out.trans (hbel.mono HBW.out.size); clear HBW hbel
  have Ha := Lib.hid ha; clear ha
  have Hb := Lib.hid hb; clear hb
  have Ht := Lib.hid ht; clear ht
  have Hs := Lib.hid hs; clear hs
  have Hu := Lib.hid hu; clear hu
  have Hv := Lib.hid hv; clear hv
  have HBW := Lib.hid hbw; clear hbw
  have la := Ha.out.lt
  have lb := Hb.out.lt
  have lt := Ht.out.lt
  have ls := Hs.out.lt
  have lu := Hu.out.lt
  have lv := Hv.out.lt
  obtain ⟨ct0, ct1, ct2, ct3, ct4⟩ := Ht.out.c5
  obtain ⟨cs0, cs1, cs2, cs3, cs4⟩ := Hs.out.c5
  go_wp2_with fail
  clear la lb lt ls lu lv ct0 ct1 ct2 ct3 ct4 cs0 cs1 cs2 cs3 cs4
  have ha := Ha.out.alloc (.cells #[.int .i64 W2.d, .int .i64 W2.e, .int .i64 W2.x, .int .i64 W2.y, .int .i64 W2.z] 26); clear Ha
  have hb := Hb.out.alloc (.cells #[.int .i64 W2.d, .int .i64 W2.e, .int .i64 W2.x, .int .i64 W2.y, .int .i64 W2.z] 26); clear Hb
  have ht := Ht.out.alloc (.cells #[.int .i64 W2.d, .int .i64 W2.e, .int .i64 W2.x, .int .i64 W2.y, .int .i64 W2.z] 26); clear Ht
  have hs := Hs.out.alloc (.cells #[.int .i64 W2.d, .int .i64 W2.e, .int .i64 W2.x, .int .i64 W2.y, .int .i64 W2.z] 26); clear Hs
  have hu := Hu.out.alloc (.cells #[.int .i64 W2.d, .int .i64 W2.e, .int .i64 W2.x, .int .i64 W2.y, .int .i64 W2.z] 26); clear Hu
  have hv := Hv.out.alloc (.cells #[.int .i64 W2.d, .int .i64 W2.e, .int .i64 W2.x, .int .i64 W2.y, .int .i64 W2.z] 26); clear Hv
  have hw2 : Holds (v6.alloc (.cells #[.int .i64 W2.d, .int .i64 W2.e, .int .i64 W2.x, .int .i64 W2.y, .int .i64 W2.z] 26)) v6.heap.size W2 := Row.made v6 _ _
  have hbw := HBW.out.alloc HBW.out.size (.cells #[.int .i64 W2.d, .int .i64 W2.e, .int .i64 W2.x, .int .i64 W2.y, .int .i64 W2.z] 26); clear HBW
  generalize v6.alloc (.cells #[.int .i64 W2.d, .int .i64 W2.e, .int .i64 W2.x, .int .i64 W2.y, .int .i64 W2.z] 26) = v7 at *
  generalize v6.heap.size = gw2 at *
  have Ha := Lib.hid ha; clear ha
  have Hb := Lib.hid hb; clear hb
  have Ht := Lib.hid ht; clear ht
  have Hs := Lib.hid hs; clear hs
  have Hu := Lib.hid hu; clear hu
  have Hv := Lib.hid hv; clear hv
  have Hw2 := Lib.hid hw2; clear hw2
  have HBW := Lib.hid hbw; clear hbw
  refine (C6.out _).mono ?_; rintro e v8 ⟨rfl, hbel⟩
  dsimp only
  have ha := Ha.out.below hbel; clear Ha
  have hb := Hb.out.below hbel; clear Hb
  have ht := Ht.out.below hbel; clear Ht
  have hs := Hs.out.below hbel; clear Hs
  have hu := Hu.out.below hbel; clear Hu
  have hv := Hv.out.below hbel; clear Hv
  have hw2 := Hw2.out.below hbel; clear Hw2
  have hbw := HBW.out.trans (hbel.mono HBW.out.size); clear HBW hbel
  have Ha := Lib.hid ha; clear ha
  have Hb := Lib.hid hb; clear hb
  have Ht := Lib.hid ht; clear ht
  have Hs := Lib.hid hs; clear hs
  have Hu := Lib.hid hu; clear hu
  have Hv := Lib.hid hv; clear hv
  have Hw2 := Lib.hid hw2; clear hw2
  have HBW := Lib.hid hbw; clear hbw
  have la := Ha.out.lt
  have lb := Hb.out.lt
  have lt := Ht.out.lt
  have ls := Hs.out.lt
  have lu := Hu.out.lt
  have lv := Hv.out.lt
  have lw2 := Hw2.out.lt
  obtain ⟨ct0, ct1, ct2, ct3, ct4⟩ := Ht.out.c5
  go_wp2_with fail
  clear la lb lt ls lu lv lw2 ct0 ct1 ct2 ct3 ct4
  refine (C8.out _).mono ?_; rintro e v9 ⟨rfl, hbel⟩
  dsimp only
  have ha := Ha.out.below hbel; clear Ha
  have hb := Hb.out.below hbel; clear Hb
  have ht := Ht.out.below hbel; clear Ht
  have hs := Hs.out.below hbel; clear Hs
  have hu := Hu.out.below hbel; clear Hu
  have hv := Hv.out.below hbel; clear Hv
  have hw2 := Hw2.out.below hbel; clear Hw2
  have hbw := HBW.out.trans (hbel.mono HBW.out.size); clear HBW hbel
  have Ha := Lib.hid ha; clear ha
  have Hb := Lib.hid hb; clear hb
  have Ht := Lib.hid ht; clear ht
  have Hs := Lib.hid hs; clear hs
  have Hu := Lib.hid hu; clear hu
  have Hv := Lib.hid hv; clear hv
  have Hw2 := Lib.hid hw2; clear hw2
  have HBW := Lib.hid hbw; clear hbw
  have la := Ha.out.lt
  have lb := Hb.out.lt
  have lt := Ht.out.lt
  have ls := Hs.out.lt
  have lu := Hu.out.lt
  have lv := Hv.out.lt
  have lw2 := Hw2.out.lt
  obtain ⟨ct0, ct1, ct2, ct3, ct4⟩ := Ht.out.c5
  go_wp2_with fail
  clear la lb lt ls lu lv lw2 ct0 ct1 ct2 ct3 ct4
  have ha := Ha.out.alloc (.cells #[.int .i64 N.fr, .int .i64 N.to, .int .i64 N.kp, .int .i64 N.ad, .int .i64 N.t0, .int .i64 N.t1, .int .i64 N.t2] 24); clear Ha
  have hb := Hb.out.alloc (.cells #[.int .i64 N.fr, .int .i64 N.to, .int .i64 N.kp, .int .i64 N.ad, .int .i64 N.t0, .int .i64 N.t1, .int .i64 N.t2] 24); clear Hb
  have ht := Ht.out.alloc (.cells #[.int .i64 N.fr, .int .i64 N.to, .int .i64 N.kp, .int .i64 N.ad, .int .i64 N.t0, .int .i64 N.t1, .int .i64 N.t2] 24); clear Ht
  have hs := Hs.out.alloc (.cells #[.int .i64 N.fr, .int .i64 N.to, .int .i64 N.kp, .int .i64 N.ad, .int .i64 N.t0, .int .i64 N.t1, .int .i64 N.t2] 24); clear Hs
  have hu := Hu.out.alloc (.cells #[.int .i64 N.fr, .int .i64 N.to, .int .i64 N.kp, .int .i64 N.ad, .int .i64 N.t0, .int .i64 N.t1, .int .i64 N.t2] 24); clear Hu
  have hv := Hv.out.alloc (.cells #[.int .i64 N.fr, .int .i64 N.to, .int .i64 N.kp, .int .i64 N.ad, .int .i64 N.t0, .int .i64 N.t1, .int .i64 N.t2] 24); clear Hv
  have hw2 := Hw2.out.alloc (.cells #[.int .i64 N.fr, .int .i64 N.to, .int .i64 N.kp, .int .i64 N.ad, .int .i64 N.t0, .int .i64 N.t1, .int .i64 N.t2] 24); clear Hw2
  have hn : HoldsM (v9.alloc (.cells #[.int .i64 N.fr, .int .i64 N.to, .int .i64 N.kp, .int .i64 N.ad, .int .i64 N.t0, .int .i64 N.t1, .int .i64 N.t2] 24)) v9.heap.size 24 N := Row.made v9 _ _
  have hbw := HBW.out.alloc HBW.out.size (.cells #[.int .i64 N.fr, .int .i64 N.to, .int .i64 N.kp, .int .i64 N.ad, .int .i64 N.t0, .int .i64 N.t1, .int .i64 N.t2] 24); clear HBW
  generalize v9.alloc (.cells #[.int .i64 N.fr, .int .i64 N.to, .int .i64 N.kp, .int .i64 N.ad, .int .i64 N.t0, .int .i64 N.t1, .int .i64 N.t2] 24) = v10 at *
  generalize v9.heap.size = gn at *
  have Ha := Lib.hid ha; clear ha
  have Hb := Lib.hid hb; clear hb
  have Ht := Lib.hid ht; clear ht
  have Hs := Lib.hid hs; clear hs
  have Hu := Lib.hid hu; clear hu
  have Hv := Lib.hid hv; clear hv
  have Hw2 := Lib.hid hw2; clear hw2
  have Hn := Lib.hid hn; clear hn
  have HBW := Lib.hid hbw; clear hbw
  refine (C9.out _).mono ?_; rintro e v11 ⟨rfl, hbel⟩
  dsimp only
  have ha := Ha.out.below hbel; clear Ha
  have hb := Hb.out.below hbel; clear Hb
  have ht := Ht.out.below hbel; clear Ht
  have hs := Hs.out.below hbel; clear Hs
  have hu := Hu.out.below hbel; clear Hu
  have hv := Hv.out.below hbel; clear Hv
  have hw2 := Hw2.out.below hbel; clear Hw2
  have hn := Hn.out.below hbel; clear Hn
  have hbw := HBW.out.trans (hbel.mono HBW.out.size); clear HBW hbel
  have Ha := Lib.hid ha; clear ha
  have Hb := Lib.hid hb; clear hb
  have Ht := Lib.hid ht; clear ht
  have Hs := Lib.hid hs; clear hs
  have Hu := Lib.hid hu; clear hu
  have Hv := Lib.hid hv; clear hv
  have Hw2 := Lib.hid hw2; clear hw2
  have Hn := Lib.hid hn; clear hn
  have HBW := Lib.hid hbw; clear hbw
  have la := Ha.out.lt
  have lb := Hb.out.lt
  have lt := Ht.out.lt
  have ls := Hs.out.lt
  have lu := Hu.out.lt
  have lv := Hv.out.lt
  have lw2 := Hw2.out.lt
  have ln := Hn.out.lt
  go_wp2_with fail
  clear la lb lt ls lu lv lw2 ln
  have ha := Ha.out.alloc (.cells #[.int .i64 X.d, .int .i64 X.e, .int .i64 X.x, .int .i64 X.y, .int .i64 X.z] 26); clear Ha
  have hb := Hb.out.alloc (.cells #[.int .i64 X.d, .int .i64 X.e, .int .i64 X.x, .int .i64 X.y, .int .i64 X.z] 26); clear Hb
  have ht := Ht.out.alloc (.cells #[.int .i64 X.d, .int .i64 X.e, .int .i64 X.x, .int .i64 X.y, .int .i64 X.z] 26); clear Ht
  have hs := Hs.out.alloc (.cells #[.int .i64 X.d, .int .i64 X.e, .int .i64 X.x, .int .i64 X.y, .int .i64 X.z] 26); clear Hs
  have hu := Hu.out.alloc (.cells #[.int .i64 X.d, .int .i64 X.e, .int .i64 X.x, .int .i64 X.y, .int .i64 X.z] 26); clear Hu
  have hv := Hv.out.alloc (.cells #[.int .i64 X.d, .int .i64 X.e, .int .i64 X.x, .int .i64 X.y, .int .i64 X.z] 26); clear Hv
  have hw2 := Hw2.out.alloc (.cells #[.int .i64 X.d, .int .i64 X.e, .int .i64 X.x, .int .i64 X.y, .int .i64 X.z] 26); clear Hw2
  have hn := Hn.out.alloc (.cells #[.int .i64 X.d, .int .i64 X.e, .int .i64 X.x, .int .i64 X.y, .int .i64 X.z] 26); clear Hn
  have hx : Holds (v11.alloc (.cells #[.int .i64 X.d, .int .i64 X.e, .int .i64 X.x, .int .i64 X.y, .int .i64 X.z] 26)) v11.heap.size X := Row.made v11 _ _
  have hbw := HBW.out.alloc HBW.out.size (.cells #[.int .i64 X.d, .int .i64 X.e, .int .i64 X.x, .int .i64 X.y, .int .i64 X.z] 26); clear HBW
  generalize v11.alloc (.cells #[.int .i64 X.d, .int .i64 X.e, .int .i64 X.x, .int .i64 X.y, .int .i64 X.z] 26) = v12 at *
  generalize v11.heap.size = gx at *
  have Ha := Lib.hid ha; clear ha
  have Hb := Lib.hid hb; clear hb
  have Ht := Lib.hid ht; clear ht
  have Hs := Lib.hid hs; clear hs
  have Hu := Lib.hid hu; clear hu
  have Hv := Lib.hid hv; clear hv
  have Hw2 := Lib.hid hw2; clear hw2
  have Hn := Lib.hid hn; clear hn
  have Hx := Lib.hid hx; clear hx
  have HBW := Lib.hid hbw; clear hbw
  cases R with
  | true =>
    obtain ⟨h1, h2, h3⟩ := HR.out rfl
    subst h1; subst h2
    have HX := Lib.hid h3; clear h3 HR
    refine wp_region_below (by kernel_rfl) (by kernel_rfl) ?_
    refine wpQuiet_step (fun K hK => ?_); refine q_load (p := .pointer (some ⟨(w.heap.size + 1 + 1), 0, none⟩)) 26 _ rfl rfl rfl (load_t Ht.out) ?_; go_simp; (with_reducible refine hK _ ?_); clear hK K
    refine wpQuiet_step (fun K hK => ?_); go_simp; (with_reducible refine ⟨_, fun _ hb => (C10.out _).mono fun _ _ h => ⟨h.1, hb.trans (h.2.mono (by simpa using hb.size))⟩, hK _ ?_⟩); clear hK K
    refine wpQuiet_step (fun K hK => ?_); go_simp; (first | (with_reducible refine hK _ ?_) | (with_reducible refine ⟨_, fun _ _ => rfl, hK _ ?_⟩)); clear hK K
    refine wpQuiet_step (fun K hK => ?_); go_simp; (first | (with_reducible refine hK _ ?_) | (with_reducible refine ⟨_, fun _ _ => rfl, hK _ ?_⟩)); clear hK K
    refine wpQuiet_step (fun K hK => ?_); go_simp; (first | (with_reducible refine hK _ ?_) | (with_reducible refine ⟨_, fun _ _ => rfl, hK _ ?_⟩)); clear hK K
    refine wpQuiet_step (fun K hK => ?_); go_simp; (first | (with_reducible refine hK _ ?_) | (with_reducible refine ⟨_, fun _ _ => rfl, hK _ ?_⟩)); clear hK K
    refine wpQuiet_step (fun K hK => ?_); go_simp; (first | (with_reducible refine hK _ ?_) | (with_reducible refine ⟨_, fun _ _ => rfl, hK _ ?_⟩)); clear hK K
    refine wpQuiet_step (fun K hK => ?_); go_simp; (first | (with_reducible refine hK _ ?_) | (with_reducible refine ⟨_, fun _ _ => rfl, hK _ ?_⟩)); clear hK K
    refine wpQuiet_step (fun K hK => ?_); go_simp; (first | (with_reducible refine hK _ ?_) | (with_reducible refine ⟨_, fun _ _ => rfl, hK _ ?_⟩)); clear hK K
    refine wpQuiet_step (fun K hK => ?_); refine q_load (p := .pointer (some ⟨gx, 0, none⟩)) 26 _ rfl rfl rfl (load_t Hx.out) ?_; go_simp; (with_reducible refine hK _ ?_); clear hK K
    refine wpQuiet_step (fun K hK => ?_); refine q_load (p := .pointer (some ⟨(w.heap.size + 1 + 1), 0, none⟩)) 26 _ rfl rfl rfl (load_t Ht.out) ?_; go_simp; (with_reducible refine hK _ ?_); clear hK K
    refine wpQuiet_step (fun K hK => ?_); refine q_bin _ _ _ _ _ rfl rfl rfl rfl (eqt_is _ _ HX.out) ?_; go_simp; (with_reducible refine hK _ ?_); clear hK K
    refine wpQuiet_step (fun K hK => ?_); go_simp; (first | (with_reducible refine hK _ ?_) | (with_reducible refine ⟨_, fun _ _ => rfl, hK _ ?_⟩)); clear hK K
    refine wpQuiet_step (fun K hK => ?_); go_simp; (first | (with_reducible refine hK _ ?_) | (with_reducible refine ⟨_, fun _ _ => rfl, hK _ ?_⟩)); clear hK K
    refine wpQuiet_step (fun K hK => ?_); go_simp; (first | (with_reducible refine hK _ ?_) | (with_reducible refine ⟨_, fun _ _ => rfl, hK _ ?_⟩)); clear hK K
    refine wpQuiet_step (fun K hK => ?_); refine q_load (p := .pointer (some ⟨w.heap.size, 0, none⟩)) 24 _ rfl rfl rfl (load_m Ha.out) ?_; go_simp; (with_reducible refine hK _ ?_); clear hK K
    refine wpQuiet_step (fun K hK => ?_); refine q_load (p := .pointer (some ⟨w.heap.size, 0, none⟩)) 24 _ rfl rfl rfl (load_m Ha.out) ?_; go_simp; (with_reducible refine hK _ ?_); clear hK K
    refine wpQuiet_step (fun K hK => ?_); go_simp; (with_reducible refine ⟨_, fun _ hb => (C11.out _).mono fun _ _ h => ⟨h.1, hb.trans (h.2.mono (by simpa using hb.size))⟩, hK _ ?_⟩); clear hK K
    refine wpQuiet_step (fun K hK => ?_); refine q_load (p := .pointer (some ⟨w.heap.size, 0, none⟩)) 24 _ rfl rfl rfl (load_m Ha.out) ?_; go_simp; (with_reducible refine hK _ ?_); clear hK K
    refine wpQuiet_step (fun K hK => ?_); go_simp; (with_reducible refine ⟨_, fun _ hb => (C12.out _).mono fun _ _ h => ⟨h.1, hb.trans (h.2.mono (by simpa using hb.size))⟩, hK _ ?_⟩); clear hK K
    refine wpQuiet_step (fun K hK => ?_); refine q_bin _ _ _ _ _ rfl rfl rfl rfl (eqb_self _ _ D) ?_; go_simp; (with_reducible refine hK _ ?_); clear hK K
    refine wpQuiet_step (fun K hK => ?_); go_simp; (first | (with_reducible refine hK _ ?_) | (with_reducible refine ⟨_, fun _ _ => rfl, hK _ ?_⟩)); clear hK K
    refine wpQuiet_step (fun K hK => ?_); go_simp; (first | (with_reducible refine hK _ ?_) | (with_reducible refine ⟨_, fun _ _ => rfl, hK _ ?_⟩)); clear hK K
    refine wpQuiet_step (fun K hK => ?_); go_simp; (with_reducible refine ⟨_, fun _ hb => (CW.out _).mono fun _ _ h => ⟨h.1, hb.trans (h.2.mono (by simpa using hb.size))⟩, hK _ ?_⟩); clear hK K
    refine wpQuiet_step (fun K hK => ?_); go_simp; (first | (with_reducible refine hK _ ?_) | (with_reducible refine ⟨_, fun _ _ => rfl, hK _ ?_⟩)); clear hK K
    refine wpQuiet_step (fun K hK => ?_); go_simp; (first | (with_reducible refine hK _ ?_) | (with_reducible refine ⟨_, fun _ _ => rfl, hK _ ?_⟩)); clear hK K
    refine wpQuiet_nil ?_
    intro vz hbel
    have hbw := HBW.out.trans (hbel.mono HBW.out.size); clear HBW hbel
    go_wp2_with fail
    go_ret
    exact ⟨rfl, hbw⟩
  | false =>
    clear HR
    refine wp_region_below (by kernel_rfl) (by kernel_rfl) ?_
    refine wpQuiet_step (fun K hK => ?_); refine q_load (p := .pointer (some ⟨(w.heap.size + 1 + 1), 0, none⟩)) 26 _ rfl rfl rfl (load_t Ht.out) ?_; go_simp; (with_reducible refine hK _ ?_); clear hK K
    refine wpQuiet_step (fun K hK => ?_); go_simp; (with_reducible refine ⟨_, fun _ hb => (C10.out _).mono fun _ _ h => ⟨h.1, hb.trans (h.2.mono (by simpa using hb.size))⟩, hK _ ?_⟩); clear hK K
    refine wpQuiet_step (fun K hK => ?_); go_simp; (first | (with_reducible refine hK _ ?_) | (with_reducible refine ⟨_, fun _ _ => rfl, hK _ ?_⟩)); clear hK K
    refine wpQuiet_step (fun K hK => ?_); go_simp; (try (with_reducible refine ⟨_, fun _ _ => rfl, ?_⟩)); generalize hA : ({ tmps := _, defers := _ } : Act) = A; (with_reducible refine hK A ?_); clear hK K
    refine wpQuiet_step (fun K hK => ?_); subst hA; go_simp; (try (with_reducible refine ⟨_, fun _ _ => rfl, ?_⟩)); generalize hA : ({ tmps := _, defers := _ } : Act) = A; (with_reducible refine hK A ?_); clear hK K
    refine wpQuiet_step (fun K hK => ?_); subst hA; go_simp; (try (with_reducible refine ⟨_, fun _ _ => rfl, ?_⟩)); generalize hA : ({ tmps := _, defers := _ } : Act) = A; (with_reducible refine hK A ?_); clear hK K
    refine wpQuiet_step (fun K hK => ?_); subst hA; go_simp; generalize hA : ({ tmps := _, defers := _ } : Act) = A; rw [if_neg (by simp [undef])]; (with_reducible refine hK A ?_); clear hK K
    refine wpQuiet_step (fun K hK => ?_); subst hA; go_simp; (try (with_reducible refine ⟨_, fun _ _ => rfl, ?_⟩)); generalize hA : ({ tmps := _, defers := _ } : Act) = A; (with_reducible refine hK A ?_); clear hK K
    refine wpQuiet_step (fun K hK => ?_); subst hA; go_simp; (try (with_reducible refine ⟨_, fun _ _ => rfl, ?_⟩)); generalize hA : ({ tmps := _, defers := _ } : Act) = A; (with_reducible refine hK A ?_); clear hK K
    refine wpQuiet_step (fun K hK => ?_); subst hA; go_simp; generalize hA : ({ tmps := _, defers := _ } : Act) = A; rw [if_neg (by simp [undef])]; (with_reducible refine hK A ?_); clear hK K
    refine wpQuiet_step (fun K hK => ?_); subst hA; go_simp; generalize hA : ({ tmps := _, defers := _ } : Act) = A; rw [if_neg (by simp [undef])]; (with_reducible refine hK A ?_); clear hK K
    refine wpQuiet_step (fun K hK => ?_); subst hA; go_simp; generalize hA : ({ tmps := _, defers := _ } : Act) = A; rw [if_neg (by simp [undef])]; (with_reducible refine hK A ?_); clear hK K
    refine wpQuiet_step (fun K hK => ?_); subst hA; go_simp; (try (with_reducible refine ⟨_, fun _ _ => rfl, ?_⟩)); generalize hA : ({ tmps := _, defers := _ } : Act) = A; (with_reducible refine hK A ?_); clear hK K
    refine wpQuiet_step (fun K hK => ?_); subst hA; go_simp; (first | (with_reducible refine hK _ ?_) | (with_reducible refine ⟨_, fun _ _ => rfl, hK _ ?_⟩)); clear hK K
    refine wpQuiet_step (fun K hK => ?_); go_simp; (first | (with_reducible refine hK _ ?_) | (with_reducible refine ⟨_, fun _ _ => rfl, hK _ ?_⟩)); clear hK K
    refine wpQuiet_step (fun K hK => ?_); refine q_load (p := .pointer (some ⟨w.heap.size, 0, none⟩)) 24 _ rfl rfl rfl (load_m Ha.out) ?_; go_simp; (with_reducible refine hK _ ?_); clear hK K
    refine wpQuiet_step (fun K hK => ?_); refine q_load (p := .pointer (some ⟨w.heap.size, 0, none⟩)) 24 _ rfl rfl rfl (load_m Ha.out) ?_; go_simp; (with_reducible refine hK _ ?_); clear hK K
    refine wpQuiet_step (fun K hK => ?_); go_simp; (with_reducible refine ⟨_, fun _ hb => (C11.out _).mono fun _ _ h => ⟨h.1, hb.trans (h.2.mono (by simpa using hb.size))⟩, hK _ ?_⟩); clear hK K
    refine wpQuiet_step (fun K hK => ?_); refine q_load (p := .pointer (some ⟨w.heap.size, 0, none⟩)) 24 _ rfl rfl rfl (load_m Ha.out) ?_; go_simp; (with_reducible refine hK _ ?_); clear hK K
    refine wpQuiet_step (fun K hK => ?_); go_simp; (with_reducible refine ⟨_, fun _ hb => (C12.out _).mono fun _ _ h => ⟨h.1, hb.trans (h.2.mono (by simpa using hb.size))⟩, hK _ ?_⟩); clear hK K
    refine wpQuiet_step (fun K hK => ?_); refine q_bin _ _ _ _ _ rfl rfl rfl rfl (eqb_self _ _ D) ?_; go_simp; (with_reducible refine hK _ ?_); clear hK K
    refine wpQuiet_step (fun K hK => ?_); go_simp; (first | (with_reducible refine hK _ ?_) | (with_reducible refine ⟨_, fun _ _ => rfl, hK _ ?_⟩)); clear hK K
    refine wpQuiet_step (fun K hK => ?_); go_simp; (first | (with_reducible refine hK _ ?_) | (with_reducible refine ⟨_, fun _ _ => rfl, hK _ ?_⟩)); clear hK K
    refine wpQuiet_step (fun K hK => ?_); go_simp; (with_reducible refine ⟨_, fun _ hb => (CW.out _).mono fun _ _ h => ⟨h.1, hb.trans (h.2.mono (by simpa using hb.size))⟩, hK _ ?_⟩); clear hK K
    refine wpQuiet_step (fun K hK => ?_); go_simp; (first | (with_reducible refine hK _ ?_) | (with_reducible refine ⟨_, fun _ _ => rfl, hK _ ?_⟩)); clear hK K
    refine wpQuiet_step (fun K hK => ?_); go_simp; (first | (with_reducible refine hK _ ?_) | (with_reducible refine ⟨_, fun _ _ => rfl, hK _ ?_⟩)); clear hK K
    refine wpQuiet_nil ?_
    intro vz hbel
    have hbw := HBW.out.trans (hbel.mono HBW.out.size); clear HBW hbel
    go_wp2_with fail
    go_ret
    exact ⟨rfl, hbw⟩
set_option maxHeartbeats 8000000 in
theorem w_101 (a b N : Sm) (t s U V W2 X : St) (I Y E F R D : Bool) (w : World) (hR : R = true → E = true ∧ F = true ∧ X = t)
    (c1 : ∀ w, Calls Try.prog 11 #[.agg #[.int .i64 b.fr, .int .i64 b.to, .int .i64 b.kp, .int .i64 b.ad, .int .i64 b.t0, .int .i64 b.t1, .int .i64 b.t2], .agg #[.int .i64 t.d, .int .i64 t.e, .int .i64 t.x, .int .i64 t.y, .int .i64 t.z]] w fun e w' => e = .returned (.tuple #[.agg #[.int .i64 U.d, .int .i64 U.e, .int .i64 U.x, .int .i64 U.y, .int .i64 U.z], .bool true]) ∧ Below w.heap.size w w')
    (c2 : ∀ w, Calls Try.prog 11 #[.agg #[.int .i64 a.fr, .int .i64 a.to, .int .i64 a.kp, .int .i64 a.ad, .int .i64 a.t0, .int .i64 a.t1, .int .i64 a.t2], .agg #[.int .i64 t.d, .int .i64 t.e, .int .i64 t.x, .int .i64 t.y, .int .i64 t.z]] w fun e w' => e = .returned (.tuple #[.agg #[.int .i64 V.d, .int .i64 V.e, .int .i64 V.x, .int .i64 V.y, .int .i64 V.z], .bool I]) ∧ Below w.heap.size w w')
    (c3 : ∀ w, Calls Try.prog 21 #[.agg #[.int .i64 a.fr, .int .i64 a.to, .int .i64 a.kp, .int .i64 a.ad, .int .i64 a.t0, .int .i64 a.t1, .int .i64 a.t2], .agg #[.int .i64 b.fr, .int .i64 b.to, .int .i64 b.kp, .int .i64 b.ad, .int .i64 b.t0, .int .i64 b.t1, .int .i64 b.t2]] w fun e w' => e = .returned (.bool false) ∧ Below w.heap.size w w')
    (c5 : ∀ w, Calls Try.prog 11 #[.agg #[.int .i64 b.fr, .int .i64 b.to, .int .i64 b.kp, .int .i64 b.ad, .int .i64 b.t0, .int .i64 b.t1, .int .i64 b.t2], .agg #[.int .i64 s.d, .int .i64 s.e, .int .i64 s.x, .int .i64 s.y, .int .i64 s.z]] w fun e w' => e = .returned (.tuple #[.agg #[.int .i64 W2.d, .int .i64 W2.e, .int .i64 W2.x, .int .i64 W2.y, .int .i64 W2.z], .bool true]) ∧ Below w.heap.size w w')
    (c6 : ∀ w, Calls Try.prog 27 #[.agg #[.int .i64 s.d, .int .i64 s.e, .int .i64 s.x, .int .i64 s.y, .int .i64 s.z], .agg #[.int .i64 t.d, .int .i64 t.e, .int .i64 t.x, .int .i64 t.y, .int .i64 t.z]] w fun e w' => e = .returned (.bool true) ∧ Below w.heap.size w w')
    (c7 : ∀ w, Calls Try.prog 27 #[.agg #[.int .i64 W2.d, .int .i64 W2.e, .int .i64 W2.x, .int .i64 W2.y, .int .i64 W2.z], .agg #[.int .i64 U.d, .int .i64 U.e, .int .i64 U.x, .int .i64 U.y, .int .i64 U.z]] w fun e w' => e = .returned (.bool true) ∧ Below w.heap.size w w')
    (c8 : ∀ w, Calls Try.prog 14 #[.int .u8 2, .int .i64 t.d] w fun e w' => e = .returned (.tuple #[.agg #[.int .i64 N.fr, .int .i64 N.to, .int .i64 N.kp, .int .i64 N.ad, .int .i64 N.t0, .int .i64 N.t1, .int .i64 N.t2], .bool E]) ∧ Below w.heap.size w w')
    (c9 : ∀ w, Calls Try.prog 11 #[.agg #[.int .i64 N.fr, .int .i64 N.to, .int .i64 N.kp, .int .i64 N.ad, .int .i64 N.t0, .int .i64 N.t1, .int .i64 N.t2], .agg #[.int .i64 t.d, .int .i64 t.e, .int .i64 t.x, .int .i64 t.y, .int .i64 t.z]] w fun e w' => e = .returned (.tuple #[.agg #[.int .i64 X.d, .int .i64 X.e, .int .i64 X.x, .int .i64 X.y, .int .i64 X.z], .bool F]) ∧ Below w.heap.size w w')
    (c10 : ∀ w, Calls Try.prog 28 #[.agg #[.int .i64 t.d, .int .i64 t.e, .int .i64 t.x, .int .i64 t.y, .int .i64 t.z]] w fun e w' => e = .returned (.bool R) ∧ Below w.heap.size w w')
    (c11 : ∀ w, Calls Try.prog 21 #[.agg #[.int .i64 a.fr, .int .i64 a.to, .int .i64 a.kp, .int .i64 a.ad, .int .i64 a.t0, .int .i64 a.t1, .int .i64 a.t2], .agg #[.int .i64 a.fr, .int .i64 a.to, .int .i64 a.kp, .int .i64 a.ad, .int .i64 a.t0, .int .i64 a.t1, .int .i64 a.t2]] w fun e w' => e = .returned (.bool D) ∧ Below w.heap.size w w')
    (c12 : ∀ w, Calls Try.prog 16 #[.agg #[.int .i64 a.fr, .int .i64 a.to, .int .i64 a.kp, .int .i64 a.ad, .int .i64 a.t0, .int .i64 a.t1, .int .i64 a.t2]] w fun e w' => e = .returned (.bool D) ∧ Below w.heap.size w w')
    : Calls Try.prog 7 #[.agg #[.int .i64 a.fr, .int .i64 a.to, .int .i64 a.kp, .int .i64 a.ad, .int .i64 a.t0, .int .i64 a.t1, .int .i64 a.t2], .agg #[.int .i64 b.fr, .int .i64 b.to, .int .i64 b.kp, .int .i64 b.ad, .int .i64 b.t0, .int .i64 b.t1, .int .i64 b.t2], .agg #[.int .i64 t.d, .int .i64 t.e, .int .i64 t.x, .int .i64 t.y, .int .i64 t.z], .agg #[.int .i64 s.d, .int .i64 s.e, .int .i64 s.x, .int .i64 s.y, .int .i64 s.z]] w fun e w' => e = .returned (.bool true) ∧ Below w.heap.size w w' := by
  have cw := fun w => works_any w
  have C1 := Lib.hid c1; have C2 := Lib.hid c2; have C3 := Lib.hid c3; have C5 := Lib.hid c5; have C6 := Lib.hid c6; have C8 := Lib.hid c8; have C9 := Lib.hid c9; have C10 := Lib.hid c10; have C11 := Lib.hid c11; have C12 := Lib.hid c12; have CW := Lib.hid cw; have C7 := Lib.hid c7; clear c1 c2 c3 c5 c6 c8 c9 c10 c11 c12 cw c7
  have HR := Lib.hid hR; clear hR
  have ha : HoldsM ((((w.alloc (.cells #[.int .i64 a.fr, .int .i64 a.to, .int .i64 a.kp, .int .i64 a.ad, .int .i64 a.t0, .int .i64 a.t1, .int .i64 a.t2] 24)).alloc (.cells #[.int .i64 b.fr, .int .i64 b.to, .int .i64 b.kp, .int .i64 b.ad, .int .i64 b.t0, .int .i64 b.t1, .int .i64 b.t2] 24)).alloc (.cells #[.int .i64 t.d, .int .i64 t.e, .int .i64 t.x, .int .i64 t.y, .int .i64 t.z] 26)).alloc (.cells #[.int .i64 s.d, .int .i64 s.e, .int .i64 s.x, .int .i64 s.y, .int .i64 s.z] 26)) w.heap.size 24 a := by
    have hq := Row.alloc (Row.alloc (Row.alloc (Row.made w 24 [.int .i64 a.fr, .int .i64 a.to, .int .i64 a.kp, .int .i64 a.ad, .int .i64 a.t0, .int .i64 a.t1, .int .i64 a.t2]) (.cells #[.int .i64 b.fr, .int .i64 b.to, .int .i64 b.kp, .int .i64 b.ad, .int .i64 b.t0, .int .i64 b.t1, .int .i64 b.t2] 24)) (.cells #[.int .i64 t.d, .int .i64 t.e, .int .i64 t.x, .int .i64 t.y, .int .i64 t.z] 26)) (.cells #[.int .i64 s.d, .int .i64 s.e, .int .i64 s.x, .int .i64 s.y, .int .i64 s.z] 26)
    exact hq
  have hb : HoldsM ((((w.alloc (.cells #[.int .i64 a.fr, .int .i64 a.to, .int .i64 a.kp, .int .i64 a.ad, .int .i64 a.t0, .int .i64 a.t1, .int .i64 a.t2] 24)).alloc (.cells #[.int .i64 b.fr, .int .i64 b.to, .int .i64 b.kp, .int .i64 b.ad, .int .i64 b.t0, .int .i64 b.t1, .int .i64 b.t2] 24)).alloc (.cells #[.int .i64 t.d, .int .i64 t.e, .int .i64 t.x, .int .i64 t.y, .int .i64 t.z] 26)).alloc (.cells #[.int .i64 s.d, .int .i64 s.e, .int .i64 s.x, .int .i64 s.y, .int .i64 s.z] 26)) (w.heap.size + 1) 24 b := by
    have hq := Row.alloc (Row.alloc (Row.made (w.alloc (.cells #[.int .i64 a.fr, .int .i64 a.to, .int .i64 a.kp, .int .i64 a.ad, .int .i64 a.t0, .int .i64 a.t1, .int .i64 a.t2] 24)) 24 [.int .i64 b.fr, .int .i64 b.to, .int .i64 b.kp, .int .i64 b.ad, .int .i64 b.t0, .int .i64 b.t1, .int .i64 b.t2]) (.cells #[.int .i64 t.d, .int .i64 t.e, .int .i64 t.x, .int .i64 t.y, .int .i64 t.z] 26)) (.cells #[.int .i64 s.d, .int .i64 s.e, .int .i64 s.x, .int .i64 s.y, .int .i64 s.z] 26)
    rw [size_alloc] at hq
    exact hq
  have ht : Holds ((((w.alloc (.cells #[.int .i64 a.fr, .int .i64 a.to, .int .i64 a.kp, .int .i64 a.ad, .int .i64 a.t0, .int .i64 a.t1, .int .i64 a.t2] 24)).alloc (.cells #[.int .i64 b.fr, .int .i64 b.to, .int .i64 b.kp, .int .i64 b.ad, .int .i64 b.t0, .int .i64 b.t1, .int .i64 b.t2] 24)).alloc (.cells #[.int .i64 t.d, .int .i64 t.e, .int .i64 t.x, .int .i64 t.y, .int .i64 t.z] 26)).alloc (.cells #[.int .i64 s.d, .int .i64 s.e, .int .i64 s.x, .int .i64 s.y, .int .i64 s.z] 26)) (w.heap.size + 1 + 1) t := by
    have hq := Row.alloc (Row.made ((w.alloc (.cells #[.int .i64 a.fr, .int .i64 a.to, .int .i64 a.kp, .int .i64 a.ad, .int .i64 a.t0, .int .i64 a.t1, .int .i64 a.t2] 24)).alloc (.cells #[.int .i64 b.fr, .int .i64 b.to, .int .i64 b.kp, .int .i64 b.ad, .int .i64 b.t0, .int .i64 b.t1, .int .i64 b.t2] 24)) 26 [.int .i64 t.d, .int .i64 t.e, .int .i64 t.x, .int .i64 t.y, .int .i64 t.z]) (.cells #[.int .i64 s.d, .int .i64 s.e, .int .i64 s.x, .int .i64 s.y, .int .i64 s.z] 26)
    rw [size_alloc, size_alloc] at hq
    exact hq
  have hs : Holds ((((w.alloc (.cells #[.int .i64 a.fr, .int .i64 a.to, .int .i64 a.kp, .int .i64 a.ad, .int .i64 a.t0, .int .i64 a.t1, .int .i64 a.t2] 24)).alloc (.cells #[.int .i64 b.fr, .int .i64 b.to, .int .i64 b.kp, .int .i64 b.ad, .int .i64 b.t0, .int .i64 b.t1, .int .i64 b.t2] 24)).alloc (.cells #[.int .i64 t.d, .int .i64 t.e, .int .i64 t.x, .int .i64 t.y, .int .i64 t.z] 26)).alloc (.cells #[.int .i64 s.d, .int .i64 s.e, .int .i64 s.x, .int .i64 s.y, .int .i64 s.z] 26)) (w.heap.size + 1 + 1 + 1) s := by
    have hq := Row.made (((w.alloc (.cells #[.int .i64 a.fr, .int .i64 a.to, .int .i64 a.kp, .int .i64 a.ad, .int .i64 a.t0, .int .i64 a.t1, .int .i64 a.t2] 24)).alloc (.cells #[.int .i64 b.fr, .int .i64 b.to, .int .i64 b.kp, .int .i64 b.ad, .int .i64 b.t0, .int .i64 b.t1, .int .i64 b.t2] 24)).alloc (.cells #[.int .i64 t.d, .int .i64 t.e, .int .i64 t.x, .int .i64 t.y, .int .i64 t.z] 26)) 26 [.int .i64 s.d, .int .i64 s.e, .int .i64 s.x, .int .i64 s.y, .int .i64 s.z]
    rw [size_alloc, size_alloc, size_alloc] at hq
    exact hq
  have hbw : Below w.heap.size w ((((w.alloc (.cells #[.int .i64 a.fr, .int .i64 a.to, .int .i64 a.kp, .int .i64 a.ad, .int .i64 a.t0, .int .i64 a.t1, .int .i64 a.t2] 24)).alloc (.cells #[.int .i64 b.fr, .int .i64 b.to, .int .i64 b.kp, .int .i64 b.ad, .int .i64 b.t0, .int .i64 b.t1, .int .i64 b.t2] 24)).alloc (.cells #[.int .i64 t.d, .int .i64 t.e, .int .i64 t.x, .int .i64 t.y, .int .i64 t.z] 26)).alloc (.cells #[.int .i64 s.d, .int .i64 s.e, .int .i64 s.x, .int .i64 s.y, .int .i64 s.z] 26)) := ((((Below.refl _ _).alloc (by simp) _).alloc (by simp) _).alloc (by simp; omega) _).alloc (by simp; omega) _
  have Ha := Lib.hid ha; clear ha
  have Hb := Lib.hid hb; clear hb
  have Ht := Lib.hid ht; clear ht
  have Hs := Lib.hid hs; clear hs
  have HBW := Lib.hid hbw; clear hbw
  go_enter Try.func7, Try.ntmps7
  go_wp2_with fail
  generalize (((w.alloc (.cells #[.int .i64 a.fr, .int .i64 a.to, .int .i64 a.kp, .int .i64 a.ad, .int .i64 a.t0, .int .i64 a.t1, .int .i64 a.t2] 24)).alloc (.cells #[.int .i64 b.fr, .int .i64 b.to, .int .i64 b.kp, .int .i64 b.ad, .int .i64 b.t0, .int .i64 b.t1, .int .i64 b.t2] 24)).alloc (.cells #[.int .i64 t.d, .int .i64 t.e, .int .i64 t.x, .int .i64 t.y, .int .i64 t.z] 26)).alloc (.cells #[.int .i64 s.d, .int .i64 s.e, .int .i64 s.x, .int .i64 s.y, .int .i64 s.z] 26) = w0 at *
  have la := Ha.out.lt
  have lb := Hb.out.lt
  have lt := Ht.out.lt
  have ls := Hs.out.lt
  obtain ⟨cb0, cb1, cb2, cb3, cb4, cb5, cb6⟩ := Hb.out.cells7
  obtain ⟨ct0, ct1, ct2, ct3, ct4⟩ := Ht.out.c5
  go_wp2_with fail
  clear la lb lt ls cb0 cb1 cb2 cb3 cb4 cb5 cb6 ct0 ct1 ct2 ct3 ct4
  refine (C1.out _).mono ?_; rintro e v1 ⟨rfl, hbel⟩
  dsimp only
  have ha := Ha.out.below hbel; clear Ha
  have hb := Hb.out.below hbel; clear Hb
  have ht := Ht.out.below hbel; clear Ht
  have hs := Hs.out.below hbel; clear Hs
  have hbw := HBW.out.trans (hbel.mono HBW.out.size); clear HBW hbel
  have Ha := Lib.hid ha; clear ha
  have Hb := Lib.hid hb; clear hb
  have Ht := Lib.hid ht; clear ht
  have Hs := Lib.hid hs; clear hs
  have HBW := Lib.hid hbw; clear hbw
  have la := Ha.out.lt
  have lb := Hb.out.lt
  have lt := Ht.out.lt
  have ls := Hs.out.lt
  obtain ⟨ca0, ca1, ca2, ca3, ca4, ca5, ca6⟩ := Ha.out.cells7
  obtain ⟨ct0, ct1, ct2, ct3, ct4⟩ := Ht.out.c5
  go_wp2_with fail
  clear la lb lt ls ca0 ca1 ca2 ca3 ca4 ca5 ca6 ct0 ct1 ct2 ct3 ct4
  have ha := Ha.out.alloc (.cells #[.int .i64 U.d, .int .i64 U.e, .int .i64 U.x, .int .i64 U.y, .int .i64 U.z] 26); clear Ha
  have hb := Hb.out.alloc (.cells #[.int .i64 U.d, .int .i64 U.e, .int .i64 U.x, .int .i64 U.y, .int .i64 U.z] 26); clear Hb
  have ht := Ht.out.alloc (.cells #[.int .i64 U.d, .int .i64 U.e, .int .i64 U.x, .int .i64 U.y, .int .i64 U.z] 26); clear Ht
  have hs := Hs.out.alloc (.cells #[.int .i64 U.d, .int .i64 U.e, .int .i64 U.x, .int .i64 U.y, .int .i64 U.z] 26); clear Hs
  have hu : Holds (v1.alloc (.cells #[.int .i64 U.d, .int .i64 U.e, .int .i64 U.x, .int .i64 U.y, .int .i64 U.z] 26)) v1.heap.size U := Row.made v1 _ _
  have hbw := HBW.out.alloc HBW.out.size (.cells #[.int .i64 U.d, .int .i64 U.e, .int .i64 U.x, .int .i64 U.y, .int .i64 U.z] 26); clear HBW
  generalize v1.alloc (.cells #[.int .i64 U.d, .int .i64 U.e, .int .i64 U.x, .int .i64 U.y, .int .i64 U.z] 26) = v2 at *
  generalize v1.heap.size = gu at *
  have Ha := Lib.hid ha; clear ha
  have Hb := Lib.hid hb; clear hb
  have Ht := Lib.hid ht; clear ht
  have Hs := Lib.hid hs; clear hs
  have Hu := Lib.hid hu; clear hu
  have HBW := Lib.hid hbw; clear hbw
  refine (C2.out _).mono ?_; rintro e v3 ⟨rfl, hbel⟩
  dsimp only
  have ha := Ha.out.below hbel; clear Ha
  have hb := Hb.out.below hbel; clear Hb
  have ht := Ht.out.below hbel; clear Ht
  have hs := Hs.out.below hbel; clear Hs
  have hu := Hu.out.below hbel; clear Hu
  have hbw := HBW.out.trans (hbel.mono HBW.out.size); clear HBW hbel
  have Ha := Lib.hid ha; clear ha
  have Hb := Lib.hid hb; clear hb
  have Ht := Lib.hid ht; clear ht
  have Hs := Lib.hid hs; clear hs
  have Hu := Lib.hid hu; clear hu
  have HBW := Lib.hid hbw; clear hbw
  have la := Ha.out.lt
  have lb := Hb.out.lt
  have lt := Ht.out.lt
  have ls := Hs.out.lt
  have lu := Hu.out.lt
  obtain ⟨ca0, ca1, ca2, ca3, ca4, ca5, ca6⟩ := Ha.out.cells7
  obtain ⟨cb0, cb1, cb2, cb3, cb4, cb5, cb6⟩ := Hb.out.cells7
  go_wp2_with fail
  clear la lb lt ls lu ca0 ca1 ca2 ca3 ca4 ca5 ca6 cb0 cb1 cb2 cb3 cb4 cb5 cb6
  have ha := Ha.out.alloc (.cells #[.int .i64 V.d, .int .i64 V.e, .int .i64 V.x, .int .i64 V.y, .int .i64 V.z] 26); clear Ha
  have hb := Hb.out.alloc (.cells #[.int .i64 V.d, .int .i64 V.e, .int .i64 V.x, .int .i64 V.y, .int .i64 V.z] 26); clear Hb
  have ht := Ht.out.alloc (.cells #[.int .i64 V.d, .int .i64 V.e, .int .i64 V.x, .int .i64 V.y, .int .i64 V.z] 26); clear Ht
  have hs := Hs.out.alloc (.cells #[.int .i64 V.d, .int .i64 V.e, .int .i64 V.x, .int .i64 V.y, .int .i64 V.z] 26); clear Hs
  have hu := Hu.out.alloc (.cells #[.int .i64 V.d, .int .i64 V.e, .int .i64 V.x, .int .i64 V.y, .int .i64 V.z] 26); clear Hu
  have hv : Holds (v3.alloc (.cells #[.int .i64 V.d, .int .i64 V.e, .int .i64 V.x, .int .i64 V.y, .int .i64 V.z] 26)) v3.heap.size V := Row.made v3 _ _
  have hbw := HBW.out.alloc HBW.out.size (.cells #[.int .i64 V.d, .int .i64 V.e, .int .i64 V.x, .int .i64 V.y, .int .i64 V.z] 26); clear HBW
  generalize v3.alloc (.cells #[.int .i64 V.d, .int .i64 V.e, .int .i64 V.x, .int .i64 V.y, .int .i64 V.z] 26) = v4 at *
  generalize v3.heap.size = gv at *
  have Ha := Lib.hid ha; clear ha
  have Hb := Lib.hid hb; clear hb
  have Ht := Lib.hid ht; clear ht
  have Hs := Lib.hid hs; clear hs
  have Hu := Lib.hid hu; clear hu
  have Hv := Lib.hid hv; clear hv
  have HBW := Lib.hid hbw; clear hbw
  refine (C3.out _).mono ?_; rintro e v5 ⟨rfl, hbel⟩
  dsimp only
  have ha := Ha.out.below hbel; clear Ha
  have hb := Hb.out.below hbel; clear Hb
  have ht := Ht.out.below hbel; clear Ht
  have hs := Hs.out.below hbel; clear Hs
  have hu := Hu.out.below hbel; clear Hu
  have hv := Hv.out.below hbel; clear Hv
  have hbw := HBW.out.trans (hbel.mono HBW.out.size); clear HBW hbel
  have Ha := Lib.hid ha; clear ha
  have Hb := Lib.hid hb; clear hb
  have Ht := Lib.hid ht; clear ht
  have Hs := Lib.hid hs; clear hs
  have Hu := Lib.hid hu; clear hu
  have Hv := Lib.hid hv; clear hv
  have HBW := Lib.hid hbw; clear hbw
  have la := Ha.out.lt
  have lb := Hb.out.lt
  have lt := Ht.out.lt
  have ls := Hs.out.lt
  have lu := Hu.out.lt
  have lv := Hv.out.lt
  obtain ⟨cb0, cb1, cb2, cb3, cb4, cb5, cb6⟩ := Hb.out.cells7
  obtain ⟨cs0, cs1, cs2, cs3, cs4⟩ := Hs.out.c5
  go_wp2_with fail
  clear la lb lt ls lu lv cb0 cb1 cb2 cb3 cb4 cb5 cb6 cs0 cs1 cs2 cs3 cs4
  refine (C5.out _).mono ?_; rintro e v6 ⟨rfl, hbel⟩
  dsimp only
  have ha := Ha.out.below hbel; clear Ha
  have hb := Hb.out.below hbel; clear Hb
  have ht := Ht.out.below hbel; clear Ht
  have hs := Hs.out.below hbel; clear Hs
  have hu := Hu.out.below hbel; clear Hu
  have hv := Hv.out.below hbel; clear Hv
  have hbw := HBW.out.trans (hbel.mono HBW.out.size); clear HBW hbel
  have Ha := Lib.hid ha; clear ha
  have Hb := Lib.hid hb; clear hb
  have Ht := Lib.hid ht; clear ht
  have Hs := Lib.hid hs; clear hs
  have Hu := Lib.hid hu; clear hu
  have Hv := Lib.hid hv; clear hv
  have HBW := Lib.hid hbw; clear hbw
  have la := Ha.out.lt
  have lb := Hb.out.lt
  have lt := Ht.out.lt
  have ls := Hs.out.lt
  have lu := Hu.out.lt
  have lv := Hv.out.lt
  obtain ⟨ct0, ct1, ct2, ct3, ct4⟩ := Ht.out.c5
  obtain ⟨cs0, cs1, cs2, cs3, cs4⟩ := Hs.out.c5
  go_wp2_with fail
  clear la lb lt ls lu lv ct0 ct1 ct2 ct3 ct4 cs0 cs1 cs2 cs3 cs4
  have ha := Ha.out.alloc (.cells #[.int .i64 W2.d, .int .i64 W2.e, .int .i64 W2.x, .int .i64 W2.y, .int .i64 W2.z] 26); clear Ha
  have hb := Hb.out.alloc (.cells #[.int .i64 W2.d, .int .i64 W2.e, .int .i64 W2.x, .int .i64 W2.y, .int .i64 W2.z] 26); clear Hb
  have ht := Ht.out.alloc (.cells #[.int .i64 W2.d, .int .i64 W2.e, .int .i64 W2.x, .int .i64 W2.y, .int .i64 W2.z] 26); clear Ht
  have hs := Hs.out.alloc (.cells #[.int .i64 W2.d, .int .i64 W2.e, .int .i64 W2.x, .int .i64 W2.y, .int .i64 W2.z] 26); clear Hs
  have hu := Hu.out.alloc (.cells #[.int .i64 W2.d, .int .i64 W2.e, .int .i64 W2.x, .int .i64 W2.y, .int .i64 W2.z] 26); clear Hu
  have hv := Hv.out.alloc (.cells #[.int .i64 W2.d, .int .i64 W2.e, .int .i64 W2.x, .int .i64 W2.y, .int .i64 W2.z] 26); clear Hv
  have hw2 : Holds (v6.alloc (.cells #[.int .i64 W2.d, .int .i64 W2.e, .int .i64 W2.x, .int .i64 W2.y, .int .i64 W2.z] 26)) v6.heap.size W2 := Row.made v6 _ _
  have hbw := HBW.out.alloc HBW.out.size (.cells #[.int .i64 W2.d, .int .i64 W2.e, .int .i64 W2.x, .int .i64 W2.y, .int .i64 W2.z] 26); clear HBW
  generalize v6.alloc (.cells #[.int .i64 W2.d, .int .i64 W2.e, .int .i64 W2.x, .int .i64 W2.y, .int .i64 W2.z] 26) = v7 at *
  generalize v6.heap.size = gw2 at *
  have Ha := Lib.hid ha; clear ha
  have Hb := Lib.hid hb; clear hb
  have Ht := Lib.hid ht; clear ht
  have Hs := Lib.hid hs; clear hs
  have Hu := Lib.hid hu; clear hu
  have Hv := Lib.hid hv; clear hv
  have Hw2 := Lib.hid hw2; clear hw2
  have HBW := Lib.hid hbw; clear hbw
  refine (C6.out _).mono ?_; rintro e v8 ⟨rfl, hbel⟩
  dsimp only
  have ha := Ha.out.below hbel; clear Ha
  have hb := Hb.out.below hbel; clear Hb
  have ht := Ht.out.below hbel; clear Ht
  have hs := Hs.out.below hbel; clear Hs
  have hu := Hu.out.below hbel; clear Hu
  have hv := Hv.out.below hbel; clear Hv
  have hw2 := Hw2.out.below hbel; clear Hw2
  have hbw := HBW.out.trans (hbel.mono HBW.out.size); clear HBW hbel
  have Ha := Lib.hid ha; clear ha
  have Hb := Lib.hid hb; clear hb
  have Ht := Lib.hid ht; clear ht
  have Hs := Lib.hid hs; clear hs
  have Hu := Lib.hid hu; clear hu
  have Hv := Lib.hid hv; clear hv
  have Hw2 := Lib.hid hw2; clear hw2
  have HBW := Lib.hid hbw; clear hbw
  have la := Ha.out.lt
  have lb := Hb.out.lt
  have lt := Ht.out.lt
  have ls := Hs.out.lt
  have lu := Hu.out.lt
  have lv := Hv.out.lt
  have lw2 := Hw2.out.lt
  obtain ⟨cu0, cu1, cu2, cu3, cu4⟩ := Hu.out.c5
  obtain ⟨cw20, cw21, cw22, cw23, cw24⟩ := Hw2.out.c5
  go_wp2_with fail
  clear la lb lt ls lu lv lw2 cu0 cu1 cu2 cu3 cu4 cw20 cw21 cw22 cw23 cw24
  refine (C7.out _).mono ?_; rintro e v9 ⟨rfl, hbel⟩
  dsimp only
  have ha := Ha.out.below hbel; clear Ha
  have hb := Hb.out.below hbel; clear Hb
  have ht := Ht.out.below hbel; clear Ht
  have hs := Hs.out.below hbel; clear Hs
  have hu := Hu.out.below hbel; clear Hu
  have hv := Hv.out.below hbel; clear Hv
  have hw2 := Hw2.out.below hbel; clear Hw2
  have hbw := HBW.out.trans (hbel.mono HBW.out.size); clear HBW hbel
  have Ha := Lib.hid ha; clear ha
  have Hb := Lib.hid hb; clear hb
  have Ht := Lib.hid ht; clear ht
  have Hs := Lib.hid hs; clear hs
  have Hu := Lib.hid hu; clear hu
  have Hv := Lib.hid hv; clear hv
  have Hw2 := Lib.hid hw2; clear hw2
  have HBW := Lib.hid hbw; clear hbw
  have la := Ha.out.lt
  have lb := Hb.out.lt
  have lt := Ht.out.lt
  have ls := Hs.out.lt
  have lu := Hu.out.lt
  have lv := Hv.out.lt
  have lw2 := Hw2.out.lt
  obtain ⟨ct0, ct1, ct2, ct3, ct4⟩ := Ht.out.c5
  go_wp2_with fail
  clear la lb lt ls lu lv lw2 ct0 ct1 ct2 ct3 ct4
  refine (C8.out _).mono ?_; rintro e v10 ⟨rfl, hbel⟩
  dsimp only
  have ha := Ha.out.below hbel; clear Ha
  have hb := Hb.out.below hbel; clear Hb
  have ht := Ht.out.below hbel; clear Ht
  have hs := Hs.out.below hbel; clear Hs
  have hu := Hu.out.below hbel; clear Hu
  have hv := Hv.out.below hbel; clear Hv
  have hw2 := Hw2.out.below hbel; clear Hw2
  have hbw := HBW.out.trans (hbel.mono HBW.out.size); clear HBW hbel
  have Ha := Lib.hid ha; clear ha
  have Hb := Lib.hid hb; clear hb
  have Ht := Lib.hid ht; clear ht
  have Hs := Lib.hid hs; clear hs
  have Hu := Lib.hid hu; clear hu
  have Hv := Lib.hid hv; clear hv
  have Hw2 := Lib.hid hw2; clear hw2
  have HBW := Lib.hid hbw; clear hbw
  have la := Ha.out.lt
  have lb := Hb.out.lt
  have lt := Ht.out.lt
  have ls := Hs.out.lt
  have lu := Hu.out.lt
  have lv := Hv.out.lt
  have lw2 := Hw2.out.lt
  obtain ⟨ct0, ct1, ct2, ct3, ct4⟩ := Ht.out.c5
  go_wp2_with fail
  clear la lb lt ls lu lv lw2 ct0 ct1 ct2 ct3 ct4
  have ha := Ha.out.alloc (.cells #[.int .i64 N.fr, .int .i64 N.to, .int .i64 N.kp, .int .i64 N.ad, .int .i64 N.t0, .int .i64 N.t1, .int .i64 N.t2] 24); clear Ha
  have hb := Hb.out.alloc (.cells #[.int .i64 N.fr, .int .i64 N.to, .int .i64 N.kp, .int .i64 N.ad, .int .i64 N.t0, .int .i64 N.t1, .int .i64 N.t2] 24); clear Hb
  have ht := Ht.out.alloc (.cells #[.int .i64 N.fr, .int .i64 N.to, .int .i64 N.kp, .int .i64 N.ad, .int .i64 N.t0, .int .i64 N.t1, .int .i64 N.t2] 24); clear Ht
  have hs := Hs.out.alloc (.cells #[.int .i64 N.fr, .int .i64 N.to, .int .i64 N.kp, .int .i64 N.ad, .int .i64 N.t0, .int .i64 N.t1, .int .i64 N.t2] 24); clear Hs
  have hu := Hu.out.alloc (.cells #[.int .i64 N.fr, .int .i64 N.to, .int .i64 N.kp, .int .i64 N.ad, .int .i64 N.t0, .int .i64 N.t1, .int .i64 N.t2] 24); clear Hu
  have hv := Hv.out.alloc (.cells #[.int .i64 N.fr, .int .i64 N.to, .int .i64 N.kp, .int .i64 N.ad, .int .i64 N.t0, .int .i64 N.t1, .int .i64 N.t2] 24); clear Hv
  have hw2 := Hw2.out.alloc (.cells #[.int .i64 N.fr, .int .i64 N.to, .int .i64 N.kp, .int .i64 N.ad, .int .i64 N.t0, .int .i64 N.t1, .int .i64 N.t2] 24); clear Hw2
  have hn : HoldsM (v10.alloc (.cells #[.int .i64 N.fr, .int .i64 N.to, .int .i64 N.kp, .int .i64 N.ad, .int .i64 N.t0, .int .i64 N.t1, .int .i64 N.t2] 24)) v10.heap.size 24 N := Row.made v10 _ _
  have hbw := HBW.out.alloc HBW.out.size (.cells #[.int .i64 N.fr, .int .i64 N.to, .int .i64 N.kp, .int .i64 N.ad, .int .i64 N.t0, .int .i64 N.t1, .int .i64 N.t2] 24); clear HBW
  generalize v10.alloc (.cells #[.int .i64 N.fr, .int .i64 N.to, .int .i64 N.kp, .int .i64 N.ad, .int .i64 N.t0, .int .i64 N.t1, .int .i64 N.t2] 24) = v11 at *
  generalize v10.heap.size = gn at *
  have Ha := Lib.hid ha; clear ha
  have Hb := Lib.hid hb; clear hb
  have Ht := Lib.hid ht; clear ht
  have Hs := Lib.hid hs; clear hs
  have Hu := Lib.hid hu; clear hu
  have Hv := Lib.hid hv; clear hv
  have Hw2 := Lib.hid hw2; clear hw2
  have Hn := Lib.hid hn; clear hn
  have HBW := Lib.hid hbw; clear hbw
  refine (C9.out _).mono ?_; rintro e v12 ⟨rfl, hbel⟩
  dsimp only
  have ha := Ha.out.below hbel; clear Ha
  have hb := Hb.out.below hbel; clear Hb
  have ht := Ht.out.below hbel; clear Ht
  have hs := Hs.out.below hbel; clear Hs
  have hu := Hu.out.below hbel; clear Hu
  have hv := Hv.out.below hbel; clear Hv
  have hw2 := Hw2.out.below hbel; clear Hw2
  have hn := Hn.out.below hbel; clear Hn
  have hbw := HBW.out.trans (hbel.mono HBW.out.size); clear HBW hbel
  have Ha := Lib.hid ha; clear ha
  have Hb := Lib.hid hb; clear hb
  have Ht := Lib.hid ht; clear ht
  have Hs := Lib.hid hs; clear hs
  have Hu := Lib.hid hu; clear hu
  have Hv := Lib.hid hv; clear hv
  have Hw2 := Lib.hid hw2; clear hw2
  have Hn := Lib.hid hn; clear hn
  have HBW := Lib.hid hbw; clear hbw
  have la := Ha.out.lt
  have lb := Hb.out.lt
  have lt := Ht.out.lt
  have ls := Hs.out.lt
  have lu := Hu.out.lt
  have lv := Hv.out.lt
  have lw2 := Hw2.out.lt
  have ln := Hn.out.lt
  go_wp2_with fail
  clear la lb lt ls lu lv lw2 ln
  have ha := Ha.out.alloc (.cells #[.int .i64 X.d, .int .i64 X.e, .int .i64 X.x, .int .i64 X.y, .int .i64 X.z] 26); clear Ha
  have hb := Hb.out.alloc (.cells #[.int .i64 X.d, .int .i64 X.e, .int .i64 X.x, .int .i64 X.y, .int .i64 X.z] 26); clear Hb
  have ht := Ht.out.alloc (.cells #[.int .i64 X.d, .int .i64 X.e, .int .i64 X.x, .int .i64 X.y, .int .i64 X.z] 26); clear Ht
  have hs := Hs.out.alloc (.cells #[.int .i64 X.d, .int .i64 X.e, .int .i64 X.x, .int .i64 X.y, .int .i64 X.z] 26); clear Hs
  have hu := Hu.out.alloc (.cells #[.int .i64 X.d, .int .i64 X.e, .int .i64 X.x, .int .i64 X.y, .int .i64 X.z] 26); clear Hu
  have hv := Hv.out.alloc (.cells #[.int .i64 X.d, .int .i64 X.e, .int .i64 X.x, .int .i64 X.y, .int .i64 X.z] 26); clear Hv
  have hw2 := Hw2.out.alloc (.cells #[.int .i64 X.d, .int .i64 X.e, .int .i64 X.x, .int .i64 X.y, .int .i64 X.z] 26); clear Hw2
  have hn := Hn.out.alloc (.cells #[.int .i64 X.d, .int .i64 X.e, .int .i64 X.x, .int .i64 X.y, .int .i64 X.z] 26); clear Hn
  have hx : Holds (v12.alloc (.cells #[.int .i64 X.d, .int .i64 X.e, .int .i64 X.x, .int .i64 X.y, .int .i64 X.z] 26)) v12.heap.size X := Row.made v12 _ _
  have hbw := HBW.out.alloc HBW.out.size (.cells #[.int .i64 X.d, .int .i64 X.e, .int .i64 X.x, .int .i64 X.y, .int .i64 X.z] 26); clear HBW
  generalize v12.alloc (.cells #[.int .i64 X.d, .int .i64 X.e, .int .i64 X.x, .int .i64 X.y, .int .i64 X.z] 26) = v13 at *
  generalize v12.heap.size = gx at *
  have Ha := Lib.hid ha; clear ha
  have Hb := Lib.hid hb; clear hb
  have Ht := Lib.hid ht; clear ht
  have Hs := Lib.hid hs; clear hs
  have Hu := Lib.hid hu; clear hu
  have Hv := Lib.hid hv; clear hv
  have Hw2 := Lib.hid hw2; clear hw2
  have Hn := Lib.hid hn; clear hn
  have Hx := Lib.hid hx; clear hx
  have HBW := Lib.hid hbw; clear hbw
  cases R with
  | true =>
    obtain ⟨h1, h2, h3⟩ := HR.out rfl
    subst h1; subst h2
    have HX := Lib.hid h3; clear h3 HR
    refine wp_region_below (by kernel_rfl) (by kernel_rfl) ?_
    refine wpQuiet_step (fun K hK => ?_); refine q_load (p := .pointer (some ⟨(w.heap.size + 1 + 1), 0, none⟩)) 26 _ rfl rfl rfl (load_t Ht.out) ?_; go_simp; (with_reducible refine hK _ ?_); clear hK K
    refine wpQuiet_step (fun K hK => ?_); go_simp; (with_reducible refine ⟨_, fun _ hb => (C10.out _).mono fun _ _ h => ⟨h.1, hb.trans (h.2.mono (by simpa using hb.size))⟩, hK _ ?_⟩); clear hK K
    refine wpQuiet_step (fun K hK => ?_); go_simp; (first | (with_reducible refine hK _ ?_) | (with_reducible refine ⟨_, fun _ _ => rfl, hK _ ?_⟩)); clear hK K
    refine wpQuiet_step (fun K hK => ?_); go_simp; (first | (with_reducible refine hK _ ?_) | (with_reducible refine ⟨_, fun _ _ => rfl, hK _ ?_⟩)); clear hK K
    refine wpQuiet_step (fun K hK => ?_); go_simp; (first | (with_reducible refine hK _ ?_) | (with_reducible refine ⟨_, fun _ _ => rfl, hK _ ?_⟩)); clear hK K
    refine wpQuiet_step (fun K hK => ?_); go_simp; (first | (with_reducible refine hK _ ?_) | (with_reducible refine ⟨_, fun _ _ => rfl, hK _ ?_⟩)); clear hK K
    refine wpQuiet_step (fun K hK => ?_); go_simp; (first | (with_reducible refine hK _ ?_) | (with_reducible refine ⟨_, fun _ _ => rfl, hK _ ?_⟩)); clear hK K
    refine wpQuiet_step (fun K hK => ?_); go_simp; (first | (with_reducible refine hK _ ?_) | (with_reducible refine ⟨_, fun _ _ => rfl, hK _ ?_⟩)); clear hK K
    refine wpQuiet_step (fun K hK => ?_); go_simp; (first | (with_reducible refine hK _ ?_) | (with_reducible refine ⟨_, fun _ _ => rfl, hK _ ?_⟩)); clear hK K
    refine wpQuiet_step (fun K hK => ?_); refine q_load (p := .pointer (some ⟨gx, 0, none⟩)) 26 _ rfl rfl rfl (load_t Hx.out) ?_; go_simp; (with_reducible refine hK _ ?_); clear hK K
    refine wpQuiet_step (fun K hK => ?_); refine q_load (p := .pointer (some ⟨(w.heap.size + 1 + 1), 0, none⟩)) 26 _ rfl rfl rfl (load_t Ht.out) ?_; go_simp; (with_reducible refine hK _ ?_); clear hK K
    refine wpQuiet_step (fun K hK => ?_); refine q_bin _ _ _ _ _ rfl rfl rfl rfl (eqt_is _ _ HX.out) ?_; go_simp; (with_reducible refine hK _ ?_); clear hK K
    refine wpQuiet_step (fun K hK => ?_); go_simp; (first | (with_reducible refine hK _ ?_) | (with_reducible refine ⟨_, fun _ _ => rfl, hK _ ?_⟩)); clear hK K
    refine wpQuiet_step (fun K hK => ?_); go_simp; (first | (with_reducible refine hK _ ?_) | (with_reducible refine ⟨_, fun _ _ => rfl, hK _ ?_⟩)); clear hK K
    refine wpQuiet_step (fun K hK => ?_); go_simp; (first | (with_reducible refine hK _ ?_) | (with_reducible refine ⟨_, fun _ _ => rfl, hK _ ?_⟩)); clear hK K
    refine wpQuiet_step (fun K hK => ?_); refine q_load (p := .pointer (some ⟨w.heap.size, 0, none⟩)) 24 _ rfl rfl rfl (load_m Ha.out) ?_; go_simp; (with_reducible refine hK _ ?_); clear hK K
    refine wpQuiet_step (fun K hK => ?_); refine q_load (p := .pointer (some ⟨w.heap.size, 0, none⟩)) 24 _ rfl rfl rfl (load_m Ha.out) ?_; go_simp; (with_reducible refine hK _ ?_); clear hK K
    refine wpQuiet_step (fun K hK => ?_); go_simp; (with_reducible refine ⟨_, fun _ hb => (C11.out _).mono fun _ _ h => ⟨h.1, hb.trans (h.2.mono (by simpa using hb.size))⟩, hK _ ?_⟩); clear hK K
    refine wpQuiet_step (fun K hK => ?_); refine q_load (p := .pointer (some ⟨w.heap.size, 0, none⟩)) 24 _ rfl rfl rfl (load_m Ha.out) ?_; go_simp; (with_reducible refine hK _ ?_); clear hK K
    refine wpQuiet_step (fun K hK => ?_); go_simp; (with_reducible refine ⟨_, fun _ hb => (C12.out _).mono fun _ _ h => ⟨h.1, hb.trans (h.2.mono (by simpa using hb.size))⟩, hK _ ?_⟩); clear hK K
    refine wpQuiet_step (fun K hK => ?_); refine q_bin _ _ _ _ _ rfl rfl rfl rfl (eqb_self _ _ D) ?_; go_simp; (with_reducible refine hK _ ?_); clear hK K
    refine wpQuiet_step (fun K hK => ?_); go_simp; (first | (with_reducible refine hK _ ?_) | (with_reducible refine ⟨_, fun _ _ => rfl, hK _ ?_⟩)); clear hK K
    refine wpQuiet_step (fun K hK => ?_); go_simp; (first | (with_reducible refine hK _ ?_) | (with_reducible refine ⟨_, fun _ _ => rfl, hK _ ?_⟩)); clear hK K
    refine wpQuiet_step (fun K hK => ?_); go_simp; (with_reducible refine ⟨_, fun _ hb => (CW.out _).mono fun _ _ h => ⟨h.1, hb.trans (h.2.mono (by simpa using hb.size))⟩, hK _ ?_⟩); clear hK K
    refine wpQuiet_step (fun K hK => ?_); go_simp; (first | (with_reducible refine hK _ ?_) | (with_reducible refine ⟨_, fun _ _ => rfl, hK _ ?_⟩)); clear hK K
    refine wpQuiet_step (fun K hK => ?_); go_simp; (first | (with_reducible refine hK _ ?_) | (with_reducible refine ⟨_, fun _ _ => rfl, hK _ ?_⟩)); clear hK K
    refine wpQuiet_nil ?_
    intro vz hbel
    have hbw := HBW.out.trans (hbel.mono HBW.out.size); clear HBW hbel
    go_wp2_with fail
    go_ret
    exact ⟨rfl, hbw⟩
  | false =>
    clear HR
    refine wp_region_below (by kernel_rfl) (by kernel_rfl) ?_
    refine wpQuiet_step (fun K hK => ?_); refine q_load (p := .pointer (some ⟨(w.heap.size + 1 + 1), 0, none⟩)) 26 _ rfl rfl rfl (load_t Ht.out) ?_; go_simp; (with_reducible refine hK _ ?_); clear hK K
    refine wpQuiet_step (fun K hK => ?_); go_simp; (with_reducible refine ⟨_, fun _ hb => (C10.out _).mono fun _ _ h => ⟨h.1, hb.trans (h.2.mono (by simpa using hb.size))⟩, hK _ ?_⟩); clear hK K
    refine wpQuiet_step (fun K hK => ?_); go_simp; (first | (with_reducible refine hK _ ?_) | (with_reducible refine ⟨_, fun _ _ => rfl, hK _ ?_⟩)); clear hK K
    refine wpQuiet_step (fun K hK => ?_); go_simp; (try (with_reducible refine ⟨_, fun _ _ => rfl, ?_⟩)); generalize hA : ({ tmps := _, defers := _ } : Act) = A; (with_reducible refine hK A ?_); clear hK K
    refine wpQuiet_step (fun K hK => ?_); subst hA; go_simp; (try (with_reducible refine ⟨_, fun _ _ => rfl, ?_⟩)); generalize hA : ({ tmps := _, defers := _ } : Act) = A; (with_reducible refine hK A ?_); clear hK K
    refine wpQuiet_step (fun K hK => ?_); subst hA; go_simp; (try (with_reducible refine ⟨_, fun _ _ => rfl, ?_⟩)); generalize hA : ({ tmps := _, defers := _ } : Act) = A; (with_reducible refine hK A ?_); clear hK K
    refine wpQuiet_step (fun K hK => ?_); subst hA; go_simp; generalize hA : ({ tmps := _, defers := _ } : Act) = A; rw [if_neg (by simp [undef])]; (with_reducible refine hK A ?_); clear hK K
    refine wpQuiet_step (fun K hK => ?_); subst hA; go_simp; (try (with_reducible refine ⟨_, fun _ _ => rfl, ?_⟩)); generalize hA : ({ tmps := _, defers := _ } : Act) = A; (with_reducible refine hK A ?_); clear hK K
    refine wpQuiet_step (fun K hK => ?_); subst hA; go_simp; (try (with_reducible refine ⟨_, fun _ _ => rfl, ?_⟩)); generalize hA : ({ tmps := _, defers := _ } : Act) = A; (with_reducible refine hK A ?_); clear hK K
    refine wpQuiet_step (fun K hK => ?_); subst hA; go_simp; generalize hA : ({ tmps := _, defers := _ } : Act) = A; rw [if_neg (by simp [undef])]; (with_reducible refine hK A ?_); clear hK K
    refine wpQuiet_step (fun K hK => ?_); subst hA; go_simp; generalize hA : ({ tmps := _, defers := _ } : Act) = A; rw [if_neg (by simp [undef])]; (with_reducible refine hK A ?_); clear hK K
    refine wpQuiet_step (fun K hK => ?_); subst hA; go_simp; generalize hA : ({ tmps := _, defers := _ } : Act) = A; rw [if_neg (by simp [undef])]; (with_reducible refine hK A ?_); clear hK K
    refine wpQuiet_step (fun K hK => ?_); subst hA; go_simp; (try (with_reducible refine ⟨_, fun _ _ => rfl, ?_⟩)); generalize hA : ({ tmps := _, defers := _ } : Act) = A; (with_reducible refine hK A ?_); clear hK K
    refine wpQuiet_step (fun K hK => ?_); subst hA; go_simp; (first | (with_reducible refine hK _ ?_) | (with_reducible refine ⟨_, fun _ _ => rfl, hK _ ?_⟩)); clear hK K
    refine wpQuiet_step (fun K hK => ?_); go_simp; (first | (with_reducible refine hK _ ?_) | (with_reducible refine ⟨_, fun _ _ => rfl, hK _ ?_⟩)); clear hK K
    refine wpQuiet_step (fun K hK => ?_); refine q_load (p := .pointer (some ⟨w.heap.size, 0, none⟩)) 24 _ rfl rfl rfl (load_m Ha.out) ?_; go_simp; (with_reducible refine hK _ ?_); clear hK K
    refine wpQuiet_step (fun K hK => ?_); refine q_load (p := .pointer (some ⟨w.heap.size, 0, none⟩)) 24 _ rfl rfl rfl (load_m Ha.out) ?_; go_simp; (with_reducible refine hK _ ?_); clear hK K
    refine wpQuiet_step (fun K hK => ?_); go_simp; (with_reducible refine ⟨_, fun _ hb => (C11.out _).mono fun _ _ h => ⟨h.1, hb.trans (h.2.mono (by simpa using hb.size))⟩, hK _ ?_⟩); clear hK K
    refine wpQuiet_step (fun K hK => ?_); refine q_load (p := .pointer (some ⟨w.heap.size, 0, none⟩)) 24 _ rfl rfl rfl (load_m Ha.out) ?_; go_simp; (with_reducible refine hK _ ?_); clear hK K
    refine wpQuiet_step (fun K hK => ?_); go_simp; (with_reducible refine ⟨_, fun _ hb => (C12.out _).mono fun _ _ h => ⟨h.1, hb.trans (h.2.mono (by simpa using hb.size))⟩, hK _ ?_⟩); clear hK K
    refine wpQuiet_step (fun K hK => ?_); refine q_bin _ _ _ _ _ rfl rfl rfl rfl (eqb_self _ _ D) ?_; go_simp; (with_reducible refine hK _ ?_); clear hK K
    refine wpQuiet_step (fun K hK => ?_); go_simp; (first | (with_reducible refine hK _ ?_) | (with_reducible refine ⟨_, fun _ _ => rfl, hK _ ?_⟩)); clear hK K
    refine wpQuiet_step (fun K hK => ?_); go_simp; (first | (with_reducible refine hK _ ?_) | (with_reducible refine ⟨_, fun _ _ => rfl, hK _ ?_⟩)); clear hK K
    refine wpQuiet_step (fun K hK => ?_); go_simp; (with_reducible refine ⟨_, fun _ hb => (CW.out _).mono fun _ _ h => ⟨h.1, hb.trans (h.2.mono (by simpa using hb.size))⟩, hK _ ?_⟩); clear hK K
    refine wpQuiet_step (fun K hK => ?_); go_simp; (first | (with_reducible refine hK _ ?_) | (with_reducible refine ⟨_, fun _ _ => rfl, hK _ ?_⟩)); clear hK K
    refine wpQuiet_step (fun K hK => ?_); go_simp; (first | (with_reducible refine hK _ ?_) | (with_reducible refine ⟨_, fun _ _ => rfl, hK _ ?_⟩)); clear hK K
    refine wpQuiet_nil ?_
    intro vz hbel
    have hbw := HBW.out.trans (hbel.mono HBW.out.size); clear HBW hbel
    go_wp2_with fail
    go_ret
    exact ⟨rfl, hbw⟩
set_option maxHeartbeats 8000000 in
theorem w_110 (a b N : Sm) (t s U V W2 X : St) (I Y E F R D : Bool) (w : World) (hR : R = true → E = true ∧ F = true ∧ X = t)
    (c1 : ∀ w, Calls Try.prog 11 #[.agg #[.int .i64 b.fr, .int .i64 b.to, .int .i64 b.kp, .int .i64 b.ad, .int .i64 b.t0, .int .i64 b.t1, .int .i64 b.t2], .agg #[.int .i64 t.d, .int .i64 t.e, .int .i64 t.x, .int .i64 t.y, .int .i64 t.z]] w fun e w' => e = .returned (.tuple #[.agg #[.int .i64 U.d, .int .i64 U.e, .int .i64 U.x, .int .i64 U.y, .int .i64 U.z], .bool true]) ∧ Below w.heap.size w w')
    (c2 : ∀ w, Calls Try.prog 11 #[.agg #[.int .i64 a.fr, .int .i64 a.to, .int .i64 a.kp, .int .i64 a.ad, .int .i64 a.t0, .int .i64 a.t1, .int .i64 a.t2], .agg #[.int .i64 t.d, .int .i64 t.e, .int .i64 t.x, .int .i64 t.y, .int .i64 t.z]] w fun e w' => e = .returned (.tuple #[.agg #[.int .i64 V.d, .int .i64 V.e, .int .i64 V.x, .int .i64 V.y, .int .i64 V.z], .bool true]) ∧ Below w.heap.size w w')
    (c3 : ∀ w, Calls Try.prog 21 #[.agg #[.int .i64 a.fr, .int .i64 a.to, .int .i64 a.kp, .int .i64 a.ad, .int .i64 a.t0, .int .i64 a.t1, .int .i64 a.t2], .agg #[.int .i64 b.fr, .int .i64 b.to, .int .i64 b.kp, .int .i64 b.ad, .int .i64 b.t0, .int .i64 b.t1, .int .i64 b.t2]] w fun e w' => e = .returned (.bool true) ∧ Below w.heap.size w w')
    (c4 : ∀ w, Calls Try.prog 27 #[.agg #[.int .i64 V.d, .int .i64 V.e, .int .i64 V.x, .int .i64 V.y, .int .i64 V.z], .agg #[.int .i64 U.d, .int .i64 U.e, .int .i64 U.x, .int .i64 U.y, .int .i64 U.z]] w fun e w' => e = .returned (.bool true) ∧ Below w.heap.size w w')
    (c5 : ∀ w, Calls Try.prog 11 #[.agg #[.int .i64 b.fr, .int .i64 b.to, .int .i64 b.kp, .int .i64 b.ad, .int .i64 b.t0, .int .i64 b.t1, .int .i64 b.t2], .agg #[.int .i64 s.d, .int .i64 s.e, .int .i64 s.x, .int .i64 s.y, .int .i64 s.z]] w fun e w' => e = .returned (.tuple #[.agg #[.int .i64 W2.d, .int .i64 W2.e, .int .i64 W2.x, .int .i64 W2.y, .int .i64 W2.z], .bool Y]) ∧ Below w.heap.size w w')
    (c6 : ∀ w, Calls Try.prog 27 #[.agg #[.int .i64 s.d, .int .i64 s.e, .int .i64 s.x, .int .i64 s.y, .int .i64 s.z], .agg #[.int .i64 t.d, .int .i64 t.e, .int .i64 t.x, .int .i64 t.y, .int .i64 t.z]] w fun e w' => e = .returned (.bool false) ∧ Below w.heap.size w w')
    (c8 : ∀ w, Calls Try.prog 14 #[.int .u8 2, .int .i64 t.d] w fun e w' => e = .returned (.tuple #[.agg #[.int .i64 N.fr, .int .i64 N.to, .int .i64 N.kp, .int .i64 N.ad, .int .i64 N.t0, .int .i64 N.t1, .int .i64 N.t2], .bool E]) ∧ Below w.heap.size w w')
    (c9 : ∀ w, Calls Try.prog 11 #[.agg #[.int .i64 N.fr, .int .i64 N.to, .int .i64 N.kp, .int .i64 N.ad, .int .i64 N.t0, .int .i64 N.t1, .int .i64 N.t2], .agg #[.int .i64 t.d, .int .i64 t.e, .int .i64 t.x, .int .i64 t.y, .int .i64 t.z]] w fun e w' => e = .returned (.tuple #[.agg #[.int .i64 X.d, .int .i64 X.e, .int .i64 X.x, .int .i64 X.y, .int .i64 X.z], .bool F]) ∧ Below w.heap.size w w')
    (c10 : ∀ w, Calls Try.prog 28 #[.agg #[.int .i64 t.d, .int .i64 t.e, .int .i64 t.x, .int .i64 t.y, .int .i64 t.z]] w fun e w' => e = .returned (.bool R) ∧ Below w.heap.size w w')
    (c11 : ∀ w, Calls Try.prog 21 #[.agg #[.int .i64 a.fr, .int .i64 a.to, .int .i64 a.kp, .int .i64 a.ad, .int .i64 a.t0, .int .i64 a.t1, .int .i64 a.t2], .agg #[.int .i64 a.fr, .int .i64 a.to, .int .i64 a.kp, .int .i64 a.ad, .int .i64 a.t0, .int .i64 a.t1, .int .i64 a.t2]] w fun e w' => e = .returned (.bool D) ∧ Below w.heap.size w w')
    (c12 : ∀ w, Calls Try.prog 16 #[.agg #[.int .i64 a.fr, .int .i64 a.to, .int .i64 a.kp, .int .i64 a.ad, .int .i64 a.t0, .int .i64 a.t1, .int .i64 a.t2]] w fun e w' => e = .returned (.bool D) ∧ Below w.heap.size w w')
    : Calls Try.prog 7 #[.agg #[.int .i64 a.fr, .int .i64 a.to, .int .i64 a.kp, .int .i64 a.ad, .int .i64 a.t0, .int .i64 a.t1, .int .i64 a.t2], .agg #[.int .i64 b.fr, .int .i64 b.to, .int .i64 b.kp, .int .i64 b.ad, .int .i64 b.t0, .int .i64 b.t1, .int .i64 b.t2], .agg #[.int .i64 t.d, .int .i64 t.e, .int .i64 t.x, .int .i64 t.y, .int .i64 t.z], .agg #[.int .i64 s.d, .int .i64 s.e, .int .i64 s.x, .int .i64 s.y, .int .i64 s.z]] w fun e w' => e = .returned (.bool true) ∧ Below w.heap.size w w' := by
  have cw := fun w => works_any w
  have C1 := Lib.hid c1; have C2 := Lib.hid c2; have C3 := Lib.hid c3; have C5 := Lib.hid c5; have C6 := Lib.hid c6; have C8 := Lib.hid c8; have C9 := Lib.hid c9; have C10 := Lib.hid c10; have C11 := Lib.hid c11; have C12 := Lib.hid c12; have CW := Lib.hid cw; have C4 := Lib.hid c4; clear c1 c2 c3 c5 c6 c8 c9 c10 c11 c12 cw c4
  have HR := Lib.hid hR; clear hR
  have ha : HoldsM ((((w.alloc (.cells #[.int .i64 a.fr, .int .i64 a.to, .int .i64 a.kp, .int .i64 a.ad, .int .i64 a.t0, .int .i64 a.t1, .int .i64 a.t2] 24)).alloc (.cells #[.int .i64 b.fr, .int .i64 b.to, .int .i64 b.kp, .int .i64 b.ad, .int .i64 b.t0, .int .i64 b.t1, .int .i64 b.t2] 24)).alloc (.cells #[.int .i64 t.d, .int .i64 t.e, .int .i64 t.x, .int .i64 t.y, .int .i64 t.z] 26)).alloc (.cells #[.int .i64 s.d, .int .i64 s.e, .int .i64 s.x, .int .i64 s.y, .int .i64 s.z] 26)) w.heap.size 24 a := by
    have hq := Row.alloc (Row.alloc (Row.alloc (Row.made w 24 [.int .i64 a.fr, .int .i64 a.to, .int .i64 a.kp, .int .i64 a.ad, .int .i64 a.t0, .int .i64 a.t1, .int .i64 a.t2]) (.cells #[.int .i64 b.fr, .int .i64 b.to, .int .i64 b.kp, .int .i64 b.ad, .int .i64 b.t0, .int .i64 b.t1, .int .i64 b.t2] 24)) (.cells #[.int .i64 t.d, .int .i64 t.e, .int .i64 t.x, .int .i64 t.y, .int .i64 t.z] 26)) (.cells #[.int .i64 s.d, .int .i64 s.e, .int .i64 s.x, .int .i64 s.y, .int .i64 s.z] 26)
    exact hq
  have hb : HoldsM ((((w.alloc (.cells #[.int .i64 a.fr, .int .i64 a.to, .int .i64 a.kp, .int .i64 a.ad, .int .i64 a.t0, .int .i64 a.t1, .int .i64 a.t2] 24)).alloc (.cells #[.int .i64 b.fr, .int .i64 b.to, .int .i64 b.kp, .int .i64 b.ad, .int .i64 b.t0, .int .i64 b.t1, .int .i64 b.t2] 24)).alloc (.cells #[.int .i64 t.d, .int .i64 t.e, .int .i64 t.x, .int .i64 t.y, .int .i64 t.z] 26)).alloc (.cells #[.int .i64 s.d, .int .i64 s.e, .int .i64 s.x, .int .i64 s.y, .int .i64 s.z] 26)) (w.heap.size + 1) 24 b := by
    have hq := Row.alloc (Row.alloc (Row.made (w.alloc (.cells #[.int .i64 a.fr, .int .i64 a.to, .int .i64 a.kp, .int .i64 a.ad, .int .i64 a.t0, .int .i64 a.t1, .int .i64 a.t2] 24)) 24 [.int .i64 b.fr, .int .i64 b.to, .int .i64 b.kp, .int .i64 b.ad, .int .i64 b.t0, .int .i64 b.t1, .int .i64 b.t2]) (.cells #[.int .i64 t.d, .int .i64 t.e, .int .i64 t.x, .int .i64 t.y, .int .i64 t.z] 26)) (.cells #[.int .i64 s.d, .int .i64 s.e, .int .i64 s.x, .int .i64 s.y, .int .i64 s.z] 26)
    rw [size_alloc] at hq
    exact hq
  have ht : Holds ((((w.alloc (.cells #[.int .i64 a.fr, .int .i64 a.to, .int .i64 a.kp, .int .i64 a.ad, .int .i64 a.t0, .int .i64 a.t1, .int .i64 a.t2] 24)).alloc (.cells #[.int .i64 b.fr, .int .i64 b.to, .int .i64 b.kp, .int .i64 b.ad, .int .i64 b.t0, .int .i64 b.t1, .int .i64 b.t2] 24)).alloc (.cells #[.int .i64 t.d, .int .i64 t.e, .int .i64 t.x, .int .i64 t.y, .int .i64 t.z] 26)).alloc (.cells #[.int .i64 s.d, .int .i64 s.e, .int .i64 s.x, .int .i64 s.y, .int .i64 s.z] 26)) (w.heap.size + 1 + 1) t := by
    have hq := Row.alloc (Row.made ((w.alloc (.cells #[.int .i64 a.fr, .int .i64 a.to, .int .i64 a.kp, .int .i64 a.ad, .int .i64 a.t0, .int .i64 a.t1, .int .i64 a.t2] 24)).alloc (.cells #[.int .i64 b.fr, .int .i64 b.to, .int .i64 b.kp, .int .i64 b.ad, .int .i64 b.t0, .int .i64 b.t1, .int .i64 b.t2] 24)) 26 [.int .i64 t.d, .int .i64 t.e, .int .i64 t.x, .int .i64 t.y, .int .i64 t.z]) (.cells #[.int .i64 s.d, .int .i64 s.e, .int .i64 s.x, .int .i64 s.y, .int .i64 s.z] 26)
    rw [size_alloc, size_alloc] at hq
    exact hq
  have hs : Holds ((((w.alloc (.cells #[.int .i64 a.fr, .int .i64 a.to, .int .i64 a.kp, .int .i64 a.ad, .int .i64 a.t0, .int .i64 a.t1, .int .i64 a.t2] 24)).alloc (.cells #[.int .i64 b.fr, .int .i64 b.to, .int .i64 b.kp, .int .i64 b.ad, .int .i64 b.t0, .int .i64 b.t1, .int .i64 b.t2] 24)).alloc (.cells #[.int .i64 t.d, .int .i64 t.e, .int .i64 t.x, .int .i64 t.y, .int .i64 t.z] 26)).alloc (.cells #[.int .i64 s.d, .int .i64 s.e, .int .i64 s.x, .int .i64 s.y, .int .i64 s.z] 26)) (w.heap.size + 1 + 1 + 1) s := by
    have hq := Row.made (((w.alloc (.cells #[.int .i64 a.fr, .int .i64 a.to, .int .i64 a.kp, .int .i64 a.ad, .int .i64 a.t0, .int .i64 a.t1, .int .i64 a.t2] 24)).alloc (.cells #[.int .i64 b.fr, .int .i64 b.to, .int .i64 b.kp, .int .i64 b.ad, .int .i64 b.t0, .int .i64 b.t1, .int .i64 b.t2] 24)).alloc (.cells #[.int .i64 t.d, .int .i64 t.e, .int .i64 t.x, .int .i64 t.y, .int .i64 t.z] 26)) 26 [.int .i64 s.d, .int .i64 s.e, .int .i64 s.x, .int .i64 s.y, .int .i64 s.z]
    rw [size_alloc, size_alloc, size_alloc] at hq
    exact hq
  have hbw : Below w.heap.size w ((((w.alloc (.cells #[.int .i64 a.fr, .int .i64 a.to, .int .i64 a.kp, .int .i64 a.ad, .int .i64 a.t0, .int .i64 a.t1, .int .i64 a.t2] 24)).alloc (.cells #[.int .i64 b.fr, .int .i64 b.to, .int .i64 b.kp, .int .i64 b.ad, .int .i64 b.t0, .int .i64 b.t1, .int .i64 b.t2] 24)).alloc (.cells #[.int .i64 t.d, .int .i64 t.e, .int .i64 t.x, .int .i64 t.y, .int .i64 t.z] 26)).alloc (.cells #[.int .i64 s.d, .int .i64 s.e, .int .i64 s.x, .int .i64 s.y, .int .i64 s.z] 26)) := ((((Below.refl _ _).alloc (by simp) _).alloc (by simp) _).alloc (by simp; omega) _).alloc (by simp; omega) _
  have Ha := Lib.hid ha; clear ha
  have Hb := Lib.hid hb; clear hb
  have Ht := Lib.hid ht; clear ht
  have Hs := Lib.hid hs; clear hs
  have HBW := Lib.hid hbw; clear hbw
  go_enter Try.func7, Try.ntmps7
  go_wp2_with fail
  generalize (((w.alloc (.cells #[.int .i64 a.fr, .int .i64 a.to, .int .i64 a.kp, .int .i64 a.ad, .int .i64 a.t0, .int .i64 a.t1, .int .i64 a.t2] 24)).alloc (.cells #[.int .i64 b.fr, .int .i64 b.to, .int .i64 b.kp, .int .i64 b.ad, .int .i64 b.t0, .int .i64 b.t1, .int .i64 b.t2] 24)).alloc (.cells #[.int .i64 t.d, .int .i64 t.e, .int .i64 t.x, .int .i64 t.y, .int .i64 t.z] 26)).alloc (.cells #[.int .i64 s.d, .int .i64 s.e, .int .i64 s.x, .int .i64 s.y, .int .i64 s.z] 26) = w0 at *
  have la := Ha.out.lt
  have lb := Hb.out.lt
  have lt := Ht.out.lt
  have ls := Hs.out.lt
  obtain ⟨cb0, cb1, cb2, cb3, cb4, cb5, cb6⟩ := Hb.out.cells7
  obtain ⟨ct0, ct1, ct2, ct3, ct4⟩ := Ht.out.c5
  go_wp2_with fail
  clear la lb lt ls cb0 cb1 cb2 cb3 cb4 cb5 cb6 ct0 ct1 ct2 ct3 ct4
  refine (C1.out _).mono ?_; rintro e v1 ⟨rfl, hbel⟩
  dsimp only
  have ha := Ha.out.below hbel; clear Ha
  have hb := Hb.out.below hbel; clear Hb
  have ht := Ht.out.below hbel; clear Ht
  have hs := Hs.out.below hbel; clear Hs
  have hbw := HBW.out.trans (hbel.mono HBW.out.size); clear HBW hbel
  have Ha := Lib.hid ha; clear ha
  have Hb := Lib.hid hb; clear hb
  have Ht := Lib.hid ht; clear ht
  have Hs := Lib.hid hs; clear hs
  have HBW := Lib.hid hbw; clear hbw
  have la := Ha.out.lt
  have lb := Hb.out.lt
  have lt := Ht.out.lt
  have ls := Hs.out.lt
  obtain ⟨ca0, ca1, ca2, ca3, ca4, ca5, ca6⟩ := Ha.out.cells7
  obtain ⟨ct0, ct1, ct2, ct3, ct4⟩ := Ht.out.c5
  go_wp2_with fail
  clear la lb lt ls ca0 ca1 ca2 ca3 ca4 ca5 ca6 ct0 ct1 ct2 ct3 ct4
  have ha := Ha.out.alloc (.cells #[.int .i64 U.d, .int .i64 U.e, .int .i64 U.x, .int .i64 U.y, .int .i64 U.z] 26); clear Ha
  have hb := Hb.out.alloc (.cells #[.int .i64 U.d, .int .i64 U.e, .int .i64 U.x, .int .i64 U.y, .int .i64 U.z] 26); clear Hb
  have ht := Ht.out.alloc (.cells #[.int .i64 U.d, .int .i64 U.e, .int .i64 U.x, .int .i64 U.y, .int .i64 U.z] 26); clear Ht
  have hs := Hs.out.alloc (.cells #[.int .i64 U.d, .int .i64 U.e, .int .i64 U.x, .int .i64 U.y, .int .i64 U.z] 26); clear Hs
  have hu : Holds (v1.alloc (.cells #[.int .i64 U.d, .int .i64 U.e, .int .i64 U.x, .int .i64 U.y, .int .i64 U.z] 26)) v1.heap.size U := Row.made v1 _ _
  have hbw := HBW.out.alloc HBW.out.size (.cells #[.int .i64 U.d, .int .i64 U.e, .int .i64 U.x, .int .i64 U.y, .int .i64 U.z] 26); clear HBW
  generalize v1.alloc (.cells #[.int .i64 U.d, .int .i64 U.e, .int .i64 U.x, .int .i64 U.y, .int .i64 U.z] 26) = v2 at *
  generalize v1.heap.size = gu at *
  have Ha := Lib.hid ha; clear ha
  have Hb := Lib.hid hb; clear hb
  have Ht := Lib.hid ht; clear ht
  have Hs := Lib.hid hs; clear hs
  have Hu := Lib.hid hu; clear hu
  have HBW := Lib.hid hbw; clear hbw
  refine (C2.out _).mono ?_; rintro e v3 ⟨rfl, hbel⟩
  dsimp only
  have ha := Ha.out.below hbel; clear Ha
  have hb := Hb.out.below hbel; clear Hb
  have ht := Ht.out.below hbel; clear Ht
  have hs := Hs.out.below hbel; clear Hs
  have hu := Hu.out.below hbel; clear Hu
  have hbw := HBW.out.trans (hbel.mono HBW.out.size); clear HBW hbel
  have Ha := Lib.hid ha; clear ha
  have Hb := Lib.hid hb; clear hb
  have Ht := Lib.hid ht; clear ht
  have Hs := Lib.hid hs; clear hs
  have Hu := Lib.hid hu; clear hu
  have HBW := Lib.hid hbw; clear hbw
  have la := Ha.out.lt
  have lb := Hb.out.lt
  have lt := Ht.out.lt
  have ls := Hs.out.lt
  have lu := Hu.out.lt
  obtain ⟨ca0, ca1, ca2, ca3, ca4, ca5, ca6⟩ := Ha.out.cells7
  obtain ⟨cb0, cb1, cb2, cb3, cb4, cb5, cb6⟩ := Hb.out.cells7
  go_wp2_with fail
  clear la lb lt ls lu ca0 ca1 ca2 ca3 ca4 ca5 ca6 cb0 cb1 cb2 cb3 cb4 cb5 cb6
  have ha := Ha.out.alloc (.cells #[.int .i64 V.d, .int .i64 V.e, .int .i64 V.x, .int .i64 V.y, .int .i64 V.z] 26); clear Ha
  have hb := Hb.out.alloc (.cells #[.int .i64 V.d, .int .i64 V.e, .int .i64 V.x, .int .i64 V.y, .int .i64 V.z] 26); clear Hb
  have ht := Ht.out.alloc (.cells #[.int .i64 V.d, .int .i64 V.e, .int .i64 V.x, .int .i64 V.y, .int .i64 V.z] 26); clear Ht
  have hs := Hs.out.alloc (.cells #[.int .i64 V.d, .int .i64 V.e, .int .i64 V.x, .int .i64 V.y, .int .i64 V.z] 26); clear Hs
  have hu := Hu.out.alloc (.cells #[.int .i64 V.d, .int .i64 V.e, .int .i64 V.x, .int .i64 V.y, .int .i64 V.z] 26); clear Hu
  have hv : Holds (v3.alloc (.cells #[.int .i64 V.d, .int .i64 V.e, .int .i64 V.x, .int .i64 V.y, .int .i64 V.z] 26)) v3.heap.size V := Row.made v3 _ _
  have hbw := HBW.out.alloc HBW.out.size (.cells #[.int .i64 V.d, .int .i64 V.e, .int .i64 V.x, .int .i64 V.y, .int .i64 V.z] 26); clear HBW
  generalize v3.alloc (.cells #[.int .i64 V.d, .int .i64 V.e, .int .i64 V.x, .int .i64 V.y, .int .i64 V.z] 26) = v4 at *
  generalize v3.heap.size = gv at *
  have Ha := Lib.hid ha; clear ha
  have Hb := Lib.hid hb; clear hb
  have Ht := Lib.hid ht; clear ht
  have Hs := Lib.hid hs; clear hs
  have Hu := Lib.hid hu; clear hu
  have Hv := Lib.hid hv; clear hv
  have HBW := Lib.hid hbw; clear hbw
  refine (C3.out _).mono ?_; rintro e v5 ⟨rfl, hbel⟩
  dsimp only
  have ha := Ha.out.below hbel; clear Ha
  have hb := Hb.out.below hbel; clear Hb
  have ht := Ht.out.below hbel; clear Ht
  have hs := Hs.out.below hbel; clear Hs
  have hu := Hu.out.below hbel; clear Hu
  have hv := Hv.out.below hbel; clear Hv
  have hbw := HBW.out.trans (hbel.mono HBW.out.size); clear HBW hbel
  have Ha := Lib.hid ha; clear ha
  have Hb := Lib.hid hb; clear hb
  have Ht := Lib.hid ht; clear ht
  have Hs := Lib.hid hs; clear hs
  have Hu := Lib.hid hu; clear hu
  have Hv := Lib.hid hv; clear hv
  have HBW := Lib.hid hbw; clear hbw
  have la := Ha.out.lt
  have lb := Hb.out.lt
  have lt := Ht.out.lt
  have ls := Hs.out.lt
  have lu := Hu.out.lt
  have lv := Hv.out.lt
  obtain ⟨cu0, cu1, cu2, cu3, cu4⟩ := Hu.out.c5
  obtain ⟨cv0, cv1, cv2, cv3, cv4⟩ := Hv.out.c5
  go_wp2_with fail
  clear la lb lt ls lu lv cu0 cu1 cu2 cu3 cu4 cv0 cv1 cv2 cv3 cv4
  refine (C4.out _).mono ?_; rintro e v6 ⟨rfl, hbel⟩
  dsimp only
  have ha := Ha.out.below hbel; clear Ha
  have hb := Hb.out.below hbel; clear Hb
  have ht := Ht.out.below hbel; clear Ht
  have hs := Hs.out.below hbel; clear Hs
  have hu := Hu.out.below hbel; clear Hu
  have hv := Hv.out.below hbel; clear Hv
  have hbw := HBW.out.trans (hbel.mono HBW.out.size); clear HBW hbel
  have Ha := Lib.hid ha; clear ha
  have Hb := Lib.hid hb; clear hb
  have Ht := Lib.hid ht; clear ht
  have Hs := Lib.hid hs; clear hs
  have Hu := Lib.hid hu; clear hu
  have Hv := Lib.hid hv; clear hv
  have HBW := Lib.hid hbw; clear hbw
  have la := Ha.out.lt
  have lb := Hb.out.lt
  have lt := Ht.out.lt
  have ls := Hs.out.lt
  have lu := Hu.out.lt
  have lv := Hv.out.lt
  obtain ⟨cb0, cb1, cb2, cb3, cb4, cb5, cb6⟩ := Hb.out.cells7
  obtain ⟨cs0, cs1, cs2, cs3, cs4⟩ := Hs.out.c5
  go_wp2_with fail
  clear la lb lt ls lu lv cb0 cb1 cb2 cb3 cb4 cb5 cb6 cs0 cs1 cs2 cs3 cs4
  refine (C5.out _).mono ?_; rintro e v7 ⟨rfl, hbel⟩
  dsimp only
  have ha := Ha.out.below hbel; clear Ha
  have hb := Hb.out.below hbel; clear Hb
  have ht := Ht.out.below hbel; clear Ht
  have hs := Hs.out.below hbel; clear Hs
  have hu := Hu.out.below hbel; clear Hu
  have hv := Hv.out.below hbel; clear Hv
  have hbw := HBW.out.trans (hbel.mono HBW.out.size); clear HBW hbel
  have Ha := Lib.hid ha; clear ha
  have Hb := Lib.hid hb; clear hb
  have Ht := Lib.hid ht; clear ht
  have Hs := Lib.hid hs; clear hs
  have Hu := Lib.hid hu; clear hu
  have Hv := Lib.hid hv; clear hv
  have HBW := Lib.hid hbw; clear hbw
  have la := Ha.out.lt
  have lb := Hb.out.lt
  have lt := Ht.out.lt
  have ls := Hs.out.lt
  have lu := Hu.out.lt
  have lv := Hv.out.lt
  obtain ⟨ct0, ct1, ct2, ct3, ct4⟩ := Ht.out.c5
  obtain ⟨cs0, cs1, cs2, cs3, cs4⟩ := Hs.out.c5
  go_wp2_with fail
  clear la lb lt ls lu lv ct0 ct1 ct2 ct3 ct4 cs0 cs1 cs2 cs3 cs4
  have ha := Ha.out.alloc (.cells #[.int .i64 W2.d, .int .i64 W2.e, .int .i64 W2.x, .int .i64 W2.y, .int .i64 W2.z] 26); clear Ha
  have hb := Hb.out.alloc (.cells #[.int .i64 W2.d, .int .i64 W2.e, .int .i64 W2.x, .int .i64 W2.y, .int .i64 W2.z] 26); clear Hb
  have ht := Ht.out.alloc (.cells #[.int .i64 W2.d, .int .i64 W2.e, .int .i64 W2.x, .int .i64 W2.y, .int .i64 W2.z] 26); clear Ht
  have hs := Hs.out.alloc (.cells #[.int .i64 W2.d, .int .i64 W2.e, .int .i64 W2.x, .int .i64 W2.y, .int .i64 W2.z] 26); clear Hs
  have hu := Hu.out.alloc (.cells #[.int .i64 W2.d, .int .i64 W2.e, .int .i64 W2.x, .int .i64 W2.y, .int .i64 W2.z] 26); clear Hu
  have hv := Hv.out.alloc (.cells #[.int .i64 W2.d, .int .i64 W2.e, .int .i64 W2.x, .int .i64 W2.y, .int .i64 W2.z] 26); clear Hv
  have hw2 : Holds (v7.alloc (.cells #[.int .i64 W2.d, .int .i64 W2.e, .int .i64 W2.x, .int .i64 W2.y, .int .i64 W2.z] 26)) v7.heap.size W2 := Row.made v7 _ _
  have hbw := HBW.out.alloc HBW.out.size (.cells #[.int .i64 W2.d, .int .i64 W2.e, .int .i64 W2.x, .int .i64 W2.y, .int .i64 W2.z] 26); clear HBW
  generalize v7.alloc (.cells #[.int .i64 W2.d, .int .i64 W2.e, .int .i64 W2.x, .int .i64 W2.y, .int .i64 W2.z] 26) = v8 at *
  generalize v7.heap.size = gw2 at *
  have Ha := Lib.hid ha; clear ha
  have Hb := Lib.hid hb; clear hb
  have Ht := Lib.hid ht; clear ht
  have Hs := Lib.hid hs; clear hs
  have Hu := Lib.hid hu; clear hu
  have Hv := Lib.hid hv; clear hv
  have Hw2 := Lib.hid hw2; clear hw2
  have HBW := Lib.hid hbw; clear hbw
  refine (C6.out _).mono ?_; rintro e v9 ⟨rfl, hbel⟩
  dsimp only
  have ha := Ha.out.below hbel; clear Ha
  have hb := Hb.out.below hbel; clear Hb
  have ht := Ht.out.below hbel; clear Ht
  have hs := Hs.out.below hbel; clear Hs
  have hu := Hu.out.below hbel; clear Hu
  have hv := Hv.out.below hbel; clear Hv
  have hw2 := Hw2.out.below hbel; clear Hw2
  have hbw := HBW.out.trans (hbel.mono HBW.out.size); clear HBW hbel
  have Ha := Lib.hid ha; clear ha
  have Hb := Lib.hid hb; clear hb
  have Ht := Lib.hid ht; clear ht
  have Hs := Lib.hid hs; clear hs
  have Hu := Lib.hid hu; clear hu
  have Hv := Lib.hid hv; clear hv
  have Hw2 := Lib.hid hw2; clear hw2
  have HBW := Lib.hid hbw; clear hbw
  have la := Ha.out.lt
  have lb := Hb.out.lt
  have lt := Ht.out.lt
  have ls := Hs.out.lt
  have lu := Hu.out.lt
  have lv := Hv.out.lt
  have lw2 := Hw2.out.lt
  obtain ⟨ct0, ct1, ct2, ct3, ct4⟩ := Ht.out.c5
  go_wp2_with fail
  clear la lb lt ls lu lv lw2 ct0 ct1 ct2 ct3 ct4
  refine (C8.out _).mono ?_; rintro e v10 ⟨rfl, hbel⟩
  dsimp only
  have ha := Ha.out.below hbel; clear Ha
  have hb := Hb.out.below hbel; clear Hb
  have ht := Ht.out.below hbel; clear Ht
  have hs := Hs.out.below hbel; clear Hs
  have hu := Hu.out.below hbel; clear Hu
  have hv := Hv.out.below hbel; clear Hv
  have hw2 := Hw2.out.below hbel; clear Hw2
  have hbw := HBW.out.trans (hbel.mono HBW.out.size); clear HBW hbel
  have Ha := Lib.hid ha; clear ha
  have Hb := Lib.hid hb; clear hb
  have Ht := Lib.hid ht; clear ht
  have Hs := Lib.hid hs; clear hs
  have Hu := Lib.hid hu; clear hu
  have Hv := Lib.hid hv; clear hv
  have Hw2 := Lib.hid hw2; clear hw2
  have HBW := Lib.hid hbw; clear hbw
  have la := Ha.out.lt
  have lb := Hb.out.lt
  have lt := Ht.out.lt
  have ls := Hs.out.lt
  have lu := Hu.out.lt
  have lv := Hv.out.lt
  have lw2 := Hw2.out.lt
  obtain ⟨ct0, ct1, ct2, ct3, ct4⟩ := Ht.out.c5
  go_wp2_with fail
  clear la lb lt ls lu lv lw2 ct0 ct1 ct2 ct3 ct4
  have ha := Ha.out.alloc (.cells #[.int .i64 N.fr, .int .i64 N.to, .int .i64 N.kp, .int .i64 N.ad, .int .i64 N.t0, .int .i64 N.t1, .int .i64 N.t2] 24); clear Ha
  have hb := Hb.out.alloc (.cells #[.int .i64 N.fr, .int .i64 N.to, .int .i64 N.kp, .int .i64 N.ad, .int .i64 N.t0, .int .i64 N.t1, .int .i64 N.t2] 24); clear Hb
  have ht := Ht.out.alloc (.cells #[.int .i64 N.fr, .int .i64 N.to, .int .i64 N.kp, .int .i64 N.ad, .int .i64 N.t0, .int .i64 N.t1, .int .i64 N.t2] 24); clear Ht
  have hs := Hs.out.alloc (.cells #[.int .i64 N.fr, .int .i64 N.to, .int .i64 N.kp, .int .i64 N.ad, .int .i64 N.t0, .int .i64 N.t1, .int .i64 N.t2] 24); clear Hs
  have hu := Hu.out.alloc (.cells #[.int .i64 N.fr, .int .i64 N.to, .int .i64 N.kp, .int .i64 N.ad, .int .i64 N.t0, .int .i64 N.t1, .int .i64 N.t2] 24); clear Hu
  have hv := Hv.out.alloc (.cells #[.int .i64 N.fr, .int .i64 N.to, .int .i64 N.kp, .int .i64 N.ad, .int .i64 N.t0, .int .i64 N.t1, .int .i64 N.t2] 24); clear Hv
  have hw2 := Hw2.out.alloc (.cells #[.int .i64 N.fr, .int .i64 N.to, .int .i64 N.kp, .int .i64 N.ad, .int .i64 N.t0, .int .i64 N.t1, .int .i64 N.t2] 24); clear Hw2
  have hn : HoldsM (v10.alloc (.cells #[.int .i64 N.fr, .int .i64 N.to, .int .i64 N.kp, .int .i64 N.ad, .int .i64 N.t0, .int .i64 N.t1, .int .i64 N.t2] 24)) v10.heap.size 24 N := Row.made v10 _ _
  have hbw := HBW.out.alloc HBW.out.size (.cells #[.int .i64 N.fr, .int .i64 N.to, .int .i64 N.kp, .int .i64 N.ad, .int .i64 N.t0, .int .i64 N.t1, .int .i64 N.t2] 24); clear HBW
  generalize v10.alloc (.cells #[.int .i64 N.fr, .int .i64 N.to, .int .i64 N.kp, .int .i64 N.ad, .int .i64 N.t0, .int .i64 N.t1, .int .i64 N.t2] 24) = v11 at *
  generalize v10.heap.size = gn at *
  have Ha := Lib.hid ha; clear ha
  have Hb := Lib.hid hb; clear hb
  have Ht := Lib.hid ht; clear ht
  have Hs := Lib.hid hs; clear hs
  have Hu := Lib.hid hu; clear hu
  have Hv := Lib.hid hv; clear hv
  have Hw2 := Lib.hid hw2; clear hw2
  have Hn := Lib.hid hn; clear hn
  have HBW := Lib.hid hbw; clear hbw
  refine (C9.out _).mono ?_; rintro e v12 ⟨rfl, hbel⟩
  dsimp only
  have ha := Ha.out.below hbel; clear Ha
  have hb := Hb.out.below hbel; clear Hb
  have ht := Ht.out.below hbel; clear Ht
  have hs := Hs.out.below hbel; clear Hs
  have hu := Hu.out.below hbel; clear Hu
  have hv := Hv.out.below hbel; clear Hv
  have hw2 := Hw2.out.below hbel; clear Hw2
  have hn := Hn.out.below hbel; clear Hn
  have hbw := HBW.out.trans (hbel.mono HBW.out.size); clear HBW hbel
  have Ha := Lib.hid ha; clear ha
  have Hb := Lib.hid hb; clear hb
  have Ht := Lib.hid ht; clear ht
  have Hs := Lib.hid hs; clear hs
  have Hu := Lib.hid hu; clear hu
  have Hv := Lib.hid hv; clear hv
  have Hw2 := Lib.hid hw2; clear hw2
  have Hn := Lib.hid hn; clear hn
  have HBW := Lib.hid hbw; clear hbw
  have la := Ha.out.lt
  have lb := Hb.out.lt
  have lt := Ht.out.lt
  have ls := Hs.out.lt
  have lu := Hu.out.lt
  have lv := Hv.out.lt
  have lw2 := Hw2.out.lt
  have ln := Hn.out.lt
  go_wp2_with fail
  clear la lb lt ls lu lv lw2 ln
  have ha := Ha.out.alloc (.cells #[.int .i64 X.d, .int .i64 X.e, .int .i64 X.x, .int .i64 X.y, .int .i64 X.z] 26); clear Ha
  have hb := Hb.out.alloc (.cells #[.int .i64 X.d, .int .i64 X.e, .int .i64 X.x, .int .i64 X.y, .int .i64 X.z] 26); clear Hb
  have ht := Ht.out.alloc (.cells #[.int .i64 X.d, .int .i64 X.e, .int .i64 X.x, .int .i64 X.y, .int .i64 X.z] 26); clear Ht
  have hs := Hs.out.alloc (.cells #[.int .i64 X.d, .int .i64 X.e, .int .i64 X.x, .int .i64 X.y, .int .i64 X.z] 26); clear Hs
  have hu := Hu.out.alloc (.cells #[.int .i64 X.d, .int .i64 X.e, .int .i64 X.x, .int .i64 X.y, .int .i64 X.z] 26); clear Hu
  have hv := Hv.out.alloc (.cells #[.int .i64 X.d, .int .i64 X.e, .int .i64 X.x, .int .i64 X.y, .int .i64 X.z] 26); clear Hv
  have hw2 := Hw2.out.alloc (.cells #[.int .i64 X.d, .int .i64 X.e, .int .i64 X.x, .int .i64 X.y, .int .i64 X.z] 26); clear Hw2
  have hn := Hn.out.alloc (.cells #[.int .i64 X.d, .int .i64 X.e, .int .i64 X.x, .int .i64 X.y, .int .i64 X.z] 26); clear Hn
  have hx : Holds (v12.alloc (.cells #[.int .i64 X.d, .int .i64 X.e, .int .i64 X.x, .int .i64 X.y, .int .i64 X.z] 26)) v12.heap.size X := Row.made v12 _ _
  have hbw := HBW.out.alloc HBW.out.size (.cells #[.int .i64 X.d, .int .i64 X.e, .int .i64 X.x, .int .i64 X.y, .int .i64 X.z] 26); clear HBW
  generalize v12.alloc (.cells #[.int .i64 X.d, .int .i64 X.e, .int .i64 X.x, .int .i64 X.y, .int .i64 X.z] 26) = v13 at *
  generalize v12.heap.size = gx at *
  have Ha := Lib.hid ha; clear ha
  have Hb := Lib.hid hb; clear hb
  have Ht := Lib.hid ht; clear ht
  have Hs := Lib.hid hs; clear hs
  have Hu := Lib.hid hu; clear hu
  have Hv := Lib.hid hv; clear hv
  have Hw2 := Lib.hid hw2; clear hw2
  have Hn := Lib.hid hn; clear hn
  have Hx := Lib.hid hx; clear hx
  have HBW := Lib.hid hbw; clear hbw
  cases R with
  | true =>
    obtain ⟨h1, h2, h3⟩ := HR.out rfl
    subst h1; subst h2
    have HX := Lib.hid h3; clear h3 HR
    refine wp_region_below (by kernel_rfl) (by kernel_rfl) ?_
    refine wpQuiet_step (fun K hK => ?_); refine q_load (p := .pointer (some ⟨(w.heap.size + 1 + 1), 0, none⟩)) 26 _ rfl rfl rfl (load_t Ht.out) ?_; go_simp; (with_reducible refine hK _ ?_); clear hK K
    refine wpQuiet_step (fun K hK => ?_); go_simp; (with_reducible refine ⟨_, fun _ hb => (C10.out _).mono fun _ _ h => ⟨h.1, hb.trans (h.2.mono (by simpa using hb.size))⟩, hK _ ?_⟩); clear hK K
    refine wpQuiet_step (fun K hK => ?_); go_simp; (first | (with_reducible refine hK _ ?_) | (with_reducible refine ⟨_, fun _ _ => rfl, hK _ ?_⟩)); clear hK K
    refine wpQuiet_step (fun K hK => ?_); go_simp; (first | (with_reducible refine hK _ ?_) | (with_reducible refine ⟨_, fun _ _ => rfl, hK _ ?_⟩)); clear hK K
    refine wpQuiet_step (fun K hK => ?_); go_simp; (first | (with_reducible refine hK _ ?_) | (with_reducible refine ⟨_, fun _ _ => rfl, hK _ ?_⟩)); clear hK K
    refine wpQuiet_step (fun K hK => ?_); go_simp; (first | (with_reducible refine hK _ ?_) | (with_reducible refine ⟨_, fun _ _ => rfl, hK _ ?_⟩)); clear hK K
    refine wpQuiet_step (fun K hK => ?_); go_simp; (first | (with_reducible refine hK _ ?_) | (with_reducible refine ⟨_, fun _ _ => rfl, hK _ ?_⟩)); clear hK K
    refine wpQuiet_step (fun K hK => ?_); go_simp; (first | (with_reducible refine hK _ ?_) | (with_reducible refine ⟨_, fun _ _ => rfl, hK _ ?_⟩)); clear hK K
    refine wpQuiet_step (fun K hK => ?_); go_simp; (first | (with_reducible refine hK _ ?_) | (with_reducible refine ⟨_, fun _ _ => rfl, hK _ ?_⟩)); clear hK K
    refine wpQuiet_step (fun K hK => ?_); refine q_load (p := .pointer (some ⟨gx, 0, none⟩)) 26 _ rfl rfl rfl (load_t Hx.out) ?_; go_simp; (with_reducible refine hK _ ?_); clear hK K
    refine wpQuiet_step (fun K hK => ?_); refine q_load (p := .pointer (some ⟨(w.heap.size + 1 + 1), 0, none⟩)) 26 _ rfl rfl rfl (load_t Ht.out) ?_; go_simp; (with_reducible refine hK _ ?_); clear hK K
    refine wpQuiet_step (fun K hK => ?_); refine q_bin _ _ _ _ _ rfl rfl rfl rfl (eqt_is _ _ HX.out) ?_; go_simp; (with_reducible refine hK _ ?_); clear hK K
    refine wpQuiet_step (fun K hK => ?_); go_simp; (first | (with_reducible refine hK _ ?_) | (with_reducible refine ⟨_, fun _ _ => rfl, hK _ ?_⟩)); clear hK K
    refine wpQuiet_step (fun K hK => ?_); go_simp; (first | (with_reducible refine hK _ ?_) | (with_reducible refine ⟨_, fun _ _ => rfl, hK _ ?_⟩)); clear hK K
    refine wpQuiet_step (fun K hK => ?_); go_simp; (first | (with_reducible refine hK _ ?_) | (with_reducible refine ⟨_, fun _ _ => rfl, hK _ ?_⟩)); clear hK K
    refine wpQuiet_step (fun K hK => ?_); refine q_load (p := .pointer (some ⟨w.heap.size, 0, none⟩)) 24 _ rfl rfl rfl (load_m Ha.out) ?_; go_simp; (with_reducible refine hK _ ?_); clear hK K
    refine wpQuiet_step (fun K hK => ?_); refine q_load (p := .pointer (some ⟨w.heap.size, 0, none⟩)) 24 _ rfl rfl rfl (load_m Ha.out) ?_; go_simp; (with_reducible refine hK _ ?_); clear hK K
    refine wpQuiet_step (fun K hK => ?_); go_simp; (with_reducible refine ⟨_, fun _ hb => (C11.out _).mono fun _ _ h => ⟨h.1, hb.trans (h.2.mono (by simpa using hb.size))⟩, hK _ ?_⟩); clear hK K
    refine wpQuiet_step (fun K hK => ?_); refine q_load (p := .pointer (some ⟨w.heap.size, 0, none⟩)) 24 _ rfl rfl rfl (load_m Ha.out) ?_; go_simp; (with_reducible refine hK _ ?_); clear hK K
    refine wpQuiet_step (fun K hK => ?_); go_simp; (with_reducible refine ⟨_, fun _ hb => (C12.out _).mono fun _ _ h => ⟨h.1, hb.trans (h.2.mono (by simpa using hb.size))⟩, hK _ ?_⟩); clear hK K
    refine wpQuiet_step (fun K hK => ?_); refine q_bin _ _ _ _ _ rfl rfl rfl rfl (eqb_self _ _ D) ?_; go_simp; (with_reducible refine hK _ ?_); clear hK K
    refine wpQuiet_step (fun K hK => ?_); go_simp; (first | (with_reducible refine hK _ ?_) | (with_reducible refine ⟨_, fun _ _ => rfl, hK _ ?_⟩)); clear hK K
    refine wpQuiet_step (fun K hK => ?_); go_simp; (first | (with_reducible refine hK _ ?_) | (with_reducible refine ⟨_, fun _ _ => rfl, hK _ ?_⟩)); clear hK K
    refine wpQuiet_step (fun K hK => ?_); go_simp; (with_reducible refine ⟨_, fun _ hb => (CW.out _).mono fun _ _ h => ⟨h.1, hb.trans (h.2.mono (by simpa using hb.size))⟩, hK _ ?_⟩); clear hK K
    refine wpQuiet_step (fun K hK => ?_); go_simp; (first | (with_reducible refine hK _ ?_) | (with_reducible refine ⟨_, fun _ _ => rfl, hK _ ?_⟩)); clear hK K
    refine wpQuiet_step (fun K hK => ?_); go_simp; (first | (with_reducible refine hK _ ?_) | (with_reducible refine ⟨_, fun _ _ => rfl, hK _ ?_⟩)); clear hK K
    refine wpQuiet_nil ?_
    intro vz hbel
    have hbw := HBW.out.trans (hbel.mono HBW.out.size); clear HBW hbel
    go_wp2_with fail
    go_ret
    exact ⟨rfl, hbw⟩
  | false =>
    clear HR
    refine wp_region_below (by kernel_rfl) (by kernel_rfl) ?_
    refine wpQuiet_step (fun K hK => ?_); refine q_load (p := .pointer (some ⟨(w.heap.size + 1 + 1), 0, none⟩)) 26 _ rfl rfl rfl (load_t Ht.out) ?_; go_simp; (with_reducible refine hK _ ?_); clear hK K
    refine wpQuiet_step (fun K hK => ?_); go_simp; (with_reducible refine ⟨_, fun _ hb => (C10.out _).mono fun _ _ h => ⟨h.1, hb.trans (h.2.mono (by simpa using hb.size))⟩, hK _ ?_⟩); clear hK K
    refine wpQuiet_step (fun K hK => ?_); go_simp; (first | (with_reducible refine hK _ ?_) | (with_reducible refine ⟨_, fun _ _ => rfl, hK _ ?_⟩)); clear hK K
    refine wpQuiet_step (fun K hK => ?_); go_simp; (try (with_reducible refine ⟨_, fun _ _ => rfl, ?_⟩)); generalize hA : ({ tmps := _, defers := _ } : Act) = A; (with_reducible refine hK A ?_); clear hK K
    refine wpQuiet_step (fun K hK => ?_); subst hA; go_simp; (try (with_reducible refine ⟨_, fun _ _ => rfl, ?_⟩)); generalize hA : ({ tmps := _, defers := _ } : Act) = A; (with_reducible refine hK A ?_); clear hK K
    refine wpQuiet_step (fun K hK => ?_); subst hA; go_simp; (try (with_reducible refine ⟨_, fun _ _ => rfl, ?_⟩)); generalize hA : ({ tmps := _, defers := _ } : Act) = A; (with_reducible refine hK A ?_); clear hK K
    refine wpQuiet_step (fun K hK => ?_); subst hA; go_simp; generalize hA : ({ tmps := _, defers := _ } : Act) = A; rw [if_neg (by simp [undef])]; (with_reducible refine hK A ?_); clear hK K
    refine wpQuiet_step (fun K hK => ?_); subst hA; go_simp; (try (with_reducible refine ⟨_, fun _ _ => rfl, ?_⟩)); generalize hA : ({ tmps := _, defers := _ } : Act) = A; (with_reducible refine hK A ?_); clear hK K
    refine wpQuiet_step (fun K hK => ?_); subst hA; go_simp; (try (with_reducible refine ⟨_, fun _ _ => rfl, ?_⟩)); generalize hA : ({ tmps := _, defers := _ } : Act) = A; (with_reducible refine hK A ?_); clear hK K
    refine wpQuiet_step (fun K hK => ?_); subst hA; go_simp; generalize hA : ({ tmps := _, defers := _ } : Act) = A; rw [if_neg (by simp [undef])]; (with_reducible refine hK A ?_); clear hK K
    refine wpQuiet_step (fun K hK => ?_); subst hA; go_simp; generalize hA : ({ tmps := _, defers := _ } : Act) = A; rw [if_neg (by simp [undef])]; (with_reducible refine hK A ?_); clear hK K
    refine wpQuiet_step (fun K hK => ?_); subst hA; go_simp; generalize hA : ({ tmps := _, defers := _ } : Act) = A; rw [if_neg (by simp [undef])]; (with_reducible refine hK A ?_); clear hK K
    refine wpQuiet_step (fun K hK => ?_); subst hA; go_simp; (try (with_reducible refine ⟨_, fun _ _ => rfl, ?_⟩)); generalize hA : ({ tmps := _, defers := _ } : Act) = A; (with_reducible refine hK A ?_); clear hK K
    refine wpQuiet_step (fun K hK => ?_); subst hA; go_simp; (first | (with_reducible refine hK _ ?_) | (with_reducible refine ⟨_, fun _ _ => rfl, hK _ ?_⟩)); clear hK K
    refine wpQuiet_step (fun K hK => ?_); go_simp; (first | (with_reducible refine hK _ ?_) | (with_reducible refine ⟨_, fun _ _ => rfl, hK _ ?_⟩)); clear hK K
    refine wpQuiet_step (fun K hK => ?_); refine q_load (p := .pointer (some ⟨w.heap.size, 0, none⟩)) 24 _ rfl rfl rfl (load_m Ha.out) ?_; go_simp; (with_reducible refine hK _ ?_); clear hK K
    refine wpQuiet_step (fun K hK => ?_); refine q_load (p := .pointer (some ⟨w.heap.size, 0, none⟩)) 24 _ rfl rfl rfl (load_m Ha.out) ?_; go_simp; (with_reducible refine hK _ ?_); clear hK K
    refine wpQuiet_step (fun K hK => ?_); go_simp; (with_reducible refine ⟨_, fun _ hb => (C11.out _).mono fun _ _ h => ⟨h.1, hb.trans (h.2.mono (by simpa using hb.size))⟩, hK _ ?_⟩); clear hK K
    refine wpQuiet_step (fun K hK => ?_); refine q_load (p := .pointer (some ⟨w.heap.size, 0, none⟩)) 24 _ rfl rfl rfl (load_m Ha.out) ?_; go_simp; (with_reducible refine hK _ ?_); clear hK K
    refine wpQuiet_step (fun K hK => ?_); go_simp; (with_reducible refine ⟨_, fun _ hb => (C12.out _).mono fun _ _ h => ⟨h.1, hb.trans (h.2.mono (by simpa using hb.size))⟩, hK _ ?_⟩); clear hK K
    refine wpQuiet_step (fun K hK => ?_); refine q_bin _ _ _ _ _ rfl rfl rfl rfl (eqb_self _ _ D) ?_; go_simp; (with_reducible refine hK _ ?_); clear hK K
    refine wpQuiet_step (fun K hK => ?_); go_simp; (first | (with_reducible refine hK _ ?_) | (with_reducible refine ⟨_, fun _ _ => rfl, hK _ ?_⟩)); clear hK K
    refine wpQuiet_step (fun K hK => ?_); go_simp; (first | (with_reducible refine hK _ ?_) | (with_reducible refine ⟨_, fun _ _ => rfl, hK _ ?_⟩)); clear hK K
    refine wpQuiet_step (fun K hK => ?_); go_simp; (with_reducible refine ⟨_, fun _ hb => (CW.out _).mono fun _ _ h => ⟨h.1, hb.trans (h.2.mono (by simpa using hb.size))⟩, hK _ ?_⟩); clear hK K
    refine wpQuiet_step (fun K hK => ?_); go_simp; (first | (with_reducible refine hK _ ?_) | (with_reducible refine ⟨_, fun _ _ => rfl, hK _ ?_⟩)); clear hK K
    refine wpQuiet_step (fun K hK => ?_); go_simp; (first | (with_reducible refine hK _ ?_) | (with_reducible refine ⟨_, fun _ _ => rfl, hK _ ?_⟩)); clear hK K
    refine wpQuiet_nil ?_
    intro vz hbel
    have hbw := HBW.out.trans (hbel.mono HBW.out.size); clear HBW hbel
    go_wp2_with fail
    go_ret
    exact ⟨rfl, hbw⟩
set_option maxHeartbeats 8000000 in
theorem w_111 (a b N : Sm) (t s U V W2 X : St) (I Y E F R D : Bool) (w : World) (hR : R = true → E = true ∧ F = true ∧ X = t)
    (c1 : ∀ w, Calls Try.prog 11 #[.agg #[.int .i64 b.fr, .int .i64 b.to, .int .i64 b.kp, .int .i64 b.ad, .int .i64 b.t0, .int .i64 b.t1, .int .i64 b.t2], .agg #[.int .i64 t.d, .int .i64 t.e, .int .i64 t.x, .int .i64 t.y, .int .i64 t.z]] w fun e w' => e = .returned (.tuple #[.agg #[.int .i64 U.d, .int .i64 U.e, .int .i64 U.x, .int .i64 U.y, .int .i64 U.z], .bool true]) ∧ Below w.heap.size w w')
    (c2 : ∀ w, Calls Try.prog 11 #[.agg #[.int .i64 a.fr, .int .i64 a.to, .int .i64 a.kp, .int .i64 a.ad, .int .i64 a.t0, .int .i64 a.t1, .int .i64 a.t2], .agg #[.int .i64 t.d, .int .i64 t.e, .int .i64 t.x, .int .i64 t.y, .int .i64 t.z]] w fun e w' => e = .returned (.tuple #[.agg #[.int .i64 V.d, .int .i64 V.e, .int .i64 V.x, .int .i64 V.y, .int .i64 V.z], .bool true]) ∧ Below w.heap.size w w')
    (c3 : ∀ w, Calls Try.prog 21 #[.agg #[.int .i64 a.fr, .int .i64 a.to, .int .i64 a.kp, .int .i64 a.ad, .int .i64 a.t0, .int .i64 a.t1, .int .i64 a.t2], .agg #[.int .i64 b.fr, .int .i64 b.to, .int .i64 b.kp, .int .i64 b.ad, .int .i64 b.t0, .int .i64 b.t1, .int .i64 b.t2]] w fun e w' => e = .returned (.bool true) ∧ Below w.heap.size w w')
    (c4 : ∀ w, Calls Try.prog 27 #[.agg #[.int .i64 V.d, .int .i64 V.e, .int .i64 V.x, .int .i64 V.y, .int .i64 V.z], .agg #[.int .i64 U.d, .int .i64 U.e, .int .i64 U.x, .int .i64 U.y, .int .i64 U.z]] w fun e w' => e = .returned (.bool true) ∧ Below w.heap.size w w')
    (c5 : ∀ w, Calls Try.prog 11 #[.agg #[.int .i64 b.fr, .int .i64 b.to, .int .i64 b.kp, .int .i64 b.ad, .int .i64 b.t0, .int .i64 b.t1, .int .i64 b.t2], .agg #[.int .i64 s.d, .int .i64 s.e, .int .i64 s.x, .int .i64 s.y, .int .i64 s.z]] w fun e w' => e = .returned (.tuple #[.agg #[.int .i64 W2.d, .int .i64 W2.e, .int .i64 W2.x, .int .i64 W2.y, .int .i64 W2.z], .bool true]) ∧ Below w.heap.size w w')
    (c6 : ∀ w, Calls Try.prog 27 #[.agg #[.int .i64 s.d, .int .i64 s.e, .int .i64 s.x, .int .i64 s.y, .int .i64 s.z], .agg #[.int .i64 t.d, .int .i64 t.e, .int .i64 t.x, .int .i64 t.y, .int .i64 t.z]] w fun e w' => e = .returned (.bool true) ∧ Below w.heap.size w w')
    (c7 : ∀ w, Calls Try.prog 27 #[.agg #[.int .i64 W2.d, .int .i64 W2.e, .int .i64 W2.x, .int .i64 W2.y, .int .i64 W2.z], .agg #[.int .i64 U.d, .int .i64 U.e, .int .i64 U.x, .int .i64 U.y, .int .i64 U.z]] w fun e w' => e = .returned (.bool true) ∧ Below w.heap.size w w')
    (c8 : ∀ w, Calls Try.prog 14 #[.int .u8 2, .int .i64 t.d] w fun e w' => e = .returned (.tuple #[.agg #[.int .i64 N.fr, .int .i64 N.to, .int .i64 N.kp, .int .i64 N.ad, .int .i64 N.t0, .int .i64 N.t1, .int .i64 N.t2], .bool E]) ∧ Below w.heap.size w w')
    (c9 : ∀ w, Calls Try.prog 11 #[.agg #[.int .i64 N.fr, .int .i64 N.to, .int .i64 N.kp, .int .i64 N.ad, .int .i64 N.t0, .int .i64 N.t1, .int .i64 N.t2], .agg #[.int .i64 t.d, .int .i64 t.e, .int .i64 t.x, .int .i64 t.y, .int .i64 t.z]] w fun e w' => e = .returned (.tuple #[.agg #[.int .i64 X.d, .int .i64 X.e, .int .i64 X.x, .int .i64 X.y, .int .i64 X.z], .bool F]) ∧ Below w.heap.size w w')
    (c10 : ∀ w, Calls Try.prog 28 #[.agg #[.int .i64 t.d, .int .i64 t.e, .int .i64 t.x, .int .i64 t.y, .int .i64 t.z]] w fun e w' => e = .returned (.bool R) ∧ Below w.heap.size w w')
    (c11 : ∀ w, Calls Try.prog 21 #[.agg #[.int .i64 a.fr, .int .i64 a.to, .int .i64 a.kp, .int .i64 a.ad, .int .i64 a.t0, .int .i64 a.t1, .int .i64 a.t2], .agg #[.int .i64 a.fr, .int .i64 a.to, .int .i64 a.kp, .int .i64 a.ad, .int .i64 a.t0, .int .i64 a.t1, .int .i64 a.t2]] w fun e w' => e = .returned (.bool D) ∧ Below w.heap.size w w')
    (c12 : ∀ w, Calls Try.prog 16 #[.agg #[.int .i64 a.fr, .int .i64 a.to, .int .i64 a.kp, .int .i64 a.ad, .int .i64 a.t0, .int .i64 a.t1, .int .i64 a.t2]] w fun e w' => e = .returned (.bool D) ∧ Below w.heap.size w w')
    : Calls Try.prog 7 #[.agg #[.int .i64 a.fr, .int .i64 a.to, .int .i64 a.kp, .int .i64 a.ad, .int .i64 a.t0, .int .i64 a.t1, .int .i64 a.t2], .agg #[.int .i64 b.fr, .int .i64 b.to, .int .i64 b.kp, .int .i64 b.ad, .int .i64 b.t0, .int .i64 b.t1, .int .i64 b.t2], .agg #[.int .i64 t.d, .int .i64 t.e, .int .i64 t.x, .int .i64 t.y, .int .i64 t.z], .agg #[.int .i64 s.d, .int .i64 s.e, .int .i64 s.x, .int .i64 s.y, .int .i64 s.z]] w fun e w' => e = .returned (.bool true) ∧ Below w.heap.size w w' := by
  have cw := fun w => works_any w
  have C1 := Lib.hid c1; have C2 := Lib.hid c2; have C3 := Lib.hid c3; have C5 := Lib.hid c5; have C6 := Lib.hid c6; have C8 := Lib.hid c8; have C9 := Lib.hid c9; have C10 := Lib.hid c10; have C11 := Lib.hid c11; have C12 := Lib.hid c12; have CW := Lib.hid cw; have C4 := Lib.hid c4; have C7 := Lib.hid c7; clear c1 c2 c3 c5 c6 c8 c9 c10 c11 c12 cw c4 c7
  have HR := Lib.hid hR; clear hR
  have ha : HoldsM ((((w.alloc (.cells #[.int .i64 a.fr, .int .i64 a.to, .int .i64 a.kp, .int .i64 a.ad, .int .i64 a.t0, .int .i64 a.t1, .int .i64 a.t2] 24)).alloc (.cells #[.int .i64 b.fr, .int .i64 b.to, .int .i64 b.kp, .int .i64 b.ad, .int .i64 b.t0, .int .i64 b.t1, .int .i64 b.t2] 24)).alloc (.cells #[.int .i64 t.d, .int .i64 t.e, .int .i64 t.x, .int .i64 t.y, .int .i64 t.z] 26)).alloc (.cells #[.int .i64 s.d, .int .i64 s.e, .int .i64 s.x, .int .i64 s.y, .int .i64 s.z] 26)) w.heap.size 24 a := by
    have hq := Row.alloc (Row.alloc (Row.alloc (Row.made w 24 [.int .i64 a.fr, .int .i64 a.to, .int .i64 a.kp, .int .i64 a.ad, .int .i64 a.t0, .int .i64 a.t1, .int .i64 a.t2]) (.cells #[.int .i64 b.fr, .int .i64 b.to, .int .i64 b.kp, .int .i64 b.ad, .int .i64 b.t0, .int .i64 b.t1, .int .i64 b.t2] 24)) (.cells #[.int .i64 t.d, .int .i64 t.e, .int .i64 t.x, .int .i64 t.y, .int .i64 t.z] 26)) (.cells #[.int .i64 s.d, .int .i64 s.e, .int .i64 s.x, .int .i64 s.y, .int .i64 s.z] 26)
    exact hq
  have hb : HoldsM ((((w.alloc (.cells #[.int .i64 a.fr, .int .i64 a.to, .int .i64 a.kp, .int .i64 a.ad, .int .i64 a.t0, .int .i64 a.t1, .int .i64 a.t2] 24)).alloc (.cells #[.int .i64 b.fr, .int .i64 b.to, .int .i64 b.kp, .int .i64 b.ad, .int .i64 b.t0, .int .i64 b.t1, .int .i64 b.t2] 24)).alloc (.cells #[.int .i64 t.d, .int .i64 t.e, .int .i64 t.x, .int .i64 t.y, .int .i64 t.z] 26)).alloc (.cells #[.int .i64 s.d, .int .i64 s.e, .int .i64 s.x, .int .i64 s.y, .int .i64 s.z] 26)) (w.heap.size + 1) 24 b := by
    have hq := Row.alloc (Row.alloc (Row.made (w.alloc (.cells #[.int .i64 a.fr, .int .i64 a.to, .int .i64 a.kp, .int .i64 a.ad, .int .i64 a.t0, .int .i64 a.t1, .int .i64 a.t2] 24)) 24 [.int .i64 b.fr, .int .i64 b.to, .int .i64 b.kp, .int .i64 b.ad, .int .i64 b.t0, .int .i64 b.t1, .int .i64 b.t2]) (.cells #[.int .i64 t.d, .int .i64 t.e, .int .i64 t.x, .int .i64 t.y, .int .i64 t.z] 26)) (.cells #[.int .i64 s.d, .int .i64 s.e, .int .i64 s.x, .int .i64 s.y, .int .i64 s.z] 26)
    rw [size_alloc] at hq
    exact hq
  have ht : Holds ((((w.alloc (.cells #[.int .i64 a.fr, .int .i64 a.to, .int .i64 a.kp, .int .i64 a.ad, .int .i64 a.t0, .int .i64 a.t1, .int .i64 a.t2] 24)).alloc (.cells #[.int .i64 b.fr, .int .i64 b.to, .int .i64 b.kp, .int .i64 b.ad, .int .i64 b.t0, .int .i64 b.t1, .int .i64 b.t2] 24)).alloc (.cells #[.int .i64 t.d, .int .i64 t.e, .int .i64 t.x, .int .i64 t.y, .int .i64 t.z] 26)).alloc (.cells #[.int .i64 s.d, .int .i64 s.e, .int .i64 s.x, .int .i64 s.y, .int .i64 s.z] 26)) (w.heap.size + 1 + 1) t := by
    have hq := Row.alloc (Row.made ((w.alloc (.cells #[.int .i64 a.fr, .int .i64 a.to, .int .i64 a.kp, .int .i64 a.ad, .int .i64 a.t0, .int .i64 a.t1, .int .i64 a.t2] 24)).alloc (.cells #[.int .i64 b.fr, .int .i64 b.to, .int .i64 b.kp, .int .i64 b.ad, .int .i64 b.t0, .int .i64 b.t1, .int .i64 b.t2] 24)) 26 [.int .i64 t.d, .int .i64 t.e, .int .i64 t.x, .int .i64 t.y, .int .i64 t.z]) (.cells #[.int .i64 s.d, .int .i64 s.e, .int .i64 s.x, .int .i64 s.y, .int .i64 s.z] 26)
    rw [size_alloc, size_alloc] at hq
    exact hq
  have hs : Holds ((((w.alloc (.cells #[.int .i64 a.fr, .int .i64 a.to, .int .i64 a.kp, .int .i64 a.ad, .int .i64 a.t0, .int .i64 a.t1, .int .i64 a.t2] 24)).alloc (.cells #[.int .i64 b.fr, .int .i64 b.to, .int .i64 b.kp, .int .i64 b.ad, .int .i64 b.t0, .int .i64 b.t1, .int .i64 b.t2] 24)).alloc (.cells #[.int .i64 t.d, .int .i64 t.e, .int .i64 t.x, .int .i64 t.y, .int .i64 t.z] 26)).alloc (.cells #[.int .i64 s.d, .int .i64 s.e, .int .i64 s.x, .int .i64 s.y, .int .i64 s.z] 26)) (w.heap.size + 1 + 1 + 1) s := by
    have hq := Row.made (((w.alloc (.cells #[.int .i64 a.fr, .int .i64 a.to, .int .i64 a.kp, .int .i64 a.ad, .int .i64 a.t0, .int .i64 a.t1, .int .i64 a.t2] 24)).alloc (.cells #[.int .i64 b.fr, .int .i64 b.to, .int .i64 b.kp, .int .i64 b.ad, .int .i64 b.t0, .int .i64 b.t1, .int .i64 b.t2] 24)).alloc (.cells #[.int .i64 t.d, .int .i64 t.e, .int .i64 t.x, .int .i64 t.y, .int .i64 t.z] 26)) 26 [.int .i64 s.d, .int .i64 s.e, .int .i64 s.x, .int .i64 s.y, .int .i64 s.z]
    rw [size_alloc, size_alloc, size_alloc] at hq
    exact hq
  have hbw : Below w.heap.size w ((((w.alloc (.cells #[.int .i64 a.fr, .int .i64 a.to, .int .i64 a.kp, .int .i64 a.ad, .int .i64 a.t0, .int .i64 a.t1, .int .i64 a.t2] 24)).alloc (.cells #[.int .i64 b.fr, .int .i64 b.to, .int .i64 b.kp, .int .i64 b.ad, .int .i64 b.t0, .int .i64 b.t1, .int .i64 b.t2] 24)).alloc (.cells #[.int .i64 t.d, .int .i64 t.e, .int .i64 t.x, .int .i64 t.y, .int .i64 t.z] 26)).alloc (.cells #[.int .i64 s.d, .int .i64 s.e, .int .i64 s.x, .int .i64 s.y, .int .i64 s.z] 26)) := ((((Below.refl _ _).alloc (by simp) _).alloc (by simp) _).alloc (by simp; omega) _).alloc (by simp; omega) _
  have Ha := Lib.hid ha; clear ha
  have Hb := Lib.hid hb; clear hb
  have Ht := Lib.hid ht; clear ht
  have Hs := Lib.hid hs; clear hs
  have HBW := Lib.hid hbw; clear hbw
  go_enter Try.func7, Try.ntmps7
  go_wp2_with fail
  generalize (((w.alloc (.cells #[.int .i64 a.fr, .int .i64 a.to, .int .i64 a.kp, .int .i64 a.ad, .int .i64 a.t0, .int .i64 a.t1, .int .i64 a.t2] 24)).alloc (.cells #[.int .i64 b.fr, .int .i64 b.to, .int .i64 b.kp, .int .i64 b.ad, .int .i64 b.t0, .int .i64 b.t1, .int .i64 b.t2] 24)).alloc (.cells #[.int .i64 t.d, .int .i64 t.e, .int .i64 t.x, .int .i64 t.y, .int .i64 t.z] 26)).alloc (.cells #[.int .i64 s.d, .int .i64 s.e, .int .i64 s.x, .int .i64 s.y, .int .i64 s.z] 26) = w0 at *
  have la := Ha.out.lt
  have lb := Hb.out.lt
  have lt := Ht.out.lt
  have ls := Hs.out.lt
  obtain ⟨cb0, cb1, cb2, cb3, cb4, cb5, cb6⟩ := Hb.out.cells7
  obtain ⟨ct0, ct1, ct2, ct3, ct4⟩ := Ht.out.c5
  go_wp2_with fail
  clear la lb lt ls cb0 cb1 cb2 cb3 cb4 cb5 cb6 ct0 ct1 ct2 ct3 ct4
  refine (C1.out _).mono ?_; rintro e v1 ⟨rfl, hbel⟩
  dsimp only
  have ha := Ha.out.below hbel; clear Ha
  have hb := Hb.out.below hbel; clear Hb
  have ht := Ht.out.below hbel; clear Ht
  have hs := Hs.out.below hbel; clear Hs
  have hbw := HBW.out.trans (hbel.mono HBW.out.size); clear HBW hbel
  have Ha := Lib.hid ha; clear ha
  have Hb := Lib.hid hb; clear hb
  have Ht := Lib.hid ht; clear ht
  have Hs := Lib.hid hs; clear hs
  have HBW := Lib.hid hbw; clear hbw
  have la := Ha.out.lt
  have lb := Hb.out.lt
  have lt := Ht.out.lt
  have ls := Hs.out.lt
  obtain ⟨ca0, ca1, ca2, ca3, ca4, ca5, ca6⟩ := Ha.out.cells7
  obtain ⟨ct0, ct1, ct2, ct3, ct4⟩ := Ht.out.c5
  go_wp2_with fail
  clear la lb lt ls ca0 ca1 ca2 ca3 ca4 ca5 ca6 ct0 ct1 ct2 ct3 ct4
  have ha := Ha.out.alloc (.cells #[.int .i64 U.d, .int .i64 U.e, .int .i64 U.x, .int .i64 U.y, .int .i64 U.z] 26); clear Ha
  have hb := Hb.out.alloc (.cells #[.int .i64 U.d, .int .i64 U.e, .int .i64 U.x, .int .i64 U.y, .int .i64 U.z] 26); clear Hb
  have ht := Ht.out.alloc (.cells #[.int .i64 U.d, .int .i64 U.e, .int .i64 U.x, .int .i64 U.y, .int .i64 U.z] 26); clear Ht
  have hs := Hs.out.alloc (.cells #[.int .i64 U.d, .int .i64 U.e, .int .i64 U.x, .int .i64 U.y, .int .i64 U.z] 26); clear Hs
  have hu : Holds (v1.alloc (.cells #[.int .i64 U.d, .int .i64 U.e, .int .i64 U.x, .int .i64 U.y, .int .i64 U.z] 26)) v1.heap.size U := Row.made v1 _ _
  have hbw := HBW.out.alloc HBW.out.size (.cells #[.int .i64 U.d, .int .i64 U.e, .int .i64 U.x, .int .i64 U.y, .int .i64 U.z] 26); clear HBW
  generalize v1.alloc (.cells #[.int .i64 U.d, .int .i64 U.e, .int .i64 U.x, .int .i64 U.y, .int .i64 U.z] 26) = v2 at *
  generalize v1.heap.size = gu at *
  have Ha := Lib.hid ha; clear ha
  have Hb := Lib.hid hb; clear hb
  have Ht := Lib.hid ht; clear ht
  have Hs := Lib.hid hs; clear hs
  have Hu := Lib.hid hu; clear hu
  have HBW := Lib.hid hbw; clear hbw
  refine (C2.out _).mono ?_; rintro e v3 ⟨rfl, hbel⟩
  dsimp only
  have ha := Ha.out.below hbel; clear Ha
  have hb := Hb.out.below hbel; clear Hb
  have ht := Ht.out.below hbel; clear Ht
  have hs := Hs.out.below hbel; clear Hs
  have hu := Hu.out.below hbel; clear Hu
  have hbw := HBW.out.trans (hbel.mono HBW.out.size); clear HBW hbel
  have Ha := Lib.hid ha; clear ha
  have Hb := Lib.hid hb; clear hb
  have Ht := Lib.hid ht; clear ht
  have Hs := Lib.hid hs; clear hs
  have Hu := Lib.hid hu; clear hu
  have HBW := Lib.hid hbw; clear hbw
  have la := Ha.out.lt
  have lb := Hb.out.lt
  have lt := Ht.out.lt
  have ls := Hs.out.lt
  have lu := Hu.out.lt
  obtain ⟨ca0, ca1, ca2, ca3, ca4, ca5, ca6⟩ := Ha.out.cells7
  obtain ⟨cb0, cb1, cb2, cb3, cb4, cb5, cb6⟩ := Hb.out.cells7
  go_wp2_with fail
  clear la lb lt ls lu ca0 ca1 ca2 ca3 ca4 ca5 ca6 cb0 cb1 cb2 cb3 cb4 cb5 cb6
  have ha := Ha.out.alloc (.cells #[.int .i64 V.d, .int .i64 V.e, .int .i64 V.x, .int .i64 V.y, .int .i64 V.z] 26); clear Ha
  have hb := Hb.out.alloc (.cells #[.int .i64 V.d, .int .i64 V.e, .int .i64 V.x, .int .i64 V.y, .int .i64 V.z] 26); clear Hb
  have ht := Ht.out.alloc (.cells #[.int .i64 V.d, .int .i64 V.e, .int .i64 V.x, .int .i64 V.y, .int .i64 V.z] 26); clear Ht
  have hs := Hs.out.alloc (.cells #[.int .i64 V.d, .int .i64 V.e, .int .i64 V.x, .int .i64 V.y, .int .i64 V.z] 26); clear Hs
  have hu := Hu.out.alloc (.cells #[.int .i64 V.d, .int .i64 V.e, .int .i64 V.x, .int .i64 V.y, .int .i64 V.z] 26); clear Hu
  have hv : Holds (v3.alloc (.cells #[.int .i64 V.d, .int .i64 V.e, .int .i64 V.x, .int .i64 V.y, .int .i64 V.z] 26)) v3.heap.size V := Row.made v3 _ _
  have hbw := HBW.out.alloc HBW.out.size (.cells #[.int .i64 V.d, .int .i64 V.e, .int .i64 V.x, .int .i64 V.y, .int .i64 V.z] 26); clear HBW
  generalize v3.alloc (.cells #[.int .i64 V.d, .int .i64 V.e, .int .i64 V.x, .int .i64 V.y, .int .i64 V.z] 26) = v4 at *
  generalize v3.heap.size = gv at *
  have Ha := Lib.hid ha; clear ha
  have Hb := Lib.hid hb; clear hb
  have Ht := Lib.hid ht; clear ht
  have Hs := Lib.hid hs; clear hs
  have Hu := Lib.hid hu; clear hu
  have Hv := Lib.hid hv; clear hv
  have HBW := Lib.hid hbw; clear hbw
  refine (C3.out _).mono ?_; rintro e v5 ⟨rfl, hbel⟩
  dsimp only
  have ha := Ha.out.below hbel; clear Ha
  have hb := Hb.out.below hbel; clear Hb
  have ht := Ht.out.below hbel; clear Ht
  have hs := Hs.out.below hbel; clear Hs
  have hu := Hu.out.below hbel; clear Hu
  have hv := Hv.out.below hbel; clear Hv
  have hbw := HBW.out.trans (hbel.mono HBW.out.size); clear HBW hbel
  have Ha := Lib.hid ha; clear ha
  have Hb := Lib.hid hb; clear hb
  have Ht := Lib.hid ht; clear ht
  have Hs := Lib.hid hs; clear hs
  have Hu := Lib.hid hu; clear hu
  have Hv := Lib.hid hv; clear hv
  have HBW := Lib.hid hbw; clear hbw
  have la := Ha.out.lt
  have lb := Hb.out.lt
  have lt := Ht.out.lt
  have ls := Hs.out.lt
  have lu := Hu.out.lt
  have lv := Hv.out.lt
  obtain ⟨cu0, cu1, cu2, cu3, cu4⟩ := Hu.out.c5
  obtain ⟨cv0, cv1, cv2, cv3, cv4⟩ := Hv.out.c5
  go_wp2_with fail
  clear la lb lt ls lu lv cu0 cu1 cu2 cu3 cu4 cv0 cv1 cv2 cv3 cv4
  refine (C4.out _).mono ?_; rintro e v6 ⟨rfl, hbel⟩
  dsimp only
  have ha := Ha.out.below hbel; clear Ha
  have hb := Hb.out.below hbel; clear Hb
  have ht := Ht.out.below hbel; clear Ht
  have hs := Hs.out.below hbel; clear Hs
  have hu := Hu.out.below hbel; clear Hu
  have hv := Hv.out.below hbel; clear Hv
  have hbw := HBW.out.trans (hbel.mono HBW.out.size); clear HBW hbel
  have Ha := Lib.hid ha; clear ha
  have Hb := Lib.hid hb; clear hb
  have Ht := Lib.hid ht; clear ht
  have Hs := Lib.hid hs; clear hs
  have Hu := Lib.hid hu; clear hu
  have Hv := Lib.hid hv; clear hv
  have HBW := Lib.hid hbw; clear hbw
  have la := Ha.out.lt
  have lb := Hb.out.lt
  have lt := Ht.out.lt
  have ls := Hs.out.lt
  have lu := Hu.out.lt
  have lv := Hv.out.lt
  obtain ⟨cb0, cb1, cb2, cb3, cb4, cb5, cb6⟩ := Hb.out.cells7
  obtain ⟨cs0, cs1, cs2, cs3, cs4⟩ := Hs.out.c5
  go_wp2_with fail
  clear la lb lt ls lu lv cb0 cb1 cb2 cb3 cb4 cb5 cb6 cs0 cs1 cs2 cs3 cs4
  refine (C5.out _).mono ?_; rintro e v7 ⟨rfl, hbel⟩
  dsimp only
  have ha := Ha.out.below hbel; clear Ha
  have hb := Hb.out.below hbel; clear Hb
  have ht := Ht.out.below hbel; clear Ht
  have hs := Hs.out.below hbel; clear Hs
  have hu := Hu.out.below hbel; clear Hu
  have hv := Hv.out.below hbel; clear Hv
  have hbw := HBW.out.trans (hbel.mono HBW.out.size); clear HBW hbel
  have Ha := Lib.hid ha; clear ha
  have Hb := Lib.hid hb; clear hb
  have Ht := Lib.hid ht; clear ht
  have Hs := Lib.hid hs; clear hs
  have Hu := Lib.hid hu; clear hu
  have Hv := Lib.hid hv; clear hv
  have HBW := Lib.hid hbw; clear hbw
  have la := Ha.out.lt
  have lb := Hb.out.lt
  have lt := Ht.out.lt
  have ls := Hs.out.lt
  have lu := Hu.out.lt
  have lv := Hv.out.lt
  obtain ⟨ct0, ct1, ct2, ct3, ct4⟩ := Ht.out.c5
  obtain ⟨cs0, cs1, cs2, cs3, cs4⟩ := Hs.out.c5
  go_wp2_with fail
  clear la lb lt ls lu lv ct0 ct1 ct2 ct3 ct4 cs0 cs1 cs2 cs3 cs4
  have ha := Ha.out.alloc (.cells #[.int .i64 W2.d, .int .i64 W2.e, .int .i64 W2.x, .int .i64 W2.y, .int .i64 W2.z] 26); clear Ha
  have hb := Hb.out.alloc (.cells #[.int .i64 W2.d, .int .i64 W2.e, .int .i64 W2.x, .int .i64 W2.y, .int .i64 W2.z] 26); clear Hb
  have ht := Ht.out.alloc (.cells #[.int .i64 W2.d, .int .i64 W2.e, .int .i64 W2.x, .int .i64 W2.y, .int .i64 W2.z] 26); clear Ht
  have hs := Hs.out.alloc (.cells #[.int .i64 W2.d, .int .i64 W2.e, .int .i64 W2.x, .int .i64 W2.y, .int .i64 W2.z] 26); clear Hs
  have hu := Hu.out.alloc (.cells #[.int .i64 W2.d, .int .i64 W2.e, .int .i64 W2.x, .int .i64 W2.y, .int .i64 W2.z] 26); clear Hu
  have hv := Hv.out.alloc (.cells #[.int .i64 W2.d, .int .i64 W2.e, .int .i64 W2.x, .int .i64 W2.y, .int .i64 W2.z] 26); clear Hv
  have hw2 : Holds (v7.alloc (.cells #[.int .i64 W2.d, .int .i64 W2.e, .int .i64 W2.x, .int .i64 W2.y, .int .i64 W2.z] 26)) v7.heap.size W2 := Row.made v7 _ _
  have hbw := HBW.out.alloc HBW.out.size (.cells #[.int .i64 W2.d, .int .i64 W2.e, .int .i64 W2.x, .int .i64 W2.y, .int .i64 W2.z] 26); clear HBW
  generalize v7.alloc (.cells #[.int .i64 W2.d, .int .i64 W2.e, .int .i64 W2.x, .int .i64 W2.y, .int .i64 W2.z] 26) = v8 at *
  generalize v7.heap.size = gw2 at *
  have Ha := Lib.hid ha; clear ha
  have Hb := Lib.hid hb; clear hb
  have Ht := Lib.hid ht; clear ht
  have Hs := Lib.hid hs; clear hs
  have Hu := Lib.hid hu; clear hu
  have Hv := Lib.hid hv; clear hv
  have Hw2 := Lib.hid hw2; clear hw2
  have HBW := Lib.hid hbw; clear hbw
  refine (C6.out _).mono ?_; rintro e v9 ⟨rfl, hbel⟩
  dsimp only
  have ha := Ha.out.below hbel; clear Ha
  have hb := Hb.out.below hbel; clear Hb
  have ht := Ht.out.below hbel; clear Ht
  have hs := Hs.out.below hbel; clear Hs
  have hu := Hu.out.below hbel; clear Hu
  have hv := Hv.out.below hbel; clear Hv
  have hw2 := Hw2.out.below hbel; clear Hw2
  have hbw := HBW.out.trans (hbel.mono HBW.out.size); clear HBW hbel
  have Ha := Lib.hid ha; clear ha
  have Hb := Lib.hid hb; clear hb
  have Ht := Lib.hid ht; clear ht
  have Hs := Lib.hid hs; clear hs
  have Hu := Lib.hid hu; clear hu
  have Hv := Lib.hid hv; clear hv
  have Hw2 := Lib.hid hw2; clear hw2
  have HBW := Lib.hid hbw; clear hbw
  have la := Ha.out.lt
  have lb := Hb.out.lt
  have lt := Ht.out.lt
  have ls := Hs.out.lt
  have lu := Hu.out.lt
  have lv := Hv.out.lt
  have lw2 := Hw2.out.lt
  obtain ⟨cu0, cu1, cu2, cu3, cu4⟩ := Hu.out.c5
  obtain ⟨cw20, cw21, cw22, cw23, cw24⟩ := Hw2.out.c5
  go_wp2_with fail
  clear la lb lt ls lu lv lw2 cu0 cu1 cu2 cu3 cu4 cw20 cw21 cw22 cw23 cw24
  refine (C7.out _).mono ?_; rintro e v10 ⟨rfl, hbel⟩
  dsimp only
  have ha := Ha.out.below hbel; clear Ha
  have hb := Hb.out.below hbel; clear Hb
  have ht := Ht.out.below hbel; clear Ht
  have hs := Hs.out.below hbel; clear Hs
  have hu := Hu.out.below hbel; clear Hu
  have hv := Hv.out.below hbel; clear Hv
  have hw2 := Hw2.out.below hbel; clear Hw2
  have hbw := HBW.out.trans (hbel.mono HBW.out.size); clear HBW hbel
  have Ha := Lib.hid ha; clear ha
  have Hb := Lib.hid hb; clear hb
  have Ht := Lib.hid ht; clear ht
  have Hs := Lib.hid hs; clear hs
  have Hu := Lib.hid hu; clear hu
  have Hv := Lib.hid hv; clear hv
  have Hw2 := Lib.hid hw2; clear hw2
  have HBW := Lib.hid hbw; clear hbw
  have la := Ha.out.lt
  have lb := Hb.out.lt
  have lt := Ht.out.lt
  have ls := Hs.out.lt
  have lu := Hu.out.lt
  have lv := Hv.out.lt
  have lw2 := Hw2.out.lt
  obtain ⟨ct0, ct1, ct2, ct3, ct4⟩ := Ht.out.c5
  go_wp2_with fail
  clear la lb lt ls lu lv lw2 ct0 ct1 ct2 ct3 ct4
  refine (C8.out _).mono ?_; rintro e v11 ⟨rfl, hbel⟩
  dsimp only
  have ha := Ha.out.below hbel; clear Ha
  have hb := Hb.out.below hbel; clear Hb
  have ht := Ht.out.below hbel; clear Ht
  have hs := Hs.out.below hbel; clear Hs
  have hu := Hu.out.below hbel; clear Hu
  have hv := Hv.out.below hbel; clear Hv
  have hw2 := Hw2.out.below hbel; clear Hw2
  have hbw := HBW.out.trans (hbel.mono HBW.out.size); clear HBW hbel
  have Ha := Lib.hid ha; clear ha
  have Hb := Lib.hid hb; clear hb
  have Ht := Lib.hid ht; clear ht
  have Hs := Lib.hid hs; clear hs
  have Hu := Lib.hid hu; clear hu
  have Hv := Lib.hid hv; clear hv
  have Hw2 := Lib.hid hw2; clear hw2
  have HBW := Lib.hid hbw; clear hbw
  have la := Ha.out.lt
  have lb := Hb.out.lt
  have lt := Ht.out.lt
  have ls := Hs.out.lt
  have lu := Hu.out.lt
  have lv := Hv.out.lt
  have lw2 := Hw2.out.lt
  obtain ⟨ct0, ct1, ct2, ct3, ct4⟩ := Ht.out.c5
  go_wp2_with fail
  clear la lb lt ls lu lv lw2 ct0 ct1 ct2 ct3 ct4
  have ha := Ha.out.alloc (.cells #[.int .i64 N.fr, .int .i64 N.to, .int .i64 N.kp, .int .i64 N.ad, .int .i64 N.t0, .int .i64 N.t1, .int .i64 N.t2] 24); clear Ha
  have hb := Hb.out.alloc (.cells #[.int .i64 N.fr, .int .i64 N.to, .int .i64 N.kp, .int .i64 N.ad, .int .i64 N.t0, .int .i64 N.t1, .int .i64 N.t2] 24); clear Hb
  have ht := Ht.out.alloc (.cells #[.int .i64 N.fr, .int .i64 N.to, .int .i64 N.kp, .int .i64 N.ad, .int .i64 N.t0, .int .i64 N.t1, .int .i64 N.t2] 24); clear Ht
  have hs := Hs.out.alloc (.cells #[.int .i64 N.fr, .int .i64 N.to, .int .i64 N.kp, .int .i64 N.ad, .int .i64 N.t0, .int .i64 N.t1, .int .i64 N.t2] 24); clear Hs
  have hu := Hu.out.alloc (.cells #[.int .i64 N.fr, .int .i64 N.to, .int .i64 N.kp, .int .i64 N.ad, .int .i64 N.t0, .int .i64 N.t1, .int .i64 N.t2] 24); clear Hu
  have hv := Hv.out.alloc (.cells #[.int .i64 N.fr, .int .i64 N.to, .int .i64 N.kp, .int .i64 N.ad, .int .i64 N.t0, .int .i64 N.t1, .int .i64 N.t2] 24); clear Hv
  have hw2 := Hw2.out.alloc (.cells #[.int .i64 N.fr, .int .i64 N.to, .int .i64 N.kp, .int .i64 N.ad, .int .i64 N.t0, .int .i64 N.t1, .int .i64 N.t2] 24); clear Hw2
  have hn : HoldsM (v11.alloc (.cells #[.int .i64 N.fr, .int .i64 N.to, .int .i64 N.kp, .int .i64 N.ad, .int .i64 N.t0, .int .i64 N.t1, .int .i64 N.t2] 24)) v11.heap.size 24 N := Row.made v11 _ _
  have hbw := HBW.out.alloc HBW.out.size (.cells #[.int .i64 N.fr, .int .i64 N.to, .int .i64 N.kp, .int .i64 N.ad, .int .i64 N.t0, .int .i64 N.t1, .int .i64 N.t2] 24); clear HBW
  generalize v11.alloc (.cells #[.int .i64 N.fr, .int .i64 N.to, .int .i64 N.kp, .int .i64 N.ad, .int .i64 N.t0, .int .i64 N.t1, .int .i64 N.t2] 24) = v12 at *
  generalize v11.heap.size = gn at *
  have Ha := Lib.hid ha; clear ha
  have Hb := Lib.hid hb; clear hb
  have Ht := Lib.hid ht; clear ht
  have Hs := Lib.hid hs; clear hs
  have Hu := Lib.hid hu; clear hu
  have Hv := Lib.hid hv; clear hv
  have Hw2 := Lib.hid hw2; clear hw2
  have Hn := Lib.hid hn; clear hn
  have HBW := Lib.hid hbw; clear hbw
  refine (C9.out _).mono ?_; rintro e v13 ⟨rfl, hbel⟩
  dsimp only
  have ha := Ha.out.below hbel; clear Ha
  have hb := Hb.out.below hbel; clear Hb
  have ht := Ht.out.below hbel; clear Ht
  have hs := Hs.out.below hbel; clear Hs
  have hu := Hu.out.below hbel; clear Hu
  have hv := Hv.out.below hbel; clear Hv
  have hw2 := Hw2.out.below hbel; clear Hw2
  have hn := Hn.out.below hbel; clear Hn
  have hbw := HBW.out.trans (hbel.mono HBW.out.size); clear HBW hbel
  have Ha := Lib.hid ha; clear ha
  have Hb := Lib.hid hb; clear hb
  have Ht := Lib.hid ht; clear ht
  have Hs := Lib.hid hs; clear hs
  have Hu := Lib.hid hu; clear hu
  have Hv := Lib.hid hv; clear hv
  have Hw2 := Lib.hid hw2; clear hw2
  have Hn := Lib.hid hn; clear hn
  have HBW := Lib.hid hbw; clear hbw
  have la := Ha.out.lt
  have lb := Hb.out.lt
  have lt := Ht.out.lt
  have ls := Hs.out.lt
  have lu := Hu.out.lt
  have lv := Hv.out.lt
  have lw2 := Hw2.out.lt
  have ln := Hn.out.lt
  go_wp2_with fail
  clear la lb lt ls lu lv lw2 ln
  have ha := Ha.out.alloc (.cells #[.int .i64 X.d, .int .i64 X.e, .int .i64 X.x, .int .i64 X.y, .int .i64 X.z] 26); clear Ha
  have hb := Hb.out.alloc (.cells #[.int .i64 X.d, .int .i64 X.e, .int .i64 X.x, .int .i64 X.y, .int .i64 X.z] 26); clear Hb
  have ht := Ht.out.alloc (.cells #[.int .i64 X.d, .int .i64 X.e, .int .i64 X.x, .int .i64 X.y, .int .i64 X.z] 26); clear Ht
  have hs := Hs.out.alloc (.cells #[.int .i64 X.d, .int .i64 X.e, .int .i64 X.x, .int .i64 X.y, .int .i64 X.z] 26); clear Hs
  have hu := Hu.out.alloc (.cells #[.int .i64 X.d, .int .i64 X.e, .int .i64 X.x, .int .i64 X.y, .int .i64 X.z] 26); clear Hu
  have hv := Hv.out.alloc (.cells #[.int .i64 X.d, .int .i64 X.e, .int .i64 X.x, .int .i64 X.y, .int .i64 X.z] 26); clear Hv
  have hw2 := Hw2.out.alloc (.cells #[.int .i64 X.d, .int .i64 X.e, .int .i64 X.x, .int .i64 X.y, .int .i64 X.z] 26); clear Hw2
  have hn := Hn.out.alloc (.cells #[.int .i64 X.d, .int .i64 X.e, .int .i64 X.x, .int .i64 X.y, .int .i64 X.z] 26); clear Hn
  have hx : Holds (v13.alloc (.cells #[.int .i64 X.d, .int .i64 X.e, .int .i64 X.x, .int .i64 X.y, .int .i64 X.z] 26)) v13.heap.size X := Row.made v13 _ _
  have hbw := HBW.out.alloc HBW.out.size (.cells #[.int .i64 X.d, .int .i64 X.e, .int .i64 X.x, .int .i64 X.y, .int .i64 X.z] 26); clear HBW
  generalize v13.alloc (.cells #[.int .i64 X.d, .int .i64 X.e, .int .i64 X.x, .int .i64 X.y, .int .i64 X.z] 26) = v14 at *
  generalize v13.heap.size = gx at *
  have Ha := Lib.hid ha; clear ha
  have Hb := Lib.hid hb; clear hb
  have Ht := Lib.hid ht; clear ht
  have Hs := Lib.hid hs; clear hs
  have Hu := Lib.hid hu; clear hu
  have Hv := Lib.hid hv; clear hv
  have Hw2 := Lib.hid hw2; clear hw2
  have Hn := Lib.hid hn; clear hn
  have Hx := Lib.hid hx; clear hx
  have HBW := Lib.hid hbw; clear hbw
  cases R with
  | true =>
    obtain ⟨h1, h2, h3⟩ := HR.out rfl
    subst h1; subst h2
    have HX := Lib.hid h3; clear h3 HR
    refine wp_region_below (by kernel_rfl) (by kernel_rfl) ?_
    refine wpQuiet_step (fun K hK => ?_); refine q_load (p := .pointer (some ⟨(w.heap.size + 1 + 1), 0, none⟩)) 26 _ rfl rfl rfl (load_t Ht.out) ?_; go_simp; (with_reducible refine hK _ ?_); clear hK K
    refine wpQuiet_step (fun K hK => ?_); go_simp; (with_reducible refine ⟨_, fun _ hb => (C10.out _).mono fun _ _ h => ⟨h.1, hb.trans (h.2.mono (by simpa using hb.size))⟩, hK _ ?_⟩); clear hK K
    refine wpQuiet_step (fun K hK => ?_); go_simp; (first | (with_reducible refine hK _ ?_) | (with_reducible refine ⟨_, fun _ _ => rfl, hK _ ?_⟩)); clear hK K
    refine wpQuiet_step (fun K hK => ?_); go_simp; (first | (with_reducible refine hK _ ?_) | (with_reducible refine ⟨_, fun _ _ => rfl, hK _ ?_⟩)); clear hK K
    refine wpQuiet_step (fun K hK => ?_); go_simp; (first | (with_reducible refine hK _ ?_) | (with_reducible refine ⟨_, fun _ _ => rfl, hK _ ?_⟩)); clear hK K
    refine wpQuiet_step (fun K hK => ?_); go_simp; (first | (with_reducible refine hK _ ?_) | (with_reducible refine ⟨_, fun _ _ => rfl, hK _ ?_⟩)); clear hK K
    refine wpQuiet_step (fun K hK => ?_); go_simp; (first | (with_reducible refine hK _ ?_) | (with_reducible refine ⟨_, fun _ _ => rfl, hK _ ?_⟩)); clear hK K
    refine wpQuiet_step (fun K hK => ?_); go_simp; (first | (with_reducible refine hK _ ?_) | (with_reducible refine ⟨_, fun _ _ => rfl, hK _ ?_⟩)); clear hK K
    refine wpQuiet_step (fun K hK => ?_); go_simp; (first | (with_reducible refine hK _ ?_) | (with_reducible refine ⟨_, fun _ _ => rfl, hK _ ?_⟩)); clear hK K
    refine wpQuiet_step (fun K hK => ?_); refine q_load (p := .pointer (some ⟨gx, 0, none⟩)) 26 _ rfl rfl rfl (load_t Hx.out) ?_; go_simp; (with_reducible refine hK _ ?_); clear hK K
    refine wpQuiet_step (fun K hK => ?_); refine q_load (p := .pointer (some ⟨(w.heap.size + 1 + 1), 0, none⟩)) 26 _ rfl rfl rfl (load_t Ht.out) ?_; go_simp; (with_reducible refine hK _ ?_); clear hK K
    refine wpQuiet_step (fun K hK => ?_); refine q_bin _ _ _ _ _ rfl rfl rfl rfl (eqt_is _ _ HX.out) ?_; go_simp; (with_reducible refine hK _ ?_); clear hK K
    refine wpQuiet_step (fun K hK => ?_); go_simp; (first | (with_reducible refine hK _ ?_) | (with_reducible refine ⟨_, fun _ _ => rfl, hK _ ?_⟩)); clear hK K
    refine wpQuiet_step (fun K hK => ?_); go_simp; (first | (with_reducible refine hK _ ?_) | (with_reducible refine ⟨_, fun _ _ => rfl, hK _ ?_⟩)); clear hK K
    refine wpQuiet_step (fun K hK => ?_); go_simp; (first | (with_reducible refine hK _ ?_) | (with_reducible refine ⟨_, fun _ _ => rfl, hK _ ?_⟩)); clear hK K
    refine wpQuiet_step (fun K hK => ?_); refine q_load (p := .pointer (some ⟨w.heap.size, 0, none⟩)) 24 _ rfl rfl rfl (load_m Ha.out) ?_; go_simp; (with_reducible refine hK _ ?_); clear hK K
    refine wpQuiet_step (fun K hK => ?_); refine q_load (p := .pointer (some ⟨w.heap.size, 0, none⟩)) 24 _ rfl rfl rfl (load_m Ha.out) ?_; go_simp; (with_reducible refine hK _ ?_); clear hK K
    refine wpQuiet_step (fun K hK => ?_); go_simp; (with_reducible refine ⟨_, fun _ hb => (C11.out _).mono fun _ _ h => ⟨h.1, hb.trans (h.2.mono (by simpa using hb.size))⟩, hK _ ?_⟩); clear hK K
    refine wpQuiet_step (fun K hK => ?_); refine q_load (p := .pointer (some ⟨w.heap.size, 0, none⟩)) 24 _ rfl rfl rfl (load_m Ha.out) ?_; go_simp; (with_reducible refine hK _ ?_); clear hK K
    refine wpQuiet_step (fun K hK => ?_); go_simp; (with_reducible refine ⟨_, fun _ hb => (C12.out _).mono fun _ _ h => ⟨h.1, hb.trans (h.2.mono (by simpa using hb.size))⟩, hK _ ?_⟩); clear hK K
    refine wpQuiet_step (fun K hK => ?_); refine q_bin _ _ _ _ _ rfl rfl rfl rfl (eqb_self _ _ D) ?_; go_simp; (with_reducible refine hK _ ?_); clear hK K
    refine wpQuiet_step (fun K hK => ?_); go_simp; (first | (with_reducible refine hK _ ?_) | (with_reducible refine ⟨_, fun _ _ => rfl, hK _ ?_⟩)); clear hK K
    refine wpQuiet_step (fun K hK => ?_); go_simp; (first | (with_reducible refine hK _ ?_) | (with_reducible refine ⟨_, fun _ _ => rfl, hK _ ?_⟩)); clear hK K
    refine wpQuiet_step (fun K hK => ?_); go_simp; (with_reducible refine ⟨_, fun _ hb => (CW.out _).mono fun _ _ h => ⟨h.1, hb.trans (h.2.mono (by simpa using hb.size))⟩, hK _ ?_⟩); clear hK K
    refine wpQuiet_step (fun K hK => ?_); go_simp; (first | (with_reducible refine hK _ ?_) | (with_reducible refine ⟨_, fun _ _ => rfl, hK _ ?_⟩)); clear hK K
    refine wpQuiet_step (fun K hK => ?_); go_simp; (first | (with_reducible refine hK _ ?_) | (with_reducible refine ⟨_, fun _ _ => rfl, hK _ ?_⟩)); clear hK K
    refine wpQuiet_nil ?_
    intro vz hbel
    have hbw := HBW.out.trans (hbel.mono HBW.out.size); clear HBW hbel
    go_wp2_with fail
    go_ret
    exact ⟨rfl, hbw⟩
  | false =>
    clear HR
    refine wp_region_below (by kernel_rfl) (by kernel_rfl) ?_
    refine wpQuiet_step (fun K hK => ?_); refine q_load (p := .pointer (some ⟨(w.heap.size + 1 + 1), 0, none⟩)) 26 _ rfl rfl rfl (load_t Ht.out) ?_; go_simp; (with_reducible refine hK _ ?_); clear hK K
    refine wpQuiet_step (fun K hK => ?_); go_simp; (with_reducible refine ⟨_, fun _ hb => (C10.out _).mono fun _ _ h => ⟨h.1, hb.trans (h.2.mono (by simpa using hb.size))⟩, hK _ ?_⟩); clear hK K
    refine wpQuiet_step (fun K hK => ?_); go_simp; (first | (with_reducible refine hK _ ?_) | (with_reducible refine ⟨_, fun _ _ => rfl, hK _ ?_⟩)); clear hK K
    refine wpQuiet_step (fun K hK => ?_); go_simp; (try (with_reducible refine ⟨_, fun _ _ => rfl, ?_⟩)); generalize hA : ({ tmps := _, defers := _ } : Act) = A; (with_reducible refine hK A ?_); clear hK K
    refine wpQuiet_step (fun K hK => ?_); subst hA; go_simp; (try (with_reducible refine ⟨_, fun _ _ => rfl, ?_⟩)); generalize hA : ({ tmps := _, defers := _ } : Act) = A; (with_reducible refine hK A ?_); clear hK K
    refine wpQuiet_step (fun K hK => ?_); subst hA; go_simp; (try (with_reducible refine ⟨_, fun _ _ => rfl, ?_⟩)); generalize hA : ({ tmps := _, defers := _ } : Act) = A; (with_reducible refine hK A ?_); clear hK K
    refine wpQuiet_step (fun K hK => ?_); subst hA; go_simp; generalize hA : ({ tmps := _, defers := _ } : Act) = A; rw [if_neg (by simp [undef])]; (with_reducible refine hK A ?_); clear hK K
    refine wpQuiet_step (fun K hK => ?_); subst hA; go_simp; (try (with_reducible refine ⟨_, fun _ _ => rfl, ?_⟩)); generalize hA : ({ tmps := _, defers := _ } : Act) = A; (with_reducible refine hK A ?_); clear hK K
    refine wpQuiet_step (fun K hK => ?_); subst hA; go_simp; (try (with_reducible refine ⟨_, fun _ _ => rfl, ?_⟩)); generalize hA : ({ tmps := _, defers := _ } : Act) = A; (with_reducible refine hK A ?_); clear hK K
    refine wpQuiet_step (fun K hK => ?_); subst hA; go_simp; generalize hA : ({ tmps := _, defers := _ } : Act) = A; rw [if_neg (by simp [undef])]; (with_reducible refine hK A ?_); clear hK K
    refine wpQuiet_step (fun K hK => ?_); subst hA; go_simp; generalize hA : ({ tmps := _, defers := _ } : Act) = A; rw [if_neg (by simp [undef])]; (with_reducible refine hK A ?_); clear hK K
    refine wpQuiet_step (fun K hK => ?_); subst hA; go_simp; generalize hA : ({ tmps := _, defers := _ } : Act) = A; rw [if_neg (by simp [undef])]; (with_reducible refine hK A ?_); clear hK K
    refine wpQuiet_step (fun K hK => ?_); subst hA; go_simp; (try (with_reducible refine ⟨_, fun _ _ => rfl, ?_⟩)); generalize hA : ({ tmps := _, defers := _ } : Act) = A; (with_reducible refine hK A ?_); clear hK K
    refine wpQuiet_step (fun K hK => ?_); subst hA; go_simp; (first | (with_reducible refine hK _ ?_) | (with_reducible refine ⟨_, fun _ _ => rfl, hK _ ?_⟩)); clear hK K
    refine wpQuiet_step (fun K hK => ?_); go_simp; (first | (with_reducible refine hK _ ?_) | (with_reducible refine ⟨_, fun _ _ => rfl, hK _ ?_⟩)); clear hK K
    refine wpQuiet_step (fun K hK => ?_); refine q_load (p := .pointer (some ⟨w.heap.size, 0, none⟩)) 24 _ rfl rfl rfl (load_m Ha.out) ?_; go_simp; (with_reducible refine hK _ ?_); clear hK K
    refine wpQuiet_step (fun K hK => ?_); refine q_load (p := .pointer (some ⟨w.heap.size, 0, none⟩)) 24 _ rfl rfl rfl (load_m Ha.out) ?_; go_simp; (with_reducible refine hK _ ?_); clear hK K
    refine wpQuiet_step (fun K hK => ?_); go_simp; (with_reducible refine ⟨_, fun _ hb => (C11.out _).mono fun _ _ h => ⟨h.1, hb.trans (h.2.mono (by simpa using hb.size))⟩, hK _ ?_⟩); clear hK K
    refine wpQuiet_step (fun K hK => ?_); refine q_load (p := .pointer (some ⟨w.heap.size, 0, none⟩)) 24 _ rfl rfl rfl (load_m Ha.out) ?_; go_simp; (with_reducible refine hK _ ?_); clear hK K
    refine wpQuiet_step (fun K hK => ?_); go_simp; (with_reducible refine ⟨_, fun _ hb => (C12.out _).mono fun _ _ h => ⟨h.1, hb.trans (h.2.mono (by simpa using hb.size))⟩, hK _ ?_⟩); clear hK K
    refine wpQuiet_step (fun K hK => ?_); refine q_bin _ _ _ _ _ rfl rfl rfl rfl (eqb_self _ _ D) ?_; go_simp; (with_reducible refine hK _ ?_); clear hK K
    refine wpQuiet_step (fun K hK => ?_); go_simp; (first | (with_reducible refine hK _ ?_) | (with_reducible refine ⟨_, fun _ _ => rfl, hK _ ?_⟩)); clear hK K
    refine wpQuiet_step (fun K hK => ?_); go_simp; (first | (with_reducible refine hK _ ?_) | (with_reducible refine ⟨_, fun _ _ => rfl, hK _ ?_⟩)); clear hK K
    refine wpQuiet_step (fun K hK => ?_); go_simp; (with_reducible refine ⟨_, fun _ hb => (CW.out _).mono fun _ _ h => ⟨h.1, hb.trans (h.2.mono (by simpa using hb.size))⟩, hK _ ?_⟩); clear hK K
    refine wpQuiet_step (fun K hK => ?_); go_simp; (first | (with_reducible refine hK _ ?_) | (with_reducible refine ⟨_, fun _ _ => rfl, hK _ ?_⟩)); clear hK K
    refine wpQuiet_step (fun K hK => ?_); go_simp; (first | (with_reducible refine hK _ ?_) | (with_reducible refine ⟨_, fun _ _ => rfl, hK _ ?_⟩)); clear hK K
    refine wpQuiet_nil ?_
    intro vz hbel
    have hbw := HBW.out.trans (hbel.mono HBW.out.size); clear HBW hbel
    go_wp2_with fail
    go_ret
    exact ⟨rfl, hbw⟩
end summaryOrder
end Go.Proofs.Ytdpadkellpkppaa
