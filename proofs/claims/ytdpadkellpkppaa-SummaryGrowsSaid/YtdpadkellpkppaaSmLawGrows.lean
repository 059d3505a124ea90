/- SummaryGrows: of two summaries, one at or ahead of the other one, each with a third one behind, and ahead, is so, too; for all summaries. -/
import Derived.Test.YtdpadkellpkppaaSmThen
import Derived.Test.YtdpadkellpkppaaSmLeq
import Derived.Test.YtdpadkellpkppaaSmWorks
import Derived.Test.YtdpadkellpkppaaStFrame
import Derived.Test.YtdpadkellpkppaaLaw
namespace Go.Proofs.Ytdpadkellpkppaa
open Go.ChangeShapes Go.WideShapes Go.ChangeAt Go.RowKit Go.BigFrame
set_option linter.unusedVariables false
set_option maxRecDepth 100000
namespace summaryGrows
theorem left_th {a b c : Sm} (h : a.L b) (h2 : b.thB c = true) : a.thB c = true ∧ (a.th c).L (b.th c) := by
  have k : b.thenOk c := by simpa [Sm.thB] using h2
  obtain ⟨k1, k2⟩ := Sm.seq_left h k
  rw [(Sm.th_yes k).1, (Sm.th_yes k1).1, (Sm.th_yes k1).2]; exact ⟨rfl, k2⟩
theorem right_th {a b c : Sm} (h : a.L b) (h2 : c.thB b = true) : c.thB a = true ∧ (c.th a).L (c.th b) := by
  have k : c.thenOk b := by simpa [Sm.thB] using h2
  obtain ⟨k1, k2⟩ := Sm.seq_right h k
  rw [(Sm.th_yes k).1, (Sm.th_yes k1).1, (Sm.th_yes k1).2]; exact ⟨rfl, k2⟩
set_option maxHeartbeats 4000000 in
theorem w_no (a b c X Y P Q : Sm) (B1 B3 : Bool) (w : World)
    (cl : ∀ w, Calls Try.prog 21 #[.agg #[.int .i64 a.fr, .int .i64 a.to, .int .i64 a.kp, .int .i64 a.ad, .int .i64 a.t0, .int .i64 a.t1, .int .i64 a.t2], .agg #[.int .i64 b.fr, .int .i64 b.to, .int .i64 b.kp, .int .i64 b.ad, .int .i64 b.t0, .int .i64 b.t1, .int .i64 b.t2]] w fun e w' => e = .returned (.bool false) ∧ Below w.heap.size w w')
    : Calls Try.prog 8 #[.agg #[.int .i64 a.fr, .int .i64 a.to, .int .i64 a.kp, .int .i64 a.ad, .int .i64 a.t0, .int .i64 a.t1, .int .i64 a.t2], .agg #[.int .i64 b.fr, .int .i64 b.to, .int .i64 b.kp, .int .i64 b.ad, .int .i64 b.t0, .int .i64 b.t1, .int .i64 b.t2], .agg #[.int .i64 c.fr, .int .i64 c.to, .int .i64 c.kp, .int .i64 c.ad, .int .i64 c.t0, .int .i64 c.t1, .int .i64 c.t2]] w fun e w' => e = .returned (.bool true) ∧ Below w.heap.size w w' := by
  have cw := fun w => works_any w
  have CL := Lib.hid cl; have CW := Lib.hid cw; clear cl cw
  have ha : HoldsM (((w.alloc (.cells #[.int .i64 a.fr, .int .i64 a.to, .int .i64 a.kp, .int .i64 a.ad, .int .i64 a.t0, .int .i64 a.t1, .int .i64 a.t2] 24)).alloc (.cells #[.int .i64 b.fr, .int .i64 b.to, .int .i64 b.kp, .int .i64 b.ad, .int .i64 b.t0, .int .i64 b.t1, .int .i64 b.t2] 24)).alloc (.cells #[.int .i64 c.fr, .int .i64 c.to, .int .i64 c.kp, .int .i64 c.ad, .int .i64 c.t0, .int .i64 c.t1, .int .i64 c.t2] 24)) w.heap.size 24 a := by
    have hq := Row.alloc (Row.alloc (Row.made w 24 [.int .i64 a.fr, .int .i64 a.to, .int .i64 a.kp, .int .i64 a.ad, .int .i64 a.t0, .int .i64 a.t1, .int .i64 a.t2]) (.cells #[.int .i64 b.fr, .int .i64 b.to, .int .i64 b.kp, .int .i64 b.ad, .int .i64 b.t0, .int .i64 b.t1, .int .i64 b.t2] 24)) (.cells #[.int .i64 c.fr, .int .i64 c.to, .int .i64 c.kp, .int .i64 c.ad, .int .i64 c.t0, .int .i64 c.t1, .int .i64 c.t2] 24)
    exact hq
  have hb : HoldsM (((w.alloc (.cells #[.int .i64 a.fr, .int .i64 a.to, .int .i64 a.kp, .int .i64 a.ad, .int .i64 a.t0, .int .i64 a.t1, .int .i64 a.t2] 24)).alloc (.cells #[.int .i64 b.fr, .int .i64 b.to, .int .i64 b.kp, .int .i64 b.ad, .int .i64 b.t0, .int .i64 b.t1, .int .i64 b.t2] 24)).alloc (.cells #[.int .i64 c.fr, .int .i64 c.to, .int .i64 c.kp, .int .i64 c.ad, .int .i64 c.t0, .int .i64 c.t1, .int .i64 c.t2] 24)) (w.heap.size + 1) 24 b := by
    have hq := Row.alloc (Row.made (w.alloc (.cells #[.int .i64 a.fr, .int .i64 a.to, .int .i64 a.kp, .int .i64 a.ad, .int .i64 a.t0, .int .i64 a.t1, .int .i64 a.t2] 24)) 24 [.int .i64 b.fr, .int .i64 b.to, .int .i64 b.kp, .int .i64 b.ad, .int .i64 b.t0, .int .i64 b.t1, .int .i64 b.t2]) (.cells #[.int .i64 c.fr, .int .i64 c.to, .int .i64 c.kp, .int .i64 c.ad, .int .i64 c.t0, .int .i64 c.t1, .int .i64 c.t2] 24)
    rw [size_alloc] at hq
    exact hq
  have hc : HoldsM (((w.alloc (.cells #[.int .i64 a.fr, .int .i64 a.to, .int .i64 a.kp, .int .i64 a.ad, .int .i64 a.t0, .int .i64 a.t1, .int .i64 a.t2] 24)).alloc (.cells #[.int .i64 b.fr, .int .i64 b.to, .int .i64 b.kp, .int .i64 b.ad, .int .i64 b.t0, .int .i64 b.t1, .int .i64 b.t2] 24)).alloc (.cells #[.int .i64 c.fr, .int .i64 c.to, .int .i64 c.kp, .int .i64 c.ad, .int .i64 c.t0, .int .i64 c.t1, .int .i64 c.t2] 24)) (w.heap.size + 1 + 1) 24 c := by
    have hq := Row.made ((w.alloc (.cells #[.int .i64 a.fr, .int .i64 a.to, .int .i64 a.kp, .int .i64 a.ad, .int .i64 a.t0, .int .i64 a.t1, .int .i64 a.t2] 24)).alloc (.cells #[.int .i64 b.fr, .int .i64 b.to, .int .i64 b.kp, .int .i64 b.ad, .int .i64 b.t0, .int .i64 b.t1, .int .i64 b.t2] 24)) 24 [.int .i64 c.fr, .int .i64 c.to, .int .i64 c.kp, .int .i64 c.ad, .int .i64 c.t0, .int .i64 c.t1, .int .i64 c.t2]
    rw [size_alloc, size_alloc] at hq
    exact hq
  have hbw : Below w.heap.size w (((w.alloc (.cells #[.int .i64 a.fr, .int .i64 a.to, .int .i64 a.kp, .int .i64 a.ad, .int .i64 a.t0, .int .i64 a.t1, .int .i64 a.t2] 24)).alloc (.cells #[.int .i64 b.fr, .int .i64 b.to, .int .i64 b.kp, .int .i64 b.ad, .int .i64 b.t0, .int .i64 b.t1, .int .i64 b.t2] 24)).alloc (.cells #[.int .i64 c.fr, .int .i64 c.to, .int .i64 c.kp, .int .i64 c.ad, .int .i64 c.t0, .int .i64 c.t1, .int .i64 c.t2] 24)) := (((Below.refl _ _).alloc (by simp) _).alloc (by simp) _).alloc (by simp; omega) _
  have Ha := Lib.hid ha; clear ha
  have Hb := Lib.hid hb; clear hb
  have Hc := Lib.hid hc; clear hc
  have HBW := Lib.hid hbw; clear hbw
  go_enter Try.func8, Try.ntmps8
  go_wp2_with fail
  generalize ((w.alloc (.cells #[.int .i64 a.fr, .int .i64 a.to, .int .i64 a.kp, .int .i64 a.ad, .int .i64 a.t0, .int .i64 a.t1, .int .i64 a.t2] 24)).alloc (.cells #[.int .i64 b.fr, .int .i64 b.to, .int .i64 b.kp, .int .i64 b.ad, .int .i64 b.t0, .int .i64 b.t1, .int .i64 b.t2] 24)).alloc (.cells #[.int .i64 c.fr, .int .i64 c.to, .int .i64 c.kp, .int .i64 c.ad, .int .i64 c.t0, .int .i64 c.t1, .int .i64 c.t2] 24) = w0 at *
  have la := Ha.out.lt
  have lb := Hb.out.lt
  have lc := Hc.out.lt
  obtain ⟨ca0, ca1, ca2, ca3, ca4, ca5, ca6⟩ := Ha.out.cells7
  obtain ⟨cb0, cb1, cb2, cb3, cb4, cb5, cb6⟩ := Hb.out.cells7
  go_wp2_with fail
  clear la lb lc ca0 ca1 ca2 ca3 ca4 ca5 ca6 cb0 cb1 cb2 cb3 cb4 cb5 cb6
  refine (CL.out _).mono ?_; rintro e v1 ⟨rfl, hbel⟩
  dsimp only
  have ha := Ha.out.below hbel; clear Ha
  have hb := Hb.out.below hbel; clear Hb
  have hc := Hc.out.below hbel; clear Hc
  have hbw := HBW.out.trans (hbel.mono HBW.out.size); clear HBW hbel
  have Ha := Lib.hid ha; clear ha
  have Hb := Lib.hid hb; clear hb
  have Hc := Lib.hid hc; clear hc
  have HBW := Lib.hid hbw; clear hbw
  have la := Ha.out.lt
  have lb := Hb.out.lt
  have lc := Hc.out.lt
  go_wp2_with fail
  clear la lb lc
  refine (CW.out _).mono ?_; rintro e v2 ⟨rfl, hbel⟩
  dsimp only
  have ha := Ha.out.below hbel; clear Ha
  have hb := Hb.out.below hbel; clear Hb
  have hc := Hc.out.below hbel; clear Hc
  have hbw := HBW.out.trans (hbel.mono HBW.out.size); clear HBW hbel
  have Ha := Lib.hid ha; clear ha
  have Hb := Lib.hid hb; clear hb
  have Hc := Lib.hid hc; clear hc
  have HBW := Lib.hid hbw; clear hbw
  have la := Ha.out.lt
  have lb := Hb.out.lt
  have lc := Hc.out.lt
  go_wp2_with fail
  clear la lb lc
  go_ret
  exact ⟨rfl, HBW.out⟩
set_option maxHeartbeats 4000000 in
theorem w_00 (a b c X Y P Q : Sm) (B1 B3 : Bool) (w : World)
    (cl : ∀ w, Calls Try.prog 21 #[.agg #[.int .i64 a.fr, .int .i64 a.to, .int .i64 a.kp, .int .i64 a.ad, .int .i64 a.t0, .int .i64 a.t1, .int .i64 a.t2], .agg #[.int .i64 b.fr, .int .i64 b.to, .int .i64 b.kp, .int .i64 b.ad, .int .i64 b.t0, .int .i64 b.t1, .int .i64 b.t2]] w fun e w' => e = .returned (.bool true) ∧ Below w.heap.size w w')
    (c1 : ∀ w, Calls Try.prog 19 #[.agg #[.int .i64 a.fr, .int .i64 a.to, .int .i64 a.kp, .int .i64 a.ad, .int .i64 a.t0, .int .i64 a.t1, .int .i64 a.t2], .agg #[.int .i64 c.fr, .int .i64 c.to, .int .i64 c.kp, .int .i64 c.ad, .int .i64 c.t0, .int .i64 c.t1, .int .i64 c.t2]] w fun e w' => e = .returned (.tuple #[.agg #[.int .i64 X.fr, .int .i64 X.to, .int .i64 X.kp, .int .i64 X.ad, .int .i64 X.t0, .int .i64 X.t1, .int .i64 X.t2], .bool B1]) ∧ Below w.heap.size w w')
    (c2 : ∀ w, Calls Try.prog 19 #[.agg #[.int .i64 b.fr, .int .i64 b.to, .int .i64 b.kp, .int .i64 b.ad, .int .i64 b.t0, .int .i64 b.t1, .int .i64 b.t2], .agg #[.int .i64 c.fr, .int .i64 c.to, .int .i64 c.kp, .int .i64 c.ad, .int .i64 c.t0, .int .i64 c.t1, .int .i64 c.t2]] w fun e w' => e = .returned (.tuple #[.agg #[.int .i64 Y.fr, .int .i64 Y.to, .int .i64 Y.kp, .int .i64 Y.ad, .int .i64 Y.t0, .int .i64 Y.t1, .int .i64 Y.t2], .bool false]) ∧ Below w.heap.size w w')
    (c3 : ∀ w, Calls Try.prog 19 #[.agg #[.int .i64 c.fr, .int .i64 c.to, .int .i64 c.kp, .int .i64 c.ad, .int .i64 c.t0, .int .i64 c.t1, .int .i64 c.t2], .agg #[.int .i64 a.fr, .int .i64 a.to, .int .i64 a.kp, .int .i64 a.ad, .int .i64 a.t0, .int .i64 a.t1, .int .i64 a.t2]] w fun e w' => e = .returned (.tuple #[.agg #[.int .i64 P.fr, .int .i64 P.to, .int .i64 P.kp, .int .i64 P.ad, .int .i64 P.t0, .int .i64 P.t1, .int .i64 P.t2], .bool B3]) ∧ Below w.heap.size w w')
    (c4 : ∀ w, Calls Try.prog 19 #[.agg #[.int .i64 c.fr, .int .i64 c.to, .int .i64 c.kp, .int .i64 c.ad, .int .i64 c.t0, .int .i64 c.t1, .int .i64 c.t2], .agg #[.int .i64 b.fr, .int .i64 b.to, .int .i64 b.kp, .int .i64 b.ad, .int .i64 b.t0, .int .i64 b.t1, .int .i64 b.t2]] w fun e w' => e = .returned (.tuple #[.agg #[.int .i64 Q.fr, .int .i64 Q.to, .int .i64 Q.kp, .int .i64 Q.ad, .int .i64 Q.t0, .int .i64 Q.t1, .int .i64 Q.t2], .bool false]) ∧ Below w.heap.size w w')
    : Calls Try.prog 8 #[.agg #[.int .i64 a.fr, .int .i64 a.to, .int .i64 a.kp, .int .i64 a.ad, .int .i64 a.t0, .int .i64 a.t1, .int .i64 a.t2], .agg #[.int .i64 b.fr, .int .i64 b.to, .int .i64 b.kp, .int .i64 b.ad, .int .i64 b.t0, .int .i64 b.t1, .int .i64 b.t2], .agg #[.int .i64 c.fr, .int .i64 c.to, .int .i64 c.kp, .int .i64 c.ad, .int .i64 c.t0, .int .i64 c.t1, .int .i64 c.t2]] w fun e w' => e = .returned (.bool true) ∧ Below w.heap.size w w' := by
  have cw := fun w => works_any w
  have CL := Lib.hid cl; have C1 := Lib.hid c1; have C2 := Lib.hid c2; have C3 := Lib.hid c3; have C4 := Lib.hid c4; have CW := Lib.hid cw; clear cl c1 c2 c3 c4 cw
  have ha : HoldsM (((w.alloc (.cells #[.int .i64 a.fr, .int .i64 a.to, .int .i64 a.kp, .int .i64 a.ad, .int .i64 a.t0, .int .i64 a.t1, .int .i64 a.t2] 24)).alloc (.cells #[.int .i64 b.fr, .int .i64 b.to, .int .i64 b.kp, .int .i64 b.ad, .int .i64 b.t0, .int .i64 b.t1, .int .i64 b.t2] 24)).alloc (.cells #[.int .i64 c.fr, .int .i64 c.to, .int .i64 c.kp, .int .i64 c.ad, .int .i64 c.t0, .int .i64 c.t1, .int .i64 c.t2] 24)) w.heap.size 24 a := by
    have hq := Row.alloc (Row.alloc (Row.made w 24 [.int .i64 a.fr, .int .i64 a.to, .int .i64 a.kp, .int .i64 a.ad, .int .i64 a.t0, .int .i64 a.t1, .int .i64 a.t2]) (.cells #[.int .i64 b.fr, .int .i64 b.to, .int .i64 b.kp, .int .i64 b.ad, .int .i64 b.t0, .int .i64 b.t1, .int .i64 b.t2] 24)) (.cells #[.int .i64 c.fr, .int .i64 c.to, .int .i64 c.kp, .int .i64 c.ad, .int .i64 c.t0, .int .i64 c.t1, .int .i64 c.t2] 24)
    exact hq
  have hb : HoldsM (((w.alloc (.cells #[.int .i64 a.fr, .int .i64 a.to, .int .i64 a.kp, .int .i64 a.ad, .int .i64 a.t0, .int .i64 a.t1, .int .i64 a.t2] 24)).alloc (.cells #[.int .i64 b.fr, .int .i64 b.to, .int .i64 b.kp, .int .i64 b.ad, .int .i64 b.t0, .int .i64 b.t1, .int .i64 b.t2] 24)).alloc (.cells #[.int .i64 c.fr, .int .i64 c.to, .int .i64 c.kp, .int .i64 c.ad, .int .i64 c.t0, .int .i64 c.t1, .int .i64 c.t2] 24)) (w.heap.size + 1) 24 b := by
    have hq := Row.alloc (Row.made (w.alloc (.cells #[.int .i64 a.fr, .int .i64 a.to, .int .i64 a.kp, .int .i64 a.ad, .int .i64 a.t0, .int .i64 a.t1, .int .i64 a.t2] 24)) 24 [.int .i64 b.fr, .int .i64 b.to, .int .i64 b.kp, .int .i64 b.ad, .int .i64 b.t0, .int .i64 b.t1, .int .i64 b.t2]) (.cells #[.int .i64 c.fr, .int .i64 c.to, .int .i64 c.kp, .int .i64 c.ad, .int .i64 c.t0, .int .i64 c.t1, .int .i64 c.t2] 24)
    rw [size_alloc] at hq
    exact hq
  have hc : HoldsM (((w.alloc (.cells #[.int .i64 a.fr, .int .i64 a.to, .int .i64 a.kp, .int .i64 a.ad, .int .i64 a.t0, .int .i64 a.t1, .int .i64 a.t2] 24)).alloc (.cells #[.int .i64 b.fr, .int .i64 b.to, .int .i64 b.kp, .int .i64 b.ad, .int .i64 b.t0, .int .i64 b.t1, .int .i64 b.t2] 24)).alloc (.cells #[.int .i64 c.fr, .int .i64 c.to, .int .i64 c.kp, .int .i64 c.ad, .int .i64 c.t0, .int .i64 c.t1, .int .i64 c.t2] 24)) (w.heap.size + 1 + 1) 24 c := by
    have hq := Row.made ((w.alloc (.cells #[.int .i64 a.fr, .int .i64 a.to, .int .i64 a.kp, .int .i64 a.ad, .int .i64 a.t0, .int .i64 a.t1, .int .i64 a.t2] 24)).alloc (.cells #[.int .i64 b.fr, .int .i64 b.to, .int .i64 b.kp, .int .i64 b.ad, .int .i64 b.t0, .int .i64 b.t1, .int .i64 b.t2] 24)) 24 [.int .i64 c.fr, .int .i64 c.to, .int .i64 c.kp, .int .i64 c.ad, .int .i64 c.t0, .int .i64 c.t1, .int .i64 c.t2]
    rw [size_alloc, size_alloc] at hq
    exact hq
  have hbw : Below w.heap.size w (((w.alloc (.cells #[.int .i64 a.fr, .int .i64 a.to, .int .i64 a.kp, .int .i64 a.ad, .int .i64 a.t0, .int .i64 a.t1, .int .i64 a.t2] 24)).alloc (.cells #[.int .i64 b.fr, .int .i64 b.to, .int .i64 b.kp, .int .i64 b.ad, .int .i64 b.t0, .int .i64 b.t1, .int .i64 b.t2] 24)).alloc (.cells #[.int .i64 c.fr, .int .i64 c.to, .int .i64 c.kp, .int .i64 c.ad, .int .i64 c.t0, .int .i64 c.t1, .int .i64 c.t2] 24)) := (((Below.refl _ _).alloc (by simp) _).alloc (by simp) _).alloc (by simp; omega) _
  have Ha := Lib.hid ha; clear ha
  have Hb := Lib.hid hb; clear hb
  have Hc := Lib.hid hc; clear hc
  have HBW := Lib.hid hbw; clear hbw
  go_enter Try.func8, Try.ntmps8
  go_wp2_with fail
  generalize ((w.alloc (.cells #[.int .i64 a.fr, .int .i64 a.to, .int .i64 a.kp, .int .i64 a.ad, .int .i64 a.t0, .int .i64 a.t1, .int .i64 a.t2] 24)).alloc (.cells #[.int .i64 b.fr, .int .i64 b.to, .int .i64 b.kp, .int .i64 b.ad, .int .i64 b.t0, .int .i64 b.t1, .int .i64 b.t2] 24)).alloc (.cells #[.int .i64 c.fr, .int .i64 c.to, .int .i64 c.kp, .int .i64 c.ad, .int .i64 c.t0, .int .i64 c.t1, .int .i64 c.t2] 24) = w0 at *
  have la := Ha.out.lt
  have lb := Hb.out.lt
  have lc := Hc.out.lt
  obtain ⟨ca0, ca1, ca2, ca3, ca4, ca5, ca6⟩ := Ha.out.cells7
  obtain ⟨cb0, cb1, cb2, cb3, cb4, cb5, cb6⟩ := Hb.out.cells7
  go_wp2_with fail
  clear la lb lc ca0 ca1 ca2 ca3 ca4 ca5 ca6 cb0 cb1 cb2 cb3 cb4 cb5 cb6
  refine (CL.out _).mono ?_; rintro e v1 ⟨rfl, hbel⟩
  dsimp only
  have ha := Ha.out.below hbel; clear Ha
  have hb := Hb.out.below hbel; clear Hb
  have hc := Hc.out.below hbel; clear Hc
  have hbw := HBW.out.trans (hbel.mono HBW.out.size); clear HBW hbel
  have Ha := Lib.hid ha; clear ha
  have Hb := Lib.hid hb; clear hb
  have Hc := Lib.hid hc; clear hc
  have HBW := Lib.hid hbw; clear hbw
  have la := Ha.out.lt
  have lb := Hb.out.lt
  have lc := Hc.out.lt
  obtain ⟨ca0, ca1, ca2, ca3, ca4, ca5, ca6⟩ := Ha.out.cells7
  obtain ⟨cc0, cc1, cc2, cc3, cc4, cc5, cc6⟩ := Hc.out.cells7
  go_wp2_with fail
  clear la lb lc ca0 ca1 ca2 ca3 ca4 ca5 ca6 cc0 cc1 cc2 cc3 cc4 cc5 cc6
  refine (C1.out _).mono ?_; rintro e v2 ⟨rfl, hbel⟩
  dsimp only
  have ha := Ha.out.below hbel; clear Ha
  have hb := Hb.out.below hbel; clear Hb
  have hc := Hc.out.below hbel; clear Hc
  have hbw := HBW.out.trans (hbel.mono HBW.out.size); clear HBW hbel
  have Ha := Lib.hid ha; clear ha
  have Hb := Lib.hid hb; clear hb
  have Hc := Lib.hid hc; clear hc
  have HBW := Lib.hid hbw; clear hbw
  have la := Ha.out.lt
  have lb := Hb.out.lt
  have lc := Hc.out.lt
  obtain ⟨cb0, cb1, cb2, cb3, cb4, cb5, cb6⟩ := Hb.out.cells7
  obtain ⟨cc0, cc1, cc2, cc3, cc4, cc5, cc6⟩ := Hc.out.cells7
  go_wp2_with fail
  clear la lb lc cb0 cb1 cb2 cb3 cb4 cb5 cb6 cc0 cc1 cc2 cc3 cc4 cc5 cc6
  have ha := Ha.out.alloc (.cells #[.int .i64 X.fr, .int .i64 X.to, .int .i64 X.kp, .int .i64 X.ad, .int .i64 X.t0, .int .i64 X.t1, .int .i64 X.t2] 24); clear Ha
  have hb := Hb.out.alloc (.cells #[.int .i64 X.fr, .int .i64 X.to, .int .i64 X.kp, .int .i64 X.ad, .int .i64 X.t0, .int .i64 X.t1, .int .i64 X.t2] 24); clear Hb
  have hc := Hc.out.alloc (.cells #[.int .i64 X.fr, .int .i64 X.to, .int .i64 X.kp, .int .i64 X.ad, .int .i64 X.t0, .int .i64 X.t1, .int .i64 X.t2] 24); clear Hc
  have hx : HoldsM (v2.alloc (.cells #[.int .i64 X.fr, .int .i64 X.to, .int .i64 X.kp, .int .i64 X.ad, .int .i64 X.t0, .int .i64 X.t1, .int .i64 X.t2] 24)) v2.heap.size 24 X := Row.made v2 _ _
  have hbw := HBW.out.alloc HBW.out.size (.cells #[.int .i64 X.fr, .int .i64 X.to, .int .i64 X.kp, .int .i64 X.ad, .int .i64 X.t0, .int .i64 X.t1, .int .i64 X.t2] 24); clear HBW
  generalize v2.alloc (.cells #[.int .i64 X.fr, .int .i64 X.to, .int .i64 X.kp, .int .i64 X.ad, .int .i64 X.t0, .int .i64 X.t1, .int .i64 X.t2] 24) = v3 at *
  generalize v2.heap.size = gx at *
  have Ha := Lib.hid ha; clear ha
  have Hb := Lib.hid hb; clear hb
  have Hc := Lib.hid hc; clear hc
  have Hx := Lib.hid hx; clear hx
  have HBW := Lib.hid hbw; clear hbw
  refine (C2.out _).mono ?_; rintro e v4 ⟨rfl, hbel⟩
  dsimp only
  have ha := Ha.out.below hbel; clear Ha
  have hb := Hb.out.below hbel; clear Hb
  have hc := Hc.out.below hbel; clear Hc
  have hx := Hx.out.below hbel; clear Hx
  have hbw := HBW.out.trans (hbel.mono HBW.out.size); clear HBW hbel
  have Ha := Lib.hid ha; clear ha
  have Hb := Lib.hid hb; clear hb
  have Hc := Lib.hid hc; clear hc
  have Hx := Lib.hid hx; clear hx
  have HBW := Lib.hid hbw; clear hbw
  have la := Ha.out.lt
  have lb := Hb.out.lt
  have lc := Hc.out.lt
  have lx := Hx.out.lt
  obtain ⟨ca0, ca1, ca2, ca3, ca4, ca5, ca6⟩ := Ha.out.cells7
  obtain ⟨cc0, cc1, cc2, cc3, cc4, cc5, cc6⟩ := Hc.out.cells7
  go_wp2_with fail
  clear la lb lc lx ca0 ca1 ca2 ca3 ca4 ca5 ca6 cc0 cc1 cc2 cc3 cc4 cc5 cc6
  have ha := Ha.out.alloc (.cells #[.int .i64 Y.fr, .int .i64 Y.to, .int .i64 Y.kp, .int .i64 Y.ad, .int .i64 Y.t0, .int .i64 Y.t1, .int .i64 Y.t2] 24); clear Ha
  have hb := Hb.out.alloc (.cells #[.int .i64 Y.fr, .int .i64 Y.to, .int .i64 Y.kp, .int .i64 Y.ad, .int .i64 Y.t0, .int .i64 Y.t1, .int .i64 Y.t2] 24); clear Hb
  have hc := Hc.out.alloc (.cells #[.int .i64 Y.fr, .int .i64 Y.to, .int .i64 Y.kp, .int .i64 Y.ad, .int .i64 Y.t0, .int .i64 Y.t1, .int .i64 Y.t2] 24); clear Hc
  have hx := Hx.out.alloc (.cells #[.int .i64 Y.fr, .int .i64 Y.to, .int .i64 Y.kp, .int .i64 Y.ad, .int .i64 Y.t0, .int .i64 Y.t1, .int .i64 Y.t2] 24); clear Hx
  have hy : HoldsM (v4.alloc (.cells #[.int .i64 Y.fr, .int .i64 Y.to, .int .i64 Y.kp, .int .i64 Y.ad, .int .i64 Y.t0, .int .i64 Y.t1, .int .i64 Y.t2] 24)) v4.heap.size 24 Y := Row.made v4 _ _
  have hbw := HBW.out.alloc HBW.out.size (.cells #[.int .i64 Y.fr, .int .i64 Y.to, .int .i64 Y.kp, .int .i64 Y.ad, .int .i64 Y.t0, .int .i64 Y.t1, .int .i64 Y.t2] 24); clear HBW
  generalize v4.alloc (.cells #[.int .i64 Y.fr, .int .i64 Y.to, .int .i64 Y.kp, .int .i64 Y.ad, .int .i64 Y.t0, .int .i64 Y.t1, .int .i64 Y.t2] 24) = v5 at *
  generalize v4.heap.size = gy at *
  have Ha := Lib.hid ha; clear ha
  have Hb := Lib.hid hb; clear hb
  have Hc := Lib.hid hc; clear hc
  have Hx := Lib.hid hx; clear hx
  have Hy := Lib.hid hy; clear hy
  have HBW := Lib.hid hbw; clear hbw
  refine (C3.out _).mono ?_; rintro e v6 ⟨rfl, hbel⟩
  dsimp only
  have ha := Ha.out.below hbel; clear Ha
  have hb := Hb.out.below hbel; clear Hb
  have hc := Hc.out.below hbel; clear Hc
  have hx := Hx.out.below hbel; clear Hx
  have hy := Hy.out.below hbel; clear Hy
  have hbw := HBW.out.trans (hbel.mono HBW.out.size); clear HBW hbel
  have Ha := Lib.hid ha; clear ha
  have Hb := Lib.hid hb; clear hb
  have Hc := Lib.hid hc; clear hc
  have Hx := Lib.hid hx; clear hx
  have Hy := Lib.hid hy; clear hy
  have HBW := Lib.hid hbw; clear hbw
  have la := Ha.out.lt
  have lb := Hb.out.lt
  have lc := Hc.out.lt
  have lx := Hx.out.lt
  have ly := Hy.out.lt
  obtain ⟨cb0, cb1, cb2, cb3, cb4, cb5, cb6⟩ := Hb.out.cells7
  obtain ⟨cc0, cc1, cc2, cc3, cc4, cc5, cc6⟩ := Hc.out.cells7
  go_wp2_with fail
  clear la lb lc lx ly cb0 cb1 cb2 cb3 cb4 cb5 cb6 cc0 cc1 cc2 cc3 cc4 cc5 cc6
  have ha := Ha.out.alloc (.cells #[.int .i64 P.fr, .int .i64 P.to, .int .i64 P.kp, .int .i64 P.ad, .int .i64 P.t0, .int .i64 P.t1, .int .i64 P.t2] 24); clear Ha
  have hb := Hb.out.alloc (.cells #[.int .i64 P.fr, .int .i64 P.to, .int .i64 P.kp, .int .i64 P.ad, .int .i64 P.t0, .int .i64 P.t1, .int .i64 P.t2] 24); clear Hb
  have hc := Hc.out.alloc (.cells #[.int .i64 P.fr, .int .i64 P.to, .int .i64 P.kp, .int .i64 P.ad, .int .i64 P.t0, .int .i64 P.t1, .int .i64 P.t2] 24); clear Hc
  have hx := Hx.out.alloc (.cells #[.int .i64 P.fr, .int .i64 P.to, .int .i64 P.kp, .int .i64 P.ad, .int .i64 P.t0, .int .i64 P.t1, .int .i64 P.t2] 24); clear Hx
  have hy := Hy.out.alloc (.cells #[.int .i64 P.fr, .int .i64 P.to, .int .i64 P.kp, .int .i64 P.ad, .int .i64 P.t0, .int .i64 P.t1, .int .i64 P.t2] 24); clear Hy
  have hp : HoldsM (v6.alloc (.cells #[.int .i64 P.fr, .int .i64 P.to, .int .i64 P.kp, .int .i64 P.ad, .int .i64 P.t0, .int .i64 P.t1, .int .i64 P.t2] 24)) v6.heap.size 24 P := Row.made v6 _ _
  have hbw := HBW.out.alloc HBW.out.size (.cells #[.int .i64 P.fr, .int .i64 P.to, .int .i64 P.kp, .int .i64 P.ad, .int .i64 P.t0, .int .i64 P.t1, .int .i64 P.t2] 24); clear HBW
  generalize v6.alloc (.cells #[.int .i64 P.fr, .int .i64 P.to, .int .i64 P.kp, .int .i64 P.ad, .int .i64 P.t0, .int .i64 P.t1, .int .i64 P.t2] 24) = v7 at *
  generalize v6.heap.size = gp at *
  have Ha := Lib.hid ha; clear ha
  have Hb := Lib.hid hb; clear hb
  have Hc := Lib.hid hc; clear hc
  have Hx := Lib.hid hx; clear hx
  have Hy := Lib.hid hy; clear hy
  have Hp := Lib.hid hp; clear hp
  have HBW := Lib.hid hbw; clear hbw
  refine (C4.out _).mono ?_; rintro e v8 ⟨rfl, hbel⟩
  dsimp only
  have ha := Ha.out.below hbel; clear Ha
  have hb := Hb.out.below hbel; clear Hb
  have hc := Hc.out.below hbel; clear Hc
  have hx := Hx.out.below hbel; clear Hx
  have hy := Hy.out.below hbel; clear Hy
  have hp := Hp.out.below hbel; clear Hp
  have hbw := HBW.out.trans (hbel.mono HBW.out.size); clear HBW hbel
  have Ha := Lib.hid ha; clear ha
  have Hb := Lib.hid hb; clear hb
  have Hc := Lib.hid hc; clear hc
  have Hx := Lib.hid hx; clear hx
  have Hy := Lib.hid hy; clear hy
  have Hp := Lib.hid hp; clear hp
  have HBW := Lib.hid hbw; clear hbw
  have la := Ha.out.lt
  have lb := Hb.out.lt
  have lc := Hc.out.lt
  have lx := Hx.out.lt
  have ly := Hy.out.lt
  have lp := Hp.out.lt
  go_wp2_with fail
  clear la lb lc lx ly lp
  have ha := Ha.out.alloc (.cells #[.int .i64 Q.fr, .int .i64 Q.to, .int .i64 Q.kp, .int .i64 Q.ad, .int .i64 Q.t0, .int .i64 Q.t1, .int .i64 Q.t2] 24); clear Ha
  have hb := Hb.out.alloc (.cells #[.int .i64 Q.fr, .int .i64 Q.to, .int .i64 Q.kp, .int .i64 Q.ad, .int .i64 Q.t0, .int .i64 Q.t1, .int .i64 Q.t2] 24); clear Hb
  have hc := Hc.out.alloc (.cells #[.int .i64 Q.fr, .int .i64 Q.to, .int .i64 Q.kp, .int .i64 Q.ad, .int .i64 Q.t0, .int .i64 Q.t1, .int .i64 Q.t2] 24); clear Hc
  have hx := Hx.out.alloc (.cells #[.int .i64 Q.fr, .int .i64 Q.to, .int .i64 Q.kp, .int .i64 Q.ad, .int .i64 Q.t0, .int .i64 Q.t1, .int .i64 Q.t2] 24); clear Hx
  have hy := Hy.out.alloc (.cells #[.int .i64 Q.fr, .int .i64 Q.to, .int .i64 Q.kp, .int .i64 Q.ad, .int .i64 Q.t0, .int .i64 Q.t1, .int .i64 Q.t2] 24); clear Hy
  have hp := Hp.out.alloc (.cells #[.int .i64 Q.fr, .int .i64 Q.to, .int .i64 Q.kp, .int .i64 Q.ad, .int .i64 Q.t0, .int .i64 Q.t1, .int .i64 Q.t2] 24); clear Hp
  have hq : HoldsM (v8.alloc (.cells #[.int .i64 Q.fr, .int .i64 Q.to, .int .i64 Q.kp, .int .i64 Q.ad, .int .i64 Q.t0, .int .i64 Q.t1, .int .i64 Q.t2] 24)) v8.heap.size 24 Q := Row.made v8 _ _
  have hbw := HBW.out.alloc HBW.out.size (.cells #[.int .i64 Q.fr, .int .i64 Q.to, .int .i64 Q.kp, .int .i64 Q.ad, .int .i64 Q.t0, .int .i64 Q.t1, .int .i64 Q.t2] 24); clear HBW
  generalize v8.alloc (.cells #[.int .i64 Q.fr, .int .i64 Q.to, .int .i64 Q.kp, .int .i64 Q.ad, .int .i64 Q.t0, .int .i64 Q.t1, .int .i64 Q.t2] 24) = v9 at *
  generalize v8.heap.size = gq at *
  have Ha := Lib.hid ha; clear ha
  have Hb := Lib.hid hb; clear hb
  have Hc := Lib.hid hc; clear hc
  have Hx := Lib.hid hx; clear hx
  have Hy := Lib.hid hy; clear hy
  have Hp := Lib.hid hp; clear hp
  have Hq := Lib.hid hq; clear hq
  have HBW := Lib.hid hbw; clear hbw
  refine (CW.out _).mono ?_; rintro e v10 ⟨rfl, hbel⟩
  dsimp only
  have ha := Ha.out.below hbel; clear Ha
  have hb := Hb.out.below hbel; clear Hb
  have hc := Hc.out.below hbel; clear Hc
  have hx := Hx.out.below hbel; clear Hx
  have hy := Hy.out.below hbel; clear Hy
  have hp := Hp.out.below hbel; clear Hp
  have hq := Hq.out.below hbel; clear Hq
  have hbw := HBW.out.trans (hbel.mono HBW.out.size); clear HBW hbel
  have Ha := Lib.hid ha; clear ha
  have Hb := Lib.hid hb; clear hb
  have Hc := Lib.hid hc; clear hc
  have Hx := Lib.hid hx; clear hx
  have Hy := Lib.hid hy; clear hy
  have Hp := Lib.hid hp; clear hp
  have Hq := Lib.hid hq; clear hq
  have HBW := Lib.hid hbw; clear hbw
  have la := Ha.out.lt
  have lb := Hb.out.lt
  have lc := Hc.out.lt
  have lx := Hx.out.lt
  have ly := Hy.out.lt
  have lp := Hp.out.lt
  have lq := Hq.out.lt
  go_wp2_with fail
  clear la lb lc lx ly lp lq
  go_ret
  exact ⟨rfl, HBW.out⟩
set_option maxHeartbeats 4000000 in
theorem w_01 (a b c X Y P Q : Sm) (B1 B3 : Bool) (w : World)
    (cl : ∀ w, Calls Try.prog 21 #[.agg #[.int .i64 a.fr, .int .i64 a.to, .int .i64 a.kp, .int .i64 a.ad, .int .i64 a.t0, .int .i64 a.t1, .int .i64 a.t2], .agg #[.int .i64 b.fr, .int .i64 b.to, .int .i64 b.kp, .int .i64 b.ad, .int .i64 b.t0, .int .i64 b.t1, .int .i64 b.t2]] w fun e w' => e = .returned (.bool true) ∧ Below w.heap.size w w')
    (c1 : ∀ w, Calls Try.prog 19 #[.agg #[.int .i64 a.fr, .int .i64 a.to, .int .i64 a.kp, .int .i64 a.ad, .int .i64 a.t0, .int .i64 a.t1, .int .i64 a.t2], .agg #[.int .i64 c.fr, .int .i64 c.to, .int .i64 c.kp, .int .i64 c.ad, .int .i64 c.t0, .int .i64 c.t1, .int .i64 c.t2]] w fun e w' => e = .returned (.tuple #[.agg #[.int .i64 X.fr, .int .i64 X.to, .int .i64 X.kp, .int .i64 X.ad, .int .i64 X.t0, .int .i64 X.t1, .int .i64 X.t2], .bool B1]) ∧ Below w.heap.size w w')
    (c2 : ∀ w, Calls Try.prog 19 #[.agg #[.int .i64 b.fr, .int .i64 b.to, .int .i64 b.kp, .int .i64 b.ad, .int .i64 b.t0, .int .i64 b.t1, .int .i64 b.t2], .agg #[.int .i64 c.fr, .int .i64 c.to, .int .i64 c.kp, .int .i64 c.ad, .int .i64 c.t0, .int .i64 c.t1, .int .i64 c.t2]] w fun e w' => e = .returned (.tuple #[.agg #[.int .i64 Y.fr, .int .i64 Y.to, .int .i64 Y.kp, .int .i64 Y.ad, .int .i64 Y.t0, .int .i64 Y.t1, .int .i64 Y.t2], .bool false]) ∧ Below w.heap.size w w')
    (c3 : ∀ w, Calls Try.prog 19 #[.agg #[.int .i64 c.fr, .int .i64 c.to, .int .i64 c.kp, .int .i64 c.ad, .int .i64 c.t0, .int .i64 c.t1, .int .i64 c.t2], .agg #[.int .i64 a.fr, .int .i64 a.to, .int .i64 a.kp, .int .i64 a.ad, .int .i64 a.t0, .int .i64 a.t1, .int .i64 a.t2]] w fun e w' => e = .returned (.tuple #[.agg #[.int .i64 P.fr, .int .i64 P.to, .int .i64 P.kp, .int .i64 P.ad, .int .i64 P.t0, .int .i64 P.t1, .int .i64 P.t2], .bool true]) ∧ Below w.heap.size w w')
    (c4 : ∀ w, Calls Try.prog 19 #[.agg #[.int .i64 c.fr, .int .i64 c.to, .int .i64 c.kp, .int .i64 c.ad, .int .i64 c.t0, .int .i64 c.t1, .int .i64 c.t2], .agg #[.int .i64 b.fr, .int .i64 b.to, .int .i64 b.kp, .int .i64 b.ad, .int .i64 b.t0, .int .i64 b.t1, .int .i64 b.t2]] w fun e w' => e = .returned (.tuple #[.agg #[.int .i64 Q.fr, .int .i64 Q.to, .int .i64 Q.kp, .int .i64 Q.ad, .int .i64 Q.t0, .int .i64 Q.t1, .int .i64 Q.t2], .bool true]) ∧ Below w.heap.size w w')
    (cp : ∀ w, Calls Try.prog 21 #[.agg #[.int .i64 P.fr, .int .i64 P.to, .int .i64 P.kp, .int .i64 P.ad, .int .i64 P.t0, .int .i64 P.t1, .int .i64 P.t2], .agg #[.int .i64 Q.fr, .int .i64 Q.to, .int .i64 Q.kp, .int .i64 Q.ad, .int .i64 Q.t0, .int .i64 Q.t1, .int .i64 Q.t2]] w fun e w' => e = .returned (.bool true) ∧ Below w.heap.size w w')
    : Calls Try.prog 8 #[.agg #[.int .i64 a.fr, .int .i64 a.to, .int .i64 a.kp, .int .i64 a.ad, .int .i64 a.t0, .int .i64 a.t1, .int .i64 a.t2], .agg #[.int .i64 b.fr, .int .i64 b.to, .int .i64 b.kp, .int .i64 b.ad, .int .i64 b.t0, .int .i64 b.t1, .int .i64 b.t2], .agg #[.int .i64 c.fr, .int .i64 c.to, .int .i64 c.kp, .int .i64 c.ad, .int .i64 c.t0, .int .i64 c.t1, .int .i64 c.t2]] w fun e w' => e = .returned (.bool true) ∧ Below w.heap.size w w' := by
  have cw := fun w => works_any w
  have CL := Lib.hid cl; have C1 := Lib.hid c1; have C2 := Lib.hid c2; have C3 := Lib.hid c3; have C4 := Lib.hid c4; have CP := Lib.hid cp; have CW := Lib.hid cw; clear cl c1 c2 c3 c4 cp cw
  have ha : HoldsM (((w.alloc (.cells #[.int .i64 a.fr, .int .i64 a.to, .int .i64 a.kp, .int .i64 a.ad, .int .i64 a.t0, .int .i64 a.t1, .int .i64 a.t2] 24)).alloc (.cells #[.int .i64 b.fr, .int .i64 b.to, .int .i64 b.kp, .int .i64 b.ad, .int .i64 b.t0, .int .i64 b.t1, .int .i64 b.t2] 24)).alloc (.cells #[.int .i64 c.fr, .int .i64 c.to, .int .i64 c.kp, .int .i64 c.ad, .int .i64 c.t0, .int .i64 c.t1, .int .i64 c.t2] 24)) w.heap.size 24 a := by
    have hq := Row.alloc (Row.alloc (Row.made w 24 [.int .i64 a.fr, .int .i64 a.to, .int .i64 a.kp, .int .i64 a.ad, .int .i64 a.t0, .int .i64 a.t1, .int .i64 a.t2]) (.cells #[.int .i64 b.fr, .int .i64 b.to, .int .i64 b.kp, .int .i64 b.ad, .int .i64 b.t0, .int .i64 b.t1, .int .i64 b.t2] 24)) (.cells #[.int .i64 c.fr, .int .i64 c.to, .int .i64 c.kp, .int .i64 c.ad, .int .i64 c.t0, .int .i64 c.t1, .int .i64 c.t2] 24)
    exact hq
  have hb : HoldsM (((w.alloc (.cells #[.int .i64 a.fr, .int .i64 a.to, .int .i64 a.kp, .int .i64 a.ad, .int .i64 a.t0, .int .i64 a.t1, .int .i64 a.t2] 24)).alloc (.cells #[.int .i64 b.fr, .int .i64 b.to, .int .i64 b.kp, .int .i64 b.ad, .int .i64 b.t0, .int .i64 b.t1, .int .i64 b.t2] 24)).alloc (.cells #[.int .i64 c.fr, .int .i64 c.to, .int .i64 c.kp, .int .i64 c.ad, .int .i64 c.t0, .int .i64 c.t1, .int .i64 c.t2] 24)) (w.heap.size + 1) 24 b := by
    have hq := Row.alloc (Row.made (w.alloc (.cells #[.int .i64 a.fr, .int .i64 a.to, .int .i64 a.kp, .int .i64 a.ad, .int .i64 a.t0, .int .i64 a.t1, .int .i64 a.t2] 24)) 24 [.int .i64 b.fr, .int .i64 b.to, .int .i64 b.kp, .int .i64 b.ad, .int .i64 b.t0, .int .i64 b.t1, .int .i64 b.t2]) (.cells #[.int .i64 c.fr, .int .i64 c.to, .int .i64 c.kp, .int .i64 c.ad, .int .i64 c.t0, .int .i64 c.t1, .int .i64 c.t2] 24)
    rw [size_alloc] at hq
    exact hq
  have hc : HoldsM (((w.alloc (.cells #[.int .i64 a.fr, .int .i64 a.to, .int .i64 a.kp, .int .i64 a.ad, .int .i64 a.t0, .int .i64 a.t1, .int .i64 a.t2] 24)).alloc (.cells #[.int .i64 b.fr, .int .i64 b.to, .int .i64 b.kp, .int .i64 b.ad, .int .i64 b.t0, .int .i64 b.t1, .int .i64 b.t2] 24)).alloc (.cells #[.int .i64 c.fr, .int .i64 c.to, .int .i64 c.kp, .int .i64 c.ad, .int .i64 c.t0, .int .i64 c.t1, .int .i64 c.t2] 24)) (w.heap.size + 1 + 1) 24 c := by
    have hq := Row.made ((w.alloc (.cells #[.int .i64 a.fr, .int .i64 a.to, .int .i64 a.kp, .int .i64 a.ad, .int .i64 a.t0, .int .i64 a.t1, .int .i64 a.t2] 24)).alloc (.cells #[.int .i64 b.fr, .int .i64 b.to, .int .i64 b.kp, .int .i64 b.ad, .int .i64 b.t0, .int .i64 b.t1, .int .i64 b.t2] 24)) 24 [.int .i64 c.fr, .int .i64 c.to, .int .i64 c.kp, .int .i64 c.ad, .int .i64 c.t0, .int .i64 c.t1, .int .i64 c.t2]
    rw [size_alloc, size_alloc] at hq
    exact hq
  have hbw : Below w.heap.size w (((w.alloc (.cells #[.int .i64 a.fr, .int .i64 a.to, .int .i64 a.kp, .int .i64 a.ad, .int .i64 a.t0, .int .i64 a.t1, .int .i64 a.t2] 24)).alloc (.cells #[.int .i64 b.fr, .int .i64 b.to, .int .i64 b.kp, .int .i64 b.ad, .int .i64 b.t0, .int .i64 b.t1, .int .i64 b.t2] 24)).alloc (.cells #[.int .i64 c.fr, .int .i64 c.to, .int .i64 c.kp, .int .i64 c.ad, .int .i64 c.t0, .int .i64 c.t1, .int .i64 c.t2] 24)) := (((Below.refl _ _).alloc (by simp) _).alloc (by simp) _).alloc (by simp; omega) _
  have Ha := Lib.hid ha; clear ha
  have Hb := Lib.hid hb; clear hb
  have Hc := Lib.hid hc; clear hc
  have HBW := Lib.hid hbw; clear hbw
  go_enter Try.func8, Try.ntmps8
  go_wp2_with fail
  generalize ((w.alloc (.cells #[.int .i64 a.fr, .int .i64 a.to, .int .i64 a.kp, .int .i64 a.ad, .int .i64 a.t0, .int .i64 a.t1, .int .i64 a.t2] 24)).alloc (.cells #[.int .i64 b.fr, .int .i64 b.to, .int .i64 b.kp, .int .i64 b.ad, .int .i64 b.t0, .int .i64 b.t1, .int .i64 b.t2] 24)).alloc (.cells #[.int .i64 c.fr, .int .i64 c.to, .int .i64 c.kp, .int .i64 c.ad, .int .i64 c.t0, .int .i64 c.t1, .int .i64 c.t2] 24) = w0 at *
  have la := Ha.out.lt
  have lb := Hb.out.lt
  have lc := Hc.out.lt
  obtain ⟨ca0, ca1, ca2, ca3, ca4, ca5, ca6⟩ := Ha.out.cells7
  obtain ⟨cb0, cb1, cb2, cb3, cb4, cb5, cb6⟩ := Hb.out.cells7
  go_wp2_with fail
  clear la lb lc ca0 ca1 ca2 ca3 ca4 ca5 ca6 cb0 cb1 cb2 cb3 cb4 cb5 cb6
  refine (CL.out _).mono ?_; rintro e v1 ⟨rfl, hbel⟩
  dsimp only
  have ha := Ha.out.below hbel; clear Ha
  have hb := Hb.out.below hbel; clear Hb
  have hc := Hc.out.below hbel; clear Hc
  have hbw := HBW.out.trans (hbel.mono HBW.out.size); clear HBW hbel
  have Ha := Lib.hid ha; clear ha
  have Hb := Lib.hid hb; clear hb
  have Hc := Lib.hid hc; clear hc
  have HBW := Lib.hid hbw; clear hbw
  have la := Ha.out.lt
  have lb := Hb.out.lt
  have lc := Hc.out.lt
  obtain ⟨ca0, ca1, ca2, ca3, ca4, ca5, ca6⟩ := Ha.out.cells7
  obtain ⟨cc0, cc1, cc2, cc3, cc4, cc5, cc6⟩ := Hc.out.cells7
  go_wp2_with fail
  clear la lb lc ca0 ca1 ca2 ca3 ca4 ca5 ca6 cc0 cc1 cc2 cc3 cc4 cc5 cc6
  refine (C1.out _).mono ?_; rintro e v2 ⟨rfl, hbel⟩
  dsimp only
  have ha := Ha.out.below hbel; clear Ha
  have hb := Hb.out.below hbel; clear Hb
  have hc := Hc.out.below hbel; clear Hc
  have hbw := HBW.out.trans (hbel.mono HBW.out.size); clear HBW hbel
  have Ha := Lib.hid ha; clear ha
  have Hb := Lib.hid hb; clear hb
  have Hc := Lib.hid hc; clear hc
  have HBW := Lib.hid hbw; clear hbw
  have la := Ha.out.lt
  have lb := Hb.out.lt
  have lc := Hc.out.lt
  obtain ⟨cb0, cb1, cb2, cb3, cb4, cb5, cb6⟩ := Hb.out.cells7
  obtain ⟨cc0, cc1, cc2, cc3, cc4, cc5, cc6⟩ := Hc.out.cells7
  go_wp2_with fail
  clear la lb lc cb0 cb1 cb2 cb3 cb4 cb5 cb6 cc0 cc1 cc2 cc3 cc4 cc5 cc6
  have ha := Ha.out.alloc (.cells #[.int .i64 X.fr, .int .i64 X.to, .int .i64 X.kp, .int .i64 X.ad, .int .i64 X.t0, .int .i64 X.t1, .int .i64 X.t2] 24); clear Ha
  have hb := Hb.out.alloc (.cells #[.int .i64 X.fr, .int .i64 X.to, .int .i64 X.kp, .int .i64 X.ad, .int .i64 X.t0, .int .i64 X.t1, .int .i64 X.t2] 24); clear Hb
  have hc := Hc.out.alloc (.cells #[.int .i64 X.fr, .int .i64 X.to, .int .i64 X.kp, .int .i64 X.ad, .int .i64 X.t0, .int .i64 X.t1, .int .i64 X.t2] 24); clear Hc
  have hx : HoldsM (v2.alloc (.cells #[.int .i64 X.fr, .int .i64 X.to, .int .i64 X.kp, .int .i64 X.ad, .int .i64 X.t0, .int .i64 X.t1, .int .i64 X.t2] 24)) v2.heap.size 24 X := Row.made v2 _ _
  have hbw := HBW.out.alloc HBW.out.size (.cells #[.int .i64 X.fr, .int .i64 X.to, .int .i64 X.kp, .int .i64 X.ad, .int .i64 X.t0, .int .i64 X.t1, .int .i64 X.t2] 24); clear HBW
  generalize v2.alloc (.cells #[.int .i64 X.fr, .int .i64 X.to, .int .i64 X.kp, .int .i64 X.ad, .int .i64 X.t0, .int .i64 X.t1, .int .i64 X.t2] 24) = v3 at *
  generalize v2.heap.size = gx at *
  have Ha := Lib.hid ha; clear ha
  have Hb := Lib.hid hb; clear hb
  have Hc := Lib.hid hc; clear hc
  have Hx := Lib.hid hx; clear hx
  have HBW := Lib.hid hbw; clear hbw
  refine (C2.out _).mono ?_; rintro e v4 ⟨rfl, hbel⟩
  dsimp only
  have ha := Ha.out.below hbel; clear Ha
  have hb := Hb.out.below hbel; clear Hb
  have hc := Hc.out.below hbel; clear Hc
  have hx := Hx.out.below hbel; clear Hx
  have hbw := HBW.out.trans (hbel.mono HBW.out.size); clear HBW hbel
  have Ha := Lib.hid ha; clear ha
  have Hb := Lib.hid hb; clear hb
  have Hc := Lib.hid hc; clear hc
  have Hx := Lib.hid hx; clear hx
  have HBW := Lib.hid hbw; clear hbw
  have la := Ha.out.lt
  have lb := Hb.out.lt
  have lc := Hc.out.lt
  have lx := Hx.out.lt
  obtain ⟨ca0, ca1, ca2, ca3, ca4, ca5, ca6⟩ := Ha.out.cells7
  obtain ⟨cc0, cc1, cc2, cc3, cc4, cc5, cc6⟩ := Hc.out.cells7
  go_wp2_with fail
  clear la lb lc lx ca0 ca1 ca2 ca3 ca4 ca5 ca6 cc0 cc1 cc2 cc3 cc4 cc5 cc6
  have ha := Ha.out.alloc (.cells #[.int .i64 Y.fr, .int .i64 Y.to, .int .i64 Y.kp, .int .i64 Y.ad, .int .i64 Y.t0, .int .i64 Y.t1, .int .i64 Y.t2] 24); clear Ha
  have hb := Hb.out.alloc (.cells #[.int .i64 Y.fr, .int .i64 Y.to, .int .i64 Y.kp, .int .i64 Y.ad, .int .i64 Y.t0, .int .i64 Y.t1, .int .i64 Y.t2] 24); clear Hb
  have hc := Hc.out.alloc (.cells #[.int .i64 Y.fr, .int .i64 Y.to, .int .i64 Y.kp, .int .i64 Y.ad, .int .i64 Y.t0, .int .i64 Y.t1, .int .i64 Y.t2] 24); clear Hc
  have hx := Hx.out.alloc (.cells #[.int .i64 Y.fr, .int .i64 Y.to, .int .i64 Y.kp, .int .i64 Y.ad, .int .i64 Y.t0, .int .i64 Y.t1, .int .i64 Y.t2] 24); clear Hx
  have hy : HoldsM (v4.alloc (.cells #[.int .i64 Y.fr, .int .i64 Y.to, .int .i64 Y.kp, .int .i64 Y.ad, .int .i64 Y.t0, .int .i64 Y.t1, .int .i64 Y.t2] 24)) v4.heap.size 24 Y := Row.made v4 _ _
  have hbw := HBW.out.alloc HBW.out.size (.cells #[.int .i64 Y.fr, .int .i64 Y.to, .int .i64 Y.kp, .int .i64 Y.ad, .int .i64 Y.t0, .int .i64 Y.t1, .int .i64 Y.t2] 24); clear HBW
  generalize v4.alloc (.cells #[.int .i64 Y.fr, .int .i64 Y.to, .int .i64 Y.kp, .int .i64 Y.ad, .int .i64 Y.t0, .int .i64 Y.t1, .int .i64 Y.t2] 24) = v5 at *
  generalize v4.heap.size = gy at *
  have Ha := Lib.hid ha; clear ha
  have Hb := Lib.hid hb; clear hb
  have Hc := Lib.hid hc; clear hc
  have Hx := Lib.hid hx; clear hx
  have Hy := Lib.hid hy; clear hy
  have HBW := Lib.hid hbw; clear hbw
  refine (C3.out _).mono ?_; rintro e v6 ⟨rfl, hbel⟩
  dsimp only
  have ha := Ha.out.below hbel; clear Ha
  have hb := Hb.out.below hbel; clear Hb
  have hc := Hc.out.below hbel; clear Hc
  have hx := Hx.out.below hbel; clear Hx
  have hy := Hy.out.below hbel; clear Hy
  have hbw := HBW.out.trans (hbel.mono HBW.out.size); clear HBW hbel
  have Ha := Lib.hid ha; clear ha
  have Hb := Lib.hid hb; clear hb
  have Hc := Lib.hid hc; clear hc
  have Hx := Lib.hid hx; clear hx
  have Hy := Lib.hid hy; clear hy
  have HBW := Lib.hid hbw; clear hbw
  have la := Ha.out.lt
  have lb := Hb.out.lt
  have lc := Hc.out.lt
  have lx := Hx.out.lt
  have ly := Hy.out.lt
  obtain ⟨cb0, cb1, cb2, cb3, cb4, cb5, cb6⟩ := Hb.out.cells7
  obtain ⟨cc0, cc1, cc2, cc3, cc4, cc5, cc6⟩ := Hc.out.cells7
  go_wp2_with fail
  clear la lb lc lx ly cb0 cb1 cb2 cb3 cb4 cb5 cb6 cc0 cc1 cc2 cc3 cc4 cc5 cc6
  have ha := Ha.out.alloc (.cells #[.int .i64 P.fr, .int .i64 P.to, .int .i64 P.kp, .int .i64 P.ad, .int .i64 P.t0, .int .i64 P.t1, .int .i64 P.t2] 24); clear Ha
  have hb := Hb.out.alloc (.cells #[.int .i64 P.fr, .int .i64 P.to, .int .i64 P.kp, .int .i64 P.ad, .int .i64 P.t0, .int .i64 P.t1, .int .i64 P.t2] 24); clear Hb
  have hc := Hc.out.alloc (.cells #[.int .i64 P.fr, .int .i64 P.to, .int .i64 P.kp, .int .i64 P.ad, .int .i64 P.t0, .int .i64 P.t1, .int .i64 P.t2] 24); clear Hc
  have hx := Hx.out.alloc (.cells #[.int .i64 P.fr, .int .i64 P.to, .int .i64 P.kp, .int .i64 P.ad, .int .i64 P.t0, .int .i64 P.t1, .int .i64 P.t2] 24); clear Hx
  have hy := Hy.out.alloc (.cells #[.int .i64 P.fr, .int .i64 P.to, .int .i64 P.kp, .int .i64 P.ad, .int .i64 P.t0, .int .i64 P.t1, .int .i64 P.t2] 24); clear Hy
  have hp : HoldsM (v6.alloc (.cells #[.int .i64 P.fr, .int .i64 P.to, .int .i64 P.kp, .int .i64 P.ad, .int .i64 P.t0, .int .i64 P.t1, .int .i64 P.t2] 24)) v6.heap.size 24 P := Row.made v6 _ _
  have hbw := HBW.out.alloc HBW.out.size (.cells #[.int .i64 P.fr, .int .i64 P.to, .int .i64 P.kp, .int .i64 P.ad, .int .i64 P.t0, .int .i64 P.t1, .int .i64 P.t2] 24); clear HBW
  generalize v6.alloc (.cells #[.int .i64 P.fr, .int .i64 P.to, .int .i64 P.kp, .int .i64 P.ad, .int .i64 P.t0, .int .i64 P.t1, .int .i64 P.t2] 24) = v7 at *
  generalize v6.heap.size = gp at *
  have Ha := Lib.hid ha; clear ha
  have Hb := Lib.hid hb; clear hb
  have Hc := Lib.hid hc; clear hc
  have Hx := Lib.hid hx; clear hx
  have Hy := Lib.hid hy; clear hy
  have Hp := Lib.hid hp; clear hp
  have HBW := Lib.hid hbw; clear hbw
  refine (C4.out _).mono ?_; rintro e v8 ⟨rfl, hbel⟩
  dsimp only
  have ha := Ha.out.below hbel; clear Ha
  have hb := Hb.out.below hbel; clear Hb
  have hc := Hc.out.below hbel; clear Hc
  have hx := Hx.out.below hbel; clear Hx
  have hy := Hy.out.below hbel; clear Hy
  have hp := Hp.out.below hbel; clear Hp
  have hbw := HBW.out.trans (hbel.mono HBW.out.size); clear HBW hbel
  have Ha := Lib.hid ha; clear ha
  have Hb := Lib.hid hb; clear hb
  have Hc := Lib.hid hc; clear hc
  have Hx := Lib.hid hx; clear hx
  have Hy := Lib.hid hy; clear hy
  have Hp := Lib.hid hp; clear hp
  have HBW := Lib.hid hbw; clear hbw
  have la := Ha.out.lt
  have lb := Hb.out.lt
  have lc := Hc.out.lt
  have lx := Hx.out.lt
  have ly := Hy.out.lt
  have lp := Hp.out.lt
  obtain ⟨cp0, cp1, cp2, cp3, cp4, cp5, cp6⟩ := Hp.out.cells7
  go_wp2_with fail
  clear la lb lc lx ly lp cp0 cp1 cp2 cp3 cp4 cp5 cp6
  have ha := Ha.out.alloc (.cells #[.int .i64 Q.fr, .int .i64 Q.to, .int .i64 Q.kp, .int .i64 Q.ad, .int .i64 Q.t0, .int .i64 Q.t1, .int .i64 Q.t2] 24); clear Ha
  have hb := Hb.out.alloc (.cells #[.int .i64 Q.fr, .int .i64 Q.to, .int .i64 Q.kp, .int .i64 Q.ad, .int .i64 Q.t0, .int .i64 Q.t1, .int .i64 Q.t2] 24); clear Hb
  have hc := Hc.out.alloc (.cells #[.int .i64 Q.fr, .int .i64 Q.to, .int .i64 Q.kp, .int .i64 Q.ad, .int .i64 Q.t0, .int .i64 Q.t1, .int .i64 Q.t2] 24); clear Hc
  have hx := Hx.out.alloc (.cells #[.int .i64 Q.fr, .int .i64 Q.to, .int .i64 Q.kp, .int .i64 Q.ad, .int .i64 Q.t0, .int .i64 Q.t1, .int .i64 Q.t2] 24); clear Hx
  have hy := Hy.out.alloc (.cells #[.int .i64 Q.fr, .int .i64 Q.to, .int .i64 Q.kp, .int .i64 Q.ad, .int .i64 Q.t0, .int .i64 Q.t1, .int .i64 Q.t2] 24); clear Hy
  have hp := Hp.out.alloc (.cells #[.int .i64 Q.fr, .int .i64 Q.to, .int .i64 Q.kp, .int .i64 Q.ad, .int .i64 Q.t0, .int .i64 Q.t1, .int .i64 Q.t2] 24); clear Hp
  have hq : HoldsM (v8.alloc (.cells #[.int .i64 Q.fr, .int .i64 Q.to, .int .i64 Q.kp, .int .i64 Q.ad, .int .i64 Q.t0, .int .i64 Q.t1, .int .i64 Q.t2] 24)) v8.heap.size 24 Q := Row.made v8 _ _
  have hbw := HBW.out.alloc HBW.out.size (.cells #[.int .i64 Q.fr, .int .i64 Q.to, .int .i64 Q.kp, .int .i64 Q.ad, .int .i64 Q.t0, .int .i64 Q.t1, .int .i64 Q.t2] 24); clear HBW
  generalize v8.alloc (.cells #[.int .i64 Q.fr, .int .i64 Q.to, .int .i64 Q.kp, .int .i64 Q.ad, .int .i64 Q.t0, .int .i64 Q.t1, .int .i64 Q.t2] 24) = v9 at *
  generalize v8.heap.size = gq at *
  have Ha := Lib.hid ha; clear ha
  have Hb := Lib.hid hb; clear hb
  have Hc := Lib.hid hc; clear hc
  have Hx := Lib.hid hx; clear hx
  have Hy := Lib.hid hy; clear hy
  have Hp := Lib.hid hp; clear hp
  have Hq := Lib.hid hq; clear hq
  have HBW := Lib.hid hbw; clear hbw
  refine (CP.out _).mono ?_; rintro e v10 ⟨rfl, hbel⟩
  dsimp only
  have ha := Ha.out.below hbel; clear Ha
  have hb := Hb.out.below hbel; clear Hb
  have hc := Hc.out.below hbel; clear Hc
  have hx := Hx.out.below hbel; clear Hx
  have hy := Hy.out.below hbel; clear Hy
  have hp := Hp.out.below hbel; clear Hp
  have hq := Hq.out.below hbel; clear Hq
  have hbw := HBW.out.trans (hbel.mono HBW.out.size); clear HBW hbel
  have Ha := Lib.hid ha; clear ha
  have Hb := Lib.hid hb; clear hb
  have Hc := Lib.hid hc; clear hc
  have Hx := Lib.hid hx; clear hx
  have Hy := Lib.hid hy; clear hy
  have Hp := Lib.hid hp; clear hp
  have Hq := Lib.hid hq; clear hq
  have HBW := Lib.hid hbw; clear hbw
  have la := Ha.out.lt
  have lb := Hb.out.lt
  have lc := Hc.out.lt
  have lx := Hx.out.lt
  have ly := Hy.out.lt
  have lp := Hp.out.lt
  have lq := Hq.out.lt
  go_wp2_with fail
  clear la lb lc lx ly lp lq
  refine (CW.out _).mono ?_; rintro e v11 ⟨rfl, hbel⟩
  dsimp only
  have ha := Ha.out.below hbel; clear Ha
  have hb := Hb.out.below hbel; clear Hb
  have hc := Hc.out.below hbel; clear Hc
  have hx := Hx.out.below hbel; clear Hx
  have hy := Hy.out.below hbel; clear Hy
  have hp := Hp.out.below hbel; clear Hp
  have hq := Hq.out.below hbel; clear Hq
  have hbw := HBW.out.trans (hbel.mono HBW.out.size); clear HBW hbel
  have Ha := Lib.hid ha; clear ha
  have Hb := Lib.hid hb; clear hb
  have Hc := Lib.hid hc; clear hc
  have Hx := Lib.hid hx; clear hx
  have Hy := Lib.hid hy; clear hy
  have Hp := Lib.hid hp; clear hp
  have Hq := Lib.hid hq; clear hq
  have HBW := Lib.hid hbw; clear hbw
  have la := Ha.out.lt
  have lb := Hb.out.lt
  have lc := Hc.out.lt
  have lx := Hx.out.lt
  have ly := Hy.out.lt
  have lp := Hp.out.lt
  have lq := Hq.out.lt
  go_wp2_with fail
  clear la lb lc lx ly lp lq
  go_ret
  exact ⟨rfl, HBW.out⟩
set_option maxHeartbeats 4000000 in
theorem w_10 (a b c X Y P Q : Sm) (B1 B3 : Bool) (w : World)
    (cl : ∀ w, Calls Try.prog 21 #[.agg #[.int .i64 a.fr, .int .i64 a.to, .int .i64 a.kp, .int .i64 a.ad, .int .i64 a.t0, .int .i64 a.t1, .int .i64 a.t2], .agg #[.int .i64 b.fr, .int .i64 b.to, .int .i64 b.kp, .int .i64 b.ad, .int .i64 b.t0, .int .i64 b.t1, .int .i64 b.t2]] w fun e w' => e = .returned (.bool true) ∧ Below w.heap.size w w')
    (c1 : ∀ w, Calls Try.prog 19 #[.agg #[.int .i64 a.fr, .int .i64 a.to, .int .i64 a.kp, .int .i64 a.ad, .int .i64 a.t0, .int .i64 a.t1, .int .i64 a.t2], .agg #[.int .i64 c.fr, .int .i64 c.to, .int .i64 c.kp, .int .i64 c.ad, .int .i64 c.t0, .int .i64 c.t1, .int .i64 c.t2]] w fun e w' => e = .returned (.tuple #[.agg #[.int .i64 X.fr, .int .i64 X.to, .int .i64 X.kp, .int .i64 X.ad, .int .i64 X.t0, .int .i64 X.t1, .int .i64 X.t2], .bool true]) ∧ Below w.heap.size w w')
    (c2 : ∀ w, Calls Try.prog 19 #[.agg #[.int .i64 b.fr, .int .i64 b.to, .int .i64 b.kp, .int .i64 b.ad, .int .i64 b.t0, .int .i64 b.t1, .int .i64 b.t2], .agg #[.int .i64 c.fr, .int .i64 c.to, .int .i64 c.kp, .int .i64 c.ad, .int .i64 c.t0, .int .i64 c.t1, .int .i64 c.t2]] w fun e w' => e = .returned (.tuple #[.agg #[.int .i64 Y.fr, .int .i64 Y.to, .int .i64 Y.kp, .int .i64 Y.ad, .int .i64 Y.t0, .int .i64 Y.t1, .int .i64 Y.t2], .bool true]) ∧ Below w.heap.size w w')
    (c3 : ∀ w, Calls Try.prog 19 #[.agg #[.int .i64 c.fr, .int .i64 c.to, .int .i64 c.kp, .int .i64 c.ad, .int .i64 c.t0, .int .i64 c.t1, .int .i64 c.t2], .agg #[.int .i64 a.fr, .int .i64 a.to, .int .i64 a.kp, .int .i64 a.ad, .int .i64 a.t0, .int .i64 a.t1, .int .i64 a.t2]] w fun e w' => e = .returned (.tuple #[.agg #[.int .i64 P.fr, .int .i64 P.to, .int .i64 P.kp, .int .i64 P.ad, .int .i64 P.t0, .int .i64 P.t1, .int .i64 P.t2], .bool B3]) ∧ Below w.heap.size w w')
    (c4 : ∀ w, Calls Try.prog 19 #[.agg #[.int .i64 c.fr, .int .i64 c.to, .int .i64 c.kp, .int .i64 c.ad, .int .i64 c.t0, .int .i64 c.t1, .int .i64 c.t2], .agg #[.int .i64 b.fr, .int .i64 b.to, .int .i64 b.kp, .int .i64 b.ad, .int .i64 b.t0, .int .i64 b.t1, .int .i64 b.t2]] w fun e w' => e = .returned (.tuple #[.agg #[.int .i64 Q.fr, .int .i64 Q.to, .int .i64 Q.kp, .int .i64 Q.ad, .int .i64 Q.t0, .int .i64 Q.t1, .int .i64 Q.t2], .bool false]) ∧ Below w.heap.size w w')
    (cx : ∀ w, Calls Try.prog 21 #[.agg #[.int .i64 X.fr, .int .i64 X.to, .int .i64 X.kp, .int .i64 X.ad, .int .i64 X.t0, .int .i64 X.t1, .int .i64 X.t2], .agg #[.int .i64 Y.fr, .int .i64 Y.to, .int .i64 Y.kp, .int .i64 Y.ad, .int .i64 Y.t0, .int .i64 Y.t1, .int .i64 Y.t2]] w fun e w' => e = .returned (.bool true) ∧ Below w.heap.size w w')
    : Calls Try.prog 8 #[.agg #[.int .i64 a.fr, .int .i64 a.to, .int .i64 a.kp, .int .i64 a.ad, .int .i64 a.t0, .int .i64 a.t1, .int .i64 a.t2], .agg #[.int .i64 b.fr, .int .i64 b.to, .int .i64 b.kp, .int .i64 b.ad, .int .i64 b.t0, .int .i64 b.t1, .int .i64 b.t2], .agg #[.int .i64 c.fr, .int .i64 c.to, .int .i64 c.kp, .int .i64 c.ad, .int .i64 c.t0, .int .i64 c.t1, .int .i64 c.t2]] w fun e w' => e = .returned (.bool true) ∧ Below w.heap.size w w' := by
  have cw := fun w => works_any w
  have CL := Lib.hid cl; have C1 := Lib.hid c1; have C2 := Lib.hid c2; have C3 := Lib.hid c3; have C4 := Lib.hid c4; have CX := Lib.hid cx; have CW := Lib.hid cw; clear cl c1 c2 c3 c4 cx cw
  have ha : HoldsM (((w.alloc (.cells #[.int .i64 a.fr, .int .i64 a.to, .int .i64 a.kp, .int .i64 a.ad, .int .i64 a.t0, .int .i64 a.t1, .int .i64 a.t2] 24)).alloc (.cells #[.int .i64 b.fr, .int .i64 b.to, .int .i64 b.kp, .int .i64 b.ad, .int .i64 b.t0, .int .i64 b.t1, .int .i64 b.t2] 24)).alloc (.cells #[.int .i64 c.fr, .int .i64 c.to, .int .i64 c.kp, .int .i64 c.ad, .int .i64 c.t0, .int .i64 c.t1, .int .i64 c.t2] 24)) w.heap.size 24 a := by
    have hq := Row.alloc (Row.alloc (Row.made w 24 [.int .i64 a.fr, .int .i64 a.to, .int .i64 a.kp, .int .i64 a.ad, .int .i64 a.t0, .int .i64 a.t1, .int .i64 a.t2]) (.cells #[.int .i64 b.fr, .int .i64 b.to, .int .i64 b.kp, .int .i64 b.ad, .int .i64 b.t0, .int .i64 b.t1, .int .i64 b.t2] 24)) (.cells #[.int .i64 c.fr, .int .i64 c.to, .int .i64 c.kp, .int .i64 c.ad, .int .i64 c.t0, .int .i64 c.t1, .int .i64 c.t2] 24)
    exact hq
  have hb : HoldsM (((w.alloc (.cells #[.int .i64 a.fr, .int .i64 a.to, .int .i64 a.kp, .int .i64 a.ad, .int .i64 a.t0, .int .i64 a.t1, .int .i64 a.t2] 24)).alloc (.cells #[.int .i64 b.fr, .int .i64 b.to, .int .i64 b.kp, .int .i64 b.ad, .int .i64 b.t0, .int .i64 b.t1, .int .i64 b.t2] 24)).alloc (.cells #[.int .i64 c.fr, .int .i64 c.to, .int .i64 c.kp, .int .i64 c.ad, .int .i64 c.t0, .int .i64 c.t1, .int .i64 c.t2] 24)) (w.heap.size + 1) 24 b := by
    have hq := Row.alloc (Row.made (w.alloc (.cells #[.int .i64 a.fr, .int .i64 a.to, .int .i64 a.kp, .int .i64 a.ad, .int .i64 a.t0, .int .i64 a.t1, .int .i64 a.t2] 24)) 24 [.int .i64 b.fr, .int .i64 b.to, .int .i64 b.kp, .int .i64 b.ad, .int .i64 b.t0, .int .i64 b.t1, .int .i64 b.t2]) (.cells #[.int .i64 c.fr, .int .i64 c.to, .int .i64 c.kp, .int .i64 c.ad, .int .i64 c.t0, .int .i64 c.t1, .int .i64 c.t2] 24)
    rw [size_alloc] at hq
    exact hq
  have hc : HoldsM (((w.alloc (.cells #[.int .i64 a.fr, .int .i64 a.to, .int .i64 a.kp, .int .i64 a.ad, .int .i64 a.t0, .int .i64 a.t1, .int .i64 a.t2] 24)).alloc (.cells #[.int .i64 b.fr, .int .i64 b.to, .int .i64 b.kp, .int .i64 b.ad, .int .i64 b.t0, .int .i64 b.t1, .int .i64 b.t2] 24)).alloc (.cells #[.int .i64 c.fr, .int .i64 c.to, .int .i64 c.kp, .int .i64 c.ad, .int .i64 c.t0, .int .i64 c.t1, .int .i64 c.t2] 24)) (w.heap.size + 1 + 1) 24 c := by
    have hq := Row.made ((w.alloc (.cells #[.int .i64 a.fr, .int .i64 a.to, .int .i64 a.kp, .int .i64 a.ad, .int .i64 a.t0, .int .i64 a.t1, .int .i64 a.t2] 24)).alloc (.cells #[.int .i64 b.fr, .int .i64 b.to, .int .i64 b.kp, .int .i64 b.ad, .int .i64 b.t0, .int .i64 b.t1, .int .i64 b.t2] 24)) 24 [.int .i64 c.fr, .int .i64 c.to, .int .i64 c.kp, .int .i64 c.ad, .int .i64 c.t0, .int .i64 c.t1, .int .i64 c.t2]
    rw [size_alloc, size_alloc] at hq
    exact hq
  have hbw : Below w.heap.size w (((w.alloc (.cells #[.int .i64 a.fr, .int .i64 a.to, .int .i64 a.kp, .int .i64 a.ad, .int .i64 a.t0, .int .i64 a.t1, .int .i64 a.t2] 24)).alloc (.cells #[.int .i64 b.fr, .int .i64 b.to, .int .i64 b.kp, .int .i64 b.ad, .int .i64 b.t0, .int .i64 b.t1, .int .i64 b.t2] 24)).alloc (.cells #[.int .i64 c.fr, .int .i64 c.to, .int .i64 c.kp, .int .i64 c.ad, .int .i64 c.t0, .int .i64 c.t1, .int .i64 c.t2] 24)) := (((Below.refl _ _).alloc (by simp) _).alloc (by simp) _).alloc (by simp; omega) _
  have Ha := Lib.hid ha; clear ha
  have Hb := Lib.hid hb; clear hb
  have Hc := Lib.hid hc; clear hc
  have HBW := Lib.hid hbw; clear hbw
  go_enter Try.func8, Try.ntmps8
  go_wp2_with fail
  generalize ((w.alloc (.cells #[.int .i64 a.fr, .int .i64 a.to, .int .i64 a.kp, .int .i64 a.ad, .int .i64 a.t0, .int .i64 a.t1, .int .i64 a.t2] 24)).alloc (.cells #[.int .i64 b.fr, .int .i64 b.to, .int .i64 b.kp, .int .i64 b.ad, .int .i64 b.t0, .int .i64 b.t1, .int .i64 b.t2] 24)).alloc (.cells #[.int .i64 c.fr, .int .i64 c.to, .int .i64 c.kp, .int .i64 c.ad, .int .i64 c.t0, .int .i64 c.t1, .int .i64 c.t2] 24) = w0 at *
  have la := Ha.out.lt
  have lb := Hb.out.lt
  have lc := Hc.out.lt
  obtain ⟨ca0, ca1, ca2, ca3, ca4, ca5, ca6⟩ := Ha.out.cells7
  obtain ⟨cb0, cb1, cb2, cb3, cb4, cb5, cb6⟩ := Hb.out.cells7
  go_wp2_with fail
  clear la lb lc ca0 ca1 ca2 ca3 ca4 ca5 ca6 cb0 cb1 cb2 cb3 cb4 cb5 cb6
  refine (CL.out _).mono ?_; rintro e v1 ⟨rfl, hbel⟩
  dsimp only
  have ha := Ha.out.below hbel; clear Ha
  have hb := Hb.out.below hbel; clear Hb
  have hc := Hc.out.below hbel; clear Hc
  have hbw := HBW.out.trans (hbel.mono HBW.out.size); clear HBW hbel
  have Ha := Lib.hid ha; clear ha
  have Hb := Lib.hid hb; clear hb
  have Hc := Lib.hid hc; clear hc
  have HBW := Lib.hid hbw; clear hbw
  have la := Ha.out.lt
  have lb := Hb.out.lt
  have lc := Hc.out.lt
  obtain ⟨ca0, ca1, ca2, ca3, ca4, ca5, ca6⟩ := Ha.out.cells7
  obtain ⟨cc0, cc1, cc2, cc3, cc4, cc5, cc6⟩ := Hc.out.cells7
  go_wp2_with fail
  clear la lb lc ca0 ca1 ca2 ca3 ca4 ca5 ca6 cc0 cc1 cc2 cc3 cc4 cc5 cc6
  refine (C1.out _).mono ?_; rintro e v2 ⟨rfl, hbel⟩
  dsimp only
  have ha := Ha.out.below hbel; clear Ha
  have hb := Hb.out.below hbel; clear Hb
  have hc := Hc.out.below hbel; clear Hc
  have hbw := HBW.out.trans (hbel.mono HBW.out.size); clear HBW hbel
  have Ha := Lib.hid ha; clear ha
  have Hb := Lib.hid hb; clear hb
  have Hc := Lib.hid hc; clear hc
  have HBW := Lib.hid hbw; clear hbw
  have la := Ha.out.lt
  have lb := Hb.out.lt
  have lc := Hc.out.lt
  obtain ⟨cb0, cb1, cb2, cb3, cb4, cb5, cb6⟩ := Hb.out.cells7
  obtain ⟨cc0, cc1, cc2, cc3, cc4, cc5, cc6⟩ := Hc.out.cells7
  go_wp2_with fail
  clear la lb lc cb0 cb1 cb2 cb3 cb4 cb5 cb6 cc0 cc1 cc2 cc3 cc4 cc5 cc6
  have ha := Ha.out.alloc (.cells #[.int .i64 X.fr, .int .i64 X.to, .int .i64 X.kp, .int .i64 X.ad, .int .i64 X.t0, .int .i64 X.t1, .int .i64 X.t2] 24); clear Ha
  have hb := Hb.out.alloc (.cells #[.int .i64 X.fr, .int .i64 X.to, .int .i64 X.kp, .int .i64 X.ad, .int .i64 X.t0, .int .i64 X.t1, .int .i64 X.t2] 24); clear Hb
  have hc := Hc.out.alloc (.cells #[.int .i64 X.fr, .int .i64 X.to, .int .i64 X.kp, .int .i64 X.ad, .int .i64 X.t0, .int .i64 X.t1, .int .i64 X.t2] 24); clear Hc
  have hx : HoldsM (v2.alloc (.cells #[.int .i64 X.fr, .int .i64 X.to, .int .i64 X.kp, .int .i64 X.ad, .int .i64 X.t0, .int .i64 X.t1, .int .i64 X.t2] 24)) v2.heap.size 24 X := Row.made v2 _ _
  have hbw := HBW.out.alloc HBW.out.size (.cells #[.int .i64 X.fr, .int .i64 X.to, .int .i64 X.kp, .int .i64 X.ad, .int .i64 X.t0, .int .i64 X.t1, .int .i64 X.t2] 24); clear HBW
  generalize v2.alloc (.cells #[.int .i64 X.fr, .int .i64 X.to, .int .i64 X.kp, .int .i64 X.ad, .int .i64 X.t0, .int .i64 X.t1, .int .i64 X.t2] 24) = v3 at *
  generalize v2.heap.size = gx at *
  have Ha := Lib.hid ha; clear ha
  have Hb := Lib.hid hb; clear hb
  have Hc := Lib.hid hc; clear hc
  have Hx := Lib.hid hx; clear hx
  have HBW := Lib.hid hbw; clear hbw
  refine (C2.out _).mono ?_; rintro e v4 ⟨rfl, hbel⟩
  dsimp only
  have ha := Ha.out.below hbel; clear Ha
  have hb := Hb.out.below hbel; clear Hb
  have hc := Hc.out.below hbel; clear Hc
  have hx := Hx.out.below hbel; clear Hx
  have hbw := HBW.out.trans (hbel.mono HBW.out.size); clear HBW hbel
  have Ha := Lib.hid ha; clear ha
  have Hb := Lib.hid hb; clear hb
  have Hc := Lib.hid hc; clear hc
  have Hx := Lib.hid hx; clear hx
  have HBW := Lib.hid hbw; clear hbw
  have la := Ha.out.lt
  have lb := Hb.out.lt
  have lc := Hc.out.lt
  have lx := Hx.out.lt
  obtain ⟨cx0, cx1, cx2, cx3, cx4, cx5, cx6⟩ := Hx.out.cells7
  go_wp2_with fail
  clear la lb lc lx cx0 cx1 cx2 cx3 cx4 cx5 cx6
  have ha := Ha.out.alloc (.cells #[.int .i64 Y.fr, .int .i64 Y.to, .int .i64 Y.kp, .int .i64 Y.ad, .int .i64 Y.t0, .int .i64 Y.t1, .int .i64 Y.t2] 24); clear Ha
  have hb := Hb.out.alloc (.cells #[.int .i64 Y.fr, .int .i64 Y.to, .int .i64 Y.kp, .int .i64 Y.ad, .int .i64 Y.t0, .int .i64 Y.t1, .int .i64 Y.t2] 24); clear Hb
  have hc := Hc.out.alloc (.cells #[.int .i64 Y.fr, .int .i64 Y.to, .int .i64 Y.kp, .int .i64 Y.ad, .int .i64 Y.t0, .int .i64 Y.t1, .int .i64 Y.t2] 24); clear Hc
  have hx := Hx.out.alloc (.cells #[.int .i64 Y.fr, .int .i64 Y.to, .int .i64 Y.kp, .int .i64 Y.ad, .int .i64 Y.t0, .int .i64 Y.t1, .int .i64 Y.t2] 24); clear Hx
  have hy : HoldsM (v4.alloc (.cells #[.int .i64 Y.fr, .int .i64 Y.to, .int .i64 Y.kp, .int .i64 Y.ad, .int .i64 Y.t0, .int .i64 Y.t1, .int .i64 Y.t2] 24)) v4.heap.size 24 Y := Row.made v4 _ _
  have hbw := HBW.out.alloc HBW.out.size (.cells #[.int .i64 Y.fr, .int .i64 Y.to, .int .i64 Y.kp, .int .i64 Y.ad, .int .i64 Y.t0, .int .i64 Y.t1, .int .i64 Y.t2] 24); clear HBW
  generalize v4.alloc (.cells #[.int .i64 Y.fr, .int .i64 Y.to, .int .i64 Y.kp, .int .i64 Y.ad, .int .i64 Y.t0, .int .i64 Y.t1, .int .i64 Y.t2] 24) = v5 at *
  generalize v4.heap.size = gy at *
  have Ha := Lib.hid ha; clear ha
  have Hb := Lib.hid hb; clear hb
  have Hc := Lib.hid hc; clear hc
  have Hx := Lib.hid hx; clear hx
  have Hy := Lib.hid hy; clear hy
  have HBW := Lib.hid hbw; clear hbw
  refine (CX.out _).mono ?_; rintro e v6 ⟨rfl, hbel⟩
  dsimp only
  have ha := Ha.out.below hbel; clear Ha
  have hb := Hb.out.below hbel; clear Hb
  have hc := Hc.out.below hbel; clear Hc
  have hx := Hx.out.below hbel; clear Hx
  have hy := Hy.out.below hbel; clear Hy
  have hbw := HBW.out.trans (hbel.mono HBW.out.size); clear HBW hbel
  have Ha := Lib.hid ha; clear ha
  have Hb := Lib.hid hb; clear hb
  have Hc := Lib.hid hc; clear hc
  have Hx := Lib.hid hx; clear hx
  have Hy := Lib.hid hy; clear hy
  have HBW := Lib.hid hbw; clear hbw
  have la := Ha.out.lt
  have lb := Hb.out.lt
  have lc := Hc.out.lt
  have lx := Hx.out.lt
  have ly := Hy.out.lt
  obtain ⟨ca0, ca1, ca2, ca3, ca4, ca5, ca6⟩ := Ha.out.cells7
  obtain ⟨cc0, cc1, cc2, cc3, cc4, cc5, cc6⟩ := Hc.out.cells7
  go_wp2_with fail
  clear la lb lc lx ly ca0 ca1 ca2 ca3 ca4 ca5 ca6 cc0 cc1 cc2 cc3 cc4 cc5 cc6
  refine (C3.out _).mono ?_; rintro e v7 ⟨rfl, hbel⟩
  dsimp only
  have ha := Ha.out.below hbel; clear Ha
  have hb := Hb.out.below hbel; clear Hb
  have hc := Hc.out.below hbel; clear Hc
  have hx := Hx.out.below hbel; clear Hx
  have hy := Hy.out.below hbel; clear Hy
  have hbw := HBW.out.trans (hbel.mono HBW.out.size); clear HBW hbel
  have Ha := Lib.hid ha; clear ha
  have Hb := Lib.hid hb; clear hb
  have Hc := Lib.hid hc; clear hc
  have Hx := Lib.hid hx; clear hx
  have Hy := Lib.hid hy; clear hy
  have HBW := Lib.hid hbw; clear hbw
  have la := Ha.out.lt
  have lb := Hb.out.lt
  have lc := Hc.out.lt
  have lx := Hx.out.lt
  have ly := Hy.out.lt
  obtain ⟨cb0, cb1, cb2, cb3, cb4, cb5, cb6⟩ := Hb.out.cells7
  obtain ⟨cc0, cc1, cc2, cc3, cc4, cc5, cc6⟩ := Hc.out.cells7
  go_wp2_with fail
  clear la lb lc lx ly cb0 cb1 cb2 cb3 cb4 cb5 cb6 cc0 cc1 cc2 cc3 cc4 cc5 cc6
  have ha := Ha.out.alloc (.cells #[.int .i64 P.fr, .int .i64 P.to, .int .i64 P.kp, .int .i64 P.ad, .int .i64 P.t0, .int .i64 P.t1, .int .i64 P.t2] 24); clear Ha
  have hb := Hb.out.alloc (.cells #[.int .i64 P.fr, .int .i64 P.to, .int .i64 P.kp, .int .i64 P.ad, .int .i64 P.t0, .int .i64 P.t1, .int .i64 P.t2] 24); clear Hb
  have hc := Hc.out.alloc (.cells #[.int .i64 P.fr, .int .i64 P.to, .int .i64 P.kp, .int .i64 P.ad, .int .i64 P.t0, .int .i64 P.t1, .int .i64 P.t2] 24); clear Hc
  have hx := Hx.out.alloc (.cells #[.int .i64 P.fr, .int .i64 P.to, .int .i64 P.kp, .int .i64 P.ad, .int .i64 P.t0, .int .i64 P.t1, .int .i64 P.t2] 24); clear Hx
  have hy := Hy.out.alloc (.cells #[.int .i64 P.fr, .int .i64 P.to, .int .i64 P.kp, .int .i64 P.ad, .int .i64 P.t0, .int .i64 P.t1, .int .i64 P.t2] 24); clear Hy
  have hp : HoldsM (v7.alloc (.cells #[.int .i64 P.fr, .int .i64 P.to, .int .i64 P.kp, .int .i64 P.ad, .int .i64 P.t0, .int .i64 P.t1, .int .i64 P.t2] 24)) v7.heap.size 24 P := Row.made v7 _ _
  have hbw := HBW.out.alloc HBW.out.size (.cells #[.int .i64 P.fr, .int .i64 P.to, .int .i64 P.kp, .int .i64 P.ad, .int .i64 P.t0, .int .i64 P.t1, .int .i64 P.t2] 24); clear HBW
  generalize v7.alloc (.cells #[.int .i64 P.fr, .int .i64 P.to, .int .i64 P.kp, .int .i64 P.ad, .int .i64 P.t0, .int .i64 P.t1, .int .i64 P.t2] 24) = v8 at *
  generalize v7.heap.size = gp at *
  have Ha := Lib.hid ha; clear ha
  have Hb := Lib.hid hb; clear hb
  have Hc := Lib.hid hc; clear hc
  have Hx := Lib.hid hx; clear hx
  have Hy := Lib.hid hy; clear hy
  have Hp := Lib.hid hp; clear hp
  have HBW := Lib.hid hbw; clear hbw
  refine (C4.out _).mono ?_; rintro e v9 ⟨rfl, hbel⟩
  dsimp only
  have ha := Ha.out.below hbel; clear Ha
  have hb := Hb.out.below hbel; clear Hb
  have hc := Hc.out.below hbel; clear Hc
  have hx := Hx.out.below hbel; clear Hx
  have hy := Hy.out.below hbel; clear Hy
  have hp := Hp.out.below hbel; clear Hp
  have hbw := HBW.out.trans (hbel.mono HBW.out.size); clear HBW hbel
  have Ha := Lib.hid ha; clear ha
  have Hb := Lib.hid hb; clear hb
  have Hc := Lib.hid hc; clear hc
  have Hx := Lib.hid hx; clear hx
  have Hy := Lib.hid hy; clear hy
  have Hp := Lib.hid hp; clear hp
  have HBW := Lib.hid hbw; clear hbw
  have la := Ha.out.lt
  have lb := Hb.out.lt
  have lc := Hc.out.lt
  have lx := Hx.out.lt
  have ly := Hy.out.lt
  have lp := Hp.out.lt
  go_wp2_with fail
  clear la lb lc lx ly lp
  have ha := Ha.out.alloc (.cells #[.int .i64 Q.fr, .int .i64 Q.to, .int .i64 Q.kp, .int .i64 Q.ad, .int .i64 Q.t0, .int .i64 Q.t1, .int .i64 Q.t2] 24); clear Ha
  have hb := Hb.out.alloc (.cells #[.int .i64 Q.fr, .int .i64 Q.to, .int .i64 Q.kp, .int .i64 Q.ad, .int .i64 Q.t0, .int .i64 Q.t1, .int .i64 Q.t2] 24); clear Hb
  have hc := Hc.out.alloc (.cells #[.int .i64 Q.fr, .int .i64 Q.to, .int .i64 Q.kp, .int .i64 Q.ad, .int .i64 Q.t0, .int .i64 Q.t1, .int .i64 Q.t2] 24); clear Hc
  have hx := Hx.out.alloc (.cells #[.int .i64 Q.fr, .int .i64 Q.to, .int .i64 Q.kp, .int .i64 Q.ad, .int .i64 Q.t0, .int .i64 Q.t1, .int .i64 Q.t2] 24); clear Hx
  have hy := Hy.out.alloc (.cells #[.int .i64 Q.fr, .int .i64 Q.to, .int .i64 Q.kp, .int .i64 Q.ad, .int .i64 Q.t0, .int .i64 Q.t1, .int .i64 Q.t2] 24); clear Hy
  have hp := Hp.out.alloc (.cells #[.int .i64 Q.fr, .int .i64 Q.to, .int .i64 Q.kp, .int .i64 Q.ad, .int .i64 Q.t0, .int .i64 Q.t1, .int .i64 Q.t2] 24); clear Hp
  have hq : HoldsM (v9.alloc (.cells #[.int .i64 Q.fr, .int .i64 Q.to, .int .i64 Q.kp, .int .i64 Q.ad, .int .i64 Q.t0, .int .i64 Q.t1, .int .i64 Q.t2] 24)) v9.heap.size 24 Q := Row.made v9 _ _
  have hbw := HBW.out.alloc HBW.out.size (.cells #[.int .i64 Q.fr, .int .i64 Q.to, .int .i64 Q.kp, .int .i64 Q.ad, .int .i64 Q.t0, .int .i64 Q.t1, .int .i64 Q.t2] 24); clear HBW
  generalize v9.alloc (.cells #[.int .i64 Q.fr, .int .i64 Q.to, .int .i64 Q.kp, .int .i64 Q.ad, .int .i64 Q.t0, .int .i64 Q.t1, .int .i64 Q.t2] 24) = v10 at *
  generalize v9.heap.size = gq at *
  have Ha := Lib.hid ha; clear ha
  have Hb := Lib.hid hb; clear hb
  have Hc := Lib.hid hc; clear hc
  have Hx := Lib.hid hx; clear hx
  have Hy := Lib.hid hy; clear hy
  have Hp := Lib.hid hp; clear hp
  have Hq := Lib.hid hq; clear hq
  have HBW := Lib.hid hbw; clear hbw
  refine (CW.out _).mono ?_; rintro e v11 ⟨rfl, hbel⟩
  dsimp only
  have ha := Ha.out.below hbel; clear Ha
  have hb := Hb.out.below hbel; clear Hb
  have hc := Hc.out.below hbel; clear Hc
  have hx := Hx.out.below hbel; clear Hx
  have hy := Hy.out.below hbel; clear Hy
  have hp := Hp.out.below hbel; clear Hp
  have hq := Hq.out.below hbel; clear Hq
  have hbw := HBW.out.trans (hbel.mono HBW.out.size); clear HBW hbel
  have Ha := Lib.hid ha; clear ha
  have Hb := Lib.hid hb; clear hb
  have Hc := Lib.hid hc; clear hc
  have Hx := Lib.hid hx; clear hx
  have Hy := Lib.hid hy; clear hy
  have Hp := Lib.hid hp; clear hp
  have Hq := Lib.hid hq; clear hq
  have HBW := Lib.hid hbw; clear hbw
  have la := Ha.out.lt
  have lb := Hb.out.lt
  have lc := Hc.out.lt
  have lx := Hx.out.lt
  have ly := Hy.out.lt
  have lp := Hp.out.lt
  have lq := Hq.out.lt
  go_wp2_with fail
  clear la lb lc lx ly lp lq
  go_ret
  exact ⟨rfl, HBW.out⟩
set_option maxHeartbeats 4000000 in
theorem w_11 (a b c X Y P Q : Sm) (B1 B3 : Bool) (w : World)
    (cl : ∀ w, Calls Try.prog 21 #[.agg #[.int .i64 a.fr, .int .i64 a.to, .int .i64 a.kp, .int .i64 a.ad, .int .i64 a.t0, .int .i64 a.t1, .int .i64 a.t2], .agg #[.int .i64 b.fr, .int .i64 b.to, .int .i64 b.kp, .int .i64 b.ad, .int .i64 b.t0, .int .i64 b.t1, .int .i64 b.t2]] w fun e w' => e = .returned (.bool true) ∧ Below w.heap.size w w')
    (c1 : ∀ w, Calls Try.prog 19 #[.agg #[.int .i64 a.fr, .int .i64 a.to, .int .i64 a.kp, .int .i64 a.ad, .int .i64 a.t0, .int .i64 a.t1, .int .i64 a.t2], .agg #[.int .i64 c.fr, .int .i64 c.to, .int .i64 c.kp, .int .i64 c.ad, .int .i64 c.t0, .int .i64 c.t1, .int .i64 c.t2]] w fun e w' => e = .returned (.tuple #[.agg #[.int .i64 X.fr, .int .i64 X.to, .int .i64 X.kp, .int .i64 X.ad, .int .i64 X.t0, .int .i64 X.t1, .int .i64 X.t2], .bool true]) ∧ Below w.heap.size w w')
    (c2 : ∀ w, Calls Try.prog 19 #[.agg #[.int .i64 b.fr, .int .i64 b.to, .int .i64 b.kp, .int .i64 b.ad, .int .i64 b.t0, .int .i64 b.t1, .int .i64 b.t2], .agg #[.int .i64 c.fr, .int .i64 c.to, .int .i64 c.kp, .int .i64 c.ad, .int .i64 c.t0, .int .i64 c.t1, .int .i64 c.t2]] w fun e w' => e = .returned (.tuple #[.agg #[.int .i64 Y.fr, .int .i64 Y.to, .int .i64 Y.kp, .int .i64 Y.ad, .int .i64 Y.t0, .int .i64 Y.t1, .int .i64 Y.t2], .bool true]) ∧ Below w.heap.size w w')
    (c3 : ∀ w, Calls Try.prog 19 #[.agg #[.int .i64 c.fr, .int .i64 c.to, .int .i64 c.kp, .int .i64 c.ad, .int .i64 c.t0, .int .i64 c.t1, .int .i64 c.t2], .agg #[.int .i64 a.fr, .int .i64 a.to, .int .i64 a.kp, .int .i64 a.ad, .int .i64 a.t0, .int .i64 a.t1, .int .i64 a.t2]] w fun e w' => e = .returned (.tuple #[.agg #[.int .i64 P.fr, .int .i64 P.to, .int .i64 P.kp, .int .i64 P.ad, .int .i64 P.t0, .int .i64 P.t1, .int .i64 P.t2], .bool true]) ∧ Below w.heap.size w w')
    (c4 : ∀ w, Calls Try.prog 19 #[.agg #[.int .i64 c.fr, .int .i64 c.to, .int .i64 c.kp, .int .i64 c.ad, .int .i64 c.t0, .int .i64 c.t1, .int .i64 c.t2], .agg #[.int .i64 b.fr, .int .i64 b.to, .int .i64 b.kp, .int .i64 b.ad, .int .i64 b.t0, .int .i64 b.t1, .int .i64 b.t2]] w fun e w' => e = .returned (.tuple #[.agg #[.int .i64 Q.fr, .int .i64 Q.to, .int .i64 Q.kp, .int .i64 Q.ad, .int .i64 Q.t0, .int .i64 Q.t1, .int .i64 Q.t2], .bool true]) ∧ Below w.heap.size w w')
    (cx : ∀ w, Calls Try.prog 21 #[.agg #[.int .i64 X.fr, .int .i64 X.to, .int .i64 X.kp, .int .i64 X.ad, .int .i64 X.t0, .int .i64 X.t1, .int .i64 X.t2], .agg #[.int .i64 Y.fr, .int .i64 Y.to, .int .i64 Y.kp, .int .i64 Y.ad, .int .i64 Y.t0, .int .i64 Y.t1, .int .i64 Y.t2]] w fun e w' => e = .returned (.bool true) ∧ Below w.heap.size w w')
    (cp : ∀ w, Calls Try.prog 21 #[.agg #[.int .i64 P.fr, .int .i64 P.to, .int .i64 P.kp, .int .i64 P.ad, .int .i64 P.t0, .int .i64 P.t1, .int .i64 P.t2], .agg #[.int .i64 Q.fr, .int .i64 Q.to, .int .i64 Q.kp, .int .i64 Q.ad, .int .i64 Q.t0, .int .i64 Q.t1, .int .i64 Q.t2]] w fun e w' => e = .returned (.bool true) ∧ Below w.heap.size w w')
    : Calls Try.prog 8 #[.agg #[.int .i64 a.fr, .int .i64 a.to, .int .i64 a.kp, .int .i64 a.ad, .int .i64 a.t0, .int .i64 a.t1, .int .i64 a.t2], .agg #[.int .i64 b.fr, .int .i64 b.to, .int .i64 b.kp, .int .i64 b.ad, .int .i64 b.t0, .int .i64 b.t1, .int .i64 b.t2], .agg #[.int .i64 c.fr, .int .i64 c.to, .int .i64 c.kp, .int .i64 c.ad, .int .i64 c.t0, .int .i64 c.t1, .int .i64 c.t2]] w fun e w' => e = .returned (.bool true) ∧ Below w.heap.size w w' := by
  have cw := fun w => works_any w
  have CL := Lib.hid cl; have C1 := Lib.hid c1; have C2 := Lib.hid c2; have C3 := Lib.hid c3; have C4 := Lib.hid c4; have CX := Lib.hid cx; have CP := Lib.hid cp; have CW := Lib.hid cw; clear cl c1 c2 c3 c4 cx cp cw
  have ha : HoldsM (((w.alloc (.cells #[.int .i64 a.fr, .int .i64 a.to, .int .i64 a.kp, .int .i64 a.ad, .int .i64 a.t0, .int .i64 a.t1, .int .i64 a.t2] 24)).alloc (.cells #[.int .i64 b.fr, .int .i64 b.to, .int .i64 b.kp, .int .i64 b.ad, .int .i64 b.t0, .int .i64 b.t1, .int .i64 b.t2] 24)).alloc (.cells #[.int .i64 c.fr, .int .i64 c.to, .int .i64 c.kp, .int .i64 c.ad, .int .i64 c.t0, .int .i64 c.t1, .int .i64 c.t2] 24)) w.heap.size 24 a := by
    have hq := Row.alloc (Row.alloc (Row.made w 24 [.int .i64 a.fr, .int .i64 a.to, .int .i64 a.kp, .int .i64 a.ad, .int .i64 a.t0, .int .i64 a.t1, .int .i64 a.t2]) (.cells #[.int .i64 b.fr, .int .i64 b.to, .int .i64 b.kp, .int .i64 b.ad, .int .i64 b.t0, .int .i64 b.t1, .int .i64 b.t2] 24)) (.cells #[.int .i64 c.fr, .int .i64 c.to, .int .i64 c.kp, .int .i64 c.ad, .int .i64 c.t0, .int .i64 c.t1, .int .i64 c.t2] 24)
    exact hq
  have hb : HoldsM (((w.alloc (.cells #[.int .i64 a.fr, .int .i64 a.to, .int .i64 a.kp, .int .i64 a.ad, .int .i64 a.t0, .int .i64 a.t1, .int .i64 a.t2] 24)).alloc (.cells #[.int .i64 b.fr, .int .i64 b.to, .int .i64 b.kp, .int .i64 b.ad, .int .i64 b.t0, .int .i64 b.t1, .int .i64 b.t2] 24)).alloc (.cells #[.int .i64 c.fr, .int .i64 c.to, .int .i64 c.kp, .int .i64 c.ad, .int .i64 c.t0, .int .i64 c.t1, .int .i64 c.t2] 24)) (w.heap.size + 1) 24 b := by
    have hq := Row.alloc (Row.made (w.alloc (.cells #[.int .i64 a.fr, .int .i64 a.to, .int .i64 a.kp, .int .i64 a.ad, .int .i64 a.t0, .int .i64 a.t1, .int .i64 a.t2] 24)) 24 [.int .i64 b.fr, .int .i64 b.to, .int .i64 b.kp, .int .i64 b.ad, .int .i64 b.t0, .int .i64 b.t1, .int .i64 b.t2]) (.cells #[.int .i64 c.fr, .int .i64 c.to, .int .i64 c.kp, .int .i64 c.ad, .int .i64 c.t0, .int .i64 c.t1, .int .i64 c.t2] 24)
    rw [size_alloc] at hq
    exact hq
  have hc : HoldsM (((w.alloc (.cells #[.int .i64 a.fr, .int .i64 a.to, .int .i64 a.kp, .int .i64 a.ad, .int .i64 a.t0, .int .i64 a.t1, .int .i64 a.t2] 24)).alloc (.cells #[.int .i64 b.fr, .int .i64 b.to, .int .i64 b.kp, .int .i64 b.ad, .int .i64 b.t0, .int .i64 b.t1, .int .i64 b.t2] 24)).alloc (.cells #[.int .i64 c.fr, .int .i64 c.to, .int .i64 c.kp, .int .i64 c.ad, .int .i64 c.t0, .int .i64 c.t1, .int .i64 c.t2] 24)) (w.heap.size + 1 + 1) 24 c := by
    have hq := Row.made ((w.alloc (.cells #[.int .i64 a.fr, .int .i64 a.to, .int .i64 a.kp, .int .i64 a.ad, .int .i64 a.t0, .int .i64 a.t1, .int .i64 a.t2] 24)).alloc (.cells #[.int .i64 b.fr, .int .i64 b.to, .int .i64 b.kp, .int .i64 b.ad, .int .i64 b.t0, .int .i64 b.t1, .int .i64 b.t2] 24)) 24 [.int .i64 c.fr, .int .i64 c.to, .int .i64 c.kp, .int .i64 c.ad, .int .i64 c.t0, .int .i64 c.t1, .int .i64 c.t2]
    rw [size_alloc, size_alloc] at hq
    exact hq
  have hbw : Below w.heap.size w (((w.alloc (.cells #[.int .i64 a.fr, .int .i64 a.to, .int .i64 a.kp, .int .i64 a.ad, .int .i64 a.t0, .int .i64 a.t1, .int .i64 a.t2] 24)).alloc (.cells #[.int .i64 b.fr, .int .i64 b.to, .int .i64 b.kp, .int .i64 b.ad, .int .i64 b.t0, .int .i64 b.t1, .int .i64 b.t2] 24)).alloc (.cells #[.int .i64 c.fr, .int .i64 c.to, .int .i64 c.kp, .int .i64 c.ad, .int .i64 c.t0, .int .i64 c.t1, .int .i64 c.t2] 24)) := (((Below.refl _ _).alloc (by simp) _).alloc (by simp) _).alloc (by simp; omega) _
  have Ha := Lib.hid ha; clear ha
  have Hb := Lib.hid hb; clear hb
  have Hc := Lib.hid hc; clear hc
  have HBW := Lib.hid hbw; clear hbw
  go_enter Try.func8, Try.ntmps8
  go_wp2_with fail
  generalize ((w.alloc (.cells #[.int .i64 a.fr, .int .i64 a.to, .int .i64 a.kp, .int .i64 a.ad, .int .i64 a.t0, .int .i64 a.t1, .int .i64 a.t2] 24)).alloc (.cells #[.int .i64 b.fr, .int .i64 b.to, .int .i64 b.kp, .int .i64 b.ad, .int .i64 b.t0, .int .i64 b.t1, .int .i64 b.t2] 24)).alloc (.cells #[.int .i64 c.fr, .int .i64 c.to, .int .i64 c.kp, .int .i64 c.ad, .int .i64 c.t0, .int .i64 c.t1, .int .i64 c.t2] 24) = w0 at *
  have la := Ha.out.lt
  have lb := Hb.out.lt
  have lc := Hc.out.lt
  obtain ⟨ca0, ca1, ca2, ca3, ca4, ca5, ca6⟩ := Ha.out.cells7
  obtain ⟨cb0, cb1, cb2, cb3, cb4, cb5, cb6⟩ := Hb.out.cells7
  go_wp2_with fail
  clear la lb lc ca0 ca1 ca2 ca3 ca4 ca5 ca6 cb0 cb1 cb2 cb3 cb4 cb5 cb6
  refine (CL.out _).mono ?_; rintro e v1 ⟨rfl, hbel⟩
  dsimp only
  have ha := Ha.out.below hbel; clear Ha
  have hb := Hb.out.below hbel; clear Hb
  have hc := Hc.out.below hbel; clear Hc
  have hbw := HBW.out.trans (hbel.mono HBW.out.size); clear HBW hbel
  have Ha := Lib.hid ha; clear ha
  have Hb := Lib.hid hb; clear hb
  have Hc := Lib.hid hc; clear hc
  have HBW := Lib.hid hbw; clear hbw
  have la := Ha.out.lt
  have lb := Hb.out.lt
  have lc := Hc.out.lt
  obtain ⟨ca0, ca1, ca2, ca3, ca4, ca5, ca6⟩ := Ha.out.cells7
  obtain ⟨cc0, cc1, cc2, cc3, cc4, cc5, cc6⟩ := Hc.out.cells7
  go_wp2_with fail
  clear la lb lc ca0 ca1 ca2 ca3 ca4 ca5 ca6 cc0 cc1 cc2 cc3 cc4 cc5 cc6
  refine (C1.out _).mono ?_; rintro e v2 ⟨rfl, hbel⟩
  dsimp only
  have ha := Ha.out.below hbel; clear Ha
  have hb := Hb.out.below hbel; clear Hb
  have hc := Hc.out.below hbel; clear Hc
  have hbw := HBW.out.trans (hbel.mono HBW.out.size); clear HBW hbel
  have Ha := Lib.hid ha; clear ha
  have Hb := Lib.hid hb; clear hb
  have Hc := Lib.hid hc; clear hc
  have HBW := Lib.hid hbw; clear hbw
  have la := Ha.out.lt
  have lb := Hb.out.lt
  have lc := Hc.out.lt
  obtain ⟨cb0, cb1, cb2, cb3, cb4, cb5, cb6⟩ := Hb.out.cells7
  obtain ⟨cc0, cc1, cc2, cc3, cc4, cc5, cc6⟩ := Hc.out.cells7
  go_wp2_with fail
  clear la lb lc cb0 cb1 cb2 cb3 cb4 cb5 cb6 cc0 cc1 cc2 cc3 cc4 cc5 cc6
  have ha := Ha.out.alloc (.cells #[.int .i64 X.fr, .int .i64 X.to, .int .i64 X.kp, .int .i64 X.ad, .int .i64 X.t0, .int .i64 X.t1, .int .i64 X.t2] 24); clear Ha
  have hb := Hb.out.alloc (.cells #[.int .i64 X.fr, .int .i64 X.to, .int .i64 X.kp, .int .i64 X.ad, .int .i64 X.t0, .int .i64 X.t1, .int .i64 X.t2] 24); clear Hb
  have hc := Hc.out.alloc (.cells #[.int .i64 X.fr, .int .i64 X.to, .int .i64 X.kp, .int .i64 X.ad, .int .i64 X.t0, .int .i64 X.t1, .int .i64 X.t2] 24); clear Hc
  have hx : HoldsM (v2.alloc (.cells #[.int .i64 X.fr, .int .i64 X.to, .int .i64 X.kp, .int .i64 X.ad, .int .i64 X.t0, .int .i64 X.t1, .int .i64 X.t2] 24)) v2.heap.size 24 X := Row.made v2 _ _
  have hbw := HBW.out.alloc HBW.out.size (.cells #[.int .i64 X.fr, .int .i64 X.to, .int .i64 X.kp, .int .i64 X.ad, .int .i64 X.t0, .int .i64 X.t1, .int .i64 X.t2] 24); clear HBW
  generalize v2.alloc (.cells #[.int .i64 X.fr, .int .i64 X.to, .int .i64 X.kp, .int .i64 X.ad, .int .i64 X.t0, .int .i64 X.t1, .int .i64 X.t2] 24) = v3 at *
  generalize v2.heap.size = gx at *
  have Ha := Lib.hid ha; clear ha
  have Hb := Lib.hid hb; clear hb
  have Hc := Lib.hid hc; clear hc
  have Hx := Lib.hid hx; clear hx
  have HBW := Lib.hid hbw; clear hbw
  refine (C2.out _).mono ?_; rintro e v4 ⟨rfl, hbel⟩
  dsimp only
  have ha := Ha.out.below hbel; clear Ha
  have hb := Hb.out.below hbel; clear Hb
  have hc := Hc.out.below hbel; clear Hc
  have hx := Hx.out.below hbel; clear Hx
  have hbw := HBW.out.trans (hbel.mono HBW.out.size); clear HBW hbel
  have Ha := Lib.hid ha; clear ha
  have Hb := Lib.hid hb; clear hb
  have Hc := Lib.hid hc; clear hc
  have Hx := Lib.hid hx; clear hx
  have HBW := Lib.hid hbw; clear hbw
  have la := Ha.out.lt
  have lb := Hb.out.lt
  have lc := Hc.out.lt
  have lx := Hx.out.lt
  obtain ⟨cx0, cx1, cx2, cx3, cx4, cx5, cx6⟩ := Hx.out.cells7
  go_wp2_with fail
  clear la lb lc lx cx0 cx1 cx2 cx3 cx4 cx5 cx6
  have ha := Ha.out.alloc (.cells #[.int .i64 Y.fr, .int .i64 Y.to, .int .i64 Y.kp, .int .i64 Y.ad, .int .i64 Y.t0, .int .i64 Y.t1, .int .i64 Y.t2] 24); clear Ha
  have hb := Hb.out.alloc (.cells #[.int .i64 Y.fr, .int .i64 Y.to, .int .i64 Y.kp, .int .i64 Y.ad, .int .i64 Y.t0, .int .i64 Y.t1, .int .i64 Y.t2] 24); clear Hb
  have hc := Hc.out.alloc (.cells #[.int .i64 Y.fr, .int .i64 Y.to, .int .i64 Y.kp, .int .i64 Y.ad, .int .i64 Y.t0, .int .i64 Y.t1, .int .i64 Y.t2] 24); clear Hc
  have hx := Hx.out.alloc (.cells #[.int .i64 Y.fr, .int .i64 Y.to, .int .i64 Y.kp, .int .i64 Y.ad, .int .i64 Y.t0, .int .i64 Y.t1, .int .i64 Y.t2] 24); clear Hx
  have hy : HoldsM (v4.alloc (.cells #[.int .i64 Y.fr, .int .i64 Y.to, .int .i64 Y.kp, .int .i64 Y.ad, .int .i64 Y.t0, .int .i64 Y.t1, .int .i64 Y.t2] 24)) v4.heap.size 24 Y := Row.made v4 _ _
  have hbw := HBW.out.alloc HBW.out.size (.cells #[.int .i64 Y.fr, .int .i64 Y.to, .int .i64 Y.kp, .int .i64 Y.ad, .int .i64 Y.t0, .int .i64 Y.t1, .int .i64 Y.t2] 24); clear HBW
  generalize v4.alloc (.cells #[.int .i64 Y.fr, .int .i64 Y.to, .int .i64 Y.kp, .int .i64 Y.ad, .int .i64 Y.t0, .int .i64 Y.t1, .int .i64 Y.t2] 24) = v5 at *
  generalize v4.heap.size = gy at *
  have Ha := Lib.hid ha; clear ha
  have Hb := Lib.hid hb; clear hb
  have Hc := Lib.hid hc; clear hc
  have Hx := Lib.hid hx; clear hx
  have Hy := Lib.hid hy; clear hy
  have HBW := Lib.hid hbw; clear hbw
  refine (CX.out _).mono ?_; rintro e v6 ⟨rfl, hbel⟩
  dsimp only
  have ha := Ha.out.below hbel; clear Ha
  have hb := Hb.out.below hbel; clear Hb
  have hc := Hc.out.below hbel; clear Hc
  have hx := Hx.out.below hbel; clear Hx
  have hy := Hy.out.below hbel; clear Hy
  have hbw := HBW.out.trans (hbel.mono HBW.out.size); clear HBW hbel
  have Ha := Lib.hid ha; clear ha
  have Hb := Lib.hid hb; clear hb
  have Hc := Lib.hid hc; clear hc
  have Hx := Lib.hid hx; clear hx
  have Hy := Lib.hid hy; clear hy
  have HBW := Lib.hid hbw; clear hbw
  have la := Ha.out.lt
  have lb := Hb.out.lt
  have lc := Hc.out.lt
  have lx := Hx.out.lt
  have ly := Hy.out.lt
  obtain ⟨ca0, ca1, ca2, ca3, ca4, ca5, ca6⟩ := Ha.out.cells7
  obtain ⟨cc0, cc1, cc2, cc3, cc4, cc5, cc6⟩ := Hc.out.cells7
  go_wp2_with fail
  clear la lb lc lx ly ca0 ca1 ca2 ca3 ca4 ca5 ca6 cc0 cc1 cc2 cc3 cc4 cc5 cc6
  refine (C3.out _).mono ?_; rintro e v7 ⟨rfl, hbel⟩
  dsimp only
  have ha := Ha.out.below hbel; clear Ha
  have hb := Hb.out.below hbel; clear Hb
  have hc := Hc.out.below hbel; clear Hc
  have hx := Hx.out.below hbel; clear Hx
  have hy := Hy.out.below hbel; clear Hy
  have hbw := HBW.out.trans (hbel.mono HBW.out.size); clear HBW hbel
  have Ha := Lib.hid ha; clear ha
  have Hb := Lib.hid hb; clear hb
  have Hc := Lib.hid hc; clear hc
  have Hx := Lib.hid hx; clear hx
  have Hy := Lib.hid hy; clear hy
  have HBW := Lib.hid hbw; clear hbw
  have la := Ha.out.lt
  have lb := Hb.out.lt
  have lc := Hc.out.lt
  have lx := Hx.out.lt
  have ly := Hy.out.lt
  obtain ⟨cb0, cb1, cb2, cb3, cb4, cb5, cb6⟩ := Hb.out.cells7
  obtain ⟨cc0, cc1, cc2, cc3, cc4, cc5, cc6⟩ := Hc.out.cells7
  go_wp2_with fail
  clear la lb lc lx ly cb0 cb1 cb2 cb3 cb4 cb5 cb6 cc0 cc1 cc2 cc3 cc4 cc5 cc6
  have ha := Ha.out.alloc (.cells #[.int .i64 P.fr, .int .i64 P.to, .int .i64 P.kp, .int .i64 P.ad, .int .i64 P.t0, .int .i64 P.t1, .int .i64 P.t2] 24); clear Ha
  have hb := Hb.out.alloc (.cells #[.int .i64 P.fr, .int .i64 P.to, .int .i64 P.kp, .int .i64 P.ad, .int .i64 P.t0, .int .i64 P.t1, .int .i64 P.t2] 24); clear Hb
  have hc := Hc.out.alloc (.cells #[.int .i64 P.fr, .int .i64 P.to, .int .i64 P.kp, .int .i64 P.ad, .int .i64 P.t0, .int .i64 P.t1, .int .i64 P.t2] 24); clear Hc
  have hx := Hx.out.alloc (.cells #[.int .i64 P.fr, .int .i64 P.to, .int .i64 P.kp, .int .i64 P.ad, .int .i64 P.t0, .int .i64 P.t1, .int .i64 P.t2] 24); clear Hx
  have hy := Hy.out.alloc (.cells #[.int .i64 P.fr, .int .i64 P.to, .int .i64 P.kp, .int .i64 P.ad, .int .i64 P.t0, .int .i64 P.t1, .int .i64 P.t2] 24); clear Hy
  have hp : HoldsM (v7.alloc (.cells #[.int .i64 P.fr, .int .i64 P.to, .int .i64 P.kp, .int .i64 P.ad, .int .i64 P.t0, .int .i64 P.t1, .int .i64 P.t2] 24)) v7.heap.size 24 P := Row.made v7 _ _
  have hbw := HBW.out.alloc HBW.out.size (.cells #[.int .i64 P.fr, .int .i64 P.to, .int .i64 P.kp, .int .i64 P.ad, .int .i64 P.t0, .int .i64 P.t1, .int .i64 P.t2] 24); clear HBW
  generalize v7.alloc (.cells #[.int .i64 P.fr, .int .i64 P.to, .int .i64 P.kp, .int .i64 P.ad, .int .i64 P.t0, .int .i64 P.t1, .int .i64 P.t2] 24) = v8 at *
  generalize v7.heap.size = gp at *
  have Ha := Lib.hid ha; clear ha
  have Hb := Lib.hid hb; clear hb
  have Hc := Lib.hid hc; clear hc
  have Hx := Lib.hid hx; clear hx
  have Hy := Lib.hid hy; clear hy
  have Hp := Lib.hid hp; clear hp
  have HBW := Lib.hid hbw; clear hbw
  refine (C4.out _).mono ?_; rintro e v9 ⟨rfl, hbel⟩
  dsimp only
  have ha := Ha.out.below hbel; clear Ha
  have hb := Hb.out.below hbel; clear Hb
  have hc := Hc.out.below hbel; clear Hc
  have hx := Hx.out.below hbel; clear Hx
  have hy := Hy.out.below hbel; clear Hy
  have hp := Hp.out.below hbel; clear Hp
  have hbw := HBW.out.trans (hbel.mono HBW.out.size); clear HBW hbel
  have Ha := Lib.hid ha; clear ha
  have Hb := Lib.hid hb; clear hb
  have Hc := Lib.hid hc; clear hc
  have Hx := Lib.hid hx; clear hx
  have Hy := Lib.hid hy; clear hy
  have Hp := Lib.hid hp; clear hp
  have HBW := Lib.hid hbw; clear hbw
  have la := Ha.out.lt
  have lb := Hb.out.lt
  have lc := Hc.out.lt
  have lx := Hx.out.lt
  have ly := Hy.out.lt
  have lp := Hp.out.lt
  obtain ⟨cp0, cp1, cp2, cp3, cp4, cp5, cp6⟩ := Hp.out.cells7
  go_wp2_with fail
  clear la lb lc lx ly lp cp0 cp1 cp2 cp3 cp4 cp5 cp6
  have ha := Ha.out.alloc (.cells #[.int .i64 Q.fr, .int .i64 Q.to, .int .i64 Q.kp, .int .i64 Q.ad, .int .i64 Q.t0, .int .i64 Q.t1, .int .i64 Q.t2] 24); clear Ha
  have hb := Hb.out.alloc (.cells #[.int .i64 Q.fr, .int .i64 Q.to, .int .i64 Q.kp, .int .i64 Q.ad, .int .i64 Q.t0, .int .i64 Q.t1, .int .i64 Q.t2] 24); clear Hb
  have hc := Hc.out.alloc (.cells #[.int .i64 Q.fr, .int .i64 Q.to, .int .i64 Q.kp, .int .i64 Q.ad, .int .i64 Q.t0, .int .i64 Q.t1, .int .i64 Q.t2] 24); clear Hc
  have hx := Hx.out.alloc (.cells #[.int .i64 Q.fr, .int .i64 Q.to, .int .i64 Q.kp, .int .i64 Q.ad, .int .i64 Q.t0, .int .i64 Q.t1, .int .i64 Q.t2] 24); clear Hx
  have hy := Hy.out.alloc (.cells #[.int .i64 Q.fr, .int .i64 Q.to, .int .i64 Q.kp, .int .i64 Q.ad, .int .i64 Q.t0, .int .i64 Q.t1, .int .i64 Q.t2] 24); clear Hy
  have hp := Hp.out.alloc (.cells #[.int .i64 Q.fr, .int .i64 Q.to, .int .i64 Q.kp, .int .i64 Q.ad, .int .i64 Q.t0, .int .i64 Q.t1, .int .i64 Q.t2] 24); clear Hp
  have hq : HoldsM (v9.alloc (.cells #[.int .i64 Q.fr, .int .i64 Q.to, .int .i64 Q.kp, .int .i64 Q.ad, .int .i64 Q.t0, .int .i64 Q.t1, .int .i64 Q.t2] 24)) v9.heap.size 24 Q := Row.made v9 _ _
  have hbw := HBW.out.alloc HBW.out.size (.cells #[.int .i64 Q.fr, .int .i64 Q.to, .int .i64 Q.kp, .int .i64 Q.ad, .int .i64 Q.t0, .int .i64 Q.t1, .int .i64 Q.t2] 24); clear HBW
  generalize v9.alloc (.cells #[.int .i64 Q.fr, .int .i64 Q.to, .int .i64 Q.kp, .int .i64 Q.ad, .int .i64 Q.t0, .int .i64 Q.t1, .int .i64 Q.t2] 24) = v10 at *
  generalize v9.heap.size = gq at *
  have Ha := Lib.hid ha; clear ha
  have Hb := Lib.hid hb; clear hb
  have Hc := Lib.hid hc; clear hc
  have Hx := Lib.hid hx; clear hx
  have Hy := Lib.hid hy; clear hy
  have Hp := Lib.hid hp; clear hp
  have Hq := Lib.hid hq; clear hq
  have HBW := Lib.hid hbw; clear hbw
  refine (CP.out _).mono ?_; rintro e v11 ⟨rfl, hbel⟩
  dsimp only
  have ha := Ha.out.below hbel; clear Ha
  have hb := Hb.out.below hbel; clear Hb
  have hc := Hc.out.below hbel; clear Hc
  have hx := Hx.out.below hbel; clear Hx
  have hy := Hy.out.below hbel; clear Hy
  have hp := Hp.out.below hbel; clear Hp
  have hq := Hq.out.below hbel; clear Hq
  have hbw := HBW.out.trans (hbel.mono HBW.out.size); clear HBW hbel
  have Ha := Lib.hid ha; clear ha
  have Hb := Lib.hid hb; clear hb
  have Hc := Lib.hid hc; clear hc
  have Hx := Lib.hid hx; clear hx
  have Hy := Lib.hid hy; clear hy
  have Hp := Lib.hid hp; clear hp
  have Hq := Lib.hid hq; clear hq
  have HBW := Lib.hid hbw; clear hbw
  have la := Ha.out.lt
  have lb := Hb.out.lt
  have lc := Hc.out.lt
  have lx := Hx.out.lt
  have ly := Hy.out.lt
  have lp := Hp.out.lt
  have lq := Hq.out.lt
  go_wp2_with fail
  clear la lb lc lx ly lp lq
  refine (CW.out _).mono ?_; rintro e v12 ⟨rfl, hbel⟩
  dsimp only
  have ha := Ha.out.below hbel; clear Ha
  have hb := Hb.out.below hbel; clear Hb
  have hc := Hc.out.below hbel; clear Hc
  have hx := Hx.out.below hbel; clear Hx
  have hy := Hy.out.below hbel; clear Hy
  have hp := Hp.out.below hbel; clear Hp
  have hq := Hq.out.below hbel; clear Hq
  have hbw := HBW.out.trans (hbel.mono HBW.out.size); clear HBW hbel
  have Ha := Lib.hid ha; clear ha
  have Hb := Lib.hid hb; clear hb
  have Hc := Lib.hid hc; clear hc
  have Hx := Lib.hid hx; clear hx
  have Hy := Lib.hid hy; clear hy
  have Hp := Lib.hid hp; clear hp
  have Hq := Lib.hid hq; clear hq
  have HBW := Lib.hid hbw; clear hbw
  have la := Ha.out.lt
  have lb := Hb.out.lt
  have lc := Hc.out.lt
  have lx := Hx.out.lt
  have ly := Hy.out.lt
  have lp := Hp.out.lt
  have lq := Hq.out.lt
  go_wp2_with fail
  clear la lb lc lx ly lp lq
  go_ret
  exact ⟨rfl, HBW.out⟩
theorem walk (a b c : Sm) (w : World) : Calls Try.prog 8 #[a.v, b.v, c.v] w fun e w' => e = .returned (.bool true) ∧ Below w.heap.size w w' := by
  have cl := fun w => leqM_any a b w
  have c1 := fun w => then_any a c w
  have c2 := fun w => then_any b c w
  have c3 := fun w => then_any c a w
  have c4 := fun w => then_any c b w
  have cx := fun w => leqM_any (a.th c) (b.th c) w
  have cp := fun w => leqM_any (c.th a) (c.th b) w
  by_cases hL : a.L b
  case neg =>
    rw [decide_eq_false hL] at cl
    exact w_no a b c Sm.zero Sm.zero Sm.zero Sm.zero false false w cl
  rw [decide_eq_true hL] at cl
  cases h1 : b.thB c with
  | false =>
    rw [h1] at c2
    cases h2 : c.thB b with
    | false => rw [h2] at c4; exact w_00 a b c _ _ _ _ _ _ w cl c1 c2 c3 c4
    | true =>
      rw [h2] at c4
      obtain ⟨e1, e2⟩ := right_th hL h2
      rw [e1] at c3; rw [decide_eq_true e2] at cp
      exact w_01 a b c _ _ _ _ _ false w cl c1 c2 c3 c4 cp
  | true =>
    rw [h1] at c2
    obtain ⟨f1, f2⟩ := left_th hL h1
    rw [f1] at c1; rw [decide_eq_true f2] at cx
    cases h2 : c.thB b with
    | false => rw [h2] at c4; exact w_10 a b c _ _ _ _ false _ w cl c1 c2 c3 c4 cx
    | true =>
      rw [h2] at c4
      obtain ⟨e1, e2⟩ := right_th hL h2
      rw [e1] at c3; rw [decide_eq_true e2] at cp
      exact w_11 a b c _ _ _ _ false false w cl c1 c2 c3 c4 cx cp

set_option maxRecDepth 100000 in
theorem lifted (os : Os) (started : os.Started) (H : Type) (enc : TypeId × Value → H) :
    ReturnsInHanded {} Try.checked os 8 .any (Rows.summaryGrowsSpec.pre6 enc Try.prog Try.f8 Rows.summaryGrowsRow.domain false) (Rows.summaryGrowsSpec.post enc Try.prog Try.f8 false true false false) := by
  refine returnsInHanded_of_change_sized (C := Try.checked) ownKnob_none started (by kernel_rfl) Try.func8
    (ChangeSpec.witness6 (enc := enc) (C := Try.checked) false ⟨#[], #[.agg #[.int .i64 0, .int .i64 0, .int .i64 0, .int .i64 0, .int .i64 0, .int .i64 0, .int .i64 0], .agg #[.int .i64 0, .int .i64 0, .int .i64 0, .int .i64 0, .int .i64 0, .int .i64 0, .int .i64 0], .agg #[.int .i64 0, .int .i64 0, .int .i64 0, .int .i64 0, .int .i64 0, .int .i64 0, .int .i64 0]], []⟩ 8 (by kernel_rfl) (by kernel_rfl) (by kernel_rfl) (by kernel_rfl)) ?_
  intro W base args ds gs before hval0 hW hcnd hsz0 _
  have hval : ∀ (j : Nat) t v, Try.f8.params[j]? = some t → args[j]? = some v → Value.okWide Try.prog W .any base t v := hval0
  have hW' := hW
  obtain ⟨p, q, hA0, hV, rfl, hfz, hnd⟩ := hW
  have hA : DataW.TrodAll enc Try.prog W 0 (fun _ => true) true Try.f8.params.toList args.toList ds p := hA0
  have hsz : (DataW.weightsEach Try.prog (Try.f8.params.toList ++ Rows.summaryGrowsSpec.plain.varTypes Try.prog) (ds ++ gs)).all (· ≤ reachBytes) = true := hsz0
  rw [Try.params8] at hA hval hsz
  obtain ⟨v0, vs0, d0, ds0, p0, q0, hargs, rfl, rfl, h0, r0⟩ := trodAll_cons hA
  obtain ⟨v1, vs1, d1, ds1, p1, q1, rfl, rfl, rfl, h1, r1⟩ := trodAll_cons r0
  obtain ⟨v2, vs2, d2, ds2, p2, q2, rfl, rfl, rfl, h2, r2⟩ := trodAll_cons r1
  obtain ⟨rfl, rfl, rfl⟩ := trodAll_nil r2
  obtain rfl : args = #[v0, v1, v2] := by cases args; simp_all
  obtain ⟨rfl, rfl⟩ := trodVars_none hV
  obtain ⟨t0, rfl⟩ := open_sum (hval 0 24 v0 rfl rfl) h0
  obtain ⟨t1, rfl⟩ := open_sum (hval 1 24 v1 rfl rfl) h1
  obtain ⟨t2, rfl⟩ := open_sum (hval 2 24 v2 rfl rfl) h2
  clear hA0 hval0 hsz0
  refine (walk t0 t1 t2 W).mono fun e W' ⟨he, hg⟩ => ?_
  subst he
  exact ⟨_, rfl, law_post progLaid hW' rfl (by rw [Try.params8]; intro t ht; simp at ht; subst ht; exact ⟨by kernel_rfl, of_decide_eq_true (by kernel_rfl)⟩) rfl Try.underlying4 rfl hg⟩

theorem over : Rows.summaryGrowsRow.holds Try.pinned (OpenSpec.ofChange Rows.summaryGrowsSpec) :=
  OpenClaim.holds_of_wide 8 Try.f8 rfl rfl rfl rfl rfl rfl rfl ⟨rfl, rfl, rfl, rfl, rfl⟩ rfl rfl rfl rfl rfl (by kernel_rfl) Try.func8 (by kernel_rfl)
    (of_decide_eq_true (by kernel_rfl)) (by unfold Func.isWrapper; first | (rw [if_pos (by decide +kernel)]; kernel_rfl) | (rw [if_neg (by decide +kernel)]; exact ⟨rfl, rfl⟩))
    (fun os started H enc _ => lifted os started H enc)

/-- The statement. -/
theorem proved : Rows.SummaryGrowsSaid :=
  over
end summaryGrows
end Go.Proofs.Ytdpadkellpkppaa
