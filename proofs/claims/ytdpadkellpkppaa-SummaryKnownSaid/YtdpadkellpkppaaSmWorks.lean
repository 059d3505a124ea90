/- The chapter's examples. -/
import Derived.Test.YtdpadkellpkppaaSmThen
import Derived.Test.YtdpadkellpkppaaSmB
import Derived.Test.YtdpadkellpkppaaSmD
import Derived.Test.YtdpadkellpkppaaSmEq
import Derived.Test.YtdpadkellpkppaaStFrame
namespace Go.Proofs.Ytdpadkellpkppaa
open Go.ChangeShapes Go.WideShapes Go.ChangeAt Go.RowKit Go.BigFrame
set_option linter.unusedVariables false
set_option maxRecDepth 100000
theorem wk_of (k d : Int) (s : Sm) (b : Bool) (h : Sm.of_ k d = s ∧ decide (okOf k d) = b) (w : World) : Calls Try.prog 14 #[.int .u8 k, .int .i64 d] w fun e w' => e = .returned (.tuple #[s.v, .bool b]) ∧ Below w.heap.size w w' := by
  have := of_any k d w; rwa [h.1, h.2] at this
theorem wk_ap (s : Sm) (t u : St) (b : Bool) (h : s.ap t = u ∧ s.apB t = b) (w : World) : Calls Try.prog 11 #[s.v, t.val] w fun e w' => e = .returned (.tuple #[u.val, .bool b]) ∧ Below w.heap.size w w' := by
  have := apply_any s t w; rwa [h.1, h.2] at this
theorem wk_th (s t u : Sm) (b : Bool) (h : s.th t = u ∧ s.thB t = b) (w : World) : Calls Try.prog 19 #[s.v, t.v] w fun e w' => e = .returned (.tuple #[u.v, .bool b]) ∧ Below w.heap.size w w' := by
  have := then_any s t w; rwa [h.1, h.2] at this
theorem wk_leq (s t : Sm) (b : Bool) (h : decide (s.L t) = b) (w : World) : Calls Try.prog 21 #[s.v, t.v] w fun e w' => e = .returned (.bool b) ∧ Below w.heap.size w w' := by
  have := leqM_any s t w; rwa [h] at this
set_option maxHeartbeats 4000000 in
theorem works_any (w : World) : Calls Try.prog 18 #[] w fun e w' => e = .returned (.bool true) ∧ Below w.heap.size w w' := by
  have k1 : ∀ w, Calls Try.prog 14 #[.int .u8 9, .int .i64 1] w fun e w' => e = .returned (.tuple #[.agg #[.int .i64 1, .int .i64 1, .int .i64 1, .int .i64 1, .int .i64 0, .int .i64 0, .int .i64 0], .bool true]) ∧ Below w.heap.size w w' := fun w => by
    have hq := wk_of 9 1 (⟨1, 1, 1, 1, 0, 0, 0⟩ : Sm) true (by decide +kernel) w
    exact hq
  have k2 : ∀ w, Calls Try.prog 14 #[.int .u8 7, .int .i64 1] w fun e w' => e = .returned (.tuple #[.agg #[.int .i64 0, .int .i64 1, .int .i64 0, .int .i64 0, .int .i64 0, .int .i64 0, .int .i64 0], .bool true]) ∧ Below w.heap.size w w' := fun w => by
    have hq := wk_of 7 1 (⟨0, 1, 0, 0, 0, 0, 0⟩ : Sm) true (by decide +kernel) w
    exact hq
  have k3 : ∀ w, Calls Try.prog 14 #[.int .u8 8, .int .i64 0] w fun e w' => e = .returned (.tuple #[.agg #[.int .i64 1, .int .i64 0, .int .i64 0, .int .i64 0, .int .i64 0, .int .i64 0, .int .i64 0], .bool true]) ∧ Below w.heap.size w w' := fun w => by
    have hq := wk_of 8 0 (⟨1, 0, 0, 0, 0, 0, 0⟩ : Sm) true (by decide +kernel) w
    exact hq
  have k4 : ∀ w, Calls Try.prog 11 #[.agg #[.int .i64 1, .int .i64 1, .int .i64 1, .int .i64 1, .int .i64 0, .int .i64 0, .int .i64 0], .agg #[.int .i64 1, .int .i64 4, .int .i64 2, .int .i64 0, .int .i64 0]] w fun e w' => e = .returned (.tuple #[.agg #[.int .i64 1, .int .i64 4, .int .i64 3, .int .i64 0, .int .i64 0], .bool true]) ∧ Below w.heap.size w w' := fun w => by
    have hq := wk_ap (⟨1, 1, 1, 1, 0, 0, 0⟩ : Sm) (⟨1, 4, 2, 0, 0⟩ : St) (⟨1, 4, 3, 0, 0⟩ : St) true (by decide +kernel) w
    exact hq
  have k5 : ∀ w, Calls Try.prog 11 #[.agg #[.int .i64 0, .int .i64 1, .int .i64 0, .int .i64 0, .int .i64 0, .int .i64 0, .int .i64 0], .agg #[.int .i64 0, .int .i64 4, .int .i64 0, .int .i64 0, .int .i64 0]] w fun e w' => e = .returned (.tuple #[.agg #[.int .i64 1, .int .i64 4, .int .i64 0, .int .i64 0, .int .i64 0], .bool true]) ∧ Below w.heap.size w w' := fun w => by
    have hq := wk_ap (⟨0, 1, 0, 0, 0, 0, 0⟩ : Sm) (⟨0, 4, 0, 0, 0⟩ : St) (⟨1, 4, 0, 0, 0⟩ : St) true (by decide +kernel) w
    exact hq
  have k6 : ∀ w, Calls Try.prog 11 #[.agg #[.int .i64 1, .int .i64 0, .int .i64 0, .int .i64 0, .int .i64 0, .int .i64 0, .int .i64 0], .agg #[.int .i64 1, .int .i64 4, .int .i64 2, .int .i64 0, .int .i64 0]] w fun e w' => e = .returned (.tuple #[.agg #[.int .i64 0, .int .i64 4, .int .i64 0, .int .i64 0, .int .i64 0], .bool true]) ∧ Below w.heap.size w w' := fun w => by
    have hq := wk_ap (⟨1, 0, 0, 0, 0, 0, 0⟩ : Sm) (⟨1, 4, 2, 0, 0⟩ : St) (⟨0, 4, 0, 0, 0⟩ : St) true (by decide +kernel) w
    exact hq
  have k7 : ∀ w, Calls Try.prog 11 #[.agg #[.int .i64 1, .int .i64 1, .int .i64 1, .int .i64 1, .int .i64 0, .int .i64 0, .int .i64 0], .agg #[.int .i64 1, .int .i64 4, .int .i64 15, .int .i64 0, .int .i64 0]] w fun e w' => e = .returned (.tuple #[.agg #[.int .i64 0, .int .i64 0, .int .i64 0, .int .i64 0, .int .i64 0], .bool false]) ∧ Below w.heap.size w w' := fun w => by
    have hq := wk_ap (⟨1, 1, 1, 1, 0, 0, 0⟩ : Sm) (⟨1, 4, 15, 0, 0⟩ : St) (⟨0, 0, 0, 0, 0⟩ : St) false (by decide +kernel) w
    exact hq
  have k8 : ∀ w, Calls Try.prog 19 #[.agg #[.int .i64 1, .int .i64 1, .int .i64 1, .int .i64 1, .int .i64 0, .int .i64 0, .int .i64 0], .agg #[.int .i64 1, .int .i64 1, .int .i64 1, .int .i64 1, .int .i64 0, .int .i64 0, .int .i64 0]] w fun e w' => e = .returned (.tuple #[.agg #[.int .i64 1, .int .i64 1, .int .i64 1, .int .i64 2, .int .i64 0, .int .i64 0, .int .i64 0], .bool true]) ∧ Below w.heap.size w w' := fun w => by
    have hq := wk_th (⟨1, 1, 1, 1, 0, 0, 0⟩ : Sm) (⟨1, 1, 1, 1, 0, 0, 0⟩ : Sm) (⟨1, 1, 1, 2, 0, 0, 0⟩ : Sm) true (by decide +kernel) w
    exact hq
  have k9 : ∀ w, Calls Try.prog 19 #[.agg #[.int .i64 1, .int .i64 0, .int .i64 0, .int .i64 0, .int .i64 0, .int .i64 0, .int .i64 0], .agg #[.int .i64 0, .int .i64 1, .int .i64 0, .int .i64 0, .int .i64 0, .int .i64 0, .int .i64 0]] w fun e w' => e = .returned (.tuple #[.agg #[.int .i64 1, .int .i64 1, .int .i64 0, .int .i64 0, .int .i64 0, .int .i64 0, .int .i64 0], .bool true]) ∧ Below w.heap.size w w' := fun w => by
    have hq := wk_th (⟨1, 0, 0, 0, 0, 0, 0⟩ : Sm) (⟨0, 1, 0, 0, 0, 0, 0⟩ : Sm) (⟨1, 1, 0, 0, 0, 0, 0⟩ : Sm) true (by decide +kernel) w
    exact hq
  have k10 : ∀ w, Calls Try.prog 21 #[.agg #[.int .i64 1, .int .i64 1, .int .i64 0, .int .i64 0, .int .i64 0, .int .i64 0, .int .i64 0], .agg #[.int .i64 1, .int .i64 1, .int .i64 1, .int .i64 1, .int .i64 0, .int .i64 0, .int .i64 0]] w fun e w' => e = .returned (.bool true) ∧ Below w.heap.size w w' := fun w => by
    have hq := wk_leq (⟨1, 1, 0, 0, 0, 0, 0⟩ : Sm) (⟨1, 1, 1, 1, 0, 0, 0⟩ : Sm) true (by decide +kernel) w
    exact hq
  have k11 : ∀ w, Calls Try.prog 21 #[.agg #[.int .i64 1, .int .i64 1, .int .i64 1, .int .i64 1, .int .i64 0, .int .i64 0, .int .i64 0], .agg #[.int .i64 1, .int .i64 1, .int .i64 0, .int .i64 0, .int .i64 0, .int .i64 0, .int .i64 0]] w fun e w' => e = .returned (.bool false) ∧ Below w.heap.size w w' := fun w => by
    have hq := wk_leq (⟨1, 1, 1, 1, 0, 0, 0⟩ : Sm) (⟨1, 1, 0, 0, 0, 0, 0⟩ : Sm) false (by decide +kernel) w
    exact hq
  have K1 := Lib.hid k1; have K2 := Lib.hid k2; have K3 := Lib.hid k3; have K4 := Lib.hid k4; have K5 := Lib.hid k5; have K6 := Lib.hid k6; have K7 := Lib.hid k7; have K8 := Lib.hid k8; have K9 := Lib.hid k9; have K10 := Lib.hid k10; have K11 := Lib.hid k11; clear k1 k2 k3 k4 k5 k6 k7 k8 k9 k10 k11
  go_enter Try.func18, Try.ntmps18
  go_wp2_with fail
  have hbw : Below w.heap.size w w := Below.refl _ _
  have HBW := Lib.hid hbw; clear hbw
  refine (K1.out _).mono ?_; rintro e v1 ⟨rfl, hbel⟩
  dsimp only
  have hbw := HBW.out.trans (hbel.mono HBW.out.size); clear HBW hbel
  have HBW := Lib.hid hbw; clear hbw
  go_wp2_with fail
  have hf : HoldsM (v1.alloc (.cells #[.int .i64 1, .int .i64 1, .int .i64 1, .int .i64 1, .int .i64 0, .int .i64 0, .int .i64 0] 24)) v1.heap.size 24 ⟨1, 1, 1, 1, 0, 0, 0⟩ := Row.made v1 _ _
  have hbw := HBW.out.alloc HBW.out.size (.cells #[.int .i64 1, .int .i64 1, .int .i64 1, .int .i64 1, .int .i64 0, .int .i64 0, .int .i64 0] 24); clear HBW
  generalize v1.alloc (.cells #[.int .i64 1, .int .i64 1, .int .i64 1, .int .i64 1, .int .i64 0, .int .i64 0, .int .i64 0] 24) = v2 at *
  generalize v1.heap.size = gf at *
  have Hf := Lib.hid hf; clear hf
  have HBW := Lib.hid hbw; clear hbw
  refine (K2.out _).mono ?_; rintro e v3 ⟨rfl, hbel⟩
  dsimp only
  have hf := Hf.out.below hbel; clear Hf
  have hbw := HBW.out.trans (hbel.mono HBW.out.size); clear HBW hbel
  have Hf := Lib.hid hf; clear hf
  have HBW := Lib.hid hbw; clear hbw
  have lf := Hf.out.lt
  go_wp2_with fail
  clear lf
  have hf := Hf.out.alloc (.cells #[.int .i64 0, .int .i64 1, .int .i64 0, .int .i64 0, .int .i64 0, .int .i64 0, .int .i64 0] 24); clear Hf
  have hi : HoldsM (v3.alloc (.cells #[.int .i64 0, .int .i64 1, .int .i64 0, .int .i64 0, .int .i64 0, .int .i64 0, .int .i64 0] 24)) v3.heap.size 24 ⟨0, 1, 0, 0, 0, 0, 0⟩ := Row.made v3 _ _
  have hbw := HBW.out.alloc HBW.out.size (.cells #[.int .i64 0, .int .i64 1, .int .i64 0, .int .i64 0, .int .i64 0, .int .i64 0, .int .i64 0] 24); clear HBW
  generalize v3.alloc (.cells #[.int .i64 0, .int .i64 1, .int .i64 0, .int .i64 0, .int .i64 0, .int .i64 0, .int .i64 0] 24) = v4 at *
  generalize v3.heap.size = gi at *
  have Hf := Lib.hid hf; clear hf
  have Hi := Lib.hid hi; clear hi
  have HBW := Lib.hid hbw; clear hbw
  refine (K3.out _).mono ?_; rintro e v5 ⟨rfl, hbel⟩
  dsimp only
  have hf := Hf.out.below hbel; clear Hf
  have hi := Hi.out.below hbel; clear Hi
  have hbw := HBW.out.trans (hbel.mono HBW.out.size); clear HBW hbel
  have Hf := Lib.hid hf; clear hf
  have Hi := Lib.hid hi; clear hi
  have HBW := Lib.hid hbw; clear hbw
  have lf := Hf.out.lt
  have li := Hi.out.lt
  obtain ⟨cf0, cf1, cf2, cf3, cf4, cf5, cf6⟩ := Hf.out.cells7
  simp only at cf0 cf1 cf2 cf3 cf4 cf5 cf6
  go_wp2_with fail
  clear lf li cf0 cf1 cf2 cf3 cf4 cf5 cf6
  have hf := (Hf.out.alloc (.cells #[.int .i64 1, .int .i64 0, .int .i64 0, .int .i64 0, .int .i64 0, .int .i64 0, .int .i64 0] 24)).alloc (.cells #[.int .i64 1, .int .i64 4, .int .i64 2, .int .i64 0, .int .i64 0] 26); clear Hf
  have hi := (Hi.out.alloc (.cells #[.int .i64 1, .int .i64 0, .int .i64 0, .int .i64 0, .int .i64 0, .int .i64 0, .int .i64 0] 24)).alloc (.cells #[.int .i64 1, .int .i64 4, .int .i64 2, .int .i64 0, .int .i64 0] 26); clear Hi
  have he : HoldsM ((v5.alloc (.cells #[.int .i64 1, .int .i64 0, .int .i64 0, .int .i64 0, .int .i64 0, .int .i64 0, .int .i64 0] 24)).alloc (.cells #[.int .i64 1, .int .i64 4, .int .i64 2, .int .i64 0, .int .i64 0] 26)) v5.heap.size 24 ⟨1, 0, 0, 0, 0, 0, 0⟩ := Row.alloc (Row.made v5 _ _) _
  have ht : Holds ((v5.alloc (.cells #[.int .i64 1, .int .i64 0, .int .i64 0, .int .i64 0, .int .i64 0, .int .i64 0, .int .i64 0] 24)).alloc (.cells #[.int .i64 1, .int .i64 4, .int .i64 2, .int .i64 0, .int .i64 0] 26)) (v5.heap.size + 1) ⟨1, 4, 2, 0, 0⟩ := made2r v5 _ _ _
  have hbw := (HBW.out.alloc HBW.out.size (.cells #[.int .i64 1, .int .i64 0, .int .i64 0, .int .i64 0, .int .i64 0, .int .i64 0, .int .i64 0] 24)).alloc (HBW.out.alloc HBW.out.size (.cells #[.int .i64 1, .int .i64 0, .int .i64 0, .int .i64 0, .int .i64 0, .int .i64 0, .int .i64 0] 24)).size (.cells #[.int .i64 1, .int .i64 4, .int .i64 2, .int .i64 0, .int .i64 0] 26); clear HBW
  generalize (v5.alloc (.cells #[.int .i64 1, .int .i64 0, .int .i64 0, .int .i64 0, .int .i64 0, .int .i64 0, .int .i64 0] 24)).alloc (.cells #[.int .i64 1, .int .i64 4, .int .i64 2, .int .i64 0, .int .i64 0] 26) = v6 at *
  generalize v5.heap.size = ge at *
  have Hf := Lib.hid hf; clear hf
  have Hi := Lib.hid hi; clear hi
  have He := Lib.hid he; clear he
  have Ht := Lib.hid ht; clear ht
  have HBW := Lib.hid hbw; clear hbw
  refine (K4.out _).mono ?_; rintro e v7 ⟨rfl, hbel⟩
  dsimp only
  have hf := Hf.out.below hbel; clear Hf
  have hi := Hi.out.below hbel; clear Hi
  have he := He.out.below hbel; clear He
  have ht := Ht.out.below hbel; clear Ht
  have hbw := HBW.out.trans (hbel.mono HBW.out.size); clear HBW hbel
  have Hf := Lib.hid hf; clear hf
  have Hi := Lib.hid hi; clear hi
  have He := Lib.hid he; clear he
  have Ht := Lib.hid ht; clear ht
  have HBW := Lib.hid hbw; clear hbw
  have lf := Hf.out.lt
  have li := Hi.out.lt
  have le := He.out.lt
  have lt := Ht.out.lt
  obtain ⟨ci0, ci1, ci2, ci3, ci4, ci5, ci6⟩ := Hi.out.cells7
  simp only at ci0 ci1 ci2 ci3 ci4 ci5 ci6
  go_wp2_with fail
  clear lf li le lt ci0 ci1 ci2 ci3 ci4 ci5 ci6
  have hf := Hf.out.alloc (.cells #[.int .i64 1, .int .i64 4, .int .i64 3, .int .i64 0, .int .i64 0] 26); clear Hf
  have hi := Hi.out.alloc (.cells #[.int .i64 1, .int .i64 4, .int .i64 3, .int .i64 0, .int .i64 0] 26); clear Hi
  have he := He.out.alloc (.cells #[.int .i64 1, .int .i64 4, .int .i64 3, .int .i64 0, .int .i64 0] 26); clear He
  have ht := Ht.out.alloc (.cells #[.int .i64 1, .int .i64 4, .int .i64 3, .int .i64 0, .int .i64 0] 26); clear Ht
  have ha : Holds (v7.alloc (.cells #[.int .i64 1, .int .i64 4, .int .i64 3, .int .i64 0, .int .i64 0] 26)) v7.heap.size ⟨1, 4, 3, 0, 0⟩ := Row.made v7 _ _
  have hbw := HBW.out.alloc HBW.out.size (.cells #[.int .i64 1, .int .i64 4, .int .i64 3, .int .i64 0, .int .i64 0] 26); clear HBW
  generalize v7.alloc (.cells #[.int .i64 1, .int .i64 4, .int .i64 3, .int .i64 0, .int .i64 0] 26) = v8 at *
  generalize v7.heap.size = ga at *
  have Hf := Lib.hid hf; clear hf
  have Hi := Lib.hid hi; clear hi
  have He := Lib.hid he; clear he
  have Ht := Lib.hid ht; clear ht
  have Ha := Lib.hid ha; clear ha
  have HBW := Lib.hid hbw; clear hbw
  refine (K5.out _).mono ?_; rintro e v9 ⟨rfl, hbel⟩
  dsimp only
  have hf := Hf.out.below hbel; clear Hf
  have hi := Hi.out.below hbel; clear Hi
  have he := He.out.below hbel; clear He
  have ht := Ht.out.below hbel; clear Ht
  have ha := Ha.out.below hbel; clear Ha
  have hbw := HBW.out.trans (hbel.mono HBW.out.size); clear HBW hbel
  have Hf := Lib.hid hf; clear hf
  have Hi := Lib.hid hi; clear hi
  have He := Lib.hid he; clear he
  have Ht := Lib.hid ht; clear ht
  have Ha := Lib.hid ha; clear ha
  have HBW := Lib.hid hbw; clear hbw
  have lf := Hf.out.lt
  have li := Hi.out.lt
  have le := He.out.lt
  have lt := Ht.out.lt
  have la := Ha.out.lt
  obtain ⟨ce0, ce1, ce2, ce3, ce4, ce5, ce6⟩ := He.out.cells7
  simp only at ce0 ce1 ce2 ce3 ce4 ce5 ce6
  obtain ⟨ct0, ct1, ct2, ct3, ct4⟩ := Ht.out.c5
  simp only at ct0 ct1 ct2 ct3 ct4
  go_wp2_with fail
  clear lf li le lt la ce0 ce1 ce2 ce3 ce4 ce5 ce6 ct0 ct1 ct2 ct3 ct4
  have hf := Hf.out.alloc (.cells #[.int .i64 1, .int .i64 4, .int .i64 0, .int .i64 0, .int .i64 0] 26); clear Hf
  have hi := Hi.out.alloc (.cells #[.int .i64 1, .int .i64 4, .int .i64 0, .int .i64 0, .int .i64 0] 26); clear Hi
  have he := He.out.alloc (.cells #[.int .i64 1, .int .i64 4, .int .i64 0, .int .i64 0, .int .i64 0] 26); clear He
  have ht := Ht.out.alloc (.cells #[.int .i64 1, .int .i64 4, .int .i64 0, .int .i64 0, .int .i64 0] 26); clear Ht
  have ha := Ha.out.alloc (.cells #[.int .i64 1, .int .i64 4, .int .i64 0, .int .i64 0, .int .i64 0] 26); clear Ha
  have hb : Holds (v9.alloc (.cells #[.int .i64 1, .int .i64 4, .int .i64 0, .int .i64 0, .int .i64 0] 26)) v9.heap.size ⟨1, 4, 0, 0, 0⟩ := Row.made v9 _ _
  have hbw := HBW.out.alloc HBW.out.size (.cells #[.int .i64 1, .int .i64 4, .int .i64 0, .int .i64 0, .int .i64 0] 26); clear HBW
  generalize v9.alloc (.cells #[.int .i64 1, .int .i64 4, .int .i64 0, .int .i64 0, .int .i64 0] 26) = v10 at *
  generalize v9.heap.size = gb at *
  have Hf := Lib.hid hf; clear hf
  have Hi := Lib.hid hi; clear hi
  have He := Lib.hid he; clear he
  have Ht := Lib.hid ht; clear ht
  have Ha := Lib.hid ha; clear ha
  have Hb := Lib.hid hb; clear hb
  have HBW := Lib.hid hbw; clear hbw
  refine (K6.out _).mono ?_; rintro e v11 ⟨rfl, hbel⟩
  dsimp only
  have hf := Hf.out.below hbel; clear Hf
  have hi := Hi.out.below hbel; clear Hi
  have he := He.out.below hbel; clear He
  have ht := Ht.out.below hbel; clear Ht
  have ha := Ha.out.below hbel; clear Ha
  have hb := Hb.out.below hbel; clear Hb
  have hbw := HBW.out.trans (hbel.mono HBW.out.size); clear HBW hbel
  have Hf := Lib.hid hf; clear hf
  have Hi := Lib.hid hi; clear hi
  have He := Lib.hid he; clear he
  have Ht := Lib.hid ht; clear ht
  have Ha := Lib.hid ha; clear ha
  have Hb := Lib.hid hb; clear hb
  have HBW := Lib.hid hbw; clear hbw
  have lf := Hf.out.lt
  have li := Hi.out.lt
  have le := He.out.lt
  have lt := Ht.out.lt
  have la := Ha.out.lt
  have lb := Hb.out.lt
  obtain ⟨cf0, cf1, cf2, cf3, cf4, cf5, cf6⟩ := Hf.out.cells7
  simp only at cf0 cf1 cf2 cf3 cf4 cf5 cf6
  go_wp2_with fail
  clear lf li le lt la lb cf0 cf1 cf2 cf3 cf4 cf5 cf6
  have hf := Hf.out.alloc (.cells #[.int .i64 0, .int .i64 4, .int .i64 0, .int .i64 0, .int .i64 0] 26); clear Hf
  have hi := Hi.out.alloc (.cells #[.int .i64 0, .int .i64 4, .int .i64 0, .int .i64 0, .int .i64 0] 26); clear Hi
  have he := He.out.alloc (.cells #[.int .i64 0, .int .i64 4, .int .i64 0, .int .i64 0, .int .i64 0] 26); clear He
  have ht := Ht.out.alloc (.cells #[.int .i64 0, .int .i64 4, .int .i64 0, .int .i64 0, .int .i64 0] 26); clear Ht
  have ha := Ha.out.alloc (.cells #[.int .i64 0, .int .i64 4, .int .i64 0, .int .i64 0, .int .i64 0] 26); clear Ha
  have hb := Hb.out.alloc (.cells #[.int .i64 0, .int .i64 4, .int .i64 0, .int .i64 0, .int .i64 0] 26); clear Hb
  have hc : Holds (v11.alloc (.cells #[.int .i64 0, .int .i64 4, .int .i64 0, .int .i64 0, .int .i64 0] 26)) v11.heap.size ⟨0, 4, 0, 0, 0⟩ := Row.made v11 _ _
  have hbw := HBW.out.alloc HBW.out.size (.cells #[.int .i64 0, .int .i64 4, .int .i64 0, .int .i64 0, .int .i64 0] 26); clear HBW
  generalize v11.alloc (.cells #[.int .i64 0, .int .i64 4, .int .i64 0, .int .i64 0, .int .i64 0] 26) = v12 at *
  generalize v11.heap.size = gc at *
  have Hf := Lib.hid hf; clear hf
  have Hi := Lib.hid hi; clear hi
  have He := Lib.hid he; clear he
  have Ht := Lib.hid ht; clear ht
  have Ha := Lib.hid ha; clear ha
  have Hb := Lib.hid hb; clear hb
  have Hc := Lib.hid hc; clear hc
  have HBW := Lib.hid hbw; clear hbw
  refine (K7.out _).mono ?_; rintro e v13 ⟨rfl, hbel⟩
  dsimp only
  have hf := Hf.out.below hbel; clear Hf
  have hi := Hi.out.below hbel; clear Hi
  have he := He.out.below hbel; clear He
  have ht := Ht.out.below hbel; clear Ht
  have ha := Ha.out.below hbel; clear Ha
  have hb := Hb.out.below hbel; clear Hb
  have hc := Hc.out.below hbel; clear Hc
  have hbw := HBW.out.trans (hbel.mono HBW.out.size); clear HBW hbel
  have Hf := Lib.hid hf; clear hf
  have Hi := Lib.hid hi; clear hi
  have He := Lib.hid he; clear he
  have Ht := Lib.hid ht; clear ht
  have Ha := Lib.hid ha; clear ha
  have Hb := Lib.hid hb; clear hb
  have Hc := Lib.hid hc; clear hc
  have HBW := Lib.hid hbw; clear hbw
  have lf := Hf.out.lt
  have li := Hi.out.lt
  have le := He.out.lt
  have lt := Ht.out.lt
  have la := Ha.out.lt
  have lb := Hb.out.lt
  have lc := Hc.out.lt
  obtain ⟨cf0, cf1, cf2, cf3, cf4, cf5, cf6⟩ := Hf.out.cells7
  simp only at cf0 cf1 cf2 cf3 cf4 cf5 cf6
  go_wp2_with fail
  clear lf li le lt la lb lc cf0 cf1 cf2 cf3 cf4 cf5 cf6
  have hf := Hf.out.alloc (.cells #[.int .i64 0, .int .i64 0, .int .i64 0, .int .i64 0, .int .i64 0] 26); clear Hf
  have hi := Hi.out.alloc (.cells #[.int .i64 0, .int .i64 0, .int .i64 0, .int .i64 0, .int .i64 0] 26); clear Hi
  have he := He.out.alloc (.cells #[.int .i64 0, .int .i64 0, .int .i64 0, .int .i64 0, .int .i64 0] 26); clear He
  have ht := Ht.out.alloc (.cells #[.int .i64 0, .int .i64 0, .int .i64 0, .int .i64 0, .int .i64 0] 26); clear Ht
  have ha := Ha.out.alloc (.cells #[.int .i64 0, .int .i64 0, .int .i64 0, .int .i64 0, .int .i64 0] 26); clear Ha
  have hb := Hb.out.alloc (.cells #[.int .i64 0, .int .i64 0, .int .i64 0, .int .i64 0, .int .i64 0] 26); clear Hb
  have hc := Hc.out.alloc (.cells #[.int .i64 0, .int .i64 0, .int .i64 0, .int .i64 0, .int .i64 0] 26); clear Hc
  have hz : Holds (v13.alloc (.cells #[.int .i64 0, .int .i64 0, .int .i64 0, .int .i64 0, .int .i64 0] 26)) v13.heap.size ⟨0, 0, 0, 0, 0⟩ := Row.made v13 _ _
  have hbw := HBW.out.alloc HBW.out.size (.cells #[.int .i64 0, .int .i64 0, .int .i64 0, .int .i64 0, .int .i64 0] 26); clear HBW
  generalize v13.alloc (.cells #[.int .i64 0, .int .i64 0, .int .i64 0, .int .i64 0, .int .i64 0] 26) = v14 at *
  generalize v13.heap.size = gz at *
  have Hf := Lib.hid hf; clear hf
  have Hi := Lib.hid hi; clear hi
  have He := Lib.hid he; clear he
  have Ht := Lib.hid ht; clear ht
  have Ha := Lib.hid ha; clear ha
  have Hb := Lib.hid hb; clear hb
  have Hc := Lib.hid hc; clear hc
  have Hz := Lib.hid hz; clear hz
  have HBW := Lib.hid hbw; clear hbw
  refine (K8.out _).mono ?_; rintro e v15 ⟨rfl, hbel⟩
  dsimp only
  have hf := Hf.out.below hbel; clear Hf
  have hi := Hi.out.below hbel; clear Hi
  have he := He.out.below hbel; clear He
  have ht := Ht.out.below hbel; clear Ht
  have ha := Ha.out.below hbel; clear Ha
  have hb := Hb.out.below hbel; clear Hb
  have hc := Hc.out.below hbel; clear Hc
  have hz := Hz.out.below hbel; clear Hz
  have hbw := HBW.out.trans (hbel.mono HBW.out.size); clear HBW hbel
  have Hf := Lib.hid hf; clear hf
  have Hi := Lib.hid hi; clear hi
  have He := Lib.hid he; clear he
  have Ht := Lib.hid ht; clear ht
  have Ha := Lib.hid ha; clear ha
  have Hb := Lib.hid hb; clear hb
  have Hc := Lib.hid hc; clear hc
  have Hz := Lib.hid hz; clear hz
  have HBW := Lib.hid hbw; clear hbw
  have lf := Hf.out.lt
  have li := Hi.out.lt
  have le := He.out.lt
  have lt := Ht.out.lt
  have la := Ha.out.lt
  have lb := Hb.out.lt
  have lc := Hc.out.lt
  have lz := Hz.out.lt
  obtain ⟨ci0, ci1, ci2, ci3, ci4, ci5, ci6⟩ := Hi.out.cells7
  simp only at ci0 ci1 ci2 ci3 ci4 ci5 ci6
  obtain ⟨ce0, ce1, ce2, ce3, ce4, ce5, ce6⟩ := He.out.cells7
  simp only at ce0 ce1 ce2 ce3 ce4 ce5 ce6
  go_wp2_with fail
  clear lf li le lt la lb lc lz ci0 ci1 ci2 ci3 ci4 ci5 ci6 ce0 ce1 ce2 ce3 ce4 ce5 ce6
  have hf := Hf.out.alloc (.cells #[.int .i64 1, .int .i64 1, .int .i64 1, .int .i64 2, .int .i64 0, .int .i64 0, .int .i64 0] 24); clear Hf
  have hi := Hi.out.alloc (.cells #[.int .i64 1, .int .i64 1, .int .i64 1, .int .i64 2, .int .i64 0, .int .i64 0, .int .i64 0] 24); clear Hi
  have he := He.out.alloc (.cells #[.int .i64 1, .int .i64 1, .int .i64 1, .int .i64 2, .int .i64 0, .int .i64 0, .int .i64 0] 24); clear He
  have ht := Ht.out.alloc (.cells #[.int .i64 1, .int .i64 1, .int .i64 1, .int .i64 2, .int .i64 0, .int .i64 0, .int .i64 0] 24); clear Ht
  have ha := Ha.out.alloc (.cells #[.int .i64 1, .int .i64 1, .int .i64 1, .int .i64 2, .int .i64 0, .int .i64 0, .int .i64 0] 24); clear Ha
  have hb := Hb.out.alloc (.cells #[.int .i64 1, .int .i64 1, .int .i64 1, .int .i64 2, .int .i64 0, .int .i64 0, .int .i64 0] 24); clear Hb
  have hc := Hc.out.alloc (.cells #[.int .i64 1, .int .i64 1, .int .i64 1, .int .i64 2, .int .i64 0, .int .i64 0, .int .i64 0] 24); clear Hc
  have hz := Hz.out.alloc (.cells #[.int .i64 1, .int .i64 1, .int .i64 1, .int .i64 2, .int .i64 0, .int .i64 0, .int .i64 0] 24); clear Hz
  have htwo : HoldsM (v15.alloc (.cells #[.int .i64 1, .int .i64 1, .int .i64 1, .int .i64 2, .int .i64 0, .int .i64 0, .int .i64 0] 24)) v15.heap.size 24 ⟨1, 1, 1, 2, 0, 0, 0⟩ := Row.made v15 _ _
  have hbw := HBW.out.alloc HBW.out.size (.cells #[.int .i64 1, .int .i64 1, .int .i64 1, .int .i64 2, .int .i64 0, .int .i64 0, .int .i64 0] 24); clear HBW
  generalize v15.alloc (.cells #[.int .i64 1, .int .i64 1, .int .i64 1, .int .i64 2, .int .i64 0, .int .i64 0, .int .i64 0] 24) = v16 at *
  generalize v15.heap.size = gtwo at *
  have Hf := Lib.hid hf; clear hf
  have Hi := Lib.hid hi; clear hi
  have He := Lib.hid he; clear he
  have Ht := Lib.hid ht; clear ht
  have Ha := Lib.hid ha; clear ha
  have Hb := Lib.hid hb; clear hb
  have Hc := Lib.hid hc; clear hc
  have Hz := Lib.hid hz; clear hz
  have Htwo := Lib.hid htwo; clear htwo
  have HBW := Lib.hid hbw; clear hbw
  refine (K9.out _).mono ?_; rintro e v17 ⟨rfl, hbel⟩
  dsimp only
  have hf := Hf.out.below hbel; clear Hf
  have hi := Hi.out.below hbel; clear Hi
  have he := He.out.below hbel; clear He
  have ht := Ht.out.below hbel; clear Ht
  have ha := Ha.out.below hbel; clear Ha
  have hb := Hb.out.below hbel; clear Hb
  have hc := Hc.out.below hbel; clear Hc
  have hz := Hz.out.below hbel; clear Hz
  have htwo := Htwo.out.below hbel; clear Htwo
  have hbw := HBW.out.trans (hbel.mono HBW.out.size); clear HBW hbel
  have Hf := Lib.hid hf; clear hf
  have Hi := Lib.hid hi; clear hi
  have He := Lib.hid he; clear he
  have Ht := Lib.hid ht; clear ht
  have Ha := Lib.hid ha; clear ha
  have Hb := Lib.hid hb; clear hb
  have Hc := Lib.hid hc; clear hc
  have Hz := Lib.hid hz; clear hz
  have Htwo := Lib.hid htwo; clear htwo
  have HBW := Lib.hid hbw; clear hbw
  have he1 : ∀ w, (Op.equalIn 10000 26 (.agg #[.int .i64 0, .int .i64 4, .int .i64 0, .int .i64 0, .int .i64 0]) (.agg #[.int .i64 0, .int .i64 4, .int .i64 0, .int .i64 0, .int .i64 0])).run Try.prog w = .ok true w := fun w => by
    have hq := run_eq5 (⟨0, 4, 0, 0, 0⟩ : St) (⟨0, 4, 0, 0, 0⟩ : St) w
    rw [decide_eq_true rfl] at hq
    exact hq
  have he2 : ∀ w, (Op.equalIn 10000 24 (.agg #[.int .i64 1, .int .i64 1, .int .i64 1, .int .i64 2, .int .i64 0, .int .i64 0, .int .i64 0]) (.agg #[.int .i64 1, .int .i64 1, .int .i64 1, .int .i64 2, .int .i64 0, .int .i64 0, .int .i64 0])).run Try.prog w = .ok true w := fun w => by
    have hq := run_eq7 (⟨1, 1, 1, 2, 0, 0, 0⟩ : Sm) (⟨1, 1, 1, 2, 0, 0, 0⟩ : Sm) w
    rw [decide_eq_true rfl] at hq
    exact hq
  have he3 : ∀ w, (Op.equalIn 10000 24 (.agg #[.int .i64 1, .int .i64 1, .int .i64 0, .int .i64 0, .int .i64 0, .int .i64 0, .int .i64 0]) (.agg #[.int .i64 1, .int .i64 1, .int .i64 0, .int .i64 0, .int .i64 0, .int .i64 0, .int .i64 0])).run Try.prog w = .ok true w := fun w => by
    have hq := run_eq7 (⟨1, 1, 0, 0, 0, 0, 0⟩ : Sm) (⟨1, 1, 0, 0, 0, 0, 0⟩ : Sm) w
    rw [decide_eq_true rfl] at hq
    exact hq
  have lf := Hf.out.lt
  have li := Hi.out.lt
  have le := He.out.lt
  have lt := Ht.out.lt
  have la := Ha.out.lt
  have lb := Hb.out.lt
  have lc := Hc.out.lt
  have lz := Hz.out.lt
  have ltwo := Htwo.out.lt
  obtain ⟨cf0, cf1, cf2, cf3, cf4, cf5, cf6⟩ := Hf.out.cells7
  simp only at cf0 cf1 cf2 cf3 cf4 cf5 cf6
  obtain ⟨ca0, ca1, ca2, ca3, ca4⟩ := Ha.out.c5
  simp only at ca0 ca1 ca2 ca3 ca4
  obtain ⟨cb0, cb1, cb2, cb3, cb4⟩ := Hb.out.c5
  simp only at cb0 cb1 cb2 cb3 cb4
  obtain ⟨cc0, cc1, cc2, cc3, cc4⟩ := Hc.out.c5
  simp only at cc0 cc1 cc2 cc3 cc4
  obtain ⟨ctwo0, ctwo1, ctwo2, ctwo3, ctwo4, ctwo5, ctwo6⟩ := Htwo.out.cells7
  simp only at ctwo0 ctwo1 ctwo2 ctwo3 ctwo4 ctwo5 ctwo6
  go_wp2_with fail
  clear lf li le lt la lb lc lz ltwo cf0 cf1 cf2 cf3 cf4 cf5 cf6 ca0 ca1 ca2 ca3 ca4 cb0 cb1 cb2 cb3 cb4 cc0 cc1 cc2 cc3 cc4 ctwo0 ctwo1 ctwo2 ctwo3 ctwo4 ctwo5 ctwo6
  have hf := Hf.out.alloc (.cells #[.int .i64 1, .int .i64 1, .int .i64 0, .int .i64 0, .int .i64 0, .int .i64 0, .int .i64 0] 24); clear Hf
  have hi := Hi.out.alloc (.cells #[.int .i64 1, .int .i64 1, .int .i64 0, .int .i64 0, .int .i64 0, .int .i64 0, .int .i64 0] 24); clear Hi
  have he := He.out.alloc (.cells #[.int .i64 1, .int .i64 1, .int .i64 0, .int .i64 0, .int .i64 0, .int .i64 0, .int .i64 0] 24); clear He
  have ht := Ht.out.alloc (.cells #[.int .i64 1, .int .i64 1, .int .i64 0, .int .i64 0, .int .i64 0, .int .i64 0, .int .i64 0] 24); clear Ht
  have ha := Ha.out.alloc (.cells #[.int .i64 1, .int .i64 1, .int .i64 0, .int .i64 0, .int .i64 0, .int .i64 0, .int .i64 0] 24); clear Ha
  have hb := Hb.out.alloc (.cells #[.int .i64 1, .int .i64 1, .int .i64 0, .int .i64 0, .int .i64 0, .int .i64 0, .int .i64 0] 24); clear Hb
  have hc := Hc.out.alloc (.cells #[.int .i64 1, .int .i64 1, .int .i64 0, .int .i64 0, .int .i64 0, .int .i64 0, .int .i64 0] 24); clear Hc
  have hz := Hz.out.alloc (.cells #[.int .i64 1, .int .i64 1, .int .i64 0, .int .i64 0, .int .i64 0, .int .i64 0, .int .i64 0] 24); clear Hz
  have htwo := Htwo.out.alloc (.cells #[.int .i64 1, .int .i64 1, .int .i64 0, .int .i64 0, .int .i64 0, .int .i64 0, .int .i64 0] 24); clear Htwo
  have hanew : HoldsM (v17.alloc (.cells #[.int .i64 1, .int .i64 1, .int .i64 0, .int .i64 0, .int .i64 0, .int .i64 0, .int .i64 0] 24)) v17.heap.size 24 ⟨1, 1, 0, 0, 0, 0, 0⟩ := Row.made v17 _ _
  have hbw := HBW.out.alloc HBW.out.size (.cells #[.int .i64 1, .int .i64 1, .int .i64 0, .int .i64 0, .int .i64 0, .int .i64 0, .int .i64 0] 24); clear HBW
  generalize v17.alloc (.cells #[.int .i64 1, .int .i64 1, .int .i64 0, .int .i64 0, .int .i64 0, .int .i64 0, .int .i64 0] 24) = v18 at *
  generalize v17.heap.size = ganew at *
  have Hf := Lib.hid hf; clear hf
  have Hi := Lib.hid hi; clear hi
  have He := Lib.hid he; clear he
  have Ht := Lib.hid ht; clear ht
  have Ha := Lib.hid ha; clear ha
  have Hb := Lib.hid hb; clear hb
  have Hc := Lib.hid hc; clear hc
  have Hz := Lib.hid hz; clear hz
  have Htwo := Lib.hid htwo; clear htwo
  have Hanew := Lib.hid hanew; clear hanew
  have HBW := Lib.hid hbw; clear hbw
  refine (K10.out _).mono ?_; rintro e v19 ⟨rfl, hbel⟩
  dsimp only
  have hf := Hf.out.below hbel; clear Hf
  have hi := Hi.out.below hbel; clear Hi
  have he := He.out.below hbel; clear He
  have ht := Ht.out.below hbel; clear Ht
  have ha := Ha.out.below hbel; clear Ha
  have hb := Hb.out.below hbel; clear Hb
  have hc := Hc.out.below hbel; clear Hc
  have hz := Hz.out.below hbel; clear Hz
  have htwo := Htwo.out.below hbel; clear Htwo
  have hanew := Hanew.out.below hbel; clear Hanew
  have hbw := HBW.out.trans (hbel.mono HBW.out.size); clear HBW hbel
  have Hf := Lib.hid hf; clear hf
  have Hi := Lib.hid hi; clear hi
  have He := Lib.hid he; clear he
  have Ht := Lib.hid ht; clear ht
  have Ha := Lib.hid ha; clear ha
  have Hb := Lib.hid hb; clear hb
  have Hc := Lib.hid hc; clear hc
  have Hz := Lib.hid hz; clear hz
  have Htwo := Lib.hid htwo; clear htwo
  have Hanew := Lib.hid hanew; clear hanew
  have HBW := Lib.hid hbw; clear hbw
  have lf := Hf.out.lt
  have li := Hi.out.lt
  have le := He.out.lt
  have lt := Ht.out.lt
  have la := Ha.out.lt
  have lb := Hb.out.lt
  have lc := Hc.out.lt
  have lz := Hz.out.lt
  have ltwo := Htwo.out.lt
  have lanew := Hanew.out.lt
  obtain ⟨cf0, cf1, cf2, cf3, cf4, cf5, cf6⟩ := Hf.out.cells7
  simp only at cf0 cf1 cf2 cf3 cf4 cf5 cf6
  obtain ⟨canew0, canew1, canew2, canew3, canew4, canew5, canew6⟩ := Hanew.out.cells7
  simp only at canew0 canew1 canew2 canew3 canew4 canew5 canew6
  go_wp2_with fail
  clear lf li le lt la lb lc lz ltwo lanew cf0 cf1 cf2 cf3 cf4 cf5 cf6 canew0 canew1 canew2 canew3 canew4 canew5 canew6
  refine (K11.out _).mono ?_; rintro e v20 ⟨rfl, hbel⟩
  dsimp only
  have hf := Hf.out.below hbel; clear Hf
  have hi := Hi.out.below hbel; clear Hi
  have he := He.out.below hbel; clear He
  have ht := Ht.out.below hbel; clear Ht
  have ha := Ha.out.below hbel; clear Ha
  have hb := Hb.out.below hbel; clear Hb
  have hc := Hc.out.below hbel; clear Hc
  have hz := Hz.out.below hbel; clear Hz
  have htwo := Htwo.out.below hbel; clear Htwo
  have hanew := Hanew.out.below hbel; clear Hanew
  have hbw := HBW.out.trans (hbel.mono HBW.out.size); clear HBW hbel
  have Hf := Lib.hid hf; clear hf
  have Hi := Lib.hid hi; clear hi
  have He := Lib.hid he; clear he
  have Ht := Lib.hid ht; clear ht
  have Ha := Lib.hid ha; clear ha
  have Hb := Lib.hid hb; clear hb
  have Hc := Lib.hid hc; clear hc
  have Hz := Lib.hid hz; clear hz
  have Htwo := Lib.hid htwo; clear htwo
  have Hanew := Lib.hid hanew; clear hanew
  have HBW := Lib.hid hbw; clear hbw
  have lf := Hf.out.lt
  have li := Hi.out.lt
  have le := He.out.lt
  have lt := Ht.out.lt
  have la := Ha.out.lt
  have lb := Hb.out.lt
  have lc := Hc.out.lt
  have lz := Hz.out.lt
  have ltwo := Htwo.out.lt
  have lanew := Hanew.out.lt
  go_wp2_with fail
  clear lf li le lt la lb lc lz ltwo lanew
  go_ret
  exact ⟨rfl, HBW.out⟩
end Go.Proofs.Ytdpadkellpkppaa
