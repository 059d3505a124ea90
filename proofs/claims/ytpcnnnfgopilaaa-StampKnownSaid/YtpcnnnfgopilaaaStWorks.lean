/- works: the chapter's examples. -/
import Derived.Test.YtpcnnnfgopilaaaStSame
import Derived.Test.YtpcnnnfgopilaaaStStep
import Derived.Test.YtpcnnnfgopilaaaStOut
import Derived.Test.YtpcnnnfgopilaaaStLeq
import Derived.Test.YtpcnnnfgopilaaaStCmpQ
import Derived.Test.YtpcnnnfgopilaaaStRefPut
namespace Go.Proofs.Ytpcnnnfgopilaaa
open Go.ChangeShapes Go.WideShapes Go.ChangeAt Go.RowKit Go.BigFrame
set_option linter.unusedVariables false
def wOne : St := ⟨1, 1, 2, 0, 0⟩
def wTwo : St := ⟨1, 2, 1, 0, 0⟩
def wMeet : St := ⟨1, 1, 1, 0, 0⟩
theorem w_join (w : World) : Calls Try.prog 22 #[.agg #[.int .i64 1, .int .i64 1, .int .i64 2, .int .i64 0, .int .i64 0], .agg #[.int .i64 1, .int .i64 2, .int .i64 1, .int .i64 0, .int .i64 0]] w fun e w' => e = .returned (.tuple #[.agg #[.int .i64 1, .int .i64 2, .int .i64 2, .int .i64 0, .int .i64 0], .bool true]) ∧ Below w.heap.size w w' := by
  have h := join_any wOne wTwo w
  rw [show wOne.join wTwo = ⟨1, 2, 2, 0, 0⟩ by decide, show decide (wOne.B wTwo) = true by decide] at h
  exact h
theorem w_meet (w : World) : Calls Try.prog 24 #[.agg #[.int .i64 1, .int .i64 1, .int .i64 2, .int .i64 0, .int .i64 0], .agg #[.int .i64 1, .int .i64 2, .int .i64 1, .int .i64 0, .int .i64 0]] w fun e w' => e = .returned (.tuple #[.agg #[.int .i64 1, .int .i64 1, .int .i64 1, .int .i64 0, .int .i64 0], .bool true]) ∧ Below w.heap.size w w' := by
  have h := meet_any wOne wTwo w
  rw [show wOne.meet wTwo = ⟨1, 1, 1, 0, 0⟩ by decide, show decide (wOne.B wTwo) = true by decide] at h
  exact h
theorem w_into (w : World) : Calls Try.prog 11 #[.agg #[.int .i64 0, .int .i64 4, .int .i64 0, .int .i64 0, .int .i64 0]] w fun e w' => e = .returned (.tuple #[.agg #[.int .i64 1, .int .i64 4, .int .i64 0, .int .i64 0, .int .i64 0], .bool true]) ∧ Below w.heap.size w w' := by
  have h := into_any ⟨0, 4, 0, 0, 0⟩ w
  rw [show St.into ⟨0, 4, 0, 0, 0⟩ = some ⟨1, 4, 0, 0, 0⟩ by decide] at h
  exact h
theorem w_step (w : World) : Calls Try.prog 15 #[.agg #[.int .i64 1, .int .i64 4, .int .i64 0, .int .i64 0, .int .i64 0]] w fun e w' => e = .returned (.tuple #[.agg #[.int .i64 1, .int .i64 4, .int .i64 1, .int .i64 0, .int .i64 0], .bool true]) ∧ Below w.heap.size w w' := by
  have h := step_any ⟨1, 4, 0, 0, 0⟩ w
  rw [show St.round ⟨1, 4, 0, 0, 0⟩ = some ⟨1, 4, 1, 0, 0⟩ by decide] at h
  exact h
theorem w_out (w : World) : Calls Try.prog 13 #[.agg #[.int .i64 1, .int .i64 4, .int .i64 1, .int .i64 0, .int .i64 0]] w fun e w' => e = .returned (.tuple #[.agg #[.int .i64 0, .int .i64 4, .int .i64 0, .int .i64 0, .int .i64 0], .bool true]) ∧ Below w.heap.size w w' := by
  have h := out_any ⟨1, 4, 1, 0, 0⟩ w
  rw [show St.out ⟨1, 4, 1, 0, 0⟩ = some ⟨0, 4, 0, 0, 0⟩ by decide] at h
  exact h
theorem w_last (w : World) : Calls Try.prog 15 #[.agg #[.int .i64 1, .int .i64 4, .int .i64 15, .int .i64 0, .int .i64 0]] w fun e w' => e = .returned (.tuple #[.agg #[.int .i64 0, .int .i64 0, .int .i64 0, .int .i64 0, .int .i64 0], .bool false]) ∧ Below w.heap.size w w' := by
  have h := step_any ⟨1, 4, 15, 0, 0⟩ w
  rw [show St.round ⟨1, 4, 15, 0, 0⟩ = none by decide] at h
  exact h
theorem w_put (w : World) : Calls Try.prog 17 #[.agg #[.int .i64 1, .int .i64 258, .int .i64 7, .int .i64 0, .int .i64 0]] w fun e w' => ∃ g, e = .returned (.tuple #[.slice (some ⟨g, 0, none⟩) 4 4, .int .i64 0]) ∧ w.heap.size ≤ g ∧ Row w' g 5 (u8s [1, 1, 2, 7]) ∧ Below w.heap.size w w' := by
  have h := put_any ⟨1, 258, 7, 0, 0⟩ w (by decide)
  unfold Made at h
  rw [show St.put ⟨1, 258, 7, 0, 0⟩ = [1, 1, 2, 7] by decide] at h
  exact h
theorem w_leq (w : World) : Calls Try.prog 26 #[.agg #[.int .i64 1, .int .i64 1, .int .i64 2, .int .i64 0, .int .i64 0], .agg #[.int .i64 1, .int .i64 2, .int .i64 1, .int .i64 0, .int .i64 0]] w fun e w' => e = .returned (.bool false) ∧ Below w.heap.size w w' := by
  have h := leq_any wOne wTwo w
  rw [show decide (wOne.L wTwo) = false by decide] at h
  exact h
theorem w_leq2 (w : World) : Calls Try.prog 26 #[.agg #[.int .i64 1, .int .i64 1, .int .i64 1, .int .i64 0, .int .i64 0], .agg #[.int .i64 1, .int .i64 1, .int .i64 2, .int .i64 0, .int .i64 0]] w fun e w' => e = .returned (.bool true) ∧ Below w.heap.size w w' := by
  have h := leq_any wMeet wOne w
  rw [show decide (wMeet.L wOne) = true by decide] at h
  exact h
theorem w_compare (w : World) : Calls Try.prog 28 #[.agg #[.int .i64 1, .int .i64 1, .int .i64 2, .int .i64 0, .int .i64 0], .agg #[.int .i64 1, .int .i64 2, .int .i64 1, .int .i64 0, .int .i64 0]] w fun e w' => e = .returned (.int .i64 (-1)) ∧ Below w.heap.size w w' := by
  have h := compare_any wOne wTwo w
  rw [show wOne.C wTwo = -1 by decide] at h
  exact h
set_option maxRecDepth 100000 in
set_option maxHeartbeats 4000000 in
theorem works_any (w : World) : Calls Try.prog 21 #[] w fun e w' => e = .returned (.bool true) ∧ Below w.heap.size w w' := by
  have h1 : Holds ((w.alloc (.cells #[.int .i64 1, .int .i64 1, .int .i64 2, .int .i64 0, .int .i64 0] 24)).alloc (.cells #[.int .i64 1, .int .i64 2, .int .i64 1, .int .i64 0, .int .i64 0] 24)) w.heap.size ⟨1, 1, 2, 0, 0⟩ := (Holds.made w ⟨1, 1, 2, 0, 0⟩).alloc _
  have h2 : Holds ((w.alloc (.cells #[.int .i64 1, .int .i64 1, .int .i64 2, .int .i64 0, .int .i64 0] 24)).alloc (.cells #[.int .i64 1, .int .i64 2, .int .i64 1, .int .i64 0, .int .i64 0] 24)) (w.heap.size + 1) ⟨1, 2, 1, 0, 0⟩ := by
    have := Holds.made (w.alloc (.cells #[.int .i64 1, .int .i64 1, .int .i64 2, .int .i64 0, .int .i64 0] 24)) ⟨1, 2, 1, 0, 0⟩
    rwa [size_alloc] at this
  have Hone := Lib.hid h1; have Htwo := Lib.hid h2; clear h1 h2
  go_enter Try.func21, Try.ntmps21
  go_wp2_with fail
  refine (w_join _).mono ?_; rintro e w1 ⟨rfl, hb⟩
  have hbw := below2 hb
  have hone := Hone.out.below hb
  have htwo := Htwo.out.below hb
  clear hb Hone Htwo
  have lone := hone.lt
  obtain ⟨cone0, cone1, cone2, cone3, cone4⟩ := hone.cells5
  simp only at cone0 cone1 cone2 cone3 cone4
  have ltwo := htwo.lt
  obtain ⟨ctwo0, ctwo1, ctwo2, ctwo3, ctwo4⟩ := htwo.cells5
  simp only at ctwo0 ctwo1 ctwo2 ctwo3 ctwo4
  have Hone := Lib.hid hone
  have Htwo := Lib.hid htwo
  have HBW := Lib.hid hbw
  clear hbw hone htwo
  go_wp2_with fail
  clear lone ltwo cone0 cone1 cone2 cone3 cone4 ctwo0 ctwo1 ctwo2 ctwo3 ctwo4
  refine (w_meet _).mono ?_; rintro e w2 ⟨rfl, hb⟩
  have hone := (Hone.out.alloc (.cells #[.int .i64 1, .int .i64 2, .int .i64 2, .int .i64 0, .int .i64 0] 24)).below hb
  have htwo := (Htwo.out.alloc (.cells #[.int .i64 1, .int .i64 2, .int .i64 2, .int .i64 0, .int .i64 0] 24)).below hb
  have hbj := (Holds.made w1 ⟨1, 2, 2, 0, 0⟩).below hb
  have hbw := (HBW.out.alloc HBW.out.size (.cells #[.int .i64 1, .int .i64 2, .int .i64 2, .int .i64 0, .int .i64 0] 24)).trans (hb.mono (HBW.out.alloc HBW.out.size _).size)
  clear hb HBW Hone Htwo
  generalize w1.heap.size = gbj at *
  have lone := hone.lt
  have ltwo := htwo.lt
  have lbj := hbj.lt
  have Hone := Lib.hid hone
  have Htwo := Lib.hid htwo
  have Hbj := Lib.hid hbj
  have HBW := Lib.hid hbw
  clear hbw hone htwo hbj
  go_wp2_with fail
  clear lone ltwo lbj
  refine (w_into _).mono ?_; rintro e w3 ⟨rfl, hb⟩
  have hone := (Hone.out.alloc (.cells #[.int .i64 1, .int .i64 1, .int .i64 1, .int .i64 0, .int .i64 0] 24)).below hb
  have htwo := (Htwo.out.alloc (.cells #[.int .i64 1, .int .i64 1, .int .i64 1, .int .i64 0, .int .i64 0] 24)).below hb
  have hbj := (Hbj.out.alloc (.cells #[.int .i64 1, .int .i64 1, .int .i64 1, .int .i64 0, .int .i64 0] 24)).below hb
  have hbm := (Holds.made w2 ⟨1, 1, 1, 0, 0⟩).below hb
  have hbw := (HBW.out.alloc HBW.out.size (.cells #[.int .i64 1, .int .i64 1, .int .i64 1, .int .i64 0, .int .i64 0] 24)).trans (hb.mono (HBW.out.alloc HBW.out.size _).size)
  clear hb HBW Hone Htwo Hbj
  generalize w2.heap.size = gbm at *
  have lone := hone.lt
  have ltwo := htwo.lt
  have lbj := hbj.lt
  have lbm := hbm.lt
  have Hone := Lib.hid hone
  have Htwo := Lib.hid htwo
  have Hbj := Lib.hid hbj
  have Hbm := Lib.hid hbm
  have HBW := Lib.hid hbw
  clear hbw hone htwo hbj hbm
  go_wp2_with fail
  clear lone ltwo lbj lbm
  refine (w_step _).mono ?_; rintro e w4 ⟨rfl, hb⟩
  have hone := (Hone.out.alloc (.cells #[.int .i64 1, .int .i64 4, .int .i64 0, .int .i64 0, .int .i64 0] 24)).below hb
  have htwo := (Htwo.out.alloc (.cells #[.int .i64 1, .int .i64 4, .int .i64 0, .int .i64 0, .int .i64 0] 24)).below hb
  have hbj := (Hbj.out.alloc (.cells #[.int .i64 1, .int .i64 4, .int .i64 0, .int .i64 0, .int .i64 0] 24)).below hb
  have hbm := (Hbm.out.alloc (.cells #[.int .i64 1, .int .i64 4, .int .i64 0, .int .i64 0, .int .i64 0] 24)).below hb
  have hba := (Holds.made w3 ⟨1, 4, 0, 0, 0⟩).below hb
  have hbw := (HBW.out.alloc HBW.out.size (.cells #[.int .i64 1, .int .i64 4, .int .i64 0, .int .i64 0, .int .i64 0] 24)).trans (hb.mono (HBW.out.alloc HBW.out.size _).size)
  clear hb HBW Hone Htwo Hbj Hbm
  generalize w3.heap.size = gba at *
  have lone := hone.lt
  have ltwo := htwo.lt
  have lbj := hbj.lt
  have lbm := hbm.lt
  have lba := hba.lt
  have Hone := Lib.hid hone
  have Htwo := Lib.hid htwo
  have Hbj := Lib.hid hbj
  have Hbm := Lib.hid hbm
  have Hba := Lib.hid hba
  have HBW := Lib.hid hbw
  clear hbw hone htwo hbj hbm hba
  go_wp2_with fail
  clear lone ltwo lbj lbm lba
  refine (w_out _).mono ?_; rintro e w5 ⟨rfl, hb⟩
  have hone := (Hone.out.alloc (.cells #[.int .i64 1, .int .i64 4, .int .i64 1, .int .i64 0, .int .i64 0] 24)).below hb
  have htwo := (Htwo.out.alloc (.cells #[.int .i64 1, .int .i64 4, .int .i64 1, .int .i64 0, .int .i64 0] 24)).below hb
  have hbj := (Hbj.out.alloc (.cells #[.int .i64 1, .int .i64 4, .int .i64 1, .int .i64 0, .int .i64 0] 24)).below hb
  have hbm := (Hbm.out.alloc (.cells #[.int .i64 1, .int .i64 4, .int .i64 1, .int .i64 0, .int .i64 0] 24)).below hb
  have hba := (Hba.out.alloc (.cells #[.int .i64 1, .int .i64 4, .int .i64 1, .int .i64 0, .int .i64 0] 24)).below hb
  have hbb := (Holds.made w4 ⟨1, 4, 1, 0, 0⟩).below hb
  have hbw := (HBW.out.alloc HBW.out.size (.cells #[.int .i64 1, .int .i64 4, .int .i64 1, .int .i64 0, .int .i64 0] 24)).trans (hb.mono (HBW.out.alloc HBW.out.size _).size)
  clear hb HBW Hone Htwo Hbj Hbm Hba
  generalize w4.heap.size = gbb at *
  have lone := hone.lt
  have ltwo := htwo.lt
  have lbj := hbj.lt
  have lbm := hbm.lt
  have lba := hba.lt
  have lbb := hbb.lt
  have Hone := Lib.hid hone
  have Htwo := Lib.hid htwo
  have Hbj := Lib.hid hbj
  have Hbm := Lib.hid hbm
  have Hba := Lib.hid hba
  have Hbb := Lib.hid hbb
  have HBW := Lib.hid hbw
  clear hbw hone htwo hbj hbm hba hbb
  go_wp2_with fail
  clear lone ltwo lbj lbm lba lbb
  refine (w_last _).mono ?_; rintro e w6 ⟨rfl, hb⟩
  have hone := (Hone.out.alloc (.cells #[.int .i64 0, .int .i64 4, .int .i64 0, .int .i64 0, .int .i64 0] 24)).below hb
  have htwo := (Htwo.out.alloc (.cells #[.int .i64 0, .int .i64 4, .int .i64 0, .int .i64 0, .int .i64 0] 24)).below hb
  have hbj := (Hbj.out.alloc (.cells #[.int .i64 0, .int .i64 4, .int .i64 0, .int .i64 0, .int .i64 0] 24)).below hb
  have hbm := (Hbm.out.alloc (.cells #[.int .i64 0, .int .i64 4, .int .i64 0, .int .i64 0, .int .i64 0] 24)).below hb
  have hba := (Hba.out.alloc (.cells #[.int .i64 0, .int .i64 4, .int .i64 0, .int .i64 0, .int .i64 0] 24)).below hb
  have hbb := (Hbb.out.alloc (.cells #[.int .i64 0, .int .i64 4, .int .i64 0, .int .i64 0, .int .i64 0] 24)).below hb
  have hbc := (Holds.made w5 ⟨0, 4, 0, 0, 0⟩).below hb
  have hbw := (HBW.out.alloc HBW.out.size (.cells #[.int .i64 0, .int .i64 4, .int .i64 0, .int .i64 0, .int .i64 0] 24)).trans (hb.mono (HBW.out.alloc HBW.out.size _).size)
  clear hb HBW Hone Htwo Hbj Hbm Hba Hbb
  generalize w5.heap.size = gbc at *
  have lone := hone.lt
  have ltwo := htwo.lt
  have lbj := hbj.lt
  have lbm := hbm.lt
  have lba := hba.lt
  have lbb := hbb.lt
  have lbc := hbc.lt
  have Hone := Lib.hid hone
  have Htwo := Lib.hid htwo
  have Hbj := Lib.hid hbj
  have Hbm := Lib.hid hbm
  have Hba := Lib.hid hba
  have Hbb := Lib.hid hbb
  have Hbc := Lib.hid hbc
  have HBW := Lib.hid hbw
  clear hbw hone htwo hbj hbm hba hbb hbc
  go_wp2_with fail
  clear lone ltwo lbj lbm lba lbb lbc
  refine (w_put _).mono ?_; rintro e w7 ⟨gp, rfl, hgp, hrow, hb⟩
  dsimp only
  have hone := (Hone.out.alloc (.cells #[.int .i64 0, .int .i64 0, .int .i64 0, .int .i64 0, .int .i64 0] 24)).below hb
  have htwo := (Htwo.out.alloc (.cells #[.int .i64 0, .int .i64 0, .int .i64 0, .int .i64 0, .int .i64 0] 24)).below hb
  have hbj := (Hbj.out.alloc (.cells #[.int .i64 0, .int .i64 0, .int .i64 0, .int .i64 0, .int .i64 0] 24)).below hb
  have hbm := (Hbm.out.alloc (.cells #[.int .i64 0, .int .i64 0, .int .i64 0, .int .i64 0, .int .i64 0] 24)).below hb
  have hba := (Hba.out.alloc (.cells #[.int .i64 0, .int .i64 0, .int .i64 0, .int .i64 0, .int .i64 0] 24)).below hb
  have hbb := (Hbb.out.alloc (.cells #[.int .i64 0, .int .i64 0, .int .i64 0, .int .i64 0, .int .i64 0] 24)).below hb
  have hbc := (Hbc.out.alloc (.cells #[.int .i64 0, .int .i64 0, .int .i64 0, .int .i64 0, .int .i64 0] 24)).below hb
  have hbx := (Holds.made w6 ⟨0, 0, 0, 0, 0⟩).below hb
  have hbw := (HBW.out.alloc HBW.out.size (.cells #[.int .i64 0, .int .i64 0, .int .i64 0, .int .i64 0, .int .i64 0] 24)).trans (hb.mono (HBW.out.alloc HBW.out.size _).size)
  clear hb HBW Hone Htwo Hbj Hbm Hba Hbb Hbc
  generalize w6.heap.size = gbx at *
  have lone := hone.lt
  obtain ⟨cone0, cone1, cone2, cone3, cone4⟩ := hone.cells5
  simp only at cone0 cone1 cone2 cone3 cone4
  have ltwo := htwo.lt
  obtain ⟨ctwo0, ctwo1, ctwo2, ctwo3, ctwo4⟩ := htwo.cells5
  simp only at ctwo0 ctwo1 ctwo2 ctwo3 ctwo4
  have lbj := hbj.lt
  obtain ⟨cbj0, cbj1, cbj2, cbj3, cbj4⟩ := hbj.cells5
  simp only at cbj0 cbj1 cbj2 cbj3 cbj4
  have lbm := hbm.lt
  obtain ⟨cbm0, cbm1, cbm2, cbm3, cbm4⟩ := hbm.cells5
  simp only at cbm0 cbm1 cbm2 cbm3 cbm4
  have lba := hba.lt
  obtain ⟨cba0, cba1, cba2, cba3, cba4⟩ := hba.cells5
  simp only at cba0 cba1 cba2 cba3 cba4
  have lbb := hbb.lt
  obtain ⟨cbb0, cbb1, cbb2, cbb3, cbb4⟩ := hbb.cells5
  simp only at cbb0 cbb1 cbb2 cbb3 cbb4
  have lbc := hbc.lt
  obtain ⟨cbc0, cbc1, cbc2, cbc3, cbc4⟩ := hbc.cells5
  simp only at cbc0 cbc1 cbc2 cbc3 cbc4
  have lbx := hbx.lt
  obtain ⟨cbx0, cbx1, cbx2, cbx3, cbx4⟩ := hbx.cells5
  simp only at cbx0 cbx1 cbx2 cbx3 cbx4
  have Hone := Lib.hid hone
  have Htwo := Lib.hid htwo
  have Hbj := Lib.hid hbj
  have Hbm := Lib.hid hbm
  have Hba := Lib.hid hba
  have Hbb := Lib.hid hbb
  have Hbc := Lib.hid hbc
  have Hbx := Lib.hid hbx
  have HBW := Lib.hid hbw
  clear hbw hone htwo hbj hbm hba hbb hbc hbx
  have f0 := Row.lt hrow
  have hE : ∀ w, (Op.equalIn 10000 24 (.agg #[.int .i64 0, .int .i64 4, .int .i64 0, .int .i64 0, .int .i64 0]) (.agg #[.int .i64 0, .int .i64 4, .int .i64 0, .int .i64 0, .int .i64 0])).run Try.prog w = .ok true w := fun w => run_eq5 ⟨0, 4, 0, 0, 0⟩ ⟨0, 4, 0, 0, 0⟩ w
  have hp1 : Bytes w7 (some ⟨gp, 0, none⟩) [1, 1, 2, 7] := Bytes.of_row hrow (by decide)
  have hsame := sameBytes_any [1, 1, 2, 7] [1, 1, 2, 7] (some ⟨gp, 0, none⟩) (some ⟨w7.heap.size, 0, none⟩) 4 4 (w7.alloc (.cells #[.int .u8 1, .int .u8 1, .int .u8 2, .int .u8 7] 5)) (hp1.below ((Below.refl _ _).alloc (Nat.le_refl _) _)) (Bytes.made (xs := [1, 1, 2, 7]) w7 5 (0, 0) (by decide))
  rw [show sameB [1, 1, 2, 7] [1, 1, 2, 7] = true from rfl, show ([1, 1, 2, 7] : List Nat).length = 4 from rfl] at hsame
  have HS := Lib.hid hsame; clear hsame hrow hgp hp1
  have hone := Hone.out.alloc (.cells #[.int .u8 1, .int .u8 1, .int .u8 2, .int .u8 7] 5)
  have htwo := Htwo.out.alloc (.cells #[.int .u8 1, .int .u8 1, .int .u8 2, .int .u8 7] 5)
  have hbm := Hbm.out.alloc (.cells #[.int .u8 1, .int .u8 1, .int .u8 2, .int .u8 7] 5)
  have hbw := HBW.out.alloc HBW.out.size (.cells #[.int .u8 1, .int .u8 1, .int .u8 2, .int .u8 7] 5)
  have HA := Lib.hid hone; have HB := Lib.hid htwo; have HC := Lib.hid hbm; have HD := Lib.hid hbw
  clear hone htwo hbm hbw Hone Htwo Hbj Hbm Hba Hbb Hbc Hbx HBW
  go_wp2_with fail
  refine (HS.out).mono ?_; rintro e w8 ⟨rfl, rfl⟩
  go_wp2_with fail
  refine (w_leq _).mono ?_; rintro e w9 ⟨rfl, hb⟩
  have hone := HA.out.below hb
  have htwo := HB.out.below hb
  have hbm := HC.out.below hb
  have hbw := HD.out.trans (hb.mono HD.out.size)
  clear lone ltwo lbj lbm lba lbb lbc lbx cone0 cone1 cone2 cone3 cone4 ctwo0 ctwo1 ctwo2 ctwo3 ctwo4 cbj0 cbj1 cbj2 cbj3 cbj4 cbm0 cbm1 cbm2 cbm3 cbm4 cba0 cba1 cba2 cba3 cba4 cbb0 cbb1 cbb2 cbb3 cbb4 cbc0 cbc1 cbc2 cbc3 cbc4 cbx0 cbx1 cbx2 cbx3 cbx4
  obtain ⟨c0, c1, c2, c3, c4⟩ := hone.cells5
  obtain ⟨d0, d1, d2, d3, d4⟩ := htwo.cells5
  simp only at c0 c1 c2 c3 c4 d0 d1 d2 d3 d4
  have HA := Lib.hid hone; have HC := Lib.hid hbm; have HD := Lib.hid hbw; clear hone htwo hbm hbw hb
  go_wp2_with fail
  refine (w_compare _).mono ?_; rintro e w10 ⟨rfl, hb⟩
  have hone := HA.out.below hb
  have hbm := HC.out.below hb
  have hbw := HD.out.trans (hb.mono HD.out.size)
  clear c0 c1 c2 c3 c4 d0 d1 d2 d3 d4 hb HA HC HD
  obtain ⟨c0, c1, c2, c3, c4⟩ := hone.cells5
  obtain ⟨d0, d1, d2, d3, d4⟩ := hbm.cells5
  simp only at c0 c1 c2 c3 c4 d0 d1 d2 d3 d4
  have HD := Lib.hid hbw; clear hone hbm hbw
  go_wp2_with fail
  refine (w_leq2 _).mono ?_; rintro e w11 ⟨rfl, hb⟩
  have hbw := HD.out.trans (hb.mono HD.out.size)
  clear c0 c1 c2 c3 c4 d0 d1 d2 d3 d4 hb HD
  go_wp2_with fail
  go_ret
  exact ⟨rfl, hbw⟩
end Go.Proofs.Ytpcnnnfgopilaaa
