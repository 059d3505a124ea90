/- FrPaired, FrSame, FrOrder, FrHolds, FrRefRight, FrRefHolds -/
import Derived.Test.YtmhophmpbpbjaaaGreatDoorCa27
import Derived.Test.YtmhophmpbpbjaaaGreatDoorCa9
namespace Go.Proofs.YtmhophmpbpbjaaaGreatDoor
set_option linter.unusedVariables false
section
open Go.ChangeShapes Go.WideShapes Go.ChangeAt Go.RowKit Go.BigFrame
set_option maxRecDepth 100000
noncomputable instance (a b : List St) : Decidable (Alike a b) := Classical.propDecidable _
set_option maxHeartbeats 8000000 in
theorem paired_any (A B : Option Addr) (a b : List St) (c d : Nat) (w : World) (hA : Ts w A a) (hB : Ts w B b) (ha : a.length ≤ 5000000) (hb : b.length ≤ 5000000) (hc : a.length ≤ c) (hd : b.length ≤ d) (hcm : c ≤ maxLen) (hdm : d ≤ maxLen) :
    Calls Tryz.prog 56 #[.slice A a.length c, .slice B b.length d] w fun e w' => e = .returned (.bool (decide (Alike a b))) ∧ Below w.heap.size w w' := by
  have h1 := fun w' hw => right_row_any A a c w' (hA.below hw) ha hc hcm
  have h2 := fun w' hw => right_row_any B b d w' (hB.below hw) hb hd hdm
  by_cases fa : Fr a
  · rw [decide_eq_true fa] at h1
    by_cases fb : Fr b
    · rw [decide_eq_true fb] at h2
      cases a with
      | nil =>
        have hv : decide (Alike [] b) = true := decide_eq_true ⟨fa, fb, fun x hx => absurd hx (by simp)⟩
        have l1 : ((([] : List St).length : Int) == 0) = true := rfl
        rw [hv]; clear hv fa fb
        have H1 := Lib.hid h1; have H2 := Lib.hid h2; have L1 := Lib.hid l1; clear h1 h2 l1 hA hB ha hb hc hd hcm hdm
        generalize ([] : List St).length = n at *
        go_enter Tryz.func56, Tryz.ntmps56
        go_wp2_with fail
        refine wp_region_below (by kernel_rfl) (by kernel_rfl) ?_
        refine wpQuiet_step (fun K hK => ?_); go_simp; (first | (with_reducible refine hK _ ?_) | (with_reducible refine ⟨_, fun _ _ => rfl, hK _ ?_⟩)); clear hK K
        refine wpQuiet_step (fun K hK => ?_); go_simp; (with_reducible refine ⟨_, fun wq hb => (H1.out wq hb).mono fun _ _ h => ⟨h.1, hb.trans (h.2.mono (by simpa using hb.size))⟩, hK _ ?_⟩); clear hK K
        refine wpQuiet_step (fun K hK => ?_); go_simp; (first | (with_reducible refine hK _ ?_) | (with_reducible refine ⟨_, fun _ _ => rfl, hK _ ?_⟩)); clear hK K
        refine wpQuiet_step (fun K hK => ?_); go_simp; (first | (with_reducible refine hK _ ?_) | (with_reducible refine ⟨_, fun _ _ => rfl, hK _ ?_⟩)); clear hK K
        refine wpQuiet_step (fun K hK => ?_); go_simp; (with_reducible refine ⟨_, fun wq hb => (H2.out wq hb).mono fun _ _ h => ⟨h.1, hb.trans (h.2.mono (by simpa using hb.size))⟩, hK _ ?_⟩); clear hK K
        refine wpQuiet_step (fun K hK => ?_); go_simp; (first | (with_reducible refine hK _ ?_) | (with_reducible refine ⟨_, fun _ _ => rfl, hK _ ?_⟩)); clear hK K
        refine wpQuiet_step (fun K hK => ?_); go_simp; (first | (with_reducible refine hK _ ?_) | (with_reducible refine ⟨_, fun _ _ => rfl, hK _ ?_⟩)); clear hK K
        refine wpQuiet_step (fun K hK => ?_); go_simp; (first | (with_reducible refine hK _ ?_) | (with_reducible refine ⟨_, fun _ _ => rfl, hK _ ?_⟩)); clear hK K
        refine wpQuiet_step (fun K hK => ?_); go_simp; (first | (with_reducible refine hK _ ?_) | (with_reducible refine ⟨_, fun _ _ => rfl, hK _ ?_⟩)); clear hK K
        refine wpQuiet_step (fun K hK => ?_); refine q_bin _ _ _ _ _ rfl rfl rfl rfl (eqi_is L1.out) ?_; go_simp; (with_reducible refine hK _ ?_); clear hK K
        refine wpQuiet_step (fun K hK => ?_); go_simp; (try (with_reducible refine ⟨_, fun _ _ => rfl, ?_⟩)); generalize hA : ({ tmps := _, defers := _ } : Act) = A; (with_reducible refine hK A ?_); clear hK K
        refine wpQuiet_step (fun K hK => ?_); subst hA; go_simp; (try (with_reducible refine ⟨_, fun _ _ => rfl, ?_⟩)); generalize hA : ({ tmps := _, defers := _ } : Act) = A; (with_reducible refine hK A ?_); clear hK K
        refine wpQuiet_step (fun K hK => ?_); subst hA; go_simp; (try (with_reducible refine ⟨_, fun _ _ => rfl, ?_⟩)); generalize hA : ({ tmps := _, defers := _ } : Act) = A; (with_reducible refine hK A ?_); clear hK K
        refine wpQuiet_step (fun K hK => ?_); subst hA; go_simp; (try (with_reducible refine ⟨_, fun _ _ => rfl, ?_⟩)); generalize hA : ({ tmps := _, defers := _ } : Act) = A; (with_reducible refine hK A ?_); clear hK K
        refine wpQuiet_step (fun K hK => ?_); subst hA; go_simp; (first | (with_reducible refine hK _ ?_) | (with_reducible refine ⟨_, fun _ _ => rfl, hK _ ?_⟩)); clear hK K
        refine wpQuiet_step (fun K hK => ?_); go_simp; (try (with_reducible refine ⟨_, fun _ _ => rfl, ?_⟩)); generalize hA : ({ tmps := _, defers := _ } : Act) = A; (with_reducible refine hK A ?_); clear hK K
        refine wpQuiet_step (fun K hK => ?_); subst hA; go_simp; (try (with_reducible refine ⟨_, fun _ _ => rfl, ?_⟩)); generalize hA : ({ tmps := _, defers := _ } : Act) = A; (with_reducible refine hK A ?_); clear hK K
        refine wpQuiet_step (fun K hK => ?_); subst hA; go_simp; (try (with_reducible refine ⟨_, fun _ _ => rfl, ?_⟩)); generalize hA : ({ tmps := _, defers := _ } : Act) = A; (with_reducible refine hK A ?_); clear hK K
        refine wpQuiet_step (fun K hK => ?_); subst hA; go_simp; (try (with_reducible refine ⟨_, fun _ _ => rfl, ?_⟩)); generalize hA : ({ tmps := _, defers := _ } : Act) = A; (with_reducible refine hK A ?_); clear hK K
        refine wpQuiet_step (fun K hK => ?_); subst hA; go_simp; (try (with_reducible refine ⟨_, fun _ _ => rfl, ?_⟩)); generalize hA : ({ tmps := _, defers := _ } : Act) = A; (with_reducible refine hK A ?_); clear hK K
        refine wpQuiet_step (fun K hK => ?_); subst hA; go_simp; (try (with_reducible refine ⟨_, fun _ _ => rfl, ?_⟩)); generalize hA : ({ tmps := _, defers := _ } : Act) = A; (with_reducible refine hK A ?_); clear hK K
        refine wpQuiet_step (fun K hK => ?_); subst hA; go_simp; (try (with_reducible refine ⟨_, fun _ _ => rfl, ?_⟩)); generalize hA : ({ tmps := _, defers := _ } : Act) = A; (with_reducible refine hK A ?_); clear hK K
        refine wpQuiet_step (fun K hK => ?_); subst hA; go_simp; (try (with_reducible refine ⟨_, fun _ _ => rfl, ?_⟩)); generalize hA : ({ tmps := _, defers := _ } : Act) = A; (with_reducible refine hK A ?_); clear hK K
        refine wpQuiet_step (fun K hK => ?_); subst hA; go_simp; (try (with_reducible refine ⟨_, fun _ _ => rfl, ?_⟩)); generalize hA : ({ tmps := _, defers := _ } : Act) = A; (with_reducible refine hK A ?_); clear hK K
        refine wpQuiet_step (fun K hK => ?_); subst hA; go_simp; (try (with_reducible refine ⟨_, fun _ _ => rfl, ?_⟩)); generalize hA : ({ tmps := _, defers := _ } : Act) = A; (with_reducible refine hK A ?_); clear hK K
        refine wpQuiet_step (fun K hK => ?_); subst hA; go_simp; (first | (with_reducible refine hK _ ?_) | (with_reducible refine ⟨_, fun _ _ => rfl, hK _ ?_⟩)); clear hK K
        refine wpQuiet_step (fun K hK => ?_); go_simp; (first | (with_reducible refine hK _ ?_) | (with_reducible refine ⟨_, fun _ _ => rfl, hK _ ?_⟩)); clear hK K
        refine wpQuiet_step (fun K hK => ?_); go_simp; (first | (with_reducible refine hK _ ?_) | (with_reducible refine ⟨_, fun _ _ => rfl, hK _ ?_⟩)); clear hK K
        refine wpQuiet_nil ?_
        intro w1 hb1
        go_wp2_with fail
        go_ret
        exact ⟨rfl, hb1⟩
      | cons x a =>
        cases b with
        | nil =>
          have hv : decide (Alike (x :: a) []) = true := decide_eq_true ⟨fa, fb, fun x hx y hy => absurd hy (by simp)⟩
          have l1 : (((x :: a).length : Int) == 0) = false := by rw [beq_eq_false_iff_ne, List.length_cons]; omega
          have l2 : ((([] : List St).length : Int) == 0) = true := rfl
          rw [hv]; clear hv fa fb
          have H1 := Lib.hid h1; have H2 := Lib.hid h2; have L1 := Lib.hid l1; have L2 := Lib.hid l2; clear h1 h2 l1 l2 hA hB ha hb hc hd hcm hdm
          generalize ([] : List St).length = n at *
          generalize (x :: a).length = m at *
          go_enter Tryz.func56, Tryz.ntmps56
          go_wp2_with fail
          refine wp_region_below (by kernel_rfl) (by kernel_rfl) ?_
          refine wpQuiet_step (fun K hK => ?_); go_simp; (first | (with_reducible refine hK _ ?_) | (with_reducible refine ⟨_, fun _ _ => rfl, hK _ ?_⟩)); clear hK K
          refine wpQuiet_step (fun K hK => ?_); go_simp; (with_reducible refine ⟨_, fun wq hb => (H1.out wq hb).mono fun _ _ h => ⟨h.1, hb.trans (h.2.mono (by simpa using hb.size))⟩, hK _ ?_⟩); clear hK K
          refine wpQuiet_step (fun K hK => ?_); go_simp; (first | (with_reducible refine hK _ ?_) | (with_reducible refine ⟨_, fun _ _ => rfl, hK _ ?_⟩)); clear hK K
          refine wpQuiet_step (fun K hK => ?_); go_simp; (first | (with_reducible refine hK _ ?_) | (with_reducible refine ⟨_, fun _ _ => rfl, hK _ ?_⟩)); clear hK K
          refine wpQuiet_step (fun K hK => ?_); go_simp; (with_reducible refine ⟨_, fun wq hb => (H2.out wq hb).mono fun _ _ h => ⟨h.1, hb.trans (h.2.mono (by simpa using hb.size))⟩, hK _ ?_⟩); clear hK K
          refine wpQuiet_step (fun K hK => ?_); go_simp; (first | (with_reducible refine hK _ ?_) | (with_reducible refine ⟨_, fun _ _ => rfl, hK _ ?_⟩)); clear hK K
          refine wpQuiet_step (fun K hK => ?_); go_simp; (first | (with_reducible refine hK _ ?_) | (with_reducible refine ⟨_, fun _ _ => rfl, hK _ ?_⟩)); clear hK K
          refine wpQuiet_step (fun K hK => ?_); go_simp; (first | (with_reducible refine hK _ ?_) | (with_reducible refine ⟨_, fun _ _ => rfl, hK _ ?_⟩)); clear hK K
          refine wpQuiet_step (fun K hK => ?_); go_simp; (first | (with_reducible refine hK _ ?_) | (with_reducible refine ⟨_, fun _ _ => rfl, hK _ ?_⟩)); clear hK K
          refine wpQuiet_step (fun K hK => ?_); refine q_bin _ _ _ _ _ rfl rfl rfl rfl (eqi_is L1.out) ?_; go_simp; (with_reducible refine hK _ ?_); clear hK K
          refine wpQuiet_step (fun K hK => ?_); go_simp; (first | (with_reducible refine hK _ ?_) | (with_reducible refine ⟨_, fun _ _ => rfl, hK _ ?_⟩)); clear hK K
          refine wpQuiet_step (fun K hK => ?_); go_simp; (first | (with_reducible refine hK _ ?_) | (with_reducible refine ⟨_, fun _ _ => rfl, hK _ ?_⟩)); clear hK K
          refine wpQuiet_step (fun K hK => ?_); go_simp; (first | (with_reducible refine hK _ ?_) | (with_reducible refine ⟨_, fun _ _ => rfl, hK _ ?_⟩)); clear hK K
          refine wpQuiet_step (fun K hK => ?_); refine q_bin _ _ _ _ _ rfl rfl rfl rfl (eqi_is L2.out) ?_; go_simp; (with_reducible refine hK _ ?_); clear hK K
          refine wpQuiet_step (fun K hK => ?_); go_simp; (first | (with_reducible refine hK _ ?_) | (with_reducible refine ⟨_, fun _ _ => rfl, hK _ ?_⟩)); clear hK K
          refine wpQuiet_step (fun K hK => ?_); go_simp; (try (with_reducible refine ⟨_, fun _ _ => rfl, ?_⟩)); generalize hA : ({ tmps := _, defers := _ } : Act) = A; (with_reducible refine hK A ?_); clear hK K
          refine wpQuiet_step (fun K hK => ?_); subst hA; go_simp; (try (with_reducible refine ⟨_, fun _ _ => rfl, ?_⟩)); generalize hA : ({ tmps := _, defers := _ } : Act) = A; (with_reducible refine hK A ?_); clear hK K
          refine wpQuiet_step (fun K hK => ?_); subst hA; go_simp; (try (with_reducible refine ⟨_, fun _ _ => rfl, ?_⟩)); generalize hA : ({ tmps := _, defers := _ } : Act) = A; (with_reducible refine hK A ?_); clear hK K
          refine wpQuiet_step (fun K hK => ?_); subst hA; go_simp; (try (with_reducible refine ⟨_, fun _ _ => rfl, ?_⟩)); generalize hA : ({ tmps := _, defers := _ } : Act) = A; (with_reducible refine hK A ?_); clear hK K
          refine wpQuiet_step (fun K hK => ?_); subst hA; go_simp; (try (with_reducible refine ⟨_, fun _ _ => rfl, ?_⟩)); generalize hA : ({ tmps := _, defers := _ } : Act) = A; (with_reducible refine hK A ?_); clear hK K
          refine wpQuiet_step (fun K hK => ?_); subst hA; go_simp; (try (with_reducible refine ⟨_, fun _ _ => rfl, ?_⟩)); generalize hA : ({ tmps := _, defers := _ } : Act) = A; (with_reducible refine hK A ?_); clear hK K
          refine wpQuiet_step (fun K hK => ?_); subst hA; go_simp; (try (with_reducible refine ⟨_, fun _ _ => rfl, ?_⟩)); generalize hA : ({ tmps := _, defers := _ } : Act) = A; (with_reducible refine hK A ?_); clear hK K
          refine wpQuiet_step (fun K hK => ?_); subst hA; go_simp; (try (with_reducible refine ⟨_, fun _ _ => rfl, ?_⟩)); generalize hA : ({ tmps := _, defers := _ } : Act) = A; (with_reducible refine hK A ?_); clear hK K
          refine wpQuiet_step (fun K hK => ?_); subst hA; go_simp; (try (with_reducible refine ⟨_, fun _ _ => rfl, ?_⟩)); generalize hA : ({ tmps := _, defers := _ } : Act) = A; (with_reducible refine hK A ?_); clear hK K
          refine wpQuiet_step (fun K hK => ?_); subst hA; go_simp; (try (with_reducible refine ⟨_, fun _ _ => rfl, ?_⟩)); generalize hA : ({ tmps := _, defers := _ } : Act) = A; (with_reducible refine hK A ?_); clear hK K
          refine wpQuiet_step (fun K hK => ?_); subst hA; go_simp; (first | (with_reducible refine hK _ ?_) | (with_reducible refine ⟨_, fun _ _ => rfl, hK _ ?_⟩)); clear hK K
          refine wpQuiet_step (fun K hK => ?_); go_simp; (first | (with_reducible refine hK _ ?_) | (with_reducible refine ⟨_, fun _ _ => rfl, hK _ ?_⟩)); clear hK K
          refine wpQuiet_step (fun K hK => ?_); go_simp; (first | (with_reducible refine hK _ ?_) | (with_reducible refine ⟨_, fun _ _ => rfl, hK _ ?_⟩)); clear hK K
          refine wpQuiet_nil ?_
          intro w1 hb1
          go_wp2_with fail
          go_ret
          exact ⟨rfl, hb1⟩
        | cons y b =>
          have hv : decide (Alike (x :: a) (y :: b)) = (x.d == y.d) := by
            rw [Bool.eq_iff_iff, decide_eq_true_iff, beq_iff_eq]
            exact ⟨fun h => h.2.2 x List.mem_cons_self y List.mem_cons_self, fun h => ⟨fa, fb, fun p hp q hq => (fa.depth p hp x List.mem_cons_self).trans (h.trans (fb.depth y List.mem_cons_self q hq))⟩⟩
          have l1 : (((x :: a).length : Int) == 0) = false := by rw [beq_eq_false_iff_ne, List.length_cons]; omega
          have l2 : (((y :: b).length : Int) == 0) = false := by rw [beq_eq_false_iff_ne, List.length_cons]; omega
          have m1 : 0 < (x :: a).length := by simp
          have m2 : 0 < (y :: b).length := by simp
          obtain ⟨p, q, rfl, hpl, hp⟩ := hA.first
          obtain ⟨r, s, rfl, hrl, hr⟩ := hB.first
          rw [hv]; clear hv fa fb
          generalize hv : (x.d == y.d) = v at *
          have H1 := Lib.hid h1; have H2 := Lib.hid h2; have L1 := Lib.hid l1; have L2 := Lib.hid l2; have HP := Lib.hid (And.intro hpl hp); have HR := Lib.hid (And.intro hrl hr); have HV := Lib.hid hv; clear h1 h2 l1 l2 hA hB ha hb hc hd hcm hdm hpl hp hrl hr hv
          generalize (y :: b).length = n at *
          generalize (x :: a).length = m at *
          go_enter Tryz.func56, Tryz.ntmps56
          go_wp2_with fail
          refine wp_region_below (by kernel_rfl) (by kernel_rfl) ?_
          refine wpQuiet_step (fun K hK => ?_); go_simp; (first | (with_reducible refine hK _ ?_) | (with_reducible refine ⟨_, fun _ _ => rfl, hK _ ?_⟩)); clear hK K
          refine wpQuiet_step (fun K hK => ?_); go_simp; (with_reducible refine ⟨_, fun wq hb => (H1.out wq hb).mono fun _ _ h => ⟨h.1, hb.trans (h.2.mono (by simpa using hb.size))⟩, hK _ ?_⟩); clear hK K
          refine wpQuiet_step (fun K hK => ?_); go_simp; (first | (with_reducible refine hK _ ?_) | (with_reducible refine ⟨_, fun _ _ => rfl, hK _ ?_⟩)); clear hK K
          refine wpQuiet_step (fun K hK => ?_); go_simp; (first | (with_reducible refine hK _ ?_) | (with_reducible refine ⟨_, fun _ _ => rfl, hK _ ?_⟩)); clear hK K
          refine wpQuiet_step (fun K hK => ?_); go_simp; (with_reducible refine ⟨_, fun wq hb => (H2.out wq hb).mono fun _ _ h => ⟨h.1, hb.trans (h.2.mono (by simpa using hb.size))⟩, hK _ ?_⟩); clear hK K
          refine wpQuiet_step (fun K hK => ?_); go_simp; (first | (with_reducible refine hK _ ?_) | (with_reducible refine ⟨_, fun _ _ => rfl, hK _ ?_⟩)); clear hK K
          refine wpQuiet_step (fun K hK => ?_); go_simp; (first | (with_reducible refine hK _ ?_) | (with_reducible refine ⟨_, fun _ _ => rfl, hK _ ?_⟩)); clear hK K
          refine wpQuiet_step (fun K hK => ?_); go_simp; (first | (with_reducible refine hK _ ?_) | (with_reducible refine ⟨_, fun _ _ => rfl, hK _ ?_⟩)); clear hK K
          refine wpQuiet_step (fun K hK => ?_); go_simp; (first | (with_reducible refine hK _ ?_) | (with_reducible refine ⟨_, fun _ _ => rfl, hK _ ?_⟩)); clear hK K
          refine wpQuiet_step (fun K hK => ?_); refine q_bin _ _ _ _ _ rfl rfl rfl rfl (eqi_is L1.out) ?_; go_simp; (with_reducible refine hK _ ?_); clear hK K
          refine wpQuiet_step (fun K hK => ?_); go_simp; (first | (with_reducible refine hK _ ?_) | (with_reducible refine ⟨_, fun _ _ => rfl, hK _ ?_⟩)); clear hK K
          refine wpQuiet_step (fun K hK => ?_); go_simp; (first | (with_reducible refine hK _ ?_) | (with_reducible refine ⟨_, fun _ _ => rfl, hK _ ?_⟩)); clear hK K
          refine wpQuiet_step (fun K hK => ?_); go_simp; (first | (with_reducible refine hK _ ?_) | (with_reducible refine ⟨_, fun _ _ => rfl, hK _ ?_⟩)); clear hK K
          refine wpQuiet_step (fun K hK => ?_); refine q_bin _ _ _ _ _ rfl rfl rfl rfl (eqi_is L2.out) ?_; go_simp; (with_reducible refine hK _ ?_); clear hK K
          refine wpQuiet_step (fun K hK => ?_); go_simp; (first | (with_reducible refine hK _ ?_) | (with_reducible refine ⟨_, fun _ _ => rfl, hK _ ?_⟩)); clear hK K
          refine wpQuiet_step (fun K hK => ?_); go_simp; (first | (with_reducible refine hK _ ?_) | (with_reducible refine ⟨_, fun _ _ => rfl, hK _ ?_⟩)); clear hK K
          refine wpQuiet_step (fun K hK => ?_); go_simp; (first | (with_reducible refine hK _ ?_) | (with_reducible refine ⟨_, fun _ _ => rfl, hK _ ?_⟩)); clear hK K
          refine wpQuiet_step (fun K hK => ?_); go_simp; (first | (with_reducible refine hK _ ?_) | (with_reducible refine ⟨_, fun _ _ => rfl, hK _ ?_⟩)); clear hK K
          refine wpQuiet_step (fun K hK => ?_); go_simp; (first | (with_reducible refine hK _ ?_) | (with_reducible refine ⟨_, fun _ _ => rfl, hK _ ?_⟩)); clear hK K
          refine wpQuiet_step (fun K hK => ?_); refine q_load (p := .pointer (some ⟨p, q, none⟩)) 3 _ rfl rfl rfl (load_at HP.out.1 HP.out.2) ?_; go_simp; (with_reducible refine hK _ ?_); clear hK K
          refine wpQuiet_step (fun K hK => ?_); go_simp; (first | (with_reducible refine hK _ ?_) | (with_reducible refine ⟨_, fun _ _ => rfl, hK _ ?_⟩)); clear hK K
          refine wpQuiet_step (fun K hK => ?_); go_simp; (first | (with_reducible refine hK _ ?_) | (with_reducible refine ⟨_, fun _ _ => rfl, hK _ ?_⟩)); clear hK K
          refine wpQuiet_step (fun K hK => ?_); go_simp; (first | (with_reducible refine hK _ ?_) | (with_reducible refine ⟨_, fun _ _ => rfl, hK _ ?_⟩)); clear hK K
          refine wpQuiet_step (fun K hK => ?_); refine q_load (p := .pointer (some ⟨r, s, none⟩)) 3 _ rfl rfl rfl (load_at HR.out.1 HR.out.2) ?_; go_simp; (with_reducible refine hK _ ?_); clear hK K
          refine wpQuiet_step (fun K hK => ?_); refine q_bin _ _ _ _ _ rfl rfl rfl rfl (eqi_is HV.out) ?_; go_simp; (with_reducible refine hK _ ?_); clear hK K
          refine wpQuiet_step (fun K hK => ?_); go_simp; (first | (with_reducible refine hK _ ?_) | (with_reducible refine ⟨_, fun _ _ => rfl, hK _ ?_⟩)); clear hK K
          refine wpQuiet_step (fun K hK => ?_); go_simp; (first | (with_reducible refine hK _ ?_) | (with_reducible refine ⟨_, fun _ _ => rfl, hK _ ?_⟩)); clear hK K
          refine wpQuiet_step (fun K hK => ?_); go_simp; (first | (with_reducible refine hK _ ?_) | (with_reducible refine ⟨_, fun _ _ => rfl, hK _ ?_⟩)); clear hK K
          refine wpQuiet_nil ?_
          intro w1 hb1
          go_wp2_with fail
          go_ret
          exact ⟨rfl, hb1⟩
    · rw [decide_eq_false fb] at h2
      have hv : decide (Alike a b) = false := decide_eq_false fun h => fb h.2.1
      rw [hv]; clear hv fa fb
      have H1 := Lib.hid h1; have H2 := Lib.hid h2; clear h1 h2 hA hB ha hb hc hd hcm hdm
      generalize b.length = n at *
      generalize a.length = m at *
      go_enter Tryz.func56, Tryz.ntmps56
      go_wp2_with fail
      refine wp_region_below (by kernel_rfl) (by kernel_rfl) ?_
      refine wpQuiet_step (fun K hK => ?_); go_simp; (first | (with_reducible refine hK _ ?_) | (with_reducible refine ⟨_, fun _ _ => rfl, hK _ ?_⟩)); clear hK K
      refine wpQuiet_step (fun K hK => ?_); go_simp; (with_reducible refine ⟨_, fun wq hb => (H1.out wq hb).mono fun _ _ h => ⟨h.1, hb.trans (h.2.mono (by simpa using hb.size))⟩, hK _ ?_⟩); clear hK K
      refine wpQuiet_step (fun K hK => ?_); go_simp; (first | (with_reducible refine hK _ ?_) | (with_reducible refine ⟨_, fun _ _ => rfl, hK _ ?_⟩)); clear hK K
      refine wpQuiet_step (fun K hK => ?_); go_simp; (first | (with_reducible refine hK _ ?_) | (with_reducible refine ⟨_, fun _ _ => rfl, hK _ ?_⟩)); clear hK K
      refine wpQuiet_step (fun K hK => ?_); go_simp; (with_reducible refine ⟨_, fun wq hb => (H2.out wq hb).mono fun _ _ h => ⟨h.1, hb.trans (h.2.mono (by simpa using hb.size))⟩, hK _ ?_⟩); clear hK K
      refine wpQuiet_step (fun K hK => ?_); go_simp; (first | (with_reducible refine hK _ ?_) | (with_reducible refine ⟨_, fun _ _ => rfl, hK _ ?_⟩)); clear hK K
      refine wpQuiet_step (fun K hK => ?_); go_simp; (try (with_reducible refine ⟨_, fun _ _ => rfl, ?_⟩)); generalize hA : ({ tmps := _, defers := _ } : Act) = A; (with_reducible refine hK A ?_); clear hK K
      refine wpQuiet_step (fun K hK => ?_); subst hA; go_simp; (try (with_reducible refine ⟨_, fun _ _ => rfl, ?_⟩)); generalize hA : ({ tmps := _, defers := _ } : Act) = A; (with_reducible refine hK A ?_); clear hK K
      refine wpQuiet_step (fun K hK => ?_); subst hA; go_simp; (try (with_reducible refine ⟨_, fun _ _ => rfl, ?_⟩)); generalize hA : ({ tmps := _, defers := _ } : Act) = A; (with_reducible refine hK A ?_); clear hK K
      refine wpQuiet_step (fun K hK => ?_); subst hA; go_simp; (try (with_reducible refine ⟨_, fun _ _ => rfl, ?_⟩)); generalize hA : ({ tmps := _, defers := _ } : Act) = A; (with_reducible refine hK A ?_); clear hK K
      refine wpQuiet_step (fun K hK => ?_); subst hA; go_simp; (try (with_reducible refine ⟨_, fun _ _ => rfl, ?_⟩)); generalize hA : ({ tmps := _, defers := _ } : Act) = A; (with_reducible refine hK A ?_); clear hK K
      refine wpQuiet_step (fun K hK => ?_); subst hA; go_simp; generalize hA : ({ tmps := _, defers := _ } : Act) = A; rw [if_neg (by simp [undef])]; (with_reducible refine hK A ?_); clear hK K
      refine wpQuiet_step (fun K hK => ?_); subst hA; go_simp; generalize hA : ({ tmps := _, defers := _ } : Act) = A; rw [if_neg (by simp [undef])]; (with_reducible refine hK A ?_); clear hK K
      refine wpQuiet_step (fun K hK => ?_); subst hA; go_simp; generalize hA : ({ tmps := _, defers := _ } : Act) = A; rw [if_neg (by simp [undef])]; (with_reducible refine hK A ?_); clear hK K
      refine wpQuiet_step (fun K hK => ?_); subst hA; go_simp; (try (with_reducible refine ⟨_, fun _ _ => rfl, ?_⟩)); generalize hA : ({ tmps := _, defers := _ } : Act) = A; (with_reducible refine hK A ?_); clear hK K
      refine wpQuiet_step (fun K hK => ?_); subst hA; go_simp; (try (with_reducible refine ⟨_, fun _ _ => rfl, ?_⟩)); generalize hA : ({ tmps := _, defers := _ } : Act) = A; (with_reducible refine hK A ?_); clear hK K
      refine wpQuiet_step (fun K hK => ?_); subst hA; go_simp; generalize hA : ({ tmps := _, defers := _ } : Act) = A; rw [if_neg (by simp [undef])]; (with_reducible refine hK A ?_); clear hK K
      refine wpQuiet_step (fun K hK => ?_); subst hA; go_simp; generalize hA : ({ tmps := _, defers := _ } : Act) = A; rw [if_neg (by simp [undef])]; (with_reducible refine hK A ?_); clear hK K
      refine wpQuiet_step (fun K hK => ?_); subst hA; go_simp; generalize hA : ({ tmps := _, defers := _ } : Act) = A; rw [if_neg (by simp [undef])]; (with_reducible refine hK A ?_); clear hK K
      refine wpQuiet_step (fun K hK => ?_); subst hA; go_simp; generalize hA : ({ tmps := _, defers := _ } : Act) = A; rw [if_neg (by simp [undef])]; (with_reducible refine hK A ?_); clear hK K
      refine wpQuiet_step (fun K hK => ?_); subst hA; go_simp; generalize hA : ({ tmps := _, defers := _ } : Act) = A; rw [if_neg (by simp [undef])]; (with_reducible refine hK A ?_); clear hK K
      refine wpQuiet_step (fun K hK => ?_); subst hA; go_simp; generalize hA : ({ tmps := _, defers := _ } : Act) = A; rw [if_neg (by simp [undef])]; (with_reducible refine hK A ?_); clear hK K
      refine wpQuiet_step (fun K hK => ?_); subst hA; go_simp; generalize hA : ({ tmps := _, defers := _ } : Act) = A; rw [if_neg (by simp [undef])]; (with_reducible refine hK A ?_); clear hK K
      refine wpQuiet_step (fun K hK => ?_); subst hA; go_simp; generalize hA : ({ tmps := _, defers := _ } : Act) = A; rw [if_neg (by simp [undef])]; (with_reducible refine hK A ?_); clear hK K
      refine wpQuiet_step (fun K hK => ?_); subst hA; go_simp; generalize hA : ({ tmps := _, defers := _ } : Act) = A; rw [if_neg (by simp [undef])]; (with_reducible refine hK A ?_); clear hK K
      refine wpQuiet_step (fun K hK => ?_); subst hA; go_simp; (try (with_reducible refine ⟨_, fun _ _ => rfl, ?_⟩)); generalize hA : ({ tmps := _, defers := _ } : Act) = A; (with_reducible refine hK A ?_); clear hK K
      refine wpQuiet_step (fun K hK => ?_); subst hA; go_simp; (first | (with_reducible refine hK _ ?_) | (with_reducible refine ⟨_, fun _ _ => rfl, hK _ ?_⟩)); clear hK K
      refine wpQuiet_step (fun K hK => ?_); go_simp; (first | (with_reducible refine hK _ ?_) | (with_reducible refine ⟨_, fun _ _ => rfl, hK _ ?_⟩)); clear hK K
      refine wpQuiet_nil ?_
      intro w1 hb1
      go_wp2_with fail
      go_ret
      exact ⟨rfl, hb1⟩
  · rw [decide_eq_false fa] at h1
    have hv : decide (Alike a b) = false := decide_eq_false fun h => fa h.1
    rw [hv]; clear hv fa
    have H1 := Lib.hid h1; clear h1 h2 hA hB ha hb hc hd hcm hdm
    generalize b.length = n at *
    generalize a.length = m at *
    go_enter Tryz.func56, Tryz.ntmps56
    go_wp2_with fail
    refine wp_region_below (by kernel_rfl) (by kernel_rfl) ?_
    refine wpQuiet_step (fun K hK => ?_); go_simp; (first | (with_reducible refine hK _ ?_) | (with_reducible refine ⟨_, fun _ _ => rfl, hK _ ?_⟩)); clear hK K
    refine wpQuiet_step (fun K hK => ?_); go_simp; (with_reducible refine ⟨_, fun wq hb => (H1.out wq hb).mono fun _ _ h => ⟨h.1, hb.trans (h.2.mono (by simpa using hb.size))⟩, hK _ ?_⟩); clear hK K
    refine wpQuiet_step (fun K hK => ?_); go_simp; (try (with_reducible refine ⟨_, fun _ _ => rfl, ?_⟩)); generalize hA : ({ tmps := _, defers := _ } : Act) = A; (with_reducible refine hK A ?_); clear hK K
    refine wpQuiet_step (fun K hK => ?_); subst hA; go_simp; (try (with_reducible refine ⟨_, fun _ _ => rfl, ?_⟩)); generalize hA : ({ tmps := _, defers := _ } : Act) = A; (with_reducible refine hK A ?_); clear hK K
    refine wpQuiet_step (fun K hK => ?_); subst hA; go_simp; (try (with_reducible refine ⟨_, fun _ _ => rfl, ?_⟩)); generalize hA : ({ tmps := _, defers := _ } : Act) = A; (with_reducible refine hK A ?_); clear hK K
    refine wpQuiet_step (fun K hK => ?_); subst hA; go_simp; (first | (with_reducible refine hK _ ?_) | (with_reducible refine ⟨_, fun _ _ => rfl, hK _ ?_⟩)); clear hK K
    refine wpQuiet_step (fun K hK => ?_); go_simp; (try (with_reducible refine ⟨_, fun _ _ => rfl, ?_⟩)); generalize hA : ({ tmps := _, defers := _ } : Act) = A; (with_reducible refine hK A ?_); clear hK K
    refine wpQuiet_step (fun K hK => ?_); subst hA; go_simp; (try (with_reducible refine ⟨_, fun _ _ => rfl, ?_⟩)); generalize hA : ({ tmps := _, defers := _ } : Act) = A; (with_reducible refine hK A ?_); clear hK K
    refine wpQuiet_step (fun K hK => ?_); subst hA; go_simp; (try (with_reducible refine ⟨_, fun _ _ => rfl, ?_⟩)); generalize hA : ({ tmps := _, defers := _ } : Act) = A; (with_reducible refine hK A ?_); clear hK K
    refine wpQuiet_step (fun K hK => ?_); subst hA; go_simp; (try (with_reducible refine ⟨_, fun _ _ => rfl, ?_⟩)); generalize hA : ({ tmps := _, defers := _ } : Act) = A; (with_reducible refine hK A ?_); clear hK K
    refine wpQuiet_step (fun K hK => ?_); subst hA; go_simp; (try (with_reducible refine ⟨_, fun _ _ => rfl, ?_⟩)); generalize hA : ({ tmps := _, defers := _ } : Act) = A; (with_reducible refine hK A ?_); clear hK K
    refine wpQuiet_step (fun K hK => ?_); subst hA; go_simp; generalize hA : ({ tmps := _, defers := _ } : Act) = A; rw [if_neg (by simp [undef])]; (with_reducible refine hK A ?_); clear hK K
    refine wpQuiet_step (fun K hK => ?_); subst hA; go_simp; generalize hA : ({ tmps := _, defers := _ } : Act) = A; rw [if_neg (by simp [undef])]; (with_reducible refine hK A ?_); clear hK K
    refine wpQuiet_step (fun K hK => ?_); subst hA; go_simp; generalize hA : ({ tmps := _, defers := _ } : Act) = A; rw [if_neg (by simp [undef])]; (with_reducible refine hK A ?_); clear hK K
    refine wpQuiet_step (fun K hK => ?_); subst hA; go_simp; (try (with_reducible refine ⟨_, fun _ _ => rfl, ?_⟩)); generalize hA : ({ tmps := _, defers := _ } : Act) = A; (with_reducible refine hK A ?_); clear hK K
    refine wpQuiet_step (fun K hK => ?_); subst hA; go_simp; (try (with_reducible refine ⟨_, fun _ _ => rfl, ?_⟩)); generalize hA : ({ tmps := _, defers := _ } : Act) = A; (with_reducible refine hK A ?_); clear hK K
    refine wpQuiet_step (fun K hK => ?_); subst hA; go_simp; generalize hA : ({ tmps := _, defers := _ } : Act) = A; rw [if_neg (by simp [undef])]; (with_reducible refine hK A ?_); clear hK K
    refine wpQuiet_step (fun K hK => ?_); subst hA; go_simp; generalize hA : ({ tmps := _, defers := _ } : Act) = A; rw [if_neg (by simp [undef])]; (with_reducible refine hK A ?_); clear hK K
    refine wpQuiet_step (fun K hK => ?_); subst hA; go_simp; generalize hA : ({ tmps := _, defers := _ } : Act) = A; rw [if_neg (by simp [undef])]; (with_reducible refine hK A ?_); clear hK K
    refine wpQuiet_step (fun K hK => ?_); subst hA; go_simp; generalize hA : ({ tmps := _, defers := _ } : Act) = A; rw [if_neg (by simp [undef])]; (with_reducible refine hK A ?_); clear hK K
    refine wpQuiet_step (fun K hK => ?_); subst hA; go_simp; generalize hA : ({ tmps := _, defers := _ } : Act) = A; rw [if_neg (by simp [undef])]; (with_reducible refine hK A ?_); clear hK K
    refine wpQuiet_step (fun K hK => ?_); subst hA; go_simp; generalize hA : ({ tmps := _, defers := _ } : Act) = A; rw [if_neg (by simp [undef])]; (with_reducible refine hK A ?_); clear hK K
    refine wpQuiet_step (fun K hK => ?_); subst hA; go_simp; generalize hA : ({ tmps := _, defers := _ } : Act) = A; rw [if_neg (by simp [undef])]; (with_reducible refine hK A ?_); clear hK K
    refine wpQuiet_step (fun K hK => ?_); subst hA; go_simp; generalize hA : ({ tmps := _, defers := _ } : Act) = A; rw [if_neg (by simp [undef])]; (with_reducible refine hK A ?_); clear hK K
    refine wpQuiet_step (fun K hK => ?_); subst hA; go_simp; generalize hA : ({ tmps := _, defers := _ } : Act) = A; rw [if_neg (by simp [undef])]; (with_reducible refine hK A ?_); clear hK K
    refine wpQuiet_step (fun K hK => ?_); subst hA; go_simp; (try (with_reducible refine ⟨_, fun _ _ => rfl, ?_⟩)); generalize hA : ({ tmps := _, defers := _ } : Act) = A; (with_reducible refine hK A ?_); clear hK K
    refine wpQuiet_step (fun K hK => ?_); subst hA; go_simp; (first | (with_reducible refine hK _ ?_) | (with_reducible refine ⟨_, fun _ _ => rfl, hK _ ?_⟩)); clear hK K
    refine wpQuiet_step (fun K hK => ?_); go_simp; (first | (with_reducible refine hK _ ?_) | (with_reducible refine ⟨_, fun _ _ => rfl, hK _ ?_⟩)); clear hK K
    refine wpQuiet_nil ?_
    intro w1 hb1
    go_wp2_with fail
    go_ret
    exact ⟨rfl, hb1⟩
end

section
open Go.ChangeShapes Go.WideShapes Go.ChangeAt Go.RowKit Go.BigFrame
set_option maxRecDepth 100000
end

section
set_option maxRecDepth 100000
section
variable {a b c f g l m : List St} {s t x y z : St}
/-! in whatever order -/
/-! with a time more -/
end
end

section
open Go.ChangeShapes Go.WideShapes Go.ChangeAt Go.RowKit Go.BigFrame
set_option maxRecDepth 100000
instance (l : List St) (t : St) : Decidable (Up l t) := inferInstanceAs (Decidable (∃ x ∈ l, x.L t))
theorem any_up (l : List St) (t : St) : (l.any fun x => decide (x.L t)) = decide (Up l t) := by
  rw [Bool.eq_iff_iff, List.any_eq_true, decide_eq_true_iff]
  simp [Up]
def Inside (f : List St) (t : St) : Prop := Alike f [t] ∧ ¬ Up f t
noncomputable instance (f : List St) (t : St) : Decidable (Inside f t) := Classical.propDecidable _
def Under (a b : List St) : Prop := Alike a b ∧ In a b
noncomputable instance (a b : List St) : Decidable (Under a b) := Classical.propDecidable _
theorem withinC (B : Nat) (A : Option Addr) (a : List St) (c : Nat) (w : World) (hB : BoxAt w B (.slice A a.length c)) (hT : Ts w A a) (hn : a.length ≤ 5000000) : Tells 55 #[.pointer (some ⟨B, 0, none⟩)] (fun x => !decide (Up a x)) w := by
  intro W x hb
  show Calls _ _ #[x.val, .pointer (some ⟨B, 0, none⟩)] _ (fun e w' => e = .returned (.bool (!decide (Up a x))) ∧ Below W.heap.size W w')
  have hbA := (Below.refl W.heap.size W).alloc (Nat.le_refl _) (.cells #[.int .i64 x.d, .int .i64 x.e, .int .i64 x.x, .int .i64 x.y, .int .i64 x.z] 49)
  have hbox := (hB.below hb).2
  have hlt := (hB.below hb).1
  have hr := reached_any A a c x _ ((hT.below hb).below hbA) hn
  simp only [any_up] at hr
  generalize decide (Up a x) = v at *
  unfold St.val at *
  have HR := Lib.hid hr; clear hr hT hn hB hb hbA
  go_enter Tryz.func55, Tryz.ntmps55
  go_wp2_with fail
  refine (HR.out).mono ?_; rintro e w1 ⟨rfl, hb1⟩
  have HB1 := Lib.hid hb1; clear hb1 hbox hlt
  go_wp2_with fail
  go_ret
  exact ⟨rfl, ((Below.refl _ _).alloc (Nat.le_refl _) _).trans (HB1.out.mono (by simp))⟩
set_option maxHeartbeats 1000000 in
theorem frWithin_any (A B : Option Addr) (a b : List St) (c d : Nat) (w : World) (hA : Ts w A a) (hB : Ts w B b) (ha : a.length ≤ 5000000) (hb : b.length ≤ 5000000) (hc : a.length ≤ c) (hd : b.length ≤ d) (hcm : c ≤ maxLen) (hdm : d ≤ maxLen) :
    Calls Tryz.prog 25 #[.slice A a.length c, .slice B b.length d] w fun e w' => e = .returned (.bool (decide (Under a b))) ∧ Below w.heap.size w w' := by
  have hb0 := (Below.refl w.heap.size w).alloc (Nat.le_refl _) (.cells #[.slice A a.length c] 51)
  have hbox := BoxAt.made w (.slice A a.length c) 51
  have hp := paired_any A B a b c d _ (hA.below hb0) (hB.below hb0) ha hb hc hd hcm hdm
  by_cases hal : Alike a b
  · have hv : (!(b.any fun x => !decide (Up a x))) = decide (Under a b) := by
      rw [Bool.eq_iff_iff, Bool.not_eq_true', List.any_eq_false, decide_eq_true_iff]
      simp [Under, hal, In]
    have hr := fun w' (hw : Below (w.alloc (.cells #[.slice A a.length c] 51)).heap.size (w.alloc (.cells #[.slice A a.length c] 51)) w') => containsFunc_any B b d 55 #[.pointer (some ⟨w.heap.size, 0, none⟩)] (fun x => !decide (Up a x)) w' ((hB.below hb0).below hw) hb (enters_of Tryz.func55 (by kernel_rfl) rfl) (fun _ => withinC w.heap.size A a c w' (hbox.below hw) ((hA.below hb0).below hw) ha)
    rw [← hv]
    generalize (b.any fun x => !decide (Up a x)) = v at *
    rw [decide_eq_true hal] at hp
    have HP := Lib.hid hp; have HR := Lib.hid hr; have HB := Lib.hid hb0; clear hp hr hb0 hA hB hbox hc hd hcm hdm hal hv
    generalize b.length = n at *
    generalize a.length = m at *
    go_enter Tryz.func25, Tryz.ntmps25
    go_wp2_with fail
    refine (HP.out).mono ?_; rintro e w1 ⟨rfl, hb1⟩
    have HB1 := Lib.hid hb1; clear hb1
    go_wp2_with fail
    refine (HR.out _ HB1.out).mono ?_; rintro e w2 ⟨rfl, hb2⟩
    have HB2 := Lib.hid (HB1.out.trans (hb2.mono HB1.out.size)); clear hb2
    go_wp2_with fail
    go_ret
    exact ⟨rfl, HB.out.trans (HB2.out.mono HB.out.size)⟩
  · have hv : decide (Under a b) = false := decide_eq_false fun h => hal h.1
    rw [hv]
    rw [decide_eq_false hal] at hp
    have HP := Lib.hid hp; have HB := Lib.hid hb0; clear hp hb0 hA hB hbox hc hd hcm hdm hal hv
    generalize b.length = n at *
    generalize a.length = m at *
    go_enter Tryz.func25, Tryz.ntmps25
    go_wp2_with fail
    refine (HP.out).mono ?_; rintro e w1 ⟨rfl, hb1⟩
    have HB1 := Lib.hid hb1; clear hb1
    go_wp2_with fail
    go_ret
    exact ⟨rfl, HB.out.trans (HB1.out.mono HB.out.size)⟩
end

section
open Go.ChangeShapes Go.WideShapes Go.ChangeAt Go.RowKit Go.BigFrame
set_option maxRecDepth 100000
section
variable {l ts : List St} {t x z p : St}
end
end

section
open Go.ChangeShapes Go.WideShapes Go.ChangeAt Go.RowKit Go.BigFrame
set_option maxRecDepth 100000
section
variable {ts : List St} {t x : St}
end
end
end Go.Proofs.YtmhophmpbpbjaaaGreatDoor
