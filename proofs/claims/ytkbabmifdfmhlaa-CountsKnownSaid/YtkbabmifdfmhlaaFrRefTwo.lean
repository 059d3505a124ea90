/- The document's alike, Within, Both. -/
import Derived.Test.YtkbabmifdfmhlaaFrRefOf
namespace Go.Proofs.Ytkbabmifdfmhlaa
open Go.ChangeShapes Go.WideShapes Go.ChangeAt Go.RowKit Go.BigFrame Go.Shelf
set_option linter.unusedVariables false
set_option maxRecDepth 100000
set_option maxHeartbeats 8000000 in
theorem refAlike_any (A B : Option Addr) (a b : List St) (c d : Nat) (w : World) (hA : Ts w A a) (hB : Ts w B b) (ha : a.length ≤ 1000) (hb : b.length ≤ 1000) (hc : a.length ≤ c) (hd : b.length ≤ d) (hcm : c ≤ maxLen) (hdm : d ≤ maxLen) :
    Calls Try.prog 78 #[.slice A a.length c, .slice B b.length d] w fun e w' => e = .returned (.bool (decide (Alike a b))) ∧ Below w.heap.size w w' := by
  have h1 := fun w' hw => refRightRow_any A a c w' (hA.below hw) ha hc hcm
  have h2 := fun w' hw => refRightRow_any B b d w' (hB.below hw) hb hd hdm
  by_cases fa : Fr a
  · rw [decide_eq_true fa] at h1
    by_cases fb : Fr b
    · rw [decide_eq_true fb] at h2
      cases a with
      | nil =>
        have hv : decide (Alike [] b) = true := decide_eq_true ⟨fa, fb, fun x hx => absurd hx (by simp)⟩
        have l1 : ((([] : List St).length : Int) == 0) = true := rfl
        rw [hv]; clear hv fa fb
        have H1 := Lib.hid h1; have H2 := Lib.hid h2; have L1 := Lib.hid l1; clear h1 h2 l1 hA hB ha hb hc hd hcm hdm
        generalize ([] : List St).length = n at *
        go_enter Try.func78, Try.ntmps78
        go_wp2_with fail
        refine wp_region_below (by kernel_rfl) (by kernel_rfl) ?_
        refine wpQuiet_step (fun K hK => ?_); go_simp; (first | (with_reducible refine hK _ ?_) | (with_reducible refine ⟨_, fun _ _ => rfl, hK _ ?_⟩)); clear hK K
        refine wpQuiet_step (fun K hK => ?_); go_simp; (with_reducible refine ⟨_, fun wq hb => (H1.out wq hb).mono fun _ _ h => ⟨h.1, hb.trans (h.2.mono (by simpa using hb.size))⟩, hK _ ?_⟩); clear hK K
        refine wpQuiet_step (fun K hK => ?_); go_simp; (first | (with_reducible refine hK _ ?_) | (with_reducible refine ⟨_, fun _ _ => rfl, hK _ ?_⟩)); clear hK K
        refine wpQuiet_step (fun K hK => ?_); go_simp; (first | (with_reducible refine hK _ ?_) | (with_reducible refine ⟨_, fun _ _ => rfl, hK _ ?_⟩)); clear hK K
        refine wpQuiet_step (fun K hK => ?_); go_simp; (with_reducible refine ⟨_, fun wq hb => (H2.out wq hb).mono fun _ _ h => ⟨h.1, hb.trans (h.2.mono (by simpa using hb.size))⟩, hK _ ?_⟩); clear hK K
        refine wpQuiet_step (fun K hK => ?_); go_simp; (first | (with_reducible refine hK _ ?_) | (with_reducible refine ⟨_, fun _ _ => rfl, hK _ ?_⟩)); clear hK K
        refine wpQuiet_step (fun K hK => ?_); go_simp; (first | (with_reducible refine hK _ ?_) | (with_reducible refine ⟨_, fun _ _ => rfl, hK _ ?_⟩)); clear hK K
        refine wpQuiet_step (fun K hK => ?_); go_simp; (first | (with_reducible refine hK _ ?_) | (with_reducible refine ⟨_, fun _ _ => rfl, hK _ ?_⟩)); clear hK K
        refine wpQuiet_step (fun K hK => ?_); go_simp; (first | (with_reducible refine hK _ ?_) | (with_reducible refine ⟨_, fun _ _ => rfl, hK _ ?_⟩)); clear hK K
        refine wpQuiet_step (fun K hK => ?_); refine q_bin _ _ _ _ _ rfl rfl rfl rfl (eqi_is L1.out) ?_; go_simp; (with_reducible refine hK _ ?_); clear hK K
        refine wpQuiet_step (fun K hK => ?_); go_simp; (try (with_reducible refine ⟨_, fun _ _ => rfl, ?_⟩)); generalize hA : ({ tmps := _, defers := _ } : Act) = A; (with_reducible refine hK A ?_); clear hK K
        refine wpQuiet_step (fun K hK => ?_); subst hA; go_simp; (try (with_reducible refine ⟨_, fun _ _ => rfl, ?_⟩)); generalize hA : ({ tmps := _, defers := _ } : Act) = A; (with_reducible refine hK A ?_); clear hK K
        refine wpQuiet_step (fun K hK => ?_); subst hA; go_simp; (try (with_reducible refine ⟨_, fun _ _ => rfl, ?_⟩)); generalize hA : ({ tmps := _, defers := _ } : Act) = A; (with_reducible refine hK A ?_); clear hK K
        refine wpQuiet_step (fun K hK => ?_); subst hA; go_simp; (try (with_reducible refine ⟨_, fun _ _ => rfl, ?_⟩)); generalize hA : ({ tmps := _, defers := _ } : Act) = A; (with_reducible refine hK A ?_); clear hK K
        refine wpQuiet_step (fun K hK => ?_); subst hA; go_simp; (first | (with_reducible refine hK _ ?_) | (with_reducible refine ⟨_, fun _ _ => rfl, hK _ ?_⟩)); clear hK K
        refine wpQuiet_step (fun K hK => ?_); go_simp; (try (with_reducible refine ⟨_, fun _ _ => rfl, ?_⟩)); generalize hA : ({ tmps := _, defers := _ } : Act) = A; (with_reducible refine hK A ?_); clear hK K
        refine wpQuiet_step (fun K hK => ?_); subst hA; go_simp; (try (with_reducible refine ⟨_, fun _ _ => rfl, ?_⟩)); generalize hA : ({ tmps := _, defers := _ } : Act) = A; (with_reducible refine hK A ?_); clear hK K
        refine wpQuiet_step (fun K hK => ?_); subst hA; go_simp; (try (with_reducible refine ⟨_, fun _ _ => rfl, ?_⟩)); generalize hA : ({ tmps := _, defers := _ } : Act) = A; (with_reducible refine hK A ?_); clear hK K
        refine wpQuiet_step (fun K hK => ?_); subst hA; go_simp; (try (with_reducible refine ⟨_, fun _ _ => rfl, ?_⟩)); generalize hA : ({ tmps := _, defers := _ } : Act) = A; (with_reducible refine hK A ?_); clear hK K
        refine wpQuiet_step (fun K hK => ?_); subst hA; go_simp; (try (with_reducible refine ⟨_, fun _ _ => rfl, ?_⟩)); generalize hA : ({ tmps := _, defers := _ } : Act) = A; (with_reducible refine hK A ?_); clear hK K
        refine wpQuiet_step (fun K hK => ?_); subst hA; go_simp; (try (with_reducible refine ⟨_, fun _ _ => rfl, ?_⟩)); generalize hA : ({ tmps := _, defers := _ } : Act) = A; (with_reducible refine hK A ?_); clear hK K
        refine wpQuiet_step (fun K hK => ?_); subst hA; go_simp; (try (with_reducible refine ⟨_, fun _ _ => rfl, ?_⟩)); generalize hA : ({ tmps := _, defers := _ } : Act) = A; (with_reducible refine hK A ?_); clear hK K
        refine wpQuiet_step (fun K hK => ?_); subst hA; go_simp; (try (with_reducible refine ⟨_, fun _ _ => rfl, ?_⟩)); generalize hA : ({ tmps := _, defers := _ } : Act) = A; (with_reducible refine hK A ?_); clear hK K
        refine wpQuiet_step (fun K hK => ?_); subst hA; go_simp; (try (with_reducible refine ⟨_, fun _ _ => rfl, ?_⟩)); generalize hA : ({ tmps := _, defers := _ } : Act) = A; (with_reducible refine hK A ?_); clear hK K
        refine wpQuiet_step (fun K hK => ?_); subst hA; go_simp; (try (with_reducible refine ⟨_, fun _ _ => rfl, ?_⟩)); generalize hA : ({ tmps := _, defers := _ } : Act) = A; (with_reducible refine hK A ?_); clear hK K
        refine wpQuiet_step (fun K hK => ?_); subst hA; go_simp; (first | (with_reducible refine hK _ ?_) | (with_reducible refine ⟨_, fun _ _ => rfl, hK _ ?_⟩)); clear hK K
        refine wpQuiet_step (fun K hK => ?_); go_simp; (first | (with_reducible refine hK _ ?_) | (with_reducible refine ⟨_, fun _ _ => rfl, hK _ ?_⟩)); clear hK K
        refine wpQuiet_step (fun K hK => ?_); go_simp; (first | (with_reducible refine hK _ ?_) | (with_reducible refine ⟨_, fun _ _ => rfl, hK _ ?_⟩)); clear hK K
        refine wpQuiet_nil ?_
        intro w1 hb1
        go_wp2_with fail
        go_ret
        exact ⟨rfl, hb1⟩
      | cons x a =>
        cases b with
        | nil =>
          have hv : decide (Alike (x :: a) []) = true := decide_eq_true ⟨fa, fb, fun x hx y hy => absurd hy (by simp)⟩
          have l1 : (((x :: a).length : Int) == 0) = false := by rw [beq_eq_false_iff_ne, List.length_cons]; omega
          have l2 : ((([] : List St).length : Int) == 0) = true := rfl
          rw [hv]; clear hv fa fb
          have H1 := Lib.hid h1; have H2 := Lib.hid h2; have L1 := Lib.hid l1; have L2 := Lib.hid l2; clear h1 h2 l1 l2 hA hB ha hb hc hd hcm hdm
          generalize ([] : List St).length = n at *
          generalize (x :: a).length = m at *
          go_enter Try.func78, Try.ntmps78
          go_wp2_with fail
          refine wp_region_below (by kernel_rfl) (by kernel_rfl) ?_
          refine wpQuiet_step (fun K hK => ?_); go_simp; (first | (with_reducible refine hK _ ?_) | (with_reducible refine ⟨_, fun _ _ => rfl, hK _ ?_⟩)); clear hK K
          refine wpQuiet_step (fun K hK => ?_); go_simp; (with_reducible refine ⟨_, fun wq hb => (H1.out wq hb).mono fun _ _ h => ⟨h.1, hb.trans (h.2.mono (by simpa using hb.size))⟩, hK _ ?_⟩); clear hK K
          refine wpQuiet_step (fun K hK => ?_); go_simp; (first | (with_reducible refine hK _ ?_) | (with_reducible refine ⟨_, fun _ _ => rfl, hK _ ?_⟩)); clear hK K
          refine wpQuiet_step (fun K hK => ?_); go_simp; (first | (with_reducible refine hK _ ?_) | (with_reducible refine ⟨_, fun _ _ => rfl, hK _ ?_⟩)); clear hK K
          refine wpQuiet_step (fun K hK => ?_); go_simp; (with_reducible refine ⟨_, fun wq hb => (H2.out wq hb).mono fun _ _ h => ⟨h.1, hb.trans (h.2.mono (by simpa using hb.size))⟩, hK _ ?_⟩); clear hK K
          refine wpQuiet_step (fun K hK => ?_); go_simp; (first | (with_reducible refine hK _ ?_) | (with_reducible refine ⟨_, fun _ _ => rfl, hK _ ?_⟩)); clear hK K
          refine wpQuiet_step (fun K hK => ?_); go_simp; (first | (with_reducible refine hK _ ?_) | (with_reducible refine ⟨_, fun _ _ => rfl, hK _ ?_⟩)); clear hK K
          refine wpQuiet_step (fun K hK => ?_); go_simp; (first | (with_reducible refine hK _ ?_) | (with_reducible refine ⟨_, fun _ _ => rfl, hK _ ?_⟩)); clear hK K
          refine wpQuiet_step (fun K hK => ?_); go_simp; (first | (with_reducible refine hK _ ?_) | (with_reducible refine ⟨_, fun _ _ => rfl, hK _ ?_⟩)); clear hK K
          refine wpQuiet_step (fun K hK => ?_); refine q_bin _ _ _ _ _ rfl rfl rfl rfl (eqi_is L1.out) ?_; go_simp; (with_reducible refine hK _ ?_); clear hK K
          refine wpQuiet_step (fun K hK => ?_); go_simp; (first | (with_reducible refine hK _ ?_) | (with_reducible refine ⟨_, fun _ _ => rfl, hK _ ?_⟩)); clear hK K
          refine wpQuiet_step (fun K hK => ?_); go_simp; (first | (with_reducible refine hK _ ?_) | (with_reducible refine ⟨_, fun _ _ => rfl, hK _ ?_⟩)); clear hK K
          refine wpQuiet_step (fun K hK => ?_); go_simp; (first | (with_reducible refine hK _ ?_) | (with_reducible refine ⟨_, fun _ _ => rfl, hK _ ?_⟩)); clear hK K
          refine wpQuiet_step (fun K hK => ?_); refine q_bin _ _ _ _ _ rfl rfl rfl rfl (eqi_is L2.out) ?_; go_simp; (with_reducible refine hK _ ?_); clear hK K
          refine wpQuiet_step (fun K hK => ?_); go_simp; (first | (with_reducible refine hK _ ?_) | (with_reducible refine ⟨_, fun _ _ => rfl, hK _ ?_⟩)); clear hK K
          refine wpQuiet_step (fun K hK => ?_); go_simp; (try (with_reducible refine ⟨_, fun _ _ => rfl, ?_⟩)); generalize hA : ({ tmps := _, defers := _ } : Act) = A; (with_reducible refine hK A ?_); clear hK K
          refine wpQuiet_step (fun K hK => ?_); subst hA; go_simp; (try (with_reducible refine ⟨_, fun _ _ => rfl, ?_⟩)); generalize hA : ({ tmps := _, defers := _ } : Act) = A; (with_reducible refine hK A ?_); clear hK K
          refine wpQuiet_step (fun K hK => ?_); subst hA; go_simp; (try (with_reducible refine ⟨_, fun _ _ => rfl, ?_⟩)); generalize hA : ({ tmps := _, defers := _ } : Act) = A; (with_reducible refine hK A ?_); clear hK K
          refine wpQuiet_step (fun K hK => ?_); subst hA; go_simp; (try (with_reducible refine ⟨_, fun _ _ => rfl, ?_⟩)); generalize hA : ({ tmps := _, defers := _ } : Act) = A; (with_reducible refine hK A ?_); clear hK K
          refine wpQuiet_step (fun K hK => ?_); subst hA; go_simp; (try (with_reducible refine ⟨_, fun _ _ => rfl, ?_⟩)); generalize hA : ({ tmps := _, defers := _ } : Act) = A; (with_reducible refine hK A ?_); clear hK K
          refine wpQuiet_step (fun K hK => ?_); subst hA; go_simp; (try (with_reducible refine ⟨_, fun _ _ => rfl, ?_⟩)); generalize hA : ({ tmps := _, defers := _ } : Act) = A; (with_reducible refine hK A ?_); clear hK K
          refine wpQuiet_step (fun K hK => ?_); subst hA; go_simp; (try (with_reducible refine ⟨_, fun _ _ => rfl, ?_⟩)); generalize hA : ({ tmps := _, defers := _ } : Act) = A; (with_reducible refine hK A ?_); clear hK K
          refine wpQuiet_step (fun K hK => ?_); subst hA; go_simp; (try (with_reducible refine ⟨_, fun _ _ => rfl, ?_⟩)); generalize hA : ({ tmps := _, defers := _ } : Act) = A; (with_reducible refine hK A ?_); clear hK K
          refine wpQuiet_step (fun K hK => ?_); subst hA; go_simp; (try (with_reducible refine ⟨_, fun _ _ => rfl, ?_⟩)); generalize hA : ({ tmps := _, defers := _ } : Act) = A; (with_reducible refine hK A ?_); clear hK K
          refine wpQuiet_step (fun K hK => ?_); subst hA; go_simp; (try (with_reducible refine ⟨_, fun _ _ => rfl, ?_⟩)); generalize hA : ({ tmps := _, defers := _ } : Act) = A; (with_reducible refine hK A ?_); clear hK K
          refine wpQuiet_step (fun K hK => ?_); subst hA; go_simp; (first | (with_reducible refine hK _ ?_) | (with_reducible refine ⟨_, fun _ _ => rfl, hK _ ?_⟩)); clear hK K
          refine wpQuiet_step (fun K hK => ?_); go_simp; (first | (with_reducible refine hK _ ?_) | (with_reducible refine ⟨_, fun _ _ => rfl, hK _ ?_⟩)); clear hK K
          refine wpQuiet_step (fun K hK => ?_); go_simp; (first | (with_reducible refine hK _ ?_) | (with_reducible refine ⟨_, fun _ _ => rfl, hK _ ?_⟩)); clear hK K
          refine wpQuiet_nil ?_
          intro w1 hb1
          go_wp2_with fail
          go_ret
          exact ⟨rfl, hb1⟩
        | cons y b =>
          have hv : decide (Alike (x :: a) (y :: b)) = (x.d == y.d) := by
            rw [Bool.eq_iff_iff, decide_eq_true_iff, beq_iff_eq]
            exact ⟨fun h => h.2.2 x List.mem_cons_self y List.mem_cons_self, fun h => ⟨fa, fb, fun p hp q hq => (fa.depth p hp x List.mem_cons_self).trans (h.trans (fb.depth y List.mem_cons_self q hq))⟩⟩
          have l1 : (((x :: a).length : Int) == 0) = false := by rw [beq_eq_false_iff_ne, List.length_cons]; omega
          have l2 : (((y :: b).length : Int) == 0) = false := by rw [beq_eq_false_iff_ne, List.length_cons]; omega
          have m1 : 0 < (x :: a).length := by simp
          have m2 : 0 < (y :: b).length := by simp
          obtain ⟨p, q, rfl, hpl, hp⟩ := hA.first
          obtain ⟨r, s, rfl, hrl, hr⟩ := hB.first
          rw [hv]; clear hv fa fb
          generalize hv : (x.d == y.d) = v at *
          have H1 := Lib.hid h1; have H2 := Lib.hid h2; have L1 := Lib.hid l1; have L2 := Lib.hid l2; have HP := Lib.hid (And.intro hpl hp); have HR := Lib.hid (And.intro hrl hr); have HV := Lib.hid hv; clear h1 h2 l1 l2 hA hB ha hb hc hd hcm hdm hpl hp hrl hr hv
          generalize (y :: b).length = n at *
          generalize (x :: a).length = m at *
          go_enter Try.func78, Try.ntmps78
          go_wp2_with fail
          refine wp_region_below (by kernel_rfl) (by kernel_rfl) ?_
          refine wpQuiet_step (fun K hK => ?_); go_simp; (first | (with_reducible refine hK _ ?_) | (with_reducible refine ⟨_, fun _ _ => rfl, hK _ ?_⟩)); clear hK K
          refine wpQuiet_step (fun K hK => ?_); go_simp; (with_reducible refine ⟨_, fun wq hb => (H1.out wq hb).mono fun _ _ h => ⟨h.1, hb.trans (h.2.mono (by simpa using hb.size))⟩, hK _ ?_⟩); clear hK K
          refine wpQuiet_step (fun K hK => ?_); go_simp; (first | (with_reducible refine hK _ ?_) | (with_reducible refine ⟨_, fun _ _ => rfl, hK _ ?_⟩)); clear hK K
          refine wpQuiet_step (fun K hK => ?_); go_simp; (first | (with_reducible refine hK _ ?_) | (with_reducible refine ⟨_, fun _ _ => rfl, hK _ ?_⟩)); clear hK K
          refine wpQuiet_step (fun K hK => ?_); go_simp; (with_reducible refine ⟨_, fun wq hb => (H2.out wq hb).mono fun _ _ h => ⟨h.1, hb.trans (h.2.mono (by simpa using hb.size))⟩, hK _ ?_⟩); clear hK K
          refine wpQuiet_step (fun K hK => ?_); go_simp; (first | (with_reducible refine hK _ ?_) | (with_reducible refine ⟨_, fun _ _ => rfl, hK _ ?_⟩)); clear hK K
          refine wpQuiet_step (fun K hK => ?_); go_simp; (first | (with_reducible refine hK _ ?_) | (with_reducible refine ⟨_, fun _ _ => rfl, hK _ ?_⟩)); clear hK K
          refine wpQuiet_step (fun K hK => ?_); go_simp; (first | (with_reducible refine hK _ ?_) | (with_reducible refine ⟨_, fun _ _ => rfl, hK _ ?_⟩)); clear hK K
          refine wpQuiet_step (fun K hK => ?_); go_simp; (first | (with_reducible refine hK _ ?_) | (with_reducible refine ⟨_, fun _ _ => rfl, hK _ ?_⟩)); clear hK K
          refine wpQuiet_step (fun K hK => ?_); refine q_bin _ _ _ _ _ rfl rfl rfl rfl (eqi_is L1.out) ?_; go_simp; (with_reducible refine hK _ ?_); clear hK K
          refine wpQuiet_step (fun K hK => ?_); go_simp; (first | (with_reducible refine hK _ ?_) | (with_reducible refine ⟨_, fun _ _ => rfl, hK _ ?_⟩)); clear hK K
          refine wpQuiet_step (fun K hK => ?_); go_simp; (first | (with_reducible refine hK _ ?_) | (with_reducible refine ⟨_, fun _ _ => rfl, hK _ ?_⟩)); clear hK K
          refine wpQuiet_step (fun K hK => ?_); go_simp; (first | (with_reducible refine hK _ ?_) | (with_reducible refine ⟨_, fun _ _ => rfl, hK _ ?_⟩)); clear hK K
          refine wpQuiet_step (fun K hK => ?_); refine q_bin _ _ _ _ _ rfl rfl rfl rfl (eqi_is L2.out) ?_; go_simp; (with_reducible refine hK _ ?_); clear hK K
          refine wpQuiet_step (fun K hK => ?_); go_simp; (first | (with_reducible refine hK _ ?_) | (with_reducible refine ⟨_, fun _ _ => rfl, hK _ ?_⟩)); clear hK K
          refine wpQuiet_step (fun K hK => ?_); go_simp; (first | (with_reducible refine hK _ ?_) | (with_reducible refine ⟨_, fun _ _ => rfl, hK _ ?_⟩)); clear hK K
          refine wpQuiet_step (fun K hK => ?_); go_simp; (first | (with_reducible refine hK _ ?_) | (with_reducible refine ⟨_, fun _ _ => rfl, hK _ ?_⟩)); clear hK K
          refine wpQuiet_step (fun K hK => ?_); go_simp; (first | (with_reducible refine hK _ ?_) | (with_reducible refine ⟨_, fun _ _ => rfl, hK _ ?_⟩)); clear hK K
          refine wpQuiet_step (fun K hK => ?_); go_simp; (first | (with_reducible refine hK _ ?_) | (with_reducible refine ⟨_, fun _ _ => rfl, hK _ ?_⟩)); clear hK K
          refine wpQuiet_step (fun K hK => ?_); refine q_load (p := .pointer (some ⟨p, q, none⟩)) 3 _ rfl rfl rfl (load_at HP.out.1 HP.out.2) ?_; go_simp; (with_reducible refine hK _ ?_); clear hK K
          refine wpQuiet_step (fun K hK => ?_); go_simp; (first | (with_reducible refine hK _ ?_) | (with_reducible refine ⟨_, fun _ _ => rfl, hK _ ?_⟩)); clear hK K
          refine wpQuiet_step (fun K hK => ?_); go_simp; (first | (with_reducible refine hK _ ?_) | (with_reducible refine ⟨_, fun _ _ => rfl, hK _ ?_⟩)); clear hK K
          refine wpQuiet_step (fun K hK => ?_); go_simp; (first | (with_reducible refine hK _ ?_) | (with_reducible refine ⟨_, fun _ _ => rfl, hK _ ?_⟩)); clear hK K
          refine wpQuiet_step (fun K hK => ?_); refine q_load (p := .pointer (some ⟨r, s, none⟩)) 3 _ rfl rfl rfl (load_at HR.out.1 HR.out.2) ?_; go_simp; (with_reducible refine hK _ ?_); clear hK K
          refine wpQuiet_step (fun K hK => ?_); refine q_bin _ _ _ _ _ rfl rfl rfl rfl (eqi_is HV.out) ?_; go_simp; (with_reducible refine hK _ ?_); clear hK K
          refine wpQuiet_step (fun K hK => ?_); go_simp; (first | (with_reducible refine hK _ ?_) | (with_reducible refine ⟨_, fun _ _ => rfl, hK _ ?_⟩)); clear hK K
          refine wpQuiet_step (fun K hK => ?_); go_simp; (first | (with_reducible refine hK _ ?_) | (with_reducible refine ⟨_, fun _ _ => rfl, hK _ ?_⟩)); clear hK K
          refine wpQuiet_step (fun K hK => ?_); go_simp; (first | (with_reducible refine hK _ ?_) | (with_reducible refine ⟨_, fun _ _ => rfl, hK _ ?_⟩)); clear hK K
          refine wpQuiet_nil ?_
          intro w1 hb1
          go_wp2_with fail
          go_ret
          exact ⟨rfl, hb1⟩
    · rw [decide_eq_false fb] at h2
      have hv : decide (Alike a b) = false := decide_eq_false fun h => fb h.2.1
      rw [hv]; clear hv fa fb
      have H1 := Lib.hid h1; have H2 := Lib.hid h2; clear h1 h2 hA hB ha hb hc hd hcm hdm
      generalize b.length = n at *
      generalize a.length = m at *
      go_enter Try.func78, Try.ntmps78
      go_wp2_with fail
      refine wp_region_below (by kernel_rfl) (by kernel_rfl) ?_
      refine wpQuiet_step (fun K hK => ?_); go_simp; (first | (with_reducible refine hK _ ?_) | (with_reducible refine ⟨_, fun _ _ => rfl, hK _ ?_⟩)); clear hK K
      refine wpQuiet_step (fun K hK => ?_); go_simp; (with_reducible refine ⟨_, fun wq hb => (H1.out wq hb).mono fun _ _ h => ⟨h.1, hb.trans (h.2.mono (by simpa using hb.size))⟩, hK _ ?_⟩); clear hK K
      refine wpQuiet_step (fun K hK => ?_); go_simp; (first | (with_reducible refine hK _ ?_) | (with_reducible refine ⟨_, fun _ _ => rfl, hK _ ?_⟩)); clear hK K
      refine wpQuiet_step (fun K hK => ?_); go_simp; (first | (with_reducible refine hK _ ?_) | (with_reducible refine ⟨_, fun _ _ => rfl, hK _ ?_⟩)); clear hK K
      refine wpQuiet_step (fun K hK => ?_); go_simp; (with_reducible refine ⟨_, fun wq hb => (H2.out wq hb).mono fun _ _ h => ⟨h.1, hb.trans (h.2.mono (by simpa using hb.size))⟩, hK _ ?_⟩); clear hK K
      refine wpQuiet_step (fun K hK => ?_); go_simp; (first | (with_reducible refine hK _ ?_) | (with_reducible refine ⟨_, fun _ _ => rfl, hK _ ?_⟩)); clear hK K
      refine wpQuiet_step (fun K hK => ?_); go_simp; (try (with_reducible refine ⟨_, fun _ _ => rfl, ?_⟩)); generalize hA : ({ tmps := _, defers := _ } : Act) = A; (with_reducible refine hK A ?_); clear hK K
      refine wpQuiet_step (fun K hK => ?_); subst hA; go_simp; (try (with_reducible refine ⟨_, fun _ _ => rfl, ?_⟩)); generalize hA : ({ tmps := _, defers := _ } : Act) = A; (with_reducible refine hK A ?_); clear hK K
      refine wpQuiet_step (fun K hK => ?_); subst hA; go_simp; (try (with_reducible refine ⟨_, fun _ _ => rfl, ?_⟩)); generalize hA : ({ tmps := _, defers := _ } : Act) = A; (with_reducible refine hK A ?_); clear hK K
      refine wpQuiet_step (fun K hK => ?_); subst hA; go_simp; (try (with_reducible refine ⟨_, fun _ _ => rfl, ?_⟩)); generalize hA : ({ tmps := _, defers := _ } : Act) = A; (with_reducible refine hK A ?_); clear hK K
      refine wpQuiet_step (fun K hK => ?_); subst hA; go_simp; (try (with_reducible refine ⟨_, fun _ _ => rfl, ?_⟩)); generalize hA : ({ tmps := _, defers := _ } : Act) = A; (with_reducible refine hK A ?_); clear hK K
      refine wpQuiet_step (fun K hK => ?_); subst hA; go_simp; generalize hA : ({ tmps := _, defers := _ } : Act) = A; rw [if_neg (by simp [undef])]; (with_reducible refine hK A ?_); clear hK K
      refine wpQuiet_step (fun K hK => ?_); subst hA; go_simp; generalize hA : ({ tmps := _, defers := _ } : Act) = A; rw [if_neg (by simp [undef])]; (with_reducible refine hK A ?_); clear hK K
      refine wpQuiet_step (fun K hK => ?_); subst hA; go_simp; generalize hA : ({ tmps := _, defers := _ } : Act) = A; rw [if_neg (by simp [undef])]; (with_reducible refine hK A ?_); clear hK K
      refine wpQuiet_step (fun K hK => ?_); subst hA; go_simp; (try (with_reducible refine ⟨_, fun _ _ => rfl, ?_⟩)); generalize hA : ({ tmps := _, defers := _ } : Act) = A; (with_reducible refine hK A ?_); clear hK K
      refine wpQuiet_step (fun K hK => ?_); subst hA; go_simp; (try (with_reducible refine ⟨_, fun _ _ => rfl, ?_⟩)); generalize hA : ({ tmps := _, defers := _ } : Act) = A; (with_reducible refine hK A ?_); clear hK K
      refine wpQuiet_step (fun K hK => ?_); subst hA; go_simp; generalize hA : ({ tmps := _, defers := _ } : Act) = A; rw [if_neg (by simp [undef])]; (with_reducible refine hK A ?_); clear hK K
      refine wpQuiet_step (fun K hK => ?_); subst hA; go_simp; generalize hA : ({ tmps := _, defers := _ } : Act) = A; rw [if_neg (by simp [undef])]; (with_reducible refine hK A ?_); clear hK K
      refine wpQuiet_step (fun K hK => ?_); subst hA; go_simp; generalize hA : ({ tmps := _, defers := _ } : Act) = A; rw [if_neg (by simp [undef])]; (with_reducible refine hK A ?_); clear hK K
      refine wpQuiet_step (fun K hK => ?_); subst hA; go_simp; generalize hA : ({ tmps := _, defers := _ } : Act) = A; rw [if_neg (by simp [undef])]; (with_reducible refine hK A ?_); clear hK K
      refine wpQuiet_step (fun K hK => ?_); subst hA; go_simp; generalize hA : ({ tmps := _, defers := _ } : Act) = A; rw [if_neg (by simp [undef])]; (with_reducible refine hK A ?_); clear hK K
      refine wpQuiet_step (fun K hK => ?_); subst hA; go_simp; generalize hA : ({ tmps := _, defers := _ } : Act) = A; rw [if_neg (by simp [undef])]; (with_reducible refine hK A ?_); clear hK K
      refine wpQuiet_step (fun K hK => ?_); subst hA; go_simp; generalize hA : ({ tmps := _, defers := _ } : Act) = A; rw [if_neg (by simp [undef])]; (with_reducible refine hK A ?_); clear hK K
      refine wpQuiet_step (fun K hK => ?_); subst hA; go_simp; generalize hA : ({ tmps := _, defers := _ } : Act) = A; rw [if_neg (by simp [undef])]; (with_reducible refine hK A ?_); clear hK K
      refine wpQuiet_step (fun K hK => ?_); subst hA; go_simp; generalize hA : ({ tmps := _, defers := _ } : Act) = A; rw [if_neg (by simp [undef])]; (with_reducible refine hK A ?_); clear hK K
      refine wpQuiet_step (fun K hK => ?_); subst hA; go_simp; (try (with_reducible refine ⟨_, fun _ _ => rfl, ?_⟩)); generalize hA : ({ tmps := _, defers := _ } : Act) = A; (with_reducible refine hK A ?_); clear hK K
      refine wpQuiet_step (fun K hK => ?_); subst hA; go_simp; (first | (with_reducible refine hK _ ?_) | (with_reducible refine ⟨_, fun _ _ => rfl, hK _ ?_⟩)); clear hK K
      refine wpQuiet_step (fun K hK => ?_); go_simp; (first | (with_reducible refine hK _ ?_) | (with_reducible refine ⟨_, fun _ _ => rfl, hK _ ?_⟩)); clear hK K
      refine wpQuiet_nil ?_
      intro w1 hb1
      go_wp2_with fail
      go_ret
      exact ⟨rfl, hb1⟩
  · rw [decide_eq_false fa] at h1
    have hv : decide (Alike a b) = false := decide_eq_false fun h => fa h.1
    rw [hv]; clear hv fa
    have H1 := Lib.hid h1; clear h1 h2 hA hB ha hb hc hd hcm hdm
    generalize b.length = n at *
    generalize a.length = m at *
    go_enter Try.func78, Try.ntmps78
    go_wp2_with fail
    refine wp_region_below (by kernel_rfl) (by kernel_rfl) ?_
    refine wpQuiet_step (fun K hK => ?_); go_simp; (first | (with_reducible refine hK _ ?_) | (with_reducible refine ⟨_, fun _ _ => rfl, hK _ ?_⟩)); clear hK K
    refine wpQuiet_step (fun K hK => ?_); go_simp; (with_reducible refine ⟨_, fun wq hb => (H1.out wq hb).mono fun _ _ h => ⟨h.1, hb.trans (h.2.mono (by simpa using hb.size))⟩, hK _ ?_⟩); clear hK K
    refine wpQuiet_step (fun K hK => ?_); go_simp; (try (with_reducible refine ⟨_, fun _ _ => rfl, ?_⟩)); generalize hA : ({ tmps := _, defers := _ } : Act) = A; (with_reducible refine hK A ?_); clear hK K
    refine wpQuiet_step (fun K hK => ?_); subst hA; go_simp; (try (with_reducible refine ⟨_, fun _ _ => rfl, ?_⟩)); generalize hA : ({ tmps := _, defers := _ } : Act) = A; (with_reducible refine hK A ?_); clear hK K
    refine wpQuiet_step (fun K hK => ?_); subst hA; go_simp; (try (with_reducible refine ⟨_, fun _ _ => rfl, ?_⟩)); generalize hA : ({ tmps := _, defers := _ } : Act) = A; (with_reducible refine hK A ?_); clear hK K
    refine wpQuiet_step (fun K hK => ?_); subst hA; go_simp; (first | (with_reducible refine hK _ ?_) | (with_reducible refine ⟨_, fun _ _ => rfl, hK _ ?_⟩)); clear hK K
    refine wpQuiet_step (fun K hK => ?_); go_simp; (try (with_reducible refine ⟨_, fun _ _ => rfl, ?_⟩)); generalize hA : ({ tmps := _, defers := _ } : Act) = A; (with_reducible refine hK A ?_); clear hK K
    refine wpQuiet_step (fun K hK => ?_); subst hA; go_simp; (try (with_reducible refine ⟨_, fun _ _ => rfl, ?_⟩)); generalize hA : ({ tmps := _, defers := _ } : Act) = A; (with_reducible refine hK A ?_); clear hK K
    refine wpQuiet_step (fun K hK => ?_); subst hA; go_simp; (try (with_reducible refine ⟨_, fun _ _ => rfl, ?_⟩)); generalize hA : ({ tmps := _, defers := _ } : Act) = A; (with_reducible refine hK A ?_); clear hK K
    refine wpQuiet_step (fun K hK => ?_); subst hA; go_simp; (try (with_reducible refine ⟨_, fun _ _ => rfl, ?_⟩)); generalize hA : ({ tmps := _, defers := _ } : Act) = A; (with_reducible refine hK A ?_); clear hK K
    refine wpQuiet_step (fun K hK => ?_); subst hA; go_simp; (try (with_reducible refine ⟨_, fun _ _ => rfl, ?_⟩)); generalize hA : ({ tmps := _, defers := _ } : Act) = A; (with_reducible refine hK A ?_); clear hK K
    refine wpQuiet_step (fun K hK => ?_); subst hA; go_simp; generalize hA : ({ tmps := _, defers := _ } : Act) = A; rw [if_neg (by simp [undef])]; (with_reducible refine hK A ?_); clear hK K
    refine wpQuiet_step (fun K hK => ?_); subst hA; go_simp; generalize hA : ({ tmps := _, defers := _ } : Act) = A; rw [if_neg (by simp [undef])]; (with_reducible refine hK A ?_); clear hK K
    refine wpQuiet_step (fun K hK => ?_); subst hA; go_simp; generalize hA : ({ tmps := _, defers := _ } : Act) = A; rw [if_neg (by simp [undef])]; (with_reducible refine hK A ?_); clear hK K
    refine wpQuiet_step (fun K hK => ?_); subst hA; go_simp; (try (with_reducible refine ⟨_, fun _ _ => rfl, ?_⟩)); generalize hA : ({ tmps := _, defers := _ } : Act) = A; (with_reducible refine hK A ?_); clear hK K
    refine wpQuiet_step (fun K hK => ?_); subst hA; go_simp; (try (with_reducible refine ⟨_, fun _ _ => rfl, ?_⟩)); generalize hA : ({ tmps := _, defers := _ } : Act) = A; (with_reducible refine hK A ?_); clear hK K
    refine wpQuiet_step (fun K hK => ?_); subst hA; go_simp; generalize hA : ({ tmps := _, defers := _ } : Act) = A; rw [if_neg (by simp [undef])]; (with_reducible refine hK A ?_); clear hK K
    refine wpQuiet_step (fun K hK => ?_); subst hA; go_simp; generalize hA : ({ tmps := _, defers := _ } : Act) = A; rw [if_neg (by simp [undef])]; (with_reducible refine hK A ?_); clear hK K
    refine wpQuiet_step (fun K hK => ?_); subst hA; go_simp; generalize hA : ({ tmps := _, defers := _ } : Act) = A; rw [if_neg (by simp [undef])]; (with_reducible refine hK A ?_); clear hK K
    refine wpQuiet_step (fun K hK => ?_); subst hA; go_simp; generalize hA : ({ tmps := _, defers := _ } : Act) = A; rw [if_neg (by simp [undef])]; (with_reducible refine hK A ?_); clear hK K
    refine wpQuiet_step (fun K hK => ?_); subst hA; go_simp; generalize hA : ({ tmps := _, defers := _ } : Act) = A; rw [if_neg (by simp [undef])]; (with_reducible refine hK A ?_); clear hK K
    refine wpQuiet_step (fun K hK => ?_); subst hA; go_simp; generalize hA : ({ tmps := _, defers := _ } : Act) = A; rw [if_neg (by simp [undef])]; (with_reducible refine hK A ?_); clear hK K
    refine wpQuiet_step (fun K hK => ?_); subst hA; go_simp; generalize hA : ({ tmps := _, defers := _ } : Act) = A; rw [if_neg (by simp [undef])]; (with_reducible refine hK A ?_); clear hK K
    refine wpQuiet_step (fun K hK => ?_); subst hA; go_simp; generalize hA : ({ tmps := _, defers := _ } : Act) = A; rw [if_neg (by simp [undef])]; (with_reducible refine hK A ?_); clear hK K
    refine wpQuiet_step (fun K hK => ?_); subst hA; go_simp; generalize hA : ({ tmps := _, defers := _ } : Act) = A; rw [if_neg (by simp [undef])]; (with_reducible refine hK A ?_); clear hK K
    refine wpQuiet_step (fun K hK => ?_); subst hA; go_simp; (try (with_reducible refine ⟨_, fun _ _ => rfl, ?_⟩)); generalize hA : ({ tmps := _, defers := _ } : Act) = A; (with_reducible refine hK A ?_); clear hK K
    refine wpQuiet_step (fun K hK => ?_); subst hA; go_simp; (first | (with_reducible refine hK _ ?_) | (with_reducible refine ⟨_, fun _ _ => rfl, hK _ ?_⟩)); clear hK K
    refine wpQuiet_step (fun K hK => ?_); go_simp; (first | (with_reducible refine hK _ ?_) | (with_reducible refine ⟨_, fun _ _ => rfl, hK _ ?_⟩)); clear hK K
    refine wpQuiet_nil ?_
    intro w1 hb1
    go_wp2_with fail
    go_ret
    exact ⟨rfl, hb1⟩
section
variable {A B : Option Addr} {a b : List St} {c d : Nat} {w : World} {v : Bool} {t : St}
theorem refAlikeW (h : Slc w A c a) (k : Slc w B d b) (ha : a.length ≤ 1000) (hb : b.length ≤ 1000) (hv : decide (Alike a b) = v) : ∀ w', Below w.heap.size w w' → Calls Try.prog 78 #[.slice A a.length c, .slice B b.length d] w' fun e w'' => e = .returned (.bool v) ∧ Below w'.heap.size w' w'' := fun w' hw => by
  subst hv; exact refAlike_any A B a b c d w' (h.ts.below hw) (k.ts.below hw) ha hb h.le k.le h.max k.max
theorem refHoldsV (h : Slc w A c a) (ha : a.length ≤ 1000) (hv : decide (Inside a t) = v) : ∀ w', Below w.heap.size w w' → Calls Try.prog 53 #[.slice A a.length c, t.val] w' fun e w'' => e = .returned (.bool v) ∧ Below w'.heap.size w' w'' := fun w' hw => by
  subst hv; exact refHolds_any A a c t w' (h.ts.below hw) ha h.le h.max
theorem inside_of_alike (h : Alike a b) (ht : t ∈ b) : Inside a t ↔ ¬ Up a t := by
  constructor
  · exact fun k => k.2
  · intro k
    have hR := h.2.1.right t ht
    refine ⟨⟨h.1, ⟨?_, ?_, List.pairwise_singleton _ _, ?_⟩, ?_⟩, k⟩
    · intro y hy; rw [List.mem_singleton] at hy; rw [hy]; exact hR
    · intro y hy z hz; rw [List.mem_singleton] at hy hz; rw [hy, hz]
    · intro y hy z hz _; rw [List.mem_singleton] at hy hz; rw [hy, hz]
    · intro y hy z hz; rw [List.mem_singleton] at hz; rw [hz]; exact h.2.2 y hy t ht
end
set_option maxHeartbeats 4000000 in
theorem refWithin_any (A B : Option Addr) (a b : List St) (c d : Nat) (w : World) (hA : Slc w A c a) (hB : Slc w B d b) (ha : a.length ≤ 1000) (hb : b.length ≤ 1000) :
    Calls Try.prog 58 #[.slice A a.length c, .slice B b.length d] w fun e w' => e = .returned (.bool (decide (Under a b))) ∧ Below w.heap.size w w' := by
  by_cases hal : Alike a b
  · have hr := refAlikeW hA hB ha hb (decide_eq_true hal) w (Below.refl _ _)
    have HA := Lib.hid hA; have HB := Lib.hid hB; have HR := Lib.hid hr; have HAL := Lib.hid hal; clear hA hB hr hal
    go_enter Try.func58, Try.ntmps58
    go_wp2_with fail
    refine (HR.out).mono ?_; rintro e w1 ⟨rfl, hb1⟩
    have HB1 := Lib.hid hb1; clear hb1
    go_wp2_with fail
    go_loopw [5] (fun i wr => ∃ k : Nat, k ≤ b.length ∧ i = .int .i64 k ∧ Below w.heap.size w wr ∧ ∀ (j : Nat) (x : St), j < k → b[j]? = some x → Up a x) (fun i _ => b.length - (intOf i).toNat)
    case atStart => exact ⟨0, by omega, rfl, HB1.out, fun j x h => absurd h (by omega)⟩
    case round =>
      obtain ⟨k, hk, rfl, hbw, hno⟩ := hrel
      clear HB1
      have HB1 := Lib.hid hbw; have HNO := Lib.hid hno; clear hbw hno
      by_cases hlt : k < b.length
      · have hltz : (k : Int) < (b.length : Int) := by omega
        obtain ⟨x, hx⟩ : ∃ x, b[k]? = some x := ⟨_, List.getElem?_eq_getElem hlt⟩
        obtain ⟨p, o, hAe, hbl, hld⟩ := (HB.out.ts.below HB1.out).five hx
        subst hAe
        obtain ⟨c0, c1, c2, c3, c4⟩ := hld wr (Below.refl _ _)
        have hin := inside_of_alike HAL.out (List.mem_of_getElem? hx)
        have HX := Lib.hid hx; clear hx hld
        by_cases hu : Up a x
        · have hv := refHoldsV (t := x) HA.out ha (decide_eq_false (fun h => hin.1 h hu))
          unfold St.val at *
          have HV := Lib.hid hv; have HU := Lib.hid hu; clear hv hu hin
          go_wp2_with fail
          refine (HV.out _ HB1.out).mono ?_; rintro e w2 ⟨rfl, hb2⟩
          clear c0 c1 c2 c3 c4
          have HB2 := Lib.hid (HB1.out.trans (hb2.mono HB1.out.size)); clear hb2
          go_wp2_with fail
          go_roundw
          case rel =>
            refine ⟨k + 1, by omega, by simp, HB2.out, fun j y hj hy => ?_⟩
            by_cases e : j = k
            · subst e
              rw [HX.out] at hy; cases hy
              exact HU.out
            · exact HNO.out j y (by omega) hy
          case measure => simp only [intOf]; omega
        · have hv := refHoldsV (t := x) HA.out ha (decide_eq_true (hin.2 hu))
          unfold St.val at *
          have HV := Lib.hid hv; have HU := Lib.hid hu; clear hv hu hin
          go_wp2_with fail
          refine (HV.out _ HB1.out).mono ?_; rintro e w2 ⟨rfl, hb2⟩
          clear c0 c1 c2 c3 c4
          have HB2 := Lib.hid (HB1.out.trans (hb2.mono HB1.out.size)); clear hb2
          go_wp2_with fail
          go_ret
          exact ⟨ret_bool (decide_eq_false (fun h => HU.out (h.2 x (List.mem_of_getElem? HX.out)))).symm, HB2.out⟩
      · have hk' : k = b.length := by omega
        subst hk'
        go_wp2_with fail
        go_ret
        refine ⟨ret_bool (decide_eq_true ⟨HAL.out, fun x hx => ?_⟩).symm, HB1.out⟩
        obtain ⟨j, hj⟩ := List.getElem?_of_mem hx
        exact HNO.out j x (List.getElem?_eq_some_iff.1 hj).1 hj
  · have hr := refAlikeW hA hB ha hb (decide_eq_false hal) w (Below.refl _ _)
    have HR := Lib.hid hr; have HAL := Lib.hid hal; clear hA hB hr hal
    go_enter Try.func58, Try.ntmps58
    go_wp2_with fail
    refine (HR.out).mono ?_; rintro e w1 ⟨rfl, hb1⟩
    have HB1 := Lib.hid hb1; clear hb1
    go_wp2_with fail
    go_ret
    exact ⟨ret_bool (decide_eq_false (fun h => HAL.out h.1)).symm, HB1.out⟩
set_option maxHeartbeats 4000000 in
theorem refBoth_any (A B : Option Addr) (a b : List St) (c d : Nat) (w : World) (hA : Slc w A c a) (hB : Slc w B d b) (ha : a.length ≤ 500) (hb : b.length ≤ 500) :
    Calls Try.prog 55 #[.slice A a.length c, .slice B b.length d] w (GivesB w (ifS (decide (Alike a b)) (bothS a b)) (errS (decide (Alike a b)))) := by
  by_cases hal : Alike a b
  · have hr := refAlikeW hA hB (by omega) (by omega) (decide_eq_true hal) w (Below.refl _ _)
    have HA := Lib.hid hA; have HB := Lib.hid hB; have HR := Lib.hid hr; have HAL := Lib.hid hal; clear hA hB hr hal
    go_enter Try.func55, Try.ntmps55
    go_wp2_with fail
    refine (HR.out).mono ?_; rintro e w1 ⟨rfl, hb1⟩
    have HB1 := Lib.hid hb1
    have hts := HA.out.ts.below hb1; have hnil := HA.out.nil
    have hbs : w.heap.size ≤ w1.heap.size := hb1.size
    clear hb1
    go_upto_region 5 with (at_builtin; refine wpList_append_ts rfl _ _ rfl w.heap.size _ 0 [] rfl (World.ownsRow_nil _ _ _ _) A c a rfl hnil hts (by omega) hbs ?_; intro va wa hown hgr)
    have hba := own_belowS (World.ownsRow_nil w1 w.heap.size 25 5) hgr HB1.out hbs
    rw [List.nil_append, Nat.zero_add] at hown
    have HBA := Lib.hid hba; have HO := Lib.hid hown
    have hts := HB.out.ts.below hba; have hnil := HB.out.nil
    have hbs := hba.size
    clear hown hgr hba HB1
    go_wp2_with (at_builtin; refine wpList_append_ts rfl _ _ rfl w.heap.size _ a.length a rfl HO.out B d b rfl hnil hts (by omega) hbs ?_; intro vb wb hown hgr)
    have hbb := own_belowS HO.out hgr HBA.out hbs
    obtain ⟨Am, cm, rfl, hsm⟩ := Slc.of_own hown
    have HBB := Lib.hid hbb; have HM := Lib.hid hsm
    clear hown hgr hbb hsm hts hnil hbs HBA HO
    have k := refOf_any Am (a ++ b) cm wb HM.out (by rw [List.length_append]; omega)
    rw [decide_eq_true (even_append HAL.out)] at k
    have K := Lib.hid k; clear k
    go_wp2_with fail
    refine (K.out).mono ?_; rintro e w3 ⟨⟨Ar, cr, rfl, hsr, har⟩, hb3⟩
    have H3 := Lib.hid (And.intro hsr (And.intro har hb3)); clear hsr har hb3
    dsimp only
    go_wp2_with fail
    go_ret2
    rw [decide_eq_true HAL.out]
    exact ⟨⟨Ar, cr, rfl, H3.out.1, fun ad h => Nat.le_trans HBB.out.size (H3.out.2.1 ad h)⟩, HBB.out.trans (H3.out.2.2.mono HBB.out.size)⟩
  · have hr := refAlikeW hA hB (by omega) (by omega) (decide_eq_false hal) w (Below.refl _ _)
    have HR := Lib.hid hr; have HAL := Lib.hid hal; clear hA hB hr hal
    go_enter Try.func55, Try.ntmps55
    go_wp2_with fail
    refine (HR.out).mono ?_; rintro e w1 ⟨rfl, hb1⟩
    have HB1 := Lib.hid hb1; clear hb1
    go_wp2_with fail
    go_ret2
    rw [decide_eq_false HAL.out]
    exact gives_none HB1.out
end Go.Proofs.Ytkbabmifdfmhlaa
