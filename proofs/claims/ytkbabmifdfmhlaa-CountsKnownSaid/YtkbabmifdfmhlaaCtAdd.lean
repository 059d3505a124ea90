/- Add. -/
import Derived.Test.YtkbabmifdfmhlaaCtSetA
namespace Go.Proofs.Ytkbabmifdfmhlaa
open Go.ChangeShapes Go.WideShapes Go.ChangeAt Go.RowKit Go.BigFrame Go.Shelf
set_option linter.unusedVariables false
set_option maxRecDepth 100000
set_option maxHeartbeats 2000000 in
theorem add_A {w : World} {base b N : Nat} {m : Option Nat} {d : Int} {L : Cn} (h : Ct w base b m N d L) (t : St) (n : Int) (hR : ¬ t.R) :
    Calls Try.prog 13 #[.pointer (some ⟨b, 0, none⟩), t.val, .int .i64 n] w (fun e w' => e = .returned (.int .i64 50) ∧ Below w.heap.size w w') := by
  have hbA := (Below.refl w.heap.size w).alloc (Nat.le_refl _) (.cells #[.int .i64 t.d, .int .i64 t.e, .int .i64 t.x, .int .i64 t.y, .int .i64 t.z] 25)
  have h1 := h.below hbA
  have hx := Holds.made w t
  have hr := right_is (decide_eq_false hR) (right_any t)
  have HR := Lib.hid hr; have HX := Lib.hid hx; have H1 := Lib.hid h1; have HB := Lib.hid hbA; clear hr hx h1 hbA h hR
  unfold St.val at *
  go_enter Try.func13, Try.ntmps13
  go_wp2_with fail
  generalize w.alloc (.cells #[.int .i64 t.d, .int .i64 t.e, .int .i64 t.x, .int .i64 t.y, .int .i64 t.z] 25) = w0 at *
  refine wp_region_below (by kernel_rfl) (by kernel_rfl) ?_
  refine wpQuiet_step (fun K hK => ?_); refine q_load (p := .pointer (some ⟨w.heap.size, 0, none⟩)) 25 _ rfl rfl rfl (load_t HX.out) ?_; go_simp; (with_reducible refine hK _ ?_); clear hK K
  refine wpQuiet_step (fun K hK => ?_); go_simp; (with_reducible refine ⟨_, fun _ hb => (HR.out _).mono fun _ _ h => ⟨h.1, hb.trans (h.2.mono (by simpa using hb.size))⟩, hK _ ?_⟩); clear hK K
  refine wpQuiet_step (fun K hK => ?_); go_simp; (first | (with_reducible refine hK _ ?_) | (with_reducible refine ⟨_, fun _ _ => rfl, hK _ ?_⟩)); clear hK K
  refine wpQuiet_step (fun K hK => ?_); go_simp; (try (with_reducible refine ⟨_, fun _ _ => rfl, ?_⟩)); generalize hA : ({ tmps := _, defers := _ } : Act) = A; (with_reducible refine hK A ?_); clear hK K
  refine wpQuiet_step (fun K hK => ?_); subst hA; go_simp; (try (with_reducible refine ⟨_, fun _ _ => rfl, ?_⟩)); generalize hA : ({ tmps := _, defers := _ } : Act) = A; (with_reducible refine hK A ?_); clear hK K
  refine wpQuiet_step (fun K hK => ?_); subst hA; go_simp; (try (with_reducible refine ⟨_, fun _ _ => rfl, ?_⟩)); generalize hA : ({ tmps := _, defers := _ } : Act) = A; (with_reducible refine hK A ?_); clear hK K
  refine wpQuiet_step (fun K hK => ?_); subst hA; go_simp; (try (with_reducible refine ⟨_, fun _ _ => rfl, ?_⟩)); generalize hA : ({ tmps := _, defers := _ } : Act) = A; (with_reducible refine hK A ?_); clear hK K
  refine wpQuiet_step (fun K hK => ?_); subst hA; go_simp; (try (with_reducible refine ⟨_, fun _ _ => rfl, ?_⟩)); generalize hA : ({ tmps := _, defers := _ } : Act) = A; (with_reducible refine hK A ?_); clear hK K
  refine wpQuiet_step (fun K hK => ?_); subst hA; go_simp; (try (with_reducible refine ⟨_, fun _ _ => rfl, ?_⟩)); generalize hA : ({ tmps := _, defers := _ } : Act) = A; (with_reducible refine hK A ?_); clear hK K
  refine wpQuiet_step (fun K hK => ?_); subst hA; go_simp; (try (with_reducible refine ⟨_, fun _ _ => rfl, ?_⟩)); generalize hA : ({ tmps := _, defers := _ } : Act) = A; (with_reducible refine hK A ?_); clear hK K
  refine wpQuiet_step (fun K hK => ?_); subst hA; go_simp; (try (with_reducible refine ⟨_, fun _ _ => rfl, ?_⟩)); generalize hA : ({ tmps := _, defers := _ } : Act) = A; (with_reducible refine hK A ?_); clear hK K
  refine wpQuiet_step (fun K hK => ?_); subst hA; go_simp; (first | (with_reducible refine hK _ ?_) | (with_reducible refine ⟨_, fun _ _ => rfl, hK _ ?_⟩)); clear hK K
  refine wpQuiet_step (fun K hK => ?_); go_simp; (first | (with_reducible refine hK _ ?_) | (with_reducible refine ⟨_, fun _ _ => rfl, hK _ ?_⟩)); clear hK K
  refine wpQuiet_nil ?_
  intro w1 hb1
  go_wp2_with fail
  go_ret
  exact ⟨rfl, HB.out.trans (hb1.mono HB.out.size)⟩
set_option maxHeartbeats 2000000 in
theorem add_B {w : World} {base b N : Nat} {m : Option Nat} {d : Int} {L : Cn} (h : Ct w base b m N d L) (t : St) (n : Int) (hR : t.R) (hd : t.d ≠ d) :
    Calls Try.prog 13 #[.pointer (some ⟨b, 0, none⟩), t.val, .int .i64 n] w (fun e w' => e = .returned (.int .i64 50) ∧ Below w.heap.size w w') := by
  have hbA := (Below.refl w.heap.size w).alloc (Nat.le_refl _) (.cells #[.int .i64 t.d, .int .i64 t.e, .int .i64 t.x, .int .i64 t.y, .int .i64 t.z] 25)
  have h1 := h.below hbA
  have hx := Holds.made w t
  have hr := right_is (decide_eq_true hR) (right_any t)
  have hdd : (t.d != d) = true := by simpa using hd
  have HR := Lib.hid hr; have HX := Lib.hid hx; have H1 := Lib.hid h1; have HB := Lib.hid hbA; have HD := Lib.hid hdd; clear hr hx h1 hbA h hR hd hdd
  unfold St.val at *
  go_enter Try.func13, Try.ntmps13
  go_wp2_with fail
  generalize w.alloc (.cells #[.int .i64 t.d, .int .i64 t.e, .int .i64 t.x, .int .i64 t.y, .int .i64 t.z] 25) = w0 at *
  refine wp_region_below (by kernel_rfl) (by kernel_rfl) ?_
  refine wpQuiet_step (fun K hK => ?_); refine q_load (p := .pointer (some ⟨w.heap.size, 0, none⟩)) 25 _ rfl rfl rfl (load_t HX.out) ?_; go_simp; (with_reducible refine hK _ ?_); clear hK K
  refine wpQuiet_step (fun K hK => ?_); go_simp; (with_reducible refine ⟨_, fun _ hb => (HR.out _).mono fun _ _ h => ⟨h.1, hb.trans (h.2.mono (by simpa using hb.size))⟩, hK _ ?_⟩); clear hK K
  refine wpQuiet_step (fun K hK => ?_); go_simp; (first | (with_reducible refine hK _ ?_) | (with_reducible refine ⟨_, fun _ _ => rfl, hK _ ?_⟩)); clear hK K
  refine wpQuiet_step (fun K hK => ?_); go_simp; (first | (with_reducible refine hK _ ?_) | (with_reducible refine ⟨_, fun _ _ => rfl, hK _ ?_⟩)); clear hK K
  refine wpQuiet_step (fun K hK => ?_); go_simp; (first | (with_reducible refine hK _ ?_) | (with_reducible refine ⟨_, fun _ _ => rfl, hK _ ?_⟩)); clear hK K
  refine wpQuiet_step (fun K hK => ?_); refine q_load (p := .pointer (some ⟨w.heap.size, 0, none⟩)) 3 _ rfl rfl rfl (load_d HX.out) ?_; go_simp; (with_reducible refine hK _ ?_); clear hK K
  refine wpQuiet_step (fun K hK => ?_); go_simp; (first | (with_reducible refine hK _ ?_) | (with_reducible refine ⟨_, fun _ _ => rfl, hK _ ?_⟩)); clear hK K
  refine wpQuiet_step (fun K hK => ?_); go_simp; (first | (with_reducible refine hK _ ?_) | (with_reducible refine ⟨_, fun _ _ => rfl, hK _ ?_⟩)); clear hK K
  refine wpQuiet_step (fun K hK => ?_); go_simp; (first | (with_reducible refine hK _ ?_) | (with_reducible refine ⟨_, fun _ _ => rfl, hK _ ?_⟩)); clear hK K
  refine wpQuiet_step (fun K hK => ?_); refine q_load (p := .pointer (some ⟨b, 0, none⟩)) 3 _ rfl rfl rfl (load_d1 H1.out) ?_; go_simp; (with_reducible refine hK _ ?_); clear hK K
  refine wpQuiet_step (fun K hK => ?_); refine q_bin _ _ _ _ _ rfl rfl rfl rfl (nei_is HD.out) ?_; go_simp; (with_reducible refine hK _ ?_); clear hK K
  refine wpQuiet_step (fun K hK => ?_); go_simp; (first | (with_reducible refine hK _ ?_) | (with_reducible refine ⟨_, fun _ _ => rfl, hK _ ?_⟩)); clear hK K
  refine wpQuiet_step (fun K hK => ?_); go_simp; (first | (with_reducible refine hK _ ?_) | (with_reducible refine ⟨_, fun _ _ => rfl, hK _ ?_⟩)); clear hK K
  refine wpQuiet_nil ?_
  intro w1 hb1
  go_wp2_with fail
  go_ret
  exact ⟨rfl, HB.out.trans (hb1.mono HB.out.size)⟩
set_option maxHeartbeats 4000000 in
theorem add_C {w : World} {base b N : Nat} {m : Option Nat} {d : Int} {L : Cn} (h : Ct w base b m N d L) (t : St) (n : Int) (hR : t.R) (hd : t.d = d) (hn : ¬ Nr n) :
    Calls Try.prog 13 #[.pointer (some ⟨b, 0, none⟩), t.val, .int .i64 n] w (fun e w' => e = .returned (.int .i64 3) ∧ Below w.heap.size w w') := by
  have hbA := (Below.refl w.heap.size w).alloc (Nat.le_refl _) (.cells #[.int .i64 t.d, .int .i64 t.e, .int .i64 t.x, .int .i64 t.y, .int .i64 t.z] 25)
  have h1 := h.below hbA
  have hx := Holds.made w t
  have hr := right_is (decide_eq_true hR) (right_any t)
  have hdd : (t.d != d) = false := by simpa using hd
  have hW := hR.w
  obtain ⟨s, hs⟩ : ∃ s, cnt L t + n = s := ⟨_, rfl⟩
  have HN1 := Lib.hid (near_is (decide_eq_false hn))
  have HR := Lib.hid hr; have HX := Lib.hid hx; have H1 := Lib.hid h1; have HB := Lib.hid hbA; have HD := Lib.hid hdd; have HS := Lib.hid hs; have HH := Lib.hid h
  clear hr hx h1 hbA hdd hs h hR hd hn
  unfold St.val at *
  go_enter Try.func13, Try.ntmps13
  go_wp2_with fail
  generalize w.alloc (.cells #[.int .i64 t.d, .int .i64 t.e, .int .i64 t.x, .int .i64 t.y, .int .i64 t.z] 25) = w0 at *
  refine wp_region_below (by kernel_rfl) (by kernel_rfl) ?_
  refine wpQuiet_step (fun K hK => ?_); refine q_load (p := .pointer (some ⟨w.heap.size, 0, none⟩)) 25 _ rfl rfl rfl (load_t HX.out) ?_; go_simp; (with_reducible refine hK _ ?_); clear hK K
  refine wpQuiet_step (fun K hK => ?_); go_simp; (with_reducible refine ⟨_, fun _ hb => (HR.out _).mono fun _ _ h => ⟨h.1, hb.trans (h.2.mono (by simpa using hb.size))⟩, hK _ ?_⟩); clear hK K
  refine wpQuiet_step (fun K hK => ?_); go_simp; (first | (with_reducible refine hK _ ?_) | (with_reducible refine ⟨_, fun _ _ => rfl, hK _ ?_⟩)); clear hK K
  refine wpQuiet_step (fun K hK => ?_); go_simp; (first | (with_reducible refine hK _ ?_) | (with_reducible refine ⟨_, fun _ _ => rfl, hK _ ?_⟩)); clear hK K
  refine wpQuiet_step (fun K hK => ?_); go_simp; (first | (with_reducible refine hK _ ?_) | (with_reducible refine ⟨_, fun _ _ => rfl, hK _ ?_⟩)); clear hK K
  refine wpQuiet_step (fun K hK => ?_); refine q_load (p := .pointer (some ⟨w.heap.size, 0, none⟩)) 3 _ rfl rfl rfl (load_d HX.out) ?_; go_simp; (with_reducible refine hK _ ?_); clear hK K
  refine wpQuiet_step (fun K hK => ?_); go_simp; (first | (with_reducible refine hK _ ?_) | (with_reducible refine ⟨_, fun _ _ => rfl, hK _ ?_⟩)); clear hK K
  refine wpQuiet_step (fun K hK => ?_); go_simp; (first | (with_reducible refine hK _ ?_) | (with_reducible refine ⟨_, fun _ _ => rfl, hK _ ?_⟩)); clear hK K
  refine wpQuiet_step (fun K hK => ?_); go_simp; (first | (with_reducible refine hK _ ?_) | (with_reducible refine ⟨_, fun _ _ => rfl, hK _ ?_⟩)); clear hK K
  refine wpQuiet_step (fun K hK => ?_); refine q_load (p := .pointer (some ⟨b, 0, none⟩)) 3 _ rfl rfl rfl (load_d1 H1.out) ?_; go_simp; (with_reducible refine hK _ ?_); clear hK K
  refine wpQuiet_step (fun K hK => ?_); refine q_bin _ _ _ _ _ rfl rfl rfl rfl (nei_is HD.out) ?_; go_simp; (with_reducible refine hK _ ?_); clear hK K
  refine wpQuiet_step (fun K hK => ?_); go_simp; (first | (with_reducible refine hK _ ?_) | (with_reducible refine ⟨_, fun _ _ => rfl, hK _ ?_⟩)); clear hK K
  refine wpQuiet_step (fun K hK => ?_); go_simp; (first | (with_reducible refine hK _ ?_) | (with_reducible refine ⟨_, fun _ _ => rfl, hK _ ?_⟩)); clear hK K
  refine wpQuiet_nil ?_
  intro w1 hb1
  have HB1 := Lib.hid (HB.out.trans (hb1.mono HB.out.size)); have H2 := Lib.hid (H1.out.below hb1); have HX2 := Lib.hid (HX.out.below hb1); clear hb1
  go_wp2_with fail
  refine wp_region_below (by kernel_rfl) (by kernel_rfl) ?_
  refine wpQuiet_step (fun K hK => ?_); go_simp; (first | (with_reducible refine hK _ ?_) | (with_reducible refine ⟨_, fun _ _ => rfl, hK _ ?_⟩)); clear hK K
  refine wpQuiet_step (fun K hK => ?_); go_simp; (with_reducible refine ⟨_, fun _ hb => (HN1.out _).mono fun _ _ h => ⟨h.1, hb.trans (h.2.mono (by simpa using hb.size))⟩, hK _ ?_⟩); clear hK K
  refine wpQuiet_step (fun K hK => ?_); go_simp; (first | (with_reducible refine hK _ ?_) | (with_reducible refine ⟨_, fun _ _ => rfl, hK _ ?_⟩)); clear hK K
  refine wpQuiet_step (fun K hK => ?_); go_simp; (try (with_reducible refine ⟨_, fun _ _ => rfl, ?_⟩)); generalize hA : ({ tmps := _, defers := _ } : Act) = A; (with_reducible refine hK A ?_); clear hK K
  refine wpQuiet_step (fun K hK => ?_); subst hA; go_simp; (try (with_reducible refine ⟨_, fun _ _ => rfl, ?_⟩)); generalize hA : ({ tmps := _, defers := _ } : Act) = A; (with_reducible refine hK A ?_); clear hK K
  refine wpQuiet_step (fun K hK => ?_); subst hA; go_simp; (try (with_reducible refine ⟨_, fun _ _ => rfl, ?_⟩)); generalize hA : ({ tmps := _, defers := _ } : Act) = A; (with_reducible refine hK A ?_); clear hK K
  refine wpQuiet_step (fun K hK => ?_); subst hA; go_simp; (try (with_reducible refine ⟨_, fun _ _ => rfl, ?_⟩)); generalize hA : ({ tmps := _, defers := _ } : Act) = A; (with_reducible refine hK A ?_); clear hK K
  refine wpQuiet_step (fun K hK => ?_); subst hA; go_simp; (try (with_reducible refine ⟨_, fun _ _ => rfl, ?_⟩)); generalize hA : ({ tmps := _, defers := _ } : Act) = A; (with_reducible refine hK A ?_); clear hK K
  refine wpQuiet_step (fun K hK => ?_); subst hA; go_simp; (try (with_reducible refine ⟨_, fun _ _ => rfl, ?_⟩)); generalize hA : ({ tmps := _, defers := _ } : Act) = A; (with_reducible refine hK A ?_); clear hK K
  refine wpQuiet_step (fun K hK => ?_); subst hA; go_simp; (try (with_reducible refine ⟨_, fun _ _ => rfl, ?_⟩)); generalize hA : ({ tmps := _, defers := _ } : Act) = A; (with_reducible refine hK A ?_); clear hK K
  refine wpQuiet_step (fun K hK => ?_); subst hA; go_simp; (try (with_reducible refine ⟨_, fun _ _ => rfl, ?_⟩)); generalize hA : ({ tmps := _, defers := _ } : Act) = A; (with_reducible refine hK A ?_); clear hK K
  refine wpQuiet_step (fun K hK => ?_); subst hA; go_simp; (try (with_reducible refine ⟨_, fun _ _ => rfl, ?_⟩)); generalize hA : ({ tmps := _, defers := _ } : Act) = A; (with_reducible refine hK A ?_); clear hK K
  refine wpQuiet_step (fun K hK => ?_); subst hA; go_simp; (try (with_reducible refine ⟨_, fun _ _ => rfl, ?_⟩)); generalize hA : ({ tmps := _, defers := _ } : Act) = A; (with_reducible refine hK A ?_); clear hK K
  refine wpQuiet_step (fun K hK => ?_); subst hA; go_simp; (try (with_reducible refine ⟨_, fun _ _ => rfl, ?_⟩)); generalize hA : ({ tmps := _, defers := _ } : Act) = A; (with_reducible refine hK A ?_); clear hK K
  refine wpQuiet_step (fun K hK => ?_); subst hA; go_simp; (first | (with_reducible refine hK _ ?_) | (with_reducible refine ⟨_, fun _ _ => rfl, hK _ ?_⟩)); clear hK K
  refine wpQuiet_step (fun K hK => ?_); go_simp; (first | (with_reducible refine hK _ ?_) | (with_reducible refine ⟨_, fun _ _ => rfl, hK _ ?_⟩)); clear hK K
  refine wpQuiet_nil ?_
  intro w2 hb2
  have HB2 := Lib.hid (HB1.out.trans (hb2.mono HB1.out.size)); clear hb2
  go_wp2_with fail
  go_ret
  exact ⟨rfl, HB2.out⟩
set_option maxHeartbeats 4000000 in
theorem add_D {w : World} {base b N : Nat} {m : Option Nat} {d : Int} {L : Cn} (h : Ct w base b m N d L) (t : St) (n : Int) (hR : t.R) (hd : t.d = d) (hn : Nr n) (hc : ¬ Nr (cnt L t + n)) :
    Calls Try.prog 13 #[.pointer (some ⟨b, 0, none⟩), t.val, .int .i64 n] w (fun e w' => e = .returned (.int .i64 3) ∧ Below w.heap.size w w') := by
  have hbA := (Below.refl w.heap.size w).alloc (Nat.le_refl _) (.cells #[.int .i64 t.d, .int .i64 t.e, .int .i64 t.x, .int .i64 t.y, .int .i64 t.z] 25)
  have h1 := h.below hbA
  have hx := Holds.made w t
  have hr := right_is (decide_eq_true hR) (right_any t)
  have hdd : (t.d != d) = false := by simpa using hd
  have hW := hR.w
  obtain ⟨s, hs⟩ : ∃ s, cnt L t + n = s := ⟨_, rfl⟩
  have HN1 := Lib.hid (near_is (decide_eq_true hn))
  have hsb : -3000000000000 ≤ s ∧ s ≤ 3000000000000 := by
    have h1 := h.nr (t := t); unfold Nr at h1 hn; omega
  have HSB := Lib.hid hsb
  have HN2 := Lib.hid (near_is (decide_eq_false (by rw [← hs]; exact hc)) : ∀ w, Calls Try.prog 34 #[.int .i64 s] w _)
  have HR := Lib.hid hr; have HX := Lib.hid hx; have H1 := Lib.hid h1; have HB := Lib.hid hbA; have HD := Lib.hid hdd; have HS := Lib.hid hs; have HH := Lib.hid h
  clear hr hx h1 hbA hdd hs h hR hd hn hc hsb
  unfold St.val at *
  go_enter Try.func13, Try.ntmps13
  go_wp2_with fail
  generalize w.alloc (.cells #[.int .i64 t.d, .int .i64 t.e, .int .i64 t.x, .int .i64 t.y, .int .i64 t.z] 25) = w0 at *
  refine wp_region_below (by kernel_rfl) (by kernel_rfl) ?_
  refine wpQuiet_step (fun K hK => ?_); refine q_load (p := .pointer (some ⟨w.heap.size, 0, none⟩)) 25 _ rfl rfl rfl (load_t HX.out) ?_; go_simp; (with_reducible refine hK _ ?_); clear hK K
  refine wpQuiet_step (fun K hK => ?_); go_simp; (with_reducible refine ⟨_, fun _ hb => (HR.out _).mono fun _ _ h => ⟨h.1, hb.trans (h.2.mono (by simpa using hb.size))⟩, hK _ ?_⟩); clear hK K
  refine wpQuiet_step (fun K hK => ?_); go_simp; (first | (with_reducible refine hK _ ?_) | (with_reducible refine ⟨_, fun _ _ => rfl, hK _ ?_⟩)); clear hK K
  refine wpQuiet_step (fun K hK => ?_); go_simp; (first | (with_reducible refine hK _ ?_) | (with_reducible refine ⟨_, fun _ _ => rfl, hK _ ?_⟩)); clear hK K
  refine wpQuiet_step (fun K hK => ?_); go_simp; (first | (with_reducible refine hK _ ?_) | (with_reducible refine ⟨_, fun _ _ => rfl, hK _ ?_⟩)); clear hK K
  refine wpQuiet_step (fun K hK => ?_); refine q_load (p := .pointer (some ⟨w.heap.size, 0, none⟩)) 3 _ rfl rfl rfl (load_d HX.out) ?_; go_simp; (with_reducible refine hK _ ?_); clear hK K
  refine wpQuiet_step (fun K hK => ?_); go_simp; (first | (with_reducible refine hK _ ?_) | (with_reducible refine ⟨_, fun _ _ => rfl, hK _ ?_⟩)); clear hK K
  refine wpQuiet_step (fun K hK => ?_); go_simp; (first | (with_reducible refine hK _ ?_) | (with_reducible refine ⟨_, fun _ _ => rfl, hK _ ?_⟩)); clear hK K
  refine wpQuiet_step (fun K hK => ?_); go_simp; (first | (with_reducible refine hK _ ?_) | (with_reducible refine ⟨_, fun _ _ => rfl, hK _ ?_⟩)); clear hK K
  refine wpQuiet_step (fun K hK => ?_); refine q_load (p := .pointer (some ⟨b, 0, none⟩)) 3 _ rfl rfl rfl (load_d1 H1.out) ?_; go_simp; (with_reducible refine hK _ ?_); clear hK K
  refine wpQuiet_step (fun K hK => ?_); refine q_bin _ _ _ _ _ rfl rfl rfl rfl (nei_is HD.out) ?_; go_simp; (with_reducible refine hK _ ?_); clear hK K
  refine wpQuiet_step (fun K hK => ?_); go_simp; (first | (with_reducible refine hK _ ?_) | (with_reducible refine ⟨_, fun _ _ => rfl, hK _ ?_⟩)); clear hK K
  refine wpQuiet_step (fun K hK => ?_); go_simp; (first | (with_reducible refine hK _ ?_) | (with_reducible refine ⟨_, fun _ _ => rfl, hK _ ?_⟩)); clear hK K
  refine wpQuiet_nil ?_
  intro w1 hb1
  have HB1 := Lib.hid (HB.out.trans (hb1.mono HB.out.size)); have H2 := Lib.hid (H1.out.below hb1); have HX2 := Lib.hid (HX.out.below hb1); clear hb1
  go_wp2_with fail
  refine wp_region_below (by kernel_rfl) (by kernel_rfl) ?_
  refine wpQuiet_step (fun K hK => ?_); go_simp; (first | (with_reducible refine hK _ ?_) | (with_reducible refine ⟨_, fun _ _ => rfl, hK _ ?_⟩)); clear hK K
  refine wpQuiet_step (fun K hK => ?_); go_simp; (with_reducible refine ⟨_, fun _ hb => (HN1.out _).mono fun _ _ h => ⟨h.1, hb.trans (h.2.mono (by simpa using hb.size))⟩, hK _ ?_⟩); clear hK K
  refine wpQuiet_step (fun K hK => ?_); go_simp; (first | (with_reducible refine hK _ ?_) | (with_reducible refine ⟨_, fun _ _ => rfl, hK _ ?_⟩)); clear hK K
  refine wpQuiet_step (fun K hK => ?_); go_simp; (first | (with_reducible refine hK _ ?_) | (with_reducible refine ⟨_, fun _ _ => rfl, hK _ ?_⟩)); clear hK K
  refine wpQuiet_step (fun K hK => ?_); go_simp; (first | (with_reducible refine hK _ ?_) | (with_reducible refine ⟨_, fun _ _ => rfl, hK _ ?_⟩)); clear hK K
  refine wpQuiet_step (fun K hK => ?_); go_simp; (first | (with_reducible refine hK _ ?_) | (with_reducible refine ⟨_, fun _ _ => rfl, hK _ ?_⟩)); clear hK K
  refine wpQuiet_step (fun K hK => ?_); go_simp; (first | (with_reducible refine hK _ ?_) | (with_reducible refine ⟨_, fun _ _ => rfl, hK _ ?_⟩)); clear hK K
  refine wpQuiet_step (fun K hK => ?_); refine q_load (p := .pointer (some ⟨b, 1, none⟩)) 55 _ rfl rfl rfl (load_m H2.out) ?_; go_simp; (with_reducible refine hK _ ?_); clear hK K
  refine wpQuiet_step (fun K hK => ?_); refine q_load (p := .pointer (some ⟨w.heap.size, 0, none⟩)) 25 _ rfl rfl rfl (load_t HX2.out) ?_; go_simp; (with_reducible refine hK _ ?_); clear hK K
  refine wpQuiet_step (fun K hK => ?_); refine q_look 55 _ _ rfl rfl rfl rfl (look_c H2.out hW) ?_; go_simp; (with_reducible refine hK _ ?_); clear hK K
  refine wpQuiet_step (fun K hK => ?_); go_simp; (first | (with_reducible refine hK _ ?_) | (with_reducible refine ⟨_, fun _ _ => rfl, hK _ ?_⟩)); clear hK K
  refine wpQuiet_step (fun K hK => ?_); refine q_bin _ _ _ _ _ rfl rfl rfl rfl (add64_is HS.out (by have := HSB.out; omega) (by have := HSB.out; omega)) ?_; go_simp; (with_reducible refine hK _ ?_); clear hK K
  refine wpQuiet_step (fun K hK => ?_); go_simp; (with_reducible refine ⟨_, fun _ hb => (HN2.out _).mono fun _ _ h => ⟨h.1, hb.trans (h.2.mono (by simpa using hb.size))⟩, hK _ ?_⟩); clear hK K
  refine wpQuiet_step (fun K hK => ?_); go_simp; (first | (with_reducible refine hK _ ?_) | (with_reducible refine ⟨_, fun _ _ => rfl, hK _ ?_⟩)); clear hK K
  refine wpQuiet_step (fun K hK => ?_); go_simp; (first | (with_reducible refine hK _ ?_) | (with_reducible refine ⟨_, fun _ _ => rfl, hK _ ?_⟩)); clear hK K
  refine wpQuiet_step (fun K hK => ?_); go_simp; (first | (with_reducible refine hK _ ?_) | (with_reducible refine ⟨_, fun _ _ => rfl, hK _ ?_⟩)); clear hK K
  refine wpQuiet_nil ?_
  intro w2 hb2
  have HB2 := Lib.hid (HB1.out.trans (hb2.mono HB1.out.size)); clear hb2
  go_wp2_with fail
  go_ret
  exact ⟨rfl, HB2.out⟩
set_option maxHeartbeats 4000000 in
theorem add_E {w : World} {base b N : Nat} {m : Option Nat} {d : Int} {L : Cn} (h : Ct w base b m N d L) (hN : N < maxLen) (t : St) (n : Int) (hR : t.R) (hd : t.d = d) (hn : Nr n) (hc : Nr (cnt L t + n)) :
    Calls Try.prog 13 #[.pointer (some ⟨b, 0, none⟩), t.val, .int .i64 n] w (Added w base b m (N + 1) d (addC L t n) 0) := by
  have hbA := (Below.refl w.heap.size w).alloc (Nat.le_refl _) (.cells #[.int .i64 t.d, .int .i64 t.e, .int .i64 t.x, .int .i64 t.y, .int .i64 t.z] 25)
  have h1 := h.below hbA
  have hx := Holds.made w t
  have hr := right_is (decide_eq_true hR) (right_any t)
  have hdd : (t.d != d) = false := by simpa using hd
  have hW := hR.w
  obtain ⟨s, hs⟩ : ∃ s, cnt L t + n = s := ⟨_, rfl⟩
  have HN1 := Lib.hid (near_is (decide_eq_true hn))
  have hsb : -3000000000000 ≤ s ∧ s ≤ 3000000000000 := by
    have h1 := h.nr (t := t); unfold Nr at h1 hn; omega
  have HSB := Lib.hid hsb
  have HN2 := Lib.hid (near_is (decide_eq_true (by rw [← hs]; exact hc)) : ∀ w, Calls Try.prog 34 #[.int .i64 s] w _)
  have HADD := Lib.hid (show addC L t n = if s = 0 then delC L t else insC (t, s) (delC L t) by unfold addC; rw [hs])
  have HSET := Lib.hid (show Nr s by rw [← hs]; exact hc)
  have HRD := Lib.hid (And.intro hR hd)
  have HR := Lib.hid hr; have HX := Lib.hid hx; have H1 := Lib.hid h1; have HB := Lib.hid hbA; have HD := Lib.hid hdd; have HS := Lib.hid hs; have HH := Lib.hid h
  clear hr hx h1 hbA hdd hs h hR hd hn hc hsb
  unfold St.val at *
  go_enter Try.func13, Try.ntmps13
  go_wp2_with fail
  generalize w.alloc (.cells #[.int .i64 t.d, .int .i64 t.e, .int .i64 t.x, .int .i64 t.y, .int .i64 t.z] 25) = w0 at *
  refine wp_region_below (by kernel_rfl) (by kernel_rfl) ?_
  refine wpQuiet_step (fun K hK => ?_); refine q_load (p := .pointer (some ⟨w.heap.size, 0, none⟩)) 25 _ rfl rfl rfl (load_t HX.out) ?_; go_simp; (with_reducible refine hK _ ?_); clear hK K
  refine wpQuiet_step (fun K hK => ?_); go_simp; (with_reducible refine ⟨_, fun _ hb => (HR.out _).mono fun _ _ h => ⟨h.1, hb.trans (h.2.mono (by simpa using hb.size))⟩, hK _ ?_⟩); clear hK K
  refine wpQuiet_step (fun K hK => ?_); go_simp; (first | (with_reducible refine hK _ ?_) | (with_reducible refine ⟨_, fun _ _ => rfl, hK _ ?_⟩)); clear hK K
  refine wpQuiet_step (fun K hK => ?_); go_simp; (first | (with_reducible refine hK _ ?_) | (with_reducible refine ⟨_, fun _ _ => rfl, hK _ ?_⟩)); clear hK K
  refine wpQuiet_step (fun K hK => ?_); go_simp; (first | (with_reducible refine hK _ ?_) | (with_reducible refine ⟨_, fun _ _ => rfl, hK _ ?_⟩)); clear hK K
  refine wpQuiet_step (fun K hK => ?_); refine q_load (p := .pointer (some ⟨w.heap.size, 0, none⟩)) 3 _ rfl rfl rfl (load_d HX.out) ?_; go_simp; (with_reducible refine hK _ ?_); clear hK K
  refine wpQuiet_step (fun K hK => ?_); go_simp; (first | (with_reducible refine hK _ ?_) | (with_reducible refine ⟨_, fun _ _ => rfl, hK _ ?_⟩)); clear hK K
  refine wpQuiet_step (fun K hK => ?_); go_simp; (first | (with_reducible refine hK _ ?_) | (with_reducible refine ⟨_, fun _ _ => rfl, hK _ ?_⟩)); clear hK K
  refine wpQuiet_step (fun K hK => ?_); go_simp; (first | (with_reducible refine hK _ ?_) | (with_reducible refine ⟨_, fun _ _ => rfl, hK _ ?_⟩)); clear hK K
  refine wpQuiet_step (fun K hK => ?_); refine q_load (p := .pointer (some ⟨b, 0, none⟩)) 3 _ rfl rfl rfl (load_d1 H1.out) ?_; go_simp; (with_reducible refine hK _ ?_); clear hK K
  refine wpQuiet_step (fun K hK => ?_); refine q_bin _ _ _ _ _ rfl rfl rfl rfl (nei_is HD.out) ?_; go_simp; (with_reducible refine hK _ ?_); clear hK K
  refine wpQuiet_step (fun K hK => ?_); go_simp; (first | (with_reducible refine hK _ ?_) | (with_reducible refine ⟨_, fun _ _ => rfl, hK _ ?_⟩)); clear hK K
  refine wpQuiet_step (fun K hK => ?_); go_simp; (first | (with_reducible refine hK _ ?_) | (with_reducible refine ⟨_, fun _ _ => rfl, hK _ ?_⟩)); clear hK K
  refine wpQuiet_nil ?_
  intro w1 hb1
  have HB1 := Lib.hid (HB.out.trans (hb1.mono HB.out.size)); have H2 := Lib.hid (H1.out.below hb1); have HX2 := Lib.hid (HX.out.below hb1); clear hb1
  go_wp2_with fail
  refine wp_region_below (by kernel_rfl) (by kernel_rfl) ?_
  refine wpQuiet_step (fun K hK => ?_); go_simp; (first | (with_reducible refine hK _ ?_) | (with_reducible refine ⟨_, fun _ _ => rfl, hK _ ?_⟩)); clear hK K
  refine wpQuiet_step (fun K hK => ?_); go_simp; (with_reducible refine ⟨_, fun _ hb => (HN1.out _).mono fun _ _ h => ⟨h.1, hb.trans (h.2.mono (by simpa using hb.size))⟩, hK _ ?_⟩); clear hK K
  refine wpQuiet_step (fun K hK => ?_); go_simp; (first | (with_reducible refine hK _ ?_) | (with_reducible refine ⟨_, fun _ _ => rfl, hK _ ?_⟩)); clear hK K
  refine wpQuiet_step (fun K hK => ?_); go_simp; (first | (with_reducible refine hK _ ?_) | (with_reducible refine ⟨_, fun _ _ => rfl, hK _ ?_⟩)); clear hK K
  refine wpQuiet_step (fun K hK => ?_); go_simp; (first | (with_reducible refine hK _ ?_) | (with_reducible refine ⟨_, fun _ _ => rfl, hK _ ?_⟩)); clear hK K
  refine wpQuiet_step (fun K hK => ?_); go_simp; (first | (with_reducible refine hK _ ?_) | (with_reducible refine ⟨_, fun _ _ => rfl, hK _ ?_⟩)); clear hK K
  refine wpQuiet_step (fun K hK => ?_); go_simp; (first | (with_reducible refine hK _ ?_) | (with_reducible refine ⟨_, fun _ _ => rfl, hK _ ?_⟩)); clear hK K
  refine wpQuiet_step (fun K hK => ?_); refine q_load (p := .pointer (some ⟨b, 1, none⟩)) 55 _ rfl rfl rfl (load_m H2.out) ?_; go_simp; (with_reducible refine hK _ ?_); clear hK K
  refine wpQuiet_step (fun K hK => ?_); refine q_load (p := .pointer (some ⟨w.heap.size, 0, none⟩)) 25 _ rfl rfl rfl (load_t HX2.out) ?_; go_simp; (with_reducible refine hK _ ?_); clear hK K
  refine wpQuiet_step (fun K hK => ?_); refine q_look 55 _ _ rfl rfl rfl rfl (look_c H2.out hW) ?_; go_simp; (with_reducible refine hK _ ?_); clear hK K
  refine wpQuiet_step (fun K hK => ?_); go_simp; (first | (with_reducible refine hK _ ?_) | (with_reducible refine ⟨_, fun _ _ => rfl, hK _ ?_⟩)); clear hK K
  refine wpQuiet_step (fun K hK => ?_); refine q_bin _ _ _ _ _ rfl rfl rfl rfl (add64_is HS.out (by have := HSB.out; omega) (by have := HSB.out; omega)) ?_; go_simp; (with_reducible refine hK _ ?_); clear hK K
  refine wpQuiet_step (fun K hK => ?_); go_simp; (with_reducible refine ⟨_, fun _ hb => (HN2.out _).mono fun _ _ h => ⟨h.1, hb.trans (h.2.mono (by simpa using hb.size))⟩, hK _ ?_⟩); clear hK K
  refine wpQuiet_step (fun K hK => ?_); go_simp; (first | (with_reducible refine hK _ ?_) | (with_reducible refine ⟨_, fun _ _ => rfl, hK _ ?_⟩)); clear hK K
  refine wpQuiet_step (fun K hK => ?_); go_simp; (first | (with_reducible refine hK _ ?_) | (with_reducible refine ⟨_, fun _ _ => rfl, hK _ ?_⟩)); clear hK K
  refine wpQuiet_step (fun K hK => ?_); go_simp; (first | (with_reducible refine hK _ ?_) | (with_reducible refine ⟨_, fun _ _ => rfl, hK _ ?_⟩)); clear hK K
  refine wpQuiet_nil ?_
  intro w2 hb2
  have HB2 := Lib.hid (HB1.out.trans (hb2.mono HB1.out.size)); have H3 := Lib.hid (H2.out.below hb2); have HX3 := Lib.hid (HX2.out.below hb2); clear hb2 H2 HX2 HB1 H1 HX HB
  go_wp2_with fail
  obtain ⟨w3, hw3⟩ : ∃ w3, w2.drewN 1 = w3 := ⟨_, rfl⟩
  have HB3 := Lib.hid (show Below w.heap.size w w3 by rw [← hw3]; exact below_drewN HB2.out 1)
  have h4 : Ct w3 base b m N d L := by rw [← hw3]; exact H3.out.touch (F := fun _ => False) ((Touch.refl _ _).drewN 1) id fun _ _ => id
  have hx4 : Holds w3 w.heap.size t := by rw [← hw3]; exact HX3.out.drewN 1
  obtain ⟨c0, c1, c2, c3, c4⟩ := hx4.cells5
  have hcm := h4.c1
  have hlk := h4.look hW
  unfold St.val at hlk
  have hsum : IntKind.i64.wrap (cnt L t + n) = s := by rw [HS.out]; exact IntWalk.i64_in _ (by have := HSB.out; omega)
  have hset := set_any h4 hN t HRD.out.1 HRD.out.2 s HSET.out
  rw [← HADD.out] at hset
  have HSE := Lib.hid hset; have H4 := Lib.hid h4; clear h4 hx4 hset
  generalize cnt L t = q at *
  refine wp_tail 10 (by kernel_rfl) (by kernel_rfl) ?_
  rw [hw3]
  simp only [List.take_succ_cons, List.take_zero, List.drop_succ_cons, List.drop_zero]
  repeat still_step
  refine wpStill_nil ?_
  go_wp2_with fail
  unfold St.val at HSE
  refine (HSE.out).mono ?_; rintro e w4 ⟨rfl, m', hct, ht, hm'⟩
  have HF := Lib.hid (And.intro hct (And.intro ht hm')); clear hct ht hm' c0 c1 c2 c3 c4 hcm hlk hsum
  go_wp2_with fail
  go_ret
  refine ⟨rfl, m', HF.out.1, (Touch.of_below HB3.out).trans' HF.out.2.1 fun i hi => .inl hi, ?_⟩
  rcases HF.out.2.2 with e | ⟨k, e, hk⟩
  · exact .inl e
  · exact .inr ⟨k, e, Nat.le_trans HB3.out.size hk⟩
theorem add_any {w : World} {base b N : Nat} {m : Option Nat} {d : Int} {L : Cn} (h : Ct w base b m N d L) (hN : N < maxLen) (t : St) (n : Int) :
    Calls Try.prog 13 #[.pointer (some ⟨b, 0, none⟩), t.val, .int .i64 n] w (Added w base b m (N + 1) d (putC d L t n) (errC d L t n)) := by
  by_cases hR : t.R
  · by_cases hd : t.d = d
    · by_cases hn : Nr n
      · by_cases hc : Nr (cnt L t + n)
        · have e1 : errC d L t n = 0 := by unfold errC; rw [if_pos ⟨hR, hd⟩, if_pos ⟨hn, hc⟩]
          have e2 : putC d L t n = addC L t n := by unfold putC; rw [if_pos ⟨⟨hR, hd⟩, hn, hc⟩]
          rw [e1, e2]; exact add_E h hN t n hR hd hn hc
        · have e1 : errC d L t n = 3 := by unfold errC; rw [if_pos ⟨hR, hd⟩, if_neg fun h => hc h.2]
          have e2 : putC d L t n = L := by unfold putC; rw [if_neg fun h => hc h.2.2]
          rw [e1, e2]; exact (add_D h t n hR hd hn hc).mono fun e w' ⟨he, hb⟩ => by subst he; exact Added.same h hb
      · have e1 : errC d L t n = 3 := by unfold errC; rw [if_pos ⟨hR, hd⟩, if_neg fun h => hn h.1]
        have e2 : putC d L t n = L := by unfold putC; rw [if_neg fun h => hn h.2.1]
        rw [e1, e2]; exact (add_C h t n hR hd hn).mono fun e w' ⟨he, hb⟩ => by subst he; exact Added.same h hb
    · have e1 : errC d L t n = 50 := by unfold errC; rw [if_neg fun h => hd h.2]
      have e2 : putC d L t n = L := by unfold putC; rw [if_neg fun h => hd h.1.2]
      rw [e1, e2]; exact (add_B h t n hR hd).mono fun e w' ⟨he, hb⟩ => by subst he; exact Added.same h hb
  · have e1 : errC d L t n = 50 := by unfold errC; rw [if_neg fun h => hR h.1]
    have e2 : putC d L t n = L := by unfold putC; rw [if_neg fun h => hR h.1.1]
    rw [e1, e2]; exact (add_A h t n hR).mono fun e w' ⟨he, hb⟩ => by subst he; exact Added.same h hb
theorem add_nil (t : St) (n : Int) (w : World) : Calls Try.prog 13 #[.pointer none, t.val, .int .i64 n] w fun e w' => e = .returned (.int .i64 1) ∧ Below w.heap.size w w' := by
  unfold St.val
  go_enter Try.func13, Try.ntmps13
  go_wp2
  go_ret
  exact ⟨rfl, (Below.refl _ _).alloc (Nat.le_refl _) _⟩
end Go.Proofs.Ytkbabmifdfmhlaa
