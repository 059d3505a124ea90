/- Several texts in one: Deed. -/
import Derived.Test.YtiagoaaldpajmaaVg
namespace Go.Proofs.Ytiagoaaldpajmaa
open Go.ChangeShapes Go.WideShapes Go.ChangeAt Go.RowKit Go.BigFrame Go.Maps Go.Sort
set_option linter.unusedVariables false
section
variable {w : World} {p r u dd f : Nat} {m : Option Nat} {o : Bool}
/-- the world once a deed is counted -/
structure Counted (w w1 : World) (p r u : Nat) (m : Option Nat) (dd : Nat) (o : Bool) (f : Nat) : Prop where
  row : Row w1 p TD (dcells r u m (dd + 1) o (f - 1))
  touch : Touch (· = p) w w1
  size : w1.heap.size = w.heap.size
theorem dcells_eq {a b : Int} {r u : Nat} {o : Bool} {d' f' : Nat} (ha : a = (d' : Nat)) (hb : b = (f' : Nat)) : ([.int .i64 (r : Nat), .int .i64 (u : Nat), .map m, .int .i64 a, .bool o, .int .u64 b] : List Value) = dcells r u m d' o f' := by subst ha; subst hb; rfl

set_option maxRecDepth 100000 in
set_option maxHeartbeats 1000000 in
theorem deed_gone_append (caps : Array Value) (h : Row w p TD (dcells r u m dd o 1)) (hd : dd ≤ 1000000000) :
    Calls Try.prog 39 #[.pointer (some ⟨p, 0, none⟩), .func (.func 37) #[] caps] w fun e w' => e = .returned (.int .i64 30) ∧ Row w' p TD (dcells r u m (dd + 1) true 0) ∧ Touch (· = p) w w' ∧ w'.heap.size = w.heap.size := by
  obtain ⟨h0, h1, h2, h3, h4, h5⟩ := drow h
  have hz := h.free
  have hadd := add_any p dd w h3 (hz 3) hd
  have hr1 := h.put 3 (.int .i64 ((dd + 1 : Nat) : Int))
  have hcr := crash_any (w := w.setCell ⟨p, 3, none⟩ (.int .i64 ((dd + 1 : Nat) : Int))) (r := r) (u := u) (m := m) (dd := dd + 1) (o := o) (f := 1) hr1
  have HA := Lib.hid hadd; have HC := Lib.hid hcr; have HR := Lib.hid hr1; clear hadd hcr hr1 h
  generalize hW : w.setCell ⟨p, 3, none⟩ (.int .i64 ((dd + 1 : Nat) : Int)) = W at *
  have hw5 : W.cell? ⟨p, 5, none⟩ = some (.int .u64 1) := HR.out.cell 5
  have HW := Lib.hid hW; clear hW
  go_enter Try.func39, Try.ntmps39
  go_wp2_with fail
  refine (HA.out).mono ?_; rintro e w' ⟨rfl, rfl⟩
  go_wp2_with fail
  refine (HC.out).mono ?_; rintro e w' ⟨rfl, rfl⟩
  go_wp2_with fail
  go_ret
  refine ⟨rfl, (HR.out.put 4 (.bool true)).put 5 (.int .u64 0), ?_, ?_⟩
  · have := HW.out
    subst this
    exact (((Touch.refl (· = p) w).setCell (p := ⟨p, 3, none⟩) (.inl rfl) _).setCell (p := ⟨p, 4, none⟩) (.inl rfl) _).setCell (p := ⟨p, 5, none⟩) (.inl rfl) _
  · have := HW.out
    subst this
    simp
set_option maxRecDepth 100000 in
set_option maxHeartbeats 1000000 in
theorem deed_well_append {Q : World → Prop} (caps : Array Value) (h : Row w p TD (dcells r u m dd o f)) (hd : dd ≤ 1000000000) (hf : f ≠ 1) (hf2 : f ≤ 9223372036854775808)
    (hcl : ∀ w1, Counted w w1 p r u m dd o f → Calls Try.prog 37 caps w1 fun e w2 => e = .returned (.tuple #[]) ∧ Q w2) :
    Calls Try.prog 39 #[.pointer (some ⟨p, 0, none⟩), .func (.func 37) #[] caps] w fun e w' => e = .returned (.int .i64 0) ∧ Q w' := by
  obtain ⟨h0, h1, h2, h3, h4, h5⟩ := drow h
  have hz := h.free
  have hadd := add_any p dd w h3 (hz 3) hd
  have hr1 := h.put 3 (.int .i64 ((dd + 1 : Nat) : Int))
  have HA := Lib.hid hadd; have HR := Lib.hid hr1; have HCL := Lib.hid hcl; clear hadd hr1 h hcl
  generalize hW : w.setCell ⟨p, 3, none⟩ (.int .i64 ((dd + 1 : Nat) : Int)) = W at *
  have hw5 : W.cell? ⟨p, 5, none⟩ = some (.int .u64 (f : Nat)) := HR.out.cell 5
  have hwz : W.frozen? ⟨p, 5, none⟩ = false := HR.out.free 5
  have HW := Lib.hid hW; clear hW
  have hne : ((f : Int) == 1) = false := by simpa using (by omega : ¬ (f : Int) = 1)
  by_cases hlt : 1 < f
  · go_enter Try.func39, Try.ntmps39
    go_wp2_with fail
    refine (HA.out).mono ?_; rintro e w' ⟨rfl, rfl⟩
    go_wp2_with fail
    have hC : Counted w (w'.setCell ⟨p, 5, none⟩ (.int .u64 ((f : Int) - 1))) p r u m dd o f := by
      have e1 : (f : Int) - 1 = ((f - 1 : Nat) : Int) := by omega
      rw [e1]
      refine ⟨HR.out.put 5 (.int .u64 ((f - 1 : Nat) : Int)), ?_, ?_⟩
      · have := HW.out
        subst this
        exact ((Touch.refl (· = p) w).setCell (p := ⟨p, 3, none⟩) (.inl rfl) _).setCell (p := ⟨p, 5, none⟩) (.inl rfl) _
      · have := HW.out
        subst this
        simp
    refine (HCL.out _ hC).mono ?_
    rintro e w2 ⟨rfl, hq⟩
    have HQ := Lib.hid hq; clear hq
    go_wp2_with fail
    go_ret
    exact ⟨rfl, HQ.out⟩
  · go_enter Try.func39, Try.ntmps39
    go_wp2_with fail
    refine (HA.out).mono ?_; rintro e w' ⟨rfl, rfl⟩
    go_wp2_with fail
    have hC : Counted w w' p r u m dd o f := by
      obtain rfl : f = 0 := by omega
      refine ⟨HR.out, ?_, ?_⟩
      · have := HW.out
        subst this
        exact (Touch.refl (· = p) w).setCell (p := ⟨p, 3, none⟩) (.inl rfl) _
      · have := HW.out
        subst this
        simp
    refine (HCL.out _ hC).mono ?_
    rintro e w2 ⟨rfl, hq⟩
    have HQ := Lib.hid hq; clear hq
    go_wp2_with fail
    go_ret
    exact ⟨rfl, HQ.out⟩

set_option maxRecDepth 100000 in
set_option maxHeartbeats 1000000 in
theorem deed_gone_sync (caps : Array Value) (h : Row w p TD (dcells r u m dd o 1)) (hd : dd ≤ 1000000000) :
    Calls Try.prog 39 #[.pointer (some ⟨p, 0, none⟩), .func (.func 52) #[] caps] w fun e w' => e = .returned (.int .i64 30) ∧ Row w' p TD (dcells r u m (dd + 1) true 0) ∧ Touch (· = p) w w' ∧ w'.heap.size = w.heap.size := by
  obtain ⟨h0, h1, h2, h3, h4, h5⟩ := drow h
  have hz := h.free
  have hadd := add_any p dd w h3 (hz 3) hd
  have hr1 := h.put 3 (.int .i64 ((dd + 1 : Nat) : Int))
  have hcr := crash_any (w := w.setCell ⟨p, 3, none⟩ (.int .i64 ((dd + 1 : Nat) : Int))) (r := r) (u := u) (m := m) (dd := dd + 1) (o := o) (f := 1) hr1
  have HA := Lib.hid hadd; have HC := Lib.hid hcr; have HR := Lib.hid hr1; clear hadd hcr hr1 h
  generalize hW : w.setCell ⟨p, 3, none⟩ (.int .i64 ((dd + 1 : Nat) : Int)) = W at *
  have hw5 : W.cell? ⟨p, 5, none⟩ = some (.int .u64 1) := HR.out.cell 5
  have HW := Lib.hid hW; clear hW
  go_enter Try.func39, Try.ntmps39
  go_wp2_with fail
  refine (HA.out).mono ?_; rintro e w' ⟨rfl, rfl⟩
  go_wp2_with fail
  refine (HC.out).mono ?_; rintro e w' ⟨rfl, rfl⟩
  go_wp2_with fail
  go_ret
  refine ⟨rfl, (HR.out.put 4 (.bool true)).put 5 (.int .u64 0), ?_, ?_⟩
  · have := HW.out
    subst this
    exact (((Touch.refl (· = p) w).setCell (p := ⟨p, 3, none⟩) (.inl rfl) _).setCell (p := ⟨p, 4, none⟩) (.inl rfl) _).setCell (p := ⟨p, 5, none⟩) (.inl rfl) _
  · have := HW.out
    subst this
    simp
set_option maxRecDepth 100000 in
set_option maxHeartbeats 1000000 in
theorem deed_well_sync {Q : World → Prop} (caps : Array Value) (h : Row w p TD (dcells r u m dd o f)) (hd : dd ≤ 1000000000) (hf : f ≠ 1) (hf2 : f ≤ 9223372036854775808)
    (hcl : ∀ w1, Counted w w1 p r u m dd o f → Calls Try.prog 52 caps w1 fun e w2 => e = .returned (.tuple #[]) ∧ Q w2) :
    Calls Try.prog 39 #[.pointer (some ⟨p, 0, none⟩), .func (.func 52) #[] caps] w fun e w' => e = .returned (.int .i64 0) ∧ Q w' := by
  obtain ⟨h0, h1, h2, h3, h4, h5⟩ := drow h
  have hz := h.free
  have hadd := add_any p dd w h3 (hz 3) hd
  have hr1 := h.put 3 (.int .i64 ((dd + 1 : Nat) : Int))
  have HA := Lib.hid hadd; have HR := Lib.hid hr1; have HCL := Lib.hid hcl; clear hadd hr1 h hcl
  generalize hW : w.setCell ⟨p, 3, none⟩ (.int .i64 ((dd + 1 : Nat) : Int)) = W at *
  have hw5 : W.cell? ⟨p, 5, none⟩ = some (.int .u64 (f : Nat)) := HR.out.cell 5
  have hwz : W.frozen? ⟨p, 5, none⟩ = false := HR.out.free 5
  have HW := Lib.hid hW; clear hW
  have hne : ((f : Int) == 1) = false := by simpa using (by omega : ¬ (f : Int) = 1)
  by_cases hlt : 1 < f
  · go_enter Try.func39, Try.ntmps39
    go_wp2_with fail
    refine (HA.out).mono ?_; rintro e w' ⟨rfl, rfl⟩
    go_wp2_with fail
    have hC : Counted w (w'.setCell ⟨p, 5, none⟩ (.int .u64 ((f : Int) - 1))) p r u m dd o f := by
      have e1 : (f : Int) - 1 = ((f - 1 : Nat) : Int) := by omega
      rw [e1]
      refine ⟨HR.out.put 5 (.int .u64 ((f - 1 : Nat) : Int)), ?_, ?_⟩
      · have := HW.out
        subst this
        exact ((Touch.refl (· = p) w).setCell (p := ⟨p, 3, none⟩) (.inl rfl) _).setCell (p := ⟨p, 5, none⟩) (.inl rfl) _
      · have := HW.out
        subst this
        simp
    refine (HCL.out _ hC).mono ?_
    rintro e w2 ⟨rfl, hq⟩
    have HQ := Lib.hid hq; clear hq
    go_wp2_with fail
    go_ret
    exact ⟨rfl, HQ.out⟩
  · go_enter Try.func39, Try.ntmps39
    go_wp2_with fail
    refine (HA.out).mono ?_; rintro e w' ⟨rfl, rfl⟩
    go_wp2_with fail
    have hC : Counted w w' p r u m dd o f := by
      obtain rfl : f = 0 := by omega
      refine ⟨HR.out, ?_, ?_⟩
      · have := HW.out
        subst this
        exact (Touch.refl (· = p) w).setCell (p := ⟨p, 3, none⟩) (.inl rfl) _
      · have := HW.out
        subst this
        simp
    refine (HCL.out _ hC).mono ?_
    rintro e w2 ⟨rfl, hq⟩
    have HQ := Lib.hid hq; clear hq
    go_wp2_with fail
    go_ret
    exact ⟨rfl, HQ.out⟩

set_option maxRecDepth 100000 in
set_option maxHeartbeats 1000000 in
theorem deed_gone_cut (caps : Array Value) (h : Row w p TD (dcells r u m dd o 1)) (hd : dd ≤ 1000000000) :
    Calls Try.prog 39 #[.pointer (some ⟨p, 0, none⟩), .func (.func 63) #[] caps] w fun e w' => e = .returned (.int .i64 30) ∧ Row w' p TD (dcells r u m (dd + 1) true 0) ∧ Touch (· = p) w w' ∧ w'.heap.size = w.heap.size := by
  obtain ⟨h0, h1, h2, h3, h4, h5⟩ := drow h
  have hz := h.free
  have hadd := add_any p dd w h3 (hz 3) hd
  have hr1 := h.put 3 (.int .i64 ((dd + 1 : Nat) : Int))
  have hcr := crash_any (w := w.setCell ⟨p, 3, none⟩ (.int .i64 ((dd + 1 : Nat) : Int))) (r := r) (u := u) (m := m) (dd := dd + 1) (o := o) (f := 1) hr1
  have HA := Lib.hid hadd; have HC := Lib.hid hcr; have HR := Lib.hid hr1; clear hadd hcr hr1 h
  generalize hW : w.setCell ⟨p, 3, none⟩ (.int .i64 ((dd + 1 : Nat) : Int)) = W at *
  have hw5 : W.cell? ⟨p, 5, none⟩ = some (.int .u64 1) := HR.out.cell 5
  have HW := Lib.hid hW; clear hW
  go_enter Try.func39, Try.ntmps39
  go_wp2_with fail
  refine (HA.out).mono ?_; rintro e w' ⟨rfl, rfl⟩
  go_wp2_with fail
  refine (HC.out).mono ?_; rintro e w' ⟨rfl, rfl⟩
  go_wp2_with fail
  go_ret
  refine ⟨rfl, (HR.out.put 4 (.bool true)).put 5 (.int .u64 0), ?_, ?_⟩
  · have := HW.out
    subst this
    exact (((Touch.refl (· = p) w).setCell (p := ⟨p, 3, none⟩) (.inl rfl) _).setCell (p := ⟨p, 4, none⟩) (.inl rfl) _).setCell (p := ⟨p, 5, none⟩) (.inl rfl) _
  · have := HW.out
    subst this
    simp
set_option maxRecDepth 100000 in
set_option maxHeartbeats 1000000 in
theorem deed_well_cut {Q : World → Prop} (caps : Array Value) (h : Row w p TD (dcells r u m dd o f)) (hd : dd ≤ 1000000000) (hf : f ≠ 1) (hf2 : f ≤ 9223372036854775808)
    (hcl : ∀ w1, Counted w w1 p r u m dd o f → Calls Try.prog 63 caps w1 fun e w2 => e = .returned (.tuple #[]) ∧ Q w2) :
    Calls Try.prog 39 #[.pointer (some ⟨p, 0, none⟩), .func (.func 63) #[] caps] w fun e w' => e = .returned (.int .i64 0) ∧ Q w' := by
  obtain ⟨h0, h1, h2, h3, h4, h5⟩ := drow h
  have hz := h.free
  have hadd := add_any p dd w h3 (hz 3) hd
  have hr1 := h.put 3 (.int .i64 ((dd + 1 : Nat) : Int))
  have HA := Lib.hid hadd; have HR := Lib.hid hr1; have HCL := Lib.hid hcl; clear hadd hr1 h hcl
  generalize hW : w.setCell ⟨p, 3, none⟩ (.int .i64 ((dd + 1 : Nat) : Int)) = W at *
  have hw5 : W.cell? ⟨p, 5, none⟩ = some (.int .u64 (f : Nat)) := HR.out.cell 5
  have hwz : W.frozen? ⟨p, 5, none⟩ = false := HR.out.free 5
  have HW := Lib.hid hW; clear hW
  have hne : ((f : Int) == 1) = false := by simpa using (by omega : ¬ (f : Int) = 1)
  by_cases hlt : 1 < f
  · go_enter Try.func39, Try.ntmps39
    go_wp2_with fail
    refine (HA.out).mono ?_; rintro e w' ⟨rfl, rfl⟩
    go_wp2_with fail
    have hC : Counted w (w'.setCell ⟨p, 5, none⟩ (.int .u64 ((f : Int) - 1))) p r u m dd o f := by
      have e1 : (f : Int) - 1 = ((f - 1 : Nat) : Int) := by omega
      rw [e1]
      refine ⟨HR.out.put 5 (.int .u64 ((f - 1 : Nat) : Int)), ?_, ?_⟩
      · have := HW.out
        subst this
        exact ((Touch.refl (· = p) w).setCell (p := ⟨p, 3, none⟩) (.inl rfl) _).setCell (p := ⟨p, 5, none⟩) (.inl rfl) _
      · have := HW.out
        subst this
        simp
    refine (HCL.out _ hC).mono ?_
    rintro e w2 ⟨rfl, hq⟩
    have HQ := Lib.hid hq; clear hq
    go_wp2_with fail
    go_ret
    exact ⟨rfl, HQ.out⟩
  · go_enter Try.func39, Try.ntmps39
    go_wp2_with fail
    refine (HA.out).mono ?_; rintro e w' ⟨rfl, rfl⟩
    go_wp2_with fail
    have hC : Counted w w' p r u m dd o f := by
      obtain rfl : f = 0 := by omega
      refine ⟨HR.out, ?_, ?_⟩
      · have := HW.out
        subst this
        exact (Touch.refl (· = p) w).setCell (p := ⟨p, 3, none⟩) (.inl rfl) _
      · have := HW.out
        subst this
        simp
    refine (HCL.out _ hC).mono ?_
    rintro e w2 ⟨rfl, hq⟩
    have HQ := Lib.hid hq; clear hq
    go_wp2_with fail
    go_ret
    exact ⟨rfl, HQ.out⟩

set_option maxRecDepth 100000 in
set_option maxHeartbeats 1000000 in
theorem deed_gone_rename (caps : Array Value) (h : Row w p TD (dcells r u m dd o 1)) (hd : dd ≤ 1000000000) :
    Calls Try.prog 39 #[.pointer (some ⟨p, 0, none⟩), .func (.func 59) #[] caps] w fun e w' => e = .returned (.int .i64 30) ∧ Row w' p TD (dcells r u m (dd + 1) true 0) ∧ Touch (· = p) w w' ∧ w'.heap.size = w.heap.size := by
  obtain ⟨h0, h1, h2, h3, h4, h5⟩ := drow h
  have hz := h.free
  have hadd := add_any p dd w h3 (hz 3) hd
  have hr1 := h.put 3 (.int .i64 ((dd + 1 : Nat) : Int))
  have hcr := crash_any (w := w.setCell ⟨p, 3, none⟩ (.int .i64 ((dd + 1 : Nat) : Int))) (r := r) (u := u) (m := m) (dd := dd + 1) (o := o) (f := 1) hr1
  have HA := Lib.hid hadd; have HC := Lib.hid hcr; have HR := Lib.hid hr1; clear hadd hcr hr1 h
  generalize hW : w.setCell ⟨p, 3, none⟩ (.int .i64 ((dd + 1 : Nat) : Int)) = W at *
  have hw5 : W.cell? ⟨p, 5, none⟩ = some (.int .u64 1) := HR.out.cell 5
  have HW := Lib.hid hW; clear hW
  go_enter Try.func39, Try.ntmps39
  go_wp2_with fail
  refine (HA.out).mono ?_; rintro e w' ⟨rfl, rfl⟩
  go_wp2_with fail
  refine (HC.out).mono ?_; rintro e w' ⟨rfl, rfl⟩
  go_wp2_with fail
  go_ret
  refine ⟨rfl, (HR.out.put 4 (.bool true)).put 5 (.int .u64 0), ?_, ?_⟩
  · have := HW.out
    subst this
    exact (((Touch.refl (· = p) w).setCell (p := ⟨p, 3, none⟩) (.inl rfl) _).setCell (p := ⟨p, 4, none⟩) (.inl rfl) _).setCell (p := ⟨p, 5, none⟩) (.inl rfl) _
  · have := HW.out
    subst this
    simp
set_option maxRecDepth 100000 in
set_option maxHeartbeats 1000000 in
theorem deed_well_rename {Q : World → Prop} (caps : Array Value) (h : Row w p TD (dcells r u m dd o f)) (hd : dd ≤ 1000000000) (hf : f ≠ 1) (hf2 : f ≤ 9223372036854775808)
    (hcl : ∀ w1, Counted w w1 p r u m dd o f → Calls Try.prog 59 caps w1 fun e w2 => e = .returned (.tuple #[]) ∧ Q w2) :
    Calls Try.prog 39 #[.pointer (some ⟨p, 0, none⟩), .func (.func 59) #[] caps] w fun e w' => e = .returned (.int .i64 0) ∧ Q w' := by
  obtain ⟨h0, h1, h2, h3, h4, h5⟩ := drow h
  have hz := h.free
  have hadd := add_any p dd w h3 (hz 3) hd
  have hr1 := h.put 3 (.int .i64 ((dd + 1 : Nat) : Int))
  have HA := Lib.hid hadd; have HR := Lib.hid hr1; have HCL := Lib.hid hcl; clear hadd hr1 h hcl
  generalize hW : w.setCell ⟨p, 3, none⟩ (.int .i64 ((dd + 1 : Nat) : Int)) = W at *
  have hw5 : W.cell? ⟨p, 5, none⟩ = some (.int .u64 (f : Nat)) := HR.out.cell 5
  have hwz : W.frozen? ⟨p, 5, none⟩ = false := HR.out.free 5
  have HW := Lib.hid hW; clear hW
  have hne : ((f : Int) == 1) = false := by simpa using (by omega : ¬ (f : Int) = 1)
  by_cases hlt : 1 < f
  · go_enter Try.func39, Try.ntmps39
    go_wp2_with fail
    refine (HA.out).mono ?_; rintro e w' ⟨rfl, rfl⟩
    go_wp2_with fail
    have hC : Counted w (w'.setCell ⟨p, 5, none⟩ (.int .u64 ((f : Int) - 1))) p r u m dd o f := by
      have e1 : (f : Int) - 1 = ((f - 1 : Nat) : Int) := by omega
      rw [e1]
      refine ⟨HR.out.put 5 (.int .u64 ((f - 1 : Nat) : Int)), ?_, ?_⟩
      · have := HW.out
        subst this
        exact ((Touch.refl (· = p) w).setCell (p := ⟨p, 3, none⟩) (.inl rfl) _).setCell (p := ⟨p, 5, none⟩) (.inl rfl) _
      · have := HW.out
        subst this
        simp
    refine (HCL.out _ hC).mono ?_
    rintro e w2 ⟨rfl, hq⟩
    have HQ := Lib.hid hq; clear hq
    go_wp2_with fail
    go_ret
    exact ⟨rfl, HQ.out⟩
  · go_enter Try.func39, Try.ntmps39
    go_wp2_with fail
    refine (HA.out).mono ?_; rintro e w' ⟨rfl, rfl⟩
    go_wp2_with fail
    have hC : Counted w w' p r u m dd o f := by
      obtain rfl : f = 0 := by omega
      refine ⟨HR.out, ?_, ?_⟩
      · have := HW.out
        subst this
        exact (Touch.refl (· = p) w).setCell (p := ⟨p, 3, none⟩) (.inl rfl) _
      · have := HW.out
        subst this
        simp
    refine (HCL.out _ hC).mono ?_
    rintro e w2 ⟨rfl, hq⟩
    have HQ := Lib.hid hq; clear hq
    go_wp2_with fail
    go_ret
    exact ⟨rfl, HQ.out⟩

set_option maxRecDepth 100000 in
set_option maxHeartbeats 1000000 in
theorem deed_gone_remove (caps : Array Value) (h : Row w p TD (dcells r u m dd o 1)) (hd : dd ≤ 1000000000) :
    Calls Try.prog 39 #[.pointer (some ⟨p, 0, none⟩), .func (.func 42) #[] caps] w fun e w' => e = .returned (.int .i64 30) ∧ Row w' p TD (dcells r u m (dd + 1) true 0) ∧ Touch (· = p) w w' ∧ w'.heap.size = w.heap.size := by
  obtain ⟨h0, h1, h2, h3, h4, h5⟩ := drow h
  have hz := h.free
  have hadd := add_any p dd w h3 (hz 3) hd
  have hr1 := h.put 3 (.int .i64 ((dd + 1 : Nat) : Int))
  have hcr := crash_any (w := w.setCell ⟨p, 3, none⟩ (.int .i64 ((dd + 1 : Nat) : Int))) (r := r) (u := u) (m := m) (dd := dd + 1) (o := o) (f := 1) hr1
  have HA := Lib.hid hadd; have HC := Lib.hid hcr; have HR := Lib.hid hr1; clear hadd hcr hr1 h
  generalize hW : w.setCell ⟨p, 3, none⟩ (.int .i64 ((dd + 1 : Nat) : Int)) = W at *
  have hw5 : W.cell? ⟨p, 5, none⟩ = some (.int .u64 1) := HR.out.cell 5
  have HW := Lib.hid hW; clear hW
  go_enter Try.func39, Try.ntmps39
  go_wp2_with fail
  refine (HA.out).mono ?_; rintro e w' ⟨rfl, rfl⟩
  go_wp2_with fail
  refine (HC.out).mono ?_; rintro e w' ⟨rfl, rfl⟩
  go_wp2_with fail
  go_ret
  refine ⟨rfl, (HR.out.put 4 (.bool true)).put 5 (.int .u64 0), ?_, ?_⟩
  · have := HW.out
    subst this
    exact (((Touch.refl (· = p) w).setCell (p := ⟨p, 3, none⟩) (.inl rfl) _).setCell (p := ⟨p, 4, none⟩) (.inl rfl) _).setCell (p := ⟨p, 5, none⟩) (.inl rfl) _
  · have := HW.out
    subst this
    simp
set_option maxRecDepth 100000 in
set_option maxHeartbeats 1000000 in
theorem deed_well_remove {Q : World → Prop} (caps : Array Value) (h : Row w p TD (dcells r u m dd o f)) (hd : dd ≤ 1000000000) (hf : f ≠ 1) (hf2 : f ≤ 9223372036854775808)
    (hcl : ∀ w1, Counted w w1 p r u m dd o f → Calls Try.prog 42 caps w1 fun e w2 => e = .returned (.tuple #[]) ∧ Q w2) :
    Calls Try.prog 39 #[.pointer (some ⟨p, 0, none⟩), .func (.func 42) #[] caps] w fun e w' => e = .returned (.int .i64 0) ∧ Q w' := by
  obtain ⟨h0, h1, h2, h3, h4, h5⟩ := drow h
  have hz := h.free
  have hadd := add_any p dd w h3 (hz 3) hd
  have hr1 := h.put 3 (.int .i64 ((dd + 1 : Nat) : Int))
  have HA := Lib.hid hadd; have HR := Lib.hid hr1; have HCL := Lib.hid hcl; clear hadd hr1 h hcl
  generalize hW : w.setCell ⟨p, 3, none⟩ (.int .i64 ((dd + 1 : Nat) : Int)) = W at *
  have hw5 : W.cell? ⟨p, 5, none⟩ = some (.int .u64 (f : Nat)) := HR.out.cell 5
  have hwz : W.frozen? ⟨p, 5, none⟩ = false := HR.out.free 5
  have HW := Lib.hid hW; clear hW
  have hne : ((f : Int) == 1) = false := by simpa using (by omega : ¬ (f : Int) = 1)
  by_cases hlt : 1 < f
  · go_enter Try.func39, Try.ntmps39
    go_wp2_with fail
    refine (HA.out).mono ?_; rintro e w' ⟨rfl, rfl⟩
    go_wp2_with fail
    have hC : Counted w (w'.setCell ⟨p, 5, none⟩ (.int .u64 ((f : Int) - 1))) p r u m dd o f := by
      have e1 : (f : Int) - 1 = ((f - 1 : Nat) : Int) := by omega
      rw [e1]
      refine ⟨HR.out.put 5 (.int .u64 ((f - 1 : Nat) : Int)), ?_, ?_⟩
      · have := HW.out
        subst this
        exact ((Touch.refl (· = p) w).setCell (p := ⟨p, 3, none⟩) (.inl rfl) _).setCell (p := ⟨p, 5, none⟩) (.inl rfl) _
      · have := HW.out
        subst this
        simp
    refine (HCL.out _ hC).mono ?_
    rintro e w2 ⟨rfl, hq⟩
    have HQ := Lib.hid hq; clear hq
    go_wp2_with fail
    go_ret
    exact ⟨rfl, HQ.out⟩
  · go_enter Try.func39, Try.ntmps39
    go_wp2_with fail
    refine (HA.out).mono ?_; rintro e w' ⟨rfl, rfl⟩
    go_wp2_with fail
    have hC : Counted w w' p r u m dd o f := by
      obtain rfl : f = 0 := by omega
      refine ⟨HR.out, ?_, ?_⟩
      · have := HW.out
        subst this
        exact (Touch.refl (· = p) w).setCell (p := ⟨p, 3, none⟩) (.inl rfl) _
      · have := HW.out
        subst this
        simp
    refine (HCL.out _ hC).mono ?_
    rintro e w2 ⟨rfl, hq⟩
    have HQ := Lib.hid hq; clear hq
    go_wp2_with fail
    go_ret
    exact ⟨rfl, HQ.out⟩
end
end Go.Proofs.Ytiagoaaldpajmaa
