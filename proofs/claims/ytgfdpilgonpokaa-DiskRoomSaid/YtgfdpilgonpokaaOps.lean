/- The short calls of a disk. -/
import Derived.Test.YtgfdpilgonpokaaDisk
import Derived.WalkKit
import Derived.ProofKit
import Derived.OpenShut
import Derived.Lib.Hide
import Derived.Outline
import Derived.BigQuiet
import Derived.Laws.LoneSync
import Derived.IntWalk
namespace Go.Proofs.Ytgfdpilgonpokaa
open Go.ChangeShapes Go.WideShapes Go.ChangeAt Go.RowKit Go.BigFrame
set_option linter.unusedVariables false

section
variable {w : World} {p r u dd f : Nat} {m : Option Nat} {o : Bool}
theorem drow (h : Row w p TD (dcells r u m dd o f)) : w.cell? ⟨p, 0, none⟩ = some (.int .i64 (r : Nat)) ∧ w.cell? ⟨p, 1, none⟩ = some (.int .i64 (u : Nat)) ∧ w.cell? ⟨p, 2, none⟩ = some (.map m) ∧
    w.cell? ⟨p, 3, none⟩ = some (.int .i64 (dd : Nat)) ∧ w.cell? ⟨p, 4, none⟩ = some (.bool o) ∧ w.cell? ⟨p, 5, none⟩ = some (.int .u64 (f : Nat)) :=
  ⟨h.cell 0, h.cell 1, h.cell 2, h.cell 3, h.cell 4, h.cell 5⟩
end
theorem arith_add (x : Nat) (w : World) (h : x ≤ 1000000000) : (Op.intArith .add .i64 (x : Nat) 1).run Try.prog w = .ok (.int .i64 ((x + 1 : Nat) : Int)) w := by
  have e : IntKind.i64.wrap ((x : Int) + 1) = x + 1 := IntWalk.i64_in _ (by omega)
  simp [Op.intArith, go_sem, e]

theorem add_any (p x : Nat) (w : World) (hc : w.cell? ⟨p, 3, none⟩ = some (.int .i64 (x : Nat))) (hz : w.frozen? ⟨p, 3, none⟩ = false) (hx : x ≤ 1000000000) :
    Calls Try.prog 66 #[.pointer (some ⟨p, 3, none⟩), .int .i64 1] w fun e w' => e = .returned (.int .i64 ((x + 1 : Nat) : Int)) ∧ w' = w.setCell ⟨p, 3, none⟩ (.int .i64 ((x + 1 : Nat) : Int)) := by
  have hrun := run_call_add (P := Try.prog) (f := 74) Try.func74 (by kernel_rfl) (by kernel_rfl) (by kernel_rfl) .i64 (by kernel_rfl) (a := ⟨p, 3, none⟩) (x := (x : Nat)) (y := 1) (s := ((x + 1 : Nat) : Int)) hc hz (arith_add x w hx)
  go_enter Try.func66, Try.ntmps66
  go_wp2
  go_ret
  exact ⟨rfl, rfl⟩
theorem load_any (p x : Nat) (w : World) (hc : w.cell? ⟨p, 3, none⟩ = some (.int .i64 (x : Nat))) :
    Calls Try.prog 33 #[.pointer (some ⟨p, 3, none⟩)] w fun e w' => e = .returned (.int .i64 (x : Nat)) ∧ w' = w := by
  have hrun := run_call_load (P := Try.prog) (f := 65) Try.func65 (by kernel_rfl) (by kernel_rfl) (by kernel_rfl) .i64 (by kernel_rfl) (a := ⟨p, 3, none⟩) (x := (x : Nat)) hc
  go_enter Try.func33, Try.ntmps33
  go_wp2
  go_ret
  exact ⟨rfl, rfl⟩
theorem left_any (n m : Int) (w : World) (hn : -9223372036854775808 ≤ n ∧ n ≤ 9223372036854775807) (hm : 1 ≤ m ∧ m ≤ 8388609) :
    Calls Try.prog 67 #[.int .i64 n, .int .i64 m] w fun e w' => e = .returned (.int .i64 (n % m)) ∧ w = w' := by
  obtain ⟨hn1, hn2⟩ := hn
  obtain ⟨hm1, hm2⟩ := hm
  have t1 : n.tmod m < m := Int.tmod_lt_of_pos _ (by omega)
  have t2 : -m < n.tmod m := by have := Int.lt_tmod_of_pos n (show 0 < m by omega); omega
  go_enter Try.func67, Try.ntmps67
  go_wp2
  go_ret
  refine ⟨?_, rfl⟩
  have e : (n.tmod m + m) % m = n % m := by
    rw [Int.add_emod_right, Int.tmod_def, Int.sub_mul_emod_self_left]
  show Ending.returned (.int .i64 ((n.tmod m + m) % m)) = _
  rw [e]
section
variable {w : World} {p r u dd f : Nat} {m : Option Nat} {o : Bool}
theorem crash_any (h : Row w p TD (dcells r u m dd o f)) :
    Calls Try.prog 15 #[.pointer (some ⟨p, 0, none⟩)] w fun e w' => e = .returned (.tuple #[]) ∧ w' = (w.setCell ⟨p, 4, none⟩ (.bool true)).setCell ⟨p, 5, none⟩ (.int .u64 0) := by
  obtain ⟨h0, h1, h2, h3, h4, h5⟩ := drow h
  have hz := h.free
  go_enter Try.func15, Try.ntmps15
  go_wp2
  go_end0
  exact ⟨rfl, rfl⟩
theorem used_any (h : Row w p TD (dcells r u m dd o f)) :
    Calls Try.prog 27 #[.pointer (some ⟨p, 0, none⟩)] w fun e w' => e = .returned (.int .i64 (u : Nat)) ∧ w = w' := by
  obtain ⟨h0, h1, h2, h3, h4, h5⟩ := drow h
  go_enter Try.func27, Try.ntmps27
  go_wp2
  go_ret
  exact ⟨rfl, rfl⟩
theorem steps_any (h : Row w p TD (dcells r u m dd o f)) :
    Calls Try.prog 29 #[.pointer (some ⟨p, 0, none⟩)] w fun e w' => e = .returned (.int .i64 (dd : Nat)) ∧ w = w' := by
  obtain ⟨h0, h1, h2, h3, h4, h5⟩ := drow h
  go_enter Try.func29, Try.ntmps29
  go_wp2_with (go_at_call 33; refine (load_any _ _ _ h3).mono ?_; rintro e w' ⟨rfl, rfl⟩)
  go_ret
  exact ⟨rfl, rfl⟩
theorem off_any (h : Row w p TD (dcells r u m dd o f)) :
    Calls Try.prog 31 #[.pointer (some ⟨p, 0, none⟩)] w fun e w' => e = .returned (.bool o) ∧ w = w' := by
  obtain ⟨h0, h1, h2, h3, h4, h5⟩ := drow h
  go_enter Try.func31, Try.ntmps31
  go_wp2
  go_ret
  exact ⟨rfl, rfl⟩
theorem fail_any (n : Int) (h : Row w p TD (dcells r u m dd o f)) (hn : -9223372036854775808 ≤ n ∧ n ≤ 9223372036854775807) :
    Calls Try.prog 25 #[.pointer (some ⟨p, 0, none⟩), .int .i64 n] w fun e w' => e = .returned (.tuple #[]) ∧ Row w' p TD (dcells r u m dd o (n + 1).toNat) ∧ Touch (· = p) w w' := by
  obtain ⟨h0, h1, h2, h3, h4, h5⟩ := drow h
  have hz := h.free
  by_cases hn0 : 0 ≤ n
  · go_enter Try.func25, Try.ntmps25
    go_wp2
    go_end0
    refine ⟨rfl, ?_, ?_⟩
    · have hp := (h.put 5 (.int .u64 0)).put 5 (.int .u64 (n + 1))
      have e : (((n + 1).toNat : Nat) : Int) = n + 1 := by omega
      unfold dcells
      rw [e]
      exact hp
    · exact ((Touch.refl (· = p) _).setCell (p := ⟨p, 5, none⟩) (.inl rfl) _).setCell (p := ⟨p, 5, none⟩) (.inl rfl) _
  · go_enter Try.func25, Try.ntmps25
    go_wp2
    go_end0
    refine ⟨rfl, ?_, ((Touch.refl (· = p) _).setCell (p := ⟨p, 5, none⟩) (.inl rfl) _)⟩
    have := h.put 5 (.int .u64 0)
    rw [show (n + 1).toNat = 0 by omega]
    exact this
end
theorem new_any (q : Int) (w : World) (hq : -9223372036854775808 ≤ q ∧ q ≤ 9223372036854775807) :
    Calls Try.prog 11 #[.int .i64 q] w fun e w' => e = .returned (.pointer (some ⟨w.heap.size, 0, none⟩)) ∧ w' = w.alloc (.cells (dcells (max q 0).toNat 0 none 0 false 0).toArray TD) := by
  go_enter Try.func11, Try.ntmps11
  go_wp2
  · go_ret
    rw [show (max q 0).toNat = 0 by omega]
    exact ⟨rfl, rfl⟩
  · go_ret
    have : ((max q 0).toNat : Int) = q := by omega
    refine ⟨rfl, ?_⟩
    unfold dcells
    rw [this]
    rfl
end Go.Proofs.Ytgfdpilgonpokaa
