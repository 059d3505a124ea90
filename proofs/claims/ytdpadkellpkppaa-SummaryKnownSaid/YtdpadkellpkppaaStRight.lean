/- Right: the program's. -/
import Derived.Test.YtdpadkellpkppaaStNear
import Derived.Test.YtdpadkellpkppaaStEq
namespace Go.Proofs.Ytdpadkellpkppaa
open Go.ChangeShapes Go.WideShapes Go.ChangeAt Go.RowKit Go.BigFrame
set_option linter.unusedVariables false
set_option maxRecDepth 100000
theorem R_near (t : St) (n : Nat) (hd : t.d = n) (h3 : n ≤ 3) (h0 : 0 ≤ t.e) (h1 : t.e < 1000) : (t.x = nk n 0 t.x ∧ t.y = nk n 1 t.y ∧ t.z = nk n 2 t.z) ↔ t.R := by
  have k : ∀ (j : Nat) (v : Int), v = nk n j v ↔ (0 ≤ v ∧ v < 16 ∧ (t.d ≤ j → v = 0)) := by
    intro j v
    unfold nk
    by_cases h : j < n
    · rw [if_pos h, eq_comm, nr_eq]; omega
    · rw [if_neg h]; omega
  rw [k 0, k 1, k 2]
  unfold St.R
  omega
/-- three numbers against three others, in the walk's own spelling -/
def same3 (x y z a b c : Int) : Bool := decide (x = a ∧ y = b ∧ z = c)
set_option maxHeartbeats 1000000 in
theorem right_any (t : St) (w : World) : Calls Try.prog 28 #[t.val] w fun e w' => e = .returned (.bool (decide t.R)) ∧ Below w.heap.size w w' := by
  by_cases hd : t.d < 0 ∨ 3 < t.d ∨ t.e < 0 ∨ 1000 ≤ t.e
  · have hf : decide t.R = false := by rw [decide_eq_false_iff_not]; unfold St.R; omega
    rw [hf]; clear hf
    obtain ⟨d, e, x, y, z⟩ := t
    unfold St.val
    simp only at hd ⊢
    have hcase : d < 0 ∨ (0 ≤ d ∧ 3 < d) ∨ (0 ≤ d ∧ d ≤ 3 ∧ e < 0) ∨ (0 ≤ d ∧ d ≤ 3 ∧ 0 ≤ e ∧ 1000 ≤ e) := by omega
    clear hd
    rcases hcase with h | ⟨h, h2⟩ | ⟨h, h2, h3⟩ | ⟨h, h2, h3, h4⟩
    · have t1 : decide (0 ≤ d) = false := by simp; omega
      have t1' : decide (d ≥ 0) = false := by simp; omega
      go_enter Try.func28, Try.ntmps28
      go_wp2_with fail
      go_quiet (fail)
      go_wp2_with fail
      go_ret
      exact ⟨rfl, below_drewN ((Below.refl _ _).alloc (Nat.le_refl _) _) _⟩
    · have t1 : decide (d ≤ 3) = false := by simp; omega
      go_enter Try.func28, Try.ntmps28
      go_wp2_with fail
      go_quiet (fail)
      go_wp2_with fail
      go_ret
      exact ⟨rfl, below_drewN ((Below.refl _ _).alloc (Nat.le_refl _) _) _⟩
    · have t1 : decide (0 ≤ e) = false := by simp; omega
      have t1' : decide (e ≥ 0) = false := by simp; omega
      go_enter Try.func28, Try.ntmps28
      go_wp2_with fail
      go_quiet (fail)
      go_wp2_with fail
      go_ret
      exact ⟨rfl, below_drewN ((Below.refl _ _).alloc (Nat.le_refl _) _) _⟩
    · have t1 : decide (e < 1000) = false := by simp; omega
      go_enter Try.func28, Try.ntmps28
      go_wp2_with fail
      go_quiet (fail)
      go_wp2_with fail
      go_ret
      exact ⟨rfl, below_drewN ((Below.refl _ _).alloc (Nat.le_refl _) _) _⟩
  · obtain ⟨n, hn⟩ : ∃ n : Nat, t.d = n := ⟨t.d.toNat, by omega⟩
    have hr := R_near t n hn (by omega) (by omega) (by omega)
    have hcall := fun w => nearest_any t.d t.e t.x t.y t.z n w hn (by omega)
    have hdec : decide t.R = decide (t.x = nk n 0 t.x ∧ t.y = nk n 1 t.y ∧ t.z = nk n 2 t.z) := by rw [decide_eq_decide]; exact hr.symm
    rw [hdec, show decide (t.x = nk n 0 t.x ∧ t.y = nk n 1 t.y ∧ t.z = nk n 2 t.z) = eqL t.x t.y t.z (nk n 0 t.x) (nk n 1 t.y) (nk n 2 t.z) from rfl]; clear hdec hr
    obtain ⟨d, e, x, y, z⟩ := t
    unfold St.val
    simp only at hd hn hcall ⊢
    have g0 : 0 ≤ d := by omega
    have g1 : d ≤ 3 := by omega
    have g2 : 0 ≤ e := by omega
    have g3 : e < 1000 := by omega
    clear hd hn
    generalize nk n 0 x = p at *
    generalize nk n 1 y = q at *
    generalize nk n 2 z = r at *
    have HC := Lib.hid hcall; clear hcall
    go_enter Try.func28, Try.ntmps28
    go_wp2_with fail
    have hT : Holds (w.alloc (.cells #[.int .i64 d, .int .i64 e, .int .i64 x, .int .i64 y, .int .i64 z] 26)) w.heap.size ⟨d, e, x, y, z⟩ := Holds.made w ⟨d, e, x, y, z⟩
    have HT := Lib.hid hT; clear hT
    refine wp_region_below (by kernel_rfl) (by kernel_rfl) ?_
    repeat (refine wpQuiet_step (fun K hK => ?_); (first
      | ((first
        | (refine q_load (p := .pointer (some ⟨w.heap.size, 0, none⟩)) 26 _ rfl rfl rfl (load_t HT.out) ?_)
        | (refine q_load (p := .pointer (some ⟨w.heap.size, 2, none⟩)) 22 _ rfl rfl rfl (load_l HT.out) ?_)
        | (refine q_load (p := .pointer (some ⟨w.heap.size, 0, none⟩)) 3 _ rfl rfl rfl (load_d HT.out) ?_)
        | (refine q_load (p := .pointer (some ⟨w.heap.size, 1, none⟩)) 3 _ rfl rfl rfl (load_e HT.out) ?_)
        | (refine q_load (p := .pointer (some ⟨w.heap.size, 2, none⟩)) 3 _ rfl rfl rfl (load_x HT.out) ?_)
        | (refine q_load (p := .pointer (some ⟨w.heap.size, 3, none⟩)) 3 _ rfl rfl rfl (load_y HT.out) ?_)
        | (refine q_load (p := .pointer (some ⟨w.heap.size, 4, none⟩)) 3 _ rfl rfl rfl (load_z HT.out) ?_)
        | (refine q_bin _ _ _ _ _ rfl rfl rfl rfl (eq_l _ _ _ _ _ _ _ _) ?_)); go_simp; (with_reducible refine hK _ ?_))
      | (go_simp; (first
        | (with_reducible refine hK _ ?_)
        | (with_reducible refine ⟨_, fun _ _ => rfl, hK _ ?_⟩)
        | (with_reducible refine ⟨_, fun _ hb => (HC.out _).mono fun _ _ h => ⟨h.1, hb.trans (h.2.mono (by simpa using hb.size))⟩, hK _ ?_⟩)))); clear hK K)
    refine wpQuiet_nil ?_
    intro w2 hb2
    go_wp2_with fail
    go_ret
    exact ⟨rfl, ((Below.refl _ _).alloc (Nat.le_refl _) _).trans (hb2.mono (by simp))⟩
end Go.Proofs.Ytdpadkellpkppaa
