/- Right of a summary, and what it makes of a place: the document's. -/
import Derived.Test.YtdpadkellpkppaaSmVal
namespace Go.Proofs.Ytdpadkellpkppaa
open Go.ChangeShapes Go.WideShapes Go.ChangeAt Go.RowKit Go.BigFrame
set_option linter.unusedVariables false
set_option maxRecDepth 100000
set_option maxHeartbeats 2000000 in
theorem refRightM_any (s : Sm) (w : World) : Calls Try.prog 17 #[s.v] w fun e w' => e = .returned (.bool (decide s.R)) ∧ Below w.heap.size w w' := by
  obtain ⟨fr, to, kp, ad, x, y, z⟩ := s
  unfold Sm.v
  simp only
  by_cases h1 : fr < 0
  case pos =>
    have hf : decide (Sm.R ⟨fr, to, kp, ad, x, y, z⟩) = false := by rw [decide_eq_false_iff_not]; unfold Sm.R; simp only; omega
    rw [hf]; clear hf
    go_enter Try.func17, Try.ntmps17
    go_wp2
    go_ret
    exact ⟨rfl, (Below.refl _ _).alloc (Nat.le_refl _) _⟩
  by_cases h2 : 3 < fr
  case pos =>
    have hf : decide (Sm.R ⟨fr, to, kp, ad, x, y, z⟩) = false := by rw [decide_eq_false_iff_not]; unfold Sm.R; simp only; omega
    rw [hf]; clear hf
    go_enter Try.func17, Try.ntmps17
    go_wp2
    go_ret
    exact ⟨rfl, (Below.refl _ _).alloc (Nat.le_refl _) _⟩
  by_cases h3 : to < 0
  case pos =>
    have hf : decide (Sm.R ⟨fr, to, kp, ad, x, y, z⟩) = false := by rw [decide_eq_false_iff_not]; unfold Sm.R; simp only; omega
    rw [hf]; clear hf
    go_enter Try.func17, Try.ntmps17
    go_wp2
    go_ret
    exact ⟨rfl, (Below.refl _ _).alloc (Nat.le_refl _) _⟩
  by_cases h4 : 3 < to
  case pos =>
    have hf : decide (Sm.R ⟨fr, to, kp, ad, x, y, z⟩) = false := by rw [decide_eq_false_iff_not]; unfold Sm.R; simp only; omega
    rw [hf]; clear hf
    go_enter Try.func17, Try.ntmps17
    go_wp2
    go_ret
    exact ⟨rfl, (Below.refl _ _).alloc (Nat.le_refl _) _⟩
  by_cases h5 : kp < 0
  case pos =>
    have hf : decide (Sm.R ⟨fr, to, kp, ad, x, y, z⟩) = false := by rw [decide_eq_false_iff_not]; unfold Sm.R; simp only; omega
    rw [hf]; clear hf
    go_enter Try.func17, Try.ntmps17
    go_wp2
    go_ret
    exact ⟨rfl, (Below.refl _ _).alloc (Nat.le_refl _) _⟩
  by_cases h6 : fr < kp
  case pos =>
    have hf : decide (Sm.R ⟨fr, to, kp, ad, x, y, z⟩) = false := by rw [decide_eq_false_iff_not]; unfold Sm.R; simp only; omega
    rw [hf]; clear hf
    go_enter Try.func17, Try.ntmps17
    go_wp2
    go_ret
    exact ⟨rfl, (Below.refl _ _).alloc (Nat.le_refl _) _⟩
  by_cases h7 : to < kp
  case pos =>
    have hf : decide (Sm.R ⟨fr, to, kp, ad, x, y, z⟩) = false := by rw [decide_eq_false_iff_not]; unfold Sm.R; simp only; omega
    rw [hf]; clear hf
    go_enter Try.func17, Try.ntmps17
    go_wp2
    go_ret
    exact ⟨rfl, (Below.refl _ _).alloc (Nat.le_refl _) _⟩
  by_cases h8 : ad < 0
  case pos =>
    have hf : decide (Sm.R ⟨fr, to, kp, ad, x, y, z⟩) = false := by rw [decide_eq_false_iff_not]; unfold Sm.R; simp only; omega
    rw [hf]; clear hf
    go_enter Try.func17, Try.ntmps17
    go_wp2
    go_ret
    exact ⟨rfl, (Below.refl _ _).alloc (Nat.le_refl _) _⟩
  by_cases h9 : 16 ≤ ad
  case pos =>
    have hf : decide (Sm.R ⟨fr, to, kp, ad, x, y, z⟩) = false := by rw [decide_eq_false_iff_not]; unfold Sm.R; simp only; omega
    rw [hf]; clear hf
    go_enter Try.func17, Try.ntmps17
    go_wp2
    go_ret
    exact ⟨rfl, (Below.refl _ _).alloc (Nat.le_refl _) _⟩
  by_cases h10 : 0 < ad ∧ kp = 0
  case pos =>
    obtain ⟨h10, rfl⟩ := h10
    have hf : decide (Sm.R ⟨fr, to, 0, ad, x, y, z⟩) = false := by rw [decide_eq_false_iff_not]; unfold Sm.R; simp only; intro h; have := h.2.2.2.1.2.2 trivial; omega
    rw [hf]; clear hf
    go_enter Try.func17, Try.ntmps17
    go_wp2
    go_ret
    exact ⟨rfl, (Below.refl _ _).alloc (Nat.le_refl _) _⟩
  by_cases h11 : 0 < ad
  · have h12 : ¬ kp = 0 := fun e => h10 ⟨h11, e⟩
    clear h10
    have hw := IntWalk.i64_in (to - kp) (by omega)
    go_enter Try.func17, Try.ntmps17
    go_wp2
    go_loop [3] (fun i => ∃ k : Nat, k ≤ 3 ∧ i = .int .i64 k ∧ Ok (to - kp) x y z k) (fun i => 3 - (intOf i).toNat)
    case atStart => exact ⟨0, by omega, rfl, by unfold Ok; omega⟩
    case round =>
      obtain ⟨k, hk, rfl, hok⟩ := hrel
      have hcase : k = 0 ∨ k = 1 ∨ k = 2 ∨ k = 3 := by omega
      clear hk
      rcases hcase with rfl | rfl | rfl | rfl
      · go_wp2
        all_goals try simp only [bne_iff_ne, ne_eq, bne_eq_false_iff_eq] at *
        all_goals first
          | (go_round
             case rel => exact ⟨1, by omega, rfl, by unfold Ok at *; omega⟩
             case measure => simp [intOf])
          | (go_ret; exact ⟨ret_bool (by rw [eq_comm, decide_eq_false_iff_not]; unfold Sm.R; simp only; omega), (Below.refl _ _).alloc (Nat.le_refl _) _⟩)
      · go_wp2
        all_goals try simp only [bne_iff_ne, ne_eq, bne_eq_false_iff_eq] at *
        all_goals first
          | (go_round
             case rel => exact ⟨2, by omega, rfl, by unfold Ok at *; omega⟩
             case measure => simp [intOf])
          | (go_ret; exact ⟨ret_bool (by rw [eq_comm, decide_eq_false_iff_not]; unfold Sm.R; simp only; omega), (Below.refl _ _).alloc (Nat.le_refl _) _⟩)
      · go_wp2
        all_goals try simp only [bne_iff_ne, ne_eq, bne_eq_false_iff_eq] at *
        all_goals first
          | (go_round
             case rel => exact ⟨3, by omega, rfl, by unfold Ok at *; omega⟩
             case measure => simp [intOf])
          | (go_ret; exact ⟨ret_bool (by rw [eq_comm, decide_eq_false_iff_not]; unfold Sm.R; simp only; omega), (Below.refl _ _).alloc (Nat.le_refl _) _⟩)
      · go_wp2
        go_ret
        exact ⟨ret_bool (by rw [eq_comm, decide_eq_true_iff]; unfold Ok at hok; unfold Sm.R; simp only; omega), (Below.refl _ _).alloc (Nat.le_refl _) _⟩
  · clear h10
    have hw := IntWalk.i64_in (to - kp) (by omega)
    go_enter Try.func17, Try.ntmps17
    go_wp2
    go_loop [3] (fun i => ∃ k : Nat, k ≤ 3 ∧ i = .int .i64 k ∧ Ok (to - kp) x y z k) (fun i => 3 - (intOf i).toNat)
    case atStart => exact ⟨0, by omega, rfl, by unfold Ok; omega⟩
    case round =>
      obtain ⟨k, hk, rfl, hok⟩ := hrel
      have hcase : k = 0 ∨ k = 1 ∨ k = 2 ∨ k = 3 := by omega
      clear hk
      rcases hcase with rfl | rfl | rfl | rfl
      · go_wp2
        all_goals try simp only [bne_iff_ne, ne_eq, bne_eq_false_iff_eq] at *
        all_goals first
          | (go_round
             case rel => exact ⟨1, by omega, rfl, by unfold Ok at *; omega⟩
             case measure => simp [intOf])
          | (go_ret; exact ⟨ret_bool (by rw [eq_comm, decide_eq_false_iff_not]; unfold Sm.R; simp only; omega), (Below.refl _ _).alloc (Nat.le_refl _) _⟩)
      · go_wp2
        all_goals try simp only [bne_iff_ne, ne_eq, bne_eq_false_iff_eq] at *
        all_goals first
          | (go_round
             case rel => exact ⟨2, by omega, rfl, by unfold Ok at *; omega⟩
             case measure => simp [intOf])
          | (go_ret; exact ⟨ret_bool (by rw [eq_comm, decide_eq_false_iff_not]; unfold Sm.R; simp only; omega), (Below.refl _ _).alloc (Nat.le_refl _) _⟩)
      · go_wp2
        all_goals try simp only [bne_iff_ne, ne_eq, bne_eq_false_iff_eq] at *
        all_goals first
          | (go_round
             case rel => exact ⟨3, by omega, rfl, by unfold Ok at *; omega⟩
             case measure => simp [intOf])
          | (go_ret; exact ⟨ret_bool (by rw [eq_comm, decide_eq_false_iff_not]; unfold Sm.R; simp only; omega), (Below.refl _ _).alloc (Nat.le_refl _) _⟩)
      · go_wp2
        go_ret
        exact ⟨ret_bool (by rw [eq_comm, decide_eq_true_iff]; unfold Ok at hok; unfold Sm.R; simp only; omega), (Below.refl _ _).alloc (Nat.le_refl _) _⟩
end Go.Proofs.Ytdpadkellpkppaa
