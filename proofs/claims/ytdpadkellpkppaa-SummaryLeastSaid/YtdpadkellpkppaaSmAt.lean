/- What a summary makes of a place: the document's. -/
import Derived.Test.YtdpadkellpkppaaSmVal
namespace Go.Proofs.Ytdpadkellpkppaa
open Go.ChangeShapes Go.WideShapes Go.ChangeAt Go.RowKit Go.BigFrame
set_option linter.unusedVariables false
set_option maxRecDepth 100000
theorem made2 (w : World) (o o' : Obj) : ((w.alloc o).alloc o').heap[w.heap.size + 1]? = some o' := by
  have := heap_alloc_new (w.alloc o) o'
  rwa [size_alloc] at this
set_option maxHeartbeats 4000000 in
theorem refAt_any (s : Sm) (i : Nat) (w : World) (hR : s.R) (hi : (i : Int) < s.to) : Calls Try.prog 31 #[s.v, .int .i64 i] w fun e w' => e = .returned (.agg #[.bool (decide ((i : Int) < s.kp)), .int .i64 (s.N i)]) ∧ Below w.heap.size w w' := by
  have hk : s.kp = 0 ∨ s.kp = 1 ∨ s.kp = 2 ∨ s.kp = 3 := by unfold Sm.R at hR; omega
  have hi3 : i = 0 ∨ i = 1 ∨ i = 2 := by unfold Sm.R at hR; omega
  clear hR hi
  obtain ⟨fr, to, kp, ad, x, y, z⟩ := s
  unfold Sm.v
  simp only at hk ⊢
  rcases hk with rfl | rfl | rfl | rfl <;> rcases hi3 with rfl | rfl | rfl
  all_goals
    simp only [Sm.N, Sm.tl]
    go_enter Try.func31, Try.ntmps31
    go_wp2_with fail
    refine bodyPost_ret (results_cell_row rfl _ _ (w.heap.size + 1) 60 _ (0, 0) _ rfl (made2 _ _ _) Try.underlying60 rfl (by kernel_rfl)) rfl ?_
    exact ⟨rfl, ((Below.refl _ _).alloc (Nat.le_refl _) _).alloc (by simp) _⟩
end Go.Proofs.Ytdpadkellpkppaa
