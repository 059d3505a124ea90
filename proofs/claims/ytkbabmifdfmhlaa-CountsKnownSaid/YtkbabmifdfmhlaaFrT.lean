/- The times of the chapter's examples. -/
import Derived.Test.YtkbabmifdfmhlaaFrOf
namespace Go.Proofs.Ytkbabmifdfmhlaa
open Go.ChangeShapes Go.WideShapes Go.ChangeAt Go.RowKit Go.BigFrame Go.Shelf
set_option linter.unusedVariables false
set_option maxRecDepth 100000
def tS (a b : Int) : St := ⟨1, a, b, 0, 0⟩
theorem t_any (a b : Int) (w : World) : Calls Try.prog 62 #[.int .i64 a, .int .i64 b] w fun e w' => e = .returned (.agg #[.int .i64 1, .int .i64 a, .int .i64 b, .int .i64 0, .int .i64 0]) ∧ Below w.heap.size w w' := by
  go_enter Try.func62, Try.ntmps62
  go_wp2_with fail
  refine bodyPost_ret (v := .agg #[.int .i64 1, .int .i64 a, .int .i64 b, .int .i64 0, .int .i64 0]) (results_cell_row rfl _ _ w.heap.size 25 _ (0, 0) _ rfl (heap_alloc_new w _) Try.underlying25 rfl (by kernel_rfl)) rfl ?_
  exact ⟨rfl, (Below.refl _ _).alloc (Nat.le_refl _) _⟩
def times4 : List St := [tS 1 2, tS 2 1, tS 2 2, tS 1 2]
def front2 : List St := [tS 1 2, tS 2 1]
theorem times4_of : ofS times4 = front2 := by decide +kernel
theorem times4_even : Even times4 := by unfold Even times4; decide +kernel
theorem fr2 : Fr front2 := ⟨by unfold front2; decide +kernel, by unfold front2; decide +kernel, by unfold front2; decide +kernel, by unfold front2; decide +kernel⟩
theorem fr_one {t : St} (h : t.R) : Fr [t] := ⟨by simpa using h, by simp, List.pairwise_singleton _ _, by simp⟩
theorem fr_nil : Fr [] := ⟨by simp, by simp, List.Pairwise.nil, by simp⟩
theorem tS_R {a b : Int} (h1 : 0 ≤ a) (h2 : a < 1000) (h3 : 0 ≤ b) (h4 : b < 16) : (tS a b).R := by
  exact ⟨⟨by show (0 : Int) ≤ 1; omega, by show (1 : Int) ≤ 3; omega⟩, ⟨h1, h2⟩, ⟨h3, h4, fun h => absurd h (by show ¬ (1 : Int) ≤ 0; omega)⟩, ⟨Int.le_refl _, by show (0 : Int) < 16; omega, fun _ => rfl⟩, ⟨Int.le_refl _, by show (0 : Int) < 16; omega, fun _ => rfl⟩⟩
theorem alike_f1 : Alike [tS 1 2] [tS 2 1] := ⟨fr_one (tS_R (by omega) (by omega) (by omega) (by omega)), fr_one (tS_R (by omega) (by omega) (by omega) (by omega)), by decide +kernel⟩
theorem both_f : bothS [tS 1 2] [tS 2 1] = front2 := by decide +kernel
theorem either_f : eitherS [tS 1 2] [tS 2 1] = [tS 2 2] := by decide +kernel
theorem alike_fn : Alike front2 [] := ⟨fr2, fr_nil, by simp⟩
theorem either_fn : eitherS front2 [] = [] := by decide +kernel
theorem in_11 : Inside front2 (tS 1 1) := ⟨⟨fr2, fr_one (tS_R (by omega) (by omega) (by omega) (by omega)), by decide +kernel⟩, by decide +kernel⟩
theorem in_12 : ¬ Inside front2 (tS 1 2) := fun h => h.2 (by decide +kernel)
theorem in_20 : Inside front2 (tS 2 0) := ⟨⟨fr2, fr_one (tS_R (by omega) (by omega) (by omega) (by omega)), by decide +kernel⟩, by decide +kernel⟩
theorem in_33 : ¬ Inside front2 (tS 3 3) := fun h => h.2 (by decide +kernel)
theorem under_fo : Under front2 [tS 2 2] := ⟨⟨fr2, fr_one (tS_R (by omega) (by omega) (by omega) (by omega)), by decide +kernel⟩, by unfold In; decide +kernel⟩
theorem under_of : ¬ Under [tS 2 2] front2 := fun h => absurd h.2 (by unfold In; decide +kernel)
end Go.Proofs.Ytkbabmifdfmhlaa
