/- The chapter's examples, which stand in each statement. -/
import Derived.Test.YtmliiglhglhjkaaThings
namespace Go.Proofs.Ytmliiglhglhjkaa
open Go.ChangeShapes Go.WideShapes Go.ChangeAt Go.RowKit Go.BigFrame
set_option linter.unusedVariables false

def four : List Th := [⟨1, 1, ⟨#[]⟩⟩, ⟨2, 2, ⟨#[]⟩⟩, ⟨4, 255, ⟨#[]⟩⟩, ⟨0, 0, ⟨#[7]⟩⟩]
def fourCells : Array Value := #[.int .i8 1, .int .u64 1, .string ⟨#[]⟩, .int .i8 2, .int .u64 2, .string ⟨#[]⟩, .int .i8 4, .int .u64 255, .string ⟨#[]⟩, .int .i8 0, .int .u64 0, .string ⟨#[7]⟩]
theorem four_things (w : World) : Things (w.alloc (.cells fourCells 42)) (some ⟨w.heap.size, 0, none⟩) four := by
  refine ⟨by intro t ht; simp [four] at ht; rcases ht with rfl | rfl | rfl | rfl <;> exact ⟨by decide, by decide⟩, fun _ => ⟨_, _, rfl, by simp, fun i t ht => ?_⟩⟩
  have hc : ∀ j, (w.alloc (.cells fourCells 42)).cell? ⟨w.heap.size, j, none⟩ = fourCells[j]? := fun j => cell_of_row _ w.heap.size j _ _ (0, 0) (heap_alloc_new w _)
  rw [hc, hc, hc]
  match i with
  | 0 => cases ht; exact ⟨rfl, rfl, rfl⟩
  | 1 => cases ht; exact ⟨rfl, rfl, rfl⟩
  | 2 => cases ht; exact ⟨rfl, rfl, rfl⟩
  | 3 => cases ht; exact ⟨rfl, rfl, rfl⟩
  | _ + 4 => simp [four] at ht
theorem four_texts : texts four = [1, 0, 2, 0, 0, 0, 255, 7] := by decide
theorem works_any (w : World) :
    Calls Try.prog 10 #[] w fun e w' => e = .returned (.bool true) ∧ Below w.heap.size w w' := by
  have hall := all_any (some ⟨w.heap.size, 0, none⟩) 4 four _ (four_things w) (by decide) (by decide)
  rw [four_texts] at hall
  have Hall := Lib.hid hall; clear hall
  go_enter Try.func10, Try.ntmps10
  go_wp2_with fail
  refine (Hall.out).mono ?_; rintro e w1 ⟨g, rfl, hg, hW, hb⟩
  dsimp only
  have hb1 : Below w.heap.size w w1 := ((Below.refl _ _).alloc (Nat.le_refl _) _).trans (hb.mono (by simp))
  have hB3 : Bytes (w1.alloc (.cells #[.int .u8 1, .int .u8 2, .int .u8 3] 5)) (some ⟨w1.heap.size, 0, none⟩) [1, 2, 3] := Bytes.made (xs := [1, 2, 3]) w1 5 (0, 0) (by decide)
  have hop := open_any _ 3 [1, 2, 3] _ hB3 (by decide) (by decide) (by simp)
  have Hop := Lib.hid hop; have HW := Lib.hid hW; have Hb1 := Lib.hid hb1; clear hop hW hb hb1 hB3
  go_wp2_with fail
  refine (Hop.out).mono ?_; rintro e w2 ⟨h, rfl, hh, hR, hb2⟩
  dsimp only
  have hlt1 := HW.out.lt
  have hb12 : Below w1.heap.size w1 w2 := ((Below.refl _ _).alloc (Nat.le_refl _) _).trans (hb2.mono (by simp))
  have hgh : g ≠ h := by simp at hh; omega
  have hs1 := rshort_any h [1, 2, 3] false w2 hR (by decide)
  rw [show M.val (M.out (2 : Nat) [1, 2, 3] false) = 258 by decide, show M.rest (2 : Nat) [1, 2, 3] false = [3] by decide, show M.spoil (2 : Nat) [1, 2, 3] false = false by decide] at hs1
  have Hs1 := Lib.hid hs1; have Hb12 := Lib.hid hb12; clear hs1 hb12 hb2 hR
  go_wp2_with fail
  refine (Hs1.out).mono ?_; rintro e w3 ⟨rfl, hR, hg3⟩
  have hs2 := rshort_any h [3] false w3 hR (by decide)
  rw [show M.val (M.out (2 : Nat) [3] false) = 0 by decide, show M.rest (2 : Nat) [3] false = [] by decide, show M.spoil (2 : Nat) [3] false = true by decide] at hs2
  have Hs2 := Lib.hid hs2; have Hg3 := Lib.hid hg3; clear hs2 hR hg3
  go_wp2_with fail
  refine (Hs2.out).mono ?_; rintro e w4 ⟨rfl, hR, hg4⟩
  have hs3 := rbyte_any h [] true w4 hR (by decide)
  rw [show M.val (M.out (1 : Nat) [] true) = 0 by decide, show M.rest (1 : Nat) [] true = [] by decide, show M.spoil (1 : Nat) [] true = true by decide] at hs3
  have Hs3 := Lib.hid hs3; have Hg4 := Lib.hid hg4; clear hs3 hR hg4
  go_wp2_with fail
  refine (Hs3.out).mono ?_; rintro e w5 ⟨rfl, hR, hg5⟩
  have hgr := grown_trans (grown_trans Hg3.out Hg4.out) hg5
  have hb5 : Below w1.heap.size w1 w5 := Hb12.out.trans (below_of_grown hgr Hb12.out.size (by simp at hh; omega))
  have hW5 := HW.out.below hb5
  have hou := out_any g _ w5 hW5 (by decide)
  rw [show ([1, 0, 2, 0, 0, 0, 255, 7] : List Nat).length = 8 from rfl] at hou
  have Hou := Lib.hid hou; have HR := Lib.hid hR; have Hb5 := Lib.hid hb5; clear hou hR hb5 hgr hg5 hW5
  go_wp2_with fail
  refine (Hou.out).mono ?_; rintro e w6 ⟨b, rfl, hb6, hrow, hbl⟩
  dsimp only
  have hB6 := Bytes.of_row hrow (by decide)
  have hcv := conv_bytes (P := Try.prog) (w := w6) Try.underlying23 Try.underlying5 Try.underlying9 hB6 8
  rw [show ([1, 0, 2, 0, 0, 0, 255, 7] : List Nat).length = 8 from rfl] at hcv
  have hbad := bad_any h [] true w6 (HR.out.below hbl)
  have hse : (strOf [1, 0, 2, 0, 0, 0, 255, 7]).toList = [1, 0, 2, 0, 0, 0, 255, 7] := by decide +kernel
  have Hbad := Lib.hid hbad; have Hbl := Lib.hid hbl; clear hbad hbl hB6 hrow
  generalize strOf [1, 0, 2, 0, 0, 0, 255, 7] = str at *
  have hte : (str.toList == ([1, 0, 2, 0, 0, 0, 255, 7] : List UInt8)) = true := by rw [hse]; rfl
  clear hse
  go_wp2_with fail
  refine (Hbad.out).mono ?_; rintro e w7 ⟨rfl, rfl⟩
  go_wp2_with fail
  go_ret
  exact ⟨rfl, Hb1.out.trans ((Hb5.out.mono Hb1.out.size).trans (Hbl.out.mono (Nat.le_trans Hb1.out.size Hb5.out.size)))⟩
end Go.Proofs.Ytmliiglhglhjkaa
