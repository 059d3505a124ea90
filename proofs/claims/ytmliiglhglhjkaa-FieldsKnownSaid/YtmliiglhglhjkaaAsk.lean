/- FieldsRead, asked of twenty bytes. -/
import Derived.Test.YtmliiglhglhjkaaRead
namespace Go.Proofs.Ytmliiglhglhjkaa
open Go.ChangeShapes Go.WideShapes Go.ChangeAt Go.RowKit Go.BigFrame
set_option linter.unusedVariables false
namespace fieldsKnown
theorem lit_bytes (w : World) (xs : List Nat) (m : Nat × Nat) (hx : ∀ x ∈ xs, x < 256) : Bytes (w.alloc (.cells (u8s xs).toArray 5 m)) (some ⟨w.heap.size, 0, none⟩) xs :=
  ⟨hx, fun _ => ⟨_, rfl, by simp, fun j x hj => by rw [add_zero_off, cell_of_row _ w.heap.size j _ _ _ (heap_alloc_new w _)]; simp [hj]⟩⟩
theorem lit_i16s (w : World) (ns : List Int) (hn : ∀ n ∈ ns, -32768 ≤ n ∧ n ≤ 32767) : I16s (w.alloc (.cells (ns.map (Value.int .i16)).toArray 38)) (some ⟨w.heap.size, 0, none⟩) ns :=
  ⟨hn, fun _ => ⟨_, 0, rfl, by simp, fun j x hj => by rw [Nat.zero_add, cell_of_row _ w.heap.size j _ _ _ (heap_alloc_new w _)]; simp [hj]⟩⟩
theorem ask (w : World) (x : Int) (h0 : -40 ≤ x) (h1 : x ≤ 202) :
    Calls Try.prog 4 #[.slice (some ⟨w.heap.size, 0, none⟩) 20 20, .slice (some ⟨w.heap.size + 1, 0, none⟩) 8 8]
      ((w.alloc (.cells #[.int .u8 48, .int .u8 49, .int .u8 50, .int .u8 51, .int .u8 52, .int .u8 53, .int .u8 54, .int .u8 55, .int .u8 56, .int .u8 57, .int .u8 97, .int .u8 98, .int .u8 99, .int .u8 100, .int .u8 101, .int .u8 102, .int .u8 103, .int .u8 104, .int .u8 105, .int .u8 106] 5 (20, 21))).alloc (.cells #[.int .i16 1, .int .i16 2, .int .i16 x, .int .i16 4, .int .i16 8, .int .i16 (x * 2), .int .i16 0, .int .i16 1] 38))
      fun e w' => e = .returned (.bool true) ∧ Below w.heap.size w w' := by
  obtain ⟨wa, hwa⟩ : ∃ wa, wa = w.alloc (.cells #[.int .u8 48, .int .u8 49, .int .u8 50, .int .u8 51, .int .u8 52, .int .u8 53, .int .u8 54, .int .u8 55, .int .u8 56, .int .u8 57, .int .u8 97, .int .u8 98, .int .u8 99, .int .u8 100, .int .u8 101, .int .u8 102, .int .u8 103, .int .u8 104, .int .u8 105, .int .u8 106] 5 (20, 21)) := ⟨_, rfl⟩
  have hba : Below w.heap.size w wa := by rw [hwa]; exact (Below.refl w.heap.size w).alloc (Nat.le_refl _) _
  have hB : Bytes wa (some ⟨w.heap.size, 0, none⟩) [48, 49, 50, 51, 52, 53, 54, 55, 56, 57, 97, 98, 99, 100, 101, 102, 103, 104, 105, 106] := by rw [hwa]; exact lit_bytes w [48, 49, 50, 51, 52, 53, 54, 55, 56, 57, 97, 98, 99, 100, 101, 102, 103, 104, 105, 106] (20, 21) (by decide)
  have hs : wa.heap.size = w.heap.size + 1 := by rw [hwa]; simp
  rw [← hwa]
  obtain ⟨wb, hwb⟩ : ∃ wb, wb = wa.alloc (.cells #[.int .i16 1, .int .i16 2, .int .i16 x, .int .i16 4, .int .i16 8, .int .i16 (x * 2), .int .i16 0, .int .i16 1] 38) := ⟨_, rfl⟩
  have hbb : Below wa.heap.size wa wb := by rw [hwb]; exact (Below.refl wa.heap.size wa).alloc (Nat.le_refl _) _
  have hI : I16s wb (some ⟨wa.heap.size, 0, none⟩) [1, 2, x, 4, 8, x * 2, 0, 1] := by
    rw [hwb]
    refine lit_i16s wa [1, 2, x, 4, 8, x * 2, 0, 1] ?_
    intro n hn
    simp only [List.mem_cons, List.not_mem_nil, or_false] at hn
    omega
  rw [← hwb, ← hs]
  have h := fieldsRead.walk [48, 49, 50, 51, 52, 53, 54, 55, 56, 57, 97, 98, 99, 100, 101, 102, 103, 104, 105, 106] (some ⟨w.heap.size, 0, none⟩) 20 [1, 2, x, 4, 8, x * 2, 0, 1] (some ⟨wa.heap.size, 0, none⟩) 8 wb (hB.below hbb) (by simp) (by unfold maxLen; omega) (by simp) hI (by unfold maxLen; simp)
  refine Calls.mono h ?_
  rintro e w4 ⟨rfl, hb4⟩
  exact ⟨rfl, (hba.trans (hbb.mono hba.size)).trans (hb4.mono (Nat.le_trans hba.size hbb.size))⟩
end fieldsKnown
end Go.Proofs.Ytmliiglhglhjkaa
