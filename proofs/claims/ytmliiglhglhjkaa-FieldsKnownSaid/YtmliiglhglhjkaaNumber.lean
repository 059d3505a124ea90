/- The Writer's numbers. -/
import Derived.Test.YtmliiglhglhjkaaRaw
namespace Go.Proofs.Ytmliiglhglhjkaa
open Go.ChangeShapes Go.WideShapes Go.ChangeAt Go.RowKit Go.BigFrame
set_option linter.unusedVariables false
namespace M
/-- a number's bytes, so many -/
def be : Nat → Nat → List Nat
  | 0, _ => []
  | w + 1, n => be w (n / 256) ++ [n % 256]
theorem be_len (w n : Nat) : (be w n).length = w := by
  induction w generalizing n with
  | zero => rfl
  | succ w ih => simp [be, ih]
theorem be_lt (w n : Nat) : ∀ x ∈ be w n, x < 256 := by
  induction w generalizing n with
  | zero => simp [be]
  | succ w ih =>
    intro x hx
    simp only [be, List.mem_append, List.mem_singleton] at hx
    rcases hx with h | rfl
    · exact ih _ x h
    · omega
theorem be_get (w n j : Nat) (h : j < w) : (be w n)[j]? = some (n / 256 ^ (w - 1 - j) % 256) := by
  induction w generalizing n with
  | zero => omega
  | succ w ih =>
    rw [be]
    by_cases hj : j < w
    · rw [List.getElem?_append_left (by rw [be_len]; exact hj), ih _ hj]
      congr 1
      rw [Nat.div_div_eq_div_mul, show w + 1 - 1 - j = (w - 1 - j) + 1 by omega, Nat.pow_succ, Nat.mul_comm]
    · obtain rfl : j = w := by omega
      rw [List.getElem?_append_right (by rw [be_len]; omega), be_len]
      simp
theorem be_drop (w k n : Nat) : (be (w + k) n).drop k = be w n := by
  apply List.ext_getElem?
  intro j
  rw [List.getElem?_drop]
  by_cases hj : j < w
  · rw [be_get _ _ _ (by omega), be_get _ _ _ hj, show w + k - 1 - (k + j) = w - 1 - j by omega]
  · rw [List.getElem?_eq_none (by rw [be_len]; omega), List.getElem?_eq_none (by rw [be_len]; omega)]
theorem be_mod (w n : Nat) : be w (n % 256 ^ w) = be w n := by
  induction w generalizing n with
  | zero => rfl
  | succ w ih =>
    rw [be, be, show n % 256 ^ (w + 1) % 256 = n % 256 from Nat.mod_mod_of_dvd _ (by rw [Nat.pow_succ]; exact Nat.dvd_mul_left _ _)]
    rw [Nat.pow_succ, Nat.mul_comm, Nat.mod_mul_right_div_self, ih]
end M

namespace M
/-- an array of which the first k numbers are set -/
def arr (n k : Nat) : List Nat := (List.range 8).map fun j => if j < k then n / 256 ^ (7 - j) % 256 else 0
theorem arr_len (n k : Nat) : (arr n k).length = 8 := by simp [arr]
theorem arr_get (n k j : Nat) (h : j < 8) : (arr n k)[j]? = some (if j < k then n / 256 ^ (7 - j) % 256 else 0) := by
  rw [arr, List.getElem?_map, List.getElem?_range h]; rfl
theorem arr_set (n k : Nat) : (arr n k).set k (n / 256 ^ (7 - k) % 256) = arr n (k + 1) := by
  apply List.ext_getElem?
  intro j
  by_cases hj : j < 8
  · rw [arr_get _ _ _ hj]
    by_cases e : k = j
    · subst e
      rw [List.getElem?_set_self (by rw [arr_len]; exact hj)]; simp
    · rw [List.getElem?_set_ne e, arr_get _ _ _ hj]
      by_cases h1 : j < k
      · rw [if_pos h1, if_pos (by omega)]
      · rw [if_neg h1, if_neg (by omega)]
  · rw [List.getElem?_eq_none (by simp [arr_len]; omega), List.getElem?_eq_none (by rw [arr_len]; omega)]
theorem arr_full (n : Nat) : arr n 8 = be 8 n := by
  apply List.ext_getElem?
  intro j
  by_cases hj : j < 8
  · rw [arr_get _ _ _ hj, be_get _ _ _ hj, if_pos hj]
  · rw [List.getElem?_eq_none (by rw [arr_len]; omega), List.getElem?_eq_none (by rw [be_len]; omega)]
theorem pow256 (k : Nat) : 2 ^ (8 * k) = 256 ^ k := by rw [Nat.pow_mul]
end M
theorem counting_any (b width : Nat) (w : World) (h1 : 1 ≤ width) (hw : width ≤ 8) :
    Calls Try.prog 37 #[.pointer (some ⟨b, 0, none⟩), .int .i64 (width : Nat)] w fun e w' => e = .returned (.slice (some ⟨b, 8 - width, none⟩) width width) ∧ w = w' := by
  have hsl : ∀ w' : World, (Instr.sliceAt 77 (.pointer (some ⟨b, 0, none⟩)) (some (.int .i64 (8 - (width : Int)))) (some (.int .i64 8)) (some (.int .i64 8))).run Try.prog w' = .ok (.slice (some ⟨b, 8 - width, none⟩) width width) w' := by
    intro w'
    have h5 : (sizeOf (Try.prog.elem 77)).run Try.prog w' = .ok 1 w' := by kernel_rfl
    have h3 : (8 - (width : Int)).toNat = 8 - width := by omega
    have h4 : 8 ≠ 8 - width := by omega
    rw [run_sliceAt_array_lhm (P := Try.prog) (ht := by kernel_rfl) _ _ _ _ _ _ _ _ _ (by omega) (by omega) (by omega) (by rw [show Try.prog.arrayLen 77 = 8 by kernel_rfl]; omega), h5, h3]
    simp only [slicedAt, Result.andThen_ok, show (8 : Int).toNat = 8 from rfl]
    rw [if_neg h4, add_at, show 8 - (8 - width) = width by omega]
    simp
  go_enter Try.func37, Try.ntmps37
  go_wp2_with fail
  go_ret
  exact ⟨rfl, rfl⟩

/-- Byte, Short, Word, Long -/
theorem info_arr8 : (Try.prog.info? 77).map (·.size) = some 8 := by kernel_rfl

set_option maxRecDepth 100000 in
theorem number_any (g n width : Nat) (xs : List Nat) (w : World) (hW : IsWriter w g xs) (hn : n < 18446744073709551616) (h1w : 1 ≤ width) (hw : width ≤ 8) (hm : xs.length ≤ 900000) :
    Calls Try.prog 33 #[.pointer (some ⟨g, 0, none⟩), .int .u64 (n : Nat), .int .i64 (width : Nat)] w fun e w' => e = .returned (.tuple #[]) ∧ IsWriter w' g (xs ++ M.be width n) ∧ w.grownBy w' (some g) := by
  go_enter Try.func33, Try.ntmps33
  go_wp2_with fail
  go_loopw [7, 8] (fun _ i wr => ∃ k : Nat, k ≤ 8 ∧ i = .int .i64 k ∧ Row wr w.heap.size 77 (u8s (M.arr n k)) ∧ Below w.heap.size w wr) (fun _ i _ => 8 - (intOf i).toNat)
  case atStart => exact ⟨0, by omega, rfl, Row.made _ _ _, (Below.refl _ _).alloc (Nat.le_refl _) _⟩
  case round =>
    obtain ⟨k, hk, rfl, hr, hb⟩ := hrel
    by_cases hlt : k < 8
    · have hc := hr.cell k
      have hf := hr.free k
      rw [List.getElem?_map, M.arr_get _ _ _ hlt] at hc
      simp only [Option.map_some, Nat.lt_irrefl, if_false] at hc
      have hr2 := hr.put k (.int .u8 (n / 256 ^ (7 - k) % 256 : Nat))
      rw [u8s, ← List.map_set (f := fun x : Nat => Value.int .u8 (x : Nat)), M.arr_set, ← M.pow256] at hr2
      have hb2 : Below w.heap.size w (wr.setCell ⟨w.heap.size, k, none⟩ (.int .u8 (n / 2 ^ (8 * (7 - k)) % 256 : Nat))) := hb.setCell (Nat.le_refl _) _
      have H := Lib.hid (And.intro hr2 hb2)
      clear hr2 hb2
      go_wp2_with fail
      go_roundw
      case rel =>
        refine ⟨k + 1, by omega, by go_num, ?_⟩
        have := H.out
        push_cast at this ⊢
        exact this
      case measure => simp [intOf]; omega
    · obtain rfl : k = 8 := by omega
      rw [M.arr_full] at hr
      have hlw := hW.lt
      have hB : Bytes wr (some ⟨w.heap.size, 8 - width, none⟩) (M.be width n) := by
        rw [← M.be_drop width (8 - width) n, show width + (8 - width) = 8 by omega]
        refine Bytes.cut (Bytes.of_row hr (M.be_lt 8 n)) (8 - width) ?_
        intro _; simp [add_at]
      have hlen := M.be_len width n
      have hraw := raw_any g xs (M.be width n) (some ⟨w.heap.size, 8 - width, none⟩) width wr (hW.below hb) hB (by rw [hlen]; omega) (by omega) (by intro ad he; cases he; simp; omega) (by rw [hlen]; omega)
      rw [hlen] at hraw
      have Hraw := Lib.hid hraw
      clear hraw hlen
      go_wp2_with fail
      refine (counting_any _ _ _ (by omega) hw).mono ?_; rintro e w' ⟨rfl, rfl⟩
      go_wp2_with fail
      refine (Hraw.out).mono ?_; rintro e w' ⟨rfl, h1, h2⟩
      go_wp2_with fail
      go_end0
      exact ⟨rfl, h1, grown_trans (grown_of_below hb (Nat.le_refl _) _) h2⟩
theorem byte_any (g n : Nat) (xs : List Nat) (w : World) (hW : IsWriter w g xs) (hn : n < 256) (hm : xs.length ≤ 900000) :
    Calls Try.prog 34 #[.pointer (some ⟨g, 0, none⟩), .int .u8 (n : Nat)] w fun e w' => e = .returned (.tuple #[]) ∧ IsWriter w' g (xs ++ M.be 1 n) ∧ w.grownBy w' (some g) := by
  have h := number_any g n 1 xs w hW (by omega) (by omega) (by omega) hm
  have H := Lib.hid h; clear h
  go_enter Try.func34, Try.ntmps34
  go_wp2_with fail
  refine (H.out).mono ?_; rintro e w' ⟨rfl, h1, h2⟩
  go_wp2_with fail
  go_end0
  exact ⟨rfl, h1, h2⟩
theorem short_any (g n : Nat) (xs : List Nat) (w : World) (hW : IsWriter w g xs) (hn : n < 65536) (hm : xs.length ≤ 900000) :
    Calls Try.prog 35 #[.pointer (some ⟨g, 0, none⟩), .int .u16 (n : Nat)] w fun e w' => e = .returned (.tuple #[]) ∧ IsWriter w' g (xs ++ M.be 2 n) ∧ w.grownBy w' (some g) := by
  have h := number_any g n 2 xs w hW (by omega) (by omega) (by omega) hm
  have H := Lib.hid h; clear h
  go_enter Try.func35, Try.ntmps35
  go_wp2_with fail
  refine (H.out).mono ?_; rintro e w' ⟨rfl, h1, h2⟩
  go_wp2_with fail
  go_end0
  exact ⟨rfl, h1, h2⟩
theorem word_any (g n : Nat) (xs : List Nat) (w : World) (hW : IsWriter w g xs) (hn : n < 4294967296) (hm : xs.length ≤ 900000) :
    Calls Try.prog 24 #[.pointer (some ⟨g, 0, none⟩), .int .u32 (n : Nat)] w fun e w' => e = .returned (.tuple #[]) ∧ IsWriter w' g (xs ++ M.be 4 n) ∧ w.grownBy w' (some g) := by
  have h := number_any g n 4 xs w hW (by omega) (by omega) (by omega) hm
  have H := Lib.hid h; clear h
  go_enter Try.func24, Try.ntmps24
  go_wp2_with fail
  refine (H.out).mono ?_; rintro e w' ⟨rfl, h1, h2⟩
  go_wp2_with fail
  go_end0
  exact ⟨rfl, h1, h2⟩
theorem long_any (g n : Nat) (xs : List Nat) (w : World) (hW : IsWriter w g xs) (hn : n < 18446744073709551616) (hm : xs.length ≤ 900000) :
    Calls Try.prog 36 #[.pointer (some ⟨g, 0, none⟩), .int .u64 (n : Nat)] w fun e w' => e = .returned (.tuple #[]) ∧ IsWriter w' g (xs ++ M.be 8 n) ∧ w.grownBy w' (some g) := by
  have h := number_any g n 8 xs w hW (by omega) (by omega) (by omega) hm
  have H := Lib.hid h; clear h
  go_enter Try.func36, Try.ntmps36
  go_wp2_with fail
  refine (H.out).mono ?_; rintro e w' ⟨rfl, h1, h2⟩
  go_wp2_with fail
  go_end0
  exact ⟨rfl, h1, h2⟩
end Go.Proofs.Ytmliiglhglhjkaa
