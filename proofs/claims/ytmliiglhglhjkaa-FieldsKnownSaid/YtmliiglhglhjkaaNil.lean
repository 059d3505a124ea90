/- The calls of a Writer and a Reader that there are none of. -/
import Derived.Test.YtmliiglhglhjkaaReadNum
namespace Go.Proofs.Ytmliiglhglhjkaa
open Go.ChangeShapes Go.WideShapes Go.ChangeAt Go.RowKit Go.BigFrame
set_option linter.unusedVariables false
theorem nil_raw (v : Value) (w : World) :
    Calls Try.prog 12 #[.pointer none, v] w fun e w' => e = .returned (.tuple #[]) ∧ w = w' := by
  go_enter Try.func12, Try.ntmps12
  go_wp2_with fail
  (try simp only [Exit.inBlock, Exit.then]); refine bodyPost_ret (results_none rfl _ _ _) rfl ?_
  exact ⟨rfl, rfl⟩
theorem nil_out (w : World) :
    Calls Try.prog 14 #[.pointer none] w fun e w' => e = .returned (.slice none 0 0) ∧ w = w' := by
  go_enter Try.func14, Try.ntmps14
  go_wp2_with fail
  go_ret
  exact ⟨rfl, rfl⟩
theorem nil_bad (w : World) :
    Calls Try.prog 21 #[.pointer none] w fun e w' => e = .returned (.bool true) ∧ w = w' := by
  go_enter Try.func21, Try.ntmps21
  go_wp2_with fail
  go_ret
  exact ⟨rfl, rfl⟩
theorem nil_left (w : World) :
    Calls Try.prog 20 #[.pointer none] w fun e w' => e = .returned (.int .i64 0) ∧ w = w' := by
  go_enter Try.func20, Try.ntmps20
  go_wp2_with fail
  go_ret
  exact ⟨rfl, rfl⟩
theorem nil_next (n : Int) (w : World) :
    Calls Try.prog 29 #[.pointer none, .int .i64 n] w fun e w' => e = .returned (.slice none 0 0) ∧ w = w' := by
  go_enter Try.func29, Try.ntmps29
  go_wp2_with fail
  refine (nil_bad w).mono ?_; rintro e w1 ⟨rfl, rfl⟩
  go_wp2_with fail
  go_ret
  exact ⟨rfl, rfl⟩
theorem nil_rraw (n : Int) (w : World) :
    Calls Try.prog 16 #[.pointer none, .int .i64 n] w fun e w' => ∃ A c, e = .returned (.slice A 0 c) ∧ Below w.heap.size w w' := by
  have hc := clone_any none 0 [] w ⟨by simp, by simp⟩ (by simp) (by simp) (fun _ => rfl)
  have Hc := Lib.hid hc; clear hc
  go_enter Try.func16, Try.ntmps16
  go_wp2_with fail
  refine (nil_next n w).mono ?_; rintro e w1 ⟨rfl, rfl⟩
  go_wp2_with fail
  refine (Hc.out).mono ?_; rintro e w2 ⟨v, rfl, hv, hb⟩
  obtain ⟨A, c, rfl, -⟩ := hv
  dsimp only
  go_wp2_with fail
  go_ret
  exact ⟨A, c, rfl, hb⟩
set_option maxRecDepth 100000 in
theorem nil_number (n width : Nat) (w : World) (hn : n < 18446744073709551616) (h1w : 1 ≤ width) (hw : width ≤ 8) :
    Calls Try.prog 33 #[.pointer none, .int .u64 (n : Nat), .int .i64 (width : Nat)] w fun e w' => e = .returned (.tuple #[]) ∧ Below w.heap.size w w' := by
  go_enter Try.func33, Try.ntmps33
  go_wp2_with fail
  go_loopw [7, 8] (fun _ i wr => ∃ k : Nat, k ≤ 8 ∧ i = .int .i64 k ∧ Row wr w.heap.size 77 (u8s (M.arr n k)) ∧ Below w.heap.size w wr) (fun _ i _ => 8 - (intOf i).toNat)
  case atStart => exact ⟨0, by omega, rfl, Row.made _ _ _, (Below.refl _ _).alloc (Nat.le_refl _) _⟩
  case round =>
    obtain ⟨k, hk, rfl, hr, hb⟩ := hrel
    by_cases hlt : k < 8
    · have hc := hr.cell k
      have hf := hr.free k
      rw [List.getElem?_map, M.arr_get _ _ _ hlt] at hc
      simp only [Option.map_some, Nat.lt_irrefl, if_false] at hc
      have hr2 := hr.put k (.int .u8 (n / 256 ^ (7 - k) % 256 : Nat))
      rw [u8s, ← List.map_set (f := fun x : Nat => Value.int .u8 (x : Nat)), M.arr_set, ← M.pow256] at hr2
      have hb2 : Below w.heap.size w (wr.setCell ⟨w.heap.size, k, none⟩ (.int .u8 (n / 2 ^ (8 * (7 - k)) % 256 : Nat))) := hb.setCell (Nat.le_refl _) _
      have H := Lib.hid (And.intro hr2 hb2)
      clear hr2 hb2
      go_wp2_with fail
      go_roundw
      case rel =>
        refine ⟨k + 1, by omega, by go_num, ?_⟩
        have := H.out
        push_cast at this ⊢
        exact this
      case measure => simp [intOf]; omega
    · obtain rfl : k = 8 := by omega
      have Hb := Lib.hid hb
      clear hr hb
      go_wp2_with fail
      refine (counting_any _ _ _ (by omega) hw).mono ?_; rintro e w' ⟨rfl, rfl⟩
      go_wp2_with fail
      refine (nil_raw _ _).mono ?_; rintro e w' ⟨rfl, rfl⟩
      go_wp2_with fail
      go_end0
      exact ⟨rfl, Hb.out⟩
theorem nil_word (n : Nat) (w : World) (hn : n < 4294967296) :
    Calls Try.prog 24 #[.pointer none, .int .u32 (n : Nat)] w fun e w' => e = .returned (.tuple #[]) ∧ Below w.heap.size w w' := by
  have h := nil_number n 4 w (by omega) (by omega) (by omega)
  have H := Lib.hid h; clear h
  go_enter Try.func24, Try.ntmps24
  go_wp2_with fail
  refine (H.out).mono ?_; rintro e w' ⟨rfl, h1⟩
  go_wp2_with fail
  go_end0
  exact ⟨rfl, h1⟩
set_option maxRecDepth 100000 in
theorem nil_rnumber (width : Nat) (w : World) (h1 : 1 ≤ width) (hw : width ≤ 8) :
    Calls Try.prog 32 #[.pointer none, .int .i64 (width : Nat)] w fun e w' => e = .returned (.int .u64 0) ∧ Below w.heap.size w w' := by
  have hb1 : Below w.heap.size w (w.alloc (.cells (u8s (List.replicate 8 0)).toArray 77)) := (Below.refl _ _).alloc (Nat.le_refl _) _
  have hr1 : Row (w.alloc (.cells (u8s (List.replicate 8 0)).toArray 77)) w.heap.size 77 (u8s (List.replicate 8 0)) := Row.made _ _ _
  have H := Lib.hid hr1; have HB := Lib.hid hb1
  clear hr1 hb1
  go_enter Try.func32, Try.ntmps32
  go_wp2_with fail
  refine (counting_any _ _ _ h1 hw).mono ?_; rintro e w' ⟨rfl, rfl⟩
  go_wp2_with fail
  refine (nil_next _ _).mono ?_; rintro e w1 ⟨rfl, hw1⟩
  dsimp only
  have hr2 : Row w1 w.heap.size 77 (u8s (List.replicate 8 0)) := by rw [← hw1]; exact H.out
  have hbw1 : Below w.heap.size w w1 := by rw [← hw1]; exact HB.out
  have Hbw1 := Lib.hid hbw1; clear hbw1 hw1 HB H
  go_wp2_with (with_reducible refine wpList_copy_at rfl (.tmp 10) (.tmp 13) 23 23 rfl 5 Try.underlying23 (by kernel_rfl) _ _ _ _ _ _ rfl rfl w.heap.size (8 - width) _ 77 hr2 [] (by first | rfl | simp) (fun h0 => absurd h0 (by decide)) (by simp) ?_)
  intro w2 hr3 hg3
  have hrL : Row w2 w.heap.size 77 (u8s (splice (List.replicate 8 0) (8 - width) [])) := by rw [u8s_splice]; exact hr3.out
  have hL8 := M.in_len width [] hw (.inl rfl)
  have hLv := M.val_in width [] hw (.inl rfl)
  have hLb := M.in_lt (8 - width) [] (by simp)
  have hb2 : Below w.heap.size w w2 := Hbw1.out.trans (below_of_grown hg3 Hbw1.out.size (Nat.le_refl _))
  clear hr3 hr2 hg3
  generalize splice (List.replicate 8 0) (8 - width) [] = L at *
  have HL8 := Lib.hid hL8; have HLv := Lib.hid hLv; have Hb2 := Lib.hid hb2; clear hL8 hLv hb2
  have hsz : ((Try.prog.info? 77).map (·.size)) = some (u8s L).toArray.size := by rw [show (Try.prog.info? 77).map (·.size) = some 8 by kernel_rfl]; simp [HL8.out]
  have Hsz := Lib.hid hsz; clear hsz
  go_wp2_with (refine wpList_load_row rfl 77 (.tmp 5) rfl w.heap.size rfl 77 (u8s L).toArray (0, 0) _ hrL Try.underlying77 rfl Hsz.out ?_)
  go_wp2_with fail
  go_loop [6, 8, 16] (fun n _ i => ∃ k : Nat, k ≤ 8 ∧ i = .int .i64 k ∧ n = .int .u64 (M.val (L.take k) : Nat)) (fun _ _ i => 8 - (intOf i).toNat)
  case atStart => exact ⟨0, by omega, rfl, rfl⟩
  case round =>
    obtain ⟨k, hk, rfl, rfl⟩ := hrel
    by_cases hlt8 : k < 8
    · have hx : L[k]? = some (L.getD k 0) := by rw [List.getD_eq_getElem?_getD, List.getElem?_eq_getElem (by rw [HL8.out]; exact hlt8)]; rfl
      have hxi := fun w' => run_index_row L k _ HL8.out hx w'
      have hx8 : L.getD k 0 < 256 := hLb _ (List.mem_of_getElem? hx)
      have hvs : M.val (L.take (k + 1)) = M.val (L.take k) * 256 + L.getD k 0 := by
        rw [List.take_add_one, hx]; exact M.val_snoc _ _
      have hvl : M.val (L.take k) < 256 ^ k := by
        have := M.val_lt (L.take k) (fun x hx => hLb x (List.mem_of_mem_take hx))
        rwa [List.length_take, HL8.out, Nat.min_eq_left (by omega)] at this
      have hvl7 : M.val (L.take k) < 72057594037927936 := Nat.lt_of_lt_of_le hvl (Nat.pow_le_pow_right (n := 256) (by omega) (show k ≤ 7 by omega))
      have Hvs := Lib.hid hvs; have Hvl := Lib.hid hvl; clear hvs hvl hx
      generalize M.val (L.take k) = V at *
      generalize L.getD k 0 = x at *
      go_wp2_with fail
      go_round
      case rel => exact ⟨k + 1, by omega, by go_num, by rw [Hvs.out, M.or_u64 V x hvl7 hx8]⟩
      case measure => simp [intOf]; omega
    · obtain rfl : k = 8 := by omega
      rw [List.take_of_length_le (by rw [HL8.out]; omega), HLv.out]
      go_wp2
      go_ret
      exact ⟨rfl, Hb2.out⟩
theorem nil_long (w : World) :
    Calls Try.prog 25 #[.pointer none] w fun e w' => e = .returned (.int .u64 0) ∧ Below w.heap.size w w' := by
  have h := nil_rnumber 8 w (by omega) (by omega)
  have H := Lib.hid h; clear h
  go_enter Try.func25, Try.ntmps25
  go_wp2_with fail
  refine (H.out).mono ?_; rintro e w' ⟨rfl, h1⟩
  go_wp2_with fail
  go_ret
  exact ⟨rfl, h1⟩
end Go.Proofs.Ytmliiglhglhjkaa
