/- The Writer's Raw. -/
import Derived.Test.YtmliiglhglhjkaaFields
import Derived.Test.YtmliiglhglhjkaaRows
import Derived.WalkKit
import Derived.ProofKit
import Derived.OpenShut
import Derived.Lib.Hide
import Derived.Outline
import Derived.BigQuiet
namespace Go.Proofs.Ytmliiglhglhjkaa
open Go.ChangeShapes Go.WideShapes Go.ChangeAt Go.RowKit Go.BigFrame
set_option linter.unusedVariables false

set_option maxRecDepth 100000 in
set_option maxHeartbeats 400000 in
theorem raw_any (g : Nat) (xs bs : List Nat) (A : Option Addr) (c : Nat) (w : World) (hW : IsWriter w g xs) (hB : Bytes w A bs) (hc : bs.length ≤ c) (hcm : c ≤ 9223372036854775807)
    (hA : ∀ ad, A = some ad → ad.block ≠ g) (hm : xs.length + bs.length ≤ 1000000) :
    Calls Try.prog 12 #[.pointer (some ⟨g, 0, none⟩), .slice A bs.length c] w fun e w' => e = .returned (.tuple #[]) ∧ IsWriter w' g (xs ++ bs) ∧ w.grownBy w' (some g) := by
  go_enter Try.func12, Try.ntmps12
  go_wp2_with fail
  go_loopw [1, 4] (fun b _ wr => ∃ k A' c', k ≤ bs.length ∧ b = .slice A' (bs.length - k) c' ∧ Bytes wr A' (bs.drop k) ∧ bs.length - k ≤ c' ∧ c' ≤ 9223372036854775807 ∧ (∀ ad, A' = some ad → ad.block ≠ g) ∧ IsWriter wr g (xs ++ bs.take k) ∧ w.grownBy wr (some g)) (fun b _ _ => lenOf b)
  case atStart => exact ⟨0, A, c, by omega, by simp, by simpa using hB, by omega, hcm, hA, by simpa using hW, World.grownBy.refl w _⟩
  case round =>
    obtain ⟨k, A', c', hk, rfl, hB', hc', hcm', hA', hW', hg'⟩ := hrel
    by_cases hlt : k < bs.length
    · have ht : decide (0 < bs.length - k) = true := decide_eq_true (by omega)
      obtain ⟨P, cs, last, hR, hP, hl, hlb, hx⟩ := hW'
      have hmm : (xs ++ bs.take k).length = xs.length + k := by simp; omega
      rw [hmm] at hR hx
      obtain ⟨m, hmk⟩ : ∃ m, m = xs.length + k := ⟨_, rfl⟩
      rw [← hmk] at hR hx
      have hmb : m ≤ 1000000 := by omega
      have hmx : m = xs.length + k := hmk
      have hP64 := hP.len
      have Hx := Lib.hid hx; clear hx
      have Hl := Lib.hid hl; clear hl
      have Hm := Lib.hid hmk; have HP := Lib.hid hP64; clear hmk hmx hmm hP64
      have hp := hR.cell 0
      have hlen := hR.cell 65
      rw [show (Value.pointer P :: (u8s last ++ [Value.int .i64 (m : Nat)]))[65]? = some (.int .i64 (m : Nat)) from by
        rw [List.getElem?_cons_succ, List.getElem?_append_right (by simp [Hl.out])]; simp [Hl.out]] at hlen
      simp only [List.getElem?_cons_zero] at hp
      obtain ⟨ad, x0, rfl, hbl, _, _, _⟩ := hB'.at_ (k := 0) (by rw [List.length_drop]; omega)
      have hsl : ∀ w' : World, (Instr.sliceAt 61 (.pointer (some ⟨g, 1, none⟩)) (some (.int .i64 ((m : Int) % 64))) none none).run Try.prog w' = .ok (.slice (some ⟨g, 1 + m % 64, none⟩) (64 - m % 64) (64 - m % 64)) w' := by
        intro w'
        have h1 : (0 : Int) ≤ (m : Int) % 64 := by omega
        have h2 : (m : Int) % 64 ≤ (Try.prog.arrayLen 61 : Nat) := by rw [show Try.prog.arrayLen 61 = 64 by kernel_rfl]; omega
        have h3 : ((m : Int) % 64).toNat = m % 64 := by omega
        have h4 : 64 ≠ m % 64 := by omega
        have h5 : (sizeOf (Try.prog.elem 61)).run Try.prog w' = .ok 1 w' := by kernel_rfl
        rw [run_sliceAt_array_l (P := Try.prog) (ht := by kernel_rfl) _ _ _ _ _ h1 h2, h5, h3, show Try.prog.arrayLen 61 = 64 by kernel_rfl]
        simp [slicedAt, h4, Addr.add]
      obtain ⟨n, hn⟩ : ∃ n, n = min (64 - m % 64) (bs.length - k) := ⟨_, rfl⟩
      have hn1 : 1 ≤ n := by omega
      have hn2 : n ≤ bs.length - k := by omega
      have hn3 : n ≤ 64 - m % 64 := by omega
      have Hn := Lib.hid hn; clear hn
      have hyl : ((bs.drop k).take n).length = n := by rw [List.length_take, List.length_drop]; omega
      have hyb : ∀ x ∈ (bs.drop k).take n, x < 256 := fun x hx => hB'.1 x (List.mem_of_mem_take hx)
      have Hcell : ∀ (j x : Nat), ((bs.drop k).take n)[j]? = some x → wr.cell? (ad.add j) = some (.int .u8 (x : Nat)) := by
        intro j x hj
        obtain ⟨ad', e, _, hc⟩ := hB'.2 (by rw [List.length_drop]; omega)
        cases e
        rw [List.getElem?_take] at hj
        split at hj
        · exact hc j x hj
        · cases hj
      obtain ⟨ys, hys⟩ : ∃ ys, ys = (bs.drop k).take n := ⟨_, rfl⟩
      rw [← hys] at hyl hyb Hcell
      have Hys := Lib.hid hys; have Hyl := Lib.hid hyl; have HC := Lib.hid Hcell; clear hys hyl Hcell
      obtain ⟨A2, hA2⟩ : ∃ A2, A2 = (if c' = n then some ad else some (ad.add n)) := ⟨_, rfl⟩
      have hsb : ∀ w' : World, (Instr.sliceAt 23 (.slice (some ad) (bs.length - k) c') (some (.int .i64 (n : Nat))) none none).run Try.prog w' = .ok (.slice A2 (bs.length - k - n) (c' - n)) w' := by
        intro w'
        have h5 : (sizeOf (Try.prog.elem 23)).run Try.prog w' = .ok 1 w' := by kernel_rfl
        rw [run_sliceAt_slice (P := Try.prog) (h := by kernel_rfl), run_slice_l (P := Try.prog) (ht := by kernel_rfl) _ _ _ _ _ _ _ (by omega) (by omega), h5]
        simp [Result.andThen_ok, sliced, hA2]
      have HA2 := Lib.hid hA2; clear hA2
      go_wp2_with fail
      refine Stage.wp_region (by kernel_rfl) (by kernel_rfl) (Stage.one 10 (fun b w' => match b with
        | true => Row w' g 63 (Value.pointer P :: (u8s (splice last (m % 64) ys) ++ [Value.int .i64 (m : Nat)])) ∧ wr.grownBy w' (some g)
        | false => w' = wr.drew)) (Stage.one_start (by simp) rfl) ?_
      refine Stage.wpSt_reads 10 (fun w' => w' = wr.drew) (by kernel_rfl) (Stage.one_before (by kernel_rfl)) ?_
      simp only [List.take_succ_cons, List.take_zero, List.drop_succ_cons, List.drop_zero]
      repeat (go_big_quiet_step (fail))
      refine wpQuiet_nil ?_
      refine Stage.wpSt_do (goInt (n : Nat)) rfl (Stage.one_do ?_) ?_
      · rintro w' rfl
        refine at_copy (.tmp 18) (.tmp 19) 23 23 rfl 5 Try.underlying23 (by kernel_rfl) _ _ _ _ _ _ rfl rfl g (1 + m % 64) _ 63 hR.drew ys n Hyl.out ?_ ?_ ?_ ?_
        · rw [Hn.out]; exact Nat.min_comm _ _
        · intro _
          exact ⟨rfl, ad, rfl, HC.out⟩
        · simp [Hl.out]; omega
        · intro w' h1 h2
          exact ⟨by rw [splice_in Hl.out (by rw [Hyl.out]; omega)] at h1; exact h1, grown_trans (grown_drew wr _) h2⟩
      refine Stage.wpSt_reads 1 (fun _ => True) (by kernel_rfl) (Stage.one_any (by simp)) ?_
      simp only [List.take_succ_cons, List.take_zero, List.drop_succ_cons, List.drop_zero]
      go_simp
      go_big_quiet_step (fail)
      refine wpQuiet_nil (Stage.wpSt_nil (Stage.one_end ?_))
      rintro w1 ⟨hR1, hg1⟩
      have hlen1 := hR1.cell 65
      rw [show (Value.pointer P :: (u8s (splice last (m % 64) ys) ++ [Value.int .i64 (m : Nat)]))[65]? = some (.int .i64 (m : Nat)) from by
        rw [List.getElem?_cons_succ, List.getElem?_append_right (by simp [splice_len Hl.out (by rw [Hyl.out]; omega : m % 64 + ys.length ≤ 64)])]; simp [splice_len Hl.out (by rw [Hyl.out]; omega : m % 64 + ys.length ≤ 64)]] at hlen1
      have hfz := hR1.free 65
      clear hp hlen hsl
      have hAy : ∀ ad2, A2 = some ad2 → ad2.block ≠ g := by
        intro ad2 he
        rw [HA2.out] at he
        split at he <;> (cases he; first | exact hA' ad rfl | (rw [add_block]; exact hA' ad rfl))
      have hBy : ∀ w2 : World, wr.grownBy w2 (some g) → Bytes w2 A2 (bs.drop (k + n)) := by
        intro w2 h2
        rw [← List.drop_drop]
        refine (hB'.grown h2 (fun ad2 he => by cases he; simpa using hA' ad rfl)).cut n ?_
        intro hlt2
        rw [List.length_drop] at hlt2
        rw [HA2.out, if_neg (by omega)]; rfl
      have hPy : ∀ w2 : World, wr.grownBy w2 (some g) → Pieces w2 P cs := fun w2 h2 => hP.grown h2 (fun k' l he hk' => by cases he; exact Row.apart hR hk' (by decide) rfl)
      have hzl : (xs ++ bs.take k).length = m := by rw [Hm.out]; simp; omega
      have hzy : xs ++ bs.take (k + n) = (xs ++ bs.take k) ++ ys := by rw [Hys.out, List.append_assoc, ← List.take_add]
      have HAy := Lib.hid hAy; have HBy := Lib.hid hBy; have HPy := Lib.hid hPy; have Hzl := Lib.hid hzl; have Hzy := Lib.hid hzy; clear hAy hBy hPy hzl hzy
      have hgW : wr.grownBy (w1.setCell ⟨g, 65, none⟩ (.int .i64 ((m : Int) + (n : Int)))) (some g) := grown_trans hg1 (grown_setCell _ _ _)
      have hRW : Row (w1.setCell ⟨g, 65, none⟩ (.int .i64 ((m : Int) + (n : Int)))) g 63 (Value.pointer P :: (u8s (splice last (m % 64) ys) ++ [Value.int .i64 ((m : Int) + (n : Int))])) := by
        have := hR1.put 65 (.int .i64 ((m : Int) + (n : Int)))
        rwa [set_in (splice_len Hl.out (by rw [Hyl.out]; omega))] at this
      by_cases hfull : m % 64 + n = 64
      · have htest : (((m : Int) + (n : Int)) % 64 == 0) = true := by rw [beq_iff_eq]; omega
        go_wp2_with fail
        have hl2 : (splice last (m % 64) ys).length = 64 := splice_len Hl.out (by rw [Hyl.out]; omega)
        have Hl2 := Lib.hid hl2
        have hWs : (w1.setCell ⟨g, 65, none⟩ (.int .i64 ((m : Int) + (n : Int)))).heap.size = w1.heap.size := by simp [World.setCell]
        generalize w1.setCell ⟨g, 65, none⟩ (.int .i64 ((m : Int) + (n : Int))) = W at *
        clear hlen1 hfz hR1 hg1 hl2 hWs
        have hp0 := hRW.cell 0
        simp only [List.getElem?_cons_zero] at hp0
        have hf0 := hRW.free 0
        refine Stage.wp_region (by kernel_rfl) (by kernel_rfl) (Stage.two 10 13 (fun b1 b2 w' => match b1, b2 with
          | false, false => w' = W.drew
          | true, false => Row w' g 63 (Value.pointer P :: (u8s (splice last (m % 64) ys) ++ [Value.int .i64 ((m : Int) + (n : Int))])) ∧ Row w' W.heap.size 66 (.pointer P :: u8s (splice last (m % 64) ys)) ∧ W.grownBy w' (some g)
          | true, true => Row w' g 63 (Value.pointer (some ⟨W.heap.size, 0, none⟩) :: (u8s (splice last (m % 64) ys) ++ [Value.int .i64 ((m : Int) + (n : Int))])) ∧ Row w' W.heap.size 66 (.pointer P :: u8s (splice last (m % 64) ys)) ∧ W.grownBy w' (some g)
          | false, true => False)) (Stage.two_start (by simp) (by simp) rfl) ?_
        refine Stage.wpSt_reads 1 (fun _ => True) (by kernel_rfl) (Stage.two_any (by simp) (by simp)) ?_
        simp only [List.take_succ_cons, List.take_zero, List.drop_succ_cons, List.drop_zero]
        go_big_quiet_step (fail)
        refine wpQuiet_nil ?_
        refine Stage.wpSt_reads 7 (fun w' => w' = W.drew) (by kernel_rfl) (Stage.two_before (by kernel_rfl)) ?_
        simp only [List.take_succ_cons, List.take_zero, List.drop_succ_cons, List.drop_zero]
        repeat (go_big_quiet_step (fail))
        refine wpQuiet_nil ?_
        refine Stage.wpSt_do (.agg (u8s (splice last (m % 64) ys)).toArray) rfl (fun S w' hF hi hS => ?_) ?_
        · obtain ⟨h1, h2⟩ := Stage.two_before (k := 8) (m := 9) (by kernel_rfl) 8 (by omega) (by omega) S w' hF hi hS
          obtain rfl : w' = W.drew := h1
          refine at_load_part 61 (.tmp 45) rfl g 1 rfl _ (u8s (splice last (m % 64) ys)) ?_ Try.underlying61 rfl ?_ h2
          · intro j v hj
            rw [add_at, show W.drew.cell? ⟨g, 1 + j, none⟩ = W.cell? ⟨g, 1 + j, none⟩ from rfl, hRW.cell, Nat.add_comm 1 j, List.getElem?_cons_succ, List.getElem?_append_left ((List.getElem?_eq_some_iff.1 hj).1)]
            exact hj
          · rw [show (Try.prog.info? 61).map (·.size) = some 64 by kernel_rfl]; simp [Hl2.out]
        go_simp
        refine Stage.wpSt_do (.agg (.pointer P :: u8s (splice last (m % 64) ys)).toArray) rfl (fun S w' hF hi hS => ?_) ?_
        · obtain ⟨h1, h2⟩ := Stage.two_before (k := 9) (m := 10) (by kernel_rfl) 9 (by omega) (by omega) S w' hF hi hS
          obtain rfl : w' = W.drew := h1
          exact at_build 66 #[(0, .tmp 42), (1, .tmp 46)] rfl _ [(0, .pointer P), (1, .agg (u8s (splice last (m % 64) ys)).toArray)] rfl (built_piece (P := Try.prog) (fun x y => by kernel_rfl) P (u8s (splice last (m % 64) ys)) (by simp [Hl2.out])) h2
        go_simp
        refine Stage.wpSt_do (.pointer (some ⟨W.heap.size, 0, none⟩)) rfl (Stage.two_first (by decide) (by kernel_rfl) ?_) ?_
        · rintro w' rfl
          refine at_box 66 (.tmp 47) rfl _ rfl _ rfl ⟨hRW.drew.alloc _, Row.made _ _ _, grown_trans (grown_drew W _) (World.grownBy_alloc _ _ _)⟩
        go_simp
        refine Stage.wpSt_reads 2 (fun _ => True) (by kernel_rfl) (Stage.two_any (by simp) (by simp)) ?_
        simp only [List.take_succ_cons, List.take_zero, List.drop_succ_cons, List.drop_zero]
        repeat (go_big_quiet_step (fail))
        refine wpQuiet_nil ?_
        refine Stage.wpSt_do undef rfl (Stage.two_then (by decide) (by kernel_rfl) ?_) ?_
        · rintro w' ⟨h1, h2, h3⟩
          have hc2 := h1.cell 0
          simp only [List.getElem?_cons_zero] at hc2
          have hf2 := h1.free 0
          have hg2 : g ≠ W.heap.size := h1.apart h2 (by decide)
          have h4 := h1.put 0 (.pointer (some ⟨W.heap.size, 0, none⟩))
          have h5 := h2.far (p := ⟨g, 0, none⟩) (Ne.symm hg2) (.pointer (some ⟨W.heap.size, 0, none⟩))
          have h6 := grown_trans h3 (grown_setCell w' ⟨g, 0, none⟩ (.pointer (some ⟨W.heap.size, 0, none⟩)))
          rw [List.set_cons_zero] at h4
          have H := Lib.hid (And.intro h4 (And.intro h5 h6))
          clear h1 h2 h3 h4 h5 h6 hg2
          unfold Stage.at_
          go_simp
          exact ⟨rfl, H.out⟩
        go_simp
        refine Stage.wpSt_nil (Stage.two_end ?_)
        rintro w3 ⟨h1, h2, h3⟩
        have hgZ := grown_trans hgW h3
        have H1 := Lib.hid h1; have H2 := Lib.hid h2; clear h1 h2
        go_wp2_with fail
        go_roundw
        case rel =>
          refine ⟨k + n, A2, c' - n, by omega, by rw [show bs.length - (k + n) = bs.length - k - n by omega], HBy.out _ hgZ, by omega, by omega, HAy.out, ?_, grown_trans hg' hgZ⟩
          rw [Hzy.out]
          refine writer_full Hzl.out Hx.out Hl.out hlb hyb (by rw [Hyl.out]; omega) ?_ H2.out (HPy.out _ hgZ)
          rw [Hyl.out]
          simpa using H1.out
        case measure => simp [lenOf]; omega
      · have htest : (((m : Int) + (n : Int)) % 64 == 0) = false := by rw [beq_eq_false_iff_ne]; omega
        go_wp2_with fail
        go_roundw
        case rel =>
          refine ⟨k + n, A2, c' - n, by omega, by rw [show bs.length - (k + n) = bs.length - k - n by omega], HBy.out _ hgW, by omega, by omega, HAy.out, ?_, grown_trans hg' hgW⟩
          rw [Hzy.out]
          refine writer_more Hzl.out Hx.out HP.out Hl.out hlb hyb (by rw [Hyl.out]; omega) ?_ (HPy.out _ hgW)
          rw [Hyl.out]
          simpa using hRW
        case measure => simp [lenOf]; omega
    · obtain rfl : k = bs.length := by omega
      have ht : decide (0 < bs.length - bs.length) = false := by simp
      go_wp2
      go_end0
      rw [List.take_length] at hW'
      exact ⟨rfl, hW', hg'⟩
end Go.Proofs.Ytmliiglhglhjkaa
