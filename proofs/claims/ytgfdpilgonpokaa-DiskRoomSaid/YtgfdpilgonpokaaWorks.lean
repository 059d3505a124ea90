/- works: the chapter's examples. -/
import Derived.Test.YtgfdpilgonpokaaOwn
namespace Go.Proofs.Ytgfdpilgonpokaa
open Go.ChangeShapes Go.WideShapes Go.ChangeAt Go.RowKit Go.BigFrame Go.Maps Go.Sort
set_option linter.unusedVariables false
abbrev sa : ByteArray := ⟨#[97]⟩
def wD1 : DM := ⟨100, [([97], ⟨[1, 2], 0, false⟩)], 1, false, 0⟩
def wD2 : DM := ⟨100, [([97], ⟨[1, 2], 2, true⟩)], 2, false, 0⟩
def wD3 : DM := ⟨100, [([97], ⟨[1, 2, 3, 4], 2, true⟩)], 3, false, 0⟩
def wD4 : DM := ⟨100, [([97], ⟨[1, 2, 3, 4], 2, true⟩)], 3, true, 0⟩
def wD5 : DM := ⟨100, [([97], ⟨[1, 2, 3], 3, true⟩)], 3, false, 0⟩
def wE1 : DM := ⟨9, [([97], ⟨[1], 0, false⟩)], 1, false, 0⟩
def wE2 : DM := ⟨9, [([97], ⟨[1], 0, false⟩)], 1, true, 0⟩
def wE3 : DM := ⟨9, [], 1, false, 0⟩
theorem wk1 : appE (newD 100) sa 2 = 0 ∧ appD (newD 100) sa [1, 2] = wD1 := ⟨by kernel_rfl, by kernel_rfl⟩
theorem wk2 : syncE wD1 sa = 0 ∧ syncD wD1 sa = wD2 := ⟨by kernel_rfl, by kernel_rfl⟩
theorem wk3 : appE wD2 sa 2 = 0 ∧ appD wD2 sa [3, 4] = wD3 := ⟨by kernel_rfl, by kernel_rfl⟩
theorem wk4 : crashD wD3 = wD4 := by kernel_rfl
theorem wk5 : onD wD4 [1] = wD5 := by kernel_rfl
theorem wk6 : readB wD5 sa = [1, 2, 3] ∧ findE wD5 sa [] = 0 := ⟨by kernel_rfl, by kernel_rfl⟩
theorem wk7 : appE (newD 9) sa 1 = 0 ∧ appD (newD 9) sa [1] = wE1 := ⟨by kernel_rfl, by kernel_rfl⟩
theorem wk8 : crashD wE1 = wE2 := by kernel_rfl
theorem wk9 : onD wE2 [] = wE3 := by kernel_rfl
set_option maxRecDepth 100000 in
set_option maxHeartbeats 4000000 in
theorem works_any (w : World) : Calls Try.prog 10 #[] w fun e w' => e = .returned (.bool true) ∧ Below w.heap.size w w' := by
  have hn := own_new (w0 := w) (w := w) 100 (Below.refl _ _) (by omega)
  have HN := Lib.hid hn; clear hn
  go_enter Try.func10, Try.ntmps10
  go_wp2_with fail
  refine (HN.out).mono ?_; rintro e w1 ⟨rfl, ho, hb1⟩
  obtain ⟨p, hp⟩ : ∃ p, p = w.heap.size := ⟨_, rfl⟩
  rw [← hp] at ho ⊢
  have HP := Lib.hid hp; clear hp hb1
  -- Append
  have ha := own_append (ho.alloc (.cells (u8s [1, 2]).toArray 5)) sa ⟨w1.heap.size, 0, none⟩ [1, 2] 2 (bytes_lit w1 [1, 2] (by decide)) (fun _ e => by have := (ho.mine _ e).2; simp at this) (by decide) (by decide) (by decide)
  rw [wk1.2] at ha
  have HA := Lib.hid ha; clear ha
  go_wp2_with fail
  refine (HA.out).mono ?_; rintro e w2 ⟨rfl, ho2, -⟩
  rw [show ([1, 2] : List Nat).length = 2 from rfl, wk1.1]
  clear ho
  generalize Ext _ _ _ = F2 at ho2
  have hs := own_sync ho2 sa (by decide) (by decide)
  rw [wk2.1, wk2.2] at hs
  have HS := Lib.hid hs; clear hs ho2
  go_wp2_with fail
  refine (HS.out).mono ?_; rintro e w3 ⟨rfl, ho3, -⟩
  generalize Ext _ _ _ = F3 at ho3
  have ha := own_append (ho3.alloc (.cells (u8s [3, 4]).toArray 5)) sa ⟨w3.heap.size, 0, none⟩ [3, 4] 2 (bytes_lit w3 [3, 4] (by decide)) (fun _ e => by have := (ho3.mine _ e).2; simp at this) (by decide) (by decide) (by decide)
  rw [wk3.2] at ha
  have HA3 := Lib.hid ha; clear ha ho3
  go_wp2_with fail
  refine (HA3.out).mono ?_; rintro e w4 ⟨rfl, ho4, -⟩
  rw [show ([3, 4] : List Nat).length = 2 from rfl, wk3.1]
  generalize Ext _ _ _ = F4 at ho4
  have hc := own_crash ho4
  rw [wk4] at hc
  have HC := Lib.hid hc; clear hc ho4
  go_wp2_with fail
  refine (HC.out).mono ?_; rintro e w5 ⟨rfl, ho5, -⟩
  generalize Ext _ _ _ = F5 at ho5
  have hon := own_on (ho5.alloc (.cells #[.int .i64 1] 3)) (some ⟨w5.heap.size, 0, none⟩) [1] 1 (ints_lit w5 1 (by omega)) (by decide) (by decide) (by intro ad e _ hF; injection e with e; subst e; have := (ho5.mine _ hF).2; simp at this) (by decide)
  rw [wk5] at hon
  have HON := Lib.hid hon; clear hon ho5
  go_wp2_with fail
  refine (HON.out).mono ?_; rintro e w6 ⟨rfl, ho6, -⟩
  generalize Ext _ _ _ = F6 at ho6
  have hrd := own_read ho6 sa (by decide)
  rw [wk6.1, wk6.2] at hrd
  have HRD := Lib.hid hrd; clear hrd ho6
  go_wp2_with fail
  refine (HRD.out).mono ?_; rintro e w7 ⟨A, c, rfl, hB, -, ho7, -⟩
  rw [show ([1, 2, 3] : List Nat).length = 3 from rfl]
  have hn2 := own_new (w0 := w7) (w := w7) 9 (Below.refl _ _) (by omega)
  have HN2 := Lib.hid hn2; have HB := Lib.hid hB; have HO7 := Lib.hid ho7; clear hn2 hB ho7
  go_wp2_with fail
  refine (HN2.out).mono ?_; rintro e w8 ⟨rfl, ho8, -⟩
  obtain ⟨q, hq⟩ : ∃ q, q = w7.heap.size := ⟨_, rfl⟩
  rw [← hq] at ho8 ⊢
  clear hq
  have ha := own_append (ho8.alloc (.cells (u8s [1]).toArray 5)) sa ⟨w8.heap.size, 0, none⟩ [1] 1 (bytes_lit w8 [1] (by decide)) (fun _ e => by have := (ho8.mine _ e).2; simp at this) (by decide) (by decide) (by decide)
  rw [wk7.2] at ha
  have HA8 := Lib.hid ha; clear ha ho8
  go_wp2_with fail
  refine (HA8.out).mono ?_; rintro e w9 ⟨rfl, ho9, -⟩
  generalize Ext _ _ _ = F9 at ho9
  have hc := own_crash ho9
  rw [wk8] at hc
  have HC9 := Lib.hid hc; clear hc ho9
  go_wp2_with fail
  refine (HC9.out).mono ?_; rintro e w10 ⟨rfl, ho10, -⟩
  generalize Ext _ _ _ = F10 at ho10
  have hon := own_on ho10 none [] 0 (ints_none _) (by decide) (by decide) (by intro ad e; cases e) (by decide)
  rw [wk9] at hon
  have HON10 := Lib.hid hon; clear hon ho10
  go_wp2_with fail
  refine (HON10.out).mono ?_; rintro e w11 ⟨rfl, ho11, -⟩
  generalize Ext _ _ _ = F11 at ho11
  have hcv := conv_bytes (P := Try.prog) Try.underlying36 Try.underlying5 Try.underlying9 (HB.out.below ho11.below) c
  rw [show strOf [1, 2, 3] = ⟨#[1, 2, 3]⟩ from rfl, show ([1, 2, 3] : List Nat).length = 3 from rfl] at hcv
  have hnm := own_names ho11 (by decide)
  have HNM := Lib.hid hnm; clear hnm ho11
  go_wp2_with fail
  refine (HNM.out).mono ?_; rintro e w12 ⟨A2, c2, rfl, ho12, -, -⟩
  have H12 := Lib.hid ho12; clear ho12 hcv
  rw [show wE3.fs.length = 0 from rfl]
  go_wp2_with fail
  go_ret
  exact ⟨rfl, HO7.out.below.trans (H12.out.below.mono HO7.out.below.size)⟩
end Go.Proofs.Ytgfdpilgonpokaa
