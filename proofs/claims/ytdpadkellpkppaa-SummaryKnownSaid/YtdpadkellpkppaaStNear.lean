/- The counters that may be, nearest to a time's own. -/
import Derived.Test.YtdpadkellpkppaaStVal
import Derived.Test.YtdpadkellpkppaaTail
import Derived.Laws.Rows
namespace Go.Proofs.Ytdpadkellpkppaa
open Go.ChangeShapes Go.WideShapes Go.ChangeAt Go.RowKit Go.BigFrame
set_option linter.unusedVariables false
set_option maxRecDepth 100000
def nr (x : Int) : Int := if 15 < if x < 0 then 0 else x then 15 else if x < 0 then 0 else x
theorem nr_eq {x : Int} : nr x = x ↔ 0 ≤ x ∧ x < 16 := by
  unfold nr
  by_cases h : x < 0
  · simp only [if_pos h]; rw [if_neg (by omega)]; omega
  · simp only [if_neg h]
    by_cases h2 : 15 < x
    · rw [if_pos h2]; omega
    · rw [if_neg h2]; omega
def nk (k j : Nat) (x : Int) : Int := if j < k then nr x else 0
theorem row_set3 {w : World} {b : Nat} {t : TypeId} {p q r p' q' r' : Value} (h : Row w b t [p, q, r]) : Row (((w.setCell ⟨b, 0, none⟩ p').setCell ⟨b, 1, none⟩ q').setCell ⟨b, 2, none⟩ r') b t [p', q', r'] :=
  ((h.put 0 p').put 1 q').put 2 r'
set_option maxHeartbeats 1000000 in
theorem nearest_any (d e x y z : Int) (n : Nat) (w : World) (hd : d = n) (h3 : n ≤ 3) :
    Calls Try.prog 42 #[.agg #[.int .i64 d, .int .i64 e, .int .i64 x, .int .i64 y, .int .i64 z]] w fun e w' => e = .returned (.agg #[.int .i64 (nk n 0 x), .int .i64 (nk n 1 y), .int .i64 (nk n 2 z)]) ∧ Below w.heap.size w w' := by
  subst hd
  go_enter Try.func42, Try.ntmps42
  go_wp2_with fail
  go_loopw [7] (fun i wr => ∃ (k : Nat), k ≤ n ∧ i = .int .i64 k ∧ Row wr w.heap.size 26 [.int .i64 n, .int .i64 e, .int .i64 x, .int .i64 y, .int .i64 z] ∧ Row wr (w.heap.size + 1) 22 [.int .i64 0, .int .i64 0, .int .i64 0] ∧ Row wr (w.heap.size + 2) 22 [.int .i64 (nk k 0 x), .int .i64 (nk k 1 y), .int .i64 (nk k 2 z)] ∧ Below w.heap.size w wr) (fun i _ => n - (intOf i).toNat)
  case atStart =>
    refine ⟨0, by omega, rfl, ((Row.made w 26 [.int .i64 (n : Int), .int .i64 e, .int .i64 x, .int .i64 y, .int .i64 z]).alloc _).alloc _, ?_, ?_, ?_⟩
    · have := (Row.made (w.alloc (.cells #[.int .i64 (n : Int), .int .i64 e, .int .i64 x, .int .i64 y, .int .i64 z] 26)) 22 [.int .i64 0, .int .i64 0, .int .i64 0]).alloc (.cells #[.int .i64 0, .int .i64 0, .int .i64 0] 22)
      rwa [size_alloc] at this
    · have := Row.made ((w.alloc (.cells #[.int .i64 (n : Int), .int .i64 e, .int .i64 x, .int .i64 y, .int .i64 z] 26)).alloc (.cells #[.int .i64 0, .int .i64 0, .int .i64 0] 22)) 22 [.int .i64 0, .int .i64 0, .int .i64 0]
      rwa [size_alloc, size_alloc] at this
    · exact (((Below.refl _ _).alloc (Nat.le_refl _) _).alloc (by simp) _).alloc (by simp; omega) _
  case round =>
    obtain ⟨k, hk, rfl, hra, hrr, hrb, hbw⟩ := hrel
    by_cases hlt : k < n
    · have a2 := hra.cell 2; have a3 := hra.cell 3; have a4 := hra.cell 4
      have b0 := hrb.cell 0; have b1 := hrb.cell 1; have b2 := hrb.cell 2
      have f0 := hrb.free 0; have f1 := hrb.free 1; have f2 := hrb.free 2
      simp only [List.getElem?_cons_succ, List.getElem?_cons_zero] at a2 a3 a4 b0 b1 b2
      have HRA := Lib.hid hra; have HRR := Lib.hid hrr; have HRB := Lib.hid hrb; have HBW := Lib.hid hbw; clear hra hrr hrb hbw
      have hcase : k = 0 ∨ k = 1 ∨ k = 2 := by omega
      rcases hcase with rfl | rfl | rfl
      · go_wp2_with fail
        go_roundw
        case rel => exact ⟨1, by omega, rfl, HRA.out.far (by simp; omega) _, HRR.out.far (by simp) _, HRB.out.put 0 _, HBW.out.setCell (by simp; omega) _⟩
        case measure => simp [intOf]; omega
      · go_wp2_with fail
        go_roundw
        case rel => exact ⟨2, by omega, rfl, HRA.out.far (by simp; omega) _, HRR.out.far (by simp) _, HRB.out.put 1 _, HBW.out.setCell (by simp; omega) _⟩
        case measure => simp [intOf]; omega
      · go_wp2_with fail
        go_roundw
        case rel => exact ⟨3, by omega, rfl, HRA.out.far (by simp; omega) _, HRR.out.far (by simp) _, HRB.out.put 2 _, HBW.out.setCell (by simp; omega) _⟩
        case measure => simp [intOf]; omega
    · have hkn : k = n := by omega
      subst hkn
      have b0 := hrb.cell 0; have b1 := hrb.cell 1; have b2 := hrb.cell 2
      have r0 := hrr.cell 0; have r1 := hrr.cell 1; have r2 := hrr.cell 2
      have f0 := hrr.free 0; have f1 := hrr.free 1; have f2 := hrr.free 2
      simp only [List.getElem?_cons_succ, List.getElem?_cons_zero] at b0 b1 b2 r0 r1 r2
      have HRR := Lib.hid hrr; have HRB := Lib.hid hrb; have HBW := Lib.hid hbw; clear hra hrr hrb hbw
      obtain ⟨p, hp⟩ : ∃ p, p = nk k 0 x := ⟨_, rfl⟩
      obtain ⟨q, hq⟩ : ∃ q, q = nk k 1 y := ⟨_, rfl⟩
      obtain ⟨r, hr⟩ : ∃ r, r = nk k 2 z := ⟨_, rfl⟩
      rw [← hp] at b0; rw [← hq] at b1; rw [← hr] at b2
      have HP := Lib.hid hp; have HQ := Lib.hid hq; have HR := Lib.hid hr; clear hp hq hr
      go_wp2_with fail
      refine bodyPost_ret (results_cell_row rfl _ _ (w.heap.size + 1) 22 _ (0, 0) _ rfl (row_set3 HRR.out) Try.underlying22 rfl (by kernel_rfl)) rfl ?_
      exact ⟨by rw [HP.out, HQ.out, HR.out], ((HBW.out.setCell (by simp) _).setCell (by simp) _).setCell (by simp) _⟩
end Go.Proofs.Ytdpadkellpkppaa
