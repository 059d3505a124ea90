/- A summary as a value, the program's and the document's. -/
import Derived.Test.YtdpadkellpkppaaStRight
import Derived.Test.YtdpadkellpkppaaSumMath
namespace Go.Proofs.Ytdpadkellpkppaa
open Go.ChangeShapes Go.WideShapes Go.ChangeAt Go.RowKit Go.BigFrame
set_option linter.unusedVariables false
@[reducible] def Sm.cells (s : Sm) : List Value := [.int .i64 s.fr, .int .i64 s.to, .int .i64 s.kp, .int .i64 s.ad, .int .i64 s.t0, .int .i64 s.t1, .int .i64 s.t2]
@[reducible] def Sm.v (s : Sm) : Value := .agg #[.int .i64 s.fr, .int .i64 s.to, .int .i64 s.kp, .int .i64 s.ad, .int .i64 s.t0, .int .i64 s.t1, .int .i64 s.t2]
def Sm.zero : Sm := ⟨0, 0, 0, 0, 0, 0, 0⟩
/-- block g holds the summary s, as a value of type ty -/
def HoldsM (w : World) (g : Nat) (ty : TypeId) (s : Sm) : Prop := Row w g ty s.cells
section
variable {W : World} {g : Nat} {ty : TypeId} {s : Sm}
theorem HoldsM.lt (h : HoldsM W g ty s) : g < W.heap.size := Row.lt h
theorem HoldsM.below {w' : World} (h : HoldsM W g ty s) (hb : Below W.heap.size W w') : HoldsM w' g ty s := Row.below h hb h.lt
theorem HoldsM.alloc (h : HoldsM W g ty s) (o : Obj) : HoldsM (W.alloc o) g ty s := Row.alloc h o
theorem HoldsM.drewN (h : HoldsM W g ty s) (n : Nat) : HoldsM (W.drewN n) g ty s := h
theorem HoldsM.made (w : World) (ty : TypeId) (s : Sm) : HoldsM (w.alloc (.cells #[.int .i64 s.fr, .int .i64 s.to, .int .i64 s.kp, .int .i64 s.ad, .int .i64 s.t0, .int .i64 s.t1, .int .i64 s.t2] ty)) w.heap.size ty s := Row.made w _ _
theorem HoldsM.at_ (h : HoldsM W g ty s) (j : Nat) : W.cell? ⟨g, j, none⟩ = s.cells[j]? := Row.cell h j
theorem HoldsM.cells7 (h : HoldsM W g ty s) : W.cell? ⟨g, 0, none⟩ = some (.int .i64 s.fr) ∧ W.cell? ⟨g, 1, none⟩ = some (.int .i64 s.to) ∧ W.cell? ⟨g, 2, none⟩ = some (.int .i64 s.kp) ∧ W.cell? ⟨g, 3, none⟩ = some (.int .i64 s.ad) ∧ W.cell? ⟨g, 4, none⟩ = some (.int .i64 s.t0) ∧ W.cell? ⟨g, 5, none⟩ = some (.int .i64 s.t1) ∧ W.cell? ⟨g, 6, none⟩ = some (.int .i64 s.t2) :=
  ⟨h.at_ 0, h.at_ 1, h.at_ 2, h.at_ 3, h.at_ 4, h.at_ 5, h.at_ 6⟩
theorem HoldsM.free7 (h : HoldsM W g ty s) : W.frozen? ⟨g, 0, none⟩ = false ∧ W.frozen? ⟨g, 1, none⟩ = false ∧ W.frozen? ⟨g, 2, none⟩ = false ∧ W.frozen? ⟨g, 3, none⟩ = false ∧ W.frozen? ⟨g, 4, none⟩ = false ∧ W.frozen? ⟨g, 5, none⟩ = false ∧ W.frozen? ⟨g, 6, none⟩ = false :=
  ⟨Row.free h 0, Row.free h 1, Row.free h 2, Row.free h 3, Row.free h 4, Row.free h 5, Row.free h 6⟩
theorem load_m (h : HoldsM W g 24 s) : ∀ w', Below W.heap.size W w' → (Instr.loadAt 24 (.pointer (some ⟨g, 0, none⟩))).run Try.prog w' = .ok (.agg #[.int .i64 s.fr, .int .i64 s.to, .int .i64 s.kp, .int .i64 s.ad, .int .i64 s.t0, .int .i64 s.t1, .int .i64 s.t2]) w' :=
  fun w' hb => run_loadAt_part g 0 24 _ s.cells (fun j v hj => by rw [add_at, (h.below hb).at_, Nat.zero_add]; exact hj) Try.underlying24 rfl (by kernel_rfl)
theorem load_n (h : HoldsM W g 30 s) : ∀ w', Below W.heap.size W w' → (Instr.loadAt 30 (.pointer (some ⟨g, 0, none⟩))).run Try.prog w' = .ok (.agg #[.int .i64 s.fr, .int .i64 s.to, .int .i64 s.kp, .int .i64 s.ad, .int .i64 s.t0, .int .i64 s.t1, .int .i64 s.t2]) w' :=
  fun w' hb => run_loadAt_part g 0 30 _ s.cells (fun j v hj => by rw [add_at, (h.below hb).at_, Nat.zero_add]; exact hj) Try.underlying30 rfl (by kernel_rfl)
theorem load_ml (h : HoldsM W g ty s) : ∀ w', Below W.heap.size W w' → (Instr.loadAt 22 (.pointer (some ⟨g, 4, none⟩))).run Try.prog w' = .ok (.agg #[.int .i64 s.t0, .int .i64 s.t1, .int .i64 s.t2]) w' :=
  fun w' hb => run_loadAt_part g 4 22 _ [.int .i64 s.t0, .int .i64 s.t1, .int .i64 s.t2] (fun j v hj => by rw [add_at, (h.below hb).at_, Nat.add_comm]; exact hj) Try.underlying22 rfl (by kernel_rfl)
theorem load_m1 (h : HoldsM W g ty s) (j : Nat) {v : Int} (hj : s.cells[j]? = some (.int .i64 v)) : ∀ w', Below W.heap.size W w' → (Instr.loadAt 3 (.pointer (some ⟨g, j, none⟩))).run Try.prog w' = .ok (.int .i64 v) w' := by
  intro w' hb
  have hc := ((h.below hb).at_ j).trans hj
  go_simp
end
/-- is n from 0 to m? -/
def upB (n m : Int) : Bool := decide (0 ≤ n ∧ n ≤ m)
theorem upTo_any (n m : Int) (w : World) : Calls Try.prog 32 #[.int .i64 n, .int .i64 m] w fun e w' => e = .returned (.bool (upB n m)) ∧ Below w.heap.size w w' := by
  by_cases h : 0 ≤ n
  · have e : upB n m = decide (n ≤ m) := by unfold upB; simp [h]
    rw [e]; clear e
    go_enter Try.func32, Try.ntmps32
    go_wp2_with fail
    go_ret
    exact ⟨rfl, Below.refl _ _⟩
  · have e : upB n m = false := by unfold upB; simp [h]
    have t1 : decide (0 ≤ n) = false := by simp [h]
    rw [e]; clear e h
    go_enter Try.func32, Try.ntmps32
    go_wp2_with fail
    go_ret
    exact ⟨rfl, Below.refl _ _⟩
set_option maxHeartbeats 1000000 in
theorem nearestM_any (s : Sm) (n : Nat) (w : World) (hd : s.to - s.kp = n) (h3 : n ≤ 3) :
    Calls Try.prog 33 #[s.v] w fun e w' => e = .returned (.agg #[.int .i64 (nk n 0 s.t0), .int .i64 (nk n 1 s.t1), .int .i64 (nk n 2 s.t2)]) ∧ Below w.heap.size w w' := by
  obtain ⟨fr, to, kp, ad, x, y, z⟩ := s
  unfold Sm.v
  simp only at hd ⊢
  have hw := IntWalk.i64_in (to - kp) (by omega)
  go_enter Try.func33, Try.ntmps33
  go_wp2_with fail
  go_loopw [10] (fun i wr => ∃ (k : Nat), k ≤ n ∧ i = .int .i64 k ∧ Row wr w.heap.size 24 [.int .i64 fr, .int .i64 to, .int .i64 kp, .int .i64 ad, .int .i64 x, .int .i64 y, .int .i64 z] ∧ Row wr (w.heap.size + 1) 57 [.int .i64 0, .int .i64 0, .int .i64 0] ∧ Row wr (w.heap.size + 2) 57 [.int .i64 (nk k 0 x), .int .i64 (nk k 1 y), .int .i64 (nk k 2 z)] ∧ Below w.heap.size w wr) (fun i _ => n - (intOf i).toNat)
  case atStart =>
    refine ⟨0, by omega, rfl, ((Row.made w 24 [.int .i64 fr, .int .i64 to, .int .i64 kp, .int .i64 ad, .int .i64 x, .int .i64 y, .int .i64 z]).alloc _).alloc _, ?_, ?_, ?_⟩
    · have := (Row.made (w.alloc (.cells #[.int .i64 fr, .int .i64 to, .int .i64 kp, .int .i64 ad, .int .i64 x, .int .i64 y, .int .i64 z] 24)) 57 [.int .i64 0, .int .i64 0, .int .i64 0]).alloc (.cells #[.int .i64 0, .int .i64 0, .int .i64 0] 57)
      rwa [size_alloc] at this
    · have := Row.made ((w.alloc (.cells #[.int .i64 fr, .int .i64 to, .int .i64 kp, .int .i64 ad, .int .i64 x, .int .i64 y, .int .i64 z] 24)).alloc (.cells #[.int .i64 0, .int .i64 0, .int .i64 0] 57)) 57 [.int .i64 0, .int .i64 0, .int .i64 0]
      rwa [size_alloc, size_alloc] at this
    · exact (((Below.refl _ _).alloc (Nat.le_refl _) _).alloc (by simp) _).alloc (by simp; omega) _
  case round =>
    obtain ⟨k, hk, rfl, hra, hrr, hrb, hbw⟩ := hrel
    by_cases hlt : k < n
    · have hlt' : (k : Int) < to - kp := by omega
      have a4 := hra.cell 4; have a5 := hra.cell 5; have a6 := hra.cell 6
      have b0 := hrb.cell 0; have b1 := hrb.cell 1; have b2 := hrb.cell 2
      have f0 := hrb.free 0; have f1 := hrb.free 1; have f2 := hrb.free 2
      simp only [List.getElem?_cons_succ, List.getElem?_cons_zero] at a4 a5 a6 b0 b1 b2
      have HRA := Lib.hid hra; have HRR := Lib.hid hrr; have HRB := Lib.hid hrb; have HBW := Lib.hid hbw; clear hra hrr hrb hbw
      have hcase : k = 0 ∨ k = 1 ∨ k = 2 := by omega
      rcases hcase with rfl | rfl | rfl
      · go_wp2_with fail
        go_roundw
        case rel => exact ⟨1, by omega, rfl, HRA.out.far (by simp; omega) _, HRR.out.far (by simp) _, HRB.out.put 0 _, HBW.out.setCell (by simp; omega) _⟩
        case measure => simp [intOf]; omega
      · go_wp2_with fail
        go_roundw
        case rel => exact ⟨2, by omega, rfl, HRA.out.far (by simp; omega) _, HRR.out.far (by simp) _, HRB.out.put 1 _, HBW.out.setCell (by simp; omega) _⟩
        case measure => simp [intOf]; omega
      · go_wp2_with fail
        go_roundw
        case rel => exact ⟨3, by omega, rfl, HRA.out.far (by simp; omega) _, HRR.out.far (by simp) _, HRB.out.put 2 _, HBW.out.setCell (by simp; omega) _⟩
        case measure => simp [intOf]; omega
    · have hkn : k = n := by omega
      subst hkn
      have hge : ¬ (k : Int) < to - kp := by omega
      have b0 := hrb.cell 0; have b1 := hrb.cell 1; have b2 := hrb.cell 2
      have r0 := hrr.cell 0; have r1 := hrr.cell 1; have r2 := hrr.cell 2
      have f0 := hrr.free 0; have f1 := hrr.free 1; have f2 := hrr.free 2
      simp only [List.getElem?_cons_succ, List.getElem?_cons_zero] at b0 b1 b2 r0 r1 r2
      have HRR := Lib.hid hrr; have HRB := Lib.hid hrb; have HBW := Lib.hid hbw; clear hra hrr hrb hbw
      obtain ⟨p, hp⟩ : ∃ p, p = nk k 0 x := ⟨_, rfl⟩
      obtain ⟨q, hq⟩ : ∃ q, q = nk k 1 y := ⟨_, rfl⟩
      obtain ⟨r, hr⟩ : ∃ r, r = nk k 2 z := ⟨_, rfl⟩
      rw [← hp] at b0; rw [← hq] at b1; rw [← hr] at b2
      have HP := Lib.hid hp; have HQ := Lib.hid hq; have HR := Lib.hid hr; clear hp hq hr
      go_wp2_with fail
      refine bodyPost_ret (results_cell_row rfl _ _ (w.heap.size + 1) 57 _ (0, 0) _ rfl (row_set3 HRR.out) Try.underlying57 rfl (by kernel_rfl)) rfl ?_
      exact ⟨by rw [HP.out, HQ.out, HR.out], ((HBW.out.setCell (by simp) _).setCell (by simp) _).setCell (by simp) _⟩
end Go.Proofs.Ytdpadkellpkppaa
