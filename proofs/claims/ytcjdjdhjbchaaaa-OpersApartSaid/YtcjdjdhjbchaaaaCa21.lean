/- StBothH, StBothG, StJoin, StInto, StLeq -/
import Derived.Test.YtcjdjdhjbchaaaaCa9
import Derived.Test.YtcjdjdhjbchaaaaCa2
namespace Go.Proofs.Ytcjdjdhjbchaaaa
set_option linter.unusedVariables false
section
open Go.ChangeShapes Go.WideShapes Go.ChangeAt Go.RowKit Go.BigFrame
set_option maxRecDepth 100000
/-- the time so far, in new memory -/
def St.part (g : Bool) (a b : St) (k : Nat) : St := ⟨a.d, pk g a.e b.e, if 0 < k then pk g a.x b.x else 0, if 1 < k then pk g a.y b.y else 0, if 2 < k then pk g a.z b.z else 0⟩
theorem pk_same (g : Bool) (m : Int) : pk g m m = m := by unfold pk; cases g <;> simp
theorem part_d (g : Bool) (a b : St) (h : a.B b) {n : Nat} (hn : a.d = n) : St.part g a b n = St.pick g a b := by
  unfold St.pick; rw [if_pos h]
  obtain ⟨h1, h2, h3⟩ := h
  unfold St.R at h1 h2
  refine St.ext' rfl rfl ?_ ?_ ?_
  · show (if 0 < n then pk g a.x b.x else 0) = pk g a.x b.x
    by_cases hk : 0 < n
    · rw [if_pos hk]
    · rw [if_neg hk, show a.x = 0 by omega, show b.x = 0 by omega, pk_same]
  · show (if 1 < n then pk g a.y b.y else 0) = pk g a.y b.y
    by_cases hk : 1 < n
    · rw [if_pos hk]
    · rw [if_neg hk, show a.y = 0 by omega, show b.y = 0 by omega, pk_same]
  · show (if 2 < n then pk g a.z b.z else 0) = pk g a.z b.z
    by_cases hk : 2 < n
    · rw [if_pos hk]
    · rw [if_neg hk, show a.z = 0 by omega, show b.z = 0 by omega, pk_same]
def wz (W : World) (b : Bool) : World := if b then W.alloc (.cells #[.int .i64 0, .int .i64 0, .int .i64 0, .int .i64 0, .int .i64 0] 40) else W
theorem wz_below {W w' : World} {b : Bool} (h : w' = wz W b) : Below W.heap.size W w' := by
  subst h; cases b
  · exact Below.refl _ _
  · exact (Below.refl _ _).alloc (Nat.le_refl _) _
section
variable {P : Program} {o : Oper} {a : Act} {C : World → Prop} {w w' : World} {v : Value}
theorem at_of (hr : (execOp a.eval o).run P w = .ok (.value v) w) (h : C w) : Stage.at_ P o a C w v := by unfold Stage.at_; rw [hr]; exact ⟨rfl, h⟩
theorem at_made (hr : (execOp a.eval o).run P w = .ok (.value v) w') (h : C w') : Stage.at_ P o a C w v := by unfold Stage.at_; rw [hr]; exact ⟨rfl, h⟩
theorem at_skip (hr : (execOp a.eval o).run P w = .ok .skip w') (h : C w') : Stage.at_ P o a C w undef := by unfold Stage.at_; rw [hr]; exact ⟨rfl, h⟩
theorem at_fn {f : FuncId} {fn : Func} {c : Code} (x : Operand) (args : Array Operand) (ats : Array TypeId) (ho : o.op = .call { callee := .value x, args := args, argTypes := ats }) (hx : a.eval x = .func (.func f) #[] #[]) (hf : P.funcs[f]? = some fn) (hname : (fn.name == "runtime.NumGoroutine") = false) (hb : fn.body = some c)
    (vs : List Value) (hv : args.toList.map a.eval = vs) (h : Calls P f vs.toArray w (fun e w'' => e = .returned v ∧ C w'')) : Stage.at_ P o a C w v := by
  have hv' : args.map a.eval = vs.toArray := by rw [← hv]; apply Array.ext'; simp
  have hr := Free.run_enter (P := P) hf hname hb (vs.toArray) w
  unfold Stage.at_ execOp
  simp only [ho, resolve, hv', hx, Deferred.ofValue, Sem.run_bind, Sem.run_pure, Result.andThen_ok, invoke, Array.append_empty, Array.empty_append, hr, Stage.upon]
  exact h
end
end

section
open Go.ChangeShapes Go.WideShapes Go.ChangeAt Go.RowKit Go.BigFrame
set_option maxRecDepth 100000
set_option maxHeartbeats 4000000 in
theorem both_yes_greater (a b : St) (n : Nat) (w : World) (hn : a.d = n) (h : a.B b) :
    Calls Try.prog 74 #[a.val, b.val, .func (.func 75) #[] #[]] w fun e w' => e = .returned (.tuple #[(St.part true a b n).val, .bool true]) ∧ Below w.heap.size w w' := by
  have hn3 : n ≤ 3 := by have := h.1; unfold St.R at this; omega
  obtain ⟨ha, hb, hd⟩ := h
  have HA := Lib.hid (right_is (decide_eq_true ha) (right_any a)); have HB := Lib.hid (right_is (decide_eq_true hb) (right_any b)); clear ha hb
  obtain ⟨d, e, x, y, z⟩ := a
  obtain ⟨d', e', x', y', z'⟩ := b
  unfold St.val at *
  simp only at hd hn HA HB ⊢
  subst hd
  subst hn
  have hz := zero_made ((w.alloc (.cells #[.int .i64 (n : Int), .int .i64 e, .int .i64 x, .int .i64 y, .int .i64 z] 40)).alloc (.cells #[.int .i64 (n : Int), .int .i64 e', .int .i64 x', .int .i64 y', .int .i64 z'] 40))
  have hya := ((Holds.made w ⟨(n : Int), e, x, y, z⟩).alloc (.cells #[.int .i64 (n : Int), .int .i64 e', .int .i64 x', .int .i64 y', .int .i64 z'] 40)).alloc (.cells #[.int .i64 0, .int .i64 0, .int .i64 0, .int .i64 0, .int .i64 0] 40)
  have hyb := (Holds.made (w.alloc (.cells #[.int .i64 (n : Int), .int .i64 e, .int .i64 x, .int .i64 y, .int .i64 z] 40)) ⟨(n : Int), e', x', y', z'⟩).alloc (.cells #[.int .i64 0, .int .i64 0, .int .i64 0, .int .i64 0, .int .i64 0] 40)
  rw [size_alloc, size_alloc] at hz
  rw [size_alloc] at hyb
  have HZ := Lib.hid hz; have HYA := Lib.hid hya; have HYB := Lib.hid hyb; clear hz hya hyb
  go_enter Try.func74, Try.ntmps74
  go_wp2_with fail
  refine (HA.out _).mono ?_; rintro e1 w1 ⟨rfl, hb1⟩
  obtain ⟨hc1, hf1⟩ := old_cells hb1
  have HB1 := Lib.hid hb1; clear hb1
  go_wp2_with fail
  refine (HB.out _).mono ?_; rintro e2 w2 ⟨rfl, hb2⟩
  have hb12 := HB1.out.trans (hb2.mono HB1.out.size)
  clear hc1 hf1
  have h0 := HYA.out.below hb12; have h1 := HYB.out.below hb12; have h2 := HZ.out.below hb12
  have hbw := below3 hb12
  have hsz := hb12.size
  simp only [size_alloc] at hsz
  obtain ⟨a0, a1, a2, a3, a4⟩ := h0.cells5
  obtain ⟨b0, b1, b2, b3, b4⟩ := h1.cells5
  simp only at a0 a1 a2 a3 a4 b0 b1 b2 b3 b4
  have H0 := Lib.hid h0; have H1 := Lib.hid h1; have H2 := Lib.hid h2; have HW := Lib.hid hbw
  clear h0 h1 h2 hb12 hb2 hbw HB1 HYA HYB HZ
  have n0 : w.heap.size < w2.heap.size := by omega
  have n1 : w.heap.size + 1 < w2.heap.size := by omega
  have n2 : w.heap.size + 1 + 1 < w2.heap.size := by omega
  have m0 : w.heap.size ≠ w2.heap.size := by omega
  have m1 : w.heap.size + 1 ≠ w2.heap.size := by omega
  have m2 : w.heap.size + 1 + 1 ≠ w2.heap.size := by omega
  clear hsz
  go_wp2_with fail
  have h0 := H0.out.drewN 1; have h1 := H1.out.drewN 1; have h2 := H2.out.drewN 1; have hbw := below_drewN HW.out 1
  have q2 : w.heap.size + 1 + 1 < (w2.drewN 1).heap.size := n2
  clear a0 a1 a2 a3 a4 b0 b1 b2 b3 b4 H0 H1 H2 HW n0 n1 n2 m0 m1 m2
  have hdr : w2.drew = w2.drewN 1 := rfl
  have HDR := Lib.hid hdr; clear hdr
  obtain ⟨W, hW⟩ : ∃ W, W = w2.drewN 1 := ⟨_, rfl⟩
  rw [← hW] at h0 h1 h2 hbw q2
  rw [← hW] at HDR
  clear hW
  have H0 := Lib.hid h0; have H1 := Lib.hid h1; have H2 := Lib.hid h2; have HW := Lib.hid hbw; have HQ := Lib.hid q2
  clear h0 h1 h2 hbw q2
  refine Stage.wp_region (by kernel_rfl) (by kernel_rfl) (Stage.two 9 10 (fun b1 b2 w' => w' = if b2 then W.alloc (.cells #[.int .i64 (n : Int), .int .i64 (pk true e e'), .int .i64 0, .int .i64 0, .int .i64 0] 40) else wz W b1)) (Stage.two_start (by simp) (by simp) HDR.out) ?_
  refine Stage.wpSt_do (.pointer (some ⟨w.heap.size, 0, none⟩)) rfl (Stage.two_step (by kernel_rfl) (fun b w' hw => ?_)) ?_
  · exact at_of (by go_simp) hw
  go_simp
  refine Stage.wpSt_do (.int .i64 (n : Int)) rfl (Stage.two_step (by kernel_rfl) (fun b w' hw => ?_)) ?_
  · exact Free.at_load _ _ rfl rfl (load_d H0.out w' (wz_below hw)) hw
  go_simp
  refine Stage.wpSt_do (.func (.func 75) #[] #[]) rfl (Stage.two_step (by kernel_rfl) (fun b w' hw => ?_)) ?_
  · exact at_of (by go_simp) hw
  go_simp
  refine Stage.wpSt_do (.pointer (some ⟨w.heap.size, 1, none⟩)) rfl (Stage.two_step (by kernel_rfl) (fun b w' hw => ?_)) ?_
  · exact at_of (by go_simp) hw
  go_simp
  refine Stage.wpSt_do (.int .i64 e) rfl (Stage.two_step (by kernel_rfl) (fun b w' hw => ?_)) ?_
  · exact Free.at_load _ _ rfl rfl (load_e H0.out w' (wz_below hw)) hw
  go_simp
  refine Stage.wpSt_do (.pointer (some ⟨w.heap.size + 1, 1, none⟩)) rfl (Stage.two_step (by kernel_rfl) (fun b w' hw => ?_)) ?_
  · exact at_of (by go_simp) hw
  go_simp
  refine Stage.wpSt_do (.int .i64 e') rfl (Stage.two_step (by kernel_rfl) (fun b w' hw => ?_)) ?_
  · exact Free.at_load _ _ rfl rfl (load_e H1.out w' (wz_below hw)) hw
  go_simp
  refine Stage.wpSt_do (.int .i64 (pk true e e')) rfl (Stage.two_step (by kernel_rfl) (fun b w' hw => ?_)) ?_
  · refine at_fn (f := 75) _ _ _ rfl rfl Try.func75 (by kernel_rfl) rfl [.int .i64 e, .int .i64 e'] rfl ((greater_any _ _ _).mono fun _ _ h => ⟨h.1, by rw [h.2]; exact hw⟩)
  go_simp
  refine Stage.wpSt_do (.agg #[.int .i64 (n : Int), .int .i64 (pk true e e'), .int .i64 0, .int .i64 0, .int .i64 0]) rfl (Stage.two_step (by kernel_rfl) (fun b w' hw => ?_)) ?_
  · exact at_of (by go_simp) hw
  go_simp
  refine Stage.wpSt_do (.pointer (some ⟨W.heap.size, 0, none⟩)) rfl (Stage.two_first (by decide) (by kernel_rfl) (fun w' hw => ?_)) ?_
  · have hw' : w' = W := hw
    clear hw; subst hw'
    exact at_made (w' := w'.alloc (.cells #[.int .i64 0, .int .i64 0, .int .i64 0, .int .i64 0, .int .i64 0] 40)) (by go_simp) rfl
  go_simp
  refine Stage.wpSt_do undef rfl (Stage.two_then (by decide) (by kernel_rfl) (fun w' hw => ?_)) ?_
  · have hw' : w' = W.alloc (.cells #[.int .i64 0, .int .i64 0, .int .i64 0, .int .i64 0, .int .i64 0] 40) := hw
    clear hw; subst hw'
    exact at_skip (w' := W.alloc (.cells #[.int .i64 (n : Int), .int .i64 (pk true e e'), .int .i64 0, .int .i64 0, .int .i64 0] 40)) (by go_simp) rfl
  go_simp
  refine Stage.wpSt_nil (Stage.two_end ?_)
  intro w3 hw3
  have hw4 : w3 = W.alloc (.cells #[.int .i64 (n : Int), .int .i64 (pk true e e'), .int .i64 0, .int .i64 0, .int .i64 0] 40) := hw3
  subst hw4
  have m0 : w.heap.size ≠ W.heap.size := by have := HQ.out; omega
  have m1 : w.heap.size + 1 ≠ W.heap.size := by have := HQ.out; omega
  have m2 : w.heap.size + 1 + 1 ≠ W.heap.size := by have := HQ.out; omega
  clear hw3
  go_wp2_with fail
  go_loopw [37] (fun i wr => ∃ k : Nat, k ≤ n ∧ i = .int .i64 k ∧ Holds wr w.heap.size ⟨(n : Int), e, x, y, z⟩ ∧ Holds wr (w.heap.size + 1) ⟨(n : Int), e', x', y', z'⟩ ∧ Holds wr (w.heap.size + 1 + 1) St.zero ∧ Holds wr W.heap.size (St.part true ⟨(n : Int), e, x, y, z⟩ ⟨(n : Int), e', x', y', z'⟩ k) ∧ Below w.heap.size w wr) (fun i _ => n - (intOf i).toNat)
  case atStart => exact ⟨0, by omega, rfl, H0.out.alloc _, H1.out.alloc _, H2.out.alloc _, Holds.made W (St.part true ⟨(n : Int), e, x, y, z⟩ ⟨(n : Int), e', x', y', z'⟩ 0), HW.out.alloc HW.out.size _⟩
  case round =>
    obtain ⟨k, hk, rfl, h0, h1, h2, h3, hbw⟩ := hrel
    obtain ⟨c0, c1, c2, c3, c4⟩ := h0.cells5
    obtain ⟨d0, d1, d2, d3, d4⟩ := h1.cells5
    obtain ⟨f0, f1, f2, f3, f4⟩ := h3.free5
    obtain ⟨e0, e1, e2, e3, e4⟩ := h3.cells5
    simp only at c0 c1 c2 c3 c4 d0 d1 d2 d3 d4
    have HH0 := Lib.hid h0; have HH1 := Lib.hid h1; have HH2 := Lib.hid h2; have HH3 := Lib.hid h3; have HHW := Lib.hid hbw
    clear h0 h1 h2 h3 hbw H0 H1 H2 c0 c1 d0 d1
    by_cases hlt : k < n
    · simp only [St.part] at e0 e1 e2 e3 e4
      clear e0 e1
      have hcase : k = 0 ∨ k = 1 ∨ k = 2 := by omega
      clear hk
      rcases hcase with rfl | rfl | rfl
      · go_wp2_with fail
        refine wp_tail 13 (by kernel_rfl) (by kernel_rfl) ?_
        simp only [List.take_succ_cons, List.take_zero, List.drop_succ_cons, List.drop_zero]
        repeat still_step
        still_call (greater_any _ _ _)
        repeat still_step
        refine wpStill_nil ?_
        go_wp2_with fail
        go_roundw
        case rel => exact ⟨1, by omega, rfl, (HH0.out.drewN 1).far (by have := HQ.out; simp; omega) _, (HH1.out.drewN 1).far (by have := HQ.out; simp; omega) _, (HH2.out.drewN 1).far (by have := HQ.out; simp; omega) _, (HH3.out.drewN 1).set 2 _ (by simp [St.part]), (below_drewN HHW.out 1).setCell (by have := HQ.out; simp; omega) _⟩
        case measure => simp [intOf]; omega
      · go_wp2_with fail
        refine wp_tail 13 (by kernel_rfl) (by kernel_rfl) ?_
        simp only [List.take_succ_cons, List.take_zero, List.drop_succ_cons, List.drop_zero]
        repeat still_step
        still_call (greater_any _ _ _)
        repeat still_step
        refine wpStill_nil ?_
        go_wp2_with fail
        go_roundw
        case rel => exact ⟨2, by omega, rfl, (HH0.out.drewN 1).far (by have := HQ.out; simp; omega) _, (HH1.out.drewN 1).far (by have := HQ.out; simp; omega) _, (HH2.out.drewN 1).far (by have := HQ.out; simp; omega) _, (HH3.out.drewN 1).set 3 _ (by simp [St.part]), (below_drewN HHW.out 1).setCell (by have := HQ.out; simp; omega) _⟩
        case measure => simp [intOf]; omega
      · go_wp2_with fail
        refine wp_tail 13 (by kernel_rfl) (by kernel_rfl) ?_
        simp only [List.take_succ_cons, List.take_zero, List.drop_succ_cons, List.drop_zero]
        repeat still_step
        still_call (greater_any _ _ _)
        repeat still_step
        refine wpStill_nil ?_
        go_wp2_with fail
        go_roundw
        case rel => exact ⟨3, by omega, rfl, (HH0.out.drewN 1).far (by have := HQ.out; simp; omega) _, (HH1.out.drewN 1).far (by have := HQ.out; simp; omega) _, (HH2.out.drewN 1).far (by have := HQ.out; simp; omega) _, (HH3.out.drewN 1).set 4 _ (by simp [St.part]), (below_drewN HHW.out 1).setCell (by have := HQ.out; simp; omega) _⟩
        case measure => simp [intOf]; omega
    · obtain rfl : k = n := by omega
      obtain ⟨z0, z1, z2, z3, z4⟩ := HH2.out.free5
      obtain ⟨y0, y1, y2, y3, y4⟩ := HH2.out.cells5
      obtain ⟨T, hT⟩ : ∃ T, T = St.part true ⟨(k : Int), e, x, y, z⟩ ⟨(k : Int), e', x', y', z'⟩ k := ⟨_, rfl⟩
      rw [← hT] at e0 e1 e2 e3 e4
      have HT := Lib.hid hT; clear hT
      go_wp2_with fail
      refine bodyPost_ret (v := .tuple #[.agg #[.int .i64 T.d, .int .i64 T.e, .int .i64 T.x, .int .i64 T.y, .int .i64 T.z], .bool true]) (two_results rfl _ _ _ 40 _ (0, 0) _ rfl (Holds.all HH2.out _ _ _ _ _) Try.underlying40 rfl (by kernel_rfl) rfl) rfl ?_
      exact ⟨by rw [HT.out], below_set5 (g := w.heap.size + 1 + 1) HHW.out (by omega)⟩
end

section
open Go.ChangeShapes Go.WideShapes Go.ChangeAt Go.RowKit Go.BigFrame
set_option maxRecDepth 100000
theorem zero_val : St.zero.val = .agg #[.int .i64 0, .int .i64 0, .int .i64 0, .int .i64 0, .int .i64 0] := rfl
theorem both_Join (a b : St) (w : World) : Calls Try.prog 74 #[a.val, b.val, .func (.func 75) #[] #[]] w fun e w' => e = .returned (.tuple #[(St.pick true a b).val, .bool (decide (a.B b))]) ∧ Below w.heap.size w w' := by
  by_cases h : a.B b
  · obtain ⟨n, hn⟩ : ∃ n : Nat, a.d = n := ⟨a.d.toNat, by have := h.1; unfold St.R at this; omega⟩
    have := both_yes_greater a b n w hn h
    rw [part_d _ _ _ h hn] at this
    rw [decide_eq_true h]; exact this
  · have := both_no_greater a b w h
    rw [decide_eq_false h, St.pick, if_neg h]; exact this
theorem join_any (a b : St) (w : World) : Calls Try.prog 47 #[a.val, b.val] w fun e w' => e = .returned (.tuple #[(a.join b).val, .bool (decide (a.B b))]) ∧ Below w.heap.size w w' := by
  have hc := fun w => both_Join a b w
  rw [pick_join] at hc
  generalize a.join b = T at *
  generalize decide (a.B b) = B at *
  have HC := Lib.hid hc; clear hc
  obtain ⟨d, e, x, y, z⟩ := a
  obtain ⟨d', e', x', y', z'⟩ := b
  obtain ⟨p, q, r, s, t⟩ := T
  unfold St.val at *
  simp only at HC ⊢
  have hz := zero_made ((w.alloc (.cells #[.int .i64 d, .int .i64 e, .int .i64 x, .int .i64 y, .int .i64 z] 40)).alloc (.cells #[.int .i64 d', .int .i64 e', .int .i64 x', .int .i64 y', .int .i64 z'] 40))
  rw [size_alloc, size_alloc] at hz
  have HZ := Lib.hid hz; clear hz
  go_enter Try.func47, Try.ntmps47
  go_wp2_with fail
  refine (HC.out _).mono ?_; rintro e1 w1 ⟨rfl, hb1⟩
  have h2 := HZ.out.below hb1
  obtain ⟨f0, f1, f2, f3, f4⟩ := h2.free5
  obtain ⟨c0, c1, c2, c3, c4⟩ := h2.cells5
  have H2 := Lib.hid h2; have HB := Lib.hid hb1; clear h2 hb1
  go_wp2_with fail
  refine bodyPost_ret (v := .tuple #[.agg #[.int .i64 p, .int .i64 q, .int .i64 r, .int .i64 s, .int .i64 t], .bool B]) (two_results rfl _ _ _ 40 _ (0, 0) _ rfl (Holds.all H2.out _ _ _ _ _) Try.underlying40 rfl (by kernel_rfl) rfl) rfl ?_
  exact ⟨rfl, below_set5 (g := w.heap.size + 1 + 1) (below3 HB.out) (by omega)⟩
end

section
open Go.ChangeShapes Go.WideShapes Go.ChangeAt Go.RowKit Go.BigFrame
/-- the time, or nothing -/
def ov (o : Option St) : St := o.getD St.zero
theorem stBelow2 {w w' : World} {a b : Obj} (h : Below ((w.alloc a).alloc b).heap.size ((w.alloc a).alloc b) w') : Below w.heap.size w w' :=
  (((Below.refl _ _).alloc (Nat.le_refl _) _).alloc (by simp) _).trans (h.mono (by simp; omega))
set_option maxHeartbeats 4000000 in
theorem into_any (t : St) (w : World) : Calls Try.prog 35 #[t.val] w fun e w' => e = .returned (.tuple #[(ov t.into).val, .bool t.into.isSome]) ∧ Below w.heap.size w w' := by
  have hn : ¬ t.R → t.into = none := fun h => by unfold St.into; rw [if_neg (fun hc => h hc.1)]
  by_cases hR : t.R
  · have HR := Lib.hid (right_is (decide_eq_true hR) (right_any t))
    have hRd : t.R := hR
    have hd : t.d = 0 ∨ t.d = 1 ∨ t.d = 2 ∨ t.d = 3 := by unfold St.R at hRd; omega
    have HRt := Lib.hid hRd
    clear hR hRd hn
    obtain ⟨d, e, x, y, z⟩ := t
    unfold St.val at *
    simp only at hd HR ⊢
    rcases hd with rfl | rfl | rfl | rfl
    · have hv : St.into ⟨0, e, x, y, z⟩ = some ⟨1, e, x, y, z⟩ := by have hr := HRt.out; unfold St.into; rw [if_pos (by simp [hr])]; rfl
      rw [hv]; clear hv HRt
      unfold ov
      simp only [Option.getD_none, Option.getD_some, Option.isSome_none, Option.isSome_some, zero_val]
      have hz := zero_made (w.alloc (.cells #[.int .i64 0, .int .i64 e, .int .i64 x, .int .i64 y, .int .i64 z] 40))
      rw [size_alloc] at hz
      have hy := (Holds.made w ⟨0, e, x, y, z⟩).alloc (.cells #[.int .i64 0, .int .i64 0, .int .i64 0, .int .i64 0, .int .i64 0] 40)
      have HZ := Lib.hid hz; have HY := Lib.hid hy; clear hz hy
      go_enter Try.func35, Try.ntmps35
      go_wp2_with fail
      refine (HR.out _).mono ?_; rintro e1 w1 ⟨rfl, hb1⟩
      have h2 := HZ.out.below hb1
      have h1 := HY.out.below hb1
      have hbw := stBelow2 hb1
      obtain ⟨f0, f1, f2, f3, f4⟩ := h2.free5
      obtain ⟨c0, c1, c2, c3, c4⟩ := h2.cells5
      obtain ⟨d0, d1, d2, d3, d4⟩ := h1.cells5
      obtain ⟨g0, g1, g2, g3, g4⟩ := h1.free5
      simp only at d0 d1 d2 d3 d4
      have H1 := Lib.hid h1; have H2 := Lib.hid h2; have HB := Lib.hid hbw; clear h1 h2 hb1 hbw HY HZ
      go_wp2_with fail
      refine bodyPost_ret (v := .tuple #[.agg #[.int .i64 1, .int .i64 e, .int .i64 x, .int .i64 y, .int .i64 z], .bool true]) (two_results rfl _ _ _ 40 _ (0, 0) _ rfl (Holds.all ((H2.out).far (by simp) _) _ _ _ _ _) Try.underlying40 rfl (by kernel_rfl) rfl) rfl ?_
      exact ⟨rfl, below_set5 (g := w.heap.size + 1) ((HB.out).setCell (by simp) _) (by omega)⟩
    · have hv : St.into ⟨1, e, x, y, z⟩ = some ⟨2, e, x, y, z⟩ := by have hr := HRt.out; unfold St.into; rw [if_pos (by simp [hr])]; rfl
      rw [hv]; clear hv HRt
      unfold ov
      simp only [Option.getD_none, Option.getD_some, Option.isSome_none, Option.isSome_some, zero_val]
      have hz := zero_made (w.alloc (.cells #[.int .i64 1, .int .i64 e, .int .i64 x, .int .i64 y, .int .i64 z] 40))
      rw [size_alloc] at hz
      have hy := (Holds.made w ⟨1, e, x, y, z⟩).alloc (.cells #[.int .i64 0, .int .i64 0, .int .i64 0, .int .i64 0, .int .i64 0] 40)
      have HZ := Lib.hid hz; have HY := Lib.hid hy; clear hz hy
      go_enter Try.func35, Try.ntmps35
      go_wp2_with fail
      refine (HR.out _).mono ?_; rintro e1 w1 ⟨rfl, hb1⟩
      have h2 := HZ.out.below hb1
      have h1 := HY.out.below hb1
      have hbw := stBelow2 hb1
      obtain ⟨f0, f1, f2, f3, f4⟩ := h2.free5
      obtain ⟨c0, c1, c2, c3, c4⟩ := h2.cells5
      obtain ⟨d0, d1, d2, d3, d4⟩ := h1.cells5
      obtain ⟨g0, g1, g2, g3, g4⟩ := h1.free5
      simp only at d0 d1 d2 d3 d4
      have H1 := Lib.hid h1; have H2 := Lib.hid h2; have HB := Lib.hid hbw; clear h1 h2 hb1 hbw HY HZ
      go_wp2_with fail
      refine bodyPost_ret (v := .tuple #[.agg #[.int .i64 2, .int .i64 e, .int .i64 x, .int .i64 y, .int .i64 z], .bool true]) (two_results rfl _ _ _ 40 _ (0, 0) _ rfl (Holds.all ((H2.out).far (by simp) _) _ _ _ _ _) Try.underlying40 rfl (by kernel_rfl) rfl) rfl ?_
      exact ⟨rfl, below_set5 (g := w.heap.size + 1) ((HB.out).setCell (by simp) _) (by omega)⟩
    · have hv : St.into ⟨2, e, x, y, z⟩ = some ⟨3, e, x, y, z⟩ := by have hr := HRt.out; unfold St.into; rw [if_pos (by simp [hr])]; rfl
      rw [hv]; clear hv HRt
      unfold ov
      simp only [Option.getD_none, Option.getD_some, Option.isSome_none, Option.isSome_some, zero_val]
      have hz := zero_made (w.alloc (.cells #[.int .i64 2, .int .i64 e, .int .i64 x, .int .i64 y, .int .i64 z] 40))
      rw [size_alloc] at hz
      have hy := (Holds.made w ⟨2, e, x, y, z⟩).alloc (.cells #[.int .i64 0, .int .i64 0, .int .i64 0, .int .i64 0, .int .i64 0] 40)
      have HZ := Lib.hid hz; have HY := Lib.hid hy; clear hz hy
      go_enter Try.func35, Try.ntmps35
      go_wp2_with fail
      refine (HR.out _).mono ?_; rintro e1 w1 ⟨rfl, hb1⟩
      have h2 := HZ.out.below hb1
      have h1 := HY.out.below hb1
      have hbw := stBelow2 hb1
      obtain ⟨f0, f1, f2, f3, f4⟩ := h2.free5
      obtain ⟨c0, c1, c2, c3, c4⟩ := h2.cells5
      obtain ⟨d0, d1, d2, d3, d4⟩ := h1.cells5
      obtain ⟨g0, g1, g2, g3, g4⟩ := h1.free5
      simp only at d0 d1 d2 d3 d4
      have H1 := Lib.hid h1; have H2 := Lib.hid h2; have HB := Lib.hid hbw; clear h1 h2 hb1 hbw HY HZ
      go_wp2_with fail
      refine bodyPost_ret (v := .tuple #[.agg #[.int .i64 3, .int .i64 e, .int .i64 x, .int .i64 y, .int .i64 z], .bool true]) (two_results rfl _ _ _ 40 _ (0, 0) _ rfl (Holds.all ((H2.out).far (by simp) _) _ _ _ _ _) Try.underlying40 rfl (by kernel_rfl) rfl) rfl ?_
      exact ⟨rfl, below_set5 (g := w.heap.size + 1) ((HB.out).setCell (by simp) _) (by omega)⟩
    · have hv : St.into ⟨3, e, x, y, z⟩ = none := by unfold St.into; exact if_neg (by simp)
      rw [hv]; clear hv HRt
      unfold ov
      simp only [Option.getD_none, Option.getD_some, Option.isSome_none, Option.isSome_some, zero_val]
      have hz := zero_made (w.alloc (.cells #[.int .i64 3, .int .i64 e, .int .i64 x, .int .i64 y, .int .i64 z] 40))
      rw [size_alloc] at hz
      have hy := (Holds.made w ⟨3, e, x, y, z⟩).alloc (.cells #[.int .i64 0, .int .i64 0, .int .i64 0, .int .i64 0, .int .i64 0] 40)
      have HZ := Lib.hid hz; have HY := Lib.hid hy; clear hz hy
      go_enter Try.func35, Try.ntmps35
      go_wp2_with fail
      refine (HR.out _).mono ?_; rintro e1 w1 ⟨rfl, hb1⟩
      have h2 := HZ.out.below hb1
      have h1 := HY.out.below hb1
      have hbw := stBelow2 hb1
      obtain ⟨f0, f1, f2, f3, f4⟩ := h2.free5
      obtain ⟨c0, c1, c2, c3, c4⟩ := h2.cells5
      obtain ⟨d0, d1, d2, d3, d4⟩ := h1.cells5
      obtain ⟨g0, g1, g2, g3, g4⟩ := h1.free5
      simp only at d0 d1 d2 d3 d4
      have H1 := Lib.hid h1; have H2 := Lib.hid h2; have HB := Lib.hid hbw; clear h1 h2 hb1 hbw HY HZ
      go_wp2_with fail
      refine bodyPost_ret (v := .tuple #[.agg #[.int .i64 0, .int .i64 0, .int .i64 0, .int .i64 0, .int .i64 0], .bool false]) (two_results rfl _ _ _ 40 _ (0, 0) _ rfl (Holds.all (H2.out) _ _ _ _ _) Try.underlying40 rfl (by kernel_rfl) rfl) rfl ?_
      exact ⟨rfl, below_set5 (g := w.heap.size + 1) (HB.out) (by omega)⟩
  · have HR := Lib.hid (right_is (decide_eq_false hR) (right_any t))
    have hv := hn hR
    clear hR hn
    rw [hv]; clear hv
    unfold ov
    simp only [Option.getD_none, Option.isSome_none, zero_val]
    obtain ⟨d, e, x, y, z⟩ := t
    unfold St.val at *
    simp only at HR ⊢
    have hz := zero_made (w.alloc (.cells #[.int .i64 d, .int .i64 e, .int .i64 x, .int .i64 y, .int .i64 z] 40))
    rw [size_alloc] at hz
    have hy := (Holds.made w ⟨d, e, x, y, z⟩).alloc (.cells #[.int .i64 0, .int .i64 0, .int .i64 0, .int .i64 0, .int .i64 0] 40)
    have HZ := Lib.hid hz; have HY := Lib.hid hy; clear hz hy
    go_enter Try.func35, Try.ntmps35
    go_wp2_with fail
    refine (HR.out _).mono ?_; rintro e1 w1 ⟨rfl, hb1⟩
    have h2 := HZ.out.below hb1
    have h1 := HY.out.below hb1
    have hbw := stBelow2 hb1
    obtain ⟨f0, f1, f2, f3, f4⟩ := h2.free5
    obtain ⟨c0, c1, c2, c3, c4⟩ := h2.cells5
    obtain ⟨d0, d1, d2, d3, d4⟩ := h1.cells5
    obtain ⟨g0, g1, g2, g3, g4⟩ := h1.free5
    simp only at d0 d1 d2 d3 d4
    have H1 := Lib.hid h1; have H2 := Lib.hid h2; have HB := Lib.hid hbw; clear h1 h2 hb1 hbw HY HZ
    go_wp2_with fail
    refine bodyPost_ret (v := .tuple #[.agg #[.int .i64 0, .int .i64 0, .int .i64 0, .int .i64 0, .int .i64 0], .bool false]) (two_results rfl _ _ _ 40 _ (0, 0) _ rfl (Holds.all (H2.out) _ _ _ _ _) Try.underlying40 rfl (by kernel_rfl) rfl) rfl ?_
    exact ⟨rfl, below_set5 (g := w.heap.size + 1) (HB.out) (by omega)⟩
set_option maxHeartbeats 4000000 in
theorem refInto_any (t : St) (w : World) : Calls Try.prog 38 #[t.val] w fun e w' => e = .returned (.tuple #[(ov t.into).val, .bool t.into.isSome]) ∧ Below w.heap.size w w' := by
  have hn : ¬ t.R → t.into = none := fun h => by unfold St.into; rw [if_neg (fun hc => h hc.1)]
  by_cases hR : t.R
  · have HR := Lib.hid (right_is (decide_eq_true hR) (refRight_any t))
    have hRd : t.R := hR
    have hd : t.d = 0 ∨ t.d = 1 ∨ t.d = 2 ∨ t.d = 3 := by unfold St.R at hRd; omega
    have HRt := Lib.hid hRd
    clear hR hRd hn
    obtain ⟨d, e, x, y, z⟩ := t
    unfold St.val at *
    simp only at hd HR ⊢
    rcases hd with rfl | rfl | rfl | rfl
    · have hv : St.into ⟨0, e, x, y, z⟩ = some ⟨1, e, x, y, z⟩ := by have hr := HRt.out; unfold St.into; rw [if_pos (by simp [hr])]; rfl
      rw [hv]; clear hv HRt
      unfold ov
      simp only [Option.getD_none, Option.getD_some, Option.isSome_none, Option.isSome_some, zero_val]
      have hz := zero_made (w.alloc (.cells #[.int .i64 0, .int .i64 e, .int .i64 x, .int .i64 y, .int .i64 z] 40))
      rw [size_alloc] at hz
      have hy := (Holds.made w ⟨0, e, x, y, z⟩).alloc (.cells #[.int .i64 0, .int .i64 0, .int .i64 0, .int .i64 0, .int .i64 0] 40)
      have HZ := Lib.hid hz; have HY := Lib.hid hy; clear hz hy
      go_enter Try.func38, Try.ntmps38
      go_wp2_with fail
      refine (HR.out _).mono ?_; rintro e1 w1 ⟨rfl, hb1⟩
      have h2 := HZ.out.below hb1
      have h1 := HY.out.below hb1
      have hbw := stBelow2 hb1
      obtain ⟨f0, f1, f2, f3, f4⟩ := h2.free5
      obtain ⟨c0, c1, c2, c3, c4⟩ := h2.cells5
      obtain ⟨d0, d1, d2, d3, d4⟩ := h1.cells5
      obtain ⟨g0, g1, g2, g3, g4⟩ := h1.free5
      simp only at d0 d1 d2 d3 d4
      have H1 := Lib.hid h1; have H2 := Lib.hid h2; have HB := Lib.hid hbw; clear h1 h2 hb1 hbw HY HZ
      go_wp2_with fail
      refine bodyPost_ret (v := .tuple #[.agg #[.int .i64 1, .int .i64 e, .int .i64 x, .int .i64 y, .int .i64 z], .bool true]) (two_results rfl _ _ _ 40 _ (0, 0) _ rfl (Holds.all ((H2.out).far (by simp) _) _ _ _ _ _) Try.underlying40 rfl (by kernel_rfl) rfl) rfl ?_
      exact ⟨rfl, below_set5 (g := w.heap.size + 1) ((HB.out).setCell (by simp) _) (by omega)⟩
    · have hv : St.into ⟨1, e, x, y, z⟩ = some ⟨2, e, x, y, z⟩ := by have hr := HRt.out; unfold St.into; rw [if_pos (by simp [hr])]; rfl
      rw [hv]; clear hv HRt
      unfold ov
      simp only [Option.getD_none, Option.getD_some, Option.isSome_none, Option.isSome_some, zero_val]
      have hz := zero_made (w.alloc (.cells #[.int .i64 1, .int .i64 e, .int .i64 x, .int .i64 y, .int .i64 z] 40))
      rw [size_alloc] at hz
      have hy := (Holds.made w ⟨1, e, x, y, z⟩).alloc (.cells #[.int .i64 0, .int .i64 0, .int .i64 0, .int .i64 0, .int .i64 0] 40)
      have HZ := Lib.hid hz; have HY := Lib.hid hy; clear hz hy
      go_enter Try.func38, Try.ntmps38
      go_wp2_with fail
      refine (HR.out _).mono ?_; rintro e1 w1 ⟨rfl, hb1⟩
      have h2 := HZ.out.below hb1
      have h1 := HY.out.below hb1
      have hbw := stBelow2 hb1
      obtain ⟨f0, f1, f2, f3, f4⟩ := h2.free5
      obtain ⟨c0, c1, c2, c3, c4⟩ := h2.cells5
      obtain ⟨d0, d1, d2, d3, d4⟩ := h1.cells5
      obtain ⟨g0, g1, g2, g3, g4⟩ := h1.free5
      simp only at d0 d1 d2 d3 d4
      have H1 := Lib.hid h1; have H2 := Lib.hid h2; have HB := Lib.hid hbw; clear h1 h2 hb1 hbw HY HZ
      go_wp2_with fail
      refine bodyPost_ret (v := .tuple #[.agg #[.int .i64 2, .int .i64 e, .int .i64 x, .int .i64 y, .int .i64 z], .bool true]) (two_results rfl _ _ _ 40 _ (0, 0) _ rfl (Holds.all ((H2.out).far (by simp) _) _ _ _ _ _) Try.underlying40 rfl (by kernel_rfl) rfl) rfl ?_
      exact ⟨rfl, below_set5 (g := w.heap.size + 1) ((HB.out).setCell (by simp) _) (by omega)⟩
    · have hv : St.into ⟨2, e, x, y, z⟩ = some ⟨3, e, x, y, z⟩ := by have hr := HRt.out; unfold St.into; rw [if_pos (by simp [hr])]; rfl
      rw [hv]; clear hv HRt
      unfold ov
      simp only [Option.getD_none, Option.getD_some, Option.isSome_none, Option.isSome_some, zero_val]
      have hz := zero_made (w.alloc (.cells #[.int .i64 2, .int .i64 e, .int .i64 x, .int .i64 y, .int .i64 z] 40))
      rw [size_alloc] at hz
      have hy := (Holds.made w ⟨2, e, x, y, z⟩).alloc (.cells #[.int .i64 0, .int .i64 0, .int .i64 0, .int .i64 0, .int .i64 0] 40)
      have HZ := Lib.hid hz; have HY := Lib.hid hy; clear hz hy
      go_enter Try.func38, Try.ntmps38
      go_wp2_with fail
      refine (HR.out _).mono ?_; rintro e1 w1 ⟨rfl, hb1⟩
      have h2 := HZ.out.below hb1
      have h1 := HY.out.below hb1
      have hbw := stBelow2 hb1
      obtain ⟨f0, f1, f2, f3, f4⟩ := h2.free5
      obtain ⟨c0, c1, c2, c3, c4⟩ := h2.cells5
      obtain ⟨d0, d1, d2, d3, d4⟩ := h1.cells5
      obtain ⟨g0, g1, g2, g3, g4⟩ := h1.free5
      simp only at d0 d1 d2 d3 d4
      have H1 := Lib.hid h1; have H2 := Lib.hid h2; have HB := Lib.hid hbw; clear h1 h2 hb1 hbw HY HZ
      go_wp2_with fail
      refine bodyPost_ret (v := .tuple #[.agg #[.int .i64 3, .int .i64 e, .int .i64 x, .int .i64 y, .int .i64 z], .bool true]) (two_results rfl _ _ _ 40 _ (0, 0) _ rfl (Holds.all ((H2.out).far (by simp) _) _ _ _ _ _) Try.underlying40 rfl (by kernel_rfl) rfl) rfl ?_
      exact ⟨rfl, below_set5 (g := w.heap.size + 1) ((HB.out).setCell (by simp) _) (by omega)⟩
    · have hv : St.into ⟨3, e, x, y, z⟩ = none := by unfold St.into; exact if_neg (by simp)
      rw [hv]; clear hv HRt
      unfold ov
      simp only [Option.getD_none, Option.getD_some, Option.isSome_none, Option.isSome_some, zero_val]
      have hz := zero_made (w.alloc (.cells #[.int .i64 3, .int .i64 e, .int .i64 x, .int .i64 y, .int .i64 z] 40))
      rw [size_alloc] at hz
      have hy := (Holds.made w ⟨3, e, x, y, z⟩).alloc (.cells #[.int .i64 0, .int .i64 0, .int .i64 0, .int .i64 0, .int .i64 0] 40)
      have HZ := Lib.hid hz; have HY := Lib.hid hy; clear hz hy
      go_enter Try.func38, Try.ntmps38
      go_wp2_with fail
      refine (HR.out _).mono ?_; rintro e1 w1 ⟨rfl, hb1⟩
      have h2 := HZ.out.below hb1
      have h1 := HY.out.below hb1
      have hbw := stBelow2 hb1
      obtain ⟨f0, f1, f2, f3, f4⟩ := h2.free5
      obtain ⟨c0, c1, c2, c3, c4⟩ := h2.cells5
      obtain ⟨d0, d1, d2, d3, d4⟩ := h1.cells5
      obtain ⟨g0, g1, g2, g3, g4⟩ := h1.free5
      simp only at d0 d1 d2 d3 d4
      have H1 := Lib.hid h1; have H2 := Lib.hid h2; have HB := Lib.hid hbw; clear h1 h2 hb1 hbw HY HZ
      go_wp2_with fail
      refine bodyPost_ret (v := .tuple #[.agg #[.int .i64 0, .int .i64 0, .int .i64 0, .int .i64 0, .int .i64 0], .bool false]) (two_results rfl _ _ _ 40 _ (0, 0) _ rfl (Holds.all (H2.out) _ _ _ _ _) Try.underlying40 rfl (by kernel_rfl) rfl) rfl ?_
      exact ⟨rfl, below_set5 (g := w.heap.size + 1) (HB.out) (by omega)⟩
  · have HR := Lib.hid (right_is (decide_eq_false hR) (refRight_any t))
    have hv := hn hR
    clear hR hn
    rw [hv]; clear hv
    unfold ov
    simp only [Option.getD_none, Option.isSome_none, zero_val]
    obtain ⟨d, e, x, y, z⟩ := t
    unfold St.val at *
    simp only at HR ⊢
    have hz := zero_made (w.alloc (.cells #[.int .i64 d, .int .i64 e, .int .i64 x, .int .i64 y, .int .i64 z] 40))
    rw [size_alloc] at hz
    have hy := (Holds.made w ⟨d, e, x, y, z⟩).alloc (.cells #[.int .i64 0, .int .i64 0, .int .i64 0, .int .i64 0, .int .i64 0] 40)
    have HZ := Lib.hid hz; have HY := Lib.hid hy; clear hz hy
    go_enter Try.func38, Try.ntmps38
    go_wp2_with fail
    refine (HR.out _).mono ?_; rintro e1 w1 ⟨rfl, hb1⟩
    have h2 := HZ.out.below hb1
    have h1 := HY.out.below hb1
    have hbw := stBelow2 hb1
    obtain ⟨f0, f1, f2, f3, f4⟩ := h2.free5
    obtain ⟨c0, c1, c2, c3, c4⟩ := h2.cells5
    obtain ⟨d0, d1, d2, d3, d4⟩ := h1.cells5
    obtain ⟨g0, g1, g2, g3, g4⟩ := h1.free5
    simp only at d0 d1 d2 d3 d4
    have H1 := Lib.hid h1; have H2 := Lib.hid h2; have HB := Lib.hid hbw; clear h1 h2 hb1 hbw HY HZ
    go_wp2_with fail
    refine bodyPost_ret (v := .tuple #[.agg #[.int .i64 0, .int .i64 0, .int .i64 0, .int .i64 0, .int .i64 0], .bool false]) (two_results rfl _ _ _ 40 _ (0, 0) _ rfl (Holds.all (H2.out) _ _ _ _ _) Try.underlying40 rfl (by kernel_rfl) rfl) rfl ?_
    exact ⟨rfl, below_set5 (g := w.heap.size + 1) (HB.out) (by omega)⟩
end

section
open Go.ChangeShapes Go.WideShapes Go.ChangeAt Go.RowKit Go.BigFrame
set_option maxRecDepth 100000
theorem L_join (a b : St) (h : a.B b) : a.L b ↔ (a.join b).e = b.e ∧ (a.join b).x = b.x ∧ (a.join b).y = b.y ∧ (a.join b).z = b.z := by
  rw [St.join_eq h]
  unfold St.B at h
  unfold St.L
  simp only
  constructor
  · rintro ⟨h1, h2, h3, h4, h5, h6, h7⟩; omega
  · rintro ⟨h1, h2, h3, h4⟩; exact ⟨h.1, h.2.1, h.2.2, by omega, by omega, by omega, by omega⟩
set_option maxHeartbeats 1000000 in
theorem leq_any (a b : St) (w : World) : Calls Try.prog 25 #[a.val, b.val] w fun e w' => e = .returned (.bool (decide (a.L b))) ∧ Below w.heap.size w w' := by
  have hc := fun w => join_any a b w
  by_cases hB : a.B b
  · have hj := L_join a b hB
    have hdec : decide (a.L b) = (((a.join b).e == b.e) && eqL (a.join b).x (a.join b).y (a.join b).z b.x b.y b.z) := by
      unfold eqL
      rw [Bool.eq_iff_iff]
      simp [hj]
    rw [decide_eq_true hB] at hc
    rw [hdec]; clear hdec hj hB
    generalize a.join b = T at *
    have HC := Lib.hid hc; clear hc
    obtain ⟨d, e, x, y, z⟩ := a
    obtain ⟨d', e', x', y', z'⟩ := b
    obtain ⟨p, q, r, s, t⟩ := T
    unfold St.val at *
    simp only at HC ⊢
    have hy := Holds.made (w.alloc (.cells #[.int .i64 d, .int .i64 e, .int .i64 x, .int .i64 y, .int .i64 z] 40)) ⟨d', e', x', y', z'⟩
    rw [size_alloc] at hy
    have HY := Lib.hid hy; clear hy
    have hE : ∀ w, (Op.equalIn 10000 38 (.agg #[.int .i64 r, .int .i64 s, .int .i64 t]) (.agg #[.int .i64 x', .int .i64 y', .int .i64 z'])).run Try.prog w = .ok (eqL r s t x' y' z') w := fun w => eq3 9998 _ _ _ _ _ _ w
    generalize eqL r s t x' y' z' = v at *
    have HE := Lib.hid hE; clear hE
    by_cases hq : q = e'
    · subst hq
      rw [beq_self_eq_true, Bool.true_and]
      go_enter Try.func25, Try.ntmps25
      go_wp2_with fail
      refine (HC.out _).mono ?_; rintro e1 w1 ⟨rfl, hb1⟩
      have h2 := HY.out.below hb1
      have hbw := stBelow2 hb1
      have hsz := hb1.size
      simp only [size_alloc] at hsz
      obtain ⟨c0, c1, c2, c3, c4⟩ := h2.cells5
      simp only at c0 c1 c2 c3 c4
      have m1 : w.heap.size + 1 ≠ w1.heap.size := by omega
      have m2 : w.heap.size + 1 < w1.heap.size := by omega
      have hE := HE.out
      have HB := Lib.hid hbw; clear h2 hb1 hbw hsz
      go_wp2_with fail
      go_ret
      exact ⟨rfl, HB.out.alloc HB.out.size _⟩
    · have hq' : (q == e') = false := by rw [beq_eq_false_iff_ne]; exact hq
      rw [hq', Bool.false_and]
      clear hq
      go_enter Try.func25, Try.ntmps25
      go_wp2_with fail
      refine (HC.out _).mono ?_; rintro e1 w1 ⟨rfl, hb1⟩
      have h2 := HY.out.below hb1
      have hbw := stBelow2 hb1
      have hsz := hb1.size
      simp only [size_alloc] at hsz
      obtain ⟨c0, c1, c2, c3, c4⟩ := h2.cells5
      simp only at c0 c1 c2 c3 c4
      have m1 : w.heap.size + 1 ≠ w1.heap.size := by omega
      have m2 : w.heap.size + 1 < w1.heap.size := by omega
      have HB := Lib.hid hbw; clear h2 hb1 hbw hsz
      go_wp2_with fail
      go_ret
      exact ⟨rfl, HB.out.alloc HB.out.size _⟩
  · have hl : decide (a.L b) = false := by rw [decide_eq_false_iff_not]; exact fun h => hB (St.L_B h)
    rw [decide_eq_false hB] at hc
    rw [hl]; clear hl hB
    generalize a.join b = T at *
    have HC := Lib.hid hc; clear hc
    obtain ⟨d, e, x, y, z⟩ := a
    obtain ⟨d', e', x', y', z'⟩ := b
    obtain ⟨p, q, r, s, t⟩ := T
    unfold St.val at *
    simp only at HC ⊢
    go_enter Try.func25, Try.ntmps25
    go_wp2_with fail
    refine (HC.out _).mono ?_; rintro e1 w1 ⟨rfl, hb1⟩
    have HB := Lib.hid (stBelow2 hb1); clear hb1
    go_wp2_with fail
    go_ret
    exact ⟨rfl, HB.out.alloc HB.out.size _⟩
end
end Go.Proofs.Ytcjdjdhjbchaaaa
