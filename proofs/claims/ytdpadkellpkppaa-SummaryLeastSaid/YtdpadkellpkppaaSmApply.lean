/- Apply, the program's. -/
import Derived.Test.YtdpadkellpkppaaSmApplyN
import Derived.Test.YtdpadkellpkppaaStBothB
namespace Go.Proofs.Ytdpadkellpkppaa
open Go.ChangeShapes Go.WideShapes Go.ChangeAt Go.RowKit Go.BigFrame
set_option linter.unusedVariables false
set_option maxRecDepth 100000
/-- where the time's box stands while it is written -/
def ApD (w : World) (s : Sm) (t : St) (p q r : Int) (b1 b2 : Bool) (w' : World) : Prop :=
  Below w.heap.size w w' ∧ HoldsM w' w.heap.size 24 s ∧ Holds w' (w.heap.size + 1) ⟨if b1 then s.to else t.d, t.e, if b2 then p else t.x, if b2 then q else t.y, if b2 then r else t.z⟩ ∧ Holds w' (w.heap.size + 1 + 1) St.zero
theorem ApD.below {w : World} {s : Sm} {t : St} {p q r : Int} {b1 b2 : Bool} {v v' : World} (h : ApD w s t p q r b1 b2 v) (hb : Below v.heap.size v v') : ApD w s t p q r b1 b2 v' :=
  ⟨h.1.trans (hb.mono h.1.size), h.2.1.below hb, h.2.2.1.below hb, h.2.2.2.below hb⟩
set_option maxHeartbeats 8000000 in
theorem apply_D (s : Sm) (t : St) (w : World) (h : s.R) (h2 : t.R) (hd : t.d = s.fr) : Calls Try.prog 11 #[s.v, t.val] w fun e w' => e = .returned (.tuple #[(s.ap t).val, .bool (s.apB t)]) ∧ Below w.heap.size w w' := by
  have hmr := Sm.made_R h h2
  have hal := along_any s t.x t.y t.z
  have bt : (0 ≤ t.x ∧ t.x ≤ 1000) ∧ (0 ≤ t.y ∧ t.y ≤ 1000) ∧ (0 ≤ t.z ∧ t.z ≤ 1000) := by unfold St.R at h2; omega
  have cal := fun w => hal w h bt.1 bt.2.1 bt.2.2
  rw [show s.al 0 t.x = s.val t 0 from Sm.val_al 0, show s.al 1 t.y = s.val t 1 from Sm.val_al 1, show s.al 2 t.z = s.val t 2 from Sm.val_al 2] at cal
  have r3 := fun w => right_any ⟨s.to, t.e, s.val t 0, s.val t 1, s.val t 2⟩ w
  have hres : (s.ap t).val = (if decide (St.R ⟨s.to, t.e, s.val t 0, s.val t 1, s.val t 2⟩) then (St.val ⟨s.to, t.e, s.val t 0, s.val t 1, s.val t 2⟩) else St.zero.val) ∧ s.apB t = decide (St.R ⟨s.to, t.e, s.val t 0, s.val t 1, s.val t 2⟩) := by
    by_cases hh : s.val t 0 < 16 ∧ s.val t 1 < 16 ∧ s.val t 2 < 16
    · obtain ⟨q1, q2⟩ := Sm.ap_yes (s := s) (t := t) ⟨h, h2, hd, hh⟩
      rw [q1, q2, decide_eq_true (hmr.2 hh)]; exact ⟨rfl, rfl⟩
    · obtain ⟨q1, q2⟩ := Sm.ap_no (s := s) (t := t) (fun g => hh g.2.2.2)
      rw [q1, q2, decide_eq_false (fun g => hh (hmr.1 g))]; exact ⟨rfl, rfl⟩
  rw [hres.1, hres.2]
  clear hres hmr hal bt
  have h3 := Trio.made w 24 s t
  have hbw := below_alloc3 w (.cells #[.int .i64 s.fr, .int .i64 s.to, .int .i64 s.kp, .int .i64 s.ad, .int .i64 s.t0, .int .i64 s.t1, .int .i64 s.t2] 24) (.cells #[.int .i64 t.d, .int .i64 t.e, .int .i64 t.x, .int .i64 t.y, .int .i64 t.z] 26) (.cells #[.int .i64 0, .int .i64 0, .int .i64 0, .int .i64 0, .int .i64 0] 26)
  have H3 := Lib.hid h3; have HB := Lib.hid hbw; clear h3 hbw
  have r1 := fun w => rightM_true h w
  have r2 := fun w => right_true h2 w
  have hn : (t.d != s.fr) = false := by simpa using hd
  have R1 := Lib.hid r1; have R2 := Lib.hid r2; clear r1 r2
  clear h h2 hd
  generalize s.val t 0 = p at *
  generalize s.val t 1 = q at *
  generalize s.val t 2 = r at *
  generalize hb : decide (St.R ⟨s.to, t.e, p, q, r⟩) = bb at *
  clear hb
  have R3 := Lib.hid r3; have CAL := Lib.hid cal; clear r3 cal
  unfold Sm.v St.val at *
  go_enter Try.func11, Try.ntmps11
  go_wp2_with fail
  refine (R1.out _).mono ?_; rintro e w2 ⟨rfl, hb2⟩
  have k3 := H3.out.below hb2
  have kb := HB.out.trans (hb2.mono HB.out.size); clear H3 HB
  have H3 := Lib.hid k3; have HB := Lib.hid kb; clear k3 kb hb2
  obtain ⟨a0, a1, a2, a3, a4⟩ := H3.out.2.1.c5
  obtain ⟨b0, b1, b2, b3, b4, b5, b6⟩ := H3.out.1.cells7
  go_wp2_with fail
  clear a0 a1 a2 a3 a4 b0 b1 b2 b3 b4 b5 b6 R1
  refine (R2.out _).mono ?_; rintro e w3 ⟨rfl, hb3⟩
  have k3 := H3.out.below hb3
  have kb := HB.out.trans (hb3.mono HB.out.size); clear H3 HB
  have H3 := Lib.hid k3; have HB := Lib.hid kb; clear k3 kb hb3
  obtain ⟨a0, a1, a2, a3, a4⟩ := H3.out.2.1.c5
  obtain ⟨b0, b1, b2, b3, b4, b5, b6⟩ := H3.out.1.cells7
  go_wp2_with fail
  clear a0 a1 a2 a3 a4 b0 b1 b2 b3 b4 b5 b6 R2 hn
  have hD : ApD w s t p q r false false w3.drew := ⟨HB.out.drew, H3.out.1, H3.out.2.1, H3.out.2.2⟩
  have HD := Lib.hid hD; clear hD H3 HB
  refine Stage.wp_region (by kernel_rfl) (by kernel_rfl) (Stage.two 7 9 (ApD w s t p q r)) (Stage.two_start (by simp) (by simp) HD.out) ?_
  refine Stage.wpSt_do (.pointer (some ⟨w.heap.size, 1, none⟩)) rfl (Stage.two_step (by kernel_rfl) (fun b w' hw => ?_)) ?_
  · exact at_of (by go_simp) hw
  go_simp
  refine Stage.wpSt_do (.int .i64 s.to) rfl (Stage.two_step (by kernel_rfl) (fun b w' hw => ?_)) ?_
  · exact Free.at_load _ _ rfl rfl (load_m1 hw.2.1 1 rfl w' (Below.refl _ _)) hw
  go_simp
  refine Stage.wpSt_do (.agg #[.int .i64 s.fr, .int .i64 s.to, .int .i64 s.kp, .int .i64 s.ad, .int .i64 s.t0, .int .i64 s.t1, .int .i64 s.t2]) rfl (Stage.two_step (by kernel_rfl) (fun b w' hw => ?_)) ?_
  · exact Free.at_load _ _ rfl rfl (load_m hw.2.1 w' (Below.refl _ _)) hw
  go_simp
  refine Stage.wpSt_do (.pointer (some ⟨w.heap.size + 1, 2, none⟩)) rfl (Stage.two_step (by kernel_rfl) (fun b w' hw => ?_)) ?_
  · exact at_of (by go_simp) hw
  go_simp
  refine Stage.wpSt_do (.agg #[.int .i64 t.x, .int .i64 t.y, .int .i64 t.z]) rfl (Stage.two_step (by kernel_rfl) (fun b w' hw => ?_)) ?_
  · exact Free.at_load _ _ rfl rfl (load_l hw.2.2.1 w' (Below.refl _ _)) hw
  go_simp
  refine Stage.wpSt_do (.agg #[.int .i64 p, .int .i64 q, .int .i64 r]) rfl (Stage.two_step (by kernel_rfl) (fun b w' hw => ?_)) ?_
  · exact Free.at_call _ _ rfl Try.func29 (by kernel_rfl) rfl [.agg #[.int .i64 s.fr, .int .i64 s.to, .int .i64 s.kp, .int .i64 s.ad, .int .i64 s.t0, .int .i64 s.t1, .int .i64 s.t2], .agg #[.int .i64 t.x, .int .i64 t.y, .int .i64 t.z]] rfl ((CAL.out _).mono fun _ _ hh => ⟨hh.1, hw.below hh.2⟩)
  go_simp
  refine Stage.wpSt_do (.pointer (some ⟨w.heap.size + 1, 0, none⟩)) rfl (Stage.two_step (by kernel_rfl) (fun b w' hw => ?_)) ?_
  · exact at_of (by go_simp) hw
  go_simp
  refine Stage.wpSt_do undef rfl (Stage.two_first (by decide) (by kernel_rfl) (fun w' hw => ?_)) ?_
  · have c := hw.2.2.1.c5.1
    have f := hw.2.2.1.f5.1
    simp only at c
    exact at_skip (w' := w'.setCell ⟨w.heap.size + 1, 0, none⟩ (.int .i64 s.to)) (by go_simp) ⟨hw.1.setCell (by simp) _, Row.far hw.2.1 (by simp) _, Row.put hw.2.2.1 0 _, Row.far hw.2.2.2 (by simp) _⟩
  go_simp
  refine Stage.wpSt_do (.pointer (some ⟨w.heap.size + 1, 2, none⟩)) rfl (Stage.two_step (by kernel_rfl) (fun b w' hw => ?_)) ?_
  · exact at_of (by go_simp) hw
  go_simp
  refine Stage.wpSt_do undef rfl (Stage.two_then (by decide) (by kernel_rfl) (fun w' hw => ?_)) ?_
  · obtain ⟨c0, c1, c2, c3, c4⟩ := hw.2.2.1.c5
    obtain ⟨f0, f1, f2, f3, f4⟩ := hw.2.2.1.f5
    exact at_skip (w' := ((w'.setCell ⟨w.heap.size + 1, 2, none⟩ (.int .i64 p)).setCell ⟨w.heap.size + 1, 3, none⟩ (.int .i64 q)).setCell ⟨w.heap.size + 1, 4, none⟩ (.int .i64 r)) (by go_simp) ⟨((hw.1.setCell (by simp) _).setCell (by simp) _).setCell (by simp) _, Row.far (Row.far (Row.far hw.2.1 (by simp) _) (by simp) _) (by simp) _, Row.put (Row.put (Row.put hw.2.2.1 2 _) 3 _) 4 _, Row.far (Row.far (Row.far hw.2.2.2 (by simp) _) (by simp) _) (by simp) _⟩
  go_simp
  refine Stage.wpSt_nil (Stage.two_end ?_)
  intro w4 hw4
  obtain ⟨hb4, hm4, ht4, hz4⟩ := hw4
  simp only [if_true] at ht4
  obtain ⟨a0, a1, a2, a3, a4⟩ := ht4.c5
  have HB := Lib.hid hb4; have HT := Lib.hid ht4; have HZ := Lib.hid hz4; clear hb4 hm4 ht4 hz4 HD CAL
  go_wp2_with fail
  refine (R3.out _).mono ?_; rintro e w5 ⟨rfl, hb5⟩
  have ht5 := HT.out.below hb5; have hz5 := HZ.out.below hb5; have hbw := HB.out.trans (hb5.mono HB.out.size)
  clear a0 a1 a2 a3 a4 HT HZ HB hb5 R3
  obtain ⟨a0, a1, a2, a3, a4⟩ := ht5.c5
  obtain ⟨z0, z1, z2, z3, z4⟩ := hz5.c5
  obtain ⟨f0, f1, f2, f3, f4⟩ := hz5.f5
  have HB := Lib.hid hbw; have HZ := Lib.hid hz5; clear hbw hz5 ht5
  simp only at a0 a1 a2 a3 a4
  cases bb with
  | true =>
    go_wp2_with fail
    refine bodyPost_ret (v := .tuple #[.agg #[.int .i64 s.to, .int .i64 t.e, .int .i64 p, .int .i64 q, .int .i64 r], .bool true]) (two_results rfl _ _ _ 26 _ (0, 0) _ rfl (row_set5' HZ.out) Try.underlying26 rfl (by kernel_rfl) rfl) rfl ?_
    exact ⟨rfl, below_set5' HB.out (by omega)⟩
  | false =>
    go_wp2_with fail
    refine bodyPost_ret (v := .tuple #[.agg #[.int .i64 0, .int .i64 0, .int .i64 0, .int .i64 0, .int .i64 0], .bool false]) (two_results rfl _ _ _ 26 _ (0, 0) _ rfl (row_set5' HZ.out) Try.underlying26 rfl (by kernel_rfl) rfl) rfl ?_
    exact ⟨rfl, below_set5' HB.out (by omega)⟩
theorem apply_any (s : Sm) (t : St) (w : World) : Calls Try.prog 11 #[s.v, t.val] w fun e w' => e = .returned (.tuple #[(s.ap t).val, .bool (s.apB t)]) ∧ Below w.heap.size w w' := by
  by_cases h : s.R
  · by_cases h2 : t.R
    · by_cases hd : t.d = s.fr
      · exact apply_D s t w h h2 hd
      · exact apply_C s t w h h2 hd
    · exact apply_B s t w h h2
  · exact apply_A s t w h
end Go.Proofs.Ytdpadkellpkppaa
