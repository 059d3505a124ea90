/- works: the chapter's examples. -/
import Derived.Test.YtcdofkhkckodjaaVrKey
namespace Go.Proofs.Ytcdofkhkckodjaa
namespace Vr
open Go.ChangeShapes Go.WideShapes Go.ChangeAt Go.RowKit Go.BigFrame
set_option linter.unusedVariables false
set_option maxRecDepth 100000
def eA : Rd := ⟨1, 5⟩
def eB : Rd := ⟨2, 0⟩
def eC : Rd := ⟨2, 1⟩
theorem ex_sorted : sameR (sortR [eC, eA, eB, eA]) [eA, eA, eB, eC] = true := by decide +kernel
theorem ex_same : sameR (sortR [eA, eB]) (sortR [eB, eA]) = true := by decide +kernel
theorem ex_unlike : sameR (sortR [eA]) (sortR [eA, eA]) = false := by decide +kernel
theorem ex_cmp : eA.C eB = -1 := by decide +kernel
theorem ex_less : lessR [eA, eA, eB] [eA] = some [eA, eB] := by decide +kernel
theorem ex_no : lessR [eA] [eB] = none := by decide +kernel
theorem ex_W : ∀ r ∈ [eA], r.W := by
  intro r hr
  simp only [List.mem_singleton] at hr
  subst hr
  exact ⟨⟨by decide, by decide⟩, by decide, by decide⟩
/-- a box that holds a record -/
theorem load_box {W : World} {g : Nat} {r : Rd} (h : Row W g 32 [.int .i64 r.k, .int .i64 r.v]) : ∀ w', Below W.heap.size W w' → (Instr.loadAt 32 (.pointer (some ⟨g, 0, none⟩))).run Try.prog w' = .ok r.val w' := fun w' hb =>
  run_loadAt_part g 0 32 _ r.cells (fun j v hj => by rw [add_at, Nat.zero_add, (h.below hb h.lt).cell]; exact hj) Try.underlying32 rfl (by kernel_rfl)
def tbWk (Ba Bb Bc : Nat) (v4 v6 : Value) (i : Nat) : World → Value → Prop := match i with
  | 4 => fun w v => RowV w v [eC, eA, eB, eA]
  | 5 => fun w v => RowV w v (sortR [eC, eA, eB, eA])
  | 10 => fun w v => RowV w v [eA, eA, eB, eC]
  | 15 => fun w v => RowV w v [eA, eB]
  | 18 => fun w v => RowV w v [eB, eA]
  | 23 => fun w v => RowV w v [eA]
  | 26 => fun w v => RowV w v [eA, eA]
  | 37 => fun w v => RowV w v [eA, eB]
  | 52 => fun w v => RowV w v [eA]
  | 53 => fun w v => BytV w v (putR [eA])
  | _ => fun _ _ => True
def vtWk (Ba Bb Bc : Nat) (v4 v6 : Value) (i : Nat) (v : Value) : Prop := match i with
  | 0 => v = eC.val
  | 1 => v = eA.val
  | 2 => v = eB.val
  | 3 => v = eA.val
  | 6 => v = eA.val
  | 7 => v = eA.val
  | 8 => v = eB.val
  | 9 => v = eC.val
  | 11 => v = .bool true
  | 12 => v = .bool true
  | 13 => v = eA.val
  | 14 => v = eB.val
  | 16 => v = eB.val
  | 17 => v = eA.val
  | 19 => v = .bool true
  | 20 => v = .bool true
  | 21 => v = .bool true
  | 22 => v = eA.val
  | 24 => v = eA.val
  | 25 => v = eA.val
  | 27 => v = .bool false
  | 28 => v = .bool true
  | 29 => v = .bool true
  | 30 => v = .bool true
  | 31 => v = .bool true
  | 32 => v = .bool true
  | 33 => v = .bool true
  | 34 => v = v4
  | 35 => v = eA.val
  | 36 => v = eB.val
  | 38 => v = .bool true
  | 39 => v = .bool true
  | 40 => v = .bool true
  | 41 => v = .bool false
  | 42 => v = .bool true
  | 43 => v = .bool true
  | 44 => v = .bool true
  | 45 => v = eA.val
  | 46 => v = eB.val
  | 47 => v = .int .i64 (-1)
  | 48 => v = .bool true
  | 49 => v = .bool true
  | 50 => v = .bool true
  | 51 => v = eA.val
  | 54 => v = .int .i64 16
  | 55 => v = .bool true
  | 56 => v = .bool true
  | 57 => v = .bool true
  | _ => True
theorem tbWk_keep (Ba Bb Bc : Nat) (v4 v6 : Value) : ∀ i, Kept (tbWk Ba Bb Bc v4 v6 i) := fun i => by
  unfold tbWk
  split <;> first | exact kept_row _ | exact kept_lit _ | exact kept_byt _ | exact kept_true
theorem tbWk_end (Ba Bb Bc : Nat) (v4 v6 : Value) : ∀ i w v, 58 ≤ i → tbWk Ba Bb Bc v4 v6 i w v := fun i w v h => by
  unfold tbWk
  split <;> first | trivial | (exfalso; omega)
set_option maxHeartbeats 16000000 in
theorem works_any (w : World) : Calls Try.prog 9 #[] w fun e w' => e = .returned (.bool true) ∧ Below w.heap.size w w' := by
  go_enter Try.func9, Try.ntmps9
  go_upto_region 2 with fail
  have h1 : Row (((w.alloc (.cells #[.int .i64 1, .int .i64 5] 32)).alloc (.cells #[.int .i64 2, .int .i64 0] 32)).alloc (.cells #[.int .i64 2, .int .i64 1] 32)) w.heap.size 32 [.int .i64 1, .int .i64 5] := ((Row.made w 32 [.int .i64 1, .int .i64 5]).alloc (.cells #[.int .i64 2, .int .i64 0] 32)).alloc (.cells #[.int .i64 2, .int .i64 1] 32)
  have h2 : Row (((w.alloc (.cells #[.int .i64 1, .int .i64 5] 32)).alloc (.cells #[.int .i64 2, .int .i64 0] 32)).alloc (.cells #[.int .i64 2, .int .i64 1] 32)) (w.heap.size + 1) 32 [.int .i64 2, .int .i64 0] := by
    have h := (Row.made (w.alloc (.cells #[.int .i64 1, .int .i64 5] 32)) 32 [.int .i64 2, .int .i64 0]).alloc (.cells #[.int .i64 2, .int .i64 1] 32)
    rw [World.size_alloc] at h
    exact h
  have h3 : Row (((w.alloc (.cells #[.int .i64 1, .int .i64 5] 32)).alloc (.cells #[.int .i64 2, .int .i64 0] 32)).alloc (.cells #[.int .i64 2, .int .i64 1] 32)) (w.heap.size + 1 + 1) 32 [.int .i64 2, .int .i64 1] := by
    have h := Row.made ((w.alloc (.cells #[.int .i64 1, .int .i64 5] 32)).alloc (.cells #[.int .i64 2, .int .i64 0] 32)) 32 [.int .i64 2, .int .i64 1]
    rw [World.size_alloc, World.size_alloc] at h
    exact h
  have hb : Below w.heap.size w (((w.alloc (.cells #[.int .i64 1, .int .i64 5] 32)).alloc (.cells #[.int .i64 2, .int .i64 0] 32)).alloc (.cells #[.int .i64 2, .int .i64 1] 32)) := (((Below.refl _ w).alloc (Nat.le_refl _) (.cells #[.int .i64 1, .int .i64 5] 32)).alloc (by simp) (.cells #[.int .i64 2, .int .i64 0] 32)).alloc (by simp; omega) (.cells #[.int .i64 2, .int .i64 1] 32)
  obtain ⟨w3, hw3⟩ : ∃ w3, ((w.alloc (.cells #[.int .i64 1, .int .i64 5] 32)).alloc (.cells #[.int .i64 2, .int .i64 0] 32)).alloc (.cells #[.int .i64 2, .int .i64 1] 32) = w3 := ⟨_, rfl⟩
  rw [hw3] at h1 h2 h3 hb ⊢
  clear hw3
  have c1 : w3.cell? ⟨w.heap.size, 0, none⟩ = some (.int .i64 1) := h1.cell 0
  have c2 : w3.cell? ⟨w.heap.size, 1, none⟩ = some (.int .i64 5) := h1.cell 1
  have c3 : w3.cell? ⟨w.heap.size + 1, 0, none⟩ = some (.int .i64 2) := h2.cell 0
  have c4 : w3.cell? ⟨w.heap.size + 1, 1, none⟩ = some (.int .i64 0) := h2.cell 1
  have hlt1 := h1.lt
  have hlt2 := h2.lt
  have hl1 := less_v (w := (w3.alloc (.cells #[.int .i64 1, .int .i64 5, .int .i64 1, .int .i64 5, .int .i64 2, .int .i64 0] 32)).alloc (.cells #[.int .i64 1, .int .i64 5] 32)) (va := .slice (some ⟨w3.heap.size, 0, none⟩) 3 3) (vb := .slice (some ⟨w3.heap.size + 1, 0, none⟩) 1 1) (a := [eA, eA, eB]) (b := [eA]) ((RowV.made w3 [eA, eA, eB] (by decide) _ rfl 3 rfl).below ((Below.refl _ _).alloc (Nat.le_refl _) _)) (by have h := RowV.made (w3.alloc (.cells #[.int .i64 1, .int .i64 5, .int .i64 1, .int .i64 5, .int .i64 2, .int .i64 0] 32)) [eA] (by decide) _ rfl 1 rfl; rw [World.size_alloc] at h; exact h) (by decide) (by decide)
  rw [ex_less] at hl1
  have H1 := Lib.hid h1; have H2 := Lib.hid h2; have H3 := Lib.hid h3; have HB := Lib.hid hb; have HL1 := Lib.hid hl1
  clear h1 h2 h3 hb hl1
  go_wp2_with fail
  refine HL1.out.mono ?_
  rintro e w4 ⟨⟨v4, rfl, hr4⟩, hb4⟩
  have hb34 : Below w3.heap.size w3 w4 := (((Below.refl _ w3).alloc (Nat.le_refl _) _).alloc (by simp) _).trans (hb4.mono (by simp; omega))
  have h1' := H1.out.below hb34 H1.out.lt
  have h2' := H2.out.below hb34 H2.out.lt
  have c1 : w4.cell? ⟨w.heap.size, 0, none⟩ = some (.int .i64 1) := h1'.cell 0
  have c2 : w4.cell? ⟨w.heap.size, 1, none⟩ = some (.int .i64 5) := h1'.cell 1
  have c3 : w4.cell? ⟨w.heap.size + 1, 0, none⟩ = some (.int .i64 2) := h2'.cell 0
  have c4 : w4.cell? ⟨w.heap.size + 1, 1, none⟩ = some (.int .i64 0) := h2'.cell 1
  have hlt1 := h1'.lt
  have hlt2 := h2'.lt
  have hl2 := less_v (w := (w4.alloc (.cells #[.int .i64 1, .int .i64 5] 32)).alloc (.cells #[.int .i64 2, .int .i64 0] 32)) (va := .slice (some ⟨w4.heap.size, 0, none⟩) 1 1) (vb := .slice (some ⟨w4.heap.size + 1, 0, none⟩) 1 1) (a := [eA]) (b := [eB]) ((RowV.made w4 [eA] (by decide) _ rfl 1 rfl).below ((Below.refl _ _).alloc (Nat.le_refl _) _)) (by have h := RowV.made (w4.alloc (.cells #[.int .i64 1, .int .i64 5] 32)) [eB] (by decide) _ rfl 1 rfl; rw [World.size_alloc] at h; exact h) (by decide) (by decide)
  rw [ex_no] at hl2
  have H1' := Lib.hid h1'; have H2' := Lib.hid h2'; have H3' := Lib.hid (H3.out.below hb34 H3.out.lt); have HB4 := Lib.hid (HB.out.trans (hb34.mono HB.out.size)); have HL2 := Lib.hid hl2; have HR4 := Lib.hid hr4
  clear h1' h2' hl2 hb4 hb34 hr4 H1 H2 H3 HB HL1
  dsimp only
  go_wp2_with fail
  refine HL2.out.mono ?_
  rintro e w5 ⟨⟨v6, rfl, hr6⟩, hb5⟩
  have hb45 : Below w4.heap.size w4 w5 := (((Below.refl _ w4).alloc (Nat.le_refl _) _).alloc (by simp) _).trans (hb5.mono (by simp; omega))
  have hr4 : RowV w5 v4 [eA, eB] := HR4.out.below hb45
  have HL1 := Lib.hid (load_box (r := eA) (H1'.out.below hb45 H1'.out.lt))
  have HL2 := Lib.hid (load_box (r := eB) (H2'.out.below hb45 H2'.out.lt))
  have HL3 := Lib.hid (load_box (r := eC) (H3'.out.below hb45 H3'.out.lt))
  have HR4 := Lib.hid hr4
  have HB := Lib.hid (HB4.out.trans (hb45.mono HB4.out.size))
  clear hr4 hr6 hb5 hb45 c1 c2 c3 c4 hlt1 hlt2
  dsimp only
  go_wp2_with fail
  have tbk := tbWk_keep w.heap.size (w.heap.size + 1) (w.heap.size + 1 + 1) v4 v6
  refine Free.wp_key (by kernel_rfl) (by kernel_rfl) (FT _ (tbWk w.heap.size (w.heap.size + 1) (w.heap.size + 1 + 1) v4 v6)) (vtWk w.heap.size (w.heap.size + 1) (w.heap.size + 1 + 1) v4 v6) (fun vs => FT.start (tbWk_end w.heap.size (w.heap.size + 1) (w.heap.size + 1 + 1) v4 v6)) ?_ ?_
  · intro i o hi b vs a wa hold hpre hbi hF
    match i with
    | 0 =>
      cases hi
      have h0 : a.eval (.tmp 3) = .pointer (some ⟨w.heap.size + 1 + 1, 0, none⟩) := (hold 3 (by decide)).trans rfl
      exact Free.c_all rfl (Free.g_load _ _ rfl h0 (HL3.out wa hF.1) ⟨rfl, hF.step tbk (Below.refl _ _) trivial⟩)
    | 1 =>
      cases hi
      have h0 : a.eval (.tmp 1) = .pointer (some ⟨w.heap.size, 0, none⟩) := (hold 1 (by decide)).trans rfl
      exact Free.c_all rfl (Free.g_load _ _ rfl h0 (HL1.out wa hF.1) ⟨rfl, hF.step tbk (Below.refl _ _) trivial⟩)
    | 2 =>
      cases hi
      have h0 : a.eval (.tmp 2) = .pointer (some ⟨w.heap.size + 1, 0, none⟩) := (hold 2 (by decide)).trans rfl
      exact Free.c_all rfl (Free.g_load _ _ rfl h0 (HL2.out wa hF.1) ⟨rfl, hF.step tbk (Below.refl _ _) trivial⟩)
    | 3 =>
      cases hi
      have h0 : a.eval (.tmp 1) = .pointer (some ⟨w.heap.size, 0, none⟩) := (hold 1 (by decide)).trans rfl
      exact Free.c_all rfl (Free.g_load _ _ rfl h0 (HL1.out wa hF.1) ⟨rfl, hF.step tbk (Below.refl _ _) trivial⟩)
    | 4 =>
      cases hi
      have h0 : a.eval (.tmp 29) = eC.val := (hpre 0 _ _ (by kernel_rfl) rfl rfl).2.2
      have h1 : a.eval (.tmp 30) = eA.val := (hpre 1 _ _ (by kernel_rfl) rfl rfl).2.2
      have h2 : a.eval (.tmp 31) = eB.val := (hpre 2 _ _ (by kernel_rfl) rfl rfl).2.2
      have h3 : a.eval (.tmp 32) = eA.val := (hpre 3 _ _ (by kernel_rfl) rfl rfl).2.2
      exact Free.c_all rfl (m_lit _ _ _ [(0, eC.val), (1, eA.val), (2, eB.val), (3, eA.val)] rfl (by show [(0, a.eval (.tmp 29)), (1, a.eval (.tmp 30)), (2, a.eval (.tmp 31)), (3, a.eval (.tmp 32))] = _; rw [h0, h1, h2, h3]) (build_r4 wa _ _ _ _) ⟨trivial, hF.step tbk ((Below.refl _ _).alloc (Nat.le_refl _) _) (RowV.made wa [eC, eA, eB, eA] (by decide) _ rfl _ rfl)⟩)
    | 5 =>
      cases hi
      have p0 := hpre 4 _ _ (by kernel_rfl) rfl rfl
      have e0 : a.eval (.tmp 33) = vs 4 := p0.2.1
      have r0 := hF.2 4 p0.1
      change RowV wa (vs 4) [eC, eA, eB, eA] at r0
      refine Free.c_all rfl (Free.g_call _ _ rfl Try.func12 (by kernel_rfl) rfl [vs 4] (by show [a.eval (.tmp 33)] = _; rw [e0]) ?_)
      exact (sorted_v r0 (by decide)).mono fun e w2 ⟨⟨v9, he, hr9⟩, hb9⟩ => ⟨v9, he, trivial, hF.step tbk hb9 hr9⟩
    | 6 =>
      cases hi
      have h0 : a.eval (.tmp 1) = .pointer (some ⟨w.heap.size, 0, none⟩) := (hold 1 (by decide)).trans rfl
      exact Free.c_all rfl (Free.g_load _ _ rfl h0 (HL1.out wa hF.1) ⟨rfl, hF.step tbk (Below.refl _ _) trivial⟩)
    | 7 =>
      cases hi
      have h0 : a.eval (.tmp 1) = .pointer (some ⟨w.heap.size, 0, none⟩) := (hold 1 (by decide)).trans rfl
      exact Free.c_all rfl (Free.g_load _ _ rfl h0 (HL1.out wa hF.1) ⟨rfl, hF.step tbk (Below.refl _ _) trivial⟩)
    | 8 =>
      cases hi
      have h0 : a.eval (.tmp 2) = .pointer (some ⟨w.heap.size + 1, 0, none⟩) := (hold 2 (by decide)).trans rfl
      exact Free.c_all rfl (Free.g_load _ _ rfl h0 (HL2.out wa hF.1) ⟨rfl, hF.step tbk (Below.refl _ _) trivial⟩)
    | 9 =>
      cases hi
      have h0 : a.eval (.tmp 3) = .pointer (some ⟨w.heap.size + 1 + 1, 0, none⟩) := (hold 3 (by decide)).trans rfl
      exact Free.c_all rfl (Free.g_load _ _ rfl h0 (HL3.out wa hF.1) ⟨rfl, hF.step tbk (Below.refl _ _) trivial⟩)
    | 10 =>
      cases hi
      have h0 : a.eval (.tmp 35) = eA.val := (hpre 6 _ _ (by kernel_rfl) rfl rfl).2.2
      have h1 : a.eval (.tmp 36) = eA.val := (hpre 7 _ _ (by kernel_rfl) rfl rfl).2.2
      have h2 : a.eval (.tmp 37) = eB.val := (hpre 8 _ _ (by kernel_rfl) rfl rfl).2.2
      have h3 : a.eval (.tmp 38) = eC.val := (hpre 9 _ _ (by kernel_rfl) rfl rfl).2.2
      exact Free.c_all rfl (m_lit _ _ _ [(0, eA.val), (1, eA.val), (2, eB.val), (3, eC.val)] rfl (by show [(0, a.eval (.tmp 35)), (1, a.eval (.tmp 36)), (2, a.eval (.tmp 37)), (3, a.eval (.tmp 38))] = _; rw [h0, h1, h2, h3]) (build_r4 wa _ _ _ _) ⟨trivial, hF.step tbk ((Below.refl _ _).alloc (Nat.le_refl _) _) (RowV.made wa [eA, eA, eB, eC] (by decide) _ rfl _ rfl)⟩)
    | 11 =>
      cases hi
      have p0 := hpre 5 _ _ (by kernel_rfl) rfl rfl
      have e0 : a.eval (.tmp 34) = vs 5 := p0.2.1
      have r0 := hF.2 5 p0.1
      change RowV wa (vs 5) (sortR [eC, eA, eB, eA]) at r0
      have p1 := hpre 10 _ _ (by kernel_rfl) rfl rfl
      have e1 : a.eval (.tmp 39) = vs 10 := p1.2.1
      have r1 := hF.2 10 p1.1
      change RowV wa (vs 10) [eA, eA, eB, eC] at r1
      refine Free.c_all rfl (Free.g_call _ _ rfl Try.func13 (by kernel_rfl) rfl [vs 5, vs 10] (by show [a.eval (.tmp 34), a.eval (.tmp 39)] = _; rw [e0, e1]) ?_)
      exact (alike_v r0 r1 (by decide +kernel) (by decide)).mono fun e w2 ⟨he, hb9⟩ => ⟨_, he.trans (retb ex_sorted), rfl, hF.step tbk hb9 trivial⟩
    | 12 =>
      cases hi
      have h0 : a.eval (.tmp 40) = .bool true := (hpre 11 _ _ (by kernel_rfl) rfl rfl).2.2
      exact Free.c_all rfl (Free.g_move _ rfl ⟨h0, hF.step tbk (Below.refl _ _) trivial⟩)
    | 13 =>
      cases hi
      have hg : a.eval (.tmp 41) = .bool true := (hpre 12 _ _ (by kernel_rfl) rfl rfl).2.2
      have h0 : a.eval (.tmp 1) = .pointer (some ⟨w.heap.size, 0, none⟩) := (hold 1 (by decide)).trans rfl
      exact Free.c_yes rfl rfl rfl hg (Free.g_load _ _ rfl h0 (HL1.out wa hF.1) ⟨rfl, hF.step tbk (Below.refl _ _) trivial⟩)
    | 14 =>
      cases hi
      have hg : a.eval (.tmp 41) = .bool true := (hpre 12 _ _ (by kernel_rfl) rfl rfl).2.2
      have h0 : a.eval (.tmp 2) = .pointer (some ⟨w.heap.size + 1, 0, none⟩) := (hold 2 (by decide)).trans rfl
      exact Free.c_yes rfl rfl rfl hg (Free.g_load _ _ rfl h0 (HL2.out wa hF.1) ⟨rfl, hF.step tbk (Below.refl _ _) trivial⟩)
    | 15 =>
      cases hi
      have hg : a.eval (.tmp 41) = .bool true := (hpre 12 _ _ (by kernel_rfl) rfl rfl).2.2
      have h0 : a.eval (.tmp 42) = eA.val := (hpre 13 _ _ (by kernel_rfl) rfl rfl).2.2
      have h1 : a.eval (.tmp 43) = eB.val := (hpre 14 _ _ (by kernel_rfl) rfl rfl).2.2
      exact Free.c_yes rfl rfl rfl hg (m_lit _ _ _ [(0, eA.val), (1, eB.val)] rfl (by show [(0, a.eval (.tmp 42)), (1, a.eval (.tmp 43))] = _; rw [h0, h1]) (build_r2 wa _ _) ⟨trivial, hF.step tbk ((Below.refl _ _).alloc (Nat.le_refl _) _) (RowV.made wa [eA, eB] (by decide) _ rfl _ rfl)⟩)
    | 16 =>
      cases hi
      have hg : a.eval (.tmp 41) = .bool true := (hpre 12 _ _ (by kernel_rfl) rfl rfl).2.2
      have h0 : a.eval (.tmp 2) = .pointer (some ⟨w.heap.size + 1, 0, none⟩) := (hold 2 (by decide)).trans rfl
      exact Free.c_yes rfl rfl rfl hg (Free.g_load _ _ rfl h0 (HL2.out wa hF.1) ⟨rfl, hF.step tbk (Below.refl _ _) trivial⟩)
    | 17 =>
      cases hi
      have hg : a.eval (.tmp 41) = .bool true := (hpre 12 _ _ (by kernel_rfl) rfl rfl).2.2
      have h0 : a.eval (.tmp 1) = .pointer (some ⟨w.heap.size, 0, none⟩) := (hold 1 (by decide)).trans rfl
      exact Free.c_yes rfl rfl rfl hg (Free.g_load _ _ rfl h0 (HL1.out wa hF.1) ⟨rfl, hF.step tbk (Below.refl _ _) trivial⟩)
    | 18 =>
      cases hi
      have hg : a.eval (.tmp 41) = .bool true := (hpre 12 _ _ (by kernel_rfl) rfl rfl).2.2
      have h0 : a.eval (.tmp 45) = eB.val := (hpre 16 _ _ (by kernel_rfl) rfl rfl).2.2
      have h1 : a.eval (.tmp 46) = eA.val := (hpre 17 _ _ (by kernel_rfl) rfl rfl).2.2
      exact Free.c_yes rfl rfl rfl hg (m_lit _ _ _ [(0, eB.val), (1, eA.val)] rfl (by show [(0, a.eval (.tmp 45)), (1, a.eval (.tmp 46))] = _; rw [h0, h1]) (build_r2 wa _ _) ⟨trivial, hF.step tbk ((Below.refl _ _).alloc (Nat.le_refl _) _) (RowV.made wa [eB, eA] (by decide) _ rfl _ rfl)⟩)
    | 19 =>
      cases hi
      have hg : a.eval (.tmp 41) = .bool true := (hpre 12 _ _ (by kernel_rfl) rfl rfl).2.2
      have p0 := hpre 15 _ _ (by kernel_rfl) rfl rfl
      have e0 : a.eval (.tmp 44) = vs 15 := p0.2.1
      have r0 := hF.2 15 p0.1
      change RowV wa (vs 15) [eA, eB] at r0
      have p1 := hpre 18 _ _ (by kernel_rfl) rfl rfl
      have e1 : a.eval (.tmp 47) = vs 18 := p1.2.1
      have r1 := hF.2 18 p1.1
      change RowV wa (vs 18) [eB, eA] at r1
      refine Free.c_yes rfl rfl rfl hg (Free.g_call _ _ rfl Try.func15 (by kernel_rfl) rfl [vs 15, vs 18] (by show [a.eval (.tmp 44), a.eval (.tmp 47)] = _; rw [e0, e1]) ?_)
      exact (same_v r0 r1 (by decide) (by decide)).mono fun e w2 ⟨he, hb9⟩ => ⟨_, he.trans (retb ex_same), rfl, hF.step tbk hb9 trivial⟩
    | 20 =>
      cases hi
      have h1 : a.eval (.tmp 41) = .bool true := (hpre 12 _ _ (by kernel_rfl) rfl rfl).2.2
      have h2 : a.eval (.tmp 48) = .bool true := (hpre 19 _ _ (by kernel_rfl) rfl rfl).2.2
      exact Free.c_all rfl (Free.g_pick _ _ _ rfl h1 h2 rfl ⟨rfl, hF.step tbk (Below.refl _ _) trivial⟩)
    | 21 =>
      cases hi
      have h0 : a.eval (.tmp 49) = .bool true := (hpre 20 _ _ (by kernel_rfl) rfl rfl).2.2
      exact Free.c_all rfl (Free.g_move _ rfl ⟨h0, hF.step tbk (Below.refl _ _) trivial⟩)
    | 22 =>
      cases hi
      have hg : a.eval (.tmp 50) = .bool true := (hpre 21 _ _ (by kernel_rfl) rfl rfl).2.2
      have h0 : a.eval (.tmp 1) = .pointer (some ⟨w.heap.size, 0, none⟩) := (hold 1 (by decide)).trans rfl
      exact Free.c_yes rfl rfl rfl hg (Free.g_load _ _ rfl h0 (HL1.out wa hF.1) ⟨rfl, hF.step tbk (Below.refl _ _) trivial⟩)
    | 23 =>
      cases hi
      have hg : a.eval (.tmp 50) = .bool true := (hpre 21 _ _ (by kernel_rfl) rfl rfl).2.2
      have h0 : a.eval (.tmp 51) = eA.val := (hpre 22 _ _ (by kernel_rfl) rfl rfl).2.2
      exact Free.c_yes rfl rfl rfl hg (m_lit _ _ _ [(0, eA.val)] rfl (by show [(0, a.eval (.tmp 51))] = _; rw [h0]) (build_r1 wa _) ⟨trivial, hF.step tbk ((Below.refl _ _).alloc (Nat.le_refl _) _) (RowV.made wa [eA] (by decide) _ rfl _ rfl)⟩)
    | 24 =>
      cases hi
      have hg : a.eval (.tmp 50) = .bool true := (hpre 21 _ _ (by kernel_rfl) rfl rfl).2.2
      have h0 : a.eval (.tmp 1) = .pointer (some ⟨w.heap.size, 0, none⟩) := (hold 1 (by decide)).trans rfl
      exact Free.c_yes rfl rfl rfl hg (Free.g_load _ _ rfl h0 (HL1.out wa hF.1) ⟨rfl, hF.step tbk (Below.refl _ _) trivial⟩)
    | 25 =>
      cases hi
      have hg : a.eval (.tmp 50) = .bool true := (hpre 21 _ _ (by kernel_rfl) rfl rfl).2.2
      have h0 : a.eval (.tmp 1) = .pointer (some ⟨w.heap.size, 0, none⟩) := (hold 1 (by decide)).trans rfl
      exact Free.c_yes rfl rfl rfl hg (Free.g_load _ _ rfl h0 (HL1.out wa hF.1) ⟨rfl, hF.step tbk (Below.refl _ _) trivial⟩)
    | 26 =>
      cases hi
      have hg : a.eval (.tmp 50) = .bool true := (hpre 21 _ _ (by kernel_rfl) rfl rfl).2.2
      have h0 : a.eval (.tmp 53) = eA.val := (hpre 24 _ _ (by kernel_rfl) rfl rfl).2.2
      have h1 : a.eval (.tmp 54) = eA.val := (hpre 25 _ _ (by kernel_rfl) rfl rfl).2.2
      exact Free.c_yes rfl rfl rfl hg (m_lit _ _ _ [(0, eA.val), (1, eA.val)] rfl (by show [(0, a.eval (.tmp 53)), (1, a.eval (.tmp 54))] = _; rw [h0, h1]) (build_r2 wa _ _) ⟨trivial, hF.step tbk ((Below.refl _ _).alloc (Nat.le_refl _) _) (RowV.made wa [eA, eA] (by decide) _ rfl _ rfl)⟩)
    | 27 =>
      cases hi
      have hg : a.eval (.tmp 50) = .bool true := (hpre 21 _ _ (by kernel_rfl) rfl rfl).2.2
      have p0 := hpre 23 _ _ (by kernel_rfl) rfl rfl
      have e0 : a.eval (.tmp 52) = vs 23 := p0.2.1
      have r0 := hF.2 23 p0.1
      change RowV wa (vs 23) [eA] at r0
      have p1 := hpre 26 _ _ (by kernel_rfl) rfl rfl
      have e1 : a.eval (.tmp 55) = vs 26 := p1.2.1
      have r1 := hF.2 26 p1.1
      change RowV wa (vs 26) [eA, eA] at r1
      refine Free.c_yes rfl rfl rfl hg (Free.g_call _ _ rfl Try.func15 (by kernel_rfl) rfl [vs 23, vs 26] (by show [a.eval (.tmp 52), a.eval (.tmp 55)] = _; rw [e0, e1]) ?_)
      exact (same_v r0 r1 (by decide) (by decide)).mono fun e w2 ⟨he, hb9⟩ => ⟨_, he.trans (retb ex_unlike), rfl, hF.step tbk hb9 trivial⟩
    | 28 =>
      cases hi
      have hg : a.eval (.tmp 50) = .bool true := (hpre 21 _ _ (by kernel_rfl) rfl rfl).2.2
      have h0 : a.eval (.tmp 56) = .bool false := (hpre 27 _ _ (by kernel_rfl) rfl rfl).2.2
      exact Free.c_yes rfl rfl rfl hg (g_not _ _ rfl h0 ⟨rfl, hF.step tbk (Below.refl _ _) trivial⟩)
    | 29 =>
      cases hi
      have h1 : a.eval (.tmp 50) = .bool true := (hpre 21 _ _ (by kernel_rfl) rfl rfl).2.2
      have h2 : a.eval (.tmp 57) = .bool true := (hpre 28 _ _ (by kernel_rfl) rfl rfl).2.2
      exact Free.c_all rfl (Free.g_pick _ _ _ rfl h1 h2 rfl ⟨rfl, hF.step tbk (Below.refl _ _) trivial⟩)
    | 30 =>
      cases hi
      have h0 : a.eval (.tmp 58) = .bool true := (hpre 29 _ _ (by kernel_rfl) rfl rfl).2.2
      exact Free.c_all rfl (Free.g_move _ rfl ⟨h0, hF.step tbk (Below.refl _ _) trivial⟩)
    | 31 =>
      cases hi
      have hg : a.eval (.tmp 59) = .bool true := (hpre 30 _ _ (by kernel_rfl) rfl rfl).2.2
      have h0 : a.eval (.tmp 5) = .bool true := (hold 5 (by decide)).trans rfl
      exact Free.c_yes rfl rfl rfl hg (Free.g_move _ rfl ⟨h0, hF.step tbk (Below.refl _ _) trivial⟩)
    | 32 =>
      cases hi
      have h1 : a.eval (.tmp 59) = .bool true := (hpre 30 _ _ (by kernel_rfl) rfl rfl).2.2
      have h2 : a.eval (.tmp 60) = .bool true := (hpre 31 _ _ (by kernel_rfl) rfl rfl).2.2
      exact Free.c_all rfl (Free.g_pick _ _ _ rfl h1 h2 rfl ⟨rfl, hF.step tbk (Below.refl _ _) trivial⟩)
    | 33 =>
      cases hi
      have h0 : a.eval (.tmp 61) = .bool true := (hpre 32 _ _ (by kernel_rfl) rfl rfl).2.2
      exact Free.c_all rfl (Free.g_move _ rfl ⟨h0, hF.step tbk (Below.refl _ _) trivial⟩)
    | 34 =>
      cases hi
      have hg : a.eval (.tmp 62) = .bool true := (hpre 33 _ _ (by kernel_rfl) rfl rfl).2.2
      have h0 : a.eval (.tmp 4) = v4 := (hold 4 (by decide)).trans rfl
      exact Free.c_yes rfl rfl rfl hg (Free.g_move _ rfl ⟨h0, hF.step tbk (Below.refl _ _) trivial⟩)
    | 35 =>
      cases hi
      have hg : a.eval (.tmp 62) = .bool true := (hpre 33 _ _ (by kernel_rfl) rfl rfl).2.2
      have h0 : a.eval (.tmp 1) = .pointer (some ⟨w.heap.size, 0, none⟩) := (hold 1 (by decide)).trans rfl
      exact Free.c_yes rfl rfl rfl hg (Free.g_load _ _ rfl h0 (HL1.out wa hF.1) ⟨rfl, hF.step tbk (Below.refl _ _) trivial⟩)
    | 36 =>
      cases hi
      have hg : a.eval (.tmp 62) = .bool true := (hpre 33 _ _ (by kernel_rfl) rfl rfl).2.2
      have h0 : a.eval (.tmp 2) = .pointer (some ⟨w.heap.size + 1, 0, none⟩) := (hold 2 (by decide)).trans rfl
      exact Free.c_yes rfl rfl rfl hg (Free.g_load _ _ rfl h0 (HL2.out wa hF.1) ⟨rfl, hF.step tbk (Below.refl _ _) trivial⟩)
    | 37 =>
      cases hi
      have hg : a.eval (.tmp 62) = .bool true := (hpre 33 _ _ (by kernel_rfl) rfl rfl).2.2
      have h0 : a.eval (.tmp 64) = eA.val := (hpre 35 _ _ (by kernel_rfl) rfl rfl).2.2
      have h1 : a.eval (.tmp 65) = eB.val := (hpre 36 _ _ (by kernel_rfl) rfl rfl).2.2
      exact Free.c_yes rfl rfl rfl hg (m_lit _ _ _ [(0, eA.val), (1, eB.val)] rfl (by show [(0, a.eval (.tmp 64)), (1, a.eval (.tmp 65))] = _; rw [h0, h1]) (build_r2 wa _ _) ⟨trivial, hF.step tbk ((Below.refl _ _).alloc (Nat.le_refl _) _) (RowV.made wa [eA, eB] (by decide) _ rfl _ rfl)⟩)
    | 38 =>
      cases hi
      have hg : a.eval (.tmp 62) = .bool true := (hpre 33 _ _ (by kernel_rfl) rfl rfl).2.2
      have e0 : a.eval (.tmp 63) = v4 := (hpre 34 _ _ (by kernel_rfl) rfl rfl).2.2
      have r0 := (HR4.out).below hF.1
      have p1 := hpre 37 _ _ (by kernel_rfl) rfl rfl
      have e1 : a.eval (.tmp 66) = vs 37 := p1.2.1
      have r1 := hF.2 37 p1.1
      change RowV wa (vs 37) [eA, eB] at r1
      refine Free.c_yes rfl rfl rfl hg (Free.g_call _ _ rfl Try.func13 (by kernel_rfl) rfl [v4, vs 37] (by show [a.eval (.tmp 63), a.eval (.tmp 66)] = _; rw [e0, e1]) ?_)
      exact (alike_v r0 r1 (by decide) (by decide)).mono fun e w2 ⟨he, hb9⟩ => ⟨_, he.trans (retb (sameR_self _)), rfl, hF.step tbk hb9 trivial⟩
    | 39 =>
      cases hi
      have h1 : a.eval (.tmp 62) = .bool true := (hpre 33 _ _ (by kernel_rfl) rfl rfl).2.2
      have h2 : a.eval (.tmp 67) = .bool true := (hpre 38 _ _ (by kernel_rfl) rfl rfl).2.2
      exact Free.c_all rfl (Free.g_pick _ _ _ rfl h1 h2 rfl ⟨rfl, hF.step tbk (Below.refl _ _) trivial⟩)
    | 40 =>
      cases hi
      have h0 : a.eval (.tmp 68) = .bool true := (hpre 39 _ _ (by kernel_rfl) rfl rfl).2.2
      exact Free.c_all rfl (Free.g_move _ rfl ⟨h0, hF.step tbk (Below.refl _ _) trivial⟩)
    | 41 =>
      cases hi
      have hg : a.eval (.tmp 69) = .bool true := (hpre 40 _ _ (by kernel_rfl) rfl rfl).2.2
      have h0 : a.eval (.tmp 7) = .bool false := (hold 7 (by decide)).trans rfl
      exact Free.c_yes rfl rfl rfl hg (Free.g_move _ rfl ⟨h0, hF.step tbk (Below.refl _ _) trivial⟩)
    | 42 =>
      cases hi
      have hg : a.eval (.tmp 69) = .bool true := (hpre 40 _ _ (by kernel_rfl) rfl rfl).2.2
      have h0 : a.eval (.tmp 70) = .bool false := (hpre 41 _ _ (by kernel_rfl) rfl rfl).2.2
      exact Free.c_yes rfl rfl rfl hg (g_not _ _ rfl h0 ⟨rfl, hF.step tbk (Below.refl _ _) trivial⟩)
    | 43 =>
      cases hi
      have h1 : a.eval (.tmp 69) = .bool true := (hpre 40 _ _ (by kernel_rfl) rfl rfl).2.2
      have h2 : a.eval (.tmp 71) = .bool true := (hpre 42 _ _ (by kernel_rfl) rfl rfl).2.2
      exact Free.c_all rfl (Free.g_pick _ _ _ rfl h1 h2 rfl ⟨rfl, hF.step tbk (Below.refl _ _) trivial⟩)
    | 44 =>
      cases hi
      have h0 : a.eval (.tmp 72) = .bool true := (hpre 43 _ _ (by kernel_rfl) rfl rfl).2.2
      exact Free.c_all rfl (Free.g_move _ rfl ⟨h0, hF.step tbk (Below.refl _ _) trivial⟩)
    | 45 =>
      cases hi
      have hg : a.eval (.tmp 73) = .bool true := (hpre 44 _ _ (by kernel_rfl) rfl rfl).2.2
      have h0 : a.eval (.tmp 1) = .pointer (some ⟨w.heap.size, 0, none⟩) := (hold 1 (by decide)).trans rfl
      exact Free.c_yes rfl rfl rfl hg (Free.g_load _ _ rfl h0 (HL1.out wa hF.1) ⟨rfl, hF.step tbk (Below.refl _ _) trivial⟩)
    | 46 =>
      cases hi
      have hg : a.eval (.tmp 73) = .bool true := (hpre 44 _ _ (by kernel_rfl) rfl rfl).2.2
      have h0 : a.eval (.tmp 2) = .pointer (some ⟨w.heap.size + 1, 0, none⟩) := (hold 2 (by decide)).trans rfl
      exact Free.c_yes rfl rfl rfl hg (Free.g_load _ _ rfl h0 (HL2.out wa hF.1) ⟨rfl, hF.step tbk (Below.refl _ _) trivial⟩)
    | 47 =>
      cases hi
      have hg : a.eval (.tmp 73) = .bool true := (hpre 44 _ _ (by kernel_rfl) rfl rfl).2.2
      have e0 : a.eval (.tmp 74) = eA.val := (hpre 45 _ _ (by kernel_rfl) rfl rfl).2.2
      have e1 : a.eval (.tmp 75) = eB.val := (hpre 46 _ _ (by kernel_rfl) rfl rfl).2.2
      refine Free.c_yes rfl rfl rfl hg (Free.g_call _ _ rfl Try.func19 (by kernel_rfl) rfl [eA.val, eB.val] (by show [a.eval (.tmp 74), a.eval (.tmp 75)] = _; rw [e0, e1]) ?_)
      exact (compare_any eA eB wa).mono fun e w2 ⟨he, hb9⟩ => ⟨_, he.trans (retI ex_cmp), rfl, hF.step tbk hb9 trivial⟩
    | 48 =>
      cases hi
      have hg : a.eval (.tmp 73) = .bool true := (hpre 44 _ _ (by kernel_rfl) rfl rfl).2.2
      have h2 : a.eval (.tmp 76) = .int .i64 (-1) := (hpre 47 _ _ (by kernel_rfl) rfl rfl).2.2
      exact Free.c_yes rfl rfl rfl hg (Free.g_bin _ _ _ _ _ rfl h2 rfl (Free.r_eql wa _ _ _ .i64 _ _) ⟨rfl, hF.step tbk (Below.refl _ _) trivial⟩)
    | 49 =>
      cases hi
      have h1 : a.eval (.tmp 73) = .bool true := (hpre 44 _ _ (by kernel_rfl) rfl rfl).2.2
      have h2 : a.eval (.tmp 77) = .bool true := (hpre 48 _ _ (by kernel_rfl) rfl rfl).2.2
      exact Free.c_all rfl (Free.g_pick _ _ _ rfl h1 h2 rfl ⟨rfl, hF.step tbk (Below.refl _ _) trivial⟩)
    | 50 =>
      cases hi
      have h0 : a.eval (.tmp 78) = .bool true := (hpre 49 _ _ (by kernel_rfl) rfl rfl).2.2
      exact Free.c_all rfl (Free.g_move _ rfl ⟨h0, hF.step tbk (Below.refl _ _) trivial⟩)
    | 51 =>
      cases hi
      have hg : a.eval (.tmp 79) = .bool true := (hpre 50 _ _ (by kernel_rfl) rfl rfl).2.2
      have h0 : a.eval (.tmp 1) = .pointer (some ⟨w.heap.size, 0, none⟩) := (hold 1 (by decide)).trans rfl
      exact Free.c_yes rfl rfl rfl hg (Free.g_load _ _ rfl h0 (HL1.out wa hF.1) ⟨rfl, hF.step tbk (Below.refl _ _) trivial⟩)
    | 52 =>
      cases hi
      have hg : a.eval (.tmp 79) = .bool true := (hpre 50 _ _ (by kernel_rfl) rfl rfl).2.2
      have h0 : a.eval (.tmp 80) = eA.val := (hpre 51 _ _ (by kernel_rfl) rfl rfl).2.2
      exact Free.c_yes rfl rfl rfl hg (m_lit _ _ _ [(0, eA.val)] rfl (by show [(0, a.eval (.tmp 80))] = _; rw [h0]) (build_r1 wa _) ⟨trivial, hF.step tbk ((Below.refl _ _).alloc (Nat.le_refl _) _) (RowV.made wa [eA] (by decide) _ rfl _ rfl)⟩)
    | 53 =>
      cases hi
      have hg : a.eval (.tmp 79) = .bool true := (hpre 50 _ _ (by kernel_rfl) rfl rfl).2.2
      have p0 := hpre 52 _ _ (by kernel_rfl) rfl rfl
      have e0 : a.eval (.tmp 81) = vs 52 := p0.2.1
      have r0 := hF.2 52 p0.1
      change RowV wa (vs 52) [eA] at r0
      refine Free.c_yes rfl rfl rfl hg (Free.g_call _ _ rfl Try.func21 (by kernel_rfl) rfl [vs 52] (by show [a.eval (.tmp 81)] = _; rw [e0]) ?_)
      exact (put_v r0 (by decide) ex_W).mono fun e w2 ⟨⟨v9, he, hr9⟩, hb9⟩ => ⟨v9, he, trivial, hF.step tbk hb9 hr9⟩
    | 54 =>
      cases hi
      have hg : a.eval (.tmp 79) = .bool true := (hpre 50 _ _ (by kernel_rfl) rfl rfl).2.2
      have p0 := hpre 53 _ _ (by kernel_rfl) rfl rfl
      have e0 : a.eval (.tmp 82) = vs 53 := p0.2.1
      have r0 := hF.2 53 p0.1
      change BytV wa (vs 53) (putR [eA]) at r0
      obtain ⟨A9, c9, e9, _⟩ := r0
      rw [e9] at e0
      exact Free.c_yes rfl rfl rfl hg (Free.g_len _ _ rfl e0 (run_len_slice wa _ _ _ _ _ Try.underlying34) ⟨rfl, hF.step tbk (Below.refl _ _) trivial⟩)
    | 55 =>
      cases hi
      have hg : a.eval (.tmp 79) = .bool true := (hpre 50 _ _ (by kernel_rfl) rfl rfl).2.2
      have h2 : a.eval (.tmp 83) = .int .i64 16 := (hpre 54 _ _ (by kernel_rfl) rfl rfl).2.2
      exact Free.c_yes rfl rfl rfl hg (Free.g_bin _ _ _ _ _ rfl h2 rfl (Free.r_eql wa _ _ _ .i64 _ _) ⟨rfl, hF.step tbk (Below.refl _ _) trivial⟩)
    | 56 =>
      cases hi
      have h1 : a.eval (.tmp 79) = .bool true := (hpre 50 _ _ (by kernel_rfl) rfl rfl).2.2
      have h2 : a.eval (.tmp 84) = .bool true := (hpre 55 _ _ (by kernel_rfl) rfl rfl).2.2
      exact Free.c_all rfl (Free.g_pick _ _ _ rfl h1 h2 rfl ⟨rfl, hF.step tbk (Below.refl _ _) trivial⟩)
    | 57 =>
      cases hi
      have h0 : a.eval (.tmp 85) = .bool true := (hpre 56 _ _ (by kernel_rfl) rfl rfl).2.2
      exact Free.c_all rfl (Free.g_assign _ rfl ⟨h0, hF.step tbk (Below.refl _ _) trivial⟩)
    | _ + 58 => cases hi
  · intro vs we hv hF
    have hlast : vs 57 = .bool true := hv 57 (by simp) (by rintro o ⟨⟩; rfl)
    have HWE := Lib.hid hF.1; clear hF hv tbk
    simp only [Free.puts, Nat.reduceAdd, hlast]
    generalize vs 0 = y0
    generalize vs 1 = y1
    generalize vs 2 = y2
    generalize vs 3 = y3
    generalize vs 4 = y4
    generalize vs 5 = y5
    generalize vs 6 = y6
    generalize vs 7 = y7
    generalize vs 8 = y8
    generalize vs 9 = y9
    generalize vs 10 = y10
    generalize vs 11 = y11
    generalize vs 12 = y12
    generalize vs 13 = y13
    generalize vs 14 = y14
    generalize vs 15 = y15
    generalize vs 16 = y16
    generalize vs 17 = y17
    generalize vs 18 = y18
    generalize vs 19 = y19
    generalize vs 20 = y20
    generalize vs 21 = y21
    generalize vs 22 = y22
    generalize vs 23 = y23
    generalize vs 24 = y24
    generalize vs 25 = y25
    generalize vs 26 = y26
    generalize vs 27 = y27
    generalize vs 28 = y28
    generalize vs 29 = y29
    generalize vs 30 = y30
    generalize vs 31 = y31
    generalize vs 32 = y32
    generalize vs 33 = y33
    generalize vs 34 = y34
    generalize vs 35 = y35
    generalize vs 36 = y36
    generalize vs 37 = y37
    generalize vs 38 = y38
    generalize vs 39 = y39
    generalize vs 40 = y40
    generalize vs 41 = y41
    generalize vs 42 = y42
    generalize vs 43 = y43
    generalize vs 44 = y44
    generalize vs 45 = y45
    generalize vs 46 = y46
    generalize vs 47 = y47
    generalize vs 48 = y48
    generalize vs 49 = y49
    generalize vs 50 = y50
    generalize vs 51 = y51
    generalize vs 52 = y52
    generalize vs 53 = y53
    generalize vs 54 = y54
    generalize vs 55 = y55
    generalize vs 56 = y56
    go_simp
    go_wp2_with fail
    go_ret
    exact ⟨rfl, HB.out.trans (HWE.out.mono HB.out.size)⟩
end Vr
end Go.Proofs.Ytcdofkhkckodjaa
