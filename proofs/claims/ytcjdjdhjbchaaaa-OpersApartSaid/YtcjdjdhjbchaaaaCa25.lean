/- OpOf, OpWorks -/
import Derived.Test.YtcjdjdhjbchaaaaCa13
import Derived.Test.YtcjdjdhjbchaaaaCa20
import Derived.Test.YtcjdjdhjbchaaaaCa24
namespace Go.Proofs.Ytcjdjdhjbchaaaa
set_option linter.unusedVariables false
section
namespace Op
open Go.ChangeShapes Go.WideShapes Go.ChangeAt Go.RowKit Go.BigFrame Go.Shelf Vr
set_option maxRecDepth 100000
theorem rec_any (k v : Int) (w : World) : Calls Try.prog 28 #[.int .i64 k, .int .i64 v] w fun e w' => e = .returned (Rd.val ⟨k, v⟩) ∧ Below w.heap.size w w' := by
  go_enter Try.func28, Try.ntmps28
  go_wp2_with fail
  refine bodyPost_ret (results_cell_row rfl _ _ w.heap.size 36 _ (0, 0) _ rfl (made_at (by simp)) Try.underlying36 rfl (by kernel_rfl)) rfl ?_
  exact ⟨rfl, (Below.refl _ _).alloc (Nat.le_refl _) _⟩
set_option maxHeartbeats 2000000 in
theorem of_any (n : Nd) (NA : Option Addr) (nm nc : Nat) (r : Rd) (wk ws : Int) (w : World) : Calls Try.prog 21 #[.agg #[.int .u8 (n.k : Nat), .int .u8 (n.a : Nat), .int .i64 n.b, .int .i64 n.d, .slice NA nm nc], r.val, .int .i64 wk, .int .i64 ws] w fun e w' => e = .returned (.int .i64 (ofR n.k r.k wk ws)) ∧ Below w.heap.size w w' := by
  have HB := Lib.hid fun (x y : Obj) => ((Below.refl _ w).alloc (Nat.le_refl _) x).alloc (by simp) y
  by_cases h0 : ws < 1
  · have HE := Lib.hid (show ofR n.k r.k wk ws = -1 by unfold ofR; exact if_pos (by omega))
    rw [HE.out]; clear HE
    go_enter Try.func21, Try.ntmps21
    go_wp2_with fail
    go_ret
    exact ⟨rfl, HB.out _ _⟩
  · skip
    by_cases h1 : 64 < ws
    · have HE := Lib.hid (show ofR n.k r.k wk ws = -1 by unfold ofR; exact if_pos (by omega))
      rw [HE.out]; clear HE
      go_enter Try.func21, Try.ntmps21
      go_wp2_with fail
      go_ret
      exact ⟨rfl, HB.out _ _⟩
    · skip
      by_cases h2 : wk < 0
      · have HE := Lib.hid (show ofR n.k r.k wk ws = -1 by unfold ofR; exact if_pos (by omega))
        rw [HE.out]; clear HE
        go_enter Try.func21, Try.ntmps21
        go_wp2_with fail
        go_ret
        exact ⟨rfl, HB.out _ _⟩
      · skip
        by_cases h3 : ws ≤ wk
        · have HE := Lib.hid (show ofR n.k r.k wk ws = -1 by unfold ofR; exact if_pos (by omega))
          rw [HE.out]; clear HE
          go_enter Try.func21, Try.ntmps21
          go_wp2_with fail
          go_ret
          exact ⟨rfl, HB.out _ _⟩
        · have HC := Lib.hid (waits_any n.k)
          cases hw : waitsB n.k with
          | false =>
            have HE := Lib.hid (show ofR n.k r.k wk ws = wk by unfold ofR; rw [if_neg (by omega), hw]; rfl)
            rw [HE.out]; clear HE
            rw [hw] at HC
            clear hw
            go_enter Try.func21, Try.ntmps21
            go_wp2_with fail
            refine (HC.out _).mono ?_; rintro e w' ⟨rfl, rfl⟩
            dsimp only
            go_wp2_with fail
            go_ret
            exact ⟨rfl, HB.out _ _⟩
          | true =>
            have HE := Lib.hid (show ofR n.k r.k wk ws = r.k % ws by unfold ofR; rw [if_neg (by omega), hw]; rfl)
            rw [HE.out]; clear HE
            rw [hw] at HC
            have HM := Lib.hid fun w' => modulo_any r.k ws w' (by omega) (by omega)
            clear hw
            go_enter Try.func21, Try.ntmps21
            go_wp2_with fail
            refine (HC.out _).mono ?_; rintro e w' ⟨rfl, rfl⟩
            dsimp only
            go_wp2_with fail
            refine (HM.out _).mono ?_; rintro e w' ⟨rfl, rfl⟩
            dsimp only
            go_wp2_with fail
            go_ret
            exact ⟨rfl, HB.out _ _⟩
set_option maxHeartbeats 2000000 in
theorem refOf_any (n : Nd) (NA : Option Addr) (nm nc : Nat) (r : Rd) (wk ws : Int) (w : World) : Calls Try.prog 22 #[.agg #[.int .u8 (n.k : Nat), .int .u8 (n.a : Nat), .int .i64 n.b, .int .i64 n.d, .slice NA nm nc], r.val, .int .i64 wk, .int .i64 ws] w fun e w' => e = .returned (.int .i64 (ofR n.k r.k wk ws)) ∧ Below w.heap.size w w' := by
  have HB := Lib.hid fun (x y : Obj) => ((Below.refl _ w).alloc (Nat.le_refl _) x).alloc (by simp) y
  by_cases h0 : ws < 1
  · have HE := Lib.hid (show ofR n.k r.k wk ws = -1 by unfold ofR; exact if_pos (by omega))
    rw [HE.out]; clear HE
    go_enter Try.func22, Try.ntmps22
    go_wp2_with fail
    go_ret
    exact ⟨rfl, HB.out _ _⟩
  · skip
    by_cases h1 : 64 < ws
    · have HE := Lib.hid (show ofR n.k r.k wk ws = -1 by unfold ofR; exact if_pos (by omega))
      rw [HE.out]; clear HE
      go_enter Try.func22, Try.ntmps22
      go_wp2_with fail
      go_ret
      exact ⟨rfl, HB.out _ _⟩
    · skip
      by_cases h2 : wk < 0
      · have HE := Lib.hid (show ofR n.k r.k wk ws = -1 by unfold ofR; exact if_pos (by omega))
        rw [HE.out]; clear HE
        go_enter Try.func22, Try.ntmps22
        go_wp2_with fail
        go_ret
        exact ⟨rfl, HB.out _ _⟩
      · skip
        by_cases h3 : ws ≤ wk
        · have HE := Lib.hid (show ofR n.k r.k wk ws = -1 by unfold ofR; exact if_pos (by omega))
          rw [HE.out]; clear HE
          go_enter Try.func22, Try.ntmps22
          go_wp2_with fail
          go_ret
          exact ⟨rfl, HB.out _ _⟩
        · have HC := Lib.hid (refWaits_any n.k)
          cases hw : waitsB n.k with
          | false =>
            have HE := Lib.hid (show ofR n.k r.k wk ws = wk by unfold ofR; rw [if_neg (by omega), hw]; rfl)
            rw [HE.out]; clear HE
            rw [hw] at HC
            clear hw
            go_enter Try.func22, Try.ntmps22
            go_wp2_with fail
            refine (HC.out _).mono ?_; rintro e w' ⟨rfl, rfl⟩
            dsimp only
            go_wp2_with fail
            go_ret
            exact ⟨rfl, HB.out _ _⟩
          | true =>
            have HE := Lib.hid (show ofR n.k r.k wk ws = r.k % ws by unfold ofR; rw [if_neg (by omega), hw]; rfl)
            rw [HE.out]; clear HE
            rw [hw] at HC
            have HM := Lib.hid fun w' => refModulo_any r.k ws w' (by omega) (by omega)
            clear hw
            go_enter Try.func22, Try.ntmps22
            go_wp2_with fail
            refine (HC.out _).mono ?_; rintro e w' ⟨rfl, rfl⟩
            dsimp only
            go_wp2_with fail
            refine (HM.out _).mono ?_; rintro e w' ⟨rfl, rfl⟩
            dsimp only
            go_wp2_with fail
            go_ret
            exact ⟨rfl, HB.out _ _⟩
end Op
end

section
namespace Op
open Go.ChangeShapes Go.WideShapes Go.ChangeAt Go.RowKit Go.BigFrame Go.Shelf Vr
set_option maxRecDepth 100000
theorem small_W {l : List Rd} (h : (l.all fun r => decide (-1000 ≤ r.k ∧ r.k ≤ 1000 ∧ -1000 ≤ r.v ∧ r.v ≤ 1000)) = true) : ∀ r ∈ l, r.W := fun r hr => by
  have := of_decide_eq_true (List.all_eq_true.1 h r hr)
  unfold Rd.W; omega
theorem lit1 (w : World) (l : List Rd) (hl : l.length ≤ 1000) : InV ((w.alloc (.cells (Rw.row kindR l).toArray 36)).alloc (.cells #[.slice (some ⟨w.heap.size, 0, none⟩) l.length l.length] 28)) (.slice (some ⟨w.heap.size + 1, 0, none⟩) 1 1) [l] := by
  have h := LitV.inV (LitV.made (w.alloc (.cells (Rw.row kindR l).toArray 36)) [.slice (some ⟨w.heap.size, 0, none⟩) l.length l.length] [l] ⟨RowV.made w l (by unfold maxLen; omega) _ rfl _ rfl, trivial⟩ _ rfl 1 rfl)
  rwa [size_alloc] at h
theorem lit2 {w : World} {g : Nat} {a b : List Rd} (h : RowV w (.slice (some ⟨g, 0, none⟩) a.length a.length) a) (hl : b.length ≤ 1000) : InV ((w.alloc (.cells (Rw.row kindR b).toArray 36)).alloc (.cells #[.slice (some ⟨g, 0, none⟩) a.length a.length, .slice (some ⟨w.heap.size, 0, none⟩) b.length b.length] 28)) (.slice (some ⟨w.heap.size + 1, 0, none⟩) 2 2) [a, b] := by
  have hb := (Below.refl _ w).alloc (Nat.le_refl _) (.cells (Rw.row kindR b).toArray 36)
  have h := LitV.inV (LitV.made (w.alloc (.cells (Rw.row kindR b).toArray 36)) [.slice (some ⟨g, 0, none⟩) a.length a.length, .slice (some ⟨w.heap.size, 0, none⟩) b.length b.length] [a, b] ⟨h.below hb, RowV.made w b (by unfold maxLen; omega) _ rfl _ rfl, trivial⟩ _ rfl 2 rfl)
  rwa [size_alloc] at h
theorem GivesE.of {l l' : List Rd} {er er' : Int} {w w' : World} {e : Ending} (h : GivesE l er w e w') (h1 : l = l') (h2 : er = er') : GivesE l' er' w e w' := by subst h1 h2; exact h
theorem run_w1 (w : World) : Calls Try.prog 14 #[.agg #[.int .u8 2, .int .u8 3, .int .i64 4, .int .i64 0, .slice none 0 0], .slice (some ⟨w.heap.size + 1, 0, none⟩) 1 1] ((w.alloc (.cells #[.int .i64 9, .int .i64 (-3)] 36)).alloc (.cells #[.slice (some ⟨w.heap.size, 0, none⟩) 1 1] 28)) (GivesE [⟨1, -3⟩] 0 ((w.alloc (.cells #[.int .i64 9, .int .i64 (-3)] 36)).alloc (.cells #[.slice (some ⟨w.heap.size, 0, none⟩) 1 1] 28))) :=
  (run_v ⟨2, 3, 4, 0, []⟩ none 0 0 (lit1 w [⟨9, -3⟩] (by simp)) (by decide) (by decide) (by decide) (by decide) (by simp) (fun l hl => by simp only [List.mem_singleton] at hl; subst hl; exact small_W (by decide)) (fun l hl => by simp only [List.mem_singleton] at hl; subst hl; simp)).mono fun _ _ h => h.of (by decide +kernel) (by decide +kernel)
theorem run_w2 (w : World) : Calls Try.prog 14 #[.agg #[.int .u8 5, .int .u8 0, .int .i64 0, .int .i64 0, .slice none 0 0], .slice (some ⟨w.heap.size + 1, 0, none⟩) 1 1] ((w.alloc (.cells #[.int .i64 1, .int .i64 2, .int .i64 2, .int .i64 7, .int .i64 1, .int .i64 3] 36)).alloc (.cells #[.slice (some ⟨w.heap.size, 0, none⟩) 3 3] 28)) (GivesE [⟨1, 5⟩, ⟨2, 7⟩] 0 ((w.alloc (.cells #[.int .i64 1, .int .i64 2, .int .i64 2, .int .i64 7, .int .i64 1, .int .i64 3] 36)).alloc (.cells #[.slice (some ⟨w.heap.size, 0, none⟩) 3 3] 28))) :=
  (run_v ⟨5, 0, 0, 0, []⟩ none 0 0 (lit1 w [⟨1, 2⟩, ⟨2, 7⟩, ⟨1, 3⟩] (by simp)) (by decide) (by decide) (by decide) (by decide) (by simp) (fun l hl => by simp only [List.mem_singleton] at hl; subst hl; exact small_W (by decide)) (fun l hl => by simp only [List.mem_singleton] at hl; subst hl; simp)).mono fun _ _ h => h.of (by decide +kernel) (by decide +kernel)
theorem run_w3 (w : World) (g : Nat) (h : RowV w (.slice (some ⟨g, 0, none⟩) 3 3) [⟨1, 2⟩, ⟨1, 3⟩, ⟨2, 9⟩]) : Calls Try.prog 14 #[.agg #[.int .u8 6, .int .u8 0, .int .i64 0, .int .i64 0, .slice none 0 0], .slice (some ⟨w.heap.size + 1, 0, none⟩) 2 2] ((w.alloc (.cells #[.int .i64 1, .int .i64 10] 36)).alloc (.cells #[.slice (some ⟨g, 0, none⟩) 3 3, .slice (some ⟨w.heap.size, 0, none⟩) 1 1] 28)) (GivesE [⟨1, 12⟩, ⟨1, 13⟩] 0 ((w.alloc (.cells #[.int .i64 1, .int .i64 10] 36)).alloc (.cells #[.slice (some ⟨g, 0, none⟩) 3 3, .slice (some ⟨w.heap.size, 0, none⟩) 1 1] 28))) :=
  (run_v ⟨6, 0, 0, 0, []⟩ none 0 0 (lit2 (a := [⟨1, 2⟩, ⟨1, 3⟩, ⟨2, 9⟩]) (b := [⟨1, 10⟩]) h (by simp)) (by decide) (by decide) (by decide) (by decide) (by simp) (fun l hl => by simp only [List.mem_cons, List.not_mem_nil, or_false] at hl; rcases hl with rfl | rfl <;> exact small_W (by decide)) (fun l hl => by simp only [List.mem_cons, List.not_mem_nil, or_false] at hl; rcases hl with rfl | rfl <;> simp)).mono fun _ _ h => h.of (by decide +kernel) (by decide +kernel)
theorem time_w1 (w : World) : Calls Try.prog 19 #[.agg #[.int .u8 9, .int .u8 0, .int .i64 2, .int .i64 0, .slice none 0 0], .agg #[.int .i64 1, .int .i64 4, .int .i64 0, .int .i64 0, .int .i64 0]] w fun e w' => e = .returned (.tuple #[.agg #[.int .i64 1, .int .i64 4, .int .i64 1, .int .i64 0, .int .i64 0], .bool true]) ∧ Below w.heap.size w w' := by
  have h := time_any ⟨9, 0, 2, 0, []⟩ none 0 0 ⟨1, 4, 0, 0, 0⟩ w
  have e : timeR ⟨9, 0, 2, 0, []⟩ ⟨1, 4, 0, 0, 0⟩ = some ⟨1, 4, 1, 0, 0⟩ := by decide +kernel
  rw [e] at h
  exact h
theorem time_w2 (w : World) : Calls Try.prog 19 #[.agg #[.int .u8 9, .int .u8 0, .int .i64 2, .int .i64 0, .slice none 0 0], .agg #[.int .i64 1, .int .i64 4, .int .i64 1, .int .i64 0, .int .i64 0]] w fun e w' => e = .returned (.tuple #[.agg #[.int .i64 0, .int .i64 0, .int .i64 0, .int .i64 0, .int .i64 0], .bool false]) ∧ Below w.heap.size w w' := by
  have h := time_any ⟨9, 0, 2, 0, []⟩ none 0 0 ⟨1, 4, 1, 0, 0⟩ w
  have e : timeR ⟨9, 0, 2, 0, []⟩ ⟨1, 4, 1, 0, 0⟩ = none := by decide +kernel
  rw [e] at h
  exact h
theorem of_w1 (w : World) : Calls Try.prog 21 #[.agg #[.int .u8 5, .int .u8 0, .int .i64 0, .int .i64 0, .slice none 0 0], .agg #[.int .i64 (-3), .int .i64 0], .int .i64 1, .int .i64 4] w fun e w' => e = .returned (.int .i64 1) ∧ Below w.heap.size w w' := of_any ⟨5, 0, 0, 0, []⟩ none 0 0 ⟨-3, 0⟩ 1 4 w
theorem of_w2 (w : World) : Calls Try.prog 21 #[.agg #[.int .u8 2, .int .u8 0, .int .i64 0, .int .i64 0, .slice none 0 0], .agg #[.int .i64 (-3), .int .i64 0], .int .i64 1, .int .i64 4] w fun e w' => e = .returned (.int .i64 1) ∧ Below w.heap.size w w' := of_any ⟨2, 0, 0, 0, []⟩ none 0 0 ⟨-3, 0⟩ 1 4 w
theorem rec_w (k v : Int) (w : World) : Calls Try.prog 28 #[.int .i64 k, .int .i64 v] w fun e w' => e = .returned (.agg #[.int .i64 k, .int .i64 v]) ∧ Below w.heap.size w w' := rec_any k v w
theorem waits_w (k : Nat) (b : Bool) (h : waitsB k = b) (w : World) : Calls Try.prog 17 #[.int .u8 (k : Nat)] w fun e w' => e = .returned (.bool b) ∧ Below w.heap.size w w' := (waits_any k w).mono fun e w' ⟨he, hw⟩ => by subst hw h; exact ⟨he, Below.refl _ _⟩
theorem alike_w {w : World} {va vb : Value} {a : List Rd} (h : RowV w va a) (k : RowV w vb a) (ha : a.length ≤ 1000) : Calls Try.prog 16 #[va, vb] w fun e w' => e = .returned (.bool true) ∧ Below w.heap.size w w' := by
  have := alike_v h k (by omega) (by omega)
  rwa [sameR_self] at this
theorem lit_r {w : World} {ar : Array Value} (l : List Rd) (hl : l.length ≤ 1000) (h : ar = (Rw.row kindR l).toArray) (n : Nat) (hn : n = l.length) : RowV (w.alloc (.cells ar 36)) (.slice (some ⟨w.heap.size, 0, none⟩) n n) l := RowV.made w l (by unfold maxLen; omega) ar h n hn
set_option maxHeartbeats 8000000 in
theorem works_any (w : World) : Calls Try.prog 13 #[] w fun e w' => e = .returned (.bool true) ∧ Below w.heap.size w w' := by
  have Hb := Lib.hid (Below.refl w.heap.size w)
  go_enter Try.func13, Try.ntmps13
  have hc := rec_w 9 (-3) w
  have HC := Lib.hid hc; clear hc
  go_wp2_with fail
  refine HC.out.mono ?_; rintro e w2 ⟨rfl, hb0⟩
  clear HC
  have hb := hb0
  clear hb0
  have h := Hb.out.trans (hb.mono Hb.out.size); clear Hb hb; have Hb := Lib.hid h; clear h
  dsimp only
  have hc := run_w1 w2
  have HC := Lib.hid hc; clear hc
  go_wp2_with fail
  refine HC.out.mono ?_; rintro e w3 ⟨⟨va, rfl, hr⟩, hb0⟩
  clear HC
  have hb : Below w2.heap.size w2 w3 := (((Below.refl _ w2).alloc (Nat.le_refl _) _).alloc (by simp) _).trans (hb0.mono (by simp; omega))
  clear hb0
  have h := Hb.out.trans (hb.mono Hb.out.size); clear Hb hb; have Hb := Lib.hid h; clear h
  have Ha := Lib.hid hr; clear hr
  dsimp only
  have hc := rec_w 1 2 w3
  have HC := Lib.hid hc; clear hc
  go_wp2_with fail
  refine HC.out.mono ?_; rintro e w4 ⟨rfl, hb0⟩
  clear HC
  have hb := hb0
  clear hb0
  have h := Ha.out.below hb; clear Ha; have Ha := Lib.hid h; clear h
  have h := Hb.out.trans (hb.mono Hb.out.size); clear Hb hb; have Hb := Lib.hid h; clear h
  dsimp only
  have hc := rec_w 2 7 w4
  have HC := Lib.hid hc; clear hc
  go_wp2_with fail
  refine HC.out.mono ?_; rintro e w5 ⟨rfl, hb0⟩
  clear HC
  have hb := hb0
  clear hb0
  have h := Ha.out.below hb; clear Ha; have Ha := Lib.hid h; clear h
  have h := Hb.out.trans (hb.mono Hb.out.size); clear Hb hb; have Hb := Lib.hid h; clear h
  dsimp only
  have hc := rec_w 1 3 w5
  have HC := Lib.hid hc; clear hc
  go_wp2_with fail
  refine HC.out.mono ?_; rintro e w6 ⟨rfl, hb0⟩
  clear HC
  have hb := hb0
  clear hb0
  have h := Ha.out.below hb; clear Ha; have Ha := Lib.hid h; clear h
  have h := Hb.out.trans (hb.mono Hb.out.size); clear Hb hb; have Hb := Lib.hid h; clear h
  dsimp only
  have hc := run_w2 w6
  have HC := Lib.hid hc; clear hc
  go_wp2_with fail
  refine HC.out.mono ?_; rintro e w7 ⟨⟨vb1, rfl, hr⟩, hb0⟩
  clear HC
  have hb : Below w6.heap.size w6 w7 := (((Below.refl _ w6).alloc (Nat.le_refl _) _).alloc (by simp) _).trans (hb0.mono (by simp; omega))
  clear hb0
  have h := Ha.out.below hb; clear Ha; have Ha := Lib.hid h; clear h
  have h := Hb.out.trans (hb.mono Hb.out.size); clear Hb hb; have Hb := Lib.hid h; clear h
  have Hb1 := Lib.hid hr; clear hr
  dsimp only
  have hc := rec_w 1 2 w7
  have HC := Lib.hid hc; clear hc
  go_wp2_with fail
  refine HC.out.mono ?_; rintro e w8 ⟨rfl, hb0⟩
  clear HC
  have hb := hb0
  clear hb0
  have h := Ha.out.below hb; clear Ha; have Ha := Lib.hid h; clear h
  have h := Hb1.out.below hb; clear Hb1; have Hb1 := Lib.hid h; clear h
  have h := Hb.out.trans (hb.mono Hb.out.size); clear Hb hb; have Hb := Lib.hid h; clear h
  dsimp only
  have hc := rec_w 1 3 w8
  have HC := Lib.hid hc; clear hc
  go_wp2_with fail
  refine HC.out.mono ?_; rintro e w9 ⟨rfl, hb0⟩
  clear HC
  have hb := hb0
  clear hb0
  have h := Ha.out.below hb; clear Ha; have Ha := Lib.hid h; clear h
  have h := Hb1.out.below hb; clear Hb1; have Hb1 := Lib.hid h; clear h
  have h := Hb.out.trans (hb.mono Hb.out.size); clear Hb hb; have Hb := Lib.hid h; clear h
  dsimp only
  have hc := rec_w 2 9 w9
  have HC := Lib.hid hc; clear hc
  go_wp2_with fail
  refine HC.out.mono ?_; rintro e w10 ⟨rfl, hb0⟩
  clear HC
  have hb := hb0
  clear hb0
  have h := Ha.out.below hb; clear Ha; have Ha := Lib.hid h; clear h
  have h := Hb1.out.below hb; clear Hb1; have Hb1 := Lib.hid h; clear h
  have h := Hb.out.trans (hb.mono Hb.out.size); clear Hb hb; have Hb := Lib.hid h; clear h
  dsimp only
  have HJ := Lib.hid (lit_r (w := w10) (ar := #[.int .i64 1, .int .i64 2, .int .i64 1, .int .i64 3, .int .i64 2, .int .i64 9]) [⟨1, 2⟩, ⟨1, 3⟩, ⟨2, 9⟩] (by simp) rfl 3 rfl)
  have hc := rec_w 1 10 (w10.alloc (.cells #[.int .i64 1, .int .i64 2, .int .i64 1, .int .i64 3, .int .i64 2, .int .i64 9] 36))
  have HC := Lib.hid hc; clear hc
  go_wp2_with fail
  refine HC.out.mono ?_; rintro e w11 ⟨rfl, hb0⟩
  clear HC
  have h := HJ.out.below hb0; clear HJ; have HJ := Lib.hid h; clear h
  have hb : Below w10.heap.size w10 w11 := ((Below.refl _ w10).alloc (Nat.le_refl _) _).trans (hb0.mono (by simp))
  clear hb0
  have h := Ha.out.below hb; clear Ha; have Ha := Lib.hid h; clear h
  have h := Hb1.out.below hb; clear Hb1; have Hb1 := Lib.hid h; clear h
  have h := Hb.out.trans (hb.mono Hb.out.size); clear Hb hb; have Hb := Lib.hid h; clear h
  dsimp only
  have hc := run_w3 w11 _ HJ.out
  have HC := Lib.hid hc; clear hc
  go_wp2_with fail
  refine HC.out.mono ?_; rintro e w12 ⟨⟨vc, rfl, hr⟩, hb0⟩
  clear HC
  have hb : Below w11.heap.size w11 w12 := (((Below.refl _ w11).alloc (Nat.le_refl _) _).alloc (by simp) _).trans (hb0.mono (by simp; omega))
  clear hb0
  have h := Ha.out.below hb; clear Ha; have Ha := Lib.hid h; clear h
  have h := Hb1.out.below hb; clear Hb1; have Hb1 := Lib.hid h; clear h
  have h := HJ.out.below hb; clear HJ; have HJ := Lib.hid h; clear h
  have h := Hb.out.trans (hb.mono Hb.out.size); clear Hb hb; have Hb := Lib.hid h; clear h
  have Hc := Lib.hid hr; clear hr
  dsimp only
  have hc := time_w1 w12
  have HC := Lib.hid hc; clear hc
  go_wp2_with fail
  refine HC.out.mono ?_; rintro e w13 ⟨rfl, hb0⟩
  clear HC
  have hb := hb0
  clear hb0
  have h := Ha.out.below hb; clear Ha; have Ha := Lib.hid h; clear h
  have h := Hb1.out.below hb; clear Hb1; have Hb1 := Lib.hid h; clear h
  have h := HJ.out.below hb; clear HJ; have HJ := Lib.hid h; clear h
  have h := Hc.out.below hb; clear Hc; have Hc := Lib.hid h; clear h
  have h := Hb.out.trans (hb.mono Hb.out.size); clear Hb hb; have Hb := Lib.hid h; clear h
  dsimp only
  have HT := Lib.hid (Row.made w13 40 [.int .i64 1, .int .i64 4, .int .i64 1, .int .i64 0, .int .i64 0])
  have hc := time_w2 (w13.alloc (.cells #[.int .i64 1, .int .i64 4, .int .i64 1, .int .i64 0, .int .i64 0] 40))
  have HC := Lib.hid hc; clear hc
  go_wp2_with fail
  refine HC.out.mono ?_; rintro e w14 ⟨rfl, hb0⟩
  clear HC
  have h := HT.out.below hb0 HT.out.lt; clear HT; have HT := Lib.hid h; clear h
  have hb : Below w13.heap.size w13 w14 := ((Below.refl _ w13).alloc (Nat.le_refl _) _).trans (hb0.mono (by simp))
  clear hb0
  have h := Ha.out.below hb; clear Ha; have Ha := Lib.hid h; clear h
  have h := Hb1.out.below hb; clear Hb1; have Hb1 := Lib.hid h; clear h
  have h := HJ.out.below hb; clear HJ; have HJ := Lib.hid h; clear h
  have h := Hc.out.below hb; clear Hc; have Hc := Lib.hid h; clear h
  have h := Hb.out.trans (hb.mono Hb.out.size); clear Hb hb; have Hb := Lib.hid h; clear h
  dsimp only
  obtain ⟨gt, hgt⟩ : ∃ gt, w13.heap.size = gt := ⟨_, rfl⟩
  rw [hgt] at HT
  rw [hgt]
  clear hgt
  have hc := rec_w 1 (-3) (w14.alloc (.cells #[.int .i64 0, .int .i64 0, .int .i64 0, .int .i64 0, .int .i64 0] 40))
  have HC := Lib.hid hc; clear hc
  go_wp2_with fail
  refine HC.out.mono ?_; rintro e w15 ⟨rfl, hb0⟩
  clear HC
  have hb : Below w14.heap.size w14 w15 := ((Below.refl _ w14).alloc (Nat.le_refl _) _).trans (hb0.mono (by simp))
  clear hb0
  have h := Ha.out.below hb; clear Ha; have Ha := Lib.hid h; clear h
  have h := Hb1.out.below hb; clear Hb1; have Hb1 := Lib.hid h; clear h
  have h := HJ.out.below hb; clear HJ; have HJ := Lib.hid h; clear h
  have h := Hc.out.below hb; clear Hc; have Hc := Lib.hid h; clear h
  have h := HT.out.below hb HT.out.lt; clear HT; have HT := Lib.hid h; clear h
  have h := Hb.out.trans (hb.mono Hb.out.size); clear Hb hb; have Hb := Lib.hid h; clear h
  dsimp only
  have hc := alike_w (w := w15.alloc (.cells #[.int .i64 1, .int .i64 (-3)] 36)) (Ha.out.below ((Below.refl _ w15).alloc (Nat.le_refl _) _)) (lit_r (w := w15) (ar := #[.int .i64 1, .int .i64 (-3)]) [⟨1, -3⟩] (by simp) rfl 1 rfl) (by simp)
  have HC := Lib.hid hc; clear hc
  go_wp2_with fail
  refine HC.out.mono ?_; rintro e w16 ⟨rfl, hb0⟩
  clear HC
  have hb : Below w15.heap.size w15 w16 := ((Below.refl _ w15).alloc (Nat.le_refl _) _).trans (hb0.mono (by simp))
  clear hb0
  have h := Ha.out.below hb; clear Ha; have Ha := Lib.hid h; clear h
  have h := Hb1.out.below hb; clear Hb1; have Hb1 := Lib.hid h; clear h
  have h := HJ.out.below hb; clear HJ; have HJ := Lib.hid h; clear h
  have h := Hc.out.below hb; clear Hc; have Hc := Lib.hid h; clear h
  have h := HT.out.below hb HT.out.lt; clear HT; have HT := Lib.hid h; clear h
  have h := Hb.out.trans (hb.mono Hb.out.size); clear Hb hb; have Hb := Lib.hid h; clear h
  dsimp only
  have hc := rec_w 1 5 w16
  have HC := Lib.hid hc; clear hc
  go_wp2_with fail
  refine HC.out.mono ?_; rintro e w17 ⟨rfl, hb0⟩
  clear HC
  have hb := hb0
  clear hb0
  have h := Ha.out.below hb; clear Ha; have Ha := Lib.hid h; clear h
  have h := Hb1.out.below hb; clear Hb1; have Hb1 := Lib.hid h; clear h
  have h := HJ.out.below hb; clear HJ; have HJ := Lib.hid h; clear h
  have h := Hc.out.below hb; clear Hc; have Hc := Lib.hid h; clear h
  have h := HT.out.below hb HT.out.lt; clear HT; have HT := Lib.hid h; clear h
  have h := Hb.out.trans (hb.mono Hb.out.size); clear Hb hb; have Hb := Lib.hid h; clear h
  dsimp only
  have hc := rec_w 2 7 w17
  have HC := Lib.hid hc; clear hc
  go_wp2_with fail
  refine HC.out.mono ?_; rintro e w18 ⟨rfl, hb0⟩
  clear HC
  have hb := hb0
  clear hb0
  have h := Ha.out.below hb; clear Ha; have Ha := Lib.hid h; clear h
  have h := Hb1.out.below hb; clear Hb1; have Hb1 := Lib.hid h; clear h
  have h := HJ.out.below hb; clear HJ; have HJ := Lib.hid h; clear h
  have h := Hc.out.below hb; clear Hc; have Hc := Lib.hid h; clear h
  have h := HT.out.below hb HT.out.lt; clear HT; have HT := Lib.hid h; clear h
  have h := Hb.out.trans (hb.mono Hb.out.size); clear Hb hb; have Hb := Lib.hid h; clear h
  dsimp only
  have hc := alike_w (w := w18.alloc (.cells #[.int .i64 1, .int .i64 5, .int .i64 2, .int .i64 7] 36)) (Hb1.out.below ((Below.refl _ w18).alloc (Nat.le_refl _) _)) (lit_r (w := w18) (ar := #[.int .i64 1, .int .i64 5, .int .i64 2, .int .i64 7]) [⟨1, 5⟩, ⟨2, 7⟩] (by simp) rfl 2 rfl) (by simp)
  have HC := Lib.hid hc; clear hc
  go_wp2_with fail
  refine HC.out.mono ?_; rintro e w19 ⟨rfl, hb0⟩
  clear HC
  have hb : Below w18.heap.size w18 w19 := ((Below.refl _ w18).alloc (Nat.le_refl _) _).trans (hb0.mono (by simp))
  clear hb0
  have h := Ha.out.below hb; clear Ha; have Ha := Lib.hid h; clear h
  have h := Hb1.out.below hb; clear Hb1; have Hb1 := Lib.hid h; clear h
  have h := HJ.out.below hb; clear HJ; have HJ := Lib.hid h; clear h
  have h := Hc.out.below hb; clear Hc; have Hc := Lib.hid h; clear h
  have h := HT.out.below hb HT.out.lt; clear HT; have HT := Lib.hid h; clear h
  have h := Hb.out.trans (hb.mono Hb.out.size); clear Hb hb; have Hb := Lib.hid h; clear h
  dsimp only
  have hc := rec_w 1 12 w19
  have HC := Lib.hid hc; clear hc
  go_wp2_with fail
  refine HC.out.mono ?_; rintro e w20 ⟨rfl, hb0⟩
  clear HC
  have hb := hb0
  clear hb0
  have h := Ha.out.below hb; clear Ha; have Ha := Lib.hid h; clear h
  have h := Hb1.out.below hb; clear Hb1; have Hb1 := Lib.hid h; clear h
  have h := HJ.out.below hb; clear HJ; have HJ := Lib.hid h; clear h
  have h := Hc.out.below hb; clear Hc; have Hc := Lib.hid h; clear h
  have h := HT.out.below hb HT.out.lt; clear HT; have HT := Lib.hid h; clear h
  have h := Hb.out.trans (hb.mono Hb.out.size); clear Hb hb; have Hb := Lib.hid h; clear h
  dsimp only
  have hc := rec_w 1 13 w20
  have HC := Lib.hid hc; clear hc
  go_wp2_with fail
  refine HC.out.mono ?_; rintro e w21 ⟨rfl, hb0⟩
  clear HC
  have hb := hb0
  clear hb0
  have h := Ha.out.below hb; clear Ha; have Ha := Lib.hid h; clear h
  have h := Hb1.out.below hb; clear Hb1; have Hb1 := Lib.hid h; clear h
  have h := HJ.out.below hb; clear HJ; have HJ := Lib.hid h; clear h
  have h := Hc.out.below hb; clear Hc; have Hc := Lib.hid h; clear h
  have h := HT.out.below hb HT.out.lt; clear HT; have HT := Lib.hid h; clear h
  have h := Hb.out.trans (hb.mono Hb.out.size); clear Hb hb; have Hb := Lib.hid h; clear h
  dsimp only
  have hc := alike_w (w := w21.alloc (.cells #[.int .i64 1, .int .i64 12, .int .i64 1, .int .i64 13] 36)) (Hc.out.below ((Below.refl _ w21).alloc (Nat.le_refl _) _)) (lit_r (w := w21) (ar := #[.int .i64 1, .int .i64 12, .int .i64 1, .int .i64 13]) [⟨1, 12⟩, ⟨1, 13⟩] (by simp) rfl 2 rfl) (by simp)
  have HC := Lib.hid hc; clear hc
  go_wp2_with fail
  refine HC.out.mono ?_; rintro e w22 ⟨rfl, hb0⟩
  clear HC
  have hb : Below w21.heap.size w21 w22 := ((Below.refl _ w21).alloc (Nat.le_refl _) _).trans (hb0.mono (by simp))
  clear hb0
  have h := Ha.out.below hb; clear Ha; have Ha := Lib.hid h; clear h
  have h := Hb1.out.below hb; clear Hb1; have Hb1 := Lib.hid h; clear h
  have h := HJ.out.below hb; clear HJ; have HJ := Lib.hid h; clear h
  have h := Hc.out.below hb; clear Hc; have Hc := Lib.hid h; clear h
  have h := HT.out.below hb HT.out.lt; clear HT; have HT := Lib.hid h; clear h
  have h := Hb.out.trans (hb.mono Hb.out.size); clear Hb hb; have Hb := Lib.hid h; clear h
  dsimp only
  have hc := rec_w (-3) 0 w22
  have HC := Lib.hid hc; clear hc
  go_wp2_with fail
  refine HC.out.mono ?_; rintro e w23 ⟨rfl, hb0⟩
  clear HC
  have hb := hb0
  clear hb0
  have h := Ha.out.below hb; clear Ha; have Ha := Lib.hid h; clear h
  have h := Hb1.out.below hb; clear Hb1; have Hb1 := Lib.hid h; clear h
  have h := HJ.out.below hb; clear HJ; have HJ := Lib.hid h; clear h
  have h := Hc.out.below hb; clear Hc; have Hc := Lib.hid h; clear h
  have h := HT.out.below hb HT.out.lt; clear HT; have HT := Lib.hid h; clear h
  have h := Hb.out.trans (hb.mono Hb.out.size); clear Hb hb; have Hb := Lib.hid h; clear h
  dsimp only
  have hc := of_w1 w23
  have HC := Lib.hid hc; clear hc
  go_wp2_with fail
  refine HC.out.mono ?_; rintro e w24 ⟨rfl, hb0⟩
  clear HC
  have hb := hb0
  clear hb0
  have h := Ha.out.below hb; clear Ha; have Ha := Lib.hid h; clear h
  have h := Hb1.out.below hb; clear Hb1; have Hb1 := Lib.hid h; clear h
  have h := HJ.out.below hb; clear HJ; have HJ := Lib.hid h; clear h
  have h := Hc.out.below hb; clear Hc; have Hc := Lib.hid h; clear h
  have h := HT.out.below hb HT.out.lt; clear HT; have HT := Lib.hid h; clear h
  have h := Hb.out.trans (hb.mono Hb.out.size); clear Hb hb; have Hb := Lib.hid h; clear h
  dsimp only
  have hc := rec_w (-3) 0 w24
  have HC := Lib.hid hc; clear hc
  go_wp2_with fail
  refine HC.out.mono ?_; rintro e w25 ⟨rfl, hb0⟩
  clear HC
  have hb := hb0
  clear hb0
  have h := Ha.out.below hb; clear Ha; have Ha := Lib.hid h; clear h
  have h := Hb1.out.below hb; clear Hb1; have Hb1 := Lib.hid h; clear h
  have h := HJ.out.below hb; clear HJ; have HJ := Lib.hid h; clear h
  have h := Hc.out.below hb; clear Hc; have Hc := Lib.hid h; clear h
  have h := HT.out.below hb HT.out.lt; clear HT; have HT := Lib.hid h; clear h
  have h := Hb.out.trans (hb.mono Hb.out.size); clear Hb hb; have Hb := Lib.hid h; clear h
  dsimp only
  have hc := of_w2 w25
  have HC := Lib.hid hc; clear hc
  go_wp2_with fail
  refine HC.out.mono ?_; rintro e w26 ⟨rfl, hb0⟩
  clear HC
  have hb := hb0
  clear hb0
  have h := Ha.out.below hb; clear Ha; have Ha := Lib.hid h; clear h
  have h := Hb1.out.below hb; clear Hb1; have Hb1 := Lib.hid h; clear h
  have h := HJ.out.below hb; clear HJ; have HJ := Lib.hid h; clear h
  have h := Hc.out.below hb; clear Hc; have Hc := Lib.hid h; clear h
  have h := HT.out.below hb HT.out.lt; clear HT; have HT := Lib.hid h; clear h
  have h := Hb.out.trans (hb.mono Hb.out.size); clear Hb hb; have Hb := Lib.hid h; clear h
  dsimp only
  obtain ⟨d0, d1, d2, d3, d4⟩ := cells5 HT.out
  have hc := waits_w 6 true (by decide) w26
  have HC := Lib.hid hc; clear hc
  go_wp2_with fail
  refine HC.out.mono ?_; rintro e w27 ⟨rfl, hb⟩
  clear HC d0 d1 d2 d3 d4
  have h := Hb.out.trans (hb.mono Hb.out.size); clear Hb hb; have Hb := Lib.hid h; clear h
  dsimp only
  have hc := waits_w 4 false (by decide) w27
  have HC := Lib.hid hc; clear hc
  go_wp2_with fail
  refine HC.out.mono ?_; rintro e w28 ⟨rfl, hb⟩
  clear HC
  have h := Hb.out.trans (hb.mono Hb.out.size); clear Hb hb; have Hb := Lib.hid h; clear h
  dsimp only
  go_wp2_with fail
  go_ret
  exact ⟨rfl, Hb.out⟩
end Op
end
end Go.Proofs.Ytcjdjdhjbchaaaa
