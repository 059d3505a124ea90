/- StCmp, StCmpP, StCmpQ -/
import Derived.Test.YtkbabmifdfmhlaaStVal
import Derived.Deep.QuietTactic
import Derived.BigQuiet
import Derived.StillTailTactics
import Derived.Test.YtkbabmifdfmhlaaTail
namespace Go.Proofs.Ytkbabmifdfmhlaa
set_option linter.unusedVariables false
section
open Go.ChangeShapes Go.WideShapes Go.ChangeAt Go.RowKit Go.BigFrame
set_option maxRecDepth 100000
def or_ (p q : Int) : Int := if p = 0 then q else p
/-- Compare's number so far -/
def Ck (s0 s1 s2 s3 s4 : Int) : Nat → Int
  | 0 => or_ s0 s1
  | 1 => or_ (or_ s0 s1) s2
  | 2 => or_ (or_ (or_ s0 s1) s2) s3
  | _ => or_ (or_ (or_ (or_ s0 s1) s2) s3) s4
theorem Ck_C (a b : St) : Ck (sgn a.d b.d) (sgn a.e b.e) (sgn a.x b.x) (sgn a.y b.y) (sgn a.z b.z) 3 = a.C b := by
  unfold St.C
  generalize sgn a.d b.d = s0
  generalize sgn a.e b.e = s1
  generalize sgn a.x b.x = s2
  generalize sgn a.y b.y = s3
  generalize sgn a.z b.z = s4
  by_cases h0 : s0 = 0 <;> by_cases h1 : s1 = 0 <;> by_cases h2 : s2 = 0 <;> by_cases h3 : s3 = 0 <;> simp [Ck, or_, h0, h1, h2, h3]
theorem or_z (q : Int) : or_ 0 q = q := if_pos rfl
theorem or_n {p : Int} (h : p ≠ 0) (q : Int) : or_ p q = p := if_neg h
set_option maxHeartbeats 2000000 in
theorem refCompare_any (a b : St) (w : World) : Calls Try.prog 61 #[a.val, b.val] w fun e w' => e = .returned (.int .i64 (a.C b)) ∧ Below w.heap.size w w' := by
  have hC := Ck_C a b
  obtain ⟨d, e, x, y, z⟩ := a
  obtain ⟨d', e', x', y', z'⟩ := b
  unfold St.val
  simp only at hC ⊢
  rw [← hC]; clear hC
  have S0 := Lib.hid (sign_any d d'); have S1 := Lib.hid (sign_any e e'); have S2 := Lib.hid (sign_any x x'); have S3 := Lib.hid (sign_any y y'); have S4 := Lib.hid (sign_any z z')
  generalize sgn d d' = s0 at *
  generalize sgn e e' = s1 at *
  generalize sgn x x' = s2 at *
  generalize sgn y y' = s3 at *
  generalize sgn z z' = s4 at *
  by_cases h0 : s0 = 0
  · subst h0
    go_enter Try.func61, Try.ntmps61
    go_wp2_with fail
    refine (S0.out _).mono ?_; rintro e w' ⟨rfl, rfl⟩
    go_wp2_with fail
    refine (S1.out _).mono ?_; rintro e w' ⟨rfl, rfl⟩
    go_wp2_with fail
    have hr0 := (Row.made w 25 [.int .i64 d, .int .i64 e, .int .i64 x, .int .i64 y, .int .i64 z]).alloc (.cells #[.int .i64 d', .int .i64 e', .int .i64 x', .int .i64 y', .int .i64 z'] 25)
    have hr1 := Row.made (w.alloc (.cells #[.int .i64 d, .int .i64 e, .int .i64 x, .int .i64 y, .int .i64 z] 25)) 25 [.int .i64 d', .int .i64 e', .int .i64 x', .int .i64 y', .int .i64 z']
    have hb0 : Below w.heap.size w ((w.alloc (.cells #[.int .i64 d, .int .i64 e, .int .i64 x, .int .i64 y, .int .i64 z] 25)).alloc (.cells #[.int .i64 d', .int .i64 e', .int .i64 x', .int .i64 y', .int .i64 z'] 25)) := ((Below.refl _ _).alloc (Nat.le_refl _) _).alloc (by simp) _
    rw [size_alloc] at hr1
    go_loopw [5, 6] (fun c i wr => ∃ k : Nat, k ≤ 3 ∧ i = .int .i64 k ∧ c = .int .i64 (Ck 0 s1 s2 s3 s4 k) ∧ Row wr w.heap.size 25 [.int .i64 d, .int .i64 e, .int .i64 x, .int .i64 y, .int .i64 z] ∧ Row wr (w.heap.size + 1) 25 [.int .i64 d', .int .i64 e', .int .i64 x', .int .i64 y', .int .i64 z'] ∧ Below w.heap.size w wr) (fun c i _ => 3 - (intOf i).toNat)
    case atStart => exact ⟨0, by omega, rfl, rfl, hr0, hr1, hb0⟩
    case round =>
      obtain ⟨k, hk, rfl, rfl, hra, hrb, hbw⟩ := hrel
      clear hr0 hr1 hb0
      have hcase : k = 0 ∨ k = 1 ∨ k = 2 ∨ k = 3 := by omega
      clear hk
      have a2 := hra.cell 2; have a3 := hra.cell 3; have a4 := hra.cell 4
      have b2 := hrb.cell 2; have b3 := hrb.cell 3; have b4 := hrb.cell 4
      simp only [List.getElem?_cons_succ, List.getElem?_cons_zero] at a2 a3 a4 b2 b3 b4
      have HRA := Lib.hid hra; have HRB := Lib.hid hrb; have HBW := Lib.hid hbw; clear hra hrb hbw
      rcases hcase with rfl | rfl | rfl | rfl
      · have hnext : ∀ s, s = s2 → Ck 0 s1 s2 s3 s4 1 = or_ (Ck 0 s1 s2 s3 s4 0) s := by rintro s rfl; rfl
        have HN := Lib.hid hnext; clear hnext
        generalize Ck 0 s1 s2 s3 s4 0 = v at *
        by_cases hz : v = 0
        · subst hz
          go_wp2_with fail
          go_quiet ((exact Calls.quiet_of_same ((S2.out _).mono fun _ _ h => ⟨h.1, h.2.symm⟩)))
          go_wp2
          go_roundw
          case rel => exact ⟨1, by omega, rfl, by rw [HN.out _ rfl, or_z], HRA.out, HRB.out, below_drewN HBW.out _⟩
          case measure => simp [intOf]
        · have hz' : (v == 0) = false := by rw [beq_eq_false_iff_ne]; exact hz
          go_wp2_with fail
          go_roundw
          case rel => exact ⟨1, by omega, rfl, by rw [HN.out _ rfl, or_n hz], HRA.out, HRB.out, HBW.out⟩
          case measure => simp [intOf]
      · have hnext : ∀ s, s = s3 → Ck 0 s1 s2 s3 s4 2 = or_ (Ck 0 s1 s2 s3 s4 1) s := by rintro s rfl; rfl
        have HN := Lib.hid hnext; clear hnext
        generalize Ck 0 s1 s2 s3 s4 1 = v at *
        by_cases hz : v = 0
        · subst hz
          go_wp2_with fail
          go_quiet ((exact Calls.quiet_of_same ((S3.out _).mono fun _ _ h => ⟨h.1, h.2.symm⟩)))
          go_wp2
          go_roundw
          case rel => exact ⟨2, by omega, rfl, by rw [HN.out _ rfl, or_z], HRA.out, HRB.out, below_drewN HBW.out _⟩
          case measure => simp [intOf]
        · have hz' : (v == 0) = false := by rw [beq_eq_false_iff_ne]; exact hz
          go_wp2_with fail
          go_roundw
          case rel => exact ⟨2, by omega, rfl, by rw [HN.out _ rfl, or_n hz], HRA.out, HRB.out, HBW.out⟩
          case measure => simp [intOf]
      · have hnext : ∀ s, s = s4 → Ck 0 s1 s2 s3 s4 3 = or_ (Ck 0 s1 s2 s3 s4 2) s := by rintro s rfl; rfl
        have HN := Lib.hid hnext; clear hnext
        generalize Ck 0 s1 s2 s3 s4 2 = v at *
        by_cases hz : v = 0
        · subst hz
          go_wp2_with fail
          go_quiet ((exact Calls.quiet_of_same ((S4.out _).mono fun _ _ h => ⟨h.1, h.2.symm⟩)))
          go_wp2
          go_roundw
          case rel => exact ⟨3, by omega, rfl, by rw [HN.out _ rfl, or_z], HRA.out, HRB.out, below_drewN HBW.out _⟩
          case measure => simp [intOf]
        · have hz' : (v == 0) = false := by rw [beq_eq_false_iff_ne]; exact hz
          go_wp2_with fail
          go_roundw
          case rel => exact ⟨3, by omega, rfl, by rw [HN.out _ rfl, or_n hz], HRA.out, HRB.out, HBW.out⟩
          case measure => simp [intOf]
      · go_wp2_with fail
        go_ret
        exact ⟨rfl, HBW.out⟩
  · have h0' : (s0 == 0) = false := by rw [beq_eq_false_iff_ne]; exact h0
    go_enter Try.func61, Try.ntmps61
    go_wp2_with fail
    refine (S0.out _).mono ?_; rintro e w' ⟨rfl, rfl⟩
    go_wp2_with fail
    have hr0 := (Row.made w 25 [.int .i64 d, .int .i64 e, .int .i64 x, .int .i64 y, .int .i64 z]).alloc (.cells #[.int .i64 d', .int .i64 e', .int .i64 x', .int .i64 y', .int .i64 z'] 25)
    have hr1 := Row.made (w.alloc (.cells #[.int .i64 d, .int .i64 e, .int .i64 x, .int .i64 y, .int .i64 z] 25)) 25 [.int .i64 d', .int .i64 e', .int .i64 x', .int .i64 y', .int .i64 z']
    have hb0 : Below w.heap.size w ((w.alloc (.cells #[.int .i64 d, .int .i64 e, .int .i64 x, .int .i64 y, .int .i64 z] 25)).alloc (.cells #[.int .i64 d', .int .i64 e', .int .i64 x', .int .i64 y', .int .i64 z'] 25)) := ((Below.refl _ _).alloc (Nat.le_refl _) _).alloc (by simp) _
    rw [size_alloc] at hr1
    go_loopw [5, 6] (fun c i wr => ∃ k : Nat, k ≤ 3 ∧ i = .int .i64 k ∧ c = .int .i64 (Ck s0 s1 s2 s3 s4 k) ∧ Row wr w.heap.size 25 [.int .i64 d, .int .i64 e, .int .i64 x, .int .i64 y, .int .i64 z] ∧ Row wr (w.heap.size + 1) 25 [.int .i64 d', .int .i64 e', .int .i64 x', .int .i64 y', .int .i64 z'] ∧ Below w.heap.size w wr) (fun c i _ => 3 - (intOf i).toNat)
    case atStart => exact ⟨0, by omega, rfl, by simp [Ck, or_, h0], hr0, hr1, hb0⟩
    case round =>
      obtain ⟨k, hk, rfl, rfl, hra, hrb, hbw⟩ := hrel
      clear hr0 hr1 hb0
      have hcase : k = 0 ∨ k = 1 ∨ k = 2 ∨ k = 3 := by omega
      clear hk
      have a2 := hra.cell 2; have a3 := hra.cell 3; have a4 := hra.cell 4
      have b2 := hrb.cell 2; have b3 := hrb.cell 3; have b4 := hrb.cell 4
      simp only [List.getElem?_cons_succ, List.getElem?_cons_zero] at a2 a3 a4 b2 b3 b4
      have HRA := Lib.hid hra; have HRB := Lib.hid hrb; have HBW := Lib.hid hbw; clear hra hrb hbw
      rcases hcase with rfl | rfl | rfl | rfl
      · have hnext : ∀ s, s = s2 → Ck s0 s1 s2 s3 s4 1 = or_ (Ck s0 s1 s2 s3 s4 0) s := by rintro s rfl; rfl
        have HN := Lib.hid hnext; clear hnext
        generalize Ck s0 s1 s2 s3 s4 0 = v at *
        by_cases hz : v = 0
        · subst hz
          go_wp2_with fail
          go_quiet ((exact Calls.quiet_of_same ((S2.out _).mono fun _ _ h => ⟨h.1, h.2.symm⟩)))
          go_wp2
          go_roundw
          case rel => exact ⟨1, by omega, rfl, by rw [HN.out _ rfl, or_z], HRA.out, HRB.out, below_drewN HBW.out _⟩
          case measure => simp [intOf]
        · have hz' : (v == 0) = false := by rw [beq_eq_false_iff_ne]; exact hz
          go_wp2_with fail
          go_roundw
          case rel => exact ⟨1, by omega, rfl, by rw [HN.out _ rfl, or_n hz], HRA.out, HRB.out, HBW.out⟩
          case measure => simp [intOf]
      · have hnext : ∀ s, s = s3 → Ck s0 s1 s2 s3 s4 2 = or_ (Ck s0 s1 s2 s3 s4 1) s := by rintro s rfl; rfl
        have HN := Lib.hid hnext; clear hnext
        generalize Ck s0 s1 s2 s3 s4 1 = v at *
        by_cases hz : v = 0
        · subst hz
          go_wp2_with fail
          go_quiet ((exact Calls.quiet_of_same ((S3.out _).mono fun _ _ h => ⟨h.1, h.2.symm⟩)))
          go_wp2
          go_roundw
          case rel => exact ⟨2, by omega, rfl, by rw [HN.out _ rfl, or_z], HRA.out, HRB.out, below_drewN HBW.out _⟩
          case measure => simp [intOf]
        · have hz' : (v == 0) = false := by rw [beq_eq_false_iff_ne]; exact hz
          go_wp2_with fail
          go_roundw
          case rel => exact ⟨2, by omega, rfl, by rw [HN.out _ rfl, or_n hz], HRA.out, HRB.out, HBW.out⟩
          case measure => simp [intOf]
      · have hnext : ∀ s, s = s4 → Ck s0 s1 s2 s3 s4 3 = or_ (Ck s0 s1 s2 s3 s4 2) s := by rintro s rfl; rfl
        have HN := Lib.hid hnext; clear hnext
        generalize Ck s0 s1 s2 s3 s4 2 = v at *
        by_cases hz : v = 0
        · subst hz
          go_wp2_with fail
          go_quiet ((exact Calls.quiet_of_same ((S4.out _).mono fun _ _ h => ⟨h.1, h.2.symm⟩)))
          go_wp2
          go_roundw
          case rel => exact ⟨3, by omega, rfl, by rw [HN.out _ rfl, or_z], HRA.out, HRB.out, below_drewN HBW.out _⟩
          case measure => simp [intOf]
        · have hz' : (v == 0) = false := by rw [beq_eq_false_iff_ne]; exact hz
          go_wp2_with fail
          go_roundw
          case rel => exact ⟨3, by omega, rfl, by rw [HN.out _ rfl, or_n hz], HRA.out, HRB.out, HBW.out⟩
          case measure => simp [intOf]
      · go_wp2_with fail
        go_ret
        exact ⟨rfl, HBW.out⟩
end

section
open Go.ChangeShapes Go.WideShapes Go.ChangeAt Go.RowKit Go.BigFrame
set_option maxRecDepth 100000
theorem nan_any (a : Int) (w : World) : Calls Try.prog 86 #[.int .i64 a] w fun e w' => e = .returned (.bool false) ∧ w = w' := by
  go_enter Try.func86, Try.ntmps86
  go_wp2_with fail
  go_ret
  exact ⟨rfl, rfl⟩
theorem cmpCompare_any (a b : Int) (w : World) : Calls Try.prog 69 #[.int .i64 a, .int .i64 b] w fun e w' => e = .returned (.int .i64 (sgn a b)) ∧ w = w' := by
  rcases sgn_cases a b with ⟨h, e⟩ | ⟨h, e⟩ | ⟨h, e⟩ <;> rw [e] <;> clear e
  · go_enter Try.func69, Try.ntmps69
    go_wp2_with fail
    refine (nan_any _ _).mono ?_; rintro e w' ⟨rfl, rfl⟩
    go_wp2_with fail
    refine (nan_any _ _).mono ?_; rintro e w' ⟨rfl, rfl⟩
    go_wp2_with fail
    go_ret
    exact ⟨rfl, rfl⟩
  · have h2 : ¬ a < b := by omega
    go_enter Try.func69, Try.ntmps69
    go_wp2_with fail
    refine (nan_any _ _).mono ?_; rintro e w' ⟨rfl, rfl⟩
    go_wp2_with fail
    refine (nan_any _ _).mono ?_; rintro e w' ⟨rfl, rfl⟩
    go_wp2_with fail
    go_ret
    exact ⟨rfl, rfl⟩
  · subst h
    go_enter Try.func69, Try.ntmps69
    go_wp2_with fail
    refine (nan_any _ _).mono ?_; rintro e w' ⟨rfl, rfl⟩
    go_wp2_with fail
    refine (nan_any _ _).mono ?_; rintro e w' ⟨rfl, rfl⟩
    go_wp2_with fail
    go_ret
    exact ⟨rfl, rfl⟩
theorem or_any (b : Nat) (p q : Int) (w : World) (h0 : w.cell? ⟨b, 0, none⟩ = some (.int .i64 p)) (h1 : w.cell? ⟨b, 1, none⟩ = some (.int .i64 q)) :
    Calls Try.prog 68 #[.slice (some ⟨b, 0, none⟩) 2 2] w fun e w' => e = .returned (.int .i64 (or_ p q)) ∧ w = w' := by
  by_cases hp : p = 0
  · subst hp
    rw [or_z]
    by_cases hq : q = 0
    · subst hq
      go_enter Try.func68, Try.ntmps68
      go_wp2_with fail
      go_loop [5, 8] (fun c i => ∃ k : Nat, k ≤ 2 ∧ i = .int .i64 k) (fun c i => 2 - (intOf i).toNat)
      case atStart => exact ⟨0, by omega, rfl⟩
      case round =>
        obtain ⟨k, hk, rfl⟩ := hrel
        have hcase : k = 0 ∨ k = 1 ∨ k = 2 := by omega
        clear hk
        rcases hcase with rfl | rfl | rfl
        · go_wp2_with fail
          go_round
          case rel => exact ⟨1, by omega, rfl⟩
          case measure => simp [intOf]
        · go_wp2_with fail
          go_round
          case rel => exact ⟨2, by omega, rfl⟩
          case measure => simp [intOf]
        · go_wp2_with fail
          go_ret
          exact ⟨rfl, rfl⟩
    · have hq' : (q != 0) = true := by simpa using hq
      have Hq := Lib.hid hq; clear hq
      go_enter Try.func68, Try.ntmps68
      go_wp2_with fail
      go_loop [5, 8] (fun c i => ∃ k : Nat, k ≤ 1 ∧ i = .int .i64 k) (fun c i => 2 - (intOf i).toNat)
      case atStart => exact ⟨0, by omega, rfl⟩
      case round =>
        obtain ⟨k, hk, rfl⟩ := hrel
        have hcase : k = 0 ∨ k = 1 := by omega
        clear hk
        rcases hcase with rfl | rfl
        · go_wp2_with fail
          go_round
          case rel => exact ⟨1, by omega, rfl⟩
          case measure => simp [intOf]
        · go_wp2_with fail
          go_ret
          exact ⟨rfl, rfl⟩
  · have hp' : (p != 0) = true := by simpa using hp
    rw [or_n hp]
    clear hp
    go_enter Try.func68, Try.ntmps68
    go_wp2_with fail
    go_loop [5, 8] (fun c i => i = .int .i64 0) (fun c i => 2 - (intOf i).toNat)
    case atStart => rfl
    case round =>
      subst hrel
      go_wp2_with fail
      go_ret
      exact ⟨rfl, rfl⟩
end

section
open Go.ChangeShapes Go.WideShapes Go.ChangeAt Go.RowKit Go.BigFrame
set_option maxRecDepth 100000
/-- nothing that was there has turned, and the draws have gone on -/
def Grew (w w' : World) : Prop := Below w.heap.size w w' ∧ w.drawn ≤ w'.drawn
theorem Grew.refl (w : World) : Grew w w := ⟨Below.refl _ _, Nat.le_refl _⟩
theorem Grew.alloc {w w' : World} (h : Grew w w') (o : Obj) : Grew w (w'.alloc o) := ⟨h.1.alloc h.1.size o, h.2⟩
theorem Grew.drewN {w w' : World} (h : Grew w w') (n : Nat) : Grew w (w'.drewN n) := ⟨below_drewN h.1 n, Nat.le_trans h.2 (Nat.le_add_right _ _)⟩
theorem cc_same (a b : Int) (w : World) : Calls Try.prog 69 #[.int .i64 a, .int .i64 b] w fun e w' => e = .returned (.int .i64 (sgn a b)) ∧ w' = w := (cmpCompare_any a b w).mono fun _ _ h => ⟨h.1, h.2.symm⟩
theorem Ck_stay {s0 s1 s2 s3 s4 : Int} {k : Nat} (h : Ck s0 s1 s2 s3 s4 k ≠ 0) : Ck s0 s1 s2 s3 s4 3 = Ck s0 s1 s2 s3 s4 k := by
  match k with
  | 0 => have h' : or_ s0 s1 ≠ 0 := h
         show or_ (or_ (or_ (or_ s0 s1) s2) s3) s4 = or_ s0 s1
         rw [or_n h', or_n h', or_n h']
  | 1 => have h' : or_ (or_ s0 s1) s2 ≠ 0 := h
         show or_ (or_ (or_ (or_ s0 s1) s2) s3) s4 = or_ (or_ s0 s1) s2
         rw [or_n h', or_n h']
  | 2 => have h' : or_ (or_ (or_ s0 s1) s2) s3 ≠ 0 := h
         show or_ (or_ (or_ (or_ s0 s1) s2) s3) s4 = or_ (or_ (or_ s0 s1) s2) s3
         rw [or_n h']
  | _ + 3 => rfl
set_option maxHeartbeats 2000000 in
theorem compare_grew (a b : St) (w : World) : Calls Try.prog 41 #[a.val, b.val] w fun e w' => e = .returned (.int .i64 (a.C b)) ∧ Grew w w' := by
  have hC := Ck_C a b
  obtain ⟨d, e, x, y, z⟩ := a
  obtain ⟨d', e', x', y', z'⟩ := b
  unfold St.val
  simp only at hC ⊢
  rw [← hC]; clear hC
  have S0 := Lib.hid (cc_same d d'); have S1 := Lib.hid (cc_same e e'); have S2 := Lib.hid (cc_same x x'); have S3 := Lib.hid (cc_same y y'); have S4 := Lib.hid (cc_same z z')
  generalize sgn d d' = s0 at *
  generalize sgn e e' = s1 at *
  generalize sgn x x' = s2 at *
  generalize sgn y y' = s3 at *
  generalize sgn z z' = s4 at *
  have hk0 : Ck s0 s1 s2 s3 s4 0 = or_ s0 s1 := rfl
  have hk1 : Ck s0 s1 s2 s3 s4 0 = 0 → Ck s0 s1 s2 s3 s4 1 = s2 := fun h => by show or_ (or_ s0 s1) s2 = s2; rw [show or_ s0 s1 = 0 from h, or_z]
  have hk2 : Ck s0 s1 s2 s3 s4 1 = 0 → Ck s0 s1 s2 s3 s4 2 = s3 := fun h => by show or_ (or_ (or_ s0 s1) s2) s3 = s3; rw [show or_ (or_ s0 s1) s2 = 0 from h, or_z]
  have hk3 : Ck s0 s1 s2 s3 s4 2 = 0 → Ck s0 s1 s2 s3 s4 3 = s4 := fun h => by show or_ (or_ (or_ (or_ s0 s1) s2) s3) s4 = s4; rw [show or_ (or_ (or_ s0 s1) s2) s3 = 0 from h, or_z]
  have hst : ∀ k, Ck s0 s1 s2 s3 s4 k ≠ 0 → Ck s0 s1 s2 s3 s4 3 = Ck s0 s1 s2 s3 s4 k := fun k h => Ck_stay h
  generalize Ck s0 s1 s2 s3 s4 = F at *
  have Hst := Lib.hid hst; have Hk1 := Lib.hid hk1; have Hk2 := Lib.hid hk2; have Hk3 := Lib.hid hk3; clear hst hk1 hk2 hk3
  have hor := fun b w h0 h1 => or_any b s0 s1 w h0 h1
  rw [← hk0] at hor
  have Hor := Lib.hid hor; clear hor hk0
  by_cases hz : F 0 = 0
  · have HZ := Lib.hid hz
    have hv : (F 0 != 0) = false := by rw [hz]; rfl
    clear hz
    go_enter Try.func41, Try.ntmps41
    go_wp2_with fail
    refine wp_tail 10 (by kernel_rfl) (by kernel_rfl) ?_
    simp only [List.take_succ_cons, List.take_zero, List.drop_succ_cons, List.drop_zero]
    still_step
    still_step
    still_step
    still_step
    still_call (S0.out _)
    still_step
    still_step
    still_step
    still_step
    still_call (S1.out _)
    refine wpStill_nil ?_
    go_wp2_with fail
    refine (Hor.out _ _ (by go_simp) (by go_simp)).mono ?_; rintro e w' ⟨rfl, rfl⟩
    have hr0 : Row ((w.alloc (.cells #[.int .i64 d, .int .i64 e, .int .i64 x, .int .i64 y, .int .i64 z] 25)).alloc (.cells #[.int .i64 d', .int .i64 e', .int .i64 x', .int .i64 y', .int .i64 z'] 25)) w.heap.size 25 [.int .i64 d, .int .i64 e, .int .i64 x, .int .i64 y, .int .i64 z] := (Row.made w _ _).alloc _
    have hr1 := Row.made (w.alloc (.cells #[.int .i64 d, .int .i64 e, .int .i64 x, .int .i64 y, .int .i64 z] 25)) 25 [.int .i64 d', .int .i64 e', .int .i64 x', .int .i64 y', .int .i64 z']
    rw [size_alloc] at hr1
    have HR0 := Lib.hid hr0; have HR1 := Lib.hid hr1; clear hr0 hr1
    go_wp2_with fail
    go_loopw [23] (fun i wr => ∃ k : Nat, k ≤ 3 ∧ i = .int .i64 k ∧ F k = 0 ∧ Row wr w.heap.size 25 [.int .i64 d, .int .i64 e, .int .i64 x, .int .i64 y, .int .i64 z] ∧ Row wr (w.heap.size + 1) 25 [.int .i64 d', .int .i64 e', .int .i64 x', .int .i64 y', .int .i64 z'] ∧ Grew w wr) (fun i _ => 3 - (intOf i).toNat)
    case atStart => exact ⟨0, by omega, rfl, HZ.out, (HR0.out.drewN 1).alloc _, (HR1.out.drewN 1).alloc _, ((((Grew.refl w).alloc _).alloc _).drewN 1).alloc _⟩
    case round =>
      obtain ⟨k, hk, rfl, hF, hra, hrb, hbw⟩ := hrel
      have hcase : k = 0 ∨ k = 1 ∨ k = 2 ∨ k = 3 := by omega
      clear hk HR0 HR1 hv HZ Hor
      have a2 := hra.cell 2; have a3 := hra.cell 3; have a4 := hra.cell 4
      have b2 := hrb.cell 2; have b3 := hrb.cell 3; have b4 := hrb.cell 4
      simp only [List.getElem?_cons_succ, List.getElem?_cons_zero] at a2 a3 a4 b2 b3 b4
      have HRA := Lib.hid hra; have HRB := Lib.hid hrb; have HBW := Lib.hid hbw; have HF := Lib.hid hF; clear hra hrb hbw hF
      rcases hcase with rfl | rfl | rfl | rfl
      · have hn := Hk1.out HF.out
        have HN := Lib.hid hn; clear hn
        by_cases hz : s2 = 0
        · subst hz
          go_wp2_with fail
          go_quiet ((exact Calls.quiet_of_same (S2.out _)))
          go_wp2
          go_roundw
          case rel => exact ⟨1, by omega, rfl, HN.out, HRA.out, HRB.out, HBW.out.drewN _⟩
          case measure => simp [intOf]
        · have hz' : (s2 != 0) = true := by simpa using hz
          have hq : F 3 = s2 := by rw [Hst.out 1 (by rw [HN.out]; exact hz), HN.out]
          have HQ := Lib.hid hq; clear hq hz
          go_wp2_with fail
          go_quiet ((exact Calls.quiet_of_same (S2.out _)))
          go_wp2
          go_ret
          exact ⟨ret_int HQ.out.symm, HBW.out.drewN _⟩
      · have hn := Hk2.out HF.out
        have HN := Lib.hid hn; clear hn
        by_cases hz : s3 = 0
        · subst hz
          go_wp2_with fail
          go_quiet ((exact Calls.quiet_of_same (S3.out _)))
          go_wp2
          go_roundw
          case rel => exact ⟨2, by omega, rfl, HN.out, HRA.out, HRB.out, HBW.out.drewN _⟩
          case measure => simp [intOf]
        · have hz' : (s3 != 0) = true := by simpa using hz
          have hq : F 3 = s3 := by rw [Hst.out 2 (by rw [HN.out]; exact hz), HN.out]
          have HQ := Lib.hid hq; clear hq hz
          go_wp2_with fail
          go_quiet ((exact Calls.quiet_of_same (S3.out _)))
          go_wp2
          go_ret
          exact ⟨ret_int HQ.out.symm, HBW.out.drewN _⟩
      · have hn := Hk3.out HF.out
        have HN := Lib.hid hn; clear hn
        by_cases hz : s4 = 0
        · subst hz
          go_wp2_with fail
          go_quiet ((exact Calls.quiet_of_same (S4.out _)))
          go_wp2
          go_roundw
          case rel => exact ⟨3, by omega, rfl, HN.out, HRA.out, HRB.out, HBW.out.drewN _⟩
          case measure => simp [intOf]
        · have hz' : (s4 != 0) = true := by simpa using hz
          have hq : F 3 = s4 := by rw [Hst.out 3 (by rw [HN.out]; exact hz), HN.out]
          have HQ := Lib.hid hq; clear hq hz
          go_wp2_with fail
          go_quiet ((exact Calls.quiet_of_same (S4.out _)))
          go_wp2
          go_ret
          exact ⟨ret_int HQ.out.symm, HBW.out.drewN _⟩
      · go_wp2_with fail
        go_ret
        exact ⟨ret_int HF.out.symm, HBW.out⟩
  · have hq : F 3 = F 0 := Hst.out 0 hz
    have HQ := Lib.hid hq
    have hv : (F 0 != 0) = true := by simpa using hz
    clear hz hq
    go_enter Try.func41, Try.ntmps41
    go_wp2_with fail
    refine wp_tail 10 (by kernel_rfl) (by kernel_rfl) ?_
    simp only [List.take_succ_cons, List.take_zero, List.drop_succ_cons, List.drop_zero]
    still_step
    still_step
    still_step
    still_step
    still_call (S0.out _)
    still_step
    still_step
    still_step
    still_step
    still_call (S1.out _)
    refine wpStill_nil ?_
    go_wp2_with fail
    refine (Hor.out _ _ (by go_simp) (by go_simp)).mono ?_; rintro e w' ⟨rfl, rfl⟩
    go_wp2_with fail
    go_ret
    exact ⟨ret_int HQ.out.symm, ((((Grew.refl w).alloc _).alloc _).drewN 1).alloc _⟩
theorem compare_any (a b : St) (w : World) : Calls Try.prog 41 #[a.val, b.val] w fun e w' => e = .returned (.int .i64 (a.C b)) ∧ Below w.heap.size w w' :=
  (compare_grew a b w).mono fun _ _ h => ⟨h.1, h.2.1⟩
end
end Go.Proofs.Ytkbabmifdfmhlaa
