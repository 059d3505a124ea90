/- Compare: the document's, and the program's. -/
import Derived.Test.YtpcnnnfgopilaaaStVal
import Derived.Deep.QuietTactic
import Derived.BigQuiet
namespace Go.Proofs.Ytpcnnnfgopilaaa
open Go.ChangeShapes Go.WideShapes Go.ChangeAt Go.RowKit Go.BigFrame
set_option linter.unusedVariables false
def or_ (p q : Int) : Int := if p = 0 then q else p
/-- Compare's number so far -/
def Ck (s0 s1 s2 s3 s4 : Int) : Nat → Int
  | 0 => or_ s0 s1
  | 1 => or_ (or_ s0 s1) s2
  | 2 => or_ (or_ (or_ s0 s1) s2) s3
  | _ => or_ (or_ (or_ (or_ s0 s1) s2) s3) s4
theorem Ck_C (a b : St) : Ck (sgn a.d b.d) (sgn a.e b.e) (sgn a.x b.x) (sgn a.y b.y) (sgn a.z b.z) 3 = a.C b := by
  unfold St.C
  generalize sgn a.d b.d = s0
  generalize sgn a.e b.e = s1
  generalize sgn a.x b.x = s2
  generalize sgn a.y b.y = s3
  generalize sgn a.z b.z = s4
  by_cases h0 : s0 = 0 <;> by_cases h1 : s1 = 0 <;> by_cases h2 : s2 = 0 <;> by_cases h3 : s3 = 0 <;> simp [Ck, or_, h0, h1, h2, h3]
theorem or_z (q : Int) : or_ 0 q = q := if_pos rfl
theorem or_n {p : Int} (h : p ≠ 0) (q : Int) : or_ p q = p := if_neg h
set_option maxHeartbeats 2000000 in
theorem refCompare_any (a b : St) (w : World) : Calls Try.prog 29 #[a.val, b.val] w fun e w' => e = .returned (.int .i64 (a.C b)) ∧ Below w.heap.size w w' := by
  have hC := Ck_C a b
  obtain ⟨d, e, x, y, z⟩ := a
  obtain ⟨d', e', x', y', z'⟩ := b
  unfold St.val
  simp only at hC ⊢
  rw [← hC]; clear hC
  have S0 := Lib.hid (sign_any d d'); have S1 := Lib.hid (sign_any e e'); have S2 := Lib.hid (sign_any x x'); have S3 := Lib.hid (sign_any y y'); have S4 := Lib.hid (sign_any z z')
  generalize sgn d d' = s0 at *
  generalize sgn e e' = s1 at *
  generalize sgn x x' = s2 at *
  generalize sgn y y' = s3 at *
  generalize sgn z z' = s4 at *
  by_cases h0 : s0 = 0
  · subst h0
    go_enter Try.func29, Try.ntmps29
    go_wp2_with fail
    refine (S0.out _).mono ?_; rintro e w' ⟨rfl, rfl⟩
    go_wp2_with fail
    refine (S1.out _).mono ?_; rintro e w' ⟨rfl, rfl⟩
    go_wp2_with fail
    have hr0 := (Row.made w 24 [.int .i64 d, .int .i64 e, .int .i64 x, .int .i64 y, .int .i64 z]).alloc (.cells #[.int .i64 d', .int .i64 e', .int .i64 x', .int .i64 y', .int .i64 z'] 24)
    have hr1 := Row.made (w.alloc (.cells #[.int .i64 d, .int .i64 e, .int .i64 x, .int .i64 y, .int .i64 z] 24)) 24 [.int .i64 d', .int .i64 e', .int .i64 x', .int .i64 y', .int .i64 z']
    have hb0 : Below w.heap.size w ((w.alloc (.cells #[.int .i64 d, .int .i64 e, .int .i64 x, .int .i64 y, .int .i64 z] 24)).alloc (.cells #[.int .i64 d', .int .i64 e', .int .i64 x', .int .i64 y', .int .i64 z'] 24)) := ((Below.refl _ _).alloc (Nat.le_refl _) _).alloc (by simp) _
    rw [size_alloc] at hr1
    go_loopw [5, 6] (fun c i wr => ∃ k : Nat, k ≤ 3 ∧ i = .int .i64 k ∧ c = .int .i64 (Ck 0 s1 s2 s3 s4 k) ∧ Row wr w.heap.size 24 [.int .i64 d, .int .i64 e, .int .i64 x, .int .i64 y, .int .i64 z] ∧ Row wr (w.heap.size + 1) 24 [.int .i64 d', .int .i64 e', .int .i64 x', .int .i64 y', .int .i64 z'] ∧ Below w.heap.size w wr) (fun c i _ => 3 - (intOf i).toNat)
    case atStart => exact ⟨0, by omega, rfl, rfl, hr0, hr1, hb0⟩
    case round =>
      obtain ⟨k, hk, rfl, rfl, hra, hrb, hbw⟩ := hrel
      clear hr0 hr1 hb0
      have hcase : k = 0 ∨ k = 1 ∨ k = 2 ∨ k = 3 := by omega
      clear hk
      have a2 := hra.cell 2; have a3 := hra.cell 3; have a4 := hra.cell 4
      have b2 := hrb.cell 2; have b3 := hrb.cell 3; have b4 := hrb.cell 4
      simp only [List.getElem?_cons_succ, List.getElem?_cons_zero] at a2 a3 a4 b2 b3 b4
      have HRA := Lib.hid hra; have HRB := Lib.hid hrb; have HBW := Lib.hid hbw; clear hra hrb hbw
      rcases hcase with rfl | rfl | rfl | rfl
      · have hnext : ∀ s, s = s2 → Ck 0 s1 s2 s3 s4 1 = or_ (Ck 0 s1 s2 s3 s4 0) s := by rintro s rfl; rfl
        have HN := Lib.hid hnext; clear hnext
        generalize Ck 0 s1 s2 s3 s4 0 = v at *
        by_cases hz : v = 0
        · subst hz
          go_wp2_with fail
          go_quiet ((exact Calls.quiet_of_same ((S2.out _).mono fun _ _ h => ⟨h.1, h.2.symm⟩)))
          go_wp2
          go_roundw
          case rel => exact ⟨1, by omega, rfl, by rw [HN.out _ rfl, or_z], HRA.out, HRB.out, below_drewN HBW.out _⟩
          case measure => simp [intOf]
        · have hz' : (v == 0) = false := by rw [beq_eq_false_iff_ne]; exact hz
          go_wp2_with fail
          go_roundw
          case rel => exact ⟨1, by omega, rfl, by rw [HN.out _ rfl, or_n hz], HRA.out, HRB.out, HBW.out⟩
          case measure => simp [intOf]
      · have hnext : ∀ s, s = s3 → Ck 0 s1 s2 s3 s4 2 = or_ (Ck 0 s1 s2 s3 s4 1) s := by rintro s rfl; rfl
        have HN := Lib.hid hnext; clear hnext
        generalize Ck 0 s1 s2 s3 s4 1 = v at *
        by_cases hz : v = 0
        · subst hz
          go_wp2_with fail
          go_quiet ((exact Calls.quiet_of_same ((S3.out _).mono fun _ _ h => ⟨h.1, h.2.symm⟩)))
          go_wp2
          go_roundw
          case rel => exact ⟨2, by omega, rfl, by rw [HN.out _ rfl, or_z], HRA.out, HRB.out, below_drewN HBW.out _⟩
          case measure => simp [intOf]
        · have hz' : (v == 0) = false := by rw [beq_eq_false_iff_ne]; exact hz
          go_wp2_with fail
          go_roundw
          case rel => exact ⟨2, by omega, rfl, by rw [HN.out _ rfl, or_n hz], HRA.out, HRB.out, HBW.out⟩
          case measure => simp [intOf]
      · have hnext : ∀ s, s = s4 → Ck 0 s1 s2 s3 s4 3 = or_ (Ck 0 s1 s2 s3 s4 2) s := by rintro s rfl; rfl
        have HN := Lib.hid hnext; clear hnext
        generalize Ck 0 s1 s2 s3 s4 2 = v at *
        by_cases hz : v = 0
        · subst hz
          go_wp2_with fail
          go_quiet ((exact Calls.quiet_of_same ((S4.out _).mono fun _ _ h => ⟨h.1, h.2.symm⟩)))
          go_wp2
          go_roundw
          case rel => exact ⟨3, by omega, rfl, by rw [HN.out _ rfl, or_z], HRA.out, HRB.out, below_drewN HBW.out _⟩
          case measure => simp [intOf]
        · have hz' : (v == 0) = false := by rw [beq_eq_false_iff_ne]; exact hz
          go_wp2_with fail
          go_roundw
          case rel => exact ⟨3, by omega, rfl, by rw [HN.out _ rfl, or_n hz], HRA.out, HRB.out, HBW.out⟩
          case measure => simp [intOf]
      · go_wp2_with fail
        go_ret
        exact ⟨rfl, HBW.out⟩
  · have h0' : (s0 == 0) = false := by rw [beq_eq_false_iff_ne]; exact h0
    go_enter Try.func29, Try.ntmps29
    go_wp2_with fail
    refine (S0.out _).mono ?_; rintro e w' ⟨rfl, rfl⟩
    go_wp2_with fail
    have hr0 := (Row.made w 24 [.int .i64 d, .int .i64 e, .int .i64 x, .int .i64 y, .int .i64 z]).alloc (.cells #[.int .i64 d', .int .i64 e', .int .i64 x', .int .i64 y', .int .i64 z'] 24)
    have hr1 := Row.made (w.alloc (.cells #[.int .i64 d, .int .i64 e, .int .i64 x, .int .i64 y, .int .i64 z] 24)) 24 [.int .i64 d', .int .i64 e', .int .i64 x', .int .i64 y', .int .i64 z']
    have hb0 : Below w.heap.size w ((w.alloc (.cells #[.int .i64 d, .int .i64 e, .int .i64 x, .int .i64 y, .int .i64 z] 24)).alloc (.cells #[.int .i64 d', .int .i64 e', .int .i64 x', .int .i64 y', .int .i64 z'] 24)) := ((Below.refl _ _).alloc (Nat.le_refl _) _).alloc (by simp) _
    rw [size_alloc] at hr1
    go_loopw [5, 6] (fun c i wr => ∃ k : Nat, k ≤ 3 ∧ i = .int .i64 k ∧ c = .int .i64 (Ck s0 s1 s2 s3 s4 k) ∧ Row wr w.heap.size 24 [.int .i64 d, .int .i64 e, .int .i64 x, .int .i64 y, .int .i64 z] ∧ Row wr (w.heap.size + 1) 24 [.int .i64 d', .int .i64 e', .int .i64 x', .int .i64 y', .int .i64 z'] ∧ Below w.heap.size w wr) (fun c i _ => 3 - (intOf i).toNat)
    case atStart => exact ⟨0, by omega, rfl, by simp [Ck, or_, h0], hr0, hr1, hb0⟩
    case round =>
      obtain ⟨k, hk, rfl, rfl, hra, hrb, hbw⟩ := hrel
      clear hr0 hr1 hb0
      have hcase : k = 0 ∨ k = 1 ∨ k = 2 ∨ k = 3 := by omega
      clear hk
      have a2 := hra.cell 2; have a3 := hra.cell 3; have a4 := hra.cell 4
      have b2 := hrb.cell 2; have b3 := hrb.cell 3; have b4 := hrb.cell 4
      simp only [List.getElem?_cons_succ, List.getElem?_cons_zero] at a2 a3 a4 b2 b3 b4
      have HRA := Lib.hid hra; have HRB := Lib.hid hrb; have HBW := Lib.hid hbw; clear hra hrb hbw
      rcases hcase with rfl | rfl | rfl | rfl
      · have hnext : ∀ s, s = s2 → Ck s0 s1 s2 s3 s4 1 = or_ (Ck s0 s1 s2 s3 s4 0) s := by rintro s rfl; rfl
        have HN := Lib.hid hnext; clear hnext
        generalize Ck s0 s1 s2 s3 s4 0 = v at *
        by_cases hz : v = 0
        · subst hz
          go_wp2_with fail
          go_quiet ((exact Calls.quiet_of_same ((S2.out _).mono fun _ _ h => ⟨h.1, h.2.symm⟩)))
          go_wp2
          go_roundw
          case rel => exact ⟨1, by omega, rfl, by rw [HN.out _ rfl, or_z], HRA.out, HRB.out, below_drewN HBW.out _⟩
          case measure => simp [intOf]
        · have hz' : (v == 0) = false := by rw [beq_eq_false_iff_ne]; exact hz
          go_wp2_with fail
          go_roundw
          case rel => exact ⟨1, by omega, rfl, by rw [HN.out _ rfl, or_n hz], HRA.out, HRB.out, HBW.out⟩
          case measure => simp [intOf]
      · have hnext : ∀ s, s = s3 → Ck s0 s1 s2 s3 s4 2 = or_ (Ck s0 s1 s2 s3 s4 1) s := by rintro s rfl; rfl
        have HN := Lib.hid hnext; clear hnext
        generalize Ck s0 s1 s2 s3 s4 1 = v at *
        by_cases hz : v = 0
        · subst hz
          go_wp2_with fail
          go_quiet ((exact Calls.quiet_of_same ((S3.out _).mono fun _ _ h => ⟨h.1, h.2.symm⟩)))
          go_wp2
          go_roundw
          case rel => exact ⟨2, by omega, rfl, by rw [HN.out _ rfl, or_z], HRA.out, HRB.out, below_drewN HBW.out _⟩
          case measure => simp [intOf]
        · have hz' : (v == 0) = false := by rw [beq_eq_false_iff_ne]; exact hz
          go_wp2_with fail
          go_roundw
          case rel => exact ⟨2, by omega, rfl, by rw [HN.out _ rfl, or_n hz], HRA.out, HRB.out, HBW.out⟩
          case measure => simp [intOf]
      · have hnext : ∀ s, s = s4 → Ck s0 s1 s2 s3 s4 3 = or_ (Ck s0 s1 s2 s3 s4 2) s := by rintro s rfl; rfl
        have HN := Lib.hid hnext; clear hnext
        generalize Ck s0 s1 s2 s3 s4 2 = v at *
        by_cases hz : v = 0
        · subst hz
          go_wp2_with fail
          go_quiet ((exact Calls.quiet_of_same ((S4.out _).mono fun _ _ h => ⟨h.1, h.2.symm⟩)))
          go_wp2
          go_roundw
          case rel => exact ⟨3, by omega, rfl, by rw [HN.out _ rfl, or_z], HRA.out, HRB.out, below_drewN HBW.out _⟩
          case measure => simp [intOf]
        · have hz' : (v == 0) = false := by rw [beq_eq_false_iff_ne]; exact hz
          go_wp2_with fail
          go_roundw
          case rel => exact ⟨3, by omega, rfl, by rw [HN.out _ rfl, or_n hz], HRA.out, HRB.out, HBW.out⟩
          case measure => simp [intOf]
      · go_wp2_with fail
        go_ret
        exact ⟨rfl, HBW.out⟩
end Go.Proofs.Ytpcnnnfgopilaaa
