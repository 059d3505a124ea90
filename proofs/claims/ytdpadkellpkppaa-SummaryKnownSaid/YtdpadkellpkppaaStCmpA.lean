/- StCmp, StCmpP, StCmpQ -/
import Derived.Test.YtdpadkellpkppaaStVal
import Derived.Deep.QuietTactic
import Derived.BigQuiet
import Derived.StillTailTactics
import Derived.Test.YtdpadkellpkppaaTail
namespace Go.Proofs.Ytdpadkellpkppaa
set_option linter.unusedVariables false
section
open Go.ChangeShapes Go.WideShapes Go.ChangeAt Go.RowKit Go.BigFrame
set_option maxRecDepth 100000
def or_ (p q : Int) : Int := if p = 0 then q else p
/-- Compare's number so far -/
def Ck (s0 s1 s2 s3 s4 : Int) : Nat → Int
  | 0 => or_ s0 s1
  | 1 => or_ (or_ s0 s1) s2
  | 2 => or_ (or_ (or_ s0 s1) s2) s3
  | _ => or_ (or_ (or_ (or_ s0 s1) s2) s3) s4
theorem Ck_C (a b : St) : Ck (sgn a.d b.d) (sgn a.e b.e) (sgn a.x b.x) (sgn a.y b.y) (sgn a.z b.z) 3 = a.C b := by
  unfold St.C
  generalize sgn a.d b.d = s0
  generalize sgn a.e b.e = s1
  generalize sgn a.x b.x = s2
  generalize sgn a.y b.y = s3
  generalize sgn a.z b.z = s4
  by_cases h0 : s0 = 0 <;> by_cases h1 : s1 = 0 <;> by_cases h2 : s2 = 0 <;> by_cases h3 : s3 = 0 <;> simp [Ck, or_, h0, h1, h2, h3]
theorem or_z (q : Int) : or_ 0 q = q := if_pos rfl
theorem or_n {p : Int} (h : p ≠ 0) (q : Int) : or_ p q = p := if_neg h
end

section
open Go.ChangeShapes Go.WideShapes Go.ChangeAt Go.RowKit Go.BigFrame
set_option maxRecDepth 100000
theorem nan_any (a : Int) (w : World) : Calls Try.prog 58 #[.int .i64 a] w fun e w' => e = .returned (.bool false) ∧ w = w' := by
  go_enter Try.func58, Try.ntmps58
  go_wp2_with fail
  go_ret
  exact ⟨rfl, rfl⟩
theorem cmpCompare_any (a b : Int) (w : World) : Calls Try.prog 48 #[.int .i64 a, .int .i64 b] w fun e w' => e = .returned (.int .i64 (sgn a b)) ∧ w = w' := by
  rcases sgn_cases a b with ⟨h, e⟩ | ⟨h, e⟩ | ⟨h, e⟩ <;> rw [e] <;> clear e
  · go_enter Try.func48, Try.ntmps48
    go_wp2_with fail
    refine (nan_any _ _).mono ?_; rintro e w' ⟨rfl, rfl⟩
    go_wp2_with fail
    refine (nan_any _ _).mono ?_; rintro e w' ⟨rfl, rfl⟩
    go_wp2_with fail
    go_ret
    exact ⟨rfl, rfl⟩
  · have h2 : ¬ a < b := by omega
    go_enter Try.func48, Try.ntmps48
    go_wp2_with fail
    refine (nan_any _ _).mono ?_; rintro e w' ⟨rfl, rfl⟩
    go_wp2_with fail
    refine (nan_any _ _).mono ?_; rintro e w' ⟨rfl, rfl⟩
    go_wp2_with fail
    go_ret
    exact ⟨rfl, rfl⟩
  · subst h
    go_enter Try.func48, Try.ntmps48
    go_wp2_with fail
    refine (nan_any _ _).mono ?_; rintro e w' ⟨rfl, rfl⟩
    go_wp2_with fail
    refine (nan_any _ _).mono ?_; rintro e w' ⟨rfl, rfl⟩
    go_wp2_with fail
    go_ret
    exact ⟨rfl, rfl⟩
theorem or_any (b : Nat) (p q : Int) (w : World) (h0 : w.cell? ⟨b, 0, none⟩ = some (.int .i64 p)) (h1 : w.cell? ⟨b, 1, none⟩ = some (.int .i64 q)) :
    Calls Try.prog 47 #[.slice (some ⟨b, 0, none⟩) 2 2] w fun e w' => e = .returned (.int .i64 (or_ p q)) ∧ w = w' := by
  by_cases hp : p = 0
  · subst hp
    rw [or_z]
    by_cases hq : q = 0
    · subst hq
      go_enter Try.func47, Try.ntmps47
      go_wp2_with fail
      go_loop [5, 8] (fun c i => ∃ k : Nat, k ≤ 2 ∧ i = .int .i64 k) (fun c i => 2 - (intOf i).toNat)
      case atStart => exact ⟨0, by omega, rfl⟩
      case round =>
        obtain ⟨k, hk, rfl⟩ := hrel
        have hcase : k = 0 ∨ k = 1 ∨ k = 2 := by omega
        clear hk
        rcases hcase with rfl | rfl | rfl
        · go_wp2_with fail
          go_round
          case rel => exact ⟨1, by omega, rfl⟩
          case measure => simp [intOf]
        · go_wp2_with fail
          go_round
          case rel => exact ⟨2, by omega, rfl⟩
          case measure => simp [intOf]
        · go_wp2_with fail
          go_ret
          exact ⟨rfl, rfl⟩
    · have hq' : (q != 0) = true := by simpa using hq
      have Hq := Lib.hid hq; clear hq
      go_enter Try.func47, Try.ntmps47
      go_wp2_with fail
      go_loop [5, 8] (fun c i => ∃ k : Nat, k ≤ 1 ∧ i = .int .i64 k) (fun c i => 2 - (intOf i).toNat)
      case atStart => exact ⟨0, by omega, rfl⟩
      case round =>
        obtain ⟨k, hk, rfl⟩ := hrel
        have hcase : k = 0 ∨ k = 1 := by omega
        clear hk
        rcases hcase with rfl | rfl
        · go_wp2_with fail
          go_round
          case rel => exact ⟨1, by omega, rfl⟩
          case measure => simp [intOf]
        · go_wp2_with fail
          go_ret
          exact ⟨rfl, rfl⟩
  · have hp' : (p != 0) = true := by simpa using hp
    rw [or_n hp]
    clear hp
    go_enter Try.func47, Try.ntmps47
    go_wp2_with fail
    go_loop [5, 8] (fun c i => i = .int .i64 0) (fun c i => 2 - (intOf i).toNat)
    case atStart => rfl
    case round =>
      subst hrel
      go_wp2_with fail
      go_ret
      exact ⟨rfl, rfl⟩
end

section
open Go.ChangeShapes Go.WideShapes Go.ChangeAt Go.RowKit Go.BigFrame
set_option maxRecDepth 100000
/-- nothing that was there has turned, and the draws have gone on -/
def Grew (w w' : World) : Prop := Below w.heap.size w w' ∧ w.drawn ≤ w'.drawn
theorem Grew.refl (w : World) : Grew w w := ⟨Below.refl _ _, Nat.le_refl _⟩
theorem Grew.alloc {w w' : World} (h : Grew w w') (o : Obj) : Grew w (w'.alloc o) := ⟨h.1.alloc h.1.size o, h.2⟩
theorem Grew.drewN {w w' : World} (h : Grew w w') (n : Nat) : Grew w (w'.drewN n) := ⟨below_drewN h.1 n, Nat.le_trans h.2 (Nat.le_add_right _ _)⟩
theorem cc_same (a b : Int) (w : World) : Calls Try.prog 48 #[.int .i64 a, .int .i64 b] w fun e w' => e = .returned (.int .i64 (sgn a b)) ∧ w' = w := (cmpCompare_any a b w).mono fun _ _ h => ⟨h.1, h.2.symm⟩
theorem Ck_stay {s0 s1 s2 s3 s4 : Int} {k : Nat} (h : Ck s0 s1 s2 s3 s4 k ≠ 0) : Ck s0 s1 s2 s3 s4 3 = Ck s0 s1 s2 s3 s4 k := by
  match k with
  | 0 => have h' : or_ s0 s1 ≠ 0 := h
         show or_ (or_ (or_ (or_ s0 s1) s2) s3) s4 = or_ s0 s1
         rw [or_n h', or_n h', or_n h']
  | 1 => have h' : or_ (or_ s0 s1) s2 ≠ 0 := h
         show or_ (or_ (or_ (or_ s0 s1) s2) s3) s4 = or_ (or_ s0 s1) s2
         rw [or_n h', or_n h']
  | 2 => have h' : or_ (or_ (or_ s0 s1) s2) s3 ≠ 0 := h
         show or_ (or_ (or_ (or_ s0 s1) s2) s3) s4 = or_ (or_ (or_ s0 s1) s2) s3
         rw [or_n h']
  | _ + 3 => rfl
end
end Go.Proofs.Ytdpadkellpkppaa
