/- Compare: the program's. -/
import Derived.Test.YtdpadkellpkppaaStCmpP
import Derived.Test.YtdpadkellpkppaaTail
namespace Go.Proofs.Ytdpadkellpkppaa
open Go.ChangeShapes Go.WideShapes Go.ChangeAt Go.RowKit Go.BigFrame
set_option linter.unusedVariables false
set_option maxRecDepth 100000
/-- nothing that was there has turned, and the draws have gone on -/
def Grew (w w' : World) : Prop := Below w.heap.size w w' ∧ w.drawn ≤ w'.drawn
theorem Grew.refl (w : World) : Grew w w := ⟨Below.refl _ _, Nat.le_refl _⟩
theorem Grew.alloc {w w' : World} (h : Grew w w') (o : Obj) : Grew w (w'.alloc o) := ⟨h.1.alloc h.1.size o, h.2⟩
theorem Grew.drewN {w w' : World} (h : Grew w w') (n : Nat) : Grew w (w'.drewN n) := ⟨below_drewN h.1 n, Nat.le_trans h.2 (Nat.le_add_right _ _)⟩
theorem cc_same (a b : Int) (w : World) : Calls Try.prog 48 #[.int .i64 a, .int .i64 b] w fun e w' => e = .returned (.int .i64 (sgn a b)) ∧ w' = w := (cmpCompare_any a b w).mono fun _ _ h => ⟨h.1, h.2.symm⟩
theorem Ck_stay {s0 s1 s2 s3 s4 : Int} {k : Nat} (h : Ck s0 s1 s2 s3 s4 k ≠ 0) : Ck s0 s1 s2 s3 s4 3 = Ck s0 s1 s2 s3 s4 k := by
  match k with
  | 0 => have h' : or_ s0 s1 ≠ 0 := h
         show or_ (or_ (or_ (or_ s0 s1) s2) s3) s4 = or_ s0 s1
         rw [or_n h', or_n h', or_n h']
  | 1 => have h' : or_ (or_ s0 s1) s2 ≠ 0 := h
         show or_ (or_ (or_ (or_ s0 s1) s2) s3) s4 = or_ (or_ s0 s1) s2
         rw [or_n h', or_n h']
  | 2 => have h' : or_ (or_ (or_ s0 s1) s2) s3 ≠ 0 := h
         show or_ (or_ (or_ (or_ s0 s1) s2) s3) s4 = or_ (or_ (or_ s0 s1) s2) s3
         rw [or_n h']
  | _ + 3 => rfl
end Go.Proofs.Ytdpadkellpkppaa
