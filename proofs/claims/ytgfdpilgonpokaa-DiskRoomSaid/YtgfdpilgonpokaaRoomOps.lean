/- What DiskRoom's regions need: its steps' laws. -/
import Derived.Test.YtgfdpilgonpokaaRoomMath
import Derived.Test.YtgfdpilgonpokaaFew
import Derived.Test.YtgfdpilgonpokaaGuard
namespace Go.Proofs.Ytgfdpilgonpokaa
open Go.ChangeShapes Go.WideShapes Go.ChangeAt Go.RowKit Go.BigFrame
set_option linter.unusedVariables false
/-- one operation makes memory, a second one does more -/
def Seq4 (a b : World) (Q : World → Prop) (b1 b2 : Bool) (w : World) : Prop := match b1, b2 with
  | false, false => w = a
  | true, false => w = b
  | true, true => Q w
  | false, true => False
namespace Stage
section
variable {P : Program} {ops : Array Oper} {md : Region.Mode} {K1 K2 : Nat} {D : Bool → Bool → World → Prop}
/-- operation i, which comes up ahead of the second -/
theorem two_step {i : Nat} (hl : (decide (i ≠ K1) && decide (i ≠ K2) && leads md ops 8 i K2) = true) {o : Oper} {a : Act} {v : Value} (h : ∀ b w, D b false w → at_ P o a (D b false) w v) :
    ∀ S w, Fit md ops S → i ∈ Region.ready md ops S → two K1 K2 D S w → at_ P o a (two K1 K2 D (S.setIfInBounds i true)) w v := by
  simp only [Bool.and_eq_true, decide_eq_true_eq] at hl
  intro S w hF hi hS
  have hn := hF.before 8 i (mem_ready.1 hi).1 hl.2
  unfold two at *
  rw [getD_set_ne true hl.1.1, getD_set_ne true hl.1.2, hn]
  rw [hn] at hS
  exact h _ w hS
theorem at_convert2 {C : World → Prop} {o : Oper} {a : Act} {w w' : World} {v p : Value} (s t : TypeId) (x : Operand) (ho : o.op = .convert s t x) (hx : a.eval x = p) (hr : (convert s t p).run P w = .ok v w') (h : C w') : at_ P o a C w v := by
  unfold at_ execOp; simp only [ho, hx, Sem.run_bind, hr, Result.andThen_ok, Sem.run_pure, upon]; exact ⟨trivial, h⟩
end
end Stage
theorem wrap_in {z : Int} (h0 : -9223372036854775808 ≤ z) (h1 : z ≤ 9223372036854775807) : IntKind.i64.wrap z = z := IntWalk.i64_in _ (by omega)
theorem deed_ix (w : World) {b off len c k : Nat} (h : k < len) : (Instr.indexAt 23 (.slice (some ⟨b, off, none⟩) len c) (.int .i64 (k : Nat))).run Try.prog w = .ok (.pointer (some ⟨b, off + k * 5, none⟩)) w := by
  go_simp
theorem deed_field (w : World) {b o : Nat} (k : Nat) (hk : k = 1 ∨ k = 2) : (Instr.fieldAt 32 (.pointer (some ⟨b, o, none⟩)) k).run Try.prog w = .ok (.pointer (some ⟨b, o + k, none⟩)) w := by
  rcases hk with rfl | rfl <;> go_simp
theorem load_str2 {w : World} {k o : Nat} {s : ByteArray} (h : w.cell? ⟨k, o, none⟩ = some (.string s)) : (Instr.loadAt 9 (.pointer (some ⟨k, o, none⟩))).run Try.prog w = .ok (.string s) w := by
  go_simp
theorem conv_u16 (w : World) {q : Nat} (h : q ≤ 65535) : (convert 51 3 (.int .u16 (q : Nat))).run Try.prog w = .ok (.int .i64 (q : Nat)) w := by
  go_simp
  exact wrap_in (by omega) (by omega)
section
variable {w0 w : World} {F : Nat → Prop} {p : Nat} {d : DM}
theorem OwnF.drew (h : OwnF w0 w p d F) : OwnF w0 w.drew p d F := h.made (Below.refl _ _).drew
theorem own_used (h : OwnF w0 w p d F) : Calls Try.prog 27 #[.pointer (some ⟨p, 0, none⟩)] w fun e w' => e = .returned (.int .i64 (usedF d.fs : Nat)) ∧ w = w' := by
  obtain ⟨m, g, v, hD⟩ := h.disk
  exact used_any hD.row
theorem own_steps (h : OwnF w0 w p d F) : Calls Try.prog 29 #[.pointer (some ⟨p, 0, none⟩)] w fun e w' => e = .returned (.int .i64 (d.deeds : Nat)) ∧ w = w' := by
  obtain ⟨m, g, v, hD⟩ := h.disk
  exact steps_any hD.row
end
theorem wrap_add {m n : Nat} (h : m + n ≤ 1000000000) : IntKind.i64.wrap ((m : Int) + (n : Int)) = ((m + n : Nat) : Int) := by
  rw [wrap_in (by omega) (by omega)]; push_cast; rfl
end Go.Proofs.Ytgfdpilgonpokaa
