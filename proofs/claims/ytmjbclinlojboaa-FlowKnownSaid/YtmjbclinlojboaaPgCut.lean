/- The closure of Get that cuts bytes off. -/
import Derived.Test.YtmjbclinlojboaaGrGet
import Derived.Shelf.Abstract
namespace Go.Proofs.Ytmjbclinlojboaa
open Go.ChangeShapes Go.WideShapes Go.ChangeAt Go.RowKit Go.BigFrame
set_option linter.unusedVariables false
set_option maxRecDepth 100000
theorem grown_trans {w w1 w2 : World} {r : Option Nat} (h : w.grownBy w1 r) (k : w1.grownBy w2 r) : w.grownBy w2 r :=
  ⟨k.os.trans h.os, k.tape.trans h.tape, k.output.trans h.output, Nat.le_trans h.size k.size, fun b hb hr => (k.block b (Nat.lt_of_lt_of_le hb h.size) hr).trans (h.block b hb hr)⟩
/-- growth past what was there -/
theorem grown_past {w w1 w2 : World} {r : Option Nat} {r2 : Option Nat} (h : w.grownBy w1 r) (k : w1.grownBy w2 r2) (hr2 : ∀ b, r2 = some b → w.heap.size ≤ b) : w.grownBy w2 r :=
  ⟨k.os.trans h.os, k.tape.trans h.tape, k.output.trans h.output, Nat.le_trans h.size k.size, fun b hb hr => (k.block b (Nat.lt_of_lt_of_le hb h.size) (fun e => by have := hr2 b e.symm; omega)).trans (h.block b hb hr)⟩
theorem grown_below {w0 w w' : World} {B : Nat} (h : Below w0.heap.size w0 w) (k : w.grownBy w' (some B)) (hB : w0.heap.size ≤ B) : Below w0.heap.size w0 w' := h.grown k h.size (fun b e => by cases e; exact hB)
/-- the box B holds what is left of bytes that lie there since w0: ys -/
def LeftS (w0 w : World) (B : Nat) (ys : List Nat) : Prop := ∃ b o c, Row w B 27 [.slice (some ⟨b, o, none⟩) ys.length c] ∧ ys.length ≤ c ∧ c ≤ maxLen ∧ Rw.Ts kindB w0 (some ⟨b, o, none⟩) ys
theorem LeftS.kept {w0 w w' : World} {B : Nat} {ys : List Nat} {r : Option Nat} (h : LeftS w0 w B ys) (hg : w.grownBy w' r) (hr : some B ≠ r) : LeftS w0 w' B ys := by
  obtain ⟨b, o, c, h1, h2⟩ := h
  exact ⟨b, o, c, h1.grown hg hr, h2⟩
theorem cut_no (A : Option Addr) (m c n B : Nat) (w : World) (hr : Row w B 27 [.slice A m c]) (hn : m < n) :
    Calls Try.prog 31 #[.int .i64 (n : Nat), .pointer (some ⟨B, 0, none⟩)] w fun e w' => e = .returned (.tuple #[.slice none 0 0, .bool false]) ∧ w = w' := by
  have c0 : w.cell? ⟨B, 0, none⟩ = some (.slice A m c) := hr.cell 0
  have hnz : (m : Int) < (n : Int) := by omega
  clear hr hn
  go_enter Try.func31, Try.ntmps31
  go_wp2_with fail
  go_ret2
  exact ⟨rfl, rfl⟩
/-- what is cut off, and what is left -/
def CutD (w0 w : World) (B n : Nat) (ys : List Nat) (e : Ending) (w' : World) : Prop :=
  ∃ b o c, e = .returned (.tuple #[.slice (some ⟨b, o, none⟩) n c, .bool true]) ∧ n ≤ c ∧ c ≤ maxLen ∧ Rw.Ts kindB w0 (some ⟨b, o, none⟩) (ys.take n) ∧ LeftS w0 w' B (ys.drop n) ∧ w.grownBy w' (some B)
theorem cut_yes (w0 : World) (ys : List Nat) (n B : Nat) (w : World) (h : LeftS w0 w B ys) (hn : n ≤ ys.length) :
    Calls Try.prog 31 #[.int .i64 (n : Nat), .pointer (some ⟨B, 0, none⟩)] w (CutD w0 w B n ys) := by
  obtain ⟨b, o, c, hr, h1, h2, ht⟩ := h
  have c0 : w.cell? ⟨B, 0, none⟩ = some (.slice (some ⟨b, o, none⟩) ys.length c) := hr.cell 0
  have f0 : w.frozen? ⟨B, 0, none⟩ = false := hr.free 0
  have HR := Lib.hid hr; have HT := Lib.hid ht; clear hr ht
  have hmc : n ≤ c := by omega
  generalize hm : ys.length = m at *
  have HM := Lib.hid hm; clear hm
  unfold maxLen at h2
  have hnz : ¬ (m : Int) < (n : Int) := by omega
  have hd : (ys.drop n).length = m - n := by rw [List.length_drop, HM.out]
  by_cases hcn : c = n
  · subst hcn
    have hmn : m = c := by omega
    subst hmn
    have HD := Lib.hid hd; clear hd
    go_enter Try.func31, Try.ntmps31
    go_wp2_with fail
    go_ret2
    exact ⟨b, o, m, rfl, Nat.le_refl _, by unfold maxLen; omega, HT.out.take m, ⟨b, o, 0, by rw [HD.out, Nat.sub_self]; exact HR.out.put 0 _, by rw [HD.out]; omega, by unfold maxLen; omega, fun h => by rw [HD.out] at h; omega⟩, grown_set _ _ _ _⟩
  · have hlt : n < c := by omega
    have HD := Lib.hid hd; clear hd hcn
    go_enter Try.func31, Try.ntmps31
    go_wp2_with fail
    go_ret2
    exact ⟨b, o, c, rfl, hmc, by unfold maxLen; omega, HT.out.take n, ⟨b, o + n, c - n, by rw [HD.out]; exact HR.out.put 0 _, by rw [HD.out]; omega, by unfold maxLen; omega, by have h := Rw.Ts.drop HT.out n; rwa [show kindB.K = 1 from rfl, Nat.mul_one] at h⟩, grown_set _ _ _ _⟩
end Go.Proofs.Ytmjbclinlojboaa
