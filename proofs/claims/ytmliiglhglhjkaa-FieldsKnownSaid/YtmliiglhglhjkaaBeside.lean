/- A reader, a rest, and bytes of the call's own, beside one another. -/
import Derived.Test.YtmliiglhglhjkaaRest
import Derived.Test.YtmliiglhglhjkaaMine
import Derived.Test.YtmliiglhglhjkaaReads
import Derived.Deep.QuietTactic
import Derived.BigQuiet
namespace Go.Proofs.Ytmliiglhglhjkaa
open Go.ChangeShapes Go.WideShapes Go.ChangeAt Go.RowKit Go.BigFrame
set_option linter.unusedVariables false
section
variable {w w' : World} {r q : Nat} {xs ys : List Nat} {sp sp' : Bool}
theorem IsReader.beside (h : IsReader w r ys sp) (hq : IsRest w q xs sp') (hg : w.grownBy w' (some q)) (hne : r ≠ q) : IsReader w' r ys sp := by
  obtain ⟨A, c, hr, hB, h1, h2, h3, h4, h5⟩ := h
  refine ⟨A, c, hr.grown hg (by intro e; injection e with e; exact hne e), ⟨hB.1, fun h0 => ?_⟩, h1, h2, h3, h4, h5⟩
  obtain ⟨b, off, he, hc⟩ := hB.plain h0
  have hlt : b < w.heap.size := by obtain ⟨ad, e, hlt, _⟩ := hB.2 h0; rw [he] at e; injection e with e; subst e; exact hlt
  have hbq : b ≠ q := by
    rintro rfl
    have h0' := hc 0 _ (List.getElem?_eq_getElem h0)
    rw [Nat.add_zero, Row.cell hq] at h0'
    match off with
    | 0 => simp at h0'
    | 1 => simp at h0'
    | _ + 2 => simp at h0'
  refine ⟨⟨b, off, none⟩, he, Nat.lt_of_lt_of_le hlt hg.size, fun j x hx => ?_⟩
  have hk : ∀ o, w'.cell? ⟨b, o, none⟩ = w.cell? ⟨b, o, none⟩ := fun o => World.cell?_of_block (hg.block b hlt (by intro e; injection e with e; exact hbq e))
  have := hc j x hx
  rw [add_at, hk]; exact this
theorem IsReader.far {k : Nat} (h : IsReader w r ys sp) (hg : w.grownBy w' (some k)) (hk : r < k) : IsReader w' r ys sp := by
  obtain ⟨A, c, hr, hB, h1, h2, h3, h4, h5⟩ := h
  exact ⟨A, c, hr.grown hg (by intro e; injection e with e; omega), hB.grown hg (fun ad he => by have := h4 ad he; intro e; injection e with e; omega), h1, h2, h3, h4, h5⟩
theorem Mine.mono {base base' n : Nat} {A : Option Addr} (h : Mine w base A n) (hb : base' ≤ base) : Mine w base' A n := fun hn => by
  obtain ⟨g, L, e, h1, h2⟩ := h hn; exact ⟨g, L, e, Nat.le_trans hb h1, h2⟩
theorem below_drewN {B : Nat} {a w : World} (h : Below B a w) (n : Nat) : Below B a (w.drewN n) := ⟨h.os, h.tape, h.output, h.size, h.block⟩
theorem rest_le (n : Int) (ys : List Nat) (sp : Bool) : (M.rest n ys sp).length ≤ ys.length := by
  unfold M.rest; split <;> simp
theorem out_le (n : Int) (ys : List Nat) (sp : Bool) : (M.out n ys sp).length ≤ ys.length := by
  unfold M.out; split <;> simp; omega
theorem bumped {w0 wr : World} {B base gb n k x g q : Nat} {A : Option Addr} {ys : List Nat} {sp : Bool} {L : List Value} (hm : Mine wr base A n) (hA : A = some ⟨gb, 0, none⟩) (hr : Row wr gb 5 L) (hR : IsReader wr g ys sp) (hS : IsRest wr q ys sp) (hg : g < gb) (hq : q ≠ gb) (hb : Below B w0 wr) (hB : B ≤ gb) :
    Mine (wr.setCell ⟨gb, k, none⟩ (.int .u8 (((x : Int) + 1) % 256))) base A n ∧ IsReader (wr.setCell ⟨gb, k, none⟩ (.int .u8 (((x : Int) + 1) % 256))) g ys sp ∧ IsRest (wr.setCell ⟨gb, k, none⟩ (.int .u8 (((x : Int) + 1) % 256))) q ys sp ∧ Below B w0 (wr.setCell ⟨gb, k, none⟩ (.int .u8 (((x : Int) + 1) % 256))) := by
  have e : (((x : Int) + 1) % 256) = (((x + 1) % 256 : Nat) : Int) := by omega
  rw [e]
  exact ⟨hm.put gb k _ hA (by omega), hR.far (grown_setCell _ _ _) hg, hS.other (grown_setCell _ _ _) hq, hb.setCell hB _⟩
/-- bytes are read of one that stands beside a rest -/
theorem raw_beside {w wr : World} {g q : Nat} {ys : List Nat} {sp : Bool} (n : Int) (hR : IsReader wr g ys sp) (hS : IsRest wr q ys sp) (hgq : g ≠ q) (hys : ys.length ≤ 2000) (hb : Below w.heap.size w wr) (hg : w.heap.size ≤ g) (wa : World) (hwa : Below wr.heap.size wr wa) :
    Calls Try.prog 16 #[.pointer (some ⟨g, 0, none⟩), .int .i64 n] wa fun e w4 => ∃ A4 c4, e = .returned (.slice A4 (M.out n ys sp).length c4) ∧ Bytes w4 A4 (M.out n ys sp) ∧ Mine w4 wr.heap.size A4 (M.out n ys sp).length ∧ (∀ ad, A4 = some ad → wr.heap.size ≤ ad.block) ∧
      IsReader w4 g (M.rest n ys sp) (M.spoil n ys sp) ∧ IsRest w4 q ys sp ∧ Below w.heap.size w w4 := by
  refine (rraw_any g ys sp n wa (hR.below hwa) (by omega)).mono ?_
  rintro e w4 ⟨v, rfl, hv, hR4, hg4⟩
  obtain ⟨A4, c4, rfl, hB4, hM4, hA4⟩ := hv.mine
  exact ⟨A4, c4, rfl, hB4, hM4.mono hwa.size, fun ad he => Nat.le_trans hwa.size (hA4 ad he), hR4, (hS.below hwa).other hg4 (Ne.symm hgq), (hb.trans (hwa.mono hb.size)).trans (below_of_grown hg4 (Nat.le_trans hb.size hwa.size) hg)⟩
theorem left_quiet (h : IsReader w r ys sp) (n : Nat) : Calls Try.prog 20 #[.pointer (some ⟨r, 0, none⟩)] (w.drewN n) fun e w'' => e = .returned (.int .i64 (ys.length : Nat)) ∧ ∃ m, w'' = w.drewN m :=
  Calls.quiet_of_same ((left_any r ys sp (w.drewN n) (show IsReader (w.drewN n) r ys sp from h)).mono fun _ _ ⟨he, hm⟩ => ⟨he, hm.symm⟩)
theorem bad_quiet (h : IsReader w r ys sp) (n : Nat) : Calls Try.prog 21 #[.pointer (some ⟨r, 0, none⟩)] (w.drewN n) fun e w'' => e = .returned (.bool sp) ∧ ∃ m, w'' = w.drewN m :=
  Calls.quiet_of_same ((bad_any r ys sp (w.drewN n) (show IsReader (w.drewN n) r ys sp from h)).mono fun _ _ ⟨he, hm⟩ => ⟨he, hm.symm⟩)
end
end Go.Proofs.Ytmliiglhglhjkaa
