/- Rows of times in the laws' walks: contracts that need no more than that they can be read. -/
import Derived.Test.YtkbabmifdfmhlaaFrOpen
namespace Go.Proofs.Ytkbabmifdfmhlaa
open Go.ChangeShapes Go.WideShapes Go.ChangeAt Go.RowKit Go.BigFrame Go.Shelf
set_option linter.unusedVariables false
set_option maxRecDepth 100000
structure Slc (w : World) (A : Option Addr) (c : Nat) (l : List St) : Prop where
  ts : Ts w A l
  le : l.length ≤ c
  max : c ≤ maxLen
  nil : A = none → c = 0
theorem Slc.below {w w' : World} {A : Option Addr} {c : Nat} {l : List St} (h : Slc w A c l) (hb : Below w.heap.size w w') : Slc w' A c l := ⟨h.ts.below hb, h.le, h.max, h.nil⟩
theorem Slc.of_own {w : World} {base n : Nat} {v : Value} {ts : List St} (h : w.ownsRow base 25 5 v n (rowS ts)) : ∃ A c, v = .slice A ts.length c ∧ Slc w A c ts := by
  obtain ⟨A, c, e, h1, h2, h3, h4⟩ := own_slice h
  exact ⟨A, c, e, ⟨h1, h2, h3, h4⟩⟩
/-- a call has made the row l, and tells n -/
def GivesS (w : World) (l : List St) (n : Int) (e : Ending) (w' : World) : Prop :=
  (∃ A c, e = .returned (.tuple #[.slice A l.length c, .int .i64 n]) ∧ Slc w' A c l) ∧ Below w.heap.size w w'
theorem gives_s {w : World} {l : List St} {n : Int} {e : Ending} {w' : World} (h : Gives w l n e w') : GivesS w l n e w' := by
  obtain ⟨⟨v, he, ho⟩, hb⟩ := h
  obtain ⟨A, c, rfl, hs⟩ := Slc.of_own ho
  exact ⟨⟨A, c, he, hs⟩, hb⟩
section
variable {A B : Option Addr} {a b : List St} {c d : Nat} {w : World} {t : St} {v : Bool}
theorem ofC (h : Slc w A c a) (hn : a.length ≤ 1000) : Calls Try.prog 42 #[.slice A a.length c] w (GivesS w (ifS (decide (Even a)) (ofS a)) (errS (decide (Even a)))) :=
  (of_any A a c w h.ts hn).mono fun _ _ h => gives_s h
theorem bothC (h : Slc w A c a) (k : Slc w B d b) (ha : a.length ≤ 500) (hb : b.length ≤ 500) : Calls Try.prog 25 #[.slice A a.length c, .slice B b.length d] w (GivesS w (ifS (decide (Alike a b)) (bothS a b)) (errS (decide (Alike a b)))) :=
  (both_any A B a b c d w h.ts k.ts ha hb h.le k.le h.max k.max h.nil k.nil).mono fun _ _ h => gives_s h
theorem eitherC (h : Slc w A c a) (k : Slc w B d b) (ha : a.length ≤ 1000) (hb : b.length ≤ 1000) (hab : a.length * b.length ≤ 1000) : Calls Try.prog 56 #[.slice A a.length c, .slice B b.length d] w (GivesS w (ifS (decide (Alike a b)) (eitherS a b)) (errS (decide (Alike a b)))) :=
  (either_any A B a b c d w h.ts k.ts ha hb hab h.le k.le h.max k.max).mono fun _ _ h => gives_s h
theorem withinW (h : Slc w A c a) (k : Slc w B d b) (ha : a.length ≤ 1000) (hb : b.length ≤ 1000) (hv : decide (Under a b) = v) : ∀ w', Below w.heap.size w w' → Calls Try.prog 24 #[.slice A a.length c, .slice B b.length d] w' fun e w'' => e = .returned (.bool v) ∧ Below w'.heap.size w' w'' := fun w' hw => by
  subst hv; exact within_any A B a b c d w' (h.ts.below hw) (k.ts.below hw) ha hb h.le k.le h.max k.max
theorem sameW (h : Slc w A c a) (k : Slc w B d b) (ha : a.length ≤ 1000) (hb : b.length ≤ 1000) (hv : decide (a = b) = v) : ∀ w', Below w.heap.size w w' → Calls Try.prog 59 #[.slice A a.length c, .slice B b.length d] w' fun e w'' => e = .returned (.bool v) ∧ Below w'.heap.size w' w'' := fun w' hw => by
  subst hv; exact same_any A B a b c d w' (h.ts.below hw) (k.ts.below hw) ha hb
theorem refSameW (h : Slc w A c a) (k : Slc w B d b) (ha : a.length ≤ 1000) (hb : b.length ≤ 1000) (hv : decide (a = b) = v) : ∀ w', Below w.heap.size w w' → Calls Try.prog 19 #[.slice A a.length c, .slice B b.length d] w' fun e w'' => e = .returned (.bool v) ∧ Below w'.heap.size w' w'' := fun w' hw => by
  subst hv; exact refSame_any A B a b c d w' (h.ts.below hw) (k.ts.below hw) ha hb
theorem holdsW (h : Slc w A c a) (ha : a.length ≤ 1000) (hv : decide (Inside a t) = v) : ∀ w', Below w.heap.size w w' → Calls Try.prog 22 #[.slice A a.length c, t.val] w' fun e w'' => e = .returned (.bool v) ∧ Below w'.heap.size w' w'' := fun w' hw => by
  subst hv; exact holds_any A a c t w' (h.ts.below hw) ha h.le h.max
theorem rightW (h : Slc w A c a) (ha : a.length ≤ 1000) (hv : decide (Fr a) = v) : ∀ w', Below w.heap.size w w' → Calls Try.prog 23 #[.slice A a.length c] w' fun e w'' => e = .returned (.bool v) ∧ Below w'.heap.size w' w'' := fun w' hw => by
  subst hv; exact right_row_any A a c w' (h.ts.below hw) ha h.le h.max
theorem err_zero : errS v = 0 ↔ v = true := by cases v <;> simp [errS]
theorem ofS_len (l : List St) : (ofS l).length ≤ l.length := by
  unfold ofS
  have : ∀ (l m : List St), (ofIn l m).length ≤ m.length := by
    intro l m
    induction m with
    | nil => simp [ofIn]
    | cons t m ih =>
      unfold ofIn
      have hins : ∀ (t : St) (r : List St), (insS t r).length = r.length + 1 := by
        intro t r
        induction r with
        | nil => simp [insS]
        | cons y r ih => unfold insS; split <;> simp [ih]
      split
      · rw [hins]; simp; exact ih
      · simp; omega
  exact this l l
theorem ifS_len {l : List St} {n : Nat} (h : l.length ≤ n) : (ifS v l).length ≤ n := by cases v <;> simp [ifS]; exact h
end
end Go.Proofs.Ytkbabmifdfmhlaa
