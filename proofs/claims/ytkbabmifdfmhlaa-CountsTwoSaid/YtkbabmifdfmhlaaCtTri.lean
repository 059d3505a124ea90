/- Three counts beside one another. -/
import Derived.Test.YtkbabmifdfmhlaaCtComA
namespace Go.Proofs.Ytkbabmifdfmhlaa
open Go.ChangeShapes Go.WideShapes Go.ChangeAt Go.RowKit Go.BigFrame Go.Shelf
set_option linter.unusedVariables false
set_option maxRecDepth 100000
namespace Stage
section
variable {P : Program} {ops : Array Oper} {md : Region.Mode} {K1 K2 : Nat} {D : Bool → Bool → World → Prop}
theorem two_keep {i : Nat} (h1 : i ≠ K1) (h2 : i ≠ K2) {o : Oper} {a : Act} {v : Value} (h : ∀ b1 b2 w, D b1 b2 w → at_ P o a (D b1 b2) w v) :
    ∀ S w, Fit md ops S → i ∈ Region.ready md ops S → two K1 K2 D S w → at_ P o a (two K1 K2 D (S.setIfInBounds i true)) w v := by
  intro S w hF hi hS
  unfold two at *
  rw [getD_set_ne true h1, getD_set_ne true h2]
  exact h _ _ w hS
end
end Stage
/-- two operations that do something, the second behind the first -/
def Duo3 (S0 S1 S2 : World → Prop) (b1 b2 : Bool) (w : World) : Prop := match b1, b2 with
  | false, false => S0 w
  | true, false => S1 w
  | true, true => S2 w
  | false, true => False
theorem Duo3.all {S0 S1 S2 U : World → Prop} (h0 : ∀ w, S0 w → U w) (h1 : ∀ w, S1 w → U w) (h2 : ∀ w, S2 w → U w) : ∀ b1 b2 w, Duo3 S0 S1 S2 b1 b2 w → U w
  | false, false, w, h => h0 w h
  | true, false, w, h => h1 w h
  | true, true, w, h => h2 w h
  | false, true, w, h => h.elim
/-- counts at x, y and z, that have no block in common -/
structure Tri (w : World) (x y z : Nat) (d : Int) (X Y Z : Cn) (K : Nat) (wr : World) : Prop where
  below : Below w.heap.size w wr
  all : ∃ mx my mz, Ct wr w.heap.size x mx K d (allC d X) ∧ Ct wr w.heap.size y my K d (allC d Y) ∧ Ct wr w.heap.size z mz K d (allC d Z) ∧ Apart x mx y my ∧ Apart x mx z mz ∧ Apart y my z mz
section
variable {w wr w' : World} {x y z K : Nat} {d : Int} {X Y Z : Cn} {t : St}
theorem Tri.swapY (h : Tri w x y z d X Y Z K wr) : Tri w y x z d Y X Z K wr := by
  obtain ⟨hb, mx, my, mz, h1, h2, h3, a1, a2, a3⟩ := h
  exact ⟨hb, my, mx, mz, h2, h1, h3, a1.symm, a3, a2⟩
theorem Tri.swapZ (h : Tri w x y z d X Y Z K wr) : Tri w z y x d Z Y X K wr := by
  obtain ⟨hb, mx, my, mz, h1, h2, h3, a1, a2, a3⟩ := h
  exact ⟨hb, mz, my, mx, h3, h2, h1, a3.symm, a2.symm, a1.symm⟩
theorem Tri.later (h : Tri w x y z d X Y Z K wr) (hb : Below wr.heap.size wr w') : Tri w x y z d X Y Z K w' := by
  obtain ⟨hb0, mx, my, mz, h1, h2, h3, a⟩ := h
  exact ⟨hb0.trans (hb.mono hb0.size), mx, my, mz, h1.below hb, h2.below hb, h3.below hb, a⟩
theorem Tri.more (h : Tri w x y z d X Y Z K wr) {M : Nat} (hM : K ≤ M) : Tri w x y z d X Y Z M wr := by
  obtain ⟨hb0, mx, my, mz, h1, h2, h3, a⟩ := h
  exact ⟨hb0, mx, my, mz, h1.mono hM, h2.mono hM, h3.mono hM, a⟩
theorem tri_add (h : Tri w x y z d X Y Z K wr) (hK : K ≤ 1000) (hl : X.length ≤ 200) (hb : ∀ p ∈ X, -999 ≤ p.2 ∧ p.2 ≤ 999) (t : St) :
    Calls Try.prog 13 #[.pointer (some ⟨x, 0, none⟩), t.val, .int .i64 1] wr fun e w'' => e = .returned (.int .i64 (errV d t)) ∧ Tri w x y z d (X ++ [(t, 1)]) Y Z (K + 1) w'' := by
  obtain ⟨hb0, mx, my, mz, h1, h2, h3, a1, a2, a3⟩ := h
  refine (step_all h1 (by unfold maxLen; omega) hl hb t 1 (by omega)).mono ?_
  rintro e w'' ⟨he, m', hc, ht, hm⟩
  exact ⟨he, h1.out hb0 ht, m', my, mz, hc, (h2.other h1 a1.symm ht).mono (by omega), (h3.other h1 a2.symm ht).mono (by omega), (a1.symm.add h2 hm).symm, (a2.symm.add h3 hm).symm, a3⟩
theorem tri_addY (h : Tri w x y z d X Y Z K wr) (hK : K ≤ 1000) (hl : Y.length ≤ 200) (hb : ∀ p ∈ Y, -999 ≤ p.2 ∧ p.2 ≤ 999) (t : St) :
    Calls Try.prog 13 #[.pointer (some ⟨y, 0, none⟩), t.val, .int .i64 1] wr fun e w'' => e = .returned (.int .i64 (errV d t)) ∧ Tri w x y z d X (Y ++ [(t, 1)]) Z (K + 1) w'' :=
  (tri_add h.swapY hK hl hb t).mono fun _ _ h => ⟨h.1, h.2.swapY⟩
theorem tri_addZ (h : Tri w x y z d X Y Z K wr) (hK : K ≤ 1000) (hl : Z.length ≤ 200) (hb : ∀ p ∈ Z, -999 ≤ p.2 ∧ p.2 ≤ 999) (t : St) :
    Calls Try.prog 13 #[.pointer (some ⟨z, 0, none⟩), t.val, .int .i64 1] wr fun e w'' => e = .returned (.int .i64 (errV d t)) ∧ Tri w x y z d X Y (Z ++ [(t, 1)]) (K + 1) w'' :=
  (tri_add h.swapZ hK hl hb t).mono fun _ _ h => ⟨h.1, h.2.swapZ⟩
end
/-- each once -/
def oneC (l : List St) : Cn := l.map fun t => (t, 1)
theorem one_bound {l : List St} : ∀ p ∈ oneC l, -999 ≤ p.2 ∧ p.2 ≤ 999 := by
  intro p hp
  obtain ⟨q, _, rfl⟩ := List.mem_map.1 hp
  simp
theorem one_pos {l : List St} : ∀ p ∈ oneC l, 0 ≤ p.2 := by
  intro p hp
  obtain ⟨q, _, rfl⟩ := List.mem_map.1 hp
  simp
theorem one_snoc {l : List St} {k : Nat} {t : St} (h : l[k]? = some t) : oneC (l.take (k + 1)) = oneC (l.take k) ++ [(t, 1)] := by
  rw [List.take_add_one, h]; simp [oneC]
theorem one_append {a b : List St} : oneC (a ++ b) = oneC a ++ oneC b := by simp [oneC]
theorem all_even {d : Int} : ∀ (l : Cn) (L : Cn), EvenC L d → EvenC (l.foldl (add1 d) L) d
  | [], _, h => h
  | p :: l, L, h => all_even l _ (by
    unfold add1
    split
    · rename_i hv; exact h.add hv.1 hv.2
    · exact h)
/-- of two, added together, the frontier is what is in both of theirs -/
theorem both_front {d : Int} {a b : List St} : Alike (frC (allC d (oneC a))) (frC (allC d (oneC b))) ∧ bothS (frC (allC d (oneC a))) (frC (allC d (oneC b))) = frC (allC d (oneC a ++ oneC b)) := by
  have e1 : EvenC (allC d (oneC a)) d := all_even _ _ EvenC.nil
  have e2 : EvenC (allC d (oneC b)) d := all_even _ _ EvenC.nil
  have e3 : EvenC (allC d (oneC a ++ oneC b)) d := all_even _ _ EvenC.nil
  have hal : Alike (frC (allC d (oneC a))) (frC (allC d (oneC b))) := ⟨frC_fr e1, frC_fr e2, fun x hx y hy => (mem_frC e1 hx).1.trans (mem_frC e2 hy).1.symm⟩
  refine ⟨hal, Fr.ext (both_fr hal) (frC_fr e3) fun s => ?_⟩
  rw [both_up hal, frC_up allC_ok e1, frC_up allC_ok e2, frC_up allC_ok e3]
  constructor
  · rintro (⟨t, h0, hl⟩ | ⟨t, h0, hl⟩)
    · refine ⟨t, ?_, hl⟩
      rw [cnt_all] at *
      rw [sum_append]
      have := sum_pos (d := d) (t := t) (one_pos (l := b))
      omega
    · refine ⟨t, ?_, hl⟩
      rw [cnt_all] at *
      rw [sum_append]
      have := sum_pos (d := d) (t := t) (one_pos (l := a))
      omega
  · rintro ⟨t, h0, hl⟩
    rw [cnt_all, sum_append] at h0
    by_cases h1 : 0 < sumC d (oneC a) t
    · exact .inl ⟨t, by rw [cnt_all]; exact h1, hl⟩
    · exact .inr ⟨t, by rw [cnt_all]; omega, hl⟩
end Go.Proofs.Ytkbabmifdfmhlaa
