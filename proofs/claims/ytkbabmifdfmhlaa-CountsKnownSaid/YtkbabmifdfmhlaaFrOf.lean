/- Of, Both, Either: the program's. -/
import Derived.Test.YtkbabmifdfmhlaaFrConcat
namespace Go.Proofs.Ytkbabmifdfmhlaa
open Go.ChangeShapes Go.WideShapes Go.ChangeAt Go.RowKit Go.BigFrame Go.Shelf
set_option linter.unusedVariables false
set_option maxRecDepth 100000
/-- a call has made the row l, and tells n -/
def Gives (w : World) (l : List St) (n : Int) (e : Ending) (w' : World) : Prop :=
  (∃ v, e = .returned (.tuple #[v, .int .i64 n]) ∧ w'.ownsRow w.heap.size 25 5 v l.length (rowS l)) ∧ Below w.heap.size w w'
theorem own_base {w : World} {base base' n : Nat} {v : Value} {xs : List Value} (h : w.ownsRow base 25 5 v n xs) (hb : base' ≤ base) : w.ownsRow base' 25 5 v n xs := by
  obtain ⟨h1, h2⟩ := h
  refine ⟨h1, ?_⟩
  rcases h2 with h2 | ⟨g', cap, cur, hv, hb', h3⟩
  · exact .inl h2
  · exact .inr ⟨g', cap, cur, hv, Nat.le_trans hb hb', h3⟩
def errS (b : Bool) : Int := if b then 0 else 50
def ifS (b : Bool) (l : List St) : List St := if b then l else []
theorem lift_even : ∀ (ts : List St), (∀ x ∈ ts, x.R) → ∃ zs : List RSt, raw zs = ts
  | [], _ => ⟨[], rfl⟩
  | x :: ts, h => by
    obtain ⟨zs, hz⟩ := lift_even ts (fun y hy => h y (List.mem_cons_of_mem _ hy))
    exact ⟨⟨x, h x List.mem_cons_self⟩ :: zs, by simp [raw] at hz ⊢; exact hz⟩
set_option maxHeartbeats 1000000 in
theorem of_any (A : Option Addr) (ts : List St) (c : Nat) (w : World) (hT : Ts w A ts) (hn : ts.length ≤ 1000) :
    Calls Try.prog 42 #[.slice A ts.length c] w (Gives w (ifS (decide (Even ts)) (ofS ts)) (errS (decide (Even ts)))) := by
  have ha := alike_any A ts c w hT hn
  by_cases he : Even ts
  · rw [decide_eq_true he] at ha ⊢
    obtain ⟨zs, hz⟩ := lift_even ts (fun x hx => (he x hx).1)
    have hlen : zs.length = ts.length := by rw [← raw_length, hz]
    have hfst : ∀ w1, Below w.heap.size w w1 → Calls Try.prog 49 #[.func (.func 75) #[] #[.pointer (some ⟨w1.heap.size, 0, none⟩)]] (w1.alloc (.cells #[.slice A ts.length c] 40)) fun e W' => (∃ v, e = .returned v ∧ W'.ownsRow (w1.alloc (.cells #[.slice A ts.length c] 40)).heap.size 25 5 v (ofS (raw zs)).length (rowS (ofS (raw zs)))) ∧ Below (w1.alloc (.cells #[.slice A ts.length c] 40)).heap.size (w1.alloc (.cells #[.slice A ts.length c] 40)) W' := by
      intro w1 hw1
      refine first_any _ _ _ zs _ (by omega) (by rw [hz]; exact he) _ _ (Below.refl _ _) (Nat.le_refl _) (enters_of Try.func75 (by kernel_rfl) rfl)
        (fun n hn => valuesC n hn w1.heap.size A zs (by omega) c _ (by rw [hlen]; exact BoxAt.made w1 _ _) (by rw [hz]; exact (hT.below hw1).below ((Below.refl _ _).alloc (Nat.le_refl _) _)))
    rw [hz] at hfst
    have HA := Lib.hid ha; have HF := Lib.hid hfst; clear ha hfst hT he hz hlen
    unfold Gives ifS errS
    simp only [if_true]
    generalize ofS ts = us at *
    go_enter Try.func42, Try.ntmps42
    go_wp2_with fail
    refine (HA.out).mono ?_; rintro e w1 ⟨rfl, hb1⟩
    have HB1 := Lib.hid hb1; clear hb1
    go_wp2_with fail
    refine (values_any A ts.length c w1).mono ?_; rintro e w2 ⟨rfl, rfl⟩
    go_wp2_with fail
    refine (HF.out _ HB1.out).mono ?_; rintro e w3 ⟨⟨v, rfl, hr⟩, hb3⟩
    have HH := Lib.hid (And.intro hr hb3); clear hr hb3
    dsimp only
    go_wp2_with fail
    go_ret2
    refine ⟨⟨v, rfl, ?_⟩, HB1.out.trans (((Below.refl _ _).alloc (Nat.le_refl _) _).trans (HH.out.2.mono (by simp)) |>.mono HB1.out.size)⟩
    exact own_base HH.out.1 (by have := HB1.out.size; simp; omega)
  · rw [decide_eq_false he] at ha ⊢
    unfold Gives ifS errS
    simp only [Bool.false_eq_true, if_false]
    have HA := Lib.hid ha; clear ha hT he
    go_enter Try.func42, Try.ntmps42
    go_wp2_with fail
    refine (HA.out).mono ?_; rintro e w1 ⟨rfl, hb1⟩
    have HB1 := Lib.hid hb1; clear hb1
    go_wp2_with fail
    go_ret2
    exact ⟨⟨_, rfl, World.ownsRow_nil _ _ _ _⟩, HB1.out⟩
set_option maxHeartbeats 2000000 in
theorem both_any (A B : Option Addr) (a b : List St) (c d : Nat) (w : World) (hA : Ts w A a) (hB : Ts w B b) (ha : a.length ≤ 500) (hb : b.length ≤ 500) (hc : a.length ≤ c) (hd : b.length ≤ d) (hcm : c ≤ maxLen) (hdm : d ≤ maxLen) (hA0 : A = none → c = 0) (hB0 : B = none → d = 0) :
    Calls Try.prog 25 #[.slice A a.length c, .slice B b.length d] w (Gives w (ifS (decide (Alike a b)) (bothS a b)) (errS (decide (Alike a b)))) := by
  have hp := paired_any A B a b c d w hA hB (by omega) (by omega) hc hd hcm hdm
  by_cases he : Alike a b
  · rw [decide_eq_true he] at hp ⊢
    obtain ⟨zs, hz⟩ := lift_even (a ++ b) (fun x hx => (even_append he x hx).1)
    have hlen : zs.length = a.length + b.length := by rw [← raw_length, hz, List.length_append]
    have hcon : ∀ w1, Below w.heap.size w w1 → Calls Try.prog 51 #[.slice (some ⟨w1.heap.size, 0, none⟩) 2 2] (w1.alloc (.cells #[.slice A a.length c, .slice B b.length d] 40)) fun e w' => (∃ v, e = .returned v ∧ w'.ownsRow (w1.alloc (.cells #[.slice A a.length c, .slice B b.length d] 40)).heap.size 25 5 v (a ++ b).length (rowS (a ++ b))) ∧ Below (w1.alloc (.cells #[.slice A a.length c, .slice B b.length d] 40)).heap.size (w1.alloc (.cells #[.slice A a.length c, .slice B b.length d] 40)) w' := by
      intro w1 hw1
      have hr : Row (w1.alloc (.cells #[.slice A a.length c, .slice B b.length d] 40)) w1.heap.size 40 [.slice A a.length c, .slice B b.length d] := Row.made w1 _ _
      have hal := (Below.refl w1.heap.size w1).alloc (Nat.le_refl _) (.cells #[.slice A a.length c, .slice B b.length d] 40)
      exact concat_any w1.heap.size A B a b c d _ ((hA.below hw1).below hal) ((hB.below hw1).below hal) (by omega) (by omega) hA0 hB0 hr.lt (hr.cell 0) (hr.cell 1)
    have hfst : ∀ (w1 : World) (C : Option Addr) (k : Nat), Ts w1 C (raw zs) → Calls Try.prog 49 #[.func (.func 75) #[] #[.pointer (some ⟨w1.heap.size, 0, none⟩)]] (w1.alloc (.cells #[.slice C zs.length k] 40)) fun e W' => (∃ v, e = .returned v ∧ W'.ownsRow (w1.alloc (.cells #[.slice C zs.length k] 40)).heap.size 25 5 v (ofS (raw zs)).length (rowS (ofS (raw zs)))) ∧ Below (w1.alloc (.cells #[.slice C zs.length k] 40)).heap.size (w1.alloc (.cells #[.slice C zs.length k] 40)) W' := by
      intro w1 C k hC
      exact first_any _ _ _ zs _ (by omega) (by rw [hz]; exact even_append he) _ _ (Below.refl _ _) (Nat.le_refl _) (enters_of Try.func75 (by kernel_rfl) rfl)
        (fun n hn => valuesC n hn w1.heap.size C zs (by omega) k _ (BoxAt.made w1 _ _) (hC.below ((Below.refl _ _).alloc (Nat.le_refl _) _)))
    rw [← hz] at hcon
    have hbo : bothS a b = ofS (raw zs) := by unfold bothS; rw [hz]
    rw [hbo]
    have HP := Lib.hid hp; have HF := Lib.hid hfst; have HC := Lib.hid hcon; clear hp hfst hcon hA hB he hbo hz hlen hc hd hcm hdm hA0 hB0 ha hb
    unfold Gives ifS errS
    simp only [if_true]
    generalize ofS (raw zs) = us at *
    generalize a.length = n at *
    generalize b.length = m at *
    go_enter Try.func25, Try.ntmps25
    go_wp2_with fail
    refine (HP.out).mono ?_; rintro e w1 ⟨rfl, hb1⟩
    have HB1 := Lib.hid hb1; clear hb1 HP
    go_wp2_with fail
    refine (HC.out _ HB1.out).mono ?_; rintro e w2 ⟨⟨v, rfl, hr⟩, hb2⟩
    obtain ⟨C, k, rfl, hT, _, _⟩ := Times.of_own hr
    rw [own_len hr, raw_length] at *
    have HB2 := Lib.hid (HB1.out.trans ((((Below.refl _ _).alloc (Nat.le_refl _) _).trans (hb2.mono (by simp))).mono HB1.out.size))
    have HF2 := Lib.hid (HF.out w2 C k (Ts.of hT)); clear hT hr hb2 HC HF HB1
    dsimp only
    go_wp2_with fail
    refine (values_any C zs.length k w2).mono ?_; rintro e w3 ⟨rfl, rfl⟩
    go_wp2_with fail
    refine (HF2.out).mono ?_; rintro e w4 ⟨⟨v, rfl, hr⟩, hb4⟩
    have HH := Lib.hid (And.intro hr hb4); clear hr hb4 HF2
    dsimp only
    go_wp2_with fail
    go_ret2
    refine ⟨⟨v, rfl, ?_⟩, HB2.out.trans (((Below.refl _ _).alloc (Nat.le_refl _) _).trans (HH.out.2.mono (by simp)) |>.mono HB2.out.size)⟩
    exact own_base HH.out.1 (by have := HB2.out.size; simp; omega)
  · rw [decide_eq_false he] at hp ⊢
    unfold Gives ifS errS
    simp only [Bool.false_eq_true, if_false]
    have HA := Lib.hid hp; clear hp hA hB he ha hb hc hd hcm hdm hA0 hB0
    generalize a.length = n at *
    generalize b.length = m at *
    go_enter Try.func25, Try.ntmps25
    go_wp2_with fail
    refine (HA.out).mono ?_; rintro e w1 ⟨rfl, hb1⟩
    have HB1 := Lib.hid hb1; clear hb1
    go_wp2_with fail
    go_ret2
    exact ⟨⟨_, rfl, World.ownsRow_nil _ _ _ _⟩, HB1.out⟩
theorem pairs_len (a b : List St) : (pairsS a b).length = a.length * b.length := by
  unfold pairsS
  induction a with
  | nil => simp
  | cons x a ih => simp only [List.map_cons, List.flatten_cons, List.length_append, List.length_map, ih, List.length_cons, Nat.succ_mul]; omega
theorem pairs_at : ∀ (a b : List St) (k j : Nat) (x y : St), a[k]? = some x → b[j]? = some y → (pairsS a b)[k * b.length + j]? = some (x.join y)
  | p :: a, b, 0, j, x, y, hx, hy => by
    have : p = x := by simpa using hx
    subst this
    have hj := (List.getElem?_eq_some_iff.1 hy).1
    simp only [pairsS, List.map_cons, List.flatten_cons, Nat.zero_mul, Nat.zero_add]
    rw [List.getElem?_append_left (by simpa using hj)]
    simp [hy]
  | p :: a, b, k + 1, j, x, y, hx, hy => by
    have := pairs_at a b k j x y (by simpa using hx) hy
    simp only [pairsS, List.map_cons, List.flatten_cons] at this ⊢
    rw [List.getElem?_append_right (by simp [Nat.succ_mul]; omega)]
    rw [List.length_map, show (k + 1) * b.length + j - b.length = k * b.length + j by rw [Nat.succ_mul]; omega]
    exact this
set_option maxHeartbeats 2000000 in
theorem either_any (A B : Option Addr) (a b : List St) (c d : Nat) (w : World) (hA : Ts w A a) (hB : Ts w B b) (ha : a.length ≤ 1000) (hb : b.length ≤ 1000) (hab : a.length * b.length ≤ 1000) (hc : a.length ≤ c) (hd : b.length ≤ d) (hcm : c ≤ maxLen) (hdm : d ≤ maxLen) :
    Calls Try.prog 56 #[.slice A a.length c, .slice B b.length d] w (Gives w (ifS (decide (Alike a b)) (eitherS a b)) (errS (decide (Alike a b)))) := by
  have hp := paired_any A B a b c d w hA hB ha hb hc hd hcm hdm
  by_cases he : Alike a b
  · rw [decide_eq_true he] at hp ⊢
    obtain ⟨zs, hz⟩ := lift_even (pairsS a b) (fun x hx => (even_pairs he x hx).1)
    have hlen : zs.length = a.length * b.length := by rw [← raw_length, hz, pairs_len]
    have hpr : Pairs a b zs := ⟨hlen, fun k j x y hx hy => by
      have h1 := pairs_at a b k j x y hx hy
      rw [← hz] at h1
      unfold raw at h1
      rw [List.getElem?_map] at h1
      cases hq : zs[k * b.length + j]? with
      | none => rw [hq] at h1; cases h1
      | some z => rw [hq] at h1; exact ⟨z, rfl, Option.some.inj h1, he.B (List.mem_of_getElem? hx) (List.mem_of_getElem? hy)⟩⟩
    have hfst : ∀ (w1 : World), Below w.heap.size w w1 → Calls Try.prog 49 #[.func (.func 90) #[] #[.pointer (some ⟨w1.heap.size, 0, none⟩), .pointer (some ⟨w1.heap.size + 1, 0, none⟩)]] ((w1.alloc (.cells #[.slice A a.length c] 40)).alloc (.cells #[.slice B b.length d] 40)) fun e W' => (∃ v, e = .returned v ∧ W'.ownsRow ((w1.alloc (.cells #[.slice A a.length c] 40)).alloc (.cells #[.slice B b.length d] 40)).heap.size 25 5 v (ofS (raw zs)).length (rowS (ofS (raw zs)))) ∧ Below ((w1.alloc (.cells #[.slice A a.length c] 40)).alloc (.cells #[.slice B b.length d] 40)).heap.size ((w1.alloc (.cells #[.slice A a.length c] 40)).alloc (.cells #[.slice B b.length d] 40)) W' := by
      intro w1 hw1
      have hal := ((Below.refl w1.heap.size w1).alloc (Nat.le_refl _) (.cells #[.slice A a.length c] 40)).alloc (by simp) (.cells #[.slice B b.length d] 40)
      have hb1 := (BoxAt.made w1 (.slice A a.length c) 40).below ((Below.refl _ _).alloc (Nat.le_refl _) (.cells #[.slice B b.length d] 40))
      have hb2 := BoxAt.made (w1.alloc (.cells #[.slice A a.length c] 40)) (.slice B b.length d) 40
      rw [size_alloc] at hb2
      exact first_any _ _ _ zs _ (by omega) (by rw [hz]; exact even_pairs he) _ _ (Below.refl _ _) (Nat.le_refl _) (enters_of Try.func90 (by kernel_rfl) rfl)
        (fun n hn => joinsC n hn w1.heap.size (w1.heap.size + 1) A B a b zs ha hb c d _ hb1 hb2 ((hA.below hw1).below hal) ((hB.below hw1).below hal) hpr)
    have hbo : eitherS a b = ofS (raw zs) := by unfold eitherS; rw [hz]
    rw [hbo]
    have HP := Lib.hid hp; have HF := Lib.hid hfst; clear hp hfst hA hB he hbo hz hlen hc hd hcm hdm ha hb hpr hab
    unfold Gives ifS errS
    simp only [if_true]
    generalize ofS (raw zs) = us at *
    generalize a.length = n at *
    generalize b.length = m at *
    go_enter Try.func56, Try.ntmps56
    go_wp2_with fail
    refine (HP.out).mono ?_; rintro e w1 ⟨rfl, hb1⟩
    have HB1 := Lib.hid hb1; clear hb1 HP
    go_wp2_with fail
    refine (joins_any A B n c m d w1).mono ?_; rintro e w2 ⟨rfl, rfl⟩
    go_wp2_with fail
    refine (HF.out _ HB1.out).mono ?_; rintro e w4 ⟨⟨v, rfl, hr⟩, hb4⟩
    have HH := Lib.hid (And.intro hr hb4); clear hr hb4 HF
    dsimp only
    go_wp2_with fail
    go_ret2
    refine ⟨⟨v, rfl, ?_⟩, HB1.out.trans ((((Below.refl _ _).alloc (Nat.le_refl _) _).alloc (by simp) _).trans (HH.out.2.mono (by simp; omega)) |>.mono HB1.out.size)⟩
    exact own_base HH.out.1 (by have := HB1.out.size; simp; omega)
  · rw [decide_eq_false he] at hp ⊢
    unfold Gives ifS errS
    simp only [Bool.false_eq_true, if_false]
    have HA := Lib.hid hp; clear hp hA hB he ha hb hc hd hcm hdm hab
    generalize a.length = n at *
    generalize b.length = m at *
    go_enter Try.func56, Try.ntmps56
    go_wp2_with fail
    refine (HA.out).mono ?_; rintro e w1 ⟨rfl, hb1⟩
    have HB1 := Lib.hid hb1; clear hb1
    go_wp2_with fail
    go_ret2
    exact ⟨⟨_, rfl, World.ownsRow_nil _ _ _ _⟩, HB1.out⟩
end Go.Proofs.Ytkbabmifdfmhlaa
