/- FrTs, FrReach, FrOps, FrAlike, FrSorted, FrRight -/
import Derived.Test.YtkbabmifdfmhlaaStRow
import Derived.Test.YtkbabmifdfmhlaaFrMath
import Derived.Shelf.Abstract
namespace Go.Proofs.Ytkbabmifdfmhlaa
set_option linter.unusedVariables false
section
open Go.ChangeShapes Go.WideShapes Go.ChangeAt Go.RowKit Go.BigFrame
set_option maxRecDepth 100000
/-- the slice at A holds the times ts -/
def Ts (w : World) (A : Option Addr) (ts : List St) : Prop :=
  0 < ts.length → ∃ b o, A = some ⟨b, o, none⟩ ∧ b < w.heap.size ∧ ∀ (j : Nat) (u : Value), (rowS ts)[j]? = some u → w.cell? ⟨b, o + j, none⟩ = some u
section
variable {w w' : World} {A : Option Addr} {ts : List St}
theorem Ts.below (h : Ts w A ts) (hb : Below w.heap.size w w') : Ts w' A ts := fun hn => by
  obtain ⟨b, o, e, hlt, hc⟩ := h hn
  exact ⟨b, o, e, Nat.lt_of_lt_of_le hlt hb.size, fun j u hu => (hb.cell (p := ⟨b, o + j, none⟩) hlt).trans (hc j u hu)⟩
theorem Ts.nil : Ts w A [] := fun h => absurd h (by simp)
theorem Ts.of (h : Times w A ts) : Ts w A ts := fun hn => by
  obtain ⟨b, e, hlt, hc⟩ := h hn
  exact ⟨b, 0, e, hlt, fun j u hu => by rw [Nat.zero_add]; exact hc j u hu⟩
theorem rowS_take (ts : List St) (k : Nat) : rowS (ts.take k) = (rowS ts).take (k * 5) := by
  induction ts generalizing k with
  | nil => simp [rowS]
  | cons t ts ih =>
    cases k with
    | zero => simp [rowS]
    | succ k => rw [List.take_succ_cons, rowS_cons, rowS_cons, ih, show (k + 1) * 5 = k * 5 + 1 + 1 + 1 + 1 + 1 by omega]; simp only [List.take_succ_cons]
theorem rowS_drop (ts : List St) (k : Nat) : rowS (ts.drop k) = (rowS ts).drop (k * 5) := by
  induction ts generalizing k with
  | nil => simp [rowS]
  | cons t ts ih =>
    cases k with
    | zero => simp
    | succ k => rw [List.drop_succ_cons, ih, rowS_cons, show (k + 1) * 5 = k * 5 + 1 + 1 + 1 + 1 + 1 by omega]; simp only [List.drop_succ_cons]
theorem Ts.take (h : Ts w A ts) (k : Nat) : Ts w A (ts.take k) := fun hn => by
  obtain ⟨b, o, e, hlt, hc⟩ := h (by rw [List.length_take] at hn; omega)
  refine ⟨b, o, e, hlt, fun j u hu => hc j u ?_⟩
  rw [rowS_take, List.getElem?_take] at hu
  split at hu
  · exact hu
  · cases hu
theorem Ts.drop {b o : Nat} (h : Ts w (some ⟨b, o, none⟩) ts) (k : Nat) : Ts w (some ⟨b, o + k * 5, none⟩) (ts.drop k) := fun hn => by
  obtain ⟨b', o', e, hlt, hc⟩ := h (by rw [List.length_drop] at hn; omega)
  cases e
  refine ⟨b, o + k * 5, rfl, hlt, fun j u hu => ?_⟩
  rw [rowS_drop, List.getElem?_drop] at hu
  rw [Nat.add_assoc]; exact hc _ u hu
theorem run_load_st (w : World) (b o : Nat) (t : St) (h : ∀ j v, t.cells[j]? = some v → w.cell? ⟨b, o + j, none⟩ = some v) :
    (Instr.loadAt 25 (.pointer (some ⟨b, o, none⟩))).run Try.prog w = .ok (.agg #[.int .i64 t.d, .int .i64 t.e, .int .i64 t.x, .int .i64 t.y, .int .i64 t.z]) w :=
  run_loadAt_part b o 25 _ t.cells (fun j v hj => by rw [add_at]; exact h j v hj) Try.underlying25 rfl (by kernel_rfl)
theorem Ts.load (h : Ts w A ts) {i : Nat} {t : St} (hi : ts[i]? = some t) : ∃ b o, A = some ⟨b, o, none⟩ ∧ b < w.heap.size ∧
    ∀ w', Below w.heap.size w w' → (Instr.loadAt 25 (.pointer (some ⟨b, o + i * 5, none⟩))).run Try.prog w' = .ok (.agg #[.int .i64 t.d, .int .i64 t.e, .int .i64 t.x, .int .i64 t.y, .int .i64 t.z]) w' := by
  obtain ⟨hl, _⟩ := List.getElem?_eq_some_iff.1 hi
  obtain ⟨b, o, e, hlt, hc⟩ := h (by omega)
  refine ⟨b, o, e, hlt, fun w' hb => run_load_st _ _ _ _ fun j v hj => ?_⟩
  rw [hb.cell (p := ⟨b, o + i * 5 + j, none⟩) hlt, Nat.add_assoc]
  exact hc _ v (rowS_at ts i t hi j v hj)
theorem Ts.five (h : Ts w A ts) {i : Nat} {t : St} (hi : ts[i]? = some t) : ∃ b o, A = some ⟨b, o, none⟩ ∧ b < w.heap.size ∧
    ∀ w', Below w.heap.size w w' → w'.cell? ⟨b, o + i * 5, none⟩ = some (.int .i64 t.d) ∧ w'.cell? ⟨b, o + i * 5 + 1, none⟩ = some (.int .i64 t.e) ∧ w'.cell? ⟨b, o + i * 5 + 2, none⟩ = some (.int .i64 t.x) ∧ w'.cell? ⟨b, o + i * 5 + 3, none⟩ = some (.int .i64 t.y) ∧ w'.cell? ⟨b, o + i * 5 + 4, none⟩ = some (.int .i64 t.z) := by
  obtain ⟨hl, _⟩ := List.getElem?_eq_some_iff.1 hi
  obtain ⟨b, o, e, hlt, hc⟩ := h (by omega)
  refine ⟨b, o, e, hlt, fun w' hb => ?_⟩
  have key : ∀ j v, t.cells[j]? = some v → w'.cell? ⟨b, o + i * 5 + j, none⟩ = some v := fun j v hj => by
    rw [hb.cell (p := ⟨b, o + i * 5 + j, none⟩) hlt, Nat.add_assoc]
    exact hc _ v (rowS_at ts i t hi j v hj)
  exact ⟨key 0 _ rfl, key 1 _ rfl, key 2 _ rfl, key 3 _ rfl, key 4 _ rfl⟩
/-- a part of a time -/
theorem Ts.load1 (h : Ts w A ts) {i : Nat} {t : St} (hi : ts[i]? = some t) {j : Nat} {v : Int} (hj : t.cells[j]? = some (.int .i64 v)) : ∃ b o, A = some ⟨b, o, none⟩ ∧ b < w.heap.size ∧
    ∀ w', Below w.heap.size w w' → w'.cell? ⟨b, o + i * 5 + j, none⟩ = some (.int .i64 v) := by
  obtain ⟨hl, _⟩ := List.getElem?_eq_some_iff.1 hi
  obtain ⟨b, o, e, hlt, hc⟩ := h (by omega)
  refine ⟨b, o, e, hlt, fun w' hb => ?_⟩
  rw [hb.cell (p := ⟨b, o + i * 5 + j, none⟩) hlt, Nat.add_assoc]
  exact hc _ _ (rowS_at ts i t hi j _ hj)
end
/-- what is asked of a closure: it tells p, and nothing turns -/
def Tells (g : Nat) (lb : Array Value) (p : St → Bool) (w : World) : Prop :=
  ∀ (W : World) (x : St), Below w.heap.size w W → Calls Try.prog g (#[x.val] ++ lb) W fun e w' => e = .returned (.bool (p x)) ∧ Below W.heap.size W w'
theorem any_false {p : St → Bool} {ts : List St} : ts.any p = false ↔ ∀ (j : Nat) (t : St), ts[j]? = some t → p t = false := by
  rw [List.any_eq_false]
  constructor
  · intro h j t ht
    have := h t (List.mem_of_getElem? ht)
    simpa using this
  · intro h t ht
    obtain ⟨j, hj⟩ := List.getElem?_of_mem ht
    rw [h j t hj]; simp
theorem indexFunc_any (A : Option Addr) (ts : List St) (c g : Nat) (lb : Array Value) (p : St → Bool) (w : World) (hT : Ts w A ts) (hn : ts.length ≤ 1000)
    (eg : ∀ args w, (callFunc g args).run Try.prog w = .ok (.enter g args) w) (hp : 0 < ts.length → Tells g lb p w) :
    Calls Try.prog 72 #[.slice A ts.length c, .func (.func g) #[] lb] w fun e w' => (∃ i : Int, e = .returned (.int .i64 i) ∧ decide (0 ≤ i) = ts.any p) ∧ Below w.heap.size w w' := by
  have HT := Lib.hid hT; have HP := Lib.hid hp; clear hT hp
  go_enter Try.func72, Try.ntmps72
  go_wp2_with fail
  go_loopw [5, 8] (fun _ i wr => ∃ k : Nat, k ≤ ts.length ∧ i = .int .i64 k ∧ Below w.heap.size w wr ∧ ∀ (j : Nat) (t : St), j < k → ts[j]? = some t → p t = false) (fun _ i _ => ts.length - (intOf i).toNat)
  case atStart => exact ⟨0, by omega, rfl, Below.refl _ _, fun j t h => absurd h (by omega)⟩
  case round =>
    obtain ⟨k, hk, rfl, hb, hno⟩ := hrel
    have HB := Lib.hid hb; have HNO := Lib.hid hno; clear hb hno
    by_cases hlt : k < ts.length
    · have hltz : (k : Int) < (ts.length : Int) := by omega
      obtain ⟨t, ht⟩ : ∃ t, ts[k]? = some t := ⟨_, List.getElem?_eq_getElem hlt⟩
      obtain ⟨b, o, rfl, hbl, hld⟩ := HT.out.five ht
      obtain ⟨c0, c1, c2, c3, c4⟩ := hld _ HB.out
      have hcall := HP.out (by omega) wr t HB.out
      have HTT := Lib.hid ht; clear ht
      cases hq : p t with
      | true =>
        rw [hq] at hcall
        have HQ := Lib.hid hq; clear hq
        go_wp2_with fail
        refine hcall.mono ?_; rintro e w1 ⟨rfl, hb1⟩
        have HB1 := Lib.hid (HB.out.trans (hb1.mono HB.out.size)); clear hb1 hld hcall c0 c1 c2 c3 c4
        go_wp2_with fail
        go_ret
        refine ⟨⟨k, rfl, ?_⟩, HB1.out⟩
        rw [decide_eq_true (by omega), eq_comm, List.any_eq_true]
        exact ⟨t, List.mem_of_getElem? HTT.out, HQ.out⟩
      | false =>
        rw [hq] at hcall
        have HQ := Lib.hid hq; clear hq
        go_wp2_with fail
        refine hcall.mono ?_; rintro e w1 ⟨rfl, hb1⟩
        have HB1 := Lib.hid (HB.out.trans (hb1.mono HB.out.size)); clear hb1 hld hcall c0 c1 c2 c3 c4
        go_wp2_with fail
        go_roundw
        case rel =>
          refine ⟨k + 1, by omega, by simp, HB1.out, fun j t' hj ht' => ?_⟩
          by_cases e : j = k
          · subst e
            rw [HTT.out] at ht'; cases ht'
            exact HQ.out
          · exact HNO.out j t' (by omega) ht'
        case measure => simp [intOf]; omega
    · have hltz : ¬ (k : Int) < (ts.length : Int) := by omega
      go_wp2_with fail
      go_ret
      refine ⟨⟨-1, rfl, ?_⟩, HB.out⟩
      rw [decide_eq_false (by omega), eq_comm, any_false]
      exact fun j t ht => HNO.out j t (by have := (List.getElem?_eq_some_iff.1 ht).1; omega) ht
theorem containsFunc_any (A : Option Addr) (ts : List St) (c g : Nat) (lb : Array Value) (p : St → Bool) (w : World) (hT : Ts w A ts) (hn : ts.length ≤ 1000)
    (eg : ∀ args w, (callFunc g args).run Try.prog w = .ok (.enter g args) w) (hp : 0 < ts.length → Tells g lb p w) :
    Calls Try.prog 48 #[.slice A ts.length c, .func (.func g) #[] lb] w fun e w' => e = .returned (.bool (ts.any p)) ∧ Below w.heap.size w w' := by
  have H := Lib.hid (indexFunc_any A ts c g lb p w hT hn eg hp); clear hT hp eg
  go_enter Try.func48, Try.ntmps48
  go_wp2_with fail
  refine (H.out).mono ?_; rintro e w1 ⟨⟨i, rfl, hi⟩, hb⟩
  have HB := Lib.hid hb; clear hb
  have HI := Lib.hid hi; clear hi
  go_wp2_with fail
  go_ret
  exact ⟨ret_bool HI.out, HB.out⟩
end

section
open Go.ChangeShapes Go.WideShapes Go.ChangeAt Go.RowKit Go.BigFrame
set_option maxRecDepth 100000
theorem reachedC (B : Nat) (t : St) (w : World) (hB : Holds w B t) : Tells 70 #[.pointer (some ⟨B, 0, none⟩)] (fun x => decide (x.L t)) w := by
  intro W x hb
  show Calls _ _ #[x.val, .pointer (some ⟨B, 0, none⟩)] _ (fun e w' => e = .returned (.bool (decide (x.L t))) ∧ Below W.heap.size W w')
  have h := hB.below hb
  have hc := fun w => leq_any x t w
  generalize decide (x.L t) = v at *
  have hl := h.lt
  obtain ⟨c0, c1, c2, c3, c4⟩ := h.cells5
  unfold St.val at *
  have HC := Lib.hid hc; clear hc h hB hb
  go_enter Try.func70, Try.ntmps70
  go_wp2_with fail
  refine (HC.out _).mono ?_; rintro e w1 ⟨rfl, hb1⟩
  have HB1 := Lib.hid hb1; clear hb1 c0 c1 c2 c3 c4
  go_wp2_with fail
  go_ret
  exact ⟨rfl, ((Below.refl _ _).alloc (Nat.le_refl _) _).trans (HB1.out.mono (by simp))⟩
theorem reached_any (A : Option Addr) (ts : List St) (c : Nat) (t : St) (w : World) (hT : Ts w A ts) (hn : ts.length ≤ 1000) :
    Calls Try.prog 44 #[.slice A ts.length c, t.val] w fun e w' => e = .returned (.bool (ts.any fun x => decide (x.L t))) ∧ Below w.heap.size w w' := by
  have hh := Holds.made w t
  have hc := containsFunc_any A ts c 70 #[.pointer (some ⟨w.heap.size, 0, none⟩)] (fun x => decide (x.L t)) _ (hT.below ((Below.refl _ _).alloc (Nat.le_refl _) _)) hn (enters_of Try.func70 (by kernel_rfl) rfl) (fun _ => reachedC w.heap.size t _ hh)
  generalize (ts.any fun x => decide (x.L t)) = v at *
  unfold St.val at *
  have HC := Lib.hid hc; clear hc hh hT
  go_enter Try.func44, Try.ntmps44
  go_wp2_with fail
  refine (HC.out).mono ?_; rintro e w1 ⟨rfl, hb1⟩
  have HB1 := Lib.hid hb1; clear hb1
  go_wp2_with fail
  go_ret
  exact ⟨rfl, ((Below.refl _ _).alloc (Nat.le_refl _) _).trans (HB1.out.mono (by simp))⟩
end

section
open Go.ChangeShapes Go.WideShapes Go.ChangeAt Go.RowKit Go.BigFrame
set_option maxRecDepth 100000
/-- a box of one cell -/
def BoxAt (w : World) (B : Nat) (v : Value) : Prop := B < w.heap.size ∧ w.cell? ⟨B, 0, none⟩ = some v
section
variable {w w' W : World} {B b o n c : Nat} {A : Option Addr} {v : Value} {x y : Operand} {i j : Int} {p : Bool}
theorem BoxAt.below (h : BoxAt w B v) (hb : Below w.heap.size w w') : BoxAt w' B v := ⟨Nat.lt_of_lt_of_le h.1 hb.size, (hb.cell (p := ⟨B, 0, none⟩) h.1).trans h.2⟩
theorem BoxAt.made (w : World) (v : Value) (t : TypeId) : BoxAt (w.alloc (.cells #[v] t)) w.heap.size v := by
  have h : Row (w.alloc (.cells #[v] t)) w.heap.size t [v] := Row.made w _ _
  exact ⟨h.lt, h.cell 0⟩
theorem load_box (h : BoxAt W B (.slice A n c)) : ∀ w', Below W.heap.size W w' → (Instr.loadAt 40 (.pointer (some ⟨B, 0, none⟩))).run Try.prog w' = .ok (.slice A n c) w' := by
  intro w' hb
  have hc := (h.below hb).2
  go_simp
theorem load_at (hb : b < W.heap.size) (h : W.cell? ⟨b, o, none⟩ = some (.int .i64 i)) : ∀ w', Below W.heap.size W w' → (Instr.loadAt 3 (.pointer (some ⟨b, o, none⟩))).run Try.prog w' = .ok (.int .i64 i) w' := by
  intro w' hbw
  have hc := (hbw.cell (p := ⟨b, o, none⟩) hb).trans h
  go_simp
theorem nei_is (h : (i != j) = p) : ∀ w, (do eqGuard .neq 3 x y (.int .i64 i) (.int .i64 j); binOp .neq 3 (.int .i64 i) (.int .i64 j) : Sem Value).run Try.prog w = .ok (.bool p) w := by
  intro w; subst h; go_simp
theorem lti_is (h : decide (i < j) = p) : ∀ w, (do eqGuard .lss 3 x y (.int .i64 i) (.int .i64 j); binOp .lss 3 (.int .i64 i) (.int .i64 j) : Sem Value).run Try.prog w = .ok (.bool p) w := by
  intro w; subst h; go_simp
theorem gei_is (h : decide (j ≤ i) = p) : ∀ w, (do eqGuard .geq 3 x y (.int .i64 i) (.int .i64 j); binOp .geq 3 (.int .i64 i) (.int .i64 j) : Sem Value).run Try.prog w = .ok (.bool p) w := by
  intro w; subst h; go_simp
theorem sub_is {k : Int} (h : i - j = k) (h1 : -1000000 ≤ k) (h2 : k ≤ 1000000) : ∀ w, (do eqGuard .sub 3 x y (.int .i64 i) (.int .i64 j); binOp .sub 3 (.int .i64 i) (.int .i64 j) : Sem Value).run Try.prog w = .ok (.int .i64 k) w := by
  intro w
  subst h
  have : IntKind.i64.wrap (i - j) = i - j := IntWalk.i64_in _ (by omega)
  go_simp
/-- the first one -/
theorem Ts.first {ts : List St} {z : St} (h : Ts w A (z :: ts)) : ∃ b o, A = some ⟨b, o, none⟩ ∧ b < w.heap.size ∧ w.cell? ⟨b, o, none⟩ = some (.int .i64 z.d) := by
  obtain ⟨b, o, e, hlt, h5⟩ := h.five (i := 0) rfl
  have := (h5 w (Below.refl _ _)).1
  rw [Nat.zero_mul, Nat.add_zero] at this
  exact ⟨b, o, e, hlt, this⟩
theorem call_is {f : FuncId} {args : Array Value} {b b' : Bool} (hb : b = b') (h : ∀ w, Calls Try.prog f args w fun e w' => e = .returned (.bool b) ∧ Below w.heap.size w w') : ∀ w, Calls Try.prog f args w fun e w' => e = .returned (.bool b') ∧ Below w.heap.size w w' := by
  subst hb; exact h
end
end

section
open Go.ChangeShapes Go.WideShapes Go.ChangeAt Go.RowKit Go.BigFrame
set_option maxRecDepth 100000
theorem alikeC (B : Nat) (A : Option Addr) (z : St) (ts : List St) (c : Nat) (w : World) (hB : BoxAt w B (.slice A (z :: ts).length c)) (hT : Ts w A (z :: ts)) : Tells 71 #[.pointer (some ⟨B, 0, none⟩)] (fun x => !decide x.R || x.d != z.d) w := by
  intro W x hb
  show Calls _ _ #[x.val, .pointer (some ⟨B, 0, none⟩)] _ (fun e w' => e = .returned (.bool (!decide x.R || x.d != z.d)) ∧ Below W.heap.size W w')
  have hbA := (Below.refl W.heap.size W).alloc (Nat.le_refl _) (.cells #[.int .i64 x.d, .int .i64 x.e, .int .i64 x.x, .int .i64 x.y, .int .i64 x.z] 25)
  have hbox := (hB.below hb).below hbA
  obtain ⟨b, o, rfl, hbl, h0⟩ := ((hT.below hb).below hbA).first
  have hx := Holds.made W x
  by_cases hR : x.R
  · have hr := right_is (decide_eq_true hR) (right_any x)
    have hn : 0 < (z :: ts).length := by simp
    rw [decide_eq_true hR, Bool.not_true, Bool.false_or]
    generalize hv : (x.d != z.d) = v at *
    generalize (z :: ts).length = n at *
    unfold St.val at *
    have HR := Lib.hid hr; have HX := Lib.hid hx; have HBX := Lib.hid hbox; have H0 := Lib.hid (And.intro hbl h0); have HV := Lib.hid hv; have HA := Lib.hid hbA
    clear hr hx hbox hbl h0 hv hbA hB hT hb hR
    go_enter Try.func71, Try.ntmps71
    go_wp2_with fail
    generalize W.alloc (.cells #[.int .i64 x.d, .int .i64 x.e, .int .i64 x.x, .int .i64 x.y, .int .i64 x.z] 25) = w0 at *
    refine wp_region_below (by kernel_rfl) (by kernel_rfl) ?_
    refine wpQuiet_step (fun K hK => ?_); refine q_load (p := .pointer (some ⟨W.heap.size, 0, none⟩)) 25 _ rfl rfl rfl (load_t HX.out) ?_; go_simp; (with_reducible refine hK _ ?_); clear hK K
    refine wpQuiet_step (fun K hK => ?_); go_simp; (with_reducible refine ⟨_, fun _ hb => (HR.out _).mono fun _ _ h => ⟨h.1, hb.trans (h.2.mono (by simpa using hb.size))⟩, hK _ ?_⟩); clear hK K
    refine wpQuiet_step (fun K hK => ?_); go_simp; (first | (with_reducible refine hK _ ?_) | (with_reducible refine ⟨_, fun _ _ => rfl, hK _ ?_⟩)); clear hK K
    refine wpQuiet_step (fun K hK => ?_); go_simp; (first | (with_reducible refine hK _ ?_) | (with_reducible refine ⟨_, fun _ _ => rfl, hK _ ?_⟩)); clear hK K
    refine wpQuiet_step (fun K hK => ?_); go_simp; (first | (with_reducible refine hK _ ?_) | (with_reducible refine ⟨_, fun _ _ => rfl, hK _ ?_⟩)); clear hK K
    refine wpQuiet_step (fun K hK => ?_); refine q_load (p := .pointer (some ⟨W.heap.size, 0, none⟩)) 3 _ rfl rfl rfl (load_d HX.out) ?_; go_simp; (with_reducible refine hK _ ?_); clear hK K
    refine wpQuiet_step (fun K hK => ?_); refine q_load (p := .pointer (some ⟨B, 0, none⟩)) 40 _ rfl rfl rfl (load_box HBX.out) ?_; go_simp; (with_reducible refine hK _ ?_); clear hK K
    refine wpQuiet_step (fun K hK => ?_); go_simp; (first | (with_reducible refine hK _ ?_) | (with_reducible refine ⟨_, fun _ _ => rfl, hK _ ?_⟩)); clear hK K
    refine wpQuiet_step (fun K hK => ?_); go_simp; (first | (with_reducible refine hK _ ?_) | (with_reducible refine ⟨_, fun _ _ => rfl, hK _ ?_⟩)); clear hK K
    refine wpQuiet_step (fun K hK => ?_); refine q_load (p := .pointer (some ⟨b, o, none⟩)) 3 _ rfl rfl rfl (load_at H0.out.1 H0.out.2) ?_; go_simp; (with_reducible refine hK _ ?_); clear hK K
    refine wpQuiet_step (fun K hK => ?_); refine q_bin _ _ _ _ _ rfl rfl rfl rfl (nei_is HV.out) ?_; go_simp; (with_reducible refine hK _ ?_); clear hK K
    refine wpQuiet_step (fun K hK => ?_); go_simp; (first | (with_reducible refine hK _ ?_) | (with_reducible refine ⟨_, fun _ _ => rfl, hK _ ?_⟩)); clear hK K
    refine wpQuiet_step (fun K hK => ?_); go_simp; (first | (with_reducible refine hK _ ?_) | (with_reducible refine ⟨_, fun _ _ => rfl, hK _ ?_⟩)); clear hK K
    refine wpQuiet_nil ?_
    intro w1 hb1
    go_wp2_with fail
    go_ret
    exact ⟨rfl, HA.out.trans (hb1.mono HA.out.size)⟩
  · have hr := right_is (decide_eq_false hR) (right_any x)
    rw [decide_eq_false hR, Bool.not_false, Bool.true_or]
    unfold St.val at *
    have HR := Lib.hid hr; have HX := Lib.hid hx; have HA := Lib.hid hbA
    clear hr hx hbox hbl h0 hbA hB hT hb hR
    go_enter Try.func71, Try.ntmps71
    go_wp2_with fail
    generalize W.alloc (.cells #[.int .i64 x.d, .int .i64 x.e, .int .i64 x.x, .int .i64 x.y, .int .i64 x.z] 25) = w0 at *
    refine wp_region_below (by kernel_rfl) (by kernel_rfl) ?_
    refine wpQuiet_step (fun K hK => ?_); refine q_load (p := .pointer (some ⟨W.heap.size, 0, none⟩)) 25 _ rfl rfl rfl (load_t HX.out) ?_; go_simp; (with_reducible refine hK _ ?_); clear hK K
    refine wpQuiet_step (fun K hK => ?_); go_simp; (with_reducible refine ⟨_, fun _ hb => (HR.out _).mono fun _ _ h => ⟨h.1, hb.trans (h.2.mono (by simpa using hb.size))⟩, hK _ ?_⟩); clear hK K
    refine wpQuiet_step (fun K hK => ?_); go_simp; (first | (with_reducible refine hK _ ?_) | (with_reducible refine ⟨_, fun _ _ => rfl, hK _ ?_⟩)); clear hK K
    refine wpQuiet_step (fun K hK => ?_); go_simp; (try (with_reducible refine ⟨_, fun _ _ => rfl, ?_⟩)); generalize hA : ({ tmps := _, defers := _ } : Act) = A; (with_reducible refine hK A ?_); clear hK K
    refine wpQuiet_step (fun K hK => ?_); subst hA; go_simp; (try (with_reducible refine ⟨_, fun _ _ => rfl, ?_⟩)); generalize hA : ({ tmps := _, defers := _ } : Act) = A; (with_reducible refine hK A ?_); clear hK K
    refine wpQuiet_step (fun K hK => ?_); subst hA; go_simp; (try (with_reducible refine ⟨_, fun _ _ => rfl, ?_⟩)); generalize hA : ({ tmps := _, defers := _ } : Act) = A; (with_reducible refine hK A ?_); clear hK K
    refine wpQuiet_step (fun K hK => ?_); subst hA; go_simp; (try (with_reducible refine ⟨_, fun _ _ => rfl, ?_⟩)); generalize hA : ({ tmps := _, defers := _ } : Act) = A; (with_reducible refine hK A ?_); clear hK K
    refine wpQuiet_step (fun K hK => ?_); subst hA; go_simp; (try (with_reducible refine ⟨_, fun _ _ => rfl, ?_⟩)); generalize hA : ({ tmps := _, defers := _ } : Act) = A; (with_reducible refine hK A ?_); clear hK K
    refine wpQuiet_step (fun K hK => ?_); subst hA; go_simp; (try (with_reducible refine ⟨_, fun _ _ => rfl, ?_⟩)); generalize hA : ({ tmps := _, defers := _ } : Act) = A; (with_reducible refine hK A ?_); clear hK K
    refine wpQuiet_step (fun K hK => ?_); subst hA; go_simp; (try (with_reducible refine ⟨_, fun _ _ => rfl, ?_⟩)); generalize hA : ({ tmps := _, defers := _ } : Act) = A; (with_reducible refine hK A ?_); clear hK K
    refine wpQuiet_step (fun K hK => ?_); subst hA; go_simp; (try (with_reducible refine ⟨_, fun _ _ => rfl, ?_⟩)); generalize hA : ({ tmps := _, defers := _ } : Act) = A; (with_reducible refine hK A ?_); clear hK K
    refine wpQuiet_step (fun K hK => ?_); subst hA; go_simp; (first | (with_reducible refine hK _ ?_) | (with_reducible refine ⟨_, fun _ _ => rfl, hK _ ?_⟩)); clear hK K
    refine wpQuiet_step (fun K hK => ?_); go_simp; (first | (with_reducible refine hK _ ?_) | (with_reducible refine ⟨_, fun _ _ => rfl, hK _ ?_⟩)); clear hK K
    refine wpQuiet_nil ?_
    intro w1 hb1
    go_wp2_with fail
    go_ret
    exact ⟨rfl, HA.out.trans (hb1.mono HA.out.size)⟩
instance (l : List St) : Decidable (Even l) := inferInstanceAs (Decidable (∀ x ∈ l, x.R ∧ ∀ y ∈ l, x.d = y.d))
theorem even_any (z : St) (ts : List St) : (!(z :: ts).any fun x => !decide x.R || x.d != z.d) = decide (Even (z :: ts)) := by
  rw [Bool.eq_iff_iff, Bool.not_eq_true', List.any_eq_false, decide_eq_true_iff]
  simp only [Bool.or_eq_true, Bool.not_eq_true', decide_eq_false_iff_not, bne_iff_ne, ne_eq, not_or, Decidable.not_not]
  constructor
  · intro h x hx
    exact ⟨(h x hx).1, fun y hy => (h x hx).2.trans (h y hy).2.symm⟩
  · intro h x hx
    exact ⟨(h x hx).1, (h x hx).2 z List.mem_cons_self⟩
theorem alike_any (A : Option Addr) (ts : List St) (c : Nat) (w : World) (hT : Ts w A ts) (hn : ts.length ≤ 1000) :
    Calls Try.prog 45 #[.slice A ts.length c] w fun e w' => e = .returned (.bool (decide (Even ts))) ∧ Below w.heap.size w w' := by
  obtain ⟨v, hv, hc⟩ : ∃ v, (!v) = decide (Even ts) ∧ Calls Try.prog 48 #[.slice A ts.length c, .func (.func 71) #[] #[.pointer (some ⟨w.heap.size, 0, none⟩)]] (w.alloc (.cells #[.slice A ts.length c] 40)) fun e w' => e = .returned (.bool v) ∧ Below (w.alloc (.cells #[.slice A ts.length c] 40)).heap.size (w.alloc (.cells #[.slice A ts.length c] 40)) w' := by
    have hb := (Below.refl w.heap.size w).alloc (Nat.le_refl _) (.cells #[.slice A ts.length c] 40)
    cases ts with
    | nil => exact ⟨false, (decide_eq_true (fun x hx => absurd hx (by simp))).symm, containsFunc_any A [] c 71 _ (fun _ => false) _ (hT.below hb) hn (enters_of Try.func71 (by kernel_rfl) rfl) (fun h => absurd h (by simp))⟩
    | cons z ts => exact ⟨_, even_any z ts, containsFunc_any A (z :: ts) c 71 _ _ _ (hT.below hb) hn (enters_of Try.func71 (by kernel_rfl) rfl) (fun _ => alikeC _ A z ts c _ (BoxAt.made w _ _) (hT.below hb))⟩
  rw [← hv]
  have HC := Lib.hid hc; clear hc hT hv
  go_enter Try.func45, Try.ntmps45
  go_wp2_with fail
  refine (HC.out).mono ?_; rintro e w1 ⟨rfl, hb1⟩
  have HB1 := Lib.hid hb1; clear hb1
  go_wp2_with fail
  go_ret
  exact ⟨rfl, ((Below.refl _ _).alloc (Nat.le_refl _) _).trans (HB1.out.mono (by simp))⟩
end

section
open Go.ChangeShapes Go.WideShapes Go.ChangeAt Go.RowKit Go.BigFrame
set_option maxRecDepth 100000
def Rises (ts : List St) : Prop := ∀ (j : Nat) (t u : St), ts[j]? = some t → ts[j + 1]? = some u → ¬ u.C t < 0
noncomputable instance (ts : List St) : Decidable (Rises ts) := Classical.propDecidable _
theorem isSorted_any (A : Option Addr) (ts : List St) (c : Nat) (w : World) (hT : Ts w A ts) (hn : ts.length ≤ 1000) :
    Calls Try.prog 46 #[.slice A ts.length c, .func (.func 41) #[] #[]] w fun e w' => e = .returned (.bool (decide (Rises ts))) ∧ Below w.heap.size w w' := by
  have eg : ∀ args w, (callFunc 41 args).run Try.prog w = .ok (.enter 41 args) w := enters_of Try.func41 (by kernel_rfl) rfl
  have HT := Lib.hid hT; clear hT
  have hw := IntWalk.i64_in ((ts.length : Int) - 1) (by omega)
  go_enter Try.func46, Try.ntmps46
  go_wp2_with fail
  go_loopw [5] (fun i wr => ∃ k : Nat, k ≤ ts.length ∧ i = .int .i64 ((k : Int) - 1) ∧ Below w.heap.size w wr ∧ ∀ (j : Nat) (t u : St), k ≤ j + 1 → ts[j]? = some t → ts[j + 1]? = some u → ¬ u.C t < 0) (fun i _ => (intOf i).toNat)
  case atStart => exact ⟨ts.length, Nat.le_refl _, rfl, Below.refl _ _, fun j t u h _ hu => by have := (List.getElem?_eq_some_iff.1 hu).1; omega⟩
  case round =>
    obtain ⟨k, hk, rfl, hb, hno⟩ := hrel
    clear hw
    by_cases h2 : 2 ≤ k
    · obtain ⟨m, rfl⟩ : ∃ m, k = m + 2 := ⟨k - 2, by omega⟩
      rw [show ((m + 2 : Nat) : Int) - 1 = ((m + 1 : Nat) : Int) by omega]
      have l0 : m < ts.length := by omega
      have l1 : m + 1 < ts.length := by omega
      have lz : 0 < m + 1 := by omega
      generalize hq : m + 1 = q at *
      obtain ⟨t, ht⟩ : ∃ t, ts[m]? = some t := ⟨_, List.getElem?_eq_getElem l0⟩
      obtain ⟨u, hu⟩ : ∃ u, ts[q]? = some u := ⟨_, List.getElem?_eq_getElem l1⟩
      have hT' := HT.out.below hb
      obtain ⟨b, o, rfl, hbl, hl0⟩ := hT'.load ht
      obtain ⟨b', o', e, _, hl1⟩ := hT'.load hu
      cases e
      have hc := fun w => compare_any u t w
      generalize hcv : u.C t = cv at *
      unfold St.val at *
      have HB := Lib.hid hb; have HNO := Lib.hid hno; have H0 := Lib.hid hl0; have H1 := Lib.hid hl1; have HC := Lib.hid hc; have HTT := Lib.hid (And.intro ht hu); have HCV := Lib.hid hcv; have HQ := Lib.hid hq
      clear hb hno hl0 hl1 hc ht hu hT' hbl hcv h2 hq
      cases hv : decide (cv < 0) with
      | true =>
        have HV := Lib.hid hv; clear hv
        go_wp2_with fail
        refine wp_region_below (by kernel_rfl) (by kernel_rfl) ?_
        refine wpQuiet_step (fun K hK => ?_); go_simp; (first | (with_reducible refine hK _ ?_) | (with_reducible refine ⟨_, fun _ _ => rfl, hK _ ?_⟩)); clear hK K
        refine wpQuiet_step (fun K hK => ?_); go_simp; (first | (with_reducible refine hK _ ?_) | (with_reducible refine ⟨_, fun _ _ => rfl, hK _ ?_⟩)); clear hK K
        refine wpQuiet_step (fun K hK => ?_); go_simp; (first | (with_reducible refine hK _ ?_) | (with_reducible refine ⟨_, fun _ _ => rfl, hK _ ?_⟩)); clear hK K
        refine wpQuiet_step (fun K hK => ?_); go_simp; (first | (with_reducible refine hK _ ?_) | (with_reducible refine ⟨_, fun _ _ => rfl, hK _ ?_⟩)); clear hK K
        refine wpQuiet_step (fun K hK => ?_); refine q_load (p := .pointer (some ⟨b, o + q * 5, none⟩)) 25 _ rfl rfl rfl (H1.out) ?_; go_simp; (with_reducible refine hK _ ?_); clear hK K
        refine wpQuiet_step (fun K hK => ?_); go_simp; (first | (with_reducible refine hK _ ?_) | (with_reducible refine ⟨_, fun _ _ => rfl, hK _ ?_⟩)); clear hK K
        refine wpQuiet_step (fun K hK => ?_); go_simp; (first | (with_reducible refine hK _ ?_) | (with_reducible refine ⟨_, fun _ _ => rfl, hK _ ?_⟩)); clear hK K
        refine wpQuiet_step (fun K hK => ?_); refine q_bin _ _ _ _ _ rfl rfl rfl rfl (sub_is (k := (m : Nat)) (by have := HQ.out; omega) (by omega) (by have := HQ.out; omega)) ?_; go_simp; (with_reducible refine hK _ ?_); clear hK K
        refine wpQuiet_step (fun K hK => ?_); go_simp; (first | (with_reducible refine hK _ ?_) | (with_reducible refine ⟨_, fun _ _ => rfl, hK _ ?_⟩)); clear hK K
        refine wpQuiet_step (fun K hK => ?_); refine q_load (p := .pointer (some ⟨b, o + m * 5, none⟩)) 25 _ rfl rfl rfl (H0.out) ?_; go_simp; (with_reducible refine hK _ ?_); clear hK K
        refine wpQuiet_step (fun K hK => ?_); go_simp; (with_reducible refine ⟨_, fun _ hb => (HC.out _).mono fun _ _ h => ⟨h.1, hb.trans (h.2.mono (by simpa using hb.size))⟩, hK _ ?_⟩); clear hK K
        refine wpQuiet_step (fun K hK => ?_); refine q_bin _ _ _ _ _ rfl rfl rfl rfl (lti_is HV.out) ?_; go_simp; (with_reducible refine hK _ ?_); clear hK K
        refine wpQuiet_nil ?_
        intro w1 hb1
        go_wp2_with fail
        go_ret
        refine ⟨ret_bool ?_, HB.out.trans (hb1.mono HB.out.size)⟩
        rw [eq_comm, decide_eq_false_iff_not]
        intro h
        exact absurd (by rw [HCV.out]; exact of_decide_eq_true HV.out) (h m t u HTT.out.1 (by rw [HQ.out]; exact HTT.out.2))
      | false =>
        have HV := Lib.hid hv; clear hv
        go_wp2_with fail
        refine wp_region_below (by kernel_rfl) (by kernel_rfl) ?_
        refine wpQuiet_step (fun K hK => ?_); go_simp; (first | (with_reducible refine hK _ ?_) | (with_reducible refine ⟨_, fun _ _ => rfl, hK _ ?_⟩)); clear hK K
        refine wpQuiet_step (fun K hK => ?_); go_simp; (first | (with_reducible refine hK _ ?_) | (with_reducible refine ⟨_, fun _ _ => rfl, hK _ ?_⟩)); clear hK K
        refine wpQuiet_step (fun K hK => ?_); go_simp; (first | (with_reducible refine hK _ ?_) | (with_reducible refine ⟨_, fun _ _ => rfl, hK _ ?_⟩)); clear hK K
        refine wpQuiet_step (fun K hK => ?_); go_simp; (first | (with_reducible refine hK _ ?_) | (with_reducible refine ⟨_, fun _ _ => rfl, hK _ ?_⟩)); clear hK K
        refine wpQuiet_step (fun K hK => ?_); refine q_load (p := .pointer (some ⟨b, o + q * 5, none⟩)) 25 _ rfl rfl rfl (H1.out) ?_; go_simp; (with_reducible refine hK _ ?_); clear hK K
        refine wpQuiet_step (fun K hK => ?_); go_simp; (first | (with_reducible refine hK _ ?_) | (with_reducible refine ⟨_, fun _ _ => rfl, hK _ ?_⟩)); clear hK K
        refine wpQuiet_step (fun K hK => ?_); go_simp; (first | (with_reducible refine hK _ ?_) | (with_reducible refine ⟨_, fun _ _ => rfl, hK _ ?_⟩)); clear hK K
        refine wpQuiet_step (fun K hK => ?_); refine q_bin _ _ _ _ _ rfl rfl rfl rfl (sub_is (k := (m : Nat)) (by have := HQ.out; omega) (by omega) (by have := HQ.out; omega)) ?_; go_simp; (with_reducible refine hK _ ?_); clear hK K
        refine wpQuiet_step (fun K hK => ?_); go_simp; (first | (with_reducible refine hK _ ?_) | (with_reducible refine ⟨_, fun _ _ => rfl, hK _ ?_⟩)); clear hK K
        refine wpQuiet_step (fun K hK => ?_); refine q_load (p := .pointer (some ⟨b, o + m * 5, none⟩)) 25 _ rfl rfl rfl (H0.out) ?_; go_simp; (with_reducible refine hK _ ?_); clear hK K
        refine wpQuiet_step (fun K hK => ?_); go_simp; (with_reducible refine ⟨_, fun _ hb => (HC.out _).mono fun _ _ h => ⟨h.1, hb.trans (h.2.mono (by simpa using hb.size))⟩, hK _ ?_⟩); clear hK K
        refine wpQuiet_step (fun K hK => ?_); refine q_bin _ _ _ _ _ rfl rfl rfl rfl (lti_is HV.out) ?_; go_simp; (with_reducible refine hK _ ?_); clear hK K
        refine wpQuiet_nil ?_
        intro w1 hb1
        have hw2 := IntWalk.i64_in (((q : Nat) : Int) - 1) (by omega)
        go_wp2_with fail
        go_roundw
        case rel =>
          refine ⟨q, by omega, rfl, HB.out.trans (hb1.mono HB.out.size), fun j t' u' hj ht' hu' => ?_⟩
          have hq := HQ.out
          by_cases e : j = m
          · subst e
            rw [HTT.out.1] at ht'; rw [hq, HTT.out.2] at hu'; cases ht'; cases hu'
            rw [HCV.out]; exact of_decide_eq_false HV.out
          · exact Int.not_lt.2 (HNO.out j t' u' (by omega) ht' hu')
        case measure => simp only [intOf]; omega
    · have hz : ¬ (0 : Int) < (k : Int) - 1 := by omega
      have HB := Lib.hid hb; have HNO := Lib.hid hno; clear hb hno
      go_wp2_with fail
      go_ret
      refine ⟨ret_bool ?_, HB.out⟩
      rw [eq_comm, decide_eq_true_iff]
      exact fun j t u ht hu => Int.not_lt.2 (HNO.out j t u (by omega) ht hu)
end

section
open Go.ChangeShapes Go.WideShapes Go.ChangeAt Go.RowKit Go.BigFrame
set_option maxRecDepth 100000
noncomputable instance (ts : List St) : Decidable (Fr ts) := Classical.propDecidable _
theorem L_C (t u : St) (h : t.L u) : ¬ u.C t < 0 := by
  have h1 := St.L_C h
  have h2 := St.C_swap (a := t) (b := u)
  omega
theorem rises_pair {ts : List St} (h : Rises ts) : ts.Pairwise fun x y => x.C y ≤ 0 := by
  induction ts with
  | nil => exact List.Pairwise.nil
  | cons t ts ih =>
    have ih := ih fun j x y hx hy => h (j + 1) x y (by simpa using hx) (by simpa using hy)
    refine List.pairwise_cons.2 ⟨?_, ih⟩
    cases ts with
    | nil => intro y hy; cases hy
    | cons u ts =>
      have h0 : t.C u ≤ 0 := by
        have h1 := h 0 t u rfl rfl
        have h2 := St.C_swap (a := t) (b := u)
        omega
      intro y hy
      rcases List.mem_cons.1 hy with rfl | hy
      · exact h0
      · exact St.C_trans h0 ((List.pairwise_cons.1 ih).1 y hy)
theorem fr_of {ts : List St} (he : Even ts) (hr : Rises ts) (hn : ∀ (i : Nat) (t : St), ts[i]? = some t → (ts.take i).any (fun x => decide (x.L t)) = false) : Fr ts := by
  have hp := rises_pair hr
  have hno : ∀ (i j : Nat) (x y : St), i < j → ts[i]? = some x → ts[j]? = some y → ¬ x.L y := by
    intro i j x y hij hx hy hl
    have := hn j y hy
    rw [List.any_eq_false] at this
    exact this x (List.mem_of_getElem? (i := i) (by rw [List.getElem?_take, if_pos hij]; exact hx)) (by simpa using hl)
  have hlt : ∀ (i j : Nat) (x y : St), i < j → ts[i]? = some x → ts[j]? = some y → x.C y < 0 := by
    intro i j x y hij hx hy
    obtain ⟨hi, ex⟩ := List.getElem?_eq_some_iff.1 hx
    obtain ⟨hj, ey⟩ := List.getElem?_eq_some_iff.1 hy
    have h1 := List.pairwise_iff_getElem.1 hp i j hi hj hij
    rw [ex, ey] at h1
    rcases Int.lt_or_eq_of_le h1 with h2 | h2
    · exact h2
    · have e := St.C_zero.1 h2
      subst e
      exact absurd (St.L_refl.2 (he x (List.mem_of_getElem? hx)).1) (hno i j x x hij hx hy)
  refine ⟨fun x hx => (he x hx).1, fun x hx => (he x hx).2, List.pairwise_iff_getElem.2 fun i j hi hj hij => hlt i j _ _ hij (List.getElem?_eq_getElem hi) (List.getElem?_eq_getElem hj), fun x hx y hy hl => ?_⟩
  obtain ⟨i, hi⟩ := List.getElem?_of_mem hx
  obtain ⟨j, hj⟩ := List.getElem?_of_mem hy
  rcases Nat.lt_trichotomy i j with h | h | h
  · exact absurd hl (hno i j x y h hi hj)
  · subst h; rw [hi] at hj; cases hj; rfl
  · exact absurd (hlt j i y x h hj hi) (L_C x y hl)
theorem fr_rises {ts : List St} (h : Fr ts) : Rises ts := fun j t u ht hu => by
  obtain ⟨hi, ex⟩ := List.getElem?_eq_some_iff.1 ht
  obtain ⟨hj, ey⟩ := List.getElem?_eq_some_iff.1 hu
  have := List.pairwise_iff_getElem.1 h.sort j (j + 1) hi hj (by omega)
  rw [ex, ey] at this
  have h2 := St.C_swap (a := t) (b := u)
  omega
theorem fr_apart {ts : List St} (h : Fr ts) (i : Nat) (t : St) (ht : ts[i]? = some t) : (ts.take i).any (fun x => decide (x.L t)) = false := by
  rw [List.any_eq_false]
  intro x hx hl
  have hl : x.L t := by simpa using hl
  obtain ⟨j, hj⟩ := List.getElem?_of_mem hx
  rw [List.getElem?_take] at hj
  split at hj
  · rename_i hji
    obtain ⟨hj', ex⟩ := List.getElem?_eq_some_iff.1 hj
    obtain ⟨hi', et⟩ := List.getElem?_eq_some_iff.1 ht
    have h1 := List.pairwise_iff_getElem.1 h.sort j i hj' hi' hji
    rw [ex, et] at h1
    have h2 := h.anti x (List.mem_of_mem_take hx) t (List.mem_of_getElem? ht) hl
    subst h2
    exact absurd h1 (by have : x.C x = 0 := St.C_zero.2 rfl
                        omega)
  · cases hj
theorem right_row_any (A : Option Addr) (ts : List St) (c : Nat) (w : World) (hT : Ts w A ts) (hn : ts.length ≤ 1000) (hc : ts.length ≤ c) (hm : c ≤ maxLen) :
    Calls Try.prog 23 #[.slice A ts.length c] w fun e w' => e = .returned (.bool (decide (Fr ts))) ∧ Below w.heap.size w w' := by
  have ha := alike_any A ts c w hT hn
  by_cases he : Even ts
  · rw [decide_eq_true he] at ha
    have hs := fun w hT => isSorted_any A ts c w hT hn
    by_cases hr : Rises ts
    · rw [decide_eq_true hr] at hs
      have HT := Lib.hid hT; have HS := Lib.hid hs; have HA := Lib.hid ha; have HE := Lib.hid (And.intro he hr); clear hT hs ha he hr
      go_enter Try.func23, Try.ntmps23
      go_wp2_with fail
      refine (HA.out).mono ?_; rintro e w1 ⟨rfl, hb1⟩
      have HB1 := Lib.hid hb1; clear hb1
      go_wp2_with fail
      refine (HS.out _ (HT.out.below HB1.out)).mono ?_; rintro e w2 ⟨rfl, hb2⟩
      have HB2 := Lib.hid (HB1.out.trans (hb2.mono HB1.out.size)); clear hb2
      go_wp2_with fail
      clear HA HS
      go_loopw [15] (fun i wr => ∃ k : Nat, k ≤ ts.length ∧ i = .int .i64 k ∧ Below w.heap.size w wr ∧ ∀ (j : Nat) (t : St), j < k → ts[j]? = some t → (ts.take j).any (fun x => decide (x.L t)) = false) (fun i _ => ts.length - (intOf i).toNat)
      case atStart => exact ⟨0, by omega, rfl, HB2.out, fun j t h => absurd h (by omega)⟩
      case round =>
        obtain ⟨k, hk, rfl, hb, hno⟩ := hrel
        have HB := Lib.hid hb; have HNO := Lib.hid hno; clear hb hno HB1 HB2
        by_cases hlt : k < ts.length
        · have hltz : (k : Int) < (ts.length : Int) := by omega
          obtain ⟨t, ht⟩ : ∃ t, ts[k]? = some t := ⟨_, List.getElem?_eq_getElem hlt⟩
          have hT1 := HT.out.below HB.out
          obtain ⟨b, o, rfl, hbl, hld⟩ := hT1.five ht
          obtain ⟨c0, c1, c2, c3, c4⟩ := hld wr (Below.refl _ _)
          have hbt := (Below.refl wr.heap.size wr).alloc (Nat.le_refl _) (.cells #[.int .i64 t.d, .int .i64 t.e, .int .i64 t.x, .int .i64 t.y, .int .i64 t.z] 25)
          have hx := Holds.made wr t
          have hcall := fun w' hb => reached_any (some ⟨b, o, none⟩) (ts.take k) c t w' (((hT1.below hbt).take k).below hb) (by rw [List.length_take]; omega)
          rw [show (ts.take k).length = k by rw [List.length_take]; omega] at hcall
          have hkc : k ≤ c := by omega
          generalize hv : ((ts.take k).any fun x => decide (x.L t)) = v at *
          unfold St.val at *
          have HX := Lib.hid hx; have HC := Lib.hid hcall; have HBT := Lib.hid hbt; have HTT := Lib.hid ht; have HV := Lib.hid hv
          clear hx hcall hbt ht hv hT1 hld hbl
          cases v with
          | true =>
            go_wp2_with fail
            generalize wr.alloc (.cells #[.int .i64 t.d, .int .i64 t.e, .int .i64 t.x, .int .i64 t.y, .int .i64 t.z] 25) = w0 at *
            refine wp_region_below (by kernel_rfl) (by kernel_rfl) ?_
            refine wpQuiet_step (fun K hK => ?_); go_simp; (first | (with_reducible refine hK _ ?_) | (with_reducible refine ⟨_, fun _ _ => rfl, hK _ ?_⟩)); clear hK K
            refine wpQuiet_step (fun K hK => ?_); go_simp; (first | (with_reducible refine hK _ ?_) | (with_reducible refine ⟨_, fun _ _ => rfl, hK _ ?_⟩)); clear hK K
            refine wpQuiet_step (fun K hK => ?_); go_simp; (first | (with_reducible refine hK _ ?_) | (with_reducible refine ⟨_, fun _ _ => rfl, hK _ ?_⟩)); clear hK K
            refine wpQuiet_step (fun K hK => ?_); refine q_load (p := .pointer (some ⟨wr.heap.size, 0, none⟩)) 25 _ rfl rfl rfl (load_t HX.out) ?_; go_simp; (with_reducible refine hK _ ?_); clear hK K
            refine wpQuiet_step (fun K hK => ?_); go_simp; (with_reducible refine ⟨_, fun wq hb => (HC.out wq hb).mono fun _ _ h => ⟨h.1, hb.trans (h.2.mono (by simpa using hb.size))⟩, hK _ ?_⟩); clear hK K
            refine wpQuiet_nil ?_
            intro w3 hb3
            go_wp2_with fail
            go_ret
            refine ⟨ret_bool ?_, HB.out.trans ((HBT.out.trans (hb3.mono HBT.out.size)).mono HB.out.size)⟩
            rw [eq_comm, decide_eq_false_iff_not]
            intro h
            have := fr_apart h k t HTT.out
            rw [HV.out] at this; cases this
          | false =>
            go_wp2_with fail
            generalize wr.alloc (.cells #[.int .i64 t.d, .int .i64 t.e, .int .i64 t.x, .int .i64 t.y, .int .i64 t.z] 25) = w0 at *
            refine wp_region_below (by kernel_rfl) (by kernel_rfl) ?_
            refine wpQuiet_step (fun K hK => ?_); go_simp; (first | (with_reducible refine hK _ ?_) | (with_reducible refine ⟨_, fun _ _ => rfl, hK _ ?_⟩)); clear hK K
            refine wpQuiet_step (fun K hK => ?_); go_simp; (first | (with_reducible refine hK _ ?_) | (with_reducible refine ⟨_, fun _ _ => rfl, hK _ ?_⟩)); clear hK K
            refine wpQuiet_step (fun K hK => ?_); go_simp; (first | (with_reducible refine hK _ ?_) | (with_reducible refine ⟨_, fun _ _ => rfl, hK _ ?_⟩)); clear hK K
            refine wpQuiet_step (fun K hK => ?_); refine q_load (p := .pointer (some ⟨wr.heap.size, 0, none⟩)) 25 _ rfl rfl rfl (load_t HX.out) ?_; go_simp; (with_reducible refine hK _ ?_); clear hK K
            refine wpQuiet_step (fun K hK => ?_); go_simp; (with_reducible refine ⟨_, fun wq hb => (HC.out wq hb).mono fun _ _ h => ⟨h.1, hb.trans (h.2.mono (by simpa using hb.size))⟩, hK _ ?_⟩); clear hK K
            refine wpQuiet_nil ?_
            intro w3 hb3
            have HB3 := Lib.hid (HB.out.trans ((HBT.out.trans (hb3.mono HBT.out.size)).mono HB.out.size))
            clear hb3 c0 c1 c2 c3 c4
            go_wp2_with fail
            go_roundw
            case rel =>
              refine ⟨k + 1, by omega, by simp, HB3.out, fun j t' hj ht' => ?_⟩
              by_cases e : j = k
              · subst e
                rw [HTT.out] at ht'; cases ht'
                exact HV.out
              · exact HNO.out j t' (by omega) ht'
            case measure => simp only [intOf]; omega
        · have hltz : ¬ (k : Int) < (ts.length : Int) := by omega
          go_wp2_with fail
          go_ret
          refine ⟨ret_bool ?_, HB.out⟩
          rw [eq_comm, decide_eq_true_iff]
          exact fr_of HE.out.1 HE.out.2 fun i t ht => HNO.out i t (by have := (List.getElem?_eq_some_iff.1 ht).1; omega) ht
    · have hf : decide (Fr ts) = false := decide_eq_false fun h => hr (fr_rises h)
      rw [hf, decide_eq_false hr] at *
      have HT := Lib.hid hT; have HS := Lib.hid hs; have HA := Lib.hid ha; clear hT hs ha he hr hf
      go_enter Try.func23, Try.ntmps23
      go_wp2_with fail
      refine (HA.out).mono ?_; rintro e w1 ⟨rfl, hb1⟩
      have HB1 := Lib.hid hb1; clear hb1
      go_wp2_with fail
      refine (HS.out _ (HT.out.below HB1.out)).mono ?_; rintro e w2 ⟨rfl, hb2⟩
      have HB2 := Lib.hid (HB1.out.trans (hb2.mono HB1.out.size)); clear hb2
      go_wp2_with fail
      go_ret
      exact ⟨rfl, HB2.out⟩
  · have hf : decide (Fr ts) = false := decide_eq_false fun h => he h.even
    rw [hf, decide_eq_false he] at *
    have HA := Lib.hid ha; clear hT ha he hf
    go_enter Try.func23, Try.ntmps23
    go_wp2_with fail
    refine (HA.out).mono ?_; rintro e w1 ⟨rfl, hb1⟩
    have HB1 := Lib.hid hb1; clear hb1
    go_wp2_with fail
    go_ret
    exact ⟨rfl, HB1.out⟩
end
end Go.Proofs.Ytkbabmifdfmhlaa
