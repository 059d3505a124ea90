/- FrAlike, FrSorted, FrRight, FrPaired, FrSame, FrOrder, FrHolds, FrRefRight, FrRefHolds, FrIter, FrMap, FrEarly -/
import Derived.Test.YtmhophmpbpbjaaaGreatDoorCa25
import Derived.Test.YtmhophmpbpbjaaaGreatDoorCa9
import Derived.RangeFuncNested
import Derived.RangeFuncBound
import Derived.RangeFuncCalls
import Derived.RangeFuncLeaves
import Derived.Shelf.RegionOpen
import Derived.OwnWalkIn
import Derived.TacticsInMore
import Derived.LoopNIn
import Derived.LoopIn
import Derived.Maps.OwnIn
import Derived.DeepKeys4
namespace Go.Proofs.YtmhophmpbpbjaaaGreatDoor
set_option linter.unusedVariables false
section
open Go.ChangeShapes Go.WideShapes Go.ChangeAt Go.RowKit Go.BigFrame
set_option maxRecDepth 100000
theorem alikeC (B : Nat) (A : Option Addr) (z : St) (ts : List St) (c : Nat) (w : World) (hB : BoxAt w B (.slice A (z :: ts).length c)) (hT : Ts w A (z :: ts)) : Tells 105 #[.pointer (some ⟨B, 0, none⟩)] (fun x => !decide x.R || x.d != z.d) w := by
  intro W x hb
  show Calls _ _ #[x.val, .pointer (some ⟨B, 0, none⟩)] _ (fun e w' => e = .returned (.bool (!decide x.R || x.d != z.d)) ∧ Below W.heap.size W w')
  have hbA := (Below.refl W.heap.size W).alloc (Nat.le_refl _) (.cells #[.int .i64 x.d, .int .i64 x.e, .int .i64 x.x, .int .i64 x.y, .int .i64 x.z] 49)
  have hbox := (hB.below hb).below hbA
  obtain ⟨b, o, rfl, hbl, h0⟩ := ((hT.below hb).below hbA).first
  have hx := Holds.made W x
  by_cases hR : x.R
  · have hr := right_is (decide_eq_true hR) (right_any x)
    have hn : 0 < (z :: ts).length := by simp
    rw [decide_eq_true hR, Bool.not_true, Bool.false_or]
    generalize hv : (x.d != z.d) = v at *
    generalize (z :: ts).length = n at *
    unfold St.val at *
    have HR := Lib.hid hr; have HX := Lib.hid hx; have HBX := Lib.hid hbox; have H0 := Lib.hid (And.intro hbl h0); have HV := Lib.hid hv; have HA := Lib.hid hbA
    clear hr hx hbox hbl h0 hv hbA hB hT hb hR
    go_enter Tryz.func105, Tryz.ntmps105
    go_wp2_with fail
    generalize W.alloc (.cells #[.int .i64 x.d, .int .i64 x.e, .int .i64 x.x, .int .i64 x.y, .int .i64 x.z] 49) = w0 at *
    refine wp_region_below (by kernel_rfl) (by kernel_rfl) ?_
    refine wpQuiet_step (fun K hK => ?_); refine q_load (p := .pointer (some ⟨W.heap.size, 0, none⟩)) 49 _ rfl rfl rfl (load_t HX.out) ?_; go_simp; (with_reducible refine hK _ ?_); clear hK K
    refine wpQuiet_step (fun K hK => ?_); go_simp; (with_reducible refine ⟨_, fun _ hb => (HR.out _).mono fun _ _ h => ⟨h.1, hb.trans (h.2.mono (by simpa using hb.size))⟩, hK _ ?_⟩); clear hK K
    refine wpQuiet_step (fun K hK => ?_); go_simp; (first | (with_reducible refine hK _ ?_) | (with_reducible refine ⟨_, fun _ _ => rfl, hK _ ?_⟩)); clear hK K
    refine wpQuiet_step (fun K hK => ?_); go_simp; (first | (with_reducible refine hK _ ?_) | (with_reducible refine ⟨_, fun _ _ => rfl, hK _ ?_⟩)); clear hK K
    refine wpQuiet_step (fun K hK => ?_); go_simp; (first | (with_reducible refine hK _ ?_) | (with_reducible refine ⟨_, fun _ _ => rfl, hK _ ?_⟩)); clear hK K
    refine wpQuiet_step (fun K hK => ?_); refine q_load (p := .pointer (some ⟨W.heap.size, 0, none⟩)) 3 _ rfl rfl rfl (load_d HX.out) ?_; go_simp; (with_reducible refine hK _ ?_); clear hK K
    refine wpQuiet_step (fun K hK => ?_); refine q_load (p := .pointer (some ⟨B, 0, none⟩)) 51 _ rfl rfl rfl (load_box HBX.out) ?_; go_simp; (with_reducible refine hK _ ?_); clear hK K
    refine wpQuiet_step (fun K hK => ?_); go_simp; (first | (with_reducible refine hK _ ?_) | (with_reducible refine ⟨_, fun _ _ => rfl, hK _ ?_⟩)); clear hK K
    refine wpQuiet_step (fun K hK => ?_); go_simp; (first | (with_reducible refine hK _ ?_) | (with_reducible refine ⟨_, fun _ _ => rfl, hK _ ?_⟩)); clear hK K
    refine wpQuiet_step (fun K hK => ?_); refine q_load (p := .pointer (some ⟨b, o, none⟩)) 3 _ rfl rfl rfl (load_at H0.out.1 H0.out.2) ?_; go_simp; (with_reducible refine hK _ ?_); clear hK K
    refine wpQuiet_step (fun K hK => ?_); refine q_bin _ _ _ _ _ rfl rfl rfl rfl (nei_is HV.out) ?_; go_simp; (with_reducible refine hK _ ?_); clear hK K
    refine wpQuiet_step (fun K hK => ?_); go_simp; (first | (with_reducible refine hK _ ?_) | (with_reducible refine ⟨_, fun _ _ => rfl, hK _ ?_⟩)); clear hK K
    refine wpQuiet_step (fun K hK => ?_); go_simp; (first | (with_reducible refine hK _ ?_) | (with_reducible refine ⟨_, fun _ _ => rfl, hK _ ?_⟩)); clear hK K
    refine wpQuiet_nil ?_
    intro w1 hb1
    go_wp2_with fail
    go_ret
    exact ⟨rfl, HA.out.trans (hb1.mono HA.out.size)⟩
  · have hr := right_is (decide_eq_false hR) (right_any x)
    rw [decide_eq_false hR, Bool.not_false, Bool.true_or]
    unfold St.val at *
    have HR := Lib.hid hr; have HX := Lib.hid hx; have HA := Lib.hid hbA
    clear hr hx hbox hbl h0 hbA hB hT hb hR
    go_enter Tryz.func105, Tryz.ntmps105
    go_wp2_with fail
    generalize W.alloc (.cells #[.int .i64 x.d, .int .i64 x.e, .int .i64 x.x, .int .i64 x.y, .int .i64 x.z] 49) = w0 at *
    refine wp_region_below (by kernel_rfl) (by kernel_rfl) ?_
    refine wpQuiet_step (fun K hK => ?_); refine q_load (p := .pointer (some ⟨W.heap.size, 0, none⟩)) 49 _ rfl rfl rfl (load_t HX.out) ?_; go_simp; (with_reducible refine hK _ ?_); clear hK K
    refine wpQuiet_step (fun K hK => ?_); go_simp; (with_reducible refine ⟨_, fun _ hb => (HR.out _).mono fun _ _ h => ⟨h.1, hb.trans (h.2.mono (by simpa using hb.size))⟩, hK _ ?_⟩); clear hK K
    refine wpQuiet_step (fun K hK => ?_); go_simp; (first | (with_reducible refine hK _ ?_) | (with_reducible refine ⟨_, fun _ _ => rfl, hK _ ?_⟩)); clear hK K
    refine wpQuiet_step (fun K hK => ?_); go_simp; (try (with_reducible refine ⟨_, fun _ _ => rfl, ?_⟩)); generalize hA : ({ tmps := _, defers := _ } : Act) = A; (with_reducible refine hK A ?_); clear hK K
    refine wpQuiet_step (fun K hK => ?_); subst hA; go_simp; (try (with_reducible refine ⟨_, fun _ _ => rfl, ?_⟩)); generalize hA : ({ tmps := _, defers := _ } : Act) = A; (with_reducible refine hK A ?_); clear hK K
    refine wpQuiet_step (fun K hK => ?_); subst hA; go_simp; (try (with_reducible refine ⟨_, fun _ _ => rfl, ?_⟩)); generalize hA : ({ tmps := _, defers := _ } : Act) = A; (with_reducible refine hK A ?_); clear hK K
    refine wpQuiet_step (fun K hK => ?_); subst hA; go_simp; (try (with_reducible refine ⟨_, fun _ _ => rfl, ?_⟩)); generalize hA : ({ tmps := _, defers := _ } : Act) = A; (with_reducible refine hK A ?_); clear hK K
    refine wpQuiet_step (fun K hK => ?_); subst hA; go_simp; (try (with_reducible refine ⟨_, fun _ _ => rfl, ?_⟩)); generalize hA : ({ tmps := _, defers := _ } : Act) = A; (with_reducible refine hK A ?_); clear hK K
    refine wpQuiet_step (fun K hK => ?_); subst hA; go_simp; (try (with_reducible refine ⟨_, fun _ _ => rfl, ?_⟩)); generalize hA : ({ tmps := _, defers := _ } : Act) = A; (with_reducible refine hK A ?_); clear hK K
    refine wpQuiet_step (fun K hK => ?_); subst hA; go_simp; (try (with_reducible refine ⟨_, fun _ _ => rfl, ?_⟩)); generalize hA : ({ tmps := _, defers := _ } : Act) = A; (with_reducible refine hK A ?_); clear hK K
    refine wpQuiet_step (fun K hK => ?_); subst hA; go_simp; (try (with_reducible refine ⟨_, fun _ _ => rfl, ?_⟩)); generalize hA : ({ tmps := _, defers := _ } : Act) = A; (with_reducible refine hK A ?_); clear hK K
    refine wpQuiet_step (fun K hK => ?_); subst hA; go_simp; (first | (with_reducible refine hK _ ?_) | (with_reducible refine ⟨_, fun _ _ => rfl, hK _ ?_⟩)); clear hK K
    refine wpQuiet_step (fun K hK => ?_); go_simp; (first | (with_reducible refine hK _ ?_) | (with_reducible refine ⟨_, fun _ _ => rfl, hK _ ?_⟩)); clear hK K
    refine wpQuiet_nil ?_
    intro w1 hb1
    go_wp2_with fail
    go_ret
    exact ⟨rfl, HA.out.trans (hb1.mono HA.out.size)⟩
instance (l : List St) : Decidable (Even l) := inferInstanceAs (Decidable (∀ x ∈ l, x.R ∧ ∀ y ∈ l, x.d = y.d))
theorem even_any (z : St) (ts : List St) : (!(z :: ts).any fun x => !decide x.R || x.d != z.d) = decide (Even (z :: ts)) := by
  rw [Bool.eq_iff_iff, Bool.not_eq_true', List.any_eq_false, decide_eq_true_iff]
  simp only [Bool.or_eq_true, Bool.not_eq_true', decide_eq_false_iff_not, bne_iff_ne, ne_eq, not_or, Decidable.not_not]
  constructor
  · intro h x hx
    exact ⟨(h x hx).1, fun y hy => (h x hx).2.trans (h y hy).2.symm⟩
  · intro h x hx
    exact ⟨(h x hx).1, (h x hx).2 z List.mem_cons_self⟩
theorem alike_any (A : Option Addr) (ts : List St) (c : Nat) (w : World) (hT : Ts w A ts) (hn : ts.length ≤ 5000000) :
    Calls Tryz.prog 51 #[.slice A ts.length c] w fun e w' => e = .returned (.bool (decide (Even ts))) ∧ Below w.heap.size w w' := by
  obtain ⟨v, hv, hc⟩ : ∃ v, (!v) = decide (Even ts) ∧ Calls Tryz.prog 57 #[.slice A ts.length c, .func (.func 105) #[] #[.pointer (some ⟨w.heap.size, 0, none⟩)]] (w.alloc (.cells #[.slice A ts.length c] 51)) fun e w' => e = .returned (.bool v) ∧ Below (w.alloc (.cells #[.slice A ts.length c] 51)).heap.size (w.alloc (.cells #[.slice A ts.length c] 51)) w' := by
    have hb := (Below.refl w.heap.size w).alloc (Nat.le_refl _) (.cells #[.slice A ts.length c] 51)
    cases ts with
    | nil => exact ⟨false, (decide_eq_true (fun x hx => absurd hx (by simp))).symm, containsFunc_any A [] c 105 _ (fun _ => false) _ (hT.below hb) hn (enters_of Tryz.func105 (by kernel_rfl) rfl) (fun h => absurd h (by simp))⟩
    | cons z ts => exact ⟨_, even_any z ts, containsFunc_any A (z :: ts) c 105 _ _ _ (hT.below hb) hn (enters_of Tryz.func105 (by kernel_rfl) rfl) (fun _ => alikeC _ A z ts c _ (BoxAt.made w _ _) (hT.below hb))⟩
  rw [← hv]
  have HC := Lib.hid hc; clear hc hT hv
  go_enter Tryz.func51, Tryz.ntmps51
  go_wp2_with fail
  refine (HC.out).mono ?_; rintro e w1 ⟨rfl, hb1⟩
  have HB1 := Lib.hid hb1; clear hb1
  go_wp2_with fail
  go_ret
  exact ⟨rfl, ((Below.refl _ _).alloc (Nat.le_refl _) _).trans (HB1.out.mono (by simp))⟩
end

section
open Go.ChangeShapes Go.WideShapes Go.ChangeAt Go.RowKit Go.BigFrame
set_option maxRecDepth 100000
def Rises (ts : List St) : Prop := ∀ (j : Nat) (t u : St), ts[j]? = some t → ts[j + 1]? = some u → ¬ u.C t < 0
noncomputable instance (ts : List St) : Decidable (Rises ts) := Classical.propDecidable _
end

section
open Go.ChangeShapes Go.WideShapes Go.ChangeAt Go.RowKit Go.BigFrame
set_option maxRecDepth 100000
noncomputable instance (ts : List St) : Decidable (Fr ts) := Classical.propDecidable _
theorem L_C (t u : St) (h : t.L u) : ¬ u.C t < 0 := by
  have h1 := St.L_C h
  have h2 := St.C_swap (a := t) (b := u)
  omega
end

section
open Go.ChangeShapes Go.WideShapes Go.ChangeAt Go.RowKit Go.BigFrame
set_option maxRecDepth 100000
noncomputable instance (a b : List St) : Decidable (Alike a b) := Classical.propDecidable _
end

section
open Go.ChangeShapes Go.WideShapes Go.ChangeAt Go.RowKit Go.BigFrame
set_option maxRecDepth 100000
end

section
set_option maxRecDepth 100000
section
variable {a b c f g l m : List St} {s t x y z : St}
/-! in whatever order -/
/-! with a time more -/
end
end

section
open Go.ChangeShapes Go.WideShapes Go.ChangeAt Go.RowKit Go.BigFrame
set_option maxRecDepth 100000
instance (l : List St) (t : St) : Decidable (Up l t) := inferInstanceAs (Decidable (∃ x ∈ l, x.L t))
def Inside (f : List St) (t : St) : Prop := Alike f [t] ∧ ¬ Up f t
noncomputable instance (f : List St) (t : St) : Decidable (Inside f t) := Classical.propDecidable _
def Under (a b : List St) : Prop := Alike a b ∧ In a b
noncomputable instance (a b : List St) : Decidable (Under a b) := Classical.propDecidable _
end

section
open Go.ChangeShapes Go.WideShapes Go.ChangeAt Go.RowKit Go.BigFrame
set_option maxRecDepth 100000
section
variable {l ts : List St} {t x z p : St}
end
end

section
open Go.ChangeShapes Go.WideShapes Go.ChangeAt Go.RowKit Go.BigFrame
set_option maxRecDepth 100000
section
variable {ts : List St} {t x : St}
end
end

section
open Go.ChangeShapes Go.WideShapes Go.ChangeAt Go.RowKit Go.BigFrame Go.Shelf
set_option maxRecDepth 100000
abbrev RSt := { t : St // t.R }
def encS (x : RSt) : Array Value := #[x.1.val]
def raw (l : List RSt) : List St := l.map (·.1)
theorem raw_length (l : List RSt) : (raw l).length = l.length := by simp [raw]
theorem raw_get (l : List RSt) (k : Nat) (t : RSt) (h : l[k]? = some t) : (raw l)[k]? = some t.1 := by simp [raw, h]
theorem pre_of {α : Type} {xs : List α} {k : Nat} {t : α} (h : xs[k]? = some t) : xs.take k ++ [t] <+: xs := by
  have e : xs.take (k + 1) = xs.take k ++ [t] := by rw [List.take_add_one, h]; rfl
  rw [← e]; exact List.take_prefix _ _
def Keep (n : Nat) (W W' : World) : Prop := Below n W W' ∧ ∀ (b : Nat) (o : Obj), W.heap[b]? = some o → o.isCells = true → W'.heap[b]? = some o
theorem keep_t {n : Nat} {A B C : World} (h : Keep n A B) (k : Keep n B C) : Keep n A C := ⟨h.1.trans k.1, fun b o ho hc => k.2 b o (h.2 b o ho hc) hc⟩
theorem keep_b {n : Nat} {w : World} (hn : n ≤ w.heap.size) (W : World) (l : Nat) (o o' : Obj) (hl : w.heap.size ≤ l) (ho : W.heap[l]? = some o) (hc : o.isCells = false) (hw : o.isWalk = false) : Keep n W (W.putObj l o') :=
  ⟨(belowK_b (w := w) hn) W l o o' hl ho hc hw, fun b p hp hpc => by
    by_cases e : b = l
    · subst e; rw [ho] at hp; cases hp; rw [hc] at hpc; cases hpc
    · exact (World.putObj_heap_other e).trans hp⟩
theorem frGrown_below {w w' : World} (hb : Below w.heap.size w w') : w.grownBy w' none := ⟨hb.os, hb.tape, hb.output, hb.size, fun k hk _ => hb.block k hk⟩
theorem values_any (a : Option Addr) (n c : Nat) (w : World) :
    Calls Tryz.prog 98 #[.slice a n c] w fun e w' => e = .returned (.func (.func 139) #[] #[.pointer (some ⟨w.heap.size, 0, none⟩)]) ∧ w' = w.alloc (.cells #[.slice a n c] 51) := by
  go_enter Tryz.func98, Tryz.ntmps98
  go_wp2_with fail
  go_ret
  exact ⟨rfl, rfl⟩
set_option maxRecDepth 100000 in
set_option maxHeartbeats 1000000 in
theorem valuesC (n : Nat) (hn : 1 ≤ n) (Bs : Nat) (A : Option Addr) (xs : List RSt) (hl : xs.length ≤ 5000000) (c : Nat) (w : World) (hB : BoxAt w Bs (.slice A xs.length c)) (hT : Ts w A (raw xs)) :
    SeqStopsK Fence.wide n Tryz.prog 139 #[.pointer (some ⟨Bs, 0, none⟩)] encS (Keep w.heap.size) (fun ys => ys = xs) (fun pre => pre <+: xs) xs.length w := fun l J Jx W hW hJ _ hY h0 => by
  have hBW := (hB.below hW).2
  have HT := Lib.hid hT; have HLE := Lib.hid hW.size; have HJ := Lib.hid hJ
  clear hB hT hJ
  have HW := Lib.hid hW; clear hW
  refine callsIn_of_wp Tryz.func139 rfl trivial ?_ rfl
  simp only [Tryz.ntmps139, List.size_toArray, List.length_cons, List.length_nil, Nat.reduceAdd, Nat.reduceSub, Array.replicate_succ, Array.replicate_zero, List.push_toArray, List.append_toArray, List.nil_append, List.cons_append]
  gi_wp2
  gi_loopw [7] (fun i wr => ∃ k : Nat, k ≤ xs.length ∧ i = .int .i64 k ∧ J (xs.take k) wr ∧ Below w.heap.size W wr) (fun i _ => xs.length - (intOf i).toNat)
  case atStart => exact ⟨0, Nat.zero_le _, rfl, h0, Below.refl _ _⟩
  case round =>
    obtain ⟨k, hk, rfl, hJs, hbel⟩ := hrel
    by_cases hlt : k < xs.length
    · obtain ⟨t, ht⟩ : ∃ t, xs[k]? = some t := ⟨_, List.getElem?_eq_getElem hlt⟩
      have hsz := hbel.size
      have hJ2 : J (xs.take k) (wr.alloc (.cells #[.int .i64 t.1.d, .int .i64 t.1.e, .int .i64 t.1.x, .int .i64 t.1.y, .int .i64 t.1.z] 49)) := HJ.out _ _ _ none hJs (World.grownBy_alloc _ _ none) (fun r e => by cases e)
      obtain ⟨fn, tmps, assign, body, hy, hR⟩ := hY _ t _ hJ2 (by rw [List.length_take]; omega)
      dsimp only [encS] at hy
      unfold St.val at hy
      have hb2 : Below w.heap.size W (wr.alloc (.cells #[.int .i64 t.1.d, .int .i64 t.1.e, .int .i64 t.1.x, .int .i64 t.1.y, .int .i64 t.1.z] 49)) := hbel.alloc (Nat.le_trans HLE.out hsz) _
      obtain ⟨b, o, rfl, hbl, h5⟩ := (HT.out).five (raw_get xs k t ht)
      obtain ⟨c0, c1, c2, c3, c4⟩ := h5 wr (HW.out.trans hbel)
      have HBL := Lib.hid hbel; have HB2 := Lib.hid hb2; have HTT := Lib.hid ht
      clear h5 hbl hbel hb2 ht h0
      gi_wp2
      refine hR.mono ?_
      rintro e W3 (⟨rfl, hJ3, hk3⟩ | ⟨rfl, hJx3⟩)
      · have HB3 := Lib.hid (HB2.out.trans hk3.1)
        clear hk3
        gi_wp2
        go_roundw
        case rel => exact ⟨k + 1, by omega, by simp, by rw [List.take_add_one, HTT.out]; exact hJ3, HB3.out⟩
        case measure => simp only [intOf]; omega
      · gi_wp2
        refine bodyPost_ret (results_none rfl _ _ _) rfl ?_
        exact ⟨⟨_, rfl⟩, .inr ⟨_, pre_of HTT.out, hJx3⟩⟩
    · have hk' : k = xs.length := by omega
      subst hk'
      have hJ' : J xs wr := by rwa [List.take_length] at hJs
      clear hJs
      gi_wp2
      go_end0
      exact ⟨⟨_, rfl⟩, .inl ⟨_, rfl, hJ'⟩⟩
structure Pairs (a b : List St) (zs : List RSt) : Prop where
  len : zs.length = a.length * b.length
  at_ : ∀ (k j : Nat) (x y : St), a[k]? = some x → b[j]? = some y → ∃ z : RSt, zs[k * b.length + j]? = some z ∧ z.1 = x.join y ∧ x.B y
end

section
open Go.ChangeShapes Go.WideShapes Go.ChangeAt Go.RowKit Go.BigFrame Go.Shelf
open Go.Maps (Keyed)
open Go.WideElems (Fit rd rg rd_key rd_val rg_of)
open Go.ChangeMaps (notKey putKey)
set_option maxRecDepth 100000
@[reducible] def St.key (t : St) : Value := .agg #[.int .i64 t.x, .int .i64 t.y, .int .i64 t.z]
def dat (t : St) : DataW Unit := .agg [.lit (.int .i64 t.d), .lit (.int .i64 t.e), .lit (.int .i64 t.x), .lit (.int .i64 t.y), .lit (.int .i64 t.z)]
theorem val_inj {s t : St} (h : s.val = t.val) : s = t := by
  simp only [St.val, Value.agg.injEq, Array.mk.injEq, List.cons.injEq, Value.int.injEq, true_and, and_true] at h
  exact St.ext' h.1 h.2.1 h.2.2.1 h.2.2.2.1 h.2.2.2.2
open Classical in
noncomputable def elS (v : Value) : Option (DataW Unit × List MemPlace) := if h : ∃ t : St, v = t.val then some (dat h.choose, []) else none
theorem elS_val (t : St) : elS t.val = some (dat t, []) := by
  have h : ∃ s : St, t.val = s.val := ⟨t, rfl⟩
  unfold elS
  rw [dif_pos h, ← val_inj h.choose_spec]
theorem elS_inv {v : Value} {y : DataW Unit × List MemPlace} (h : elS v = some y) : ∃ t : St, v = t.val ∧ y = (dat t, []) := by
  unfold elS at h
  split at h
  · rename_i hx
    cases h
    exact ⟨_, hx.choose_spec, rfl⟩
  · cases h
theorem dat_inj {s t : St} (h : dat s = dat t) : s = t := by
  unfold dat at h
  simp at h
  exact St.ext' h.1 h.2.1 h.2.2.1 h.2.2.2.1 h.2.2.2.2
theorem key_inj {s t : St} : s.key = t.key ↔ s.x = t.x ∧ s.y = t.y ∧ s.z = t.z := by simp [St.key]
theorem keyed3 : Keyed Tryz.prog 42 := Keyed.of_law (deep_law_laid progLaid (m := 5) (by decide) (of_decide_eq_true (by kernel_rfl)) (by kernel_rfl) (by kernel_rfl))
theorem wf_of {n : Int} (h1 : 0 ≤ n) (h2 : n < 16) : (Lit.int .i64 n).wf = true := by
  simp [Lit.wf, IntKind.min, IntKind.max, IntKind.signed, IntKind.bits]; omega
theorem keyLits3 (d : Nat) {x y z : Int} (hx : (Lit.int .i64 x).wf = true) (hy : (Lit.int .i64 y).wf = true) (hz : (Lit.int .i64 z).wf = true) :
    Tryz.prog.keyLits (d + 2) 42 [.int .i64 x, .int .i64 y, .int .i64 z] = some [.int .i64 x, .int .i64 y, .int .i64 z] := by
  simp [Program.keyLits, Tryz.underlying42, Tryz.underlying3, cells_arr, stCells_int, List.range_succ, hx, hy, hz]
theorem keyOf_some {t : St} (h : t.R) : ∃ l, keyOf Tryz.prog 42 t.key = some l := by
  have h0 : decide (0 < Tryz.prog.types.size) = true := by kernel_rfl
  have h0 := of_decide_eq_true h0
  obtain ⟨m, hm⟩ : ∃ m, Tryz.prog.types.size = m + 1 := ⟨Tryz.prog.types.size - 1, by omega⟩
  have hk : Tryz.prog.keyType 42 = true := by kernel_rfl
  unfold St.R at h
  unfold keyOf
  rw [Tryz.underlying42, hm]
  simp [hk, Value.formed, Tryz.underlying42, cells_arr, St.key, Value.cells]
  rw [keyLits3 m (wf_of (by omega) (by omega)) (wf_of (by omega) (by omega)) (wf_of (by omega) (by omega))]
  exact ⟨_, _, rfl, rfl⟩
noncomputable def kl (t : St) : Lit := (keyOf Tryz.prog 42 t.key).getD (.bool false)
theorem keyOf_kl {t : St} (h : t.R) : keyOf Tryz.prog 42 t.key = some (kl t) := by
  obtain ⟨l, hl⟩ := keyOf_some h
  unfold kl; rw [hl]; rfl
theorem kl_inj {s t : St} (hs : s.R) (ht : t.R) (h : kl s = kl t) : s.key = t.key := keyed3.inj (keyOf_kl hs) (by rw [h]; exact keyOf_kl ht)
theorem kl_key {s t : St} (h : s.key = t.key) : kl s = kl t := by unfold kl; rw [h]
noncomputable def ent (t : St) : Lit × DataW Unit := (kl t, dat t)
def MapS (w : World) (b n : Nat) (E : List St) : Prop :=
  (∃ L, w.ownsMap Tryz.prog 42 elS b n (.map L) ∧ L.Perm (E.map ent)) ∧ (∀ t ∈ E, t.R) ∧ E.Pairwise fun s t => s.key ≠ t.key
def putS (t : St) (E : List St) : List St := t :: E.filter fun u => decide (¬ (u.x = t.x ∧ u.y = t.y ∧ u.z = t.z))
section
variable {w w' : World} {b n : Nat} {E : List St} {row : Option Nat}
theorem MapS.made (w : World) : MapS (w.alloc (.map #[] 0)) w.heap.size 0 [] := ⟨⟨[], World.ownsMap_made _ _ _ _, .refl _⟩, by simp, List.Pairwise.nil⟩
theorem MapS.kept (h : MapS w b n E) (hg : w.grownBy w' row) (hne : some b ≠ row) : MapS w' b n E := by
  obtain ⟨⟨L, h1, h2⟩, h3⟩ := h
  exact ⟨⟨L, h1.kept hg hne, h2⟩, h3⟩
theorem MapS.lt (h : MapS w b n E) : b < w.heap.size := by
  obtain ⟨⟨L, h1, h2⟩, h3⟩ := h
  exact h1.lt
theorem MapS.alloc (h : MapS w b n E) (o : Obj) : MapS (w.alloc o) b n E := h.kept (World.grownBy_alloc w o none) (by simp)
theorem MapS.look (h : MapS w b n E) {t : St} (ht : t.R) :
    ((Instr.lookup 192 (.map (some b)) t.key true).run Tryz.prog w = .ok (.tuple #[St.zero.val, .bool false]) w ∧ ∀ u ∈ E, u.key ≠ t.key) ∨
    ∃ u ∈ E, u.key = t.key ∧ (Instr.lookup 192 (.map (some b)) t.key true).run Tryz.prog w = .ok (.tuple #[u.val, .bool true]) w := by
  obtain ⟨⟨L, ⟨es, clock, hb, F, _, hD⟩, hp⟩, hR, _⟩ := h
  have hL : L = (es.toList.map (rg Tryz.prog 42 elS)).foldr DataW.insert [] := by injection hD
  have hpe : (es.toList.map (rg Tryz.prog 42 elS)).Perm (E.map ent) := ((sorted_perm _).symm.trans (by rw [← hL])).trans hp
  have hz : (zeroValue 49).run Tryz.prog w = .ok St.zero.val w := Tryz.zeroValue49 w
  rcases Go.Maps.fit_look true keyed3 Tryz.underlying192 hz hb F (keyOf_kl ht) with ⟨hrun, hno, _⟩ | ⟨e0, y, hm, hk, hrun, hR0, _, _⟩
  · refine .inl ⟨hrun, fun u hu hk => ?_⟩
    have : ent u ∈ es.toList.map (rg Tryz.prog 42 elS) := hpe.mem_iff.2 (List.mem_map_of_mem hu)
    obtain ⟨x, hx, he⟩ := List.mem_map.1 this
    obtain ⟨y, hy⟩ := F.reads x hx
    rw [rg_of hy] at he
    subst he
    refine hno x hx ?_
    rw [← hk]
    exact keyed3.inj (rd_key hy) (keyOf_kl (hR u hu))
  · obtain ⟨u, hu, rfl⟩ := elS_inv hR0
    refine .inr ⟨u, ?_, ?_, by rw [hu] at hrun; exact hrun⟩
    all_goals
      obtain ⟨y, hy⟩ := F.reads e0 hm
      have h1 := rd_key hy
      obtain ⟨z, h2, h3⟩ := rd_val hy
      rw [hR0] at h2; cases h2
      have : y ∈ E.map ent := hpe.mem_iff.1 (List.mem_map.2 ⟨e0, hm, rg_of hy⟩)
      obtain ⟨u', hu', e⟩ := List.mem_map.1 this
      have h3' : y.2 = dat u := h3
      have hd : dat u' = dat u := by rw [← h3', ← e]; rfl
      have := dat_inj hd
      subst this
    · exact hu'
    · have h4 : y.1 = kl u' := by rw [← e]; rfl
      rw [hk] at h1
      exact keyed3.inj (keyOf_kl (hR u' hu')) (by rw [h1, h4])
theorem MapS.store (h : MapS w b n E) (hn : n < maxLen) {t : St} (ht : t.R) :
    ∃ w', (Instr.mapUpdate 192 (.map (some b)) t.key t.val).run Tryz.prog w = .ok () w' ∧ MapS w' b (n + 1) (putS t E) ∧ w.grownBy w' (some b) := by
  obtain ⟨⟨L, h1, hp⟩, hR, hd⟩ := h
  obtain ⟨w', hrun, h2, hg⟩ := h1.update keyed3 Tryz.underlying192 hn (keyOf_kl ht) (elS_val t)
  rw [DataW.put_eq] at h2
  refine ⟨w', hrun, ⟨⟨_, h2, ?_⟩, ?_, ?_⟩, hg⟩
  · unfold putKey putS
    refine (insert_perm _ _).trans ?_
    rw [List.map_cons]
    refine List.Perm.cons _ ?_
    refine (hp.filter _).trans ?_
    rw [List.filter_map]
    have : (notKey (kl t) ∘ ent) = fun u => notKey (kl t) (ent u) := rfl
    rw [this]
    refine List.Perm.of_eq ?_
    congr 1
    refine List.filter_congr fun u hu => ?_
    rw [Bool.eq_iff_iff, decide_eq_true_iff, Go.Maps.notKey_iff (keyed3.key (keyOf_kl ht))]
    rw [← key_inj]
    constructor
    · intro h e; exact h (kl_key e)
    · intro h e; exact h (kl_inj (hR u hu) ht e)
  · intro u hu
    rcases List.mem_cons.1 hu with rfl | hu
    · exact ht
    · exact hR u (List.mem_filter.1 hu).1
  · refine List.pairwise_cons.2 ⟨fun u hu => ?_, hd.filter _⟩
    have := (List.mem_filter.1 hu).2
    rw [decide_eq_true_iff, ← key_inj] at this
    exact fun e => this e.symm
end
end

section
open Go.ChangeShapes Go.WideShapes Go.ChangeAt Go.RowKit Go.BigFrame Go.Shelf
set_option maxRecDepth 100000
attribute [local go_sem] Oper.semAt_some
structure Ear (xs E : List St) : Prop where
  sub : ∀ e ∈ E, e ∈ xs
  all : ∀ t ∈ xs, ∃ e ∈ E, e.key = t.key ∧ e.e ≤ t.e
section
variable {xs E : List St} {x u : St}
theorem mem_putS : u ∈ putS x E ↔ u = x ∨ u ∈ E ∧ u.key ≠ x.key := by
  unfold putS
  rw [List.mem_cons, List.mem_filter, decide_eq_true_iff, ← key_inj]
theorem Ear.put (h : Ear xs E) (hl : ∀ u ∈ E, u.key = x.key → x.e ≤ u.e) : Ear (xs ++ [x]) (putS x E) := by
  refine ⟨fun e he => ?_, fun t ht => ?_⟩
  · rcases mem_putS.1 he with rfl | ⟨he, _⟩
    · simp
    · exact List.mem_append_left _ (h.sub e he)
  · rcases List.mem_append.1 ht with ht | ht
    · obtain ⟨e, he, hk, hle⟩ := h.all t ht
      by_cases hx : e.key = x.key
      · exact ⟨x, mem_putS.2 (.inl rfl), hx.symm.trans hk, Int.le_trans (hl e he hx) hle⟩
      · exact ⟨e, mem_putS.2 (.inr ⟨he, hx⟩), hk, hle⟩
    · have : t = x := by simpa using ht
      subst this
      exact ⟨t, mem_putS.2 (.inl rfl), rfl, Int.le_refl _⟩
theorem Ear.stay (h : Ear xs E) (hu : u ∈ E) (hk : u.key = x.key) (hl : u.e ≤ x.e) : Ear (xs ++ [x]) E := by
  refine ⟨fun e he => List.mem_append_left _ (h.sub e he), fun t ht => ?_⟩
  rcases List.mem_append.1 ht with ht | ht
  · exact h.all t ht
  · have : t = x := by simpa using ht
    subst this
    exact ⟨u, hu, hk, hl⟩
theorem Keep.alloc {n : Nat} {A B : World} (h : Keep n A B) (hn : n ≤ B.heap.size) (o : Obj) : Keep n A (B.alloc o) :=
  ⟨h.1.alloc hn o, fun b p hp hc => (Below.heap_alloc B o b (Array.getElem?_eq_some_iff.1 (h.2 b p hp hc)).1).trans (h.2 b p hp hc)⟩
theorem Keep.refl (n : Nat) (A : World) : Keep n A A := ⟨Below.refl _ _, fun b p hp _ => hp⟩
theorem MapS.isMap {w : World} {b n : Nat} (h : MapS w b n E) : ∃ es c, w.heap[b]? = some (.map es c) := by
  obtain ⟨⟨L, ⟨es, clock, hb, _⟩, _⟩, _⟩ := h
  exact ⟨es, clock, hb⟩
theorem MapS.mono {w : World} {b n m : Nat} (h : MapS w b n E) (hm : n ≤ m) : MapS w b m E := by
  obtain ⟨⟨L, h1, h2⟩, h3⟩ := h
  exact ⟨⟨L, h1.mono hm, h2⟩, h3⟩
theorem Keep.grown {n b m : Nat} {A B C : World} (h : Keep n A B) (hM : MapS B b m E) (hg : B.grownBy C (some b)) (hn : n ≤ b) : Keep n A C :=
  ⟨h.1.grown hg (Nat.le_trans hn (Nat.le_of_lt hM.lt)) (fun k e => by cases e; exact hn), fun k p hp hc => by
    have h1 := h.2 k p hp hc
    by_cases e : k = b
    · subst e
      obtain ⟨es, c, hm⟩ := hM.isMap
      rw [h1] at hm; cases hm; cases hc
    · exact (hg.block k (Array.getElem?_eq_some_iff.1 h1).1 (fun h => e (by cases h; rfl))).trans h1⟩
end
theorem key_one : ∀ {E : List St} {u v : St}, E.Pairwise (fun s t => s.key ≠ t.key) → u ∈ E → v ∈ E → u.key = v.key → u = v
  | [], _, _, _, h, _, _ => by cases h
  | x :: E, u, v, hp, hu, hv, hk => by
    obtain ⟨h1, h2⟩ := List.pairwise_cons.1 hp
    rcases List.mem_cons.1 hu with e1 | k1 <;> rcases List.mem_cons.1 hv with e2 | k2
    · rw [e1, e2]
    · rw [e1] at hk; exact absurd hk (h1 v k2)
    · rw [e2] at hk; exact absurd hk.symm (h1 u k1)
    · exact key_one h2 k1 k2 hk
theorem putS_len {E : List St} {t : St} : (putS t E).length ≤ E.length + 1 := by
  unfold putS
  rw [List.length_cons]
  have := List.length_filter_le (fun u : St => decide (¬ (u.x = t.x ∧ u.y = t.y ∧ u.z = t.z))) E
  omega
def EarI (w : World) (pre : List RSt) (W : World) : Prop := ∃ E, Boxed W (w.heap.size + 1) 192 (.map (some w.heap.size)) ∧ MapS W w.heap.size pre.length E ∧ Ear (raw pre) E ∧ E.length ≤ pre.length
set_option maxRecDepth 100000 in
set_option maxHeartbeats 4000000 in
theorem earliest_any (g n₀ N : Nat) (lb : Array Value) (S Sp : List RSt → Prop) (hN : N ≤ 5000000) (w0 w : World) (hb0 : Below w0.heap.size w0 w) (hn₀ : n₀ ≤ w0.heap.size) (eg : ∀ args w, (callFunc g args).run Tryz.prog w = .ok (.enter g args) w)
    (hS : ∀ xs, S xs → xs.length ≤ 5000000) (hseq : ∀ n, 1 ≤ n → SeqStopsK Fence.wide n Tryz.prog g lb encS (Keep n₀) S Sp N w0) :
    Calls Tryz.prog 138 #[.func (.func g) #[] lb] w fun e W' => e = .returned (.map (some w.heap.size)) ∧ (∃ xs E m, S xs ∧ MapS W' w.heap.size m E ∧ Ear (raw xs) E ∧ E.length ≤ 5000000) ∧ Below w.heap.size w W' := by
  refine (callsIn_wide (n := 5)).1 ?_
  have hmm := @run_makeMap Tryz.prog
  refine callsIn_of_wp_marks Tryz.func138 rfl trivial ?_ rfl
  simp only [Tryz.ntmps138, List.size_toArray, List.length_cons, List.length_nil, Nat.reduceAdd, Nat.reduceSub, Array.replicate_succ, Array.replicate_zero, List.push_toArray, List.append_toArray, List.nil_append, List.cons_append]
  gi_wp2
  have hsz : ((w.alloc (.map #[] 0)).alloc (.cells #[.map (some w.heap.size)] 192)).heap.size = w.heap.size + 2 := by simp
  have bM := Boxed.new (w.alloc (.map #[] 0)) 192 (.map (some w.heap.size))
  rw [size_alloc] at bM
  have hM := (MapS.made w).alloc (.cells #[.map (some w.heap.size)] 192)
  have hB0 : Below w.heap.size w ((w.alloc (.map #[] 0)).alloc (.cells #[.map (some w.heap.size)] 192)) := ((Below.refl _ w).alloc (Nat.le_refl _) _).alloc (by simp) _
  have hK0 : Below w0.heap.size w0 ((w.alloc (.map #[] 0)).alloc (.cells #[.map (some w.heap.size)] 192)) := (hb0.alloc hb0.size _).alloc (by have := hb0.size; simp; omega) _
  have hws := hb0.size
  obtain ⟨W0, hW0⟩ : ∃ W0, (w.alloc (.map #[] 0)).alloc (.cells #[.map (some w.heap.size)] 192) = W0 := ⟨_, rfl⟩
  rw [hW0] at hsz bM hM hB0 hK0 ⊢
  clear hW0 hb0
  refine wpIn_rangeFunc_ownH rfl (by omega) (gf := g) (lb := lb) rfl trivial eg (hseq 4 (by omega)) keep_t (keep_b (by omega)) hK0 (fun _ => rfl)
    (fun pre W => EarI w pre W ∧ Below w.heap.size w W)
    (fun _ _ _ => False)
    (OwnFrom.and (fun s X Y row hs hg hr => by
      obtain ⟨E, h1, h2, h3⟩ := hs
      exact ⟨E, boxed_own _ _ (fun (_ : Unit) => Value.map (some w.heap.size)) () X Y row h1 hg (fun r e => (hr r e).2), h2.kept hg (fun e => by have := (hr _ e.symm).1; omega), h3⟩) (ownFrom_below (Nat.le_refl _) (by omega)))
    (fun _ _ _ _ _ hs _ _ => hs)
    ⟨⟨[], bM, hM, ⟨by simp, by simp [raw]⟩, by simp⟩, hB0⟩
    (fun x a' W => ∃ Bx, w.heap.size + 1 < Bx ∧ Holds W Bx x.1 ∧ a' = { tmps := #[.func (.func g) #[] lb, undef, .map none, .pointer (some ⟨w.heap.size + 1, 0, none⟩), .pointer (some ⟨Bx, 0, none⟩), undef, undef, .map (some w.heap.size), .func (.func g) #[] lb, .agg #[.int .i64 x.1.d, .int .i64 x.1.e, .int .i64 x.1.x, .int .i64 x.1.y, .int .i64 x.1.z], undef, undef, undef, undef, undef, undef, undef, undef, undef, undef, undef, undef, undef, undef, undef, undef, undef, undef, undef, undef, undef], defers := [] })
    (fun x a' _ X Y row hs hg hr => by
      obtain ⟨Bx, h1, h2, h3⟩ := hs
      refine ⟨Bx, h1, Row.grown h2 hg (fun e => ?_), h3⟩
      obtain ⟨_, o, ho, hc⟩ := hr Bx e.symm
      have h4 : X.heap[Bx]? = _ := h2
      rw [h4] at ho; cases ho; cases hc)
    ?assign ?body ?done ?stop
  case assign =>
    rintro l pre x W K ⟨⟨E, bM1, hM1, hE⟩, hB1⟩ hK
    clear hmm
    dsimp only [encS] at *
    unfold St.val at *
    gi_wp2
    exact hK _ _ ((KeepsOthers.alloc _ _).from _) ((Keep.refl _ W).alloc (by have := hB1.size; omega) _) ⟨⟨E, bM1.alloc _, hM1.alloc _, hE⟩, hB1.alloc hB1.size _⟩ ⟨W.heap.size, bM1.lt, Holds.made W x.1, rfl⟩
  case body =>
    rintro l pre x a' W hl ⟨r, hr⟩ ⟨⟨E, bM1, hM1, hE, hEl⟩, hB1⟩ ⟨Bx, hBx, bX, rfl⟩ hlt
    have hsW := hB1.size
    have hnW : n₀ ≤ W.heap.size := by omega
    have cM := bM1.cell
    have hBl := bX.lt
    have hml := bM1.lt
    obtain ⟨c0, c1, c2, c3, c4⟩ := bX.cells5
    have hlen : (raw (pre ++ [x])) = raw pre ++ [x.1] := by simp [raw]
    rcases hM1.look x.2 with ⟨hrun, hno⟩ | ⟨u, hu, hk, hrun⟩
    · obtain ⟨w1, hst, hM2, hg⟩ := (hM1.alloc (.cells #[.int .i64 0, .int .i64 0, .int .i64 0, .int .i64 0, .int .i64 0] 49)).store (by unfold maxLen; omega) x.2
      unfold St.key St.zero St.val at *
      have HM1 := Lib.hid hM1; have HM2 := Lib.hid hM2; have HG := Lib.hid hg; have HE := Lib.hid (And.intro hE hEl); have HNO := Lib.hid hno; have HBM := Lib.hid bM1; have HB1 := Lib.hid hB1
      clear hM1 hM2 hg hE hEl hno bM1 bX hB1 hmm hr hseq eg hB0 hK0
      gi_wp2
      have hW1 : KeepsFrom (w.heap.size + 2) W (W.alloc (.cells #[.int .i64 0, .int .i64 0, .int .i64 0, .int .i64 0, .int .i64 0] 49)) := (KeepsOthers.alloc _ _).from _
      have hW2 := (Keep.refl n₀ W).alloc hnW (.cells #[.int .i64 0, .int .i64 0, .int .i64 0, .int .i64 0, .int .i64 0] 49)
      refine ⟨by first | exact hW1.trans (KeepsFrom.of_grownBy HG.out (fun j e => by cases e; omega)) | (rw [hsz]; exact hW1.trans (KeepsFrom.of_grownBy HG.out (fun j e => by cases e; omega))), hW2.grown (HM1.out.alloc _) HG.out (by omega), ⟨⟨_, (HBM.out.alloc _).kept HG.out (by simp), by rw [List.length_append]; exact HM2.out, ?_, ?_⟩, (HB1.out.alloc hsW _).grown HG.out (by simp; omega) (fun k e => by cases e; exact Nat.le_refl _)⟩⟩
      · rw [hlen]
        exact HE.out.1.put fun v hv hk => absurd hk (HNO.out v hv)
      · rw [List.length_append]
        have := putS_len (t := x.1) (E := E)
        have := HE.out.2
        simp; omega
    · by_cases hlt2 : x.1.e < u.e
      · obtain ⟨w1, hst, hM2, hg⟩ := (hM1.alloc (.cells #[.int .i64 u.d, .int .i64 u.e, .int .i64 u.x, .int .i64 u.y, .int .i64 u.z] 49)).store (by unfold maxLen; omega) x.2
        have hd := hM1.2.2
        unfold St.key St.val at *
        have HM1 := Lib.hid hM1; have HM2 := Lib.hid hM2; have HG := Lib.hid hg; have HE := Lib.hid (And.intro hE hEl); have HD := Lib.hid (And.intro hd (And.intro hu hk)); have HBM := Lib.hid bM1; have HB1 := Lib.hid hB1
        clear hM1 hM2 hg hE hEl hd hu hk bM1 bX hB1 hmm hr hseq eg hB0 hK0
        gi_wp2
        have hW1 : KeepsFrom (w.heap.size + 2) W (W.alloc (.cells #[.int .i64 u.d, .int .i64 u.e, .int .i64 u.x, .int .i64 u.y, .int .i64 u.z] 49)) := (KeepsOthers.alloc _ _).from _
        have hW2 := (Keep.refl n₀ W).alloc hnW (.cells #[.int .i64 u.d, .int .i64 u.e, .int .i64 u.x, .int .i64 u.y, .int .i64 u.z] 49)
        refine ⟨by first | exact hW1.trans (KeepsFrom.of_grownBy HG.out (fun j e => by cases e; omega)) | (rw [hsz]; exact hW1.trans (KeepsFrom.of_grownBy HG.out (fun j e => by cases e; omega))), hW2.grown (HM1.out.alloc _) HG.out (by omega), ⟨⟨_, (HBM.out.alloc _).kept HG.out (by simp), by rw [List.length_append]; exact HM2.out, ?_, ?_⟩, (HB1.out.alloc hsW _).grown HG.out (by simp; omega) (fun k e => by cases e; exact Nat.le_refl _)⟩⟩
        · rw [hlen]
          refine HE.out.1.put fun v hv hk => ?_
          obtain ⟨hd, hu, hku⟩ := HD.out
          by_cases e : v = u
          · subst e; omega
          · exfalso
            exact e (key_one (E := E) hd hv hu (show v.key = u.key from hk.trans hku.symm))
        · rw [List.length_append]
          have := putS_len (t := x.1) (E := E)
          have := HE.out.2
          simp; omega
      · unfold St.key St.val at *
        have HM1 := Lib.hid hM1; have HE := Lib.hid (And.intro hE hEl); have HD := Lib.hid (And.intro hu hk); have HBM := Lib.hid bM1; have HB1 := Lib.hid hB1
        clear hM1 hE hEl hu hk bM1 bX hB1 hmm hr hseq eg hB0 hK0
        gi_wp2
        refine ⟨(KeepsOthers.alloc _ _).from _, (Keep.refl n₀ W).alloc hnW _, ⟨⟨E, HBM.out.alloc _, (HM1.out.alloc _).mono (by simp), ?_, ?_⟩, HB1.out.alloc hsW _⟩⟩
        · rw [hlen]; exact HE.out.1.stay HD.out.1 HD.out.2 (by omega)
        · rw [List.length_append]; have := HE.out.2; omega
  case done =>
    rintro D ys W hD hys ⟨⟨E, bM1, hM1, hE, hEl⟩, hB1⟩ hK
    have cM := bM1.cell
    have HM1 := Lib.hid hM1; have HE := Lib.hid hE; have HB1 := Lib.hid hB1; have HK := Lib.hid hK
    clear hM1 hE bM1 hB1 hmm hseq eg hB0 hK0 hK
    gi_wp2
    refine ⟨by simp, .inl ⟨_, _, rfl, run_takeDeferred HK.out, ?_⟩⟩
    have hlD : w.heap.size < D := by omega
    refine ⟨_, results_tmp rfl _ _ _, rfl, ⟨ys, E, _, hys, HM1.out.kept (grownBy_putObj' _ D _) (fun e => by cases e; omega), HE.out, by have := hS _ hys; omega⟩, HB1.out.trans (belowK_b (w := w) (Nat.le_refl _) W D _ _ (by omega) HK.out rfl rfl)⟩
  case stop =>
    rintro D c pre W _ _ h _
    exact h.elim
end
end Go.Proofs.YtmhophmpbpbjaaaGreatDoor
