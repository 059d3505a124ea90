/- FrAlike, FrSorted, FrRight -/
import Derived.Test.YtmhophmpbpbjaaaGreatDoorCa26
namespace Go.Proofs.YtmhophmpbpbjaaaGreatDoor
set_option linter.unusedVariables false
section
open Go.ChangeShapes Go.WideShapes Go.ChangeAt Go.RowKit Go.BigFrame
set_option maxRecDepth 100000
theorem alikeC (B : Nat) (A : Option Addr) (z : St) (ts : List St) (c : Nat) (w : World) (hB : BoxAt w B (.slice A (z :: ts).length c)) (hT : Ts w A (z :: ts)) : Tells 105 #[.pointer (some ⟨B, 0, none⟩)] (fun x => !decide x.R || x.d != z.d) w := by
  intro W x hb
  show Calls _ _ #[x.val, .pointer (some ⟨B, 0, none⟩)] _ (fun e w' => e = .returned (.bool (!decide x.R || x.d != z.d)) ∧ Below W.heap.size W w')
  have hbA := (Below.refl W.heap.size W).alloc (Nat.le_refl _) (.cells #[.int .i64 x.d, .int .i64 x.e, .int .i64 x.x, .int .i64 x.y, .int .i64 x.z] 49)
  have hbox := (hB.below hb).below hbA
  obtain ⟨b, o, rfl, hbl, h0⟩ := ((hT.below hb).below hbA).first
  have hx := Holds.made W x
  by_cases hR : x.R
  · have hr := right_is (decide_eq_true hR) (right_any x)
    have hn : 0 < (z :: ts).length := by simp
    rw [decide_eq_true hR, Bool.not_true, Bool.false_or]
    generalize hv : (x.d != z.d) = v at *
    generalize (z :: ts).length = n at *
    unfold St.val at *
    have HR := Lib.hid hr; have HX := Lib.hid hx; have HBX := Lib.hid hbox; have H0 := Lib.hid (And.intro hbl h0); have HV := Lib.hid hv; have HA := Lib.hid hbA
    clear hr hx hbox hbl h0 hv hbA hB hT hb hR
    go_enter Tryz.func105, Tryz.ntmps105
    go_wp2_with fail
    generalize W.alloc (.cells #[.int .i64 x.d, .int .i64 x.e, .int .i64 x.x, .int .i64 x.y, .int .i64 x.z] 49) = w0 at *
    refine wp_region_below (by kernel_rfl) (by kernel_rfl) ?_
    refine wpQuiet_step (fun K hK => ?_); refine q_load (p := .pointer (some ⟨W.heap.size, 0, none⟩)) 49 _ rfl rfl rfl (load_t HX.out) ?_; go_simp; (with_reducible refine hK _ ?_); clear hK K
    refine wpQuiet_step (fun K hK => ?_); go_simp; (with_reducible refine ⟨_, fun _ hb => (HR.out _).mono fun _ _ h => ⟨h.1, hb.trans (h.2.mono (by simpa using hb.size))⟩, hK _ ?_⟩); clear hK K
    refine wpQuiet_step (fun K hK => ?_); go_simp; (first | (with_reducible refine hK _ ?_) | (with_reducible refine ⟨_, fun _ _ => rfl, hK _ ?_⟩)); clear hK K
    refine wpQuiet_step (fun K hK => ?_); go_simp; (first | (with_reducible refine hK _ ?_) | (with_reducible refine ⟨_, fun _ _ => rfl, hK _ ?_⟩)); clear hK K
    refine wpQuiet_step (fun K hK => ?_); go_simp; (first | (with_reducible refine hK _ ?_) | (with_reducible refine ⟨_, fun _ _ => rfl, hK _ ?_⟩)); clear hK K
    refine wpQuiet_step (fun K hK => ?_); refine q_load (p := .pointer (some ⟨W.heap.size, 0, none⟩)) 3 _ rfl rfl rfl (load_d HX.out) ?_; go_simp; (with_reducible refine hK _ ?_); clear hK K
    refine wpQuiet_step (fun K hK => ?_); refine q_load (p := .pointer (some ⟨B, 0, none⟩)) 51 _ rfl rfl rfl (load_box HBX.out) ?_; go_simp; (with_reducible refine hK _ ?_); clear hK K
    refine wpQuiet_step (fun K hK => ?_); go_simp; (first | (with_reducible refine hK _ ?_) | (with_reducible refine ⟨_, fun _ _ => rfl, hK _ ?_⟩)); clear hK K
    refine wpQuiet_step (fun K hK => ?_); go_simp; (first | (with_reducible refine hK _ ?_) | (with_reducible refine ⟨_, fun _ _ => rfl, hK _ ?_⟩)); clear hK K
    refine wpQuiet_step (fun K hK => ?_); refine q_load (p := .pointer (some ⟨b, o, none⟩)) 3 _ rfl rfl rfl (load_at H0.out.1 H0.out.2) ?_; go_simp; (with_reducible refine hK _ ?_); clear hK K
    refine wpQuiet_step (fun K hK => ?_); refine q_bin _ _ _ _ _ rfl rfl rfl rfl (nei_is HV.out) ?_; go_simp; (with_reducible refine hK _ ?_); clear hK K
    refine wpQuiet_step (fun K hK => ?_); go_simp; (first | (with_reducible refine hK _ ?_) | (with_reducible refine ⟨_, fun _ _ => rfl, hK _ ?_⟩)); clear hK K
    refine wpQuiet_step (fun K hK => ?_); go_simp; (first | (with_reducible refine hK _ ?_) | (with_reducible refine ⟨_, fun _ _ => rfl, hK _ ?_⟩)); clear hK K
    refine wpQuiet_nil ?_
    intro w1 hb1
    go_wp2_with fail
    go_ret
    exact ⟨rfl, HA.out.trans (hb1.mono HA.out.size)⟩
  · have hr := right_is (decide_eq_false hR) (right_any x)
    rw [decide_eq_false hR, Bool.not_false, Bool.true_or]
    unfold St.val at *
    have HR := Lib.hid hr; have HX := Lib.hid hx; have HA := Lib.hid hbA
    clear hr hx hbox hbl h0 hbA hB hT hb hR
    go_enter Tryz.func105, Tryz.ntmps105
    go_wp2_with fail
    generalize W.alloc (.cells #[.int .i64 x.d, .int .i64 x.e, .int .i64 x.x, .int .i64 x.y, .int .i64 x.z] 49) = w0 at *
    refine wp_region_below (by kernel_rfl) (by kernel_rfl) ?_
    refine wpQuiet_step (fun K hK => ?_); refine q_load (p := .pointer (some ⟨W.heap.size, 0, none⟩)) 49 _ rfl rfl rfl (load_t HX.out) ?_; go_simp; (with_reducible refine hK _ ?_); clear hK K
    refine wpQuiet_step (fun K hK => ?_); go_simp; (with_reducible refine ⟨_, fun _ hb => (HR.out _).mono fun _ _ h => ⟨h.1, hb.trans (h.2.mono (by simpa using hb.size))⟩, hK _ ?_⟩); clear hK K
    refine wpQuiet_step (fun K hK => ?_); go_simp; (first | (with_reducible refine hK _ ?_) | (with_reducible refine ⟨_, fun _ _ => rfl, hK _ ?_⟩)); clear hK K
    refine wpQuiet_step (fun K hK => ?_); go_simp; (try (with_reducible refine ⟨_, fun _ _ => rfl, ?_⟩)); generalize hA : ({ tmps := _, defers := _ } : Act) = A; (with_reducible refine hK A ?_); clear hK K
    refine wpQuiet_step (fun K hK => ?_); subst hA; go_simp; (try (with_reducible refine ⟨_, fun _ _ => rfl, ?_⟩)); generalize hA : ({ tmps := _, defers := _ } : Act) = A; (with_reducible refine hK A ?_); clear hK K
    refine wpQuiet_step (fun K hK => ?_); subst hA; go_simp; (try (with_reducible refine ⟨_, fun _ _ => rfl, ?_⟩)); generalize hA : ({ tmps := _, defers := _ } : Act) = A; (with_reducible refine hK A ?_); clear hK K
    refine wpQuiet_step (fun K hK => ?_); subst hA; go_simp; (try (with_reducible refine ⟨_, fun _ _ => rfl, ?_⟩)); generalize hA : ({ tmps := _, defers := _ } : Act) = A; (with_reducible refine hK A ?_); clear hK K
    refine wpQuiet_step (fun K hK => ?_); subst hA; go_simp; (try (with_reducible refine ⟨_, fun _ _ => rfl, ?_⟩)); generalize hA : ({ tmps := _, defers := _ } : Act) = A; (with_reducible refine hK A ?_); clear hK K
    refine wpQuiet_step (fun K hK => ?_); subst hA; go_simp; (try (with_reducible refine ⟨_, fun _ _ => rfl, ?_⟩)); generalize hA : ({ tmps := _, defers := _ } : Act) = A; (with_reducible refine hK A ?_); clear hK K
    refine wpQuiet_step (fun K hK => ?_); subst hA; go_simp; (try (with_reducible refine ⟨_, fun _ _ => rfl, ?_⟩)); generalize hA : ({ tmps := _, defers := _ } : Act) = A; (with_reducible refine hK A ?_); clear hK K
    refine wpQuiet_step (fun K hK => ?_); subst hA; go_simp; (try (with_reducible refine ⟨_, fun _ _ => rfl, ?_⟩)); generalize hA : ({ tmps := _, defers := _ } : Act) = A; (with_reducible refine hK A ?_); clear hK K
    refine wpQuiet_step (fun K hK => ?_); subst hA; go_simp; (first | (with_reducible refine hK _ ?_) | (with_reducible refine ⟨_, fun _ _ => rfl, hK _ ?_⟩)); clear hK K
    refine wpQuiet_step (fun K hK => ?_); go_simp; (first | (with_reducible refine hK _ ?_) | (with_reducible refine ⟨_, fun _ _ => rfl, hK _ ?_⟩)); clear hK K
    refine wpQuiet_nil ?_
    intro w1 hb1
    go_wp2_with fail
    go_ret
    exact ⟨rfl, HA.out.trans (hb1.mono HA.out.size)⟩
instance (l : List St) : Decidable (Even l) := inferInstanceAs (Decidable (∀ x ∈ l, x.R ∧ ∀ y ∈ l, x.d = y.d))
theorem even_any (z : St) (ts : List St) : (!(z :: ts).any fun x => !decide x.R || x.d != z.d) = decide (Even (z :: ts)) := by
  rw [Bool.eq_iff_iff, Bool.not_eq_true', List.any_eq_false, decide_eq_true_iff]
  simp only [Bool.or_eq_true, Bool.not_eq_true', decide_eq_false_iff_not, bne_iff_ne, ne_eq, not_or, Decidable.not_not]
  constructor
  · intro h x hx
    exact ⟨(h x hx).1, fun y hy => (h x hx).2.trans (h y hy).2.symm⟩
  · intro h x hx
    exact ⟨(h x hx).1, (h x hx).2 z List.mem_cons_self⟩
theorem alike_any (A : Option Addr) (ts : List St) (c : Nat) (w : World) (hT : Ts w A ts) (hn : ts.length ≤ 5000000) :
    Calls Tryz.prog 51 #[.slice A ts.length c] w fun e w' => e = .returned (.bool (decide (Even ts))) ∧ Below w.heap.size w w' := by
  obtain ⟨v, hv, hc⟩ : ∃ v, (!v) = decide (Even ts) ∧ Calls Tryz.prog 57 #[.slice A ts.length c, .func (.func 105) #[] #[.pointer (some ⟨w.heap.size, 0, none⟩)]] (w.alloc (.cells #[.slice A ts.length c] 51)) fun e w' => e = .returned (.bool v) ∧ Below (w.alloc (.cells #[.slice A ts.length c] 51)).heap.size (w.alloc (.cells #[.slice A ts.length c] 51)) w' := by
    have hb := (Below.refl w.heap.size w).alloc (Nat.le_refl _) (.cells #[.slice A ts.length c] 51)
    cases ts with
    | nil => exact ⟨false, (decide_eq_true (fun x hx => absurd hx (by simp))).symm, containsFunc_any A [] c 105 _ (fun _ => false) _ (hT.below hb) hn (enters_of Tryz.func105 (by kernel_rfl) rfl) (fun h => absurd h (by simp))⟩
    | cons z ts => exact ⟨_, even_any z ts, containsFunc_any A (z :: ts) c 105 _ _ _ (hT.below hb) hn (enters_of Tryz.func105 (by kernel_rfl) rfl) (fun _ => alikeC _ A z ts c _ (BoxAt.made w _ _) (hT.below hb))⟩
  rw [← hv]
  have HC := Lib.hid hc; clear hc hT hv
  go_enter Tryz.func51, Tryz.ntmps51
  go_wp2_with fail
  refine (HC.out).mono ?_; rintro e w1 ⟨rfl, hb1⟩
  have HB1 := Lib.hid hb1; clear hb1
  go_wp2_with fail
  go_ret
  exact ⟨rfl, ((Below.refl _ _).alloc (Nat.le_refl _) _).trans (HB1.out.mono (by simp))⟩
end

section
open Go.ChangeShapes Go.WideShapes Go.ChangeAt Go.RowKit Go.BigFrame
set_option maxRecDepth 100000
def Rises (ts : List St) : Prop := ∀ (j : Nat) (t u : St), ts[j]? = some t → ts[j + 1]? = some u → ¬ u.C t < 0
noncomputable instance (ts : List St) : Decidable (Rises ts) := Classical.propDecidable _
theorem isSorted_any (A : Option Addr) (ts : List St) (c : Nat) (w : World) (hT : Ts w A ts) (hn : ts.length ≤ 5000000) :
    Calls Tryz.prog 52 #[.slice A ts.length c, .func (.func 53) #[] #[]] w fun e w' => e = .returned (.bool (decide (Rises ts))) ∧ Below w.heap.size w w' := by
  have eg : ∀ args w, (callFunc 53 args).run Tryz.prog w = .ok (.enter 53 args) w := enters_of Tryz.func53 (by kernel_rfl) rfl
  have HT := Lib.hid hT; clear hT
  have hw := IntWalk.i64_in ((ts.length : Int) - 1) (by omega)
  go_enter Tryz.func52, Tryz.ntmps52
  go_wp2_with fail
  go_loopw [5] (fun i wr => ∃ k : Nat, k ≤ ts.length ∧ i = .int .i64 ((k : Int) - 1) ∧ Below w.heap.size w wr ∧ ∀ (j : Nat) (t u : St), k ≤ j + 1 → ts[j]? = some t → ts[j + 1]? = some u → ¬ u.C t < 0) (fun i _ => (intOf i).toNat)
  case atStart => exact ⟨ts.length, Nat.le_refl _, rfl, Below.refl _ _, fun j t u h _ hu => by have := (List.getElem?_eq_some_iff.1 hu).1; omega⟩
  case round =>
    obtain ⟨k, hk, rfl, hb, hno⟩ := hrel
    clear hw
    by_cases h2 : 2 ≤ k
    · obtain ⟨m, rfl⟩ : ∃ m, k = m + 2 := ⟨k - 2, by omega⟩
      rw [show ((m + 2 : Nat) : Int) - 1 = ((m + 1 : Nat) : Int) by omega]
      have l0 : m < ts.length := by omega
      have l1 : m + 1 < ts.length := by omega
      have lz : 0 < m + 1 := by omega
      generalize hq : m + 1 = q at *
      obtain ⟨t, ht⟩ : ∃ t, ts[m]? = some t := ⟨_, List.getElem?_eq_getElem l0⟩
      obtain ⟨u, hu⟩ : ∃ u, ts[q]? = some u := ⟨_, List.getElem?_eq_getElem l1⟩
      have hT' := HT.out.below hb
      obtain ⟨b, o, rfl, hbl, hl0⟩ := hT'.load ht
      obtain ⟨b', o', e, _, hl1⟩ := hT'.load hu
      cases e
      have hc := fun w => compare_any u t w
      generalize hcv : u.C t = cv at *
      unfold St.val at *
      have HB := Lib.hid hb; have HNO := Lib.hid hno; have H0 := Lib.hid hl0; have H1 := Lib.hid hl1; have HC := Lib.hid hc; have HTT := Lib.hid (And.intro ht hu); have HCV := Lib.hid hcv; have HQ := Lib.hid hq
      clear hb hno hl0 hl1 hc ht hu hT' hbl hcv h2 hq
      cases hv : decide (cv < 0) with
      | true =>
        have HV := Lib.hid hv; clear hv
        go_wp2_with fail
        refine wp_region_below (by kernel_rfl) (by kernel_rfl) ?_
        refine wpQuiet_step (fun K hK => ?_); go_simp; (first | (with_reducible refine hK _ ?_) | (with_reducible refine ⟨_, fun _ _ => rfl, hK _ ?_⟩)); clear hK K
        refine wpQuiet_step (fun K hK => ?_); go_simp; (first | (with_reducible refine hK _ ?_) | (with_reducible refine ⟨_, fun _ _ => rfl, hK _ ?_⟩)); clear hK K
        refine wpQuiet_step (fun K hK => ?_); go_simp; (first | (with_reducible refine hK _ ?_) | (with_reducible refine ⟨_, fun _ _ => rfl, hK _ ?_⟩)); clear hK K
        refine wpQuiet_step (fun K hK => ?_); go_simp; (first | (with_reducible refine hK _ ?_) | (with_reducible refine ⟨_, fun _ _ => rfl, hK _ ?_⟩)); clear hK K
        refine wpQuiet_step (fun K hK => ?_); refine q_load (p := .pointer (some ⟨b, o + q * 5, none⟩)) 49 _ rfl rfl rfl (H1.out) ?_; go_simp; (with_reducible refine hK _ ?_); clear hK K
        refine wpQuiet_step (fun K hK => ?_); go_simp; (first | (with_reducible refine hK _ ?_) | (with_reducible refine ⟨_, fun _ _ => rfl, hK _ ?_⟩)); clear hK K
        refine wpQuiet_step (fun K hK => ?_); go_simp; (first | (with_reducible refine hK _ ?_) | (with_reducible refine ⟨_, fun _ _ => rfl, hK _ ?_⟩)); clear hK K
        refine wpQuiet_step (fun K hK => ?_); refine q_bin _ _ _ _ _ rfl rfl rfl rfl (sub_is (k := (m : Nat)) (by have := HQ.out; omega) (by omega) (by have := HQ.out; omega)) ?_; go_simp; (with_reducible refine hK _ ?_); clear hK K
        refine wpQuiet_step (fun K hK => ?_); go_simp; (first | (with_reducible refine hK _ ?_) | (with_reducible refine ⟨_, fun _ _ => rfl, hK _ ?_⟩)); clear hK K
        refine wpQuiet_step (fun K hK => ?_); refine q_load (p := .pointer (some ⟨b, o + m * 5, none⟩)) 49 _ rfl rfl rfl (H0.out) ?_; go_simp; (with_reducible refine hK _ ?_); clear hK K
        refine wpQuiet_step (fun K hK => ?_); go_simp; (with_reducible refine ⟨_, fun _ hb => (HC.out _).mono fun _ _ h => ⟨h.1, hb.trans (h.2.mono (by simpa using hb.size))⟩, hK _ ?_⟩); clear hK K
        refine wpQuiet_step (fun K hK => ?_); refine q_bin _ _ _ _ _ rfl rfl rfl rfl (lti_is HV.out) ?_; go_simp; (with_reducible refine hK _ ?_); clear hK K
        refine wpQuiet_nil ?_
        intro w1 hb1
        go_wp2_with fail
        go_ret
        refine ⟨ret_bool ?_, HB.out.trans (hb1.mono HB.out.size)⟩
        rw [eq_comm, decide_eq_false_iff_not]
        intro h
        exact absurd (by rw [HCV.out]; exact of_decide_eq_true HV.out) (h m t u HTT.out.1 (by rw [HQ.out]; exact HTT.out.2))
      | false =>
        have HV := Lib.hid hv; clear hv
        go_wp2_with fail
        refine wp_region_below (by kernel_rfl) (by kernel_rfl) ?_
        refine wpQuiet_step (fun K hK => ?_); go_simp; (first | (with_reducible refine hK _ ?_) | (with_reducible refine ⟨_, fun _ _ => rfl, hK _ ?_⟩)); clear hK K
        refine wpQuiet_step (fun K hK => ?_); go_simp; (first | (with_reducible refine hK _ ?_) | (with_reducible refine ⟨_, fun _ _ => rfl, hK _ ?_⟩)); clear hK K
        refine wpQuiet_step (fun K hK => ?_); go_simp; (first | (with_reducible refine hK _ ?_) | (with_reducible refine ⟨_, fun _ _ => rfl, hK _ ?_⟩)); clear hK K
        refine wpQuiet_step (fun K hK => ?_); go_simp; (first | (with_reducible refine hK _ ?_) | (with_reducible refine ⟨_, fun _ _ => rfl, hK _ ?_⟩)); clear hK K
        refine wpQuiet_step (fun K hK => ?_); refine q_load (p := .pointer (some ⟨b, o + q * 5, none⟩)) 49 _ rfl rfl rfl (H1.out) ?_; go_simp; (with_reducible refine hK _ ?_); clear hK K
        refine wpQuiet_step (fun K hK => ?_); go_simp; (first | (with_reducible refine hK _ ?_) | (with_reducible refine ⟨_, fun _ _ => rfl, hK _ ?_⟩)); clear hK K
        refine wpQuiet_step (fun K hK => ?_); go_simp; (first | (with_reducible refine hK _ ?_) | (with_reducible refine ⟨_, fun _ _ => rfl, hK _ ?_⟩)); clear hK K
        refine wpQuiet_step (fun K hK => ?_); refine q_bin _ _ _ _ _ rfl rfl rfl rfl (sub_is (k := (m : Nat)) (by have := HQ.out; omega) (by omega) (by have := HQ.out; omega)) ?_; go_simp; (with_reducible refine hK _ ?_); clear hK K
        refine wpQuiet_step (fun K hK => ?_); go_simp; (first | (with_reducible refine hK _ ?_) | (with_reducible refine ⟨_, fun _ _ => rfl, hK _ ?_⟩)); clear hK K
        refine wpQuiet_step (fun K hK => ?_); refine q_load (p := .pointer (some ⟨b, o + m * 5, none⟩)) 49 _ rfl rfl rfl (H0.out) ?_; go_simp; (with_reducible refine hK _ ?_); clear hK K
        refine wpQuiet_step (fun K hK => ?_); go_simp; (with_reducible refine ⟨_, fun _ hb => (HC.out _).mono fun _ _ h => ⟨h.1, hb.trans (h.2.mono (by simpa using hb.size))⟩, hK _ ?_⟩); clear hK K
        refine wpQuiet_step (fun K hK => ?_); refine q_bin _ _ _ _ _ rfl rfl rfl rfl (lti_is HV.out) ?_; go_simp; (with_reducible refine hK _ ?_); clear hK K
        refine wpQuiet_nil ?_
        intro w1 hb1
        have hw2 := IntWalk.i64_in (((q : Nat) : Int) - 1) (by omega)
        go_wp2_with fail
        go_roundw
        case rel =>
          refine ⟨q, by omega, rfl, HB.out.trans (hb1.mono HB.out.size), fun j t' u' hj ht' hu' => ?_⟩
          have hq := HQ.out
          by_cases e : j = m
          · subst e
            rw [HTT.out.1] at ht'; rw [hq, HTT.out.2] at hu'; cases ht'; cases hu'
            rw [HCV.out]; exact of_decide_eq_false HV.out
          · exact Int.not_lt.2 (HNO.out j t' u' (by omega) ht' hu')
        case measure => simp only [intOf]; omega
    · have hz : ¬ (0 : Int) < (k : Int) - 1 := by omega
      have HB := Lib.hid hb; have HNO := Lib.hid hno; clear hb hno
      go_wp2_with fail
      go_ret
      refine ⟨ret_bool ?_, HB.out⟩
      rw [eq_comm, decide_eq_true_iff]
      exact fun j t u ht hu => Int.not_lt.2 (HNO.out j t u (by omega) ht hu)
end

section
open Go.ChangeShapes Go.WideShapes Go.ChangeAt Go.RowKit Go.BigFrame
set_option maxRecDepth 100000
noncomputable instance (ts : List St) : Decidable (Fr ts) := Classical.propDecidable _
theorem L_C (t u : St) (h : t.L u) : ¬ u.C t < 0 := by
  have h1 := St.L_C h
  have h2 := St.C_swap (a := t) (b := u)
  omega
theorem rises_pair {ts : List St} (h : Rises ts) : ts.Pairwise fun x y => x.C y ≤ 0 := by
  induction ts with
  | nil => exact List.Pairwise.nil
  | cons t ts ih =>
    have ih := ih fun j x y hx hy => h (j + 1) x y (by simpa using hx) (by simpa using hy)
    refine List.pairwise_cons.2 ⟨?_, ih⟩
    cases ts with
    | nil => intro y hy; cases hy
    | cons u ts =>
      have h0 : t.C u ≤ 0 := by
        have h1 := h 0 t u rfl rfl
        have h2 := St.C_swap (a := t) (b := u)
        omega
      intro y hy
      rcases List.mem_cons.1 hy with rfl | hy
      · exact h0
      · exact St.C_trans h0 ((List.pairwise_cons.1 ih).1 y hy)
theorem fr_of {ts : List St} (he : Even ts) (hr : Rises ts) (hn : ∀ (i : Nat) (t : St), ts[i]? = some t → (ts.take i).any (fun x => decide (x.L t)) = false) : Fr ts := by
  have hp := rises_pair hr
  have hno : ∀ (i j : Nat) (x y : St), i < j → ts[i]? = some x → ts[j]? = some y → ¬ x.L y := by
    intro i j x y hij hx hy hl
    have := hn j y hy
    rw [List.any_eq_false] at this
    exact this x (List.mem_of_getElem? (i := i) (by rw [List.getElem?_take, if_pos hij]; exact hx)) (by simpa using hl)
  have hlt : ∀ (i j : Nat) (x y : St), i < j → ts[i]? = some x → ts[j]? = some y → x.C y < 0 := by
    intro i j x y hij hx hy
    obtain ⟨hi, ex⟩ := List.getElem?_eq_some_iff.1 hx
    obtain ⟨hj, ey⟩ := List.getElem?_eq_some_iff.1 hy
    have h1 := List.pairwise_iff_getElem.1 hp i j hi hj hij
    rw [ex, ey] at h1
    rcases Int.lt_or_eq_of_le h1 with h2 | h2
    · exact h2
    · have e := St.C_zero.1 h2
      subst e
      exact absurd (St.L_refl.2 (he x (List.mem_of_getElem? hx)).1) (hno i j x x hij hx hy)
  refine ⟨fun x hx => (he x hx).1, fun x hx => (he x hx).2, List.pairwise_iff_getElem.2 fun i j hi hj hij => hlt i j _ _ hij (List.getElem?_eq_getElem hi) (List.getElem?_eq_getElem hj), fun x hx y hy hl => ?_⟩
  obtain ⟨i, hi⟩ := List.getElem?_of_mem hx
  obtain ⟨j, hj⟩ := List.getElem?_of_mem hy
  rcases Nat.lt_trichotomy i j with h | h | h
  · exact absurd hl (hno i j x y h hi hj)
  · subst h; rw [hi] at hj; cases hj; rfl
  · exact absurd (hlt j i y x h hj hi) (L_C x y hl)
theorem fr_rises {ts : List St} (h : Fr ts) : Rises ts := fun j t u ht hu => by
  obtain ⟨hi, ex⟩ := List.getElem?_eq_some_iff.1 ht
  obtain ⟨hj, ey⟩ := List.getElem?_eq_some_iff.1 hu
  have := List.pairwise_iff_getElem.1 h.sort j (j + 1) hi hj (by omega)
  rw [ex, ey] at this
  have h2 := St.C_swap (a := t) (b := u)
  omega
theorem fr_apart {ts : List St} (h : Fr ts) (i : Nat) (t : St) (ht : ts[i]? = some t) : (ts.take i).any (fun x => decide (x.L t)) = false := by
  rw [List.any_eq_false]
  intro x hx hl
  have hl : x.L t := by simpa using hl
  obtain ⟨j, hj⟩ := List.getElem?_of_mem hx
  rw [List.getElem?_take] at hj
  split at hj
  · rename_i hji
    obtain ⟨hj', ex⟩ := List.getElem?_eq_some_iff.1 hj
    obtain ⟨hi', et⟩ := List.getElem?_eq_some_iff.1 ht
    have h1 := List.pairwise_iff_getElem.1 h.sort j i hj' hi' hji
    rw [ex, et] at h1
    have h2 := h.anti x (List.mem_of_mem_take hx) t (List.mem_of_getElem? ht) hl
    subst h2
    exact absurd h1 (by have : x.C x = 0 := St.C_zero.2 rfl
                        omega)
  · cases hj
theorem right_row_any (A : Option Addr) (ts : List St) (c : Nat) (w : World) (hT : Ts w A ts) (hn : ts.length ≤ 5000000) (hc : ts.length ≤ c) (hm : c ≤ maxLen) :
    Calls Tryz.prog 24 #[.slice A ts.length c] w fun e w' => e = .returned (.bool (decide (Fr ts))) ∧ Below w.heap.size w w' := by
  have ha := alike_any A ts c w hT hn
  by_cases he : Even ts
  · rw [decide_eq_true he] at ha
    have hs := fun w hT => isSorted_any A ts c w hT hn
    by_cases hr : Rises ts
    · rw [decide_eq_true hr] at hs
      have HT := Lib.hid hT; have HS := Lib.hid hs; have HA := Lib.hid ha; have HE := Lib.hid (And.intro he hr); clear hT hs ha he hr
      go_enter Tryz.func24, Tryz.ntmps24
      go_wp2_with fail
      refine (HA.out).mono ?_; rintro e w1 ⟨rfl, hb1⟩
      have HB1 := Lib.hid hb1; clear hb1
      go_wp2_with fail
      refine (HS.out _ (HT.out.below HB1.out)).mono ?_; rintro e w2 ⟨rfl, hb2⟩
      have HB2 := Lib.hid (HB1.out.trans (hb2.mono HB1.out.size)); clear hb2
      go_wp2_with fail
      clear HA HS
      go_loopw [15] (fun i wr => ∃ k : Nat, k ≤ ts.length ∧ i = .int .i64 k ∧ Below w.heap.size w wr ∧ ∀ (j : Nat) (t : St), j < k → ts[j]? = some t → (ts.take j).any (fun x => decide (x.L t)) = false) (fun i _ => ts.length - (intOf i).toNat)
      case atStart => exact ⟨0, by omega, rfl, HB2.out, fun j t h => absurd h (by omega)⟩
      case round =>
        obtain ⟨k, hk, rfl, hb, hno⟩ := hrel
        have HB := Lib.hid hb; have HNO := Lib.hid hno; clear hb hno HB1 HB2
        by_cases hlt : k < ts.length
        · have hltz : (k : Int) < (ts.length : Int) := by omega
          obtain ⟨t, ht⟩ : ∃ t, ts[k]? = some t := ⟨_, List.getElem?_eq_getElem hlt⟩
          have hT1 := HT.out.below HB.out
          obtain ⟨b, o, rfl, hbl, hld⟩ := hT1.five ht
          obtain ⟨c0, c1, c2, c3, c4⟩ := hld wr (Below.refl _ _)
          have hbt := (Below.refl wr.heap.size wr).alloc (Nat.le_refl _) (.cells #[.int .i64 t.d, .int .i64 t.e, .int .i64 t.x, .int .i64 t.y, .int .i64 t.z] 49)
          have hx := Holds.made wr t
          have hcall := fun w' hb => reached_any (some ⟨b, o, none⟩) (ts.take k) c t w' (((hT1.below hbt).take k).below hb) (by rw [List.length_take]; omega)
          rw [show (ts.take k).length = k by rw [List.length_take]; omega] at hcall
          have hkc : k ≤ c := by omega
          generalize hv : ((ts.take k).any fun x => decide (x.L t)) = v at *
          unfold St.val at *
          have HX := Lib.hid hx; have HC := Lib.hid hcall; have HBT := Lib.hid hbt; have HTT := Lib.hid ht; have HV := Lib.hid hv
          clear hx hcall hbt ht hv hT1 hld hbl
          cases v with
          | true =>
            go_wp2_with fail
            generalize wr.alloc (.cells #[.int .i64 t.d, .int .i64 t.e, .int .i64 t.x, .int .i64 t.y, .int .i64 t.z] 49) = w0 at *
            refine wp_region_below (by kernel_rfl) (by kernel_rfl) ?_
            refine wpQuiet_step (fun K hK => ?_); go_simp; (first | (with_reducible refine hK _ ?_) | (with_reducible refine ⟨_, fun _ _ => rfl, hK _ ?_⟩)); clear hK K
            refine wpQuiet_step (fun K hK => ?_); go_simp; (first | (with_reducible refine hK _ ?_) | (with_reducible refine ⟨_, fun _ _ => rfl, hK _ ?_⟩)); clear hK K
            refine wpQuiet_step (fun K hK => ?_); go_simp; (first | (with_reducible refine hK _ ?_) | (with_reducible refine ⟨_, fun _ _ => rfl, hK _ ?_⟩)); clear hK K
            refine wpQuiet_step (fun K hK => ?_); refine q_load (p := .pointer (some ⟨wr.heap.size, 0, none⟩)) 49 _ rfl rfl rfl (load_t HX.out) ?_; go_simp; (with_reducible refine hK _ ?_); clear hK K
            refine wpQuiet_step (fun K hK => ?_); go_simp; (with_reducible refine ⟨_, fun wq hb => (HC.out wq hb).mono fun _ _ h => ⟨h.1, hb.trans (h.2.mono (by simpa using hb.size))⟩, hK _ ?_⟩); clear hK K
            refine wpQuiet_nil ?_
            intro w3 hb3
            go_wp2_with fail
            go_ret
            refine ⟨ret_bool ?_, HB.out.trans ((HBT.out.trans (hb3.mono HBT.out.size)).mono HB.out.size)⟩
            rw [eq_comm, decide_eq_false_iff_not]
            intro h
            have := fr_apart h k t HTT.out
            rw [HV.out] at this; cases this
          | false =>
            go_wp2_with fail
            generalize wr.alloc (.cells #[.int .i64 t.d, .int .i64 t.e, .int .i64 t.x, .int .i64 t.y, .int .i64 t.z] 49) = w0 at *
            refine wp_region_below (by kernel_rfl) (by kernel_rfl) ?_
            refine wpQuiet_step (fun K hK => ?_); go_simp; (first | (with_reducible refine hK _ ?_) | (with_reducible refine ⟨_, fun _ _ => rfl, hK _ ?_⟩)); clear hK K
            refine wpQuiet_step (fun K hK => ?_); go_simp; (first | (with_reducible refine hK _ ?_) | (with_reducible refine ⟨_, fun _ _ => rfl, hK _ ?_⟩)); clear hK K
            refine wpQuiet_step (fun K hK => ?_); go_simp; (first | (with_reducible refine hK _ ?_) | (with_reducible refine ⟨_, fun _ _ => rfl, hK _ ?_⟩)); clear hK K
            refine wpQuiet_step (fun K hK => ?_); refine q_load (p := .pointer (some ⟨wr.heap.size, 0, none⟩)) 49 _ rfl rfl rfl (load_t HX.out) ?_; go_simp; (with_reducible refine hK _ ?_); clear hK K
            refine wpQuiet_step (fun K hK => ?_); go_simp; (with_reducible refine ⟨_, fun wq hb => (HC.out wq hb).mono fun _ _ h => ⟨h.1, hb.trans (h.2.mono (by simpa using hb.size))⟩, hK _ ?_⟩); clear hK K
            refine wpQuiet_nil ?_
            intro w3 hb3
            have HB3 := Lib.hid (HB.out.trans ((HBT.out.trans (hb3.mono HBT.out.size)).mono HB.out.size))
            clear hb3 c0 c1 c2 c3 c4
            go_wp2_with fail
            go_roundw
            case rel =>
              refine ⟨k + 1, by omega, by simp, HB3.out, fun j t' hj ht' => ?_⟩
              by_cases e : j = k
              · subst e
                rw [HTT.out] at ht'; cases ht'
                exact HV.out
              · exact HNO.out j t' (by omega) ht'
            case measure => simp only [intOf]; omega
        · have hltz : ¬ (k : Int) < (ts.length : Int) := by omega
          go_wp2_with fail
          go_ret
          refine ⟨ret_bool ?_, HB.out⟩
          rw [eq_comm, decide_eq_true_iff]
          exact fr_of HE.out.1 HE.out.2 fun i t ht => HNO.out i t (by have := (List.getElem?_eq_some_iff.1 ht).1; omega) ht
    · have hf : decide (Fr ts) = false := decide_eq_false fun h => hr (fr_rises h)
      rw [hf, decide_eq_false hr] at *
      have HT := Lib.hid hT; have HS := Lib.hid hs; have HA := Lib.hid ha; clear hT hs ha he hr hf
      go_enter Tryz.func24, Tryz.ntmps24
      go_wp2_with fail
      refine (HA.out).mono ?_; rintro e w1 ⟨rfl, hb1⟩
      have HB1 := Lib.hid hb1; clear hb1
      go_wp2_with fail
      refine (HS.out _ (HT.out.below HB1.out)).mono ?_; rintro e w2 ⟨rfl, hb2⟩
      have HB2 := Lib.hid (HB1.out.trans (hb2.mono HB1.out.size)); clear hb2
      go_wp2_with fail
      go_ret
      exact ⟨rfl, HB2.out⟩
  · have hf : decide (Fr ts) = false := decide_eq_false fun h => he h.even
    rw [hf, decide_eq_false he] at *
    have HA := Lib.hid ha; clear hT ha he hf
    go_enter Tryz.func24, Tryz.ntmps24
    go_wp2_with fail
    refine (HA.out).mono ?_; rintro e w1 ⟨rfl, hb1⟩
    have HB1 := Lib.hid hb1; clear hb1
    go_wp2_with fail
    go_ret
    exact ⟨rfl, HB1.out⟩
end
end Go.Proofs.YtmhophmpbpbjaaaGreatDoor
