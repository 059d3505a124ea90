/- SummaryCovers: each summary that is right is at or behind one of Least; none of these is at or ahead of another one; they rise; Least of them is they; for at most 30 summaries. -/
import Derived.Test.YtdpadkellpkppaaMxLeast
import Derived.Test.YtdpadkellpkppaaMxOpen
import Derived.Test.YtdpadkellpkppaaSmWorks
import Derived.Test.YtdpadkellpkppaaStFrame
import Derived.Test.YtdpadkellpkppaaLaw
namespace Go.Proofs.Ytdpadkellpkppaa
open Go.ChangeShapes Go.WideShapes Go.ChangeAt Go.RowKit Go.BigFrame
set_option linter.unusedVariables false
set_option maxRecDepth 100000
open Mx (Ts open_sums least_any)
namespace summaryCovers
theorem insW_len (t : Sm) : ∀ l : List Sm, (insW t l).length = l.length + 1
  | [] => rfl
  | y :: r => by
    unfold insW
    split
    · rw [List.length_cons, insW_len t r, List.length_cons]
    · rfl
theorem waysIn_len (l : List Sm) : ∀ m : List Sm, (waysIn l m).length ≤ m.length
  | [] => by simp [waysIn]
  | t :: r => by
    have := waysIn_len l r
    unfold waysIn
    split
    · rw [insW_len, List.length_cons]; omega
    · rw [List.length_cons]; omega
theorem nes_same (x y : Operand) (a : Sm) : ∀ w, (do eqGuard .neq 24 x y a.v a.v; binOp .neq 24 a.v a.v : Sem Value).run Try.prog w = .ok (.bool false) w := by
  intro w; rw [ne_s x y a a w]; unfold eqS; rw [decide_eq_true rfl]; rfl
theorem nei_is {x y : Operand} {i j : Int} {p : Bool} (h : (i != j) = p) : ∀ w, (do eqGuard .neq 3 x y (.int .i64 i) (.int .i64 j); binOp .neq 3 (.int .i64 i) (.int .i64 j) : Sem Value).run Try.prog w = .ok (.bool p) w := by
  intro w; subst h; go_simp
/-- two places of the least hold two that are not ahead of each other -/
theorem apart_at {l : List Sm} {i j : Nat} {x y : Sm} (hi : (waysS l)[i]? = some x) (hj : (waysS l)[j]? = some y) (hne : i ≠ j) : ¬ x.L y := by
  intro h
  have e := waysS_apart (List.mem_of_getElem? hi) (List.mem_of_getElem? hj) h
  subst e
  have hs : (waysS l).Pairwise Sm.A := waysIn_sort l l
  obtain ⟨hil, hi'⟩ := List.getElem?_eq_some_iff.1 hi
  obtain ⟨hjl, hj'⟩ := List.getElem?_eq_some_iff.1 hj
  rw [List.pairwise_iff_getElem] at hs
  rcases Nat.lt_or_gt_of_ne hne with h1 | h1
  · have := hs i j hil hjl h1
    rw [hi', hj'] at this; exact Sm.A_irrefl this
  · have := hs j i hjl hil h1
    rw [hi', hj'] at this; exact Sm.A_irrefl this
/-- has one of the first q been at or ahead of x, or is it not right? -/
def fnd (m : List Sm) (q : Nat) (x : Sm) : Bool := !decide x.R || (m.take q).any fun y => decide (y.L x)
theorem fnd_zero (m : List Sm) (x : Sm) : fnd m 0 x = !decide x.R := by simp [fnd]
theorem fnd_next {m : List Sm} {q : Nat} {x y : Sm} (h : m[q]? = some y) : fnd m (q + 1) x = (fnd m q x || decide (y.L x)) := by
  unfold fnd
  rw [List.take_add_one, h, Option.toList, List.any_append, List.any_cons, List.any_nil, Bool.or_false, Bool.or_assoc]
theorem fnd_all {l : List Sm} {x : Sm} (h : x ∈ l) : fnd (waysS l) (waysS l).length x = true := by
  unfold fnd
  rw [List.take_length]
  by_cases hr : x.R
  · obtain ⟨y, hy, hl⟩ := waysS_covers h hr
    rw [Bool.or_eq_true]; right
    exact List.any_eq_true.2 ⟨y, hy, by simpa using hl⟩
  · simp [hr]
set_option maxHeartbeats 8000000 in
theorem walk (A : Option Addr) (l : List Sm) (c : Nat) (w : World) (hT : Ts w A l) : Calls Try.prog 9 #[.slice A l.length c] w fun e w' => e = .returned (.bool true) ∧ Below w.heap.size w w' := by
  have cw := fun w => works_any w
  have CW := Lib.hid cw; clear cw
  by_cases h30 : (30 : Int) < (l.length : Int)
  · clear hT
    go_enter Try.func9, Try.ntmps9
    go_wp2_with fail
    refine (CW.out _).mono ?_; rintro e w1 ⟨rfl, hb⟩
    have HB := Lib.hid hb; clear hb
    dsimp only
    go_wp2_with fail
    go_ret
    exact ⟨rfl, HB.out⟩
  · have cl := least_any A l c w hT (by omega)
    have hml : (waysS l).length ≤ 30 := Nat.le_trans (waysIn_len l l) (by omega)
    have hcov := fun x (h : x ∈ l) => fnd_all h
    have hap := fun (i j : Nat) (x y : Sm) => apart_at (l := l) (i := i) (j := j) (x := x) (y := y)
    have hself : waysS (waysS l) = waysS l := waysS_self
    have HT := Lib.hid hT; have CL := Lib.hid cl; clear hT cl
    generalize waysS l = m at *
    have hm30 : ¬ (30 : Int) < (m.length : Int) := by omega
    have HML := Lib.hid hml; have HC := Lib.hid hcov; have HA := Lib.hid hap; have HS := Lib.hid hself; clear hml hcov hap hself
    go_enter Try.func9, Try.ntmps9
    go_wp2_with fail
    refine (CL.out).mono ?_; rintro e w2 ⟨⟨v, rfl, hr⟩, hb2⟩
    obtain ⟨B, c2, rfl, hTm, hle, _⟩ := Mx.Times.of_own hr
    have HL := Lib.hid (HT.out.below hb2); have HM := Lib.hid (Mx.Ts.of hTm); have HB2 := Lib.hid hb2
    clear hr hb2 hTm hle CL HT
    dsimp only
    go_wp2_with fail
    go_loopw [4] (fun i wr => ∃ k : Nat, k ≤ l.length ∧ i = .int .i64 k ∧ Below w2.heap.size w2 wr) (fun i _ => l.length - (intOf i).toNat)
    case atStart => exact ⟨0, by omega, rfl, Below.refl _ _⟩
    case round =>
      obtain ⟨k, hk, rfl, hbw⟩ := hrel
      have HB := Lib.hid hbw; clear hbw
      by_cases hlt : k < l.length
      · obtain ⟨x, hx⟩ : ∃ x, l[k]? = some x := ⟨_, List.getElem?_eq_getElem hlt⟩
        have hkz : (k : Int) < (l.length : Int) := by omega
        have hxl := List.mem_of_getElem? hx
        have cr := fun w => rightM_any x w
        obtain ⟨bl, ol, rfl, hbl, h5⟩ := HL.out.five hx
        obtain ⟨c0, c1, c2', c3, c4, c5, c6⟩ := h5 wr HB.out
        unfold Sm.v at cr
        have CR := Lib.hid cr; have HX := Lib.hid (And.intro hx (And.intro hxl hbl)); clear cr h5 hx hxl hbl
        go_wp2_with fail
        clear c0 c1 c2' c3 c4 c5 c6
        refine (CR.out _).mono ?_; rintro e w3 ⟨rfl, hb3⟩
        have HB3 := Lib.hid (HB.out.trans (hb3.mono HB.out.size)); clear hb3 HB CR
        dsimp only
        have hf0 := fnd_zero m x
        have HF0 := Lib.hid hf0; clear hf0
        go_wp2_with fail
        go_loopw [5, 6] (fun f j wr => ∃ q : Nat, q ≤ m.length ∧ j = .int .i64 q ∧ f = .bool (fnd m q x) ∧ Below w2.heap.size w2 wr) (fun _ j _ => m.length - (intOf j).toNat)
        case atStart => exact ⟨0, by omega, rfl, by rw [HF0.out], HB3.out⟩
        case round =>
          obtain ⟨q, hq, rfl, rfl, hbw⟩ := hrel
          clear HB3
          have HB := Lib.hid hbw; clear hbw
          by_cases hql : q < m.length
          · obtain ⟨y, hy⟩ : ∃ y, m[q]? = some y := ⟨_, List.getElem?_eq_getElem hql⟩
            have hqz : (q : Int) < (m.length : Int) := by omega
            have hnx := fnd_next (x := x) hy
            have clq := fun w => leqM_any y x w
            obtain ⟨bm, om, rfl, hbm, hlm⟩ := (HM.out.below HB.out).load hy
            obtain ⟨bl', ol', e, _, hlx⟩ := (HL.out.below HB.out).load HX.out.1
            cases e
            unfold Sm.v at clq
            generalize decide (y.L x) = D at *
            have HN := Lib.hid hnx; have CQ := Lib.hid clq; have LM := Lib.hid hlm; have LX := Lib.hid hlx
            clear hnx clq hlm hlx hy hbm
            cases hfq : fnd m q x with
            | true =>
              have HFQ := Lib.hid hfq; clear hfq
              go_wp2_with fail
              refine wp_region_below (by kernel_rfl) (by kernel_rfl) ?_
              refine wpQuiet_step (fun K hK => ?_); go_simp; (first | (with_reducible refine hK _ ?_) | (with_reducible refine ⟨_, fun _ _ => rfl, hK _ ?_⟩)); clear hK K
              refine wpQuiet_step (fun K hK => ?_); go_simp; (try (with_reducible refine ⟨_, fun _ _ => rfl, ?_⟩)); generalize hA : ({ tmps := _, defers := _ } : Act) = A; (with_reducible refine hK A ?_); clear hK K
              refine wpQuiet_step (fun K hK => ?_); subst hA; go_simp; (try (with_reducible refine ⟨_, fun _ _ => rfl, ?_⟩)); generalize hA : ({ tmps := _, defers := _ } : Act) = A; (with_reducible refine hK A ?_); clear hK K
              refine wpQuiet_step (fun K hK => ?_); subst hA; go_simp; (try (with_reducible refine ⟨_, fun _ _ => rfl, ?_⟩)); generalize hA : ({ tmps := _, defers := _ } : Act) = A; (with_reducible refine hK A ?_); clear hK K
              refine wpQuiet_step (fun K hK => ?_); subst hA; go_simp; (try (with_reducible refine ⟨_, fun _ _ => rfl, ?_⟩)); generalize hA : ({ tmps := _, defers := _ } : Act) = A; (with_reducible refine hK A ?_); clear hK K
              refine wpQuiet_step (fun K hK => ?_); subst hA; go_simp; (try (with_reducible refine ⟨_, fun _ _ => rfl, ?_⟩)); generalize hA : ({ tmps := _, defers := _ } : Act) = A; (with_reducible refine hK A ?_); clear hK K
              refine wpQuiet_step (fun K hK => ?_); subst hA; go_simp; (try (with_reducible refine ⟨_, fun _ _ => rfl, ?_⟩)); generalize hA : ({ tmps := _, defers := _ } : Act) = A; (with_reducible refine hK A ?_); clear hK K
              refine wpQuiet_step (fun K hK => ?_); subst hA; go_simp; (try (with_reducible refine ⟨_, fun _ _ => rfl, ?_⟩)); generalize hA : ({ tmps := _, defers := _ } : Act) = A; (with_reducible refine hK A ?_); clear hK K
              refine wpQuiet_step (fun K hK => ?_); subst hA; go_simp; (try (with_reducible refine ⟨_, fun _ _ => rfl, ?_⟩)); generalize hA : ({ tmps := _, defers := _ } : Act) = A; (with_reducible refine hK A ?_); clear hK K
              refine wpQuiet_step (fun K hK => ?_); subst hA; go_simp; (try (with_reducible refine ⟨_, fun _ _ => rfl, ?_⟩)); generalize hA : ({ tmps := _, defers := _ } : Act) = A; (with_reducible refine hK A ?_); clear hK K
              refine wpQuiet_step (fun K hK => ?_); subst hA; go_simp; (try (with_reducible refine ⟨_, fun _ _ => rfl, ?_⟩)); generalize hA : ({ tmps := _, defers := _ } : Act) = A; (with_reducible refine hK A ?_); clear hK K
              refine wpQuiet_step (fun K hK => ?_); subst hA; go_simp; (first | (with_reducible refine hK _ ?_) | (with_reducible refine ⟨_, fun _ _ => rfl, hK _ ?_⟩)); clear hK K
              refine wpQuiet_step (fun K hK => ?_); go_simp; (first | (with_reducible refine hK _ ?_) | (with_reducible refine ⟨_, fun _ _ => rfl, hK _ ?_⟩)); clear hK K
              refine wpQuiet_nil ?_
              intro w5 hb5
              have hbn := HB.out.trans (hb5.mono HB.out.size)
              have HBN := Lib.hid hbn; clear hb5 hbn
              go_wp2_with fail
              go_roundw
              case rel => exact ⟨q + 1, by omega, by simp, by rw [HN.out, HFQ.out, Bool.true_or], HBN.out⟩
              case measure => simp only [intOf]; omega
            | false =>
              have HFQ := Lib.hid hfq; clear hfq
              go_wp2_with fail
              refine wp_region_below (by kernel_rfl) (by kernel_rfl) ?_
              refine wpQuiet_step (fun K hK => ?_); go_simp; (first | (with_reducible refine hK _ ?_) | (with_reducible refine ⟨_, fun _ _ => rfl, hK _ ?_⟩)); clear hK K
              refine wpQuiet_step (fun K hK => ?_); go_simp; (first | (with_reducible refine hK _ ?_) | (with_reducible refine ⟨_, fun _ _ => rfl, hK _ ?_⟩)); clear hK K
              refine wpQuiet_step (fun K hK => ?_); go_simp; (first | (with_reducible refine hK _ ?_) | (with_reducible refine ⟨_, fun _ _ => rfl, hK _ ?_⟩)); clear hK K
              refine wpQuiet_step (fun K hK => ?_); go_simp; (first | (with_reducible refine hK _ ?_) | (with_reducible refine ⟨_, fun _ _ => rfl, hK _ ?_⟩)); clear hK K
              refine wpQuiet_step (fun K hK => ?_); go_simp; (first | (with_reducible refine hK _ ?_) | (with_reducible refine ⟨_, fun _ _ => rfl, hK _ ?_⟩)); clear hK K
              refine wpQuiet_step (fun K hK => ?_); refine q_load (p := .pointer (some ⟨bm, om + q * 7, none⟩)) 24 _ rfl rfl rfl (LM.out) ?_; go_simp; (with_reducible refine hK _ ?_); clear hK K
              refine wpQuiet_step (fun K hK => ?_); go_simp; (first | (with_reducible refine hK _ ?_) | (with_reducible refine ⟨_, fun _ _ => rfl, hK _ ?_⟩)); clear hK K
              refine wpQuiet_step (fun K hK => ?_); go_simp; (first | (with_reducible refine hK _ ?_) | (with_reducible refine ⟨_, fun _ _ => rfl, hK _ ?_⟩)); clear hK K
              refine wpQuiet_step (fun K hK => ?_); go_simp; (first | (with_reducible refine hK _ ?_) | (with_reducible refine ⟨_, fun _ _ => rfl, hK _ ?_⟩)); clear hK K
              refine wpQuiet_step (fun K hK => ?_); refine q_load (p := .pointer (some ⟨bl, ol + k * 7, none⟩)) 24 _ rfl rfl rfl (LX.out) ?_; go_simp; (with_reducible refine hK _ ?_); clear hK K
              refine wpQuiet_step (fun K hK => ?_); go_simp; (with_reducible refine ⟨_, fun _ hb => (CQ.out _).mono fun _ _ h => ⟨h.1, hb.trans (h.2.mono (by simpa using hb.size))⟩, hK _ ?_⟩); clear hK K
              refine wpQuiet_step (fun K hK => ?_); go_simp; (first | (with_reducible refine hK _ ?_) | (with_reducible refine ⟨_, fun _ _ => rfl, hK _ ?_⟩)); clear hK K
              refine wpQuiet_step (fun K hK => ?_); go_simp; (first | (with_reducible refine hK _ ?_) | (with_reducible refine ⟨_, fun _ _ => rfl, hK _ ?_⟩)); clear hK K
              refine wpQuiet_nil ?_
              intro w5 hb5
              have hbn := HB.out.trans (hb5.mono HB.out.size)
              have HBN := Lib.hid hbn; clear hb5 hbn
              go_wp2_with fail
              go_roundw
              case rel => exact ⟨q + 1, by omega, by simp, by rw [HN.out, HFQ.out, Bool.false_or], HBN.out⟩
              case measure => simp only [intOf]; omega
          · have hqm : q = m.length := by omega
            have hqz : ¬ (q : Int) < (m.length : Int) := by omega
            have hfa : fnd m q x = true := by rw [hqm]; exact HC.out x HX.out.2.1
            rw [hfa]
            clear hfa hqm
            go_wp2_with fail
            go_roundw
            case rel => exact ⟨k + 1, by omega, by simp, HB.out⟩
            case measure => simp only [intOf]; omega
      · have hkz : ¬ (k : Int) < (l.length : Int) := by omega
        clear hlt hk HC
        go_wp2_with fail
        go_loopw [7] (fun i wr => ∃ k : Nat, k ≤ m.length ∧ i = .int .i64 k ∧ Below w2.heap.size w2 wr) (fun i _ => m.length - (intOf i).toNat)
        case atStart => exact ⟨0, by omega, rfl, HB.out⟩
        case round =>
          clear HB hkz
          obtain ⟨k, hk, rfl, hbw⟩ := hrel
          have HB := Lib.hid hbw; clear hbw
          by_cases hlt : k < m.length
          · obtain ⟨x, hx⟩ : ∃ x, m[k]? = some x := ⟨_, List.getElem?_eq_getElem hlt⟩
            have hkz : (k : Int) < (m.length : Int) := by omega
            have HX := Lib.hid hx; clear hx
            go_wp2_with fail
            go_loopw [8] (fun j wr => ∃ q : Nat, q ≤ m.length ∧ j = .int .i64 q ∧ Below w2.heap.size w2 wr) (fun j _ => m.length - (intOf j).toNat)
            case atStart => exact ⟨0, by omega, rfl, HB.out⟩
            case round =>
              clear HB
              obtain ⟨q, hq, rfl, hbw⟩ := hrel
              have HB := Lib.hid hbw; clear hbw
              by_cases hql : q < m.length
              · obtain ⟨y, hy⟩ : ∃ y, m[q]? = some y := ⟨_, List.getElem?_eq_getElem hql⟩
                have hqz : (q : Int) < (m.length : Int) := by omega
                obtain ⟨bm, om, rfl, hbm, hlm⟩ := (HM.out.below HB.out).load HX.out
                obtain ⟨bm', om', e, _, hly⟩ := (HM.out.below HB.out).load hy
                cases e
                have LM := Lib.hid hlm; have LY := Lib.hid hly
                by_cases hkq : k = q
                · have hi : ((k : Int) != (q : Int)) = false := by simp [hkq]
                  have HI := Lib.hid hi
                  clear hlm hly hbm hy hkq hi
                  go_wp2_with fail
                  refine wp_region_below (by kernel_rfl) (by kernel_rfl) ?_
                  refine wpQuiet_step (fun K hK => ?_); go_simp; (first | (with_reducible refine hK _ ?_) | (with_reducible refine ⟨_, fun _ _ => rfl, hK _ ?_⟩)); clear hK K
                  refine wpQuiet_step (fun K hK => ?_); go_simp; (first | (with_reducible refine hK _ ?_) | (with_reducible refine ⟨_, fun _ _ => rfl, hK _ ?_⟩)); clear hK K
                  refine wpQuiet_step (fun K hK => ?_); refine q_bin _ _ _ _ _ rfl rfl rfl rfl (nei_is HI.out) ?_; go_simp; (with_reducible refine hK _ ?_); clear hK K
                  refine wpQuiet_step (fun K hK => ?_); go_simp; (try (with_reducible refine ⟨_, fun _ _ => rfl, ?_⟩)); generalize hA : ({ tmps := _, defers := _ } : Act) = A; (with_reducible refine hK A ?_); clear hK K
                  refine wpQuiet_step (fun K hK => ?_); subst hA; go_simp; (try (with_reducible refine ⟨_, fun _ _ => rfl, ?_⟩)); generalize hA : ({ tmps := _, defers := _ } : Act) = A; (with_reducible refine hK A ?_); clear hK K
                  refine wpQuiet_step (fun K hK => ?_); subst hA; go_simp; (try (with_reducible refine ⟨_, fun _ _ => rfl, ?_⟩)); generalize hA : ({ tmps := _, defers := _ } : Act) = A; (with_reducible refine hK A ?_); clear hK K
                  refine wpQuiet_step (fun K hK => ?_); subst hA; go_simp; (try (with_reducible refine ⟨_, fun _ _ => rfl, ?_⟩)); generalize hA : ({ tmps := _, defers := _ } : Act) = A; (with_reducible refine hK A ?_); clear hK K
                  refine wpQuiet_step (fun K hK => ?_); subst hA; go_simp; (try (with_reducible refine ⟨_, fun _ _ => rfl, ?_⟩)); generalize hA : ({ tmps := _, defers := _ } : Act) = A; (with_reducible refine hK A ?_); clear hK K
                  refine wpQuiet_step (fun K hK => ?_); subst hA; go_simp; (try (with_reducible refine ⟨_, fun _ _ => rfl, ?_⟩)); generalize hA : ({ tmps := _, defers := _ } : Act) = A; (with_reducible refine hK A ?_); clear hK K
                  refine wpQuiet_step (fun K hK => ?_); subst hA; go_simp; (try (with_reducible refine ⟨_, fun _ _ => rfl, ?_⟩)); generalize hA : ({ tmps := _, defers := _ } : Act) = A; (with_reducible refine hK A ?_); clear hK K
                  refine wpQuiet_step (fun K hK => ?_); subst hA; go_simp; (try (with_reducible refine ⟨_, fun _ _ => rfl, ?_⟩)); generalize hA : ({ tmps := _, defers := _ } : Act) = A; (with_reducible refine hK A ?_); clear hK K
                  refine wpQuiet_step (fun K hK => ?_); subst hA; go_simp; (try (with_reducible refine ⟨_, fun _ _ => rfl, ?_⟩)); generalize hA : ({ tmps := _, defers := _ } : Act) = A; (with_reducible refine hK A ?_); clear hK K
                  refine wpQuiet_step (fun K hK => ?_); subst hA; go_simp; (try (with_reducible refine ⟨_, fun _ _ => rfl, ?_⟩)); generalize hA : ({ tmps := _, defers := _ } : Act) = A; (with_reducible refine hK A ?_); clear hK K
                  refine wpQuiet_step (fun K hK => ?_); subst hA; go_simp; (first | (with_reducible refine hK _ ?_) | (with_reducible refine ⟨_, fun _ _ => rfl, hK _ ?_⟩)); clear hK K
                  refine wpQuiet_nil ?_
                  intro w5 hb5
                  have hbn := HB.out.trans (hb5.mono HB.out.size)
                  have HBN := Lib.hid hbn; clear hb5 hbn
                  go_wp2_with fail
                  go_roundw
                  case rel => exact ⟨q + 1, by omega, by simp, HBN.out⟩
                  case measure => simp only [intOf]; omega
                · have hi : ((k : Int) != (q : Int)) = true := by simp; omega
                  have HI := Lib.hid hi
                  have clq := fun w => leqM_any x y w
                  rw [decide_eq_false (HA.out k q x y HX.out hy hkq)] at clq
                  unfold Sm.v at clq
                  have CQ := Lib.hid clq
                  clear hlm hly hbm hy hkq hi clq
                  go_wp2_with fail
                  refine wp_region_below (by kernel_rfl) (by kernel_rfl) ?_
                  refine wpQuiet_step (fun K hK => ?_); go_simp; (first | (with_reducible refine hK _ ?_) | (with_reducible refine ⟨_, fun _ _ => rfl, hK _ ?_⟩)); clear hK K
                  refine wpQuiet_step (fun K hK => ?_); go_simp; (first | (with_reducible refine hK _ ?_) | (with_reducible refine ⟨_, fun _ _ => rfl, hK _ ?_⟩)); clear hK K
                  refine wpQuiet_step (fun K hK => ?_); refine q_bin _ _ _ _ _ rfl rfl rfl rfl (nei_is HI.out) ?_; go_simp; (with_reducible refine hK _ ?_); clear hK K
                  refine wpQuiet_step (fun K hK => ?_); go_simp; (first | (with_reducible refine hK _ ?_) | (with_reducible refine ⟨_, fun _ _ => rfl, hK _ ?_⟩)); clear hK K
                  refine wpQuiet_step (fun K hK => ?_); go_simp; (first | (with_reducible refine hK _ ?_) | (with_reducible refine ⟨_, fun _ _ => rfl, hK _ ?_⟩)); clear hK K
                  refine wpQuiet_step (fun K hK => ?_); go_simp; (first | (with_reducible refine hK _ ?_) | (with_reducible refine ⟨_, fun _ _ => rfl, hK _ ?_⟩)); clear hK K
                  refine wpQuiet_step (fun K hK => ?_); go_simp; (first | (with_reducible refine hK _ ?_) | (with_reducible refine ⟨_, fun _ _ => rfl, hK _ ?_⟩)); clear hK K
                  refine wpQuiet_step (fun K hK => ?_); refine q_load (p := .pointer (some ⟨bm, om + k * 7, none⟩)) 24 _ rfl rfl rfl (LM.out) ?_; go_simp; (with_reducible refine hK _ ?_); clear hK K
                  refine wpQuiet_step (fun K hK => ?_); go_simp; (first | (with_reducible refine hK _ ?_) | (with_reducible refine ⟨_, fun _ _ => rfl, hK _ ?_⟩)); clear hK K
                  refine wpQuiet_step (fun K hK => ?_); go_simp; (first | (with_reducible refine hK _ ?_) | (with_reducible refine ⟨_, fun _ _ => rfl, hK _ ?_⟩)); clear hK K
                  refine wpQuiet_step (fun K hK => ?_); go_simp; (first | (with_reducible refine hK _ ?_) | (with_reducible refine ⟨_, fun _ _ => rfl, hK _ ?_⟩)); clear hK K
                  refine wpQuiet_step (fun K hK => ?_); refine q_load (p := .pointer (some ⟨bm, om + q * 7, none⟩)) 24 _ rfl rfl rfl (LY.out) ?_; go_simp; (with_reducible refine hK _ ?_); clear hK K
                  refine wpQuiet_step (fun K hK => ?_); go_simp; (with_reducible refine ⟨_, fun _ hb => (CQ.out _).mono fun _ _ h => ⟨h.1, hb.trans (h.2.mono (by simpa using hb.size))⟩, hK _ ?_⟩); clear hK K
                  refine wpQuiet_step (fun K hK => ?_); go_simp; (first | (with_reducible refine hK _ ?_) | (with_reducible refine ⟨_, fun _ _ => rfl, hK _ ?_⟩)); clear hK K
                  refine wpQuiet_nil ?_
                  intro w5 hb5
                  have hbn := HB.out.trans (hb5.mono HB.out.size)
                  have HBN := Lib.hid hbn; clear hb5 hbn
                  go_wp2_with fail
                  go_roundw
                  case rel => exact ⟨q + 1, by omega, by simp, HBN.out⟩
                  case measure => simp only [intOf]; omega
              · have hqz : ¬ (q : Int) < (m.length : Int) := by omega
                go_wp2_with fail
                go_roundw
                case rel => exact ⟨k + 1, by omega, by simp, HB.out⟩
                case measure => simp only [intOf]; omega
          · have hkz : ¬ (k : Int) < (m.length : Int) := by omega
            have cl := least_any B m c2 wr (HM.out.below HB.out) (by have := HML.out; omega)
            rw [HS.out] at cl
            have CL := Lib.hid cl; clear cl hlt hk HA HS
            go_wp2_with fail
            refine (CL.out).mono ?_; rintro e w4 ⟨⟨v, rfl, hr⟩, hb4⟩
            obtain ⟨B', c4, rfl, hTn, hle, _⟩ := Mx.Times.of_own hr
            have HN := Lib.hid (Mx.Ts.of hTn); have HM4 := Lib.hid ((HM.out.below HB.out).below hb4); have HB4 := Lib.hid ((HB2.out.trans (HB.out.mono HB2.out.size)).trans (hb4.mono (HB2.out.trans (HB.out.mono HB2.out.size)).size))
            clear hr hb4 hTn hle CL HM HB HL HB2
            dsimp only
            go_wp2_with fail
            go_loopw [10] (fun i wr => ∃ k : Nat, k ≤ m.length ∧ i = .int .i64 k ∧ Below w4.heap.size w4 wr) (fun i _ => m.length - (intOf i).toNat)
            case atStart => exact ⟨0, by omega, rfl, Below.refl _ _⟩
            case round =>
              clear hkz
              obtain ⟨k, hk, rfl, hbw⟩ := hrel
              have HB := Lib.hid hbw; clear hbw
              by_cases hlt : k < m.length
              · obtain ⟨x, hx⟩ : ∃ x, m[k]? = some x := ⟨_, List.getElem?_eq_getElem hlt⟩
                have hkz : (k : Int) < (m.length : Int) := by omega
                obtain ⟨bn, on, rfl, hbn, hln⟩ := (HN.out.below HB.out).load hx
                obtain ⟨bm, om, rfl, hbm, hlm⟩ := (HM4.out.below HB.out).load hx
                have LN := Lib.hid hln; have LM := Lib.hid hlm
                clear hln hlm hbn hbm hx
                go_wp2_with fail
                refine wp_region_below (by kernel_rfl) (by kernel_rfl) ?_
                refine wpQuiet_step (fun K hK => ?_); go_simp; (first | (with_reducible refine hK _ ?_) | (with_reducible refine ⟨_, fun _ _ => rfl, hK _ ?_⟩)); clear hK K
                refine wpQuiet_step (fun K hK => ?_); go_simp; (first | (with_reducible refine hK _ ?_) | (with_reducible refine ⟨_, fun _ _ => rfl, hK _ ?_⟩)); clear hK K
                refine wpQuiet_step (fun K hK => ?_); go_simp; (first | (with_reducible refine hK _ ?_) | (with_reducible refine ⟨_, fun _ _ => rfl, hK _ ?_⟩)); clear hK K
                refine wpQuiet_step (fun K hK => ?_); refine q_load (p := .pointer (some ⟨bn, on + k * 7, none⟩)) 24 _ rfl rfl rfl (LN.out) ?_; go_simp; (with_reducible refine hK _ ?_); clear hK K
                refine wpQuiet_step (fun K hK => ?_); go_simp; (first | (with_reducible refine hK _ ?_) | (with_reducible refine ⟨_, fun _ _ => rfl, hK _ ?_⟩)); clear hK K
                refine wpQuiet_step (fun K hK => ?_); go_simp; (first | (with_reducible refine hK _ ?_) | (with_reducible refine ⟨_, fun _ _ => rfl, hK _ ?_⟩)); clear hK K
                refine wpQuiet_step (fun K hK => ?_); go_simp; (first | (with_reducible refine hK _ ?_) | (with_reducible refine ⟨_, fun _ _ => rfl, hK _ ?_⟩)); clear hK K
                refine wpQuiet_step (fun K hK => ?_); refine q_load (p := .pointer (some ⟨bm, om + k * 7, none⟩)) 24 _ rfl rfl rfl (LM.out) ?_; go_simp; (with_reducible refine hK _ ?_); clear hK K
                refine wpQuiet_step (fun K hK => ?_); refine q_bin _ _ _ _ _ rfl rfl rfl rfl (nes_same _ _ x) ?_; go_simp; (with_reducible refine hK _ ?_); clear hK K
                refine wpQuiet_nil ?_
                intro w5 hb5
                have hbz := HB.out.trans (hb5.mono HB.out.size)
                have HBZ := Lib.hid hbz; clear hb5 hbz
                go_wp2_with fail
                go_roundw
                case rel => exact ⟨k + 1, by omega, by simp, HBZ.out⟩
                case measure => simp only [intOf]; omega
              · have hkz : ¬ (k : Int) < (m.length : Int) := by omega
                clear hlt hk HN HM4
                go_wp2_with fail
                refine (CW.out _).mono ?_; rintro e w6 ⟨rfl, hb6⟩
                have HZ := Lib.hid (HB4.out.trans ((HB.out.trans (hb6.mono HB.out.size)).mono HB4.out.size)); clear hb6 HB HB4
                dsimp only
                go_wp2_with fail
                go_ret
                exact ⟨rfl, HZ.out⟩

set_option maxRecDepth 100000 in
theorem lifted (os : Os) (started : os.Started) (H : Type) (enc : TypeId × Value → H) :
    ReturnsInHanded {} Try.checked os 9 .any (Rows.summaryCoversSpec.pre6 enc Try.prog Try.f9 Rows.summaryCoversRow.domain false) (Rows.summaryCoversSpec.post enc Try.prog Try.f9 false true false false) := by
  refine returnsInHanded_of_change_sized (C := Try.checked) ownKnob_none started (by kernel_rfl) Try.func9
    (ChangeSpec.witness6 (enc := enc) (C := Try.checked) false ⟨#[], #[.slice none 0 0], []⟩ 8 (by kernel_rfl) (by kernel_rfl) (by kernel_rfl) (by kernel_rfl)) ?_
  intro W base args ds gs before hval0 hW hcnd hsz0 _
  have hval : ∀ (j : Nat) t v, Try.f9.params[j]? = some t → args[j]? = some v → Value.okWide Try.prog W .any base t v := hval0
  have hW' := hW
  obtain ⟨p, q, hA0, hV, rfl, hfz, hnd⟩ := hW
  have hA : DataW.TrodAll enc Try.prog W 0 (fun _ => true) true Try.f9.params.toList args.toList ds p := hA0
  have hsz : (DataW.weightsEach Try.prog (Try.f9.params.toList ++ Rows.summaryCoversSpec.plain.varTypes Try.prog) (ds ++ gs)).all (· ≤ reachBytes) = true := hsz0
  rw [Try.params9] at hA hval hsz
  obtain ⟨v0, vs0, d0, ds0, p0, q0, hargs, rfl, rfl, h0, r0⟩ := trodAll_cons hA
  obtain ⟨rfl, rfl, rfl⟩ := trodAll_nil r0
  obtain rfl : args = #[v0] := by cases args; simp_all
  obtain ⟨rfl, rfl⟩ := trodVars_none hV
  obtain ⟨A0, l0, c0, rfl, hT0, hc0, hm0, hn0⟩ := open_sums (hval 0 44 v0 rfl rfl) h0
  clear hA0 hval0 hsz0
  refine (walk A0 l0 c0 W hT0).mono fun e W' ⟨he, hg⟩ => ?_
  subst he
  exact ⟨_, rfl, law_post progLaid hW' rfl (by rw [Try.params9]; intro t ht; simp at ht; subst ht; exact ⟨by kernel_rfl, of_decide_eq_true (by kernel_rfl)⟩) rfl Try.underlying4 rfl hg⟩

theorem over : Rows.summaryCoversRow.holds Try.pinned (OpenSpec.ofChange Rows.summaryCoversSpec) :=
  OpenClaim.holds_of_wide 9 Try.f9 rfl rfl rfl rfl rfl rfl rfl ⟨rfl, rfl, rfl, rfl, rfl⟩ rfl rfl rfl rfl rfl (by kernel_rfl) Try.func9 (by kernel_rfl)
    (of_decide_eq_true (by kernel_rfl)) (by unfold Func.isWrapper; first | (rw [if_pos (by decide +kernel)]; kernel_rfl) | (rw [if_neg (by decide +kernel)]; exact ⟨rfl, rfl⟩))
    (fun os started H enc _ => lifted os started H enc)

/-- The statement. -/
theorem proved : Rows.SummaryCoversSaid :=
  over
end summaryCovers
end Go.Proofs.Ytdpadkellpkppaa
