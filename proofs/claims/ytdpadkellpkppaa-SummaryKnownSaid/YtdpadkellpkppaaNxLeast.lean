/- Least: the document's. -/
import Derived.Test.YtdpadkellpkppaaNxRowA
import Derived.Test.YtdpadkellpkppaaSmD
namespace Go.Proofs.Ytdpadkellpkppaa
namespace Nx
open Mx (rowS rowS_cons rowS_append rowS_len rowS_at rowS_one rowS_take rowS_drop)
open Go.ChangeShapes Go.WideShapes Go.ChangeAt Go.RowKit Go.BigFrame Go.Shelf
set_option linter.unusedVariables false
set_option maxRecDepth 100000
set_option maxRecDepth 100000 in
set_option maxHeartbeats 16000000 in
theorem refLeast_any (A : Option Addr) (ts : List Sm) (c : Nat) (w : World) (hT : Ts w A ts) (hn : ts.length ≤ 1000) :
    Calls Try.prog 26 #[.slice A ts.length c] w fun e w' => (∃ A' c', e = .returned (.slice A' (waysS ts).length c') ∧ Slc w' A' c' (waysS ts)) ∧ Below w.heap.size w w' := by
  have HT := Lib.hid hT; clear hT
  go_enter Try.func26, Try.ntmps26
  go_wp2_with fail
  go_loopw [3, 4] (fun fv i wr => ∃ (k : Nat) (o : List Sm) (A' : Option Addr) (c' : Nat), k ≤ ts.length ∧ i = .int .i64 k ∧ fv = .slice A' o.length c' ∧ Slc wr A' c' o ∧ o.length ≤ k ∧ (A' = none ∨ 0 < o.length) ∧ Below w.heap.size w wr ∧ GoodO ts k o) (fun _ i _ => ts.length - (intOf i).toNat)
  case atStart => exact ⟨0, [], none, 0, by omega, rfl, rfl, slc_none _, by simp, .inl rfl, Below.refl _ _, ⟨List.Pairwise.nil, fun x => by simp⟩⟩
  case round =>
    obtain ⟨k, o, A', c', hk, rfl, rfl, hso, hok, hor, hb, hgo⟩ := hrel
    have HOR := Lib.hid hor; clear hor
    have HB := Lib.hid hb; have HSO := Lib.hid hso; have HGO := Lib.hid hgo; clear hb hso hgo
    by_cases hlt : k < ts.length
    · have hltz : (k : Int) < (ts.length : Int) := by omega
      obtain ⟨t, ht⟩ : ∃ t, ts[k]? = some t := ⟨_, List.getElem?_eq_getElem hlt⟩
      have cr := fun w => refRightM_any t w
      have hT1 := HT.out.below HB.out
      obtain ⟨b, ob, rfl, hbl, hld⟩ := hT1.five ht
      obtain ⟨c0, c1, c2, c3, c4, c5, c6⟩ := hld wr (Below.refl _ _)
      unfold Sm.v at cr
      have CR := Lib.hid cr; have HTT := Lib.hid ht; clear cr ht hT1 hld hbl
      go_wp2_with fail
      clear c0 c1 c2 c3 c4 c5 c6
      refine (CR.out _).mono ?_; rintro e w2 ⟨rfl, hb2⟩
      dsimp only
      have hso := HSO.out.below hb2
      have hb := HB.out.trans (hb2.mono HB.out.size)
      clear HSO HB CR hb2
      have HB := Lib.hid hb; have HSO := Lib.hid hso; clear hb hso
      go_wp2_with fail
      go_loopw [5, 6] (fun bv j wr => ∃ m : Nat, m ≤ ts.length ∧ j = .int .i64 m ∧ bv = .bool (decide (StayTo ts k t m)) ∧ Below w.heap.size w wr ∧ Slc wr A' c' o) (fun _ j _ => ts.length - (intOf j).toNat)
      case atStart => exact ⟨0, by omega, rfl, by rw [stay_zero], HB.out, HSO.out⟩
      case round =>
        obtain ⟨m, hm, rfl, rfl, hb, hso⟩ := hrel
        clear HB HSO
        have HB := Lib.hid hb; have HSO := Lib.hid hso; clear hb hso
        by_cases hlm : m < ts.length
        · have hlmz : (m : Int) < (ts.length : Int) := by omega
          obtain ⟨x, hx⟩ : ∃ x, ts[m]? = some x := ⟨_, List.getElem?_eq_getElem hlm⟩
          have hT1 := HT.out.below HB.out
          obtain ⟨b', o', e, _, h0⟩ := hT1.load hx
          cases e
          obtain ⟨b', o', e, _, h1⟩ := hT1.load HTT.out
          cases e
          have H0 := Lib.hid h0; have H1 := Lib.hid h1; have HXX := Lib.hid hx; clear h0 h1 hx hT1
          go_wp2_with fail
          go_cut [61] from 26 to 61 (fun s wx => s = .bool (badJ k t m x) ∧ Below wr.heap.size wr wx)
          case first =>
            by_cases he : x = t
            · have e1 : eqS x t = true := decide_eq_true he
              have e2 : (!eqS x t) = false := by rw [e1]; rfl
              by_cases hj : m < k
              · have hbd : badJ k t m x = true := by unfold badJ; rw [e1, decide_eq_true hj]; simp
                have hg : decide ((m : Int) < (k : Int)) = true := decide_eq_true (by omega)
                have HBD := Lib.hid hbd; have HE := Lib.hid e1; have HNE := Lib.hid e2; have HG := Lib.hid hg; clear hbd e1 e2 hg he
                refine wp_region_below (by kernel_rfl) (by kernel_rfl) ?_
                refine wpQuiet_step (fun K hK => ?_); go_simp; (first | (with_reducible refine hK _ ?_) | (with_reducible refine ⟨_, fun _ _ => rfl, hK _ ?_⟩)); clear hK K
                refine wpQuiet_step (fun K hK => ?_); go_simp; (first | (with_reducible refine hK _ ?_) | (with_reducible refine ⟨_, fun _ _ => rfl, hK _ ?_⟩)); clear hK K
                refine wpQuiet_step (fun K hK => ?_); go_simp; (first | (with_reducible refine hK _ ?_) | (with_reducible refine ⟨_, fun _ _ => rfl, hK _ ?_⟩)); clear hK K
                refine wpQuiet_step (fun K hK => ?_); refine q_load (p := .pointer (some ⟨b, ob + m * 7, none⟩)) 30 _ rfl rfl rfl (H0.out) ?_; go_simp; (with_reducible refine hK _ ?_); clear hK K
                refine wpQuiet_step (fun K hK => ?_); go_simp; (first | (with_reducible refine hK _ ?_) | (with_reducible refine ⟨_, fun _ _ => rfl, hK _ ?_⟩)); clear hK K
                refine wpQuiet_step (fun K hK => ?_); go_simp; (first | (with_reducible refine hK _ ?_) | (with_reducible refine ⟨_, fun _ _ => rfl, hK _ ?_⟩)); clear hK K
                refine wpQuiet_step (fun K hK => ?_); go_simp; (first | (with_reducible refine hK _ ?_) | (with_reducible refine ⟨_, fun _ _ => rfl, hK _ ?_⟩)); clear hK K
                refine wpQuiet_step (fun K hK => ?_); refine q_load (p := .pointer (some ⟨b, ob + k * 7, none⟩)) 30 _ rfl rfl rfl (H1.out) ?_; go_simp; (with_reducible refine hK _ ?_); clear hK K
                refine wpQuiet_step (fun K hK => ?_); refine q_bin _ _ _ _ _ rfl rfl rfl rfl (nes_is HNE.out) ?_; go_simp; (with_reducible refine hK _ ?_); clear hK K
                refine wpQuiet_step (fun K hK => ?_); go_simp; (try (with_reducible refine ⟨_, fun _ _ => rfl, ?_⟩)); generalize hA : ({ tmps := _, defers := _ } : Act) = A; (with_reducible refine hK A ?_); clear hK K
                refine wpQuiet_step (fun K hK => ?_); subst hA; go_simp; (try (with_reducible refine ⟨_, fun _ _ => rfl, ?_⟩)); generalize hA : ({ tmps := _, defers := _ } : Act) = A; (with_reducible refine hK A ?_); clear hK K
                refine wpQuiet_step (fun K hK => ?_); subst hA; go_simp; (try (with_reducible refine ⟨_, fun _ _ => rfl, ?_⟩)); generalize hA : ({ tmps := _, defers := _ } : Act) = A; (with_reducible refine hK A ?_); clear hK K
                refine wpQuiet_step (fun K hK => ?_); subst hA; go_simp; (try (with_reducible refine ⟨_, fun _ _ => rfl, ?_⟩)); generalize hA : ({ tmps := _, defers := _ } : Act) = A; (with_reducible refine hK A ?_); clear hK K
                refine wpQuiet_step (fun K hK => ?_); subst hA; go_simp; (try (with_reducible refine ⟨_, fun _ _ => rfl, ?_⟩)); generalize hA : ({ tmps := _, defers := _ } : Act) = A; (with_reducible refine hK A ?_); clear hK K
                refine wpQuiet_step (fun K hK => ?_); subst hA; go_simp; (try (with_reducible refine ⟨_, fun _ _ => rfl, ?_⟩)); generalize hA : ({ tmps := _, defers := _ } : Act) = A; (with_reducible refine hK A ?_); clear hK K
                refine wpQuiet_step (fun K hK => ?_); subst hA; go_simp; (try (with_reducible refine ⟨_, fun _ _ => rfl, ?_⟩)); generalize hA : ({ tmps := _, defers := _ } : Act) = A; (with_reducible refine hK A ?_); clear hK K
                refine wpQuiet_step (fun K hK => ?_); subst hA; go_simp; (try (with_reducible refine ⟨_, fun _ _ => rfl, ?_⟩)); generalize hA : ({ tmps := _, defers := _ } : Act) = A; (with_reducible refine hK A ?_); clear hK K
                refine wpQuiet_step (fun K hK => ?_); subst hA; go_simp; (try (with_reducible refine ⟨_, fun _ _ => rfl, ?_⟩)); generalize hA : ({ tmps := _, defers := _ } : Act) = A; (with_reducible refine hK A ?_); clear hK K
                refine wpQuiet_step (fun K hK => ?_); subst hA; go_simp; (try (with_reducible refine ⟨_, fun _ _ => rfl, ?_⟩)); generalize hA : ({ tmps := _, defers := _ } : Act) = A; (with_reducible refine hK A ?_); clear hK K
                refine wpQuiet_step (fun K hK => ?_); subst hA; go_simp; (first | (with_reducible refine hK _ ?_) | (with_reducible refine ⟨_, fun _ _ => rfl, hK _ ?_⟩)); clear hK K
                refine wpQuiet_step (fun K hK => ?_); go_simp; (first | (with_reducible refine hK _ ?_) | (with_reducible refine ⟨_, fun _ _ => rfl, hK _ ?_⟩)); clear hK K
                refine wpQuiet_step (fun K hK => ?_); go_simp; (first | (with_reducible refine hK _ ?_) | (with_reducible refine ⟨_, fun _ _ => rfl, hK _ ?_⟩)); clear hK K
                refine wpQuiet_step (fun K hK => ?_); go_simp; (first | (with_reducible refine hK _ ?_) | (with_reducible refine ⟨_, fun _ _ => rfl, hK _ ?_⟩)); clear hK K
                refine wpQuiet_step (fun K hK => ?_); refine q_bin _ _ _ _ _ rfl rfl rfl rfl (lti_is HG.out) ?_; go_simp; (with_reducible refine hK _ ?_); clear hK K
                refine wpQuiet_step (fun K hK => ?_); go_simp; (first | (with_reducible refine hK _ ?_) | (with_reducible refine ⟨_, fun _ _ => rfl, hK _ ?_⟩)); clear hK K
                refine wpQuiet_step (fun K hK => ?_); go_simp; (first | (with_reducible refine hK _ ?_) | (with_reducible refine ⟨_, fun _ _ => rfl, hK _ ?_⟩)); clear hK K
                refine wpQuiet_step (fun K hK => ?_); go_simp; (first | (with_reducible refine hK _ ?_) | (with_reducible refine ⟨_, fun _ _ => rfl, hK _ ?_⟩)); clear hK K
                refine wpQuiet_step (fun K hK => ?_); go_simp; (first | (with_reducible refine hK _ ?_) | (with_reducible refine ⟨_, fun _ _ => rfl, hK _ ?_⟩)); clear hK K
                refine wpQuiet_step (fun K hK => ?_); refine q_load (p := .pointer (some ⟨b, ob + m * 7, none⟩)) 30 _ rfl rfl rfl (H0.out) ?_; go_simp; (with_reducible refine hK _ ?_); clear hK K
                refine wpQuiet_step (fun K hK => ?_); go_simp; (first | (with_reducible refine hK _ ?_) | (with_reducible refine ⟨_, fun _ _ => rfl, hK _ ?_⟩)); clear hK K
                refine wpQuiet_step (fun K hK => ?_); go_simp; (first | (with_reducible refine hK _ ?_) | (with_reducible refine ⟨_, fun _ _ => rfl, hK _ ?_⟩)); clear hK K
                refine wpQuiet_step (fun K hK => ?_); go_simp; (first | (with_reducible refine hK _ ?_) | (with_reducible refine ⟨_, fun _ _ => rfl, hK _ ?_⟩)); clear hK K
                refine wpQuiet_step (fun K hK => ?_); refine q_load (p := .pointer (some ⟨b, ob + k * 7, none⟩)) 30 _ rfl rfl rfl (H1.out) ?_; go_simp; (with_reducible refine hK _ ?_); clear hK K
                refine wpQuiet_step (fun K hK => ?_); refine q_bin _ _ _ _ _ rfl rfl rfl rfl (eqs_is HE.out) ?_; go_simp; (with_reducible refine hK _ ?_); clear hK K
                refine wpQuiet_step (fun K hK => ?_); go_simp; (first | (with_reducible refine hK _ ?_) | (with_reducible refine ⟨_, fun _ _ => rfl, hK _ ?_⟩)); clear hK K
                refine wpQuiet_step (fun K hK => ?_); go_simp; (first | (with_reducible refine hK _ ?_) | (with_reducible refine ⟨_, fun _ _ => rfl, hK _ ?_⟩)); clear hK K
                refine wpQuiet_nil ?_
                intro wz hbel
                go_wp2_with fail
                go_meet
                exact ⟨by rw [HBD.out], hbel⟩
              · have hbd : badJ k t m x = false := by unfold badJ; rw [e1, decide_eq_false hj]; simp
                have hg : decide ((m : Int) < (k : Int)) = false := decide_eq_false (by omega)
                have HBD := Lib.hid hbd; have HE := Lib.hid e1; have HNE := Lib.hid e2; have HG := Lib.hid hg; clear hbd e1 e2 hg he
                refine wp_region_below (by kernel_rfl) (by kernel_rfl) ?_
                refine wpQuiet_step (fun K hK => ?_); go_simp; (first | (with_reducible refine hK _ ?_) | (with_reducible refine ⟨_, fun _ _ => rfl, hK _ ?_⟩)); clear hK K
                refine wpQuiet_step (fun K hK => ?_); go_simp; (first | (with_reducible refine hK _ ?_) | (with_reducible refine ⟨_, fun _ _ => rfl, hK _ ?_⟩)); clear hK K
                refine wpQuiet_step (fun K hK => ?_); go_simp; (first | (with_reducible refine hK _ ?_) | (with_reducible refine ⟨_, fun _ _ => rfl, hK _ ?_⟩)); clear hK K
                refine wpQuiet_step (fun K hK => ?_); refine q_load (p := .pointer (some ⟨b, ob + m * 7, none⟩)) 30 _ rfl rfl rfl (H0.out) ?_; go_simp; (with_reducible refine hK _ ?_); clear hK K
                refine wpQuiet_step (fun K hK => ?_); go_simp; (first | (with_reducible refine hK _ ?_) | (with_reducible refine ⟨_, fun _ _ => rfl, hK _ ?_⟩)); clear hK K
                refine wpQuiet_step (fun K hK => ?_); go_simp; (first | (with_reducible refine hK _ ?_) | (with_reducible refine ⟨_, fun _ _ => rfl, hK _ ?_⟩)); clear hK K
                refine wpQuiet_step (fun K hK => ?_); go_simp; (first | (with_reducible refine hK _ ?_) | (with_reducible refine ⟨_, fun _ _ => rfl, hK _ ?_⟩)); clear hK K
                refine wpQuiet_step (fun K hK => ?_); refine q_load (p := .pointer (some ⟨b, ob + k * 7, none⟩)) 30 _ rfl rfl rfl (H1.out) ?_; go_simp; (with_reducible refine hK _ ?_); clear hK K
                refine wpQuiet_step (fun K hK => ?_); refine q_bin _ _ _ _ _ rfl rfl rfl rfl (nes_is HNE.out) ?_; go_simp; (with_reducible refine hK _ ?_); clear hK K
                refine wpQuiet_step (fun K hK => ?_); go_simp; (try (with_reducible refine ⟨_, fun _ _ => rfl, ?_⟩)); generalize hA : ({ tmps := _, defers := _ } : Act) = A; (with_reducible refine hK A ?_); clear hK K
                refine wpQuiet_step (fun K hK => ?_); subst hA; go_simp; (try (with_reducible refine ⟨_, fun _ _ => rfl, ?_⟩)); generalize hA : ({ tmps := _, defers := _ } : Act) = A; (with_reducible refine hK A ?_); clear hK K
                refine wpQuiet_step (fun K hK => ?_); subst hA; go_simp; (try (with_reducible refine ⟨_, fun _ _ => rfl, ?_⟩)); generalize hA : ({ tmps := _, defers := _ } : Act) = A; (with_reducible refine hK A ?_); clear hK K
                refine wpQuiet_step (fun K hK => ?_); subst hA; go_simp; (try (with_reducible refine ⟨_, fun _ _ => rfl, ?_⟩)); generalize hA : ({ tmps := _, defers := _ } : Act) = A; (with_reducible refine hK A ?_); clear hK K
                refine wpQuiet_step (fun K hK => ?_); subst hA; go_simp; (try (with_reducible refine ⟨_, fun _ _ => rfl, ?_⟩)); generalize hA : ({ tmps := _, defers := _ } : Act) = A; (with_reducible refine hK A ?_); clear hK K
                refine wpQuiet_step (fun K hK => ?_); subst hA; go_simp; (try (with_reducible refine ⟨_, fun _ _ => rfl, ?_⟩)); generalize hA : ({ tmps := _, defers := _ } : Act) = A; (with_reducible refine hK A ?_); clear hK K
                refine wpQuiet_step (fun K hK => ?_); subst hA; go_simp; (try (with_reducible refine ⟨_, fun _ _ => rfl, ?_⟩)); generalize hA : ({ tmps := _, defers := _ } : Act) = A; (with_reducible refine hK A ?_); clear hK K
                refine wpQuiet_step (fun K hK => ?_); subst hA; go_simp; (try (with_reducible refine ⟨_, fun _ _ => rfl, ?_⟩)); generalize hA : ({ tmps := _, defers := _ } : Act) = A; (with_reducible refine hK A ?_); clear hK K
                refine wpQuiet_step (fun K hK => ?_); subst hA; go_simp; (try (with_reducible refine ⟨_, fun _ _ => rfl, ?_⟩)); generalize hA : ({ tmps := _, defers := _ } : Act) = A; (with_reducible refine hK A ?_); clear hK K
                refine wpQuiet_step (fun K hK => ?_); subst hA; go_simp; (try (with_reducible refine ⟨_, fun _ _ => rfl, ?_⟩)); generalize hA : ({ tmps := _, defers := _ } : Act) = A; (with_reducible refine hK A ?_); clear hK K
                refine wpQuiet_step (fun K hK => ?_); subst hA; go_simp; (first | (with_reducible refine hK _ ?_) | (with_reducible refine ⟨_, fun _ _ => rfl, hK _ ?_⟩)); clear hK K
                refine wpQuiet_step (fun K hK => ?_); go_simp; (first | (with_reducible refine hK _ ?_) | (with_reducible refine ⟨_, fun _ _ => rfl, hK _ ?_⟩)); clear hK K
                refine wpQuiet_step (fun K hK => ?_); go_simp; (first | (with_reducible refine hK _ ?_) | (with_reducible refine ⟨_, fun _ _ => rfl, hK _ ?_⟩)); clear hK K
                refine wpQuiet_step (fun K hK => ?_); go_simp; (first | (with_reducible refine hK _ ?_) | (with_reducible refine ⟨_, fun _ _ => rfl, hK _ ?_⟩)); clear hK K
                refine wpQuiet_step (fun K hK => ?_); refine q_bin _ _ _ _ _ rfl rfl rfl rfl (lti_is HG.out) ?_; go_simp; (with_reducible refine hK _ ?_); clear hK K
                refine wpQuiet_step (fun K hK => ?_); go_simp; (try (with_reducible refine ⟨_, fun _ _ => rfl, ?_⟩)); generalize hA : ({ tmps := _, defers := _ } : Act) = A; (with_reducible refine hK A ?_); clear hK K
                refine wpQuiet_step (fun K hK => ?_); subst hA; go_simp; (try (with_reducible refine ⟨_, fun _ _ => rfl, ?_⟩)); generalize hA : ({ tmps := _, defers := _ } : Act) = A; (with_reducible refine hK A ?_); clear hK K
                refine wpQuiet_step (fun K hK => ?_); subst hA; go_simp; (try (with_reducible refine ⟨_, fun _ _ => rfl, ?_⟩)); generalize hA : ({ tmps := _, defers := _ } : Act) = A; (with_reducible refine hK A ?_); clear hK K
                refine wpQuiet_step (fun K hK => ?_); subst hA; go_simp; (try (with_reducible refine ⟨_, fun _ _ => rfl, ?_⟩)); generalize hA : ({ tmps := _, defers := _ } : Act) = A; (with_reducible refine hK A ?_); clear hK K
                refine wpQuiet_step (fun K hK => ?_); subst hA; go_simp; (try (with_reducible refine ⟨_, fun _ _ => rfl, ?_⟩)); generalize hA : ({ tmps := _, defers := _ } : Act) = A; (with_reducible refine hK A ?_); clear hK K
                refine wpQuiet_step (fun K hK => ?_); subst hA; go_simp; (try (with_reducible refine ⟨_, fun _ _ => rfl, ?_⟩)); generalize hA : ({ tmps := _, defers := _ } : Act) = A; (with_reducible refine hK A ?_); clear hK K
                refine wpQuiet_step (fun K hK => ?_); subst hA; go_simp; (try (with_reducible refine ⟨_, fun _ _ => rfl, ?_⟩)); generalize hA : ({ tmps := _, defers := _ } : Act) = A; (with_reducible refine hK A ?_); clear hK K
                refine wpQuiet_step (fun K hK => ?_); subst hA; go_simp; (try (with_reducible refine ⟨_, fun _ _ => rfl, ?_⟩)); generalize hA : ({ tmps := _, defers := _ } : Act) = A; (with_reducible refine hK A ?_); clear hK K
                refine wpQuiet_step (fun K hK => ?_); subst hA; go_simp; (try (with_reducible refine ⟨_, fun _ _ => rfl, ?_⟩)); generalize hA : ({ tmps := _, defers := _ } : Act) = A; (with_reducible refine hK A ?_); clear hK K
                refine wpQuiet_step (fun K hK => ?_); subst hA; go_simp; (try (with_reducible refine ⟨_, fun _ _ => rfl, ?_⟩)); generalize hA : ({ tmps := _, defers := _ } : Act) = A; (with_reducible refine hK A ?_); clear hK K
                refine wpQuiet_step (fun K hK => ?_); subst hA; go_simp; (first | (with_reducible refine hK _ ?_) | (with_reducible refine ⟨_, fun _ _ => rfl, hK _ ?_⟩)); clear hK K
                refine wpQuiet_step (fun K hK => ?_); go_simp; (first | (with_reducible refine hK _ ?_) | (with_reducible refine ⟨_, fun _ _ => rfl, hK _ ?_⟩)); clear hK K
                refine wpQuiet_nil ?_
                intro wz hbel
                go_wp2_with fail
                go_meet
                exact ⟨by rw [HBD.out], hbel⟩
            · have e1 : eqS x t = false := decide_eq_false he
              have e2 : (!eqS x t) = true := by rw [e1]; rfl
              have hc := fun w => refLeqM_any x t w
              unfold Sm.v at hc
              cases hv : decide (x.L t) with
              | true =>
                rw [hv] at hc
                have hbd : badJ k t m x = true := by unfold badJ; rw [e1, hv]; simp
                have HBD := Lib.hid hbd; have HNE := Lib.hid e2; have HC := Lib.hid hc; clear hbd e1 e2 hc hv he
                refine wp_region_below (by kernel_rfl) (by kernel_rfl) ?_
                refine wpQuiet_step (fun K hK => ?_); go_simp; (first | (with_reducible refine hK _ ?_) | (with_reducible refine ⟨_, fun _ _ => rfl, hK _ ?_⟩)); clear hK K
                refine wpQuiet_step (fun K hK => ?_); go_simp; (first | (with_reducible refine hK _ ?_) | (with_reducible refine ⟨_, fun _ _ => rfl, hK _ ?_⟩)); clear hK K
                refine wpQuiet_step (fun K hK => ?_); go_simp; (first | (with_reducible refine hK _ ?_) | (with_reducible refine ⟨_, fun _ _ => rfl, hK _ ?_⟩)); clear hK K
                refine wpQuiet_step (fun K hK => ?_); refine q_load (p := .pointer (some ⟨b, ob + m * 7, none⟩)) 30 _ rfl rfl rfl (H0.out) ?_; go_simp; (with_reducible refine hK _ ?_); clear hK K
                refine wpQuiet_step (fun K hK => ?_); go_simp; (first | (with_reducible refine hK _ ?_) | (with_reducible refine ⟨_, fun _ _ => rfl, hK _ ?_⟩)); clear hK K
                refine wpQuiet_step (fun K hK => ?_); go_simp; (first | (with_reducible refine hK _ ?_) | (with_reducible refine ⟨_, fun _ _ => rfl, hK _ ?_⟩)); clear hK K
                refine wpQuiet_step (fun K hK => ?_); go_simp; (first | (with_reducible refine hK _ ?_) | (with_reducible refine ⟨_, fun _ _ => rfl, hK _ ?_⟩)); clear hK K
                refine wpQuiet_step (fun K hK => ?_); refine q_load (p := .pointer (some ⟨b, ob + k * 7, none⟩)) 30 _ rfl rfl rfl (H1.out) ?_; go_simp; (with_reducible refine hK _ ?_); clear hK K
                refine wpQuiet_step (fun K hK => ?_); refine q_bin _ _ _ _ _ rfl rfl rfl rfl (nes_is HNE.out) ?_; go_simp; (with_reducible refine hK _ ?_); clear hK K
                refine wpQuiet_step (fun K hK => ?_); go_simp; (first | (with_reducible refine hK _ ?_) | (with_reducible refine ⟨_, fun _ _ => rfl, hK _ ?_⟩)); clear hK K
                refine wpQuiet_step (fun K hK => ?_); go_simp; (first | (with_reducible refine hK _ ?_) | (with_reducible refine ⟨_, fun _ _ => rfl, hK _ ?_⟩)); clear hK K
                refine wpQuiet_step (fun K hK => ?_); go_simp; (first | (with_reducible refine hK _ ?_) | (with_reducible refine ⟨_, fun _ _ => rfl, hK _ ?_⟩)); clear hK K
                refine wpQuiet_step (fun K hK => ?_); go_simp; (first | (with_reducible refine hK _ ?_) | (with_reducible refine ⟨_, fun _ _ => rfl, hK _ ?_⟩)); clear hK K
                refine wpQuiet_step (fun K hK => ?_); refine q_load (p := .pointer (some ⟨b, ob + m * 7, none⟩)) 30 _ rfl rfl rfl (H0.out) ?_; go_simp; (with_reducible refine hK _ ?_); clear hK K
                refine wpQuiet_step (fun K hK => ?_); go_simp; (first | (with_reducible refine hK _ ?_) | (with_reducible refine ⟨_, fun _ _ => rfl, hK _ ?_⟩)); clear hK K
                refine wpQuiet_step (fun K hK => ?_); go_simp; (first | (with_reducible refine hK _ ?_) | (with_reducible refine ⟨_, fun _ _ => rfl, hK _ ?_⟩)); clear hK K
                refine wpQuiet_step (fun K hK => ?_); go_simp; (first | (with_reducible refine hK _ ?_) | (with_reducible refine ⟨_, fun _ _ => rfl, hK _ ?_⟩)); clear hK K
                refine wpQuiet_step (fun K hK => ?_); refine q_load (p := .pointer (some ⟨b, ob + k * 7, none⟩)) 30 _ rfl rfl rfl (H1.out) ?_; go_simp; (with_reducible refine hK _ ?_); clear hK K
                refine wpQuiet_step (fun K hK => ?_); go_simp; (with_reducible refine ⟨_, fun _ hb => (HC.out _).mono fun _ _ h => ⟨h.1, hb.trans (h.2.mono (by simpa using hb.size))⟩, hK _ ?_⟩); clear hK K
                refine wpQuiet_step (fun K hK => ?_); go_simp; (first | (with_reducible refine hK _ ?_) | (with_reducible refine ⟨_, fun _ _ => rfl, hK _ ?_⟩)); clear hK K
                refine wpQuiet_step (fun K hK => ?_); go_simp; (try (with_reducible refine ⟨_, fun _ _ => rfl, ?_⟩)); generalize hA : ({ tmps := _, defers := _ } : Act) = A; (with_reducible refine hK A ?_); clear hK K
                refine wpQuiet_step (fun K hK => ?_); subst hA; go_simp; (try (with_reducible refine ⟨_, fun _ _ => rfl, ?_⟩)); generalize hA : ({ tmps := _, defers := _ } : Act) = A; (with_reducible refine hK A ?_); clear hK K
                refine wpQuiet_step (fun K hK => ?_); subst hA; go_simp; (try (with_reducible refine ⟨_, fun _ _ => rfl, ?_⟩)); generalize hA : ({ tmps := _, defers := _ } : Act) = A; (with_reducible refine hK A ?_); clear hK K
                refine wpQuiet_step (fun K hK => ?_); subst hA; go_simp; (try (with_reducible refine ⟨_, fun _ _ => rfl, ?_⟩)); generalize hA : ({ tmps := _, defers := _ } : Act) = A; (with_reducible refine hK A ?_); clear hK K
                refine wpQuiet_step (fun K hK => ?_); subst hA; go_simp; (try (with_reducible refine ⟨_, fun _ _ => rfl, ?_⟩)); generalize hA : ({ tmps := _, defers := _ } : Act) = A; (with_reducible refine hK A ?_); clear hK K
                refine wpQuiet_step (fun K hK => ?_); subst hA; go_simp; generalize hA : ({ tmps := _, defers := _ } : Act) = A; rw [if_neg (by simp [undef])]; (with_reducible refine hK A ?_); clear hK K
                refine wpQuiet_step (fun K hK => ?_); subst hA; go_simp; generalize hA : ({ tmps := _, defers := _ } : Act) = A; rw [if_neg (by simp [undef])]; (with_reducible refine hK A ?_); clear hK K
                refine wpQuiet_step (fun K hK => ?_); subst hA; go_simp; generalize hA : ({ tmps := _, defers := _ } : Act) = A; rw [if_neg (by simp [undef])]; (with_reducible refine hK A ?_); clear hK K
                refine wpQuiet_step (fun K hK => ?_); subst hA; go_simp; generalize hA : ({ tmps := _, defers := _ } : Act) = A; rw [if_neg (by simp [undef])]; (with_reducible refine hK A ?_); clear hK K
                refine wpQuiet_step (fun K hK => ?_); subst hA; go_simp; generalize hA : ({ tmps := _, defers := _ } : Act) = A; rw [if_neg (by simp [undef])]; (with_reducible refine hK A ?_); clear hK K
                refine wpQuiet_step (fun K hK => ?_); subst hA; go_simp; generalize hA : ({ tmps := _, defers := _ } : Act) = A; rw [if_neg (by simp [undef])]; (with_reducible refine hK A ?_); clear hK K
                refine wpQuiet_step (fun K hK => ?_); subst hA; go_simp; generalize hA : ({ tmps := _, defers := _ } : Act) = A; rw [if_neg (by simp [undef])]; (with_reducible refine hK A ?_); clear hK K
                refine wpQuiet_step (fun K hK => ?_); subst hA; go_simp; generalize hA : ({ tmps := _, defers := _ } : Act) = A; rw [if_neg (by simp [undef])]; (with_reducible refine hK A ?_); clear hK K
                refine wpQuiet_step (fun K hK => ?_); subst hA; go_simp; generalize hA : ({ tmps := _, defers := _ } : Act) = A; rw [if_neg (by simp [undef])]; (with_reducible refine hK A ?_); clear hK K
                refine wpQuiet_step (fun K hK => ?_); subst hA; go_simp; (try (with_reducible refine ⟨_, fun _ _ => rfl, ?_⟩)); generalize hA : ({ tmps := _, defers := _ } : Act) = A; (with_reducible refine hK A ?_); clear hK K
                refine wpQuiet_step (fun K hK => ?_); subst hA; go_simp; (first | (with_reducible refine hK _ ?_) | (with_reducible refine ⟨_, fun _ _ => rfl, hK _ ?_⟩)); clear hK K
                refine wpQuiet_nil ?_
                intro wz hbel
                go_wp2_with fail
                go_meet
                exact ⟨by rw [HBD.out], hbel⟩
              | false =>
                rw [hv] at hc
                have hbd : badJ k t m x = false := by unfold badJ; rw [e1, hv]; simp
                have HBD := Lib.hid hbd; have HE := Lib.hid e1; have HNE := Lib.hid e2; have HC := Lib.hid hc; clear hbd e1 e2 hc hv he
                by_cases hj : m < k
                · have hg : decide ((m : Int) < (k : Int)) = true := decide_eq_true (by omega)
                  have HG := Lib.hid hg; clear hg
                  refine wp_region_below (by kernel_rfl) (by kernel_rfl) ?_
                  refine wpQuiet_step (fun K hK => ?_); go_simp; (first | (with_reducible refine hK _ ?_) | (with_reducible refine ⟨_, fun _ _ => rfl, hK _ ?_⟩)); clear hK K
                  refine wpQuiet_step (fun K hK => ?_); go_simp; (first | (with_reducible refine hK _ ?_) | (with_reducible refine ⟨_, fun _ _ => rfl, hK _ ?_⟩)); clear hK K
                  refine wpQuiet_step (fun K hK => ?_); go_simp; (first | (with_reducible refine hK _ ?_) | (with_reducible refine ⟨_, fun _ _ => rfl, hK _ ?_⟩)); clear hK K
                  refine wpQuiet_step (fun K hK => ?_); refine q_load (p := .pointer (some ⟨b, ob + m * 7, none⟩)) 30 _ rfl rfl rfl (H0.out) ?_; go_simp; (with_reducible refine hK _ ?_); clear hK K
                  refine wpQuiet_step (fun K hK => ?_); go_simp; (first | (with_reducible refine hK _ ?_) | (with_reducible refine ⟨_, fun _ _ => rfl, hK _ ?_⟩)); clear hK K
                  refine wpQuiet_step (fun K hK => ?_); go_simp; (first | (with_reducible refine hK _ ?_) | (with_reducible refine ⟨_, fun _ _ => rfl, hK _ ?_⟩)); clear hK K
                  refine wpQuiet_step (fun K hK => ?_); go_simp; (first | (with_reducible refine hK _ ?_) | (with_reducible refine ⟨_, fun _ _ => rfl, hK _ ?_⟩)); clear hK K
                  refine wpQuiet_step (fun K hK => ?_); refine q_load (p := .pointer (some ⟨b, ob + k * 7, none⟩)) 30 _ rfl rfl rfl (H1.out) ?_; go_simp; (with_reducible refine hK _ ?_); clear hK K
                  refine wpQuiet_step (fun K hK => ?_); refine q_bin _ _ _ _ _ rfl rfl rfl rfl (nes_is HNE.out) ?_; go_simp; (with_reducible refine hK _ ?_); clear hK K
                  refine wpQuiet_step (fun K hK => ?_); go_simp; (first | (with_reducible refine hK _ ?_) | (with_reducible refine ⟨_, fun _ _ => rfl, hK _ ?_⟩)); clear hK K
                  refine wpQuiet_step (fun K hK => ?_); go_simp; (first | (with_reducible refine hK _ ?_) | (with_reducible refine ⟨_, fun _ _ => rfl, hK _ ?_⟩)); clear hK K
                  refine wpQuiet_step (fun K hK => ?_); go_simp; (first | (with_reducible refine hK _ ?_) | (with_reducible refine ⟨_, fun _ _ => rfl, hK _ ?_⟩)); clear hK K
                  refine wpQuiet_step (fun K hK => ?_); go_simp; (first | (with_reducible refine hK _ ?_) | (with_reducible refine ⟨_, fun _ _ => rfl, hK _ ?_⟩)); clear hK K
                  refine wpQuiet_step (fun K hK => ?_); refine q_load (p := .pointer (some ⟨b, ob + m * 7, none⟩)) 30 _ rfl rfl rfl (H0.out) ?_; go_simp; (with_reducible refine hK _ ?_); clear hK K
                  refine wpQuiet_step (fun K hK => ?_); go_simp; (first | (with_reducible refine hK _ ?_) | (with_reducible refine ⟨_, fun _ _ => rfl, hK _ ?_⟩)); clear hK K
                  refine wpQuiet_step (fun K hK => ?_); go_simp; (first | (with_reducible refine hK _ ?_) | (with_reducible refine ⟨_, fun _ _ => rfl, hK _ ?_⟩)); clear hK K
                  refine wpQuiet_step (fun K hK => ?_); go_simp; (first | (with_reducible refine hK _ ?_) | (with_reducible refine ⟨_, fun _ _ => rfl, hK _ ?_⟩)); clear hK K
                  refine wpQuiet_step (fun K hK => ?_); refine q_load (p := .pointer (some ⟨b, ob + k * 7, none⟩)) 30 _ rfl rfl rfl (H1.out) ?_; go_simp; (with_reducible refine hK _ ?_); clear hK K
                  refine wpQuiet_step (fun K hK => ?_); go_simp; (with_reducible refine ⟨_, fun _ hb => (HC.out _).mono fun _ _ h => ⟨h.1, hb.trans (h.2.mono (by simpa using hb.size))⟩, hK _ ?_⟩); clear hK K
                  refine wpQuiet_step (fun K hK => ?_); go_simp; (first | (with_reducible refine hK _ ?_) | (with_reducible refine ⟨_, fun _ _ => rfl, hK _ ?_⟩)); clear hK K
                  refine wpQuiet_step (fun K hK => ?_); go_simp; (first | (with_reducible refine hK _ ?_) | (with_reducible refine ⟨_, fun _ _ => rfl, hK _ ?_⟩)); clear hK K
                  refine wpQuiet_step (fun K hK => ?_); go_simp; (first | (with_reducible refine hK _ ?_) | (with_reducible refine ⟨_, fun _ _ => rfl, hK _ ?_⟩)); clear hK K
                  refine wpQuiet_step (fun K hK => ?_); go_simp; (first | (with_reducible refine hK _ ?_) | (with_reducible refine ⟨_, fun _ _ => rfl, hK _ ?_⟩)); clear hK K
                  refine wpQuiet_step (fun K hK => ?_); refine q_bin _ _ _ _ _ rfl rfl rfl rfl (lti_is HG.out) ?_; go_simp; (with_reducible refine hK _ ?_); clear hK K
                  refine wpQuiet_step (fun K hK => ?_); go_simp; (first | (with_reducible refine hK _ ?_) | (with_reducible refine ⟨_, fun _ _ => rfl, hK _ ?_⟩)); clear hK K
                  refine wpQuiet_step (fun K hK => ?_); go_simp; (first | (with_reducible refine hK _ ?_) | (with_reducible refine ⟨_, fun _ _ => rfl, hK _ ?_⟩)); clear hK K
                  refine wpQuiet_step (fun K hK => ?_); go_simp; (first | (with_reducible refine hK _ ?_) | (with_reducible refine ⟨_, fun _ _ => rfl, hK _ ?_⟩)); clear hK K
                  refine wpQuiet_step (fun K hK => ?_); go_simp; (first | (with_reducible refine hK _ ?_) | (with_reducible refine ⟨_, fun _ _ => rfl, hK _ ?_⟩)); clear hK K
                  refine wpQuiet_step (fun K hK => ?_); refine q_load (p := .pointer (some ⟨b, ob + m * 7, none⟩)) 30 _ rfl rfl rfl (H0.out) ?_; go_simp; (with_reducible refine hK _ ?_); clear hK K
                  refine wpQuiet_step (fun K hK => ?_); go_simp; (first | (with_reducible refine hK _ ?_) | (with_reducible refine ⟨_, fun _ _ => rfl, hK _ ?_⟩)); clear hK K
                  refine wpQuiet_step (fun K hK => ?_); go_simp; (first | (with_reducible refine hK _ ?_) | (with_reducible refine ⟨_, fun _ _ => rfl, hK _ ?_⟩)); clear hK K
                  refine wpQuiet_step (fun K hK => ?_); go_simp; (first | (with_reducible refine hK _ ?_) | (with_reducible refine ⟨_, fun _ _ => rfl, hK _ ?_⟩)); clear hK K
                  refine wpQuiet_step (fun K hK => ?_); refine q_load (p := .pointer (some ⟨b, ob + k * 7, none⟩)) 30 _ rfl rfl rfl (H1.out) ?_; go_simp; (with_reducible refine hK _ ?_); clear hK K
                  refine wpQuiet_step (fun K hK => ?_); refine q_bin _ _ _ _ _ rfl rfl rfl rfl (eqs_is HE.out) ?_; go_simp; (with_reducible refine hK _ ?_); clear hK K
                  refine wpQuiet_step (fun K hK => ?_); go_simp; (first | (with_reducible refine hK _ ?_) | (with_reducible refine ⟨_, fun _ _ => rfl, hK _ ?_⟩)); clear hK K
                  refine wpQuiet_step (fun K hK => ?_); go_simp; (first | (with_reducible refine hK _ ?_) | (with_reducible refine ⟨_, fun _ _ => rfl, hK _ ?_⟩)); clear hK K
                  refine wpQuiet_nil ?_
                  intro wz hbel
                  go_wp2_with fail
                  go_meet
                  exact ⟨by rw [HBD.out], hbel⟩
                · have hg : decide ((m : Int) < (k : Int)) = false := decide_eq_false (by omega)
                  have HG := Lib.hid hg; clear hg
                  refine wp_region_below (by kernel_rfl) (by kernel_rfl) ?_
                  refine wpQuiet_step (fun K hK => ?_); go_simp; (first | (with_reducible refine hK _ ?_) | (with_reducible refine ⟨_, fun _ _ => rfl, hK _ ?_⟩)); clear hK K
                  refine wpQuiet_step (fun K hK => ?_); go_simp; (first | (with_reducible refine hK _ ?_) | (with_reducible refine ⟨_, fun _ _ => rfl, hK _ ?_⟩)); clear hK K
                  refine wpQuiet_step (fun K hK => ?_); go_simp; (first | (with_reducible refine hK _ ?_) | (with_reducible refine ⟨_, fun _ _ => rfl, hK _ ?_⟩)); clear hK K
                  refine wpQuiet_step (fun K hK => ?_); refine q_load (p := .pointer (some ⟨b, ob + m * 7, none⟩)) 30 _ rfl rfl rfl (H0.out) ?_; go_simp; (with_reducible refine hK _ ?_); clear hK K
                  refine wpQuiet_step (fun K hK => ?_); go_simp; (first | (with_reducible refine hK _ ?_) | (with_reducible refine ⟨_, fun _ _ => rfl, hK _ ?_⟩)); clear hK K
                  refine wpQuiet_step (fun K hK => ?_); go_simp; (first | (with_reducible refine hK _ ?_) | (with_reducible refine ⟨_, fun _ _ => rfl, hK _ ?_⟩)); clear hK K
                  refine wpQuiet_step (fun K hK => ?_); go_simp; (first | (with_reducible refine hK _ ?_) | (with_reducible refine ⟨_, fun _ _ => rfl, hK _ ?_⟩)); clear hK K
                  refine wpQuiet_step (fun K hK => ?_); refine q_load (p := .pointer (some ⟨b, ob + k * 7, none⟩)) 30 _ rfl rfl rfl (H1.out) ?_; go_simp; (with_reducible refine hK _ ?_); clear hK K
                  refine wpQuiet_step (fun K hK => ?_); refine q_bin _ _ _ _ _ rfl rfl rfl rfl (nes_is HNE.out) ?_; go_simp; (with_reducible refine hK _ ?_); clear hK K
                  refine wpQuiet_step (fun K hK => ?_); go_simp; (first | (with_reducible refine hK _ ?_) | (with_reducible refine ⟨_, fun _ _ => rfl, hK _ ?_⟩)); clear hK K
                  refine wpQuiet_step (fun K hK => ?_); go_simp; (first | (with_reducible refine hK _ ?_) | (with_reducible refine ⟨_, fun _ _ => rfl, hK _ ?_⟩)); clear hK K
                  refine wpQuiet_step (fun K hK => ?_); go_simp; (first | (with_reducible refine hK _ ?_) | (with_reducible refine ⟨_, fun _ _ => rfl, hK _ ?_⟩)); clear hK K
                  refine wpQuiet_step (fun K hK => ?_); go_simp; (first | (with_reducible refine hK _ ?_) | (with_reducible refine ⟨_, fun _ _ => rfl, hK _ ?_⟩)); clear hK K
                  refine wpQuiet_step (fun K hK => ?_); refine q_load (p := .pointer (some ⟨b, ob + m * 7, none⟩)) 30 _ rfl rfl rfl (H0.out) ?_; go_simp; (with_reducible refine hK _ ?_); clear hK K
                  refine wpQuiet_step (fun K hK => ?_); go_simp; (first | (with_reducible refine hK _ ?_) | (with_reducible refine ⟨_, fun _ _ => rfl, hK _ ?_⟩)); clear hK K
                  refine wpQuiet_step (fun K hK => ?_); go_simp; (first | (with_reducible refine hK _ ?_) | (with_reducible refine ⟨_, fun _ _ => rfl, hK _ ?_⟩)); clear hK K
                  refine wpQuiet_step (fun K hK => ?_); go_simp; (first | (with_reducible refine hK _ ?_) | (with_reducible refine ⟨_, fun _ _ => rfl, hK _ ?_⟩)); clear hK K
                  refine wpQuiet_step (fun K hK => ?_); refine q_load (p := .pointer (some ⟨b, ob + k * 7, none⟩)) 30 _ rfl rfl rfl (H1.out) ?_; go_simp; (with_reducible refine hK _ ?_); clear hK K
                  refine wpQuiet_step (fun K hK => ?_); go_simp; (with_reducible refine ⟨_, fun _ hb => (HC.out _).mono fun _ _ h => ⟨h.1, hb.trans (h.2.mono (by simpa using hb.size))⟩, hK _ ?_⟩); clear hK K
                  refine wpQuiet_step (fun K hK => ?_); go_simp; (first | (with_reducible refine hK _ ?_) | (with_reducible refine ⟨_, fun _ _ => rfl, hK _ ?_⟩)); clear hK K
                  refine wpQuiet_step (fun K hK => ?_); go_simp; (first | (with_reducible refine hK _ ?_) | (with_reducible refine ⟨_, fun _ _ => rfl, hK _ ?_⟩)); clear hK K
                  refine wpQuiet_step (fun K hK => ?_); go_simp; (first | (with_reducible refine hK _ ?_) | (with_reducible refine ⟨_, fun _ _ => rfl, hK _ ?_⟩)); clear hK K
                  refine wpQuiet_step (fun K hK => ?_); go_simp; (first | (with_reducible refine hK _ ?_) | (with_reducible refine ⟨_, fun _ _ => rfl, hK _ ?_⟩)); clear hK K
                  refine wpQuiet_step (fun K hK => ?_); refine q_bin _ _ _ _ _ rfl rfl rfl rfl (lti_is HG.out) ?_; go_simp; (with_reducible refine hK _ ?_); clear hK K
                  refine wpQuiet_step (fun K hK => ?_); go_simp; (try (with_reducible refine ⟨_, fun _ _ => rfl, ?_⟩)); generalize hA : ({ tmps := _, defers := _ } : Act) = A; (with_reducible refine hK A ?_); clear hK K
                  refine wpQuiet_step (fun K hK => ?_); subst hA; go_simp; (try (with_reducible refine ⟨_, fun _ _ => rfl, ?_⟩)); generalize hA : ({ tmps := _, defers := _ } : Act) = A; (with_reducible refine hK A ?_); clear hK K
                  refine wpQuiet_step (fun K hK => ?_); subst hA; go_simp; (try (with_reducible refine ⟨_, fun _ _ => rfl, ?_⟩)); generalize hA : ({ tmps := _, defers := _ } : Act) = A; (with_reducible refine hK A ?_); clear hK K
                  refine wpQuiet_step (fun K hK => ?_); subst hA; go_simp; (try (with_reducible refine ⟨_, fun _ _ => rfl, ?_⟩)); generalize hA : ({ tmps := _, defers := _ } : Act) = A; (with_reducible refine hK A ?_); clear hK K
                  refine wpQuiet_step (fun K hK => ?_); subst hA; go_simp; (try (with_reducible refine ⟨_, fun _ _ => rfl, ?_⟩)); generalize hA : ({ tmps := _, defers := _ } : Act) = A; (with_reducible refine hK A ?_); clear hK K
                  refine wpQuiet_step (fun K hK => ?_); subst hA; go_simp; (try (with_reducible refine ⟨_, fun _ _ => rfl, ?_⟩)); generalize hA : ({ tmps := _, defers := _ } : Act) = A; (with_reducible refine hK A ?_); clear hK K
                  refine wpQuiet_step (fun K hK => ?_); subst hA; go_simp; (try (with_reducible refine ⟨_, fun _ _ => rfl, ?_⟩)); generalize hA : ({ tmps := _, defers := _ } : Act) = A; (with_reducible refine hK A ?_); clear hK K
                  refine wpQuiet_step (fun K hK => ?_); subst hA; go_simp; (try (with_reducible refine ⟨_, fun _ _ => rfl, ?_⟩)); generalize hA : ({ tmps := _, defers := _ } : Act) = A; (with_reducible refine hK A ?_); clear hK K
                  refine wpQuiet_step (fun K hK => ?_); subst hA; go_simp; (try (with_reducible refine ⟨_, fun _ _ => rfl, ?_⟩)); generalize hA : ({ tmps := _, defers := _ } : Act) = A; (with_reducible refine hK A ?_); clear hK K
                  refine wpQuiet_step (fun K hK => ?_); subst hA; go_simp; (try (with_reducible refine ⟨_, fun _ _ => rfl, ?_⟩)); generalize hA : ({ tmps := _, defers := _ } : Act) = A; (with_reducible refine hK A ?_); clear hK K
                  refine wpQuiet_step (fun K hK => ?_); subst hA; go_simp; (first | (with_reducible refine hK _ ?_) | (with_reducible refine ⟨_, fun _ _ => rfl, hK _ ?_⟩)); clear hK K
                  refine wpQuiet_step (fun K hK => ?_); go_simp; (first | (with_reducible refine hK _ ?_) | (with_reducible refine ⟨_, fun _ _ => rfl, hK _ ?_⟩)); clear hK K
                  refine wpQuiet_nil ?_
                  intro wz hbel
                  go_wp2_with fail
                  go_meet
                  exact ⟨by rw [HBD.out], hbel⟩
          case rest =>
            obtain ⟨rfl, hbel⟩ := hcut
            have HR2 := Lib.hid (And.intro (HB.out.trans (hbel.mono HB.out.size)) (HSO.out.below hbel)); clear hbel
            cases hv : badJ k t m x with
            | true =>
              have HN := Lib.hid (stay_bad HXX.out hv); clear hv
              go_wp2_with fail
              go_roundw
              case rel => exact ⟨m + 1, by omega, by simp, by rw [HN.out], HR2.out.1, HR2.out.2⟩
              case measure => simp only [intOf]; omega
            | false =>
              have HN := Lib.hid (stay_good HXX.out hv); clear hv
              go_wp2_with fail
              go_roundw
              case rel => exact ⟨m + 1, by omega, by simp, by rw [HN.out], HR2.out.1, HR2.out.2⟩
              case measure => simp only [intOf]; omega
        · have hm' : m = ts.length := by omega
          subst hm'
          by_cases hl : StayTo ts k t ts.length
          case neg =>
            rw [decide_eq_false hl]
            have HG2 := Lib.hid (good_skip HGO.out HTT.out hl); clear hl
            go_wp2_with fail
            go_roundw
            case rel => exact ⟨k + 1, o, A', c', by omega, by simp, rfl, HSO.out, by omega, HOR.out, HB.out, HG2.out⟩
            case measure => simp only [intOf]; omega
          rw [decide_eq_true hl]
          have HL := Lib.hid hl; clear hl
          go_wp2_with fail
          go_loopw [7] (fun av wr => ∃ q : Nat, q ≤ o.length ∧ av = .int .i64 q ∧ Below w.heap.size w wr ∧ Slc wr A' c' o ∧ ∀ (j : Nat) (x : Sm), j < q → o[j]? = some x → x.A t) (fun av _ => o.length - (intOf av).toNat)
          case atStart => exact ⟨0, by omega, rfl, HB.out, HSO.out, fun j x h => absurd h (by omega)⟩
          case round =>
            obtain ⟨q, hq, rfl, hb, hso, hlo⟩ := hrel
            clear HB HSO
            have HB := Lib.hid hb; have HSO := Lib.hid hso; have HLO := Lib.hid hlo; clear hb hso hlo
            by_cases hqo : q < o.length
            · obtain ⟨y, hy⟩ : ∃ y, o[q]? = some y := ⟨_, List.getElem?_eq_getElem hqo⟩
              obtain ⟨b9, o9, hAe, _, h0⟩ := HSO.out.ts.load hy
              subst hAe
              obtain ⟨_, _, e, _, h1⟩ := (HT.out.below HB.out).load HTT.out
              cases e
              have hg : decide ((q : Int) < (o.length : Int)) = true := decide_eq_true (by omega)
              have hqz : (q : Int) < (o.length : Int) := by omega
              have hc := fun w => ahead_any y t w
              have hst : stepS o q t = decide (y.A t) := by unfold stepS; rw [hy]
              unfold Sm.v at hc
              have H0 := Lib.hid h0; have H1 := Lib.hid h1; have HG := Lib.hid hg; have HY := Lib.hid hy; clear h0 h1 hg hy
              cases hcv : decide (y.A t) with
              | true =>
                rw [hcv] at hst hc
                have HC := Lib.hid hc; have HCV := Lib.hid hcv; have HST := Lib.hid hst; clear hcv hst hc
                go_wp2_with fail
                refine wp_region_below (by kernel_rfl) (by kernel_rfl) ?_
                refine wpQuiet_step (fun K hK => ?_); go_simp; (first | (with_reducible refine hK _ ?_) | (with_reducible refine ⟨_, fun _ _ => rfl, hK _ ?_⟩)); clear hK K
                refine wpQuiet_step (fun K hK => ?_); go_simp; (first | (with_reducible refine hK _ ?_) | (with_reducible refine ⟨_, fun _ _ => rfl, hK _ ?_⟩)); clear hK K
                refine wpQuiet_step (fun K hK => ?_); go_simp; (first | (with_reducible refine hK _ ?_) | (with_reducible refine ⟨_, fun _ _ => rfl, hK _ ?_⟩)); clear hK K
                refine wpQuiet_step (fun K hK => ?_); refine q_bin _ _ _ _ _ rfl rfl rfl rfl (lti_is HG.out) ?_; go_simp; (with_reducible refine hK _ ?_); clear hK K
                refine wpQuiet_step (fun K hK => ?_); go_simp; (first | (with_reducible refine hK _ ?_) | (with_reducible refine ⟨_, fun _ _ => rfl, hK _ ?_⟩)); clear hK K
                refine wpQuiet_step (fun K hK => ?_); go_simp; (first | (with_reducible refine hK _ ?_) | (with_reducible refine ⟨_, fun _ _ => rfl, hK _ ?_⟩)); clear hK K
                refine wpQuiet_step (fun K hK => ?_); go_simp; (first | (with_reducible refine hK _ ?_) | (with_reducible refine ⟨_, fun _ _ => rfl, hK _ ?_⟩)); clear hK K
                refine wpQuiet_step (fun K hK => ?_); go_simp; (first | (with_reducible refine hK _ ?_) | (with_reducible refine ⟨_, fun _ _ => rfl, hK _ ?_⟩)); clear hK K
                refine wpQuiet_step (fun K hK => ?_); refine q_load (p := .pointer (some ⟨b9, o9 + q * 7, none⟩)) 30 _ rfl rfl rfl (H0.out) ?_; go_simp; (with_reducible refine hK _ ?_); clear hK K
                refine wpQuiet_step (fun K hK => ?_); go_simp; (first | (with_reducible refine hK _ ?_) | (with_reducible refine ⟨_, fun _ _ => rfl, hK _ ?_⟩)); clear hK K
                refine wpQuiet_step (fun K hK => ?_); go_simp; (first | (with_reducible refine hK _ ?_) | (with_reducible refine ⟨_, fun _ _ => rfl, hK _ ?_⟩)); clear hK K
                refine wpQuiet_step (fun K hK => ?_); go_simp; (first | (with_reducible refine hK _ ?_) | (with_reducible refine ⟨_, fun _ _ => rfl, hK _ ?_⟩)); clear hK K
                refine wpQuiet_step (fun K hK => ?_); refine q_load (p := .pointer (some ⟨b, ob + k * 7, none⟩)) 30 _ rfl rfl rfl (H1.out) ?_; go_simp; (with_reducible refine hK _ ?_); clear hK K
                refine wpQuiet_step (fun K hK => ?_); go_simp; (with_reducible refine ⟨_, fun _ hb => (HC.out _).mono fun _ _ h => ⟨h.1, hb.trans (h.2.mono (by simpa using hb.size))⟩, hK _ ?_⟩); clear hK K
                refine wpQuiet_step (fun K hK => ?_); go_simp; (first | (with_reducible refine hK _ ?_) | (with_reducible refine ⟨_, fun _ _ => rfl, hK _ ?_⟩)); clear hK K
                refine wpQuiet_nil ?_
                intro wi hbel
                have hb := HB.out.trans (hbel.mono HB.out.size); have hso := HSO.out.below hbel
                clear HB HSO hbel
                have HB := Lib.hid hb; have HSO := Lib.hid hso; clear hb hso
                go_wp2_with fail
                go_roundw
                case rel =>
                  refine ⟨q + 1, by omega, by simp, HB.out, HSO.out, fun j y' hj hy => ?_⟩
                  by_cases e : j = q
                  · subst e
                    rw [HY.out] at hy; cases hy
                    exact of_decide_eq_true HCV.out
                  · exact HLO.out j y' (by omega) hy
                case measure => simp only [intOf]; omega
              | false =>
                rw [hcv] at hst hc
                have HC := Lib.hid hc; have HCV := Lib.hid hcv; have HST := Lib.hid hst; clear hcv hst hc
                go_wp2_with fail
                refine wp_region_below (by kernel_rfl) (by kernel_rfl) ?_
                refine wpQuiet_step (fun K hK => ?_); go_simp; (first | (with_reducible refine hK _ ?_) | (with_reducible refine ⟨_, fun _ _ => rfl, hK _ ?_⟩)); clear hK K
                refine wpQuiet_step (fun K hK => ?_); go_simp; (first | (with_reducible refine hK _ ?_) | (with_reducible refine ⟨_, fun _ _ => rfl, hK _ ?_⟩)); clear hK K
                refine wpQuiet_step (fun K hK => ?_); go_simp; (first | (with_reducible refine hK _ ?_) | (with_reducible refine ⟨_, fun _ _ => rfl, hK _ ?_⟩)); clear hK K
                refine wpQuiet_step (fun K hK => ?_); refine q_bin _ _ _ _ _ rfl rfl rfl rfl (lti_is HG.out) ?_; go_simp; (with_reducible refine hK _ ?_); clear hK K
                refine wpQuiet_step (fun K hK => ?_); go_simp; (first | (with_reducible refine hK _ ?_) | (with_reducible refine ⟨_, fun _ _ => rfl, hK _ ?_⟩)); clear hK K
                refine wpQuiet_step (fun K hK => ?_); go_simp; (first | (with_reducible refine hK _ ?_) | (with_reducible refine ⟨_, fun _ _ => rfl, hK _ ?_⟩)); clear hK K
                refine wpQuiet_step (fun K hK => ?_); go_simp; (first | (with_reducible refine hK _ ?_) | (with_reducible refine ⟨_, fun _ _ => rfl, hK _ ?_⟩)); clear hK K
                refine wpQuiet_step (fun K hK => ?_); go_simp; (first | (with_reducible refine hK _ ?_) | (with_reducible refine ⟨_, fun _ _ => rfl, hK _ ?_⟩)); clear hK K
                refine wpQuiet_step (fun K hK => ?_); refine q_load (p := .pointer (some ⟨b9, o9 + q * 7, none⟩)) 30 _ rfl rfl rfl (H0.out) ?_; go_simp; (with_reducible refine hK _ ?_); clear hK K
                refine wpQuiet_step (fun K hK => ?_); go_simp; (first | (with_reducible refine hK _ ?_) | (with_reducible refine ⟨_, fun _ _ => rfl, hK _ ?_⟩)); clear hK K
                refine wpQuiet_step (fun K hK => ?_); go_simp; (first | (with_reducible refine hK _ ?_) | (with_reducible refine ⟨_, fun _ _ => rfl, hK _ ?_⟩)); clear hK K
                refine wpQuiet_step (fun K hK => ?_); go_simp; (first | (with_reducible refine hK _ ?_) | (with_reducible refine ⟨_, fun _ _ => rfl, hK _ ?_⟩)); clear hK K
                refine wpQuiet_step (fun K hK => ?_); refine q_load (p := .pointer (some ⟨b, ob + k * 7, none⟩)) 30 _ rfl rfl rfl (H1.out) ?_; go_simp; (with_reducible refine hK _ ?_); clear hK K
                refine wpQuiet_step (fun K hK => ?_); go_simp; (with_reducible refine ⟨_, fun _ hb => (HC.out _).mono fun _ _ h => ⟨h.1, hb.trans (h.2.mono (by simpa using hb.size))⟩, hK _ ?_⟩); clear hK K
                refine wpQuiet_step (fun K hK => ?_); go_simp; (first | (with_reducible refine hK _ ?_) | (with_reducible refine ⟨_, fun _ _ => rfl, hK _ ?_⟩)); clear hK K
                refine wpQuiet_nil ?_
                intro wi hbel
                have hb := HB.out.trans (hbel.mono HB.out.size); have hso := HSO.out.below hbel
                clear HB HSO hbel
                have HB := Lib.hid hb; have HSO := Lib.hid hso; clear hb hso
                have HG2 := Lib.hid (good_put HGO.out HTT.out HL.out HLO.out HST.out); clear HLO HGO HL HST
                have hle := HSO.out.le
                have hqc : q ≤ c' := by omega
                have hnil := HSO.out.nil; have htk := HSO.out.ts.take q
                have hbs : wi.heap.size ≤ wi.heap.size := Nat.le_refl _
                obtain ⟨_, _, e, _, h5⟩ := (HT.out.below HB.out).five HTT.out
                cases e
                have H5 := Lib.hid h5; clear h5
                go_upto_region 17 with (at_builtin; refine wpList_append_tn rfl _ _ rfl wi.heap.size _ 0 [] rfl (World.ownsRow_nil _ _ _ _) (some ⟨b9, o9, none⟩) c' q (o.take q) (by first | (rw [List.length_take]; omega) | simp) rfl hnil htk (by first | (rw [List.length_take]; omega) | simp) hbs ?_; intro va wa hown hgr)
                have hba := own_belowS (World.ownsRow_nil wi wi.heap.size 30 7) hgr (Below.refl _ _) hbs
                rw [List.nil_append, Nat.zero_add] at hown
                have HBA := Lib.hid hba; have HO := Lib.hid hown
                have hoA := HO.out.alloc (.cells #[.int .i64 t.fr, .int .i64 t.to, .int .i64 t.kp, .int .i64 t.ad, .int .i64 t.t0, .int .i64 t.t1, .int .i64 t.t2] 30)
                have hTA := Times.made wa [t]
                have hbA := HBA.out.alloc HBA.out.size (.cells #[.int .i64 t.fr, .int .i64 t.to, .int .i64 t.kp, .int .i64 t.ad, .int .i64 t.t0, .int .i64 t.t1, .int .i64 t.t2] 30)
                have hbs := hbA.size
                have HBB := Lib.hid hbA
                obtain ⟨d0, d1, d2, d3, d4, d5, d6⟩ := H5.out wa hba
                have hlt4 : (o.take q).length ≤ q := by first | (rw [List.length_take]; omega) | simp
                clear hown hgr hba hbA hnil htk
                go_upto_region 18 with (at_builtin; refine wpList_append_times rfl _ _ rfl wi.heap.size _ (o.take q).length (o.take q) rfl hoA ⟨wa.heap.size, 0, none⟩ 1 [t] rfl (by simp) hTA (by first | (simp; done) | (simp; omega)) hbs ?_; intro vb wb hown hgr)
                have hbb := own_belowS hoA hgr HBB.out hbs
                have HBC := Lib.hid hbb; have HO2 := Lib.hid hown
                clear hown hgr hbb hoA hTA hbs HO HBA HBB d0 d1 d2 d3 d4 d5 d6
                have hbs := HBC.out.size
                have hown2 := HO2.out
                have hln : (o.take q ++ [t]).length ≤ q + 1 := by first | (simp; done) | (simp; omega)
                have hld : (o.drop q).length = o.length - q := List.length_drop
                go_wp2_with (at_builtin; refine wpList_append_tn rfl _ _ rfl wi.heap.size _ _ (o.take q ++ [t]) rfl hown2 _ _ _ (o.drop q) (by first | exact hld | (rw [hld]; omega) | simp) rfl (fun hh => by cases hh) (Ts.drop ((HSO.out.below HBC.out).ts) q) (by rw [hld]; have : [t].length = 1 := rfl; omega) hbs ?_; intro vc wc9 hown hgr)
                have hbc := own_belowS hown2 hgr HBC.out hbs
                obtain ⟨An, cn, rfl, hsn, hbn⟩ := Slc.of_ownB hown
                have HSN := Lib.hid hsn; have HBN := Lib.hid (HB.out.trans (hbc.mono HB.out.size))
                clear hown hgr hbc hsn hown2 HBC HO2 hbn
                go_wp2_with fail
                go_roundw
                case rel => exact ⟨k + 1, _, An, cn, by omega, by simp, rfl, HSN.out, by first | (simp; done) | (simp; omega), .inr (by first | (simp; done) | (simp; omega)), HBN.out, HG2.out⟩
                case measure => simp only [intOf]; omega
            · have hg : decide ((q : Int) < (o.length : Int)) = false := decide_eq_false (by omega)
              have hst : stepS o q t = false := by unfold stepS; rw [List.getElem?_eq_none (by omega)]
              have HST := Lib.hid hst; have HG := Lib.hid hg; clear hst hg
              go_wp2_with fail
              refine wp_region_below (by kernel_rfl) (by kernel_rfl) ?_
              refine wpQuiet_step (fun K hK => ?_); go_simp; (first | (with_reducible refine hK _ ?_) | (with_reducible refine ⟨_, fun _ _ => rfl, hK _ ?_⟩)); clear hK K
              refine wpQuiet_step (fun K hK => ?_); go_simp; (first | (with_reducible refine hK _ ?_) | (with_reducible refine ⟨_, fun _ _ => rfl, hK _ ?_⟩)); clear hK K
              refine wpQuiet_step (fun K hK => ?_); go_simp; (first | (with_reducible refine hK _ ?_) | (with_reducible refine ⟨_, fun _ _ => rfl, hK _ ?_⟩)); clear hK K
              refine wpQuiet_step (fun K hK => ?_); refine q_bin _ _ _ _ _ rfl rfl rfl rfl (lti_is HG.out) ?_; go_simp; (with_reducible refine hK _ ?_); clear hK K
              refine wpQuiet_step (fun K hK => ?_); go_simp; (try (with_reducible refine ⟨_, fun _ _ => rfl, ?_⟩)); generalize hA : ({ tmps := _, defers := _ } : Act) = A; (with_reducible refine hK A ?_); clear hK K
              refine wpQuiet_step (fun K hK => ?_); subst hA; go_simp; (try (with_reducible refine ⟨_, fun _ _ => rfl, ?_⟩)); generalize hA : ({ tmps := _, defers := _ } : Act) = A; (with_reducible refine hK A ?_); clear hK K
              refine wpQuiet_step (fun K hK => ?_); subst hA; go_simp; (try (with_reducible refine ⟨_, fun _ _ => rfl, ?_⟩)); generalize hA : ({ tmps := _, defers := _ } : Act) = A; (with_reducible refine hK A ?_); clear hK K
              refine wpQuiet_step (fun K hK => ?_); subst hA; go_simp; (try (with_reducible refine ⟨_, fun _ _ => rfl, ?_⟩)); generalize hA : ({ tmps := _, defers := _ } : Act) = A; (with_reducible refine hK A ?_); clear hK K
              refine wpQuiet_step (fun K hK => ?_); subst hA; go_simp; (try (with_reducible refine ⟨_, fun _ _ => rfl, ?_⟩)); generalize hA : ({ tmps := _, defers := _ } : Act) = A; (with_reducible refine hK A ?_); clear hK K
              refine wpQuiet_step (fun K hK => ?_); subst hA; go_simp; (try (with_reducible refine ⟨_, fun _ _ => rfl, ?_⟩)); generalize hA : ({ tmps := _, defers := _ } : Act) = A; (with_reducible refine hK A ?_); clear hK K
              refine wpQuiet_step (fun K hK => ?_); subst hA; go_simp; (try (with_reducible refine ⟨_, fun _ _ => rfl, ?_⟩)); generalize hA : ({ tmps := _, defers := _ } : Act) = A; (with_reducible refine hK A ?_); clear hK K
              refine wpQuiet_step (fun K hK => ?_); subst hA; go_simp; (try (with_reducible refine ⟨_, fun _ _ => rfl, ?_⟩)); generalize hA : ({ tmps := _, defers := _ } : Act) = A; (with_reducible refine hK A ?_); clear hK K
              refine wpQuiet_step (fun K hK => ?_); subst hA; go_simp; (try (with_reducible refine ⟨_, fun _ _ => rfl, ?_⟩)); generalize hA : ({ tmps := _, defers := _ } : Act) = A; (with_reducible refine hK A ?_); clear hK K
              refine wpQuiet_step (fun K hK => ?_); subst hA; go_simp; (try (with_reducible refine ⟨_, fun _ _ => rfl, ?_⟩)); generalize hA : ({ tmps := _, defers := _ } : Act) = A; (with_reducible refine hK A ?_); clear hK K
              refine wpQuiet_step (fun K hK => ?_); subst hA; go_simp; (first | (with_reducible refine hK _ ?_) | (with_reducible refine ⟨_, fun _ _ => rfl, hK _ ?_⟩)); clear hK K
              refine wpQuiet_nil ?_
              intro wi hbel
              have hb := HB.out.trans (hbel.mono HB.out.size); have hso := HSO.out.below hbel
              clear HB HSO hbel
              have HB := Lib.hid hb; have HSO := Lib.hid hso; clear hb hso
              have hor := HOR.out
              cases A' with
              | none =>
                have hc0 : c' = 0 := HSO.out.nil rfl
                subst hc0
                have ho0 : o = [] := List.eq_nil_of_length_eq_zero (by have := HSO.out.le; omega)
                subst ho0
                have hq0 : q = 0 := by simpa using hq
                subst hq0
                have HG2 := Lib.hid (good_put HGO.out HTT.out HL.out HLO.out HST.out); clear HLO HGO HL HST
                have hle := HSO.out.le
                have hqc : 0 ≤ 0 := by omega
                have hnil := HSO.out.nil; have htk := HSO.out.ts.take 0
                have hbs : wi.heap.size ≤ wi.heap.size := Nat.le_refl _
                obtain ⟨_, _, e, _, h5⟩ := (HT.out.below HB.out).five HTT.out
                cases e
                have H5 := Lib.hid h5; clear h5
                go_upto_region 17 with (at_builtin; refine wpList_append_tn rfl _ _ rfl wi.heap.size _ 0 [] rfl (World.ownsRow_nil _ _ _ _) none 0 0 (([] : List Sm).take 0) (by first | (rw [List.length_take]; omega) | simp) rfl hnil htk (by first | (rw [List.length_take]; omega) | simp) hbs ?_; intro va wa hown hgr)
                have hba := own_belowS (World.ownsRow_nil wi wi.heap.size 30 7) hgr (Below.refl _ _) hbs
                rw [List.nil_append, Nat.zero_add] at hown
                have HBA := Lib.hid hba; have HO := Lib.hid hown
                have hoA := HO.out.alloc (.cells #[.int .i64 t.fr, .int .i64 t.to, .int .i64 t.kp, .int .i64 t.ad, .int .i64 t.t0, .int .i64 t.t1, .int .i64 t.t2] 30)
                have hTA := Times.made wa [t]
                have hbA := HBA.out.alloc HBA.out.size (.cells #[.int .i64 t.fr, .int .i64 t.to, .int .i64 t.kp, .int .i64 t.ad, .int .i64 t.t0, .int .i64 t.t1, .int .i64 t.t2] 30)
                have hbs := hbA.size
                have HBB := Lib.hid hbA
                obtain ⟨d0, d1, d2, d3, d4, d5, d6⟩ := H5.out wa hba
                have hlt4 : (([] : List Sm).take 0).length ≤ 0 := by first | (rw [List.length_take]; omega) | simp
                clear hown hgr hba hbA hnil htk
                go_upto_region 18 with (at_builtin; refine wpList_append_times rfl _ _ rfl wi.heap.size _ (([] : List Sm).take 0).length (([] : List Sm).take 0) rfl hoA ⟨wa.heap.size, 0, none⟩ 1 [t] rfl (by simp) hTA (by first | (simp; done) | (simp; omega)) hbs ?_; intro vb wb hown hgr)
                have hbb := own_belowS hoA hgr HBB.out hbs
                have HBC := Lib.hid hbb; have HO2 := Lib.hid hown
                clear hown hgr hbb hoA hTA hbs HO HBA HBB d0 d1 d2 d3 d4 d5 d6
                have hbs := HBC.out.size
                have hown2 := HO2.out
                have hln : (([] : List Sm).take 0 ++ [t]).length ≤ 0 + 1 := by first | (simp; done) | (simp; omega)
                have hld : (([] : List Sm).drop 0).length = ([] : List Sm).length - 0 := List.length_drop
                go_wp2_with (at_builtin; refine wpList_append_tn rfl _ _ rfl wi.heap.size _ _ (([] : List Sm).take 0 ++ [t]) rfl hown2 _ _ _ (([] : List Sm).drop 0) (by first | exact hld | (rw [hld]; omega) | simp) rfl (fun _ => rfl) Ts.nil (by simp) hbs ?_; intro vc wc9 hown hgr)
                have hbc := own_belowS hown2 hgr HBC.out hbs
                obtain ⟨An, cn, rfl, hsn, hbn⟩ := Slc.of_ownB hown
                have HSN := Lib.hid hsn; have HBN := Lib.hid (HB.out.trans (hbc.mono HB.out.size))
                clear hown hgr hbc hsn hown2 HBC HO2 hbn
                go_wp2_with fail
                go_roundw
                case rel => exact ⟨k + 1, _, An, cn, by omega, by simp, rfl, HSN.out, by first | (simp; done) | (simp; omega), .inr (by first | (simp; done) | (simp; omega)), HBN.out, HG2.out⟩
                case measure => simp only [intOf]; omega
              | some ad =>
                have hop : 0 < o.length := by
                  rcases hor with h | h
                  · cases h
                  · exact h
                obtain ⟨b9, o9, hAe, _⟩ := HSO.out.ts hop
                cases hAe
                by_cases hcq : c' = q
                · subst hcq
                  have HG2 := Lib.hid (good_put HGO.out HTT.out HL.out HLO.out HST.out); clear HLO HGO HL HST
                  have hle := HSO.out.le
                  have hqc : c' ≤ c' := by omega
                  have hnil := HSO.out.nil; have htk := HSO.out.ts.take c'
                  have hbs : wi.heap.size ≤ wi.heap.size := Nat.le_refl _
                  obtain ⟨_, _, e, _, h5⟩ := (HT.out.below HB.out).five HTT.out
                  cases e
                  have H5 := Lib.hid h5; clear h5
                  go_upto_region 17 with (at_builtin; refine wpList_append_tn rfl _ _ rfl wi.heap.size _ 0 [] rfl (World.ownsRow_nil _ _ _ _) (some ⟨b9, o9, none⟩) c' c' (o.take c') (by first | (rw [List.length_take]; omega) | simp) rfl hnil htk (by first | (rw [List.length_take]; omega) | simp) hbs ?_; intro va wa hown hgr)
                  have hba := own_belowS (World.ownsRow_nil wi wi.heap.size 30 7) hgr (Below.refl _ _) hbs
                  rw [List.nil_append, Nat.zero_add] at hown
                  have HBA := Lib.hid hba; have HO := Lib.hid hown
                  have hoA := HO.out.alloc (.cells #[.int .i64 t.fr, .int .i64 t.to, .int .i64 t.kp, .int .i64 t.ad, .int .i64 t.t0, .int .i64 t.t1, .int .i64 t.t2] 30)
                  have hTA := Times.made wa [t]
                  have hbA := HBA.out.alloc HBA.out.size (.cells #[.int .i64 t.fr, .int .i64 t.to, .int .i64 t.kp, .int .i64 t.ad, .int .i64 t.t0, .int .i64 t.t1, .int .i64 t.t2] 30)
                  have hbs := hbA.size
                  have HBB := Lib.hid hbA
                  obtain ⟨d0, d1, d2, d3, d4, d5, d6⟩ := H5.out wa hba
                  have hlt4 : (o.take c').length ≤ c' := by first | (rw [List.length_take]; omega) | simp
                  clear hown hgr hba hbA hnil htk
                  go_upto_region 18 with (at_builtin; refine wpList_append_times rfl _ _ rfl wi.heap.size _ (o.take c').length (o.take c') rfl hoA ⟨wa.heap.size, 0, none⟩ 1 [t] rfl (by simp) hTA (by first | (simp; done) | (simp; omega)) hbs ?_; intro vb wb hown hgr)
                  have hbb := own_belowS hoA hgr HBB.out hbs
                  have HBC := Lib.hid hbb; have HO2 := Lib.hid hown
                  clear hown hgr hbb hoA hTA hbs HO HBA HBB d0 d1 d2 d3 d4 d5 d6
                  have hbs := HBC.out.size
                  have hown2 := HO2.out
                  have hln : (o.take c' ++ [t]).length ≤ c' + 1 := by first | (simp; done) | (simp; omega)
                  have hld : (o.drop c').length = o.length - c' := List.length_drop
                  go_wp2_with (at_builtin; refine wpList_append_tn rfl _ _ rfl wi.heap.size _ _ (o.take c' ++ [t]) rfl hown2 _ _ _ (o.drop c') (by first | exact hld | (rw [hld]; omega) | simp) rfl (by intro hh; first | cases hh | (simp at hh; done) | (split at hh <;> cases hh)) (by first | exact Ts.nil | (rw [List.drop_eq_nil_of_le (by omega)]; exact Ts.nil)) (by rw [hld]; have : [t].length = 1 := rfl; omega) hbs ?_; intro vc wc9 hown hgr)
                  have hbc := own_belowS hown2 hgr HBC.out hbs
                  obtain ⟨An, cn, rfl, hsn, hbn⟩ := Slc.of_ownB hown
                  have HSN := Lib.hid hsn; have HBN := Lib.hid (HB.out.trans (hbc.mono HB.out.size))
                  clear hown hgr hbc hsn hown2 HBC HO2 hbn
                  go_wp2_with fail
                  go_roundw
                  case rel => exact ⟨k + 1, _, An, cn, by omega, by simp, rfl, HSN.out, by first | (simp; done) | (simp; omega), .inr (by first | (simp; done) | (simp; omega)), HBN.out, HG2.out⟩
                  case measure => simp only [intOf]; omega
                · skip
                  have HG2 := Lib.hid (good_put HGO.out HTT.out HL.out HLO.out HST.out); clear HLO HGO HL HST
                  have hle := HSO.out.le
                  have hqc : q ≤ c' := by omega
                  have hnil := HSO.out.nil; have htk := HSO.out.ts.take q
                  have hbs : wi.heap.size ≤ wi.heap.size := Nat.le_refl _
                  obtain ⟨_, _, e, _, h5⟩ := (HT.out.below HB.out).five HTT.out
                  cases e
                  have H5 := Lib.hid h5; clear h5
                  go_upto_region 17 with (at_builtin; refine wpList_append_tn rfl _ _ rfl wi.heap.size _ 0 [] rfl (World.ownsRow_nil _ _ _ _) (some ⟨b9, o9, none⟩) c' q (o.take q) (by first | (rw [List.length_take]; omega) | simp) rfl hnil htk (by first | (rw [List.length_take]; omega) | simp) hbs ?_; intro va wa hown hgr)
                  have hba := own_belowS (World.ownsRow_nil wi wi.heap.size 30 7) hgr (Below.refl _ _) hbs
                  rw [List.nil_append, Nat.zero_add] at hown
                  have HBA := Lib.hid hba; have HO := Lib.hid hown
                  have hoA := HO.out.alloc (.cells #[.int .i64 t.fr, .int .i64 t.to, .int .i64 t.kp, .int .i64 t.ad, .int .i64 t.t0, .int .i64 t.t1, .int .i64 t.t2] 30)
                  have hTA := Times.made wa [t]
                  have hbA := HBA.out.alloc HBA.out.size (.cells #[.int .i64 t.fr, .int .i64 t.to, .int .i64 t.kp, .int .i64 t.ad, .int .i64 t.t0, .int .i64 t.t1, .int .i64 t.t2] 30)
                  have hbs := hbA.size
                  have HBB := Lib.hid hbA
                  obtain ⟨d0, d1, d2, d3, d4, d5, d6⟩ := H5.out wa hba
                  have hlt4 : (o.take q).length ≤ q := by first | (rw [List.length_take]; omega) | simp
                  clear hown hgr hba hbA hnil htk
                  go_upto_region 18 with (at_builtin; refine wpList_append_times rfl _ _ rfl wi.heap.size _ (o.take q).length (o.take q) rfl hoA ⟨wa.heap.size, 0, none⟩ 1 [t] rfl (by simp) hTA (by first | (simp; done) | (simp; omega)) hbs ?_; intro vb wb hown hgr)
                  have hbb := own_belowS hoA hgr HBB.out hbs
                  have HBC := Lib.hid hbb; have HO2 := Lib.hid hown
                  clear hown hgr hbb hoA hTA hbs HO HBA HBB d0 d1 d2 d3 d4 d5 d6
                  have hbs := HBC.out.size
                  have hown2 := HO2.out
                  have hln : (o.take q ++ [t]).length ≤ q + 1 := by first | (simp; done) | (simp; omega)
                  have hld : (o.drop q).length = o.length - q := List.length_drop
                  go_wp2_with (at_builtin; refine wpList_append_tn rfl _ _ rfl wi.heap.size _ _ (o.take q ++ [t]) rfl hown2 _ _ _ (o.drop q) (by first | exact hld | (rw [hld]; omega) | simp) rfl (by intro hh; first | cases hh | (simp at hh; done) | (split at hh <;> cases hh)) (by first | exact Ts.nil | (rw [List.drop_eq_nil_of_le (by omega)]; exact Ts.nil)) (by rw [hld]; have : [t].length = 1 := rfl; omega) hbs ?_; intro vc wc9 hown hgr)
                  have hbc := own_belowS hown2 hgr HBC.out hbs
                  obtain ⟨An, cn, rfl, hsn, hbn⟩ := Slc.of_ownB hown
                  have HSN := Lib.hid hsn; have HBN := Lib.hid (HB.out.trans (hbc.mono HB.out.size))
                  clear hown hgr hbc hsn hown2 HBC HO2 hbn
                  go_wp2_with fail
                  go_roundw
                  case rel => exact ⟨k + 1, _, An, cn, by omega, by simp, rfl, HSN.out, by first | (simp; done) | (simp; omega), .inr (by first | (simp; done) | (simp; omega)), HBN.out, HG2.out⟩
                  case measure => simp only [intOf]; omega
    · have hk' : k = ts.length := by omega
      subst hk'
      go_wp2_with fail
      go_ret
      have he := good_end HGO.out
      have hso := HSO.out
      rw [he] at hso ⊢
      exact ⟨⟨A', c', rfl, hso⟩, HB.out⟩
end Nx
end Go.Proofs.Ytdpadkellpkppaa
