/- may, the document's: may a graph be written? -/
import Derived.Test.YtocdganglokplaaDoorGrSame
namespace Go.Proofs.YtocdganglokplaaDoor
open Go.ChangeShapes Go.WideShapes Go.ChangeAt Go.RowKit Go.BigFrame
set_option linter.unusedVariables false
set_option maxRecDepth 100000
/-- may a graph be written? -/
noncomputable def mayB (g : List Nd) : Bool := @decide (GMay g) (Classical.propDecidable _)
theorem mayB_iff {g : List Nd} : mayB g = true ↔ GMay g := by unfold mayB; exact @decide_eq_true_iff _ (Classical.propDecidable _)
theorem mayB_no {g : List Nd} (h : ¬ GMay g) : false = mayB g := by
  cases e : mayB g with
  | true => exact absurd (mayB_iff.1 e) h
  | false => rfl
theorem mayB_yes {g : List Nd} (h : GMay g) : true = mayB g := (mayB_iff.2 h).symm
theorem may_node {l : List Gn} {k : Nat} {x : Gn} (hx : l[k]? = some x) (h : ¬ x.nd.May) : ¬ GMay (nds l) := fun hh => h (hh.2 x.nd (List.mem_map.2 ⟨x, List.mem_of_getElem? hx, rfl⟩))
theorem may_all {l : List Gn} (h : ∀ (j : Nat) (x : Gn), l[j]? = some x → x.nd.May) : ∀ n ∈ nds l, n.May := by
  intro n hn
  obtain ⟨x, hx, rfl⟩ := List.mem_map.1 hn
  obtain ⟨j, hj⟩ := List.getElem?_of_mem hx
  exact h j x hj
theorem nds_len (l : List Gn) : (nds l).length = l.length := by unfold nds; rw [List.length_map]
set_option maxHeartbeats 4000000 in
theorem refMay_any (A : Option Addr) (l : List Gn) (c : Nat) (w : World) (hG : Gr w A l) (hl : l.length ≤ maxLen) :
    Calls Tryd.prog 47 #[.slice A l.length c] w fun e w' => e = .returned (.bool (mayB (nds l))) ∧ w = w' := by
  unfold maxLen at hl
  have HG := Lib.hid hG; clear hG
  go_enter Tryd.func47, Tryd.ntmps47
  go_wp2_with fail
  go_loop [3] (fun i => ∃ k : Nat, k ≤ l.length ∧ i = .int .i64 k ∧ ∀ (j : Nat) (x : Gn), j < k → l[j]? = some x → x.nd.May) (fun i => l.length - (intOf i).toNat)
  case atStart => exact ⟨0, by omega, rfl, fun j x h => absurd h (by omega)⟩
  case round =>
    obtain ⟨k, hk, rfl, hall⟩ := hrel
    have HA := Lib.hid hall; clear hall
    by_cases hlt : k < l.length
    · have hltz : (k : Int) < (l.length : Int) := by omega
      obtain ⟨x, hx⟩ : ∃ x, l[k]? = some x := ⟨_, List.getElem?_eq_getElem hlt⟩
      obtain ⟨⟨xk, xa, xb, xd, xi⟩, xA, xc⟩ := x
      obtain ⟨b, o, rfl, hbl, hcl⟩ := HG.out.at_ hx
      obtain ⟨_, _, _, c3, c4⟩ := hcl w (Below.refl _ _)
      simp only at c3 c4
      have hxm : xi.length ≤ 9223372036854775807 := by have h1 := (HG.out.ok hx).c; unfold maxLen at h1; simp only at h1; omega
      have HX := Lib.hid hx; clear hx hcl
      by_cases h1 : xd < 0
      · go_wp2_with fail
        go_ret
        exact ⟨retb (mayB_no (may_node HX.out fun h => by have := h.1.1; simp only at this; omega)), rfl⟩
      · by_cases h2 : 3 < xd
        · go_wp2_with fail
          go_ret
          exact ⟨retb (mayB_no (may_node HX.out fun h => by have := h.1.2; simp only at this; omega)), rfl⟩
        · by_cases h3 : 2 < (xi.length : Int)
          · go_wp2_with fail
            go_ret
            exact ⟨retb (mayB_no (may_node HX.out fun h => by have := h.2.1; simp only at this; omega)), rfl⟩
          · go_wp2_with fail
            go_loop [4] (fun i => ∃ p : Nat, p ≤ xi.length ∧ i = .int .i64 p ∧ ∀ (j : Nat) (z : Int), j < p → xi[j]? = some z → 0 ≤ z ∧ z ≤ 31) (fun i => xi.length - (intOf i).toNat)
            case atStart => exact ⟨0, by omega, rfl, fun j x h => absurd h (by omega)⟩
            case round =>
              obtain ⟨p, hp, rfl, hins⟩ := hrel
              have HI := Lib.hid hins; clear hins
              by_cases hlp : p < xi.length
              · have hpz : (p : Int) < (xi.length : Int) := by omega
                obtain ⟨z, hz1⟩ : ∃ z, xi[p]? = some z := ⟨_, List.getElem?_eq_getElem hlp⟩
                obtain ⟨bb, oo, rfl, _, hq1⟩ := ints_at (HG.out.ins HX.out) hz1
                have q1 := hq1 w (Below.refl _ _)
                have HZ1 := Lib.hid hz1; clear hz1 hq1
                by_cases h4 : z < 0
                · go_wp2_with fail
                  go_ret
                  exact ⟨retb (mayB_no (may_node HX.out fun h => by have := (h.2.2 z (List.mem_of_getElem? HZ1.out)).1; omega)), rfl⟩
                · by_cases h5 : 31 < z
                  · go_wp2_with fail
                    go_ret
                    exact ⟨retb (mayB_no (may_node HX.out fun h => by have := (h.2.2 z (List.mem_of_getElem? HZ1.out)).2; omega)), rfl⟩
                  · go_wp2_with fail
                    go_round
                    case rel =>
                      refine ⟨p + 1, by omega, by simp, fun j y hj hy => ?_⟩
                      by_cases e : j = p
                      · subst e
                        rw [HZ1.out] at hy; cases hy
                        omega
                      · exact HI.out j y (by omega) hy
                    case measure => simp only [intOf]; omega
              · have hpz : ¬ (p : Int) < (xi.length : Int) := by omega
                go_wp2_with fail
                go_round
                case rel =>
                  refine ⟨k + 1, by omega, by simp, fun j y hj hy => ?_⟩
                  by_cases e : j = k
                  · subst e
                    rw [HX.out] at hy; cases hy
                    refine ⟨⟨by simp only; omega, by simp only; omega⟩, by simp only; omega, fun z hz => ?_⟩
                    obtain ⟨i, hi⟩ := List.getElem?_of_mem hz
                    exact HI.out i z (by have := (List.getElem?_eq_some_iff.1 hi).1; simp only at this; omega) hi
                  · exact HA.out j y (by omega) hy
                case measure => simp only [intOf]; omega
    · have hltz : ¬ (k : Int) < (l.length : Int) := by omega
      have HALL := Lib.hid (may_all (l := l) fun j x hj => HA.out j x (by have := (List.getElem?_eq_some_iff.1 hj).1; omega) hj)
      by_cases h1 : 1 ≤ l.length
      · by_cases h2 : l.length ≤ 32
        · go_wp2_with fail
          go_ret
          exact ⟨retb ((decide_eq_true (by omega)).trans (mayB_yes ⟨by rw [nds_len]; omega, HALL.out⟩)), rfl⟩
        · go_wp2_with fail
          go_ret
          exact ⟨retb ((decide_eq_false (by omega)).trans (mayB_no fun h => by have := h.1.2; rw [nds_len] at this; omega)), rfl⟩
      · go_wp2_with fail
        go_ret
        exact ⟨retb (mayB_no fun h => by have := h.1.1; rw [nds_len] at this; omega), rfl⟩
end Go.Proofs.YtocdganglokplaaDoor
