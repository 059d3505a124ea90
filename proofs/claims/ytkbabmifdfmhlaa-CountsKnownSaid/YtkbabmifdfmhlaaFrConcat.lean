/- slices.Grow of nothing, slices.Concat of two rows of times. -/
import Derived.Test.YtkbabmifdfmhlaaFrSortA
namespace Go.Proofs.Ytkbabmifdfmhlaa
open Go.ChangeShapes Go.WideShapes Go.ChangeAt Go.RowKit Go.BigFrame Go.Shelf
set_option linter.unusedVariables false
set_option maxRecDepth 100000
theorem grown_refl (w : World) (row : Option Nat) : w.grownBy w row := ⟨rfl, rfl, rfl, Nat.le_refl _, fun _ _ _ => rfl⟩
theorem wpList_append_ts {w : World} {ops : Array Oper} {rest : List Oper} {o : Oper} {a : Act} {Q : Exit → Act → World → Prop} (hgd : o.guard = none) (s x : Operand)
    (ho : o.op = .call { callee := .builtin .append, args := #[s, x], argTypes := #[40, 40] })
    (base : Nat) (v : Value) (n : Nat) (ts : List St) (hs : a.eval s = v) (hown : w.ownsRow base 25 5 v n (rowS ts))
    (A : Option Addr) (c : Nat) (ys : List St) (hx : a.eval x = .slice A ys.length c) (hA0 : A = none → c = 0) (hb : Ts w A ys)
    (hle : n + ys.length ≤ 4000) (hbase : base ≤ w.heap.size)
    (h : ∀ v' w', w'.ownsRow base 25 5 v' (n + ys.length) (rowS (ts ++ ys)) → w.grownBy w' v.ownBlock → wpList Try.prog ops Q rest (a.put o.dst v') w') : wpList Try.prog ops Q (o :: rest) a w := by
  obtain ⟨i, hi, hz0, hz1, hz2⟩ := info_parts Try.infoStamp
  cases A with
  | none =>
    have hy : ys = [] := by
      cases ys with
      | nil => rfl
      | cons y ys => obtain ⟨b, o, e, _⟩ := hb (by simp); cases e
    subst hy
    rw [hA0 rfl] at hx
    refine wpList_append_own_none hgd s x 40 ho base 25 i 5 Try.underlying40 hi v n (rowS ts) hs hown hx ?_
    exact h v w (by rw [List.append_nil]; exact hown) (grown_refl _ _)
  | some ad =>
    refine wpList_append_own w hgd s x 40 ho base 25 i _ 5 40 Try.underlying40 hi hz0 hz1 hz2 rfl (by omega) v n (rowS ts) hs hown ad ys.length c (rowS ys) hx (rowS_len ys) ?_ (rowS_one ys) (by unfold maxLen; omega) (by omega) hbase ?_
    · intro j u hj
      have hp : 0 < ys.length := by
        have := (List.getElem?_eq_some_iff.1 hj).1
        rw [rowS_len] at this; omega
      obtain ⟨b, o, e, _, hcell⟩ := hb hp
      cases e
      rw [add_at]; exact hcell j u hj
    · intro v' w' h1 h2 _
      exact h v' w' (by rw [rowS_append]; exact h1) h2
/-- room for n times -/
theorem grow_any (n : Nat) (w : World) (hn : n ≤ 4000) : Calls Try.prog 76 #[.slice none 0 0, .int .i64 n] w fun e w' => (∃ v, e = .returned v ∧ w'.ownsRow w.heap.size 25 5 v 0 (rowS [])) ∧ Below w.heap.size w w' := by
  obtain ⟨i, hi, hz0, hz1, hz2⟩ := info_parts Try.infoStamp
  cases n with
  | zero => exact (Any8.slices_Grow_room Try.growStamp none 0 0 0 w (by omega) (by omega) (by omega) (by omega)).mono fun e w' ⟨he, hw⟩ => ⟨⟨_, he, World.ownsRow_nil _ _ _ _⟩, by subst hw; exact Below.refl _ _⟩
  | succ n =>
    refine (Any8.slices_Grow_grow Try.growStamp i _ hi hz0 (by rw [hz1]; omega) none 0 0 (n + 1) [] w (by omega) (by omega) (by rw [hz2]; omega) (by omega) (by simp) (fun _ => rfl) (fun a h => by cases h)).mono fun e w' ⟨he, hw⟩ => ?_
    subst hw
    refine ⟨⟨_, he, rfl, .inr ⟨w.heap.size, _, _, rfl, Nat.le_refl _, heap_alloc_new w.drew _, Nat.zero_le _, grownCap_le_maxLen _ _ _ _ (by unfold maxLen; omega), ?_, by simp [rowS]⟩⟩, (below_drewN (Below.refl w.heap.size w) 1).alloc (Nat.le_refl _) _⟩
    · have := grownCap_ge w (n + 1) 0 (Try.growStamp_ren.t 25)
      simp [Builtin.zeroCells, Value.cells]
      omega
/-- what two rows have given, behind k of them -/
def part2 (a b : List St) (k : Nat) : List St := (if 0 < k then a else []) ++ (if 1 < k then b else [])
set_option maxHeartbeats 4000000 in
theorem concat_any (Bc : Nat) (A B : Option Addr) (a b : List St) (c d : Nat) (w : World) (hA : Ts w A a) (hB : Ts w B b) (ha : a.length ≤ 1000) (hb : b.length ≤ 1000) (hA0 : A = none → c = 0) (hB0 : B = none → d = 0)
    (hBc : Bc < w.heap.size) (h0 : w.cell? ⟨Bc, 0, none⟩ = some (.slice A a.length c)) (h1 : w.cell? ⟨Bc, 1, none⟩ = some (.slice B b.length d)) :
    Calls Try.prog 51 #[.slice (some ⟨Bc, 0, none⟩) 2 2] w fun e w' => (∃ v, e = .returned v ∧ w'.ownsRow w.heap.size 25 5 v (a ++ b).length (rowS (a ++ b))) ∧ Below w.heap.size w w' := by
  have HA := Lib.hid hA; have HB := Lib.hid hB; clear hA hB
  go_enter Try.func51, Try.ntmps51
  go_wp2_with fail
  go_loop [3, 11] (fun s i => ∃ k : Nat, k ≤ 2 ∧ i = .int .i64 k ∧ s = .int .i64 ((part2 a b k).length : Nat)) (fun _ i => 2 - (intOf i).toNat)
  case atStart => exact ⟨0, by omega, rfl, rfl⟩
  case round =>
    obtain ⟨k, hk, rfl, rfl⟩ := hrel
    have hcase : k = 0 ∨ k = 1 ∨ k = 2 := by omega
    clear hk
    have p0 : (part2 a b 0).length = 0 := rfl
    have p1 : (part2 a b 1).length = a.length := by simp [part2]
    have p2 : (part2 a b 2).length = a.length + b.length := by simp [part2]
    rcases hcase with rfl | rfl | rfl
    · rw [p0]
      have hw1 : wrap64 ((0 : Nat) + (a.length : Int)) = (a.length : Int) := by unfold wrap64; omega
      have hz1 : ¬ ((a.length : Int) < 0) := by omega
      go_wp2_with fail
      go_round
      case rel => exact ⟨1, by omega, rfl, by rw [p1]⟩
      case measure => simp [intOf]
    · rw [p1]
      have hw1 : wrap64 ((a.length : Int) + (b.length : Int)) = ((a.length + b.length : Nat) : Int) := by unfold wrap64; omega
      have hz1 : ¬ ((a.length : Int) + (b.length : Int) < 0) := by omega
      go_wp2_with fail
      go_round
      case rel => exact ⟨2, by omega, rfl, by rw [p2]; simp⟩
      case measure => simp [intOf]
    · rw [p2]
      clear p0 p1 p2
      generalize hG : a.length + b.length = G at *
      have hgr := grow_any G w (by omega)
      have HG := Lib.hid hgr; clear hgr
      go_wp2_with fail
      refine (HG.out).mono ?_; rintro e w1 ⟨⟨v, rfl, hown⟩, hb1⟩
      have HO := Lib.hid (And.intro hown hb1)
      have h0' := (hb1.cell (p := ⟨Bc, 0, none⟩) hBc).trans h0
      have h1' := (hb1.cell (p := ⟨Bc, 1, none⟩) hBc).trans h1
      clear hown HG
      dsimp only
      go_wp2_with fail
      go_loopw [6, 27] (fun fv i wr => ∃ k : Nat, k ≤ 2 ∧ i = .int .i64 k ∧ Below w.heap.size w wr ∧ wr.ownsRow w.heap.size 25 5 fv (part2 a b k).length (rowS (part2 a b k))) (fun _ i _ => 2 - (intOf i).toNat)
      case atStart => exact ⟨0, by omega, rfl, HO.out.2, HO.out.1⟩
      case round =>
        obtain ⟨k, hk, rfl, hbw, hro⟩ := hrel
        have hcase : k = 0 ∨ k = 1 ∨ k = 2 := by omega
        clear hk h0' h1' hb1
        have hTA := HA.out.below hbw
        have hTB := HB.out.below hbw
        have c0 := (hbw.cell (p := ⟨Bc, 0, none⟩) hBc).trans h0
        have c1 := (hbw.cell (p := ⟨Bc, 1, none⟩) hBc).trans h1
        have hbs := hbw.size
        have p0 : part2 a b 0 = [] := rfl
        have p1 : part2 a b 1 = a := by simp [part2]
        have p2 : part2 a b 2 = a ++ b := by simp [part2]
        rcases hcase with rfl | rfl | rfl
        · rw [p0] at hro
          have HBW := Lib.hid hbw; clear hbw
          go_wp2_with (at_builtin; refine wpList_append_ts rfl _ _ rfl w.heap.size _ _ [] rfl hro A c a rfl hA0 hTA (by simp; omega) hbs ?_; intro v' w5 hown' hgr')
          have hb6 := own_belowS hro hgr' HBW.out hbs
          have H6 := Lib.hid (And.intro hown' hb6); clear hown' hgr' hro hb6 hTA hTB c0 c1
          go_wp2_with fail
          go_roundw
          case rel => exact ⟨1, by omega, rfl, H6.out.2, by rw [p1]; simpa using H6.out.1⟩
          case measure => simp [intOf]
        · rw [p1] at hro
          have HBW := Lib.hid hbw; clear hbw
          go_wp2_with (at_builtin; refine wpList_append_ts rfl _ _ rfl w.heap.size _ _ a rfl hro B d b rfl hB0 hTB (by omega) hbs ?_; intro v' w5 hown' hgr')
          have hb6 := own_belowS hro hgr' HBW.out hbs
          have H6 := Lib.hid (And.intro hown' hb6); clear hown' hgr' hro hb6 hTA hTB c0 c1
          go_wp2_with fail
          go_roundw
          case rel => exact ⟨2, by omega, rfl, H6.out.2, by rw [p2, List.length_append]; exact H6.out.1⟩
          case measure => simp [intOf]
        · rw [p2] at hro
          have HO2 := Lib.hid (And.intro hbw hro); clear hbw hro hTA hTB
          go_wp2_with fail
          go_ret
          exact ⟨⟨_, rfl, HO2.out.2⟩, HO2.out.1⟩
end Go.Proofs.Ytkbabmifdfmhlaa
