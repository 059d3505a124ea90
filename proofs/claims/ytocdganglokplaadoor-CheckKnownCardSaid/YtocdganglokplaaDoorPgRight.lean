/- rightLength, rightNodes: may a graph be written, as the program asks it? -/
import Derived.Test.YtocdganglokplaaDoorGrMay
import Derived.Shelf.Abstract
namespace Go.Proofs.YtocdganglokplaaDoor
open Go.ChangeShapes Go.WideShapes Go.ChangeAt Go.RowKit Go.BigFrame
set_option linter.unusedVariables false
set_option maxRecDepth 100000
def upB (n m : Int) : Bool := decide (0 ≤ n ∧ n ≤ m)
theorem upB_yes {n m : Int} (h : 0 ≤ n ∧ n ≤ m) : true = upB n m := by unfold upB; rw [decide_eq_true h]
theorem upB_no {n m : Int} (h : ¬ (0 ≤ n ∧ n ≤ m)) : false = upB n m := by unfold upB; rw [decide_eq_false h]
theorem upTo_any (n m : Int) (w : World) : Calls Tryd.prog 61 #[.int .i64 n, .int .i64 m] w fun e w' => e = .returned (.bool (upB n m)) ∧ w = w' := by
  by_cases h0 : 0 ≤ n
  · by_cases h1 : n ≤ m
    · have HY := Lib.hid (upB_yes ⟨h0, h1⟩)
      go_enter Tryd.func61, Tryd.ntmps61
      go_wp2_with fail
      go_ret
      exact ⟨retb HY.out, rfl⟩
    · have HY := Lib.hid (upB_no fun h => h1 h.2)
      go_enter Tryd.func61, Tryd.ntmps61
      go_wp2_with fail
      go_ret
      exact ⟨retb HY.out, rfl⟩
  · have HY := Lib.hid (upB_no (m := m) fun h => h0 h.1)
    go_enter Tryd.func61, Tryd.ntmps61
    go_wp2_with fail
    go_ret
    exact ⟨retb HY.out, rfl⟩
theorem wrongIn_any (n : Int) (w : World) : Calls Tryd.prog 62 #[.int .i64 n] w fun e w' => e = .returned (.bool (!upB n 31)) ∧ w = w' := by
  have h := upTo_any n 31 w
  generalize upB n 31 = v at *
  have H := Lib.hid h; clear h
  go_enter Tryd.func62, Tryd.ntmps62
  go_wp2_with fail
  refine H.out.mono ?_; rintro e w1 ⟨rfl, rfl⟩
  go_wp2_with fail
  go_ret
  exact ⟨rfl, rfl⟩
theorem anyI_false {p : Int → Bool} {ts : List Int} (h : ∀ (j : Nat) (t : Int), ts[j]? = some t → p t = false) : false = ts.any p := by
  rw [eq_comm, List.any_eq_false]
  intro t ht
  obtain ⟨j, hj⟩ := List.getElem?_of_mem ht
  rw [h j t hj]; simp
theorem anyI_true {p : Int → Bool} {ts : List Int} {k : Nat} {t : Int} (h : ts[k]? = some t) (hp : p t = true) : true = ts.any p := by
  rw [eq_comm, List.any_eq_true]; exact ⟨t, List.mem_of_getElem? h, hp⟩
def IdxD (b : Bool) (w : World) (e : Ending) (w' : World) : Prop := (∃ i : Int, e = .returned (.int .i64 i) ∧ decide (0 ≤ i) = b) ∧ Below w.heap.size w w'
set_option maxHeartbeats 2000000 in
theorem indexIn_any (A : Option Addr) (xs : List Int) (c : Nat) (w : World) (hA : Rw.Ts kindI w A xs) (h1 : xs.length ≤ maxLen) :
    Calls Tryd.prog 59 #[.slice A xs.length c, .func (.func 62) #[] #[]] w (IdxD (xs.any fun z => !upB z 31) w) := by
  have eg : ∀ args w, (callFunc 62 args).run Tryd.prog w = .ok (.enter 62 args) w := enters_of Tryd.func62 (by kernel_rfl) rfl
  unfold maxLen at h1
  have HA := Lib.hid hA; clear hA
  go_enter Tryd.func59, Tryd.ntmps59
  go_wp2_with fail
  go_loopw [8] (fun i wr => ∃ k : Nat, k ≤ xs.length ∧ i = .int .i64 k ∧ Below w.heap.size w wr ∧ ∀ (j : Nat) (t : Int), j < k → xs[j]? = some t → (!upB t 31) = false) (fun i _ => xs.length - (intOf i).toNat)
  case atStart => exact ⟨0, by omega, rfl, Below.refl _ _, fun j t h => absurd h (by omega)⟩
  case round =>
    obtain ⟨k, hk, rfl, hb, hno⟩ := hrel
    have HB := Lib.hid hb; have HNO := Lib.hid hno; clear hb hno
    by_cases hlt : k < xs.length
    · have hltz : (k : Int) < (xs.length : Int) := by omega
      obtain ⟨t, ht⟩ : ∃ t, xs[k]? = some t := ⟨_, List.getElem?_eq_getElem hlt⟩
      obtain ⟨b, o, rfl, hbl, hld⟩ := ints_at HA.out ht
      have c0 := hld _ HB.out
      have hcall := wrongIn_any t wr
      have HT := Lib.hid ht; clear ht hld
      cases hq : (!upB t 31) with
      | true =>
        rw [hq] at hcall
        have HQ := Lib.hid hq; have HC := Lib.hid hcall; clear hq hcall
        go_wp2_with fail
        refine HC.out.mono ?_; rintro e w1 ⟨rfl, rfl⟩
        go_wp2_with fail
        go_ret
        exact ⟨⟨k, rfl, by rw [decide_eq_true (by omega)]; exact anyI_true (p := fun z => !upB z 31) HT.out HQ.out⟩, HB.out⟩
      | false =>
        rw [hq] at hcall
        have HQ := Lib.hid hq; have HC := Lib.hid hcall; clear hq hcall
        go_wp2_with fail
        refine HC.out.mono ?_; rintro e w1 ⟨rfl, rfl⟩
        go_wp2_with fail
        go_roundw
        case rel =>
          refine ⟨k + 1, by omega, by simp, HB.out, fun j t' hj ht' => ?_⟩
          by_cases e : j = k
          · subst e
            rw [HT.out] at ht'; cases ht'
            exact HQ.out
          · exact HNO.out j t' (by omega) ht'
        case measure => simp only [intOf]; omega
    · have hltz : ¬ (k : Int) < (xs.length : Int) := by omega
      go_wp2_with fail
      go_ret
      exact ⟨⟨-1, rfl, by rw [decide_eq_false (by omega)]; exact anyI_false (p := fun z => !upB z 31) fun j t ht => HNO.out j t (by have := (List.getElem?_eq_some_iff.1 ht).1; omega) ht⟩, HB.out⟩
theorem containsIn_any (A : Option Addr) (xs : List Int) (c : Nat) (w : World) (hA : Rw.Ts kindI w A xs) (h1 : xs.length ≤ maxLen) :
    Calls Tryd.prog 51 #[.slice A xs.length c, .func (.func 62) #[] #[]] w fun e w' => e = .returned (.bool (xs.any fun z => !upB z 31)) ∧ Below w.heap.size w w' := by
  have H := Lib.hid (indexIn_any A xs c w hA h1); clear hA
  generalize (xs.any fun z => !upB z 31) = v at *
  go_enter Tryd.func51, Tryd.ntmps51
  go_wp2_with fail
  refine H.out.mono ?_; rintro e w1 ⟨⟨i, rfl, hi⟩, hb1⟩
  have HI := Lib.hid hi; have HB1 := Lib.hid hb1; clear hi hb1
  go_wp2_with fail
  go_ret
  exact ⟨retb HI.out, HB1.out⟩
/-- may it be written? -/
def mayD (n : Nd) : Bool := upB n.d 3 && decide (n.ins.length ≤ 2) && !(n.ins.any fun z => !upB z 31)
theorem mayD_iff {n : Nd} : mayD n = true ↔ n.May := by
  unfold mayD Nd.May upB
  simp only [Bool.and_eq_true, decide_eq_true_eq, Bool.not_eq_true', List.any_eq_false, decide_eq_false_iff_not, Decidable.not_not]
  exact ⟨fun h => ⟨h.1.1, h.1.2, h.2⟩, fun h => ⟨⟨h.1, h.2.1⟩, h.2.2⟩⟩
set_option maxHeartbeats 4000000 in
theorem rightNode_any (xk xa : Nat) (xb xd : Int) (xi : List Int) (xA : Option Addr) (xc : Nat) (w : World) (hx : Rw.Ts kindI w xA xi) (lx : xi.length ≤ maxLen) :
    Calls Tryd.prog 57 #[.agg #[.int .u8 (xk : Nat), .int .u8 (xa : Nat), .int .i64 xb, .int .i64 xd, .slice xA xi.length xc]] w fun e w' => e = .returned (.bool (mayD ⟨xk, xa, xb, xd, xi⟩)) ∧ Below w.heap.size w w' := by
  have hb1 := (Below.refl _ w).alloc (Nat.le_refl _) (.cells #[.int .u8 (xk : Nat), .int .u8 (xa : Nat), .int .i64 xb, .int .i64 xd, .slice xA xi.length xc] 39)
  have hcall := containsIn_any xA xi xc _ (hx.below hb1) lx
  have hup := upTo_any xd 3 (w.alloc (.cells #[.int .u8 (xk : Nat), .int .u8 (xa : Nat), .int .i64 xb, .int .i64 xd, .slice xA xi.length xc] 39))
  have hm : mayD ⟨xk, xa, xb, xd, xi⟩ = (upB xd 3 && decide (xi.length ≤ 2) && !(xi.any fun z => !upB z 31)) := rfl
  rw [hm]
  generalize (xi.any fun z => !upB z 31) = v at *
  have HB := Lib.hid hb1; have HC := Lib.hid hcall; clear hb1 hcall hx lx hm
  cases hq : upB xd 3 with
  | false =>
    rw [hq] at hup
    have HU := Lib.hid hup; clear hup hq
    rw [Bool.false_and, Bool.false_and]
    go_enter Tryd.func57, Tryd.ntmps57
    go_wp2_with fail
    refine HU.out.mono ?_; rintro e w1 ⟨rfl, rfl⟩
    dsimp only
    go_wp2_with fail
    go_ret
    exact ⟨rfl, HB.out⟩
  | true =>
    rw [hq] at hup
    have HU := Lib.hid hup; clear hup hq
    rw [Bool.true_and]
    by_cases h2 : xi.length ≤ 2
    · rw [decide_eq_true h2, Bool.true_and]
      have h2z : (xi.length : Int) ≤ 2 := by omega
      go_enter Tryd.func57, Tryd.ntmps57
      go_wp2_with fail
      refine HU.out.mono ?_; rintro e w1 ⟨rfl, rfl⟩
      dsimp only
      go_wp2_with fail
      refine HC.out.mono ?_; rintro e w1 ⟨rfl, hb1⟩
      have HB1 := Lib.hid (HB.out.trans (hb1.mono HB.out.size)); clear hb1
      dsimp only
      go_wp2_with fail
      go_ret
      exact ⟨rfl, HB1.out⟩
    · rw [decide_eq_false h2, Bool.false_and]
      have h2z : ¬ (xi.length : Int) ≤ 2 := by omega
      go_enter Tryd.func57, Tryd.ntmps57
      go_wp2_with fail
      refine HU.out.mono ?_; rintro e w1 ⟨rfl, rfl⟩
      dsimp only
      go_wp2_with fail
      go_ret
      exact ⟨rfl, HB.out⟩
theorem wrongNode_any (xk xa : Nat) (xb xd : Int) (xi : List Int) (xA : Option Addr) (xc : Nat) (w : World) (hx : Rw.Ts kindI w xA xi) (lx : xi.length ≤ maxLen) :
    Calls Tryd.prog 56 #[.agg #[.int .u8 (xk : Nat), .int .u8 (xa : Nat), .int .i64 xb, .int .i64 xd, .slice xA xi.length xc]] w fun e w' => e = .returned (.bool (!mayD ⟨xk, xa, xb, xd, xi⟩)) ∧ Below w.heap.size w w' := by
  have hb1 := (Below.refl _ w).alloc (Nat.le_refl _) (.cells #[.int .u8 (xk : Nat), .int .u8 (xa : Nat), .int .i64 xb, .int .i64 xd, .slice xA xi.length xc] 39)
  have hcall := rightNode_any xk xa xb xd xi xA xc _ (hx.below hb1) lx
  generalize mayD ⟨xk, xa, xb, xd, xi⟩ = v at *
  have HB := Lib.hid hb1; have HC := Lib.hid hcall; clear hb1 hcall hx lx
  go_enter Tryd.func56, Tryd.ntmps56
  go_wp2_with fail
  refine HC.out.mono ?_; rintro e w1 ⟨rfl, hb1⟩
  have HB1 := Lib.hid (HB.out.trans (hb1.mono HB.out.size)); clear hb1
  go_wp2_with fail
  go_ret
  exact ⟨rfl, HB1.out⟩
set_option maxHeartbeats 4000000 in
theorem indexNode_any (A : Option Addr) (l : List Gn) (c : Nat) (w : World) (hG : Gr w A l) (hl : l.length ≤ maxLen) :
    Calls Tryd.prog 60 #[.slice A l.length c, .func (.func 56) #[] #[]] w (IdxD (l.any fun x => !mayD x.nd) w) := by
  have eg : ∀ args w, (callFunc 56 args).run Tryd.prog w = .ok (.enter 56 args) w := enters_of Tryd.func56 (by kernel_rfl) rfl
  unfold maxLen at hl
  have HG := Lib.hid hG; clear hG
  go_enter Tryd.func60, Tryd.ntmps60
  go_wp2_with fail
  go_loopw [8] (fun i wr => ∃ k : Nat, k ≤ l.length ∧ i = .int .i64 k ∧ Below w.heap.size w wr ∧ ∀ (j : Nat) (t : Gn), j < k → l[j]? = some t → (!mayD t.nd) = false) (fun i _ => l.length - (intOf i).toNat)
  case atStart => exact ⟨0, by omega, rfl, Below.refl _ _, fun j t h => absurd h (by omega)⟩
  case round =>
    obtain ⟨k, hk, rfl, hb, hno⟩ := hrel
    have HB := Lib.hid hb; have HNO := Lib.hid hno; clear hb hno
    by_cases hlt : k < l.length
    · have hltz : (k : Int) < (l.length : Int) := by omega
      obtain ⟨x, hx⟩ : ∃ x, l[k]? = some x := ⟨_, List.getElem?_eq_getElem hlt⟩
      have lx := (HG.out.ok hx).c
      have tx := HG.out.ins hx
      obtain ⟨⟨xk, xa, xb, xd, xi⟩, xA, xc⟩ := x
      obtain ⟨b, o, rfl, hbl, hcl⟩ := HG.out.at_ hx
      obtain ⟨c0, c1, c2, c3, c4⟩ := hcl wr HB.out
      simp only at c0 c1 c2 c3 c4 lx tx
      have hcall := wrongNode_any xk xa xb xd xi xA xc wr (tx.below HB.out) (Nat.le_trans lx.1 lx.2)
      have HT := Lib.hid hx; clear hx hcl lx tx
      cases hq : (!mayD ⟨xk, xa, xb, xd, xi⟩) with
      | true =>
        rw [hq] at hcall
        have HQ := Lib.hid hq; have HC := Lib.hid hcall; clear hq hcall
        go_wp2_with fail
        refine HC.out.mono ?_; rintro e w1 ⟨rfl, hb1⟩
        have HB1 := Lib.hid (HB.out.trans (hb1.mono HB.out.size)); clear hb1 c0 c1 c2 c3 c4
        go_wp2_with fail
        go_ret
        exact ⟨⟨k, rfl, by rw [decide_eq_true (by omega), eq_comm, List.any_eq_true]; exact ⟨_, List.mem_of_getElem? HT.out, HQ.out⟩⟩, HB1.out⟩
      | false =>
        rw [hq] at hcall
        have HQ := Lib.hid hq; have HC := Lib.hid hcall; clear hq hcall
        go_wp2_with fail
        refine HC.out.mono ?_; rintro e w1 ⟨rfl, hb1⟩
        have HB1 := Lib.hid (HB.out.trans (hb1.mono HB.out.size)); clear hb1 c0 c1 c2 c3 c4
        go_wp2_with fail
        go_roundw
        case rel =>
          refine ⟨k + 1, by omega, by simp, HB1.out, fun j t' hj ht' => ?_⟩
          by_cases e : j = k
          · subst e
            rw [HT.out] at ht'; cases ht'
            exact HQ.out
          · exact HNO.out j t' (by omega) ht'
        case measure => simp only [intOf]; omega
    · have hltz : ¬ (k : Int) < (l.length : Int) := by omega
      go_wp2_with fail
      go_ret
      refine ⟨⟨-1, rfl, ?_⟩, HB.out⟩
      rw [decide_eq_false (by omega), eq_comm, List.any_eq_false]
      intro t ht
      obtain ⟨j, hj⟩ := List.getElem?_of_mem ht
      rw [HNO.out j t (by have := (List.getElem?_eq_some_iff.1 hj).1; omega) hj]; simp
theorem containsNode_any (A : Option Addr) (l : List Gn) (c : Nat) (w : World) (hG : Gr w A l) (hl : l.length ≤ maxLen) :
    Calls Tryd.prog 55 #[.slice A l.length c, .func (.func 56) #[] #[]] w fun e w' => e = .returned (.bool (l.any fun x => !mayD x.nd)) ∧ Below w.heap.size w w' := by
  have H := Lib.hid (indexNode_any A l c w hG hl); clear hG
  generalize (l.any fun x => !mayD x.nd) = v at *
  go_enter Tryd.func55, Tryd.ntmps55
  go_wp2_with fail
  refine H.out.mono ?_; rintro e w1 ⟨⟨i, rfl, hi⟩, hb1⟩
  have HI := Lib.hid hi; have HB1 := Lib.hid hb1; clear hi hb1
  go_wp2_with fail
  go_ret
  exact ⟨retb HI.out, HB1.out⟩
/-- may all nodes be written? -/
noncomputable def rightB (g : List Nd) : Bool := @decide (∀ n ∈ g, n.May) (Classical.propDecidable _)
theorem rightB_iff {g : List Nd} : rightB g = true ↔ ∀ n ∈ g, n.May := by unfold rightB; exact @decide_eq_true_iff _ (Classical.propDecidable _)
theorem rightB_any {l : List Gn} : (!(l.any fun x => !mayD x.nd)) = rightB (nds l) := by
  rw [Bool.eq_iff_iff, rightB_iff, Bool.not_eq_true', List.any_eq_false]
  constructor
  · intro h n hn
    obtain ⟨x, hx, rfl⟩ := List.mem_map.1 hn
    have := h x hx
    exact mayD_iff.1 (by simpa using this)
  · intro h x hx
    have := mayD_iff.2 (h x.nd (List.mem_map.2 ⟨x, hx, rfl⟩))
    simpa using this
theorem rightNodes_any (A : Option Addr) (l : List Gn) (c : Nat) (w : World) (hG : Gr w A l) (hl : l.length ≤ maxLen) :
    Calls Tryd.prog 44 #[.slice A l.length c] w fun e w' => e = .returned (.bool (rightB (nds l))) ∧ Below w.heap.size w w' := by
  rw [← rightB_any]
  have H := Lib.hid (containsNode_any A l c w hG hl); clear hG
  generalize (l.any fun x => !mayD x.nd) = v at *
  go_enter Tryd.func44, Tryd.ntmps44
  go_wp2_with fail
  refine H.out.mono ?_; rintro e w1 ⟨rfl, hb1⟩
  have HB1 := Lib.hid hb1; clear hb1
  go_wp2_with fail
  go_ret
  exact ⟨rfl, HB1.out⟩
def lengthB (n : Nat) : Bool := decide (0 < n ∧ n ≤ 32)
theorem lengthB_yes {n : Nat} (h : 0 < n ∧ n ≤ 32) : true = lengthB n := by unfold lengthB; rw [decide_eq_true h]
theorem lengthB_no {n : Nat} (h : ¬ (0 < n ∧ n ≤ 32)) : false = lengthB n := by unfold lengthB; rw [decide_eq_false h]
theorem rightLength_any (A : Option Addr) (n c : Nat) (w : World) (hl : n ≤ maxLen) :
    Calls Tryd.prog 43 #[.slice A n c] w fun e w' => e = .returned (.bool (lengthB n)) ∧ w = w' := by
  unfold maxLen at hl
  by_cases h0 : 0 < n
  · have h0z : (0 : Int) < (n : Int) := by omega
    by_cases h1 : n ≤ 32
    · have h1z : (n : Int) ≤ 32 := by omega
      have HY := Lib.hid (lengthB_yes ⟨h0, h1⟩)
      go_enter Tryd.func43, Tryd.ntmps43
      go_wp2_with fail
      go_ret
      exact ⟨retb HY.out, rfl⟩
    · have h1z : ¬ (n : Int) ≤ 32 := by omega
      have HY := Lib.hid (lengthB_no (n := n) fun h => h1 h.2)
      go_enter Tryd.func43, Tryd.ntmps43
      go_wp2_with fail
      go_ret
      exact ⟨retb HY.out, rfl⟩
  · have h0z : ¬ (0 : Int) < (n : Int) := by omega
    have HY := Lib.hid (lengthB_no (n := n) fun h => h0 h.1)
    go_enter Tryd.func43, Tryd.ntmps43
    go_wp2_with fail
    go_ret
    exact ⟨retb HY.out, rfl⟩
end Go.Proofs.YtocdganglokplaaDoor
