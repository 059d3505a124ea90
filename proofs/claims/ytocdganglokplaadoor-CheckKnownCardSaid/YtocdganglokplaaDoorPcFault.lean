/- fault, Node: what is wrong with a node, as the program asks it. -/
import Derived.Test.YtocdganglokplaaDoorPcDeep
import Derived.Test.YtocdganglokplaaDoorChkNode
namespace Go.Proofs.YtocdganglokplaaDoor
open Go.ChangeShapes Go.WideShapes Go.ChangeAt Go.RowKit Go.BigFrame
set_option linter.unusedVariables false
set_option maxRecDepth 100000
def witB (xa : Nat) (xb : Int) (last : Nat) (lo hi : Int) : Bool := decide (xa ≤ last ∧ lo ≤ xb ∧ xb ≤ hi)
def divB (xa : Nat) (xb : Int) (last by_ : Nat) : Bool := decide (xa ≤ last ∧ (xa ≠ by_ ∨ 0 < xb))
set_option maxHeartbeats 4000000 in
theorem withinCall_any (xk xa : Nat) (xb xd : Int) (xi : List Int) (xA : Option Addr) (xc last : Nat) (lo hi : Int) (b1 b2 b3 : Nat) (w : World) (h1 : w.cell? ⟨b1, 0, none⟩ = some (.int .u8 (last : Nat))) (h2 : w.cell? ⟨b2, 0, none⟩ = some (.int .i64 lo)) (h3 : w.cell? ⟨b3, 0, none⟩ = some (.int .i64 hi)) :
    Calls Tryd.prog 40 #[.agg #[.int .u8 (xk : Nat), .int .u8 (xa : Nat), .int .i64 xb, .int .i64 xd, .slice xA xi.length xc], .pointer (some ⟨b1, 0, none⟩), .pointer (some ⟨b2, 0, none⟩), .pointer (some ⟨b3, 0, none⟩)] w fun e w' => e = .returned (.bool (witB xa xb last lo hi)) ∧ Below w.heap.size w w' := by
  have HB := Lib.hid ((Below.refl _ w).alloc (Nat.le_refl _) (.cells #[.int .u8 (xk : Nat), .int .u8 (xa : Nat), .int .i64 xb, .int .i64 xd, .slice xA xi.length xc] 39))
  have q1 := old_cell (o := .cells #[.int .u8 (xk : Nat), .int .u8 (xa : Nat), .int .i64 xb, .int .i64 xd, .slice xA xi.length xc] 39) h1
  have q2 := old_cell (o := .cells #[.int .u8 (xk : Nat), .int .u8 (xa : Nat), .int .i64 xb, .int .i64 xd, .slice xA xi.length xc] 39) h2
  have q3 := old_cell (o := .cells #[.int .u8 (xk : Nat), .int .u8 (xa : Nat), .int .i64 xb, .int .i64 xd, .slice xA xi.length xc] 39) h3
  by_cases k1 : (xa : Int) ≤ (last : Int)
  · by_cases k2 : lo ≤ xb
    · by_cases k3 : xb ≤ hi
      · have HY := Lib.hid (show true = witB xa xb last lo hi by unfold witB; first | exact (decide_eq_true (by omega)).symm | exact (decide_eq_false (by omega)).symm)
        go_enter Tryd.func40, Tryd.ntmps40
        go_wp2_with fail
        go_ret
        exact ⟨retb HY.out, HB.out⟩
      · have HY := Lib.hid (show false = witB xa xb last lo hi by unfold witB; first | exact (decide_eq_true (by omega)).symm | exact (decide_eq_false (by omega)).symm)
        go_enter Tryd.func40, Tryd.ntmps40
        go_wp2_with fail
        go_ret
        exact ⟨retb HY.out, HB.out⟩
    · have HY := Lib.hid (show false = witB xa xb last lo hi by unfold witB; first | exact (decide_eq_true (by omega)).symm | exact (decide_eq_false (by omega)).symm)
      go_enter Tryd.func40, Tryd.ntmps40
      go_wp2_with fail
      go_ret
      exact ⟨retb HY.out, HB.out⟩
  · have HY := Lib.hid (show false = witB xa xb last lo hi by unfold witB; first | exact (decide_eq_true (by omega)).symm | exact (decide_eq_false (by omega)).symm)
    go_enter Tryd.func40, Tryd.ntmps40
    go_wp2_with fail
    go_ret
    exact ⟨retb HY.out, HB.out⟩
set_option maxHeartbeats 4000000 in
theorem dividingCall_any (xk xa : Nat) (xb xd : Int) (xi : List Int) (xA : Option Addr) (xc last by_ : Nat) (b1 b2 : Nat) (w : World) (h1 : w.cell? ⟨b1, 0, none⟩ = some (.int .u8 (last : Nat))) (h2 : w.cell? ⟨b2, 0, none⟩ = some (.int .u8 (by_ : Nat))) :
    Calls Tryd.prog 42 #[.agg #[.int .u8 (xk : Nat), .int .u8 (xa : Nat), .int .i64 xb, .int .i64 xd, .slice xA xi.length xc], .pointer (some ⟨b1, 0, none⟩), .pointer (some ⟨b2, 0, none⟩)] w fun e w' => e = .returned (.bool (divB xa xb last by_)) ∧ Below w.heap.size w w' := by
  have HB := Lib.hid ((Below.refl _ w).alloc (Nat.le_refl _) (.cells #[.int .u8 (xk : Nat), .int .u8 (xa : Nat), .int .i64 xb, .int .i64 xd, .slice xA xi.length xc] 39))
  have q1 := old_cell (o := .cells #[.int .u8 (xk : Nat), .int .u8 (xa : Nat), .int .i64 xb, .int .i64 xd, .slice xA xi.length xc] 39) h1
  have q2 := old_cell (o := .cells #[.int .u8 (xk : Nat), .int .u8 (xa : Nat), .int .i64 xb, .int .i64 xd, .slice xA xi.length xc] 39) h2
  by_cases k1 : (xa : Int) ≤ (last : Int)
  · by_cases k2 : xa = by_
    · subst k2
      by_cases k3 : 0 < xb
      · have HY := Lib.hid (show true = divB xa xb last xa by unfold divB; first | exact (decide_eq_true (by omega)).symm | exact (decide_eq_false (by omega)).symm)
        go_enter Tryd.func42, Tryd.ntmps42
        go_wp2_with fail
        go_ret
        exact ⟨retb HY.out, HB.out⟩
      · have HY := Lib.hid (show false = divB xa xb last xa by unfold divB; first | exact (decide_eq_true (by omega)).symm | exact (decide_eq_false (by omega)).symm)
        go_enter Tryd.func42, Tryd.ntmps42
        go_wp2_with fail
        go_ret
        exact ⟨retb HY.out, HB.out⟩
    · have k2z : (((xa : Nat) : Int) != ((by_ : Nat) : Int)) = true := by simp; omega
      have HY := Lib.hid (show true = divB xa xb last by_ by unfold divB; first | exact (decide_eq_true (by omega)).symm | exact (decide_eq_false (by omega)).symm)
      go_enter Tryd.func42, Tryd.ntmps42
      go_wp2_with fail
      go_ret
      exact ⟨retb HY.out, HB.out⟩
  · have HY := Lib.hid (show false = divB xa xb last by_ by unfold divB; first | exact (decide_eq_true (by omega)).symm | exact (decide_eq_false (by omega)).symm)
    go_enter Tryd.func42, Tryd.ntmps42
    go_wp2_with fail
    go_ret
    exact ⟨retb HY.out, HB.out⟩
/-- what is looked up of a node's kind, and what that says of its numbers -/
theorem Rules.node {w : World} {m : Nat} {n : Nd} (h : Rules w m) (hk : n.k < 256) :
    ((Instr.lookup 48 (.map (some m)) (.int .u8 (n.k : Nat)) true).run Tryd.prog w = .ok (.tuple #[.nilFunc, .bool false]) w ∧ n.num = false) ∨
    (∃ v last by_, (Instr.lookup 48 (.map (some m)) (.int .u8 (n.k : Nat)) true).run Tryd.prog w = .ok (.tuple #[v, .bool true]) w ∧ Dividing w v last by_ ∧ divB n.a n.b last by_ = n.num) ∨
    ∃ v last lo hi, (Instr.lookup 48 (.map (some m)) (.int .u8 (n.k : Nat)) true).run Tryd.prog w = .ok (.tuple #[v, .bool true]) w ∧ Within w v last lo hi ∧ witB n.a n.b last lo hi = n.num := by
  rcases h.look hk with ⟨hno, hrun⟩ | ⟨v, hrun, hc⟩
  · refine .inl ⟨hrun, ?_⟩
    unfold Nd.num
    rw [if_neg (by omega), if_neg (by omega), if_neg (by omega), if_neg (by omega)]
    exact decide_eq_false (by omega)
  · rcases hc with ⟨e, hd⟩ | ⟨e, hd⟩ | ⟨e, hd⟩ | ⟨e, hd⟩ | ⟨e, hd⟩
    · refine .inr (.inl ⟨v, 3, 3, hrun, hd, ?_⟩)
      unfold Nd.num; rw [if_pos e]; rfl
    · refine .inr (.inl ⟨v, 2, 1, hrun, hd, ?_⟩)
      unfold Nd.num; rw [if_neg (by omega), if_pos e]; rfl
    · refine .inr (.inr ⟨v, 3, 0, 0, hrun, hd, ?_⟩)
      unfold Nd.num witB; rw [if_neg (by omega), if_neg (by omega), if_pos e, Bool.eq_iff_iff, decide_eq_true_eq, decide_eq_true_eq]; omega
    · refine .inr (.inr ⟨v, 0, 1, 16, hrun, hd, ?_⟩)
      unfold Nd.num witB; rw [if_neg (by omega), if_neg (by omega), if_neg (by omega), if_pos e, Bool.eq_iff_iff, decide_eq_true_eq, decide_eq_true_eq]; omega
    · refine .inr (.inr ⟨v, 0, 0, 0, hrun, hd, ?_⟩)
      unfold Nd.num witB; rw [if_neg (by omega), if_neg (by omega), if_neg (by omega), if_neg (by omega), Bool.eq_iff_iff, decide_eq_true_eq, decide_eq_true_eq]; omega
set_option maxHeartbeats 16000000 in
theorem fault_any (A : Option Addr) (l : List Gn) (c m : Nat) (i : Int) (w : World) (hG : Gr w A l) (hl : l.length ≤ maxLen) (hR : Rules w m) :
    Calls Tryd.prog 24 #[.slice A l.length c, .int .i64 i, .map (some m)] w fun e w' => e = .returned (.int .i64 (nodeE (nds l) i)) ∧ Below w.heap.size w w' := by
  have HML := Lib.hid hl
  unfold maxLen at hl
  by_cases h0 : i < 0
  · have HN := Lib.hid (nodeE_out (g := nds l) (i := i) (.inl h0))
    clear hR
    go_enter Tryd.func24, Tryd.ntmps24
    go_wp2_with fail
    go_ret
    exact ⟨reti HN.out.symm, Below.refl _ _⟩
  · by_cases h1 : (l.length : Int) ≤ i
    · have HN := Lib.hid (nodeE_out (g := nds l) (i := i) (.inr (by rw [nds_len]; exact h1)))
      clear hR
      go_enter Tryd.func24, Tryd.ntmps24
      go_wp2_with fail
      go_ret
      exact ⟨reti HN.out.symm, Below.refl _ _⟩
    · obtain ⟨I, rfl⟩ : ∃ I : Nat, i = (I : Int) := Int.eq_ofNat_of_zero_le (by omega)
      have hIl : I < l.length := by omega
      have hIz : (I : Int) < (l.length : Int) := by omega
      obtain ⟨x, hx⟩ : ∃ x, l[I]? = some x := ⟨_, List.getElem?_eq_getElem hIl⟩
      have hok := (hG.ok hx).c
      have hok8 := (hG.ok hx).k
      have hti := hG.ins hx
      have hat := nodeE_at (g := nds l) (i := I) (n := x.nd) (by unfold nds; rw [List.getElem?_map, hx]; rfl)
      have HG := Lib.hid hG; clear hG h0 h1
      obtain ⟨⟨xk, xa, xb, xd, xi⟩, xA, xc⟩ := x
      simp only at hok hok8 hti hat
      obtain ⟨n, hn⟩ : ∃ n : Nd, n = ⟨xk, xa, xb, xd, xi⟩ := ⟨_, rfl⟩
      rw [← hn] at hat
      obtain ⟨b, o, rfl, hbl, hcl⟩ := HG.out.at_ hx
      have hxm : xi.length ≤ maxLen := Nat.le_trans hok.1 hok.2
      have C2 := Lib.hid fun w1 (hb : Below w.heap.size w w1) => rightPorts_any (some ⟨b, o, none⟩) l c xk xa xb xd xi xA xc w1 (HG.out.below hb) HML.out (hti.below hb) hxm
      have C3 := Lib.hid fun w1 (hb : Below w.heap.size w w1) (hP : ∀ z ∈ xi, portOk (nds l) z) => rightDepth_any (some ⟨b, o, none⟩) l c xk xa xb xd xi xA xc w1 (HG.out.below hb) HML.out (hti.below hb) hxm hP
      have HCL := Lib.hid hcl; have HAT := Lib.hid hat
      obtain ⟨c0, c1, c2, c3, c4⟩ := hcl w (Below.refl _ _)
      simp only at c0 c1 c2 c3 c4
      have hrn := hR.node (n := n) (by rw [hn]; exact hok8)
      rw [show n.k = xk by rw [hn], show n.a = xa by rw [hn], show n.b = xb by rw [hn]] at hrn
      clear hx hok hti hat hcl hxm hR hok8
      rcases hrn with ⟨hrun, hnum⟩ | ⟨v, last, by_, hrun, ⟨b1, b2, rfl, q1, q2⟩, hnum⟩ | ⟨v, last, lo, hi, hrun, ⟨b1, b2, b3, rfl, q1, q2, q3⟩, hnum⟩
      · have HE := Lib.hid (err_num (g := nds l) hnum); clear hnum hn
        go_enter Tryd.func24, Tryd.ntmps24
        go_wp2_with fail
        go_ret
        exact ⟨reti (by rw [HAT.out, HE.out]), Below.refl _ _⟩
      · have h1 := dividingCall_any xk xa xb xd xi xA xc last by_ b1 b2 w q1 q2
        rw [hnum] at h1
        clear hnum q1 q2
        have eg : ∀ args w, (callFunc 42 args).run Tryd.prog w = .ok (.enter 42 args) w := enters_of Tryd.func42 (by kernel_rfl) rfl
        cases e1 : n.num with
        | false =>
          rw [e1] at h1
          have H1 := Lib.hid h1; have HE := Lib.hid (err_num (g := nds l) e1); clear h1 e1 hn
          go_enter Tryd.func24, Tryd.ntmps24
          go_wp2_with fail
          refine H1.out.mono ?_; rintro e w1 ⟨rfl, hb1⟩
          have HB1 := Lib.hid hb1; clear hb1
          dsimp only
          go_wp2_with fail
          go_ret
          exact ⟨reti (by rw [HAT.out, HE.out]), HB1.out⟩
        | true =>
          rw [e1] at h1
          have H1 := Lib.hid h1; clear h1
          go_enter Tryd.func24, Tryd.ntmps24
          go_wp2_with fail
          refine H1.out.mono ?_; rintro e w1 ⟨rfl, hb1⟩
          have HB1 := Lib.hid hb1
          have h2 := C2.out w1 hb1
          rw [← hn] at h2
          clear hb1 c0 c1 c2 c3 c4
          obtain ⟨c0, c1, c2, c3, c4⟩ := HCL.out w1 HB1.out
          cases e2 : portsB (nds l) n with
          | false =>
            rw [e2] at h2
            have H2 := Lib.hid h2
            have HE := Lib.hid (err_ports (g := nds l) e1 fun h => by rw [portsB_iff.2 h] at e2; cases e2); clear h2 e1 e2 hn
            dsimp only
            go_wp2_with fail
            refine H2.out.mono ?_; rintro e w2 ⟨rfl, hb2⟩
            have HB2 := Lib.hid (HB1.out.trans (hb2.mono HB1.out.size)); clear hb2
            dsimp only
            go_wp2_with fail
            go_ret
            exact ⟨reti (by rw [HAT.out, HE.out]), HB2.out⟩
          | true =>
            rw [e2] at h2
            have H2 := Lib.hid h2
            have hp := portsB_iff.1 e2
            have hpi : ∀ z ∈ xi, portOk (nds l) z := by have := hp.1; rw [hn] at this; exact this
            have HP := Lib.hid hp; have HPI := Lib.hid hpi; clear h2 e2 hp hpi
            dsimp only
            go_wp2_with fail
            refine H2.out.mono ?_; rintro e w2 ⟨rfl, hb2⟩
            have HB2 := Lib.hid (HB1.out.trans (hb2.mono HB1.out.size))
            have h3 := C3.out w2 HB2.out HPI.out
            rw [← hn] at h3
            clear hb2 c0 c1 c2 c3 c4
            obtain ⟨c0, c1, c2, c3, c4⟩ := HCL.out w2 HB2.out
            cases e3 : deepG (nds l) n with
            | false =>
              rw [e3] at h3
              have H3 := Lib.hid h3
              have HE := Lib.hid (err_deep (g := nds l) e1 HP.out fun h => by rw [deepG_iff.2 h] at e3; cases e3); clear h3 e1 e3 hn
              dsimp only
              go_wp2_with fail
              refine H3.out.mono ?_; rintro e w3 ⟨rfl, hb3⟩
              have HB3 := Lib.hid (HB2.out.trans (hb3.mono HB2.out.size)); clear hb3
              dsimp only
              go_wp2_with fail
              go_ret
              exact ⟨reti (by rw [HAT.out, HE.out]), HB3.out⟩
            | true =>
              rw [e3] at h3
              have H3 := Lib.hid h3
              have HE := Lib.hid (err_ok (g := nds l) e1 HP.out (deepG_iff.1 e3)); clear h3 e1 e3 hn
              dsimp only
              go_wp2_with fail
              refine H3.out.mono ?_; rintro e w3 ⟨rfl, hb3⟩
              have HB3 := Lib.hid (HB2.out.trans (hb3.mono HB2.out.size)); clear hb3
              dsimp only
              go_wp2_with fail
              go_ret
              exact ⟨reti (by rw [HAT.out, HE.out]), HB3.out⟩
      · have h1 := withinCall_any xk xa xb xd xi xA xc last lo hi b1 b2 b3 w q1 q2 q3
        rw [hnum] at h1
        clear hnum q1 q2 q3
        have eg : ∀ args w, (callFunc 40 args).run Tryd.prog w = .ok (.enter 40 args) w := enters_of Tryd.func40 (by kernel_rfl) rfl
        cases e1 : n.num with
        | false =>
          rw [e1] at h1
          have H1 := Lib.hid h1; have HE := Lib.hid (err_num (g := nds l) e1); clear h1 e1 hn
          go_enter Tryd.func24, Tryd.ntmps24
          go_wp2_with fail
          refine H1.out.mono ?_; rintro e w1 ⟨rfl, hb1⟩
          have HB1 := Lib.hid hb1; clear hb1
          dsimp only
          go_wp2_with fail
          go_ret
          exact ⟨reti (by rw [HAT.out, HE.out]), HB1.out⟩
        | true =>
          rw [e1] at h1
          have H1 := Lib.hid h1; clear h1
          go_enter Tryd.func24, Tryd.ntmps24
          go_wp2_with fail
          refine H1.out.mono ?_; rintro e w1 ⟨rfl, hb1⟩
          have HB1 := Lib.hid hb1
          have h2 := C2.out w1 hb1
          rw [← hn] at h2
          clear hb1 c0 c1 c2 c3 c4
          obtain ⟨c0, c1, c2, c3, c4⟩ := HCL.out w1 HB1.out
          cases e2 : portsB (nds l) n with
          | false =>
            rw [e2] at h2
            have H2 := Lib.hid h2
            have HE := Lib.hid (err_ports (g := nds l) e1 fun h => by rw [portsB_iff.2 h] at e2; cases e2); clear h2 e1 e2 hn
            dsimp only
            go_wp2_with fail
            refine H2.out.mono ?_; rintro e w2 ⟨rfl, hb2⟩
            have HB2 := Lib.hid (HB1.out.trans (hb2.mono HB1.out.size)); clear hb2
            dsimp only
            go_wp2_with fail
            go_ret
            exact ⟨reti (by rw [HAT.out, HE.out]), HB2.out⟩
          | true =>
            rw [e2] at h2
            have H2 := Lib.hid h2
            have hp := portsB_iff.1 e2
            have hpi : ∀ z ∈ xi, portOk (nds l) z := by have := hp.1; rw [hn] at this; exact this
            have HP := Lib.hid hp; have HPI := Lib.hid hpi; clear h2 e2 hp hpi
            dsimp only
            go_wp2_with fail
            refine H2.out.mono ?_; rintro e w2 ⟨rfl, hb2⟩
            have HB2 := Lib.hid (HB1.out.trans (hb2.mono HB1.out.size))
            have h3 := C3.out w2 HB2.out HPI.out
            rw [← hn] at h3
            clear hb2 c0 c1 c2 c3 c4
            obtain ⟨c0, c1, c2, c3, c4⟩ := HCL.out w2 HB2.out
            cases e3 : deepG (nds l) n with
            | false =>
              rw [e3] at h3
              have H3 := Lib.hid h3
              have HE := Lib.hid (err_deep (g := nds l) e1 HP.out fun h => by rw [deepG_iff.2 h] at e3; cases e3); clear h3 e1 e3 hn
              dsimp only
              go_wp2_with fail
              refine H3.out.mono ?_; rintro e w3 ⟨rfl, hb3⟩
              have HB3 := Lib.hid (HB2.out.trans (hb3.mono HB2.out.size)); clear hb3
              dsimp only
              go_wp2_with fail
              go_ret
              exact ⟨reti (by rw [HAT.out, HE.out]), HB3.out⟩
            | true =>
              rw [e3] at h3
              have H3 := Lib.hid h3
              have HE := Lib.hid (err_ok (g := nds l) e1 HP.out (deepG_iff.1 e3)); clear h3 e1 e3 hn
              dsimp only
              go_wp2_with fail
              refine H3.out.mono ?_; rintro e w3 ⟨rfl, hb3⟩
              have HB3 := Lib.hid (HB2.out.trans (hb3.mono HB2.out.size)); clear hb3
              dsimp only
              go_wp2_with fail
              go_ret
              exact ⟨reti (by rw [HAT.out, HE.out]), HB3.out⟩
theorem chkNode_any (A : Option Addr) (l : List Gn) (c : Nat) (i : Int) (w : World) (hG : Gr w A l) (hl : l.length ≤ 40) (hi : ∀ x ∈ nds l, x.ins.length ≤ 40) (hc : l.length ≤ c ∧ c ≤ maxLen) :
    Calls Tryd.prog 12 #[.slice A l.length c, .int .i64 i] w fun e w' => e = .returned (.int .i64 (nodeE (nds l) i)) ∧ Below w.heap.size w w' := by
  have HC := Lib.hid (numbers_any w)
  have HF := Lib.hid fun w1 m (hb : Below w.heap.size w w1) (hR : Rules w1 m) => fault_any A l c m i w1 (hG.below hb) (by unfold maxLen; omega) hR
  generalize nodeE (nds l) i = E at *
  clear hG hi hc
  go_enter Tryd.func12, Tryd.ntmps12
  go_wp2_with fail
  refine HC.out.mono ?_; rintro e w1 ⟨⟨m, rfl, hR⟩, hb1⟩
  have HB1 := Lib.hid hb1; have H2 := Lib.hid (HF.out w1 m hb1 hR); clear hb1 hR
  dsimp only
  go_wp2_with fail
  refine H2.out.mono ?_; rintro e w2 ⟨rfl, hb2⟩
  have HB2 := Lib.hid (HB1.out.trans (hb2.mono HB1.out.size)); clear hb2
  dsimp only
  go_wp2_with fail
  go_ret
  exact ⟨rfl, HB2.out⟩
end Go.Proofs.YtocdganglokplaaDoor
