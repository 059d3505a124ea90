/- PcFault, OpFault -/
import Derived.Test.YtcjdjdhjbchaaaaCa18
import Derived.Test.YtcjdjdhjbchaaaaCa11
namespace Go.Proofs.Ytcjdjdhjbchaaaa
set_option linter.unusedVariables false
section
open Go.ChangeShapes Go.WideShapes Go.ChangeAt Go.RowKit Go.BigFrame
set_option maxRecDepth 100000
def witB (xa : Nat) (xb : Int) (last : Nat) (lo hi : Int) : Bool := decide (xa ≤ last ∧ lo ≤ xb ∧ xb ≤ hi)
def divB (xa : Nat) (xb : Int) (last by_ : Nat) : Bool := decide (xa ≤ last ∧ (xa ≠ by_ ∨ 0 < xb))
set_option maxHeartbeats 4000000 in
theorem withinCall_any (xk xa : Nat) (xb xd : Int) (xi : List Int) (xA : Option Addr) (xc last : Nat) (lo hi : Int) (b1 b2 b3 : Nat) (w : World) (h1 : w.cell? ⟨b1, 0, none⟩ = some (.int .u8 (last : Nat))) (h2 : w.cell? ⟨b2, 0, none⟩ = some (.int .i64 lo)) (h3 : w.cell? ⟨b3, 0, none⟩ = some (.int .i64 hi)) :
    Calls Try.prog 94 #[.agg #[.int .u8 (xk : Nat), .int .u8 (xa : Nat), .int .i64 xb, .int .i64 xd, .slice xA xi.length xc], .pointer (some ⟨b1, 0, none⟩), .pointer (some ⟨b2, 0, none⟩), .pointer (some ⟨b3, 0, none⟩)] w fun e w' => e = .returned (.bool (witB xa xb last lo hi)) ∧ Below w.heap.size w w' := by
  have HB := Lib.hid ((Below.refl _ w).alloc (Nat.le_refl _) (.cells #[.int .u8 (xk : Nat), .int .u8 (xa : Nat), .int .i64 xb, .int .i64 xd, .slice xA xi.length xc] 24))
  have q1 := old_cell (o := .cells #[.int .u8 (xk : Nat), .int .u8 (xa : Nat), .int .i64 xb, .int .i64 xd, .slice xA xi.length xc] 24) h1
  have q2 := old_cell (o := .cells #[.int .u8 (xk : Nat), .int .u8 (xa : Nat), .int .i64 xb, .int .i64 xd, .slice xA xi.length xc] 24) h2
  have q3 := old_cell (o := .cells #[.int .u8 (xk : Nat), .int .u8 (xa : Nat), .int .i64 xb, .int .i64 xd, .slice xA xi.length xc] 24) h3
  by_cases k1 : (xa : Int) ≤ (last : Int)
  · by_cases k2 : lo ≤ xb
    · by_cases k3 : xb ≤ hi
      · have HY := Lib.hid (show true = witB xa xb last lo hi by unfold witB; first | exact (decide_eq_true (by omega)).symm | exact (decide_eq_false (by omega)).symm)
        go_enter Try.func94, Try.ntmps94
        go_wp2_with fail
        go_ret
        exact ⟨retb HY.out, HB.out⟩
      · have HY := Lib.hid (show false = witB xa xb last lo hi by unfold witB; first | exact (decide_eq_true (by omega)).symm | exact (decide_eq_false (by omega)).symm)
        go_enter Try.func94, Try.ntmps94
        go_wp2_with fail
        go_ret
        exact ⟨retb HY.out, HB.out⟩
    · have HY := Lib.hid (show false = witB xa xb last lo hi by unfold witB; first | exact (decide_eq_true (by omega)).symm | exact (decide_eq_false (by omega)).symm)
      go_enter Try.func94, Try.ntmps94
      go_wp2_with fail
      go_ret
      exact ⟨retb HY.out, HB.out⟩
  · have HY := Lib.hid (show false = witB xa xb last lo hi by unfold witB; first | exact (decide_eq_true (by omega)).symm | exact (decide_eq_false (by omega)).symm)
    go_enter Try.func94, Try.ntmps94
    go_wp2_with fail
    go_ret
    exact ⟨retb HY.out, HB.out⟩
set_option maxHeartbeats 4000000 in
theorem dividingCall_any (xk xa : Nat) (xb xd : Int) (xi : List Int) (xA : Option Addr) (xc last by_ : Nat) (b1 b2 : Nat) (w : World) (h1 : w.cell? ⟨b1, 0, none⟩ = some (.int .u8 (last : Nat))) (h2 : w.cell? ⟨b2, 0, none⟩ = some (.int .u8 (by_ : Nat))) :
    Calls Try.prog 96 #[.agg #[.int .u8 (xk : Nat), .int .u8 (xa : Nat), .int .i64 xb, .int .i64 xd, .slice xA xi.length xc], .pointer (some ⟨b1, 0, none⟩), .pointer (some ⟨b2, 0, none⟩)] w fun e w' => e = .returned (.bool (divB xa xb last by_)) ∧ Below w.heap.size w w' := by
  have HB := Lib.hid ((Below.refl _ w).alloc (Nat.le_refl _) (.cells #[.int .u8 (xk : Nat), .int .u8 (xa : Nat), .int .i64 xb, .int .i64 xd, .slice xA xi.length xc] 24))
  have q1 := old_cell (o := .cells #[.int .u8 (xk : Nat), .int .u8 (xa : Nat), .int .i64 xb, .int .i64 xd, .slice xA xi.length xc] 24) h1
  have q2 := old_cell (o := .cells #[.int .u8 (xk : Nat), .int .u8 (xa : Nat), .int .i64 xb, .int .i64 xd, .slice xA xi.length xc] 24) h2
  by_cases k1 : (xa : Int) ≤ (last : Int)
  · by_cases k2 : xa = by_
    · subst k2
      by_cases k3 : 0 < xb
      · have HY := Lib.hid (show true = divB xa xb last xa by unfold divB; first | exact (decide_eq_true (by omega)).symm | exact (decide_eq_false (by omega)).symm)
        go_enter Try.func96, Try.ntmps96
        go_wp2_with fail
        go_ret
        exact ⟨retb HY.out, HB.out⟩
      · have HY := Lib.hid (show false = divB xa xb last xa by unfold divB; first | exact (decide_eq_true (by omega)).symm | exact (decide_eq_false (by omega)).symm)
        go_enter Try.func96, Try.ntmps96
        go_wp2_with fail
        go_ret
        exact ⟨retb HY.out, HB.out⟩
    · have k2z : (((xa : Nat) : Int) != ((by_ : Nat) : Int)) = true := by simp; omega
      have HY := Lib.hid (show true = divB xa xb last by_ by unfold divB; first | exact (decide_eq_true (by omega)).symm | exact (decide_eq_false (by omega)).symm)
      go_enter Try.func96, Try.ntmps96
      go_wp2_with fail
      go_ret
      exact ⟨retb HY.out, HB.out⟩
  · have HY := Lib.hid (show false = divB xa xb last by_ by unfold divB; first | exact (decide_eq_true (by omega)).symm | exact (decide_eq_false (by omega)).symm)
    go_enter Try.func96, Try.ntmps96
    go_wp2_with fail
    go_ret
    exact ⟨retb HY.out, HB.out⟩
/-- what is looked up of a node's kind, and what that says of its numbers -/
theorem Rules.node {w : World} {m : Nat} {n : Nd} (h : Rules w m) (hk : n.k < 256) :
    ((Instr.lookup 95 (.map (some m)) (.int .u8 (n.k : Nat)) true).run Try.prog w = .ok (.tuple #[.nilFunc, .bool false]) w ∧ n.num = false) ∨
    (∃ v last by_, (Instr.lookup 95 (.map (some m)) (.int .u8 (n.k : Nat)) true).run Try.prog w = .ok (.tuple #[v, .bool true]) w ∧ Dividing w v last by_ ∧ divB n.a n.b last by_ = n.num) ∨
    ∃ v last lo hi, (Instr.lookup 95 (.map (some m)) (.int .u8 (n.k : Nat)) true).run Try.prog w = .ok (.tuple #[v, .bool true]) w ∧ Within w v last lo hi ∧ witB n.a n.b last lo hi = n.num := by
  rcases h.look hk with ⟨hno, hrun⟩ | ⟨v, hrun, hc⟩
  · refine .inl ⟨hrun, ?_⟩
    unfold Nd.num
    rw [if_neg (by omega), if_neg (by omega), if_neg (by omega), if_neg (by omega)]
    exact decide_eq_false (by omega)
  · rcases hc with ⟨e, hd⟩ | ⟨e, hd⟩ | ⟨e, hd⟩ | ⟨e, hd⟩ | ⟨e, hd⟩
    · refine .inr (.inl ⟨v, 3, 3, hrun, hd, ?_⟩)
      unfold Nd.num; rw [if_pos e]; rfl
    · refine .inr (.inl ⟨v, 2, 1, hrun, hd, ?_⟩)
      unfold Nd.num; rw [if_neg (by omega), if_pos e]; rfl
    · refine .inr (.inr ⟨v, 3, 0, 0, hrun, hd, ?_⟩)
      unfold Nd.num witB; rw [if_neg (by omega), if_neg (by omega), if_pos e, Bool.eq_iff_iff, decide_eq_true_eq, decide_eq_true_eq]; omega
    · refine .inr (.inr ⟨v, 0, 1, 16, hrun, hd, ?_⟩)
      unfold Nd.num witB; rw [if_neg (by omega), if_neg (by omega), if_neg (by omega), if_pos e, Bool.eq_iff_iff, decide_eq_true_eq, decide_eq_true_eq]; omega
    · refine .inr (.inr ⟨v, 0, 0, 0, hrun, hd, ?_⟩)
      unfold Nd.num witB; rw [if_neg (by omega), if_neg (by omega), if_neg (by omega), if_neg (by omega), Bool.eq_iff_iff, decide_eq_true_eq, decide_eq_true_eq]; omega
set_option maxHeartbeats 16000000 in
theorem fault_any (A : Option Addr) (l : List Gn) (c m : Nat) (i : Int) (w : World) (hG : Gr w A l) (hl : l.length ≤ maxLen) (hR : Rules w m) :
    Calls Try.prog 76 #[.slice A l.length c, .int .i64 i, .map (some m)] w fun e w' => e = .returned (.int .i64 (nodeE (nds l) i)) ∧ Below w.heap.size w w' := by
  have HML := Lib.hid hl
  unfold maxLen at hl
  by_cases h0 : i < 0
  · have HN := Lib.hid (nodeE_out (g := nds l) (i := i) (.inl h0))
    clear hR
    go_enter Try.func76, Try.ntmps76
    go_wp2_with fail
    go_ret
    exact ⟨reti HN.out.symm, Below.refl _ _⟩
  · by_cases h1 : (l.length : Int) ≤ i
    · have HN := Lib.hid (nodeE_out (g := nds l) (i := i) (.inr (by rw [nds_len]; exact h1)))
      clear hR
      go_enter Try.func76, Try.ntmps76
      go_wp2_with fail
      go_ret
      exact ⟨reti HN.out.symm, Below.refl _ _⟩
    · obtain ⟨I, rfl⟩ : ∃ I : Nat, i = (I : Int) := Int.eq_ofNat_of_zero_le (by omega)
      have hIl : I < l.length := by omega
      have hIz : (I : Int) < (l.length : Int) := by omega
      obtain ⟨x, hx⟩ : ∃ x, l[I]? = some x := ⟨_, List.getElem?_eq_getElem hIl⟩
      have hok := (hG.ok hx).c
      have hok8 := (hG.ok hx).k
      have hti := hG.ins hx
      have hat := nodeE_at (g := nds l) (i := I) (n := x.nd) (by unfold nds; rw [List.getElem?_map, hx]; rfl)
      have HG := Lib.hid hG; clear hG h0 h1
      obtain ⟨⟨xk, xa, xb, xd, xi⟩, xA, xc⟩ := x
      simp only at hok hok8 hti hat
      obtain ⟨n, hn⟩ : ∃ n : Nd, n = ⟨xk, xa, xb, xd, xi⟩ := ⟨_, rfl⟩
      rw [← hn] at hat
      obtain ⟨b, o, rfl, hbl, hcl⟩ := HG.out.at_ hx
      have hxm : xi.length ≤ maxLen := Nat.le_trans hok.1 hok.2
      have C2 := Lib.hid fun w1 (hb : Below w.heap.size w w1) => rightPorts_any (some ⟨b, o, none⟩) l c xk xa xb xd xi xA xc w1 (HG.out.below hb) HML.out (hti.below hb) hxm
      have C3 := Lib.hid fun w1 (hb : Below w.heap.size w w1) (hP : ∀ z ∈ xi, portOk (nds l) z) => rightDepth_any (some ⟨b, o, none⟩) l c xk xa xb xd xi xA xc w1 (HG.out.below hb) HML.out (hti.below hb) hxm hP
      have HCL := Lib.hid hcl; have HAT := Lib.hid hat
      obtain ⟨c0, c1, c2, c3, c4⟩ := hcl w (Below.refl _ _)
      simp only at c0 c1 c2 c3 c4
      have hrn := hR.node (n := n) (by rw [hn]; exact hok8)
      rw [show n.k = xk by rw [hn], show n.a = xa by rw [hn], show n.b = xb by rw [hn]] at hrn
      clear hx hok hti hat hcl hxm hR hok8
      rcases hrn with ⟨hrun, hnum⟩ | ⟨v, last, by_, hrun, ⟨b1, b2, rfl, q1, q2⟩, hnum⟩ | ⟨v, last, lo, hi, hrun, ⟨b1, b2, b3, rfl, q1, q2, q3⟩, hnum⟩
      · have HE := Lib.hid (err_num (g := nds l) hnum); clear hnum hn
        go_enter Try.func76, Try.ntmps76
        go_wp2_with fail
        go_ret
        exact ⟨reti (by rw [HAT.out, HE.out]), Below.refl _ _⟩
      · have h1 := dividingCall_any xk xa xb xd xi xA xc last by_ b1 b2 w q1 q2
        rw [hnum] at h1
        clear hnum q1 q2
        have eg : ∀ args w, (callFunc 96 args).run Try.prog w = .ok (.enter 96 args) w := enters_of Try.func96 (by kernel_rfl) rfl
        cases e1 : n.num with
        | false =>
          rw [e1] at h1
          have H1 := Lib.hid h1; have HE := Lib.hid (err_num (g := nds l) e1); clear h1 e1 hn
          go_enter Try.func76, Try.ntmps76
          go_wp2_with fail
          refine H1.out.mono ?_; rintro e w1 ⟨rfl, hb1⟩
          have HB1 := Lib.hid hb1; clear hb1
          dsimp only
          go_wp2_with fail
          go_ret
          exact ⟨reti (by rw [HAT.out, HE.out]), HB1.out⟩
        | true =>
          rw [e1] at h1
          have H1 := Lib.hid h1; clear h1
          go_enter Try.func76, Try.ntmps76
          go_wp2_with fail
          refine H1.out.mono ?_; rintro e w1 ⟨rfl, hb1⟩
          have HB1 := Lib.hid hb1
          have h2 := C2.out w1 hb1
          rw [← hn] at h2
          clear hb1 c0 c1 c2 c3 c4
          obtain ⟨c0, c1, c2, c3, c4⟩ := HCL.out w1 HB1.out
          cases e2 : portsB (nds l) n with
          | false =>
            rw [e2] at h2
            have H2 := Lib.hid h2
            have HE := Lib.hid (err_ports (g := nds l) e1 fun h => by rw [portsB_iff.2 h] at e2; cases e2); clear h2 e1 e2 hn
            dsimp only
            go_wp2_with fail
            refine H2.out.mono ?_; rintro e w2 ⟨rfl, hb2⟩
            have HB2 := Lib.hid (HB1.out.trans (hb2.mono HB1.out.size)); clear hb2
            dsimp only
            go_wp2_with fail
            go_ret
            exact ⟨reti (by rw [HAT.out, HE.out]), HB2.out⟩
          | true =>
            rw [e2] at h2
            have H2 := Lib.hid h2
            have hp := portsB_iff.1 e2
            have hpi : ∀ z ∈ xi, portOk (nds l) z := by have := hp.1; rw [hn] at this; exact this
            have HP := Lib.hid hp; have HPI := Lib.hid hpi; clear h2 e2 hp hpi
            dsimp only
            go_wp2_with fail
            refine H2.out.mono ?_; rintro e w2 ⟨rfl, hb2⟩
            have HB2 := Lib.hid (HB1.out.trans (hb2.mono HB1.out.size))
            have h3 := C3.out w2 HB2.out HPI.out
            rw [← hn] at h3
            clear hb2 c0 c1 c2 c3 c4
            obtain ⟨c0, c1, c2, c3, c4⟩ := HCL.out w2 HB2.out
            cases e3 : deepG (nds l) n with
            | false =>
              rw [e3] at h3
              have H3 := Lib.hid h3
              have HE := Lib.hid (err_deep (g := nds l) e1 HP.out fun h => by rw [deepG_iff.2 h] at e3; cases e3); clear h3 e1 e3 hn
              dsimp only
              go_wp2_with fail
              refine H3.out.mono ?_; rintro e w3 ⟨rfl, hb3⟩
              have HB3 := Lib.hid (HB2.out.trans (hb3.mono HB2.out.size)); clear hb3
              dsimp only
              go_wp2_with fail
              go_ret
              exact ⟨reti (by rw [HAT.out, HE.out]), HB3.out⟩
            | true =>
              rw [e3] at h3
              have H3 := Lib.hid h3
              have HE := Lib.hid (err_ok (g := nds l) e1 HP.out (deepG_iff.1 e3)); clear h3 e1 e3 hn
              dsimp only
              go_wp2_with fail
              refine H3.out.mono ?_; rintro e w3 ⟨rfl, hb3⟩
              have HB3 := Lib.hid (HB2.out.trans (hb3.mono HB2.out.size)); clear hb3
              dsimp only
              go_wp2_with fail
              go_ret
              exact ⟨reti (by rw [HAT.out, HE.out]), HB3.out⟩
      · have h1 := withinCall_any xk xa xb xd xi xA xc last lo hi b1 b2 b3 w q1 q2 q3
        rw [hnum] at h1
        clear hnum q1 q2 q3
        have eg : ∀ args w, (callFunc 94 args).run Try.prog w = .ok (.enter 94 args) w := enters_of Try.func94 (by kernel_rfl) rfl
        cases e1 : n.num with
        | false =>
          rw [e1] at h1
          have H1 := Lib.hid h1; have HE := Lib.hid (err_num (g := nds l) e1); clear h1 e1 hn
          go_enter Try.func76, Try.ntmps76
          go_wp2_with fail
          refine H1.out.mono ?_; rintro e w1 ⟨rfl, hb1⟩
          have HB1 := Lib.hid hb1; clear hb1
          dsimp only
          go_wp2_with fail
          go_ret
          exact ⟨reti (by rw [HAT.out, HE.out]), HB1.out⟩
        | true =>
          rw [e1] at h1
          have H1 := Lib.hid h1; clear h1
          go_enter Try.func76, Try.ntmps76
          go_wp2_with fail
          refine H1.out.mono ?_; rintro e w1 ⟨rfl, hb1⟩
          have HB1 := Lib.hid hb1
          have h2 := C2.out w1 hb1
          rw [← hn] at h2
          clear hb1 c0 c1 c2 c3 c4
          obtain ⟨c0, c1, c2, c3, c4⟩ := HCL.out w1 HB1.out
          cases e2 : portsB (nds l) n with
          | false =>
            rw [e2] at h2
            have H2 := Lib.hid h2
            have HE := Lib.hid (err_ports (g := nds l) e1 fun h => by rw [portsB_iff.2 h] at e2; cases e2); clear h2 e1 e2 hn
            dsimp only
            go_wp2_with fail
            refine H2.out.mono ?_; rintro e w2 ⟨rfl, hb2⟩
            have HB2 := Lib.hid (HB1.out.trans (hb2.mono HB1.out.size)); clear hb2
            dsimp only
            go_wp2_with fail
            go_ret
            exact ⟨reti (by rw [HAT.out, HE.out]), HB2.out⟩
          | true =>
            rw [e2] at h2
            have H2 := Lib.hid h2
            have hp := portsB_iff.1 e2
            have hpi : ∀ z ∈ xi, portOk (nds l) z := by have := hp.1; rw [hn] at this; exact this
            have HP := Lib.hid hp; have HPI := Lib.hid hpi; clear h2 e2 hp hpi
            dsimp only
            go_wp2_with fail
            refine H2.out.mono ?_; rintro e w2 ⟨rfl, hb2⟩
            have HB2 := Lib.hid (HB1.out.trans (hb2.mono HB1.out.size))
            have h3 := C3.out w2 HB2.out HPI.out
            rw [← hn] at h3
            clear hb2 c0 c1 c2 c3 c4
            obtain ⟨c0, c1, c2, c3, c4⟩ := HCL.out w2 HB2.out
            cases e3 : deepG (nds l) n with
            | false =>
              rw [e3] at h3
              have H3 := Lib.hid h3
              have HE := Lib.hid (err_deep (g := nds l) e1 HP.out fun h => by rw [deepG_iff.2 h] at e3; cases e3); clear h3 e1 e3 hn
              dsimp only
              go_wp2_with fail
              refine H3.out.mono ?_; rintro e w3 ⟨rfl, hb3⟩
              have HB3 := Lib.hid (HB2.out.trans (hb3.mono HB2.out.size)); clear hb3
              dsimp only
              go_wp2_with fail
              go_ret
              exact ⟨reti (by rw [HAT.out, HE.out]), HB3.out⟩
            | true =>
              rw [e3] at h3
              have H3 := Lib.hid h3
              have HE := Lib.hid (err_ok (g := nds l) e1 HP.out (deepG_iff.1 e3)); clear h3 e1 e3 hn
              dsimp only
              go_wp2_with fail
              refine H3.out.mono ?_; rintro e w3 ⟨rfl, hb3⟩
              have HB3 := Lib.hid (HB2.out.trans (hb3.mono HB2.out.size)); clear hb3
              dsimp only
              go_wp2_with fail
              go_ret
              exact ⟨reti (by rw [HAT.out, HE.out]), HB3.out⟩
theorem chkNode_any (A : Option Addr) (l : List Gn) (c : Nat) (i : Int) (w : World) (hG : Gr w A l) (hl : l.length ≤ 40) (hi : ∀ x ∈ nds l, x.ins.length ≤ 40) (hc : l.length ≤ c ∧ c ≤ maxLen) :
    Calls Try.prog 49 #[.slice A l.length c, .int .i64 i] w fun e w' => e = .returned (.int .i64 (nodeE (nds l) i)) ∧ Below w.heap.size w w' := by
  have HC := Lib.hid (numbers_any w)
  have HF := Lib.hid fun w1 m (hb : Below w.heap.size w w1) (hR : Rules w1 m) => fault_any A l c m i w1 (hG.below hb) (by unfold maxLen; omega) hR
  generalize nodeE (nds l) i = E at *
  clear hG hi hc
  go_enter Try.func49, Try.ntmps49
  go_wp2_with fail
  refine HC.out.mono ?_; rintro e w1 ⟨⟨m, rfl, hR⟩, hb1⟩
  have HB1 := Lib.hid hb1; have H2 := Lib.hid (HF.out w1 m hb1 hR); clear hb1 hR
  dsimp only
  go_wp2_with fail
  refine H2.out.mono ?_; rintro e w2 ⟨rfl, hb2⟩
  have HB2 := Lib.hid (HB1.out.trans (hb2.mono HB1.out.size)); clear hb2
  dsimp only
  go_wp2_with fail
  go_ret
  exact ⟨rfl, HB2.out⟩
end

section
namespace Op
open Go.ChangeShapes Go.WideShapes Go.ChangeAt Go.RowKit Go.BigFrame
set_option maxRecDepth 100000
/-- the error of a node with that many rows -/
def errR (n : Nd) (rows : Nat) : Int := if n.num = false then 130 else if rows ≠ n.want then 100 else 0
theorem errR_cases (n : Nd) (rows : Nat) : errR n rows = 130 ∧ n.num = false ∨ errR n rows = 100 ∧ n.num = true ∧ rows ≠ n.want ∨ errR n rows = 0 ∧ n.num = true ∧ rows = n.want := by
  unfold errR
  cases h : n.num
  · exact .inl ⟨by simp, rfl⟩
  · by_cases hw : rows = n.want
    · exact .inr (.inr ⟨by simp [hw], rfl, hw⟩)
    · exact .inr (.inl ⟨by simp [hw], rfl, hw⟩)
theorem nodeE_two (k a : Nat) (b d : Int) (ins : List Int) (rows : Nat) : nodeE [⟨1, 0, 0, 0, []⟩, ⟨k, a, b, d, List.replicate rows 0⟩] ((1 : Nat) : Int) = errR ⟨k, a, b, d, ins⟩ rows ∨ errR ⟨k, a, b, d, ins⟩ rows = 0 ∧ nodeE [⟨1, 0, 0, 0, []⟩, ⟨k, a, b, d, List.replicate rows 0⟩] ((1 : Nat) : Int) = 101 := by
  rw [nodeE_at (i := 1) (n := ⟨k, a, b, d, List.replicate rows 0⟩) rfl]
  have hp : Nd.Ports [⟨1, 0, 0, 0, []⟩, ⟨k, a, b, d, List.replicate rows 0⟩] ⟨k, a, b, d, List.replicate rows 0⟩ ↔ rows = Nd.want ⟨k, a, b, d, ins⟩ := by
    unfold Nd.Ports
    constructor
    · rintro ⟨_, h⟩
      simp only [List.length_replicate] at h
      exact h
    · intro h
      refine ⟨fun z hz => ?_, by simp only [List.length_replicate]; exact h⟩
      have : z = 0 := (List.mem_replicate.1 hz).2
      subst this
      exact ⟨Int.le_refl _, ⟨1, 0, 0, 0, []⟩, rfl, by decide⟩
  rcases errR_cases ⟨k, a, b, d, ins⟩ rows with ⟨e, h⟩ | ⟨e, h, hw⟩ | ⟨e, h, hw⟩
  · rw [e]; exact .inl (err_num (n := ⟨k, a, b, d, List.replicate rows 0⟩) h)
  · rw [e]; exact .inl (err_ports (n := ⟨k, a, b, d, List.replicate rows 0⟩) h fun q => hw (hp.1 q))
  · rw [e]
    by_cases hd : Nd.Deep [⟨1, 0, 0, 0, []⟩, ⟨k, a, b, d, List.replicate rows 0⟩] ⟨k, a, b, d, List.replicate rows 0⟩
    · exact .inl (err_ok (n := ⟨k, a, b, d, List.replicate rows 0⟩) h (hp.2 hw) hd)
    · exact .inr ⟨rfl, err_deep (n := ⟨k, a, b, d, List.replicate rows 0⟩) h (hp.2 hw) hd⟩
theorem zeros_made (n : Nat) : (madeCells (Value.int .i64 0).cells (n * 1)).toList = (List.replicate n 0).map (Value.int .i64) := by
  have : (Value.int .i64 0).cells = #[.int .i64 0] := rfl
  rw [this, toList_madeCells_one, List.map_replicate, Nat.mul_one]
set_option maxHeartbeats 2000000 in
theorem opFault_any (k a : Nat) (b d : Int) (A : Option Addr) (n c rows : Nat) (ins : List Int) (w : World) (hk : k < 256) (ha : a < 256) (hb : -9223372036854775808 ≤ b ∧ b ≤ 9223372036854775807) (hd : -9223372036854775808 ≤ d ∧ d ≤ 9223372036854775807) (hr : rows ≤ 40) :
    Calls Try.prog 29 #[.agg #[.int .u8 (k : Nat), .int .u8 (a : Nat), .int .i64 b, .int .i64 d, .slice A n c], .int .i64 (rows : Nat)] w fun e w' => e = .returned (.int .i64 (errR ⟨k, a, b, d, ins⟩ rows)) ∧ Below w.heap.size w w' := by
  obtain ⟨i0, hi0, hz0, hz1, hz2⟩ := info_parts infoInt
  have hbx := Row.made w 24 [.int .u8 (k : Nat), .int .u8 (a : Nat), .int .i64 b, .int .i64 d, .slice A n c]
  have hb1 := (Below.refl _ w).alloc (Nat.le_refl _) (.cells #[.int .u8 (k : Nat), .int .u8 (a : Nat), .int .i64 b, .int .i64 d, .slice A n c] 24)
  simp only [List.toArray] at hbx
  obtain ⟨W1, hW1⟩ : ∃ W1, w.alloc (.cells #[.int .u8 (k : Nat), .int .u8 (a : Nat), .int .i64 b, .int .i64 d, .slice A n c] 24) = W1 := ⟨_, rfl⟩
  rw [hW1] at hbx hb1
  obtain ⟨w9, hr9, ho9, hg9⟩ := run_make_full (P := Try.prog) W1 W1.heap.size 22 3 i0 _ 1 Try.underlying22 hi0 hz0 hz1 .i64 .i64 rows (by rw [hz2]; omega) (by unfold maxLen; omega) (Nat.le_refl _)
  have hb9 := (Below.refl W1.heap.size W1).grown hg9 (Nat.le_refl _) (fun _ e => by cases e)
  rw [zeros_made] at ho9
  have hrow9 := Row.of_full ho9
  have hbx9 := hbx.below hb9 hbx.lt
  have hbw9 := hb1.trans (hb9.mono hb1.size)
  have hgs : w.heap.size < W1.heap.size := hbx.lt
  generalize W1.heap.size = gs at hr9 ho9 hrow9 hgs
  have hb10 := hbw9.setCell (p := ⟨w.heap.size, 4, none⟩) (Nat.le_refl _) (.slice (some ⟨gs, 0, none⟩) rows rows)
  have hrow10 : Row (w9.setCell ⟨w.heap.size, 4, none⟩ (.slice (some ⟨gs, 0, none⟩) rows rows)) gs 3 ((List.replicate rows (0 : Int)).map (Value.int .i64)) := hrow9.far (by simp only; omega) _
  have hok0 : Gn.Ok ⟨⟨1, 0, 0, 0, []⟩, none, 0⟩ := ⟨by decide, by decide, by decide, by decide, by simp, by simp, fun _ => rfl⟩
  have hok1 : Gn.Ok ⟨⟨k, a, b, d, List.replicate rows 0⟩, some ⟨gs, 0, none⟩, rows⟩ := ⟨hk, ha, hb, hd, fun z hz => by have := (List.mem_replicate.1 hz).2; subst this; decide, by simp only [List.length_replicate]; unfold maxLen; omega, fun e => by cases e⟩
  have c0 := hbx9.cell 0; have c1 := hbx9.cell 1; have c2 := hbx9.cell 2; have c3 := hbx9.cell 3; have c4 := hbx9.cell 4; have f4 := hbx9.free 4
  simp only [List.getElem?_cons_succ, List.getElem?_cons_zero] at c0 c1 c2 c3 c4
  have hrow11 := hrow10
  obtain ⟨W2, hW2⟩ : ∃ W2, w9.setCell ⟨w.heap.size, 4, none⟩ (.slice (some ⟨gs, 0, none⟩) rows rows) = W2 := ⟨_, rfl⟩
  rw [hW2] at hb10 hrow10
  have hG : Gr (W2.alloc (.cells #[.int .u8 ((1 : Nat) : Nat), .int .u8 ((0 : Nat) : Nat), .int .i64 0, .int .i64 0, .slice none 0 0, .int .u8 (k : Nat), .int .u8 (a : Nat), .int .i64 b, .int .i64 d, .slice (some ⟨gs, 0, none⟩) (List.replicate rows (0 : Int)).length rows] 24)) (some ⟨W2.heap.size, 0, none⟩) [⟨⟨1, 0, 0, 0, []⟩, none, 0⟩, ⟨⟨k, a, b, d, List.replicate rows 0⟩, some ⟨gs, 0, none⟩, rows⟩] := by
    refine ⟨Rw.Ts.made (κ := kindG) W2 [⟨⟨1, 0, 0, 0, []⟩, none, 0⟩, ⟨⟨k, a, b, d, List.replicate rows 0⟩, some ⟨gs, 0, none⟩, rows⟩] _, fun x hx => ?_⟩
    simp only [List.mem_cons, List.not_mem_nil, or_false] at hx
    rcases hx with rfl | rfl
    · exact ⟨hok0, Rw.Ts.nil⟩
    · refine ⟨hok1, Rw.Ts.of_row (t := 3) ?_⟩
      rw [row_ints]
      exact hrow10.alloc _
  have hc := chkNode_any _ _ 2 1 _ hG (by simp) (fun x hx => by simp only [nds, List.map_cons, List.map_nil, List.mem_cons, List.not_mem_nil, or_false] at hx; rcases hx with rfl | rfl <;> simp <;> omega) (by simp [maxLen])
  have hcases := nodeE_two k a b d ins rows
  simp only [nds, List.map_cons, List.map_nil, List.length_cons, List.length_nil, List.length_replicate] at hc
  have hb11 := hb10.alloc hb10.size (.cells #[.int .u8 ((1 : Nat) : Nat), .int .u8 ((0 : Nat) : Nat), .int .i64 0, .int .i64 0, .slice none 0 0, .int .u8 (k : Nat), .int .u8 (a : Nat), .int .i64 b, .int .i64 d, .slice (some ⟨gs, 0, none⟩) rows rows] 24)
  subst hW2
  have hsz : (w9.setCell ⟨w.heap.size, 4, none⟩ (.slice (some ⟨gs, 0, none⟩) rows rows)).heap.size = w9.heap.size := by simp
  rw [show ((1 : Int)) = ((1 : Nat) : Int) from rfl] at hc
  have hc2 : Calls Try.prog 49 #[.slice (some ⟨w9.heap.size, 0, none⟩) 2 2, .int .i64 1] ((w9.setCell ⟨w.heap.size, 4, none⟩ (.slice (some ⟨gs, 0, none⟩) rows rows)).alloc (.cells #[.int .u8 1, .int .u8 0, .int .i64 0, .int .i64 0, .slice none 0 0, .int .u8 (k : Nat), .int .u8 (a : Nat), .int .i64 b, .int .i64 d, .slice (some ⟨gs, 0, none⟩) rows rows] 24)) (fun e w' => e = .returned (.int .i64 (nodeE [⟨1, 0, 0, 0, []⟩, ⟨k, a, b, d, List.replicate rows 0⟩] ((1 : Nat) : Int))) ∧ Below ((w9.setCell ⟨w.heap.size, 4, none⟩ (.slice (some ⟨gs, 0, none⟩) rows rows)).alloc (.cells #[.int .u8 1, .int .u8 0, .int .i64 0, .int .i64 0, .slice none 0 0, .int .u8 (k : Nat), .int .u8 (a : Nat), .int .i64 b, .int .i64 d, .slice (some ⟨gs, 0, none⟩) rows rows] 24)).heap.size ((w9.setCell ⟨w.heap.size, 4, none⟩ (.slice (some ⟨gs, 0, none⟩) rows rows)).alloc (.cells #[.int .u8 1, .int .u8 0, .int .i64 0, .int .i64 0, .slice none 0 0, .int .u8 (k : Nat), .int .u8 (a : Nat), .int .i64 b, .int .i64 d, .slice (some ⟨gs, 0, none⟩) rows rows] 24)) w') := by
    rw [hsz] at hc
    exact hc
  clear hc hsz
  have HC := Lib.hid hc2; have HB := Lib.hid hb11; clear hc2
  have HR9 : Hid ((Instr.makeSlice 22 (.int .i64 (rows : Nat)) (.int .i64 (rows : Nat))).run Try.prog (w.alloc (.cells #[.int .u8 (k : Nat), .int .u8 (a : Nat), .int .i64 b, .int .i64 d, .slice A n c] 24)) = .ok (.slice (some ⟨gs, 0, none⟩) rows rows) w9) := Lib.hid (by rw [hW1]; exact hr9)
  clear hb11 hr9 hrow9 hrow10 hrow11 hok0 hok1 hG hb9 hbw9 hbx hb1 ho9 hg9 hi0 hz0 hz1 hz2 hW1 hb10 hbx9
  rcases hcases with he | ⟨he, he2⟩
  · have hne : ¬ errR ⟨k, a, b, d, ins⟩ rows = 101 := by
      rcases errR_cases ⟨k, a, b, d, ins⟩ rows with ⟨e, _⟩ | ⟨e, _⟩ | ⟨e, _⟩ <;> omega
    have hc := HC.out
    rw [he] at hc
    clear HC he
    have HC := Lib.hid hc; clear hc
    generalize errR ⟨k, a, b, d, ins⟩ rows = E at *
    have hz : (E == 101) = false := by simpa using hne
    have hr9 := HR9.out
    go_enter Try.func29, Try.ntmps29
    go_wp2_with fail
    refine HC.out.mono ?_; rintro e w5 ⟨rfl, hb5⟩
    have HB5 := Lib.hid (HB.out.trans (hb5.mono HB.out.size)); clear hb5
    dsimp only
    go_wp2_with fail
    go_ret
    exact ⟨rfl, HB5.out⟩
  · have hc := HC.out
    rw [he2] at hc
    rw [he]
    clear HC he he2
    have HC := Lib.hid hc; clear hc
    have hr9 := HR9.out
    go_enter Try.func29, Try.ntmps29
    go_wp2_with fail
    refine HC.out.mono ?_; rintro e w5 ⟨rfl, hb5⟩
    have HB5 := Lib.hid (HB.out.trans (hb5.mono HB.out.size)); clear hb5
    dsimp only
    go_wp2_with fail
    go_ret
    exact ⟨rfl, HB5.out⟩
end Op
end
end Go.Proofs.Ytcjdjdhjbchaaaa
