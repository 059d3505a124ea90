/- Node: the document's. -/
import Derived.Test.YtocdganglokplaaDoorChkNum
import Derived.Test.YtocdganglokplaaDoorChkPort
import Derived.Test.YtocdganglokplaaDoorChkDeep
namespace Go.Proofs.YtocdganglokplaaDoor
open Go.ChangeShapes Go.WideShapes Go.ChangeAt Go.RowKit Go.BigFrame
set_option linter.unusedVariables false
set_option maxRecDepth 100000
theorem reti {a b : Int} (h : a = b) : Ending.returned (.int .i64 a) = .returned (.int .i64 b) := by rw [h]
set_option maxHeartbeats 8000000 in
theorem refNode_any (A : Option Addr) (l : List Gn) (c : Nat) (i : Int) (w : World) (hG : Gr w A l) (hl : l.length ≤ maxLen) :
    Calls Tryd.prog 13 #[.slice A l.length c, .int .i64 i] w fun e w' => e = .returned (.int .i64 (nodeE (nds l) i)) ∧ Below w.heap.size w w' := by
  have HML := Lib.hid hl
  unfold maxLen at hl
  by_cases h0 : i < 0
  · have HN := Lib.hid (nodeE_out (g := nds l) (i := i) (.inl h0))
    go_enter Tryd.func13, Tryd.ntmps13
    go_wp2_with fail
    go_ret
    exact ⟨reti HN.out.symm, Below.refl _ _⟩
  · by_cases h1 : (l.length : Int) ≤ i
    · have HN := Lib.hid (nodeE_out (g := nds l) (i := i) (.inr (by rw [nds_len]; exact h1)))
      go_enter Tryd.func13, Tryd.ntmps13
      go_wp2_with fail
      go_ret
      exact ⟨reti HN.out.symm, Below.refl _ _⟩
    · obtain ⟨I, rfl⟩ : ∃ I : Nat, i = (I : Int) := Int.eq_ofNat_of_zero_le (by omega)
      have hIl : I < l.length := by omega
      have hIz : (I : Int) < (l.length : Int) := by omega
      obtain ⟨x, hx⟩ : ∃ x, l[I]? = some x := ⟨_, List.getElem?_eq_getElem hIl⟩
      have hok := (hG.ok hx).c
      have hti := hG.ins hx
      have hat := nodeE_at (g := nds l) (i := I) (n := x.nd) (by unfold nds; rw [List.getElem?_map, hx]; rfl)
      have HG := Lib.hid hG; clear hG h0 h1
      obtain ⟨⟨xk, xa, xb, xd, xi⟩, xA, xc⟩ := x
      simp only at hok hti hat
      obtain ⟨n, hn⟩ : ∃ n : Nd, n = ⟨xk, xa, xb, xd, xi⟩ := ⟨_, rfl⟩
      rw [← hn] at hat
      obtain ⟨b, o, rfl, hbl, hcl⟩ := HG.out.at_ hx
      have hxm : xi.length ≤ maxLen := Nat.le_trans hok.1 hok.2
      have C1 := Lib.hid (refNumbers_any xk xa xb xd xi xA xc w)
      have C2 := Lib.hid fun w1 (hb : Below w.heap.size w w1) => refPorts_any (some ⟨b, o, none⟩) l c xk xa xb xd xi xA xc w1 (HG.out.below hb) HML.out (hti.below hb) hxm
      have C3 := Lib.hid fun w1 (hb : Below w.heap.size w w1) (hP : ∀ z ∈ xi, portOk (nds l) z) => refDepth_any (some ⟨b, o, none⟩) l c xk xa xb xd xi xA xc w1 (HG.out.below hb) HML.out (hti.below hb) hxm hP
      have HCL := Lib.hid hcl; have HAT := Lib.hid hat
      obtain ⟨c0, c1, c2, c3, c4⟩ := hcl w (Below.refl _ _)
      simp only at c0 c1 c2 c3 c4
      clear hx hok hti hat hcl hxm
      have h1 := C1.out
      rw [← hn] at h1
      cases e1 : n.num with
      | false =>
        rw [e1] at h1
        have H1 := Lib.hid h1; have HE := Lib.hid (err_num (g := nds l) e1); clear h1 e1 hn
        go_enter Tryd.func13, Tryd.ntmps13
        go_wp2_with fail
        refine H1.out.mono ?_; rintro e w1 ⟨rfl, hb1⟩
        have HB1 := Lib.hid hb1; clear hb1
        dsimp only
        go_wp2_with fail
        go_ret
        exact ⟨reti (by rw [HAT.out, HE.out]), HB1.out⟩
      | true =>
        rw [e1] at h1
        have H1 := Lib.hid h1; clear h1
        go_enter Tryd.func13, Tryd.ntmps13
        go_wp2_with fail
        refine H1.out.mono ?_; rintro e w1 ⟨rfl, hb1⟩
        have HB1 := Lib.hid hb1
        have h2 := C2.out w1 hb1
        rw [← hn] at h2
        clear hb1 c0 c1 c2 c3 c4
        obtain ⟨c0, c1, c2, c3, c4⟩ := HCL.out w1 HB1.out
        cases e2 : portsB (nds l) n with
        | false =>
          rw [e2] at h2
          have H2 := Lib.hid h2
          have HE := Lib.hid (err_ports (g := nds l) e1 fun h => by rw [portsB_iff.2 h] at e2; cases e2); clear h2 e1 e2 hn
          dsimp only
          go_wp2_with fail
          refine H2.out.mono ?_; rintro e w2 ⟨rfl, hb2⟩
          have HB2 := Lib.hid (HB1.out.trans (hb2.mono HB1.out.size)); clear hb2
          dsimp only
          go_wp2_with fail
          go_ret
          exact ⟨reti (by rw [HAT.out, HE.out]), HB2.out⟩
        | true =>
          rw [e2] at h2
          have H2 := Lib.hid h2
          have hp := portsB_iff.1 e2
          have hpi : ∀ z ∈ xi, portOk (nds l) z := by have := hp.1; rw [hn] at this; exact this
          have HP := Lib.hid hp; have HPI := Lib.hid hpi; clear h2 e2 hp hpi
          dsimp only
          go_wp2_with fail
          refine H2.out.mono ?_; rintro e w2 ⟨rfl, hb2⟩
          have HB2 := Lib.hid (HB1.out.trans (hb2.mono HB1.out.size))
          have h3 := C3.out w2 HB2.out HPI.out
          rw [← hn] at h3
          clear hb2 c0 c1 c2 c3 c4
          obtain ⟨c0, c1, c2, c3, c4⟩ := HCL.out w2 HB2.out
          cases e3 : deepG (nds l) n with
          | false =>
            rw [e3] at h3
            have H3 := Lib.hid h3
            have HE := Lib.hid (err_deep (g := nds l) e1 HP.out fun h => by rw [deepG_iff.2 h] at e3; cases e3); clear h3 e1 e3 hn
            dsimp only
            go_wp2_with fail
            refine H3.out.mono ?_; rintro e w3 ⟨rfl, hb3⟩
            have HB3 := Lib.hid (HB2.out.trans (hb3.mono HB2.out.size)); clear hb3
            dsimp only
            go_wp2_with fail
            go_ret
            exact ⟨reti (by rw [HAT.out, HE.out]), HB3.out⟩
          | true =>
            rw [e3] at h3
            have H3 := Lib.hid h3
            have HE := Lib.hid (err_ok (g := nds l) e1 HP.out (deepG_iff.1 e3)); clear h3 e1 e3 hn
            dsimp only
            go_wp2_with fail
            refine H3.out.mono ?_; rintro e w3 ⟨rfl, hb3⟩
            have HB3 := Lib.hid (HB2.out.trans (hb3.mono HB2.out.size)); clear hb3
            dsimp only
            go_wp2_with fail
            go_ret
            exact ⟨reti (by rw [HAT.out, HE.out]), HB3.out⟩
end Go.Proofs.YtocdganglokplaaDoor
