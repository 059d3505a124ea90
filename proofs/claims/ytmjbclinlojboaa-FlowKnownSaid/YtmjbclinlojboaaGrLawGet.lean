/- FlowGet: any bytes are the graph that the document says, or are refused; they stay. -/
import Derived.Test.YtmjbclinlojboaaGrMine
import Derived.Test.YtmjbclinlojboaaGrWorks
namespace Go.Proofs.Ytmjbclinlojboaa
open Go.ChangeShapes Go.WideShapes Go.ChangeAt Go.RowKit Go.BigFrame
set_option linter.unusedVariables false
set_option maxRecDepth 100000
namespace flowGet
set_option maxHeartbeats 8000000 in
theorem walk (A : Option Addr) (xs : List Nat) (c : Nat) (w : World) (hB : Bytes w A xs) (hl : xs.length ≤ maxLen) :
    Calls Try.prog 4 #[.slice A xs.length c] w fun e w' => e = .returned (.bool true) ∧ Below w.heap.size w w' := by
  have HM := Lib.hid hl
  unfold maxLen at hl
  have HX := Lib.hid hB.1
  by_cases h0 : 1000 < xs.length
  · have hz : (1000 : Int) < (xs.length : Int) := by omega
    clear hB
    go_enter Try.func4, Try.ntmps4
    have hc := works_any w
    have HC := Lib.hid hc; clear hc
    go_wp2_with fail
    refine HC.out.mono ?_; rintro e w2 ⟨rfl, hb⟩
    have Hb := Lib.hid hb; clear hb
    dsimp only
    go_wp2_with fail
    go_ret
    exact ⟨rfl, Hb.out⟩
  · have hz : ¬ (1000 : Int) < (xs.length : Int) := by omega
    have h1 := conv_bytes (P := Try.prog) (w := w) Try.underlying27 Try.underlying5 Try.underlying9 hB c
    have HB := Lib.hid hB; clear hB
    go_enter Try.func4, Try.ntmps4
    go_wp2_with (refine wpList_mine rfl (.tmp 14) rfl Try.underlying9 Try.underlying27 Try.underlying5 xs HX.out rfl HM.out ?_; intro c1 w2 hB2 hM2 hb2 hc1 hc2 hsz2; clear h1)
    have hlen : xs.length ≤ 100000 := by omega
    have hc := flowGet_any _ xs c1 w2 hB2 hlen ⟨hc1, hc2⟩
    have HC := Lib.hid hc; have HLEN := Lib.hid hlen; have HB2 := Lib.hid hB2; have HM2 := Lib.hid hM2; have Hb2 := Lib.hid hb2; have HS2 := Lib.hid hsz2
    clear hc hlen hB2 hM2 hb2 hc1 hc2 hsz2
    refine HC.out.mono ?_; rintro e w3 ⟨⟨v, l1, rfl, hn1, ho1⟩, hb3⟩
    obtain ⟨G1, gc1, rfl, hg1, hgc, hgm, _⟩ := ho1.gr
    have HN1 := Lib.hid hn1; have HO1 := Lib.hid ho1; have HL1 := Lib.hid (Nat.le_trans hgc hgm); have Hb3 := Lib.hid hb3; clear hn1 ho1 hg1 hgc hgm hb3 HC
    dsimp only
    have hc := refGet_any A xs c w3 ((HB.out.below Hb2.out).below Hb3.out) HLEN.out
    have HC := Lib.hid hc; clear hc
    go_wp2_with fail
    refine HC.out.mono ?_; rintro e w4 ⟨⟨v, l2, rfl, hn2, ho2⟩, hb4⟩
    obtain ⟨G2, gc2, rfl, hg2, hgc, hgm, _⟩ := ho2.gr
    have HN2 := Lib.hid hn2; have HO2 := Lib.hid ho2; have HL2 := Lib.hid (Nat.le_trans hgc hgm); have Hb4 := Lib.hid hb4; clear hn2 ho2 hg2 hgc hgm hb4 HC
    dsimp only
    generalize getE xs = E at *
    have ho1 := HO1.out.below Hb4.out
    clear HO1; have HO1 := Lib.hid ho1; clear ho1
    have hs : true = sameN (nds l1) (nds l2) := sameN_yes (by rw [HN1.out, HN2.out])
    have HSM := Lib.hid hs; clear hs
    have hc := (by
      obtain ⟨_, _, e, hg, _⟩ := HO1.out.gr
      cases e
      obtain ⟨_, _, e, hh, _⟩ := HO2.out.gr
      cases e
      have h := refSame_any G1 G2 l1 l2 gc1 gc2 w4 hg hh HL1.out HL2.out
      rw [← HSM.out] at h
      exact h : Calls Try.prog 17 #[.slice G1 l1.length gc1, .slice G2 l2.length gc2] w4 fun e w' => e = .returned (.bool true) ∧ Below w4.heap.size w4 w')
    have HC := Lib.hid hc; clear hc
    go_wp2_with fail
    refine HC.out.mono ?_; rintro e w5 ⟨rfl, hb5⟩
    have ho1 := HO1.out.below hb5
    have ho2 := HO2.out.below hb5
    have hB5 := ((HB2.out.below Hb3.out).below Hb4.out).below hb5
    have hM5 := (((HM2.out.below Hb3.out HS2.out).below Hb4.out (Nat.lt_of_lt_of_le HS2.out Hb3.out.size)).below hb5 (Nat.lt_of_lt_of_le HS2.out (Nat.le_trans Hb3.out.size Hb4.out.size)))
    have hA5 := (((HB.out.below Hb2.out).below Hb3.out).below Hb4.out).below hb5
    have hb25 := Hb3.out.trans ((Hb4.out.trans (hb5.mono Hb4.out.size)).mono Hb3.out.size)
    have Hb := Lib.hid (Hb2.out.trans (hb25.mono Hb2.out.size))
    have HZ3 := Lib.hid (Nat.lt_of_lt_of_le HS2.out Hb3.out.size)
    clear HO1 HO2 HC hb5 hb25
    have HO1 := Lib.hid ho1; have HO2 := Lib.hid ho2; have HM5 := Lib.hid hM5; clear ho1 ho2 hM5
    have hc := sameBytes_any xs xs _ A c1 c w5 hB5 hA5
    rw [show sameB xs xs = true by unfold sameB; simp] at hc
    have HC := Lib.hid hc; clear hc hB5 hA5
    dsimp only
    go_wp2_with fail
    refine HC.out.mono ?_; rintro e w0 ⟨rfl, rfl⟩
    clear HC
    dsimp only
    go_wp2_with fail
    go_loopw [8] (fun i wx => ∃ k : Nat, k ≤ xs.length ∧ i = .int .i64 k ∧ MyB wx w.heap.size xs.length ∧ OwnG wx w2.heap.size (.slice G1 l1.length gc1) l1 ∧ OwnG wx w3.heap.size (.slice G2 l2.length gc2) l2 ∧ Below w.heap.size w wx) (fun i _ => xs.length - (intOf i).toNat)
    case atStart => exact ⟨0, by omega, rfl, HM5.out, HO1.out, HO2.out, Hb.out⟩
    case round =>
      obtain ⟨k, hk, rfl, hmy, ho1, ho2, hbw⟩ := hrel
      have HMY := Lib.hid hmy; have HP1 := Lib.hid ho1; have HP2 := Lib.hid ho2; have HBW := Lib.hid hbw; clear hmy ho1 ho2 hbw
      by_cases hlt : k < xs.length
      · have hltz : (k : Int) < (xs.length : Int) := by omega
        obtain ⟨x, hx, hcell, hfree⟩ := HMY.out.at_ hlt
        obtain ⟨y, hy⟩ : ∃ y : Nat, (x + 1) % 256 = y := ⟨_, rfl⟩
        have hy1 : IntKind.u8.wrap ((x : Int) + 1) = (y : Int) := by rw [← hy]; simp [IntKind.wrap, IntKind.signed, IntKind.bits]
        have hy2 : ((x : Int) + 1) % 256 = (y : Int) := by rw [← hy]; simp
        have HY := Lib.hid (show y < 256 by omega); clear hy
        go_wp2_with fail
        go_roundw
        case rel => exact ⟨k + 1, by omega, by simp, HMY.out.put k y HY.out, HP1.out.far HS2.out _, HP2.out.far HZ3.out _, HBW.out.setCell (Nat.le_refl _) _⟩
        case measure => simp only [intOf]; omega
      · have hltz : ¬ (k : Int) < (xs.length : Int) := by omega
        have hc := (by
          obtain ⟨_, _, e, hg, _⟩ := HP1.out.gr
          cases e
          obtain ⟨_, _, e, hh, _⟩ := HP2.out.gr
          cases e
          have h := refSame_any G1 G2 l1 l2 gc1 gc2 wr hg hh HL1.out HL2.out
          rw [← HSM.out] at h
          exact h : Calls Try.prog 17 #[.slice G1 l1.length gc1, .slice G2 l2.length gc2] wr fun e w' => e = .returned (.bool true) ∧ Below wr.heap.size wr w')
        have HC := Lib.hid hc; clear hc
        go_wp2_with fail
        refine HC.out.mono ?_; rintro e w6 ⟨rfl, hb⟩
        have Hb6 := Lib.hid (HBW.out.trans (hb.mono HBW.out.size)); clear hb HC
        dsimp only
        have hc := works_any w6
        have HC := Lib.hid hc; clear hc
        go_wp2_with fail
        refine HC.out.mono ?_; rintro e w7 ⟨rfl, hb⟩
        have Hb7 := Lib.hid (Hb6.out.trans (hb.mono Hb6.out.size)); clear hb HC
        dsimp only
        go_wp2_with fail
        go_ret
        exact ⟨rfl, Hb7.out⟩

set_option maxRecDepth 100000 in
theorem lifted (os : Os) (started : os.Started) (H : Type) (enc : TypeId × Value → H) :
    ReturnsInHanded {} Try.checked os 4 .any (Rows.flowGetSpec.pre6 enc Try.prog Try.f4 Rows.flowGetRow.domain false) (Rows.flowGetSpec.post enc Try.prog Try.f4 false true false false) := by
  refine returnsInHanded_of_change_sized (C := Try.checked) ownKnob_none started (by kernel_rfl) Try.func4
    (ChangeSpec.witness6 (enc := enc) (C := Try.checked) false ⟨#[], #[.slice none 0 0], []⟩ 8 (by kernel_rfl) (by kernel_rfl) (by kernel_rfl) (by kernel_rfl)) ?_
  intro W base args ds gs before hval0 hW hcnd hsz0 _
  have hval : ∀ (j : Nat) t v, Try.f4.params[j]? = some t → args[j]? = some v → Value.okWide Try.prog W .any base t v := hval0
  have hW' := hW
  obtain ⟨p, q, hA0, hV, rfl, hfz, hnd⟩ := hW
  have hA : DataW.TrodAll enc Try.prog W 0 (fun _ => true) true Try.f4.params.toList args.toList ds p := hA0
  have hsz : (DataW.weightsEach Try.prog (Try.f4.params.toList ++ Rows.flowGetSpec.plain.varTypes Try.prog) (ds ++ gs)).all (· ≤ reachBytes) = true := hsz0
  rw [Try.params4] at hA hval hsz
  obtain ⟨v0, vs0, d0, ds0, p0, q0, hargs, rfl, rfl, h0, r0⟩ := trodAll_cons hA
  obtain ⟨rfl, rfl, rfl⟩ := trodAll_nil r0
  obtain rfl : args = #[v0] := by cases args; simp_all
  obtain ⟨rfl, rfl⟩ := trodVars_none hV
  obtain ⟨A0, xs0, c0, rfl, hB0, hxc0, hcm0, hAc0⟩ := open_bytes Try.underlying27 Try.underlying5 cells_u8 (hval 0 27 v0 rfl rfl) h0
  clear hA0 hval0 hsz0
  refine (walk A0 xs0 c0 W hB0 (Nat.le_trans hxc0 hcm0)).mono fun e W' ⟨he, hg⟩ => ?_
  subst he
  exact ⟨_, rfl, law_post progLaid hW' rfl (by rw [Try.params4]; intro t ht; simp at ht; subst ht; exact ⟨by kernel_rfl, of_decide_eq_true (by kernel_rfl)⟩) rfl Try.underlying4 rfl hg⟩

theorem over : Rows.flowGetRow.holds Try.pinned (OpenSpec.ofChange Rows.flowGetSpec) :=
  OpenClaim.holds_of_wide 4 Try.f4 rfl rfl rfl rfl rfl rfl rfl ⟨rfl, rfl, rfl, rfl, rfl⟩ rfl rfl rfl rfl rfl (by kernel_rfl) Try.func4 (by kernel_rfl)
    (of_decide_eq_true (by kernel_rfl)) (by unfold Func.isWrapper; first | (rw [if_pos (by decide +kernel)]; kernel_rfl) | (rw [if_neg (by decide +kernel)]; exact ⟨rfl, rfl⟩))
    (fun os started H enc _ => lifted os started H enc)

/-- The statement. -/
theorem proved : Rows.FlowGetSaid :=
  over
end flowGet
end Go.Proofs.Ytmjbclinlojboaa
