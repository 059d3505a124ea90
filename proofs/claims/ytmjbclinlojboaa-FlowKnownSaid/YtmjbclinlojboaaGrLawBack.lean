/- FlowBack: what is put is got as it was; what is got is put as the same bytes; no beginning of bytes is a graph. -/
import Derived.Test.YtmjbclinlojboaaGrMine
import Derived.Test.YtmjbclinlojboaaGrWorks
namespace Go.Proofs.Ytmjbclinlojboaa
open Go.ChangeShapes Go.WideShapes Go.ChangeAt Go.RowKit Go.BigFrame
set_option linter.unusedVariables false
set_option maxRecDepth 100000
namespace flowBack
set_option maxHeartbeats 16000000 in
theorem walk (A B : Option Addr) (l : List Gn) (c : Nat) (xs : List Nat) (d : Nat) (cut : Int) (w : World) (hG : Gr w A l) (hl : l.length ≤ maxLen) (hB : Bytes w B xs) (hx : xs.length ≤ maxLen) (hd : xs.length ≤ d ∧ d ≤ maxLen) (hcut : -9223372036854775808 ≤ cut ∧ cut ≤ 9223372036854775807) :
    Calls Try.prog 5 #[.slice A l.length c, .slice B xs.length d, .int .i64 cut] w fun e w' => e = .returned (.bool true) ∧ Below w.heap.size w w' := by
  have HG := Lib.hid hG; have HL := Lib.hid hl; have HB := Lib.hid hB; have HCUT := Lib.hid hcut; have HDD := Lib.hid hd; clear hG hl hB hcut hd
  unfold maxLen at hx
  have h1 := ins_any A l c 40 w HG.out HL.out
  cases e1 : insB (nds l) 40 with
  | false =>
    rw [e1] at h1; clear e1
    have H1 := Lib.hid h1; clear h1
    go_enter Try.func5, Try.ntmps5
    go_wp2_with fail
    refine H1.out.mono ?_; rintro e w0 ⟨rfl, rfl⟩
    dsimp only
    have hc := works_any w
    have HC := Lib.hid hc; clear hc
    go_wp2_with fail
    refine HC.out.mono ?_; rintro e w2 ⟨rfl, hb⟩
    have Hb := Lib.hid hb; clear hb
    dsimp only
    go_wp2_with fail
    go_ret
    exact ⟨rfl, Hb.out⟩
  | true =>
    rw [e1] at h1; clear e1
    have H1 := Lib.hid h1; clear h1
    by_cases hlx : 1000 < xs.length
    · have hz : (1000 : Int) < (xs.length : Int) := by omega
      go_enter Try.func5, Try.ntmps5
      go_wp2_with fail
      refine H1.out.mono ?_; rintro e w0 ⟨rfl, rfl⟩
      dsimp only
      have hc := works_any w
      have HC := Lib.hid hc; clear hc
      go_wp2_with fail
      refine HC.out.mono ?_; rintro e w2 ⟨rfl, hb⟩
      have Hb := Lib.hid hb; clear hb
      dsimp only
      go_wp2_with fail
      go_ret
      exact ⟨rfl, Hb.out⟩
    · have hz : decide ((1000 : Int) < (xs.length : Int)) = false := by simp; omega
      go_enter Try.func5, Try.ntmps5
      go_wp2_with fail
      refine H1.out.mono ?_; rintro e w0 ⟨rfl, rfl⟩
      dsimp only
      have hc := flowPut_any A l c w HG.out HL.out
      have HC := Lib.hid hc; clear hc
      go_wp2_with fail
      refine HC.out.mono ?_; rintro e w2 ⟨⟨v, rfl, hv⟩, hb⟩
      obtain ⟨P, pc, rfl, hP, hpc, hpm, _, _⟩ := own_bytes hv (putO_lt (gr_W HG.out))
      have HPC := Lib.hid hpc; have HPM := Lib.hid hpm; clear hpc hpm
      have HP := Lib.hid hP; have Hb := Lib.hid hb; clear HC hv hP hb
      dsimp only
      go_upto_if 32 with fail
      go_cut [] from 8 (fun wx => Below w.heap.size w wx)
      case first =>
        by_cases eg : putE (nds l) = 0
        · rw [eg]
          have HE := Lib.hid eg; clear eg
          have HW := Lib.hid (gr_W HG.out)
          have hc := flowGet_any P (putO (nds l)) pc w2 HP.out (by have := putO_len (g := nds l); omega) ⟨HPC.out, HPM.out⟩
          unfold GetD at hc
          rw [(getR_some (getR_put HW.out HE.out)).2, ← (getR_some (getR_put HW.out HE.out)).1] at hc
          have HC := Lib.hid hc; clear hc
          go_wp2_with fail
          refine HC.out.mono ?_; rintro e w3 ⟨⟨v, l1, rfl, hn1, ho1⟩, hb3⟩
          obtain ⟨G1, gc1, rfl, hg1, hgc, hgm, _⟩ := ho1.gr
          have HN1 := Lib.hid hn1; have HG1 := Lib.hid hg1; have HL1 := Lib.hid (Nat.le_trans hgc hgm)
          have hp3 := HP.out.below hb3
          have hb3' := Hb.out.trans (hb3.mono Hb.out.size)
          clear HP; have HP := Lib.hid hp3; have Hb3 := Lib.hid hb3'; clear hn1 hg1 hgc hgm hb3 hb3' hp3 ho1 HC
          dsimp only
          have hc := pick_any cut (putO (nds l)).length w3 HCUT.out (by have := putO_len (g := nds l); omega)
          have HC := Lib.hid hc; clear hc
          go_wp2_with fail
          refine HC.out.mono ?_; rintro e w0 ⟨⟨k, rfl, hk⟩, rfl⟩
          clear HC
          have hkl : k < (putO (nds l)).length := by have := putO_pos HE.out; omega
          have htl : ((putO (nds l)).take k).length = k := by rw [List.length_take]; omega
          dsimp only
          have hc := flowGet_any P ((putO (nds l)).take k) pc w3 (HP.out.take k) (by rw [htl]; have := putO_len (g := nds l); omega) ⟨by rw [htl]; have := HPC.out; omega, HPM.out⟩
          unfold GetD at hc
          rw [(getR_none (getR_take HW.out HE.out hkl)).2, ← (getR_none (getR_take HW.out HE.out hkl)).1, htl] at hc
          obtain ⟨ad, rfl, _, hcad⟩ := HP.out.2 (putO_pos HE.out)
          obtain ⟨y0, hy0⟩ : ∃ y, (putO (nds l))[0]? = some y := ⟨_, List.getElem?_eq_getElem (putO_pos HE.out)⟩
          obtain ⟨pb, po, rfl⟩ : ∃ pb po, ad = ⟨pb, po, none⟩ := by
            obtain ⟨b', o', e⟩ := plain_addr (hcad 0 y0 hy0)
            obtain ⟨b, o, s⟩ := ad
            simp [Addr.add] at e
            exact ⟨b', o', by rw [e.1, e.2.1, e.2.2]⟩
          have hpk : k ≤ pc := by have := HPC.out; omega
          have hpz : ¬ pc = 0 := by have := HPC.out; omega
          have hkz : (0 : Int) ≤ (k : Int) := by omega
          have hkp : (k : Int) ≤ (pc : Int) := by omega
          have HC := Lib.hid hc; clear hc htl hk hcad hy0 hkl
          go_wp2_with fail
          refine HC.out.mono ?_; rintro e w4 ⟨⟨v, l2, rfl, _, _⟩, hb4⟩
          have hg1 := HG1.out.below hb4
          have hb4' := Hb3.out.trans (hb4.mono Hb3.out.size)
          have HG1 := Lib.hid hg1; have Hb4 := Lib.hid hb4'; clear HC hg1 hb4 hb4' hpk hpz hkz hkp
          dsimp only
          have hc := flowSame_any A G1 l l1 c gc1 w4 (HG.out.below Hb4.out) HG1.out HL.out HL1.out
          rw [HN1.out, ← sameN_yes rfl] at hc
          have HC := Lib.hid hc; clear hc
          go_wp2_with fail
          refine HC.out.mono ?_; rintro e w5 ⟨rfl, hb⟩
          have Hb5 := Lib.hid (Hb4.out.trans (hb.mono Hb4.out.size)); clear hb HC
          dsimp only
          go_wp2_with fail
          go_meet
          exact Hb5.out
        · have hz1 : (putE (nds l) == 0) = false := by simpa using eg
          generalize putE (nds l) = E at *
          have HE := Lib.hid eg; clear eg
          go_wp2_with fail
          go_meet
          exact Hb.out
      case rest =>
        have HbC := Lib.hid hcut
        clear hcut Hb HP HPC HPM
        have hc := flowGet_any B xs d wc (HB.out.below HbC.out) (by omega) HDD.out
        unfold GetD at hc
        cases hR : getR xs with
        | none =>
          rw [(getR_none hR).2, ← (getR_none hR).1] at hc
          have HC := Lib.hid hc; clear hc hR
          go_wp2_with fail
          refine HC.out.mono ?_; rintro e w3 ⟨⟨v, l1, rfl, hn1, ho1⟩, hb3⟩
          obtain ⟨G1, gc1, rfl, hg1, hgc, hgm, _⟩ := ho1.gr
          have hl0 : l1 = [] := by
            have := congrArg List.length hn1
            rw [nds_len] at this
            exact List.length_eq_zero_iff.1 this
          subst hl0
          have Hb3 := Lib.hid (HbC.out.trans (hb3.mono HbC.out.size)); clear hn1 hg1 hgc hgm hb3 ho1 HC
          dsimp only
          have hc := works_any w3
          have HC := Lib.hid hc; clear hc
          go_wp2_with fail
          refine HC.out.mono ?_; rintro e w4 ⟨rfl, hb⟩
          have Hb4 := Lib.hid (Hb3.out.trans (hb.mono Hb3.out.size)); clear hb HC
          dsimp only
          go_wp2_with fail
          go_ret
          exact ⟨rfl, Hb4.out⟩
        | some g =>
          rw [(getR_some hR).2, ← (getR_some hR).1] at hc
          obtain ⟨hgw, hgm, hgx⟩ := getR_iff HB.out.1 hR
          have HC := Lib.hid hc; have HGM := Lib.hid hgm; have HGX := Lib.hid hgx; clear hc hR hgw hgm hgx
          go_wp2_with fail
          refine HC.out.mono ?_; rintro e w3 ⟨⟨v, l1, rfl, hn1, ho1⟩, hb3⟩
          obtain ⟨G1, gc1, rfl, hg1, hgc, hgm, _⟩ := ho1.gr
          have HN1 := Lib.hid hn1; have HG1 := Lib.hid hg1; have HL1 := Lib.hid (Nat.le_trans hgc hgm)
          have Hb3 := Lib.hid (HbC.out.trans (hb3.mono HbC.out.size)); clear hn1 hg1 hgc hgm hb3 ho1 HC
          dsimp only
          have hc := flowPut_any G1 l1 gc1 w3 HG1.out HL1.out
          unfold PutD at hc
          rw [HN1.out, (putE_of HGM.out).1, (putE_of HGM.out).2, ← HGX.out] at hc
          have HC := Lib.hid hc; clear hc
          go_wp2_with fail
          refine HC.out.mono ?_; rintro e w4 ⟨⟨v, rfl, hv⟩, hb⟩
          obtain ⟨Q, qc, rfl, hQ, _, _, _, _⟩ := own_bytes hv HB.out.1
          have HQ := Lib.hid hQ; have Hb4 := Lib.hid (Hb3.out.trans (hb.mono Hb3.out.size)); clear HC hv hQ hb
          dsimp only
          have hc := sameBytes_any xs xs Q B qc d w4 HQ.out (HB.out.below Hb4.out)
          rw [show sameB xs xs = true by unfold sameB; simp] at hc
          have HC := Lib.hid hc; clear hc
          go_wp2_with fail
          refine HC.out.mono ?_; rintro e w0 ⟨rfl, rfl⟩
          clear HC
          dsimp only
          have hc := works_any w4
          have HC := Lib.hid hc; clear hc
          go_wp2_with fail
          refine HC.out.mono ?_; rintro e w5 ⟨rfl, hb⟩
          have Hb5 := Lib.hid (Hb4.out.trans (hb.mono Hb4.out.size)); clear hb HC
          dsimp only
          go_wp2_with fail
          go_ret
          exact ⟨rfl, Hb5.out⟩

set_option maxRecDepth 100000 in
theorem lifted (os : Os) (started : os.Started) (H : Type) (enc : TypeId × Value → H) :
    ReturnsInHanded {} Try.checked os 5 .any (Rows.flowBackSpec.pre6 enc Try.prog Try.f5 Rows.flowBackRow.domain false) (Rows.flowBackSpec.post enc Try.prog Try.f5 false true false false) := by
  refine returnsInHanded_of_change_sized (C := Try.checked) ownKnob_none started (by kernel_rfl) Try.func5
    (ChangeSpec.witness6 (enc := enc) (C := Try.checked) false ⟨#[], #[.slice none 0 0, .slice none 0 0, .int .i64 0], []⟩ 8 (by kernel_rfl) (by kernel_rfl) (by kernel_rfl) (by kernel_rfl)) ?_
  intro W base args ds gs before hval0 hW hcnd hsz0 _
  have hval : ∀ (j : Nat) t v, Try.f5.params[j]? = some t → args[j]? = some v → Value.okWide Try.prog W .any base t v := hval0
  have hW' := hW
  obtain ⟨p, q, hA0, hV, rfl, hfz, hnd⟩ := hW
  have hA : DataW.TrodAll enc Try.prog W 0 (fun _ => true) true Try.f5.params.toList args.toList ds p := hA0
  have hsz : (DataW.weightsEach Try.prog (Try.f5.params.toList ++ Rows.flowBackSpec.plain.varTypes Try.prog) (ds ++ gs)).all (· ≤ reachBytes) = true := hsz0
  rw [Try.params5] at hA hval hsz
  obtain ⟨v0, vs0, d0, ds0, p0, q0, hargs, rfl, rfl, h0, r0⟩ := trodAll_cons hA
  obtain ⟨v1, vs1, d1, ds1, p1, q1, rfl, rfl, rfl, h1, r1⟩ := trodAll_cons r0
  obtain ⟨v2, vs2, d2, ds2, p2, q2, rfl, rfl, rfl, h2, r2⟩ := trodAll_cons r1
  obtain ⟨rfl, rfl, rfl⟩ := trodAll_nil r2
  obtain rfl : args = #[v0, v1, v2] := by cases args; simp_all
  obtain ⟨rfl, rfl⟩ := trodVars_none hV
  obtain ⟨A0, l0, c0, rfl, hG0, hgc0, hgm0, hgn0⟩ := open_graph (hval 0 23 v0 rfl rfl) h0
  obtain ⟨A1, xs1, c1, rfl, hB1, hxc1, hcm1, hAc1⟩ := open_bytes Try.underlying27 Try.underlying5 cells_u8 (hval 1 27 v1 rfl rfl) h1
  obtain ⟨a2, rfl, rfl, rfl, w2⟩ := open_int Try.underlying3 (hval 2 3 v2 rfl rfl) h2
  have b2 := i64_wf w2
  clear hA0 hval0 hsz0
  refine (walk A0 A1 l0 c0 xs1 c1 a2 W hG0 (Nat.le_trans hgc0 hgm0) hB1 (Nat.le_trans hxc1 hcm1) ⟨hxc1, hcm1⟩ b2).mono fun e W' ⟨he, hg⟩ => ?_
  subst he
  exact ⟨_, rfl, law_post progLaid hW' rfl (by rw [Try.params5]; intro t ht; simp at ht; rcases ht with rfl | rfl | rfl <;> exact ⟨by kernel_rfl, of_decide_eq_true (by kernel_rfl)⟩) rfl Try.underlying4 rfl hg⟩

theorem over : Rows.flowBackRow.holds Try.pinned (OpenSpec.ofChange Rows.flowBackSpec) :=
  OpenClaim.holds_of_wide 5 Try.f5 rfl rfl rfl rfl rfl rfl rfl ⟨rfl, rfl, rfl, rfl, rfl⟩ rfl rfl rfl rfl rfl (by kernel_rfl) Try.func5 (by kernel_rfl)
    (of_decide_eq_true (by kernel_rfl)) (by unfold Func.isWrapper; first | (rw [if_pos (by decide +kernel)]; kernel_rfl) | (rw [if_neg (by decide +kernel)]; exact ⟨rfl, rfl⟩))
    (fun os started H enc _ => lifted os started H enc)

/-- The statement. -/
theorem proved : Rows.FlowBackSaid :=
  over
end flowBack
end Go.Proofs.Ytmjbclinlojboaa
