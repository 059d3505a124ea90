/- FlowApart: two graphs that may be written have the same bytes just if they are the same. -/
import Derived.Test.YtmjbclinlojboaaGrBytes
import Derived.Test.YtmjbclinlojboaaGrWorks
namespace Go.Proofs.Ytmjbclinlojboaa
open Go.ChangeShapes Go.WideShapes Go.ChangeAt Go.RowKit Go.BigFrame
set_option linter.unusedVariables false
set_option maxRecDepth 100000
namespace flowApart
set_option maxHeartbeats 8000000 in
theorem walk (A B : Option Addr) (l m : List Gn) (c d : Nat) (w : World) (hG : Gr w A l) (hH : Gr w B m) (hl : l.length ≤ maxLen) (hm : m.length ≤ maxLen) :
    Calls Try.prog 8 #[.slice A l.length c, .slice B m.length d] w fun e w' => e = .returned (.bool true) ∧ Below w.heap.size w w' := by
  have HG := Lib.hid hG; have HL := Lib.hid hl; have HH := Lib.hid hH; have HM := Lib.hid hm; clear hG hl hH hm
  have h1 := ins_any A l c 40 w HG.out HL.out
  have h2 := ins_any B m d 40 w HH.out HM.out
  cases e1 : insB (nds l) 40 with
  | false =>
    rw [e1] at h1; clear e1 h2; have H1 := Lib.hid h1; clear h1
    have Hb := Lib.hid (Below.refl w.heap.size w)
    go_enter Try.func8, Try.ntmps8
    have hc := H1.out
    have HC := Lib.hid hc; clear hc
    go_wp2_with fail
    refine HC.out.mono ?_; rintro e w0 ⟨rfl, rfl⟩
    clear HC
    dsimp only
    have hc := works_any w
    have HC := Lib.hid hc; clear hc
    go_wp2_with fail
    refine HC.out.mono ?_; rintro e w2 ⟨rfl, hb⟩
    clear HC
    have h := HG.out.below hb; clear HG; have HG := Lib.hid h; clear h
    have h := HH.out.below hb; clear HH; have HH := Lib.hid h; clear h
    have h := Hb.out.trans (hb.mono Hb.out.size); clear Hb hb; have Hb := Lib.hid h; clear h
    dsimp only
    go_wp2_with fail
    go_ret
    exact ⟨rfl, Hb.out⟩
  | true =>
    rw [e1] at h1; clear e1; have H1 := Lib.hid h1; clear h1
    cases e2 : insB (nds m) 40 with
    | false =>
      rw [e2] at h2; clear e2; have H2 := Lib.hid h2; clear h2
      have Hb := Lib.hid (Below.refl w.heap.size w)
      go_enter Try.func8, Try.ntmps8
      have hc := H1.out
      have HC := Lib.hid hc; clear hc
      go_wp2_with fail
      refine HC.out.mono ?_; rintro e w0 ⟨rfl, rfl⟩
      clear HC
      dsimp only
      have hc := H2.out
      have HC := Lib.hid hc; clear hc
      go_wp2_with fail
      refine HC.out.mono ?_; rintro e w0 ⟨rfl, rfl⟩
      clear HC
      dsimp only
      have hc := works_any w
      have HC := Lib.hid hc; clear hc
      go_wp2_with fail
      refine HC.out.mono ?_; rintro e w2 ⟨rfl, hb⟩
      clear HC
      have h := HG.out.below hb; clear HG; have HG := Lib.hid h; clear h
      have h := HH.out.below hb; clear HH; have HH := Lib.hid h; clear h
      have h := Hb.out.trans (hb.mono Hb.out.size); clear Hb hb; have Hb := Lib.hid h; clear h
      dsimp only
      go_wp2_with fail
      go_ret
      exact ⟨rfl, Hb.out⟩
    | true =>
      rw [e2] at h2; clear e2; have H2 := Lib.hid h2; clear h2
      have Hb := Lib.hid (Below.refl w.heap.size w)
      go_enter Try.func8, Try.ntmps8
      have hc := H1.out
      have HC := Lib.hid hc; clear hc
      go_wp2_with fail
      refine HC.out.mono ?_; rintro e w0 ⟨rfl, rfl⟩
      clear HC
      dsimp only
      have hc := H2.out
      have HC := Lib.hid hc; clear hc
      go_wp2_with fail
      refine HC.out.mono ?_; rintro e w0 ⟨rfl, rfl⟩
      clear HC
      dsimp only
      have hc := flowPut_any A l c w HG.out HL.out
      have HC := Lib.hid hc; clear hc
      go_wp2_with fail
      refine HC.out.mono ?_; rintro e w2 ⟨⟨v, rfl, hv⟩, hb⟩
      clear HC
      have h := HG.out.below hb; clear HG; have HG := Lib.hid h; clear h
      have h := HH.out.below hb; clear HH; have HH := Lib.hid h; clear h
      have h := Hb.out.trans (hb.mono Hb.out.size); clear Hb hb; have Hb := Lib.hid h; clear h
      obtain ⟨P1, pc1, rfl, hB, hpc1, hpc2, _, _⟩ := own_bytes hv (putO_lt (gr_W HG.out))
      have HP1 := Lib.hid hB; have HQ1 := Lib.hid (And.intro hpc1 hpc2); clear hv hB hpc1 hpc2
      dsimp only
      have hc := flowPut_any B m d w2 HH.out HM.out
      have HC := Lib.hid hc; clear hc
      go_wp2_with fail
      refine HC.out.mono ?_; rintro e w3 ⟨⟨v, rfl, hv⟩, hb⟩
      clear HC
      have h := HG.out.below hb; clear HG; have HG := Lib.hid h; clear h
      have h := HH.out.below hb; clear HH; have HH := Lib.hid h; clear h
      have h := HP1.out.below hb; clear HP1; have HP1 := Lib.hid h; clear h
      have h := Hb.out.trans (hb.mono Hb.out.size); clear Hb hb; have Hb := Lib.hid h; clear h
      obtain ⟨P2, pc2, rfl, hB, hpc1, hpc2, _, _⟩ := own_bytes hv (putO_lt (gr_W HH.out))
      have HP2 := Lib.hid hB; have HQ2 := Lib.hid (And.intro hpc1 hpc2); clear hv hB hpc1 hpc2
      dsimp only
      by_cases eg : putE (nds l) = 0
      · by_cases eh : putE (nds m) = 0
        · skip
          have hsb := sameB_graphs (gr_W HG.out) (gr_W HH.out) eg eh
          rw [eg, eh]; clear eg eh
          have hc := (by have h := sameBytes_any (putO (nds l)) (putO (nds m)) P1 P2 pc1 pc2 w3 HP1.out HP2.out; rw [hsb] at h; exact h)
          have HC := Lib.hid hc; clear hc
          go_wp2_with fail
          refine HC.out.mono ?_; rintro e w0 ⟨rfl, rfl⟩
          clear HC
          dsimp only
          clear hsb
          have hc := flowSame_any A B l m c d w3 HG.out HH.out HL.out HM.out
          have HC := Lib.hid hc; clear hc
          go_wp2_with fail
          refine HC.out.mono ?_; rintro e w4 ⟨rfl, hb⟩
          clear HC
          have h := HG.out.below hb; clear HG; have HG := Lib.hid h; clear h
          have h := HH.out.below hb; clear HH; have HH := Lib.hid h; clear h
          have h := HP1.out.below hb; clear HP1; have HP1 := Lib.hid h; clear h
          have h := HP2.out.below hb; clear HP2; have HP2 := Lib.hid h; clear h
          have h := Hb.out.trans (hb.mono Hb.out.size); clear Hb hb; have Hb := Lib.hid h; clear h
          dsimp only
          generalize sameN (nds l) (nds m) = S at *
          cases S
          all_goals
            have hc := works_any w4
            have HC := Lib.hid hc; clear hc
            go_wp2_with fail
            refine HC.out.mono ?_; rintro e w5 ⟨rfl, hb⟩
            clear HC
            have h := HG.out.below hb; clear HG; have HG := Lib.hid h; clear h
            have h := HH.out.below hb; clear HH; have HH := Lib.hid h; clear h
            have h := HP1.out.below hb; clear HP1; have HP1 := Lib.hid h; clear h
            have h := HP2.out.below hb; clear HP2; have HP2 := Lib.hid h; clear h
            have h := Hb.out.trans (hb.mono Hb.out.size); clear Hb hb; have Hb := Lib.hid h; clear h
            dsimp only
            go_wp2_with fail
            go_ret
            exact ⟨rfl, Hb.out⟩
        · skip
          have hz : (putE (nds m) != 0) = true := by simpa using eh
          rw [eg]; clear eg
          have HE := Lib.hid eh; clear eh
          generalize putE (nds m) = E at *
          have hc := works_any w3
          have HC := Lib.hid hc; clear hc
          go_wp2_with fail
          refine HC.out.mono ?_; rintro e w4 ⟨rfl, hb⟩
          clear HC
          have h := HG.out.below hb; clear HG; have HG := Lib.hid h; clear h
          have h := HH.out.below hb; clear HH; have HH := Lib.hid h; clear h
          have h := HP1.out.below hb; clear HP1; have HP1 := Lib.hid h; clear h
          have h := HP2.out.below hb; clear HP2; have HP2 := Lib.hid h; clear h
          have h := Hb.out.trans (hb.mono Hb.out.size); clear Hb hb; have Hb := Lib.hid h; clear h
          dsimp only
          go_wp2_with fail
          go_ret
          exact ⟨rfl, Hb.out⟩
      · skip
        have hz : (putE (nds l) != 0) = true := by simpa using eg
        have HE := Lib.hid eg; clear eg
        generalize putE (nds l) = E at *
        have hc := works_any w3
        have HC := Lib.hid hc; clear hc
        go_wp2_with fail
        refine HC.out.mono ?_; rintro e w4 ⟨rfl, hb⟩
        clear HC
        have h := HG.out.below hb; clear HG; have HG := Lib.hid h; clear h
        have h := HH.out.below hb; clear HH; have HH := Lib.hid h; clear h
        have h := HP1.out.below hb; clear HP1; have HP1 := Lib.hid h; clear h
        have h := HP2.out.below hb; clear HP2; have HP2 := Lib.hid h; clear h
        have h := Hb.out.trans (hb.mono Hb.out.size); clear Hb hb; have Hb := Lib.hid h; clear h
        dsimp only
        go_wp2_with fail
        go_ret
        exact ⟨rfl, Hb.out⟩

set_option maxRecDepth 100000 in
theorem lifted (os : Os) (started : os.Started) (H : Type) (enc : TypeId × Value → H) :
    ReturnsInHanded {} Try.checked os 8 .any (Rows.flowApartSpec.pre6 enc Try.prog Try.f8 Rows.flowApartRow.domain false) (Rows.flowApartSpec.post enc Try.prog Try.f8 false true false false) := by
  refine returnsInHanded_of_change_sized (C := Try.checked) ownKnob_none started (by kernel_rfl) Try.func8
    (ChangeSpec.witness6 (enc := enc) (C := Try.checked) false ⟨#[], #[.slice none 0 0, .slice none 0 0], []⟩ 8 (by kernel_rfl) (by kernel_rfl) (by kernel_rfl) (by kernel_rfl)) ?_
  intro W base args ds gs before hval0 hW hcnd hsz0 _
  have hval : ∀ (j : Nat) t v, Try.f8.params[j]? = some t → args[j]? = some v → Value.okWide Try.prog W .any base t v := hval0
  have hW' := hW
  obtain ⟨p, q, hA0, hV, rfl, hfz, hnd⟩ := hW
  have hA : DataW.TrodAll enc Try.prog W 0 (fun _ => true) true Try.f8.params.toList args.toList ds p := hA0
  have hsz : (DataW.weightsEach Try.prog (Try.f8.params.toList ++ Rows.flowApartSpec.plain.varTypes Try.prog) (ds ++ gs)).all (· ≤ reachBytes) = true := hsz0
  rw [Try.params8] at hA hval hsz
  obtain ⟨v0, vs0, d0, ds0, p0, q0, hargs, rfl, rfl, h0, r0⟩ := trodAll_cons hA
  obtain ⟨v1, vs1, d1, ds1, p1, q1, rfl, rfl, rfl, h1, r1⟩ := trodAll_cons r0
  obtain ⟨rfl, rfl, rfl⟩ := trodAll_nil r1
  obtain rfl : args = #[v0, v1] := by cases args; simp_all
  obtain ⟨rfl, rfl⟩ := trodVars_none hV
  obtain ⟨A0, l0, c0, rfl, hG0, hgc0, hgm0, hgn0⟩ := open_graph (hval 0 23 v0 rfl rfl) h0
  obtain ⟨A1, l1, c1, rfl, hG1, hgc1, hgm1, hgn1⟩ := open_graph (hval 1 23 v1 rfl rfl) h1
  clear hA0 hval0 hsz0
  refine (walk A0 A1 l0 l1 c0 c1 W hG0 hG1 (Nat.le_trans hgc0 hgm0) (Nat.le_trans hgc1 hgm1)).mono fun e W' ⟨he, hg⟩ => ?_
  subst he
  exact ⟨_, rfl, law_post progLaid hW' rfl (by rw [Try.params8]; intro t ht; simp at ht; subst ht; exact ⟨by kernel_rfl, of_decide_eq_true (by kernel_rfl)⟩) rfl Try.underlying4 rfl hg⟩

theorem over : Rows.flowApartRow.holds Try.pinned (OpenSpec.ofChange Rows.flowApartSpec) :=
  OpenClaim.holds_of_wide 8 Try.f8 rfl rfl rfl rfl rfl rfl rfl ⟨rfl, rfl, rfl, rfl, rfl⟩ rfl rfl rfl rfl rfl (by kernel_rfl) Try.func8 (by kernel_rfl)
    (of_decide_eq_true (by kernel_rfl)) (by unfold Func.isWrapper; first | (rw [if_pos (by decide +kernel)]; kernel_rfl) | (rw [if_neg (by decide +kernel)]; exact ⟨rfl, rfl⟩))
    (fun os started H enc _ => lifted os started H enc)

/-- The statement. -/
theorem proved : Rows.FlowApartSaid :=
  over
end flowApart
end Go.Proofs.Ytmjbclinlojboaa
