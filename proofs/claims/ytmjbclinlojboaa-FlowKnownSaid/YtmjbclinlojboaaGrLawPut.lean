/- FlowPut: the bytes of any graph are the document's, or it is refused. -/
import Derived.Test.YtmjbclinlojboaaGrBytes
import Derived.Test.YtmjbclinlojboaaGrWorks
namespace Go.Proofs.Ytmjbclinlojboaa
open Go.ChangeShapes Go.WideShapes Go.ChangeAt Go.RowKit Go.BigFrame
set_option linter.unusedVariables false
set_option maxRecDepth 100000
namespace flowPut
set_option maxHeartbeats 8000000 in
theorem walk (A : Option Addr) (l : List Gn) (c : Nat) (w : World) (hG : Gr w A l) (hl : l.length ≤ maxLen) :
    Calls Try.prog 3 #[.slice A l.length c] w fun e w' => e = .returned (.bool true) ∧ Below w.heap.size w w' := by
  have HG := Lib.hid hG; have HL := Lib.hid hl; clear hG hl
  cases e1 : insB (nds l) 40 with
  | false =>
    have Hb := Lib.hid (Below.refl w.heap.size w)
    go_enter Try.func3, Try.ntmps3
    have hc := (by have h := ins_any A l c 40 w HG.out HL.out; rw [e1] at h; exact h)
    have HC := Lib.hid hc; clear hc
    go_wp2_with fail
    refine HC.out.mono ?_; rintro e w0 ⟨rfl, rfl⟩
    clear HC
    dsimp only
    clear e1
    have hc := works_any w
    have HC := Lib.hid hc; clear hc
    go_wp2_with fail
    refine HC.out.mono ?_; rintro e w2 ⟨rfl, hb⟩
    clear HC
    have h := HG.out.below hb; clear HG; have HG := Lib.hid h; clear h
    have h := Hb.out.trans (hb.mono Hb.out.size); clear Hb hb; have Hb := Lib.hid h; clear h
    dsimp only
    go_wp2_with fail
    go_ret
    exact ⟨rfl, Hb.out⟩
  | true =>
    have Hb := Lib.hid (Below.refl w.heap.size w)
    have HI := Lib.hid (insB_iff e1)
    have h1 := ins_any A l c 40 w HG.out HL.out
    rw [e1] at h1; clear e1
    have H1 := Lib.hid h1; clear h1
    go_enter Try.func3, Try.ntmps3
    have hc := H1.out
    have HC := Lib.hid hc; clear hc
    go_wp2_with fail
    refine HC.out.mono ?_; rintro e w0 ⟨rfl, rfl⟩
    clear HC
    dsimp only
    have hc := own_any A l c w HG.out (by have := HI.out.1; omega) (fun x hx => by have := HI.out.2 x hx; omega)
    have HC := Lib.hid hc; clear hc
    go_wp2_with fail
    refine HC.out.mono ?_; rintro e w2 ⟨⟨v, l', rfl, hn, ho⟩, hb⟩
    clear HC
    have h := HG.out.below hb; clear HG; have HG := Lib.hid h; clear h
    have h := Hb.out.trans (hb.mono Hb.out.size); clear Hb hb; have Hb := Lib.hid h; clear h
    obtain ⟨A', c', rfl, hG', hc1, hc2, _⟩ := ho.gr
    have HN := Lib.hid hn; have HG' := Lib.hid hG'; have HL' := Lib.hid (Nat.le_trans hc1 hc2); clear hn ho hG' hc1 hc2
    dsimp only
    have hc := flowPut_any A' l' c' w2 HG'.out HL'.out
    rw [HN.out] at hc
    have HC := Lib.hid hc; clear hc
    go_wp2_with fail
    refine HC.out.mono ?_; rintro e w3 ⟨⟨v, rfl, hv⟩, hb⟩
    clear HC
    have h := HG.out.below hb; clear HG; have HG := Lib.hid h; clear h
    have h := HG'.out.below hb; clear HG'; have HG' := Lib.hid h; clear h
    have h := Hb.out.trans (hb.mono Hb.out.size); clear Hb hb; have Hb := Lib.hid h; clear h
    obtain ⟨P1, pc1, rfl, hB, hpc1, hpc2, _, _⟩ := own_bytes hv (putO_lt (gr_W HG.out))
    have HP1 := Lib.hid hB; have HQ1 := Lib.hid (And.intro hpc1 hpc2); clear hv hB hpc1 hpc2
    dsimp only
    have hc := refPut_any A l c w3 HG.out HL.out
    have HC := Lib.hid hc; clear hc
    go_wp2_with fail
    refine HC.out.mono ?_; rintro e w4 ⟨⟨v, rfl, hv⟩, hb⟩
    clear HC
    have h := HG.out.below hb; clear HG; have HG := Lib.hid h; clear h
    have h := HG'.out.below hb; clear HG'; have HG' := Lib.hid h; clear h
    have h := HP1.out.below hb; clear HP1; have HP1 := Lib.hid h; clear h
    have h := Hb.out.trans (hb.mono Hb.out.size); clear Hb hb; have Hb := Lib.hid h; clear h
    obtain ⟨P2, pc2, rfl, hB, hpc1, hpc2, _, _⟩ := own_bytes hv (putO_lt (gr_W HG.out))
    have HP2 := Lib.hid hB; have HQ2 := Lib.hid (And.intro hpc1 hpc2); clear hv hB hpc1 hpc2
    dsimp only
    obtain ⟨E, hE⟩ : ∃ E, putE (nds l) = E := ⟨_, rfl⟩
    rw [hE]; clear hE
    have hc := (by have h := sameBytes_any (putO (nds l)) (putO (nds l)) P1 P2 pc1 pc2 w4 HP1.out HP2.out; rw [show sameB (putO (nds l)) (putO (nds l)) = true by unfold sameB; simp] at h; exact h)
    have HC := Lib.hid hc; clear hc
    go_wp2_with fail
    refine HC.out.mono ?_; rintro e w0 ⟨rfl, rfl⟩
    clear HC
    dsimp only
    have hc := (by have h := refSame_any A' A l' l c' c w4 HG'.out HG.out HL'.out HL.out; rw [HN.out, ← sameN_yes rfl] at h; exact h)
    have HC := Lib.hid hc; clear hc
    go_wp2_with fail
    refine HC.out.mono ?_; rintro e w5 ⟨rfl, hb⟩
    clear HC
    have h := HG.out.below hb; clear HG; have HG := Lib.hid h; clear h
    have h := HG'.out.below hb; clear HG'; have HG' := Lib.hid h; clear h
    have h := HP1.out.below hb; clear HP1; have HP1 := Lib.hid h; clear h
    have h := HP2.out.below hb; clear HP2; have HP2 := Lib.hid h; clear h
    have h := Hb.out.trans (hb.mono Hb.out.size); clear Hb hb; have Hb := Lib.hid h; clear h
    dsimp only
    have hc := works_any w5
    have HC := Lib.hid hc; clear hc
    go_wp2_with fail
    refine HC.out.mono ?_; rintro e w6 ⟨rfl, hb⟩
    clear HC
    have h := HG.out.below hb; clear HG; have HG := Lib.hid h; clear h
    have h := HG'.out.below hb; clear HG'; have HG' := Lib.hid h; clear h
    have h := HP1.out.below hb; clear HP1; have HP1 := Lib.hid h; clear h
    have h := HP2.out.below hb; clear HP2; have HP2 := Lib.hid h; clear h
    have h := Hb.out.trans (hb.mono Hb.out.size); clear Hb hb; have Hb := Lib.hid h; clear h
    dsimp only
    go_wp2_with fail
    go_ret
    exact ⟨rfl, Hb.out⟩

set_option maxRecDepth 100000 in
theorem lifted (os : Os) (started : os.Started) (H : Type) (enc : TypeId × Value → H) :
    ReturnsInHanded {} Try.checked os 3 .any (Rows.flowPutSpec.pre6 enc Try.prog Try.f3 Rows.flowPutRow.domain false) (Rows.flowPutSpec.post enc Try.prog Try.f3 false true false false) := by
  refine returnsInHanded_of_change_sized (C := Try.checked) ownKnob_none started (by kernel_rfl) Try.func3
    (ChangeSpec.witness6 (enc := enc) (C := Try.checked) false ⟨#[], #[.slice none 0 0], []⟩ 8 (by kernel_rfl) (by kernel_rfl) (by kernel_rfl) (by kernel_rfl)) ?_
  intro W base args ds gs before hval0 hW hcnd hsz0 _
  have hval : ∀ (j : Nat) t v, Try.f3.params[j]? = some t → args[j]? = some v → Value.okWide Try.prog W .any base t v := hval0
  have hW' := hW
  obtain ⟨p, q, hA0, hV, rfl, hfz, hnd⟩ := hW
  have hA : DataW.TrodAll enc Try.prog W 0 (fun _ => true) true Try.f3.params.toList args.toList ds p := hA0
  have hsz : (DataW.weightsEach Try.prog (Try.f3.params.toList ++ Rows.flowPutSpec.plain.varTypes Try.prog) (ds ++ gs)).all (· ≤ reachBytes) = true := hsz0
  rw [Try.params3] at hA hval hsz
  obtain ⟨v0, vs0, d0, ds0, p0, q0, hargs, rfl, rfl, h0, r0⟩ := trodAll_cons hA
  obtain ⟨rfl, rfl, rfl⟩ := trodAll_nil r0
  obtain rfl : args = #[v0] := by cases args; simp_all
  obtain ⟨rfl, rfl⟩ := trodVars_none hV
  obtain ⟨A0, l0, c0, rfl, hG0, hgc0, hgm0, hgn0⟩ := open_graph (hval 0 23 v0 rfl rfl) h0
  clear hA0 hval0 hsz0
  refine (walk A0 l0 c0 W hG0 (Nat.le_trans hgc0 hgm0)).mono fun e W' ⟨he, hg⟩ => ?_
  subst he
  exact ⟨_, rfl, law_post progLaid hW' rfl (by rw [Try.params3]; intro t ht; simp at ht; subst ht; exact ⟨by kernel_rfl, of_decide_eq_true (by kernel_rfl)⟩) rfl Try.underlying4 rfl hg⟩

theorem over : Rows.flowPutRow.holds Try.pinned (OpenSpec.ofChange Rows.flowPutSpec) :=
  OpenClaim.holds_of_wide 3 Try.f3 rfl rfl rfl rfl rfl rfl rfl ⟨rfl, rfl, rfl, rfl, rfl⟩ rfl rfl rfl rfl rfl (by kernel_rfl) Try.func3 (by kernel_rfl)
    (of_decide_eq_true (by kernel_rfl)) (by unfold Func.isWrapper; first | (rw [if_pos (by decide +kernel)]; kernel_rfl) | (rw [if_neg (by decide +kernel)]; exact ⟨rfl, rfl⟩))
    (fun os started H enc _ => lifted os started H enc)

/-- The statement. -/
theorem proved : Rows.FlowPutSaid :=
  over
end flowPut
end Go.Proofs.Ytmjbclinlojboaa
