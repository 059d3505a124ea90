/- CheckAll: of any graph it is told whether it may be run, or what is wrong first. -/
import Derived.Test.YtocdganglokplaaDoorChkInts
import Derived.Test.YtocdganglokplaaDoorChkWkA
import Derived.Test.YtocdganglokplaaDoorChkSi
namespace Go.Proofs.YtocdganglokplaaDoor
open Go.ChangeShapes Go.WideShapes Go.ChangeAt Go.RowKit Go.BigFrame
set_option linter.unusedVariables false
set_option maxRecDepth 100000
namespace checkAll
set_option maxHeartbeats 8000000 in
theorem walk (A : Option Addr) (l : List Gn) (c : Nat) (w : World) (hT : Tab w) (hG : Gr w A l) (hl : l.length ≤ maxLen) (hc : l.length ≤ c ∧ c ≤ maxLen) :
    Calls Tryd.prog 4 #[.slice A l.length c] w fun e w' => e = .returned (.bool true) ∧ Below w.heap.size w w' := by
  have HT := Lib.hid hT; clear hT
  have HG := Lib.hid hG; have HL := Lib.hid hl; have HCC := Lib.hid hc; clear hG hl hc
  have h1 := ins_any A l c 36 w HG.out HL.out
  cases e1 : insB (nds l) 36 with
  | false =>
    rw [e1] at h1; clear e1; have H1 := Lib.hid h1; clear h1
    have Hb := Lib.hid (Below.refl w.heap.size w)
    go_enter Tryd.func4, Tryd.ntmps4
    have hc := H1.out
    have HC := Lib.hid hc; clear hc
    go_wp2_with fail
    refine HC.out.mono ?_; rintro e w0 ⟨rfl, rfl⟩
    clear HC
    dsimp only
    have hc := chkWorks_any w HT.out
    have HC := Lib.hid hc; clear hc
    go_wp2_with fail
    refine HC.out.mono ?_; rintro e w2 ⟨rfl, hb⟩
    clear HC
    have h := HG.out.below hb; clear HG; have HG := Lib.hid h; clear h
    have h := HT.out.below hb; clear HT; have HT := Lib.hid h; clear h
    have h := Hb.out.trans (hb.mono Hb.out.size); clear Hb hb; have Hb := Lib.hid h; clear h
    dsimp only
    go_wp2_with fail
    go_ret
    exact ⟨rfl, Hb.out⟩
  | true =>
    have HI := Lib.hid (insB_nds (T := 36) e1)
    rw [e1] at h1; clear e1; have H1 := Lib.hid h1; clear h1
    have Hb := Lib.hid (Below.refl w.heap.size w)
    go_enter Tryd.func4, Tryd.ntmps4
    have hc := H1.out
    have HC := Lib.hid hc; clear hc
    go_wp2_with fail
    refine HC.out.mono ?_; rintro e w0 ⟨rfl, rfl⟩
    clear HC
    dsimp only
    have hc := own_any A l c w HG.out (by have := HI.out.1; omega) (fun x hx => by have := HI.out.2 x.nd (List.mem_map.2 ⟨x, hx, rfl⟩); omega)
    have HC := Lib.hid hc; clear hc
    go_wp2_with fail
    refine HC.out.mono ?_; rintro e w2 ⟨⟨v, l', rfl, hn, ho⟩, hb⟩
    clear HC
    have h := HG.out.below hb; clear HG; have HG := Lib.hid h; clear h
    have h := HT.out.below hb; clear HT; have HT := Lib.hid h; clear h
    have h := Hb.out.trans (hb.mono Hb.out.size); clear Hb hb; have Hb := Lib.hid h; clear h
    obtain ⟨A', c', rfl, hG', hc1, hc2, _⟩ := ho.gr
    have hll : l'.length = l.length := by { have := congrArg List.length hn; rwa [nds_len, nds_len] at this }
    have HN := Lib.hid hn; have HG' := Lib.hid hG'; have HL' := Lib.hid (Nat.le_trans hc1 hc2); have HC' := Lib.hid (And.intro hc1 hc2); have HLL := Lib.hid hll; clear hn ho hG' hc1 hc2 hll
    dsimp only
    have hc := chkCheck_any A' l' c' w2 HT.out HG'.out (by have := HI.out.1; have := HLL.out; omega) (fun x hx => by rw [HN.out] at hx; have := HI.out.2 x hx; omega) HC'.out
    rw [HN.out] at hc
    have HC := Lib.hid hc; clear hc
    go_wp2_with fail
    refine HC.out.mono ?_; rintro e w3 ⟨rfl, hb⟩
    clear HC
    have h := HG.out.below hb; clear HG; have HG := Lib.hid h; clear h
    have h := HT.out.below hb; clear HT; have HT := Lib.hid h; clear h
    have h := HG'.out.below hb; clear HG'; have HG' := Lib.hid h; clear h
    have h := Hb.out.trans (hb.mono Hb.out.size); clear Hb hb; have Hb := Lib.hid h; clear h
    dsimp only
    have hc := refCheck_any A l c w3 HG.out HL.out
    have HC := Lib.hid hc; clear hc
    go_wp2_with fail
    refine HC.out.mono ?_; rintro e w4 ⟨rfl, hb⟩
    clear HC
    have h := HG.out.below hb; clear HG; have HG := Lib.hid h; clear h
    have h := HT.out.below hb; clear HT; have HT := Lib.hid h; clear h
    have h := HG'.out.below hb; clear HG'; have HG' := Lib.hid h; clear h
    have h := Hb.out.trans (hb.mono Hb.out.size); clear Hb hb; have Hb := Lib.hid h; clear h
    dsimp only
    generalize (checkR (nds l)).1 = N at *
    generalize (checkR (nds l)).2 = E at *
    have hc := (by have h := refSame_any A' A l' l c' c w4 HG'.out HG.out HL'.out HL.out; rw [HN.out, ← sameN_yes rfl] at h; exact h)
    have HC := Lib.hid hc; clear hc
    go_wp2_with fail
    refine HC.out.mono ?_; rintro e w5 ⟨rfl, hb⟩
    clear HC
    have h := HG.out.below hb; clear HG; have HG := Lib.hid h; clear h
    have h := HT.out.below hb; clear HT; have HT := Lib.hid h; clear h
    have h := HG'.out.below hb; clear HG'; have HG' := Lib.hid h; clear h
    have h := Hb.out.trans (hb.mono Hb.out.size); clear Hb hb; have Hb := Lib.hid h; clear h
    dsimp only
    have hc := chkWorks_any w5 HT.out
    have HC := Lib.hid hc; clear hc
    go_wp2_with fail
    refine HC.out.mono ?_; rintro e w6 ⟨rfl, hb⟩
    clear HC
    have h := HG.out.below hb; clear HG; have HG := Lib.hid h; clear h
    have h := HT.out.below hb; clear HT; have HT := Lib.hid h; clear h
    have h := HG'.out.below hb; clear HG'; have HG' := Lib.hid h; clear h
    have h := Hb.out.trans (hb.mono Hb.out.size); clear Hb hb; have Hb := Lib.hid h; clear h
    dsimp only
    go_wp2_with fail
    go_ret
    exact ⟨rfl, Hb.out⟩

set_option maxRecDepth 100000 in
theorem lifted (os : Os) (started : os.Started) (H : Type) (enc : TypeId × Value → H) :
    ReturnsInHanded {} Tryd.checked os 4 .any (fun w args => (Rows.checkAllSpec.pre enc Tryd.prog Tryd.f4 [] false w args ∧ laidMetH Tryd.prog laidT w) ∧ sizedMet enc Tryd.prog Tryd.f4 (OpenSpec.ofChange Rows.checkAllSpec) false w args) (Rows.checkAllSpec.post enc Tryd.prog Tryd.f4 false true false false) := by
  refine returnsInHanded_of_change_and (C := Tryd.checked) (X := fun w _ => laidMetH Tryd.prog laidT w) (fun _ _ _ hh h => h.of_heap hh) ownKnob_none started (by kernel_rfl) Tryd.func4
    (ChangeSpec.witness_shaped (enc := enc) (C := Tryd.checked) (os := os) (X := fun w _ => laidMetH Tryd.prog laidT w) false (World.doorLaid Tryd.prog 400 os) #[.slice none 0 0] 8 rfl (World.shaped_of_RefB (by kernel_rfl) (by kernel_rfl)) (by kernel_rfl) (by kernel_rfl) (by kernel_rfl) (door_met os _)) ?_
  intro W base args ds gs before hval0 hW hcnd hsz0 hL _
  have hTab := tab_of_laid hL
  have hval : ∀ (j : Nat) t v, Tryd.f4.params[j]? = some t → args[j]? = some v → Value.okWide Tryd.prog W .any base t v := hval0
  have hW' := hW
  obtain ⟨p, q, hA0, hV, rfl, hfz, hnd⟩ := hW
  have hA : DataW.TrodAll enc Tryd.prog W 0 (fun _ => true) true Tryd.f4.params.toList args.toList ds p := hA0
  have hsz : (DataW.weightsEach Tryd.prog (Tryd.f4.params.toList ++ Rows.checkAllSpec.plain.varTypes Tryd.prog) (ds ++ gs)).all (· ≤ reachBytes) = true := hsz0
  rw [Tryd.params4] at hA hval hsz
  obtain ⟨v0, vs0, d0, ds0, p0, q0, hargs, rfl, rfl, h0, r0⟩ := trodAll_cons hA
  obtain ⟨rfl, rfl, rfl⟩ := trodAll_nil r0
  obtain rfl : args = #[v0] := by cases args; simp_all
  obtain ⟨rfl, rfl⟩ := trodVars_none hV
  obtain ⟨A0, l0, c0, rfl, hG0, hgc0, hgm0, hgn0⟩ := open_graph (hval 0 23 v0 rfl rfl) h0
  clear hA0 hval0 hsz0
  refine (walk A0 l0 c0 W hTab hG0 (Nat.le_trans hgc0 hgm0) ⟨hgc0, hgm0⟩).mono fun e W' ⟨he, hg⟩ => ?_
  subst he
  exact ⟨_, rfl, law_post progLaid hW' rfl (by rw [Tryd.params4]; intro t ht; simp at ht; subst ht; exact ⟨by kernel_rfl, of_decide_eq_true (by kernel_rfl)⟩) rfl Tryd.underlying4 rfl hg⟩

theorem over : Rows.checkAllRow.holds Tryd.pinned (OpenSpec.ofChange Rows.checkAllSpec) :=
  OpenClaim.holds_of_wide 4 Tryd.f4 rfl rfl rfl rfl rfl rfl rfl ⟨rfl, rfl, rfl, rfl, rfl⟩ rfl rfl rfl rfl rfl (by kernel_rfl) Tryd.func4 (by kernel_rfl)
    (of_decide_eq_true (by kernel_rfl)) (by unfold Func.isWrapper; first | (rw [if_pos (by decide +kernel)]; kernel_rfl) | (rw [if_neg (by decide +kernel)]; exact ⟨rfl, rfl⟩))
    (fun os started H enc _ => lifted os started H enc)

/-- The statement. -/
theorem proved : Rows.CheckAllCardSaid :=
  Claim7.holds_tied_plain_at .later [] [.data] true Rows.checkAllCard.stood.harness false over (fun _ h => by cases h) (by kernel_rfl) (fun _ h => by cases h) checkAll_row_tie rfl ⟨rfl, rfl⟩ (by kernel_rfl) rfl
    (fun f fn hf hfn => by
      obtain rfl : f = 4 := Option.some.inj ((show Tryd.prog.funcNamed "tailrace/tailracelaw10.CheckAll" = some 4 by kernel_rfl).symm.trans hf) |>.symm
      obtain rfl : fn = Tryd.f4 := (Option.some.inj (Tryd.func4.symm.trans hfn)).symm
      refine ⟨by kernel_rfl, fun j t ht => ?_⟩
      rw [Tryd.params4] at ht
      have hm := Array.mem_of_getElem? ht
      simp only [List.mem_toArray, List.mem_cons, List.not_mem_nil, or_false] at hm
      first
        | (subst hm; exact si_graph)
        | (rcases hm with rfl | rfl <;> first | exact si_graph | exact si_int | exact si_u8)
        | (rcases hm with rfl | rfl | rfl <;> first | exact si_graph | exact si_int | exact si_u8)
        | cases hm)
    (by kernel_rfl)
end checkAll
end Go.Proofs.YtocdganglokplaaDoor
