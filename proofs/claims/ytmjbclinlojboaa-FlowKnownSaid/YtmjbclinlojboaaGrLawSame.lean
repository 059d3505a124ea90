/- FlowSame: of any two graphs it is told whether they are the same. -/
import Derived.Test.YtmjbclinlojboaaGrBytes
import Derived.Test.YtmjbclinlojboaaGrWorks
namespace Go.Proofs.Ytmjbclinlojboaa
open Go.ChangeShapes Go.WideShapes Go.ChangeAt Go.RowKit Go.BigFrame
set_option linter.unusedVariables false
set_option maxRecDepth 100000
namespace flowSame
set_option maxHeartbeats 4000000 in
theorem walk (A B : Option Addr) (l m : List Gn) (c d : Nat) (w : World) (hG : Gr w A l) (hH : Gr w B m) (hl : l.length ≤ maxLen) (hm : m.length ≤ maxLen) :
    Calls Try.prog 7 #[.slice A l.length c, .slice B m.length d] w fun e w' => e = .returned (.bool true) ∧ Below w.heap.size w w' := by
  have CW := Lib.hid works_any
  have h1 := ins_any A l c 40 w hG hl
  have h2 := ins_any B m d 40 w hH hm
  have C1 := Lib.hid fun w' (hb : Below w.heap.size w w') => flowSame_any A B l m c d w' (hG.below hb) (hH.below hb) hl hm
  have C2 := Lib.hid fun w' (hb : Below w.heap.size w w') => refSame_any A B l m c d w' (hG.below hb) (hH.below hb) hl hm
  have C3 := Lib.hid fun w' (hb : Below w.heap.size w w') => flowSame_any A A l l c c w' (hG.below hb) (hG.below hb) hl hl
  clear hG hH hl hm
  cases e1 : insB (nds l) 40 with
  | false =>
    rw [e1] at h1
    have H1 := Lib.hid h1; clear h1 h2 e1
    go_enter Try.func7, Try.ntmps7
    go_wp2_with fail
    refine (H1.out).mono ?_; rintro e w1 ⟨rfl, rfl⟩
    dsimp only
    go_wp2_with fail
    refine (CW.out _).mono ?_; rintro e w2 ⟨rfl, hb⟩
    have Hw2 := Lib.hid hb; clear hb
    dsimp only
    go_wp2_with fail
    go_ret
    exact ⟨rfl, Hw2.out⟩
  | true =>
    rw [e1] at h1
    cases e2 : insB (nds m) 40 with
    | false =>
      rw [e2] at h2
      have H1 := Lib.hid h1; have H2 := Lib.hid h2; clear h1 h2 e1 e2
      go_enter Try.func7, Try.ntmps7
      go_wp2_with fail
      refine (H1.out).mono ?_; rintro e w1 ⟨rfl, rfl⟩
      dsimp only
      go_wp2_with fail
      refine (H2.out).mono ?_; rintro e w1 ⟨rfl, rfl⟩
      dsimp only
      go_wp2_with fail
      refine (CW.out _).mono ?_; rintro e w2 ⟨rfl, hb⟩
      have Hw2 := Lib.hid hb; clear hb
      dsimp only
      go_wp2_with fail
      go_ret
      exact ⟨rfl, Hw2.out⟩
    | true =>
      rw [e2] at h2
      have H1 := Lib.hid h1; have H2 := Lib.hid h2; clear h1 h2 e1 e2
      have hs : true = sameN (nds l) (nds l) := sameN_yes rfl
      generalize sameN (nds l) (nds m) = S at *
      have HS := Lib.hid hs; clear hs
      go_enter Try.func7, Try.ntmps7
      go_wp2_with fail
      refine (H1.out).mono ?_; rintro e w1 ⟨rfl, rfl⟩
      dsimp only
      go_wp2_with fail
      refine (H2.out).mono ?_; rintro e w1 ⟨rfl, rfl⟩
      dsimp only
      go_wp2_with fail
      refine (C1.out _ (Below.refl _ _)).mono ?_; rintro e w2 ⟨rfl, hb⟩
      have Hw2 := Lib.hid hb; clear hb
      dsimp only
      go_wp2_with fail
      refine (C2.out _ Hw2.out).mono ?_; rintro e w3 ⟨rfl, hb⟩
      have Hw3 := Lib.hid (Hw2.out.trans (hb.mono Hw2.out.size)); clear hb
      dsimp only
      have hc3 := C3.out w3 Hw3.out
      rw [← HS.out] at hc3
      have H3 := Lib.hid hc3; clear hc3
      cases S
      all_goals
        go_wp2_with fail
        refine (H3.out).mono ?_; rintro e w4 ⟨rfl, hb⟩
        have Hw4 := Lib.hid (Hw3.out.trans (hb.mono Hw3.out.size)); clear hb
        dsimp only
        go_wp2_with fail
        refine (CW.out _).mono ?_; rintro e w5 ⟨rfl, hb⟩
        have Hw5 := Lib.hid (Hw4.out.trans (hb.mono Hw4.out.size)); clear hb
        dsimp only
        go_wp2_with fail
        go_ret
        exact ⟨rfl, Hw5.out⟩

set_option maxRecDepth 100000 in
theorem lifted (os : Os) (started : os.Started) (H : Type) (enc : TypeId × Value → H) :
    ReturnsInHanded {} Try.checked os 7 .any (Rows.flowSameSpec.pre6 enc Try.prog Try.f7 Rows.flowSameRow.domain false) (Rows.flowSameSpec.post enc Try.prog Try.f7 false true false false) := by
  refine returnsInHanded_of_change_sized (C := Try.checked) ownKnob_none started (by kernel_rfl) Try.func7
    (ChangeSpec.witness6 (enc := enc) (C := Try.checked) false ⟨#[], #[.slice none 0 0, .slice none 0 0], []⟩ 8 (by kernel_rfl) (by kernel_rfl) (by kernel_rfl) (by kernel_rfl)) ?_
  intro W base args ds gs before hval0 hW hcnd hsz0 _
  have hval : ∀ (j : Nat) t v, Try.f7.params[j]? = some t → args[j]? = some v → Value.okWide Try.prog W .any base t v := hval0
  have hW' := hW
  obtain ⟨p, q, hA0, hV, rfl, hfz, hnd⟩ := hW
  have hA : DataW.TrodAll enc Try.prog W 0 (fun _ => true) true Try.f7.params.toList args.toList ds p := hA0
  have hsz : (DataW.weightsEach Try.prog (Try.f7.params.toList ++ Rows.flowSameSpec.plain.varTypes Try.prog) (ds ++ gs)).all (· ≤ reachBytes) = true := hsz0
  rw [Try.params7] at hA hval hsz
  obtain ⟨v0, vs0, d0, ds0, p0, q0, hargs, rfl, rfl, h0, r0⟩ := trodAll_cons hA
  obtain ⟨v1, vs1, d1, ds1, p1, q1, rfl, rfl, rfl, h1, r1⟩ := trodAll_cons r0
  obtain ⟨rfl, rfl, rfl⟩ := trodAll_nil r1
  obtain rfl : args = #[v0, v1] := by cases args; simp_all
  obtain ⟨rfl, rfl⟩ := trodVars_none hV
  obtain ⟨A0, l0, c0, rfl, hG0, hgc0, hgm0, hgn0⟩ := open_graph (hval 0 23 v0 rfl rfl) h0
  obtain ⟨A1, l1, c1, rfl, hG1, hgc1, hgm1, hgn1⟩ := open_graph (hval 1 23 v1 rfl rfl) h1
  clear hA0 hval0 hsz0
  refine (walk A0 A1 l0 l1 c0 c1 W hG0 hG1 (Nat.le_trans hgc0 hgm0) (Nat.le_trans hgc1 hgm1)).mono fun e W' ⟨he, hg⟩ => ?_
  subst he
  exact ⟨_, rfl, law_post progLaid hW' rfl (by rw [Try.params7]; intro t ht; simp at ht; subst ht; exact ⟨by kernel_rfl, of_decide_eq_true (by kernel_rfl)⟩) rfl Try.underlying4 rfl hg⟩

theorem over : Rows.flowSameRow.holds Try.pinned (OpenSpec.ofChange Rows.flowSameSpec) :=
  OpenClaim.holds_of_wide 7 Try.f7 rfl rfl rfl rfl rfl rfl rfl ⟨rfl, rfl, rfl, rfl, rfl⟩ rfl rfl rfl rfl rfl (by kernel_rfl) Try.func7 (by kernel_rfl)
    (of_decide_eq_true (by kernel_rfl)) (by unfold Func.isWrapper; first | (rw [if_pos (by decide +kernel)]; kernel_rfl) | (rw [if_neg (by decide +kernel)]; exact ⟨rfl, rfl⟩))
    (fun os started H enc _ => lifted os started H enc)

/-- The statement. -/
theorem proved : Rows.FlowSameSaid :=
  over
end flowSame
end Go.Proofs.Ytmjbclinlojboaa
