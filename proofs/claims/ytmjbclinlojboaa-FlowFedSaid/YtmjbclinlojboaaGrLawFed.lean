/- FlowFed: each of To is an input that the node feeds, each once, rising; and each input that it feeds is there. -/
import Derived.Test.YtmjbclinlojboaaGrBytes
import Derived.Test.YtmjbclinlojboaaGrWorks
namespace Go.Proofs.Ytmjbclinlojboaa
open Go.ChangeShapes Go.WideShapes Go.ChangeAt Go.RowKit Go.BigFrame
set_option linter.unusedVariables false
set_option maxRecDepth 100000
namespace flowFed
set_option maxHeartbeats 8000000 in
theorem walk (A : Option Addr) (l : List Gn) (c : Nat) (i : Int) (w : World) (hG : Gr w A l) (hl : l.length ≤ maxLen) :
    Calls Try.prog 9 #[.slice A l.length c, .int .i64 i] w fun e w' => e = .returned (.bool true) ∧ Below w.heap.size w w' := by
  have HG := Lib.hid hG; have HL := Lib.hid hl; clear hG hl
  have h1 := ins_any A l c 20 w HG.out HL.out
  cases e1 : insB (nds l) 20 with
  | false =>
    rw [e1] at h1; clear e1; have H1 := Lib.hid h1; clear h1
    have Hb := Lib.hid (Below.refl w.heap.size w)
    go_enter Try.func9, Try.ntmps9
    have hc := H1.out
    have HC := Lib.hid hc; clear hc
    go_wp2_with fail
    refine HC.out.mono ?_; rintro e w0 ⟨rfl, rfl⟩
    clear HC
    dsimp only
    have hc := works_any w
    have HC := Lib.hid hc; clear hc
    go_wp2_with fail
    refine HC.out.mono ?_; rintro e w2 ⟨rfl, hb⟩
    clear HC
    have h := HG.out.below hb; clear HG; have HG := Lib.hid h; clear h
    have h := Hb.out.trans (hb.mono Hb.out.size); clear Hb hb; have Hb := Lib.hid h; clear h
    dsimp only
    go_wp2_with fail
    go_ret
    exact ⟨rfl, Hb.out⟩
  | true =>
    have hi := insB_iff e1
    rw [e1] at h1; clear e1; have H1 := Lib.hid h1; clear h1
    have Hb := Lib.hid (Below.refl w.heap.size w)
    have hl20 : l.length ≤ 20 := by omega
    have hi20 : ∀ x ∈ nds l, x.ins.length ≤ 20 := fun x hx => by
      obtain ⟨y, hy, rfl⟩ := List.mem_map.1 hx
      have := hi.2 y hy; omega
    have HI := Lib.hid hi20; have HI40 := Lib.hid (fun x hx => Nat.le_trans (hi20 x hx) (by omega) : ∀ x ∈ nds l, x.ins.length ≤ 40); clear hi hi20
    go_enter Try.func9, Try.ntmps9
    have hc := H1.out
    have HC := Lib.hid hc; clear hc
    go_wp2_with fail
    refine HC.out.mono ?_; rintro e w0 ⟨rfl, rfl⟩
    clear HC
    dsimp only
    have hc := flowTo_any A l c i w HG.out (by omega) HI40.out
    have HC := Lib.hid hc; clear hc
    go_wp2_with fail
    refine HC.out.mono ?_; rintro e w2 ⟨⟨v, rfl, hv⟩, hb⟩
    clear HC
    have h := HG.out.below hb; clear HG; have HG := Lib.hid h; clear h
    have h := Hb.out.trans (hb.mono Hb.out.size); clear Hb hb; have Hb := Lib.hid h; clear h
    obtain ⟨Q1, qc1, rfl, hT, _, _, _, _⟩ := Rw.Ts.of_own hv
    have HT1 := Lib.hid hT; clear hv hT
    dsimp only
    have hps : (toG i 0 (nds l)).length ≤ 400 := by
      have h1 := toG_len i 20 (nds l) 0 HI.out
      rw [nds_len] at h1; omega
    have HFA := Lib.hid (fun (k p : Nat) (x : Gn) => fed_at (l := l) (k := k) (p := p) (x := x) (i := i))
    have HTE := Lib.hid (show toG i 0 (nds (l.take l.length)) = toG i 0 (nds l) by rw [List.take_length])
    generalize toG i 0 (nds l) = ps at *
    go_wp2_with fail
    go_loop [6, 7] (fun n k => ∃ q : Nat, q ≤ l.length ∧ k = .int .i64 q ∧ n = .int .i64 ((toG i 0 (nds (l.take q))).length : Nat)) (fun _ k => l.length - (intOf k).toNat)
    case atStart => exact ⟨0, by omega, rfl, by simp [toG, nds]⟩
    case round =>
      obtain ⟨k, hk, rfl, rfl⟩ := hrel
      by_cases hlt : k < l.length
      · have hltz : (k : Int) < (l.length : Int) := by omega
        obtain ⟨x, hx⟩ : ∃ x, l[k]? = some x := ⟨_, List.getElem?_eq_getElem hlt⟩
        have hix := HI.out x.nd (List.mem_map.2 ⟨x, List.mem_of_getElem? hx, rfl⟩)
        obtain ⟨b, o, rfl, hbl, hcl⟩ := HG.out.at_ hx
        obtain ⟨_, _, _, _, c4⟩ := hcl _ (Below.refl _ _)
        have hts := toG_take i hx
        have HX := Lib.hid hx; have HTS := Lib.hid hts; clear hx hcl hts
        obtain ⟨xi, hxi⟩ : ∃ xi, x.nd.ins = xi := ⟨_, rfl⟩
        rw [hxi] at c4 hix
        have HXI := Lib.hid hxi; clear hxi
        have hln : (toG i 0 (nds (l.take k))).length ≤ 400 := by
          have h1 := toG_len i 20 (nds (l.take k)) 0 fun y hy => HI.out y (by
            unfold nds at hy ⊢
            rw [List.map_take] at hy
            exact List.mem_of_mem_take hy)
          rw [nds_len, List.length_take] at h1
          omega
        generalize hqs : toG i 0 (nds (l.take k)) = qs at *
        have HQS := Lib.hid hqs; clear hqs
        go_wp2_with fail
        go_loop [6, 8] (fun n k' => ∃ p : Nat, p ≤ xi.length ∧ k' = .int .i64 p ∧ n = .int .i64 ((qs ++ toIn k i 0 (xi.take p)).length : Nat)) (fun _ k' => xi.length - (intOf k').toNat)
        case atStart => exact ⟨0, by omega, rfl, by simp [toIn]⟩
        case round =>
          obtain ⟨p, hp, rfl, rfl⟩ := hrel
          by_cases hlp : p < xi.length
          · have hpz : (p : Int) < (xi.length : Int) := by omega
            obtain ⟨z, hz⟩ : ∃ z, xi[p]? = some z := ⟨_, List.getElem?_eq_getElem hlp⟩
            have hT := HG.out.ins HX.out
            rw [HXI.out] at hT
            obtain ⟨bb, oo, hA, _, hq⟩ := ints_at hT hz
            rw [hA] at c4
            have q := hq _ (Below.refl _ _)
            have htk := toIn_take k i hz
            have hln2 : (qs ++ toIn k i 0 (xi.take p)).length ≤ 420 := by
              have := toIn_len k i (xi.take p) 0
              have := List.length_take_le p xi
              rw [List.length_append]; omega
            by_cases hzi : z = i
            · subst hzi
              have hat := HFA.out k p x HX.out (by rw [HXI.out]; exact hz)
              rw [HQS.out, HXI.out] at hat
              have hlt2 := (List.getElem?_eq_some_iff.1 hat).1
              generalize hns : (qs ++ toIn k z 0 (xi.take p)).length = n at *
              obtain ⟨b1, o1, rfl, _, hc1⟩ := ports_at HT1.out hat
              obtain ⟨q1, q2⟩ := hc1 _ (Below.refl _ _)
              have hnz : (n : Int) < (ps.length : Int) := by omega
              have HTK := Lib.hid htk; have HNS := Lib.hid hns; clear htk hns hz hq hat hT hc1 hA
              go_wp2_with fail
              go_round
              case rel => exact ⟨p + 1, by omega, by simp, by rw [HTK.out, if_pos rfl, ← List.append_assoc, List.length_append, HNS.out]; simp⟩
              case measure => simp only [intOf]; omega
            · have hzb : (z == i) = false := by simpa using hzi
              have HN := Lib.hid hzi; have HTK := Lib.hid htk
              generalize hns : (qs ++ toIn k i 0 (xi.take p)).length = n at *
              have HNS := Lib.hid hns; clear htk hz hq hzi hT hA hns
              go_wp2_with fail
              go_round
              case rel => exact ⟨p + 1, by omega, by simp, by rw [HTK.out, if_neg HN.out, List.append_nil, HNS.out]⟩
              case measure => simp only [intOf]; omega
          · have hpz : ¬ (p : Int) < (xi.length : Int) := by omega
            have hpe : p = xi.length := by omega
            have HPE := Lib.hid hpe; clear hpe
            generalize hns : (qs ++ toIn k i 0 (xi.take p)).length = n at *
            have HNS := Lib.hid hns; clear hns
            go_wp2_with fail
            go_round
            case rel => exact ⟨k + 1, by omega, by simp, by rw [HTS.out, HXI.out, ← HNS.out, HPE.out, List.take_length]⟩
            case measure => simp only [intOf]; omega
      · have hltz : ¬ (k : Int) < (l.length : Int) := by omega
        have hke : k = l.length := by omega
        have hpe : toG i 0 (nds (l.take k)) = ps := by rw [hke, HTE.out]
        rw [hpe]; clear hke hpe
        have hc := works_any w2
        have HC := Lib.hid hc; clear hc
        go_wp2_with fail
        refine HC.out.mono ?_; rintro e w6 ⟨rfl, hb⟩
        have h := Hb.out.trans (hb.mono Hb.out.size); clear Hb hb; have Hb := Lib.hid h; clear h
        dsimp only
        go_wp2_with fail
        go_ret
        exact ⟨rfl, Hb.out⟩

set_option maxRecDepth 100000 in
theorem lifted (os : Os) (started : os.Started) (H : Type) (enc : TypeId × Value → H) :
    ReturnsInHanded {} Try.checked os 9 .any (Rows.flowFedSpec.pre6 enc Try.prog Try.f9 Rows.flowFedRow.domain false) (Rows.flowFedSpec.post enc Try.prog Try.f9 false true false false) := by
  refine returnsInHanded_of_change_sized (C := Try.checked) ownKnob_none started (by kernel_rfl) Try.func9
    (ChangeSpec.witness6 (enc := enc) (C := Try.checked) false ⟨#[], #[.slice none 0 0, .int .i64 0], []⟩ 8 (by kernel_rfl) (by kernel_rfl) (by kernel_rfl) (by kernel_rfl)) ?_
  intro W base args ds gs before hval0 hW hcnd hsz0 _
  have hval : ∀ (j : Nat) t v, Try.f9.params[j]? = some t → args[j]? = some v → Value.okWide Try.prog W .any base t v := hval0
  have hW' := hW
  obtain ⟨p, q, hA0, hV, rfl, hfz, hnd⟩ := hW
  have hA : DataW.TrodAll enc Try.prog W 0 (fun _ => true) true Try.f9.params.toList args.toList ds p := hA0
  have hsz : (DataW.weightsEach Try.prog (Try.f9.params.toList ++ Rows.flowFedSpec.plain.varTypes Try.prog) (ds ++ gs)).all (· ≤ reachBytes) = true := hsz0
  rw [Try.params9] at hA hval hsz
  obtain ⟨v0, vs0, d0, ds0, p0, q0, hargs, rfl, rfl, h0, r0⟩ := trodAll_cons hA
  obtain ⟨v1, vs1, d1, ds1, p1, q1, rfl, rfl, rfl, h1, r1⟩ := trodAll_cons r0
  obtain ⟨rfl, rfl, rfl⟩ := trodAll_nil r1
  obtain rfl : args = #[v0, v1] := by cases args; simp_all
  obtain ⟨rfl, rfl⟩ := trodVars_none hV
  obtain ⟨A0, l0, c0, rfl, hG0, hgc0, hgm0, hgn0⟩ := open_graph (hval 0 23 v0 rfl rfl) h0
  obtain ⟨a1, rfl, rfl, rfl, w1⟩ := open_int Try.underlying3 (hval 1 3 v1 rfl rfl) h1
  have b1 := i64_wf w1
  clear hA0 hval0 hsz0
  refine (walk A0 l0 c0 a1 W hG0 (Nat.le_trans hgc0 hgm0)).mono fun e W' ⟨he, hg⟩ => ?_
  subst he
  exact ⟨_, rfl, law_post progLaid hW' rfl (by rw [Try.params9]; intro t ht; simp at ht; rcases ht with rfl | rfl <;> exact ⟨by kernel_rfl, of_decide_eq_true (by kernel_rfl)⟩) rfl Try.underlying4 rfl hg⟩

theorem over : Rows.flowFedRow.holds Try.pinned (OpenSpec.ofChange Rows.flowFedSpec) :=
  OpenClaim.holds_of_wide 9 Try.f9 rfl rfl rfl rfl rfl rfl rfl ⟨rfl, rfl, rfl, rfl, rfl⟩ rfl rfl rfl rfl rfl (by kernel_rfl) Try.func9 (by kernel_rfl)
    (of_decide_eq_true (by kernel_rfl)) (by unfold Func.isWrapper; first | (rw [if_pos (by decide +kernel)]; kernel_rfl) | (rw [if_neg (by decide +kernel)]; exact ⟨rfl, rfl⟩))
    (fun os started H enc _ => lifted os started H enc)

/-- The statement. -/
theorem proved : Rows.FlowFedSaid :=
  over
end flowFed
end Go.Proofs.Ytmjbclinlojboaa
