/- FlowTo: the inputs that any node feeds are the document's; each input of a node is fed by just one. -/
import Derived.Test.YtmjbclinlojboaaGrBytes
import Derived.Test.YtmjbclinlojboaaGrWorks
namespace Go.Proofs.Ytmjbclinlojboaa
open Go.ChangeShapes Go.WideShapes Go.ChangeAt Go.RowKit Go.BigFrame
set_option linter.unusedVariables false
set_option maxRecDepth 100000
namespace flowTo
set_option maxHeartbeats 8000000 in
theorem walk (A : Option Addr) (l : List Gn) (c : Nat) (i : Int) (w : World) (hG : Gr w A l) (hl : l.length ≤ maxLen) :
    Calls Try.prog 6 #[.slice A l.length c, .int .i64 i] w fun e w' => e = .returned (.bool true) ∧ Below w.heap.size w w' := by
  have HG := Lib.hid hG; have HL := Lib.hid hl; clear hG hl
  have h1 := ins_any A l c 20 w HG.out HL.out
  cases e1 : insB (nds l) 20 with
  | false =>
    rw [e1] at h1; clear e1; have H1 := Lib.hid h1; clear h1
    have Hb := Lib.hid (Below.refl w.heap.size w)
    go_enter Try.func6, Try.ntmps6
    have hc := H1.out
    have HC := Lib.hid hc; clear hc
    go_wp2_with fail
    refine HC.out.mono ?_; rintro e w0 ⟨rfl, rfl⟩
    clear HC
    dsimp only
    have hc := works_any w
    have HC := Lib.hid hc; clear hc
    go_wp2_with fail
    refine HC.out.mono ?_; rintro e w2 ⟨rfl, hb⟩
    clear HC
    have h := HG.out.below hb; clear HG; have HG := Lib.hid h; clear h
    have h := Hb.out.trans (hb.mono Hb.out.size); clear Hb hb; have Hb := Lib.hid h; clear h
    dsimp only
    go_wp2_with fail
    go_ret
    exact ⟨rfl, Hb.out⟩
  | true =>
    have hi := insB_iff e1
    rw [e1] at h1; clear e1; have H1 := Lib.hid h1; clear h1
    have Hb := Lib.hid (Below.refl w.heap.size w)
    have hl20 : l.length ≤ 20 := by omega
    have hi20 : ∀ x ∈ nds l, x.ins.length ≤ 20 := fun x hx => by
      obtain ⟨y, hy, rfl⟩ := List.mem_map.1 hx
      have := hi.2 y hy; omega
    have HI := Lib.hid hi20; have HI40 := Lib.hid (fun x hx => Nat.le_trans (hi20 x hx) (by omega) : ∀ x ∈ nds l, x.ins.length ≤ 40); clear hi hi20
    go_enter Try.func6, Try.ntmps6
    have hc := H1.out
    have HC := Lib.hid hc; clear hc
    go_wp2_with fail
    refine HC.out.mono ?_; rintro e w0 ⟨rfl, rfl⟩
    clear HC
    dsimp only
    have hc := flowTo_any A l c i w HG.out (by omega) HI40.out
    have HC := Lib.hid hc; clear hc
    go_wp2_with fail
    refine HC.out.mono ?_; rintro e w2 ⟨⟨v, rfl, hv⟩, hb⟩
    clear HC
    have h := HG.out.below hb; clear HG; have HG := Lib.hid h; clear h
    have h := Hb.out.trans (hb.mono Hb.out.size); clear Hb hb; have Hb := Lib.hid h; clear h
    obtain ⟨Q1, qc1, rfl, hT, _, _, _, _⟩ := Rw.Ts.of_own hv
    have HT1 := Lib.hid hT; clear hv hT
    dsimp only
    have hc := refTo_any A l c i w2 HG.out (by omega) HI40.out
    have HC := Lib.hid hc; clear hc
    go_wp2_with fail
    refine HC.out.mono ?_; rintro e w3 ⟨⟨v, rfl, hv⟩, hb⟩
    clear HC
    have h := HG.out.below hb; clear HG; have HG := Lib.hid h; clear h
    have h := HT1.out.below hb; clear HT1; have HT1 := Lib.hid h; clear h
    have h := Hb.out.trans (hb.mono Hb.out.size); clear Hb hb; have Hb := Lib.hid h; clear h
    obtain ⟨Q2, qc2, rfl, hT, _, _, _, _⟩ := Rw.Ts.of_own hv
    have HT2 := Lib.hid hT; clear hv hT
    dsimp only
    have hps : (toG i 0 (nds l)).length ≤ 400 := by
      have h1 := toG_len i 20 (nds l) 0 HI.out
      rw [nds_len] at h1; omega
    generalize toG i 0 (nds l) = ps at *
    go_wp2_with fail
    go_loopw [7] (fun n wx => ∃ k : Nat, k ≤ ps.length ∧ n = .int .i64 k ∧ Below w3.heap.size w3 wx) (fun n _ => ps.length - (intOf n).toNat)
    case atStart => exact ⟨0, by omega, rfl, Below.refl _ _⟩
    case round =>
      obtain ⟨k, hk, rfl, hbw⟩ := hrel
      by_cases hlt : k < ps.length
      · have hltz : (k : Int) < (ps.length : Int) := by omega
        obtain ⟨⟨a, b⟩, hx⟩ : ∃ x, ps[k]? = some x := ⟨_, List.getElem?_eq_getElem hlt⟩
        obtain ⟨b1, o1, rfl, _, hc1⟩ := ports_at HT1.out hx
        obtain ⟨b2, o2, rfl, _, hc2⟩ := ports_at HT2.out hx
        obtain ⟨q1, q2⟩ := hc1 wr hbw
        obtain ⟨q3, q4⟩ := hc2 wr hbw
        have HBW := Lib.hid hbw; clear hbw hx hc1 hc2
        go_wp2_with fail
        go_region
        go_wp2_with fail
        go_roundw
        case rel => exact ⟨k + 1, by omega, by simp, HBW.out.drew⟩
        case measure => simp only [intOf]; omega
      · have hltz : ¬ (k : Int) < (ps.length : Int) := by omega
        have h := HG.out.below hbw; clear HG; have HG := Lib.hid h; clear h
        have h := Hb.out.trans (hbw.mono Hb.out.size); clear Hb hbw; have Hb := Lib.hid h; clear h HT1 HT2
        obtain ⟨w9, rfl⟩ : ∃ w9, w9 = wr := ⟨_, rfl⟩
        go_wp2_with fail
        go_loopw [8, 9, 10] (fun al fe n wx => ∃ k : Nat, k ≤ l.length ∧ n = .int .i64 k ∧ al = .int .i64 (inG l.length (nds (l.take k)) : Nat) ∧ fe = .int .i64 (fedS (nds l) k : Nat) ∧ Below w9.heap.size w9 wx) (fun _ _ n _ => l.length - (intOf n).toNat)
        case atStart => exact ⟨0, by omega, rfl, by simp [inG, nds], by simp [fedS], Below.refl _ _⟩
        case round =>
          obtain ⟨n, hn, rfl, rfl, rfl, hbw⟩ := hrel
          have HBW := Lib.hid hbw; clear hbw
          by_cases hln : n < l.length
          · have hlnz : (n : Int) < (l.length : Int) := by omega
            obtain ⟨x, hx⟩ : ∃ x, l[n]? = some x := ⟨_, List.getElem?_eq_getElem hln⟩
            have hix := HI.out x.nd (List.mem_map.2 ⟨x, List.mem_of_getElem? hx, rfl⟩)
            obtain ⟨⟨xk, xa, xb, xd, xi⟩, xA, xc⟩ := x
            obtain ⟨b, o, rfl, hbl, hcl⟩ := HG.out.at_ hx
            simp only at hix
            have hf := fedS_le HI.out n
            rw [nds_len] at hf
            have hf2 : fedS (nds l) n ≤ 8000 := Nat.le_trans hf (by have := Nat.mul_le_mul_right 20 hl20; exact Nat.le_trans (Nat.mul_le_mul (show n ≤ 20 by omega) this) (by decide))
            have ha := inG_le l.length 20 (nds (l.take n)) fun y hy => HI.out y (by
              unfold nds at hy ⊢
              rw [List.map_take] at hy
              exact List.mem_of_mem_take hy)
            rw [nds_len, List.length_take] at ha
            have ha2 : inG l.length (nds (l.take n)) ≤ 400 := by omega
            have hcn := cntG_le (n : Nat) HI.out
            rw [nds_len] at hcn
            have hcn2 : cntG (n : Nat) (nds l) ≤ 400 := by have := Nat.mul_le_mul_right 20 hl20; omega
            have hcl2 := toG_cnt (n : Nat) (nds l) 0
            have C1 := Lib.hid (flowTo_any _ l c (n : Nat) wr (HG.out.below HBW.out) (by omega) HI40.out)
            have HS := Lib.hid (fedS_succ (nds l) n); have HT := Lib.hid (inG_take l.length hx)
            have HX := Lib.hid hx; have HCL := Lib.hid hcl; have HCL2 := Lib.hid hcl2; clear hx hcl hf ha hcn hcl2
            go_wp2_with fail
            refine C1.out.mono ?_; rintro e w4 ⟨⟨v, rfl, hv⟩, hb⟩
            obtain ⟨Q, qc, rfl, _, _, _, _, _⟩ := Rw.Ts.of_own hv
            rw [HCL2.out]
            have HBX := Lib.hid (HBW.out.trans (hb.mono HBW.out.size)); clear hb hv C1
            dsimp only
            generalize hal : inG l.length (nds (l.take n)) = al at *
            generalize hfe : fedS (nds l) n = fe at *
            generalize hcg : cntG (n : Nat) (nds l) = cg at *
            have HAL := Lib.hid hal; have HFE := Lib.hid hfe; have HCG := Lib.hid hcg; clear hal hfe hcg
            obtain ⟨_, _, _, _, c4⟩ := HCL.out w4 HBX.out
            go_wp2_with fail
            go_loop [8, 11] (fun a n => ∃ p : Nat, p ≤ xi.length ∧ n = .int .i64 p ∧ a = .int .i64 (al + inI l.length (xi.take p) : Nat)) (fun _ n => xi.length - (intOf n).toNat)
            case atStart => exact ⟨0, by omega, rfl, by simp [inI]⟩
            case round =>
              obtain ⟨p, hp, rfl, rfl⟩ := hrel
              by_cases hlp : p < xi.length
              · have hpz : (p : Int) < (xi.length : Int) := by omega
                obtain ⟨z, hz⟩ : ∃ z, xi[p]? = some z := ⟨_, List.getElem?_eq_getElem hlp⟩
                obtain ⟨bb, oo, rfl, _, hq⟩ := ints_at (HG.out.ins HX.out) hz
                have q := hq w4 HBX.out
                have HTI := Lib.hid (inI_take l.length hz)
                have hal3 : al + inI l.length (xi.take p) ≤ 420 := by have := inI_le l.length (xi.take p); have := List.length_take_le p xi; omega
                generalize hs : al + inI l.length (xi.take p) = s at *
                have HS2 := Lib.hid hs; clear hs hz hq
                by_cases hz0 : 0 ≤ z
                · by_cases hzL : z < (l.length : Int)
                  · go_wp2_with fail
                    go_round
                    case rel => exact ⟨p + 1, by omega, by simp, by rw [HTI.out, if_pos ⟨hz0, hzL⟩, ← Nat.add_assoc, HS2.out]; simp⟩
                    case measure => simp only [intOf]; omega
                  · go_wp2_with fail
                    go_round
                    case rel => exact ⟨p + 1, by omega, by simp, by rw [HTI.out, if_neg (by omega), Nat.add_zero, HS2.out]⟩
                    case measure => simp only [intOf]; omega
                · go_wp2_with fail
                  go_round
                  case rel => exact ⟨p + 1, by omega, by simp, by rw [HTI.out, if_neg (by omega), Nat.add_zero, HS2.out]⟩
                  case measure => simp only [intOf]; omega
              · have hpz : ¬ (p : Int) < (xi.length : Int) := by omega
                have hpe : p = xi.length := by omega
                have HPE := Lib.hid hpe; clear hpe
                generalize hs : al + inI l.length (xi.take p) = s at *
                have HS2 := Lib.hid hs; clear hs
                go_wp2_with fail
                go_roundw
                case rel =>
                  refine ⟨n + 1, by omega, by simp, ?_, ?_, HBX.out⟩
                  · rw [HT.out, ← HS2.out, HPE.out, List.take_length]
                  · rw [HS.out]; simp
                case measure => simp only [intOf]; omega
          · have hlnz : ¬ (n : Int) < (l.length : Int) := by omega
            have hne : n = l.length := by omega
            have heq : fedS (nds l) n = inG l.length (nds (l.take n)) := by rw [hne, fedS_end, List.take_length]
            rw [heq]; clear heq
            have HNE := Lib.hid hne; clear hne
            generalize inG l.length (nds (l.take n)) = al at *
            have h := Hb.out.trans (HBW.out.mono Hb.out.size); clear Hb; have Hb := Lib.hid h; clear h
            have hc := works_any wr
            have HC := Lib.hid hc; clear hc
            go_wp2_with fail
            refine HC.out.mono ?_; rintro e w6 ⟨rfl, hb⟩
            have h := Hb.out.trans (hb.mono Hb.out.size); clear Hb hb; have Hb := Lib.hid h; clear h
            dsimp only
            go_wp2_with fail
            go_ret
            exact ⟨rfl, Hb.out⟩

set_option maxRecDepth 100000 in
theorem lifted (os : Os) (started : os.Started) (H : Type) (enc : TypeId × Value → H) :
    ReturnsInHanded {} Try.checked os 6 .any (Rows.flowToSpec.pre6 enc Try.prog Try.f6 Rows.flowToRow.domain false) (Rows.flowToSpec.post enc Try.prog Try.f6 false true false false) := by
  refine returnsInHanded_of_change_sized (C := Try.checked) ownKnob_none started (by kernel_rfl) Try.func6
    (ChangeSpec.witness6 (enc := enc) (C := Try.checked) false ⟨#[], #[.slice none 0 0, .int .i64 0], []⟩ 8 (by kernel_rfl) (by kernel_rfl) (by kernel_rfl) (by kernel_rfl)) ?_
  intro W base args ds gs before hval0 hW hcnd hsz0 _
  have hval : ∀ (j : Nat) t v, Try.f6.params[j]? = some t → args[j]? = some v → Value.okWide Try.prog W .any base t v := hval0
  have hW' := hW
  obtain ⟨p, q, hA0, hV, rfl, hfz, hnd⟩ := hW
  have hA : DataW.TrodAll enc Try.prog W 0 (fun _ => true) true Try.f6.params.toList args.toList ds p := hA0
  have hsz : (DataW.weightsEach Try.prog (Try.f6.params.toList ++ Rows.flowToSpec.plain.varTypes Try.prog) (ds ++ gs)).all (· ≤ reachBytes) = true := hsz0
  rw [Try.params6] at hA hval hsz
  obtain ⟨v0, vs0, d0, ds0, p0, q0, hargs, rfl, rfl, h0, r0⟩ := trodAll_cons hA
  obtain ⟨v1, vs1, d1, ds1, p1, q1, rfl, rfl, rfl, h1, r1⟩ := trodAll_cons r0
  obtain ⟨rfl, rfl, rfl⟩ := trodAll_nil r1
  obtain rfl : args = #[v0, v1] := by cases args; simp_all
  obtain ⟨rfl, rfl⟩ := trodVars_none hV
  obtain ⟨A0, l0, c0, rfl, hG0, hgc0, hgm0, hgn0⟩ := open_graph (hval 0 23 v0 rfl rfl) h0
  obtain ⟨a1, rfl, rfl, rfl, w1⟩ := open_int Try.underlying3 (hval 1 3 v1 rfl rfl) h1
  have b1 := i64_wf w1
  clear hA0 hval0 hsz0
  refine (walk A0 l0 c0 a1 W hG0 (Nat.le_trans hgc0 hgm0)).mono fun e W' ⟨he, hg⟩ => ?_
  subst he
  exact ⟨_, rfl, law_post progLaid hW' rfl (by rw [Try.params6]; intro t ht; simp at ht; rcases ht with rfl | rfl <;> exact ⟨by kernel_rfl, of_decide_eq_true (by kernel_rfl)⟩) rfl Try.underlying4 rfl hg⟩

theorem over : Rows.flowToRow.holds Try.pinned (OpenSpec.ofChange Rows.flowToSpec) :=
  OpenClaim.holds_of_wide 6 Try.f6 rfl rfl rfl rfl rfl rfl rfl ⟨rfl, rfl, rfl, rfl, rfl⟩ rfl rfl rfl rfl rfl (by kernel_rfl) Try.func6 (by kernel_rfl)
    (of_decide_eq_true (by kernel_rfl)) (by unfold Func.isWrapper; first | (rw [if_pos (by decide +kernel)]; kernel_rfl) | (rw [if_neg (by decide +kernel)]; exact ⟨rfl, rfl⟩))
    (fun os started H enc _ => lifted os started H enc)

/-- The statement. -/
theorem proved : Rows.FlowToSaid :=
  over
end flowTo
end Go.Proofs.Ytmjbclinlojboaa
