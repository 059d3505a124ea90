/- CountsUndone: what is added, and taken away again, in any order, leaves nothing; for all rows of at most 40 additions, of numbers modulo 1000, turned by so many. -/
import Derived.Test.YtkbabmifdfmhlaaCtComA
namespace Go.Proofs.Ytkbabmifdfmhlaa
open Go.ChangeShapes Go.WideShapes Go.ChangeAt Go.RowKit Go.BigFrame Go.Shelf
set_option linter.unusedVariables false
set_option maxRecDepth 100000
namespace countsUndone
/-- what holds at a round's head -/
def At1 (w : World) (b : Nat) (d : Int) (P Q : Cn) (k : Nat) (wr : World) : Prop := ∃ m N M, N ≤ 2 * k ∧ Below w.heap.size w wr ∧ Ct wr w.heap.size b m N d (allC d M) ∧ M.Perm (P.take k ++ negC (Q.take k)) ∧ (∀ p ∈ M, -999 ≤ p.2 ∧ p.2 ≤ 999) ∧ M.length = 2 * k
theorem perm_step {M A N : Cn} {p q : St × Int} (h : M.Perm (A ++ N)) : ((M ++ [p]) ++ [q]).Perm ((A ++ [p]) ++ (N ++ [q])) := by
  refine ((h.append_right [p]).append_right [q]).trans ?_
  rw [List.append_assoc A N [p], ← List.append_assoc (A ++ [p]) N [q]]
  refine List.Perm.append_right [q] ?_
  rw [List.append_assoc A [p] N]
  exact List.Perm.append_left A List.perm_append_comm
theorem neg_snoc {N : Cn} {p : St × Int} : negC (N ++ [p]) = negC N ++ [(p.1, 0 - p.2)] := by simp [negC]
theorem fr_nil : frC [] = [] := by decide +kernel
set_option maxHeartbeats 16000000 in
theorem walk (d : Int) (B : Option Addr) (l : Cn) (cb T : Nat) (w : World) (hB : Ps w B l) (hcb : l.length ≤ cb) (hcm : cb ≤ maxLen) (hT : T ≤ 255) :
    Calls Try.prog 7 #[.int .i64 d, .slice B l.length cb, .int .u8 (T : Nat)] w fun e w' => e = .returned (.bool true) ∧ Below w.heap.size w w' := by
  have WW := Lib.hid works7_any
  by_cases hd : d < 0 ∨ 3 < d
  · have HN := Lib.hid (fun w => new_no d w hd); clear hd hB
    go_enter Try.func7, Try.ntmps7
    go_wp2_with fail
    refine (HN.out _).mono ?_; rintro e w1 ⟨rfl, rfl⟩
    go_wp2_with fail
    refine (WW.out _).mono ?_; rintro e we ⟨rfl, hbe⟩
    go_wp2_with fail
    go_ret
    exact ⟨rfl, hbe⟩
  have hd1 : 0 ≤ d ∧ d ≤ 3 := by omega
  have HN := Lib.hid (fun w => new_yes d w hd1.1 hd1.2)
  clear hd
  by_cases hl : 40 < l.length
  · have dl : decide ((l.length : Int) > 40) = true := decide_eq_true (by omega)
    clear hd1 hB
    go_enter Try.func7, Try.ntmps7
    go_wp2_with fail
    refine (HN.out _).mono ?_; rintro e w1 ⟨rfl, -, hb1⟩
    have HB1 := Lib.hid hb1; clear hb1
    go_wp2_with fail
    refine (WW.out _).mono ?_; rintro e we ⟨rfl, hbe⟩
    go_wp2_with fail
    go_ret
    exact ⟨rfl, HB1.out.trans (hbe.mono HB1.out.size)⟩
  have dl : decide ((l.length : Int) > 40) = false := decide_eq_false (by omega)
  by_cases hz : l.length = 0
  · have dz : ((l.length : Int) == 0) = true := by rw [hz]; rfl
    clear hd1 hB hz
    go_enter Try.func7, Try.ntmps7
    go_wp2_with fail
    refine (HN.out _).mono ?_; rintro e w1 ⟨rfl, -, hb1⟩
    have HB1 := Lib.hid hb1; clear hb1
    go_wp2_with fail
    refine (WW.out _).mono ?_; rintro e we ⟨rfl, hbe⟩
    go_wp2_with fail
    go_ret
    exact ⟨rfl, HB1.out.trans (hbe.mono HB1.out.size)⟩
  have dz : ((l.length : Int) == 0) = false := by rw [beq_eq_false_iff_ne]; omega
  have HZ := Lib.hid (Nat.pos_of_ne_zero hz)
  have HL := Lib.hid (Nat.not_lt.1 hl); have HB := Lib.hid hB
  clear hl hB hd1 hz
  go_enter Try.func7, Try.ntmps7
  go_wp2_with fail
  refine (HN.out _).mono ?_; rintro e w1 ⟨rfl, hc1, hb1⟩
  obtain ⟨P, hP⟩ : ∃ P, modC l = P := ⟨_, rfl⟩
  obtain ⟨Q, hQ⟩ : ∃ Q, modC (turnC l (T % l.length)) = Q := ⟨_, rfl⟩
  obtain ⟨b, hbd⟩ : ∃ b, w.heap.size = b := ⟨_, rfl⟩
  have H1 := Lib.hid (show At1 w b d P Q 0 w1 from ⟨none, 0, [], by omega, hb1, by rw [← hbd]; exact hc1, by simp [negC], by simp, by simp⟩)
  rw [hbd]
  have HP := Lib.hid hP; have HQ := Lib.hid hQ
  clear hc1 hb1 hbd HN hP hQ
  go_wp2_with fail
  go_loopw [8] (fun i wr => ∃ k : Nat, k ≤ l.length ∧ i = .int .i64 k ∧ At1 w b d P Q k wr) (fun i _ => l.length - (intOf i).toNat)
  case atStart => exact ⟨0, by omega, rfl, H1.out⟩
  case round =>
    obtain ⟨k, hk, rfl, m, N, M, hN, hbw, hc, hM, hMb, hMl⟩ := hrel
    clear H1
    have hln := HL.out
    by_cases hlt : k < l.length
    · have hltz : (k : Int) < (l.length : Int) := by omega
      obtain ⟨j, hj⟩ : ∃ j, (k + T) % l.length = j := ⟨_, rfl⟩
      have hjl : j < l.length := by rw [← hj]; exact Nat.mod_lt _ (by omega)
      have hj1 : ((k : Int) + (T : Int)).tmod (l.length : Int) = (j : Int) := by
        rw [← hj, Int.tmod_eq_emod_of_nonneg (by omega)]; simp
      have hj2 : ((k : Int) + (T : Int)) % (l.length : Int) = (j : Int) := by
        rw [← hj]; simp
      obtain ⟨⟨t, n⟩, hp⟩ : ∃ p, l[k]? = some p := ⟨_, List.getElem?_eq_getElem hlt⟩
      obtain ⟨⟨t', n'⟩, hp'⟩ : ∃ p, l[j]? = some p := ⟨_, List.getElem?_eq_getElem hjl⟩
      obtain ⟨bb, o, rfl, hbl, h6⟩ := HB.out.six hp
      obtain ⟨bb', o', e', hbl', h6'⟩ := HB.out.six hp'
      injection e' with e'; injection e' with e1 e2
      subst e1; subst e2
      dsimp only at h6 h6'
      have htp : P.take (k + 1) = P.take k ++ [(t, n.tmod 1000)] := take_snoc (by rw [← HP.out]; exact mod_at hp)
      have htq : Q.take (k + 1) = Q.take k ++ [(t', n'.tmod 1000)] := take_snoc (by rw [← HQ.out]; exact mod_at ((turn_at' hlt).trans (by rw [hj]; exact hp')))
      have HTP := Lib.hid htp; have HTQ := Lib.hid htq
      have H6 := Lib.hid h6; have H6' := Lib.hid h6'; have HC := Lib.hid hc; have HBW := Lib.hid hbw; have HM := Lib.hid (And.intro hM hMb); have HML := Lib.hid hMl
      have HJ := Lib.hid (And.intro hj1 hj2)
      clear hc hbw hp hp' hj h6 h6' hbl hbl' hM hMb hMl htp htq hj1 hj2
      go_wp2_with fail
      obtain ⟨W3, hW3⟩ : ∃ W3, wr.drewN 1 = W3 := ⟨_, rfl⟩
      have hq3 : Below wr.heap.size wr W3 := by rw [← hW3]; exact below_drewN (Below.refl _ _) 1
      have hb3 := HBW.out.trans (hq3.mono HBW.out.size)
      obtain ⟨c0, c1, c2, c3, c4, c5⟩ := H6.out W3 hb3
      have kk := step_all (HC.out.below hq3) (by unfold maxLen; omega) (by have := HML.out; omega) HM.out.2 t (n.tmod 1000) (tmod_bound _)
      have KK := Lib.hid kk; have HC3 := Lib.hid (HC.out.below hq3); have HB3 := Lib.hid hb3; clear kk hq3 hb3
      unfold St.val at KK
      refine wp_tail 12 (by kernel_rfl) (by kernel_rfl) ?_
      rw [hW3]
      clear hW3 HC HBW
      simp only [List.take_succ_cons, List.take_zero, List.drop_succ_cons, List.drop_zero]
      repeat still_step
      refine wpStill_nil ?_
      go_wp2_with fail
      refine (KK.out).mono ?_; rintro e w4 ⟨rfl, m', hc4, htc, -⟩
      have hb4 := HC3.out.out HB3.out htc
      have HC4 := Lib.hid hc4; have HB4 := Lib.hid hb4; clear hc4 hb4 htc KK HC3 HB3 c0 c1 c2 c3 c4 c5
      have hj1 := HJ.out.1
      have hj2 := HJ.out.2
      go_wp2_with fail
      clear hj1 hj2
      obtain ⟨W5, hW5⟩ : ∃ W5, w4.drewN 1 = W5 := ⟨_, rfl⟩
      have hq5 : Below w4.heap.size w4 W5 := by rw [← hW5]; exact below_drewN (Below.refl _ _) 1
      have hb5 := HB4.out.trans (hq5.mono HB4.out.size)
      obtain ⟨c0, c1, c2, c3, c4, c5⟩ := H6'.out W5 hb5
      have hsub : IntKind.i64.wrap (0 - n'.tmod 1000) = 0 - n'.tmod 1000 := IntWalk.i64_in _ (by have := tmod_bound n'; omega)
      have hsub2 : IntKind.i64.wrap (-n'.tmod 1000) = 0 - n'.tmod 1000 := by rw [← hsub]; congr 1; omega
      have hMb2 : ∀ p ∈ M ++ [(t, n.tmod 1000)], -999 ≤ p.2 ∧ p.2 ≤ 999 := by
        intro p hp
        rcases List.mem_append.1 hp with hp | hp
        · exact HM.out.2 p hp
        · rw [List.mem_singleton] at hp; subst hp; exact tmod_bound n
      have kk := step_all (HC4.out.below hq5) (by unfold maxLen; omega) (by have := HML.out; rw [List.length_append]; simp; omega) hMb2 t' (0 - n'.tmod 1000) (by have := tmod_bound n'; omega)
      have KK := Lib.hid kk; have HC5 := Lib.hid (HC4.out.below hq5); have HB5 := Lib.hid hb5; have HM2 := Lib.hid hMb2; have HS := Lib.hid (And.intro hsub hsub2); clear kk hq5 hb5 hMb2 hsub hsub2
      unfold St.val at KK
      obtain ⟨q, hq⟩ : ∃ q, n'.tmod 1000 = q := ⟨_, rfl⟩
      have HQQ := Lib.hid hq
      rw [hq] at KK HTQ HS
      have hs1 := HS.out.1; have hs2 := HS.out.2
      refine wp_tail 13 (by kernel_rfl) (by kernel_rfl) ?_
      rw [hW5]
      clear hW5 HC4 HB4
      simp only [List.take_succ_cons, List.take_zero, List.drop_succ_cons, List.drop_zero]
      repeat still_step
      refine wpStill_nil ?_
      go_wp2_with fail
      rw [Int.zero_sub] at KK
      refine (KK.out).mono ?_; rintro e w6 ⟨rfl, m'', hc6, htc, -⟩
      have HST := Lib.hid (show At1 w b d P Q (k + 1) w6 from ⟨m'', N + 1 + 1, _, by omega, HC5.out.out HB5.out htc, hc6, by
          rw [HTP.out, HTQ.out, neg_snoc, Int.zero_sub]; exact perm_step HM.out.1, by
          intro p hp
          rcases List.mem_append.1 hp with hp | hp
          · exact HM2.out p hp
          · rw [List.mem_singleton] at hp; subst hp
            have := tmod_bound n'
            rw [HQQ.out] at this
            show -999 ≤ -q ∧ -q ≤ 999
            omega, by rw [List.length_append, List.length_append]; have := HML.out; simp; omega⟩)
      clear hc6 htc KK hs1 hs2 c0 c1 c2 c3 c4 c5
      go_wp2_with fail
      go_roundw
      case rel => exact ⟨k + 1, by omega, by simp, HST.out⟩
      case measure => simp only [intOf]; omega
    · have hk' : k = l.length := by omega
      subst hk'
      have hlp : P.length = l.length := by rw [← HP.out]; simp [modC]
      have hlq : Q.length = l.length := by rw [← HQ.out]; simp [modC, turn_len]
      have hqp : Q.Perm P := by rw [← HP.out, ← HQ.out]; exact (turn_perm _).map _
      rw [List.take_of_length_le (by omega), List.take_of_length_le (by omega)] at hM
      have hnil : allC d M = [] := all_undone (hM.trans (List.Perm.append_left P (hqp.map _)))
      rw [hnil] at hc
      have kk := times_any hc (by simp)
      have KK := Lib.hid kk; have HC := Lib.hid hc; have HBW := Lib.hid hbw
      clear kk hc hbw hlp hlq hqp hM hMb hMl hnil
      go_wp2_with fail
      refine (KK.out).mono ?_; rintro e w3 ⟨⟨v, rfl, hv⟩, hb3⟩
      obtain ⟨A9, c9, rfl, -⟩ := Slc.of_own hv
      have kk := frontier_any (HC.out.below hb3) (by simp)
      rw [fr_nil] at kk
      have KF := Lib.hid kk; have HB3 := Lib.hid (HBW.out.trans (hb3.mono HBW.out.size)); clear kk hv hb3 KK
      simp only [show (timesC ([] : Cn)).length = 0 from rfl]
      go_wp2_with fail
      refine (KF.out).mono ?_; rintro e w4 ⟨⟨v, rfl, hv⟩, hb4⟩
      obtain ⟨A8, c8, rfl, -⟩ := Slc.of_own hv
      have HB4 := Lib.hid (HB3.out.trans (hb4.mono HB3.out.size)); clear hv hb4 KF
      simp only [List.length_nil]
      go_wp2_with fail
      refine (WW.out _).mono ?_; rintro e we ⟨rfl, hbe⟩
      go_wp2_with fail
      go_ret
      exact ⟨rfl, HB4.out.trans (hbe.mono HB4.out.size)⟩

set_option maxRecDepth 100000 in
theorem lifted (os : Os) (started : os.Started) (H : Type) (enc : TypeId × Value → H) :
    ReturnsInHanded {} Try.checked os 7 .any (Rows.countsUndoneSpec.pre6 enc Try.prog Try.f7 Rows.countsUndoneRow.domain false) (Rows.countsUndoneSpec.post enc Try.prog Try.f7 false true false false) := by
  refine returnsInHanded_of_change_sized (C := Try.checked) ownKnob_none started (by kernel_rfl) Try.func7
    (ChangeSpec.witness6 (enc := enc) (C := Try.checked) false ⟨#[], #[.int .i64 0, .slice none 0 0, .int .u8 0], []⟩ 8 (by kernel_rfl) (by kernel_rfl) (by kernel_rfl) (by kernel_rfl)) ?_
  intro W base args ds gs before hval0 hW hcnd hsz0 _
  have hval : ∀ (j : Nat) t v, Try.f7.params[j]? = some t → args[j]? = some v → Value.okWide Try.prog W .any base t v := hval0
  have hW' := hW
  obtain ⟨p, q, hA0, hV, rfl, hfz, hnd⟩ := hW
  have hA : DataW.TrodAll enc Try.prog W 0 (fun _ => true) true Try.f7.params.toList args.toList ds p := hA0
  have hsz : (DataW.weightsEach Try.prog (Try.f7.params.toList ++ Rows.countsUndoneSpec.plain.varTypes Try.prog) (ds ++ gs)).all (· ≤ reachBytes) = true := hsz0
  rw [Try.params7] at hA hval hsz
  obtain ⟨v0, vs0, d0, ds0, p0, q0, hargs, rfl, rfl, h0, r0⟩ := trodAll_cons hA
  obtain ⟨v1, vs1, d1, ds1, p1, q1, rfl, rfl, rfl, h1, r1⟩ := trodAll_cons r0
  obtain ⟨v2, vs2, d2, ds2, p2, q2, rfl, rfl, rfl, h2, r2⟩ := trodAll_cons r1
  obtain ⟨rfl, rfl, rfl⟩ := trodAll_nil r2
  obtain rfl : args = #[v0, v1, v2] := by cases args; simp_all
  obtain ⟨rfl, rfl⟩ := trodVars_none hV
  obtain ⟨a0, rfl, rfl, rfl, w0⟩ := open_int Try.underlying3 (hval 0 3 v0 rfl rfl) h0
  have b0 := i64_wf w0
  obtain ⟨A1, l1, c1, rfl, hP1, hW1, hc1, hm1⟩ := open_steps (hval 1 22 v1 rfl rfl) h1
  obtain ⟨a2, rfl, rfl, rfl, w2⟩ := open_int Try.underlying5 (hval 2 5 v2 rfl rfl) h2
  have b2 := u8_wf w2
  obtain ⟨n2, rfl⟩ := Int.eq_ofNat_of_zero_le b2.1
  clear hA0 hval0 hsz0
  refine (walk a0 A1 l1 c1 n2 W hP1 hc1 hm1 (by have := b2.2; omega)).mono fun e W' ⟨he, hg⟩ => ?_
  subst he
  exact ⟨_, rfl, law_post progLaid hW' rfl (by rw [Try.params7]; intro t ht; simp at ht; rcases ht with rfl | rfl | rfl <;> exact ⟨by kernel_rfl, of_decide_eq_true (by kernel_rfl)⟩) rfl Try.underlying4 rfl hg⟩

theorem over : Rows.countsUndoneRow.holds Try.pinned (OpenSpec.ofChange Rows.countsUndoneSpec) :=
  OpenClaim.holds_of_wide 7 Try.f7 rfl rfl rfl rfl rfl rfl rfl ⟨rfl, rfl, rfl, rfl, rfl⟩ rfl rfl rfl rfl rfl (by kernel_rfl) Try.func7 (by kernel_rfl)
    (of_decide_eq_true (by kernel_rfl)) (by unfold Func.isWrapper; first | (rw [if_pos (by decide +kernel)]; kernel_rfl) | (rw [if_neg (by decide +kernel)]; exact ⟨rfl, rfl⟩))
    (fun os started H enc _ => lifted os started H enc)

/-- The statement. -/
theorem proved : Rows.CountsUndoneSaid :=
  over
end countsUndone
end Go.Proofs.Ytkbabmifdfmhlaa
