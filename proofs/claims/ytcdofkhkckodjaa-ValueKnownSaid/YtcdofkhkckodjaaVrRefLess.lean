/- The document's Less. -/
import Derived.Test.YtcdofkhkckodjaaVrLess
namespace Go.Proofs.Ytcdofkhkckodjaa
namespace Vr
open Go.ChangeShapes Go.WideShapes Go.ChangeAt Go.RowKit Go.BigFrame
set_option linter.unusedVariables false
set_option maxRecDepth 100000
theorem lessL_hit {s m : List Rd} {x : Rd} (h : x ∈ s) : lessL s (x :: m) = lessL (s.erase x) m := by
  show (if x ∈ s then lessL (s.erase x) m else none) = _
  rw [if_pos h]
theorem lessL_miss {s m : List Rd} {x : Rd} (h : ¬ x ∈ s) : lessL s (x :: m) = none := by
  show (if x ∈ s then lessL (s.erase x) m else none) = _
  rw [if_neg h]
/-- append of a part of a row -/
theorem append_n {P : Program} {w : World} {ops : Array Oper} {rest : List Oper} {o : Oper} {a : Act} {Q : Exit → Act → World → Prop} (T TS : TypeId) {z : Value} {bytes : Nat}
    (hu : P.underlying TS = some (.slice T)) (hinfo : (P.info? T).map (fun i => (i.zero, i.size, i.bytes)) = some (some z, kindR.K, bytes)) (hz : z.cells.size = kindR.K) (hgd : o.guard = none) (s x : Operand)
    (ho : o.op = .call { callee := .builtin .append, args := #[s, x], argTypes := #[TS, TS] })
    (base : Nat) (v : Value) (n : Nat) (ts : List Rd) (hs : a.eval s = v) (hown : w.ownsRow base T kindR.K v n (Rw.row kindR ts))
    (A : Option Addr) (c : Nat) (ys : List Rd) (m : Nat) (hm : ys.length = m) (hx : a.eval x = .slice A m c) (hA : A = none → c = 0 ∧ ys = []) (hb : Rw.Ts kindR w A ys)
    (hle : n + m ≤ maxLen) (hby : (n + m) * bytes ≤ 140737488355328) (hbase : base ≤ w.heap.size)
    (h : ∀ v' w', w'.ownsRow base T kindR.K v' (n + m) (Rw.row kindR (ts ++ ys)) → w.grownBy w' v.ownBlock → wpList P ops Q rest (a.put o.dst v') w') : wpList P ops Q (o :: rest) a w := by
  subst hm
  exact Rw.append_own kindR T TS hu hinfo hz hgd s x ho base v n ts hs hown A c ys hx hA hb hle hby hbase h
theorem ts_grown {w w' : World} {g : Nat} {v : Value} {l : List Rd} (h : Rw.Ts kindR w (some ⟨g, 0, none⟩) l) (hg : w.grownBy w' v.ownBlock) (hv : v.ownBlock = none) : Rw.Ts kindR w' (some ⟨g, 0, none⟩) l := fun hn => by
  obtain ⟨b, o, e, hlt, hc⟩ := h hn
  cases e
  refine ⟨g, 0, rfl, Nat.lt_of_lt_of_le hlt hg.size, fun j u hu => ?_⟩
  exact (World.cell?_of_block (a := ⟨g, 0 + j, none⟩) (hg.block g hlt (by rw [hv]; intro e; cases e))).trans (hc j u hu)
set_option maxHeartbeats 2000000 in
theorem refLess_any (A B : Option Addr) (a b : List Rd) (c d : Nat) (w : World) (hA : Rw.Ts kindR w A a) (hB : Rw.Ts kindR w B b) (ha : a.length ≤ 100000) (hb : b.length ≤ 100000) :
    Calls Try.prog 11 #[.slice A a.length c, .slice B b.length d] w (LessD (lessR a b) w) := by
  have h1 := refSorted_any A a c w hA (by omega)
  have hl1 : (sortR a).length ≤ 100000 := by rw [sortR_perm.length_eq]; exact ha
  have hans : lessR a b = lessL (sortR a) (b.drop 0) := rfl
  generalize lessR a b = ans at *
  generalize sortR a = sa at *
  have H1 := Lib.hid h1; have HANS := Lib.hid hans; have HBB := Lib.hid hB; have HL1' := Lib.hid hl1
  clear h1 hans hA hB ha hl1
  generalize a.length = n at *
  go_enter Try.func11, Try.ntmps11
  go_wp2_with fail
  refine H1.out.mono ?_; rintro e w1 ⟨⟨v1, rfl, ho1⟩, hb1⟩
  have HO1 := Lib.hid ho1; have HB1 := Lib.hid hb1; clear ho1 hb1 H1
  dsimp only
  go_wp2_with fail
  go_loopw [6, 7] (fun vl vi wr => ∃ i : Nat, i ≤ b.length ∧ vi = .int .i64 i ∧ ∃ s : List Rd, wr.ownsRow w.heap.size 32 kindR.K vl s.length (Rw.row kindR s) ∧ ans = lessL s (b.drop i) ∧ s.length ≤ 100000 ∧ Below w.heap.size w wr) (fun _ vi _ => b.length - (intOf vi).toNat)
  case atStart => exact ⟨0, by omega, rfl, sa, HO1.out, HANS.out, HL1'.out, HB1.out⟩
  case round =>
    obtain ⟨i, hi, rfl, s, hown, hans, hsl, hbw⟩ := hrel
    have HOW := Lib.hid hown; have HA2 := Lib.hid hans; have HBW := Lib.hid hbw; clear hown hans hbw
    by_cases hlt : i < b.length
    · have hltz : (i : Int) < (b.length : Int) := by omega
      obtain ⟨x, hx⟩ : ∃ x, b[i]? = some x := ⟨_, List.getElem?_eq_getElem hlt⟩
      have hbb := HBB.out
      obtain ⟨b0, o0, rfl, _, hload⟩ := load_r hbb hx
      have hdr : b.drop i = x :: b.drop (i + 1) := drop_cons hx
      obtain ⟨S, cS, rfl, hTs, hSn, hSc, hSm⟩ := own_ts HOW.out
      have HDR := Lib.hid hdr; have HLD := Lib.hid hload; have HTS := Lib.hid hTs; have HSN := Lib.hid hSn; have HSC := Lib.hid (And.intro hSc hSm)
      clear hdr hload hTs hSn hSc hSm hx hbb
      obtain ⟨wo, rfl⟩ : ∃ wo, wo = wr := ⟨_, rfl⟩
      go_wp2_with fail
      go_loopw [8] (fun v wx => ∃ p : Nat, v = .int .i64 p ∧ p ≤ s.length ∧ Below wo.heap.size wo wx ∧ ∀ y ∈ s.take p, y ≠ x) (fun v _ => s.length - (intOf v).toNat)
      case atStart => exact ⟨0, rfl, by omega, Below.refl _ _, by simp⟩
      case round =>
        obtain ⟨wx, rfl⟩ : ∃ wx, wx = wr := ⟨_, rfl⟩
        obtain ⟨p, rfl, hp, hbx, hne⟩ := hrel
        have HBX := Lib.hid hbx; have HNE := Lib.hid hne; clear hbx hne
        by_cases hps : p < s.length
        · have hpz : (p : Int) < (s.length : Int) := by omega
          have d0 : decide ((p : Int) < (s.length : Int)) = true := by simp; omega
          obtain ⟨y, hy⟩ : ∃ y, s[p]? = some y := ⟨_, List.getElem?_eq_getElem hps⟩
          obtain ⟨bs, os, rfl, _, hload1⟩ := load_r HTS.out hy
          have HL0 : Hid (∀ w', Below wx.heap.size wx w' → (Instr.loadAt 32 (.pointer (some ⟨b0, o0 + i * 2, none⟩))).run Try.prog w' = .ok (.agg #[.int .i64 x.k, .int .i64 x.v]) w') := Lib.hid fun w' hb => HLD.out w' (HBW.out.trans ((HBX.out.trans (hb.mono HBX.out.size)).mono HBW.out.size))
          have HL1 : Hid (∀ w', Below wx.heap.size wx w' → (Instr.loadAt 32 (.pointer (some ⟨bs, os + p * 2, none⟩))).run Try.prog w' = .ok (.agg #[.int .i64 y.k, .int .i64 y.v]) w') := Lib.hid fun w' hb => hload1 w' (HBX.out.trans (hb.mono HBX.out.size))
          have HY := Lib.hid hy; clear hy hload1
          by_cases hyx : y = x
          · have he : eqB y x = true := eqB_yes hyx
            have HIN : Hid (x ∈ s) := Lib.hid (by rw [← hyx]; exact List.mem_of_getElem? HY.out)
            have HER : Hid (s.take p ++ s.drop (p + 1) = s.erase x) := Lib.hid (erase_at (by rw [← hyx]; exact HY.out) HNE.out)
            have HOX := Lib.hid (Rw.own_kept HOW.out HBX.out)
            clear hyx
            go_wp2_with fail
            refine wp_region_below (by kernel_rfl) (by kernel_rfl) ?_
            refine wpQuiet_step (fun K hK => ?_); go_simp; (first | (with_reducible refine hK _ ?_) | (with_reducible refine ⟨_, fun _ _ => rfl, hK _ ?_⟩)); clear hK K
            refine wpQuiet_step (fun K hK => ?_); go_simp; (first | (with_reducible refine hK _ ?_) | (with_reducible refine ⟨_, fun _ _ => rfl, hK _ ?_⟩)); clear hK K
            refine wpQuiet_step (fun K hK => ?_); go_simp; (first | (with_reducible refine hK _ ?_) | (with_reducible refine ⟨_, fun _ _ => rfl, hK _ ?_⟩)); clear hK K
            refine wpQuiet_step (fun K hK => ?_); go_simp; (first | (with_reducible refine hK _ ?_) | (with_reducible refine ⟨_, fun _ _ => rfl, hK _ ?_⟩)); clear hK K
            refine wpQuiet_step (fun K hK => ?_); go_simp; (first | (with_reducible refine hK _ ?_) | (with_reducible refine ⟨_, fun _ _ => rfl, hK _ ?_⟩)); clear hK K
            refine wpQuiet_step (fun K hK => ?_); go_simp; (first | (with_reducible refine hK _ ?_) | (with_reducible refine ⟨_, fun _ _ => rfl, hK _ ?_⟩)); clear hK K
            refine wpQuiet_step (fun K hK => ?_); go_simp; (first | (with_reducible refine hK _ ?_) | (with_reducible refine ⟨_, fun _ _ => rfl, hK _ ?_⟩)); clear hK K
            refine wpQuiet_step (fun K hK => ?_); go_simp; (first | (with_reducible refine hK _ ?_) | (with_reducible refine ⟨_, fun _ _ => rfl, hK _ ?_⟩)); clear hK K
            refine wpQuiet_step (fun K hK => ?_); refine q_load (p := .pointer (some ⟨bs, os + p * 2, none⟩)) 32 _ rfl rfl rfl (HL1.out) ?_; go_simp; (with_reducible refine hK _ ?_); clear hK K
            refine wpQuiet_step (fun K hK => ?_); go_simp; (first | (with_reducible refine hK _ ?_) | (with_reducible refine ⟨_, fun _ _ => rfl, hK _ ?_⟩)); clear hK K
            refine wpQuiet_step (fun K hK => ?_); go_simp; (first | (with_reducible refine hK _ ?_) | (with_reducible refine ⟨_, fun _ _ => rfl, hK _ ?_⟩)); clear hK K
            refine wpQuiet_step (fun K hK => ?_); go_simp; (first | (with_reducible refine hK _ ?_) | (with_reducible refine ⟨_, fun _ _ => rfl, hK _ ?_⟩)); clear hK K
            refine wpQuiet_step (fun K hK => ?_); refine q_load (p := .pointer (some ⟨b0, o0 + i * 2, none⟩)) 32 _ rfl rfl rfl (HL0.out) ?_; go_simp; (with_reducible refine hK _ ?_); clear hK K
            refine wpQuiet_step (fun K hK => ?_); refine q_bin _ _ _ _ _ rfl rfl rfl rfl (ne_r _ _ y x) ?_; go_simp; (with_reducible refine hK _ ?_); clear hK K
            refine wpQuiet_step (fun K hK => ?_); go_simp; (first | (with_reducible refine hK _ ?_) | (with_reducible refine ⟨_, fun _ _ => rfl, hK _ ?_⟩)); clear hK K
            refine wpQuiet_nil ?_
            intro wy hby
            have HBY := Lib.hid (HBX.out.trans (hby.mono HBX.out.size)); have HTY := Lib.hid (HTS.out.below (HBX.out.trans (hby.mono HBX.out.size)))
            clear hby HL0 HL1 he d0
            obtain ⟨g, cc, heq, hgb⟩ := own_pos HOX.out (by omega)
            injection heq with heq1 heq2 heq3
            injection heq1 with heq1
            injection heq1 with heq4 heq5 heq6
            subst heq4 heq5 heq3
            clear heq2 heq6 HOX
            have HWY := Lib.hid (HBW.out.trans (HBY.out.mono HBW.out.size))
            have HWS := Lib.hid HWY.out.size
            have hne1 : ((p : Int) == (s.length : Int)) = false := by simp; omega
            have hsc : s.length ≤ cS := HSC.out.1
            have hcm : cS ≤ 9223372036854775807 := by have := HSC.out.2; unfold maxLen at this; omega
            have hpc : p < cS := by omega
            have hpi : (p : Int) < (cS : Int) := by omega
            have htl : (s.take p).length = p := by rw [List.length_take]; omega
            have HTL := Lib.hid htl; clear htl
            go_upto_region 12 with (at_builtin; refine append_n 32 22 Try.underlying22 infoRec rfl rfl _ _ rfl w.heap.size _ 0 [] rfl (World.ownsRow_nil _ _ _ _) _ cS (s.take p) p HTL.out rfl (fun e => by cases e) (HTY.out.take p) (by unfold maxLen; omega) (by omega) HWS.out ?_; intro v2 w4 hv2 hg2; have HB4 := Lib.hid (Rw.own_below (World.ownsRow_nil wy w.heap.size 32 kindR.K) hg2 HWY.out HWS.out); have HTS4 := Lib.hid (ts_grown HTY.out hg2 rfl); have HV2 : Hid (w4.ownsRow w.heap.size 32 kindR.K v2 p (Rw.row kindR (s.take p))) := Lib.hid (by rw [Nat.zero_add, List.nil_append] at hv2; exact hv2); clear hv2 hg2)
            have hdl : (s.drop (p + 1)).length = s.length - (p + 1) := by rw [List.length_drop]
            have HDL := Lib.hid hdl; clear hdl
            have hp1 : (p : Int) + 1 ≤ (s.length : Int) := by omega
            by_cases hc1 : cS = p + 1
            · subst hc1
              have hT0 : ∀ W X, Rw.Ts kindR W X (s.drop (p + 1)) := fun W X => by rw [List.drop_of_length_le (by omega)]; exact Rw.Ts.nil
              have HT0 := Lib.hid hT0; clear hT0
              have HDL0 : Hid ((s.drop (p + 1)).length = 0) := Lib.hid (by rw [List.length_drop]; omega)
              go_wp2_with (at_builtin; refine append_n 32 22 Try.underlying22 infoRec rfl rfl _ _ rfl w.heap.size _ p (s.take p) rfl HV2.out (some ⟨bs, 0, none⟩) _ (s.drop (p + 1)) 0 HDL0.out rfl (fun e => by cases e) (HT0.out _ _) (by unfold maxLen; omega) (by omega) HB4.out.size ?_; intro v3 w5 hv3 hg3; have HB5 := Lib.hid (Rw.own_below HV2.out hg3 HB4.out HB4.out.size); have HV3 := Lib.hid hv3; clear hv3 hg3)
              have HEL : Hid (p + 0 = (s.erase x).length) := Lib.hid (by rw [← HER.out, List.length_append, HTL.out, HDL0.out])
              go_roundw
              case rel =>
                refine ⟨i + 1, by omega, by simp, s.erase x, ?_, ?_, ?_, HB5.out⟩
                · have h := HV3.out
                  rw [HER.out, HEL.out] at h
                  exact h
                · rw [HA2.out, HDR.out]; exact lessL_hit HIN.out
                · rw [← HEL.out]; omega
              case measure => simp only [intOf]; omega
            · have hc2 : ¬ cS = p + 1 := hc1
              have hc3 : p + 1 < cS := by omega
              clear hc1
              go_wp2_with (at_builtin; refine append_n 32 22 Try.underlying22 infoRec rfl rfl _ _ rfl w.heap.size _ p (s.take p) rfl HV2.out (some ⟨bs, (p + 1) * 2, none⟩) _ (s.drop (p + 1)) (s.length - (p + 1)) HDL.out rfl (fun e => by cases e) (by have h := HTS4.out.drop (p + 1); rw [Nat.zero_add] at h; exact h) (by unfold maxLen; omega) (by omega) HB4.out.size ?_; intro v3 w5 hv3 hg3; have HB5 := Lib.hid (Rw.own_below HV2.out hg3 HB4.out HB4.out.size); have HV3 := Lib.hid hv3; clear hv3 hg3)
              have HEL : Hid (p + (s.length - (p + 1)) = (s.erase x).length) := Lib.hid (by rw [← HER.out, List.length_append, HTL.out, HDL.out])
              go_roundw
              case rel =>
                refine ⟨i + 1, by omega, by simp, s.erase x, ?_, ?_, ?_, HB5.out⟩
                · have h := HV3.out
                  rw [HER.out, HEL.out] at h
                  exact h
                · rw [HA2.out, HDR.out]; exact lessL_hit HIN.out
                · rw [← HEL.out]; omega
              case measure => simp only [intOf]; omega
          · have he : eqB y x = false := eqB_no hyx
            have HYX := Lib.hid hyx; clear hyx
            go_wp2_with fail
            refine wp_region_below (by kernel_rfl) (by kernel_rfl) ?_
            refine wpQuiet_step (fun K hK => ?_); go_simp; (first | (with_reducible refine hK _ ?_) | (with_reducible refine ⟨_, fun _ _ => rfl, hK _ ?_⟩)); clear hK K
            refine wpQuiet_step (fun K hK => ?_); go_simp; (first | (with_reducible refine hK _ ?_) | (with_reducible refine ⟨_, fun _ _ => rfl, hK _ ?_⟩)); clear hK K
            refine wpQuiet_step (fun K hK => ?_); go_simp; (first | (with_reducible refine hK _ ?_) | (with_reducible refine ⟨_, fun _ _ => rfl, hK _ ?_⟩)); clear hK K
            refine wpQuiet_step (fun K hK => ?_); go_simp; (first | (with_reducible refine hK _ ?_) | (with_reducible refine ⟨_, fun _ _ => rfl, hK _ ?_⟩)); clear hK K
            refine wpQuiet_step (fun K hK => ?_); go_simp; (first | (with_reducible refine hK _ ?_) | (with_reducible refine ⟨_, fun _ _ => rfl, hK _ ?_⟩)); clear hK K
            refine wpQuiet_step (fun K hK => ?_); go_simp; (first | (with_reducible refine hK _ ?_) | (with_reducible refine ⟨_, fun _ _ => rfl, hK _ ?_⟩)); clear hK K
            refine wpQuiet_step (fun K hK => ?_); go_simp; (first | (with_reducible refine hK _ ?_) | (with_reducible refine ⟨_, fun _ _ => rfl, hK _ ?_⟩)); clear hK K
            refine wpQuiet_step (fun K hK => ?_); go_simp; (first | (with_reducible refine hK _ ?_) | (with_reducible refine ⟨_, fun _ _ => rfl, hK _ ?_⟩)); clear hK K
            refine wpQuiet_step (fun K hK => ?_); refine q_load (p := .pointer (some ⟨bs, os + p * 2, none⟩)) 32 _ rfl rfl rfl (HL1.out) ?_; go_simp; (with_reducible refine hK _ ?_); clear hK K
            refine wpQuiet_step (fun K hK => ?_); go_simp; (first | (with_reducible refine hK _ ?_) | (with_reducible refine ⟨_, fun _ _ => rfl, hK _ ?_⟩)); clear hK K
            refine wpQuiet_step (fun K hK => ?_); go_simp; (first | (with_reducible refine hK _ ?_) | (with_reducible refine ⟨_, fun _ _ => rfl, hK _ ?_⟩)); clear hK K
            refine wpQuiet_step (fun K hK => ?_); go_simp; (first | (with_reducible refine hK _ ?_) | (with_reducible refine ⟨_, fun _ _ => rfl, hK _ ?_⟩)); clear hK K
            refine wpQuiet_step (fun K hK => ?_); refine q_load (p := .pointer (some ⟨b0, o0 + i * 2, none⟩)) 32 _ rfl rfl rfl (HL0.out) ?_; go_simp; (with_reducible refine hK _ ?_); clear hK K
            refine wpQuiet_step (fun K hK => ?_); refine q_bin _ _ _ _ _ rfl rfl rfl rfl (ne_r _ _ y x) ?_; go_simp; (with_reducible refine hK _ ?_); clear hK K
            refine wpQuiet_step (fun K hK => ?_); go_simp; (first | (with_reducible refine hK _ ?_) | (with_reducible refine ⟨_, fun _ _ => rfl, hK _ ?_⟩)); clear hK K
            refine wpQuiet_nil ?_
            intro wy hby
            have HBY := Lib.hid (HBX.out.trans (hby.mono HBX.out.size))
            clear hby HL0 HL1 he d0
            go_wp2_with fail
            go_roundw
            case rel =>
              refine ⟨p + 1, by simp, by omega, HBY.out, fun z hz => ?_⟩
              rw [take_snoc HY.out] at hz
              rcases List.mem_append.1 hz with hz | hz
              · exact HNE.out z hz
              · simp at hz; subst hz; exact HYX.out
            case measure => simp only [intOf]; omega
        · have hpe : p = s.length := by omega
          have hpz : ¬ (p : Int) < (s.length : Int) := by omega
          have d0 : decide ((p : Int) < (s.length : Int)) = false := by simp; omega
          have hne1 : ((p : Int) == (s.length : Int)) = true := by simp; omega
          have HNONE : Hid (ans = none) := Lib.hid (by
            rw [HA2.out, HDR.out]
            refine lessL_miss fun h => ?_
            have h2 := HNE.out
            rw [hpe, List.take_length] at h2
            exact h2 x h rfl)
          clear hpe
          go_wp2_with fail
          refine wp_region_below (by kernel_rfl) (by kernel_rfl) ?_
          refine wpQuiet_step (fun K hK => ?_); go_simp; (try (with_reducible refine ⟨_, fun _ _ => rfl, ?_⟩)); generalize hA : ({ tmps := _, defers := _ } : Act) = A; (with_reducible refine hK A ?_); clear hK K
          refine wpQuiet_step (fun K hK => ?_); subst hA; go_simp; (try (with_reducible refine ⟨_, fun _ _ => rfl, ?_⟩)); generalize hA : ({ tmps := _, defers := _ } : Act) = A; (with_reducible refine hK A ?_); clear hK K
          refine wpQuiet_step (fun K hK => ?_); subst hA; go_simp; (try (with_reducible refine ⟨_, fun _ _ => rfl, ?_⟩)); generalize hA : ({ tmps := _, defers := _ } : Act) = A; (with_reducible refine hK A ?_); clear hK K
          refine wpQuiet_step (fun K hK => ?_); subst hA; go_simp; (try (with_reducible refine ⟨_, fun _ _ => rfl, ?_⟩)); generalize hA : ({ tmps := _, defers := _ } : Act) = A; (with_reducible refine hK A ?_); clear hK K
          refine wpQuiet_step (fun K hK => ?_); subst hA; go_simp; (try (with_reducible refine ⟨_, fun _ _ => rfl, ?_⟩)); generalize hA : ({ tmps := _, defers := _ } : Act) = A; (with_reducible refine hK A ?_); clear hK K
          refine wpQuiet_step (fun K hK => ?_); subst hA; go_simp; (try (with_reducible refine ⟨_, fun _ _ => rfl, ?_⟩)); generalize hA : ({ tmps := _, defers := _ } : Act) = A; (with_reducible refine hK A ?_); clear hK K
          refine wpQuiet_step (fun K hK => ?_); subst hA; go_simp; (try (with_reducible refine ⟨_, fun _ _ => rfl, ?_⟩)); generalize hA : ({ tmps := _, defers := _ } : Act) = A; (with_reducible refine hK A ?_); clear hK K
          refine wpQuiet_step (fun K hK => ?_); subst hA; go_simp; (try (with_reducible refine ⟨_, fun _ _ => rfl, ?_⟩)); generalize hA : ({ tmps := _, defers := _ } : Act) = A; (with_reducible refine hK A ?_); clear hK K
          refine wpQuiet_step (fun K hK => ?_); subst hA; go_simp; (try (with_reducible refine ⟨_, fun _ _ => rfl, ?_⟩)); generalize hA : ({ tmps := _, defers := _ } : Act) = A; (with_reducible refine hK A ?_); clear hK K
          refine wpQuiet_step (fun K hK => ?_); subst hA; go_simp; (try (with_reducible refine ⟨_, fun _ _ => rfl, ?_⟩)); generalize hA : ({ tmps := _, defers := _ } : Act) = A; (with_reducible refine hK A ?_); clear hK K
          refine wpQuiet_step (fun K hK => ?_); subst hA; go_simp; (try (with_reducible refine ⟨_, fun _ _ => rfl, ?_⟩)); generalize hA : ({ tmps := _, defers := _ } : Act) = A; (with_reducible refine hK A ?_); clear hK K
          refine wpQuiet_step (fun K hK => ?_); subst hA; go_simp; (try (with_reducible refine ⟨_, fun _ _ => rfl, ?_⟩)); generalize hA : ({ tmps := _, defers := _ } : Act) = A; (with_reducible refine hK A ?_); clear hK K
          refine wpQuiet_step (fun K hK => ?_); subst hA; go_simp; (try (with_reducible refine ⟨_, fun _ _ => rfl, ?_⟩)); generalize hA : ({ tmps := _, defers := _ } : Act) = A; (with_reducible refine hK A ?_); clear hK K
          refine wpQuiet_step (fun K hK => ?_); subst hA; go_simp; (try (with_reducible refine ⟨_, fun _ _ => rfl, ?_⟩)); generalize hA : ({ tmps := _, defers := _ } : Act) = A; (with_reducible refine hK A ?_); clear hK K
          refine wpQuiet_step (fun K hK => ?_); subst hA; go_simp; (try (with_reducible refine ⟨_, fun _ _ => rfl, ?_⟩)); generalize hA : ({ tmps := _, defers := _ } : Act) = A; (with_reducible refine hK A ?_); clear hK K
          subst hA
          refine wpQuiet_nil ?_
          intro wy hby
          have HBY := Lib.hid (HBX.out.trans (hby.mono HBX.out.size))
          clear hby
          go_wp2_with fail
          go_ret2
          show LessD ans w _ _
          rw [HNONE.out]
          exact ⟨⟨_, rfl, World.ownsRow_nil _ _ _ _⟩, HBW.out.trans (HBY.out.mono HBW.out.size)⟩
    · have hltz : ¬ (i : Int) < (b.length : Int) := by omega
      have HE : Hid (ans = some s) := Lib.hid (by rw [HA2.out, List.drop_of_length_le (by omega)]; rfl)
      go_wp2_with fail
      go_ret2
      show LessD ans w _ _
      rw [HE.out]
      exact ⟨⟨_, rfl, HOW.out⟩, HBW.out⟩
end Vr
end Go.Proofs.Ytcdofkhkckodjaa
