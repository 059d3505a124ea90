/- The document's Sorted: insertion. -/
import Derived.Test.YtcdofkhkckodjaaVrRefMath
namespace Go.Proofs.Ytcdofkhkckodjaa
namespace Vr
open Go.ChangeShapes Go.WideShapes Go.ChangeAt Go.RowKit Go.BigFrame
set_option linter.unusedVariables false
set_option maxRecDepth 100000
set_option maxHeartbeats 3000000 in
theorem refSorted_any (A : Option Addr) (l : List Rd) (c : Nat) (w : World) (hT : Rw.Ts kindR w A l) (hn : l.length ≤ 1000000) :
    Calls Try.prog 14 #[.slice A l.length c] w (AddD (sortR l) w) := by
  have HT := Lib.hid hT; clear hT
  go_enter Try.func14, Try.ntmps14
  go_wp2_with fail
  go_loopw [3, 4] (fun v i wr => ∃ k : Nat, k ≤ l.length ∧ i = .int .i64 k ∧ wr.ownsRow w.heap.size 32 kindR.K v (sortR (l.take k)).length (Rw.row kindR (sortR (l.take k))) ∧ Below w.heap.size w wr) (fun _ i _ => l.length - (intOf i).toNat)
  case atStart => exact ⟨0, by omega, rfl, World.ownsRow_nil _ _ _ _, Below.refl _ _⟩
  case round =>
    obtain ⟨k, hk, rfl, hown, hb⟩ := hrel
    by_cases hlt : k < l.length
    · have hltz : (k : Int) < (l.length : Int) := by omega
      obtain ⟨x, hx⟩ : ∃ x, l[k]? = some x := ⟨_, List.getElem?_eq_getElem hlt⟩
      have hnext : sortR (l.take (k + 1)) = sortR (sortR (l.take k) ++ [x]) := by rw [sortR_left, List.take_add_one, hx]; rfl
      have hslen : (sortR (l.take k)).length = k := by rw [sortR_perm.length_eq, List.length_take]; omega
      have hsp := sortR_sort (l := l.take k)
      obtain ⟨b0, o0, rfl, _, hload⟩ := load_r HT.out hx
      have hcel : ∀ w', Below w.heap.size w w' → w'.cell? ⟨b0, o0 + k * 2, none⟩ = some (.int .i64 x.k) ∧ w'.cell? ⟨b0, o0 + k * 2 + 1, none⟩ = some (.int .i64 x.v) := by
        obtain ⟨b', o', e', _, hc'⟩ := recs_at HT.out hx
        cases e'
        exact hc'
      generalize sortR (l.take k) = s at *
      have hsb : s.length ≤ 1000000 := by omega
      obtain ⟨S, cS, rfl, hTs, _⟩ := Rw.Ts.of_own hown
      obtain ⟨wo, rfl⟩ : ∃ wo, wo = wr := ⟨_, rfl⟩
      have HNEXT := Lib.hid hnext; have HSL := Lib.hid hslen; have HSP := Lib.hid hsp; have HLD := Lib.hid hload; have HCEL := Lib.hid hcel; have HTS := Lib.hid hTs; have HOWN := Lib.hid hown; have HB := Lib.hid hb
      clear hnext hslen hsp hload hcel hTs hown hb hx
      go_wp2_with fail
      go_loopw [5] (fun v wx => ∃ p : Nat, v = .int .i64 p ∧ p ≤ s.length ∧ Below wo.heap.size wo wx ∧ ∀ y ∈ s.drop p, ¬ y.Le x) (fun v _ => (intOf v).toNat)
      case atStart => exact ⟨s.length, rfl, Nat.le_refl _, Below.refl _ _, by simp⟩
      case round =>
        obtain ⟨wx, rfl⟩ : ∃ wx, wx = wr := ⟨_, rfl⟩
        obtain ⟨p, rfl, hp, hbx, hgt⟩ := hrel
        have HBX := Lib.hid hbx; have HGT := Lib.hid hgt; clear hbx hgt
        by_cases hp0 : 0 < p
        · obtain ⟨q, hq⟩ : ∃ q, p = q + 1 := ⟨p - 1, by omega⟩
          obtain ⟨y, hy⟩ : ∃ y, s[q]? = some y := ⟨_, List.getElem?_eq_getElem (by omega)⟩
          obtain ⟨b1, o1, rfl, _, hload1⟩ := load_r HTS.out hy
          have d0 : decide ((0 : Int) < (p : Int)) = true := by simp; omega
          have hw : IntKind.i64.wrap ((p : Int) - 1) = (q : Int) := by rw [IntWalk.i64_in _ (by omega)]; omega
          have hqs : (q : Int) < (s.length : Int) := by omega
          have hkl : (k : Int) < (l.length : Int) := by omega
          have HL0 : Hid (∀ w', Below wx.heap.size wx w' → (Instr.loadAt 32 (.pointer (some ⟨b0, o0 + k * 2, none⟩))).run Try.prog w' = .ok (.agg #[.int .i64 x.k, .int .i64 x.v]) w') := Lib.hid fun w' hb => HLD.out w' (HB.out.trans ((HBX.out.trans (hb.mono HBX.out.size)).mono HB.out.size))
          have HL1 : Hid (∀ w', Below wx.heap.size wx w' → (Instr.loadAt 32 (.pointer (some ⟨b1, o1 + q * 2, none⟩))).run Try.prog w' = .ok (.agg #[.int .i64 y.k, .int .i64 y.v]) w') := Lib.hid fun w' hb => hload1 w' (HBX.out.trans (hb.mono HBX.out.size))
          have HY := Lib.hid hy; have HQ := Lib.hid hq; clear hy hq hload1
          by_cases hle : y.Le x
          · have d1 : decide (0 < y.C x) = false := by simp only [decide_eq_false_iff_not]; rw [Rd.C_pos]; exact fun h => h hle
            have HLE := Lib.hid hle; clear hle
            go_wp2_with fail
            refine wp_region_below (by kernel_rfl) (by kernel_rfl) ?_
            refine wpQuiet_step (fun K hK => ?_); go_simp; (first | (with_reducible refine hK _ ?_) | (with_reducible refine ⟨_, fun _ _ => rfl, hK _ ?_⟩)); clear hK K
            refine wpQuiet_step (fun K hK => ?_); go_simp; (first | (with_reducible refine hK _ ?_) | (with_reducible refine ⟨_, fun _ _ => rfl, hK _ ?_⟩)); clear hK K
            refine wpQuiet_step (fun K hK => ?_); go_simp; (first | (with_reducible refine hK _ ?_) | (with_reducible refine ⟨_, fun _ _ => rfl, hK _ ?_⟩)); clear hK K
            refine wpQuiet_step (fun K hK => ?_); go_simp; (first | (with_reducible refine hK _ ?_) | (with_reducible refine ⟨_, fun _ _ => rfl, hK _ ?_⟩)); clear hK K
            refine wpQuiet_step (fun K hK => ?_); go_simp; (first | (with_reducible refine hK _ ?_) | (with_reducible refine ⟨_, fun _ _ => rfl, hK _ ?_⟩)); clear hK K
            refine wpQuiet_step (fun K hK => ?_); go_simp; (first | (with_reducible refine hK _ ?_) | (with_reducible refine ⟨_, fun _ _ => rfl, hK _ ?_⟩)); clear hK K
            refine wpQuiet_step (fun K hK => ?_); go_simp; (first | (with_reducible refine hK _ ?_) | (with_reducible refine ⟨_, fun _ _ => rfl, hK _ ?_⟩)); clear hK K
            refine wpQuiet_step (fun K hK => ?_); refine q_load (p := .pointer (some ⟨b1, o1 + q * 2, none⟩)) 32 _ rfl rfl rfl (HL1.out) ?_; go_simp; (with_reducible refine hK _ ?_); clear hK K
            refine wpQuiet_step (fun K hK => ?_); go_simp; (first | (with_reducible refine hK _ ?_) | (with_reducible refine ⟨_, fun _ _ => rfl, hK _ ?_⟩)); clear hK K
            refine wpQuiet_step (fun K hK => ?_); go_simp; (first | (with_reducible refine hK _ ?_) | (with_reducible refine ⟨_, fun _ _ => rfl, hK _ ?_⟩)); clear hK K
            refine wpQuiet_step (fun K hK => ?_); go_simp; (first | (with_reducible refine hK _ ?_) | (with_reducible refine ⟨_, fun _ _ => rfl, hK _ ?_⟩)); clear hK K
            refine wpQuiet_step (fun K hK => ?_); refine q_load (p := .pointer (some ⟨b0, o0 + k * 2, none⟩)) 32 _ rfl rfl rfl (HL0.out) ?_; go_simp; (with_reducible refine hK _ ?_); clear hK K
            refine wpQuiet_step (fun K hK => ?_); go_simp; (with_reducible refine ⟨_, fun _ hb => ((refCompare_any y x) _).mono fun _ _ h => ⟨h.1, hb.trans (h.2.mono (by simpa using hb.size))⟩, hK _ ?_⟩); clear hK K
            refine wpQuiet_step (fun K hK => ?_); go_simp; (first | (with_reducible refine hK _ ?_) | (with_reducible refine ⟨_, fun _ _ => rfl, hK _ ?_⟩)); clear hK K
            refine wpQuiet_step (fun K hK => ?_); go_simp; (first | (with_reducible refine hK _ ?_) | (with_reducible refine ⟨_, fun _ _ => rfl, hK _ ?_⟩)); clear hK K
            refine wpQuiet_nil ?_
            intro wz hbz
            have HBZ := Lib.hid (HBX.out.trans (hbz.mono HBX.out.size)); clear hbz
            have HFIN : Hid (∀ q y, p = q + 1 → s[q]? = some y → y.Le x) := Lib.hid fun q' y' e1 e2 => by
              have := HQ.out
              obtain rfl : q' = q := by omega
              rw [HY.out] at e2; cases e2; exact HLE.out
            clear HL0 HL1 HY HQ HLE d0 d1 hw hqs hkl
            obtain ⟨e0, e1⟩ := HCEL.out wz (HB.out.trans (HBZ.out.mono HB.out.size))
            have hbs : w.heap.size ≤ wz.heap.size := Nat.le_trans HB.out.size HBZ.out.size
            have HBS := Lib.hid hbs; clear hbs
            have HOZ := Lib.hid (Rw.own_kept HOWN.out HBZ.out)
            go_wp2_with (at_builtin; refine Rw.append_own kindR 32 22 Try.underlying22 infoRec rfl rfl _ _ rfl w.heap.size _ s.length s rfl (HOZ.out.alloc _) _ 1 [x] rfl (by simp) (Rw.Ts.made _ [x] _) (by unfold maxLen; simp; omega) (by simp; omega) (by have := HBS.out; simp; omega) ?_; intro v2 w4 hv2 hg2; have hb2 := Rw.own_below (HOZ.out.alloc _) hg2 ((HB.out.trans (HBZ.out.mono HB.out.size)).alloc HBS.out _) (by have := HBS.out; simp; omega); obtain ⟨g, cc, rfl, hgb⟩ := own_pos hv2 (by simp); have HV : Hid (w4.ownsRow w.heap.size 32 kindR.K (.slice (some ⟨g, 0, none⟩) (s.length + 1) cc) (s.length + 1) (Rw.row kindR (holeR s s.length x))) := Lib.hid (by rw [hole_end]; exact hv2); have HB2 := Lib.hid hb2; have HGB := Lib.hid hgb; clear hv2 hg2 hb2 hgb e0 e1)
            go_loopw [6] (fun v wx => ∃ j : Nat, v = .int .i64 j ∧ p ≤ j ∧ j ≤ s.length ∧ (∃ z, wx.ownsRow w.heap.size 32 kindR.K (.slice (some ⟨g, 0, none⟩) (s.length + 1) cc) (s.length + 1) (Rw.row kindR (holeR s j z))) ∧ Below w.heap.size w wx) (fun v _ => (intOf v).toNat)
            case atStart => exact ⟨s.length, by simp, hp, Nat.le_refl _, ⟨x, HV.out⟩, HB2.out⟩
            case round =>
              obtain ⟨wy, rfl⟩ : ∃ wy, wy = wr := ⟨_, rfl⟩
              obtain ⟨j, rfl, hpj, hj, ⟨z, hoz⟩, hby⟩ := hrel
              have HBY := Lib.hid hby; clear hby
              by_cases hjp : p < j
              · have hjz : (p : Int) < (j : Int) := by omega
                obtain ⟨q, hq⟩ : ∃ q, j = q + 1 := ⟨j - 1, by omega⟩
                obtain ⟨y, hy⟩ : ∃ y, s[q]? = some y := ⟨_, List.getElem?_eq_getElem (by omega)⟩
                obtain ⟨c0, c1, _, _⟩ := own_at hoz (i := q) (r := y) (by rw [hole_at (by omega) hj]; exact hy)
                obtain ⟨d0, d1, f0, f1⟩ := own_at hoz (i := j) (r := z) (by unfold holeR; rw [List.getElem?_append_right (by rw [List.length_take]; omega), List.length_take, show j - min j s.length = 0 by omega]; rfl)
                have hput := own_putR hoz j y
                rw [hole_set hj] at hput
                have hdn : holeR s j y = holeR s q y := by rw [hq]; exact hole_down hy
                rw [hdn] at hput
                have hw : IntKind.i64.wrap ((j : Int) - 1) = (q : Int) := by rw [IntWalk.i64_in _ (by omega)]; omega
                have hq1 : (q : Int) < (s.length : Int) + 1 := by omega
                have hj1 : (j : Int) < (s.length : Int) + 1 := by omega
                have HPUT := Lib.hid hput; have HQ := Lib.hid hq; clear hput hq hy hdn hoz
                go_wp2_with fail
                go_roundw
                case rel => exact ⟨q, rfl, by have := HQ.out; omega, by have := HQ.out; omega, ⟨y, HPUT.out⟩, (HBY.out.setCell (p := ⟨g, j * 2, none⟩) HGB.out _).setCell (p := ⟨g, j * 2 + 1, none⟩) HGB.out _⟩
                case measure => simp only [intOf]; have := HQ.out; omega
              · have hjz : ¬ (p : Int) < (j : Int) := by omega
                obtain rfl : j = p := by omega
                obtain ⟨e0, e1⟩ := HCEL.out wy HBY.out
                obtain ⟨d0, d1, f0, f1⟩ := own_at hoz (i := j) (r := z) (by unfold holeR; rw [List.getElem?_append_right (by rw [List.length_take]; omega), List.length_take, show j - min j s.length = 0 by omega]; rfl)
                have hput := own_putR hoz j x
                rw [hole_set hj] at hput
                have hins : holeR s j x = sortR (s ++ [x]) := ins_sorted HSP.out HFIN.out HGT.out hj
                have hj1 : (j : Int) < (s.length : Int) + 1 := by omega
                have hln : s.length + 1 = (sortR (s ++ [x])).length := by rw [sortR_perm.length_eq]; simp
                rw [hins, ← HNEXT.out] at hput
                rw [← HNEXT.out] at hln
                have HLN := Lib.hid hln
                have HPUT := Lib.hid hput; clear hput hins hoz hln
                go_wp2_with fail
                go_roundw
                case rel => exact ⟨k + 1, by omega, by simp, by rw [← HLN.out]; exact HPUT.out, (HBY.out.setCell (p := ⟨g, j * 2, none⟩) HGB.out _).setCell (p := ⟨g, j * 2 + 1, none⟩) HGB.out _⟩
                case measure => simp only [intOf]; omega
          · have d1 : decide (0 < y.C x) = true := by simp only [decide_eq_true_eq]; rw [Rd.C_pos]; exact hle
            have HLE := Lib.hid hle; clear hle
            go_wp2_with fail
            refine wp_region_below (by kernel_rfl) (by kernel_rfl) ?_
            refine wpQuiet_step (fun K hK => ?_); go_simp; (first | (with_reducible refine hK _ ?_) | (with_reducible refine ⟨_, fun _ _ => rfl, hK _ ?_⟩)); clear hK K
            refine wpQuiet_step (fun K hK => ?_); go_simp; (first | (with_reducible refine hK _ ?_) | (with_reducible refine ⟨_, fun _ _ => rfl, hK _ ?_⟩)); clear hK K
            refine wpQuiet_step (fun K hK => ?_); go_simp; (first | (with_reducible refine hK _ ?_) | (with_reducible refine ⟨_, fun _ _ => rfl, hK _ ?_⟩)); clear hK K
            refine wpQuiet_step (fun K hK => ?_); go_simp; (first | (with_reducible refine hK _ ?_) | (with_reducible refine ⟨_, fun _ _ => rfl, hK _ ?_⟩)); clear hK K
            refine wpQuiet_step (fun K hK => ?_); go_simp; (first | (with_reducible refine hK _ ?_) | (with_reducible refine ⟨_, fun _ _ => rfl, hK _ ?_⟩)); clear hK K
            refine wpQuiet_step (fun K hK => ?_); go_simp; (first | (with_reducible refine hK _ ?_) | (with_reducible refine ⟨_, fun _ _ => rfl, hK _ ?_⟩)); clear hK K
            refine wpQuiet_step (fun K hK => ?_); go_simp; (first | (with_reducible refine hK _ ?_) | (with_reducible refine ⟨_, fun _ _ => rfl, hK _ ?_⟩)); clear hK K
            refine wpQuiet_step (fun K hK => ?_); refine q_load (p := .pointer (some ⟨b1, o1 + q * 2, none⟩)) 32 _ rfl rfl rfl (HL1.out) ?_; go_simp; (with_reducible refine hK _ ?_); clear hK K
            refine wpQuiet_step (fun K hK => ?_); go_simp; (first | (with_reducible refine hK _ ?_) | (with_reducible refine ⟨_, fun _ _ => rfl, hK _ ?_⟩)); clear hK K
            refine wpQuiet_step (fun K hK => ?_); go_simp; (first | (with_reducible refine hK _ ?_) | (with_reducible refine ⟨_, fun _ _ => rfl, hK _ ?_⟩)); clear hK K
            refine wpQuiet_step (fun K hK => ?_); go_simp; (first | (with_reducible refine hK _ ?_) | (with_reducible refine ⟨_, fun _ _ => rfl, hK _ ?_⟩)); clear hK K
            refine wpQuiet_step (fun K hK => ?_); refine q_load (p := .pointer (some ⟨b0, o0 + k * 2, none⟩)) 32 _ rfl rfl rfl (HL0.out) ?_; go_simp; (with_reducible refine hK _ ?_); clear hK K
            refine wpQuiet_step (fun K hK => ?_); go_simp; (with_reducible refine ⟨_, fun _ hb => ((refCompare_any y x) _).mono fun _ _ h => ⟨h.1, hb.trans (h.2.mono (by simpa using hb.size))⟩, hK _ ?_⟩); clear hK K
            refine wpQuiet_step (fun K hK => ?_); go_simp; (first | (with_reducible refine hK _ ?_) | (with_reducible refine ⟨_, fun _ _ => rfl, hK _ ?_⟩)); clear hK K
            refine wpQuiet_step (fun K hK => ?_); go_simp; (first | (with_reducible refine hK _ ?_) | (with_reducible refine ⟨_, fun _ _ => rfl, hK _ ?_⟩)); clear hK K
            refine wpQuiet_nil ?_
            intro wz hbz
            have HBZ := Lib.hid (HBX.out.trans (hbz.mono HBX.out.size)); clear hbz
            go_wp2_with fail
            go_roundw
            case rel =>
              refine ⟨q, rfl, by omega, HBZ.out, fun y' hy' => ?_⟩
              have hq := HQ.out
              rw [List.drop_eq_getElem_cons (show q < s.length by omega)] at hy'
              rcases List.mem_cons.1 hy' with rfl | hy'
              · have : s[q] = y := (List.getElem?_eq_some_iff.1 HY.out).2
                rw [this]; exact HLE.out
              · exact HGT.out y' (by rw [hq]; exact hy')
            case measure => simp only [intOf]; have := HQ.out; omega
        · have d0 : decide ((0 : Int) < (p : Int)) = false := by simp; omega
          have HFIN : Hid (∀ q y, p = q + 1 → s[q]? = some y → y.Le x) := Lib.hid fun q' y' e1 e2 => by omega
          go_wp2_with fail
          refine wp_region_below (by kernel_rfl) (by kernel_rfl) ?_
          refine wpQuiet_step (fun K hK => ?_); go_simp; (try (with_reducible refine ⟨_, fun _ _ => rfl, ?_⟩)); generalize hA : ({ tmps := _, defers := _ } : Act) = A; (with_reducible refine hK A ?_); clear hK K
          refine wpQuiet_step (fun K hK => ?_); subst hA; go_simp; (try (with_reducible refine ⟨_, fun _ _ => rfl, ?_⟩)); generalize hA : ({ tmps := _, defers := _ } : Act) = A; (with_reducible refine hK A ?_); clear hK K
          refine wpQuiet_step (fun K hK => ?_); subst hA; go_simp; (try (with_reducible refine ⟨_, fun _ _ => rfl, ?_⟩)); generalize hA : ({ tmps := _, defers := _ } : Act) = A; (with_reducible refine hK A ?_); clear hK K
          refine wpQuiet_step (fun K hK => ?_); subst hA; go_simp; (try (with_reducible refine ⟨_, fun _ _ => rfl, ?_⟩)); generalize hA : ({ tmps := _, defers := _ } : Act) = A; (with_reducible refine hK A ?_); clear hK K
          refine wpQuiet_step (fun K hK => ?_); subst hA; go_simp; (try (with_reducible refine ⟨_, fun _ _ => rfl, ?_⟩)); generalize hA : ({ tmps := _, defers := _ } : Act) = A; (with_reducible refine hK A ?_); clear hK K
          refine wpQuiet_step (fun K hK => ?_); subst hA; go_simp; (try (with_reducible refine ⟨_, fun _ _ => rfl, ?_⟩)); generalize hA : ({ tmps := _, defers := _ } : Act) = A; (with_reducible refine hK A ?_); clear hK K
          refine wpQuiet_step (fun K hK => ?_); subst hA; go_simp; (try (with_reducible refine ⟨_, fun _ _ => rfl, ?_⟩)); generalize hA : ({ tmps := _, defers := _ } : Act) = A; (with_reducible refine hK A ?_); clear hK K
          refine wpQuiet_step (fun K hK => ?_); subst hA; go_simp; (try (with_reducible refine ⟨_, fun _ _ => rfl, ?_⟩)); generalize hA : ({ tmps := _, defers := _ } : Act) = A; (with_reducible refine hK A ?_); clear hK K
          refine wpQuiet_step (fun K hK => ?_); subst hA; go_simp; (try (with_reducible refine ⟨_, fun _ _ => rfl, ?_⟩)); generalize hA : ({ tmps := _, defers := _ } : Act) = A; (with_reducible refine hK A ?_); clear hK K
          refine wpQuiet_step (fun K hK => ?_); subst hA; go_simp; (try (with_reducible refine ⟨_, fun _ _ => rfl, ?_⟩)); generalize hA : ({ tmps := _, defers := _ } : Act) = A; (with_reducible refine hK A ?_); clear hK K
          refine wpQuiet_step (fun K hK => ?_); subst hA; go_simp; (try (with_reducible refine ⟨_, fun _ _ => rfl, ?_⟩)); generalize hA : ({ tmps := _, defers := _ } : Act) = A; (with_reducible refine hK A ?_); clear hK K
          refine wpQuiet_step (fun K hK => ?_); subst hA; go_simp; (try (with_reducible refine ⟨_, fun _ _ => rfl, ?_⟩)); generalize hA : ({ tmps := _, defers := _ } : Act) = A; (with_reducible refine hK A ?_); clear hK K
          refine wpQuiet_step (fun K hK => ?_); subst hA; go_simp; (try (with_reducible refine ⟨_, fun _ _ => rfl, ?_⟩)); generalize hA : ({ tmps := _, defers := _ } : Act) = A; (with_reducible refine hK A ?_); clear hK K
          refine wpQuiet_step (fun K hK => ?_); subst hA; go_simp; (try (with_reducible refine ⟨_, fun _ _ => rfl, ?_⟩)); generalize hA : ({ tmps := _, defers := _ } : Act) = A; (with_reducible refine hK A ?_); clear hK K
          refine wpQuiet_step (fun K hK => ?_); subst hA; go_simp; (try (with_reducible refine ⟨_, fun _ _ => rfl, ?_⟩)); generalize hA : ({ tmps := _, defers := _ } : Act) = A; (with_reducible refine hK A ?_); clear hK K
          subst hA
          refine wpQuiet_nil ?_
          intro wz hbz
          have HBZ := Lib.hid (HBX.out.trans (hbz.mono HBX.out.size)); clear hbz d0 hp0
          obtain ⟨e0, e1⟩ := HCEL.out wz (HB.out.trans (HBZ.out.mono HB.out.size))
          have hbs : w.heap.size ≤ wz.heap.size := Nat.le_trans HB.out.size HBZ.out.size
          have HBS := Lib.hid hbs; clear hbs
          have HOZ := Lib.hid (Rw.own_kept HOWN.out HBZ.out)
          go_wp2_with (at_builtin; refine Rw.append_own kindR 32 22 Try.underlying22 infoRec rfl rfl _ _ rfl w.heap.size _ s.length s rfl (HOZ.out.alloc _) _ 1 [x] rfl (by simp) (Rw.Ts.made _ [x] _) (by unfold maxLen; simp; omega) (by simp; omega) (by have := HBS.out; simp; omega) ?_; intro v2 w4 hv2 hg2; have hb2 := Rw.own_below (HOZ.out.alloc _) hg2 ((HB.out.trans (HBZ.out.mono HB.out.size)).alloc HBS.out _) (by have := HBS.out; simp; omega); obtain ⟨g, cc, rfl, hgb⟩ := own_pos hv2 (by simp); have HV : Hid (w4.ownsRow w.heap.size 32 kindR.K (.slice (some ⟨g, 0, none⟩) (s.length + 1) cc) (s.length + 1) (Rw.row kindR (holeR s s.length x))) := Lib.hid (by rw [hole_end]; exact hv2); have HB2 := Lib.hid hb2; have HGB := Lib.hid hgb; clear hv2 hg2 hb2 hgb e0 e1)
          go_loopw [6] (fun v wx => ∃ j : Nat, v = .int .i64 j ∧ p ≤ j ∧ j ≤ s.length ∧ (∃ z, wx.ownsRow w.heap.size 32 kindR.K (.slice (some ⟨g, 0, none⟩) (s.length + 1) cc) (s.length + 1) (Rw.row kindR (holeR s j z))) ∧ Below w.heap.size w wx) (fun v _ => (intOf v).toNat)
          case atStart => exact ⟨s.length, by simp, hp, Nat.le_refl _, ⟨x, HV.out⟩, HB2.out⟩
          case round =>
            obtain ⟨wy, rfl⟩ : ∃ wy, wy = wr := ⟨_, rfl⟩
            obtain ⟨j, rfl, hpj, hj, ⟨z, hoz⟩, hby⟩ := hrel
            have HBY := Lib.hid hby; clear hby
            by_cases hjp : p < j
            · have hjz : (p : Int) < (j : Int) := by omega
              obtain ⟨q, hq⟩ : ∃ q, j = q + 1 := ⟨j - 1, by omega⟩
              obtain ⟨y, hy⟩ : ∃ y, s[q]? = some y := ⟨_, List.getElem?_eq_getElem (by omega)⟩
              obtain ⟨c0, c1, _, _⟩ := own_at hoz (i := q) (r := y) (by rw [hole_at (by omega) hj]; exact hy)
              obtain ⟨d0, d1, f0, f1⟩ := own_at hoz (i := j) (r := z) (by unfold holeR; rw [List.getElem?_append_right (by rw [List.length_take]; omega), List.length_take, show j - min j s.length = 0 by omega]; rfl)
              have hput := own_putR hoz j y
              rw [hole_set hj] at hput
              have hdn : holeR s j y = holeR s q y := by rw [hq]; exact hole_down hy
              rw [hdn] at hput
              have hw : IntKind.i64.wrap ((j : Int) - 1) = (q : Int) := by rw [IntWalk.i64_in _ (by omega)]; omega
              have hq1 : (q : Int) < (s.length : Int) + 1 := by omega
              have hj1 : (j : Int) < (s.length : Int) + 1 := by omega
              have HPUT := Lib.hid hput; have HQ := Lib.hid hq; clear hput hq hy hdn hoz
              go_wp2_with fail
              go_roundw
              case rel => exact ⟨q, rfl, by have := HQ.out; omega, by have := HQ.out; omega, ⟨y, HPUT.out⟩, (HBY.out.setCell (p := ⟨g, j * 2, none⟩) HGB.out _).setCell (p := ⟨g, j * 2 + 1, none⟩) HGB.out _⟩
              case measure => simp only [intOf]; have := HQ.out; omega
            · have hjz : ¬ (p : Int) < (j : Int) := by omega
              obtain rfl : j = p := by omega
              obtain ⟨e0, e1⟩ := HCEL.out wy HBY.out
              obtain ⟨d0, d1, f0, f1⟩ := own_at hoz (i := j) (r := z) (by unfold holeR; rw [List.getElem?_append_right (by rw [List.length_take]; omega), List.length_take, show j - min j s.length = 0 by omega]; rfl)
              have hput := own_putR hoz j x
              rw [hole_set hj] at hput
              have hins : holeR s j x = sortR (s ++ [x]) := ins_sorted HSP.out HFIN.out HGT.out hj
              have hj1 : (j : Int) < (s.length : Int) + 1 := by omega
              have hln : s.length + 1 = (sortR (s ++ [x])).length := by rw [sortR_perm.length_eq]; simp
              rw [hins, ← HNEXT.out] at hput
              rw [← HNEXT.out] at hln
              have HLN := Lib.hid hln
              have HPUT := Lib.hid hput; clear hput hins hoz hln
              go_wp2_with fail
              go_roundw
              case rel => exact ⟨k + 1, by omega, by simp, by rw [← HLN.out]; exact HPUT.out, (HBY.out.setCell (p := ⟨g, j * 2, none⟩) HGB.out _).setCell (p := ⟨g, j * 2 + 1, none⟩) HGB.out _⟩
              case measure => simp only [intOf]; omega
    · have hkl : k = l.length := by omega
      have hltz : ¬ (k : Int) < (l.length : Int) := by omega
      have HK : Hid (sortR (l.take k) = sortR l) := Lib.hid (by rw [hkl, List.take_length])
      have hown' := hown
      rw [HK.out] at hown'
      have HOWN := Lib.hid hown'; have HB := Lib.hid hb; clear hown hown' hb hkl
      go_wp2_with fail
      go_ret
      exact ⟨⟨_, rfl, HOWN.out⟩, HB.out⟩
end Vr
end Go.Proofs.Ytcdofkhkckodjaa
