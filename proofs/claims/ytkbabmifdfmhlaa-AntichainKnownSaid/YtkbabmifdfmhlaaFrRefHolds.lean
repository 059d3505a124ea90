/- The document's Holds. -/
import Derived.Test.YtkbabmifdfmhlaaFrRefRight
namespace Go.Proofs.Ytkbabmifdfmhlaa
open Go.ChangeShapes Go.WideShapes Go.ChangeAt Go.RowKit Go.BigFrame
set_option linter.unusedVariables false
set_option maxRecDepth 100000
section
variable {ts : List St} {t x : St}
theorem inside_not_fr (h : ¬ Fr ts) : ¬ Inside ts t := fun k => h k.1.1
theorem inside_not_R (h : ¬ t.R) : ¬ Inside ts t := fun k => h (k.1.2.1.right t (by simp))
def badH (x t : St) : Bool := x.d != t.d || decide (x.L t)
theorem inside_not {k : Nat} (hx : ts[k]? = some x) (hb : badH x t = true) : ¬ Inside ts t := by
  intro h
  unfold badH at hb
  simp only [Bool.or_eq_true, bne_iff_ne, ne_eq, decide_eq_true_eq] at hb
  rcases hb with hb | hb
  · exact hb (h.1.2.2 x (List.mem_of_getElem? hx) t (by simp))
  · exact h.2 ⟨x, List.mem_of_getElem? hx, hb⟩
theorem inside_of (hf : Fr ts) (hR : t.R) (h : ∀ (j : Nat) (x : St), j < ts.length → ts[j]? = some x → badH x t = false) : Inside ts t := by
  have hm : ∀ x ∈ ts, x.d = t.d ∧ ¬ x.L t := by
    intro x hx
    obtain ⟨j, hj⟩ := List.getElem?_of_mem hx
    have := h j x (List.getElem?_eq_some_iff.1 hj).1 hj
    unfold badH at this
    simpa only [Bool.or_eq_false_iff, bne_eq_false_iff_eq, decide_eq_false_iff_not] using this
  refine ⟨⟨hf, ⟨?_, ?_, List.pairwise_singleton _ _, ?_⟩, ?_⟩, ?_⟩
  · intro y hy; rw [List.mem_singleton] at hy; rw [hy]; exact hR
  · intro y hy z hz; rw [List.mem_singleton] at hy hz; rw [hy, hz]
  · intro y hy z hz _; rw [List.mem_singleton] at hy hz; rw [hy, hz]
  · intro y hy z hz; rw [List.mem_singleton] at hz; rw [hz]; exact (hm y hy).1
  · rintro ⟨y, hy, hl⟩; exact (hm y hy).2 hl
end
set_option maxHeartbeats 8000000 in
theorem refHolds_any (A : Option Addr) (ts : List St) (c : Nat) (t : St) (w : World) (hT : Ts w A ts) (hn : ts.length ≤ 1000) (hc : ts.length ≤ c) (hm : c ≤ maxLen) :
    Calls Try.prog 53 #[.slice A ts.length c, t.val] w fun e w' => e = .returned (.bool (decide (Inside ts t))) ∧ Below w.heap.size w w' := by
  have hbA := (Below.refl w.heap.size w).alloc (Nat.le_refl _) (.cells #[.int .i64 t.d, .int .i64 t.e, .int .i64 t.x, .int .i64 t.y, .int .i64 t.z] 25)
  have hx := Holds.made w t
  have hT1 := hT.below hbA
  have hr := refRightRow_any A ts c _ hT1 hn hc hm
  have HT := Lib.hid hT1; have HX := Lib.hid hx; have HA := Lib.hid hbA
  clear hT hx hbA hT1 hc hm
  unfold St.val at *
  by_cases hf : Fr ts
  · rw [decide_eq_true hf] at hr
    have HR := Lib.hid hr; have HF := Lib.hid hf; clear hr hf
    by_cases hR : t.R
    · have hq := right_r (decide_eq_true hR)
      unfold St.val at *
      have HQ := Lib.hid hq; have HRR := Lib.hid hR; clear hq hR
      go_enter Try.func53, Try.ntmps53
      go_wp2_with fail
      generalize w.alloc (.cells #[.int .i64 t.d, .int .i64 t.e, .int .i64 t.x, .int .i64 t.y, .int .i64 t.z] 25) = w0 at *
      refine (HR.out).mono ?_; rintro e w1 ⟨rfl, hb1⟩
      obtain ⟨c0, c1, c2, c3, c4⟩ := (HX.out.below hb1).cells5
      have hlt := (HX.out.below hb1).lt
      have HB1 := Lib.hid hb1; clear hb1
      go_wp2_with fail
      refine (HQ.out _).mono ?_; rintro e w2 ⟨rfl, hb2⟩
      clear c0 c1 c2 c3 c4 hlt
      have HB2 := Lib.hid (HB1.out.trans (hb2.mono HB1.out.size)); clear hb2 HB1
      go_wp2_with fail
      go_loopw [5] (fun i wr => ∃ k : Nat, k ≤ ts.length ∧ i = .int .i64 k ∧ Below w0.heap.size w0 wr ∧ ∀ (j : Nat) (x : St), j < k → ts[j]? = some x → badH x t = false) (fun i _ => ts.length - (intOf i).toNat)
      case atStart => exact ⟨0, by omega, rfl, HB2.out, fun j x h => absurd h (by omega)⟩
      case round =>
        obtain ⟨k, hk, rfl, hb, hno⟩ := hrel
        have HB := Lib.hid hb; have HNO := Lib.hid hno; clear hb hno HB2
        by_cases hlt : k < ts.length
        · have hltz : (k : Int) < (ts.length : Int) := by omega
          obtain ⟨x, hx⟩ : ∃ x, ts[k]? = some x := ⟨_, List.getElem?_eq_getElem hlt⟩
          have hT1 := HT.out.below HB.out
          have hY := HX.out.below HB.out
          obtain ⟨b, o, rfl, hbl, h0⟩ := hT1.load hx
          obtain ⟨b', o', e, _, hd⟩ := hT1.five hx
          cases e
          have hdd := (hd wr (Below.refl _ _)).1
          have H0 := Lib.hid h0; have HD := Lib.hid (And.intro hbl hdd); have HXX := Lib.hid hx; have HY := Lib.hid hY
          clear h0 hbl hdd hd hx hT1 hY
          by_cases hde : x.d = t.d
          · have e1 : (x.d != t.d) = false := by rw [hde]; simp
            have HE1 := Lib.hid e1
            have hl := fun w => refLeq_any x t w
            cases hv : decide (x.L t) with
            | true =>
              have hbd : badH x t = true := by unfold badH; rw [e1, hv]; rfl
              have HBD := Lib.hid hbd
              rw [hv] at hl
              unfold St.val at *
              have HL := Lib.hid hl
              clear hbd hv hl e1 hde
              go_wp2_with fail
              refine wp_region_below (by kernel_rfl) (by kernel_rfl) ?_
              refine wpQuiet_step (fun K hK => ?_); go_simp; (first | (with_reducible refine hK _ ?_) | (with_reducible refine ⟨_, fun _ _ => rfl, hK _ ?_⟩)); clear hK K
              refine wpQuiet_step (fun K hK => ?_); go_simp; (first | (with_reducible refine hK _ ?_) | (with_reducible refine ⟨_, fun _ _ => rfl, hK _ ?_⟩)); clear hK K
              refine wpQuiet_step (fun K hK => ?_); go_simp; (first | (with_reducible refine hK _ ?_) | (with_reducible refine ⟨_, fun _ _ => rfl, hK _ ?_⟩)); clear hK K
              refine wpQuiet_step (fun K hK => ?_); go_simp; (first | (with_reducible refine hK _ ?_) | (with_reducible refine ⟨_, fun _ _ => rfl, hK _ ?_⟩)); clear hK K
              refine wpQuiet_step (fun K hK => ?_); refine q_load (p := .pointer (some ⟨b, o + k * 5, none⟩)) 3 _ rfl rfl rfl (load_at HD.out.1 HD.out.2) ?_; go_simp; (with_reducible refine hK _ ?_); clear hK K
              refine wpQuiet_step (fun K hK => ?_); go_simp; (first | (with_reducible refine hK _ ?_) | (with_reducible refine ⟨_, fun _ _ => rfl, hK _ ?_⟩)); clear hK K
              refine wpQuiet_step (fun K hK => ?_); refine q_load (p := .pointer (some ⟨w.heap.size, 0, none⟩)) 3 _ rfl rfl rfl (load_d HY.out) ?_; go_simp; (with_reducible refine hK _ ?_); clear hK K
              refine wpQuiet_step (fun K hK => ?_); refine q_bin _ _ _ _ _ rfl rfl rfl rfl (nei_is HE1.out) ?_; go_simp; (with_reducible refine hK _ ?_); clear hK K
              refine wpQuiet_step (fun K hK => ?_); go_simp; (first | (with_reducible refine hK _ ?_) | (with_reducible refine ⟨_, fun _ _ => rfl, hK _ ?_⟩)); clear hK K
              refine wpQuiet_step (fun K hK => ?_); go_simp; (first | (with_reducible refine hK _ ?_) | (with_reducible refine ⟨_, fun _ _ => rfl, hK _ ?_⟩)); clear hK K
              refine wpQuiet_step (fun K hK => ?_); go_simp; (first | (with_reducible refine hK _ ?_) | (with_reducible refine ⟨_, fun _ _ => rfl, hK _ ?_⟩)); clear hK K
              refine wpQuiet_step (fun K hK => ?_); go_simp; (first | (with_reducible refine hK _ ?_) | (with_reducible refine ⟨_, fun _ _ => rfl, hK _ ?_⟩)); clear hK K
              refine wpQuiet_step (fun K hK => ?_); refine q_load (p := .pointer (some ⟨b, o + k * 5, none⟩)) 25 _ rfl rfl rfl (H0.out) ?_; go_simp; (with_reducible refine hK _ ?_); clear hK K
              refine wpQuiet_step (fun K hK => ?_); refine q_load (p := .pointer (some ⟨w.heap.size, 0, none⟩)) 25 _ rfl rfl rfl (load_t HY.out) ?_; go_simp; (with_reducible refine hK _ ?_); clear hK K
              refine wpQuiet_step (fun K hK => ?_); go_simp; (with_reducible refine ⟨_, fun _ hb => (HL.out _).mono fun _ _ h => ⟨h.1, hb.trans (h.2.mono (by simpa using hb.size))⟩, hK _ ?_⟩); clear hK K
              refine wpQuiet_step (fun K hK => ?_); go_simp; (first | (with_reducible refine hK _ ?_) | (with_reducible refine ⟨_, fun _ _ => rfl, hK _ ?_⟩)); clear hK K
              refine wpQuiet_nil ?_
              intro w1 hb1
              go_wp2_with fail
              go_ret
              refine ⟨ret_bool ?_, HA.out.trans ((HB.out.trans (hb1.mono HB.out.size)).mono HA.out.size)⟩
              rw [eq_comm, decide_eq_false_iff_not]
              exact inside_not HXX.out HBD.out
            | false =>
              have hbd : badH x t = false := by unfold badH; rw [e1, hv]; rfl
              have HBD := Lib.hid hbd
              rw [hv] at hl
              unfold St.val at *
              have HL := Lib.hid hl
              clear hbd hv hl e1 hde
              go_wp2_with fail
              refine wp_region_below (by kernel_rfl) (by kernel_rfl) ?_
              refine wpQuiet_step (fun K hK => ?_); go_simp; (first | (with_reducible refine hK _ ?_) | (with_reducible refine ⟨_, fun _ _ => rfl, hK _ ?_⟩)); clear hK K
              refine wpQuiet_step (fun K hK => ?_); go_simp; (first | (with_reducible refine hK _ ?_) | (with_reducible refine ⟨_, fun _ _ => rfl, hK _ ?_⟩)); clear hK K
              refine wpQuiet_step (fun K hK => ?_); go_simp; (first | (with_reducible refine hK _ ?_) | (with_reducible refine ⟨_, fun _ _ => rfl, hK _ ?_⟩)); clear hK K
              refine wpQuiet_step (fun K hK => ?_); go_simp; (first | (with_reducible refine hK _ ?_) | (with_reducible refine ⟨_, fun _ _ => rfl, hK _ ?_⟩)); clear hK K
              refine wpQuiet_step (fun K hK => ?_); refine q_load (p := .pointer (some ⟨b, o + k * 5, none⟩)) 3 _ rfl rfl rfl (load_at HD.out.1 HD.out.2) ?_; go_simp; (with_reducible refine hK _ ?_); clear hK K
              refine wpQuiet_step (fun K hK => ?_); go_simp; (first | (with_reducible refine hK _ ?_) | (with_reducible refine ⟨_, fun _ _ => rfl, hK _ ?_⟩)); clear hK K
              refine wpQuiet_step (fun K hK => ?_); refine q_load (p := .pointer (some ⟨w.heap.size, 0, none⟩)) 3 _ rfl rfl rfl (load_d HY.out) ?_; go_simp; (with_reducible refine hK _ ?_); clear hK K
              refine wpQuiet_step (fun K hK => ?_); refine q_bin _ _ _ _ _ rfl rfl rfl rfl (nei_is HE1.out) ?_; go_simp; (with_reducible refine hK _ ?_); clear hK K
              refine wpQuiet_step (fun K hK => ?_); go_simp; (first | (with_reducible refine hK _ ?_) | (with_reducible refine ⟨_, fun _ _ => rfl, hK _ ?_⟩)); clear hK K
              refine wpQuiet_step (fun K hK => ?_); go_simp; (first | (with_reducible refine hK _ ?_) | (with_reducible refine ⟨_, fun _ _ => rfl, hK _ ?_⟩)); clear hK K
              refine wpQuiet_step (fun K hK => ?_); go_simp; (first | (with_reducible refine hK _ ?_) | (with_reducible refine ⟨_, fun _ _ => rfl, hK _ ?_⟩)); clear hK K
              refine wpQuiet_step (fun K hK => ?_); go_simp; (first | (with_reducible refine hK _ ?_) | (with_reducible refine ⟨_, fun _ _ => rfl, hK _ ?_⟩)); clear hK K
              refine wpQuiet_step (fun K hK => ?_); refine q_load (p := .pointer (some ⟨b, o + k * 5, none⟩)) 25 _ rfl rfl rfl (H0.out) ?_; go_simp; (with_reducible refine hK _ ?_); clear hK K
              refine wpQuiet_step (fun K hK => ?_); refine q_load (p := .pointer (some ⟨w.heap.size, 0, none⟩)) 25 _ rfl rfl rfl (load_t HY.out) ?_; go_simp; (with_reducible refine hK _ ?_); clear hK K
              refine wpQuiet_step (fun K hK => ?_); go_simp; (with_reducible refine ⟨_, fun _ hb => (HL.out _).mono fun _ _ h => ⟨h.1, hb.trans (h.2.mono (by simpa using hb.size))⟩, hK _ ?_⟩); clear hK K
              refine wpQuiet_step (fun K hK => ?_); go_simp; (first | (with_reducible refine hK _ ?_) | (with_reducible refine ⟨_, fun _ _ => rfl, hK _ ?_⟩)); clear hK K
              refine wpQuiet_nil ?_
              intro w1 hb1
              have HB4 := Lib.hid (HB.out.trans (hb1.mono HB.out.size)); clear hb1
              go_wp2_with fail
              go_roundw
              case rel =>
                refine ⟨k + 1, by omega, by simp, HB4.out, fun j y hj hy => ?_⟩
                by_cases e : j = k
                · subst e
                  rw [HXX.out] at hy; cases hy
                  exact HBD.out
                · exact HNO.out j y (by omega) hy
              case measure => simp only [intOf]; omega
          · have e1 : (x.d != t.d) = true := by simpa using hde
            have HE1 := Lib.hid e1
            have hbd : badH x t = true := by unfold badH; rw [e1]; rfl
            have HBD := Lib.hid hbd
            clear hbd e1 hde
            go_wp2_with fail
            refine wp_region_below (by kernel_rfl) (by kernel_rfl) ?_
            refine wpQuiet_step (fun K hK => ?_); go_simp; (first | (with_reducible refine hK _ ?_) | (with_reducible refine ⟨_, fun _ _ => rfl, hK _ ?_⟩)); clear hK K
            refine wpQuiet_step (fun K hK => ?_); go_simp; (first | (with_reducible refine hK _ ?_) | (with_reducible refine ⟨_, fun _ _ => rfl, hK _ ?_⟩)); clear hK K
            refine wpQuiet_step (fun K hK => ?_); go_simp; (first | (with_reducible refine hK _ ?_) | (with_reducible refine ⟨_, fun _ _ => rfl, hK _ ?_⟩)); clear hK K
            refine wpQuiet_step (fun K hK => ?_); go_simp; (first | (with_reducible refine hK _ ?_) | (with_reducible refine ⟨_, fun _ _ => rfl, hK _ ?_⟩)); clear hK K
            refine wpQuiet_step (fun K hK => ?_); refine q_load (p := .pointer (some ⟨b, o + k * 5, none⟩)) 3 _ rfl rfl rfl (load_at HD.out.1 HD.out.2) ?_; go_simp; (with_reducible refine hK _ ?_); clear hK K
            refine wpQuiet_step (fun K hK => ?_); go_simp; (first | (with_reducible refine hK _ ?_) | (with_reducible refine ⟨_, fun _ _ => rfl, hK _ ?_⟩)); clear hK K
            refine wpQuiet_step (fun K hK => ?_); refine q_load (p := .pointer (some ⟨w.heap.size, 0, none⟩)) 3 _ rfl rfl rfl (load_d HY.out) ?_; go_simp; (with_reducible refine hK _ ?_); clear hK K
            refine wpQuiet_step (fun K hK => ?_); refine q_bin _ _ _ _ _ rfl rfl rfl rfl (nei_is HE1.out) ?_; go_simp; (with_reducible refine hK _ ?_); clear hK K
            refine wpQuiet_step (fun K hK => ?_); go_simp; (try (with_reducible refine ⟨_, fun _ _ => rfl, ?_⟩)); generalize hA : ({ tmps := _, defers := _ } : Act) = A; (with_reducible refine hK A ?_); clear hK K
            refine wpQuiet_step (fun K hK => ?_); subst hA; go_simp; (try (with_reducible refine ⟨_, fun _ _ => rfl, ?_⟩)); generalize hA : ({ tmps := _, defers := _ } : Act) = A; (with_reducible refine hK A ?_); clear hK K
            refine wpQuiet_step (fun K hK => ?_); subst hA; go_simp; (try (with_reducible refine ⟨_, fun _ _ => rfl, ?_⟩)); generalize hA : ({ tmps := _, defers := _ } : Act) = A; (with_reducible refine hK A ?_); clear hK K
            refine wpQuiet_step (fun K hK => ?_); subst hA; go_simp; (try (with_reducible refine ⟨_, fun _ _ => rfl, ?_⟩)); generalize hA : ({ tmps := _, defers := _ } : Act) = A; (with_reducible refine hK A ?_); clear hK K
            refine wpQuiet_step (fun K hK => ?_); subst hA; go_simp; (try (with_reducible refine ⟨_, fun _ _ => rfl, ?_⟩)); generalize hA : ({ tmps := _, defers := _ } : Act) = A; (with_reducible refine hK A ?_); clear hK K
            refine wpQuiet_step (fun K hK => ?_); subst hA; go_simp; (try (with_reducible refine ⟨_, fun _ _ => rfl, ?_⟩)); generalize hA : ({ tmps := _, defers := _ } : Act) = A; (with_reducible refine hK A ?_); clear hK K
            refine wpQuiet_step (fun K hK => ?_); subst hA; go_simp; (try (with_reducible refine ⟨_, fun _ _ => rfl, ?_⟩)); generalize hA : ({ tmps := _, defers := _ } : Act) = A; (with_reducible refine hK A ?_); clear hK K
            refine wpQuiet_step (fun K hK => ?_); subst hA; go_simp; (first | (with_reducible refine hK _ ?_) | (with_reducible refine ⟨_, fun _ _ => rfl, hK _ ?_⟩)); clear hK K
            refine wpQuiet_nil ?_
            intro w1 hb1
            go_wp2_with fail
            go_ret
            refine ⟨ret_bool ?_, HA.out.trans ((HB.out.trans (hb1.mono HB.out.size)).mono HA.out.size)⟩
            rw [eq_comm, decide_eq_false_iff_not]
            exact inside_not HXX.out HBD.out
        · have hk' : k = ts.length := by omega
          subst hk'
          go_wp2_with fail
          go_ret
          exact ⟨ret_bool (decide_eq_true (inside_of HF.out HRR.out HNO.out)).symm, HA.out.trans (HB.out.mono HA.out.size)⟩
    · have hq := right_r (decide_eq_false hR)
      unfold St.val at *
      have HQ := Lib.hid hq; have HRR := Lib.hid hR; clear hq hR
      go_enter Try.func53, Try.ntmps53
      go_wp2_with fail
      generalize w.alloc (.cells #[.int .i64 t.d, .int .i64 t.e, .int .i64 t.x, .int .i64 t.y, .int .i64 t.z] 25) = w0 at *
      refine (HR.out).mono ?_; rintro e w1 ⟨rfl, hb1⟩
      obtain ⟨c0, c1, c2, c3, c4⟩ := (HX.out.below hb1).cells5
      have hlt := (HX.out.below hb1).lt
      have HB1 := Lib.hid hb1; clear hb1
      go_wp2_with fail
      refine (HQ.out _).mono ?_; rintro e w2 ⟨rfl, hb2⟩
      clear c0 c1 c2 c3 c4 hlt
      have HB2 := Lib.hid (HB1.out.trans (hb2.mono HB1.out.size)); clear hb2 HB1
      go_wp2_with fail
      go_ret
      exact ⟨ret_bool (decide_eq_false (inside_not_R HRR.out)).symm, HA.out.trans (HB2.out.mono HA.out.size)⟩
  · rw [decide_eq_false hf] at hr
    have HR := Lib.hid hr; have HF := Lib.hid hf; clear hr hf
    go_enter Try.func53, Try.ntmps53
    go_wp2_with fail
    generalize w.alloc (.cells #[.int .i64 t.d, .int .i64 t.e, .int .i64 t.x, .int .i64 t.y, .int .i64 t.z] 25) = w0 at *
    refine (HR.out).mono ?_; rintro e w1 ⟨rfl, hb1⟩
    have HB1 := Lib.hid hb1; clear hb1
    go_wp2_with fail
    go_ret
    exact ⟨ret_bool (decide_eq_false (inside_not_fr HF.out)).symm, HA.out.trans (HB1.out.mono HA.out.size)⟩
end Go.Proofs.Ytkbabmifdfmhlaa
