/- FrRefRight, FrRefHolds -/
import Derived.Test.YtkbabmifdfmhlaaFrHoldsA
namespace Go.Proofs.Ytkbabmifdfmhlaa
set_option linter.unusedVariables false
section
open Go.ChangeShapes Go.WideShapes Go.ChangeAt Go.RowKit Go.BigFrame
set_option maxRecDepth 100000
section
variable {l ts : List St} {t x z p : St}
theorem fr_snoc (h : Fr l) (hR : t.R) (hd : ∀ x ∈ l, x.d = t.d) (hc : ∀ x ∈ l, x.C t < 0) (hl : ∀ x ∈ l, ¬ x.L t ∧ ¬ t.L x) : Fr (l ++ [t]) := by
  refine ⟨fun x hx => ?_, fun x hx y hy => ?_, ?_, fun x hx y hy hxy => ?_⟩
  · rcases List.mem_append.1 hx with hx | hx
    · exact h.right x hx
    · rw [List.mem_singleton] at hx; rw [hx]; exact hR
  · rcases List.mem_append.1 hx with kx | kx <;> rcases List.mem_append.1 hy with ky | ky
    · exact h.depth x kx y ky
    · rw [List.mem_singleton] at ky; rw [ky]; exact hd x kx
    · rw [List.mem_singleton] at kx; rw [kx]; exact (hd y ky).symm
    · rw [List.mem_singleton] at kx ky; rw [kx, ky]
  · rw [List.pairwise_append]
    exact ⟨h.sort, List.pairwise_singleton _ _, fun x hx y hy => by rw [List.mem_singleton] at hy; rw [hy]; exact hc x hx⟩
  · rcases List.mem_append.1 hx with kx | kx <;> rcases List.mem_append.1 hy with ky | ky
    · exact h.anti x kx y ky hxy
    · rw [List.mem_singleton] at ky; rw [ky] at hxy; exact absurd hxy (hl x kx).1
    · rw [List.mem_singleton] at kx; rw [kx] at hxy; exact absurd hxy (hl y ky).2
    · rw [List.mem_singleton] at kx ky; rw [kx, ky]
theorem fr_sub (h : Fr ts) (hs : l.Sublist ts) : Fr l := ⟨fun x hx => h.right x (hs.subset hx), fun x hx y hy => h.depth x (hs.subset hx) y (hs.subset hy), h.sort.sublist hs, fun x hx y hy => h.anti x (hs.subset hx) y (hs.subset hy)⟩
theorem fr_lt (h : Fr ts) {i j : Nat} {x y : St} (hij : i < j) (hx : ts[i]? = some x) (hy : ts[j]? = some y) : x.C y < 0 := by
  obtain ⟨hi, ex⟩ := List.getElem?_eq_some_iff.1 hx
  obtain ⟨hj, ey⟩ := List.getElem?_eq_some_iff.1 hy
  have := List.pairwise_iff_getElem.1 h.sort i j hi hj hij
  rwa [ex, ey] at this
theorem mem_take_at {k : Nat} (h : x ∈ ts.take k) : ∃ j, j < k ∧ ts[j]? = some x := by
  obtain ⟨j, hj⟩ := List.getElem?_of_mem h
  rw [List.getElem?_take] at hj
  split at hj
  · rename_i hjk; exact ⟨j, hjk, hj⟩
  · cases hj
theorem L_C' (h : x.L t) : x.C t ≤ 0 := St.L_C h
/-- what the first test asks of the time at k -/
def badS (k : Nat) (t z p : St) : Bool := !decide t.R || t.d != z.d || (decide (0 < k) && decide (0 ≤ p.C t))
theorem bad_not {k : Nat} (hz : ts[0]? = some z) (hp : ts[k - 1]? = some p) (ht : ts[k]? = some t) (hb : badS k t z p = true) : ¬ Fr ts := by
  intro h
  unfold badS at hb
  simp only [Bool.or_eq_true, Bool.not_eq_true', decide_eq_false_iff_not, bne_iff_ne, ne_eq, Bool.and_eq_true, decide_eq_true_eq] at hb
  rcases hb with (hb | hb) | ⟨h0, hb⟩
  · exact hb (h.right t (List.mem_of_getElem? ht))
  · exact hb (h.depth t (List.mem_of_getElem? ht) z (List.mem_of_getElem? hz))
  · have := fr_lt h (by omega : k - 1 < k) hp ht
    omega
theorem fr_next {k : Nat} (hz : ts[0]? = some z) (hp : ts[k - 1]? = some p) (ht : ts[k]? = some t) (hb : badS k t z p = false) (hf : Fr (ts.take k)) (hno : ∀ (j : Nat) (x : St), j < k → ts[j]? = some x → ¬ x.L t ∧ ¬ t.L x) : Fr (ts.take (k + 1)) := by
  have e : ts.take (k + 1) = ts.take k ++ [t] := by rw [List.take_add_one, ht]; rfl
  rw [e]
  unfold badS at hb
  simp only [Bool.or_eq_false_iff, Bool.not_eq_false', decide_eq_true_eq, bne_eq_false_iff_eq, Bool.and_eq_false_iff, decide_eq_false_iff_not] at hb
  obtain ⟨⟨h1, h2⟩, h3⟩ := hb
  refine fr_snoc hf h1 (fun x hx => ?_) (fun x hx => ?_) (fun x hx => ?_)
  · obtain ⟨j, hj, hjx⟩ := mem_take_at hx
    have hz' : z ∈ ts.take k := List.mem_of_getElem? (i := 0) (by rw [List.getElem?_take, if_pos (by omega)]; exact hz)
    rw [hf.depth x hx z hz', h2]
  · obtain ⟨j, hj, hjx⟩ := mem_take_at hx
    have hpt : p.C t < 0 := by rcases h3 with h3 | h3 <;> omega
    by_cases e : j = k - 1
    · subst e; rw [hp] at hjx; cases hjx; exact hpt
    · have h4 := fr_lt hf (i := j) (j := k - 1) (by omega) (by rw [List.getElem?_take, if_pos (by omega)]; exact hjx) (by rw [List.getElem?_take, if_pos (by omega)]; exact hp)
      exact St.C_lt_trans h4 hpt
  · obtain ⟨j, hj, hjx⟩ := mem_take_at hx
    exact hno j x hj hjx
theorem leq_not {j k : Nat} (hj : j < k) (hx : ts[j]? = some x) (ht : ts[k]? = some t) (h : x.L t ∨ t.L x) : ¬ Fr ts := by
  intro hf
  have h1 := fr_lt hf hj hx ht
  have h2 : x ≠ t := fun e => by subst e; have : x.C x = 0 := St.C_zero.2 rfl; omega
  rcases h with h | h
  · exact h2 (hf.anti x (List.mem_of_getElem? hx) t (List.mem_of_getElem? ht) h)
  · exact h2 (hf.anti t (List.mem_of_getElem? ht) x (List.mem_of_getElem? hx) h).symm
end
theorem right_r {t : St} {p : Bool} (h : decide t.R = p) : ∀ w, Calls Try.prog 36 #[t.val] w fun e w' => e = .returned (.bool p) ∧ Below w.heap.size w w' := by
  subst h; exact refRight_any t
set_option maxHeartbeats 16000000 in
theorem refRightRow_any (A : Option Addr) (ts : List St) (c : Nat) (w : World) (hT : Ts w A ts) (hn : ts.length ≤ 1000) (hc : ts.length ≤ c) (hm : c ≤ maxLen) :
    Calls Try.prog 52 #[.slice A ts.length c] w fun e w' => e = .returned (.bool (decide (Fr ts))) ∧ Below w.heap.size w w' := by
  have HT := Lib.hid hT; clear hT hc hm
  go_enter Try.func52, Try.ntmps52
  go_wp2_with fail
  go_loopw [3] (fun i wr => ∃ k : Nat, k ≤ ts.length ∧ i = .int .i64 k ∧ Below w.heap.size w wr ∧ Fr (ts.take k)) (fun i _ => ts.length - (intOf i).toNat)
  case atStart => exact ⟨0, by omega, rfl, Below.refl _ _, by simp; exact ⟨by simp, by simp, List.Pairwise.nil, by simp⟩⟩
  case round =>
    obtain ⟨k, hk, rfl, hb, hf⟩ := hrel
    have HB := Lib.hid hb; have HF := Lib.hid hf; clear hb hf
    by_cases hlt : k < ts.length
    · have hltz : (k : Int) < (ts.length : Int) := by omega
      have hl0 : 0 < ts.length := by omega
      obtain ⟨t, ht⟩ : ∃ t, ts[k]? = some t := ⟨_, List.getElem?_eq_getElem hlt⟩
      obtain ⟨z, hz⟩ : ∃ z, ts[0]? = some z := ⟨_, List.getElem?_eq_getElem hl0⟩
      obtain ⟨p, hp⟩ : ∃ p, ts[k - 1]? = some p := ⟨_, List.getElem?_eq_getElem (by omega)⟩
      have hT1 := HT.out.below HB.out
      obtain ⟨b, o, rfl, hbl, h0⟩ := hT1.load ht
      obtain ⟨b', o', e, _, hd⟩ := hT1.five ht
      cases e
      obtain ⟨b', o', e, _, hzz⟩ := hT1.five hz
      cases e
      obtain ⟨b', o', e, _, h1⟩ := hT1.load hp
      cases e
      have hzd := (hzz wr (Below.refl _ _)).1
      rw [Nat.zero_mul, Nat.add_zero] at hzd
      have hdd := (hd wr (Below.refl _ _)).1
      have HT0 := Lib.hid (And.intro ht (And.intro hz hp)); have H0 := Lib.hid h0; have H1 := Lib.hid h1; have HD := Lib.hid (And.intro hbl (And.intro hdd hzd))
      clear ht hz hp h0 h1 hbl hd hzz hzd hdd hT1
      go_wp2_with fail
      go_cut [45] from 11 to 45 (fun s wx => s = .bool (badS k t z p) ∧ Below wr.heap.size wr wx)
      case first =>
        by_cases hR : t.R
        · have HR := Lib.hid (right_r (decide_eq_true hR))
          by_cases hd : t.d = z.d
          · have e1 : (t.d != z.d) = false := by rw [hd]; simp
            have HE1 := Lib.hid e1
            by_cases h0 : 0 < k
            · obtain ⟨m, rfl⟩ : ∃ m, k = m + 1 := ⟨k - 1, by omega⟩
              generalize hq : m + 1 = q at *
              have hmq : q - 1 = m := by omega
              rw [hmq] at H1
              have hml : m < ts.length := by omega
              have g1 : decide ((q : Int) > 0) = true := decide_eq_true (by omega)
              have HG := Lib.hid g1
              have hC := fun w => refCompare_any p t w
              have HQ := Lib.hid hq
              cases hv : decide (0 ≤ p.C t) with
              | true =>
                have hbd : badS q t z p = true := by unfold badS; rw [decide_eq_true hR, e1, decide_eq_true h0, hv]; rfl
                have HBD := Lib.hid hbd
                generalize p.C t = cc at *
                have HC := Lib.hid hC; have HV := Lib.hid hv
                clear hbd hC hv hR hd e1 h0 g1 hq hmq
                unfold St.val at *
                refine wp_region_below (by kernel_rfl) (by kernel_rfl) ?_
                refine wpQuiet_step (fun K hK => ?_); go_simp; (first | (with_reducible refine hK _ ?_) | (with_reducible refine ⟨_, fun _ _ => rfl, hK _ ?_⟩)); clear hK K
                refine wpQuiet_step (fun K hK => ?_); go_simp; (first | (with_reducible refine hK _ ?_) | (with_reducible refine ⟨_, fun _ _ => rfl, hK _ ?_⟩)); clear hK K
                refine wpQuiet_step (fun K hK => ?_); go_simp; (first | (with_reducible refine hK _ ?_) | (with_reducible refine ⟨_, fun _ _ => rfl, hK _ ?_⟩)); clear hK K
                refine wpQuiet_step (fun K hK => ?_); refine q_load (p := .pointer (some ⟨b, o + q * 5, none⟩)) 25 _ rfl rfl rfl (H0.out) ?_; go_simp; (with_reducible refine hK _ ?_); clear hK K
                refine wpQuiet_step (fun K hK => ?_); go_simp; (with_reducible refine ⟨_, fun _ hb => (HR.out _).mono fun _ _ h => ⟨h.1, hb.trans (h.2.mono (by simpa using hb.size))⟩, hK _ ?_⟩); clear hK K
                refine wpQuiet_step (fun K hK => ?_); go_simp; (first | (with_reducible refine hK _ ?_) | (with_reducible refine ⟨_, fun _ _ => rfl, hK _ ?_⟩)); clear hK K
                refine wpQuiet_step (fun K hK => ?_); go_simp; (first | (with_reducible refine hK _ ?_) | (with_reducible refine ⟨_, fun _ _ => rfl, hK _ ?_⟩)); clear hK K
                refine wpQuiet_step (fun K hK => ?_); go_simp; (first | (with_reducible refine hK _ ?_) | (with_reducible refine ⟨_, fun _ _ => rfl, hK _ ?_⟩)); clear hK K
                refine wpQuiet_step (fun K hK => ?_); go_simp; (first | (with_reducible refine hK _ ?_) | (with_reducible refine ⟨_, fun _ _ => rfl, hK _ ?_⟩)); clear hK K
                refine wpQuiet_step (fun K hK => ?_); go_simp; (first | (with_reducible refine hK _ ?_) | (with_reducible refine ⟨_, fun _ _ => rfl, hK _ ?_⟩)); clear hK K
                refine wpQuiet_step (fun K hK => ?_); go_simp; (first | (with_reducible refine hK _ ?_) | (with_reducible refine ⟨_, fun _ _ => rfl, hK _ ?_⟩)); clear hK K
                refine wpQuiet_step (fun K hK => ?_); refine q_load (p := .pointer (some ⟨b, o + q * 5, none⟩)) 3 _ rfl rfl rfl (load_at HD.out.1 HD.out.2.1) ?_; go_simp; (with_reducible refine hK _ ?_); clear hK K
                refine wpQuiet_step (fun K hK => ?_); go_simp; (first | (with_reducible refine hK _ ?_) | (with_reducible refine ⟨_, fun _ _ => rfl, hK _ ?_⟩)); clear hK K
                refine wpQuiet_step (fun K hK => ?_); go_simp; (first | (with_reducible refine hK _ ?_) | (with_reducible refine ⟨_, fun _ _ => rfl, hK _ ?_⟩)); clear hK K
                refine wpQuiet_step (fun K hK => ?_); go_simp; (first | (with_reducible refine hK _ ?_) | (with_reducible refine ⟨_, fun _ _ => rfl, hK _ ?_⟩)); clear hK K
                refine wpQuiet_step (fun K hK => ?_); refine q_load (p := .pointer (some ⟨b, o, none⟩)) 3 _ rfl rfl rfl (load_at HD.out.1 HD.out.2.2) ?_; go_simp; (with_reducible refine hK _ ?_); clear hK K
                refine wpQuiet_step (fun K hK => ?_); refine q_bin _ _ _ _ _ rfl rfl rfl rfl (nei_is HE1.out) ?_; go_simp; (with_reducible refine hK _ ?_); clear hK K
                refine wpQuiet_step (fun K hK => ?_); go_simp; (first | (with_reducible refine hK _ ?_) | (with_reducible refine ⟨_, fun _ _ => rfl, hK _ ?_⟩)); clear hK K
                refine wpQuiet_step (fun K hK => ?_); go_simp; (first | (with_reducible refine hK _ ?_) | (with_reducible refine ⟨_, fun _ _ => rfl, hK _ ?_⟩)); clear hK K
                refine wpQuiet_step (fun K hK => ?_); go_simp; (first | (with_reducible refine hK _ ?_) | (with_reducible refine ⟨_, fun _ _ => rfl, hK _ ?_⟩)); clear hK K
                refine wpQuiet_step (fun K hK => ?_); refine q_bin _ _ _ _ _ rfl rfl rfl rfl (gti_is HG.out) ?_; go_simp; (with_reducible refine hK _ ?_); clear hK K
                refine wpQuiet_step (fun K hK => ?_); go_simp; (first | (with_reducible refine hK _ ?_) | (with_reducible refine ⟨_, fun _ _ => rfl, hK _ ?_⟩)); clear hK K
                refine wpQuiet_step (fun K hK => ?_); go_simp; (first | (with_reducible refine hK _ ?_) | (with_reducible refine ⟨_, fun _ _ => rfl, hK _ ?_⟩)); clear hK K
                refine wpQuiet_step (fun K hK => ?_); go_simp; (first | (with_reducible refine hK _ ?_) | (with_reducible refine ⟨_, fun _ _ => rfl, hK _ ?_⟩)); clear hK K
                refine wpQuiet_step (fun K hK => ?_); refine q_bin _ _ _ _ _ rfl rfl rfl rfl (sub_is (k := (m : Nat)) (by have := HQ.out; omega) (by omega) (by have := HQ.out; omega)) ?_; go_simp; (with_reducible refine hK _ ?_); clear hK K
                refine wpQuiet_step (fun K hK => ?_); go_simp; (first | (with_reducible refine hK _ ?_) | (with_reducible refine ⟨_, fun _ _ => rfl, hK _ ?_⟩)); clear hK K
                refine wpQuiet_step (fun K hK => ?_); refine q_load (p := .pointer (some ⟨b, o + m * 5, none⟩)) 25 _ rfl rfl rfl (H1.out) ?_; go_simp; (with_reducible refine hK _ ?_); clear hK K
                refine wpQuiet_step (fun K hK => ?_); go_simp; (first | (with_reducible refine hK _ ?_) | (with_reducible refine ⟨_, fun _ _ => rfl, hK _ ?_⟩)); clear hK K
                refine wpQuiet_step (fun K hK => ?_); go_simp; (first | (with_reducible refine hK _ ?_) | (with_reducible refine ⟨_, fun _ _ => rfl, hK _ ?_⟩)); clear hK K
                refine wpQuiet_step (fun K hK => ?_); go_simp; (first | (with_reducible refine hK _ ?_) | (with_reducible refine ⟨_, fun _ _ => rfl, hK _ ?_⟩)); clear hK K
                refine wpQuiet_step (fun K hK => ?_); refine q_load (p := .pointer (some ⟨b, o + q * 5, none⟩)) 25 _ rfl rfl rfl (H0.out) ?_; go_simp; (with_reducible refine hK _ ?_); clear hK K
                refine wpQuiet_step (fun K hK => ?_); go_simp; (with_reducible refine ⟨_, fun _ hb => (HC.out _).mono fun _ _ h => ⟨h.1, hb.trans (h.2.mono (by simpa using hb.size))⟩, hK _ ?_⟩); clear hK K
                refine wpQuiet_step (fun K hK => ?_); refine q_bin _ _ _ _ _ rfl rfl rfl rfl (gei_is HV.out) ?_; go_simp; (with_reducible refine hK _ ?_); clear hK K
                refine wpQuiet_step (fun K hK => ?_); go_simp; (first | (with_reducible refine hK _ ?_) | (with_reducible refine ⟨_, fun _ _ => rfl, hK _ ?_⟩)); clear hK K
                refine wpQuiet_step (fun K hK => ?_); go_simp; (first | (with_reducible refine hK _ ?_) | (with_reducible refine ⟨_, fun _ _ => rfl, hK _ ?_⟩)); clear hK K
                refine wpQuiet_nil ?_
                intro wz hbel
                go_wp2_with fail
                go_meet
                exact ⟨by rw [HBD.out], hbel⟩
              | false =>
                have hbd : badS q t z p = false := by unfold badS; rw [decide_eq_true hR, e1, decide_eq_true h0, hv]; rfl
                have HBD := Lib.hid hbd
                generalize p.C t = cc at *
                have HC := Lib.hid hC; have HV := Lib.hid hv
                clear hbd hC hv hR hd e1 h0 g1 hq hmq
                unfold St.val at *
                refine wp_region_below (by kernel_rfl) (by kernel_rfl) ?_
                refine wpQuiet_step (fun K hK => ?_); go_simp; (first | (with_reducible refine hK _ ?_) | (with_reducible refine ⟨_, fun _ _ => rfl, hK _ ?_⟩)); clear hK K
                refine wpQuiet_step (fun K hK => ?_); go_simp; (first | (with_reducible refine hK _ ?_) | (with_reducible refine ⟨_, fun _ _ => rfl, hK _ ?_⟩)); clear hK K
                refine wpQuiet_step (fun K hK => ?_); go_simp; (first | (with_reducible refine hK _ ?_) | (with_reducible refine ⟨_, fun _ _ => rfl, hK _ ?_⟩)); clear hK K
                refine wpQuiet_step (fun K hK => ?_); refine q_load (p := .pointer (some ⟨b, o + q * 5, none⟩)) 25 _ rfl rfl rfl (H0.out) ?_; go_simp; (with_reducible refine hK _ ?_); clear hK K
                refine wpQuiet_step (fun K hK => ?_); go_simp; (with_reducible refine ⟨_, fun _ hb => (HR.out _).mono fun _ _ h => ⟨h.1, hb.trans (h.2.mono (by simpa using hb.size))⟩, hK _ ?_⟩); clear hK K
                refine wpQuiet_step (fun K hK => ?_); go_simp; (first | (with_reducible refine hK _ ?_) | (with_reducible refine ⟨_, fun _ _ => rfl, hK _ ?_⟩)); clear hK K
                refine wpQuiet_step (fun K hK => ?_); go_simp; (first | (with_reducible refine hK _ ?_) | (with_reducible refine ⟨_, fun _ _ => rfl, hK _ ?_⟩)); clear hK K
                refine wpQuiet_step (fun K hK => ?_); go_simp; (first | (with_reducible refine hK _ ?_) | (with_reducible refine ⟨_, fun _ _ => rfl, hK _ ?_⟩)); clear hK K
                refine wpQuiet_step (fun K hK => ?_); go_simp; (first | (with_reducible refine hK _ ?_) | (with_reducible refine ⟨_, fun _ _ => rfl, hK _ ?_⟩)); clear hK K
                refine wpQuiet_step (fun K hK => ?_); go_simp; (first | (with_reducible refine hK _ ?_) | (with_reducible refine ⟨_, fun _ _ => rfl, hK _ ?_⟩)); clear hK K
                refine wpQuiet_step (fun K hK => ?_); go_simp; (first | (with_reducible refine hK _ ?_) | (with_reducible refine ⟨_, fun _ _ => rfl, hK _ ?_⟩)); clear hK K
                refine wpQuiet_step (fun K hK => ?_); refine q_load (p := .pointer (some ⟨b, o + q * 5, none⟩)) 3 _ rfl rfl rfl (load_at HD.out.1 HD.out.2.1) ?_; go_simp; (with_reducible refine hK _ ?_); clear hK K
                refine wpQuiet_step (fun K hK => ?_); go_simp; (first | (with_reducible refine hK _ ?_) | (with_reducible refine ⟨_, fun _ _ => rfl, hK _ ?_⟩)); clear hK K
                refine wpQuiet_step (fun K hK => ?_); go_simp; (first | (with_reducible refine hK _ ?_) | (with_reducible refine ⟨_, fun _ _ => rfl, hK _ ?_⟩)); clear hK K
                refine wpQuiet_step (fun K hK => ?_); go_simp; (first | (with_reducible refine hK _ ?_) | (with_reducible refine ⟨_, fun _ _ => rfl, hK _ ?_⟩)); clear hK K
                refine wpQuiet_step (fun K hK => ?_); refine q_load (p := .pointer (some ⟨b, o, none⟩)) 3 _ rfl rfl rfl (load_at HD.out.1 HD.out.2.2) ?_; go_simp; (with_reducible refine hK _ ?_); clear hK K
                refine wpQuiet_step (fun K hK => ?_); refine q_bin _ _ _ _ _ rfl rfl rfl rfl (nei_is HE1.out) ?_; go_simp; (with_reducible refine hK _ ?_); clear hK K
                refine wpQuiet_step (fun K hK => ?_); go_simp; (first | (with_reducible refine hK _ ?_) | (with_reducible refine ⟨_, fun _ _ => rfl, hK _ ?_⟩)); clear hK K
                refine wpQuiet_step (fun K hK => ?_); go_simp; (first | (with_reducible refine hK _ ?_) | (with_reducible refine ⟨_, fun _ _ => rfl, hK _ ?_⟩)); clear hK K
                refine wpQuiet_step (fun K hK => ?_); go_simp; (first | (with_reducible refine hK _ ?_) | (with_reducible refine ⟨_, fun _ _ => rfl, hK _ ?_⟩)); clear hK K
                refine wpQuiet_step (fun K hK => ?_); refine q_bin _ _ _ _ _ rfl rfl rfl rfl (gti_is HG.out) ?_; go_simp; (with_reducible refine hK _ ?_); clear hK K
                refine wpQuiet_step (fun K hK => ?_); go_simp; (first | (with_reducible refine hK _ ?_) | (with_reducible refine ⟨_, fun _ _ => rfl, hK _ ?_⟩)); clear hK K
                refine wpQuiet_step (fun K hK => ?_); go_simp; (first | (with_reducible refine hK _ ?_) | (with_reducible refine ⟨_, fun _ _ => rfl, hK _ ?_⟩)); clear hK K
                refine wpQuiet_step (fun K hK => ?_); go_simp; (first | (with_reducible refine hK _ ?_) | (with_reducible refine ⟨_, fun _ _ => rfl, hK _ ?_⟩)); clear hK K
                refine wpQuiet_step (fun K hK => ?_); refine q_bin _ _ _ _ _ rfl rfl rfl rfl (sub_is (k := (m : Nat)) (by have := HQ.out; omega) (by omega) (by have := HQ.out; omega)) ?_; go_simp; (with_reducible refine hK _ ?_); clear hK K
                refine wpQuiet_step (fun K hK => ?_); go_simp; (first | (with_reducible refine hK _ ?_) | (with_reducible refine ⟨_, fun _ _ => rfl, hK _ ?_⟩)); clear hK K
                refine wpQuiet_step (fun K hK => ?_); refine q_load (p := .pointer (some ⟨b, o + m * 5, none⟩)) 25 _ rfl rfl rfl (H1.out) ?_; go_simp; (with_reducible refine hK _ ?_); clear hK K
                refine wpQuiet_step (fun K hK => ?_); go_simp; (first | (with_reducible refine hK _ ?_) | (with_reducible refine ⟨_, fun _ _ => rfl, hK _ ?_⟩)); clear hK K
                refine wpQuiet_step (fun K hK => ?_); go_simp; (first | (with_reducible refine hK _ ?_) | (with_reducible refine ⟨_, fun _ _ => rfl, hK _ ?_⟩)); clear hK K
                refine wpQuiet_step (fun K hK => ?_); go_simp; (first | (with_reducible refine hK _ ?_) | (with_reducible refine ⟨_, fun _ _ => rfl, hK _ ?_⟩)); clear hK K
                refine wpQuiet_step (fun K hK => ?_); refine q_load (p := .pointer (some ⟨b, o + q * 5, none⟩)) 25 _ rfl rfl rfl (H0.out) ?_; go_simp; (with_reducible refine hK _ ?_); clear hK K
                refine wpQuiet_step (fun K hK => ?_); go_simp; (with_reducible refine ⟨_, fun _ hb => (HC.out _).mono fun _ _ h => ⟨h.1, hb.trans (h.2.mono (by simpa using hb.size))⟩, hK _ ?_⟩); clear hK K
                refine wpQuiet_step (fun K hK => ?_); refine q_bin _ _ _ _ _ rfl rfl rfl rfl (gei_is HV.out) ?_; go_simp; (with_reducible refine hK _ ?_); clear hK K
                refine wpQuiet_step (fun K hK => ?_); go_simp; (first | (with_reducible refine hK _ ?_) | (with_reducible refine ⟨_, fun _ _ => rfl, hK _ ?_⟩)); clear hK K
                refine wpQuiet_step (fun K hK => ?_); go_simp; (first | (with_reducible refine hK _ ?_) | (with_reducible refine ⟨_, fun _ _ => rfl, hK _ ?_⟩)); clear hK K
                refine wpQuiet_nil ?_
                intro wz hbel
                go_wp2_with fail
                go_meet
                exact ⟨by rw [HBD.out], hbel⟩
            · have hk0 : k = 0 := by omega
              subst hk0
              have hbd : badS 0 t z p = false := by unfold badS; rw [decide_eq_true hR, e1]; rfl
              have g1 : decide (((0 : Nat) : Int) > 0) = false := rfl
              have HG := Lib.hid g1
              have HBD := Lib.hid hbd
              have hzero : o + 0 * 5 = o := by omega
              rw [hzero] at H0 HD
              clear hbd hR hd e1 h0 g1 hzero
              unfold St.val at *
              refine wp_region_below (by kernel_rfl) (by kernel_rfl) ?_
              refine wpQuiet_step (fun K hK => ?_); go_simp; (first | (with_reducible refine hK _ ?_) | (with_reducible refine ⟨_, fun _ _ => rfl, hK _ ?_⟩)); clear hK K
              refine wpQuiet_step (fun K hK => ?_); go_simp; (first | (with_reducible refine hK _ ?_) | (with_reducible refine ⟨_, fun _ _ => rfl, hK _ ?_⟩)); clear hK K
              refine wpQuiet_step (fun K hK => ?_); go_simp; (first | (with_reducible refine hK _ ?_) | (with_reducible refine ⟨_, fun _ _ => rfl, hK _ ?_⟩)); clear hK K
              refine wpQuiet_step (fun K hK => ?_); refine q_load (p := .pointer (some ⟨b, o, none⟩)) 25 _ rfl rfl rfl (H0.out) ?_; go_simp; (with_reducible refine hK _ ?_); clear hK K
              refine wpQuiet_step (fun K hK => ?_); go_simp; (with_reducible refine ⟨_, fun _ hb => (HR.out _).mono fun _ _ h => ⟨h.1, hb.trans (h.2.mono (by simpa using hb.size))⟩, hK _ ?_⟩); clear hK K
              refine wpQuiet_step (fun K hK => ?_); go_simp; (first | (with_reducible refine hK _ ?_) | (with_reducible refine ⟨_, fun _ _ => rfl, hK _ ?_⟩)); clear hK K
              refine wpQuiet_step (fun K hK => ?_); go_simp; (first | (with_reducible refine hK _ ?_) | (with_reducible refine ⟨_, fun _ _ => rfl, hK _ ?_⟩)); clear hK K
              refine wpQuiet_step (fun K hK => ?_); go_simp; (first | (with_reducible refine hK _ ?_) | (with_reducible refine ⟨_, fun _ _ => rfl, hK _ ?_⟩)); clear hK K
              refine wpQuiet_step (fun K hK => ?_); go_simp; (first | (with_reducible refine hK _ ?_) | (with_reducible refine ⟨_, fun _ _ => rfl, hK _ ?_⟩)); clear hK K
              refine wpQuiet_step (fun K hK => ?_); go_simp; (first | (with_reducible refine hK _ ?_) | (with_reducible refine ⟨_, fun _ _ => rfl, hK _ ?_⟩)); clear hK K
              refine wpQuiet_step (fun K hK => ?_); go_simp; (first | (with_reducible refine hK _ ?_) | (with_reducible refine ⟨_, fun _ _ => rfl, hK _ ?_⟩)); clear hK K
              refine wpQuiet_step (fun K hK => ?_); refine q_load (p := .pointer (some ⟨b, o, none⟩)) 3 _ rfl rfl rfl (load_at HD.out.1 HD.out.2.1) ?_; go_simp; (with_reducible refine hK _ ?_); clear hK K
              refine wpQuiet_step (fun K hK => ?_); go_simp; (first | (with_reducible refine hK _ ?_) | (with_reducible refine ⟨_, fun _ _ => rfl, hK _ ?_⟩)); clear hK K
              refine wpQuiet_step (fun K hK => ?_); go_simp; (first | (with_reducible refine hK _ ?_) | (with_reducible refine ⟨_, fun _ _ => rfl, hK _ ?_⟩)); clear hK K
              refine wpQuiet_step (fun K hK => ?_); go_simp; (first | (with_reducible refine hK _ ?_) | (with_reducible refine ⟨_, fun _ _ => rfl, hK _ ?_⟩)); clear hK K
              refine wpQuiet_step (fun K hK => ?_); refine q_load (p := .pointer (some ⟨b, o, none⟩)) 3 _ rfl rfl rfl (load_at HD.out.1 HD.out.2.2) ?_; go_simp; (with_reducible refine hK _ ?_); clear hK K
              refine wpQuiet_step (fun K hK => ?_); refine q_bin _ _ _ _ _ rfl rfl rfl rfl (nei_is HE1.out) ?_; go_simp; (with_reducible refine hK _ ?_); clear hK K
              refine wpQuiet_step (fun K hK => ?_); go_simp; (first | (with_reducible refine hK _ ?_) | (with_reducible refine ⟨_, fun _ _ => rfl, hK _ ?_⟩)); clear hK K
              refine wpQuiet_step (fun K hK => ?_); go_simp; (first | (with_reducible refine hK _ ?_) | (with_reducible refine ⟨_, fun _ _ => rfl, hK _ ?_⟩)); clear hK K
              refine wpQuiet_step (fun K hK => ?_); go_simp; (first | (with_reducible refine hK _ ?_) | (with_reducible refine ⟨_, fun _ _ => rfl, hK _ ?_⟩)); clear hK K
              refine wpQuiet_step (fun K hK => ?_); refine q_bin _ _ _ _ _ rfl rfl rfl rfl (gti_is HG.out) ?_; go_simp; (with_reducible refine hK _ ?_); clear hK K
              refine wpQuiet_step (fun K hK => ?_); go_simp; (try (with_reducible refine ⟨_, fun _ _ => rfl, ?_⟩)); generalize hA : ({ tmps := _, defers := _ } : Act) = A; (with_reducible refine hK A ?_); clear hK K
              refine wpQuiet_step (fun K hK => ?_); subst hA; go_simp; (try (with_reducible refine ⟨_, fun _ _ => rfl, ?_⟩)); generalize hA : ({ tmps := _, defers := _ } : Act) = A; (with_reducible refine hK A ?_); clear hK K
              refine wpQuiet_step (fun K hK => ?_); subst hA; go_simp; (try (with_reducible refine ⟨_, fun _ _ => rfl, ?_⟩)); generalize hA : ({ tmps := _, defers := _ } : Act) = A; (with_reducible refine hK A ?_); clear hK K
              refine wpQuiet_step (fun K hK => ?_); subst hA; go_simp; (try (with_reducible refine ⟨_, fun _ _ => rfl, ?_⟩)); generalize hA : ({ tmps := _, defers := _ } : Act) = A; (with_reducible refine hK A ?_); clear hK K
              refine wpQuiet_step (fun K hK => ?_); subst hA; go_simp; (try (with_reducible refine ⟨_, fun _ _ => rfl, ?_⟩)); generalize hA : ({ tmps := _, defers := _ } : Act) = A; (with_reducible refine hK A ?_); clear hK K
              refine wpQuiet_step (fun K hK => ?_); subst hA; go_simp; (try (with_reducible refine ⟨_, fun _ _ => rfl, ?_⟩)); generalize hA : ({ tmps := _, defers := _ } : Act) = A; (with_reducible refine hK A ?_); clear hK K
              refine wpQuiet_step (fun K hK => ?_); subst hA; go_simp; (try (with_reducible refine ⟨_, fun _ _ => rfl, ?_⟩)); generalize hA : ({ tmps := _, defers := _ } : Act) = A; (with_reducible refine hK A ?_); clear hK K
              refine wpQuiet_step (fun K hK => ?_); subst hA; go_simp; (try (with_reducible refine ⟨_, fun _ _ => rfl, ?_⟩)); generalize hA : ({ tmps := _, defers := _ } : Act) = A; (with_reducible refine hK A ?_); clear hK K
              refine wpQuiet_step (fun K hK => ?_); subst hA; go_simp; (try (with_reducible refine ⟨_, fun _ _ => rfl, ?_⟩)); generalize hA : ({ tmps := _, defers := _ } : Act) = A; (with_reducible refine hK A ?_); clear hK K
              refine wpQuiet_step (fun K hK => ?_); subst hA; go_simp; (try (with_reducible refine ⟨_, fun _ _ => rfl, ?_⟩)); generalize hA : ({ tmps := _, defers := _ } : Act) = A; (with_reducible refine hK A ?_); clear hK K
              refine wpQuiet_step (fun K hK => ?_); subst hA; go_simp; (try (with_reducible refine ⟨_, fun _ _ => rfl, ?_⟩)); generalize hA : ({ tmps := _, defers := _ } : Act) = A; (with_reducible refine hK A ?_); clear hK K
              refine wpQuiet_step (fun K hK => ?_); subst hA; go_simp; (try (with_reducible refine ⟨_, fun _ _ => rfl, ?_⟩)); generalize hA : ({ tmps := _, defers := _ } : Act) = A; (with_reducible refine hK A ?_); clear hK K
              refine wpQuiet_step (fun K hK => ?_); subst hA; go_simp; (first | (with_reducible refine hK _ ?_) | (with_reducible refine ⟨_, fun _ _ => rfl, hK _ ?_⟩)); clear hK K
              refine wpQuiet_step (fun K hK => ?_); go_simp; (first | (with_reducible refine hK _ ?_) | (with_reducible refine ⟨_, fun _ _ => rfl, hK _ ?_⟩)); clear hK K
              refine wpQuiet_nil ?_
              intro wz hbel
              go_wp2_with fail
              go_meet
              exact ⟨by rw [HBD.out], hbel⟩
          · have e1 : (t.d != z.d) = true := by simpa using hd
            have HE1 := Lib.hid e1
            have hbd : badS k t z p = true := by unfold badS; rw [decide_eq_true hR, e1]; rfl
            have HBD := Lib.hid hbd
            clear hbd hR hd e1
            unfold St.val at *
            refine wp_region_below (by kernel_rfl) (by kernel_rfl) ?_
            refine wpQuiet_step (fun K hK => ?_); go_simp; (first | (with_reducible refine hK _ ?_) | (with_reducible refine ⟨_, fun _ _ => rfl, hK _ ?_⟩)); clear hK K
            refine wpQuiet_step (fun K hK => ?_); go_simp; (first | (with_reducible refine hK _ ?_) | (with_reducible refine ⟨_, fun _ _ => rfl, hK _ ?_⟩)); clear hK K
            refine wpQuiet_step (fun K hK => ?_); go_simp; (first | (with_reducible refine hK _ ?_) | (with_reducible refine ⟨_, fun _ _ => rfl, hK _ ?_⟩)); clear hK K
            refine wpQuiet_step (fun K hK => ?_); refine q_load (p := .pointer (some ⟨b, o + k * 5, none⟩)) 25 _ rfl rfl rfl (H0.out) ?_; go_simp; (with_reducible refine hK _ ?_); clear hK K
            refine wpQuiet_step (fun K hK => ?_); go_simp; (with_reducible refine ⟨_, fun _ hb => (HR.out _).mono fun _ _ h => ⟨h.1, hb.trans (h.2.mono (by simpa using hb.size))⟩, hK _ ?_⟩); clear hK K
            refine wpQuiet_step (fun K hK => ?_); go_simp; (first | (with_reducible refine hK _ ?_) | (with_reducible refine ⟨_, fun _ _ => rfl, hK _ ?_⟩)); clear hK K
            refine wpQuiet_step (fun K hK => ?_); go_simp; (first | (with_reducible refine hK _ ?_) | (with_reducible refine ⟨_, fun _ _ => rfl, hK _ ?_⟩)); clear hK K
            refine wpQuiet_step (fun K hK => ?_); go_simp; (first | (with_reducible refine hK _ ?_) | (with_reducible refine ⟨_, fun _ _ => rfl, hK _ ?_⟩)); clear hK K
            refine wpQuiet_step (fun K hK => ?_); go_simp; (first | (with_reducible refine hK _ ?_) | (with_reducible refine ⟨_, fun _ _ => rfl, hK _ ?_⟩)); clear hK K
            refine wpQuiet_step (fun K hK => ?_); go_simp; (first | (with_reducible refine hK _ ?_) | (with_reducible refine ⟨_, fun _ _ => rfl, hK _ ?_⟩)); clear hK K
            refine wpQuiet_step (fun K hK => ?_); go_simp; (first | (with_reducible refine hK _ ?_) | (with_reducible refine ⟨_, fun _ _ => rfl, hK _ ?_⟩)); clear hK K
            refine wpQuiet_step (fun K hK => ?_); refine q_load (p := .pointer (some ⟨b, o + k * 5, none⟩)) 3 _ rfl rfl rfl (load_at HD.out.1 HD.out.2.1) ?_; go_simp; (with_reducible refine hK _ ?_); clear hK K
            refine wpQuiet_step (fun K hK => ?_); go_simp; (first | (with_reducible refine hK _ ?_) | (with_reducible refine ⟨_, fun _ _ => rfl, hK _ ?_⟩)); clear hK K
            refine wpQuiet_step (fun K hK => ?_); go_simp; (first | (with_reducible refine hK _ ?_) | (with_reducible refine ⟨_, fun _ _ => rfl, hK _ ?_⟩)); clear hK K
            refine wpQuiet_step (fun K hK => ?_); go_simp; (first | (with_reducible refine hK _ ?_) | (with_reducible refine ⟨_, fun _ _ => rfl, hK _ ?_⟩)); clear hK K
            refine wpQuiet_step (fun K hK => ?_); refine q_load (p := .pointer (some ⟨b, o, none⟩)) 3 _ rfl rfl rfl (load_at HD.out.1 HD.out.2.2) ?_; go_simp; (with_reducible refine hK _ ?_); clear hK K
            refine wpQuiet_step (fun K hK => ?_); refine q_bin _ _ _ _ _ rfl rfl rfl rfl (nei_is HE1.out) ?_; go_simp; (with_reducible refine hK _ ?_); clear hK K
            refine wpQuiet_step (fun K hK => ?_); go_simp; (first | (with_reducible refine hK _ ?_) | (with_reducible refine ⟨_, fun _ _ => rfl, hK _ ?_⟩)); clear hK K
            refine wpQuiet_step (fun K hK => ?_); go_simp; (try (with_reducible refine ⟨_, fun _ _ => rfl, ?_⟩)); generalize hA : ({ tmps := _, defers := _ } : Act) = A; (with_reducible refine hK A ?_); clear hK K
            refine wpQuiet_step (fun K hK => ?_); subst hA; go_simp; (try (with_reducible refine ⟨_, fun _ _ => rfl, ?_⟩)); generalize hA : ({ tmps := _, defers := _ } : Act) = A; (with_reducible refine hK A ?_); clear hK K
            refine wpQuiet_step (fun K hK => ?_); subst hA; go_simp; (try (with_reducible refine ⟨_, fun _ _ => rfl, ?_⟩)); generalize hA : ({ tmps := _, defers := _ } : Act) = A; (with_reducible refine hK A ?_); clear hK K
            refine wpQuiet_step (fun K hK => ?_); subst hA; go_simp; (try (with_reducible refine ⟨_, fun _ _ => rfl, ?_⟩)); generalize hA : ({ tmps := _, defers := _ } : Act) = A; (with_reducible refine hK A ?_); clear hK K
            refine wpQuiet_step (fun K hK => ?_); subst hA; go_simp; generalize hA : ({ tmps := _, defers := _ } : Act) = A; rw [if_neg (by simp [undef])]; (with_reducible refine hK A ?_); clear hK K
            refine wpQuiet_step (fun K hK => ?_); subst hA; go_simp; generalize hA : ({ tmps := _, defers := _ } : Act) = A; rw [if_neg (by simp [undef])]; (with_reducible refine hK A ?_); clear hK K
            refine wpQuiet_step (fun K hK => ?_); subst hA; go_simp; generalize hA : ({ tmps := _, defers := _ } : Act) = A; rw [if_neg (by simp [undef])]; (with_reducible refine hK A ?_); clear hK K
            refine wpQuiet_step (fun K hK => ?_); subst hA; go_simp; generalize hA : ({ tmps := _, defers := _ } : Act) = A; rw [if_neg (by simp [undef])]; (with_reducible refine hK A ?_); clear hK K
            refine wpQuiet_step (fun K hK => ?_); subst hA; go_simp; generalize hA : ({ tmps := _, defers := _ } : Act) = A; rw [if_neg (by simp [undef])]; (with_reducible refine hK A ?_); clear hK K
            refine wpQuiet_step (fun K hK => ?_); subst hA; go_simp; generalize hA : ({ tmps := _, defers := _ } : Act) = A; rw [if_neg (by simp [undef])]; (with_reducible refine hK A ?_); clear hK K
            refine wpQuiet_step (fun K hK => ?_); subst hA; go_simp; generalize hA : ({ tmps := _, defers := _ } : Act) = A; rw [if_neg (by simp [undef])]; (with_reducible refine hK A ?_); clear hK K
            refine wpQuiet_step (fun K hK => ?_); subst hA; go_simp; generalize hA : ({ tmps := _, defers := _ } : Act) = A; rw [if_neg (by simp [undef])]; (with_reducible refine hK A ?_); clear hK K
            refine wpQuiet_step (fun K hK => ?_); subst hA; go_simp; generalize hA : ({ tmps := _, defers := _ } : Act) = A; rw [if_neg (by simp [undef])]; (with_reducible refine hK A ?_); clear hK K
            refine wpQuiet_step (fun K hK => ?_); subst hA; go_simp; generalize hA : ({ tmps := _, defers := _ } : Act) = A; rw [if_neg (by simp [undef])]; (with_reducible refine hK A ?_); clear hK K
            refine wpQuiet_step (fun K hK => ?_); subst hA; go_simp; generalize hA : ({ tmps := _, defers := _ } : Act) = A; rw [if_neg (by simp [undef])]; (with_reducible refine hK A ?_); clear hK K
            refine wpQuiet_step (fun K hK => ?_); subst hA; go_simp; (try (with_reducible refine ⟨_, fun _ _ => rfl, ?_⟩)); generalize hA : ({ tmps := _, defers := _ } : Act) = A; (with_reducible refine hK A ?_); clear hK K
            refine wpQuiet_step (fun K hK => ?_); subst hA; go_simp; (first | (with_reducible refine hK _ ?_) | (with_reducible refine ⟨_, fun _ _ => rfl, hK _ ?_⟩)); clear hK K
            refine wpQuiet_nil ?_
            intro wz hbel
            go_wp2_with fail
            go_meet
            exact ⟨by rw [HBD.out], hbel⟩
        · have HR := Lib.hid (right_r (decide_eq_false hR))
          have hbd : badS k t z p = true := by unfold badS; rw [decide_eq_false hR]; rfl
          have HBD := Lib.hid hbd
          clear hbd hR
          unfold St.val at *
          refine wp_region_below (by kernel_rfl) (by kernel_rfl) ?_
          refine wpQuiet_step (fun K hK => ?_); go_simp; (first | (with_reducible refine hK _ ?_) | (with_reducible refine ⟨_, fun _ _ => rfl, hK _ ?_⟩)); clear hK K
          refine wpQuiet_step (fun K hK => ?_); go_simp; (first | (with_reducible refine hK _ ?_) | (with_reducible refine ⟨_, fun _ _ => rfl, hK _ ?_⟩)); clear hK K
          refine wpQuiet_step (fun K hK => ?_); go_simp; (first | (with_reducible refine hK _ ?_) | (with_reducible refine ⟨_, fun _ _ => rfl, hK _ ?_⟩)); clear hK K
          refine wpQuiet_step (fun K hK => ?_); refine q_load (p := .pointer (some ⟨b, o + k * 5, none⟩)) 25 _ rfl rfl rfl (H0.out) ?_; go_simp; (with_reducible refine hK _ ?_); clear hK K
          refine wpQuiet_step (fun K hK => ?_); go_simp; (with_reducible refine ⟨_, fun _ hb => (HR.out _).mono fun _ _ h => ⟨h.1, hb.trans (h.2.mono (by simpa using hb.size))⟩, hK _ ?_⟩); clear hK K
          refine wpQuiet_step (fun K hK => ?_); go_simp; (first | (with_reducible refine hK _ ?_) | (with_reducible refine ⟨_, fun _ _ => rfl, hK _ ?_⟩)); clear hK K
          refine wpQuiet_step (fun K hK => ?_); go_simp; (try (with_reducible refine ⟨_, fun _ _ => rfl, ?_⟩)); generalize hA : ({ tmps := _, defers := _ } : Act) = A; (with_reducible refine hK A ?_); clear hK K
          refine wpQuiet_step (fun K hK => ?_); subst hA; go_simp; (try (with_reducible refine ⟨_, fun _ _ => rfl, ?_⟩)); generalize hA : ({ tmps := _, defers := _ } : Act) = A; (with_reducible refine hK A ?_); clear hK K
          refine wpQuiet_step (fun K hK => ?_); subst hA; go_simp; (try (with_reducible refine ⟨_, fun _ _ => rfl, ?_⟩)); generalize hA : ({ tmps := _, defers := _ } : Act) = A; (with_reducible refine hK A ?_); clear hK K
          refine wpQuiet_step (fun K hK => ?_); subst hA; go_simp; (try (with_reducible refine ⟨_, fun _ _ => rfl, ?_⟩)); generalize hA : ({ tmps := _, defers := _ } : Act) = A; (with_reducible refine hK A ?_); clear hK K
          refine wpQuiet_step (fun K hK => ?_); subst hA; go_simp; (try (with_reducible refine ⟨_, fun _ _ => rfl, ?_⟩)); generalize hA : ({ tmps := _, defers := _ } : Act) = A; (with_reducible refine hK A ?_); clear hK K
          refine wpQuiet_step (fun K hK => ?_); subst hA; go_simp; (try (with_reducible refine ⟨_, fun _ _ => rfl, ?_⟩)); generalize hA : ({ tmps := _, defers := _ } : Act) = A; (with_reducible refine hK A ?_); clear hK K
          refine wpQuiet_step (fun K hK => ?_); subst hA; go_simp; (try (with_reducible refine ⟨_, fun _ _ => rfl, ?_⟩)); generalize hA : ({ tmps := _, defers := _ } : Act) = A; (with_reducible refine hK A ?_); clear hK K
          refine wpQuiet_step (fun K hK => ?_); subst hA; go_simp; (try (with_reducible refine ⟨_, fun _ _ => rfl, ?_⟩)); generalize hA : ({ tmps := _, defers := _ } : Act) = A; (with_reducible refine hK A ?_); clear hK K
          refine wpQuiet_step (fun K hK => ?_); subst hA; go_simp; (try (with_reducible refine ⟨_, fun _ _ => rfl, ?_⟩)); generalize hA : ({ tmps := _, defers := _ } : Act) = A; (with_reducible refine hK A ?_); clear hK K
          refine wpQuiet_step (fun K hK => ?_); subst hA; go_simp; (try (with_reducible refine ⟨_, fun _ _ => rfl, ?_⟩)); generalize hA : ({ tmps := _, defers := _ } : Act) = A; (with_reducible refine hK A ?_); clear hK K
          refine wpQuiet_step (fun K hK => ?_); subst hA; go_simp; (try (with_reducible refine ⟨_, fun _ _ => rfl, ?_⟩)); generalize hA : ({ tmps := _, defers := _ } : Act) = A; (with_reducible refine hK A ?_); clear hK K
          refine wpQuiet_step (fun K hK => ?_); subst hA; go_simp; (first | (with_reducible refine hK _ ?_) | (with_reducible refine ⟨_, fun _ _ => rfl, hK _ ?_⟩)); clear hK K
          refine wpQuiet_step (fun K hK => ?_); go_simp; (try (with_reducible refine ⟨_, fun _ _ => rfl, ?_⟩)); generalize hA : ({ tmps := _, defers := _ } : Act) = A; (with_reducible refine hK A ?_); clear hK K
          refine wpQuiet_step (fun K hK => ?_); subst hA; go_simp; (try (with_reducible refine ⟨_, fun _ _ => rfl, ?_⟩)); generalize hA : ({ tmps := _, defers := _ } : Act) = A; (with_reducible refine hK A ?_); clear hK K
          refine wpQuiet_step (fun K hK => ?_); subst hA; go_simp; (try (with_reducible refine ⟨_, fun _ _ => rfl, ?_⟩)); generalize hA : ({ tmps := _, defers := _ } : Act) = A; (with_reducible refine hK A ?_); clear hK K
          refine wpQuiet_step (fun K hK => ?_); subst hA; go_simp; (try (with_reducible refine ⟨_, fun _ _ => rfl, ?_⟩)); generalize hA : ({ tmps := _, defers := _ } : Act) = A; (with_reducible refine hK A ?_); clear hK K
          refine wpQuiet_step (fun K hK => ?_); subst hA; go_simp; generalize hA : ({ tmps := _, defers := _ } : Act) = A; rw [if_neg (by simp [undef])]; (with_reducible refine hK A ?_); clear hK K
          refine wpQuiet_step (fun K hK => ?_); subst hA; go_simp; generalize hA : ({ tmps := _, defers := _ } : Act) = A; rw [if_neg (by simp [undef])]; (with_reducible refine hK A ?_); clear hK K
          refine wpQuiet_step (fun K hK => ?_); subst hA; go_simp; generalize hA : ({ tmps := _, defers := _ } : Act) = A; rw [if_neg (by simp [undef])]; (with_reducible refine hK A ?_); clear hK K
          refine wpQuiet_step (fun K hK => ?_); subst hA; go_simp; generalize hA : ({ tmps := _, defers := _ } : Act) = A; rw [if_neg (by simp [undef])]; (with_reducible refine hK A ?_); clear hK K
          refine wpQuiet_step (fun K hK => ?_); subst hA; go_simp; generalize hA : ({ tmps := _, defers := _ } : Act) = A; rw [if_neg (by simp [undef])]; (with_reducible refine hK A ?_); clear hK K
          refine wpQuiet_step (fun K hK => ?_); subst hA; go_simp; generalize hA : ({ tmps := _, defers := _ } : Act) = A; rw [if_neg (by simp [undef])]; (with_reducible refine hK A ?_); clear hK K
          refine wpQuiet_step (fun K hK => ?_); subst hA; go_simp; generalize hA : ({ tmps := _, defers := _ } : Act) = A; rw [if_neg (by simp [undef])]; (with_reducible refine hK A ?_); clear hK K
          refine wpQuiet_step (fun K hK => ?_); subst hA; go_simp; generalize hA : ({ tmps := _, defers := _ } : Act) = A; rw [if_neg (by simp [undef])]; (with_reducible refine hK A ?_); clear hK K
          refine wpQuiet_step (fun K hK => ?_); subst hA; go_simp; generalize hA : ({ tmps := _, defers := _ } : Act) = A; rw [if_neg (by simp [undef])]; (with_reducible refine hK A ?_); clear hK K
          refine wpQuiet_step (fun K hK => ?_); subst hA; go_simp; generalize hA : ({ tmps := _, defers := _ } : Act) = A; rw [if_neg (by simp [undef])]; (with_reducible refine hK A ?_); clear hK K
          refine wpQuiet_step (fun K hK => ?_); subst hA; go_simp; generalize hA : ({ tmps := _, defers := _ } : Act) = A; rw [if_neg (by simp [undef])]; (with_reducible refine hK A ?_); clear hK K
          refine wpQuiet_step (fun K hK => ?_); subst hA; go_simp; (try (with_reducible refine ⟨_, fun _ _ => rfl, ?_⟩)); generalize hA : ({ tmps := _, defers := _ } : Act) = A; (with_reducible refine hK A ?_); clear hK K
          refine wpQuiet_step (fun K hK => ?_); subst hA; go_simp; (first | (with_reducible refine hK _ ?_) | (with_reducible refine ⟨_, fun _ _ => rfl, hK _ ?_⟩)); clear hK K
          refine wpQuiet_nil ?_
          intro wz hbel
          go_wp2_with fail
          go_meet
          exact ⟨by rw [HBD.out], hbel⟩
      case rest =>
        obtain ⟨rfl, hbel⟩ := hcut
        have HB2 := Lib.hid (HB.out.trans (hbel.mono HB.out.size))
        cases hv : badS k t z p with
        | true =>
          have HV := Lib.hid hv; clear hv hbel
          go_wp2_with fail
          go_ret
          refine ⟨ret_bool ?_, HB2.out⟩
          rw [eq_comm, decide_eq_false_iff_not]
          exact bad_not HT0.out.2.1 HT0.out.2.2 HT0.out.1 HV.out
        | false =>
          have HV := Lib.hid hv; clear hv hbel H0 H1 HD
          go_wp2_with fail
          go_loopw [4] (fun i wy => ∃ m : Nat, m ≤ k ∧ i = .int .i64 m ∧ Below w.heap.size w wy ∧ ∀ (j : Nat) (x : St), j < m → ts[j]? = some x → ¬ x.L t ∧ ¬ t.L x) (fun i _ => k - (intOf i).toNat)
          case atStart => exact ⟨0, by omega, rfl, HB2.out, fun j x h => absurd h (by omega)⟩
          case round =>
            obtain ⟨m, hmk, rfl, hb, hno⟩ := hrel
            have HB3 := Lib.hid hb; have HNO := Lib.hid hno; clear hb hno HB2 HB
            by_cases hlt2 : m < k
            · have hltm : m < ts.length := by omega
              obtain ⟨x, hx⟩ : ∃ x, ts[m]? = some x := ⟨_, List.getElem?_eq_getElem hltm⟩
              have hT1 := HT.out.below HB3.out
              obtain ⟨b', o', e, hbl, h0⟩ := hT1.load HT0.out.1
              cases e
              obtain ⟨b', o', e, _, h1⟩ := hT1.load hx
              cases e
              have hc1 := fun w => refLeq_any x t w
              have hc2 := fun w => refLeq_any t x w
              have H0 := Lib.hid h0; have H1 := Lib.hid h1; have HX := Lib.hid hx
              clear h0 h1 hx hT1 hbl
              cases hv1 : decide (x.L t) with
              | true =>
                rw [hv1] at hc1
                have HC1 := Lib.hid hc1; have HV1 := Lib.hid hv1; clear hc1 hc2 hv1
                unfold St.val at *
                go_wp2_with fail
                refine wp_region_below (by kernel_rfl) (by kernel_rfl) ?_
                refine wpQuiet_step (fun K hK => ?_); go_simp; (first | (with_reducible refine hK _ ?_) | (with_reducible refine ⟨_, fun _ _ => rfl, hK _ ?_⟩)); clear hK K
                refine wpQuiet_step (fun K hK => ?_); go_simp; (first | (with_reducible refine hK _ ?_) | (with_reducible refine ⟨_, fun _ _ => rfl, hK _ ?_⟩)); clear hK K
                refine wpQuiet_step (fun K hK => ?_); go_simp; (first | (with_reducible refine hK _ ?_) | (with_reducible refine ⟨_, fun _ _ => rfl, hK _ ?_⟩)); clear hK K
                refine wpQuiet_step (fun K hK => ?_); refine q_load (p := .pointer (some ⟨b, o + m * 5, none⟩)) 25 _ rfl rfl rfl (H1.out) ?_; go_simp; (with_reducible refine hK _ ?_); clear hK K
                refine wpQuiet_step (fun K hK => ?_); go_simp; (first | (with_reducible refine hK _ ?_) | (with_reducible refine ⟨_, fun _ _ => rfl, hK _ ?_⟩)); clear hK K
                refine wpQuiet_step (fun K hK => ?_); go_simp; (first | (with_reducible refine hK _ ?_) | (with_reducible refine ⟨_, fun _ _ => rfl, hK _ ?_⟩)); clear hK K
                refine wpQuiet_step (fun K hK => ?_); go_simp; (first | (with_reducible refine hK _ ?_) | (with_reducible refine ⟨_, fun _ _ => rfl, hK _ ?_⟩)); clear hK K
                refine wpQuiet_step (fun K hK => ?_); refine q_load (p := .pointer (some ⟨b, o + k * 5, none⟩)) 25 _ rfl rfl rfl (H0.out) ?_; go_simp; (with_reducible refine hK _ ?_); clear hK K
                refine wpQuiet_step (fun K hK => ?_); go_simp; (with_reducible refine ⟨_, fun _ hb => (HC1.out _).mono fun _ _ h => ⟨h.1, hb.trans (h.2.mono (by simpa using hb.size))⟩, hK _ ?_⟩); clear hK K
                refine wpQuiet_step (fun K hK => ?_); go_simp; (try (with_reducible refine ⟨_, fun _ _ => rfl, ?_⟩)); generalize hA : ({ tmps := _, defers := _ } : Act) = A; (with_reducible refine hK A ?_); clear hK K
                refine wpQuiet_step (fun K hK => ?_); subst hA; go_simp; (try (with_reducible refine ⟨_, fun _ _ => rfl, ?_⟩)); generalize hA : ({ tmps := _, defers := _ } : Act) = A; (with_reducible refine hK A ?_); clear hK K
                refine wpQuiet_step (fun K hK => ?_); subst hA; go_simp; (try (with_reducible refine ⟨_, fun _ _ => rfl, ?_⟩)); generalize hA : ({ tmps := _, defers := _ } : Act) = A; (with_reducible refine hK A ?_); clear hK K
                refine wpQuiet_step (fun K hK => ?_); subst hA; go_simp; (try (with_reducible refine ⟨_, fun _ _ => rfl, ?_⟩)); generalize hA : ({ tmps := _, defers := _ } : Act) = A; (with_reducible refine hK A ?_); clear hK K
                refine wpQuiet_step (fun K hK => ?_); subst hA; go_simp; (try (with_reducible refine ⟨_, fun _ _ => rfl, ?_⟩)); generalize hA : ({ tmps := _, defers := _ } : Act) = A; (with_reducible refine hK A ?_); clear hK K
                refine wpQuiet_step (fun K hK => ?_); subst hA; go_simp; (try (with_reducible refine ⟨_, fun _ _ => rfl, ?_⟩)); generalize hA : ({ tmps := _, defers := _ } : Act) = A; (with_reducible refine hK A ?_); clear hK K
                refine wpQuiet_step (fun K hK => ?_); subst hA; go_simp; (try (with_reducible refine ⟨_, fun _ _ => rfl, ?_⟩)); generalize hA : ({ tmps := _, defers := _ } : Act) = A; (with_reducible refine hK A ?_); clear hK K
                refine wpQuiet_step (fun K hK => ?_); subst hA; go_simp; (try (with_reducible refine ⟨_, fun _ _ => rfl, ?_⟩)); generalize hA : ({ tmps := _, defers := _ } : Act) = A; (with_reducible refine hK A ?_); clear hK K
                refine wpQuiet_step (fun K hK => ?_); subst hA; go_simp; (try (with_reducible refine ⟨_, fun _ _ => rfl, ?_⟩)); generalize hA : ({ tmps := _, defers := _ } : Act) = A; (with_reducible refine hK A ?_); clear hK K
                refine wpQuiet_step (fun K hK => ?_); subst hA; go_simp; (try (with_reducible refine ⟨_, fun _ _ => rfl, ?_⟩)); generalize hA : ({ tmps := _, defers := _ } : Act) = A; (with_reducible refine hK A ?_); clear hK K
                refine wpQuiet_step (fun K hK => ?_); subst hA; go_simp; (first | (with_reducible refine hK _ ?_) | (with_reducible refine ⟨_, fun _ _ => rfl, hK _ ?_⟩)); clear hK K
                refine wpQuiet_nil ?_
                intro w1 hb1
                go_wp2_with fail
                go_ret
                refine ⟨ret_bool ?_, HB3.out.trans (hb1.mono HB3.out.size)⟩
                rw [eq_comm, decide_eq_false_iff_not]
                exact leq_not hlt2 HX.out HT0.out.1 (.inl (of_decide_eq_true HV1.out))
              | false =>
                rw [hv1] at hc1
                cases hv2 : decide (t.L x) with
                | true =>
                  rw [hv2] at hc2
                  have HC1 := Lib.hid hc1; have HC2 := Lib.hid hc2; have HV2 := Lib.hid hv2; clear hc1 hc2 hv1 hv2
                  unfold St.val at *
                  go_wp2_with fail
                  refine wp_region_below (by kernel_rfl) (by kernel_rfl) ?_
                  refine wpQuiet_step (fun K hK => ?_); go_simp; (first | (with_reducible refine hK _ ?_) | (with_reducible refine ⟨_, fun _ _ => rfl, hK _ ?_⟩)); clear hK K
                  refine wpQuiet_step (fun K hK => ?_); go_simp; (first | (with_reducible refine hK _ ?_) | (with_reducible refine ⟨_, fun _ _ => rfl, hK _ ?_⟩)); clear hK K
                  refine wpQuiet_step (fun K hK => ?_); go_simp; (first | (with_reducible refine hK _ ?_) | (with_reducible refine ⟨_, fun _ _ => rfl, hK _ ?_⟩)); clear hK K
                  refine wpQuiet_step (fun K hK => ?_); refine q_load (p := .pointer (some ⟨b, o + m * 5, none⟩)) 25 _ rfl rfl rfl (H1.out) ?_; go_simp; (with_reducible refine hK _ ?_); clear hK K
                  refine wpQuiet_step (fun K hK => ?_); go_simp; (first | (with_reducible refine hK _ ?_) | (with_reducible refine ⟨_, fun _ _ => rfl, hK _ ?_⟩)); clear hK K
                  refine wpQuiet_step (fun K hK => ?_); go_simp; (first | (with_reducible refine hK _ ?_) | (with_reducible refine ⟨_, fun _ _ => rfl, hK _ ?_⟩)); clear hK K
                  refine wpQuiet_step (fun K hK => ?_); go_simp; (first | (with_reducible refine hK _ ?_) | (with_reducible refine ⟨_, fun _ _ => rfl, hK _ ?_⟩)); clear hK K
                  refine wpQuiet_step (fun K hK => ?_); refine q_load (p := .pointer (some ⟨b, o + k * 5, none⟩)) 25 _ rfl rfl rfl (H0.out) ?_; go_simp; (with_reducible refine hK _ ?_); clear hK K
                  refine wpQuiet_step (fun K hK => ?_); go_simp; (with_reducible refine ⟨_, fun _ hb => (HC1.out _).mono fun _ _ h => ⟨h.1, hb.trans (h.2.mono (by simpa using hb.size))⟩, hK _ ?_⟩); clear hK K
                  refine wpQuiet_step (fun K hK => ?_); go_simp; (first | (with_reducible refine hK _ ?_) | (with_reducible refine ⟨_, fun _ _ => rfl, hK _ ?_⟩)); clear hK K
                  refine wpQuiet_step (fun K hK => ?_); go_simp; (first | (with_reducible refine hK _ ?_) | (with_reducible refine ⟨_, fun _ _ => rfl, hK _ ?_⟩)); clear hK K
                  refine wpQuiet_step (fun K hK => ?_); go_simp; (first | (with_reducible refine hK _ ?_) | (with_reducible refine ⟨_, fun _ _ => rfl, hK _ ?_⟩)); clear hK K
                  refine wpQuiet_step (fun K hK => ?_); go_simp; (first | (with_reducible refine hK _ ?_) | (with_reducible refine ⟨_, fun _ _ => rfl, hK _ ?_⟩)); clear hK K
                  refine wpQuiet_step (fun K hK => ?_); refine q_load (p := .pointer (some ⟨b, o + k * 5, none⟩)) 25 _ rfl rfl rfl (H0.out) ?_; go_simp; (with_reducible refine hK _ ?_); clear hK K
                  refine wpQuiet_step (fun K hK => ?_); go_simp; (first | (with_reducible refine hK _ ?_) | (with_reducible refine ⟨_, fun _ _ => rfl, hK _ ?_⟩)); clear hK K
                  refine wpQuiet_step (fun K hK => ?_); go_simp; (first | (with_reducible refine hK _ ?_) | (with_reducible refine ⟨_, fun _ _ => rfl, hK _ ?_⟩)); clear hK K
                  refine wpQuiet_step (fun K hK => ?_); go_simp; (first | (with_reducible refine hK _ ?_) | (with_reducible refine ⟨_, fun _ _ => rfl, hK _ ?_⟩)); clear hK K
                  refine wpQuiet_step (fun K hK => ?_); refine q_load (p := .pointer (some ⟨b, o + m * 5, none⟩)) 25 _ rfl rfl rfl (H1.out) ?_; go_simp; (with_reducible refine hK _ ?_); clear hK K
                  refine wpQuiet_step (fun K hK => ?_); go_simp; (with_reducible refine ⟨_, fun _ hb => (HC2.out _).mono fun _ _ h => ⟨h.1, hb.trans (h.2.mono (by simpa using hb.size))⟩, hK _ ?_⟩); clear hK K
                  refine wpQuiet_step (fun K hK => ?_); go_simp; (first | (with_reducible refine hK _ ?_) | (with_reducible refine ⟨_, fun _ _ => rfl, hK _ ?_⟩)); clear hK K
                  refine wpQuiet_nil ?_
                  intro w1 hb1
                  go_wp2_with fail
                  go_ret
                  refine ⟨ret_bool ?_, HB3.out.trans (hb1.mono HB3.out.size)⟩
                  rw [eq_comm, decide_eq_false_iff_not]
                  exact leq_not hlt2 HX.out HT0.out.1 (.inr (of_decide_eq_true HV2.out))
                | false =>
                  rw [hv2] at hc2
                  have HC1 := Lib.hid hc1; have HC2 := Lib.hid hc2; have HV2 := Lib.hid (And.intro hv1 hv2); clear hc1 hc2 hv1 hv2
                  unfold St.val at *
                  go_wp2_with fail
                  refine wp_region_below (by kernel_rfl) (by kernel_rfl) ?_
                  refine wpQuiet_step (fun K hK => ?_); go_simp; (first | (with_reducible refine hK _ ?_) | (with_reducible refine ⟨_, fun _ _ => rfl, hK _ ?_⟩)); clear hK K
                  refine wpQuiet_step (fun K hK => ?_); go_simp; (first | (with_reducible refine hK _ ?_) | (with_reducible refine ⟨_, fun _ _ => rfl, hK _ ?_⟩)); clear hK K
                  refine wpQuiet_step (fun K hK => ?_); go_simp; (first | (with_reducible refine hK _ ?_) | (with_reducible refine ⟨_, fun _ _ => rfl, hK _ ?_⟩)); clear hK K
                  refine wpQuiet_step (fun K hK => ?_); refine q_load (p := .pointer (some ⟨b, o + m * 5, none⟩)) 25 _ rfl rfl rfl (H1.out) ?_; go_simp; (with_reducible refine hK _ ?_); clear hK K
                  refine wpQuiet_step (fun K hK => ?_); go_simp; (first | (with_reducible refine hK _ ?_) | (with_reducible refine ⟨_, fun _ _ => rfl, hK _ ?_⟩)); clear hK K
                  refine wpQuiet_step (fun K hK => ?_); go_simp; (first | (with_reducible refine hK _ ?_) | (with_reducible refine ⟨_, fun _ _ => rfl, hK _ ?_⟩)); clear hK K
                  refine wpQuiet_step (fun K hK => ?_); go_simp; (first | (with_reducible refine hK _ ?_) | (with_reducible refine ⟨_, fun _ _ => rfl, hK _ ?_⟩)); clear hK K
                  refine wpQuiet_step (fun K hK => ?_); refine q_load (p := .pointer (some ⟨b, o + k * 5, none⟩)) 25 _ rfl rfl rfl (H0.out) ?_; go_simp; (with_reducible refine hK _ ?_); clear hK K
                  refine wpQuiet_step (fun K hK => ?_); go_simp; (with_reducible refine ⟨_, fun _ hb => (HC1.out _).mono fun _ _ h => ⟨h.1, hb.trans (h.2.mono (by simpa using hb.size))⟩, hK _ ?_⟩); clear hK K
                  refine wpQuiet_step (fun K hK => ?_); go_simp; (first | (with_reducible refine hK _ ?_) | (with_reducible refine ⟨_, fun _ _ => rfl, hK _ ?_⟩)); clear hK K
                  refine wpQuiet_step (fun K hK => ?_); go_simp; (first | (with_reducible refine hK _ ?_) | (with_reducible refine ⟨_, fun _ _ => rfl, hK _ ?_⟩)); clear hK K
                  refine wpQuiet_step (fun K hK => ?_); go_simp; (first | (with_reducible refine hK _ ?_) | (with_reducible refine ⟨_, fun _ _ => rfl, hK _ ?_⟩)); clear hK K
                  refine wpQuiet_step (fun K hK => ?_); go_simp; (first | (with_reducible refine hK _ ?_) | (with_reducible refine ⟨_, fun _ _ => rfl, hK _ ?_⟩)); clear hK K
                  refine wpQuiet_step (fun K hK => ?_); refine q_load (p := .pointer (some ⟨b, o + k * 5, none⟩)) 25 _ rfl rfl rfl (H0.out) ?_; go_simp; (with_reducible refine hK _ ?_); clear hK K
                  refine wpQuiet_step (fun K hK => ?_); go_simp; (first | (with_reducible refine hK _ ?_) | (with_reducible refine ⟨_, fun _ _ => rfl, hK _ ?_⟩)); clear hK K
                  refine wpQuiet_step (fun K hK => ?_); go_simp; (first | (with_reducible refine hK _ ?_) | (with_reducible refine ⟨_, fun _ _ => rfl, hK _ ?_⟩)); clear hK K
                  refine wpQuiet_step (fun K hK => ?_); go_simp; (first | (with_reducible refine hK _ ?_) | (with_reducible refine ⟨_, fun _ _ => rfl, hK _ ?_⟩)); clear hK K
                  refine wpQuiet_step (fun K hK => ?_); refine q_load (p := .pointer (some ⟨b, o + m * 5, none⟩)) 25 _ rfl rfl rfl (H1.out) ?_; go_simp; (with_reducible refine hK _ ?_); clear hK K
                  refine wpQuiet_step (fun K hK => ?_); go_simp; (with_reducible refine ⟨_, fun _ hb => (HC2.out _).mono fun _ _ h => ⟨h.1, hb.trans (h.2.mono (by simpa using hb.size))⟩, hK _ ?_⟩); clear hK K
                  refine wpQuiet_step (fun K hK => ?_); go_simp; (first | (with_reducible refine hK _ ?_) | (with_reducible refine ⟨_, fun _ _ => rfl, hK _ ?_⟩)); clear hK K
                  refine wpQuiet_nil ?_
                  intro w1 hb1
                  have HB4 := Lib.hid (HB3.out.trans (hb1.mono HB3.out.size)); clear hb1
                  go_wp2_with fail
                  go_roundw
                  case rel =>
                    refine ⟨m + 1, by omega, by simp, HB4.out, fun j y hj hy => ?_⟩
                    by_cases e : j = m
                    · subst e
                      rw [HX.out] at hy; cases hy
                      exact ⟨of_decide_eq_false HV2.out.1, of_decide_eq_false HV2.out.2⟩
                    · exact HNO.out j y (by omega) hy
                  case measure => simp only [intOf]; omega
            · have hmk' : m = k := by omega
              subst hmk'
              go_wp2_with fail
              go_roundw
              case rel => exact ⟨m + 1, by omega, by simp, HB3.out, fr_next HT0.out.2.1 HT0.out.2.2 HT0.out.1 HV.out HF.out HNO.out⟩
              case measure => simp only [intOf]; omega
    · have hk' : k = ts.length := by omega
      subst hk'
      have hf := HF.out
      rw [List.take_length] at hf
      go_wp2_with fail
      go_ret
      exact ⟨ret_bool (decide_eq_true hf).symm, HB.out⟩
end

section
open Go.ChangeShapes Go.WideShapes Go.ChangeAt Go.RowKit Go.BigFrame
set_option maxRecDepth 100000
section
variable {ts : List St} {t x : St}
theorem inside_not_fr (h : ¬ Fr ts) : ¬ Inside ts t := fun k => h k.1.1
theorem inside_not_R (h : ¬ t.R) : ¬ Inside ts t := fun k => h (k.1.2.1.right t (by simp))
def badH (x t : St) : Bool := x.d != t.d || decide (x.L t)
theorem inside_not {k : Nat} (hx : ts[k]? = some x) (hb : badH x t = true) : ¬ Inside ts t := by
  intro h
  unfold badH at hb
  simp only [Bool.or_eq_true, bne_iff_ne, ne_eq, decide_eq_true_eq] at hb
  rcases hb with hb | hb
  · exact hb (h.1.2.2 x (List.mem_of_getElem? hx) t (by simp))
  · exact h.2 ⟨x, List.mem_of_getElem? hx, hb⟩
theorem inside_of (hf : Fr ts) (hR : t.R) (h : ∀ (j : Nat) (x : St), j < ts.length → ts[j]? = some x → badH x t = false) : Inside ts t := by
  have hm : ∀ x ∈ ts, x.d = t.d ∧ ¬ x.L t := by
    intro x hx
    obtain ⟨j, hj⟩ := List.getElem?_of_mem hx
    have := h j x (List.getElem?_eq_some_iff.1 hj).1 hj
    unfold badH at this
    simpa only [Bool.or_eq_false_iff, bne_eq_false_iff_eq, decide_eq_false_iff_not] using this
  refine ⟨⟨hf, ⟨?_, ?_, List.pairwise_singleton _ _, ?_⟩, ?_⟩, ?_⟩
  · intro y hy; rw [List.mem_singleton] at hy; rw [hy]; exact hR
  · intro y hy z hz; rw [List.mem_singleton] at hy hz; rw [hy, hz]
  · intro y hy z hz _; rw [List.mem_singleton] at hy hz; rw [hy, hz]
  · intro y hy z hz; rw [List.mem_singleton] at hz; rw [hz]; exact (hm y hy).1
  · rintro ⟨y, hy, hl⟩; exact (hm y hy).2 hl
end
set_option maxHeartbeats 8000000 in
theorem refHolds_any (A : Option Addr) (ts : List St) (c : Nat) (t : St) (w : World) (hT : Ts w A ts) (hn : ts.length ≤ 1000) (hc : ts.length ≤ c) (hm : c ≤ maxLen) :
    Calls Try.prog 53 #[.slice A ts.length c, t.val] w fun e w' => e = .returned (.bool (decide (Inside ts t))) ∧ Below w.heap.size w w' := by
  have hbA := (Below.refl w.heap.size w).alloc (Nat.le_refl _) (.cells #[.int .i64 t.d, .int .i64 t.e, .int .i64 t.x, .int .i64 t.y, .int .i64 t.z] 25)
  have hx := Holds.made w t
  have hT1 := hT.below hbA
  have hr := refRightRow_any A ts c _ hT1 hn hc hm
  have HT := Lib.hid hT1; have HX := Lib.hid hx; have HA := Lib.hid hbA
  clear hT hx hbA hT1 hc hm
  unfold St.val at *
  by_cases hf : Fr ts
  · rw [decide_eq_true hf] at hr
    have HR := Lib.hid hr; have HF := Lib.hid hf; clear hr hf
    by_cases hR : t.R
    · have hq := right_r (decide_eq_true hR)
      unfold St.val at *
      have HQ := Lib.hid hq; have HRR := Lib.hid hR; clear hq hR
      go_enter Try.func53, Try.ntmps53
      go_wp2_with fail
      generalize w.alloc (.cells #[.int .i64 t.d, .int .i64 t.e, .int .i64 t.x, .int .i64 t.y, .int .i64 t.z] 25) = w0 at *
      refine (HR.out).mono ?_; rintro e w1 ⟨rfl, hb1⟩
      obtain ⟨c0, c1, c2, c3, c4⟩ := (HX.out.below hb1).cells5
      have hlt := (HX.out.below hb1).lt
      have HB1 := Lib.hid hb1; clear hb1
      go_wp2_with fail
      refine (HQ.out _).mono ?_; rintro e w2 ⟨rfl, hb2⟩
      clear c0 c1 c2 c3 c4 hlt
      have HB2 := Lib.hid (HB1.out.trans (hb2.mono HB1.out.size)); clear hb2 HB1
      go_wp2_with fail
      go_loopw [5] (fun i wr => ∃ k : Nat, k ≤ ts.length ∧ i = .int .i64 k ∧ Below w0.heap.size w0 wr ∧ ∀ (j : Nat) (x : St), j < k → ts[j]? = some x → badH x t = false) (fun i _ => ts.length - (intOf i).toNat)
      case atStart => exact ⟨0, by omega, rfl, HB2.out, fun j x h => absurd h (by omega)⟩
      case round =>
        obtain ⟨k, hk, rfl, hb, hno⟩ := hrel
        have HB := Lib.hid hb; have HNO := Lib.hid hno; clear hb hno HB2
        by_cases hlt : k < ts.length
        · have hltz : (k : Int) < (ts.length : Int) := by omega
          obtain ⟨x, hx⟩ : ∃ x, ts[k]? = some x := ⟨_, List.getElem?_eq_getElem hlt⟩
          have hT1 := HT.out.below HB.out
          have hY := HX.out.below HB.out
          obtain ⟨b, o, rfl, hbl, h0⟩ := hT1.load hx
          obtain ⟨b', o', e, _, hd⟩ := hT1.five hx
          cases e
          have hdd := (hd wr (Below.refl _ _)).1
          have H0 := Lib.hid h0; have HD := Lib.hid (And.intro hbl hdd); have HXX := Lib.hid hx; have HY := Lib.hid hY
          clear h0 hbl hdd hd hx hT1 hY
          by_cases hde : x.d = t.d
          · have e1 : (x.d != t.d) = false := by rw [hde]; simp
            have HE1 := Lib.hid e1
            have hl := fun w => refLeq_any x t w
            cases hv : decide (x.L t) with
            | true =>
              have hbd : badH x t = true := by unfold badH; rw [e1, hv]; rfl
              have HBD := Lib.hid hbd
              rw [hv] at hl
              unfold St.val at *
              have HL := Lib.hid hl
              clear hbd hv hl e1 hde
              go_wp2_with fail
              refine wp_region_below (by kernel_rfl) (by kernel_rfl) ?_
              refine wpQuiet_step (fun K hK => ?_); go_simp; (first | (with_reducible refine hK _ ?_) | (with_reducible refine ⟨_, fun _ _ => rfl, hK _ ?_⟩)); clear hK K
              refine wpQuiet_step (fun K hK => ?_); go_simp; (first | (with_reducible refine hK _ ?_) | (with_reducible refine ⟨_, fun _ _ => rfl, hK _ ?_⟩)); clear hK K
              refine wpQuiet_step (fun K hK => ?_); go_simp; (first | (with_reducible refine hK _ ?_) | (with_reducible refine ⟨_, fun _ _ => rfl, hK _ ?_⟩)); clear hK K
              refine wpQuiet_step (fun K hK => ?_); go_simp; (first | (with_reducible refine hK _ ?_) | (with_reducible refine ⟨_, fun _ _ => rfl, hK _ ?_⟩)); clear hK K
              refine wpQuiet_step (fun K hK => ?_); refine q_load (p := .pointer (some ⟨b, o + k * 5, none⟩)) 3 _ rfl rfl rfl (load_at HD.out.1 HD.out.2) ?_; go_simp; (with_reducible refine hK _ ?_); clear hK K
              refine wpQuiet_step (fun K hK => ?_); go_simp; (first | (with_reducible refine hK _ ?_) | (with_reducible refine ⟨_, fun _ _ => rfl, hK _ ?_⟩)); clear hK K
              refine wpQuiet_step (fun K hK => ?_); refine q_load (p := .pointer (some ⟨w.heap.size, 0, none⟩)) 3 _ rfl rfl rfl (load_d HY.out) ?_; go_simp; (with_reducible refine hK _ ?_); clear hK K
              refine wpQuiet_step (fun K hK => ?_); refine q_bin _ _ _ _ _ rfl rfl rfl rfl (nei_is HE1.out) ?_; go_simp; (with_reducible refine hK _ ?_); clear hK K
              refine wpQuiet_step (fun K hK => ?_); go_simp; (first | (with_reducible refine hK _ ?_) | (with_reducible refine ⟨_, fun _ _ => rfl, hK _ ?_⟩)); clear hK K
              refine wpQuiet_step (fun K hK => ?_); go_simp; (first | (with_reducible refine hK _ ?_) | (with_reducible refine ⟨_, fun _ _ => rfl, hK _ ?_⟩)); clear hK K
              refine wpQuiet_step (fun K hK => ?_); go_simp; (first | (with_reducible refine hK _ ?_) | (with_reducible refine ⟨_, fun _ _ => rfl, hK _ ?_⟩)); clear hK K
              refine wpQuiet_step (fun K hK => ?_); go_simp; (first | (with_reducible refine hK _ ?_) | (with_reducible refine ⟨_, fun _ _ => rfl, hK _ ?_⟩)); clear hK K
              refine wpQuiet_step (fun K hK => ?_); refine q_load (p := .pointer (some ⟨b, o + k * 5, none⟩)) 25 _ rfl rfl rfl (H0.out) ?_; go_simp; (with_reducible refine hK _ ?_); clear hK K
              refine wpQuiet_step (fun K hK => ?_); refine q_load (p := .pointer (some ⟨w.heap.size, 0, none⟩)) 25 _ rfl rfl rfl (load_t HY.out) ?_; go_simp; (with_reducible refine hK _ ?_); clear hK K
              refine wpQuiet_step (fun K hK => ?_); go_simp; (with_reducible refine ⟨_, fun _ hb => (HL.out _).mono fun _ _ h => ⟨h.1, hb.trans (h.2.mono (by simpa using hb.size))⟩, hK _ ?_⟩); clear hK K
              refine wpQuiet_step (fun K hK => ?_); go_simp; (first | (with_reducible refine hK _ ?_) | (with_reducible refine ⟨_, fun _ _ => rfl, hK _ ?_⟩)); clear hK K
              refine wpQuiet_nil ?_
              intro w1 hb1
              go_wp2_with fail
              go_ret
              refine ⟨ret_bool ?_, HA.out.trans ((HB.out.trans (hb1.mono HB.out.size)).mono HA.out.size)⟩
              rw [eq_comm, decide_eq_false_iff_not]
              exact inside_not HXX.out HBD.out
            | false =>
              have hbd : badH x t = false := by unfold badH; rw [e1, hv]; rfl
              have HBD := Lib.hid hbd
              rw [hv] at hl
              unfold St.val at *
              have HL := Lib.hid hl
              clear hbd hv hl e1 hde
              go_wp2_with fail
              refine wp_region_below (by kernel_rfl) (by kernel_rfl) ?_
              refine wpQuiet_step (fun K hK => ?_); go_simp; (first | (with_reducible refine hK _ ?_) | (with_reducible refine ⟨_, fun _ _ => rfl, hK _ ?_⟩)); clear hK K
              refine wpQuiet_step (fun K hK => ?_); go_simp; (first | (with_reducible refine hK _ ?_) | (with_reducible refine ⟨_, fun _ _ => rfl, hK _ ?_⟩)); clear hK K
              refine wpQuiet_step (fun K hK => ?_); go_simp; (first | (with_reducible refine hK _ ?_) | (with_reducible refine ⟨_, fun _ _ => rfl, hK _ ?_⟩)); clear hK K
              refine wpQuiet_step (fun K hK => ?_); go_simp; (first | (with_reducible refine hK _ ?_) | (with_reducible refine ⟨_, fun _ _ => rfl, hK _ ?_⟩)); clear hK K
              refine wpQuiet_step (fun K hK => ?_); refine q_load (p := .pointer (some ⟨b, o + k * 5, none⟩)) 3 _ rfl rfl rfl (load_at HD.out.1 HD.out.2) ?_; go_simp; (with_reducible refine hK _ ?_); clear hK K
              refine wpQuiet_step (fun K hK => ?_); go_simp; (first | (with_reducible refine hK _ ?_) | (with_reducible refine ⟨_, fun _ _ => rfl, hK _ ?_⟩)); clear hK K
              refine wpQuiet_step (fun K hK => ?_); refine q_load (p := .pointer (some ⟨w.heap.size, 0, none⟩)) 3 _ rfl rfl rfl (load_d HY.out) ?_; go_simp; (with_reducible refine hK _ ?_); clear hK K
              refine wpQuiet_step (fun K hK => ?_); refine q_bin _ _ _ _ _ rfl rfl rfl rfl (nei_is HE1.out) ?_; go_simp; (with_reducible refine hK _ ?_); clear hK K
              refine wpQuiet_step (fun K hK => ?_); go_simp; (first | (with_reducible refine hK _ ?_) | (with_reducible refine ⟨_, fun _ _ => rfl, hK _ ?_⟩)); clear hK K
              refine wpQuiet_step (fun K hK => ?_); go_simp; (first | (with_reducible refine hK _ ?_) | (with_reducible refine ⟨_, fun _ _ => rfl, hK _ ?_⟩)); clear hK K
              refine wpQuiet_step (fun K hK => ?_); go_simp; (first | (with_reducible refine hK _ ?_) | (with_reducible refine ⟨_, fun _ _ => rfl, hK _ ?_⟩)); clear hK K
              refine wpQuiet_step (fun K hK => ?_); go_simp; (first | (with_reducible refine hK _ ?_) | (with_reducible refine ⟨_, fun _ _ => rfl, hK _ ?_⟩)); clear hK K
              refine wpQuiet_step (fun K hK => ?_); refine q_load (p := .pointer (some ⟨b, o + k * 5, none⟩)) 25 _ rfl rfl rfl (H0.out) ?_; go_simp; (with_reducible refine hK _ ?_); clear hK K
              refine wpQuiet_step (fun K hK => ?_); refine q_load (p := .pointer (some ⟨w.heap.size, 0, none⟩)) 25 _ rfl rfl rfl (load_t HY.out) ?_; go_simp; (with_reducible refine hK _ ?_); clear hK K
              refine wpQuiet_step (fun K hK => ?_); go_simp; (with_reducible refine ⟨_, fun _ hb => (HL.out _).mono fun _ _ h => ⟨h.1, hb.trans (h.2.mono (by simpa using hb.size))⟩, hK _ ?_⟩); clear hK K
              refine wpQuiet_step (fun K hK => ?_); go_simp; (first | (with_reducible refine hK _ ?_) | (with_reducible refine ⟨_, fun _ _ => rfl, hK _ ?_⟩)); clear hK K
              refine wpQuiet_nil ?_
              intro w1 hb1
              have HB4 := Lib.hid (HB.out.trans (hb1.mono HB.out.size)); clear hb1
              go_wp2_with fail
              go_roundw
              case rel =>
                refine ⟨k + 1, by omega, by simp, HB4.out, fun j y hj hy => ?_⟩
                by_cases e : j = k
                · subst e
                  rw [HXX.out] at hy; cases hy
                  exact HBD.out
                · exact HNO.out j y (by omega) hy
              case measure => simp only [intOf]; omega
          · have e1 : (x.d != t.d) = true := by simpa using hde
            have HE1 := Lib.hid e1
            have hbd : badH x t = true := by unfold badH; rw [e1]; rfl
            have HBD := Lib.hid hbd
            clear hbd e1 hde
            go_wp2_with fail
            refine wp_region_below (by kernel_rfl) (by kernel_rfl) ?_
            refine wpQuiet_step (fun K hK => ?_); go_simp; (first | (with_reducible refine hK _ ?_) | (with_reducible refine ⟨_, fun _ _ => rfl, hK _ ?_⟩)); clear hK K
            refine wpQuiet_step (fun K hK => ?_); go_simp; (first | (with_reducible refine hK _ ?_) | (with_reducible refine ⟨_, fun _ _ => rfl, hK _ ?_⟩)); clear hK K
            refine wpQuiet_step (fun K hK => ?_); go_simp; (first | (with_reducible refine hK _ ?_) | (with_reducible refine ⟨_, fun _ _ => rfl, hK _ ?_⟩)); clear hK K
            refine wpQuiet_step (fun K hK => ?_); go_simp; (first | (with_reducible refine hK _ ?_) | (with_reducible refine ⟨_, fun _ _ => rfl, hK _ ?_⟩)); clear hK K
            refine wpQuiet_step (fun K hK => ?_); refine q_load (p := .pointer (some ⟨b, o + k * 5, none⟩)) 3 _ rfl rfl rfl (load_at HD.out.1 HD.out.2) ?_; go_simp; (with_reducible refine hK _ ?_); clear hK K
            refine wpQuiet_step (fun K hK => ?_); go_simp; (first | (with_reducible refine hK _ ?_) | (with_reducible refine ⟨_, fun _ _ => rfl, hK _ ?_⟩)); clear hK K
            refine wpQuiet_step (fun K hK => ?_); refine q_load (p := .pointer (some ⟨w.heap.size, 0, none⟩)) 3 _ rfl rfl rfl (load_d HY.out) ?_; go_simp; (with_reducible refine hK _ ?_); clear hK K
            refine wpQuiet_step (fun K hK => ?_); refine q_bin _ _ _ _ _ rfl rfl rfl rfl (nei_is HE1.out) ?_; go_simp; (with_reducible refine hK _ ?_); clear hK K
            refine wpQuiet_step (fun K hK => ?_); go_simp; (try (with_reducible refine ⟨_, fun _ _ => rfl, ?_⟩)); generalize hA : ({ tmps := _, defers := _ } : Act) = A; (with_reducible refine hK A ?_); clear hK K
            refine wpQuiet_step (fun K hK => ?_); subst hA; go_simp; (try (with_reducible refine ⟨_, fun _ _ => rfl, ?_⟩)); generalize hA : ({ tmps := _, defers := _ } : Act) = A; (with_reducible refine hK A ?_); clear hK K
            refine wpQuiet_step (fun K hK => ?_); subst hA; go_simp; (try (with_reducible refine ⟨_, fun _ _ => rfl, ?_⟩)); generalize hA : ({ tmps := _, defers := _ } : Act) = A; (with_reducible refine hK A ?_); clear hK K
            refine wpQuiet_step (fun K hK => ?_); subst hA; go_simp; (try (with_reducible refine ⟨_, fun _ _ => rfl, ?_⟩)); generalize hA : ({ tmps := _, defers := _ } : Act) = A; (with_reducible refine hK A ?_); clear hK K
            refine wpQuiet_step (fun K hK => ?_); subst hA; go_simp; (try (with_reducible refine ⟨_, fun _ _ => rfl, ?_⟩)); generalize hA : ({ tmps := _, defers := _ } : Act) = A; (with_reducible refine hK A ?_); clear hK K
            refine wpQuiet_step (fun K hK => ?_); subst hA; go_simp; (try (with_reducible refine ⟨_, fun _ _ => rfl, ?_⟩)); generalize hA : ({ tmps := _, defers := _ } : Act) = A; (with_reducible refine hK A ?_); clear hK K
            refine wpQuiet_step (fun K hK => ?_); subst hA; go_simp; (try (with_reducible refine ⟨_, fun _ _ => rfl, ?_⟩)); generalize hA : ({ tmps := _, defers := _ } : Act) = A; (with_reducible refine hK A ?_); clear hK K
            refine wpQuiet_step (fun K hK => ?_); subst hA; go_simp; (first | (with_reducible refine hK _ ?_) | (with_reducible refine ⟨_, fun _ _ => rfl, hK _ ?_⟩)); clear hK K
            refine wpQuiet_nil ?_
            intro w1 hb1
            go_wp2_with fail
            go_ret
            refine ⟨ret_bool ?_, HA.out.trans ((HB.out.trans (hb1.mono HB.out.size)).mono HA.out.size)⟩
            rw [eq_comm, decide_eq_false_iff_not]
            exact inside_not HXX.out HBD.out
        · have hk' : k = ts.length := by omega
          subst hk'
          go_wp2_with fail
          go_ret
          exact ⟨ret_bool (decide_eq_true (inside_of HF.out HRR.out HNO.out)).symm, HA.out.trans (HB.out.mono HA.out.size)⟩
    · have hq := right_r (decide_eq_false hR)
      unfold St.val at *
      have HQ := Lib.hid hq; have HRR := Lib.hid hR; clear hq hR
      go_enter Try.func53, Try.ntmps53
      go_wp2_with fail
      generalize w.alloc (.cells #[.int .i64 t.d, .int .i64 t.e, .int .i64 t.x, .int .i64 t.y, .int .i64 t.z] 25) = w0 at *
      refine (HR.out).mono ?_; rintro e w1 ⟨rfl, hb1⟩
      obtain ⟨c0, c1, c2, c3, c4⟩ := (HX.out.below hb1).cells5
      have hlt := (HX.out.below hb1).lt
      have HB1 := Lib.hid hb1; clear hb1
      go_wp2_with fail
      refine (HQ.out _).mono ?_; rintro e w2 ⟨rfl, hb2⟩
      clear c0 c1 c2 c3 c4 hlt
      have HB2 := Lib.hid (HB1.out.trans (hb2.mono HB1.out.size)); clear hb2 HB1
      go_wp2_with fail
      go_ret
      exact ⟨ret_bool (decide_eq_false (inside_not_R HRR.out)).symm, HA.out.trans (HB2.out.mono HA.out.size)⟩
  · rw [decide_eq_false hf] at hr
    have HR := Lib.hid hr; have HF := Lib.hid hf; clear hr hf
    go_enter Try.func53, Try.ntmps53
    go_wp2_with fail
    generalize w.alloc (.cells #[.int .i64 t.d, .int .i64 t.e, .int .i64 t.x, .int .i64 t.y, .int .i64 t.z] 25) = w0 at *
    refine (HR.out).mono ?_; rintro e w1 ⟨rfl, hb1⟩
    have HB1 := Lib.hid hb1; clear hb1
    go_wp2_with fail
    go_ret
    exact ⟨ret_bool (decide_eq_false (inside_not_fr HF.out)).symm, HA.out.trans (HB1.out.mono HA.out.size)⟩
end
end Go.Proofs.Ytkbabmifdfmhlaa
