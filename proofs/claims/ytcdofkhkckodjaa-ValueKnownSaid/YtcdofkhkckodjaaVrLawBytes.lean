/- ValueBytes: any rows have the bytes, and any bytes are the records, that the document says. -/
import Derived.Test.YtcdofkhkckodjaaVrWorks
import Derived.SizedLaws
import Derived.Test.YtcdofkhkckodjaaVrGet
import Derived.Test.YtcdofkhkckodjaaVrRefGet
namespace Go.Proofs.Ytcdofkhkckodjaa
open Go.ChangeShapes Go.WideShapes Go.ChangeAt Go.RowKit Go.BigFrame
open Vr
set_option linter.unusedVariables false
set_option maxRecDepth 100000
namespace valueBytes
def GivesG (E : Int) (l : List Rd) (w : World) (e : Ending) (w' : World) : Prop := (∃ v', e = .returned (.tuple #[v', .int .i64 E]) ∧ RowV w' v' l) ∧ Below w.heap.size w w'
theorem gives {xs : List Nat} {w w' : World} {e : Ending} (h : GetD xs w e w') : GivesG (getE xs) (getL xs) w e w' := by
  obtain ⟨⟨v, he, ho⟩, hb⟩ := h
  exact ⟨⟨v, he, RowV.own ho⟩, hb⟩
theorem get_v {xs : List Nat} {w : World} {v : Value} (h : BytV w v xs) (hl : xs.length ≤ 100000) : Calls Try.prog 22 #[v] w (GivesG (getE xs) (getL xs) w) := by
  obtain ⟨A, c, rfl, hB, h1, h2⟩ := h
  exact (get_any A xs c w (bytes_ts hB) hB.1 hl h1 h2).mono fun _ _ h => gives h
theorem refGet_v {xs : List Nat} {w : World} {v : Value} (h : BytV w v xs) (hl : xs.length ≤ 100000) : Calls Try.prog 23 #[v] w (GivesG (getE xs) (getL xs) w) := by
  obtain ⟨A, c, rfl, hB, h1, h2⟩ := h
  exact (refGet_any A xs c w (bytes_ts hB) hB.1 hl).mono fun _ _ h => gives h
theorem getL_len (xs : List Nat) : (getL xs).length ≤ xs.length := by
  unfold getL
  split
  · rw [recsN_len]; omega
  · simp
theorem sameB_self (xs : List Nat) : sameB xs xs = true := by unfold sameB; simp
set_option maxHeartbeats 8000000 in
theorem walk (A B : Option Addr) (a : List Rd) (b : List Nat) (c d : Nat) (w : World) (hA : RowV w (.slice A a.length c) a) (hB : BytV w (.slice B b.length d) b) (hW : ∀ r ∈ a, r.W) :
    Calls Try.prog 4 #[.slice A a.length c, .slice B b.length d] w fun e w' => e = .returned (.bool true) ∧ Below w.heap.size w w' := by
  have HA := Lib.hid hA; have HB := Lib.hid hB; have HW := Lib.hid hW; clear hA hB hW
  by_cases h1 : 100 < a.length
  · have h1z : (100 : Int) < (a.length : Int) := by omega
    have d1 : decide ((100 : Int) < (a.length : Int)) = true := by simp; omega
    have Hb := Lib.hid (Below.refl w.heap.size w)
    go_enter Try.func4, Try.ntmps4
    have hc := works_any w
    have HC := Lib.hid hc; clear hc
    go_wp2_with fail
    refine HC.out.mono ?_; rintro e w2 ⟨rfl, hb0⟩
    clear HC
    have hb := hb0
    clear hb0
    have h := HA.out.below hb; clear HA; have HA := Lib.hid h; clear h
    have h := HB.out.below hb; clear HB; have HB := Lib.hid h; clear h
    have h := Hb.out.trans (hb.mono Hb.out.size); clear Hb hb; have Hb := Lib.hid h; clear h
    dsimp only
    go_wp2_with fail
    go_ret
    exact ⟨rfl, Hb.out⟩
  · have h1z : ¬ (100 : Int) < (a.length : Int) := by omega
    have d1 : decide ((100 : Int) < (a.length : Int)) = false := by simp; omega
    by_cases h2 : 1600 < b.length
    · have h2z : (1600 : Int) < (b.length : Int) := by omega
      have d2 : decide ((1600 : Int) < (b.length : Int)) = true := by simp; omega
      have Hb := Lib.hid (Below.refl w.heap.size w)
      go_enter Try.func4, Try.ntmps4
      have hc := works_any w
      have HC := Lib.hid hc; clear hc
      go_wp2_with fail
      refine HC.out.mono ?_; rintro e w2 ⟨rfl, hb0⟩
      clear HC
      have hb := hb0
      clear hb0
      have h := HA.out.below hb; clear HA; have HA := Lib.hid h; clear h
      have h := HB.out.below hb; clear HB; have HB := Lib.hid h; clear h
      have h := Hb.out.trans (hb.mono Hb.out.size); clear Hb hb; have Hb := Lib.hid h; clear h
      dsimp only
      go_wp2_with fail
      go_ret
      exact ⟨rfl, Hb.out⟩
    · have h2z : ¬ (1600 : Int) < (b.length : Int) := by omega
      have d2 : decide ((1600 : Int) < (b.length : Int)) = false := by simp; omega
      have ha : a.length ≤ 100 := by omega
      have hb : b.length ≤ 1600 := by omega
      clear h1 h2
      have HE := Lib.hid (getL_put HW.out)
      have hpl : (putR a).length ≤ 1600 := by rw [putR_len]; omega
      obtain ⟨ps, hps⟩ : ∃ ps, putR a = ps := ⟨_, rfl⟩
      rw [hps] at HE hpl
      have HPS := Lib.hid hps; clear hps
      have hml : (getL b).length ≤ 1600 := Nat.le_trans (getL_len b) hb
      obtain ⟨m, hm⟩ : ∃ m, getL b = m := ⟨_, rfl⟩
      obtain ⟨E, hE⟩ : ∃ E, getE b = E := ⟨_, rfl⟩
      rw [hm] at hml
      have HM := Lib.hid hm; have HEE := Lib.hid hE; clear hm hE
      have HS1 := Lib.hid (sameB_self ps); have HS2 := Lib.hid (sameR_self a); have HS3 := Lib.hid (sameR_self m)
      have Hb := Lib.hid (Below.refl w.heap.size w)
      go_enter Try.func4, Try.ntmps4
      have hc0 := put_v HA.out (by omega) HW.out
      have HC0 := Lib.hid hc0; clear hc0
      have hc := HC0.out
      rw [HPS.out] at hc
      have HC := Lib.hid hc; clear hc
      go_wp2_with fail
      refine HC.out.mono ?_; rintro e w2 ⟨⟨v, rfl, hr⟩, hb0⟩
      clear HC
      have hb := hb0
      clear hb0
      have h := HA.out.below hb; clear HA; have HA := Lib.hid h; clear h
      have h := HB.out.below hb; clear HB; have HB := Lib.hid h; clear h
      have h := Hb.out.trans (hb.mono Hb.out.size); clear Hb hb; have Hb := Lib.hid h; clear h
      obtain ⟨A1, c1, rfl, z1⟩ := hr
      have H1 := Lib.hid (show BytV w2 (.slice A1 (ps : List Nat).length c1) ps from ⟨A1, c1, rfl, z1⟩); clear z1
      dsimp only
      clear HC0
      have hc := get_v H1.out (by omega)
      rw [HE.out.1, HE.out.2] at hc
      have HC := Lib.hid hc; clear hc
      go_wp2_with fail
      refine HC.out.mono ?_; rintro e w3 ⟨⟨v, rfl, hr⟩, hb0⟩
      clear HC
      have hb := hb0
      clear hb0
      have h := HA.out.below hb; clear HA; have HA := Lib.hid h; clear h
      have h := HB.out.below hb; clear HB; have HB := Lib.hid h; clear h
      have h := H1.out.below hb; clear H1; have H1 := Lib.hid h; clear h
      have h := Hb.out.trans (hb.mono Hb.out.size); clear Hb hb; have Hb := Lib.hid h; clear h
      obtain ⟨A2, c2, rfl, z2⟩ := hr
      have H2 := Lib.hid (show RowV w3 (.slice A2 (a : List Rd).length c2) a from ⟨A2, c2, rfl, z2⟩); clear z2
      dsimp only
      have hc := get_v HB.out (by omega)
      rw [HM.out, HEE.out] at hc
      have HC := Lib.hid hc; clear hc
      go_wp2_with fail
      refine HC.out.mono ?_; rintro e w4 ⟨⟨v, rfl, hr⟩, hb0⟩
      clear HC
      have hb := hb0
      clear hb0
      have h := HA.out.below hb; clear HA; have HA := Lib.hid h; clear h
      have h := HB.out.below hb; clear HB; have HB := Lib.hid h; clear h
      have h := H1.out.below hb; clear H1; have H1 := Lib.hid h; clear h
      have h := H2.out.below hb; clear H2; have H2 := Lib.hid h; clear h
      have h := Hb.out.trans (hb.mono Hb.out.size); clear Hb hb; have Hb := Lib.hid h; clear h
      obtain ⟨A3, c3, rfl, z3⟩ := hr
      have H3 := Lib.hid (show RowV w4 (.slice A3 (m : List Rd).length c3) m from ⟨A3, c3, rfl, z3⟩); clear z3
      dsimp only
      have hc := refGet_v HB.out (by omega)
      rw [HM.out, HEE.out] at hc
      have HC := Lib.hid hc; clear hc
      go_wp2_with fail
      refine HC.out.mono ?_; rintro e w5 ⟨⟨v, rfl, hr⟩, hb0⟩
      clear HC
      have hb := hb0
      clear hb0
      have h := HA.out.below hb; clear HA; have HA := Lib.hid h; clear h
      have h := HB.out.below hb; clear HB; have HB := Lib.hid h; clear h
      have h := H1.out.below hb; clear H1; have H1 := Lib.hid h; clear h
      have h := H2.out.below hb; clear H2; have H2 := Lib.hid h; clear h
      have h := H3.out.below hb; clear H3; have H3 := Lib.hid h; clear h
      have h := Hb.out.trans (hb.mono Hb.out.size); clear Hb hb; have Hb := Lib.hid h; clear h
      obtain ⟨A4, c4, rfl, z4⟩ := hr
      have H4 := Lib.hid (show RowV w5 (.slice A4 (m : List Rd).length c4) m from ⟨A4, c4, rfl, z4⟩); clear z4
      dsimp only
      have hc := refPut_v HA.out (by omega)
      rw [HPS.out] at hc
      have HC := Lib.hid hc; clear hc
      go_wp2_with fail
      refine HC.out.mono ?_; rintro e w6 ⟨⟨v, rfl, hr⟩, hb0⟩
      clear HC
      have hb := hb0
      clear hb0
      have h := HA.out.below hb; clear HA; have HA := Lib.hid h; clear h
      have h := HB.out.below hb; clear HB; have HB := Lib.hid h; clear h
      have h := H1.out.below hb; clear H1; have H1 := Lib.hid h; clear h
      have h := H2.out.below hb; clear H2; have H2 := Lib.hid h; clear h
      have h := H3.out.below hb; clear H3; have H3 := Lib.hid h; clear h
      have h := H4.out.below hb; clear H4; have H4 := Lib.hid h; clear h
      have h := Hb.out.trans (hb.mono Hb.out.size); clear Hb hb; have Hb := Lib.hid h; clear h
      obtain ⟨A5, c5, rfl, z5⟩ := hr
      have H5 := Lib.hid (show BytV w6 (.slice A5 (ps : List Nat).length c5) ps from ⟨A5, c5, rfl, z5⟩); clear z5
      dsimp only
      have hc := sameBytes_v H1.out H5.out
      rw [HS1.out] at hc
      have HC := Lib.hid hc; clear hc
      go_wp2_with fail
      refine HC.out.mono ?_; rintro e w0 ⟨rfl, rfl⟩
      clear HC
      dsimp only
      have hc := alike_v H2.out HA.out (by omega) (by omega)
      rw [HS2.out] at hc
      have HC := Lib.hid hc; clear hc
      go_wp2_with fail
      refine HC.out.mono ?_; rintro e w7 ⟨rfl, hb0⟩
      clear HC
      have hb := hb0
      clear hb0
      have h := HA.out.below hb; clear HA; have HA := Lib.hid h; clear h
      have h := HB.out.below hb; clear HB; have HB := Lib.hid h; clear h
      have h := H1.out.below hb; clear H1; have H1 := Lib.hid h; clear h
      have h := H2.out.below hb; clear H2; have H2 := Lib.hid h; clear h
      have h := H3.out.below hb; clear H3; have H3 := Lib.hid h; clear h
      have h := H4.out.below hb; clear H4; have H4 := Lib.hid h; clear h
      have h := H5.out.below hb; clear H5; have H5 := Lib.hid h; clear h
      have h := Hb.out.trans (hb.mono Hb.out.size); clear Hb hb; have Hb := Lib.hid h; clear h
      dsimp only
      have hc := alike_v H3.out H4.out (by omega) (by omega)
      rw [HS3.out] at hc
      have HC := Lib.hid hc; clear hc
      go_wp2_with fail
      refine HC.out.mono ?_; rintro e w8 ⟨rfl, hb0⟩
      clear HC
      have hb := hb0
      clear hb0
      have h := HA.out.below hb; clear HA; have HA := Lib.hid h; clear h
      have h := HB.out.below hb; clear HB; have HB := Lib.hid h; clear h
      have h := H1.out.below hb; clear H1; have H1 := Lib.hid h; clear h
      have h := H2.out.below hb; clear H2; have H2 := Lib.hid h; clear h
      have h := H3.out.below hb; clear H3; have H3 := Lib.hid h; clear h
      have h := H4.out.below hb; clear H4; have H4 := Lib.hid h; clear h
      have h := H5.out.below hb; clear H5; have H5 := Lib.hid h; clear h
      have h := Hb.out.trans (hb.mono Hb.out.size); clear Hb hb; have Hb := Lib.hid h; clear h
      dsimp only
      have hc := works_any w8
      have HC := Lib.hid hc; clear hc
      go_wp2_with fail
      refine HC.out.mono ?_; rintro e w9 ⟨rfl, hb0⟩
      clear HC
      have hb := hb0
      clear hb0
      have h := HA.out.below hb; clear HA; have HA := Lib.hid h; clear h
      have h := HB.out.below hb; clear HB; have HB := Lib.hid h; clear h
      have h := H1.out.below hb; clear H1; have H1 := Lib.hid h; clear h
      have h := H2.out.below hb; clear H2; have H2 := Lib.hid h; clear h
      have h := H3.out.below hb; clear H3; have H3 := Lib.hid h; clear h
      have h := H4.out.below hb; clear H4; have H4 := Lib.hid h; clear h
      have h := H5.out.below hb; clear H5; have H5 := Lib.hid h; clear h
      have h := Hb.out.trans (hb.mono Hb.out.size); clear Hb hb; have Hb := Lib.hid h; clear h
      dsimp only
      go_wp2_with fail
      go_ret
      exact ⟨rfl, Hb.out⟩

set_option maxRecDepth 100000 in
theorem lifted (os : Os) (started : os.Started) (H : Type) (enc : TypeId × Value → H) :
    ReturnsInHanded {} Try.checked os 4 .any (Rows.valueBytesSpec.pre6 enc Try.prog Try.f4 Rows.valueBytesRow.domain false) (Rows.valueBytesSpec.post enc Try.prog Try.f4 false true false false) := by
  refine returnsInHanded_of_change_sized (C := Try.checked) ownKnob_none started (by kernel_rfl) Try.func4
    (ChangeSpec.witness6 (enc := enc) (C := Try.checked) false ⟨#[], #[.slice none 0 0, .slice none 0 0], []⟩ 8 (by kernel_rfl) (by kernel_rfl) (by kernel_rfl) (by kernel_rfl)) ?_
  intro W base args ds gs before hval0 hW hcnd hsz0 _
  have hval : ∀ (j : Nat) t v, Try.f4.params[j]? = some t → args[j]? = some v → Value.okWide Try.prog W .any base t v := hval0
  have hW' := hW
  obtain ⟨p, q, hA0, hV, rfl, hfz, hnd⟩ := hW
  have hA : DataW.TrodAll enc Try.prog W 0 (fun _ => true) true Try.f4.params.toList args.toList ds p := hA0
  have hsz : (DataW.weightsEach Try.prog (Try.f4.params.toList ++ Rows.valueBytesSpec.plain.varTypes Try.prog) (ds ++ gs)).all (· ≤ reachBytes) = true := hsz0
  rw [Try.params4] at hA hval hsz
  obtain ⟨v0, vs0, d0, ds0, p0, q0, hargs, rfl, rfl, h0, r0⟩ := trodAll_cons hA
  obtain ⟨v1, vs1, d1, ds1, p1, q1, rfl, rfl, rfl, h1, r1⟩ := trodAll_cons r0
  obtain ⟨rfl, rfl, rfl⟩ := trodAll_nil r1
  obtain rfl : args = #[v0, v1] := by cases args; simp_all
  obtain ⟨rfl, rfl⟩ := trodVars_none hV
  obtain ⟨A0, l0, c0, rfl, hT0, hw0, hc0, hm0, hn0⟩ := Vr.open_recs (hval 0 22 v0 rfl rfl) h0
  obtain ⟨A1, xs1, c1, rfl, hB1, hxc1, hcm1, hAc1⟩ := open_bytes Try.underlying34 Try.underlying5 cells_u8 (hval 1 34 v1 rfl rfl) h1
  clear hA0 hval0 hsz0
  refine (walk A0 A1 l0 xs1 c0 c1 W ⟨A0, c0, rfl, hT0, hn0, hc0, hm0⟩ ⟨A1, c1, rfl, hB1, hxc1, hcm1⟩ hw0).mono fun e W' ⟨he, hg⟩ => ?_
  subst he
  exact ⟨_, rfl, law_post progLaid hW' rfl (by rw [Try.params4]; intro t ht; simp at ht; rcases ht with rfl | rfl <;> exact ⟨by kernel_rfl, of_decide_eq_true (by kernel_rfl)⟩) rfl Try.underlying4 rfl hg⟩

theorem over : Rows.valueBytesRow.holds Try.pinned (OpenSpec.ofChange Rows.valueBytesSpec) :=
  OpenClaim.holds_of_wide 4 Try.f4 rfl rfl rfl rfl rfl rfl rfl ⟨rfl, rfl, rfl, rfl, rfl⟩ rfl rfl rfl rfl rfl (by kernel_rfl) Try.func4 (by kernel_rfl)
    (of_decide_eq_true (by kernel_rfl)) (by unfold Func.isWrapper; first | (rw [if_pos (by decide +kernel)]; kernel_rfl) | (rw [if_neg (by decide +kernel)]; exact ⟨rfl, rfl⟩))
    (fun os started H enc _ => lifted os started H enc)

/-- The statement. -/
theorem proved : Rows.ValueBytesSaid :=
  over
end valueBytes
end Go.Proofs.Ytcdofkhkckodjaa
