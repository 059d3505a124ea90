/- AntichainMore: with a time more the frontier is within what it was; with one that is at or behind one of it it stays; the frontier of a frontier is it; for all rows of at most 30 times. -/
import Derived.Test.YtpcpjnebdhiddaaFrLawLattice
namespace Go.Proofs.Ytpcpjnebdhiddaa
open Go.ChangeShapes Go.WideShapes Go.ChangeAt Go.RowKit Go.BigFrame Go.Shelf
set_option linter.unusedVariables false
namespace antichainMore
open antichainOrder (mul_le good inside_iff)
theorem ofY {w : World} {A : Option Addr} {a : List St} {c : Nat} (he : Even a) (h : Slc w A c a) (ha : a.length ≤ 1000) : Calls Try.prog 11 #[.slice A a.length c] w (GivesS w (ofS a) 0) := by
  have := ofC h ha
  rw [decide_eq_true he] at this; exact this
section
variable {l : List St} {t : St}
theorem al_more (h : Even (l ++ [t])) (k : Even l) : Under (ofS (l ++ [t])) (ofS l) :=
  ⟨⟨ofS_fr h, ofS_fr k, fun x hx y hy => (h x (mem_ofS.1 hx).1).2 y (List.mem_append_left _ (mem_ofS.1 hy).1)⟩, more_in h k⟩
theorem same_more (h : Even (l ++ [t])) (k : Even l) : decide (ofS l = ofS (l ++ [t])) = (decide (0 < (ofS l).length) && !decide (Inside (ofS l) t)) := by
  rw [Bool.eq_iff_iff, decide_eq_true_iff, more_same h k]
  have hd : ∀ u ∈ ofS l, u.d = t.d := fun u hu => (h u (List.mem_append_left _ (mem_ofS.1 hu).1)).2 t (by simp)
  have hR : t.R := (h t (by simp)).1
  have hi := inside_iff (ofS_fr k) hd
  simp only [Bool.and_eq_true, decide_eq_true_iff, Bool.not_eq_true', decide_eq_false_iff_not, hi]
  constructor
  · rintro ⟨x, hx, hl⟩
    exact ⟨List.length_pos_of_mem hx, fun ⟨_, hn⟩ => hn ⟨x, hx, hl⟩⟩
  · rintro ⟨_, h2⟩
    apply Classical.byContradiction
    intro h3
    exact h2 ⟨hR, h3⟩
end
set_option maxRecDepth 100000 in
set_option maxHeartbeats 16000000 in
theorem walk (A : Option Addr) (l : List St) (ca : Nat) (t : St) (w : World) (hA : Slc w A ca l) :
    Calls Try.prog 8 #[.slice A l.length ca, t.val] w fun e w' => e = .returned (.bool true) ∧ Below w.heap.size w w' := by
  have hbt := (Below.refl w.heap.size w).alloc (Nat.le_refl _) (.cells #[.int .i64 t.d, .int .i64 t.e, .int .i64 t.x, .int .i64 t.y, .int .i64 t.z] 32)
  have hx := Holds.made w t
  have hA1 := hA.below hbt
  clear hA
  have WW := Lib.hid works_any
  have Hbx := Lib.hid hx; have Hl := Lib.hid hA1; have HBW := Lib.hid hbt
  clear hx hA1 hbt
  unfold St.val at *
  by_cases ll : 30 < l.length
  · have dl : decide ((l.length : Int) > 30) = true := decide_eq_true (by omega)
    go_enter Try.func8, Try.ntmps8
    go_wp2_with fail
    refine (WW.out _).mono ?_; rintro e we ⟨rfl, hbe⟩
    go_wp2_with fail
    go_ret
    exact ⟨rfl, HBW.out.trans (hbe.mono HBW.out.size)⟩
  have dl : decide ((l.length : Int) > 30) = false := decide_eq_false (by omega)
  have LN := Lib.hid (Nat.not_lt.1 ll)
  go_enter Try.func8, Try.ntmps8
  go_wp2_with fail
  clear ll dl
  generalize w.alloc (.cells #[.int .i64 t.d, .int .i64 t.e, .int .i64 t.x, .int .i64 t.y, .int .i64 t.z] 32) = w0 at *
  have k := ofC Hl.out (by have := LN.out; omega)
  obtain ⟨f, hp⟩ : ∃ p, ifS (decide (Even l)) (ofS l) = p := ⟨_, rfl⟩
  obtain ⟨ef, hep⟩ : ∃ n, errS (decide (Even l)) = n := ⟨_, rfl⟩
  rw [hp, hep] at k
  have Lf := Lib.hid (show f.length ≤ 30 by rw [← hp]; exact ifS_len (by have := ofS_len l; have := LN.out; omega))
  have Ef := Lib.hid (And.intro hp hep); have K := Lib.hid k; clear k hp hep
  refine (K.out).mono ?_; rintro e v1 ⟨⟨Af, cf, rfl, hs⟩, hb⟩
  have hl := Hl.out.below hb; clear Hl; have Hl := Lib.hid hl; clear hl
  have hbx := Hbx.out.below hb; clear Hbx; have Hbx := Lib.hid hbx; clear hbx
  have hbw := HBW.out.trans (hb.mono HBW.out.size); clear HBW hb; have HBW := Lib.hid hbw; clear hbw
  have Hf := Lib.hid hs; clear hs K
  dsimp only
  have hts := Hl.out.ts; have hnil := Hl.out.nil; have hln := LN.out
  have hbs : v1.heap.size ≤ v1.heap.size := Nat.le_refl _
  go_upto_region 6 with (at_builtin; refine wpList_append_ts rfl _ _ rfl v1.heap.size _ 0 [] rfl (World.ownsRow_nil _ _ _ _) A ca l rfl hnil hts (by omega) hbs ?_; intro va wa hown hgr)
  have hba := own_belowS (World.ownsRow_nil v1 v1.heap.size 32 5 ) hgr (Below.refl _ _) hbs
  obtain ⟨c0, c1, c2, c3, c4⟩ := (Hbx.out.below hba).cells5
  have hlt := (Hbx.out.below hba).lt
  rw [List.nil_append, Nat.zero_add] at hown
  have HO := Lib.hid hown; have HBA := Lib.hid hba
  clear hts hnil hbs hown hgr hln hba
  have hoA := HO.out.alloc (.cells #[.int .i64 t.d, .int .i64 t.e, .int .i64 t.x, .int .i64 t.y, .int .i64 t.z] 32)
  have hTA := Times.made wa [t]
  have hbA := HBA.out.alloc HBA.out.size (.cells #[.int .i64 t.d, .int .i64 t.e, .int .i64 t.x, .int .i64 t.y, .int .i64 t.z] 32)
  have hbs := hbA.size
  have hln := LN.out
  have HBB := Lib.hid hbA; clear hbA
  go_wp2_with (at_builtin; refine wpList_append_times rfl _ _ rfl v1.heap.size _ l.length l rfl hoA ⟨wa.heap.size, 0, none⟩ 1 [t] rfl (by simp) hTA (by simp; omega) hbs ?_; intro vg wg hown hgr)
  have hb := own_belowS hoA hgr HBB.out hbs
  obtain ⟨Al, cl, rfl, hsg⟩ := Slc.of_own hown
  clear hown hgr hoA hTA hbs HO HBA HBB c0 c1 c2 c3 c4 hlt hln
  have hl := Hl.out.below hb; clear Hl; have Hl := Lib.hid hl; clear hl
  have hf := Hf.out.below hb; clear Hf; have Hf := Lib.hid hf; clear hf
  have hbx := Hbx.out.below hb; clear Hbx; have Hbx := Lib.hid hbx; clear hbx
  have hbw := HBW.out.trans (hb.mono HBW.out.size); clear HBW hb; have HBW := Lib.hid hbw; clear hbw
  have Hm := Lib.hid hsg; clear hsg
  have LM := Lib.hid (show (l ++ [t]).length ≤ 31 by have := LN.out; simp; omega)
  have k := ofC Hm.out (by have := LM.out; omega)
  obtain ⟨g, hp⟩ : ∃ p, ifS (decide (Even (l ++ [t]))) (ofS (l ++ [t])) = p := ⟨_, rfl⟩
  obtain ⟨eg, hep⟩ : ∃ n, errS (decide (Even (l ++ [t]))) = n := ⟨_, rfl⟩
  rw [hp, hep] at k
  have Lg := Lib.hid (show g.length ≤ 31 by rw [← hp]; exact ifS_len (by have := ofS_len (l ++ [t]); have := LM.out; omega))
  have Eg := Lib.hid (And.intro hp hep); have K := Lib.hid k; clear k hp hep
  refine (K.out).mono ?_; rintro e v2 ⟨⟨Ag, cg, rfl, hs⟩, hb⟩
  have hl := Hl.out.below hb; clear Hl; have Hl := Lib.hid hl; clear hl
  have hf := Hf.out.below hb; clear Hf; have Hf := Lib.hid hf; clear hf
  have hm := Hm.out.below hb; clear Hm; have Hm := Lib.hid hm; clear hm
  have hbx := Hbx.out.below hb; clear Hbx; have Hbx := Lib.hid hbx; clear hbx
  have hbw := HBW.out.trans (hb.mono HBW.out.size); clear HBW hb; have HBW := Lib.hid hbw; clear hbw
  have Hg := Lib.hid hs; clear hs K
  dsimp only
  go_upto_region 7 with fail
  by_cases zf : ef = 0
  case neg =>
    have df : (ef != 0) = true := by simpa using zf
    clear zf
    go_wp2_with fail
    refine (WW.out _).mono ?_; rintro e we ⟨rfl, hbe⟩
    go_wp2_with fail
    go_ret
    exact ⟨rfl, HBW.out.trans (hbe.mono HBW.out.size)⟩
  subst zf
  by_cases zg : eg = 0
  case neg =>
    have dg : (eg != 0) = true := by simpa using zg
    clear zg
    go_wp2_with fail
    refine (WW.out _).mono ?_; rintro e we ⟨rfl, hbe⟩
    go_wp2_with fail
    go_ret
    exact ⟨rfl, HBW.out.trans (hbe.mono HBW.out.size)⟩
  subst zg
  have hf := good Ef.out; have hg := good Eg.out
  have A1 : Even l := of_decide_eq_true hf.1
  have A2 : Even (l ++ [t]) := of_decide_eq_true hg.1
  have AA := Lib.hid (And.intro A1 A2)
  have hf2 := hf.2; have hg2 := hg.2
  have QQ := Lib.hid (And.intro hf2 hg2)
  clear hf hg A1 A2 Ef Eg LN LM Hm Hl hf2 hg2
  go_wp2_with fail
  have k := ofY (by rw [QQ.out.1]; exact (ofS_fr AA.out.1).even) Hf.out (by have := Lf.out; omega)
  rw [show ofS f = f by rw [QQ.out.1]; exact ofS_self (ofS_fr AA.out.1)] at k
  have K := Lib.hid k; clear k
  refine (K.out).mono ?_; rintro e v3 ⟨⟨Ai, ci, rfl, hs⟩, hb⟩
  have hf := Hf.out.below hb; clear Hf; have Hf := Lib.hid hf; clear hf
  have hg := Hg.out.below hb; clear Hg; have Hg := Lib.hid hg; clear hg
  have hbx := Hbx.out.below hb; clear Hbx; have Hbx := Lib.hid hbx; clear hbx
  have hbw := HBW.out.trans (hb.mono HBW.out.size); clear HBW hb; have HBW := Lib.hid hbw; clear hbw
  have Hi := Lib.hid hs; clear hs K
  dsimp only
  go_wp2_with fail
  refine (refSameW Hi.out Hf.out (by have := Lf.out; omega) (by have := Lf.out; omega) (decide_eq_true rfl) _ (Below.refl _ _)).mono ?_; rintro e v4 ⟨rfl, hb⟩
  have hf := Hf.out.below hb; clear Hf; have Hf := Lib.hid hf; clear hf
  have hg := Hg.out.below hb; clear Hg; have Hg := Lib.hid hg; clear hg
  have hi := Hi.out.below hb; clear Hi; have Hi := Lib.hid hi; clear hi
  have hbx := Hbx.out.below hb; clear Hbx; have Hbx := Lib.hid hbx; clear hbx
  have hbw := HBW.out.trans (hb.mono HBW.out.size); clear HBW hb; have HBW := Lib.hid hbw; clear hbw
  go_wp2_with fail
  refine (withinW Hg.out Hf.out (by have := Lg.out; omega) (by have := Lf.out; omega) (decide_eq_true (by rw [QQ.out.1, QQ.out.2]; exact al_more AA.out.2 AA.out.1)) _ (Below.refl _ _)).mono ?_; rintro e v5 ⟨rfl, hb⟩
  have hf := Hf.out.below hb; clear Hf; have Hf := Lib.hid hf; clear hf
  have hg := Hg.out.below hb; clear Hg; have Hg := Lib.hid hg; clear hg
  have hi := Hi.out.below hb; clear Hi; have Hi := Lib.hid hi; clear hi
  have hbx := Hbx.out.below hb; clear Hbx; have Hbx := Lib.hid hbx; clear hbx
  have hbw := HBW.out.trans (hb.mono HBW.out.size); clear HBW hb; have HBW := Lib.hid hbw; clear hbw
  obtain ⟨hh, hhv⟩ : ∃ v, decide (Inside f t) = v := ⟨_, rfl⟩
  obtain ⟨hp, hpv⟩ : ∃ v, decide (0 < f.length) = v := ⟨_, rfl⟩
  have hsm : decide (f = g) = (hp && !hh) := by rw [← hhv, ← hpv, QQ.out.1, QQ.out.2]; exact same_more AA.out.2 AA.out.1
  have SM := Lib.hid hsm; have HH := Lib.hid hhv; clear hsm hhv
  cases hp with
  | true =>
    have hp1 : 0 < f.length := of_decide_eq_true hpv
    have hp2 : decide ((f.length : Int) > 0) = true := decide_eq_true (by omega)
    clear hpv
    cases hh with
    | true =>
      go_wp2_with fail
      refine (refSameW Hf.out Hg.out (by have := Lf.out; omega) (by have := Lg.out; omega) SM.out _ (Below.refl _ _)).mono ?_; rintro e v16 ⟨rfl, hb⟩
      have hf := Hf.out.below hb; clear Hf; have Hf := Lib.hid hf; clear hf
      have hg := Hg.out.below hb; clear Hg; have Hg := Lib.hid hg; clear hg
      have hi := Hi.out.below hb; clear Hi; have Hi := Lib.hid hi; clear hi
      have hbx := Hbx.out.below hb; clear Hbx; have Hbx := Lib.hid hbx; clear hbx
      have hbw := HBW.out.trans (hb.mono HBW.out.size); clear HBW hb; have HBW := Lib.hid hbw; clear hbw
      obtain ⟨c0, c1, c2, c3, c4⟩ := Hbx.out.cells5
      have hlt := Hbx.out.lt
      go_wp2_with fail
      refine (holdsW (t := t) Hf.out (by have := Lf.out; omega) HH.out _ (Below.refl _ _)).mono ?_; rintro e v17 ⟨rfl, hb⟩
      clear c0 c1 c2 c3 c4 hlt
      have hf := Hf.out.below hb; clear Hf; have Hf := Lib.hid hf; clear hf
      have hg := Hg.out.below hb; clear Hg; have Hg := Lib.hid hg; clear hg
      have hi := Hi.out.below hb; clear Hi; have Hi := Lib.hid hi; clear hi
      have hbx := Hbx.out.below hb; clear Hbx; have Hbx := Lib.hid hbx; clear hbx
      have hbw := HBW.out.trans (hb.mono HBW.out.size); clear HBW hb; have HBW := Lib.hid hbw; clear hbw
      go_wp2_with fail
      refine (WW.out _).mono ?_; rintro e we ⟨rfl, hbe⟩
      go_wp2_with fail
      go_ret
      exact ⟨rfl, HBW.out.trans (hbe.mono HBW.out.size)⟩
    | false =>
      go_wp2_with fail
      refine (refSameW Hf.out Hg.out (by have := Lf.out; omega) (by have := Lg.out; omega) SM.out _ (Below.refl _ _)).mono ?_; rintro e v16 ⟨rfl, hb⟩
      have hf := Hf.out.below hb; clear Hf; have Hf := Lib.hid hf; clear hf
      have hg := Hg.out.below hb; clear Hg; have Hg := Lib.hid hg; clear hg
      have hi := Hi.out.below hb; clear Hi; have Hi := Lib.hid hi; clear hi
      have hbx := Hbx.out.below hb; clear Hbx; have Hbx := Lib.hid hbx; clear hbx
      have hbw := HBW.out.trans (hb.mono HBW.out.size); clear HBW hb; have HBW := Lib.hid hbw; clear hbw
      obtain ⟨c0, c1, c2, c3, c4⟩ := Hbx.out.cells5
      have hlt := Hbx.out.lt
      go_wp2_with fail
      refine (holdsW (t := t) Hf.out (by have := Lf.out; omega) HH.out _ (Below.refl _ _)).mono ?_; rintro e v17 ⟨rfl, hb⟩
      clear c0 c1 c2 c3 c4 hlt
      have hf := Hf.out.below hb; clear Hf; have Hf := Lib.hid hf; clear hf
      have hg := Hg.out.below hb; clear Hg; have Hg := Lib.hid hg; clear hg
      have hi := Hi.out.below hb; clear Hi; have Hi := Lib.hid hi; clear hi
      have hbx := Hbx.out.below hb; clear Hbx; have Hbx := Lib.hid hbx; clear hbx
      have hbw := HBW.out.trans (hb.mono HBW.out.size); clear HBW hb; have HBW := Lib.hid hbw; clear hbw
      go_wp2_with fail
      refine (WW.out _).mono ?_; rintro e we ⟨rfl, hbe⟩
      go_wp2_with fail
      go_ret
      exact ⟨rfl, HBW.out.trans (hbe.mono HBW.out.size)⟩
  | false =>
    have hp1 : ¬ 0 < f.length := of_decide_eq_false hpv
    have hp2 : decide ((f.length : Int) > 0) = false := decide_eq_false (by omega)
    go_wp2_with fail
    refine (refSameW Hf.out Hg.out (by have := Lf.out; omega) (by have := Lg.out; omega) SM.out _ (Below.refl _ _)).mono ?_; rintro e v16 ⟨rfl, hb⟩
    have hf := Hf.out.below hb; clear Hf; have Hf := Lib.hid hf; clear hf
    have hg := Hg.out.below hb; clear Hg; have Hg := Lib.hid hg; clear hg
    have hi := Hi.out.below hb; clear Hi; have Hi := Lib.hid hi; clear hi
    have hbx := Hbx.out.below hb; clear Hbx; have Hbx := Lib.hid hbx; clear hbx
    have hbw := HBW.out.trans (hb.mono HBW.out.size); clear HBW hb; have HBW := Lib.hid hbw; clear hbw
    go_wp2_with fail
    refine (WW.out _).mono ?_; rintro e we ⟨rfl, hbe⟩
    go_wp2_with fail
    go_ret
    exact ⟨rfl, HBW.out.trans (hbe.mono HBW.out.size)⟩

set_option maxRecDepth 100000 in
theorem lifted (os : Os) (started : os.Started) (H : Type) (enc : TypeId × Value → H) :
    ReturnsInHanded {} Try.checked os 8 .any (Rows.antichainMoreSpec.pre6 enc Try.prog Try.f8 Rows.antichainMoreRow.domain false) (Rows.antichainMoreSpec.post enc Try.prog Try.f8 false true false false) := by
  refine returnsInHanded_of_change_sized (C := Try.checked) ownKnob_none started (by kernel_rfl) Try.func8
    (ChangeSpec.witness6 (enc := enc) (C := Try.checked) false ⟨#[], #[.slice none 0 0, .agg #[.int .i64 0, .int .i64 0, .int .i64 0, .int .i64 0, .int .i64 0]], []⟩ 8 (by kernel_rfl) (by kernel_rfl) (by kernel_rfl) (by kernel_rfl)) ?_
  intro W base args ds gs before hval0 hW hcnd hsz0 _
  have hval : ∀ (j : Nat) t v, Try.f8.params[j]? = some t → args[j]? = some v → Value.okWide Try.prog W .any base t v := hval0
  have hW' := hW
  obtain ⟨p, q, hA0, hV, rfl, hfz, hnd⟩ := hW
  have hA : DataW.TrodAll enc Try.prog W 0 (fun _ => true) true Try.f8.params.toList args.toList ds p := hA0
  have hsz : (DataW.weightsEach Try.prog (Try.f8.params.toList ++ Rows.antichainMoreSpec.plain.varTypes Try.prog) (ds ++ gs)).all (· ≤ reachBytes) = true := hsz0
  rw [Try.params8] at hA hval hsz
  obtain ⟨v0, vs0, d0, ds0, p0, q0, hargs, rfl, rfl, h0, r0⟩ := trodAll_cons hA
  obtain ⟨v1, vs1, d1, ds1, p1, q1, rfl, rfl, rfl, h1, r1⟩ := trodAll_cons r0
  obtain ⟨rfl, rfl, rfl⟩ := trodAll_nil r1
  obtain rfl : args = #[v0, v1] := by cases args; simp_all
  obtain ⟨rfl, rfl⟩ := trodVars_none hV
  obtain ⟨A0, l0, c0, rfl, hT0, hc0, hm0, hn0⟩ := open_times (hval 0 22 v0 rfl rfl) h0
  obtain ⟨t1, rfl⟩ := open_stamp (hval 1 32 v1 rfl rfl) h1
  clear hA0 hval0 hsz0
  refine (walk A0 l0 c0 t1 W ⟨hT0, hc0, hm0, hn0⟩).mono fun e W' ⟨he, hg⟩ => ?_
  subst he
  exact ⟨_, rfl, law_post progLaid hW' rfl (by rw [Try.params8]; intro t ht; simp at ht; rcases ht with rfl | rfl <;> exact ⟨by kernel_rfl, of_decide_eq_true (by kernel_rfl)⟩) rfl Try.underlying4 rfl hg⟩

theorem over : Rows.antichainMoreRow.holds Try.pinned (OpenSpec.ofChange Rows.antichainMoreSpec) :=
  OpenClaim.holds_of_wide 8 Try.f8 rfl rfl rfl rfl rfl rfl rfl ⟨rfl, rfl, rfl, rfl, rfl⟩ rfl rfl rfl rfl rfl (by kernel_rfl) Try.func8 (by kernel_rfl)
    (of_decide_eq_true (by kernel_rfl)) (by unfold Func.isWrapper; first | (rw [if_pos (by decide +kernel)]; kernel_rfl) | (rw [if_neg (by decide +kernel)]; exact ⟨rfl, rfl⟩))
    (fun os started H enc _ => lifted os started H enc)

/-- The statement. -/
theorem proved : Rows.AntichainMoreSaid :=
  over
end antichainMore
end Go.Proofs.Ytpcpjnebdhiddaa
