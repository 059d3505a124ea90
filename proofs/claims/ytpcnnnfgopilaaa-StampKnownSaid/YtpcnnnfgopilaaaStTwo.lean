/- StampTwo: of any two times it is told which is at or ahead of the other, how they are ordered, and what their join and their meet are, as the document has it; for all times. -/
import Derived.Test.YtpcnnnfgopilaaaStFrame
namespace Go.Proofs.Ytpcnnnfgopilaaa
open Go.ChangeShapes Go.WideShapes Go.ChangeAt Go.RowKit Go.BigFrame
set_option linter.unusedVariables false
namespace stampTwo
set_option maxRecDepth 100000 in
set_option maxHeartbeats 4000000 in
theorem walk (a b : St) (w : World) : Calls Try.prog 4 #[a.val, b.val] w fun e w' => e = .returned (.bool true) ∧ Below w.heap.size w w' := by
  have c1 := fun w => join_any a b w
  have c2 := fun w => refJoin_any a b w
  have c3 := fun w => meet_any a b w
  have c4 := fun w => refMeet_any a b w
  have c5 := fun w => leq_any a b w
  have c6 := fun w => refLeq_any a b w
  have c7 := fun w => compare_any a b w
  have c8 := fun w => refCompare_any a b w
  have c9 := fun w => works_any w
  generalize a.join b = J at *
  generalize a.meet b = M at *
  generalize decide (a.B b) = B at *
  generalize decide (a.L b) = L at *
  generalize a.C b = C at *
  unfold St.val at *
  have C1 := Lib.hid c1; clear c1
  have C2 := Lib.hid c2; clear c2
  have C3 := Lib.hid c3; clear c3
  have C4 := Lib.hid c4; clear c4
  have C5 := Lib.hid c5; clear c5
  have C6 := Lib.hid c6; clear c6
  have C7 := Lib.hid c7; clear c7
  have C8 := Lib.hid c8; clear c8
  have C9 := Lib.hid c9; clear c9
  have ha := Holds.made w a
  have ha := ha.alloc (.cells #[.int .i64 b.d, .int .i64 b.e, .int .i64 b.x, .int .i64 b.y, .int .i64 b.z] 24)
  have hb := Holds.made (w.alloc (.cells #[.int .i64 a.d, .int .i64 a.e, .int .i64 a.x, .int .i64 a.y, .int .i64 a.z] 24)) b
  rw [size_alloc] at hb
  have hbw : Below w.heap.size w ((w.alloc (.cells #[.int .i64 a.d, .int .i64 a.e, .int .i64 a.x, .int .i64 a.y, .int .i64 a.z] 24)).alloc (.cells #[.int .i64 b.d, .int .i64 b.e, .int .i64 b.x, .int .i64 b.y, .int .i64 b.z] 24)) := ((Below.refl _ _).alloc (by simp) _).alloc (by simp) _
  have Ha := Lib.hid ha; clear ha
  have Hb := Lib.hid hb; clear hb
  have HBW := Lib.hid hbw; clear hbw
  go_enter Try.func4, Try.ntmps4
  go_wp2_with fail
  generalize (w.alloc (.cells #[.int .i64 a.d, .int .i64 a.e, .int .i64 a.x, .int .i64 a.y, .int .i64 a.z] 24)).alloc (.cells #[.int .i64 b.d, .int .i64 b.e, .int .i64 b.x, .int .i64 b.y, .int .i64 b.z] 24) = w0 at *
  refine (C1.out _).mono ?_; rintro e v1 ⟨rfl, hbel⟩
  have ha := Ha.out.below hbel; clear Ha
  have hb := Hb.out.below hbel; clear Hb
  have hbw := HBW.out.trans (hbel.mono HBW.out.size); clear HBW hbel
  have Ha := Lib.hid ha; clear ha
  have Hb := Lib.hid hb; clear hb
  have HBW := Lib.hid hbw; clear hbw
  have la := Ha.out.lt
  have lb := Hb.out.lt
  obtain ⟨ca0, ca1, ca2, ca3, ca4⟩ := Ha.out.cells5
  obtain ⟨cb0, cb1, cb2, cb3, cb4⟩ := Hb.out.cells5
  go_wp2_with fail
  clear la lb ca0 ca1 ca2 ca3 ca4 cb0 cb1 cb2 cb3 cb4
  have ha := Ha.out.alloc (.cells #[.int .i64 J.d, .int .i64 J.e, .int .i64 J.x, .int .i64 J.y, .int .i64 J.z] 24); clear Ha
  have hb := Hb.out.alloc (.cells #[.int .i64 J.d, .int .i64 J.e, .int .i64 J.x, .int .i64 J.y, .int .i64 J.z] 24); clear Hb
  have hx := Holds.made v1 J
  have hbw := HBW.out.alloc HBW.out.size (.cells #[.int .i64 J.d, .int .i64 J.e, .int .i64 J.x, .int .i64 J.y, .int .i64 J.z] 24); clear HBW
  generalize v1.alloc (.cells #[.int .i64 J.d, .int .i64 J.e, .int .i64 J.x, .int .i64 J.y, .int .i64 J.z] 24) = v2 at *
  generalize v1.heap.size = gx at *
  have Ha := Lib.hid ha; clear ha
  have Hb := Lib.hid hb; clear hb
  have Hx := Lib.hid hx; clear hx
  have HBW := Lib.hid hbw; clear hbw
  refine (C2.out _).mono ?_; rintro e v3 ⟨rfl, hbel⟩
  have ha := Ha.out.below hbel; clear Ha
  have hb := Hb.out.below hbel; clear Hb
  have hx := Hx.out.below hbel; clear Hx
  have hbw := HBW.out.trans (hbel.mono HBW.out.size); clear HBW hbel
  have Ha := Lib.hid ha; clear ha
  have Hb := Lib.hid hb; clear hb
  have Hx := Lib.hid hx; clear hx
  have HBW := Lib.hid hbw; clear hbw
  have la := Ha.out.lt
  have lb := Hb.out.lt
  have lx := Hx.out.lt
  obtain ⟨ca0, ca1, ca2, ca3, ca4⟩ := Ha.out.cells5
  obtain ⟨cb0, cb1, cb2, cb3, cb4⟩ := Hb.out.cells5
  go_wp2_with fail
  clear la lb lx ca0 ca1 ca2 ca3 ca4 cb0 cb1 cb2 cb3 cb4
  have ha := Ha.out.alloc (.cells #[.int .i64 J.d, .int .i64 J.e, .int .i64 J.x, .int .i64 J.y, .int .i64 J.z] 24); clear Ha
  have hb := Hb.out.alloc (.cells #[.int .i64 J.d, .int .i64 J.e, .int .i64 J.x, .int .i64 J.y, .int .i64 J.z] 24); clear Hb
  have hx := Hx.out.alloc (.cells #[.int .i64 J.d, .int .i64 J.e, .int .i64 J.x, .int .i64 J.y, .int .i64 J.z] 24); clear Hx
  have hy := Holds.made v3 J
  have hbw := HBW.out.alloc HBW.out.size (.cells #[.int .i64 J.d, .int .i64 J.e, .int .i64 J.x, .int .i64 J.y, .int .i64 J.z] 24); clear HBW
  generalize v3.alloc (.cells #[.int .i64 J.d, .int .i64 J.e, .int .i64 J.x, .int .i64 J.y, .int .i64 J.z] 24) = v4 at *
  generalize v3.heap.size = gy at *
  have Ha := Lib.hid ha; clear ha
  have Hb := Lib.hid hb; clear hb
  have Hx := Lib.hid hx; clear hx
  have Hy := Lib.hid hy; clear hy
  have HBW := Lib.hid hbw; clear hbw
  refine (C3.out _).mono ?_; rintro e v5 ⟨rfl, hbel⟩
  have ha := Ha.out.below hbel; clear Ha
  have hb := Hb.out.below hbel; clear Hb
  have hx := Hx.out.below hbel; clear Hx
  have hy := Hy.out.below hbel; clear Hy
  have hbw := HBW.out.trans (hbel.mono HBW.out.size); clear HBW hbel
  have Ha := Lib.hid ha; clear ha
  have Hb := Lib.hid hb; clear hb
  have Hx := Lib.hid hx; clear hx
  have Hy := Lib.hid hy; clear hy
  have HBW := Lib.hid hbw; clear hbw
  have la := Ha.out.lt
  have lb := Hb.out.lt
  have lx := Hx.out.lt
  have ly := Hy.out.lt
  obtain ⟨ca0, ca1, ca2, ca3, ca4⟩ := Ha.out.cells5
  obtain ⟨cb0, cb1, cb2, cb3, cb4⟩ := Hb.out.cells5
  go_wp2_with fail
  clear la lb lx ly ca0 ca1 ca2 ca3 ca4 cb0 cb1 cb2 cb3 cb4
  have ha := Ha.out.alloc (.cells #[.int .i64 M.d, .int .i64 M.e, .int .i64 M.x, .int .i64 M.y, .int .i64 M.z] 24); clear Ha
  have hb := Hb.out.alloc (.cells #[.int .i64 M.d, .int .i64 M.e, .int .i64 M.x, .int .i64 M.y, .int .i64 M.z] 24); clear Hb
  have hx := Hx.out.alloc (.cells #[.int .i64 M.d, .int .i64 M.e, .int .i64 M.x, .int .i64 M.y, .int .i64 M.z] 24); clear Hx
  have hy := Hy.out.alloc (.cells #[.int .i64 M.d, .int .i64 M.e, .int .i64 M.x, .int .i64 M.y, .int .i64 M.z] 24); clear Hy
  have hz := Holds.made v5 M
  have hbw := HBW.out.alloc HBW.out.size (.cells #[.int .i64 M.d, .int .i64 M.e, .int .i64 M.x, .int .i64 M.y, .int .i64 M.z] 24); clear HBW
  generalize v5.alloc (.cells #[.int .i64 M.d, .int .i64 M.e, .int .i64 M.x, .int .i64 M.y, .int .i64 M.z] 24) = v6 at *
  generalize v5.heap.size = gz at *
  have Ha := Lib.hid ha; clear ha
  have Hb := Lib.hid hb; clear hb
  have Hx := Lib.hid hx; clear hx
  have Hy := Lib.hid hy; clear hy
  have Hz := Lib.hid hz; clear hz
  have HBW := Lib.hid hbw; clear hbw
  refine (C4.out _).mono ?_; rintro e v7 ⟨rfl, hbel⟩
  have ha := Ha.out.below hbel; clear Ha
  have hb := Hb.out.below hbel; clear Hb
  have hx := Hx.out.below hbel; clear Hx
  have hy := Hy.out.below hbel; clear Hy
  have hz := Hz.out.below hbel; clear Hz
  have hbw := HBW.out.trans (hbel.mono HBW.out.size); clear HBW hbel
  have Ha := Lib.hid ha; clear ha
  have Hb := Lib.hid hb; clear hb
  have Hx := Lib.hid hx; clear hx
  have Hy := Lib.hid hy; clear hy
  have Hz := Lib.hid hz; clear hz
  have HBW := Lib.hid hbw; clear hbw
  have la := Ha.out.lt
  have lb := Hb.out.lt
  have lx := Hx.out.lt
  have ly := Hy.out.lt
  have lz := Hz.out.lt
  go_wp2_with fail
  clear la lb lx ly lz
  have ha := Ha.out.alloc (.cells #[.int .i64 M.d, .int .i64 M.e, .int .i64 M.x, .int .i64 M.y, .int .i64 M.z] 24); clear Ha
  have hb := Hb.out.alloc (.cells #[.int .i64 M.d, .int .i64 M.e, .int .i64 M.x, .int .i64 M.y, .int .i64 M.z] 24); clear Hb
  have hx := Hx.out.alloc (.cells #[.int .i64 M.d, .int .i64 M.e, .int .i64 M.x, .int .i64 M.y, .int .i64 M.z] 24); clear Hx
  have hy := Hy.out.alloc (.cells #[.int .i64 M.d, .int .i64 M.e, .int .i64 M.x, .int .i64 M.y, .int .i64 M.z] 24); clear Hy
  have hz := Hz.out.alloc (.cells #[.int .i64 M.d, .int .i64 M.e, .int .i64 M.x, .int .i64 M.y, .int .i64 M.z] 24); clear Hz
  have hu := Holds.made v7 M
  have hbw := HBW.out.alloc HBW.out.size (.cells #[.int .i64 M.d, .int .i64 M.e, .int .i64 M.x, .int .i64 M.y, .int .i64 M.z] 24); clear HBW
  generalize v7.alloc (.cells #[.int .i64 M.d, .int .i64 M.e, .int .i64 M.x, .int .i64 M.y, .int .i64 M.z] 24) = v8 at *
  generalize v7.heap.size = gu at *
  have Ha := Lib.hid ha; clear ha
  have Hb := Lib.hid hb; clear hb
  have Hx := Lib.hid hx; clear hx
  have Hy := Lib.hid hy; clear hy
  have Hz := Lib.hid hz; clear hz
  have Hu := Lib.hid hu; clear hu
  have HBW := Lib.hid hbw; clear hbw
  refine wp_region_below (by kernel_rfl) (by kernel_rfl) ?_
  repeat (refine wpQuiet_step (fun K hK => ?_); (first
    | ((first
      | (refine q_load (p := .pointer (some ⟨w.heap.size, 0, none⟩)) 24 _ rfl rfl rfl (load_t Ha.out) ?_)
      | (refine q_load (p := .pointer (some ⟨(w.heap.size + 1), 0, none⟩)) 24 _ rfl rfl rfl (load_t Hb.out) ?_)
      | (refine q_load (p := .pointer (some ⟨gx, 0, none⟩)) 24 _ rfl rfl rfl (load_t Hx.out) ?_)
      | (refine q_load (p := .pointer (some ⟨gy, 0, none⟩)) 24 _ rfl rfl rfl (load_t Hy.out) ?_)
      | (refine q_load (p := .pointer (some ⟨gz, 0, none⟩)) 24 _ rfl rfl rfl (load_t Hz.out) ?_)
      | (refine q_load (p := .pointer (some ⟨gu, 0, none⟩)) 24 _ rfl rfl rfl (load_t Hu.out) ?_)
      | (refine q_bin _ _ _ _ _ rfl rfl rfl rfl (eqt_self _ _ _) ?_)
      | (refine q_bin _ _ _ _ _ rfl rfl rfl rfl (eqb_self _ _ _) ?_)
      | (refine q_bin _ _ _ _ _ rfl rfl rfl rfl (eqi_self _ _ _) ?_)); go_simp; (with_reducible refine hK _ ?_))
    | (go_simp; (first
      | (with_reducible refine hK _ ?_)
      | (with_reducible refine ⟨_, fun _ _ => rfl, hK _ ?_⟩)
      | (with_reducible refine ⟨_, fun _ hb => (C5.out _).mono fun _ _ h => ⟨h.1, hb.trans (h.2.mono (by simpa using hb.size))⟩, hK _ ?_⟩)
      | (with_reducible refine ⟨_, fun _ hb => (C6.out _).mono fun _ _ h => ⟨h.1, hb.trans (h.2.mono (by simpa using hb.size))⟩, hK _ ?_⟩)
      | (with_reducible refine ⟨_, fun _ hb => (C7.out _).mono fun _ _ h => ⟨h.1, hb.trans (h.2.mono (by simpa using hb.size))⟩, hK _ ?_⟩)
      | (with_reducible refine ⟨_, fun _ hb => (C8.out _).mono fun _ _ h => ⟨h.1, hb.trans (h.2.mono (by simpa using hb.size))⟩, hK _ ?_⟩)
      | (with_reducible refine ⟨_, fun _ hb => (C9.out _).mono fun _ _ h => ⟨h.1, hb.trans (h.2.mono (by simpa using hb.size))⟩, hK _ ?_⟩)))); clear hK K)
  refine wpQuiet_nil ?_
  intro v9 hbel
  have ha := Ha.out.below hbel; clear Ha
  have hb := Hb.out.below hbel; clear Hb
  have hx := Hx.out.below hbel; clear Hx
  have hy := Hy.out.below hbel; clear Hy
  have hz := Hz.out.below hbel; clear Hz
  have hu := Hu.out.below hbel; clear Hu
  have hbw := HBW.out.trans (hbel.mono HBW.out.size); clear HBW hbel
  have Ha := Lib.hid ha; clear ha
  have Hb := Lib.hid hb; clear hb
  have Hx := Lib.hid hx; clear hx
  have Hy := Lib.hid hy; clear hy
  have Hz := Lib.hid hz; clear hz
  have Hu := Lib.hid hu; clear hu
  have HBW := Lib.hid hbw; clear hbw
  go_wp2_with fail
  go_ret
  exact ⟨rfl, HBW.out⟩

set_option maxRecDepth 100000 in
theorem lifted (os : Os) (started : os.Started) (H : Type) (enc : TypeId × Value → H) :
    ReturnsInHanded {} Try.checked os 4 .any (Rows.stampTwoSpec.pre6 enc Try.prog Try.f4 Rows.stampTwoRow.domain false) (Rows.stampTwoSpec.post enc Try.prog Try.f4 false true false false) := by
  refine returnsInHanded_of_change_sized (C := Try.checked) ownKnob_none started (by kernel_rfl) Try.func4
    (ChangeSpec.witness6 (enc := enc) (C := Try.checked) false ⟨#[], #[.agg #[.int .i64 0, .int .i64 0, .int .i64 0, .int .i64 0, .int .i64 0], .agg #[.int .i64 0, .int .i64 0, .int .i64 0, .int .i64 0, .int .i64 0]], []⟩ 8 (by kernel_rfl) (by kernel_rfl) (by kernel_rfl) (by kernel_rfl)) ?_
  intro W base args ds gs before hval0 hW hcnd hsz0 _
  have hval : ∀ (j : Nat) t v, Try.f4.params[j]? = some t → args[j]? = some v → Value.okWide Try.prog W .any base t v := hval0
  have hW' := hW
  obtain ⟨p, q, hA0, hV, rfl, hfz, hnd⟩ := hW
  have hA : DataW.TrodAll enc Try.prog W 0 (fun _ => true) true Try.f4.params.toList args.toList ds p := hA0
  have hsz : (DataW.weightsEach Try.prog (Try.f4.params.toList ++ Rows.stampTwoSpec.plain.varTypes Try.prog) (ds ++ gs)).all (· ≤ reachBytes) = true := hsz0
  rw [Try.params4] at hA hval hsz
  obtain ⟨v0, vs0, d0, ds0, p0, q0, hargs, rfl, rfl, h0, r0⟩ := trodAll_cons hA
  obtain ⟨v1, vs1, d1, ds1, p1, q1, rfl, rfl, rfl, h1, r1⟩ := trodAll_cons r0
  obtain ⟨rfl, rfl, rfl⟩ := trodAll_nil r1
  obtain rfl : args = #[v0, v1] := by cases args; simp_all
  obtain ⟨rfl, rfl⟩ := trodVars_none hV
  obtain ⟨t0, rfl⟩ := open_stamp (hval 0 24 v0 rfl rfl) h0
  obtain ⟨t1, rfl⟩ := open_stamp (hval 1 24 v1 rfl rfl) h1
  clear hA0 hval0 hsz0
  refine (walk t0 t1 W).mono fun e W' ⟨he, hg⟩ => ?_
  subst he
  exact ⟨_, rfl, law_post progLaid hW' rfl (by rw [Try.params4]; intro t ht; simp at ht; subst ht; exact ⟨by kernel_rfl, of_decide_eq_true (by kernel_rfl)⟩) rfl Try.underlying4 rfl hg⟩

theorem over : Rows.stampTwoRow.holds Try.pinned (OpenSpec.ofChange Rows.stampTwoSpec) :=
  OpenClaim.holds_of_wide 4 Try.f4 rfl rfl rfl rfl rfl rfl rfl ⟨rfl, rfl, rfl, rfl, rfl⟩ rfl rfl rfl rfl rfl (by kernel_rfl) Try.func4 (by kernel_rfl)
    (of_decide_eq_true (by kernel_rfl)) (by unfold Func.isWrapper; first | (rw [if_pos (by decide +kernel)]; kernel_rfl) | (rw [if_neg (by decide +kernel)]; exact ⟨rfl, rfl⟩))
    (fun os started H enc _ => lifted os started H enc)

/-- The statement. -/
theorem proved : Rows.StampTwoSaid :=
  over
end stampTwo
end Go.Proofs.Ytpcnnnfgopilaaa
