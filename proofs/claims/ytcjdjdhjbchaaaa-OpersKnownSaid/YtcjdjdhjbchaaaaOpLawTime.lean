/- OpersTime: the time at which any node gives out is the document's. -/
import Derived.Test.YtcjdjdhjbchaaaaCa25
import Derived.Test.YtcjdjdhjbchaaaaCa26
import Derived.Test.YtcjdjdhjbchaaaaCa9
import Derived.Test.YtcjdjdhjbchaaaaCa21
import Derived.SizedLaws
namespace Go.Proofs.Ytcjdjdhjbchaaaa
open Go.ChangeShapes Go.WideShapes Go.ChangeAt Go.RowKit Go.BigFrame
open Vr _root_.Go.Proofs.Ytcjdjdhjbchaaaa.Op
set_option linter.unusedVariables false
set_option maxRecDepth 100000
namespace opersTime
set_option maxHeartbeats 2000000 in
theorem walk (n : Nd) (NA : Option Addr) (nm nc : Nat) (t : St) (w : World) : Calls Try.prog 4 #[nodeV n NA nm nc, t.val] w fun e w' => e = .returned (.bool true) ∧ Below w.heap.size w w' := by
  have HC := Lib.hid fun w' => time_any n NA nm nc t w'
  have HR := Lib.hid fun w' => refTime_any n NA nm nc t w'
  have HK := Lib.hid works_any
  obtain ⟨q, hq⟩ : ∃ q, ov (timeR n t) = q := ⟨_, rfl⟩
  rw [hq] at HC HR
  generalize (timeR n t).isSome = B at *
  clear hq
  have hb := ((Below.refl _ w).alloc (Nat.le_refl _) (.cells #[.int .u8 (n.k : Nat), .int .u8 (n.a : Nat), .int .i64 n.b, .int .i64 n.d, .slice NA nm nc] 24)).alloc (by simp) (.cells #[.int .i64 t.d, .int .i64 t.e, .int .i64 t.x, .int .i64 t.y, .int .i64 t.z] 40)
  have hn := (node_box w n NA nm nc).alloc (.cells #[.int .i64 t.d, .int .i64 t.e, .int .i64 t.x, .int .i64 t.y, .int .i64 t.z] 40)
  have hr := Row.made (w.alloc (.cells #[.int .u8 (n.k : Nat), .int .u8 (n.a : Nat), .int .i64 n.b, .int .i64 n.d, .slice NA nm nc] 24)) 40 [.int .i64 t.d, .int .i64 t.e, .int .i64 t.x, .int .i64 t.y, .int .i64 t.z]
  rw [size_alloc] at hr
  simp only [List.toArray] at hr
  have HB := Lib.hid hb; have HN := Lib.hid hn; have HRW := Lib.hid hr; clear hb hn hr
  go_enter Try.func4, Try.ntmps4
  go_wp2_with fail
  refine (HC.out _).mono ?_; rintro e w1 ⟨rfl, hb1⟩
  have h1 := HB.out.trans (hb1.mono HB.out.size); have h2 := HN.out.below hb1 HN.out.lt; have h3 := HRW.out.below hb1 HRW.out.lt
  have HB1 := Lib.hid h1; have HN1 := Lib.hid h2; have HRW1 := Lib.hid h3; clear h1 h2 h3 hb1 HB HN HRW HC
  dsimp only
  go_upto_region 2 with fail
  have h1 := HB1.out.alloc HB1.out.size (.cells #[.int .i64 q.d, .int .i64 q.e, .int .i64 q.x, .int .i64 q.y, .int .i64 q.z] 40)
  have h2 := HN1.out.alloc (.cells #[.int .i64 q.d, .int .i64 q.e, .int .i64 q.x, .int .i64 q.y, .int .i64 q.z] 40)
  have h3 := HRW1.out.alloc (.cells #[.int .i64 q.d, .int .i64 q.e, .int .i64 q.x, .int .i64 q.y, .int .i64 q.z] 40)
  have h4 := Row.made w1 40 [.int .i64 q.d, .int .i64 q.e, .int .i64 q.x, .int .i64 q.y, .int .i64 q.z]
  simp only [List.toArray] at h4
  generalize w1.alloc (.cells #[.int .i64 q.d, .int .i64 q.e, .int .i64 q.x, .int .i64 q.y, .int .i64 q.z] 40) = wz at *
  generalize w1.heap.size = g1 at *
  obtain ⟨m0, m1, m2, m3, m4⟩ := cells5 h2
  obtain ⟨d0, d1, d2, d3, d4⟩ := cells5 h3
  have HB2 := Lib.hid h1; have H4 := Lib.hid h4; clear h1 h2 h3 h4 HB1 HN1 HRW1
  go_wp2_with fail
  refine (HR.out _).mono ?_; rintro e w3 ⟨rfl, hb3⟩
  clear m0 m1 m2 m3 m4 d0 d1 d2 d3 d4
  have h1 := HB2.out.trans (hb3.mono HB2.out.size); have h4 := H4.out.below hb3 H4.out.lt
  have HB3 := Lib.hid h1; have H5 := Lib.hid h4; clear h1 h4 hb3 HB2 H4 HR
  dsimp only
  go_upto_region 3 with fail
  have h1 := HB3.out.alloc HB3.out.size (.cells #[.int .i64 q.d, .int .i64 q.e, .int .i64 q.x, .int .i64 q.y, .int .i64 q.z] 40)
  have h3 := H5.out.alloc (.cells #[.int .i64 q.d, .int .i64 q.e, .int .i64 q.x, .int .i64 q.y, .int .i64 q.z] 40)
  have h4 := Row.made w3 40 [.int .i64 q.d, .int .i64 q.e, .int .i64 q.x, .int .i64 q.y, .int .i64 q.z]
  simp only [List.toArray] at h4
  generalize w3.alloc (.cells #[.int .i64 q.d, .int .i64 q.e, .int .i64 q.x, .int .i64 q.y, .int .i64 q.z] 40) = wy at *
  generalize w3.heap.size = g2 at *
  obtain ⟨m0, m1, m2, m3, m4⟩ := cells5 h3
  obtain ⟨d0, d1, d2, d3, d4⟩ := cells5 h4
  have heq := fun w => eq3 9997 q.x q.y q.z q.x q.y q.z w
  have HB4 := Lib.hid h1; clear h1 h3 h4 HB3 H5
  go_wp2_with fail
  refine (HK.out _).mono ?_; rintro e w4 ⟨rfl, hb4⟩
  have HB5 := Lib.hid (HB4.out.trans (hb4.mono HB4.out.size)); clear hb4 heq m0 m1 m2 m3 m4 d0 d1 d2 d3 d4
  dsimp only
  go_wp2_with fail
  go_ret
  exact ⟨rfl, HB5.out⟩

set_option maxRecDepth 100000 in
theorem lifted (os : Os) (started : os.Started) (H : Type) (enc : TypeId × Value → H) :
    ReturnsInHanded {} Try.checked os 4 .any (Rows.opersTimeSpec.pre6 enc Try.prog Try.f4 Rows.opersTimeRow.domain false) (Rows.opersTimeSpec.post enc Try.prog Try.f4 false true false false) := by
  refine returnsInHanded_of_change_sized (C := Try.checked) ownKnob_none started (by kernel_rfl) Try.func4
    (ChangeSpec.witness6 (enc := enc) (C := Try.checked) false ⟨#[], #[.agg #[.int .u8 0, .int .u8 0, .int .i64 0, .int .i64 0, .slice none 0 0], .agg #[.int .i64 0, .int .i64 0, .int .i64 0, .int .i64 0, .int .i64 0]], []⟩ 8 (by kernel_rfl) (by kernel_rfl) (by kernel_rfl) (by kernel_rfl)) ?_
  intro W base args ds gs before hval0 hW hcnd hsz0 _
  have hval : ∀ (j : Nat) t v, Try.f4.params[j]? = some t → args[j]? = some v → Value.okWide Try.prog W .any base t v := hval0
  have hW' := hW
  obtain ⟨p, q, hA0, hV, rfl, hfz, hnd⟩ := hW
  have hA : DataW.TrodAll enc Try.prog W 0 (fun _ => true) true Try.f4.params.toList args.toList ds p := hA0
  have hsz : (DataW.weightsEach Try.prog (Try.f4.params.toList ++ Rows.opersTimeSpec.plain.varTypes Try.prog) (ds ++ gs)).all (· ≤ reachBytes) = true := hsz0
  rw [Try.params4] at hA hval hsz
  obtain ⟨v0, vs0, d0, ds0, p0, q0, hargs, rfl, rfl, h0, r0⟩ := trodAll_cons hA
  obtain ⟨v1, vs1, d1, ds1, p1, q1, rfl, rfl, rfl, h1, r1⟩ := trodAll_cons r0
  obtain ⟨rfl, rfl, rfl⟩ := trodAll_nil r1
  obtain rfl : args = #[v0, v1] := by cases args; simp_all
  obtain ⟨rfl, rfl⟩ := trodVars_none hV
  obtain ⟨n0, NA0, nm0, nc0, rfl, hN0⟩ := Op.open_node (hval 0 24 v0 rfl rfl) h0
  obtain ⟨t1, rfl⟩ := open_stamp (hval 1 40 v1 rfl rfl) h1
  clear hA0 hval0 hsz0
  refine (walk n0 NA0 nm0 nc0 t1 W).mono fun e W' ⟨he, hg⟩ => ?_
  subst he
  exact ⟨_, rfl, law_post progLaid hW' rfl (by rw [Try.params4]; intro t ht; simp at ht; rcases ht with rfl | rfl <;> exact ⟨by kernel_rfl, of_decide_eq_true (by kernel_rfl)⟩) rfl Try.underlying4 rfl hg⟩

theorem over : Rows.opersTimeRow.holds Try.pinned (OpenSpec.ofChange Rows.opersTimeSpec) :=
  OpenClaim.holds_of_wide 4 Try.f4 rfl rfl rfl rfl rfl rfl rfl ⟨rfl, rfl, rfl, rfl, rfl⟩ rfl rfl rfl rfl rfl (by kernel_rfl) Try.func4 (by kernel_rfl)
    (of_decide_eq_true (by kernel_rfl)) (by unfold Func.isWrapper; first | (rw [if_pos (by decide +kernel)]; kernel_rfl) | (rw [if_neg (by decide +kernel)]; exact ⟨rfl, rfl⟩))
    (fun os started H enc _ => lifted os started H enc)

/-- The statement. -/
theorem proved : Rows.OpersTimeSaid :=
  over
end opersTime
end Go.Proofs.Ytcjdjdhjbchaaaa
