/- OpersOf: the worker to which any record goes is the document's. -/
import Derived.Test.YtcjdjdhjbchaaaaCa25
import Derived.Test.YtcjdjdhjbchaaaaCa26
import Derived.Test.YtcjdjdhjbchaaaaCa9
import Derived.Test.YtcjdjdhjbchaaaaCa21
import Derived.SizedLaws
namespace Go.Proofs.Ytcjdjdhjbchaaaa
open Go.ChangeShapes Go.WideShapes Go.ChangeAt Go.RowKit Go.BigFrame
open Vr _root_.Go.Proofs.Ytcjdjdhjbchaaaa.Op
set_option linter.unusedVariables false
set_option maxRecDepth 100000
namespace opersOf
set_option maxHeartbeats 2000000 in
theorem walk (n : Nd) (NA : Option Addr) (nm nc : Nat) (r : Rd) (wk ws : Int) (w : World) : Calls Try.prog 5 #[nodeV n NA nm nc, r.val, .int .i64 wk, .int .i64 ws] w fun e w' => e = .returned (.bool true) ∧ Below w.heap.size w w' := by
  have HC := Lib.hid fun w' => of_any n NA nm nc r wk ws w'
  have HR := Lib.hid fun w' => refOf_any n NA nm nc r wk ws w'
  have HK := Lib.hid works_any
  generalize ofR n.k r.k wk ws = x at *
  have hb := ((Below.refl _ w).alloc (Nat.le_refl _) (.cells #[.int .u8 (n.k : Nat), .int .u8 (n.a : Nat), .int .i64 n.b, .int .i64 n.d, .slice NA nm nc] 24)).alloc (by simp) (.cells #[.int .i64 r.k, .int .i64 r.v] 36)
  have hn := (node_box w n NA nm nc).alloc (.cells #[.int .i64 r.k, .int .i64 r.v] 36)
  have hr := Row.made (w.alloc (.cells #[.int .u8 (n.k : Nat), .int .u8 (n.a : Nat), .int .i64 n.b, .int .i64 n.d, .slice NA nm nc] 24)) 36 [.int .i64 r.k, .int .i64 r.v]
  rw [size_alloc] at hr
  simp only [List.toArray] at hr
  have HB := Lib.hid hb; have HN := Lib.hid hn; have HRW := Lib.hid hr; clear hb hn hr
  go_enter Try.func5, Try.ntmps5
  go_upto_region 1 with fail
  generalize (w.alloc (.cells #[.int .u8 (n.k : Nat), .int .u8 (n.a : Nat), .int .i64 n.b, .int .i64 n.d, .slice NA nm nc] 24)).alloc (.cells #[.int .i64 r.k, .int .i64 r.v] 36) = wz at *
  have HLN : Hid (∀ w', Below wz.heap.size wz w' → (Instr.loadAt 24 (.pointer (some ⟨w.heap.size, 0, none⟩))).run Try.prog w' = .ok (nodeV n NA nm nc) w') := Lib.hid fun w' hb => load_node (HN.out.below hb HN.out.lt)
  have HLR : Hid (∀ w', Below wz.heap.size wz w' → (Instr.loadAt 36 (.pointer (some ⟨w.heap.size + 1, 0, none⟩))).run Try.prog w' = .ok (.agg #[.int .i64 r.k, .int .i64 r.v]) w') := Lib.hid fun w' hb => run_loadAt_part (w.heap.size + 1) 0 36 _ r.cells (fun j v hj => by rw [add_at, Nat.zero_add, (HRW.out.below hb HRW.out.lt).cell]; exact hj) Try.underlying36 rfl (by kernel_rfl)
  refine wp_region_below (by kernel_rfl) (by kernel_rfl) ?_
  refine wpQuiet_step (fun K hK => ?_); refine q_load (p := .pointer (some ⟨w.heap.size, 0, none⟩)) 24 _ rfl rfl rfl (HLN.out) ?_; go_simp; (with_reducible refine hK _ ?_); clear hK K
  refine wpQuiet_step (fun K hK => ?_); refine q_load (p := .pointer (some ⟨w.heap.size + 1, 0, none⟩)) 36 _ rfl rfl rfl (HLR.out) ?_; go_simp; (with_reducible refine hK _ ?_); clear hK K
  refine wpQuiet_step (fun K hK => ?_); go_simp; (first | (with_reducible refine hK _ ?_) | (with_reducible refine ⟨_, fun _ _ => rfl, hK _ ?_⟩)); clear hK K
  refine wpQuiet_step (fun K hK => ?_); go_simp; (first | (with_reducible refine hK _ ?_) | (with_reducible refine ⟨_, fun _ _ => rfl, hK _ ?_⟩)); clear hK K
  refine wpQuiet_step (fun K hK => ?_); go_simp; (with_reducible refine ⟨_, fun _ hb => (HC.out _).mono fun _ _ h => ⟨h.1, hb.trans (h.2.mono (by simpa using hb.size))⟩, hK _ ?_⟩); clear hK K
  refine wpQuiet_step (fun K hK => ?_); refine q_load (p := .pointer (some ⟨w.heap.size, 0, none⟩)) 24 _ rfl rfl rfl (HLN.out) ?_; go_simp; (with_reducible refine hK _ ?_); clear hK K
  refine wpQuiet_step (fun K hK => ?_); refine q_load (p := .pointer (some ⟨w.heap.size + 1, 0, none⟩)) 36 _ rfl rfl rfl (HLR.out) ?_; go_simp; (with_reducible refine hK _ ?_); clear hK K
  refine wpQuiet_step (fun K hK => ?_); go_simp; (first | (with_reducible refine hK _ ?_) | (with_reducible refine ⟨_, fun _ _ => rfl, hK _ ?_⟩)); clear hK K
  refine wpQuiet_step (fun K hK => ?_); go_simp; (first | (with_reducible refine hK _ ?_) | (with_reducible refine ⟨_, fun _ _ => rfl, hK _ ?_⟩)); clear hK K
  refine wpQuiet_step (fun K hK => ?_); go_simp; (with_reducible refine ⟨_, fun _ hb => (HR.out _).mono fun _ _ h => ⟨h.1, hb.trans (h.2.mono (by simpa using hb.size))⟩, hK _ ?_⟩); clear hK K
  refine wpQuiet_step (fun K hK => ?_); go_simp; (first | (with_reducible refine hK _ ?_) | (with_reducible refine ⟨_, fun _ _ => rfl, hK _ ?_⟩)); clear hK K
  refine wpQuiet_step (fun K hK => ?_); go_simp; (first | (with_reducible refine hK _ ?_) | (with_reducible refine ⟨_, fun _ _ => rfl, hK _ ?_⟩)); clear hK K
  refine wpQuiet_step (fun K hK => ?_); go_simp; (with_reducible refine ⟨_, fun _ hb => (HK.out _).mono fun _ _ h => ⟨h.1, hb.trans (h.2.mono (by simpa using hb.size))⟩, hK _ ?_⟩); clear hK K
  refine wpQuiet_step (fun K hK => ?_); go_simp; (first | (with_reducible refine hK _ ?_) | (with_reducible refine ⟨_, fun _ _ => rfl, hK _ ?_⟩)); clear hK K
  refine wpQuiet_step (fun K hK => ?_); go_simp; (first | (with_reducible refine hK _ ?_) | (with_reducible refine ⟨_, fun _ _ => rfl, hK _ ?_⟩)); clear hK K
  refine wpQuiet_nil ?_
  intro w2 hb2
  go_wp2_with fail
  go_ret
  exact ⟨rfl, HB.out.trans (hb2.mono HB.out.size)⟩

set_option maxRecDepth 100000 in
theorem lifted (os : Os) (started : os.Started) (H : Type) (enc : TypeId × Value → H) :
    ReturnsInHanded {} Try.checked os 5 .any (Rows.opersOfSpec.pre6 enc Try.prog Try.f5 Rows.opersOfRow.domain false) (Rows.opersOfSpec.post enc Try.prog Try.f5 false true false false) := by
  refine returnsInHanded_of_change_sized (C := Try.checked) ownKnob_none started (by kernel_rfl) Try.func5
    (ChangeSpec.witness6 (enc := enc) (C := Try.checked) false ⟨#[], #[.agg #[.int .u8 0, .int .u8 0, .int .i64 0, .int .i64 0, .slice none 0 0], .agg #[.int .i64 0, .int .i64 0], .int .i64 0, .int .i64 0], []⟩ 8 (by kernel_rfl) (by kernel_rfl) (by kernel_rfl) (by kernel_rfl)) ?_
  intro W base args ds gs before hval0 hW hcnd hsz0 _
  have hval : ∀ (j : Nat) t v, Try.f5.params[j]? = some t → args[j]? = some v → Value.okWide Try.prog W .any base t v := hval0
  have hW' := hW
  obtain ⟨p, q, hA0, hV, rfl, hfz, hnd⟩ := hW
  have hA : DataW.TrodAll enc Try.prog W 0 (fun _ => true) true Try.f5.params.toList args.toList ds p := hA0
  have hsz : (DataW.weightsEach Try.prog (Try.f5.params.toList ++ Rows.opersOfSpec.plain.varTypes Try.prog) (ds ++ gs)).all (· ≤ reachBytes) = true := hsz0
  rw [Try.params5] at hA hval hsz
  obtain ⟨v0, vs0, d0, ds0, p0, q0, hargs, rfl, rfl, h0, r0⟩ := trodAll_cons hA
  obtain ⟨v1, vs1, d1, ds1, p1, q1, rfl, rfl, rfl, h1, r1⟩ := trodAll_cons r0
  obtain ⟨v2, vs2, d2, ds2, p2, q2, rfl, rfl, rfl, h2, r2⟩ := trodAll_cons r1
  obtain ⟨v3, vs3, d3, ds3, p3, q3, rfl, rfl, rfl, h3, r3⟩ := trodAll_cons r2
  obtain ⟨rfl, rfl, rfl⟩ := trodAll_nil r3
  obtain rfl : args = #[v0, v1, v2, v3] := by cases args; simp_all
  obtain ⟨rfl, rfl⟩ := trodVars_none hV
  obtain ⟨n0, NA0, nm0, nc0, rfl, hN0⟩ := Op.open_node (hval 0 24 v0 rfl rfl) h0
  obtain ⟨t1, rfl, hw1⟩ := Vr.open_rec (hval 1 36 v1 rfl rfl) h1
  obtain ⟨a2, rfl, rfl, rfl, w2⟩ := open_int Try.underlying3 (hval 2 3 v2 rfl rfl) h2
  have b2 := i64_wf w2
  obtain ⟨a3, rfl, rfl, rfl, w3⟩ := open_int Try.underlying3 (hval 3 3 v3 rfl rfl) h3
  have b3 := i64_wf w3
  clear hA0 hval0 hsz0
  refine (walk n0 NA0 nm0 nc0 t1 a2 a3 W).mono fun e W' ⟨he, hg⟩ => ?_
  subst he
  exact ⟨_, rfl, law_post progLaid hW' rfl (by rw [Try.params5]; intro t ht; simp at ht; rcases ht with rfl | rfl | rfl <;> exact ⟨by kernel_rfl, of_decide_eq_true (by kernel_rfl)⟩) rfl Try.underlying4 rfl hg⟩

theorem over : Rows.opersOfRow.holds Try.pinned (OpenSpec.ofChange Rows.opersOfSpec) :=
  OpenClaim.holds_of_wide 5 Try.f5 rfl rfl rfl rfl rfl rfl rfl ⟨rfl, rfl, rfl, rfl, rfl⟩ rfl rfl rfl rfl rfl (by kernel_rfl) Try.func5 (by kernel_rfl)
    (of_decide_eq_true (by kernel_rfl)) (by unfold Func.isWrapper; first | (rw [if_pos (by decide +kernel)]; kernel_rfl) | (rw [if_neg (by decide +kernel)]; exact ⟨rfl, rfl⟩))
    (fun os started H enc _ => lifted os started H enc)

/-- The statement. -/
theorem proved : Rows.OpersOfSaid :=
  over
end opersOf
end Go.Proofs.Ytcjdjdhjbchaaaa
