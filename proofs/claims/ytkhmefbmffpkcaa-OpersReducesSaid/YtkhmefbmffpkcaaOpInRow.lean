/- in: a record that is in a row. -/
import Derived.Test.YtkhmefbmffpkcaaCa25
namespace Go.Proofs.Ytkhmefbmffpkcaa
namespace Op
open Go.ChangeShapes Go.WideShapes Go.ChangeAt Go.RowKit Go.BigFrame Vr
set_option linter.unusedVariables false
set_option maxRecDepth 100000
set_option maxHeartbeats 2000000 in
theorem in_any (A : Option Addr) (l : List Rd) (c : Nat) (r : Rd) (w : World) (hT : Rw.Ts kindR w A l) (hr : r ∈ l) (hl : l.length ≤ 100000) : Calls Try.prog 27 #[.slice A l.length c, r.val] w fun e w' => e = .returned (.bool true) ∧ Below w.heap.size w w' := by
  have hb := (Below.refl _ w).alloc (Nat.le_refl _) (.cells #[.int .i64 r.k, .int .i64 r.v] 36)
  have hbx := Row.made w 36 [.int .i64 r.k, .int .i64 r.v]
  simp only [List.toArray] at hbx
  have HT := Lib.hid hT; have HB := Lib.hid hb; have HBX := Lib.hid hbx; have HR := Lib.hid hr; clear hT hb hbx hr
  go_enter Try.func27, Try.ntmps27
  go_wp2_with fail
  generalize w.alloc (.cells #[.int .i64 r.k, .int .i64 r.v] 36) = w1 at *
  go_loopw [5] (fun vi wr => ∃ i : Nat, i ≤ l.length ∧ vi = .int .i64 i ∧ r ∉ l.take i ∧ Below w1.heap.size w1 wr) (fun vi _ => l.length - (intOf vi).toNat)
  case atStart => exact ⟨0, by omega, rfl, by simp, Below.refl _ _⟩
  case round =>
    obtain ⟨i, hi, rfl, hn, hb⟩ := hrel
    have HN := Lib.hid hn; have HBW := Lib.hid hb; clear hn hb
    by_cases hlt : i < l.length
    · have hltz : (i : Int) < (l.length : Int) := by omega
      obtain ⟨x, hx⟩ : ∃ x, l[i]? = some x := ⟨_, List.getElem?_eq_getElem hlt⟩
      obtain ⟨ba, oa, rfl, hba, hload⟩ := Vr.load_r HT.out (i := i) (t := x) hx
      have HX := Lib.hid hx; clear hx
      have hbw := HB.out.trans (HBW.out.mono HB.out.size)
      have HL1 : Hid (∀ w', Below wr.heap.size wr w' → (Instr.loadAt 36 (.pointer (some ⟨ba, oa + i * 2, none⟩))).run Try.prog w' = .ok (.agg #[.int .i64 x.k, .int .i64 x.v]) w') := Lib.hid fun w' hb' => hload w' (hbw.trans (hb'.mono hbw.size))
      have HL2 : Hid (∀ w', Below wr.heap.size wr w' → (Instr.loadAt 36 (.pointer (some ⟨w.heap.size, 0, none⟩))).run Try.prog w' = .ok (.agg #[.int .i64 r.k, .int .i64 r.v]) w') := Lib.hid fun w' hb => run_loadAt_part w.heap.size 0 36 _ r.cells (fun j v hj => by rw [add_at, Nat.zero_add, ((HBX.out.below HBW.out HBX.out.lt).below hb (HBX.out.below HBW.out HBX.out.lt).lt).cell]; exact hj) Try.underlying36 rfl (by kernel_rfl)
      clear hload hbw
      go_upto_region 4 with fail
      cases he : Vr.eqB x r with
      | true =>
        have HE := Lib.hid he; clear he
        refine wp_region_below (by kernel_rfl) (by kernel_rfl) ?_
        refine wpQuiet_step (fun K hK => ?_); go_simp; (first | (with_reducible refine hK _ ?_) | (with_reducible refine ⟨_, fun _ _ => rfl, hK _ ?_⟩)); clear hK K
        refine wpQuiet_step (fun K hK => ?_); go_simp; (first | (with_reducible refine hK _ ?_) | (with_reducible refine ⟨_, fun _ _ => rfl, hK _ ?_⟩)); clear hK K
        refine wpQuiet_step (fun K hK => ?_); go_simp; (first | (with_reducible refine hK _ ?_) | (with_reducible refine ⟨_, fun _ _ => rfl, hK _ ?_⟩)); clear hK K
        refine wpQuiet_step (fun K hK => ?_); refine q_load (p := .pointer (some ⟨ba, oa + i * 2, none⟩)) 36 _ rfl rfl rfl (HL1.out) ?_; go_simp; (with_reducible refine hK _ ?_); clear hK K
        refine wpQuiet_step (fun K hK => ?_); refine q_load (p := .pointer (some ⟨w.heap.size, 0, none⟩)) 36 _ rfl rfl rfl (HL2.out) ?_; go_simp; (with_reducible refine hK _ ?_); clear hK K
        refine wpQuiet_step (fun K hK => ?_); refine q_bin _ _ _ _ _ rfl rfl rfl rfl (Vr.eq_r _ _ x r) ?_; rw [HE.out]; go_simp; (with_reducible refine hK _ ?_); clear hK K
        refine wpQuiet_nil ?_
        intro wy hby
        have HBY := Lib.hid (HBW.out.trans (hby.mono HBW.out.size)); clear hby
        go_wp2_with fail
        go_ret
        exact ⟨rfl, HB.out.trans (HBY.out.mono HB.out.size)⟩
      | false =>
        have HE := Lib.hid he; clear he
        refine wp_region_below (by kernel_rfl) (by kernel_rfl) ?_
        refine wpQuiet_step (fun K hK => ?_); go_simp; (first | (with_reducible refine hK _ ?_) | (with_reducible refine ⟨_, fun _ _ => rfl, hK _ ?_⟩)); clear hK K
        refine wpQuiet_step (fun K hK => ?_); go_simp; (first | (with_reducible refine hK _ ?_) | (with_reducible refine ⟨_, fun _ _ => rfl, hK _ ?_⟩)); clear hK K
        refine wpQuiet_step (fun K hK => ?_); go_simp; (first | (with_reducible refine hK _ ?_) | (with_reducible refine ⟨_, fun _ _ => rfl, hK _ ?_⟩)); clear hK K
        refine wpQuiet_step (fun K hK => ?_); refine q_load (p := .pointer (some ⟨ba, oa + i * 2, none⟩)) 36 _ rfl rfl rfl (HL1.out) ?_; go_simp; (with_reducible refine hK _ ?_); clear hK K
        refine wpQuiet_step (fun K hK => ?_); refine q_load (p := .pointer (some ⟨w.heap.size, 0, none⟩)) 36 _ rfl rfl rfl (HL2.out) ?_; go_simp; (with_reducible refine hK _ ?_); clear hK K
        refine wpQuiet_step (fun K hK => ?_); refine q_bin _ _ _ _ _ rfl rfl rfl rfl (Vr.eq_r _ _ x r) ?_; rw [HE.out]; go_simp; (with_reducible refine hK _ ?_); clear hK K
        refine wpQuiet_nil ?_
        intro wy hby
        have HBY := Lib.hid (HBW.out.trans (hby.mono HBW.out.size)); clear hby
        have hxr : x ≠ r := fun e => by have := Vr.eqB_yes e; rw [HE.out] at this; cases this
        have HXR := Lib.hid hxr; clear hxr
        go_wp2_with fail
        go_roundw
        case rel => exact ⟨i + 1, by omega, by simp, by rw [Vr.take_snoc HX.out, List.mem_append, List.mem_singleton]; rintro (h | h); exact HN.out h; exact HXR.out h.symm, HBY.out⟩
        case measure => simp only [intOf]; omega
    · exfalso
      have hil : i = l.length := by omega
      subst hil
      have h := HN.out
      rw [List.take_length] at h
      exact h HR.out
end Op
end Go.Proofs.Ytkhmefbmffpkcaa
