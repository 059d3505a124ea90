/- OpersLater: times go with the order. -/
import Derived.Test.YtkhmefbmffpkcaaCa25
import Derived.Test.YtkhmefbmffpkcaaCa26
import Derived.Test.YtkhmefbmffpkcaaCa9
import Derived.Test.YtkhmefbmffpkcaaCa21
import Derived.SizedLaws
namespace Go.Proofs.Ytkhmefbmffpkcaa
open Go.ChangeShapes Go.WideShapes Go.ChangeAt Go.RowKit Go.BigFrame
open Vr _root_.Go.Proofs.Ytkhmefbmffpkcaa.Op
set_option linter.unusedVariables false
set_option maxRecDepth 100000
namespace opersLater
theorem time_R {n : Nd} {t a : St} (h : timeR n t = some a) : a.R := by
  unfold timeR at h
  split at h
  · have hR : t.R := by unfold St.into at h; split at h; rename_i hc; exact hc.1; cases h
    exact (St.L_refl.1 ((St.into_mono (St.L_refl.2 hR)).2 a a h h))
  · split at h
    · have hR : t.R := by unfold St.out at h; split at h; rename_i hc; exact hc.1; cases h
      exact (St.L_refl.1 ((St.out_mono (St.L_refl.2 hR)).2 a a h h))
    · split at h
      · unfold roundB at h
        cases hr : t.round with
        | none => rw [hr] at h; cases h
        | some u =>
          rw [hr] at h
          simp only at h
          split at h
          · injection h with h
            subst h
            have hR : t.R := by unfold St.round at hr; split at hr; rename_i hc; exact hc.1; cases hr
            exact (St.L_refl.1 (St.round_mono (St.L_refl.2 hR) u u hr hr))
          · cases h
      · split at h
        · injection h with h; subst h; assumption
        · cases h
theorem round_last {t u : St} (h : t.round = some u) : u.last = t.last + 1 ∧ t.R ∧ 0 < t.d ∧ t.last + 1 < 16 := by
  unfold St.round at h
  split at h
  · rename_i hc
    injection h with h
    subst h
    refine ⟨?_, hc⟩
    have hR := hc.1
    have h1 := hc.2.1
    unfold St.R at hR
    unfold St.last
    simp only
    split <;> (try split) <;> omega
  · cases h
theorem last_mono {t s : St} (h : t.L s) : t.last ≤ s.last := by
  obtain ⟨_, _, e, _, hx, hy, hz⟩ := h
  unfold St.last
  rw [e]
  split
  · exact hx
  · split
    · exact hy
    · exact hz
theorem time_mono {n : Nd} {t s b : St} (hL : t.L s) (h : timeR n s = some b) : ∃ a, timeR n t = some a ∧ a.L b := by
  unfold timeR at h ⊢
  split at h
  · rename_i h7
    rw [if_pos h7]
    obtain ⟨h1, h2⟩ := St.into_mono hL
    rw [h] at h1
    obtain ⟨a, ha⟩ := Option.isSome_iff_exists.1 h1
    exact ⟨a, ha, h2 a b ha h⟩
  · rename_i h7
    rw [if_neg h7]
    split at h
    · rename_i h8
      rw [if_pos h8]
      obtain ⟨h1, h2⟩ := St.out_mono hL
      rw [h] at h1
      obtain ⟨a, ha⟩ := Option.isSome_iff_exists.1 h1
      exact ⟨a, ha, h2 a b ha h⟩
    · rename_i h8
      rw [if_neg h8]
      split at h
      · rename_i h9
        rw [if_pos h9]
        unfold roundB at h
        cases hr : s.round with
        | none => rw [hr] at h; cases h
        | some u =>
          rw [hr] at h
          simp only at h
          split at h
          · rename_i hlt
            injection h with h
            subst h
            obtain ⟨r1, r2, r3, r4⟩ := round_last hr
            have hm := last_mono hL
            have hd : t.d = s.d := hL.2.2.1
            obtain ⟨v, hv⟩ : ∃ v, t.round = some v := by unfold St.round; exact ⟨_, if_pos ⟨hL.1, by omega, by omega⟩⟩
            obtain ⟨q1, _⟩ := round_last hv
            refine ⟨v, ?_, St.round_mono hL v u hv hr⟩
            unfold roundB; rw [hv]; exact if_pos (by omega)
          · cases h
      · rename_i h9
        rw [if_neg h9]
        split at h
        · injection h with h
          subst h
          exact ⟨t, if_pos hL.1, hL⟩
        · cases h
set_option maxHeartbeats 4000000 in
theorem walk (n : Nd) (NA : Option Addr) (nm nc : Nat) (t s : St) (w : World) : Calls Try.prog 8 #[nodeV n NA nm nc, t.val, s.val] w fun e w' => e = .returned (.bool true) ∧ Below w.heap.size w w' := by
  have HL := Lib.hid fun w' => leq_any t s w'
  have HK := Lib.hid works_any
  by_cases hL : t.L s
  · rw [decide_eq_true hL] at HL
    have HT := Lib.hid fun w' => time_any n NA nm nc t w'
    have HS := Lib.hid fun w' => time_any n NA nm nc s w'
    have HM := Lib.hid fun b h => time_mono (n := n) (b := b) hL h
    cases hs : timeR n s with
    | none =>
      rw [hs] at HS
      cases ht : timeR n t with
      | none =>
        clear hs HM
        rw [ht] at HT
        clear ht hL
        unfold ov at HT HS
        simp only [Option.getD_none, Option.getD_some, Option.isSome_none, Option.isSome_some, zero_val] at HT HS
        have hb := (((Below.refl _ w).alloc (Nat.le_refl _) (.cells #[.int .u8 (n.k : Nat), .int .u8 (n.a : Nat), .int .i64 n.b, .int .i64 n.d, .slice NA nm nc] 24)).alloc (by simp) (.cells #[.int .i64 t.d, .int .i64 t.e, .int .i64 t.x, .int .i64 t.y, .int .i64 t.z] 40)).alloc (by simp; omega) (.cells #[.int .i64 s.d, .int .i64 s.e, .int .i64 s.x, .int .i64 s.y, .int .i64 s.z] 40)
        have hn := ((node_box w n NA nm nc).alloc (.cells #[.int .i64 t.d, .int .i64 t.e, .int .i64 t.x, .int .i64 t.y, .int .i64 t.z] 40)).alloc (.cells #[.int .i64 s.d, .int .i64 s.e, .int .i64 s.x, .int .i64 s.y, .int .i64 s.z] 40)
        have hr := (Row.made (w.alloc (.cells #[.int .u8 (n.k : Nat), .int .u8 (n.a : Nat), .int .i64 n.b, .int .i64 n.d, .slice NA nm nc] 24)) 40 [.int .i64 t.d, .int .i64 t.e, .int .i64 t.x, .int .i64 t.y, .int .i64 t.z]).alloc (.cells #[.int .i64 s.d, .int .i64 s.e, .int .i64 s.x, .int .i64 s.y, .int .i64 s.z] 40)
        have hs := Row.made ((w.alloc (.cells #[.int .u8 (n.k : Nat), .int .u8 (n.a : Nat), .int .i64 n.b, .int .i64 n.d, .slice NA nm nc] 24)).alloc (.cells #[.int .i64 t.d, .int .i64 t.e, .int .i64 t.x, .int .i64 t.y, .int .i64 t.z] 40)) 40 [.int .i64 s.d, .int .i64 s.e, .int .i64 s.x, .int .i64 s.y, .int .i64 s.z]
        rw [size_alloc] at hr
        rw [size_alloc, size_alloc] at hs
        simp only [List.toArray] at hr hs
        have HB := Lib.hid hb; have HN := Lib.hid hn; have HRW := Lib.hid hr; have HSW := Lib.hid hs; clear hb hn hr hs
        go_enter Try.func8, Try.ntmps8
        go_wp2_with fail
        refine (HL.out _).mono ?_; rintro e w1 ⟨rfl, hb1⟩
        have h1 := HB.out.trans (hb1.mono HB.out.size)
        have h2 := HN.out.below hb1 HN.out.lt; have h3 := HRW.out.below hb1 HRW.out.lt; have h4 := HSW.out.below hb1 HSW.out.lt
        obtain ⟨m0, m1, m2, m3, m4⟩ := cells5 h2
        obtain ⟨d0, d1, d2, d3, d4⟩ := cells5 h3
        have HB1 := Lib.hid h1; have HN1 := Lib.hid h2; have HS1 := Lib.hid h4; clear h1 h2 h3 h4 hb1 HB HN HRW HSW HL
        dsimp only
        go_wp2_with fail
        refine (HT.out _).mono ?_; rintro e w2 ⟨rfl, hb2⟩
        clear m0 m1 m2 m3 m4 d0 d1 d2 d3 d4 HT
        have h1 := HB1.out.trans (hb2.mono HB1.out.size)
        have h2 := HN1.out.below hb2 HN1.out.lt; have h4 := HS1.out.below hb2 HS1.out.lt
        have HB2 := Lib.hid h1; have HN2 := Lib.hid h2; have HS2 := Lib.hid h4; clear h1 h2 h4 hb2 HB1 HN1 HS1
        dsimp only
        go_upto_region 4 with fail
        have h1 := HB2.out.alloc HB2.out.size (.cells #[.int .i64 0, .int .i64 0, .int .i64 0, .int .i64 0, .int .i64 0] 40)
        have h2 := HN2.out.alloc (.cells #[.int .i64 0, .int .i64 0, .int .i64 0, .int .i64 0, .int .i64 0] 40)
        have h3 := HS2.out.alloc (.cells #[.int .i64 0, .int .i64 0, .int .i64 0, .int .i64 0, .int .i64 0] 40)
        have h4 := Row.made w2 40 [.int .i64 0, .int .i64 0, .int .i64 0, .int .i64 0, .int .i64 0]
        simp only [List.toArray] at h4
        generalize w2.alloc (.cells #[.int .i64 0, .int .i64 0, .int .i64 0, .int .i64 0, .int .i64 0] 40) = wz at *
        generalize w2.heap.size = g1 at *
        obtain ⟨m0, m1, m2, m3, m4⟩ := cells5 h2
        obtain ⟨d0, d1, d2, d3, d4⟩ := cells5 h3
        have HB3 := Lib.hid h1; have HA3 := Lib.hid h4; clear h1 h2 h3 h4 HB2 HN2 HS2
        go_wp2_with fail
        refine (HS.out _).mono ?_; rintro e w4 ⟨rfl, hb4⟩
        clear m0 m1 m2 m3 m4 d0 d1 d2 d3 d4 HS
        have h1 := HB3.out.trans (hb4.mono HB3.out.size); have h4 := HA3.out.below hb4 HA3.out.lt
        have HB4 := Lib.hid h1; have HA4 := Lib.hid h4; clear h1 h4 hb4 HB3 HA3
        dsimp only
        go_upto_region 5 with fail
        have h1 := HB4.out.alloc HB4.out.size (.cells #[.int .i64 0, .int .i64 0, .int .i64 0, .int .i64 0, .int .i64 0] 40)
        have h3 := HA4.out.alloc (.cells #[.int .i64 0, .int .i64 0, .int .i64 0, .int .i64 0, .int .i64 0] 40)
        have h4 := Row.made w4 40 [.int .i64 0, .int .i64 0, .int .i64 0, .int .i64 0, .int .i64 0]
        simp only [List.toArray] at h4
        generalize w4.alloc (.cells #[.int .i64 0, .int .i64 0, .int .i64 0, .int .i64 0, .int .i64 0] 40) = wy at *
        generalize w4.heap.size = g2 at *
        obtain ⟨m0, m1, m2, m3, m4⟩ := cells5 h3
        obtain ⟨d0, d1, d2, d3, d4⟩ := cells5 h4
        have HB5 := Lib.hid h1; have HA5 := Lib.hid h3; clear h1 h3 h4 HB4 HA4
        go_wp2_with fail
        refine (HK.out _).mono ?_; rintro e w8 ⟨rfl, hb8⟩
        have HB9 := Lib.hid (HB5.out.trans (hb8.mono HB5.out.size)); clear hb8
        dsimp only
        go_wp2_with fail
        go_ret
        exact ⟨rfl, HB9.out⟩
      | some a =>
        have hRa := time_R ht
        have har := fun w' => right_any a w'
        rw [decide_eq_true hRa] at har
        have HAR := Lib.hid har; clear har hRa
        clear hs HM
        rw [ht] at HT
        clear ht hL
        unfold ov at HT HS
        simp only [Option.getD_none, Option.getD_some, Option.isSome_none, Option.isSome_some, zero_val] at HT HS
        have hb := (((Below.refl _ w).alloc (Nat.le_refl _) (.cells #[.int .u8 (n.k : Nat), .int .u8 (n.a : Nat), .int .i64 n.b, .int .i64 n.d, .slice NA nm nc] 24)).alloc (by simp) (.cells #[.int .i64 t.d, .int .i64 t.e, .int .i64 t.x, .int .i64 t.y, .int .i64 t.z] 40)).alloc (by simp; omega) (.cells #[.int .i64 s.d, .int .i64 s.e, .int .i64 s.x, .int .i64 s.y, .int .i64 s.z] 40)
        have hn := ((node_box w n NA nm nc).alloc (.cells #[.int .i64 t.d, .int .i64 t.e, .int .i64 t.x, .int .i64 t.y, .int .i64 t.z] 40)).alloc (.cells #[.int .i64 s.d, .int .i64 s.e, .int .i64 s.x, .int .i64 s.y, .int .i64 s.z] 40)
        have hr := (Row.made (w.alloc (.cells #[.int .u8 (n.k : Nat), .int .u8 (n.a : Nat), .int .i64 n.b, .int .i64 n.d, .slice NA nm nc] 24)) 40 [.int .i64 t.d, .int .i64 t.e, .int .i64 t.x, .int .i64 t.y, .int .i64 t.z]).alloc (.cells #[.int .i64 s.d, .int .i64 s.e, .int .i64 s.x, .int .i64 s.y, .int .i64 s.z] 40)
        have hs := Row.made ((w.alloc (.cells #[.int .u8 (n.k : Nat), .int .u8 (n.a : Nat), .int .i64 n.b, .int .i64 n.d, .slice NA nm nc] 24)).alloc (.cells #[.int .i64 t.d, .int .i64 t.e, .int .i64 t.x, .int .i64 t.y, .int .i64 t.z] 40)) 40 [.int .i64 s.d, .int .i64 s.e, .int .i64 s.x, .int .i64 s.y, .int .i64 s.z]
        rw [size_alloc] at hr
        rw [size_alloc, size_alloc] at hs
        simp only [List.toArray] at hr hs
        have HB := Lib.hid hb; have HN := Lib.hid hn; have HRW := Lib.hid hr; have HSW := Lib.hid hs; clear hb hn hr hs
        go_enter Try.func8, Try.ntmps8
        go_wp2_with fail
        refine (HL.out _).mono ?_; rintro e w1 ⟨rfl, hb1⟩
        have h1 := HB.out.trans (hb1.mono HB.out.size)
        have h2 := HN.out.below hb1 HN.out.lt; have h3 := HRW.out.below hb1 HRW.out.lt; have h4 := HSW.out.below hb1 HSW.out.lt
        obtain ⟨m0, m1, m2, m3, m4⟩ := cells5 h2
        obtain ⟨d0, d1, d2, d3, d4⟩ := cells5 h3
        have HB1 := Lib.hid h1; have HN1 := Lib.hid h2; have HS1 := Lib.hid h4; clear h1 h2 h3 h4 hb1 HB HN HRW HSW HL
        dsimp only
        go_wp2_with fail
        refine (HT.out _).mono ?_; rintro e w2 ⟨rfl, hb2⟩
        clear m0 m1 m2 m3 m4 d0 d1 d2 d3 d4 HT
        have h1 := HB1.out.trans (hb2.mono HB1.out.size)
        have h2 := HN1.out.below hb2 HN1.out.lt; have h4 := HS1.out.below hb2 HS1.out.lt
        have HB2 := Lib.hid h1; have HN2 := Lib.hid h2; have HS2 := Lib.hid h4; clear h1 h2 h4 hb2 HB1 HN1 HS1
        dsimp only
        go_upto_region 4 with fail
        have h1 := HB2.out.alloc HB2.out.size (.cells #[.int .i64 a.d, .int .i64 a.e, .int .i64 a.x, .int .i64 a.y, .int .i64 a.z] 40)
        have h2 := HN2.out.alloc (.cells #[.int .i64 a.d, .int .i64 a.e, .int .i64 a.x, .int .i64 a.y, .int .i64 a.z] 40)
        have h3 := HS2.out.alloc (.cells #[.int .i64 a.d, .int .i64 a.e, .int .i64 a.x, .int .i64 a.y, .int .i64 a.z] 40)
        have h4 := Row.made w2 40 [.int .i64 a.d, .int .i64 a.e, .int .i64 a.x, .int .i64 a.y, .int .i64 a.z]
        simp only [List.toArray] at h4
        generalize w2.alloc (.cells #[.int .i64 a.d, .int .i64 a.e, .int .i64 a.x, .int .i64 a.y, .int .i64 a.z] 40) = wz at *
        generalize w2.heap.size = g1 at *
        obtain ⟨m0, m1, m2, m3, m4⟩ := cells5 h2
        obtain ⟨d0, d1, d2, d3, d4⟩ := cells5 h3
        have HB3 := Lib.hid h1; have HA3 := Lib.hid h4; clear h1 h2 h3 h4 HB2 HN2 HS2
        go_wp2_with fail
        refine (HS.out _).mono ?_; rintro e w4 ⟨rfl, hb4⟩
        clear m0 m1 m2 m3 m4 d0 d1 d2 d3 d4 HS
        have h1 := HB3.out.trans (hb4.mono HB3.out.size); have h4 := HA3.out.below hb4 HA3.out.lt
        have HB4 := Lib.hid h1; have HA4 := Lib.hid h4; clear h1 h4 hb4 HB3 HA3
        dsimp only
        go_upto_region 5 with fail
        have h1 := HB4.out.alloc HB4.out.size (.cells #[.int .i64 0, .int .i64 0, .int .i64 0, .int .i64 0, .int .i64 0] 40)
        have h3 := HA4.out.alloc (.cells #[.int .i64 0, .int .i64 0, .int .i64 0, .int .i64 0, .int .i64 0] 40)
        have h4 := Row.made w4 40 [.int .i64 0, .int .i64 0, .int .i64 0, .int .i64 0, .int .i64 0]
        simp only [List.toArray] at h4
        generalize w4.alloc (.cells #[.int .i64 0, .int .i64 0, .int .i64 0, .int .i64 0, .int .i64 0] 40) = wy at *
        generalize w4.heap.size = g2 at *
        obtain ⟨m0, m1, m2, m3, m4⟩ := cells5 h3
        obtain ⟨d0, d1, d2, d3, d4⟩ := cells5 h4
        have HB5 := Lib.hid h1; have HA5 := Lib.hid h3; clear h1 h3 h4 HB4 HA4
        go_wp2_with fail
        refine (HAR.out _).mono ?_; rintro e w6 ⟨rfl, hb6⟩
        have h1 := HB5.out.trans (hb6.mono HB5.out.size)
        clear m0 m1 m2 m3 m4
        have HB6 := Lib.hid h1; clear h1 hb6 HB5 HA5
        dsimp only
        go_wp2_with fail
        refine (HK.out _).mono ?_; rintro e w8 ⟨rfl, hb8⟩
        have HB9 := Lib.hid (HB6.out.trans (hb8.mono HB6.out.size)); clear hb8
        dsimp only
        go_wp2_with fail
        go_ret
        exact ⟨rfl, HB9.out⟩
    | some b =>
      rw [hs] at HS
      obtain ⟨a, ht, hab⟩ := HM.out b hs
      have hRa := time_R ht
      have har := fun w' => right_any a w'
      rw [decide_eq_true hRa] at har
      have HAR := Lib.hid har; clear har hRa
      have hl2 := fun w' => leq_any a b w'
      rw [decide_eq_true hab] at hl2
      have HAB := Lib.hid hl2; clear hl2 hab
      clear hs HM
      rw [ht] at HT
      clear ht hL
      unfold ov at HT HS
      simp only [Option.getD_none, Option.getD_some, Option.isSome_none, Option.isSome_some, zero_val] at HT HS
      have hb := (((Below.refl _ w).alloc (Nat.le_refl _) (.cells #[.int .u8 (n.k : Nat), .int .u8 (n.a : Nat), .int .i64 n.b, .int .i64 n.d, .slice NA nm nc] 24)).alloc (by simp) (.cells #[.int .i64 t.d, .int .i64 t.e, .int .i64 t.x, .int .i64 t.y, .int .i64 t.z] 40)).alloc (by simp; omega) (.cells #[.int .i64 s.d, .int .i64 s.e, .int .i64 s.x, .int .i64 s.y, .int .i64 s.z] 40)
      have hn := ((node_box w n NA nm nc).alloc (.cells #[.int .i64 t.d, .int .i64 t.e, .int .i64 t.x, .int .i64 t.y, .int .i64 t.z] 40)).alloc (.cells #[.int .i64 s.d, .int .i64 s.e, .int .i64 s.x, .int .i64 s.y, .int .i64 s.z] 40)
      have hr := (Row.made (w.alloc (.cells #[.int .u8 (n.k : Nat), .int .u8 (n.a : Nat), .int .i64 n.b, .int .i64 n.d, .slice NA nm nc] 24)) 40 [.int .i64 t.d, .int .i64 t.e, .int .i64 t.x, .int .i64 t.y, .int .i64 t.z]).alloc (.cells #[.int .i64 s.d, .int .i64 s.e, .int .i64 s.x, .int .i64 s.y, .int .i64 s.z] 40)
      have hs := Row.made ((w.alloc (.cells #[.int .u8 (n.k : Nat), .int .u8 (n.a : Nat), .int .i64 n.b, .int .i64 n.d, .slice NA nm nc] 24)).alloc (.cells #[.int .i64 t.d, .int .i64 t.e, .int .i64 t.x, .int .i64 t.y, .int .i64 t.z] 40)) 40 [.int .i64 s.d, .int .i64 s.e, .int .i64 s.x, .int .i64 s.y, .int .i64 s.z]
      rw [size_alloc] at hr
      rw [size_alloc, size_alloc] at hs
      simp only [List.toArray] at hr hs
      have HB := Lib.hid hb; have HN := Lib.hid hn; have HRW := Lib.hid hr; have HSW := Lib.hid hs; clear hb hn hr hs
      go_enter Try.func8, Try.ntmps8
      go_wp2_with fail
      refine (HL.out _).mono ?_; rintro e w1 ⟨rfl, hb1⟩
      have h1 := HB.out.trans (hb1.mono HB.out.size)
      have h2 := HN.out.below hb1 HN.out.lt; have h3 := HRW.out.below hb1 HRW.out.lt; have h4 := HSW.out.below hb1 HSW.out.lt
      obtain ⟨m0, m1, m2, m3, m4⟩ := cells5 h2
      obtain ⟨d0, d1, d2, d3, d4⟩ := cells5 h3
      have HB1 := Lib.hid h1; have HN1 := Lib.hid h2; have HS1 := Lib.hid h4; clear h1 h2 h3 h4 hb1 HB HN HRW HSW HL
      dsimp only
      go_wp2_with fail
      refine (HT.out _).mono ?_; rintro e w2 ⟨rfl, hb2⟩
      clear m0 m1 m2 m3 m4 d0 d1 d2 d3 d4 HT
      have h1 := HB1.out.trans (hb2.mono HB1.out.size)
      have h2 := HN1.out.below hb2 HN1.out.lt; have h4 := HS1.out.below hb2 HS1.out.lt
      have HB2 := Lib.hid h1; have HN2 := Lib.hid h2; have HS2 := Lib.hid h4; clear h1 h2 h4 hb2 HB1 HN1 HS1
      dsimp only
      go_upto_region 4 with fail
      have h1 := HB2.out.alloc HB2.out.size (.cells #[.int .i64 a.d, .int .i64 a.e, .int .i64 a.x, .int .i64 a.y, .int .i64 a.z] 40)
      have h2 := HN2.out.alloc (.cells #[.int .i64 a.d, .int .i64 a.e, .int .i64 a.x, .int .i64 a.y, .int .i64 a.z] 40)
      have h3 := HS2.out.alloc (.cells #[.int .i64 a.d, .int .i64 a.e, .int .i64 a.x, .int .i64 a.y, .int .i64 a.z] 40)
      have h4 := Row.made w2 40 [.int .i64 a.d, .int .i64 a.e, .int .i64 a.x, .int .i64 a.y, .int .i64 a.z]
      simp only [List.toArray] at h4
      generalize w2.alloc (.cells #[.int .i64 a.d, .int .i64 a.e, .int .i64 a.x, .int .i64 a.y, .int .i64 a.z] 40) = wz at *
      generalize w2.heap.size = g1 at *
      obtain ⟨m0, m1, m2, m3, m4⟩ := cells5 h2
      obtain ⟨d0, d1, d2, d3, d4⟩ := cells5 h3
      have HB3 := Lib.hid h1; have HA3 := Lib.hid h4; clear h1 h2 h3 h4 HB2 HN2 HS2
      go_wp2_with fail
      refine (HS.out _).mono ?_; rintro e w4 ⟨rfl, hb4⟩
      clear m0 m1 m2 m3 m4 d0 d1 d2 d3 d4 HS
      have h1 := HB3.out.trans (hb4.mono HB3.out.size); have h4 := HA3.out.below hb4 HA3.out.lt
      have HB4 := Lib.hid h1; have HA4 := Lib.hid h4; clear h1 h4 hb4 HB3 HA3
      dsimp only
      go_upto_region 5 with fail
      have h1 := HB4.out.alloc HB4.out.size (.cells #[.int .i64 b.d, .int .i64 b.e, .int .i64 b.x, .int .i64 b.y, .int .i64 b.z] 40)
      have h3 := HA4.out.alloc (.cells #[.int .i64 b.d, .int .i64 b.e, .int .i64 b.x, .int .i64 b.y, .int .i64 b.z] 40)
      have h4 := Row.made w4 40 [.int .i64 b.d, .int .i64 b.e, .int .i64 b.x, .int .i64 b.y, .int .i64 b.z]
      simp only [List.toArray] at h4
      generalize w4.alloc (.cells #[.int .i64 b.d, .int .i64 b.e, .int .i64 b.x, .int .i64 b.y, .int .i64 b.z] 40) = wy at *
      generalize w4.heap.size = g2 at *
      obtain ⟨m0, m1, m2, m3, m4⟩ := cells5 h3
      obtain ⟨d0, d1, d2, d3, d4⟩ := cells5 h4
      have HB5 := Lib.hid h1; have HA5 := Lib.hid h3; clear h1 h3 h4 HB4 HA4
      go_wp2_with fail
      refine (HAB.out _).mono ?_; rintro e w5 ⟨rfl, hb5⟩
      clear m0 m1 m2 m3 m4 d0 d1 d2 d3 d4
      have h1 := HB5.out.trans (hb5.mono HB5.out.size); have h3 := HA5.out.below hb5 HA5.out.lt
      obtain ⟨m0, m1, m2, m3, m4⟩ := cells5 h3
      have HB6 := Lib.hid h1; have HA6 := Lib.hid h3; clear h1 h3 hb5 HB5 HA5
      dsimp only
      go_wp2_with fail
      refine (HAR.out _).mono ?_; rintro e w6 ⟨rfl, hb6⟩
      have h1 := HB6.out.trans (hb6.mono HB6.out.size)
      clear m0 m1 m2 m3 m4
      have HB7 := Lib.hid h1; clear h1 hb6 HB6 HA6
      dsimp only
      go_wp2_with fail
      refine (HK.out _).mono ?_; rintro e w8 ⟨rfl, hb8⟩
      have HB9 := Lib.hid (HB7.out.trans (hb8.mono HB7.out.size)); clear hb8
      dsimp only
      go_wp2_with fail
      go_ret
      exact ⟨rfl, HB9.out⟩
  · rw [decide_eq_false hL] at HL
    clear hL
    have hb := (((Below.refl _ w).alloc (Nat.le_refl _) (.cells #[.int .u8 (n.k : Nat), .int .u8 (n.a : Nat), .int .i64 n.b, .int .i64 n.d, .slice NA nm nc] 24)).alloc (by simp) (.cells #[.int .i64 t.d, .int .i64 t.e, .int .i64 t.x, .int .i64 t.y, .int .i64 t.z] 40)).alloc (by simp; omega) (.cells #[.int .i64 s.d, .int .i64 s.e, .int .i64 s.x, .int .i64 s.y, .int .i64 s.z] 40)
    have hn := ((node_box w n NA nm nc).alloc (.cells #[.int .i64 t.d, .int .i64 t.e, .int .i64 t.x, .int .i64 t.y, .int .i64 t.z] 40)).alloc (.cells #[.int .i64 s.d, .int .i64 s.e, .int .i64 s.x, .int .i64 s.y, .int .i64 s.z] 40)
    have hr := (Row.made (w.alloc (.cells #[.int .u8 (n.k : Nat), .int .u8 (n.a : Nat), .int .i64 n.b, .int .i64 n.d, .slice NA nm nc] 24)) 40 [.int .i64 t.d, .int .i64 t.e, .int .i64 t.x, .int .i64 t.y, .int .i64 t.z]).alloc (.cells #[.int .i64 s.d, .int .i64 s.e, .int .i64 s.x, .int .i64 s.y, .int .i64 s.z] 40)
    have hs := Row.made ((w.alloc (.cells #[.int .u8 (n.k : Nat), .int .u8 (n.a : Nat), .int .i64 n.b, .int .i64 n.d, .slice NA nm nc] 24)).alloc (.cells #[.int .i64 t.d, .int .i64 t.e, .int .i64 t.x, .int .i64 t.y, .int .i64 t.z] 40)) 40 [.int .i64 s.d, .int .i64 s.e, .int .i64 s.x, .int .i64 s.y, .int .i64 s.z]
    rw [size_alloc] at hr
    rw [size_alloc, size_alloc] at hs
    simp only [List.toArray] at hr hs
    have HB := Lib.hid hb; have HN := Lib.hid hn; have HRW := Lib.hid hr; have HSW := Lib.hid hs; clear hb hn hr hs
    go_enter Try.func8, Try.ntmps8
    go_wp2_with fail
    refine (HL.out _).mono ?_; rintro e w1 ⟨rfl, hb1⟩
    have h1 := HB.out.trans (hb1.mono HB.out.size)
    have HB1 := Lib.hid h1; clear h1 hb1 HB HN HRW HSW HL
    dsimp only
    go_wp2_with fail
    refine (HK.out _).mono ?_; rintro e w4 ⟨rfl, hb4⟩
    have HB5 := Lib.hid (HB1.out.trans (hb4.mono HB1.out.size)); clear hb4
    dsimp only
    go_wp2_with fail
    go_ret
    exact ⟨rfl, HB5.out⟩

set_option maxRecDepth 100000 in
theorem lifted (os : Os) (started : os.Started) (H : Type) (enc : TypeId × Value → H) :
    ReturnsInHanded {} Try.checked os 8 .any (Rows.opersLaterSpec.pre6 enc Try.prog Try.f8 Rows.opersLaterRow.domain false) (Rows.opersLaterSpec.post enc Try.prog Try.f8 false true false false) := by
  refine returnsInHanded_of_change_sized (C := Try.checked) ownKnob_none started (by kernel_rfl) Try.func8
    (ChangeSpec.witness6 (enc := enc) (C := Try.checked) false ⟨#[], #[.agg #[.int .u8 0, .int .u8 0, .int .i64 0, .int .i64 0, .slice none 0 0], .agg #[.int .i64 0, .int .i64 0, .int .i64 0, .int .i64 0, .int .i64 0], .agg #[.int .i64 0, .int .i64 0, .int .i64 0, .int .i64 0, .int .i64 0]], []⟩ 8 (by kernel_rfl) (by kernel_rfl) (by kernel_rfl) (by kernel_rfl)) ?_
  intro W base args ds gs before hval0 hW hcnd hsz0 _
  have hval : ∀ (j : Nat) t v, Try.f8.params[j]? = some t → args[j]? = some v → Value.okWide Try.prog W .any base t v := hval0
  have hW' := hW
  obtain ⟨p, q, hA0, hV, rfl, hfz, hnd⟩ := hW
  have hA : DataW.TrodAll enc Try.prog W 0 (fun _ => true) true Try.f8.params.toList args.toList ds p := hA0
  have hsz : (DataW.weightsEach Try.prog (Try.f8.params.toList ++ Rows.opersLaterSpec.plain.varTypes Try.prog) (ds ++ gs)).all (· ≤ reachBytes) = true := hsz0
  rw [Try.params8] at hA hval hsz
  obtain ⟨v0, vs0, d0, ds0, p0, q0, hargs, rfl, rfl, h0, r0⟩ := trodAll_cons hA
  obtain ⟨v1, vs1, d1, ds1, p1, q1, rfl, rfl, rfl, h1, r1⟩ := trodAll_cons r0
  obtain ⟨v2, vs2, d2, ds2, p2, q2, rfl, rfl, rfl, h2, r2⟩ := trodAll_cons r1
  obtain ⟨rfl, rfl, rfl⟩ := trodAll_nil r2
  obtain rfl : args = #[v0, v1, v2] := by cases args; simp_all
  obtain ⟨rfl, rfl⟩ := trodVars_none hV
  obtain ⟨n0, NA0, nm0, nc0, rfl, hN0⟩ := Op.open_node (hval 0 24 v0 rfl rfl) h0
  obtain ⟨t1, rfl⟩ := open_stamp (hval 1 40 v1 rfl rfl) h1
  obtain ⟨t2, rfl⟩ := open_stamp (hval 2 40 v2 rfl rfl) h2
  clear hA0 hval0 hsz0
  refine (walk n0 NA0 nm0 nc0 t1 t2 W).mono fun e W' ⟨he, hg⟩ => ?_
  subst he
  exact ⟨_, rfl, law_post progLaid hW' rfl (by rw [Try.params8]; intro t ht; simp at ht; rcases ht with rfl | rfl <;> exact ⟨by kernel_rfl, of_decide_eq_true (by kernel_rfl)⟩) rfl Try.underlying4 rfl hg⟩

theorem over : Rows.opersLaterRow.holds Try.pinned (OpenSpec.ofChange Rows.opersLaterSpec) :=
  OpenClaim.holds_of_wide 8 Try.f8 rfl rfl rfl rfl rfl rfl rfl ⟨rfl, rfl, rfl, rfl, rfl⟩ rfl rfl rfl rfl rfl (by kernel_rfl) Try.func8 (by kernel_rfl)
    (of_decide_eq_true (by kernel_rfl)) (by unfold Func.isWrapper; first | (rw [if_pos (by decide +kernel)]; kernel_rfl) | (rw [if_neg (by decide +kernel)]; exact ⟨rfl, rfl⟩))
    (fun os started H enc _ => lifted os started H enc)

/-- The statement. -/
theorem proved : Rows.OpersLaterSaid :=
  over
end opersLater
end Go.Proofs.Ytkhmefbmffpkcaa
