/- CountsTwo: of two counts without any below 0 what is added to one, and to the other, added to a third one, has the frontier that is in both; for all rows of at most 30 times each. -/
import Derived.Test.YtkbabmifdfmhlaaCtTri
namespace Go.Proofs.Ytkbabmifdfmhlaa
open Go.ChangeShapes Go.WideShapes Go.ChangeAt Go.RowKit Go.BigFrame Go.Shelf
set_option linter.unusedVariables false
set_option maxRecDepth 100000
namespace countsTwo
set_option maxHeartbeats 16000000 in
theorem walk (d : Int) (A B : Option Addr) (a b : List St) (ca cb : Nat) (w : World) (hA : Slc w A ca a) (hB : Slc w B cb b) :
    Calls Try.prog 6 #[.int .i64 d, .slice A a.length ca, .slice B b.length cb] w fun e w' => e = .returned (.bool true) ∧ Below w.heap.size w w' := by
  have WW := Lib.hid works7_any
  by_cases hd : d < 0 ∨ 3 < d
  · have HN := Lib.hid (fun w => new_no d w hd); clear hd hA hB
    go_enter Try.func6, Try.ntmps6
    go_wp2_with fail
    refine (HN.out _).mono ?_; rintro e w1 ⟨rfl, rfl⟩
    go_wp2_with fail
    refine (HN.out _).mono ?_; rintro e w1 ⟨rfl, rfl⟩
    go_wp2_with fail
    refine (HN.out _).mono ?_; rintro e w1 ⟨rfl, rfl⟩
    go_wp2_with fail
    refine (WW.out _).mono ?_; rintro e we ⟨rfl, hbe⟩
    go_wp2_with fail
    go_ret
    exact ⟨rfl, hbe⟩
  have hd1 : 0 ≤ d ∧ d ≤ 3 := by omega
  have HN := Lib.hid (fun w => new_yes d w hd1.1 hd1.2)
  clear hd
  by_cases la : 30 < a.length
  · have dla : decide ((a.length : Int) > 30) = true := decide_eq_true (by omega)
    clear hd1 hA hB
    go_enter Try.func6, Try.ntmps6
    go_wp2_with fail
    refine (HN.out _).mono ?_; rintro e w1 ⟨rfl, -, hb1⟩
    have HB1 := Lib.hid hb1; clear hb1
    go_wp2_with fail
    refine (HN.out _).mono ?_; rintro e w2 ⟨rfl, -, hb2⟩
    have HB2 := Lib.hid (HB1.out.trans (hb2.mono HB1.out.size)); clear hb2
    go_wp2_with fail
    refine (HN.out _).mono ?_; rintro e w3 ⟨rfl, -, hb3⟩
    have HB3 := Lib.hid (HB2.out.trans (hb3.mono HB2.out.size)); clear hb3
    go_wp2_with fail
    refine (WW.out _).mono ?_; rintro e we ⟨rfl, hbe⟩
    go_wp2_with fail
    go_ret
    exact ⟨rfl, HB3.out.trans (hbe.mono HB3.out.size)⟩
  have dla : decide ((a.length : Int) > 30) = false := decide_eq_false (by omega)
  by_cases lb : 30 < b.length
  · have dlb : decide ((b.length : Int) > 30) = true := decide_eq_true (by omega)
    clear hd1 hA hB
    go_enter Try.func6, Try.ntmps6
    go_wp2_with fail
    refine (HN.out _).mono ?_; rintro e w1 ⟨rfl, -, hb1⟩
    have HB1 := Lib.hid hb1; clear hb1
    go_wp2_with fail
    refine (HN.out _).mono ?_; rintro e w2 ⟨rfl, -, hb2⟩
    have HB2 := Lib.hid (HB1.out.trans (hb2.mono HB1.out.size)); clear hb2
    go_wp2_with fail
    refine (HN.out _).mono ?_; rintro e w3 ⟨rfl, -, hb3⟩
    have HB3 := Lib.hid (HB2.out.trans (hb3.mono HB2.out.size)); clear hb3
    go_wp2_with fail
    refine (WW.out _).mono ?_; rintro e we ⟨rfl, hbe⟩
    go_wp2_with fail
    go_ret
    exact ⟨rfl, HB3.out.trans (hbe.mono HB3.out.size)⟩
  have dlb : decide ((b.length : Int) > 30) = false := decide_eq_false (by omega)
  have HLa := Lib.hid (Nat.not_lt.1 la); have HLb := Lib.hid (Nat.not_lt.1 lb); have HA := Lib.hid hA; have HB := Lib.hid hB
  clear la lb hA hB hd1
  go_enter Try.func6, Try.ntmps6
  go_wp2_with fail
  refine (HN.out _).mono ?_; rintro e w1 ⟨rfl, hc1, hb1⟩
  have HC1 := Lib.hid (And.intro hc1 hb1); clear hc1 hb1
  go_wp2_with fail
  refine (HN.out _).mono ?_; rintro e w2 ⟨rfl, hc2, hb2⟩
  have HC2 := Lib.hid (And.intro hc2 hb2); clear hc2 hb2
  go_wp2_with fail
  refine (HN.out _).mono ?_; rintro e w3 ⟨rfl, hc3, hb3⟩
  have hst : Tri w w.heap.size w1.heap.size w2.heap.size d [] [] [] 0 w3 := by
    have l1 := HC1.out.1.lt
    have l2 := HC2.out.1.lt
    have s2 := HC2.out.2.size
    have hb12 := HC1.out.2.trans (HC2.out.2.mono HC1.out.2.size)
    refine ⟨hb12.trans (hb3.mono hb12.size), none, none, none, (HC1.out.1.below HC2.out.2).below hb3, ?_, ?_, ⟨by omega, by simp⟩, ⟨by omega, by simp⟩, ⟨by omega, by simp⟩⟩
    · have h := HC2.out.1.below hb3
      exact ⟨h.row, h.of, ⟨HC1.out.2.size, by simp⟩, h.ok, h.even⟩
    · exact ⟨hc3.row, hc3.of, ⟨hb12.size, by simp⟩, hc3.ok, hc3.even⟩
  obtain ⟨b1, hb1⟩ : ∃ b1, w.heap.size = b1 := ⟨_, rfl⟩
  obtain ⟨b2, hb2'⟩ : ∃ b2, w1.heap.size = b2 := ⟨_, rfl⟩
  obtain ⟨b3, hb3'⟩ : ∃ b3, w2.heap.size = b3 := ⟨_, rfl⟩
  have H1 := Lib.hid (show Tri w b1 b2 b3 d [] [] [] 0 w3 by rw [← hb1, ← hb2', ← hb3']; exact hst)
  rw [hb1, hb2', hb3']
  clear hst hb1 hb2' hb3' hc3 hb3 HC1 HC2 HN
  go_wp2_with fail
  go_loopw [10] (fun i wr => ∃ k : Nat, k ≤ a.length ∧ i = .int .i64 k ∧ Tri w b1 b2 b3 d (oneC (a.take k)) [] (oneC (a.take k)) (2 * k) wr) (fun i _ => a.length - (intOf i).toNat)
  case atStart => exact ⟨0, by omega, rfl, H1.out⟩
  case round =>
    obtain ⟨k, hk, rfl, htr⟩ := hrel
    have hla := HLa.out
    have hlb := HLb.out
    have HTR := Lib.hid htr; clear htr
    by_cases hlt : k < a.length
    · have hltz : (k : Int) < (a.length : Int) := by omega
      obtain ⟨t, ht⟩ : ∃ t, a[k]? = some t := ⟨_, List.getElem?_eq_getElem hlt⟩
      obtain ⟨bb, o, rfl, hbl, hld⟩ := HA.out.ts.load ht
      have hsn := one_snoc ht
      obtain ⟨r, hr⟩ : ∃ r, errV d t = r := ⟨_, rfl⟩
      have k1 : ∀ w', (Tri w b1 b2 b3 d (oneC (a.take k)) [] (oneC (a.take k)) (2 * k)) w' → Calls Try.prog 13 #[.pointer (some ⟨b1, 0, none⟩), .agg #[.int .i64 t.d, .int .i64 t.e, .int .i64 t.x, .int .i64 t.y, .int .i64 t.z], .int .i64 1] w' fun e w'' => e = .returned (.int .i64 r) ∧ (Tri w b1 b2 b3 d (oneC (a.take k) ++ [(t, 1)]) [] (oneC (a.take k)) (2 * k + 1)) w'' := fun w' hw => by
        have := tri_add hw (by omega) (by simp [oneC]; omega) (one_bound) t
        rw [hr] at this; exact this
      have k2 : ∀ w', (Tri w b1 b2 b3 d (oneC (a.take k) ++ [(t, 1)]) [] (oneC (a.take k)) (2 * k + 1)) w' → Calls Try.prog 13 #[.pointer (some ⟨b3, 0, none⟩), .agg #[.int .i64 t.d, .int .i64 t.e, .int .i64 t.x, .int .i64 t.y, .int .i64 t.z], .int .i64 1] w' fun e w'' => e = .returned (.int .i64 r) ∧ (Tri w b1 b2 b3 d (oneC (a.take k) ++ [(t, 1)]) [] (oneC (a.take k) ++ [(t, 1)]) (2 * k + 1 + 1)) w'' := fun w' hw => by
        have := tri_addZ hw (by omega) (by simp [oneC]; omega) (one_bound) t
        rw [hr] at this; first | exact this | (rw [List.append_assoc] at this; exact this)
      have HS0 := Lib.hid (HTR.out.later (below_drewN (Below.refl wr.heap.size wr) 1)); have K1 := Lib.hid k1; have K2 := Lib.hid k2; have HLD := Lib.hid hld; have HSN := Lib.hid hsn
      clear k1 k2 hld hr ht hbl hsn HTR
      go_wp2_with fail
      have hU : ∀ u1 u2 w', Duo3 (Tri w b1 b2 b3 d (oneC (a.take k)) [] (oneC (a.take k)) (2 * k)) (Tri w b1 b2 b3 d (oneC (a.take k) ++ [(t, 1)]) [] (oneC (a.take k)) (2 * k + 1)) (Tri w b1 b2 b3 d (oneC (a.take k) ++ [(t, 1)]) [] (oneC (a.take k) ++ [(t, 1)]) (2 * k + 1 + 1)) u1 u2 w' → Below w.heap.size w w' := Duo3.all (fun _ h => h.below) (fun _ h => h.below) (fun _ h => h.below)
      have HU := Lib.hid hU; clear hU
      refine Stage.wp_region (by kernel_rfl) (by kernel_rfl) (Stage.two 5 11 (Duo3 (Tri w b1 b2 b3 d (oneC (a.take k)) [] (oneC (a.take k)) (2 * k)) (Tri w b1 b2 b3 d (oneC (a.take k) ++ [(t, 1)]) [] (oneC (a.take k)) (2 * k + 1)) (Tri w b1 b2 b3 d (oneC (a.take k) ++ [(t, 1)]) [] (oneC (a.take k) ++ [(t, 1)]) (2 * k + 1 + 1)))) (Stage.two_start (by simp) (by simp) (show Tri _ _ _ _ _ _ _ _ _ _ from HS0.out)) ?_
      refine Stage.wpSt_reads 4 (fun _ => True) (by kernel_rfl) (Stage.two_any (by simp) (by simp)) ?_
      simp only [List.take_succ_cons, List.take_zero, List.drop_succ_cons, List.drop_zero]
      repeat (go_big_quiet_step (fail))
      refine wpQuiet_nil ?_
      refine Stage.wpSt_do (.agg #[.int .i64 t.d, .int .i64 t.e, .int .i64 t.x, .int .i64 t.y, .int .i64 t.z]) rfl (Stage.two_keep (by decide) (by decide) (fun u1 u2 w' hw => Free.at_load _ _ rfl rfl (HLD.out w' (HU.out u1 u2 w' hw)) hw)) ?_
      go_simp
      refine Stage.wpSt_do (.int .i64 r) rfl (Stage.two_first (by decide) (by kernel_rfl) (fun w' hw => ?_)) ?_
      · refine Free.at_call _ _ rfl Try.func13 (by kernel_rfl) rfl [.pointer (some ⟨b1, 0, none⟩), .agg #[.int .i64 t.d, .int .i64 t.e, .int .i64 t.x, .int .i64 t.y, .int .i64 t.z], .int .i64 1] rfl ?_
        exact (K1.out w' hw).mono fun e w'' ⟨he, h⟩ => ⟨he, h⟩
      go_simp
      refine Stage.wpSt_reads 4 (fun _ => True) (by kernel_rfl) (Stage.two_any (by simp) (by simp)) ?_
      simp only [List.take_succ_cons, List.take_zero, List.drop_succ_cons, List.drop_zero]
      repeat (go_big_quiet_step (fail))
      refine wpQuiet_nil ?_
      refine Stage.wpSt_do (.agg #[.int .i64 t.d, .int .i64 t.e, .int .i64 t.x, .int .i64 t.y, .int .i64 t.z]) rfl (Stage.two_keep (by decide) (by decide) (fun u1 u2 w' hw => Free.at_load _ _ rfl rfl (HLD.out w' (HU.out u1 u2 w' hw)) hw)) ?_
      go_simp
      refine Stage.wpSt_do (.int .i64 r) rfl (Stage.two_then (by decide) (by kernel_rfl) (fun w' hw => ?_)) ?_
      · refine Free.at_call _ _ rfl Try.func13 (by kernel_rfl) rfl [.pointer (some ⟨b3, 0, none⟩), .agg #[.int .i64 t.d, .int .i64 t.e, .int .i64 t.x, .int .i64 t.y, .int .i64 t.z], .int .i64 1] rfl ?_
        exact (K2.out w' hw).mono fun e w'' ⟨he, h⟩ => ⟨he, h⟩
      go_simp
      refine Stage.wpSt_reads 1 (fun _ => True) (by kernel_rfl) (Stage.two_any (by simp) (by simp)) ?_
      simp only [List.take_succ_cons, List.take_zero, List.drop_succ_cons, List.drop_zero]
      repeat (go_big_quiet_step (fail))
      refine wpQuiet_nil (Stage.wpSt_nil (Stage.two_end ?_))
      intro w5 hw5
      have HS2 := Lib.hid (show Tri w b1 b2 b3 d (oneC (a.take (k + 1))) [] (oneC (a.take (k + 1))) (2 * (k + 1)) w5 from by rw [HSN.out]; exact hw5)
      clear hw5
      go_simp
      go_wp2_with fail
      go_roundw
      case rel => exact ⟨k + 1, by omega, by simp, HS2.out⟩
      case measure => simp only [intOf]; omega
    · have hk' : k = a.length := by omega
      subst hk'
      have H2 := Lib.hid (show Tri w b1 b2 b3 d (oneC a) (oneC (b.take 0)) (oneC a ++ oneC (b.take 0)) (60 + 2 * 0) wr by
        have h := HTR.out
        rw [List.take_length] at h
        have e : oneC (b.take 0) = [] := rfl
        rw [e, List.append_nil]
        exact h.more (by omega))
      clear HTR hk hlt
      go_wp2_with fail
      go_loopw [11] (fun i wr => ∃ k : Nat, k ≤ b.length ∧ i = .int .i64 k ∧ Tri w b1 b2 b3 d (oneC a) (oneC (b.take k)) (oneC a ++ oneC (b.take k)) (60 + 2 * k) wr) (fun i _ => b.length - (intOf i).toNat)
      case atStart => exact ⟨0, by omega, rfl, H2.out⟩
      case round =>
        obtain ⟨k, hk, rfl, htr⟩ := hrel
        have hla := HLa.out
        have hlb := HLb.out
        have HTR := Lib.hid htr; clear htr
        by_cases hlt : k < b.length
        · have hltz : (k : Int) < (b.length : Int) := by omega
          obtain ⟨t, ht⟩ : ∃ t, b[k]? = some t := ⟨_, List.getElem?_eq_getElem hlt⟩
          obtain ⟨bb, o, rfl, hbl, hld⟩ := HB.out.ts.load ht
          have hsn := one_snoc ht
          obtain ⟨r, hr⟩ : ∃ r, errV d t = r := ⟨_, rfl⟩
          have k1 : ∀ w', (Tri w b1 b2 b3 d (oneC a) (oneC (b.take k)) (oneC a ++ oneC (b.take k)) (60 + 2 * k)) w' → Calls Try.prog 13 #[.pointer (some ⟨b2, 0, none⟩), .agg #[.int .i64 t.d, .int .i64 t.e, .int .i64 t.x, .int .i64 t.y, .int .i64 t.z], .int .i64 1] w' fun e w'' => e = .returned (.int .i64 r) ∧ (Tri w b1 b2 b3 d (oneC a) (oneC (b.take k) ++ [(t, 1)]) (oneC a ++ oneC (b.take k)) (60 + 2 * k + 1)) w'' := fun w' hw => by
            have := tri_addY hw (by omega) (by simp [oneC]; omega) (one_bound) t
            rw [hr] at this; exact this
          have k2 : ∀ w', (Tri w b1 b2 b3 d (oneC a) (oneC (b.take k) ++ [(t, 1)]) (oneC a ++ oneC (b.take k)) (60 + 2 * k + 1)) w' → Calls Try.prog 13 #[.pointer (some ⟨b3, 0, none⟩), .agg #[.int .i64 t.d, .int .i64 t.e, .int .i64 t.x, .int .i64 t.y, .int .i64 t.z], .int .i64 1] w' fun e w'' => e = .returned (.int .i64 r) ∧ (Tri w b1 b2 b3 d (oneC a) (oneC (b.take k) ++ [(t, 1)]) (oneC a ++ (oneC (b.take k) ++ [(t, 1)])) (60 + 2 * k + 1 + 1)) w'' := fun w' hw => by
            have := tri_addZ hw (by omega) (by simp [oneC]; omega) (by rw [← one_append]; exact one_bound) t
            rw [hr] at this; first | exact this | (rw [List.append_assoc] at this; exact this)
          have HS0 := Lib.hid (HTR.out.later (below_drewN (Below.refl wr.heap.size wr) 1)); have K1 := Lib.hid k1; have K2 := Lib.hid k2; have HLD := Lib.hid hld; have HSN := Lib.hid hsn
          clear k1 k2 hld hr ht hbl hsn HTR
          go_wp2_with fail
          have hU : ∀ u1 u2 w', Duo3 (Tri w b1 b2 b3 d (oneC a) (oneC (b.take k)) (oneC a ++ oneC (b.take k)) (60 + 2 * k)) (Tri w b1 b2 b3 d (oneC a) (oneC (b.take k) ++ [(t, 1)]) (oneC a ++ oneC (b.take k)) (60 + 2 * k + 1)) (Tri w b1 b2 b3 d (oneC a) (oneC (b.take k) ++ [(t, 1)]) (oneC a ++ (oneC (b.take k) ++ [(t, 1)])) (60 + 2 * k + 1 + 1)) u1 u2 w' → Below w.heap.size w w' := Duo3.all (fun _ h => h.below) (fun _ h => h.below) (fun _ h => h.below)
          have HU := Lib.hid hU; clear hU
          refine Stage.wp_region (by kernel_rfl) (by kernel_rfl) (Stage.two 5 11 (Duo3 (Tri w b1 b2 b3 d (oneC a) (oneC (b.take k)) (oneC a ++ oneC (b.take k)) (60 + 2 * k)) (Tri w b1 b2 b3 d (oneC a) (oneC (b.take k) ++ [(t, 1)]) (oneC a ++ oneC (b.take k)) (60 + 2 * k + 1)) (Tri w b1 b2 b3 d (oneC a) (oneC (b.take k) ++ [(t, 1)]) (oneC a ++ (oneC (b.take k) ++ [(t, 1)])) (60 + 2 * k + 1 + 1)))) (Stage.two_start (by simp) (by simp) (show Tri _ _ _ _ _ _ _ _ _ _ from HS0.out)) ?_
          refine Stage.wpSt_reads 4 (fun _ => True) (by kernel_rfl) (Stage.two_any (by simp) (by simp)) ?_
          simp only [List.take_succ_cons, List.take_zero, List.drop_succ_cons, List.drop_zero]
          repeat (go_big_quiet_step (fail))
          refine wpQuiet_nil ?_
          refine Stage.wpSt_do (.agg #[.int .i64 t.d, .int .i64 t.e, .int .i64 t.x, .int .i64 t.y, .int .i64 t.z]) rfl (Stage.two_keep (by decide) (by decide) (fun u1 u2 w' hw => Free.at_load _ _ rfl rfl (HLD.out w' (HU.out u1 u2 w' hw)) hw)) ?_
          go_simp
          refine Stage.wpSt_do (.int .i64 r) rfl (Stage.two_first (by decide) (by kernel_rfl) (fun w' hw => ?_)) ?_
          · refine Free.at_call _ _ rfl Try.func13 (by kernel_rfl) rfl [.pointer (some ⟨b2, 0, none⟩), .agg #[.int .i64 t.d, .int .i64 t.e, .int .i64 t.x, .int .i64 t.y, .int .i64 t.z], .int .i64 1] rfl ?_
            exact (K1.out w' hw).mono fun e w'' ⟨he, h⟩ => ⟨he, h⟩
          go_simp
          refine Stage.wpSt_reads 4 (fun _ => True) (by kernel_rfl) (Stage.two_any (by simp) (by simp)) ?_
          simp only [List.take_succ_cons, List.take_zero, List.drop_succ_cons, List.drop_zero]
          repeat (go_big_quiet_step (fail))
          refine wpQuiet_nil ?_
          refine Stage.wpSt_do (.agg #[.int .i64 t.d, .int .i64 t.e, .int .i64 t.x, .int .i64 t.y, .int .i64 t.z]) rfl (Stage.two_keep (by decide) (by decide) (fun u1 u2 w' hw => Free.at_load _ _ rfl rfl (HLD.out w' (HU.out u1 u2 w' hw)) hw)) ?_
          go_simp
          refine Stage.wpSt_do (.int .i64 r) rfl (Stage.two_then (by decide) (by kernel_rfl) (fun w' hw => ?_)) ?_
          · refine Free.at_call _ _ rfl Try.func13 (by kernel_rfl) rfl [.pointer (some ⟨b3, 0, none⟩), .agg #[.int .i64 t.d, .int .i64 t.e, .int .i64 t.x, .int .i64 t.y, .int .i64 t.z], .int .i64 1] rfl ?_
            exact (K2.out w' hw).mono fun e w'' ⟨he, h⟩ => ⟨he, h⟩
          go_simp
          refine Stage.wpSt_reads 1 (fun _ => True) (by kernel_rfl) (Stage.two_any (by simp) (by simp)) ?_
          simp only [List.take_succ_cons, List.take_zero, List.drop_succ_cons, List.drop_zero]
          repeat (go_big_quiet_step (fail))
          refine wpQuiet_nil (Stage.wpSt_nil (Stage.two_end ?_))
          intro w5 hw5
          have HS2 := Lib.hid (show Tri w b1 b2 b3 d (oneC a) (oneC (b.take (k + 1))) (oneC a ++ oneC (b.take (k + 1))) (60 + 2 * (k + 1)) w5 from by rw [HSN.out]; exact hw5)
          clear hw5
          go_simp
          go_wp2_with fail
          go_roundw
          case rel => exact ⟨k + 1, by omega, by simp, HS2.out⟩
          case measure => simp only [intOf]; omega
        · have hk' : k = b.length := by omega
          subst hk'
          obtain ⟨hbw, mx, my, mz, hx, hy, hz, -⟩ := HTR.out
          rw [List.take_length] at hy hz
          have hbf := both_front (d := d) (a := a) (b := b)
          obtain ⟨X, hX⟩ : ∃ X, allC d (oneC a) = X := ⟨_, rfl⟩
          obtain ⟨Y, hY⟩ : ∃ Y, allC d (oneC b) = Y := ⟨_, rfl⟩
          obtain ⟨Z, hZ⟩ : ∃ Z, allC d (oneC a ++ oneC b) = Z := ⟨_, rfl⟩
          rw [hX] at hx hbf; rw [hY] at hy hbf; rw [hZ] at hz hbf
          have lx := hx.len; have ly := hy.len; have lz := hz.len
          have fx : (frC X).length ≤ 500 := Nat.le_trans (frC_len _) (by omega)
          have fy : (frC Y).length ≤ 500 := Nat.le_trans (frC_len _) (by omega)
          have fz : (frC Z).length ≤ 1000 := Nat.le_trans (frC_len _) (by omega)
          have kk := frontier_any hx (by omega)
          have KK := Lib.hid kk; have HX := Lib.hid hx; have HY := Lib.hid hy; have HZ := Lib.hid hz; have HBW := Lib.hid hbw; have HBF := Lib.hid hbf; have HF := Lib.hid (And.intro fx (And.intro fy fz)); have HLY := Lib.hid (And.intro ly lz)
          clear kk hx hy hz hbw hbf fx fy fz lx ly lz hX hY hZ HTR
          go_wp2_with fail
          refine (KK.out).mono ?_; rintro e w5 ⟨⟨v, rfl, hv⟩, hb5⟩
          obtain ⟨A5, c5, rfl, hs5⟩ := Slc.of_own hv
          have kk := frontier_any (HY.out.below hb5) (by have := HLY.out.1; omega)
          have KK2 := Lib.hid kk; have HB5 := Lib.hid hb5; have HS5 := Lib.hid hs5; clear kk hv hb5 hs5 KK
          go_wp2_with fail
          refine (KK2.out).mono ?_; rintro e w6 ⟨⟨v, rfl, hv⟩, hb6⟩
          obtain ⟨A6, c6, rfl, hs6⟩ := Slc.of_own hv
          have kk := bothC (HS5.out.below hb6) hs6 HF.out.1 HF.out.2.1
          rw [decide_eq_true HBF.out.1] at kk
          have e1 : ifS true (bothS (frC X) (frC Y)) = frC Z := by unfold ifS; rw [if_pos rfl]; exact HBF.out.2
          have e2 : errS true = 0 := rfl
          rw [e1, e2] at kk
          have KK3 := Lib.hid kk; have HB6 := Lib.hid (HB5.out.trans (hb6.mono HB5.out.size)); clear kk hv hb6 hs6 KK2 e1 e2
          go_wp2_with fail
          refine (KK3.out).mono ?_; rintro e w7 ⟨⟨A7, c7, rfl, hs7⟩, hb7⟩
          have HB7 := Lib.hid (HB6.out.trans (hb7.mono HB6.out.size)); have HS7 := Lib.hid hs7; clear hb7 hs7 KK3
          have kk := frontier_any (HZ.out.below HB7.out) (by have := HLY.out.2; omega)
          have KK4 := Lib.hid kk; clear kk
          dsimp only
          go_wp2_with fail
          refine (KK4.out).mono ?_; rintro e w8 ⟨⟨v, rfl, hv⟩, hb8⟩
          obtain ⟨A8, c8, rfl, hs8⟩ := Slc.of_own hv
          have HSA := Lib.hid (refSameW (HS7.out.below hb8) hs8 HF.out.2.2 HF.out.2.2 (decide_eq_true rfl))
          have HB8 := Lib.hid (HB7.out.trans (hb8.mono HB7.out.size)); clear hb8 hs8 hv KK4
          go_wp2_with fail
          refine (HSA.out _ (Below.refl _ _)).mono ?_; rintro e w9 ⟨rfl, hb9⟩
          have HB9 := Lib.hid (HBW.out.trans ((HB8.out.trans (hb9.mono HB8.out.size)).mono HBW.out.size)); clear hb9
          go_wp2_with fail
          refine (WW.out _).mono ?_; rintro e we ⟨rfl, hbe⟩
          go_wp2_with fail
          go_ret
          exact ⟨rfl, HB9.out.trans (hbe.mono HB9.out.size)⟩

set_option maxRecDepth 100000 in
theorem lifted (os : Os) (started : os.Started) (H : Type) (enc : TypeId × Value → H) :
    ReturnsInHanded {} Try.checked os 6 .any (Rows.countsTwoSpec.pre6 enc Try.prog Try.f6 Rows.countsTwoRow.domain false) (Rows.countsTwoSpec.post enc Try.prog Try.f6 false true false false) := by
  refine returnsInHanded_of_change_sized (C := Try.checked) ownKnob_none started (by kernel_rfl) Try.func6
    (ChangeSpec.witness6 (enc := enc) (C := Try.checked) false ⟨#[], #[.int .i64 0, .slice none 0 0, .slice none 0 0], []⟩ 8 (by kernel_rfl) (by kernel_rfl) (by kernel_rfl) (by kernel_rfl)) ?_
  intro W base args ds gs before hval0 hW hcnd hsz0 _
  have hval : ∀ (j : Nat) t v, Try.f6.params[j]? = some t → args[j]? = some v → Value.okWide Try.prog W .any base t v := hval0
  have hW' := hW
  obtain ⟨p, q, hA0, hV, rfl, hfz, hnd⟩ := hW
  have hA : DataW.TrodAll enc Try.prog W 0 (fun _ => true) true Try.f6.params.toList args.toList ds p := hA0
  have hsz : (DataW.weightsEach Try.prog (Try.f6.params.toList ++ Rows.countsTwoSpec.plain.varTypes Try.prog) (ds ++ gs)).all (· ≤ reachBytes) = true := hsz0
  rw [Try.params6] at hA hval hsz
  obtain ⟨v0, vs0, d0, ds0, p0, q0, hargs, rfl, rfl, h0, r0⟩ := trodAll_cons hA
  obtain ⟨v1, vs1, d1, ds1, p1, q1, rfl, rfl, rfl, h1, r1⟩ := trodAll_cons r0
  obtain ⟨v2, vs2, d2, ds2, p2, q2, rfl, rfl, rfl, h2, r2⟩ := trodAll_cons r1
  obtain ⟨rfl, rfl, rfl⟩ := trodAll_nil r2
  obtain rfl : args = #[v0, v1, v2] := by cases args; simp_all
  obtain ⟨rfl, rfl⟩ := trodVars_none hV
  obtain ⟨a0, rfl, rfl, rfl, w0⟩ := open_int Try.underlying3 (hval 0 3 v0 rfl rfl) h0
  have b0 := i64_wf w0
  obtain ⟨A1, l1, c1, rfl, hT1, hc1, hm1, hn1⟩ := open_times (hval 1 40 v1 rfl rfl) h1
  obtain ⟨A2, l2, c2, rfl, hT2, hc2, hm2, hn2⟩ := open_times (hval 2 40 v2 rfl rfl) h2
  clear hA0 hval0 hsz0
  refine (walk a0 A1 A2 l1 l2 c1 c2 W ⟨hT1, hc1, hm1, hn1⟩ ⟨hT2, hc2, hm2, hn2⟩).mono fun e W' ⟨he, hg⟩ => ?_
  subst he
  exact ⟨_, rfl, law_post progLaid hW' rfl (by rw [Try.params6]; intro t ht; simp at ht; rcases ht with rfl | rfl <;> exact ⟨by kernel_rfl, of_decide_eq_true (by kernel_rfl)⟩) rfl Try.underlying4 rfl hg⟩

theorem over : Rows.countsTwoRow.holds Try.pinned (OpenSpec.ofChange Rows.countsTwoSpec) :=
  OpenClaim.holds_of_wide 6 Try.f6 rfl rfl rfl rfl rfl rfl rfl ⟨rfl, rfl, rfl, rfl, rfl⟩ rfl rfl rfl rfl rfl (by kernel_rfl) Try.func6 (by kernel_rfl)
    (of_decide_eq_true (by kernel_rfl)) (by unfold Func.isWrapper; first | (rw [if_pos (by decide +kernel)]; kernel_rfl) | (rw [if_neg (by decide +kernel)]; exact ⟨rfl, rfl⟩))
    (fun os started H enc _ => lifted os started H enc)

/-- The statement. -/
theorem proved : Rows.CountsTwoSaid :=
  over
end countsTwo
end Go.Proofs.Ytkbabmifdfmhlaa
