/- StampBytes: bytes of times stand, byte by byte, as Compare has the times; for all times. -/
import Derived.Test.YtpcnnnfgopilaaaStFrame
namespace Go.Proofs.Ytpcnnnfgopilaaa
open Go.ChangeShapes Go.WideShapes Go.ChangeAt Go.RowKit Go.BigFrame
set_option linter.unusedVariables false
namespace stampBytes
/-- what the loop has found of the first k bytes -/
def Far (xs ys : List Nat) (k : Nat) (c : Int) : Prop := (c = 0 ∧ cmpL xs ys = cmpL (xs.drop k) (ys.drop k)) ∨ (c ≠ 0 ∧ c = cmpL xs ys)
theorem drop_nth {xs : List Nat} {k : Nat} (h : k < xs.length) : xs.drop k = nth xs k :: xs.drop (k + 1) := by
  rw [List.drop_eq_getElem_cons h]
  have := nth_some h
  rw [List.getElem?_eq_getElem h] at this
  injection this with this
  rw [this]
theorem far_lt {xs ys : List Nat} {k : Nat} (hx : k < xs.length) (hy : k < ys.length) (h : cmpL xs ys = cmpL (xs.drop k) (ys.drop k)) (hl : nth xs k < nth ys k) : Far xs ys (k + 1) (-1) := by
  refine .inr ⟨by omega, ?_⟩
  rw [h, drop_nth hx, drop_nth hy]
  simp only [cmpL]
  rw [if_pos hl]
theorem far_gt {xs ys : List Nat} {k : Nat} (hx : k < xs.length) (hy : k < ys.length) (h : cmpL xs ys = cmpL (xs.drop k) (ys.drop k)) (hl : nth ys k < nth xs k) : Far xs ys (k + 1) 1 := by
  refine .inr ⟨by omega, ?_⟩
  rw [h, drop_nth hx, drop_nth hy]
  simp only [cmpL]
  rw [if_neg (by omega), if_pos hl]
theorem far_eq {xs ys : List Nat} {k : Nat} (hx : k < xs.length) (hy : k < ys.length) (h : cmpL xs ys = cmpL (xs.drop k) (ys.drop k)) (hl : nth xs k = nth ys k) : Far xs ys (k + 1) 0 := by
  refine .inl ⟨rfl, ?_⟩
  rw [h, drop_nth hx, drop_nth hy]
  simp only [cmpL]
  rw [if_neg (by omega), if_neg (by omega)]
theorem far_end {xs ys : List Nat} {k : Nat} {c : Int} (h : Far xs ys k c) (hk : xs.length ≤ k ∨ ys.length ≤ k ∨ c ≠ 0) : c = cmpL xs ys := by
  rcases h with ⟨rfl, h⟩ | ⟨_, h⟩
  · rw [h]
    rcases hk with hk | hk | hk
    · rw [List.drop_of_length_le hk]; rfl
    · rw [List.drop_of_length_le hk]; cases xs.drop k <;> rfl
    · exact absurd rfl hk
  · exact h
set_option maxRecDepth 100000 in
set_option maxHeartbeats 4000000 in
theorem walk_first (a b : St) (w : World) (h : ¬ a.R) : Calls Try.prog 9 #[a.val, b.val] w fun e w' => e = .returned (.bool true) ∧ Below w.heap.size w w' := by
  have c1 := fun w => put_no a w h
  have c3 := fun w => works_any w
  by_cases k : b.R
  · have c2 := fun w => put_any b w k
    clear h k
    unfold Made at c2
    generalize b.put = ys at *
    unfold St.val at *
    have C1 := Lib.hid c1; clear c1
    have C2 := Lib.hid c2; clear c2
    have C3 := Lib.hid c3; clear c3
    have ha := Holds.made w a
    have ha := ha.alloc (.cells #[.int .i64 b.d, .int .i64 b.e, .int .i64 b.x, .int .i64 b.y, .int .i64 b.z] 24)
    have hb := Holds.made (w.alloc (.cells #[.int .i64 a.d, .int .i64 a.e, .int .i64 a.x, .int .i64 a.y, .int .i64 a.z] 24)) b
    rw [size_alloc] at hb
    have hbw : Below w.heap.size w ((w.alloc (.cells #[.int .i64 a.d, .int .i64 a.e, .int .i64 a.x, .int .i64 a.y, .int .i64 a.z] 24)).alloc (.cells #[.int .i64 b.d, .int .i64 b.e, .int .i64 b.x, .int .i64 b.y, .int .i64 b.z] 24)) := ((Below.refl _ _).alloc (by simp) _).alloc (by simp) _
    have Ha := Lib.hid ha; clear ha
    have Hb := Lib.hid hb; clear hb
    have HBW := Lib.hid hbw; clear hbw
    go_enter Try.func9, Try.ntmps9
    go_wp2_with fail
    generalize (w.alloc (.cells #[.int .i64 a.d, .int .i64 a.e, .int .i64 a.x, .int .i64 a.y, .int .i64 a.z] 24)).alloc (.cells #[.int .i64 b.d, .int .i64 b.e, .int .i64 b.x, .int .i64 b.y, .int .i64 b.z] 24) = w0 at *
    refine (C1.out _).mono ?_; rintro e v1 ⟨rfl, hbel⟩
    have ha := Ha.out.below hbel; clear Ha
    have hb := Hb.out.below hbel; clear Hb
    have hbw := HBW.out.trans (hbel.mono HBW.out.size); clear HBW hbel
    have Ha := Lib.hid ha; clear ha
    have Hb := Lib.hid hb; clear hb
    have HBW := Lib.hid hbw; clear hbw
    have la := Ha.out.lt
    have lb := Hb.out.lt
    obtain ⟨cb0, cb1, cb2, cb3, cb4⟩ := Hb.out.cells5
    go_wp2_with fail
    clear la lb cb0 cb1 cb2 cb3 cb4
    refine (C2.out _).mono ?_; rintro e v2 ⟨gq, rfl, hgq, hrq, hbel⟩
    have ha := Ha.out.below hbel; clear Ha
    have hb := Hb.out.below hbel; clear Hb
    have hbw := HBW.out.trans (hbel.mono HBW.out.size); clear HBW hbel
    have Ha := Lib.hid ha; clear ha
    have Hb := Lib.hid hb; clear hb
    have HBW := Lib.hid hbw; clear hbw
    dsimp only
    clear hgq hrq
    have la := Ha.out.lt
    have lb := Hb.out.lt
    go_wp2_with fail
    clear la lb
    refine (C3.out _).mono ?_; rintro e v3 ⟨rfl, hbel⟩
    have ha := Ha.out.below hbel; clear Ha
    have hb := Hb.out.below hbel; clear Hb
    have hbw := HBW.out.trans (hbel.mono HBW.out.size); clear HBW hbel
    have Ha := Lib.hid ha; clear ha
    have Hb := Lib.hid hb; clear hb
    have HBW := Lib.hid hbw; clear hbw
    go_wp2_with fail
    go_ret
    exact ⟨rfl, HBW.out⟩
  · have c2 := fun w => put_no b w k
    clear h k
    unfold St.val at *
    have C1 := Lib.hid c1; clear c1
    have C2 := Lib.hid c2; clear c2
    have C3 := Lib.hid c3; clear c3
    have ha := Holds.made w a
    have ha := ha.alloc (.cells #[.int .i64 b.d, .int .i64 b.e, .int .i64 b.x, .int .i64 b.y, .int .i64 b.z] 24)
    have hb := Holds.made (w.alloc (.cells #[.int .i64 a.d, .int .i64 a.e, .int .i64 a.x, .int .i64 a.y, .int .i64 a.z] 24)) b
    rw [size_alloc] at hb
    have hbw : Below w.heap.size w ((w.alloc (.cells #[.int .i64 a.d, .int .i64 a.e, .int .i64 a.x, .int .i64 a.y, .int .i64 a.z] 24)).alloc (.cells #[.int .i64 b.d, .int .i64 b.e, .int .i64 b.x, .int .i64 b.y, .int .i64 b.z] 24)) := ((Below.refl _ _).alloc (by simp) _).alloc (by simp) _
    have Ha := Lib.hid ha; clear ha
    have Hb := Lib.hid hb; clear hb
    have HBW := Lib.hid hbw; clear hbw
    go_enter Try.func9, Try.ntmps9
    go_wp2_with fail
    generalize (w.alloc (.cells #[.int .i64 a.d, .int .i64 a.e, .int .i64 a.x, .int .i64 a.y, .int .i64 a.z] 24)).alloc (.cells #[.int .i64 b.d, .int .i64 b.e, .int .i64 b.x, .int .i64 b.y, .int .i64 b.z] 24) = w0 at *
    refine (C1.out _).mono ?_; rintro e v1 ⟨rfl, hbel⟩
    have ha := Ha.out.below hbel; clear Ha
    have hb := Hb.out.below hbel; clear Hb
    have hbw := HBW.out.trans (hbel.mono HBW.out.size); clear HBW hbel
    have Ha := Lib.hid ha; clear ha
    have Hb := Lib.hid hb; clear hb
    have HBW := Lib.hid hbw; clear hbw
    have la := Ha.out.lt
    have lb := Hb.out.lt
    obtain ⟨cb0, cb1, cb2, cb3, cb4⟩ := Hb.out.cells5
    go_wp2_with fail
    clear la lb cb0 cb1 cb2 cb3 cb4
    refine (C2.out _).mono ?_; rintro e v2 ⟨rfl, hbel⟩
    have ha := Ha.out.below hbel; clear Ha
    have hb := Hb.out.below hbel; clear Hb
    have hbw := HBW.out.trans (hbel.mono HBW.out.size); clear HBW hbel
    have Ha := Lib.hid ha; clear ha
    have Hb := Lib.hid hb; clear hb
    have HBW := Lib.hid hbw; clear hbw
    have la := Ha.out.lt
    have lb := Hb.out.lt
    go_wp2_with fail
    clear la lb
    refine (C3.out _).mono ?_; rintro e v3 ⟨rfl, hbel⟩
    have ha := Ha.out.below hbel; clear Ha
    have hb := Hb.out.below hbel; clear Hb
    have hbw := HBW.out.trans (hbel.mono HBW.out.size); clear HBW hbel
    have Ha := Lib.hid ha; clear ha
    have Hb := Lib.hid hb; clear hb
    have HBW := Lib.hid hbw; clear hbw
    go_wp2_with fail
    go_ret
    exact ⟨rfl, HBW.out⟩
set_option maxRecDepth 100000 in
set_option maxHeartbeats 4000000 in
theorem walk_second (a b : St) (w : World) (h : a.R) (k : ¬ b.R) : Calls Try.prog 9 #[a.val, b.val] w fun e w' => e = .returned (.bool true) ∧ Below w.heap.size w w' := by
  have c1 := fun w => put_any a w h
  have c2 := fun w => put_no b w k
  have c3 := fun w => works_any w
  clear h k
  unfold Made at c1
  generalize a.put = xs at *
  unfold St.val at *
  have C1 := Lib.hid c1; clear c1
  have C2 := Lib.hid c2; clear c2
  have C3 := Lib.hid c3; clear c3
  have ha := Holds.made w a
  have ha := ha.alloc (.cells #[.int .i64 b.d, .int .i64 b.e, .int .i64 b.x, .int .i64 b.y, .int .i64 b.z] 24)
  have hb := Holds.made (w.alloc (.cells #[.int .i64 a.d, .int .i64 a.e, .int .i64 a.x, .int .i64 a.y, .int .i64 a.z] 24)) b
  rw [size_alloc] at hb
  have hbw : Below w.heap.size w ((w.alloc (.cells #[.int .i64 a.d, .int .i64 a.e, .int .i64 a.x, .int .i64 a.y, .int .i64 a.z] 24)).alloc (.cells #[.int .i64 b.d, .int .i64 b.e, .int .i64 b.x, .int .i64 b.y, .int .i64 b.z] 24)) := ((Below.refl _ _).alloc (by simp) _).alloc (by simp) _
  have Ha := Lib.hid ha; clear ha
  have Hb := Lib.hid hb; clear hb
  have HBW := Lib.hid hbw; clear hbw
  go_enter Try.func9, Try.ntmps9
  go_wp2_with fail
  generalize (w.alloc (.cells #[.int .i64 a.d, .int .i64 a.e, .int .i64 a.x, .int .i64 a.y, .int .i64 a.z] 24)).alloc (.cells #[.int .i64 b.d, .int .i64 b.e, .int .i64 b.x, .int .i64 b.y, .int .i64 b.z] 24) = w0 at *
  refine (C1.out _).mono ?_; rintro e v1 ⟨gp, rfl, hgp, hrp, hbel⟩
  have ha := Ha.out.below hbel; clear Ha
  have hb := Hb.out.below hbel; clear Hb
  have hbw := HBW.out.trans (hbel.mono HBW.out.size); clear HBW hbel
  have Ha := Lib.hid ha; clear ha
  have Hb := Lib.hid hb; clear hb
  have HBW := Lib.hid hbw; clear hbw
  dsimp only
  clear hgp hrp
  have la := Ha.out.lt
  have lb := Hb.out.lt
  obtain ⟨cb0, cb1, cb2, cb3, cb4⟩ := Hb.out.cells5
  go_wp2_with fail
  clear la lb cb0 cb1 cb2 cb3 cb4
  refine (C2.out _).mono ?_; rintro e v2 ⟨rfl, hbel⟩
  have ha := Ha.out.below hbel; clear Ha
  have hb := Hb.out.below hbel; clear Hb
  have hbw := HBW.out.trans (hbel.mono HBW.out.size); clear HBW hbel
  have Ha := Lib.hid ha; clear ha
  have Hb := Lib.hid hb; clear hb
  have HBW := Lib.hid hbw; clear hbw
  have la := Ha.out.lt
  have lb := Hb.out.lt
  go_wp2_with fail
  clear la lb
  refine (C3.out _).mono ?_; rintro e v3 ⟨rfl, hbel⟩
  have ha := Ha.out.below hbel; clear Ha
  have hb := Hb.out.below hbel; clear Hb
  have hbw := HBW.out.trans (hbel.mono HBW.out.size); clear HBW hbel
  have Ha := Lib.hid ha; clear ha
  have Hb := Lib.hid hb; clear hb
  have HBW := Lib.hid hbw; clear hbw
  go_wp2_with fail
  go_ret
  exact ⟨rfl, HBW.out⟩
set_option maxRecDepth 100000 in
set_option maxHeartbeats 8000000 in
theorem walk_main (a b : St) (w : World) (h : a.R) (k : b.R) : Calls Try.prog 9 #[a.val, b.val] w fun e w' => e = .returned (.bool true) ∧ Below w.heap.size w w' := by
  have c1 := fun w => put_any a w h
  have c2 := fun w => put_any b w k
  have c3 := fun w => works_any w
  have c4 := fun w => compare_any a b w
  have hcmp := St.put_cmp h k
  have hla := St.put_lt h
  have hlb := St.put_lt k
  have hna : a.put.length ≤ 6 := by rw [St.put_len h]; unfold St.R at h; omega
  have hnb : b.put.length ≤ 6 := by rw [St.put_len k]; unfold St.R at k; omega
  clear h k
  unfold Made at c1 c2
  generalize a.put = xs at *
  generalize b.put = ys at *
  generalize a.C b = n at *
  unfold St.val at *
  have HCMP := Lib.hid hcmp; have HLA := Lib.hid hla; have HLB := Lib.hid hlb; clear hcmp hla hlb
  have C1 := Lib.hid c1; clear c1
  have C2 := Lib.hid c2; clear c2
  have C3 := Lib.hid c3; clear c3
  have C4 := Lib.hid c4; clear c4
  have ha := Holds.made w a
  have ha := ha.alloc (.cells #[.int .i64 b.d, .int .i64 b.e, .int .i64 b.x, .int .i64 b.y, .int .i64 b.z] 24)
  have hb := Holds.made (w.alloc (.cells #[.int .i64 a.d, .int .i64 a.e, .int .i64 a.x, .int .i64 a.y, .int .i64 a.z] 24)) b
  rw [size_alloc] at hb
  have hbw : Below w.heap.size w ((w.alloc (.cells #[.int .i64 a.d, .int .i64 a.e, .int .i64 a.x, .int .i64 a.y, .int .i64 a.z] 24)).alloc (.cells #[.int .i64 b.d, .int .i64 b.e, .int .i64 b.x, .int .i64 b.y, .int .i64 b.z] 24)) := ((Below.refl _ _).alloc (by simp) _).alloc (by simp) _
  have Ha := Lib.hid ha; clear ha
  have Hb := Lib.hid hb; clear hb
  have HBW := Lib.hid hbw; clear hbw
  go_enter Try.func9, Try.ntmps9
  go_wp2_with fail
  generalize (w.alloc (.cells #[.int .i64 a.d, .int .i64 a.e, .int .i64 a.x, .int .i64 a.y, .int .i64 a.z] 24)).alloc (.cells #[.int .i64 b.d, .int .i64 b.e, .int .i64 b.x, .int .i64 b.y, .int .i64 b.z] 24) = w0 at *
  refine (C1.out _).mono ?_; rintro e v1 ⟨gp, rfl, hgp, hrp, hbel⟩
  have ha := Ha.out.below hbel; clear Ha
  have hb := Hb.out.below hbel; clear Hb
  have hbw := HBW.out.trans (hbel.mono HBW.out.size); clear HBW hbel
  have Ha := Lib.hid ha; clear ha
  have Hb := Lib.hid hb; clear hb
  have HBW := Lib.hid hbw; clear hbw
  dsimp only
  clear hgp
  have HRP := Lib.hid hrp; clear hrp
  have la := Ha.out.lt
  have lb := Hb.out.lt
  obtain ⟨cb0, cb1, cb2, cb3, cb4⟩ := Hb.out.cells5
  go_wp2_with fail
  clear la lb cb0 cb1 cb2 cb3 cb4
  refine (C2.out _).mono ?_; rintro e v2 ⟨gq, rfl, hgq, hrq, hbel⟩
  have hrp := Row.below HRP.out hbel HRP.out.lt
  clear HRP hgq
  have HRP := Lib.hid hrp; have HRQ := Lib.hid hrq; clear hrp hrq
  have ha := Ha.out.below hbel; clear Ha
  have hb := Hb.out.below hbel; clear Hb
  have hbw := HBW.out.trans (hbel.mono HBW.out.size); clear HBW hbel
  have Ha := Lib.hid ha; clear ha
  have Hb := Lib.hid hb; clear hb
  have HBW := Lib.hid hbw; clear hbw
  dsimp only
  go_wp2_with fail
  go_loopw [9, 10] (fun c i wr => ∃ (k : Nat) (cv : Int), k ≤ xs.length ∧ k ≤ ys.length ∧ i = .int .i64 k ∧ c = .int .i64 cv ∧ Far xs ys k cv ∧ Below v2.heap.size v2 wr) (fun _ i _ => xs.length - (intOf i).toNat)
  case atStart => exact ⟨0, 0, by omega, by omega, rfl, rfl, .inl ⟨rfl, rfl⟩, Below.refl _ _⟩
  case round =>
    obtain ⟨k, cv, hkx, hky, rfl, rfl, hfar, hbr⟩ := hrel
    by_cases hx : k < xs.length
    · by_cases hy : k < ys.length
      · by_cases hc : cv = 0
        · subst hc
          have hf2 : cmpL xs ys = cmpL (xs.drop k) (ys.drop k) := by
            rcases hfar with ⟨_, h⟩ | ⟨h, _⟩
            · exact h
            · exact absurd rfl h
          have p1 := (Row.below HRP.out hbr HRP.out.lt).cell k
          have p2 := (Row.below HRQ.out hbr HRQ.out.lt).cell k
          have e1 : (u8s xs)[k]? = some (.int .u8 (nth xs k : Nat)) := by rw [List.getElem?_map, nth_some hx]; rfl
          have e2 : (u8s ys)[k]? = some (.int .u8 (nth ys k : Nat)) := by rw [List.getElem?_map, nth_some hy]; rfl
          rw [e1] at p1; rw [e2] at p2
          have HF := Lib.hid hf2; have HBR := Lib.hid hbr; clear hf2 hfar hbr e1 e2
          have b1 := HLA.out _ (List.mem_of_getElem? (nth_some hx))
          have b2 := HLB.out _ (List.mem_of_getElem? (nth_some hy))
          obtain ⟨x, hxx⟩ : ∃ x, x = nth xs k := ⟨_, rfl⟩
          obtain ⟨y, hyy⟩ : ∃ y, y = nth ys k := ⟨_, rfl⟩
          rw [← hxx] at p1 b1; rw [← hyy] at p2 b2
          have HXX := Lib.hid hxx; have HYY := Lib.hid hyy; clear hxx hyy
          rcases Nat.lt_trichotomy x y with hl | hl | hl
          · have t1 : decide ((x : Int) < y) = true := decide_eq_true (by omega)
            have t2 : decide ((x : Int) > y) = false := decide_eq_false (by omega)
            have t3 : decide (x < y) = true := decide_eq_true hl
            have t4 : decide (y < x) = false := decide_eq_false (by omega)
            have HL := Lib.hid hl; clear hl
            go_wp2_with fail
            go_quiet (fail)
            go_wp2_with fail
            go_quiet (fail)
            go_wp2_with fail
            go_roundw
            case rel => exact ⟨k + 1, -1, by omega, by omega, by go_num, rfl, far_lt hx hy HF.out (by rw [← HXX.out, ← HYY.out]; exact HL.out), below_drewN HBR.out _⟩
            case measure => simp [intOf]; omega
          · have t1 : decide ((x : Int) < y) = false := decide_eq_false (by omega)
            have t2 : decide ((x : Int) > y) = false := decide_eq_false (by omega)
            have t3 : decide (x < y) = false := decide_eq_false (by omega)
            have t4 : decide (y < x) = false := decide_eq_false (by omega)
            have HL := Lib.hid hl; clear hl
            go_wp2_with fail
            go_quiet (fail)
            go_wp2_with fail
            go_quiet (fail)
            go_wp2_with fail
            go_roundw
            case rel => exact ⟨k + 1, 0, by omega, by omega, by go_num, rfl, far_eq hx hy HF.out (by rw [← HXX.out, ← HYY.out]; exact HL.out), below_drewN HBR.out _⟩
            case measure => simp [intOf]; omega
          · have t1 : decide ((x : Int) < y) = false := decide_eq_false (by omega)
            have t2 : decide ((x : Int) > y) = true := decide_eq_true (by omega)
            have t3 : decide (x < y) = false := decide_eq_false (by omega)
            have t4 : decide (y < x) = true := decide_eq_true hl
            have HL := Lib.hid hl; clear hl
            go_wp2_with fail
            go_quiet (fail)
            go_wp2_with fail
            go_quiet (fail)
            go_wp2_with fail
            go_roundw
            case rel => exact ⟨k + 1, 1, by omega, by omega, by go_num, rfl, far_gt hx hy HF.out (by rw [← HXX.out, ← HYY.out]; exact HL.out), below_drewN HBR.out _⟩
            case measure => simp [intOf]; omega
        · have hcv := far_end hfar (.inr (.inr hc))
          have tc : (cv == 0) = false := by rw [beq_eq_false_iff_ne]; exact hc
          have hcn := hcv.trans HCMP.out
          clear hfar hcv
          have tn : (cv == n) = true := by rw [beq_iff_eq]; exact hcn
          clear hcn
          have hbel := hbr
          clear hbr
          have ha := Ha.out.below hbel; clear Ha
          have hb := Hb.out.below hbel; clear Hb
          have hbw := HBW.out.trans (hbel.mono HBW.out.size); clear HBW hbel
          have Ha := Lib.hid ha; clear ha
          have Hb := Lib.hid hb; clear hb
          have HBW := Lib.hid hbw; clear hbw
          have la := Ha.out.lt
          have lb := Hb.out.lt
          obtain ⟨ca0, ca1, ca2, ca3, ca4⟩ := Ha.out.cells5
          obtain ⟨cb0, cb1, cb2, cb3, cb4⟩ := Hb.out.cells5
          go_wp2_with fail
          clear la lb ca0 ca1 ca2 ca3 ca4 cb0 cb1 cb2 cb3 cb4
          refine (C4.out _).mono ?_; rintro e v3 ⟨rfl, hbel⟩
          have ha := Ha.out.below hbel; clear Ha
          have hb := Hb.out.below hbel; clear Hb
          have hbw := HBW.out.trans (hbel.mono HBW.out.size); clear HBW hbel
          have Ha := Lib.hid ha; clear ha
          have Hb := Lib.hid hb; clear hb
          have HBW := Lib.hid hbw; clear hbw
          have la := Ha.out.lt
          have lb := Hb.out.lt
          go_wp2_with fail
          clear la lb
          refine (C3.out _).mono ?_; rintro e v4 ⟨rfl, hbel⟩
          have ha := Ha.out.below hbel; clear Ha
          have hb := Hb.out.below hbel; clear Hb
          have hbw := HBW.out.trans (hbel.mono HBW.out.size); clear HBW hbel
          have Ha := Lib.hid ha; clear ha
          have Hb := Lib.hid hb; clear hb
          have HBW := Lib.hid hbw; clear hbw
          go_wp2_with fail
          go_ret
          exact ⟨rfl, HBW.out⟩
      · have hcv := far_end hfar (.inr (.inl (by omega)))
        have hcn := hcv.trans HCMP.out
        clear hfar hcv
        have tn : (cv == n) = true := by rw [beq_iff_eq]; exact hcn
        clear hcn
        have hbel := hbr
        clear hbr
        have ha := Ha.out.below hbel; clear Ha
        have hb := Hb.out.below hbel; clear Hb
        have hbw := HBW.out.trans (hbel.mono HBW.out.size); clear HBW hbel
        have Ha := Lib.hid ha; clear ha
        have Hb := Lib.hid hb; clear hb
        have HBW := Lib.hid hbw; clear hbw
        have la := Ha.out.lt
        have lb := Hb.out.lt
        obtain ⟨ca0, ca1, ca2, ca3, ca4⟩ := Ha.out.cells5
        obtain ⟨cb0, cb1, cb2, cb3, cb4⟩ := Hb.out.cells5
        go_wp2_with fail
        clear la lb ca0 ca1 ca2 ca3 ca4 cb0 cb1 cb2 cb3 cb4
        refine (C4.out _).mono ?_; rintro e v3 ⟨rfl, hbel⟩
        have ha := Ha.out.below hbel; clear Ha
        have hb := Hb.out.below hbel; clear Hb
        have hbw := HBW.out.trans (hbel.mono HBW.out.size); clear HBW hbel
        have Ha := Lib.hid ha; clear ha
        have Hb := Lib.hid hb; clear hb
        have HBW := Lib.hid hbw; clear hbw
        have la := Ha.out.lt
        have lb := Hb.out.lt
        go_wp2_with fail
        clear la lb
        refine (C3.out _).mono ?_; rintro e v4 ⟨rfl, hbel⟩
        have ha := Ha.out.below hbel; clear Ha
        have hb := Hb.out.below hbel; clear Hb
        have hbw := HBW.out.trans (hbel.mono HBW.out.size); clear HBW hbel
        have Ha := Lib.hid ha; clear ha
        have Hb := Lib.hid hb; clear hb
        have HBW := Lib.hid hbw; clear hbw
        go_wp2_with fail
        go_ret
        exact ⟨rfl, HBW.out⟩
    · have hcv := far_end hfar (.inl (by omega))
      have hcn := hcv.trans HCMP.out
      clear hfar hcv
      have tn : (cv == n) = true := by rw [beq_iff_eq]; exact hcn
      clear hcn
      have hbel := hbr
      clear hbr
      have ha := Ha.out.below hbel; clear Ha
      have hb := Hb.out.below hbel; clear Hb
      have hbw := HBW.out.trans (hbel.mono HBW.out.size); clear HBW hbel
      have Ha := Lib.hid ha; clear ha
      have Hb := Lib.hid hb; clear hb
      have HBW := Lib.hid hbw; clear hbw
      have la := Ha.out.lt
      have lb := Hb.out.lt
      obtain ⟨ca0, ca1, ca2, ca3, ca4⟩ := Ha.out.cells5
      obtain ⟨cb0, cb1, cb2, cb3, cb4⟩ := Hb.out.cells5
      go_wp2_with fail
      clear la lb ca0 ca1 ca2 ca3 ca4 cb0 cb1 cb2 cb3 cb4
      refine (C4.out _).mono ?_; rintro e v3 ⟨rfl, hbel⟩
      have ha := Ha.out.below hbel; clear Ha
      have hb := Hb.out.below hbel; clear Hb
      have hbw := HBW.out.trans (hbel.mono HBW.out.size); clear HBW hbel
      have Ha := Lib.hid ha; clear ha
      have Hb := Lib.hid hb; clear hb
      have HBW := Lib.hid hbw; clear hbw
      have la := Ha.out.lt
      have lb := Hb.out.lt
      go_wp2_with fail
      clear la lb
      refine (C3.out _).mono ?_; rintro e v4 ⟨rfl, hbel⟩
      have ha := Ha.out.below hbel; clear Ha
      have hb := Hb.out.below hbel; clear Hb
      have hbw := HBW.out.trans (hbel.mono HBW.out.size); clear HBW hbel
      have Ha := Lib.hid ha; clear ha
      have Hb := Lib.hid hb; clear hb
      have HBW := Lib.hid hbw; clear hbw
      go_wp2_with fail
      go_ret
      exact ⟨rfl, HBW.out⟩
theorem walk (a b : St) (w : World) : Calls Try.prog 9 #[a.val, b.val] w fun e w' => e = .returned (.bool true) ∧ Below w.heap.size w w' := by
  by_cases h : a.R
  · by_cases k : b.R
    · exact walk_main a b w h k
    · exact walk_second a b w h k
  · exact walk_first a b w h

set_option maxRecDepth 100000 in
theorem lifted (os : Os) (started : os.Started) (H : Type) (enc : TypeId × Value → H) :
    ReturnsInHanded {} Try.checked os 9 .any (Rows.stampBytesSpec.pre6 enc Try.prog Try.f9 Rows.stampBytesRow.domain false) (Rows.stampBytesSpec.post enc Try.prog Try.f9 false true false false) := by
  refine returnsInHanded_of_change_sized (C := Try.checked) ownKnob_none started (by kernel_rfl) Try.func9
    (ChangeSpec.witness6 (enc := enc) (C := Try.checked) false ⟨#[], #[.agg #[.int .i64 0, .int .i64 0, .int .i64 0, .int .i64 0, .int .i64 0], .agg #[.int .i64 0, .int .i64 0, .int .i64 0, .int .i64 0, .int .i64 0]], []⟩ 8 (by kernel_rfl) (by kernel_rfl) (by kernel_rfl) (by kernel_rfl)) ?_
  intro W base args ds gs before hval0 hW hcnd hsz0 _
  have hval : ∀ (j : Nat) t v, Try.f9.params[j]? = some t → args[j]? = some v → Value.okWide Try.prog W .any base t v := hval0
  have hW' := hW
  obtain ⟨p, q, hA0, hV, rfl, hfz, hnd⟩ := hW
  have hA : DataW.TrodAll enc Try.prog W 0 (fun _ => true) true Try.f9.params.toList args.toList ds p := hA0
  have hsz : (DataW.weightsEach Try.prog (Try.f9.params.toList ++ Rows.stampBytesSpec.plain.varTypes Try.prog) (ds ++ gs)).all (· ≤ reachBytes) = true := hsz0
  rw [Try.params9] at hA hval hsz
  obtain ⟨v0, vs0, d0, ds0, p0, q0, hargs, rfl, rfl, h0, r0⟩ := trodAll_cons hA
  obtain ⟨v1, vs1, d1, ds1, p1, q1, rfl, rfl, rfl, h1, r1⟩ := trodAll_cons r0
  obtain ⟨rfl, rfl, rfl⟩ := trodAll_nil r1
  obtain rfl : args = #[v0, v1] := by cases args; simp_all
  obtain ⟨rfl, rfl⟩ := trodVars_none hV
  obtain ⟨t0, rfl⟩ := open_stamp (hval 0 24 v0 rfl rfl) h0
  obtain ⟨t1, rfl⟩ := open_stamp (hval 1 24 v1 rfl rfl) h1
  clear hA0 hval0 hsz0
  refine (walk t0 t1 W).mono fun e W' ⟨he, hg⟩ => ?_
  subst he
  exact ⟨_, rfl, law_post progLaid hW' rfl (by rw [Try.params9]; intro t ht; simp at ht; subst ht; exact ⟨by kernel_rfl, of_decide_eq_true (by kernel_rfl)⟩) rfl Try.underlying4 rfl hg⟩

theorem over : Rows.stampBytesRow.holds Try.pinned (OpenSpec.ofChange Rows.stampBytesSpec) :=
  OpenClaim.holds_of_wide 9 Try.f9 rfl rfl rfl rfl rfl rfl rfl ⟨rfl, rfl, rfl, rfl, rfl⟩ rfl rfl rfl rfl rfl (by kernel_rfl) Try.func9 (by kernel_rfl)
    (of_decide_eq_true (by kernel_rfl)) (by unfold Func.isWrapper; first | (rw [if_pos (by decide +kernel)]; kernel_rfl) | (rw [if_neg (by decide +kernel)]; exact ⟨rfl, rfl⟩))
    (fun os started H enc _ => lifted os started H enc)

/-- The statement. -/
theorem proved : Rows.StampBytesSaid :=
  over
end stampBytes
end Go.Proofs.Ytpcnnnfgopilaaa
