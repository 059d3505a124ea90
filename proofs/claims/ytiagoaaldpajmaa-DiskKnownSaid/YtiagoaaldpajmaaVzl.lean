/- Several texts in one: TwoF, Named. -/
import Derived.Test.YtiagoaaldpajmaaVw
import Derived.Test.YtiagoaaldpajmaaVz
import Derived.Lib.SlBytesConst
namespace Go.Proofs.Ytiagoaaldpajmaa
set_option linter.unusedVariables false
abbrev sb : ByteArray := ⟨#[98]⟩
abbrev sc : ByteArray := ⟨#[99]⟩
def ND (fs : Fs) (dd : Nat) (off : Bool) (f : Nat) : DM := ⟨10000, fs, dd, off, f⟩
section
variable {d : DM} {s : ByteArray} {bs one two : List Nat} {k dd f : Nat} {off : Bool}
theorem appE_of (h1 : lookE d.off [s] = 0) (h2 : lenF s.data.toList d.fs + k ≤ 8388608) (h3 : usedF d.fs + k ≤ d.room) : appE d s k = if d.fuse = 1 then 30 else 0 := by
  unfold appE
  rw [if_neg (by simpa using h1), if_neg (by omega), if_neg (by omega)]
theorem appD_of (h1 : lookE d.off [s] = 0) (h2 : lenF s.data.toList d.fs + bs.length ≤ 8388608) (h3 : usedF d.fs + bs.length ≤ d.room) : appD d s bs = { d.tick with fs := appendF s.data.toList bs d.fs } := by
  unfold appD
  rw [if_neg (by simpa using h1), if_neg (by omega), if_neg (by omega)]
theorem look_a : lookE false [sa] = 0 := by kernel_rfl
theorem look_b : lookE false [sb] = 0 := by kernel_rfl
theorem look_c : lookE false [sc] = 0 := by kernel_rfl
theorem look_ab : lookE false [sa, sb] = 0 := by kernel_rfl
theorem bb_ab : bytesBefore [97] [98] = true := by decide
theorem bb_ba : bytesBefore [98] [97] = false := by decide
theorem bb_cb : bytesBefore [99] [98] = false := by decide
def fA (x : Fil) : Fs := [([97], x)]
def fAB (x y : Fil) : Fs := [([97], x), ([98], y)]
def fB (x : Fil) : Fs := [([98], x)]
def fBC (x y : Fil) : Fs := [([98], x), ([99], y)]
theorem tw1 : appendF [97] one [] = fA ⟨one, 0, false⟩ := by simp [appendF, putF, delF, insF, getF, appF, newF, fA]
theorem tw2 {x : Fil} : syncF [97] (fA x) = fA (cutF x x.b.length) := by simp [syncF, putF, delF, insF, getF, fA]
theorem tw3 {x : Fil} : appendF [98] two (fA x) = fAB x ⟨two, 0, false⟩ := by simp [appendF, putF, delF, insF, getF, appF, newF, fA, fAB, bb_ba]
theorem tw4 {x y : Fil} : syncF [98] (fAB x y) = fAB x (cutF y y.b.length) := by simp [syncF, putF, delF, insF, getF, fAB, bb_ba]
theorem tw5 {x y : Fil} : renameF [97] [98] (fAB x y) = fB (cutF x x.b.length) := by simp [renameF, putF, delF, insF, getF, fAB, fB]
theorem tw6 {x : Fil} : appendF [99] bs (fB x) = fBC x ⟨bs, 0, false⟩ := by simp [appendF, putF, delF, insF, getF, appF, newF, fB, fBC, bb_cb]
theorem cut_all {b : List Nat} {s : Nat} {md : Bool} : cutF ⟨b, s, md⟩ (⟨b, s, md⟩ : Fil).b.length = ⟨b, b.length, true⟩ := by simp [cutF]
/-- all of a sure file stays -/
theorem stays_sure (n : Nm) (b : List Nat) (z : Int) : stays (n, ⟨b, b.length, true⟩) z = [(n, ⟨b, b.length, true⟩)] := by
  simp [stays, stay1, stayN, cutF]
theorem on_two (W : Nat → Int) : onF W 0 (fAB ⟨one, one.length, true⟩ ⟨two, two.length, true⟩) = fAB ⟨one, one.length, true⟩ ⟨two, two.length, true⟩ := by
  simp only [fAB, onF, stays_sure]
  rfl
theorem on_b (W : Nat → Int) (y : Fil) : ∃ l : Fs, (∀ q ∈ l, q.1 = [99]) ∧ onF W 0 (fBC ⟨one, one.length, true⟩ y) = ([98], ⟨one, one.length, true⟩) :: l := by
  refine ⟨stays ([99], y) (W 1), ?_, ?_⟩
  · intro q hq
    unfold stays at hq
    split at hq
    · simp at hq; rw [hq]
    · simp at hq
  · simp only [fBC, onF, stays_sure]; simp
theorem get_c (l : Fs) (h : ∀ q ∈ l, q.1 = [99]) : getF [97] l = none := by
  unfold getF
  rw [Option.map_eq_none_iff, List.find?_eq_none]
  intro q hq
  rw [h q hq]; decide
theorem find_b (l : Fs) (h : ∀ q ∈ l, q.1 = [99]) : findE (ND (([98], ⟨one, one.length, true⟩) :: l) dd false f) sa [] = 5 ∧ findE (ND (([98], ⟨one, one.length, true⟩) :: l) dd false f) sb [] = 0 ∧ readB (ND (([98], ⟨one, one.length, true⟩) :: l) dd false f) sb = one := by
  have g1 : getF sa.data.toList (ND (([98], ⟨one, one.length, true⟩) :: l) dd false f).fs = none := by
    show getF [97] (([98], (⟨one, one.length, true⟩ : Fil)) :: l) = none
    have := get_c l h
    unfold getF at this ⊢
    rw [List.find?_cons]
    exact this
  have g2 : getF sb.data.toList (ND (([98], ⟨one, one.length, true⟩) :: l) dd false f).fs = some ⟨one, one.length, true⟩ := by
    show getF [98] (([98], (⟨one, one.length, true⟩ : Fil)) :: l) = _
    simp [getF]
  have e1 : findE (ND (([98], ⟨one, one.length, true⟩) :: l) dd false f) sa [] = 5 := by
    unfold findE noneE
    rw [if_neg (fun h => h look_a), g1]
  have e2 : findE (ND (([98], ⟨one, one.length, true⟩) :: l) dd false f) sb [] = 0 := by
    unfold findE noneE
    rw [if_neg (fun h => h look_b), g2]
  refine ⟨e1, e2, ?_⟩
  unfold readB
  rw [if_pos e2, g2]
theorem find_two : findE (ND (fAB ⟨one, one.length, true⟩ ⟨two, two.length, true⟩) dd false f) sa [] = 0 ∧ findE (ND (fAB ⟨one, one.length, true⟩ ⟨two, two.length, true⟩) dd false f) sb [] = 0 ∧
    readB (ND (fAB ⟨one, one.length, true⟩ ⟨two, two.length, true⟩) dd false f) sa = one ∧ readB (ND (fAB ⟨one, one.length, true⟩ ⟨two, two.length, true⟩) dd false f) sb = two := by
  have g1 : getF sa.data.toList (ND (fAB ⟨one, one.length, true⟩ ⟨two, two.length, true⟩) dd false f).fs = some ⟨one, one.length, true⟩ := by
    show getF [97] (fAB _ _) = _
    simp [getF, fAB]
  have g2 : getF sb.data.toList (ND (fAB ⟨one, one.length, true⟩ ⟨two, two.length, true⟩) dd false f).fs = some ⟨two, two.length, true⟩ := by
    show getF [98] (fAB _ _) = _
    simp [getF, fAB]
  have e1 : findE (ND (fAB ⟨one, one.length, true⟩ ⟨two, two.length, true⟩) dd false f) sa [] = 0 := by
    unfold findE noneE
    rw [if_neg (fun h => h look_a), g1]
  have e2 : findE (ND (fAB ⟨one, one.length, true⟩ ⟨two, two.length, true⟩) dd false f) sb [] = 0 := by
    unfold findE noneE
    rw [if_neg (fun h => h look_b), g2]
  refine ⟨e1, e2, ?_, ?_⟩
  · unfold readB; rw [if_pos e1, g1]
  · unfold readB; rw [if_pos e2, g2]
-- the steps of DiskNamed
theorem nm1 (h : one.length ≤ 300) : appE (newD 10000) sa one.length = 0 ∧ appD (newD 10000) sa one = ND (fA ⟨one, 0, false⟩) 1 false 0 := by
  have h1 : lookE (newD 10000).off [sa] = 0 := look_a
  have h2 : lenF sa.data.toList (newD 10000).fs = 0 := by kernel_rfl
  have h3 : usedF (newD 10000).fs = 0 := by kernel_rfl
  have h4 : (newD 10000).room = 10000 := by kernel_rfl
  rw [appE_of h1 (by rw [h2]; omega) (by rw [h3, h4]; omega), appD_of h1 (by rw [h2]; omega) (by rw [h3, h4]; omega)]
  refine ⟨by rw [if_neg (by decide)], ?_⟩
  unfold DM.tick
  rw [if_neg (by decide)]
  show (⟨_, appendF [97] one [], _, _, _⟩ : DM) = _
  rw [tw1]; rfl
theorem nm2 {x : Fil} : syncE (ND (fA x) dd false 0) sa = 0 ∧ syncD (ND (fA x) dd false 0) sa = ND (fA (cutF x x.b.length)) (dd + 1) false 0 := by
  have hf : findE (ND (fA x) dd false 0) sa [] = 0 := by
    unfold findE noneE
    rw [if_neg (fun h => h look_a), show getF sa.data.toList (ND (fA x) dd false 0).fs = some x by show getF [97] (fA x) = _; simp [getF, fA]]
  unfold syncE syncD deedE DM.deed
  rw [if_pos hf, if_pos hf]
  refine ⟨rfl, ?_⟩
  show (⟨10000, syncF [97] (fA x), dd + 1, false, 0⟩ : DM) = _
  rw [tw2]; rfl
theorem nm3 {x : Fil} (hx : x.b.length ≤ 300) (h : two.length ≤ 300) : appE (ND (fA x) dd false 0) sb two.length = 0 ∧ appD (ND (fA x) dd false 0) sb two = ND (fAB x ⟨two, 0, false⟩) (dd + 1) false 0 := by
  have h1 : lookE (ND (fA x) dd false 0).off [sb] = 0 := look_b
  have h2 : lenF sb.data.toList (ND (fA x) dd false 0).fs = 0 := by show lenF [98] (fA x) = 0; simp [lenF, getF, fA]
  have h3 : usedF (ND (fA x) dd false 0).fs = x.b.length := by show usedF (fA x) = _; simp [usedF, fA]
  have h4 : (ND (fA x) dd false 0).room = 10000 := rfl
  rw [appE_of h1 (by rw [h2]; omega) (by rw [h3, h4]; omega), appD_of h1 (by rw [h2]; omega) (by rw [h3, h4]; omega)]
  refine ⟨rfl, ?_⟩
  show (⟨10000, appendF [98] two (fA x), dd + 1, false, 0⟩ : DM) = _
  rw [tw3]; rfl
theorem nm4 {x y : Fil} : syncE (ND (fAB x y) dd false 0) sb = 0 ∧ syncD (ND (fAB x y) dd false 0) sb = ND (fAB x (cutF y y.b.length)) (dd + 1) false 0 := by
  have hf : findE (ND (fAB x y) dd false 0) sb [] = 0 := by
    unfold findE noneE
    rw [if_neg (fun h => h look_b), show getF sb.data.toList (ND (fAB x y) dd false 0).fs = some y by show getF [98] (fAB x y) = _; simp [getF, fAB]]
  unfold syncE syncD deedE DM.deed
  rw [if_pos hf, if_pos hf]
  refine ⟨rfl, ?_⟩
  show (⟨10000, syncF [98] (fAB x y), dd + 1, false, 0⟩ : DM) = _
  rw [tw4]; rfl
theorem nm6 {x y : Fil} : findE (ND (fAB x y) dd false f) sa [sb] = 0 := by
  unfold findE noneE
  rw [if_neg (fun h => h look_ab), show getF sa.data.toList (ND (fAB x y) dd false f).fs = some x by show getF [97] (fAB x y) = _; simp [getF, fAB]]
theorem nm6_gone {x y : Fil} : renameE (ND (fAB x y) dd false 1) sa sb = 30 ∧ renameD (ND (fAB x y) dd false 1) sa sb = ND (fAB x y) (dd + 1) true 0 := by
  unfold renameE renameD deedE DM.deed
  rw [if_pos nm6, if_pos nm6]
  exact ⟨rfl, rfl⟩
theorem nm6_well {x y : Fil} : renameE (ND (fAB x y) dd false (f + 2)) sa sb = 0 ∧ renameD (ND (fAB x y) dd false (f + 2)) sa sb = ND (fB (cutF x x.b.length)) (dd + 1) false (f + 1) := by
  unfold renameE renameD deedE DM.deed
  rw [if_pos nm6, if_pos nm6]
  have h5 : ¬ (ND (fAB x y) dd false (f + 2)).fuse = 1 := by show ¬ f + 2 = 1; omega
  rw [if_neg h5, if_neg h5]
  refine ⟨rfl, ?_⟩
  show (⟨10000, renameF [97] [98] (fAB x y), dd + 1, false, f + 2 - 1⟩ : DM) = _
  rw [tw5]; rfl
theorem nm7_off {fs : Fs} : appD (ND fs dd true f) sc bs = ND fs dd true f := by
  unfold appD
  exact if_pos (show lookE true [sc] ≠ 0 by decide)
theorem nm7 {x : Fil} (hx : x.b.length ≤ 300) (h : bs.length ≤ 300) : ∃ o f', appD (ND (fB x) dd false f) sc bs = ND (fBC x ⟨bs, 0, false⟩) (dd + 1) o f' := by
  have h1 : lookE (ND (fB x) dd false f).off [sc] = 0 := look_c
  have h2 : lenF sc.data.toList (ND (fB x) dd false f).fs = 0 := by show lenF [99] (fB x) = 0; simp [lenF, getF, fB]
  have h3 : usedF (ND (fB x) dd false f).fs = x.b.length := by show usedF (fB x) = _; simp [usedF, fB]
  have h4 : (ND (fB x) dd false f).room = 10000 := rfl
  rw [appD_of h1 (by rw [h2]; omega) (by rw [h3, h4]; omega)]
  unfold DM.tick
  by_cases h5 : (ND (fB x) dd false f).fuse = 1
  · rw [if_pos h5]
    refine ⟨true, 0, ?_⟩
    show (⟨10000, appendF [99] bs (fB x), dd + 1, true, 0⟩ : DM) = _
    rw [tw6]; rfl
  · rw [if_neg h5]
    refine ⟨false, f - 1, ?_⟩
    show (⟨10000, appendF [99] bs (fB x), dd + 1, false, f - 1⟩ : DM) = _
    rw [tw6]; rfl
theorem nm8 {fs : Fs} : crashD (ND fs dd off f) = ND fs dd true 0 := rfl
theorem nm9 {fs : Fs} (ks : List Int) : onD (ND fs dd true f) ks = ND (onF (wishOf ks) 0 fs) dd false 0 := rfl
end
end Go.Proofs.Ytiagoaaldpajmaa
namespace Go.Proofs.Ytiagoaaldpajmaa
open Go.ChangeShapes Go.WideShapes Go.ChangeAt Go.RowKit Go.BigFrame Go.Maps Go.Sort
set_option linter.unusedVariables false
namespace diskNamed
set_option maxRecDepth 100000 in
set_option maxHeartbeats 1000000 in
theorem walk_else (so st : ByteArray) (q : Nat) (A : Option Addr) (ks : List Int) (c : Nat) (w : World) (hs : so.size ≤ 9223372036854775807) (ht : st.size ≤ 9223372036854775807) (hno : 300 < so.size ∨ 300 < st.size) :
    Calls Try.prog 6 #[.string so, .string st, .int .u8 (q : Nat), .slice A ks.length c] w fun e w' => e = .returned (.bool true) ∧ Below w.heap.size w w' := by
  have hw := works_any w
  have HW := Lib.hid hw; clear hw
  by_cases h1 : 300 < so.size
  · clear hno
    go_enter Try.func6, Try.ntmps6
    go_wp2_with fail
    refine (HW.out).mono ?_; rintro e w2 ⟨rfl, hb2⟩
    go_wp2_with fail
    go_ret
    exact ⟨rfl, hb2⟩
  · have h2 : 300 < st.size := by omega
    clear hno
    go_enter Try.func6, Try.ntmps6
    go_wp2_with fail
    refine (HW.out).mono ?_; rintro e w2 ⟨rfl, hb2⟩
    go_wp2_with fail
    go_ret
    exact ⟨rfl, hb2⟩
set_option maxRecDepth 100000 in
set_option maxHeartbeats 4000000 in
theorem walk (so st : ByteArray) (q : Nat) (A : Option Addr) (ks : List Int) (c : Nat) (w : World) (hs : so.size ≤ 300) (ht : st.size ≤ 300) (hq : q ≤ 255) (hK : IntsAt w A ks) (hkc : ks.length ≤ c) (hkm : c ≤ 9223372036854775807) :
    Calls Try.prog 6 #[.string so, .string st, .int .u8 (q : Nat), .slice A ks.length c] w fun e w' => e = .returned (.bool true) ∧ Below w.heap.size w w' := by
  have hn := own_new (w0 := w) (w := w) 10000 (Below.refl _ _) (by omega)
  have hKlt : ∀ ad, A = some ad → 0 < ks.length → ad.block < w.heap.size := fun ad e h0 => by
    obtain ⟨b, off, e', hb, _⟩ := hK.2 h0
    rw [e] at e'; injection e' with e'; subst e'; exact hb
  have HN := Lib.hid hn; have HK := Lib.hid hK; have HKL := Lib.hid hKlt; clear hn hK hKlt
  go_enter Try.func6, Try.ntmps6
  go_wp2_with fail
  refine (HN.out).mono ?_; rintro e w1 ⟨rfl, ho, -⟩
  obtain ⟨p, hp0⟩ : ∃ p, p = w.heap.size := ⟨_, rfl⟩
  rw [← hp0] at ho ⊢
  clear hp0
  -- Append a
  go_wp2_with (refine wpList_tobytes rfl (.tmp 26) rfl Try.underlying9 Try.underlying36 Try.underlying5 so rfl (by unfold maxLen; omega) ?_)
  intro c1 w2 hB hb2 hc1 hcm1 hlt1
  have hlo := bl_len so
  have hlt := bl_len st
  have hap := own_append (ho.made hb2) sa ⟨w1.heap.size, 0, none⟩ (bl so) c1 hB (fun _ e => by have := (ho.mine _ e).2; simp at this) (by decide) (by omega) (by decide)
  rw [(nm1 (one := bl so) (by omega)).1, (nm1 (one := bl so) (by omega)).2, hlo] at hap
  have HAp := Lib.hid hap; have HLo := Lib.hid hlo; have HLt := Lib.hid hlt; clear hap ho hB hb2 hc1 hcm1 hlt1 hlo hlt
  go_wp2_with fail
  refine (HAp.out).mono ?_; rintro e w3 ⟨rfl, ho3, -⟩
  generalize Ext _ _ _ = F3 at ho3
  have hsy := own_sync ho3 sa (by decide) (by simp [ND])
  rw [nm2.1, nm2.2, cut_all] at hsy
  have HSy := Lib.hid hsy; clear hsy ho3
  go_wp2_with fail
  refine (HSy.out).mono ?_; rintro e w4 ⟨rfl, ho4, -⟩
  generalize Ext _ _ _ = F4 at ho4
  have HO4 := Lib.hid ho4; clear ho4
  -- Append b
  obtain ⟨c5, w5, hr5, hB, hb5, hc5, hcm5, hlt5⟩ := run_tobytes (P := Try.prog) (src := 9) (dst := 36) (e := 5) w4 st Try.underlying9 Try.underlying36 Try.underlying5 (by unfold maxLen; omega)
  have hap := own_append (HO4.out.made hb5) sb ⟨w4.heap.size, 0, none⟩ (bl st) c5 hB (fun _ e => by have := (HO4.out.mine _ e).2; simp at this) (by decide) (by rw [HLt.out]; omega) (by simp [ND])
  rw [(nm3 (two := bl st) (by show (bl so).length ≤ 300; rw [HLo.out]; exact hs) (by rw [HLt.out]; exact ht)).1, (nm3 (two := bl st) (by show (bl so).length ≤ 300; rw [HLo.out]; exact hs) (by rw [HLt.out]; exact ht)).2, HLt.out] at hap
  have HAp5 := Lib.hid hap; clear hap hB hb5 hc5 hcm5 hlt5
  go_wp2_with fail
  refine (HAp5.out).mono ?_; rintro e w6 ⟨rfl, ho6, -⟩
  generalize Ext _ _ _ = F6 at ho6
  have hsy := own_sync ho6 sb (by decide) (by simp [ND])
  rw [nm4.1, nm4.2, cut_all] at hsy
  have HSy6 := Lib.hid hsy; clear hsy ho6
  go_wp2_with fail
  refine (HSy6.out).mono ?_; rintro e w7 ⟨rfl, ho7, -⟩
  generalize Ext _ _ _ = F7 at ho7
  have kc := fun (w : World) (C : Array Value) (n c : Nat) => Lib.run_convert_bytes_const (P := Try.prog) w 36 5 C n c Try.underlying36 Try.underlying5
  obtain ⟨z, hz⟩ : ∃ z, z = q % 3 := ⟨_, rfl⟩
  have hzq : (q : Int) % 3 = (z : Int) := by omega
  have hz3 : z < 3 := by omega
  have hfl := own_fail ho7 ((z : Nat) : Int) (by omega)
  rw [show failD (ND (fAB ⟨bl so, (bl so).length, true⟩ ⟨bl st, (bl st).length, true⟩) (1 + 1 + 1 + 1) false 0) ((z : Nat) : Int) = ND (fAB ⟨bl so, (bl so).length, true⟩ ⟨bl st, (bl st).length, true⟩) 4 false (z + 1) by unfold failD ND; congr 1] at hfl
  have HFl := Lib.hid hfl; have HZ := Lib.hid hz; clear hfl ho7 hz
  go_wp2_with fail
  rw [hzq]
  clear hzq
  refine (HFl.out).mono ?_; rintro e w8 ⟨rfl, ho8, -⟩
  generalize Ext _ _ _ = F8 at ho8
  by_cases hz0 : z = 0
  · obtain rfl : z = 0 := by omega
    have hre := own_rename ho8 sa sb (by decide) (by decide) (by simp [ND])
    rw [nm6_gone.1, nm6_gone.2] at hre
    have HRe := Lib.hid hre; clear hre ho8
    go_wp2_with fail
    refine (HRe.out).mono ?_; rintro e w9 ⟨rfl, ho9, -⟩
    generalize Ext _ _ _ = F9 at ho9
    have hap := own_append (ho9.alloc (.cells (u8s [109, 111, 114, 101]).toArray 5 (4, 5))) sc ⟨w9.heap.size, 0, none⟩ [109, 111, 114, 101] 4 (Bytes.made w9 5 (4, 5) (by decide)) (fun _ e => by have := (ho9.mine _ e).2; simp at this) (by decide) (by decide) (by simp [ND])
    rw [nm7_off] at hap
    generalize appE _ _ _ = E9 at hap
    have HA9 := Lib.hid hap; clear hap ho9
    go_wp2_with fail
    refine (HA9.out).mono ?_; rintro e w10 ⟨rfl, ho10, -⟩
    generalize Ext _ _ _ = F10 at ho10
    have hcr := own_crash ho10
    rw [nm8] at hcr
    have HCr := Lib.hid hcr; clear hcr ho10
    go_wp2_with fail
    refine (HCr.out).mono ?_; rintro e w11 ⟨rfl, ho11, -⟩
    generalize Ext _ _ _ = F11 at ho11
    have hK11 : IntsAt w11 A ks := HK.out.touch (Touch.of_below (F := fun _ => False) ho11.below) (by simp)
    have hon := own_on ho11 A ks c hK11 hkc hkm (fun ad e h0 hF => by have := (ho11.mine _ hF).1; have := HKL.out ad e h0; omega) (by simp [ND])
    rw [nm9, on_two] at hon
    have HOn := Lib.hid hon; clear hon ho11 hK11
    go_wp2_with fail
    refine (HOn.out).mono ?_; rintro e w12 ⟨rfl, ho12, -⟩
    generalize Ext _ _ _ = F12 at ho12
    have hra := own_read ho12 sa (by decide)
    rw [find_two.1, find_two.2.2.1] at hra
    have HRa := Lib.hid hra; clear hra ho12
    go_wp2_with fail
    refine (HRa.out).mono ?_; rintro e w13 ⟨B1, c13, rfl, hB13, -, ho13, -⟩
    have HB13 := Lib.hid hB13; clear hB13
    have hrb := own_read ho13 sb (by decide)
    rw [find_two.2.1, find_two.2.2.2] at hrb
    have HRb := Lib.hid hrb; clear hrb ho13
    go_wp2_with fail
    refine (HRb.out).mono ?_; rintro e w14 ⟨B2, c14, rfl, hB14, -, ho14, hb14⟩
    have hcv2 := conv_bytes (P := Try.prog) Try.underlying36 Try.underlying5 Try.underlying9 hB14 c14
    have hcv1 := conv_bytes (P := Try.prog) Try.underlying36 Try.underlying5 Try.underlying9 (HB13.out.below hb14) c13
    rw [strOf_bl] at hcv1
    rw [strOf_bl] at hcv2
    have hw := works_any w14
    have HO14 := Lib.hid ho14; have HW := Lib.hid hw; clear ho14 hb14 hB14 hw
    go_wp2_with fail
    refine (HW.out).mono ?_; rintro e w15 ⟨rfl, hb15⟩
    have H15 := Lib.hid hb15; clear hb15
    go_wp2_with fail
    go_ret
    exact ⟨rfl, HO14.out.below.trans (H15.out.mono HO14.out.below.size)⟩
  · obtain ⟨f, rfl⟩ : ∃ f, z = f + 1 := ⟨z - 1, by omega⟩
    have hre := own_rename ho8 sa sb (by decide) (by decide) (by simp [ND])
    rw [nm6_well.1, nm6_well.2, cut_all] at hre
    have HRe := Lib.hid hre; clear hre ho8
    go_wp2_with fail
    refine (HRe.out).mono ?_; rintro e w9 ⟨rfl, ho9, -⟩
    generalize Ext _ _ _ = F9 at ho9
    have hap := own_append (ho9.alloc (.cells (u8s [109, 111, 114, 101]).toArray 5 (4, 5))) sc ⟨w9.heap.size, 0, none⟩ [109, 111, 114, 101] 4 (Bytes.made w9 5 (4, 5) (by decide)) (fun _ e => by have := (ho9.mine _ e).2; simp at this) (by decide) (by decide) (by simp [ND])
    obtain ⟨o', f', he⟩ := nm7 (x := ⟨bl so, (bl so).length, true⟩) (bs := [109, 111, 114, 101]) (dd := 4 + 1) (f := f + 1) (by show (bl so).length ≤ 300; rw [HLo.out]; exact hs) (by decide)
    rw [he] at hap
    generalize appE _ _ _ = E9 at hap
    have HA9 := Lib.hid hap; clear hap ho9 he
    go_wp2_with fail
    refine (HA9.out).mono ?_; rintro e w10 ⟨rfl, ho10, -⟩
    generalize Ext _ _ _ = F10 at ho10
    obtain ⟨l, hl, hle⟩ := on_b (one := bl so) (wishOf ks) ⟨[109, 111, 114, 101], 0, false⟩
    have HLE := Lib.hid hle; have HL := Lib.hid hl; clear hle hl
    have hcr := own_crash ho10
    rw [nm8] at hcr
    have HCr := Lib.hid hcr; clear hcr ho10
    go_wp2_with fail
    refine (HCr.out).mono ?_; rintro e w11 ⟨rfl, ho11, -⟩
    generalize Ext _ _ _ = F11 at ho11
    have hK11 : IntsAt w11 A ks := HK.out.touch (Touch.of_below (F := fun _ => False) ho11.below) (by simp)
    have hon := own_on ho11 A ks c hK11 hkc hkm (fun ad e h0 hF => by have := (ho11.mine _ hF).1; have := HKL.out ad e h0; omega) (by simp [ND])
    rw [nm9, HLE.out] at hon
    have HOn := Lib.hid hon; clear hon ho11 hK11
    go_wp2_with fail
    refine (HOn.out).mono ?_; rintro e w12 ⟨rfl, ho12, -⟩
    generalize Ext _ _ _ = F12 at ho12
    have hra := own_read ho12 sa (by decide)
    rw [(find_b l HL.out).1] at hra
    have HRa := Lib.hid hra; clear hra ho12
    go_wp2_with fail
    refine (HRa.out).mono ?_; rintro e w13 ⟨B1, c13, rfl, hB13, -, ho13, -⟩
    have HB13 := Lib.hid hB13; clear hB13
    have hrb := own_read ho13 sb (by decide)
    rw [(find_b l HL.out).2.1, (find_b l HL.out).2.2] at hrb
    have HRb := Lib.hid hrb; clear hrb ho13
    go_wp2_with fail
    refine (HRb.out).mono ?_; rintro e w14 ⟨B2, c14, rfl, hB14, -, ho14, hb14⟩
    have hcv2 := conv_bytes (P := Try.prog) Try.underlying36 Try.underlying5 Try.underlying9 hB14 c14
    rw [strOf_bl] at hcv2
    have hw := works_any w14
    have HO14 := Lib.hid ho14; have HW := Lib.hid hw; clear ho14 hb14 hB14 hw
    go_wp2_with fail
    refine (HW.out).mono ?_; rintro e w15 ⟨rfl, hb15⟩
    have H15 := Lib.hid hb15; clear hb15
    go_wp2_with fail
    go_ret
    exact ⟨rfl, HO14.out.below.trans (H15.out.mono HO14.out.below.size)⟩
theorem walk_any (so st : ByteArray) (q : Nat) (A : Option Addr) (ks : List Int) (c : Nat) (w : World) (hs : so.size ≤ 9223372036854775807) (ht : st.size ≤ 9223372036854775807) (hq : q ≤ 255) (hK : IntsAt w A ks) (hkc : ks.length ≤ c) (hkm : c ≤ 9223372036854775807) :
    Calls Try.prog 6 #[.string so, .string st, .int .u8 (q : Nat), .slice A ks.length c] w fun e w' => e = .returned (.bool true) ∧ Below w.heap.size w w' := by
  by_cases h : 300 < so.size ∨ 300 < st.size
  · exact walk_else so st q A ks c w hs ht h
  · exact walk so st q A ks c w (by omega) (by omega) hq hK hkc hkm

set_option maxRecDepth 100000 in
theorem lifted (os : Os) (started : os.Started) (H : Type) (enc : TypeId × Value → H) :
    ReturnsInHanded {} Try.checked os 6 .any (Rows.diskNamedSpec.pre6 enc Try.prog Try.f6 Rows.diskNamedRow.domain false) (Rows.diskNamedSpec.post enc Try.prog Try.f6 false true false false) := by
  refine returnsInHanded_of_change_sized (C := Try.checked) ownKnob_none started (by kernel_rfl) Try.func6
    (ChangeSpec.witness6 (enc := enc) (C := Try.checked) false ⟨#[], #[.string ⟨#[]⟩, .string ⟨#[]⟩, .int .u8 0, .slice none 0 0], []⟩ 8 (by kernel_rfl) (by kernel_rfl) (by kernel_rfl) (by kernel_rfl)) ?_
  intro W base args ds gs before hval0 hW hcnd hsz0 _
  have hval : ∀ (j : Nat) t v, Try.f6.params[j]? = some t → args[j]? = some v → Value.okWide Try.prog W .any base t v := hval0
  have hW' := hW
  obtain ⟨p, q, hA0, hV, rfl, hfz, hnd⟩ := hW
  have hA : DataW.TrodAll enc Try.prog W 0 (fun _ => true) true Try.f6.params.toList args.toList ds p := hA0
  have hsz : (DataW.weightsEach Try.prog (Try.f6.params.toList ++ Rows.diskNamedSpec.plain.varTypes Try.prog) (ds ++ gs)).all (· ≤ reachBytes) = true := hsz0
  rw [Try.params6] at hA hval hsz
  obtain ⟨v0, vs0, d0, ds0, p0, q0, hargs, rfl, rfl, h0, r0⟩ := trodAll_cons hA
  obtain ⟨v1, vs1, d1, ds1, p1, q1, rfl, rfl, rfl, h1, r1⟩ := trodAll_cons r0
  obtain ⟨v2, vs2, d2, ds2, p2, q2, rfl, rfl, rfl, h2, r2⟩ := trodAll_cons r1
  obtain ⟨v3, vs3, d3, ds3, p3, q3, rfl, rfl, rfl, h3, r3⟩ := trodAll_cons r2
  obtain ⟨rfl, rfl, rfl⟩ := trodAll_nil r3
  obtain rfl : args = #[v0, v1, v2, v3] := by cases args; simp_all
  obtain ⟨rfl, rfl⟩ := trodVars_none hV
  obtain ⟨s0, rfl, rfl, rfl, hs0⟩ := Go.ChangeMaps.open_string Try.underlying9 (hval 0 9 v0 rfl rfl) h0
  unfold maxLen at hs0
  obtain ⟨s1, rfl, rfl, rfl, hs1⟩ := Go.ChangeMaps.open_string Try.underlying9 (hval 1 9 v1 rfl rfl) h1
  unfold maxLen at hs1
  obtain ⟨a2, rfl, rfl, rfl, w2⟩ := open_int Try.underlying5 (hval 2 5 v2 rfl rfl) h2
  have b2 := u8_wf w2
  obtain ⟨n2, rfl⟩ := Int.eq_ofNat_of_zero_le b2.1
  obtain ⟨A3, ks3, c3, rfl, hK3, hkc3, hkm3, hkn3⟩ := open_ints_at Try.underlying30 Try.underlying3 cells_int (hval 3 30 v3 rfl rfl) h3
  clear hA0 hval0 hsz0
  refine (walk_any s0 s1 n2 A3 ks3 c3 W hs0 hs1 (by omega) hK3 hkc3 hkm3).mono fun e W' ⟨he, hg⟩ => ?_
  subst he
  exact ⟨_, rfl, law_post progLaid hW' rfl (by rw [Try.params6]; intro t ht; simp at ht; rcases ht with rfl | rfl | rfl <;> exact ⟨by kernel_rfl, of_decide_eq_true (by kernel_rfl)⟩) rfl Try.underlying4 rfl hg⟩

theorem over : Rows.diskNamedRow.holds Try.pinned (OpenSpec.ofChange Rows.diskNamedSpec) :=
  OpenClaim.holds_of_wide 6 Try.f6 rfl rfl rfl rfl rfl rfl rfl ⟨rfl, rfl, rfl, rfl, rfl⟩ rfl rfl rfl rfl rfl (by kernel_rfl) Try.func6 (by kernel_rfl)
    (of_decide_eq_true (by kernel_rfl)) (by unfold Func.isWrapper; first | (rw [if_pos (by decide +kernel)]; kernel_rfl) | (rw [if_neg (by decide +kernel)]; exact ⟨rfl, rfl⟩))
    (fun os started H enc _ => lifted os started H enc)

/-- The statement. -/
theorem proved : Rows.DiskNamedSaid :=
  over
end diskNamed
end Go.Proofs.Ytiagoaaldpajmaa
