/- A disk of two files, renamed. -/
import Derived.Test.YtgfdpilgonpokaaRename2
namespace Go.Proofs.Ytgfdpilgonpokaa
set_option linter.unusedVariables false
abbrev sb : ByteArray := ⟨#[98]⟩
abbrev sc : ByteArray := ⟨#[99]⟩
def ND (fs : Fs) (dd : Nat) (off : Bool) (f : Nat) : DM := ⟨10000, fs, dd, off, f⟩
section
variable {d : DM} {s : ByteArray} {bs one two : List Nat} {k dd f : Nat} {off : Bool}
theorem appE_of (h1 : lookE d.off [s] = 0) (h2 : lenF s.data.toList d.fs + k ≤ 8388608) (h3 : usedF d.fs + k ≤ d.room) : appE d s k = if d.fuse = 1 then 30 else 0 := by
  unfold appE
  rw [if_neg (by simpa using h1), if_neg (by omega), if_neg (by omega)]
theorem appD_of (h1 : lookE d.off [s] = 0) (h2 : lenF s.data.toList d.fs + bs.length ≤ 8388608) (h3 : usedF d.fs + bs.length ≤ d.room) : appD d s bs = { d.tick with fs := appendF s.data.toList bs d.fs } := by
  unfold appD
  rw [if_neg (by simpa using h1), if_neg (by omega), if_neg (by omega)]
theorem look_a : lookE false [sa] = 0 := by kernel_rfl
theorem look_b : lookE false [sb] = 0 := by kernel_rfl
theorem look_c : lookE false [sc] = 0 := by kernel_rfl
theorem look_ab : lookE false [sa, sb] = 0 := by kernel_rfl
theorem bb_ab : bytesBefore [97] [98] = true := by decide
theorem bb_ba : bytesBefore [98] [97] = false := by decide
theorem bb_cb : bytesBefore [99] [98] = false := by decide
def fA (x : Fil) : Fs := [([97], x)]
def fAB (x y : Fil) : Fs := [([97], x), ([98], y)]
def fB (x : Fil) : Fs := [([98], x)]
def fBC (x y : Fil) : Fs := [([98], x), ([99], y)]
theorem tw1 : appendF [97] one [] = fA ⟨one, 0, false⟩ := by simp [appendF, putF, delF, insF, getF, appF, newF, fA]
theorem tw2 {x : Fil} : syncF [97] (fA x) = fA (cutF x x.b.length) := by simp [syncF, putF, delF, insF, getF, fA]
theorem tw3 {x : Fil} : appendF [98] two (fA x) = fAB x ⟨two, 0, false⟩ := by simp [appendF, putF, delF, insF, getF, appF, newF, fA, fAB, bb_ba]
theorem tw4 {x y : Fil} : syncF [98] (fAB x y) = fAB x (cutF y y.b.length) := by simp [syncF, putF, delF, insF, getF, fAB, bb_ba]
theorem tw5 {x y : Fil} : renameF [97] [98] (fAB x y) = fB (cutF x x.b.length) := by simp [renameF, putF, delF, insF, getF, fAB, fB]
theorem tw6 {x : Fil} : appendF [99] bs (fB x) = fBC x ⟨bs, 0, false⟩ := by simp [appendF, putF, delF, insF, getF, appF, newF, fB, fBC, bb_cb]
theorem cut_all {b : List Nat} {s : Nat} {md : Bool} : cutF ⟨b, s, md⟩ (⟨b, s, md⟩ : Fil).b.length = ⟨b, b.length, true⟩ := by simp [cutF]
/-- all of a sure file stays -/
theorem stays_sure (n : Nm) (b : List Nat) (z : Int) : stays (n, ⟨b, b.length, true⟩) z = [(n, ⟨b, b.length, true⟩)] := by
  simp [stays, stay1, stayN, cutF]
theorem on_two (W : Nat → Int) : onF W 0 (fAB ⟨one, one.length, true⟩ ⟨two, two.length, true⟩) = fAB ⟨one, one.length, true⟩ ⟨two, two.length, true⟩ := by
  simp only [fAB, onF, stays_sure]
  rfl
theorem on_b (W : Nat → Int) (y : Fil) : ∃ l : Fs, (∀ q ∈ l, q.1 = [99]) ∧ onF W 0 (fBC ⟨one, one.length, true⟩ y) = ([98], ⟨one, one.length, true⟩) :: l := by
  refine ⟨stays ([99], y) (W 1), ?_, ?_⟩
  · intro q hq
    unfold stays at hq
    split at hq
    · simp at hq; rw [hq]
    · simp at hq
  · simp only [fBC, onF, stays_sure]; simp
theorem get_c (l : Fs) (h : ∀ q ∈ l, q.1 = [99]) : getF [97] l = none := by
  unfold getF
  rw [Option.map_eq_none_iff, List.find?_eq_none]
  intro q hq
  rw [h q hq]; decide
theorem find_b (l : Fs) (h : ∀ q ∈ l, q.1 = [99]) : findE (ND (([98], ⟨one, one.length, true⟩) :: l) dd false f) sa [] = 5 ∧ findE (ND (([98], ⟨one, one.length, true⟩) :: l) dd false f) sb [] = 0 ∧ readB (ND (([98], ⟨one, one.length, true⟩) :: l) dd false f) sb = one := by
  have g1 : getF sa.data.toList (ND (([98], ⟨one, one.length, true⟩) :: l) dd false f).fs = none := by
    show getF [97] (([98], (⟨one, one.length, true⟩ : Fil)) :: l) = none
    have := get_c l h
    unfold getF at this ⊢
    rw [List.find?_cons]
    exact this
  have g2 : getF sb.data.toList (ND (([98], ⟨one, one.length, true⟩) :: l) dd false f).fs = some ⟨one, one.length, true⟩ := by
    show getF [98] (([98], (⟨one, one.length, true⟩ : Fil)) :: l) = _
    simp [getF]
  have e1 : findE (ND (([98], ⟨one, one.length, true⟩) :: l) dd false f) sa [] = 5 := by
    unfold findE noneE
    rw [if_neg (fun h => h look_a), g1]
  have e2 : findE (ND (([98], ⟨one, one.length, true⟩) :: l) dd false f) sb [] = 0 := by
    unfold findE noneE
    rw [if_neg (fun h => h look_b), g2]
  refine ⟨e1, e2, ?_⟩
  unfold readB
  rw [if_pos e2, g2]
theorem find_two : findE (ND (fAB ⟨one, one.length, true⟩ ⟨two, two.length, true⟩) dd false f) sa [] = 0 ∧ findE (ND (fAB ⟨one, one.length, true⟩ ⟨two, two.length, true⟩) dd false f) sb [] = 0 ∧
    readB (ND (fAB ⟨one, one.length, true⟩ ⟨two, two.length, true⟩) dd false f) sa = one ∧ readB (ND (fAB ⟨one, one.length, true⟩ ⟨two, two.length, true⟩) dd false f) sb = two := by
  have g1 : getF sa.data.toList (ND (fAB ⟨one, one.length, true⟩ ⟨two, two.length, true⟩) dd false f).fs = some ⟨one, one.length, true⟩ := by
    show getF [97] (fAB _ _) = _
    simp [getF, fAB]
  have g2 : getF sb.data.toList (ND (fAB ⟨one, one.length, true⟩ ⟨two, two.length, true⟩) dd false f).fs = some ⟨two, two.length, true⟩ := by
    show getF [98] (fAB _ _) = _
    simp [getF, fAB]
  have e1 : findE (ND (fAB ⟨one, one.length, true⟩ ⟨two, two.length, true⟩) dd false f) sa [] = 0 := by
    unfold findE noneE
    rw [if_neg (fun h => h look_a), g1]
  have e2 : findE (ND (fAB ⟨one, one.length, true⟩ ⟨two, two.length, true⟩) dd false f) sb [] = 0 := by
    unfold findE noneE
    rw [if_neg (fun h => h look_b), g2]
  refine ⟨e1, e2, ?_, ?_⟩
  · unfold readB; rw [if_pos e1, g1]
  · unfold readB; rw [if_pos e2, g2]
-- the steps of DiskNamed
theorem nm1 (h : one.length ≤ 300) : appE (newD 10000) sa one.length = 0 ∧ appD (newD 10000) sa one = ND (fA ⟨one, 0, false⟩) 1 false 0 := by
  have h1 : lookE (newD 10000).off [sa] = 0 := look_a
  have h2 : lenF sa.data.toList (newD 10000).fs = 0 := by kernel_rfl
  have h3 : usedF (newD 10000).fs = 0 := by kernel_rfl
  have h4 : (newD 10000).room = 10000 := by kernel_rfl
  rw [appE_of h1 (by rw [h2]; omega) (by rw [h3, h4]; omega), appD_of h1 (by rw [h2]; omega) (by rw [h3, h4]; omega)]
  refine ⟨by rw [if_neg (by decide)], ?_⟩
  unfold DM.tick
  rw [if_neg (by decide)]
  show (⟨_, appendF [97] one [], _, _, _⟩ : DM) = _
  rw [tw1]; rfl
theorem nm2 {x : Fil} : syncE (ND (fA x) dd false 0) sa = 0 ∧ syncD (ND (fA x) dd false 0) sa = ND (fA (cutF x x.b.length)) (dd + 1) false 0 := by
  have hf : findE (ND (fA x) dd false 0) sa [] = 0 := by
    unfold findE noneE
    rw [if_neg (fun h => h look_a), show getF sa.data.toList (ND (fA x) dd false 0).fs = some x by show getF [97] (fA x) = _; simp [getF, fA]]
  unfold syncE syncD deedE DM.deed
  rw [if_pos hf, if_pos hf]
  refine ⟨rfl, ?_⟩
  show (⟨10000, syncF [97] (fA x), dd + 1, false, 0⟩ : DM) = _
  rw [tw2]; rfl
theorem nm3 {x : Fil} (hx : x.b.length ≤ 300) (h : two.length ≤ 300) : appE (ND (fA x) dd false 0) sb two.length = 0 ∧ appD (ND (fA x) dd false 0) sb two = ND (fAB x ⟨two, 0, false⟩) (dd + 1) false 0 := by
  have h1 : lookE (ND (fA x) dd false 0).off [sb] = 0 := look_b
  have h2 : lenF sb.data.toList (ND (fA x) dd false 0).fs = 0 := by show lenF [98] (fA x) = 0; simp [lenF, getF, fA]
  have h3 : usedF (ND (fA x) dd false 0).fs = x.b.length := by show usedF (fA x) = _; simp [usedF, fA]
  have h4 : (ND (fA x) dd false 0).room = 10000 := rfl
  rw [appE_of h1 (by rw [h2]; omega) (by rw [h3, h4]; omega), appD_of h1 (by rw [h2]; omega) (by rw [h3, h4]; omega)]
  refine ⟨rfl, ?_⟩
  show (⟨10000, appendF [98] two (fA x), dd + 1, false, 0⟩ : DM) = _
  rw [tw3]; rfl
theorem nm4 {x y : Fil} : syncE (ND (fAB x y) dd false 0) sb = 0 ∧ syncD (ND (fAB x y) dd false 0) sb = ND (fAB x (cutF y y.b.length)) (dd + 1) false 0 := by
  have hf : findE (ND (fAB x y) dd false 0) sb [] = 0 := by
    unfold findE noneE
    rw [if_neg (fun h => h look_b), show getF sb.data.toList (ND (fAB x y) dd false 0).fs = some y by show getF [98] (fAB x y) = _; simp [getF, fAB]]
  unfold syncE syncD deedE DM.deed
  rw [if_pos hf, if_pos hf]
  refine ⟨rfl, ?_⟩
  show (⟨10000, syncF [98] (fAB x y), dd + 1, false, 0⟩ : DM) = _
  rw [tw4]; rfl
theorem nm6 {x y : Fil} : findE (ND (fAB x y) dd false f) sa [sb] = 0 := by
  unfold findE noneE
  rw [if_neg (fun h => h look_ab), show getF sa.data.toList (ND (fAB x y) dd false f).fs = some x by show getF [97] (fAB x y) = _; simp [getF, fAB]]
theorem nm6_gone {x y : Fil} : renameE (ND (fAB x y) dd false 1) sa sb = 30 ∧ renameD (ND (fAB x y) dd false 1) sa sb = ND (fAB x y) (dd + 1) true 0 := by
  unfold renameE renameD deedE DM.deed
  rw [if_pos nm6, if_pos nm6]
  exact ⟨rfl, rfl⟩
theorem nm6_well {x y : Fil} : renameE (ND (fAB x y) dd false (f + 2)) sa sb = 0 ∧ renameD (ND (fAB x y) dd false (f + 2)) sa sb = ND (fB (cutF x x.b.length)) (dd + 1) false (f + 1) := by
  unfold renameE renameD deedE DM.deed
  rw [if_pos nm6, if_pos nm6]
  have h5 : ¬ (ND (fAB x y) dd false (f + 2)).fuse = 1 := by show ¬ f + 2 = 1; omega
  rw [if_neg h5, if_neg h5]
  refine ⟨rfl, ?_⟩
  show (⟨10000, renameF [97] [98] (fAB x y), dd + 1, false, f + 2 - 1⟩ : DM) = _
  rw [tw5]; rfl
theorem nm7_off {fs : Fs} : appD (ND fs dd true f) sc bs = ND fs dd true f := by
  unfold appD
  exact if_pos (show lookE true [sc] ≠ 0 by decide)
theorem nm7 {x : Fil} (hx : x.b.length ≤ 300) (h : bs.length ≤ 300) : ∃ o f', appD (ND (fB x) dd false f) sc bs = ND (fBC x ⟨bs, 0, false⟩) (dd + 1) o f' := by
  have h1 : lookE (ND (fB x) dd false f).off [sc] = 0 := look_c
  have h2 : lenF sc.data.toList (ND (fB x) dd false f).fs = 0 := by show lenF [99] (fB x) = 0; simp [lenF, getF, fB]
  have h3 : usedF (ND (fB x) dd false f).fs = x.b.length := by show usedF (fB x) = _; simp [usedF, fB]
  have h4 : (ND (fB x) dd false f).room = 10000 := rfl
  rw [appD_of h1 (by rw [h2]; omega) (by rw [h3, h4]; omega)]
  unfold DM.tick
  by_cases h5 : (ND (fB x) dd false f).fuse = 1
  · rw [if_pos h5]
    refine ⟨true, 0, ?_⟩
    show (⟨10000, appendF [99] bs (fB x), dd + 1, true, 0⟩ : DM) = _
    rw [tw6]; rfl
  · rw [if_neg h5]
    refine ⟨false, f - 1, ?_⟩
    show (⟨10000, appendF [99] bs (fB x), dd + 1, false, f - 1⟩ : DM) = _
    rw [tw6]; rfl
theorem nm8 {fs : Fs} : crashD (ND fs dd off f) = ND fs dd true 0 := rfl
theorem nm9 {fs : Fs} (ks : List Int) : onD (ND fs dd true f) ks = ND (onF (wishOf ks) 0 fs) dd false 0 := rfl
end
end Go.Proofs.Ytgfdpilgonpokaa
