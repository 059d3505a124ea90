/- PcPort -/
import Derived.Test.YtmhophmpbpbjaaaGreatDoorCa18
import Derived.Test.YtmhophmpbpbjaaaGreatDoorCa17
import Derived.Deep.QuietTactic
import Derived.BigQuiet
import Derived.WalkSmall
namespace Go.Proofs.YtmhophmpbpbjaaaGreatDoor
set_option linter.unusedVariables false
section
open Go.ChangeShapes Go.WideShapes Go.ChangeAt Go.RowKit Go.BigFrame
set_option maxRecDepth 100000
noncomputable def portB (g : List Nd) (z : Int) : Bool := @decide (portOk g z) (Classical.propDecidable _)
theorem portB_iff {g : List Nd} {z : Int} : portB g z = true ↔ portOk g z := by unfold portB; exact @decide_eq_true_iff _ (Classical.propDecidable _)
theorem portB_no {g : List Nd} {z : Int} (h : ¬ portOk g z) : true = !portB g z := by
  cases e : portB g z with
  | true => exact absurd (portB_iff.1 e) h
  | false => rfl
theorem portB_yes {g : List Nd} {z : Int} (h : portOk g z) : false = !portB g z := by rw [portB_iff.2 h]; rfl
set_option maxHeartbeats 4000000 in
theorem wrongPort_any (A : Option Addr) (l : List Gn) (c B : Nat) (z : Int) (w : World) (hG : Gr w A l) (hl : l.length ≤ maxLen) (hB : w.cell? ⟨B, 0, none⟩ = some (.slice A l.length c)) :
    Calls Tryz.prog 149 #[.int .i64 z, .pointer (some ⟨B, 0, none⟩)] w fun e w' => e = .returned (.bool (!portB (nds l) z)) ∧ w = w' := by
  unfold maxLen at hl
  by_cases h0 : z < 0
  · have HN := Lib.hid (portB_no (g := nds l) (z := z) fun h => by have := h.1; omega)
    clear hG
    go_enter Tryz.func149, Tryz.ntmps149
    go_wp2_with fail
    go_ret
    exact ⟨retb HN.out, rfl⟩
  · by_cases h1 : (l.length : Int) ≤ z
    · have HN := Lib.hid (portB_no (g := nds l) (z := z) fun h => by
        obtain ⟨_, m, hm, _⟩ := h
        have := (List.getElem?_eq_some_iff.1 hm).1
        rw [nds_len] at this; omega)
      clear hG
      go_enter Tryz.func149, Tryz.ntmps149
      go_wp2_with fail
      go_ret
      exact ⟨retb HN.out, rfl⟩
    · obtain ⟨Z, rfl⟩ : ∃ Z : Nat, z = (Z : Int) := Int.eq_ofNat_of_zero_le (by omega)
      have hZl : Z < l.length := by omega
      have hZz : (Z : Int) < (l.length : Int) := by omega
      obtain ⟨y, hy⟩ : ∃ y, l[Z]? = some y := ⟨_, List.getElem?_eq_getElem hZl⟩
      have hyn : (nds l)[Z]? = some y.nd := by unfold nds; rw [List.getElem?_map, hy]; rfl
      obtain ⟨b, o, rfl, hbl, hcl⟩ := hG.at_ hy
      obtain ⟨c0, _, _, _, _⟩ := hcl w (Below.refl _ _)
      have HY := Lib.hid hyn; clear hy hcl hyn hG
      by_cases h2 : y.nd.k = 10
      · have h2z : (((y.nd.k : Nat) : Int) == 10) = true := by simp; omega
        have HN := Lib.hid (portB_no (g := nds l) (z := (Z : Int)) fun h => by
          obtain ⟨_, m, hm, hk⟩ := h
          rw [Int.toNat_natCast, HY.out] at hm
          injection hm with hm
          exact hk (by rw [← hm]; exact h2))
        clear h2
        go_enter Tryz.func149, Tryz.ntmps149
        go_wp2_with fail
        go_ret
        exact ⟨retb HN.out, rfl⟩
      · have h2z : (((y.nd.k : Nat) : Int) == 10) = false := by simp; omega
        have HN := Lib.hid (portB_yes (g := nds l) (z := (Z : Int)) ⟨by omega, y.nd, by rw [Int.toNat_natCast]; exact HY.out, h2⟩)
        clear h2
        go_enter Tryz.func149, Tryz.ntmps149
        go_wp2_with fail
        go_ret
        exact ⟨retb HN.out, rfl⟩
def IdxPort (b : Bool) (w : World) (e : Ending) (w' : World) : Prop := (∃ i : Int, e = .returned (.int .i64 i) ∧ decide (0 ≤ i) = b) ∧ w = w'
set_option maxHeartbeats 4000000 in
theorem indexPort_any (A : Option Addr) (l : List Gn) (c B : Nat) (xA : Option Addr) (xs : List Int) (c1 : Nat) (w : World) (hA : Rw.Ts kindI w xA xs) (h1 : xs.length ≤ maxLen) (hG : Gr w A l) (hl : l.length ≤ maxLen) (hB : w.cell? ⟨B, 0, none⟩ = some (.slice A l.length c)) :
    Calls Tryz.prog 174 #[.slice xA xs.length c1, .func (.func 149) #[] #[.pointer (some ⟨B, 0, none⟩)]] w (IdxPort (xs.any fun z => !portB (nds l) z) w) := by
  have eg : ∀ args w, (callFunc 149 args).run Tryz.prog w = .ok (.enter 149 args) w := enters_of Tryz.func149 (by kernel_rfl) rfl
  have HC0 := Lib.hid fun (t : Int) (wr : World) (hb : Below w.heap.size w wr) (ht : t ∈ xs) => wrongPort_any A l c B t wr (hG.below hb) hl (cell_below hB hb)
  unfold maxLen at h1
  have HA := Lib.hid hA; clear hA
  go_enter Tryz.func174, Tryz.ntmps174
  go_wp2_with fail
  go_loop [8] (fun i => ∃ k : Nat, k ≤ xs.length ∧ i = .int .i64 k ∧ ∀ (j : Nat) (t : Int), j < k → xs[j]? = some t → (fun z => !portB (nds l) z) t = false) (fun i => xs.length - (intOf i).toNat)
  case atStart => exact ⟨0, by omega, rfl, fun j t h => absurd h (by omega)⟩
  case round =>
    obtain ⟨k, hk, rfl, hno⟩ := hrel
    have HNO := Lib.hid hno; clear hno
    by_cases hlt : k < xs.length
    · have hltz : (k : Int) < (xs.length : Int) := by omega
      obtain ⟨t, ht⟩ : ∃ t, xs[k]? = some t := ⟨_, List.getElem?_eq_getElem hlt⟩
      obtain ⟨b, o, rfl, hbl, hld⟩ := ints_at HA.out ht
      have c0 := hld _ (Below.refl _ _)
      have hcall := HC0.out t w (Below.refl _ _) (List.mem_of_getElem? ht)
      have HT := Lib.hid ht; clear ht hld
      cases hq : (fun z => !portB (nds l) z) t with
      | true =>
        simp only [] at hq hcall
        rw [hq] at hcall
        have HQ := Lib.hid hq; have HC := Lib.hid hcall; clear hq hcall
        go_wp2_with fail
        refine HC.out.mono ?_; rintro e w1 ⟨rfl, rfl⟩
        go_wp2_with fail
        go_ret
        exact ⟨⟨k, rfl, by rw [decide_eq_true (by omega)]; exact anyI_true (p := fun z => !portB (nds l) z) HT.out HQ.out⟩, rfl⟩
      | false =>
        simp only [] at hq hcall
        rw [hq] at hcall
        have HQ := Lib.hid hq; have HC := Lib.hid hcall; clear hq hcall
        go_wp2_with fail
        refine HC.out.mono ?_; rintro e w1 ⟨rfl, rfl⟩
        go_wp2_with fail
        go_round
        case rel =>
          refine ⟨k + 1, by omega, by simp, fun j t' hj ht' => ?_⟩
          by_cases e : j = k
          · subst e
            rw [HT.out] at ht'; cases ht'
            exact HQ.out
          · exact HNO.out j t' (by omega) ht'
        case measure => simp only [intOf]; omega
    · have hltz : ¬ (k : Int) < (xs.length : Int) := by omega
      go_wp2_with fail
      go_ret
      exact ⟨⟨-1, rfl, by rw [decide_eq_false (by omega)]; exact anyI_false (p := fun z => !portB (nds l) z) fun j t ht => HNO.out j t (by have := (List.getElem?_eq_some_iff.1 ht).1; omega) ht⟩, rfl⟩
theorem containsPort_any (A : Option Addr) (l : List Gn) (c B : Nat) (xA : Option Addr) (xs : List Int) (c1 : Nat) (w : World) (hA : Rw.Ts kindI w xA xs) (h1 : xs.length ≤ maxLen) (hG : Gr w A l) (hl : l.length ≤ maxLen) (hB : w.cell? ⟨B, 0, none⟩ = some (.slice A l.length c)) :
    Calls Tryz.prog 151 #[.slice xA xs.length c1, .func (.func 149) #[] #[.pointer (some ⟨B, 0, none⟩)]] w fun e w' => e = .returned (.bool (xs.any fun z => !portB (nds l) z)) ∧ w = w' := by
  have H := Lib.hid (indexPort_any A l c B xA xs c1 w hA h1 hG hl hB); clear hA
  generalize (xs.any fun z => !portB (nds l) z) = v at *
  go_enter Tryz.func151, Tryz.ntmps151
  go_wp2_with fail
  refine H.out.mono ?_; rintro e w1 ⟨⟨i, rfl, hi⟩, hb1⟩
  have HI := Lib.hid hi; have HB1 := Lib.hid hb1; clear hi hb1
  go_wp2_with fail
  go_ret
  exact ⟨retb HI.out, HB1.out⟩
def wantK (k : Nat) : Nat := if k = 1 then 0 else if k = 4 ∨ k = 6 then 2 else 1
theorem retJ {a b : Int} (h : a = b) : Ending.returned (.int .i64 a) = .returned (.int .i64 b) := by rw [h]
theorem inputs_any (k : Nat) (w : World) : Calls Tryz.prog 150 #[.int .u8 (k : Nat)] w fun e w' => e = .returned (.int .i64 (wantK k : Nat)) ∧ w = w' := by
  by_cases k1 : k = 1
  · subst k1
    go_enter Tryz.func150, Tryz.ntmps150
    go_wp2_with fail
    go_ret
    exact ⟨rfl, rfl⟩
  · have k1z : (((k : Nat) : Int) == 1) = false := by simp; omega
    by_cases k4 : k = 4
    · subst k4
      go_enter Tryz.func150, Tryz.ntmps150
      go_wp2_with fail
      go_ret
      exact ⟨rfl, rfl⟩
    · have k4z : (((k : Nat) : Int) == 4) = false := by simp; omega
      by_cases k6 : k = 6
      · subst k6
        go_enter Tryz.func150, Tryz.ntmps150
        go_wp2_with fail
        go_ret
        exact ⟨rfl, rfl⟩
      · have k6z : (((k : Nat) : Int) == 6) = false := by simp; omega
        have HE := Lib.hid (show (1 : Int) = (wantK k : Nat) by unfold wantK; rw [if_neg k1, if_neg (by omega)]; rfl)
        clear k1 k4 k6
        go_enter Tryz.func150, Tryz.ntmps150
        go_wp2_with fail
        go_ret
        exact ⟨retJ HE.out, rfl⟩
set_option maxHeartbeats 8000000 in
theorem rightPorts_any (A : Option Addr) (l : List Gn) (c : Nat) (xk xa : Nat) (xb xd : Int) (xi : List Int) (xA : Option Addr) (xc : Nat) (w : World) (hG : Gr w A l) (hl : l.length ≤ maxLen) (hT : Rw.Ts kindI w xA xi) (hx : xi.length ≤ maxLen) :
    Calls Tryz.prog 123 #[.slice A l.length c, .agg #[.int .u8 (xk : Nat), .int .u8 (xa : Nat), .int .i64 xb, .int .i64 xd, .slice xA xi.length xc]] w fun e w' => e = .returned (.bool (portsB (nds l) ⟨xk, xa, xb, xd, xi⟩)) ∧ Below w.heap.size w w' := by
  have hb1 := (Below.refl _ w).alloc (Nat.le_refl _) (.cells #[.slice A l.length c] 23)
  have hb2 := hb1.alloc hb1.size (.cells #[.int .u8 (xk : Nat), .int .u8 (xa : Nat), .int .i64 xb, .int .i64 xd, .slice xA xi.length xc] 35)
  obtain ⟨wa, hwa⟩ : ∃ wa, ((w.alloc (.cells #[.slice A l.length c] 23)).alloc (.cells #[.int .u8 (xk : Nat), .int .u8 (xa : Nat), .int .i64 xb, .int .i64 xd, .slice xA xi.length xc] 35)) = wa := ⟨_, rfl⟩
  have hcell : wa.cell? ⟨w.heap.size, 0, none⟩ = some (.slice A l.length c) := by rw [← hwa]; exact old_cell (new_cell rfl)
  rw [hwa] at hb2
  have hc1 : ∀ n, _ := fun n => containsPort_any A l c w.heap.size xA xi xc (wa.drewN n) (hT.below (below_drewN hb2 n)) hx (hG.below (below_drewN hb2 n)) hl (cell_below hcell (below_drewN (Below.refl _ _) n))
  have hc2 : ∀ W, _ := fun W => inputs_any xk W
  rw [← hwa] at hc1 hb2
  have hP : ∀ v, (xi.any fun z => !portB (nds l) z) = v → ((decide (xi.length = wantK xk)) && !v) = portsB (nds l) ⟨xk, xa, xb, xd, xi⟩ := by
    intro v hv
    rw [Bool.eq_iff_iff, portsB_iff, ← hv]
    simp only [Bool.and_eq_true, decide_eq_true_eq, Bool.not_eq_true', List.any_eq_false]
    constructor
    · exact fun h => ⟨fun z hz => portB_iff.1 (by simpa using h.2 z hz), h.1⟩
    · exact fun h => ⟨h.2, fun z hz => by simp [portB_iff.2 (h.1 z hz)]⟩
  have HB := Lib.hid hb2; have HC1 := Lib.hid hc1; have HC2 := Lib.hid hc2
  generalize (xi.any fun z => !portB (nds l) z) = v at *
  have HP := Lib.hid (hP v rfl)
  clear hb1 hb2 hc1 hc2 hP hG hT hcell hwa wa
  generalize portsB (nds l) ⟨xk, xa, xb, xd, xi⟩ = R at *
  generalize wantK xk = W at *
  unfold maxLen at hx hl
  by_cases h1 : xi.length = W
  · have h1z : ((xi.length : Int) == (W : Int)) = true := by simp; omega
    have HR : Hid ((!v) = R) := Lib.hid (by have := HP.out; rw [decide_eq_true h1, Bool.true_and] at this; exact this)
    clear h1 HP
    go_enter Tryz.func123, Tryz.ntmps123
    go_wp2_with fail
    go_quiet (first | (exact Calls.quiet_of_same ((HC2.out _).mono fun _ _ h => ⟨h.1, h.2.symm⟩)) | (exact Calls.quiet_of_same ((HC1.out _).mono fun _ _ h => ⟨h.1, h.2.symm⟩)))
    go_wp2
    go_ret
    exact ⟨retb HR.out, below_drewN HB.out _⟩
  · have h1z : ((xi.length : Int) == (W : Int)) = false := by rw [beq_eq_false_iff_ne]; omega
    have HR : Hid (false = R) := Lib.hid (by have := HP.out; rw [decide_eq_false h1, Bool.false_and] at this; exact this)
    clear h1 HP
    go_enter Tryz.func123, Tryz.ntmps123
    go_wp2_with fail
    go_quiet (first | (exact Calls.quiet_of_same ((HC2.out _).mono fun _ _ h => ⟨h.1, h.2.symm⟩)) | (exact Calls.quiet_of_same ((HC1.out _).mono fun _ _ h => ⟨h.1, h.2.symm⟩)))
    go_wp2
    go_ret
    exact ⟨retb HR.out, below_drewN HB.out _⟩
end
end Go.Proofs.YtmhophmpbpbjaaaGreatDoor
