/- PcDeep, ChkNode -/
import Derived.Test.YtcjdjdhjbchaaaaCa15
import Derived.Test.YtcjdjdhjbchaaaaCa17
import Derived.Test.YtcjdjdhjbchaaaaCa10
import Derived.Test.YtcjdjdhjbchaaaaCa16
namespace Go.Proofs.Ytcjdjdhjbchaaaa
set_option linter.unusedVariables false
section
open Go.ChangeShapes Go.WideShapes Go.ChangeAt Go.RowKit Go.BigFrame
set_option maxRecDepth 100000
/-- the depth of the node at z -/
def dAt (g : List Nd) (z : Int) : Int := (g[z.toNat]?.map Nd.d).getD 0
theorem dAt_is {g : List Nd} {z : Int} {m : Nd} (h : g[z.toNat]? = some m) : dAt g z = m.d := by unfold dAt; rw [h]; rfl
theorem deep_any {g : List Nd} {n : Nd} {F : Int} {b : Bool} (hp : ∀ z ∈ n.ins, portOk g z) (hd : n.deepB = true) (hF : F = n.d - n.more) (hb : (n.ins.any fun z => dAt g z != F) = b) : (!b) = deepG g n := by
  rw [Bool.eq_iff_iff, deepG_iff, ← hb, Bool.not_eq_true', List.any_eq_false]
  constructor
  · refine fun h => ⟨hd, fun z hz m hm => ?_⟩
    have := h z hz
    rw [dAt_is hm] at this
    simp at this
    omega
  · intro h z hz
    obtain ⟨_, m, hm, _⟩ := hp z hz
    rw [dAt_is hm]
    have := h.2 z hz m hm
    simp; omega
set_option maxHeartbeats 4000000 in
theorem wrongDepth_any (A : Option Addr) (l : List Gn) (c B D : Nat) (F z : Int) (w : World) (hG : Gr w A l) (hl : l.length ≤ maxLen) (hB : w.cell? ⟨B, 0, none⟩ = some (.slice A l.length c)) (hD : w.cell? ⟨D, 0, none⟩ = some (.int .i64 F)) (hz : portOk (nds l) z) :
    Calls Try.prog 105 #[.int .i64 z, .pointer (some ⟨B, 0, none⟩), .pointer (some ⟨D, 0, none⟩)] w fun e w' => e = .returned (.bool (dAt (nds l) z != F)) ∧ Below w.heap.size w w' := by
  unfold maxLen at hl
  obtain ⟨hz0, m, hm, _⟩ := hz
  obtain ⟨Z, rfl⟩ : ∃ Z : Nat, z = (Z : Int) := Int.eq_ofNat_of_zero_le hz0
  rw [dAt_is hm]
  rw [Int.toNat_natCast] at hm
  have hZl : Z < l.length := by have := (List.getElem?_eq_some_iff.1 hm).1; rwa [nds_len] at this
  have hZz : (Z : Int) < (l.length : Int) := by omega
  obtain ⟨y, hy⟩ : ∃ y, l[Z]? = some y := ⟨_, List.getElem?_eq_getElem hZl⟩
  have hyn : y.nd = m := by unfold nds at hm; rw [List.getElem?_map, hy] at hm; injection hm
  subst hyn
  obtain ⟨b, o, rfl, hbl, hcl⟩ := hG.at_ hy
  obtain ⟨_, _, _, c3, _⟩ := hcl w (Below.refl _ _)
  have HB := Lib.hid (Below.refl w.heap.size w)
  clear hm hy hcl hG
  generalize y.nd.d = d at *
  go_enter Try.func105, Try.ntmps105
  go_wp2_with fail
  go_region
  go_wp2
  go_ret
  exact ⟨rfl, HB.out.drew⟩
def IdxDeep (b : Bool) (w : World) (e : Ending) (w' : World) : Prop := (∃ i : Int, e = .returned (.int .i64 i) ∧ decide (0 ≤ i) = b) ∧ Below w.heap.size w w'
set_option maxHeartbeats 4000000 in
theorem indexDeep_any (A : Option Addr) (l : List Gn) (c B D : Nat) (F : Int) (xA : Option Addr) (xs : List Int) (c1 : Nat) (w : World) (hA : Rw.Ts kindI w xA xs) (h1 : xs.length ≤ maxLen) (hG : Gr w A l) (hl : l.length ≤ maxLen) (hB : w.cell? ⟨B, 0, none⟩ = some (.slice A l.length c)) (hD : w.cell? ⟨D, 0, none⟩ = some (.int .i64 F)) (hP : ∀ z ∈ xs, portOk (nds l) z) :
    Calls Try.prog 107 #[.slice xA xs.length c1, .func (.func 105) #[] #[.pointer (some ⟨B, 0, none⟩), .pointer (some ⟨D, 0, none⟩)]] w (IdxDeep (xs.any fun z => dAt (nds l) z != F) w) := by
  have eg : ∀ args w, (callFunc 105 args).run Try.prog w = .ok (.enter 105 args) w := enters_of Try.func105 (by kernel_rfl) rfl
  have HC0 := Lib.hid fun (t : Int) (wr : World) (hb : Below w.heap.size w wr) (ht : t ∈ xs) => wrongDepth_any A l c B D F t wr (hG.below hb) hl (cell_below hB hb) (cell_below hD hb) (hP _ ht)
  unfold maxLen at h1
  have HA := Lib.hid hA; clear hA
  go_enter Try.func107, Try.ntmps107
  go_wp2_with fail
  go_loopw [8] (fun i wr => ∃ k : Nat, k ≤ xs.length ∧ i = .int .i64 k ∧ Below w.heap.size w wr ∧ ∀ (j : Nat) (t : Int), j < k → xs[j]? = some t → (fun z => dAt (nds l) z != F) t = false) (fun i _ => xs.length - (intOf i).toNat)
  case atStart => exact ⟨0, by omega, rfl, Below.refl _ _, fun j t h => absurd h (by omega)⟩
  case round =>
    obtain ⟨k, hk, rfl, hb, hno⟩ := hrel
    have HB := Lib.hid hb; clear hb
    have HNO := Lib.hid hno; clear hno
    by_cases hlt : k < xs.length
    · have hltz : (k : Int) < (xs.length : Int) := by omega
      obtain ⟨t, ht⟩ : ∃ t, xs[k]? = some t := ⟨_, List.getElem?_eq_getElem hlt⟩
      obtain ⟨b, o, rfl, hbl, hld⟩ := ints_at HA.out ht
      have c0 := hld _ HB.out
      have hcall := HC0.out t wr HB.out (List.mem_of_getElem? ht)
      have HT := Lib.hid ht; clear ht hld
      cases hq : (fun z => dAt (nds l) z != F) t with
      | true =>
        simp only [] at hq hcall
        rw [hq] at hcall
        have HQ := Lib.hid hq; have HC := Lib.hid hcall; clear hq hcall
        go_wp2_with fail
        refine HC.out.mono ?_; rintro e w1 ⟨rfl, hb1⟩
        have HB1 := Lib.hid (HB.out.trans (hb1.mono HB.out.size)); clear hb1 c0
        go_wp2_with fail
        go_ret
        exact ⟨⟨k, rfl, by rw [decide_eq_true (by omega)]; exact anyI_true (p := fun z => dAt (nds l) z != F) HT.out HQ.out⟩, HB1.out⟩
      | false =>
        simp only [] at hq hcall
        rw [hq] at hcall
        have HQ := Lib.hid hq; have HC := Lib.hid hcall; clear hq hcall
        go_wp2_with fail
        refine HC.out.mono ?_; rintro e w1 ⟨rfl, hb1⟩
        have HB1 := Lib.hid (HB.out.trans (hb1.mono HB.out.size)); clear hb1 c0
        go_wp2_with fail
        go_roundw
        case rel =>
          refine ⟨k + 1, by omega, by simp, HB1.out, fun j t' hj ht' => ?_⟩
          by_cases e : j = k
          · subst e
            rw [HT.out] at ht'; cases ht'
            exact HQ.out
          · exact HNO.out j t' (by omega) ht'
        case measure => simp only [intOf]; omega
    · have hltz : ¬ (k : Int) < (xs.length : Int) := by omega
      go_wp2_with fail
      go_ret
      exact ⟨⟨-1, rfl, by rw [decide_eq_false (by omega)]; exact anyI_false (p := fun z => dAt (nds l) z != F) fun j t ht => HNO.out j t (by have := (List.getElem?_eq_some_iff.1 ht).1; omega) ht⟩, HB.out⟩
theorem containsDeep_any (A : Option Addr) (l : List Gn) (c B D : Nat) (F : Int) (xA : Option Addr) (xs : List Int) (c1 : Nat) (w : World) (hA : Rw.Ts kindI w xA xs) (h1 : xs.length ≤ maxLen) (hG : Gr w A l) (hl : l.length ≤ maxLen) (hB : w.cell? ⟨B, 0, none⟩ = some (.slice A l.length c)) (hD : w.cell? ⟨D, 0, none⟩ = some (.int .i64 F)) (hP : ∀ z ∈ xs, portOk (nds l) z) :
    Calls Try.prog 104 #[.slice xA xs.length c1, .func (.func 105) #[] #[.pointer (some ⟨B, 0, none⟩), .pointer (some ⟨D, 0, none⟩)]] w fun e w' => e = .returned (.bool (xs.any fun z => dAt (nds l) z != F)) ∧ Below w.heap.size w w' := by
  have H := Lib.hid (indexDeep_any A l c B D F xA xs c1 w hA h1 hG hl hB hD hP); clear hA
  generalize (xs.any fun z => dAt (nds l) z != F) = v at *
  go_enter Try.func104, Try.ntmps104
  go_wp2_with fail
  refine H.out.mono ?_; rintro e w1 ⟨⟨i, rfl, hi⟩, hb1⟩
  have HI := Lib.hid hi; have HB1 := Lib.hid hb1; clear hi hb1
  go_wp2_with fail
  go_ret
  exact ⟨retb HI.out, HB1.out⟩
set_option maxHeartbeats 32000000 in
theorem rightDepth_any (A : Option Addr) (l : List Gn) (c : Nat) (xk xa : Nat) (xb xd : Int) (xi : List Int) (xA : Option Addr) (xc : Nat) (w : World) (hG : Gr w A l) (hl : l.length ≤ maxLen) (hT : Rw.Ts kindI w xA xi) (hx : xi.length ≤ maxLen) (hP : ∀ z ∈ xi, portOk (nds l) z) :
    Calls Try.prog 92 #[.slice A l.length c, .agg #[.int .u8 (xk : Nat), .int .u8 (xa : Nat), .int .i64 xb, .int .i64 xd, .slice xA xi.length xc]] w fun e w' => e = .returned (.bool (deepG (nds l) ⟨xk, xa, xb, xd, xi⟩)) ∧ Below w.heap.size w w' := by
  have HG := Lib.hid hG; have HT := Lib.hid hT; have HP := Lib.hid hP; have HL := Lib.hid hl; have HX := Lib.hid hx; clear hG hT hP hl hx
  obtain ⟨n, hn⟩ : ∃ n : Nd, n = ⟨xk, xa, xb, xd, xi⟩ := ⟨_, rfl⟩
  rw [← hn]
  have HN0 := Lib.hid hn; clear hn
  by_cases k1 : xk = 1
  · subst k1
    by_cases hlo : (0 : Int) ≤ xd
    · by_cases hhi : xd ≤ (0 : Int)
      · have hb1 := (Below.refl _ w).alloc (Nat.le_refl _) (.cells #[.slice A l.length c] 68)
        have hb2 := hb1.alloc hb1.size (.cells #[.int .u8 (1 : Nat), .int .u8 (xa : Nat), .int .i64 xb, .int .i64 xd, .slice xA xi.length xc] 24)
        have hb3 := hb2.alloc hb2.size (.cells #[.int .i64 (xd)] 3)
        obtain ⟨b, hb⟩ : ∃ b, (xi.any fun z => dAt (nds l) z != xd) = b := ⟨_, rfl⟩
        have hcall := containsDeep_any A l c w.heap.size (w.heap.size + 1 + 1) (xd) xA xi xc (((w.alloc (.cells #[.slice A l.length c] 68)).alloc (.cells #[.int .u8 (1 : Nat), .int .u8 (xa : Nat), .int .i64 xb, .int .i64 xd, .slice xA xi.length xc] 24)).alloc (.cells #[.int .i64 (xd)] 3)) (HT.out.below hb3) HX.out (HG.out.below hb3) HL.out (old_cell (old_cell (new_cell rfl))) (new_cell (by simp)) HP.out
        rw [hb] at hcall
        have HC := Lib.hid hcall; have HB := Lib.hid hb3
        have HY := Lib.hid (deep_any (g := nds l) (n := n) (F := xd) (b := b) (by rw [HN0.out]; exact HP.out) (by rw [HN0.out]; unfold Nd.deepB; exact decide_eq_true (by first | (simp; done) | (simp; omega))) (by rw [HN0.out]; unfold Nd.more; first | (simp; done) | (simp [*]; done) | (simp [*]; omega)) (by rw [HN0.out]; exact hb))
        clear HG HT HP HN0 hb hcall hb1 hb2 hb3
        go_enter Try.func92, Try.ntmps92
        go_wp2_with fail
        refine HC.out.mono ?_; rintro e w1 ⟨rfl, hb1⟩
        have HB1 := Lib.hid (HB.out.trans (hb1.mono HB.out.size)); clear hb1
        dsimp only
        go_wp2_with fail
        go_ret
        exact ⟨retb HY.out, HB1.out⟩
      · have HY := Lib.hid (deepG_out (g := nds l) (n := n) (by rw [HN0.out]; unfold Nd.deepB; exact decide_eq_false (by first | (simp; done) | (simp; omega))))
        have HB := Lib.hid (((Below.refl _ w).alloc (Nat.le_refl _) (.cells #[.slice A l.length c] 68)).trans ((Below.refl _ _).alloc (Nat.le_refl _) (.cells #[.int .u8 (1 : Nat), .int .u8 (xa : Nat), .int .i64 xb, .int .i64 xd, .slice xA xi.length xc] 24) |>.mono (by simp)))
        clear HG HT HP HN0
        go_enter Try.func92, Try.ntmps92
        go_wp2_with fail
        go_ret
        exact ⟨retb HY.out, HB.out.alloc (by first | (simp; done) | (simp; omega)) _⟩
    · have HY := Lib.hid (deepG_out (g := nds l) (n := n) (by rw [HN0.out]; unfold Nd.deepB; exact decide_eq_false (by first | (simp; done) | (simp; omega))))
      have HB := Lib.hid (((Below.refl _ w).alloc (Nat.le_refl _) (.cells #[.slice A l.length c] 68)).trans ((Below.refl _ _).alloc (Nat.le_refl _) (.cells #[.int .u8 (1 : Nat), .int .u8 (xa : Nat), .int .i64 xb, .int .i64 xd, .slice xA xi.length xc] 24) |>.mono (by simp)))
      clear HG HT HP HN0
      go_enter Try.func92, Try.ntmps92
      go_wp2_with fail
      go_ret
      exact ⟨retb HY.out, HB.out.alloc (by first | (simp; done) | (simp; omega)) _⟩
  · have k1z : (((xk : Nat) : Int) == 1) = false := by simp; omega
    by_cases k10 : xk = 10
    · subst k10
      by_cases hlo : (0 : Int) ≤ xd
      · by_cases hhi : xd ≤ (0 : Int)
        · have hb1 := (Below.refl _ w).alloc (Nat.le_refl _) (.cells #[.slice A l.length c] 68)
          have hb2 := hb1.alloc hb1.size (.cells #[.int .u8 (10 : Nat), .int .u8 (xa : Nat), .int .i64 xb, .int .i64 xd, .slice xA xi.length xc] 24)
          have hb3 := hb2.alloc hb2.size (.cells #[.int .i64 (xd)] 3)
          obtain ⟨b, hb⟩ : ∃ b, (xi.any fun z => dAt (nds l) z != xd) = b := ⟨_, rfl⟩
          have hcall := containsDeep_any A l c w.heap.size (w.heap.size + 1 + 1) (xd) xA xi xc (((w.alloc (.cells #[.slice A l.length c] 68)).alloc (.cells #[.int .u8 (10 : Nat), .int .u8 (xa : Nat), .int .i64 xb, .int .i64 xd, .slice xA xi.length xc] 24)).alloc (.cells #[.int .i64 (xd)] 3)) (HT.out.below hb3) HX.out (HG.out.below hb3) HL.out (old_cell (old_cell (new_cell rfl))) (new_cell (by simp)) HP.out
          rw [hb] at hcall
          have HC := Lib.hid hcall; have HB := Lib.hid hb3
          have HY := Lib.hid (deep_any (g := nds l) (n := n) (F := xd) (b := b) (by rw [HN0.out]; exact HP.out) (by rw [HN0.out]; unfold Nd.deepB; exact decide_eq_true (by first | (simp; done) | (simp; omega))) (by rw [HN0.out]; unfold Nd.more; first | (simp; done) | (simp [*]; done) | (simp [*]; omega)) (by rw [HN0.out]; exact hb))
          clear HG HT HP HN0 hb hcall hb1 hb2 hb3
          go_enter Try.func92, Try.ntmps92
          go_wp2_with fail
          refine HC.out.mono ?_; rintro e w1 ⟨rfl, hb1⟩
          have HB1 := Lib.hid (HB.out.trans (hb1.mono HB.out.size)); clear hb1
          dsimp only
          go_wp2_with fail
          go_ret
          exact ⟨retb HY.out, HB1.out⟩
        · have HY := Lib.hid (deepG_out (g := nds l) (n := n) (by rw [HN0.out]; unfold Nd.deepB; exact decide_eq_false (by first | (simp; done) | (simp; omega))))
          have HB := Lib.hid (((Below.refl _ w).alloc (Nat.le_refl _) (.cells #[.slice A l.length c] 68)).trans ((Below.refl _ _).alloc (Nat.le_refl _) (.cells #[.int .u8 (10 : Nat), .int .u8 (xa : Nat), .int .i64 xb, .int .i64 xd, .slice xA xi.length xc] 24) |>.mono (by simp)))
          clear HG HT HP HN0
          go_enter Try.func92, Try.ntmps92
          go_wp2_with fail
          go_ret
          exact ⟨retb HY.out, HB.out.alloc (by first | (simp; done) | (simp; omega)) _⟩
      · have HY := Lib.hid (deepG_out (g := nds l) (n := n) (by rw [HN0.out]; unfold Nd.deepB; exact decide_eq_false (by first | (simp; done) | (simp; omega))))
        have HB := Lib.hid (((Below.refl _ w).alloc (Nat.le_refl _) (.cells #[.slice A l.length c] 68)).trans ((Below.refl _ _).alloc (Nat.le_refl _) (.cells #[.int .u8 (10 : Nat), .int .u8 (xa : Nat), .int .i64 xb, .int .i64 xd, .slice xA xi.length xc] 24) |>.mono (by simp)))
        clear HG HT HP HN0
        go_enter Try.func92, Try.ntmps92
        go_wp2_with fail
        go_ret
        exact ⟨retb HY.out, HB.out.alloc (by first | (simp; done) | (simp; omega)) _⟩
    · have k10z : (((xk : Nat) : Int) == 10) = false := by simp; omega
      by_cases k7 : xk = 7
      · subst k7
        by_cases hlo : (0 : Int) ≤ xd
        · by_cases hhi : xd ≤ (3 : Int)
          · have hr := IntWalk.i64_in (xd - 1) (by omega)
            have hb1 := (Below.refl _ w).alloc (Nat.le_refl _) (.cells #[.slice A l.length c] 68)
            have hb2 := hb1.alloc hb1.size (.cells #[.int .u8 (7 : Nat), .int .u8 (xa : Nat), .int .i64 xb, .int .i64 xd, .slice xA xi.length xc] 24)
            have hb3 := hb2.alloc hb2.size (.cells #[.int .i64 (xd - 1)] 3)
            obtain ⟨b, hb⟩ : ∃ b, (xi.any fun z => dAt (nds l) z != xd - 1) = b := ⟨_, rfl⟩
            have hcall := containsDeep_any A l c w.heap.size (w.heap.size + 1 + 1) (xd - 1) xA xi xc (((w.alloc (.cells #[.slice A l.length c] 68)).alloc (.cells #[.int .u8 (7 : Nat), .int .u8 (xa : Nat), .int .i64 xb, .int .i64 xd, .slice xA xi.length xc] 24)).alloc (.cells #[.int .i64 (xd - 1)] 3)) (HT.out.below hb3) HX.out (HG.out.below hb3) HL.out (old_cell (old_cell (new_cell rfl))) (new_cell (by simp)) HP.out
            rw [hb] at hcall
            have HC := Lib.hid hcall; have HB := Lib.hid hb3
            have HY := Lib.hid (deep_any (g := nds l) (n := n) (F := xd - 1) (b := b) (by rw [HN0.out]; exact HP.out) (by rw [HN0.out]; unfold Nd.deepB; exact decide_eq_true (by first | (simp; done) | (simp; omega))) (by rw [HN0.out]; unfold Nd.more; first | (simp; done) | (simp [*]; done) | (simp [*]; omega)) (by rw [HN0.out]; exact hb))
            clear HG HT HP HN0 hb hcall hb1 hb2 hb3
            go_enter Try.func92, Try.ntmps92
            go_wp2_with fail
            refine HC.out.mono ?_; rintro e w1 ⟨rfl, hb1⟩
            have HB1 := Lib.hid (HB.out.trans (hb1.mono HB.out.size)); clear hb1
            dsimp only
            go_wp2_with fail
            go_ret
            exact ⟨retb HY.out, HB1.out⟩
          · have HY := Lib.hid (deepG_out (g := nds l) (n := n) (by rw [HN0.out]; unfold Nd.deepB; exact decide_eq_false (by first | (simp; done) | (simp; omega))))
            obtain ⟨F, hF⟩ : ∃ F, IntKind.i64.wrap (xd - 1) = F := ⟨_, rfl⟩
            have HB := Lib.hid (((Below.refl _ w).alloc (Nat.le_refl _) (.cells #[.slice A l.length c] 68)).trans ((Below.refl _ _).alloc (Nat.le_refl _) (.cells #[.int .u8 (7 : Nat), .int .u8 (xa : Nat), .int .i64 xb, .int .i64 xd, .slice xA xi.length xc] 24) |>.mono (by simp)))
            clear HG HT HP HN0
            go_enter Try.func92, Try.ntmps92
            go_wp2_with fail
            go_ret
            exact ⟨retb HY.out, HB.out.alloc (by first | (simp; done) | (simp; omega)) _⟩
        · have HY := Lib.hid (deepG_out (g := nds l) (n := n) (by rw [HN0.out]; unfold Nd.deepB; exact decide_eq_false (by first | (simp; done) | (simp; omega))))
          obtain ⟨F, hF⟩ : ∃ F, IntKind.i64.wrap (xd - 1) = F := ⟨_, rfl⟩
          have HB := Lib.hid (((Below.refl _ w).alloc (Nat.le_refl _) (.cells #[.slice A l.length c] 68)).trans ((Below.refl _ _).alloc (Nat.le_refl _) (.cells #[.int .u8 (7 : Nat), .int .u8 (xa : Nat), .int .i64 xb, .int .i64 xd, .slice xA xi.length xc] 24) |>.mono (by simp)))
          clear HG HT HP HN0
          go_enter Try.func92, Try.ntmps92
          go_wp2_with fail
          go_ret
          exact ⟨retb HY.out, HB.out.alloc (by first | (simp; done) | (simp; omega)) _⟩
      · have k7z : (((xk : Nat) : Int) == 7) = false := by simp; omega
        by_cases k8 : xk = 8
        · subst k8
          by_cases hlo : (0 : Int) ≤ xd
          · by_cases hhi : xd ≤ (3 : Int)
            · have hr := IntWalk.i64_in (xd + 1) (by omega)
              have hb1 := (Below.refl _ w).alloc (Nat.le_refl _) (.cells #[.slice A l.length c] 68)
              have hb2 := hb1.alloc hb1.size (.cells #[.int .u8 (8 : Nat), .int .u8 (xa : Nat), .int .i64 xb, .int .i64 xd, .slice xA xi.length xc] 24)
              have hb3 := hb2.alloc hb2.size (.cells #[.int .i64 (xd + 1)] 3)
              obtain ⟨b, hb⟩ : ∃ b, (xi.any fun z => dAt (nds l) z != xd + 1) = b := ⟨_, rfl⟩
              have hcall := containsDeep_any A l c w.heap.size (w.heap.size + 1 + 1) (xd + 1) xA xi xc (((w.alloc (.cells #[.slice A l.length c] 68)).alloc (.cells #[.int .u8 (8 : Nat), .int .u8 (xa : Nat), .int .i64 xb, .int .i64 xd, .slice xA xi.length xc] 24)).alloc (.cells #[.int .i64 (xd + 1)] 3)) (HT.out.below hb3) HX.out (HG.out.below hb3) HL.out (old_cell (old_cell (new_cell rfl))) (new_cell (by simp)) HP.out
              rw [hb] at hcall
              have HC := Lib.hid hcall; have HB := Lib.hid hb3
              have HY := Lib.hid (deep_any (g := nds l) (n := n) (F := xd + 1) (b := b) (by rw [HN0.out]; exact HP.out) (by rw [HN0.out]; unfold Nd.deepB; exact decide_eq_true (by first | (simp; done) | (simp; omega))) (by rw [HN0.out]; unfold Nd.more; first | (simp; done) | (simp [*]; done) | (simp [*]; omega)) (by rw [HN0.out]; exact hb))
              clear HG HT HP HN0 hb hcall hb1 hb2 hb3
              go_enter Try.func92, Try.ntmps92
              go_wp2_with fail
              refine HC.out.mono ?_; rintro e w1 ⟨rfl, hb1⟩
              have HB1 := Lib.hid (HB.out.trans (hb1.mono HB.out.size)); clear hb1
              dsimp only
              go_wp2_with fail
              go_ret
              exact ⟨retb HY.out, HB1.out⟩
            · have HY := Lib.hid (deepG_out (g := nds l) (n := n) (by rw [HN0.out]; unfold Nd.deepB; exact decide_eq_false (by first | (simp; done) | (simp; omega))))
              obtain ⟨F, hF⟩ : ∃ F, IntKind.i64.wrap (xd + 1) = F := ⟨_, rfl⟩
              have HB := Lib.hid (((Below.refl _ w).alloc (Nat.le_refl _) (.cells #[.slice A l.length c] 68)).trans ((Below.refl _ _).alloc (Nat.le_refl _) (.cells #[.int .u8 (8 : Nat), .int .u8 (xa : Nat), .int .i64 xb, .int .i64 xd, .slice xA xi.length xc] 24) |>.mono (by simp)))
              clear HG HT HP HN0
              go_enter Try.func92, Try.ntmps92
              go_wp2_with fail
              go_ret
              exact ⟨retb HY.out, HB.out.alloc (by first | (simp; done) | (simp; omega)) _⟩
          · have HY := Lib.hid (deepG_out (g := nds l) (n := n) (by rw [HN0.out]; unfold Nd.deepB; exact decide_eq_false (by first | (simp; done) | (simp; omega))))
            obtain ⟨F, hF⟩ : ∃ F, IntKind.i64.wrap (xd + 1) = F := ⟨_, rfl⟩
            have HB := Lib.hid (((Below.refl _ w).alloc (Nat.le_refl _) (.cells #[.slice A l.length c] 68)).trans ((Below.refl _ _).alloc (Nat.le_refl _) (.cells #[.int .u8 (8 : Nat), .int .u8 (xa : Nat), .int .i64 xb, .int .i64 xd, .slice xA xi.length xc] 24) |>.mono (by simp)))
            clear HG HT HP HN0
            go_enter Try.func92, Try.ntmps92
            go_wp2_with fail
            go_ret
            exact ⟨retb HY.out, HB.out.alloc (by first | (simp; done) | (simp; omega)) _⟩
        · have k8z : (((xk : Nat) : Int) == 8) = false := by simp; omega
          by_cases k9 : xk = 9
          · subst k9
            by_cases hlo : (1 : Int) ≤ xd
            · by_cases hhi : xd ≤ (3 : Int)
              · have hb1 := (Below.refl _ w).alloc (Nat.le_refl _) (.cells #[.slice A l.length c] 68)
                have hb2 := hb1.alloc hb1.size (.cells #[.int .u8 (9 : Nat), .int .u8 (xa : Nat), .int .i64 xb, .int .i64 xd, .slice xA xi.length xc] 24)
                have hb3 := hb2.alloc hb2.size (.cells #[.int .i64 (xd)] 3)
                obtain ⟨b, hb⟩ : ∃ b, (xi.any fun z => dAt (nds l) z != xd) = b := ⟨_, rfl⟩
                have hcall := containsDeep_any A l c w.heap.size (w.heap.size + 1 + 1) (xd) xA xi xc (((w.alloc (.cells #[.slice A l.length c] 68)).alloc (.cells #[.int .u8 (9 : Nat), .int .u8 (xa : Nat), .int .i64 xb, .int .i64 xd, .slice xA xi.length xc] 24)).alloc (.cells #[.int .i64 (xd)] 3)) (HT.out.below hb3) HX.out (HG.out.below hb3) HL.out (old_cell (old_cell (new_cell rfl))) (new_cell (by simp)) HP.out
                rw [hb] at hcall
                have HC := Lib.hid hcall; have HB := Lib.hid hb3
                have HY := Lib.hid (deep_any (g := nds l) (n := n) (F := xd) (b := b) (by rw [HN0.out]; exact HP.out) (by rw [HN0.out]; unfold Nd.deepB; exact decide_eq_true (by first | (simp; done) | (simp; omega))) (by rw [HN0.out]; unfold Nd.more; first | (simp; done) | (simp [*]; done) | (simp [*]; omega)) (by rw [HN0.out]; exact hb))
                clear HG HT HP HN0 hb hcall hb1 hb2 hb3
                go_enter Try.func92, Try.ntmps92
                go_wp2_with fail
                refine HC.out.mono ?_; rintro e w1 ⟨rfl, hb1⟩
                have HB1 := Lib.hid (HB.out.trans (hb1.mono HB.out.size)); clear hb1
                dsimp only
                go_wp2_with fail
                go_ret
                exact ⟨retb HY.out, HB1.out⟩
              · have HY := Lib.hid (deepG_out (g := nds l) (n := n) (by rw [HN0.out]; unfold Nd.deepB; exact decide_eq_false (by first | (simp; done) | (simp; omega))))
                have HB := Lib.hid (((Below.refl _ w).alloc (Nat.le_refl _) (.cells #[.slice A l.length c] 68)).trans ((Below.refl _ _).alloc (Nat.le_refl _) (.cells #[.int .u8 (9 : Nat), .int .u8 (xa : Nat), .int .i64 xb, .int .i64 xd, .slice xA xi.length xc] 24) |>.mono (by simp)))
                clear HG HT HP HN0
                go_enter Try.func92, Try.ntmps92
                go_wp2_with fail
                go_ret
                exact ⟨retb HY.out, HB.out.alloc (by first | (simp; done) | (simp; omega)) _⟩
            · have HY := Lib.hid (deepG_out (g := nds l) (n := n) (by rw [HN0.out]; unfold Nd.deepB; exact decide_eq_false (by first | (simp; done) | (simp; omega))))
              have HB := Lib.hid (((Below.refl _ w).alloc (Nat.le_refl _) (.cells #[.slice A l.length c] 68)).trans ((Below.refl _ _).alloc (Nat.le_refl _) (.cells #[.int .u8 (9 : Nat), .int .u8 (xa : Nat), .int .i64 xb, .int .i64 xd, .slice xA xi.length xc] 24) |>.mono (by simp)))
              clear HG HT HP HN0
              go_enter Try.func92, Try.ntmps92
              go_wp2_with fail
              go_ret
              exact ⟨retb HY.out, HB.out.alloc (by first | (simp; done) | (simp; omega)) _⟩
          · have k9z : (((xk : Nat) : Int) == 9) = false := by simp; omega
            by_cases hlo : (0 : Int) ≤ xd
            · by_cases hhi : xd ≤ (3 : Int)
              · have hb1 := (Below.refl _ w).alloc (Nat.le_refl _) (.cells #[.slice A l.length c] 68)
                have hb2 := hb1.alloc hb1.size (.cells #[.int .u8 (xk : Nat), .int .u8 (xa : Nat), .int .i64 xb, .int .i64 xd, .slice xA xi.length xc] 24)
                have hb3 := hb2.alloc hb2.size (.cells #[.int .i64 (xd)] 3)
                obtain ⟨b, hb⟩ : ∃ b, (xi.any fun z => dAt (nds l) z != xd) = b := ⟨_, rfl⟩
                have hcall := containsDeep_any A l c w.heap.size (w.heap.size + 1 + 1) (xd) xA xi xc (((w.alloc (.cells #[.slice A l.length c] 68)).alloc (.cells #[.int .u8 (xk : Nat), .int .u8 (xa : Nat), .int .i64 xb, .int .i64 xd, .slice xA xi.length xc] 24)).alloc (.cells #[.int .i64 (xd)] 3)) (HT.out.below hb3) HX.out (HG.out.below hb3) HL.out (old_cell (old_cell (new_cell rfl))) (new_cell (by simp)) HP.out
                rw [hb] at hcall
                have HC := Lib.hid hcall; have HB := Lib.hid hb3
                have HY := Lib.hid (deep_any (g := nds l) (n := n) (F := xd) (b := b) (by rw [HN0.out]; exact HP.out) (by rw [HN0.out]; unfold Nd.deepB; exact decide_eq_true (by first | (simp; done) | (simp; omega))) (by rw [HN0.out]; unfold Nd.more; first | (simp; done) | (simp [*]; done) | (simp [*]; omega)) (by rw [HN0.out]; exact hb))
                clear HG HT HP HN0 hb hcall hb1 hb2 hb3
                go_enter Try.func92, Try.ntmps92
                go_wp2_with fail
                refine HC.out.mono ?_; rintro e w1 ⟨rfl, hb1⟩
                have HB1 := Lib.hid (HB.out.trans (hb1.mono HB.out.size)); clear hb1
                dsimp only
                go_wp2_with fail
                go_ret
                exact ⟨retb HY.out, HB1.out⟩
              · have HY := Lib.hid (deepG_out (g := nds l) (n := n) (by rw [HN0.out]; unfold Nd.deepB; exact decide_eq_false (by first | (simp; done) | (simp; omega))))
                have HB := Lib.hid (((Below.refl _ w).alloc (Nat.le_refl _) (.cells #[.slice A l.length c] 68)).trans ((Below.refl _ _).alloc (Nat.le_refl _) (.cells #[.int .u8 (xk : Nat), .int .u8 (xa : Nat), .int .i64 xb, .int .i64 xd, .slice xA xi.length xc] 24) |>.mono (by simp)))
                clear HG HT HP HN0
                go_enter Try.func92, Try.ntmps92
                go_wp2_with fail
                go_ret
                exact ⟨retb HY.out, HB.out.alloc (by first | (simp; done) | (simp; omega)) _⟩
            · have HY := Lib.hid (deepG_out (g := nds l) (n := n) (by rw [HN0.out]; unfold Nd.deepB; exact decide_eq_false (by first | (simp; done) | (simp; omega))))
              have HB := Lib.hid (((Below.refl _ w).alloc (Nat.le_refl _) (.cells #[.slice A l.length c] 68)).trans ((Below.refl _ _).alloc (Nat.le_refl _) (.cells #[.int .u8 (xk : Nat), .int .u8 (xa : Nat), .int .i64 xb, .int .i64 xd, .slice xA xi.length xc] 24) |>.mono (by simp)))
              clear HG HT HP HN0
              go_enter Try.func92, Try.ntmps92
              go_wp2_with fail
              go_ret
              exact ⟨retb HY.out, HB.out.alloc (by first | (simp; done) | (simp; omega)) _⟩
end

section
open Go.ChangeShapes Go.WideShapes Go.ChangeAt Go.RowKit Go.BigFrame
set_option maxRecDepth 100000
theorem reti {a b : Int} (h : a = b) : Ending.returned (.int .i64 a) = .returned (.int .i64 b) := by rw [h]
set_option maxHeartbeats 8000000 in
theorem refNode_any (A : Option Addr) (l : List Gn) (c : Nat) (i : Int) (w : World) (hG : Gr w A l) (hl : l.length ≤ maxLen) :
    Calls Try.prog 32 #[.slice A l.length c, .int .i64 i] w fun e w' => e = .returned (.int .i64 (nodeE (nds l) i)) ∧ Below w.heap.size w w' := by
  have HML := Lib.hid hl
  unfold maxLen at hl
  by_cases h0 : i < 0
  · have HN := Lib.hid (nodeE_out (g := nds l) (i := i) (.inl h0))
    go_enter Try.func32, Try.ntmps32
    go_wp2_with fail
    go_ret
    exact ⟨reti HN.out.symm, Below.refl _ _⟩
  · by_cases h1 : (l.length : Int) ≤ i
    · have HN := Lib.hid (nodeE_out (g := nds l) (i := i) (.inr (by rw [nds_len]; exact h1)))
      go_enter Try.func32, Try.ntmps32
      go_wp2_with fail
      go_ret
      exact ⟨reti HN.out.symm, Below.refl _ _⟩
    · obtain ⟨I, rfl⟩ : ∃ I : Nat, i = (I : Int) := Int.eq_ofNat_of_zero_le (by omega)
      have hIl : I < l.length := by omega
      have hIz : (I : Int) < (l.length : Int) := by omega
      obtain ⟨x, hx⟩ : ∃ x, l[I]? = some x := ⟨_, List.getElem?_eq_getElem hIl⟩
      have hok := (hG.ok hx).c
      have hti := hG.ins hx
      have hat := nodeE_at (g := nds l) (i := I) (n := x.nd) (by unfold nds; rw [List.getElem?_map, hx]; rfl)
      have HG := Lib.hid hG; clear hG h0 h1
      obtain ⟨⟨xk, xa, xb, xd, xi⟩, xA, xc⟩ := x
      simp only at hok hti hat
      obtain ⟨n, hn⟩ : ∃ n : Nd, n = ⟨xk, xa, xb, xd, xi⟩ := ⟨_, rfl⟩
      rw [← hn] at hat
      obtain ⟨b, o, rfl, hbl, hcl⟩ := HG.out.at_ hx
      have hxm : xi.length ≤ maxLen := Nat.le_trans hok.1 hok.2
      have C1 := Lib.hid (refNumbers_any xk xa xb xd xi xA xc w)
      have C2 := Lib.hid fun w1 (hb : Below w.heap.size w w1) => refPorts_any (some ⟨b, o, none⟩) l c xk xa xb xd xi xA xc w1 (HG.out.below hb) HML.out (hti.below hb) hxm
      have C3 := Lib.hid fun w1 (hb : Below w.heap.size w w1) (hP : ∀ z ∈ xi, portOk (nds l) z) => refDepth_any (some ⟨b, o, none⟩) l c xk xa xb xd xi xA xc w1 (HG.out.below hb) HML.out (hti.below hb) hxm hP
      have HCL := Lib.hid hcl; have HAT := Lib.hid hat
      obtain ⟨c0, c1, c2, c3, c4⟩ := hcl w (Below.refl _ _)
      simp only at c0 c1 c2 c3 c4
      clear hx hok hti hat hcl hxm
      have h1 := C1.out
      rw [← hn] at h1
      cases e1 : n.num with
      | false =>
        rw [e1] at h1
        have H1 := Lib.hid h1; have HE := Lib.hid (err_num (g := nds l) e1); clear h1 e1 hn
        go_enter Try.func32, Try.ntmps32
        go_wp2_with fail
        refine H1.out.mono ?_; rintro e w1 ⟨rfl, hb1⟩
        have HB1 := Lib.hid hb1; clear hb1
        dsimp only
        go_wp2_with fail
        go_ret
        exact ⟨reti (by rw [HAT.out, HE.out]), HB1.out⟩
      | true =>
        rw [e1] at h1
        have H1 := Lib.hid h1; clear h1
        go_enter Try.func32, Try.ntmps32
        go_wp2_with fail
        refine H1.out.mono ?_; rintro e w1 ⟨rfl, hb1⟩
        have HB1 := Lib.hid hb1
        have h2 := C2.out w1 hb1
        rw [← hn] at h2
        clear hb1 c0 c1 c2 c3 c4
        obtain ⟨c0, c1, c2, c3, c4⟩ := HCL.out w1 HB1.out
        cases e2 : portsB (nds l) n with
        | false =>
          rw [e2] at h2
          have H2 := Lib.hid h2
          have HE := Lib.hid (err_ports (g := nds l) e1 fun h => by rw [portsB_iff.2 h] at e2; cases e2); clear h2 e1 e2 hn
          dsimp only
          go_wp2_with fail
          refine H2.out.mono ?_; rintro e w2 ⟨rfl, hb2⟩
          have HB2 := Lib.hid (HB1.out.trans (hb2.mono HB1.out.size)); clear hb2
          dsimp only
          go_wp2_with fail
          go_ret
          exact ⟨reti (by rw [HAT.out, HE.out]), HB2.out⟩
        | true =>
          rw [e2] at h2
          have H2 := Lib.hid h2
          have hp := portsB_iff.1 e2
          have hpi : ∀ z ∈ xi, portOk (nds l) z := by have := hp.1; rw [hn] at this; exact this
          have HP := Lib.hid hp; have HPI := Lib.hid hpi; clear h2 e2 hp hpi
          dsimp only
          go_wp2_with fail
          refine H2.out.mono ?_; rintro e w2 ⟨rfl, hb2⟩
          have HB2 := Lib.hid (HB1.out.trans (hb2.mono HB1.out.size))
          have h3 := C3.out w2 HB2.out HPI.out
          rw [← hn] at h3
          clear hb2 c0 c1 c2 c3 c4
          obtain ⟨c0, c1, c2, c3, c4⟩ := HCL.out w2 HB2.out
          cases e3 : deepG (nds l) n with
          | false =>
            rw [e3] at h3
            have H3 := Lib.hid h3
            have HE := Lib.hid (err_deep (g := nds l) e1 HP.out fun h => by rw [deepG_iff.2 h] at e3; cases e3); clear h3 e1 e3 hn
            dsimp only
            go_wp2_with fail
            refine H3.out.mono ?_; rintro e w3 ⟨rfl, hb3⟩
            have HB3 := Lib.hid (HB2.out.trans (hb3.mono HB2.out.size)); clear hb3
            dsimp only
            go_wp2_with fail
            go_ret
            exact ⟨reti (by rw [HAT.out, HE.out]), HB3.out⟩
          | true =>
            rw [e3] at h3
            have H3 := Lib.hid h3
            have HE := Lib.hid (err_ok (g := nds l) e1 HP.out (deepG_iff.1 e3)); clear h3 e1 e3 hn
            dsimp only
            go_wp2_with fail
            refine H3.out.mono ?_; rintro e w3 ⟨rfl, hb3⟩
            have HB3 := Lib.hid (HB2.out.trans (hb3.mono HB2.out.size)); clear hb3
            dsimp only
            go_wp2_with fail
            go_ret
            exact ⟨reti (by rw [HAT.out, HE.out]), HB3.out⟩
end
end Go.Proofs.Ytcjdjdhjbchaaaa
