/- ChkPort, PgRight -/
import Derived.Test.YtcjdjdhjbchaaaaCa10
import Derived.Test.YtcjdjdhjbchaaaaCa6
import Derived.Shelf.Abstract
namespace Go.Proofs.Ytcjdjdhjbchaaaa
set_option linter.unusedVariables false
section
open Go.ChangeShapes Go.WideShapes Go.ChangeAt Go.RowKit Go.BigFrame
set_option maxRecDepth 100000
/-- are its ports right? -/
noncomputable def portsB (g : List Nd) (n : Nd) : Bool := @decide (n.Ports g) (Classical.propDecidable _)
theorem portsB_iff {g : List Nd} {n : Nd} : portsB g n = true ↔ n.Ports g := by unfold portsB; exact @decide_eq_true_iff _ (Classical.propDecidable _)
theorem portsB_no {g : List Nd} {n : Nd} (h : ¬ n.Ports g) : false = portsB g n := by
  cases e : portsB g n with
  | true => exact absurd (portsB_iff.1 e) h
  | false => rfl
theorem ports_no {g : List Nd} {n : Nd} {p : Nat} {z : Int} (hz : n.ins[p]? = some z) (h : ¬ portOk g z) : false = portsB g n := portsB_no fun hh => h (hh.1 z (List.mem_of_getElem? hz))
theorem ports_len {g : List Nd} {n : Nd} (h : n.ins.length ≠ n.want) : false = portsB g n := portsB_no fun hh => h hh.2
theorem ports_yes {g : List Nd} {n : Nd} (h : ∀ z ∈ n.ins, portOk g z) (h2 : n.ins.length = n.want) : true = portsB g n := (portsB_iff.2 ⟨h, h2⟩).symm
set_option maxHeartbeats 8000000 in
theorem refPorts_any (A : Option Addr) (l : List Gn) (c : Nat) (xk xa : Nat) (xb xd : Int) (xi : List Int) (xA : Option Addr) (xc : Nat) (w : World) (hG : Gr w A l) (hl : l.length ≤ maxLen) (hT : Rw.Ts kindI w xA xi) (hx : xi.length ≤ maxLen) :
    Calls Try.prog 61 #[.slice A l.length c, .agg #[.int .u8 (xk : Nat), .int .u8 (xa : Nat), .int .i64 xb, .int .i64 xd, .slice xA xi.length xc]] w fun e w' => e = .returned (.bool (portsB (nds l) ⟨xk, xa, xb, xd, xi⟩)) ∧ Below w.heap.size w w' := by
  unfold maxLen at hl hx
  have HB := Lib.hid ((Below.refl _ w).alloc (Nat.le_refl _) (.cells #[.int .u8 (xk : Nat), .int .u8 (xa : Nat), .int .i64 xb, .int .i64 xd, .slice xA xi.length xc] 24))
  have HG := Lib.hid hG; have HT := Lib.hid hT; clear hG hT
  obtain ⟨n, hn⟩ : ∃ n : Nd, n = ⟨xk, xa, xb, xd, xi⟩ := ⟨_, rfl⟩
  rw [← hn]
  have HN0 := Lib.hid hn; clear hn
  by_cases k1 : xk = 1
  · subst k1
    have HW := Lib.hid (show 0 = Nd.want n by rw [HN0.out]; rfl)
    go_enter Try.func61, Try.ntmps61
    go_wp2_with fail
    go_loop [6] (fun i => ∃ p : Nat, p ≤ xi.length ∧ i = .int .i64 p ∧ ∀ (j : Nat) (z : Int), j < p → xi[j]? = some z → portOk (nds l) z) (fun i => xi.length - (intOf i).toNat)
    case atStart => exact ⟨0, by omega, rfl, fun j z h => absurd h (by omega)⟩
    case round =>
      obtain ⟨p, hp, rfl, hall⟩ := hrel
      have HA := Lib.hid hall; clear hall
      by_cases hlp : p < xi.length
      · have hpz : (p : Int) < (xi.length : Int) := by omega
        obtain ⟨z, hz⟩ : ∃ z, xi[p]? = some z := ⟨_, List.getElem?_eq_getElem hlp⟩
        obtain ⟨bb, oo, rfl, hbb, hq⟩ := ints_at HT.out hz
        have q := hq _ HB.out
        have q0 := hq w (Below.refl _ _)
        have hbs : bb ≠ w.heap.size := by omega
        have HZ := Lib.hid hz; clear hz hq
        by_cases h0 : z < 0
        · have HN := Lib.hid (ports_no (g := nds l) (n := n) (by rw [HN0.out]; exact HZ.out) fun h => by have := h.1; omega)
          go_wp2_with fail
          go_ret
          exact ⟨retb HN.out, HB.out⟩
        · by_cases h1 : (l.length : Int) ≤ z
          · have HN := Lib.hid (ports_no (g := nds l) (n := n) (by rw [HN0.out]; exact HZ.out) fun h => by
              obtain ⟨_, m, hm, _⟩ := h
              have := (List.getElem?_eq_some_iff.1 hm).1
              rw [nds_len] at this; omega)
            go_wp2_with fail
            go_ret
            exact ⟨retb HN.out, HB.out⟩
          · obtain ⟨Z, rfl⟩ : ∃ Z : Nat, z = (Z : Int) := Int.eq_ofNat_of_zero_le (by omega)
            have hZl : Z < l.length := by omega
            have hZz : (Z : Int) < (l.length : Int) := by omega
            obtain ⟨y, hy⟩ : ∃ y, l[Z]? = some y := ⟨_, List.getElem?_eq_getElem hZl⟩
            have hyn : (nds l)[Z]? = some y.nd := by unfold nds; rw [List.getElem?_map, hy]; rfl
            obtain ⟨b, o, rfl, hbl, hcl⟩ := HG.out.at_ hy
            obtain ⟨c0, _, _, _, _⟩ := hcl _ HB.out
            obtain ⟨e0, _, _, _, _⟩ := hcl w (Below.refl _ _)
            have hbg : b ≠ w.heap.size := by omega
            have HY := Lib.hid hyn; clear hy hcl hyn
            by_cases h2 : y.nd.k = 10
            · have h2z : (((y.nd.k : Nat) : Int) == 10) = true := by simp; omega
              have HN := Lib.hid (ports_no (g := nds l) (n := n) (by rw [HN0.out]; exact HZ.out) fun h => by
                obtain ⟨_, m, hm, hk⟩ := h
                rw [Int.toNat_natCast, HY.out] at hm
                injection hm with hm
                exact hk (by rw [← hm]; exact h2))
              clear h2
              go_wp2_with fail
              go_ret
              exact ⟨retb HN.out, HB.out⟩
            · have h2z : (((y.nd.k : Nat) : Int) == 10) = false := by simp; omega
              have H2 := Lib.hid h2; clear h2
              go_wp2_with fail
              go_round
              case rel =>
                refine ⟨p + 1, by omega, by simp, fun j z hj hz => ?_⟩
                by_cases e : j = p
                · subst e
                  rw [HZ.out] at hz; injection hz with hz; subst hz
                  exact ⟨by omega, y.nd, by rw [Int.toNat_natCast]; exact HY.out, H2.out⟩
                · exact HA.out j z (by omega) hz
              case measure => simp only [intOf]; omega
      · have hpz : ¬ (p : Int) < (xi.length : Int) := by omega
        have HALL : Hid (∀ z ∈ xi, portOk (nds l) z) := Lib.hid fun z hz => by
          obtain ⟨j, hj⟩ := List.getElem?_of_mem hz
          exact HA.out j z (by have := (List.getElem?_eq_some_iff.1 hj).1; omega) hj
        by_cases hw : xi.length = 0
        · have hwz : ((xi.length : Int) == 0) = true := by rw [show (xi.length : Int) = 0 by omega]; rfl
          have HN := Lib.hid (ports_yes (n := n) (by rw [HN0.out]; exact HALL.out) (by rw [← HW.out, HN0.out]; exact hw))
          clear hw
          go_wp2_with fail
          go_ret
          exact ⟨retb HN.out, HB.out⟩
        · have hwz : ((xi.length : Int) == 0) = false := by rw [beq_eq_false_iff_ne]; omega
          have HN := Lib.hid (ports_len (g := nds l) (n := n) (by rw [← HW.out, HN0.out]; exact hw))
          clear hw
          go_wp2_with fail
          go_ret
          exact ⟨retb HN.out, HB.out⟩
  · have k1z : (((xk : Nat) : Int) == 1) = false := by simp; omega
    by_cases k4 : xk = 4
    · subst k4
      have HW := Lib.hid (show 2 = Nd.want n by rw [HN0.out]; rfl)
      go_enter Try.func61, Try.ntmps61
      go_wp2_with fail
      go_loop [6] (fun i => ∃ p : Nat, p ≤ xi.length ∧ i = .int .i64 p ∧ ∀ (j : Nat) (z : Int), j < p → xi[j]? = some z → portOk (nds l) z) (fun i => xi.length - (intOf i).toNat)
      case atStart => exact ⟨0, by omega, rfl, fun j z h => absurd h (by omega)⟩
      case round =>
        obtain ⟨p, hp, rfl, hall⟩ := hrel
        have HA := Lib.hid hall; clear hall
        by_cases hlp : p < xi.length
        · have hpz : (p : Int) < (xi.length : Int) := by omega
          obtain ⟨z, hz⟩ : ∃ z, xi[p]? = some z := ⟨_, List.getElem?_eq_getElem hlp⟩
          obtain ⟨bb, oo, rfl, hbb, hq⟩ := ints_at HT.out hz
          have q := hq _ HB.out
          have q0 := hq w (Below.refl _ _)
          have hbs : bb ≠ w.heap.size := by omega
          have HZ := Lib.hid hz; clear hz hq
          by_cases h0 : z < 0
          · have HN := Lib.hid (ports_no (g := nds l) (n := n) (by rw [HN0.out]; exact HZ.out) fun h => by have := h.1; omega)
            go_wp2_with fail
            go_ret
            exact ⟨retb HN.out, HB.out⟩
          · by_cases h1 : (l.length : Int) ≤ z
            · have HN := Lib.hid (ports_no (g := nds l) (n := n) (by rw [HN0.out]; exact HZ.out) fun h => by
                obtain ⟨_, m, hm, _⟩ := h
                have := (List.getElem?_eq_some_iff.1 hm).1
                rw [nds_len] at this; omega)
              go_wp2_with fail
              go_ret
              exact ⟨retb HN.out, HB.out⟩
            · obtain ⟨Z, rfl⟩ : ∃ Z : Nat, z = (Z : Int) := Int.eq_ofNat_of_zero_le (by omega)
              have hZl : Z < l.length := by omega
              have hZz : (Z : Int) < (l.length : Int) := by omega
              obtain ⟨y, hy⟩ : ∃ y, l[Z]? = some y := ⟨_, List.getElem?_eq_getElem hZl⟩
              have hyn : (nds l)[Z]? = some y.nd := by unfold nds; rw [List.getElem?_map, hy]; rfl
              obtain ⟨b, o, rfl, hbl, hcl⟩ := HG.out.at_ hy
              obtain ⟨c0, _, _, _, _⟩ := hcl _ HB.out
              obtain ⟨e0, _, _, _, _⟩ := hcl w (Below.refl _ _)
              have hbg : b ≠ w.heap.size := by omega
              have HY := Lib.hid hyn; clear hy hcl hyn
              by_cases h2 : y.nd.k = 10
              · have h2z : (((y.nd.k : Nat) : Int) == 10) = true := by simp; omega
                have HN := Lib.hid (ports_no (g := nds l) (n := n) (by rw [HN0.out]; exact HZ.out) fun h => by
                  obtain ⟨_, m, hm, hk⟩ := h
                  rw [Int.toNat_natCast, HY.out] at hm
                  injection hm with hm
                  exact hk (by rw [← hm]; exact h2))
                clear h2
                go_wp2_with fail
                go_ret
                exact ⟨retb HN.out, HB.out⟩
              · have h2z : (((y.nd.k : Nat) : Int) == 10) = false := by simp; omega
                have H2 := Lib.hid h2; clear h2
                go_wp2_with fail
                go_round
                case rel =>
                  refine ⟨p + 1, by omega, by simp, fun j z hj hz => ?_⟩
                  by_cases e : j = p
                  · subst e
                    rw [HZ.out] at hz; injection hz with hz; subst hz
                    exact ⟨by omega, y.nd, by rw [Int.toNat_natCast]; exact HY.out, H2.out⟩
                  · exact HA.out j z (by omega) hz
                case measure => simp only [intOf]; omega
        · have hpz : ¬ (p : Int) < (xi.length : Int) := by omega
          have HALL : Hid (∀ z ∈ xi, portOk (nds l) z) := Lib.hid fun z hz => by
            obtain ⟨j, hj⟩ := List.getElem?_of_mem hz
            exact HA.out j z (by have := (List.getElem?_eq_some_iff.1 hj).1; omega) hj
          by_cases hw : xi.length = 2
          · have hwz : ((xi.length : Int) == 2) = true := by rw [show (xi.length : Int) = 2 by omega]; rfl
            have HN := Lib.hid (ports_yes (n := n) (by rw [HN0.out]; exact HALL.out) (by rw [← HW.out, HN0.out]; exact hw))
            clear hw
            go_wp2_with fail
            go_ret
            exact ⟨retb HN.out, HB.out⟩
          · have hwz : ((xi.length : Int) == 2) = false := by rw [beq_eq_false_iff_ne]; omega
            have HN := Lib.hid (ports_len (g := nds l) (n := n) (by rw [← HW.out, HN0.out]; exact hw))
            clear hw
            go_wp2_with fail
            go_ret
            exact ⟨retb HN.out, HB.out⟩
    · have k4z : (((xk : Nat) : Int) == 4) = false := by simp; omega
      by_cases k6 : xk = 6
      · subst k6
        have HW := Lib.hid (show 2 = Nd.want n by rw [HN0.out]; rfl)
        go_enter Try.func61, Try.ntmps61
        go_wp2_with fail
        go_loop [6] (fun i => ∃ p : Nat, p ≤ xi.length ∧ i = .int .i64 p ∧ ∀ (j : Nat) (z : Int), j < p → xi[j]? = some z → portOk (nds l) z) (fun i => xi.length - (intOf i).toNat)
        case atStart => exact ⟨0, by omega, rfl, fun j z h => absurd h (by omega)⟩
        case round =>
          obtain ⟨p, hp, rfl, hall⟩ := hrel
          have HA := Lib.hid hall; clear hall
          by_cases hlp : p < xi.length
          · have hpz : (p : Int) < (xi.length : Int) := by omega
            obtain ⟨z, hz⟩ : ∃ z, xi[p]? = some z := ⟨_, List.getElem?_eq_getElem hlp⟩
            obtain ⟨bb, oo, rfl, hbb, hq⟩ := ints_at HT.out hz
            have q := hq _ HB.out
            have q0 := hq w (Below.refl _ _)
            have hbs : bb ≠ w.heap.size := by omega
            have HZ := Lib.hid hz; clear hz hq
            by_cases h0 : z < 0
            · have HN := Lib.hid (ports_no (g := nds l) (n := n) (by rw [HN0.out]; exact HZ.out) fun h => by have := h.1; omega)
              go_wp2_with fail
              go_ret
              exact ⟨retb HN.out, HB.out⟩
            · by_cases h1 : (l.length : Int) ≤ z
              · have HN := Lib.hid (ports_no (g := nds l) (n := n) (by rw [HN0.out]; exact HZ.out) fun h => by
                  obtain ⟨_, m, hm, _⟩ := h
                  have := (List.getElem?_eq_some_iff.1 hm).1
                  rw [nds_len] at this; omega)
                go_wp2_with fail
                go_ret
                exact ⟨retb HN.out, HB.out⟩
              · obtain ⟨Z, rfl⟩ : ∃ Z : Nat, z = (Z : Int) := Int.eq_ofNat_of_zero_le (by omega)
                have hZl : Z < l.length := by omega
                have hZz : (Z : Int) < (l.length : Int) := by omega
                obtain ⟨y, hy⟩ : ∃ y, l[Z]? = some y := ⟨_, List.getElem?_eq_getElem hZl⟩
                have hyn : (nds l)[Z]? = some y.nd := by unfold nds; rw [List.getElem?_map, hy]; rfl
                obtain ⟨b, o, rfl, hbl, hcl⟩ := HG.out.at_ hy
                obtain ⟨c0, _, _, _, _⟩ := hcl _ HB.out
                obtain ⟨e0, _, _, _, _⟩ := hcl w (Below.refl _ _)
                have hbg : b ≠ w.heap.size := by omega
                have HY := Lib.hid hyn; clear hy hcl hyn
                by_cases h2 : y.nd.k = 10
                · have h2z : (((y.nd.k : Nat) : Int) == 10) = true := by simp; omega
                  have HN := Lib.hid (ports_no (g := nds l) (n := n) (by rw [HN0.out]; exact HZ.out) fun h => by
                    obtain ⟨_, m, hm, hk⟩ := h
                    rw [Int.toNat_natCast, HY.out] at hm
                    injection hm with hm
                    exact hk (by rw [← hm]; exact h2))
                  clear h2
                  go_wp2_with fail
                  go_ret
                  exact ⟨retb HN.out, HB.out⟩
                · have h2z : (((y.nd.k : Nat) : Int) == 10) = false := by simp; omega
                  have H2 := Lib.hid h2; clear h2
                  go_wp2_with fail
                  go_round
                  case rel =>
                    refine ⟨p + 1, by omega, by simp, fun j z hj hz => ?_⟩
                    by_cases e : j = p
                    · subst e
                      rw [HZ.out] at hz; injection hz with hz; subst hz
                      exact ⟨by omega, y.nd, by rw [Int.toNat_natCast]; exact HY.out, H2.out⟩
                    · exact HA.out j z (by omega) hz
                  case measure => simp only [intOf]; omega
          · have hpz : ¬ (p : Int) < (xi.length : Int) := by omega
            have HALL : Hid (∀ z ∈ xi, portOk (nds l) z) := Lib.hid fun z hz => by
              obtain ⟨j, hj⟩ := List.getElem?_of_mem hz
              exact HA.out j z (by have := (List.getElem?_eq_some_iff.1 hj).1; omega) hj
            by_cases hw : xi.length = 2
            · have hwz : ((xi.length : Int) == 2) = true := by rw [show (xi.length : Int) = 2 by omega]; rfl
              have HN := Lib.hid (ports_yes (n := n) (by rw [HN0.out]; exact HALL.out) (by rw [← HW.out, HN0.out]; exact hw))
              clear hw
              go_wp2_with fail
              go_ret
              exact ⟨retb HN.out, HB.out⟩
            · have hwz : ((xi.length : Int) == 2) = false := by rw [beq_eq_false_iff_ne]; omega
              have HN := Lib.hid (ports_len (g := nds l) (n := n) (by rw [← HW.out, HN0.out]; exact hw))
              clear hw
              go_wp2_with fail
              go_ret
              exact ⟨retb HN.out, HB.out⟩
      · have k6z : (((xk : Nat) : Int) == 6) = false := by simp; omega
        have HW := Lib.hid (show 1 = Nd.want n by rw [HN0.out]; unfold Nd.want; rw [if_neg k1, if_neg (by simp [k4, k6])])
        go_enter Try.func61, Try.ntmps61
        go_wp2_with fail
        go_loop [6] (fun i => ∃ p : Nat, p ≤ xi.length ∧ i = .int .i64 p ∧ ∀ (j : Nat) (z : Int), j < p → xi[j]? = some z → portOk (nds l) z) (fun i => xi.length - (intOf i).toNat)
        case atStart => exact ⟨0, by omega, rfl, fun j z h => absurd h (by omega)⟩
        case round =>
          obtain ⟨p, hp, rfl, hall⟩ := hrel
          have HA := Lib.hid hall; clear hall
          by_cases hlp : p < xi.length
          · have hpz : (p : Int) < (xi.length : Int) := by omega
            obtain ⟨z, hz⟩ : ∃ z, xi[p]? = some z := ⟨_, List.getElem?_eq_getElem hlp⟩
            obtain ⟨bb, oo, rfl, hbb, hq⟩ := ints_at HT.out hz
            have q := hq _ HB.out
            have q0 := hq w (Below.refl _ _)
            have hbs : bb ≠ w.heap.size := by omega
            have HZ := Lib.hid hz; clear hz hq
            by_cases h0 : z < 0
            · have HN := Lib.hid (ports_no (g := nds l) (n := n) (by rw [HN0.out]; exact HZ.out) fun h => by have := h.1; omega)
              go_wp2_with fail
              go_ret
              exact ⟨retb HN.out, HB.out⟩
            · by_cases h1 : (l.length : Int) ≤ z
              · have HN := Lib.hid (ports_no (g := nds l) (n := n) (by rw [HN0.out]; exact HZ.out) fun h => by
                  obtain ⟨_, m, hm, _⟩ := h
                  have := (List.getElem?_eq_some_iff.1 hm).1
                  rw [nds_len] at this; omega)
                go_wp2_with fail
                go_ret
                exact ⟨retb HN.out, HB.out⟩
              · obtain ⟨Z, rfl⟩ : ∃ Z : Nat, z = (Z : Int) := Int.eq_ofNat_of_zero_le (by omega)
                have hZl : Z < l.length := by omega
                have hZz : (Z : Int) < (l.length : Int) := by omega
                obtain ⟨y, hy⟩ : ∃ y, l[Z]? = some y := ⟨_, List.getElem?_eq_getElem hZl⟩
                have hyn : (nds l)[Z]? = some y.nd := by unfold nds; rw [List.getElem?_map, hy]; rfl
                obtain ⟨b, o, rfl, hbl, hcl⟩ := HG.out.at_ hy
                obtain ⟨c0, _, _, _, _⟩ := hcl _ HB.out
                obtain ⟨e0, _, _, _, _⟩ := hcl w (Below.refl _ _)
                have hbg : b ≠ w.heap.size := by omega
                have HY := Lib.hid hyn; clear hy hcl hyn
                by_cases h2 : y.nd.k = 10
                · have h2z : (((y.nd.k : Nat) : Int) == 10) = true := by simp; omega
                  have HN := Lib.hid (ports_no (g := nds l) (n := n) (by rw [HN0.out]; exact HZ.out) fun h => by
                    obtain ⟨_, m, hm, hk⟩ := h
                    rw [Int.toNat_natCast, HY.out] at hm
                    injection hm with hm
                    exact hk (by rw [← hm]; exact h2))
                  clear h2
                  go_wp2_with fail
                  go_ret
                  exact ⟨retb HN.out, HB.out⟩
                · have h2z : (((y.nd.k : Nat) : Int) == 10) = false := by simp; omega
                  have H2 := Lib.hid h2; clear h2
                  go_wp2_with fail
                  go_round
                  case rel =>
                    refine ⟨p + 1, by omega, by simp, fun j z hj hz => ?_⟩
                    by_cases e : j = p
                    · subst e
                      rw [HZ.out] at hz; injection hz with hz; subst hz
                      exact ⟨by omega, y.nd, by rw [Int.toNat_natCast]; exact HY.out, H2.out⟩
                    · exact HA.out j z (by omega) hz
                  case measure => simp only [intOf]; omega
          · have hpz : ¬ (p : Int) < (xi.length : Int) := by omega
            have HALL : Hid (∀ z ∈ xi, portOk (nds l) z) := Lib.hid fun z hz => by
              obtain ⟨j, hj⟩ := List.getElem?_of_mem hz
              exact HA.out j z (by have := (List.getElem?_eq_some_iff.1 hj).1; omega) hj
            by_cases hw : xi.length = 1
            · have hwz : ((xi.length : Int) == 1) = true := by rw [show (xi.length : Int) = 1 by omega]; rfl
              have HN := Lib.hid (ports_yes (n := n) (by rw [HN0.out]; exact HALL.out) (by rw [← HW.out, HN0.out]; exact hw))
              clear hw
              go_wp2_with fail
              go_ret
              exact ⟨retb HN.out, HB.out⟩
            · have hwz : ((xi.length : Int) == 1) = false := by rw [beq_eq_false_iff_ne]; omega
              have HN := Lib.hid (ports_len (g := nds l) (n := n) (by rw [← HW.out, HN0.out]; exact hw))
              clear hw
              go_wp2_with fail
              go_ret
              exact ⟨retb HN.out, HB.out⟩
end

section
open Go.ChangeShapes Go.WideShapes Go.ChangeAt Go.RowKit Go.BigFrame
set_option maxRecDepth 100000
def upB (n m : Int) : Bool := decide (0 ≤ n ∧ n ≤ m)
theorem upB_yes {n m : Int} (h : 0 ≤ n ∧ n ≤ m) : true = upB n m := by unfold upB; rw [decide_eq_true h]
theorem upB_no {n m : Int} (h : ¬ (0 ≤ n ∧ n ≤ m)) : false = upB n m := by unfold upB; rw [decide_eq_false h]
theorem anyI_false {p : Int → Bool} {ts : List Int} (h : ∀ (j : Nat) (t : Int), ts[j]? = some t → p t = false) : false = ts.any p := by
  rw [eq_comm, List.any_eq_false]
  intro t ht
  obtain ⟨j, hj⟩ := List.getElem?_of_mem ht
  rw [h j t hj]; simp
theorem anyI_true {p : Int → Bool} {ts : List Int} {k : Nat} {t : Int} (h : ts[k]? = some t) (hp : p t = true) : true = ts.any p := by
  rw [eq_comm, List.any_eq_true]; exact ⟨t, List.mem_of_getElem? h, hp⟩
def IdxD (b : Bool) (w : World) (e : Ending) (w' : World) : Prop := (∃ i : Int, e = .returned (.int .i64 i) ∧ decide (0 ≤ i) = b) ∧ Below w.heap.size w w'
/-- may it be written? -/
def mayD (n : Nd) : Bool := upB n.d 3 && decide (n.ins.length ≤ 2) && !(n.ins.any fun z => !upB z 31)
theorem mayD_iff {n : Nd} : mayD n = true ↔ n.May := by
  unfold mayD Nd.May upB
  simp only [Bool.and_eq_true, decide_eq_true_eq, Bool.not_eq_true', List.any_eq_false, decide_eq_false_iff_not, Decidable.not_not]
  exact ⟨fun h => ⟨h.1.1, h.1.2, h.2⟩, fun h => ⟨⟨h.1, h.2.1⟩, h.2.2⟩⟩
/-- may all nodes be written? -/
noncomputable def rightB (g : List Nd) : Bool := @decide (∀ n ∈ g, n.May) (Classical.propDecidable _)
theorem rightB_iff {g : List Nd} : rightB g = true ↔ ∀ n ∈ g, n.May := by unfold rightB; exact @decide_eq_true_iff _ (Classical.propDecidable _)
theorem rightB_any {l : List Gn} : (!(l.any fun x => !mayD x.nd)) = rightB (nds l) := by
  rw [Bool.eq_iff_iff, rightB_iff, Bool.not_eq_true', List.any_eq_false]
  constructor
  · intro h n hn
    obtain ⟨x, hx, rfl⟩ := List.mem_map.1 hn
    have := h x hx
    exact mayD_iff.1 (by simpa using this)
  · intro h x hx
    have := mayD_iff.2 (h x.nd (List.mem_map.2 ⟨x, hx, rfl⟩))
    simpa using this
def lengthB (n : Nat) : Bool := decide (0 < n ∧ n ≤ 32)
theorem lengthB_yes {n : Nat} (h : 0 < n ∧ n ≤ 32) : true = lengthB n := by unfold lengthB; rw [decide_eq_true h]
theorem lengthB_no {n : Nat} (h : ¬ (0 < n ∧ n ≤ 32)) : false = lengthB n := by unfold lengthB; rw [decide_eq_false h]
end
end Go.Proofs.Ytcjdjdhjbchaaaa
