/- The document's Run. -/
import Derived.Test.YtcjdjdhjbchaaaaOpMakes
import Derived.Test.YtcjdjdhjbchaaaaCa18
namespace Go.Proofs.Ytcjdjdhjbchaaaa
namespace Op
open Go.ChangeShapes Go.WideShapes Go.ChangeAt Go.RowKit Go.BigFrame Vr
set_option linter.unusedVariables false
set_option maxRecDepth 100000
theorem refMakes_v {w : World} {v : Value} {ls : List (List Rd)} (n : Nd) (NA : Option Addr) (nm nc : Nat) (hI : InV w v ls) (hnum : n.num = true) (hb2 : n.b ≤ 9223372036854775807) (hw : ls.length = n.want) (hl : ∀ l ∈ ls, l.length ≤ 200) :
    Calls Try.prog 34 #[nodeV n NA nm nc, v] w (GivesR (makesR n ls) w) := by
  rw [← upN_makes hw]; exact refMakes_up n NA nm nc hI hnum hb2 hw hl
theorem node_130 {k a : Nat} {b d : Int} {ins : List Int} (h : Nd.num ⟨k, a, b, d, ins⟩ = true) : nodeE [⟨k, a, b, 0, []⟩] 0 ≠ 130 := by
  have h' : Nd.num ⟨k, a, b, 0, []⟩ = true := h
  have e : nodeE [⟨k, a, b, 0, []⟩] 0 = Nd.err [⟨k, a, b, 0, []⟩] ⟨k, a, b, 0, []⟩ := nodeE_at (i := 0) (n := ⟨k, a, b, 0, []⟩) rfl
  rw [e]
  by_cases hp : Nd.Ports [⟨k, a, b, 0, []⟩] ⟨k, a, b, 0, []⟩
  · by_cases hd : Nd.Deep [⟨k, a, b, 0, []⟩] ⟨k, a, b, 0, []⟩
    · rw [err_ok h' hp hd]; decide
    · rw [err_deep h' hp hd]; decide
  · rw [err_ports h' hp]; decide
theorem node_is130 {k a : Nat} {b d : Int} {ins : List Int} (h : Nd.num ⟨k, a, b, d, ins⟩ = false) : nodeE [⟨k, a, b, 0, []⟩] 0 = 130 := by
  have h' : Nd.num ⟨k, a, b, 0, []⟩ = false := h
  have e : nodeE [⟨k, a, b, 0, []⟩] 0 = Nd.err [⟨k, a, b, 0, []⟩] ⟨k, a, b, 0, []⟩ := nodeE_at (i := 0) (n := ⟨k, a, b, 0, []⟩) rfl
  rw [e, err_num h']
set_option maxHeartbeats 4000000 in
theorem refRun_v {w : World} {v : Value} {ls : List (List Rd)} (n : Nd) (NA : Option Addr) (nm nc : Nat) (hI : InV w v ls) (hk : n.k < 256) (ha : n.a < 256) (hb : -9223372036854775808 ≤ n.b ∧ n.b ≤ 9223372036854775807) (hr : ls.length ≤ 40) (hl : ∀ l ∈ ls, l.length ≤ 200) :
    Calls Try.prog 15 #[nodeV n NA nm nc, v] w (GivesE (runR n ls) (errR n ls.length) w) := by
  obtain ⟨k, a, b, d, ins⟩ := n
  simp only at hk ha hb
  have hbx := (node_box w ⟨k, a, b, d, ins⟩ NA nm nc).alloc (.cells #[.int .u8 (k : Nat), .int .u8 (a : Nat), .int .i64 b, .int .i64 0, .slice none 0 0] 24)
  have hb1 := ((Below.refl _ w).alloc (Nat.le_refl _) (.cells #[.int .u8 (k : Nat), .int .u8 (a : Nat), .int .i64 b, .int .i64 d, .slice NA nm nc] 24)).alloc (by simp) (.cells #[.int .u8 (k : Nat), .int .u8 (a : Nat), .int .i64 b, .int .i64 0, .slice none 0 0] 24)
  simp only at hbx
  have hG : Gr (((w.alloc (.cells #[.int .u8 (k : Nat), .int .u8 (a : Nat), .int .i64 b, .int .i64 d, .slice NA nm nc] 24)).alloc (.cells #[.int .u8 (k : Nat), .int .u8 (a : Nat), .int .i64 b, .int .i64 0, .slice none 0 0] 24)).alloc (.cells #[.int .u8 (k : Nat), .int .u8 (a : Nat), .int .i64 b, .int .i64 0, .slice none 0 0] 24)) (some ⟨((w.alloc (.cells #[.int .u8 (k : Nat), .int .u8 (a : Nat), .int .i64 b, .int .i64 d, .slice NA nm nc] 24)).alloc (.cells #[.int .u8 (k : Nat), .int .u8 (a : Nat), .int .i64 b, .int .i64 0, .slice none 0 0] 24)).heap.size, 0, none⟩) [⟨⟨k, a, b, 0, []⟩, none, 0⟩] := by
    refine ⟨Rw.Ts.made (κ := kindG) ((w.alloc (.cells #[.int .u8 (k : Nat), .int .u8 (a : Nat), .int .i64 b, .int .i64 d, .slice NA nm nc] 24)).alloc (.cells #[.int .u8 (k : Nat), .int .u8 (a : Nat), .int .i64 b, .int .i64 0, .slice none 0 0] 24)) [⟨⟨k, a, b, 0, []⟩, none, 0⟩] _, fun x hx => ?_⟩
    simp only [List.mem_singleton] at hx
    subst hx
    exact ⟨⟨hk, ha, hb, by simp, by simp, by simp, fun _ => rfl⟩, Rw.Ts.nil⟩
  have hc := refNode_any _ _ 1 0 _ hG (by simp [maxLen])
  simp only [nds, List.map_cons, List.map_nil, List.length_cons, List.length_nil, Nat.zero_add] at hc
  have hx6 := Row.made (w.alloc (.cells #[.int .u8 (k : Nat), .int .u8 (a : Nat), .int .i64 b, .int .i64 d, .slice NA nm nc] 24)) 24 [.int .u8 (k : Nat), .int .u8 (a : Nat), .int .i64 b, .int .i64 0, .slice none 0 0]
  simp only [size_alloc, List.toArray] at hx6
  have HX6 := Lib.hid hx6; clear hx6
  have hb2 := hb1.alloc (by simp; omega) (.cells #[.int .u8 (k : Nat), .int .u8 (a : Nat), .int .i64 b, .int .i64 0, .slice none 0 0] 24)
  have hbx2 := hbx.alloc (.cells #[.int .u8 (k : Nat), .int .u8 (a : Nat), .int .i64 b, .int .i64 0, .slice none 0 0] 24)
  obtain ⟨IA, ic, L, rfl, hR, hL⟩ := hI
  have hI : InV w (.slice IA ls.length ic) ls := ⟨IA, ic, L, rfl, hR, hL⟩
  have HI := Lib.hid hI; have HB2 := Lib.hid hb2; have HBX2 := Lib.hid hbx2; have HL := Lib.hid hl
  clear hI hR hL hbx hb1 hb2 hbx2 hG hl
  have HH := Lib.hid hc; clear hc
  cases hnum : Nd.num ⟨k, a, b, d, ins⟩ with
  | false =>
    have hn := node_is130 hnum
    have hc := HH.out
    rw [hn] at hc
    have HC := Lib.hid hc; clear hc hn HH
    have he : errR ⟨k, a, b, d, ins⟩ ls.length = 130 := by unfold errR; rw [if_pos hnum]
    have hrr : runR ⟨k, a, b, d, ins⟩ ls = [] := by unfold runR; rw [he]; rfl
    rw [hrr, he]
    clear hrr he hnum
    go_enter Try.func15, Try.ntmps15
    go_upto_region 4 with fail
    generalize (w.alloc (.cells #[.int .u8 (k : Nat), .int .u8 (a : Nat), .int .i64 b, .int .i64 d, .slice NA nm nc] 24)).alloc (.cells #[.int .u8 (k : Nat), .int .u8 (a : Nat), .int .i64 b, .int .i64 0, .slice none 0 0] 24) = w2 at *
    obtain ⟨x0, x1, x2, x3, x4⟩ := cells5 HX6.out
    go_wp2_with fail
    refine HC.out.mono ?_; rintro e w5 ⟨rfl, hb5⟩
    have h1 := HB2.out.trans (hb5.mono HB2.out.size); have h2 := HBX2.out.below hb5 HBX2.out.lt
    have HB5 := Lib.hid h1; have HBX5 := Lib.hid h2
    clear h1 h2 hb5 x0 x1 x2 x3 x4 HC HB2 HBX2 HX6
    dsimp only
    go_wp2_with fail
    go_ret2
    exact ⟨⟨_, rfl, RowV.nil _⟩, HB5.out⟩
  | true =>
    have hne := node_130 hnum
    have hc := HH.out
    generalize nodeE [⟨k, a, b, 0, []⟩] 0 = E at *
    have z130 : (E == 130) = false := by simpa using hne
    have HC := Lib.hid hc; clear hc hne HH
    by_cases k1 : k = 1
    · have z1 : (((k : Nat) : Int) == 1) = true := by simp; omega
      have hwant : Nd.want ⟨k, a, b, d, ins⟩ = 0 := by unfold Nd.want; rw [if_pos k1]
      by_cases hw : ls.length = 0
      · have he : errR ⟨k, a, b, d, ins⟩ ls.length = 0 := by unfold errR; rw [if_neg (by rw [hnum]; decide), if_neg (fun h => h (by rw [hwant]; exact hw))]
        have hrr : runR ⟨k, a, b, d, ins⟩ ls = sortR (makesR ⟨k, a, b, d, ins⟩ ls) := by unfold runR; rw [he]; rfl
        rw [hrr, he]
        have hww : ls.length = Nd.want ⟨k, a, b, d, ins⟩ := by rw [hwant]; exact hw
        have zl : ((ls.length : Int) != 0) = false := by rw [hw]; rfl
        have zl2 : ((ls.length : Int) == 0) = true := by rw [hw]; rfl
        have HM := Lib.hid fun w' (hb' : Below w.heap.size w w') => refMakes_v ⟨k, a, b, d, ins⟩ NA nm nc (HI.out.below hb') hnum hb.2 hww HL.out
        have HLM := Lib.hid (makes_len hww HL.out)
        clear hrr he hnum hww hwant hw k1
        go_enter Try.func15, Try.ntmps15
        go_upto_region 4 with fail
        generalize (w.alloc (.cells #[.int .u8 (k : Nat), .int .u8 (a : Nat), .int .i64 b, .int .i64 d, .slice NA nm nc] 24)).alloc (.cells #[.int .u8 (k : Nat), .int .u8 (a : Nat), .int .i64 b, .int .i64 0, .slice none 0 0] 24) = w2 at *
        obtain ⟨x0, x1, x2, x3, x4⟩ := cells5 HX6.out
        go_wp2_with fail
        refine HC.out.mono ?_; rintro e w5 ⟨rfl, hb5⟩
        have h1 := HB2.out.trans (hb5.mono HB2.out.size); have h2 := HBX2.out.below hb5 HBX2.out.lt
        have HB5 := Lib.hid h1; have HBX5 := Lib.hid h2
        clear h1 h2 hb5 x0 x1 x2 x3 x4 HC HB2 HBX2 HX6
        dsimp only
        obtain ⟨m0, m1, m2, m3, m4⟩ := cells5 HBX5.out
        go_wp2_with fail
        refine (HM.out _ HB5.out).mono ?_; rintro e w6 ⟨⟨v6, rfl, hr6⟩, hb6⟩
        have HB6 := Lib.hid (HB5.out.trans (hb6.mono HB5.out.size)); clear hb6
        have HS := Lib.hid (refSorted_v hr6 HLM.out); clear hr6
        clear m0 m1 m2 m3 m4
        dsimp only
        go_wp2_with fail
        refine HS.out.mono ?_; rintro e w7 ⟨⟨v7, rfl, hr7⟩, hb7⟩
        dsimp only
        go_wp2_with fail
        go_ret2
        exact ⟨⟨_, rfl, hr7⟩, HB6.out.trans (hb7.mono HB6.out.size)⟩
      · have he : errR ⟨k, a, b, d, ins⟩ ls.length = 100 := by unfold errR; rw [if_neg (by rw [hnum]; decide), if_pos (fun h => hw (by rw [← hwant]; exact h))]
        have hrr : runR ⟨k, a, b, d, ins⟩ ls = [] := by unfold runR; rw [he]; rfl
        rw [hrr, he]
        have zl : ((ls.length : Int) != 0) = true := bne_iff_ne.2 (fun h => hw (by omega))
        have zl2 : ((ls.length : Int) == 0) = false := beq_eq_false_iff_ne.2 (fun h => hw (by omega))
        clear hrr he hnum hwant hw k1
        go_enter Try.func15, Try.ntmps15
        go_upto_region 4 with fail
        generalize (w.alloc (.cells #[.int .u8 (k : Nat), .int .u8 (a : Nat), .int .i64 b, .int .i64 d, .slice NA nm nc] 24)).alloc (.cells #[.int .u8 (k : Nat), .int .u8 (a : Nat), .int .i64 b, .int .i64 0, .slice none 0 0] 24) = w2 at *
        obtain ⟨x0, x1, x2, x3, x4⟩ := cells5 HX6.out
        go_wp2_with fail
        refine HC.out.mono ?_; rintro e w5 ⟨rfl, hb5⟩
        have h1 := HB2.out.trans (hb5.mono HB2.out.size); have h2 := HBX2.out.below hb5 HBX2.out.lt
        have HB5 := Lib.hid h1; have HBX5 := Lib.hid h2
        clear h1 h2 hb5 x0 x1 x2 x3 x4 HC HB2 HBX2 HX6
        dsimp only
        obtain ⟨m0, m1, m2, m3, m4⟩ := cells5 HBX5.out
        go_wp2_with fail
        go_ret2
        exact ⟨⟨_, rfl, RowV.nil _⟩, HB5.out⟩
    · by_cases k4 : k = 4
      · have z1 : (((k : Nat) : Int) == 1) = false := by simp; omega
        have z4 : (((k : Nat) : Int) == 4) = true := by simp; omega
        have hwant : Nd.want ⟨k, a, b, d, ins⟩ = 2 := by unfold Nd.want; rw [if_neg k1, if_pos (.inl k4)]
        by_cases hw : ls.length = 2
        · have he : errR ⟨k, a, b, d, ins⟩ ls.length = 0 := by unfold errR; rw [if_neg (by rw [hnum]; decide), if_neg (fun h => h (by rw [hwant]; exact hw))]
          have hrr : runR ⟨k, a, b, d, ins⟩ ls = sortR (makesR ⟨k, a, b, d, ins⟩ ls) := by unfold runR; rw [he]; rfl
          rw [hrr, he]
          have hww : ls.length = Nd.want ⟨k, a, b, d, ins⟩ := by rw [hwant]; exact hw
          have zl : ((ls.length : Int) != 2) = false := by rw [hw]; rfl
          have zl2 : ((ls.length : Int) == 2) = true := by rw [hw]; rfl
          have HM := Lib.hid fun w' (hb' : Below w.heap.size w w') => refMakes_v ⟨k, a, b, d, ins⟩ NA nm nc (HI.out.below hb') hnum hb.2 hww HL.out
          have HLM := Lib.hid (makes_len hww HL.out)
          clear hrr he hnum hww hwant hw k1 k4
          go_enter Try.func15, Try.ntmps15
          go_upto_region 4 with fail
          generalize (w.alloc (.cells #[.int .u8 (k : Nat), .int .u8 (a : Nat), .int .i64 b, .int .i64 d, .slice NA nm nc] 24)).alloc (.cells #[.int .u8 (k : Nat), .int .u8 (a : Nat), .int .i64 b, .int .i64 0, .slice none 0 0] 24) = w2 at *
          obtain ⟨x0, x1, x2, x3, x4⟩ := cells5 HX6.out
          go_wp2_with fail
          refine HC.out.mono ?_; rintro e w5 ⟨rfl, hb5⟩
          have h1 := HB2.out.trans (hb5.mono HB2.out.size); have h2 := HBX2.out.below hb5 HBX2.out.lt
          have HB5 := Lib.hid h1; have HBX5 := Lib.hid h2
          clear h1 h2 hb5 x0 x1 x2 x3 x4 HC HB2 HBX2 HX6
          dsimp only
          obtain ⟨m0, m1, m2, m3, m4⟩ := cells5 HBX5.out
          go_wp2_with fail
          refine (HM.out _ HB5.out).mono ?_; rintro e w6 ⟨⟨v6, rfl, hr6⟩, hb6⟩
          have HB6 := Lib.hid (HB5.out.trans (hb6.mono HB5.out.size)); clear hb6
          have HS := Lib.hid (refSorted_v hr6 HLM.out); clear hr6
          clear m0 m1 m2 m3 m4
          dsimp only
          go_wp2_with fail
          refine HS.out.mono ?_; rintro e w7 ⟨⟨v7, rfl, hr7⟩, hb7⟩
          dsimp only
          go_wp2_with fail
          go_ret2
          exact ⟨⟨_, rfl, hr7⟩, HB6.out.trans (hb7.mono HB6.out.size)⟩
        · have he : errR ⟨k, a, b, d, ins⟩ ls.length = 100 := by unfold errR; rw [if_neg (by rw [hnum]; decide), if_pos (fun h => hw (by rw [← hwant]; exact h))]
          have hrr : runR ⟨k, a, b, d, ins⟩ ls = [] := by unfold runR; rw [he]; rfl
          rw [hrr, he]
          have zl : ((ls.length : Int) != 2) = true := bne_iff_ne.2 (fun h => hw (by omega))
          have zl2 : ((ls.length : Int) == 2) = false := beq_eq_false_iff_ne.2 (fun h => hw (by omega))
          clear hrr he hnum hwant hw k1 k4
          go_enter Try.func15, Try.ntmps15
          go_upto_region 4 with fail
          generalize (w.alloc (.cells #[.int .u8 (k : Nat), .int .u8 (a : Nat), .int .i64 b, .int .i64 d, .slice NA nm nc] 24)).alloc (.cells #[.int .u8 (k : Nat), .int .u8 (a : Nat), .int .i64 b, .int .i64 0, .slice none 0 0] 24) = w2 at *
          obtain ⟨x0, x1, x2, x3, x4⟩ := cells5 HX6.out
          go_wp2_with fail
          refine HC.out.mono ?_; rintro e w5 ⟨rfl, hb5⟩
          have h1 := HB2.out.trans (hb5.mono HB2.out.size); have h2 := HBX2.out.below hb5 HBX2.out.lt
          have HB5 := Lib.hid h1; have HBX5 := Lib.hid h2
          clear h1 h2 hb5 x0 x1 x2 x3 x4 HC HB2 HBX2 HX6
          dsimp only
          obtain ⟨m0, m1, m2, m3, m4⟩ := cells5 HBX5.out
          go_wp2_with fail
          go_ret2
          exact ⟨⟨_, rfl, RowV.nil _⟩, HB5.out⟩
      · by_cases k6 : k = 6
        · have z1 : (((k : Nat) : Int) == 1) = false := by simp; omega
          have z4 : (((k : Nat) : Int) == 4) = false := by simp; omega
          have z6 : (((k : Nat) : Int) == 6) = true := by simp; omega
          have hwant : Nd.want ⟨k, a, b, d, ins⟩ = 2 := by unfold Nd.want; rw [if_neg k1, if_pos (.inr k6)]
          by_cases hw : ls.length = 2
          · have he : errR ⟨k, a, b, d, ins⟩ ls.length = 0 := by unfold errR; rw [if_neg (by rw [hnum]; decide), if_neg (fun h => h (by rw [hwant]; exact hw))]
            have hrr : runR ⟨k, a, b, d, ins⟩ ls = sortR (makesR ⟨k, a, b, d, ins⟩ ls) := by unfold runR; rw [he]; rfl
            rw [hrr, he]
            have hww : ls.length = Nd.want ⟨k, a, b, d, ins⟩ := by rw [hwant]; exact hw
            have zl : ((ls.length : Int) != 2) = false := by rw [hw]; rfl
            have zl2 : ((ls.length : Int) == 2) = true := by rw [hw]; rfl
            have HM := Lib.hid fun w' (hb' : Below w.heap.size w w') => refMakes_v ⟨k, a, b, d, ins⟩ NA nm nc (HI.out.below hb') hnum hb.2 hww HL.out
            have HLM := Lib.hid (makes_len hww HL.out)
            clear hrr he hnum hww hwant hw k1 k4 k6
            go_enter Try.func15, Try.ntmps15
            go_upto_region 4 with fail
            generalize (w.alloc (.cells #[.int .u8 (k : Nat), .int .u8 (a : Nat), .int .i64 b, .int .i64 d, .slice NA nm nc] 24)).alloc (.cells #[.int .u8 (k : Nat), .int .u8 (a : Nat), .int .i64 b, .int .i64 0, .slice none 0 0] 24) = w2 at *
            obtain ⟨x0, x1, x2, x3, x4⟩ := cells5 HX6.out
            go_wp2_with fail
            refine HC.out.mono ?_; rintro e w5 ⟨rfl, hb5⟩
            have h1 := HB2.out.trans (hb5.mono HB2.out.size); have h2 := HBX2.out.below hb5 HBX2.out.lt
            have HB5 := Lib.hid h1; have HBX5 := Lib.hid h2
            clear h1 h2 hb5 x0 x1 x2 x3 x4 HC HB2 HBX2 HX6
            dsimp only
            obtain ⟨m0, m1, m2, m3, m4⟩ := cells5 HBX5.out
            go_wp2_with fail
            refine (HM.out _ HB5.out).mono ?_; rintro e w6 ⟨⟨v6, rfl, hr6⟩, hb6⟩
            have HB6 := Lib.hid (HB5.out.trans (hb6.mono HB5.out.size)); clear hb6
            have HS := Lib.hid (refSorted_v hr6 HLM.out); clear hr6
            clear m0 m1 m2 m3 m4
            dsimp only
            go_wp2_with fail
            refine HS.out.mono ?_; rintro e w7 ⟨⟨v7, rfl, hr7⟩, hb7⟩
            dsimp only
            go_wp2_with fail
            go_ret2
            exact ⟨⟨_, rfl, hr7⟩, HB6.out.trans (hb7.mono HB6.out.size)⟩
          · have he : errR ⟨k, a, b, d, ins⟩ ls.length = 100 := by unfold errR; rw [if_neg (by rw [hnum]; decide), if_pos (fun h => hw (by rw [← hwant]; exact h))]
            have hrr : runR ⟨k, a, b, d, ins⟩ ls = [] := by unfold runR; rw [he]; rfl
            rw [hrr, he]
            have zl : ((ls.length : Int) != 2) = true := bne_iff_ne.2 (fun h => hw (by omega))
            have zl2 : ((ls.length : Int) == 2) = false := beq_eq_false_iff_ne.2 (fun h => hw (by omega))
            clear hrr he hnum hwant hw k1 k4 k6
            go_enter Try.func15, Try.ntmps15
            go_upto_region 4 with fail
            generalize (w.alloc (.cells #[.int .u8 (k : Nat), .int .u8 (a : Nat), .int .i64 b, .int .i64 d, .slice NA nm nc] 24)).alloc (.cells #[.int .u8 (k : Nat), .int .u8 (a : Nat), .int .i64 b, .int .i64 0, .slice none 0 0] 24) = w2 at *
            obtain ⟨x0, x1, x2, x3, x4⟩ := cells5 HX6.out
            go_wp2_with fail
            refine HC.out.mono ?_; rintro e w5 ⟨rfl, hb5⟩
            have h1 := HB2.out.trans (hb5.mono HB2.out.size); have h2 := HBX2.out.below hb5 HBX2.out.lt
            have HB5 := Lib.hid h1; have HBX5 := Lib.hid h2
            clear h1 h2 hb5 x0 x1 x2 x3 x4 HC HB2 HBX2 HX6
            dsimp only
            obtain ⟨m0, m1, m2, m3, m4⟩ := cells5 HBX5.out
            go_wp2_with fail
            go_ret2
            exact ⟨⟨_, rfl, RowV.nil _⟩, HB5.out⟩
        · have z1 : (((k : Nat) : Int) == 1) = false := by simp; omega
          have z4 : (((k : Nat) : Int) == 4) = false := by simp; omega
          have z6 : (((k : Nat) : Int) == 6) = false := by simp; omega
          have hwant : Nd.want ⟨k, a, b, d, ins⟩ = 1 := by unfold Nd.want; rw [if_neg k1, if_neg (by intro h; rcases h with h | h; exact k4 h; exact k6 h)]
          by_cases hw : ls.length = 1
          · have he : errR ⟨k, a, b, d, ins⟩ ls.length = 0 := by unfold errR; rw [if_neg (by rw [hnum]; decide), if_neg (fun h => h (by rw [hwant]; exact hw))]
            have hrr : runR ⟨k, a, b, d, ins⟩ ls = sortR (makesR ⟨k, a, b, d, ins⟩ ls) := by unfold runR; rw [he]; rfl
            rw [hrr, he]
            have hww : ls.length = Nd.want ⟨k, a, b, d, ins⟩ := by rw [hwant]; exact hw
            have zl : ((ls.length : Int) != 1) = false := by rw [hw]; rfl
            have zl2 : ((ls.length : Int) == 1) = true := by rw [hw]; rfl
            have HM := Lib.hid fun w' (hb' : Below w.heap.size w w') => refMakes_v ⟨k, a, b, d, ins⟩ NA nm nc (HI.out.below hb') hnum hb.2 hww HL.out
            have HLM := Lib.hid (makes_len hww HL.out)
            clear hrr he hnum hww hwant hw k1 k4 k6
            go_enter Try.func15, Try.ntmps15
            go_upto_region 4 with fail
            generalize (w.alloc (.cells #[.int .u8 (k : Nat), .int .u8 (a : Nat), .int .i64 b, .int .i64 d, .slice NA nm nc] 24)).alloc (.cells #[.int .u8 (k : Nat), .int .u8 (a : Nat), .int .i64 b, .int .i64 0, .slice none 0 0] 24) = w2 at *
            obtain ⟨x0, x1, x2, x3, x4⟩ := cells5 HX6.out
            go_wp2_with fail
            refine HC.out.mono ?_; rintro e w5 ⟨rfl, hb5⟩
            have h1 := HB2.out.trans (hb5.mono HB2.out.size); have h2 := HBX2.out.below hb5 HBX2.out.lt
            have HB5 := Lib.hid h1; have HBX5 := Lib.hid h2
            clear h1 h2 hb5 x0 x1 x2 x3 x4 HC HB2 HBX2 HX6
            dsimp only
            obtain ⟨m0, m1, m2, m3, m4⟩ := cells5 HBX5.out
            go_wp2_with fail
            refine (HM.out _ HB5.out).mono ?_; rintro e w6 ⟨⟨v6, rfl, hr6⟩, hb6⟩
            have HB6 := Lib.hid (HB5.out.trans (hb6.mono HB5.out.size)); clear hb6
            have HS := Lib.hid (refSorted_v hr6 HLM.out); clear hr6
            clear m0 m1 m2 m3 m4
            dsimp only
            go_wp2_with fail
            refine HS.out.mono ?_; rintro e w7 ⟨⟨v7, rfl, hr7⟩, hb7⟩
            dsimp only
            go_wp2_with fail
            go_ret2
            exact ⟨⟨_, rfl, hr7⟩, HB6.out.trans (hb7.mono HB6.out.size)⟩
          · have he : errR ⟨k, a, b, d, ins⟩ ls.length = 100 := by unfold errR; rw [if_neg (by rw [hnum]; decide), if_pos (fun h => hw (by rw [← hwant]; exact h))]
            have hrr : runR ⟨k, a, b, d, ins⟩ ls = [] := by unfold runR; rw [he]; rfl
            rw [hrr, he]
            have zl : ((ls.length : Int) != 1) = true := bne_iff_ne.2 (fun h => hw (by omega))
            have zl2 : ((ls.length : Int) == 1) = false := beq_eq_false_iff_ne.2 (fun h => hw (by omega))
            clear hrr he hnum hwant hw k1 k4 k6
            go_enter Try.func15, Try.ntmps15
            go_upto_region 4 with fail
            generalize (w.alloc (.cells #[.int .u8 (k : Nat), .int .u8 (a : Nat), .int .i64 b, .int .i64 d, .slice NA nm nc] 24)).alloc (.cells #[.int .u8 (k : Nat), .int .u8 (a : Nat), .int .i64 b, .int .i64 0, .slice none 0 0] 24) = w2 at *
            obtain ⟨x0, x1, x2, x3, x4⟩ := cells5 HX6.out
            go_wp2_with fail
            refine HC.out.mono ?_; rintro e w5 ⟨rfl, hb5⟩
            have h1 := HB2.out.trans (hb5.mono HB2.out.size); have h2 := HBX2.out.below hb5 HBX2.out.lt
            have HB5 := Lib.hid h1; have HBX5 := Lib.hid h2
            clear h1 h2 hb5 x0 x1 x2 x3 x4 HC HB2 HBX2 HX6
            dsimp only
            obtain ⟨m0, m1, m2, m3, m4⟩ := cells5 HBX5.out
            go_wp2_with fail
            go_ret2
            exact ⟨⟨_, rfl, RowV.nil _⟩, HB5.out⟩
end Op
end Go.Proofs.Ytcjdjdhjbchaaaa
