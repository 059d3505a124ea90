/- slices.Equal; Same, the program's and the document's; the document's Add. -/
import Derived.Test.YtcdofkhkckodjaaVrConcat
import Derived.Test.YtcdofkhkckodjaaVrRefSort
import Derived.Test.YtcdofkhkckodjaaVrAlike
namespace Go.Proofs.Ytcdofkhkckodjaa
namespace Vr
open Go.ChangeShapes Go.WideShapes Go.ChangeAt Go.RowKit Go.BigFrame
set_option linter.unusedVariables false
set_option maxRecDepth 100000
set_option maxHeartbeats 2000000 in
theorem equal_any (A B : Option Addr) (l m : List Rd) (c d : Nat) (w : World) (hA : Rw.Ts kindR w A l) (hB : Rw.Ts kindR w B m) (hl : l.length ≤ 1000000) (hm : m.length ≤ 1000000) :
    Calls Try.prog 27 #[.slice A l.length c, .slice B m.length d] w fun e w' => e = .returned (.bool (sameR l m)) ∧ Below w.heap.size w w' := by
  have HA := Lib.hid hA; have HB := Lib.hid hB; clear hA hB
  by_cases hlm : l.length = m.length
  · have hz : ((l.length : Int) != (m.length : Int)) = false := by simp; omega
    have HLM := Lib.hid hlm; clear hlm
    go_enter Try.func27, Try.ntmps27
    go_wp2_with fail
    go_loopw [13] (fun i wr => ∃ k : Nat, k ≤ l.length ∧ i = .int .i64 k ∧ Below w.heap.size w wr ∧ l.take k = m.take k) (fun i _ => l.length - (intOf i).toNat)
    case atStart => exact ⟨0, by omega, rfl, Below.refl _ _, rfl⟩
    case round =>
      obtain ⟨k, hk, rfl, hb, hall⟩ := hrel
      have HE := Lib.hid hall; have HBW := Lib.hid hb; clear hall hb hz
      by_cases hlt : k < l.length
      · have hltz : (k : Int) < (l.length : Int) := by omega
        have hltm : (k : Int) < (m.length : Int) := by have := HLM.out; omega
        obtain ⟨x, hx⟩ : ∃ x, l[k]? = some x := ⟨_, List.getElem?_eq_getElem hlt⟩
        obtain ⟨y, hy⟩ : ∃ y, m[k]? = some y := ⟨_, List.getElem?_eq_getElem (by have := HLM.out; omega)⟩
        obtain ⟨b, o, rfl, hbl, hcl⟩ := recs_at HA.out hx
        obtain ⟨b', o', rfl, hbl', hcl'⟩ := recs_at HB.out hy
        obtain ⟨c0, c1⟩ := hcl wr HBW.out
        obtain ⟨d0, d1⟩ := hcl' wr HBW.out
        have he := run_eqR x y
        have HX := Lib.hid hx; have HY := Lib.hid hy; clear hx hcl hy hcl'
        by_cases hxy : x = y
        · have he' : ∀ w, (Op.equalIn 10000 32 (.agg #[.int .i64 x.k, .int .i64 x.v]) (.agg #[.int .i64 y.k, .int .i64 y.v])).run Try.prog w = .ok true w := fun w => by rw [he, decide_eq_true hxy]
          have HXY := Lib.hid hxy; clear he hxy
          go_wp2_with fail
          go_region
          go_wp2_with fail
          go_roundw
          case rel => exact ⟨k + 1, by omega, by simp, HBW.out.drew, by rw [List.take_add_one, List.take_add_one, HX.out, HY.out, HE.out, HXY.out]⟩
          case measure => simp only [intOf]; omega
        · have he' : ∀ w, (Op.equalIn 10000 32 (.agg #[.int .i64 x.k, .int .i64 x.v]) (.agg #[.int .i64 y.k, .int .i64 y.v])).run Try.prog w = .ok false w := fun w => by rw [he, decide_eq_false hxy]
          have HXY := Lib.hid hxy; clear he hxy
          go_wp2_with fail
          go_region
          go_wp2_with fail
          go_ret
          exact ⟨retb (sameR_no fun e => by have h := HX.out; rw [e, HY.out] at h; exact HXY.out (Option.some.inj h).symm), HBW.out.drew⟩
      · have hltz : ¬ (k : Int) < (l.length : Int) := by omega
        have hkl : k = l.length := by omega
        subst hkl
        have HR : Hid (true = sameR l m) := Lib.hid (sameR_yes (by have h := HE.out; rw [List.take_length, List.take_of_length_le (by have := HLM.out; omega)] at h; exact h))
        go_wp2_with fail
        go_ret
        exact ⟨retb HR.out, HBW.out⟩
  · have hz : ((l.length : Int) != (m.length : Int)) = true := by simp; omega
    have HLM := Lib.hid hlm; clear hlm
    go_enter Try.func27, Try.ntmps27
    go_wp2_with fail
    go_ret
    exact ⟨retb (sameR_no fun e => HLM.out (by rw [e])), Below.refl _ _⟩
/-- a row of the call's own, as a slice that can be read -/
theorem own_ts {w : World} {base n : Nat} {v : Value} {l : List Rd} (h : w.ownsRow base 32 kindR.K v n (Rw.row kindR l)) : ∃ A c, v = .slice A l.length c ∧ Rw.Ts kindR w A l ∧ (A = none → c = 0 ∧ l = []) ∧ l.length ≤ c ∧ c ≤ maxLen := by
  obtain ⟨A, c, e, hT, h1, h2, h3, _⟩ := Rw.Ts.of_own h
  exact ⟨A, c, e, hT, fun hA => ⟨h3 hA, by have := h3 hA; exact List.eq_nil_of_length_eq_zero (by omega)⟩, h1, h2⟩
set_option maxHeartbeats 2000000 in
theorem same_any (A B : Option Addr) (a b : List Rd) (c d : Nat) (w : World) (hA : Rw.Ts kindR w A a) (hB : Rw.Ts kindR w B b) (hAn : A = none → c = 0 ∧ a = []) (hBn : B = none → d = 0 ∧ b = []) (ha : a.length ≤ 1000000) (hb : b.length ≤ 1000000) :
    Calls Try.prog 15 #[.slice A a.length c, .slice B b.length d] w fun e w' => e = .returned (.bool (sameR (sortR a) (sortR b))) ∧ Below w.heap.size w w' := by
  by_cases hl : a.length = b.length
  · have hz : ((a.length : Int) == (b.length : Int)) = true := by simp; omega
    have h1 := sorted_any A a c w hA hAn ha
    have h2 := fun w' (hb' : Below w.heap.size w w') => sorted_any B b d w' (hB.below hb') hBn hb
    have hs1 : (sortR a).length ≤ 1000000 := by rw [sortR_perm.length_eq]; exact ha
    have hs2 : (sortR b).length ≤ 1000000 := by rw [sortR_perm.length_eq]; exact hb
    generalize sortR a = sa at *
    generalize sortR b = sb at *
    have H1 := Lib.hid h1; have H2 := Lib.hid h2; have HL := Lib.hid hl; have HS := Lib.hid (And.intro hs1 hs2)
    clear h1 h2 hl hA hB hAn hBn hs1 hs2 ha hb
    generalize a.length = n at *
    generalize b.length = m at *
    go_enter Try.func15, Try.ntmps15
    go_wp2_with fail
    refine H1.out.mono ?_; rintro e w1 ⟨⟨v1, rfl, ho1⟩, hb1⟩
    obtain ⟨A1, c1, rfl, hT1, _, _, _⟩ := own_ts ho1
    have HT1 := Lib.hid hT1; have HB1 := Lib.hid hb1; clear ho1 hT1 hb1 H1
    dsimp only
    go_wp2_with fail
    refine (H2.out _ HB1.out).mono ?_; rintro e w2 ⟨⟨v2, rfl, ho2⟩, hb2⟩
    obtain ⟨A2, c2, rfl, hT2, _, _, _⟩ := own_ts ho2
    have HT1' := Lib.hid (HT1.out.below hb2); have HT2 := Lib.hid hT2; have HB2 := Lib.hid (HB1.out.trans (hb2.mono HB1.out.size)); clear ho2 hT2 hb2 H2 HB1 HT1
    dsimp only
    go_wp2_with fail
    refine (equal_any A1 A2 sa sb c1 c2 w2 HT1'.out HT2.out HS.out.1 HS.out.2).mono ?_; rintro e w3 ⟨rfl, hb3⟩
    have HB3 := Lib.hid (HB2.out.trans (hb3.mono HB2.out.size)); clear hb3
    dsimp only
    go_wp2_with fail
    go_ret
    exact ⟨rfl, HB3.out⟩
  · have hz : ((a.length : Int) == (b.length : Int)) = false := by simp; omega
    have HR : Hid (false = sameR (sortR a) (sortR b)) := Lib.hid (sameR_no fun e => hl (by have := congrArg List.length e; rw [sortR_perm.length_eq, sortR_perm.length_eq] at this; exact this))
    clear hl
    go_enter Try.func15, Try.ntmps15
    go_wp2_with fail
    go_ret
    exact ⟨retb HR.out, Below.refl _ _⟩
set_option maxHeartbeats 2000000 in
theorem refSame_any (A B : Option Addr) (a b : List Rd) (c d : Nat) (w : World) (hA : Rw.Ts kindR w A a) (hB : Rw.Ts kindR w B b) (ha : a.length ≤ 1000000) (hb : b.length ≤ 1000000) :
    Calls Try.prog 16 #[.slice A a.length c, .slice B b.length d] w fun e w' => e = .returned (.bool (sameR (sortR a) (sortR b))) ∧ Below w.heap.size w w' := by
  have h1 := refSorted_any A a c w hA ha
  have h2 := fun w' (hb' : Below w.heap.size w w') => refSorted_any B b d w' (hB.below hb') hb
  have hs1 : (sortR a).length ≤ 1000000 := by rw [sortR_perm.length_eq]; exact ha
  have hs2 : (sortR b).length ≤ 1000000 := by rw [sortR_perm.length_eq]; exact hb
  generalize sortR a = sa at *
  generalize sortR b = sb at *
  have H1 := Lib.hid h1; have H2 := Lib.hid h2; have HS := Lib.hid (And.intro hs1 hs2)
  clear h1 h2 hA hB hs1 hs2 ha hb
  generalize a.length = n at *
  generalize b.length = m at *
  go_enter Try.func16, Try.ntmps16
  go_wp2_with fail
  refine H1.out.mono ?_; rintro e w1 ⟨⟨v1, rfl, ho1⟩, hb1⟩
  obtain ⟨A1, c1, rfl, hT1, _, _, _⟩ := own_ts ho1
  have HT1 := Lib.hid hT1; have HB1 := Lib.hid hb1; clear ho1 hT1 hb1 H1
  dsimp only
  go_wp2_with fail
  refine (H2.out _ HB1.out).mono ?_; rintro e w2 ⟨⟨v2, rfl, ho2⟩, hb2⟩
  obtain ⟨A2, c2, rfl, hT2, _, _, _⟩ := own_ts ho2
  have HT1' := Lib.hid (HT1.out.below hb2); have HT2 := Lib.hid hT2; have HB2 := Lib.hid (HB1.out.trans (hb2.mono HB1.out.size)); clear ho2 hT2 hb2 H2 HB1 HT1
  dsimp only
  go_wp2_with fail
  refine (alike_any A1 A2 sa sb c1 c2 w2 HT1'.out HT2.out HS.out.1 HS.out.2).mono ?_; rintro e w3 ⟨rfl, hb3⟩
  have HB3 := Lib.hid (HB2.out.trans (hb3.mono HB2.out.size)); clear hb3
  dsimp only
  go_wp2_with fail
  go_ret
  exact ⟨rfl, HB3.out⟩
set_option maxHeartbeats 2000000 in
theorem refAdd_any (B : Nat) (L : List Rr) (w : World) (hL : RowsAt w B L) (hl : L.length ≤ 1000) (hn : (cat L).length ≤ 1000000) :
    Calls Try.prog 18 #[.slice (some ⟨B, 0, none⟩) L.length L.length] w (AddD (sortR (cat L)) w) := by
  have HL := Lib.hid hL; have HN := Lib.hid hn; clear hL hn
  go_enter Try.func18, Try.ntmps18
  go_wp2_with fail
  go_loopw [3, 4] (fun fv i wr => ∃ k : Nat, k ≤ L.length ∧ i = .int .i64 k ∧ Below w.heap.size w wr ∧ wr.ownsRow w.heap.size 32 kindR.K fv (cat (L.take k)).length (Rw.row kindR (cat (L.take k)))) (fun _ i _ => L.length - (intOf i).toNat)
  case atStart => exact ⟨0, by omega, rfl, Below.refl _ _, World.ownsRow_nil _ _ _ _⟩
  case round =>
    obtain ⟨k, hk, rfl, hbw, hro⟩ := hrel
    have HBW := Lib.hid hbw; have HRO := Lib.hid hro; clear hbw hro
    by_cases hlt : k < L.length
    · have hltz : (k : Int) < (L.length : Int) := by omega
      obtain ⟨r, hr⟩ : ∃ r, L[k]? = some r := ⟨_, List.getElem?_eq_getElem hlt⟩
      have hrow := HL.out.row.below HBW.out HL.out.row.lt
      have q : wr.cell? ⟨B, k, none⟩ = some (.slice r.A r.ts.length r.c) := (hrow.cell k).trans (by rw [List.getElem?_map, hr]; rfl)
      have hok := HL.out.ok r (List.mem_of_getElem? hr)
      have ht := cat_take hr
      have hle := cat_take_le L (k + 1)
      rw [ht, List.length_append] at hle
      have hnn := HN.out
      generalize cat (L.take k) = us at *
      have hb : us.length + r.ts.length ≤ 1000000 := by omega
      have hbs := HBW.out.size
      have HT := Lib.hid ht; have HOK := Lib.hid hok; have HBS := Lib.hid hbs
      clear hle hr ht hok hrow hbs hnn
      go_wp2_with (at_builtin; refine Rw.append_own kindR 32 22 Try.underlying22 infoRec rfl rfl _ _ rfl w.heap.size _ us.length us rfl HRO.out r.A r.c r.ts rfl HOK.out.nil (HOK.out.ts.below HBW.out) (by unfold maxLen; omega) (by omega) HBS.out ?_; intro v2 w4 hv2 hg2; have hb2 := Rw.own_below HRO.out hg2 HBW.out HBS.out; have HV := Lib.hid hv2; have HB2 := Lib.hid hb2; clear hv2 hg2 hb2)
      go_roundw
      case rel => exact ⟨k + 1, by omega, by simp, HB2.out, by rw [HT.out, List.length_append]; exact HV.out⟩
      case measure => simp only [intOf]; omega
    · have hltz : ¬ (k : Int) < (L.length : Int) := by omega
      have hkl : k = L.length := by omega
      subst hkl
      have hro := HRO.out
      rw [List.take_length] at hro
      obtain ⟨A, c, rfl, hT, _, _, _⟩ := own_ts hro
      have hs := refSorted_any A (cat L) c wr hT HN.out
      have HS := Lib.hid hs; clear hro hT hs
      generalize sortR (cat L) = ss at *
      generalize (cat L).length = n at *
      go_wp2_with fail
      refine HS.out.mono ?_; rintro e w2 ⟨⟨v, rfl, ho⟩, hb2⟩
      have HO := Lib.hid (own_base ho HBW.out.size); have HB2 := Lib.hid (HBW.out.trans (hb2.mono HBW.out.size)); clear ho hb2 HS
      dsimp only
      go_wp2_with fail
      go_ret
      exact ⟨⟨_, rfl, HO.out⟩, HB2.out⟩
end Vr
end Go.Proofs.Ytcdofkhkckodjaa
