/- AntichainOf: the frontier of a row of times is as the document's own Of says; is a row a frontier; the row that is given stays; for all rows of at most 60 times. -/
import Derived.Test.YtkbabmifdfmhlaaFrRefOf
namespace Go.Proofs.Ytkbabmifdfmhlaa
open Go.ChangeShapes Go.WideShapes Go.ChangeAt Go.RowKit Go.BigFrame Go.Shelf
set_option linter.unusedVariables false
set_option maxRecDepth 100000
namespace antichainOf
/-- a row of times of the call's own, that is written to -/
structure Wr (w : World) (g n : Nat) : Prop where
  row : ∃ L, Row w g 25 L ∧ ∀ j, j < n → ∃ x : Int, L[j * 5 + 1]? = some (.int .i64 x)
section
variable {w w' : World} {g n b k : Nat}
theorem Wr.cell (h : Wr w g n) (hk : k < n) : ∃ x : Int, w.cell? ⟨g, k * 5 + 1, none⟩ = some (.int .i64 x) := by
  obtain ⟨L, hr, hc⟩ := h.row
  obtain ⟨x, hx⟩ := hc k hk
  exact ⟨x, by rw [hr.cell]; exact hx⟩
theorem Wr.free (h : Wr w g n) (i : Nat) : w.frozen? ⟨g, i, none⟩ = false := by
  obtain ⟨L, hr, _⟩ := h.row
  exact hr.free i
theorem Wr.lt (h : Wr w g n) : g < w.heap.size := by
  obtain ⟨L, hr, _⟩ := h.row
  exact hr.lt
theorem Wr.put (h : Wr w g n) (k : Nat) (x : Int) : Wr (w.setCell ⟨g, k, none⟩ (.int .i64 x)) g n := by
  obtain ⟨L, hr, hc⟩ := h.row
  refine ⟨L.set k (.int .i64 x), hr.put k _, fun j hj => ?_⟩
  obtain ⟨y, hy⟩ := hc j hj
  by_cases e : k = j * 5 + 1
  · exact ⟨x, by rw [e, List.getElem?_set_self (List.getElem?_eq_some_iff.1 hy).1]⟩
  · exact ⟨y, by rw [List.getElem?_set_ne e]; exact hy⟩
theorem Wr.below (h : Wr w g n) (hb : Below w.heap.size w w') : Wr w' g n := by
  obtain ⟨L, hr, hc⟩ := h.row
  exact ⟨L, hr.below hb hr.lt, hc⟩
theorem own_wr0 {base : Nat} {A : Option Addr} {c : Nat} {ts : List St} (h : ∀ hn : 0 < ts.length, ∃ g cap, Value.slice A ts.length c = .slice (some ⟨g, 0, none⟩) ts.length cap ∧ base ≤ g ∧ Wr w g ts.length) : ∃ g, 0 < ts.length → A = some ⟨g, 0, none⟩ ∧ base ≤ g ∧ Wr w g ts.length := by
  by_cases hn : 0 < ts.length
  · obtain ⟨g, cap, e, h1, h2⟩ := h hn
    injection e with e1 e2 e3
    exact ⟨g, fun _ => ⟨e1, h1, h2⟩⟩
  · exact ⟨0, fun h => absurd h hn⟩
theorem own_wr {base : Nat} {v : Value} {ts : List St} (h : w.ownsRow base 25 5 v ts.length (rowS ts)) (hn : 0 < ts.length) : ∃ g cap, v = .slice (some ⟨g, 0, none⟩) ts.length cap ∧ base ≤ g ∧ Wr w g ts.length := by
  obtain ⟨hlen, ⟨_, h0⟩ | ⟨g, cap, cur, rfl, hg, hh, _, _, _, ht⟩⟩ := h
  · omega
  · refine ⟨g, cap, rfl, hg, ⟨cur.toList, ?_, fun j hj => ?_⟩⟩
    · unfold Row
      rw [hh]
    · obtain ⟨t, htj⟩ : ∃ t, ts[j]? = some t := ⟨_, List.getElem?_eq_getElem hj⟩
      refine ⟨t.e, ?_⟩
      have h1 := rowS_at ts j t htj 1 (.int .i64 t.e) rfl
      rw [← ht, List.getElem?_take] at h1
      split at h1
      · exact h1
      · cases h1
end
section
variable {A : Option Addr} {a : List St} {c : Nat} {w : World} {v : Bool}
theorem refOfW (h : Slc w A c a) (ha : a.length ≤ 1000) : Calls Try.prog 30 #[.slice A a.length c] w (GivesB w (ifS (decide (Even a)) (ofS a)) (errS (decide (Even a)))) := refOf_any A a c w h ha
theorem refRightW (h : Slc w A c a) (ha : a.length ≤ 1000) (hv : decide (Fr a) = v) : ∀ w', Below w.heap.size w w' → Calls Try.prog 52 #[.slice A a.length c] w' fun e w'' => e = .returned (.bool v) ∧ Below w'.heap.size w' w'' := fun w' hw => by
  subst hv; exact refRightRow_any A a c w' (h.ts.below hw) ha h.le h.max
theorem Slc.far {g b : Nat} {x : Value} (h : Slc w A c a) (hw : ∀ ad, A = some ad → ad.block ≠ g) : Slc (w.setCell ⟨g, b, none⟩ x) A c a := by
  refine ⟨fun hn => ?_, h.le, h.max, h.nil⟩
  obtain ⟨p, o, e, hlt, hc⟩ := h.ts hn
  have hne : p ≠ g := hw _ e
  refine ⟨p, o, e, by rw [show (w.setCell ⟨g, b, none⟩ x).heap.size = w.heap.size by simp [World.setCell]]; exact hlt, fun j u hu => ?_⟩
  have e1 : (w.setCell ⟨g, b, none⟩ x).cell? ⟨p, o + j, none⟩ = w.cell? ⟨p, o + j, none⟩ := World.cell?_setCell_other _ _ _ _ (by first | exact hne | exact Ne.symm hne | (intro h; cases h; exact hne rfl) | simp [hne, Ne.symm hne])
  rw [e1]
  exact hc j u hu
end
set_option maxRecDepth 100000 in
set_option maxHeartbeats 16000000 in
theorem walk (A : Option Addr) (l : List St) (ca : Nat) (w : World) (hA : Slc w A ca l) :
    Calls Try.prog 26 #[.slice A l.length ca] w fun e w' => e = .returned (.bool true) ∧ Below w.heap.size w w' := by
  have hbw0 := Below.refl w.heap.size w
  have WW := Lib.hid works_any
  have Hl := Lib.hid hA; have HBW := Lib.hid hbw0
  clear hA hbw0
  by_cases ll : 60 < l.length
  · have dl : decide ((l.length : Int) > 60) = true := decide_eq_true (by omega)
    go_enter Try.func26, Try.ntmps26
    go_wp2_with fail
    refine (WW.out _).mono ?_; rintro e we ⟨rfl, hbe⟩
    go_wp2_with fail
    go_ret
    exact ⟨rfl, HBW.out.trans (hbe.mono HBW.out.size)⟩
  have dl : decide ((l.length : Int) > 60) = false := decide_eq_false (by omega)
  have LN := Lib.hid (Nat.not_lt.1 ll)
  go_enter Try.func26, Try.ntmps26
  go_upto_region 4 with fail
  clear ll dl
  have hts := Hl.out.ts; have hnil := Hl.out.nil; have hln := LN.out
  have hbs : w.heap.size ≤ w.heap.size := Nat.le_refl _
  go_upto_region 5 with (at_builtin; refine wpList_append_ts rfl _ _ rfl w.heap.size _ 0 [] rfl (World.ownsRow_nil _ _ _ _) A ca l rfl hnil hts (by omega) hbs ?_; intro va wa hown hgr)
  have hb := own_belowS (World.ownsRow_nil w w.heap.size 25 5) hgr (Below.refl _ _) hbs
  rw [List.nil_append, Nat.zero_add] at hown
  obtain ⟨Am, cm, rfl, hsm⟩ := Slc.of_own hown
  clear hts hnil hbs hown hgr hln
  have hl := Hl.out.below hb; clear Hl; have Hl := Lib.hid hl; clear hl
  have hbw := HBW.out.trans (hb.mono HBW.out.size); clear HBW hb; have HBW := Lib.hid hbw; clear hbw
  have HBA := Lib.hid HBW.out
  have Hm := Lib.hid hsm; clear hsm
  have k := of_any Am l cm wa Hm.out.ts (by have := LN.out; omega)
  obtain ⟨f, hp⟩ : ∃ p, ifS (decide (Even l)) (ofS l) = p := ⟨_, rfl⟩
  obtain ⟨er, hep⟩ : ∃ n, errS (decide (Even l)) = n := ⟨_, rfl⟩
  rw [hp, hep] at k
  have Lf := Lib.hid (show f.length ≤ 60 by rw [← hp]; exact ifS_len (by have := ofS_len l; have := LN.out; omega))
  have Ef := Lib.hid (And.intro hp hep); have K := Lib.hid k; clear k hp hep
  go_wp2_with fail
  refine (K.out).mono ?_; rintro e v1 ⟨⟨vf, rfl, hown⟩, hb⟩
  obtain ⟨Af, cf, hvf, hs⟩ := Slc.of_own hown
  have hge := fun hn => own_wr hown hn
  rw [hvf] at hge
  obtain ⟨gf, hgf⟩ := own_wr0 hge
  subst hvf
  have HGF := Lib.hid hgf
  have HAf := Lib.hid hs
  clear hs hge hown K hgf
  have HB1 := Lib.hid hb; have HLa := Lib.hid Hl.out; have HMa := Lib.hid Hm.out
  have hl := Hl.out.below hb; clear Hl; have Hl := Lib.hid hl; clear hl
  have hm := Hm.out.below hb; clear Hm; have Hm := Lib.hid hm; clear hm
  have hbw := HBW.out.trans (hb.mono HBW.out.size); clear HBW hb; have HBW := Lib.hid hbw; clear hbw
  have Hf := Lib.hid HAf.out; clear HAf
  have k := refOfW Hl.out (by have := LN.out; omega)
  rw [Ef.out.1, Ef.out.2] at k
  have K := Lib.hid k; clear k
  dsimp only
  go_wp2_with fail
  refine (K.out).mono ?_; rintro e v2 ⟨⟨Ag, cg, rfl, hsg, hag⟩, hb⟩
  have HG := Lib.hid hsg
  have HWF := Lib.hid (fun hn => (HGF.out hn).2.2.below hb)
  have HAG := Lib.hid hag; clear hsg hag K
  have HV12 := Lib.hid hb
  have hl := Hl.out.below hb; clear Hl; have Hl := Lib.hid hl; clear hl
  have hm := Hm.out.below hb; clear Hm; have Hm := Lib.hid hm; clear hm
  have hf := Hf.out.below hb; clear Hf; have Hf := Lib.hid hf; clear hf
  have hbw := HBW.out.trans (hb.mono HBW.out.size); clear HBW hb; have HBW := Lib.hid hbw; clear hbw
  have Hg := Lib.hid HG.out; clear HG
  dsimp only
  go_upto_region 7 with fail
  go_cut [41] from 26 to 41 (fun s wx => s = .bool false ∧ Below v2.heap.size v2 wx)
  case first =>
    have hrr := rightW Hl.out (by have := LN.out; omega) rfl
    have hrq := refRightW Hl.out (by have := LN.out; omega) rfl
    generalize decide (Fr l) = fl at *
    have HRR := Lib.hid hrr; have HRQ := Lib.hid hrq; clear hrr hrq
    go_wp2_with fail
    refine (refSameW Hf.out Hg.out (by have := Lf.out; omega) (by have := Lf.out; omega) (decide_eq_true rfl) _ (Below.refl _ _)).mono ?_; rintro e v3 ⟨rfl, hb3⟩
    go_wp2_with fail
    refine (HRR.out _ hb3).mono ?_; rintro e v4 ⟨rfl, hb4⟩
    have hb34 := hb3.trans (hb4.mono hb3.size)
    go_wp2_with fail
    refine (HRQ.out _ hb34).mono ?_; rintro e v5 ⟨rfl, hb5⟩
    have hb35 := hb34.trans (hb5.mono hb34.size)
    clear hb3 hb4 hb34 hb5
    cases fl with
    | true =>
      go_wp2_with fail
      go_meet
      exact ⟨rfl, hb35⟩
    | false =>
      go_wp2_with fail
      go_meet
      exact ⟨rfl, hb35⟩
  case rest =>
    obtain ⟨rfl, hbel⟩ := hcut
    have hl9 : v1.heap.size ≤ v2.heap.size := HV12.out.size
    have HG2 := Lib.hid (Hg.out.below hbel); have HW2 := Lib.hid (fun hn => (HWF.out hn).below (hbel.mono (Nat.le_refl _)))
    have hb12 := HB1.out.trans (HV12.out.mono HB1.out.size)
    have HBX := Lib.hid (hb12.trans (hbel.mono hb12.size)); clear hbel hb12
    go_wp2_with fail
    have hn := Lf.out
    go_loopw [8] (fun i wr => ∃ k : Nat, k ≤ f.length ∧ i = .int .i64 k ∧ Below wa.heap.size wa wr ∧ Slc wr Ag cg f ∧ (0 < f.length → Wr wr gf f.length)) (fun i _ => f.length - (intOf i).toNat)
    case atStart => exact ⟨0, by omega, rfl, HBX.out, HG2.out, HW2.out⟩
    case round =>
      obtain ⟨k, hk, rfl, hb, hsg, hwf⟩ := hrel
      clear HBX HG2 HW2
      have HBX := Lib.hid hb; have HG2 := Lib.hid hsg; have HW2 := Lib.hid hwf; clear hb hsg hwf
      by_cases hlt : k < f.length
      · have hltz : (k : Int) < (f.length : Int) := by omega
        obtain ⟨hAf, hge, hw1⟩ := HGF.out (by omega)
        have hwr := HW2.out (by omega)
        subst hAf
        obtain ⟨x, hx⟩ := hwr.cell hlt
        have hfr := hwr.free (k * 5 + 1)
        have hgl := hwr.lt
        have hg1 := hw1.lt
        have HSTEP := Lib.hid (show Below wa.heap.size wa (wr.setCell ⟨gf, k * 5 + 1, none⟩ (.int .i64 (-9))) ∧ Slc (wr.setCell ⟨gf, k * 5 + 1, none⟩ (.int .i64 (-9))) Ag cg f ∧ Wr (wr.setCell ⟨gf, k * 5 + 1, none⟩ (.int .i64 (-9))) gf f.length from
          ⟨HBX.out.setCell hge _, Slc.far HG2.out (fun ad h => by have := HAG.out ad h; omega), hwr.put _ _⟩)
        clear hwr hge hw1
        go_wp2_with fail
        go_roundw
        case rel => exact ⟨k + 1, by omega, by simp, by first | exact HSTEP.out.1 | simpa using HSTEP.out.1, by first | exact HSTEP.out.2.1 | simpa using HSTEP.out.2.1, fun _ => by first | exact HSTEP.out.2.2 | simpa using HSTEP.out.2.2⟩
        case measure => simp only [intOf]; omega
      · have hk' : k = f.length := by omega
        subst hk'
        go_wp2_with fail
        refine (refSameW HMa.out HLa.out (by have := LN.out; omega) (by have := LN.out; omega) (decide_eq_true rfl) _ HBX.out).mono ?_; rintro e v6 ⟨rfl, hb6⟩
        have HB6 := Lib.hid (HBX.out.trans (hb6.mono HBX.out.size)); have HG6 := Lib.hid (HG2.out.below hb6); clear hb6
        have HBF := Lib.hid (HBA.out.trans (HB6.out.mono HBA.out.size))
        by_cases he : er = 0
        · subst he
          have hfr : Fr f := by
            have h1 := Ef.out.2
            have hE : Even l := of_decide_eq_true (err_zero.1 h1)
            rw [← Ef.out.1, decide_eq_true hE]
            exact ofS_fr hE
          have HR6 := Lib.hid (rightW HG6.out (by have := Lf.out; omega) (decide_eq_true hfr)); clear hfr
          go_wp2_with fail
          refine (HR6.out _ (Below.refl _ _)).mono ?_; rintro e v7 ⟨rfl, hb7⟩
          have HB7 := Lib.hid (HBF.out.trans (hb7.mono HBF.out.size)); clear hb7
          go_wp2_with fail
          refine (WW.out _).mono ?_; rintro e we ⟨rfl, hbe⟩
          go_wp2_with fail
          go_ret
          exact ⟨rfl, HB7.out.trans (hbe.mono HB7.out.size)⟩
        · have he1 : (er != 0) = true := by simpa using he
          have he2 : (er == 0) = false := by simpa using he
          go_wp2_with fail
          refine (WW.out _).mono ?_; rintro e we ⟨rfl, hbe⟩
          go_wp2_with fail
          go_ret
          exact ⟨rfl, HBF.out.trans (hbe.mono HBF.out.size)⟩

end antichainOf
end Go.Proofs.Ytkbabmifdfmhlaa
