/- SummaryLeast: the program's Least of at most 30 summaries is the document's; its row is its own; the row that is given stays. -/
import Derived.Test.YtdpadkellpkppaaNxLeast
import Derived.Test.YtdpadkellpkppaaMxOpen
import Derived.Test.YtdpadkellpkppaaSmWorks
import Derived.Test.YtdpadkellpkppaaStFrame
import Derived.Test.YtdpadkellpkppaaLaw
namespace Go.Proofs.Ytdpadkellpkppaa
open Go.Shelf Go.ChangeShapes Go.WideShapes Go.ChangeAt Go.RowKit Go.BigFrame
set_option linter.unusedVariables false
set_option maxRecDepth 100000
open Mx (Ts open_sums least_any rowS rowS_at)
open Nx (rows_any same_any refLeast_any)
namespace summaryLeast
theorem insW_len (t : Sm) : ∀ l : List Sm, (insW t l).length = l.length + 1
  | [] => rfl
  | y :: r => by
    unfold insW
    split
    · rw [List.length_cons, insW_len t r, List.length_cons]
    · rfl
theorem waysIn_len (l : List Sm) : ∀ m : List Sm, (waysIn l m).length ≤ m.length
  | [] => by simp [waysIn]
  | t :: r => by
    have := waysIn_len l r
    unfold waysIn
    split
    · rw [insW_len, List.length_cons]; omega
    · rw [List.length_cons]; omega
/-- a row of summaries of the call's own, that is written to -/
structure Wr (w : World) (g n : Nat) : Prop where
  row : ∃ L, Row w g 24 L ∧ ∀ j, j < n → ∃ x : Int, L[j * 7]? = some (.int .i64 x)
section
variable {w w' : World} {g n b k : Nat}
theorem Wr.cell (h : Wr w g n) (hk : k < n) : ∃ x : Int, w.cell? ⟨g, k * 7, none⟩ = some (.int .i64 x) := by
  obtain ⟨L, hr, hc⟩ := h.row
  obtain ⟨x, hx⟩ := hc k hk
  exact ⟨x, by rw [hr.cell]; exact hx⟩
theorem Wr.free (h : Wr w g n) (i : Nat) : w.frozen? ⟨g, i, none⟩ = false := by
  obtain ⟨L, hr, _⟩ := h.row
  exact hr.free i
theorem Wr.lt (h : Wr w g n) : g < w.heap.size := by
  obtain ⟨L, hr, _⟩ := h.row
  exact hr.lt
theorem Wr.put (h : Wr w g n) (k : Nat) (x : Int) : Wr (w.setCell ⟨g, k, none⟩ (.int .i64 x)) g n := by
  obtain ⟨L, hr, hc⟩ := h.row
  refine ⟨L.set k (.int .i64 x), hr.put k _, fun j hj => ?_⟩
  obtain ⟨y, hy⟩ := hc j hj
  by_cases e : k = j * 7
  · exact ⟨x, by rw [e, List.getElem?_set_self (List.getElem?_eq_some_iff.1 hy).1]⟩
  · exact ⟨y, by rw [List.getElem?_set_ne e]; exact hy⟩
theorem Wr.below (h : Wr w g n) (hb : Below w.heap.size w w') : Wr w' g n := by
  obtain ⟨L, hr, hc⟩ := h.row
  exact ⟨L, hr.below hb hr.lt, hc⟩
theorem own_wr0 {base : Nat} {A : Option Addr} {c : Nat} {ts : List Sm} (h : ∀ hn : 0 < ts.length, ∃ g cap, Value.slice A ts.length c = .slice (some ⟨g, 0, none⟩) ts.length cap ∧ base ≤ g ∧ Wr w g ts.length) : ∃ g, 0 < ts.length → A = some ⟨g, 0, none⟩ ∧ base ≤ g ∧ Wr w g ts.length := by
  by_cases hn : 0 < ts.length
  · obtain ⟨g, cap, e, h1, h2⟩ := h hn
    injection e with e1 e2 e3
    exact ⟨g, fun _ => ⟨e1, h1, h2⟩⟩
  · exact ⟨0, fun h => absurd h hn⟩
theorem own_wr {base : Nat} {v : Value} {ts : List Sm} (h : w.ownsRow base 24 7 v ts.length (rowS ts)) (hn : 0 < ts.length) : ∃ g cap, v = .slice (some ⟨g, 0, none⟩) ts.length cap ∧ base ≤ g ∧ Wr w g ts.length := by
  obtain ⟨hlen, ⟨_, h0⟩ | ⟨g, cap, cur, rfl, hg, hh, _, _, _, ht⟩⟩ := h
  · omega
  · refine ⟨g, cap, rfl, hg, ⟨cur.toList, ?_, fun j hj => ?_⟩⟩
    · unfold Row
      rw [hh]
    · obtain ⟨t, htj⟩ : ∃ t, ts[j]? = some t := ⟨_, List.getElem?_eq_getElem hj⟩
      refine ⟨t.fr, ?_⟩
      have h1 := rowS_at ts j t htj 0 (.int .i64 t.fr) rfl
      rw [← ht, List.getElem?_take] at h1
      split at h1
      · exact h1
      · cases h1
end
set_option maxHeartbeats 8000000 in
theorem walk (A : Option Addr) (l : List Sm) (c : Nat) (w : World) (hT : Ts w A l) : Calls Try.prog 5 #[.slice A l.length c] w fun e w' => e = .returned (.bool true) ∧ Below w.heap.size w w' := by
  have cw := fun w => works_any w
  have CW := Lib.hid cw; clear cw
  by_cases h30 : (30 : Int) < (l.length : Int)
  · clear hT
    go_enter Try.func5, Try.ntmps5
    go_wp2_with fail
    refine (CW.out _).mono ?_; rintro e w1 ⟨rfl, hb⟩
    have HB := Lib.hid hb; clear hb
    dsimp only
    go_wp2_with fail
    go_ret
    exact ⟨rfl, HB.out⟩
  · have cl := rows_any A l c w hT (by omega)
    have hml : (waysS l).length ≤ 30 := Nat.le_trans (waysIn_len l l) (by omega)
    have HT := Lib.hid hT; have CL := Lib.hid cl; clear hT cl
    have HML := Lib.hid hml; clear hml
    go_enter Try.func5, Try.ntmps5
    go_wp2_with fail
    refine (CL.out).mono ?_; rintro e w1 ⟨⟨v, rfl, hr⟩, hb1⟩
    obtain ⟨B, c1, rfl, hTB, _, _, _⟩ := Nx.own_slice hr
    have HL := Lib.hid (HT.out.below hb1); have HW := Lib.hid hTB; have HB1 := Lib.hid hb1
    clear hr hb1 hTB CL HT
    have cl := least_any A l c w1 HL.out (by omega)
    have CL := Lib.hid cl; clear cl
    dsimp only
    go_wp2_with fail
    refine (CL.out).mono ?_; rintro e w2 ⟨⟨v, rfl, hr⟩, hb2⟩
    have hge := fun hn => own_wr hr hn
    obtain ⟨G, cg, rfl, hTG, _, _⟩ := Mx.Times.of_own hr
    obtain ⟨g, hgf⟩ := own_wr0 hge
    have HG := Lib.hid (Mx.Ts.of hTG); have HWR := Lib.hid hgf; have HB2 := Lib.hid hb2
    clear hr hge hTG hgf hb2 CL
    have cl := rows_any G (waysS l) cg w2 HG.out (by have := HML.out; omega)
    have CL := Lib.hid cl; clear cl
    dsimp only
    go_wp2_with fail
    refine (CL.out).mono ?_; rintro e w3 ⟨⟨v, rfl, hr⟩, hb3⟩
    obtain ⟨B2, c2, rfl, hTB, _, _, _⟩ := Nx.own_slice hr
    have hb13 := HB2.out.trans (hb3.mono HB2.out.size)
    have cl := refLeast_any B l c1 w3 (HW.out.below hb13) (by omega)
    have HM := Lib.hid hTB; have HB13 := Lib.hid hb13; have HW3 := Lib.hid (fun hn => (HWR.out hn).2.2.below hb3); have CL2 := Lib.hid cl
    clear hr hb3 hTB hb13 cl CL
    dsimp only
    go_wp2_with fail
    refine (CL2.out).mono ?_; rintro e w4 ⟨⟨A4, c4, rfl, hs4⟩, hb4⟩
    have hb14 := HB13.out.trans (hb4.mono HB13.out.size)
    have cl := same_any B2 A4 (waysS l) (waysS l) c2 c4 w4 (HM.out.below hb4) hs4.ts (by have := HML.out; omega) (by have := HML.out; omega)
    rw [decide_eq_true rfl] at cl
    have HW4 := Lib.hid (fun hn => (HW3.out hn).below hb4); have HB14 := Lib.hid hb14; have CL := Lib.hid cl
    clear hs4 hb4 hb14 cl CL2
    dsimp only
    go_wp2_with fail
    refine (CL.out).mono ?_; rintro e w5 ⟨rfl, hb5⟩
    have HB15 := Lib.hid (HB14.out.trans (hb5.mono HB14.out.size)); have HW5 := Lib.hid (fun hn => (HW4.out hn).below hb5)
    clear hb5 CL
    dsimp only
    generalize hm : waysS l = m at *
    have h30' := HML.out
    go_wp2_with fail
    go_loopw [5] (fun i wr => ∃ k : Nat, k ≤ m.length ∧ i = .int .i64 k ∧ Below w1.heap.size w1 wr ∧ (0 < m.length → Wr wr g m.length)) (fun i _ => m.length - (intOf i).toNat)
    case atStart => exact ⟨0, by omega, rfl, HB15.out, HW5.out⟩
    case round =>
      obtain ⟨k, hk, rfl, hb, hwf⟩ := hrel
      have HBX := Lib.hid hb; have HW2 := Lib.hid hwf; clear hb hwf
      by_cases hlt : k < m.length
      · have hltz : (k : Int) < (m.length : Int) := by omega
        obtain ⟨hAf, hge, hw1⟩ := HWR.out (by omega)
        have hwr := HW2.out (by omega)
        subst hAf
        obtain ⟨x, hx⟩ := hwr.cell hlt
        have hfr := hwr.free (k * 7)
        have hgl := hwr.lt
        have HSTEP := Lib.hid (show Below w1.heap.size w1 (wr.setCell ⟨g, k * 7, none⟩ (.int .i64 (-9))) ∧ Wr (wr.setCell ⟨g, k * 7, none⟩ (.int .i64 (-9))) g m.length from
          ⟨HBX.out.setCell hge _, hwr.put _ _⟩)
        clear hwr hge hw1
        go_wp2_with fail
        go_roundw
        case rel => exact ⟨k + 1, by omega, by simp, by first | exact HSTEP.out.1 | simpa using HSTEP.out.1, fun _ => by first | exact HSTEP.out.2 | simpa using HSTEP.out.2⟩
        case measure => simp only [intOf]; omega
      · have hkz : ¬ (k : Int) < (m.length : Int) := by omega
        have cl := rows_any A l c wr (HL.out.below HBX.out) (by omega)
        have CL := Lib.hid cl; clear cl hlt hk
        go_wp2_with fail
        refine (CL.out).mono ?_; rintro e w6 ⟨⟨v, rfl, hr⟩, hb6⟩
        obtain ⟨B6, c6, rfl, hT6, _, _, _⟩ := Nx.own_slice hr
        have hb16 := HBX.out.trans (hb6.mono HBX.out.size)
        have cl := same_any B6 B l l c6 c1 w6 hT6 (HW.out.below hb16) (by omega) (by omega)
        rw [decide_eq_true rfl] at cl
        have HB16 := Lib.hid hb16; have CL2 := Lib.hid cl
        clear hr hb6 hT6 hb16 cl CL
        dsimp only
        go_wp2_with fail
        refine (CL2.out).mono ?_; rintro e w7 ⟨rfl, hb7⟩
        have HB17 := Lib.hid (HB16.out.trans (hb7.mono HB16.out.size)); clear hb7 CL2
        dsimp only
        go_wp2_with fail
        refine (CW.out _).mono ?_; rintro e w8 ⟨rfl, hb8⟩
        have HB18 := Lib.hid (HB1.out.trans ((HB17.out.trans (hb8.mono HB17.out.size)).mono HB1.out.size)); clear hb8
        dsimp only
        go_wp2_with fail
        go_ret
        exact ⟨rfl, HB18.out⟩
end summaryLeast
end Go.Proofs.Ytdpadkellpkppaa
