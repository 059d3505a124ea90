/- FlowKnown: the other laws at the kit's graphs, with one thing another one each, and at their bytes. -/
import Derived.Test.YtmjbclinlojboaaGrKits
import Derived.Test.YtmjbclinlojboaaGrStored
import Derived.Test.YtmjbclinlojboaaGrLawPut
import Derived.Test.YtmjbclinlojboaaGrLawGet
import Derived.Test.YtmjbclinlojboaaGrLawBack
import Derived.Test.YtmjbclinlojboaaGrLawSame
import Derived.Test.YtmjbclinlojboaaGrLawTo
import Derived.Test.YtmjbclinlojboaaGrZeros
import Derived.Deep.CutBlock
namespace Go.Proofs.Ytmjbclinlojboaa
open Go.ChangeShapes Go.WideShapes Go.ChangeAt Go.RowKit Go.BigFrame
set_option linter.unusedVariables false
set_option maxRecDepth 100000
namespace flowKnown
/-- five graphs in a row at gb -/
def GsAt (wz : World) (gb : Nat) : Prop := gb < wz.heap.size ∧ ∀ k, k < 5 → ∃ (A : Option Addr) (l : List Gn) (c : Nat), wz.cell? ⟨gb, k, none⟩ = some (.slice A l.length c) ∧ Gr wz A l ∧ l.length ≤ c ∧ c ≤ 10 ∧ ∀ x ∈ l, x.nd.ins.length ≤ 2
def zeroG : Gn := ⟨⟨0, 0, 0, 0, []⟩, none, 0⟩
def gsO (A1 A2 A3 : Option Addr) (n1 n2 n3 c1 c2 c3 B : Nat) : List Obj := [.cells (Rw.row kindG []).toArray 48, .cells (Rw.row kindG [zeroG]).toArray 48, .cells [.slice A1 n1 c1, .slice A2 n2 c2, .slice A3 n3 c3, .slice (some ⟨B, 0, none⟩) 0 0, .slice (some ⟨B + 1, 0, none⟩) 1 1].toArray 23]
theorem gs_made {w3 : World} {A1 A2 A3 : Option Addr} {l1 l2 l3 : List Gn} {c1 c2 c3 : Nat} (h1 : Gr w3 A1 l1 ∧ l1.length ≤ c1 ∧ c1 ≤ 10 ∧ ∀ x ∈ l1, x.nd.ins.length ≤ 2) (h2 : Gr w3 A2 l2 ∧ l2.length ≤ c2 ∧ c2 ≤ 10 ∧ ∀ x ∈ l2, x.nd.ins.length ≤ 2) (h3 : Gr w3 A3 l3 ∧ l3.length ≤ c3 ∧ c3 ≤ 10 ∧ ∀ x ∈ l3, x.nd.ins.length ≤ 2) :
    GsAt ((gsO A1 A2 A3 l1.length l2.length l3.length c1 c2 c3 w3.heap.size).foldl World.alloc w3) (w3.heap.size + 2) := by
  have hb := allocs_below (gsO A1 A2 A3 l1.length l2.length l3.length c1 c2 c3 w3.heap.size) (Below.refl w3.heap.size w3) (Nat.le_refl _)
  have hr : Row ((gsO A1 A2 A3 l1.length l2.length l3.length c1 c2 c3 w3.heap.size).foldl World.alloc w3) (w3.heap.size + 2) 23 [.slice A1 l1.length c1, .slice A2 l2.length c2, .slice A3 l3.length c3, .slice (some ⟨w3.heap.size, 0, none⟩) 0 0, .slice (some ⟨w3.heap.size + 1, 0, none⟩) 1 1] :=
    allocs_at (gsO A1 A2 A3 l1.length l2.length l3.length c1 c2 c3 w3.heap.size) w3 (k := 2) rfl
  have hz : Rw.Ts kindG ((gsO A1 A2 A3 l1.length l2.length l3.length c1 c2 c3 w3.heap.size).foldl World.alloc w3) (some ⟨w3.heap.size + 1, 0, none⟩) [zeroG] := allocs_nodes (gsO A1 A2 A3 l1.length l2.length l3.length c1 c2 c3 w3.heap.size) w3 [zeroG] rfl
  refine ⟨hr.lt, fun k hk => ?_⟩
  rcases (show k = 0 ∨ k = 1 ∨ k = 2 ∨ k = 3 ∨ k = 4 by omega) with rfl | rfl | rfl | rfl | rfl
  · exact ⟨A1, l1, c1, hr.cell 0, h1.1.below hb, h1.2⟩
  · exact ⟨A2, l2, c2, hr.cell 1, h2.1.below hb, h2.2⟩
  · exact ⟨A3, l3, c3, hr.cell 2, h3.1.below hb, h3.2⟩
  · exact ⟨_, [], 0, hr.cell 3, Gr.nil, Nat.le_refl _, by omega, fun x hx => by cases hx⟩
  · exact ⟨_, [zeroG], 1, hr.cell 4, ⟨hz, fun x hx => by
      obtain rfl : x = zeroG := by simpa using hx
      exact ⟨ok_small _ _ _ _ _ _ _ (by decide) (by simp), Rw.Ts.nil⟩⟩, Nat.le_refl _, by omega, fun x hx => by
      obtain rfl : x = zeroG := by simpa using hx
      decide⟩
/-- within the switch: the node's box at gx, the graph of the call's own at g -/
structure SwS (wz wx : World) (base g gx cap : Nat) (l' : List Gn) (x' : Gn) : Prop where
  row : Row wx gx 48 (kindG.cells x')
  ok : x'.Ok
  ts : Rw.Ts kindI wx x'.A x'.nd.ins
  far : ∀ ad, x'.A = some ad → ad.block ≠ g ∧ ad.block ≠ gx
  own : OwnG wx base (.slice (some ⟨g, 0, none⟩) l'.length cap) l'
  below : Below wz.heap.size wz wx
  hg : g < gx ∧ wz.heap.size ≤ g
section
variable {wz wx : World} {base g gx cap : Nat} {l' : List Gn} {x' : Gn}
theorem SwS.own_set (h : SwS wz wx base g gx cap l' x') (j : Nat) (u : Value) : OwnG (wx.setCell ⟨gx, j, none⟩ u) base (.slice (some ⟨g, 0, none⟩) l'.length cap) l' where
  row := h.own.row.kept (grown_set _ _ _ _) (.inr fun e => by
    have h1 := h.hg.1
    have : g = gx := by injection e
    omega)
  ok := h.own.ok
  ins := fun y hy => (h.own.ins y hy).kept (grown_set _ _ _ _) (.inr fun e => Rw.own_apart (h.own.ins y hy) h.row (by decide) e.symm)
theorem SwS.set (h : SwS wz wx base g gx cap l' x') (j : Nat) (u : Value) (y : Gn) (hc : kindG.cells y = (kindG.cells x').set j u) (hA : y.A = x'.A) (hi : y.nd.ins = x'.nd.ins) (hok : y.Ok) : SwS wz (wx.setCell ⟨gx, j, none⟩ u) base g gx cap l' y where
  row := by rw [hc]; exact h.row.put j u
  ok := hok
  ts := by rw [hA, hi]; exact Ts.far h.ts (fun ad e => (h.far ad e).2) j u
  far := fun ad e => h.far ad (by rw [← hA]; exact e)
  own := h.own_set j u
  below := h.below.setCell (by have := h.hg; show wz.heap.size ≤ gx; omega) u
  hg := h.hg
theorem SwS.lit (h : SwS wz wx base g gx cap l' x') (zs : List Int) (y : Gn) (hc : kindG.cells y = (kindG.cells x').set 4 (.slice (some ⟨wx.heap.size, 0, none⟩) zs.length zs.length)) (hA : y.A = some ⟨wx.heap.size, 0, none⟩) (hi : y.nd.ins = zs) (hok : y.Ok) :
    SwS wz ((wx.setCell ⟨gx, 4, none⟩ (.slice (some ⟨wx.heap.size, 0, none⟩) zs.length zs.length)).alloc (.cells (Rw.row kindI zs).toArray 3)) base g gx cap l' y where
  row := by rw [hc]; exact (h.row.put 4 _).alloc _
  ok := hok
  ts := by
    rw [hA, hi]
    have h1 := Rw.Ts.made (κ := kindI) (wx.setCell ⟨gx, 4, none⟩ (.slice (some ⟨wx.heap.size, 0, none⟩) zs.length zs.length)) zs 3
    rwa [show (wx.setCell ⟨gx, 4, none⟩ (.slice (some ⟨wx.heap.size, 0, none⟩) zs.length zs.length)).heap.size = wx.heap.size by simp [World.setCell]] at h1
  far := fun ad e => by
    rw [hA] at e
    have h1 := h.row.lt
    have h2 := (h.own.row.lt g rfl).2
    cases e
    exact ⟨by show wx.heap.size ≠ g; omega, by show wx.heap.size ≠ gx; omega⟩
  own := (h.own_set 4 _).alloc _
  below := (h.below.setCell (by have := h.hg; show wz.heap.size ≤ gx; omega) _).alloc (by have := h.below.size; simpa [World.setCell] using this) _
  hg := h.hg
end
theorem bytes_none (w : World) : Bytes w none [] := ⟨by simp, fun h => absurd h (by simp)⟩
set_option maxHeartbeats 32000000 in
theorem walk (w : World) : Calls Try.prog 10 #[] w fun e w' => e = .returned (.bool true) ∧ Below w.heap.size w w' := by
  go_enter Try.func10, Try.ntmps10
  go_wp2_with fail
  refine (race_any w).mono ?_; rintro e w1 ⟨⟨A1, l1, c1, rfl, hG1, hl1, hc1, hi1⟩, hb1⟩
  have HG1 := Lib.hid hG1; have HB1 := Lib.hid hb1; have HC1 := Lib.hid (And.intro hl1 (And.intro hc1 hi1)); clear hG1 hb1 hl1 hc1 hi1
  dsimp only
  go_wp2_with fail
  refine (meeting_any w1).mono ?_; rintro e w2 ⟨⟨A2, l2, c2, rfl, hG2, hl2, hc2, hi2⟩, hb2⟩
  have HG2 := Lib.hid hG2; have HB2 := Lib.hid hb2; have HC2 := Lib.hid (And.intro hl2 (And.intro hc2 hi2)); clear hG2 hb2 hl2 hc2 hi2
  dsimp only
  go_wp2_with fail
  refine (straight_any w2).mono ?_; rintro e w3 ⟨⟨A3, l3, c3, rfl, hG3, hl3, hc3, hi3⟩, hb3⟩
  have HG3 := Lib.hid hG3; have HB3 := Lib.hid hb3; have HC3 := Lib.hid (And.intro hl3 (And.intro hc3 hi3)); clear hG3 hb3 hl3 hc3 hi3
  dsimp only
  go_wp2_with fail
  have hgs := gs_made ⟨(HG1.out.below HB2.out).below HB3.out, HC1.out⟩ ⟨HG2.out.below HB3.out, HC2.out⟩ ⟨HG3.out, HC3.out⟩
  have hbz := allocs_below (gsO A1 A2 A3 l1.length l2.length l3.length c1 c2 c3 w3.heap.size) (((HB1.out.trans (HB2.out.mono HB1.out.size)).trans (HB3.out.mono (Nat.le_trans HB1.out.size HB2.out.size)))) (Nat.le_trans (Nat.le_trans HB1.out.size HB2.out.size) HB3.out.size)
  change Code.wp _ _ _ _ ((gsO A1 A2 A3 l1.length l2.length l3.length c1 c2 c3 w3.heap.size).foldl World.alloc w3)
  generalize (gsO A1 A2 A3 l1.length l2.length l3.length c1 c2 c3 w3.heap.size).foldl World.alloc w3 = wz at *
  rw [show w3.heap.size + 1 + 1 = w3.heap.size + 2 by omega]
  generalize w3.heap.size + 2 = gb at *
  have HGS := Lib.hid hgs; have HBZ := Lib.hid hbz; clear hgs hbz HG1 HB1 HC1 HG2 HB2 HC2 HG3 HB3 HC3
  go_loopw [21] (fun i wr => ∃ k : Nat, k ≤ 5 ∧ i = .int .i64 k ∧ Below wz.heap.size wz wr) (fun i _ => 5 - (intOf i).toNat)
  case atStart => exact ⟨0, by omega, rfl, Below.refl _ _⟩
  case round =>
    obtain ⟨wa, rfl⟩ : ∃ wa, wa = wr := ⟨_, rfl⟩
    obtain ⟨k, hk, rfl, hb⟩ := hrel
    have HB := Lib.hid hb; clear hb
    by_cases hk5 : k < 5
    · have hk5z : (k : Int) < 5 := by omega
      obtain ⟨A, l, c, hcell, hG, hlc, hc10, hins⟩ := HGS.out.2 k hk5
      have c0 : wa.cell? ⟨gb, k, none⟩ = some (.slice A l.length c) := (HB.out.cell (p := ⟨gb, k, none⟩) HGS.out.1).trans hcell
      have HG := Lib.hid hG; have HI := Lib.hid hins; have HLC := Lib.hid hlc; clear hcell hG hins hlc
      have hml : l.length ≤ maxLen := by have := HLC.out; unfold maxLen; omega
      have HC := Lib.hid (refPut_any A l c wa (HG.out.below HB.out) hml)
      have HML := Lib.hid hml; have hl10 : l.length ≤ 10 := by { have := HLC.out; omega }
      clear hml
      go_wp2_with fail
      refine HC.out.mono ?_; rintro e w4 ⟨⟨v, rfl, hv⟩, hb4⟩
      obtain ⟨P, pc, rfl, hP, hpc, hpm, _, _⟩ := own_bytes hv (putO_lt (gr_W HG.out))
      have hx500 := putO_len (g := nds l)
      have hx256 := putO_lt (gr_W HG.out)
      generalize putO (nds l) = xs at *
      have HB4 := Lib.hid (HB.out.trans (hb4.mono HB.out.size)); have HP := Lib.hid hP; have HPC := Lib.hid (And.intro hpc hpm); have HX := Lib.hid hx256; clear HC c0 hv hb4 hP hpc hpm hx256
      dsimp only
      go_wp2_with fail
      go_loopw [5] (fun i wr => ∃ q : Nat, q ≤ xs.length ∧ i = .int .i64 q ∧ Below w4.heap.size w4 wr) (fun i _ => xs.length - (intOf i).toNat)
      case atStart => exact ⟨0, by omega, rfl, Below.refl _ _⟩
      case round =>
        obtain ⟨wb, rfl⟩ : ∃ wb, wb = wr := ⟨_, rfl⟩
        obtain ⟨q, hq, rfl, hb⟩ := hrel
        have HBB := Lib.hid hb; clear hb
        by_cases hql : q < xs.length
        · have hqz : (q : Int) < (xs.length : Int) := by omega
          go_wp2_with fail
          have hts := Rw.Ts.made (κ := kindB) wb [0, 1, 2, 3, 4, 31, 32, 33, 255] 5
          have hb5 := HBB.out.alloc HBB.out.size (.cells (Rw.row kindB [0, 1, 2, 3, 4, 31, 32, 33, 255]).toArray 5)
          change Code.wp _ _ _ _ (wb.alloc (.cells (Rw.row kindB [0, 1, 2, 3, 4, 31, 32, 33, 255]).toArray 5))
          generalize wb.alloc (.cells (Rw.row kindB [0, 1, 2, 3, 4, 31, 32, 33, 255]).toArray 5) = w5 at *
          generalize wb.heap.size = g9 at *
          have HTS := Lib.hid hts; have HB5 := Lib.hid hb5; clear hts hb5
          go_loopw [38] (fun i wr => ∃ j : Nat, j ≤ 9 ∧ i = .int .i64 j ∧ Below w5.heap.size w5 wr) (fun i _ => 9 - (intOf i).toNat)
          case atStart => exact ⟨0, by omega, rfl, Below.refl _ _⟩
          case round =>
            obtain ⟨wc, rfl⟩ : ∃ wc, wc = wr := ⟨_, rfl⟩
            obtain ⟨j, hj, rfl, hb⟩ := hrel
            have HBC := Lib.hid hb; clear hb
            by_cases hj9 : j < 9
            · have hj9z : (j : Int) < 9 := by omega
              obtain ⟨y, hy⟩ : ∃ y, ([0, 1, 2, 3, 4, 31, 32, 33, 255] : List Nat)[j]? = some y := ⟨_, List.getElem?_eq_getElem (by simpa using hj9)⟩
              have hy256 : y < 256 := by
                have hm := List.mem_of_getElem? hy
                simp only [List.mem_cons, List.not_mem_nil, or_false] at hm
                omega
              obtain ⟨_, _, e, _, hqy⟩ := bytes_at HTS.out hy
              cases e
              have qy := hqy wc HBC.out
              rw [Nat.zero_add] at qy
              have hbc4 := HB5.out.trans (HBC.out.mono HB5.out.size)
              have hPc := HP.out.below hbc4
              have h1 := conv_bytes (P := Try.prog) (w := wc) Try.underlying27 Try.underlying5 Try.underlying9 hPc pc
              have hmx : xs.length ≤ maxLen := by unfold maxLen; omega
              have HBC4 := Lib.hid hbc4; have HMX := Lib.hid hmx; clear hy hqy hbc4 hPc hmx
              go_wp2_with (refine wpList_mine rfl (.tmp 43) rfl Try.underlying9 Try.underlying27 Try.underlying5 xs HX.out rfl HMX.out ?_; intro cx w6 hB6 hM6 hb6 hcx hcm hsz6; obtain ⟨y0, _, e0, f0⟩ := hM6.at_ hql; have HB6 := Lib.hid hB6; have HM6 := Lib.hid hM6; have Hb6 := Lib.hid hb6; have HCX := Lib.hid (And.intro hcx hcm); have HSZ6 := Lib.hid hsz6; clear h1 hB6 hM6 hb6 hcx hcm hsz6)
              have hW := MyB.bytes_set HB6.out HM6.out hql hy256
              have hbW : Below wc.heap.size wc (w6.setCell ⟨wc.heap.size, q, none⟩ (.int .u8 (y : Nat))) := Hb6.out.setCell (Nat.le_refl _) _
              generalize (w6.setCell ⟨wc.heap.size, q, none⟩ (.int .u8 (y : Nat))) = W6 at *
              have hcall := flowGet.walk _ (xs.set q y) cx W6 hW (by rw [List.length_set]; exact HMX.out)
              rw [List.length_set] at hcall
              have HCG := Lib.hid hcall; have HW := Lib.hid hW; have HBW := Lib.hid hbW; clear hcall hW hbW qy e0 f0
              refine HCG.out.mono ?_; rintro e w7 ⟨rfl, hb7⟩
              have hc7 := HBW.out.trans (hb7.mono HBW.out.size)
              have h47 := HBC4.out.trans (hc7.mono HBC4.out.size)
              have hz7 := HB4.out.trans (h47.mono HB4.out.size)
              have h57 := HBC.out.trans (hc7.mono HBC.out.size)
              have hcall := flowBack.walk A _ l c (xs.set q y) cx (q : Int) w7 (HG.out.below hz7) HML.out (HW.out.below hb7) (by rw [List.length_set]; exact HMX.out) (by rw [List.length_set]; exact HCX.out) (by omega)
              rw [List.length_set] at hcall
              have HCB := Lib.hid hcall; have H57 := Lib.hid h57; clear hcall hb7 hc7 h47 hz7 h57 HCG
              dsimp only
              by_cases hy3 : y < 3
              · have hy3z : (y : Int) < 3 := by omega
                go_wp2_with fail
                refine HCB.out.mono ?_; rintro e w8 ⟨rfl, hb8⟩
                have H58 := Lib.hid (H57.out.trans (hb8.mono H57.out.size)); clear hb8
                dsimp only
                go_wp2_with fail
                go_roundw
                case rel => exact ⟨j + 1, by omega, by simp, H58.out⟩
                case measure => simp only [intOf]; omega
              · have hy3z : ¬ (y : Int) < 3 := by omega
                go_wp2_with fail
                go_roundw
                case rel => exact ⟨j + 1, by omega, by simp, H57.out⟩
                case measure => simp only [intOf]; omega
            · have hj9z : ¬ (j : Int) < 9 := by omega
              have HE := Lib.hid (HB5.out.trans (HBC.out.mono HB5.out.size))
              go_wp2_with fail
              go_roundw
              case rel => exact ⟨q + 1, by omega, by simp, HE.out⟩
              case measure => simp only [intOf]; omega
        · have hqz : ¬ (q : Int) < (xs.length : Int) := by omega
          have HBE := Lib.hid (HB4.out.trans (HBB.out.mono HB4.out.size)); clear HBB HB4 HP HPC HX hx500 hq hql
          go_wp2_with fail
          go_loopw [9] (fun i wr => ∃ q : Nat, q ≤ l.length ∧ i = .int .i64 q ∧ Below wz.heap.size wz wr) (fun i _ => l.length - (intOf i).toNat)
          case atStart => exact ⟨0, by omega, rfl, HBE.out⟩
          case round =>
            obtain ⟨wd, rfl⟩ : ∃ wd, wd = wr := ⟨_, rfl⟩
            obtain ⟨n, hn, rfl, hb⟩ := hrel
            have HBD := Lib.hid hb; clear hb HBE
            by_cases hnl : n < l.length
            · have hnz : (n : Int) < (l.length : Int) := by omega
              go_wp2_with fail
              go_loopw [10] (fun i wr => ∃ j : Nat, j ≤ 10 ∧ i = .int .i64 j ∧ Below wz.heap.size wz wr) (fun i _ => 10 - (intOf i).toNat)
              case atStart => exact ⟨0, by omega, rfl, HBD.out⟩
              case round =>
                obtain ⟨we, rfl⟩ : ∃ we, we = wr := ⟨_, rfl⟩
                obtain ⟨j, hj, rfl, hb⟩ := hrel
                have HBF := Lib.hid hb; clear hb HBD
                by_cases hj10 : j < 10
                · have hj10z : (j : Int) < 10 := by omega
                  have HC := Lib.hid (own_any A l c we (HG.out.below HBF.out) (by have := HLC.out; omega) (fun x hx => by have := HI.out x hx; omega))
                  go_wp2_with fail
                  refine HC.out.mono ?_; rintro e wf ⟨⟨v, l', rfl, hnd, hown⟩, hbf⟩
                  have hll : l'.length = l.length := by have := congrArg List.length hnd; rwa [nds_len, nds_len] at this
                  obtain ⟨g, cap, rfl, hgg⟩ : ∃ g cap, v = .slice (some ⟨g, 0, none⟩) l'.length cap ∧ l'.length ≤ cap ∧ cap ≤ maxLen := by
                    rcases hown.row.2 with ⟨_, h0⟩ | ⟨g, cap, cur, e, _, _, h1, h2, _⟩
                    · omega
                    · exact ⟨g, cap, e, h1, h2⟩
                  have hnl' : n < l'.length := by omega
                  have hnz' : (n : Int) < (l'.length : Int) := by omega
                  obtain ⟨x, hx⟩ : ∃ x, l'[n]? = some x := ⟨_, List.getElem?_eq_getElem hnl'⟩
                  have hxo := hown.ok x (List.mem_of_getElem? hx)
                  have hxi := hown.ins x (List.mem_of_getElem? hx)
                  have hcell : ∀ (i : Nat) (u : Value), (kindG.cells x)[i]? = some u → wf.cell? ⟨g, n * 5 + i, none⟩ = some u := fun i u hu => by
                    have h := hown.row.cells (g := g) rfl (n * 5 + i) u (Rw.row_at (κ := kindG) l' n x hx i u hu)
                    rwa [add_zero_off] at h
                  obtain ⟨⟨xk, xa, xb, xd, xi⟩, xA, xc⟩ := x
                  have c0 := hcell 0 _ rfl
                  have c1 := hcell 1 _ rfl
                  have c2 := hcell 2 _ rfl
                  have c3 := hcell 3 _ rfl
                  have c4 := hcell 4 _ rfl
                  rw [Nat.add_zero] at c0
                  simp only at c0 c1 c2 c3 c4
                  have hgw := (hown.row.lt g rfl).2
                  have hge := (hown.row.lt g rfl).1
                  have HOW := Lib.hid hown; have HBG := Lib.hid (HBF.out.trans (hbf.mono HBF.out.size)); have HLL := Lib.hid hll; have HXO := Lib.hid hxo; have HXI := Lib.hid hxi; have HGG := Lib.hid hgg
                  clear hnd hown hbf hll hx hxo hxi hcell hgg HC
                  dsimp only
                  have hsw : SwS wz (wf.alloc (.cells #[.int .u8 (xk : Nat), .int .u8 (xa : Nat), .int .i64 xb, .int .i64 xd, .slice xA xi.length xc] 48)) we.heap.size g wf.heap.size cap l' ⟨⟨xk, xa, xb, xd, xi⟩, xA, xc⟩ :=
                    ⟨Row.made wf _ _, HXO.out, by
                      obtain ⟨A', c', e, ht, _⟩ := Rw.Ts.of_own HXI.out
                      cases e
                      exact ht.below ((Below.refl _ _).alloc (Nat.le_refl _) _), fun ad e => by
                      have ha := ints_apart HOW.out.row HXI.out
                      have hb := HXI.out.lt
                      simp only at ha hb
                      simp only at e
                      subst e
                      have h1 := (hb ad.block rfl).2
                      refine ⟨fun e2 => ?_, by omega⟩
                      rcases ha with ha | ha
                      · cases ha
                      · exact ha (by show some ad.block = some g; rw [e2]), HOW.out.alloc _, HBG.out.alloc HBG.out.size _, ⟨hgw, by have := HBF.out.size; omega⟩⟩
                  go_upto_region 24 with fail
                  generalize hwh : (wf.alloc (.cells #[.int .u8 (xk : Nat), .int .u8 (xa : Nat), .int .i64 xb, .int .i64 xd, .slice xA xi.length xc] 48)) = wh at *
                  generalize wf.heap.size = gx at *
                  have d0 : wh.cell? ⟨gx, 0, none⟩ = some (.int .u8 (xk : Nat)) := hsw.row.cell 0
                  have d1 : wh.cell? ⟨gx, 1, none⟩ = some (.int .u8 (xa : Nat)) := hsw.row.cell 1
                  have d2 : wh.cell? ⟨gx, 2, none⟩ = some (.int .i64 xb) := hsw.row.cell 2
                  have d3 : wh.cell? ⟨gx, 3, none⟩ = some (.int .i64 xd) := hsw.row.cell 3
                  have d4 : wh.cell? ⟨gx, 4, none⟩ = some (.slice xA xi.length xc) := hsw.row.cell 4
                  have f0 := hsw.row.free 0
                  have f1 := hsw.row.free 1
                  have f2 := hsw.row.free 2
                  have f3 := hsw.row.free 3
                  have f4 := hsw.row.free 4
                  have hgl := hsw.row.lt
                  have HSW := Lib.hid hsw; clear hsw hwh c0 c1 c2 c3 c4
                  go_upto_block 10 with fail
                  go_cut [] from 81 to 111 (fun wx => ∃ x', SwS wz wx we.heap.size g gx cap l' x')
                  case first =>
                    rcases (show j = 0 ∨ j = 1 ∨ j = 2 ∨ j = 3 ∨ j = 4 ∨ j = 5 ∨ j = 6 ∨ j = 7 ∨ j = 8 ∨ j = 9 by omega) with rfl | rfl | rfl | rfl | rfl | rfl | rfl | rfl | rfl | rfl
                    · go_wp2_with fail
                      go_meet
                      exact ⟨_, HSW.out.set 3 _ ⟨⟨xk, xa, xb, -1, xi⟩, xA, xc⟩ rfl rfl rfl ⟨HXO.out.k, HXO.out.a, HXO.out.b, (by show (-9223372036854775808 : Int) ≤ -1 ∧ (-1 : Int) ≤ 9223372036854775807; decide), HXO.out.ins, HXO.out.c, HXO.out.none⟩⟩
                    · go_wp2_with fail
                      go_meet
                      exact ⟨_, HSW.out.set 3 _ ⟨⟨xk, xa, xb, 4, xi⟩, xA, xc⟩ rfl rfl rfl ⟨HXO.out.k, HXO.out.a, HXO.out.b, (by show (-9223372036854775808 : Int) ≤ 4 ∧ (4 : Int) ≤ 9223372036854775807; decide), HXO.out.ins, HXO.out.c, HXO.out.none⟩⟩
                    · go_wp2_with fail
                      go_meet
                      exact ⟨_, HSW.out.lit [0, 0, 0] ⟨⟨xk, xa, xb, xd, [0, 0, 0]⟩, some ⟨wh.heap.size, 0, none⟩, 3⟩ rfl rfl rfl ⟨HXO.out.k, HXO.out.a, HXO.out.b, HXO.out.d, by simp, ⟨Nat.le_refl _, by show 3 ≤ maxLen; unfold maxLen; omega⟩, fun e => by cases e⟩⟩
                    · go_wp2_with fail
                      go_meet
                      exact ⟨_, HSW.out.lit [-1] ⟨⟨xk, xa, xb, xd, [-1]⟩, some ⟨wh.heap.size, 0, none⟩, 1⟩ rfl rfl rfl ⟨HXO.out.k, HXO.out.a, HXO.out.b, HXO.out.d, by simp, ⟨Nat.le_refl _, by show 1 ≤ maxLen; unfold maxLen; omega⟩, fun e => by cases e⟩⟩
                    · go_wp2_with fail
                      go_meet
                      exact ⟨_, HSW.out.lit [32] ⟨⟨xk, xa, xb, xd, [32]⟩, some ⟨wh.heap.size, 0, none⟩, 1⟩ rfl rfl rfl ⟨HXO.out.k, HXO.out.a, HXO.out.b, HXO.out.d, by simp, ⟨Nat.le_refl _, by show 1 ≤ maxLen; unfold maxLen; omega⟩, fun e => by cases e⟩⟩
                    · go_wp2_with fail
                      go_meet
                      exact ⟨_, HSW.out.lit [31, 0] ⟨⟨xk, xa, xb, xd, [31, 0]⟩, some ⟨wh.heap.size, 0, none⟩, 2⟩ rfl rfl rfl ⟨HXO.out.k, HXO.out.a, HXO.out.b, HXO.out.d, by simp, ⟨Nat.le_refl _, by show 2 ≤ maxLen; unfold maxLen; omega⟩, fun e => by cases e⟩⟩
                    · go_wp2_with fail
                      go_meet
                      exact ⟨_, HSW.out.set 2 _ ⟨⟨xk, xa, -9223372036854775808, xd, xi⟩, xA, xc⟩ rfl rfl rfl ⟨HXO.out.k, HXO.out.a, (by show (-9223372036854775808 : Int) ≤ -9223372036854775808 ∧ (-9223372036854775808 : Int) ≤ 9223372036854775807; decide), HXO.out.d, HXO.out.ins, HXO.out.c, HXO.out.none⟩⟩
                    · go_wp2_with fail
                      go_meet
                      exact ⟨_, HSW.out.set 0 _ ⟨⟨255, xa, xb, xd, xi⟩, xA, xc⟩ rfl rfl rfl ⟨(by show (255 : Nat) < 256; decide), HXO.out.a, HXO.out.b, HXO.out.d, HXO.out.ins, HXO.out.c, HXO.out.none⟩⟩
                    · go_wp2_with fail
                      go_meet
                      exact ⟨_, HSW.out.set 1 _ ⟨⟨xk, 255, xb, xd, xi⟩, xA, xc⟩ rfl rfl rfl ⟨HXO.out.k, (by show (255 : Nat) < 256; decide), HXO.out.b, HXO.out.d, HXO.out.ins, HXO.out.c, HXO.out.none⟩⟩
                    · go_wp2_with fail
                      go_meet
                      exact ⟨_, HSW.out⟩
                  case rest =>
                    obtain ⟨x', hsw⟩ := hcut
                    have hxo' := hsw.ok
                    have hst := hsw.own.stored hnl' hxo' hsw.ts (fun ad e => (hsw.far ad e).1)
                    have hgz : wz.heap.size ≤ g := hsw.hg.2
                    have hbW : Below wz.heap.size wz (((((wc.setCell ⟨g, n * 5, none⟩ (.int .u8 (x'.nd.k : Nat))).setCell ⟨g, n * 5 + 1, none⟩ (.int .u8 (x'.nd.a : Nat))).setCell ⟨g, n * 5 + 2, none⟩ (.int .i64 x'.nd.b)).setCell ⟨g, n * 5 + 3, none⟩ (.int .i64 x'.nd.d)).setCell ⟨g, n * 5 + 4, none⟩ (.slice x'.A x'.nd.ins.length x'.c)) :=
                      ((((hsw.below.setCell hgz _).setCell hgz _).setCell hgz _).setCell hgz _).setCell hgz _
                    have d0 : wc.cell? ⟨gx, 0, none⟩ = some (.int .u8 (x'.nd.k : Nat)) := hsw.row.cell 0
                    have d1 : wc.cell? ⟨gx, 1, none⟩ = some (.int .u8 (x'.nd.a : Nat)) := hsw.row.cell 1
                    have d2 : wc.cell? ⟨gx, 2, none⟩ = some (.int .i64 x'.nd.b) := hsw.row.cell 2
                    have d3 : wc.cell? ⟨gx, 3, none⟩ = some (.int .i64 x'.nd.d) := hsw.row.cell 3
                    have d4 : wc.cell? ⟨gx, 4, none⟩ = some (.slice x'.A x'.nd.ins.length x'.c) := hsw.row.cell 4
                    obtain ⟨x, hx⟩ : ∃ x, l'[n]? = some x := ⟨_, List.getElem?_eq_getElem hnl'⟩
                    have hcell : ∀ (i : Nat) (u : Value), (kindG.cells x)[i]? = some u → wc.cell? ⟨g, n * 5 + i, none⟩ = some u := fun i u hu => by
                      have h := hsw.own.row.cells (g := g) rfl (n * 5 + i) u (Rw.row_at (κ := kindG) l' n x hx i u hu)
                      rwa [add_zero_off] at h
                    have c0 := hcell 0 _ rfl
                    have c1 := hcell 1 _ rfl
                    have c2 := hcell 2 _ rfl
                    have c3 := hcell 3 _ rfl
                    have c4 := hcell 4 _ rfl
                    rw [Nat.add_zero] at c0
                    have e0 := hsw.own.row.frozenAt (n * 5)
                    have e1 := hsw.own.row.frozenAt (n * 5 + 1)
                    have e2 := hsw.own.row.frozenAt (n * 5 + 2)
                    have e3 := hsw.own.row.frozenAt (n * 5 + 3)
                    have e4 := hsw.own.row.frozenAt (n * 5 + 4)
                    have HST := Lib.hid hst; have HBW := Lib.hid hbW; clear hsw hxo' hst hbW hgz hcell hx HSW f0 f1 f2 f3 f4 hgl
                    obtain ⟨⟨yk, ya, yb, yd, yi⟩, yA, yc⟩ := x'
                    simp only at d0 d1 d2 d3 d4
                    go_wp2_with fail
                    have hst := HST.out; have hbW := HBW.out
                    clear HST HBW
                    generalize (((((wc.setCell ⟨g, n * 5, none⟩ (.int .u8 (yk : Nat))).setCell ⟨g, n * 5 + 1, none⟩ (.int .u8 (ya : Nat))).setCell ⟨g, n * 5 + 2, none⟩ (.int .i64 yb)).setCell ⟨g, n * 5 + 3, none⟩ (.int .i64 yd)).setCell ⟨g, n * 5 + 4, none⟩ (.slice yA yi.length yc)) = W7 at *
                    obtain ⟨L, hLg, hLl⟩ : ∃ L, Gr W7 (some ⟨g, 0, none⟩) L ∧ L.length = l'.length := ⟨_, hst, List.length_set⟩
                    have hLm : L.length ≤ maxLen := by rw [hLl, HLL.out]; exact HML.out
                    have HLG := Lib.hid hLg; have HLL2 := Lib.hid hLl; have HLM := Lib.hid hLm; have HW0 := Lib.hid (Below.refl W7.heap.size W7); have HBW := Lib.hid hbW
                    clear hst hbW hLg hLl hLm d0 d1 d2 d3 d4 c0 c1 c2 c3 c4 e0 e1 e2 e3 e4
                    have hcall := flowPut.walk _ L cap W7 HLG.out HLM.out
                    rw [HLL2.out] at hcall
                    have HC := Lib.hid hcall; clear hcall
                    refine HC.out.mono ?_; rintro e w8 ⟨rfl, hb7⟩
                    have hb8 := HW0.out.trans (hb7.mono HW0.out.size)
                    have HW1 := Lib.hid hb8; clear hb7 hb8 HC
                    dsimp only
                    have hcall := flowBack.walk _ none L cap [] 0 (j : Int) w8 (HLG.out.below HW1.out) HLM.out (bytes_none _) (Nat.zero_le _) ⟨Nat.le_refl _, Nat.zero_le _⟩ (by omega)
                    rw [HLL2.out] at hcall
                    have HC := Lib.hid hcall; clear hcall
                    go_wp2_with fail
                    refine HC.out.mono ?_; rintro e w9 ⟨rfl, hb7⟩
                    have hb8 := HW1.out.trans (hb7.mono HW1.out.size)
                    have HW2 := Lib.hid hb8; clear hb7 hb8 HC
                    dsimp only
                    have hcall := flowSame.walk A _ l L c cap w9 (HG.out.below (HBW.out.trans (HW2.out.mono HBW.out.size))) (HLG.out.below HW2.out) HML.out HLM.out
                    rw [HLL2.out] at hcall
                    have HC := Lib.hid hcall; clear hcall
                    go_wp2_with fail
                    refine HC.out.mono ?_; rintro e w10 ⟨rfl, hb7⟩
                    have hb8 := HW2.out.trans (hb7.mono HW2.out.size)
                    have HW3 := Lib.hid hb8; clear hb7 hb8 HC
                    dsimp only
                    have hcall := flowTo.walk _ L cap (j : Int) w10 (HLG.out.below HW3.out) HLM.out
                    rw [HLL2.out] at hcall
                    have HC := Lib.hid hcall; clear hcall
                    go_wp2_with fail
                    refine HC.out.mono ?_; rintro e w11 ⟨rfl, hb7⟩
                    have hb8 := HW3.out.trans (hb7.mono HW3.out.size)
                    have HW4 := Lib.hid hb8; clear hb7 hb8 HC
                    dsimp only
                    have hcall := flowTo.walk _ L cap ((n : Int) - 1) w11 (HLG.out.below HW4.out) HLM.out
                    rw [HLL2.out] at hcall
                    have HC := Lib.hid hcall; clear hcall
                    go_wp2_with fail
                    refine HC.out.mono ?_; rintro e w12 ⟨rfl, hb7⟩
                    have hb8 := HW4.out.trans (hb7.mono HW4.out.size)
                    have HW5 := Lib.hid hb8; clear hb7 hb8 HC
                    dsimp only
                    go_wp2_with fail
                    go_roundw
                    case rel => exact ⟨j + 1, by omega, by simp, HBW.out.trans (HW5.out.mono HBW.out.size)⟩
                    case measure => simp only [intOf]; omega
                · have hj10z : ¬ (j : Int) < 10 := by omega
                  go_wp2_with fail
                  go_roundw
                  case rel => exact ⟨n + 1, by omega, by simp, HBF.out⟩
                  case measure => simp only [intOf]; omega
            · have hnz : ¬ (n : Int) < (l.length : Int) := by omega
              go_wp2_with fail
              go_roundw
              case rel => exact ⟨k + 1, by omega, by simp, HBD.out⟩
              case measure => simp only [intOf]; omega
    · have hk5z : ¬ (k : Int) < 5 := by omega
      have HW0 := Lib.hid (HBZ.out.trans (HB.out.mono HBZ.out.size)); clear HB HGS HBZ
      obtain ⟨wb, hr1, hg1, hb1⟩ := made_zeros wa 32 (by omega) zeros_row32
      have HR1 := Lib.hid hr1; have HG1 := Lib.hid hg1; have hw1 := HW0.out.trans (hb1.mono HW0.out.size); have HW1 := Lib.hid hw1; clear hr1 hg1 hb1 hw1
      go_wp2_with (refine wpList_make_yes _ _ 23 rfl rfl _ _ _ rfl rfl HR1.out ?_)
      have hm32 : (List.replicate 32 zeroN).length ≤ maxLen := by rw [List.length_replicate]; unfold maxLen; omega
      have hm33 : (List.replicate 33 zeroN).length ≤ maxLen := by rw [List.length_replicate]; unfold maxLen; omega
      have HM32 := Lib.hid hm32; have HM33 := Lib.hid hm33; clear hm32 hm33
      have HC := Lib.hid (flowPut.walk _ (List.replicate 32 zeroN) 32 wb HG1.out HM32.out)
      refine HC.out.mono ?_; rintro e w5 ⟨rfl, hb7⟩
      have hb8 := HW1.out.trans (hb7.mono HW1.out.size)
      have HW2 := Lib.hid hb8; clear hb7 hb8 HC
      dsimp only
      obtain ⟨w6, hr1, hg1, hb1⟩ := made_zeros w5 33 (by omega) zeros_row33
      have HR2 := Lib.hid hr1; have HG2 := Lib.hid hg1; have hw1 := HW2.out.trans (hb1.mono HW2.out.size); have HW3 := Lib.hid hw1; clear hr1 hg1 hb1 hw1
      go_wp2_with (refine wpList_make_yes _ _ 23 rfl rfl _ _ _ rfl rfl HR2.out ?_)
      have HC := Lib.hid (flowPut.walk _ (List.replicate 33 zeroN) 33 w6 HG2.out HM33.out)
      refine HC.out.mono ?_; rintro e w7 ⟨rfl, hb7⟩
      have hb8 := HW3.out.trans (hb7.mono HW3.out.size)
      have HW4 := Lib.hid hb8; clear hb7 hb8 HC
      dsimp only
      have HC := Lib.hid (flowPut.walk none [] 0 w7 Gr.nil (Nat.zero_le _))
      go_wp2_with fail
      refine HC.out.mono ?_; rintro e w8 ⟨rfl, hb7⟩
      have hb8 := HW4.out.trans (hb7.mono HW4.out.size)
      have HW5 := Lib.hid hb8; clear hb7 hb8 HC
      dsimp only
      have HC := Lib.hid (flowGet.walk none [] 0 w8 (bytes_none _) (Nat.zero_le _))
      go_wp2_with fail
      refine HC.out.mono ?_; rintro e w9 ⟨rfl, hb7⟩
      have hb8 := HW5.out.trans (hb7.mono HW5.out.size)
      have HW6 := Lib.hid hb8; clear hb7 hb8 HC
      dsimp only
      obtain ⟨wd, hr1, hg1, hb1⟩ := made_zeros w9 32 (by omega) zeros_row32
      have HR3 := Lib.hid hr1; have HG3 := Lib.hid hg1; have hw1 := HW6.out.trans (hb1.mono HW6.out.size); have HW7 := Lib.hid hw1; clear hr1 hg1 hb1 hw1
      go_wp2_with (refine wpList_make_yes _ _ 23 rfl rfl _ _ _ rfl rfl HR3.out ?_)
      have hbl : Below wd.heap.size wd (wd.alloc (.cells (Rw.row kindB [0]).toArray 5)) := (Below.refl _ _).alloc (Nat.le_refl _) _
      have hby : Bytes (wd.alloc (.cells (Rw.row kindB [0]).toArray 5)) (some ⟨wd.heap.size, 0, none⟩) [0] := Bytes.made wd 5 (0, 0) (by simp)
      change Calls _ _ _ (wd.alloc (.cells (Rw.row kindB [0]).toArray 5)) _
      have hg3 := HG3.out.below hbl
      have hw1 := HW7.out.trans (hbl.mono HW7.out.size)
      generalize wd.alloc (.cells (Rw.row kindB [0]).toArray 5) = we at *
      generalize wd.heap.size = gd at *
      have HW8 := Lib.hid hw1; have HBY := Lib.hid hby; have HG4 := Lib.hid hg3; clear hw1 hby hg3 hbl
      have HC := Lib.hid (flowBack.walk _ _ (List.replicate 32 zeroN) 32 [0] 1 9 we HG4.out HM32.out HBY.out (by simp [maxLen]) ⟨Nat.le_refl _, by simp [maxLen]⟩ (by omega))
      refine HC.out.mono ?_; rintro e wf ⟨rfl, hb7⟩
      have hb8 := HW8.out.trans (hb7.mono HW8.out.size)
      have HW9 := Lib.hid hb8; clear hb7 hb8 HC
      dsimp only
      have hrow : Row (wf.alloc (.cells [.int .u8 ((33 : Nat) : Nat)].toArray 5)) wf.heap.size 5 [.int .u8 ((33 : Nat) : Nat)] := Row.made _ _ _
      have hbl : Below wf.heap.size wf (wf.alloc (.cells [.int .u8 ((33 : Nat) : Nat)].toArray 5)) := (Below.refl _ _).alloc (Nat.le_refl _) _
      obtain ⟨cz, wg, hr1, hbz, hb1, hz1, hz2⟩ := grown_zeros (wf.alloc (.cells [.int .u8 ((33 : Nat) : Nat)].toArray 5)) wf.heap.size (hrow.cell 0)
      have hw1 := HW9.out.trans ((hbl.trans (hb1.mono hbl.size)).mono HW9.out.size)
      have hs : (wf.alloc (.cells [.int .u8 ((33 : Nat) : Nat)].toArray 5)).heap.size = wf.heap.size + 1 := by simp
      rw [hs] at hr1 hbz
      have HR4 := Lib.hid hr1; have HBY2 := Lib.hid hbz; have HW10 := Lib.hid hw1; clear hr1 hbz hw1 hs hb1 hbl hrow hz1 hz2
      go_wp2_with (refine wpList_append_zeros _ _ 27 3 rfl rfl _ _ _ rfl rfl HR4.out ?_)
      have HC := Lib.hid (flowGet.walk _ (33 :: List.replicate 396 0) cz wg HBY2.out (by rw [List.length_cons, List.length_replicate]; unfold maxLen; omega))
      refine HC.out.mono ?_; rintro e wh ⟨rfl, hb7⟩
      have hb8 := HW10.out.trans (hb7.mono HW10.out.size)
      have HW11 := Lib.hid hb8; clear hb7 hb8 HC
      dsimp only
      have HC := Lib.hid (works_any wh)
      go_wp2_with fail
      refine HC.out.mono ?_; rintro e wi ⟨rfl, hb7⟩
      have hb8 := HW11.out.trans (hb7.mono HW11.out.size)
      have HW12 := Lib.hid hb8; clear hb7 hb8 HC
      dsimp only
      go_wp2_with fail
      go_ret
      exact ⟨rfl, HW12.out⟩

set_option maxRecDepth 100000 in
theorem lifted (os : Os) (started : os.Started) (H : Type) (enc : TypeId × Value → H) :
    ReturnsInHanded {} Try.checked os 10 .any (Rows.flowKnownSpec.pre6 enc Try.prog Try.f10 Rows.flowKnownRow.domain false) (Rows.flowKnownSpec.post enc Try.prog Try.f10 false true false false) := by
  refine returnsInHanded_of_change_sized (C := Try.checked) ownKnob_none started (by kernel_rfl) Try.func10
    (ChangeSpec.witness6 (enc := enc) (C := Try.checked) false ⟨#[], #[], []⟩ 8 (by kernel_rfl) (by kernel_rfl) (by kernel_rfl) (by kernel_rfl)) ?_
  intro W base args ds gs before hval0 hW hcnd hsz0 _
  have hval : ∀ (j : Nat) t v, Try.f10.params[j]? = some t → args[j]? = some v → Value.okWide Try.prog W .any base t v := hval0
  have hW' := hW
  obtain ⟨p, q, hA0, hV, rfl, hfz, hnd⟩ := hW
  have hA : DataW.TrodAll enc Try.prog W 0 (fun _ => true) true Try.f10.params.toList args.toList ds p := hA0
  have hsz : (DataW.weightsEach Try.prog (Try.f10.params.toList ++ Rows.flowKnownSpec.plain.varTypes Try.prog) (ds ++ gs)).all (· ≤ reachBytes) = true := hsz0
  rw [Try.params10] at hA hval hsz
  obtain ⟨hargs, rfl, rfl⟩ := trodAll_nil hA
  obtain rfl : args = #[] := by cases args; simp_all
  obtain ⟨rfl, rfl⟩ := trodVars_none hV
  clear hA0 hval0 hsz0
  refine (walk W).mono fun e W' ⟨he, hg⟩ => ?_
  subst he
  exact ⟨_, rfl, law_post progLaid hW' rfl (by rw [Try.params10]; intro t ht; simp at ht) rfl Try.underlying4 rfl hg⟩

theorem over : Rows.flowKnownRow.holds Try.pinned (OpenSpec.ofChange Rows.flowKnownSpec) :=
  OpenClaim.holds_of_wide 10 Try.f10 rfl rfl rfl rfl rfl rfl rfl ⟨rfl, rfl, rfl, rfl, rfl⟩ rfl rfl rfl rfl rfl (by kernel_rfl) Try.func10 (by kernel_rfl)
    (of_decide_eq_true (by kernel_rfl)) (by unfold Func.isWrapper; first | (rw [if_pos (by decide +kernel)]; kernel_rfl) | (rw [if_neg (by decide +kernel)]; exact ⟨rfl, rfl⟩))
    (fun os started H enc _ => lifted os started H enc)

/-- The statement. -/
theorem proved : Rows.FlowKnownSaid :=
  over
end flowKnown
end Go.Proofs.Ytmjbclinlojboaa
