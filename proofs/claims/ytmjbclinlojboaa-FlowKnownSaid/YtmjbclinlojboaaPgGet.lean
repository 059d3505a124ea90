/- Get, the program's. -/
import Derived.Test.YtmjbclinlojboaaPgRead
import Derived.Test.YtmjbclinlojboaaPgRight
import Derived.WalkMore
import Derived.ScopeJumps
namespace Go.Proofs.Ytmjbclinlojboaa
open Go.ChangeShapes Go.WideShapes Go.ChangeAt Go.RowKit Go.BigFrame
set_option linter.unusedVariables false
set_option maxRecDepth 100000
theorem row_apart {w : World} {base n K B : Nat} {T t : TypeId} {v : Value} {xs l : List Value} (h : w.ownsRow base T K v n xs) (hr : Row w B t l) (ht : t ≠ T) : v.ownBlock = none ∨ v.ownBlock ≠ some B :=
  .inr fun e => Rw.own_apart h hr ht e.symm
theorem OwnG.kept {w w' : World} {base B : Nat} {v : Value} {l : List Gn} {u : List Value} (h : OwnG w base v l) (hr : Row w B 27 u) (hg : w.grownBy w' (some B)) : OwnG w' base v l where
  row := h.row.kept hg (row_apart h.row hr (by decide))
  ok := h.ok
  ins := fun x hx => (h.ins x hx).kept hg (row_apart (h.ins x hx) hr (by decide))
theorem LeftS.row {w0 w : World} {B : Nat} {ys : List Nat} (h : LeftS w0 w B ys) : ∃ u, Row w B 27 u := by obtain ⟨b, o, c, h1, _⟩ := h; exact ⟨_, h1⟩
/-- what holds at a jump to 'none' -/
def NoneJ (xs : List Nat) (w : World) (a' : Act) (w' : World) : Prop := (getR xs = none ∧ Below w.heap.size w w') ∧ ∃ u0 u1 u2 u3 u4 u5 u6 u7 u8 u9 u10 u11 u12 u13 u14 u15 u16 u17 u18 u19 u20 u21 u22 u23 u24 u25 u26 u27 u28 u29 u30 u31 u32 u33 u34 u35 u36 u37 u38 u39 u40 u41 u42 u43 u44 u45 u46 : Value, a' = { tmps := #[u0, u1, u2, u3, u4, u5, u6, u7, u8, u9, u10, u11, u12, u13, u14, u15, u16, u17, u18, u19, u20, u21, u22, u23, u24, u25, u26, u27, u28, u29, u30, u31, u32, u33, u34, u35, u36, u37, u38, u39, u40, u41, u42, u43, u44, u45, u46], defers := [] }
theorem NoneJ.mk {xs : List Nat} {w w' : World} {u0 u1 u2 u3 u4 u5 u6 u7 u8 u9 u10 u11 u12 u13 u14 u15 u16 u17 u18 u19 u20 u21 u22 u23 u24 u25 u26 u27 u28 u29 u30 u31 u32 u33 u34 u35 u36 u37 u38 u39 u40 u41 u42 u43 u44 u45 u46 : Value} (h : getR xs = none) (hb : Below w.heap.size w w') : NoneJ xs w { tmps := #[u0, u1, u2, u3, u4, u5, u6, u7, u8, u9, u10, u11, u12, u13, u14, u15, u16, u17, u18, u19, u20, u21, u22, u23, u24, u25, u26, u27, u28, u29, u30, u31, u32, u33, u34, u35, u36, u37, u38, u39, u40, u41, u42, u43, u44, u45, u46], defers := [] } w' := ⟨⟨h, hb⟩, _, _, _, _, _, _, _, _, _, _, _, _, _, _, _, _, _, _, _, _, _, _, _, _, _, _, _, _, _, _, _, _, _, _, _, _, _, _, _, _, _, _, _, _, _, _, _, rfl⟩
set_option maxHeartbeats 16000000 in
theorem flowGet_any (A : Option Addr) (xs : List Nat) (c : Nat) (w : World) (hB : Bytes w A xs) (hl : xs.length ≤ 100000) (hc : xs.length ≤ c ∧ c ≤ maxLen) :
    Calls Try.prog 18 #[.slice A xs.length c] w (GetD xs w) := by
  have eg : ∀ args w, (callFunc 31 args).run Try.prog w = .ok (.enter 31 args) w := enters_of Try.func31 (by kernel_rfl) rfl
  have hmf : ∀ (fn : Fn) (first cap : Array Value) (w : World), (Instr.makeFunc fn first cap).run Try.prog w = .ok (.func fn first cap) w := fun _ _ _ _ => rfl
  have HT := Lib.hid hB.ts
  have HX := Lib.hid hB.1; clear hB
  have hb1 := (Below.refl w.heap.size w).alloc (Nat.le_refl _) (.cells #[.slice A xs.length c] 27)
  have hrow : Row (w.alloc (.cells #[.slice A xs.length c] 27)) w.heap.size 27 [.slice A xs.length c] := Row.made w _ _
  by_cases h0 : xs.length < 1
  · have hx : xs = [] := List.length_eq_zero_iff.1 (by omega)
    have HN := Lib.hid (show getR xs = none by rw [hx]; rfl)
    have HC := Lib.hid (cut_no _ _ _ 1 _ _ hrow h0); have HB1 := Lib.hid hb1; clear hx hrow hb1
    go_enter Try.func18, Try.ntmps18
    go_wp2_with fail
    refine wp_scope_jumps 0 (NoneJ xs w) (fun _ _ => 0) rfl ?first ?pass
    case pass =>
      rintro a' w' ⟨⟨hn, hb⟩, u0, u1, u2, u3, u4, u5, u6, u7, u8, u9, u10, u11, u12, u13, u14, u15, u16, u17, u18, u19, u20, u21, u22, u23, u24, u25, u26, u27, u28, u29, u30, u31, u32, u33, u34, u35, u36, u37, u38, u39, u40, u41, u42, u43, u44, u45, u46, rfl⟩
      go_wp2
      simp only [Exit.jump]
      go_ret2
      exact GetD.no hn hb
    case first =>
      go_wp2_with fail
      refine HC.out.mono ?_; rintro e w1 ⟨rfl, rfl⟩
      dsimp only
      go_wp2_with fail
      go_step3
      exact ⟨rfl, NoneJ.mk HN.out HB1.out⟩
  · obtain ⟨m, hm⟩ : ∃ m, xs[0]? = some m := ⟨_, List.getElem?_eq_getElem (by omega)⟩
    obtain ⟨b, o, rfl, hbl, hq0⟩ := bytes_at HT.out hm
    have hm256 := HX.out m (List.mem_of_getElem? hm)
    have hleft : LeftS w (w.alloc (.cells #[.slice (some ⟨b, o, none⟩) xs.length c] 27)) w.heap.size xs := ⟨b, o, c, hrow, hc.1, hc.2, HT.out⟩
    have hcall := cut_yes w xs 1 w.heap.size _ hleft (by omega)
    have HC := Lib.hid hcall; have HM := Lib.hid hm; have HB1 := Lib.hid hb1; clear hcall hm hrow hb1 hleft hq0
    go_enter Try.func18, Try.ntmps18
    go_wp2_with fail
    refine wp_scope_jumps 0 (NoneJ xs w) (fun _ _ => 0) rfl ?first ?pass
    case pass =>
      rintro a' w' ⟨⟨hn, hb⟩, u0, u1, u2, u3, u4, u5, u6, u7, u8, u9, u10, u11, u12, u13, u14, u15, u16, u17, u18, u19, u20, u21, u22, u23, u24, u25, u26, u27, u28, u29, u30, u31, u32, u33, u34, u35, u36, u37, u38, u39, u40, u41, u42, u43, u44, u45, u46, rfl⟩
      go_wp2
      simp only [Exit.jump]
      go_ret2
      exact GetD.no hn hb
    case first =>
      go_wp2_with fail
      refine HC.out.mono ?_; rintro e wz ⟨b1, o1, c1, rfl, k1, k2, hts, hleft, hgr⟩
      have hbz := grown_below HB1.out hgr (Nat.le_refl _)
      obtain ⟨_, _, e, _, hqm⟩ := bytes_at hts (i := 0) (z := m) (by rw [List.getElem?_take, if_pos (by omega)]; exact HM.out)
      cases e
      have qm := hqm wz hbz
      rw [Nat.add_zero] at qm
      have HBZ := Lib.hid hbz; have HLF := Lib.hid hleft; clear hbz hts hleft hgr hqm
      dsimp only
      go_wp2_with fail
      go_loopw [4, 21] (fun v i wr => ∃ (k t : Nat) (d : List Gn), k ≤ m ∧ i = .int .u8 (k : Nat) ∧ t ≤ xs.length ∧ d.length = k ∧ GetAt xs m k t (nds d) ∧ OwnG wr w.heap.size v d ∧ Below w.heap.size w wr ∧ LeftS w wr w.heap.size (xs.drop t)) (fun _ i _ => m - (intOf i).toNat)
      case atStart => exact ⟨0, 1, [], by omega, rfl, by omega, rfl, GetAt.start _ _, OwnG.nil _ _, HBZ.out, HLF.out⟩
      case round =>
        obtain ⟨k, t, d, hk, rfl, hat, hdl, hga, hown, hb, hleft⟩ := hrel
        have HGA := Lib.hid hga; have HO := Lib.hid hown; have HB := Lib.hid hb; have HDL := Lib.hid hdl; have HL := Lib.hid hleft; clear hga hown hb hdl hleft HLF qm
        by_cases hlt : k < m
        · have hltz : (k : Int) < (m : Int) := by omega
          have hcall := readNode_any w (xs.drop t) w.heap.size wr HL.out HB.out (Nat.le_refl _) (fun x hx => HX.out x (List.mem_of_mem_drop hx))
          have HR := Lib.hid hcall; clear hcall
          go_wp2_with fail
          refine HR.out.mono ?_; rintro e w1 (⟨xk, xa, xb, xd, xi, xA, xc, n, rfl, hok, hget, hlen, hin, hleft, hgr⟩ | ⟨xk, xa, xb, xd, xi, xA, xc, rfl, hnone, hgr⟩)
          · obtain ⟨u, hu⟩ := HL.out.row
            have hog := ((HO.out.kept hu hgr).alloc (.cells #[.int .u8 (xk : Nat), .int .u8 (xa : Nat), .int .i64 xb, .int .i64 xd, .slice xA xi.length xc] 48)).alloc (.cells #[.int .u8 (xk : Nat), .int .u8 (xa : Nat), .int .i64 xb, .int .i64 xd, .slice xA xi.length xc] 48)
            have hb1 := grown_below HB.out hgr (Nat.le_refl _)
            rw [List.drop_drop] at hget hleft
            rw [List.length_drop] at hlen
            have hst := HGA.out.step hlt hget
            have hin2 := own_base hin HB.out.size
            have hsz := hb1.size
            have hty := Rw.Ts.made (κ := kindG) (w1.alloc (.cells #[.int .u8 (xk : Nat), .int .u8 (xa : Nat), .int .i64 xb, .int .i64 xd, .slice xA xi.length xc] 48)) [⟨⟨xk, xa, xb, xd, xi⟩, xA, xc⟩] 48
            rw [show (w1.alloc (.cells #[.int .u8 (xk : Nat), .int .u8 (xa : Nat), .int .i64 xb, .int .i64 xd, .slice xA xi.length xc] 48)).heap.size = w1.heap.size + 1 by simp] at hty
            have HTY := Lib.hid hty; clear hty
            have HOG := Lib.hid hog; have HB2 := Lib.hid hb1; have HST := Lib.hid hst; have HIN := Lib.hid hin2; have HLF := Lib.hid hleft; have HOK := Lib.hid hok; clear hu hog hb1 hget hst hin hin2 hleft hok hgr HO HL
            dsimp only
            go_wp2_with (at_builtin; refine Rw.append_own kindG 48 23 Try.underlying23 infoNode rfl rfl _ _ rfl w.heap.size _ d.length d rfl HOG.out.row _ 1 [⟨⟨xk, xa, xb, xd, xi⟩, xA, xc⟩] rfl (by simp) HTY.out (by unfold maxLen; have := HDL.out; simp; omega) (by have := HDL.out; simp; omega) (by simp; omega) ?_; intro v2 w4 hv2 hg2; have hmr := OwnG.more HOG.out (x := ⟨⟨xk, xa, xb, xd, xi⟩, xA, xc⟩) HOK.out ((HIN.out.alloc _).alloc _) hv2 hg2; have hb3 := Rw.own_below HOG.out.row hg2 ((HB2.out.alloc HB2.out.size _).alloc (by simp; omega) _) (by simp; omega); obtain ⟨u2, hu2⟩ := HLF.out.row; have hl3 := ((HLF.out.kept (World.grownBy_alloc _ _ none) (by simp)).kept (World.grownBy_alloc _ _ none) (by simp)).kept hg2 (Rw.own_apart HOG.out.row ((hu2.alloc _).alloc _) (by decide)); have HMR := Lib.hid hmr; have HB3 := Lib.hid hb3; have HL3 := Lib.hid hl3; clear hmr hb3 hl3 hv2 hg2 hu2)
            go_roundw
            case rel =>
              refine ⟨k + 1, t + (12 + n), d ++ [⟨⟨xk, xa, xb, xd, xi⟩, xA, xc⟩], by omega, by simp, by omega, by have := HDL.out; simp; omega, ?_, HMR.out, HB3.out, HL3.out⟩
              have h := HST.out
              unfold nds at h ⊢
              rw [List.map_append]
              exact h
            case measure => simp only [intOf]; omega
          · have HS := Lib.hid (getR_stop HM.out (HGA.out.stop hlt hnone))
            have HB2 := Lib.hid (grown_below HB.out hgr (Nat.le_refl _)); clear hnone hgr
            dsimp only
            go_wp2_with fail
            go_step3
            exact ⟨rfl, NoneJ.mk HS.out (HB2.out.alloc HB2.out.size _)⟩
        · have hltz : ¬ (k : Int) < (m : Int) := by omega
          obtain rfl : k = m := by omega
          have HE := Lib.hid HGA.out.end_
          obtain ⟨A', c', rfl, hG', hc1, hc2, hcn⟩ := HO.out.gr
          have hml : d.length ≤ maxLen := by omega
          have hc1 := rightLength_any A' d.length c' wr hml
          have hc2 := rightNodes_any A' d c' wr hG' hml
          obtain ⟨b2, o2, c2, hrw, _⟩ := HL.out
          have cb : wr.cell? ⟨w.heap.size, 0, none⟩ = some (.slice (some ⟨b2, o2, none⟩) (xs.drop t).length c2) := hrw.cell 0
          generalize hL : (xs.drop t).length = L at *
          rw [List.length_drop] at hL
          clear hG' hcn hml hrw HL
          by_cases ht : t = xs.length
          · obtain rfl : L = 0 := by omega
            clear hL
            cases h32 : lengthB d.length with
            | false =>
              rw [h32] at hc1
              have hS : getR xs = none := by
                rw [getR_may HM.out HE.out ht, if_neg]
                intro hmb
                have h := (mayB_iff.1 hmb).1
                rw [nds_len] at h
                unfold lengthB at h32
                exact of_decide_eq_false h32 h
              have HS := Lib.hid hS; have HC1 := Lib.hid hc1; clear hS hc1 hc2 h32 ht
              go_wp2_with fail
              refine HC1.out.mono ?_; rintro e w1 ⟨rfl, rfl⟩
              dsimp only
              go_wp2_with fail
              go_step3
              go_wp2
              simp only [Exit.jump]
              go_ret2
              exact GetD.no HS.out HB.out
            | true =>
              rw [h32] at hc1
              cases hrn : rightB (nds d) with
              | false =>
                rw [hrn] at hc2
                have hS : getR xs = none := by
                  rw [getR_may HM.out HE.out ht, if_neg]
                  intro hmb
                  rw [rightB_iff.2 (mayB_iff.1 hmb).2] at hrn
                  cases hrn
                have HS := Lib.hid hS; have HC1 := Lib.hid hc1; have HC2 := Lib.hid hc2; clear hS hc1 hc2 h32 hrn ht
                go_wp2_with fail
                refine HC1.out.mono ?_; rintro e w1 ⟨rfl, rfl⟩
                dsimp only
                go_wp2_with fail
                refine HC2.out.mono ?_; rintro e w1 ⟨rfl, hb1⟩
                have HB1 := Lib.hid (HB.out.trans (hb1.mono HB.out.size)); clear hb1
                dsimp only
                go_wp2_with fail
                go_step3
                go_wp2
                simp only [Exit.jump]
                go_ret2
                exact GetD.no HS.out HB1.out
              | true =>
                rw [hrn] at hc2
                have hS : getR xs = some (nds d) := by
                  rw [getR_may HM.out HE.out ht, if_pos]
                  refine mayB_iff.2 ⟨?_, rightB_iff.1 hrn⟩
                  rw [nds_len]
                  unfold lengthB at h32
                  exact of_decide_eq_true h32
                have HS := Lib.hid hS; have HC1 := Lib.hid hc1; have HC2 := Lib.hid hc2; clear hS hc1 hc2 h32 hrn ht
                go_wp2_with fail
                refine HC1.out.mono ?_; rintro e w1 ⟨rfl, rfl⟩
                dsimp only
                go_wp2_with fail
                refine HC2.out.mono ?_; rintro e w1 ⟨rfl, hb1⟩
                have HB1 := Lib.hid (HB.out.trans (hb1.mono HB.out.size))
                have HO1 := Lib.hid (HO.out.below hb1); clear hb1
                dsimp only
                go_wp2_with fail
                simp only [Exit.jump]
                go_ret2
                exact GetD.yes HS.out HO1.out HB1.out
          · have htz : ((L : Int) == 0) = false := by simp; omega
            have HS := Lib.hid (getR_long HM.out HE.out ht hat); clear ht hc1 hc2 hL
            go_wp2_with fail
            go_step3
            go_wp2
            simp only [Exit.jump]
            go_ret2
            exact GetD.no HS.out HB.out
end Go.Proofs.Ytmjbclinlojboaa
