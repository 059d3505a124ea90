/- works: the chapter's examples. -/
import Derived.Test.YtmjbclinlojboaaGrMine
import Derived.Test.YtmjbclinlojboaaGrProg
namespace Go.Proofs.Ytmjbclinlojboaa
open Go.ChangeShapes Go.WideShapes Go.ChangeAt Go.RowKit Go.BigFrame
set_option linter.unusedVariables false
set_option maxRecDepth 100000
def wk1 : Gn := ⟨⟨1, 0, 0, 0, []⟩, none, 0⟩
def wk2 (b : Nat) : Gn := ⟨⟨2, 3, -1, 0, [0]⟩, some ⟨b, 0, none⟩, 1⟩
theorem wk1_ok : wk1.Ok := ⟨by decide, by decide, by decide, by decide, by decide, by decide, fun _ => rfl⟩
theorem wk2_ok (b : Nat) : (wk2 b).Ok := ⟨by show (2 : Nat) < 256; decide, by show (3 : Nat) < 256; decide, by show (-9223372036854775808 : Int) ≤ -1 ∧ (-1 : Int) ≤ 9223372036854775807; decide, by show (-9223372036854775808 : Int) ≤ 0 ∧ (0 : Int) ≤ 9223372036854775807; decide, by
  intro z hz
  have : z = 0 := by simpa [wk2] using hz
  subst this; decide, by show (1 : Nat) ≤ 1 ∧ 1 ≤ maxLen; decide, fun e => by cases e⟩
theorem wk_may1 : GMay [wk1.nd] := ⟨by decide, fun n hn => by
  obtain rfl : n = wk1.nd := by simpa using hn
  exact ⟨by decide, by decide, fun x hx => by cases hx⟩⟩
theorem wk_may2 (b : Nat) : GMay [wk1.nd, (wk2 b).nd] := ⟨by show 1 ≤ 2 ∧ 2 ≤ 32; decide, fun n hn => by
  rcases List.mem_cons.1 hn with rfl | hn
  · exact ⟨by decide, by decide, fun x hx => by cases hx⟩
  · obtain rfl : n = (wk2 b).nd := by simpa using hn
    refine ⟨by show (0 : Int) ≤ 0 ∧ (0 : Int) ≤ 3; decide, by show (1 : Nat) ≤ 2; decide, fun x hx => ?_⟩
    have : x = 0 := by simpa [wk2] using hx
    subst this; decide⟩
theorem wk_put1 : putG [wk1.nd] = [1, 1, 0, 0, 0, 0, 0, 0, 0, 0, 0, 0, 0] := by decide
theorem wk_put2 (b : Nat) : putG [wk1.nd, (wk2 b).nd] = [2, 1, 0, 0, 0, 0, 0, 0, 0, 0, 0, 0, 0, 2, 3, 255, 255, 255, 255, 255, 255, 255, 255, 0, 1, 0] := by
  show putG [⟨1, 0, 0, 0, []⟩, ⟨2, 3, -1, 0, [0]⟩] = _; decide
theorem wk_to (b : Nat) : toG 0 0 [wk1.nd, (wk2 b).nd] = [(1, 0)] := by
  show toG 0 0 [⟨1, 0, 0, 0, []⟩, ⟨2, 3, -1, 0, [0]⟩] = _; decide
theorem put_is {A : Option Addr} {l : List Gn} {c : Nat} {w : World} {ys : List Nat} (hG : Gr w A l) (hl : l.length ≤ maxLen) (hm : GMay (nds l)) (hy : putG (nds l) = ys) :
    Calls Try.prog 14 #[.slice A l.length c] w fun e w' => (∃ v, e = .returned (.tuple #[v, .int .i64 0]) ∧ w'.ownsRow w.heap.size 5 kindB.K v ys.length (Rw.row kindB ys)) ∧ Below w.heap.size w w' := by
  have h := flowPut_any A l c w hG hl
  unfold PutD at h
  rw [(putE_of hm).1, (putE_of hm).2, hy] at h
  exact h
theorem get_is {A : Option Addr} {xs : List Nat} {c : Nat} {w : World} {g : List Nd} (hB : Bytes w A xs) (hl : xs.length ≤ 100000) (hc : xs.length ≤ c ∧ c ≤ maxLen) (hR : getR xs = some g) :
    Calls Try.prog 18 #[.slice A xs.length c] w fun e w' => (∃ v l', e = .returned (.tuple #[v, .int .i64 0]) ∧ nds l' = g ∧ OwnG w' w.heap.size v l') ∧ Below w.heap.size w w' := by
  have h := flowGet_any A xs c w hB hl hc
  unfold GetD at h
  rw [(getR_some hR).2, ← (getR_some hR).1] at h
  exact h
theorem u8_lit {xs : List Nat} (h : xs.all (· < 256) = true) : ∀ x ∈ xs, x < 256 := fun x hx => by simpa using List.all_eq_true.1 h x hx
set_option maxHeartbeats 8000000 in
theorem works_any (w : World) : Calls Try.prog 12 #[] w fun e w' => e = .returned (.bool true) ∧ Below w.heap.size w w' := by
  have hts : Rw.Ts kindI (w.alloc (.cells (Rw.row kindI [0]).toArray 3)) (some ⟨w.heap.size, 0, none⟩) [0] := Rw.Ts.made w [0] 3
  have hrow := Rw.Ts.made (κ := kindG) (w.alloc (.cells (Rw.row kindI [0]).toArray 3)) [wk1, wk2 w.heap.size] 48
  have hb1 : Below w.heap.size w (w.alloc (.cells (Rw.row kindI [0]).toArray 3)) := (Below.refl _ w).alloc (Nat.le_refl _) _
  have hs1 : (w.alloc (.cells (Rw.row kindI [0]).toArray 3)).heap.size = w.heap.size + 1 := by simp
  rw [hs1] at hrow
  have hg : Gr ((w.alloc (.cells (Rw.row kindI [0]).toArray 3)).alloc (.cells (Rw.row kindG [wk1, wk2 w.heap.size]).toArray 48)) (some ⟨w.heap.size + 1, 0, none⟩) [wk1, wk2 w.heap.size] := ⟨hrow, fun x hx => by
    rcases List.mem_cons.1 hx with rfl | hx
    · exact ⟨wk1_ok, Rw.Ts.nil⟩
    · obtain rfl : x = wk2 w.heap.size := by simpa using hx
      exact ⟨wk2_ok _, hts.below ((Below.refl _ _).alloc (Nat.le_refl _) _)⟩⟩
  have hb2 : Below w.heap.size w ((w.alloc (.cells (Rw.row kindI [0]).toArray 3)).alloc (.cells (Rw.row kindG [wk1, wk2 w.heap.size]).toArray 48)) := hb1.alloc hb1.size _
  have HG := Lib.hid hg; have Hb := Lib.hid hb2; clear hts hrow hb1 hs1 hg hb2
  go_enter Try.func12, Try.ntmps12
  have hW : ∀ n ∈ nds [wk1, wk2 w.heap.size], n.W := gr_W HG.out
  have hR : getR [2, 1, 0, 0, 0, 0, 0, 0, 0, 0, 0, 0, 0, 2, 3, 255, 255, 255, 255, 255, 255, 255, 255, 0, 1, 0] = some (nds [wk1, wk2 w.heap.size]) := by
    have h := getR_put hW (putE_of (wk_may2 w.heap.size)).1
    rw [(putE_of (g := nds [wk1, wk2 w.heap.size]) (wk_may2 w.heap.size)).2] at h
    rw [← wk_put2 w.heap.size]; exact h
  have HR := Lib.hid hR; clear hW hR
  go_wp2_with fail
  refine (put_is (HG.out.take 1) (show 1 ≤ maxLen by decide) wk_may1 wk_put1).mono ?_; rintro e w2 ⟨⟨v, rfl, hv⟩, hb⟩
  obtain ⟨P1, pc1, rfl, hP1, _, _, _, _⟩ := own_bytes hv (u8_lit (by decide))
  have hg := HG.out.below hb
  have hbb := Hb.out.trans (hb.mono Hb.out.size)
  clear HG Hb; have HG := Lib.hid hg; have Hb := Lib.hid hbb; have HP1 := Lib.hid hP1; clear hg hbb hP1 hv hb
  dsimp only
  go_wp2_with fail
  refine (put_is HG.out (show 2 ≤ maxLen by decide) (wk_may2 _) (wk_put2 _)).mono ?_; rintro e w3 ⟨⟨v, rfl, hv⟩, hb⟩
  obtain ⟨P2, pc2, rfl, hP2, hq1, hq2, _, _⟩ := own_bytes hv (u8_lit (by decide))
  have HQ2 := Lib.hid (And.intro hq1 hq2); clear hq1 hq2
  have hg := HG.out.below hb
  have hp1 := HP1.out.below hb
  have hbb := Hb.out.trans (hb.mono Hb.out.size)
  clear HG Hb HP1; have HG := Lib.hid hg; have Hb := Lib.hid hbb; have HP1 := Lib.hid hp1; have HP2 := Lib.hid hP2; clear hg hbb hP2 hp1 hv hb
  dsimp only
  go_wp2_with fail
  refine (get_is HP2.out (by decide) HQ2.out HR.out).mono ?_; rintro e w4 ⟨⟨v, l1, rfl, hn, ho⟩, hb⟩
  obtain ⟨G1, gc1, rfl, hg1, hgc, hgm, _⟩ := ho.gr
  have hg := HG.out.below hb
  have hp1 := HP1.out.below hb
  have hp2 := HP2.out.below hb
  have hbb := Hb.out.trans (hb.mono Hb.out.size)
  clear HG Hb HP1 HP2; have HG := Lib.hid hg; have Hb := Lib.hid hbb; have HP1 := Lib.hid hp1; have HP2 := Lib.hid hp2; have HG1 := Lib.hid hg1; have HN1 := Lib.hid hn; have HL1 := Lib.hid (Nat.le_trans hgc hgm); clear hg hbb hp1 hp2 hb ho hg1 hn hgc hgm
  dsimp only
  have hc := flowTo_any _ [wk1, wk2 w.heap.size] 2 0 w4 HG.out (show 2 ≤ 40 by decide) (fun x hx => by
    rcases List.mem_cons.1 hx with rfl | hx
    · show 0 ≤ 40; decide
    · obtain rfl : x = (wk2 w.heap.size).nd := by simpa [nds] using hx
      show 1 ≤ 40; decide)
  unfold ToD at hc
  rw [show toG 0 0 (nds [wk1, wk2 w.heap.size]) = [(1, 0)] from wk_to _] at hc
  have HC := Lib.hid hc; clear hc
  go_wp2_with fail
  refine HC.out.mono ?_; rintro e w5 ⟨⟨v, rfl, hv⟩, hb⟩
  obtain ⟨Q, qc, rfl, hQ, _, _, _, _⟩ := Rw.Ts.of_own hv
  obtain ⟨qb, qo, rfl, _, hqc⟩ := ports_at hQ (show [((1 : Nat), (0 : Nat))][0]? = some (1, 0) from rfl)
  have hg := HG.out.below hb
  have hp1 := HP1.out.below hb
  have hp2 := HP2.out.below hb
  have hg1 := HG1.out.below hb
  have hbb := Hb.out.trans (hb.mono Hb.out.size)
  clear HG Hb HP1 HP2 HG1 HC; have HG := Lib.hid hg; have Hb := Lib.hid hbb; have HP1 := Lib.hid hp1; have HP2 := Lib.hid hp2; have HG1 := Lib.hid hg1; have HQ := Lib.hid hqc; clear hg hbb hp1 hp2 hb hg1 hqc hQ hv
  dsimp only
  have hlit := Bytes.made (xs := [1, 1, 0, 0, 0, 0, 0, 0, 0, 0, 0, 0, 0]) w5 5 (0, 0) (u8_lit (by decide))
  have hsz5 : Below w5.heap.size w5 (w5.alloc (.cells (List.map (fun x : Nat => Value.int .u8 (x : Nat)) [1, 1, 0, 0, 0, 0, 0, 0, 0, 0, 0, 0, 0]).toArray 5 (0, 0))) := (Below.refl _ _).alloc (Nat.le_refl _) _
  have hc := sameBytes_any _ _ P1 _ pc1 13 _ (HP1.out.below hsz5) hlit
  rw [show sameB [1, 1, 0, 0, 0, 0, 0, 0, 0, 0, 0, 0, 0] [1, 1, 0, 0, 0, 0, 0, 0, 0, 0, 0, 0, 0] = true by decide] at hc
  have HC := Lib.hid hc; have HS5 := Lib.hid hsz5; clear hc hlit hsz5
  go_wp2_with fail
  refine HC.out.mono ?_; rintro e w0 ⟨rfl, rfl⟩
  dsimp only
  have hb := HS5.out
  have hg := HG.out.below hb
  have hp2 := HP2.out.below hb
  have hg1 := HG1.out.below hb
  have hbb := Hb.out.trans (hb.mono Hb.out.size)
  have hqq := HQ.out _ hb
  have HQQ := Lib.hid HQ.out
  clear HG Hb HP1 HP2 HG1 HC HQ HS5
  generalize (w5.alloc (.cells (List.map (fun x : Nat => Value.int .u8 (x : Nat)) [1, 1, 0, 0, 0, 0, 0, 0, 0, 0, 0, 0, 0]).toArray 5 (0, 0))) = w6 at *
  have hlit := Bytes.made (xs := [2, 1, 0, 0, 0, 0, 0, 0, 0, 0, 0, 0, 0, 2, 3, 255, 255, 255, 255, 255, 255, 255, 255, 0, 1, 0]) w6 5 (0, 0) (u8_lit (by decide))
  have hsz6 : Below w6.heap.size w6 (w6.alloc (.cells (List.map (fun x : Nat => Value.int .u8 (x : Nat)) [2, 1, 0, 0, 0, 0, 0, 0, 0, 0, 0, 0, 0, 2, 3, 255, 255, 255, 255, 255, 255, 255, 255, 0, 1, 0]).toArray 5 (0, 0))) := (Below.refl _ _).alloc (Nat.le_refl _) _
  have hc := sameBytes_any _ _ P2 _ pc2 26 _ (hp2.below hsz6) hlit
  rw [show sameB [2, 1, 0, 0, 0, 0, 0, 0, 0, 0, 0, 0, 0, 2, 3, 255, 255, 255, 255, 255, 255, 255, 255, 0, 1, 0] [2, 1, 0, 0, 0, 0, 0, 0, 0, 0, 0, 0, 0, 2, 3, 255, 255, 255, 255, 255, 255, 255, 255, 0, 1, 0] = true by decide] at hc
  have HC := Lib.hid hc
  have hg' := hg.below hsz6
  have hg1' := hg1.below hsz6
  have hbb' := hbb.trans (hsz6.mono hbb.size)
  have hq' := hb.trans (hsz6.mono hb.size)
  have HG := Lib.hid hg'; have HG1 := Lib.hid hg1'; have Hb := Lib.hid hbb'; have HQB := Lib.hid hq'
  clear hc hlit hg' hg1' hbb' hq' hg hg1 hbb hp2 hqq hb hsz6
  go_wp2_with fail
  refine HC.out.mono ?_; rintro e w0 ⟨rfl, rfl⟩
  clear HC
  dsimp only
  generalize (w6.alloc (.cells (List.map (fun x : Nat => Value.int .u8 (x : Nat)) [2, 1, 0, 0, 0, 0, 0, 0, 0, 0, 0, 0, 0, 2, 3, 255, 255, 255, 255, 255, 255, 255, 255, 0, 1, 0]).toArray 5 (0, 0))) = w7 at *
  have hc := flowSame_any _ G1 [wk1, wk2 w.heap.size] l1 2 gc1 w7 HG.out HG1.out (show 2 ≤ maxLen by decide) HL1.out
  rw [HN1.out, ← sameN_yes rfl] at hc
  have HC := Lib.hid hc; clear hc
  go_wp2_with fail
  refine HC.out.mono ?_; rintro e w8 ⟨rfl, hb⟩
  have Hb8 := Lib.hid (Hb.out.trans (hb.mono Hb.out.size))
  have HQ8 := Lib.hid (HQB.out.trans (hb.mono HQB.out.size)); clear hb HC
  obtain ⟨q1, q2⟩ := HQQ.out w8 HQ8.out
  rw [show qo + 0 * 2 = qo by omega] at q1 q2
  dsimp only
  go_wp2_with fail
  go_ret
  exact ⟨rfl, Hb8.out⟩
end Go.Proofs.Ytmjbclinlojboaa
