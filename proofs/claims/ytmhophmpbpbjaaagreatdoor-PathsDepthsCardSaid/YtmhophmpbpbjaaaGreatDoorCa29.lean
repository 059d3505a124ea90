/- PlWorks, ChkSi, PlSi -/
import Derived.Test.YtmhophmpbpbjaaaGreatDoorCa25
import Derived.Test.YtmhophmpbpbjaaaGreatDoorCa28
import Derived.Test.YtmhophmpbpbjaaaGreatDoorCards
import Derived.Test.YtmhophmpbpbjaaaGreatDoorTie
import Derived.SevenTiedAt
import Derived.Test.YtmhophmpbpbjaaaGreatDoorCa8
namespace Go.Proofs.YtmhophmpbpbjaaaGreatDoor
set_option linter.unusedVariables false
section
open Go.ChangeShapes Go.WideShapes Go.ChangeAt Go.RowKit Go.BigFrame
set_option maxRecDepth 100000
def FewD (g : List Nd) (w : World) (e : Ending) (w' : World) : Prop := (∃ b, e = .returned (.bool b) ∧ (b = true → insB g 14 = true)) ∧ w = w'
theorem few_no (g : List Nd) (w : World) : FewD g w (.returned (.bool false)) w := ⟨⟨false, rfl, fun h => by cases h⟩, rfl⟩
theorem few_yes {g : List Nd} (h : insB g 14 = true) (w : World) : FewD g w (.returned (.bool true)) w := ⟨⟨true, rfl, fun _ => h⟩, rfl⟩
set_option maxHeartbeats 1000000 in
theorem few_any (A : Option Addr) (l : List Gn) (c : Nat) (w : World) (hG : Gr w A l) (hl : l.length ≤ maxLen) :
    Calls Tryz.prog 9 #[.slice A l.length c] w (FewD (nds l) w) := by
  have h1 := ins_any A l c 14 w hG hl
  unfold maxLen at hl
  have HG := Lib.hid hG; clear hG
  cases e1 : insB (nds l) 14 with
  | false =>
    rw [e1] at h1; clear e1; have H1 := Lib.hid h1; clear h1
    go_enter Tryz.func9, Tryz.ntmps9
    go_wp2_with fail
    refine H1.out.mono ?_; rintro e w0 ⟨rfl, rfl⟩
    dsimp only
    go_wp2_with fail
    go_ret
    exact few_no _ _
  | true =>
    have HE := Lib.hid e1; rw [e1] at h1; clear e1; have H1 := Lib.hid h1; clear h1
    go_enter Tryz.func9, Tryz.ntmps9
    go_wp2_with fail
    refine H1.out.mono ?_; rintro e w0 ⟨rfl, rfl⟩
    dsimp only
    go_wp2_with fail
    go_loop [3] (fun i => ∃ k : Nat, k ≤ l.length ∧ i = .int .i64 k) (fun i => l.length - (intOf i).toNat)
    case atStart => exact ⟨0, by omega, rfl⟩
    case round =>
      obtain ⟨k, hk, rfl⟩ := hrel
      by_cases hlt : k < l.length
      · have hltz : (k : Int) < (l.length : Int) := by omega
        obtain ⟨x, hx⟩ : ∃ x, l[k]? = some x := ⟨_, List.getElem?_eq_getElem hlt⟩
        obtain ⟨b, o, rfl, hbl, hcl⟩ := HG.out.at_ hx
        obtain ⟨c0, c1, c2, c3, c4⟩ := hcl w (Below.refl _ _)
        clear hx hcl
        by_cases h9 : x.nd.k = 9
        · have h9z : (((x.nd.k : Nat) : Int) == 9) = true := by simp; omega
          clear h9
          by_cases h2 : 2 < x.nd.d
          · go_wp2_with fail
            go_ret
            exact few_no _ _
          · go_wp2_with fail
            go_round
            case rel => exact ⟨k + 1, by omega, by simp⟩
            case measure => simp [intOf]; omega
        · have h9z : (((x.nd.k : Nat) : Int) == 9) = false := by simp; omega
          clear h9
          go_wp2_with fail
          go_round
          case rel => exact ⟨k + 1, by omega, by simp⟩
          case measure => simp [intOf]; omega
      · have hltz : ¬ (k : Int) < (l.length : Int) := by omega
        go_wp2_with fail
        go_ret
        exact few_yes HE.out _
def waygL (w : World) : List Gn := [⟨⟨1, 0, 0, 0, []⟩, none, 0⟩, ⟨⟨7, 0, 0, 1, [0]⟩, some ⟨w.heap.size + 0, 0, none⟩, 1⟩, ⟨⟨4, 0, 0, 1, [1, 3]⟩, some ⟨w.heap.size + 1, 0, none⟩, 2⟩, ⟨⟨9, 0, 2, 1, [2]⟩, some ⟨w.heap.size + 2, 0, none⟩, 1⟩, ⟨⟨8, 0, 0, 0, [2]⟩, some ⟨w.heap.size + 3, 0, none⟩, 1⟩, ⟨⟨10, 0, 0, 0, [4]⟩, some ⟨w.heap.size + 4, 0, none⟩, 1⟩]
def waygO (w : World) : List Obj := [.cells (Rw.row kindI [0]).toArray 3, .cells (Rw.row kindI [1, 3]).toArray 3, .cells (Rw.row kindI [2]).toArray 3, .cells (Rw.row kindI [2]).toArray 3, .cells (Rw.row kindI [4]).toArray 3, .cells (Rw.row kindG (waygL w)).toArray 35]
theorem wayg_gr (w : World) : Gr ((waygO w).foldl World.alloc w) (some ⟨w.heap.size + 5, 0, none⟩) (waygL w) := by
  refine ⟨allocs_nodes (waygO w) w (waygL w) rfl, fun x hx => ?_⟩
  unfold waygL at hx
  simp only [List.mem_cons, List.not_mem_nil, or_false] at hx
  rcases hx with rfl | rfl | rfl | rfl | rfl | rfl
  · exact ⟨ok_small _ _ _ _ _ _ _ (by decide) (by simp), Rw.Ts.nil⟩
  · exact ⟨ok_small _ _ _ _ _ _ _ (by decide) (by simp), allocs_ints (waygO w) w [0] rfl⟩
  · exact ⟨ok_small _ _ _ _ _ _ _ (by decide) (by simp), allocs_ints (waygO w) w [1, 3] rfl⟩
  · exact ⟨ok_small _ _ _ _ _ _ _ (by decide) (by simp), allocs_ints (waygO w) w [2] rfl⟩
  · exact ⟨ok_small _ _ _ _ _ _ _ (by decide) (by simp), allocs_ints (waygO w) w [2] rfl⟩
  · exact ⟨ok_small _ _ _ _ _ _ _ (by decide) (by simp), allocs_ints (waygO w) w [4] rfl⟩
theorem wayg_below (w : World) : Below w.heap.size w ((waygO w).foldl World.alloc w) := allocs_below (waygO w) (Below.refl _ _) (Nat.le_refl _)
theorem wayg_nds (w : World) : nds (waygL w) = wayN := rfl
theorem way_fine : Fine wayN := fine_of (checkR_zero (by rw [ex_way])).2.1
theorem own_sum {w : World} {base : Nat} {v : Value} {s : Sm} (h : w.ownsRow base 44 kindS.K v ([s] : List Sm).length (Rw.row kindS [s])) : ∃ b o c, v = .slice (some ⟨b, o, none⟩) 1 c ∧
    w.cell? ⟨b, o, none⟩ = some (.int .i64 s.fr) ∧ w.cell? ⟨b, o + 1, none⟩ = some (.int .i64 s.to) ∧ w.cell? ⟨b, o + 2, none⟩ = some (.int .i64 s.kp) ∧ w.cell? ⟨b, o + 3, none⟩ = some (.int .i64 s.ad) ∧ w.cell? ⟨b, o + 4, none⟩ = some (.int .i64 s.t0) ∧ w.cell? ⟨b, o + 5, none⟩ = some (.int .i64 s.t1) ∧ w.cell? ⟨b, o + 6, none⟩ = some (.int .i64 s.t2) := by
  obtain ⟨A, c, rfl, hT, _⟩ := Rw.Ts.of_own (κ := kindS) (ts := [s]) h
  have hT' : Mx.Ts w A [s] := hT
  obtain ⟨b, o, rfl, _, hc⟩ := Mx.Ts.five hT' (i := 0) rfl
  have := hc w (Below.refl _ _)
  simp only [Nat.zero_mul, Nat.add_zero] at this
  exact ⟨b, o, c, rfl, this⟩
theorem own_time {w : World} {base : Nat} {v : Value} {t : St} (h : w.ownsRow base 49 5 v ([t] : List St).length (rowS [t])) : ∃ b o c, v = .slice (some ⟨b, o, none⟩) 1 c ∧
    w.cell? ⟨b, o, none⟩ = some (.int .i64 t.d) ∧ w.cell? ⟨b, o + 1, none⟩ = some (.int .i64 t.e) ∧ w.cell? ⟨b, o + 2, none⟩ = some (.int .i64 t.x) ∧ w.cell? ⟨b, o + 3, none⟩ = some (.int .i64 t.y) ∧ w.cell? ⟨b, o + 4, none⟩ = some (.int .i64 t.z) := by
  obtain ⟨A, c, rfl, hT, _⟩ := Rw.Ts.of_own (κ := kindU) (ts := [t]) h
  have hT' : Ts w A [t] := hT
  obtain ⟨b, o, rfl, _, hc⟩ := Ts.five hT' (i := 0) rfl
  have := hc w (Below.refl _ _)
  simp only [Nat.zero_mul, Nat.add_zero] at this
  exact ⟨b, o, c, rfl, this⟩
structure WkS (w wx : World) (p F : Nat) (A : Option Addr) (c : Nat) (lg : List Gn) (b : Nat) : Prop where
  pth : ∃ fs, Pth wx b p F A c lg fs
  base : w.heap.size ≤ b
  below : Below w.heap.size w wx
theorem WkS.on {w wx wy : World} {p F c b : Nat} {A : Option Addr} {lg : List Gn} (h : WkS w wx p F A c lg b) (hp : ∃ fs, Pth wy b p F A c lg fs) (ht : Touch (fun k => k = F) wx wy) : WkS w wy p F A c lg b := by
  obtain ⟨fs, hP⟩ := h.pth
  exact ⟨hp, h.base, h.below.trans (ht.below (fun k hk => by subst hk; exact Nat.le_trans h.base hP.lo.2) h.below.size)⟩
theorem WkS.own {w wx wy : World} {p F c b : Nat} {A : Option Addr} {lg : List Gn} (h : WkS w wx p F A c lg b) (ht : Touch (fun k => k = F) wx wy) {base K n : Nat} {T : TypeId} {v : Value} {xs : List Value} (ho : wx.ownsRow base T K v n xs) (hT : 143 ≠ T) : wy.ownsRow base T K v n xs := by
  obtain ⟨fs, hP⟩ := h.pth
  exact own_touchF ho hP.fans hT ht
set_option maxHeartbeats 16000000 in
theorem plWorks_any (w : World) (hT : Tab w) : Calls Tryz.prog 10 #[] w fun e w' => e = .returned (.bool true) ∧ Below w.heap.size w w' := by
  have HG := Lib.hid (wayg_gr w)
  have HB := Lib.hid (wayg_below w)
  have HT := Lib.hid (hT.below (wayg_below w)); clear hT
  go_enter Tryz.func10, Tryz.ntmps10
  go_wp2_with fail
  refine (new_good _ (waygL w) 6 _ HT.out HG.out (by show 6 ≤ 40; decide) (by rw [wayg_nds]; decide) (show 6 ≤ 6 ∧ 6 ≤ maxLen by decide) (fun e => by cases e) (by rw [wayg_nds, ex_way])).mono ?_
  rintro e w1 ⟨⟨p, F, A, c, l', rfl, hn, hP⟩, hb⟩
  rw [wayg_nds] at hn
  have hk : WkS w w1 p F A c l' _ := ⟨⟨_, hP⟩, HB.out.size, HB.out.trans (hb.mono HB.out.size)⟩
  generalize ((waygO w).foldl World.alloc w).heap.size = b at *
  have hl : l'.length = 6 := by rw [← nds_len, hn]; rfl
  have hI : ∀ x ∈ nds l', x.ins.length ≤ 40 := by rw [hn]; decide
  have hFi : Fine (nds l') := by rw [hn]; exact way_fine
  have HK := Lib.hid hk; have HN := Lib.hid hn; have HL := Lib.hid hl; have HI := Lib.hid hI; have HFI := Lib.hid hFi
  clear hk hn hl hI hFi hP hb HG HB HT
  dsimp only
  go_wp2_with fail
  obtain ⟨fs1, hP1⟩ := HK.out.pth
  refine (ways_any p F c b A l' fs1 0 1 w1 hP1 (by have := HL.out; omega) HI.out HFI.out).mono ?_
  rintro e w2 ⟨⟨v2, l, rfl, hw, ho⟩, hp, ht⟩
  rw [HN.out] at hw
  obtain rfl := ex_01 hw
  have h2 := HK.out.on hp ht; clear HK hP1; have HK := Lib.hid h2; have HO2 := Lib.hid ho; clear h2 ho hw hp ht
  dsimp only
  go_wp2_with fail
  obtain ⟨fs2, hP2⟩ := HK.out.pth
  refine (ways_any p F c b A l' fs2 0 2 w2 hP2 (by have := HL.out; omega) HI.out HFI.out).mono ?_
  rintro e w3 ⟨⟨v3, l, rfl, hw, ho⟩, hp, ht⟩
  rw [HN.out] at hw
  obtain rfl := ex_02 hw
  have h2 := HK.out.own ht HO2.out (by decide); clear HO2; have HO2 := Lib.hid h2; clear h2
  have h2 := HK.out.on hp ht; clear HK hP2; have HK := Lib.hid h2; have HO3 := Lib.hid ho; clear h2 ho hw hp ht
  dsimp only
  go_wp2_with fail
  obtain ⟨fs3, hP3⟩ := HK.out.pth
  refine (ways_any p F c b A l' fs3 2 2 w3 hP3 (by have := HL.out; omega) HI.out HFI.out).mono ?_
  rintro e w4 ⟨⟨v4, l, rfl, hw, ho⟩, hp, ht⟩
  rw [HN.out] at hw
  obtain rfl := ex_22 hw
  have h2 := HK.out.own ht HO2.out (by decide); clear HO2; have HO2 := Lib.hid h2; clear h2
  have h2 := HK.out.own ht HO3.out (by decide); clear HO3; have HO3 := Lib.hid h2; clear h2
  have h2 := HK.out.on hp ht; clear HK hP3; have HK := Lib.hid h2; have HO4 := Lib.hid ho; clear h2 ho hw hp ht
  dsimp only
  go_wp2_with fail
  obtain ⟨fs4, hP4⟩ := HK.out.pth
  refine (comes_any p F c b A l' fs4 2 5 ⟨1, 4, 2, 0, 0⟩ w4 hP4 (by have := HL.out; omega) HI.out HFI.out).mono ?_
  rintro e w5 ⟨⟨v5, l, rfl, hw, ho⟩, hp, ht⟩
  rw [HN.out] at hw
  obtain rfl := ex_25 hw
  rw [ex_c25] at ho
  have h2 := HK.out.own ht HO2.out (by decide); clear HO2; have HO2 := Lib.hid h2; clear h2
  have h2 := HK.out.own ht HO3.out (by decide); clear HO3; have HO3 := Lib.hid h2; clear h2
  have h2 := HK.out.own ht HO4.out (by decide); clear HO4; have HO4 := Lib.hid h2; clear h2
  have h2 := HK.out.on hp ht; clear HK hP4; have HK := Lib.hid h2; have HO5 := Lib.hid ho; clear h2 ho hw hp ht
  dsimp only
  go_wp2_with fail
  obtain ⟨fs5, hP5⟩ := HK.out.pth
  refine (comes_any p F c b A l' fs5 0 2 ⟨0, 4, 0, 0, 0⟩ w5 hP5 (by have := HL.out; omega) HI.out HFI.out).mono ?_
  rintro e w6 ⟨⟨v6, l, rfl, hw, ho⟩, hp, ht⟩
  rw [HN.out] at hw
  obtain rfl := ex_02 hw
  rw [ex_c02] at ho
  have h2 := HK.out.own ht HO2.out (by decide); clear HO2; have HO2 := Lib.hid h2; clear h2
  have h2 := HK.out.own ht HO3.out (by decide); clear HO3; have HO3 := Lib.hid h2; clear h2
  have h2 := HK.out.own ht HO4.out (by decide); clear HO4; have HO4 := Lib.hid h2; clear h2
  have h2 := HK.out.own ht HO5.out (by decide); clear HO5; have HO5 := Lib.hid h2; clear h2
  have h2 := HK.out.on hp ht; clear HK hP5; have HK := Lib.hid h2; have HO6 := Lib.hid ho; clear h2 ho hw hp ht
  dsimp only
  obtain ⟨b2, o2, c2, rfl, q20, q21, q22, q23, q24, q25, q26⟩ := own_sum HO2.out
  obtain ⟨b3, o3, c3, rfl, q30, q31, q32, q33, q34, q35, q36⟩ := own_sum HO3.out
  obtain ⟨b4, o4, c4, rfl, q40, q41, q42, q43, q44, q45, q46⟩ := own_sum HO4.out
  obtain ⟨b5, o5, c5, rfl, q50, q51, q52, q53, q54⟩ := own_time HO5.out
  obtain ⟨b6, o6, c6, rfl, q60, q61, q62, q63, q64⟩ := own_time HO6.out
  clear HO2 HO3 HO4 HO5 HO6
  have heq3 := fun x y z w => eq3 9997 x y z x y z w
  simp only [and_self, decide_true] at heq3
  go_wp2_with fail
  obtain ⟨fs6, hP6⟩ := HK.out.pth
  refine (comes_any p F c b A l' fs6 5 0 ⟨0, 4, 0, 0, 0⟩ w6 hP6 (by have := HL.out; omega) HI.out HFI.out).mono ?_
  rintro e w7 ⟨⟨v7, l, rfl, hw, ho⟩, hp, ht⟩
  rw [HN.out] at hw
  obtain rfl := ex_50 hw
  obtain ⟨A7, c7, rfl, _⟩ := Rw.Ts.of_own (κ := kindU) (ts := []) ho
  have h2 := HK.out.on hp ht; clear HK hP6; have HK := Lib.hid h2; clear h2 ho hw hp ht
  dsimp only
  go_wp2_with fail
  go_ret
  exact ⟨rfl, HK.out.below⟩
end

section
theorem si_graph : Tryz.prog.wantsStandIn 23 = false := by kernel_rfl
theorem si_int : Tryz.prog.wantsStandIn 3 = false := by kernel_rfl
theorem si_u8 : Tryz.prog.wantsStandIn 5 = false := by kernel_rfl
end

section
theorem si_stamp : Tryz.prog.wantsStandIn 49 = false := by kernel_rfl
theorem few_nds {l : List Gn} (h : insB (nds l) 14 = true) : l.length ≤ 14 ∧ ∀ x ∈ nds l, x.ins.length ≤ 40 := by
  unfold insB at h
  rw [decide_eq_true_iff, nds_len] at h
  exact ⟨by omega, fun x hx => by have := h.2 x hx; omega⟩
end
end Go.Proofs.YtmhophmpbpbjaaaGreatDoor
