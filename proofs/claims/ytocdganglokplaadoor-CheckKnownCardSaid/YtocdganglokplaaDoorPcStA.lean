/- PcLeads, PcStuck -/
import Derived.Test.YtocdganglokplaaDoorPcBitA
import Derived.Test.YtocdganglokplaaDoorPcRules
import Derived.Laws.Tables
import Derived.RegionTactic
import Derived.BigRegion
import Derived.ChangeAlike
import Derived.Deep.DeepCutAuto
namespace Go.Proofs.YtocdganglokplaaDoor
set_option linter.unusedVariables false
section
open Go.ChangeShapes Go.WideShapes Go.ChangeAt Go.RowKit Go.BigFrame
set_option maxRecDepth 100000
@[reducible] def U32 (m : Nat) : Value := .int .u32 (m : Nat)
/-- 32 sets, row by row what S says -/
structure BitsAre (M : List Nat) (S : Nat → Nat → Prop) : Prop where
  len : M.length = 32
  lt : ∀ m ∈ M, m < 4294967296
  is : ∀ (a m j : Nat), M[a]? = some m → (m.testBit j = true ↔ S a j)
theorem BitsAre.start : BitsAre (List.replicate 32 0) (fun _ _ => False) := ⟨List.length_replicate, fun m hm => by rw [List.eq_of_mem_replicate hm]; omega, fun a m j h => by
  rw [List.eq_of_mem_replicate (List.mem_of_getElem? h)]; simp⟩
theorem BitsAre.congr {M : List Nat} {S T : Nat → Nat → Prop} (h : BitsAre M S) (e : ∀ a j, a < 32 → (S a j ↔ T a j)) : BitsAre M T := ⟨h.len, h.lt, fun a m j hm => by
  rw [h.is a m j hm]
  exact e a j (by have := (List.getElem?_eq_some_iff.1 hm).1; rw [h.len] at this; exact this)⟩
theorem BitsAre.at_ {M : List Nat} {S : Nat → Nat → Prop} (h : BitsAre M S) {a : Nat} (ha : a < 32) : ∃ m, M[a]? = some m ∧ m < 4294967296 := by
  obtain ⟨m, hm⟩ : ∃ m, M[a]? = some m := ⟨_, List.getElem?_eq_getElem (by rw [h.len]; exact ha)⟩
  exact ⟨m, hm, h.lt m (List.mem_of_getElem? hm)⟩
theorem BitsAre.put {M : List Nat} {S : Nat → Nat → Prop} (h : BitsAre M S) {z m k : Nat} (hz : M[z]? = some m) (hk : k < 32) : BitsAre (M.set z (m ||| 2 ^ k)) (fun a j => S a j ∨ (a = z ∧ j = k)) := by
  have hl := (List.getElem?_eq_some_iff.1 hz).1
  refine ⟨by rw [List.length_set]; exact h.len, fun x hx => ?_, fun a x j hx => ?_⟩
  · rcases List.mem_or_eq_of_mem_set hx with hx | rfl
    · exact h.lt x hx
    · exact with_lt (h.lt m (List.mem_of_getElem? hz)) hk
  · by_cases e : z = a
    · subst e
      rw [List.getElem?_set_self hl] at hx
      injection hx with hx; subst hx
      rw [with_test, Bool.or_eq_true, h.is z m j hz, decide_eq_true_eq]
      constructor
      · rintro (h | h)
        · exact .inl h
        · exact .inr ⟨rfl, h.symm⟩
      · rintro (h | ⟨_, h⟩)
        · exact .inl h
        · exact .inr h.symm
    · rw [List.getElem?_set_ne e] at hx
      rw [h.is a x j hx]
      exact ⟨.inl, fun h => h.elim id fun h => absurd h.1.symm e⟩
theorem BitsAre.join {M : List Nat} {S : Nat → Nat → Prop} (h : BitsAre M S) {i b m n : Nat} (hi : M[i]? = some m) (hb : M[b]? = some n) : BitsAre (M.set i (m ||| n)) (fun a j => S a j ∨ (a = i ∧ S b j)) := by
  have hl := (List.getElem?_eq_some_iff.1 hi).1
  refine ⟨by rw [List.length_set]; exact h.len, fun x hx => ?_, fun a x j hx => ?_⟩
  · rcases List.mem_or_eq_of_mem_set hx with hx | rfl
    · exact h.lt x hx
    · exact or_lt32 (h.lt m (List.mem_of_getElem? hi)) (h.lt n (List.mem_of_getElem? hb))
  · by_cases e : i = a
    · subst e
      rw [List.getElem?_set_self hl] at hx
      injection hx with hx; subst hx
      rw [Nat.testBit_or, Bool.or_eq_true, h.is i m j hi, h.is b n j hb]
      exact ⟨fun h => h.elim .inl fun h => .inr ⟨rfl, h⟩, fun h => h.elim .inl fun h => .inr h.2⟩
    · rw [List.getElem?_set_ne e] at hx
      rw [h.is a x j hx]
      exact ⟨.inl, fun h => h.elim id fun h => absurd h.1.symm e⟩
/-- a feeds b, and both are some of ov -/
def FeedsO (g : List Nd) (ov a b : Nat) : Prop := ∃ y, g[b]? = some y ∧ ((a : Nat) : Int) ∈ y.ins ∧ ov.testBit a = true ∧ ov.testBit b = true
/-- what leads answers -/
def LeadsD (g : List Nd) (ov : Nat) (w : World) (e : Ending) (w' : World) : Prop := (∃ M, e = .returned (.agg (M.map U32).toArray) ∧ BitsAre M (Plus (FeedsO g ov))) ∧ Below w.heap.size w w'
/-- the sets in their block, the result's block as it was made, and nothing else turned -/
structure Sets (w0 w : World) (M : List Nat) : Prop where
  row : Row w (w0.heap.size + 1) 79 (M.map U32)
  res : Row w w0.heap.size 79 ((List.replicate 32 0).map U32)
  below : Below w0.heap.size w0 w
theorem Sets.alloc {w0 w : World} {M : List Nat} (h : Sets w0 w M) (o : Obj) : Sets w0 (w.alloc o) M := ⟨h.row.alloc o, h.res.alloc o, h.below.alloc h.below.size o⟩
theorem Sets.drew {w0 w : World} {M : List Nat} (h : Sets w0 w M) : Sets w0 w.drew M := ⟨h.row.drew, h.res.drew, h.below.drew⟩
theorem Sets.put {w0 w : World} {M : List Nat} (h : Sets w0 w M) (z m : Nat) : Sets w0 (w.setCell ⟨w0.heap.size + 1, z, none⟩ (.int .u32 (m : Nat))) (M.set z m) := ⟨by rw [List.map_set]; exact h.row.put z (U32 m), h.res.far (by simp) _, h.below.setCell (by simp) _⟩
theorem Sets.cell {w0 w : World} {z m : Nat} {M : List Nat} (h : Sets w0 w M) (hz : M[z]? = some m) : w.cell? ⟨w0.heap.size + 1, z, none⟩ = some (.int .u32 (m : Nat)) := by rw [h.row.cell, List.getElem?_map, hz]; rfl
theorem Sets.start (w : World) : Sets w ((w.alloc (.cells ((List.replicate 32 0).map U32).toArray 79)).alloc (.cells ((List.replicate 32 0).map U32).toArray 79)) (List.replicate 32 0) where
  row := by
    have := Row.made (w.alloc (.cells ((List.replicate 32 0).map U32).toArray 79)) 79 ((List.replicate 32 0).map U32)
    rw [show (w.alloc (.cells ((List.replicate 32 0).map U32).toArray 79)).heap.size = w.heap.size + 1 by simp] at this
    exact this
  res := (Row.made w 79 ((List.replicate 32 0).map U32)).alloc _
  below := ((Below.refl _ w).alloc (Nat.le_refl _) _).alloc (by simp) _
theorem feedsO_lt {g : List Nd} {ov a b : Nat} (hP : ∀ x ∈ g, ∀ z ∈ x.ins, portOk g z) (h : FeedsO g ov a b) : a < g.length ∧ b < g.length := by
  obtain ⟨y, hy, hin, _⟩ := h
  obtain ⟨_, m, hm, _⟩ := hP y (List.mem_of_getElem? hy) _ hin
  rw [Int.toNat_natCast] at hm
  exact ⟨(List.getElem?_eq_some_iff.1 hm).1, (List.getElem?_eq_some_iff.1 hy).1⟩
theorem way_lt {g : List Nd} {ov a j k : Nat} (hP : ∀ x ∈ g, ∀ z ∈ x.ins, portOk g z) (h : Way (FeedsO g ov) k a j) : a < g.length := by
  obtain ⟨b, hb⟩ := h.plus.first
  exact (feedsO_lt hP hb).1
theorem take_more {xi : List Int} {p : Nat} {z a : Int} (hz : xi[p]? = some z) : a ∈ xi.take (p + 1) ↔ (a ∈ xi.take p ∨ a = z) := by
  rw [List.take_add_one, hz, Option.toList_some, List.mem_append, List.mem_singleton]
/-- row by row, what feeds the first k nodes, and the first p inputs of the next one -/
def SomeF (g : List Nd) (ov k : Nat) (xs : List Int) (a j : Nat) : Prop := (j < k ∧ FeedsO g ov a j) ∨ (j = k ∧ ((a : Nat) : Int) ∈ xs ∧ ov.testBit a = true ∧ ov.testBit k = true)
theorem someF_start {g : List Nd} {ov k a j : Nat} : (j < k ∧ FeedsO g ov a j) ↔ SomeF g ov k [] a j := by unfold SomeF; simp
theorem someF_skip {g : List Nd} {ov k a j p Z : Nat} {xi : List Int} (hz : xi[p]? = some (Z : Int)) (hn : ¬ (ov.testBit Z = true ∧ ov.testBit k = true)) : SomeF g ov k (xi.take p) a j ↔ SomeF g ov k (xi.take (p + 1)) a j := by
  unfold SomeF
  rw [take_more hz]
  constructor
  · rintro (h | ⟨h1, h2, h3⟩)
    · exact .inl h
    · exact .inr ⟨h1, .inl h2, h3⟩
  · rintro (h | ⟨h1, h2, h3⟩)
    · exact .inl h
    · refine .inr ⟨h1, h2.elim id fun e => ?_, h3⟩
      have : a = Z := by omega
      subst this
      exact absurd h3 hn
theorem someF_put {g : List Nd} {ov k a j p Z : Nat} {xi : List Int} (hz : xi[p]? = some (Z : Int)) (h1 : ov.testBit Z = true) (h2 : ov.testBit k = true) : (SomeF g ov k (xi.take p) a j ∨ (a = Z ∧ j = k)) ↔ SomeF g ov k (xi.take (p + 1)) a j := by
  unfold SomeF
  rw [take_more hz]
  constructor
  · rintro ((h | ⟨h1, h2, h3⟩) | ⟨rfl, rfl⟩)
    · exact .inl h
    · exact .inr ⟨h1, .inl h2, h3⟩
    · exact .inr ⟨rfl, .inr rfl, h1, h2⟩
  · rintro (h | ⟨h1, h2, h3⟩)
    · exact .inl (.inl h)
    · rcases h2 with h2 | e
      · exact .inl (.inr ⟨h1, h2, h3⟩)
      · exact .inr ⟨by omega, h1⟩
theorem someF_end {g : List Nd} {ov k a j : Nat} {x : Nd} (hx : g[k]? = some x) : SomeF g ov k x.ins a j ↔ (j < k + 1 ∧ FeedsO g ov a j) := by
  unfold SomeF
  constructor
  · rintro (⟨h1, h2⟩ | ⟨rfl, h2, h3, h4⟩)
    · exact ⟨by omega, h2⟩
    · exact ⟨by omega, x, hx, h2, h3, h4⟩
  · rintro ⟨h1, h2⟩
    by_cases e : j = k
    · subst e
      obtain ⟨y, hy, h3, h4, h5⟩ := h2
      rw [hx] at hy; injection hy with hy; subst hy
      exact .inr ⟨rfl, h3, h4, h5⟩
    · exact .inl ⟨by omega, h2⟩
theorem info79 : (Tryd.prog.info? 79).map (·.size) = some 32 := by kernel_rfl
theorem setRow_row {w : World} {g : Nat} {t : TypeId} {l l' : List Value} (h : Row w g t l) : Row (w.setRow g l'.toArray) g t l' := by
  unfold Row at h ⊢
  exact setRow_heap w g _ _ t _ h
theorem below_setRow {B : Nat} {a w : World} {g : Nat} {cs : Array Value} (h : Below B a w) (hg : B ≤ g) : Below B a (w.setRow g cs) :=
  h.trans ⟨rfl, rfl, rfl, by simp, fun k hk => by
    simp only [World.setRow, Array.getElem?_modify]
    rw [if_neg (by omega)]⟩
theorem way_round {E : Nat → Nat → Prop} {k i a j : Nat} : ((Way E k a j ∨ (a < i ∧ Way E k a k ∧ Way E k k j)) ∨ (a = i ∧ Way E k a k ∧ (Way E k k j ∨ (k < i ∧ Way E k k k ∧ Way E k k j)))) ↔ (Way E k a j ∨ (a < i + 1 ∧ Way E k a k ∧ Way E k k j)) := by
  constructor
  · rintro ((h | ⟨h1, h2, h3⟩) | ⟨h1, h2, h3⟩)
    · exact .inl h
    · exact .inr ⟨by omega, h2, h3⟩
    · refine .inr ⟨by omega, h2, ?_⟩
      rcases h3 with h3 | ⟨_, _, h3⟩
      · exact h3
      · exact h3
  · rintro (h | ⟨h1, h2, h3⟩)
    · exact .inl (.inl h)
    · by_cases e : a = i
      · exact .inr ⟨e, h2, .inl h3⟩
      · exact .inl (.inr ⟨by omega, h2, h3⟩)
set_option maxHeartbeats 16000000 in
theorem leads_any (A : Option Addr) (l : List Gn) (c ov : Nat) (w : World) (hG : Gr w A l) (hl : l.length ≤ 32) (hP : ∀ x ∈ nds l, ∀ z ∈ x.ins, portOk (nds l) z) (hov : ov < 4294967296) :
    Calls Tryd.prog 58 #[.slice A l.length c, .int .u32 ov] w (LeadsD (nds l) ov w) := by
  have HG := Lib.hid hG; have HP := Lib.hid hP; have HOV := Lib.hid hov; clear hG hP hov
  have HS0 := Lib.hid (Sets.start w)
  go_enter Tryd.func58, Tryd.ntmps58
  go_wp2_with fail
  go_loopw [14] (fun i wr => ∃ (k : Nat) (M : List Nat), k ≤ l.length ∧ i = .int .i64 k ∧ BitsAre M (fun a j => j < k ∧ FeedsO (nds l) ov a j) ∧ Sets w wr M) (fun i _ => l.length - (intOf i).toNat)
  case atStart => exact ⟨0, _, by omega, rfl, BitsAre.start.congr fun a j _ => by simp, HS0.out⟩
  case round =>
    obtain ⟨k, M, hk, rfl, hM, hS⟩ := hrel
    have HM := Lib.hid hM; have HS := Lib.hid hS; clear hM hS HS0
    by_cases hlt : k < l.length
    · have hltz : (k : Int) < (l.length : Int) := by omega
      obtain ⟨x, hx⟩ : ∃ x, l[k]? = some x := ⟨_, List.getElem?_eq_getElem hlt⟩
      have hxn : (nds l)[k]? = some x.nd := by unfold nds; rw [List.getElem?_map, hx]; rfl
      have hpx : ∀ z ∈ x.nd.ins, portOk (nds l) z := HP.out x.nd (List.mem_of_getElem? hxn)
      have hti := HG.out.ins hx
      have hxm : x.nd.ins.length ≤ maxLen := Nat.le_trans (HG.out.ok hx).c.1 (HG.out.ok hx).c.2
      unfold maxLen at hxm
      obtain ⟨⟨xk, xa, xb, xd, xi⟩, xA, xc⟩ := x
      obtain ⟨b, o, rfl, hbl, hcl⟩ := HG.out.at_ hx
      obtain ⟨c0, c1, c2, c3, c4⟩ := hcl wr HS.out.below
      simp only at hxn hpx hti hxm c0 c1 c2 c3 c4
      have HXN := Lib.hid hxn; have HPX := Lib.hid hpx; have HTI := Lib.hid hti; clear hx hxn hpx hti hcl
      go_wp2_with fail
      go_loopw [22] (fun i wx => ∃ (p : Nat) (M : List Nat), p ≤ xi.length ∧ i = .int .i64 p ∧ BitsAre M (SomeF (nds l) ov k (xi.take p)) ∧ Sets w wx M) (fun i _ => xi.length - (intOf i).toNat)
      case atStart => exact ⟨0, M, by omega, rfl, HM.out.congr fun a j _ => by rw [List.take_zero]; exact someF_start, HS.out.alloc _⟩
      case round =>
        obtain ⟨p, M, hp, rfl, hM, hS⟩ := hrel
        clear HM HS c0 c1 c2 c3 c4
        have HM := Lib.hid hM; have HS := Lib.hid hS; clear hM hS
        by_cases hlp : p < xi.length
        · have hpz : (p : Int) < (xi.length : Int) := by omega
          obtain ⟨z, hz⟩ : ∃ z, xi[p]? = some z := ⟨_, List.getElem?_eq_getElem hlp⟩
          obtain ⟨hz0, y, hy, _⟩ := HPX.out z (List.mem_of_getElem? hz)
          obtain ⟨Z, rfl⟩ : ∃ Z : Nat, z = (Z : Int) := Int.eq_ofNat_of_zero_le hz0
          have hZl : Z < l.length := by
            rw [Int.toNat_natCast] at hy
            have := (List.getElem?_eq_some_iff.1 hy).1
            rwa [nds_len] at this
          have hZ32 : (Z : Int) < 32 := by omega
          obtain ⟨bb, oo, rfl, hbb, hq⟩ := ints_at HTI.out hz
          have q0 := hq wr HS.out.below
          have HZ := Lib.hid hz; clear hy hz hq
          have h1 := pcHas_any ov Z wr HOV.out (by omega)
          have h2 := pcHas_any ov k wr HOV.out (by omega)
          cases e1 : ov.testBit Z with
          | false =>
            rw [e1] at h1
            have H1 := Lib.hid h1; have HN := Lib.hid (show ¬ (ov.testBit Z = true ∧ ov.testBit k = true) by rw [e1]; simp); clear h1 h2 e1
            go_wp2_with fail
            refine H1.out.mono ?_; rintro e w1 ⟨rfl, rfl⟩
            dsimp only
            go_wp2_with fail
            go_roundw
            case rel => exact ⟨p + 1, M, by omega, by simp, HM.out.congr fun a j _ => someF_skip HZ.out HN.out, HS.out⟩
            case measure => simp only [intOf]; omega
          | true =>
            rw [e1] at h1
            cases e2 : ov.testBit k with
            | false =>
              rw [e2] at h2
              have H1 := Lib.hid h1; have H2 := Lib.hid h2; have HN := Lib.hid (show ¬ (ov.testBit Z = true ∧ ov.testBit k = true) by rw [e2]; simp); clear h1 h2 e1 e2
              go_wp2_with fail
              refine H1.out.mono ?_; rintro e w1 ⟨rfl, rfl⟩
              dsimp only
              go_wp2_with fail
              refine H2.out.mono ?_; rintro e w1 ⟨rfl, rfl⟩
              dsimp only
              go_wp2_with fail
              go_roundw
              case rel => exact ⟨p + 1, M, by omega, by simp, HM.out.congr fun a j _ => someF_skip HZ.out HN.out, HS.out⟩
              case measure => simp only [intOf]; omega
            | true =>
              rw [e2] at h2
              obtain ⟨m, hm, hm32⟩ := HM.out.at_ (a := Z) (by omega)
              have d0 := HS.out.cell hm
              have f0 := HS.out.row.free Z
              have h3 := pcWith_any m k wr hm32 (by omega)
              have H1 := Lib.hid h1; have H2 := Lib.hid h2; have H3 := Lib.hid h3; have HE1 := Lib.hid e1; have HE2 := Lib.hid e2; have HMZ := Lib.hid hm; clear h1 h2 h3 e1 e2 hm
              go_wp2_with fail
              refine H1.out.mono ?_; rintro e w1 ⟨rfl, rfl⟩
              dsimp only
              go_wp2_with fail
              refine H2.out.mono ?_; rintro e w1 ⟨rfl, rfl⟩
              dsimp only
              go_wp2_with fail
              refine H3.out.mono ?_; rintro e w1 ⟨rfl, rfl⟩
              dsimp only
              go_wp2_with fail
              go_roundw
              case rel => exact ⟨p + 1, _, by omega, by simp, (HM.out.put HMZ.out (k := k) (by omega)).congr fun a j _ => someF_put HZ.out HE1.out HE2.out, HS.out.put Z _⟩
              case measure => simp only [intOf]; omega
        · have hpz : ¬ (p : Int) < (xi.length : Int) := by omega
          have hpe : p = xi.length := by omega
          have HPE := Lib.hid hpe; clear hpe
          go_wp2_with fail
          go_roundw
          case rel => exact ⟨k + 1, M, by omega, by simp, HM.out.congr fun a j _ => by rw [HPE.out, List.take_length]; exact someF_end (x := ⟨xk, xa, xb, xd, xi⟩) HXN.out, HS.out⟩
          case measure => simp only [intOf]; omega
    · have hltz : ¬ (k : Int) < (l.length : Int) := by omega
      have hke : k = l.length := by omega
      have HM1 : Hid (BitsAre M (Way (FeedsO (nds l) ov) 0)) := Lib.hid (HM.out.congr fun a j _ => ⟨And.right, fun h => ⟨by have := (feedsO_lt HP.out h).2; rw [nds_len] at this; omega, h⟩⟩)
      clear HM hke
      go_wp2_with fail
      go_loopw [45] (fun i wx => ∃ (b : Nat) (M : List Nat), b ≤ l.length ∧ i = .int .i64 b ∧ BitsAre M (Way (FeedsO (nds l) ov) b) ∧ Sets w wx M) (fun i _ => l.length - (intOf i).toNat)
      case atStart => exact ⟨0, M, by omega, rfl, HM1.out, HS.out⟩
      case round =>
        obtain ⟨b, M, hb, rfl, hM, hS⟩ := hrel
        clear HM1 HS
        have HM := Lib.hid hM; have HS := Lib.hid hS; clear hM hS
        by_cases hltb : b < l.length
        · have hltbz : (b : Int) < (l.length : Int) := by omega
          have hb32 : (b : Int) < 32 := by omega
          go_wp2_with fail
          go_loopw [50] (fun i wx => ∃ (q : Nat) (M : List Nat), q ≤ l.length ∧ i = .int .i64 q ∧ BitsAre M (fun a j => Way (FeedsO (nds l) ov) b a j ∨ (a < q ∧ Way (FeedsO (nds l) ov) b a b ∧ Way (FeedsO (nds l) ov) b b j)) ∧ Sets w wx M) (fun i _ => l.length - (intOf i).toNat)
          case atStart => exact ⟨0, M, by omega, rfl, HM.out.congr fun a j _ => by simp, HS.out⟩
          case round =>
            obtain ⟨q, M, hq, rfl, hM, hS⟩ := hrel
            clear HM HS
            have HM := Lib.hid hM; have HS := Lib.hid hS; clear hM hS
            by_cases hltq : q < l.length
            · have hltqz : (q : Int) < (l.length : Int) := by omega
              have hq32 : (q : Int) < 32 := by omega
              obtain ⟨m, hm, hm32⟩ := HM.out.at_ (a := q) (by omega)
              obtain ⟨n, hn, hn32⟩ := HM.out.at_ (a := b) (by omega)
              have d0 := HS.out.cell hm
              have d1 := HS.out.cell hn
              have f0 := HS.out.row.free q
              have h1 := pcHas_any m b wr hm32 (by omega)
              have hor := bits_or32 hm32 hn32
              have his := HM.out.is q m b hm
              have HMQ := Lib.hid hm; have HNB := Lib.hid hn
              cases e1 : m.testBit b with
              | false =>
                rw [e1] at h1 his
                have HN : Hid (¬ Way (FeedsO (nds l) ov) b q b) := Lib.hid fun h => by have := his.2 (.inl h); cases this
                have H1 := Lib.hid h1; clear h1 his e1 hm hn hor
                go_wp2_with fail
                refine H1.out.mono ?_; rintro e w1 ⟨rfl, rfl⟩
                dsimp only
                go_wp2_with fail
                go_roundw
                case rel => exact ⟨q + 1, M, by omega, by simp, HM.out.congr fun a j _ => ⟨fun h => h.elim .inl fun h => .inr ⟨by omega, h.2⟩, fun h => h.elim .inl fun h => .inr ⟨by have : a ≠ q := (fun e => HN.out (by rw [← e]; exact h.2.1)); omega, h.2⟩⟩, HS.out⟩
                case measure => simp only [intOf]; omega
              | true =>
                rw [e1] at h1 his
                have HW : Hid (Way (FeedsO (nds l) ov) b q b) := Lib.hid ((his.1 rfl).elim id fun h => absurd h.1 (by omega))
                have H1 := Lib.hid h1; clear h1 his e1 hm hn
                go_wp2_with fail
                refine H1.out.mono ?_; rintro e w1 ⟨rfl, rfl⟩
                dsimp only
                go_wp2_with fail
                go_region
                go_wp2
                go_roundw
                case rel => exact ⟨q + 1, _, by omega, by simp, (HM.out.join HMQ.out HNB.out).congr fun a j _ => ⟨fun h => way_round.1 (h.elim .inl fun h => .inr ⟨h.1, by rw [h.1]; exact HW.out, h.2⟩), fun h => (way_round.2 h).elim .inl fun h => .inr ⟨h.1, h.2.2⟩⟩, HS.out.drew.put q _⟩
                case measure => simp only [intOf]; omega
            · have hltqz : ¬ (q : Int) < (l.length : Int) := by omega
              have hqe : q = l.length := by omega
              have HQE := Lib.hid hqe; clear hqe
              go_wp2_with fail
              go_roundw
              case rel => exact ⟨b + 1, M, by omega, by simp, HM.out.congr fun a j _ => ⟨fun h => h.elim .inl fun h => .inr h.2, fun h => h.elim .inl fun h => .inr ⟨by have := way_lt HP.out h.1; rw [nds_len] at this; rw [HQE.out]; exact this, h⟩⟩, HS.out⟩
              case measure => simp only [intOf]; omega
        · have hltbz : ¬ (b : Int) < (l.length : Int) := by omega
          have hbe : b = l.length := by omega
          have HM2 : Hid (BitsAre M (Plus (FeedsO (nds l) ov))) := Lib.hid (HM.out.congr fun a j _ => by rw [hbe, ← nds_len]; exact way_iff fun x y h => feedsO_lt HP.out h)
          clear HM hbe
          have hsz : (M.map U32).toArray.size = 32 := by simp [HM2.out.len]
          have hsz0 : ((List.replicate 32 0).map U32).toArray.size = 32 := by simp
          have HSZ := Lib.hid hsz; have HSZ0 := Lib.hid hsz0; clear hsz hsz0
          have HALL : Hid ((M.map U32).toArray.all (·.oneCell') = true) := Lib.hid (by rw [Array.all_eq_true_iff_forall_mem]; intro v hv; simp only [List.mem_toArray, List.mem_map] at hv; obtain ⟨m, _, rfl⟩ := hv; rfl)
          have HD : Hid (Row (wr.setRow w.heap.size (M.map U32).toArray) w.heap.size 79 (M.map U32)) := Lib.hid (setRow_row HS.out.res)
          have HBB := Lib.hid (below_setRow (cs := (M.map U32).toArray) HS.out.below (Nat.le_refl _))
          go_wp2_with (first | (refine wpList_load_row rfl _ _ rfl (w.heap.size + 1) rfl _ (M.map U32).toArray (0, 0) _ HS.out.row Tryd.underlying79 rfl (by rw [HSZ.out]; exact info79) ?_) | (refine wpList_store_row rfl _ _ _ rfl w.heap.size _ rfl rfl _ _ HS.out.res (by rw [HSZ.out]; exact info79) (by rw [HSZ.out]; exact HSZ0.out) HALL.out ?_))
          refine bodyPost_ret (results_cell_row rfl _ _ w.heap.size _ _ (0, 0) _ rfl HD.out Tryd.underlying79 rfl (by rw [HSZ.out]; exact info79)) rfl ?_
          exact ⟨⟨M, rfl, HM2.out⟩, HBB.out⟩
end

section
open Go.ChangeShapes Go.WideShapes Go.ChangeAt Go.RowKit Go.BigFrame
set_option maxRecDepth 100000
def DeepAt (g : List Nd) (d : Int) (j : Nat) : Prop := ∃ x, g[j]? = some x ∧ d < x.d
theorem stays_bits {g : List Nd} {d : Int} {ov j : Nat} (h : ov.testBit j = true ↔ (LeastAt g d j ∨ DeepAt g d j)) : ov.testBit j = true ↔ ∃ x, g[j]? = some x ∧ x.stays d = true := by
  rw [h]
  constructor
  · rintro (⟨x, hx, h1, h2⟩ | ⟨x, hx, h1⟩)
    · exact ⟨x, hx, by unfold Nd.stays; rw [decide_eq_true_eq]; exact .inr ⟨h1, h2⟩⟩
    · exact ⟨x, hx, by unfold Nd.stays; rw [decide_eq_true_eq]; exact .inl h1⟩
  · rintro ⟨x, hx, hs⟩
    unfold Nd.stays at hs; rw [decide_eq_true_eq] at hs
    rcases hs with hs | hs
    · exact .inr ⟨x, hx, hs⟩
    · exact .inl ⟨x, hx, hs⟩
theorem feedsO_eq {g : List Nd} {d : Int} {ov : Nat} (h : ∀ j, ov.testBit j = true ↔ (LeastAt g d j ∨ DeepAt g d j)) : FeedsO g ov = Feeds g d := by
  funext a b
  apply propext
  unfold FeedsO Feeds
  constructor
  · rintro ⟨y, hy, hin, ha, hb⟩
    obtain ⟨x, hx, hxs⟩ := (stays_bits (h a)).1 ha
    obtain ⟨y', hy', hys⟩ := (stays_bits (h b)).1 hb
    rw [hy] at hy'; injection hy' with e; subst e
    exact ⟨x, y, hx, hy, hxs, hys, hin⟩
  · rintro ⟨x, y, hx, hy, hxs, hys, hin⟩
    exact ⟨y, hy, hin, (stays_bits (h a)).2 ⟨x, hx, hxs⟩, (stays_bits (h b)).2 ⟨y, hy, hys⟩⟩
/-- those of the first k of which P holds -/
def SetIs (s : Nat) (P : Nat → Prop) : Prop := s < 4294967296 ∧ ∀ j, s.testBit j = true ↔ P j
theorem SetIs.zero {P : Nat → Prop} (h : ∀ j, ¬ P j) : SetIs 0 P := ⟨by omega, fun j => by simp [h j]⟩
theorem SetIs.congr {s : Nat} {P Q : Nat → Prop} (h : SetIs s P) (e : ∀ j, P j ↔ Q j) : SetIs s Q := ⟨h.1, fun j => (h.2 j).trans (e j)⟩
theorem SetIs.put {s k : Nat} {P : Nat → Prop} (h : SetIs s P) (hk : k < 32) : SetIs (s ||| 2 ^ k) (fun j => P j ∨ j = k) := ⟨with_lt h.1 hk, fun j => by
  rw [with_test, Bool.or_eq_true, h.2 j, decide_eq_true_eq]
  exact ⟨fun h => h.imp id Eq.symm, fun h => h.imp id Eq.symm⟩⟩
theorem SetIs.join {s t : Nat} {P Q : Nat → Prop} (h : SetIs s P) (h2 : SetIs t Q) : SetIs (s ||| t) (fun j => P j ∨ Q j) := ⟨or_lt32 h.1 h2.1, fun j => by rw [Nat.testBit_or, Bool.or_eq_true, h.2 j, h2.2 j]⟩
/-- those of the first k that are so -/
def Upto (k : Nat) (P : Nat → Prop) (j : Nat) : Prop := j < k ∧ P j
theorem upto_skip {k j : Nat} {P : Nat → Prop} (h : ¬ P k) : Upto k P j ↔ Upto (k + 1) P j := by
  unfold Upto
  constructor
  · rintro ⟨h1, h2⟩; exact ⟨by omega, h2⟩
  · rintro ⟨h1, h2⟩
    by_cases e : j = k
    · subst e; exact absurd h2 h
    · exact ⟨by omega, h2⟩
theorem upto_put {k j : Nat} {P : Nat → Prop} (h : P k) : (Upto k P j ∨ j = k) ↔ Upto (k + 1) P j := by
  unfold Upto
  constructor
  · rintro (⟨h1, h2⟩ | rfl)
    · exact ⟨by omega, h2⟩
    · exact ⟨by omega, h⟩
  · rintro ⟨h1, h2⟩
    by_cases e : j = k
    · exact .inr e
    · exact .inl ⟨by omega, h2⟩
/-- in a cycle with one of the first q -/
def InBadQ (g : List Nd) (d : Int) (i q : Nat) : Prop := ∃ j, j < q ∧ LeastAt g d j ∧ Plus (Feeds g d) i j ∧ Plus (Feeds g d) j i
def InBadS (g : List Nd) (d : Int) (k q : Nat) (j : Nat) : Prop := Upto k (InBad g d) j ∨ (j = k ∧ InBadQ g d k q)
theorem inBadS_start {g : List Nd} {d : Int} {k j : Nat} : Upto k (InBad g d) j ↔ InBadS g d k 0 j := by
  unfold InBadS InBadQ; simp
theorem inBadS_skip {g : List Nd} {d : Int} {k q j : Nat} (h : ¬ (LeastAt g d q ∧ Plus (Feeds g d) k q ∧ Plus (Feeds g d) q k)) : InBadS g d k q j ↔ InBadS g d k (q + 1) j := by
  unfold InBadS InBadQ
  constructor
  · rintro (h1 | ⟨h1, i, h2, h3⟩)
    · exact .inl h1
    · exact .inr ⟨h1, i, by omega, h3⟩
  · rintro (h1 | ⟨h1, i, h2, h3⟩)
    · exact .inl h1
    · refine .inr ⟨h1, i, ?_, h3⟩
      have : i ≠ q := by rintro rfl; exact h h3
      omega
theorem inBadS_put {g : List Nd} {d : Int} {k q j : Nat} (h : LeastAt g d q ∧ Plus (Feeds g d) k q ∧ Plus (Feeds g d) q k) : (InBadS g d k q j ∨ j = k) ↔ InBadS g d k (q + 1) j := by
  unfold InBadS InBadQ
  constructor
  · rintro ((h1 | ⟨h1, i, h2, h3⟩) | rfl)
    · exact .inl h1
    · exact .inr ⟨h1, i, by omega, h3⟩
    · exact .inr ⟨rfl, q, by omega, h⟩
  · rintro (h1 | ⟨h1, _⟩)
    · exact .inl (.inl h1)
    · exact .inr h1
theorem inBadS_end {g : List Nd} {d : Int} {k q j : Nat} (hq : q = g.length) : InBadS g d k q j ↔ Upto (k + 1) (InBad g d) j := by
  have hk : InBadQ g d k q ↔ InBad g d k := by
    unfold InBadQ InBad
    constructor
    · rintro ⟨i, _, h⟩; exact ⟨i, h⟩
    · rintro ⟨i, h⟩
      obtain ⟨x, hx, _⟩ := h.1
      exact ⟨i, by rw [hq]; exact (List.getElem?_eq_some_iff.1 hx).1, h⟩
  unfold InBadS
  rw [hk]
  unfold Upto
  constructor
  · rintro (⟨h1, h2⟩ | ⟨rfl, h2⟩)
    · exact ⟨by omega, h2⟩
    · exact ⟨by omega, h2⟩
  · rintro ⟨h1, h2⟩
    by_cases e : j = k
    · subst e; exact .inr ⟨rfl, h2⟩
    · exact .inl ⟨by omega, h2⟩
theorem inBad_lt {g : List Nd} {d : Int} {j : Nat} (h : InBad g d j) : j < g.length := by
  obtain ⟨i, _, h1, _⟩ := h
  obtain ⟨b, hb⟩ := h1.first
  exact hb.lt.1
def StuckAtD (g : List Nd) (d : Int) (w : World) (e : Ending) (w' : World) : Prop := (∃ s : Nat, e = .returned (.int .u32 s) ∧ SetIs s (InBad g d)) ∧ Below w.heap.size w w'
set_option maxHeartbeats 16000000 in
theorem stuckAt_any (A : Option Addr) (l : List Gn) (c : Nat) (d : Int) (w : World) (hG : Gr w A l) (hl : l.length ≤ 32) (hP : ∀ x ∈ nds l, ∀ z ∈ x.ins, portOk (nds l) z) :
    Calls Tryd.prog 46 #[.slice A l.length c, .int .i64 d] w (StuckAtD (nds l) d w) := by
  have HG := Lib.hid hG; have HP := Lib.hid hP; clear hG hP
  have HB0 := Lib.hid (Below.refl w.heap.size w)
  go_enter Tryd.func46, Tryd.ntmps46
  go_wp2_with fail
  go_loopw [5, 6, 15] (fun a b i wr => ∃ (k le de : Nat), k ≤ l.length ∧ i = .int .i64 k ∧ a = .int .u32 le ∧ b = .int .u32 de ∧ SetIs le (Upto k (LeastAt (nds l) d)) ∧ SetIs de (Upto k (DeepAt (nds l) d)) ∧ Below w.heap.size w wr) (fun _ _ i _ => l.length - (intOf i).toNat)
  case atStart => exact ⟨0, 0, 0, by omega, rfl, rfl, rfl, SetIs.zero fun j h => absurd h.1 (by omega), SetIs.zero fun j h => absurd h.1 (by omega), HB0.out⟩
  case round =>
    obtain ⟨k, le, de, hk, rfl, rfl, rfl, hle, hde, hb⟩ := hrel
    have HLE := Lib.hid hle; have HDE := Lib.hid hde; have HB := Lib.hid hb; clear hle hde hb HB0
    by_cases hlt : k < l.length
    · have hltz : (k : Int) < (l.length : Int) := by omega
      obtain ⟨x, hx⟩ : ∃ x, l[k]? = some x := ⟨_, List.getElem?_eq_getElem hlt⟩
      have hxn : (nds l)[k]? = some x.nd := by unfold nds; rw [List.getElem?_map, hx]; rfl
      obtain ⟨⟨xk, xa, xb, xd, xi⟩, xA, xc⟩ := x
      obtain ⟨b, o, rfl, hbl, hcl⟩ := HG.out.at_ hx
      obtain ⟨c0, c1, c2, c3, c4⟩ := hcl wr HB.out
      simp only at hxn c0 c1 c2 c3 c4
      have HXN := Lib.hid hxn; clear hx hxn hcl
      have hbn := HB.out.alloc HB.out.size (.cells #[.int .u8 (xk : Nat), .int .u8 (xa : Nat), .int .i64 xb, .int .i64 xd, .slice xA xi.length xc] 39)
      have HBN := Lib.hid hbn; clear hbn
      by_cases h1 : d < xd
      · have HY : Hid (DeepAt (nds l) d k) := Lib.hid ⟨_, HXN.out, h1⟩
        have HN : Hid (¬ LeastAt (nds l) d k) := Lib.hid fun ⟨y, hy, h2, _⟩ => by rw [HXN.out] at hy; injection hy with hy; subst hy; simp only at h2; omega
        have h3 := pcWith_any de k (wr.alloc (.cells #[.int .u8 (xk : Nat), .int .u8 (xa : Nat), .int .i64 xb, .int .i64 xd, .slice xA xi.length xc] 39)) HDE.out.1 (by omega)
        have H3 := Lib.hid h3; clear h3
        go_wp2_with fail
        refine H3.out.mono ?_; rintro e w1 ⟨rfl, rfl⟩
        dsimp only
        go_wp2_with fail
        go_roundw
        case rel => exact ⟨k + 1, le, _, by omega, by simp, rfl, rfl, HLE.out.congr fun j => upto_skip HN.out, (HDE.out.put (by omega)).congr fun j => upto_put HY.out, HBN.out⟩
        case measure => simp only [intOf]; omega
      · have HND : Hid (¬ DeepAt (nds l) d k) := Lib.hid fun ⟨y, hy, h2⟩ => by rw [HXN.out] at hy; injection hy with hy; subst hy; simp only at h2; omega
        by_cases h2 : xd = d
        · subst h2
          by_cases h9 : xk = 9
          · have h9z : (((xk : Nat) : Int) != 9) = false := by simp; omega
            have HN : Hid (¬ LeastAt (nds l) xd k) := Lib.hid fun ⟨y, hy, _, h3⟩ => by rw [HXN.out] at hy; injection hy with hy; subst hy; exact h3 h9
            clear h9
            go_wp2_with fail
            go_roundw
            case rel => exact ⟨k + 1, le, de, by omega, by simp, rfl, rfl, HLE.out.congr fun j => upto_skip HN.out, HDE.out.congr fun j => upto_skip HND.out, HBN.out⟩
            case measure => simp only [intOf]; omega
          · have h9z : (((xk : Nat) : Int) != 9) = true := by simp; omega
            have HY : Hid (LeastAt (nds l) xd k) := Lib.hid ⟨_, HXN.out, rfl, h9⟩
            clear h9
            have h3 := pcWith_any le k (wr.alloc (.cells #[.int .u8 (xk : Nat), .int .u8 (xa : Nat), .int .i64 xb, .int .i64 xd, .slice xA xi.length xc] 39)) HLE.out.1 (by omega)
            have H3 := Lib.hid h3; clear h3
            go_wp2_with fail
            refine H3.out.mono ?_; rintro e w1 ⟨rfl, rfl⟩
            dsimp only
            go_wp2_with fail
            go_roundw
            case rel => exact ⟨k + 1, _, de, by omega, by simp, rfl, rfl, (HLE.out.put (by omega)).congr fun j => upto_put HY.out, HDE.out.congr fun j => upto_skip HND.out, HBN.out⟩
            case measure => simp only [intOf]; omega
        · have h2z : (xd == d) = false := by rw [beq_eq_false_iff_ne]; exact h2
          have HN : Hid (¬ LeastAt (nds l) d k) := Lib.hid fun ⟨y, hy, h3, _⟩ => by rw [HXN.out] at hy; injection hy with hy; subst hy; exact h2 h3
          clear h2
          go_wp2_with fail
          go_roundw
          case rel => exact ⟨k + 1, le, de, by omega, by simp, rfl, rfl, HLE.out.congr fun j => upto_skip HN.out, HDE.out.congr fun j => upto_skip HND.out, HBN.out⟩
          case measure => simp only [intOf]; omega
    · have hltz : ¬ (k : Int) < (l.length : Int) := by omega
      have hup : ∀ (P : Nat → Prop), (∀ j, P j → j < (nds l).length) → ∀ j, Upto k P j ↔ P j := fun P h j => ⟨And.right, fun hp => ⟨by have := h j hp; rw [nds_len] at this; omega, hp⟩⟩
      have hle := HLE.out.congr (hup (LeastAt (nds l) d) fun j ⟨x, hx, _⟩ => (List.getElem?_eq_some_iff.1 hx).1)
      have hde := HDE.out.congr (hup (DeepAt (nds l) d) fun j ⟨x, hx, _⟩ => (List.getElem?_eq_some_iff.1 hx).1)
      have hov := hle.join hde
      have hor := bits_or32 hle.1 hde.1
      have hcall := leads_any A l c (le ||| de) wr (HG.out.below HB.out) hl HP.out hov.1
      unfold LeadsD at hcall
      rw [feedsO_eq hov.2] at hcall
      have HC := Lib.hid hcall; have HLS := Lib.hid hle; clear HLE HDE hle hde hov hcall hup hltz hk
      generalize le ||| de = ov at *
      go_wp2_with fail
      refine HC.out.mono ?_; rintro e w1 ⟨⟨M, rfl, hM⟩, hb1⟩
      have hB1 := HB.out.trans (hb1.mono HB.out.size)
      have HM := Lib.hid hM; have HB1 := Lib.hid hB1; clear hM hb1 hB1 HC HB
      have hsz : (M.map U32).toArray.size = 32 := by simp [HM.out.len]
      have hsz0 : ((List.replicate 32 0).map U32).toArray.size = 32 := by simp
      have HSZ := Lib.hid hsz; have HSZ0 := Lib.hid hsz0; clear hsz hsz0
      have HALL : Hid ((M.map U32).toArray.all (·.oneCell') = true) := Lib.hid (by rw [Array.all_eq_true_iff_forall_mem]; intro v hv; simp only [List.mem_toArray, List.mem_map] at hv; obtain ⟨m, _, rfl⟩ := hv; rfl)
      have HR0 := Lib.hid (Row.made w1 79 ((List.replicate 32 0).map U32))
      have hrow := setRow_row (l' := M.map U32) HR0.out
      have hbel := below_setRow (cs := (M.map U32).toArray) (HB1.out.alloc HB1.out.size (.cells ((List.replicate 32 0).map U32).toArray 79)) HB1.out.size
      have HROW := Lib.hid hrow; have HBEL := Lib.hid hbel; clear hrow hbel
      dsimp only
      go_wp2_with (refine wpList_store_row rfl _ _ _ rfl w1.heap.size _ rfl rfl _ _ HR0.out (by rw [HSZ.out]; exact info79) (by rw [HSZ.out]; exact HSZ0.out) HALL.out ?_)
      go_loopw [10, 49] (fun a i wx => ∃ (k s : Nat), k ≤ l.length ∧ i = .int .i64 k ∧ a = .int .u32 s ∧ SetIs s (Upto k (InBad (nds l) d)) ∧ Row wx w1.heap.size 79 (M.map U32) ∧ Below w.heap.size w wx) (fun _ i _ => l.length - (intOf i).toNat)
      case atStart => exact ⟨0, 0, by omega, rfl, rfl, SetIs.zero fun j h => absurd h.1 (by omega), HROW.out, HBEL.out⟩
      case round =>
        obtain ⟨k, s, hk, rfl, rfl, hs, hrw, hbw⟩ := hrel
        clear HROW HBEL HR0
        have HS := Lib.hid hs; have HRW := Lib.hid hrw; have HBW := Lib.hid hbw; clear hs hrw hbw
        by_cases hlk : k < l.length
        · have hlkz : (k : Int) < (l.length : Int) := by omega
          go_wp2_with fail
          go_loopw [10, 54] (fun a i wx => ∃ (q s : Nat), q ≤ l.length ∧ i = .int .i64 q ∧ a = .int .u32 s ∧ SetIs s (InBadS (nds l) d k q) ∧ Row wx w1.heap.size 79 (M.map U32) ∧ Below w.heap.size w wx) (fun _ i _ => l.length - (intOf i).toNat)
          case atStart => exact ⟨0, s, by omega, rfl, rfl, HS.out.congr fun j => inBadS_start, HRW.out, HBW.out⟩
          case round =>
            obtain ⟨q, s, hq, rfl, rfl, hs, hrw, hbw⟩ := hrel
            clear HS HRW HBW
            have HS := Lib.hid hs; have HRW := Lib.hid hrw; have HBW := Lib.hid hbw; clear hs hrw hbw
            by_cases hlq : q < l.length
            · have hlqz : (q : Int) < (l.length : Int) := by omega
              have hk32 : (k : Int) < 32 := by omega
              have hq32 : (q : Int) < 32 := by omega
              obtain ⟨mk, hmk, hmk32⟩ := HM.out.at_ (a := k) (by omega)
              obtain ⟨mq, hmq, hmq32⟩ := HM.out.at_ (a := q) (by omega)
              have d0 : wr.cell? ⟨w1.heap.size, k, none⟩ = some (.int .u32 (mk : Nat)) := by rw [HRW.out.cell, List.getElem?_map, hmk]; rfl
              have d1 : wr.cell? ⟨w1.heap.size, q, none⟩ = some (.int .u32 (mq : Nat)) := by rw [HRW.out.cell, List.getElem?_map, hmq]; rfl
              have h1 := pcHas_any le q wr HLS.out.1 (by omega)
              have h2 := pcHas_any mk q wr hmk32 (by omega)
              have h3 := pcHas_any mq k wr hmq32 (by omega)
              have i1 := HLS.out.2 q
              have i2 := HM.out.is k mk q hmk
              have i3 := HM.out.is q mq k hmq
              clear hmk hmq hmk32 hmq32
              cases e1 : le.testBit q with
              | false =>
                rw [e1] at h1 i1
                have HN : Hid (¬ (LeastAt (nds l) d q ∧ Plus (Feeds (nds l) d) k q ∧ Plus (Feeds (nds l) d) q k)) := Lib.hid fun h => by have := i1.2 h.1; cases this
                have H1 := Lib.hid h1; clear h1 h2 h3 i1 i2 i3 e1
                go_wp2_with fail
                refine H1.out.mono ?_; rintro e w3 ⟨rfl, rfl⟩
                dsimp only
                go_wp2_with fail
                go_roundw
                case rel => exact ⟨q + 1, s, by omega, by simp, rfl, HS.out.congr fun j => inBadS_skip HN.out, HRW.out, HBW.out⟩
                case measure => simp only [intOf]; omega
              | true =>
                rw [e1] at h1 i1
                cases e2 : mk.testBit q with
                | false =>
                  rw [e2] at h2 i2
                  have HN : Hid (¬ (LeastAt (nds l) d q ∧ Plus (Feeds (nds l) d) k q ∧ Plus (Feeds (nds l) d) q k)) := Lib.hid fun h => by have := i2.2 h.2.1; cases this
                  have H1 := Lib.hid h1; have H2 := Lib.hid h2; clear h1 h2 h3 i1 i2 i3 e1 e2
                  go_wp2_with fail
                  refine H1.out.mono ?_; rintro e w3 ⟨rfl, rfl⟩
                  dsimp only
                  go_wp2_with fail
                  refine H2.out.mono ?_; rintro e w3 ⟨rfl, rfl⟩
                  dsimp only
                  go_wp2_with fail
                  go_roundw
                  case rel => exact ⟨q + 1, s, by omega, by simp, rfl, HS.out.congr fun j => inBadS_skip HN.out, HRW.out, HBW.out⟩
                  case measure => simp only [intOf]; omega
                | true =>
                  rw [e2] at h2 i2
                  cases e3 : mq.testBit k with
                  | false =>
                    rw [e3] at h3 i3
                    have HN : Hid (¬ (LeastAt (nds l) d q ∧ Plus (Feeds (nds l) d) k q ∧ Plus (Feeds (nds l) d) q k)) := Lib.hid fun h => by have := i3.2 h.2.2; cases this
                    have H1 := Lib.hid h1; have H2 := Lib.hid h2; have H3 := Lib.hid h3; clear h1 h2 h3 i1 i2 i3 e1 e2 e3
                    go_wp2_with fail
                    refine H1.out.mono ?_; rintro e w3 ⟨rfl, rfl⟩
                    dsimp only
                    go_wp2_with fail
                    refine H2.out.mono ?_; rintro e w3 ⟨rfl, rfl⟩
                    dsimp only
                    go_wp2_with fail
                    refine H3.out.mono ?_; rintro e w3 ⟨rfl, rfl⟩
                    dsimp only
                    go_wp2_with fail
                    go_roundw
                    case rel => exact ⟨q + 1, s, by omega, by simp, rfl, HS.out.congr fun j => inBadS_skip HN.out, HRW.out, HBW.out⟩
                    case measure => simp only [intOf]; omega
                  | true =>
                    rw [e3] at h3 i3
                    have HY : Hid (LeastAt (nds l) d q ∧ Plus (Feeds (nds l) d) k q ∧ Plus (Feeds (nds l) d) q k) := Lib.hid ⟨i1.1 rfl, i2.1 rfl, i3.1 rfl⟩
                    have h4 := pcWith_any s k wr HS.out.1 (by omega)
                    have H1 := Lib.hid h1; have H2 := Lib.hid h2; have H3 := Lib.hid h3; have H4 := Lib.hid h4; clear h1 h2 h3 h4 i1 i2 i3 e1 e2 e3
                    go_wp2_with fail
                    refine H1.out.mono ?_; rintro e w3 ⟨rfl, rfl⟩
                    dsimp only
                    go_wp2_with fail
                    refine H2.out.mono ?_; rintro e w3 ⟨rfl, rfl⟩
                    dsimp only
                    go_wp2_with fail
                    refine H3.out.mono ?_; rintro e w3 ⟨rfl, rfl⟩
                    dsimp only
                    go_wp2_with fail
                    refine H4.out.mono ?_; rintro e w3 ⟨rfl, rfl⟩
                    dsimp only
                    go_wp2_with fail
                    go_roundw
                    case rel => exact ⟨q + 1, _, by omega, by simp, rfl, (HS.out.put (by omega)).congr fun j => inBadS_put HY.out, HRW.out, HBW.out⟩
                    case measure => simp only [intOf]; omega
            · have hlqz : ¬ (q : Int) < (l.length : Int) := by omega
              have hqe : q = l.length := by omega
              have HQE := Lib.hid hqe; clear hqe
              go_wp2_with fail
              go_roundw
              case rel => exact ⟨k + 1, s, by omega, by simp, rfl, HS.out.congr fun j => inBadS_end (by rw [nds_len]; exact HQE.out), HRW.out, HBW.out⟩
              case measure => simp only [intOf]; omega
        · have hlkz : ¬ (k : Int) < (l.length : Int) := by omega
          have HSE : Hid (SetIs s (InBad (nds l) d)) := Lib.hid (HS.out.congr fun j => ⟨And.right, fun h => ⟨by have := inBad_lt h; rw [nds_len] at this; omega, h⟩⟩)
          clear HS
          go_wp2_with fail
          go_ret
          exact ⟨⟨s, rfl, HSE.out⟩, HBW.out⟩
def StuckD (g : List Nd) (w : World) (e : Ending) (w' : World) : Prop := (∃ s : Nat, e = .returned (.int .u32 s) ∧ SetIs s (fun j => ∃ d : Nat, d < 4 ∧ InBad g d j)) ∧ Below w.heap.size w w'
set_option maxHeartbeats 8000000 in
theorem stuck_any (A : Option Addr) (l : List Gn) (c : Nat) (w : World) (hG : Gr w A l) (hl : l.length ≤ 32) (hP : ∀ x ∈ nds l, ∀ z ∈ x.ins, portOk (nds l) z) :
    Calls Tryd.prog 30 #[.slice A l.length c] w (StuckD (nds l) w) := by
  have HC := Lib.hid fun (d : Nat) (wr : World) (hb : Below w.heap.size w wr) => stuckAt_any A l c d wr (hG.below hb) hl hP
  have HB0 := Lib.hid (Below.refl w.heap.size w)
  clear hG hP
  go_enter Tryd.func30, Tryd.ntmps30
  go_wp2_with fail
  go_loopw [3, 5] (fun a i wr => ∃ (k s : Nat), k ≤ 4 ∧ i = .int .i64 k ∧ a = .int .u32 s ∧ SetIs s (fun j => ∃ d : Nat, d < k ∧ InBad (nds l) d j) ∧ Below w.heap.size w wr) (fun _ i _ => 4 - (intOf i).toNat)
  case atStart => exact ⟨0, 0, by omega, rfl, rfl, SetIs.zero fun j ⟨d, h, _⟩ => absurd h (by omega), HB0.out⟩
  case round =>
    obtain ⟨k, s, hk, rfl, rfl, hs, hb⟩ := hrel
    have HS := Lib.hid hs; have HB := Lib.hid hb; clear hs hb HB0
    by_cases hlt : k < 4
    · have hltz : (k : Int) < 4 := by omega
      have HK := Lib.hid (HC.out k wr HB.out)
      go_wp2_with fail
      refine HK.out.mono ?_; rintro e w1 ⟨⟨t, rfl, ht⟩, hb1⟩
      have hor := bits_or32 HS.out.1 ht.1
      have HT := Lib.hid ht; have HB1 := Lib.hid (HB.out.trans (hb1.mono HB.out.size)); clear ht hb1
      dsimp only
      go_wp2_with fail
      go_roundw
      case rel => exact ⟨k + 1, s ||| t, by omega, by simp, rfl, (HS.out.join HT.out).congr fun j => ⟨fun h => h.elim (fun ⟨d, h1, h2⟩ => ⟨d, by omega, h2⟩) fun h => ⟨k, by omega, h⟩, fun ⟨d, h1, h2⟩ => by
        by_cases e : d = k
        · subst e; exact .inr h2
        · exact .inl ⟨d, by omega, h2⟩⟩, HB1.out⟩
      case measure => simp only [intOf]; omega
    · have hltz : ¬ (k : Int) < 4 := by omega
      have hke : k = 4 := by omega
      subst hke
      go_wp2_with fail
      go_ret
      exact ⟨⟨s, rfl, HS.out⟩, HB.out⟩
end
end Go.Proofs.YtocdganglokplaaDoor
