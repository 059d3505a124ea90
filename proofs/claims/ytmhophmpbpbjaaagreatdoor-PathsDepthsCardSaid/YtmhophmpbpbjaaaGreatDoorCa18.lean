/- PcStuck, ChkDeep, ChkPort, PgRight -/
import Derived.Test.YtmhophmpbpbjaaaGreatDoorCa17
import Derived.Test.YtmhophmpbpbjaaaGreatDoorCa8
import Derived.RegionTactic
import Derived.BigRegion
import Derived.ChangeAlike
import Derived.Deep.DeepCutAuto
import Derived.Shelf.Abstract
namespace Go.Proofs.YtmhophmpbpbjaaaGreatDoor
set_option linter.unusedVariables false
section
open Go.ChangeShapes Go.WideShapes Go.ChangeAt Go.RowKit Go.BigFrame
set_option maxRecDepth 100000
def DeepAt (g : List Nd) (d : Int) (j : Nat) : Prop := ∃ x, g[j]? = some x ∧ d < x.d
theorem stays_bits {g : List Nd} {d : Int} {ov j : Nat} (h : ov.testBit j = true ↔ (LeastAt g d j ∨ DeepAt g d j)) : ov.testBit j = true ↔ ∃ x, g[j]? = some x ∧ x.stays d = true := by
  rw [h]
  constructor
  · rintro (⟨x, hx, h1, h2⟩ | ⟨x, hx, h1⟩)
    · exact ⟨x, hx, by unfold Nd.stays; rw [decide_eq_true_eq]; exact .inr ⟨h1, h2⟩⟩
    · exact ⟨x, hx, by unfold Nd.stays; rw [decide_eq_true_eq]; exact .inl h1⟩
  · rintro ⟨x, hx, hs⟩
    unfold Nd.stays at hs; rw [decide_eq_true_eq] at hs
    rcases hs with hs | hs
    · exact .inr ⟨x, hx, hs⟩
    · exact .inl ⟨x, hx, hs⟩
theorem feedsO_eq {g : List Nd} {d : Int} {ov : Nat} (h : ∀ j, ov.testBit j = true ↔ (LeastAt g d j ∨ DeepAt g d j)) : FeedsO g ov = Feeds g d := by
  funext a b
  apply propext
  unfold FeedsO Feeds
  constructor
  · rintro ⟨y, hy, hin, ha, hb⟩
    obtain ⟨x, hx, hxs⟩ := (stays_bits (h a)).1 ha
    obtain ⟨y', hy', hys⟩ := (stays_bits (h b)).1 hb
    rw [hy] at hy'; injection hy' with e; subst e
    exact ⟨x, y, hx, hy, hxs, hys, hin⟩
  · rintro ⟨x, y, hx, hy, hxs, hys, hin⟩
    exact ⟨y, hy, hin, (stays_bits (h a)).2 ⟨x, hx, hxs⟩, (stays_bits (h b)).2 ⟨y, hy, hys⟩⟩
def SetIs (s : Nat) (P : Nat → Prop) : Prop := s < 4294967296 ∧ ∀ j, s.testBit j = true ↔ P j
theorem SetIs.zero {P : Nat → Prop} (h : ∀ j, ¬ P j) : SetIs 0 P := ⟨by omega, fun j => by simp [h j]⟩
theorem SetIs.congr {s : Nat} {P Q : Nat → Prop} (h : SetIs s P) (e : ∀ j, P j ↔ Q j) : SetIs s Q := ⟨h.1, fun j => (h.2 j).trans (e j)⟩
theorem SetIs.put {s k : Nat} {P : Nat → Prop} (h : SetIs s P) (hk : k < 32) : SetIs (s ||| 2 ^ k) (fun j => P j ∨ j = k) := ⟨with_lt h.1 hk, fun j => by
  rw [with_test, Bool.or_eq_true, h.2 j, decide_eq_true_eq]
  exact ⟨fun h => h.imp id Eq.symm, fun h => h.imp id Eq.symm⟩⟩
theorem SetIs.join {s t : Nat} {P Q : Nat → Prop} (h : SetIs s P) (h2 : SetIs t Q) : SetIs (s ||| t) (fun j => P j ∨ Q j) := ⟨or_lt32 h.1 h2.1, fun j => by rw [Nat.testBit_or, Bool.or_eq_true, h.2 j, h2.2 j]⟩
def Upto (k : Nat) (P : Nat → Prop) (j : Nat) : Prop := j < k ∧ P j
theorem upto_skip {k j : Nat} {P : Nat → Prop} (h : ¬ P k) : Upto k P j ↔ Upto (k + 1) P j := by
  unfold Upto
  constructor
  · rintro ⟨h1, h2⟩; exact ⟨by omega, h2⟩
  · rintro ⟨h1, h2⟩
    by_cases e : j = k
    · subst e; exact absurd h2 h
    · exact ⟨by omega, h2⟩
theorem upto_put {k j : Nat} {P : Nat → Prop} (h : P k) : (Upto k P j ∨ j = k) ↔ Upto (k + 1) P j := by
  unfold Upto
  constructor
  · rintro (⟨h1, h2⟩ | rfl)
    · exact ⟨by omega, h2⟩
    · exact ⟨by omega, h⟩
  · rintro ⟨h1, h2⟩
    by_cases e : j = k
    · exact .inr e
    · exact .inl ⟨by omega, h2⟩
def InBadQ (g : List Nd) (d : Int) (i q : Nat) : Prop := ∃ j, j < q ∧ LeastAt g d j ∧ Plus (Feeds g d) i j ∧ Plus (Feeds g d) j i
def InBadS (g : List Nd) (d : Int) (k q : Nat) (j : Nat) : Prop := Upto k (InBad g d) j ∨ (j = k ∧ InBadQ g d k q)
theorem inBadS_start {g : List Nd} {d : Int} {k j : Nat} : Upto k (InBad g d) j ↔ InBadS g d k 0 j := by
  unfold InBadS InBadQ; simp
theorem inBadS_skip {g : List Nd} {d : Int} {k q j : Nat} (h : ¬ (LeastAt g d q ∧ Plus (Feeds g d) k q ∧ Plus (Feeds g d) q k)) : InBadS g d k q j ↔ InBadS g d k (q + 1) j := by
  unfold InBadS InBadQ
  constructor
  · rintro (h1 | ⟨h1, i, h2, h3⟩)
    · exact .inl h1
    · exact .inr ⟨h1, i, by omega, h3⟩
  · rintro (h1 | ⟨h1, i, h2, h3⟩)
    · exact .inl h1
    · refine .inr ⟨h1, i, ?_, h3⟩
      have : i ≠ q := by rintro rfl; exact h h3
      omega
theorem inBadS_put {g : List Nd} {d : Int} {k q j : Nat} (h : LeastAt g d q ∧ Plus (Feeds g d) k q ∧ Plus (Feeds g d) q k) : (InBadS g d k q j ∨ j = k) ↔ InBadS g d k (q + 1) j := by
  unfold InBadS InBadQ
  constructor
  · rintro ((h1 | ⟨h1, i, h2, h3⟩) | rfl)
    · exact .inl h1
    · exact .inr ⟨h1, i, by omega, h3⟩
    · exact .inr ⟨rfl, q, by omega, h⟩
  · rintro (h1 | ⟨h1, _⟩)
    · exact .inl (.inl h1)
    · exact .inr h1
theorem inBadS_end {g : List Nd} {d : Int} {k q j : Nat} (hq : q = g.length) : InBadS g d k q j ↔ Upto (k + 1) (InBad g d) j := by
  have hk : InBadQ g d k q ↔ InBad g d k := by
    unfold InBadQ InBad
    constructor
    · rintro ⟨i, _, h⟩; exact ⟨i, h⟩
    · rintro ⟨i, h⟩
      obtain ⟨x, hx, _⟩ := h.1
      exact ⟨i, by rw [hq]; exact (List.getElem?_eq_some_iff.1 hx).1, h⟩
  unfold InBadS
  rw [hk]
  unfold Upto
  constructor
  · rintro (⟨h1, h2⟩ | ⟨rfl, h2⟩)
    · exact ⟨by omega, h2⟩
    · exact ⟨by omega, h2⟩
  · rintro ⟨h1, h2⟩
    by_cases e : j = k
    · subst e; exact .inr ⟨rfl, h2⟩
    · exact .inl ⟨by omega, h2⟩
theorem inBad_lt {g : List Nd} {d : Int} {j : Nat} (h : InBad g d j) : j < g.length := by
  obtain ⟨i, _, h1, _⟩ := h
  obtain ⟨b, hb⟩ := h1.first
  exact hb.lt.1
def StuckAtD (g : List Nd) (d : Int) (w : World) (e : Ending) (w' : World) : Prop := (∃ s : Nat, e = .returned (.int .u32 s) ∧ SetIs s (InBad g d)) ∧ Below w.heap.size w w'
set_option maxHeartbeats 16000000 in
theorem stuckAt_any (A : Option Addr) (l : List Gn) (c : Nat) (d : Int) (w : World) (hG : Gr w A l) (hl : l.length ≤ 32) (hP : ∀ x ∈ nds l, ∀ z ∈ x.ins, portOk (nds l) z) :
    Calls Tryz.prog 125 #[.slice A l.length c, .int .i64 d] w (StuckAtD (nds l) d w) := by
  have HG := Lib.hid hG; have HP := Lib.hid hP; clear hG hP
  have HB0 := Lib.hid (Below.refl w.heap.size w)
  go_enter Tryz.func125, Tryz.ntmps125
  go_wp2_with fail
  go_loopw [5, 6, 15] (fun a b i wr => ∃ (k le de : Nat), k ≤ l.length ∧ i = .int .i64 k ∧ a = .int .u32 le ∧ b = .int .u32 de ∧ SetIs le (Upto k (LeastAt (nds l) d)) ∧ SetIs de (Upto k (DeepAt (nds l) d)) ∧ Below w.heap.size w wr) (fun _ _ i _ => l.length - (intOf i).toNat)
  case atStart => exact ⟨0, 0, 0, by omega, rfl, rfl, rfl, SetIs.zero fun j h => absurd h.1 (by omega), SetIs.zero fun j h => absurd h.1 (by omega), HB0.out⟩
  case round =>
    obtain ⟨k, le, de, hk, rfl, rfl, rfl, hle, hde, hb⟩ := hrel
    have HLE := Lib.hid hle; have HDE := Lib.hid hde; have HB := Lib.hid hb; clear hle hde hb HB0
    by_cases hlt : k < l.length
    · have hltz : (k : Int) < (l.length : Int) := by omega
      obtain ⟨x, hx⟩ : ∃ x, l[k]? = some x := ⟨_, List.getElem?_eq_getElem hlt⟩
      have hxn : (nds l)[k]? = some x.nd := by unfold nds; rw [List.getElem?_map, hx]; rfl
      obtain ⟨⟨xk, xa, xb, xd, xi⟩, xA, xc⟩ := x
      obtain ⟨b, o, rfl, hbl, hcl⟩ := HG.out.at_ hx
      obtain ⟨c0, c1, c2, c3, c4⟩ := hcl wr HB.out
      simp only at hxn c0 c1 c2 c3 c4
      have HXN := Lib.hid hxn; clear hx hxn hcl
      have hbn := HB.out.alloc HB.out.size (.cells #[.int .u8 (xk : Nat), .int .u8 (xa : Nat), .int .i64 xb, .int .i64 xd, .slice xA xi.length xc] 35)
      have HBN := Lib.hid hbn; clear hbn
      by_cases h1 : d < xd
      · have HY : Hid (DeepAt (nds l) d k) := Lib.hid ⟨_, HXN.out, h1⟩
        have HN : Hid (¬ LeastAt (nds l) d k) := Lib.hid fun ⟨y, hy, h2, _⟩ => by rw [HXN.out] at hy; injection hy with hy; subst hy; simp only at h2; omega
        have h3 := pcWith_any de k (wr.alloc (.cells #[.int .u8 (xk : Nat), .int .u8 (xa : Nat), .int .i64 xb, .int .i64 xd, .slice xA xi.length xc] 35)) HDE.out.1 (by omega)
        have H3 := Lib.hid h3; clear h3
        go_wp2_with fail
        refine H3.out.mono ?_; rintro e w1 ⟨rfl, rfl⟩
        dsimp only
        go_wp2_with fail
        go_roundw
        case rel => exact ⟨k + 1, le, _, by omega, by simp, rfl, rfl, HLE.out.congr fun j => upto_skip HN.out, (HDE.out.put (by omega)).congr fun j => upto_put HY.out, HBN.out⟩
        case measure => simp only [intOf]; omega
      · have HND : Hid (¬ DeepAt (nds l) d k) := Lib.hid fun ⟨y, hy, h2⟩ => by rw [HXN.out] at hy; injection hy with hy; subst hy; simp only at h2; omega
        by_cases h2 : xd = d
        · subst h2
          by_cases h9 : xk = 9
          · have h9z : (((xk : Nat) : Int) != 9) = false := by simp; omega
            have HN : Hid (¬ LeastAt (nds l) xd k) := Lib.hid fun ⟨y, hy, _, h3⟩ => by rw [HXN.out] at hy; injection hy with hy; subst hy; exact h3 h9
            clear h9
            go_wp2_with fail
            go_roundw
            case rel => exact ⟨k + 1, le, de, by omega, by simp, rfl, rfl, HLE.out.congr fun j => upto_skip HN.out, HDE.out.congr fun j => upto_skip HND.out, HBN.out⟩
            case measure => simp only [intOf]; omega
          · have h9z : (((xk : Nat) : Int) != 9) = true := by simp; omega
            have HY : Hid (LeastAt (nds l) xd k) := Lib.hid ⟨_, HXN.out, rfl, h9⟩
            clear h9
            have h3 := pcWith_any le k (wr.alloc (.cells #[.int .u8 (xk : Nat), .int .u8 (xa : Nat), .int .i64 xb, .int .i64 xd, .slice xA xi.length xc] 35)) HLE.out.1 (by omega)
            have H3 := Lib.hid h3; clear h3
            go_wp2_with fail
            refine H3.out.mono ?_; rintro e w1 ⟨rfl, rfl⟩
            dsimp only
            go_wp2_with fail
            go_roundw
            case rel => exact ⟨k + 1, _, de, by omega, by simp, rfl, rfl, (HLE.out.put (by omega)).congr fun j => upto_put HY.out, HDE.out.congr fun j => upto_skip HND.out, HBN.out⟩
            case measure => simp only [intOf]; omega
        · have h2z : (xd == d) = false := by rw [beq_eq_false_iff_ne]; exact h2
          have HN : Hid (¬ LeastAt (nds l) d k) := Lib.hid fun ⟨y, hy, h3, _⟩ => by rw [HXN.out] at hy; injection hy with hy; subst hy; exact h2 h3
          clear h2
          go_wp2_with fail
          go_roundw
          case rel => exact ⟨k + 1, le, de, by omega, by simp, rfl, rfl, HLE.out.congr fun j => upto_skip HN.out, HDE.out.congr fun j => upto_skip HND.out, HBN.out⟩
          case measure => simp only [intOf]; omega
    · have hltz : ¬ (k : Int) < (l.length : Int) := by omega
      have hup : ∀ (P : Nat → Prop), (∀ j, P j → j < (nds l).length) → ∀ j, Upto k P j ↔ P j := fun P h j => ⟨And.right, fun hp => ⟨by have := h j hp; rw [nds_len] at this; omega, hp⟩⟩
      have hle := HLE.out.congr (hup (LeastAt (nds l) d) fun j ⟨x, hx, _⟩ => (List.getElem?_eq_some_iff.1 hx).1)
      have hde := HDE.out.congr (hup (DeepAt (nds l) d) fun j ⟨x, hx, _⟩ => (List.getElem?_eq_some_iff.1 hx).1)
      have hov := hle.join hde
      have hor := bits_or32 hle.1 hde.1
      have hcall := leads_any A l c (le ||| de) wr (HG.out.below HB.out) hl HP.out hov.1
      unfold LeadsD at hcall
      rw [feedsO_eq hov.2] at hcall
      have HC := Lib.hid hcall; have HLS := Lib.hid hle; clear HLE HDE hle hde hov hcall hup hltz hk
      generalize le ||| de = ov at *
      go_wp2_with fail
      refine HC.out.mono ?_; rintro e w1 ⟨⟨M, rfl, hM⟩, hb1⟩
      have hB1 := HB.out.trans (hb1.mono HB.out.size)
      have HM := Lib.hid hM; have HB1 := Lib.hid hB1; clear hM hb1 hB1 HC HB
      have hsz : (M.map U32).toArray.size = 32 := by simp [HM.out.len]
      have hsz0 : ((List.replicate 32 0).map U32).toArray.size = 32 := by simp
      have HSZ := Lib.hid hsz; have HSZ0 := Lib.hid hsz0; clear hsz hsz0
      have HALL : Hid ((M.map U32).toArray.all (·.oneCell') = true) := Lib.hid (by rw [Array.all_eq_true_iff_forall_mem]; intro v hv; simp only [List.mem_toArray, List.mem_map] at hv; obtain ⟨m, _, rfl⟩ := hv; rfl)
      have HR0 := Lib.hid (Row.made w1 203 ((List.replicate 32 0).map U32))
      have hrow := setRow_row (l' := M.map U32) HR0.out
      have hbel := below_setRow (cs := (M.map U32).toArray) (HB1.out.alloc HB1.out.size (.cells ((List.replicate 32 0).map U32).toArray 203)) HB1.out.size
      have HROW := Lib.hid hrow; have HBEL := Lib.hid hbel; clear hrow hbel
      dsimp only
      go_wp2_with (refine wpList_store_row rfl _ _ _ rfl w1.heap.size _ rfl rfl _ _ HR0.out (by rw [HSZ.out]; exact info79) (by rw [HSZ.out]; exact HSZ0.out) HALL.out ?_)
      go_loopw [10, 49] (fun a i wx => ∃ (k s : Nat), k ≤ l.length ∧ i = .int .i64 k ∧ a = .int .u32 s ∧ SetIs s (Upto k (InBad (nds l) d)) ∧ Row wx w1.heap.size 203 (M.map U32) ∧ Below w.heap.size w wx) (fun _ i _ => l.length - (intOf i).toNat)
      case atStart => exact ⟨0, 0, by omega, rfl, rfl, SetIs.zero fun j h => absurd h.1 (by omega), HROW.out, HBEL.out⟩
      case round =>
        obtain ⟨k, s, hk, rfl, rfl, hs, hrw, hbw⟩ := hrel
        clear HROW HBEL HR0
        have HS := Lib.hid hs; have HRW := Lib.hid hrw; have HBW := Lib.hid hbw; clear hs hrw hbw
        by_cases hlk : k < l.length
        · have hlkz : (k : Int) < (l.length : Int) := by omega
          go_wp2_with fail
          go_loopw [10, 54] (fun a i wx => ∃ (q s : Nat), q ≤ l.length ∧ i = .int .i64 q ∧ a = .int .u32 s ∧ SetIs s (InBadS (nds l) d k q) ∧ Row wx w1.heap.size 203 (M.map U32) ∧ Below w.heap.size w wx) (fun _ i _ => l.length - (intOf i).toNat)
          case atStart => exact ⟨0, s, by omega, rfl, rfl, HS.out.congr fun j => inBadS_start, HRW.out, HBW.out⟩
          case round =>
            obtain ⟨q, s, hq, rfl, rfl, hs, hrw, hbw⟩ := hrel
            clear HS HRW HBW
            have HS := Lib.hid hs; have HRW := Lib.hid hrw; have HBW := Lib.hid hbw; clear hs hrw hbw
            by_cases hlq : q < l.length
            · have hlqz : (q : Int) < (l.length : Int) := by omega
              have hk32 : (k : Int) < 32 := by omega
              have hq32 : (q : Int) < 32 := by omega
              obtain ⟨mk, hmk, hmk32⟩ := HM.out.at_ (a := k) (by omega)
              obtain ⟨mq, hmq, hmq32⟩ := HM.out.at_ (a := q) (by omega)
              have d0 : wr.cell? ⟨w1.heap.size, k, none⟩ = some (.int .u32 (mk : Nat)) := by rw [HRW.out.cell, List.getElem?_map, hmk]; rfl
              have d1 : wr.cell? ⟨w1.heap.size, q, none⟩ = some (.int .u32 (mq : Nat)) := by rw [HRW.out.cell, List.getElem?_map, hmq]; rfl
              have h1 := pcHas_any le q wr HLS.out.1 (by omega)
              have h2 := pcHas_any mk q wr hmk32 (by omega)
              have h3 := pcHas_any mq k wr hmq32 (by omega)
              have i1 := HLS.out.2 q
              have i2 := HM.out.is k mk q hmk
              have i3 := HM.out.is q mq k hmq
              clear hmk hmq hmk32 hmq32
              cases e1 : le.testBit q with
              | false =>
                rw [e1] at h1 i1
                have HN : Hid (¬ (LeastAt (nds l) d q ∧ Plus (Feeds (nds l) d) k q ∧ Plus (Feeds (nds l) d) q k)) := Lib.hid fun h => by have := i1.2 h.1; cases this
                have H1 := Lib.hid h1; clear h1 h2 h3 i1 i2 i3 e1
                go_wp2_with fail
                refine H1.out.mono ?_; rintro e w3 ⟨rfl, rfl⟩
                dsimp only
                go_wp2_with fail
                go_roundw
                case rel => exact ⟨q + 1, s, by omega, by simp, rfl, HS.out.congr fun j => inBadS_skip HN.out, HRW.out, HBW.out⟩
                case measure => simp only [intOf]; omega
              | true =>
                rw [e1] at h1 i1
                cases e2 : mk.testBit q with
                | false =>
                  rw [e2] at h2 i2
                  have HN : Hid (¬ (LeastAt (nds l) d q ∧ Plus (Feeds (nds l) d) k q ∧ Plus (Feeds (nds l) d) q k)) := Lib.hid fun h => by have := i2.2 h.2.1; cases this
                  have H1 := Lib.hid h1; have H2 := Lib.hid h2; clear h1 h2 h3 i1 i2 i3 e1 e2
                  go_wp2_with fail
                  refine H1.out.mono ?_; rintro e w3 ⟨rfl, rfl⟩
                  dsimp only
                  go_wp2_with fail
                  refine H2.out.mono ?_; rintro e w3 ⟨rfl, rfl⟩
                  dsimp only
                  go_wp2_with fail
                  go_roundw
                  case rel => exact ⟨q + 1, s, by omega, by simp, rfl, HS.out.congr fun j => inBadS_skip HN.out, HRW.out, HBW.out⟩
                  case measure => simp only [intOf]; omega
                | true =>
                  rw [e2] at h2 i2
                  cases e3 : mq.testBit k with
                  | false =>
                    rw [e3] at h3 i3
                    have HN : Hid (¬ (LeastAt (nds l) d q ∧ Plus (Feeds (nds l) d) k q ∧ Plus (Feeds (nds l) d) q k)) := Lib.hid fun h => by have := i3.2 h.2.2; cases this
                    have H1 := Lib.hid h1; have H2 := Lib.hid h2; have H3 := Lib.hid h3; clear h1 h2 h3 i1 i2 i3 e1 e2 e3
                    go_wp2_with fail
                    refine H1.out.mono ?_; rintro e w3 ⟨rfl, rfl⟩
                    dsimp only
                    go_wp2_with fail
                    refine H2.out.mono ?_; rintro e w3 ⟨rfl, rfl⟩
                    dsimp only
                    go_wp2_with fail
                    refine H3.out.mono ?_; rintro e w3 ⟨rfl, rfl⟩
                    dsimp only
                    go_wp2_with fail
                    go_roundw
                    case rel => exact ⟨q + 1, s, by omega, by simp, rfl, HS.out.congr fun j => inBadS_skip HN.out, HRW.out, HBW.out⟩
                    case measure => simp only [intOf]; omega
                  | true =>
                    rw [e3] at h3 i3
                    have HY : Hid (LeastAt (nds l) d q ∧ Plus (Feeds (nds l) d) k q ∧ Plus (Feeds (nds l) d) q k) := Lib.hid ⟨i1.1 rfl, i2.1 rfl, i3.1 rfl⟩
                    have h4 := pcWith_any s k wr HS.out.1 (by omega)
                    have H1 := Lib.hid h1; have H2 := Lib.hid h2; have H3 := Lib.hid h3; have H4 := Lib.hid h4; clear h1 h2 h3 h4 i1 i2 i3 e1 e2 e3
                    go_wp2_with fail
                    refine H1.out.mono ?_; rintro e w3 ⟨rfl, rfl⟩
                    dsimp only
                    go_wp2_with fail
                    refine H2.out.mono ?_; rintro e w3 ⟨rfl, rfl⟩
                    dsimp only
                    go_wp2_with fail
                    refine H3.out.mono ?_; rintro e w3 ⟨rfl, rfl⟩
                    dsimp only
                    go_wp2_with fail
                    refine H4.out.mono ?_; rintro e w3 ⟨rfl, rfl⟩
                    dsimp only
                    go_wp2_with fail
                    go_roundw
                    case rel => exact ⟨q + 1, _, by omega, by simp, rfl, (HS.out.put (by omega)).congr fun j => inBadS_put HY.out, HRW.out, HBW.out⟩
                    case measure => simp only [intOf]; omega
            · have hlqz : ¬ (q : Int) < (l.length : Int) := by omega
              have hqe : q = l.length := by omega
              have HQE := Lib.hid hqe; clear hqe
              go_wp2_with fail
              go_roundw
              case rel => exact ⟨k + 1, s, by omega, by simp, rfl, HS.out.congr fun j => inBadS_end (by rw [nds_len]; exact HQE.out), HRW.out, HBW.out⟩
              case measure => simp only [intOf]; omega
        · have hlkz : ¬ (k : Int) < (l.length : Int) := by omega
          have HSE : Hid (SetIs s (InBad (nds l) d)) := Lib.hid (HS.out.congr fun j => ⟨And.right, fun h => ⟨by have := inBad_lt h; rw [nds_len] at this; omega, h⟩⟩)
          clear HS
          go_wp2_with fail
          go_ret
          exact ⟨⟨s, rfl, HSE.out⟩, HBW.out⟩
def StuckD (g : List Nd) (w : World) (e : Ending) (w' : World) : Prop := (∃ s : Nat, e = .returned (.int .u32 s) ∧ SetIs s (fun j => ∃ d : Nat, d < 4 ∧ InBad g d j)) ∧ Below w.heap.size w w'
set_option maxHeartbeats 8000000 in
theorem stuck_any (A : Option Addr) (l : List Gn) (c : Nat) (w : World) (hG : Gr w A l) (hl : l.length ≤ 32) (hP : ∀ x ∈ nds l, ∀ z ∈ x.ins, portOk (nds l) z) :
    Calls Tryz.prog 74 #[.slice A l.length c] w (StuckD (nds l) w) := by
  have HC := Lib.hid fun (d : Nat) (wr : World) (hb : Below w.heap.size w wr) => stuckAt_any A l c d wr (hG.below hb) hl hP
  have HB0 := Lib.hid (Below.refl w.heap.size w)
  clear hG hP
  go_enter Tryz.func74, Tryz.ntmps74
  go_wp2_with fail
  go_loopw [3, 5] (fun a i wr => ∃ (k s : Nat), k ≤ 4 ∧ i = .int .i64 k ∧ a = .int .u32 s ∧ SetIs s (fun j => ∃ d : Nat, d < k ∧ InBad (nds l) d j) ∧ Below w.heap.size w wr) (fun _ i _ => 4 - (intOf i).toNat)
  case atStart => exact ⟨0, 0, by omega, rfl, rfl, SetIs.zero fun j ⟨d, h, _⟩ => absurd h (by omega), HB0.out⟩
  case round =>
    obtain ⟨k, s, hk, rfl, rfl, hs, hb⟩ := hrel
    have HS := Lib.hid hs; have HB := Lib.hid hb; clear hs hb HB0
    by_cases hlt : k < 4
    · have hltz : (k : Int) < 4 := by omega
      have HK := Lib.hid (HC.out k wr HB.out)
      go_wp2_with fail
      refine HK.out.mono ?_; rintro e w1 ⟨⟨t, rfl, ht⟩, hb1⟩
      have hor := bits_or32 HS.out.1 ht.1
      have HT := Lib.hid ht; have HB1 := Lib.hid (HB.out.trans (hb1.mono HB.out.size)); clear ht hb1
      dsimp only
      go_wp2_with fail
      go_roundw
      case rel => exact ⟨k + 1, s ||| t, by omega, by simp, rfl, (HS.out.join HT.out).congr fun j => ⟨fun h => h.elim (fun ⟨d, h1, h2⟩ => ⟨d, by omega, h2⟩) fun h => ⟨k, by omega, h⟩, fun ⟨d, h1, h2⟩ => by
        by_cases e : d = k
        · subst e; exact .inr h2
        · exact .inl ⟨d, by omega, h2⟩⟩, HB1.out⟩
      case measure => simp only [intOf]; omega
    · have hltz : ¬ (k : Int) < 4 := by omega
      have hke : k = 4 := by omega
      subst hke
      go_wp2_with fail
      go_ret
      exact ⟨⟨s, rfl, HS.out⟩, HB.out⟩
end

section
open Go.ChangeShapes Go.WideShapes Go.ChangeAt Go.RowKit Go.BigFrame
set_option maxRecDepth 100000
noncomputable def deepG (g : List Nd) (n : Nd) : Bool := @decide (n.Deep g) (Classical.propDecidable _)
theorem deepG_iff {g : List Nd} {n : Nd} : deepG g n = true ↔ n.Deep g := by unfold deepG; exact @decide_eq_true_iff _ (Classical.propDecidable _)
theorem deepG_no {g : List Nd} {n : Nd} (h : ¬ n.Deep g) : false = deepG g n := by
  cases e : deepG g n with
  | true => exact absurd (deepG_iff.1 e) h
  | false => rfl
theorem deepG_out {g : List Nd} {n : Nd} (h : n.deepB = false) : false = deepG g n := deepG_no fun hh => by rw [hh.1] at h; cases h
end

section
open Go.ChangeShapes Go.WideShapes Go.ChangeAt Go.RowKit Go.BigFrame
set_option maxRecDepth 100000
noncomputable def portsB (g : List Nd) (n : Nd) : Bool := @decide (n.Ports g) (Classical.propDecidable _)
theorem portsB_iff {g : List Nd} {n : Nd} : portsB g n = true ↔ n.Ports g := by unfold portsB; exact @decide_eq_true_iff _ (Classical.propDecidable _)
end

section
open Go.ChangeShapes Go.WideShapes Go.ChangeAt Go.RowKit Go.BigFrame
set_option maxRecDepth 100000
def upB (n m : Int) : Bool := decide (0 ≤ n ∧ n ≤ m)
theorem upB_yes {n m : Int} (h : 0 ≤ n ∧ n ≤ m) : true = upB n m := by unfold upB; rw [decide_eq_true h]
theorem upB_no {n m : Int} (h : ¬ (0 ≤ n ∧ n ≤ m)) : false = upB n m := by unfold upB; rw [decide_eq_false h]
theorem upTo_any (n m : Int) (w : World) : Calls Tryz.prog 172 #[.int .i64 n, .int .i64 m] w fun e w' => e = .returned (.bool (upB n m)) ∧ w = w' := by
  by_cases h0 : 0 ≤ n
  · by_cases h1 : n ≤ m
    · have HY := Lib.hid (upB_yes ⟨h0, h1⟩)
      go_enter Tryz.func172, Tryz.ntmps172
      go_wp2_with fail
      go_ret
      exact ⟨retb HY.out, rfl⟩
    · have HY := Lib.hid (upB_no fun h => h1 h.2)
      go_enter Tryz.func172, Tryz.ntmps172
      go_wp2_with fail
      go_ret
      exact ⟨retb HY.out, rfl⟩
  · have HY := Lib.hid (upB_no (m := m) fun h => h0 h.1)
    go_enter Tryz.func172, Tryz.ntmps172
    go_wp2_with fail
    go_ret
    exact ⟨retb HY.out, rfl⟩
theorem wrongIn_any (n : Int) (w : World) : Calls Tryz.prog 173 #[.int .i64 n] w fun e w' => e = .returned (.bool (!upB n 31)) ∧ w = w' := by
  have h := upTo_any n 31 w
  generalize upB n 31 = v at *
  have H := Lib.hid h; clear h
  go_enter Tryz.func173, Tryz.ntmps173
  go_wp2_with fail
  refine H.out.mono ?_; rintro e w1 ⟨rfl, rfl⟩
  go_wp2_with fail
  go_ret
  exact ⟨rfl, rfl⟩
theorem anyI_false {p : Int → Bool} {ts : List Int} (h : ∀ (j : Nat) (t : Int), ts[j]? = some t → p t = false) : false = ts.any p := by
  rw [eq_comm, List.any_eq_false]
  intro t ht
  obtain ⟨j, hj⟩ := List.getElem?_of_mem ht
  rw [h j t hj]; simp
theorem anyI_true {p : Int → Bool} {ts : List Int} {k : Nat} {t : Int} (h : ts[k]? = some t) (hp : p t = true) : true = ts.any p := by
  rw [eq_comm, List.any_eq_true]; exact ⟨t, List.mem_of_getElem? h, hp⟩
def IdxD (b : Bool) (w : World) (e : Ending) (w' : World) : Prop := (∃ i : Int, e = .returned (.int .i64 i) ∧ decide (0 ≤ i) = b) ∧ Below w.heap.size w w'
set_option maxHeartbeats 2000000 in
theorem indexIn_any (A : Option Addr) (xs : List Int) (c : Nat) (w : World) (hA : Rw.Ts kindI w A xs) (h1 : xs.length ≤ maxLen) :
    Calls Tryz.prog 174 #[.slice A xs.length c, .func (.func 173) #[] #[]] w (IdxD (xs.any fun z => !upB z 31) w) := by
  have eg : ∀ args w, (callFunc 173 args).run Tryz.prog w = .ok (.enter 173 args) w := enters_of Tryz.func173 (by kernel_rfl) rfl
  unfold maxLen at h1
  have HA := Lib.hid hA; clear hA
  go_enter Tryz.func174, Tryz.ntmps174
  go_wp2_with fail
  go_loopw [8] (fun i wr => ∃ k : Nat, k ≤ xs.length ∧ i = .int .i64 k ∧ Below w.heap.size w wr ∧ ∀ (j : Nat) (t : Int), j < k → xs[j]? = some t → (!upB t 31) = false) (fun i _ => xs.length - (intOf i).toNat)
  case atStart => exact ⟨0, by omega, rfl, Below.refl _ _, fun j t h => absurd h (by omega)⟩
  case round =>
    obtain ⟨k, hk, rfl, hb, hno⟩ := hrel
    have HB := Lib.hid hb; have HNO := Lib.hid hno; clear hb hno
    by_cases hlt : k < xs.length
    · have hltz : (k : Int) < (xs.length : Int) := by omega
      obtain ⟨t, ht⟩ : ∃ t, xs[k]? = some t := ⟨_, List.getElem?_eq_getElem hlt⟩
      obtain ⟨b, o, rfl, hbl, hld⟩ := ints_at HA.out ht
      have c0 := hld _ HB.out
      have hcall := wrongIn_any t wr
      have HT := Lib.hid ht; clear ht hld
      cases hq : (!upB t 31) with
      | true =>
        rw [hq] at hcall
        have HQ := Lib.hid hq; have HC := Lib.hid hcall; clear hq hcall
        go_wp2_with fail
        refine HC.out.mono ?_; rintro e w1 ⟨rfl, rfl⟩
        go_wp2_with fail
        go_ret
        exact ⟨⟨k, rfl, by rw [decide_eq_true (by omega)]; exact anyI_true (p := fun z => !upB z 31) HT.out HQ.out⟩, HB.out⟩
      | false =>
        rw [hq] at hcall
        have HQ := Lib.hid hq; have HC := Lib.hid hcall; clear hq hcall
        go_wp2_with fail
        refine HC.out.mono ?_; rintro e w1 ⟨rfl, rfl⟩
        go_wp2_with fail
        go_roundw
        case rel =>
          refine ⟨k + 1, by omega, by simp, HB.out, fun j t' hj ht' => ?_⟩
          by_cases e : j = k
          · subst e
            rw [HT.out] at ht'; cases ht'
            exact HQ.out
          · exact HNO.out j t' (by omega) ht'
        case measure => simp only [intOf]; omega
    · have hltz : ¬ (k : Int) < (xs.length : Int) := by omega
      go_wp2_with fail
      go_ret
      exact ⟨⟨-1, rfl, by rw [decide_eq_false (by omega)]; exact anyI_false (p := fun z => !upB z 31) fun j t ht => HNO.out j t (by have := (List.getElem?_eq_some_iff.1 ht).1; omega) ht⟩, HB.out⟩
theorem containsIn_any (A : Option Addr) (xs : List Int) (c : Nat) (w : World) (hA : Rw.Ts kindI w A xs) (h1 : xs.length ≤ maxLen) :
    Calls Tryz.prog 151 #[.slice A xs.length c, .func (.func 173) #[] #[]] w fun e w' => e = .returned (.bool (xs.any fun z => !upB z 31)) ∧ Below w.heap.size w w' := by
  have H := Lib.hid (indexIn_any A xs c w hA h1); clear hA
  generalize (xs.any fun z => !upB z 31) = v at *
  go_enter Tryz.func151, Tryz.ntmps151
  go_wp2_with fail
  refine H.out.mono ?_; rintro e w1 ⟨⟨i, rfl, hi⟩, hb1⟩
  have HI := Lib.hid hi; have HB1 := Lib.hid hb1; clear hi hb1
  go_wp2_with fail
  go_ret
  exact ⟨retb HI.out, HB1.out⟩
def mayD (n : Nd) : Bool := upB n.d 3 && decide (n.ins.length ≤ 2) && !(n.ins.any fun z => !upB z 31)
theorem mayD_iff {n : Nd} : mayD n = true ↔ n.May := by
  unfold mayD Nd.May upB
  simp only [Bool.and_eq_true, decide_eq_true_eq, Bool.not_eq_true', List.any_eq_false, decide_eq_false_iff_not, Decidable.not_not]
  exact ⟨fun h => ⟨h.1.1, h.1.2, h.2⟩, fun h => ⟨⟨h.1, h.2.1⟩, h.2.2⟩⟩
set_option maxHeartbeats 4000000 in
theorem rightNode_any (xk xa : Nat) (xb xd : Int) (xi : List Int) (xA : Option Addr) (xc : Nat) (w : World) (hx : Rw.Ts kindI w xA xi) (lx : xi.length ≤ maxLen) :
    Calls Tryz.prog 148 #[.agg #[.int .u8 (xk : Nat), .int .u8 (xa : Nat), .int .i64 xb, .int .i64 xd, .slice xA xi.length xc]] w fun e w' => e = .returned (.bool (mayD ⟨xk, xa, xb, xd, xi⟩)) ∧ Below w.heap.size w w' := by
  have hb1 := (Below.refl _ w).alloc (Nat.le_refl _) (.cells #[.int .u8 (xk : Nat), .int .u8 (xa : Nat), .int .i64 xb, .int .i64 xd, .slice xA xi.length xc] 35)
  have hcall := containsIn_any xA xi xc _ (hx.below hb1) lx
  have hup := upTo_any xd 3 (w.alloc (.cells #[.int .u8 (xk : Nat), .int .u8 (xa : Nat), .int .i64 xb, .int .i64 xd, .slice xA xi.length xc] 35))
  have hm : mayD ⟨xk, xa, xb, xd, xi⟩ = (upB xd 3 && decide (xi.length ≤ 2) && !(xi.any fun z => !upB z 31)) := rfl
  rw [hm]
  generalize (xi.any fun z => !upB z 31) = v at *
  have HB := Lib.hid hb1; have HC := Lib.hid hcall; clear hb1 hcall hx lx hm
  cases hq : upB xd 3 with
  | false =>
    rw [hq] at hup
    have HU := Lib.hid hup; clear hup hq
    rw [Bool.false_and, Bool.false_and]
    go_enter Tryz.func148, Tryz.ntmps148
    go_wp2_with fail
    refine HU.out.mono ?_; rintro e w1 ⟨rfl, rfl⟩
    dsimp only
    go_wp2_with fail
    go_ret
    exact ⟨rfl, HB.out⟩
  | true =>
    rw [hq] at hup
    have HU := Lib.hid hup; clear hup hq
    rw [Bool.true_and]
    by_cases h2 : xi.length ≤ 2
    · rw [decide_eq_true h2, Bool.true_and]
      have h2z : (xi.length : Int) ≤ 2 := by omega
      go_enter Tryz.func148, Tryz.ntmps148
      go_wp2_with fail
      refine HU.out.mono ?_; rintro e w1 ⟨rfl, rfl⟩
      dsimp only
      go_wp2_with fail
      refine HC.out.mono ?_; rintro e w1 ⟨rfl, hb1⟩
      have HB1 := Lib.hid (HB.out.trans (hb1.mono HB.out.size)); clear hb1
      dsimp only
      go_wp2_with fail
      go_ret
      exact ⟨rfl, HB1.out⟩
    · rw [decide_eq_false h2, Bool.false_and]
      have h2z : ¬ (xi.length : Int) ≤ 2 := by omega
      go_enter Tryz.func148, Tryz.ntmps148
      go_wp2_with fail
      refine HU.out.mono ?_; rintro e w1 ⟨rfl, rfl⟩
      dsimp only
      go_wp2_with fail
      go_ret
      exact ⟨rfl, HB.out⟩
theorem wrongNode_any (xk xa : Nat) (xb xd : Int) (xi : List Int) (xA : Option Addr) (xc : Nat) (w : World) (hx : Rw.Ts kindI w xA xi) (lx : xi.length ≤ maxLen) :
    Calls Tryz.prog 147 #[.agg #[.int .u8 (xk : Nat), .int .u8 (xa : Nat), .int .i64 xb, .int .i64 xd, .slice xA xi.length xc]] w fun e w' => e = .returned (.bool (!mayD ⟨xk, xa, xb, xd, xi⟩)) ∧ Below w.heap.size w w' := by
  have hb1 := (Below.refl _ w).alloc (Nat.le_refl _) (.cells #[.int .u8 (xk : Nat), .int .u8 (xa : Nat), .int .i64 xb, .int .i64 xd, .slice xA xi.length xc] 35)
  have hcall := rightNode_any xk xa xb xd xi xA xc _ (hx.below hb1) lx
  generalize mayD ⟨xk, xa, xb, xd, xi⟩ = v at *
  have HB := Lib.hid hb1; have HC := Lib.hid hcall; clear hb1 hcall hx lx
  go_enter Tryz.func147, Tryz.ntmps147
  go_wp2_with fail
  refine HC.out.mono ?_; rintro e w1 ⟨rfl, hb1⟩
  have HB1 := Lib.hid (HB.out.trans (hb1.mono HB.out.size)); clear hb1
  go_wp2_with fail
  go_ret
  exact ⟨rfl, HB1.out⟩
set_option maxHeartbeats 4000000 in
theorem indexNode_any (A : Option Addr) (l : List Gn) (c : Nat) (w : World) (hG : Gr w A l) (hl : l.length ≤ maxLen) :
    Calls Tryz.prog 171 #[.slice A l.length c, .func (.func 147) #[] #[]] w (IdxD (l.any fun x => !mayD x.nd) w) := by
  have eg : ∀ args w, (callFunc 147 args).run Tryz.prog w = .ok (.enter 147 args) w := enters_of Tryz.func147 (by kernel_rfl) rfl
  unfold maxLen at hl
  have HG := Lib.hid hG; clear hG
  go_enter Tryz.func171, Tryz.ntmps171
  go_wp2_with fail
  go_loopw [8] (fun i wr => ∃ k : Nat, k ≤ l.length ∧ i = .int .i64 k ∧ Below w.heap.size w wr ∧ ∀ (j : Nat) (t : Gn), j < k → l[j]? = some t → (!mayD t.nd) = false) (fun i _ => l.length - (intOf i).toNat)
  case atStart => exact ⟨0, by omega, rfl, Below.refl _ _, fun j t h => absurd h (by omega)⟩
  case round =>
    obtain ⟨k, hk, rfl, hb, hno⟩ := hrel
    have HB := Lib.hid hb; have HNO := Lib.hid hno; clear hb hno
    by_cases hlt : k < l.length
    · have hltz : (k : Int) < (l.length : Int) := by omega
      obtain ⟨x, hx⟩ : ∃ x, l[k]? = some x := ⟨_, List.getElem?_eq_getElem hlt⟩
      have lx := (HG.out.ok hx).c
      have tx := HG.out.ins hx
      obtain ⟨⟨xk, xa, xb, xd, xi⟩, xA, xc⟩ := x
      obtain ⟨b, o, rfl, hbl, hcl⟩ := HG.out.at_ hx
      obtain ⟨c0, c1, c2, c3, c4⟩ := hcl wr HB.out
      simp only at c0 c1 c2 c3 c4 lx tx
      have hcall := wrongNode_any xk xa xb xd xi xA xc wr (tx.below HB.out) (Nat.le_trans lx.1 lx.2)
      have HT := Lib.hid hx; clear hx hcl lx tx
      cases hq : (!mayD ⟨xk, xa, xb, xd, xi⟩) with
      | true =>
        rw [hq] at hcall
        have HQ := Lib.hid hq; have HC := Lib.hid hcall; clear hq hcall
        go_wp2_with fail
        refine HC.out.mono ?_; rintro e w1 ⟨rfl, hb1⟩
        have HB1 := Lib.hid (HB.out.trans (hb1.mono HB.out.size)); clear hb1 c0 c1 c2 c3 c4
        go_wp2_with fail
        go_ret
        exact ⟨⟨k, rfl, by rw [decide_eq_true (by omega), eq_comm, List.any_eq_true]; exact ⟨_, List.mem_of_getElem? HT.out, HQ.out⟩⟩, HB1.out⟩
      | false =>
        rw [hq] at hcall
        have HQ := Lib.hid hq; have HC := Lib.hid hcall; clear hq hcall
        go_wp2_with fail
        refine HC.out.mono ?_; rintro e w1 ⟨rfl, hb1⟩
        have HB1 := Lib.hid (HB.out.trans (hb1.mono HB.out.size)); clear hb1 c0 c1 c2 c3 c4
        go_wp2_with fail
        go_roundw
        case rel =>
          refine ⟨k + 1, by omega, by simp, HB1.out, fun j t' hj ht' => ?_⟩
          by_cases e : j = k
          · subst e
            rw [HT.out] at ht'; cases ht'
            exact HQ.out
          · exact HNO.out j t' (by omega) ht'
        case measure => simp only [intOf]; omega
    · have hltz : ¬ (k : Int) < (l.length : Int) := by omega
      go_wp2_with fail
      go_ret
      refine ⟨⟨-1, rfl, ?_⟩, HB.out⟩
      rw [decide_eq_false (by omega), eq_comm, List.any_eq_false]
      intro t ht
      obtain ⟨j, hj⟩ := List.getElem?_of_mem ht
      rw [HNO.out j t (by have := (List.getElem?_eq_some_iff.1 hj).1; omega) hj]; simp
theorem containsNode_any (A : Option Addr) (l : List Gn) (c : Nat) (w : World) (hG : Gr w A l) (hl : l.length ≤ maxLen) :
    Calls Tryz.prog 146 #[.slice A l.length c, .func (.func 147) #[] #[]] w fun e w' => e = .returned (.bool (l.any fun x => !mayD x.nd)) ∧ Below w.heap.size w w' := by
  have H := Lib.hid (indexNode_any A l c w hG hl); clear hG
  generalize (l.any fun x => !mayD x.nd) = v at *
  go_enter Tryz.func146, Tryz.ntmps146
  go_wp2_with fail
  refine H.out.mono ?_; rintro e w1 ⟨⟨i, rfl, hi⟩, hb1⟩
  have HI := Lib.hid hi; have HB1 := Lib.hid hb1; clear hi hb1
  go_wp2_with fail
  go_ret
  exact ⟨retb HI.out, HB1.out⟩
noncomputable def rightB (g : List Nd) : Bool := @decide (∀ n ∈ g, n.May) (Classical.propDecidable _)
theorem rightB_iff {g : List Nd} : rightB g = true ↔ ∀ n ∈ g, n.May := by unfold rightB; exact @decide_eq_true_iff _ (Classical.propDecidable _)
theorem rightB_any {l : List Gn} : (!(l.any fun x => !mayD x.nd)) = rightB (nds l) := by
  rw [Bool.eq_iff_iff, rightB_iff, Bool.not_eq_true', List.any_eq_false]
  constructor
  · intro h n hn
    obtain ⟨x, hx, rfl⟩ := List.mem_map.1 hn
    have := h x hx
    exact mayD_iff.1 (by simpa using this)
  · intro h x hx
    have := mayD_iff.2 (h x.nd (List.mem_map.2 ⟨x, hx, rfl⟩))
    simpa using this
theorem rightNodes_any (A : Option Addr) (l : List Gn) (c : Nat) (w : World) (hG : Gr w A l) (hl : l.length ≤ maxLen) :
    Calls Tryz.prog 117 #[.slice A l.length c] w fun e w' => e = .returned (.bool (rightB (nds l))) ∧ Below w.heap.size w w' := by
  rw [← rightB_any]
  have H := Lib.hid (containsNode_any A l c w hG hl); clear hG
  generalize (l.any fun x => !mayD x.nd) = v at *
  go_enter Tryz.func117, Tryz.ntmps117
  go_wp2_with fail
  refine H.out.mono ?_; rintro e w1 ⟨rfl, hb1⟩
  have HB1 := Lib.hid hb1; clear hb1
  go_wp2_with fail
  go_ret
  exact ⟨rfl, HB1.out⟩
def lengthB (n : Nat) : Bool := decide (0 < n ∧ n ≤ 32)
theorem lengthB_yes {n : Nat} (h : 0 < n ∧ n ≤ 32) : true = lengthB n := by unfold lengthB; rw [decide_eq_true h]
theorem lengthB_no {n : Nat} (h : ¬ (0 < n ∧ n ≤ 32)) : false = lengthB n := by unfold lengthB; rw [decide_eq_false h]
theorem rightLength_any (A : Option Addr) (n c : Nat) (w : World) (hl : n ≤ maxLen) :
    Calls Tryz.prog 116 #[.slice A n c] w fun e w' => e = .returned (.bool (lengthB n)) ∧ w = w' := by
  unfold maxLen at hl
  by_cases h0 : 0 < n
  · have h0z : (0 : Int) < (n : Int) := by omega
    by_cases h1 : n ≤ 32
    · have h1z : (n : Int) ≤ 32 := by omega
      have HY := Lib.hid (lengthB_yes ⟨h0, h1⟩)
      go_enter Tryz.func116, Tryz.ntmps116
      go_wp2_with fail
      go_ret
      exact ⟨retb HY.out, rfl⟩
    · have h1z : ¬ (n : Int) ≤ 32 := by omega
      have HY := Lib.hid (lengthB_no (n := n) fun h => h1 h.2)
      go_enter Tryz.func116, Tryz.ntmps116
      go_wp2_with fail
      go_ret
      exact ⟨retb HY.out, rfl⟩
  · have h0z : ¬ (0 : Int) < (n : Int) := by omega
    have HY := Lib.hid (lengthB_no (n := n) fun h => h0 h.1)
    go_enter Tryz.func116, Tryz.ntmps116
    go_wp2_with fail
    go_ret
    exact ⟨retb HY.out, rfl⟩
end
end Go.Proofs.YtmhophmpbpbjaaaGreatDoor
