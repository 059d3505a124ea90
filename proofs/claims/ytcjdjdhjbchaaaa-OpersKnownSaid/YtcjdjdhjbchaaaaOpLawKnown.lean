/- OpersKnown: the examples hold; all kinds with all numbers about their bounds, over a few records. -/
import Derived.Test.YtcjdjdhjbchaaaaCa25
import Derived.Test.YtcjdjdhjbchaaaaCa26
import Derived.Test.YtcjdjdhjbchaaaaCa9
import Derived.Test.YtcjdjdhjbchaaaaCa21
import Derived.Test.YtcjdjdhjbchaaaaOpLawRun
import Derived.Test.YtcjdjdhjbchaaaaOpLawApart
import Derived.Test.YtcjdjdhjbchaaaaOpLawOrder
import Derived.Test.YtcjdjdhjbchaaaaOpLawTime
import Derived.Test.YtcjdjdhjbchaaaaOpLawOf
import Derived.SizedLaws
namespace Go.Proofs.Ytcjdjdhjbchaaaa
open Go.ChangeShapes Go.WideShapes Go.ChangeAt Go.RowKit Go.BigFrame
open Vr _root_.Go.Proofs.Ytcjdjdhjbchaaaa.Op
set_option linter.unusedVariables false
set_option maxRecDepth 100000
namespace opersKnown
abbrev Yes (w : World) (e : Ending) (w' : World) : Prop := e = .returned (.bool true) ∧ Below w.heap.size w w'
def aL : List Rd := [⟨1, 5⟩, ⟨1, -3⟩, ⟨-2, 4⟩, ⟨7, 9223372036854775807⟩, ⟨7, -9223372036854775808⟩, ⟨1, 5⟩, ⟨-9223372036854775808, 0⟩]
def bL : List Rd := [⟨1, 10⟩, ⟨-2, 1⟩, ⟨1, 10⟩, ⟨9, 9⟩]
theorem aL_W : ∀ r ∈ aL, r.W := by
  intro r hr
  unfold aL at hr
  simp only [List.mem_cons, List.not_mem_nil, or_false] at hr
  rcases hr with rfl | rfl | rfl | rfl | rfl | rfl | rfl <;> exact ⟨⟨by decide, by decide⟩, by decide, by decide⟩
theorem bL_W : ∀ r ∈ bL, r.W := by
  intro r hr
  unfold bL at hr
  simp only [List.mem_cons, List.not_mem_nil, or_false] at hr
  rcases hr with rfl | rfl | rfl | rfl <;> exact ⟨⟨by decide, by decide⟩, by decide, by decide⟩
section
variable {kd cc : Nat} {x : Int}
def NOk (kd cc : Nat) (x : Int) : Prop := kd < 256 ∧ cc < 256 ∧ -9223372036854775808 ≤ x ∧ x ≤ 9223372036854775807
theorem NOk.node (h : NOk kd cc x) : NodeOk ⟨kd, cc, x, 0, []⟩ := ⟨h.1, h.2.1, h.2.2, ⟨by show (-9223372036854775808 : Int) ≤ 0; decide, by show (0 : Int) ≤ 9223372036854775807; decide⟩⟩
theorem run_w0 (h : NOk kd cc x) (w : World) : Calls Try.prog 3 #[.agg #[.int .u8 (kd : Nat), .int .u8 (cc : Nat), .int .i64 x, .int .i64 0, .slice none 0 0], .slice none 0 0] w (Yes w) :=
  opersRun.walk ⟨kd, cc, x, 0, []⟩ none 0 0 h.node none [] 0 w RowsIn.nil (by simp)
theorem run_wl (h : NOk kd cc x) {w : World} {v : Value} {ls : List (List Rd)} (hl : LitV w v ls) (hW : ∀ l ∈ ls, ∀ r ∈ l, r.W) : Calls Try.prog 3 #[.agg #[.int .u8 (kd : Nat), .int .u8 (cc : Nat), .int .i64 x, .int .i64 0, .slice none 0 0], v] w (Yes w) := by
  obtain ⟨B, L, rfl, hR, rfl⟩ := hl
  rw [List.length_map]
  exact opersRun.walk ⟨kd, cc, x, 0, []⟩ none 0 0 h.node (some ⟨B, 0, none⟩) L L.length w (RowsIn.of_at hR) (fun q hq => hW q.ts (List.mem_map_of_mem hq))
theorem order_w (h : NOk kd cc x) {w : World} {va vb : Value} (ha : RowV w va aL) (hb : RowV w vb bL) (k : Int) (hk : -9223372036854775808 ≤ k ∧ k ≤ 9223372036854775807) : Calls Try.prog 6 #[.agg #[.int .u8 (kd : Nat), .int .u8 (cc : Nat), .int .i64 x, .int .i64 0, .slice none 0 0], va, vb, .int .i64 k] w (Yes w) := by
  have ha' := ha; have hb' := hb
  obtain ⟨A, c, rfl, _⟩ := ha
  obtain ⟨B, d, rfl, _⟩ := hb
  exact opersOrder.walk ⟨kd, cc, x, 0, []⟩ none 0 0 h.node A B aL bL c d k hk w ha' hb' aL_W bL_W
theorem apart_w (h : NOk kd cc x) {w : World} {va vb : Value} {FA : Option Addr} {xs : List Nat} {n fc : Nat} (ha : RowV w va aL) (hb : RowV w vb bL) (ws : Nat) (hws : ws < 256) (hn : n = xs.length) (hF : Bytes w FA xs) : Calls Try.prog 7 #[.agg #[.int .u8 (kd : Nat), .int .u8 (cc : Nat), .int .i64 x, .int .i64 0, .slice none 0 0], va, vb, .int .u8 (ws : Nat), .slice FA n fc] w (Yes w) := by
  have ha' := ha; have hb' := hb
  subst hn
  obtain ⟨A, c, rfl, _⟩ := ha
  obtain ⟨B, d, rfl, _⟩ := hb
  exact opersApart.walk ⟨kd, cc, x, 0, []⟩ none 0 0 h.node A B FA aL bL c d fc ws xs hws w ha' hb' hF aL_W bL_W
theorem time_w (kd cc : Nat) (x d e y0 y1 y2 : Int) (w : World) : Calls Try.prog 4 #[.agg #[.int .u8 (kd : Nat), .int .u8 (cc : Nat), .int .i64 x, .int .i64 0, .slice none 0 0], .agg #[.int .i64 d, .int .i64 e, .int .i64 y0, .int .i64 y1, .int .i64 y2]] w (Yes w) :=
  opersTime.walk ⟨kd, cc, x, 0, []⟩ none 0 0 ⟨d, e, y0, y1, y2⟩ w
theorem of_w (kd cc : Nat) (x : Int) (r : Rd) (wk ws : Int) (w : World) : Calls Try.prog 5 #[.agg #[.int .u8 (kd : Nat), .int .u8 (cc : Nat), .int .i64 x, .int .i64 0, .slice none 0 0], r.val, .int .i64 wk, .int .i64 ws] w (Yes w) :=
  opersOf.walk ⟨kd, cc, x, 0, []⟩ none 0 0 r wk ws w
end
def xL : List Value := [.int .i64 (-9223372036854775808), .int .i64 (-1), .int .i64 0, .int .i64 1, .int .i64 4, .int .i64 16, .int .i64 17]
theorem xL_at {q : Nat} (hq : q < 7) : ∃ x : Int, xL[q]? = some (.int .i64 x) ∧ -9223372036854775808 ≤ x ∧ x ≤ 17 := by
  obtain rfl | rfl | rfl | rfl | rfl | rfl | rfl : q = 0 ∨ q = 1 ∨ q = 2 ∨ q = 3 ∨ q = 4 ∨ q = 5 ∨ q = 6 := by omega
  all_goals exact ⟨_, rfl, by decide, by decide⟩
set_option maxHeartbeats 16000000 in
theorem walk (w : World) : Calls Try.prog 11 #[] w (Yes w) := by
  go_enter Try.func11, Try.ntmps11
  go_upto_region 2 with fail
  have hA : RowV (w.alloc (.cells #[.int .i64 1, .int .i64 5, .int .i64 1, .int .i64 (-3), .int .i64 (-2), .int .i64 4, .int .i64 7, .int .i64 9223372036854775807, .int .i64 7, .int .i64 (-9223372036854775808), .int .i64 1, .int .i64 5, .int .i64 (-9223372036854775808), .int .i64 0] 36)) (.slice (some ⟨w.heap.size, 0, none⟩) 7 7) aL := RowV.made w aL (by decide) _ rfl 7 rfl
  have hb : Below w.heap.size w (w.alloc (.cells #[.int .i64 1, .int .i64 5, .int .i64 1, .int .i64 (-3), .int .i64 (-2), .int .i64 4, .int .i64 7, .int .i64 9223372036854775807, .int .i64 7, .int .i64 (-9223372036854775808), .int .i64 1, .int .i64 5, .int .i64 (-9223372036854775808), .int .i64 0] 36)) := (Below.refl _ w).alloc (Nat.le_refl _) _
  generalize w.alloc (.cells #[.int .i64 1, .int .i64 5, .int .i64 1, .int .i64 (-3), .int .i64 (-2), .int .i64 4, .int .i64 7, .int .i64 9223372036854775807, .int .i64 7, .int .i64 (-9223372036854775808), .int .i64 1, .int .i64 5, .int .i64 (-9223372036854775808), .int .i64 0] 36) = w1 at *
  obtain ⟨ga, hga⟩ : ∃ g, w.heap.size = g := ⟨_, rfl⟩
  have HBA := Lib.hid hb; clear hb
  rw [hga] at hA ⊢
  clear hga
  have HA := Lib.hid hA; clear hA
  go_upto_region 3 with fail
  have hB : RowV (w1.alloc (.cells #[.int .i64 1, .int .i64 10, .int .i64 (-2), .int .i64 1, .int .i64 1, .int .i64 10, .int .i64 9, .int .i64 9] 36)) (.slice (some ⟨w1.heap.size, 0, none⟩) 4 4) bL := RowV.made w1 bL (by decide) _ rfl 4 rfl
  have hb : Below w1.heap.size w1 (w1.alloc (.cells #[.int .i64 1, .int .i64 10, .int .i64 (-2), .int .i64 1, .int .i64 1, .int .i64 10, .int .i64 9, .int .i64 9] 36)) := (Below.refl _ w1).alloc (Nat.le_refl _) _
  have h := HA.out.below hb; clear HA; have HA := Lib.hid h; clear h
  have h := HBA.out.trans (hb.mono HBA.out.size); clear HBA; have HBA := Lib.hid h; clear h hb
  generalize w1.alloc (.cells #[.int .i64 1, .int .i64 10, .int .i64 (-2), .int .i64 1, .int .i64 1, .int .i64 10, .int .i64 9, .int .i64 9] 36) = w2 at *
  obtain ⟨gb, hgb⟩ : ∃ g, w1.heap.size = g := ⟨_, rfl⟩
  rw [hgb] at hB ⊢
  clear hgb
  have HB := Lib.hid hB; clear hB
  go_wp2_with fail
  go_loopw [3] (fun vk wr => ∃ kd : Nat, kd ≤ 12 ∧ vk = .int .u8 (kd : Nat) ∧ Below w2.heap.size w2 wr) (fun vk _ => 12 - (intOf vk).toNat)
  case atStart => exact ⟨0, by omega, rfl, Below.refl _ _⟩
  case round =>
    obtain ⟨wk, rfl⟩ : ∃ wo, wo = wr := ⟨_, rfl⟩
    obtain ⟨kd, hkd, rfl, hb1⟩ := hrel
    have HB1 := Lib.hid hb1; clear hb1
    by_cases hk : kd < 12
    · have hkz : (kd : Int) < 12 := by omega
      have sk : IntKind.u8.wrap ((kd : Int) + 1) = (kd : Int) + 1 := IntWalk.u8_in _ (by omega)
      go_wp2_with fail
      go_loopw [4] (fun vk wr => ∃ cc : Nat, cc ≤ 5 ∧ vk = .int .u8 (cc : Nat) ∧ Below w2.heap.size w2 wr) (fun vk _ => 5 - (intOf vk).toNat)
      case atStart => exact ⟨0, by omega, rfl, HB1.out⟩
      case round =>
        obtain ⟨wl, rfl⟩ : ∃ wo, wo = wr := ⟨_, rfl⟩
        obtain ⟨cc, hcc, rfl, hb2⟩ := hrel
        clear HB1
        have HB2 := Lib.hid hb2; clear hb2
        by_cases hc : cc < 5
        · have hcz : (cc : Int) < 5 := by omega
          have sc : IntKind.u8.wrap ((cc : Int) + 1) = (cc : Int) + 1 := IntWalk.u8_in _ (by omega)
          go_upto_region 10 with fail
          have hX := Row.made wl 2 xL
          have hb : Below w2.heap.size w2 (wl.alloc (.cells #[.int .i64 (-9223372036854775808), .int .i64 (-1), .int .i64 0, .int .i64 1, .int .i64 4, .int .i64 16, .int .i64 17] 2)) := HB2.out.alloc HB2.out.size _
          simp only [xL, List.toArray] at hX
          generalize wl.alloc (.cells #[.int .i64 (-9223372036854775808), .int .i64 (-1), .int .i64 0, .int .i64 1, .int .i64 4, .int .i64 16, .int .i64 17] 2) = w3 at *
          generalize wl.heap.size = gx at *
          have HX : Hid (Row w3 gx 2 xL) := Lib.hid hX
          have HB3 := Lib.hid hb; clear hb hX HB2
          go_loopw [32] (fun vq wr => ∃ q : Nat, q ≤ 7 ∧ vq = .int .i64 (q : Nat) ∧ Below w3.heap.size w3 wr) (fun vq _ => 7 - (intOf vq).toNat)
          case atStart => exact ⟨0, by omega, rfl, Below.refl _ _⟩
          case round =>
            obtain ⟨wq, rfl⟩ : ∃ wo, wo = wr := ⟨_, rfl⟩
            obtain ⟨q, hq, rfl, hb4⟩ := hrel
            have HB4 := Lib.hid hb4; clear hb4
            by_cases hq7 : q < 7
            · have hqz : (q : Int) < 7 := by omega
              obtain ⟨x, hx, hx1, hx2⟩ := xL_at hq7
              have hcx := (HX.out.below HB4.out HX.out.lt).cell q
              rw [hx] at hcx
              have hok : NOk kd cc x := ⟨by omega, by omega, hx1, by omega⟩
              have HOK := Lib.hid hok; clear hx hok
              go_upto_region 13 with fail
              have hnb := Row.made wq 24 [.int .u8 (kd : Nat), .int .u8 (cc : Nat), .int .i64 x, .int .i64 0, .slice none 0 0]
              have hb := HB4.out.alloc HB4.out.size (.cells #[.int .u8 (kd : Nat), .int .u8 (cc : Nat), .int .i64 x, .int .i64 0, .slice none 0 0] 24)
              have hb2 := (Below.refl wq.heap.size wq).alloc (Nat.le_refl _) (.cells #[.int .u8 (kd : Nat), .int .u8 (cc : Nat), .int .i64 x, .int .i64 0, .slice none 0 0] 24)
              simp only [List.toArray] at hnb
              have hb3 := HB3.out.trans (HB4.out.mono HB3.out.size)
              have h := HA.out.below hb3; clear HA; have HA := Lib.hid h; clear h
              have h := HB.out.below hb3; clear HB; have HB := Lib.hid h; clear h
              have h := HA.out.below hb2; clear HA; have HA := Lib.hid h; clear h
              have h := HB.out.below hb2; clear HB; have HB := Lib.hid h; clear h
              generalize wq.alloc (.cells #[.int .u8 (kd : Nat), .int .u8 (cc : Nat), .int .i64 x, .int .i64 0, .slice none 0 0] 24) = w4 at *
              generalize wq.heap.size = gn at *
              have HNB := Lib.hid hnb; have HBK := Lib.hid hb
              clear hnb hb hb2 hb3 hcx
              have hcs := cells5 HNB.out
              obtain ⟨n0, n1, n2, n3, n4⟩ := hcs
              have hc := run_w0 HOK.out w4
              have HC := Lib.hid hc; clear hc
              go_wp2_with fail
              refine HC.out.mono ?_; rintro e w5 ⟨rfl, hb0⟩
              clear HC n0 n1 n2 n3 n4
              have hb : Below w4.heap.size w4 w5 := hb0
              clear hb0
              have h := HA.out.below hb; clear HA; have HA := Lib.hid h; clear h
              have h := HB.out.below hb; clear HB; have HB := Lib.hid h; clear h
              have h := HNB.out.below hb HNB.out.lt; clear HNB; have HNB := Lib.hid h; clear h
              have h := HBK.out.trans (hb.mono HBK.out.size); clear HBK hb; have HBK := Lib.hid h; clear h
              dsimp only
              have hcs := cells5 HNB.out
              obtain ⟨n0, n1, n2, n3, n4⟩ := hcs
              have hc := run_wl HOK.out (LitV.made w5 [.slice (some ⟨ga, 0, none⟩) 7 7] [aL] ⟨HA.out, trivial⟩ #[.slice (some ⟨ga, 0, none⟩) 7 7] rfl 1 rfl) (fun l hl r hr => by simp only [List.mem_cons, List.not_mem_nil, or_false] at hl; rcases hl with rfl; exact aL_W r hr)
              have HC := Lib.hid hc; clear hc
              go_wp2_with fail
              refine HC.out.mono ?_; rintro e w6 ⟨rfl, hb0⟩
              clear HC n0 n1 n2 n3 n4
              have hb : Below w5.heap.size w5 w6 := ((Below.refl _ w5).alloc (Nat.le_refl _) _).trans (hb0.mono (by simp))
              clear hb0
              have h := HA.out.below hb; clear HA; have HA := Lib.hid h; clear h
              have h := HB.out.below hb; clear HB; have HB := Lib.hid h; clear h
              have h := HNB.out.below hb HNB.out.lt; clear HNB; have HNB := Lib.hid h; clear h
              have h := HBK.out.trans (hb.mono HBK.out.size); clear HBK hb; have HBK := Lib.hid h; clear h
              dsimp only
              have hcs := cells5 HNB.out
              obtain ⟨n0, n1, n2, n3, n4⟩ := hcs
              have hc := run_wl HOK.out (LitV.made w6 [.slice (some ⟨ga, 0, none⟩) 7 7, .slice (some ⟨gb, 0, none⟩) 4 4] [aL, bL] ⟨HA.out, HB.out, trivial⟩ #[.slice (some ⟨ga, 0, none⟩) 7 7, .slice (some ⟨gb, 0, none⟩) 4 4] rfl 2 rfl) (fun l hl r hr => by simp only [List.mem_cons, List.not_mem_nil, or_false] at hl; rcases hl with rfl | rfl; exact aL_W r hr; exact bL_W r hr)
              have HC := Lib.hid hc; clear hc
              go_wp2_with fail
              refine HC.out.mono ?_; rintro e w7 ⟨rfl, hb0⟩
              clear HC n0 n1 n2 n3 n4
              have hb : Below w6.heap.size w6 w7 := ((Below.refl _ w6).alloc (Nat.le_refl _) _).trans (hb0.mono (by simp))
              clear hb0
              have h := HA.out.below hb; clear HA; have HA := Lib.hid h; clear h
              have h := HB.out.below hb; clear HB; have HB := Lib.hid h; clear h
              have h := HNB.out.below hb HNB.out.lt; clear HNB; have HNB := Lib.hid h; clear h
              have h := HBK.out.trans (hb.mono HBK.out.size); clear HBK hb; have HBK := Lib.hid h; clear h
              dsimp only
              have hcs := cells5 HNB.out
              obtain ⟨n0, n1, n2, n3, n4⟩ := hcs
              have hc := run_wl HOK.out (LitV.made w7 [.slice (some ⟨ga, 0, none⟩) 7 7, .slice (some ⟨gb, 0, none⟩) 4 4, .slice (some ⟨ga, 0, none⟩) 7 7] [aL, bL, aL] ⟨HA.out, HB.out, HA.out, trivial⟩ #[.slice (some ⟨ga, 0, none⟩) 7 7, .slice (some ⟨gb, 0, none⟩) 4 4, .slice (some ⟨ga, 0, none⟩) 7 7] rfl 3 rfl) (fun l hl r hr => by simp only [List.mem_cons, List.not_mem_nil, or_false] at hl; rcases hl with rfl | rfl | rfl; exact aL_W r hr; exact bL_W r hr; exact aL_W r hr)
              have HC := Lib.hid hc; clear hc
              go_wp2_with fail
              refine HC.out.mono ?_; rintro e w8 ⟨rfl, hb0⟩
              clear HC n0 n1 n2 n3 n4
              have hb : Below w7.heap.size w7 w8 := ((Below.refl _ w7).alloc (Nat.le_refl _) _).trans (hb0.mono (by simp))
              clear hb0
              have h := HA.out.below hb; clear HA; have HA := Lib.hid h; clear h
              have h := HB.out.below hb; clear HB; have HB := Lib.hid h; clear h
              have h := HNB.out.below hb HNB.out.lt; clear HNB; have HNB := Lib.hid h; clear h
              have h := HBK.out.trans (hb.mono HBK.out.size); clear HBK hb; have HBK := Lib.hid h; clear h
              dsimp only
              have s1 : IntKind.i64.wrap (cc : Int) = (cc : Int) := IntWalk.i64_in _ (by omega)
              have hcs := cells5 HNB.out
              obtain ⟨n0, n1, n2, n3, n4⟩ := hcs
              have hc := order_w HOK.out HA.out HB.out (cc : Int) (by omega)
              have HC := Lib.hid hc; clear hc
              go_wp2_with fail
              refine HC.out.mono ?_; rintro e w9 ⟨rfl, hb0⟩
              clear HC n0 n1 n2 n3 n4
              have hb : Below w8.heap.size w8 w9 := hb0
              clear hb0
              have h := HA.out.below hb; clear HA; have HA := Lib.hid h; clear h
              have h := HB.out.below hb; clear HB; have HB := Lib.hid h; clear h
              have h := HNB.out.below hb HNB.out.lt; clear HNB; have HNB := Lib.hid h; clear h
              have h := HBK.out.trans (hb.mono HBK.out.size); clear HBK hb; have HBK := Lib.hid h; clear h
              dsimp only
              obtain ⟨ws, hws, hws2⟩ : ∃ ws : Nat, IntKind.u8.wrap x = (ws : Int) ∧ ws < 256 := ⟨(IntKind.u8.wrap x).toNat, by rw [IntKind.wrap_u8]; omega, by rw [IntKind.wrap_u8]; omega⟩
              have hby := Bytes.made w9 5 (0, 0) (xs := [3, 1, 4, 1, 5, 9, 2]) (by decide)
              have hal := (Below.refl w9.heap.size w9).alloc (Nat.le_refl _) (.cells #[.int .u8 3, .int .u8 1, .int .u8 4, .int .u8 1, .int .u8 5, .int .u8 9, .int .u8 2] 5)
              have hby2 : Bytes (w9.alloc (.cells #[.int .u8 3, .int .u8 1, .int .u8 4, .int .u8 1, .int .u8 5, .int .u8 9, .int .u8 2] 5)) (some ⟨w9.heap.size, 0, none⟩) [3, 1, 4, 1, 5, 9, 2] := hby
              clear hby
              have HBY := Lib.hid hby2; have HAL := Lib.hid hal; clear hby2 hal
              have hcs := cells5 HNB.out
              obtain ⟨n0, n1, n2, n3, n4⟩ := hcs
              have hc := apart_w HOK.out (n := 7) (fc := 7) (HA.out.below HAL.out) (HB.out.below HAL.out) ws hws2 rfl HBY.out
              have HC := Lib.hid hc; clear hc
              go_wp2_with fail
              refine HC.out.mono ?_; rintro e w10 ⟨rfl, hb0⟩
              clear HC n0 n1 n2 n3 n4
              have hb : Below w9.heap.size w9 w10 := ((Below.refl _ w9).alloc (Nat.le_refl _) _).trans (hb0.mono (by simp))
              clear hb0
              have h := HA.out.below hb; clear HA; have HA := Lib.hid h; clear h
              have h := HB.out.below hb; clear HB; have HB := Lib.hid h; clear h
              have h := HNB.out.below hb HNB.out.lt; clear HNB; have HNB := Lib.hid h; clear h
              have h := HBK.out.trans (hb.mono HBK.out.size); clear HBK hb; have HBK := Lib.hid h; clear h
              dsimp only
              clear HBY HAL hws hws2 s1
              go_wp2_with fail
              go_loopw [8] (fun vi wr => ∃ i : Nat, i ≤ 4 ∧ vi = .int .i64 (i : Nat) ∧ Below w10.heap.size w10 wr) (fun vi _ => 4 - (intOf vi).toNat)
              case atStart => exact ⟨0, by omega, rfl, Below.refl _ _⟩
              case round =>
                obtain ⟨wi, rfl⟩ : ∃ wo, wo = wr := ⟨_, rfl⟩
                obtain ⟨i, hi, rfl, hb5⟩ := hrel
                have HB5 := Lib.hid hb5; clear hb5
                by_cases hi4 : i < 4
                · have hiz : (i : Int) < 4 := by omega
                  have hi7 : (i : Int) < 7 := by omega
                  have s1 : IntKind.i64.wrap ((i : Int) * 5) = (i : Int) * 5 := IntWalk.i64_in _ (by omega)
                  have s2 : IntKind.i64.wrap ((i : Int) - 1) = (i : Int) - 1 := IntWalk.i64_in _ (by omega)
                  have s3 : IntKind.i64.wrap ((i : Int) * 21) = (i : Int) * 21 := IntWalk.i64_in _ (by omega)
                  have s4 : IntKind.i64.wrap ((i : Int) + 2) = (i : Int) + 2 := IntWalk.i64_in _ (by omega)
                  have s5 : IntKind.i64.wrap ((i : Int) + 1) = (i : Int) + 1 := IntWalk.i64_in _ (by omega)
                  obtain ⟨A1, c1, e1, hTL, _⟩ := HA.out.below HB5.out
                  injection e1 with e1 e2 e3
                  subst e1 e3
                  clear e2
                  obtain ⟨r, hr⟩ : ∃ r, aL[i]? = some r := ⟨_, List.getElem?_eq_getElem (by show i < 7; omega)⟩
                  obtain ⟨b1, o1, e1, _, hq1⟩ := recs_at hTL hr
                  cases e1
                  obtain ⟨b1, o1, e1, _, hq6⟩ := recs_at hTL (show aL[6]? = some ⟨-9223372036854775808, 0⟩ from rfl)
                  cases e1
                  simp only [Nat.zero_add] at hq1 hq6
                  have HLR : Hid (∀ w', Below wi.heap.size wi w' → (Instr.loadAt 36 (.pointer (some ⟨ga, i * 2, none⟩))).run Try.prog w' = .ok r.val w') := Lib.hid fun w' hb => by
                    obtain ⟨q0, q1⟩ := hq1 w' hb
                    exact run_loadAt_part ga (i * 2) 36 _ r.cells (fun j v hj => by
                      match j, hj with
                      | 0, hj => simp only [Rd.cells, List.getElem?_cons_zero, Option.some.injEq] at hj; subst hj; simpa [add_at] using q0
                      | 1, hj => simp only [Rd.cells, List.getElem?_cons_zero, List.getElem?_cons_succ, Option.some.injEq] at hj; subst hj; simpa [add_at] using q1
                      | j + 2, hj => simp [Rd.cells] at hj) Try.underlying36 rfl (by kernel_rfl)
                  have HL6 : Hid (∀ w', Below wi.heap.size wi w' → (Instr.loadAt 36 (.pointer (some ⟨ga, 12, none⟩))).run Try.prog w' = .ok (Rd.val ⟨-9223372036854775808, 0⟩) w') := Lib.hid fun w' hb => by
                    obtain ⟨q0, q1⟩ := hq6 w' hb
                    exact run_loadAt_part ga 12 36 _ (Rd.cells ⟨-9223372036854775808, 0⟩) (fun j v hj => by
                      match j, hj with
                      | 0, hj => simp only [Rd.cells, List.getElem?_cons_zero, Option.some.injEq] at hj; subst hj; simpa [add_at] using q0
                      | 1, hj => simp only [Rd.cells, List.getElem?_cons_zero, List.getElem?_cons_succ, Option.some.injEq] at hj; subst hj; simpa [add_at] using q1
                      | j + 2, hj => simp [Rd.cells] at hj) Try.underlying36 rfl (by kernel_rfl)
                  have hnw := HNB.out.below HB5.out HNB.out.lt
                  have HLN : Hid (∀ w', Below wi.heap.size wi w' → (Instr.loadAt 24 (.pointer (some ⟨gn, 0, none⟩))).run Try.prog w' = .ok (.agg #[.int .u8 (kd : Nat), .int .u8 (cc : Nat), .int .i64 x, .int .i64 0, .slice none 0 0]) w') := Lib.hid fun w' hb => load_node (n := ⟨kd, cc, x, 0, []⟩) (NA := none) (nm := 0) (nc := 0) (hnw.below hb hnw.lt)
                  clear hr hTL hq1 hq6 hnw
                  have HT1 := Lib.hid (fun w' => time_w kd cc x (i : Int) 4 0 0 0 w')
                  have HT2 := Lib.hid (fun w' => time_w kd cc x 1 4 ((i : Int) * 5) 0 0 w')
                  have HO1 := Lib.hid (fun w' => of_w kd cc x r ((i : Int) - 1) ((i : Int) * 21) w')
                  have HO2 := Lib.hid (fun w' => of_w kd cc x ⟨-9223372036854775808, 0⟩ 2 ((i : Int) + 2) w')
                  go_upto_region 18 with fail
                  refine wp_region_below (by kernel_rfl) (by kernel_rfl) ?_
                  refine wpQuiet_step (fun K hK => ?_); refine q_load (p := .pointer (some ⟨gn, 0, none⟩)) 24 _ rfl rfl rfl (HLN.out) ?_; go_simp; (with_reducible refine hK _ ?_); clear hK K
                  refine wpQuiet_step (fun K hK => ?_); go_simp; (first | (with_reducible refine hK _ ?_) | (with_reducible refine ⟨_, fun _ _ => rfl, hK _ ?_⟩)); clear hK K
                  refine wpQuiet_step (fun K hK => ?_); go_simp; (first | (with_reducible refine hK _ ?_) | (with_reducible refine ⟨_, fun _ _ => rfl, hK _ ?_⟩)); clear hK K
                  refine wpQuiet_step (fun K hK => ?_); go_simp; (first | (with_reducible refine hK _ ?_) | (with_reducible refine ⟨_, fun _ _ => rfl, hK _ ?_⟩)); clear hK K
                  refine wpQuiet_step (fun K hK => ?_); go_simp; (with_reducible refine ⟨_, fun _ hb => (HT1.out _).mono fun _ _ h => ⟨h.1, hb.trans (h.2.mono (by simpa using hb.size))⟩, hK _ ?_⟩); clear hK K
                  refine wpQuiet_step (fun K hK => ?_); go_simp; (first | (with_reducible refine hK _ ?_) | (with_reducible refine ⟨_, fun _ _ => rfl, hK _ ?_⟩)); clear hK K
                  refine wpQuiet_step (fun K hK => ?_); go_simp; (first | (with_reducible refine hK _ ?_) | (with_reducible refine ⟨_, fun _ _ => rfl, hK _ ?_⟩)); clear hK K
                  refine wpQuiet_step (fun K hK => ?_); refine q_load (p := .pointer (some ⟨gn, 0, none⟩)) 24 _ rfl rfl rfl (HLN.out) ?_; go_simp; (with_reducible refine hK _ ?_); clear hK K
                  refine wpQuiet_step (fun K hK => ?_); go_simp; (first | (with_reducible refine hK _ ?_) | (with_reducible refine ⟨_, fun _ _ => rfl, hK _ ?_⟩)); clear hK K
                  refine wpQuiet_step (fun K hK => ?_); go_simp; (first | (with_reducible refine hK _ ?_) | (with_reducible refine ⟨_, fun _ _ => rfl, hK _ ?_⟩)); clear hK K
                  refine wpQuiet_step (fun K hK => ?_); go_simp; (first | (with_reducible refine hK _ ?_) | (with_reducible refine ⟨_, fun _ _ => rfl, hK _ ?_⟩)); clear hK K
                  refine wpQuiet_step (fun K hK => ?_); go_simp; (first | (with_reducible refine hK _ ?_) | (with_reducible refine ⟨_, fun _ _ => rfl, hK _ ?_⟩)); clear hK K
                  refine wpQuiet_step (fun K hK => ?_); go_simp; (with_reducible refine ⟨_, fun _ hb => (HT2.out _).mono fun _ _ h => ⟨h.1, hb.trans (h.2.mono (by simpa using hb.size))⟩, hK _ ?_⟩); clear hK K
                  refine wpQuiet_step (fun K hK => ?_); go_simp; (first | (with_reducible refine hK _ ?_) | (with_reducible refine ⟨_, fun _ _ => rfl, hK _ ?_⟩)); clear hK K
                  refine wpQuiet_step (fun K hK => ?_); go_simp; (first | (with_reducible refine hK _ ?_) | (with_reducible refine ⟨_, fun _ _ => rfl, hK _ ?_⟩)); clear hK K
                  refine wpQuiet_step (fun K hK => ?_); go_simp; (first | (with_reducible refine hK _ ?_) | (with_reducible refine ⟨_, fun _ _ => rfl, hK _ ?_⟩)); clear hK K
                  refine wpQuiet_step (fun K hK => ?_); refine q_load (p := .pointer (some ⟨gn, 0, none⟩)) 24 _ rfl rfl rfl (HLN.out) ?_; go_simp; (with_reducible refine hK _ ?_); clear hK K
                  refine wpQuiet_step (fun K hK => ?_); go_simp; (first | (with_reducible refine hK _ ?_) | (with_reducible refine ⟨_, fun _ _ => rfl, hK _ ?_⟩)); clear hK K
                  refine wpQuiet_step (fun K hK => ?_); go_simp; (first | (with_reducible refine hK _ ?_) | (with_reducible refine ⟨_, fun _ _ => rfl, hK _ ?_⟩)); clear hK K
                  refine wpQuiet_step (fun K hK => ?_); go_simp; (first | (with_reducible refine hK _ ?_) | (with_reducible refine ⟨_, fun _ _ => rfl, hK _ ?_⟩)); clear hK K
                  refine wpQuiet_step (fun K hK => ?_); refine q_load (p := .pointer (some ⟨ga, i * 2, none⟩)) 36 _ rfl rfl rfl (HLR.out) ?_; go_simp; (with_reducible refine hK _ ?_); clear hK K
                  refine wpQuiet_step (fun K hK => ?_); go_simp; (first | (with_reducible refine hK _ ?_) | (with_reducible refine ⟨_, fun _ _ => rfl, hK _ ?_⟩)); clear hK K
                  refine wpQuiet_step (fun K hK => ?_); go_simp; (first | (with_reducible refine hK _ ?_) | (with_reducible refine ⟨_, fun _ _ => rfl, hK _ ?_⟩)); clear hK K
                  refine wpQuiet_step (fun K hK => ?_); go_simp; (first | (with_reducible refine hK _ ?_) | (with_reducible refine ⟨_, fun _ _ => rfl, hK _ ?_⟩)); clear hK K
                  refine wpQuiet_step (fun K hK => ?_); go_simp; (first | (with_reducible refine hK _ ?_) | (with_reducible refine ⟨_, fun _ _ => rfl, hK _ ?_⟩)); clear hK K
                  refine wpQuiet_step (fun K hK => ?_); go_simp; (with_reducible refine ⟨_, fun _ hb => (HO1.out _).mono fun _ _ h => ⟨h.1, hb.trans (h.2.mono (by simpa using hb.size))⟩, hK _ ?_⟩); clear hK K
                  refine wpQuiet_step (fun K hK => ?_); go_simp; (first | (with_reducible refine hK _ ?_) | (with_reducible refine ⟨_, fun _ _ => rfl, hK _ ?_⟩)); clear hK K
                  refine wpQuiet_step (fun K hK => ?_); go_simp; (first | (with_reducible refine hK _ ?_) | (with_reducible refine ⟨_, fun _ _ => rfl, hK _ ?_⟩)); clear hK K
                  refine wpQuiet_step (fun K hK => ?_); go_simp; (first | (with_reducible refine hK _ ?_) | (with_reducible refine ⟨_, fun _ _ => rfl, hK _ ?_⟩)); clear hK K
                  refine wpQuiet_step (fun K hK => ?_); refine q_load (p := .pointer (some ⟨gn, 0, none⟩)) 24 _ rfl rfl rfl (HLN.out) ?_; go_simp; (with_reducible refine hK _ ?_); clear hK K
                  refine wpQuiet_step (fun K hK => ?_); go_simp; (first | (with_reducible refine hK _ ?_) | (with_reducible refine ⟨_, fun _ _ => rfl, hK _ ?_⟩)); clear hK K
                  refine wpQuiet_step (fun K hK => ?_); go_simp; (first | (with_reducible refine hK _ ?_) | (with_reducible refine ⟨_, fun _ _ => rfl, hK _ ?_⟩)); clear hK K
                  refine wpQuiet_step (fun K hK => ?_); refine q_load (p := .pointer (some ⟨ga, 12, none⟩)) 36 _ rfl rfl rfl (HL6.out) ?_; go_simp; (with_reducible refine hK _ ?_); clear hK K
                  refine wpQuiet_step (fun K hK => ?_); go_simp; (first | (with_reducible refine hK _ ?_) | (with_reducible refine ⟨_, fun _ _ => rfl, hK _ ?_⟩)); clear hK K
                  refine wpQuiet_step (fun K hK => ?_); go_simp; (first | (with_reducible refine hK _ ?_) | (with_reducible refine ⟨_, fun _ _ => rfl, hK _ ?_⟩)); clear hK K
                  refine wpQuiet_step (fun K hK => ?_); go_simp; (with_reducible refine ⟨_, fun _ hb => (HO2.out _).mono fun _ _ h => ⟨h.1, hb.trans (h.2.mono (by simpa using hb.size))⟩, hK _ ?_⟩); clear hK K
                  refine wpQuiet_step (fun K hK => ?_); go_simp; (first | (with_reducible refine hK _ ?_) | (with_reducible refine ⟨_, fun _ _ => rfl, hK _ ?_⟩)); clear hK K
                  refine wpQuiet_step (fun K hK => ?_); go_simp; (first | (with_reducible refine hK _ ?_) | (with_reducible refine ⟨_, fun _ _ => rfl, hK _ ?_⟩)); clear hK K
                  refine wpQuiet_nil ?_
                  intro w20 hb20
                  have hb21 := HB5.out.trans (hb20.mono HB5.out.size)
                  have HB6 := Lib.hid hb21
                  clear hb20 hb21 HLR HL6 HLN HT1 HT2 HO1 HO2
                  go_wp2_with fail
                  go_roundw
                  case rel => exact ⟨i + 1, by omega, rfl, HB6.out⟩
                  case measure => simp only [intOf]; omega
                · have hiz : ¬ (i : Int) < 4 := by omega
                  have s5 : IntKind.i64.wrap ((q : Int) + 1) = (q : Int) + 1 := IntWalk.i64_in _ (by omega)
                  have hb6 := HBK.out.trans (HB5.out.mono HBK.out.size)
                  have HB6 := Lib.hid hb6; clear hb6
                  go_wp2_with fail
                  go_roundw
                  case rel => exact ⟨q + 1, by omega, rfl, HB6.out⟩
                  case measure => simp only [intOf]; omega
            · have hqz : ¬ (q : Int) < 7 := by omega
              have hb6 := HB3.out.trans (HB4.out.mono HB3.out.size)
              have HB6 := Lib.hid hb6; clear hb6
              go_wp2_with fail
              go_roundw
              case rel => exact ⟨cc + 1, by omega, rfl, HB6.out⟩
              case measure => simp only [intOf]; omega
        · have hcz : ¬ (cc : Int) < 5 := by omega
          go_wp2_with fail
          go_roundw
          case rel => exact ⟨kd + 1, by omega, rfl, HB2.out⟩
          case measure => simp only [intOf]; omega
    · have hkz : ¬ (kd : Int) < 12 := by omega
      have hb6 := HBA.out.trans (HB1.out.mono HBA.out.size)
      have HBK := Lib.hid hb6; clear hb6
      have h := HA.out.below HB1.out; clear HA; have HA := Lib.hid h; clear h
      have h := HB.out.below HB1.out; clear HB; have HB := Lib.hid h; clear h
      obtain ⟨A1, c1, e1, hTL, _⟩ := HA.out
      injection e1 with e1 e2 e3
      subst e1 e3
      clear e2
      obtain ⟨b1, o1, e1, _, hq6⟩ := recs_at hTL (show aL[6]? = some ⟨-9223372036854775808, 0⟩ from rfl)
      cases e1
      simp only [Nat.zero_add] at hq6
      have HQ6 := Lib.hid hq6; clear hq6 hTL
      obtain ⟨q0, q1⟩ := HQ6.out wk (Below.refl _ _)
      have hc : Calls Try.prog 5 #[.agg #[.int .u8 5, .int .u8 0, .int .i64 0, .int .i64 0, .slice none 0 0], .agg #[.int .i64 (-9223372036854775808), .int .i64 0], .int .i64 63, .int .i64 64] wk (Yes wk) := of_w 5 0 0 ⟨-9223372036854775808, 0⟩ 63 64 wk
      have HC := Lib.hid hc; clear hc
      go_wp2_with fail
      refine HC.out.mono ?_; rintro e wa ⟨rfl, hb0⟩
      clear HC q0 q1
      dsimp only
      obtain ⟨q0, q1⟩ := HQ6.out wa hb0
      have hc : Calls Try.prog 5 #[.agg #[.int .u8 5, .int .u8 0, .int .i64 0, .int .i64 0, .slice none 0 0], .agg #[.int .i64 (-9223372036854775808), .int .i64 0], .int .i64 0, .int .i64 65] wa (Yes wa) := of_w 5 0 0 ⟨-9223372036854775808, 0⟩ 0 65 wa
      have HC := Lib.hid hc; have HWA := Lib.hid (HBK.out.trans (hb0.mono HBK.out.size)); clear hc hb0
      go_wp2_with fail
      refine HC.out.mono ?_; rintro e wb ⟨rfl, hb0⟩
      clear HC q0 q1
      have HWB := Lib.hid (HWA.out.trans (hb0.mono HWA.out.size)); clear hb0
      dsimp only
      go_wp2_with fail
      refine (works_any _).mono ?_; rintro e wz ⟨rfl, hb9⟩
      dsimp only
      go_wp2_with fail
      go_ret
      exact ⟨rfl, HWB.out.trans (hb9.mono HWB.out.size)⟩

set_option maxRecDepth 100000 in
theorem lifted (os : Os) (started : os.Started) (H : Type) (enc : TypeId × Value → H) :
    ReturnsInHanded {} Try.checked os 11 .any (Rows.opersKnownSpec.pre6 enc Try.prog Try.f11 Rows.opersKnownRow.domain false) (Rows.opersKnownSpec.post enc Try.prog Try.f11 false true false false) := by
  refine returnsInHanded_of_change_sized (C := Try.checked) ownKnob_none started (by kernel_rfl) Try.func11
    (ChangeSpec.witness6 (enc := enc) (C := Try.checked) false ⟨#[], #[], []⟩ 8 (by kernel_rfl) (by kernel_rfl) (by kernel_rfl) (by kernel_rfl)) ?_
  intro W base args ds gs before hval0 hW hcnd hsz0 _
  have hval : ∀ (j : Nat) t v, Try.f11.params[j]? = some t → args[j]? = some v → Value.okWide Try.prog W .any base t v := hval0
  have hW' := hW
  obtain ⟨p, q, hA0, hV, rfl, hfz, hnd⟩ := hW
  have hA : DataW.TrodAll enc Try.prog W 0 (fun _ => true) true Try.f11.params.toList args.toList ds p := hA0
  have hsz : (DataW.weightsEach Try.prog (Try.f11.params.toList ++ Rows.opersKnownSpec.plain.varTypes Try.prog) (ds ++ gs)).all (· ≤ reachBytes) = true := hsz0
  rw [Try.params11] at hA hval hsz
  obtain ⟨hargs, rfl, rfl⟩ := trodAll_nil hA
  obtain rfl : args = #[] := by cases args; simp_all
  obtain ⟨rfl, rfl⟩ := trodVars_none hV
  clear hA0 hval0 hsz0
  refine (walk W).mono fun e W' ⟨he, hg⟩ => ?_
  subst he
  exact ⟨_, rfl, law_post progLaid hW' rfl (by rw [Try.params11]; intro t ht; simp at ht) rfl Try.underlying4 rfl hg⟩

theorem over : Rows.opersKnownRow.holds Try.pinned (OpenSpec.ofChange Rows.opersKnownSpec) :=
  OpenClaim.holds_of_wide 11 Try.f11 rfl rfl rfl rfl rfl rfl rfl ⟨rfl, rfl, rfl, rfl, rfl⟩ rfl rfl rfl rfl rfl (by kernel_rfl) Try.func11 (by kernel_rfl)
    (of_decide_eq_true (by kernel_rfl)) (by unfold Func.isWrapper; first | (rw [if_pos (by decide +kernel)]; kernel_rfl) | (rw [if_neg (by decide +kernel)]; exact ⟨rfl, rfl⟩))
    (fun os started H enc _ => lifted os started H enc)

/-- The statement. -/
theorem proved : Rows.OpersKnownSaid :=
  over
end opersKnown
end Go.Proofs.Ytcjdjdhjbchaaaa
