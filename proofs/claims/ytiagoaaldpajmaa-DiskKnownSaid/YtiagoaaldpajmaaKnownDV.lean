/- DiskKnown: the examples of the chapter; each call about its bounds; nil. (A closed statement.) -/
import Derived.Test.YtiagoaaldpajmaaVze
import Derived.Test.YtiagoaaldpajmaaVzi
import Derived.Test.YtiagoaaldpajmaaVzj
import Derived.Test.YtiagoaaldpajmaaVzk
import Derived.Test.YtiagoaaldpajmaaVzl
import Derived.Test.YtiagoaaldpajmaaVzm
import Derived.Test.YtiagoaaldpajmaaVzn
namespace Go.Proofs.Ytiagoaaldpajmaa
open Go.ChangeShapes Go.WideShapes Go.ChangeAt Go.RowKit Go.BigFrame Go.Maps Go.Sort
set_option linter.unusedVariables false
def mkD (k : Nat) (nm b : ByteArray) (n : Int) : De := ⟨k, nm, b, n, none, [], 0⟩
theorem mkD_ok {w : World} {k : Nat} {nm b : ByteArray} {n : Int} (hk : k ≤ 255) (h1 : nm.size ≤ 1000) (h2 : b.size ≤ 1000) (h3 : -1000 ≤ n ∧ n ≤ 1000) : (mkD k nm b n).Ok ∧ IntsAt w (mkD k nm b n).ka (mkD k nm b n).keep :=
  ⟨⟨hk, by show nm.size ≤ _; omega, by show b.size ≤ _; omega, by show _ ≤ n ∧ n ≤ _; omega, Nat.le_refl _, by show 0 ≤ _; omega⟩, ints_none w⟩
theorem keepD_ok {w : World} {A : Option Addr} {ks : List Int} {c : Nat} (h : IntsAt w A ks) (h1 : ks.length ≤ c) (h2 : c ≤ 9223372036854775807) : (⟨8, ⟨#[]⟩, ⟨#[]⟩, 0, A, ks, c⟩ : De).Ok ∧ IntsAt w A ks :=
  ⟨⟨by show 8 ≤ 255; decide, by show (⟨#[]⟩ : ByteArray).size ≤ _; decide, by show (⟨#[]⟩ : ByteArray).size ≤ _; decide, by show _ ≤ (0 : Int) ∧ (0 : Int) ≤ _; decide, h1, h2⟩, h⟩
/-- the law's own row of calls -/
def exDe (b : Nat) (lg : ByteArray) : List De := [mkD 0 ⟨#[97]⟩ ⟨#[49, 50]⟩ (0), mkD 6 ⟨#[]⟩ ⟨#[]⟩ (0), mkD 0 ⟨#[97]⟩ ⟨#[51]⟩ (0), mkD 5 ⟨#[97]⟩ ⟨#[]⟩ (0), ⟨8, ⟨#[]⟩, ⟨#[]⟩, 0, some ⟨b, 0, none⟩, [6], 1⟩, mkD 5 ⟨#[97]⟩ ⟨#[]⟩ (0), mkD 0 lg ⟨#[120]⟩ (0), mkD 0 (lg ++ ⟨#[110]⟩) ⟨#[120]⟩ (0), mkD 0 ⟨#[]⟩ ⟨#[120]⟩ (0), mkD 3 ⟨#[97]⟩ lg (0), mkD 3 ⟨#[97]⟩ ⟨#[98]⟩ (0), mkD 3 lg ⟨#[99]⟩ (0), mkD 1 ⟨#[99]⟩ ⟨#[]⟩ (0), mkD 2 ⟨#[99]⟩ ⟨#[]⟩ (-1), mkD 2 ⟨#[99]⟩ ⟨#[]⟩ (9), mkD 2 ⟨#[99]⟩ ⟨#[]⟩ (1), mkD 4 ⟨#[120]⟩ ⟨#[]⟩ (0), mkD 6 ⟨#[]⟩ ⟨#[]⟩ (1), mkD 0 ⟨#[100]⟩ ⟨#[]⟩ (0), mkD 4 ⟨#[99]⟩ ⟨#[]⟩ (0), mkD 9 ⟨#[99]⟩ ⟨#[]⟩ (0), ⟨8, ⟨#[]⟩, ⟨#[]⟩, 0, some ⟨b + 1, 0, none⟩, [0, -1], 2⟩, mkD 7 ⟨#[]⟩ ⟨#[]⟩ (0), mkD 8 ⟨#[]⟩ ⟨#[]⟩ (0), mkD 6 ⟨#[]⟩ ⟨#[]⟩ (-5), mkD 3 ⟨#[99]⟩ ⟨#[99]⟩ (0), mkD 3 ⟨#[99]⟩ ⟨#[]⟩ (0), mkD 5 ⟨#[99]⟩ ⟨#[]⟩ (0)]
theorem exDe_len (b : Nat) (lg : ByteArray) : (exDe b lg).length = 28 := rfl
theorem exDe_ok {w : World} {b : Nat} {lg : ByteArray} (hz : lg.size = 128) (h6 : IntsAt w (some ⟨b, 0, none⟩) [6]) (h2 : IntsAt w (some ⟨b + 1, 0, none⟩) [0, -1]) : ∀ x ∈ exDe b lg, x.Ok ∧ IntsAt w x.ka x.keep := by
  have hz1 : (lg ++ ⟨#[110]⟩ : ByteArray).size ≤ 1000 := by rw [add_size, hz]; decide
  unfold exDe
  simp only [List.forall_mem_cons]
  exact ⟨mkD_ok (by decide) (by first | decide | exact hz1 | omega) (by first | decide | omega) (by decide), mkD_ok (by decide) (by first | decide | exact hz1 | omega) (by first | decide | omega) (by decide), mkD_ok (by decide) (by first | decide | exact hz1 | omega) (by first | decide | omega) (by decide), mkD_ok (by decide) (by first | decide | exact hz1 | omega) (by first | decide | omega) (by decide), keepD_ok h6 (by decide) (by decide), mkD_ok (by decide) (by first | decide | exact hz1 | omega) (by first | decide | omega) (by decide), mkD_ok (by decide) (by first | decide | exact hz1 | omega) (by first | decide | omega) (by decide), mkD_ok (by decide) (by first | decide | exact hz1 | omega) (by first | decide | omega) (by decide), mkD_ok (by decide) (by first | decide | exact hz1 | omega) (by first | decide | omega) (by decide), mkD_ok (by decide) (by first | decide | exact hz1 | omega) (by first | decide | omega) (by decide), mkD_ok (by decide) (by first | decide | exact hz1 | omega) (by first | decide | omega) (by decide), mkD_ok (by decide) (by first | decide | exact hz1 | omega) (by first | decide | omega) (by decide), mkD_ok (by decide) (by first | decide | exact hz1 | omega) (by first | decide | omega) (by decide), mkD_ok (by decide) (by first | decide | exact hz1 | omega) (by first | decide | omega) (by decide), mkD_ok (by decide) (by first | decide | exact hz1 | omega) (by first | decide | omega) (by decide), mkD_ok (by decide) (by first | decide | exact hz1 | omega) (by first | decide | omega) (by decide), mkD_ok (by decide) (by first | decide | exact hz1 | omega) (by first | decide | omega) (by decide), mkD_ok (by decide) (by first | decide | exact hz1 | omega) (by first | decide | omega) (by decide), mkD_ok (by decide) (by first | decide | exact hz1 | omega) (by first | decide | omega) (by decide), mkD_ok (by decide) (by first | decide | exact hz1 | omega) (by first | decide | omega) (by decide), mkD_ok (by decide) (by first | decide | exact hz1 | omega) (by first | decide | omega) (by decide), keepD_ok h2 (by decide) (by decide), mkD_ok (by decide) (by first | decide | exact hz1 | omega) (by first | decide | omega) (by decide), mkD_ok (by decide) (by first | decide | exact hz1 | omega) (by first | decide | omega) (by decide), mkD_ok (by decide) (by first | decide | exact hz1 | omega) (by first | decide | omega) (by decide), mkD_ok (by decide) (by first | decide | exact hz1 | omega) (by first | decide | omega) (by decide), mkD_ok (by decide) (by first | decide | exact hz1 | omega) (by first | decide | omega) (by decide), mkD_ok (by decide) (by first | decide | exact hz1 | omega) (by first | decide | omega) (by decide), by simp⟩
theorem ints_pair (w : World) (y z : Int) (hy : -9223372036854775808 ≤ y ∧ y ≤ 9223372036854775807) (hz : -9223372036854775808 ≤ z ∧ z ≤ 9223372036854775807) : IntsAt (w.alloc (.cells #[.int .i64 y, .int .i64 z] 3)) (some ⟨w.heap.size, 0, none⟩) [y, z] :=
  ⟨by intro x hx; simp at hx; rcases hx with rfl | rfl <;> assumption, fun _ => ⟨w.heap.size, 0, rfl, by simp, fun j x hj => by
    have hr := Row.made w 3 [.int .i64 y, .int .i64 z]
    match j, hj with
    | 0, hj => simp at hj; subst hj; exact hr.cell 0
    | 1, hj => simp at hj; subst hj; exact hr.cell 1
    | j + 2, hj => simp at hj⟩⟩
theorem strs_four (w : World) : Strs (w.alloc (.cells #[.string ⟨#[97, 98]⟩, .string ⟨#[]⟩, .string ⟨#[99, 100, 101]⟩, .string ⟨#[102]⟩] 9)) (some ⟨w.heap.size, 0, none⟩) [⟨#[97, 98]⟩, ⟨#[]⟩, ⟨#[99, 100, 101]⟩, ⟨#[102]⟩] :=
  ⟨by intro x hx; simp at hx; rcases hx with rfl | rfl | rfl | rfl <;> decide, fun _ => ⟨w.heap.size, 0, rfl, by simp, fun j x hj => by
    have hr := Row.made w 9 [.string ⟨#[97, 98]⟩, .string ⟨#[]⟩, .string ⟨#[99, 100, 101]⟩, .string ⟨#[102]⟩]
    match j, hj with
    | 0, hj => simp at hj; subst hj; exact hr.cell 0
    | 1, hj => simp at hj; subst hj; exact hr.cell 1
    | 2, hj => simp at hj; subst hj; exact hr.cell 2
    | 3, hj => simp at hj; subst hj; exact hr.cell 3
    | j + 4, hj => simp at hj⟩⟩
theorem sq_bound (z : Int) (h : -9 ≤ z ∧ z ≤ 19) : 0 ≤ z * z ∧ z * z ≤ 400 := by
  have h1 : 0 ≤ (20 + z) * (20 - z) := Int.mul_nonneg (by omega) (by omega)
  have h2 : (20 + z) * (20 - z) = 400 - z * z := by rw [Int.add_mul, Int.mul_sub, Int.mul_sub, Int.mul_comm 20 z]; omega
  have h3 : 0 ≤ z * z := by
    rcases Int.le_total 0 z with h | h
    · exact Int.mul_nonneg h h
    · have := Int.mul_nonneg (show 0 ≤ -z by omega) (show 0 ≤ -z by omega)
      rwa [Int.neg_mul_neg] at this
  omega
/-- numbers of the loop's -/
theorem nums_of {k : Nat} (h : k < 29) : decide ((k : Int) ≤ 28) = true ∧ IntKind.i64.wrap ((k : Int) - 2) = (k : Int) - 2 ∧ IntKind.i16.wrap ((k : Int) - 2) = (k : Int) - 2 ∧ IntKind.u16.wrap (k : Int) = (k : Int) ∧ True := by
  refine ⟨decide_eq_true (by omega), wrap_in (by omega) (by omega), ?_, ?_, trivial⟩
  · simp [IntKind.wrap, IntKind.signed, IntKind.bits]; omega
  · simp [IntKind.wrap, IntKind.signed, IntKind.bits]; omega
theorem nums_of2 (z : Int) (h : -9 ≤ z ∧ z ≤ 19) : decide (z < 20) = true ∧ IntKind.i64.wrap (z * z) = z * z ∧ IntKind.i64.wrap (z + 9) = z + 9 ∧ IntKind.u8.wrap (z + 9) = z + 9 ∧ IntKind.i64.wrap (z + 1) = z + 1 ∧ (0 ≤ z * z ∧ z * z ≤ 400) := by
  have hs := sq_bound z h
  refine ⟨decide_eq_true (by omega), wrap_in (by omega) (by omega), wrap_in (by omega) (by omega), ?_, wrap_in (by omega) (by omega), hs⟩
  simp [IntKind.wrap, IntKind.signed, IntKind.bits]; omega
namespace diskKnown
set_option maxRecDepth 100000 in
set_option maxHeartbeats 8000000 in
theorem walk (w : World) :
    Calls Try.prog 8 #[] w fun e w' => e = .returned (.bool true) ∧ Below w.heap.size w w' := by
  go_enter Try.func8, Try.ntmps8
  go_wp2
  go_loopw [1, 2] (fun s i wr => ∃ k : Nat, k ≤ 128 ∧ s = .string (longN k) ∧ i = .int .i64 k ∧ wr = w) (fun _ i _ => 128 - (intOf i).toNat)
  case atStart => exact ⟨0, by omega, rfl, rfl, rfl⟩
  case round =>
    obtain ⟨k, hk, rfl, rfl, hw0⟩ := hrel
    have hw0 := hw0.symm
    subst hw0
    have hz := longN_size k
    by_cases hlt : k < 128
    · have hnx := longN_next k
      go_wp2
      go_roundw
      case rel => exact ⟨k + 1, by omega, by rw [← hnx], by go_num, trivial⟩
      case measure => simp [intOf]; omega
    · obtain rfl : k = 128 := by omega
      obtain ⟨lg, hlg⟩ : ∃ lg, lg = longN 128 := ⟨_, rfl⟩
      rw [← hlg] at hz ⊢
      clear hlg
      go_wp2_with fail
      obtain ⟨W, hW⟩ : ∃ W, W = ((w.alloc (.cells #[.int .i64 6] 3)).alloc (.cells #[.int .i64 0, .int .i64 (-1)] 3)).alloc (.cells (deRow (exDe w.heap.size lg)).toArray TDe) := ⟨_, rfl⟩
      have hW' : ((w.alloc (.cells #[.int .i64 6] 3)).alloc (.cells #[.int .i64 0, .int .i64 (-1)] 3)).alloc (.cells (deRow (exDe w.heap.size lg)).toArray TDe) = W := hW.symm
      have hs1 : (w.alloc (.cells #[.int .i64 6] 3)).heap.size = w.heap.size + 1 := by simp
      have hs2 : ((w.alloc (.cells #[.int .i64 6] 3)).alloc (.cells #[.int .i64 0, .int .i64 (-1)] 3)).heap.size = w.heap.size + 2 := by simp
      have hbW : Below w.heap.size w W := by rw [hW]; exact (((Below.refl _ _).alloc (Nat.le_refl _) _).alloc (by simp) _).alloc (by simp; omega) _
      have hrow : Row W (w.heap.size + 2) TDe (deRow (exDe w.heap.size lg)) := by rw [hW, ← hs2]; exact Row.made _ TDe _
      have h6 : IntsAt W (some ⟨w.heap.size, 0, none⟩) [6] := by
        rw [hW]
        exact ((ints_lit w 6 (by omega)).touch ((Touch.refl (fun _ => False) _).alloc _) (by simp)).touch ((Touch.refl (fun _ => False) _).alloc _) (by simp)
      have h2 : IntsAt W (some ⟨w.heap.size + 1, 0, none⟩) [0, -1] := by
        rw [hW, ← hs1]
        exact (ints_pair _ 0 (-1) (by omega) (by omega)).touch ((Touch.refl (fun _ => False) _).alloc _) (by simp)
      have hDe : Deeds W (some ⟨w.heap.size + 2, 0, none⟩) (exDe w.heap.size lg) := Deeds.of_row hrow (exDe_ok hz h6 h2)
      have hlen := exDe_len w.heap.size lg
      obtain ⟨dl, hdl⟩ : ∃ dl, dl = exDe w.heap.size lg := ⟨_, rfl⟩
      obtain ⟨bd, hbd⟩ : ∃ bd, bd = w.heap.size + 2 := ⟨_, rfl⟩
      rw [← hdl] at hDe hlen
      rw [← hbd] at hDe
      have HW := Lib.hid (show ((w.alloc (.cells #[.int .i64 6] 3)).alloc (.cells #[.int .i64 0, .int .i64 (-1)] 3)).alloc (.cells #[.int .u8 0, .string ⟨#[97]⟩, .string ⟨#[49, 50]⟩, .int .i64 0, .slice none 0 0, .int .u8 6, .string ⟨#[]⟩, .string ⟨#[]⟩, .int .i64 0, .slice none 0 0, .int .u8 0, .string ⟨#[97]⟩, .string ⟨#[51]⟩, .int .i64 0, .slice none 0 0, .int .u8 5, .string ⟨#[97]⟩, .string ⟨#[]⟩, .int .i64 0, .slice none 0 0, .int .u8 8, .string ⟨#[]⟩, .string ⟨#[]⟩, .int .i64 0, .slice (some ⟨w.heap.size, 0, none⟩) 1 1, .int .u8 5, .string ⟨#[97]⟩, .string ⟨#[]⟩, .int .i64 0, .slice none 0 0, .int .u8 0, .string lg, .string ⟨#[120]⟩, .int .i64 0, .slice none 0 0, .int .u8 0, .string (lg ++ ⟨#[110]⟩), .string ⟨#[120]⟩, .int .i64 0, .slice none 0 0, .int .u8 0, .string ⟨#[]⟩, .string ⟨#[120]⟩, .int .i64 0, .slice none 0 0, .int .u8 3, .string ⟨#[97]⟩, .string lg, .int .i64 0, .slice none 0 0, .int .u8 3, .string ⟨#[97]⟩, .string ⟨#[98]⟩, .int .i64 0, .slice none 0 0, .int .u8 3, .string lg, .string ⟨#[99]⟩, .int .i64 0, .slice none 0 0, .int .u8 1, .string ⟨#[99]⟩, .string ⟨#[]⟩, .int .i64 0, .slice none 0 0, .int .u8 2, .string ⟨#[99]⟩, .string ⟨#[]⟩, .int .i64 (-1), .slice none 0 0, .int .u8 2, .string ⟨#[99]⟩, .string ⟨#[]⟩, .int .i64 9, .slice none 0 0, .int .u8 2, .string ⟨#[99]⟩, .string ⟨#[]⟩, .int .i64 1, .slice none 0 0, .int .u8 4, .string ⟨#[120]⟩, .string ⟨#[]⟩, .int .i64 0, .slice none 0 0, .int .u8 6, .string ⟨#[]⟩, .string ⟨#[]⟩, .int .i64 1, .slice none 0 0, .int .u8 0, .string ⟨#[100]⟩, .string ⟨#[]⟩, .int .i64 0, .slice none 0 0, .int .u8 4, .string ⟨#[99]⟩, .string ⟨#[]⟩, .int .i64 0, .slice none 0 0, .int .u8 9, .string ⟨#[99]⟩, .string ⟨#[]⟩, .int .i64 0, .slice none 0 0, .int .u8 8, .string ⟨#[]⟩, .string ⟨#[]⟩, .int .i64 0, .slice (some ⟨w.heap.size + 1, 0, none⟩) 2 2, .int .u8 7, .string ⟨#[]⟩, .string ⟨#[]⟩, .int .i64 0, .slice none 0 0, .int .u8 8, .string ⟨#[]⟩, .string ⟨#[]⟩, .int .i64 0, .slice none 0 0, .int .u8 6, .string ⟨#[]⟩, .string ⟨#[]⟩, .int .i64 (-5), .slice none 0 0, .int .u8 3, .string ⟨#[99]⟩, .string ⟨#[99]⟩, .int .i64 0, .slice none 0 0, .int .u8 3, .string ⟨#[99]⟩, .string ⟨#[]⟩, .int .i64 0, .slice none 0 0, .int .u8 5, .string ⟨#[99]⟩, .string ⟨#[]⟩, .int .i64 0, .slice none 0 0] TDe) = W from hW')
      rw [HW.out]
      rw [show w.heap.size + 1 + 1 = bd from hbd.symm]
      have HDe := Lib.hid hDe; have HBW := Lib.hid hbW; have HLen := Lib.hid hlen
      clear hW hW' hs1 hs2 hbW hrow h6 h2 hDe hdl hlen hbd HW
      go_loopw [4] (fun i wr => ∃ k : Nat, k ≤ 29 ∧ i = .int .i64 k ∧ Below W.heap.size W wr) (fun i _ => 29 - (intOf i).toNat)
      case atStart => exact ⟨0, by omega, rfl, Below.refl _ _⟩
      case round =>
        obtain ⟨k, hk29, rfl, hbq⟩ := hrel
        by_cases hlt : k < 29
        · obtain ⟨c1, c2, c3, c4, hd1⟩ := nums_of hlt
          have hDq := HDe.out.below hbq
          obtain ⟨hsl, hDl⟩ := deeds_low hDq (k := k) (by rw [HLen.out]; omega)
          obtain ⟨A2, hsh, hDh⟩ := deeds_high hDq (k := k) (by rw [HLen.out]; omega)
          rw [HLen.out] at hsl hsh
          have hl1 : (dl.take k).length = k := by rw [List.length_take, HLen.out]; omega
          have hl2 : (dl.drop k).length = 28 - k := by rw [List.length_drop, HLen.out]
          have hw1 := diskDeeds.walk_any ((k : Int) - 2) (some ⟨bd, 0, none⟩) (dl.take k) 28 wr (by omega) hDl (by omega) (by decide)
          rw [hl1] at hw1
          have HW1 := Lib.hid hw1; have HDq := Lib.hid hDq; have HDh := Lib.hid hDh; have HL2 := Lib.hid hl2; have HBq := Lib.hid hbq
          clear hw1 hDq hDl hDh hl1 hl2 hbq
          go_wp2_with fail
          refine (HW1.out).mono ?_; rintro e w1 ⟨rfl, hb1⟩
          have hw2 := diskDeeds.walk_any 1000 A2 (dl.drop k) (28 - k) w1 (by omega) (HDh.out.below hb1) (by rw [HL2.out]; omega) (by omega)
          rw [HL2.out] at hw2
          have HW2 := Lib.hid hw2; have HB1 := Lib.hid hb1; clear hw2 hb1
          go_wp2_with fail
          refine (HW2.out).mono ?_; rintro e w2 ⟨rfl, hb2⟩
          have hb12 := HB1.out.trans (hb2.mono HB1.out.size)
          have hw3 := diskRoom.walk_any k (some ⟨bd, 0, none⟩) dl 28 w2 (by omega) (HDq.out.below hb12) (by rw [HLen.out]; omega) (by decide)
          rw [HLen.out] at hw3
          have HW3 := Lib.hid hw3; have HB12 := Lib.hid hb12; clear hw3 hb2 hb12
          go_wp2_with fail
          refine (HW3.out).mono ?_; rintro e w3 ⟨rfl, hb3⟩
          have hb13 := HB12.out.trans (hb3.mono HB12.out.size)
          have hb14 : Below wr.heap.size wr (w3.alloc (.cells #[.int .i64 (k : Nat)] 3)) := hb13.alloc hb13.size _
          have hw4 := diskOthers.walk_any ⟨#[107]⟩ A2 (dl.drop k) (28 - k) (some ⟨w3.heap.size, 0, none⟩) [((k : Nat) : Int)] 1 (w3.alloc (.cells #[.int .i64 (k : Nat)] 3)) (by decide) (HDh.out.below hb14) (by rw [HL2.out]; omega) (by omega) (ints_lit w3 (k : Nat) (by omega)) (by simp) (by decide)
          rw [HL2.out] at hw4
          have HW4 := Lib.hid hw4; have HB14 := Lib.hid hb14; clear hw4 hb3 hb13 hb14
          go_wp2_with fail
          refine (HW4.out).mono ?_; rintro e w4 ⟨rfl, hb4⟩
          have HB4 := Lib.hid (HB14.out.trans (hb4.mono HB14.out.size)); clear hb4
          go_wp2_with fail
          go_roundw
          case rel => exact ⟨k + 1, by omega, by go_num, HBq.out.trans (HB4.out.mono HBq.out.size)⟩
          case measure => simp [intOf]; omega
        · have HBq := Lib.hid hbq; clear hbq
          have hd9 : decide ((k : Int) ≤ 28) = false := decide_eq_false (by omega)
          go_wp2_with fail
          have hw9 := HBq.out
          obtain ⟨W5, hW5⟩ : ∃ W5, W5 = wr := ⟨_, rfl⟩
          rw [← hW5] at hw9 ⊢
          have HW5 := Lib.hid hw9
          clear hW5 hw9 HBq
          go_loopw [5] (fun i wr => ∃ z : Int, (-9 ≤ z ∧ z ≤ 20) ∧ i = .int .i64 z ∧ Below W5.heap.size W5 wr) (fun i _ => (20 - intOf i).toNat)
          case atStart => exact ⟨-9, by omega, rfl, Below.refl _ _⟩
          case round =>
            obtain ⟨z, hzr, rfl, hbq⟩ := hrel
            by_cases hlt : z < 20
            · obtain ⟨c1, c2, c3, c4, c5, hsq⟩ := nums_of2 z (by omega)
              have hb0 : Below wr.heap.size wr (wr.alloc (.cells #[.string ⟨#[97, 98]⟩, .string ⟨#[]⟩, .string ⟨#[99, 100, 101]⟩, .string ⟨#[102]⟩] 9)) := (Below.refl _ _).alloc (Nat.le_refl _) _
              have hw1 := diskBegins.walk_any ⟨#[115, 117, 114, 101]⟩ (some ⟨wr.heap.size, 0, none⟩) [⟨#[97, 98]⟩, ⟨#[]⟩, ⟨#[99, 100, 101]⟩, ⟨#[102]⟩] 4 z (z * z) _ (by decide) (by decide) (strs_four wr) (by omega) (by omega)
              have HW1 := Lib.hid hw1; have HB0 := Lib.hid hb0; have HBq := Lib.hid hbq
              clear hw1 hb0 hbq
              go_wp2_with fail
              refine (HW1.out).mono ?_; rintro e w1 ⟨rfl, hb1⟩
              have hw2 := diskBegins.walk_any ⟨#[]⟩ none [] 0 z 3 w1 (by decide) (by decide) ⟨by simp, by simp⟩ (by omega) (by omega)
              have HW2 := Lib.hid hw2; have HB1 := Lib.hid (HB0.out.trans (hb1.mono HB0.out.size)); clear hw2 hb1
              go_wp2_with fail
              refine (HW2.out).mono ?_; rintro e w2 ⟨rfl, hb2⟩
              have hb12 := HB1.out.trans (hb2.mono HB1.out.size)
              obtain ⟨q, hq⟩ : ∃ q : Nat, z + 9 = (q : Int) := ⟨(z + 9).toNat, by omega⟩
              have hb13 : Below wr.heap.size wr (w2.alloc (.cells #[.int .i64 z, .int .i64 2] 3)) := hb12.alloc hb12.size _
              have hw3 := diskNamed.walk_any ⟨#[111, 110, 101]⟩ ⟨#[116, 119, 111, 50]⟩ q (some ⟨w2.heap.size, 0, none⟩) [z, 2] 2 _ (by decide) (by decide) (by omega) (ints_pair w2 z 2 (by omega) (by omega)) (by simp) (by decide)
              rw [← hq] at hw3
              have HW3 := Lib.hid hw3; have HB13 := Lib.hid hb13; clear hw3 hb2 hb12 hb13 hq
              go_wp2_with fail
              refine (HW3.out).mono ?_; rintro e w3 ⟨rfl, hb3⟩
              have HB4 := Lib.hid (HB13.out.trans (hb3.mono HB13.out.size)); clear hb3
              go_wp2_with fail
              go_roundw
              case rel => exact ⟨z + 1, by omega, by go_num, HBq.out.trans (HB4.out.mono HBq.out.size)⟩
              case measure => simp [intOf]; omega
            · have HBq := Lib.hid (HW5.out.trans (hbq.mono HW5.out.size)); clear hbq
              obtain rfl : z = 20 := by omega
              go_wp2_with fail
              have hn0 := own_new (w0 := wr) (w := wr) 1099511627776 (Below.refl _ _) (by omega)
              have HB0 := Lib.hid (HBW.out.trans (HBq.out.mono HBW.out.size))
              refine hn0.mono ?_; rintro e w1 ⟨rfl, ho, -⟩
              obtain ⟨p, hp0⟩ : ∃ p, p = wr.heap.size := ⟨_, rfl⟩
              rw [← hp0] at ho ⊢
              clear hp0 hn0
              obtain ⟨N, hN⟩ : ∃ N : Nat, N = 8388608 := ⟨_, rfl⟩
              obtain ⟨i0, hi, hz0, hz1, hz2⟩ := info_parts infoU8
              have HO1 := Lib.hid ho; have HN := Lib.hid hN; clear ho hN
              go_wp2_with (refine wpList_make_full _ rfl (.const (.int .i64 8388608)) (.const (.int .i64 8388608)) 36 rfl w1.heap.size 5 i0 _ 1 Try.underlying36 hi hz0 hz1 .i64 .i64 8388608 8388608 N rfl rfl (by rw [HN.out]; rfl) (by rw [HN.out]; rfl) (by rw [hz2, HN.out]; decide) (by rw [HN.out]; decide) (Nat.le_refl _) ?_)
              intro w2 hown hgr
              have hr2 := Row.of_full hown
              rw [toList_madeCells_one] at hr2
              have hB2 : Bytes w2 (some ⟨w1.heap.size, 0, none⟩) (List.replicate N 0) := Bytes.of_row (by simpa using hr2) (by simp)
              have hown2 : w2.ownsRow 0 5 1 (.slice (some ⟨w1.heap.size, 0, none⟩) N N) N (u8s (List.replicate N 0)) := ownsRow_base_a (by rw [toList_madeCells_one] at hown; simpa using hown) (Nat.zero_le _)
              have hb2 : Below w1.heap.size w1 w2 := ⟨hgr.os, hgr.tape, hgr.output, hgr.size, fun i hi => hgr.block i hi (by simp)⟩
              obtain ⟨gb, hgb⟩ : ∃ gb, gb = w1.heap.size := ⟨_, rfl⟩
              have ho2 := HO1.out.made hb2
              have HGw := Lib.hid (show wr.heap.size ≤ gb by rw [hgb]; exact HO1.out.below.size)
              have hgF : ∀ i, i = p → i ≠ gb := by rintro i rfl; rw [hgb]; intro e; have := (HO1.out.mine i rfl).2; omega
              rw [← hgb] at hB2 hown2 ⊢
              obtain ⟨bs, hbs⟩ : ∃ bs, bs = List.replicate N 0 := ⟨_, rfl⟩
              have hbl : bs.length = N := by rw [hbs, List.length_replicate]
              have hb8 : bs.length = 8388608 := by rw [hbl, HN.out]
              rw [← hbs] at hB2 hown2
              clear hr2 hown hgr hgb hbs hb2
              have hap := own_append ho2 sgN ⟨gb, 0, none⟩ bs N hB2 (fun _ hF => hgF _ hF rfl) (by decide) (by omega) (by decide)
              rw [(big_first bs hb8).1, (big_first bs hb8).2, hbl] at hap
              have HAp := Lib.hid hap; have HB2 := Lib.hid hB2; have HOw2 := Lib.hid hown2; have HBl := Lib.hid hbl; have HB8 := Lib.hid hb8; have HgF := Lib.hid hgF; have HO2 := Lib.hid ho2
              clear hap hB2 hown2 hbl hb8 hgF ho2
              go_wp2_with fail
              refine (HAp.out).mono ?_; rintro e w3 ⟨rfl, ho3, ht3⟩
              have hown3 : w3.ownsRow 0 5 1 (.slice (some ⟨gb, 0, none⟩) N N) N (u8s bs) := ownsRow_touch HOw2.out ht3 (by intro i hi hF; simp [Value.ownBlock] at hi; exact HgF.out _ hF hi.symm)
              have hgw2 : gb < w2.heap.size := (HOw2.out.lt gb rfl).2
              have hgF3 : ∀ i, Ext (fun x => x = p) w2 w3 i → i ≠ gb := by
                rintro i (hi | hi)
                · exact HgF.out i hi
                · omega
              generalize Ext _ _ _ = F3 at ho3 hgF3
              have HgF3 := Lib.hid hgF3; have HG2 := Lib.hid (show gb < w3.heap.size from Nat.lt_of_lt_of_le hgw2 ht3.size)
              have hl1 := bytes_lit w3 [1] (by decide)
              have hap := own_append (ho3.alloc (.cells #[.int .u8 1] 5)) sgN ⟨w3.heap.size, 0, none⟩ [1] 1 hl1 (fun _ hF => by have := (ho3.mine _ hF).2; simp at this) (by decide) (by decide) (by simp [bigD])
              rw [(big_more bs [1] HB8.out (by decide)).1, (big_more bs [1] HB8.out (by decide)).2] at hap
              have HAp3 := Lib.hid hap; have HOw3 := Lib.hid hown3; have HO3 := Lib.hid ho3
              clear hap hown3 hl1 ho3 ht3 hgF3 hgw2
              go_wp2_with fail
              refine (HAp3.out).mono ?_; rintro e w4 ⟨rfl, ho4, ht4⟩
              have hown4 : w4.ownsRow 0 5 1 (.slice (some ⟨gb, 0, none⟩) N N) N (u8s bs) := ownsRow_touch (ownsRow_touch HOw3.out ((Touch.refl (fun _ => False) _).alloc _) (by simp)) ht4 (by intro i hi hF; simp [Value.ownBlock] at hi; exact HgF3.out _ hF hi.symm)
              have hgF4 : ∀ i, Ext F3 (w3.alloc (.cells #[.int .u8 1] 5)) w4 i → i ≠ gb := by
                rintro i (hi | hi)
                · exact HgF3.out i hi
                · have h1 := HG2.out; have h2 := hi.1; simp at h2; omega
              generalize Ext _ _ _ = F4 at ho4 hgF4
              have hr5 : Row (w4.alloc (.cells #[.int .u8 1] 5)) w4.heap.size 5 [.int .u8 1] := Row.made w4 5 [.int .u8 1]
              obtain ⟨v6, w6, hrun6, hown6, hgr6, hblk⟩ := run_append_mine (P := Try.prog) (w4.alloc (.cells #[.int .u8 1] 5)) TB TB 5 i0 (.int .u8 0) (by kernel_rfl) hi hz0 hz1 hz2 rfl (.slice (some ⟨gb, 0, none⟩) N N) N (u8s bs) (ownsRow_touch hown4 ((Touch.refl (fun _ => False) _).alloc _) (by simp)) ⟨w4.heap.size, 0, none⟩ 1 1 [.int .u8 1] rfl (fun j u hj => by
                rw [add_zero_off, hr5.cell]; exact hj) (by intro y hy; simp at hy; rw [hy]; rfl) (by rw [HN.out]; decide)
              have hu8 : u8s bs ++ [.int .u8 1] = u8s (bs ++ [1]) := by simp [u8s]
              rw [hu8] at hown6
              obtain ⟨A6, c6, hv6, hB6, hl6⟩ := Bytes.of_own hown6 (by
                intro x hx
                rcases List.mem_append.1 hx with hx | hx
                · exact HB2.out.1 x hx
                · simp at hx; omega)
              obtain ⟨ad6, hA6, -, -⟩ := hB6.2 (by rw [← hl6]; omega)
              subst hA6
              rw [← hl6] at hv6
              subst hv6
              have ht6 : Touch (· = gb) (w4.alloc (.cells #[.int .u8 1] 5)) w6 := Touch.of_grown hgr6 (fun k hk => by simp [Value.ownBlock] at hk; exact hk.symm)
              have ho6 : OwnF wr w6 p (bigD bs) F4 := (ho4.alloc (.cells #[.int .u8 1] 5)).stay ht6 (fun k hk e => hgF4 k hk e) (by rintro k rfl; exact HGw.out)
              have hA6F : ¬ F4 ad6.block := fun hF => by
                rcases hblk ad6.block rfl with h | h
                · simp [Value.ownBlock] at h; exact hgF4 _ hF h.symm
                · have := (ho4.mine _ hF).2; simp at h; omega
              have hap := own_append ho6 shN ad6 (bs ++ [1]) c6 hB6 (fun _ => hA6F) (by decide) (by rw [← hl6, HN.out]; decide) (by simp [bigD])
              rw [(big_other bs (bs ++ [1]) (by rw [← hl6, HN.out]; decide)).1, (big_other bs (bs ++ [1]) (by rw [← hl6, HN.out]; decide)).2, ← hl6] at hap
              have HAp6 := Lib.hid hap; have HR6 := Lib.hid hrun6
              clear hap hown4 hgF4 hr5 hown6 hgr6 hblk hu8 hB6 ht6 ho6 hA6F ho4 ht4 hl6 hrun6
              go_wp2_with (refine wpList_append_yes _ _ TB rfl rfl _ _ _ rfl rfl HR6.out ?_)
              go_wp2_with fail
              refine (HAp6.out).mono ?_; rintro e w7 ⟨rfl, ho7, -⟩
              generalize Ext _ _ _ = F7 at ho7
              have hus := own_used ho7
              rw [big_used bs HB8.out] at hus
              have HUs := Lib.hid hus; have HB7 := Lib.hid (HB0.out.trans (ho7.below.mono HB0.out.size)); clear hus ho7
              go_wp2_with fail
              refine (HUs.out).mono ?_; rintro e w8 ⟨rfl, rfl⟩
              go_wp2_with fail
              refine (nil_fail 1 w7).mono ?_; rintro e w8 ⟨rfl, rfl⟩
              go_wp2_with fail
              refine (nil_crash w7).mono ?_; rintro e w8 ⟨rfl, rfl⟩
              go_wp2_with fail
              refine (nil_on none 0 0 w7).mono ?_; rintro e w8 ⟨rfl, rfl⟩
              go_wp2_with fail
              refine (nil_read ⟨#[97]⟩ w7).mono ?_; rintro e w9 ⟨rfl, hb9⟩
              have HB9 := Lib.hid (HB7.out.trans (hb9.mono HB7.out.size)); clear hb9
              go_wp2_with fail
              refine (nil_append ⟨#[97]⟩ none 0 0 w9).mono ?_; rintro e w10 ⟨rfl, hb10⟩
              have HB10 := Lib.hid (HB9.out.trans (hb10.mono HB9.out.size)); clear hb10
              go_wp2_with fail
              refine (nil_cut ⟨#[97]⟩ 0 w10).mono ?_; rintro e w11 ⟨rfl, hb11⟩
              have HB11 := Lib.hid (HB10.out.trans (hb11.mono HB10.out.size)); clear hb11
              go_wp2_with fail
              refine (nil_rename ⟨#[97]⟩ ⟨#[98]⟩ w11).mono ?_; rintro e w12 ⟨rfl, hb12⟩
              have HB12 := Lib.hid (HB11.out.trans (hb12.mono HB11.out.size)); clear hb12
              go_wp2_with fail
              refine (nil_remove ⟨#[97]⟩ w12).mono ?_; rintro e w13 ⟨rfl, hb13⟩
              have HB13 := Lib.hid (HB12.out.trans (hb13.mono HB12.out.size)); clear hb13
              go_wp2_with fail
              refine (nil_sync ⟨#[97]⟩ w13).mono ?_; rintro e w14 ⟨rfl, hb14⟩
              have HB14 := Lib.hid (HB13.out.trans (hb14.mono HB13.out.size)); clear hb14
              go_wp2_with fail
              refine (nil_names w14).mono ?_; rintro e wx ⟨rfl, rfl⟩
              go_wp2_with fail
              refine (nil_used w14).mono ?_; rintro e wx ⟨rfl, rfl⟩
              go_wp2_with fail
              refine (nil_steps w14).mono ?_; rintro e wx ⟨rfl, rfl⟩
              go_wp2_with fail
              refine (nil_off w14).mono ?_; rintro e wx ⟨rfl, rfl⟩
              go_wp2_with fail
              refine (nil_copy w14).mono ?_; rintro e wx ⟨rfl, rfl⟩
              go_wp2_with fail
              refine (works_any w14).mono ?_; rintro e w15 ⟨rfl, hb15⟩
              have HB15 := Lib.hid (HB14.out.trans (hb15.mono HB14.out.size)); clear hb15
              go_wp2_with fail
              go_ret
              exact ⟨rfl, HB15.out⟩

set_option maxRecDepth 100000 in
theorem lifted (os : Os) (started : os.Started) (H : Type) (enc : TypeId × Value → H) :
    ReturnsInHanded {} Try.checked os 8 .any (Rows.diskKnownSpec.pre6 enc Try.prog Try.f8 Rows.diskKnownRow.domain false) (Rows.diskKnownSpec.post enc Try.prog Try.f8 false true false false) := by
  refine returnsInHanded_of_change_sized (C := Try.checked) ownKnob_none started (by kernel_rfl) Try.func8
    (ChangeSpec.witness6 (enc := enc) (C := Try.checked) false ⟨#[], #[], []⟩ 8 (by kernel_rfl) (by kernel_rfl) (by kernel_rfl) (by kernel_rfl)) ?_
  intro W base args ds gs before hval0 hW hcnd hsz0 _
  have hval : ∀ (j : Nat) t v, Try.f8.params[j]? = some t → args[j]? = some v → Value.okWide Try.prog W .any base t v := hval0
  have hW' := hW
  obtain ⟨p, q, hA0, hV, rfl, hfz, hnd⟩ := hW
  have hA : DataW.TrodAll enc Try.prog W 0 (fun _ => true) true Try.f8.params.toList args.toList ds p := hA0
  have hsz : (DataW.weightsEach Try.prog (Try.f8.params.toList ++ Rows.diskKnownSpec.plain.varTypes Try.prog) (ds ++ gs)).all (· ≤ reachBytes) = true := hsz0
  rw [Try.params8] at hA hval hsz
  obtain ⟨hargs, rfl, rfl⟩ := trodAll_nil hA
  obtain rfl : args = #[] := by cases args; simp_all
  obtain ⟨rfl, rfl⟩ := trodVars_none hV
  clear hA0 hval0 hsz0
  refine (walk W).mono fun e W' ⟨he, hg⟩ => ?_
  subst he
  exact ⟨_, rfl, law_post progLaid hW' rfl (by rw [Try.params8]; intro t ht; simp at ht) rfl Try.underlying4 rfl hg⟩

theorem over : Rows.diskKnownRow.holds Try.pinned (OpenSpec.ofChange Rows.diskKnownSpec) :=
  OpenClaim.holds_of_wide 8 Try.f8 rfl rfl rfl rfl rfl rfl rfl ⟨rfl, rfl, rfl, rfl, rfl⟩ rfl rfl rfl rfl rfl (by kernel_rfl) Try.func8 (by kernel_rfl)
    (of_decide_eq_true (by kernel_rfl)) (by unfold Func.isWrapper; first | (rw [if_pos (by decide +kernel)]; kernel_rfl) | (rw [if_neg (by decide +kernel)]; exact ⟨rfl, rfl⟩))
    (fun os started H enc _ => lifted os started H enc)

/-- The statement. -/
theorem proved : Rows.DiskKnownSaid :=
  over
end diskKnown
end Go.Proofs.Ytiagoaaldpajmaa
