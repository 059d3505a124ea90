/- The document's Put. -/
import Derived.Test.YtcdofkhkckodjaaVrPut
namespace Go.Proofs.Ytcdofkhkckodjaa
namespace Vr
open Go.ChangeShapes Go.WideShapes Go.ChangeAt Go.RowKit Go.BigFrame
set_option linter.unusedVariables false
set_option maxRecDepth 100000
set_option maxHeartbeats 16000000 in
theorem refPut_any (A : Option Addr) (l : List Rd) (c : Nat) (w : World) (hT : Rw.Ts kindR w A l) (hl : l.length ≤ 10000) :
    Calls Try.prog 25 #[.slice A l.length c] w (PutD (putR l) w) := by
  have HT := Lib.hid hT; clear hT
  go_enter Try.func25, Try.ntmps25
  go_wp2_with fail
  go_loopw [3, 4] (fun v i wr => ∃ k : Nat, k ≤ l.length ∧ i = .int .i64 k ∧ wr.ownsRow w.heap.size 5 kindB.K v (putR (l.take k)).length (Rw.row kindB (putR (l.take k))) ∧ Below w.heap.size w wr) (fun _ i _ => l.length - (intOf i).toNat)
  case atStart => exact ⟨0, by omega, rfl, World.ownsRow_nil _ _ _ _, Below.refl _ _⟩
  case round =>
    obtain ⟨wo, rfl⟩ : ∃ wo, wo = wr := ⟨_, rfl⟩
    obtain ⟨k, hk, rfl, hown, hb⟩ := hrel
    have HO := Lib.hid hown; have HB := Lib.hid hb; clear hown hb
    by_cases hlt : k < l.length
    · have hltz : (k : Int) < (l.length : Int) := by omega
      obtain ⟨r, hr⟩ : ∃ r, l[k]? = some r := ⟨_, List.getElem?_eq_getElem hlt⟩
      obtain ⟨b0, o0, rfl, _, hcl⟩ := recs_at HT.out hr
      have hnext := putR_snoc hr
      have hlen : (putR (l.take k)).length ≤ 160000 := by rw [putR_len, List.length_take]; omega
      generalize putR (l.take k) = bs at *
      have HNX := Lib.hid hnext; have HCEL := Lib.hid hcl; have HLN := Lib.hid hlen; clear hnext hr hcl hlen
      go_wp2_with fail
      go_loopw [3, 5] (fun v i wx => ∃ j : Nat, j ≤ 8 ∧ i = .int .i64 (7 - (j : Int)) ∧ wx.ownsRow w.heap.size 5 kindB.K v (bs ++ (be8 (uns r.k)).take j).length (Rw.row kindB (bs ++ (be8 (uns r.k)).take j)) ∧ Below w.heap.size w wx) (fun _ i _ => (intOf i + 1).toNat)
      case atStart => exact ⟨0, by omega, rfl, by simpa using HO.out, HB.out⟩
      case round =>
        obtain ⟨j, hj, rfl, hown, hb⟩ := hrel
        have HO' := Lib.hid hown; have HB' := Lib.hid hb
        have HBS : Hid (w.heap.size ≤ wr.heap.size) := Lib.hid hb.size
        obtain ⟨e0, e1⟩ := HCEL.out wr hb
        have HLB : Hid ((bs ++ (be8 (uns r.k)).take j).length ≤ 1000000) := Lib.hid (by have := HLN.out; have h := List.length_take_le j (be8 (uns r.k)); simp only [List.length_append, be8_len] at h ⊢; omega)
        clear hown hb HO HB
        rcases (show j = 0 ∨ j = 1 ∨ j = 2 ∨ j = 3 ∨ j = 4 ∨ j = 5 ∨ j = 6 ∨ j = 7 ∨ j = 8 by omega) with rfl | rfl | rfl | rfl | rfl | rfl | rfl | rfl | rfl
        · rw [show (7 - ((0 : Nat) : Int)) = 7 from rfl]
          obtain ⟨B, hB, hE⟩ : ∃ B : Nat, B = uns r.k / 72057594037927936 % 256 ∧ IntKind.u64.wrap r.k / 72057594037927936 % 256 = (B : Int) := ⟨_, rfl, by unfold uns; rw [show IntKind.u64.wrap r.k = r.k % 18446744073709551616 by simp [IntKind.wrap, IntKind.signed, IntKind.bits]]; omega⟩
          have HBB := Lib.hid hB; clear hB
          go_wp2_with (at_builtin; refine append_b rfl _ _ rfl w.heap.size _ _ _ rfl (HO'.out.alloc _) _ 1 [B] rfl (Rw.Ts.made _ [B] _) (by have := HLB.out; simp only [List.length_cons, List.length_nil]; omega) (by have := HBS.out; simp; omega) ?_; intro v1 w3 hv1 hg1; have HV1 := Lib.hid hv1; have HB1 := Lib.hid (Rw.own_below (HO'.out.alloc _) hg1 (HB'.out.alloc HBS.out _) (by have := HBS.out; simp; omega)); clear hv1 hg1 e0 e1)
          go_roundw
          case rel => exact ⟨1, by omega, by simp, row_app HV1.out (by rw [HBB.out]; rfl), HB1.out⟩
          case measure => simp [intOf]
        · rw [show (7 - ((1 : Nat) : Int)) = 6 from rfl]
          obtain ⟨B, hB, hE⟩ : ∃ B : Nat, B = uns r.k / 281474976710656 % 256 ∧ IntKind.u64.wrap r.k / 281474976710656 % 256 = (B : Int) := ⟨_, rfl, by unfold uns; rw [show IntKind.u64.wrap r.k = r.k % 18446744073709551616 by simp [IntKind.wrap, IntKind.signed, IntKind.bits]]; omega⟩
          have HBB := Lib.hid hB; clear hB
          go_wp2_with (at_builtin; refine append_b rfl _ _ rfl w.heap.size _ _ _ rfl (HO'.out.alloc _) _ 1 [B] rfl (Rw.Ts.made _ [B] _) (by have := HLB.out; simp only [List.length_cons, List.length_nil]; omega) (by have := HBS.out; simp; omega) ?_; intro v1 w3 hv1 hg1; have HV1 := Lib.hid hv1; have HB1 := Lib.hid (Rw.own_below (HO'.out.alloc _) hg1 (HB'.out.alloc HBS.out _) (by have := HBS.out; simp; omega)); clear hv1 hg1 e0 e1)
          go_roundw
          case rel => exact ⟨2, by omega, by simp, row_app HV1.out (by rw [HBB.out]; rfl), HB1.out⟩
          case measure => simp [intOf]
        · rw [show (7 - ((2 : Nat) : Int)) = 5 from rfl]
          obtain ⟨B, hB, hE⟩ : ∃ B : Nat, B = uns r.k / 1099511627776 % 256 ∧ IntKind.u64.wrap r.k / 1099511627776 % 256 = (B : Int) := ⟨_, rfl, by unfold uns; rw [show IntKind.u64.wrap r.k = r.k % 18446744073709551616 by simp [IntKind.wrap, IntKind.signed, IntKind.bits]]; omega⟩
          have HBB := Lib.hid hB; clear hB
          go_wp2_with (at_builtin; refine append_b rfl _ _ rfl w.heap.size _ _ _ rfl (HO'.out.alloc _) _ 1 [B] rfl (Rw.Ts.made _ [B] _) (by have := HLB.out; simp only [List.length_cons, List.length_nil]; omega) (by have := HBS.out; simp; omega) ?_; intro v1 w3 hv1 hg1; have HV1 := Lib.hid hv1; have HB1 := Lib.hid (Rw.own_below (HO'.out.alloc _) hg1 (HB'.out.alloc HBS.out _) (by have := HBS.out; simp; omega)); clear hv1 hg1 e0 e1)
          go_roundw
          case rel => exact ⟨3, by omega, by simp, row_app HV1.out (by rw [HBB.out]; rfl), HB1.out⟩
          case measure => simp [intOf]
        · rw [show (7 - ((3 : Nat) : Int)) = 4 from rfl]
          obtain ⟨B, hB, hE⟩ : ∃ B : Nat, B = uns r.k / 4294967296 % 256 ∧ IntKind.u64.wrap r.k / 4294967296 % 256 = (B : Int) := ⟨_, rfl, by unfold uns; rw [show IntKind.u64.wrap r.k = r.k % 18446744073709551616 by simp [IntKind.wrap, IntKind.signed, IntKind.bits]]; omega⟩
          have HBB := Lib.hid hB; clear hB
          go_wp2_with (at_builtin; refine append_b rfl _ _ rfl w.heap.size _ _ _ rfl (HO'.out.alloc _) _ 1 [B] rfl (Rw.Ts.made _ [B] _) (by have := HLB.out; simp only [List.length_cons, List.length_nil]; omega) (by have := HBS.out; simp; omega) ?_; intro v1 w3 hv1 hg1; have HV1 := Lib.hid hv1; have HB1 := Lib.hid (Rw.own_below (HO'.out.alloc _) hg1 (HB'.out.alloc HBS.out _) (by have := HBS.out; simp; omega)); clear hv1 hg1 e0 e1)
          go_roundw
          case rel => exact ⟨4, by omega, by simp, row_app HV1.out (by rw [HBB.out]; rfl), HB1.out⟩
          case measure => simp [intOf]
        · rw [show (7 - ((4 : Nat) : Int)) = 3 from rfl]
          obtain ⟨B, hB, hE⟩ : ∃ B : Nat, B = uns r.k / 16777216 % 256 ∧ IntKind.u64.wrap r.k / 16777216 % 256 = (B : Int) := ⟨_, rfl, by unfold uns; rw [show IntKind.u64.wrap r.k = r.k % 18446744073709551616 by simp [IntKind.wrap, IntKind.signed, IntKind.bits]]; omega⟩
          have HBB := Lib.hid hB; clear hB
          go_wp2_with (at_builtin; refine append_b rfl _ _ rfl w.heap.size _ _ _ rfl (HO'.out.alloc _) _ 1 [B] rfl (Rw.Ts.made _ [B] _) (by have := HLB.out; simp only [List.length_cons, List.length_nil]; omega) (by have := HBS.out; simp; omega) ?_; intro v1 w3 hv1 hg1; have HV1 := Lib.hid hv1; have HB1 := Lib.hid (Rw.own_below (HO'.out.alloc _) hg1 (HB'.out.alloc HBS.out _) (by have := HBS.out; simp; omega)); clear hv1 hg1 e0 e1)
          go_roundw
          case rel => exact ⟨5, by omega, by simp, row_app HV1.out (by rw [HBB.out]; rfl), HB1.out⟩
          case measure => simp [intOf]
        · rw [show (7 - ((5 : Nat) : Int)) = 2 from rfl]
          obtain ⟨B, hB, hE⟩ : ∃ B : Nat, B = uns r.k / 65536 % 256 ∧ IntKind.u64.wrap r.k / 65536 % 256 = (B : Int) := ⟨_, rfl, by unfold uns; rw [show IntKind.u64.wrap r.k = r.k % 18446744073709551616 by simp [IntKind.wrap, IntKind.signed, IntKind.bits]]; omega⟩
          have HBB := Lib.hid hB; clear hB
          go_wp2_with (at_builtin; refine append_b rfl _ _ rfl w.heap.size _ _ _ rfl (HO'.out.alloc _) _ 1 [B] rfl (Rw.Ts.made _ [B] _) (by have := HLB.out; simp only [List.length_cons, List.length_nil]; omega) (by have := HBS.out; simp; omega) ?_; intro v1 w3 hv1 hg1; have HV1 := Lib.hid hv1; have HB1 := Lib.hid (Rw.own_below (HO'.out.alloc _) hg1 (HB'.out.alloc HBS.out _) (by have := HBS.out; simp; omega)); clear hv1 hg1 e0 e1)
          go_roundw
          case rel => exact ⟨6, by omega, by simp, row_app HV1.out (by rw [HBB.out]; rfl), HB1.out⟩
          case measure => simp [intOf]
        · rw [show (7 - ((6 : Nat) : Int)) = 1 from rfl]
          obtain ⟨B, hB, hE⟩ : ∃ B : Nat, B = uns r.k / 256 % 256 ∧ IntKind.u64.wrap r.k / 256 % 256 = (B : Int) := ⟨_, rfl, by unfold uns; rw [show IntKind.u64.wrap r.k = r.k % 18446744073709551616 by simp [IntKind.wrap, IntKind.signed, IntKind.bits]]; omega⟩
          have HBB := Lib.hid hB; clear hB
          go_wp2_with (at_builtin; refine append_b rfl _ _ rfl w.heap.size _ _ _ rfl (HO'.out.alloc _) _ 1 [B] rfl (Rw.Ts.made _ [B] _) (by have := HLB.out; simp only [List.length_cons, List.length_nil]; omega) (by have := HBS.out; simp; omega) ?_; intro v1 w3 hv1 hg1; have HV1 := Lib.hid hv1; have HB1 := Lib.hid (Rw.own_below (HO'.out.alloc _) hg1 (HB'.out.alloc HBS.out _) (by have := HBS.out; simp; omega)); clear hv1 hg1 e0 e1)
          go_roundw
          case rel => exact ⟨7, by omega, by simp, row_app HV1.out (by rw [HBB.out]; rfl), HB1.out⟩
          case measure => simp [intOf]
        · rw [show (7 - ((7 : Nat) : Int)) = 0 from rfl]
          obtain ⟨B, hB, hE⟩ : ∃ B : Nat, B = uns r.k % 256 ∧ IntKind.u64.wrap r.k % 256 = (B : Int) := ⟨_, rfl, by unfold uns; rw [show IntKind.u64.wrap r.k = r.k % 18446744073709551616 by simp [IntKind.wrap, IntKind.signed, IntKind.bits]]; omega⟩
          have HBB := Lib.hid hB; clear hB
          go_wp2_with (at_builtin; refine append_b rfl _ _ rfl w.heap.size _ _ _ rfl (HO'.out.alloc _) _ 1 [B] rfl (Rw.Ts.made _ [B] _) (by have := HLB.out; simp only [List.length_cons, List.length_nil]; omega) (by have := HBS.out; simp; omega) ?_; intro v1 w3 hv1 hg1; have HV1 := Lib.hid hv1; have HB1 := Lib.hid (Rw.own_below (HO'.out.alloc _) hg1 (HB'.out.alloc HBS.out _) (by have := HBS.out; simp; omega)); clear hv1 hg1 e0 e1)
          go_roundw
          case rel => exact ⟨8, by omega, by simp, row_app HV1.out (by rw [HBB.out]; rfl), HB1.out⟩
          case measure => simp [intOf]
        · rw [show (7 - ((8 : Nat) : Int)) = -1 from rfl]
          have HO := Lib.hid (show wr.ownsRow w.heap.size 5 kindB.K _ (bs ++ be8 (uns r.k)).length (Rw.row kindB (bs ++ be8 (uns r.k))) from HO'.out)
          have HB := HB'
          clear HB' HO' HLB HBS e0 e1
          go_wp2_with fail
          go_loopw [3, 6] (fun v i wx => ∃ j : Nat, j ≤ 8 ∧ i = .int .i64 (7 - (j : Int)) ∧ wx.ownsRow w.heap.size 5 kindB.K v (bs ++ be8 (uns r.k) ++ (be8 (uns r.v)).take j).length (Rw.row kindB (bs ++ be8 (uns r.k) ++ (be8 (uns r.v)).take j)) ∧ Below w.heap.size w wx) (fun _ i _ => (intOf i + 1).toNat)
          case atStart => exact ⟨0, by omega, rfl, by simpa using HO.out, HB.out⟩
          case round =>
            obtain ⟨j, hj, rfl, hown, hb⟩ := hrel
            have HO' := Lib.hid hown; have HB' := Lib.hid hb
            have HBS : Hid (w.heap.size ≤ wr.heap.size) := Lib.hid hb.size
            obtain ⟨e0, e1⟩ := HCEL.out wr hb
            have HLB : Hid ((bs ++ be8 (uns r.k) ++ (be8 (uns r.v)).take j).length ≤ 1000000) := Lib.hid (by have := HLN.out; have h := List.length_take_le j (be8 (uns r.v)); simp only [List.length_append, be8_len] at h ⊢; omega)
            clear hown hb HO HB
            rcases (show j = 0 ∨ j = 1 ∨ j = 2 ∨ j = 3 ∨ j = 4 ∨ j = 5 ∨ j = 6 ∨ j = 7 ∨ j = 8 by omega) with rfl | rfl | rfl | rfl | rfl | rfl | rfl | rfl | rfl
            · rw [show (7 - ((0 : Nat) : Int)) = 7 from rfl]
              obtain ⟨B, hB, hE⟩ : ∃ B : Nat, B = uns r.v / 72057594037927936 % 256 ∧ IntKind.u64.wrap r.v / 72057594037927936 % 256 = (B : Int) := ⟨_, rfl, by unfold uns; rw [show IntKind.u64.wrap r.v = r.v % 18446744073709551616 by simp [IntKind.wrap, IntKind.signed, IntKind.bits]]; omega⟩
              have HBB := Lib.hid hB; clear hB
              go_wp2_with (at_builtin; refine append_b rfl _ _ rfl w.heap.size _ _ _ rfl (HO'.out.alloc _) _ 1 [B] rfl (Rw.Ts.made _ [B] _) (by have := HLB.out; simp only [List.length_cons, List.length_nil]; omega) (by have := HBS.out; simp; omega) ?_; intro v1 w3 hv1 hg1; have HV1 := Lib.hid hv1; have HB1 := Lib.hid (Rw.own_below (HO'.out.alloc _) hg1 (HB'.out.alloc HBS.out _) (by have := HBS.out; simp; omega)); clear hv1 hg1 e0 e1)
              go_roundw
              case rel => exact ⟨1, by omega, by simp, row_app HV1.out (by rw [HBB.out]; rfl), HB1.out⟩
              case measure => simp [intOf]
            · rw [show (7 - ((1 : Nat) : Int)) = 6 from rfl]
              obtain ⟨B, hB, hE⟩ : ∃ B : Nat, B = uns r.v / 281474976710656 % 256 ∧ IntKind.u64.wrap r.v / 281474976710656 % 256 = (B : Int) := ⟨_, rfl, by unfold uns; rw [show IntKind.u64.wrap r.v = r.v % 18446744073709551616 by simp [IntKind.wrap, IntKind.signed, IntKind.bits]]; omega⟩
              have HBB := Lib.hid hB; clear hB
              go_wp2_with (at_builtin; refine append_b rfl _ _ rfl w.heap.size _ _ _ rfl (HO'.out.alloc _) _ 1 [B] rfl (Rw.Ts.made _ [B] _) (by have := HLB.out; simp only [List.length_cons, List.length_nil]; omega) (by have := HBS.out; simp; omega) ?_; intro v1 w3 hv1 hg1; have HV1 := Lib.hid hv1; have HB1 := Lib.hid (Rw.own_below (HO'.out.alloc _) hg1 (HB'.out.alloc HBS.out _) (by have := HBS.out; simp; omega)); clear hv1 hg1 e0 e1)
              go_roundw
              case rel => exact ⟨2, by omega, by simp, row_app HV1.out (by rw [HBB.out]; rfl), HB1.out⟩
              case measure => simp [intOf]
            · rw [show (7 - ((2 : Nat) : Int)) = 5 from rfl]
              obtain ⟨B, hB, hE⟩ : ∃ B : Nat, B = uns r.v / 1099511627776 % 256 ∧ IntKind.u64.wrap r.v / 1099511627776 % 256 = (B : Int) := ⟨_, rfl, by unfold uns; rw [show IntKind.u64.wrap r.v = r.v % 18446744073709551616 by simp [IntKind.wrap, IntKind.signed, IntKind.bits]]; omega⟩
              have HBB := Lib.hid hB; clear hB
              go_wp2_with (at_builtin; refine append_b rfl _ _ rfl w.heap.size _ _ _ rfl (HO'.out.alloc _) _ 1 [B] rfl (Rw.Ts.made _ [B] _) (by have := HLB.out; simp only [List.length_cons, List.length_nil]; omega) (by have := HBS.out; simp; omega) ?_; intro v1 w3 hv1 hg1; have HV1 := Lib.hid hv1; have HB1 := Lib.hid (Rw.own_below (HO'.out.alloc _) hg1 (HB'.out.alloc HBS.out _) (by have := HBS.out; simp; omega)); clear hv1 hg1 e0 e1)
              go_roundw
              case rel => exact ⟨3, by omega, by simp, row_app HV1.out (by rw [HBB.out]; rfl), HB1.out⟩
              case measure => simp [intOf]
            · rw [show (7 - ((3 : Nat) : Int)) = 4 from rfl]
              obtain ⟨B, hB, hE⟩ : ∃ B : Nat, B = uns r.v / 4294967296 % 256 ∧ IntKind.u64.wrap r.v / 4294967296 % 256 = (B : Int) := ⟨_, rfl, by unfold uns; rw [show IntKind.u64.wrap r.v = r.v % 18446744073709551616 by simp [IntKind.wrap, IntKind.signed, IntKind.bits]]; omega⟩
              have HBB := Lib.hid hB; clear hB
              go_wp2_with (at_builtin; refine append_b rfl _ _ rfl w.heap.size _ _ _ rfl (HO'.out.alloc _) _ 1 [B] rfl (Rw.Ts.made _ [B] _) (by have := HLB.out; simp only [List.length_cons, List.length_nil]; omega) (by have := HBS.out; simp; omega) ?_; intro v1 w3 hv1 hg1; have HV1 := Lib.hid hv1; have HB1 := Lib.hid (Rw.own_below (HO'.out.alloc _) hg1 (HB'.out.alloc HBS.out _) (by have := HBS.out; simp; omega)); clear hv1 hg1 e0 e1)
              go_roundw
              case rel => exact ⟨4, by omega, by simp, row_app HV1.out (by rw [HBB.out]; rfl), HB1.out⟩
              case measure => simp [intOf]
            · rw [show (7 - ((4 : Nat) : Int)) = 3 from rfl]
              obtain ⟨B, hB, hE⟩ : ∃ B : Nat, B = uns r.v / 16777216 % 256 ∧ IntKind.u64.wrap r.v / 16777216 % 256 = (B : Int) := ⟨_, rfl, by unfold uns; rw [show IntKind.u64.wrap r.v = r.v % 18446744073709551616 by simp [IntKind.wrap, IntKind.signed, IntKind.bits]]; omega⟩
              have HBB := Lib.hid hB; clear hB
              go_wp2_with (at_builtin; refine append_b rfl _ _ rfl w.heap.size _ _ _ rfl (HO'.out.alloc _) _ 1 [B] rfl (Rw.Ts.made _ [B] _) (by have := HLB.out; simp only [List.length_cons, List.length_nil]; omega) (by have := HBS.out; simp; omega) ?_; intro v1 w3 hv1 hg1; have HV1 := Lib.hid hv1; have HB1 := Lib.hid (Rw.own_below (HO'.out.alloc _) hg1 (HB'.out.alloc HBS.out _) (by have := HBS.out; simp; omega)); clear hv1 hg1 e0 e1)
              go_roundw
              case rel => exact ⟨5, by omega, by simp, row_app HV1.out (by rw [HBB.out]; rfl), HB1.out⟩
              case measure => simp [intOf]
            · rw [show (7 - ((5 : Nat) : Int)) = 2 from rfl]
              obtain ⟨B, hB, hE⟩ : ∃ B : Nat, B = uns r.v / 65536 % 256 ∧ IntKind.u64.wrap r.v / 65536 % 256 = (B : Int) := ⟨_, rfl, by unfold uns; rw [show IntKind.u64.wrap r.v = r.v % 18446744073709551616 by simp [IntKind.wrap, IntKind.signed, IntKind.bits]]; omega⟩
              have HBB := Lib.hid hB; clear hB
              go_wp2_with (at_builtin; refine append_b rfl _ _ rfl w.heap.size _ _ _ rfl (HO'.out.alloc _) _ 1 [B] rfl (Rw.Ts.made _ [B] _) (by have := HLB.out; simp only [List.length_cons, List.length_nil]; omega) (by have := HBS.out; simp; omega) ?_; intro v1 w3 hv1 hg1; have HV1 := Lib.hid hv1; have HB1 := Lib.hid (Rw.own_below (HO'.out.alloc _) hg1 (HB'.out.alloc HBS.out _) (by have := HBS.out; simp; omega)); clear hv1 hg1 e0 e1)
              go_roundw
              case rel => exact ⟨6, by omega, by simp, row_app HV1.out (by rw [HBB.out]; rfl), HB1.out⟩
              case measure => simp [intOf]
            · rw [show (7 - ((6 : Nat) : Int)) = 1 from rfl]
              obtain ⟨B, hB, hE⟩ : ∃ B : Nat, B = uns r.v / 256 % 256 ∧ IntKind.u64.wrap r.v / 256 % 256 = (B : Int) := ⟨_, rfl, by unfold uns; rw [show IntKind.u64.wrap r.v = r.v % 18446744073709551616 by simp [IntKind.wrap, IntKind.signed, IntKind.bits]]; omega⟩
              have HBB := Lib.hid hB; clear hB
              go_wp2_with (at_builtin; refine append_b rfl _ _ rfl w.heap.size _ _ _ rfl (HO'.out.alloc _) _ 1 [B] rfl (Rw.Ts.made _ [B] _) (by have := HLB.out; simp only [List.length_cons, List.length_nil]; omega) (by have := HBS.out; simp; omega) ?_; intro v1 w3 hv1 hg1; have HV1 := Lib.hid hv1; have HB1 := Lib.hid (Rw.own_below (HO'.out.alloc _) hg1 (HB'.out.alloc HBS.out _) (by have := HBS.out; simp; omega)); clear hv1 hg1 e0 e1)
              go_roundw
              case rel => exact ⟨7, by omega, by simp, row_app HV1.out (by rw [HBB.out]; rfl), HB1.out⟩
              case measure => simp [intOf]
            · rw [show (7 - ((7 : Nat) : Int)) = 0 from rfl]
              obtain ⟨B, hB, hE⟩ : ∃ B : Nat, B = uns r.v % 256 ∧ IntKind.u64.wrap r.v % 256 = (B : Int) := ⟨_, rfl, by unfold uns; rw [show IntKind.u64.wrap r.v = r.v % 18446744073709551616 by simp [IntKind.wrap, IntKind.signed, IntKind.bits]]; omega⟩
              have HBB := Lib.hid hB; clear hB
              go_wp2_with (at_builtin; refine append_b rfl _ _ rfl w.heap.size _ _ _ rfl (HO'.out.alloc _) _ 1 [B] rfl (Rw.Ts.made _ [B] _) (by have := HLB.out; simp only [List.length_cons, List.length_nil]; omega) (by have := HBS.out; simp; omega) ?_; intro v1 w3 hv1 hg1; have HV1 := Lib.hid hv1; have HB1 := Lib.hid (Rw.own_below (HO'.out.alloc _) hg1 (HB'.out.alloc HBS.out _) (by have := HBS.out; simp; omega)); clear hv1 hg1 e0 e1)
              go_roundw
              case rel => exact ⟨8, by omega, by simp, row_app HV1.out (by rw [HBB.out]; rfl), HB1.out⟩
              case measure => simp [intOf]
            · rw [show (7 - ((8 : Nat) : Int)) = -1 from rfl]
              have HO := Lib.hid (show wr.ownsRow w.heap.size 5 kindB.K _ (bs ++ be8 (uns r.k) ++ be8 (uns r.v)).length (Rw.row kindB (bs ++ be8 (uns r.k) ++ be8 (uns r.v))) from HO'.out)
              clear e0 e1
              go_wp2_with fail
              go_roundw
              case rel => exact ⟨k + 1, by omega, by simp, by rw [HNX.out]; exact HO.out, HB'.out⟩
              case measure => simp only [intOf]; omega
    · have hltz : ¬ (k : Int) < (l.length : Int) := by omega
      have hkl : k = l.length := by omega
      have ho := HO.out
      rw [hkl, List.take_length] at ho
      have HOE := Lib.hid ho; clear ho hkl
      go_wp2_with fail
      go_ret
      exact ⟨⟨_, rfl, HOE.out⟩, HB.out⟩
end Vr
end Go.Proofs.Ytcdofkhkckodjaa
