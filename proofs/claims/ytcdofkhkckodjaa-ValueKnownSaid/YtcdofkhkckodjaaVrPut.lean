/- Put, the program's and the document's. -/
import Derived.Test.YtcdofkhkckodjaaVrBytes
import Derived.Test.YtcdofkhkckodjaaVrRefMath
namespace Go.Proofs.Ytcdofkhkckodjaa
namespace Vr
open Go.ChangeShapes Go.WideShapes Go.ChangeAt Go.RowKit Go.BigFrame
set_option linter.unusedVariables false
set_option maxRecDepth 100000
theorem putR_snoc {l : List Rd} {k : Nat} {r : Rd} (h : l[k]? = some r) : putR (l.take (k + 1)) = putR (l.take k) ++ be8 (uns r.k) ++ be8 (uns r.v) := by
  unfold putR
  rw [List.take_add_one, h]
  simp [Rd.put]
theorem putR_len (l : List Rd) : (putR l).length = 16 * l.length := by
  induction l with
  | nil => rfl
  | cons r l ih =>
    show ((r :: l).map Rd.put).flatten.length = _
    rw [List.map_cons, List.flatten_cons, List.length_append]
    show (r.put).length + (putR l).length = _
    rw [ih]
    show (be8 _ ++ be8 _).length + _ = _
    rw [List.length_append, be8_len, be8_len, List.length_cons]; omega
theorem putR_lt (l : List Rd) : ∀ x ∈ putR l, x < 256 := by
  intro x hx
  unfold putR at hx
  simp only [List.mem_flatten, List.mem_map] at hx
  obtain ⟨_, ⟨r, _, rfl⟩, hx⟩ := hx
  unfold Rd.put at hx
  rcases List.mem_append.1 hx with h | h <;> exact be8_lt _ _ h
/-- what Put answers -/
def PutD (bs : List Nat) (w : World) (e : Ending) (w' : World) : Prop := (∃ v, e = .returned v ∧ w'.ownsRow w.heap.size 5 kindB.K v bs.length (Rw.row kindB bs)) ∧ Below w.heap.size w w'
set_option maxHeartbeats 8000000 in
theorem put_any (A : Option Addr) (l : List Rd) (c : Nat) (w : World) (hT : Rw.Ts kindR w A l) (hl : l.length ≤ 10000) (hW : ∀ r ∈ l, r.W) :
    Calls Try.prog 21 #[.slice A l.length c] w (PutD (putR l) w) := by
  have HT := Lib.hid hT; have HW := Lib.hid hW; clear hT hW
  obtain ⟨M, hM⟩ : ∃ M : Nat, 16 * l.length = M := ⟨_, rfl⟩
  have hMi : 16 * (l.length : Int) = (M : Int) := by omega
  have hMb : M ≤ 160000 := by omega
  obtain ⟨i0, hi, hz0, hz1, hz2⟩ := info_parts infoU8
  have HM := Lib.hid hM; clear hM
  go_enter Try.func21, Try.ntmps21
  go_wp2_with (at_make; refine wpList_make_own _ rfl _ _ 34 rfl w.heap.size 5 i0 (.int .u8 0) 1 Try.underlying34 hi hz0 hz1 .i64 .i64 _ M rfl rfl rfl (by rw [hz2]; omega) (by unfold maxLen; omega) (Nat.le_refl _) ?_; intro w1 ho1 hg1; have HO1 := Lib.hid ho1; have HB1 := Lib.hid ((Below.refl w.heap.size w).grown hg1 (Nat.le_refl _) (fun k e => by cases e)); clear ho1 hg1)
  clear hMi
  go_loopw [3, 12] (fun v i wr => ∃ k : Nat, k ≤ l.length ∧ i = .int .i64 k ∧ wr.ownsRow w.heap.size 5 kindB.K v (putR (l.take k)).length (Rw.row kindB (putR (l.take k))) ∧ Below w.heap.size w wr) (fun _ i _ => l.length - (intOf i).toNat)
  case atStart => exact ⟨0, by omega, rfl, HO1.out, HB1.out⟩
  case round =>
    obtain ⟨k, hk, rfl, hown, hb⟩ := hrel
    have HO := Lib.hid hown; have HB := Lib.hid hb; clear hown hb HO1 HB1
    by_cases hlt : k < l.length
    · have hltz : (k : Int) < (l.length : Int) := by omega
      obtain ⟨r, hr⟩ : ∃ r, l[k]? = some r := ⟨_, List.getElem?_eq_getElem hlt⟩
      have hrW := HW.out r (List.mem_of_getElem? hr)
      obtain ⟨b0, o0, rfl, _, hcl⟩ := recs_at HT.out hr
      obtain ⟨e0, e1⟩ := hcl wr HB.out
      have hnext := putR_snoc hr
      have hlen : (putR (l.take k)).length ≤ 160000 := by rw [putR_len, List.length_take]; omega
      generalize putR (l.take k) = bs at *
      have HNX := Lib.hid hnext; have HRW := Lib.hid hrW; have HLN := Lib.hid hlen; clear hnext hrW hr hcl hlen
      go_upto_region 5 with fail
      have hbx := Row.made wr 32 [.int .i64 r.k, .int .i64 r.v]
      have ho2 := HO.out.alloc (.cells #[.int .i64 r.k, .int .i64 r.v] 32)
      have hb2 := HB.out.alloc HB.out.size (.cells #[.int .i64 r.k, .int .i64 r.v] 32)
      simp only [List.toArray] at hbx
      clear HO HB e0 e1
      generalize wr.alloc (.cells #[.int .i64 r.k, .int .i64 r.v] 32) = wz at *
      generalize wr.heap.size = B2 at *
      have c0 : wz.cell? ⟨B2, 0, none⟩ = some (.int .i64 r.k) := hbx.cell 0
      have c1 : wz.cell? ⟨B2, 1, none⟩ = some (.int .i64 r.v) := hbx.cell 1
      have HBX := Lib.hid hbx; have HO2 := Lib.hid ho2; have HB2 := Lib.hid hb2
      have HBS := Lib.hid hb2.size
      clear hbx ho2 hb2
      go_region_with (go_at_call 31; first
        | (refine (putNumber_any w.heap.size _ (bs ++ be8 (uns r.k)) r.v _ HO3.out (by have := HLN.out; rw [List.length_append, be8_len]; omega) HBS3.out HRW.out.2).mono ?_; rintro e w4 ⟨⟨v4, rfl, ho4⟩, hb4, hk4⟩; have HO4 := Lib.hid ho4; have HB4 := Lib.hid (HB3.out.trans hb4); clear ho4 hb4 hk4)
        | (refine (putNumber_any w.heap.size _ bs r.k _ (World.ownsRow.drew HO2.out) (by have := HLN.out; omega) HBS.out HRW.out.1).mono ?_; rintro e w3 ⟨⟨v3, rfl, ho3⟩, hb3, hk3⟩; have HO3 := Lib.hid ho3; have HB3 := Lib.hid (HB2.out.drew.trans hb3); have HBS3 : Hid (w.heap.size ≤ w3.heap.size) := Lib.hid (Nat.le_trans HBS.out (show wz.heap.size ≤ w3.heap.size from hb3.size)); have c2 : w3.cell? ⟨B2, 1, none⟩ = some (.int .i64 r.v) := (hk3 _ _ HBX.out).cell 1; clear ho3 hb3 hk3))
      all_goals
        go_wp2_with fail
        go_roundw
        case rel => exact ⟨k + 1, by omega, by simp, by rw [HNX.out]; exact HO4.out, HB4.out⟩
        case measure => simp only [intOf]; omega
    · have hltz : ¬ (k : Int) < (l.length : Int) := by omega
      have hkl : k = l.length := by omega
      have ho := HO.out
      rw [hkl, List.take_length] at ho
      have HOE := Lib.hid ho; clear ho hkl
      go_wp2_with fail
      go_ret
      exact ⟨⟨_, rfl, HOE.out⟩, HB.out⟩
end Vr
end Go.Proofs.Ytcdofkhkckodjaa
