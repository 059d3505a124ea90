/- slices.Chunk of bytes by sixteens: an iterator, for every loop body. -/
import Derived.Test.YtcdofkhkckodjaaVrPut
import Derived.RangeFuncNested
import Derived.RangeFuncBound
import Derived.RangeFuncCalls
import Derived.RangeFuncLeaves
import Derived.Shelf.RegionOpen
import Derived.OwnWalkIn
import Derived.TacticsInMore
import Derived.LoopNIn
import Derived.LoopIn
namespace Go.Proofs.Ytcdofkhkckodjaa
namespace Vr
open Go.ChangeShapes Go.WideShapes Go.ChangeAt Go.RowKit Go.BigFrame Go.Shelf
set_option linter.unusedVariables false
set_option maxRecDepth 100000
/-- the numbers below N, each with its bound -/
abbrev Upto (N : Nat) := { k : Nat // k ∈ List.range N }
def allC (N : Nat) : List (Upto N) := (List.range N).attach
theorem allC_len (N : Nat) : (allC N).length = N := by simp [allC]
theorem allC_at {N k : Nat} (h : k < N) : ∃ y : Upto N, (allC N)[k]? = some y ∧ y.1 = k := by
  have h1 : ((allC N).map Subtype.val)[k]? = some k := by
    unfold allC
    rw [List.attach_map_subtype_val, List.getElem?_range h]
  rw [List.getElem?_map] at h1
  cases e : (allC N)[k]? with
  | none => rw [e] at h1; cases h1
  | some y => rw [e] at h1; exact ⟨y, rfl, by simpa using h1⟩
theorem pre_of {α : Type} {xs : List α} {k : Nat} {t : α} (h : xs[k]? = some t) : xs.take k ++ [t] <+: xs := by
  have e : xs.take (k + 1) = xs.take k ++ [t] := by rw [List.take_add_one, h]; rfl
  rw [← e]; exact List.take_prefix _ _
def encC (b o N : Nat) (y : Upto N) : Array Value := #[.slice (some ⟨b, o + y.1 * 16, none⟩) 16 16]
/-- what a round keeps: the two boxes -/
def KeepC (Bs Bn : Nat) (W W' : World) : Prop := (∀ v, Row W Bs 34 [v] → Row W' Bs 34 [v]) ∧ ∀ v, Row W Bn 3 [v] → Row W' Bn 3 [v]
theorem keepC_t {Bs Bn : Nat} {A B C : World} (h : KeepC Bs Bn A B) (k : KeepC Bs Bn B C) : KeepC Bs Bn A C := ⟨fun v hv => k.1 v (h.1 v hv), fun v hv => k.2 v (h.2 v hv)⟩
theorem row_putObj {W : World} {g l : Nat} {t : TypeId} {cs : List Value} {o o' : Obj} (h : Row W g t cs) (ho : W.heap[l]? = some o) (hc : o.isCells = false) : Row (W.putObj l o') g t cs := by
  have hne : g ≠ l := by
    intro e; subst e
    have h' : W.heap[g]? = _ := h
    rw [ho] at h'; cases h'; cases hc
  exact (World.putObj_heap_other hne).trans h
theorem keepC_b {Bs Bn : Nat} {w : World} (W : World) (l : Nat) (o o' : Obj) (hl : w.heap.size ≤ l) (ho : W.heap[l]? = some o) (hc : o.isCells = false) (hw : o.isWalk = false) : KeepC Bs Bn W (W.putObj l o') :=
  ⟨fun v hv => row_putObj hv ho hc, fun v hv => row_putObj hv ho hc⟩
theorem chunk_any (a : Option Addr) (n c : Nat) (w : World) :
    Calls Try.prog 32 #[.slice a n c, .int .i64 16] w fun e w' => e = .returned (.func (.func 40) #[] #[.pointer (some ⟨w.heap.size, 0, none⟩), .pointer (some ⟨w.heap.size + 1, 0, none⟩)]) ∧ w' = (w.alloc (.cells #[.slice a n c] 34)).alloc (.cells #[.int .i64 16] 3) := by
  go_enter Try.func32, Try.ntmps32
  go_wp2_with fail
  go_ret
  exact ⟨rfl, rfl⟩
theorem grown_drew' (w : World) (r : Option Nat) : w.grownBy w.drew r := ⟨rfl, rfl, rfl, Nat.le_refl _, fun _ _ _ => rfl⟩
set_option maxHeartbeats 4000000 in
theorem chunkC (n : Nat) (hn : 1 ≤ n) (Bs Bn b o N c : Nat) (A : Option Addr) (m : Nat) (w : World) (hs : Row w Bs 34 [.slice A m c]) (hnb : Row w Bn 3 [.int .i64 16])
    (hA : 0 < N → A = some ⟨b, o, none⟩) (hm : m = N * 16) (hmc : m ≤ c) (hc : c ≤ maxLen) (hN : N ≤ 1000000) :
    SeqStopsK Fence.wide n Try.prog 40 #[.pointer (some ⟨Bs, 0, none⟩), .pointer (some ⟨Bn, 0, none⟩)] (encC b o N) (KeepC Bs Bn) (fun ys => ys = allC N) (fun pre => pre <+: allC N) N w := fun l J Jx W hW hJ _ hY h0 => by
  unfold maxLen at hc
  have hsW := hs.below hW hs.lt
  have hnW := hnb.below hW hnb.lt
  have HJ := Lib.hid hJ; have HM := Lib.hid hm; have HA := Lib.hid hA; have HS := Lib.hid hsW; have HNB := Lib.hid hnW
  clear hs hnb hW hJ hsW hnW hA hm
  refine callsIn_of_wp Try.func40 rfl trivial ?_ rfl
  simp only [Try.ntmps40, List.size_toArray, List.length_cons, List.length_nil, Nat.reduceAdd, Nat.reduceSub, Array.replicate_succ, Array.replicate_zero, List.push_toArray, List.append_toArray, List.nil_append, List.cons_append]
  gi_wp2
  gi_loopw [4] (fun i wr => ∃ k p : Nat, k ≤ N ∧ p = k * 16 ∧ i = .int .i64 p ∧ J ((allC N).take k) wr ∧ Row wr Bs 34 [.slice A m c] ∧ Row wr Bn 3 [.int .i64 16]) (fun i _ => m - (intOf i).toNat)
  case atStart => exact ⟨0, 0, Nat.zero_le _, rfl, rfl, h0, HS.out, HNB.out⟩
  case round =>
    obtain ⟨k, p, hk, hp, rfl, hJs, hrs, hrn⟩ := hrel
    clear h0
    have cs : wr.cell? ⟨Bs, 0, none⟩ = some (.slice A m c) := hrs.cell 0
    have cn : wr.cell? ⟨Bn, 0, none⟩ = some (.int .i64 16) := hrn.cell 0
    by_cases hlt : k < N
    · obtain ⟨y, hy1, hy2⟩ := allC_at hlt
      have hAe := HA.out (by omega)
      rw [hAe] at cs hrs
      have hJ2 : J ((allC N).take k) wr.drew := HJ.out _ _ _ none hJs (grown_drew' _ _) (fun r e => by cases e)
      obtain ⟨fn, tmps, assign, body, hy, hR⟩ := hY _ y _ hJ2 (by rw [List.length_take, allC_len]; omega)
      have hmm := HM.out
      have e1 : p + 16 ≤ m := by omega
      have e2 : p < m := by omega
      have e3 : p < c := by omega
      have e4 : p + 16 ≤ c := by omega
      have hyp : y.1 * 16 = p := by rw [hy2, hp]
      dsimp only [encC] at hy
      rw [hyp] at hy
      have i1 : (p : Int) < (m : Int) := by omega
      have i2 : (p : Int) < (c : Int) := by omega
      have i3 : (16 : Int) ≤ (m : Int) - (p : Int) := by omega
      have i4 : (p : Int) + 16 ≤ (c : Int) := by omega
      have i5 : ¬ ((m : Int) - (p : Int) < 16) := by omega
      have i6 : (p : Int) ≤ (m : Int) := by omega
      have HY1 := Lib.hid hy1; have HRS := Lib.hid hrs; have HRN := Lib.hid hrn; have HP := Lib.hid hp; have HYP := Lib.hid hyp; have HAE := Lib.hid hAe
      clear hy1 hy2 hrs hrn hp hyp hAe hmm hJs
      gi_wp2
      gi_region
      gi_wp2
      refine hR.mono ?_
      rintro e W3 (⟨rfl, hJ3, hk3⟩ | ⟨rfl, hJx3⟩)
      · have hrs3 := hk3.1 _ (show Row wr.drew Bs 34 _ from HRS.out)
        have hrn3 := hk3.2 _ (show Row wr.drew Bn 3 _ from HRN.out)
        have cn3 : W3.cell? ⟨Bn, 0, none⟩ = some (.int .i64 16) := hrn3.cell 0
        have HRS3 := Lib.hid hrs3; have HRN3 := Lib.hid hrn3; have HJ3 := Lib.hid hJ3
        clear hk3 hrs3 hrn3 hJ3
        gi_wp2
        go_roundw
        case rel => exact ⟨k + 1, p + 16, by omega, by have := HP.out; omega, by simp, by rw [List.take_add_one, HY1.out]; exact HJ3.out, by rw [HAE.out]; exact HRS3.out, HRN3.out⟩
        case measure => simp only [intOf]; omega
      · gi_wp2
        refine bodyPost_ret (results_none rfl _ _ _) rfl ?_
        exact ⟨⟨_, rfl⟩, .inr ⟨_, pre_of HY1.out, hJx3⟩⟩
    · have hk' : k = N := by omega
      have hpm : p = m := by have := HM.out; omega
      have hJ' : J (allC N) wr := by rw [hk', List.take_of_length_le (by rw [allC_len]; omega)] at hJs; exact hJs
      have i1 : ¬ (p : Int) < (m : Int) := by omega
      have HJ' := Lib.hid hJ'
      clear hJs hJ' hp hk' hpm hrs hrn
      gi_wp2
      go_end0
      first | exact ⟨⟨_, rfl⟩, .inl HJ'.out⟩ | exact ⟨⟨_, rfl⟩, .inl ⟨_, rfl, HJ'.out⟩⟩
end Vr
end Go.Proofs.Ytcdofkhkckodjaa
