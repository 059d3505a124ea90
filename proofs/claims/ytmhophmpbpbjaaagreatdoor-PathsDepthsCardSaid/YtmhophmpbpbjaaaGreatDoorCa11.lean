/- MxKeys, MxCollect, MxCmp -/
import Derived.Test.YtmhophmpbpbjaaaGreatDoorCa7
import Derived.Test.YtmhophmpbpbjaaaGreatDoorCa2
import Derived.RangeFuncNested
import Derived.RangeFuncBound
import Derived.RangeFuncCalls
import Derived.RangeFuncLeaves
import Derived.Shelf.RegionOpen
import Derived.OwnWalkIn
import Derived.TacticsInMore
import Derived.LoopNIn
import Derived.LoopIn
import Derived.Maps.OwnIn
import Derived.DeepKeys4
import Derived.Laws.IdiomRangeMap
import Derived.Sort.MapsRangeIn
import Derived.Sort.KeysCollected
import Derived.Test.YtmhophmpbpbjaaaGreatDoorCa6
import Derived.Test.YtmhophmpbpbjaaaGreatDoorCa9
namespace Go.Proofs.YtmhophmpbpbjaaaGreatDoor
set_option linter.unusedVariables false
section
namespace Mx
open Go.Maps (Keyed)
open Go.WideElems (Fit rd rg rd_key rd_val rg_of)
open Go.ChangeMaps (notKey putKey)
open Go.ChangeShapes Go.WideShapes Go.ChangeAt Go.RowKit Go.BigFrame Go.Shelf
set_option maxRecDepth 100000
def BoxAt (w : World) (B : Nat) (v : Value) : Prop := B < w.heap.size ∧ w.cell? ⟨B, 0, none⟩ = some v
section
variable {w w' W : World} {B b o n c : Nat} {A : Option Addr} {v : Value} {x y : Operand} {i j : Int} {p : Bool}
theorem BoxAt.below (h : BoxAt w B v) (hb : Below w.heap.size w w') : BoxAt w' B v := ⟨Nat.lt_of_lt_of_le h.1 hb.size, (hb.cell (p := ⟨B, 0, none⟩) h.1).trans h.2⟩
theorem BoxAt.made (w : World) (v : Value) (t : TypeId) : BoxAt (w.alloc (.cells #[v] t)) w.heap.size v := by
  have h : Row (w.alloc (.cells #[v] t)) w.heap.size t [v] := Row.made w _ _
  exact ⟨h.lt, h.cell 0⟩
end
abbrev RSm := { t : Sm // t.R }
def encS (x : RSm) : Array Value := #[x.1.v]
def raw (l : List RSm) : List Sm := l.map (·.1)
theorem raw_length (l : List RSm) : (raw l).length = l.length := by simp [raw]
theorem raw_get (l : List RSm) (k : Nat) (t : RSm) (h : l[k]? = some t) : (raw l)[k]? = some t.1 := by simp [raw, h]
theorem pre_of {α : Type} {xs : List α} {k : Nat} {t : α} (h : xs[k]? = some t) : xs.take k ++ [t] <+: xs := by
  have e : xs.take (k + 1) = xs.take k ++ [t] := by rw [List.take_add_one, h]; rfl
  rw [← e]; exact List.take_prefix _ _
def Keep (n : Nat) (W W' : World) : Prop := Below n W W' ∧ ∀ (b : Nat) (o : Obj), W.heap[b]? = some o → o.isCells = true → W'.heap[b]? = some o
theorem keep_t {n : Nat} {A B C : World} (h : Keep n A B) (k : Keep n B C) : Keep n A C := ⟨h.1.trans k.1, fun b o ho hc => k.2 b o (h.2 b o ho hc) hc⟩
theorem keep_b {n : Nat} {w : World} (hn : n ≤ w.heap.size) (W : World) (l : Nat) (o o' : Obj) (hl : w.heap.size ≤ l) (ho : W.heap[l]? = some o) (hc : o.isCells = false) (hw : o.isWalk = false) : Keep n W (W.putObj l o') :=
  ⟨(belowK_b (w := w) hn) W l o o' hl ho hc hw, fun b p hp hpc => by
    by_cases e : b = l
    · subst e; rw [ho] at hp; cases hp; rw [hc] at hpc; cases hpc
    · exact (World.putObj_heap_other e).trans hp⟩
theorem grown_below {w w' : World} (hb : Below w.heap.size w w') : w.grownBy w' none := ⟨hb.os, hb.tape, hb.output, hb.size, fun k hk _ => hb.block k hk⟩

theorem val_inj {s t : Sm} (h : s.v = t.v) : s = t := by
  simp only [Sm.v, Value.agg.injEq, Array.mk.injEq, List.cons.injEq, Value.int.injEq, true_and, and_true] at h
  exact Sm.ext' h.1 h.2.1 h.2.2.1 h.2.2.2.1 h.2.2.2.2.1 h.2.2.2.2.2.1 h.2.2.2.2.2.2
def Fits (n : Int) : Prop := (Lit.int .i64 n).wf = true
theorem fits_of {n : Int} (h1 : -9223372036854775808 ≤ n) (h2 : n ≤ 9223372036854775807) : Fits n := by
  simp [Fits, Lit.wf, IntKind.min, IntKind.max, IntKind.signed, IntKind.bits]; omega
def WM (t : Sm) : Prop := Fits t.fr ∧ Fits t.to ∧ Fits t.kp ∧ Fits t.ad ∧ Fits t.t0 ∧ Fits t.t1 ∧ Fits t.t2
theorem R_w {t : Sm} (h : t.R) : WM t := by
  unfold Sm.R at h
  exact ⟨fits_of (by omega) (by omega), fits_of (by omega) (by omega), fits_of (by omega) (by omega), fits_of (by omega) (by omega), fits_of (by omega) (by omega), fits_of (by omega) (by omega), fits_of (by omega) (by omega)⟩
theorem keyed7 : Keyed Tryz.prog 44 := Keyed.of_law (deep_law_laid progLaid (m := 8) (by decide) (of_decide_eq_true (by kernel_rfl)) (by kernel_rfl) (by kernel_rfl))
theorem cells_sum : Tryz.prog.cellsOf 44 = 7 := by kernel_rfl
theorem keyLits7 (d : Nat) {t : Sm} (h : WM t) :
    Tryz.prog.keyLits (d + 3) 44 [.int .i64 t.fr, .int .i64 t.to, .int .i64 t.kp, .int .i64 t.ad, .int .i64 t.t0, .int .i64 t.t1, .int .i64 t.t2] = some [.int .i64 t.fr, .int .i64 t.to, .int .i64 t.kp, .int .i64 t.ad, .int .i64 t.t0, .int .i64 t.t1, .int .i64 t.t2] := by
  obtain ⟨h0, h1, h2, h3, h4, h5, h6⟩ := h
  unfold Fits at *
  simp [Program.keyLits, Tryz.underlying44, Tryz.underlying42, Tryz.underlying3, cells_sum, cells_arr, stCells_int, List.range_succ, h0, h1, h2, h3, h4, h5, h6]
theorem keyOf7_some {t : Sm} (h : WM t) : ∃ l, keyOf Tryz.prog 44 t.v = some l := by
  have h0 : decide (1 < Tryz.prog.types.size) = true := by kernel_rfl
  have h0 := of_decide_eq_true h0
  obtain ⟨m, hm⟩ : ∃ m, Tryz.prog.types.size = m + 2 := ⟨Tryz.prog.types.size - 2, by omega⟩
  have hk : Tryz.prog.keyType 44 = true := by kernel_rfl
  unfold keyOf
  rw [Tryz.underlying44, hm]
  simp [hk, Value.formed, Tryz.underlying44, cells_sum, Value.cells]
  exact ⟨_, _, keyLits7 m h, rfl⟩
noncomputable def kt (t : Sm) : Lit := (keyOf Tryz.prog 44 t.v).getD (.bool false)
theorem keyOf_kt {t : Sm} (h : WM t) : keyOf Tryz.prog 44 t.v = some (kt t) := by
  obtain ⟨l, hl⟩ := keyOf7_some h
  unfold kt; rw [hl]; rfl
theorem kt_inj {s t : Sm} (hs : WM s) (ht : WM t) (h : kt s = kt t) : s = t := val_inj (keyed7.inj (keyOf_kt hs) (by rw [h]; exact keyOf_kt ht))
theorem kt_lit {t : Sm} (h : WM t) : WideAt.IsKeyLit (kt t) := keyed7.key (keyOf_kt h)
def RU : Value → Option (DataW Unit × List MemPlace)
  | .agg ⟨[]⟩ => some (.agg [], [])
  | _ => none
theorem RU_inv {v : Value} {y : DataW Unit × List MemPlace} (h : RU v = some y) : v = .agg #[] := by
  unfold RU at h
  split at h
  · rfl
  · cases h
noncomputable def entK (t : Sm) : Lit × DataW Unit := (kt t, .agg [])
def MapK (w : World) (b N : Nat) (E : List Sm) : Prop :=
  (∃ D, w.ownsMap Tryz.prog 44 RU b N (.map D) ∧ D.Perm (E.map entK)) ∧ (∀ t ∈ E, t.R) ∧ E.Nodup
def putK (t : Sm) (E : List Sm) : List Sm := t :: E.filter fun u => decide (u ≠ t)
theorem mem_putK {t u : Sm} {E : List Sm} : u ∈ putK t E ↔ u = t ∨ u ∈ E := by
  unfold putK
  rw [List.mem_cons, List.mem_filter]
  constructor
  · rintro (h | h)
    · exact .inl h
    · exact .inr h.1
  · rintro (h | h)
    · exact .inl h
    · by_cases e : u = t
      · exact .inl e
      · exact .inr ⟨h, by simpa using e⟩
section
variable {w w' : World} {b n N : Nat} {E : List Sm} {row : Option Nat}
theorem MapK.made (w : World) : MapK (w.alloc (.map #[] 0)) w.heap.size 0 [] := ⟨⟨[], World.ownsMap_made _ _ _ _, .refl _⟩, by simp, List.nodup_nil⟩
theorem MapK.kept (h : MapK w b n E) (hg : w.grownBy w' row) (hne : some b ≠ row) : MapK w' b n E := by
  obtain ⟨⟨L, h1, h2⟩, h3⟩ := h
  exact ⟨⟨L, h1.kept hg hne, h2⟩, h3⟩
theorem MapK.lt (h : MapK w b n E) : b < w.heap.size := by
  obtain ⟨⟨L, h1, h2⟩, h3⟩ := h
  exact h1.lt
theorem MapK.alloc (h : MapK w b n E) (o : Obj) : MapK (w.alloc o) b n E := h.kept (World.grownBy_alloc w o none) (by simp)
theorem MapK.store (h : MapK w b n E) (hn : n < maxLen) {t : Sm} (ht : t.R) :
    ∃ w', (Instr.mapUpdate 96 (.map (some b)) t.v (.agg #[])).run Tryz.prog w = .ok () w' ∧ MapK w' b (n + 1) (putK t E) ∧ w.grownBy w' (some b) := by
  obtain ⟨⟨L, h1, hp⟩, hR, hd⟩ := h
  obtain ⟨w', hrun, h2, hg⟩ := h1.update keyed7 Tryz.underlying96 hn (keyOf_kt (R_w ht)) (show RU (.agg #[]) = some (.agg [], []) from rfl)
  rw [DataW.put_eq] at h2
  refine ⟨w', hrun, ⟨⟨_, h2, ?_⟩, ?_, ?_⟩, hg⟩
  · unfold putKey putK
    refine (insert_perm _ _).trans ?_
    rw [List.map_cons]
    refine List.Perm.cons _ ?_
    refine (hp.filter _).trans ?_
    rw [List.filter_map]
    refine List.Perm.of_eq ?_
    congr 1
    refine List.filter_congr fun u hu => ?_
    show notKey (kt t) (entK u) = _
    rw [Bool.eq_iff_iff, Go.Maps.notKey_iff (kt_lit (R_w ht)), decide_eq_true_iff]
    constructor
    · intro h e; exact h (by rw [← e]; rfl)
    · intro h e; exact h (kt_inj (R_w (hR u hu)) (R_w ht) e)
  · intro u hu
    rcases mem_putK.1 hu with rfl | hu
    · exact ht
    · exact hR u hu
  · unfold putK
    refine List.nodup_cons.2 ⟨fun h => ?_, hd.filter _⟩
    have := (List.mem_filter.1 h).2
    simp at this
end
theorem mkeys_any (b : Option Nat) (w : World) :
    Calls Tryz.prog 60 #[.map b] w fun e w' => e = .returned (.func (.func 113) #[] #[.pointer (some ⟨w.heap.size, 0, none⟩)]) ∧ w' = w.alloc (.cells #[.map b] 96) := by
  go_enter Tryz.func60, Tryz.ntmps60
  go_wp2_with fail
  go_ret
  exact ⟨rfl, rfl⟩
structure ColK (E : List Sm) (left : Lit → Bool) (xs : List RSm) : Prop where
  sub : ∀ t ∈ raw xs, t ∈ E
  nodup : (raw xs).Nodup
  all : ∀ e ∈ E, left (kt e) = true ∨ e ∈ raw xs
  gone : ∀ t ∈ raw xs, left (kt t) = false
section
variable {E : List Sm} {D : List (Lit × DataW Unit)} {left : Lit → Bool} {xs : List RSm}
theorem ColK.start (hp : D.Perm (E.map entK)) (hR : ∀ t ∈ E, t.R) : ColK E (Go.Maps.has (.map D)) [] := by
  refine ⟨by simp [raw], by simp [raw], fun e he => .inl ?_, by simp [raw]⟩
  rw [Go.Maps.has_eq, List.any_eq_true]
  exact ⟨entK e, hp.mem_iff.2 (List.mem_map_of_mem he), WideAt.sameKey_self (kt_lit (R_w (hR e he)))⟩
theorem map_atK {k : Lit} {y : DataW Unit} (hp : D.Perm (E.map entK)) (hat : ∀ zd, (DataW.map D).atKey k zd = y) : ∃ p ∈ E, kt p = k := by
  have h1 : Go.Maps.has (.map D) k = true := Go.Maps.has_true_of_atKey hat
  rw [Go.Maps.has_eq, List.any_eq_true] at h1
  obtain ⟨p, hp1, hp2⟩ := h1
  obtain ⟨u, hu, e⟩ := List.mem_map.1 (hp.mem_iff.1 hp1)
  refine ⟨u, hu, ?_⟩
  have h5 := WideAt.sameKey_eq hp2
  rw [← e] at h5
  exact h5
theorem ColK.step (h : ColK E left xs) (hR : ∀ t ∈ E, t.R) {c : RSm} (hc : c.1 ∈ E) {k : Lit} (hk : kt c.1 = k) (hl : left k = true) :
    ColK E (fun z => left z && !z.sameKey k) (xs ++ [c]) := by
  have hr : raw (xs ++ [c]) = raw xs ++ [c.1] := by simp [raw]
  have hself : k.sameKey k = true := by rw [← hk]; exact WideAt.sameKey_self (kt_lit (R_w c.2))
  refine ⟨?_, ?_, ?_, ?_⟩
  · intro t ht
    rw [hr] at ht
    rcases List.mem_append.1 ht with ht | ht
    · exact h.sub t ht
    · rw [List.mem_singleton] at ht; subst ht; exact hc
  · rw [hr, List.nodup_append]
    refine ⟨h.nodup, by simp, fun a ha b hb e => ?_⟩
    rw [List.mem_singleton] at hb
    subst hb; subst e
    have := h.gone _ ha
    rw [hk, hl] at this; cases this
  · intro e he
    rw [hr]
    by_cases hs : (kt e).sameKey k = true
    · refine .inr (List.mem_append_right _ ?_)
      have h1 : kt e = kt c.1 := (WideAt.sameKey_eq hs).trans hk.symm
      rw [kt_inj (R_w (hR e he)) (R_w c.2) h1]
      simp
    · rcases h.all e he with h1 | h1
      · refine .inl ?_
        simp [h1, hs]
      · exact .inr (List.mem_append_left _ h1)
  · intro t ht
    rw [hr] at ht
    rcases List.mem_append.1 ht with ht | ht
    · simp [h.gone t ht]
    · rw [List.mem_singleton] at ht; subst ht
      rw [hk, hself]; simp
end
def AllOf (E : List Sm) (xs : List RSm) : Prop := (raw xs).Nodup ∧ ∀ t, t ∈ raw xs ↔ t ∈ E
section
variable {E : List Sm} {left : Lit → Bool} {xs : List RSm}
theorem ColK.done (h : ColK E left xs) (hl : ∀ k, left k = false) : AllOf (E) xs :=
  ⟨h.nodup, fun t => ⟨h.sub t, fun ht => by
    rcases h.all t ht with h1 | h1
    · rw [hl] at h1; cases h1
    · exact h1⟩⟩
end
set_option maxHeartbeats 2000000 in
theorem keysC_some (n : Nat) (hn : 1 ≤ n) (Bm b nn : Nat) (E : List Sm) (w : World) (hBm : BoxAt w Bm (.map (some b))) (hM : MapK w b nn E) :
    SeqStopsK Fence.wide n Tryz.prog 113 #[.pointer (some ⟨Bm, 0, none⟩)] encS KeepsWalks (AllOf (E)) (fun _ => True) E.length w := fun l J Jx W hW hJ _ hY h0 => by
  have hm := (hBm.below hW).2
  obtain ⟨⟨D, hown, hp⟩, hR, hnd⟩ := hM
  have hown : W.ownsMap Tryz.prog 44 RU b nn (.map D) := by
    have hbl := hown.lt
    obtain ⟨es, clock, hb, Ft, hs, hD⟩ := hown
    exact ⟨es, clock, (hW.block b hbl).trans hb, Ft, hs, hD⟩
  have hsize : Go.Maps.size (DataW.map D) = E.length := by
    rw [Go.Maps.size_eq, hp.length_eq, List.length_map]
  have HP := Lib.hid (And.intro hp hR); have HJ := Lib.hid hJ
  have hcol := ColK.start hp hR
  clear hp hR hJ hBm hW
  refine callsIn_of_wp Tryz.func113 rfl trivial ?_ rfl
  simp only [Tryz.ntmps113, List.size_toArray, List.length_cons, List.length_nil, Nat.reduceAdd, Nat.reduceSub, Array.replicate_succ, Array.replicate_zero, List.push_toArray, List.append_toArray, List.nil_append, List.cons_append]
  gi_wp2_with (first
    | (gi_at_range; refine wpListIn_range_own _ rfl _ 96 rfl 44 97 keyed7 Tryz.underlying96 RU b nn _ rfl hown ?_; intro w0 hrg0 hg0 hs0)
    | gi_in)
  go_frame
  gi_loopw [3] (fun _ wr => ∃ (left : Lit → Bool) (cnt : Nat) (xs : List RSm), wr.ranges Tryz.prog 44 RU b W.heap.size nn (.map D) left cnt ∧ xs.length + cnt ≤ E.length ∧ ColK E left xs ∧ J xs wr)
    (fun _ wr => wr.rangeLeft b W.heap.size)
  case atStart =>
    exact ⟨_, _, [], hrg0, by rw [hsize]; simp, hcol, HJ.out [] W w0 none h0 hg0 (fun r e => by cases e)⟩
  case round =>
    obtain ⟨left, cnt, xs, hrg, hcs, hC, hJs⟩ := hrel
    clear hcol hrg0 hg0 hs0 hm h0
    have HC := Lib.hid hC; clear hC
    gi_wp2_with (first
      | (gi_at_next; refine wpListIn_next_ranges _ rfl _ rfl 44 keyed7 RU id (fun _ : Unit => Value.agg #[]) (fun key kl _ => ⟨key, rfl⟩) (fun v y hv => ⟨(), RU_inv hv⟩) b W.heap.size nn _ _ _ rfl hrg ?_ ?_)
      | gi_in)
    · intro hc0 hl0
      have H := Lib.hid (HC.out.done hl0)
      gi_wp2
      go_end0
      exact ⟨⟨_, rfl⟩, .inl ⟨xs, H.out, hJs⟩⟩
    · intro x kl0 yd yp w2 cnt2 hkey hlk hv hat hrg2 hlt hg2 hs2 hen
      obtain ⟨c, hcL, hpk⟩ := map_atK HP.out.1 hat
      have hcR : c.R := HP.out.2 c hcL
      have hx : x = c.v := keyed7.inj hkey (by rw [← hpk]; exact keyOf_kt (R_w hcR))
      subst hx
      have hJ2 : J xs w2 := HJ.out xs wr w2 (some W.heap.size) hJs hg2 (fun r e => by cases e; exact ⟨Nat.le_refl _, hrg.iter_walk⟩)
      have hJ3 : J xs (w2.alloc (.cells #[.int .i64 c.fr, .int .i64 c.to, .int .i64 c.kp, .int .i64 c.ad, .int .i64 c.t0, .int .i64 c.t1, .int .i64 c.t2] 44)) := HJ.out _ _ _ none hJ2 (World.grownBy_alloc _ _ none) (fun r e => by cases e)
      obtain ⟨fn, tmps, assign, body, hy, hRR⟩ := hY xs ⟨c, hcR⟩ _ hJ3 (by omega)
      dsimp only [encS] at hy
      have hC2 := HC.out.step HP.out.2 (c := ⟨c, hcR⟩) hcL hpk hlk
      have hrg3 := hrg2.of_walks (KeepsWalks.alloc w2 (.cells #[.int .i64 c.fr, .int .i64 c.to, .int .i64 c.kp, .int .i64 c.ad, .int .i64 c.t0, .int .i64 c.t1, .int .i64 c.t2] 44))
      have HC2 := Lib.hid hC2; have HRG := Lib.hid hrg3; have HR := Lib.hid hRR; have HRG0 := Lib.hid hrg
      unfold Sm.v at *
      clear hs2 hC2 hrg3 hRR hrg hrg2 hkey hlk hv hat hg2 hJ2 hJ3 hJs HC hpk hcL
      gi_wp2
      refine HR.out.mono ?_
      rintro e W3 (⟨rfl, hJ3, hk3⟩ | ⟨rfl, hJx3⟩)
      · have hrg4 := HRG.out.of_walks hk3
        have HRG4 := Lib.hid hrg4; clear hrg4 hk3
        gi_wp2
        go_roundw
        case rel => exact ⟨_, cnt2, xs ++ [⟨c, _⟩], HRG4.out, by rw [List.length_append]; simp; omega, HC2.out, hJ3⟩
        case measure => rw [HRG4.out.left_eq, HRG0.out.left_eq]; exact hlt
      · gi_wp2
        refine bodyPost_ret (results_none rfl _ _ _) rfl ?_
        exact ⟨⟨_, rfl⟩, .inr ⟨_, trivial, hJx3⟩⟩
end Mx
end

section
namespace Mx
open Go.ChangeShapes Go.WideShapes Go.ChangeAt Go.RowKit Go.BigFrame Go.Shelf
set_option maxRecDepth 100000
attribute [local go_sem] Oper.semAt_some
def AppI (w : World) (pre : List RSm) (W : World) : Prop := ∃ v, Boxed W w.heap.size 36 v ∧ W.ownsRow w.heap.size 44 7 v pre.length (rowS (raw pre)) ∧ True
theorem rowS_one_at (w : World) (t : Sm) : ∀ (j : Nat) (u : Value), (rowS [t])[j]? = some u → (w.alloc (.cells #[.int .i64 t.fr, .int .i64 t.to, .int .i64 t.kp, .int .i64 t.ad, .int .i64 t.t0, .int .i64 t.t1, .int .i64 t.t2] 44)).cell? ((⟨w.heap.size, 0, none⟩ : Addr).add j) = some u := by
  intro j u hj
  have h : Row (w.alloc (.cells #[.int .i64 t.fr, .int .i64 t.to, .int .i64 t.kp, .int .i64 t.ad, .int .i64 t.t0, .int .i64 t.t1, .int .i64 t.t2] 44)) w.heap.size 44 (rowS [t]) := Row.made w _ (rowS [t])
  rw [add_zero_off]
  exact (h.cell j).trans hj
set_option maxRecDepth 100000 in
set_option maxHeartbeats 4000000 in
theorem appendSeq_any (g N : Nat) (lb : Array Value) (S Sp : List RSm → Prop) (hN : N ≤ 5000000) (w0 w : World) (hb0 : Below w0.heap.size w0 w) (eg : ∀ args w, (callFunc g args).run Tryz.prog w = .ok (.enter g args) w)
    (hseq : ∀ n, 1 ≤ n → SeqStopsK Fence.wide n Tryz.prog g lb encS KeepsWalks S Sp N w0) :
    Calls Tryz.prog 143 #[.slice none 0 0, .func (.func g) #[] lb] w fun e W' => (∃ v xs, e = .returned v ∧ S xs ∧ W'.ownsRow w.heap.size 44 7 v xs.length (rowS (raw xs))) ∧ Below w.heap.size w W' := by
  refine (callsIn_wide (n := 5)).1 ?_
  refine callsIn_of_wp_marks Tryz.func143 rfl trivial ?_ rfl
  simp only [Tryz.ntmps143, List.size_toArray, List.length_cons, List.length_nil, Nat.reduceAdd, Nat.reduceSub, Array.replicate_succ, Array.replicate_zero, List.push_toArray, List.append_toArray, List.nil_append, List.cons_append]
  obtain ⟨i0, hi, hz0, hz1, hz2⟩ := info_parts infoSum
  gi_wp2
  have hsz : (w.alloc (.cells #[.slice none 0 0] 36)).heap.size = w.heap.size + 1 := by simp
  have bM := Boxed.new w 36 (.slice none 0 0)
  have hB0 : Below w.heap.size w (w.alloc (.cells #[.slice none 0 0] 36)) := (Below.refl _ w).alloc (Nat.le_refl _) _
  have hK0 : Below w0.heap.size w0 (w.alloc (.cells #[.slice none 0 0] 36)) := hb0.alloc hb0.size _
  obtain ⟨W0, hW0⟩ : ∃ W0, w.alloc (.cells #[.slice none 0 0] 36) = W0 := ⟨_, rfl⟩
  rw [hW0] at hsz bM hB0 hK0 ⊢
  clear hW0 hb0
  refine wpIn_rangeFunc_ownH rfl (by omega) (gf := g) (lb := lb) rfl trivial eg (hseq 4 (by omega)) walksK_t walksK_b hK0 (fun _ => rfl)
    (fun pre W => AppI w pre W ∧ Below w.heap.size w W)
    (fun _ _ _ => False)
    (OwnFrom.and (Own.from (holdsRow_own w.heap.size w.heap.size 36 44 7 (fun pre : List RSm => pre.length) (fun pre => rowS (raw pre)) (fun _ _ => True)) _) (ownFrom_below (Nat.le_refl _) (by omega)))
    (fun _ _ _ _ _ hs _ _ => hs)
    ⟨⟨_, bM, World.ownsRow_nil _ _ _ _, trivial⟩, hB0⟩
    (fun x a' W => ∃ Bx, w.heap.size < Bx ∧ Holds W Bx x.1 ∧ a' = { tmps := #[.slice none 0 0, .func (.func g) #[] lb, .pointer (some ⟨w.heap.size, 0, none⟩), undef, .slice none 0 0, .pointer (some ⟨Bx, 0, none⟩), .func (.func g) #[] lb, .agg #[.int .i64 x.1.fr, .int .i64 x.1.to, .int .i64 x.1.kp, .int .i64 x.1.ad, .int .i64 x.1.t0, .int .i64 x.1.t1, .int .i64 x.1.t2], undef, undef, undef, undef, undef], defers := [] })
    (fun x a' _ X Y row hs hg hr => by
      obtain ⟨Bx, h1, h2, h3⟩ := hs
      refine ⟨Bx, h1, Row.grown h2 hg (fun e => ?_), h3⟩
      obtain ⟨_, o, ho, hc⟩ := hr Bx e.symm
      have h4 : X.heap[Bx]? = _ := h2
      rw [h4] at ho; cases ho; cases hc)
    ?assign ?body ?done ?stop
  case assign =>
    rintro l pre x W K ⟨⟨v, bM1, hr1⟩, hB1⟩ hK
    dsimp only [encS] at *
    unfold Sm.v at *
    gi_wp2
    exact hK _ _ ((KeepsOthers.alloc _ _).from _) (KeepsWalks.alloc W _) ⟨⟨v, bM1.alloc _, hr1.1.alloc _, trivial⟩, hB1.alloc hB1.size _⟩ ⟨W.heap.size, bM1.lt, Holds.made W x.1, rfl⟩
  case body =>
    rintro l pre x a' W hl ⟨r, hr⟩ ⟨⟨v, bM1, hr1, _⟩, hB1⟩ ⟨Bx, hBx, bX, rfl⟩ hlt
    have hsW := hB1.size
    have cM := bM1.cell
    have hBl := bX.lt
    have hml := bM1.lt
    obtain ⟨c0, c1, c2, c3, c4, c5, c6⟩ := bX.cells5
    have hnews := rowS_one_at W x.1
    have hrow := hr1.alloc (.cells #[.int .i64 x.1.fr, .int .i64 x.1.to, .int .i64 x.1.kp, .int .i64 x.1.ad, .int .i64 x.1.t0, .int .i64 x.1.t1, .int .i64 x.1.t2] 44)
    have hlen : rowS (raw pre) ++ rowS [x.1] = rowS (raw (pre ++ [x])) := by rw [← rowS_append]; simp [raw]
    have HB := Lib.hid (And.intro bM1 (And.intro hr1 hB1)); have HROW := Lib.hid hrow; have HN := Lib.hid hnews; have HL := Lib.hid hlen
    clear bM1 hr1 hB1 hrow hnews hr bX hseq eg hB0 hK0 hlen
    gi_wp2_with (gi_at_builtin; refine wpListIn_append_own _ rfl _ _ 36 rfl w.heap.size 44 i0 (.agg #[.int .i64 0, .int .i64 0, .int .i64 0, .int .i64 0, .int .i64 0, .int .i64 0, .int .i64 0]) 7 56 Tryz.underlying36 hi hz0 hz1 hz2 rfl (by decide) v pre.length (rowS (raw pre)) rfl HROW.out ⟨W.heap.size, 0, none⟩ 1 1 (rowS [x.1]) rfl rfl HN.out (rowS_one [x.1]) (by unfold maxLen; omega) (by omega) (by simp; omega) ?_; intro v' w1 hown' hgrow _; obtain ⟨g', cap', rfl⟩ := ownsRow_succ hown'; obtain ⟨hv1, hv2, hr2, hk2, hb2⟩ := (HB.out.1).appended (by decide) HB.out.2.1 hsW (Nat.le_refl _) hown' hgrow; have hc1 := hv1.cell; have hf1 := hv1.frozen)
    rw [HL.out] at hr2
    exact ⟨hk2.from _, hk2.walks, ⟨_, hv2, by rw [List.length_append]; exact hr2, trivial⟩, HB.out.2.2.trans hb2⟩
  case done =>
    rintro D ys W hD hys ⟨⟨v, bM1, hr1, _⟩, hB1⟩ hK
    have cM := bM1.cell
    have HR := Lib.hid hr1; have HB1 := Lib.hid hB1; have HK := Lib.hid hK
    clear hr1 bM1 hB1 hseq eg hB0 hK0 hK
    gi_wp2
    refine ⟨by simp, .inl ⟨_, _, rfl, run_takeDeferred HK.out, ?_⟩⟩
    exact ⟨_, results_tmp rfl _ _ _, ⟨_, ys, rfl, hys, ownsRow_putObj HR.out _ HK.out rfl⟩, HB1.out.trans (belowK_b (w := w) (Nat.le_refl _) W D _ _ (by omega) HK.out rfl rfl)⟩
  case stop =>
    rintro D c pre W _ _ h _
    exact h.elim
theorem collect_any (g N : Nat) (lb : Array Value) (S Sp : List RSm → Prop) (hN : N ≤ 5000000) (w0 w : World) (hb0 : Below w0.heap.size w0 w) (eg : ∀ args w, (callFunc g args).run Tryz.prog w = .ok (.enter g args) w)
    (hseq : ∀ n, 1 ≤ n → SeqStopsK Fence.wide n Tryz.prog g lb encS KeepsWalks S Sp N w0) :
    Calls Tryz.prog 111 #[.func (.func g) #[] lb] w fun e W' => (∃ v xs, e = .returned v ∧ S xs ∧ W'.ownsRow w.heap.size 44 7 v xs.length (rowS (raw xs))) ∧ Below w.heap.size w W' := by
  have H := Lib.hid (appendSeq_any g N lb S Sp hN w0 w hb0 eg hseq)
  clear hseq eg hb0
  go_enter Tryz.func111, Tryz.ntmps111
  go_wp2_with fail
  refine (H.out).mono ?_; rintro e w1 ⟨⟨v, xs, rfl, hS, hr⟩, hb⟩
  have HH := Lib.hid (And.intro hS (And.intro hr hb)); clear hS hr hb
  dsimp only
  go_wp2_with fail
  go_ret
  exact ⟨⟨v, xs, rfl, HH.out.1, HH.out.2.1⟩, HH.out.2.2⟩
end Mx
end

section
namespace Mx
open Go.ChangeShapes Go.WideShapes Go.ChangeAt Go.RowKit Go.BigFrame
set_option maxRecDepth 100000
def orL : List Int → Int
  | [] => 0
  | x :: r => if x = 0 then orL r else x
set_option maxHeartbeats 2000000 in
theorem sliceCmp_any (p q : Nat) (a b : Sm) (w : World) (ha : HoldsM w p 44 a) (hb : HoldsM w q 44 b) :
    Calls Tryz.prog 114 #[.slice (some ⟨p, 4, none⟩) 3 3, .slice (some ⟨q, 4, none⟩) 3 3] w fun e w' => e = .returned (.int .i64 (orL [sgn a.t0 b.t0, sgn a.t1 b.t1, sgn a.t2 b.t2])) ∧ w' = w := by
  have S0 := Lib.hid (cc_same a.t0 b.t0); have S1 := Lib.hid (cc_same a.t1 b.t1); have S2 := Lib.hid (cc_same a.t2 b.t2)
  obtain ⟨-, -, -, -, a4, a5, a6⟩ := ha.cells7
  obtain ⟨-, -, -, -, b4, b5, b6⟩ := hb.cells7
  clear ha hb
  generalize sgn a.t0 b.t0 = s0 at *
  generalize sgn a.t1 b.t1 = s1 at *
  generalize sgn a.t2 b.t2 = s2 at *
  obtain ⟨F, hF⟩ : ∃ F, F = orL [s0, s1, s2] := ⟨_, rfl⟩
  rw [← hF]
  have HF := Lib.hid hF; clear hF
  go_enter Tryz.func114, Tryz.ntmps114
  go_wp2_with fail
  go_loop [11] (fun i => ∃ k : Nat, k ≤ 3 ∧ i = .int .i64 k ∧ (0 < k → s0 = 0) ∧ (1 < k → s1 = 0) ∧ (2 < k → s2 = 0)) (fun i => 3 - (intOf i).toNat)
  case atStart => exact ⟨0, by omega, rfl, by omega, by omega, by omega⟩
  case round =>
    obtain ⟨k, hk, rfl, hs⟩ := hrel
    have HS := Lib.hid hs; clear hs
    have hcase : k = 0 ∨ k = 1 ∨ k = 2 ∨ k = 3 := by omega
    clear hk
    rcases hcase with rfl | rfl | rfl | rfl
    · go_wp2_with fail
      refine (S0.out _).mono ?_; rintro e w' ⟨rfl, rfl⟩
      dsimp only
      by_cases hq : s0 = 0
      · have hq' : (s0 != 0) = false := by simp [hq]
        have HQ := Lib.hid hq; clear hq
        go_wp2_with fail
        go_round
        case rel => exact ⟨1, by omega, rfl, fun _ => HQ.out, by omega, by omega⟩
        case measure => simp [intOf]
      · have hq' : (s0 != 0) = true := by simpa using hq
        have HQ := Lib.hid hq; clear hq
        go_wp2_with fail
        go_ret
        exact ⟨by rw [HF.out]; unfold orL; rw [if_neg HQ.out]; rfl, rfl⟩
    · go_wp2_with fail
      refine (S1.out _).mono ?_; rintro e w' ⟨rfl, rfl⟩
      dsimp only
      by_cases hq : s1 = 0
      · have hq' : (s1 != 0) = false := by simp [hq]
        have HQ := Lib.hid hq; clear hq
        go_wp2_with fail
        go_round
        case rel => exact ⟨2, by omega, rfl, fun _ => HS.out.1 (by omega), fun _ => HQ.out, by omega⟩
        case measure => simp [intOf]
      · have hq' : (s1 != 0) = true := by simpa using hq
        have HQ := Lib.hid hq; clear hq
        go_wp2_with fail
        go_ret
        exact ⟨by rw [HF.out]; unfold orL; rw [if_pos (HS.out.1 (by omega))]; unfold orL; rw [if_neg HQ.out]; rfl, rfl⟩
    · go_wp2_with fail
      refine (S2.out _).mono ?_; rintro e w' ⟨rfl, rfl⟩
      dsimp only
      by_cases hq : s2 = 0
      · have hq' : (s2 != 0) = false := by simp [hq]
        have HQ := Lib.hid hq; clear hq
        go_wp2_with fail
        go_round
        case rel => exact ⟨3, by omega, rfl, fun _ => HS.out.1 (by omega), fun _ => HS.out.2.1 (by omega), fun _ => HQ.out⟩
        case measure => simp [intOf]
      · have hq' : (s2 != 0) = true := by simpa using hq
        have HQ := Lib.hid hq; clear hq
        go_wp2_with fail
        go_ret
        exact ⟨by rw [HF.out]; unfold orL; rw [if_pos (HS.out.1 (by omega))]; unfold orL; rw [if_pos (HS.out.2.1 (by omega))]; unfold orL; rw [if_neg HQ.out]; rfl, rfl⟩
    · go_wp2_with fail
      go_ret
      exact ⟨by rw [HF.out]; unfold orL; rw [if_pos (HS.out.1 (by omega))]; unfold orL; rw [if_pos (HS.out.2.1 (by omega))]; unfold orL; rw [if_pos (HS.out.2.2 (by omega))]; rfl, rfl⟩
set_option maxHeartbeats 2000000 in
theorem or5_any (g : Nat) (s0 s1 s2 s3 s4 : Int) (w : World) (ty : TypeId) (hr : Row w g ty [.int .i64 s0, .int .i64 s1, .int .i64 s2, .int .i64 s3, .int .i64 s4]) :
    Calls Tryz.prog 106 #[.slice (some ⟨g, 0, none⟩) 5 5] w fun e w' => e = .returned (.int .i64 (orL [s0, s1, s2, s3, s4])) ∧ w = w' := by
  have c0 := hr.cell 0; have c1 := hr.cell 1; have c2 := hr.cell 2; have c3 := hr.cell 3; have c4 := hr.cell 4
  simp only [List.getElem?_cons_succ, List.getElem?_cons_zero] at c0 c1 c2 c3 c4
  clear hr
  obtain ⟨F, hF⟩ : ∃ F, F = orL [s0, s1, s2, s3, s4] := ⟨_, rfl⟩
  rw [← hF]
  have HF := Lib.hid hF; clear hF
  go_enter Tryz.func106, Tryz.ntmps106
  go_wp2_with fail
  go_loop [5, 8] (fun c i => ∃ k : Nat, k ≤ 5 ∧ i = .int .i64 k ∧ (0 < k → s0 = 0) ∧ (1 < k → s1 = 0) ∧ (2 < k → s2 = 0) ∧ (3 < k → s3 = 0) ∧ (4 < k → s4 = 0)) (fun c i => 5 - (intOf i).toNat)
  case atStart => exact ⟨0, by omega, rfl, by omega, by omega, by omega, by omega, by omega⟩
  case round =>
    obtain ⟨k, hk, rfl, hs⟩ := hrel
    have HS := Lib.hid hs; clear hs
    have hcase : k = 0 ∨ k = 1 ∨ k = 2 ∨ k = 3 ∨ k = 4 ∨ k = 5 := by omega
    clear hk
    rcases hcase with rfl | rfl | rfl | rfl | rfl | rfl
    · by_cases hq : s0 = 0
      · have hq' : (s0 != 0) = false := by simp [hq]
        have HQ := Lib.hid hq; clear hq
        go_wp2_with fail
        go_round
        case rel => exact ⟨1, by omega, rfl, fun _ => HQ.out, by omega, by omega, by omega, by omega⟩
        case measure => simp [intOf]
      · have hq' : (s0 != 0) = true := by simpa using hq
        have HQ := Lib.hid hq; clear hq
        go_wp2_with fail
        go_ret
        exact ⟨by rw [HF.out]; unfold orL; rw [if_neg HQ.out]; rfl, rfl⟩
    · by_cases hq : s1 = 0
      · have hq' : (s1 != 0) = false := by simp [hq]
        have HQ := Lib.hid hq; clear hq
        go_wp2_with fail
        go_round
        case rel => exact ⟨2, by omega, rfl, fun _ => HS.out.1 (by omega), fun _ => HQ.out, by omega, by omega, by omega⟩
        case measure => simp [intOf]
      · have hq' : (s1 != 0) = true := by simpa using hq
        have HQ := Lib.hid hq; clear hq
        go_wp2_with fail
        go_ret
        exact ⟨by rw [HF.out]; unfold orL; rw [if_pos (HS.out.1 (by omega))]; unfold orL; rw [if_neg HQ.out]; rfl, rfl⟩
    · by_cases hq : s2 = 0
      · have hq' : (s2 != 0) = false := by simp [hq]
        have HQ := Lib.hid hq; clear hq
        go_wp2_with fail
        go_round
        case rel => exact ⟨3, by omega, rfl, fun _ => HS.out.1 (by omega), fun _ => HS.out.2.1 (by omega), fun _ => HQ.out, by omega, by omega⟩
        case measure => simp [intOf]
      · have hq' : (s2 != 0) = true := by simpa using hq
        have HQ := Lib.hid hq; clear hq
        go_wp2_with fail
        go_ret
        exact ⟨by rw [HF.out]; unfold orL; rw [if_pos (HS.out.1 (by omega))]; unfold orL; rw [if_pos (HS.out.2.1 (by omega))]; unfold orL; rw [if_neg HQ.out]; rfl, rfl⟩
    · by_cases hq : s3 = 0
      · have hq' : (s3 != 0) = false := by simp [hq]
        have HQ := Lib.hid hq; clear hq
        go_wp2_with fail
        go_round
        case rel => exact ⟨4, by omega, rfl, fun _ => HS.out.1 (by omega), fun _ => HS.out.2.1 (by omega), fun _ => HS.out.2.2.1 (by omega), fun _ => HQ.out, by omega⟩
        case measure => simp [intOf]
      · have hq' : (s3 != 0) = true := by simpa using hq
        have HQ := Lib.hid hq; clear hq
        go_wp2_with fail
        go_ret
        exact ⟨by rw [HF.out]; unfold orL; rw [if_pos (HS.out.1 (by omega))]; unfold orL; rw [if_pos (HS.out.2.1 (by omega))]; unfold orL; rw [if_pos (HS.out.2.2.1 (by omega))]; unfold orL; rw [if_neg HQ.out]; rfl, rfl⟩
    · by_cases hq : s4 = 0
      · have hq' : (s4 != 0) = false := by simp [hq]
        have HQ := Lib.hid hq; clear hq
        go_wp2_with fail
        go_round
        case rel => exact ⟨5, by omega, rfl, fun _ => HS.out.1 (by omega), fun _ => HS.out.2.1 (by omega), fun _ => HS.out.2.2.1 (by omega), fun _ => HS.out.2.2.2.1 (by omega), fun _ => HQ.out⟩
        case measure => simp [intOf]
      · have hq' : (s4 != 0) = true := by simpa using hq
        have HQ := Lib.hid hq; clear hq
        go_wp2_with fail
        go_ret
        exact ⟨by rw [HF.out]; unfold orL; rw [if_pos (HS.out.1 (by omega))]; unfold orL; rw [if_pos (HS.out.2.1 (by omega))]; unfold orL; rw [if_pos (HS.out.2.2.1 (by omega))]; unfold orL; rw [if_pos (HS.out.2.2.2.1 (by omega))]; unfold orL; rw [if_neg HQ.out]; rfl, rfl⟩
    · go_wp2_with fail
      go_ret
      exact ⟨by rw [HF.out]; unfold orL; rw [if_pos (HS.out.1 (by omega))]; unfold orL; rw [if_pos (HS.out.2.1 (by omega))]; unfold orL; rw [if_pos (HS.out.2.2.1 (by omega))]; unfold orL; rw [if_pos (HS.out.2.2.2.1 (by omega))]; unfold orL; rw [if_pos (HS.out.2.2.2.2 (by omega))]; rfl, rfl⟩
def _root_.Go.Proofs.YtmhophmpbpbjaaaGreatDoor.Sm.C (a b : Sm) : Int := orL [sgn a.fr b.fr, sgn a.to b.to, sgn a.kp b.kp, sgn a.ad b.ad, orL [sgn a.t0 b.t0, sgn a.t1 b.t1, sgn a.t2 b.t2]]
theorem orL_neg {x : Int} {r : List Int} : orL (x :: r) < 0 ↔ x < 0 ∨ x = 0 ∧ orL r < 0 := by
  rw [orL]; split <;> omega
theorem orL_zero {x : Int} {r : List Int} : orL (x :: r) = 0 ↔ x = 0 ∧ orL r = 0 := by
  rw [orL]; split <;> omega
theorem sgn_neg {a b : Int} : sgn a b < 0 ↔ a < b := by
  rcases sgn_cases a b with ⟨h, e⟩ | ⟨h, e⟩ | ⟨h, e⟩ <;> rw [e] <;> simp <;> omega
theorem C_neg {a b : Sm} : a.C b < 0 ↔ a.A b := by
  unfold Sm.C Sm.A
  rw [orL_neg, orL_neg, orL_neg, orL_neg, orL_neg, orL_neg, orL_neg, orL_neg, sgn_neg, sgn_neg, sgn_neg, sgn_neg, sgn_neg, sgn_neg, sgn_neg, sgn_zero, sgn_zero, sgn_zero, sgn_zero, sgn_zero, sgn_zero, sgn_zero]
  have h0 : orL [] = 0 := rfl
  rw [h0]
  omega
theorem _root_.Go.Proofs.YtmhophmpbpbjaaaGreatDoor.Sm.C_zero {a b : Sm} : a.C b = 0 ↔ a = b := by
  unfold Sm.C
  rw [orL_zero, orL_zero, orL_zero, orL_zero, orL_zero, orL_zero, orL_zero, orL_zero, sgn_zero, sgn_zero, sgn_zero, sgn_zero, sgn_zero, sgn_zero, sgn_zero, Sm.ext_iff']
  have h0 : orL [] = 0 := rfl
  simp [h0]
theorem _root_.Go.Proofs.YtmhophmpbpbjaaaGreatDoor.Sm.C_swap {a b : Sm} : a.C b = - b.C a := by
  unfold Sm.C
  rw [sgn_swap a.fr b.fr, sgn_swap a.to b.to, sgn_swap a.kp b.kp, sgn_swap a.ad b.ad, sgn_swap a.t0 b.t0, sgn_swap a.t1 b.t1, sgn_swap a.t2 b.t2]
  generalize sgn b.fr a.fr = s1
  generalize sgn b.to a.to = s2
  generalize sgn b.kp a.kp = s3
  generalize sgn b.ad a.ad = s4
  generalize sgn b.t0 a.t0 = s5
  generalize sgn b.t1 a.t1 = s6
  generalize sgn b.t2 a.t2 = s7
  simp only [orL]
  repeat' split
  all_goals omega
theorem _root_.Go.Proofs.YtmhophmpbpbjaaaGreatDoor.Sm.C_lt_trans {a b c : Sm} (h1 : a.C b < 0) (h2 : b.C c < 0) : a.C c < 0 := by
  rw [C_neg] at *; exact Sm.A_trans h1 h2
theorem _root_.Go.Proofs.YtmhophmpbpbjaaaGreatDoor.Sm.C_trans {a b c : Sm} (h1 : a.C b ≤ 0) (h2 : b.C c ≤ 0) : a.C c ≤ 0 := by
  rcases Int.lt_or_eq_of_le h1 with h3 | h3
  · rcases Int.lt_or_eq_of_le h2 with h4 | h4
    · exact Int.le_of_lt (Sm.C_lt_trans h3 h4)
    · rw [Sm.C_zero] at h4; subst h4; exact h1
  · rw [Sm.C_zero] at h3; subst h3; exact h2
set_option maxHeartbeats 4000000 in
theorem compare_grew (a b : Sm) (w : World) : Calls Tryz.prog 61 #[a.v, b.v] w fun e w' => e = .returned (.int .i64 (a.C b)) ∧ Grew w w' := by
  have hsc := fun (p q : Nat) (w : World) => sliceCmp_any p q a b w
  have hor := fun (g : Nat) (w : World) (ty : TypeId) => or5_any g (sgn a.fr b.fr) (sgn a.to b.to) (sgn a.kp b.kp) (sgn a.ad b.ad) (orL [sgn a.t0 b.t0, sgn a.t1 b.t1, sgn a.t2 b.t2]) w ty
  rw [show orL [sgn a.fr b.fr, sgn a.to b.to, sgn a.kp b.kp, sgn a.ad b.ad, orL [sgn a.t0 b.t0, sgn a.t1 b.t1, sgn a.t2 b.t2]] = a.C b from rfl] at hor
  have S0 := Lib.hid (cc_same a.fr b.fr); have S1 := Lib.hid (cc_same a.to b.to); have S2 := Lib.hid (cc_same a.kp b.kp); have S3 := Lib.hid (cc_same a.ad b.ad)
  generalize sgn a.fr b.fr = s0 at *
  generalize sgn a.to b.to = s1 at *
  generalize sgn a.kp b.kp = s2 at *
  generalize sgn a.ad b.ad = s3 at *
  generalize orL [sgn a.t0 b.t0, sgn a.t1 b.t1, sgn a.t2 b.t2] = s4 at *
  generalize a.C b = R at *
  have h2 := Two2.made w 44 a b
  have hg : Grew w ((w.alloc (.cells #[.int .i64 a.fr, .int .i64 a.to, .int .i64 a.kp, .int .i64 a.ad, .int .i64 a.t0, .int .i64 a.t1, .int .i64 a.t2] 44)).alloc (.cells #[.int .i64 b.fr, .int .i64 b.to, .int .i64 b.kp, .int .i64 b.ad, .int .i64 b.t0, .int .i64 b.t1, .int .i64 b.t2] 44)) := ((Grew.refl w).alloc _).alloc _
  have H2 := Lib.hid h2; have HG := Lib.hid hg; have SC := Lib.hid hsc; have OR := Lib.hid hor; clear h2 hg hsc hor
  unfold Sm.v
  go_enter Tryz.func61, Tryz.ntmps61
  go_wp2_with fail
  refine wp_tail 25 (by kernel_rfl) (by kernel_rfl) ?_
  simp only [List.take_succ_cons, List.take_zero, List.drop_succ_cons, List.drop_zero]
  have k1 : HoldsM (((w.alloc (.cells #[.int .i64 a.fr, .int .i64 a.to, .int .i64 a.kp, .int .i64 a.ad, .int .i64 a.t0, .int .i64 a.t1, .int .i64 a.t2] 44)).alloc (.cells #[.int .i64 b.fr, .int .i64 b.to, .int .i64 b.kp, .int .i64 b.ad, .int .i64 b.t0, .int .i64 b.t1, .int .i64 b.t2] 44)).drewN 1) w.heap.size 44 a := HoldsM.drewN H2.out.1 1
  have k2 : HoldsM (((w.alloc (.cells #[.int .i64 a.fr, .int .i64 a.to, .int .i64 a.kp, .int .i64 a.ad, .int .i64 a.t0, .int .i64 a.t1, .int .i64 a.t2] 44)).alloc (.cells #[.int .i64 b.fr, .int .i64 b.to, .int .i64 b.kp, .int .i64 b.ad, .int .i64 b.t0, .int .i64 b.t1, .int .i64 b.t2] 44)).drewN 1) (w.heap.size + 1) 44 b := HoldsM.drewN H2.out.2 1
  have hgd := HG.out.drewN 1
  have hsz : (((w.alloc (.cells #[.int .i64 a.fr, .int .i64 a.to, .int .i64 a.kp, .int .i64 a.ad, .int .i64 a.t0, .int .i64 a.t1, .int .i64 a.t2] 44)).alloc (.cells #[.int .i64 b.fr, .int .i64 b.to, .int .i64 b.kp, .int .i64 b.ad, .int .i64 b.t0, .int .i64 b.t1, .int .i64 b.t2] 44)).drewN 1).heap.size = w.heap.size + 1 + 1 := by simp
  generalize ((w.alloc (.cells #[.int .i64 a.fr, .int .i64 a.to, .int .i64 a.kp, .int .i64 a.ad, .int .i64 a.t0, .int .i64 a.t1, .int .i64 a.t2] 44)).alloc (.cells #[.int .i64 b.fr, .int .i64 b.to, .int .i64 b.kp, .int .i64 b.ad, .int .i64 b.t0, .int .i64 b.t1, .int .i64 b.t2] 44)).drewN 1 = W at *
  obtain ⟨a0, a1, a2, a3, a4, a5, a6⟩ := k1.cells7
  obtain ⟨b0, b1, b2, b3, b4, b5, b6⟩ := k2.cells7
  have K := Lib.hid (And.intro k1 (And.intro k2 hgd)); have HSZ := Lib.hid hsz; clear k1 k2 hgd H2 HG hsz
  still_step
  still_step
  still_step
  still_step
  still_call (S0.out _)
  still_step
  still_step
  still_step
  still_step
  still_call (S1.out _)
  still_step
  still_step
  still_step
  still_step
  still_call (S2.out _)
  still_step
  still_step
  still_step
  still_step
  still_call (S3.out _)
  still_step
  still_step
  still_step
  still_step
  still_call (SC.out _ _ _ K.out.1 K.out.2.1)
  refine wpStill_nil ?_
  clear a0 a1 a2 a3 a4 a5 a6 b0 b1 b2 b3 b4 b5 b6 S0 S1 S2 S3 SC
  go_wp2_with fail
  refine (OR.out _ _ _ (Row.made W _ _)).mono ?_; rintro e w' ⟨rfl, rfl⟩
  dsimp only
  go_wp2_with fail
  go_ret
  exact ⟨rfl, K.out.2.2.alloc _⟩
end Mx
end
end Go.Proofs.YtmhophmpbpbjaaaGreatDoor
