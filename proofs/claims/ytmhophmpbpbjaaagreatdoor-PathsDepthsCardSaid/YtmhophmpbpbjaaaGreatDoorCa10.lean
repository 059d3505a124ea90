/- PlTT, SmEq, PaEq, PaHas, PaFeeds, SmOfR, SmThenN, SmThenR, Key, Put, PaAll, PlNode, PlStep -/
import Derived.Test.YtmhophmpbpbjaaaGreatDoorCa7
import Derived.Test.YtmhophmpbpbjaaaGreatDoorCa9
import Derived.Test.YtmhophmpbpbjaaaGreatDoorCa8
import Derived.Deep.Onto
import Derived.Test.YtmhophmpbpbjaaaGreatDoorCa1
import Derived.Test.YtmhophmpbpbjaaaGreatDoorCa6
import Derived.Laws.StructEq
import Derived.Test.YtmhophmpbpbjaaaGreatDoorCa0
import Derived.Lib.Hide
import Derived.Deep.DeepCutAuto
import Derived.Deep.CutRange
import Derived.Test.YtmhophmpbpbjaaaGreatDoorCa4
import Derived.Test.YtmhophmpbpbjaaaGreatDoorCa5
import Derived.RegionCalls
namespace Go.Proofs.YtmhophmpbpbjaaaGreatDoor
set_option linter.unusedVariables false
section
open Go.ChangeShapes Go.WideShapes Go.ChangeAt Go.RowKit Go.BigFrame
set_option maxRecDepth 100000
structure Sl where
  A : Option Addr
  n : Nat
  c : Nat
@[reducible] def Sl.v (s : Sl) : Value := .slice s.A s.n s.c
def slv (vs : List Sl) : List Value := vs.map Sl.v
theorem slv_at {vs : List Sl} {i : Nat} {s : Sl} (h : vs[i]? = some s) : (slv vs)[i]? = some s.v := by unfold slv; rw [List.getElem?_map, h]; rfl
theorem slv_set (vs : List Sl) (i : Nat) (s : Sl) : slv (vs.set i s) = (slv vs).set i s.v := by unfold slv; exact List.map_set
structure TT (w : World) (base B : Nat) (vs : List Sl) (T : List (List Sm)) : Prop where
  row : Row w B 36 (slv vs)
  lo : base ≤ B
  len : vs.length = T.length
  own : ∀ (j : Nat) (s : Sl) (l : List Sm), vs[j]? = some s → T[j]? = some l → w.ownsRow base 44 7 s.v l.length (Mx.rowS l)
  apart : ∀ (j k : Nat) (s t : Sl), j ≠ k → vs[j]? = some s → vs[k]? = some t → s.v.ownBlock = none ∨ s.v.ownBlock ≠ t.v.ownBlock
def TOff (vs : List Sl) (g : Nat) : Prop := ∀ (j : Nat) (s : Sl), vs[j]? = some s → s.v.ownBlock ≠ some g
section
variable {w w' w1 w2 : World} {base B i : Nat} {vs : List Sl} {T : List (List Sm)} {s : Sl} {l : List Sm}
theorem own_apartM {b n : Nat} {t : TypeId} {v : Value} {us : List Value} (h : w.ownsRow base 44 7 v n (Mx.rowS l)) (hr : Row w b t us) (ht : t ≠ 44) : v.ownBlock = none ∨ v.ownBlock ≠ some b := by
  have := Rw.own_apart h hr ht
  exact .inr fun e => this e.symm
theorem own_keptM {n : Nat} {v : Value} (h : w.ownsRow base 44 7 v n (Mx.rowS l)) (hb : Below w.heap.size w w') : w'.ownsRow base 44 7 v n (Mx.rowS l) := Rw.own_kept h hb
theorem TT.below (h : TT w base B vs T) (hb : Below w.heap.size w w') : TT w' base B vs T :=
  ⟨h.row.below hb h.row.lt, h.lo, h.len, fun j s l hs hl => Rw.own_kept (h.own j s l hs hl) hb, h.apart⟩
theorem TT.alloc (h : TT w base B vs T) (o : Obj) : TT (w.alloc o) base B vs T := h.below ((Below.refl _ _).alloc (Nat.le_refl _) _)
theorem TT.grown {row : Option Nat} (h : TT w base B vs T) (hg : w.grownBy w' row) (hB : row ≠ some B) (ho : ∀ (j : Nat) (s : Sl), vs[j]? = some s → s.v.ownBlock = none ∨ s.v.ownBlock ≠ row) : TT w' base B vs T :=
  ⟨h.row.grown hg (fun e => hB e.symm), h.lo, h.len, fun j s l hs hl => (h.own j s l hs hl).kept hg (ho j s hs), h.apart⟩
theorem TT.lt (h : TT w base B vs T) {j : Nat} {s : Sl} (hs : vs[j]? = some s) : ∀ k, s.v.ownBlock = some k → base ≤ k ∧ k < w.heap.size := by
  obtain ⟨l, hl⟩ : ∃ l, T[j]? = some l := ⟨_, List.getElem?_eq_getElem (by have := (List.getElem?_eq_some_iff.1 hs).1; have := h.len; omega)⟩
  exact (h.own j s l hs hl).lt
theorem TT.off_new (h : TT w base B vs T) : TOff vs w.heap.size := fun j s hs e => by
  have := (h.lt hs _ e).2; omega
theorem TT.get (h : TT w base B vs T) (hl : T[i]? = some l) : ∃ s, vs[i]? = some s ∧ s.n = l.length ∧ w.ownsRow base 44 7 s.v l.length (Mx.rowS l) ∧ w.cell? ⟨B, i, none⟩ = some s.v := by
  obtain ⟨s, hs⟩ : ∃ s, vs[i]? = some s := ⟨_, List.getElem?_eq_getElem (by have := (List.getElem?_eq_some_iff.1 hl).1; have := h.len; omega)⟩
  have ho := h.own i s l hs hl
  refine ⟨s, hs, ?_, ho, by rw [h.row.cell]; exact slv_at hs⟩
  rcases ho.2 with ⟨e, h0⟩ | ⟨g, cap, cur, e, _⟩
  · injection e with e1 e2 e3
    rw [e2, h0]
  · injection e with e1 e2 e3
theorem TT.step (h : TT w base B vs T) (hs : vs[i]? = some s) (hl : T[i]? = some l) (hg : w.grownBy w1 s.v.ownBlock) (hb : Below w1.heap.size w1 w2) {s2 : Sl} {l2 : List Sm} (hn : w2.ownsRow w1.heap.size 44 7 s2.v l2.length (Mx.rowS l2)) (hbase : base ≤ w.heap.size) :
    TT (w2.setCell ⟨B, i, none⟩ s2.v) base B (vs.set i s2) (T.set i l2) := by
  have hiv : i < vs.length := (List.getElem?_eq_some_iff.1 hs).1
  have hiT : i < T.length := (List.getElem?_eq_some_iff.1 hl).1
  have hB : s.v.ownBlock ≠ some B := fun e => by
    rcases own_apartM (h.own i s l hs hl) h.row (by decide) with e2 | e2
    · rw [e2] at e; cases e
    · exact e2 e
  have hr1 : Row w1 B 36 (slv vs) := h.row.grown hg (fun e => hB e.symm)
  have hr2 : Row w2 B 36 (slv vs) := hr1.below hb hr1.lt
  have hset := grown_set w2 B i s2.v
  have hnB : s2.v.ownBlock = none ∨ s2.v.ownBlock ≠ some B := own_apartM hn hr2 (by decide)
  have hnew : ∀ k, s2.v.ownBlock = some k → w.heap.size ≤ k := fun k e => Nat.le_trans hg.size (hn.lt k e).1
  refine ⟨by rw [slv_set]; exact hr2.put i s2.v, h.lo, by rw [List.length_set, List.length_set]; exact h.len, fun j s' l' hs' hl' => ?_, fun j k s' t' hjk hs' ht' => ?_⟩
  · by_cases e : i = j
    · subst e
      rw [List.getElem?_set_self hiv] at hs'
      rw [List.getElem?_set_self hiT] at hl'
      cases hs'; cases hl'
      exact (hn.mono (Nat.le_trans hbase hg.size)).kept hset hnB
    · rw [List.getElem?_set_ne e] at hs' hl'
      have h1 := (h.own j s' l' hs' hl').kept hg (h.apart j i s' s (fun e2 => e e2.symm) hs' hs)
      have h2 : w2.ownsRow base 44 7 s'.v l'.length (Mx.rowS l') := Rw.own_kept h1 hb
      exact h2.kept hset (own_apartM h2 hr2 (by decide))
  · by_cases e : i = j
    · subst e
      rw [List.getElem?_set_self hiv] at hs'
      cases hs'
      rw [List.getElem?_set_ne hjk] at ht'
      cases hv : s2.v.ownBlock with
      | none => exact .inl rfl
      | some b =>
        right
        intro e2
        have h1 := hnew b hv
        have h2 := (h.lt ht' b e2.symm).2
        omega
    · rw [List.getElem?_set_ne e] at hs'
      by_cases e3 : i = k
      · subst e3
        rw [List.getElem?_set_self hiv] at ht'
        cases ht'
        cases hv : s'.v.ownBlock with
        | none => exact .inl rfl
        | some b =>
          right
          intro e2
          have h1 := hnew b e2.symm
          have h2 := (h.lt hs' b hv).2
          omega
      · rw [List.getElem?_set_ne e3] at ht'
        exact h.apart j k s' t' hjk hs' ht'
theorem TOff.set {g : Nat} (h : TOff vs g) {s2 : Sl} (hn : s2.v.ownBlock ≠ some g) : TOff (vs.set i s2) g := fun j s hs => by
  by_cases e : i = j
  · subst e
    by_cases hi : i < vs.length
    · rw [List.getElem?_set_self hi] at hs; cases hs; exact hn
    · rw [List.getElem?_eq_none (by rw [List.length_set]; omega)] at hs; cases hs
  · rw [List.getElem?_set_ne e] at hs; exact h j s hs
theorem TT.start {n : Nat} (h : Row w B 36 (List.replicate n (.slice none 0 0))) (hB : base ≤ B) : TT w base B (List.replicate n ⟨none, 0, 0⟩) (List.replicate n []) := by
  refine ⟨by unfold slv; rw [List.map_replicate]; exact h, hB, by rw [List.length_replicate, List.length_replicate], fun j s l hs hl => ?_, fun j k s t _ hs _ => ?_⟩
  · have h1 := List.mem_of_getElem? hs
    have h2 := List.mem_of_getElem? hl
    rw [List.mem_replicate] at h1 h2
    rw [h1.2, h2.2]
    exact World.ownsRow_nil _ _ _ _
  · have h1 := List.mem_of_getElem? hs
    rw [List.mem_replicate] at h1
    rw [h1.2]
    exact .inl rfl
end
def kindW : Kind (Nat × Sm) := ⟨fun a => [.int .i64 (a.1 : Nat), .int .i64 a.2.fr, .int .i64 a.2.to, .int .i64 a.2.kp, .int .i64 a.2.ad, .int .i64 a.2.t0, .int .i64 a.2.t1, .int .i64 a.2.t2], 8, fun _ => rfl, fun t u hu => by
  simp only [List.mem_cons, List.not_mem_nil, or_false] at hu
  rcases hu with rfl | rfl | rfl | rfl | rfl | rfl | rfl | rfl <;> rfl, by decide⟩
theorem infoWay : (Tryz.prog.info? 182).map (fun i => (i.zero, i.size, i.bytes)) = some (some (.agg #[.int .i64 0, .int .i64 0, .int .i64 0, .int .i64 0, .int .i64 0, .int .i64 0, .int .i64 0, .int .i64 0]), 8, 64) := by kernel_rfl
theorem infoSums : (Tryz.prog.info? 36).map (fun i => (i.zero, i.size, i.bytes)) = some (some (.slice none 0 0), 1, 24) := by kernel_rfl
end

section
open Go.ChangeShapes Go.WideShapes Go.ChangeAt Go.RowKit Go.BigFrame
set_option maxRecDepth 100000
def eqS (a b : Sm) : Bool := decide (a = b)
theorem cells_sum : Tryz.prog.cellsOf 44 = 7 := by kernel_rfl
end

section
open Go.ChangeShapes Go.WideShapes Go.ChangeAt Go.RowKit Go.BigFrame
set_option maxRecDepth 100000
end

section
open Go.ChangeShapes Go.WideShapes Go.ChangeAt Go.RowKit Go.BigFrame
set_option maxRecDepth 100000
def kindS : Kind Sm := ⟨Sm.cells, 7, fun _ => rfl, fun t u hu => by
  simp only [Sm.cells, List.mem_cons, List.not_mem_nil, or_false] at hu
  rcases hu with rfl | rfl | rfl | rfl | rfl | rfl | rfl <;> rfl, by decide⟩
end

section
open Go.ChangeShapes Go.WideShapes Go.ChangeAt Go.RowKit Go.BigFrame
set_option maxRecDepth 100000
end

section
open Go.ChangeShapes Go.WideShapes Go.ChangeAt Go.RowKit Go.BigFrame
set_option maxRecDepth 100000
end

section
open Go.ChangeShapes Go.WideShapes Go.ChangeAt Go.RowKit Go.BigFrame
set_option maxRecDepth 100000
set_option maxHeartbeats 1000000 in
theorem then_A (a b : Sm) (w : World) (h : ¬ a.R) : Calls Tryz.prog 29 #[a.v, b.v] w fun e w' => e = .returned (.tuple #[(a.th b).v, .bool (a.thB b)]) ∧ Below w.heap.size w w' := by
  obtain ⟨q1, q2⟩ := Sm.th_no (a := a) (b := b) (fun g => h g.1)
  rw [q1, q2]; clear q1 q2
  have h3 := Tri2.made w 44 a b
  have hbw := below_alloc3 w (.cells #[.int .i64 a.fr, .int .i64 a.to, .int .i64 a.kp, .int .i64 a.ad, .int .i64 a.t0, .int .i64 a.t1, .int .i64 a.t2] 44) (.cells #[.int .i64 b.fr, .int .i64 b.to, .int .i64 b.kp, .int .i64 b.ad, .int .i64 b.t0, .int .i64 b.t1, .int .i64 b.t2] 44) (.cells #[.int .i64 0, .int .i64 0, .int .i64 0, .int .i64 0, .int .i64 0, .int .i64 0, .int .i64 0] 44)
  have H3 := Lib.hid h3; have HB := Lib.hid hbw; clear h3 hbw
  have r1 := fun w => rightM_false h w
  have R1 := Lib.hid r1; clear r1
  clear h
  unfold Sm.v at *
  go_enter Tryz.func29, Tryz.ntmps29
  go_wp2_with fail
  refine (R1.out _).mono ?_; rintro e w2 ⟨rfl, hb2⟩
  have k3 := H3.out.below hb2
  have kb := HB.out.trans (hb2.mono HB.out.size); clear H3 HB
  have H3 := Lib.hid k3; have HB := Lib.hid kb; clear k3 kb hb2
  obtain ⟨f0, f1, f2, f3, f4, f5, f6⟩ := H3.out.2.2.free7
  obtain ⟨z0, z1, z2, z3, z4, z5, z6⟩ := H3.out.2.2.cells7
  go_wp2_with fail
  refine bodyPost_ret (v := .tuple #[.agg #[.int .i64 0, .int .i64 0, .int .i64 0, .int .i64 0, .int .i64 0, .int .i64 0, .int .i64 0], .bool false]) (two_results rfl _ _ _ 44 _ (0, 0) _ rfl (row_set7 H3.out.2.2) Tryz.underlying44 rfl (by kernel_rfl) rfl) rfl ?_
  exact ⟨rfl, below_set7 HB.out (by omega)⟩
set_option maxHeartbeats 1000000 in
theorem then_B (a b : Sm) (w : World) (h : a.R) (h2 : ¬ b.R) : Calls Tryz.prog 29 #[a.v, b.v] w fun e w' => e = .returned (.tuple #[(a.th b).v, .bool (a.thB b)]) ∧ Below w.heap.size w w' := by
  obtain ⟨q1, q2⟩ := Sm.th_no (a := a) (b := b) (fun g => h2 g.2.1)
  rw [q1, q2]; clear q1 q2
  have h3 := Tri2.made w 44 a b
  have hbw := below_alloc3 w (.cells #[.int .i64 a.fr, .int .i64 a.to, .int .i64 a.kp, .int .i64 a.ad, .int .i64 a.t0, .int .i64 a.t1, .int .i64 a.t2] 44) (.cells #[.int .i64 b.fr, .int .i64 b.to, .int .i64 b.kp, .int .i64 b.ad, .int .i64 b.t0, .int .i64 b.t1, .int .i64 b.t2] 44) (.cells #[.int .i64 0, .int .i64 0, .int .i64 0, .int .i64 0, .int .i64 0, .int .i64 0, .int .i64 0] 44)
  have H3 := Lib.hid h3; have HB := Lib.hid hbw; clear h3 hbw
  have r1 := fun w => rightM_true h w
  have r2 := fun w => rightM_false h2 w
  have R1 := Lib.hid r1; have R2 := Lib.hid r2; clear r1 r2
  clear h h2
  unfold Sm.v at *
  go_enter Tryz.func29, Tryz.ntmps29
  go_wp2_with fail
  refine (R1.out _).mono ?_; rintro e w2 ⟨rfl, hb2⟩
  have k3 := H3.out.below hb2
  have kb := HB.out.trans (hb2.mono HB.out.size); clear H3 HB
  have H3 := Lib.hid k3; have HB := Lib.hid kb; clear k3 kb hb2
  obtain ⟨a0, a1, a2, a3, a4, a5, a6⟩ := H3.out.1.cells7
  obtain ⟨b0, b1, b2, b3, b4, b5, b6⟩ := H3.out.2.1.cells7
  go_wp2_with fail
  clear a0 a1 a2 a3 a4 a5 a6 b0 b1 b2 b3 b4 b5 b6
  refine (R2.out _).mono ?_; rintro e w3 ⟨rfl, hb3⟩
  have k3 := H3.out.below hb3
  have kb := HB.out.trans (hb3.mono HB.out.size); clear H3 HB
  have H3 := Lib.hid k3; have HB := Lib.hid kb; clear k3 kb hb3
  obtain ⟨f0, f1, f2, f3, f4, f5, f6⟩ := H3.out.2.2.free7
  obtain ⟨z0, z1, z2, z3, z4, z5, z6⟩ := H3.out.2.2.cells7
  go_wp2_with fail
  refine bodyPost_ret (v := .tuple #[.agg #[.int .i64 0, .int .i64 0, .int .i64 0, .int .i64 0, .int .i64 0, .int .i64 0, .int .i64 0], .bool false]) (two_results rfl _ _ _ 44 _ (0, 0) _ rfl (row_set7 H3.out.2.2) Tryz.underlying44 rfl (by kernel_rfl) rfl) rfl ?_
  exact ⟨rfl, below_set7 HB.out (by omega)⟩
set_option maxHeartbeats 1000000 in
theorem then_C (a b : Sm) (w : World) (h : a.R) (h2 : b.R) (hd : ¬ a.to = b.fr) : Calls Tryz.prog 29 #[a.v, b.v] w fun e w' => e = .returned (.tuple #[(a.th b).v, .bool (a.thB b)]) ∧ Below w.heap.size w w' := by
  obtain ⟨q1, q2⟩ := Sm.th_no (a := a) (b := b) (fun g => hd g.2.2.1)
  rw [q1, q2]; clear q1 q2
  have h3 := Tri2.made w 44 a b
  have hbw := below_alloc3 w (.cells #[.int .i64 a.fr, .int .i64 a.to, .int .i64 a.kp, .int .i64 a.ad, .int .i64 a.t0, .int .i64 a.t1, .int .i64 a.t2] 44) (.cells #[.int .i64 b.fr, .int .i64 b.to, .int .i64 b.kp, .int .i64 b.ad, .int .i64 b.t0, .int .i64 b.t1, .int .i64 b.t2] 44) (.cells #[.int .i64 0, .int .i64 0, .int .i64 0, .int .i64 0, .int .i64 0, .int .i64 0, .int .i64 0] 44)
  have H3 := Lib.hid h3; have HB := Lib.hid hbw; clear h3 hbw
  have r1 := fun w => rightM_true h w
  have r2 := fun w => rightM_true h2 w
  have hn : (a.to != b.fr) = true := by simpa using hd
  have R1 := Lib.hid r1; have R2 := Lib.hid r2; clear r1 r2
  clear h h2 hd
  unfold Sm.v at *
  go_enter Tryz.func29, Tryz.ntmps29
  go_wp2_with fail
  refine (R1.out _).mono ?_; rintro e w2 ⟨rfl, hb2⟩
  have k3 := H3.out.below hb2
  have kb := HB.out.trans (hb2.mono HB.out.size); clear H3 HB
  have H3 := Lib.hid k3; have HB := Lib.hid kb; clear k3 kb hb2
  obtain ⟨a0, a1, a2, a3, a4, a5, a6⟩ := H3.out.1.cells7
  obtain ⟨b0, b1, b2, b3, b4, b5, b6⟩ := H3.out.2.1.cells7
  go_wp2_with fail
  clear a0 a1 a2 a3 a4 a5 a6 b0 b1 b2 b3 b4 b5 b6
  refine (R2.out _).mono ?_; rintro e w3 ⟨rfl, hb3⟩
  have k3 := H3.out.below hb3
  have kb := HB.out.trans (hb3.mono HB.out.size); clear H3 HB
  have H3 := Lib.hid k3; have HB := Lib.hid kb; clear k3 kb hb3
  obtain ⟨a0, a1, a2, a3, a4, a5, a6⟩ := H3.out.1.cells7
  obtain ⟨b0, b1, b2, b3, b4, b5, b6⟩ := H3.out.2.1.cells7
  obtain ⟨f0, f1, f2, f3, f4, f5, f6⟩ := H3.out.2.2.free7
  obtain ⟨z0, z1, z2, z3, z4, z5, z6⟩ := H3.out.2.2.cells7
  go_wp2_with fail
  refine bodyPost_ret (v := .tuple #[.agg #[.int .i64 0, .int .i64 0, .int .i64 0, .int .i64 0, .int .i64 0, .int .i64 0, .int .i64 0], .bool false]) (two_results rfl _ _ _ 44 _ (0, 0) _ rfl (row_set7 H3.out.2.2) Tryz.underlying44 rfl (by kernel_rfl) rfl) rfl ?_
  exact ⟨rfl, below_set7 HB.out (by omega)⟩
end

section
open Go.ChangeShapes Go.WideShapes Go.ChangeAt Go.RowKit Go.BigFrame
set_option maxRecDepth 100000
def pM (m0 m1 m2 : Int) (j : Nat) : Int := if j = 0 then m0 else if j = 1 then m1 else if j = 2 then m2 else 0
def Sm.part (fr tt : Int) (K : Nat) (m0 m1 m2 : Int) (k : Nat) : Sm :=
  ⟨fr, tt, ((min k K : Nat) : Int), if min k K = 0 then 0 else pM m0 m1 m2 (min k K - 1), if K < k then pM m0 m1 m2 K else 0, if K + 1 < k then pM m0 m1 m2 (K + 1) else 0, if K + 2 < k then pM m0 m1 m2 (K + 2) else 0⟩
end

section
namespace Free
section
variable {P : Program}
def updb (b : Nat → Bool) (i : Nat) : Nat → Bool := fun j => if j = i then true else b j
def updw (vs : Nat → Value) (i : Nat) (v : Value) : Nat → Value := fun j => if j = i then v else vs j
theorem updb_self {b : Nat → Bool} {i : Nat} : updb b i i = true := if_pos rfl
theorem updb_ne {b : Nat → Bool} {i j : Nat} (h : j ≠ i) : updb b i j = b j := if_neg h
theorem updw_self {vs : Nat → Value} {i : Nat} {v : Value} : updw vs i v i = v := if_pos rfl
theorem updw_ne {vs : Nat → Value} {i j : Nat} {v : Value} (h : j ≠ i) : updw vs i v j = vs j := if_neg h
theorem wp_key {id : Nat} {Q : Exit → Act → World → Prop} {a0 : Act} {w0 : World} {l : List Oper} (hm : P.follows .mixedOrders = true) (hB : okG l a0.tmps.size = true)
    (F : (Nat → Bool) → (Nat → Value) → World → Prop) (V : Nat → Value → Prop) (hF : ∀ vs, F (fun i => decide (l.length ≤ i)) vs w0.drew)
    (hstep : ∀ i o, l[i]? = some o → ∀ (b : Nat → Bool) (vs : Nat → Value) (a : Act) (w : World), (∀ t, t ∉ dsts l → a.eval (.tmp t) = a0.eval (.tmp t)) →
      (∀ j oj t, Region.waitsFor .any l.toArray i j = true → l[j]? = some oj → oj.dst = some t → b j = true ∧ a.eval (.tmp t) = vs j ∧ V j (a.eval (.tmp t))) → b i = false → F b vs w →
      Comes P l a o w (fun v w' => V i v ∧ F (updb b i) (updw vs i v) w'))
    (hend : ∀ (vs : Nat → Value) (w' : World), (∀ i, i < l.length → (∀ o, l[i]? = some o → o.dst.isSome = true) → V i (vs i)) → F (fun _ => true) vs w' → Q .normal (puts a0 l 0 vs) w') : (Code.region id l.toArray true).wp P Q a0 w0 := by
  simp only [okG, Bool.and_eq_true, decide_eq_true_eq] at hB
  obtain ⟨⟨hns, hnd⟩, hlt⟩ := hB
  have hlt' : ∀ t ∈ dsts l, t < a0.tmps.size := fun t ht => by simpa using List.all_eq_true.1 hlt t ht
  let Inv : Array Bool → Act → World → Prop := fun S a w => a.defers = a0.defers ∧ a.tmps.size = a0.tmps.size ∧ (∀ t, t ∉ dsts l → a.tmps.getD t undef = a0.tmps.getD t undef) ∧
    (∃ vs, F (fun i => S.getD i true) vs w ∧ ∀ i o t, l[i]? = some o → S.getD i false = true → o.dst = some t → a.tmps.getD t undef = vs i) ∧
    ∀ i o t, l[i]? = some o → S.getD i false = true → o.dst = some t → V i (a.tmps.getD t undef)
  have main : ∀ (fuel : Nat) (S : Array Bool) (a : Act) (w : World), S.toList.count false = fuel → Stage.Fit .any l.toArray S → Inv S a w → wpAny P .any l.toArray Q fuel S a w := by
    intro fuel
    have fin : ∀ (S : Array Bool) (a : Act) (w : World), Stage.Fit .any l.toArray S → (∀ i, S.getD i true = true) → Inv S a w → Q .normal a w := by
      rintro S a w hFit hS ⟨h1, h2, h3, ⟨vs, h4, h4'⟩, h5⟩
      have hSi : ∀ i, i < l.length → S.getD i false = true := fun i hi => by
        have h1 := hS i
        have : i < S.size := by rw [hFit.size]; simpa using hi
        simp [this] at h1 ⊢; exact h1
      have e : a = puts a0 l 0 vs := by
        have hp := puts_size l a0 0 vs
        refine act_ext (h1.trans hp.2.symm) (h2.trans hp.1.symm) (fun t ht => ?_)
        by_cases hm : t ∈ dsts l
        · obtain ⟨o, ho, e⟩ := List.mem_filterMap.1 hm
          obtain ⟨i, hi⟩ := List.getElem?_of_mem ho
          rw [puts_new l a0 0 _ i o t hnd hi e (hlt' t hm), Nat.zero_add]
          exact h4' i o t hi (hSi i (List.getElem?_eq_some_iff.1 hi).1) e
        · rw [puts_old _ _ _ _ _ hm]; exact h3 t hm
      rw [e]
      refine hend _ w (fun i hi hd => ?_) (by rw [show (fun i => S.getD i true) = fun _ => true from funext hS] at h4; exact h4)
      have hi' : l[i]? = some l[i] := List.getElem?_eq_getElem hi
      obtain ⟨t, ht⟩ := Option.isSome_iff_exists.1 (hd _ hi')
      have := h5 i _ t hi' (hSi i hi) ht
      rwa [h4' i _ t hi' (hSi i hi) ht] at this
    have one : ∀ (S : Array Bool) (a : Act) (w : World) (K : Act → World → Prop), Stage.Fit .any l.toArray S → Inv S a w → ∀ i ∈ Region.ready .any l.toArray S, (∀ a' w', Inv (S.setIfInBounds i true) a' w' → K a' w') → wpOp P l.toArray Q i K a w := by
      rintro S a w K hFit ⟨h1, h2, h3, ⟨vs, h4, h4'⟩, h5⟩ i hi hK
      obtain ⟨hun, o, ho, hall⟩ := mem_ready.1 hi
      have hol : l[i]? = some o := by simpa using ho
      unfold wpOp
      simp only [ho]
      have hpre : ∀ j oj t, Region.waitsFor .any l.toArray i j = true → l[j]? = some oj → oj.dst = some t → (fun i => S.getD i true) j = true ∧ a.eval (.tmp t) = vs j ∧ V j (a.eval (.tmp t)) := by
        intro j oj t hwt hj hd
        have hc := Stage.came hi hwt
        have hSj : S.getD j false = true := by
          have hjl : j < S.size := by rw [hFit.size]; simpa using (List.getElem?_eq_some_iff.1 hj).1
          simp [hjl] at hc ⊢; exact hc
        exact ⟨hc, h4' j oj t hj hSj hd, h5 j oj t hj hSj hd⟩
      have hs := hstep i o hol _ vs a w (fun t ht => h3 t ht) hpre hun h4
      have hSs : ∀ j, (S.setIfInBounds i true).getD j true = updb (fun i => S.getD i true) i j := fun j => by
        unfold updb
        by_cases hji : j = i
        · rw [if_pos hji, hji]; exact Stage.getD_set_self hun
        · rw [if_neg hji, getD_set_ne true (Ne.symm hji)]
      have step : ∀ v w', (V i v ∧ F (updb (fun i => S.getD i true) i) (updw vs i v) w') → K (a.put o.dst v) w' := by
        rintro v w' ⟨r1, r2⟩
        refine hK _ _ ⟨by rw [put_defers]; exact h1, by rw [put_size]; exact h2, fun t ht => ?_, ⟨updw vs i v, by rw [funext hSs]; exact r2, fun j oj t hj hSj hd => ?_⟩, fun j oj t hj hSj hd => ?_⟩
        · rw [put_getD _ _ _ _ (fun e => ht (mem_dsts hol e))]; exact h3 t ht
        · by_cases hij : i = j
          · subst hij
            obtain rfl : oj = o := Option.some.inj (hj.symm.trans hol)
            rw [hd, put_getD_self _ _ _ (by rw [h2]; exact hlt' t (mem_dsts hj hd))]
            exact updw_self.symm
          · rw [getD_set_ne false hij] at hSj
            rw [put_getD _ _ _ _ (fun e => hij (dst_ne hnd hol hj e hd)), updw_ne (Ne.symm hij)]
            exact h4' j oj t hj hSj hd
        · by_cases hij : i = j
          · subst hij
            obtain rfl : oj = o := Option.some.inj (hj.symm.trans hol)
            rw [hd, put_getD_self _ _ _ (by rw [h2]; exact hlt' t (mem_dsts hj hd))]
            exact r1
          · rw [getD_set_ne false hij] at hSj
            rw [put_getD _ _ _ _ (fun e => hij (dst_ne hnd hol hj e hd))]
            exact h5 j oj t hj hSj hd
      rcases hs with ⟨hw, hs⟩ | ⟨hw, hs⟩
      case inr => rw [if_neg (by rw [hw]; exact Bool.false_ne_true)]; exact step _ _ hs
      rw [if_pos hw]
      refine .inl ?_
      unfold Oper.wp
      generalize (execOp a.eval o).run P w = r at hs
      cases r with
      | ok n w' =>
        cases n <;> simp only [gets] at hs <;> simp only [Oper.upon]
        case value u => exact step _ _ hs
        case skip => exact step _ _ hs
        case enter f args => exact hs.mono fun e w'' ⟨v, he, h⟩ => by subst he; exact step _ _ h
      | halt x w' => simp only [gets] at hs
    induction fuel with
    | zero =>
      intro S a w hn hFit hI
      have hS : ∀ i, S.getD i true = true := fun i => by rw [Stage.getD_toList]; exact Stage.all_of_count hn i
      refine ⟨?_, fin S a w hFit hS hI⟩
      cases hr : Region.ready .any l.toArray S with
      | nil => rfl
      | cons i r =>
        have := (mem_ready.1 (show i ∈ Region.ready .any l.toArray S by rw [hr]; simp)).1
        rw [hS i] at this; cases this
    | succ fuel ih =>
      intro S a w hn hFit hI
      refine ⟨fun h0 => ?_, fun i hi => ?_⟩
      · refine fin S a w hFit (fun i => ?_) hI
        induction i using Nat.strongRecOn with
        | _ i ihi =>
          cases hx : S.getD i true with
          | true => rfl
          | false =>
            exfalso
            have hil : i < l.length := by
              rcases Nat.lt_or_ge i S.size with h' | h'
              · rw [hFit.size] at h'; simpa using h'
              · simp [Array.getElem?_eq_none h'] at hx
            have hup := List.all_eq_true.1 hns i (List.mem_range.2 hil)
            rw [List.getElem?_eq_getElem hil] at hup
            have hr : i ∈ Region.ready .any l.toArray S := by
              refine mem_ready.2 ⟨hx, l[i], by simp [hil], fun e he hbe => ?_⟩
              have h1 : e.on < i := by
                have := Array.all_eq_true_iff_forall_mem.1 hup e he
                simpa [hbe] using this
              have h2 := ihi e.on h1
              have h3 : e.on < S.size := by rw [hFit.size]; simp; omega
              simp [h3] at h2 ⊢; exact h2
            rw [h0] at hr; cases hr
      · have hun := (mem_ready.1 hi).1
        have hc : (S.setIfInBounds i true).toList.count false = fuel := by
          rw [Array.toList_setIfInBounds]
          have := Stage.count_set (l := S.toList) (i := i) (by rw [← Stage.getD_toList]; exact hun)
          omega
        exact one S a w _ hFit hI i hi (fun a' w' hI' => ih _ a' w' hc (hFit.set hi) hI')
  refine wp_region_any hm (main _ _ _ _ (by simp) (by simpa using Stage.Fit.start (md := .any) (ops := l.toArray)) ⟨rfl, rfl, fun _ _ => rfl, ⟨fun _ => undef, ?_, fun i o t _ h _ => ?_⟩, fun i o t _ h _ => ?_⟩)
  · have hS0 : (fun i => (Array.replicate l.toArray.size false).getD i true) = fun i => decide (l.length ≤ i) := by
      funext i
      by_cases h : i < l.length
      · simp [h]
      · simp [h]; omega
    rw [hS0]; exact hF _
  · rw [getD_replicate_false] at h; cases h
  · rw [getD_replicate_false] at h; cases h
end
end Free
end

section
open Go.RowKit
def PutF (w0 : World) (iA iS : Nat) (ty : TypeId) (zs cells : List Value) (b : Nat → Bool) (vs : Nat → Value) (w : World) : Prop :=
  Below w0.heap.size w0 w ∧ (b iS = true → b iA = true) ∧ (b iA = true → ∃ blk, vs iA = .pointer (some ⟨blk, 0, none⟩) ∧ w0.heap.size ≤ blk ∧ Row w blk ty (if b iS then cells else zs))
section
variable {w0 w w' : World} {iA iS i : Nat} {ty : TypeId} {zs cells : List Value} {b : Nat → Bool} {vs : Nat → Value} {v : Value}
theorem PutF.start (n : Nat) (hA : iA < n) (hS : iS < n) (w0 : World) (ty : TypeId) (zs cells : List Value) (vs : Nat → Value) : PutF w0 iA iS ty zs cells (fun i => decide (n ≤ i)) vs w0.drew :=
  ⟨(Below.refl _ _).drew, fun h => by simp at h; omega, fun h => by simp at h; omega⟩
theorem PutF.keep (h : PutF w0 iA iS ty zs cells b vs w) (hb : Below w.heap.size w w') (h1 : i ≠ iA) (h2 : i ≠ iS) : PutF w0 iA iS ty zs cells (Free.updb b i) (Free.updw vs i v) w' := by
  obtain ⟨k1, k2, k3⟩ := h
  refine ⟨k1.trans (hb.mono k1.size), ?_, ?_⟩
  · rw [Free.updb_ne (Ne.symm h1), Free.updb_ne (Ne.symm h2)]; exact k2
  · rw [Free.updb_ne (Ne.symm h1), Free.updb_ne (Ne.symm h2), Free.updw_ne (Ne.symm h1)]
    intro hA
    obtain ⟨blk, e1, e2, e3⟩ := k3 hA
    exact ⟨blk, e1, e2, e3.below hb e3.lt⟩
theorem PutF.alloc (h : PutF w0 iA iS ty zs cells b vs w) (hne : iS ≠ iA) (hbi : b iA = false) : PutF w0 iA iS ty zs cells (Free.updb b iA) (Free.updw vs iA (.pointer (some ⟨w.heap.size, 0, none⟩))) (w.alloc (.cells zs.toArray ty)) := by
  obtain ⟨k1, k2, k3⟩ := h
  have hS : b iS = false := by
    cases hb : b iS with
    | false => rfl
    | true => rw [k2 hb] at hbi; cases hbi
  refine ⟨k1.alloc k1.size _, fun _ => Free.updb_self, fun _ => ⟨w.heap.size, Free.updw_self, k1.size, ?_⟩⟩
  rw [Free.updb_ne hne, hS]
  exact Row.made w ty zs
theorem PutF.store (h : PutF w0 iA iS ty zs cells b vs w) (hne : iS ≠ iA) (hA : b iA = true) {blk : Nat} (hv : vs iA = .pointer (some ⟨blk, 0, none⟩)) (hle : w0.heap.size ≤ blk) (hr : Row w' blk ty cells) (hb : Below w0.heap.size w0 w') :
    PutF w0 iA iS ty zs cells (Free.updb b iS) (Free.updw vs iS v) w' := by
  refine ⟨hb, fun _ => ?_, fun _ => ⟨blk, ?_, hle, ?_⟩⟩
  · rw [Free.updb_ne (Ne.symm hne)]; exact hA
  · rw [Free.updw_ne (Ne.symm hne)]; exact hv
  · rw [Free.updb_self]; exact hr
theorem PutF.row (h : PutF w0 iA iS ty zs cells b vs w) (hA : b iA = true) (hbi : b iS = false) : ∃ blk, vs iA = .pointer (some ⟨blk, 0, none⟩) ∧ w0.heap.size ≤ blk ∧ Row w blk ty zs := by
  obtain ⟨blk, h1, h2, h3⟩ := h.2.2 hA
  rw [hbi] at h3
  exact ⟨blk, h1, h2, h3⟩
theorem PutF.done (h : PutF w0 iA iS ty zs cells (fun _ => true) vs w) : Below w0.heap.size w0 w ∧ ∃ blk, vs iA = .pointer (some ⟨blk, 0, none⟩) ∧ w0.heap.size ≤ blk ∧ Row w blk ty cells := by
  obtain ⟨blk, h1, h2, h3⟩ := h.2.2 rfl
  exact ⟨h.1, blk, h1, h2, h3⟩
end
end

section
open Go.ChangeShapes Go.WideShapes Go.ChangeAt Go.RowKit Go.BigFrame
set_option maxRecDepth 100000
theorem of_node {x : Nd} (h : x.smOk) : Sm.of_ ((x.k : Nat) : Int) x.d = x.sm ∧ decide (okOf ((x.k : Nat) : Int) x.d) = true := by
  obtain ⟨h1, h2, h3⟩ := h
  have e : Sm.ofk ((x.k : Nat) : Int) x.d = x.sm := by
    unfold Sm.ofk Nd.sm
    by_cases h7 : x.k = 7
    · rw [if_pos (by omega), if_pos h7]
    · rw [if_neg (by omega), if_neg h7]
      by_cases h8 : x.k = 8
      · rw [if_pos (by omega), if_pos h8]
      · rw [if_neg (by omega), if_neg h8]
        by_cases h9 : x.k = 9
        · rw [if_pos (by omega), if_pos h9]
        · rw [if_neg (by omega), if_neg h9]
  have ho : okOf ((x.k : Nat) : Int) x.d := ⟨by omega, by omega, by rw [e]; exact h3⟩
  exact ⟨by unfold Sm.of_; rw [if_pos ho, e], decide_eq_true ho⟩
end

section
open Go.ChangeShapes Go.WideShapes Go.ChangeAt Go.RowKit Go.BigFrame
set_option maxRecDepth 100000
theorem nothingMade_any (d : Int) (w : World) : Calls Tryz.prog 128 #[.int .i64 d] w fun e w' => e = .returned (idS d).v ∧ Below w.heap.size w w' := by
  go_enter Tryz.func128, Tryz.ntmps128
  go_wp2_with fail
  refine bodyPost_ret (results_cell_row rfl _ _ w.heap.size 44 _ (0, 0) _ rfl (Row.made _ _ _) Tryz.underlying44 rfl (by kernel_rfl)) rfl ?_
  exact ⟨rfl, (Below.refl _ _).alloc (Nat.le_refl _) _⟩
theorem ofNode_any (xk xa : Nat) (xb xd : Int) (xi : List Int) (xA : Option Addr) (xc : Nat) (w : World) (h : Nd.smOk ⟨xk, xa, xb, xd, xi⟩) :
    Calls Tryz.prog 130 #[.agg #[.int .u8 (xk : Nat), .int .u8 (xa : Nat), .int .i64 xb, .int .i64 xd, .slice xA xi.length xc]] w fun e w' => e = .returned (Nd.sm ⟨xk, xa, xb, xd, xi⟩).v ∧ Below w.heap.size w w' := by
  obtain ⟨e1, e2⟩ := of_node h
  simp only at e1 e2
  have hof := fun wz => of_any ((xk : Nat) : Int) xd wz
  rw [e1, e2] at hof
  generalize Nd.sm ⟨xk, xa, xb, xd, xi⟩ = O at *
  have HOF := Lib.hid hof; clear hof e1 e2 h
  go_enter Tryz.func130, Tryz.ntmps130
  go_wp2_with fail
  refine (HOF.out _).mono ?_; rintro e w2 ⟨rfl, hb2⟩
  have hr0 : Row ((w.alloc (.cells #[.int .u8 (xk : Nat), .int .u8 (xa : Nat), .int .i64 xb, .int .i64 xd, .slice xA xi.length xc] 35)).alloc (.cells #[.int .i64 0, .int .i64 0, .int .i64 0, .int .i64 0, .int .i64 0, .int .i64 0, .int .i64 0] 44)) (w.heap.size + 1) 44 [.int .i64 0, .int .i64 0, .int .i64 0, .int .i64 0, .int .i64 0, .int .i64 0, .int .i64 0] := made2 _ _ _ _
  have hr2 := hr0.below hb2 hr0.lt
  have hb0 : Below w.heap.size w ((w.alloc (.cells #[.int .u8 (xk : Nat), .int .u8 (xa : Nat), .int .i64 xb, .int .i64 xd, .slice xA xi.length xc] 35)).alloc (.cells #[.int .i64 0, .int .i64 0, .int .i64 0, .int .i64 0, .int .i64 0, .int .i64 0, .int .i64 0] 44)) := ((Below.refl _ _).alloc (Nat.le_refl _) _).alloc (by simp) _
  have hb3 := hb0.trans (hb2.mono hb0.size)
  have hsz : w.heap.size + 1 < w2.heap.size := by have := hb2.size; simp at this; omega
  have hz0 : w.heap.size ≤ w.heap.size + 1 := Nat.le_succ _
  have HR2 := Lib.hid hr2; have HB3 := Lib.hid hb3; clear hr0 hr2 hb0 hb2 hb3 HOF
  dsimp only
  generalize w.heap.size + 1 = z0 at *
  have hr3 := HR2.out.alloc (.cells #[.int .i64 O.fr, .int .i64 O.to, .int .i64 O.kp, .int .i64 O.ad, .int .i64 O.t0, .int .i64 O.t1, .int .i64 O.t2] 44)
  have c0 := hr3.cell 0; have c1 := hr3.cell 1; have c2 := hr3.cell 2; have c3 := hr3.cell 3; have c4 := hr3.cell 4; have c5 := hr3.cell 5; have c6 := hr3.cell 6
  have f0 := hr3.free 0; have f1 := hr3.free 1; have f2 := hr3.free 2; have f3 := hr3.free 3; have f4 := hr3.free 4; have f5 := hr3.free 5; have f6 := hr3.free 6
  simp only [List.getElem?_cons_succ, List.getElem?_cons_zero] at c0 c1 c2 c3 c4 c5 c6
  have HR3 := Lib.hid hr3; have HSZ := Lib.hid hsz; have HZ := Lib.hid hz0; clear hr3 hsz
  go_wp2_with fail
  refine bodyPost_ret (results_cell_row rfl _ _ z0 44 _ (0, 0) _ rfl (row_set7 HR3.out) Tryz.underlying44 rfl (by kernel_rfl)) rfl ?_
  refine ⟨rfl, ?_⟩
  have hz : w.heap.size ≤ z0 := HZ.out
  exact (((((((HB3.out.alloc HB3.out.size _).setCell hz _).setCell hz _).setCell hz _).setCell hz _).setCell hz _).setCell hz _).setCell hz _
theorem isNode_any (A : Option Addr) (n c : Nat) (i : Int) (w : World) : Calls Tryz.prog 84 #[.slice A n c, .int .i64 i] w fun e w' => e = .returned (.bool (decide (0 ≤ i ∧ i < (n : Int)))) ∧ w = w' := by
  by_cases h0 : 0 ≤ i
  · by_cases h1 : i < (n : Int)
    · rw [decide_eq_true (And.intro h0 h1)]
      go_enter Tryz.func84, Tryz.ntmps84
      go_wp2_with fail
      go_ret
      exact ⟨rfl, rfl⟩
    · rw [decide_eq_false fun h => h1 h.2]
      go_enter Tryz.func84, Tryz.ntmps84
      go_wp2_with fail
      go_ret
      exact ⟨rfl, rfl⟩
  · rw [decide_eq_false fun h => h0 h.1]
    go_enter Tryz.func84, Tryz.ntmps84
    go_wp2_with fail
    go_ret
    exact ⟨rfl, rfl⟩
theorem reachC (B : Nat) (t : Sm) (w : World) (hB : Mx.Holds w B t) : Mx.Tells 129 #[.pointer (some ⟨B, 0, none⟩)] (fun x => decide (x.L t)) w := by
  intro W x hb
  show Calls _ _ #[x.v, .pointer (some ⟨B, 0, none⟩)] _ (fun e w' => e = .returned (.bool (decide (x.L t))) ∧ Below W.heap.size W w')
  have h : Mx.Holds W B t := HoldsM.below hB hb
  have hc := fun w => leqM_any x t w
  generalize decide (x.L t) = v at *
  have hl : B < W.heap.size := HoldsM.lt h
  obtain ⟨c0, c1, c2, c3, c4, c5, c6⟩ := h.cells5
  unfold Sm.v at *
  have HC := Lib.hid hc; clear hc h hB hb
  go_enter Tryz.func129, Tryz.ntmps129
  go_wp2_with fail
  refine (HC.out _).mono ?_; rintro e w1 ⟨rfl, hb1⟩
  have HB1 := Lib.hid hb1; clear hb1 c0 c1 c2 c3 c4 c5 c6
  go_wp2_with fail
  go_ret
  exact ⟨rfl, ((Below.refl _ _).alloc (Nat.le_refl _) _).trans (HB1.out.mono (by simp))⟩
end

section
section
variable {P : Program} {ops : Array Oper} {o : Oper} {a : Act} {w : World} {K : Act → World → Prop} {Q : Exit → Act → World → Prop} {E : Prop}
theorem wp_of_gets (h : Free.gets P (fun v w' => K (a.put o.dst v) w') ((execOp a.eval o).run P w)) : Oper.wp P o a w K Q := by
  unfold Oper.wp
  generalize (execOp a.eval o).run P w = r at h
  cases r with
  | ok n w' =>
    cases n <;> simp only [Free.gets] at h <;> simp only [Oper.upon]
    case value u => exact h
    case skip => exact h
    case enter f args => exact h.mono fun e w'' ⟨v, he, h⟩ => by subst he; exact h
  | halt x w' => simp only [Free.gets] at h
theorem step_call {f : FuncId} {fn : Func} {c : Code} (hg : o.guard = none) (xs : Array Operand) (ats : Array TypeId) (ho : o.op = .call { callee := .value (.func f), args := xs, argTypes := ats }) (hf : P.funcs[f]? = some fn) (hname : (fn.name == "runtime.NumGoroutine") = false) (hb : fn.body = some c)
    (vs : List Value) (hv : xs.toList.map a.eval = vs) {R : Value → World → Prop} (hc : Calls P f vs.toArray w (fun e w' => ∃ v, e = .returned v ∧ R v w')) (h : ∀ v w', R v w' → K (a.put o.dst v) w') :
    if Region.wanted o (yielded ops a.tmps) = true then Oper.wp P o a w K Q else E := by
  have hw : Region.wanted o (yielded ops a.tmps) = true := by simp [Region.wanted, hg]
  rw [if_pos hw]
  exact wp_of_gets (Free.g_call xs ats ho hf hname hb vs hv (hc.mono fun e w' ⟨v, he, hr⟩ => ⟨v, he, h v w' hr⟩))
end
end
end Go.Proofs.YtmhophmpbpbjaaaGreatDoor
