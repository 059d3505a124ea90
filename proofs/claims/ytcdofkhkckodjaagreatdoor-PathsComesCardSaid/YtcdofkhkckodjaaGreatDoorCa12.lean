/- PlTT, SmEq, PaEq, PaHas, PaFeeds -/
import Derived.Test.YtcdofkhkckodjaaGreatDoorCa8
import Derived.Test.YtcdofkhkckodjaaGreatDoorCa9
import Derived.Test.YtcdofkhkckodjaaGreatDoorCa11
import Derived.Test.YtcdofkhkckodjaaGreatDoorCa10
import Derived.Deep.Onto
import Derived.Test.YtcdofkhkckodjaaGreatDoorCa2
import Derived.Laws.StructEq
import Derived.Test.YtcdofkhkckodjaaGreatDoorCa0
import Derived.Test.YtcdofkhkckodjaaGreatDoorCa1
import Derived.Lib.Hide
import Derived.Deep.DeepCutAuto
import Derived.Deep.CutRange
namespace Go.Proofs.YtcdofkhkckodjaaGreatDoor
set_option linter.unusedVariables false
section
open Go.ChangeShapes Go.WideShapes Go.ChangeAt Go.RowKit Go.BigFrame
set_option maxRecDepth 100000
structure Sl where
  A : Option Addr
  n : Nat
  c : Nat
@[reducible] def Sl.v (s : Sl) : Value := .slice s.A s.n s.c
def slv (vs : List Sl) : List Value := vs.map Sl.v
theorem slv_at {vs : List Sl} {i : Nat} {s : Sl} (h : vs[i]? = some s) : (slv vs)[i]? = some s.v := by unfold slv; rw [List.getElem?_map, h]; rfl
theorem slv_set (vs : List Sl) (i : Nat) (s : Sl) : slv (vs.set i s) = (slv vs).set i s.v := by unfold slv; exact List.map_set
structure TT (w : World) (base B : Nat) (vs : List Sl) (T : List (List Sm)) : Prop where
  row : Row w B 36 (slv vs)
  lo : base ≤ B
  len : vs.length = T.length
  own : ∀ (j : Nat) (s : Sl) (l : List Sm), vs[j]? = some s → T[j]? = some l → w.ownsRow base 44 7 s.v l.length (Mx.rowS l)
  apart : ∀ (j k : Nat) (s t : Sl), j ≠ k → vs[j]? = some s → vs[k]? = some t → s.v.ownBlock = none ∨ s.v.ownBlock ≠ t.v.ownBlock
def TOff (vs : List Sl) (g : Nat) : Prop := ∀ (j : Nat) (s : Sl), vs[j]? = some s → s.v.ownBlock ≠ some g
section
variable {w w' w1 w2 : World} {base B i : Nat} {vs : List Sl} {T : List (List Sm)} {s : Sl} {l : List Sm}
theorem own_apartM {b n : Nat} {t : TypeId} {v : Value} {us : List Value} (h : w.ownsRow base 44 7 v n (Mx.rowS l)) (hr : Row w b t us) (ht : t ≠ 44) : v.ownBlock = none ∨ v.ownBlock ≠ some b := by
  have := Rw.own_apart h hr ht
  exact .inr fun e => this e.symm
theorem own_keptM {n : Nat} {v : Value} (h : w.ownsRow base 44 7 v n (Mx.rowS l)) (hb : Below w.heap.size w w') : w'.ownsRow base 44 7 v n (Mx.rowS l) := Rw.own_kept h hb
theorem TT.below (h : TT w base B vs T) (hb : Below w.heap.size w w') : TT w' base B vs T :=
  ⟨h.row.below hb h.row.lt, h.lo, h.len, fun j s l hs hl => Rw.own_kept (h.own j s l hs hl) hb, h.apart⟩
theorem TT.alloc (h : TT w base B vs T) (o : Obj) : TT (w.alloc o) base B vs T := h.below ((Below.refl _ _).alloc (Nat.le_refl _) _)
theorem TT.grown {row : Option Nat} (h : TT w base B vs T) (hg : w.grownBy w' row) (hB : row ≠ some B) (ho : ∀ (j : Nat) (s : Sl), vs[j]? = some s → s.v.ownBlock = none ∨ s.v.ownBlock ≠ row) : TT w' base B vs T :=
  ⟨h.row.grown hg (fun e => hB e.symm), h.lo, h.len, fun j s l hs hl => (h.own j s l hs hl).kept hg (ho j s hs), h.apart⟩
theorem TT.lt (h : TT w base B vs T) {j : Nat} {s : Sl} (hs : vs[j]? = some s) : ∀ k, s.v.ownBlock = some k → base ≤ k ∧ k < w.heap.size := by
  obtain ⟨l, hl⟩ : ∃ l, T[j]? = some l := ⟨_, List.getElem?_eq_getElem (by have := (List.getElem?_eq_some_iff.1 hs).1; have := h.len; omega)⟩
  exact (h.own j s l hs hl).lt
theorem TT.off_new (h : TT w base B vs T) : TOff vs w.heap.size := fun j s hs e => by
  have := (h.lt hs _ e).2; omega
theorem TT.get (h : TT w base B vs T) (hl : T[i]? = some l) : ∃ s, vs[i]? = some s ∧ s.n = l.length ∧ w.ownsRow base 44 7 s.v l.length (Mx.rowS l) ∧ w.cell? ⟨B, i, none⟩ = some s.v := by
  obtain ⟨s, hs⟩ : ∃ s, vs[i]? = some s := ⟨_, List.getElem?_eq_getElem (by have := (List.getElem?_eq_some_iff.1 hl).1; have := h.len; omega)⟩
  have ho := h.own i s l hs hl
  refine ⟨s, hs, ?_, ho, by rw [h.row.cell]; exact slv_at hs⟩
  rcases ho.2 with ⟨e, h0⟩ | ⟨g, cap, cur, e, _⟩
  · injection e with e1 e2 e3
    rw [e2, h0]
  · injection e with e1 e2 e3
theorem TT.step (h : TT w base B vs T) (hs : vs[i]? = some s) (hl : T[i]? = some l) (hg : w.grownBy w1 s.v.ownBlock) (hb : Below w1.heap.size w1 w2) {s2 : Sl} {l2 : List Sm} (hn : w2.ownsRow w1.heap.size 44 7 s2.v l2.length (Mx.rowS l2)) (hbase : base ≤ w.heap.size) :
    TT (w2.setCell ⟨B, i, none⟩ s2.v) base B (vs.set i s2) (T.set i l2) := by
  have hiv : i < vs.length := (List.getElem?_eq_some_iff.1 hs).1
  have hiT : i < T.length := (List.getElem?_eq_some_iff.1 hl).1
  have hB : s.v.ownBlock ≠ some B := fun e => by
    rcases own_apartM (h.own i s l hs hl) h.row (by decide) with e2 | e2
    · rw [e2] at e; cases e
    · exact e2 e
  have hr1 : Row w1 B 36 (slv vs) := h.row.grown hg (fun e => hB e.symm)
  have hr2 : Row w2 B 36 (slv vs) := hr1.below hb hr1.lt
  have hset := grown_set w2 B i s2.v
  have hnB : s2.v.ownBlock = none ∨ s2.v.ownBlock ≠ some B := own_apartM hn hr2 (by decide)
  have hnew : ∀ k, s2.v.ownBlock = some k → w.heap.size ≤ k := fun k e => Nat.le_trans hg.size (hn.lt k e).1
  refine ⟨by rw [slv_set]; exact hr2.put i s2.v, h.lo, by rw [List.length_set, List.length_set]; exact h.len, fun j s' l' hs' hl' => ?_, fun j k s' t' hjk hs' ht' => ?_⟩
  · by_cases e : i = j
    · subst e
      rw [List.getElem?_set_self hiv] at hs'
      rw [List.getElem?_set_self hiT] at hl'
      cases hs'; cases hl'
      exact (hn.mono (Nat.le_trans hbase hg.size)).kept hset hnB
    · rw [List.getElem?_set_ne e] at hs' hl'
      have h1 := (h.own j s' l' hs' hl').kept hg (h.apart j i s' s (fun e2 => e e2.symm) hs' hs)
      have h2 : w2.ownsRow base 44 7 s'.v l'.length (Mx.rowS l') := Rw.own_kept h1 hb
      exact h2.kept hset (own_apartM h2 hr2 (by decide))
  · by_cases e : i = j
    · subst e
      rw [List.getElem?_set_self hiv] at hs'
      cases hs'
      rw [List.getElem?_set_ne hjk] at ht'
      cases hv : s2.v.ownBlock with
      | none => exact .inl rfl
      | some b =>
        right
        intro e2
        have h1 := hnew b hv
        have h2 := (h.lt ht' b e2.symm).2
        omega
    · rw [List.getElem?_set_ne e] at hs'
      by_cases e3 : i = k
      · subst e3
        rw [List.getElem?_set_self hiv] at ht'
        cases ht'
        cases hv : s'.v.ownBlock with
        | none => exact .inl rfl
        | some b =>
          right
          intro e2
          have h1 := hnew b e2.symm
          have h2 := (h.lt hs' b hv).2
          omega
      · rw [List.getElem?_set_ne e3] at ht'
        exact h.apart j k s' t' hjk hs' ht'
theorem TOff.set {g : Nat} (h : TOff vs g) {s2 : Sl} (hn : s2.v.ownBlock ≠ some g) : TOff (vs.set i s2) g := fun j s hs => by
  by_cases e : i = j
  · subst e
    by_cases hi : i < vs.length
    · rw [List.getElem?_set_self hi] at hs; cases hs; exact hn
    · rw [List.getElem?_eq_none (by rw [List.length_set]; omega)] at hs; cases hs
  · rw [List.getElem?_set_ne e] at hs; exact h j s hs
theorem TT.start {n : Nat} (h : Row w B 36 (List.replicate n (.slice none 0 0))) (hB : base ≤ B) : TT w base B (List.replicate n ⟨none, 0, 0⟩) (List.replicate n []) := by
  refine ⟨by unfold slv; rw [List.map_replicate]; exact h, hB, by rw [List.length_replicate, List.length_replicate], fun j s l hs hl => ?_, fun j k s t _ hs _ => ?_⟩
  · have h1 := List.mem_of_getElem? hs
    have h2 := List.mem_of_getElem? hl
    rw [List.mem_replicate] at h1 h2
    rw [h1.2, h2.2]
    exact World.ownsRow_nil _ _ _ _
  · have h1 := List.mem_of_getElem? hs
    rw [List.mem_replicate] at h1
    rw [h1.2]
    exact .inl rfl
end
def kindW : Kind (Nat × Sm) := ⟨fun a => [.int .i64 (a.1 : Nat), .int .i64 a.2.fr, .int .i64 a.2.to, .int .i64 a.2.kp, .int .i64 a.2.ad, .int .i64 a.2.t0, .int .i64 a.2.t1, .int .i64 a.2.t2], 8, fun _ => rfl, fun t u hu => by
  simp only [List.mem_cons, List.not_mem_nil, or_false] at hu
  rcases hu with rfl | rfl | rfl | rfl | rfl | rfl | rfl | rfl <;> rfl, by decide⟩
theorem infoWay : (Tryz.prog.info? 182).map (fun i => (i.zero, i.size, i.bytes)) = some (some (.agg #[.int .i64 0, .int .i64 0, .int .i64 0, .int .i64 0, .int .i64 0, .int .i64 0, .int .i64 0, .int .i64 0]), 8, 64) := by kernel_rfl
theorem infoSums : (Tryz.prog.info? 36).map (fun i => (i.zero, i.size, i.bytes)) = some (some (.slice none 0 0), 1, 24) := by kernel_rfl
end

section
open Go.ChangeShapes Go.WideShapes Go.ChangeAt Go.RowKit Go.BigFrame
set_option maxRecDepth 100000
theorem dec7 (a b : Sm) : decide (a = b) = (decide (a.fr = b.fr) && (decide (a.to = b.to) && (decide (a.kp = b.kp) && (decide (a.ad = b.ad) && decide (a.t0 = b.t0 ∧ a.t1 = b.t1 ∧ a.t2 = b.t2))))) := by
  rw [Bool.eq_iff_iff]
  simp [Sm.ext_iff']
def eqS (a b : Sm) : Bool := decide (a = b)
theorem cells_sum : Tryz.prog.cellsOf 44 = 7 := by kernel_rfl
end

section
open Go.ChangeShapes Go.WideShapes Go.ChangeAt Go.RowKit Go.BigFrame
set_option maxRecDepth 100000
theorem run_eq7f (f : Nat) (a b : Sm) (w : World) : (Op.equalIn (f + 3) 78 a.v b.v).run Tryz.prog w = .ok (decide (a = b)) w := by
  have h := run_equalIn_agg (P := Tryz.prog) w (f + 2) 78 #[.int .i64 a.fr, .int .i64 a.to, .int .i64 a.kp, .int .i64 a.ad, .int .i64 a.t0, .int .i64 a.t1, .int .i64 a.t2] #[.int .i64 b.fr, .int .i64 b.to, .int .i64 b.kp, .int .i64 b.ad, .int .i64 b.t0, .int .i64 b.t1, .int .i64 b.t2] (by kernel_rfl) (by kernel_rfl)
  unfold Sm.v
  rw [h, dec7]
  have e1 := fun a b w => eq_int (f + 1) a b w
  have e3 := fun x y z p q r w => eq3 f x y z p q r w
  have hi : ∀ w, (isAgg 3).run Tryz.prog w = .ok false w := fun w => by go_simp
  have hj : ∀ w, (isAgg 42).run Tryz.prog w = .ok true w := fun w => by go_simp
  have hs : ∀ w, (sizeOf 42).run Tryz.prog w = .ok 3 w := fun w => by go_simp
  obtain ⟨fs, hfs⟩ : ∃ fs, (Tryz.prog.fieldsOf 78).toList = fs := ⟨_, rfl⟩
  rw [hfs]
  have hu := Tryz.underlying78
  simp only [Program.fieldsOf, hu] at hfs
  subst hfs
  simp [Op.eqFields, part, hi, hj, hs, e1, e3, Sem.run_bind, go_sem]
  by_cases h0 : a.fr = b.fr
  · by_cases h1 : a.to = b.to
    · by_cases h2 : a.kp = b.kp
      · by_cases h3 : a.ad = b.ad
        · by_cases h4 : a.t0 = b.t0
          · by_cases h5 : a.t1 = b.t1
            · by_cases h6 : a.t2 = b.t2
              · simp [h0, h1, h2, h3, h4, h5, h6]
              · simp [h0, h1, h2, h3, h4, h5, h6]
            · simp [h0, h1, h2, h3, h4, h5]
          · simp [h0, h1, h2, h3, h4]
        · simp [h0, h1, h2, h3]
      · simp [h0, h1, h2]
    · simp [h0, h1]
  · simp [h0]
@[reducible] def av (a : Nat × Sm) : Value := .agg #[.int .i64 (a.1 : Nat), .int .i64 a.2.fr, .int .i64 a.2.to, .int .i64 a.2.kp, .int .i64 a.2.ad, .int .i64 a.2.t0, .int .i64 a.2.t1, .int .i64 a.2.t2]
def kindA : Kind (Nat × Sm) := ⟨fun a => [.int .i64 (a.1 : Nat), .int .i64 a.2.fr, .int .i64 a.2.to, .int .i64 a.2.kp, .int .i64 a.2.ad, .int .i64 a.2.t0, .int .i64 a.2.t1, .int .i64 a.2.t2], 8, fun _ => rfl, fun t u hu => by
  simp only [List.mem_cons, List.not_mem_nil, or_false] at hu
  rcases hu with rfl | rfl | rfl | rfl | rfl | rfl | rfl | rfl <;> rfl, by decide⟩
theorem dec8 (a b : Nat × Sm) : decide (a = b) = (decide ((a.1 : Int) = (b.1 : Int)) && decide (a.2 = b.2)) := by
  rw [Bool.eq_iff_iff]
  simp [Prod.ext_iff]
  intro _
  omega
theorem run_eq8r (a b : Nat × Sm) (w : World) : (Op.equalIn 10000 80 (av a) (av b)).run Tryz.prog w = .ok (decide (a = b)) w := by
  have h := run_equalIn_agg (P := Tryz.prog) w 9999 80 #[.int .i64 (a.1 : Nat), .int .i64 a.2.fr, .int .i64 a.2.to, .int .i64 a.2.kp, .int .i64 a.2.ad, .int .i64 a.2.t0, .int .i64 a.2.t1, .int .i64 a.2.t2] #[.int .i64 (b.1 : Nat), .int .i64 b.2.fr, .int .i64 b.2.to, .int .i64 b.2.kp, .int .i64 b.2.ad, .int .i64 b.2.t0, .int .i64 b.2.t1, .int .i64 b.2.t2] (by kernel_rfl) (by kernel_rfl)
  unfold av
  rw [h, dec8]
  have e1 := fun a b w => eq_int 9998 a b w
  have e7 := fun w => run_eq7f 9996 a.2 b.2 w
  unfold Sm.v at e7
  have hi : ∀ w, (isAgg 3).run Tryz.prog w = .ok false w := fun w => by go_simp
  have hj : ∀ w, (isAgg 78).run Tryz.prog w = .ok true w := fun w => by go_simp
  have hs : ∀ w, (sizeOf 78).run Tryz.prog w = .ok 7 w := fun w => by go_simp
  obtain ⟨fs, hfs⟩ : ∃ fs, (Tryz.prog.fieldsOf 80).toList = fs := ⟨_, rfl⟩
  rw [hfs]
  have hu := Tryz.underlying80
  simp only [Program.fieldsOf, hu] at hfs
  subst hfs
  simp [Op.eqFields, part, hi, hj, hs, e1, e7, Sem.run_bind, go_sem]
  by_cases h0 : (a.1 : Int) = (b.1 : Int)
  · by_cases h1 : a.2 = b.2
    · simp [h0, h1]
    · simp [h0, h1]
  · have h0b : ((a.1 : Int) == (b.1 : Int)) = false := by simpa using h0
    simp [h0, h0b]
end

section
open Go.ChangeShapes Go.WideShapes Go.ChangeAt Go.RowKit Go.BigFrame
set_option maxRecDepth 100000
def kindS : Kind Sm := ⟨Sm.cells, 7, fun _ => rfl, fun t u hu => by
  simp only [Sm.cells, List.mem_cons, List.not_mem_nil, or_false] at hu
  rcases hu with rfl | rfl | rfl | rfl | rfl | rfl | rfl <;> rfl, by decide⟩
theorem arr_load {w : World} {A : Option Addr} {l : List (Nat × Sm)} (h : Rw.Ts kindA w A l) {i : Nat} {a : Nat × Sm} (hi : l[i]? = some a) : ∃ b o, A = some ⟨b, o, none⟩ ∧ b < w.heap.size ∧
    ∀ w', Below w.heap.size w w' → (Instr.loadAt 80 (.pointer (some ⟨b, o + i * 8, none⟩))).run Tryz.prog w' = .ok (av a) w' := by
  obtain ⟨b, o, e, hlt, hc⟩ := h.at_ hi
  exact ⟨b, o, e, hlt, fun w' hb => run_loadAt_part b (o + i * 8) 80 _ (kindA.cells a) (fun j v hj => by rw [add_at]; exact hc w' hb j v hj) Tryz.underlying80 rfl (by kernel_rfl)⟩
theorem arr_box {w : World} {g : Nat} {a : Nat × Sm} (h : Row w g 80 (kindA.cells a)) : ∀ w', Below w.heap.size w w' → (Instr.loadAt 80 (.pointer (some ⟨g, 0, none⟩))).run Tryz.prog w' = .ok (av a) w' :=
  fun w' hb => run_loadAt_part g 0 80 _ (kindA.cells a) (fun j v hj => by rw [add_at, Nat.zero_add, (h.below hb h.lt).cell]; exact hj) Tryz.underlying80 rfl (by kernel_rfl)
def eqA (a b : Nat × Sm) : Bool := decide (a = b)
theorem eq_ar (x y : Operand) (a b : Nat × Sm) : ∀ w, (do eqGuard .eql 80 x y (av a) (av b); binOp .eql 80 (av a) (av b) : Sem Value).run Tryz.prog w = .ok (.bool (eqA a b)) w := by
  intro w
  rw [Sem.run_bind, run_eqGuard_agg w _ _ _ _ _ _ (by kernel_rfl), Result.andThen_ok, run_eql_struct, run_eq8r]
  rfl
set_option maxHeartbeats 4000000 in
theorem has_any (A : Option Addr) (l : List (Nat × Sm)) (c : Nat) (a : Nat × Sm) (w : World) (hT : Rw.Ts kindA w A l) (hl : l.length ≤ 60000000) :
    Calls Tryz.prog 133 #[.slice A l.length c, av a] w fun e w' => e = .returned (.bool (decide (a ∈ l))) ∧ Below w.heap.size w w' := by
  have hr0 : Row (w.alloc (.cells (kindA.cells a).toArray 80)) w.heap.size 80 (kindA.cells a) := Row.made w _ _
  have hb0 : Below w.heap.size w (w.alloc (.cells (kindA.cells a).toArray 80)) := (Below.refl _ _).alloc (Nat.le_refl _) _
  have HT := Lib.hid hT; have HR0 := Lib.hid hr0; have HB0 := Lib.hid hb0; clear hT hr0 hb0
  go_enter Tryz.func133, Tryz.ntmps133
  go_wp2_with fail
  go_loopw [5] (fun i wx => ∃ k : Nat, k ≤ l.length ∧ i = .int .i64 k ∧ Below w.heap.size w wx ∧ Row wx w.heap.size 80 (kindA.cells a) ∧ ∀ j, j < k → l[j]? ≠ some a) (fun i _ => l.length - (intOf i).toNat)
  case atStart => exact ⟨0, by omega, rfl, HB0.out, HR0.out, fun j h => absurd h (by omega)⟩
  case round =>
    obtain ⟨k, hk, rfl, hbw, hrow, hno⟩ := hrel
    have HBW := Lib.hid hbw; have HRW := Lib.hid hrow; have HN := Lib.hid hno; clear hbw hrow hno HR0 HB0
    by_cases hlt : k < l.length
    · have hkz : (k : Int) < (l.length : Int) := by omega
      obtain ⟨x, hx⟩ : ∃ x, l[k]? = some x := ⟨_, List.getElem?_eq_getElem hlt⟩
      obtain ⟨bm, om, rfl, hbm, hlm⟩ := arr_load (HT.out.below HBW.out) hx
      have hln := arr_box HRW.out
      have LM := Lib.hid hlm; have LN := Lib.hid hln; have HX := Lib.hid hx
      clear hlm hln hbm hx
      have hq : ∀ p q : Operand, ∀ w, (do eqGuard .eql 80 p q (av x) (av a); binOp .eql 80 (av x) (av a) : Sem Value).run Tryz.prog w = .ok (.bool (eqA x a)) w := fun p q => eq_ar p q x a
      cases he : eqA x a with
      | true =>
        rw [he] at hq
        have exy : x = a := by simpa [eqA] using he
        have hin : true = decide (a ∈ l) := by
          rw [eq_comm, decide_eq_true_iff, ← exy]; exact List.mem_of_getElem? HX.out
        have HQ := Lib.hid hq; have HIN := Lib.hid hin; clear hq he exy hin
        go_wp2_with fail
        refine wp_region_below (by kernel_rfl) (by kernel_rfl) ?_
        refine wpQuiet_step (fun K hK => ?_); go_simp; (first | (with_reducible refine hK _ ?_) | (with_reducible refine ⟨_, fun _ _ => rfl, hK _ ?_⟩)); clear hK K
        refine wpQuiet_step (fun K hK => ?_); go_simp; (first | (with_reducible refine hK _ ?_) | (with_reducible refine ⟨_, fun _ _ => rfl, hK _ ?_⟩)); clear hK K
        refine wpQuiet_step (fun K hK => ?_); go_simp; (first | (with_reducible refine hK _ ?_) | (with_reducible refine ⟨_, fun _ _ => rfl, hK _ ?_⟩)); clear hK K
        refine wpQuiet_step (fun K hK => ?_); refine q_load (p := .pointer (some ⟨bm, om + k * 8, none⟩)) 80 _ rfl rfl rfl (LM.out) ?_; go_simp; (with_reducible refine hK _ ?_); clear hK K
        refine wpQuiet_step (fun K hK => ?_); refine q_load (p := .pointer (some ⟨w.heap.size, 0, none⟩)) 80 _ rfl rfl rfl (LN.out) ?_; go_simp; (with_reducible refine hK _ ?_); clear hK K
        refine wpQuiet_step (fun K hK => ?_); refine q_bin _ _ _ _ _ rfl rfl rfl rfl (HQ.out _ _) ?_; go_simp; (with_reducible refine hK _ ?_); clear hK K
        refine wpQuiet_nil ?_
        intro w5 hb5
        have hbz := HBW.out.trans (hb5.mono HBW.out.size)
        have HBZ := Lib.hid hbz; clear hb5 hbz
        go_wp2_with fail
        go_ret
        exact ⟨ret_bool HIN.out, HBZ.out⟩
      | false =>
        rw [he] at hq
        have exy : x ≠ a := by simpa [eqA] using he
        have HQ := Lib.hid hq; have HY := Lib.hid exy; clear hq he exy
        go_wp2_with fail
        refine wp_region_below (by kernel_rfl) (by kernel_rfl) ?_
        refine wpQuiet_step (fun K hK => ?_); go_simp; (first | (with_reducible refine hK _ ?_) | (with_reducible refine ⟨_, fun _ _ => rfl, hK _ ?_⟩)); clear hK K
        refine wpQuiet_step (fun K hK => ?_); go_simp; (first | (with_reducible refine hK _ ?_) | (with_reducible refine ⟨_, fun _ _ => rfl, hK _ ?_⟩)); clear hK K
        refine wpQuiet_step (fun K hK => ?_); go_simp; (first | (with_reducible refine hK _ ?_) | (with_reducible refine ⟨_, fun _ _ => rfl, hK _ ?_⟩)); clear hK K
        refine wpQuiet_step (fun K hK => ?_); refine q_load (p := .pointer (some ⟨bm, om + k * 8, none⟩)) 80 _ rfl rfl rfl (LM.out) ?_; go_simp; (with_reducible refine hK _ ?_); clear hK K
        refine wpQuiet_step (fun K hK => ?_); refine q_load (p := .pointer (some ⟨w.heap.size, 0, none⟩)) 80 _ rfl rfl rfl (LN.out) ?_; go_simp; (with_reducible refine hK _ ?_); clear hK K
        refine wpQuiet_step (fun K hK => ?_); refine q_bin _ _ _ _ _ rfl rfl rfl rfl (HQ.out _ _) ?_; go_simp; (with_reducible refine hK _ ?_); clear hK K
        refine wpQuiet_nil ?_
        intro w5 hb5
        have hbz := HBW.out.trans (hb5.mono HBW.out.size)
        have hrz := HRW.out.below hb5 HRW.out.lt
        have HBZ := Lib.hid hbz; have HRZ := Lib.hid hrz; clear hb5 hbz hrz
        go_wp2_with fail
        go_roundw
        case rel =>
          refine ⟨k + 1, by omega, by simp, HBZ.out, HRZ.out, fun j hj => ?_⟩
          by_cases e : j = k
          · rw [e, HX.out]; intro e2; exact HY.out (Option.some.inj e2)
          · exact HN.out j (by omega)
        case measure => simp only [intOf]; omega
    · have hkz : ¬ (k : Int) < (l.length : Int) := by omega
      have hkl : k = l.length := by omega
      have hin : false = decide (a ∈ l) := by
        rw [eq_comm, decide_eq_false_iff_not]
        intro hm
        obtain ⟨j, hj⟩ := List.getElem?_of_mem hm
        exact HN.out j (by have := (List.getElem?_eq_some_iff.1 hj).1; omega) hj
      have HIN := Lib.hid hin; clear hin hkl
      go_wp2_with fail
      go_ret
      exact ⟨ret_bool HIN.out, HBW.out⟩
end

section
open Go.ChangeShapes Go.WideShapes Go.ChangeAt Go.RowKit Go.BigFrame
set_option maxRecDepth 100000
theorem infoArr : (Tryz.prog.info? 80).map (fun i => (i.zero, i.size, i.bytes)) = some (some (.agg #[.int .i64 0, .int .i64 0, .int .i64 0, .int .i64 0, .int .i64 0, .int .i64 0, .int .i64 0, .int .i64 0]), 8, 64) := by kernel_rfl
theorem addA_snoc {s : Sm} (p : Nat × Nat) : ∀ (ps : List (Nat × Nat)) (l : List (Nat × Sm)), addA s (ps ++ [p]) l = if (p.1, s) ∈ addA s ps l then addA s ps l else addA s ps l ++ [(p.1, s)]
  | [], l => rfl
  | q :: ps, l => by
    rw [List.cons_append, addA, addA_snoc p ps]
    rfl
theorem addA_len {s : Sm} : ∀ (ps : List (Nat × Nat)) (l : List (Nat × Sm)), (addA s ps l).length ≤ l.length + ps.length
  | [], l => Nat.le_refl _
  | q :: ps, l => by
    rw [addA]
    by_cases h : (q.1, s) ∈ l
    · rw [if_pos h, List.length_cons]
      have := addA_len (s := s) ps l
      omega
    · rw [if_neg h, List.length_cons]
      have := addA_len (s := s) ps (l ++ [(q.1, s)])
      rw [List.length_append, List.length_singleton] at this; omega
def OwnA (w0 w : World) (v : Value) (L : List (Nat × Sm)) : Prop := w.ownsRow w0.heap.size 80 kindA.K v L.length (Rw.row kindA L)
def FeedsD (w0 : World) (L : List (Nat × Sm)) (w : World) (e : Ending) (w' : World) : Prop := (∃ v, e = .returned v ∧ OwnA w0 w' v L) ∧ Below w0.heap.size w0 w'
theorem feeds_kept {w0 w2 w4 : World} {o : Obj} {v vp : Value} {M : List (Nat × Sm)} {gs bp n : Nat} {l xs : List Value} (ho : w2.ownsRow w0.heap.size 80 kindA.K v M.length (Rw.row kindA M)) (hb : Below w0.heap.size w0 w2)
    (hr : Row w2 gs 78 l) (hp : w2.ownsRow bp 129 kindP.K vp n xs) (hg : (w2.alloc o).grownBy w4 v.ownBlock) :
    Below w0.heap.size w0 w4 ∧ Row w4 gs 78 l ∧ w4.ownsRow bp 129 kindP.K vp n xs :=
  ⟨Rw.own_below (ho.alloc o) hg (hb.alloc hb.size o) (Nat.le_trans hb.size ((Below.refl w2.heap.size w2).alloc (Nat.le_refl _) o).size), (hr.alloc o).grown hg (Rw.own_apart (ho.alloc o) (hr.alloc o) (by decide)), (hp.alloc o).kept hg (Rw.own_apart2 (ho.alloc o) (hp.alloc o) (by decide))⟩
set_option maxHeartbeats 8000000 in
theorem feeds_any (w0 : World) (A : Option Addr) (lg : List Gn) (c : Nat) (v0 : Value) (L : List (Nat × Sm)) (n : Nat) (s : Sm) (w : World) (hG : Gr w0 A lg) (hl : lg.length ≤ 40) (hI : ∀ x ∈ nds lg, x.ins.length ≤ 40)
    (hb : Below w0.heap.size w0 w) (ho : OwnA w0 w v0 L) (hL : L.length ≤ 59000000) :
    Calls Tryz.prog 90 #[.slice A lg.length c, v0, .int .i64 (n : Nat), s.v] w (FeedsD w0 (addA s (toG ((n : Nat) : Int) 0 (nds lg)) L) w) := by
  have hr0 : Row (w.alloc (.cells (Sm.cells s).toArray 78)) w.heap.size 78 (Sm.cells s) := Row.made w _ _
  have hb0 : Below w0.heap.size w0 (w.alloc (.cells (Sm.cells s).toArray 78)) := hb.alloc hb.size _
  have ho0 : OwnA w0 (w.alloc (.cells (Sm.cells s).toArray 78)) v0 L := World.ownsRow.alloc ho _
  have hto := refTo_any A lg c ((n : Nat) : Int) (w.alloc (.cells (Sm.cells s).toArray 78)) (hG.below hb0) hl hI
  have hln := toG_len ((n : Nat) : Int) 40 (nds lg) 0 hI
  rw [nds_len] at hln
  have hl1600 : (toG ((n : Nat) : Int) 0 (nds lg)).length ≤ 1600 := by have := Nat.mul_le_mul_right 40 hl; omega
  generalize toG ((n : Nat) : Int) 0 (nds lg) = ps at *
  have HR0 := Lib.hid hr0; have HB0 := Lib.hid hb0; have HO0 := Lib.hid ho0; have HTO := Lib.hid hto; clear hr0 hb0 ho0 hto hln hb ho hG hI
  obtain ⟨sfr, sto, skp, sad, st0, st1, st2⟩ := s
  go_enter Tryz.func90, Tryz.ntmps90
  go_wp2_with fail
  refine HTO.out.mono ?_; rintro e w1 ⟨⟨vp, rfl, hvp⟩, hb1⟩
  have hsz : w.heap.size < (w.alloc (.cells (Sm.cells ⟨sfr, sto, skp, sad, st0, st1, st2⟩).toArray 78)).heap.size := by simp
  have HB1 := Lib.hid (HB0.out.trans (hb1.mono HB0.out.size))
  have HR1 := Lib.hid (HR0.out.below hb1 HR0.out.lt)
  have ho1 : OwnA w0 w1 v0 L := Rw.own_kept HO0.out hb1
  have HO1 := Lib.hid ho1
  obtain ⟨PA, pc, rfl, _, _, _, _, _⟩ := Rw.Ts.of_own hvp
  have HVP := Lib.hid hvp; clear hvp hb1 ho1 hsz HR0 HB0 HO0 HTO
  generalize w.heap.size = gs at *
  dsimp only
  go_wp2_with fail
  go_loopw [1, 10] (fun v i wx => ∃ (q : Nat) (M : List (Nat × Sm)), i = .int .i64 q ∧ q ≤ ps.length ∧ M = addA ⟨sfr, sto, skp, sad, st0, st1, st2⟩ (ps.take q) L ∧ OwnA w0 wx v M ∧ Below w0.heap.size w0 wx ∧ Row wx gs 78 (Sm.cells ⟨sfr, sto, skp, sad, st0, st1, st2⟩) ∧ ∃ bp, wx.ownsRow bp 129 kindP.K (.slice PA ps.length pc) ps.length (Rw.row kindP ps)) (fun _ i _ => ps.length - (intOf i).toNat)
  case atStart => exact ⟨0, L, rfl, Nat.zero_le _, rfl, HO1.out, HB1.out, HR1.out, _, HVP.out⟩
  case round =>
    obtain ⟨wo, rfl⟩ : ∃ wo, wo = wr := ⟨_, rfl⟩
    obtain ⟨q, M, rfl, hq, hM, ho, hb, hr, bp, hvp⟩ := hrel
    have hMl : M.length ≤ 59002000 := by rw [hM]; have := addA_len (s := ⟨sfr, sto, skp, sad, st0, st1, st2⟩) (ps.take q) L; rw [List.length_take] at this; omega
    obtain ⟨MA, mc, rfl, hMT, _, _, _, _⟩ := Rw.Ts.of_own ho
    have HM := Lib.hid hM; have HO := Lib.hid ho; have HB := Lib.hid hb; have HR := Lib.hid hr; have HVP' := Lib.hid hvp; have HMT := Lib.hid hMT; have HML := Lib.hid hMl
    clear hM ho hb hr hvp hMT hMl HO1 HB1 HR1 HVP
    by_cases hlt : q < ps.length
    · have hqz : (q : Int) < (ps.length : Int) := by omega
      obtain ⟨⟨m, z⟩, hmz⟩ : ∃ mz, ps[q]? = some mz := ⟨_, List.getElem?_eq_getElem hlt⟩
      obtain ⟨pg, rfl⟩ : ∃ pg, PA = some ⟨pg, 0, none⟩ := by
        rcases HVP'.out.2 with ⟨_, h0⟩ | ⟨g, cap, cur, e, _⟩
        · omega
        · injection e with e; exact ⟨g, e⟩
      have hcp := HVP'.out.cells (g := pg) rfl (q * 2) (.int .i64 (m : Nat)) (by have := Rw.row_at (κ := kindP) ps q (m, z) hmz 0 _ rfl; simpa [kindP] using this)
      rw [add_zero_off] at hcp
      have htk : addA ⟨sfr, sto, skp, sad, st0, st1, st2⟩ (ps.take (q + 1)) L = if (m, (⟨sfr, sto, skp, sad, st0, st1, st2⟩ : Sm)) ∈ M then M else M ++ [(m, ⟨sfr, sto, skp, sad, st0, st1, st2⟩)] := by
        rw [List.take_add_one, hmz, Option.toList_some, addA_snoc, ← HM.out]
      have c0 : wo.cell? ⟨gs, 0, none⟩ = some (.int .i64 sfr) := HR.out.cell 0
      have c1 : wo.cell? ⟨gs, 1, none⟩ = some (.int .i64 sto) := HR.out.cell 1
      have c2 : wo.cell? ⟨gs, 2, none⟩ = some (.int .i64 skp) := HR.out.cell 2
      have c3 : wo.cell? ⟨gs, 3, none⟩ = some (.int .i64 sad) := HR.out.cell 3
      have c4 : wo.cell? ⟨gs, 4, none⟩ = some (.int .i64 st0) := HR.out.cell 4
      have c5 : wo.cell? ⟨gs, 5, none⟩ = some (.int .i64 st1) := HR.out.cell 5
      have c6 : wo.cell? ⟨gs, 6, none⟩ = some (.int .i64 st2) := HR.out.cell 6
      have hgl := HR.out.lt
      have hpl : pg < wo.heap.size := (HVP'.out.lt pg rfl).2
      have HTK := Lib.hid htk; clear htk hmz
      go_upto_region 5 with fail
      go_cut [11] from 15 to 35 (fun p wx => ∃ g, p = .pointer (some ⟨g, 0, none⟩) ∧ Row wx g 80 (kindA.cells (m, ⟨sfr, sto, skp, sad, st0, st1, st2⟩)) ∧ Below wo.heap.size wo wx)
      case first =>
        go_region
        all_goals
          go_wp2_with fail
          go_meet
          refine ⟨_, rfl, ?_, ?_⟩
          · first | exact Row.drew (Row.made _ _ _) | exact Row.made _ _ _
          · exact ((Below.refl _ _).alloc (Nat.le_refl _) _).drew
      case rest =>
        obtain ⟨g, rfl, hg, hbw⟩ := hcut
        clear c0 c1 c2 c3 c4 c5 c6 hcp
        have hh := has_any MA M mc (m, ⟨sfr, sto, skp, sad, st0, st1, st2⟩) wc (HMT.out.below hbw) (by have := HML.out; omega)
        have e0 : wc.cell? ⟨g, 0, none⟩ = some (.int .i64 (m : Nat)) := hg.cell 0
        have e1 : wc.cell? ⟨g, 1, none⟩ = some (.int .i64 sfr) := hg.cell 1
        have e2 : wc.cell? ⟨g, 2, none⟩ = some (.int .i64 sto) := hg.cell 2
        have e3 : wc.cell? ⟨g, 3, none⟩ = some (.int .i64 skp) := hg.cell 3
        have e4 : wc.cell? ⟨g, 4, none⟩ = some (.int .i64 sad) := hg.cell 4
        have e5 : wc.cell? ⟨g, 5, none⟩ = some (.int .i64 st0) := hg.cell 5
        have e6 : wc.cell? ⟨g, 6, none⟩ = some (.int .i64 st1) := hg.cell 6
        have e7 : wc.cell? ⟨g, 7, none⟩ = some (.int .i64 st2) := hg.cell 7
        have HH := Lib.hid hh; have HG := Lib.hid hg; have HBW := Lib.hid hbw; clear hh hg hbw
        go_wp2_with fail
        refine HH.out.mono ?_; rintro e w2 ⟨rfl, hb2⟩
        have hg2 := HG.out.below hb2 HG.out.lt
        have hbo := HBW.out.trans (hb2.mono HBW.out.size)
        have HG2 := Lib.hid hg2; have HBO := Lib.hid hbo; clear hb2 hg2 hbo HH HG HBW e0 e1 e2 e3 e4 e5 e6 e7
        by_cases hin : (m, (⟨sfr, sto, skp, sad, st0, st1, st2⟩ : Sm)) ∈ M
        · rw [decide_eq_true hin]
          have hnx := HTK.out
          rw [if_pos hin] at hnx
          have HNX := Lib.hid hnx; clear hnx hin
          dsimp only
          go_wp2_with fail
          go_roundw
          case rel => exact ⟨q + 1, M, by simp, by omega, HNX.out.symm, Rw.own_kept HO.out HBO.out, HB.out.trans (HBO.out.mono HB.out.size), HR.out.below HBO.out HR.out.lt, bp, Rw.own_kept HVP'.out HBO.out⟩
          case measure => simp only [intOf]; omega
        · rw [decide_eq_false hin]
          have hnx := HTK.out
          rw [if_neg hin] at hnx
          have HNX := Lib.hid hnx; clear hnx hin
          dsimp only
          have e0 : w2.cell? ⟨g, 0, none⟩ = some (.int .i64 (m : Nat)) := HG2.out.cell 0
          have e1 : w2.cell? ⟨g, 1, none⟩ = some (.int .i64 sfr) := HG2.out.cell 1
          have e2 : w2.cell? ⟨g, 2, none⟩ = some (.int .i64 sto) := HG2.out.cell 2
          have e3 : w2.cell? ⟨g, 3, none⟩ = some (.int .i64 skp) := HG2.out.cell 3
          have e4 : w2.cell? ⟨g, 4, none⟩ = some (.int .i64 sad) := HG2.out.cell 4
          have e5 : w2.cell? ⟨g, 5, none⟩ = some (.int .i64 st0) := HG2.out.cell 5
          have e6 : w2.cell? ⟨g, 6, none⟩ = some (.int .i64 st1) := HG2.out.cell 6
          have e7 : w2.cell? ⟨g, 7, none⟩ = some (.int .i64 st2) := HG2.out.cell 7
          have hown2 : w2.ownsRow w0.heap.size 80 kindA.K (.slice MA M.length mc) M.length (Rw.row kindA M) := Rw.own_kept HO.out HBO.out
          have hsz2 : w0.heap.size ≤ w2.heap.size := Nat.le_trans HB.out.size HBO.out.size
          have hb4 := HB.out.trans (HBO.out.mono HB.out.size)
          have hr4 := HR.out.below HBO.out HR.out.lt
          have hp4 := Rw.own_kept HVP'.out HBO.out
          have hty := Rw.Ts.made (κ := kindA) w2 [(m, ⟨sfr, sto, skp, sad, st0, st1, st2⟩)] 80
          have HTY := Lib.hid hty; clear hty
          have HOW := Lib.hid hown2; have HSZ := Lib.hid hsz2; have HB4 := Lib.hid hb4; have HR4 := Lib.hid hr4; have HP4 := Lib.hid hp4; clear hown2 hsz2 hb4 hr4 hp4
          go_wp2_with (at_builtin; refine Rw.append_own kindA 80 76 Tryz.underlying76 infoArr rfl rfl _ _ rfl w0.heap.size _ M.length M rfl (HOW.out.alloc _) _ 1 [(m, ⟨sfr, sto, skp, sad, st0, st1, st2⟩)] rfl (by simp) HTY.out (by unfold maxLen; have := HML.out; simp; omega) (by have := HML.out; simp; omega) (by have := HSZ.out; simp; omega) ?_; intro v2 w4 hv2 hg2; have hk2 := feeds_kept HOW.out HB4.out HR4.out HP4.out hg2; have HV := Lib.hid hv2; have HK := Lib.hid hk2; clear hv2 hg2 hk2)
          go_roundw
          case rel =>
            refine ⟨q + 1, M ++ [(m, ⟨sfr, sto, skp, sad, st0, st1, st2⟩)], by simp, by omega, HNX.out.symm, ?_, HK.out.1, HK.out.2.1, bp, HK.out.2.2⟩
            unfold OwnA
            rw [List.length_append]
            exact HV.out
          case measure => simp only [intOf]; omega
    · have hqz : ¬ (q : Int) < (ps.length : Int) := by omega
      have hqe : q = ps.length := by omega
      have HQ := Lib.hid hqe; clear hqe
      go_wp2_with fail
      go_ret
      have h := HM.out
      rw [HQ.out, List.take_length] at h
      rw [← h]
      exact ⟨⟨_, rfl, HO.out⟩, HB.out⟩
end
end Go.Proofs.YtcdofkhkckodjaaGreatDoor
