/- CheckMore's two regions in any order: the node that is added is made; it is appended to a copy. -/
import Derived.Test.YtocdganglokplaaDoorChkInts
import Derived.Test.YtocdganglokplaaDoorPcOrdA
import Derived.Test.YtocdganglokplaaDoorKey
import Derived.Maps.AppendAt
namespace Go.Proofs.YtocdganglokplaaDoor
open Go.ChangeShapes Go.WideShapes Go.ChangeAt Go.RowKit Go.BigFrame
set_option linter.unusedVariables false
set_option maxRecDepth 100000
section
variable {P : Program} {K : Value → World → Prop} {o : Oper} {a : Act} {w w' : World}
theorem m_alloc {v : Value} (t : TypeId) (ho : o.op = .alloc t) (hr : (Instr.alloc t true (.tuple #[])).run P w = .ok v w') (h : K v w') : Free.gets P K ((execOp a.eval o).run P w) := by
  unfold execOp; simp only [ho, Sem.run_bind, hr, Result.andThen_ok, Sem.run_pure, Free.gets]; exact h
theorem m_store {p q : Value} (t : TypeId) (x y : Operand) (ho : o.op = .store t x y) (hx : a.eval x = p) (hy : a.eval y = q) (hr : (Instr.storeAt t p q).run P w = .ok () w') (h : K undef w') : Free.gets P K ((execOp a.eval o).run P w) := by
  unfold execOp; simp only [ho, hx, hy, Sem.run_bind, hr, Result.andThen_ok, Sem.run_pure, Free.gets]; exact h
theorem m_lit {v : Value} (t : TypeId) (n : Nat) (parts : Array (Nat × Operand)) (ps : List (Nat × Value)) (ho : o.op = .buildSlice t n parts) (hp : (parts.toList.map fun (i, x) => (i, a.eval x)) = ps)
    (hr : (Instr.buildSlice t n ps.toArray).run P w = .ok v w') (h : K v w') : Free.gets P K ((execOp a.eval o).run P w) := by
  have e : (parts.map fun (i, x) => (i, a.eval x)) = ps.toArray := by rw [← hp, ← Array.toList_map, Array.toArray_toList]
  unfold execOp; simp only [ho, e, Sem.run_bind, hr, Result.andThen_ok, Sem.run_pure, Free.gets]; exact h
theorem m_append {v' : Value} (s x : Operand) (t : TypeId) (ho : o.op = .call { callee := .builtin .append, args := #[s, x], argTypes := #[t, t] }) (v y : Value) (hs : a.eval s = v) (hx : a.eval x = y)
    (hr : (Builtin.append_ #[t, t] o.type #[v, y]).run P w = .ok v' w') (h : K v' w') : Free.gets P K ((execOp a.eval o).run P w) := by
  unfold execOp
  simp only [ho, resolve, invoke, builtin, Sem.run_bind, Sem.run_pure, Result.andThen_ok, List.map_toArray, List.map_cons, List.map_nil, hs, hx, hr, Free.gets]
  exact h
theorem run_storeAt_row (g : Nat) (t ty : TypeId) (old cells : Array Value) (hg : w.heap[g]? = some (.cells old t (0, 0))) (hi : (P.info? ty).map (·.size) = some cells.size) (ho : old.size = cells.size) (h1 : cells.all (·.oneCell') = true) :
    (Instr.storeAt ty (.pointer (some ⟨g, 0, none⟩)) (.agg cells)).run P w = .ok () (w.setRow g cells) := by
  simp only [Instr.storeAt, Instr.sureAddr, Sem.run_bind, Sem.run_pure, Result.andThen_ok, run_storeVar_row w g t ty old cells hg hi ho h1]
end
@[reducible] def kindsV : List Value := [.int .u8 2, .int .u8 3, .int .u8 5, .int .u8 8, .int .u8 10]
def kindsL : List Nat := [2, 3, 5, 8, 10]
@[reducible] def zeroV : List Value := [.int .u8 0, .int .u8 0, .int .i64 0, .int .i64 0, .slice none 0 0]
@[reducible] def nodeV (Y K : Nat) (d : Int) : List Value := [.int .u8 (K : Nat), .int .u8 0, .int .i64 0, .int .i64 d, .slice (some ⟨Y, 0, none⟩) 1 1]
/-- the node that is added, in its block X, its input in block Y -/
structure AddS (w0 w : World) (X Y : Nat) (K : Nat) (d Z : Int) : Prop where
  node : Row w X 39 (nodeV Y K d)
  ins : Row w Y 3 [.int .i64 Z]
  x : w0.heap.size ≤ X
  y : w0.heap.size ≤ Y
  below : Below w0.heap.size w0 w
section
variable {w0 w w' : World} {X Y K r : Nat} {d d' D Z : Int}
theorem AddS.set (h : AddS w0 w X Y K d Z) : AddS w0 (w.setCell ⟨X, 3, none⟩ (.int .i64 d')) X Y K d' Z := by
  have hne : Y ≠ X := h.ins.apart h.node (by decide)
  exact ⟨h.node.put 3 _, h.ins.far hne _, h.x, h.y, h.below.setCell h.x _⟩
theorem AddS.kept (h : AddS w0 w X Y K d Z) (hb : Below w.heap.size w w') : AddS w0 w' X Y K d Z := ⟨h.node.below hb h.node.lt, h.ins.below hb h.ins.lt, h.x, h.y, h.below.trans (hb.mono h.below.size)⟩
/-- operation i has made a block, or points into it -/
def Blk (b : Nat → Bool) (vs : Nat → Value) (w0 w : World) (i : Nat) (f : Nat → Value) (t : TypeId) (l : List Value) : Prop := b i = true → ∃ B, vs i = f B ∧ w0.heap.size ≤ B ∧ Row w B t l
variable {b : Nat → Bool} {vs : Nat → Value} {i j B : Nat} {f : Nat → Value} {t : TypeId} {l : List Value} {v : Value}
theorem Blk.keep (h : Blk b vs w0 w i f t l) (hb : ∀ B, w0.heap.size ≤ B → Row w B t l → Row w' B t l) (hj : i ≠ j) : Blk (Free.updb b j) (Free.updw vs j v) w0 w' i f t l := by
  intro hi
  rw [Free.updb_ne hj] at hi
  obtain ⟨B, e, h1, h2⟩ := h hi
  exact ⟨B, by rw [Free.updw_ne hj]; exact e, h1, hb B h1 h2⟩
theorem Blk.new (hv : v = f B) (hB : w0.heap.size ≤ B) (hr : Row w' B t l) : Blk (Free.updb b i) (Free.updw vs i v) w0 w' i f t l := fun _ => ⟨B, by rw [Free.updw_self]; exact hv, hB, hr⟩
structure AddF (w0 : World) (r K : Nat) (D Z : Int) (b : Nat → Bool) (vs : Nat → Value) (w : World) : Prop where
  below : Below w0.heap.size w0 w
  k0 : Blk b vs w0 w 0 (fun B => .slice (some ⟨B, 0, none⟩) 5 5) 5 kindsV
  k3 : Blk b vs w0 w 3 (fun B => .pointer (some ⟨B, r, none⟩)) 5 kindsV
  k11 : Blk b vs w0 w 11 (fun B => .slice (some ⟨B, 0, none⟩) 1 1) 3 [.int .i64 Z]
  k12 : Blk b vs w0 w 12 (fun B => .agg (nodeV B K D).toArray) 3 [.int .i64 Z]
  k13 : b 14 = false → Blk b vs w0 w 13 (fun B => .pointer (some ⟨B, 0, none⟩)) 39 zeroV
  k14 : b 14 = true → ∃ X Y, vs 13 = .pointer (some ⟨X, 0, none⟩) ∧ AddS w0 w X Y K D Z
  o : b 14 = true → b 13 = true
theorem AddF.start (w0 : World) (vs : Nat → Value) : AddF w0 r K D Z (fun i => decide (15 ≤ i)) vs w0.drew where
  below := (Below.refl _ _).drew
  k0 := fun h => absurd h (by decide)
  k3 := fun h => absurd h (by decide)
  k11 := fun h => absurd h (by decide)
  k12 := fun h => absurd h (by decide)
  k13 := fun _ h => absurd h (by decide)
  k14 := fun h => absurd h (by decide)
  o := fun h => absurd h (by decide)
/-- an operation that only reads, or makes memory of its own -/
theorem AddF.keep (h : AddF w0 r K D Z b vs w) (hb : Below w.heap.size w w') (hj : j ≠ 0 ∧ j ≠ 3 ∧ j ≠ 11 ∧ j ≠ 12 ∧ j ≠ 13 ∧ j ≠ 14) : AddF w0 r K D Z (Free.updb b j) (Free.updw vs j v) w' := by
  obtain ⟨j0, j3, j11, j12, j13, j14⟩ := hj
  have hk : ∀ (t : TypeId) (l : List Value) (B : Nat), w0.heap.size ≤ B → Row w B t l → Row w' B t l := fun t l B _ hr => hr.below hb hr.lt
  exact ⟨h.below.trans (hb.mono h.below.size), h.k0.keep (hk _ _) (Ne.symm j0), h.k3.keep (hk _ _) (Ne.symm j3), h.k11.keep (hk _ _) (Ne.symm j11), h.k12.keep (hk _ _) (Ne.symm j12),
    fun e => by rw [Free.updb_ne (Ne.symm j14)] at e; exact (h.k13 e).keep (hk _ _) (Ne.symm j13),
    fun e => by
      rw [Free.updb_ne (Ne.symm j14)] at e
      obtain ⟨X, Y, h1, h2⟩ := h.k14 e
      exact ⟨X, Y, by rw [Free.updw_ne (Ne.symm j13)]; exact h1, h2.kept hb⟩,
    fun e => by rw [Free.updb_ne (Ne.symm j14)] at e; rw [Free.updb_ne (Ne.symm j13)]; exact h.o e⟩
theorem AddF.n0 (h : AddF w0 r K D Z b vs w) : AddF w0 r K D Z (Free.updb b 0) (Free.updw vs 0 (.slice (some ⟨w.heap.size, 0, none⟩) 5 5)) (w.alloc (.cells kindsV.toArray 5)) := by
  have hk : ∀ (t : TypeId) (l : List Value) (B : Nat), w0.heap.size ≤ B → Row w B t l → Row (w.alloc (.cells kindsV.toArray 5)) B t l := fun t l B _ hr => hr.alloc _
  exact ⟨h.below.alloc h.below.size _, Blk.new rfl h.below.size (Row.made _ _ _), h.k3.keep (hk _ _) (by decide), h.k11.keep (hk _ _) (by decide), h.k12.keep (hk _ _) (by decide),
    fun e => by rw [Free.updb_ne (by decide)] at e; exact (h.k13 e).keep (hk _ _) (by decide),
    fun e => by
      rw [Free.updb_ne (by decide)] at e
      obtain ⟨X, Y, h1, h2⟩ := h.k14 e
      exact ⟨X, Y, by rw [Free.updw_ne (by decide)]; exact h1, h2.kept ((Below.refl _ _).alloc (Nat.le_refl _) _)⟩,
    fun e => by rw [Free.updb_ne (by decide)] at e; rw [Free.updb_ne (by decide)]; exact h.o e⟩
theorem AddF.n3 (h : AddF w0 r K D Z b vs w) (hB : w0.heap.size ≤ B) (hr : Row w B 5 kindsV) : AddF w0 r K D Z (Free.updb b 3) (Free.updw vs 3 (.pointer (some ⟨B, r, none⟩))) w := by
  have hk : ∀ (t : TypeId) (l : List Value) (B : Nat), w0.heap.size ≤ B → Row w B t l → Row w B t l := fun t l B _ hr => hr
  exact ⟨h.below, h.k0.keep (hk _ _) (by decide), Blk.new rfl hB hr, h.k11.keep (hk _ _) (by decide), h.k12.keep (hk _ _) (by decide),
    fun e => by rw [Free.updb_ne (by decide)] at e; exact (h.k13 e).keep (hk _ _) (by decide),
    fun e => by
      rw [Free.updb_ne (by decide)] at e
      obtain ⟨X, Y, h1, h2⟩ := h.k14 e
      exact ⟨X, Y, by rw [Free.updw_ne (by decide)]; exact h1, h2⟩,
    fun e => by rw [Free.updb_ne (by decide)] at e; rw [Free.updb_ne (by decide)]; exact h.o e⟩
theorem AddF.n11 (h : AddF w0 r K D Z b vs w) : AddF w0 r K D Z (Free.updb b 11) (Free.updw vs 11 (.slice (some ⟨w.heap.size, 0, none⟩) 1 1)) (w.alloc (.cells #[.int .i64 Z] 3)) := by
  have hk : ∀ (t : TypeId) (l : List Value) (B : Nat), w0.heap.size ≤ B → Row w B t l → Row (w.alloc (.cells #[.int .i64 Z] 3)) B t l := fun t l B _ hr => hr.alloc _
  exact ⟨h.below.alloc h.below.size _, h.k0.keep (hk _ _) (by decide), h.k3.keep (hk _ _) (by decide), Blk.new rfl h.below.size (Row.made _ _ [.int .i64 Z]), h.k12.keep (hk _ _) (by decide),
    fun e => by rw [Free.updb_ne (by decide)] at e; exact (h.k13 e).keep (hk _ _) (by decide),
    fun e => by
      rw [Free.updb_ne (by decide)] at e
      obtain ⟨X, Y, h1, h2⟩ := h.k14 e
      exact ⟨X, Y, by rw [Free.updw_ne (by decide)]; exact h1, h2.kept ((Below.refl _ _).alloc (Nat.le_refl _) _)⟩,
    fun e => by rw [Free.updb_ne (by decide)] at e; rw [Free.updb_ne (by decide)]; exact h.o e⟩
theorem AddF.n12 (h : AddF w0 r K D Z b vs w) (hB : w0.heap.size ≤ B) (hr : Row w B 3 [.int .i64 Z]) : AddF w0 r K D Z (Free.updb b 12) (Free.updw vs 12 (.agg (nodeV B K D).toArray)) w := by
  have hk : ∀ (t : TypeId) (l : List Value) (B : Nat), w0.heap.size ≤ B → Row w B t l → Row w B t l := fun t l B _ hr => hr
  exact ⟨h.below, h.k0.keep (hk _ _) (by decide), h.k3.keep (hk _ _) (by decide), h.k11.keep (hk _ _) (by decide), Blk.new rfl hB hr,
    fun e => by rw [Free.updb_ne (by decide)] at e; exact (h.k13 e).keep (hk _ _) (by decide),
    fun e => by
      rw [Free.updb_ne (by decide)] at e
      obtain ⟨X, Y, h1, h2⟩ := h.k14 e
      exact ⟨X, Y, by rw [Free.updw_ne (by decide)]; exact h1, h2⟩,
    fun e => by rw [Free.updb_ne (by decide)] at e; rw [Free.updb_ne (by decide)]; exact h.o e⟩
theorem AddF.n13 (h : AddF w0 r K D Z b vs w) (h13 : b 13 = false) : AddF w0 r K D Z (Free.updb b 13) (Free.updw vs 13 (.pointer (some ⟨w.heap.size, 0, none⟩))) (w.alloc (.cells zeroV.toArray 39)) := by
  have hk : ∀ (t : TypeId) (l : List Value) (B : Nat), w0.heap.size ≤ B → Row w B t l → Row (w.alloc (.cells zeroV.toArray 39)) B t l := fun t l B _ hr => hr.alloc _
  have h14 : b 14 = false := by
    cases e : b 14 with
    | false => rfl
    | true => rw [h.o e] at h13; cases h13
  exact ⟨h.below.alloc h.below.size _, h.k0.keep (hk _ _) (by decide), h.k3.keep (hk _ _) (by decide), h.k11.keep (hk _ _) (by decide), h.k12.keep (hk _ _) (by decide),
    fun _ => Blk.new rfl h.below.size (Row.made _ _ _),
    fun e => (by rw [Free.updb_ne (by decide), h14] at e; cases e),
    fun _ => Free.updb_self⟩
theorem AddF.n14 (h : AddF w0 r K D Z b vs w) (h13 : b 13 = true) (hv : vs 13 = .pointer (some ⟨X, 0, none⟩)) (hX : w0.heap.size ≤ X) (hY : w0.heap.size ≤ Y) (hrx : Row w X 39 zeroV) (hry : Row w Y 3 [.int .i64 Z]) : AddF w0 r K D Z (Free.updb b 14) (Free.updw vs 14 v) (w.setRow X (nodeV Y K D).toArray) := by
  have hk : ∀ (t : TypeId) (l : List Value), t ≠ 39 → ∀ (B : Nat), w0.heap.size ≤ B → Row w B t l → Row (w.setRow X (nodeV Y K D).toArray) B t l := fun t l ht B _ hr => by
    have hne : B ≠ X := hr.apart hrx ht
    unfold Row at hr ⊢
    rw [← hr]
    simp only [World.setRow, Array.getElem?_modify]
    rw [if_neg (Ne.symm hne)]
  exact ⟨below_setRow h.below hX, h.k0.keep (hk _ _ (by decide)) (by decide), h.k3.keep (hk _ _ (by decide)) (by decide), h.k11.keep (hk _ _ (by decide)) (by decide), h.k12.keep (hk _ _ (by decide)) (by decide),
    fun e => (by rw [Free.updb_self] at e; cases e),
    fun _ => ⟨X, Y, by rw [Free.updw_ne (by decide)]; exact hv, setRow_row hrx, hk _ _ (by decide) Y hY hry, hX, hY, below_setRow h.below hX⟩,
    fun _ => by rw [Free.updb_ne (by decide)]; exact h13⟩
end
/-- what the operations yield -/
def AddV (a1 r K : Nat) (D : Int) (mb mo n c Z : Nat) : Nat → Value → Prop
  | 1, v => v = .int .u8 (a1 : Nat)
  | 2, v => v = .int .u8 (r : Nat)
  | 4, v => v = .int .u8 (K : Nat)
  | 5, v => v = .slice (some ⟨mb, mo, none⟩) n c
  | 6, v => v = .int .i64 (Z : Nat)
  | 7, v => v = .pointer (some ⟨mb, mo + Z * 5, none⟩)
  | 8, v => v = .pointer (some ⟨mb, mo + Z * 5 + 3, none⟩)
  | 9, v => v = .int .i64 D
  | 10, v => v = .int .i64 (Z : Nat)
  | _, _ => True
theorem build5 (w : World) : (Instr.buildSlice 40 5 #[(0, .int .u8 2), (1, .int .u8 3), (2, .int .u8 5), (3, .int .u8 8), (4, .int .u8 10)]).run Tryd.prog w = .ok (.slice (some ⟨w.heap.size, 0, none⟩) 5 5) (w.alloc (.cells kindsV.toArray 5)) := by
  go_simp
theorem build1 (w : World) (z : Int) : (Instr.buildSlice 33 1 #[(0, .int .i64 z)]).run Tryd.prog w = .ok (.slice (some ⟨w.heap.size, 0, none⟩) 1 1) (w.alloc (.cells #[.int .i64 z] 3)) := by
  go_simp
theorem buildN (w : World) (Y K : Nat) (d : Int) : (Instr.buildSlice 23 1 #[(0, .agg (nodeV Y K d).toArray)]).run Tryd.prog w = .ok (.slice (some ⟨w.heap.size, 0, none⟩) 1 1) (w.alloc (.cells (nodeV Y K d).toArray 39)) := by
  go_simp
theorem rem5 {a1 r : Nat} (h : (a1 : Int).tmod 5 = (r : Int)) (x y : Operand) (w : World) : (do eqGuard .rem 5 x y (.int .u8 (a1 : Nat)) (.int .u8 5); binOp .rem 5 (.int .u8 (a1 : Nat)) (.int .u8 5) : Sem Value).run Tryd.prog w = .ok (.int .u8 (r : Nat)) w := by
  go_simp
theorem index8 (B r : Nat) (hr : r < 5) (w : World) : (Instr.indexAt 40 (.slice (some ⟨B, 0, none⟩) 5 5) (.int .u8 (r : Nat))).run Tryd.prog w = .ok (.pointer (some ⟨B, r, none⟩)) w := by
  have hz : (r : Int) < 5 := by omega
  go_simp
theorem indexG (mb mo n c Z : Nat) (hZ : Z < n) (w : World) : (Instr.indexAt 23 (.slice (some ⟨mb, mo, none⟩) n c) (.int .i64 (Z : Nat))).run Tryd.prog w = .ok (.pointer (some ⟨mb, mo + Z * 5, none⟩)) w := by
  have hz : (Z : Int) < (n : Int) := by omega
  go_simp
theorem field3 (b o : Nat) (w : World) : (Instr.fieldAt 39 (.pointer (some ⟨b, o, none⟩)) 3).run Tryd.prog w = .ok (.pointer (some ⟨b, o + 3, none⟩)) w := by
  go_simp
theorem load8 {B r K : Nat} {w : World} (hr : Row w B 5 kindsV) (hK : kindsL[r]? = some K) : (Instr.loadAt 5 (.pointer (some ⟨B, r, none⟩))).run Tryd.prog w = .ok (.int .u8 (K : Nat)) w := by
  have hc : w.cell? ⟨B, r, none⟩ = some (.int .u8 (K : Nat)) := by
    rw [hr.cell]
    have : kindsV = kindsL.map fun k => Value.int .u8 (k : Nat) := rfl
    rw [this, List.getElem?_map, hK]; rfl
  go_simp
theorem loadI {b o : Nat} {D : Int} {w : World} (hc : w.cell? ⟨b, o, none⟩ = some (.int .i64 D)) : (Instr.loadAt 3 (.pointer (some ⟨b, o, none⟩))).run Tryd.prog w = .ok (.int .i64 D) w := by
  go_simp
theorem allocN (w : World) : (Instr.alloc 39 true (.tuple #[])).run Tryd.prog w = .ok (.pointer (some ⟨w.heap.size, 0, none⟩)) (w.alloc (.cells zeroV.toArray 39)) := by
  go_simp
theorem storeN {X Y K : Nat} {D : Int} {w : World} (h : Row w X 39 zeroV) : (Instr.storeAt 39 (.pointer (some ⟨X, 0, none⟩)) (.agg (nodeV Y K D).toArray)).run Tryd.prog w = .ok () (w.setRow X (nodeV Y K D).toArray) :=
  run_storeAt_row X 39 39 zeroV.toArray _ h (by show _ = some 5; kernel_rfl) rfl (by simp [Value.oneCell'])
theorem loadN {X Y K : Nat} {D : Int} {w : World} (h : Row w X 39 (nodeV Y K D)) : (Instr.loadAt 39 (.pointer (some ⟨X, 0, none⟩))).run Tryd.prog w = .ok (.agg (nodeV Y K D).toArray) w :=
  run_loadAt_part X 0 39 _ (nodeV Y K D) (fun j v hj => by rw [add_at, Nat.zero_add, h.cell]; exact hj) Tryd.underlying39 rfl (by kernel_rfl)
theorem builtN (Y K : Nat) (D : Int) : Tryd.prog.built 39 [(0, .int .u8 (K : Nat)), (3, .int .i64 D), (4, .slice (some ⟨Y, 0, none⟩) 1 1)] = some (nodeV Y K D).toArray := by
  kernel_rfl
/-- the node that is added, and where its input lies -/
def xG (Y K : Nat) (d : Int) (Z : Nat) : Gn := ⟨⟨K, 0, 0, d, [(Z : Int)]⟩, some ⟨Y, 0, none⟩, 1⟩
structure MoreF (w0 : World) (l : List Gn) (Y K : Nat) (d : Int) (Z : Nat) (b : Nat → Bool) (vs : Nat → Value) (w : World) : Prop where
  below : Below w0.heap.size w0 w
  k1 : b 1 = true → b 4 = false → ∃ base l', w0.heap.size ≤ base ∧ base ≤ w.heap.size ∧ nds l' = nds l ∧ OwnG w base (vs 1) l'
  k3 : b 3 = true → b 4 = false → ∃ B, vs 3 = .slice (some ⟨B, 0, none⟩) 1 1 ∧ Row w B 39 (nodeV Y K d)
  o : b 4 = true → b 1 = true ∧ b 3 = true
  k5 : b 5 = true → b 4 = true ∧ vs 5 = vs 4
  k4 : b 4 = true → ∃ (l' : List Gn) (A : Option Addr) (c : Nat), nds l' = nds l ∧ vs 4 = .slice A (l' ++ [xG Y K d Z]).length c ∧ Gr w A (l' ++ [xG Y K d Z]) ∧ (l' ++ [xG Y K d Z]).length ≤ c ∧ c ≤ maxLen
section
variable {w0 w w' : World} {Y K Z : Nat} {d : Int} {b : Nat → Bool} {vs : Nat → Value} {j : Nat} {v : Value} {l : List Gn}
theorem MoreF.start (w0 : World) (vs : Nat → Value) : MoreF w0 l Y K d Z (fun i => decide (6 ≤ i)) vs w0.drew :=
  ⟨(Below.refl _ _).drew, fun h => absurd h (by decide), fun h => absurd h (by decide), fun h => absurd h (by decide), fun h => absurd h (by decide), fun h => absurd h (by decide)⟩
theorem MoreF.keep (h : MoreF w0 l Y K d Z b vs w) (hj : j ≠ 1 ∧ j ≠ 3 ∧ j ≠ 4 ∧ j ≠ 5) : MoreF w0 l Y K d Z (Free.updb b j) (Free.updw vs j v) w := by
  obtain ⟨j1, j3, j4, j5⟩ := hj
  refine ⟨h.below, fun e1 e4 => ?_, fun e1 e4 => ?_, fun e => (by rw [Free.updb_ne (Ne.symm j4)] at e; rw [Free.updb_ne (Ne.symm j1), Free.updb_ne (Ne.symm j3)]; exact h.o e), fun e => (by rw [Free.updb_ne (Ne.symm j5)] at e; rw [Free.updb_ne (Ne.symm j4), Free.updw_ne (Ne.symm j5), Free.updw_ne (Ne.symm j4)]; exact h.k5 e), fun e => ?_⟩
  · rw [Free.updb_ne (Ne.symm j1)] at e1; rw [Free.updb_ne (Ne.symm j4)] at e4; rw [Free.updw_ne (Ne.symm j1)]; exact h.k1 e1 e4
  · rw [Free.updb_ne (Ne.symm j3)] at e1; rw [Free.updb_ne (Ne.symm j4)] at e4; rw [Free.updw_ne (Ne.symm j3)]; exact h.k3 e1 e4
  · rw [Free.updb_ne (Ne.symm j4)] at e; rw [Free.updw_ne (Ne.symm j4)]; exact h.k4 e
theorem MoreF.n1 (h : MoreF w0 l Y K d Z b vs w) (hbi : b 1 = false) (hb : Below w.heap.size w w') {l' : List Gn} (hn : nds l' = nds l) (ho : OwnG w' w.heap.size v l') : MoreF w0 l Y K d Z (Free.updb b 1) (Free.updw vs 1 v) w' := by
  have h4 : b 4 = false := by
    cases e : b 4 with
    | false => rfl
    | true => rw [(h.o e).1] at hbi; cases hbi
  refine ⟨h.below.trans (hb.mono h.below.size), fun _ _ => ⟨w.heap.size, l', h.below.size, hb.size, hn, by rw [Free.updw_self]; exact ho⟩, fun e1 e4 => ?_, fun e => (by rw [Free.updb_ne (by decide), h4] at e; cases e), fun e => (by rw [Free.updb_ne (by decide)] at e; rw [(h.k5 e).1] at h4; cases h4), fun e => ?_⟩
  · rw [Free.updb_ne (by decide)] at e1
    obtain ⟨B, e, hr⟩ := h.k3 e1 h4
    exact ⟨B, by rw [Free.updw_ne (by decide)]; exact e, hr.below hb hr.lt⟩
  · rw [Free.updb_ne (by decide), h4] at e; cases e
theorem MoreF.n3 (h : MoreF w0 l Y K d Z b vs w) (hbi : b 3 = false) : MoreF w0 l Y K d Z (Free.updb b 3) (Free.updw vs 3 (.slice (some ⟨w.heap.size, 0, none⟩) 1 1)) (w.alloc (.cells (nodeV Y K d).toArray 39)) := by
  have h4 : b 4 = false := by
    cases e : b 4 with
    | false => rfl
    | true => rw [(h.o e).2] at hbi; cases hbi
  refine ⟨h.below.alloc h.below.size _, fun e1 e4 => ?_, fun e1 e4 => ⟨w.heap.size, by rw [Free.updw_self], Row.made _ _ _⟩, fun e => (by rw [Free.updb_ne (by decide), h4] at e; cases e), fun e => (by rw [Free.updb_ne (by decide)] at e; rw [(h.k5 e).1] at h4; cases h4), fun e => ?_⟩
  · rw [Free.updb_ne (by decide)] at e1
    obtain ⟨base, l', h1, h2, h3, ho⟩ := h.k1 e1 h4
    exact ⟨base, l', h1, by have := ((Below.refl w.heap.size w).alloc (Nat.le_refl _) (.cells (nodeV Y K d).toArray 39)).size; omega, h3, by rw [Free.updw_ne (by decide)]; exact ho.alloc _⟩
  · rw [Free.updb_ne (by decide), h4] at e; cases e
theorem MoreF.n5 (h : MoreF w0 l Y K d Z b vs w) (h4 : b 4 = true) : MoreF w0 l Y K d Z (Free.updb b 5) (Free.updw vs 5 (vs 4)) w :=
  ⟨h.below, fun _ e => (by rw [Free.updb_ne (by decide), h4] at e; cases e), fun _ e => (by rw [Free.updb_ne (by decide), h4] at e; cases e), fun _ => (by rw [Free.updb_ne (by decide), Free.updb_ne (by decide)]; exact h.o h4),
    fun _ => ⟨by rw [Free.updb_ne (by decide)]; exact h4, by rw [Free.updw_self, Free.updw_ne (by decide)]⟩, fun _ => by rw [Free.updw_ne (by decide)]; exact h.k4 h4⟩
/-- the append -/
theorem MoreF.more (h : MoreF w0 l Y K d Z b vs w) (h1 : b 1 = true) (h3 : b 3 = true) (h4 : b 4 = false) (hY : Y < w0.heap.size) (hins : Row w0 Y 3 [.int .i64 (Z : Nat)]) (hl : l.length ≤ 40) (hx : (xG Y K d Z).Ok) (ty : TypeId) :
    ∃ v' w', (Builtin.append_ #[23, 23] ty #[vs 1, vs 3]).run Tryd.prog w = .ok v' w' ∧ MoreF w0 l Y K d Z (Free.updb b 4) (Free.updw vs 4 v') w' := by
  obtain ⟨base, l', hb0, hbw, hn, ho⟩ := h.k1 h1 h4
  obtain ⟨B, e3, hr⟩ := h.k3 h3 h4
  rw [e3]
  have hll : l'.length = l.length := by have := congrArg List.length hn; rwa [nds_len, nds_len] at this
  obtain ⟨i, hi, hz0, hz1, hz2⟩ := info_parts infoNode
  obtain ⟨v', w', hrun, hown, hg, _, _⟩ := Go.run_append_own_at (P := Tryd.prog) w base 23 ty 39 i _ 5 48 Tryd.underlying23 hi hz0 hz1 hz2 rfl (by decide) (vs 1) l'.length (Rw.row kindG l') ho.row ⟨B, 0, none⟩ 1 1 (nodeV Y K d) rfl
    (fun j u hj => by rw [add_at, Nat.zero_add, hr.cell]; exact hj) (fun u hu => by simp only [nodeV, List.mem_cons, List.not_mem_nil, or_false] at hu; rcases hu with rfl | rfl | rfl | rfl | rfl <;> rfl) (by unfold maxLen; omega) (by omega) hbw
  refine ⟨v', w', hrun, ⟨h.below.trans ⟨hg.os, hg.tape, hg.output, hg.size, fun k hk => hg.block k (by have := h.below.size; omega) fun e => ?_⟩, fun _ e => (by rw [Free.updb_self] at e; cases e), fun _ e => (by rw [Free.updb_self] at e; cases e), fun _ => (by rw [Free.updb_ne (by decide), Free.updb_ne (by decide)]; exact ⟨h1, h3⟩), fun e => (by rw [Free.updb_ne (by decide)] at e; rw [(h.k5 e).1] at h4; cases h4), fun _ => ?_⟩⟩
  · have := (ho.row.lt k e.symm).1; omega
  · have hown' : w'.ownsRow base 39 kindG.K v' (l' ++ [xG Y K d Z]).length (Rw.row kindG (l' ++ [xG Y K d Z])) := by
      rw [List.length_append, Rw.row_append, Rw.row_cons, Rw.row_nil, List.append_nil]; exact hown
    obtain ⟨A, c, e, hT, hc1, hc2, _⟩ := Rw.Ts.of_own hown'
    have hinsw : Row w Y 3 [.int .i64 (Z : Nat)] := hins.below h.below hY
    refine ⟨l', A, c, hn, by rw [Free.updw_self]; exact e, ⟨hT, fun y hy => ?_⟩, hc1, hc2⟩
    rcases List.mem_append.1 hy with hy | hy
    · refine ⟨ho.ok y hy, ?_⟩
      obtain ⟨A', c', e', hT', _⟩ := Rw.Ts.of_own ((ho.ins y hy).kept hg (ints_apart ho.row (ho.ins y hy)))
      cases e'
      exact hT'
    · simp only [List.mem_singleton] at hy
      subst hy
      refine ⟨hx, Rw.Ts.of_row (t := 3) (hinsw.grown hg fun e => ?_)⟩
      have := (ho.row.lt Y e.symm).1; omega
end
def MoreV (mb mo n c Y K : Nat) (d : Int) : Nat → Value → Prop
  | 0, v => v = .slice (some ⟨mb, mo, none⟩) n c
  | 2, v => v = .agg (nodeV Y K d).toArray
  | _, _ => True
theorem xG_ok {Y K Z : Nat} {d : Int} (hK : K ≤ 10) (hd : -10 ≤ d ∧ d ≤ 10) (hZ : Z ≤ 100) : (xG Y K d Z).Ok :=
  ⟨by show K < 256; omega, by show (0 : Nat) < 256; decide, by show (-9223372036854775808 : Int) ≤ 0 ∧ (0 : Int) ≤ 9223372036854775807; decide, by show (-9223372036854775808 : Int) ≤ d ∧ d ≤ 9223372036854775807; omega, fun z hz => by
    obtain rfl := List.mem_singleton.1 hz
    omega, by show (1 : Nat) ≤ 1 ∧ 1 ≤ maxLen; decide, fun e => by cases e⟩
theorem nds_more {l l' : List Gn} {Y K Z : Nat} {d : Int} (h : nds l' = nds l) : nds (l' ++ [xG Y K d Z]) = nds l ++ [⟨K, 0, 0, d, [(Z : Int)]⟩] := by
  unfold nds at h ⊢
  rw [List.map_append, h]; rfl
end Go.Proofs.YtocdganglokplaaDoor
