/- OpGroup, OpRed -/
import Derived.Test.YtcjdjdhjbchaaaaCa11
import Derived.Test.YtcjdjdhjbchaaaaCa8
import Derived.Test.YtcjdjdhjbchaaaaCa7
import Derived.Test.YtcjdjdhjbchaaaaCa5
import Derived.Maps.GroupsBeside
import Derived.Maps.RangeWalk
namespace Go.Proofs.Ytcjdjdhjbchaaaa
set_option linter.unusedVariables false
section
namespace Op
open Go.ChangeShapes Go.WideShapes Go.ChangeAt Go.RowKit Go.BigFrame Vr
open Go.Maps (Keyed)
set_option maxRecDepth 100000
section
variable {P : Program} {K : Value → World → Prop} {o : Oper} {a : Act} {w w' : World}
theorem m_append {v' : Value} (s x : Operand) (t : TypeId) (ho : o.op = .call { callee := .builtin .append, args := #[s, x], argTypes := #[t, t] }) (v y : Value) (hs : a.eval s = v) (hx : a.eval x = y)
    (hr : (Builtin.append_ #[t, t] o.type #[v, y]).run P w = .ok v' w') (h : K v' w') : Free.gets P K ((execOp a.eval o).run P w) := by
  unfold execOp
  simp only [ho, resolve, invoke, builtin, Sem.run_bind, Sem.run_pure, Result.andThen_ok, List.map_toArray, List.map_cons, List.map_nil, hs, hx, hr, Free.gets]
  exact h
theorem m_lit {v : Value} (t : TypeId) (n : Nat) (parts : Array (Nat × Operand)) (ps : List (Nat × Value)) (ho : o.op = .buildSlice t n parts) (hp : (parts.toList.map fun (i, x) => (i, a.eval x)) = ps)
    (hr : (Instr.buildSlice t n ps.toArray).run P w = .ok v w') (h : K v w') : Free.gets P K ((execOp a.eval o).run P w) := by
  have e : (parts.map fun (i, x) => (i, a.eval x)) = ps.toArray := by rw [← hp, ← Array.toList_map, Array.toArray_toList]
  unfold execOp; simp only [ho, e, Sem.run_bind, hr, Result.andThen_ok, Sem.run_pure, Free.gets]; exact h
theorem m_lookup {v : Value} (t : TypeId) (mo x : Operand) (c : Bool) (hop : o.op = Op.lookup t mo x c) (m key : Value) (hm : a.eval mo = m) (hx : a.eval x = key)
    (hr : (Instr.lookup t m key c).run P w = .ok v w') (h : K v w') : Free.gets P K ((execOp a.eval o).run P w) := by
  unfold execOp; simp only [hop, hm, hx, Sem.run_bind, hr, Result.andThen_ok, Sem.run_pure, Free.gets]; exact h
theorem m_mapUpdate (mo x v : Operand) (t : TypeId) (hop : o.op = Op.mapUpdate t mo x v) (m key val : Value) (hm : a.eval mo = m) (hx : a.eval x = key) (hv : a.eval v = val)
    (hr : (Instr.mapUpdate t m key val).run P w = .ok () w') (h : K undef w') : Free.gets P K ((execOp a.eval o).run P w) := by
  unfold execOp
  simp only [hop, hm, hx, hv, Sem.run_bind, hr, Result.andThen_ok, Sem.run_pure, Free.gets]
  exact h
end
theorem keyed64 : Keyed Try.prog 2 := Go.Maps.int_keyed Try.underlying2
theorem wf64 {k : Int} (h : -9223372036854775808 ≤ k ∧ k < 9223372036854775808) : (Lit.int .i64 k).wf = true := by
  have : -9223372036854775808 ≤ k ∧ k ≤ 9223372036854775807 := by omega
  simpa [Lit.wf, IntKind.min, IntKind.max, IntKind.signed, IntKind.bits] using this
theorem key64 {k : Int} (h : -9223372036854775808 ≤ k ∧ k < 9223372036854775808) : keyOf Try.prog 2 (.int .i64 k) = some (.int .i64 k) := Go.Maps.keyOf_int_mk Try.underlying2 (wf64 h)
theorem zero_ints (w : World) : (zeroValue 58).run Try.prog w = .ok (.slice none 0 0) w := by kernel_rfl
theorem info64 : (Try.prog.info? 2).map (fun i => (i.zero, i.size, i.bytes)) = some (some (.int .i64 0), 1, 8) := by kernel_rfl
theorem keyLit64 {k : Int} : WideAt.IsKeyLit (.int .i64 k) := by trivial
theorem lits_inj {zs ys : List Int} (h : lits (H := Unit) .i64 zs = lits .i64 ys) : zs = ys := (List.map_inj_right (fun a b hab => by cases hab; rfl)).1 h
/-- a map's datum: the numbers of each key of l -/
structure GD (D : DataW Unit) (l : List Rd) : Prop where
  isMap : Maps.IsMap D
  has : ∀ k : Int, Maps.has D (.int .i64 k) = decide (k ∈ keysOf l)
  at_ : ∀ k : Int, k ∈ keysOf l → ∀ zd, D.atKey (.int .i64 k) zd = .slice (lits .i64 (valsOf l k)) []
theorem GD.start : GD (.map []) [] := ⟨Maps.isMap_empty, fun k => rfl, fun k hk => by cases hk⟩
theorem GD.look {D : DataW Unit} {l : List Rd} (h : GD D l) {w : World} {base : Nat} {e : TypeId} {v : Value} {zs : List Int} {k : Int} (ho : w.ownsInts base e .i64 v zs) (hat : D.atKey (.int .i64 k) .nil = rowDatum .i64 v zs) : zs = valsOf l k := by
  by_cases hk : k ∈ keysOf l
  · rw [h.at_ k hk] at hat
    rcases ho.datum (H := Unit) with ⟨e1, _⟩ | e1
    · rw [e1] at hat; cases hat
    · rw [e1] at hat
      injection hat with hat
      exact (lits_inj hat).symm
  · have hf := h.has k
    rw [decide_eq_false hk] at hf
    rw [Maps.atKey_of_not_has hf] at hat
    rw [valsOf_none.2 hk]
    rcases ho.datum (H := Unit) with ⟨_, e1⟩ | e1
    · exact e1
    · rw [e1] at hat; cases hat
theorem GD.step {D : DataW Unit} {l : List Rd} {r : Rd} (h : GD D l) : GD (D.put (.int .i64 r.k) (.slice (lits .i64 (valsOf l r.k ++ [r.v])) [])) (l ++ [r]) := by
  have hm : ∀ k, k ∈ keysOf (l ++ [r]) ↔ k ∈ keysOf l ∨ k = r.k := fun k => by
    rw [keysOf_snoc]
    split
    · rename_i hr
      constructor
      · exact .inl
      · rintro (h | rfl)
        · exact h
        · exact hr
    · rw [List.mem_append, List.mem_singleton]
  refine ⟨h.isMap.put _ _, fun k => ?_, fun k hk zd => ?_⟩
  · by_cases e : k = r.k
    · subst e
      rw [Maps.has_put_same h.isMap keyLit64, decide_eq_true ((hm _).2 (.inr rfl))]
    · rw [Maps.has_put_other (by simpa using e), h.has k]
      rw [Bool.eq_iff_iff, decide_eq_true_iff, decide_eq_true_iff, hm]
      simp [e]
  · by_cases e : k = r.k
    · subst e
      rw [Maps.atKey_put_same h.isMap keyLit64, valsOf_snoc, if_pos rfl]
    · rw [Maps.atKey_put_other (by simpa using e), valsOf_snoc, if_neg (fun q => e q.symm), h.at_ k (((hm k).1 hk).resolve_right e)]
section
variable {wz w w' : World} {base B n B2 : Nat} {D : DataW Unit} {r : Rd} {v : Value} {b : Nat → Bool} {vs : Nat → Value}
@[reducible] def GOwn (w : World) (base B n : Nat) (D : DataW Unit) : Prop := w.ownsGroups Try.prog 2 base 2 .i64 B n D
@[reducible] def GBack (w : World) (base B n : Nat) (D : DataW Unit) (k : Int) (v : Value) : Prop := w.groupBack Try.prog 79 2 base 2 .i64 B n D (.int .i64 k) (.int .i64 k) v
/-- what the look-up gave -/
def LookG (wz : World) (base B n : Nat) (D : DataW Unit) (r : Rd) (v : Value) (w : World) : Prop :=
  ∃ wL zs, Below wz.heap.size wz wL ∧ Below wL.heap.size wL w ∧ D.atKey (.int .i64 r.k) .nil = rowDatum .i64 v zs ∧ wL.ownsInts base 2 .i64 v zs ∧ zs.length ≤ n ∧ GBack wL base B n D r.k v
def OneG (r : Rd) (v : Value) (w : World) : Prop := ∃ g, v = .slice (some ⟨g, 0, none⟩) 1 1 ∧ Row w g 2 [.int .i64 r.v]
/-- what the append gave -/
def AppG (wz : World) (base B n : Nat) (D : DataW Unit) (r : Rd) (v' : Value) (w : World) : Prop :=
  ∃ wL v zs, Below wz.heap.size wz wL ∧ D.atKey (.int .i64 r.k) .nil = rowDatum .i64 v zs ∧ wL.ownsInts base 2 .i64 v zs ∧ wL.grownBy w v.ownBlock ∧ w.ownsInts base 2 .i64 v' (zs ++ [r.v]) ∧ zs.length ≤ n ∧
    (v'.ownBlock = v.ownBlock ∨ ∃ g, v'.ownBlock = some g ∧ wL.heap.size ≤ g) ∧ GBack wL base B n D r.k v
def DoneG (wz : World) (base B n : Nat) (D : DataW Unit) (r : Rd) (w : World) : Prop :=
  ∃ wL w1 v zs v', Below wz.heap.size wz wL ∧ D.atKey (.int .i64 r.k) .nil = rowDatum .i64 v zs ∧ wL.ownsInts base 2 .i64 v zs ∧ wL.grownBy w1 v.ownBlock ∧ w1.ownsInts base 2 .i64 v' (zs ++ [r.v]) ∧ w1.grownBy w (some B) ∧ GOwn w base B (n + 1) (D.put (.int .i64 r.k) (rowDatum .i64 v' (zs ++ [r.v])))
/-- the class of the region -/
structure GF (wz : World) (base B n B2 : Nat) (D : DataW Unit) (r : Rd) (b : Nat → Bool) (vs : Nat → Value) (w : World) : Prop where
  row : Row w B2 36 [.int .i64 r.k, .int .i64 r.v]
  o10 : b 10 = true → b 6 = true ∧ b 9 = true
  o11 : b 11 = true → b 10 = true
  s0 : b 10 = false → Below wz.heap.size wz w
  s6 : b 10 = false → b 6 = true → LookG wz base B n D r (vs 6) w
  s9 : b 10 = false → b 9 = true → OneG r (vs 9) w
  s10 : b 10 = true → b 11 = false → AppG wz base B n D r (vs 10) w
  s11 : b 11 = true → DoneG wz base B n D r w
theorem GF.quiet (h : GF wz base B n B2 D r b vs w) {i : Nat} (h6 : 6 ≠ i) (h9 : 9 ≠ i) (h10 : 10 ≠ i) (h11 : 11 ≠ i) : GF wz base B n B2 D r (Free.updb b i) (Free.updw vs i v) w := by
  have e6 : Free.updb b i 6 = b 6 := Free.updb_ne h6
  have e9 : Free.updb b i 9 = b 9 := Free.updb_ne h9
  have e10 : Free.updb b i 10 = b 10 := Free.updb_ne h10
  have e11 : Free.updb b i 11 = b 11 := Free.updb_ne h11
  have u6 : Free.updw vs i v 6 = vs 6 := Free.updw_ne h6
  have u9 : Free.updw vs i v 9 = vs 9 := Free.updw_ne h9
  have u10 : Free.updw vs i v 10 = vs 10 := Free.updw_ne h10
  exact ⟨h.row, by rw [e6, e9, e10]; exact h.o10, by rw [e10, e11]; exact h.o11, by rw [e10]; exact h.s0, by rw [e10, e6, u6]; exact h.s6, by rw [e10, e9, u9]; exact h.s9, by rw [e10, e11, u10]; exact h.s10, by rw [e11]; exact h.s11⟩
theorem GOwn.below (h : GOwn w base B n D) (hb : Below w.heap.size w w') : GOwn w' base B n D := h.kept (Rw.grown_below hb none) (by simp) fun es clock _ x _ => by cases x.val.ownBlock <;> simp
theorem ints_below {T : TypeId} {zs : List Int} (h : w.ownsInts base T .i64 v zs) (hb : Below w.heap.size w w') : w'.ownsInts base T .i64 v zs := h.kept (Rw.grown_below hb none) (by cases v.ownBlock <;> simp)
theorem GF.look (h : GF wz base B n B2 D r b vs w) (hG : GOwn wz base B n D) (hn : n < maxLen) (hW : r.W) (hb : b 6 = false) :
    ∃ v, (Instr.lookup 79 (.map (some B)) (.int .i64 r.k) false).run Try.prog w = .ok v w ∧ GF wz base B n B2 D r (Free.updb b 6) (Free.updw vs 6 v) w := by
  have h10 : b 10 = false := by
    cases e : b 10 with
    | false => rfl
    | true => have := (h.o10 e).1; rw [hb] at this; cases this
  have h11 : b 11 = false := by
    cases e : b 11 with
    | false => rfl
    | true => have := h.o11 e; rw [h10] at this; cases this
  have hB := h.s0 h10
  obtain ⟨v, zs, hrun, hat, hoi, hzl, hback⟩ := (hG.below hB).at keyed64 (t := 79) Try.underlying79 (zero_ints _) hn (key64 hW.1)
  refine ⟨v, hrun, h.row, ?_, ?_, ?_, ?_, ?_, ?_, ?_⟩
  · rw [Free.updb_ne (by decide)]; intro e; rw [h10] at e; cases e
  · rw [Free.updb_ne (by decide)]; intro e; rw [h11] at e; cases e
  · intro _; exact hB
  · intro _ _; rw [Free.updw_self]; exact ⟨w, zs, hB, Below.refl _ _, hat, hoi, hzl, hback⟩
  · rw [Free.updb_ne (by decide), Free.updb_ne (by decide), Free.updw_ne (by decide)]; exact h.s9
  · rw [Free.updb_ne (by decide)]; intro e; rw [h10] at e; cases e
  · rw [Free.updb_ne (by decide)]; intro e; rw [h11] at e; cases e
theorem GF.one (h : GF wz base B n B2 D r b vs w) (hb : b 9 = false) : GF wz base B n B2 D r (Free.updb b 9) (Free.updw vs 9 (.slice (some ⟨w.heap.size, 0, none⟩) 1 1)) (w.alloc (.cells #[.int .i64 r.v] 2)) := by
  have h10 : b 10 = false := by
    cases e : b 10 with
    | false => rfl
    | true => have := (h.o10 e).2; rw [hb] at this; cases this
  have h11 : b 11 = false := by
    cases e : b 11 with
    | false => rfl
    | true => have := h.o11 e; rw [h10] at this; cases this
  have ha : Below w.heap.size w (w.alloc (.cells #[.int .i64 r.v] 2)) := (Below.refl _ _).alloc (Nat.le_refl _) _
  refine ⟨h.row.alloc _, ?_, ?_, ?_, ?_, ?_, ?_, ?_⟩
  · rw [Free.updb_ne (by decide)]; intro e; rw [h10] at e; cases e
  · rw [Free.updb_ne (by decide)]; intro e; rw [h11] at e; cases e
  · intro _; exact (h.s0 h10).trans (ha.mono (h.s0 h10).size)
  · rw [Free.updb_ne (by decide), Free.updb_ne (by decide), Free.updw_ne (by decide)]
    intro e1 e2
    obtain ⟨wL, zs, h1, h2, h3⟩ := h.s6 e1 e2
    exact ⟨wL, zs, h1, h2.trans (ha.mono h2.size), h3⟩
  · intro _ _; rw [Free.updw_self]; exact ⟨_, rfl, Row.made w _ _⟩
  · rw [Free.updb_ne (by decide)]; intro e; rw [h10] at e; cases e
  · rw [Free.updb_ne (by decide)]; intro e; rw [h11] at e; cases e
theorem GF.app (h : GF wz base B n B2 D r b vs w) (hn : n < 100000000) (hW : r.W) (hbase : base ≤ wz.heap.size) (h6 : b 6 = true) (h9 : b 9 = true) (hb : b 10 = false) :
    ∃ v' w', (Builtin.append_ #[58, 58] 58 #[vs 6, vs 9]).run Try.prog w = .ok v' w' ∧ GF wz base B n B2 D r (Free.updb b 10) (Free.updw vs 10 v') w' := by
  obtain ⟨i, hi, hz0, hz1, hz2⟩ := info_parts info64
  have h11 : b 11 = false := by
    cases e : b 11 with
    | false => rfl
    | true => have := h.o11 e; rw [hb] at this; cases this
  obtain ⟨wL, zs, h1, h2, hat, hoi, hzl, hback⟩ := h.s6 hb h6
  obtain ⟨g, hg, hrow⟩ := h.s9 hb h9
  have hoi' := ints_below hoi h2
  obtain ⟨v', w', hr, r2, r3, r4, r5⟩ := run_append_own_at (P := Try.prog) w base 58 58 2 i _ 1 8 Try.underlying58 hi hz0 hz1 hz2 rfl (by decide) (vs 6) zs.length (zs.map (Value.int .i64)) hoi'.1 ⟨g, 0, none⟩ 1 1 [.int .i64 r.v] rfl
    (fun j u hj => by
      match j, hj with
      | 0, hj => have := hrow.cell 0; rw [show ((⟨g, 0, none⟩ : Addr).add 0) = ⟨g, 0, none⟩ from rfl, this]; exact hj
      | j + 1, hj => simp at hj)
    (by simp [Value.oneCell']) (by unfold maxLen; omega) (by omega) (Nat.le_trans hbase (Nat.le_trans h1.size h2.size))
  rw [hg]
  refine ⟨v', w', hr, h.row.grown r3 (Rw.own_apart hoi'.1 h.row (by decide)), ?_, ?_, ?_, ?_, ?_, ?_, ?_⟩
  · intro _; rw [Free.updb_ne (by decide), Free.updb_ne (by decide)]; exact ⟨h6, h9⟩
  · intro _; exact Free.updb_self
  · intro e; rw [Free.updb_self] at e; cases e
  · intro e; rw [Free.updb_self] at e; cases e
  · intro e; rw [Free.updb_self] at e; cases e
  · intro _ _
    rw [Free.updw_self]
    refine ⟨wL, vs 6, zs, h1, hat, hoi, (Rw.grown_below h2 _).trans r3, hoi'.appended (by simpa using r2) (wf64 hW.2), hzl, r5.imp id fun e => ⟨_, e, h2.size⟩, hback⟩
  · rw [Free.updb_ne (by decide)]; intro e; rw [h11] at e; cases e
theorem GF.put (h : GF wz base B n B2 D r b vs w) (hB2 : B2 ≠ B) (h10 : b 10 = true) (hb : b 11 = false) :
    ∃ w', (Instr.mapUpdate 79 (.map (some B)) (.int .i64 r.k) (vs 10)).run Try.prog w = .ok () w' ∧ ∀ v, GF wz base B n B2 D r (Free.updb b 11) (Free.updw vs 11 v) w' := by
  obtain ⟨wL, v, zs, h1, hat, hoi, hgr, hown, hzl, hloc, hback⟩ := h.s10 h10 hb
  obtain ⟨w2, hrun, r1, r2⟩ := hback w (vs 10) (zs ++ [r.v]) hgr hown (by simp; omega) hloc
  refine ⟨w2, hrun, fun u => ⟨h.row.grown r2 (by simpa using hB2), ?_, ?_, ?_, ?_, ?_, ?_, ?_⟩⟩
  · rw [Free.updb_ne (by decide), Free.updb_ne (by decide), Free.updb_ne (by decide)]; exact h.o10
  · intro _; rw [Free.updb_ne (by decide)]; exact h10
  · rw [Free.updb_ne (by decide)]; intro e; rw [h10] at e; cases e
  · rw [Free.updb_ne (by decide)]; intro e; rw [h10] at e; cases e
  · rw [Free.updb_ne (by decide)]; intro e; rw [h10] at e; cases e
  · intro _ e; rw [Free.updb_self] at e; cases e
  · intro _; exact ⟨wL, w, v, zs, vs 10, h1, hat, hoi, hgr, hown, r2, r1⟩
theorem GF.start (hrow : Row wz B2 36 [.int .i64 r.k, .int .i64 r.v]) : GF wz base B n B2 D r (fun i => decide (12 ≤ i)) vs wz.drew :=
  ⟨hrow, by simp, by simp, fun _ => (Below.refl _ _).drew, by simp, by simp, by simp, by simp⟩
end
def vtG (B B2 : Nat) (r : Rd) (i : Nat) (v : Value) : Prop := match i with
  | 0 => v = .map (some B)
  | 1 => v = .pointer (some ⟨B2, 0, none⟩)
  | 2 => v = .int .i64 r.k
  | 3 => v = .map (some B)
  | 4 => v = .pointer (some ⟨B2, 0, none⟩)
  | 5 => v = .int .i64 r.k
  | 7 => v = .pointer (some ⟨B2, 1, none⟩)
  | 8 => v = .int .i64 r.v
  | _ => True
/-- block B is a map of the numbers of each key of l -/
def GroupsD (l : List Rd) (w : World) (e : Ending) (w' : World) : Prop := (∃ B base n D, e = .returned (.map (some B)) ∧ GOwn w' base B n D ∧ GD D l ∧ n ≤ l.length) ∧ Below w.heap.size w w'
set_option maxHeartbeats 4000000 in
theorem byKeys_any (A : Option Addr) (l : List Rd) (c : Nat) (w : World) (hT : Rw.Ts kindR w A l) (hW : ∀ r ∈ l, r.W) (hl : l.length ≤ 100000) : Calls Try.prog 57 #[.slice A l.length c] w (GroupsD l w) := by
  have hmm := @run_makeMap Try.prog
  have HT := Lib.hid hT; have HW := Lib.hid hW; clear hT hW
  go_enter Try.func57, Try.ntmps57
  go_wp2_with fail
  clear hmm
  go_loopw [9] (fun i wr => ∃ k : Nat, k ≤ l.length ∧ i = .int .i64 k ∧ ∃ D, GOwn wr (w.heap.size + 1) w.heap.size k D ∧ GD D (l.take k) ∧ Below w.heap.size w wr ∧ w.heap.size + 1 ≤ wr.heap.size) (fun i _ => l.length - (intOf i).toNat)
  case atStart => exact ⟨0, Nat.zero_le _, rfl, _, World.ownsGroups_made _ _ _ _ _, GD.start, (Below.refl _ _).alloc (Nat.le_refl _) _, by simp⟩
  case round =>
    obtain ⟨k, hk, rfl, D, hown, hgd, hnx, hws⟩ := hrel
    have HO := Lib.hid hown; have HGD := Lib.hid hgd; have HNX := Lib.hid hnx; have HWS := Lib.hid hws; clear hown hgd hnx hws
    by_cases hlt : k < l.length
    · have hltz : (k : Int) < (l.length : Int) := by omega
      obtain ⟨r, hr⟩ : ∃ r, l[k]? = some r := ⟨_, List.getElem?_eq_getElem hlt⟩
      obtain ⟨b1, o1, rfl, hb1, hcl⟩ := recs_at HT.out hr
      obtain ⟨e0, e1⟩ := hcl wr HNX.out
      have hrW := HW.out r (List.mem_of_getElem? hr)
      have HR := Lib.hid hr; have HRW := Lib.hid hrW; clear hr hcl hrW
      go_upto_region 5 with fail
      have hbx := Row.made wr 36 [.int .i64 r.k, .int .i64 r.v]
      have hal := (Below.refl wr.heap.size wr).alloc (Nat.le_refl _) (.cells #[.int .i64 r.k, .int .i64 r.v] 36)
      have hoz := HO.out.below hal
      have hnz := HNX.out.alloc HNX.out.size (.cells #[.int .i64 r.k, .int .i64 r.v] 36)
      simp only [List.toArray] at hbx
      have hB2 : w.heap.size + 1 ≤ wr.heap.size := HWS.out
      clear hal e0 e1 HO HNX
      generalize wr.alloc (.cells #[.int .i64 r.k, .int .i64 r.v] 36) = wz at *
      generalize wr.heap.size = B2 at *
      have hbz := hbx.lt
      have HBX := Lib.hid hbx; have HOZ := Lib.hid hoz; have HNZ := Lib.hid hnz; have HBZ := Lib.hid hbz
      clear hbx hoz hnz hbz
      refine Free.wp_key (by kernel_rfl) (by kernel_rfl) (GF wz (w.heap.size + 1) w.heap.size k B2 D r) (vtG w.heap.size B2 r) (fun vs => GF.start HBX.out) ?_ ?_
      · intro i o hi b vs a wa hold hpre hbi hF
        match i with
        | 0 => cases hi; exact Free.c_all rfl (Free.g_move _ rfl ⟨(hold 3 (by decide)).trans rfl, hF.quiet (by decide) (by decide) (by decide) (by decide)⟩)
        | 1 =>
          cases hi
          have h0 : a.eval (.tmp 5) = .pointer (some ⟨B2, 0, none⟩) := (hold 5 (by decide)).trans rfl
          exact Free.c_all rfl (Free.g_field (v := .pointer (some ⟨B2, 0, none⟩)) _ _ _ rfl h0 (by go_simp) ⟨rfl, hF.quiet (by decide) (by decide) (by decide) (by decide)⟩)
        | 2 =>
          cases hi
          have h0 : a.eval (.tmp 14) = .pointer (some ⟨B2, 0, none⟩) := (hpre 1 _ _ (by kernel_rfl) rfl rfl).2.2
          have hc := hF.row.cell 0
          simp only [List.getElem?_cons_zero] at hc
          exact Free.c_all rfl (Free.g_load (v := .int .i64 r.k) _ _ rfl h0 (by go_simp) ⟨rfl, hF.quiet (by decide) (by decide) (by decide) (by decide)⟩)
        | 3 => cases hi; exact Free.c_all rfl (Free.g_move _ rfl ⟨(hold 3 (by decide)).trans rfl, hF.quiet (by decide) (by decide) (by decide) (by decide)⟩)
        | 4 =>
          cases hi
          have h0 : a.eval (.tmp 5) = .pointer (some ⟨B2, 0, none⟩) := (hold 5 (by decide)).trans rfl
          exact Free.c_all rfl (Free.g_field (v := .pointer (some ⟨B2, 0, none⟩)) _ _ _ rfl h0 (by go_simp) ⟨rfl, hF.quiet (by decide) (by decide) (by decide) (by decide)⟩)
        | 5 =>
          cases hi
          have h0 : a.eval (.tmp 17) = .pointer (some ⟨B2, 0, none⟩) := (hpre 4 _ _ (by kernel_rfl) rfl rfl).2.2
          have hc := hF.row.cell 0
          simp only [List.getElem?_cons_zero] at hc
          exact Free.c_all rfl (Free.g_load (v := .int .i64 r.k) _ _ rfl h0 (by go_simp) ⟨rfl, hF.quiet (by decide) (by decide) (by decide) (by decide)⟩)
        | 6 =>
          cases hi
          have h0 : a.eval (.tmp 16) = .map (some w.heap.size) := (hpre 3 _ _ (by kernel_rfl) rfl rfl).2.2
          have h1 : a.eval (.tmp 18) = .int .i64 r.k := (hpre 5 _ _ (by kernel_rfl) rfl rfl).2.2
          obtain ⟨v, hrun, hF2⟩ := hF.look HOZ.out (by unfold maxLen; omega) HRW.out hbi
          exact Free.c_all rfl (m_lookup _ _ _ _ rfl _ _ h0 h1 hrun ⟨trivial, hF2⟩)
        | 7 =>
          cases hi
          have h0 : a.eval (.tmp 5) = .pointer (some ⟨B2, 0, none⟩) := (hold 5 (by decide)).trans rfl
          exact Free.c_all rfl (Free.g_field (v := .pointer (some ⟨B2, 1, none⟩)) _ _ _ rfl h0 (by go_simp) ⟨rfl, hF.quiet (by decide) (by decide) (by decide) (by decide)⟩)
        | 8 =>
          cases hi
          have h0 : a.eval (.tmp 20) = .pointer (some ⟨B2, 1, none⟩) := (hpre 7 _ _ (by kernel_rfl) rfl rfl).2.2
          have hc := hF.row.cell 1
          simp only [List.getElem?_cons_zero, List.getElem?_cons_succ] at hc
          exact Free.c_all rfl (Free.g_load (v := .int .i64 r.v) _ _ rfl h0 (by go_simp) ⟨rfl, hF.quiet (by decide) (by decide) (by decide) (by decide)⟩)
        | 9 =>
          cases hi
          have h0 : a.eval (.tmp 21) = .int .i64 r.v := (hpre 8 _ _ (by kernel_rfl) rfl rfl).2.2
          exact Free.c_all rfl (m_lit (v := .slice (some ⟨wa.heap.size, 0, none⟩) 1 1) (w' := wa.alloc (.cells #[.int .i64 r.v] 2)) _ _ _ [(0, .int .i64 r.v)] rfl (by show [(0, a.eval (.tmp 21))] = _; rw [h0]) (by go_simp) ⟨trivial, hF.one hbi⟩)
        | 10 =>
          cases hi
          have h6 := hpre 6 _ _ (by kernel_rfl) rfl rfl
          have h9 := hpre 9 _ _ (by kernel_rfl) rfl rfl
          obtain ⟨v', w', hrun, hF2⟩ := hF.app (by omega) HRW.out (by have := HNZ.out.size; have := HBZ.out; omega) h6.1 h9.1 hbi
          exact Free.c_all rfl (m_append _ _ _ rfl _ _ h6.2.1 h9.2.1 hrun ⟨trivial, hF2⟩)
        | 11 =>
          cases hi
          have h0 : a.eval (.tmp 13) = .map (some w.heap.size) := (hpre 0 _ _ (by kernel_rfl) rfl rfl).2.2
          have h1 : a.eval (.tmp 15) = .int .i64 r.k := (hpre 2 _ _ (by kernel_rfl) rfl rfl).2.2
          have h2 := hpre 10 _ _ (by kernel_rfl) rfl rfl
          obtain ⟨w', hrun, hF2⟩ := hF.put (by omega) h2.1 hbi
          exact Free.c_all rfl (m_mapUpdate _ _ _ _ rfl _ _ _ h0 h1 h2.2.1 hrun ⟨trivial, hF2 _⟩)
        | _ + 12 => cases hi
      · intro vs we hv hF
        have hd := hF.s11 rfl
        have HD := Lib.hid hd; clear hF hv hd
        simp only [Free.puts, Nat.reduceAdd]
        generalize vs 0 = y0; generalize vs 1 = y1; generalize vs 2 = y2; generalize vs 3 = y3; generalize vs 4 = y4; generalize vs 5 = y5; generalize vs 6 = y6; generalize vs 7 = y7; generalize vs 8 = y8; generalize vs 9 = y9; generalize vs 10 = y10
        go_simp
        go_wp2_with fail
        go_roundw
        case rel =>
          obtain ⟨wL, w1, v, zs, v', h1, hat, hoi, hgr, hown, hg2, hG⟩ := HD.out
          have hz := HGD.out.look hoi hat
          refine ⟨k + 1, by omega, by simp, _, hG, ?_, ?_, ?_⟩
          · rw [hown.datum_pos (by simp), hz, take_snoc HR.out]
            exact HGD.out.step
          · exact (HNZ.out.trans (h1.mono HNZ.out.size)).groups hoi hgr hg2 (by have := HNZ.out.size; have := h1.size; omega) (Nat.le_succ _) (Nat.le_refl _)
          · have := HBZ.out; have := h1.size; have := hgr.size; have := hg2.size; omega
        case measure => simp only [intOf]; omega
    · have hkl : k = l.length := by omega
      subst hkl
      go_wp2_with fail
      go_ret
      have hg := HGD.out
      rw [List.take_length] at hg
      exact ⟨⟨_, _, _, _, rfl, HO.out, hg, Nat.le_refl _⟩, HNX.out⟩
end Op
end

section
namespace Op
open Go.ChangeShapes Go.WideShapes Go.ChangeAt Go.RowKit Go.BigFrame Vr
set_option maxRecDepth 100000
theorem take_at {vs : List Int} {i : Nat} {v : Int} (h : vs[i]? = some v) : vs.take (i + 1) = vs.take i ++ [v] := by rw [List.take_add_one, h]; rfl
theorem take_ne {vs : List Int} {i : Nat} (h : 1 ≤ i) (h2 : i ≤ vs.length) : vs.take i ≠ [] := by
  intro e; have h3 := congrArg List.length e; rw [List.length_take, List.length_nil] at h3; omega
theorem min_if (m v : Int) : min m v = if v < m then v else m := by split <;> omega
theorem max_if (m v : Int) : max m v = if m < v then v else m := by split <;> omega
set_option maxHeartbeats 1000000 in
theorem min_any (A : Option Addr) (vs : List Int) (c : Nat) (w : World) (hT : Rw.Ts kindI w A vs) (h0 : 1 ≤ vs.length) (hl : vs.length ≤ 100000) : Calls Try.prog 78 #[.slice A vs.length c] w fun e w' => e = .returned (.int .i64 (minF vs)) ∧ w = w' := by
  have HT := Lib.hid hT; clear hT
  obtain ⟨v0, hv0⟩ : ∃ v, vs[0]? = some v := ⟨_, List.getElem?_eq_getElem (by omega)⟩
  obtain ⟨b, o, rfl, _, hc⟩ := ints_at HT.out hv0
  have q0 := hc w (Below.refl _ _)
  rw [Nat.add_zero] at q0
  have n1 : ¬ ((vs.length : Int) < 1) := by omega
  have n2 : (0 : Int) < (vs.length : Int) := by omega
  have hm0 : minF (vs.take 1) = v0 := by rw [take_at hv0]; rfl
  have HM := Lib.hid hm0; have HV := Lib.hid hv0
  clear hc hm0 hv0
  go_enter Try.func78, Try.ntmps78
  go_wp2_with fail
  go_loop [3, 4] (fun m i => ∃ k : Nat, 1 ≤ k ∧ k ≤ vs.length ∧ i = .int .i64 k ∧ m = .int .i64 (minF (vs.take k))) (fun _ i => vs.length - (intOf i).toNat)
  case atStart => exact ⟨1, by omega, by omega, rfl, by rw [HM.out]⟩
  case round =>
    obtain ⟨k, hk1, hk, rfl, rfl⟩ := hrel
    by_cases hlt : k < vs.length
    · have hltz : (k : Int) < (vs.length : Int) := by omega
      obtain ⟨v, hv⟩ : ∃ v, vs[k]? = some v := ⟨_, List.getElem?_eq_getElem hlt⟩
      obtain ⟨b', o', e', _, hc⟩ := ints_at HT.out hv
      cases e'
      have q := hc w (Below.refl _ _)
      have hs := minF_snoc (vs.take k) v
      rw [if_neg (take_ne hk1 hk), ← take_at hv] at hs
      clear hc q0 hv
      generalize minF (vs.take k) = m at *
      have HS := Lib.hid hs; clear hs
      go_wp2_with fail
      go_round
      case rel => exact ⟨k + 1, by omega, by omega, by simp, by rw [HS.out]; first | done | rfl | rw [min_if]⟩
      case measure => simp only [intOf]; omega
    · have hkl : k = vs.length := by omega
      subst hkl
      rw [List.take_length]
      go_wp2_with fail
      go_ret
      exact ⟨rfl, rfl⟩
set_option maxHeartbeats 1000000 in
theorem max_any (A : Option Addr) (vs : List Int) (c : Nat) (w : World) (hT : Rw.Ts kindI w A vs) (h0 : 1 ≤ vs.length) (hl : vs.length ≤ 100000) : Calls Try.prog 79 #[.slice A vs.length c] w fun e w' => e = .returned (.int .i64 (maxF vs)) ∧ w = w' := by
  have HT := Lib.hid hT; clear hT
  obtain ⟨v0, hv0⟩ : ∃ v, vs[0]? = some v := ⟨_, List.getElem?_eq_getElem (by omega)⟩
  obtain ⟨b, o, rfl, _, hc⟩ := ints_at HT.out hv0
  have q0 := hc w (Below.refl _ _)
  rw [Nat.add_zero] at q0
  have n1 : ¬ ((vs.length : Int) < 1) := by omega
  have n2 : (0 : Int) < (vs.length : Int) := by omega
  have hm0 : maxF (vs.take 1) = v0 := by rw [take_at hv0]; rfl
  have HM := Lib.hid hm0; have HV := Lib.hid hv0
  clear hc hm0 hv0
  go_enter Try.func79, Try.ntmps79
  go_wp2_with fail
  go_loop [3, 4] (fun m i => ∃ k : Nat, 1 ≤ k ∧ k ≤ vs.length ∧ i = .int .i64 k ∧ m = .int .i64 (maxF (vs.take k))) (fun _ i => vs.length - (intOf i).toNat)
  case atStart => exact ⟨1, by omega, by omega, rfl, by rw [HM.out]⟩
  case round =>
    obtain ⟨k, hk1, hk, rfl, rfl⟩ := hrel
    by_cases hlt : k < vs.length
    · have hltz : (k : Int) < (vs.length : Int) := by omega
      obtain ⟨v, hv⟩ : ∃ v, vs[k]? = some v := ⟨_, List.getElem?_eq_getElem hlt⟩
      obtain ⟨b', o', e', _, hc⟩ := ints_at HT.out hv
      cases e'
      have q := hc w (Below.refl _ _)
      have hs := maxF_snoc (vs.take k) v
      rw [if_neg (take_ne hk1 hk), ← take_at hv] at hs
      clear hc q0 hv
      generalize maxF (vs.take k) = m at *
      have HS := Lib.hid hs; clear hs
      go_wp2_with fail
      go_round
      case rel => exact ⟨k + 1, by omega, by omega, by simp, by rw [HS.out]; first | done | rfl | rw [max_if]⟩
      case measure => simp only [intOf]; omega
    · have hkl : k = vs.length := by omega
      subst hkl
      rw [List.take_length]
      go_wp2_with fail
      go_ret
      exact ⟨rfl, rfl⟩
set_option maxHeartbeats 1000000 in
theorem reduced1 (xk : Nat) (b d : Int) (NA : Option Addr) (nm nc : Nat) (A : Option Addr) (vs : List Int) (c : Nat) (w : World) (hT : Rw.Ts kindI w A vs) (h0 : 1 ≤ vs.length) (hl : vs.length ≤ 100000) :
    Calls Try.prog 58 #[.agg #[.int .u8 (xk : Nat), .int .u8 ((1 : Nat) : Nat), .int .i64 b, .int .i64 d, .slice NA nm nc], .slice A vs.length c] w fun e w' => e = .returned (.int .i64 (redV 1 vs)) ∧ Below w.heap.size w w' := by
  have HB := Lib.hid fun (x : Obj) => (Below.refl _ w).alloc (Nat.le_refl _) x
  go_enter Try.func58, Try.ntmps58
  go_wp2_with fail
  go_ret
  exact ⟨rfl, HB.out _⟩
set_option maxHeartbeats 1000000 in
theorem reduced2 (xk : Nat) (b d : Int) (NA : Option Addr) (nm nc : Nat) (A : Option Addr) (vs : List Int) (c : Nat) (w : World) (hT : Rw.Ts kindI w A vs) (h0 : 1 ≤ vs.length) (hl : vs.length ≤ 100000) :
    Calls Try.prog 58 #[.agg #[.int .u8 (xk : Nat), .int .u8 ((2 : Nat) : Nat), .int .i64 b, .int .i64 d, .slice NA nm nc], .slice A vs.length c] w fun e w' => e = .returned (.int .i64 (redV 2 vs)) ∧ Below w.heap.size w w' := by
  have HB := Lib.hid fun (x : Obj) => (Below.refl _ w).alloc (Nat.le_refl _) x
  have HC := Lib.hid fun w' (hb : Below w.heap.size w w') => min_any A vs c w' (hT.below hb) h0 hl
  go_enter Try.func58, Try.ntmps58
  go_wp2_with fail
  refine (HC.out _ (HB.out _)).mono ?_; rintro e w' ⟨rfl, rfl⟩
  go_wp2_with fail
  go_ret
  exact ⟨rfl, HB.out _⟩
set_option maxHeartbeats 1000000 in
theorem reduced3 (xk : Nat) (b d : Int) (NA : Option Addr) (nm nc : Nat) (A : Option Addr) (vs : List Int) (c : Nat) (w : World) (hT : Rw.Ts kindI w A vs) (h0 : 1 ≤ vs.length) (hl : vs.length ≤ 100000) :
    Calls Try.prog 58 #[.agg #[.int .u8 (xk : Nat), .int .u8 ((3 : Nat) : Nat), .int .i64 b, .int .i64 d, .slice NA nm nc], .slice A vs.length c] w fun e w' => e = .returned (.int .i64 (redV 3 vs)) ∧ Below w.heap.size w w' := by
  have HB := Lib.hid fun (x : Obj) => (Below.refl _ w).alloc (Nat.le_refl _) x
  have HC := Lib.hid fun w' (hb : Below w.heap.size w w') => max_any A vs c w' (hT.below hb) h0 hl
  go_enter Try.func58, Try.ntmps58
  go_wp2_with fail
  refine (HC.out _ (HB.out _)).mono ?_; rintro e w' ⟨rfl, rfl⟩
  go_wp2_with fail
  go_ret
  exact ⟨rfl, HB.out _⟩
set_option maxHeartbeats 1000000 in
theorem reduced0 (xk : Nat) (b d : Int) (NA : Option Addr) (nm nc : Nat) (A : Option Addr) (vs : List Int) (c : Nat) (w : World) (hT : Rw.Ts kindI w A vs) (h0 : 1 ≤ vs.length) (hl : vs.length ≤ 100000) :
    Calls Try.prog 58 #[.agg #[.int .u8 (xk : Nat), .int .u8 ((0 : Nat) : Nat), .int .i64 b, .int .i64 d, .slice NA nm nc], .slice A vs.length c] w fun e w' => e = .returned (.int .i64 (redV 0 vs)) ∧ Below w.heap.size w w' := by
  have HB := Lib.hid fun (x : Obj) => (Below.refl _ w).alloc (Nat.le_refl _) x
  have HT := Lib.hid hT; clear hT
  obtain ⟨v0, hv0⟩ : ∃ v, vs[0]? = some v := ⟨_, List.getElem?_eq_getElem (by omega)⟩
  obtain ⟨b0, o0, rfl, hb0, _⟩ := ints_at HT.out hv0
  have HV := Lib.hid hv0
  clear hv0
  go_enter Try.func58, Try.ntmps58
  go_wp2_with fail
  go_loop [5, 24] (fun s i => ∃ k : Nat, k ≤ vs.length ∧ i = .int .i64 k ∧ s = .int .i64 (sumF (vs.take k))) (fun _ i => vs.length - (intOf i).toNat)
  case atStart => exact ⟨0, by omega, rfl, rfl⟩
  case round =>
    obtain ⟨k, hk, rfl, rfl⟩ := hrel
    by_cases hlt : k < vs.length
    · have hltz : (k : Int) < (vs.length : Int) := by omega
      obtain ⟨v, hv⟩ : ∃ v, vs[k]? = some v := ⟨_, List.getElem?_eq_getElem hlt⟩
      obtain ⟨b', o', e', _, hc⟩ := ints_at HT.out hv
      cases e'
      have q := hc w (Below.refl _ _)
      have hs := sumF_snoc (vs.take k) v
      rw [← take_at hv] at hs
      clear hc hv
      generalize sumF (vs.take k) = m at *
      have HS := Lib.hid hs; clear hs
      go_wp2_with fail
      go_round
      case rel => exact ⟨k + 1, by omega, by simp, by rw [HS.out]⟩
      case measure => simp only [intOf]; omega
    · have hkl : k = vs.length := by omega
      subst hkl
      rw [List.take_length]
      go_wp2_with fail
      go_ret
      exact ⟨rfl, HB.out _⟩
theorem reduced_any (n : Nd) (NA : Option Addr) (nm nc : Nat) (A : Option Addr) (vs : List Int) (c : Nat) (w : World) (ha : n.a ≤ 3) (hT : Rw.Ts kindI w A vs) (h0 : 1 ≤ vs.length) (hl : vs.length ≤ 100000) :
    Calls Try.prog 58 #[.agg #[.int .u8 (n.k : Nat), .int .u8 (n.a : Nat), .int .i64 n.b, .int .i64 n.d, .slice NA nm nc], .slice A vs.length c] w fun e w' => e = .returned (.int .i64 (redV n.a vs)) ∧ Below w.heap.size w w' := by
  obtain ⟨xk, xa, b, d, ins⟩ := n
  simp only at ha
  have : xa = 0 ∨ xa = 1 ∨ xa = 2 ∨ xa = 3 := by omega
  rcases this with rfl | rfl | rfl | rfl
  · exact reduced0 xk b d NA nm nc A vs c w hT h0 hl
  · exact reduced1 xk b d NA nm nc A vs c w hT h0 hl
  · exact reduced2 xk b d NA nm nc A vs c w hT h0 hl
  · exact reduced3 xk b d NA nm nc A vs c w hT h0 hl
end Op
end
end Go.Proofs.Ytcjdjdhjbchaaaa
