/- numbers: the rules for a node's numbers, a map of closures by kinds. -/
import Derived.Test.YtocdganglokplaaDoorChkMath
import Derived.Test.YtocdganglokplaaDoorGrKit
import Derived.Maps.OwnSet
import Derived.Shelf.Abstract
namespace Go.Proofs.YtocdganglokplaaDoor
open Go.ChangeShapes Go.WideShapes Go.ChangeAt Go.RowKit Go.BigFrame
open Go.Maps (Keyed)
set_option linter.unusedVariables false
set_option maxRecDepth 100000
/-- 'm[k] = v' of a literal, at the operation -/
theorem wpList_insert_own {H : Type} {P : Program} (w : World) {ops : Array Oper} {rest : List Oper} {o : Oper} {a : Act} {Q : Exit → Act → World → Prop}
    (hg : o.guard = none) (m x v : Operand) (t : TypeId) (hop : o.op = Op.insert t m x v)
    (k e : TypeId) (K : Keyed P k) (ht : P.underlying t = some (.map k e)) (R : Value → Option (DataW H × List MemPlace)) (b n : Nat) (D : DataW H)
    (hm : a.eval m = .map (some b)) (hown : w.ownsMap P k R b n D) (hn : n < maxLen) (key val : Value) (kl : Lit) (hx : a.eval x = key) (hv : a.eval v = val) (hkey : keyOf P k key = some kl)
    (d : DataW H) (ps : List MemPlace) (hval : R val = some (d, ps))
    (hK : ∀ w', w'.ownsMap P k R b (n + 1) (D.put kl d) → w.grownBy w' (some b) → wpList P ops Q rest (a.put o.dst undef) w') :
    wpList P ops Q (o :: rest) a w := by
  refine wpList_plain hg fun K' hK' => ?_
  obtain ⟨w', hrun, r1, r2⟩ := hown.update K ht hn hkey hval
  unfold Oper.wp
  simp [execOp, hop, hm, hx, hv, hrun, Result.andThen]
  exact hK' _ _ (hK w' r1 r2)
/-- an element is read as it stands -/
def RF : Value → Option (DataW Value × List MemPlace) := fun v => some (.held v, [])
theorem keyed8 : Keyed Tryd.prog 5 := Go.Maps.int_keyed Tryd.underlying5
theorem key8 {k : Nat} (h : k < 256) : keyOf Tryd.prog 5 (.int .u8 (k : Nat)) = some (.int .u8 (k : Nat)) := Go.Maps.keyOf_int_mk Tryd.underlying5 (by simp [Lit.wf, IntKind.min, IntKind.max, IntKind.signed, IntKind.bits]; omega)
/-- a closure: is A up to last, and B between? -/
def Within (w : World) (v : Value) (last : Nat) (lo hi : Int) : Prop := ∃ b1 b2 b3 : Nat, v = .func (.func 40) #[] #[.pointer (some ⟨b1, 0, none⟩), .pointer (some ⟨b2, 0, none⟩), .pointer (some ⟨b3, 0, none⟩)] ∧
  w.cell? ⟨b1, 0, none⟩ = some (.int .u8 (last : Nat)) ∧ w.cell? ⟨b2, 0, none⟩ = some (.int .i64 lo) ∧ w.cell? ⟨b3, 0, none⟩ = some (.int .i64 hi)
/-- a closure: is A up to last, and B above 0 where A is by? -/
def Dividing (w : World) (v : Value) (last by_ : Nat) : Prop := ∃ b1 b2 : Nat, v = .func (.func 42) #[] #[.pointer (some ⟨b1, 0, none⟩), .pointer (some ⟨b2, 0, none⟩)] ∧
  w.cell? ⟨b1, 0, none⟩ = some (.int .u8 (last : Nat)) ∧ w.cell? ⟨b2, 0, none⟩ = some (.int .u8 (by_ : Nat))
theorem cell_below {w w' : World} {b o : Nat} {v : Value} (h : w.cell? ⟨b, o, none⟩ = some v) (hb : Below w.heap.size w w') : w'.cell? ⟨b, o, none⟩ = some v := by
  have hl := cell_lt h
  rw [hb.cell hl]; exact h
theorem Within.below {w w' : World} {v : Value} {last : Nat} {lo hi : Int} (h : Within w v last lo hi) (hb : Below w.heap.size w w') : Within w' v last lo hi := by
  obtain ⟨b1, b2, b3, e, h1, h2, h3⟩ := h
  exact ⟨b1, b2, b3, e, cell_below h1 hb, cell_below h2 hb, cell_below h3 hb⟩
theorem Dividing.below {w w' : World} {v : Value} {last by_ : Nat} (h : Dividing w v last by_) (hb : Below w.heap.size w w') : Dividing w' v last by_ := by
  obtain ⟨b1, b2, e, h1, h2⟩ := h
  exact ⟨b1, b2, e, cell_below h1 hb, cell_below h2 hb⟩
def RulesD (v1 v2 v3 v5 v9 : Value) : DataW Value := .map [(.int .u8 1, .held v1), (.int .u8 2, .held v2), (.int .u8 3, .held v3), (.int .u8 4, .held v1), (.int .u8 5, .held v5), (.int .u8 6, .held v1), (.int .u8 7, .held v1), (.int .u8 8, .held v1), (.int .u8 9, .held v9), (.int .u8 10, .held v1)]
/-- block b is the rules -/
def Rules (w : World) (b : Nat) : Prop := ∃ v1 v2 v3 v5 v9, w.ownsMap Tryd.prog 5 RF b 10 (RulesD v1 v2 v3 v5 v9) ∧ Within w v1 0 0 0 ∧ Dividing w v2 3 3 ∧ Dividing w v3 2 1 ∧ Within w v5 3 0 0 ∧ Within w v9 0 1 16
theorem ownsMap_below {w w' : World} {b n : Nat} {D : DataW Value} (h : w.ownsMap Tryd.prog 5 RF b n D) (hb : Below w.heap.size w w') : w'.ownsMap Tryd.prog 5 RF b n D := by
  obtain ⟨es, clock, h1, F, h2, h3⟩ := id h
  exact ⟨es, clock, by rw [hb.block b h.lt]; exact h1, F, h2, h3⟩
theorem Rules.below {w w' : World} {b : Nat} (h : Rules w b) (hb : Below w.heap.size w w') : Rules w' b := by
  obtain ⟨v1, v2, v3, v5, v9, h0, h1, h2, h3, h5, h9⟩ := h
  exact ⟨v1, v2, v3, v5, v9, ownsMap_below h0 hb, h1.below hb, h2.below hb, h3.below hb, h5.below hb, h9.below hb⟩
/-- what is looked up of a kind -/
theorem Rules.look {w : World} {b k : Nat} (h : Rules w b) (hk : k < 256) :
    (¬ (1 ≤ k ∧ k ≤ 10) ∧ (Instr.lookup 48 (.map (some b)) (.int .u8 (k : Nat)) true).run Tryd.prog w = .ok (.tuple #[.nilFunc, .bool false]) w) ∨
    ∃ v, (Instr.lookup 48 (.map (some b)) (.int .u8 (k : Nat)) true).run Tryd.prog w = .ok (.tuple #[v, .bool true]) w ∧
      (k = 2 ∧ Dividing w v 3 3 ∨ k = 3 ∧ Dividing w v 2 1 ∨ k = 5 ∧ Within w v 3 0 0 ∨ k = 9 ∧ Within w v 0 1 16 ∨ (1 ≤ k ∧ k ≤ 10 ∧ k ≠ 2 ∧ k ≠ 3 ∧ k ≠ 5 ∧ k ≠ 9) ∧ Within w v 0 0 0) := by
  obtain ⟨v1, v2, v3, v5, v9, h0, h1, h2, h3, h5, h9⟩ := h
  obtain ⟨v, ps, hrun, hv⟩ := h0.look_ok keyed8 (t := 48) Tryd.underlying48 (z := .nilFunc) (by kernel_rfl) (zd := .held .nilFunc) (zp := []) rfl (key8 hk)
  have hv' : DataW.held v = (RulesD v1 v2 v3 v5 v9).atKey (.int .u8 (k : Nat)) (.held .nilFunc) := by
    unfold RF at hv; injection hv with hv; injection hv
  by_cases hin : 1 ≤ k ∧ k ≤ 10
  · refine .inr ⟨v, ?_, ?_⟩
    · rw [hrun]
      have : Maps.has (RulesD v1 v2 v3 v5 v9) (.int .u8 (k : Nat)) = true := by
        obtain ⟨ha, hb⟩ := hin
        have : k = 1 ∨ k = 2 ∨ k = 3 ∨ k = 4 ∨ k = 5 ∨ k = 6 ∨ k = 7 ∨ k = 8 ∨ k = 9 ∨ k = 10 := by omega
        rcases this with rfl | rfl | rfl | rfl | rfl | rfl | rfl | rfl | rfl | rfl <;> rfl
      rw [this]
    · obtain ⟨ha, hb⟩ := hin
      have : k = 1 ∨ k = 2 ∨ k = 3 ∨ k = 4 ∨ k = 5 ∨ k = 6 ∨ k = 7 ∨ k = 8 ∨ k = 9 ∨ k = 10 := by omega
      rcases this with rfl | rfl | rfl | rfl | rfl | rfl | rfl | rfl | rfl | rfl
      · have : v = v1 := by injection hv'
        subst this; exact .inr (.inr (.inr (.inr ⟨by omega, h1⟩)))
      · have : v = v2 := by injection hv'
        subst this; exact .inl ⟨rfl, h2⟩
      · have : v = v3 := by injection hv'
        subst this; exact .inr (.inl ⟨rfl, h3⟩)
      · have : v = v1 := by injection hv'
        subst this; exact .inr (.inr (.inr (.inr ⟨by omega, h1⟩)))
      · have : v = v5 := by injection hv'
        subst this; exact .inr (.inr (.inl ⟨rfl, h5⟩))
      · have : v = v1 := by injection hv'
        subst this; exact .inr (.inr (.inr (.inr ⟨by omega, h1⟩)))
      · have : v = v1 := by injection hv'
        subst this; exact .inr (.inr (.inr (.inr ⟨by omega, h1⟩)))
      · have : v = v1 := by injection hv'
        subst this; exact .inr (.inr (.inr (.inr ⟨by omega, h1⟩)))
      · have : v = v9 := by injection hv'
        subst this; exact .inr (.inr (.inr (.inl ⟨rfl, h9⟩)))
      · have : v = v1 := by injection hv'
        subst this; exact .inr (.inr (.inr (.inr ⟨by omega, h1⟩)))
  · have hall : ∀ p ∈ [((.int .u8 1 : Lit), DataW.held v1), (.int .u8 2, .held v2), (.int .u8 3, .held v3), (.int .u8 4, .held v1), (.int .u8 5, .held v5), (.int .u8 6, .held v1), (.int .u8 7, .held v1), (.int .u8 8, .held v1), (.int .u8 9, .held v9), (.int .u8 10, .held v1)], p.1.sameKey (.int .u8 (k : Nat)) = false := by
      intro p hp
      simp only [List.mem_cons, List.not_mem_nil, or_false] at hp
      rcases hp with rfl | rfl | rfl | rfl | rfl | rfl | rfl | rfl | rfl | rfl <;> (simp [Lit.sameKey]; omega)
    refine .inl ⟨hin, ?_⟩
    have hh : Maps.has (RulesD v1 v2 v3 v5 v9) (.int .u8 (k : Nat)) = false := List.any_eq_false.2 fun p hp => by rw [hall p hp]; simp
    have ha : (RulesD v1 v2 v3 v5 v9).atKey (.int .u8 (k : Nat)) (.held .nilFunc) = .held .nilFunc := by
      unfold RulesD DataW.atKey
      simp only
      rw [List.find?_eq_none.2 fun p hp => by rw [hall p hp]; simp]
    rw [ha] at hv'
    have : v = .nilFunc := by injection hv'
    subst this
    rw [hrun, hh]
theorem keyLit {n : Int} (h0 : 0 ≤ n) (h1 : n ≤ 255) : keyOf Tryd.prog 5 (.int .u8 n) = some (.int .u8 n) := Go.Maps.keyOf_int_mk Tryd.underlying5 (by simp [Lit.wf, IntKind.min, IntKind.max, IntKind.signed, IntKind.bits]; omega)
theorem new_cell {W : World} {b : Nat} {v : Value} {t : TypeId} (h : b = W.heap.size) : (W.alloc (.cells #[v] t)).cell? ⟨b, 0, none⟩ = some v := by
  subst h
  exact cell_one_new W v t 0 v rfl
theorem old_cell {W : World} {b : Nat} {v : Value} {o : Obj} (h : W.cell? ⟨b, 0, none⟩ = some v) : (W.alloc o).cell? ⟨b, 0, none⟩ = some v := cell_below h ((Below.refl _ W).alloc (Nat.le_refl _) o)
theorem within_any (last : Nat) (lo hi : Int) (w : World) : Calls Tryd.prog 39 #[.int .u8 (last : Nat), .int .i64 lo, .int .i64 hi] w fun e w' => (∃ v, e = .returned v ∧ Within w' v last lo hi) ∧ Below w.heap.size w w' := by
  have hb1 := (Below.refl _ w).alloc (Nat.le_refl _) (.cells #[.int .u8 (last : Nat)] 5)
  have hb2 := hb1.alloc hb1.size (.cells #[.int .i64 lo] 2)
  have hb3 := hb2.alloc hb2.size (.cells #[.int .i64 hi] 2)
  have HB := Lib.hid hb3; clear hb1 hb2 hb3
  go_enter Tryd.func39, Tryd.ntmps39
  go_wp2_with fail
  go_ret
  refine ⟨⟨_, rfl, _, _, _, rfl, ?_, ?_, ?_⟩, HB.out⟩
  · exact old_cell (old_cell (new_cell rfl))
  · exact old_cell (new_cell (by simp))
  · exact new_cell (by simp)
theorem dividing_any (last by_ : Nat) (w : World) : Calls Tryd.prog 41 #[.int .u8 (last : Nat), .int .u8 (by_ : Nat)] w fun e w' => (∃ v, e = .returned v ∧ Dividing w' v last by_) ∧ Below w.heap.size w w' := by
  have hb1 := (Below.refl _ w).alloc (Nat.le_refl _) (.cells #[.int .u8 (last : Nat)] 5)
  have hb2 := hb1.alloc hb1.size (.cells #[.int .u8 (by_ : Nat)] 5)
  have HB := Lib.hid hb2; clear hb1 hb2
  go_enter Tryd.func41, Tryd.ntmps41
  go_wp2_with fail
  go_ret
  refine ⟨⟨_, rfl, _, _, rfl, ?_, ?_⟩, HB.out⟩
  · exact old_cell (new_cell rfl)
  · exact new_cell (by simp)
def CellsKept (w w' : World) : Prop := ∀ b o v, w.cell? ⟨b, o, none⟩ = some v → w'.cell? ⟨b, o, none⟩ = some v
theorem CellsKept.within {w w' : World} {v : Value} {last : Nat} {lo hi : Int} (k : CellsKept w w') (h : Within w v last lo hi) : Within w' v last lo hi := by
  obtain ⟨b1, b2, b3, e, h1, h2, h3⟩ := h
  exact ⟨b1, b2, b3, e, k _ _ _ h1, k _ _ _ h2, k _ _ _ h3⟩
theorem CellsKept.dividing {w w' : World} {v : Value} {last by_ : Nat} (k : CellsKept w w') (h : Dividing w v last by_) : Dividing w' v last by_ := by
  obtain ⟨b1, b2, e, h1, h2⟩ := h
  exact ⟨b1, b2, e, k _ _ _ h1, k _ _ _ h2⟩
theorem CellsKept.of_below {w w' : World} (h : Below w.heap.size w w') : CellsKept w w' := fun b o v hc => cell_below hc h
theorem CellsKept.of_map {w w' : World} {b n : Nat} {D : DataW Value} (ho : w.ownsMap Tryd.prog 5 RF b n D) (hg : w.grownBy w' (some b)) : CellsKept w w' := fun c o v hc => by
  have hl := cell_lt hc
  have hne : c ≠ b := by
    rintro rfl
    obtain ⟨es, clock, h1, _⟩ := ho
    unfold World.cell? at hc
    simp only [h1] at hc
    cases hc
  rw [World.cell?_of_block (w := w) (hg.block c hl (by simpa using hne))]
  exact hc
/-- what is known while the map is filled -/
structure NS (w0 w : World) (b n : Nat) (D : DataW Value) (F : World → Prop) : Prop where
  base : w0.heap.size ≤ b
  below : Below w0.heap.size w0 w
  own : w.ownsMap Tryd.prog 5 RF b n D
  cl : F w
  st : ∀ w w', CellsKept w w' → F w → F w'
theorem NS.call {w0 w w' : World} {b n : Nat} {D : DataW Value} {F G : World → Prop} (h : NS w0 w b n D F) (hb : Below w.heap.size w w') (hg : G w') (hs : ∀ w w', CellsKept w w' → G w → G w') : NS w0 w' b n D (fun W => F W ∧ G W) :=
  ⟨h.base, h.below.trans (hb.mono h.below.size), ownsMap_below h.own hb, ⟨h.st _ _ (CellsKept.of_below hb) h.cl, hg⟩, fun w w' k hh => ⟨h.st _ _ k hh.1, hs _ _ k hh.2⟩⟩
theorem wpList_insert_ns (w0 w : World) {ops : Array Oper} {rest : List Oper} {o : Oper} {a : Act} {Q : Exit → Act → World → Prop}
    (hg : o.guard = none) (m x v : Operand) (hop : o.op = Op.insert 48 m x v) {b n : Nat} {D : DataW Value} {F : World → Prop} (h : NS w0 w b n D F) (hn : n < maxLen)
    (hm : a.eval m = .map (some b)) (key val : Value) (kl : Lit) (hx : a.eval x = key) (hv : a.eval v = val) (hkey : keyOf Tryd.prog 5 key = some kl)
    (hK : ∀ w', NS w0 w' b (n + 1) (D.put kl (.held val)) F → wpList Tryd.prog ops Q rest (a.put o.dst undef) w') :
    wpList Tryd.prog ops Q (o :: rest) a w :=
  wpList_insert_own w hg m x v 48 hop 5 _ keyed8 Tryd.underlying48 RF b n D hm h.own hn key val kl hx hv hkey _ _ rfl fun w' ho hgr =>
    hK w' ⟨h.base, h.below.grown hgr h.below.size (fun j hj => by cases hj; exact h.base), ho, h.st _ _ (CellsKept.of_map h.own hgr) h.cl, h.st⟩
/-- what numbers answers -/
def NumD (w : World) (e : Ending) (w' : World) : Prop := (∃ b, e = .returned (.map (some b)) ∧ Rules w' b) ∧ Below w.heap.size w w'
set_option maxHeartbeats 4000000 in
theorem numbers_any (w : World) : Calls Tryd.prog 25 #[] w (NumD w) := by
  have e39 : ∀ args w, (callFunc 39 args).run Tryd.prog w = .ok (.enter 39 args) w := enters_of Tryd.func39 (by kernel_rfl) rfl
  have e41 : ∀ args w, (callFunc 41 args).run Tryd.prog w = .ok (.enter 41 args) w := enters_of Tryd.func41 (by kernel_rfl) rfl
  have hmm := @run_makeMap Tryd.prog
  go_enter Tryd.func25, Tryd.ntmps25
  go_wp2_with fail
  refine (within_any 0 0 0 _).mono ?_; rintro e w1 ⟨⟨v1, rfl, h1⟩, hb1⟩
  have HNS : NS w (w1.alloc (.map #[] 0)) w1.heap.size 0 (.map []) (fun W => Within W v1 0 0 0) := ⟨hb1.size, hb1.alloc hb1.size _, World.ownsMap_made _ _ _ _, h1.below ((Below.refl _ _).alloc (Nat.le_refl _) _), fun _ _ k h => k.within h⟩
  clear h1 hb1
  dsimp only
  go_wp2_with (refine wpList_insert_ns _ _ rfl _ _ _ rfl HNS (by unfold maxLen; omega) rfl _ _ _ rfl rfl (keyLit (by decide) (by decide)) ?_; intro wn hns; clear HNS; have HNS := hns; clear hns)
  refine (dividing_any 3 3 _).mono ?_; rintro e w2 ⟨⟨v2, rfl, h2⟩, hb2⟩
  have HN := HNS.call (G := fun W => Dividing W v2 3 3) hb2 h2 (fun _ _ k h => k.dividing h)
  clear HNS hb2 h2; have HNS := HN; clear HN
  dsimp only
  go_wp2_with (refine wpList_insert_ns _ _ rfl _ _ _ rfl HNS (by unfold maxLen; omega) rfl _ _ _ rfl rfl (keyLit (by decide) (by decide)) ?_; intro wn hns; clear HNS; have HNS := hns; clear hns)
  refine (dividing_any 2 1 _).mono ?_; rintro e w3 ⟨⟨v3, rfl, h3⟩, hb3⟩
  have HN := HNS.call (G := fun W => Dividing W v3 2 1) hb3 h3 (fun _ _ k h => k.dividing h)
  clear HNS hb3 h3; have HNS := HN; clear HN
  dsimp only
  go_wp2_with (refine wpList_insert_ns _ _ rfl _ _ _ rfl HNS (by unfold maxLen; omega) rfl _ _ _ rfl rfl (keyLit (by decide) (by decide)) ?_; intro wn hns; clear HNS; have HNS := hns; clear hns)
  refine (within_any 3 0 0 _).mono ?_; rintro e w5 ⟨⟨v5, rfl, h5⟩, hb5⟩
  have HN := HNS.call (G := fun W => Within W v5 3 0 0) hb5 h5 (fun _ _ k h => k.within h)
  clear HNS hb5 h5; have HNS := HN; clear HN
  dsimp only
  go_wp2_with (refine wpList_insert_ns _ _ rfl _ _ _ rfl HNS (by unfold maxLen; omega) rfl _ _ _ rfl rfl (keyLit (by decide) (by decide)) ?_; intro wn hns; clear HNS; have HNS := hns; clear hns)
  refine (within_any 0 1 16 _).mono ?_; rintro e w9 ⟨⟨v9, rfl, h9⟩, hb9⟩
  have HN := HNS.call (G := fun W => Within W v9 0 1 16) hb9 h9 (fun _ _ k h => k.within h)
  clear HNS hb9 h9; have HNS := HN; clear HN
  dsimp only
  go_wp2_with (refine wpList_insert_ns _ _ rfl _ _ _ rfl HNS (by unfold maxLen; omega) rfl _ _ _ rfl rfl (keyLit (by decide) (by decide)) ?_; intro wn hns; clear HNS; have HNS := hns; clear hns)
  go_ret
  obtain ⟨⟨⟨⟨h1, h2⟩, h3⟩, h5⟩, h9⟩ := HNS.cl
  exact ⟨⟨_, rfl, v1, v2, v3, v5, v9, HNS.own, h1, h2, h3, h5, h9⟩, HNS.below⟩
end Go.Proofs.YtocdganglokplaaDoor
