/- PcRules, PcPort -/
import Derived.Test.YtcjdjdhjbchaaaaCa10
import Derived.Test.YtcjdjdhjbchaaaaCa6
import Derived.Maps.OwnSet
import Derived.Shelf.Abstract
import Derived.Test.YtcjdjdhjbchaaaaCa16
import Derived.Deep.QuietTactic
import Derived.BigQuiet
import Derived.WalkSmall
namespace Go.Proofs.Ytcjdjdhjbchaaaa
set_option linter.unusedVariables false
section
open Go.ChangeShapes Go.WideShapes Go.ChangeAt Go.RowKit Go.BigFrame
open Go.Maps (Keyed)
set_option maxRecDepth 100000
/-- 'm[k] = v' of a literal, at the operation -/
theorem wpList_insert_own {H : Type} {P : Program} (w : World) {ops : Array Oper} {rest : List Oper} {o : Oper} {a : Act} {Q : Exit → Act → World → Prop}
    (hg : o.guard = none) (m x v : Operand) (t : TypeId) (hop : o.op = Op.insert t m x v)
    (k e : TypeId) (K : Keyed P k) (ht : P.underlying t = some (.map k e)) (R : Value → Option (DataW H × List MemPlace)) (b n : Nat) (D : DataW H)
    (hm : a.eval m = .map (some b)) (hown : w.ownsMap P k R b n D) (hn : n < maxLen) (key val : Value) (kl : Lit) (hx : a.eval x = key) (hv : a.eval v = val) (hkey : keyOf P k key = some kl)
    (d : DataW H) (ps : List MemPlace) (hval : R val = some (d, ps))
    (hK : ∀ w', w'.ownsMap P k R b (n + 1) (D.put kl d) → w.grownBy w' (some b) → wpList P ops Q rest (a.put o.dst undef) w') :
    wpList P ops Q (o :: rest) a w := by
  refine wpList_plain hg fun K' hK' => ?_
  obtain ⟨w', hrun, r1, r2⟩ := hown.update K ht hn hkey hval
  unfold Oper.wp
  simp [execOp, hop, hm, hx, hv, hrun, Result.andThen]
  exact hK' _ _ (hK w' r1 r2)
/-- an element is read as it stands -/
def RF : Value → Option (DataW Value × List MemPlace) := fun v => some (.held v, [])
theorem keyed8 : Keyed Try.prog 5 := Go.Maps.int_keyed Try.underlying5
theorem key8 {k : Nat} (h : k < 256) : keyOf Try.prog 5 (.int .u8 (k : Nat)) = some (.int .u8 (k : Nat)) := Go.Maps.keyOf_int_mk Try.underlying5 (by simp [Lit.wf, IntKind.min, IntKind.max, IntKind.signed, IntKind.bits]; omega)
/-- a closure: is A up to last, and B between? -/
def Within (w : World) (v : Value) (last : Nat) (lo hi : Int) : Prop := ∃ b1 b2 b3 : Nat, v = .func (.func 94) #[] #[.pointer (some ⟨b1, 0, none⟩), .pointer (some ⟨b2, 0, none⟩), .pointer (some ⟨b3, 0, none⟩)] ∧
  w.cell? ⟨b1, 0, none⟩ = some (.int .u8 (last : Nat)) ∧ w.cell? ⟨b2, 0, none⟩ = some (.int .i64 lo) ∧ w.cell? ⟨b3, 0, none⟩ = some (.int .i64 hi)
/-- a closure: is A up to last, and B above 0 where A is by? -/
def Dividing (w : World) (v : Value) (last by_ : Nat) : Prop := ∃ b1 b2 : Nat, v = .func (.func 96) #[] #[.pointer (some ⟨b1, 0, none⟩), .pointer (some ⟨b2, 0, none⟩)] ∧
  w.cell? ⟨b1, 0, none⟩ = some (.int .u8 (last : Nat)) ∧ w.cell? ⟨b2, 0, none⟩ = some (.int .u8 (by_ : Nat))
theorem cell_below {w w' : World} {b o : Nat} {v : Value} (h : w.cell? ⟨b, o, none⟩ = some v) (hb : Below w.heap.size w w') : w'.cell? ⟨b, o, none⟩ = some v := by
  have hl := cell_lt h
  rw [hb.cell hl]; exact h
theorem Within.below {w w' : World} {v : Value} {last : Nat} {lo hi : Int} (h : Within w v last lo hi) (hb : Below w.heap.size w w') : Within w' v last lo hi := by
  obtain ⟨b1, b2, b3, e, h1, h2, h3⟩ := h
  exact ⟨b1, b2, b3, e, cell_below h1 hb, cell_below h2 hb, cell_below h3 hb⟩
theorem Dividing.below {w w' : World} {v : Value} {last by_ : Nat} (h : Dividing w v last by_) (hb : Below w.heap.size w w') : Dividing w' v last by_ := by
  obtain ⟨b1, b2, e, h1, h2⟩ := h
  exact ⟨b1, b2, e, cell_below h1 hb, cell_below h2 hb⟩
def RulesD (v1 v2 v3 v5 v9 : Value) : DataW Value := .map [(.int .u8 1, .held v1), (.int .u8 2, .held v2), (.int .u8 3, .held v3), (.int .u8 4, .held v1), (.int .u8 5, .held v5), (.int .u8 6, .held v1), (.int .u8 7, .held v1), (.int .u8 8, .held v1), (.int .u8 9, .held v9), (.int .u8 10, .held v1)]
/-- block b is the rules -/
def Rules (w : World) (b : Nat) : Prop := ∃ v1 v2 v3 v5 v9, w.ownsMap Try.prog 5 RF b 10 (RulesD v1 v2 v3 v5 v9) ∧ Within w v1 0 0 0 ∧ Dividing w v2 3 3 ∧ Dividing w v3 2 1 ∧ Within w v5 3 0 0 ∧ Within w v9 0 1 16
theorem ownsMap_below {w w' : World} {b n : Nat} {D : DataW Value} (h : w.ownsMap Try.prog 5 RF b n D) (hb : Below w.heap.size w w') : w'.ownsMap Try.prog 5 RF b n D := by
  obtain ⟨es, clock, h1, F, h2, h3⟩ := id h
  exact ⟨es, clock, by rw [hb.block b h.lt]; exact h1, F, h2, h3⟩
theorem Rules.below {w w' : World} {b : Nat} (h : Rules w b) (hb : Below w.heap.size w w') : Rules w' b := by
  obtain ⟨v1, v2, v3, v5, v9, h0, h1, h2, h3, h5, h9⟩ := h
  exact ⟨v1, v2, v3, v5, v9, ownsMap_below h0 hb, h1.below hb, h2.below hb, h3.below hb, h5.below hb, h9.below hb⟩
/-- what is looked up of a kind -/
theorem Rules.look {w : World} {b k : Nat} (h : Rules w b) (hk : k < 256) :
    (¬ (1 ≤ k ∧ k ≤ 10) ∧ (Instr.lookup 95 (.map (some b)) (.int .u8 (k : Nat)) true).run Try.prog w = .ok (.tuple #[.nilFunc, .bool false]) w) ∨
    ∃ v, (Instr.lookup 95 (.map (some b)) (.int .u8 (k : Nat)) true).run Try.prog w = .ok (.tuple #[v, .bool true]) w ∧
      (k = 2 ∧ Dividing w v 3 3 ∨ k = 3 ∧ Dividing w v 2 1 ∨ k = 5 ∧ Within w v 3 0 0 ∨ k = 9 ∧ Within w v 0 1 16 ∨ (1 ≤ k ∧ k ≤ 10 ∧ k ≠ 2 ∧ k ≠ 3 ∧ k ≠ 5 ∧ k ≠ 9) ∧ Within w v 0 0 0) := by
  obtain ⟨v1, v2, v3, v5, v9, h0, h1, h2, h3, h5, h9⟩ := h
  obtain ⟨v, ps, hrun, hv⟩ := h0.look_ok keyed8 (t := 95) Try.underlying95 (z := .nilFunc) (by kernel_rfl) (zd := .held .nilFunc) (zp := []) rfl (key8 hk)
  have hv' : DataW.held v = (RulesD v1 v2 v3 v5 v9).atKey (.int .u8 (k : Nat)) (.held .nilFunc) := by
    unfold RF at hv; injection hv with hv; injection hv
  by_cases hin : 1 ≤ k ∧ k ≤ 10
  · refine .inr ⟨v, ?_, ?_⟩
    · rw [hrun]
      have : Maps.has (RulesD v1 v2 v3 v5 v9) (.int .u8 (k : Nat)) = true := by
        obtain ⟨ha, hb⟩ := hin
        have : k = 1 ∨ k = 2 ∨ k = 3 ∨ k = 4 ∨ k = 5 ∨ k = 6 ∨ k = 7 ∨ k = 8 ∨ k = 9 ∨ k = 10 := by omega
        rcases this with rfl | rfl | rfl | rfl | rfl | rfl | rfl | rfl | rfl | rfl <;> rfl
      rw [this]
    · obtain ⟨ha, hb⟩ := hin
      have : k = 1 ∨ k = 2 ∨ k = 3 ∨ k = 4 ∨ k = 5 ∨ k = 6 ∨ k = 7 ∨ k = 8 ∨ k = 9 ∨ k = 10 := by omega
      rcases this with rfl | rfl | rfl | rfl | rfl | rfl | rfl | rfl | rfl | rfl
      · have : v = v1 := by injection hv'
        subst this; exact .inr (.inr (.inr (.inr ⟨by omega, h1⟩)))
      · have : v = v2 := by injection hv'
        subst this; exact .inl ⟨rfl, h2⟩
      · have : v = v3 := by injection hv'
        subst this; exact .inr (.inl ⟨rfl, h3⟩)
      · have : v = v1 := by injection hv'
        subst this; exact .inr (.inr (.inr (.inr ⟨by omega, h1⟩)))
      · have : v = v5 := by injection hv'
        subst this; exact .inr (.inr (.inl ⟨rfl, h5⟩))
      · have : v = v1 := by injection hv'
        subst this; exact .inr (.inr (.inr (.inr ⟨by omega, h1⟩)))
      · have : v = v1 := by injection hv'
        subst this; exact .inr (.inr (.inr (.inr ⟨by omega, h1⟩)))
      · have : v = v1 := by injection hv'
        subst this; exact .inr (.inr (.inr (.inr ⟨by omega, h1⟩)))
      · have : v = v9 := by injection hv'
        subst this; exact .inr (.inr (.inr (.inl ⟨rfl, h9⟩)))
      · have : v = v1 := by injection hv'
        subst this; exact .inr (.inr (.inr (.inr ⟨by omega, h1⟩)))
  · have hall : ∀ p ∈ [((.int .u8 1 : Lit), DataW.held v1), (.int .u8 2, .held v2), (.int .u8 3, .held v3), (.int .u8 4, .held v1), (.int .u8 5, .held v5), (.int .u8 6, .held v1), (.int .u8 7, .held v1), (.int .u8 8, .held v1), (.int .u8 9, .held v9), (.int .u8 10, .held v1)], p.1.sameKey (.int .u8 (k : Nat)) = false := by
      intro p hp
      simp only [List.mem_cons, List.not_mem_nil, or_false] at hp
      rcases hp with rfl | rfl | rfl | rfl | rfl | rfl | rfl | rfl | rfl | rfl <;> (simp [Lit.sameKey]; omega)
    refine .inl ⟨hin, ?_⟩
    have hh : Maps.has (RulesD v1 v2 v3 v5 v9) (.int .u8 (k : Nat)) = false := List.any_eq_false.2 fun p hp => by rw [hall p hp]; simp
    have ha : (RulesD v1 v2 v3 v5 v9).atKey (.int .u8 (k : Nat)) (.held .nilFunc) = .held .nilFunc := by
      unfold RulesD DataW.atKey
      simp only
      rw [List.find?_eq_none.2 fun p hp => by rw [hall p hp]; simp]
    rw [ha] at hv'
    have : v = .nilFunc := by injection hv'
    subst this
    rw [hrun, hh]
theorem keyLit {n : Int} (h0 : 0 ≤ n) (h1 : n ≤ 255) : keyOf Try.prog 5 (.int .u8 n) = some (.int .u8 n) := Go.Maps.keyOf_int_mk Try.underlying5 (by simp [Lit.wf, IntKind.min, IntKind.max, IntKind.signed, IntKind.bits]; omega)
theorem new_cell {W : World} {b : Nat} {v : Value} {t : TypeId} (h : b = W.heap.size) : (W.alloc (.cells #[v] t)).cell? ⟨b, 0, none⟩ = some v := by
  subst h
  exact cell_one_new W v t 0 v rfl
theorem old_cell {W : World} {b : Nat} {v : Value} {o : Obj} (h : W.cell? ⟨b, 0, none⟩ = some v) : (W.alloc o).cell? ⟨b, 0, none⟩ = some v := cell_below h ((Below.refl _ W).alloc (Nat.le_refl _) o)
theorem within_any (last : Nat) (lo hi : Int) (w : World) : Calls Try.prog 93 #[.int .u8 (last : Nat), .int .i64 lo, .int .i64 hi] w fun e w' => (∃ v, e = .returned v ∧ Within w' v last lo hi) ∧ Below w.heap.size w w' := by
  have hb1 := (Below.refl _ w).alloc (Nat.le_refl _) (.cells #[.int .u8 (last : Nat)] 5)
  have hb2 := hb1.alloc hb1.size (.cells #[.int .i64 lo] 2)
  have hb3 := hb2.alloc hb2.size (.cells #[.int .i64 hi] 2)
  have HB := Lib.hid hb3; clear hb1 hb2 hb3
  go_enter Try.func93, Try.ntmps93
  go_wp2_with fail
  go_ret
  refine ⟨⟨_, rfl, _, _, _, rfl, ?_, ?_, ?_⟩, HB.out⟩
  · exact old_cell (old_cell (new_cell rfl))
  · exact old_cell (new_cell (by simp))
  · exact new_cell (by simp)
theorem dividing_any (last by_ : Nat) (w : World) : Calls Try.prog 95 #[.int .u8 (last : Nat), .int .u8 (by_ : Nat)] w fun e w' => (∃ v, e = .returned v ∧ Dividing w' v last by_) ∧ Below w.heap.size w w' := by
  have hb1 := (Below.refl _ w).alloc (Nat.le_refl _) (.cells #[.int .u8 (last : Nat)] 5)
  have hb2 := hb1.alloc hb1.size (.cells #[.int .u8 (by_ : Nat)] 5)
  have HB := Lib.hid hb2; clear hb1 hb2
  go_enter Try.func95, Try.ntmps95
  go_wp2_with fail
  go_ret
  refine ⟨⟨_, rfl, _, _, rfl, ?_, ?_⟩, HB.out⟩
  · exact old_cell (new_cell rfl)
  · exact new_cell (by simp)
def CellsKept (w w' : World) : Prop := ∀ b o v, w.cell? ⟨b, o, none⟩ = some v → w'.cell? ⟨b, o, none⟩ = some v
theorem CellsKept.within {w w' : World} {v : Value} {last : Nat} {lo hi : Int} (k : CellsKept w w') (h : Within w v last lo hi) : Within w' v last lo hi := by
  obtain ⟨b1, b2, b3, e, h1, h2, h3⟩ := h
  exact ⟨b1, b2, b3, e, k _ _ _ h1, k _ _ _ h2, k _ _ _ h3⟩
theorem CellsKept.dividing {w w' : World} {v : Value} {last by_ : Nat} (k : CellsKept w w') (h : Dividing w v last by_) : Dividing w' v last by_ := by
  obtain ⟨b1, b2, e, h1, h2⟩ := h
  exact ⟨b1, b2, e, k _ _ _ h1, k _ _ _ h2⟩
theorem CellsKept.of_below {w w' : World} (h : Below w.heap.size w w') : CellsKept w w' := fun b o v hc => cell_below hc h
theorem CellsKept.of_map {w w' : World} {b n : Nat} {D : DataW Value} (ho : w.ownsMap Try.prog 5 RF b n D) (hg : w.grownBy w' (some b)) : CellsKept w w' := fun c o v hc => by
  have hl := cell_lt hc
  have hne : c ≠ b := by
    rintro rfl
    obtain ⟨es, clock, h1, _⟩ := ho
    unfold World.cell? at hc
    simp only [h1] at hc
    cases hc
  rw [World.cell?_of_block (w := w) (hg.block c hl (by simpa using hne))]
  exact hc
/-- what is known while the map is filled -/
structure NS (w0 w : World) (b n : Nat) (D : DataW Value) (F : World → Prop) : Prop where
  base : w0.heap.size ≤ b
  below : Below w0.heap.size w0 w
  own : w.ownsMap Try.prog 5 RF b n D
  cl : F w
  st : ∀ w w', CellsKept w w' → F w → F w'
theorem NS.call {w0 w w' : World} {b n : Nat} {D : DataW Value} {F G : World → Prop} (h : NS w0 w b n D F) (hb : Below w.heap.size w w') (hg : G w') (hs : ∀ w w', CellsKept w w' → G w → G w') : NS w0 w' b n D (fun W => F W ∧ G W) :=
  ⟨h.base, h.below.trans (hb.mono h.below.size), ownsMap_below h.own hb, ⟨h.st _ _ (CellsKept.of_below hb) h.cl, hg⟩, fun w w' k hh => ⟨h.st _ _ k hh.1, hs _ _ k hh.2⟩⟩
theorem wpList_insert_ns (w0 w : World) {ops : Array Oper} {rest : List Oper} {o : Oper} {a : Act} {Q : Exit → Act → World → Prop}
    (hg : o.guard = none) (m x v : Operand) (hop : o.op = Op.insert 95 m x v) {b n : Nat} {D : DataW Value} {F : World → Prop} (h : NS w0 w b n D F) (hn : n < maxLen)
    (hm : a.eval m = .map (some b)) (key val : Value) (kl : Lit) (hx : a.eval x = key) (hv : a.eval v = val) (hkey : keyOf Try.prog 5 key = some kl)
    (hK : ∀ w', NS w0 w' b (n + 1) (D.put kl (.held val)) F → wpList Try.prog ops Q rest (a.put o.dst undef) w') :
    wpList Try.prog ops Q (o :: rest) a w :=
  wpList_insert_own w hg m x v 95 hop 5 _ keyed8 Try.underlying95 RF b n D hm h.own hn key val kl hx hv hkey _ _ rfl fun w' ho hgr =>
    hK w' ⟨h.base, h.below.grown hgr h.below.size (fun j hj => by cases hj; exact h.base), ho, h.st _ _ (CellsKept.of_map h.own hgr) h.cl, h.st⟩
/-- what numbers answers -/
def NumD (w : World) (e : Ending) (w' : World) : Prop := (∃ b, e = .returned (.map (some b)) ∧ Rules w' b) ∧ Below w.heap.size w w'
set_option maxHeartbeats 4000000 in
theorem numbers_any (w : World) : Calls Try.prog 77 #[] w (NumD w) := by
  have e39 : ∀ args w, (callFunc 93 args).run Try.prog w = .ok (.enter 93 args) w := enters_of Try.func93 (by kernel_rfl) rfl
  have e41 : ∀ args w, (callFunc 95 args).run Try.prog w = .ok (.enter 95 args) w := enters_of Try.func95 (by kernel_rfl) rfl
  have hmm := @run_makeMap Try.prog
  go_enter Try.func77, Try.ntmps77
  go_wp2_with fail
  refine (within_any 0 0 0 _).mono ?_; rintro e w1 ⟨⟨v1, rfl, h1⟩, hb1⟩
  have HNS : NS w (w1.alloc (.map #[] 0)) w1.heap.size 0 (.map []) (fun W => Within W v1 0 0 0) := ⟨hb1.size, hb1.alloc hb1.size _, World.ownsMap_made _ _ _ _, h1.below ((Below.refl _ _).alloc (Nat.le_refl _) _), fun _ _ k h => k.within h⟩
  clear h1 hb1
  dsimp only
  go_wp2_with (refine wpList_insert_ns _ _ rfl _ _ _ rfl HNS (by unfold maxLen; omega) rfl _ _ _ rfl rfl (keyLit (by decide) (by decide)) ?_; intro wn hns; clear HNS; have HNS := hns; clear hns)
  refine (dividing_any 3 3 _).mono ?_; rintro e w2 ⟨⟨v2, rfl, h2⟩, hb2⟩
  have HN := HNS.call (G := fun W => Dividing W v2 3 3) hb2 h2 (fun _ _ k h => k.dividing h)
  clear HNS hb2 h2; have HNS := HN; clear HN
  dsimp only
  go_wp2_with (refine wpList_insert_ns _ _ rfl _ _ _ rfl HNS (by unfold maxLen; omega) rfl _ _ _ rfl rfl (keyLit (by decide) (by decide)) ?_; intro wn hns; clear HNS; have HNS := hns; clear hns)
  refine (dividing_any 2 1 _).mono ?_; rintro e w3 ⟨⟨v3, rfl, h3⟩, hb3⟩
  have HN := HNS.call (G := fun W => Dividing W v3 2 1) hb3 h3 (fun _ _ k h => k.dividing h)
  clear HNS hb3 h3; have HNS := HN; clear HN
  dsimp only
  go_wp2_with (refine wpList_insert_ns _ _ rfl _ _ _ rfl HNS (by unfold maxLen; omega) rfl _ _ _ rfl rfl (keyLit (by decide) (by decide)) ?_; intro wn hns; clear HNS; have HNS := hns; clear hns)
  refine (within_any 3 0 0 _).mono ?_; rintro e w5 ⟨⟨v5, rfl, h5⟩, hb5⟩
  have HN := HNS.call (G := fun W => Within W v5 3 0 0) hb5 h5 (fun _ _ k h => k.within h)
  clear HNS hb5 h5; have HNS := HN; clear HN
  dsimp only
  go_wp2_with (refine wpList_insert_ns _ _ rfl _ _ _ rfl HNS (by unfold maxLen; omega) rfl _ _ _ rfl rfl (keyLit (by decide) (by decide)) ?_; intro wn hns; clear HNS; have HNS := hns; clear hns)
  refine (within_any 0 1 16 _).mono ?_; rintro e w9 ⟨⟨v9, rfl, h9⟩, hb9⟩
  have HN := HNS.call (G := fun W => Within W v9 0 1 16) hb9 h9 (fun _ _ k h => k.within h)
  clear HNS hb9 h9; have HNS := HN; clear HN
  dsimp only
  go_wp2_with (refine wpList_insert_ns _ _ rfl _ _ _ rfl HNS (by unfold maxLen; omega) rfl _ _ _ rfl rfl (keyLit (by decide) (by decide)) ?_; intro wn hns; clear HNS; have HNS := hns; clear hns)
  go_ret
  obtain ⟨⟨⟨⟨h1, h2⟩, h3⟩, h5⟩, h9⟩ := HNS.cl
  exact ⟨⟨_, rfl, v1, v2, v3, v5, v9, HNS.own, h1, h2, h3, h5, h9⟩, HNS.below⟩
end

section
open Go.ChangeShapes Go.WideShapes Go.ChangeAt Go.RowKit Go.BigFrame
set_option maxRecDepth 100000
/-- is z the place of a node that is no Output? -/
noncomputable def portB (g : List Nd) (z : Int) : Bool := @decide (portOk g z) (Classical.propDecidable _)
theorem portB_iff {g : List Nd} {z : Int} : portB g z = true ↔ portOk g z := by unfold portB; exact @decide_eq_true_iff _ (Classical.propDecidable _)
theorem portB_no {g : List Nd} {z : Int} (h : ¬ portOk g z) : true = !portB g z := by
  cases e : portB g z with
  | true => exact absurd (portB_iff.1 e) h
  | false => rfl
theorem portB_yes {g : List Nd} {z : Int} (h : portOk g z) : false = !portB g z := by rw [portB_iff.2 h]; rfl
set_option maxHeartbeats 4000000 in
theorem wrongPort_any (A : Option Addr) (l : List Gn) (c B : Nat) (z : Int) (w : World) (hG : Gr w A l) (hl : l.length ≤ maxLen) (hB : w.cell? ⟨B, 0, none⟩ = some (.slice A l.length c)) :
    Calls Try.prog 102 #[.int .i64 z, .pointer (some ⟨B, 0, none⟩)] w fun e w' => e = .returned (.bool (!portB (nds l) z)) ∧ w = w' := by
  unfold maxLen at hl
  by_cases h0 : z < 0
  · have HN := Lib.hid (portB_no (g := nds l) (z := z) fun h => by have := h.1; omega)
    clear hG
    go_enter Try.func102, Try.ntmps102
    go_wp2_with fail
    go_ret
    exact ⟨retb HN.out, rfl⟩
  · by_cases h1 : (l.length : Int) ≤ z
    · have HN := Lib.hid (portB_no (g := nds l) (z := z) fun h => by
        obtain ⟨_, m, hm, _⟩ := h
        have := (List.getElem?_eq_some_iff.1 hm).1
        rw [nds_len] at this; omega)
      clear hG
      go_enter Try.func102, Try.ntmps102
      go_wp2_with fail
      go_ret
      exact ⟨retb HN.out, rfl⟩
    · obtain ⟨Z, rfl⟩ : ∃ Z : Nat, z = (Z : Int) := Int.eq_ofNat_of_zero_le (by omega)
      have hZl : Z < l.length := by omega
      have hZz : (Z : Int) < (l.length : Int) := by omega
      obtain ⟨y, hy⟩ : ∃ y, l[Z]? = some y := ⟨_, List.getElem?_eq_getElem hZl⟩
      have hyn : (nds l)[Z]? = some y.nd := by unfold nds; rw [List.getElem?_map, hy]; rfl
      obtain ⟨b, o, rfl, hbl, hcl⟩ := hG.at_ hy
      obtain ⟨c0, _, _, _, _⟩ := hcl w (Below.refl _ _)
      have HY := Lib.hid hyn; clear hy hcl hyn hG
      by_cases h2 : y.nd.k = 10
      · have h2z : (((y.nd.k : Nat) : Int) == 10) = true := by simp; omega
        have HN := Lib.hid (portB_no (g := nds l) (z := (Z : Int)) fun h => by
          obtain ⟨_, m, hm, hk⟩ := h
          rw [Int.toNat_natCast, HY.out] at hm
          injection hm with hm
          exact hk (by rw [← hm]; exact h2))
        clear h2
        go_enter Try.func102, Try.ntmps102
        go_wp2_with fail
        go_ret
        exact ⟨retb HN.out, rfl⟩
      · have h2z : (((y.nd.k : Nat) : Int) == 10) = false := by simp; omega
        have HN := Lib.hid (portB_yes (g := nds l) (z := (Z : Int)) ⟨by omega, y.nd, by rw [Int.toNat_natCast]; exact HY.out, h2⟩)
        clear h2
        go_enter Try.func102, Try.ntmps102
        go_wp2_with fail
        go_ret
        exact ⟨retb HN.out, rfl⟩
def IdxPort (b : Bool) (w : World) (e : Ending) (w' : World) : Prop := (∃ i : Int, e = .returned (.int .i64 i) ∧ decide (0 ≤ i) = b) ∧ w = w'
set_option maxHeartbeats 4000000 in
theorem indexPort_any (A : Option Addr) (l : List Gn) (c B : Nat) (xA : Option Addr) (xs : List Int) (c1 : Nat) (w : World) (hA : Rw.Ts kindI w xA xs) (h1 : xs.length ≤ maxLen) (hG : Gr w A l) (hl : l.length ≤ maxLen) (hB : w.cell? ⟨B, 0, none⟩ = some (.slice A l.length c)) :
    Calls Try.prog 107 #[.slice xA xs.length c1, .func (.func 102) #[] #[.pointer (some ⟨B, 0, none⟩)]] w (IdxPort (xs.any fun z => !portB (nds l) z) w) := by
  have eg : ∀ args w, (callFunc 102 args).run Try.prog w = .ok (.enter 102 args) w := enters_of Try.func102 (by kernel_rfl) rfl
  have HC0 := Lib.hid fun (t : Int) (wr : World) (hb : Below w.heap.size w wr) (ht : t ∈ xs) => wrongPort_any A l c B t wr (hG.below hb) hl (cell_below hB hb)
  unfold maxLen at h1
  have HA := Lib.hid hA; clear hA
  go_enter Try.func107, Try.ntmps107
  go_wp2_with fail
  go_loop [8] (fun i => ∃ k : Nat, k ≤ xs.length ∧ i = .int .i64 k ∧ ∀ (j : Nat) (t : Int), j < k → xs[j]? = some t → (fun z => !portB (nds l) z) t = false) (fun i => xs.length - (intOf i).toNat)
  case atStart => exact ⟨0, by omega, rfl, fun j t h => absurd h (by omega)⟩
  case round =>
    obtain ⟨k, hk, rfl, hno⟩ := hrel
    have HNO := Lib.hid hno; clear hno
    by_cases hlt : k < xs.length
    · have hltz : (k : Int) < (xs.length : Int) := by omega
      obtain ⟨t, ht⟩ : ∃ t, xs[k]? = some t := ⟨_, List.getElem?_eq_getElem hlt⟩
      obtain ⟨b, o, rfl, hbl, hld⟩ := ints_at HA.out ht
      have c0 := hld _ (Below.refl _ _)
      have hcall := HC0.out t w (Below.refl _ _) (List.mem_of_getElem? ht)
      have HT := Lib.hid ht; clear ht hld
      cases hq : (fun z => !portB (nds l) z) t with
      | true =>
        simp only [] at hq hcall
        rw [hq] at hcall
        have HQ := Lib.hid hq; have HC := Lib.hid hcall; clear hq hcall
        go_wp2_with fail
        refine HC.out.mono ?_; rintro e w1 ⟨rfl, rfl⟩
        go_wp2_with fail
        go_ret
        exact ⟨⟨k, rfl, by rw [decide_eq_true (by omega)]; exact anyI_true (p := fun z => !portB (nds l) z) HT.out HQ.out⟩, rfl⟩
      | false =>
        simp only [] at hq hcall
        rw [hq] at hcall
        have HQ := Lib.hid hq; have HC := Lib.hid hcall; clear hq hcall
        go_wp2_with fail
        refine HC.out.mono ?_; rintro e w1 ⟨rfl, rfl⟩
        go_wp2_with fail
        go_round
        case rel =>
          refine ⟨k + 1, by omega, by simp, fun j t' hj ht' => ?_⟩
          by_cases e : j = k
          · subst e
            rw [HT.out] at ht'; cases ht'
            exact HQ.out
          · exact HNO.out j t' (by omega) ht'
        case measure => simp only [intOf]; omega
    · have hltz : ¬ (k : Int) < (xs.length : Int) := by omega
      go_wp2_with fail
      go_ret
      exact ⟨⟨-1, rfl, by rw [decide_eq_false (by omega)]; exact anyI_false (p := fun z => !portB (nds l) z) fun j t ht => HNO.out j t (by have := (List.getElem?_eq_some_iff.1 ht).1; omega) ht⟩, rfl⟩
theorem containsPort_any (A : Option Addr) (l : List Gn) (c B : Nat) (xA : Option Addr) (xs : List Int) (c1 : Nat) (w : World) (hA : Rw.Ts kindI w xA xs) (h1 : xs.length ≤ maxLen) (hG : Gr w A l) (hl : l.length ≤ maxLen) (hB : w.cell? ⟨B, 0, none⟩ = some (.slice A l.length c)) :
    Calls Try.prog 104 #[.slice xA xs.length c1, .func (.func 102) #[] #[.pointer (some ⟨B, 0, none⟩)]] w fun e w' => e = .returned (.bool (xs.any fun z => !portB (nds l) z)) ∧ w = w' := by
  have H := Lib.hid (indexPort_any A l c B xA xs c1 w hA h1 hG hl hB); clear hA
  generalize (xs.any fun z => !portB (nds l) z) = v at *
  go_enter Try.func104, Try.ntmps104
  go_wp2_with fail
  refine H.out.mono ?_; rintro e w1 ⟨⟨i, rfl, hi⟩, hb1⟩
  have HI := Lib.hid hi; have HB1 := Lib.hid hb1; clear hi hb1
  go_wp2_with fail
  go_ret
  exact ⟨retb HI.out, HB1.out⟩
def wantK (k : Nat) : Nat := if k = 1 then 0 else if k = 4 ∨ k = 6 then 2 else 1
theorem want_k (n : Nd) : n.want = wantK n.k := rfl
theorem retJ {a b : Int} (h : a = b) : Ending.returned (.int .i64 a) = .returned (.int .i64 b) := by rw [h]
theorem inputs_any (k : Nat) (w : World) : Calls Try.prog 103 #[.int .u8 (k : Nat)] w fun e w' => e = .returned (.int .i64 (wantK k : Nat)) ∧ w = w' := by
  by_cases k1 : k = 1
  · subst k1
    go_enter Try.func103, Try.ntmps103
    go_wp2_with fail
    go_ret
    exact ⟨rfl, rfl⟩
  · have k1z : (((k : Nat) : Int) == 1) = false := by simp; omega
    by_cases k4 : k = 4
    · subst k4
      go_enter Try.func103, Try.ntmps103
      go_wp2_with fail
      go_ret
      exact ⟨rfl, rfl⟩
    · have k4z : (((k : Nat) : Int) == 4) = false := by simp; omega
      by_cases k6 : k = 6
      · subst k6
        go_enter Try.func103, Try.ntmps103
        go_wp2_with fail
        go_ret
        exact ⟨rfl, rfl⟩
      · have k6z : (((k : Nat) : Int) == 6) = false := by simp; omega
        have HE := Lib.hid (show (1 : Int) = (wantK k : Nat) by unfold wantK; rw [if_neg k1, if_neg (by omega)]; rfl)
        clear k1 k4 k6
        go_enter Try.func103, Try.ntmps103
        go_wp2_with fail
        go_ret
        exact ⟨retJ HE.out, rfl⟩
set_option maxHeartbeats 8000000 in
theorem rightPorts_any (A : Option Addr) (l : List Gn) (c : Nat) (xk xa : Nat) (xb xd : Int) (xi : List Int) (xA : Option Addr) (xc : Nat) (w : World) (hG : Gr w A l) (hl : l.length ≤ maxLen) (hT : Rw.Ts kindI w xA xi) (hx : xi.length ≤ maxLen) :
    Calls Try.prog 91 #[.slice A l.length c, .agg #[.int .u8 (xk : Nat), .int .u8 (xa : Nat), .int .i64 xb, .int .i64 xd, .slice xA xi.length xc]] w fun e w' => e = .returned (.bool (portsB (nds l) ⟨xk, xa, xb, xd, xi⟩)) ∧ Below w.heap.size w w' := by
  have hb1 := (Below.refl _ w).alloc (Nat.le_refl _) (.cells #[.slice A l.length c] 68)
  have hb2 := hb1.alloc hb1.size (.cells #[.int .u8 (xk : Nat), .int .u8 (xa : Nat), .int .i64 xb, .int .i64 xd, .slice xA xi.length xc] 24)
  obtain ⟨wa, hwa⟩ : ∃ wa, ((w.alloc (.cells #[.slice A l.length c] 68)).alloc (.cells #[.int .u8 (xk : Nat), .int .u8 (xa : Nat), .int .i64 xb, .int .i64 xd, .slice xA xi.length xc] 24)) = wa := ⟨_, rfl⟩
  have hcell : wa.cell? ⟨w.heap.size, 0, none⟩ = some (.slice A l.length c) := by rw [← hwa]; exact old_cell (new_cell rfl)
  rw [hwa] at hb2
  have hc1 : ∀ n, _ := fun n => containsPort_any A l c w.heap.size xA xi xc (wa.drewN n) (hT.below (below_drewN hb2 n)) hx (hG.below (below_drewN hb2 n)) hl (cell_below hcell (below_drewN (Below.refl _ _) n))
  have hc2 : ∀ W, _ := fun W => inputs_any xk W
  rw [← hwa] at hc1 hb2
  have hP : ∀ v, (xi.any fun z => !portB (nds l) z) = v → ((decide (xi.length = wantK xk)) && !v) = portsB (nds l) ⟨xk, xa, xb, xd, xi⟩ := by
    intro v hv
    rw [Bool.eq_iff_iff, portsB_iff, ← hv]
    simp only [Bool.and_eq_true, decide_eq_true_eq, Bool.not_eq_true', List.any_eq_false]
    constructor
    · exact fun h => ⟨fun z hz => portB_iff.1 (by simpa using h.2 z hz), h.1⟩
    · exact fun h => ⟨h.2, fun z hz => by simp [portB_iff.2 (h.1 z hz)]⟩
  have HB := Lib.hid hb2; have HC1 := Lib.hid hc1; have HC2 := Lib.hid hc2
  generalize (xi.any fun z => !portB (nds l) z) = v at *
  have HP := Lib.hid (hP v rfl)
  clear hb1 hb2 hc1 hc2 hP hG hT hcell hwa wa
  generalize portsB (nds l) ⟨xk, xa, xb, xd, xi⟩ = R at *
  generalize wantK xk = W at *
  unfold maxLen at hx hl
  by_cases h1 : xi.length = W
  · have h1z : ((xi.length : Int) == (W : Int)) = true := by simp; omega
    have HR : Hid ((!v) = R) := Lib.hid (by have := HP.out; rw [decide_eq_true h1, Bool.true_and] at this; exact this)
    clear h1 HP
    go_enter Try.func91, Try.ntmps91
    go_wp2_with fail
    go_quiet (first | (exact Calls.quiet_of_same ((HC2.out _).mono fun _ _ h => ⟨h.1, h.2.symm⟩)) | (exact Calls.quiet_of_same ((HC1.out _).mono fun _ _ h => ⟨h.1, h.2.symm⟩)))
    go_wp2
    go_ret
    exact ⟨retb HR.out, below_drewN HB.out _⟩
  · have h1z : ((xi.length : Int) == (W : Int)) = false := by rw [beq_eq_false_iff_ne]; omega
    have HR : Hid (false = R) := Lib.hid (by have := HP.out; rw [decide_eq_false h1, Bool.false_and] at this; exact this)
    clear h1 HP
    go_enter Try.func91, Try.ntmps91
    go_wp2_with fail
    go_quiet (first | (exact Calls.quiet_of_same ((HC2.out _).mono fun _ _ h => ⟨h.1, h.2.symm⟩)) | (exact Calls.quiet_of_same ((HC1.out _).mono fun _ _ h => ⟨h.1, h.2.symm⟩)))
    go_wp2
    go_ret
    exact ⟨retb HR.out, below_drewN HB.out _⟩
end
end Go.Proofs.Ytcjdjdhjbchaaaa
