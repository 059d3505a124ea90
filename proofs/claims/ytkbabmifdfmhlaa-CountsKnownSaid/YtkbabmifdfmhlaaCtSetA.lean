/- CtAt, CtSet, CtOps -/
import Derived.Test.YtkbabmifdfmhlaaCtMap
import Derived.Test.YtkbabmifdfmhlaaFrRightA
import Derived.Test.YtkbabmifdfmhlaaTail
import Derived.WalkSpells
namespace Go.Proofs.Ytkbabmifdfmhlaa
set_option linter.unusedVariables false
section
open Go.ChangeShapes Go.WideShapes Go.ChangeAt Go.RowKit Go.BigFrame Go.Shelf
set_option maxRecDepth 100000
/-- block b holds Counts of depth d: L, in the map m of at most N; all of it lies from base on -/
structure Ct (w : World) (base b : Nat) (m : Option Nat) (N : Nat) (d : Int) (L : Cn) : Prop where
  row : Row w b 57 [.int .i64 d, .map m]
  of : (m = none ∧ L = []) ∨ ∃ k, m = some k ∧ MapC w k N L
  lo : base ≤ b ∧ ∀ k, m = some k → base ≤ k
  ok : CnOk L
  even : EvenC L d
/-- the blocks of it -/
def AtC (b : Nat) (m : Option Nat) (k : Nat) : Prop := k = b ∨ some k = m
theorem CnOk.nil : CnOk [] := ⟨List.Pairwise.nil, by simp⟩
theorem EvenC.nil {d : Int} : EvenC [] d := by intro p hp; cases hp
section
variable {w w' : World} {F : Nat → Prop} {base b N : Nat} {m : Option Nat} {d : Int} {L : Cn}
theorem Ct.lt (h : Ct w base b m N d L) : b < w.heap.size := h.row.lt
theorem Ct.mlt (h : Ct w base b m N d L) {k : Nat} (hk : m = some k) : k < w.heap.size := by
  rcases h.of with ⟨h0, _⟩ | ⟨k', h1, h2⟩
  · rw [hk] at h0; cases h0
  · rw [hk] at h1; cases h1; exact h2.lt
theorem Ct.touch (h : Ct w base b m N d L) (ht : Touch F w w') (hb : ¬ F b) (hm : ∀ k, m = some k → ¬ F k) : Ct w' base b m N d L :=
  ⟨h.row.touch ht hb, h.of.imp id fun ⟨k, h1, h2⟩ => ⟨k, h1, h2.touch ht (hm k h1)⟩, h.lo, h.ok, h.even⟩
theorem Ct.below (h : Ct w base b m N d L) (hb : Below w.heap.size w w') : Ct w' base b m N d L :=
  h.touch (F := fun _ => False) (Touch.of_below hb) id fun _ _ => id
theorem Ct.mono (h : Ct w base b m N d L) {M : Nat} (hm : N ≤ M) : Ct w base b m M d L :=
  ⟨h.row, h.of.imp id fun ⟨k, h1, h2⟩ => ⟨k, h1, h2.mono hm⟩, h.lo, h.ok, h.even⟩
theorem Ct.nr (h : Ct w base b m N d L) {t : St} : Nr (cnt L t) := by
  by_cases hz : cnt L t = 0
  · rw [hz]; unfold Nr; omega
  · rcases h.of with ⟨_, rfl⟩ | ⟨k, _, h2⟩
    · exact absurd cnt_nil hz
    · exact (h2.2 _ (cnt_ne hz)).2
theorem Ct.R (h : Ct w base b m N d L) {p : St × Int} (hp : p ∈ L) : p.1.R := (h.even p hp).1
theorem Ct.c0 (h : Ct w base b m N d L) : w.cell? ⟨b, 0, none⟩ = some (.int .i64 d) := h.row.cell 0
theorem Ct.c1 (h : Ct w base b m N d L) : w.cell? ⟨b, 1, none⟩ = some (.map m) := h.row.cell 1
theorem Ct.look (h : Ct w base b m N d L) {t : St} (ht : t.W) : (Instr.lookup 55 (.map m) t.val false).run Try.prog w = .ok (.int .i64 (cnt L t)) w := by
  rcases h.of with ⟨rfl, rfl⟩ | ⟨k, rfl, h2⟩
  · exact Go.Maps.look_nil false keyed5 Try.underlying55 (Try.zeroValue2 w) (keyOf_kt ht)
  · exact h2.look h.ok ht
theorem cnt_wrong {t : St} (h : Ct w base b m N d L) (ht : ¬ (t.R ∧ t.d = d)) : cnt L t = 0 := cnt_of_not fun p hp e => ht (by rw [← e]; exact h.even p hp)
end
theorem new_no (d : Int) (w : World) (h : d < 0 ∨ 3 < d) : Calls Try.prog 11 #[.int .i64 d] w fun e w' => e = .returned (.pointer none) ∧ w = w' := by
  by_cases h0 : d < 0
  · clear h
    go_enter Try.func11, Try.ntmps11
    go_wp2
    go_ret
    exact ⟨rfl, rfl⟩
  · have h1 : 3 < d := by omega
    clear h
    go_enter Try.func11, Try.ntmps11
    go_wp2
    go_ret
    exact ⟨rfl, rfl⟩
theorem new_yes (d : Int) (w : World) (h0 : 0 ≤ d) (h3 : d ≤ 3) : Calls Try.prog 11 #[.int .i64 d] w fun e w' => e = .returned (.pointer (some ⟨w.heap.size, 0, none⟩)) ∧ Ct w' w.heap.size w.heap.size none 0 d [] ∧ Below w.heap.size w w' := by
  go_enter Try.func11, Try.ntmps11
  go_wp2
  go_ret
  exact ⟨rfl, ⟨Row.made w _ _, .inl ⟨rfl, rfl⟩, ⟨Nat.le_refl _, by simp⟩, CnOk.nil, EvenC.nil⟩, (Below.refl _ _).alloc (Nat.le_refl _) _⟩
theorem near_any (n : Int) (w : World) : Calls Try.prog 34 #[.int .i64 n] w fun e w' => e = .returned (.bool (decide (Nr n))) ∧ w = w' := by
  by_cases h1 : -1099511627776 ≤ n
  · by_cases h2 : n ≤ 1099511627776
    · have hv : decide (Nr n) = true := decide_eq_true ⟨h1, h2⟩
      rw [hv]; clear hv
      go_enter Try.func34, Try.ntmps34
      go_wp2
      go_ret
      exact ⟨rfl, rfl⟩
    · have hv : decide (Nr n) = false := decide_eq_false fun h => h2 h.2
      rw [hv]; clear hv
      go_enter Try.func34, Try.ntmps34
      go_wp2
      go_ret
      exact ⟨rfl, rfl⟩
  · have hv : decide (Nr n) = false := decide_eq_false fun h => h1 h.1
    rw [hv]; clear hv
    go_enter Try.func34, Try.ntmps34
    go_wp2
    go_ret
    exact ⟨rfl, rfl⟩
theorem count_nil (t : St) (w : World) : Calls Try.prog 15 #[.pointer none, t.val] w fun e w' => e = .returned (.int .i64 0) ∧ Below w.heap.size w w' := by
  unfold St.val
  go_enter Try.func15, Try.ntmps15
  go_wp2
  go_ret
  exact ⟨rfl, (Below.refl _ _).alloc (Nat.le_refl _) _⟩
set_option maxHeartbeats 1000000 in
theorem count_any {w : World} {base b N : Nat} {m : Option Nat} {d : Int} {L : Cn} (h : Ct w base b m N d L) (t : St) (ht : t.W) :
    Calls Try.prog 15 #[.pointer (some ⟨b, 0, none⟩), t.val] w fun e w' => e = .returned (.int .i64 (cnt L t)) ∧ Below w.heap.size w w' := by
  have hbA := (Below.refl w.heap.size w).alloc (Nat.le_refl _) (.cells #[.int .i64 t.d, .int .i64 t.e, .int .i64 t.x, .int .i64 t.y, .int .i64 t.z] 25)
  have h1 := h.below hbA
  have hl := Ct.look (h1.touch (F := fun _ => False) ((Touch.refl _ _).drew) id fun _ _ => id) ht
  have hc := h1.c1
  have hx := Holds.made w t
  generalize cnt L t = n at *
  unfold St.val at *
  have hlt := h1.lt
  have HX := Lib.hid hx; have HB := Lib.hid hbA; clear hx hbA h h1
  go_enter Try.func15, Try.ntmps15
  go_wp2
  go_region
  go_wp2
  go_ret
  exact ⟨rfl, HB.out.drew⟩
end

section
open Go.ChangeShapes Go.WideShapes Go.ChangeAt Go.RowKit Go.BigFrame Go.Shelf
set_option maxRecDepth 100000
/-- the map m holds L, or there is none -/
def MapN (w : World) (m : Option Nat) (N : Nat) (L : Cn) : Prop := (m = none ∧ L = []) ∨ ∃ k, m = some k ∧ MapC w k N L
section
variable {w : World} {ops : Array Oper} {rest : List Oper} {o : Oper} {a : Act} {Q : Exit → Act → World → Prop} {m : Option Nat} {k N : Nat} {L : Cn} {t : St}
theorem wpList_drop_C (hg : o.guard = none) (x y : Operand) (hop : o.op = Op.call { callee := Callee.builtin Builtin.delete, args := #[x, y], argTypes := #[55, 25] })
    (hx : a.eval x = .map m) (hy : a.eval y = t.val) (h : MapN w m N L) (ht : t.W)
    (hK : ∀ w', MapN w' m N (delC L t) → Touch (fun k => some k = m) w w' → wpList Try.prog ops Q rest (a.put o.dst (.tuple #[])) w') : wpList Try.prog ops Q (o :: rest) a w := by
  refine wpList_plain hg fun K' hK' => ?_
  rcases h with ⟨rfl, rfl⟩ | ⟨k, rfl, h⟩
  · have hrun := Go.Maps.drop_nil (w := w) keyed5 Try.underlying55 (keyOf_kt ht) o.type
    unfold Oper.wp
    simp [execOp, hop, resolve, invoke, builtin, hx, hy, hrun, Result.andThen]
    exact hK' _ _ (hK w (.inl ⟨rfl, rfl⟩) (Touch.refl _ _))
  · obtain ⟨w', hrun, h1, h2⟩ := h.drop ht o.type
    unfold Oper.wp
    simp [execOp, hop, resolve, invoke, builtin, hx, hy, hrun, Result.andThen]
    exact hK' _ _ (hK w' (.inr ⟨k, rfl, h1⟩) (h2.mono fun i e => by rw [e]))
theorem wpList_store_C {n : Int} (hg : o.guard = none) (x y z : Operand) (hop : o.op = Op.mapUpdate 55 x y z) (hx : a.eval x = .map (some k)) (hy : a.eval y = t.val) (hz : a.eval z = .int .i64 n)
    (h : MapC w k N L) (hN : N < maxLen) (ht : t.R) (hn : Nr n)
    (hK : ∀ w', MapC w' k (N + 1) (insC (t, n) (delC L t)) → Touch (fun i => i = k) w w' → wpList Try.prog ops Q rest (a.put o.dst undef) w') : wpList Try.prog ops Q (o :: rest) a w := by
  refine wpList_plain hg fun K' hK' => ?_
  obtain ⟨w', hrun, h1, h2⟩ := h.store hN ht hn
  unfold Oper.wp
  simp [execOp, hop, hx, hy, hz, hrun, Result.andThen]
  exact hK' _ _ (hK w' h1 h2)
end
/-- what set leaves -/
def SetTo (w : World) (base b : Nat) (m : Option Nat) (N : Nat) (d : Int) (L : Cn) (e : Ending) (w' : World) : Prop :=
  e = .returned (.tuple #[]) ∧ ∃ m', Ct w' base b m' N d L ∧ Touch (AtC b m) w w' ∧ (m' = m ∨ ∃ k, m' = some k ∧ w.heap.size ≤ k)
set_option maxHeartbeats 1000000 in
theorem set_zero {w : World} {base b N : Nat} {m : Option Nat} {d : Int} {L : Cn} (h : Ct w base b m N d L) (t : St) (ht : t.W) :
    Calls Try.prog 35 #[.pointer (some ⟨b, 0, none⟩), t.val, .int .i64 0] w (SetTo w base b m N d (delC L t)) := by
  have htA := (Touch.refl (AtC b m) w).alloc (.cells #[.int .i64 t.d, .int .i64 t.e, .int .i64 t.x, .int .i64 t.y, .int .i64 t.z] 25)
  have h1 := h.below ((Below.refl w.heap.size w).alloc (Nat.le_refl _) (.cells #[.int .i64 t.d, .int .i64 t.e, .int .i64 t.x, .int .i64 t.y, .int .i64 t.z] 25))
  have hx := Holds.made w t
  have h2 : Ct (w.alloc (.cells #[.int .i64 t.d, .int .i64 t.e, .int .i64 t.x, .int .i64 t.y, .int .i64 t.z] 25)).drew base b m N d L := h1.touch (F := fun _ => False) ((Touch.refl _ _).drew) id fun _ _ => id
  have hc := h1.c1
  have hlt := h1.lt
  have HT := Lib.hid htA; have H2 := Lib.hid h2; have HX := Lib.hid hx; clear htA h1 h2 h hx
  have hy : t.val = .agg #[.int .i64 t.d, .int .i64 t.e, .int .i64 t.x, .int .i64 t.y, .int .i64 t.z] := rfl
  rw [hy]
  have HY := Lib.hid hy; clear hy
  go_enter Try.func35, Try.ntmps35
  go_wp2
  refine wp_tail 5 (by kernel_rfl) (by kernel_rfl) ?_
  simp only [List.take_succ_cons, List.take_zero, List.drop_succ_cons, List.drop_zero]
  repeat still_step
  refine wpStill_nil ?_
  refine wpList_drop_C (m := m) (N := N) (L := L) (t := t) rfl _ _ rfl rfl rfl H2.out.of ht ?_
  intro w1 hm1 ht1
  have hfin : Ct w1 base b m N d (delC L t) := by
    have h2 := H2.out
    refine ⟨h2.row.touch ht1 (fun e => ?_), hm1, h2.lo, delC_ok h2.ok, fun p hp => h2.even p (mem_delC.1 hp).1⟩
    rcases h2.of with ⟨e0, _⟩ | ⟨k, e1, hk⟩
    · rw [e0] at e; cases e
    · rw [e1] at e; cases e
      obtain ⟨es, c, hh⟩ := hk.isMap
      have := h2.row
      unfold Row at this
      rw [hh] at this; cases this
  have HF := Lib.hid (And.intro hfin (HT.out.drew.trans (ht1.mono fun i e => .inr e))); clear hfin ht1 hm1
  go_wp2_with fail
  refine bodyPost_ret (results_none rfl _ _ _) rfl ?_
  exact ⟨rfl, m, HF.out.1, HF.out.2, .inl rfl⟩
set_option maxHeartbeats 2000000 in
theorem set_more {w : World} {base b N : Nat} {m : Option Nat} {d : Int} {L : Cn} (h : Ct w base b m N d L) (hN : N < maxLen) (t : St) (ht : t.R) (hd : t.d = d) (n : Int) (hn : Nr n) (h0 : n ≠ 0) :
    Calls Try.prog 35 #[.pointer (some ⟨b, 0, none⟩), t.val, .int .i64 n] w (SetTo w base b m (N + 1) d (insC (t, n) (delC L t))) := by
  have hbA := (Below.refl w.heap.size w).alloc (Nat.le_refl _) (.cells #[.int .i64 t.d, .int .i64 t.e, .int .i64 t.x, .int .i64 t.y, .int .i64 t.z] 25)
  have hA := (Touch.refl (AtC b m) w).alloc (.cells #[.int .i64 t.d, .int .i64 t.e, .int .i64 t.x, .int .i64 t.y, .int .i64 t.z] 25)
  have h1 := h.below hbA
  have hx := Holds.made w t
  have hz : (n == 0) = false := by simpa using h0
  have hc := h1.c1
  have hlt := h1.lt
  have hwb := h.lt
  have hlo := h.lo
  have hok : CnOk (insC (t, n) (delC L t)) := ⟨insC_sort (delC_ok h.ok).sort fun q hq => (mem_delC.1 hq).2, fun p hp => by
    rcases mem_insC.1 hp with e | hp
    · rw [e]; exact h0
    · exact (delC_ok h.ok).zero p hp⟩
  have hev : EvenC (insC (t, n) (delC L t)) d := fun p hp => by
    rcases mem_insC.1 hp with e | hp
    · rw [e]; exact ⟨ht, hd⟩
    · exact h.even p (mem_delC.1 hp).1
  have hmn : ∀ (w : World) (p : Option Nat), (binOp .eql 55 (.map p) (.map none)).run Try.prog w = .ok (.bool p.isNone) w := fun w p => run_eql_map_nil w _ _ _ p Try.underlying55
  have hmm := @run_makeMap Try.prog
  have HOK := Lib.hid (And.intro hok hev); have HA := Lib.hid (And.intro hA hbA); have H1 := Lib.hid h1; have HX := Lib.hid hx; have HL := Lib.hid (And.intro hlo hwb); have HN := Lib.hid hn; have HM := Lib.hid hmm; have HQ := Lib.hid hmn; have HR := Lib.hid ht; have HLT := Lib.hid hlt
  clear hok hev hA hbA h1 hx h0 hlo hn h hmm hmn hd hc hlt hwb ht
  have hy : t.val = .agg #[.int .i64 t.d, .int .i64 t.e, .int .i64 t.x, .int .i64 t.y, .int .i64 t.z] := rfl
  rw [hy]
  clear hy
  go_enter Try.func35, Try.ntmps35
  go_upto_region 3 with fail
  clear hz
  obtain ⟨w0, hw0⟩ : ∃ w0, w.alloc (.cells #[.int .i64 t.d, .int .i64 t.e, .int .i64 t.x, .int .i64 t.y, .int .i64 t.z] 25) = w0 := ⟨_, rfl⟩
  obtain ⟨gx, hgx⟩ : ∃ gx, w.heap.size = gx := ⟨_, rfl⟩
  rw [hw0] at H1 HX HA HLT ⊢
  rw [hgx] at HX ⊢
  have HG := Lib.hid hgx; clear hw0 hgx
  cases m with
  | none =>
    have hmn := HQ.out; have hmm := HM.out
    have hc := H1.out.c1
    have hfr := H1.out.row.free 1
    have hlt := HLT.out
    go_upto_region 5 with fail
    have hne : b ≠ w0.heap.size := by have := HLT.out; omega
    have hrow : Row ((w0.setCell ⟨b, 1, none⟩ (.map (some w0.heap.size))).alloc (.map #[] 0)) b 57 [.int .i64 d, .map (some w0.heap.size)] := (H1.out.row.put 1 _).alloc _
    have hmap : MapC ((w0.setCell ⟨b, 1, none⟩ (.map (some w0.heap.size))).alloc (.map #[] 0)) w0.heap.size 0 [] := by
      have h := MapC.made (w0.setCell ⟨b, 1, none⟩ (.map (some w0.heap.size)))
      rwa [show (w0.setCell ⟨b, 1, none⟩ (.map (some w0.heap.size))).heap.size = w0.heap.size by simp [World.setCell]] at h
    have htt : Touch (AtC b none) w ((w0.setCell ⟨b, 1, none⟩ (.map (some w0.heap.size))).alloc (.map #[] 0)) := (HA.out.1.setCell (p := ⟨b, 1, none⟩) (.inl (.inl rfl)) _).alloc _
    have hxx : Holds ((w0.setCell ⟨b, 1, none⟩ (.map (some w0.heap.size))).alloc (.map #[] 0)) gx t := Row.alloc (Row.far (p := ⟨b, 1, none⟩) HX.out (fun e => by have := HL.out.2; have := HG.out; have e' : gx = b := e; omega) _) _
    obtain ⟨k, hk⟩ : ∃ k, w0.heap.size = k := ⟨_, rfl⟩
    rw [hk] at hrow hmap htt hxx hne ⊢
    obtain ⟨w1, hw1⟩ : ∃ w1, (w0.setCell ⟨b, 1, none⟩ (.map (some k))).alloc (.map #[] 0) = w1 := ⟨_, rfl⟩
    rw [hw1] at hrow hmap htt hxx ⊢
    have HL0 : L = [] := by rcases H1.out.of with ⟨_, e⟩ | ⟨k, e, _⟩; exact e; cases e
    subst HL0
    have hkg : w.heap.size ≤ k := by rw [← hk]; exact HA.out.2.size
    clear hc hfr hlt hmn hmm hw1 hk
    have hc := hrow.drewN 1 |>.cell 1
    obtain ⟨c0, c1, c2, c3, c4⟩ := (hxx.drewN 1).cells5
    have HRW := Lib.hid hrow; have HMP := Lib.hid hmap; have HT := Lib.hid htt; have HNE := Lib.hid hne; have HKG := Lib.hid hkg; clear hrow hmap htt hxx hne hkg
    refine wp_tail 6 (by kernel_rfl) (by kernel_rfl) ?_
    simp only [List.take_succ_cons, List.take_zero, List.drop_succ_cons, List.drop_zero]
    repeat still_step
    refine wpStill_nil ?_
    refine wpList_store_C (k := k) (N := 0) (L := []) (t := t) (n := n) rfl _ _ _ rfl rfl rfl rfl (HMP.out.touch (F := fun _ => False) ((Touch.refl _ _).drewN 1) id) (by unfold maxLen; omega) HR.out HN.out ?_
    intro w2 hm2 ht2
    have hfin : Ct w2 base b (some k) (N + 1) d (insC (t, n) (delC [] t)) := by
      refine ⟨(HRW.out.drewN 1).touch ht2 HNE.out, .inr ⟨k, rfl, hm2.mono (by omega)⟩, ⟨HL.out.1.1, fun j e => by cases e; have := HL.out.1.1; have := HL.out.2; have := HKG.out; omega⟩, HOK.out.1, HOK.out.2⟩
    have HF := Lib.hid (And.intro hfin ((HT.out.drewN 1).trans' ht2 fun i e => .inr (by rw [e]; exact HKG.out))); clear hfin ht2 hm2 hc c0 c1 c2 c3 c4
    go_wp2_with fail
    go_end0
    exact ⟨rfl, some k, HF.out.1, HF.out.2, .inr ⟨k, rfl, HKG.out⟩⟩
  | some k =>
    have hmn := HQ.out
    have hc := H1.out.c1
    have hlt := HLT.out
    go_upto_region 5 with fail
    have hmap : MapC w0 k N L := by rcases H1.out.of with ⟨e, _⟩ | ⟨k', e, h⟩; cases e; cases e; exact h
    have hne : b ≠ k := fun e => by
      obtain ⟨es, c, hh⟩ := hmap.isMap
      have hr := H1.out.row
      unfold Row at hr
      rw [e, hh] at hr; cases hr
    clear hc hlt hmn
    have hc := H1.out.row.drewN 1 |>.cell 1
    obtain ⟨c0, c1, c2, c3, c4⟩ := (HX.out.drewN 1).cells5
    have HMP := Lib.hid hmap; have HNE := Lib.hid hne; clear hmap hne
    refine wp_tail 6 (by kernel_rfl) (by kernel_rfl) ?_
    simp only [List.take_succ_cons, List.take_zero, List.drop_succ_cons, List.drop_zero]
    repeat still_step
    refine wpStill_nil ?_
    refine wpList_store_C (k := k) (N := N) (L := L) (t := t) (n := n) rfl _ _ _ rfl rfl rfl rfl (HMP.out.touch (F := fun _ => False) ((Touch.refl _ _).drewN 1) id) hN HR.out HN.out ?_
    intro w2 hm2 ht2
    have hfin : Ct w2 base b (some k) (N + 1) d (insC (t, n) (delC L t)) :=
      ⟨(H1.out.row.drewN 1).touch ht2 HNE.out, .inr ⟨k, rfl, hm2⟩, HL.out.1, HOK.out.1, HOK.out.2⟩
    have HF := Lib.hid (And.intro hfin ((HA.out.1.drewN 1).trans (ht2.mono fun i e => .inr (by rw [e])))); clear hfin ht2 hm2 hc c0 c1 c2 c3 c4
    go_wp2_with fail
    go_end0
    exact ⟨rfl, some k, HF.out.1, HF.out.2, .inl rfl⟩
theorem set_any {w : World} {base b N : Nat} {m : Option Nat} {d : Int} {L : Cn} (h : Ct w base b m N d L) (hN : N < maxLen) (t : St) (ht : t.R) (hd : t.d = d) (n : Int) (hn : Nr n) :
    Calls Try.prog 35 #[.pointer (some ⟨b, 0, none⟩), t.val, .int .i64 n] w (SetTo w base b m (N + 1) d (if n = 0 then delC L t else insC (t, n) (delC L t))) := by
  by_cases h0 : n = 0
  · subst h0
    rw [if_pos rfl]
    exact (set_zero h t ht.w).mono fun e w' ⟨he, m', h1, h2⟩ => ⟨he, m', h1.mono (by omega), h2⟩
  · rw [if_neg h0]
    exact set_more h hN t ht hd n hn h0
end

section
open Go.ChangeShapes Go.WideShapes Go.ChangeAt Go.RowKit Go.BigFrame Go.Shelf
set_option maxRecDepth 100000
section
variable {P : Program} {C : World → Prop} {K : Act → Prop} {a : Act} {o : Oper} {ops : Array Oper}
theorem q_look {v key mv : Value} (t : TypeId) (x y : Operand) (ho : o.op = .lookup t x y false) (hw : Region.wanted o (yielded ops a.tmps) = true) (hx : a.eval x = mv) (hy : a.eval y = key)
    (hr : ∀ w', C w' → (Instr.lookup t mv key false).run P w' = .ok v w') (hk : K (a.put o.dst v)) :
    if Region.wanted o (yielded ops a.tmps) then o.quiet P a C K else K (a.put o.dst undef) := by
  rw [if_pos hw]
  refine ⟨v, fun w' hw' => ?_, hk⟩
  unfold Oper.quietAt execOp
  simp only [ho, hx, hy, Sem.run_bind, hr w' hw', Result.andThen_ok, Sem.run_pure, Oper.quietUpon]
  exact ⟨trivial, trivial⟩
end
section
variable {W : World} {base b N : Nat} {m : Option Nat} {d : Int} {L : Cn} {t : St} {x y : Operand} {i j : Int} {p : Bool}
theorem load_d1 (h : Ct W base b m N d L) : ∀ w', Below W.heap.size W w' → (Instr.loadAt 3 (.pointer (some ⟨b, 0, none⟩))).run Try.prog w' = .ok (.int .i64 d) w' := load_at h.lt h.c0
theorem load_m (h : Ct W base b m N d L) : ∀ w', Below W.heap.size W w' → (Instr.loadAt 55 (.pointer (some ⟨b, 1, none⟩))).run Try.prog w' = .ok (.map m) w' := by
  intro w' hb
  have hc := (h.below hb).c1
  go_simp
theorem look_c (h : Ct W base b m N d L) (ht : t.W) : ∀ w', Below W.heap.size W w' → (Instr.lookup 55 (.map m) (.agg #[.int .i64 t.d, .int .i64 t.e, .int .i64 t.x, .int .i64 t.y, .int .i64 t.z]) false).run Try.prog w' = .ok (.int .i64 (cnt L t)) w' :=
  fun w' hb => (h.below hb).look ht
theorem add64_is {k : Int} (h : i + j = k) (h1 : -9000000000000 ≤ k) (h2 : k ≤ 9000000000000) : ∀ w, (do eqGuard .add 2 x y (.int .i64 i) (.int .i64 j); binOp .add 2 (.int .i64 i) (.int .i64 j) : Sem Value).run Try.prog w = .ok (.int .i64 k) w := by
  intro w
  subst h
  have : IntKind.i64.wrap (i + j) = i + j := IntWalk.i64_in _ (by omega)
  go_simp
theorem ne64_is (h : (i != j) = p) : ∀ w, (do eqGuard .neq 2 x y (.int .i64 i) (.int .i64 j); binOp .neq 2 (.int .i64 i) (.int .i64 j) : Sem Value).run Try.prog w = .ok (.bool p) w := by
  intro w; subst h; go_simp
theorem eq64_is (h : (i == j) = p) : ∀ w, (do eqGuard .eql 2 x y (.int .i64 i) (.int .i64 j); binOp .eql 2 (.int .i64 i) (.int .i64 j) : Sem Value).run Try.prog w = .ok (.bool p) w := by
  intro w; subst h; go_simp
theorem gt64_is (h : decide (j < i) = p) : ∀ w, (do eqGuard .gtr 2 x y (.int .i64 i) (.int .i64 j); binOp .gtr 2 (.int .i64 i) (.int .i64 j) : Sem Value).run Try.prog w = .ok (.bool p) w := by
  intro w; subst h; go_simp
theorem lt64_is (h : decide (i < j) = p) : ∀ w, (do eqGuard .lss 2 x y (.int .i64 i) (.int .i64 j); binOp .lss 2 (.int .i64 i) (.int .i64 j) : Sem Value).run Try.prog w = .ok (.bool p) w := by
  intro w; subst h; go_simp
theorem near_is {n : Int} {v : Bool} (h : decide (Nr n) = v) : ∀ w, Calls Try.prog 34 #[.int .i64 n] w fun e w' => e = .returned (.bool v) ∧ Below w.heap.size w w' := fun w => by
  subst h; exact (near_any n w).mono fun e w' ⟨he, hw⟩ => ⟨he, by subst hw; exact Below.refl _ _⟩
end
/-- whether it may be added -/
def OkC (d : Int) (L : Cn) (t : St) (n : Int) : Prop := (t.R ∧ t.d = d) ∧ Nr n ∧ Nr (cnt L t + n)
noncomputable instance (d : Int) (L : Cn) (t : St) (n : Int) : Decidable (OkC d L t n) := Classical.propDecidable _
open Classical in
noncomputable def errC (d : Int) (L : Cn) (t : St) (n : Int) : Int := if t.R ∧ t.d = d then (if Nr n ∧ Nr (cnt L t + n) then 0 else 3) else 50
noncomputable def putC (d : Int) (L : Cn) (t : St) (n : Int) : Cn := if OkC d L t n then addC L t n else L
/-- what Add leaves -/
def Added (w : World) (base b : Nat) (m : Option Nat) (N : Nat) (d : Int) (K : Cn) (r : Int) (e : Ending) (w' : World) : Prop :=
  e = .returned (.int .i64 r) ∧ ∃ m', Ct w' base b m' N d K ∧ Touch (AtC b m) w w' ∧ (m' = m ∨ ∃ k, m' = some k ∧ w.heap.size ≤ k)
theorem Added.same {w w' : World} {base b N : Nat} {m : Option Nat} {d : Int} {K : Cn} {r : Int} (h : Ct w base b m N d K) (hb : Below w.heap.size w w') : Added w base b m (N + 1) d K r (.returned (.int .i64 r)) w' :=
  ⟨rfl, m, (h.below hb).mono (by omega), Touch.of_below hb, .inl rfl⟩
end
end Go.Proofs.Ytkbabmifdfmhlaa
