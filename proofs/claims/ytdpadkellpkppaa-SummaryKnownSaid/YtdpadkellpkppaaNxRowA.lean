/- NxRow, NxRows, NxAhead, NxSlc -/
import Derived.Test.YtdpadkellpkppaaMxOpen
import Derived.Test.YtdpadkellpkppaaMxB
import Derived.Test.YtdpadkellpkppaaSmEq
import Derived.Test.YtdpadkellpkppaaSmC
import Derived.Test.YtdpadkellpkppaaStBothB
namespace Go.Proofs.Ytdpadkellpkppaa
set_option linter.unusedVariables false
section
namespace Nx
open Mx (rowS rowS_cons rowS_append rowS_len rowS_at rowS_one rowS_take rowS_drop)
open Go.ChangeShapes Go.WideShapes Go.ChangeAt Go.RowKit Go.BigFrame Go.Shelf
set_option maxRecDepth 100000
abbrev Holds (w : World) (g : Nat) (s : Sm) : Prop := HoldsM w g 30 s
theorem Holds.made (w : World) (s : Sm) : Holds (w.alloc (.cells #[.int .i64 s.fr, .int .i64 s.to, .int .i64 s.kp, .int .i64 s.ad, .int .i64 s.t0, .int .i64 s.t1, .int .i64 s.t2] 30)) w.heap.size s := HoldsM.made w _ s
theorem Holds.cells5 {W : World} {g : Nat} {s : Sm} (h : Holds W g s) : W.cell? ⟨g, 0, none⟩ = some (.int .i64 s.fr) ∧ W.cell? ⟨g, 1, none⟩ = some (.int .i64 s.to) ∧ W.cell? ⟨g, 2, none⟩ = some (.int .i64 s.kp) ∧ W.cell? ⟨g, 3, none⟩ = some (.int .i64 s.ad) ∧ W.cell? ⟨g, 4, none⟩ = some (.int .i64 s.t0) ∧ W.cell? ⟨g, 5, none⟩ = some (.int .i64 s.t1) ∧ W.cell? ⟨g, 6, none⟩ = some (.int .i64 s.t2) := HoldsM.cells7 h
theorem infoRef : (Try.prog.info? 30).map (fun i => (i.zero, i.size, i.bytes)) = some (some (.agg #[.int .i64 0, .int .i64 0, .int .i64 0, .int .i64 0, .int .i64 0, .int .i64 0, .int .i64 0]), 7, 56) := by kernel_rfl
/-- the slice at A holds the times ts -/
def Times (w : World) (A : Option Addr) (ts : List Sm) : Prop :=
  0 < ts.length → ∃ b, A = some ⟨b, 0, none⟩ ∧ b < w.heap.size ∧ ∀ (j : Nat) (u : Value), (rowS ts)[j]? = some u → w.cell? ⟨b, j, none⟩ = some u
theorem Times.below {w w' : World} {A : Option Addr} {ts : List Sm} (h : Times w A ts) (hb : Below w.heap.size w w') : Times w' A ts := fun hn => by
  obtain ⟨b, e, hlt, hc⟩ := h hn
  exact ⟨b, e, Nat.lt_of_lt_of_le hlt hb.size, fun j u hu => (hb.cell (p := ⟨b, j, none⟩) hlt).trans (hc j u hu)⟩
theorem Times.made (w : World) (ts : List Sm) : Times (w.alloc (.cells (rowS ts).toArray 30)) (some ⟨w.heap.size, 0, none⟩) ts := fun _ => by
  have h : Row (w.alloc (.cells (rowS ts).toArray 30)) w.heap.size 30 (rowS ts) := Row.made w _ _
  exact ⟨_, rfl, h.lt, fun j u hu => (h.cell j).trans hu⟩
/-- a row of the call's own, as times -/
theorem Times.of_own {w : World} {base : Nat} {v : Value} {n : Nat} {ts : List Sm} (h : w.ownsRow base 30 7 v n (rowS ts)) :
    ∃ A c, v = .slice A ts.length c ∧ Times w A ts ∧ ts.length ≤ c ∧ c ≤ maxLen := by
  have hl : ts.length = n := by have := h.1; rw [rowS_len] at this; omega
  obtain ⟨_, ⟨rfl, h0⟩ | ⟨g, cap, cur, rfl, _, hh, h1, h2, _, ht⟩⟩ := id h
  · exact ⟨none, 0, by rw [hl, h0], fun hn => by omega, by omega, by simp⟩
  · refine ⟨some ⟨g, 0, none⟩, cap, by rw [hl], fun _ => ⟨g, rfl, ?_, fun j u hj => ?_⟩, by omega, h2⟩
    · by_cases hg : g < w.heap.size
      · exact hg
      · rw [Array.getElem?_eq_none (by omega)] at hh; cases hh
    · have := h.cells (g := g) rfl j u hj
      rwa [add_zero_off] at this
theorem own_apart {w : World} {base : Nat} {v : Value} {n b : Nat} {xs l : List Value} {t : TypeId} (h : w.ownsRow base 30 7 v n xs) (hr : Row w b t l) (ht : t ≠ 30) : some b ≠ v.ownBlock := by
  obtain ⟨_, ⟨rfl, _⟩ | ⟨g, cap, cur, rfl, _, hh, _⟩⟩ := h
  · intro e; cases e
  · intro e
    injection e with e
    subst e
    unfold Row at hr
    rw [hr] at hh; injection hh with hh; injection hh with _ ht'; exact ht ht'
theorem own_belowS {w0 w w' : World} {base n : Nat} {v : Value} {xs : List Value} (h : w.ownsRow base 30 7 v n xs) (hg : w.grownBy w' v.ownBlock) (hb : Below base w0 w) (hB : base ≤ w.heap.size) : Below base w0 w' :=
  hb.grown hg hB (fun k e => (h.lt k e).1)
theorem wpList_append_times {w : World} {ops : Array Oper} {rest : List Oper} {o : Oper} {a : Act} {Q : Exit → Act → World → Prop} (hgd : o.guard = none) (s x : Operand)
    (ho : o.op = .call { callee := .builtin .append, args := #[s, x], argTypes := #[45, 45] })
    (base : Nat) (v : Value) (n : Nat) (ts : List Sm) (hs : a.eval s = v) (hown : w.ownsRow base 30 7 v n (rowS ts))
    (ad : Addr) (c : Nat) (ys : List Sm) (hx : a.eval x = .slice (some ad) ys.length c) (hy : 0 < ys.length) (hb : Times w (some ad) ys)
    (hle : n + ys.length ≤ 1000) (hbase : base ≤ w.heap.size)
    (h : ∀ v' w', w'.ownsRow base 30 7 v' (n + ys.length) (rowS (ts ++ ys)) → w.grownBy w' v.ownBlock → wpList Try.prog ops Q rest (a.put o.dst v') w') : wpList Try.prog ops Q (o :: rest) a w := by
  obtain ⟨i, hi, hz0, hz1, hz2⟩ := info_parts infoRef
  obtain ⟨b, e, _, hcell⟩ := hb hy
  cases e
  refine wpList_append_own w hgd s x 45 ho base 30 i _ 7 56 Try.underlying45 hi hz0 hz1 hz2 rfl (by omega) v n (rowS ts) hs hown ⟨b, 0, none⟩ ys.length c (rowS ys) hx (rowS_len ys) ?_ (rowS_one ys) (by unfold maxLen; omega) (by omega) hbase ?_
  · intro j u hj
    rw [add_zero_off]; exact hcell j u hj
  · intro v' w' h1 h2 _
    exact h v' w' (by rw [rowS_append]; exact h1) h2

/-- the slice at A holds the times ts -/
def Ts (w : World) (A : Option Addr) (ts : List Sm) : Prop :=
  0 < ts.length → ∃ b o, A = some ⟨b, o, none⟩ ∧ b < w.heap.size ∧ ∀ (j : Nat) (u : Value), (rowS ts)[j]? = some u → w.cell? ⟨b, o + j, none⟩ = some u
section
variable {w w' : World} {A : Option Addr} {ts : List Sm}
theorem Ts.below (h : Ts w A ts) (hb : Below w.heap.size w w') : Ts w' A ts := fun hn => by
  obtain ⟨b, o, e, hlt, hc⟩ := h hn
  exact ⟨b, o, e, Nat.lt_of_lt_of_le hlt hb.size, fun j u hu => (hb.cell (p := ⟨b, o + j, none⟩) hlt).trans (hc j u hu)⟩
theorem Ts.nil : Ts w A [] := fun h => absurd h (by simp)
theorem Ts.of (h : Times w A ts) : Ts w A ts := fun hn => by
  obtain ⟨b, e, hlt, hc⟩ := h hn
  exact ⟨b, 0, e, hlt, fun j u hu => by rw [Nat.zero_add]; exact hc j u hu⟩
theorem Ts.take (h : Ts w A ts) (k : Nat) : Ts w A (ts.take k) := fun hn => by
  obtain ⟨b, o, e, hlt, hc⟩ := h (by rw [List.length_take] at hn; omega)
  refine ⟨b, o, e, hlt, fun j u hu => hc j u ?_⟩
  rw [rowS_take, List.getElem?_take] at hu
  split at hu
  · exact hu
  · cases hu
theorem Ts.drop {b o : Nat} (h : Ts w (some ⟨b, o, none⟩) ts) (k : Nat) : Ts w (some ⟨b, o + k * 7, none⟩) (ts.drop k) := fun hn => by
  obtain ⟨b', o', e, hlt, hc⟩ := h (by rw [List.length_drop] at hn; omega)
  cases e
  refine ⟨b, o + k * 7, rfl, hlt, fun j u hu => ?_⟩
  rw [rowS_drop, List.getElem?_drop] at hu
  rw [Nat.add_assoc]; exact hc _ u hu
theorem run_load_st (w : World) (b o : Nat) (t : Sm) (h : ∀ j v, t.cells[j]? = some v → w.cell? ⟨b, o + j, none⟩ = some v) :
    (Instr.loadAt 30 (.pointer (some ⟨b, o, none⟩))).run Try.prog w = .ok (.agg #[.int .i64 t.fr, .int .i64 t.to, .int .i64 t.kp, .int .i64 t.ad, .int .i64 t.t0, .int .i64 t.t1, .int .i64 t.t2]) w :=
  run_loadAt_part b o 30 _ t.cells (fun j v hj => by rw [add_at]; exact h j v hj) Try.underlying30 rfl (by kernel_rfl)
theorem Ts.load (h : Ts w A ts) {i : Nat} {t : Sm} (hi : ts[i]? = some t) : ∃ b o, A = some ⟨b, o, none⟩ ∧ b < w.heap.size ∧
    ∀ w', Below w.heap.size w w' → (Instr.loadAt 30 (.pointer (some ⟨b, o + i * 7, none⟩))).run Try.prog w' = .ok (.agg #[.int .i64 t.fr, .int .i64 t.to, .int .i64 t.kp, .int .i64 t.ad, .int .i64 t.t0, .int .i64 t.t1, .int .i64 t.t2]) w' := by
  obtain ⟨hl, _⟩ := List.getElem?_eq_some_iff.1 hi
  obtain ⟨b, o, e, hlt, hc⟩ := h (by omega)
  refine ⟨b, o, e, hlt, fun w' hb => run_load_st _ _ _ _ fun j v hj => ?_⟩
  rw [hb.cell (p := ⟨b, o + i * 7 + j, none⟩) hlt, Nat.add_assoc]
  exact hc _ v (rowS_at ts i t hi j v hj)
theorem Ts.five (h : Ts w A ts) {i : Nat} {t : Sm} (hi : ts[i]? = some t) : ∃ b o, A = some ⟨b, o, none⟩ ∧ b < w.heap.size ∧
    ∀ w', Below w.heap.size w w' → w'.cell? ⟨b, o + i * 7, none⟩ = some (.int .i64 t.fr) ∧ w'.cell? ⟨b, o + i * 7 + 1, none⟩ = some (.int .i64 t.to) ∧ w'.cell? ⟨b, o + i * 7 + 2, none⟩ = some (.int .i64 t.kp) ∧ w'.cell? ⟨b, o + i * 7 + 3, none⟩ = some (.int .i64 t.ad) ∧ w'.cell? ⟨b, o + i * 7 + 4, none⟩ = some (.int .i64 t.t0) ∧ w'.cell? ⟨b, o + i * 7 + 5, none⟩ = some (.int .i64 t.t1) ∧ w'.cell? ⟨b, o + i * 7 + 6, none⟩ = some (.int .i64 t.t2) := by
  obtain ⟨hl, _⟩ := List.getElem?_eq_some_iff.1 hi
  obtain ⟨b, o, e, hlt, hc⟩ := h (by omega)
  refine ⟨b, o, e, hlt, fun w' hb => ?_⟩
  have key : ∀ j v, t.cells[j]? = some v → w'.cell? ⟨b, o + i * 7 + j, none⟩ = some v := fun j v hj => by
    rw [hb.cell (p := ⟨b, o + i * 7 + j, none⟩) hlt, Nat.add_assoc]
    exact hc _ v (rowS_at ts i t hi j v hj)
  exact ⟨key 0 _ rfl, key 1 _ rfl, key 2 _ rfl, key 3 _ rfl, key 4 _ rfl, key 5 _ rfl, key 6 _ rfl⟩
/-- a part of a time -/
theorem Ts.load1 (h : Ts w A ts) {i : Nat} {t : Sm} (hi : ts[i]? = some t) {j : Nat} {v : Int} (hj : t.cells[j]? = some (.int .i64 v)) : ∃ b o, A = some ⟨b, o, none⟩ ∧ b < w.heap.size ∧
    ∀ w', Below w.heap.size w w' → w'.cell? ⟨b, o + i * 7 + j, none⟩ = some (.int .i64 v) := by
  obtain ⟨hl, _⟩ := List.getElem?_eq_some_iff.1 hi
  obtain ⟨b, o, e, hlt, hc⟩ := h (by omega)
  refine ⟨b, o, e, hlt, fun w' hb => ?_⟩
  rw [hb.cell (p := ⟨b, o + i * 7 + j, none⟩) hlt, Nat.add_assoc]
  exact hc _ _ (rowS_at ts i t hi j _ hj)
end
end Nx
end

section
namespace Nx
open Mx (rowS rowS_cons rowS_append rowS_len rowS_at rowS_one rowS_take rowS_drop)
open Go.ChangeShapes Go.WideShapes Go.ChangeAt Go.RowKit Go.BigFrame Go.Shelf
set_option maxRecDepth 100000
theorem own_kept {w w' : World} {base n : Nat} {v : Value} {xs : List Value} (h : w.ownsRow base 30 7 v n xs) (hb : Below w.heap.size w w') : w'.ownsRow base 30 7 v n xs := by
  refine h.kept (Mx.grown_below hb) ?_
  cases hv : v.ownBlock with
  | none => exact .inl rfl
  | some k => exact .inr (by simp)
set_option maxHeartbeats 4000000 in
theorem rows_any (A : Option Addr) (l : List Sm) (c : Nat) (w : World) (hT : Mx.Ts w A l) (hl : l.length ≤ 1000) :
    Calls Try.prog 23 #[.slice A l.length c] w fun e w' => (∃ v, e = .returned v ∧ w'.ownsRow w.heap.size 30 7 v l.length (rowS l)) ∧ Below w.heap.size w w' := by
  have HT := Lib.hid hT; clear hT
  go_enter Try.func23, Try.ntmps23
  go_wp2_with fail
  go_loopw [3, 4] (fun v i wr => ∃ k : Nat, k ≤ l.length ∧ i = .int .i64 k ∧ Below w.heap.size w wr ∧ wr.ownsRow w.heap.size 30 7 v k (rowS (l.take k))) (fun _ i _ => l.length - (intOf i).toNat)
  case atStart => exact ⟨0, by omega, rfl, Below.refl _ _, World.ownsRow_nil _ _ _ _⟩
  case round =>
    obtain ⟨k, hk, rfl, hbw, hro⟩ := hrel
    by_cases hlt : k < l.length
    · obtain ⟨t, ht⟩ : ∃ t, l[k]? = some t := ⟨_, List.getElem?_eq_getElem hlt⟩
      have hkz : (k : Int) < (l.length : Int) := by omega
      have hnext : l.take (k + 1) = l.take k ++ [t] := by rw [List.take_add_one, ht, Option.toList]
      have cp := fun w => plain_any t w
      obtain ⟨b, o, rfl, hbl, h5⟩ := HT.out.five ht
      obtain ⟨c0, c1, c2, c3, c4, c5, c6⟩ := h5 wr hbw
      unfold Sm.v at cp
      have CP := Lib.hid cp; have HO := Lib.hid (And.intro hbw hro); have HN := Lib.hid hnext
      have hlk : (l.take k).length = k := by rw [List.length_take]; omega
      clear cp h5 hbl ht hbw hro hnext
      generalize l.take k = us at *
      go_wp2_with fail
      clear c0 c1 c2 c3 c4 c5 c6
      refine (CP.out _).mono ?_; rintro e w4 ⟨rfl, hb4⟩
      dsimp only
      have hoA := (own_kept HO.out.2 hb4).alloc (.cells #[.int .i64 t.fr, .int .i64 t.to, .int .i64 t.kp, .int .i64 t.ad, .int .i64 t.t0, .int .i64 t.t1, .int .i64 t.t2] 30)
      have hTA := Times.made w4 [t]
      have hb4w := HO.out.1.trans (hb4.mono HO.out.1.size)
      have hba : Below w.heap.size w (w4.alloc (.cells #[.int .i64 t.fr, .int .i64 t.to, .int .i64 t.kp, .int .i64 t.ad, .int .i64 t.t0, .int .i64 t.t1, .int .i64 t.t2] 30)) := hb4w.alloc hb4w.size _
      have hbs := hba.size
      have HBA := Lib.hid hba; clear hb4 hb4w hba CP
      subst hlk
      go_wp2_with (at_builtin; refine wpList_append_times rfl _ _ rfl w.heap.size _ us.length us rfl hoA ⟨w4.heap.size, 0, none⟩ 1 [t] rfl (by simp) hTA (by simp; omega) hbs ?_; intro v' w5 hown' hgr')
      have hb6 := own_belowS hoA hgr' HBA.out hbs
      have H6 := Lib.hid (And.intro hown' hb6); clear hown' hgr' hoA hTA hb6
      go_wp2_with fail
      go_roundw
      case rel => exact ⟨us.length + 1, by omega, by simp, H6.out.2, by rw [HN.out]; exact H6.out.1⟩
      case measure => simp only [intOf]; omega
    · have hkl : k = l.length := by omega
      have hkz : ¬ (k : Int) < (l.length : Int) := by omega
      rw [hkl, List.take_length] at hro
      have HO := Lib.hid (And.intro hbw hro); clear hbw hro
      go_wp2_with fail
      go_ret
      exact ⟨⟨_, rfl, HO.out.2⟩, HO.out.1⟩
set_option maxHeartbeats 4000000 in
theorem same_any (A B : Option Addr) (a b : List Sm) (c d : Nat) (w : World) (hA : Ts w A a) (hB : Ts w B b) (ha : a.length ≤ 1000) (hb : b.length ≤ 1000) :
    Calls Try.prog 25 #[.slice A a.length c, .slice B b.length d] w fun e w' => e = .returned (.bool (decide (a = b))) ∧ Below w.heap.size w w' := by
  by_cases hl : a.length = b.length
  · have hz : ((a.length : Int) != (b.length : Int)) = false := by simp [hl]
    have HA := Lib.hid hA; have HB := Lib.hid hB; have HL := Lib.hid hl; clear hA hB hl
    go_enter Try.func25, Try.ntmps25
    go_wp2_with fail
    clear hz
    go_loopw [5] (fun i wr => ∃ k : Nat, k ≤ a.length ∧ i = .int .i64 k ∧ Below w.heap.size w wr ∧ ∀ j, j < k → a[j]? = b[j]?) (fun i _ => a.length - (intOf i).toNat)
    case atStart => exact ⟨0, by omega, rfl, Below.refl _ _, fun j h => absurd h (by omega)⟩
    case round =>
      obtain ⟨k, hk, rfl, hbw, heq⟩ := hrel
      have HBW := Lib.hid hbw; have HE := Lib.hid heq; clear hbw heq
      by_cases hlt : k < a.length
      · have hkz : (k : Int) < (a.length : Int) := by omega
        have hkb : (k : Int) < (b.length : Int) := by have := HL.out; omega
        obtain ⟨x, hx⟩ : ∃ x, a[k]? = some x := ⟨_, List.getElem?_eq_getElem hlt⟩
        obtain ⟨y, hy⟩ : ∃ y, b[k]? = some y := ⟨_, List.getElem?_eq_getElem (by have := HL.out; omega)⟩
        obtain ⟨bm, om, rfl, hbm, hlm⟩ := (HA.out.below HBW.out).load hx
        obtain ⟨bn, on, rfl, hbn, hln⟩ := (HB.out.below HBW.out).load hy
        have LM := Lib.hid hlm; have LN := Lib.hid hln; have HX := Lib.hid (And.intro hx hy)
        clear hlm hln hbm hbn hx hy
        have hq : ∀ p q : Operand, ∀ w, (do eqGuard .neq 30 p q x.v y.v; binOp .neq 30 x.v y.v : Sem Value).run Try.prog w = .ok (.bool (!eqS x y)) w := fun p q => ne_sr p q x y
        cases he : eqS x y with
        | true =>
          rw [he] at hq
          have exy : x = y := by simpa [eqS] using he
          have HQ := Lib.hid hq; have HY := Lib.hid exy; clear hq he exy
          go_wp2_with fail
          refine wp_region_below (by kernel_rfl) (by kernel_rfl) ?_
          refine wpQuiet_step (fun K hK => ?_); go_simp; (first | (with_reducible refine hK _ ?_) | (with_reducible refine ⟨_, fun _ _ => rfl, hK _ ?_⟩)); clear hK K
          refine wpQuiet_step (fun K hK => ?_); go_simp; (first | (with_reducible refine hK _ ?_) | (with_reducible refine ⟨_, fun _ _ => rfl, hK _ ?_⟩)); clear hK K
          refine wpQuiet_step (fun K hK => ?_); go_simp; (first | (with_reducible refine hK _ ?_) | (with_reducible refine ⟨_, fun _ _ => rfl, hK _ ?_⟩)); clear hK K
          refine wpQuiet_step (fun K hK => ?_); refine q_load (p := .pointer (some ⟨bm, om + k * 7, none⟩)) 30 _ rfl rfl rfl (LM.out) ?_; go_simp; (with_reducible refine hK _ ?_); clear hK K
          refine wpQuiet_step (fun K hK => ?_); go_simp; (first | (with_reducible refine hK _ ?_) | (with_reducible refine ⟨_, fun _ _ => rfl, hK _ ?_⟩)); clear hK K
          refine wpQuiet_step (fun K hK => ?_); go_simp; (first | (with_reducible refine hK _ ?_) | (with_reducible refine ⟨_, fun _ _ => rfl, hK _ ?_⟩)); clear hK K
          refine wpQuiet_step (fun K hK => ?_); go_simp; (first | (with_reducible refine hK _ ?_) | (with_reducible refine ⟨_, fun _ _ => rfl, hK _ ?_⟩)); clear hK K
          refine wpQuiet_step (fun K hK => ?_); refine q_load (p := .pointer (some ⟨bn, on + k * 7, none⟩)) 30 _ rfl rfl rfl (LN.out) ?_; go_simp; (with_reducible refine hK _ ?_); clear hK K
          refine wpQuiet_step (fun K hK => ?_); refine q_bin _ _ _ _ _ rfl rfl rfl rfl (HQ.out _ _) ?_; go_simp; (with_reducible refine hK _ ?_); clear hK K
          refine wpQuiet_nil ?_
          intro w5 hb5
          have hbz := HBW.out.trans (hb5.mono HBW.out.size)
          have HBZ := Lib.hid hbz; clear hb5 hbz
          go_wp2_with fail
          go_roundw
          case rel =>
            refine ⟨k + 1, by omega, by simp, HBZ.out, fun j hj => ?_⟩
            by_cases e : j = k
            · rw [e, HX.out.1, HX.out.2, HY.out]
            · exact HE.out j (by omega)
          case measure => simp only [intOf]; omega
        | false =>
          rw [he] at hq
          have exy : x ≠ y := by simpa [eqS] using he
          have HQ := Lib.hid hq; have HY := Lib.hid exy; clear hq he exy
          go_wp2_with fail
          refine wp_region_below (by kernel_rfl) (by kernel_rfl) ?_
          refine wpQuiet_step (fun K hK => ?_); go_simp; (first | (with_reducible refine hK _ ?_) | (with_reducible refine ⟨_, fun _ _ => rfl, hK _ ?_⟩)); clear hK K
          refine wpQuiet_step (fun K hK => ?_); go_simp; (first | (with_reducible refine hK _ ?_) | (with_reducible refine ⟨_, fun _ _ => rfl, hK _ ?_⟩)); clear hK K
          refine wpQuiet_step (fun K hK => ?_); go_simp; (first | (with_reducible refine hK _ ?_) | (with_reducible refine ⟨_, fun _ _ => rfl, hK _ ?_⟩)); clear hK K
          refine wpQuiet_step (fun K hK => ?_); refine q_load (p := .pointer (some ⟨bm, om + k * 7, none⟩)) 30 _ rfl rfl rfl (LM.out) ?_; go_simp; (with_reducible refine hK _ ?_); clear hK K
          refine wpQuiet_step (fun K hK => ?_); go_simp; (first | (with_reducible refine hK _ ?_) | (with_reducible refine ⟨_, fun _ _ => rfl, hK _ ?_⟩)); clear hK K
          refine wpQuiet_step (fun K hK => ?_); go_simp; (first | (with_reducible refine hK _ ?_) | (with_reducible refine ⟨_, fun _ _ => rfl, hK _ ?_⟩)); clear hK K
          refine wpQuiet_step (fun K hK => ?_); go_simp; (first | (with_reducible refine hK _ ?_) | (with_reducible refine ⟨_, fun _ _ => rfl, hK _ ?_⟩)); clear hK K
          refine wpQuiet_step (fun K hK => ?_); refine q_load (p := .pointer (some ⟨bn, on + k * 7, none⟩)) 30 _ rfl rfl rfl (LN.out) ?_; go_simp; (with_reducible refine hK _ ?_); clear hK K
          refine wpQuiet_step (fun K hK => ?_); refine q_bin _ _ _ _ _ rfl rfl rfl rfl (HQ.out _ _) ?_; go_simp; (with_reducible refine hK _ ?_); clear hK K
          refine wpQuiet_nil ?_
          intro w5 hb5
          have hbz := HBW.out.trans (hb5.mono HBW.out.size)
          have HBZ := Lib.hid hbz; clear hb5 hbz
          go_wp2_with fail
          go_ret
          refine ⟨ret_bool ?_, HBZ.out⟩
          rw [eq_comm, decide_eq_false_iff_not]
          intro e
          have h1 := HX.out.1; have h2 := HX.out.2
          rw [e, h2] at h1
          exact HY.out (Option.some.inj h1).symm
      · have hkz : ¬ (k : Int) < (a.length : Int) := by omega
        go_wp2_with fail
        go_ret
        refine ⟨ret_bool ?_, HBW.out⟩
        rw [eq_comm, decide_eq_true_iff]
        apply List.ext_getElem?
        intro j
        by_cases hj : j < k
        · exact HE.out j hj
        · have := HL.out
          rw [List.getElem?_eq_none (by omega), List.getElem?_eq_none (by omega)]
  · have hz : ((a.length : Int) != (b.length : Int)) = true := by simp; omega
    have hne : decide (a = b) = false := by rw [decide_eq_false_iff_not]; intro e; exact hl (by rw [e])
    rw [hne]
    clear hne hA hB hl
    go_enter Try.func25, Try.ntmps25
    go_wp2_with fail
    go_ret
    exact ⟨rfl, Below.refl _ _⟩
end Nx
end

section
namespace Nx
open Go.ChangeShapes Go.WideShapes Go.ChangeAt Go.RowKit Go.BigFrame Go.Shelf
set_option maxRecDepth 100000
/-- a summary's numbers, in order -/
def nums (s : Sm) : List Int := [s.fr, s.to, s.kp, s.ad, s.t0, s.t1, s.t2]
def lexL : List Int → List Int → Bool
  | x :: r, y :: s => if x = y then lexL r s else decide (x < y)
  | _, _ => false
theorem lex_A (a b : Sm) : lexL (nums a) (nums b) = decide (a.A b) := by
  rw [Bool.eq_iff_iff, decide_eq_true_iff]
  unfold nums Sm.A
  simp only [lexL]
  repeat' split
  all_goals simp only [decide_eq_true_eq, Bool.false_eq_true, false_iff]
  all_goals omega
theorem lex_drop : ∀ (k : Nat) (l m : List Int), (∀ j, j < k → l[j]? = m[j]?) → k ≤ l.length → k ≤ m.length → lexL l m = lexL (l.drop k) (m.drop k)
  | 0, l, m, _, _, _ => rfl
  | k + 1, [], m, _, h, _ => by simp at h
  | k + 1, x :: l, [], _, _, h => by simp at h
  | k + 1, x :: l, y :: m, h, h1, h2 => by
    have e := h 0 (by omega)
    simp at e; subst e
    rw [lexL, if_pos rfl, List.drop_succ_cons, List.drop_succ_cons]
    exact lex_drop k l m (fun j hj => by have := h (j + 1) (by omega); simpa using this) (by simpa using h1) (by simpa using h2)
/-- block g holds a summary's numbers -/
def Nums (w : World) (g : Nat) (s : Sm) : Prop := Row w g 3 ((nums s).map fun n => Value.int .i64 n)
theorem numbers_any (s : Sm) (w : World) : Calls Try.prog 51 #[s.v] w fun e w' => (∃ g, e = .returned (.slice (some ⟨g, 0, none⟩) 7 7) ∧ Nums w' g s) ∧ Below w.heap.size w w' := by
  have h : Nums ((w.alloc (.cells #[.int .i64 s.fr, .int .i64 s.to, .int .i64 s.kp, .int .i64 s.ad, .int .i64 s.t0, .int .i64 s.t1, .int .i64 s.t2] 30)).alloc (.cells #[.int .i64 s.fr, .int .i64 s.to, .int .i64 s.kp, .int .i64 s.ad, .int .i64 s.t0, .int .i64 s.t1, .int .i64 s.t2] 3)) (w.heap.size + 1) s := made2r w _ _ _
  have H := Lib.hid h; clear h
  unfold Sm.v
  go_enter Try.func51, Try.ntmps51
  go_wp2_with fail
  go_ret
  exact ⟨⟨_, rfl, H.out⟩, below_alloc2 w _ _⟩
/-- what the operations of the first statement yield -/
def AhR (a b : Sm) (i : Nat) (v : Value) (w : World) : Prop := match i with
  | 0 => v = a.v
  | 1 => ∃ g, v = .slice (some ⟨g, 0, none⟩) 7 7 ∧ Nums w g a
  | 2 => v = b.v
  | 3 => ∃ g, v = .slice (some ⟨g, 0, none⟩) 7 7 ∧ Nums w g b
  | 4 => ∃ g, v = .slice (some ⟨g, 0, none⟩) 7 7 ∧ Nums w g a
  | _ => ∃ g, v = .slice (some ⟨g, 0, none⟩) 7 7 ∧ Nums w g b
theorem AhR.keep {a b : Sm} (j : Nat) (u : Value) (w w' : World) (hb : Below w.heap.size w w') (h : AhR a b j u w) : AhR a b j u w' := by
  unfold AhR at *
  split at h
  all_goals first
    | exact h
    | (obtain ⟨g, e, hr⟩ := h; exact ⟨g, e, Row.below hr hb (Row.lt hr)⟩)
theorem load_num {w : World} {g k : Nat} {s : Sm} {x : Int} (h : Nums w g s) (hx : (nums s)[k]? = some x) : ∀ w', Below w.heap.size w w' → (Instr.loadAt 3 (.pointer (some ⟨g, k, none⟩))).run Try.prog w' = .ok (.int .i64 x) w' := by
  intro w' hb
  have hc : w'.cell? ⟨g, k, none⟩ = some (.int .i64 x) := by
    rw [Row.cell (Row.below h hb (Row.lt h)) k, List.getElem?_map, hx]; rfl
  go_simp
theorem nei_is {x y : Operand} {i j : Int} {p : Bool} (h : (i != j) = p) : ∀ w, (do eqGuard .neq 3 x y (.int .i64 i) (.int .i64 j); binOp .neq 3 (.int .i64 i) (.int .i64 j) : Sem Value).run Try.prog w = .ok (.bool p) w := by
  intro w; subst h; go_simp
theorem lti_d {x y : Operand} (i j : Int) : ∀ w, (do eqGuard .lss 3 x y (.int .i64 i) (.int .i64 j); binOp .lss 3 (.int .i64 i) (.int .i64 j) : Sem Value).run Try.prog w = .ok (.bool (decide (i < j))) w := by
  intro w; go_simp
set_option maxHeartbeats 4000000 in
theorem ahead_any (a b : Sm) (w : World) : Calls Try.prog 40 #[a.v, b.v] w fun e w' => e = .returned (.bool (decide (a.A b))) ∧ Below w.heap.size w w' := by
  rw [← lex_A]
  have h2 := Two2.made w 30 a b
  have hbw := below_alloc2 w (.cells #[.int .i64 a.fr, .int .i64 a.to, .int .i64 a.kp, .int .i64 a.ad, .int .i64 a.t0, .int .i64 a.t1, .int .i64 a.t2] 30) (.cells #[.int .i64 b.fr, .int .i64 b.to, .int .i64 b.kp, .int .i64 b.ad, .int .i64 b.t0, .int .i64 b.t1, .int .i64 b.t2] 30)
  have cn := fun (s : Sm) (w : World) => numbers_any s w
  unfold Sm.v at *
  have H2 := Lib.hid h2; have HB := Lib.hid hbw; have CN := Lib.hid cn; clear h2 hbw cn
  go_enter Try.func40, Try.ntmps40
  go_wp2_with fail
  generalize (w.alloc (.cells #[.int .i64 a.fr, .int .i64 a.to, .int .i64 a.kp, .int .i64 a.ad, .int .i64 a.t0, .int .i64 a.t1, .int .i64 a.t2] 30)).alloc (.cells #[.int .i64 b.fr, .int .i64 b.to, .int .i64 b.kp, .int .i64 b.ad, .int .i64 b.t0, .int .i64 b.t1, .int .i64 b.t2] 30) = W at *
  refine Free.wp_grow (by kernel_rfl) (by kernel_rfl) (AhR a b) AhR.keep ?_ ?_
  · intro i o hi az wa hold hpre hF
    match i with
    | 0 =>
      cases hi
      exact Free.g_load _ _ rfl ((hold 2 (by decide)).trans rfl) (load_n H2.out.1 wa hF) ⟨rfl, Below.refl _ _⟩
    | 1 =>
      cases hi
      have h0 : az.eval (.tmp 8) = a.v := hpre 0 _ _ (by kernel_rfl) rfl rfl
      refine Free.g_call _ _ rfl Try.func51 (by kernel_rfl) rfl [a.v] (by show [az.eval (.tmp 8)] = _; rw [h0]) ?_
      exact (CN.out a wa).mono fun e w2 ⟨⟨g, he, hr⟩, hb2⟩ => ⟨_, he, ⟨g, rfl, hr⟩, hb2⟩
    | 2 =>
      cases hi
      exact Free.g_load _ _ rfl ((hold 3 (by decide)).trans rfl) (load_n H2.out.2 wa hF) ⟨rfl, Below.refl _ _⟩
    | 3 =>
      cases hi
      have h0 : az.eval (.tmp 10) = b.v := hpre 2 _ _ (by kernel_rfl) rfl rfl
      refine Free.g_call _ _ rfl Try.func51 (by kernel_rfl) rfl [b.v] (by show [az.eval (.tmp 10)] = _; rw [h0]) ?_
      exact (CN.out b wa).mono fun e w2 ⟨⟨g, he, hr⟩, hb2⟩ => ⟨_, he, ⟨g, rfl, hr⟩, hb2⟩
    | 4 =>
      cases hi
      have h0 : AhR a b 1 (az.eval (.tmp 9)) wa := hpre 1 _ _ (by kernel_rfl) rfl rfl
      exact Free.g_assign _ rfl ⟨h0, Below.refl _ _⟩
    | 5 =>
      cases hi
      have h0 : AhR a b 3 (az.eval (.tmp 11)) wa := hpre 3 _ _ (by kernel_rfl) rfl rfl
      exact Free.g_assign _ rfl ⟨h0, Below.refl _ _⟩
    | _ + 6 => cases hi
  · intro vs we hv hF
    obtain ⟨ga, e4, ra⟩ : AhR a b 4 (vs 4) we := hv 4 (by simp) (by rintro o ⟨⟩; rfl)
    obtain ⟨gb, e5, rb⟩ : AhR a b 5 (vs 5) we := hv 5 (by simp) (by rintro o ⟨⟩; rfl)
    clear hv
    simp only [Free.puts, Nat.reduceAdd, e4, e5]
    clear e4 e5
    generalize vs 0 = y0
    generalize vs 1 = y1
    generalize vs 2 = y2
    generalize vs 3 = y3
    clear vs
    have HE := Lib.hid (HB.out.trans (Below.mono hF (by have := HB.out.size; simpa using this))); have RA := Lib.hid ra; have RB := Lib.hid rb
    clear hF ra rb HB H2 CN
    go_simp
    go_wp2_with fail
    go_loopw [7] (fun i wr => ∃ k : Nat, k ≤ 7 ∧ i = .int .i64 k ∧ Below we.heap.size we wr ∧ ∀ j, j < k → (nums a)[j]? = (nums b)[j]?) (fun i _ => 7 - (intOf i).toNat)
    case atStart => exact ⟨0, by omega, rfl, Below.refl _ _, fun j h => absurd h (by omega)⟩
    case round =>
      obtain ⟨k, hk, rfl, hbw, heq⟩ := hrel
      have HBW := Lib.hid hbw; have HQ := Lib.hid heq; clear hbw heq
      by_cases hlt : k < 7
      · have hkz : (k : Int) < 7 := by omega
        obtain ⟨x, hx⟩ : ∃ x, (nums a)[k]? = some x := ⟨_, List.getElem?_eq_getElem (by show k < 7; exact hlt)⟩
        obtain ⟨y, hy⟩ : ∃ y, (nums b)[k]? = some y := ⟨_, List.getElem?_eq_getElem (by show k < 7; exact hlt)⟩
        have la := load_num (Row.below RA.out HBW.out (Row.lt RA.out)) hx
        have lb := load_num (Row.below RB.out HBW.out (Row.lt RB.out)) hy
        have hd := lex_drop k (nums a) (nums b) HQ.out (by show k ≤ 7; omega) (by show k ≤ 7; omega)
        rw [List.drop_eq_getElem_cons (i := k) (l := nums a) (by show k < 7; exact hlt), List.drop_eq_getElem_cons (i := k) (l := nums b) (by show k < 7; exact hlt)] at hd
        have gx := (List.getElem?_eq_some_iff.1 hx).2
        have gy := (List.getElem?_eq_some_iff.1 hy).2
        rw [gx, gy, lexL] at hd
        have LA := Lib.hid la; have LB := Lib.hid lb; have HX := Lib.hid (And.intro hx hy); have HD := Lib.hid hd
        clear la lb hx hy hd gx gy
        by_cases he : x = y
        · have hq : (x != y) = false := by simp [he]
          have HN := Lib.hid hq; have HE2 := Lib.hid he; clear hq he
          go_wp2_with fail
          refine wp_region_below (by kernel_rfl) (by kernel_rfl) ?_
          refine wpQuiet_step (fun K hK => ?_); go_simp; (first | (with_reducible refine hK _ ?_) | (with_reducible refine ⟨_, fun _ _ => rfl, hK _ ?_⟩)); clear hK K
          refine wpQuiet_step (fun K hK => ?_); go_simp; (first | (with_reducible refine hK _ ?_) | (with_reducible refine ⟨_, fun _ _ => rfl, hK _ ?_⟩)); clear hK K
          refine wpQuiet_step (fun K hK => ?_); go_simp; (first | (with_reducible refine hK _ ?_) | (with_reducible refine ⟨_, fun _ _ => rfl, hK _ ?_⟩)); clear hK K
          refine wpQuiet_step (fun K hK => ?_); refine q_load (p := .pointer (some ⟨ga, k, none⟩)) 3 _ rfl rfl rfl (LA.out) ?_; go_simp; (with_reducible refine hK _ ?_); clear hK K
          refine wpQuiet_step (fun K hK => ?_); go_simp; (first | (with_reducible refine hK _ ?_) | (with_reducible refine ⟨_, fun _ _ => rfl, hK _ ?_⟩)); clear hK K
          refine wpQuiet_step (fun K hK => ?_); go_simp; (first | (with_reducible refine hK _ ?_) | (with_reducible refine ⟨_, fun _ _ => rfl, hK _ ?_⟩)); clear hK K
          refine wpQuiet_step (fun K hK => ?_); go_simp; (first | (with_reducible refine hK _ ?_) | (with_reducible refine ⟨_, fun _ _ => rfl, hK _ ?_⟩)); clear hK K
          refine wpQuiet_step (fun K hK => ?_); refine q_load (p := .pointer (some ⟨gb, k, none⟩)) 3 _ rfl rfl rfl (LB.out) ?_; go_simp; (with_reducible refine hK _ ?_); clear hK K
          refine wpQuiet_step (fun K hK => ?_); refine q_bin _ _ _ _ _ rfl rfl rfl rfl (nei_is HN.out) ?_; go_simp; (with_reducible refine hK _ ?_); clear hK K
          refine wpQuiet_nil ?_
          intro w5 hb5
          have hbz := HBW.out.trans (hb5.mono HBW.out.size)
          have HBZ := Lib.hid hbz; clear hb5 hbz
          go_wp2_with fail
          go_roundw
          case rel =>
            refine ⟨k + 1, by omega, by simp, HBZ.out, fun j hj => ?_⟩
            by_cases e : j = k
            · rw [e, HX.out.1, HX.out.2, HE2.out]
            · exact HQ.out j (by omega)
          case measure => simp only [intOf]; omega
        · have hq : (x != y) = true := by simpa using he
          have hd2 := HD.out
          rw [if_neg he] at hd2
          have HN := Lib.hid hq; have HD2 := Lib.hid hd2; clear hq he hd2 HD
          go_wp2_with fail
          refine wp_region_below (by kernel_rfl) (by kernel_rfl) ?_
          refine wpQuiet_step (fun K hK => ?_); go_simp; (first | (with_reducible refine hK _ ?_) | (with_reducible refine ⟨_, fun _ _ => rfl, hK _ ?_⟩)); clear hK K
          refine wpQuiet_step (fun K hK => ?_); go_simp; (first | (with_reducible refine hK _ ?_) | (with_reducible refine ⟨_, fun _ _ => rfl, hK _ ?_⟩)); clear hK K
          refine wpQuiet_step (fun K hK => ?_); go_simp; (first | (with_reducible refine hK _ ?_) | (with_reducible refine ⟨_, fun _ _ => rfl, hK _ ?_⟩)); clear hK K
          refine wpQuiet_step (fun K hK => ?_); refine q_load (p := .pointer (some ⟨ga, k, none⟩)) 3 _ rfl rfl rfl (LA.out) ?_; go_simp; (with_reducible refine hK _ ?_); clear hK K
          refine wpQuiet_step (fun K hK => ?_); go_simp; (first | (with_reducible refine hK _ ?_) | (with_reducible refine ⟨_, fun _ _ => rfl, hK _ ?_⟩)); clear hK K
          refine wpQuiet_step (fun K hK => ?_); go_simp; (first | (with_reducible refine hK _ ?_) | (with_reducible refine ⟨_, fun _ _ => rfl, hK _ ?_⟩)); clear hK K
          refine wpQuiet_step (fun K hK => ?_); go_simp; (first | (with_reducible refine hK _ ?_) | (with_reducible refine ⟨_, fun _ _ => rfl, hK _ ?_⟩)); clear hK K
          refine wpQuiet_step (fun K hK => ?_); refine q_load (p := .pointer (some ⟨gb, k, none⟩)) 3 _ rfl rfl rfl (LB.out) ?_; go_simp; (with_reducible refine hK _ ?_); clear hK K
          refine wpQuiet_step (fun K hK => ?_); refine q_bin _ _ _ _ _ rfl rfl rfl rfl (nei_is HN.out) ?_; go_simp; (with_reducible refine hK _ ?_); clear hK K
          refine wpQuiet_nil ?_
          intro w5 hb5
          have hbz := HBW.out.trans (hb5.mono HBW.out.size)
          have hla5 := load_num (Row.below RA.out hbz (Row.lt RA.out)) HX.out.1
          have hlb5 := load_num (Row.below RB.out hbz (Row.lt RB.out)) HX.out.2
          have LA5 := Lib.hid hla5; have LB5 := Lib.hid hlb5
          have HBZ := Lib.hid hbz; clear hb5 hbz hla5 hlb5
          go_wp2_with fail
          refine wp_region_below (by kernel_rfl) (by kernel_rfl) ?_
          refine wpQuiet_step (fun K hK => ?_); go_simp; (first | (with_reducible refine hK _ ?_) | (with_reducible refine ⟨_, fun _ _ => rfl, hK _ ?_⟩)); clear hK K
          refine wpQuiet_step (fun K hK => ?_); go_simp; (first | (with_reducible refine hK _ ?_) | (with_reducible refine ⟨_, fun _ _ => rfl, hK _ ?_⟩)); clear hK K
          refine wpQuiet_step (fun K hK => ?_); go_simp; (first | (with_reducible refine hK _ ?_) | (with_reducible refine ⟨_, fun _ _ => rfl, hK _ ?_⟩)); clear hK K
          refine wpQuiet_step (fun K hK => ?_); refine q_load (p := .pointer (some ⟨ga, k, none⟩)) 3 _ rfl rfl rfl (LA5.out) ?_; go_simp; (with_reducible refine hK _ ?_); clear hK K
          refine wpQuiet_step (fun K hK => ?_); go_simp; (first | (with_reducible refine hK _ ?_) | (with_reducible refine ⟨_, fun _ _ => rfl, hK _ ?_⟩)); clear hK K
          refine wpQuiet_step (fun K hK => ?_); go_simp; (first | (with_reducible refine hK _ ?_) | (with_reducible refine ⟨_, fun _ _ => rfl, hK _ ?_⟩)); clear hK K
          refine wpQuiet_step (fun K hK => ?_); go_simp; (first | (with_reducible refine hK _ ?_) | (with_reducible refine ⟨_, fun _ _ => rfl, hK _ ?_⟩)); clear hK K
          refine wpQuiet_step (fun K hK => ?_); refine q_load (p := .pointer (some ⟨gb, k, none⟩)) 3 _ rfl rfl rfl (LB5.out) ?_; go_simp; (with_reducible refine hK _ ?_); clear hK K
          refine wpQuiet_step (fun K hK => ?_); refine q_bin _ _ _ _ _ rfl rfl rfl rfl (lti_d _ _) ?_; go_simp; (with_reducible refine hK _ ?_); clear hK K
          refine wpQuiet_step (fun K hK => ?_); go_simp; (first | (with_reducible refine hK _ ?_) | (with_reducible refine ⟨_, fun _ _ => rfl, hK _ ?_⟩)); clear hK K
          refine wpQuiet_nil ?_
          intro w6 hb6
          have hbz := HBZ.out.trans (hb6.mono HBZ.out.size)
          have HBY := Lib.hid hbz; clear hb6 hbz
          go_wp2_with fail
          go_ret
          exact ⟨ret_bool HD2.out.symm, HE.out.trans (HBY.out.mono HE.out.size)⟩
      · have hkz : ¬ (k : Int) < 7 := by omega
        go_wp2_with fail
        go_ret
        refine ⟨ret_bool ?_, HE.out.trans (HBW.out.mono HE.out.size)⟩
        have hd := lex_drop 7 (nums a) (nums b) (fun j hj => HQ.out j (by omega)) (Nat.le_refl _) (Nat.le_refl _)
        rw [hd]; rfl
end Nx
end

section
namespace Nx
open Mx (rowS rowS_cons rowS_append rowS_len rowS_at rowS_one rowS_take rowS_drop)
open Go.ChangeShapes Go.WideShapes Go.ChangeAt Go.RowKit Go.BigFrame Go.Shelf
set_option maxRecDepth 100000
theorem own_slice {w : World} {base n : Nat} {v : Value} {ts : List Sm} (h : w.ownsRow base 30 7 v n (rowS ts)) : ∃ A c, v = .slice A ts.length c ∧ Ts w A ts ∧ ts.length ≤ c ∧ c ≤ maxLen ∧ (A = none → c = 0) := by
  obtain ⟨A, c, e, h1, h2, h3⟩ := Times.of_own h
  refine ⟨A, c, e, Ts.of h1, h2, h3, fun hA => ?_⟩
  subst hA
  rcases h.2 with ⟨e2, _⟩ | ⟨g, cap, cur, e2, _⟩
  · rw [e] at e2; injection e2
  · rw [e] at e2; injection e2 with h; cases h
structure Slc (w : World) (A : Option Addr) (c : Nat) (l : List Sm) : Prop where
  ts : Ts w A l
  le : l.length ≤ c
  max : c ≤ maxLen
  nil : A = none → c = 0
theorem Slc.below {w w' : World} {A : Option Addr} {c : Nat} {l : List Sm} (h : Slc w A c l) (hb : Below w.heap.size w w') : Slc w' A c l := ⟨h.ts.below hb, h.le, h.max, h.nil⟩
theorem Slc.of_own {w : World} {base n : Nat} {v : Value} {ts : List Sm} (h : w.ownsRow base 30 7 v n (rowS ts)) : ∃ A c, v = .slice A ts.length c ∧ Slc w A c ts := by
  obtain ⟨A, c, e, h1, h2, h3, h4⟩ := own_slice h
  exact ⟨A, c, e, ⟨h1, h2, h3, h4⟩⟩
theorem grown_refl (w : World) (row : Option Nat) : w.grownBy w row := ⟨rfl, rfl, rfl, Nat.le_refl _, fun _ _ _ => rfl⟩
theorem wpList_append_ts {w : World} {ops : Array Oper} {rest : List Oper} {o : Oper} {a : Act} {Q : Exit → Act → World → Prop} (hgd : o.guard = none) (s x : Operand)
    (ho : o.op = .call { callee := .builtin .append, args := #[s, x], argTypes := #[45, 45] })
    (base : Nat) (v : Value) (n : Nat) (ts : List Sm) (hs : a.eval s = v) (hown : w.ownsRow base 30 7 v n (rowS ts))
    (A : Option Addr) (c : Nat) (ys : List Sm) (hx : a.eval x = .slice A ys.length c) (hA0 : A = none → c = 0) (hb : Ts w A ys)
    (hle : n + ys.length ≤ 4000) (hbase : base ≤ w.heap.size)
    (h : ∀ v' w', w'.ownsRow base 30 7 v' (n + ys.length) (rowS (ts ++ ys)) → w.grownBy w' v.ownBlock → wpList Try.prog ops Q rest (a.put o.dst v') w') : wpList Try.prog ops Q (o :: rest) a w := by
  obtain ⟨i, hi, hz0, hz1, hz2⟩ := info_parts infoRef
  cases A with
  | none =>
    have hy : ys = [] := by
      cases ys with
      | nil => rfl
      | cons y ys => obtain ⟨b, o, e, _⟩ := hb (by simp); cases e
    subst hy
    rw [hA0 rfl] at hx
    refine wpList_append_own_none hgd s x 45 ho base 30 i 7 Try.underlying45 hi v n (rowS ts) hs hown hx ?_
    exact h v w (by rw [List.append_nil]; exact hown) (grown_refl _ _)
  | some ad =>
    refine wpList_append_own w hgd s x 45 ho base 30 i _ 7 56 Try.underlying45 hi hz0 hz1 hz2 rfl (by omega) v n (rowS ts) hs hown ad ys.length c (rowS ys) hx (rowS_len ys) ?_ (rowS_one ys) (by unfold maxLen; omega) (by omega) hbase ?_
    · intro j u hj
      have hp : 0 < ys.length := by
        have := (List.getElem?_eq_some_iff.1 hj).1
        rw [rowS_len] at this; omega
      obtain ⟨b, o, e, _, hcell⟩ := hb hp
      cases e
      rw [add_at]; exact hcell j u hj
    · intro v' w' h1 h2 _
      exact h v' w' (by rw [rowS_append]; exact h1) h2
section
variable {o : List Sm} {k : Nat}
theorem Slc.of_ownB {w : World} {base n : Nat} {v : Value} {ts : List Sm} (h : w.ownsRow base 30 7 v n (rowS ts)) : ∃ A c, v = .slice A ts.length c ∧ Slc w A c ts ∧ ∀ ad, A = some ad → base ≤ ad.block := by
  obtain ⟨A, c, e, hs⟩ := Slc.of_own h
  refine ⟨A, c, e, hs, fun ad hA => ?_⟩
  obtain ⟨_, ⟨hv, _⟩ | ⟨g, cap, cur, hv, hg, _⟩⟩ := h
  · rw [hv] at e; injection e with e1; rw [← e1] at hA; cases hA
  · rw [hv] at e; injection e with e1; rw [← e1] at hA; cases hA; exact hg
theorem slc_drop {w : World} {A : Option Addr} {c : Nat} (h : Slc w A c o) (hk : k ≤ o.length) : Ts w (if c = k then A else A.map (·.add (k * 7))) (o.drop k) ∧ ((if c = k then A else A.map (·.add (k * 7))) = none → c - k = 0) := by
  have hle := h.le
  by_cases e : c = k
  · rw [if_pos e]
    refine ⟨?_, fun _ => by omega⟩
    rw [List.drop_eq_nil_of_le (by omega)]; exact Ts.nil
  · rw [if_neg e]
    cases A with
    | none => have := h.nil rfl; omega
    | some a =>
      refine ⟨?_, fun h => by simp at h⟩
      intro hp
      have hpo : 0 < o.length := by rw [List.length_drop] at hp; omega
      obtain ⟨b, o', e', _⟩ := h.ts hpo
      cases e'
      have e2 : Option.map (fun x : Addr => x.add (k * 7)) (some ⟨b, o', none⟩) = some ⟨b, o' + k * 7, none⟩ := by first | rfl | simp [Addr.add]
      rw [e2]
      exact (Ts.drop h.ts k) hp
theorem wpList_append_tn {w : World} {ops : Array Oper} {rest : List Oper} {o : Oper} {a : Act} {Q : Exit → Act → World → Prop} (hgd : o.guard = none) (s x : Operand)
    (ho : o.op = .call { callee := .builtin .append, args := #[s, x], argTypes := #[45, 45] })
    (base : Nat) (v : Value) (n : Nat) (ts : List Sm) (hs : a.eval s = v) (hown : w.ownsRow base 30 7 v n (rowS ts))
    (A : Option Addr) (c m : Nat) (ys : List Sm) (hm : ys.length = m) (hx : a.eval x = .slice A m c) (hA0 : A = none → c = 0) (hb : Ts w A ys)
    (hle : n + ys.length ≤ 4000) (hbase : base ≤ w.heap.size)
    (h : ∀ v' w', w'.ownsRow base 30 7 v' (n + ys.length) (rowS (ts ++ ys)) → w.grownBy w' v.ownBlock → wpList Try.prog ops Q rest (a.put o.dst v') w') : wpList Try.prog ops Q (o :: rest) a w := by
  subst hm
  exact wpList_append_ts hgd s x ho base v n ts hs hown A c ys hx hA0 hb hle hbase h
theorem slc_none (w : World) : Slc w none 0 [] := ⟨Ts.nil, by simp, by unfold maxLen; omega, fun _ => rfl⟩
end
section
variable {ts o : List Sm} {t x y z : Sm} {k m q : Nat}
theorem mem_take_at {k : Nat} (h : x ∈ ts.take k) : ∃ j, j < k ∧ ts[j]? = some x := by
  obtain ⟨j, hj⟩ := List.getElem?_of_mem h
  rw [List.getElem?_take] at hj
  split at hj
  · rename_i h1; exact ⟨j, h1, hj⟩
  · cases hj
def badJ (k : Nat) (t : Sm) (j : Nat) (x : Sm) : Bool := (!eqS x t && decide (x.L t)) || (decide (j < k) && eqS x t)
def StayTo (ts : List Sm) (k : Nat) (t : Sm) (m : Nat) : Prop := t.R ∧ ∀ (j : Nat) (x : Sm), j < m → ts[j]? = some x → badJ k t j x = false
noncomputable instance (ts : List Sm) (k : Nat) (t : Sm) (m : Nat) : Decidable (StayTo ts k t m) := Classical.propDecidable _
theorem stay_zero : decide (StayTo ts k t 0) = decide t.R := by
  rw [Bool.eq_iff_iff, decide_eq_true_iff, decide_eq_true_iff]
  exact ⟨fun h => h.1, fun h => ⟨h, fun j x hj => absurd hj (by omega)⟩⟩
theorem stay_bad (hx : ts[m]? = some x) (hb : badJ k t m x = true) : decide (StayTo ts k t (m + 1)) = false := by
  rw [decide_eq_false_iff_not]
  intro h
  have := h.2 m x (by omega) hx
  rw [hb] at this; cases this
theorem stay_good (hx : ts[m]? = some x) (hb : badJ k t m x = false) : decide (StayTo ts k t (m + 1)) = decide (StayTo ts k t m) := by
  rw [Bool.eq_iff_iff, decide_eq_true_iff, decide_eq_true_iff]
  constructor
  · exact fun h => ⟨h.1, fun j y hj hy => h.2 j y (by omega) hy⟩
  · intro h
    refine ⟨h.1, fun j y hj hy => ?_⟩
    by_cases e : j = m
    · subst e; rw [hx] at hy; cases hy; exact hb
    · exact h.2 j y (by omega) hy
def GoodO (ts : List Sm) (k : Nat) (o : List Sm) : Prop := o.Pairwise Sm.A ∧ ∀ x, x ∈ o ↔ x ∈ ts.take k ∧ LeastW ts x
theorem stay_iff (ht : ts[k]? = some t) : StayTo ts k t ts.length ↔ LeastW ts t ∧ t ∉ ts.take k := by
  constructor
  · rintro ⟨hr, h⟩
    refine ⟨⟨hr, fun z hz hl => ?_⟩, fun hm => ?_⟩
    · obtain ⟨j, hj⟩ := List.getElem?_of_mem hz
      have := h j z (List.getElem?_eq_some_iff.1 hj).1 hj
      unfold badJ eqS at this
      simp only [Bool.or_eq_false_iff, Bool.and_eq_false_iff, Bool.not_eq_false', decide_eq_true_eq, decide_eq_false_iff_not] at this
      rcases this.1 with h1 | h1
      · exact h1
      · exact absurd hl h1
    · obtain ⟨j, hj, hx⟩ := mem_take_at hm
      have := h j t (List.getElem?_eq_some_iff.1 hx).1 hx
      unfold badJ eqS at this
      simp [hj] at this
  · rintro ⟨h1, h2⟩
    refine ⟨h1.1, fun j x hj hx => ?_⟩
    unfold badJ eqS
    simp only [Bool.or_eq_false_iff, Bool.and_eq_false_iff, Bool.not_eq_false', decide_eq_true_eq, decide_eq_false_iff_not]
    refine ⟨?_, ?_⟩
    · by_cases hl : x.L t
      · exact .inl (h1.2 x (List.mem_of_getElem? hx) hl)
      · exact .inr hl
    · by_cases e : x = t
      · subst e
        refine .inl fun hjk => h2 ?_
        exact List.mem_of_getElem? (i := j) (by rw [List.getElem?_take, if_pos hjk]; exact hx)
      · exact .inr e
theorem mem_next (ht : ts[k]? = some t) : x ∈ ts.take (k + 1) ↔ x ∈ ts.take k ∨ x = t := by
  rw [List.take_add_one, ht]; simp
theorem good_skip (h : GoodO ts k o) (ht : ts[k]? = some t) (hl : ¬ StayTo ts k t ts.length) : GoodO ts (k + 1) o := by
  rw [stay_iff ht] at hl
  refine ⟨h.1, fun x => ?_⟩
  rw [h.2 x, mem_next ht]
  constructor
  · rintro ⟨h1, h2⟩; exact ⟨.inl h1, h2⟩
  · rintro ⟨h1 | rfl, h2⟩
    · exact ⟨h1, h2⟩
    · refine ⟨?_, h2⟩
      apply Classical.byContradiction
      exact fun h3 => hl ⟨h2, h3⟩
def stepS (o : List Sm) (q : Nat) (t : Sm) : Bool := match o[q]? with | some y => decide (y.A t) | none => false
theorem good_put (h : GoodO ts k o) (ht : ts[k]? = some t) (hl : StayTo ts k t ts.length) (hq : ∀ (j : Nat) (x : Sm), j < q → o[j]? = some x → x.A t) (hs : stepS o q t = false) : GoodO ts (k + 1) (o.take q ++ [t] ++ o.drop q) := by
  rw [stay_iff ht] at hl
  have hno : t ∉ o := fun hm => hl.2 ((h.2 t).1 hm).1
  have hsort := h.1
  rw [← List.take_append_drop q o, List.pairwise_append] at hsort
  have hdrop : ∀ y ∈ o.drop q, t.A y := by
    intro y hy
    cases hd : o.drop q with
    | nil => rw [hd] at hy; cases hy
    | cons a r =>
      have ha : o[q]? = some a := by
        have : (o.drop q)[0]? = some a := by rw [hd]; rfl
        rwa [List.getElem?_drop] at this
      have hat : t.A a := by
        unfold stepS at hs
        rw [ha] at hs
        have h1 : ¬ a.A t := of_decide_eq_false hs
        rcases Sm.A_total (x := t) (y := a) (fun e => hno (by rw [e]; exact List.mem_of_getElem? ha)) with h2 | h2
        · exact h2
        · exact absurd h2 h1
      rw [hd] at hy
      rcases List.mem_cons.1 hy with rfl | hy
      · exact hat
      · have := hsort.2.1
        rw [hd] at this
        exact Sm.A_trans hat ((List.pairwise_cons.1 this).1 y hy)
  have htake : ∀ y ∈ o.take q, y.A t := by
    intro y hy
    obtain ⟨j, hj, hx⟩ := mem_take_at hy
    exact hq j y hj hx
  refine ⟨?_, fun x => ?_⟩
  · rw [List.append_assoc, List.pairwise_append]
    refine ⟨hsort.1, ?_, ?_⟩
    · rw [List.singleton_append, List.pairwise_cons]
      exact ⟨hdrop, hsort.2.1⟩
    · intro a ha b hb
      rw [List.singleton_append] at hb
      rcases List.mem_cons.1 hb with rfl | hb
      · exact htake a ha
      · exact hsort.2.2 a ha b hb
  · have e : x ∈ o.take q ++ [t] ++ o.drop q ↔ x ∈ o ∨ x = t := by
      conv => rhs; rw [← List.take_append_drop q o]
      simp only [List.mem_append, List.mem_singleton]
      constructor
      · rintro ((h | h) | h)
        · exact .inl (.inl h)
        · exact .inr h
        · exact .inl (.inr h)
      · rintro ((h | h) | h)
        · exact .inl (.inl h)
        · exact .inr h
        · exact .inl (.inr h)
    rw [e, h.2 x, mem_next ht]
    constructor
    · rintro (⟨h1, h2⟩ | rfl)
      · exact ⟨.inl h1, h2⟩
      · exact ⟨.inr rfl, hl.1⟩
    · rintro ⟨h1 | rfl, h2⟩
      · exact .inl ⟨h1, h2⟩
      · exact .inr rfl
theorem good_end (h : GoodO ts ts.length o) : o = waysS ts := by
  refine waysS_eq h.1 fun x => ?_
  have := h.2 x
  rwa [List.take_length] at this
theorem nes_is {a b : Sm} {x y : Operand} {p : Bool} (h : (!eqS a b) = p) : ∀ w, (do eqGuard .neq 30 x y a.v b.v; binOp .neq 30 a.v b.v : Sem Value).run Try.prog w = .ok (.bool p) w := by
  intro w; subst h; exact ne_sr x y a b w
theorem eqs_is {a b : Sm} {x y : Operand} {p : Bool} (h : eqS a b = p) : ∀ w, (do eqGuard .eql 30 x y a.v b.v; binOp .eql 30 a.v b.v : Sem Value).run Try.prog w = .ok (.bool p) w := by
  intro w; subst h; exact eq_sr x y a b w
theorem lti_is {x y : Operand} {i j : Int} {p : Bool} (h : decide (i < j) = p) : ∀ w, (do eqGuard .lss 3 x y (.int .i64 i) (.int .i64 j); binOp .lss 3 (.int .i64 i) (.int .i64 j) : Sem Value).run Try.prog w = .ok (.bool p) w := by
  intro w; subst h; go_simp
theorem own_len {w : World} {base n : Nat} {v : Value} {ts : List Sm} (h : w.ownsRow base 30 7 v n (rowS ts)) : n = ts.length := by
  have := h.1; rw [rowS_len] at this; omega
end
end Nx
end
end Go.Proofs.Ytdpadkellpkppaa
