/- MxRow, Rw, Rc, FlowMath, Gr -/
import Derived.Test.YtmhophmpbpbjaaaGreatDoorCa4
import Derived.Test.YtmhophmpbpbjaaaGreatDoorCa6
import Derived.Laws.AppendOwnNone
import Derived.OwnWalk
import Derived.Shelf.Abstract
import Derived.Test.YtmhophmpbpbjaaaGreatDoorCa0
import Derived.Maps.AppendAt
namespace Go.Proofs.YtmhophmpbpbjaaaGreatDoor
set_option linter.unusedVariables false
section
namespace Mx
open Go.ChangeShapes Go.WideShapes Go.ChangeAt Go.RowKit Go.BigFrame Go.Shelf
set_option maxRecDepth 100000
abbrev Holds (w : World) (g : Nat) (s : Sm) : Prop := HoldsM w g 44 s
theorem Holds.made (w : World) (s : Sm) : Holds (w.alloc (.cells #[.int .i64 s.fr, .int .i64 s.to, .int .i64 s.kp, .int .i64 s.ad, .int .i64 s.t0, .int .i64 s.t1, .int .i64 s.t2] 44)) w.heap.size s := HoldsM.made w _ s
theorem Holds.cells5 {W : World} {g : Nat} {s : Sm} (h : Holds W g s) : W.cell? ⟨g, 0, none⟩ = some (.int .i64 s.fr) ∧ W.cell? ⟨g, 1, none⟩ = some (.int .i64 s.to) ∧ W.cell? ⟨g, 2, none⟩ = some (.int .i64 s.kp) ∧ W.cell? ⟨g, 3, none⟩ = some (.int .i64 s.ad) ∧ W.cell? ⟨g, 4, none⟩ = some (.int .i64 s.t0) ∧ W.cell? ⟨g, 5, none⟩ = some (.int .i64 s.t1) ∧ W.cell? ⟨g, 6, none⟩ = some (.int .i64 s.t2) := HoldsM.cells7 h
theorem infoSum : (Tryz.prog.info? 44).map (fun i => (i.zero, i.size, i.bytes)) = some (some (.agg #[.int .i64 0, .int .i64 0, .int .i64 0, .int .i64 0, .int .i64 0, .int .i64 0, .int .i64 0]), 7, 56) := by kernel_rfl
def rowS (ts : List Sm) : List Value := (ts.map Sm.cells).flatten
theorem rowS_cons (t : Sm) (ts : List Sm) : rowS (t :: ts) = .int .i64 t.fr :: .int .i64 t.to :: .int .i64 t.kp :: .int .i64 t.ad :: .int .i64 t.t0 :: .int .i64 t.t1 :: .int .i64 t.t2 :: rowS ts := by simp [rowS, Sm.cells]
theorem rowS_append (ts us : List Sm) : rowS (ts ++ us) = rowS ts ++ rowS us := by simp [rowS]
theorem rowS_len (ts : List Sm) : (rowS ts).length = ts.length * 7 := by
  induction ts with
  | nil => rfl
  | cons t ts ih => rw [rowS_cons]; simp only [List.length_cons, ih]; omega
theorem rowS_at : ∀ (ts : List Sm) (i : Nat) (t : Sm), ts[i]? = some t → ∀ (j : Nat) (u : Value), t.cells[j]? = some u → (rowS ts)[i * 7 + j]? = some u
  | x :: ts, 0, t, h, j, u, hu => by
    obtain rfl : x = t := by simpa using h
    rw [rowS_cons, Nat.zero_mul, Nat.zero_add]
    match j, hu with
    | 0, hu => exact hu
    | 1, hu => exact hu
    | 2, hu => exact hu
    | 3, hu => exact hu
    | 4, hu => exact hu
    | 5, hu => exact hu
    | 6, hu => exact hu
    | j + 7, hu => simp [Sm.cells] at hu
  | x :: ts, i + 1, t, h, j, u, hu => by
    have := rowS_at ts i t (by simpa using h) j u hu
    rw [rowS_cons, show (i + 1) * 7 + j = i * 7 + j + 1 + 1 + 1 + 1 + 1 + 1 + 1 by omega]
    simp only [List.getElem?_cons_succ]
    exact this
theorem rowS_one (ts : List Sm) : ∀ u ∈ rowS ts, u.oneCell' = true := by
  intro u hu
  simp only [rowS, List.mem_flatten, List.mem_map] at hu
  obtain ⟨l, ⟨t, _, rfl⟩, hu⟩ := hu
  simp only [Sm.cells, List.mem_cons, List.not_mem_nil, or_false] at hu
  rcases hu with rfl | rfl | rfl | rfl | rfl | rfl | rfl <;> rfl
def Times (w : World) (A : Option Addr) (ts : List Sm) : Prop :=
  0 < ts.length → ∃ b, A = some ⟨b, 0, none⟩ ∧ b < w.heap.size ∧ ∀ (j : Nat) (u : Value), (rowS ts)[j]? = some u → w.cell? ⟨b, j, none⟩ = some u
theorem Times.made (w : World) (ts : List Sm) : Times (w.alloc (.cells (rowS ts).toArray 44)) (some ⟨w.heap.size, 0, none⟩) ts := fun _ => by
  have h : Row (w.alloc (.cells (rowS ts).toArray 44)) w.heap.size 44 (rowS ts) := Row.made w _ _
  exact ⟨_, rfl, h.lt, fun j u hu => (h.cell j).trans hu⟩
theorem Times.of_own {w : World} {base : Nat} {v : Value} {n : Nat} {ts : List Sm} (h : w.ownsRow base 44 7 v n (rowS ts)) :
    ∃ A c, v = .slice A ts.length c ∧ Times w A ts ∧ ts.length ≤ c ∧ c ≤ maxLen := by
  have hl : ts.length = n := by have := h.1; rw [rowS_len] at this; omega
  obtain ⟨_, ⟨rfl, h0⟩ | ⟨g, cap, cur, rfl, _, hh, h1, h2, _, ht⟩⟩ := id h
  · exact ⟨none, 0, by rw [hl, h0], fun hn => by omega, by omega, by simp⟩
  · refine ⟨some ⟨g, 0, none⟩, cap, by rw [hl], fun _ => ⟨g, rfl, ?_, fun j u hj => ?_⟩, by omega, h2⟩
    · by_cases hg : g < w.heap.size
      · exact hg
      · rw [Array.getElem?_eq_none (by omega)] at hh; cases hh
    · have := h.cells (g := g) rfl j u hj
      rwa [add_zero_off] at this
theorem own_apart {w : World} {base : Nat} {v : Value} {n b : Nat} {xs l : List Value} {t : TypeId} (h : w.ownsRow base 44 7 v n xs) (hr : Row w b t l) (ht : t ≠ 44) : some b ≠ v.ownBlock := by
  obtain ⟨_, ⟨rfl, _⟩ | ⟨g, cap, cur, rfl, _, hh, _⟩⟩ := h
  · intro e; cases e
  · intro e
    injection e with e
    subst e
    unfold Row at hr
    rw [hr] at hh; injection hh with hh; injection hh with _ ht'; exact ht ht'
theorem own_belowS {w0 w w' : World} {base n : Nat} {v : Value} {xs : List Value} (h : w.ownsRow base 44 7 v n xs) (hg : w.grownBy w' v.ownBlock) (hb : Below base w0 w) (hB : base ≤ w.heap.size) : Below base w0 w' :=
  hb.grown hg hB (fun k e => (h.lt k e).1)
theorem wpList_append_times {w : World} {ops : Array Oper} {rest : List Oper} {o : Oper} {a : Act} {Q : Exit → Act → World → Prop} (hgd : o.guard = none) (s x : Operand)
    (ho : o.op = .call { callee := .builtin .append, args := #[s, x], argTypes := #[36, 36] })
    (base : Nat) (v : Value) (n : Nat) (ts : List Sm) (hs : a.eval s = v) (hown : w.ownsRow base 44 7 v n (rowS ts))
    (ad : Addr) (c : Nat) (ys : List Sm) (hx : a.eval x = .slice (some ad) ys.length c) (hy : 0 < ys.length) (hb : Times w (some ad) ys)
    (hle : n + ys.length ≤ 5000000) (hbase : base ≤ w.heap.size)
    (h : ∀ v' w', w'.ownsRow base 44 7 v' (n + ys.length) (rowS (ts ++ ys)) → w.grownBy w' v.ownBlock → wpList Tryz.prog ops Q rest (a.put o.dst v') w') : wpList Tryz.prog ops Q (o :: rest) a w := by
  obtain ⟨i, hi, hz0, hz1, hz2⟩ := info_parts infoSum
  obtain ⟨b, e, _, hcell⟩ := hb hy
  cases e
  refine wpList_append_own w hgd s x 36 ho base 44 i _ 7 56 Tryz.underlying36 hi hz0 hz1 hz2 rfl (by omega) v n (rowS ts) hs hown ⟨b, 0, none⟩ ys.length c (rowS ys) hx (rowS_len ys) ?_ (rowS_one ys) (by unfold maxLen; omega) (by omega) hbase ?_
  · intro j u hj
    rw [add_zero_off]; exact hcell j u hj
  · intro v' w' h1 h2 _
    exact h v' w' (by rw [rowS_append]; exact h1) h2

def Ts (w : World) (A : Option Addr) (ts : List Sm) : Prop :=
  0 < ts.length → ∃ b o, A = some ⟨b, o, none⟩ ∧ b < w.heap.size ∧ ∀ (j : Nat) (u : Value), (rowS ts)[j]? = some u → w.cell? ⟨b, o + j, none⟩ = some u
section
variable {w w' : World} {A : Option Addr} {ts : List Sm}
theorem Ts.below (h : Ts w A ts) (hb : Below w.heap.size w w') : Ts w' A ts := fun hn => by
  obtain ⟨b, o, e, hlt, hc⟩ := h hn
  exact ⟨b, o, e, Nat.lt_of_lt_of_le hlt hb.size, fun j u hu => (hb.cell (p := ⟨b, o + j, none⟩) hlt).trans (hc j u hu)⟩
theorem Ts.nil : Ts w A [] := fun h => absurd h (by simp)
theorem Ts.of (h : Times w A ts) : Ts w A ts := fun hn => by
  obtain ⟨b, e, hlt, hc⟩ := h hn
  exact ⟨b, 0, e, hlt, fun j u hu => by rw [Nat.zero_add]; exact hc j u hu⟩
theorem rowS_take (ts : List Sm) (k : Nat) : rowS (ts.take k) = (rowS ts).take (k * 7) := by
  induction ts generalizing k with
  | nil => simp [rowS]
  | cons t ts ih =>
    cases k with
    | zero => simp [rowS]
    | succ k => rw [List.take_succ_cons, rowS_cons, rowS_cons, ih, show (k + 1) * 7 = k * 7 + 1 + 1 + 1 + 1 + 1 + 1 + 1 by omega]; simp only [List.take_succ_cons]
theorem Ts.take (h : Ts w A ts) (k : Nat) : Ts w A (ts.take k) := fun hn => by
  obtain ⟨b, o, e, hlt, hc⟩ := h (by rw [List.length_take] at hn; omega)
  refine ⟨b, o, e, hlt, fun j u hu => hc j u ?_⟩
  rw [rowS_take, List.getElem?_take] at hu
  split at hu
  · exact hu
  · cases hu
theorem run_load_st (w : World) (b o : Nat) (t : Sm) (h : ∀ j v, t.cells[j]? = some v → w.cell? ⟨b, o + j, none⟩ = some v) :
    (Instr.loadAt 44 (.pointer (some ⟨b, o, none⟩))).run Tryz.prog w = .ok (.agg #[.int .i64 t.fr, .int .i64 t.to, .int .i64 t.kp, .int .i64 t.ad, .int .i64 t.t0, .int .i64 t.t1, .int .i64 t.t2]) w :=
  run_loadAt_part b o 44 _ t.cells (fun j v hj => by rw [add_at]; exact h j v hj) Tryz.underlying44 rfl (by kernel_rfl)
theorem Ts.load (h : Ts w A ts) {i : Nat} {t : Sm} (hi : ts[i]? = some t) : ∃ b o, A = some ⟨b, o, none⟩ ∧ b < w.heap.size ∧
    ∀ w', Below w.heap.size w w' → (Instr.loadAt 44 (.pointer (some ⟨b, o + i * 7, none⟩))).run Tryz.prog w' = .ok (.agg #[.int .i64 t.fr, .int .i64 t.to, .int .i64 t.kp, .int .i64 t.ad, .int .i64 t.t0, .int .i64 t.t1, .int .i64 t.t2]) w' := by
  obtain ⟨hl, _⟩ := List.getElem?_eq_some_iff.1 hi
  obtain ⟨b, o, e, hlt, hc⟩ := h (by omega)
  refine ⟨b, o, e, hlt, fun w' hb => run_load_st _ _ _ _ fun j v hj => ?_⟩
  rw [hb.cell (p := ⟨b, o + i * 7 + j, none⟩) hlt, Nat.add_assoc]
  exact hc _ v (rowS_at ts i t hi j v hj)
theorem Ts.five (h : Ts w A ts) {i : Nat} {t : Sm} (hi : ts[i]? = some t) : ∃ b o, A = some ⟨b, o, none⟩ ∧ b < w.heap.size ∧
    ∀ w', Below w.heap.size w w' → w'.cell? ⟨b, o + i * 7, none⟩ = some (.int .i64 t.fr) ∧ w'.cell? ⟨b, o + i * 7 + 1, none⟩ = some (.int .i64 t.to) ∧ w'.cell? ⟨b, o + i * 7 + 2, none⟩ = some (.int .i64 t.kp) ∧ w'.cell? ⟨b, o + i * 7 + 3, none⟩ = some (.int .i64 t.ad) ∧ w'.cell? ⟨b, o + i * 7 + 4, none⟩ = some (.int .i64 t.t0) ∧ w'.cell? ⟨b, o + i * 7 + 5, none⟩ = some (.int .i64 t.t1) ∧ w'.cell? ⟨b, o + i * 7 + 6, none⟩ = some (.int .i64 t.t2) := by
  obtain ⟨hl, _⟩ := List.getElem?_eq_some_iff.1 hi
  obtain ⟨b, o, e, hlt, hc⟩ := h (by omega)
  refine ⟨b, o, e, hlt, fun w' hb => ?_⟩
  have key : ∀ j v, t.cells[j]? = some v → w'.cell? ⟨b, o + i * 7 + j, none⟩ = some v := fun j v hj => by
    rw [hb.cell (p := ⟨b, o + i * 7 + j, none⟩) hlt, Nat.add_assoc]
    exact hc _ v (rowS_at ts i t hi j v hj)
  exact ⟨key 0 _ rfl, key 1 _ rfl, key 2 _ rfl, key 3 _ rfl, key 4 _ rfl, key 5 _ rfl, key 6 _ rfl⟩
end
def Tells (g : Nat) (lb : Array Value) (p : Sm → Bool) (w : World) : Prop :=
  ∀ (W : World) (x : Sm), Below w.heap.size w W → Calls Tryz.prog g (#[x.v] ++ lb) W fun e w' => e = .returned (.bool (p x)) ∧ Below W.heap.size W w'
theorem any_false {p : Sm → Bool} {ts : List Sm} : ts.any p = false ↔ ∀ (j : Nat) (t : Sm), ts[j]? = some t → p t = false := by
  rw [List.any_eq_false]
  constructor
  · intro h j t ht
    have := h t (List.mem_of_getElem? ht)
    simpa using this
  · intro h t ht
    obtain ⟨j, hj⟩ := List.getElem?_of_mem ht
    rw [h j t hj]; simp
theorem indexFunc_any (A : Option Addr) (ts : List Sm) (c g : Nat) (lb : Array Value) (p : Sm → Bool) (w : World) (hT : Ts w A ts) (hn : ts.length ≤ 5000000)
    (eg : ∀ args w, (callFunc g args).run Tryz.prog w = .ok (.enter g args) w) (hp : 0 < ts.length → Tells g lb p w) :
    Calls Tryz.prog 115 #[.slice A ts.length c, .func (.func g) #[] lb] w fun e w' => (∃ i : Int, e = .returned (.int .i64 i) ∧ decide (0 ≤ i) = ts.any p) ∧ Below w.heap.size w w' := by
  have HT := Lib.hid hT; have HP := Lib.hid hp; clear hT hp
  go_enter Tryz.func115, Tryz.ntmps115
  go_wp2_with fail
  go_loopw [5, 8] (fun _ i wr => ∃ k : Nat, k ≤ ts.length ∧ i = .int .i64 k ∧ Below w.heap.size w wr ∧ ∀ (j : Nat) (t : Sm), j < k → ts[j]? = some t → p t = false) (fun _ i _ => ts.length - (intOf i).toNat)
  case atStart => exact ⟨0, by omega, rfl, Below.refl _ _, fun j t h => absurd h (by omega)⟩
  case round =>
    obtain ⟨k, hk, rfl, hb, hno⟩ := hrel
    have HB := Lib.hid hb; have HNO := Lib.hid hno; clear hb hno
    by_cases hlt : k < ts.length
    · have hltz : (k : Int) < (ts.length : Int) := by omega
      obtain ⟨t, ht⟩ : ∃ t, ts[k]? = some t := ⟨_, List.getElem?_eq_getElem hlt⟩
      obtain ⟨b, o, rfl, hbl, hld⟩ := HT.out.five ht
      obtain ⟨c0, c1, c2, c3, c4, c5, c6⟩ := hld _ HB.out
      have hcall := HP.out (by omega) wr t HB.out
      have HTT := Lib.hid ht; clear ht
      cases hq : p t with
      | true =>
        rw [hq] at hcall
        have HQ := Lib.hid hq; clear hq
        go_wp2_with fail
        refine hcall.mono ?_; rintro e w1 ⟨rfl, hb1⟩
        have HB1 := Lib.hid (HB.out.trans (hb1.mono HB.out.size)); clear hb1 hld hcall c0 c1 c2 c3 c4 c5 c6
        go_wp2_with fail
        go_ret
        refine ⟨⟨k, rfl, ?_⟩, HB1.out⟩
        rw [decide_eq_true (by omega), eq_comm, List.any_eq_true]
        exact ⟨t, List.mem_of_getElem? HTT.out, HQ.out⟩
      | false =>
        rw [hq] at hcall
        have HQ := Lib.hid hq; clear hq
        go_wp2_with fail
        refine hcall.mono ?_; rintro e w1 ⟨rfl, hb1⟩
        have HB1 := Lib.hid (HB.out.trans (hb1.mono HB.out.size)); clear hb1 hld hcall c0 c1 c2 c3 c4 c5 c6
        go_wp2_with fail
        go_roundw
        case rel =>
          refine ⟨k + 1, by omega, by simp, HB1.out, fun j t' hj ht' => ?_⟩
          by_cases e : j = k
          · subst e
            rw [HTT.out] at ht'; cases ht'
            exact HQ.out
          · exact HNO.out j t' (by omega) ht'
        case measure => simp [intOf]; omega
    · have hltz : ¬ (k : Int) < (ts.length : Int) := by omega
      go_wp2_with fail
      go_ret
      refine ⟨⟨-1, rfl, ?_⟩, HB.out⟩
      rw [decide_eq_false (by omega), eq_comm, any_false]
      exact fun j t ht => HNO.out j t (by have := (List.getElem?_eq_some_iff.1 ht).1; omega) ht
theorem containsFunc_any (A : Option Addr) (ts : List Sm) (c g : Nat) (lb : Array Value) (p : Sm → Bool) (w : World) (hT : Ts w A ts) (hn : ts.length ≤ 5000000)
    (eg : ∀ args w, (callFunc g args).run Tryz.prog w = .ok (.enter g args) w) (hp : 0 < ts.length → Tells g lb p w) :
    Calls Tryz.prog 63 #[.slice A ts.length c, .func (.func g) #[] lb] w fun e w' => e = .returned (.bool (ts.any p)) ∧ Below w.heap.size w w' := by
  have H := Lib.hid (indexFunc_any A ts c g lb p w hT hn eg hp); clear hT hp eg
  go_enter Tryz.func63, Tryz.ntmps63
  go_wp2_with fail
  refine (H.out).mono ?_; rintro e w1 ⟨⟨i, rfl, hi⟩, hb⟩
  have HB := Lib.hid hb; clear hb
  have HI := Lib.hid hi; clear hi
  go_wp2_with fail
  go_ret
  exact ⟨ret_bool HI.out, HB.out⟩
end Mx
end

section
open Go.RowKit
structure Kind (α : Type) where
  cells : α → List Value
  K : Nat
  len : ∀ t, (cells t).length = K
  one : ∀ t, ∀ u ∈ cells t, u.oneCell' = true
  pos : 0 < K
namespace Rw
theorem grown_below {w w' : World} (h : Below w.heap.size w w') (row : Option Nat) : w.grownBy w' row := ⟨h.os, h.tape, h.output, h.size, fun k hk _ => h.block k hk⟩
section
variable {α : Type} {κ : Kind α}
def row (κ : Kind α) (ts : List α) : List Value := (ts.map κ.cells).flatten
theorem row_nil : row κ [] = [] := rfl
theorem row_cons (t : α) (ts : List α) : row κ (t :: ts) = κ.cells t ++ row κ ts := by simp [row]
theorem row_append (ts us : List α) : row κ (ts ++ us) = row κ ts ++ row κ us := by simp [row]
theorem row_len (ts : List α) : (row κ ts).length = ts.length * κ.K := by
  induction ts with
  | nil => simp [row]
  | cons t ts ih => rw [row_cons, List.length_append, ih, κ.len, List.length_cons, Nat.succ_mul]; omega
theorem row_at : ∀ (ts : List α) (i : Nat) (t : α), ts[i]? = some t → ∀ (j : Nat) (u : Value), (κ.cells t)[j]? = some u → (row κ ts)[i * κ.K + j]? = some u
  | x :: ts, 0, t, h, j, u, hu => by
    obtain rfl : x = t := by simpa using h
    have hj := (List.getElem?_eq_some_iff.1 hu).1
    rw [row_cons, Nat.zero_mul, Nat.zero_add, List.getElem?_append_left hj]; exact hu
  | x :: ts, i + 1, t, h, j, u, hu => by
    have := row_at ts i t (by simpa using h) j u hu
    rw [row_cons, List.getElem?_append_right (by rw [κ.len, Nat.succ_mul]; omega), κ.len, Nat.succ_mul, show i * κ.K + κ.K + j - κ.K = i * κ.K + j by omega]
    exact this
theorem row_one (ts : List α) : ∀ u ∈ row κ ts, u.oneCell' = true := by
  intro u hu
  simp only [row, List.mem_flatten, List.mem_map] at hu
  obtain ⟨l, ⟨t, _, rfl⟩, hu⟩ := hu
  exact κ.one t u hu
theorem row_take (ts : List α) (k : Nat) : row κ (ts.take k) = (row κ ts).take (k * κ.K) := by
  induction ts generalizing k with
  | nil => simp [row]
  | cons t ts ih =>
    cases k with
    | zero => simp [row]
    | succ k => rw [List.take_succ_cons, row_cons, row_cons, ih, List.take_append, κ.len, List.take_of_length_le (l := κ.cells t) (by rw [κ.len, Nat.succ_mul]; omega), Nat.succ_mul, show k * κ.K + κ.K - κ.K = k * κ.K by omega]
def Ts (κ : Kind α) (w : World) (A : Option Addr) (ts : List α) : Prop :=
  0 < ts.length → ∃ b o, A = some ⟨b, o, none⟩ ∧ b < w.heap.size ∧ ∀ (j : Nat) (u : Value), (row κ ts)[j]? = some u → w.cell? ⟨b, o + j, none⟩ = some u
end
section
variable {α : Type} {κ : Kind α} {w w' : World} {A : Option Addr} {ts : List α}
theorem Ts.below (h : Ts κ w A ts) (hb : Below w.heap.size w w') : Ts κ w' A ts := fun hn => by
  obtain ⟨b, o, e, hlt, hc⟩ := h hn
  exact ⟨b, o, e, Nat.lt_of_lt_of_le hlt hb.size, fun j u hu => (hb.cell (p := ⟨b, o + j, none⟩) hlt).trans (hc j u hu)⟩
theorem Ts.nil : Ts κ w A [] := fun h => absurd h (by simp)
theorem Ts.made (w : World) (ts : List α) (t : TypeId) : Ts κ (w.alloc (.cells (row κ ts).toArray t)) (some ⟨w.heap.size, 0, none⟩) ts := fun _ => by
  have h : Row (w.alloc (.cells (row κ ts).toArray t)) w.heap.size t (row κ ts) := Row.made w _ _
  exact ⟨_, 0, rfl, h.lt, fun j u hu => by rw [Nat.zero_add]; exact (h.cell j).trans hu⟩
theorem Ts.of_row {g : Nat} {t : TypeId} (h : Row w g t (row κ ts)) : Ts κ w (some ⟨g, 0, none⟩) ts := fun _ =>
  ⟨_, 0, rfl, h.lt, fun j u hu => by rw [Nat.zero_add]; exact (h.cell j).trans hu⟩
theorem Ts.take (h : Ts κ w A ts) (k : Nat) : Ts κ w A (ts.take k) := fun hn => by
  obtain ⟨b, o, e, hlt, hc⟩ := h (by rw [List.length_take] at hn; omega)
  refine ⟨b, o, e, hlt, fun j u hu => hc j u ?_⟩
  rw [row_take, List.getElem?_take] at hu
  split at hu
  · exact hu
  · cases hu
theorem Ts.at_ (h : Ts κ w A ts) {i : Nat} {t : α} (hi : ts[i]? = some t) : ∃ b o, A = some ⟨b, o, none⟩ ∧ b < w.heap.size ∧
    ∀ w', Below w.heap.size w w' → ∀ (j : Nat) (v : Value), (κ.cells t)[j]? = some v → w'.cell? ⟨b, o + i * κ.K + j, none⟩ = some v := by
  obtain ⟨hl, _⟩ := List.getElem?_eq_some_iff.1 hi
  obtain ⟨b, o, e, hlt, hc⟩ := h (by omega)
  refine ⟨b, o, e, hlt, fun w' hb j v hj => ?_⟩
  rw [hb.cell (p := ⟨b, o + i * κ.K + j, none⟩) hlt, Nat.add_assoc]
  exact hc _ v (row_at ts i t hi j v hj)
end
section
variable {α : Type} {κ : Kind α} {w w' : World} {base n : Nat} {v : Value} {ts : List α} {T : TypeId}
theorem Ts.of_own (h : w.ownsRow base T κ.K v n (row κ ts)) :
    ∃ A c, v = .slice A ts.length c ∧ Ts κ w A ts ∧ ts.length ≤ c ∧ c ≤ maxLen ∧ (A = none → c = 0) ∧ ∀ ad, A = some ad → base ≤ ad.block := by
  have hl : ts.length = n := by
    have := h.1; rw [row_len] at this
    exact Nat.eq_of_mul_eq_mul_right κ.pos this
  obtain ⟨_, ⟨rfl, h0⟩ | ⟨g, cap, cur, rfl, hg, hh, h1, h2, _, ht⟩⟩ := id h
  · exact ⟨none, 0, by rw [hl, h0], fun hn => by omega, by omega, by simp, fun _ => rfl, fun _ e => by cases e⟩
  · refine ⟨some ⟨g, 0, none⟩, cap, by rw [hl], fun _ => ⟨g, 0, rfl, ?_, fun j u hj => ?_⟩, by omega, h2, by simp, fun ad e => by cases e; exact hg⟩
    · by_cases hg : g < w.heap.size
      · exact hg
      · rw [Array.getElem?_eq_none (by omega)] at hh; cases hh
    · have := h.cells (g := g) rfl j u hj
      rw [Nat.zero_add]
      rwa [add_zero_off] at this
theorem own_kept {xs : List Value} {K : Nat} (h : w.ownsRow base T K v n xs) (hb : Below w.heap.size w w') : w'.ownsRow base T K v n xs := by
  refine h.kept (grown_below hb none) ?_
  cases hv : v.ownBlock with
  | none => exact .inl rfl
  | some k => exact .inr (by simp)
theorem own_apart {K b : Nat} {xs l : List Value} {t : TypeId} (h : w.ownsRow base T K v n xs) (hr : Row w b t l) (ht : t ≠ T) : some b ≠ v.ownBlock := by
  obtain ⟨_, ⟨rfl, _⟩ | ⟨g, cap, cur, rfl, _, hh, _⟩⟩ := h
  · intro e; cases e
  · intro e
    injection e with e
    subst e
    unfold Row at hr
    rw [hr] at hh; injection hh with hh; injection hh with _ ht'; exact ht ht'
theorem own_apart2 {K K' n' base' : Nat} {v' : Value} {xs ys : List Value} {t : TypeId} (h : w.ownsRow base T K v n xs) (h' : w.ownsRow base' t K' v' n' ys) (ht : t ≠ T) : v'.ownBlock = none ∨ v'.ownBlock ≠ v.ownBlock := by
  obtain ⟨_, ⟨rfl, _⟩ | ⟨g', cap', cur', rfl, _, hh', _⟩⟩ := h'
  · exact .inl rfl
  · right
    obtain ⟨_, ⟨rfl, _⟩ | ⟨g, cap, cur, rfl, _, hh, _⟩⟩ := h
    · intro e; cases e
    · intro e
      injection e with e
      simp only at e
      subst e
      rw [hh'] at hh; injection hh with hh; injection hh with _ e'; exact ht e'
theorem own_below {w0 : World} {K : Nat} {xs : List Value} (h : w.ownsRow base T K v n xs) (hg : w.grownBy w' v.ownBlock) (hb : Below base w0 w) (hB : base ≤ w.heap.size) : Below base w0 w' :=
  hb.grown hg hB (fun k e => (h.lt k e).1)
end
theorem append_own {α : Type} (κ : Kind α) {P : Program} {w : World} {ops : Array Oper} {rest : List Oper} {o : Oper} {a : Act} {Q : Exit → Act → World → Prop} (T TS : TypeId) {z : Value} {bytes : Nat}
    (hu : P.underlying TS = some (.slice T)) (hinfo : (P.info? T).map (fun i => (i.zero, i.size, i.bytes)) = some (some z, κ.K, bytes)) (hz : z.cells.size = κ.K) (hgd : o.guard = none) (s x : Operand)
    (ho : o.op = .call { callee := .builtin .append, args := #[s, x], argTypes := #[TS, TS] })
    (base : Nat) (v : Value) (n : Nat) (ts : List α) (hs : a.eval s = v) (hown : w.ownsRow base T κ.K v n (row κ ts))
    (A : Option Addr) (c : Nat) (ys : List α) (hx : a.eval x = .slice A ys.length c) (hA : A = none → c = 0 ∧ ys = []) (hb : Ts κ w A ys)
    (hle : n + ys.length ≤ maxLen) (hby : (n + ys.length) * bytes ≤ 140737488355328) (hbase : base ≤ w.heap.size)
    (h : ∀ v' w', w'.ownsRow base T κ.K v' (n + ys.length) (row κ (ts ++ ys)) → w.grownBy w' v.ownBlock → wpList P ops Q rest (a.put o.dst v') w') : wpList P ops Q (o :: rest) a w := by
  obtain ⟨i, hi, hz0, hz1, hz2⟩ := info_parts hinfo
  cases A with
  | none =>
    obtain ⟨rfl, rfl⟩ := hA rfl
    exact wpList_append_own_none hgd s x TS ho base T i κ.K hu hi v n (row κ ts) hs hown hx (h v w (by simpa using hown) (grown_below (Below.refl _ w) _))
  | some ad =>
    refine wpList_append_own w hgd s x TS ho base T i _ κ.K bytes hu hi hz0 hz1 hz2 hz κ.pos v n (row κ ts) hs hown ad ys.length c (row κ ys) hx (row_len ys) ?_ (row_one ys) hle hby hbase ?_
    · intro j u hj
      by_cases h0 : 0 < ys.length
      · obtain ⟨b, o', e, _, hc⟩ := hb h0
        cases e
        have := hc j u hj
        cases j with
        | zero => exact this
        | succ j => exact this
      · have : ys = [] := by cases ys with
          | nil => rfl
          | cons y ys => simp at h0
        subst this
        simp [row] at hj
    · intro v' w' h1 h2 _
      exact h v' w' (by rw [row_append]; exact h1) h2
end Rw
end

section
open Go.RowKit
namespace Rc
theorem add_off (g o j : Nat) : (⟨g, o, none⟩ : Addr).add j = ⟨g, o + j, none⟩ := by unfold Addr.add; split <;> simp_all
def Own (w : World) (base : Nat) (e : TypeId) (size : Nat) (v : Value) (n : Nat) (xs : List Value) : Prop :=
  xs.length = n * size ∧ ∃ g off cap cur, v = .slice (some ⟨g, off, none⟩) n cap ∧ base ≤ g ∧ w.heap[g]? = some (.cells cur e (0, 0)) ∧ n ≤ cap ∧ cap ≤ maxLen ∧ off + cap * size ≤ cur.size ∧ ∀ j u, xs[j]? = some u → cur[off + j]? = some u
section
variable {w w' : World} {base n size : Nat} {e : TypeId} {v : Value} {xs : List Value}
theorem Own.of_row (h : w.ownsRow base e size v n xs) (hn : 0 < n) : Own w base e size v n xs := by
  obtain ⟨hl, ⟨_, h0⟩ | ⟨g, cap, cur, hv, hb, hg, h1, h2, h3, h4⟩⟩ := h
  · omega
  · refine ⟨hl, g, 0, cap, cur, hv, hb, hg, h1, h2, by omega, fun j u hu => ?_⟩
    rw [← h4, List.getElem?_take] at hu
    split at hu
    · rw [Nat.zero_add]; simpa using hu
    · cases hu
theorem Own.at_ (h : Own w base e size v n xs) : ∃ g off cap, v = .slice (some ⟨g, off, none⟩) n cap ∧ base ≤ g ∧ g < w.heap.size ∧ n ≤ cap ∧ cap ≤ maxLen ∧ ∀ j u, xs[j]? = some u → w.cell? ⟨g, off + j, none⟩ = some u := by
  obtain ⟨hl, g, off, cap, cur, hv, hb, hg, h1, h2, h3, h4⟩ := h
  refine ⟨g, off, cap, hv, hb, (Array.getElem?_eq_some_iff.1 hg).1, h1, h2, fun j u hu => ?_⟩
  rw [cell_of_row w g (off + j) cur e (0, 0) hg]
  exact h4 j u hu
theorem Own.kept {row : Option Nat} (h : Own w base e size v n xs) (hg : w.grownBy w' row) (hne : v.ownBlock ≠ row) : Own w' base e size v n xs := by
  obtain ⟨hl, g, off, cap, cur, rfl, hb, hgg, h1⟩ := h
  refine ⟨hl, g, off, cap, cur, rfl, hb, ?_, h1⟩
  rw [hg.block g (Array.getElem?_eq_some_iff.1 hgg).1 (by simpa [Value.ownBlock] using hne)]
  exact hgg
theorem Own.below (h : Own w base e size v n xs) (hb : Below w.heap.size w w') : Own w' base e size v n xs := by
  obtain ⟨hl, g, off, cap, cur, rfl, hbg, hgg, h1⟩ := h
  refine ⟨hl, g, off, cap, cur, rfl, hbg, ?_, h1⟩
  rw [hb.block g (Array.getElem?_eq_some_iff.1 hgg).1]
  exact hgg
theorem Own.alloc (h : Own w base e size v n xs) (o : Obj) : Own (w.alloc o) base e size v n xs := h.below ((Below.refl _ _).alloc (Nat.le_refl _) _)
theorem Own.lt (h : Own w base e size v n xs) : ∀ k, v.ownBlock = some k → base ≤ k ∧ k < w.heap.size := by
  obtain ⟨g, off, cap, rfl, hb, hlt, _⟩ := h.at_
  intro k hk
  simp only [Value.ownBlock, Option.some.injEq] at hk
  subst hk
  exact ⟨hb, hlt⟩
theorem Own.apart {K m base' : Nat} {T : TypeId} {v' : Value} {ys : List Value} (h : Own w base e size v n xs) (h' : w.ownsRow base' T K v' m ys) (ht : T ≠ e) : v.ownBlock ≠ v'.ownBlock := by
  obtain ⟨hl, g, off, cap, cur, rfl, hb, hgg, h1⟩ := h
  obtain ⟨_, ⟨rfl, _⟩ | ⟨g', cap', cur', rfl, _, hh', _⟩⟩ := h'
  · simp [Value.ownBlock]
  · intro e
    simp only [Value.ownBlock, Option.some.injEq] at e
    subst e
    rw [hh'] at hgg; injection hgg with hgg; injection hgg with _ e'; exact ht e'
theorem Own.apart_row {b : Nat} {T : TypeId} {l : List Value} (h : Own w base e size v n xs) (hr : Row w b T l) (ht : T ≠ e) : v.ownBlock ≠ some b := by
  obtain ⟨hl, g, off, cap, cur, rfl, hb, hgg, h1⟩ := h
  intro e
  simp only [Value.ownBlock, Option.some.injEq] at e
  subst e
  unfold Row at hr
  rw [hr] at hgg; injection hgg with hgg; injection hgg with _ e'; exact ht e'
theorem Own.cut {g off cap : Nat} {c ys : List Value} (h : Own w base e size (.slice (some ⟨g, off, none⟩) n cap) n xs) (hx : xs = c ++ ys) (hc : c.length = size) (hn : 0 < n) (hs : 0 < size) :
    Own w base e size (.slice (if cap = 1 then some ⟨g, off, none⟩ else some ⟨g, off + size, none⟩) (n - 1) (cap - 1)) (n - 1) ys := by
  obtain ⟨hl, g', off', cap', cur, hv, hb, hgg, h1, h2, h3, h4⟩ := h
  injection hv with e1 e2 e3
  injection e1 with e1
  injection e1 with e1 e4
  subst e1; subst e4; subst e3
  subst hx
  have hm : n * size = (n - 1) * size + size := by
    rw [← Nat.succ_mul]; congr 1; omega
  have hm2 : cap * size = (cap - 1) * size + size := by
    rw [← Nat.succ_mul]; congr 1; omega
  have hyl : ys.length = (n - 1) * size := by rw [List.length_append] at hl; omega
  by_cases hcap : cap = 1
  · rw [if_pos hcap]
    refine ⟨hyl, g, off, cap - 1, cur, rfl, hb, hgg, by omega, by omega, by omega, fun j u hu => ?_⟩
    have h0 := (List.getElem?_eq_some_iff.1 hu).1
    have : n - 1 = 0 := by omega
    rw [hyl, this, Nat.zero_mul] at h0
    omega
  · rw [if_neg hcap]
    refine ⟨hyl, g, off + size, cap - 1, cur, rfl, hb, hgg, by omega, by omega, by omega, fun j u hu => ?_⟩
    have := h4 (size + j) u (by rw [← hc, List.getElem?_append_right (by omega)]; simpa using hu)
    rw [Nat.add_assoc]; exact this
end
section
variable {P : Program} (w : World)
theorem run_append (base : Nat) (t ty e : TypeId) (i : TypeInfo) (z : Value) (size bytes : Nat) (ht : P.underlying t = some (.slice e)) (hi : P.info? e = some i) (hz : i.zero = some z)
    (hsize : i.size = size) (hby : i.bytes = bytes) (hzs : z.cells.size = size) (hsz : 0 < size)
    (v : Value) (n : Nat) (xs : List Value) (hown : Own w base e size v n xs)
    (a : Addr) (m c : Nat) (news : List Value) (hl : news.length = m * size) (hnews : ∀ j u, news[j]? = some u → w.cell? (a.add j) = some u) (h1 : ∀ u ∈ news, u.oneCell' = true)
    (h63 : n + m ≤ maxLen) (hbytes : (n + m) * bytes ≤ 140737488355328) (hbase : base ≤ w.heap.size) :
    ∃ v' w', (Builtin.append_ #[t, t] ty #[v, .slice (some a) m c]).run P w = .ok v' w' ∧ Own w' base e size v' (n + m) (xs ++ news) ∧ w.grownBy w' v.ownBlock ∧
      (v'.ownBlock = v.ownBlock ∨ v'.ownBlock = some w.heap.size) := by
  subst hsize
  subst hby
  have hsmall : n + m ≤ 9223372036854775807 := by simp only [maxLen] at h63; omega
  have hlen : (xs ++ news).length = (n + m) * i.size := by rw [List.length_append, hown.1, hl, Nat.add_mul]
  obtain ⟨hxl, g, off, cap, cur, rfl, hbg, hg, hnc, hcm, hcs, hcur⟩ := hown
  by_cases hroom : n + m ≤ cap
  · have hmul : (n + m) * i.size ≤ cap * i.size := Nat.mul_le_mul_right _ hroom
    have hadd : (n + m) * i.size = n * i.size + m * i.size := Nat.add_mul _ _ _
    have hfit : off + n * i.size + 0 + news.length ≤ cur.size := by omega
    have hf := run_firstCells_some (P := P) w i.size m a m c news hl hnews
    have hst := run_storeCells_at P g (off + n * i.size) e news 0 cur w hg hfit h1
    simp only [Nat.add_zero] at hst
    refine ⟨.slice (some ⟨g, off, none⟩) (n + m) cap, w.setRow g (cur.toList.take (off + n * i.size) ++ news ++ cur.toList.drop (off + n * i.size + news.length)).toArray, ?_, ⟨hlen, g, off, cap, _, rfl, hbg, setRow_heap w g cur _ e _ hg, hroom, hcm, ?_, ?_⟩, ⟨rfl, rfl, rfl, by simp, fun k _ hk => setRow_other w g k _ (fun e => hk (by simp [Value.ownBlock, e]))⟩, .inl rfl⟩
    · simp [Builtin.append_, run_underlying ht, sizeOf, typeInfo, hi, Builtin.lenOf, hroom, hf, add_off, hst]
    · simp only [List.size_toArray, List.length_append, List.length_take, List.length_drop, Array.length_toList]
      omega
    · intro j u hu
      have hj := (List.getElem?_eq_some_iff.1 hu).1
      rw [hlen, hadd] at hj
      have hlt : (cur.toList.take (off + n * i.size)).length = off + n * i.size := by
        rw [List.length_take, Nat.min_eq_left]
        rw [Array.length_toList]; omega
      rw [List.getElem?_toArray, List.append_assoc]
      by_cases hjn : j < n * i.size
      · rw [List.getElem?_append_left (by omega)] at hu
        rw [List.getElem?_append_left (by rw [hlt]; omega), List.getElem?_take_of_lt (by omega), Array.getElem?_toList]
        exact hcur j u hu
      · rw [List.getElem?_append_right (by omega)] at hu
        rw [List.getElem?_append_right (by rw [hlt]; omega), hlt, List.getElem?_append_left (by omega), show off + j - (off + n * i.size) = j - xs.length by omega]
        exact hu
  · have holds : ∀ j u, xs[j]? = some u → w.cell? ((⟨g, off, none⟩ : Addr).add j) = some u := fun j u hu => by
      rw [add_off, cell_of_row w g (off + j) cur e (0, 0) hg]
      exact hcur j u hu
    have hr := run_append_grow (P := P) w t ty e i z ht hi hz ⟨g, off, none⟩ n cap xs hxl holds a m c news hl hnews (by omega) (by omega) (growslice_fits (by omega) hbytes)
    have hge := grownCap_ge w (n + m) cap e
    have hcm2 : grownCap w (n + m) cap e ≤ maxLen := grownCap_le_maxLen w (n + m) cap e h63
    refine ⟨_, _, hr, ⟨hlen, _, 0, _, _, rfl, hbase, heap_alloc_new w.drew _, hge, hcm2, ?_, ?_⟩, ⟨rfl, rfl, rfl, by simp, fun k hk _ => Below.heap_alloc w.drew _ k hk⟩, .inr rfl⟩
    · simp only [Array.size_append, List.size_toArray, size_zeroCells, hzs, hxl, hl, ← Nat.add_mul, Nat.zero_add]
      have : n + m + (grownCap w (n + m) cap e - (n + m)) = grownCap w (n + m) cap e := by omega
      rw [this]; exact Nat.le_refl _
    · intro j u hu
      rw [Nat.zero_add, ← Array.getElem?_toList]
      simp only [Array.toList_append]
      rw [List.getElem?_append_left (by simpa using (List.getElem?_eq_some_iff.1 hu).1)]
      exact hu
theorem append_own {α : Type} (κ : Kind α) {w : World} {ops : Array Oper} {rest : List Oper} {o : Oper} {a : Act} {Q : Exit → Act → World → Prop} (T TS : TypeId) {z : Value} {bytes : Nat}
    (hu : P.underlying TS = some (.slice T)) (hinfo : (P.info? T).map (fun i => (i.zero, i.size, i.bytes)) = some (some z, κ.K, bytes)) (hz : z.cells.size = κ.K) (hgd : o.guard = none) (s x : Operand)
    (ho : o.op = .call { callee := .builtin .append, args := #[s, x], argTypes := #[TS, TS] })
    (base : Nat) (v : Value) (n : Nat) (ts : List α) (hs : a.eval s = v) (hown : Own w base T κ.K v n (Rw.row κ ts))
    (ad : Addr) (c : Nat) (ys : List α) (hx : a.eval x = .slice (some ad) ys.length c) (hb : Rw.Ts κ w (some ad) ys) (hy : 0 < ys.length)
    (hle : n + ys.length ≤ maxLen) (hby : (n + ys.length) * bytes ≤ 140737488355328) (hbase : base ≤ w.heap.size)
    (h : ∀ v' w', Own w' base T κ.K v' (n + ys.length) (Rw.row κ (ts ++ ys)) → w.grownBy w' v.ownBlock → (v'.ownBlock = v.ownBlock ∨ v'.ownBlock = some w.heap.size) → wpList P ops Q rest (a.put o.dst v') w') : wpList P ops Q (o :: rest) a w := by
  obtain ⟨i, hi, hz0, hz1, hz2⟩ := info_parts hinfo
  obtain ⟨b, o', e, _, hc⟩ := hb hy
  cases e
  refine wpList_plain hgd fun K hK => ?_
  obtain ⟨v', w', hr, h2, h3, h4⟩ := run_append (P := P) w base TS o.type T i z κ.K bytes hu hi hz0 hz1 hz2 hz κ.pos v n (Rw.row κ ts) hown ⟨b, o', none⟩ ys.length c (Rw.row κ ys) (Rw.row_len ys) (fun j u hj => by rw [add_off]; exact hc j u hj) (Rw.row_one ys) hle hby hbase
  unfold Oper.wp execOp
  simp only [ho, resolve, invoke, builtin, Sem.run_bind, Sem.run_pure, Result.andThen_ok, List.map_toArray, List.map_cons, List.map_nil, hs, hx, hr]
  exact hK _ _ (h v' w' (by rw [Rw.row_append]; exact h2) h3 h4)
end
end Rc
end

section
structure Nd where
  k : Nat
  a : Nat
  b : Int
  d : Int
  ins : List Int
def Nd.May (n : Nd) : Prop := (0 ≤ n.d ∧ n.d ≤ 3) ∧ n.ins.length ≤ 2 ∧ ∀ x ∈ n.ins, 0 ≤ x ∧ x ≤ 31
def GMay (g : List Nd) : Prop := (1 ≤ g.length ∧ g.length ≤ 32) ∧ ∀ n ∈ g, n.May
def be8 (x : Nat) : List Nat := [x / 72057594037927936 % 256, x / 281474976710656 % 256, x / 1099511627776 % 256, x / 4294967296 % 256, x / 16777216 % 256, x / 65536 % 256, x / 256 % 256, x % 256]
def uns (b : Int) : Nat := (b % 18446744073709551616).toNat
def Nd.put (n : Nd) : List Nat := n.k :: n.a :: (be8 (uns n.b) ++ (n.d.toNat :: n.ins.length :: n.ins.map Int.toNat))
def putNs (g : List Nd) : List Nat := (g.map Nd.put).flatten
def putG (g : List Nd) : List Nat := g.length :: putNs g
section
variable {n m : Nd} {g h : List Nd} {b r s : List Nat} {x : Nat} {v : Int}
end
end

section
open Go.ChangeShapes Go.WideShapes Go.ChangeAt Go.RowKit Go.BigFrame
set_option maxRecDepth 100000
structure Gn where
  nd : Nd
  A : Option Addr
  c : Nat
def kindI : Kind Int := ⟨fun x => [.int .i64 x], 1, fun _ => rfl, fun t u hu => by simp only [List.mem_singleton] at hu; subst hu; rfl, by decide⟩
def kindG : Kind Gn := ⟨fun x => [.int .u8 (x.nd.k : Nat), .int .u8 (x.nd.a : Nat), .int .i64 x.nd.b, .int .i64 x.nd.d, .slice x.A x.nd.ins.length x.c], 5, fun _ => rfl, fun t u hu => by
  simp only [List.mem_cons, List.not_mem_nil, or_false] at hu
  rcases hu with rfl | rfl | rfl | rfl | rfl <;> rfl, by decide⟩
structure Gn.Ok (x : Gn) : Prop where
  k : x.nd.k < 256
  a : x.nd.a < 256
  b : -9223372036854775808 ≤ x.nd.b ∧ x.nd.b ≤ 9223372036854775807
  d : -9223372036854775808 ≤ x.nd.d ∧ x.nd.d ≤ 9223372036854775807
  ins : ∀ z ∈ x.nd.ins, -9223372036854775808 ≤ z ∧ z ≤ 9223372036854775807
  c : x.nd.ins.length ≤ x.c ∧ x.c ≤ maxLen
  none : x.A = Option.none → x.c = 0
def nds (g : List Gn) : List Nd := g.map Gn.nd
def Gr (w : World) (A : Option Addr) (g : List Gn) : Prop := Rw.Ts kindG w A g ∧ ∀ x ∈ g, x.Ok ∧ Rw.Ts kindI w x.A x.nd.ins
section
variable {w w' : World} {A : Option Addr} {g : List Gn}
theorem Gr.below (h : Gr w A g) (hb : Below w.heap.size w w') : Gr w' A g := ⟨h.1.below hb, fun x hx => ⟨(h.2 x hx).1, (h.2 x hx).2.below hb⟩⟩
theorem Gr.nil : Gr w A [] := ⟨Rw.Ts.nil, fun x hx => by cases hx⟩
theorem Gr.ok (h : Gr w A g) {i : Nat} {x : Gn} (hi : g[i]? = some x) : x.Ok := (h.2 x (List.mem_of_getElem? hi)).1
theorem Gr.take (h : Gr w A g) (k : Nat) : Gr w A (g.take k) := ⟨h.1.take k, fun x hx => h.2 x (List.mem_of_mem_take hx)⟩
theorem Gr.at_ (h : Gr w A g) {i : Nat} {x : Gn} (hi : g[i]? = some x) : ∃ b o, A = some ⟨b, o, none⟩ ∧ b < w.heap.size ∧ ∀ w', Below w.heap.size w w' →
    w'.cell? ⟨b, o + i * 5, none⟩ = some (.int .u8 (x.nd.k : Nat)) ∧ w'.cell? ⟨b, o + i * 5 + 1, none⟩ = some (.int .u8 (x.nd.a : Nat)) ∧ w'.cell? ⟨b, o + i * 5 + 2, none⟩ = some (.int .i64 x.nd.b) ∧ w'.cell? ⟨b, o + i * 5 + 3, none⟩ = some (.int .i64 x.nd.d) ∧ w'.cell? ⟨b, o + i * 5 + 4, none⟩ = some (.slice x.A x.nd.ins.length x.c) := by
  obtain ⟨b, o, e, hlt, hc⟩ := h.1.at_ hi
  exact ⟨b, o, e, hlt, fun w' hb => ⟨hc w' hb 0 _ rfl, hc w' hb 1 _ rfl, hc w' hb 2 _ rfl, hc w' hb 3 _ rfl, hc w' hb 4 _ rfl⟩⟩
theorem Gr.ins (h : Gr w A g) {i : Nat} {x : Gn} (hi : g[i]? = some x) : Rw.Ts kindI w x.A x.nd.ins := (h.2 x (List.mem_of_getElem? hi)).2
end
theorem ints_at {w : World} {A : Option Addr} {l : List Int} (h : Rw.Ts kindI w A l) {i : Nat} {z : Int} (hi : l[i]? = some z) : ∃ b o, A = some ⟨b, o, none⟩ ∧ b < w.heap.size ∧ ∀ w', Below w.heap.size w w' → w'.cell? ⟨b, o + i, none⟩ = some (.int .i64 z) := by
  obtain ⟨b, o, e, hlt, hc⟩ := h.at_ hi
  refine ⟨b, o, e, hlt, fun w' hb => ?_⟩
  have := hc w' hb 0 _ rfl
  simp only [kindI, Nat.mul_one, Nat.add_zero] at this
  exact this
theorem run_load_gn (w : World) (b o : Nat) (x : Gn) (h : ∀ (j : Nat) (v : Value), (kindG.cells x)[j]? = some v → w.cell? ⟨b, o + j, none⟩ = some v) :
    (Instr.loadAt 35 (.pointer (some ⟨b, o, none⟩))).run Tryz.prog w = .ok (.agg #[.int .u8 (x.nd.k : Nat), .int .u8 (x.nd.a : Nat), .int .i64 x.nd.b, .int .i64 x.nd.d, .slice x.A x.nd.ins.length x.c]) w :=
  run_loadAt_part b o 35 _ (kindG.cells x) (fun j v hj => by rw [add_at]; exact h j v hj) Tryz.underlying35 rfl (by kernel_rfl)
theorem Gr.load {w : World} {A : Option Addr} {g : List Gn} (h : Gr w A g) {i : Nat} {x : Gn} (hi : g[i]? = some x) : ∃ b o, A = some ⟨b, o, none⟩ ∧ b < w.heap.size ∧
    ∀ w', Below w.heap.size w w' → (Instr.loadAt 35 (.pointer (some ⟨b, o + i * 5, none⟩))).run Tryz.prog w' = .ok (.agg #[.int .u8 (x.nd.k : Nat), .int .u8 (x.nd.a : Nat), .int .i64 x.nd.b, .int .i64 x.nd.d, .slice x.A x.nd.ins.length x.c]) w' := by
  obtain ⟨b, o, e, hlt, hc⟩ := h.1.at_ hi
  exact ⟨b, o, e, hlt, fun w' hb => run_load_gn _ _ _ _ fun j v hj => hc w' hb j v hj⟩
theorem infoNode : (Tryz.prog.info? 35).map (fun i => (i.zero, i.size, i.bytes)) = some (some (.agg #[.int .u8 0, .int .u8 0, .int .i64 0, .int .i64 0, .slice none 0 0]), 5, 48) := by kernel_rfl
theorem infoInt : (Tryz.prog.info? 3).map (fun i => (i.zero, i.size, i.bytes)) = some (some (.int .i64 0), 1, 8) := by kernel_rfl
end
end Go.Proofs.YtmhophmpbpbjaaaGreatDoor
