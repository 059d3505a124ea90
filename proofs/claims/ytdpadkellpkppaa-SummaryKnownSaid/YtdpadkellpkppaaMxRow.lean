/- Rows of summaries: appended to, read; IndexFunc and ContainsFunc over them. -/
import Derived.Test.YtdpadkellpkppaaSmD
import Derived.Test.YtdpadkellpkppaaStFrame
import Derived.Laws.AppendOwnNone
import Derived.OwnWalk
import Derived.Shelf.Abstract
namespace Go.Proofs.Ytdpadkellpkppaa
namespace Mx
open Go.ChangeShapes Go.WideShapes Go.ChangeAt Go.RowKit Go.BigFrame Go.Shelf
set_option linter.unusedVariables false
set_option maxRecDepth 100000
/-- block g holds the summary s -/
abbrev Holds (w : World) (g : Nat) (s : Sm) : Prop := HoldsM w g 24 s
theorem Holds.made (w : World) (s : Sm) : Holds (w.alloc (.cells #[.int .i64 s.fr, .int .i64 s.to, .int .i64 s.kp, .int .i64 s.ad, .int .i64 s.t0, .int .i64 s.t1, .int .i64 s.t2] 24)) w.heap.size s := HoldsM.made w _ s
theorem Holds.cells5 {W : World} {g : Nat} {s : Sm} (h : Holds W g s) : W.cell? ⟨g, 0, none⟩ = some (.int .i64 s.fr) ∧ W.cell? ⟨g, 1, none⟩ = some (.int .i64 s.to) ∧ W.cell? ⟨g, 2, none⟩ = some (.int .i64 s.kp) ∧ W.cell? ⟨g, 3, none⟩ = some (.int .i64 s.ad) ∧ W.cell? ⟨g, 4, none⟩ = some (.int .i64 s.t0) ∧ W.cell? ⟨g, 5, none⟩ = some (.int .i64 s.t1) ∧ W.cell? ⟨g, 6, none⟩ = some (.int .i64 s.t2) := HoldsM.cells7 h
theorem infoSum : (Try.prog.info? 24).map (fun i => (i.zero, i.size, i.bytes)) = some (some (.agg #[.int .i64 0, .int .i64 0, .int .i64 0, .int .i64 0, .int .i64 0, .int .i64 0, .int .i64 0]), 7, 56) := by kernel_rfl
def rowS (ts : List Sm) : List Value := (ts.map Sm.cells).flatten
theorem rowS_cons (t : Sm) (ts : List Sm) : rowS (t :: ts) = .int .i64 t.fr :: .int .i64 t.to :: .int .i64 t.kp :: .int .i64 t.ad :: .int .i64 t.t0 :: .int .i64 t.t1 :: .int .i64 t.t2 :: rowS ts := by simp [rowS, Sm.cells]
theorem rowS_append (ts us : List Sm) : rowS (ts ++ us) = rowS ts ++ rowS us := by simp [rowS]
theorem rowS_len (ts : List Sm) : (rowS ts).length = ts.length * 7 := by
  induction ts with
  | nil => rfl
  | cons t ts ih => rw [rowS_cons]; simp only [List.length_cons, ih]; omega
theorem rowS_at : ∀ (ts : List Sm) (i : Nat) (t : Sm), ts[i]? = some t → ∀ (j : Nat) (u : Value), t.cells[j]? = some u → (rowS ts)[i * 7 + j]? = some u
  | x :: ts, 0, t, h, j, u, hu => by
    obtain rfl : x = t := by simpa using h
    rw [rowS_cons, Nat.zero_mul, Nat.zero_add]
    match j, hu with
    | 0, hu => exact hu
    | 1, hu => exact hu
    | 2, hu => exact hu
    | 3, hu => exact hu
    | 4, hu => exact hu
    | 5, hu => exact hu
    | 6, hu => exact hu
    | j + 7, hu => simp [Sm.cells] at hu
  | x :: ts, i + 1, t, h, j, u, hu => by
    have := rowS_at ts i t (by simpa using h) j u hu
    rw [rowS_cons, show (i + 1) * 7 + j = i * 7 + j + 1 + 1 + 1 + 1 + 1 + 1 + 1 by omega]
    simp only [List.getElem?_cons_succ]
    exact this
theorem rowS_one (ts : List Sm) : ∀ u ∈ rowS ts, u.oneCell' = true := by
  intro u hu
  simp only [rowS, List.mem_flatten, List.mem_map] at hu
  obtain ⟨l, ⟨t, _, rfl⟩, hu⟩ := hu
  simp only [Sm.cells, List.mem_cons, List.not_mem_nil, or_false] at hu
  rcases hu with rfl | rfl | rfl | rfl | rfl | rfl | rfl <;> rfl
/-- the slice at A holds the times ts -/
def Times (w : World) (A : Option Addr) (ts : List Sm) : Prop :=
  0 < ts.length → ∃ b, A = some ⟨b, 0, none⟩ ∧ b < w.heap.size ∧ ∀ (j : Nat) (u : Value), (rowS ts)[j]? = some u → w.cell? ⟨b, j, none⟩ = some u
theorem Times.below {w w' : World} {A : Option Addr} {ts : List Sm} (h : Times w A ts) (hb : Below w.heap.size w w') : Times w' A ts := fun hn => by
  obtain ⟨b, e, hlt, hc⟩ := h hn
  exact ⟨b, e, Nat.lt_of_lt_of_le hlt hb.size, fun j u hu => (hb.cell (p := ⟨b, j, none⟩) hlt).trans (hc j u hu)⟩
theorem Times.made (w : World) (ts : List Sm) : Times (w.alloc (.cells (rowS ts).toArray 24)) (some ⟨w.heap.size, 0, none⟩) ts := fun _ => by
  have h : Row (w.alloc (.cells (rowS ts).toArray 24)) w.heap.size 24 (rowS ts) := Row.made w _ _
  exact ⟨_, rfl, h.lt, fun j u hu => (h.cell j).trans hu⟩
/-- a row of the call's own, as times -/
theorem Times.of_own {w : World} {base : Nat} {v : Value} {n : Nat} {ts : List Sm} (h : w.ownsRow base 24 7 v n (rowS ts)) :
    ∃ A c, v = .slice A ts.length c ∧ Times w A ts ∧ ts.length ≤ c ∧ c ≤ maxLen := by
  have hl : ts.length = n := by have := h.1; rw [rowS_len] at this; omega
  obtain ⟨_, ⟨rfl, h0⟩ | ⟨g, cap, cur, rfl, _, hh, h1, h2, _, ht⟩⟩ := id h
  · exact ⟨none, 0, by rw [hl, h0], fun hn => by omega, by omega, by simp⟩
  · refine ⟨some ⟨g, 0, none⟩, cap, by rw [hl], fun _ => ⟨g, rfl, ?_, fun j u hj => ?_⟩, by omega, h2⟩
    · by_cases hg : g < w.heap.size
      · exact hg
      · rw [Array.getElem?_eq_none (by omega)] at hh; cases hh
    · have := h.cells (g := g) rfl j u hj
      rwa [add_zero_off] at this
theorem own_apart {w : World} {base : Nat} {v : Value} {n b : Nat} {xs l : List Value} {t : TypeId} (h : w.ownsRow base 24 7 v n xs) (hr : Row w b t l) (ht : t ≠ 24) : some b ≠ v.ownBlock := by
  obtain ⟨_, ⟨rfl, _⟩ | ⟨g, cap, cur, rfl, _, hh, _⟩⟩ := h
  · intro e; cases e
  · intro e
    injection e with e
    subst e
    unfold Row at hr
    rw [hr] at hh; injection hh with hh; injection hh with _ ht'; exact ht ht'
theorem own_belowS {w0 w w' : World} {base n : Nat} {v : Value} {xs : List Value} (h : w.ownsRow base 24 7 v n xs) (hg : w.grownBy w' v.ownBlock) (hb : Below base w0 w) (hB : base ≤ w.heap.size) : Below base w0 w' :=
  hb.grown hg hB (fun k e => (h.lt k e).1)
theorem wpList_append_times {w : World} {ops : Array Oper} {rest : List Oper} {o : Oper} {a : Act} {Q : Exit → Act → World → Prop} (hgd : o.guard = none) (s x : Operand)
    (ho : o.op = .call { callee := .builtin .append, args := #[s, x], argTypes := #[44, 44] })
    (base : Nat) (v : Value) (n : Nat) (ts : List Sm) (hs : a.eval s = v) (hown : w.ownsRow base 24 7 v n (rowS ts))
    (ad : Addr) (c : Nat) (ys : List Sm) (hx : a.eval x = .slice (some ad) ys.length c) (hy : 0 < ys.length) (hb : Times w (some ad) ys)
    (hle : n + ys.length ≤ 1000) (hbase : base ≤ w.heap.size)
    (h : ∀ v' w', w'.ownsRow base 24 7 v' (n + ys.length) (rowS (ts ++ ys)) → w.grownBy w' v.ownBlock → wpList Try.prog ops Q rest (a.put o.dst v') w') : wpList Try.prog ops Q (o :: rest) a w := by
  obtain ⟨i, hi, hz0, hz1, hz2⟩ := info_parts infoSum
  obtain ⟨b, e, _, hcell⟩ := hb hy
  cases e
  refine wpList_append_own w hgd s x 44 ho base 24 i _ 7 56 Try.underlying44 hi hz0 hz1 hz2 rfl (by omega) v n (rowS ts) hs hown ⟨b, 0, none⟩ ys.length c (rowS ys) hx (rowS_len ys) ?_ (rowS_one ys) (by unfold maxLen; omega) (by omega) hbase ?_
  · intro j u hj
    rw [add_zero_off]; exact hcell j u hj
  · intro v' w' h1 h2 _
    exact h v' w' (by rw [rowS_append]; exact h1) h2

/-- the slice at A holds the times ts -/
def Ts (w : World) (A : Option Addr) (ts : List Sm) : Prop :=
  0 < ts.length → ∃ b o, A = some ⟨b, o, none⟩ ∧ b < w.heap.size ∧ ∀ (j : Nat) (u : Value), (rowS ts)[j]? = some u → w.cell? ⟨b, o + j, none⟩ = some u
section
variable {w w' : World} {A : Option Addr} {ts : List Sm}
theorem Ts.below (h : Ts w A ts) (hb : Below w.heap.size w w') : Ts w' A ts := fun hn => by
  obtain ⟨b, o, e, hlt, hc⟩ := h hn
  exact ⟨b, o, e, Nat.lt_of_lt_of_le hlt hb.size, fun j u hu => (hb.cell (p := ⟨b, o + j, none⟩) hlt).trans (hc j u hu)⟩
theorem Ts.nil : Ts w A [] := fun h => absurd h (by simp)
theorem Ts.of (h : Times w A ts) : Ts w A ts := fun hn => by
  obtain ⟨b, e, hlt, hc⟩ := h hn
  exact ⟨b, 0, e, hlt, fun j u hu => by rw [Nat.zero_add]; exact hc j u hu⟩
theorem rowS_take (ts : List Sm) (k : Nat) : rowS (ts.take k) = (rowS ts).take (k * 7) := by
  induction ts generalizing k with
  | nil => simp [rowS]
  | cons t ts ih =>
    cases k with
    | zero => simp [rowS]
    | succ k => rw [List.take_succ_cons, rowS_cons, rowS_cons, ih, show (k + 1) * 7 = k * 7 + 1 + 1 + 1 + 1 + 1 + 1 + 1 by omega]; simp only [List.take_succ_cons]
theorem rowS_drop (ts : List Sm) (k : Nat) : rowS (ts.drop k) = (rowS ts).drop (k * 7) := by
  induction ts generalizing k with
  | nil => simp [rowS]
  | cons t ts ih =>
    cases k with
    | zero => simp
    | succ k => rw [List.drop_succ_cons, ih, rowS_cons, show (k + 1) * 7 = k * 7 + 1 + 1 + 1 + 1 + 1 + 1 + 1 by omega]; simp only [List.drop_succ_cons]
theorem Ts.take (h : Ts w A ts) (k : Nat) : Ts w A (ts.take k) := fun hn => by
  obtain ⟨b, o, e, hlt, hc⟩ := h (by rw [List.length_take] at hn; omega)
  refine ⟨b, o, e, hlt, fun j u hu => hc j u ?_⟩
  rw [rowS_take, List.getElem?_take] at hu
  split at hu
  · exact hu
  · cases hu
theorem Ts.drop {b o : Nat} (h : Ts w (some ⟨b, o, none⟩) ts) (k : Nat) : Ts w (some ⟨b, o + k * 7, none⟩) (ts.drop k) := fun hn => by
  obtain ⟨b', o', e, hlt, hc⟩ := h (by rw [List.length_drop] at hn; omega)
  cases e
  refine ⟨b, o + k * 7, rfl, hlt, fun j u hu => ?_⟩
  rw [rowS_drop, List.getElem?_drop] at hu
  rw [Nat.add_assoc]; exact hc _ u hu
theorem run_load_st (w : World) (b o : Nat) (t : Sm) (h : ∀ j v, t.cells[j]? = some v → w.cell? ⟨b, o + j, none⟩ = some v) :
    (Instr.loadAt 24 (.pointer (some ⟨b, o, none⟩))).run Try.prog w = .ok (.agg #[.int .i64 t.fr, .int .i64 t.to, .int .i64 t.kp, .int .i64 t.ad, .int .i64 t.t0, .int .i64 t.t1, .int .i64 t.t2]) w :=
  run_loadAt_part b o 24 _ t.cells (fun j v hj => by rw [add_at]; exact h j v hj) Try.underlying24 rfl (by kernel_rfl)
theorem Ts.load (h : Ts w A ts) {i : Nat} {t : Sm} (hi : ts[i]? = some t) : ∃ b o, A = some ⟨b, o, none⟩ ∧ b < w.heap.size ∧
    ∀ w', Below w.heap.size w w' → (Instr.loadAt 24 (.pointer (some ⟨b, o + i * 7, none⟩))).run Try.prog w' = .ok (.agg #[.int .i64 t.fr, .int .i64 t.to, .int .i64 t.kp, .int .i64 t.ad, .int .i64 t.t0, .int .i64 t.t1, .int .i64 t.t2]) w' := by
  obtain ⟨hl, _⟩ := List.getElem?_eq_some_iff.1 hi
  obtain ⟨b, o, e, hlt, hc⟩ := h (by omega)
  refine ⟨b, o, e, hlt, fun w' hb => run_load_st _ _ _ _ fun j v hj => ?_⟩
  rw [hb.cell (p := ⟨b, o + i * 7 + j, none⟩) hlt, Nat.add_assoc]
  exact hc _ v (rowS_at ts i t hi j v hj)
theorem Ts.five (h : Ts w A ts) {i : Nat} {t : Sm} (hi : ts[i]? = some t) : ∃ b o, A = some ⟨b, o, none⟩ ∧ b < w.heap.size ∧
    ∀ w', Below w.heap.size w w' → w'.cell? ⟨b, o + i * 7, none⟩ = some (.int .i64 t.fr) ∧ w'.cell? ⟨b, o + i * 7 + 1, none⟩ = some (.int .i64 t.to) ∧ w'.cell? ⟨b, o + i * 7 + 2, none⟩ = some (.int .i64 t.kp) ∧ w'.cell? ⟨b, o + i * 7 + 3, none⟩ = some (.int .i64 t.ad) ∧ w'.cell? ⟨b, o + i * 7 + 4, none⟩ = some (.int .i64 t.t0) ∧ w'.cell? ⟨b, o + i * 7 + 5, none⟩ = some (.int .i64 t.t1) ∧ w'.cell? ⟨b, o + i * 7 + 6, none⟩ = some (.int .i64 t.t2) := by
  obtain ⟨hl, _⟩ := List.getElem?_eq_some_iff.1 hi
  obtain ⟨b, o, e, hlt, hc⟩ := h (by omega)
  refine ⟨b, o, e, hlt, fun w' hb => ?_⟩
  have key : ∀ j v, t.cells[j]? = some v → w'.cell? ⟨b, o + i * 7 + j, none⟩ = some v := fun j v hj => by
    rw [hb.cell (p := ⟨b, o + i * 7 + j, none⟩) hlt, Nat.add_assoc]
    exact hc _ v (rowS_at ts i t hi j v hj)
  exact ⟨key 0 _ rfl, key 1 _ rfl, key 2 _ rfl, key 3 _ rfl, key 4 _ rfl, key 5 _ rfl, key 6 _ rfl⟩
/-- a part of a time -/
theorem Ts.load1 (h : Ts w A ts) {i : Nat} {t : Sm} (hi : ts[i]? = some t) {j : Nat} {v : Int} (hj : t.cells[j]? = some (.int .i64 v)) : ∃ b o, A = some ⟨b, o, none⟩ ∧ b < w.heap.size ∧
    ∀ w', Below w.heap.size w w' → w'.cell? ⟨b, o + i * 7 + j, none⟩ = some (.int .i64 v) := by
  obtain ⟨hl, _⟩ := List.getElem?_eq_some_iff.1 hi
  obtain ⟨b, o, e, hlt, hc⟩ := h (by omega)
  refine ⟨b, o, e, hlt, fun w' hb => ?_⟩
  rw [hb.cell (p := ⟨b, o + i * 7 + j, none⟩) hlt, Nat.add_assoc]
  exact hc _ _ (rowS_at ts i t hi j _ hj)
end
/-- what is asked of a closure: it tells p, and nothing turns -/
def Tells (g : Nat) (lb : Array Value) (p : Sm → Bool) (w : World) : Prop :=
  ∀ (W : World) (x : Sm), Below w.heap.size w W → Calls Try.prog g (#[x.v] ++ lb) W fun e w' => e = .returned (.bool (p x)) ∧ Below W.heap.size W w'
theorem any_false {p : Sm → Bool} {ts : List Sm} : ts.any p = false ↔ ∀ (j : Nat) (t : Sm), ts[j]? = some t → p t = false := by
  rw [List.any_eq_false]
  constructor
  · intro h j t ht
    have := h t (List.mem_of_getElem? ht)
    simpa using this
  · intro h t ht
    obtain ⟨j, hj⟩ := List.getElem?_of_mem ht
    rw [h j t hj]; simp
theorem indexFunc_any (A : Option Addr) (ts : List Sm) (c g : Nat) (lb : Array Value) (p : Sm → Bool) (w : World) (hT : Ts w A ts) (hn : ts.length ≤ 1000)
    (eg : ∀ args w, (callFunc g args).run Try.prog w = .ok (.enter g args) w) (hp : 0 < ts.length → Tells g lb p w) :
    Calls Try.prog 50 #[.slice A ts.length c, .func (.func g) #[] lb] w fun e w' => (∃ i : Int, e = .returned (.int .i64 i) ∧ decide (0 ≤ i) = ts.any p) ∧ Below w.heap.size w w' := by
  have HT := Lib.hid hT; have HP := Lib.hid hp; clear hT hp
  go_enter Try.func50, Try.ntmps50
  go_wp2_with fail
  go_loopw [5, 8] (fun _ i wr => ∃ k : Nat, k ≤ ts.length ∧ i = .int .i64 k ∧ Below w.heap.size w wr ∧ ∀ (j : Nat) (t : Sm), j < k → ts[j]? = some t → p t = false) (fun _ i _ => ts.length - (intOf i).toNat)
  case atStart => exact ⟨0, by omega, rfl, Below.refl _ _, fun j t h => absurd h (by omega)⟩
  case round =>
    obtain ⟨k, hk, rfl, hb, hno⟩ := hrel
    have HB := Lib.hid hb; have HNO := Lib.hid hno; clear hb hno
    by_cases hlt : k < ts.length
    · have hltz : (k : Int) < (ts.length : Int) := by omega
      obtain ⟨t, ht⟩ : ∃ t, ts[k]? = some t := ⟨_, List.getElem?_eq_getElem hlt⟩
      obtain ⟨b, o, rfl, hbl, hld⟩ := HT.out.five ht
      obtain ⟨c0, c1, c2, c3, c4, c5, c6⟩ := hld _ HB.out
      have hcall := HP.out (by omega) wr t HB.out
      have HTT := Lib.hid ht; clear ht
      cases hq : p t with
      | true =>
        rw [hq] at hcall
        have HQ := Lib.hid hq; clear hq
        go_wp2_with fail
        refine hcall.mono ?_; rintro e w1 ⟨rfl, hb1⟩
        have HB1 := Lib.hid (HB.out.trans (hb1.mono HB.out.size)); clear hb1 hld hcall c0 c1 c2 c3 c4 c5 c6
        go_wp2_with fail
        go_ret
        refine ⟨⟨k, rfl, ?_⟩, HB1.out⟩
        rw [decide_eq_true (by omega), eq_comm, List.any_eq_true]
        exact ⟨t, List.mem_of_getElem? HTT.out, HQ.out⟩
      | false =>
        rw [hq] at hcall
        have HQ := Lib.hid hq; clear hq
        go_wp2_with fail
        refine hcall.mono ?_; rintro e w1 ⟨rfl, hb1⟩
        have HB1 := Lib.hid (HB.out.trans (hb1.mono HB.out.size)); clear hb1 hld hcall c0 c1 c2 c3 c4 c5 c6
        go_wp2_with fail
        go_roundw
        case rel =>
          refine ⟨k + 1, by omega, by simp, HB1.out, fun j t' hj ht' => ?_⟩
          by_cases e : j = k
          · subst e
            rw [HTT.out] at ht'; cases ht'
            exact HQ.out
          · exact HNO.out j t' (by omega) ht'
        case measure => simp [intOf]; omega
    · have hltz : ¬ (k : Int) < (ts.length : Int) := by omega
      go_wp2_with fail
      go_ret
      refine ⟨⟨-1, rfl, ?_⟩, HB.out⟩
      rw [decide_eq_false (by omega), eq_comm, any_false]
      exact fun j t ht => HNO.out j t (by have := (List.getElem?_eq_some_iff.1 ht).1; omega) ht
theorem containsFunc_any (A : Option Addr) (ts : List Sm) (c g : Nat) (lb : Array Value) (p : Sm → Bool) (w : World) (hT : Ts w A ts) (hn : ts.length ≤ 1000)
    (eg : ∀ args w, (callFunc g args).run Try.prog w = .ok (.enter g args) w) (hp : 0 < ts.length → Tells g lb p w) :
    Calls Try.prog 39 #[.slice A ts.length c, .func (.func g) #[] lb] w fun e w' => e = .returned (.bool (ts.any p)) ∧ Below w.heap.size w w' := by
  have H := Lib.hid (indexFunc_any A ts c g lb p w hT hn eg hp); clear hT hp eg
  go_enter Try.func39, Try.ntmps39
  go_wp2_with fail
  refine (H.out).mono ?_; rintro e w1 ⟨⟨i, rfl, hi⟩, hb⟩
  have HB := Lib.hid hb; clear hb
  have HI := Lib.hid hi; clear hi
  go_wp2_with fail
  go_ret
  exact ⟨ret_bool HI.out, HB.out⟩
end Mx
end Go.Proofs.Ytdpadkellpkppaa
