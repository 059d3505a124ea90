/- Rows of values of any kind that lie in K cells each: read, cut, appended to. -/
import Derived.Test.YtcdofkhkckodjaaMem
import Derived.Test.YtcdofkhkckodjaaParts
import Derived.Laws.AppendOwnNone
import Derived.OwnWalk
namespace Go.Proofs.Ytcdofkhkckodjaa
open Go.RowKit
set_option linter.unusedVariables false
/-- how a kind of values lies in memory -/
structure Kind (α : Type) where
  cells : α → List Value
  K : Nat
  len : ∀ t, (cells t).length = K
  one : ∀ t, ∀ u ∈ cells t, u.oneCell' = true
  pos : 0 < K
namespace Rw
theorem grown_below {w w' : World} (h : Below w.heap.size w w') (row : Option Nat) : w.grownBy w' row := ⟨h.os, h.tape, h.output, h.size, fun k hk _ => h.block k hk⟩
section
variable {α : Type} {κ : Kind α}
def row (κ : Kind α) (ts : List α) : List Value := (ts.map κ.cells).flatten
theorem row_nil : row κ [] = [] := rfl
theorem row_cons (t : α) (ts : List α) : row κ (t :: ts) = κ.cells t ++ row κ ts := by simp [row]
theorem row_append (ts us : List α) : row κ (ts ++ us) = row κ ts ++ row κ us := by simp [row]
theorem row_len (ts : List α) : (row κ ts).length = ts.length * κ.K := by
  induction ts with
  | nil => simp [row]
  | cons t ts ih => rw [row_cons, List.length_append, ih, κ.len, List.length_cons, Nat.succ_mul]; omega
theorem row_at : ∀ (ts : List α) (i : Nat) (t : α), ts[i]? = some t → ∀ (j : Nat) (u : Value), (κ.cells t)[j]? = some u → (row κ ts)[i * κ.K + j]? = some u
  | x :: ts, 0, t, h, j, u, hu => by
    obtain rfl : x = t := by simpa using h
    have hj := (List.getElem?_eq_some_iff.1 hu).1
    rw [row_cons, Nat.zero_mul, Nat.zero_add, List.getElem?_append_left hj]; exact hu
  | x :: ts, i + 1, t, h, j, u, hu => by
    have := row_at ts i t (by simpa using h) j u hu
    rw [row_cons, List.getElem?_append_right (by rw [κ.len, Nat.succ_mul]; omega), κ.len, Nat.succ_mul, show i * κ.K + κ.K + j - κ.K = i * κ.K + j by omega]
    exact this
theorem row_one (ts : List α) : ∀ u ∈ row κ ts, u.oneCell' = true := by
  intro u hu
  simp only [row, List.mem_flatten, List.mem_map] at hu
  obtain ⟨l, ⟨t, _, rfl⟩, hu⟩ := hu
  exact κ.one t u hu
theorem row_take (ts : List α) (k : Nat) : row κ (ts.take k) = (row κ ts).take (k * κ.K) := by
  induction ts generalizing k with
  | nil => simp [row]
  | cons t ts ih =>
    cases k with
    | zero => simp [row]
    | succ k => rw [List.take_succ_cons, row_cons, row_cons, ih, List.take_append, κ.len, List.take_of_length_le (l := κ.cells t) (by rw [κ.len, Nat.succ_mul]; omega), Nat.succ_mul, show k * κ.K + κ.K - κ.K = k * κ.K by omega]
theorem row_drop (ts : List α) (k : Nat) : row κ (ts.drop k) = (row κ ts).drop (k * κ.K) := by
  induction ts generalizing k with
  | nil => simp [row]
  | cons t ts ih =>
    cases k with
    | zero => simp
    | succ k => rw [List.drop_succ_cons, row_cons, ih, List.drop_append, κ.len, List.drop_of_length_le (l := κ.cells t) (by rw [κ.len, Nat.succ_mul]; omega), Nat.succ_mul, show k * κ.K + κ.K - κ.K = k * κ.K by omega]; simp
/-- the slice at A holds ts -/
def Ts (κ : Kind α) (w : World) (A : Option Addr) (ts : List α) : Prop :=
  0 < ts.length → ∃ b o, A = some ⟨b, o, none⟩ ∧ b < w.heap.size ∧ ∀ (j : Nat) (u : Value), (row κ ts)[j]? = some u → w.cell? ⟨b, o + j, none⟩ = some u
end
section
variable {α : Type} {κ : Kind α} {w w' : World} {A : Option Addr} {ts : List α}
theorem Ts.below (h : Ts κ w A ts) (hb : Below w.heap.size w w') : Ts κ w' A ts := fun hn => by
  obtain ⟨b, o, e, hlt, hc⟩ := h hn
  exact ⟨b, o, e, Nat.lt_of_lt_of_le hlt hb.size, fun j u hu => (hb.cell (p := ⟨b, o + j, none⟩) hlt).trans (hc j u hu)⟩
theorem Ts.nil : Ts κ w A [] := fun h => absurd h (by simp)
theorem Ts.made (w : World) (ts : List α) (t : TypeId) : Ts κ (w.alloc (.cells (row κ ts).toArray t)) (some ⟨w.heap.size, 0, none⟩) ts := fun _ => by
  have h : Row (w.alloc (.cells (row κ ts).toArray t)) w.heap.size t (row κ ts) := Row.made w _ _
  exact ⟨_, 0, rfl, h.lt, fun j u hu => by rw [Nat.zero_add]; exact (h.cell j).trans hu⟩
theorem Ts.of_row {g : Nat} {t : TypeId} (h : Row w g t (row κ ts)) : Ts κ w (some ⟨g, 0, none⟩) ts := fun _ =>
  ⟨_, 0, rfl, h.lt, fun j u hu => by rw [Nat.zero_add]; exact (h.cell j).trans hu⟩
theorem Ts.take (h : Ts κ w A ts) (k : Nat) : Ts κ w A (ts.take k) := fun hn => by
  obtain ⟨b, o, e, hlt, hc⟩ := h (by rw [List.length_take] at hn; omega)
  refine ⟨b, o, e, hlt, fun j u hu => hc j u ?_⟩
  rw [row_take, List.getElem?_take] at hu
  split at hu
  · exact hu
  · cases hu
theorem Ts.drop {b o : Nat} (h : Ts κ w (some ⟨b, o, none⟩) ts) (k : Nat) : Ts κ w (some ⟨b, o + k * κ.K, none⟩) (ts.drop k) := fun hn => by
  obtain ⟨b', o', e, hlt, hc⟩ := h (by rw [List.length_drop] at hn; omega)
  cases e
  refine ⟨b, o + k * κ.K, rfl, hlt, fun j u hu => ?_⟩
  rw [row_drop, List.getElem?_drop] at hu
  rw [Nat.add_assoc]; exact hc _ u hu
/-- the cells of the i-th one -/
theorem Ts.at_ (h : Ts κ w A ts) {i : Nat} {t : α} (hi : ts[i]? = some t) : ∃ b o, A = some ⟨b, o, none⟩ ∧ b < w.heap.size ∧
    ∀ w', Below w.heap.size w w' → ∀ (j : Nat) (v : Value), (κ.cells t)[j]? = some v → w'.cell? ⟨b, o + i * κ.K + j, none⟩ = some v := by
  obtain ⟨hl, _⟩ := List.getElem?_eq_some_iff.1 hi
  obtain ⟨b, o, e, hlt, hc⟩ := h (by omega)
  refine ⟨b, o, e, hlt, fun w' hb j v hj => ?_⟩
  rw [hb.cell (p := ⟨b, o + i * κ.K + j, none⟩) hlt, Nat.add_assoc]
  exact hc _ v (row_at ts i t hi j v hj)
end
section
variable {α : Type} {κ : Kind α} {w w' : World} {base n : Nat} {v : Value} {ts : List α} {T : TypeId}
/-- a row of the call's own, as a slice -/
theorem Ts.of_own (h : w.ownsRow base T κ.K v n (row κ ts)) :
    ∃ A c, v = .slice A ts.length c ∧ Ts κ w A ts ∧ ts.length ≤ c ∧ c ≤ maxLen ∧ (A = none → c = 0) ∧ ∀ ad, A = some ad → base ≤ ad.block := by
  have hl : ts.length = n := by
    have := h.1; rw [row_len] at this
    exact Nat.eq_of_mul_eq_mul_right κ.pos this
  obtain ⟨_, ⟨rfl, h0⟩ | ⟨g, cap, cur, rfl, hg, hh, h1, h2, _, ht⟩⟩ := id h
  · exact ⟨none, 0, by rw [hl, h0], fun hn => by omega, by omega, by simp, fun _ => rfl, fun _ e => by cases e⟩
  · refine ⟨some ⟨g, 0, none⟩, cap, by rw [hl], fun _ => ⟨g, 0, rfl, ?_, fun j u hj => ?_⟩, by omega, h2, by simp, fun ad e => by cases e; exact hg⟩
    · by_cases hg : g < w.heap.size
      · exact hg
      · rw [Array.getElem?_eq_none (by omega)] at hh; cases hh
    · have := h.cells (g := g) rfl j u hj
      rw [Nat.zero_add]
      rwa [add_zero_off] at this
theorem own_kept {xs : List Value} {K : Nat} (h : w.ownsRow base T K v n xs) (hb : Below w.heap.size w w') : w'.ownsRow base T K v n xs := by
  refine h.kept (grown_below hb none) ?_
  cases hv : v.ownBlock with
  | none => exact .inl rfl
  | some k => exact .inr (by simp)
theorem own_apart {K b : Nat} {xs l : List Value} {t : TypeId} (h : w.ownsRow base T K v n xs) (hr : Row w b t l) (ht : t ≠ T) : some b ≠ v.ownBlock := by
  obtain ⟨_, ⟨rfl, _⟩ | ⟨g, cap, cur, rfl, _, hh, _⟩⟩ := h
  · intro e; cases e
  · intro e
    injection e with e
    subst e
    unfold Row at hr
    rw [hr] at hh; injection hh with hh; injection hh with _ ht'; exact ht ht'
theorem own_apart2 {K K' n' base' : Nat} {v' : Value} {xs ys : List Value} {t : TypeId} (h : w.ownsRow base T K v n xs) (h' : w.ownsRow base' t K' v' n' ys) (ht : t ≠ T) : v'.ownBlock = none ∨ v'.ownBlock ≠ v.ownBlock := by
  obtain ⟨_, ⟨rfl, _⟩ | ⟨g', cap', cur', rfl, _, hh', _⟩⟩ := h'
  · exact .inl rfl
  · right
    obtain ⟨_, ⟨rfl, _⟩ | ⟨g, cap, cur, rfl, _, hh, _⟩⟩ := h
    · intro e; cases e
    · intro e
      injection e with e
      simp only at e
      subst e
      rw [hh'] at hh; injection hh with hh; injection hh with _ e'; exact ht e'
theorem own_below {w0 : World} {K : Nat} {xs : List Value} (h : w.ownsRow base T K v n xs) (hg : w.grownBy w' v.ownBlock) (hb : Below base w0 w) (hB : base ≤ w.heap.size) : Below base w0 w' :=
  hb.grown hg hB (fun k e => (h.lt k e).1)
end
/-- append of a row that can be read, onto one of the call's own -/
theorem append_own {α : Type} (κ : Kind α) {P : Program} {w : World} {ops : Array Oper} {rest : List Oper} {o : Oper} {a : Act} {Q : Exit → Act → World → Prop} (T TS : TypeId) {z : Value} {bytes : Nat}
    (hu : P.underlying TS = some (.slice T)) (hinfo : (P.info? T).map (fun i => (i.zero, i.size, i.bytes)) = some (some z, κ.K, bytes)) (hz : z.cells.size = κ.K) (hgd : o.guard = none) (s x : Operand)
    (ho : o.op = .call { callee := .builtin .append, args := #[s, x], argTypes := #[TS, TS] })
    (base : Nat) (v : Value) (n : Nat) (ts : List α) (hs : a.eval s = v) (hown : w.ownsRow base T κ.K v n (row κ ts))
    (A : Option Addr) (c : Nat) (ys : List α) (hx : a.eval x = .slice A ys.length c) (hA : A = none → c = 0 ∧ ys = []) (hb : Ts κ w A ys)
    (hle : n + ys.length ≤ maxLen) (hby : (n + ys.length) * bytes ≤ 140737488355328) (hbase : base ≤ w.heap.size)
    (h : ∀ v' w', w'.ownsRow base T κ.K v' (n + ys.length) (row κ (ts ++ ys)) → w.grownBy w' v.ownBlock → wpList P ops Q rest (a.put o.dst v') w') : wpList P ops Q (o :: rest) a w := by
  obtain ⟨i, hi, hz0, hz1, hz2⟩ := info_parts hinfo
  cases A with
  | none =>
    obtain ⟨rfl, rfl⟩ := hA rfl
    exact wpList_append_own_none hgd s x TS ho base T i κ.K hu hi v n (row κ ts) hs hown hx (h v w (by simpa using hown) (grown_below (Below.refl _ w) _))
  | some ad =>
    refine wpList_append_own w hgd s x TS ho base T i _ κ.K bytes hu hi hz0 hz1 hz2 hz κ.pos v n (row κ ts) hs hown ad ys.length c (row κ ys) hx (row_len ys) ?_ (row_one ys) hle hby hbase ?_
    · intro j u hj
      by_cases h0 : 0 < ys.length
      · obtain ⟨b, o', e, _, hc⟩ := hb h0
        cases e
        have := hc j u hj
        cases j with
        | zero => exact this
        | succ j => exact this
      · have : ys = [] := by cases ys with
          | nil => rfl
          | cons y ys => simp at h0
        subst this
        simp [row] at hj
    · intro v' w' h1 h2 _
      exact h v' w' (by rw [row_append]; exact h1) h2
end Rw
end Go.Proofs.Ytcdofkhkckodjaa
