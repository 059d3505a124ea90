/- Rw, Region, Bytes, VrKit, Conv -/
import Derived.Test.YtcjdjdhjbchaaaaCa1
import Derived.Test.YtcjdjdhjbchaaaaCa2
import Derived.Laws.AppendOwnNone
import Derived.OwnWalk
import Derived.Deep.QuietTactic
import Derived.BigQuiet
import Derived.Laws.BytesArg
import Derived.Lib.Hide
import Derived.StillTailTactics
import Derived.WalkKit
import Derived.LoopTactic
import Derived.Laws.IdiomStrings
import Derived.Laws.Strings
namespace Go.Proofs.Ytcjdjdhjbchaaaa
set_option linter.unusedVariables false
section
open Go.RowKit
/-- how a kind of values lies in memory -/
structure Kind (α : Type) where
  cells : α → List Value
  K : Nat
  len : ∀ t, (cells t).length = K
  one : ∀ t, ∀ u ∈ cells t, u.oneCell' = true
  pos : 0 < K
namespace Rw
theorem grown_below {w w' : World} (h : Below w.heap.size w w') (row : Option Nat) : w.grownBy w' row := ⟨h.os, h.tape, h.output, h.size, fun k hk _ => h.block k hk⟩
section
variable {α : Type} {κ : Kind α}
def row (κ : Kind α) (ts : List α) : List Value := (ts.map κ.cells).flatten
theorem row_nil : row κ [] = [] := rfl
theorem row_cons (t : α) (ts : List α) : row κ (t :: ts) = κ.cells t ++ row κ ts := by simp [row]
theorem row_append (ts us : List α) : row κ (ts ++ us) = row κ ts ++ row κ us := by simp [row]
theorem row_len (ts : List α) : (row κ ts).length = ts.length * κ.K := by
  induction ts with
  | nil => simp [row]
  | cons t ts ih => rw [row_cons, List.length_append, ih, κ.len, List.length_cons, Nat.succ_mul]; omega
theorem row_at : ∀ (ts : List α) (i : Nat) (t : α), ts[i]? = some t → ∀ (j : Nat) (u : Value), (κ.cells t)[j]? = some u → (row κ ts)[i * κ.K + j]? = some u
  | x :: ts, 0, t, h, j, u, hu => by
    obtain rfl : x = t := by simpa using h
    have hj := (List.getElem?_eq_some_iff.1 hu).1
    rw [row_cons, Nat.zero_mul, Nat.zero_add, List.getElem?_append_left hj]; exact hu
  | x :: ts, i + 1, t, h, j, u, hu => by
    have := row_at ts i t (by simpa using h) j u hu
    rw [row_cons, List.getElem?_append_right (by rw [κ.len, Nat.succ_mul]; omega), κ.len, Nat.succ_mul, show i * κ.K + κ.K + j - κ.K = i * κ.K + j by omega]
    exact this
theorem row_one (ts : List α) : ∀ u ∈ row κ ts, u.oneCell' = true := by
  intro u hu
  simp only [row, List.mem_flatten, List.mem_map] at hu
  obtain ⟨l, ⟨t, _, rfl⟩, hu⟩ := hu
  exact κ.one t u hu
theorem row_take (ts : List α) (k : Nat) : row κ (ts.take k) = (row κ ts).take (k * κ.K) := by
  induction ts generalizing k with
  | nil => simp [row]
  | cons t ts ih =>
    cases k with
    | zero => simp [row]
    | succ k => rw [List.take_succ_cons, row_cons, row_cons, ih, List.take_append, κ.len, List.take_of_length_le (l := κ.cells t) (by rw [κ.len, Nat.succ_mul]; omega), Nat.succ_mul, show k * κ.K + κ.K - κ.K = k * κ.K by omega]
theorem row_drop (ts : List α) (k : Nat) : row κ (ts.drop k) = (row κ ts).drop (k * κ.K) := by
  induction ts generalizing k with
  | nil => simp [row]
  | cons t ts ih =>
    cases k with
    | zero => simp
    | succ k => rw [List.drop_succ_cons, row_cons, ih, List.drop_append, κ.len, List.drop_of_length_le (l := κ.cells t) (by rw [κ.len, Nat.succ_mul]; omega), Nat.succ_mul, show k * κ.K + κ.K - κ.K = k * κ.K by omega]; simp
/-- the slice at A holds ts -/
def Ts (κ : Kind α) (w : World) (A : Option Addr) (ts : List α) : Prop :=
  0 < ts.length → ∃ b o, A = some ⟨b, o, none⟩ ∧ b < w.heap.size ∧ ∀ (j : Nat) (u : Value), (row κ ts)[j]? = some u → w.cell? ⟨b, o + j, none⟩ = some u
end
section
variable {α : Type} {κ : Kind α} {w w' : World} {A : Option Addr} {ts : List α}
theorem Ts.below (h : Ts κ w A ts) (hb : Below w.heap.size w w') : Ts κ w' A ts := fun hn => by
  obtain ⟨b, o, e, hlt, hc⟩ := h hn
  exact ⟨b, o, e, Nat.lt_of_lt_of_le hlt hb.size, fun j u hu => (hb.cell (p := ⟨b, o + j, none⟩) hlt).trans (hc j u hu)⟩
theorem Ts.nil : Ts κ w A [] := fun h => absurd h (by simp)
theorem Ts.made (w : World) (ts : List α) (t : TypeId) : Ts κ (w.alloc (.cells (row κ ts).toArray t)) (some ⟨w.heap.size, 0, none⟩) ts := fun _ => by
  have h : Row (w.alloc (.cells (row κ ts).toArray t)) w.heap.size t (row κ ts) := Row.made w _ _
  exact ⟨_, 0, rfl, h.lt, fun j u hu => by rw [Nat.zero_add]; exact (h.cell j).trans hu⟩
theorem Ts.of_row {g : Nat} {t : TypeId} (h : Row w g t (row κ ts)) : Ts κ w (some ⟨g, 0, none⟩) ts := fun _ =>
  ⟨_, 0, rfl, h.lt, fun j u hu => by rw [Nat.zero_add]; exact (h.cell j).trans hu⟩
theorem Ts.take (h : Ts κ w A ts) (k : Nat) : Ts κ w A (ts.take k) := fun hn => by
  obtain ⟨b, o, e, hlt, hc⟩ := h (by rw [List.length_take] at hn; omega)
  refine ⟨b, o, e, hlt, fun j u hu => hc j u ?_⟩
  rw [row_take, List.getElem?_take] at hu
  split at hu
  · exact hu
  · cases hu
theorem Ts.drop {b o : Nat} (h : Ts κ w (some ⟨b, o, none⟩) ts) (k : Nat) : Ts κ w (some ⟨b, o + k * κ.K, none⟩) (ts.drop k) := fun hn => by
  obtain ⟨b', o', e, hlt, hc⟩ := h (by rw [List.length_drop] at hn; omega)
  cases e
  refine ⟨b, o + k * κ.K, rfl, hlt, fun j u hu => ?_⟩
  rw [row_drop, List.getElem?_drop] at hu
  rw [Nat.add_assoc]; exact hc _ u hu
/-- the cells of the i-th one -/
theorem Ts.at_ (h : Ts κ w A ts) {i : Nat} {t : α} (hi : ts[i]? = some t) : ∃ b o, A = some ⟨b, o, none⟩ ∧ b < w.heap.size ∧
    ∀ w', Below w.heap.size w w' → ∀ (j : Nat) (v : Value), (κ.cells t)[j]? = some v → w'.cell? ⟨b, o + i * κ.K + j, none⟩ = some v := by
  obtain ⟨hl, _⟩ := List.getElem?_eq_some_iff.1 hi
  obtain ⟨b, o, e, hlt, hc⟩ := h (by omega)
  refine ⟨b, o, e, hlt, fun w' hb j v hj => ?_⟩
  rw [hb.cell (p := ⟨b, o + i * κ.K + j, none⟩) hlt, Nat.add_assoc]
  exact hc _ v (row_at ts i t hi j v hj)
end
section
variable {α : Type} {κ : Kind α} {w w' : World} {base n : Nat} {v : Value} {ts : List α} {T : TypeId}
/-- a row of the call's own, as a slice -/
theorem Ts.of_own (h : w.ownsRow base T κ.K v n (row κ ts)) :
    ∃ A c, v = .slice A ts.length c ∧ Ts κ w A ts ∧ ts.length ≤ c ∧ c ≤ maxLen ∧ (A = none → c = 0) ∧ ∀ ad, A = some ad → base ≤ ad.block := by
  have hl : ts.length = n := by
    have := h.1; rw [row_len] at this
    exact Nat.eq_of_mul_eq_mul_right κ.pos this
  obtain ⟨_, ⟨rfl, h0⟩ | ⟨g, cap, cur, rfl, hg, hh, h1, h2, _, ht⟩⟩ := id h
  · exact ⟨none, 0, by rw [hl, h0], fun hn => by omega, by omega, by simp, fun _ => rfl, fun _ e => by cases e⟩
  · refine ⟨some ⟨g, 0, none⟩, cap, by rw [hl], fun _ => ⟨g, 0, rfl, ?_, fun j u hj => ?_⟩, by omega, h2, by simp, fun ad e => by cases e; exact hg⟩
    · by_cases hg : g < w.heap.size
      · exact hg
      · rw [Array.getElem?_eq_none (by omega)] at hh; cases hh
    · have := h.cells (g := g) rfl j u hj
      rw [Nat.zero_add]
      rwa [add_zero_off] at this
theorem own_kept {xs : List Value} {K : Nat} (h : w.ownsRow base T K v n xs) (hb : Below w.heap.size w w') : w'.ownsRow base T K v n xs := by
  refine h.kept (grown_below hb none) ?_
  cases hv : v.ownBlock with
  | none => exact .inl rfl
  | some k => exact .inr (by simp)
theorem own_apart {K b : Nat} {xs l : List Value} {t : TypeId} (h : w.ownsRow base T K v n xs) (hr : Row w b t l) (ht : t ≠ T) : some b ≠ v.ownBlock := by
  obtain ⟨_, ⟨rfl, _⟩ | ⟨g, cap, cur, rfl, _, hh, _⟩⟩ := h
  · intro e; cases e
  · intro e
    injection e with e
    subst e
    unfold Row at hr
    rw [hr] at hh; injection hh with hh; injection hh with _ ht'; exact ht ht'
theorem own_apart2 {K K' n' base' : Nat} {v' : Value} {xs ys : List Value} {t : TypeId} (h : w.ownsRow base T K v n xs) (h' : w.ownsRow base' t K' v' n' ys) (ht : t ≠ T) : v'.ownBlock = none ∨ v'.ownBlock ≠ v.ownBlock := by
  obtain ⟨_, ⟨rfl, _⟩ | ⟨g', cap', cur', rfl, _, hh', _⟩⟩ := h'
  · exact .inl rfl
  · right
    obtain ⟨_, ⟨rfl, _⟩ | ⟨g, cap, cur, rfl, _, hh, _⟩⟩ := h
    · intro e; cases e
    · intro e
      injection e with e
      simp only at e
      subst e
      rw [hh'] at hh; injection hh with hh; injection hh with _ e'; exact ht e'
theorem own_below {w0 : World} {K : Nat} {xs : List Value} (h : w.ownsRow base T K v n xs) (hg : w.grownBy w' v.ownBlock) (hb : Below base w0 w) (hB : base ≤ w.heap.size) : Below base w0 w' :=
  hb.grown hg hB (fun k e => (h.lt k e).1)
end
/-- append of a row that can be read, onto one of the call's own -/
theorem append_own {α : Type} (κ : Kind α) {P : Program} {w : World} {ops : Array Oper} {rest : List Oper} {o : Oper} {a : Act} {Q : Exit → Act → World → Prop} (T TS : TypeId) {z : Value} {bytes : Nat}
    (hu : P.underlying TS = some (.slice T)) (hinfo : (P.info? T).map (fun i => (i.zero, i.size, i.bytes)) = some (some z, κ.K, bytes)) (hz : z.cells.size = κ.K) (hgd : o.guard = none) (s x : Operand)
    (ho : o.op = .call { callee := .builtin .append, args := #[s, x], argTypes := #[TS, TS] })
    (base : Nat) (v : Value) (n : Nat) (ts : List α) (hs : a.eval s = v) (hown : w.ownsRow base T κ.K v n (row κ ts))
    (A : Option Addr) (c : Nat) (ys : List α) (hx : a.eval x = .slice A ys.length c) (hA : A = none → c = 0 ∧ ys = []) (hb : Ts κ w A ys)
    (hle : n + ys.length ≤ maxLen) (hby : (n + ys.length) * bytes ≤ 140737488355328) (hbase : base ≤ w.heap.size)
    (h : ∀ v' w', w'.ownsRow base T κ.K v' (n + ys.length) (row κ (ts ++ ys)) → w.grownBy w' v.ownBlock → wpList P ops Q rest (a.put o.dst v') w') : wpList P ops Q (o :: rest) a w := by
  obtain ⟨i, hi, hz0, hz1, hz2⟩ := info_parts hinfo
  cases A with
  | none =>
    obtain ⟨rfl, rfl⟩ := hA rfl
    exact wpList_append_own_none hgd s x TS ho base T i κ.K hu hi v n (row κ ts) hs hown hx (h v w (by simpa using hown) (grown_below (Below.refl _ w) _))
  | some ad =>
    refine wpList_append_own w hgd s x TS ho base T i _ κ.K bytes hu hi hz0 hz1 hz2 hz κ.pos v n (row κ ts) hs hown ad ys.length c (row κ ys) hx (row_len ys) ?_ (row_one ys) hle hby hbase ?_
    · intro j u hj
      by_cases h0 : 0 < ys.length
      · obtain ⟨b, o', e, _, hc⟩ := hb h0
        cases e
        have := hc j u hj
        cases j with
        | zero => exact this
        | succ j => exact this
      · have : ys = [] := by cases ys with
          | nil => rfl
          | cons y ys => simp at h0
        subst this
        simp [row] at hj
    · intro v' w' h1 h2 _
      exact h v' w' (by rw [row_append]; exact h1) h2
end Rw
end

section
open Go.RowKit
theorem wp_region_below {P : Program} {id : Nat} {Q : Exit → Act → World → Prop} {a : Act} {w : World} {l : List Oper} (hm : P.follows .mixedOrders = true) (hB : Region.lexB .any l.toArray = true)
    (h : wpQuiet P l.toArray (fun w' => Below w.heap.size w w') (fun a' => ∀ w', Below w.heap.size w w' → Q .normal a' w') l a) : (Code.region id l.toArray true).wp P Q a w :=
  wp_region_quiet (C := fun w' => Below w.heap.size w w') hm hB ((Below.refl _ _).drew) (by simpa using h)
end

section
open Go.RowKit

abbrev u8s (xs : List Nat) : List Value := xs.map fun x : Nat => Value.int .u8 (x : Nat)
theorem Bytes.plain {w : World} {A : Option Addr} {xs : List Nat} (h : Bytes w A xs) (hn : 0 < xs.length) :
    ∃ b off, A = some ⟨b, off, none⟩ ∧ ∀ (j x : Nat), xs[j]? = some x → w.cell? ⟨b, off + j, none⟩ = some (.int .u8 (x : Nat)) := by
  obtain ⟨ad, rfl, _, hc⟩ := h.2 hn
  have h0 := hc 0 xs[0] (List.getElem?_eq_getElem hn)
  obtain ⟨b, off, spot⟩ := ad
  cases spot with
  | none =>
    refine ⟨b, off, rfl, fun j x hx => ?_⟩
    have := hc j x hx
    cases j with
    | zero => exact this
    | succ j => simpa [Addr.add] using this
  | some q =>
    exfalso
    simp only [Addr.add, if_true] at h0
    unfold World.cell? at h0
    cases hh : w.heap[b]? with
    | none => simp [hh] at h0
    | some o => cases o <;> simp [hh] at h0

def strOf (xs : List Nat) : ByteArray := strOfNums (xs.map fun x : Nat => (x : Int))
theorem strOf_inj {xs ys : List Nat} (hx : ∀ x ∈ xs, x < 256) (hy : ∀ y ∈ ys, y < 256) : strOf xs = strOf ys ↔ xs = ys := by
  constructor
  · intro h
    have h1 : (strOf xs).data.toList = (strOf ys).data.toList := by rw [h]
    simp only [strOf, strOfNums_data, List.map_map] at h1
    have key : ∀ (l : List Nat), (∀ x ∈ l, x < 256) → (l.map ((fun n : Int => UInt8.ofNat n.toNat) ∘ fun x : Nat => (x : Int))).map UInt8.toNat = l := by
      intro l hl
      rw [List.map_map]
      conv => rhs; rw [← List.map_id l]
      apply List.map_congr_left
      intro x hx
      simp; have := hl x hx; omega
    rw [← key xs hx, ← key ys hy, h1]
  · rintro rfl; rfl
/-- a row of the call's own that is not empty lies at the head of a block -/
theorem Row.of_own_some {w : World} {base : Nat} {t : TypeId} {v : Value} {n : Nat} {l : List Value} (h : w.ownsRow base t 1 v n l) (hn : 0 < n) :
    ∃ g rest cap, v = .slice (some ⟨g, 0, none⟩) n cap ∧ base ≤ g ∧ Row w g t (l ++ rest) := by
  obtain ⟨hlen, ⟨_, h0⟩ | ⟨g, cap, cur, rfl, hg, hh, _, _, _, ht⟩⟩ := h
  · omega
  · refine ⟨g, cur.toList.drop (n * 1), cap, rfl, hg, ?_⟩
    unfold Row
    rw [hh, ← ht, List.take_append_drop]
theorem Bytes.of_row_pre {w : World} {g : Nat} {t : TypeId} {xs : List Nat} {rest : List Value} (h : Row w g t (u8s xs ++ rest)) (hx : ∀ x ∈ xs, x < 256) : Bytes w (some ⟨g, 0, none⟩) xs :=
  ⟨hx, fun _ => ⟨⟨g, 0, none⟩, rfl, h.lt, fun j x hj => by
    have hlt := (List.getElem?_eq_some_iff.1 hj).1
    rw [add_zero_off, h.cell, List.getElem?_append_left (by simpa using hlt), List.getElem?_map, hj]; rfl⟩⟩
section
variable {P : Program}
theorem conv_bytes {w : World} {A : Option Addr} {xs : List Nat} {src e dst : TypeId} (hs : P.underlying src = some (.slice e)) (he : P.underlying e = some (.int .u8)) (hd : P.underlying dst = some .string)
    (h : Bytes w A xs) (c : Nat) : (convert src dst (.slice A xs.length c)).run P w = .ok (.string (strOf xs)) w := by
  by_cases hn : 0 < xs.length
  · obtain ⟨b, off, rfl, hc⟩ := h.plain hn
    refine run_convert_bytes_arg w src e hs he b off xs.length c _ (by simp) (fun i hi => ?_) dst hd
    rw [hc i _ (List.getElem?_eq_getElem hi)]
    simp [List.getD_eq_getElem?_getD, hi]
  · obtain rfl : xs = [] := by cases xs with
      | nil => rfl
      | cons a l => exact absurd (by simp) hn
    rw [run_convert_bytes_string w src dst e _ _ c hs he hd]
    cases A <;> simp [Conv.bytesToString, loadCells]
    all_goals rfl

theorem Bytes.of_own {w : World} {base : Nat} {t : TypeId} {v : Value} {n : Nat} {xs : List Nat} (h : w.ownsRow base t 1 v n (u8s xs)) (hx : ∀ x ∈ xs, x < 256) :
    ∃ A c, v = .slice A xs.length c ∧ Bytes w A xs ∧ n = xs.length := by
  have hl : xs.length = n := by have := h.1; simpa using this
  obtain ⟨_, ⟨rfl, h0⟩ | ⟨g, cap, cur, rfl, _, hh, _, _, _, ht⟩⟩ := id h
  · obtain rfl : xs = [] := by cases xs with
      | nil => rfl
      | cons a l => simp at hl; omega
    exact ⟨none, 0, rfl, ⟨by simp, by simp⟩, by simp [h0]⟩
  · refine ⟨some ⟨g, 0, none⟩, cap, by rw [hl], ⟨hx, fun _ => ⟨_, rfl, ?_, fun j x hj => ?_⟩⟩, hl.symm⟩
    · by_cases hg : g < w.heap.size
      · exact hg
      · rw [Array.getElem?_eq_none (by omega)] at hh; cases hh
    · exact h.cells (g := g) rfl j _ (by rw [List.getElem?_map, hj]; rfl)

/-- append of a row of bytes, nil or not, to one of the call's own -/
theorem wpList_append_bytes {w : World} {ops : Array Oper} {rest : List Oper} {o : Oper} {a : Act} {Q : Exit → Act → World → Prop} (hgd : o.guard = none) (s x : Operand) (t : TypeId)
    (ho : o.op = .call { callee := .builtin .append, args := #[s, x], argTypes := #[t, t] })
    (base : Nat) (e : TypeId) (i : TypeInfo) (z : Value) (ht : P.underlying t = some (.slice e)) (hi : P.info? e = some i) (hz : i.zero = some z)
    (hsize : i.size = 1) (hby : i.bytes = 1) (hzs : z.cells.size = 1)
    (v : Value) (n : Nat) (xs : List Nat) (hs : a.eval s = v) (hown : w.ownsRow base e 1 v n (u8s xs))
    (A : Option Addr) (c : Nat) (ys : List Nat) (hx : a.eval x = .slice A ys.length c) (hb : Bytes w A ys) (hc : A = none → c = 0)
    (hle : n + ys.length ≤ 1000000) (hbase : base ≤ w.heap.size)
    (h : ∀ v' w', w'.ownsRow base e 1 v' (n + ys.length) (u8s (xs ++ ys)) → w.grownBy w' v.ownBlock → wpList P ops Q rest (a.put o.dst v') w') : wpList P ops Q (o :: rest) a w := by
  cases hA : A with
  | some ad =>
    subst hA
    refine wpList_append_own w hgd s x t ho base e i z 1 1 ht hi hz hsize hby hzs (by omega) v n (u8s xs) hs hown ad ys.length c (u8s ys) hx (by simp) ?_ ?_ (by unfold maxLen; omega) (by omega) hbase ?_
    · intro j u hj
      by_cases hn : 0 < ys.length
      · obtain ⟨ad', e', _, hcell⟩ := hb.2 hn
        cases e'
        rw [List.getElem?_map] at hj
        cases hy : ys[j]? with
        | none => simp [hy] at hj
        | some y => simp [hy] at hj; rw [← hj]; exact hcell j y hy
      · have : j < (u8s ys).length := (List.getElem?_eq_some_iff.1 hj).1
        simp at this; omega
    · intro u hu
      obtain ⟨y, _, rfl⟩ := List.mem_map.1 hu
      rfl
    · intro v' w' h1 h2 _
      exact h v' w' (by rw [show u8s (xs ++ ys) = u8s xs ++ u8s ys from List.map_append]; exact h1) h2
  | none =>
    subst hA
    have hn : ys = [] := by
      cases ys with
      | nil => rfl
      | cons y l => obtain ⟨_, e', _⟩ := hb.2 (by simp); cases e'
    subst hn
    have hc0 := hc rfl
    subst hc0
    refine wpList_append_own_none hgd s x t ho base e i 1 ht hi v n (u8s xs) hs hown hx ?_
    refine h v w (by simpa using hown) ⟨rfl, rfl, rfl, Nat.le_refl _, fun _ _ _ => rfl⟩
end
end

section
namespace Vr
open Go.ChangeShapes Go.WideShapes Go.ChangeAt Go.RowKit Go.BigFrame
set_option maxRecDepth 100000
@[reducible] def _root_.Go.Proofs.Ytcjdjdhjbchaaaa.Rd.val (r : Rd) : Value := .agg #[.int .i64 r.k, .int .i64 r.v]
def _root_.Go.Proofs.Ytcjdjdhjbchaaaa.Rd.cells (r : Rd) : List Value := [.int .i64 r.k, .int .i64 r.v]
def kindR : Kind Rd := ⟨Rd.cells, 2, fun _ => rfl, fun t u hu => by
  simp only [Rd.cells, List.mem_cons, List.not_mem_nil, or_false] at hu
  rcases hu with rfl | rfl <;> rfl, by decide⟩
theorem infoRec : (Try.prog.info? 36).map (fun i => (i.zero, i.size, i.bytes)) = some (some (.agg #[.int .i64 0, .int .i64 0]), 2, 16) := by kernel_rfl
section
variable {w w' : World} {A : Option Addr} {ts : List Rd}
/-- the cells of one, in each later world -/
theorem recs_at (h : Rw.Ts kindR w A ts) {i : Nat} {t : Rd} (hi : ts[i]? = some t) : ∃ b o, A = some ⟨b, o, none⟩ ∧ b < w.heap.size ∧
    ∀ w', Below w.heap.size w w' → w'.cell? ⟨b, o + i * 2, none⟩ = some (.int .i64 t.k) ∧ w'.cell? ⟨b, o + i * 2 + 1, none⟩ = some (.int .i64 t.v) := by
  obtain ⟨b, o, e, hlt, hc⟩ := h.at_ hi
  exact ⟨b, o, e, hlt, fun w' hb => ⟨hc w' hb 0 _ rfl, hc w' hb 1 _ rfl⟩⟩
end
theorem own_base {w : World} {base base' n K : Nat} {T : TypeId} {v : Value} {xs : List Value} (h : w.ownsRow base T K v n xs) (hb : base' ≤ base) : w.ownsRow base' T K v n xs := by
  obtain ⟨h1, h2⟩ := h
  refine ⟨h1, ?_⟩
  rcases h2 with h2 | ⟨g', cap, cur, hv, hb', h3⟩
  · exact .inl h2
  · exact .inr ⟨g', cap, cur, hv, Nat.le_trans hb hb', h3⟩
theorem nan_any (a : Int) (w : World) : Calls Try.prog 90 #[.int .i64 a] w fun e w' => e = .returned (.bool false) ∧ w = w' := by
  go_enter Try.func90, Try.ntmps90
  go_wp2_with fail
  go_ret
  exact ⟨rfl, rfl⟩
def sgnI (a b : Int) : Int := if a < b then -1 else if b < a then 1 else 0
theorem sgnI_cases (a b : Int) : a < b ∧ sgnI a b = -1 ∨ b < a ∧ sgnI a b = 1 ∨ a = b ∧ sgnI a b = 0 := by
  unfold sgnI
  by_cases h : a < b
  · exact .inl ⟨h, if_pos h⟩
  · by_cases h2 : b < a
    · exact .inr (.inl ⟨h2, by rw [if_neg h, if_pos h2]⟩)
    · exact .inr (.inr ⟨by omega, by rw [if_neg h, if_neg h2]⟩)
theorem cmpCompare_any (a b : Int) (w : World) : Calls Try.prog 73 #[.int .i64 a, .int .i64 b] w fun e w' => e = .returned (.int .i64 (sgnI a b)) ∧ w = w' := by
  rcases sgnI_cases a b with ⟨h, e⟩ | ⟨h, e⟩ | ⟨h, e⟩ <;> rw [e] <;> clear e
  · go_enter Try.func73, Try.ntmps73
    go_wp2_with fail
    refine (nan_any _ _).mono ?_; rintro e w' ⟨rfl, rfl⟩
    go_wp2_with fail
    refine (nan_any _ _).mono ?_; rintro e w' ⟨rfl, rfl⟩
    go_wp2_with fail
    go_ret
    exact ⟨rfl, rfl⟩
  · have h2 : ¬ a < b := by omega
    go_enter Try.func73, Try.ntmps73
    go_wp2_with fail
    refine (nan_any _ _).mono ?_; rintro e w' ⟨rfl, rfl⟩
    go_wp2_with fail
    refine (nan_any _ _).mono ?_; rintro e w' ⟨rfl, rfl⟩
    go_wp2_with fail
    go_ret
    exact ⟨rfl, rfl⟩
  · subst h
    go_enter Try.func73, Try.ntmps73
    go_wp2_with fail
    refine (nan_any _ _).mono ?_; rintro e w' ⟨rfl, rfl⟩
    go_wp2_with fail
    refine (nan_any _ _).mono ?_; rintro e w' ⟨rfl, rfl⟩
    go_wp2_with fail
    go_ret
    exact ⟨rfl, rfl⟩
theorem C_key {a b : Rd} (h : a.k ≠ b.k) : a.C b = sgnI a.k b.k := by
  have e := Rd.ext_iff' (a := a) (b := b)
  unfold Rd.C sgnI
  have n1 : ¬ a = b := fun q => h (e.1 q).1
  split <;> split <;> first | rfl | omega | (split <;> first | rfl | omega)
theorem C_val {a b : Rd} (h : a.k = b.k) : a.C b = sgnI a.v b.v := by
  have e := Rd.ext_iff' (a := a) (b := b)
  unfold Rd.C sgnI
  by_cases h1 : a.v < b.v
  · rw [if_pos (.inr ⟨h, h1⟩), if_pos h1]
  · rw [if_neg (by omega), if_neg h1]
    by_cases h2 : a = b
    · rw [if_pos h2, if_neg (by have := (e.1 h2).2; omega)]
    · rw [if_neg h2, if_pos (by have : ¬ (a.k = b.k ∧ a.v = b.v) := fun q => h2 (e.2 q); omega)]
/-- the closure that orders records -/
theorem closure_any (a b : Rd) (w : World) : Calls Try.prog 72 #[a.val, b.val] w fun e w' => e = .returned (.int .i64 (a.C b)) ∧ w' = (w.alloc (.cells #[.int .i64 a.k, .int .i64 a.v] 36)).alloc (.cells #[.int .i64 b.k, .int .i64 b.v] 36) := by
  obtain ⟨ak, av⟩ := a
  obtain ⟨bk, bv⟩ := b
  by_cases h : ak = bk
  · subst h
    have hz : (ak != ak) = false := by simp
    rw [C_val (a := ⟨ak, av⟩) (b := ⟨ak, bv⟩) rfl]
    simp only
    go_enter Try.func72, Try.ntmps72
    go_wp2_with fail
    refine (cmpCompare_any _ _ _).mono ?_; rintro e w' ⟨rfl, rfl⟩
    go_wp2_with fail
    go_ret
    exact ⟨rfl, rfl⟩
  · have hz : (ak != bk) = true := by simpa using h
    rw [C_key (a := ⟨ak, av⟩) (b := ⟨bk, bv⟩) h]
    have H := Lib.hid h; clear h
    simp only
    go_enter Try.func72, Try.ntmps72
    go_wp2_with fail
    refine (cmpCompare_any _ _ _).mono ?_; rintro e w' ⟨rfl, rfl⟩
    go_wp2_with fail
    go_ret
    exact ⟨rfl, rfl⟩
theorem byKey_any (w : World) : Calls Try.prog 46 #[] w fun e w' => e = .returned (.func (.func 72) #[] #[]) ∧ w = w' := by
  go_enter Try.func46, Try.ntmps46
  go_wp2_with fail
  go_ret
  exact ⟨rfl, rfl⟩
end Vr
end

section
open Go.RowKit
/-- a string's bytes -/
def bl (b : ByteArray) : List Nat := b.data.toList.map UInt8.toNat
theorem bl_len (b : ByteArray) : (bl b).length = b.size := by unfold bl; rw [List.length_map, Array.length_toList]; rfl
theorem bl_lt (b : ByteArray) : ∀ x ∈ bl b, x < 256 := by
  intro x hx
  obtain ⟨u, _, rfl⟩ := List.mem_map.1 hx
  exact u.toNat_lt
theorem strOf_bl (b : ByteArray) : strOf (bl b) = b := by
  apply ByteArray.ext
  apply Array.ext'
  simp only [strOf, strOfNums_data, bl, List.map_map]
  conv => rhs; rw [← List.map_id b.data.toList]
  apply List.map_congr_left
  intro u _
  simp
theorem bl_strOf (xs : List Nat) (h : ∀ x ∈ xs, x < 256) : bl (strOf xs) = xs := by
  unfold bl
  simp only [strOf, strOfNums_data, List.map_map]
  conv => rhs; rw [← List.map_id xs]
  apply List.map_congr_left
  intro x hx
  have := h x hx
  simp; omega
theorem strOf_size (xs : List Nat) : (strOf xs).size = xs.length := by
  show (strOf xs).data.size = _
  have : (strOf xs).data.toList.length = xs.length := by simp only [strOf, strOfNums_data, List.length_map]
  simpa using this
theorem strOf_append (xs ys : List Nat) : strOf (xs ++ ys) = strOf xs ++ strOf ys := by
  apply ByteArray.ext
  apply Array.ext'
  simp [strOf, strOfNums_data]
theorem str_eql (a b : ByteArray) : (a.toList == b.toList) = decide (a = b) := by
  rw [ByteArray.toList_eq, ByteArray.toList_eq, Bool.eq_iff_iff, beq_iff_eq, decide_eq_true_iff]
  exact ⟨fun h => ByteArray.ext (Array.ext' h), fun h => by rw [h]⟩
section
variable {P : Program} {src dst e : TypeId}
theorem run_tobytes (w : World) (s : ByteArray) (hs : P.underlying src = some .string) (hd : P.underlying dst = some (.slice e)) (he : P.underlying e = some (.int .u8)) (hm : s.size ≤ maxLen) :
    ∃ c w', (convert src dst (.string s)).run P w = .ok (.slice (some ⟨w.heap.size, 0, none⟩) s.size c) w' ∧ Bytes w' (some ⟨w.heap.size, 0, none⟩) (bl s) ∧ Below w.heap.size w w' ∧ s.size ≤ c ∧ c ≤ maxLen ∧ w.heap.size < w'.heap.size := by
  refine ⟨_, _, run_bytes_of_string w src dst e s hs hd he, ⟨bl_lt s, fun _ => ⟨_, rfl, by simp, fun j x hj => ?_⟩⟩, (Below.refl _ _).drew.alloc (Nat.le_refl _) _, grownCap_ge _ _ _ _, grownCap_le_maxLen _ _ _ _ hm, by simp⟩
  have hj2 : j < s.size := by rw [← bl_len]; exact (List.getElem?_eq_some_iff.1 hj).1
  rw [add_zero_off, cell_of_row _ w.heap.size j _ e _ (heap_alloc_new w.drew _)]
  unfold bytesRow
  have h1 : j < s.data.size := hj2
  have hx : x = (s.data[j]).toNat := by
    unfold bl at hj
    rw [List.getElem?_map] at hj
    rw [Array.getElem?_toList, Array.getElem?_eq_getElem h1] at hj
    simpa using hj.symm
  subst hx
  rw [Array.getElem?_append_left (by simpa using h1), Array.getElem?_map, Array.getElem?_eq_getElem h1]
  rfl
theorem wpList_tobytes {w : World} {ops : Array Oper} {rest : List Oper} {o : Oper} {a : Act} {Q : Exit → Act → World → Prop} (hgd : o.guard = none) (x : Operand) (ho : o.op = .convert src dst x)
    (hs : P.underlying src = some .string) (hd : P.underlying dst = some (.slice e)) (he : P.underlying e = some (.int .u8)) (s : ByteArray) (hx : a.eval x = .string s) (hm : s.size ≤ maxLen)
    (h : ∀ c w', Bytes w' (some ⟨w.heap.size, 0, none⟩) (bl s) → Below w.heap.size w w' → s.size ≤ c → c ≤ maxLen → w.heap.size < w'.heap.size → wpList P ops Q rest (a.put o.dst (.slice (some ⟨w.heap.size, 0, none⟩) s.size c)) w') : wpList P ops Q (o :: rest) a w := by
  obtain ⟨c, w', hr, h1, h2, h3, h4, h5⟩ := run_tobytes (P := P) w s hs hd he hm
  refine wpList_plain hgd fun K hK => ?_
  unfold Oper.wp execOp
  simp only [ho, hx, Sem.run_bind, hr, Result.andThen_ok, Sem.run_pure, Oper.upon]
  exact hK _ _ (h c w' h1 h2 h3 h4 h5)
/-- s + t -/
theorem run_add_str (w : World) (t : TypeId) (x y : Operand) (a b : ByteArray) (ht : P.underlying t = some .string) (h : a.size + b.size ≤ 9223372036854775807) :
    (do eqGuard .add t x y (.string a) (.string b); binOp .add t (.string a) (.string b) : Sem Value).run P w = .ok (.string (a ++ b)) w := by
  simp [go_sem, eqGuard, binOp, run_underlying ht, Op.stringOp]
  omega
end
end
end Go.Proofs.Ytcjdjdhjbchaaaa
