/- Rows of bytes: appended to, turned into strings. -/
import Derived.Test.YtcdofkhkckodjaaMem
import Derived.Laws.BytesArg
import Derived.Laws.AppendOwnNone
import Derived.OwnWalk
namespace Go.Proofs.Ytcdofkhkckodjaa
open Go.RowKit

abbrev u8s (xs : List Nat) : List Value := xs.map fun x : Nat => Value.int .u8 (x : Nat)
theorem Bytes.plain {w : World} {A : Option Addr} {xs : List Nat} (h : Bytes w A xs) (hn : 0 < xs.length) :
    ∃ b off, A = some ⟨b, off, none⟩ ∧ ∀ (j x : Nat), xs[j]? = some x → w.cell? ⟨b, off + j, none⟩ = some (.int .u8 (x : Nat)) := by
  obtain ⟨ad, rfl, _, hc⟩ := h.2 hn
  have h0 := hc 0 xs[0] (List.getElem?_eq_getElem hn)
  obtain ⟨b, off, spot⟩ := ad
  cases spot with
  | none =>
    refine ⟨b, off, rfl, fun j x hx => ?_⟩
    have := hc j x hx
    cases j with
    | zero => exact this
    | succ j => simpa [Addr.add] using this
  | some q =>
    exfalso
    simp only [Addr.add, if_true] at h0
    unfold World.cell? at h0
    cases hh : w.heap[b]? with
    | none => simp [hh] at h0
    | some o => cases o <;> simp [hh] at h0

def strOf (xs : List Nat) : ByteArray := strOfNums (xs.map fun x : Nat => (x : Int))
theorem strOf_inj {xs ys : List Nat} (hx : ∀ x ∈ xs, x < 256) (hy : ∀ y ∈ ys, y < 256) : strOf xs = strOf ys ↔ xs = ys := by
  constructor
  · intro h
    have h1 : (strOf xs).data.toList = (strOf ys).data.toList := by rw [h]
    simp only [strOf, strOfNums_data, List.map_map] at h1
    have key : ∀ (l : List Nat), (∀ x ∈ l, x < 256) → (l.map ((fun n : Int => UInt8.ofNat n.toNat) ∘ fun x : Nat => (x : Int))).map UInt8.toNat = l := by
      intro l hl
      rw [List.map_map]
      conv => rhs; rw [← List.map_id l]
      apply List.map_congr_left
      intro x hx
      simp; have := hl x hx; omega
    rw [← key xs hx, ← key ys hy, h1]
  · rintro rfl; rfl
/-- a row of the call's own that is not empty lies at the head of a block -/
theorem Row.of_own_some {w : World} {base : Nat} {t : TypeId} {v : Value} {n : Nat} {l : List Value} (h : w.ownsRow base t 1 v n l) (hn : 0 < n) :
    ∃ g rest cap, v = .slice (some ⟨g, 0, none⟩) n cap ∧ base ≤ g ∧ Row w g t (l ++ rest) := by
  obtain ⟨hlen, ⟨_, h0⟩ | ⟨g, cap, cur, rfl, hg, hh, _, _, _, ht⟩⟩ := h
  · omega
  · refine ⟨g, cur.toList.drop (n * 1), cap, rfl, hg, ?_⟩
    unfold Row
    rw [hh, ← ht, List.take_append_drop]
theorem Bytes.of_row_pre {w : World} {g : Nat} {t : TypeId} {xs : List Nat} {rest : List Value} (h : Row w g t (u8s xs ++ rest)) (hx : ∀ x ∈ xs, x < 256) : Bytes w (some ⟨g, 0, none⟩) xs :=
  ⟨hx, fun _ => ⟨⟨g, 0, none⟩, rfl, h.lt, fun j x hj => by
    have hlt := (List.getElem?_eq_some_iff.1 hj).1
    rw [add_zero_off, h.cell, List.getElem?_append_left (by simpa using hlt), List.getElem?_map, hj]; rfl⟩⟩
section
variable {P : Program}
theorem conv_bytes {w : World} {A : Option Addr} {xs : List Nat} {src e dst : TypeId} (hs : P.underlying src = some (.slice e)) (he : P.underlying e = some (.int .u8)) (hd : P.underlying dst = some .string)
    (h : Bytes w A xs) (c : Nat) : (convert src dst (.slice A xs.length c)).run P w = .ok (.string (strOf xs)) w := by
  by_cases hn : 0 < xs.length
  · obtain ⟨b, off, rfl, hc⟩ := h.plain hn
    refine run_convert_bytes_arg w src e hs he b off xs.length c _ (by simp) (fun i hi => ?_) dst hd
    rw [hc i _ (List.getElem?_eq_getElem hi)]
    simp [List.getD_eq_getElem?_getD, hi]
  · obtain rfl : xs = [] := by cases xs with
      | nil => rfl
      | cons a l => exact absurd (by simp) hn
    rw [run_convert_bytes_string w src dst e _ _ c hs he hd]
    cases A <;> simp [Conv.bytesToString, loadCells]
    all_goals rfl

theorem Bytes.of_own {w : World} {base : Nat} {t : TypeId} {v : Value} {n : Nat} {xs : List Nat} (h : w.ownsRow base t 1 v n (u8s xs)) (hx : ∀ x ∈ xs, x < 256) :
    ∃ A c, v = .slice A xs.length c ∧ Bytes w A xs ∧ n = xs.length := by
  have hl : xs.length = n := by have := h.1; simpa using this
  obtain ⟨_, ⟨rfl, h0⟩ | ⟨g, cap, cur, rfl, _, hh, _, _, _, ht⟩⟩ := id h
  · obtain rfl : xs = [] := by cases xs with
      | nil => rfl
      | cons a l => simp at hl; omega
    exact ⟨none, 0, rfl, ⟨by simp, by simp⟩, by simp [h0]⟩
  · refine ⟨some ⟨g, 0, none⟩, cap, by rw [hl], ⟨hx, fun _ => ⟨_, rfl, ?_, fun j x hj => ?_⟩⟩, hl.symm⟩
    · by_cases hg : g < w.heap.size
      · exact hg
      · rw [Array.getElem?_eq_none (by omega)] at hh; cases hh
    · exact h.cells (g := g) rfl j _ (by rw [List.getElem?_map, hj]; rfl)

/-- append of a row of bytes, nil or not, to one of the call's own -/
theorem wpList_append_bytes {w : World} {ops : Array Oper} {rest : List Oper} {o : Oper} {a : Act} {Q : Exit → Act → World → Prop} (hgd : o.guard = none) (s x : Operand) (t : TypeId)
    (ho : o.op = .call { callee := .builtin .append, args := #[s, x], argTypes := #[t, t] })
    (base : Nat) (e : TypeId) (i : TypeInfo) (z : Value) (ht : P.underlying t = some (.slice e)) (hi : P.info? e = some i) (hz : i.zero = some z)
    (hsize : i.size = 1) (hby : i.bytes = 1) (hzs : z.cells.size = 1)
    (v : Value) (n : Nat) (xs : List Nat) (hs : a.eval s = v) (hown : w.ownsRow base e 1 v n (u8s xs))
    (A : Option Addr) (c : Nat) (ys : List Nat) (hx : a.eval x = .slice A ys.length c) (hb : Bytes w A ys) (hc : A = none → c = 0)
    (hle : n + ys.length ≤ 1000000) (hbase : base ≤ w.heap.size)
    (h : ∀ v' w', w'.ownsRow base e 1 v' (n + ys.length) (u8s (xs ++ ys)) → w.grownBy w' v.ownBlock → wpList P ops Q rest (a.put o.dst v') w') : wpList P ops Q (o :: rest) a w := by
  cases hA : A with
  | some ad =>
    subst hA
    refine wpList_append_own w hgd s x t ho base e i z 1 1 ht hi hz hsize hby hzs (by omega) v n (u8s xs) hs hown ad ys.length c (u8s ys) hx (by simp) ?_ ?_ (by unfold maxLen; omega) (by omega) hbase ?_
    · intro j u hj
      by_cases hn : 0 < ys.length
      · obtain ⟨ad', e', _, hcell⟩ := hb.2 hn
        cases e'
        rw [List.getElem?_map] at hj
        cases hy : ys[j]? with
        | none => simp [hy] at hj
        | some y => simp [hy] at hj; rw [← hj]; exact hcell j y hy
      · have : j < (u8s ys).length := (List.getElem?_eq_some_iff.1 hj).1
        simp at this; omega
    · intro u hu
      obtain ⟨y, _, rfl⟩ := List.mem_map.1 hu
      rfl
    · intro v' w' h1 h2 _
      exact h v' w' (by rw [show u8s (xs ++ ys) = u8s xs ++ u8s ys from List.map_append]; exact h1) h2
  | none =>
    subst hA
    have hn : ys = [] := by
      cases ys with
      | nil => rfl
      | cons y l => obtain ⟨_, e', _⟩ := hb.2 (by simp); cases e'
    subst hn
    have hc0 := hc rfl
    subst hc0
    refine wpList_append_own_none hgd s x t ho base e i 1 ht hi v n (u8s xs) hs hown hx ?_
    refine h v w (by simpa using hown) ⟨rfl, rfl, rfl, Nat.le_refl _, fun _ _ _ => rfl⟩
end
end Go.Proofs.Ytcdofkhkckodjaa
