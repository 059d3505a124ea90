/- Strings as bytes, bytes as strings. -/
import Derived.Test.YtcdofkhkckodjaaBytes
import Derived.Test.YtcdofkhkckodjaaFree
import Derived.Laws.IdiomStrings
import Derived.Laws.Strings
namespace Go.Proofs.Ytcdofkhkckodjaa
open Go.RowKit
/-- a string's bytes -/
def bl (b : ByteArray) : List Nat := b.data.toList.map UInt8.toNat
theorem bl_len (b : ByteArray) : (bl b).length = b.size := by unfold bl; rw [List.length_map, Array.length_toList]; rfl
theorem bl_lt (b : ByteArray) : ∀ x ∈ bl b, x < 256 := by
  intro x hx
  obtain ⟨u, _, rfl⟩ := List.mem_map.1 hx
  exact u.toNat_lt
theorem strOf_bl (b : ByteArray) : strOf (bl b) = b := by
  apply ByteArray.ext
  apply Array.ext'
  simp only [strOf, strOfNums_data, bl, List.map_map]
  conv => rhs; rw [← List.map_id b.data.toList]
  apply List.map_congr_left
  intro u _
  simp
theorem bl_strOf (xs : List Nat) (h : ∀ x ∈ xs, x < 256) : bl (strOf xs) = xs := by
  unfold bl
  simp only [strOf, strOfNums_data, List.map_map]
  conv => rhs; rw [← List.map_id xs]
  apply List.map_congr_left
  intro x hx
  have := h x hx
  simp; omega
theorem strOf_size (xs : List Nat) : (strOf xs).size = xs.length := by
  show (strOf xs).data.size = _
  have : (strOf xs).data.toList.length = xs.length := by simp only [strOf, strOfNums_data, List.length_map]
  simpa using this
theorem strOf_append (xs ys : List Nat) : strOf (xs ++ ys) = strOf xs ++ strOf ys := by
  apply ByteArray.ext
  apply Array.ext'
  simp [strOf, strOfNums_data]
theorem str_eql (a b : ByteArray) : (a.toList == b.toList) = decide (a = b) := by
  rw [ByteArray.toList_eq, ByteArray.toList_eq, Bool.eq_iff_iff, beq_iff_eq, decide_eq_true_iff]
  exact ⟨fun h => ByteArray.ext (Array.ext' h), fun h => by rw [h]⟩
section
variable {P : Program} {src dst e : TypeId}
theorem run_tobytes (w : World) (s : ByteArray) (hs : P.underlying src = some .string) (hd : P.underlying dst = some (.slice e)) (he : P.underlying e = some (.int .u8)) (hm : s.size ≤ maxLen) :
    ∃ c w', (convert src dst (.string s)).run P w = .ok (.slice (some ⟨w.heap.size, 0, none⟩) s.size c) w' ∧ Bytes w' (some ⟨w.heap.size, 0, none⟩) (bl s) ∧ Below w.heap.size w w' ∧ s.size ≤ c ∧ c ≤ maxLen ∧ w.heap.size < w'.heap.size := by
  refine ⟨_, _, run_bytes_of_string w src dst e s hs hd he, ⟨bl_lt s, fun _ => ⟨_, rfl, by simp, fun j x hj => ?_⟩⟩, (Below.refl _ _).drew.alloc (Nat.le_refl _) _, grownCap_ge _ _ _ _, grownCap_le_maxLen _ _ _ _ hm, by simp⟩
  have hj2 : j < s.size := by rw [← bl_len]; exact (List.getElem?_eq_some_iff.1 hj).1
  rw [add_zero_off, cell_of_row _ w.heap.size j _ e _ (heap_alloc_new w.drew _)]
  unfold bytesRow
  have h1 : j < s.data.size := hj2
  have hx : x = (s.data[j]).toNat := by
    unfold bl at hj
    rw [List.getElem?_map] at hj
    rw [Array.getElem?_toList, Array.getElem?_eq_getElem h1] at hj
    simpa using hj.symm
  subst hx
  rw [Array.getElem?_append_left (by simpa using h1), Array.getElem?_map, Array.getElem?_eq_getElem h1]
  rfl
theorem wpList_tobytes {w : World} {ops : Array Oper} {rest : List Oper} {o : Oper} {a : Act} {Q : Exit → Act → World → Prop} (hgd : o.guard = none) (x : Operand) (ho : o.op = .convert src dst x)
    (hs : P.underlying src = some .string) (hd : P.underlying dst = some (.slice e)) (he : P.underlying e = some (.int .u8)) (s : ByteArray) (hx : a.eval x = .string s) (hm : s.size ≤ maxLen)
    (h : ∀ c w', Bytes w' (some ⟨w.heap.size, 0, none⟩) (bl s) → Below w.heap.size w w' → s.size ≤ c → c ≤ maxLen → w.heap.size < w'.heap.size → wpList P ops Q rest (a.put o.dst (.slice (some ⟨w.heap.size, 0, none⟩) s.size c)) w') : wpList P ops Q (o :: rest) a w := by
  obtain ⟨c, w', hr, h1, h2, h3, h4, h5⟩ := run_tobytes (P := P) w s hs hd he hm
  refine wpList_plain hgd fun K hK => ?_
  unfold Oper.wp execOp
  simp only [ho, hx, Sem.run_bind, hr, Result.andThen_ok, Sem.run_pure, Oper.upon]
  exact hK _ _ (h c w' h1 h2 h3 h4 h5)
/-- s + t -/
theorem run_add_str (w : World) (t : TypeId) (x y : Operand) (a b : ByteArray) (ht : P.underlying t = some .string) (h : a.size + b.size ≤ 9223372036854775807) :
    (do eqGuard .add t x y (.string a) (.string b); binOp .add t (.string a) (.string b) : Sem Value).run P w = .ok (.string (a ++ b)) w := by
  simp [go_sem, eqGuard, binOp, run_underlying ht, Op.stringOp]
  omega
end
end Go.Proofs.Ytcdofkhkckodjaa
