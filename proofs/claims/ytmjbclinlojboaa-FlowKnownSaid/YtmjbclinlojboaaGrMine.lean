/- Bytes that a conversion has made, and that are written to. -/
import Derived.Test.YtmjbclinlojboaaGrBytes
namespace Go.Proofs.Ytmjbclinlojboaa
open Go.ChangeShapes Go.WideShapes Go.ChangeAt Go.RowKit Go.BigFrame
set_option linter.unusedVariables false
/-- block g begins with n bytes that may be written -/
def MyB (w : World) (g n : Nat) : Prop := ∃ (cur : Array Value) (fz : Nat × Nat), w.heap[g]? = some (.cells cur 5 fz) ∧ n ≤ fz.1 ∧ ∀ j, j < n → ∃ x : Nat, x < 256 ∧ cur[j]? = some (.int .u8 (x : Nat))
theorem MyB.at_ {w : World} {g n : Nat} (h : MyB w g n) {j : Nat} (hj : j < n) : ∃ x : Nat, x < 256 ∧ w.cell? ⟨g, j, none⟩ = some (.int .u8 (x : Nat)) ∧ w.frozen? ⟨g, j, none⟩ = false := by
  obtain ⟨cur, fz, hh, hf, hc⟩ := h
  obtain ⟨x, hx, he⟩ := hc j hj
  refine ⟨x, hx, by rw [cell_of_row w g j cur _ fz hh]; exact he, ?_⟩
  simp [World.frozen?, hh]
  omega
theorem MyB.put {w : World} {g n : Nat} (h : MyB w g n) (k x : Nat) (hx : x < 256) : MyB (w.setCell ⟨g, k, none⟩ (.int .u8 (x : Nat))) g n := by
  obtain ⟨cur, fz, hh, hf, hc⟩ := h
  refine ⟨cur.setIfInBounds k (.int .u8 (x : Nat)), fz, ?_, hf, fun j hj => ?_⟩
  · simp [World.setCell, Array.getElem?_modify, hh]
  · obtain ⟨y, hy, he⟩ := hc j hj
    by_cases e : k = j
    · subst e
      refine ⟨x, hx, ?_⟩
      have hl := (Array.getElem?_eq_some_iff.1 he).1
      simp [Array.getElem?_setIfInBounds, hl]
    · exact ⟨y, hy, by rw [Array.getElem?_setIfInBounds_ne (h := e)]; exact he⟩
theorem MyB.below {w w' : World} {g n B : Nat} (h : MyB w g n) (hb : Below B w w') (hg : g < B) : MyB w' g n := by
  obtain ⟨cur, fz, hh, hf, hc⟩ := h
  exact ⟨cur, fz, (hb.block g hg).trans hh, hf, hc⟩
section
variable {P : Program} {src dst : TypeId}
theorem wpList_mine {w : World} {ops : Array Oper} {rest : List Oper} {o : Oper} {a : Act} {Q : Exit → Act → World → Prop} (hgd : o.guard = none) (x : Operand) (ho : o.op = .convert src dst x)
    (hs : P.underlying src = some .string) (hd : P.underlying dst = some (.slice 5)) (he : P.underlying 5 = some (.int .u8)) (xs : List Nat) (hxs : ∀ x ∈ xs, x < 256) (hx : a.eval x = .string (strOf xs)) (hm : xs.length ≤ maxLen)
    (h : ∀ c w', Bytes w' (some ⟨w.heap.size, 0, none⟩) xs → MyB w' w.heap.size xs.length → Below w.heap.size w w' → xs.length ≤ c → c ≤ maxLen → w.heap.size < w'.heap.size → wpList P ops Q rest (a.put o.dst (.slice (some ⟨w.heap.size, 0, none⟩) xs.length c)) w') : wpList P ops Q (o :: rest) a w := by
  have hz : (strOf xs).size = xs.length := strOf_size xs
  have hr := run_bytes_of_string (P := P) w src dst 5 (strOf xs) hs hd he
  obtain ⟨c, w', hr', h1, h2, h3, h4, h5⟩ := run_tobytes (P := P) w (strOf xs) hs hd he (by rw [hz]; exact hm)
  rw [hr] at hr'
  injection hr' with e1 e2
  injection e1 with e3 e4 e5
  rw [bl_strOf xs hxs] at h1
  refine wpList_plain hgd fun K hK => ?_
  unfold Oper.wp execOp
  simp only [ho, hx, Sem.run_bind, hr, Result.andThen_ok, Sem.run_pure, Oper.upon]
  rw [e2, e5, hz]
  rw [hz] at h3
  refine hK _ _ (h c w' h1 ?_ h2 h3 h4 h5)
  rw [← e2]
  refine ⟨_, _, heap_alloc_new w.drew _, ?_, fun j hj => ?_⟩
  · show xs.length ≤ (bytesRow (strOf xs) _).size
    unfold bytesRow
    have : (strOf xs).data.size = xs.length := hz
    simp [this]
  · have h6 := h1.2 (by omega)
    obtain ⟨ad, e, _, hc⟩ := h6
    cases e
    obtain ⟨y, hy⟩ : ∃ y, xs[j]? = some y := ⟨_, List.getElem?_eq_getElem hj⟩
    have h7 := hc j y hy
    rw [← e2, add_zero_off, cell_of_row _ w.heap.size j _ _ _ (heap_alloc_new w.drew _)] at h7
    exact ⟨y, hxs y (List.mem_of_getElem? hy), h7⟩
end
theorem OwnG.far {w : World} {base g j : Nat} {v : Value} {l : List Gn} (h : OwnG w base v l) (hg : g < base) (u : Value) : OwnG (w.setCell ⟨g, j, none⟩ u) base v l where
  row := h.row.kept (grown_set w g j u) (by
    cases e : v.ownBlock with
    | none => exact .inl rfl
    | some k => right; intro hk; injection hk with hk; have := (h.row.lt k e).1; omega)
  ok := h.ok
  ins := fun x hx => (h.ins x hx).kept (grown_set w g j u) (by
    cases e : (Value.slice x.A x.nd.ins.length x.c).ownBlock with
    | none => exact .inl rfl
    | some k => right; intro hk; injection hk with hk; have := ((h.ins x hx).lt k e).1; omega)
theorem getR_iff {xs : List Nat} {g : List Nd} (hx : ∀ x ∈ xs, x < 256) (h : getR xs = some g) : (∀ n ∈ g, n.W) ∧ GMay g ∧ xs = putG g := by
  unfold getR at h
  split at h
  · rename_i g' e
    split at h
    · injection h with h
      subst h
      exact (getG_iff hx).1 ⟨e, mayB_iff.1 ‹_›⟩
    · cases h
  · cases h
theorem putE_of {g : List Nd} (h : GMay g) : putE g = 0 ∧ putO g = putG g := by
  have h1 := h.1
  unfold putE putO
  have h2 : ¬ (g.length < 1 ∨ 32 < g.length) := by omega
  have h3 := mayB_iff.2 h
  exact ⟨by rw [if_neg h2, if_pos h3], by rw [if_neg h2, if_pos h3]⟩
theorem getR_put {g : List Nd} (hw : ∀ n ∈ g, n.W) (e : putE g = 0) : getR (putO g) = some g := by
  obtain ⟨hm, e⟩ := putE_zero e
  rw [e]
  unfold getR
  rw [getG_put hw hm]
  simp only
  rw [if_pos (mayB_iff.2 hm)]
theorem getR_take {g : List Nd} (hw : ∀ n ∈ g, n.W) (e : putE g = 0) {k : Nat} (hk : k < (putO g).length) : getR ((putO g).take k) = none := by
  obtain ⟨hm, e⟩ := putE_zero e
  rw [e] at hk ⊢
  cases h : getR ((putG g).take k) with
  | none => rfl
  | some x =>
    exfalso
    obtain ⟨hx, mx, ex⟩ := getR_iff (fun y hy => putG_lt hw hm y (List.mem_of_mem_take hy)) h
    have := putG_begins (s := (putG g).drop k) hw hx hm mx (by rw [← ex, List.take_append_drop])
    have := congrArg List.length this
    simp only [List.length_drop, List.length_nil] at this
    omega
theorem putO_pos {g : List Nd} (e : putE g = 0) : 0 < (putO g).length := by
  obtain ⟨hm, e⟩ := putE_zero e
  rw [e]; unfold putG; simp
end Go.Proofs.Ytmjbclinlojboaa
