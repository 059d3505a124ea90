/- GrBytes, GrMine -/
import Derived.Test.YtocdganglokplaaDoorGrTo
import Derived.Test.YtocdganglokplaaDoorConv
namespace Go.Proofs.YtocdganglokplaaDoor
set_option linter.unusedVariables false
section
open Go.ChangeShapes Go.WideShapes Go.ChangeAt Go.RowKit Go.BigFrame
def sameB (xs ys : List Nat) : Bool := decide (xs = ys)
theorem str_same {xs ys : List Nat} (hx : ∀ x ∈ xs, x < 256) (hy : ∀ y ∈ ys, y < 256) : ((strOf xs).toList == (strOf ys).toList) = sameB xs ys := by
  rw [str_eql]; unfold sameB; rw [decide_eq_decide]; exact strOf_inj hx hy
/-- a number below n (0 of none) -/
def PickD (n : Nat) (w : World) (e : Ending) (w' : World) : Prop := (∃ k : Nat, e = .returned (.int .i64 (k : Nat)) ∧ (k < n ∨ n = 0 ∧ k = 0)) ∧ w = w'
theorem insB_iff {l : List Gn} {T : Int} (h : insB (nds l) T = true) : (l.length : Int) ≤ T ∧ ∀ x ∈ l, (x.nd.ins.length : Int) ≤ T := by
  unfold insB at h
  rw [decide_eq_true_iff, nds_len] at h
  exact ⟨h.1, fun x hx => h.2 x.nd (List.mem_map.2 ⟨x, hx, rfl⟩)⟩
theorem gr_W {w : World} {A : Option Addr} {l : List Gn} (h : Gr w A l) : ∀ n ∈ nds l, n.W := by
  intro n hn
  obtain ⟨x, hx, rfl⟩ := List.mem_map.1 hn
  have hk := (h.2 x hx).1
  exact ⟨hk.k, hk.a, hk.b.1, by have := hk.b.2; omega⟩
/-- bytes of the call's own, as bytes -/
theorem own_bytes {w : World} {base n : Nat} {v : Value} {xs : List Nat} (h : w.ownsRow base 5 kindB.K v n (Rw.row kindB xs)) (hx : ∀ x ∈ xs, x < 256) :
    ∃ A c, v = .slice A xs.length c ∧ Bytes w A xs ∧ xs.length ≤ c ∧ c ≤ maxLen ∧ (A = none → c = 0) ∧ ∀ ad, A = some ad → base ≤ ad.block := by
  obtain ⟨A, c, e, hT, h1, h2, h3, h4⟩ := Rw.Ts.of_own h
  refine ⟨A, c, e, ⟨hx, fun hn => ?_⟩, h1, h2, h3, h4⟩
  obtain ⟨b, o, rfl, hlt, _⟩ := hT hn
  refine ⟨_, rfl, hlt, fun j x hj => ?_⟩
  obtain ⟨_, _, e, _, hc⟩ := bytes_at hT hj
  cases e
  rw [add_at]
  exact hc w (Below.refl _ _)
theorem putO_lt {g : List Nd} (h : ∀ n ∈ g, n.W) : ∀ x ∈ putO g, x < 256 := by
  unfold putO
  split
  · intro x hx; cases hx
  · split
    · exact putG_lt h (mayB_iff.1 ‹_›)
    · intro x hx; cases hx
theorem putO_len {g : List Nd} : (putO g).length ≤ 500 := by
  unfold putO
  split
  · simp
  · split
    · rename_i h1 h2
      have h := mayB_iff.1 h2
      have h3 := putNs_len g h.2
      have := h.1
      simp only [putG, List.length_cons]; omega
    · simp
theorem putE_zero {g : List Nd} (h : putE g = 0) : GMay g ∧ putO g = putG g := by
  unfold putE at h
  unfold putO
  split at h
  · cases h
  · split at h
    · rename_i h1 h2
      rw [if_neg h1, if_pos h2]
      exact ⟨mayB_iff.1 h2, rfl⟩
    · cases h
theorem sameB_graphs {g h : List Nd} (wg : ∀ n ∈ g, n.W) (wh : ∀ n ∈ h, n.W) (eg : putE g = 0) (eh : putE h = 0) : sameB (putO g) (putO h) = sameN g h := by
  obtain ⟨mg, e1⟩ := putE_zero eg
  obtain ⟨mh, e2⟩ := putE_zero eh
  rw [e1, e2, Bool.eq_iff_iff, sameN_iff]
  unfold sameB
  rw [decide_eq_true_iff]
  exact putG_inj wg wh mg mh
theorem ports_at {w : World} {A : Option Addr} {l : List (Nat × Nat)} (h : Rw.Ts kindP w A l) {i n k : Nat} (hi : l[i]? = some (n, k)) : ∃ b o, A = some ⟨b, o, none⟩ ∧ b < w.heap.size ∧ ∀ w', Below w.heap.size w w' → w'.cell? ⟨b, o + i * 2, none⟩ = some (.int .i64 (n : Nat)) ∧ w'.cell? ⟨b, o + i * 2 + 1, none⟩ = some (.int .i64 (k : Nat)) := by
  obtain ⟨b, o, e, hlt, hc⟩ := h.at_ hi
  exact ⟨b, o, e, hlt, fun w' hb => ⟨hc w' hb 0 _ rfl, hc w' hb 1 _ rfl⟩⟩
theorem inI_take {l : List Int} {p : Nat} {z : Int} (L : Nat) (h : l[p]? = some z) : inI L (l.take (p + 1)) = inI L (l.take p) + if 0 ≤ z ∧ z < (L : Int) then 1 else 0 := by
  unfold inI
  rw [List.take_add_one, h, Option.toList_some, List.filter_append, List.length_append]
  by_cases hz : 0 ≤ z ∧ z < (L : Int)
  · rw [if_pos hz, List.filter_cons_of_pos (by simpa using hz)]; rfl
  · rw [if_neg hz, List.filter_cons_of_neg (by simpa using hz)]; rfl
theorem inG_take {l : List Gn} {k : Nat} {x : Gn} (L : Nat) (h : l[k]? = some x) : inG L (nds (l.take (k + 1))) = inG L (nds (l.take k)) + inI L x.nd.ins := by
  unfold inG nds
  rw [List.take_add_one, h]; simp
def fedS (g : List Nd) (n : Nat) : Nat := ((List.range n).map fun j => cntG (j : Nat) g).sum
theorem fedS_succ (g : List Nd) (n : Nat) : fedS g (n + 1) = fedS g n + cntG (n : Nat) g := by
  unfold fedS
  rw [List.range_succ, List.map_append, List.sum_append]; simp
theorem inI_le (L : Nat) (l : List Int) : inI L l ≤ l.length := by unfold inI; exact List.length_filter_le _ _
theorem inG_le (L T : Nat) : ∀ (g : List Nd), (∀ x ∈ g, x.ins.length ≤ T) → inG L g ≤ g.length * T
  | [], _ => by simp [inG]
  | x :: g, h => by
    have h1 := inG_le L T g fun y hy => h y (List.mem_cons_of_mem _ hy)
    have h2 := inI_le L x.ins
    have h3 := h x List.mem_cons_self
    unfold inG at h1 ⊢
    simp only [List.map_cons, List.sum_cons, List.length_cons, Nat.succ_mul]
    omega
theorem cntG_le (i : Int) {T : Nat} {g : List Nd} (h : ∀ x ∈ g, x.ins.length ≤ T) : cntG i g ≤ g.length * T := by
  rw [← toG_cnt i g 0]; exact toG_len i T g 0 h
theorem fedS_le {T : Nat} {g : List Nd} (h : ∀ x ∈ g, x.ins.length ≤ T) : ∀ n, fedS g n ≤ n * (g.length * T)
  | 0 => by simp [fedS]
  | n + 1 => by
    have h1 := fedS_le h n
    have h2 := cntG_le (n : Nat) h
    rw [fedS_succ, Nat.succ_mul]; omega
theorem fedS_end (l : List Gn) : fedS (nds l) l.length = inG l.length (nds l) := fed_all l.length (nds l)
end

section
open Go.ChangeShapes Go.WideShapes Go.ChangeAt Go.RowKit Go.BigFrame
/-- block g begins with n bytes that may be written -/
def MyB (w : World) (g n : Nat) : Prop := ∃ (cur : Array Value) (fz : Nat × Nat), w.heap[g]? = some (.cells cur 5 fz) ∧ n ≤ fz.1 ∧ ∀ j, j < n → ∃ x : Nat, x < 256 ∧ cur[j]? = some (.int .u8 (x : Nat))
theorem MyB.at_ {w : World} {g n : Nat} (h : MyB w g n) {j : Nat} (hj : j < n) : ∃ x : Nat, x < 256 ∧ w.cell? ⟨g, j, none⟩ = some (.int .u8 (x : Nat)) ∧ w.frozen? ⟨g, j, none⟩ = false := by
  obtain ⟨cur, fz, hh, hf, hc⟩ := h
  obtain ⟨x, hx, he⟩ := hc j hj
  refine ⟨x, hx, by rw [cell_of_row w g j cur _ fz hh]; exact he, ?_⟩
  simp [World.frozen?, hh]
  omega
theorem MyB.put {w : World} {g n : Nat} (h : MyB w g n) (k x : Nat) (hx : x < 256) : MyB (w.setCell ⟨g, k, none⟩ (.int .u8 (x : Nat))) g n := by
  obtain ⟨cur, fz, hh, hf, hc⟩ := h
  refine ⟨cur.setIfInBounds k (.int .u8 (x : Nat)), fz, ?_, hf, fun j hj => ?_⟩
  · simp [World.setCell, Array.getElem?_modify, hh]
  · obtain ⟨y, hy, he⟩ := hc j hj
    by_cases e : k = j
    · subst e
      refine ⟨x, hx, ?_⟩
      have hl := (Array.getElem?_eq_some_iff.1 he).1
      simp [Array.getElem?_setIfInBounds, hl]
    · exact ⟨y, hy, by rw [Array.getElem?_setIfInBounds_ne (h := e)]; exact he⟩
theorem MyB.below {w w' : World} {g n B : Nat} (h : MyB w g n) (hb : Below B w w') (hg : g < B) : MyB w' g n := by
  obtain ⟨cur, fz, hh, hf, hc⟩ := h
  exact ⟨cur, fz, (hb.block g hg).trans hh, hf, hc⟩
section
variable {P : Program} {src dst : TypeId}
theorem wpList_mine {w : World} {ops : Array Oper} {rest : List Oper} {o : Oper} {a : Act} {Q : Exit → Act → World → Prop} (hgd : o.guard = none) (x : Operand) (ho : o.op = .convert src dst x)
    (hs : P.underlying src = some .string) (hd : P.underlying dst = some (.slice 5)) (he : P.underlying 5 = some (.int .u8)) (xs : List Nat) (hxs : ∀ x ∈ xs, x < 256) (hx : a.eval x = .string (strOf xs)) (hm : xs.length ≤ maxLen)
    (h : ∀ c w', Bytes w' (some ⟨w.heap.size, 0, none⟩) xs → MyB w' w.heap.size xs.length → Below w.heap.size w w' → xs.length ≤ c → c ≤ maxLen → w.heap.size < w'.heap.size → wpList P ops Q rest (a.put o.dst (.slice (some ⟨w.heap.size, 0, none⟩) xs.length c)) w') : wpList P ops Q (o :: rest) a w := by
  have hz : (strOf xs).size = xs.length := strOf_size xs
  have hr := run_bytes_of_string (P := P) w src dst 5 (strOf xs) hs hd he
  obtain ⟨c, w', hr', h1, h2, h3, h4, h5⟩ := run_tobytes (P := P) w (strOf xs) hs hd he (by rw [hz]; exact hm)
  rw [hr] at hr'
  injection hr' with e1 e2
  injection e1 with e3 e4 e5
  rw [bl_strOf xs hxs] at h1
  refine wpList_plain hgd fun K hK => ?_
  unfold Oper.wp execOp
  simp only [ho, hx, Sem.run_bind, hr, Result.andThen_ok, Sem.run_pure, Oper.upon]
  rw [e2, e5, hz]
  rw [hz] at h3
  refine hK _ _ (h c w' h1 ?_ h2 h3 h4 h5)
  rw [← e2]
  refine ⟨_, _, heap_alloc_new w.drew _, ?_, fun j hj => ?_⟩
  · show xs.length ≤ (bytesRow (strOf xs) _).size
    unfold bytesRow
    have : (strOf xs).data.size = xs.length := hz
    simp [this]
  · have h6 := h1.2 (by omega)
    obtain ⟨ad, e, _, hc⟩ := h6
    cases e
    obtain ⟨y, hy⟩ : ∃ y, xs[j]? = some y := ⟨_, List.getElem?_eq_getElem hj⟩
    have h7 := hc j y hy
    rw [← e2, add_zero_off, cell_of_row _ w.heap.size j _ _ _ (heap_alloc_new w.drew _)] at h7
    exact ⟨y, hxs y (List.mem_of_getElem? hy), h7⟩
end
theorem OwnG.far {w : World} {base g j : Nat} {v : Value} {l : List Gn} (h : OwnG w base v l) (hg : g < base) (u : Value) : OwnG (w.setCell ⟨g, j, none⟩ u) base v l where
  row := h.row.kept (grown_set w g j u) (by
    cases e : v.ownBlock with
    | none => exact .inl rfl
    | some k => right; intro hk; injection hk with hk; have := (h.row.lt k e).1; omega)
  ok := h.ok
  ins := fun x hx => (h.ins x hx).kept (grown_set w g j u) (by
    cases e : (Value.slice x.A x.nd.ins.length x.c).ownBlock with
    | none => exact .inl rfl
    | some k => right; intro hk; injection hk with hk; have := ((h.ins x hx).lt k e).1; omega)
theorem getR_iff {xs : List Nat} {g : List Nd} (hx : ∀ x ∈ xs, x < 256) (h : getR xs = some g) : (∀ n ∈ g, n.W) ∧ GMay g ∧ xs = putG g := by
  unfold getR at h
  split at h
  · rename_i g' e
    split at h
    · injection h with h
      subst h
      exact (getG_iff hx).1 ⟨e, mayB_iff.1 ‹_›⟩
    · cases h
  · cases h
theorem putE_of {g : List Nd} (h : GMay g) : putE g = 0 ∧ putO g = putG g := by
  have h1 := h.1
  unfold putE putO
  have h2 : ¬ (g.length < 1 ∨ 32 < g.length) := by omega
  have h3 := mayB_iff.2 h
  exact ⟨by rw [if_neg h2, if_pos h3], by rw [if_neg h2, if_pos h3]⟩
theorem getR_put {g : List Nd} (hw : ∀ n ∈ g, n.W) (e : putE g = 0) : getR (putO g) = some g := by
  obtain ⟨hm, e⟩ := putE_zero e
  rw [e]
  unfold getR
  rw [getG_put hw hm]
  simp only
  rw [if_pos (mayB_iff.2 hm)]
theorem getR_take {g : List Nd} (hw : ∀ n ∈ g, n.W) (e : putE g = 0) {k : Nat} (hk : k < (putO g).length) : getR ((putO g).take k) = none := by
  obtain ⟨hm, e⟩ := putE_zero e
  rw [e] at hk ⊢
  cases h : getR ((putG g).take k) with
  | none => rfl
  | some x =>
    exfalso
    obtain ⟨hx, mx, ex⟩ := getR_iff (fun y hy => putG_lt hw hm y (List.mem_of_mem_take hy)) h
    have := putG_begins (s := (putG g).drop k) hw hx hm mx (by rw [← ex, List.take_append_drop])
    have := congrArg List.length this
    simp only [List.length_drop, List.length_nil] at this
    omega
theorem putO_pos {g : List Nd} (e : putE g = 0) : 0 < (putO g).length := by
  obtain ⟨hm, e⟩ := putE_zero e
  rw [e]; unfold putG; simp
end
end Go.Proofs.YtocdganglokplaaDoor
