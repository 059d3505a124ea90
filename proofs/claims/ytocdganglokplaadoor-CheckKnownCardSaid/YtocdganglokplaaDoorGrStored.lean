/- A byte, a node written over: what then can be read. -/
import Derived.Test.YtocdganglokplaaDoorGrBA
import Derived.Laws.OwnMore
namespace Go.Proofs.YtocdganglokplaaDoor
open Go.ChangeShapes Go.WideShapes Go.ChangeAt Go.RowKit Go.BigFrame
set_option linter.unusedVariables false
theorem MyB.bytes_set {w : World} {g : Nat} {xs : List Nat} (hB : Bytes w (some ⟨g, 0, none⟩) xs) (hM : MyB w g xs.length) {i c : Nat} (hi : i < xs.length) (hc : c < 256) : Bytes (w.setCell ⟨g, i, none⟩ (.int .u8 (c : Nat))) (some ⟨g, 0, none⟩) (xs.set i c) := by
  refine ⟨fun x hx => ?_, fun hn => ?_⟩
  · rcases List.mem_or_eq_of_mem_set hx with h | h
    · exact hB.1 x h
    · rw [h]; exact hc
  · obtain ⟨ad, e, hlt, hcell⟩ := hB.2 (by simpa using hn)
    cases e
    refine ⟨⟨g, 0, none⟩, rfl, by simpa [World.setCell] using hlt, fun j x hj => ?_⟩
    obtain ⟨cur, fz, hh, hf, hcc⟩ := hM
    have hh' : (w.setCell ⟨g, i, none⟩ (.int .u8 (c : Nat))).heap[g]? = some (.cells (cur.setIfInBounds i (.int .u8 (c : Nat))) 5 fz) := by
      simp [World.setCell, Array.getElem?_modify, hh]
    rw [add_zero_off, cell_of_row _ g j _ _ fz hh']
    by_cases e : i = j
    · subst e
      obtain ⟨y, _, hy⟩ := hcc i hi
      have hl := (Array.getElem?_eq_some_iff.1 hy).1
      rw [List.getElem?_set_self hi] at hj
      injection hj with hj
      subst hj
      simp [Array.getElem?_setIfInBounds, hl]
    · rw [List.getElem?_set_ne e] at hj
      rw [Array.getElem?_setIfInBounds_ne (h := e), ← cell_of_row w g j cur _ fz hh, ← add_zero_off]
      exact hcell j x hj
theorem row_set1 (x : Gn) (ts : List Gn) (i j : Nat) (u : Value) : (Rw.row kindG (x :: ts)).set ((i + 1) * 5 + j) u = kindG.cells x ++ (Rw.row kindG ts).set (i * 5 + j) u := by
  have e : (kindG.cells x).length = 5 := rfl
  rw [Rw.row_cons, List.set_append_right (h := by rw [e]; omega), e, show (i + 1) * 5 + j - 5 = i * 5 + j by omega]
theorem row_set5 : ∀ (ts : List Gn) (i : Nat) (t : Gn), i < ts.length →
    (((((Rw.row kindG ts).set (i * 5) (.int .u8 (t.nd.k : Nat))).set (i * 5 + 1) (.int .u8 (t.nd.a : Nat))).set (i * 5 + 2) (.int .i64 t.nd.b)).set (i * 5 + 3) (.int .i64 t.nd.d)).set (i * 5 + 4) (.slice t.A t.nd.ins.length t.c) = Rw.row kindG (ts.set i t)
  | [], i, t, h => by simp at h
  | x :: ts, 0, t, _ => by rw [List.set_cons_zero, Rw.row_cons, Rw.row_cons]; rfl
  | x :: ts, i + 1, t, h => by
    have h1 := row_set5 ts i t (by simpa using h)
    have e : ∀ (l : List Value) (j : Nat) (u : Value), (kindG.cells x ++ l).set ((i + 1) * 5 + j) u = kindG.cells x ++ l.set (i * 5 + j) u := fun l j u => by
      have e : (kindG.cells x).length = 5 := rfl
      rw [List.set_append_right (h := by rw [e]; omega), e, show (i + 1) * 5 + j - 5 = i * 5 + j by omega]
    have e0 := e (Rw.row kindG ts) 0 (.int .u8 (t.nd.k : Nat))
    rw [Nat.add_zero, Nat.add_zero] at e0
    rw [List.set_cons_succ, Rw.row_cons, Rw.row_cons, e0, e, e, e, e, Nat.add_zero, h1]
theorem Ts.far {α : Type} {κ : Kind α} {w : World} {A : Option Addr} {ts : List α} (h : Rw.Ts κ w A ts) {g : Nat} (hA : ∀ ad, A = some ad → ad.block ≠ g) (j : Nat) (u : Value) : Rw.Ts κ (w.setCell ⟨g, j, none⟩ u) A ts := fun hn => by
  obtain ⟨b, o, e, hlt, hc⟩ := h hn
  refine ⟨b, o, e, by simpa [World.setCell] using hlt, fun k v hv => ?_⟩
  have hne := hA _ e
  have hh : (w.setCell ⟨g, j, none⟩ u).heap[b]? = w.heap[b]? := Below.heap_setCell _ _ _ _ hne
  have : (w.setCell ⟨g, j, none⟩ u).cell? ⟨b, o + k, none⟩ = w.cell? ⟨b, o + k, none⟩ := World.cell?_of_block (a := ⟨b, o + k, none⟩) hh
  rw [this]
  exact hc k v hv
/-- the graph after its node i was written over -/
theorem OwnG.stored {w : World} {base g c : Nat} {l : List Gn} (h : OwnG w base (.slice (some ⟨g, 0, none⟩) l.length c) l) {i : Nat} {x : Gn} (hi : i < l.length) (hx : x.Ok) (hT : Rw.Ts kindI w x.A x.nd.ins) (hA : ∀ ad, x.A = some ad → ad.block ≠ g) :
    Gr (((((w.setCell ⟨g, i * 5, none⟩ (.int .u8 (x.nd.k : Nat))).setCell ⟨g, i * 5 + 1, none⟩ (.int .u8 (x.nd.a : Nat))).setCell ⟨g, i * 5 + 2, none⟩ (.int .i64 x.nd.b)).setCell ⟨g, i * 5 + 3, none⟩ (.int .i64 x.nd.d)).setCell ⟨g, i * 5 + 4, none⟩ (.slice x.A x.nd.ins.length x.c)) (some ⟨g, 0, none⟩) (l.set i x) := by
  refine ⟨?_, fun y hy => ?_⟩
  · have h5 := (((((h.row.stored (i * 5) (.int .u8 (x.nd.k : Nat))).1.stored (i * 5 + 1) (.int .u8 (x.nd.a : Nat))).1.stored (i * 5 + 2) (.int .i64 x.nd.b)).1.stored (i * 5 + 3) (.int .i64 x.nd.d)).1.stored (i * 5 + 4) (.slice x.A x.nd.ins.length x.c)).1
    rw [row_set5 l i x hi] at h5
    obtain ⟨A, c', e, hts, _⟩ := Rw.Ts.of_own (κ := kindG) (ts := l.set i x) h5
    injection e with e _ _
    subst e
    exact hts
  · have far : ∀ {A : Option Addr} {zs : List Int}, Rw.Ts kindI w A zs → (∀ ad, A = some ad → ad.block ≠ g) → Rw.Ts kindI (((((w.setCell ⟨g, i * 5, none⟩ (.int .u8 (x.nd.k : Nat))).setCell ⟨g, i * 5 + 1, none⟩ (.int .u8 (x.nd.a : Nat))).setCell ⟨g, i * 5 + 2, none⟩ (.int .i64 x.nd.b)).setCell ⟨g, i * 5 + 3, none⟩ (.int .i64 x.nd.d)).setCell ⟨g, i * 5 + 4, none⟩ (.slice x.A x.nd.ins.length x.c)) A zs := fun ht ha => Ts.far (Ts.far (Ts.far (Ts.far (Ts.far ht ha _ _) ha _ _) ha _ _) ha _ _) ha _ _
    rcases List.mem_or_eq_of_mem_set hy with hy | rfl
    · have ho := h.ins y hy
      obtain ⟨A', c', e, hts, _⟩ := Rw.Ts.of_own ho
      cases e
      refine ⟨h.ok y hy, far hts fun ad e => ?_⟩
      have ha := ints_apart h.row ho
      rw [e] at ha
      rcases ha with ha | ha
      · cases ha
      · intro e2
        exact ha (by show some ad.block = some g; rw [e2])
    · exact ⟨hx, far hT hA⟩
theorem OwnG.set_below {w0 w : World} {base g c : Nat} {l : List Gn} (h : OwnG w base (.slice (some ⟨g, 0, none⟩) l.length c) l) (hb : Below base w0 w) (j : Nat) (u : Value) : Below base w0 (w.setCell ⟨g, j, none⟩ u) := hb.setCell (h.row.lt g rfl).1 u
end Go.Proofs.YtocdganglokplaaDoor
