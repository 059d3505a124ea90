/- A graph that came in. -/
import Derived.Test.YtocdganglokplaaDoorGr
import Derived.Deep.Slices
import Derived.SizedLaws
namespace Go.Proofs.YtocdganglokplaaDoor
open Go.ChangeShapes Go.WideShapes Go.ChangeAt Go.RowKit Go.BigFrame
set_option linter.unusedVariables false
theorem i64_wf {n : Int} (h : (Lit.int .i64 n).wf = true) : -9223372036854775808 ≤ n ∧ n ≤ 9223372036854775807 := by
  simpa [Lit.wf, IntKind.min, IntKind.max, IntKind.signed, IntKind.bits] using h
theorem plain_addr {w : World} {a : Addr} {v : Value} (h : w.cell? a = some v) : ∃ b off, a = ⟨b, off, none⟩ := by
  obtain ⟨b, off, spot⟩ := a
  cases spot with
  | none => exact ⟨b, off, rfl⟩
  | some q =>
    exfalso
    unfold World.cell? at h
    cases hh : w.heap[b]? with
    | none => simp [hh] at h
    | some o => cases o <;> simp [hh] at h
theorem row_ints : ∀ (l : List Int), Rw.row kindI l = l.map (Value.int .i64)
  | [] => rfl
  | x :: l => by rw [Rw.row_cons, row_ints l]; rfl
/-- a row read cell by cell -/
theorem row_read {α : Type} {κ : Kind α} {f : Nat → Option Value} : ∀ {ts : List α}, (∀ (i : Nat) (t : α), ts[i]? = some t → ∀ (j : Nat) (u : Value), (κ.cells t)[j]? = some u → f (i * κ.K + j) = some u) → ∀ (j : Nat) (u : Value), (Rw.row κ ts)[j]? = some u → f j = some u := by
  intro ts
  induction ts generalizing f with
  | nil => intro _ j u h; simp [Rw.row] at h
  | cons t ts ih =>
    intro h j u hj
    rw [Rw.row_cons] at hj
    by_cases hlt : j < κ.K
    · rw [List.getElem?_append_left (by rw [κ.len]; exact hlt)] at hj
      have := h 0 t rfl j u hj
      rwa [Nat.zero_mul, Nat.zero_add] at this
    · rw [List.getElem?_append_right (by rw [κ.len]; omega), κ.len] at hj
      have := ih (f := fun j => f (κ.K + j)) (fun i t' ht j' u' hu => by
        have := h (i + 1) t' (by simpa using ht) j' u' hu
        rwa [Nat.succ_mul, show i * κ.K + κ.K + j' = κ.K + (i * κ.K + j') by omega] at this) (j - κ.K) u hj
      rwa [show κ.K + (j - κ.K) = j by omega] at this
section
variable {H : Type} {enc : TypeId × Value → H}
section
variable {P : Program} {w : World} {base : Nat} {spare : Nat → Bool} {held : Bool}
theorem trod_struct5 {t : TypeId} {f0 f1 f2 f3 f4 : Field} {fuel : Nat} {cs : List Value} {x : DataW H × List MemPlace} (ht : P.underlying t = some (.struct #[f0, f1, f2, f3, f4])) (h : DataW.trod enc P w base spare held fuel t cs = some x) :
    ∃ y0 y1 y2 y3 y4 n, x.1 = .agg [y0.1, y1.1, y2.1, y3.1, y4.1] ∧ cs.length = P.cellsOf t ∧ DataW.trod enc P w base spare held n f0.type ((cs.drop f0.offset).take (P.cellsOf f0.type)) = some y0 ∧
      DataW.trod enc P w base spare held n f1.type ((cs.drop f1.offset).take (P.cellsOf f1.type)) = some y1 ∧ DataW.trod enc P w base spare held n f2.type ((cs.drop f2.offset).take (P.cellsOf f2.type)) = some y2 ∧
      DataW.trod enc P w base spare held n f3.type ((cs.drop f3.offset).take (P.cellsOf f3.type)) = some y3 ∧ DataW.trod enc P w base spare held n f4.type ((cs.drop f4.offset).take (P.cellsOf f4.type)) = some y4 := by
  obtain ⟨xs, n, _, rfl, hl, hlen, hf⟩ := DataW.trod_struct ht h
  match xs, hlen with
  | [y0, y1, y2, y3, y4], _ => exact ⟨y0, y1, y2, y3, y4, n, by simp, hl, by simpa using hf 0 f0 rfl, by simpa using hf 1 f1 rfl, by simpa using hf 2 f2 rfl, by simpa using hf 3 f3 rfl, by simpa using hf 4 f4 rfl⟩
end
theorem cell_add {b off i j : Nat} : ((⟨b, off, none⟩ : Addr).add i).add j = ⟨b, off + i + j, none⟩ := by rw [add_at, add_at]
theorem cells_int : Tryd.prog.cellsOf 3 = 1 := by kernel_rfl
/-- a []int, as its cells tell -/
theorem trod_ints {W : World} {n : Nat} {cs : List Value} {y : DataW H × List MemPlace} (h4 : DataW.trod enc Tryd.prog W 0 (fun _ => true) true n 33 cs = some y) :
    ∃ (KA : Option Addr) (ks : List Int) (kc : Nat), cs = [.slice KA ks.length kc] ∧ Rw.Ts kindI W KA ks ∧ (∀ z ∈ ks, -9223372036854775808 ≤ z ∧ z ≤ 9223372036854775807) ∧ ks.length ≤ kc ∧ kc ≤ maxLen ∧ (KA = none → kc = 0) := by
  rcases open_ints Tryd.underlying33 Tryd.underlying3 cells_int h4 with ⟨hcs, _⟩ | ⟨ka, klen, kcap, zs, hcs, _, hkl, hkm, hkz, _, hkcell, hkw⟩
  · exact ⟨none, [], 0, hcs, Rw.Ts.nil, by simp, by simp, by simp, fun _ => rfl⟩
  · simp only [if_true] at hkz
    have hlen : (zs.take klen).length = klen := by simp; omega
    refine ⟨some ka, zs.take klen, kcap, by rw [hlen]; exact hcs, fun h0 => ?_, fun z hz => i64_wf (hkw z (List.mem_of_mem_take hz)), by omega, hkm, by simp⟩
    have hc1 := hkcell 0 (by omega)
    have hlt := cell_lt hc1
    rw [add_block] at hlt
    obtain ⟨b, off, rfl⟩ : ∃ b off, ka = ⟨b, off, none⟩ := by
      obtain ⟨b, off, e⟩ := plain_addr hc1
      obtain ⟨b', off', spot⟩ := ka
      simp [Addr.add] at e
      exact ⟨b', off', by rw [e.2.2]⟩
    refine ⟨b, off, rfl, hlt, fun j u hj => ?_⟩
    rw [row_ints, List.getElem?_map, Option.map_eq_some_iff] at hj
    obtain ⟨z, hj, rfl⟩ := hj
    have hj' := (List.getElem?_eq_some_iff.1 hj).1
    have h2 := hkcell j (by simp at hj'; omega)
    rw [add_at] at h2
    rw [h2]
    rw [List.getElem?_take] at hj
    split at hj
    · simp [List.getD_eq_getElem?_getD, hj]
    · cases hj
set_option maxRecDepth 100000 in
set_option maxHeartbeats 4000000 in
theorem open_graph {W : World} {base : Nat} {v : Value} {d : DataW H} {p : List MemPlace} (hok : Value.okWide Tryd.prog W .any base 23 v)
    (h : DataW.Trod enc Tryd.prog W 0 (fun _ => true) true 23 v d p) :
    ∃ (A : Option Addr) (l : List Gn) (c : Nat), v = .slice A l.length c ∧ Gr W A l ∧ l.length ≤ c ∧ c ≤ maxLen ∧ (A = none → c = 0) := by
  obtain ⟨A0, len, cap, rfl⟩ := okWide_slice Tryd.underlying23 hok
  obtain ⟨fuel, hf⟩ := h
  rcases Go.Deep.open_slice Tryd.underlying23 hf with ⟨hcs, _⟩ | ⟨a, len', cap', m, n, D, Pl, hcs, _, hl, hm, hmm, hx, hi⟩
  · simp [Value.cells] at hcs
    obtain ⟨rfl, rfl, rfl⟩ := hcs
    exact ⟨none, [], 0, rfl, Gr.nil, by simp, by simp, fun _ => rfl⟩
  · simp [Value.cells] at hcs
    obtain ⟨rfl, rfl, rfl⟩ := hcs
    simp only [if_true] at hmm
    subst hmm
    rw [show Tryd.prog.cellsOf 39 = 5 by kernel_rfl] at hi
    have key : ∀ i, i < len → ∃ x : Gn, (x.Ok ∧ Rw.Ts kindI W x.A x.nd.ins) ∧ W.cell? ((a.add (i * 5)).add 0) = some (.int .u8 (x.nd.k : Nat)) ∧ W.cell? ((a.add (i * 5)).add 1) = some (.int .u8 (x.nd.a : Nat)) ∧ W.cell? ((a.add (i * 5)).add 2) = some (.int .i64 x.nd.b) ∧ W.cell? ((a.add (i * 5)).add 3) = some (.int .i64 x.nd.d) ∧ W.cell? ((a.add (i * 5)).add 4) = some (.slice x.A x.nd.ins.length x.c) := by
      intro i hlt
      obtain ⟨cs', hc, ht⟩ := hi i (by omega)
      obtain ⟨_, hcl, hat⟩ := World.cells?_some hc
      obtain ⟨y0, y1, y2, y3, y4, n', hy, _, h0, h1, h2, h3, h4⟩ := trod_struct5 Tryd.underlying39 ht
      obtain ⟨u, e0, ey0, w0⟩ := DataW.trod_int Tryd.underlying5 h0
      obtain ⟨u', e1, ey1, w1⟩ := DataW.trod_int Tryd.underlying5 h1
      obtain ⟨z', e2, ey2, w2⟩ := DataW.trod_int Tryd.underlying2 h2
      obtain ⟨z, e3, ey3, w3⟩ := DataW.trod_int Tryd.underlying3 h3
      obtain ⟨KA, ks, kc, e4, hK, hkz, hk1, hk2, hkn⟩ := trod_ints h4
      obtain ⟨k, rfl⟩ := Int.eq_ofNat_of_zero_le (u8_wf w0).1
      have hu := (u8_wf w0).2
      obtain ⟨k', rfl⟩ := Int.eq_ofNat_of_zero_le (u8_wf w1).1
      have hu' := (u8_wf w1).2
      match cs', hcl, e0, e1, e2, e3, e4, hat with
      | [c0, c1, c2, c3, c4], _, e0, e1, e2, e3, e4, hat =>
        rw [show Tryd.prog.cellsOf 5 = 1 by kernel_rfl] at e0 e1
        rw [show Tryd.prog.cellsOf 2 = 1 by kernel_rfl] at e2
        rw [show Tryd.prog.cellsOf 3 = 1 by kernel_rfl] at e3
        rw [show Tryd.prog.cellsOf 33 = 1 by kernel_rfl] at e4
        simp at e0 e1 e2 e3 e4
        subst e0; subst e1; subst e2; subst e3; subst e4
        exact ⟨⟨⟨k, k', z', z, ks⟩, KA, kc⟩, ⟨⟨by show k < 256; omega, by show k' < 256; omega, i64_wf w2, i64_wf w3, hkz, ⟨hk1, hk2⟩, hkn⟩, hK⟩, hat 0 (by omega), hat 1 (by omega), hat 2 (by omega), hat 3 (by omega), hat 4 (by omega)⟩
    let f : Nat → Gn := fun i => if h : i < len then Classical.choose (key i h) else ⟨⟨0, 0, 0, 0, []⟩, none, 0⟩
    have hf' : ∀ i (h : i < len), f i = Classical.choose (key i h) := fun i h => by simp only [f]; rw [dif_pos h]
    have hspec := fun i (h : i < len) => (by rw [hf' i h]; exact Classical.choose_spec (key i h) :
      (((f i).Ok ∧ Rw.Ts kindI W (f i).A (f i).nd.ins) ∧ W.cell? ((a.add (i * 5)).add 0) = some (.int .u8 ((f i).nd.k : Nat)) ∧ W.cell? ((a.add (i * 5)).add 1) = some (.int .u8 ((f i).nd.a : Nat)) ∧ W.cell? ((a.add (i * 5)).add 2) = some (.int .i64 (f i).nd.b) ∧ W.cell? ((a.add (i * 5)).add 3) = some (.int .i64 (f i).nd.d) ∧ W.cell? ((a.add (i * 5)).add 4) = some (.slice (f i).A (f i).nd.ins.length (f i).c)))
    refine ⟨some a, (List.range len).map f, m, by simp, ⟨fun hn => ?_, fun t ht => ?_⟩, by simp; omega, by unfold maxLen at hm ⊢; omega, by simp⟩
    · have hlen : 0 < len := by simpa using hn
      have h0 := (hspec 0 hlen).2.1
      have hlt := cell_lt h0
      rw [add_block, add_block] at hlt
      obtain ⟨b, off, rfl⟩ : ∃ b off, a = ⟨b, off, none⟩ := by
        obtain ⟨b, off, e⟩ := plain_addr h0
        obtain ⟨b', off', spot⟩ := a
        simp [Addr.add] at e
        exact ⟨b', off', by rw [e.2.2]⟩
      refine ⟨b, off, rfl, hlt, fun j u hj => ?_⟩
      refine row_read (κ := kindG) (f := fun j => W.cell? ⟨b, off + j, none⟩) (fun i t ht j u hu => ?_) j u hj
      have hil : i < len := by simpa using (List.getElem?_eq_some_iff.1 ht).1
      rw [List.getElem?_map, List.getElem?_range hil] at ht
      obtain rfl : f i = t := by simpa using ht
      obtain ⟨_, h1, h2, h3, h4, h5⟩ := hspec i hil
      rw [cell_add] at h1 h2 h3 h4 h5
      show W.cell? ⟨b, off + (i * 5 + j), none⟩ = _
      rw [← Nat.add_assoc]
      match j, hu with
      | 0, hu => rw [h1]; exact hu
      | 1, hu => rw [h2]; exact hu
      | 2, hu => rw [h3]; exact hu
      | 3, hu => rw [h4]; exact hu
      | 4, hu => rw [h5]; exact hu
      | j + 5, hu => simp [kindG] at hu
    · obtain ⟨i, hi2, rfl⟩ := List.mem_map.1 ht
      exact (hspec i (List.mem_range.1 hi2)).1
end
end Go.Proofs.YtocdganglokplaaDoor
