/- OpOpen -/
import Derived.Test.YtcjdjdhjbchaaaaCa13
import Derived.Test.YtcjdjdhjbchaaaaCa7
namespace Go.Proofs.Ytcjdjdhjbchaaaa
set_option linter.unusedVariables false
section
namespace Op
open Go.ChangeShapes Go.WideShapes Go.ChangeAt Go.RowKit Go.BigFrame Go.Shelf Vr
set_option maxRecDepth 100000
section
variable {H : Type} {enc : TypeId × Value → H}
/-- a node that came in: its numbers are such -/
structure NodeOk (n : Nd) : Prop where
  k : n.k < 256
  a : n.a < 256
  b : -9223372036854775808 ≤ n.b ∧ n.b ≤ 9223372036854775807
  d : -9223372036854775808 ≤ n.d ∧ n.d ≤ 9223372036854775807
theorem open_node {W : World} {base : Nat} {v : Value} {d : DataW H} {p : List MemPlace} (hok : Value.okWide Try.prog W .any base 24 v)
    (h : DataW.Trod enc Try.prog W 0 (fun _ => true) true 24 v d p) : ∃ (n : Nd) (A : Option Addr) (m c : Nat), v = nodeV n A m c ∧ NodeOk n := by
  obtain ⟨cs, rfl, hsz⟩ := okWide_struct Try.underlying24 hok
  obtain ⟨l⟩ := cs
  obtain ⟨fuel, hf⟩ := h
  obtain ⟨y0, y1, y2, y3, y4, n', hy, _, h0, h1, h2, h3, h4⟩ := trod_struct5 Try.underlying24 hf
  obtain ⟨u, e0, ey0, w0⟩ := DataW.trod_int Try.underlying5 h0
  obtain ⟨u', e1, ey1, w1⟩ := DataW.trod_int Try.underlying5 h1
  obtain ⟨z', e2, ey2, w2⟩ := DataW.trod_int Try.underlying2 h2
  obtain ⟨z, e3, ey3, w3⟩ := DataW.trod_int Try.underlying3 h3
  obtain ⟨KA, ks, kc, e4, hK, hkz, hk1, hk2, hkn⟩ := trod_ints h4
  obtain ⟨k, rfl⟩ := Int.eq_ofNat_of_zero_le (u8_wf w0).1
  have hu := (u8_wf w0).2
  obtain ⟨k', rfl⟩ := Int.eq_ofNat_of_zero_le (u8_wf w1).1
  have hu' := (u8_wf w1).2
  have hsz5 : l.length = 5 := by
    have : Try.prog.cellsOf 24 = 5 := by kernel_rfl
    rw [this] at hsz; simpa using hsz
  match l, hsz5, e0, e1, e2, e3, e4 with
  | [c0, c1, c2, c3, c4], _, e0, e1, e2, e3, e4 =>
    rw [show Try.prog.cellsOf 5 = 1 by kernel_rfl] at e0 e1
    rw [show Try.prog.cellsOf 2 = 1 by kernel_rfl] at e2
    rw [show Try.prog.cellsOf 3 = 1 by kernel_rfl] at e3
    rw [show Try.prog.cellsOf 22 = 1 by kernel_rfl] at e4
    simp [Value.cells] at e0 e1 e2 e3 e4
    subst e0; subst e1; subst e2; subst e3; subst e4
    exact ⟨⟨k, k', z', z, ks⟩, KA, ks.length, kc, rfl, ⟨by show k < 256; omega, by show k' < 256; omega, Go.Proofs.Ytcjdjdhjbchaaaa.i64_wf w2, Go.Proofs.Ytcjdjdhjbchaaaa.i64_wf w3⟩⟩
theorem trod_recs {W : World} {fuel : Nat} {cs : List Value} {x : DataW H × List MemPlace} (hf : DataW.trod enc Try.prog W 0 (fun _ => true) true fuel 28 cs = some x) :
    ∃ (A : Option Addr) (l : List Rd) (c : Nat), cs = [.slice A l.length c] ∧ Rw.Ts kindR W A l ∧ (∀ r ∈ l, r.W) ∧ l.length ≤ c ∧ c ≤ maxLen ∧ (A = none → c = 0 ∧ l = []) := by
  rcases Go.Deep.open_slice Try.underlying28 hf with ⟨hcs, _⟩ | ⟨a, len, cap', m, n, D, Pl, hcs, _, hl, hm, hmm, hx, hi⟩
  · exact ⟨none, [], 0, hcs, Rw.Ts.nil, by simp, by simp, by simp, fun _ => ⟨rfl, rfl⟩⟩
  · simp only [if_true] at hmm
    subst hmm
    rw [cells_rec] at hi
    have key : ∀ i, i < len → ∃ x : Rd, (∀ j u, x.cells[j]? = some u → W.cell? ((a.add (i * 2)).add j) = some u) ∧ x.W := by
      intro i hlt
      obtain ⟨cs', hc, ht⟩ := hi i (by omega)
      obtain ⟨_, hcl, hat⟩ := World.cells?_some hc
      obtain ⟨t, rfl, hW⟩ := rec_cells hcl ht
      refine ⟨t, fun j u hu => ?_, hW⟩
      have hj : j < 2 := (List.getElem?_eq_some_iff.1 hu).1
      rw [hat j hj]; exact hu
    let f : Nat → Rd := fun i => if h : i < len then Classical.choose (key i h) else ⟨0, 0⟩
    have hf' : ∀ i (h : i < len), f i = Classical.choose (key i h) := fun i h => by simp only [f]; rw [dif_pos h]
    have hspec := fun i (h : i < len) => (by rw [hf' i h]; exact Classical.choose_spec (key i h) : (∀ j u, (f i).cells[j]? = some u → W.cell? ((a.add (i * 2)).add j) = some u) ∧ (f i).W)
    refine ⟨some a, (List.range len).map f, m, by simpa using hcs, fun hn => ?_, fun r hr => ?_, by simp; omega, hm, by simp⟩
    · have hlen : 0 < len := by simpa using hn
      have h0 := (hspec 0 hlen).1 0 _ rfl
      have hlt := cell_lt h0
      rw [add_block, add_block] at hlt
      obtain ⟨b, off, rfl⟩ : ∃ b off, a = ⟨b, off, none⟩ := by
        obtain ⟨b, off, e⟩ := plain_addr1 h0
        obtain ⟨b', off', spot⟩ := a
        simp [Addr.add] at e
        exact ⟨b', off', by rw [e.2.2]⟩
      refine ⟨b, off, rfl, hlt, fun j u hu => ?_⟩
      have hj : j < len * 2 := by
        have := (List.getElem?_eq_some_iff.1 hu).1
        rw [Rw.row_len] at this
        have h2 : ((List.range len).map f).length = len := by simp
        rw [h2] at this; exact this
      have hil : j / 2 < len := by omega
      have hti : ((List.range len).map f)[j / 2]? = some (f (j / 2)) := by rw [List.getElem?_map, List.getElem?_range hil]; rfl
      obtain ⟨u', hu'⟩ : ∃ u', (f (j / 2)).cells[j % 2]? = some u' := ⟨_, List.getElem?_eq_getElem (by show j % 2 < 2; omega)⟩
      have h1 := Rw.row_at (κ := kindR) _ (j / 2) _ hti (j % 2) u' hu'
      rw [show j / 2 * kindR.K + j % 2 = j by show j / 2 * 2 + j % 2 = j; omega, hu] at h1
      cases h1
      have h2 := (hspec (j / 2) hil).1 (j % 2) u hu'
      rw [add_at, add_at, Nat.add_assoc, show j / 2 * 2 + j % 2 = j by omega] at h2
      exact h2
    · obtain ⟨i, hi', rfl⟩ := List.mem_map.1 hr
      exact (hspec i (List.mem_range.1 hi')).2
theorem cells_recs : Try.prog.cellsOf 28 = 1 := by kernel_rfl
theorem open_recss {W : World} {base : Nat} {v : Value} {d : DataW H} {p : List MemPlace} (hok : Value.okWide Try.prog W .any base 25 v)
    (h : DataW.Trod enc Try.prog W 0 (fun _ => true) true 25 v d p) :
    ∃ (A : Option Addr) (c : Nat) (L : List Rr), v = .slice A L.length c ∧ RowsIn W A L ∧ (∀ q ∈ L, ∀ r ∈ q.ts, r.W) ∧ L.length ≤ c ∧ c ≤ maxLen ∧ (∀ q ∈ L, q.ts.length ≤ q.c ∧ q.c ≤ maxLen) := by
  obtain ⟨A0, len, cap, rfl⟩ := okWide_slice Try.underlying25 hok
  obtain ⟨fuel, hf⟩ := h
  rcases Go.Deep.open_slice Try.underlying25 hf with ⟨hcs, _⟩ | ⟨a, len', cap', m, n, D, Pl, hcs, _, hl, hm, hmm, hx, hi⟩
  · simp [Value.cells] at hcs
    obtain ⟨rfl, rfl, rfl⟩ := hcs
    exact ⟨none, 0, [], rfl, RowsIn.nil, by simp, by simp, by simp, by simp⟩
  · simp [Value.cells] at hcs
    obtain ⟨rfl, rfl, rfl⟩ := hcs
    simp only [if_true] at hmm
    subst hmm
    rw [cells_recs] at hi
    have key : ∀ i, i < len → ∃ q : Rr, W.cell? (a.add i) = some q.val ∧ q.Ok W ∧ (∀ r ∈ q.ts, r.W) ∧ q.ts.length ≤ q.c ∧ q.c ≤ maxLen := by
      intro i hlt
      obtain ⟨cs', hc, ht⟩ := hi i (by omega)
      obtain ⟨_, hcl, hat⟩ := World.cells?_some hc
      obtain ⟨A, l, c, rfl, hT, hW, h1, h2, h3⟩ := trod_recs ht
      have h0 := hat 0 (by simp)
      rw [Nat.mul_one] at h0
      refine ⟨⟨A, l, c⟩, ?_, ⟨hT, h3⟩, hW, h1, h2⟩
      have : (a.add i).add 0 = a.add i := by unfold Addr.add; simp
      rw [this] at h0
      exact h0
    let f : Nat → Rr := fun i => if h : i < len then Classical.choose (key i h) else ⟨none, [], 0⟩
    have hf' : ∀ i (h : i < len), f i = Classical.choose (key i h) := fun i h => by simp only [f]; rw [dif_pos h]
    have hspec := fun i (h : i < len) => (by rw [hf' i h]; exact Classical.choose_spec (key i h) : W.cell? (a.add i) = some (f i).val ∧ (f i).Ok W ∧ (∀ r ∈ (f i).ts, r.W) ∧ (f i).ts.length ≤ (f i).c ∧ (f i).c ≤ maxLen)
    refine ⟨some a, m, (List.range len).map f, by simp, ⟨fun hn => ?_, fun q hq => ?_⟩, fun q hq => ?_, by simp; omega, hm, fun q hq => ?_⟩
    · have hlen : 0 < len := by simpa using hn
      have h0 := (hspec 0 hlen).1
      have hlt := cell_lt h0
      rw [add_block] at hlt
      obtain ⟨b, off, rfl⟩ : ∃ b off, a = ⟨b, off, none⟩ := by
        obtain ⟨b, off, e⟩ := plain_addr1 h0
        obtain ⟨b', off', spot⟩ := a
        simp [Addr.add] at e
        exact ⟨b', off', by rw [e.2.2]⟩
      refine ⟨b, off, rfl, hlt, fun j u hu => ?_⟩
      rw [row_rr, List.getElem?_map] at hu
      cases hj : ((List.range len).map f)[j]? with
      | none => rw [hj] at hu; cases hu
      | some q =>
        rw [hj] at hu
        simp only [Option.map_some, Option.some.injEq] at hu
        subst hu
        have hjl : j < len := by have := (List.getElem?_eq_some_iff.1 hj).1; simpa using this
        rw [List.getElem?_map, List.getElem?_range hjl] at hj
        obtain rfl : f j = q := by simpa using hj
        have := (hspec j hjl).1
        rw [add_at] at this
        exact this
    · obtain ⟨i, hi', rfl⟩ := List.mem_map.1 hq
      exact (hspec i (List.mem_range.1 hi')).2.1
    · obtain ⟨i, hi', rfl⟩ := List.mem_map.1 hq
      exact (hspec i (List.mem_range.1 hi')).2.2.1
    · obtain ⟨i, hi', rfl⟩ := List.mem_map.1 hq
      exact (hspec i (List.mem_range.1 hi')).2.2.2
end
end Op
end
end Go.Proofs.Ytcjdjdhjbchaaaa
