/- A row of calls that came in. -/
import Derived.Test.YtgfdpilgonpokaaInts
import Derived.Deep.Slices
import Derived.Deep.Strs
namespace Go.Proofs.Ytgfdpilgonpokaa
open Go.ChangeShapes Go.WideShapes Go.ChangeAt Go.RowKit Go.BigFrame
set_option linter.unusedVariables false
structure De where
  kind : Nat
  name : ByteArray
  b : ByteArray
  n : Int
  ka : Option Addr
  keep : List Int
  kc : Nat
/-- its numbers are such -/
structure De.Ok (x : De) : Prop where
  kind : x.kind ≤ 255
  name : x.name.size ≤ 9223372036854775807
  b : x.b.size ≤ 9223372036854775807
  n : -9223372036854775808 ≤ x.n ∧ x.n ≤ 9223372036854775807
  kc : x.keep.length ≤ x.kc
  km : x.kc ≤ 9223372036854775807
def De.cells (x : De) (w : World) (b off : Nat) : Prop :=
  w.cell? ⟨b, off, none⟩ = some (.int .u8 (x.kind : Nat)) ∧ w.cell? ⟨b, off + 1, none⟩ = some (.string x.name) ∧ w.cell? ⟨b, off + 2, none⟩ = some (.string x.b) ∧ w.cell? ⟨b, off + 3, none⟩ = some (.int .i64 x.n) ∧ w.cell? ⟨b, off + 4, none⟩ = some (.slice x.ka x.keep.length x.kc)
def Deeds (w : World) (A : Option Addr) (l : List De) : Prop :=
  (∀ x ∈ l, x.Ok ∧ IntsAt w x.ka x.keep) ∧ (0 < l.length → ∃ b off, A = some ⟨b, off, none⟩ ∧ b < w.heap.size ∧ ∀ (j : Nat) (x : De), l[j]? = some x → x.cells w b (off + j * 5))
section
variable {w w' : World} {A : Option Addr} {l : List De}
theorem Deeds.below (h : Deeds w A l) (hb : Below w.heap.size w w') : Deeds w' A l :=
  ⟨fun x hx => ⟨(h.1 x hx).1, (h.1 x hx).2.touch (Touch.of_below (F := fun _ => False) hb) (by simp)⟩, fun h0 => by
    obtain ⟨b, off, e, hlt, hc⟩ := h.2 h0
    refine ⟨b, off, e, Nat.lt_of_lt_of_le hlt hb.size, fun j x hj => ?_⟩
    obtain ⟨h1, h2, h3, h4, h5⟩ := hc j x hj
    exact ⟨(World.cell?_of_block (hb.block b hlt)).trans h1, (World.cell?_of_block (hb.block b hlt)).trans h2, (World.cell?_of_block (hb.block b hlt)).trans h3, (World.cell?_of_block (hb.block b hlt)).trans h4, (World.cell?_of_block (hb.block b hlt)).trans h5⟩⟩
end
section
variable {H : Type} {enc : TypeId × Value → H}
section
variable {P : Program} {w : World} {base : Nat} {spare : Nat → Bool} {held : Bool}
theorem trod_struct5 {t : TypeId} {f0 f1 f2 f3 f4 : Field} {fuel : Nat} {cs : List Value} {x : DataW H × List MemPlace} (ht : P.underlying t = some (.struct #[f0, f1, f2, f3, f4])) (h : DataW.trod enc P w base spare held fuel t cs = some x) :
    ∃ y0 y1 y2 y3 y4 n, x.1 = .agg [y0.1, y1.1, y2.1, y3.1, y4.1] ∧ cs.length = P.cellsOf t ∧ DataW.trod enc P w base spare held n f0.type ((cs.drop f0.offset).take (P.cellsOf f0.type)) = some y0 ∧
      DataW.trod enc P w base spare held n f1.type ((cs.drop f1.offset).take (P.cellsOf f1.type)) = some y1 ∧ DataW.trod enc P w base spare held n f2.type ((cs.drop f2.offset).take (P.cellsOf f2.type)) = some y2 ∧
      DataW.trod enc P w base spare held n f3.type ((cs.drop f3.offset).take (P.cellsOf f3.type)) = some y3 ∧ DataW.trod enc P w base spare held n f4.type ((cs.drop f4.offset).take (P.cellsOf f4.type)) = some y4 := by
  obtain ⟨xs, n, _, rfl, hl, hlen, hf⟩ := DataW.trod_struct ht h
  match xs, hlen with
  | [y0, y1, y2, y3, y4], _ => exact ⟨y0, y1, y2, y3, y4, n, by simp, hl, by simpa using hf 0 f0 rfl, by simpa using hf 1 f1 rfl, by simpa using hf 2 f2 rfl, by simpa using hf 3 f3 rfl, by simpa using hf 4 f4 rfl⟩
end
theorem cell_add {b off i j : Nat} : ((⟨b, off, none⟩ : Addr).add i).add j = ⟨b, off + i + j, none⟩ := by rw [plain_add, plain_add]
set_option maxRecDepth 100000 in
set_option maxHeartbeats 4000000 in
theorem open_deeds {W : World} {base : Nat} {v : Value} {d : DataW H} {p : List MemPlace} (hok : Value.okWide Try.prog W .any base 23 v)
    (h : DataW.Trod enc Try.prog W 0 (fun _ => true) true 23 v d p) :
    ∃ (A : Option Addr) (l : List De) (c : Nat), v = .slice A l.length c ∧ Deeds W A l ∧ l.length ≤ c ∧ c ≤ 9223372036854775807 := by
  obtain ⟨A0, len, cap, rfl⟩ := okWide_slice Try.underlying23 hok
  obtain ⟨fuel, hf⟩ := h
  rcases Go.Deep.open_slice Try.underlying23 hf with ⟨hcs, _⟩ | ⟨a, len', cap', m, n, D, Pl, hcs, _, hl, hm, hmm, hx, hi⟩
  · simp [Value.cells] at hcs
    obtain ⟨rfl, rfl, rfl⟩ := hcs
    exact ⟨none, [], 0, rfl, ⟨by simp, by simp⟩, by simp, by simp⟩
  · simp [Value.cells] at hcs
    obtain ⟨rfl, rfl, rfl⟩ := hcs
    simp only [if_true] at hmm
    subst hmm
    rw [show Try.prog.cellsOf 32 = 5 by kernel_rfl] at hi
    have key : ∀ i, i < len → ∃ x : De, (x.Ok ∧ IntsAt W x.ka x.keep) ∧ W.cell? ((a.add (i * 5)).add 0) = some (.int .u8 (x.kind : Nat)) ∧ W.cell? ((a.add (i * 5)).add 1) = some (.string x.name) ∧ W.cell? ((a.add (i * 5)).add 2) = some (.string x.b) ∧ W.cell? ((a.add (i * 5)).add 3) = some (.int .i64 x.n) ∧ W.cell? ((a.add (i * 5)).add 4) = some (.slice x.ka x.keep.length x.kc) := by
      intro i hlt
      obtain ⟨cs', hc, ht⟩ := hi i (by omega)
      obtain ⟨_, hcl, hat⟩ := World.cells?_some hc
      obtain ⟨y0, y1, y2, y3, y4, n', hy, _, h0, h1, h2, h3, h4⟩ := trod_struct5 Try.underlying32 ht
      obtain ⟨u, e0, ey0, w0⟩ := DataW.trod_int Try.underlying5 h0
      obtain ⟨s1, e1, ey1, w1⟩ := DataW.trod_string Try.underlying9 h1
      obtain ⟨s2, e2, ey2, w2⟩ := DataW.trod_string Try.underlying9 h2
      obtain ⟨z, e3, ey3, w3⟩ := DataW.trod_int Try.underlying3 h3
      have hk : ∃ (KA : Option Addr) (ks : List Int) (kc : Nat), (cs'.drop 4).take (Try.prog.cellsOf 30) = [.slice KA ks.length kc] ∧ IntsAt W KA ks ∧ ks.length ≤ kc ∧ kc ≤ 9223372036854775807 := by
        rcases open_ints Try.underlying30 Try.underlying3 cells_int h4 with ⟨hcs, _⟩ | ⟨ka, klen, kcap, zs, hcs, _, hkl, hkm, hkz, _, hkcell, hkw⟩
        · exact ⟨none, [], 0, hcs, ⟨by simp, by simp⟩, by simp, by simp⟩
        · simp only [if_true] at hkz
          have hlen : (zs.take klen).length = klen := by simp; omega
          refine ⟨some ka, zs.take klen, kcap, by rw [hlen]; exact hcs, ⟨fun z hz => i64_wf (hkw z (List.mem_of_mem_take hz)), fun h0 => ?_⟩, by omega, by unfold maxLen at hkm; exact hkm⟩
          have hc1 := hkcell 0 (by omega)
          have hlt := cell_lt hc1
          rw [add_block] at hlt
          obtain ⟨b, off, rfl⟩ : ∃ b off, ka = ⟨b, off, none⟩ := by
            obtain ⟨b, off, e⟩ := plain_addr hc1
            obtain ⟨b', off', spot⟩ := ka
            simp [Addr.add] at e
            exact ⟨b', off', by rw [e.2.2]⟩
          refine ⟨b, off, rfl, hlt, fun j z hj => ?_⟩
          have hj' := (List.getElem?_eq_some_iff.1 hj).1
          have h2 := hkcell j (by simp at hj'; omega)
          rw [plain_add] at h2
          rw [h2]
          rw [List.getElem?_take] at hj
          split at hj
          · simp [List.getD_eq_getElem?_getD, hj]
          · cases hj
      obtain ⟨KA, ks, kc, e4, hK, hk1, hk2⟩ := hk
      obtain ⟨k, rfl⟩ := Int.eq_ofNat_of_zero_le (u8_wf w0).1
      have hu := (u8_wf w0).2
      match cs', hcl, e0, e1, e2, e3, e4, hat with
      | [c0, c1, c2, c3, c4], _, e0, e1, e2, e3, e4, hat =>
        rw [show Try.prog.cellsOf 5 = 1 by kernel_rfl] at e0
        rw [show Try.prog.cellsOf 9 = 1 by kernel_rfl] at e1 e2
        rw [show Try.prog.cellsOf 3 = 1 by kernel_rfl] at e3
        rw [show Try.prog.cellsOf 30 = 1 by kernel_rfl] at e4
        simp at e0 e1 e2 e3 e4
        subst e0; subst e1; subst e2; subst e3; subst e4
        exact ⟨⟨k, s1, s2, z, KA, ks, kc⟩, ⟨⟨by show k ≤ 255; omega, by unfold maxLen at w1; exact w1, by unfold maxLen at w2; exact w2, i64_wf w3, hk1, hk2⟩, hK⟩, hat 0 (by omega), hat 1 (by omega), hat 2 (by omega), hat 3 (by omega), hat 4 (by omega)⟩
    let f : Nat → De := fun i => if h : i < len then Classical.choose (key i h) else ⟨0, ⟨#[]⟩, ⟨#[]⟩, 0, none, [], 0⟩
    have hf' : ∀ i (h : i < len), f i = Classical.choose (key i h) := fun i h => by simp only [f]; rw [dif_pos h]
    have hspec := fun i (h : i < len) => (by rw [hf' i h]; exact Classical.choose_spec (key i h) :
      (((f i).Ok ∧ IntsAt W (f i).ka (f i).keep) ∧ W.cell? ((a.add (i * 5)).add 0) = some (.int .u8 ((f i).kind : Nat)) ∧ W.cell? ((a.add (i * 5)).add 1) = some (.string (f i).name) ∧ W.cell? ((a.add (i * 5)).add 2) = some (.string (f i).b) ∧ W.cell? ((a.add (i * 5)).add 3) = some (.int .i64 (f i).n) ∧ W.cell? ((a.add (i * 5)).add 4) = some (.slice (f i).ka (f i).keep.length (f i).kc)))
    refine ⟨some a, (List.range len).map f, m, by simp, ⟨fun t ht => ?_, fun hn => ?_⟩, by simp; omega, by unfold maxLen at hm; omega⟩
    · obtain ⟨i, hi2, rfl⟩ := List.mem_map.1 ht
      exact (hspec i (List.mem_range.1 hi2)).1
    · have hlen : 0 < len := by simpa using hn
      have h0 := (hspec 0 hlen).2.1
      have hlt := cell_lt h0
      rw [add_block, add_block] at hlt
      obtain ⟨b, off, rfl⟩ : ∃ b off, a = ⟨b, off, none⟩ := by
        obtain ⟨b, off, e⟩ := plain_addr h0
        obtain ⟨b', off', spot⟩ := a
        simp [Addr.add] at e
        exact ⟨b', off', by rw [e.2.2]⟩
      refine ⟨b, off, rfl, hlt, fun i t ht => ?_⟩
      have hil : i < len := by simpa using (List.getElem?_eq_some_iff.1 ht).1
      rw [List.getElem?_map, List.getElem?_range hil] at ht
      obtain rfl : f i = t := by simpa using ht
      obtain ⟨_, h1, h2, h3, h4, h5⟩ := hspec i hil
      rw [cell_add] at h1 h2 h3 h4 h5
      exact ⟨h1, h2, h3, h4, h5⟩
end
/-- at most 50 calls, of 300 bytes each -/
def few (l : List De) : Bool := l.all (fun x => decide (x.name.size ≤ 300) && decide (x.b.size ≤ 300)) && decide (l.length ≤ 50)
end Go.Proofs.Ytgfdpilgonpokaa
