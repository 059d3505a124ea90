/- Records, and rows of records, that came in. -/
import Derived.Test.YtcdofkhkckodjaaVrSame
import Derived.Deep.Slices
import Derived.Laws.IdiomArrays
import Derived.OpenShut
namespace Go.Proofs.Ytcdofkhkckodjaa
namespace Vr
open Go.ChangeShapes Go.WideShapes Go.ChangeAt Go.RowKit Go.BigFrame Go.Shelf
set_option linter.unusedVariables false
set_option maxRecDepth 100000
theorem plain_addr1 {w : World} {a : Addr} {v : Value} (h : w.cell? a = some v) : ∃ b off, a = ⟨b, off, none⟩ := by
  obtain ⟨b, off, spot⟩ := a
  refine ⟨b, off, ?_⟩
  cases spot with
  | none => rfl
  | some s =>
    unfold World.cell? at h
    split at h
    · simp at h
    · cases h
theorem cells_rec : Try.prog.cellsOf 32 = 2 := by kernel_rfl
theorem i64_wf {n : Int} (h : (Lit.int .i64 n).wf = true) : -9223372036854775808 ≤ n ∧ n < 9223372036854775808 := by
  have : -9223372036854775808 ≤ n ∧ n ≤ 9223372036854775807 := by simpa [Lit.wf, IntKind.min, IntKind.max, IntKind.signed, IntKind.bits] using h
  omega
theorem rec_cells {H : Type} {enc : TypeId × Value → H} {W : World} {n : Nat} {cs : List Value} {x : DataW H × List MemPlace} (hl : cs.length = 2) (h : DataW.trod enc Try.prog W 0 (fun _ => true) true n 32 cs = some x) : ∃ t : Rd, cs = t.cells ∧ t.W := by
  match cs, hl with
  | [c0, c1], _ =>
    obtain ⟨xs, n', _, hx, _, hlen, hg⟩ := DataW.trod_struct Try.underlying32 h
    match xs, hlen with
    | [y0, y1], _ =>
      have h0 : DataW.trod enc Try.prog W 0 (fun _ => true) true n' 2 [c0] = some y0 := hg 0 _ rfl
      have h1 : DataW.trod enc Try.prog W 0 (fun _ => true) true n' 2 [c1] = some y1 := hg 1 _ rfl
      obtain ⟨n0, e0, -, f0⟩ := DataW.trod_int Try.underlying2 h0
      obtain ⟨n1, e1, -, f1⟩ := DataW.trod_int Try.underlying2 h1
      cases e0; cases e1
      exact ⟨⟨n0, n1⟩, rfl, i64_wf f0, i64_wf f1⟩
theorem open_rec {H : Type} {enc : TypeId × Value → H} {W : World} {base : Nat} {v : Value} {d : DataW H} {p : List MemPlace}
    (hok : Value.okWide Try.prog W .any base 32 v) (h : DataW.Trod enc Try.prog W 0 (fun _ => true) true 32 v d p) : ∃ t : Rd, v = t.val ∧ t.W := by
  obtain ⟨cs, rfl, hsz⟩ := okWide_struct Try.underlying32 hok
  obtain ⟨l⟩ := cs
  match l, hsz.trans cells_rec with
  | [c0, c1], _ =>
    obtain ⟨fuel, hf⟩ := h
    obtain ⟨t, e, hW⟩ := rec_cells (cs := [c0, c1]) rfl hf
    refine ⟨t, ?_, hW⟩
    rw [e]
    rfl
theorem open_recs {H : Type} {enc : TypeId × Value → H} {W : World} {base : Nat} {v : Value} {d : DataW H} {p : List MemPlace} (hok : Value.okWide Try.prog W .any base 22 v)
    (h : DataW.Trod enc Try.prog W 0 (fun _ => true) true 22 v d p) :
    ∃ (A : Option Addr) (l : List Rd) (c : Nat), v = .slice A l.length c ∧ Rw.Ts kindR W A l ∧ (∀ r ∈ l, r.W) ∧ l.length ≤ c ∧ c ≤ maxLen ∧ (A = none → c = 0 ∧ l = []) := by
  obtain ⟨A0, len, cap, rfl⟩ := okWide_slice Try.underlying22 hok
  obtain ⟨fuel, hf⟩ := h
  rcases Go.Deep.open_slice Try.underlying22 hf with ⟨hcs, _⟩ | ⟨a, len', cap', m, n, D, Pl, hcs, _, hl, hm, hmm, hx, hi⟩
  · simp [Value.cells] at hcs
    obtain ⟨rfl, rfl, rfl⟩ := hcs
    exact ⟨none, [], 0, rfl, Rw.Ts.nil, by simp, by simp, by simp, fun _ => ⟨rfl, rfl⟩⟩
  · simp [Value.cells] at hcs
    obtain ⟨rfl, rfl, rfl⟩ := hcs
    simp only [if_true] at hmm
    subst hmm
    rw [cells_rec] at hi
    have key : ∀ i, i < len → ∃ x : Rd, (∀ j u, x.cells[j]? = some u → W.cell? ((a.add (i * 2)).add j) = some u) ∧ x.W := by
      intro i hlt
      obtain ⟨cs', hc, ht⟩ := hi i (by omega)
      obtain ⟨_, hcl, hat⟩ := World.cells?_some hc
      obtain ⟨t, rfl, hW⟩ := rec_cells hcl ht
      refine ⟨t, fun j u hu => ?_, hW⟩
      have hj : j < 2 := (List.getElem?_eq_some_iff.1 hu).1
      rw [hat j hj]; exact hu
    let f : Nat → Rd := fun i => if h : i < len then Classical.choose (key i h) else ⟨0, 0⟩
    have hf' : ∀ i (h : i < len), f i = Classical.choose (key i h) := fun i h => by simp only [f]; rw [dif_pos h]
    have hspec := fun i (h : i < len) => (by rw [hf' i h]; exact Classical.choose_spec (key i h) : (∀ j u, (f i).cells[j]? = some u → W.cell? ((a.add (i * 2)).add j) = some u) ∧ (f i).W)
    refine ⟨some a, (List.range len).map f, m, by simp, fun hn => ?_, fun r hr => ?_, by simp; omega, hm, by simp⟩
    · have hlen : 0 < len := by simpa using hn
      have h0 := (hspec 0 hlen).1 0 _ rfl
      have hlt := cell_lt h0
      rw [add_block, add_block] at hlt
      obtain ⟨b, off, rfl⟩ : ∃ b off, a = ⟨b, off, none⟩ := by
        obtain ⟨b, off, e⟩ := plain_addr1 h0
        obtain ⟨b', off', spot⟩ := a
        simp [Addr.add] at e
        exact ⟨b', off', by rw [e.2.2]⟩
      refine ⟨b, off, rfl, hlt, fun j u hu => ?_⟩
      have hj : j < len * 2 := by
        have := (List.getElem?_eq_some_iff.1 hu).1
        rw [Rw.row_len] at this
        have h2 : ((List.range len).map f).length = len := by simp
        rw [h2] at this; exact this
      have hil : j / 2 < len := by omega
      have hti : ((List.range len).map f)[j / 2]? = some (f (j / 2)) := by rw [List.getElem?_map, List.getElem?_range hil]; rfl
      obtain ⟨u', hu'⟩ : ∃ u', (f (j / 2)).cells[j % 2]? = some u' := ⟨_, List.getElem?_eq_getElem (by show j % 2 < 2; omega)⟩
      have h1 := Rw.row_at (κ := kindR) _ (j / 2) _ hti (j % 2) u' hu'
      rw [show j / 2 * kindR.K + j % 2 = j by show j / 2 * 2 + j % 2 = j; omega, hu] at h1
      cases h1
      have h2 := (hspec (j / 2) hil).1 (j % 2) u hu'
      rw [add_at, add_at, Nat.add_assoc, show j / 2 * 2 + j % 2 = j by omega] at h2
      exact h2
    · obtain ⟨i, hi', rfl⟩ := List.mem_map.1 hr
      exact (hspec i (List.mem_range.1 hi')).2
end Vr
end Go.Proofs.Ytcdofkhkckodjaa
