/- Cuts of a row; parts of what a call answers. -/
import Derived.Test.YtcjdjdhjbchaaaaCa20
namespace Go.Proofs.Ytcjdjdhjbchaaaa
namespace Op
open Go.ChangeShapes Go.WideShapes Go.ChangeAt Go.RowKit Go.BigFrame Vr
set_option linter.unusedVariables false
set_option maxRecDepth 100000
theorem m_slice {P : Program} {K : Value → World → Prop} {o : Oper} {a : Act} {w : World} {v : Value} (t : TypeId) (x : Operand) (lo hi mx : Option Operand) (X : Value) (L H M : Option Value) (ho : o.op = .slice t x lo hi mx) (hx : a.eval x = X)
    (hl : lo.map a.eval = L) (hh : hi.map a.eval = H) (hm : mx.map a.eval = M) (hr : (Instr.sliceAt t X L H M).run P w = .ok v w) (h : K v w) : Free.gets P K ((execOp a.eval o).run P w) := by
  unfold execOp; simp only [ho, hx, hl, hh, hm, Sem.run_bind, hr, Result.andThen_ok, Sem.run_pure, Free.gets]; exact h
theorem slice_lo {w : World} {A : Option Addr} {l : List Rd} {d k : Nat} (h : RowV w (.slice A l.length d) l) (hk : k ≤ l.length) :
    ∃ v, (∀ w', (Instr.sliceAt 28 (.slice A l.length d) (some (.int .i64 (k : Nat))) none none).run Try.prog w' = .ok v w') ∧ RowV w v (l.drop k) := by
  obtain ⟨A', d', e, hT, hn, h1, h2⟩ := h
  cases e
  refine ⟨.slice (if d = k then A else A.map (·.add (k * 2))) (l.length - k) (d - k), fun w' => ?_, (if d = k then A else A.map (·.add (k * 2))), d - k, by rw [List.length_drop], ?_, ?_, by rw [List.length_drop]; omega, by omega⟩
  · have hkz : (k : Int) ≤ (l.length : Int) := by omega
    go_simp
  · by_cases hd : d = k
    · have : l.drop k = [] := List.drop_eq_nil_of_le (by omega)
      rw [this]; exact fun hn => absurd hn (by simp)
    · rw [if_neg hd]
      intro hne
      have hl : 0 < l.length := by rw [List.length_drop] at hne; omega
      obtain ⟨b, o, rfl, _, _⟩ := hT hl
      have h := hT.drop k hne
      rw [show kindR.K = 2 from rfl] at h
      have e : (⟨b, o, none⟩ : Addr).add (k * 2) = ⟨b, o + k * 2, none⟩ := by simp [Addr.add]
      rw [Option.map_some, e]
      exact h
  · intro e
    have hA : A = none := by
      by_cases hd : d = k
      · rw [if_pos hd] at e; exact e
      · rw [if_neg hd] at e; simpa using e
    obtain ⟨h3, h4⟩ := hn hA
    exact ⟨by omega, by rw [h4]; simp⟩
theorem slice_hi {w : World} {A : Option Addr} {l : List Rd} {d k : Nat} (h : RowV w (.slice A l.length d) l) (hk : k ≤ l.length) :
    ∃ v, (∀ w', (Instr.sliceAt 28 (.slice A l.length d) none (some (.int .i64 (k : Nat))) none).run Try.prog w' = .ok v w') ∧ RowV w v (l.take k) := by
  obtain ⟨A', d', e, hT, hn, h1, h2⟩ := h
  cases e
  refine ⟨.slice (if d = 0 then A else A.map (·.add (0 * 2))) (k - 0) (d - 0), fun w' => ?_, (if d = 0 then A else A.map (·.add (0 * 2))), d - 0, by rw [List.length_take]; congr 1; omega, ?_, ?_, by rw [List.length_take]; omega, by omega⟩
  · have hkz : (k : Int) ≤ (d : Int) := by omega
    go_simp
  · by_cases hd : d = 0
    · rw [if_pos hd]; exact hT.take k
    · rw [if_neg hd]
      intro hne
      have hl : 0 < l.length := by rw [List.length_take] at hne; omega
      obtain ⟨b, o, rfl, _, _⟩ := hT hl
      have h := hT.take k hne
      exact h
  · intro e
    have hA : A = none := by
      by_cases hd : d = 0
      · rw [if_pos hd] at e; exact e
      · rw [if_neg hd] at e; simpa using e
    obtain ⟨h3, h4⟩ := hn hA
    exact ⟨by omega, by rw [h4]; simp⟩
/-- what Run answers, as one value -/
def TupV (w : World) (v : Value) (l : List Rd) (er : Int) : Prop := ∃ v', v = .tuple #[v', .int .i64 er] ∧ RowV w v' l
theorem kept_tup (l : List Rd) (er : Int) : Kept (fun w v => TupV w v l er) := fun _ _ _ ⟨v, e, h⟩ hb => ⟨v, e, h.below hb⟩
section
variable {P : Program} {K : Value → World → Prop} {o : Oper} {a : Act} {w : World} {v u : Value}
theorem m_extract0 (x : Operand) (ho : o.op = .extract x 0) (hx : a.eval x = .tuple #[v, u]) (h : K v w) : Free.gets P K ((execOp a.eval o).run P w) := by
  unfold execOp
  simp only [ho, hx]
  simp [go_sem, Free.gets]
  exact h
theorem m_extract1 (x : Operand) (ho : o.op = .extract x 1) (hx : a.eval x = .tuple #[v, u]) (h : K u w) : Free.gets P K ((execOp a.eval o).run P w) := by
  unfold execOp
  simp only [ho, hx]
  simp [go_sem, Free.gets]
  exact h
end
end Op
end Go.Proofs.Ytcjdjdhjbchaaaa
