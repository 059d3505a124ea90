/- A region whose order is open, that reads, makes a literal of one record and appends it to a row of the call's own: the class AF of Free.wp_key. -/
import Derived.Test.YtcjdjdhjbchaaaaCa14
import Derived.Test.YtcjdjdhjbchaaaaKey2
namespace Go.Proofs.Ytcjdjdhjbchaaaa
namespace Op
open Go.ChangeShapes Go.WideShapes Go.ChangeAt Go.RowKit Go.BigFrame Vr
set_option linter.unusedVariables false
set_option maxRecDepth 100000
structure AF (w1 : World) (B2 : Nat) (r : Rd) (v : Value) (us : List Rd) (q : Rd) (im il ia ic : Nat) (b : Nat → Bool) (vs : Nat → Value) (w : World) : Prop where
  below : Below w1.heap.size w1 w
  row : Row w B2 36 [.int .i64 r.k, .int .i64 r.v]
  ord : b ia = true → b il = true
  mv : b ia = true → b im = true
  own : b ia = false → w.ownsRow w1.heap.size 36 kindR.K v us.length (Rw.row kindR us)
  lit : b ia = false → b il = true → ∃ g, vs il = .slice (some ⟨g, 0, none⟩) 1 1 ∧ Row w g 36 [.int .i64 q.k, .int .i64 q.v]
  app : b ia = true → w.ownsRow w1.heap.size 36 kindR.K (vs ia) (us ++ [q]).length (Rw.row kindR (us ++ [q])) ∧ ∀ k, (vs ia).ownBlock = some k → k ≠ B2
  cp : b ic = true → b ia = true ∧ vs ic = vs ia
section
variable {w1 w w' : World} {B2 im il ia ic i : Nat} {r q : Rd} {v u : Value} {us : List Rd} {b : Nat → Bool} {vs : Nat → Value}
theorem AF.call (h : AF w1 B2 r v us q im il ia ic b vs w) (hb : Below w.heap.size w w') (hl : il ≠ i) (ha : ia ≠ i) (hc : ic ≠ i) : AF w1 B2 r v us q im il ia ic (Free.updb b i) (Free.updw vs i u) w' := by
  have ec : Free.updb b i ic = b ic := Free.updb_ne hc
  have uc : Free.updw vs i u ic = vs ic := Free.updw_ne hc
  have el : Free.updb b i il = b il := Free.updb_ne hl
  have ea : Free.updb b i ia = b ia := Free.updb_ne ha
  have ul : Free.updw vs i u il = vs il := Free.updw_ne hl
  have ua : Free.updw vs i u ia = vs ia := Free.updw_ne ha
  refine ⟨h.below.trans (hb.mono h.below.size), h.row.below hb h.row.lt, by rw [el, ea]; exact h.ord, fun e => by
    by_cases hm : im = i
    · rw [hm]; exact Free.updb_self
    · rw [Free.updb_ne hm]; exact h.mv (by rw [← ea]; exact e), ?_, ?_, ?_, by rw [ec, ea, uc, ua]; exact h.cp⟩
  · rw [ea]; intro e; exact Rw.own_kept (h.own e) hb
  · rw [ea, el, ul]; intro e e2
    obtain ⟨g, e3, hg⟩ := h.lit e e2
    exact ⟨g, e3, hg.below hb hg.lt⟩
  · rw [ea, ua]; intro e
    exact ⟨Rw.own_kept (h.app e).1 hb, (h.app e).2⟩
theorem AF.quiet (h : AF w1 B2 r v us q im il ia ic b vs w) (hl : il ≠ i) (ha : ia ≠ i) (hc : ic ≠ i) : AF w1 B2 r v us q im il ia ic (Free.updb b i) (Free.updw vs i u) w := h.call (Below.refl _ _) hl ha hc
theorem AF.start (hb : Below w1.heap.size w1 w) (hr : Row w B2 36 [.int .i64 r.k, .int .i64 r.v]) (ho : w.ownsRow w1.heap.size 36 kindR.K v us.length (Rw.row kindR us)) {n : Nat} (hl : il < n) (ha : ia < n) (hc : ic < n) :
    AF w1 B2 r v us q im il ia ic (fun i => decide (n ≤ i)) vs w.drew :=
  ⟨hb.drew, hr, fun e => by have := of_decide_eq_true e; omega, fun e => by have := of_decide_eq_true e; omega, fun _ => ho.drew, fun _ e => by have := of_decide_eq_true e; omega, fun e => by have := of_decide_eq_true e; omega, fun e => by have := of_decide_eq_true e; omega⟩
theorem AF.one (h : AF w1 B2 r v us q im il ia ic b vs w) (hne : il ≠ ia) (hnc : ic ≠ il) (hb : b il = false) : AF w1 B2 r v us q im il ia ic (Free.updb b il) (Free.updw vs il (.slice (some ⟨w.heap.size, 0, none⟩) 1 1)) (w.alloc (.cells #[.int .i64 q.k, .int .i64 q.v] 36)) := by
  have ha : b ia = false := by
    cases e : b ia with
    | false => rfl
    | true => have := h.ord e; rw [hb] at this; cases this
  have hb2 : Below w.heap.size w (w.alloc (.cells #[.int .i64 q.k, .int .i64 q.v] 36)) := (Below.refl _ _).alloc (Nat.le_refl _) _
  refine ⟨h.below.trans (hb2.mono h.below.size), h.row.alloc _, ?_, ?_, ?_, ?_, ?_, ?_⟩
  · rw [Free.updb_ne hne.symm]; intro e; rw [ha] at e; cases e
  · rw [Free.updb_ne hne.symm]; intro e; rw [ha] at e; cases e
  · intro _; exact Rw.own_kept (h.own ha) hb2
  · intro _ _; rw [Free.updw_self]; exact ⟨_, rfl, Row.made w _ _⟩
  · rw [Free.updb_ne hne.symm]; intro e; rw [ha] at e; cases e
  · rw [Free.updb_ne hnc]; intro e; have := (h.cp e).1; rw [ha] at this; cases this
theorem AF.add (h : AF w1 B2 r v us q im il ia ic b vs w) (hne : il ≠ ia) (hnc : ic ≠ ia) (hnm : im ≠ ia) (h0 : b im = true) (hn : us.length ≤ 1000000) (hv : ∀ k, v.ownBlock = some k → k ≠ B2) (h9 : b il = true) (hb : b ia = false) :
    ∃ v' w', (Builtin.append_ #[28, 28] 28 #[v, vs il]).run Try.prog w = .ok v' w' ∧ AF w1 B2 r v us q im il ia ic (Free.updb b ia) (Free.updw vs ia v') w' := by
  obtain ⟨i, hi, hz0, hz1, hz2⟩ := info_parts infoRec
  obtain ⟨g, hg, hrow⟩ := h.lit hb h9
  have ho := h.own hb
  obtain ⟨v', w', hr, r2, r3, r4, r5⟩ := run_append_own_at (P := Try.prog) w w1.heap.size 28 28 36 i _ kindR.K 16 Try.underlying28 hi hz0 hz1 hz2 rfl kindR.pos v us.length (Rw.row kindR us) ho ⟨g, 0, none⟩ 1 1 (Rw.row kindR [q]) rfl
    (fun j u hj => by
      have := hrow.cell j
      rw [show ((⟨g, 0, none⟩ : Addr).add j) = ⟨g, j, none⟩ by simp [Addr.add]; omega, this]; exact hj)
    (Rw.row_one [q]) (by unfold maxLen; omega) (by omega) h.below.size
  rw [hg]
  refine ⟨v', w', hr, Rw.own_below ho r3 h.below h.below.size, h.row.grown r3 (fun e => hv B2 e.symm rfl), ?_, ?_, ?_, ?_, ?_, ?_⟩
  · intro _; rw [Free.updb_ne hne]; exact h9
  · intro _; rw [Free.updb_ne hnm]; exact h0
  · intro e; rw [Free.updb_self] at e; cases e
  · intro e; rw [Free.updb_self] at e; cases e
  · intro _
    rw [Free.updw_self]
    refine ⟨?_, fun k e => ?_⟩
    · rw [Rw.row_append, List.length_append]; exact r2
    · rcases r5 with h5 | h5
      · rw [h5] at e; exact hv k e
      · rw [h5] at e; cases e; have := h.row.lt; omega
  · rw [Free.updb_ne hnc]; intro e; have := (h.cp e).1; rw [hb] at this; cases this
theorem AF.copy (h : AF w1 B2 r v us q im il ia ic b vs w) (hl : il ≠ ic) (ha : ia ≠ ic) (hb : b ia = true) : AF w1 B2 r v us q im il ia ic (Free.updb b ic) (Free.updw vs ic (vs ia)) w := by
  have el : Free.updb b ic il = b il := Free.updb_ne hl
  have ea : Free.updb b ic ia = b ia := Free.updb_ne ha
  have ul : Free.updw vs ic (vs ia) il = vs il := Free.updw_ne hl
  have ua : Free.updw vs ic (vs ia) ia = vs ia := Free.updw_ne ha
  exact ⟨h.below, h.row, by rw [el, ea]; exact h.ord, fun e => by
    by_cases hm : im = ic
    · rw [hm]; exact Free.updb_self
    · rw [Free.updb_ne hm]; exact h.mv (by rw [← ea]; exact e), by rw [ea]; exact h.own, by rw [ea, el, ul]; exact h.lit, by rw [ea, ua]; exact h.app, fun _ => ⟨by rw [ea]; exact hb, by rw [Free.updw_self, ua]⟩⟩
end
end Op
end Go.Proofs.Ytcjdjdhjbchaaaa
