/- rows[to][p] = append(rows[to][p], r): a region whose order is open; its class for Free.wp_key. -/
import Derived.Test.YtcjdjdhjbchaaaaOpParts
namespace Go.Proofs.Ytcjdjdhjbchaaaa
namespace Op
open Go.ChangeShapes Go.WideShapes Go.ChangeAt Go.RowKit Go.BigFrame Vr
set_option linter.unusedVariables false
set_option maxRecDepth 100000
structure PF (w3 : World) (R k : Nat) (S : Nat → Option Nat) (V : Nat → Value) (X : Nat → List Rd) (i0 : Nat) (r : Rd) (b : Nat → Bool) (vs : Nat → Value) (w : World) : Prop where
  grown : w3.grownBy w (some R)
  o17 : b 17 = true → b 11 = true ∧ b 16 = true
  o19 : b 19 = true → b 17 = true
  s0 : b 17 = false → Pt w3.heap.size R k S V V X w
  s16 : b 17 = false → b 16 = true → ∃ G, vs 16 = .slice (some ⟨G, 0, none⟩) 1 1 ∧ Row w G 36 [.int .i64 r.k, .int .i64 r.v]
  s17 : b 17 = true → b 19 = false → Pt w3.heap.size R k S V (updF V i0 (vs 17)) (updF X i0 (X i0 ++ [r])) w
  s19 : b 19 = true → Pt w3.heap.size R k S (updF V i0 (vs 17)) (updF V i0 (vs 17)) (updF X i0 (X i0 ++ [r])) w
section
variable {w3 wz w w' : World} {R k t g p i i0 : Nat} {S : Nat → Option Nat} {V : Nat → Value} {X : Nat → List Rd} {r : Rd} {b : Nat → Bool} {vs : Nat → Value} {v : Value}
theorem false_of {b : Bool} (h : b = true → False) : b = false := by cases b; rfl; exact (h rfl).elim
theorem PF.quiet (h : PF w3 R k S V X i0 r b vs w) (h16 : 16 ≠ i) (h17 : 17 ≠ i) (h19 : 19 ≠ i) : PF w3 R k S V X i0 r (Free.updb b i) (Free.updw vs i v) w := by
  have e16 : Free.updb b i 16 = b 16 := Free.updb_ne h16
  have e17 : Free.updb b i 17 = b 17 := Free.updb_ne h17
  have e19 : Free.updb b i 19 = b 19 := Free.updb_ne h19
  have u16 : Free.updw vs i v 16 = vs 16 := Free.updw_ne h16
  have u17 : Free.updw vs i v 17 = vs 17 := Free.updw_ne h17
  refine ⟨h.grown, fun e => ?_, by rw [e17, e19]; exact h.o19, by rw [e17]; exact h.s0, by rw [e17, e16, u16]; exact h.s16, by rw [e17, e19, u17]; exact h.s17, by rw [e19, u17]; exact h.s19⟩
  rw [e17] at e
  refine ⟨?_, by rw [e16]; exact (h.o17 e).2⟩
  by_cases hi : 11 = i
  · rw [hi]; exact Free.updb_self
  · rw [Free.updb_ne hi]; exact (h.o17 e).1
theorem PF.any (h : PF w3 R k S V X i0 r b vs w) : ∃ C V' X', Pt w3.heap.size R k S C V' X' w := by
  by_cases e : b 17 = true
  · by_cases e2 : b 19 = true
    · exact ⟨_, _, _, h.s19 e2⟩
    · exact ⟨_, _, _, h.s17 e (false_of fun q => e2 q)⟩
  · exact ⟨_, _, _, h.s0 (false_of fun q => e q)⟩
theorem PF.slot (h : PF w3 R k S V X i0 r b vs w) (ht : t < k) (hs : S t = some g) : w.cell? ⟨R, t, none⟩ = some (.slice (some ⟨g, 0, none⟩) 2 2) := by
  obtain ⟨C, V', X', hp⟩ := h.any
  rw [hp.slot ht, hs]; rfl
theorem PF.cell (h : PF w3 R k S V X (2 * t + p) r b vs w) (ht : t < k) (hs : S t = some g) (hp : p < 2) (hb : b 11 = false) : w.cell? ⟨g, p, none⟩ = some (V (2 * t + p)) := by
  have h17 : b 17 = false := false_of fun e => by have := (h.o17 e).1; rw [hb] at this; cases this
  exact (h.s0 h17).cell ht hs hp
theorem PF.one (h : PF w3 R k S V X i0 r b vs w) (hb : b 16 = false) : PF w3 R k S V X i0 r (Free.updb b 16) (Free.updw vs 16 (.slice (some ⟨w.heap.size, 0, none⟩) 1 1)) (w.alloc (.cells #[.int .i64 r.k, .int .i64 r.v] 36)) := by
  have h17 : b 17 = false := false_of fun e => by have := (h.o17 e).2; rw [hb] at this; cases this
  have h19 : b 19 = false := false_of fun e => by have := h.o19 e; rw [h17] at this; cases this
  have hb2 : Below w.heap.size w (w.alloc (.cells #[.int .i64 r.k, .int .i64 r.v] 36)) := (Below.refl _ _).alloc (Nat.le_refl _) _
  refine ⟨grown_next h.grown hb2, ?_, ?_, fun _ => (h.s0 h17).below hb2, ?_, ?_, ?_⟩
  · rw [Free.updb_ne (by decide)]; intro e; rw [h17] at e; cases e
  · rw [Free.updb_ne (by decide)]; intro e; rw [h19] at e; cases e
  · intro _ _; rw [Free.updw_self]; exact ⟨_, rfl, Row.made w _ _⟩
  · rw [Free.updb_ne (by decide)]; intro e; rw [h17] at e; cases e
  · rw [Free.updb_ne (by decide)]; intro e; rw [h19] at e; cases e
theorem PF.app (h : PF w3 R k S V X i0 r b vs w) (hi : i0 / 2 < k) (hS : S (i0 / 2) ≠ none) (hl : (X i0).length ≤ 1000000) (h11 : b 11 = true) (h16 : b 16 = true) (hb : b 17 = false) :
    ∃ v' w', (Builtin.append_ #[28, 28] 28 #[V i0, vs 16]).run Try.prog w = .ok v' w' ∧ PF w3 R k S V X i0 r (Free.updb b 17) (Free.updw vs 17 v') w' := by
  have h19 : b 19 = false := false_of fun e => by have := h.o19 e; rw [hb] at this; cases this
  obtain ⟨G, hG, hrow⟩ := h.s16 hb h16
  obtain ⟨v', w', hr, hP, hg⟩ := (h.s0 hb).add hi hS h.grown.size hl hrow
  rw [hG]
  refine ⟨v', w', hr, grown_far h.grown hg (fun b e => .inl (((h.s0 hb).own i0).lt b e).1), ?_, ?_, ?_, ?_, ?_, ?_⟩
  · intro _; rw [Free.updb_ne (by decide), Free.updb_ne (by decide)]; exact ⟨h11, h16⟩
  · intro _; exact Free.updb_self
  · intro e; rw [Free.updb_self] at e; cases e
  · intro e; rw [Free.updb_self] at e; cases e
  · intro _ _; rw [Free.updw_self]; exact hP
  · rw [Free.updb_ne (by decide)]; intro e; rw [h19] at e; cases e
theorem PF.put (h : PF w3 R k S V X (2 * t + p) r b vs w) (ht : t < k) (hs : S t = some g) (hp : p < 2) (h17 : b 17 = true) (hb : b 19 = false) :
    PF w3 R k S V X (2 * t + p) r (Free.updb b 19) (Free.updw vs 19 v) (w.setCell ⟨g, p, none⟩ (vs 17)) := by
  have h0 := h.s17 h17 hb
  have h1 : Pt w3.heap.size R k S (updF (updF V (2 * t + p) (vs 17)) (2 * t + p) (V (2 * t + p))) (updF V (2 * t + p) (vs 17)) (updF X (2 * t + p) (X (2 * t + p) ++ [r])) w := by
    have e : updF (updF V (2 * t + p) (vs 17)) (2 * t + p) (V (2 * t + p)) = V := by
      funext j
      by_cases e : j = 2 * t + p
      · rw [e, updF_self]
      · rw [updF_ne e, updF_ne e]
    rw [e]; exact h0
  have h2 := h1.put ht hs hp
  rw [updF_self] at h2
  refine ⟨grown_far h.grown (grown_set w g p (vs 17)) (fun b e => .inl (by cases e; exact (h0.at_ t g ht hs).1)), ?_, ?_, ?_, ?_, ?_, ?_⟩
  · rw [Free.updb_ne (by decide), Free.updb_ne (by decide), Free.updb_ne (by decide)]; exact h.o17
  · intro _; rw [Free.updb_ne (by decide)]; exact h17
  · rw [Free.updb_ne (by decide)]; intro e; rw [h17] at e; cases e
  · rw [Free.updb_ne (by decide)]; intro e; rw [h17] at e; cases e
  · intro _ e; rw [Free.updb_self] at e; cases e
  · intro _; rw [Free.updw_ne (by decide)]; exact h2
theorem PF.free (h : PF w3 R k S V X i0 r b vs w) (ht : t < k) (hs : S t = some g) : w.frozen? ⟨g, p, none⟩ = false := by
  obtain ⟨C, V', X', hp⟩ := h.any
  exact (hp.at_ t g ht hs).2.free p
theorem PF.start (h : Pt w3.heap.size R k S V V X wz) (hg : w3.grownBy wz (some R)) : PF w3 R k S V X i0 r (fun i => decide (20 ≤ i)) vs wz.drew :=
  ⟨grown_next hg (Below.refl _ _).drew, by simp, by simp, fun _ => h.below (Below.refl _ _).drew, by simp, by simp, by simp⟩
end
end Op
end Go.Proofs.Ytcjdjdhjbchaaaa
