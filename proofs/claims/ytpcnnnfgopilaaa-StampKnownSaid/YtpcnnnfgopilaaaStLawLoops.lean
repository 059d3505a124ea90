/- StampLoops: Out undoes Into; Into, Out and Step go with the order; a time that goes round is behind what it was; for all times. -/
import Derived.Test.YtpcnnnfgopilaaaStLoopsB
namespace Go.Proofs.Ytpcnnnfgopilaaa
open Go.ChangeShapes Go.WideShapes Go.ChangeAt Go.RowKit Go.BigFrame
set_option linter.unusedVariables false
namespace stampLoops
theorem some_or {α : Type} (o : Option α) : o = none ∨ ∃ x, o = some x := by cases o; exact .inl rfl; exact .inr ⟨_, rfl⟩
theorem walk (a b : St) (w : World) : Calls Try.prog 6 #[a.val, b.val] w fun e w' => e = .returned (.bool true) ∧ Below w.heap.size w w' := by
  rcases some_or a.into with hi | ⟨x, hi⟩ <;> rcases some_or a.round with hg | ⟨s, hg⟩ <;> by_cases hl : a.L b
  · have hI := (St.into_mono hl).1
    have hO := (St.out_mono hl).1
    rw [hi] at hI
    rcases some_or b.into with hi2 | ⟨y, hi2⟩ <;> rw [hi2] at hI <;> try (cases hI; done)
    rcases some_or a.out with ho | ⟨c, ho⟩ <;> rcases some_or b.out with ho2 | ⟨d, ho2⟩ <;> rw [ho, ho2] at hO
    · rcases some_or b.round with hh | ⟨t, hh⟩
      · exact walk_00100 a b w hi hg hl hi2 ho ho2 hh
      · exact walk_00101 a b w hi hg hl hi2 ho ho2 t hh
    · cases hO
    · cases hO
    · rcases some_or b.round with hh | ⟨t, hh⟩
      · exact walk_00110 a b w hi hg hl hi2 c d ho ho2 hh
      · exact walk_00111 a b w hi hg hl hi2 c d ho ho2 t hh
  · exact walk_000 a b w hi hg hl
  · have hI := (St.into_mono hl).1
    have hO := (St.out_mono hl).1
    rw [hi] at hI
    rcases some_or b.into with hi2 | ⟨y, hi2⟩ <;> rw [hi2] at hI <;> try (cases hI; done)
    rcases some_or a.out with ho | ⟨c, ho⟩ <;> rcases some_or b.out with ho2 | ⟨d, ho2⟩ <;> rw [ho, ho2] at hO
    · rcases some_or b.round with hh | ⟨t, hh⟩
      · exact walk_01100 a b w hi s hg hl hi2 ho ho2 hh
      · exact walk_01101 a b w hi s hg hl hi2 ho ho2 t hh
    · cases hO
    · cases hO
    · rcases some_or b.round with hh | ⟨t, hh⟩
      · exact walk_01110 a b w hi s hg hl hi2 c d ho ho2 hh
      · exact walk_01111 a b w hi s hg hl hi2 c d ho ho2 t hh
  · exact walk_010 a b w hi s hg hl
  · have hI := (St.into_mono hl).1
    have hO := (St.out_mono hl).1
    rw [hi] at hI
    rcases some_or b.into with hi2 | ⟨y, hi2⟩ <;> rw [hi2] at hI <;> try (cases hI; done)
    rcases some_or a.out with ho | ⟨c, ho⟩ <;> rcases some_or b.out with ho2 | ⟨d, ho2⟩ <;> rw [ho, ho2] at hO
    · rcases some_or b.round with hh | ⟨t, hh⟩
      · exact walk_10100 a b w x hi hg hl y hi2 ho ho2 hh
      · exact walk_10101 a b w x hi hg hl y hi2 ho ho2 t hh
    · cases hO
    · cases hO
    · rcases some_or b.round with hh | ⟨t, hh⟩
      · exact walk_10110 a b w x hi hg hl y hi2 c d ho ho2 hh
      · exact walk_10111 a b w x hi hg hl y hi2 c d ho ho2 t hh
  · exact walk_100 a b w x hi hg hl
  · have hI := (St.into_mono hl).1
    have hO := (St.out_mono hl).1
    rw [hi] at hI
    rcases some_or b.into with hi2 | ⟨y, hi2⟩ <;> rw [hi2] at hI <;> try (cases hI; done)
    rcases some_or a.out with ho | ⟨c, ho⟩ <;> rcases some_or b.out with ho2 | ⟨d, ho2⟩ <;> rw [ho, ho2] at hO
    · rcases some_or b.round with hh | ⟨t, hh⟩
      · exact walk_11100 a b w x hi s hg hl y hi2 ho ho2 hh
      · exact walk_11101 a b w x hi s hg hl y hi2 ho ho2 t hh
    · cases hO
    · cases hO
    · rcases some_or b.round with hh | ⟨t, hh⟩
      · exact walk_11110 a b w x hi s hg hl y hi2 c d ho ho2 hh
      · exact walk_11111 a b w x hi s hg hl y hi2 c d ho ho2 t hh
  · exact walk_110 a b w x hi s hg hl

set_option maxRecDepth 100000 in
theorem lifted (os : Os) (started : os.Started) (H : Type) (enc : TypeId × Value → H) :
    ReturnsInHanded {} Try.checked os 6 .any (Rows.stampLoopsSpec.pre6 enc Try.prog Try.f6 Rows.stampLoopsRow.domain false) (Rows.stampLoopsSpec.post enc Try.prog Try.f6 false true false false) := by
  refine returnsInHanded_of_change_sized (C := Try.checked) ownKnob_none started (by kernel_rfl) Try.func6
    (ChangeSpec.witness6 (enc := enc) (C := Try.checked) false ⟨#[], #[.agg #[.int .i64 0, .int .i64 0, .int .i64 0, .int .i64 0, .int .i64 0], .agg #[.int .i64 0, .int .i64 0, .int .i64 0, .int .i64 0, .int .i64 0]], []⟩ 8 (by kernel_rfl) (by kernel_rfl) (by kernel_rfl) (by kernel_rfl)) ?_
  intro W base args ds gs before hval0 hW hcnd hsz0 _
  have hval : ∀ (j : Nat) t v, Try.f6.params[j]? = some t → args[j]? = some v → Value.okWide Try.prog W .any base t v := hval0
  have hW' := hW
  obtain ⟨p, q, hA0, hV, rfl, hfz, hnd⟩ := hW
  have hA : DataW.TrodAll enc Try.prog W 0 (fun _ => true) true Try.f6.params.toList args.toList ds p := hA0
  have hsz : (DataW.weightsEach Try.prog (Try.f6.params.toList ++ Rows.stampLoopsSpec.plain.varTypes Try.prog) (ds ++ gs)).all (· ≤ reachBytes) = true := hsz0
  rw [Try.params6] at hA hval hsz
  obtain ⟨v0, vs0, d0, ds0, p0, q0, hargs, rfl, rfl, h0, r0⟩ := trodAll_cons hA
  obtain ⟨v1, vs1, d1, ds1, p1, q1, rfl, rfl, rfl, h1, r1⟩ := trodAll_cons r0
  obtain ⟨rfl, rfl, rfl⟩ := trodAll_nil r1
  obtain rfl : args = #[v0, v1] := by cases args; simp_all
  obtain ⟨rfl, rfl⟩ := trodVars_none hV
  obtain ⟨t0, rfl⟩ := open_stamp (hval 0 24 v0 rfl rfl) h0
  obtain ⟨t1, rfl⟩ := open_stamp (hval 1 24 v1 rfl rfl) h1
  clear hA0 hval0 hsz0
  refine (walk t0 t1 W).mono fun e W' ⟨he, hg⟩ => ?_
  subst he
  exact ⟨_, rfl, law_post progLaid hW' rfl (by rw [Try.params6]; intro t ht; simp at ht; subst ht; exact ⟨by kernel_rfl, of_decide_eq_true (by kernel_rfl)⟩) rfl Try.underlying4 rfl hg⟩

theorem over : Rows.stampLoopsRow.holds Try.pinned (OpenSpec.ofChange Rows.stampLoopsSpec) :=
  OpenClaim.holds_of_wide 6 Try.f6 rfl rfl rfl rfl rfl rfl rfl ⟨rfl, rfl, rfl, rfl, rfl⟩ rfl rfl rfl rfl rfl (by kernel_rfl) Try.func6 (by kernel_rfl)
    (of_decide_eq_true (by kernel_rfl)) (by unfold Func.isWrapper; first | (rw [if_pos (by decide +kernel)]; kernel_rfl) | (rw [if_neg (by decide +kernel)]; exact ⟨rfl, rfl⟩))
    (fun os started H enc _ => lifted os started H enc)

/-- The statement. -/
theorem proved : Rows.StampLoopsSaid :=
  over
end stampLoops
end Go.Proofs.Ytpcnnnfgopilaaa
