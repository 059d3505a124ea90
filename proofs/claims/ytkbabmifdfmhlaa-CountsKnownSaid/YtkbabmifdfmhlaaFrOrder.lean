/- Frontiers: the order of them, with both and either; with a time more: plain mathematics, of no code. -/
import Derived.Test.YtkbabmifdfmhlaaFrMath
namespace Go.Proofs.Ytkbabmifdfmhlaa
set_option linter.unusedVariables false
set_option maxRecDepth 100000
section
variable {a b c f g l m : List St} {s t x y z : St}
theorem In_refl (h : Fr a) : In a a := fun x hx => Up.self hx (h.right x hx)
theorem In_trans (hb : Fr b) (h : In a b) (k : In b c) : In a c := by
  intro x hx
  obtain ⟨y, hy, hl⟩ := k x hx
  exact (h y hy).mono hl
theorem In_antisymm (ha : Fr a) (hb : Fr b) (h : In a b) (k : In b a) : a = b :=
  Fr.ext ha hb fun t => ⟨(In_iff (fun x hx => ha.right x hx)).1 k t, (In_iff (fun x hx => hb.right x hx)).1 h t⟩
/-- what is in both is within both -/
theorem both_in (h : Alike a b) : In (bothS a b) a ∧ In (bothS a b) b :=
  ⟨fun x hx => (both_up h).2 (.inl (Up.self hx (h.1.right x hx))), fun x hx => (both_up h).2 (.inr (Up.self hx (h.2.1.right x hx)))⟩
/-- and holds what is within both -/
theorem both_greatest (h : Alike a b) : In c (bothS a b) ↔ In c a ∧ In c b := by
  rw [In_iff (both_fr h).right, In_iff h.1.right, In_iff h.2.1.right]
  constructor
  · intro k; exact ⟨fun t ht => k t ((both_up h).2 (.inl ht)), fun t ht => k t ((both_up h).2 (.inr ht))⟩
  · rintro ⟨k1, k2⟩ t ht
    rcases (both_up h).1 ht with h1 | h1
    · exact k1 t h1
    · exact k2 t h1
theorem in_either (h : Alike a b) : In a (eitherS a b) ∧ In b (eitherS a b) :=
  ⟨fun x hx => ((either_up h).1 (Up.self hx ((either_fr h).right x hx))).1, fun x hx => ((either_up h).1 (Up.self hx ((either_fr h).right x hx))).2⟩
theorem either_least (h : Alike a b) (hc : Fr c) : In (eitherS a b) c ↔ In a c ∧ In b c := by
  rw [In_iff hc.right, In_iff hc.right, In_iff hc.right]
  constructor
  · intro k; exact ⟨fun t ht => ((either_up h).1 (k t ht)).1, fun t ht => ((either_up h).1 (k t ht)).2⟩
  · rintro ⟨k1, k2⟩ t ht; exact (either_up h).2 ⟨k1 t ht, k2 t ht⟩
/-! in whatever order -/
theorem Alike.swap (h : Alike a b) : Alike b a := ⟨h.2.1, h.1, fun x hx y hy => (h.2.2 y hy x hx).symm⟩
theorem both_comm (h : Alike a b) : bothS a b = bothS b a :=
  Fr.ext (both_fr h) (both_fr h.swap) fun t => by rw [both_up h, both_up h.swap, or_comm]
theorem either_comm (h : Alike a b) : eitherS a b = eitherS b a :=
  Fr.ext (either_fr h) (either_fr h.swap) fun t => by rw [either_up h, either_up h.swap, and_comm]
theorem mem_both_depth (hx : x ∈ bothS a b) : x ∈ a ∨ x ∈ b := List.mem_append.1 (mem_ofS.1 hx).1
theorem alike_both (h : Alike a b) (k : Alike a c) (j : Alike b c) : Alike (bothS a b) c :=
  ⟨both_fr h, k.2.1, fun x hx y hy => by
    rcases mem_both_depth hx with h1 | h1
    · exact k.2.2 x h1 y hy
    · exact j.2.2 x h1 y hy⟩
theorem mem_either_depth (h : Alike a b) (hx : x ∈ eitherS a b) : (∃ y ∈ a, y.d = x.d) ∧ ∃ y ∈ b, y.d = x.d := by
  obtain ⟨y, hy, w, hw, rfl⟩ := mem_pairs.1 (mem_ofS.1 hx).1
  exact ⟨⟨y, hy, (St.join_d (h.B hy hw)).symm⟩, ⟨w, hw, by rw [St.join_d (h.B hy hw)]; exact (h.2.2 y hy w hw).symm⟩⟩
theorem alike_either (h : Alike a b) (k : Alike a c) : Alike (eitherS a b) c :=
  ⟨either_fr h, k.2.1, fun x hx y hy => by
    obtain ⟨w, hw, e⟩ := (mem_either_depth h hx).1
    rw [← e]; exact k.2.2 w hw y hy⟩
theorem alike_self (h : Fr a) : Alike a a := ⟨h, h, h.depth⟩
theorem both_absorb (h : Alike a b) : bothS a (eitherS a b) = a := by
  have hk : Alike a (eitherS a b) := (alike_either h (alike_self h.1)).swap
  refine Fr.ext (both_fr hk) h.1 fun t => ?_
  rw [both_up hk, either_up h]
  exact ⟨fun h => h.elim id And.left, .inl⟩
theorem either_absorb (h : Alike a b) : eitherS a (bothS a b) = a := by
  have hk : Alike a (bothS a b) := (alike_both h (alike_self h.1) h.swap).swap
  refine Fr.ext (either_fr hk) h.1 fun t => ?_
  rw [either_up hk, both_up h]
  exact ⟨And.left, fun h => ⟨h, .inl h⟩⟩
theorem both_over (h : Alike a b) (k : Alike a c) (j : Alike b c) : bothS a (eitherS b c) = eitherS (bothS a b) (bothS a c) := by
  have h1 : Alike a (eitherS b c) := (alike_either j h.swap).swap
  have h2 : Alike (bothS a b) (bothS a c) := (alike_both k (alike_both h (alike_self h.1) h.swap).swap (alike_both h k j).swap).swap
  refine Fr.ext (both_fr h1) (either_fr h2) fun t => ?_
  rw [both_up h1, either_up j, either_up h2, both_up h, both_up k]
  constructor
  · rintro (h | ⟨h1, h2⟩)
    · exact ⟨.inl h, .inl h⟩
    · exact ⟨.inr h1, .inr h2⟩
  · rintro ⟨h1 | h1, h2 | h2⟩
    · exact .inl h1
    · exact .inl h1
    · exact .inl h2
    · exact .inr ⟨h1, h2⟩
/-! with a time more -/
theorem more_in (h : Even (l ++ [t])) (k : Even l) : In (ofS (l ++ [t])) (ofS l) := by
  rw [In_iff (ofS_fr k).right]
  intro s hs
  rw [ofS_up h, Up_append]
  exact .inl ((ofS_up k).1 hs)
theorem more_same (h : Even (l ++ [t])) (k : Even l) : ofS l = ofS (l ++ [t]) ↔ Up (ofS l) t := by
  constructor
  · intro e
    rw [e, ofS_up h, Up_append]
    exact .inr (Up.self List.mem_cons_self (h t (by simp)).1)
  · intro hu
    refine Fr.ext (ofS_fr k) (ofS_fr h) fun s => ?_
    rw [ofS_up k, ofS_up h, Up_append]
    constructor
    · exact .inl
    · rintro (h1 | ⟨y, hy, hl⟩)
      · exact h1
      · obtain rfl : y = t := by simpa using hy
        exact ((ofS_up k).1 hu).mono hl
end
end Go.Proofs.Ytkbabmifdfmhlaa
