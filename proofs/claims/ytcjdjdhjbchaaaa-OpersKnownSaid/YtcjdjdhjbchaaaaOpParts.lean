/- Rows parted among workers, in memory: a slice of k slices, each one nil or one of two rows of the call's own, all apart. -/
import Derived.Test.YtcjdjdhjbchaaaaOpApMath
import Derived.Test.YtcjdjdhjbchaaaaOpAppend
import Derived.Laws.OwnMore
namespace Go.Proofs.Ytcjdjdhjbchaaaa
namespace Op
open Go.ChangeShapes Go.WideShapes Go.ChangeAt Go.RowKit Go.BigFrame Vr
set_option linter.unusedVariables false
set_option maxRecDepth 100000
def slotV : Option Nat → Value
  | none => .slice none 0 0
  | some g => .slice (some ⟨g, 0, none⟩) 2 2
def updF {α : Type} (f : Nat → α) (i : Nat) (v : α) : Nat → α := fun j => if j = i then v else f j
theorem updF_self {α : Type} {f : Nat → α} {i : Nat} {v : α} : updF f i v i = v := if_pos rfl
theorem updF_ne {α : Type} {f : Nat → α} {i j : Nat} {v : α} (h : j ≠ i) : updF f i v j = f j := if_neg h
/-- k slices at R: nil, or at a block of two cells C; V are the rows, each of the call's own, with the records X -/
structure Pt (base R k : Nat) (S : Nat → Option Nat) (C V : Nat → Value) (X : Nat → List Rd) (w : World) : Prop where
  rows : Row w R 25 ((List.range k).map fun t => slotV (S t))
  at_ : ∀ t g, t < k → S t = some g → base ≤ g ∧ Row w g 28 [C (2 * t), C (2 * t + 1)]
  own : ∀ i, w.ownsRow base 36 kindR.K (V i) (X i).length (Rw.row kindR (X i))
  none_ : ∀ t, t < k → S t = none → (V (2 * t) = .slice none 0 0 ∧ V (2 * t + 1) = .slice none 0 0) ∧ X (2 * t) = [] ∧ X (2 * t + 1) = []
  inj : ∀ t u g, t < k → u < k → S t = some g → S u = some g → t = u
  apart : ∀ i j b, i ≠ j → (V i).ownBlock = some b → (V j).ownBlock ≠ some b
section
variable {base R k t g p : Nat} {S : Nat → Option Nat} {C V : Nat → Value} {X : Nat → List Rd} {w w' : World} {r : Rd}
theorem own_grown {T : TypeId} {K n : Nat} {v : Value} {xs : List Value} (h : w.ownsRow base T K v n xs) (hb : Below w.heap.size w w') : w'.ownsRow base T K v n xs := Rw.own_kept h hb
theorem Pt.below (h : Pt base R k S C V X w) (hb : Below w.heap.size w w') : Pt base R k S C V X w' where
  rows := h.rows.below hb h.rows.lt
  at_ := fun t g ht hs => ⟨(h.at_ t g ht hs).1, (h.at_ t g ht hs).2.below hb (h.at_ t g ht hs).2.lt⟩
  own := fun i => Rw.own_kept (h.own i) hb
  none_ := h.none_
  inj := h.inj
  apart := h.apart
theorem Pt.start (hr : Row w R 25 (List.replicate k (.slice none 0 0))) : Pt base R k (fun _ => none) (fun _ => .slice none 0 0) (fun _ => .slice none 0 0) (fun _ => []) w where
  rows := by
    have e : (List.range k).map (fun _ => slotV none) = List.replicate k (.slice none 0 0) := by
      apply List.ext_getElem?
      intro j
      by_cases hj : j < k
      · simp [hj, slotV]
      · simp [hj]
    rw [e]; exact hr
  at_ := fun t g ht hs => by cases hs
  own := fun i => World.ownsRow_nil _ _ _ _
  none_ := fun t ht hs => ⟨⟨rfl, rfl⟩, rfl, rfl⟩
  inj := fun t u g ht hu hs => by cases hs
  apart := fun i j b hij hb => by cases hb
theorem Pt.slot (h : Pt base R k S C V X w) (ht : t < k) : w.cell? ⟨R, t, none⟩ = some (slotV (S t)) := by
  have := h.rows.cell t
  rw [this]
  simp [ht]
theorem Pt.cell (h : Pt base R k S C V X w) (ht : t < k) (hs : S t = some g) (hp : p < 2) : w.cell? ⟨g, p, none⟩ = some (C (2 * t + p)) := by
  have := (h.at_ t g ht hs).2.cell p
  rw [this]
  obtain rfl | rfl : p = 0 ∨ p = 1 := by omega
  · rfl
  · rfl
theorem grown_set (w : World) (b i : Nat) (u : Value) : w.grownBy (w.setCell ⟨b, i, none⟩ u) (some b) :=
  ⟨rfl, rfl, rfl, by simp, fun k _ hk => heap_setCell_other w ⟨b, i, none⟩ k u (fun e => hk (by simp [e]))⟩
theorem grown_next {w3 : World} {x : Option Nat} (h : w3.grownBy w x) (hb : Below w.heap.size w w') : w3.grownBy w' x :=
  ⟨hb.os.trans h.os, hb.tape.trans h.tape, hb.output.trans h.output, Nat.le_trans h.size hb.size, fun k hk hx => (hb.block k (Nat.lt_of_lt_of_le hk h.size)).trans (h.block k hk hx)⟩
theorem grown_far {w3 : World} {x y : Option Nat} (h : w3.grownBy w x) (hg : w.grownBy w' y) (hy : ∀ b, y = some b → w3.heap.size ≤ b ∨ y = x) : w3.grownBy w' x :=
  ⟨hg.os.trans h.os, hg.tape.trans h.tape, hg.output.trans h.output, Nat.le_trans h.size hg.size, fun k hk hx => (hg.block k (Nat.lt_of_lt_of_le hk h.size) (fun e => by
    rcases hy k e.symm with h1 | h1
    · omega
    · exact hx (e.trans h1))).trans (h.block k hk hx)⟩
theorem below_grown {B : Nat} {w0 w3 : World} (hb : Below B w0 w3) (hg : w3.grownBy w (some R)) (hR : B ≤ R) (hB : B ≤ w3.heap.size) : Below B w0 w :=
  ⟨hg.os.trans hb.os, hg.tape.trans hb.tape, hg.output.trans hb.output, Nat.le_trans hb.size hg.size, fun k hk => (hg.block k (Nat.lt_of_lt_of_le hk hB) (fun e => by cases e; omega)).trans (hb.block k hk)⟩
/-- a row of records isn't touched by a store into a block of another type -/
theorem own_set {b i n : Nat} {v u : Value} {xs l : List Value} {T : TypeId} (h : w.ownsRow base 36 kindR.K v n xs) (hr : Row w b T l) (hT : T ≠ 36) : (w.setCell ⟨b, i, none⟩ u).ownsRow base 36 kindR.K v n xs :=
  h.kept (grown_set w b i u) (.inr (Rw.own_apart h hr hT).symm)
/-- two rows are made for a worker -/
theorem Pt.fresh (h : Pt base R k S V V X w) (ht : t < k) (hs : S t = none) (hb : base ≤ w.heap.size) :
    Pt base R k (updF S t (some w.heap.size)) V V X ((w.alloc (.cells #[.slice none 0 0, .slice none 0 0] 28)).setCell ⟨R, t, none⟩ (.slice (some ⟨w.heap.size, 0, none⟩) 2 2)) where
  rows := by
    have h1 := (h.rows.alloc (.cells #[.slice none 0 0, .slice none 0 0] 28)).put t (.slice (some ⟨w.heap.size, 0, none⟩) 2 2)
    have e : ((List.range k).map fun t => slotV (S t)).set t (.slice (some ⟨w.heap.size, 0, none⟩) 2 2) = (List.range k).map fun u => slotV (updF S t (some w.heap.size) u) := by
      apply List.ext_getElem?
      intro j
      rw [List.getElem?_set]
      by_cases hj : j < k
      · by_cases hjt : t = j
        · subst hjt; simp [hj, updF_self, slotV]
        · rw [if_neg hjt]
          simp [hj, updF_ne (fun e => hjt e.symm)]
      · have : t ≠ j := by omega
        rw [if_neg this]
        simp [hj]
    rw [← e]; exact h1
  at_ := fun u g hu hg => by
    by_cases e : u = t
    · subst e
      rw [updF_self] at hg
      cases hg
      obtain ⟨⟨e1, e2⟩, _⟩ := h.none_ u hu hs
      rw [e1, e2]
      have h1 := Row.made w 28 [.slice none 0 0, .slice none 0 0]
      refine ⟨hb, Row.far h1 ?_ _⟩
      have := h.rows.lt
      show w.heap.size ≠ R
      omega
    · rw [updF_ne e] at hg
      obtain ⟨h1, h2⟩ := h.at_ u g hu hg
      exact ⟨h1, Row.far (h2.alloc _) (h2.apart h.rows (by decide)) _⟩
  own := fun i => own_set ((h.own i).alloc _) (h.rows.alloc _) (by decide)
  none_ := fun u hu hg => by
    by_cases e : u = t
    · subst e; rw [updF_self] at hg; cases hg
    · rw [updF_ne e] at hg; exact h.none_ u hu hg
  inj := fun u v g hu hv h1 h2 => by
    by_cases e1 : u = t
    · by_cases e2 : v = t
      · rw [e1, e2]
      · subst e1
        rw [updF_self] at h1; rw [updF_ne e2] at h2
        cases h1
        have := (h.at_ v _ hv h2).2.lt; omega
    · by_cases e2 : v = t
      · subst e2
        rw [updF_self] at h2; rw [updF_ne e1] at h1
        cases h2
        have := (h.at_ u _ hu h1).2.lt; omega
      · rw [updF_ne e1] at h1; rw [updF_ne e2] at h2
        exact h.inj u v g hu hv h1 h2
  apart := h.apart
/-- a record is appended to one of the rows -/
theorem Pt.add {i G : Nat} (h : Pt base R k S C V X w) (hi : i / 2 < k) (hS : S (i / 2) ≠ none) (hb : base ≤ w.heap.size) (hl : (X i).length ≤ 1000000) (hG : Row w G 36 [.int .i64 r.k, .int .i64 r.v]) :
    ∃ v' w', (Builtin.append_ #[28, 28] 28 #[V i, .slice (some ⟨G, 0, none⟩) 1 1]).run Try.prog w = .ok v' w' ∧ Pt base R k S C (updF V i v') (updF X i (X i ++ [r])) w' ∧ w.grownBy w' (V i).ownBlock := by
  obtain ⟨i0, hi0, hz0, hz1, hz2⟩ := info_parts infoRec
  have ho := h.own i
  obtain ⟨v', w', hr, r2, r3, r4, r5⟩ := run_append_own_at (P := Try.prog) w base 28 28 36 i0 _ kindR.K 16 Try.underlying28 hi0 hz0 hz1 hz2 rfl kindR.pos (V i) (X i).length (Rw.row kindR (X i)) ho ⟨G, 0, none⟩ 1 1 (Rw.row kindR [r]) rfl
    (fun j u hj => by
      have := hG.cell j
      rw [show ((⟨G, 0, none⟩ : Addr).add j) = ⟨G, j, none⟩ by simp [Addr.add]; omega, this]; exact hj)
    (Rw.row_one [r]) (by unfold maxLen; omega) (by omega) hb
  refine ⟨v', w', hr, ?_, r3⟩
  have hnew : w'.ownsRow base 36 kindR.K v' ((X i) ++ [r]).length (Rw.row kindR ((X i) ++ [r])) := by
    rw [Rw.row_append, List.length_append]; exact r2
  exact {
    rows := h.rows.grown r3 (Rw.own_apart ho h.rows (by decide))
      , at_ := fun t g ht hs => ⟨(h.at_ t g ht hs).1, (h.at_ t g ht hs).2.grown r3 (Rw.own_apart ho (h.at_ t g ht hs).2 (by decide))⟩
    , own := fun j => by
      by_cases e : j = i
      · subst e; rw [updF_self, updF_self]; exact hnew
      · rw [updF_ne e, updF_ne e]
        refine (h.own j).kept r3 ?_
        cases e1 : (V j).ownBlock with
        | none => exact .inl rfl
        | some b => exact .inr (fun e2 => h.apart j i b e e1 e2.symm)
    , none_ := fun t ht hs => by
      have e1 : 2 * t ≠ i := fun e => hS (by rw [← hs]; congr 1; omega)
      have e2 : 2 * t + 1 ≠ i := fun e => hS (by rw [← hs]; congr 1; omega)
      rw [updF_ne e1, updF_ne e2, updF_ne e1, updF_ne e2]
      exact h.none_ t ht hs
    , inj := h.inj
    , apart := fun j l b hjl h1 h2 => by
      by_cases e1 : j = i
      · have e2 : l ≠ i := fun e => hjl (e1.trans e.symm)
        subst e1
        rw [updF_self] at h1; rw [updF_ne e2] at h2
        rcases r5 with h5 | h5
        · rw [h5] at h1; exact h.apart j l b hjl h1 h2
        · rw [h5] at h1; cases h1
          have := ((h.own l).lt _ h2).2; omega
      · by_cases e2 : l = i
        · subst e2
          rw [updF_self] at h2; rw [updF_ne e1] at h1
          rcases r5 with h5 | h5
          · rw [h5] at h2; exact h.apart j l b hjl h1 h2
          · rw [h5] at h2; cases h2
            have := ((h.own j).lt _ h1).2; omega
        · rw [updF_ne e1] at h1; rw [updF_ne e2] at h2
          exact h.apart j l b hjl h1 h2 }
/-- the row is stored where it was -/
theorem Pt.put {u0 : Value} (h : Pt base R k S (updF V (2 * t + p) u0) V X w) (ht : t < k) (hs : S t = some g) (hp : p < 2) :
    Pt base R k S V V X (w.setCell ⟨g, p, none⟩ (V (2 * t + p))) where
  rows := Row.far h.rows (h.rows.apart (h.at_ t g ht hs).2 (by decide)) _
  at_ := fun u f hu hf => by
    by_cases e : u = t
    · subst e
      rw [hs] at hf; cases hf
      obtain ⟨h1, h2⟩ := h.at_ u g hu hs
      refine ⟨h1, ?_⟩
      have h3 := h2.put p (V (2 * u + p))
      obtain rfl | rfl : p = 0 ∨ p = 1 := by omega
      · rw [Nat.add_zero] at h3 ⊢
        rw [updF_ne (show 2 * u + 1 ≠ 2 * u by omega)] at h3
        exact h3
      · rw [updF_ne (show 2 * u ≠ 2 * u + 1 by omega)] at h3
        exact h3
    · obtain ⟨h1, h2⟩ := h.at_ u f hu hf
      rw [updF_ne (by omega), updF_ne (by omega)] at h2
      exact ⟨h1, Row.far h2 (fun e2 => e (h.inj u t f hu ht hf (by rw [hs]; exact congrArg some e2.symm))) _⟩
  own := fun i => own_set (h.own i) (h.at_ t g ht hs).2 (by decide)
  none_ := h.none_
  inj := h.inj
  apart := h.apart
end
end Op
end Go.Proofs.Ytcjdjdhjbchaaaa
