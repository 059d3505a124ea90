/- What Then and Leq tell, of any two summaries; where nothing comes of Then. -/
import Derived.Test.YtdpadkellpkppaaSmApM
import Derived.Test.YtdpadkellpkppaaSmOf
namespace Go.Proofs.Ytdpadkellpkppaa
open Go.ChangeShapes Go.WideShapes Go.ChangeAt Go.RowKit Go.BigFrame
set_option linter.unusedVariables false
set_option maxRecDepth 100000
def Sm.th (a b : Sm) : Sm := if a.thenOk b then a.seq b else Sm.zero
def Sm.thB (a b : Sm) : Bool := decide (a.thenOk b)
section
variable {a b : Sm}
theorem Sm.th_no (h : ¬ a.thenOk b) : a.th b = Sm.zero ∧ a.thB b = false := ⟨if_neg h, decide_eq_false h⟩
theorem Sm.th_yes (h : a.thenOk b) : a.th b = a.seq b ∧ a.thB b = true := ⟨if_pos h, decide_eq_true h⟩
theorem Sm.seq_ok (ha : a.R) (hb : b.R) (ht : a.to = b.fr) : (a.seq b).R ↔ a.thenOk b := by
  constructor
  · intro h
    refine ⟨ha, hb, ht, ?_, ?_, ?_⟩
    · rw [← Sm.seq_N ha hb ht (i := 0) (by omega) (by omega)]; exact (Sm.N_R h 0).2
    · rw [← Sm.seq_N ha hb ht (i := 1) (by omega) (by omega)]; exact (Sm.N_R h 1).2
    · rw [← Sm.seq_N ha hb ht (i := 2) (by omega) (by omega)]; exact (Sm.N_R h 2).2
  · exact Sm.seq_R
/-- of noughts: what is added stands there by itself -/
theorem Sm.al_zero (i : Int) : a.al i 0 = if i < a.to then a.N i else 0 := by
  unfold Sm.al
  by_cases h : i < a.to
  · rw [if_pos h, if_pos h, Sm.cn_N]; split <;> omega
  · rw [if_neg h, if_neg h]
theorem Sm.al_al (ha : a.R) (hb : b.R) (ht : a.to = b.fr) (i : Int) : b.al i (a.al i 0) = a.M b i := by
  rw [Sm.al_zero]
  unfold Sm.al Sm.M
  by_cases h : i < b.to
  · rw [if_pos h, if_pos h, Sm.cn_N]
    by_cases h2 : i < b.kp
    · rw [if_pos h2, if_pos h2, if_pos (by unfold Sm.R at hb; omega)]; omega
    · rw [if_neg h2, if_neg h2]; omega
  · rw [if_neg h, if_neg h]
theorem Sm.al_b (ha : a.R) (i : Int) : 0 ≤ a.al i 0 ∧ a.al i 0 ≤ 1000 := by
  rw [Sm.al_zero]
  have := Sm.N_R ha i
  split <;> omega
theorem Sm.M_b (ha : a.R) (hb : b.R) (i : Int) : 0 ≤ a.M b i ∧ a.M b i ≤ 1000 := by
  have h1 := Sm.N_R ha i; have h2 := Sm.N_R hb i
  unfold Sm.M; repeat' split
  all_goals omega
end
/-- two summaries' boxes, and a third one that is all 0 -/
def Tri2 (W : World) (g : Nat) (ty : TypeId) (a b : Sm) : Prop := HoldsM W g ty a ∧ HoldsM W (g + 1) ty b ∧ HoldsM W (g + 1 + 1) ty Sm.zero
theorem Tri2.made (w : World) (ty : TypeId) (a b : Sm) : Tri2 (((w.alloc (.cells #[.int .i64 a.fr, .int .i64 a.to, .int .i64 a.kp, .int .i64 a.ad, .int .i64 a.t0, .int .i64 a.t1, .int .i64 a.t2] ty)).alloc (.cells #[.int .i64 b.fr, .int .i64 b.to, .int .i64 b.kp, .int .i64 b.ad, .int .i64 b.t0, .int .i64 b.t1, .int .i64 b.t2] ty)).alloc (.cells #[.int .i64 0, .int .i64 0, .int .i64 0, .int .i64 0, .int .i64 0, .int .i64 0, .int .i64 0] ty)) w.heap.size ty a b := by
  refine ⟨((HoldsM.made w ty a).alloc _).alloc _, ?_, ?_⟩
  · have := (HoldsM.made (w.alloc (.cells #[.int .i64 a.fr, .int .i64 a.to, .int .i64 a.kp, .int .i64 a.ad, .int .i64 a.t0, .int .i64 a.t1, .int .i64 a.t2] ty)) ty b).alloc (.cells #[.int .i64 0, .int .i64 0, .int .i64 0, .int .i64 0, .int .i64 0, .int .i64 0, .int .i64 0] ty)
    rwa [size_alloc] at this
  · have := HoldsM.made ((w.alloc (.cells #[.int .i64 a.fr, .int .i64 a.to, .int .i64 a.kp, .int .i64 a.ad, .int .i64 a.t0, .int .i64 a.t1, .int .i64 a.t2] ty)).alloc (.cells #[.int .i64 b.fr, .int .i64 b.to, .int .i64 b.kp, .int .i64 b.ad, .int .i64 b.t0, .int .i64 b.t1, .int .i64 b.t2] ty)) ty Sm.zero
    rwa [size_alloc, size_alloc] at this
theorem Tri2.below {W W' : World} {g : Nat} {ty : TypeId} {a b : Sm} (h : Tri2 W g ty a b) (hb : Below W.heap.size W W') : Tri2 W' g ty a b := ⟨h.1.below hb, h.2.1.below hb, h.2.2.below hb⟩
def Two2 (W : World) (g : Nat) (ty : TypeId) (a b : Sm) : Prop := HoldsM W g ty a ∧ HoldsM W (g + 1) ty b
theorem Two2.made (w : World) (ty : TypeId) (a b : Sm) : Two2 ((w.alloc (.cells #[.int .i64 a.fr, .int .i64 a.to, .int .i64 a.kp, .int .i64 a.ad, .int .i64 a.t0, .int .i64 a.t1, .int .i64 a.t2] ty)).alloc (.cells #[.int .i64 b.fr, .int .i64 b.to, .int .i64 b.kp, .int .i64 b.ad, .int .i64 b.t0, .int .i64 b.t1, .int .i64 b.t2] ty)) w.heap.size ty a b := by
  refine ⟨(HoldsM.made w ty a).alloc _, ?_⟩
  have := HoldsM.made (w.alloc (.cells #[.int .i64 a.fr, .int .i64 a.to, .int .i64 a.kp, .int .i64 a.ad, .int .i64 a.t0, .int .i64 a.t1, .int .i64 a.t2] ty)) ty b
  rwa [size_alloc] at this
theorem Two2.below {W W' : World} {g : Nat} {ty : TypeId} {a b : Sm} (h : Two2 W g ty a b) (hb : Below W.heap.size W W') : Two2 W' g ty a b := ⟨h.1.below hb, h.2.below hb⟩
end Go.Proofs.Ytdpadkellpkppaa
