/- Bytes as records, place by place. -/
import Derived.Test.YtcdofkhkckodjaaVrPut
namespace Go.Proofs.Ytcdofkhkckodjaa
namespace Vr
open Go.ChangeShapes Go.WideShapes Go.ChangeAt Go.RowKit Go.BigFrame
set_option linter.unusedVariables false
set_option maxRecDepth 100000
def recAt (xs : List Nat) (k : Nat) : Rd := ⟨sg64 (accU 0 ((xs.drop (k * 16)).take 8)), sg64 (accU 0 ((xs.drop (k * 16 + 8)).take 8))⟩
def recsN (xs : List Nat) (k : Nat) : List Rd := (List.range k).map (recAt xs)
theorem recsN_succ (xs : List Nat) (k : Nat) : recsN xs (k + 1) = recsN xs k ++ [recAt xs k] := by unfold recsN; rw [List.range_succ, List.map_append]; rfl
theorem recsN_len (xs : List Nat) (k : Nat) : (recsN xs k).length = k := by simp [recsN]
theorem getR_recs : ∀ (N : Nat) (xs : List Nat), xs.length = 16 * N → getR xs = some (recsN xs N)
  | 0, xs, h => by
    have : xs = [] := List.length_eq_zero_iff.1 (by omega)
    subst this
    rfl
  | N + 1, xs, h => by
    match xs, h with
    | a0 :: a1 :: a2 :: a3 :: a4 :: a5 :: a6 :: a7 :: b0 :: b1 :: b2 :: b3 :: b4 :: b5 :: b6 :: b7 :: r, h =>
      simp only [List.length_cons] at h
      rw [getR_cons, getR_recs N r (by omega)]
      simp only
      have hd : ∀ m, (a0 :: a1 :: a2 :: a3 :: a4 :: a5 :: a6 :: a7 :: b0 :: b1 :: b2 :: b3 :: b4 :: b5 :: b6 :: b7 :: r).drop (m + 16) = r.drop m := fun m => rfl
      unfold recsN
      rw [List.range_succ_eq_map, List.map_cons, List.map_map]
      congr 1
      congr 1
      · show _ = recAt _ 0
        unfold recAt
        simp only [Nat.zero_mul, Nat.zero_add, List.drop_zero, List.drop_succ_cons, List.take_succ_cons, List.take_zero, accU, of8]
      · refine List.map_congr_left fun k _ => ?_
        show recAt r k = recAt _ (k + 1)
        unfold recAt
        rw [show (k + 1) * 16 = k * 16 + 16 by omega, show k * 16 + 16 + 8 = k * 16 + 8 + 16 by omega, hd, hd]
def getE (xs : List Nat) : Int := if xs.length % 16 = 0 then 0 else 2
def getL (xs : List Nat) : List Rd := if xs.length % 16 = 0 then recsN xs (xs.length / 16) else []
theorem getL_yes {xs : List Nat} {N : Nat} (h : xs.length = N * 16) : getE xs = 0 ∧ getL xs = recsN xs N := by
  unfold getE getL
  rw [if_pos (by omega), if_pos (by omega), show xs.length / 16 = N by omega]
  exact ⟨rfl, rfl⟩
theorem getL_no {xs : List Nat} (h : ¬ xs.length % 16 = 0) : getE xs = 2 ∧ getL xs = [] := by
  unfold getE getL
  rw [if_neg h, if_neg h]
  exact ⟨rfl, rfl⟩
theorem getL_put {l : List Rd} (h : ∀ r ∈ l, r.W) : getE (putR l) = 0 ∧ getL (putR l) = l := by
  have hl : (putR l).length = l.length * 16 := by rw [putR_len]; omega
  refine ⟨(getL_yes hl).1, ?_⟩
  have h1 := getR_recs l.length (putR l) (by omega)
  rw [getR_put h] at h1
  rw [(getL_yes hl).2]
  exact (Option.some.inj h1).symm
/-- what Get answers -/
def GetD (xs : List Nat) (w : World) (e : Ending) (w' : World) : Prop := (∃ v, e = .returned (.tuple #[v, .int .i64 (getE xs)]) ∧ w'.ownsRow w.heap.size 32 kindR.K v (getL xs).length (Rw.row kindR (getL xs))) ∧ Below w.heap.size w w'
theorem GetD.mk {xs : List Nat} {w w' : World} {v : Value} {E : Int} (hE : getE xs = E) (ho : w'.ownsRow w.heap.size 32 kindR.K v (getL xs).length (Rw.row kindR (getL xs))) (hb : Below w.heap.size w w') : GetD xs w (.returned (.tuple #[v, .int .i64 E])) w' := ⟨⟨v, by rw [hE], ho⟩, hb⟩
end Vr
end Go.Proofs.Ytcdofkhkckodjaa
