/- What the document's function makes of rows: record after record. -/
import Derived.Test.YtcjdjdhjbchaaaaOpRef1
import Derived.Test.YtcjdjdhjbchaaaaCa20
namespace Go.Proofs.Ytcjdjdhjbchaaaa
namespace Op
open Go.ChangeShapes Go.WideShapes Go.ChangeAt Go.RowKit Go.BigFrame Vr
set_option linter.unusedVariables false
set_option maxRecDepth 100000
/-- what one record adds -/
def addsR (n : Nd) (ls : List (List Rd)) (p i : Nat) (r : Rd) : List Rd :=
  if n.k = 2 then [mapR n r] else if n.k = 3 then (if passB n r then [r] else []) else if n.k = 5 then (if r.k ∉ keysOf ((ls.getD p []).take i) then [⟨r.k, redV n.a (valsOf (ls.getD p []) r.k)⟩] else [])
  else if n.k = 6 then (if p = 0 then (valsOf (ls.getD 1 []) r.k).map fun v => ⟨r.k, wrap64 (r.v + v)⟩ else []) else [r]
/-- what the first records of row p add -/
def rowN (n : Nd) (ls : List (List Rd)) (p : Nat) : Nat → List Rd
  | 0 => []
  | i + 1 => rowN n ls p i ++ (match (ls.getD p [])[i]? with | some r => addsR n ls p i r | none => [])
/-- what the first rows make -/
def upN (n : Nd) (ls : List (List Rd)) : Nat → List Rd
  | 0 => []
  | p + 1 => upN n ls p ++ rowN n ls p (ls.getD p []).length
section
variable {n : Nd} {ls : List (List Rd)} {p i : Nat} {r : Rd}
theorem rowN_step (h : (ls.getD p [])[i]? = some r) : rowN n ls p (i + 1) = rowN n ls p i ++ addsR n ls p i r := by
  show rowN n ls p i ++ _ = _
  rw [h]
theorem len_getD (hl : ∀ l ∈ ls, l.length ≤ 200) (q : Nat) : (ls.getD q []).length ≤ 200 := by
  rw [List.getD_eq_getElem?_getD]
  cases h : ls[q]? with
  | none => simp
  | some l => exact hl l (List.mem_of_getElem? h)
theorem addsR_len (hl : ∀ l ∈ ls, l.length ≤ 200) : (addsR n ls p i r).length ≤ 200 := by
  unfold addsR
  split
  · simp
  · split
    · split <;> simp
    · split
      · split <;> simp
      · split
        · split
          · rw [List.length_map]; exact Nat.le_trans valsOf_len (len_getD hl 1)
          · simp
        · simp
theorem rowN_len (hl : ∀ l ∈ ls, l.length ≤ 200) : ∀ i, (rowN n ls p i).length ≤ i * 200
  | 0 => by simp [rowN]
  | i + 1 => by
    show (rowN n ls p i ++ _).length ≤ _
    have := rowN_len hl i
    rw [List.length_append]
    cases h : (ls.getD p [])[i]? with
    | none => simp only [List.length_nil]; omega
    | some r => have := addsR_len (n := n) (p := p) (i := i) (r := r) hl; simp only; omega
theorem upN_len (hl : ∀ l ∈ ls, l.length ≤ 200) : ∀ p, (upN n ls p).length ≤ p * 40000
  | 0 => by simp [upN]
  | p + 1 => by
    show (upN n ls p ++ _).length ≤ _
    have h1 := upN_len hl p
    have h2 := rowN_len (n := n) (p := p) hl (ls.getD p []).length
    have h3 := len_getD hl p
    have h4 : (ls.getD p []).length * 200 ≤ 200 * 200 := Nat.mul_le_mul h3 (Nat.le_refl _)
    rw [List.length_append]
    omega
theorem rowN_eq (T : List Rd → List Rd) (h0 : T [] = []) (hs : ∀ i r, (ls.getD p [])[i]? = some r → T ((ls.getD p []).take (i + 1)) = T ((ls.getD p []).take i) ++ addsR n ls p i r) : ∀ i, i ≤ (ls.getD p []).length → rowN n ls p i = T ((ls.getD p []).take i)
  | 0, _ => by rw [List.take_zero, h0]; rfl
  | i + 1, h => by
    obtain ⟨r, hr⟩ : ∃ r, (ls.getD p [])[i]? = some r := ⟨_, List.getElem?_eq_getElem (by omega)⟩
    rw [rowN_step hr, rowN_eq T h0 hs i (by omega), hs i r hr]
theorem rowN_all (T : List Rd → List Rd) (h0 : T [] = []) (hs : ∀ i r, (ls.getD p [])[i]? = some r → T ((ls.getD p []).take (i + 1)) = T ((ls.getD p []).take i) ++ addsR n ls p i r) : rowN n ls p (ls.getD p []).length = T (ls.getD p []) := by
  rw [rowN_eq T h0 hs _ (Nat.le_refl _), List.take_length]
theorem row_2 (hk : n.k = 2) : rowN n ls p (ls.getD p []).length = (ls.getD p []).map (mapR n) := rowN_all _ rfl fun i r hr => by
  rw [Vr.take_snoc hr, List.map_append]; unfold addsR; rw [if_pos hk]; rfl
theorem row_3 (hk : n.k = 3) : rowN n ls p (ls.getD p []).length = (ls.getD p []).filter (passB n) := rowN_all _ rfl fun i r hr => by
  rw [Vr.take_snoc hr, filter_snoc]; unfold addsR; rw [if_neg (show ¬ n.k = 2 by omega), if_pos hk]
  split <;> simp
theorem row_5 (hk : n.k = 5) : rowN n ls p (ls.getD p []).length = reduceR n.a (ls.getD p []) := rowN_all (fun m => (keysOf m).map fun k => ⟨k, redV n.a (valsOf (ls.getD p []) k)⟩) rfl fun i r hr => by
  simp only [Vr.take_snoc hr, keysOf_snoc]; unfold addsR; rw [if_neg (show ¬ n.k = 2 by omega), if_neg (show ¬ n.k = 3 by omega), if_pos hk]
  by_cases hm : r.k ∈ keysOf ((ls.getD p []).take i)
  · rw [if_pos hm, if_neg (fun h => h hm)]; simp
  · rw [if_neg hm, if_pos hm, List.map_append]; rfl
theorem row_60 (hk : n.k = 6) : rowN n ls 0 (ls.getD 0 []).length = joinR (ls.getD 0 []) (ls.getD 1 []) := rowN_all (fun m => joinR m (ls.getD 1 [])) rfl fun i r hr => by
  simp only [Vr.take_snoc hr, joinR_app]; unfold addsR; rw [if_neg (show ¬ n.k = 2 by omega), if_neg (show ¬ n.k = 3 by omega), if_neg (show ¬ n.k = 5 by omega), if_pos hk, if_pos rfl, joinR_cons, joinR_nil_left, List.append_nil]
theorem row_61 (hk : n.k = 6) : rowN n ls 1 (ls.getD 1 []).length = [] := rowN_all (fun _ => []) rfl fun i r hr => by
  unfold addsR; rw [if_neg (show ¬ n.k = 2 by omega), if_neg (show ¬ n.k = 3 by omega), if_neg (show ¬ n.k = 5 by omega), if_pos hk, if_neg (show ¬ (1 : Nat) = 0 by omega)]; rfl
theorem row_1 (h2 : n.k ≠ 2) (h3 : n.k ≠ 3) (h5 : n.k ≠ 5) (h6 : n.k ≠ 6) : rowN n ls p (ls.getD p []).length = ls.getD p [] := rowN_all (fun m => m) rfl fun i r hr => by
  simp only [Vr.take_snoc hr]; unfold addsR; rw [if_neg h2, if_neg h3, if_neg h5, if_neg h6]
theorem upN_makes (hw : ls.length = n.want) : upN n ls ls.length = makesR n ls := by
  by_cases h6 : n.k = 6
  · have : n.want = 2 := by unfold Nd.want; rw [if_neg (by omega), if_pos (.inr h6)]
    rw [this] at hw
    match ls, hw with
    | [a, b], _ =>
      show ([] ++ rowN n [a, b] 0 ([a, b].getD 0 []).length) ++ rowN n [a, b] 1 ([a, b].getD 1 []).length = _
      rw [row_60 h6, row_61 h6]
      unfold makesR
      rw [if_neg (show ¬ n.k = 2 by omega), if_neg (show ¬ n.k = 3 by omega), if_neg (show ¬ n.k = 5 by omega), if_pos h6]; simp
  · by_cases h4 : n.k = 4
    · have : n.want = 2 := by unfold Nd.want; rw [if_neg (by omega), if_pos (.inl h4)]
      rw [this] at hw
      match ls, hw with
      | [a, b], _ =>
        show ([] ++ rowN n [a, b] 0 ([a, b].getD 0 []).length) ++ rowN n [a, b] 1 ([a, b].getD 1 []).length = _
        rw [row_1 (by omega) (by omega) (by omega) h6, row_1 (by omega) (by omega) (by omega) h6]
        unfold makesR
        rw [if_neg (show ¬ n.k = 2 by omega), if_neg (show ¬ n.k = 3 by omega), if_neg (show ¬ n.k = 5 by omega), if_neg h6]; simp
    · by_cases h1 : n.k = 1
      · have : n.want = 0 := by unfold Nd.want; rw [if_pos h1]
        rw [this] at hw
        match ls, hw with
        | [], _ => rw [makes_len0 (by unfold Nd.want; rw [if_pos h1])]; rfl
      · have : n.want = 1 := by unfold Nd.want; rw [if_neg h1, if_neg (by omega)]
        rw [this] at hw
        match ls, hw with
        | [a], _ =>
          show [] ++ rowN n [a] 0 ([a].getD 0 []).length = _
          unfold makesR
          by_cases h2 : n.k = 2
          · rw [row_2 h2, if_pos h2]; rfl
          · by_cases h3 : n.k = 3
            · rw [row_3 h3, if_neg h2, if_pos h3]; rfl
            · by_cases h5 : n.k = 5
              · rw [row_5 h5, if_neg h2, if_neg h3, if_pos h5]; rfl
              · rw [row_1 h2 h3 h5 h6, if_neg h2, if_neg h3, if_neg h5, if_neg h6]; simp
end
end Op
end Go.Proofs.Ytcjdjdhjbchaaaa
