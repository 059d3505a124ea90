/- What stays of all files: plain lists. -/
import Derived.Test.YtgfdpilgonpokaaStay
namespace Go.Proofs.Ytgfdpilgonpokaa
set_option linter.unusedVariables false
def stays (p : Nm × Fil) (wish : Int) : Fs := match stay1 p.2 wish with | some y => [(p.1, y)] | none => []
def onF (W : Nat → Int) : Nat → Fs → Fs
  | _, [] => []
  | i, p :: r => stays p (W i) ++ onF W (i + 1) r
def midF (W : Nat → Int) (fs : Fs) (k : Nat) : Fs := onF W 0 (fs.take k) ++ fs.drop k
theorem onF_append (W : Nat → Int) : ∀ (l : Fs) (i : Nat) (p : Nm × Fil), onF W i (l ++ [p]) = onF W i l ++ stays p (W (i + l.length))
  | [], i, p => by simp [onF]
  | q :: r, i, p => by
    simp only [List.cons_append, onF, onF_append W r (i + 1) p, List.length_cons, List.append_assoc]
    rw [show i + 1 + r.length = i + (r.length + 1) by omega]
theorem onF_mem (W : Nat → Int) : ∀ (l : Fs) (i : Nat) (q : Nm × Fil), q ∈ onF W i l → ∃ x, (q.1, x) ∈ l
  | [], _, _, h => by simp [onF] at h
  | p :: r, i, q, h => by
    simp only [onF, List.mem_append] at h
    rcases h with h | h
    · unfold stays at h
      split at h
      · simp at h; exact ⟨p.2, by rw [h]; simp⟩
      · simp at h
    · obtain ⟨x, hx⟩ := onF_mem W r (i + 1) q h
      exact ⟨x, by simp [hx]⟩
section
variable {A R : Fs} {n : Nm} {x y : Fil}
theorem del_mid (hA : ∀ a ∈ A, bytesBefore a.1 n = true) (hR : ∀ a ∈ R, bytesBefore n a.1 = true) : delF n (A ++ (n, x) :: R) = A ++ R := by
  have h1 : delF n A = A := by unfold delF; rw [List.filter_eq_self]; intro a ha; simpa using bb_ne (hA a ha)
  have h2 : delF n R = R := by unfold delF; rw [List.filter_eq_self]; intro a ha; simpa using Ne.symm (bb_ne (hR a ha))
  unfold delF at h1 h2 ⊢
  rw [List.filter_append, List.filter_cons, h1, h2]
  simp
theorem ins_mid (hA : ∀ a ∈ A, bytesBefore a.1 n = true) (hR : ∀ a ∈ R, bytesBefore n a.1 = true) : insF (n, y) (A ++ R) = A ++ (n, y) :: R := by
  induction A with
  | nil =>
    cases R with
    | nil => rfl
    | cons a r => simp [insF, hR a (by simp)]
  | cons a A ih =>
    have h1 : ¬ bytesBefore n a.1 = true := fun e => by
      have := bb_trans e (hA a (by simp)); rw [bb_irrefl] at this; cases this
    rw [List.cons_append, insF, if_neg h1, ih (fun b hb => hA b (by simp [hb]))]
    rfl
theorem put_mid (hA : ∀ a ∈ A, bytesBefore a.1 n = true) (hR : ∀ a ∈ R, bytesBefore n a.1 = true) : putF n y (A ++ (n, x) :: R) = A ++ (n, y) :: R := by
  unfold putF; rw [del_mid hA hR, ins_mid hA hR]
theorem get_mid (hA : ∀ a ∈ A, bytesBefore a.1 n = true) : getF n (A ++ (n, x) :: R) = some x := by
  unfold getF
  rw [List.find?_append]
  have : A.find? (fun p => p.1 == n) = none := by
    rw [List.find?_eq_none]; intro a ha; simpa using bb_ne (hA a ha)
  rw [this]; simp
end
section
variable {fs : Fs} {W : Nat → Int} {k : Nat}
theorem split_at (hS : SortF fs) (hk : k < fs.length) : (∀ a ∈ onF W 0 (fs.take k), bytesBefore a.1 fs[k].1 = true) ∧ (∀ a ∈ fs.drop (k + 1), bytesBefore fs[k].1 a.1 = true) := by
  have h1 : fs = fs.take k ++ fs[k] :: fs.drop (k + 1) := by rw [← List.drop_eq_getElem_cons hk, List.take_append_drop]
  unfold SortF at hS
  rw [h1, List.pairwise_append, List.pairwise_cons] at hS
  obtain ⟨_, ⟨h3, _⟩, h4⟩ := hS
  refine ⟨fun a ha => ?_, fun a ha => h3 a ha⟩
  obtain ⟨x, hx⟩ := onF_mem W _ _ _ ha
  exact h4 _ hx fs[k] List.mem_cons_self
theorem mid_eq (hk : k < fs.length) : midF W fs k = onF W 0 (fs.take k) ++ (fs[k].1, fs[k].2) :: fs.drop (k + 1) := by
  unfold midF; rw [List.drop_eq_getElem_cons hk]
theorem mid_get (hS : SortF fs) (hk : k < fs.length) : getF fs[k].1 (midF W fs k) = some fs[k].2 := by
  rw [mid_eq hk]; exact get_mid (split_at hS hk).1
theorem mid_step (hS : SortF fs) (hk : k < fs.length) : stayF fs[k].1 (W k) (midF W fs k) = midF W fs (k + 1) := by
  obtain ⟨hA, hR⟩ := split_at (W := W) hS hk
  have hm : midF W fs (k + 1) = onF W 0 (fs.take k) ++ stays fs[k] (W k) ++ fs.drop (k + 1) := by
    unfold midF
    rw [List.take_succ_eq_append_getElem hk, onF_append]
    simp [Nat.min_eq_left (Nat.le_of_lt hk)]
  unfold stayF
  rw [mid_get hS hk, hm, mid_eq hk]
  show (match stay1 fs[k].2 (W k) with | some y => putF fs[k].1 y (onF W 0 (fs.take k) ++ (fs[k].1, fs[k].2) :: fs.drop (k + 1)) | none => delF fs[k].1 (onF W 0 (fs.take k) ++ (fs[k].1, fs[k].2) :: fs.drop (k + 1))) = _
  unfold stays
  cases stay1 fs[k].2 (W k) with
  | some y => simp only [put_mid hA hR]; simp
  | none => simp only [del_mid hA hR]; simp
theorem usedF_app (A R : Fs) : usedF (A ++ R) = usedF A + usedF R := by
  induction A with
  | nil => simp [usedF]
  | cons a A ih => simp only [List.cons_append, usedF, ih]; omega
theorem usedF_on (h : ∀ p ∈ fs, p.2.sure ≤ p.2.b.length) : ∀ i, usedF (onF W i fs) ≤ usedF fs := by
  induction fs with
  | nil => intro i; simp [onF]
  | cons p r ih =>
    intro i
    have h1 := ih (fun q hq => h q (by simp [hq])) (i + 1)
    have h2 : usedF (stays p (W i)) ≤ p.2.b.length := by
      unfold stays stay1
      by_cases hh : stayN p.2 (W i) = 0 ∧ p.2.made = false
      · simp only [if_pos hh]; simp [usedF]
      · simp only [if_neg hh]; simp [usedF, cutF]; omega
    simp only [onF, usedF_app, usedF]
    omega
theorem usedF_mid (h : OkFs fs) : usedF (midF W fs k) ≤ usedF fs := by
  have hs : ∀ p ∈ fs, p.2.sure ≤ p.2.b.length := fun p hp => h.sure p.1 p.2 (getF_of_mem h.sort hp)
  have h1 := usedF_on (W := W) (fs := fs.take k) (fun p hp => hs p (List.mem_of_mem_take hp)) 0
  have h2 : usedF (fs.take k) + usedF (fs.drop k) = usedF fs := by rw [← usedF_app, List.take_append_drop]
  unfold midF
  rw [usedF_app]; omega
theorem mid_zero : midF W fs 0 = fs := by simp [midF, onF]
theorem mid_all : midF W fs fs.length = onF W 0 fs := by simp [midF]
end
/-- how much is wished of the k-th file -/
def wishOf (ks : List Int) (k : Nat) : Int := ks.getD k 0
def onD (d : DM) (ks : List Int) : DM := if d.off = true then ⟨d.room, onF (wishOf ks) 0 d.fs, d.deeds, false, 0⟩ else { d with fuse := 0 }
end Go.Proofs.Ytgfdpilgonpokaa
