/- Bytes compared; Pick. -/
import Derived.Test.YtmjbclinlojboaaGrTo
import Derived.Test.YtmjbclinlojboaaConv
namespace Go.Proofs.Ytmjbclinlojboaa
open Go.ChangeShapes Go.WideShapes Go.ChangeAt Go.RowKit Go.BigFrame
set_option linter.unusedVariables false
def sameB (xs ys : List Nat) : Bool := decide (xs = ys)
theorem str_same {xs ys : List Nat} (hx : ∀ x ∈ xs, x < 256) (hy : ∀ y ∈ ys, y < 256) : ((strOf xs).toList == (strOf ys).toList) = sameB xs ys := by
  rw [str_eql]; unfold sameB; rw [decide_eq_decide]; exact strOf_inj hx hy
theorem sameBytes_any (xs ys : List Nat) (A B : Option Addr) (c d : Nat) (w : World) (hA : Bytes w A xs) (hB : Bytes w B ys) :
    Calls Try.prog 16 #[.slice A xs.length c, .slice B ys.length d] w fun e w' => e = .returned (.bool (sameB xs ys)) ∧ w = w' := by
  have h1 := conv_bytes (P := Try.prog) (w := w) Try.underlying27 Try.underlying5 Try.underlying9 hA c
  have h2 := conv_bytes (P := Try.prog) (w := w) Try.underlying27 Try.underlying5 Try.underlying9 hB d
  have h3 := str_same hA.1 hB.1
  generalize strOf xs = s at *
  generalize strOf ys = t at *
  have H3 := Lib.hid h3; clear h3
  generalize xs.length = n at *
  generalize ys.length = m at *
  clear hA hB
  go_enter Try.func16, Try.ntmps16
  go_wp2_with fail
  go_ret
  exact ⟨by rw [← H3.out]; rfl, rfl⟩
/-- a number below n (0 of none) -/
def PickD (n : Nat) (w : World) (e : Ending) (w' : World) : Prop := (∃ k : Nat, e = .returned (.int .i64 (k : Nat)) ∧ (k < n ∨ n = 0 ∧ k = 0)) ∧ w = w'
theorem pick_any (i : Int) (n : Nat) (w : World) (hi : -9223372036854775808 ≤ i ∧ i ≤ 9223372036854775807) (hn : n ≤ 100000) :
    Calls Try.prog 20 #[.int .i64 i, .int .i64 (n : Nat)] w (PickD n w) := by
  by_cases h0 : n = 0
  · subst h0
    go_enter Try.func20, Try.ntmps20
    go_wp2_with fail
    go_ret
    exact ⟨⟨0, rfl, .inr ⟨rfl, rfl⟩⟩, rfl⟩
  · obtain ⟨r, hr⟩ : ∃ r, i.tmod (n : Int) = r := ⟨_, rfl⟩
    have hr1 : -(n : Int) < r ∧ r < (n : Int) := by
      rw [← hr]
      have h1 := Int.tmod_lt_of_pos i (show (0 : Int) < (n : Int) by omega)
      have h2 := Int.lt_tmod_of_pos i (show (0 : Int) < (n : Int) by omega)
      omega
    obtain ⟨k, hk⟩ : ∃ k : Nat, (r + (n : Int)) % (n : Int) = (k : Int) := Int.eq_ofNat_of_zero_le (Int.emod_nonneg _ (by omega))
    have hkn : k < n := by have := Int.emod_lt_of_pos (r + (n : Int)) (show (0 : Int) < (n : Int) by omega); omega
    have hk2 : (r + (n : Int)).tmod (n : Int) = (k : Int) := by rw [Int.tmod_eq_emod_of_nonneg (by omega)]; exact hk
    have HK := Lib.hid hkn; clear hkn
    have hlo : 0 ≤ r + (n : Int) := by omega
    have hup : r + (n : Int) ≤ 200000 := by omega
    go_enter Try.func20, Try.ntmps20
    go_wp2_with fail
    go_ret
    exact ⟨⟨k, rfl, .inl HK.out⟩, rfl⟩
theorem insB_iff {l : List Gn} {T : Int} (h : insB (nds l) T = true) : (l.length : Int) ≤ T ∧ ∀ x ∈ l, (x.nd.ins.length : Int) ≤ T := by
  unfold insB at h
  rw [decide_eq_true_iff, nds_len] at h
  exact ⟨h.1, fun x hx => h.2 x.nd (List.mem_map.2 ⟨x, hx, rfl⟩)⟩
theorem gr_W {w : World} {A : Option Addr} {l : List Gn} (h : Gr w A l) : ∀ n ∈ nds l, n.W := by
  intro n hn
  obtain ⟨x, hx, rfl⟩ := List.mem_map.1 hn
  have hk := (h.2 x hx).1
  exact ⟨hk.k, hk.a, hk.b.1, by have := hk.b.2; omega⟩
/-- bytes of the call's own, as bytes -/
theorem own_bytes {w : World} {base n : Nat} {v : Value} {xs : List Nat} (h : w.ownsRow base 5 kindB.K v n (Rw.row kindB xs)) (hx : ∀ x ∈ xs, x < 256) :
    ∃ A c, v = .slice A xs.length c ∧ Bytes w A xs ∧ xs.length ≤ c ∧ c ≤ maxLen ∧ (A = none → c = 0) ∧ ∀ ad, A = some ad → base ≤ ad.block := by
  obtain ⟨A, c, e, hT, h1, h2, h3, h4⟩ := Rw.Ts.of_own h
  refine ⟨A, c, e, ⟨hx, fun hn => ?_⟩, h1, h2, h3, h4⟩
  obtain ⟨b, o, rfl, hlt, _⟩ := hT hn
  refine ⟨_, rfl, hlt, fun j x hj => ?_⟩
  obtain ⟨_, _, e, _, hc⟩ := bytes_at hT hj
  cases e
  rw [add_at]
  exact hc w (Below.refl _ _)
theorem putO_lt {g : List Nd} (h : ∀ n ∈ g, n.W) : ∀ x ∈ putO g, x < 256 := by
  unfold putO
  split
  · intro x hx; cases hx
  · split
    · exact putG_lt h (mayB_iff.1 ‹_›)
    · intro x hx; cases hx
theorem putO_len {g : List Nd} : (putO g).length ≤ 500 := by
  unfold putO
  split
  · simp
  · split
    · rename_i h1 h2
      have h := mayB_iff.1 h2
      have h3 := putNs_len g h.2
      have := h.1
      simp only [putG, List.length_cons]; omega
    · simp
theorem putE_zero {g : List Nd} (h : putE g = 0) : GMay g ∧ putO g = putG g := by
  unfold putE at h
  unfold putO
  split at h
  · cases h
  · split at h
    · rename_i h1 h2
      rw [if_neg h1, if_pos h2]
      exact ⟨mayB_iff.1 h2, rfl⟩
    · cases h
theorem sameB_graphs {g h : List Nd} (wg : ∀ n ∈ g, n.W) (wh : ∀ n ∈ h, n.W) (eg : putE g = 0) (eh : putE h = 0) : sameB (putO g) (putO h) = sameN g h := by
  obtain ⟨mg, e1⟩ := putE_zero eg
  obtain ⟨mh, e2⟩ := putE_zero eh
  rw [e1, e2, Bool.eq_iff_iff, sameN_iff]
  unfold sameB
  rw [decide_eq_true_iff]
  exact putG_inj wg wh mg mh
theorem ports_at {w : World} {A : Option Addr} {l : List (Nat × Nat)} (h : Rw.Ts kindP w A l) {i n k : Nat} (hi : l[i]? = some (n, k)) : ∃ b o, A = some ⟨b, o, none⟩ ∧ b < w.heap.size ∧ ∀ w', Below w.heap.size w w' → w'.cell? ⟨b, o + i * 2, none⟩ = some (.int .i64 (n : Nat)) ∧ w'.cell? ⟨b, o + i * 2 + 1, none⟩ = some (.int .i64 (k : Nat)) := by
  obtain ⟨b, o, e, hlt, hc⟩ := h.at_ hi
  exact ⟨b, o, e, hlt, fun w' hb => ⟨hc w' hb 0 _ rfl, hc w' hb 1 _ rfl⟩⟩
theorem inI_take {l : List Int} {p : Nat} {z : Int} (L : Nat) (h : l[p]? = some z) : inI L (l.take (p + 1)) = inI L (l.take p) + if 0 ≤ z ∧ z < (L : Int) then 1 else 0 := by
  unfold inI
  rw [List.take_add_one, h, Option.toList_some, List.filter_append, List.length_append]
  by_cases hz : 0 ≤ z ∧ z < (L : Int)
  · rw [if_pos hz, List.filter_cons_of_pos (by simpa using hz)]; rfl
  · rw [if_neg hz, List.filter_cons_of_neg (by simpa using hz)]; rfl
theorem inG_take {l : List Gn} {k : Nat} {x : Gn} (L : Nat) (h : l[k]? = some x) : inG L (nds (l.take (k + 1))) = inG L (nds (l.take k)) + inI L x.nd.ins := by
  unfold inG nds
  rw [List.take_add_one, h]; simp
def fedS (g : List Nd) (n : Nat) : Nat := ((List.range n).map fun j => cntG (j : Nat) g).sum
theorem fedS_succ (g : List Nd) (n : Nat) : fedS g (n + 1) = fedS g n + cntG (n : Nat) g := by
  unfold fedS
  rw [List.range_succ, List.map_append, List.sum_append]; simp
theorem inI_le (L : Nat) (l : List Int) : inI L l ≤ l.length := by unfold inI; exact List.length_filter_le _ _
theorem inG_le (L T : Nat) : ∀ (g : List Nd), (∀ x ∈ g, x.ins.length ≤ T) → inG L g ≤ g.length * T
  | [], _ => by simp [inG]
  | x :: g, h => by
    have h1 := inG_le L T g fun y hy => h y (List.mem_cons_of_mem _ hy)
    have h2 := inI_le L x.ins
    have h3 := h x List.mem_cons_self
    unfold inG at h1 ⊢
    simp only [List.map_cons, List.sum_cons, List.length_cons, Nat.succ_mul]
    omega
theorem cntG_le (i : Int) {T : Nat} {g : List Nd} (h : ∀ x ∈ g, x.ins.length ≤ T) : cntG i g ≤ g.length * T := by
  rw [← toG_cnt i g 0]; exact toG_len i T g 0 h
theorem fedS_le {T : Nat} {g : List Nd} (h : ∀ x ∈ g, x.ins.length ≤ T) : ∀ n, fedS g n ≤ n * (g.length * T)
  | 0 => by simp [fedS]
  | n + 1 => by
    have h1 := fedS_le h n
    have h2 := cntG_le (n : Nat) h
    rw [fedS_succ, Nat.succ_mul]; omega
theorem fedS_end (l : List Gn) : fedS (nds l) l.length = inG l.length (nds l) := fed_all l.length (nds l)
end Go.Proofs.Ytmjbclinlojboaa
