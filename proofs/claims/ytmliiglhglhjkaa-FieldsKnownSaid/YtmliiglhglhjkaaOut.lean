/- The Writer's Out. -/
import Derived.Test.YtmliiglhglhjkaaNumber
import Derived.OwnWalk
namespace Go.Proofs.Ytmliiglhglhjkaa
open Go.ChangeShapes Go.WideShapes Go.ChangeAt Go.RowKit Go.BigFrame
set_option linter.unusedVariables false

theorem Try.infoByte : (Try.prog.info? 5).map (fun i => (i.zero, i.size, i.bytes)) = some (some (.int .u8 0), 1, 1) := by kernel_rfl
theorem splice_mid {α : Type} (Z1 Z2 R c : List α) (h : c.length = Z2.length) : splice (Z1 ++ (Z2 ++ R)) Z1.length c = Z1 ++ (c ++ R) := by
  unfold splice
  rw [List.take_append_of_le_length (by omega), List.take_of_length_le (by omega), List.drop_append, List.drop_of_length_le (by omega), h]
  simp
/-- what stands in a row that is filled from its end -/
theorem fill_back {xs c : List Nat} {k m : Nat} (hc : c.length = m) (hx : xs.drop k = c ++ xs.drop (k + m)) :
    splice (u8s (List.replicate (k + m) 0 ++ xs.drop (k + m))) k (u8s c) = u8s (List.replicate k 0 ++ xs.drop k) := by
  rw [hx]
  have := splice_mid (u8s (List.replicate k 0)) (u8s (List.replicate m 0)) (u8s (xs.drop (k + m))) (u8s c) (by simp [hc])
  simp only [List.length_map, List.length_replicate] at this
  have e : List.replicate (k + m) 0 = List.replicate k 0 ++ List.replicate m 0 := by rw [List.replicate_append_replicate]
  rw [e]
  simp only [List.map_append, List.append_assoc] at this ⊢
  exact this
/-- a row of which all ahead of k is not yet told -/
def rowAt (xs : List Nat) (k : Nat) : List Value := u8s (List.replicate k 0 ++ xs.drop k)
theorem rowAt_len (xs : List Nat) (k : Nat) (h : k ≤ xs.length) : (rowAt xs k).length = xs.length := by simp [rowAt]; omega
theorem flat_drop {cs : List (List Nat)} {c : List Nat} {rest : List Nat} (hc : c.length = 64) (hf : cs.reverse.flatten.length = 64 * cs.length) :
    ((c :: cs).reverse.flatten ++ rest).drop (64 * cs.length) = c ++ ((c :: cs).reverse.flatten ++ rest).drop (64 * cs.length + 64) := by
  simp only [List.reverse_cons, List.flatten_append, List.flatten_cons, List.flatten_nil, List.append_nil]
  rw [List.append_assoc, ← hf, List.drop_left, ← List.drop_drop, List.drop_left]
  rw [← hc, List.drop_left]
set_option maxRecDepth 100000 in
theorem out_any (g : Nat) (xs : List Nat) (w : World) (hW : IsWriter w g xs) (hm : xs.length ≤ 1000000) :
    Calls Try.prog 14 #[.pointer (some ⟨g, 0, none⟩)] w fun e w' => ∃ b, e = .returned (.slice (some ⟨b, 0, none⟩) xs.length xs.length) ∧ w.heap.size ≤ b ∧ Row w' b 5 (u8s xs) ∧ Below w.heap.size w w' := by
  obtain ⟨i0, hi, hz0, hz1, hz2⟩ := info_parts Try.infoByte
  have hW0 := hW
  have hlt := hW.lt
  obtain ⟨P, cs, last, hR, hP, hl, hlb, hx⟩ := hW
  obtain ⟨n, hn⟩ : ∃ n, n = xs.length := ⟨_, rfl⟩
  rw [← hn] at hR hm hx ⊢
  have hlen := hR.cell 65
  rw [show (Value.pointer P :: (u8s last ++ [Value.int .i64 (n : Nat)]))[65]? = some (.int .i64 (n : Nat)) from by
    rw [List.getElem?_cons_succ, List.getElem?_append_right (by simp [hl])]; simp [hl]] at hlen
  have Hn := Lib.hid hn; have Hx := Lib.hid hx; have Hl := Lib.hid hl
  clear hn hx hl
  go_enter Try.func14, Try.ntmps14
  go_wp2_with (refine wpList_make_full _ rfl (.tmp 11) (.tmp 11) 23 rfl w.heap.size 5 i0 _ 1 Try.underlying23 hi hz0 hz1 .i64 .i64 _ _ n rfl rfl rfl rfl (by rw [hz2]; omega) (by unfold maxLen; omega) (Nat.le_refl _) ?_)
  intro w1 hown hgr
  have hr1 := Row.of_full hown
  rw [toList_madeCells_one] at hr1
  have hb1 : Below w.heap.size w w1 := (Below.refl _ _).grown hgr (Nat.le_refl _) (by simp)
  have hlen1 : w1.cell? ⟨g, 65, none⟩ = some (.int .i64 (n : Nat)) := (hb1.cell (p := ⟨g, 65, none⟩) hlt).trans hlen
  have hR1 := hR.below hb1 hlt
  have hP1 := hP.keep (w' := w1) fun k l hk => hk.below hb1 hk.lt
  clear hown hgr hi hz0 hz1 hz2
  have hP64 := hP.len
  have hnm : n = 64 * cs.length + n % 64 := by
    have h1 : n = (cs.reverse.flatten ++ last.take (n % 64)).length := by rw [← Hx.out, Hn.out]
    rw [List.length_append, hP64, List.length_take, Hl.out] at h1
    omega
  have Hnm := Lib.hid hnm; have HP := Lib.hid hP64; clear hnm hP64
  go_wp2_with fail
  go_quiet (fail)
  generalize hb : w.heap.size = b at *
  have Hb := Lib.hid hb; clear hb
  obtain ⟨A2, hA2⟩ : ∃ A2, A2 = (if n = n - n % 64 then some (⟨b, 0, none⟩ : Addr) else some ⟨b, n - n % 64, none⟩) := ⟨_, rfl⟩
  have hsb : ∀ w' : World, (Instr.sliceAt 23 (.slice (some ⟨b, 0, none⟩) n n) (some (.int .i64 ((n : Int) - (n : Int) % 64))) none none).run Try.prog w' = .ok (.slice A2 (n % 64) (n % 64)) w' := by
    intro w'
    have h5 : (sizeOf (Try.prog.elem 23)).run Try.prog w' = .ok 1 w' := by kernel_rfl
    rw [run_sliceAt_slice (P := Try.prog) (h := by kernel_rfl), run_slice_l (P := Try.prog) (ht := by kernel_rfl) _ _ _ _ _ _ _ (by omega) (by omega), h5]
    simp only [Result.andThen_ok, sliced, hA2, show ((n : Int) - (n : Int) % 64).toNat = n - n % 64 by omega, show n - (n - n % 64) = n % 64 by omega]
    simp [add_at]
  have HA2 := Lib.hid hA2; clear hA2
  have hr2 : Row (w1.drewN nq) b 5 (u8s (List.replicate n 0)) := by simpa using hr1.drewN nq
  have hR2 := hR1.drewN nq
  have hP2 : Pieces (w1.drewN nq) P cs := hP1.keep fun k l hk => hk.drewN nq
  have hb2 : Below b w (w1.drewN nq) := hb1.trans ⟨rfl, rfl, rfl, Nat.le_refl _, fun _ _ => rfl⟩
  clear hr1 hR1 hP1 hb1 hlen1
  generalize w1.drewN nq = W at *
  have hl1 : (last.take (n % 64)).length = n % 64 := by rw [List.length_take, Hl.out]; omega
  have hfin : splice (u8s (List.replicate n 0)) (n - n % 64) (u8s (last.take (n % 64))) = rowAt xs (64 * cs.length) := by
    unfold rowAt
    have hk : n - n % 64 = 64 * cs.length := by have := Hnm.out; omega
    have hd : xs.drop (64 * cs.length) = last.take (n % 64) := by
      have h1 := Hx.out
      rw [h1, ← HP.out, List.drop_left]
    have hnil : xs.drop n = [] := List.drop_eq_nil_of_le (by rw [← Hn.out]; exact Nat.le_refl _)
    have := fill_back (xs := xs) (c := last.take (n % 64)) (k := 64 * cs.length) (m := n % 64) hl1 (by
      rw [← Hnm.out, hnil, hd, List.append_nil])
    rw [← Hnm.out, hnil, List.append_nil, ← hk] at this
    rw [← hk]; exact this
  have Hfin := Lib.hid hfin; have Hl1 := Lib.hid hl1; clear hfin hl1
  have hlb1 : ∀ (j x : Nat), (last.take (n % 64))[j]? = some x → W.cell? ((⟨g, 1, none⟩ : Addr).add j) = some (.int .u8 (x : Nat)) := by
    intro j x hj
    have hj2 : last[j]? = some x := by
      rw [List.getElem?_take] at hj
      split at hj
      · exact hj
      · cases hj
    rw [add_at, hR2.cell, Nat.add_comm 1 j, List.getElem?_cons_succ, List.getElem?_append_left (by simpa using (List.getElem?_eq_some_iff.1 hj2).1), List.getElem?_map, hj2]
    rfl
  have Hlb1 := Lib.hid hlb1; clear hlb1
  go_wp2_with fail
  refine Stage.wp_region (by kernel_rfl) (by kernel_rfl) (Stage.one 7 (fun b' w' => match b' with
    | true => Row w' b 5 (rowAt xs (64 * cs.length)) ∧ W.grownBy w' (some b)
    | false => w' = W.drew)) (Stage.one_start (by simp) rfl) ?_
  refine Stage.wpSt_reads 7 (fun w' => w' = W.drew) (by kernel_rfl) (Stage.one_before (by kernel_rfl)) ?_
  simp only [List.take_succ_cons, List.take_zero, List.drop_succ_cons, List.drop_zero]
  repeat (go_big_quiet_step (fail))
  refine wpQuiet_nil ?_
  refine Stage.wpSt_do (goInt ((n % 64 : Nat) : Int)) rfl (Stage.one_do ?_) ?_
  · rintro w' rfl
    refine at_copy (.tmp 25) (.tmp 29) 23 23 rfl 5 Try.underlying23 (by kernel_rfl) _ _ _ _ _ _ rfl rfl b (n - n % 64) _ 5 hr2.drew (last.take (n % 64)) (n % 64) Hl1.out ?_ ?_ ?_ ?_
    · show n % 64 = min 64 (n % 64); omega
    · intro h0
      exact ⟨by rw [HA2.out, if_neg (by omega)], ⟨g, 1, none⟩, rfl, Hlb1.out⟩
    · simp; omega
    · intro w' h1 h2
      rw [Hfin.out] at h1
      exact ⟨h1, grown_trans (grown_drew W _) h2⟩
  go_simp
  refine Stage.wpSt_nil (Stage.one_end ?_)
  rintro w2 ⟨hr3, hg3⟩
  have hR3 := hR2.grown hg3 (by intro e; injection e with e; omega)
  have hP3 : Pieces w2 P cs := hP2.grown hg3 (fun k' l he hk' => by cases he; exact Row.apart hr2 hk' (by decide) rfl)
  have hb3 : Below b w w2 := hb2.trans ⟨hg3.os, hg3.tape, hg3.output, hg3.size, fun k hk => hg3.block k (Nat.lt_of_lt_of_le hk (by have := hr2.lt; omega)) (by intro e; injection e with e; omega)⟩
  have hp3 := hR3.cell 0
  simp only [List.getElem?_cons_zero] at hp3
  clear hr2 hR2 hP2 hb2 hR3 hg3 hlen hR hP
  clear hsb HA2 Hfin Hl1 Hlb1 hlb
  have hch : ∃ rest, xs = cs.reverse.flatten ++ rest := ⟨_, Hx.out⟩
  have hln : 64 * cs.length ≤ n := by have := Hnm.out; omega
  have hat : ((n : Int) - (n : Int) % 64) = ((64 * cs.length : Nat) : Int) := by have := Hnm.out; omega
  have Hch := Lib.hid hch; have Hat := Lib.hid hat; clear hch hat Hx
  go_wp2_with fail
  go_loopw [4, 5] (fun v p wr => ∃ (cs1 : List (List Nat)) (P1 : Option Addr) (k : Nat), v = .int .i64 (64 * (k : Int)) ∧ p = .pointer P1 ∧ 64 * k ≤ n ∧ (cs1.length = k ∧ ∃ rest, xs = cs1.reverse.flatten ++ rest) ∧ Pieces wr P1 cs1 ∧ Row wr b 5 (rowAt xs (64 * k)) ∧ Below b w wr) (fun v _ _ => (intOf v).toNat)
  case atStart => exact ⟨cs, P, cs.length, by rw [Hat.out]; push_cast; rfl, rfl, hln, ⟨rfl, Hch.out⟩, hP3, hr3, hb3⟩
  case round =>
    obtain ⟨cs1, P1, k, rfl, rfl, hln1, ⟨hck, hch1⟩, hP1, hr1, hb1⟩ := hrel
    cases cs1 with
    | nil =>
      obtain rfl : P1 = none := hP1
      obtain rfl : k = 0 := hck.symm
      clear hck hch1
      go_wp2
      go_ret
      refine ⟨b, rfl, Nat.le_of_eq Hb.out, by simpa [rowAt] using hr1, by rw [Hb.out]; exact hb1⟩
    | cons c cs2 =>
      obtain ⟨g', P2, rfl, hc64, hcb, hrc, hP2⟩ := hP1
      obtain ⟨k', rfl⟩ : ∃ k', k = k' + 1 := ⟨cs2.length, by simpa using hck.symm⟩
      have hk2 : cs2.length = k' := by simpa using hck
      obtain ⟨rest, hxx⟩ := hch1
      have hP2l := hP2.len
      have hdrop : xs.drop (64 * k') = c ++ xs.drop (64 * k' + 64) := by
        rw [hxx, ← hk2]; exact flat_drop hc64 hP2l
      have hback : splice (rowAt xs (64 * (k' + 1))) (64 * k') (u8s c) = rowAt xs (64 * k') := by
        unfold rowAt
        rw [show 64 * (k' + 1) = 64 * k' + 64 by omega]
        exact fill_back hc64 hdrop
      have hxx2 : ∃ rest, xs = cs2.reverse.flatten ++ rest := ⟨c ++ rest, by rw [hxx]; simp⟩
      have Hk2 := Lib.hid hk2; have Hback := Lib.hid hback; have Hxx2 := Lib.hid hxx2; have Hc64 := Lib.hid hc64
      clear hck hxx hP2l hdrop hback hxx2 hk2 hc64
      have hsb : ∀ w' : World, (Instr.sliceAt 23 (.slice (some ⟨b, 0, none⟩) n n) (some (.int .i64 (64 * ((k' : Int) + 1) - 64))) none none).run Try.prog w' = .ok (.slice (some ⟨b, 64 * k', none⟩) (n - 64 * k') (n - 64 * k')) w' := by
        intro w'
        have h5 : (sizeOf (Try.prog.elem 23)).run Try.prog w' = .ok 1 w' := by kernel_rfl
        rw [run_sliceAt_slice (P := Try.prog) (h := by kernel_rfl), run_slice_l (P := Try.prog) (ht := by kernel_rfl) _ _ _ _ _ _ _ (by omega) (by omega), h5]
        simp only [Result.andThen_ok, sliced, show (64 * ((k' : Int) + 1) - 64).toNat = 64 * k' by omega]
        rw [if_neg (by omega)]
        simp [add_at]
      have hcc : ∀ (j x : Nat), c[j]? = some x → wr.cell? ((⟨g', 1, none⟩ : Addr).add j) = some (.int .u8 (x : Nat)) := by
        intro j x hj
        rw [add_at, hrc.cell, Nat.add_comm 1 j, List.getElem?_cons_succ, List.getElem?_map, hj]
        rfl
      have Hcc := Lib.hid hcc; clear hcc
      have hnl : n ≤ xs.length := by rw [← Hn.out]; exact Nat.le_refl _
      have hp2 := hrc.cell 0
      simp only [List.getElem?_cons_zero] at hp2
      go_wp2_with fail
      refine Stage.wp_region (by kernel_rfl) (by kernel_rfl) (Stage.one 7 (fun b' w' => match b' with
        | true => Row w' b 5 (rowAt xs (64 * k')) ∧ wr.grownBy w' (some b)
        | false => w' = wr.drew)) (Stage.one_start (by simp) rfl) ?_
      refine Stage.wpSt_reads 7 (fun w' => w' = wr.drew) (by kernel_rfl) (Stage.one_before (by kernel_rfl)) ?_
      simp only [List.take_succ_cons, List.take_zero, List.drop_succ_cons, List.drop_zero]
      repeat (go_big_quiet_step (fail))
      refine wpQuiet_nil ?_
      refine Stage.wpSt_do (goInt ((64 : Nat) : Int)) rfl (Stage.one_do ?_) ?_
      · rintro w' rfl
        refine at_copy (.tmp 45) (.tmp 49) 23 23 rfl 5 Try.underlying23 (by kernel_rfl) _ _ _ _ _ _ rfl rfl b (64 * k') _ 5 hr1.drew c 64 Hc64.out ?_ ?_ ?_ ?_
        · show 64 = min 64 (n - 64 * k'); omega
        · intro h0
          exact ⟨rfl, ⟨g', 1, none⟩, rfl, Hcc.out⟩
        · rw [rowAt_len _ _ (by omega)]; omega
        · intro w' h1 h2
          rw [Hback.out] at h1
          exact ⟨h1, grown_trans (grown_drew wr _) h2⟩
      go_simp
      refine Stage.wpSt_nil (Stage.one_end ?_)
      rintro w3 ⟨hr4, hg4⟩
      have hne : g' ≠ b := hrc.apart hr1 (by decide)
      have hrc4 := hrc.grown hg4 (by intro e; injection e with e; exact hne e)
      have hP4 : Pieces w3 P2 cs2 := hP2.grown hg4 (fun k1 l he hk' => by cases he; exact Row.apart hr1 hk' (by decide) rfl)
      have hb4 : Below b w w3 := hb1.trans ⟨hg4.os, hg4.tape, hg4.output, hg4.size, fun k hk => hg4.block k (Nat.lt_of_lt_of_le hk (by have := hr1.lt; omega)) (by intro e; injection e with e; omega)⟩
      have hp4 := hrc4.cell 0
      simp only [List.getElem?_cons_zero] at hp4
      clear hrc hrc4 hg4 hsb hp2 hr1 hP2 hb1
      go_wp2_with fail
      go_roundw
      case rel => exact ⟨cs2, P2, k', by rw [show (64 * ((k' : Int) + 1) - 64) = 64 * (k' : Int) by omega], rfl, by omega, ⟨Hk2.out, Hxx2.out⟩, hP4, hr4, hb4⟩
      case measure => simp [intOf]; omega
end Go.Proofs.Ytmliiglhglhjkaa
