/- Get, the document's. -/
import Derived.Test.YtpcnnnfgopilaaaStGet
namespace Go.Proofs.Ytpcnnnfgopilaaa
open Go.ChangeShapes Go.WideShapes Go.ChangeAt Go.RowKit Go.BigFrame
set_option linter.unusedVariables false
theorem gets_none {xs : List Nat} {A0 : Option Addr} {w w' : World} (h : ¬ Good xs) (hb : Below w.heap.size w w') : Gets xs A0 w (.returned (.tuple #[St.zero.val, .slice none 0 0, .int .i64 50])) w' := by
  obtain ⟨g1, g2, g3⟩ := gets_no h
  exact ⟨none, 0, 0, by rw [g1, g3], by rw [g2]; rfl, by rw [g2]; exact fun _ _ => bytes_nil, hb⟩
theorem gets_some {xs : List Nat} {b off c d : Nat} {w w' : World} {t : St} (hz : d = nth xs 0) (h2 : gr xs = xs.drop (3 + nth xs 0)) (h3 : ge xs = 0) (ht : t = gt xs) (hb : Below w.heap.size w w') :
    Gets xs (some ⟨b, off, none⟩) w (.returned (.tuple #[t.val, .slice (some ⟨b, off + (3 + d), none⟩) (xs.length - (3 + d)) c, .int .i64 0])) w' :=
  ⟨_, _, c, (by rw [← ht, h3]), (by rw [h2, ← hz, List.length_drop]), (by rw [h2, ← hz]; exact fun W hW => hW.drop _), hb⟩
theorem gets_end {xs : List Nat} {A A0 : Option Addr} {c d : Nat} {w w' : World} {t : St} (hz : d = nth xs 0) (hl : xs.length = 3 + d) (h2 : gr xs = xs.drop (3 + nth xs 0)) (h3 : ge xs = 0) (ht : t = gt xs) (hb : Below w.heap.size w w') :
    Gets xs A0 w (.returned (.tuple #[t.val, .slice A 0 c, .int .i64 0])) w' :=
  ⟨A, 0, c, (by rw [← ht, h3]), (by rw [h2, ← hz, List.length_drop]; omega), (by rw [h2, ← hz, List.drop_of_length_le (by omega)]; exact fun _ _ => bytes_nil), hb⟩
set_option maxHeartbeats 2000000 in
theorem refGet_short (xs : List Nat) (A : Option Addr) (c : Nat) (w : World) (h : xs.length < 3) : Calls Try.prog 31 #[.slice A xs.length c] w (Gets xs A w) := by
  have hC : ¬ Good xs := fun hc => by have := hc.1.1; omega
  have HC := Lib.hid hC; clear hC
  have hz := zero_made w
  obtain ⟨f0, f1, f2, f3, f4⟩ := hz.free5
  obtain ⟨c0, c1, c2, c3, c4⟩ := hz.cells5
  simp only [St.zero] at c0 c1 c2 c3 c4
  have HZ := Lib.hid hz; clear hz
  have t1 : decide ((xs.length : Int) < 3) = true := decide_eq_true (by omega)
  go_enter Try.func31, Try.ntmps31
  go_wp2_with fail
  refine bodyPost_ret (v := .tuple #[St.zero.val, .slice none 0 0, .int .i64 50]) (three_plain rfl HZ.out rfl rfl rfl) rfl ?_
  exact gets_none HC.out ((Below.refl _ _).alloc (Nat.le_refl _) _)
set_option maxHeartbeats 4000000 in
theorem refGet_no (b off c : Nat) (xs : List Nat) (w : World) (hB : Bytes w (some ⟨b, off, none⟩) xs) (h : 3 ≤ xs.length) (hc : xs.length ≤ c) (hm : c ≤ maxLen) (hC : ¬ Can xs) : Calls Try.prog 31 #[.slice (some ⟨b, off, none⟩) xs.length c] w (Gets xs (some ⟨b, off, none⟩) w) := by
  unfold maxLen at hm
  obtain ⟨_, e, hbl, hcell⟩ := hB.2 (by omega)
  cases e
  simp only at hbl
  have k0 := hcell 0 _ (nth_some (by omega)); have k1 := hcell 1 _ (nth_some (by omega)); have k2 := hcell 2 _ (nth_some (by omega))
  have l0 := hB.lt (nth_some (l := xs) (i := 0) (by omega)); have l1 := hB.lt (nth_some (l := xs) (i := 1) (by omega)); have l2 := hB.lt (nth_some (l := xs) (i := 2) (by omega))
  simp only [add_at, Nat.add_zero] at k0 k1 k2
  have n0 : 0 < xs.length := by omega
  have n1 : 1 < xs.length := by omega
  have n2 : 2 < xs.length := by omega
  obtain ⟨a0, h0⟩ : ∃ a, a = nth xs 0 := ⟨_, rfl⟩
  obtain ⟨a1, h1⟩ : ∃ a, a = nth xs 1 := ⟨_, rfl⟩
  obtain ⟨a2, h2⟩ : ∃ a, a = nth xs 2 := ⟨_, rfl⟩
  rw [← h0] at k0 l0; rw [← h1] at k1 l1; rw [← h2] at k2 l2
  have HZ0 := Lib.hid h0; have HZ1 := Lib.hid h1; have HZ2 := Lib.hid h2; clear h0 h1 h2
  have hw : ∀ {j : Nat} {v : Value}, w.cell? ⟨b, j, none⟩ = some v → (w.alloc (.cells #[.int .i64 0, .int .i64 0, .int .i64 0, .int .i64 0, .int .i64 0] 24)).cell? ⟨b, j, none⟩ = some v := fun h => (((Below.refl w.heap.size w).alloc (Nat.le_refl _) _).cell (p := ⟨b, _, none⟩) hbl).trans h
  have k0' := hw k0; have k1' := hw k1; have k2' := hw k2
  have hz := zero_made w
  have hb0 : Below w.heap.size w (w.alloc (.cells #[.int .i64 0, .int .i64 0, .int .i64 0, .int .i64 0, .int .i64 0] 24)) := (Below.refl _ _).alloc (Nat.le_refl _) _
  have hsz : w.heap.size < (w.alloc (.cells #[.int .i64 0, .int .i64 0, .int .i64 0, .int .i64 0, .int .i64 0] 24)).heap.size := by simp
  have HB0 := Lib.hid hb0; have HSZ := Lib.hid hsz; clear hb0 hsz
  have HZ := Lib.hid hz; have HB := Lib.hid hB; have HK := Lib.hid hcell; clear hz hB hcell hw k1 k2
  have hne : b ≠ w.heap.size := by omega
  have t1 : decide ((xs.length : Int) < 3) = false := decide_eq_false (by omega)
  clear k1' k2' k0'
  obtain ⟨f0, f1, f2, f3, f4⟩ := HZ.out.free5
  obtain ⟨c0, c1, c2, c3, c4⟩ := HZ.out.cells5
  simp only [St.zero] at c0 c1 c2 c3 c4
  have HG := Lib.hid (fun h : Good xs => hC h.1)
  by_cases hd3 : 3 < a0
  · have t2 : decide ((a0 : Int) > 3) = true := by rw [decide_eq_true_iff]; omega
    have t2' : decide ((3 : Int) < a0) = true := by rw [decide_eq_true_iff]; omega
    clear hC
    go_enter Try.func31, Try.ntmps31
    go_wp2_with fail
    refine bodyPost_ret (v := .tuple #[St.zero.val, .slice none 0 0, .int .i64 50]) (three_plain rfl HZ.out rfl rfl rfl) rfl ?_
    exact gets_none HG.out HB0.out
  · have hl : xs.length < 3 + a0 := by
      by_cases hl : xs.length < 3 + a0
      · exact hl
      · exact absurd ⟨h, by rw [← HZ0.out]; omega, by rw [← HZ0.out]; omega⟩ hC
    have t2 : decide ((a0 : Int) > 3) = false := by rw [decide_eq_false_iff_not]; omega
    have t2' : decide ((3 : Int) < a0) = false := by rw [decide_eq_false_iff_not]; omega
    have t3 : decide ((xs.length : Int) < 3 + a0) = true := by rw [decide_eq_true_iff]; omega
    clear hC
    go_enter Try.func31, Try.ntmps31
    go_wp2_with fail
    refine bodyPost_ret (v := .tuple #[St.zero.val, .slice none 0 0, .int .i64 50]) (three_plain rfl HZ.out rfl rfl rfl) rfl ?_
    exact gets_none HG.out HB0.out
set_option maxHeartbeats 4000000 in
theorem refGet_can (b off c : Nat) (xs : List Nat) (w : World) (hB : Bytes w (some ⟨b, off, none⟩) xs) (h : 3 ≤ xs.length) (hc : xs.length ≤ c) (hm : c ≤ maxLen) (hC : Can xs) : Calls Try.prog 31 #[.slice (some ⟨b, off, none⟩) xs.length c] w (Gets xs (some ⟨b, off, none⟩) w) := by
  unfold maxLen at hm
  obtain ⟨_, e, hbl, hcell⟩ := hB.2 (by omega)
  cases e
  simp only at hbl
  have k0 := hcell 0 _ (nth_some (by omega)); have k1 := hcell 1 _ (nth_some (by omega)); have k2 := hcell 2 _ (nth_some (by omega))
  have l0 := hB.lt (nth_some (l := xs) (i := 0) (by omega)); have l1 := hB.lt (nth_some (l := xs) (i := 1) (by omega)); have l2 := hB.lt (nth_some (l := xs) (i := 2) (by omega))
  simp only [add_at, Nat.add_zero] at k0 k1 k2
  have n0 : 0 < xs.length := by omega
  have n1 : 1 < xs.length := by omega
  have n2 : 2 < xs.length := by omega
  obtain ⟨a0, h0⟩ : ∃ a, a = nth xs 0 := ⟨_, rfl⟩
  obtain ⟨a1, h1⟩ : ∃ a, a = nth xs 1 := ⟨_, rfl⟩
  obtain ⟨a2, h2⟩ : ∃ a, a = nth xs 2 := ⟨_, rfl⟩
  rw [← h0] at k0 l0; rw [← h1] at k1 l1; rw [← h2] at k2 l2
  have HZ0 := Lib.hid h0; have HZ1 := Lib.hid h1; have HZ2 := Lib.hid h2; clear h0 h1 h2
  have hw : ∀ {j : Nat} {v : Value}, w.cell? ⟨b, j, none⟩ = some v → (w.alloc (.cells #[.int .i64 0, .int .i64 0, .int .i64 0, .int .i64 0, .int .i64 0] 24)).cell? ⟨b, j, none⟩ = some v := fun h => (((Below.refl w.heap.size w).alloc (Nat.le_refl _) _).cell (p := ⟨b, _, none⟩) hbl).trans h
  have k0' := hw k0; have k1' := hw k1; have k2' := hw k2
  have hz := zero_made w
  have hb0 : Below w.heap.size w (w.alloc (.cells #[.int .i64 0, .int .i64 0, .int .i64 0, .int .i64 0, .int .i64 0] 24)) := (Below.refl _ _).alloc (Nat.le_refl _) _
  have hsz : w.heap.size < (w.alloc (.cells #[.int .i64 0, .int .i64 0, .int .i64 0, .int .i64 0, .int .i64 0] 24)).heap.size := by simp
  have HB0 := Lib.hid hb0; have HSZ := Lib.hid hsz; clear hb0 hsz
  have HZ := Lib.hid hz; have HB := Lib.hid hB; have HK := Lib.hid hcell; clear hz hB hcell hw k1 k2
  have hne : b ≠ w.heap.size := by omega
  have t1 : decide ((xs.length : Int) < 3) = false := decide_eq_false (by omega)
  have hd3 : a0 ≤ 3 := by have := hC.2.1; rw [← HZ0.out] at this; exact this
  have hl : 3 + a0 ≤ xs.length := by have := hC.2.2; rw [← HZ0.out] at this; exact this
  have t2 : decide ((a0 : Int) > 3) = false := by rw [decide_eq_false_iff_not]; omega
  have t2' : decide ((3 : Int) < a0) = false := by rw [decide_eq_false_iff_not]; omega
  have t3 : decide ((xs.length : Int) < 3 + a0) = false := by rw [decide_eq_false_iff_not]; omega
  have HC := Lib.hid hC; clear hC
  go_enter Try.func31, Try.ntmps31
  go_wp2_with fail
  clear k0
  generalize w.alloc (.cells #[.int .i64 0, .int .i64 0, .int .i64 0, .int .i64 0, .int .i64 0] 24) = W1 at *
  have hsz := HSZ.out
  have hbW : b < W1.heap.size := by omega
  have hbW' : b ≠ W1.heap.size := by omega
  have hbW2 : w.heap.size ≠ W1.heap.size := by omega
  go_region
  have ht := (Holds.made W1 ⟨a0, (a1 : Int) * 256 + a2, 0, 0, 0⟩).drewN 1
  have hz2 := (HZ.out.alloc (.cells #[.int .i64 (a0 : Nat), .int .i64 ((a1 : Int) * 256 + a2), .int .i64 0, .int .i64 0, .int .i64 0] 24)).drewN 1
  have hb2 := (HB0.out.alloc (Nat.le_of_lt hsz) (.cells #[.int .i64 (a0 : Nat), .int .i64 ((a1 : Int) * 256 + a2), .int .i64 0, .int .i64 0, .int .i64 0] 24)).drew
  have ht2 : Holds (W1.alloc (.cells #[.int .i64 (a0 : Nat), .int .i64 ((a1 : Int) * 256 + a2), .int .i64 0, .int .i64 0, .int .i64 0] 24)).drew W1.heap.size ⟨a0, (a1 : Int) * 256 + a2, 0, 0, 0⟩ := ht
  have hz3 : Holds (W1.alloc (.cells #[.int .i64 (a0 : Nat), .int .i64 ((a1 : Int) * 256 + a2), .int .i64 0, .int .i64 0, .int .i64 0] 24)).drew w.heap.size St.zero := hz2
  generalize (W1.alloc (.cells #[.int .i64 (a0 : Nat), .int .i64 ((a1 : Int) * 256 + a2), .int .i64 0, .int .i64 0, .int .i64 0] 24)).drew = W2 at *
  clear ht hz2 k0' k1' k2' HZ HB0 HSZ t2 t2' t3
  generalize W1.heap.size = g at *
  obtain ⟨c0, -⟩ := ht2.cells5
  simp only at c0
  have HT := Lib.hid ht2; have HZ3 := Lib.hid hz3; have HB2 := Lib.hid hb2; clear ht2 hz3 hb2
  have hcase : a0 = 0 ∨ a0 = 1 ∨ a0 = 2 ∨ a0 = 3 := by omega
  rcases hcase with rfl | rfl | rfl | rfl
  · go_wp2_with fail
    clear c0
    go_loopw [6] (fun i wr => ∃ (k : Nat), k ≤ 0 ∧ i = .int .i64 k ∧ Holds wr g ⟨0, (a1 : Int) * 256 + a2, 0, 0, 0⟩ ∧ Holds wr w.heap.size St.zero ∧ Below w.heap.size w wr) (fun i _ => 0 - (intOf i).toNat)
    case atStart => exact ⟨0, by omega, rfl, HT.out, HZ3.out, HB2.out⟩
    case round =>
      obtain ⟨k, hk, rfl, ht, hz, hb⟩ := hrel
      have hcase : k = 0 := by omega
      clear hk
      subst hcase
      · obtain ⟨p0, hp0⟩ : ∃ p, p = pc 0 0 (nth xs 3 : Nat) := ⟨_, rfl⟩
        obtain ⟨p1, hp1⟩ : ∃ p, p = pc 0 1 (nth xs 4 : Nat) := ⟨_, rfl⟩
        obtain ⟨p2, hp2⟩ : ∃ p, p = pc 0 2 (nth xs 5 : Nat) := ⟨_, rfl⟩
        have ht' : Holds wr g (⟨0, (a1 : Int) * 256 + a2, 0, 0, 0⟩ : St) := by exact ht
        have hof : (⟨0, (a1 : Int) * 256 + a2, 0, 0, 0⟩ : St) = St.of xs := by unfold St.of; rw [← HZ0.out, ← HZ1.out, ← HZ2.out]; rfl
        have HO := Lib.hid hof; clear hof hp0 hp1 hp2 ht
        obtain ⟨c0, c1, c2, c3, c4⟩ := ht'.cells5
        simp only at c0 c1 c2 c3 c4
        have hR := fun w => refRight_any (⟨0, (a1 : Int) * 256 + a2, 0, 0, 0⟩ : St) w
        have H1 := Lib.hid ht'; have H2 := Lib.hid hb; have H3 := Lib.hid hz; clear ht' hb hz
        by_cases hG : St.R (⟨0, (a1 : Int) * 256 + a2, 0, 0, 0⟩ : St)
        · have HRt := Lib.hid (right_is (decide_eq_true hG) hR)
          have hg : Good xs := ⟨HC.out, HO.out ▸ hG⟩
          obtain ⟨g1, g2, g3⟩ := gets_yes hg
          have ht2 := HO.out.trans g1.symm
          have HT2 := Lib.hid ht2; have HG2 := Lib.hid g2; have HG3 := Lib.hid g3; clear ht2 hg g1 g2 g3 hR hG
          unfold St.val at HRt
          simp only at HRt
          go_wp2_with fail
          refine (HRt.out _).mono ?_; rintro e2 w2 ⟨rfl, hb2⟩
          have h1 := H1.out.below hb2
          have h3 := H3.out.below hb2
          have h2 := H2.out.trans (hb2.mono H2.out.size)
          clear hb2 c0 c1 c2 c3 c4
          obtain ⟨c0, c1, c2, c3, c4⟩ := h1.cells5
          simp only at c0 c1 c2 c3 c4
          obtain ⟨f0, f1, f2, f3, f4⟩ := h3.free5
          obtain ⟨z0, z1, z2, z3, z4⟩ := h3.cells5
          simp only [St.zero] at z0 z1 z2 z3 z4
          have HE3 := Lib.hid h3; have HE2 := Lib.hid h2; clear h1 h2 h3
          by_cases hl2 : xs.length = 3
          · have HL2 := Lib.hid hl2
            by_cases hl3 : c = 3
            · go_wp2_with fail
              go_region
              go_wp2_with fail
              refine bodyPost_ret (v := .tuple #[((⟨0, (a1 : Int) * 256 + a2, 0, 0, 0⟩ : St)).val, .slice (some ⟨b, off, none⟩) 0 0, .int .i64 0]) (three_drew rfl (Holds.all HE3.out _ _ _ _ _) rfl rfl rfl) rfl ?_
              exact gets_end (t := (⟨0, (a1 : Int) * 256 + a2, 0, 0, 0⟩ : St)) HZ0.out HL2.out HG2.out HG3.out HT2.out (below_set5 (g := w.heap.size) HE2.out (by omega)).drew
            · go_wp2_with fail
              go_region
              go_wp2_with fail
              refine bodyPost_ret (v := .tuple #[((⟨0, (a1 : Int) * 256 + a2, 0, 0, 0⟩ : St)).val, .slice (some ⟨b, off + 3, none⟩) 0 (c - 3), .int .i64 0]) (three_drew rfl (Holds.all HE3.out _ _ _ _ _) rfl rfl rfl) rfl ?_
              exact gets_end (t := (⟨0, (a1 : Int) * 256 + a2, 0, 0, 0⟩ : St)) HZ0.out HL2.out HG2.out HG3.out HT2.out (below_set5 (g := w.heap.size) HE2.out (by omega)).drew
          · go_wp2_with fail
            go_region
            go_wp2_with fail
            refine bodyPost_ret (v := .tuple #[((⟨0, (a1 : Int) * 256 + a2, 0, 0, 0⟩ : St)).val, .slice (some ⟨b, off + 3, none⟩) (xs.length - 3) (c - 3), .int .i64 0]) (three_drew rfl (Holds.all HE3.out _ _ _ _ _) rfl rfl rfl) rfl ?_
            exact gets_some (t := (⟨0, (a1 : Int) * 256 + a2, 0, 0, 0⟩ : St)) (d := 0) HZ0.out HG2.out HG3.out HT2.out (below_set5 (g := w.heap.size) HE2.out (by omega)).drew
        · have HRt := Lib.hid (right_is (decide_eq_false hG) hR)
          have hg : ¬ Good xs := fun h => hG (HO.out ▸ h.2)
          have HGN := Lib.hid hg; clear hg hR hG
          unfold St.val at HRt
          simp only at HRt
          go_wp2_with fail
          refine (HRt.out _).mono ?_; rintro e2 w2 ⟨rfl, hb2⟩
          have h3 := H3.out.below hb2
          have h2 := H2.out.trans (hb2.mono H2.out.size)
          clear hb2 c0 c1 c2 c3 c4
          obtain ⟨f0, f1, f2, f3, f4⟩ := h3.free5
          obtain ⟨z0, z1, z2, z3, z4⟩ := h3.cells5
          simp only [St.zero] at z0 z1 z2 z3 z4
          have HE3 := Lib.hid h3; have HE2 := Lib.hid h2; clear h2 h3
          go_wp2_with fail
          refine bodyPost_ret (v := .tuple #[St.zero.val, .slice none 0 0, .int .i64 50]) (three_plain rfl (Holds.all HE3.out _ _ _ _ _) rfl rfl rfl) rfl ?_
          exact gets_none HGN.out (below_set5 (g := w.heap.size) HE2.out (by omega))
  · go_wp2_with fail
    clear c0
    go_loopw [6] (fun i wr => ∃ (k : Nat), k ≤ 1 ∧ i = .int .i64 k ∧ Holds wr g ⟨1, (a1 : Int) * 256 + a2, pc k 0 (nth xs 3 : Nat), 0, 0⟩ ∧ Holds wr w.heap.size St.zero ∧ Below w.heap.size w wr) (fun i _ => 1 - (intOf i).toNat)
    case atStart => exact ⟨0, by omega, rfl, HT.out, HZ3.out, HB2.out⟩
    case round =>
      obtain ⟨k, hk, rfl, ht, hz, hb⟩ := hrel
      have hcase : k = 0 ∨ k = 1 := by omega
      clear hk
      rcases hcase with rfl | rfl
      · obtain ⟨f0, f1, f2, f3, f4⟩ := ht.free5
        obtain ⟨c0, c1, c2, c3, c4⟩ := ht.cells5
        simp only at c0 c1 c2 c3 c4
        have kk := (hb.cell (p := ⟨b, off + 3, none⟩) hbl).trans ((add_at b off 3 ▸ HK.out 3 _ (nth_some (by omega)) :))
        have ll := HB.out.lt (nth_some (l := xs) (i := 3) (by omega))
        have nn : 3 < xs.length := by omega
        obtain ⟨v, hv⟩ : ∃ v, v = nth xs 3 := ⟨_, rfl⟩
        rw [← hv] at kk ll
        have H1 := Lib.hid ht; have H2 := Lib.hid hb; have HV := Lib.hid hv; have H3 := Lib.hid hz; clear ht hb hv hz
        go_wp2_with fail
        go_roundw
        case rel => exact ⟨1, by omega, rfl, H1.out.set 2 v (by rw [HV.out]; rfl), H3.out.far hbW2 _, H2.out.setCell (by simp; omega) _⟩
        case measure => simp [intOf]
      · obtain ⟨p0, hp0⟩ : ∃ p, p = pc 1 0 (nth xs 3 : Nat) := ⟨_, rfl⟩
        obtain ⟨p1, hp1⟩ : ∃ p, p = pc 1 1 (nth xs 4 : Nat) := ⟨_, rfl⟩
        obtain ⟨p2, hp2⟩ : ∃ p, p = pc 1 2 (nth xs 5 : Nat) := ⟨_, rfl⟩
        have ht' : Holds wr g (⟨1, (a1 : Int) * 256 + a2, p0, 0, 0⟩ : St) := by rw [hp0]; exact ht
        have hof : (⟨1, (a1 : Int) * 256 + a2, p0, 0, 0⟩ : St) = St.of xs := by rw [hp0]; unfold St.of; rw [← HZ0.out, ← HZ1.out, ← HZ2.out]; rfl
        have HO := Lib.hid hof; clear hof hp0 hp1 hp2 ht
        obtain ⟨c0, c1, c2, c3, c4⟩ := ht'.cells5
        simp only at c0 c1 c2 c3 c4
        have hR := fun w => refRight_any (⟨1, (a1 : Int) * 256 + a2, p0, 0, 0⟩ : St) w
        have H1 := Lib.hid ht'; have H2 := Lib.hid hb; have H3 := Lib.hid hz; clear ht' hb hz
        by_cases hG : St.R (⟨1, (a1 : Int) * 256 + a2, p0, 0, 0⟩ : St)
        · have HRt := Lib.hid (right_is (decide_eq_true hG) hR)
          have hg : Good xs := ⟨HC.out, HO.out ▸ hG⟩
          obtain ⟨g1, g2, g3⟩ := gets_yes hg
          have ht2 := HO.out.trans g1.symm
          have HT2 := Lib.hid ht2; have HG2 := Lib.hid g2; have HG3 := Lib.hid g3; clear ht2 hg g1 g2 g3 hR hG
          unfold St.val at HRt
          simp only at HRt
          go_wp2_with fail
          refine (HRt.out _).mono ?_; rintro e2 w2 ⟨rfl, hb2⟩
          have h1 := H1.out.below hb2
          have h3 := H3.out.below hb2
          have h2 := H2.out.trans (hb2.mono H2.out.size)
          clear hb2 c0 c1 c2 c3 c4
          obtain ⟨c0, c1, c2, c3, c4⟩ := h1.cells5
          simp only at c0 c1 c2 c3 c4
          obtain ⟨f0, f1, f2, f3, f4⟩ := h3.free5
          obtain ⟨z0, z1, z2, z3, z4⟩ := h3.cells5
          simp only [St.zero] at z0 z1 z2 z3 z4
          have HE3 := Lib.hid h3; have HE2 := Lib.hid h2; clear h1 h2 h3
          by_cases hl2 : xs.length = 4
          · have HL2 := Lib.hid hl2
            by_cases hl3 : c = 4
            · go_wp2_with fail
              go_region
              go_wp2_with fail
              refine bodyPost_ret (v := .tuple #[((⟨1, (a1 : Int) * 256 + a2, p0, 0, 0⟩ : St)).val, .slice (some ⟨b, off, none⟩) 0 0, .int .i64 0]) (three_drew rfl (Holds.all HE3.out _ _ _ _ _) rfl rfl rfl) rfl ?_
              exact gets_end (t := (⟨1, (a1 : Int) * 256 + a2, p0, 0, 0⟩ : St)) HZ0.out HL2.out HG2.out HG3.out HT2.out (below_set5 (g := w.heap.size) HE2.out (by omega)).drew
            · go_wp2_with fail
              go_region
              go_wp2_with fail
              refine bodyPost_ret (v := .tuple #[((⟨1, (a1 : Int) * 256 + a2, p0, 0, 0⟩ : St)).val, .slice (some ⟨b, off + 4, none⟩) 0 (c - 4), .int .i64 0]) (three_drew rfl (Holds.all HE3.out _ _ _ _ _) rfl rfl rfl) rfl ?_
              exact gets_end (t := (⟨1, (a1 : Int) * 256 + a2, p0, 0, 0⟩ : St)) HZ0.out HL2.out HG2.out HG3.out HT2.out (below_set5 (g := w.heap.size) HE2.out (by omega)).drew
          · go_wp2_with fail
            go_region
            go_wp2_with fail
            refine bodyPost_ret (v := .tuple #[((⟨1, (a1 : Int) * 256 + a2, p0, 0, 0⟩ : St)).val, .slice (some ⟨b, off + 4, none⟩) (xs.length - 4) (c - 4), .int .i64 0]) (three_drew rfl (Holds.all HE3.out _ _ _ _ _) rfl rfl rfl) rfl ?_
            exact gets_some (t := (⟨1, (a1 : Int) * 256 + a2, p0, 0, 0⟩ : St)) (d := 1) HZ0.out HG2.out HG3.out HT2.out (below_set5 (g := w.heap.size) HE2.out (by omega)).drew
        · have HRt := Lib.hid (right_is (decide_eq_false hG) hR)
          have hg : ¬ Good xs := fun h => hG (HO.out ▸ h.2)
          have HGN := Lib.hid hg; clear hg hR hG
          unfold St.val at HRt
          simp only at HRt
          go_wp2_with fail
          refine (HRt.out _).mono ?_; rintro e2 w2 ⟨rfl, hb2⟩
          have h3 := H3.out.below hb2
          have h2 := H2.out.trans (hb2.mono H2.out.size)
          clear hb2 c0 c1 c2 c3 c4
          obtain ⟨f0, f1, f2, f3, f4⟩ := h3.free5
          obtain ⟨z0, z1, z2, z3, z4⟩ := h3.cells5
          simp only [St.zero] at z0 z1 z2 z3 z4
          have HE3 := Lib.hid h3; have HE2 := Lib.hid h2; clear h2 h3
          go_wp2_with fail
          refine bodyPost_ret (v := .tuple #[St.zero.val, .slice none 0 0, .int .i64 50]) (three_plain rfl (Holds.all HE3.out _ _ _ _ _) rfl rfl rfl) rfl ?_
          exact gets_none HGN.out (below_set5 (g := w.heap.size) HE2.out (by omega))
  · go_wp2_with fail
    clear c0
    go_loopw [6] (fun i wr => ∃ (k : Nat), k ≤ 2 ∧ i = .int .i64 k ∧ Holds wr g ⟨2, (a1 : Int) * 256 + a2, pc k 0 (nth xs 3 : Nat), pc k 1 (nth xs 4 : Nat), 0⟩ ∧ Holds wr w.heap.size St.zero ∧ Below w.heap.size w wr) (fun i _ => 2 - (intOf i).toNat)
    case atStart => exact ⟨0, by omega, rfl, HT.out, HZ3.out, HB2.out⟩
    case round =>
      obtain ⟨k, hk, rfl, ht, hz, hb⟩ := hrel
      have hcase : k = 0 ∨ k = 1 ∨ k = 2 := by omega
      clear hk
      rcases hcase with rfl | rfl | rfl
      · obtain ⟨f0, f1, f2, f3, f4⟩ := ht.free5
        obtain ⟨c0, c1, c2, c3, c4⟩ := ht.cells5
        simp only at c0 c1 c2 c3 c4
        have kk := (hb.cell (p := ⟨b, off + 3, none⟩) hbl).trans ((add_at b off 3 ▸ HK.out 3 _ (nth_some (by omega)) :))
        have ll := HB.out.lt (nth_some (l := xs) (i := 3) (by omega))
        have nn : 3 < xs.length := by omega
        obtain ⟨v, hv⟩ : ∃ v, v = nth xs 3 := ⟨_, rfl⟩
        rw [← hv] at kk ll
        have H1 := Lib.hid ht; have H2 := Lib.hid hb; have HV := Lib.hid hv; have H3 := Lib.hid hz; clear ht hb hv hz
        go_wp2_with fail
        go_roundw
        case rel => exact ⟨1, by omega, rfl, H1.out.set 2 v (by rw [HV.out]; rfl), H3.out.far hbW2 _, H2.out.setCell (by simp; omega) _⟩
        case measure => simp [intOf]
      · obtain ⟨f0, f1, f2, f3, f4⟩ := ht.free5
        obtain ⟨c0, c1, c2, c3, c4⟩ := ht.cells5
        simp only at c0 c1 c2 c3 c4
        have kk := (hb.cell (p := ⟨b, off + 4, none⟩) hbl).trans ((add_at b off 4 ▸ HK.out 4 _ (nth_some (by omega)) :))
        have ll := HB.out.lt (nth_some (l := xs) (i := 4) (by omega))
        have nn : 4 < xs.length := by omega
        obtain ⟨v, hv⟩ : ∃ v, v = nth xs 4 := ⟨_, rfl⟩
        rw [← hv] at kk ll
        have H1 := Lib.hid ht; have H2 := Lib.hid hb; have HV := Lib.hid hv; have H3 := Lib.hid hz; clear ht hb hv hz
        go_wp2_with fail
        go_roundw
        case rel => exact ⟨2, by omega, rfl, H1.out.set 3 v (by rw [HV.out]; rfl), H3.out.far hbW2 _, H2.out.setCell (by simp; omega) _⟩
        case measure => simp [intOf]
      · obtain ⟨p0, hp0⟩ : ∃ p, p = pc 2 0 (nth xs 3 : Nat) := ⟨_, rfl⟩
        obtain ⟨p1, hp1⟩ : ∃ p, p = pc 2 1 (nth xs 4 : Nat) := ⟨_, rfl⟩
        obtain ⟨p2, hp2⟩ : ∃ p, p = pc 2 2 (nth xs 5 : Nat) := ⟨_, rfl⟩
        have ht' : Holds wr g (⟨2, (a1 : Int) * 256 + a2, p0, p1, 0⟩ : St) := by rw [hp0, hp1]; exact ht
        have hof : (⟨2, (a1 : Int) * 256 + a2, p0, p1, 0⟩ : St) = St.of xs := by rw [hp0, hp1]; unfold St.of; rw [← HZ0.out, ← HZ1.out, ← HZ2.out]; rfl
        have HO := Lib.hid hof; clear hof hp0 hp1 hp2 ht
        obtain ⟨c0, c1, c2, c3, c4⟩ := ht'.cells5
        simp only at c0 c1 c2 c3 c4
        have hR := fun w => refRight_any (⟨2, (a1 : Int) * 256 + a2, p0, p1, 0⟩ : St) w
        have H1 := Lib.hid ht'; have H2 := Lib.hid hb; have H3 := Lib.hid hz; clear ht' hb hz
        by_cases hG : St.R (⟨2, (a1 : Int) * 256 + a2, p0, p1, 0⟩ : St)
        · have HRt := Lib.hid (right_is (decide_eq_true hG) hR)
          have hg : Good xs := ⟨HC.out, HO.out ▸ hG⟩
          obtain ⟨g1, g2, g3⟩ := gets_yes hg
          have ht2 := HO.out.trans g1.symm
          have HT2 := Lib.hid ht2; have HG2 := Lib.hid g2; have HG3 := Lib.hid g3; clear ht2 hg g1 g2 g3 hR hG
          unfold St.val at HRt
          simp only at HRt
          go_wp2_with fail
          refine (HRt.out _).mono ?_; rintro e2 w2 ⟨rfl, hb2⟩
          have h1 := H1.out.below hb2
          have h3 := H3.out.below hb2
          have h2 := H2.out.trans (hb2.mono H2.out.size)
          clear hb2 c0 c1 c2 c3 c4
          obtain ⟨c0, c1, c2, c3, c4⟩ := h1.cells5
          simp only at c0 c1 c2 c3 c4
          obtain ⟨f0, f1, f2, f3, f4⟩ := h3.free5
          obtain ⟨z0, z1, z2, z3, z4⟩ := h3.cells5
          simp only [St.zero] at z0 z1 z2 z3 z4
          have HE3 := Lib.hid h3; have HE2 := Lib.hid h2; clear h1 h2 h3
          by_cases hl2 : xs.length = 5
          · have HL2 := Lib.hid hl2
            by_cases hl3 : c = 5
            · go_wp2_with fail
              go_region
              go_wp2_with fail
              refine bodyPost_ret (v := .tuple #[((⟨2, (a1 : Int) * 256 + a2, p0, p1, 0⟩ : St)).val, .slice (some ⟨b, off, none⟩) 0 0, .int .i64 0]) (three_drew rfl (Holds.all HE3.out _ _ _ _ _) rfl rfl rfl) rfl ?_
              exact gets_end (t := (⟨2, (a1 : Int) * 256 + a2, p0, p1, 0⟩ : St)) HZ0.out HL2.out HG2.out HG3.out HT2.out (below_set5 (g := w.heap.size) HE2.out (by omega)).drew
            · go_wp2_with fail
              go_region
              go_wp2_with fail
              refine bodyPost_ret (v := .tuple #[((⟨2, (a1 : Int) * 256 + a2, p0, p1, 0⟩ : St)).val, .slice (some ⟨b, off + 5, none⟩) 0 (c - 5), .int .i64 0]) (three_drew rfl (Holds.all HE3.out _ _ _ _ _) rfl rfl rfl) rfl ?_
              exact gets_end (t := (⟨2, (a1 : Int) * 256 + a2, p0, p1, 0⟩ : St)) HZ0.out HL2.out HG2.out HG3.out HT2.out (below_set5 (g := w.heap.size) HE2.out (by omega)).drew
          · go_wp2_with fail
            go_region
            go_wp2_with fail
            refine bodyPost_ret (v := .tuple #[((⟨2, (a1 : Int) * 256 + a2, p0, p1, 0⟩ : St)).val, .slice (some ⟨b, off + 5, none⟩) (xs.length - 5) (c - 5), .int .i64 0]) (three_drew rfl (Holds.all HE3.out _ _ _ _ _) rfl rfl rfl) rfl ?_
            exact gets_some (t := (⟨2, (a1 : Int) * 256 + a2, p0, p1, 0⟩ : St)) (d := 2) HZ0.out HG2.out HG3.out HT2.out (below_set5 (g := w.heap.size) HE2.out (by omega)).drew
        · have HRt := Lib.hid (right_is (decide_eq_false hG) hR)
          have hg : ¬ Good xs := fun h => hG (HO.out ▸ h.2)
          have HGN := Lib.hid hg; clear hg hR hG
          unfold St.val at HRt
          simp only at HRt
          go_wp2_with fail
          refine (HRt.out _).mono ?_; rintro e2 w2 ⟨rfl, hb2⟩
          have h3 := H3.out.below hb2
          have h2 := H2.out.trans (hb2.mono H2.out.size)
          clear hb2 c0 c1 c2 c3 c4
          obtain ⟨f0, f1, f2, f3, f4⟩ := h3.free5
          obtain ⟨z0, z1, z2, z3, z4⟩ := h3.cells5
          simp only [St.zero] at z0 z1 z2 z3 z4
          have HE3 := Lib.hid h3; have HE2 := Lib.hid h2; clear h2 h3
          go_wp2_with fail
          refine bodyPost_ret (v := .tuple #[St.zero.val, .slice none 0 0, .int .i64 50]) (three_plain rfl (Holds.all HE3.out _ _ _ _ _) rfl rfl rfl) rfl ?_
          exact gets_none HGN.out (below_set5 (g := w.heap.size) HE2.out (by omega))
  · go_wp2_with fail
    clear c0
    go_loopw [6] (fun i wr => ∃ (k : Nat), k ≤ 3 ∧ i = .int .i64 k ∧ Holds wr g ⟨3, (a1 : Int) * 256 + a2, pc k 0 (nth xs 3 : Nat), pc k 1 (nth xs 4 : Nat), pc k 2 (nth xs 5 : Nat)⟩ ∧ Holds wr w.heap.size St.zero ∧ Below w.heap.size w wr) (fun i _ => 3 - (intOf i).toNat)
    case atStart => exact ⟨0, by omega, rfl, HT.out, HZ3.out, HB2.out⟩
    case round =>
      obtain ⟨k, hk, rfl, ht, hz, hb⟩ := hrel
      have hcase : k = 0 ∨ k = 1 ∨ k = 2 ∨ k = 3 := by omega
      clear hk
      rcases hcase with rfl | rfl | rfl | rfl
      · obtain ⟨f0, f1, f2, f3, f4⟩ := ht.free5
        obtain ⟨c0, c1, c2, c3, c4⟩ := ht.cells5
        simp only at c0 c1 c2 c3 c4
        have kk := (hb.cell (p := ⟨b, off + 3, none⟩) hbl).trans ((add_at b off 3 ▸ HK.out 3 _ (nth_some (by omega)) :))
        have ll := HB.out.lt (nth_some (l := xs) (i := 3) (by omega))
        have nn : 3 < xs.length := by omega
        obtain ⟨v, hv⟩ : ∃ v, v = nth xs 3 := ⟨_, rfl⟩
        rw [← hv] at kk ll
        have H1 := Lib.hid ht; have H2 := Lib.hid hb; have HV := Lib.hid hv; have H3 := Lib.hid hz; clear ht hb hv hz
        go_wp2_with fail
        go_roundw
        case rel => exact ⟨1, by omega, rfl, H1.out.set 2 v (by rw [HV.out]; rfl), H3.out.far hbW2 _, H2.out.setCell (by simp; omega) _⟩
        case measure => simp [intOf]
      · obtain ⟨f0, f1, f2, f3, f4⟩ := ht.free5
        obtain ⟨c0, c1, c2, c3, c4⟩ := ht.cells5
        simp only at c0 c1 c2 c3 c4
        have kk := (hb.cell (p := ⟨b, off + 4, none⟩) hbl).trans ((add_at b off 4 ▸ HK.out 4 _ (nth_some (by omega)) :))
        have ll := HB.out.lt (nth_some (l := xs) (i := 4) (by omega))
        have nn : 4 < xs.length := by omega
        obtain ⟨v, hv⟩ : ∃ v, v = nth xs 4 := ⟨_, rfl⟩
        rw [← hv] at kk ll
        have H1 := Lib.hid ht; have H2 := Lib.hid hb; have HV := Lib.hid hv; have H3 := Lib.hid hz; clear ht hb hv hz
        go_wp2_with fail
        go_roundw
        case rel => exact ⟨2, by omega, rfl, H1.out.set 3 v (by rw [HV.out]; rfl), H3.out.far hbW2 _, H2.out.setCell (by simp; omega) _⟩
        case measure => simp [intOf]
      · obtain ⟨f0, f1, f2, f3, f4⟩ := ht.free5
        obtain ⟨c0, c1, c2, c3, c4⟩ := ht.cells5
        simp only at c0 c1 c2 c3 c4
        have kk := (hb.cell (p := ⟨b, off + 5, none⟩) hbl).trans ((add_at b off 5 ▸ HK.out 5 _ (nth_some (by omega)) :))
        have ll := HB.out.lt (nth_some (l := xs) (i := 5) (by omega))
        have nn : 5 < xs.length := by omega
        obtain ⟨v, hv⟩ : ∃ v, v = nth xs 5 := ⟨_, rfl⟩
        rw [← hv] at kk ll
        have H1 := Lib.hid ht; have H2 := Lib.hid hb; have HV := Lib.hid hv; have H3 := Lib.hid hz; clear ht hb hv hz
        go_wp2_with fail
        go_roundw
        case rel => exact ⟨3, by omega, rfl, H1.out.set 4 v (by rw [HV.out]; rfl), H3.out.far hbW2 _, H2.out.setCell (by simp; omega) _⟩
        case measure => simp [intOf]
      · obtain ⟨p0, hp0⟩ : ∃ p, p = pc 3 0 (nth xs 3 : Nat) := ⟨_, rfl⟩
        obtain ⟨p1, hp1⟩ : ∃ p, p = pc 3 1 (nth xs 4 : Nat) := ⟨_, rfl⟩
        obtain ⟨p2, hp2⟩ : ∃ p, p = pc 3 2 (nth xs 5 : Nat) := ⟨_, rfl⟩
        have ht' : Holds wr g (⟨3, (a1 : Int) * 256 + a2, p0, p1, p2⟩ : St) := by rw [hp0, hp1, hp2]; exact ht
        have hof : (⟨3, (a1 : Int) * 256 + a2, p0, p1, p2⟩ : St) = St.of xs := by rw [hp0, hp1, hp2]; unfold St.of; rw [← HZ0.out, ← HZ1.out, ← HZ2.out]; rfl
        have HO := Lib.hid hof; clear hof hp0 hp1 hp2 ht
        obtain ⟨c0, c1, c2, c3, c4⟩ := ht'.cells5
        simp only at c0 c1 c2 c3 c4
        have hR := fun w => refRight_any (⟨3, (a1 : Int) * 256 + a2, p0, p1, p2⟩ : St) w
        have H1 := Lib.hid ht'; have H2 := Lib.hid hb; have H3 := Lib.hid hz; clear ht' hb hz
        by_cases hG : St.R (⟨3, (a1 : Int) * 256 + a2, p0, p1, p2⟩ : St)
        · have HRt := Lib.hid (right_is (decide_eq_true hG) hR)
          have hg : Good xs := ⟨HC.out, HO.out ▸ hG⟩
          obtain ⟨g1, g2, g3⟩ := gets_yes hg
          have ht2 := HO.out.trans g1.symm
          have HT2 := Lib.hid ht2; have HG2 := Lib.hid g2; have HG3 := Lib.hid g3; clear ht2 hg g1 g2 g3 hR hG
          unfold St.val at HRt
          simp only at HRt
          go_wp2_with fail
          refine (HRt.out _).mono ?_; rintro e2 w2 ⟨rfl, hb2⟩
          have h1 := H1.out.below hb2
          have h3 := H3.out.below hb2
          have h2 := H2.out.trans (hb2.mono H2.out.size)
          clear hb2 c0 c1 c2 c3 c4
          obtain ⟨c0, c1, c2, c3, c4⟩ := h1.cells5
          simp only at c0 c1 c2 c3 c4
          obtain ⟨f0, f1, f2, f3, f4⟩ := h3.free5
          obtain ⟨z0, z1, z2, z3, z4⟩ := h3.cells5
          simp only [St.zero] at z0 z1 z2 z3 z4
          have HE3 := Lib.hid h3; have HE2 := Lib.hid h2; clear h1 h2 h3
          by_cases hl2 : xs.length = 6
          · have HL2 := Lib.hid hl2
            by_cases hl3 : c = 6
            · go_wp2_with fail
              go_region
              go_wp2_with fail
              refine bodyPost_ret (v := .tuple #[((⟨3, (a1 : Int) * 256 + a2, p0, p1, p2⟩ : St)).val, .slice (some ⟨b, off, none⟩) 0 0, .int .i64 0]) (three_drew rfl (Holds.all HE3.out _ _ _ _ _) rfl rfl rfl) rfl ?_
              exact gets_end (t := (⟨3, (a1 : Int) * 256 + a2, p0, p1, p2⟩ : St)) HZ0.out HL2.out HG2.out HG3.out HT2.out (below_set5 (g := w.heap.size) HE2.out (by omega)).drew
            · go_wp2_with fail
              go_region
              go_wp2_with fail
              refine bodyPost_ret (v := .tuple #[((⟨3, (a1 : Int) * 256 + a2, p0, p1, p2⟩ : St)).val, .slice (some ⟨b, off + 6, none⟩) 0 (c - 6), .int .i64 0]) (three_drew rfl (Holds.all HE3.out _ _ _ _ _) rfl rfl rfl) rfl ?_
              exact gets_end (t := (⟨3, (a1 : Int) * 256 + a2, p0, p1, p2⟩ : St)) HZ0.out HL2.out HG2.out HG3.out HT2.out (below_set5 (g := w.heap.size) HE2.out (by omega)).drew
          · go_wp2_with fail
            go_region
            go_wp2_with fail
            refine bodyPost_ret (v := .tuple #[((⟨3, (a1 : Int) * 256 + a2, p0, p1, p2⟩ : St)).val, .slice (some ⟨b, off + 6, none⟩) (xs.length - 6) (c - 6), .int .i64 0]) (three_drew rfl (Holds.all HE3.out _ _ _ _ _) rfl rfl rfl) rfl ?_
            exact gets_some (t := (⟨3, (a1 : Int) * 256 + a2, p0, p1, p2⟩ : St)) (d := 3) HZ0.out HG2.out HG3.out HT2.out (below_set5 (g := w.heap.size) HE2.out (by omega)).drew
        · have HRt := Lib.hid (right_is (decide_eq_false hG) hR)
          have hg : ¬ Good xs := fun h => hG (HO.out ▸ h.2)
          have HGN := Lib.hid hg; clear hg hR hG
          unfold St.val at HRt
          simp only at HRt
          go_wp2_with fail
          refine (HRt.out _).mono ?_; rintro e2 w2 ⟨rfl, hb2⟩
          have h3 := H3.out.below hb2
          have h2 := H2.out.trans (hb2.mono H2.out.size)
          clear hb2 c0 c1 c2 c3 c4
          obtain ⟨f0, f1, f2, f3, f4⟩ := h3.free5
          obtain ⟨z0, z1, z2, z3, z4⟩ := h3.cells5
          simp only [St.zero] at z0 z1 z2 z3 z4
          have HE3 := Lib.hid h3; have HE2 := Lib.hid h2; clear h2 h3
          go_wp2_with fail
          refine bodyPost_ret (v := .tuple #[St.zero.val, .slice none 0 0, .int .i64 50]) (three_plain rfl (Holds.all HE3.out _ _ _ _ _) rfl rfl rfl) rfl ?_
          exact gets_none HGN.out (below_set5 (g := w.heap.size) HE2.out (by omega))
theorem refGet_any (xs : List Nat) (A : Option Addr) (c : Nat) (w : World) (hB : Bytes w A xs) (hc : xs.length ≤ c) (hm : c ≤ maxLen) : Calls Try.prog 31 #[.slice A xs.length c] w (Gets xs A w) := by
  by_cases h : xs.length < 3
  · exact refGet_short xs A c w h
  · obtain ⟨b, off, rfl, -⟩ := hB.plain (by omega)
    by_cases hC : Can xs
    · exact refGet_can b off c xs w hB (by omega) hc hm hC
    · exact refGet_no b off c xs w hB (by omega) hc hm hC
end Go.Proofs.Ytpcnnnfgopilaaa
