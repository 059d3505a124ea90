/- Get, the program's. -/
import Derived.Test.YtpcnnnfgopilaaaStRead
namespace Go.Proofs.Ytpcnnnfgopilaaa
open Go.ChangeShapes Go.WideShapes Go.ChangeAt Go.RowKit Go.BigFrame
set_option linter.unusedVariables false
/-- what Get tells of bytes -/
def Gets (xs : List Nat) (A0 : Option Addr) (w : World) (e : Ending) (w' : World) : Prop :=
  ∃ (A : Option Addr) (n c : Nat), e = .returned (.tuple #[(gt xs).val, .slice A n c, .int .i64 (ge xs)]) ∧ n = (gr xs).length ∧ (∀ W, Bytes W A0 xs → Bytes W A (gr xs)) ∧ Below w.heap.size w w'
theorem three_plain {fn : Func} {p q r : Tmp} {v u : Value} (h : fn.results = #[.cell p 24, .tmp q, .tmp r]) {tmps : Array Value} {w : World} {g : Nat} {T : St} (hg : Holds w g T)
    (hp : tmps.getD p undef = .pointer (some ⟨g, 0, none⟩)) (hq : tmps.getD q undef = v) (hr : tmps.getD r undef = u) :
    (results fn tmps).run Try.prog w = .ok (.tuple #[T.val, v, u]) w :=
  three_results h tmps w g 24 _ (0, 0) _ hp hg Try.underlying24 rfl (by kernel_rfl) hq hr
theorem gets_no {xs : List Nat} (h : ¬ Good xs) : gt xs = St.zero ∧ gr xs = [] ∧ ge xs = 50 := by
  unfold gt gr ge; rw [if_neg h, if_neg h, if_neg h]; exact ⟨rfl, rfl, rfl⟩
theorem gets_yes {xs : List Nat} (h : Good xs) : gt xs = St.of xs ∧ gr xs = xs.drop (3 + nth xs 0) ∧ ge xs = 0 := by
  unfold gt gr ge; rw [if_pos h, if_pos h, if_pos h]; exact ⟨rfl, rfl, rfl⟩
set_option maxHeartbeats 4000000 in
theorem get_any (xs : List Nat) (A : Option Addr) (c : Nat) (w : World) (hB : Bytes w A xs) (hc : xs.length ≤ c) (hm : c ≤ maxLen) : Calls Try.prog 30 #[.slice A xs.length c] w (Gets xs A w) := by
  have hz := zero_made w
  have hr := read_any xs A c _ (hB.below ((Below.refl _ _).alloc (Nat.le_refl _) (.cells #[.int .i64 0, .int .i64 0, .int .i64 0, .int .i64 0, .int .i64 0] 24))) hc hm
  have HZ := Lib.hid hz; have HRD := Lib.hid hr; clear hz hr hB
  go_enter Try.func30, Try.ntmps30
  go_wp2_with fail
  refine (HRD.out).mono ?_; rintro e1 w1 ⟨t, B, n, c9, rfl, hY, hb1⟩
  dsimp only
  have hb0 : Below w.heap.size w w1 := ((Below.refl _ _).alloc (Nat.le_refl _) _).trans (hb1.mono (by simp))
  have hz1 := HZ.out.below hb1
  have hlt : w.heap.size < w1.heap.size := by have := hb1.size; simp at this; omega
  have HZ1 := Lib.hid hz1; have HB0 := Lib.hid hb0; have HY := Lib.hid hY; clear hz1 hb0 hY hb1 HZ HRD
  obtain ⟨d, e, x, y, z⟩ := t
  have hR := fun w => right_any ⟨d, e, x, y, z⟩ w
  by_cases hC : Can xs
  · obtain ⟨ht, hn, hY⟩ := HY.out hC
    rw [decide_eq_true hC]
    have HC := Lib.hid hC; have HN := Lib.hid hn; clear hC hn
    by_cases hG : St.R ⟨d, e, x, y, z⟩
    · have hg : Good xs := ⟨HC.out, ht ▸ hG⟩
      obtain ⟨g1, g2, g3⟩ := gets_yes hg
      have HRt := Lib.hid (right_is (decide_eq_true hG) hR)
      have ht2 := ht.trans g1.symm
      have HT := Lib.hid ht2; have HG2 := Lib.hid g2; have HG3 := Lib.hid g3; have HYY := Lib.hid hY; clear ht ht2 hg g1 g2 g3 hR hG hY
      unfold St.val at *
      simp only at HRt ⊢
      have hta := Holds.made w1 ⟨d, e, x, y, z⟩
      have HTA := Lib.hid hta; clear hta
      have hza := HZ1.out.alloc (.cells #[.int .i64 d, .int .i64 e, .int .i64 x, .int .i64 y, .int .i64 z] 24)
      have hba : Below w.heap.size w (w1.alloc (.cells #[.int .i64 d, .int .i64 e, .int .i64 x, .int .i64 y, .int .i64 z] 24)) := HB0.out.alloc (Nat.le_of_lt hlt) _
      have HZA := Lib.hid hza; have HBA := Lib.hid hba; clear hza hba
      go_wp2_with fail
      refine (HRt.out _).mono ?_; rintro e2 w2 ⟨rfl, hb2⟩
      have h1 := HTA.out.below hb2
      have h2 := HZA.out.below hb2
      have h4 := HBA.out.trans (hb2.mono HBA.out.size)
      clear hb2
      obtain ⟨c0, c1, c2, c3, c4⟩ := h1.cells5
      simp only at c0 c1 c2 c3 c4
      obtain ⟨f0, f1, f2, f3, f4⟩ := h2.free5
      obtain ⟨z0, z1, z2, z3, z4⟩ := h2.cells5
      simp only [St.zero] at z0 z1 z2 z3 z4
      have hne : w.heap.size ≠ w1.heap.size := by omega
      have H1 := Lib.hid h1; have H2 := Lib.hid h2; have H4 := Lib.hid h4; clear h1 h2 h4
      go_wp2_with fail
      refine bodyPost_ret (v := .tuple #[(⟨d, e, x, y, z⟩ : St).val, .slice B n c9, .int .i64 0]) (three_plain rfl (Holds.all H2.out _ _ _ _ _) rfl rfl rfl) rfl ?_
      exact ⟨B, n, c9, (by rw [← HT.out, HG3.out]), (by rw [HG2.out, HN.out]), (by rw [HG2.out]; exact HYY.out), below_set5 (g := w.heap.size) H4.out (by omega)⟩
    · have hg : ¬ Good xs := fun h => hG (ht ▸ h.2)
      obtain ⟨g1, g2, g3⟩ := gets_no hg
      have HRt := Lib.hid (right_is (decide_eq_false hG) hR)
      have HG1 := Lib.hid g1; have HG2 := Lib.hid g2; have HG3 := Lib.hid g3; clear ht hg g1 g2 g3 hR hG hY
      unfold St.val at *
      simp only at HRt ⊢
      have hza := HZ1.out.alloc (.cells #[.int .i64 d, .int .i64 e, .int .i64 x, .int .i64 y, .int .i64 z] 24)
      have hba : Below w.heap.size w (w1.alloc (.cells #[.int .i64 d, .int .i64 e, .int .i64 x, .int .i64 y, .int .i64 z] 24)) := HB0.out.alloc (Nat.le_of_lt hlt) _
      have HZA := Lib.hid hza; have HBA := Lib.hid hba; clear hza hba
      go_wp2_with fail
      refine (HRt.out _).mono ?_; rintro e2 w2 ⟨rfl, hb2⟩
      have h2 := HZA.out.below hb2
      have h4 := HBA.out.trans (hb2.mono HBA.out.size)
      clear hb2
      obtain ⟨f0, f1, f2, f3, f4⟩ := h2.free5
      obtain ⟨z0, z1, z2, z3, z4⟩ := h2.cells5
      simp only [St.zero] at z0 z1 z2 z3 z4
      have H2 := Lib.hid h2; have H4 := Lib.hid h4; clear h2 h4
      go_wp2_with fail
      refine bodyPost_ret (v := .tuple #[St.zero.val, .slice none 0 0, .int .i64 50]) (three_plain rfl (Holds.all H2.out _ _ _ _ _) rfl rfl rfl) rfl ?_
      exact ⟨none, 0, 0, (by rw [HG1.out, HG3.out]), (by rw [HG2.out]; rfl), (by rw [HG2.out]; exact fun _ _ => bytes_nil), below_set5 (g := w.heap.size) H4.out (by omega)⟩
  · have hg : ¬ Good xs := fun h => hC h.1
    obtain ⟨g1, g2, g3⟩ := gets_no hg
    rw [decide_eq_false hC]
    have HG1 := Lib.hid g1; have HG2 := Lib.hid g2; have HG3 := Lib.hid g3; clear hg g1 g2 g3 hR HY hC
    unfold St.val at *
    simp only
    obtain ⟨f0, f1, f2, f3, f4⟩ := HZ1.out.free5
    obtain ⟨z0, z1, z2, z3, z4⟩ := HZ1.out.cells5
    have hne : w.heap.size ≠ w1.heap.size := by omega
    simp only [St.zero] at z0 z1 z2 z3 z4
    go_wp2_with fail
    refine bodyPost_ret (v := .tuple #[St.zero.val, .slice none 0 0, .int .i64 50]) (three_plain rfl ((Holds.all HZ1.out _ _ _ _ _).alloc _) rfl rfl rfl) rfl ?_
    exact ⟨none, 0, 0, (by rw [HG1.out, HG3.out]), (by rw [HG2.out]; rfl), (by rw [HG2.out]; exact fun _ _ => bytes_nil), (below_set5 (g := w.heap.size) HB0.out (by omega)).alloc (by simp; omega) _⟩
end Go.Proofs.Ytpcnnnfgopilaaa
