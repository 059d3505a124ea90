/- The verifier's things: what they are, and their bytes. -/
import Derived.Test.YtmliiglhglhjkaaReadNum
import Derived.Test.YtmliiglhglhjkaaRegion
import Derived.Test.YtmliiglhglhjkaaConv
namespace Go.Proofs.Ytmliiglhglhjkaa
open Go.ChangeShapes Go.WideShapes Go.ChangeAt Go.RowKit Go.BigFrame
set_option linter.unusedVariables false

/-- what is written -/
structure Th where
  s : Int
  n : Nat
  b : ByteArray
namespace Th
@[reducible] def val (t : Th) : Value := .agg #[.int .i8 t.s, .int .u64 (t.n : Nat), .string t.b]
def wide (t : Th) : Nat := if t.s = 1 then 1 else if t.s = 2 then 2 else if t.s = 4 then 4 else if t.s = 8 then 8 else 0
def bytes (t : Th) : List Nat := if t.wide = 0 then bl t.b else M.be t.wide t.n
end Th
theorem refBytes_any (k : Nat) : ∀ (n : Nat) (w : World), n < 18446744073709551616 → k ≤ 100 →
    Calls Try.prog 30 #[.int .u64 (n : Nat), .int .i64 (k : Nat)] w fun e w' => ∃ v, e = .returned v ∧ w'.ownsRow w.heap.size 5 1 v k (u8s (M.be k n)) ∧ Below w.heap.size w w' := by
  induction k with
  | zero =>
    intro n w hn _
    go_enter Try.func30, Try.ntmps30
    go_wp2_with fail
    go_ret
    exact ⟨_, rfl, World.ownsRow_nil _ _ _ _, Below.refl _ _⟩
  | succ k ih =>
    intro n w hn hk
    obtain ⟨i0, hi, hz0, hz1, hz2⟩ := info_parts Try.infoByte
    have ht : ((k : Int) + 1 == 0) = false := by rw [beq_eq_false_iff_ne]; omega
    have hih := ih (n / 256) w (by omega) (by omega)
    have Hih := Lib.hid hih; clear hih ih
    go_enter Try.func30, Try.ntmps30
    go_wp2_with fail
    refine (Hih.out).mono ?_; rintro e w1 ⟨v, rfl, hown, hb⟩
    dsimp only
    have hown1 := hown.alloc (.cells #[.int .u8 ((n : Int) % 256)] 5)
    have hB1 : Bytes (w1.alloc (.cells #[.int .u8 ((n : Int) % 256)] 5)) (some ⟨w1.heap.size, 0, none⟩) [n % 256] := Bytes.made (xs := [n % 256]) w1 5 (0, 0) (by simp; omega)
    have hsz := hb.size
    have hvb : ∀ k, v.ownBlock = some k → w.heap.size ≤ k := fun k hk => (hown.lt k hk).1
    have Hv := Lib.hid hvb; have Hb := Lib.hid hb
    clear hown hvb hb
    go_wp2_with (at_builtin; refine wpList_append_bytes rfl _ _ 23 rfl w.heap.size 5 i0 (.int .u8 0) Try.underlying23 hi hz0 hz1 hz2 rfl v k (M.be k (n / 256)) rfl hown1 (some ⟨w1.heap.size, 0, none⟩) 1 [n % 256] rfl hB1 (by simp) (by simp; omega) (by simp; omega) ?_)
    intro v2 w2 hown2 hg2
    have hb2 : Below w.heap.size w w2 := (Hb.out.alloc hsz _).grown hg2 (by simp; omega) Hv.out
    have H := Lib.hid (And.intro hown2 hb2)
    clear hown1 hB1 hown2 hg2 hb2 hi hz0 hz1 hz2
    go_wp2_with fail
    go_ret
    exact ⟨v2, rfl, by simpa [M.be] using H.out.1, H.out.2⟩
theorem wide_any (t : Th) (w : World) :
    Calls Try.prog 18 #[t.val] w fun e w' => e = .returned (.int .i64 (t.wide : Nat)) ∧ Below w.heap.size w w' := by
  obtain ⟨s, n, b⟩ := t
  unfold Th.val Th.wide
  by_cases h1 : s = 1
  · subst h1
    go_enter Try.func18, Try.ntmps18
    go_wp2_with fail
    go_ret
    exact ⟨rfl, (Below.refl _ _).alloc (Nat.le_refl _) _⟩
  by_cases h2 : s = 2
  · subst h2
    go_enter Try.func18, Try.ntmps18
    go_wp2_with fail
    go_ret
    exact ⟨rfl, (Below.refl _ _).alloc (Nat.le_refl _) _⟩
  by_cases h4 : s = 4
  · subst h4
    go_enter Try.func18, Try.ntmps18
    go_wp2_with fail
    go_ret
    exact ⟨rfl, (Below.refl _ _).alloc (Nat.le_refl _) _⟩
  by_cases h8 : s = 8
  · subst h8
    go_enter Try.func18, Try.ntmps18
    go_wp2_with fail
    go_ret
    exact ⟨rfl, (Below.refl _ _).alloc (Nat.le_refl _) _⟩
  · have t1 : (s == 1) = false := by rw [beq_eq_false_iff_ne]; exact h1
    have t2 : (s == 2) = false := by rw [beq_eq_false_iff_ne]; exact h2
    have t4 : (s == 4) = false := by rw [beq_eq_false_iff_ne]; exact h4
    have t8 : (s == 8) = false := by rw [beq_eq_false_iff_ne]; exact h8
    simp only [h1, h2, h4, h8, if_false]
    clear h1 h2 h4 h8
    go_enter Try.func18, Try.ntmps18
    go_wp2_with fail
    go_ret
    exact ⟨rfl, (Below.refl _ _).alloc (Nat.le_refl _) _⟩

theorem text_any (t : Th) (w : World) (hn : t.n < 18446744073709551616) :
    Calls Try.prog 22 #[t.val] w fun e w' => e = .returned (.string (if t.wide = 0 then t.b else strOf (M.be t.wide t.n))) ∧ Below w.heap.size w w' := by
  have hw := fun w' => wide_any t w'
  have hw8 : t.wide ≤ 8 := by unfold Th.wide; (repeat' split) <;> omega
  obtain ⟨s, n, b⟩ := t
  generalize Th.wide ⟨s, n, b⟩ = W at *
  simp only at hn ⊢
  unfold Th.val at *
  simp only at hw ⊢
  have Hw := Lib.hid hw; clear hw
  by_cases h0 : W = 0
  · subst h0
    rw [if_pos rfl]
    go_enter Try.func22, Try.ntmps22
    go_wp2_with fail
    refine (Hw.out _).mono ?_; rintro e w1 ⟨rfl, hb⟩
    obtain ⟨hc, hf⟩ := old_cells hb
    have Hb := Lib.hid hb; clear hb
    go_wp2_with fail
    go_ret
    exact ⟨rfl, ((Below.refl _ _).alloc (Nat.le_refl _) _).trans (Hb.out.mono (by simp))⟩
  · rw [if_neg h0]
    have ht : ((W : Int) == 0) = false := by rw [beq_eq_false_iff_ne]; omega
    have hown := (Row.made w 42 [.int .i8 s, .int .u64 (n : Nat), .string b])
    go_enter Try.func22, Try.ntmps22
    go_wp2_with fail
    refine (Hw.out _).mono ?_; rintro e w1 ⟨rfl, hb⟩
    have hrow := hown.below hb (by simp)
    have Hb := Lib.hid hb; have Hrow := Lib.hid hrow; clear hb hown hrow
    go_wp2_with fail
    refine Free.wp_grow (by kernel_rfl) (by kernel_rfl) (fun i v w' => match i with
      | 0 => v = .pointer (some ⟨w.heap.size, 1, none⟩)
      | 1 => v = .int .u64 (n : Nat)
      | 2 => v = .agg #[.int .i8 s, .int .u64 (n : Nat), .string b]
      | 3 => v = .int .i64 (W : Nat)
      | 4 => ∃ A c, v = .slice A W c ∧ Bytes w' A (M.be W n)
      | _ => v = .string (strOf (M.be W n))) ?_ ?_ ?_
    · intro j u wa wb hb h
      match j with
      | 0 | 1 | 2 | 3 => exact h
      | 4 => obtain ⟨A, c, h1, h2⟩ := h; exact ⟨A, c, h1, h2.below hb⟩
      | _ + 5 => exact h
    · intro i o hi a wa hold hpre hb
      have hrow := Hrow.out.below hb Hrow.out.lt
      have ht1 : a.eval (.tmp 1) = .pointer (some ⟨w.heap.size, 0, none⟩) := (hold 1 (by decide)).trans rfl
      match i with
      | 0 => cases hi; exact Free.g_field _ _ _ rfl ht1 (by kernel_rfl) ⟨rfl, Below.refl _ _⟩
      | 1 =>
        cases hi
        have h0 := hpre 0 _ _ (by kernel_rfl) rfl rfl
        refine Free.g_load _ _ rfl h0 (w' := wa) (v := .int .u64 (n : Nat)) ?_ ⟨rfl, Below.refl _ _⟩
        have hcell := hrow.cell 1
        simp only [List.getElem?_cons_succ, List.getElem?_cons_zero] at hcell
        go_simp
      | 2 =>
        cases hi
        refine Free.g_load _ _ rfl ht1 (w' := wa) (v := .agg #[.int .i8 s, .int .u64 (n : Nat), .string b]) ?_ ⟨rfl, Below.refl _ _⟩
        refine run_loadAt_part w.heap.size 0 42 _ [.int .i8 s, .int .u64 (n : Nat), .string b] ?_ Try.underlying42 rfl (by kernel_rfl)
        intro j v hj
        rw [add_at, hrow.cell, Nat.zero_add]; exact hj
      | 3 =>
        cases hi
        have h0 := hpre 2 _ _ (by kernel_rfl) rfl rfl
        refine Free.g_call _ _ rfl Try.func18 (by kernel_rfl) rfl [.agg #[.int .i8 s, .int .u64 (n : Nat), .string b]] (by show [a.eval (.tmp 10)] = _; rw [h0]) ?_
        exact (Hw.out wa).mono fun e w2 ⟨he, hb2⟩ => ⟨_, he, rfl, hb2⟩
      | 4 =>
        cases hi
        have h1 := hpre 1 _ _ (by kernel_rfl) rfl rfl
        have h3 := hpre 3 _ _ (by kernel_rfl) rfl rfl
        refine Free.g_call _ _ rfl Try.func30 (by kernel_rfl) rfl [.int .u64 (n : Nat), .int .i64 (W : Nat)] (by show [a.eval (.tmp 9), a.eval (.tmp 11)] = _; rw [h1, h3]) ?_
        refine (refBytes_any W n wa hn (by omega)).mono fun e w2 ⟨v, he, hown, hb2⟩ => ⟨v, he, ?_, hb2⟩
        obtain ⟨A, c, h4, h5, _⟩ := Bytes.of_own hown (M.be_lt W n)
        rw [M.be_len] at h4
        exact ⟨A, c, h4, h5⟩
      | 5 =>
        cases hi
        obtain ⟨A, c, h4, h5⟩ := hpre 4 _ _ (by kernel_rfl) rfl rfl
        have hcv := conv_bytes (P := Try.prog) (w := wa) Try.underlying23 Try.underlying5 Try.underlying9 h5 c
        rw [M.be_len] at hcv
        exact Free.g_convert _ _ _ rfl h4 hcv ⟨rfl, Below.refl _ _⟩
      | 6 =>
        cases hi
        have h5 := hpre 5 _ _ (by kernel_rfl) rfl rfl
        exact Free.g_assign _ rfl ⟨h5, Below.refl _ _⟩
      | _ + 7 => cases hi
    · intro vs w2 hv hb
      have h6 : vs 6 = .string (strOf (M.be W n)) := hv 6 (by simp) (by rintro o ⟨⟩; rfl)
      have Hb2 := Lib.hid hb; clear hb hv
      simp only [Free.puts]
      go_simp
      go_wp2_with fail
      go_ret
      exact ⟨rfl, ((Below.refl _ _).alloc (Nat.le_refl _) _).trans ((Hb.out.mono (by simp)).trans (Hb2.out.mono (by have := Hrow.out.lt; omega)))⟩

/-- a thing is written -/
theorem write_any (t : Th) (g : Nat) (xs : List Nat) (w : World) (hW : IsWriter w g xs) (hn : t.n < 18446744073709551616) (hb : t.b.size ≤ 100000) (hm : xs.length ≤ 800000) :
    Calls Try.prog 27 #[t.val, .pointer (some ⟨g, 0, none⟩)] w fun e w' => e = .returned (.tuple #[]) ∧ IsWriter w' g (xs ++ t.bytes) ∧ w.grownBy w' (some g) := by
  have hw := fun w' => wide_any t w'
  have hbs : t.bytes = if t.wide = 0 then bl t.b else M.be t.wide t.n := rfl
  have hwc : t.wide = 0 ∨ t.wide = 1 ∨ t.wide = 2 ∨ t.wide = 4 ∨ t.wide = 8 := by unfold Th.wide; (repeat' split) <;> simp
  obtain ⟨s, n, b⟩ := t
  generalize Th.wide ⟨s, n, b⟩ = W at *
  generalize Th.bytes ⟨s, n, b⟩ = bs at *
  simp only at hn hb hbs ⊢
  unfold Th.val at *
  simp only at hw ⊢
  have Hw := Lib.hid hw; have Hbs := Lib.hid hbs; have HW := Lib.hid hW; clear hw hbs hW
  have hown := (Row.made w 42 [.int .i8 s, .int .u64 (n : Nat), .string b])
  have Hown := Lib.hid hown; clear hown
  rcases hwc with rfl | rfl | rfl | rfl | rfl
  · go_enter Try.func27, Try.ntmps27
    go_wp2_with fail
    refine (Hw.out _).mono ?_; rintro e w1 ⟨rfl, hb1⟩
    have hrow := Hown.out.below hb1 (by simp)
    have hc2 := hrow.cell 2
    simp only [List.getElem?_cons_succ, List.getElem?_cons_zero] at hc2
    clear hrow
    have hbw : Below w.heap.size w w1 := ((Below.refl _ _).alloc (Nat.le_refl _) _).trans (hb1.mono (by simp))
    have Hbw := Lib.hid hbw; clear hbw hb1
    go_wp2_with (refine wpList_tobytes rfl (.tmp 8) rfl Try.underlying9 Try.underlying23 Try.underlying5 b rfl (by unfold maxLen; omega) ?_)
    intro c w2 hB2 hb2 hc1 hcm hlt2
    have hbw2 := Hbw.out.trans (hb2.mono Hbw.out.size)
    have hraw := raw_any g xs (bl b) (some ⟨w1.heap.size, 0, none⟩) c w2 (HW.out.below hbw2) hB2 (by rw [bl_len]; exact hc1) (by unfold maxLen at hcm; exact hcm) (by rintro ad ⟨⟩; have := HW.out.lt; have := Hbw.out.size; show w1.heap.size ≠ g; omega) (by rw [bl_len]; omega)
    rw [bl_len] at hraw
    have Hraw := Lib.hid hraw; have Hbw2 := Lib.hid hbw2
    clear hraw hB2 hb2 hbw2 hc2
    go_wp2_with fail
    refine (Hraw.out).mono ?_; rintro e w3 ⟨rfl, h1, h2⟩
    go_wp2_with fail
    go_end0
    exact ⟨rfl, by rw [Hbs.out, if_pos trivial]; exact h1, grown_trans (grown_of_below Hbw2.out (Nat.le_refl _) _) h2⟩
  · go_enter Try.func27, Try.ntmps27
    go_wp2_with fail
    refine (Hw.out _).mono ?_; rintro e w1 ⟨rfl, hb1⟩
    have hrow := Hown.out.below hb1 (by simp)
    have hc1 := hrow.cell 1
    simp only [List.getElem?_cons_succ, List.getElem?_cons_zero] at hc1
    clear hrow
    have hbw : Below w.heap.size w w1 := ((Below.refl _ _).alloc (Nat.le_refl _) _).trans (hb1.mono (by simp))
    have hcall := byte_any g (n % 256) xs w1 (HW.out.below hbw) (by omega) (by omega)
    have hmod : M.be 1 (n % 256) = M.be 1 n := M.be_mod 1 n
    rw [hmod] at hcall
    have Hcall := Lib.hid hcall; have Hbw := Lib.hid hbw
    clear hcall hbw hb1 hmod
    go_wp2_with fail
    refine (Hcall.out).mono ?_; rintro e w3 ⟨rfl, h1, h2⟩
    go_wp2_with fail
    go_end0
    exact ⟨rfl, by rw [Hbs.out, if_neg (by decide)]; exact h1, grown_trans (grown_of_below Hbw.out (Nat.le_refl _) _) h2⟩
  · go_enter Try.func27, Try.ntmps27
    go_wp2_with fail
    refine (Hw.out _).mono ?_; rintro e w1 ⟨rfl, hb1⟩
    have hrow := Hown.out.below hb1 (by simp)
    have hc1 := hrow.cell 1
    simp only [List.getElem?_cons_succ, List.getElem?_cons_zero] at hc1
    clear hrow
    have hbw : Below w.heap.size w w1 := ((Below.refl _ _).alloc (Nat.le_refl _) _).trans (hb1.mono (by simp))
    have hcall := short_any g (n % 65536) xs w1 (HW.out.below hbw) (by omega) (by omega)
    have hmod : M.be 2 (n % 65536) = M.be 2 n := M.be_mod 2 n
    rw [hmod] at hcall
    have Hcall := Lib.hid hcall; have Hbw := Lib.hid hbw
    clear hcall hbw hb1 hmod
    go_wp2_with fail
    refine (Hcall.out).mono ?_; rintro e w3 ⟨rfl, h1, h2⟩
    go_wp2_with fail
    go_end0
    exact ⟨rfl, by rw [Hbs.out, if_neg (by decide)]; exact h1, grown_trans (grown_of_below Hbw.out (Nat.le_refl _) _) h2⟩
  · go_enter Try.func27, Try.ntmps27
    go_wp2_with fail
    refine (Hw.out _).mono ?_; rintro e w1 ⟨rfl, hb1⟩
    have hrow := Hown.out.below hb1 (by simp)
    have hc1 := hrow.cell 1
    simp only [List.getElem?_cons_succ, List.getElem?_cons_zero] at hc1
    clear hrow
    have hbw : Below w.heap.size w w1 := ((Below.refl _ _).alloc (Nat.le_refl _) _).trans (hb1.mono (by simp))
    have hcall := word_any g (n % 4294967296) xs w1 (HW.out.below hbw) (by omega) (by omega)
    have hmod : M.be 4 (n % 4294967296) = M.be 4 n := M.be_mod 4 n
    rw [hmod] at hcall
    have Hcall := Lib.hid hcall; have Hbw := Lib.hid hbw
    clear hcall hbw hb1 hmod
    go_wp2_with fail
    refine (Hcall.out).mono ?_; rintro e w3 ⟨rfl, h1, h2⟩
    go_wp2_with fail
    go_end0
    exact ⟨rfl, by rw [Hbs.out, if_neg (by decide)]; exact h1, grown_trans (grown_of_below Hbw.out (Nat.le_refl _) _) h2⟩
  · go_enter Try.func27, Try.ntmps27
    go_wp2_with fail
    refine (Hw.out _).mono ?_; rintro e w1 ⟨rfl, hb1⟩
    have hrow := Hown.out.below hb1 (by simp)
    have hc1 := hrow.cell 1
    simp only [List.getElem?_cons_succ, List.getElem?_cons_zero] at hc1
    clear hrow
    have hbw : Below w.heap.size w w1 := ((Below.refl _ _).alloc (Nat.le_refl _) _).trans (hb1.mono (by simp))
    have hcall := long_any g n xs w1 (HW.out.below hbw) (by omega) (by omega)
    have hmod : M.be 8 n = M.be 8 n := rfl
    rw [hmod] at hcall
    have Hcall := Lib.hid hcall; have Hbw := Lib.hid hbw
    clear hcall hbw hb1 hmod
    go_wp2_with fail
    refine (Hcall.out).mono ?_; rintro e w3 ⟨rfl, h1, h2⟩
    go_wp2_with fail
    go_end0
    exact ⟨rfl, by rw [Hbs.out, if_neg (by decide)]; exact h1, grown_trans (grown_of_below Hbw.out (Nat.le_refl _) _) h2⟩

namespace Th
/-- how many bytes are asked for -/
def ask (t : Th) : Nat := if t.wide = 0 then t.b.size else t.wide
/-- what is told of a reader -/
def told (t : Th) (ys : List Nat) (sp : Bool) : List Nat := if t.wide = 0 then M.out t.b.size ys sp else M.be t.wide (M.val (M.out t.wide ys sp))
end Th
set_option maxRecDepth 100000 in
set_option maxHeartbeats 400000 in
theorem read_any (t : Th) (g : Nat) (ys : List Nat) (sp : Bool) (w : World) (hR : IsReader w g ys sp) (hn : t.n < 18446744073709551616) (hb : t.b.size ≤ 100000) (hy : ys.length ≤ 100000) :
    Calls Try.prog 19 #[t.val, .pointer (some ⟨g, 0, none⟩)] w fun e w' => e = .returned (.string (strOf (t.told ys sp))) ∧ IsReader w' g (M.rest t.ask ys sp) (M.spoil t.ask ys sp) ∧ w.grownBy w' (some g) := by
  have hw := fun w' => wide_any t w'
  have hto : t.told ys sp = if t.wide = 0 then M.out t.b.size ys sp else M.be t.wide (M.val (M.out t.wide ys sp)) := rfl
  have hak : t.ask = if t.wide = 0 then t.b.size else t.wide := rfl
  have hwc : t.wide = 0 ∨ t.wide = 1 ∨ t.wide = 2 ∨ t.wide = 4 ∨ t.wide = 8 := by unfold Th.wide; (repeat' split) <;> simp
  have hyb := hR.bytes
  obtain ⟨s, n, b⟩ := t
  generalize Th.wide ⟨s, n, b⟩ = W at *
  generalize Th.told ⟨s, n, b⟩ ys sp = told at *
  generalize Th.ask ⟨s, n, b⟩ = ask at *
  simp only at hn hb hto hak ⊢
  unfold Th.val at *
  simp only at hw ⊢
  have Hw := Lib.hid hw; have Hto := Lib.hid hto; have Hak := Lib.hid hak; have HR := Lib.hid hR; clear hw hto hak hR
  have hown := (Row.made w 42 [.int .i8 s, .int .u64 (n : Nat), .string b])
  have Hown := Lib.hid hown; clear hown
  rcases hwc with rfl | rfl | rfl | rfl | rfl
  · go_enter Try.func19, Try.ntmps19
    go_wp2_with fail
    refine (Hw.out _).mono ?_; rintro e w1 ⟨rfl, hb1⟩
    have hrow := Hown.out.below hb1 (by simp)
    have hc2 := hrow.cell 2
    simp only [List.getElem?_cons_succ, List.getElem?_cons_zero] at hc2
    clear hrow
    have hbw : Below w.heap.size w w1 := ((Below.refl _ _).alloc (Nat.le_refl _) _).trans (hb1.mono (by simp))
    have hcall := rraw_any g ys sp (b.size : Nat) w1 (HR.out.below hbw) hy
    have Hcall := Lib.hid hcall; have Hbw := Lib.hid hbw
    clear hcall hbw hb1
    go_wp2_with fail
    refine (Hcall.out).mono ?_; rintro e w3 ⟨v, rfl, hv, h1, h2⟩
    dsimp only
    obtain ⟨A, c, rfl, hB, _⟩ := hv
    have hcv := conv_bytes (P := Try.prog) (w := w3) Try.underlying23 Try.underlying5 Try.underlying9 hB c
    clear hB hc2
    go_wp2_with fail
    go_ret
    exact ⟨by rw [Hto.out, if_pos trivial]; rfl, by rw [Hak.out, if_pos trivial]; exact h1, grown_trans (grown_of_below Hbw.out (Nat.le_refl _) _) h2⟩
  · go_enter Try.func19, Try.ntmps19
    go_wp2_with fail
    refine (Hw.out _).mono ?_; rintro e w1 ⟨rfl, hb1⟩
    have hbw : Below w.heap.size w w1 := ((Below.refl _ _).alloc (Nat.le_refl _) _).trans (hb1.mono (by simp))
    have hcall := rbyte_any g ys sp w1 (HR.out.below hbw) hy
    have hvl : M.val (M.out (1 : Nat) ys sp) < 256 := M.val_out_lt 1 ys sp hyb
    have Hcall := Lib.hid hcall; have Hbw := Lib.hid hbw
    clear hcall hbw hb1
    generalize M.val (M.out (1 : Nat) ys sp) = V at *
    go_wp2_with fail
    refine (Hcall.out).mono ?_; rintro e w3 ⟨rfl, h1, h2⟩
    have hrb := refBytes_any 1 V w3 (by omega) (by omega)
    have Hrb := Lib.hid hrb; clear hrb
    have HT := Lib.hid (And.intro h1 h2); clear h1 h2
    go_wp2_with fail
    refine (Hrb.out).mono ?_; rintro e w4 ⟨v, rfl, hown, hb4⟩
    dsimp only
    obtain ⟨A, c, hv, hB, -⟩ := Bytes.of_own hown (M.be_lt 1 V)
    rw [M.be_len] at hv
    subst hv
    have hcv := conv_bytes (P := Try.prog) (w := w4) Try.underlying23 Try.underlying5 Try.underlying9 hB c
    rw [M.be_len] at hcv
    have Hb4 := Lib.hid hb4
    clear hB hb4 hown
    generalize hstr : strOf (M.be 1 V) = str at *
    have Hstr := Lib.hid hstr; clear hstr
    go_wp2_with fail
    go_ret
    exact ⟨by rw [Hto.out, if_neg (by decide), Hstr.out]; rfl, by rw [Hak.out, if_neg (by decide)]; exact HT.out.1.below Hb4.out, grown_trans (grown_of_below Hbw.out (Nat.le_refl _) _) (grown_trans HT.out.2 (grown_of_below Hb4.out (Nat.le_refl _) _))⟩
  · go_enter Try.func19, Try.ntmps19
    go_wp2_with fail
    refine (Hw.out _).mono ?_; rintro e w1 ⟨rfl, hb1⟩
    have hbw : Below w.heap.size w w1 := ((Below.refl _ _).alloc (Nat.le_refl _) _).trans (hb1.mono (by simp))
    have hcall := rshort_any g ys sp w1 (HR.out.below hbw) hy
    have hvl : M.val (M.out (2 : Nat) ys sp) < 65536 := M.val_out_lt 2 ys sp hyb
    have Hcall := Lib.hid hcall; have Hbw := Lib.hid hbw
    clear hcall hbw hb1
    generalize M.val (M.out (2 : Nat) ys sp) = V at *
    go_wp2_with fail
    refine (Hcall.out).mono ?_; rintro e w3 ⟨rfl, h1, h2⟩
    have hrb := refBytes_any 2 V w3 (by omega) (by omega)
    have Hrb := Lib.hid hrb; clear hrb
    have HT := Lib.hid (And.intro h1 h2); clear h1 h2
    go_wp2_with fail
    refine (Hrb.out).mono ?_; rintro e w4 ⟨v, rfl, hown, hb4⟩
    dsimp only
    obtain ⟨A, c, hv, hB, -⟩ := Bytes.of_own hown (M.be_lt 2 V)
    rw [M.be_len] at hv
    subst hv
    have hcv := conv_bytes (P := Try.prog) (w := w4) Try.underlying23 Try.underlying5 Try.underlying9 hB c
    rw [M.be_len] at hcv
    have Hb4 := Lib.hid hb4
    clear hB hb4 hown
    generalize hstr : strOf (M.be 2 V) = str at *
    have Hstr := Lib.hid hstr; clear hstr
    go_wp2_with fail
    go_ret
    exact ⟨by rw [Hto.out, if_neg (by decide), Hstr.out]; rfl, by rw [Hak.out, if_neg (by decide)]; exact HT.out.1.below Hb4.out, grown_trans (grown_of_below Hbw.out (Nat.le_refl _) _) (grown_trans HT.out.2 (grown_of_below Hb4.out (Nat.le_refl _) _))⟩
  · go_enter Try.func19, Try.ntmps19
    go_wp2_with fail
    refine (Hw.out _).mono ?_; rintro e w1 ⟨rfl, hb1⟩
    have hbw : Below w.heap.size w w1 := ((Below.refl _ _).alloc (Nat.le_refl _) _).trans (hb1.mono (by simp))
    have hcall := rword_any g ys sp w1 (HR.out.below hbw) hy
    have hvl : M.val (M.out (4 : Nat) ys sp) < 4294967296 := M.val_out_lt 4 ys sp hyb
    have Hcall := Lib.hid hcall; have Hbw := Lib.hid hbw
    clear hcall hbw hb1
    generalize M.val (M.out (4 : Nat) ys sp) = V at *
    go_wp2_with fail
    refine (Hcall.out).mono ?_; rintro e w3 ⟨rfl, h1, h2⟩
    have hrb := refBytes_any 4 V w3 (by omega) (by omega)
    have Hrb := Lib.hid hrb; clear hrb
    have HT := Lib.hid (And.intro h1 h2); clear h1 h2
    go_wp2_with fail
    refine (Hrb.out).mono ?_; rintro e w4 ⟨v, rfl, hown, hb4⟩
    dsimp only
    obtain ⟨A, c, hv, hB, -⟩ := Bytes.of_own hown (M.be_lt 4 V)
    rw [M.be_len] at hv
    subst hv
    have hcv := conv_bytes (P := Try.prog) (w := w4) Try.underlying23 Try.underlying5 Try.underlying9 hB c
    rw [M.be_len] at hcv
    have Hb4 := Lib.hid hb4
    clear hB hb4 hown
    generalize hstr : strOf (M.be 4 V) = str at *
    have Hstr := Lib.hid hstr; clear hstr
    go_wp2_with fail
    go_ret
    exact ⟨by rw [Hto.out, if_neg (by decide), Hstr.out]; rfl, by rw [Hak.out, if_neg (by decide)]; exact HT.out.1.below Hb4.out, grown_trans (grown_of_below Hbw.out (Nat.le_refl _) _) (grown_trans HT.out.2 (grown_of_below Hb4.out (Nat.le_refl _) _))⟩
  · go_enter Try.func19, Try.ntmps19
    go_wp2_with fail
    refine (Hw.out _).mono ?_; rintro e w1 ⟨rfl, hb1⟩
    have hbw : Below w.heap.size w w1 := ((Below.refl _ _).alloc (Nat.le_refl _) _).trans (hb1.mono (by simp))
    have hcall := rlong_any g ys sp w1 (HR.out.below hbw) hy
    have hvl : M.val (M.out (8 : Nat) ys sp) < 18446744073709551616 := M.val_out_lt 8 ys sp hyb
    have Hcall := Lib.hid hcall; have Hbw := Lib.hid hbw
    clear hcall hbw hb1
    generalize M.val (M.out (8 : Nat) ys sp) = V at *
    go_wp2_with fail
    refine (Hcall.out).mono ?_; rintro e w3 ⟨rfl, h1, h2⟩
    have hrb := refBytes_any 8 V w3 (by omega) (by omega)
    have Hrb := Lib.hid hrb; clear hrb
    have HT := Lib.hid (And.intro h1 h2); clear h1 h2
    go_wp2_with fail
    refine (Hrb.out).mono ?_; rintro e w4 ⟨v, rfl, hown, hb4⟩
    dsimp only
    obtain ⟨A, c, hv, hB, -⟩ := Bytes.of_own hown (M.be_lt 8 V)
    rw [M.be_len] at hv
    subst hv
    have hcv := conv_bytes (P := Try.prog) (w := w4) Try.underlying23 Try.underlying5 Try.underlying9 hB c
    rw [M.be_len] at hcv
    have Hb4 := Lib.hid hb4
    clear hB hb4 hown
    generalize hstr : strOf (M.be 8 V) = str at *
    have Hstr := Lib.hid hstr; clear hstr
    go_wp2_with fail
    go_ret
    exact ⟨by rw [Hto.out, if_neg (by decide), Hstr.out]; rfl, by rw [Hak.out, if_neg (by decide)]; exact HT.out.1.below Hb4.out, grown_trans (grown_of_below Hbw.out (Nat.le_refl _) _) (grown_trans HT.out.2 (grown_of_below Hb4.out (Nat.le_refl _) _))⟩
end Go.Proofs.Ytmliiglhglhjkaa
