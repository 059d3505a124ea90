/- The Reader's calls. -/
import Derived.Test.YtmliiglhglhjkaaOut
import Derived.WalkSpells
namespace Go.Proofs.Ytmliiglhglhjkaa
open Go.ChangeShapes Go.WideShapes Go.ChangeAt Go.RowKit Go.BigFrame
set_option linter.unusedVariables false

/-- bytes of the call's own: from block B on -/
def Own (w : World) (B : Nat) (v : Value) (xs : List Nat) : Prop := ∃ A c, v = .slice A xs.length c ∧ Bytes w A xs ∧ xs.length ≤ c ∧ c ≤ maxLen ∧ (A = none → c = 0) ∧ (∀ ad, A = some ad → B ≤ ad.block ∧ ad.block < w.heap.size ∧ ∃ L, ad = ⟨ad.block, 0, none⟩ ∧ Row w ad.block 5 L)
theorem Own.of_own {w : World} {base : Nat} {v : Value} {n : Nat} {xs : List Nat} (h : w.ownsRow base 5 1 v n (u8s xs)) (hx : ∀ x ∈ xs, x < 256) : Own w base v xs := by
  obtain ⟨A, c, rfl, hB, hn⟩ := Bytes.of_own h hx
  obtain ⟨_, ⟨he, h0⟩ | ⟨g, cap, cur, he, hg, hh, hnc, hcm, _⟩⟩ := h
  · injection he with h1 h2 h3; subst h1; subst h3
    exact ⟨none, 0, rfl, hB, by omega, by simp, by simp, by simp⟩
  · injection he with h1 h2 h3; subst h1; subst h3
    exact ⟨_, c, rfl, hB, by omega, hcm, by simp, by rintro ad ⟨⟩; exact ⟨hg, (Array.getElem?_eq_some_iff.1 hh).1, cur.toList, rfl, by unfold Row; simpa using hh⟩⟩

theorem clone_any (A : Option Addr) (c : Nat) (xs : List Nat) (w : World) (hB : Bytes w A xs) (hl : xs.length ≤ 100000) (hc : xs.length ≤ c) (hA : A = none → c = 0) :
    Calls Try.prog 28 #[.slice A xs.length c] w fun e w' => ∃ v, e = .returned v ∧ Own w' w.heap.size v xs ∧ Below w.heap.size w w' := by
  obtain ⟨i0, hi, hz0, hz1, hz2⟩ := info_parts Try.infoByte
  cases A with
  | none =>
    obtain rfl := hA rfl
    have hx0 : xs = [] := List.eq_nil_of_length_eq_zero (by omega)
    subst hx0
    have hnil := fun w' => Lib.run_eql_slice_nil (P := Try.prog) w' 23 5 none 0 0 0 0 Try.underlying23
    go_enter Try.func28, Try.ntmps28
    go_wp2_with fail
    go_ret
    exact ⟨_, rfl, ⟨none, 0, rfl, hB, by simp, by simp, by simp, by simp⟩, Below.refl _ _⟩
  | some ad =>
    have hown0 := World.ownsRow_made (base := w.heap.size) (e := 5) (size := 1) w #[] 0 (Nat.le_refl _) (by unfold maxLen; omega) rfl
    have hB0 : Bytes (w.alloc (.cells #[] 5)) (some ad) xs := hB.below ((Below.refl _ _).alloc (Nat.le_refl _) _)
    have hnil := fun w' => Lib.run_eql_slice_nil (P := Try.prog) w' 23 5 (some ad) xs.length c 0 0 Try.underlying23
    go_enter Try.func28, Try.ntmps28
    go_wp2_with (at_builtin; refine wpList_append_bytes rfl _ _ 23 rfl w.heap.size 5 i0 (.int .u8 0) Try.underlying23 hi hz0 hz1 hz2 rfl _ 0 [] rfl hown0 (some ad) c xs rfl hB0 (by simp) (by omega) (by simp) ?_)
    intro v' w1 hown hgr
    have hb1 : Below w.heap.size w w1 := ((Below.refl _ _).alloc (Nat.le_refl _) _).grown hgr (by simp) (by intro k h; simp [Value.ownBlock] at h; omega)
    have hv := Own.of_own hown (by simpa using hB.1)
    have H := Lib.hid (And.intro hv hb1)
    clear hown hgr hown0 hB0 hi hz0 hz1 hz2 hb1 hv
    go_wp2_with fail
    go_ret
    exact ⟨_, rfl, H.out⟩

theorem open_any (A : Option Addr) (c : Nat) (xs : List Nat) (w : World) (hB : Bytes w A xs) (hl : xs.length ≤ 100000) (hc : xs.length ≤ c) (hA : A = none → c = 0) :
    Calls Try.prog 15 #[.slice A xs.length c] w fun e w' => ∃ g, e = .returned (.pointer (some ⟨g, 0, none⟩)) ∧ w.heap.size ≤ g ∧ IsReader w' g xs false ∧ Below w.heap.size w w' := by
  go_enter Try.func15, Try.ntmps15
  go_wp2_with fail
  refine (clone_any _ _ _ _ hB hl hc hA).mono ?_; rintro e w1 ⟨v, rfl, hv, hb⟩
  dsimp only
  obtain ⟨A', c', rfl, hB', hc1, hc2, hA1, hA2⟩ := hv
  go_wp2_with fail
  go_ret
  refine ⟨_, rfl, hb.size, ⟨A', c', Row.made _ _ _, hB'.below ((Below.refl _ _).alloc (Nat.le_refl _) _), hc1, by unfold maxLen at hc2; exact hc2, hA1, fun ad he => ?_, by simp⟩, hb.alloc hb.size _⟩
  have := (hA2 ad he).2.1
  show ad.block < w1.heap.size
  omega

theorem bad_any (g : Nat) (ys : List Nat) (sp : Bool) (w : World) (hR : IsReader w g ys sp) :
    Calls Try.prog 21 #[.pointer (some ⟨g, 0, none⟩)] w fun e w' => e = .returned (.bool sp) ∧ w = w' := by
  obtain ⟨A, c, hR, _⟩ := hR
  have h1 := hR.cell 1
  simp only [List.getElem?_cons_succ, List.getElem?_cons_zero] at h1
  go_enter Try.func21, Try.ntmps21
  go_wp2_with fail
  go_ret
  exact ⟨rfl, rfl⟩
theorem left_any (g : Nat) (ys : List Nat) (sp : Bool) (w : World) (hR : IsReader w g ys sp) :
    Calls Try.prog 20 #[.pointer (some ⟨g, 0, none⟩)] w fun e w' => e = .returned (.int .i64 (ys.length : Nat)) ∧ w = w' := by
  obtain ⟨A, c, hR, _⟩ := hR
  have h1 := hR.cell 0
  simp only [List.getElem?_cons_zero] at h1
  go_enter Try.func20, Try.ntmps20
  go_wp2_with fail
  go_ret
  exact ⟨rfl, rfl⟩

/-- what next tells: the next k bytes, or nothing -/
theorem next_spoilt (g : Nat) (ys : List Nat) (n : Int) (w : World) (hR : IsReader w g ys true) :
    Calls Try.prog 29 #[.pointer (some ⟨g, 0, none⟩), .int .i64 n] w fun e w' => e = .returned (.slice none 0 0) ∧ w = w' := by
  have hb := bad_any g ys true w hR
  have Hb := Lib.hid hb; clear hb
  go_enter Try.func29, Try.ntmps29
  go_wp2_with fail
  refine (Hb.out).mono ?_; rintro e w1 ⟨rfl, rfl⟩
  go_wp2_with fail
  go_ret
  exact ⟨rfl, rfl⟩
theorem next_out (g : Nat) (ys : List Nat) (n : Int) (w : World) (hR : IsReader w g ys false) (hn : n < 0 ∨ (ys.length : Int) < n) (hy : ys.length ≤ 9223372036854775807) :
    Calls Try.prog 29 #[.pointer (some ⟨g, 0, none⟩), .int .i64 n] w fun e w' => e = .returned (.slice none 0 0) ∧ IsReader w' g [] true ∧ w.grownBy w' (some g) := by
  have hb := bad_any g ys false w hR
  have Hb := Lib.hid hb; clear hb
  obtain ⟨A, c, hR, hB, h1, h2, h3, h4, h5⟩ := hR
  have hc0 := hR.cell 0
  have hc1 := hR.cell 1
  simp only [List.getElem?_cons_succ, List.getElem?_cons_zero] at hc0 hc1
  have hf0 := hR.free 0
  have hf1 := hR.free 1
  have hr2 := (hR.put 0 (.slice none 0 0)).put 1 (.bool true)
  have hg2 := grown_trans (grown_setCell w ⟨g, 0, none⟩ (.slice none 0 0)) (grown_setCell (w.setCell ⟨g, 0, none⟩ (.slice none 0 0)) ⟨g, 1, none⟩ (.bool true))
  have H := Lib.hid (And.intro hr2 hg2); clear hr2 hg2
  by_cases hneg : n < 0
  · have ht : decide (n < 0) = true := by simpa using hneg
    go_enter Try.func29, Try.ntmps29
    go_wp2_with fail
    refine (Hb.out).mono ?_; rintro e w1 ⟨rfl, rfl⟩
    go_wp2_with fail
    go_ret
    exact ⟨rfl, ⟨none, 0, H.out.1, ⟨by simp, by simp⟩, by simp, by simp, by simp, by simp, by simp⟩, H.out.2⟩
  · have ht : decide (n < 0) = false := by simpa using hneg
    have ht2 : decide ((ys.length : Int) < n) = true := by simp; omega
    go_enter Try.func29, Try.ntmps29
    go_wp2_with fail
    refine (Hb.out).mono ?_; rintro e w1 ⟨rfl, rfl⟩
    go_wp2_with fail
    go_ret
    exact ⟨rfl, ⟨none, 0, H.out.1, ⟨by simp, by simp⟩, by simp, by simp, by simp, by simp, by simp⟩, H.out.2⟩
theorem next_in (g : Nat) (ys : List Nat) (k : Nat) (w : World) (hR : IsReader w g ys false) (hk : k ≤ ys.length) :
    Calls Try.prog 29 #[.pointer (some ⟨g, 0, none⟩), .int .i64 (k : Nat)] w fun e w' => ∃ A, e = .returned (.slice A k k) ∧ Bytes w' A (ys.take k) ∧ (A = none → k = 0) ∧ (∀ ad, A = some ad → ad.block < g) ∧ IsReader w' g (ys.drop k) false ∧ w.grownBy w' (some g) := by
  have hb := bad_any g ys false w hR
  have Hb := Lib.hid hb; clear hb
  obtain ⟨A, c, hR, hB, h1, h2, h3, h4, h5⟩ := hR
  have hc0 := hR.cell 0
  simp only [List.getElem?_cons_zero] at hc0
  have hf0 := hR.free 0
  have ht : decide ((k : Int) < 0) = false := by simp
  have ht2 : decide ((ys.length : Int) < (k : Int)) = false := by simp; omega
  obtain ⟨A2, hA2⟩ : ∃ A2, A2 = (if c = k then A else A.map (·.add k)) := ⟨_, rfl⟩
  have hs1 : ∀ w' : World, (Instr.sliceAt 23 (.slice A ys.length c) none (some (.int .i64 (k : Nat))) (some (.int .i64 (k : Nat)))).run Try.prog w' = .ok (.slice A k k) w' := by
    intro w'
    have h5 : (sizeOf (Try.prog.elem 23)).run Try.prog w' = .ok 1 w' := by kernel_rfl
    rw [run_sliceAt_slice (P := Try.prog) (h := by kernel_rfl), run_slice_hm (P := Try.prog) (ht := by kernel_rfl) _ _ _ _ _ _ _ _ _ (by omega) (by omega) (by omega), h5]
    simp only [Result.andThen_ok, sliced, Int.toNat_natCast]
    cases A <;> simp [Addr.add]
  have hs2 : ∀ w' : World, (Instr.sliceAt 23 (.slice A ys.length c) (some (.int .i64 (k : Nat))) none none).run Try.prog w' = .ok (.slice A2 (ys.length - k) (c - k)) w' := by
    intro w'
    have h5 : (sizeOf (Try.prog.elem 23)).run Try.prog w' = .ok 1 w' := by kernel_rfl
    rw [run_sliceAt_slice (P := Try.prog) (h := by kernel_rfl), run_slice_l (P := Try.prog) (ht := by kernel_rfl) _ _ _ _ _ _ _ (by omega) (by omega), h5]
    simp [Result.andThen_ok, sliced, hA2]
  have hr2 := hR.put 0 (.slice A2 (ys.length - k) (c - k))
  have hg2 := grown_setCell w ⟨g, 0, none⟩ (.slice A2 (ys.length - k) (c - k))
  have hB2 := hB.grown hg2 (fun ad he => by have := h4 ad he; intro e; injection e with e; simp only at e; omega)
  have H := Lib.hid (And.intro hr2 (And.intro hg2 hB2)); clear hr2 hg2 hB2
  have HA2 := Lib.hid hA2; clear hA2
  go_enter Try.func29, Try.ntmps29
  go_wp2_with fail
  refine (Hb.out).mono ?_; rintro e w1 ⟨rfl, rfl⟩
  go_wp2_with fail
  go_ret
  refine ⟨A, rfl, H.out.2.2.take k, fun he => by have := h3 he; omega, h4, ?_, H.out.2.1⟩
  refine ⟨A2, c - k, by simpa using H.out.1, ?_, by simp; omega, by omega, ?_, ?_, by simp⟩
  · refine H.out.2.2.cut k ?_
    intro hlt
    rw [HA2.out, if_neg (by omega)]
  · intro he
    rw [HA2.out] at he
    split at he
    · omega
    · cases A with
      | none => have := h3 rfl; omega
      | some ad => simp at he
  · intro ad he
    rw [HA2.out] at he
    split at he
    · exact h4 ad he
    · cases A with
      | none => simp at he
      | some ad0 => simp at he; subst he; rw [add_block]; exact h4 ad0 rfl
end Go.Proofs.Ytmliiglhglhjkaa
