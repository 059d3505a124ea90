/- ValueOrder: Compare is an order of all records; sorted rows rise. -/
import Derived.Test.YtcdofkhkckodjaaVrWorks
import Derived.SizedLaws
namespace Go.Proofs.Ytcdofkhkckodjaa
open Go.ChangeShapes Go.WideShapes Go.ChangeAt Go.RowKit Go.BigFrame
open Vr
set_option linter.unusedVariables false
set_option maxRecDepth 100000
namespace valueOrder
theorem C_three (a b : Rd) : a.C b = 1 ∨ a.C b = -1 ∨ a.C b = 0 := by
  unfold Rd.C
  split
  · exact .inr (.inl rfl)
  · split
    · exact .inr (.inr rfl)
    · exact .inl rfl
theorem C_lt {a b c : Rd} (h : a.C b ≤ 0) (k : b.C c ≤ 0) (n : ¬ (a.C b = 0 ∧ b.C c = 0)) : a.C c = -1 := by
  have h1 : a.C c ≤ 0 := Rd.C_le.2 (Rd.Le_trans (Rd.C_le.1 h) (Rd.C_le.1 k))
  rcases C_three a c with h2 | h2 | h2
  · omega
  · exact h2
  · exfalso
    have e := Rd.C_zero.1 h2
    subst e
    have := Rd.C_swap (a := b) (b := a)
    omega
theorem cmp_is {a b : Rd} {n : Int} (h : a.C b = n) (w : World) : Calls Try.prog 19 #[a.val, b.val] w fun e w' => e = .returned (.int .i64 n) ∧ Below w.heap.size w w' := by
  rw [← h]; exact compare_any a b w
theorem ts_of {w : World} {A : Option Addr} {c : Nat} {l : List Rd} (h : RowV w (.slice A l.length c) l) : Rw.Ts kindR w A l := by
  obtain ⟨A', c', e, hT, _⟩ := h
  cases e; exact hT
theorem rises {s : List Rd} {k : Nat} {x y : Rd} (h : s.Pairwise Rd.Le) (hx : s[k]? = some x) (hy : s[k + 1]? = some y) : x.C y ≤ 0 := by
  obtain ⟨h1, rfl⟩ := List.getElem?_eq_some_iff.1 hx
  obtain ⟨h2, rfl⟩ := List.getElem?_eq_some_iff.1 hy
  exact Rd.C_le.2 (List.pairwise_iff_getElem.1 h k (k + 1) h1 h2 (by omega))
set_option maxHeartbeats 16000000 in
theorem walk (a b c : Rd) (A : Option Addr) (l : List Rd) (d : Nat) (w : World) (hA : RowV w (.slice A l.length d) l) :
    Calls Try.prog 6 #[a.val, b.val, c.val, .slice A l.length d] w fun e w' => e = .returned (.bool true) ∧ Below w.heap.size w w' := by
  have HA := Lib.hid hA; clear hA
  go_enter Try.func6, Try.ntmps6
  go_upto_region 1 with fail
  have h1 : Row ((((w).alloc (.cells #[.int .i64 a.k, .int .i64 a.v] 32)).alloc (.cells #[.int .i64 b.k, .int .i64 b.v] 32)).alloc (.cells #[.int .i64 c.k, .int .i64 c.v] 32)) w.heap.size 32 [.int .i64 a.k, .int .i64 a.v] := ((Row.made w 32 [.int .i64 a.k, .int .i64 a.v]).alloc (.cells #[.int .i64 b.k, .int .i64 b.v] 32)).alloc (.cells #[.int .i64 c.k, .int .i64 c.v] 32)
  have h2 : Row ((((w).alloc (.cells #[.int .i64 a.k, .int .i64 a.v] 32)).alloc (.cells #[.int .i64 b.k, .int .i64 b.v] 32)).alloc (.cells #[.int .i64 c.k, .int .i64 c.v] 32)) (w.heap.size + 1) 32 [.int .i64 b.k, .int .i64 b.v] := by
    have h := (Row.made ((w).alloc (.cells #[.int .i64 a.k, .int .i64 a.v] 32)) 32 [.int .i64 b.k, .int .i64 b.v]).alloc (.cells #[.int .i64 c.k, .int .i64 c.v] 32)
    rw [World.size_alloc] at h
    exact h
  have h3 : Row ((((w).alloc (.cells #[.int .i64 a.k, .int .i64 a.v] 32)).alloc (.cells #[.int .i64 b.k, .int .i64 b.v] 32)).alloc (.cells #[.int .i64 c.k, .int .i64 c.v] 32)) (w.heap.size + 1 + 1) 32 [.int .i64 c.k, .int .i64 c.v] := by
    have h := Row.made (((w).alloc (.cells #[.int .i64 a.k, .int .i64 a.v] 32)).alloc (.cells #[.int .i64 b.k, .int .i64 b.v] 32)) 32 [.int .i64 c.k, .int .i64 c.v]
    rw [World.size_alloc, World.size_alloc] at h
    exact h
  have hb : Below w.heap.size w ((((w).alloc (.cells #[.int .i64 a.k, .int .i64 a.v] 32)).alloc (.cells #[.int .i64 b.k, .int .i64 b.v] 32)).alloc (.cells #[.int .i64 c.k, .int .i64 c.v] 32)) := (((Below.refl _ w).alloc (Nat.le_refl _) _).alloc (by simp) _).alloc (by simp; omega) _
  obtain ⟨w3, hw3⟩ : ∃ w3, (((w).alloc (.cells #[.int .i64 a.k, .int .i64 a.v] 32)).alloc (.cells #[.int .i64 b.k, .int .i64 b.v] 32)).alloc (.cells #[.int .i64 c.k, .int .i64 c.v] 32) = w3 := ⟨_, rfl⟩
  rw [hw3] at h1 h2 h3 hb ⊢
  clear hw3
  have HL1 := Lib.hid (load_box (r := a) h1); have HL2 := Lib.hid (load_box (r := b) h2); have HL3 := Lib.hid (load_box (r := c) h3)
  have h := HA.out.below hb; clear HA; have HA := Lib.hid h; clear h
  have Hb := Lib.hid hb; clear hb h1 h2 h3
  by_cases hl : 100 < l.length
  · have h1z : (100 : Int) < (l.length : Int) := by omega
    have d1 : decide ((100 : Int) < (l.length : Int)) = true := by simp; omega
    have hc := works_any w3
    have HC := Lib.hid hc; clear hc
    go_wp2_with fail
    refine HC.out.mono ?_; rintro e w4 ⟨rfl, hb0⟩
    clear HC
    have hb := hb0
    clear hb0
    have h := HA.out.below hb; clear HA; have HA := Lib.hid h; clear h
    have h := Hb.out.trans (hb.mono Hb.out.size); clear Hb hb; have Hb := Lib.hid h; clear h
    dsimp only
    go_wp2_with fail
    go_ret
    exact ⟨rfl, Hb.out⟩
  · have h1z : ¬ (100 : Int) < (l.length : Int) := by omega
    have d1 : decide ((100 : Int) < (l.length : Int)) = false := by simp; omega
    have hl100 : l.length ≤ 100 := by omega
    clear hl
    have HSS := Lib.hid (sortR_sort (l := l)); have HSL := Lib.hid (sortR_perm (l := l)).length_eq
    have HSO := Lib.hid (fun (w : World) (v : Value) (h : RowV w v l) => sorted_v h (by omega))
    generalize sortR l = s at *
    have hsl : s.length ≤ 100 := by have := HSL.out; omega
    rcases C_three a b with hab | hab | hab
    · have he : eqB a b = false := eqB_no (fun e => by have := Rd.C_zero.2 e; omega)
      have hba : b.C a = -1 := by have := Rd.C_swap (a := a) (b := b); omega
      have HAB := Lib.hid hab; have HBA := Lib.hid hba; clear hab hba
      have wr1 : IntKind.i64.wrap 1 = 1 := by decide
      have wr2 : IntKind.i64.wrap (-1) = -1 := by decide
      have wr3 : IntKind.i64.wrap 0 = 0 := by decide
      go_wp2_with fail
      refine wp_region_below (by kernel_rfl) (by kernel_rfl) ?_
      refine wpQuiet_step (fun K hK => ?_); refine q_load (p := .pointer (some ⟨w.heap.size, 0, none⟩)) 32 _ rfl rfl rfl (HL1.out) ?_; go_simp; (with_reducible refine hK _ ?_); clear hK K
      refine wpQuiet_step (fun K hK => ?_); refine q_load (p := .pointer (some ⟨w.heap.size + 1, 0, none⟩)) 32 _ rfl rfl rfl (HL2.out) ?_; go_simp; (with_reducible refine hK _ ?_); clear hK K
      refine wpQuiet_step (fun K hK => ?_); go_simp; (with_reducible refine ⟨_, fun _ hb => (cmp_is HAB.out _).mono fun _ _ h => ⟨h.1, hb.trans (h.2.mono (by simpa using hb.size))⟩, hK _ ?_⟩); clear hK K
      refine wpQuiet_step (fun K hK => ?_); refine q_load (p := .pointer (some ⟨w.heap.size + 1, 0, none⟩)) 32 _ rfl rfl rfl (HL2.out) ?_; go_simp; (with_reducible refine hK _ ?_); clear hK K
      refine wpQuiet_step (fun K hK => ?_); refine q_load (p := .pointer (some ⟨w.heap.size, 0, none⟩)) 32 _ rfl rfl rfl (HL1.out) ?_; go_simp; (with_reducible refine hK _ ?_); clear hK K
      refine wpQuiet_step (fun K hK => ?_); go_simp; (with_reducible refine ⟨_, fun _ hb => (cmp_is HBA.out _).mono fun _ _ h => ⟨h.1, hb.trans (h.2.mono (by simpa using hb.size))⟩, hK _ ?_⟩); clear hK K
      refine wpQuiet_step (fun K hK => ?_); go_simp; (first | (with_reducible refine hK _ ?_) | (with_reducible refine ⟨_, fun _ _ => rfl, hK _ ?_⟩)); clear hK K
      refine wpQuiet_step (fun K hK => ?_); go_simp; (first | (with_reducible refine hK _ ?_) | (with_reducible refine ⟨_, fun _ _ => rfl, hK _ ?_⟩)); clear hK K
      refine wpQuiet_step (fun K hK => ?_); go_simp; (first | (with_reducible refine hK _ ?_) | (with_reducible refine ⟨_, fun _ _ => rfl, hK _ ?_⟩)); clear hK K
      refine wpQuiet_step (fun K hK => ?_); refine q_load (p := .pointer (some ⟨w.heap.size, 0, none⟩)) 32 _ rfl rfl rfl (HL1.out) ?_; go_simp; (with_reducible refine hK _ ?_); clear hK K
      refine wpQuiet_step (fun K hK => ?_); refine q_load (p := .pointer (some ⟨w.heap.size + 1, 0, none⟩)) 32 _ rfl rfl rfl (HL2.out) ?_; go_simp; (with_reducible refine hK _ ?_); clear hK K
      refine wpQuiet_step (fun K hK => ?_); go_simp; (with_reducible refine ⟨_, fun _ hb => (cmp_is HAB.out _).mono fun _ _ h => ⟨h.1, hb.trans (h.2.mono (by simpa using hb.size))⟩, hK _ ?_⟩); clear hK K
      refine wpQuiet_step (fun K hK => ?_); go_simp; (first | (with_reducible refine hK _ ?_) | (with_reducible refine ⟨_, fun _ _ => rfl, hK _ ?_⟩)); clear hK K
      refine wpQuiet_step (fun K hK => ?_); refine q_load (p := .pointer (some ⟨w.heap.size, 0, none⟩)) 32 _ rfl rfl rfl (HL1.out) ?_; go_simp; (with_reducible refine hK _ ?_); clear hK K
      refine wpQuiet_step (fun K hK => ?_); refine q_load (p := .pointer (some ⟨w.heap.size + 1, 0, none⟩)) 32 _ rfl rfl rfl (HL2.out) ?_; go_simp; (with_reducible refine hK _ ?_); clear hK K
      refine wpQuiet_step (fun K hK => ?_); refine q_bin _ _ _ _ _ rfl rfl rfl rfl (eq_r _ _ a b) ?_; go_simp; (with_reducible refine hK _ ?_); clear hK K
      refine wpQuiet_step (fun K hK => ?_); go_simp; (first | (with_reducible refine hK _ ?_) | (with_reducible refine ⟨_, fun _ _ => rfl, hK _ ?_⟩)); clear hK K
      refine wpQuiet_step (fun K hK => ?_); go_simp; (first | (with_reducible refine hK _ ?_) | (with_reducible refine ⟨_, fun _ _ => rfl, hK _ ?_⟩)); clear hK K
      refine wpQuiet_step (fun K hK => ?_); go_simp; (first | (with_reducible refine hK _ ?_) | (with_reducible refine ⟨_, fun _ _ => rfl, hK _ ?_⟩)); clear hK K
      refine wpQuiet_step (fun K hK => ?_); refine q_load (p := .pointer (some ⟨w.heap.size, 0, none⟩)) 32 _ rfl rfl rfl (HL1.out) ?_; go_simp; (with_reducible refine hK _ ?_); clear hK K
      refine wpQuiet_step (fun K hK => ?_); refine q_load (p := .pointer (some ⟨w.heap.size + 1, 0, none⟩)) 32 _ rfl rfl rfl (HL2.out) ?_; go_simp; (with_reducible refine hK _ ?_); clear hK K
      refine wpQuiet_step (fun K hK => ?_); go_simp; (with_reducible refine ⟨_, fun _ hb => (cmp_is HAB.out _).mono fun _ _ h => ⟨h.1, hb.trans (h.2.mono (by simpa using hb.size))⟩, hK _ ?_⟩); clear hK K
      refine wpQuiet_step (fun K hK => ?_); go_simp; (first | (with_reducible refine hK _ ?_) | (with_reducible refine ⟨_, fun _ _ => rfl, hK _ ?_⟩)); clear hK K
      refine wpQuiet_step (fun K hK => ?_); go_simp; (first | (with_reducible refine hK _ ?_) | (with_reducible refine ⟨_, fun _ _ => rfl, hK _ ?_⟩)); clear hK K
      refine wpQuiet_step (fun K hK => ?_); go_simp; (try (with_reducible refine ⟨_, fun _ _ => rfl, ?_⟩)); generalize hA : ({ tmps := _, defers := _ } : Act) = A; (with_reducible refine hK A ?_); clear hK K
      refine wpQuiet_step (fun K hK => ?_); subst hA; go_simp; (try (with_reducible refine ⟨_, fun _ _ => rfl, ?_⟩)); generalize hA : ({ tmps := _, defers := _ } : Act) = A; (with_reducible refine hK A ?_); clear hK K
      refine wpQuiet_step (fun K hK => ?_); subst hA; go_simp; (try (with_reducible refine ⟨_, fun _ _ => rfl, ?_⟩)); generalize hA : ({ tmps := _, defers := _ } : Act) = A; (with_reducible refine hK A ?_); clear hK K
      refine wpQuiet_step (fun K hK => ?_); subst hA; go_simp; (try (with_reducible refine ⟨_, fun _ _ => rfl, ?_⟩)); generalize hA : ({ tmps := _, defers := _ } : Act) = A; (with_reducible refine hK A ?_); clear hK K
      refine wpQuiet_step (fun K hK => ?_); subst hA; go_simp; (try (with_reducible refine ⟨_, fun _ _ => rfl, ?_⟩)); generalize hA : ({ tmps := _, defers := _ } : Act) = A; (with_reducible refine hK A ?_); clear hK K
      refine wpQuiet_step (fun K hK => ?_); subst hA; go_simp; (try (with_reducible refine ⟨_, fun _ _ => rfl, ?_⟩)); generalize hA : ({ tmps := _, defers := _ } : Act) = A; (with_reducible refine hK A ?_); clear hK K
      refine wpQuiet_step (fun K hK => ?_); subst hA; go_simp; (try (with_reducible refine ⟨_, fun _ _ => rfl, ?_⟩)); generalize hA : ({ tmps := _, defers := _ } : Act) = A; (with_reducible refine hK A ?_); clear hK K
      refine wpQuiet_step (fun K hK => ?_); subst hA; go_simp; (try (with_reducible refine ⟨_, fun _ _ => rfl, ?_⟩)); generalize hA : ({ tmps := _, defers := _ } : Act) = A; (with_reducible refine hK A ?_); clear hK K
      refine wpQuiet_step (fun K hK => ?_); subst hA; go_simp; (try (with_reducible refine ⟨_, fun _ _ => rfl, ?_⟩)); generalize hA : ({ tmps := _, defers := _ } : Act) = A; (with_reducible refine hK A ?_); clear hK K
      refine wpQuiet_step (fun K hK => ?_); subst hA; go_simp; (try (with_reducible refine ⟨_, fun _ _ => rfl, ?_⟩)); generalize hA : ({ tmps := _, defers := _ } : Act) = A; (with_reducible refine hK A ?_); clear hK K
      refine wpQuiet_step (fun K hK => ?_); subst hA; go_simp; (try (with_reducible refine ⟨_, fun _ _ => rfl, ?_⟩)); generalize hA : ({ tmps := _, defers := _ } : Act) = A; (with_reducible refine hK A ?_); clear hK K
      refine wpQuiet_step (fun K hK => ?_); subst hA; go_simp; (try (with_reducible refine ⟨_, fun _ _ => rfl, ?_⟩)); generalize hA : ({ tmps := _, defers := _ } : Act) = A; (with_reducible refine hK A ?_); clear hK K
      subst hA
      refine wpQuiet_nil ?_
      intro wy hb
      have h := HA.out.below hb; clear HA; have HA := Lib.hid h; clear h
      have h := Hb.out.trans (hb.mono Hb.out.size); clear Hb hb HL1 HL2 HL3; have Hb := Lib.hid h; clear h
      have hc := HSO.out wy _ HA.out
      have HC := Lib.hid hc; clear hc
      go_wp2_with fail
      refine HC.out.mono ?_; rintro e w5 ⟨⟨v, rfl, hr⟩, hb0⟩
      clear HC
      have hb := hb0
      clear hb0
      have h := HA.out.below hb; clear HA; have HA := Lib.hid h; clear h
      have h := Hb.out.trans (hb.mono Hb.out.size); clear Hb hb; have Hb := Lib.hid h; clear h
      obtain ⟨A1, c1, rfl, z1⟩ := hr
      have H1 := Lib.hid (show RowV w5 (.slice A1 (s : List Rd).length c1) s from ⟨A1, c1, rfl, z1⟩); clear z1
      dsimp only
      have HT1 := Lib.hid (ts_of H1.out)
      clear HA H1 HSO he
      go_wp2_with fail
      go_loopw [10] (fun vi wr => ∃ k : Nat, vi = .int .i64 ((k : Int) + 1) ∧ k ≤ s.length ∧ Below w5.heap.size w5 wr) (fun vi _ => s.length + 1 - (intOf vi).toNat)
      case atStart => exact ⟨0, by simp, by omega, Below.refl _ _⟩
      case round =>
        obtain ⟨k, rfl, hk, hbr⟩ := hrel
        have HBR := Lib.hid hbr; clear hbr
        by_cases hlt : k + 1 < s.length
        · have hltz : (k : Int) + 1 < (s.length : Int) := by omega
          have d2 : decide ((k : Int) + 1 < (s.length : Int)) = true := by simp; omega
          obtain ⟨x, hx⟩ : ∃ x, s[k]? = some x := ⟨_, List.getElem?_eq_getElem (by omega)⟩
          obtain ⟨y, hy⟩ : ∃ y, s[k + 1]? = some y := ⟨_, List.getElem?_eq_getElem hlt⟩
          obtain ⟨n, hn⟩ : ∃ n, x.C y = n := ⟨_, rfl⟩
          have hn0 : n ≤ 0 := by rw [← hn]; exact rises HSS.out hx hy
          have d3 : decide (0 < n) = false := by simp; omega
          have d4 : decide (n > 0) = false := by simp; omega
          have hn1 : ¬ 0 < n := by omega
          have wk : IntKind.i64.wrap (k : Int) = (k : Int) := IntWalk.i64_in _ (by omega)
          have hk1 : (k : Int) < (s.length : Int) := by omega
          have zk : 0 ≤ (k : Int) + 1 := by omega
          have tk : ((k : Int) + 1).toNat = k + 1 := by omega
          obtain ⟨b1, o1, rfl, hb1, hload1⟩ := load_r HT1.out hx
          obtain ⟨b2, o2, e2, _, hload2⟩ := load_r HT1.out hy
          cases e2
          have HX := Lib.hid (fun w' (hb : Below wr.heap.size wr w') => hload1 w' (HBR.out.trans (hb.mono HBR.out.size)))
          have HY := Lib.hid (fun w' (hb : Below wr.heap.size wr w') => hload2 w' (HBR.out.trans (hb.mono HBR.out.size)))
          have HN := Lib.hid hn
          clear hx hy hn hload1 hload2
          go_wp2_with fail
          refine wp_region_below (by kernel_rfl) (by kernel_rfl) ?_
          refine wpQuiet_step (fun K hK => ?_); go_simp; (first | (with_reducible refine hK _ ?_) | (with_reducible refine ⟨_, fun _ _ => rfl, hK _ ?_⟩)); clear hK K
          refine wpQuiet_step (fun K hK => ?_); go_simp; (first | (with_reducible refine hK _ ?_) | (with_reducible refine ⟨_, fun _ _ => rfl, hK _ ?_⟩)); clear hK K
          refine wpQuiet_step (fun K hK => ?_); go_simp; (first | (with_reducible refine hK _ ?_) | (with_reducible refine ⟨_, fun _ _ => rfl, hK _ ?_⟩)); clear hK K
          refine wpQuiet_step (fun K hK => ?_); go_simp; (first | (with_reducible refine hK _ ?_) | (with_reducible refine ⟨_, fun _ _ => rfl, hK _ ?_⟩)); clear hK K
          refine wpQuiet_step (fun K hK => ?_); refine q_load (p := .pointer (some ⟨b1, o1 + k * 2, none⟩)) 32 _ rfl rfl rfl (HX.out) ?_; go_simp; (with_reducible refine hK _ ?_); clear hK K
          refine wpQuiet_step (fun K hK => ?_); go_simp; (first | (with_reducible refine hK _ ?_) | (with_reducible refine ⟨_, fun _ _ => rfl, hK _ ?_⟩)); clear hK K
          refine wpQuiet_step (fun K hK => ?_); go_simp; (first | (with_reducible refine hK _ ?_) | (with_reducible refine ⟨_, fun _ _ => rfl, hK _ ?_⟩)); clear hK K
          refine wpQuiet_step (fun K hK => ?_); go_simp; (first | (with_reducible refine hK _ ?_) | (with_reducible refine ⟨_, fun _ _ => rfl, hK _ ?_⟩)); clear hK K
          refine wpQuiet_step (fun K hK => ?_); refine q_load (p := .pointer (some ⟨b1, o1 + (k + 1) * 2, none⟩)) 32 _ rfl rfl rfl (HY.out) ?_; go_simp; (with_reducible refine hK _ ?_); clear hK K
          refine wpQuiet_step (fun K hK => ?_); go_simp; (with_reducible refine ⟨_, fun _ hb => (cmp_is HN.out _).mono fun _ _ h => ⟨h.1, hb.trans (h.2.mono (by simpa using hb.size))⟩, hK _ ?_⟩); clear hK K
          refine wpQuiet_step (fun K hK => ?_); go_simp; (first | (with_reducible refine hK _ ?_) | (with_reducible refine ⟨_, fun _ _ => rfl, hK _ ?_⟩)); clear hK K
          refine wpQuiet_nil ?_
          intro wz hbz
          have HBZ := Lib.hid hbz; clear hbz
          go_wp2_with fail
          go_roundw
          case rel => exact ⟨k + 1, by simp, by omega, HBR.out.trans (HBZ.out.mono HBR.out.size)⟩
          case measure => simp only [intOf]; omega
        · have hltz : ¬ (k : Int) + 1 < (s.length : Int) := by omega
          have d2 : decide ((k : Int) + 1 < (s.length : Int)) = false := by simp; omega
          have h := Hb.out.trans (HBR.out.mono Hb.out.size); clear Hb; have Hb := Lib.hid h; clear h
          have hc := works_any wr
          have HC := Lib.hid hc; clear hc
          go_wp2_with fail
          refine HC.out.mono ?_; rintro e w10 ⟨rfl, hb0⟩
          clear HC
          have hb := hb0
          clear hb0
          have h := Hb.out.trans (hb.mono Hb.out.size); clear Hb hb; have Hb := Lib.hid h; clear h
          dsimp only
          go_wp2_with fail
          go_ret
          exact ⟨rfl, Hb.out⟩
          rename_i hne; exact absurd (by have := HSL.out; omega) hne
    · rcases C_three b c with hbc | hbc | hbc
      · have he : eqB a b = false := eqB_no (fun e => by have := Rd.C_zero.2 e; omega)
        have hba : b.C a = 1 := by have := Rd.C_swap (a := a) (b := b); omega
        have HAB := Lib.hid hab; have HBA := Lib.hid hba; clear hab hba
        have HBC := Lib.hid hbc; clear hbc
        have wr1 : IntKind.i64.wrap 1 = 1 := by decide
        have wr2 : IntKind.i64.wrap (-1) = -1 := by decide
        have wr3 : IntKind.i64.wrap 0 = 0 := by decide
        go_wp2_with fail
        refine wp_region_below (by kernel_rfl) (by kernel_rfl) ?_
        refine wpQuiet_step (fun K hK => ?_); refine q_load (p := .pointer (some ⟨w.heap.size, 0, none⟩)) 32 _ rfl rfl rfl (HL1.out) ?_; go_simp; (with_reducible refine hK _ ?_); clear hK K
        refine wpQuiet_step (fun K hK => ?_); refine q_load (p := .pointer (some ⟨w.heap.size + 1, 0, none⟩)) 32 _ rfl rfl rfl (HL2.out) ?_; go_simp; (with_reducible refine hK _ ?_); clear hK K
        refine wpQuiet_step (fun K hK => ?_); go_simp; (with_reducible refine ⟨_, fun _ hb => (cmp_is HAB.out _).mono fun _ _ h => ⟨h.1, hb.trans (h.2.mono (by simpa using hb.size))⟩, hK _ ?_⟩); clear hK K
        refine wpQuiet_step (fun K hK => ?_); refine q_load (p := .pointer (some ⟨w.heap.size + 1, 0, none⟩)) 32 _ rfl rfl rfl (HL2.out) ?_; go_simp; (with_reducible refine hK _ ?_); clear hK K
        refine wpQuiet_step (fun K hK => ?_); refine q_load (p := .pointer (some ⟨w.heap.size, 0, none⟩)) 32 _ rfl rfl rfl (HL1.out) ?_; go_simp; (with_reducible refine hK _ ?_); clear hK K
        refine wpQuiet_step (fun K hK => ?_); go_simp; (with_reducible refine ⟨_, fun _ hb => (cmp_is HBA.out _).mono fun _ _ h => ⟨h.1, hb.trans (h.2.mono (by simpa using hb.size))⟩, hK _ ?_⟩); clear hK K
        refine wpQuiet_step (fun K hK => ?_); go_simp; (first | (with_reducible refine hK _ ?_) | (with_reducible refine ⟨_, fun _ _ => rfl, hK _ ?_⟩)); clear hK K
        refine wpQuiet_step (fun K hK => ?_); go_simp; (first | (with_reducible refine hK _ ?_) | (with_reducible refine ⟨_, fun _ _ => rfl, hK _ ?_⟩)); clear hK K
        refine wpQuiet_step (fun K hK => ?_); go_simp; (first | (with_reducible refine hK _ ?_) | (with_reducible refine ⟨_, fun _ _ => rfl, hK _ ?_⟩)); clear hK K
        refine wpQuiet_step (fun K hK => ?_); refine q_load (p := .pointer (some ⟨w.heap.size, 0, none⟩)) 32 _ rfl rfl rfl (HL1.out) ?_; go_simp; (with_reducible refine hK _ ?_); clear hK K
        refine wpQuiet_step (fun K hK => ?_); refine q_load (p := .pointer (some ⟨w.heap.size + 1, 0, none⟩)) 32 _ rfl rfl rfl (HL2.out) ?_; go_simp; (with_reducible refine hK _ ?_); clear hK K
        refine wpQuiet_step (fun K hK => ?_); go_simp; (with_reducible refine ⟨_, fun _ hb => (cmp_is HAB.out _).mono fun _ _ h => ⟨h.1, hb.trans (h.2.mono (by simpa using hb.size))⟩, hK _ ?_⟩); clear hK K
        refine wpQuiet_step (fun K hK => ?_); go_simp; (first | (with_reducible refine hK _ ?_) | (with_reducible refine ⟨_, fun _ _ => rfl, hK _ ?_⟩)); clear hK K
        refine wpQuiet_step (fun K hK => ?_); refine q_load (p := .pointer (some ⟨w.heap.size, 0, none⟩)) 32 _ rfl rfl rfl (HL1.out) ?_; go_simp; (with_reducible refine hK _ ?_); clear hK K
        refine wpQuiet_step (fun K hK => ?_); refine q_load (p := .pointer (some ⟨w.heap.size + 1, 0, none⟩)) 32 _ rfl rfl rfl (HL2.out) ?_; go_simp; (with_reducible refine hK _ ?_); clear hK K
        refine wpQuiet_step (fun K hK => ?_); refine q_bin _ _ _ _ _ rfl rfl rfl rfl (eq_r _ _ a b) ?_; go_simp; (with_reducible refine hK _ ?_); clear hK K
        refine wpQuiet_step (fun K hK => ?_); go_simp; (first | (with_reducible refine hK _ ?_) | (with_reducible refine ⟨_, fun _ _ => rfl, hK _ ?_⟩)); clear hK K
        refine wpQuiet_step (fun K hK => ?_); go_simp; (first | (with_reducible refine hK _ ?_) | (with_reducible refine ⟨_, fun _ _ => rfl, hK _ ?_⟩)); clear hK K
        refine wpQuiet_step (fun K hK => ?_); go_simp; (first | (with_reducible refine hK _ ?_) | (with_reducible refine ⟨_, fun _ _ => rfl, hK _ ?_⟩)); clear hK K
        refine wpQuiet_step (fun K hK => ?_); refine q_load (p := .pointer (some ⟨w.heap.size, 0, none⟩)) 32 _ rfl rfl rfl (HL1.out) ?_; go_simp; (with_reducible refine hK _ ?_); clear hK K
        refine wpQuiet_step (fun K hK => ?_); refine q_load (p := .pointer (some ⟨w.heap.size + 1, 0, none⟩)) 32 _ rfl rfl rfl (HL2.out) ?_; go_simp; (with_reducible refine hK _ ?_); clear hK K
        refine wpQuiet_step (fun K hK => ?_); go_simp; (with_reducible refine ⟨_, fun _ hb => (cmp_is HAB.out _).mono fun _ _ h => ⟨h.1, hb.trans (h.2.mono (by simpa using hb.size))⟩, hK _ ?_⟩); clear hK K
        refine wpQuiet_step (fun K hK => ?_); go_simp; (first | (with_reducible refine hK _ ?_) | (with_reducible refine ⟨_, fun _ _ => rfl, hK _ ?_⟩)); clear hK K
        refine wpQuiet_step (fun K hK => ?_); go_simp; (first | (with_reducible refine hK _ ?_) | (with_reducible refine ⟨_, fun _ _ => rfl, hK _ ?_⟩)); clear hK K
        refine wpQuiet_step (fun K hK => ?_); refine q_load (p := .pointer (some ⟨w.heap.size + 1, 0, none⟩)) 32 _ rfl rfl rfl (HL2.out) ?_; go_simp; (with_reducible refine hK _ ?_); clear hK K
        refine wpQuiet_step (fun K hK => ?_); refine q_load (p := .pointer (some ⟨w.heap.size + 1 + 1, 0, none⟩)) 32 _ rfl rfl rfl (HL3.out) ?_; go_simp; (with_reducible refine hK _ ?_); clear hK K
        refine wpQuiet_step (fun K hK => ?_); go_simp; (with_reducible refine ⟨_, fun _ hb => (cmp_is HBC.out _).mono fun _ _ h => ⟨h.1, hb.trans (h.2.mono (by simpa using hb.size))⟩, hK _ ?_⟩); clear hK K
        refine wpQuiet_step (fun K hK => ?_); go_simp; (first | (with_reducible refine hK _ ?_) | (with_reducible refine ⟨_, fun _ _ => rfl, hK _ ?_⟩)); clear hK K
        refine wpQuiet_step (fun K hK => ?_); go_simp; (first | (with_reducible refine hK _ ?_) | (with_reducible refine ⟨_, fun _ _ => rfl, hK _ ?_⟩)); clear hK K
        refine wpQuiet_step (fun K hK => ?_); go_simp; (first | (with_reducible refine hK _ ?_) | (with_reducible refine ⟨_, fun _ _ => rfl, hK _ ?_⟩)); clear hK K
        refine wpQuiet_step (fun K hK => ?_); go_simp; (try (with_reducible refine ⟨_, fun _ _ => rfl, ?_⟩)); generalize hA : ({ tmps := _, defers := _ } : Act) = A; (with_reducible refine hK A ?_); clear hK K
        refine wpQuiet_step (fun K hK => ?_); subst hA; go_simp; (try (with_reducible refine ⟨_, fun _ _ => rfl, ?_⟩)); generalize hA : ({ tmps := _, defers := _ } : Act) = A; (with_reducible refine hK A ?_); clear hK K
        refine wpQuiet_step (fun K hK => ?_); subst hA; go_simp; (try (with_reducible refine ⟨_, fun _ _ => rfl, ?_⟩)); generalize hA : ({ tmps := _, defers := _ } : Act) = A; (with_reducible refine hK A ?_); clear hK K
        refine wpQuiet_step (fun K hK => ?_); subst hA; go_simp; (try (with_reducible refine ⟨_, fun _ _ => rfl, ?_⟩)); generalize hA : ({ tmps := _, defers := _ } : Act) = A; (with_reducible refine hK A ?_); clear hK K
        refine wpQuiet_step (fun K hK => ?_); subst hA; go_simp; (try (with_reducible refine ⟨_, fun _ _ => rfl, ?_⟩)); generalize hA : ({ tmps := _, defers := _ } : Act) = A; (with_reducible refine hK A ?_); clear hK K
        refine wpQuiet_step (fun K hK => ?_); subst hA; go_simp; (try (with_reducible refine ⟨_, fun _ _ => rfl, ?_⟩)); generalize hA : ({ tmps := _, defers := _ } : Act) = A; (with_reducible refine hK A ?_); clear hK K
        subst hA
        refine wpQuiet_nil ?_
        intro wy hb
        have h := HA.out.below hb; clear HA; have HA := Lib.hid h; clear h
        have h := Hb.out.trans (hb.mono Hb.out.size); clear Hb hb HL1 HL2 HL3; have Hb := Lib.hid h; clear h
        have hc := HSO.out wy _ HA.out
        have HC := Lib.hid hc; clear hc
        go_wp2_with fail
        refine HC.out.mono ?_; rintro e w5 ⟨⟨v, rfl, hr⟩, hb0⟩
        clear HC
        have hb := hb0
        clear hb0
        have h := HA.out.below hb; clear HA; have HA := Lib.hid h; clear h
        have h := Hb.out.trans (hb.mono Hb.out.size); clear Hb hb; have Hb := Lib.hid h; clear h
        obtain ⟨A1, c1, rfl, z1⟩ := hr
        have H1 := Lib.hid (show RowV w5 (.slice A1 (s : List Rd).length c1) s from ⟨A1, c1, rfl, z1⟩); clear z1
        dsimp only
        have HT1 := Lib.hid (ts_of H1.out)
        clear HA H1 HSO he
        go_wp2_with fail
        go_loopw [10] (fun vi wr => ∃ k : Nat, vi = .int .i64 ((k : Int) + 1) ∧ k ≤ s.length ∧ Below w5.heap.size w5 wr) (fun vi _ => s.length + 1 - (intOf vi).toNat)
        case atStart => exact ⟨0, by simp, by omega, Below.refl _ _⟩
        case round =>
          obtain ⟨k, rfl, hk, hbr⟩ := hrel
          have HBR := Lib.hid hbr; clear hbr
          by_cases hlt : k + 1 < s.length
          · have hltz : (k : Int) + 1 < (s.length : Int) := by omega
            have d2 : decide ((k : Int) + 1 < (s.length : Int)) = true := by simp; omega
            obtain ⟨x, hx⟩ : ∃ x, s[k]? = some x := ⟨_, List.getElem?_eq_getElem (by omega)⟩
            obtain ⟨y, hy⟩ : ∃ y, s[k + 1]? = some y := ⟨_, List.getElem?_eq_getElem hlt⟩
            obtain ⟨n, hn⟩ : ∃ n, x.C y = n := ⟨_, rfl⟩
            have hn0 : n ≤ 0 := by rw [← hn]; exact rises HSS.out hx hy
            have d3 : decide (0 < n) = false := by simp; omega
            have d4 : decide (n > 0) = false := by simp; omega
            have hn1 : ¬ 0 < n := by omega
            have wk : IntKind.i64.wrap (k : Int) = (k : Int) := IntWalk.i64_in _ (by omega)
            have hk1 : (k : Int) < (s.length : Int) := by omega
            have zk : 0 ≤ (k : Int) + 1 := by omega
            have tk : ((k : Int) + 1).toNat = k + 1 := by omega
            obtain ⟨b1, o1, rfl, hb1, hload1⟩ := load_r HT1.out hx
            obtain ⟨b2, o2, e2, _, hload2⟩ := load_r HT1.out hy
            cases e2
            have HX := Lib.hid (fun w' (hb : Below wr.heap.size wr w') => hload1 w' (HBR.out.trans (hb.mono HBR.out.size)))
            have HY := Lib.hid (fun w' (hb : Below wr.heap.size wr w') => hload2 w' (HBR.out.trans (hb.mono HBR.out.size)))
            have HN := Lib.hid hn
            clear hx hy hn hload1 hload2
            go_wp2_with fail
            refine wp_region_below (by kernel_rfl) (by kernel_rfl) ?_
            refine wpQuiet_step (fun K hK => ?_); go_simp; (first | (with_reducible refine hK _ ?_) | (with_reducible refine ⟨_, fun _ _ => rfl, hK _ ?_⟩)); clear hK K
            refine wpQuiet_step (fun K hK => ?_); go_simp; (first | (with_reducible refine hK _ ?_) | (with_reducible refine ⟨_, fun _ _ => rfl, hK _ ?_⟩)); clear hK K
            refine wpQuiet_step (fun K hK => ?_); go_simp; (first | (with_reducible refine hK _ ?_) | (with_reducible refine ⟨_, fun _ _ => rfl, hK _ ?_⟩)); clear hK K
            refine wpQuiet_step (fun K hK => ?_); go_simp; (first | (with_reducible refine hK _ ?_) | (with_reducible refine ⟨_, fun _ _ => rfl, hK _ ?_⟩)); clear hK K
            refine wpQuiet_step (fun K hK => ?_); refine q_load (p := .pointer (some ⟨b1, o1 + k * 2, none⟩)) 32 _ rfl rfl rfl (HX.out) ?_; go_simp; (with_reducible refine hK _ ?_); clear hK K
            refine wpQuiet_step (fun K hK => ?_); go_simp; (first | (with_reducible refine hK _ ?_) | (with_reducible refine ⟨_, fun _ _ => rfl, hK _ ?_⟩)); clear hK K
            refine wpQuiet_step (fun K hK => ?_); go_simp; (first | (with_reducible refine hK _ ?_) | (with_reducible refine ⟨_, fun _ _ => rfl, hK _ ?_⟩)); clear hK K
            refine wpQuiet_step (fun K hK => ?_); go_simp; (first | (with_reducible refine hK _ ?_) | (with_reducible refine ⟨_, fun _ _ => rfl, hK _ ?_⟩)); clear hK K
            refine wpQuiet_step (fun K hK => ?_); refine q_load (p := .pointer (some ⟨b1, o1 + (k + 1) * 2, none⟩)) 32 _ rfl rfl rfl (HY.out) ?_; go_simp; (with_reducible refine hK _ ?_); clear hK K
            refine wpQuiet_step (fun K hK => ?_); go_simp; (with_reducible refine ⟨_, fun _ hb => (cmp_is HN.out _).mono fun _ _ h => ⟨h.1, hb.trans (h.2.mono (by simpa using hb.size))⟩, hK _ ?_⟩); clear hK K
            refine wpQuiet_step (fun K hK => ?_); go_simp; (first | (with_reducible refine hK _ ?_) | (with_reducible refine ⟨_, fun _ _ => rfl, hK _ ?_⟩)); clear hK K
            refine wpQuiet_nil ?_
            intro wz hbz
            have HBZ := Lib.hid hbz; clear hbz
            go_wp2_with fail
            go_roundw
            case rel => exact ⟨k + 1, by simp, by omega, HBR.out.trans (HBZ.out.mono HBR.out.size)⟩
            case measure => simp only [intOf]; omega
          · have hltz : ¬ (k : Int) + 1 < (s.length : Int) := by omega
            have d2 : decide ((k : Int) + 1 < (s.length : Int)) = false := by simp; omega
            have h := Hb.out.trans (HBR.out.mono Hb.out.size); clear Hb; have Hb := Lib.hid h; clear h
            have hc := works_any wr
            have HC := Lib.hid hc; clear hc
            go_wp2_with fail
            refine HC.out.mono ?_; rintro e w10 ⟨rfl, hb0⟩
            clear HC
            have hb := hb0
            clear hb0
            have h := Hb.out.trans (hb.mono Hb.out.size); clear Hb hb; have Hb := Lib.hid h; clear h
            dsimp only
            go_wp2_with fail
            go_ret
            exact ⟨rfl, Hb.out⟩
            rename_i hne; exact absurd (by have := HSL.out; omega) hne
      · have he : eqB a b = false := eqB_no (fun e => by have := Rd.C_zero.2 e; omega)
        have hba : b.C a = 1 := by have := Rd.C_swap (a := a) (b := b); omega
        have hac : a.C c = -1 := C_lt (a := a) (b := b) (c := c) (by omega) (by omega) (by omega)
        have HAB := Lib.hid hab; have HBA := Lib.hid hba; clear hab hba
        have HBC := Lib.hid hbc; clear hbc
        have HAC := Lib.hid hac; clear hac
        have wr1 : IntKind.i64.wrap 1 = 1 := by decide
        have wr2 : IntKind.i64.wrap (-1) = -1 := by decide
        have wr3 : IntKind.i64.wrap 0 = 0 := by decide
        go_wp2_with fail
        refine wp_region_below (by kernel_rfl) (by kernel_rfl) ?_
        refine wpQuiet_step (fun K hK => ?_); refine q_load (p := .pointer (some ⟨w.heap.size, 0, none⟩)) 32 _ rfl rfl rfl (HL1.out) ?_; go_simp; (with_reducible refine hK _ ?_); clear hK K
        refine wpQuiet_step (fun K hK => ?_); refine q_load (p := .pointer (some ⟨w.heap.size + 1, 0, none⟩)) 32 _ rfl rfl rfl (HL2.out) ?_; go_simp; (with_reducible refine hK _ ?_); clear hK K
        refine wpQuiet_step (fun K hK => ?_); go_simp; (with_reducible refine ⟨_, fun _ hb => (cmp_is HAB.out _).mono fun _ _ h => ⟨h.1, hb.trans (h.2.mono (by simpa using hb.size))⟩, hK _ ?_⟩); clear hK K
        refine wpQuiet_step (fun K hK => ?_); refine q_load (p := .pointer (some ⟨w.heap.size + 1, 0, none⟩)) 32 _ rfl rfl rfl (HL2.out) ?_; go_simp; (with_reducible refine hK _ ?_); clear hK K
        refine wpQuiet_step (fun K hK => ?_); refine q_load (p := .pointer (some ⟨w.heap.size, 0, none⟩)) 32 _ rfl rfl rfl (HL1.out) ?_; go_simp; (with_reducible refine hK _ ?_); clear hK K
        refine wpQuiet_step (fun K hK => ?_); go_simp; (with_reducible refine ⟨_, fun _ hb => (cmp_is HBA.out _).mono fun _ _ h => ⟨h.1, hb.trans (h.2.mono (by simpa using hb.size))⟩, hK _ ?_⟩); clear hK K
        refine wpQuiet_step (fun K hK => ?_); go_simp; (first | (with_reducible refine hK _ ?_) | (with_reducible refine ⟨_, fun _ _ => rfl, hK _ ?_⟩)); clear hK K
        refine wpQuiet_step (fun K hK => ?_); go_simp; (first | (with_reducible refine hK _ ?_) | (with_reducible refine ⟨_, fun _ _ => rfl, hK _ ?_⟩)); clear hK K
        refine wpQuiet_step (fun K hK => ?_); go_simp; (first | (with_reducible refine hK _ ?_) | (with_reducible refine ⟨_, fun _ _ => rfl, hK _ ?_⟩)); clear hK K
        refine wpQuiet_step (fun K hK => ?_); refine q_load (p := .pointer (some ⟨w.heap.size, 0, none⟩)) 32 _ rfl rfl rfl (HL1.out) ?_; go_simp; (with_reducible refine hK _ ?_); clear hK K
        refine wpQuiet_step (fun K hK => ?_); refine q_load (p := .pointer (some ⟨w.heap.size + 1, 0, none⟩)) 32 _ rfl rfl rfl (HL2.out) ?_; go_simp; (with_reducible refine hK _ ?_); clear hK K
        refine wpQuiet_step (fun K hK => ?_); go_simp; (with_reducible refine ⟨_, fun _ hb => (cmp_is HAB.out _).mono fun _ _ h => ⟨h.1, hb.trans (h.2.mono (by simpa using hb.size))⟩, hK _ ?_⟩); clear hK K
        refine wpQuiet_step (fun K hK => ?_); go_simp; (first | (with_reducible refine hK _ ?_) | (with_reducible refine ⟨_, fun _ _ => rfl, hK _ ?_⟩)); clear hK K
        refine wpQuiet_step (fun K hK => ?_); refine q_load (p := .pointer (some ⟨w.heap.size, 0, none⟩)) 32 _ rfl rfl rfl (HL1.out) ?_; go_simp; (with_reducible refine hK _ ?_); clear hK K
        refine wpQuiet_step (fun K hK => ?_); refine q_load (p := .pointer (some ⟨w.heap.size + 1, 0, none⟩)) 32 _ rfl rfl rfl (HL2.out) ?_; go_simp; (with_reducible refine hK _ ?_); clear hK K
        refine wpQuiet_step (fun K hK => ?_); refine q_bin _ _ _ _ _ rfl rfl rfl rfl (eq_r _ _ a b) ?_; go_simp; (with_reducible refine hK _ ?_); clear hK K
        refine wpQuiet_step (fun K hK => ?_); go_simp; (first | (with_reducible refine hK _ ?_) | (with_reducible refine ⟨_, fun _ _ => rfl, hK _ ?_⟩)); clear hK K
        refine wpQuiet_step (fun K hK => ?_); go_simp; (first | (with_reducible refine hK _ ?_) | (with_reducible refine ⟨_, fun _ _ => rfl, hK _ ?_⟩)); clear hK K
        refine wpQuiet_step (fun K hK => ?_); go_simp; (first | (with_reducible refine hK _ ?_) | (with_reducible refine ⟨_, fun _ _ => rfl, hK _ ?_⟩)); clear hK K
        refine wpQuiet_step (fun K hK => ?_); refine q_load (p := .pointer (some ⟨w.heap.size, 0, none⟩)) 32 _ rfl rfl rfl (HL1.out) ?_; go_simp; (with_reducible refine hK _ ?_); clear hK K
        refine wpQuiet_step (fun K hK => ?_); refine q_load (p := .pointer (some ⟨w.heap.size + 1, 0, none⟩)) 32 _ rfl rfl rfl (HL2.out) ?_; go_simp; (with_reducible refine hK _ ?_); clear hK K
        refine wpQuiet_step (fun K hK => ?_); go_simp; (with_reducible refine ⟨_, fun _ hb => (cmp_is HAB.out _).mono fun _ _ h => ⟨h.1, hb.trans (h.2.mono (by simpa using hb.size))⟩, hK _ ?_⟩); clear hK K
        refine wpQuiet_step (fun K hK => ?_); go_simp; (first | (with_reducible refine hK _ ?_) | (with_reducible refine ⟨_, fun _ _ => rfl, hK _ ?_⟩)); clear hK K
        refine wpQuiet_step (fun K hK => ?_); go_simp; (first | (with_reducible refine hK _ ?_) | (with_reducible refine ⟨_, fun _ _ => rfl, hK _ ?_⟩)); clear hK K
        refine wpQuiet_step (fun K hK => ?_); refine q_load (p := .pointer (some ⟨w.heap.size + 1, 0, none⟩)) 32 _ rfl rfl rfl (HL2.out) ?_; go_simp; (with_reducible refine hK _ ?_); clear hK K
        refine wpQuiet_step (fun K hK => ?_); refine q_load (p := .pointer (some ⟨w.heap.size + 1 + 1, 0, none⟩)) 32 _ rfl rfl rfl (HL3.out) ?_; go_simp; (with_reducible refine hK _ ?_); clear hK K
        refine wpQuiet_step (fun K hK => ?_); go_simp; (with_reducible refine ⟨_, fun _ hb => (cmp_is HBC.out _).mono fun _ _ h => ⟨h.1, hb.trans (h.2.mono (by simpa using hb.size))⟩, hK _ ?_⟩); clear hK K
        refine wpQuiet_step (fun K hK => ?_); go_simp; (first | (with_reducible refine hK _ ?_) | (with_reducible refine ⟨_, fun _ _ => rfl, hK _ ?_⟩)); clear hK K
        refine wpQuiet_step (fun K hK => ?_); go_simp; (first | (with_reducible refine hK _ ?_) | (with_reducible refine ⟨_, fun _ _ => rfl, hK _ ?_⟩)); clear hK K
        refine wpQuiet_step (fun K hK => ?_); go_simp; (first | (with_reducible refine hK _ ?_) | (with_reducible refine ⟨_, fun _ _ => rfl, hK _ ?_⟩)); clear hK K
        refine wpQuiet_step (fun K hK => ?_); refine q_load (p := .pointer (some ⟨w.heap.size, 0, none⟩)) 32 _ rfl rfl rfl (HL1.out) ?_; go_simp; (with_reducible refine hK _ ?_); clear hK K
        refine wpQuiet_step (fun K hK => ?_); refine q_load (p := .pointer (some ⟨w.heap.size + 1 + 1, 0, none⟩)) 32 _ rfl rfl rfl (HL3.out) ?_; go_simp; (with_reducible refine hK _ ?_); clear hK K
        refine wpQuiet_step (fun K hK => ?_); go_simp; (with_reducible refine ⟨_, fun _ hb => (cmp_is HAC.out _).mono fun _ _ h => ⟨h.1, hb.trans (h.2.mono (by simpa using hb.size))⟩, hK _ ?_⟩); clear hK K
        refine wpQuiet_step (fun K hK => ?_); go_simp; (first | (with_reducible refine hK _ ?_) | (with_reducible refine ⟨_, fun _ _ => rfl, hK _ ?_⟩)); clear hK K
        refine wpQuiet_step (fun K hK => ?_); go_simp; (first | (with_reducible refine hK _ ?_) | (with_reducible refine ⟨_, fun _ _ => rfl, hK _ ?_⟩)); clear hK K
        refine wpQuiet_step (fun K hK => ?_); go_simp; (first | (with_reducible refine hK _ ?_) | (with_reducible refine ⟨_, fun _ _ => rfl, hK _ ?_⟩)); clear hK K
        refine wpQuiet_nil ?_
        intro wy hb
        have h := HA.out.below hb; clear HA; have HA := Lib.hid h; clear h
        have h := Hb.out.trans (hb.mono Hb.out.size); clear Hb hb HL1 HL2 HL3; have Hb := Lib.hid h; clear h
        have hc := HSO.out wy _ HA.out
        have HC := Lib.hid hc; clear hc
        go_wp2_with fail
        refine HC.out.mono ?_; rintro e w5 ⟨⟨v, rfl, hr⟩, hb0⟩
        clear HC
        have hb := hb0
        clear hb0
        have h := HA.out.below hb; clear HA; have HA := Lib.hid h; clear h
        have h := Hb.out.trans (hb.mono Hb.out.size); clear Hb hb; have Hb := Lib.hid h; clear h
        obtain ⟨A1, c1, rfl, z1⟩ := hr
        have H1 := Lib.hid (show RowV w5 (.slice A1 (s : List Rd).length c1) s from ⟨A1, c1, rfl, z1⟩); clear z1
        dsimp only
        have HT1 := Lib.hid (ts_of H1.out)
        clear HA H1 HSO he
        go_wp2_with fail
        go_loopw [10] (fun vi wr => ∃ k : Nat, vi = .int .i64 ((k : Int) + 1) ∧ k ≤ s.length ∧ Below w5.heap.size w5 wr) (fun vi _ => s.length + 1 - (intOf vi).toNat)
        case atStart => exact ⟨0, by simp, by omega, Below.refl _ _⟩
        case round =>
          obtain ⟨k, rfl, hk, hbr⟩ := hrel
          have HBR := Lib.hid hbr; clear hbr
          by_cases hlt : k + 1 < s.length
          · have hltz : (k : Int) + 1 < (s.length : Int) := by omega
            have d2 : decide ((k : Int) + 1 < (s.length : Int)) = true := by simp; omega
            obtain ⟨x, hx⟩ : ∃ x, s[k]? = some x := ⟨_, List.getElem?_eq_getElem (by omega)⟩
            obtain ⟨y, hy⟩ : ∃ y, s[k + 1]? = some y := ⟨_, List.getElem?_eq_getElem hlt⟩
            obtain ⟨n, hn⟩ : ∃ n, x.C y = n := ⟨_, rfl⟩
            have hn0 : n ≤ 0 := by rw [← hn]; exact rises HSS.out hx hy
            have d3 : decide (0 < n) = false := by simp; omega
            have d4 : decide (n > 0) = false := by simp; omega
            have hn1 : ¬ 0 < n := by omega
            have wk : IntKind.i64.wrap (k : Int) = (k : Int) := IntWalk.i64_in _ (by omega)
            have hk1 : (k : Int) < (s.length : Int) := by omega
            have zk : 0 ≤ (k : Int) + 1 := by omega
            have tk : ((k : Int) + 1).toNat = k + 1 := by omega
            obtain ⟨b1, o1, rfl, hb1, hload1⟩ := load_r HT1.out hx
            obtain ⟨b2, o2, e2, _, hload2⟩ := load_r HT1.out hy
            cases e2
            have HX := Lib.hid (fun w' (hb : Below wr.heap.size wr w') => hload1 w' (HBR.out.trans (hb.mono HBR.out.size)))
            have HY := Lib.hid (fun w' (hb : Below wr.heap.size wr w') => hload2 w' (HBR.out.trans (hb.mono HBR.out.size)))
            have HN := Lib.hid hn
            clear hx hy hn hload1 hload2
            go_wp2_with fail
            refine wp_region_below (by kernel_rfl) (by kernel_rfl) ?_
            refine wpQuiet_step (fun K hK => ?_); go_simp; (first | (with_reducible refine hK _ ?_) | (with_reducible refine ⟨_, fun _ _ => rfl, hK _ ?_⟩)); clear hK K
            refine wpQuiet_step (fun K hK => ?_); go_simp; (first | (with_reducible refine hK _ ?_) | (with_reducible refine ⟨_, fun _ _ => rfl, hK _ ?_⟩)); clear hK K
            refine wpQuiet_step (fun K hK => ?_); go_simp; (first | (with_reducible refine hK _ ?_) | (with_reducible refine ⟨_, fun _ _ => rfl, hK _ ?_⟩)); clear hK K
            refine wpQuiet_step (fun K hK => ?_); go_simp; (first | (with_reducible refine hK _ ?_) | (with_reducible refine ⟨_, fun _ _ => rfl, hK _ ?_⟩)); clear hK K
            refine wpQuiet_step (fun K hK => ?_); refine q_load (p := .pointer (some ⟨b1, o1 + k * 2, none⟩)) 32 _ rfl rfl rfl (HX.out) ?_; go_simp; (with_reducible refine hK _ ?_); clear hK K
            refine wpQuiet_step (fun K hK => ?_); go_simp; (first | (with_reducible refine hK _ ?_) | (with_reducible refine ⟨_, fun _ _ => rfl, hK _ ?_⟩)); clear hK K
            refine wpQuiet_step (fun K hK => ?_); go_simp; (first | (with_reducible refine hK _ ?_) | (with_reducible refine ⟨_, fun _ _ => rfl, hK _ ?_⟩)); clear hK K
            refine wpQuiet_step (fun K hK => ?_); go_simp; (first | (with_reducible refine hK _ ?_) | (with_reducible refine ⟨_, fun _ _ => rfl, hK _ ?_⟩)); clear hK K
            refine wpQuiet_step (fun K hK => ?_); refine q_load (p := .pointer (some ⟨b1, o1 + (k + 1) * 2, none⟩)) 32 _ rfl rfl rfl (HY.out) ?_; go_simp; (with_reducible refine hK _ ?_); clear hK K
            refine wpQuiet_step (fun K hK => ?_); go_simp; (with_reducible refine ⟨_, fun _ hb => (cmp_is HN.out _).mono fun _ _ h => ⟨h.1, hb.trans (h.2.mono (by simpa using hb.size))⟩, hK _ ?_⟩); clear hK K
            refine wpQuiet_step (fun K hK => ?_); go_simp; (first | (with_reducible refine hK _ ?_) | (with_reducible refine ⟨_, fun _ _ => rfl, hK _ ?_⟩)); clear hK K
            refine wpQuiet_nil ?_
            intro wz hbz
            have HBZ := Lib.hid hbz; clear hbz
            go_wp2_with fail
            go_roundw
            case rel => exact ⟨k + 1, by simp, by omega, HBR.out.trans (HBZ.out.mono HBR.out.size)⟩
            case measure => simp only [intOf]; omega
          · have hltz : ¬ (k : Int) + 1 < (s.length : Int) := by omega
            have d2 : decide ((k : Int) + 1 < (s.length : Int)) = false := by simp; omega
            have h := Hb.out.trans (HBR.out.mono Hb.out.size); clear Hb; have Hb := Lib.hid h; clear h
            have hc := works_any wr
            have HC := Lib.hid hc; clear hc
            go_wp2_with fail
            refine HC.out.mono ?_; rintro e w10 ⟨rfl, hb0⟩
            clear HC
            have hb := hb0
            clear hb0
            have h := Hb.out.trans (hb.mono Hb.out.size); clear Hb hb; have Hb := Lib.hid h; clear h
            dsimp only
            go_wp2_with fail
            go_ret
            exact ⟨rfl, Hb.out⟩
            rename_i hne; exact absurd (by have := HSL.out; omega) hne
      · have he : eqB a b = false := eqB_no (fun e => by have := Rd.C_zero.2 e; omega)
        have hba : b.C a = 1 := by have := Rd.C_swap (a := a) (b := b); omega
        have hac : a.C c = -1 := C_lt (a := a) (b := b) (c := c) (by omega) (by omega) (by omega)
        have HAB := Lib.hid hab; have HBA := Lib.hid hba; clear hab hba
        have HBC := Lib.hid hbc; clear hbc
        have HAC := Lib.hid hac; clear hac
        have wr1 : IntKind.i64.wrap 1 = 1 := by decide
        have wr2 : IntKind.i64.wrap (-1) = -1 := by decide
        have wr3 : IntKind.i64.wrap 0 = 0 := by decide
        go_wp2_with fail
        refine wp_region_below (by kernel_rfl) (by kernel_rfl) ?_
        refine wpQuiet_step (fun K hK => ?_); refine q_load (p := .pointer (some ⟨w.heap.size, 0, none⟩)) 32 _ rfl rfl rfl (HL1.out) ?_; go_simp; (with_reducible refine hK _ ?_); clear hK K
        refine wpQuiet_step (fun K hK => ?_); refine q_load (p := .pointer (some ⟨w.heap.size + 1, 0, none⟩)) 32 _ rfl rfl rfl (HL2.out) ?_; go_simp; (with_reducible refine hK _ ?_); clear hK K
        refine wpQuiet_step (fun K hK => ?_); go_simp; (with_reducible refine ⟨_, fun _ hb => (cmp_is HAB.out _).mono fun _ _ h => ⟨h.1, hb.trans (h.2.mono (by simpa using hb.size))⟩, hK _ ?_⟩); clear hK K
        refine wpQuiet_step (fun K hK => ?_); refine q_load (p := .pointer (some ⟨w.heap.size + 1, 0, none⟩)) 32 _ rfl rfl rfl (HL2.out) ?_; go_simp; (with_reducible refine hK _ ?_); clear hK K
        refine wpQuiet_step (fun K hK => ?_); refine q_load (p := .pointer (some ⟨w.heap.size, 0, none⟩)) 32 _ rfl rfl rfl (HL1.out) ?_; go_simp; (with_reducible refine hK _ ?_); clear hK K
        refine wpQuiet_step (fun K hK => ?_); go_simp; (with_reducible refine ⟨_, fun _ hb => (cmp_is HBA.out _).mono fun _ _ h => ⟨h.1, hb.trans (h.2.mono (by simpa using hb.size))⟩, hK _ ?_⟩); clear hK K
        refine wpQuiet_step (fun K hK => ?_); go_simp; (first | (with_reducible refine hK _ ?_) | (with_reducible refine ⟨_, fun _ _ => rfl, hK _ ?_⟩)); clear hK K
        refine wpQuiet_step (fun K hK => ?_); go_simp; (first | (with_reducible refine hK _ ?_) | (with_reducible refine ⟨_, fun _ _ => rfl, hK _ ?_⟩)); clear hK K
        refine wpQuiet_step (fun K hK => ?_); go_simp; (first | (with_reducible refine hK _ ?_) | (with_reducible refine ⟨_, fun _ _ => rfl, hK _ ?_⟩)); clear hK K
        refine wpQuiet_step (fun K hK => ?_); refine q_load (p := .pointer (some ⟨w.heap.size, 0, none⟩)) 32 _ rfl rfl rfl (HL1.out) ?_; go_simp; (with_reducible refine hK _ ?_); clear hK K
        refine wpQuiet_step (fun K hK => ?_); refine q_load (p := .pointer (some ⟨w.heap.size + 1, 0, none⟩)) 32 _ rfl rfl rfl (HL2.out) ?_; go_simp; (with_reducible refine hK _ ?_); clear hK K
        refine wpQuiet_step (fun K hK => ?_); go_simp; (with_reducible refine ⟨_, fun _ hb => (cmp_is HAB.out _).mono fun _ _ h => ⟨h.1, hb.trans (h.2.mono (by simpa using hb.size))⟩, hK _ ?_⟩); clear hK K
        refine wpQuiet_step (fun K hK => ?_); go_simp; (first | (with_reducible refine hK _ ?_) | (with_reducible refine ⟨_, fun _ _ => rfl, hK _ ?_⟩)); clear hK K
        refine wpQuiet_step (fun K hK => ?_); refine q_load (p := .pointer (some ⟨w.heap.size, 0, none⟩)) 32 _ rfl rfl rfl (HL1.out) ?_; go_simp; (with_reducible refine hK _ ?_); clear hK K
        refine wpQuiet_step (fun K hK => ?_); refine q_load (p := .pointer (some ⟨w.heap.size + 1, 0, none⟩)) 32 _ rfl rfl rfl (HL2.out) ?_; go_simp; (with_reducible refine hK _ ?_); clear hK K
        refine wpQuiet_step (fun K hK => ?_); refine q_bin _ _ _ _ _ rfl rfl rfl rfl (eq_r _ _ a b) ?_; go_simp; (with_reducible refine hK _ ?_); clear hK K
        refine wpQuiet_step (fun K hK => ?_); go_simp; (first | (with_reducible refine hK _ ?_) | (with_reducible refine ⟨_, fun _ _ => rfl, hK _ ?_⟩)); clear hK K
        refine wpQuiet_step (fun K hK => ?_); go_simp; (first | (with_reducible refine hK _ ?_) | (with_reducible refine ⟨_, fun _ _ => rfl, hK _ ?_⟩)); clear hK K
        refine wpQuiet_step (fun K hK => ?_); go_simp; (first | (with_reducible refine hK _ ?_) | (with_reducible refine ⟨_, fun _ _ => rfl, hK _ ?_⟩)); clear hK K
        refine wpQuiet_step (fun K hK => ?_); refine q_load (p := .pointer (some ⟨w.heap.size, 0, none⟩)) 32 _ rfl rfl rfl (HL1.out) ?_; go_simp; (with_reducible refine hK _ ?_); clear hK K
        refine wpQuiet_step (fun K hK => ?_); refine q_load (p := .pointer (some ⟨w.heap.size + 1, 0, none⟩)) 32 _ rfl rfl rfl (HL2.out) ?_; go_simp; (with_reducible refine hK _ ?_); clear hK K
        refine wpQuiet_step (fun K hK => ?_); go_simp; (with_reducible refine ⟨_, fun _ hb => (cmp_is HAB.out _).mono fun _ _ h => ⟨h.1, hb.trans (h.2.mono (by simpa using hb.size))⟩, hK _ ?_⟩); clear hK K
        refine wpQuiet_step (fun K hK => ?_); go_simp; (first | (with_reducible refine hK _ ?_) | (with_reducible refine ⟨_, fun _ _ => rfl, hK _ ?_⟩)); clear hK K
        refine wpQuiet_step (fun K hK => ?_); go_simp; (first | (with_reducible refine hK _ ?_) | (with_reducible refine ⟨_, fun _ _ => rfl, hK _ ?_⟩)); clear hK K
        refine wpQuiet_step (fun K hK => ?_); refine q_load (p := .pointer (some ⟨w.heap.size + 1, 0, none⟩)) 32 _ rfl rfl rfl (HL2.out) ?_; go_simp; (with_reducible refine hK _ ?_); clear hK K
        refine wpQuiet_step (fun K hK => ?_); refine q_load (p := .pointer (some ⟨w.heap.size + 1 + 1, 0, none⟩)) 32 _ rfl rfl rfl (HL3.out) ?_; go_simp; (with_reducible refine hK _ ?_); clear hK K
        refine wpQuiet_step (fun K hK => ?_); go_simp; (with_reducible refine ⟨_, fun _ hb => (cmp_is HBC.out _).mono fun _ _ h => ⟨h.1, hb.trans (h.2.mono (by simpa using hb.size))⟩, hK _ ?_⟩); clear hK K
        refine wpQuiet_step (fun K hK => ?_); go_simp; (first | (with_reducible refine hK _ ?_) | (with_reducible refine ⟨_, fun _ _ => rfl, hK _ ?_⟩)); clear hK K
        refine wpQuiet_step (fun K hK => ?_); go_simp; (first | (with_reducible refine hK _ ?_) | (with_reducible refine ⟨_, fun _ _ => rfl, hK _ ?_⟩)); clear hK K
        refine wpQuiet_step (fun K hK => ?_); go_simp; (first | (with_reducible refine hK _ ?_) | (with_reducible refine ⟨_, fun _ _ => rfl, hK _ ?_⟩)); clear hK K
        refine wpQuiet_step (fun K hK => ?_); refine q_load (p := .pointer (some ⟨w.heap.size, 0, none⟩)) 32 _ rfl rfl rfl (HL1.out) ?_; go_simp; (with_reducible refine hK _ ?_); clear hK K
        refine wpQuiet_step (fun K hK => ?_); refine q_load (p := .pointer (some ⟨w.heap.size + 1 + 1, 0, none⟩)) 32 _ rfl rfl rfl (HL3.out) ?_; go_simp; (with_reducible refine hK _ ?_); clear hK K
        refine wpQuiet_step (fun K hK => ?_); go_simp; (with_reducible refine ⟨_, fun _ hb => (cmp_is HAC.out _).mono fun _ _ h => ⟨h.1, hb.trans (h.2.mono (by simpa using hb.size))⟩, hK _ ?_⟩); clear hK K
        refine wpQuiet_step (fun K hK => ?_); go_simp; (first | (with_reducible refine hK _ ?_) | (with_reducible refine ⟨_, fun _ _ => rfl, hK _ ?_⟩)); clear hK K
        refine wpQuiet_step (fun K hK => ?_); go_simp; (first | (with_reducible refine hK _ ?_) | (with_reducible refine ⟨_, fun _ _ => rfl, hK _ ?_⟩)); clear hK K
        refine wpQuiet_step (fun K hK => ?_); go_simp; (first | (with_reducible refine hK _ ?_) | (with_reducible refine ⟨_, fun _ _ => rfl, hK _ ?_⟩)); clear hK K
        refine wpQuiet_nil ?_
        intro wy hb
        have h := HA.out.below hb; clear HA; have HA := Lib.hid h; clear h
        have h := Hb.out.trans (hb.mono Hb.out.size); clear Hb hb HL1 HL2 HL3; have Hb := Lib.hid h; clear h
        have hc := HSO.out wy _ HA.out
        have HC := Lib.hid hc; clear hc
        go_wp2_with fail
        refine HC.out.mono ?_; rintro e w5 ⟨⟨v, rfl, hr⟩, hb0⟩
        clear HC
        have hb := hb0
        clear hb0
        have h := HA.out.below hb; clear HA; have HA := Lib.hid h; clear h
        have h := Hb.out.trans (hb.mono Hb.out.size); clear Hb hb; have Hb := Lib.hid h; clear h
        obtain ⟨A1, c1, rfl, z1⟩ := hr
        have H1 := Lib.hid (show RowV w5 (.slice A1 (s : List Rd).length c1) s from ⟨A1, c1, rfl, z1⟩); clear z1
        dsimp only
        have HT1 := Lib.hid (ts_of H1.out)
        clear HA H1 HSO he
        go_wp2_with fail
        go_loopw [10] (fun vi wr => ∃ k : Nat, vi = .int .i64 ((k : Int) + 1) ∧ k ≤ s.length ∧ Below w5.heap.size w5 wr) (fun vi _ => s.length + 1 - (intOf vi).toNat)
        case atStart => exact ⟨0, by simp, by omega, Below.refl _ _⟩
        case round =>
          obtain ⟨k, rfl, hk, hbr⟩ := hrel
          have HBR := Lib.hid hbr; clear hbr
          by_cases hlt : k + 1 < s.length
          · have hltz : (k : Int) + 1 < (s.length : Int) := by omega
            have d2 : decide ((k : Int) + 1 < (s.length : Int)) = true := by simp; omega
            obtain ⟨x, hx⟩ : ∃ x, s[k]? = some x := ⟨_, List.getElem?_eq_getElem (by omega)⟩
            obtain ⟨y, hy⟩ : ∃ y, s[k + 1]? = some y := ⟨_, List.getElem?_eq_getElem hlt⟩
            obtain ⟨n, hn⟩ : ∃ n, x.C y = n := ⟨_, rfl⟩
            have hn0 : n ≤ 0 := by rw [← hn]; exact rises HSS.out hx hy
            have d3 : decide (0 < n) = false := by simp; omega
            have d4 : decide (n > 0) = false := by simp; omega
            have hn1 : ¬ 0 < n := by omega
            have wk : IntKind.i64.wrap (k : Int) = (k : Int) := IntWalk.i64_in _ (by omega)
            have hk1 : (k : Int) < (s.length : Int) := by omega
            have zk : 0 ≤ (k : Int) + 1 := by omega
            have tk : ((k : Int) + 1).toNat = k + 1 := by omega
            obtain ⟨b1, o1, rfl, hb1, hload1⟩ := load_r HT1.out hx
            obtain ⟨b2, o2, e2, _, hload2⟩ := load_r HT1.out hy
            cases e2
            have HX := Lib.hid (fun w' (hb : Below wr.heap.size wr w') => hload1 w' (HBR.out.trans (hb.mono HBR.out.size)))
            have HY := Lib.hid (fun w' (hb : Below wr.heap.size wr w') => hload2 w' (HBR.out.trans (hb.mono HBR.out.size)))
            have HN := Lib.hid hn
            clear hx hy hn hload1 hload2
            go_wp2_with fail
            refine wp_region_below (by kernel_rfl) (by kernel_rfl) ?_
            refine wpQuiet_step (fun K hK => ?_); go_simp; (first | (with_reducible refine hK _ ?_) | (with_reducible refine ⟨_, fun _ _ => rfl, hK _ ?_⟩)); clear hK K
            refine wpQuiet_step (fun K hK => ?_); go_simp; (first | (with_reducible refine hK _ ?_) | (with_reducible refine ⟨_, fun _ _ => rfl, hK _ ?_⟩)); clear hK K
            refine wpQuiet_step (fun K hK => ?_); go_simp; (first | (with_reducible refine hK _ ?_) | (with_reducible refine ⟨_, fun _ _ => rfl, hK _ ?_⟩)); clear hK K
            refine wpQuiet_step (fun K hK => ?_); go_simp; (first | (with_reducible refine hK _ ?_) | (with_reducible refine ⟨_, fun _ _ => rfl, hK _ ?_⟩)); clear hK K
            refine wpQuiet_step (fun K hK => ?_); refine q_load (p := .pointer (some ⟨b1, o1 + k * 2, none⟩)) 32 _ rfl rfl rfl (HX.out) ?_; go_simp; (with_reducible refine hK _ ?_); clear hK K
            refine wpQuiet_step (fun K hK => ?_); go_simp; (first | (with_reducible refine hK _ ?_) | (with_reducible refine ⟨_, fun _ _ => rfl, hK _ ?_⟩)); clear hK K
            refine wpQuiet_step (fun K hK => ?_); go_simp; (first | (with_reducible refine hK _ ?_) | (with_reducible refine ⟨_, fun _ _ => rfl, hK _ ?_⟩)); clear hK K
            refine wpQuiet_step (fun K hK => ?_); go_simp; (first | (with_reducible refine hK _ ?_) | (with_reducible refine ⟨_, fun _ _ => rfl, hK _ ?_⟩)); clear hK K
            refine wpQuiet_step (fun K hK => ?_); refine q_load (p := .pointer (some ⟨b1, o1 + (k + 1) * 2, none⟩)) 32 _ rfl rfl rfl (HY.out) ?_; go_simp; (with_reducible refine hK _ ?_); clear hK K
            refine wpQuiet_step (fun K hK => ?_); go_simp; (with_reducible refine ⟨_, fun _ hb => (cmp_is HN.out _).mono fun _ _ h => ⟨h.1, hb.trans (h.2.mono (by simpa using hb.size))⟩, hK _ ?_⟩); clear hK K
            refine wpQuiet_step (fun K hK => ?_); go_simp; (first | (with_reducible refine hK _ ?_) | (with_reducible refine ⟨_, fun _ _ => rfl, hK _ ?_⟩)); clear hK K
            refine wpQuiet_nil ?_
            intro wz hbz
            have HBZ := Lib.hid hbz; clear hbz
            go_wp2_with fail
            go_roundw
            case rel => exact ⟨k + 1, by simp, by omega, HBR.out.trans (HBZ.out.mono HBR.out.size)⟩
            case measure => simp only [intOf]; omega
          · have hltz : ¬ (k : Int) + 1 < (s.length : Int) := by omega
            have d2 : decide ((k : Int) + 1 < (s.length : Int)) = false := by simp; omega
            have h := Hb.out.trans (HBR.out.mono Hb.out.size); clear Hb; have Hb := Lib.hid h; clear h
            have hc := works_any wr
            have HC := Lib.hid hc; clear hc
            go_wp2_with fail
            refine HC.out.mono ?_; rintro e w10 ⟨rfl, hb0⟩
            clear HC
            have hb := hb0
            clear hb0
            have h := Hb.out.trans (hb.mono Hb.out.size); clear Hb hb; have Hb := Lib.hid h; clear h
            dsimp only
            go_wp2_with fail
            go_ret
            exact ⟨rfl, Hb.out⟩
            rename_i hne; exact absurd (by have := HSL.out; omega) hne
    · rcases C_three b c with hbc | hbc | hbc
      · have he : eqB a b = true := eqB_yes (Rd.C_zero.1 hab)
        have hba : b.C a = 0 := by have := Rd.C_swap (a := a) (b := b); omega
        have HAB := Lib.hid hab; have HBA := Lib.hid hba; clear hab hba
        have HBC := Lib.hid hbc; clear hbc
        have wr1 : IntKind.i64.wrap 1 = 1 := by decide
        have wr2 : IntKind.i64.wrap (-1) = -1 := by decide
        have wr3 : IntKind.i64.wrap 0 = 0 := by decide
        go_wp2_with fail
        refine wp_region_below (by kernel_rfl) (by kernel_rfl) ?_
        refine wpQuiet_step (fun K hK => ?_); refine q_load (p := .pointer (some ⟨w.heap.size, 0, none⟩)) 32 _ rfl rfl rfl (HL1.out) ?_; go_simp; (with_reducible refine hK _ ?_); clear hK K
        refine wpQuiet_step (fun K hK => ?_); refine q_load (p := .pointer (some ⟨w.heap.size + 1, 0, none⟩)) 32 _ rfl rfl rfl (HL2.out) ?_; go_simp; (with_reducible refine hK _ ?_); clear hK K
        refine wpQuiet_step (fun K hK => ?_); go_simp; (with_reducible refine ⟨_, fun _ hb => (cmp_is HAB.out _).mono fun _ _ h => ⟨h.1, hb.trans (h.2.mono (by simpa using hb.size))⟩, hK _ ?_⟩); clear hK K
        refine wpQuiet_step (fun K hK => ?_); refine q_load (p := .pointer (some ⟨w.heap.size + 1, 0, none⟩)) 32 _ rfl rfl rfl (HL2.out) ?_; go_simp; (with_reducible refine hK _ ?_); clear hK K
        refine wpQuiet_step (fun K hK => ?_); refine q_load (p := .pointer (some ⟨w.heap.size, 0, none⟩)) 32 _ rfl rfl rfl (HL1.out) ?_; go_simp; (with_reducible refine hK _ ?_); clear hK K
        refine wpQuiet_step (fun K hK => ?_); go_simp; (with_reducible refine ⟨_, fun _ hb => (cmp_is HBA.out _).mono fun _ _ h => ⟨h.1, hb.trans (h.2.mono (by simpa using hb.size))⟩, hK _ ?_⟩); clear hK K
        refine wpQuiet_step (fun K hK => ?_); go_simp; (first | (with_reducible refine hK _ ?_) | (with_reducible refine ⟨_, fun _ _ => rfl, hK _ ?_⟩)); clear hK K
        refine wpQuiet_step (fun K hK => ?_); go_simp; (first | (with_reducible refine hK _ ?_) | (with_reducible refine ⟨_, fun _ _ => rfl, hK _ ?_⟩)); clear hK K
        refine wpQuiet_step (fun K hK => ?_); go_simp; (first | (with_reducible refine hK _ ?_) | (with_reducible refine ⟨_, fun _ _ => rfl, hK _ ?_⟩)); clear hK K
        refine wpQuiet_step (fun K hK => ?_); refine q_load (p := .pointer (some ⟨w.heap.size, 0, none⟩)) 32 _ rfl rfl rfl (HL1.out) ?_; go_simp; (with_reducible refine hK _ ?_); clear hK K
        refine wpQuiet_step (fun K hK => ?_); refine q_load (p := .pointer (some ⟨w.heap.size + 1, 0, none⟩)) 32 _ rfl rfl rfl (HL2.out) ?_; go_simp; (with_reducible refine hK _ ?_); clear hK K
        refine wpQuiet_step (fun K hK => ?_); go_simp; (with_reducible refine ⟨_, fun _ hb => (cmp_is HAB.out _).mono fun _ _ h => ⟨h.1, hb.trans (h.2.mono (by simpa using hb.size))⟩, hK _ ?_⟩); clear hK K
        refine wpQuiet_step (fun K hK => ?_); go_simp; (first | (with_reducible refine hK _ ?_) | (with_reducible refine ⟨_, fun _ _ => rfl, hK _ ?_⟩)); clear hK K
        refine wpQuiet_step (fun K hK => ?_); refine q_load (p := .pointer (some ⟨w.heap.size, 0, none⟩)) 32 _ rfl rfl rfl (HL1.out) ?_; go_simp; (with_reducible refine hK _ ?_); clear hK K
        refine wpQuiet_step (fun K hK => ?_); refine q_load (p := .pointer (some ⟨w.heap.size + 1, 0, none⟩)) 32 _ rfl rfl rfl (HL2.out) ?_; go_simp; (with_reducible refine hK _ ?_); clear hK K
        refine wpQuiet_step (fun K hK => ?_); refine q_bin _ _ _ _ _ rfl rfl rfl rfl (eq_r _ _ a b) ?_; go_simp; (with_reducible refine hK _ ?_); clear hK K
        refine wpQuiet_step (fun K hK => ?_); go_simp; (first | (with_reducible refine hK _ ?_) | (with_reducible refine ⟨_, fun _ _ => rfl, hK _ ?_⟩)); clear hK K
        refine wpQuiet_step (fun K hK => ?_); go_simp; (first | (with_reducible refine hK _ ?_) | (with_reducible refine ⟨_, fun _ _ => rfl, hK _ ?_⟩)); clear hK K
        refine wpQuiet_step (fun K hK => ?_); go_simp; (first | (with_reducible refine hK _ ?_) | (with_reducible refine ⟨_, fun _ _ => rfl, hK _ ?_⟩)); clear hK K
        refine wpQuiet_step (fun K hK => ?_); refine q_load (p := .pointer (some ⟨w.heap.size, 0, none⟩)) 32 _ rfl rfl rfl (HL1.out) ?_; go_simp; (with_reducible refine hK _ ?_); clear hK K
        refine wpQuiet_step (fun K hK => ?_); refine q_load (p := .pointer (some ⟨w.heap.size + 1, 0, none⟩)) 32 _ rfl rfl rfl (HL2.out) ?_; go_simp; (with_reducible refine hK _ ?_); clear hK K
        refine wpQuiet_step (fun K hK => ?_); go_simp; (with_reducible refine ⟨_, fun _ hb => (cmp_is HAB.out _).mono fun _ _ h => ⟨h.1, hb.trans (h.2.mono (by simpa using hb.size))⟩, hK _ ?_⟩); clear hK K
        refine wpQuiet_step (fun K hK => ?_); go_simp; (first | (with_reducible refine hK _ ?_) | (with_reducible refine ⟨_, fun _ _ => rfl, hK _ ?_⟩)); clear hK K
        refine wpQuiet_step (fun K hK => ?_); go_simp; (first | (with_reducible refine hK _ ?_) | (with_reducible refine ⟨_, fun _ _ => rfl, hK _ ?_⟩)); clear hK K
        refine wpQuiet_step (fun K hK => ?_); refine q_load (p := .pointer (some ⟨w.heap.size + 1, 0, none⟩)) 32 _ rfl rfl rfl (HL2.out) ?_; go_simp; (with_reducible refine hK _ ?_); clear hK K
        refine wpQuiet_step (fun K hK => ?_); refine q_load (p := .pointer (some ⟨w.heap.size + 1 + 1, 0, none⟩)) 32 _ rfl rfl rfl (HL3.out) ?_; go_simp; (with_reducible refine hK _ ?_); clear hK K
        refine wpQuiet_step (fun K hK => ?_); go_simp; (with_reducible refine ⟨_, fun _ hb => (cmp_is HBC.out _).mono fun _ _ h => ⟨h.1, hb.trans (h.2.mono (by simpa using hb.size))⟩, hK _ ?_⟩); clear hK K
        refine wpQuiet_step (fun K hK => ?_); go_simp; (first | (with_reducible refine hK _ ?_) | (with_reducible refine ⟨_, fun _ _ => rfl, hK _ ?_⟩)); clear hK K
        refine wpQuiet_step (fun K hK => ?_); go_simp; (first | (with_reducible refine hK _ ?_) | (with_reducible refine ⟨_, fun _ _ => rfl, hK _ ?_⟩)); clear hK K
        refine wpQuiet_step (fun K hK => ?_); go_simp; (first | (with_reducible refine hK _ ?_) | (with_reducible refine ⟨_, fun _ _ => rfl, hK _ ?_⟩)); clear hK K
        refine wpQuiet_step (fun K hK => ?_); go_simp; (try (with_reducible refine ⟨_, fun _ _ => rfl, ?_⟩)); generalize hA : ({ tmps := _, defers := _ } : Act) = A; (with_reducible refine hK A ?_); clear hK K
        refine wpQuiet_step (fun K hK => ?_); subst hA; go_simp; (try (with_reducible refine ⟨_, fun _ _ => rfl, ?_⟩)); generalize hA : ({ tmps := _, defers := _ } : Act) = A; (with_reducible refine hK A ?_); clear hK K
        refine wpQuiet_step (fun K hK => ?_); subst hA; go_simp; (try (with_reducible refine ⟨_, fun _ _ => rfl, ?_⟩)); generalize hA : ({ tmps := _, defers := _ } : Act) = A; (with_reducible refine hK A ?_); clear hK K
        refine wpQuiet_step (fun K hK => ?_); subst hA; go_simp; (try (with_reducible refine ⟨_, fun _ _ => rfl, ?_⟩)); generalize hA : ({ tmps := _, defers := _ } : Act) = A; (with_reducible refine hK A ?_); clear hK K
        refine wpQuiet_step (fun K hK => ?_); subst hA; go_simp; (try (with_reducible refine ⟨_, fun _ _ => rfl, ?_⟩)); generalize hA : ({ tmps := _, defers := _ } : Act) = A; (with_reducible refine hK A ?_); clear hK K
        refine wpQuiet_step (fun K hK => ?_); subst hA; go_simp; (try (with_reducible refine ⟨_, fun _ _ => rfl, ?_⟩)); generalize hA : ({ tmps := _, defers := _ } : Act) = A; (with_reducible refine hK A ?_); clear hK K
        subst hA
        refine wpQuiet_nil ?_
        intro wy hb
        have h := HA.out.below hb; clear HA; have HA := Lib.hid h; clear h
        have h := Hb.out.trans (hb.mono Hb.out.size); clear Hb hb HL1 HL2 HL3; have Hb := Lib.hid h; clear h
        have hc := HSO.out wy _ HA.out
        have HC := Lib.hid hc; clear hc
        go_wp2_with fail
        refine HC.out.mono ?_; rintro e w5 ⟨⟨v, rfl, hr⟩, hb0⟩
        clear HC
        have hb := hb0
        clear hb0
        have h := HA.out.below hb; clear HA; have HA := Lib.hid h; clear h
        have h := Hb.out.trans (hb.mono Hb.out.size); clear Hb hb; have Hb := Lib.hid h; clear h
        obtain ⟨A1, c1, rfl, z1⟩ := hr
        have H1 := Lib.hid (show RowV w5 (.slice A1 (s : List Rd).length c1) s from ⟨A1, c1, rfl, z1⟩); clear z1
        dsimp only
        have HT1 := Lib.hid (ts_of H1.out)
        clear HA H1 HSO he
        go_wp2_with fail
        go_loopw [10] (fun vi wr => ∃ k : Nat, vi = .int .i64 ((k : Int) + 1) ∧ k ≤ s.length ∧ Below w5.heap.size w5 wr) (fun vi _ => s.length + 1 - (intOf vi).toNat)
        case atStart => exact ⟨0, by simp, by omega, Below.refl _ _⟩
        case round =>
          obtain ⟨k, rfl, hk, hbr⟩ := hrel
          have HBR := Lib.hid hbr; clear hbr
          by_cases hlt : k + 1 < s.length
          · have hltz : (k : Int) + 1 < (s.length : Int) := by omega
            have d2 : decide ((k : Int) + 1 < (s.length : Int)) = true := by simp; omega
            obtain ⟨x, hx⟩ : ∃ x, s[k]? = some x := ⟨_, List.getElem?_eq_getElem (by omega)⟩
            obtain ⟨y, hy⟩ : ∃ y, s[k + 1]? = some y := ⟨_, List.getElem?_eq_getElem hlt⟩
            obtain ⟨n, hn⟩ : ∃ n, x.C y = n := ⟨_, rfl⟩
            have hn0 : n ≤ 0 := by rw [← hn]; exact rises HSS.out hx hy
            have d3 : decide (0 < n) = false := by simp; omega
            have d4 : decide (n > 0) = false := by simp; omega
            have hn1 : ¬ 0 < n := by omega
            have wk : IntKind.i64.wrap (k : Int) = (k : Int) := IntWalk.i64_in _ (by omega)
            have hk1 : (k : Int) < (s.length : Int) := by omega
            have zk : 0 ≤ (k : Int) + 1 := by omega
            have tk : ((k : Int) + 1).toNat = k + 1 := by omega
            obtain ⟨b1, o1, rfl, hb1, hload1⟩ := load_r HT1.out hx
            obtain ⟨b2, o2, e2, _, hload2⟩ := load_r HT1.out hy
            cases e2
            have HX := Lib.hid (fun w' (hb : Below wr.heap.size wr w') => hload1 w' (HBR.out.trans (hb.mono HBR.out.size)))
            have HY := Lib.hid (fun w' (hb : Below wr.heap.size wr w') => hload2 w' (HBR.out.trans (hb.mono HBR.out.size)))
            have HN := Lib.hid hn
            clear hx hy hn hload1 hload2
            go_wp2_with fail
            refine wp_region_below (by kernel_rfl) (by kernel_rfl) ?_
            refine wpQuiet_step (fun K hK => ?_); go_simp; (first | (with_reducible refine hK _ ?_) | (with_reducible refine ⟨_, fun _ _ => rfl, hK _ ?_⟩)); clear hK K
            refine wpQuiet_step (fun K hK => ?_); go_simp; (first | (with_reducible refine hK _ ?_) | (with_reducible refine ⟨_, fun _ _ => rfl, hK _ ?_⟩)); clear hK K
            refine wpQuiet_step (fun K hK => ?_); go_simp; (first | (with_reducible refine hK _ ?_) | (with_reducible refine ⟨_, fun _ _ => rfl, hK _ ?_⟩)); clear hK K
            refine wpQuiet_step (fun K hK => ?_); go_simp; (first | (with_reducible refine hK _ ?_) | (with_reducible refine ⟨_, fun _ _ => rfl, hK _ ?_⟩)); clear hK K
            refine wpQuiet_step (fun K hK => ?_); refine q_load (p := .pointer (some ⟨b1, o1 + k * 2, none⟩)) 32 _ rfl rfl rfl (HX.out) ?_; go_simp; (with_reducible refine hK _ ?_); clear hK K
            refine wpQuiet_step (fun K hK => ?_); go_simp; (first | (with_reducible refine hK _ ?_) | (with_reducible refine ⟨_, fun _ _ => rfl, hK _ ?_⟩)); clear hK K
            refine wpQuiet_step (fun K hK => ?_); go_simp; (first | (with_reducible refine hK _ ?_) | (with_reducible refine ⟨_, fun _ _ => rfl, hK _ ?_⟩)); clear hK K
            refine wpQuiet_step (fun K hK => ?_); go_simp; (first | (with_reducible refine hK _ ?_) | (with_reducible refine ⟨_, fun _ _ => rfl, hK _ ?_⟩)); clear hK K
            refine wpQuiet_step (fun K hK => ?_); refine q_load (p := .pointer (some ⟨b1, o1 + (k + 1) * 2, none⟩)) 32 _ rfl rfl rfl (HY.out) ?_; go_simp; (with_reducible refine hK _ ?_); clear hK K
            refine wpQuiet_step (fun K hK => ?_); go_simp; (with_reducible refine ⟨_, fun _ hb => (cmp_is HN.out _).mono fun _ _ h => ⟨h.1, hb.trans (h.2.mono (by simpa using hb.size))⟩, hK _ ?_⟩); clear hK K
            refine wpQuiet_step (fun K hK => ?_); go_simp; (first | (with_reducible refine hK _ ?_) | (with_reducible refine ⟨_, fun _ _ => rfl, hK _ ?_⟩)); clear hK K
            refine wpQuiet_nil ?_
            intro wz hbz
            have HBZ := Lib.hid hbz; clear hbz
            go_wp2_with fail
            go_roundw
            case rel => exact ⟨k + 1, by simp, by omega, HBR.out.trans (HBZ.out.mono HBR.out.size)⟩
            case measure => simp only [intOf]; omega
          · have hltz : ¬ (k : Int) + 1 < (s.length : Int) := by omega
            have d2 : decide ((k : Int) + 1 < (s.length : Int)) = false := by simp; omega
            have h := Hb.out.trans (HBR.out.mono Hb.out.size); clear Hb; have Hb := Lib.hid h; clear h
            have hc := works_any wr
            have HC := Lib.hid hc; clear hc
            go_wp2_with fail
            refine HC.out.mono ?_; rintro e w10 ⟨rfl, hb0⟩
            clear HC
            have hb := hb0
            clear hb0
            have h := Hb.out.trans (hb.mono Hb.out.size); clear Hb hb; have Hb := Lib.hid h; clear h
            dsimp only
            go_wp2_with fail
            go_ret
            exact ⟨rfl, Hb.out⟩
            rename_i hne; exact absurd (by have := HSL.out; omega) hne
      · have he : eqB a b = true := eqB_yes (Rd.C_zero.1 hab)
        have hba : b.C a = 0 := by have := Rd.C_swap (a := a) (b := b); omega
        have hac : a.C c = -1 := C_lt (a := a) (b := b) (c := c) (by omega) (by omega) (by omega)
        have HAB := Lib.hid hab; have HBA := Lib.hid hba; clear hab hba
        have HBC := Lib.hid hbc; clear hbc
        have HAC := Lib.hid hac; clear hac
        have wr1 : IntKind.i64.wrap 1 = 1 := by decide
        have wr2 : IntKind.i64.wrap (-1) = -1 := by decide
        have wr3 : IntKind.i64.wrap 0 = 0 := by decide
        go_wp2_with fail
        refine wp_region_below (by kernel_rfl) (by kernel_rfl) ?_
        refine wpQuiet_step (fun K hK => ?_); refine q_load (p := .pointer (some ⟨w.heap.size, 0, none⟩)) 32 _ rfl rfl rfl (HL1.out) ?_; go_simp; (with_reducible refine hK _ ?_); clear hK K
        refine wpQuiet_step (fun K hK => ?_); refine q_load (p := .pointer (some ⟨w.heap.size + 1, 0, none⟩)) 32 _ rfl rfl rfl (HL2.out) ?_; go_simp; (with_reducible refine hK _ ?_); clear hK K
        refine wpQuiet_step (fun K hK => ?_); go_simp; (with_reducible refine ⟨_, fun _ hb => (cmp_is HAB.out _).mono fun _ _ h => ⟨h.1, hb.trans (h.2.mono (by simpa using hb.size))⟩, hK _ ?_⟩); clear hK K
        refine wpQuiet_step (fun K hK => ?_); refine q_load (p := .pointer (some ⟨w.heap.size + 1, 0, none⟩)) 32 _ rfl rfl rfl (HL2.out) ?_; go_simp; (with_reducible refine hK _ ?_); clear hK K
        refine wpQuiet_step (fun K hK => ?_); refine q_load (p := .pointer (some ⟨w.heap.size, 0, none⟩)) 32 _ rfl rfl rfl (HL1.out) ?_; go_simp; (with_reducible refine hK _ ?_); clear hK K
        refine wpQuiet_step (fun K hK => ?_); go_simp; (with_reducible refine ⟨_, fun _ hb => (cmp_is HBA.out _).mono fun _ _ h => ⟨h.1, hb.trans (h.2.mono (by simpa using hb.size))⟩, hK _ ?_⟩); clear hK K
        refine wpQuiet_step (fun K hK => ?_); go_simp; (first | (with_reducible refine hK _ ?_) | (with_reducible refine ⟨_, fun _ _ => rfl, hK _ ?_⟩)); clear hK K
        refine wpQuiet_step (fun K hK => ?_); go_simp; (first | (with_reducible refine hK _ ?_) | (with_reducible refine ⟨_, fun _ _ => rfl, hK _ ?_⟩)); clear hK K
        refine wpQuiet_step (fun K hK => ?_); go_simp; (first | (with_reducible refine hK _ ?_) | (with_reducible refine ⟨_, fun _ _ => rfl, hK _ ?_⟩)); clear hK K
        refine wpQuiet_step (fun K hK => ?_); refine q_load (p := .pointer (some ⟨w.heap.size, 0, none⟩)) 32 _ rfl rfl rfl (HL1.out) ?_; go_simp; (with_reducible refine hK _ ?_); clear hK K
        refine wpQuiet_step (fun K hK => ?_); refine q_load (p := .pointer (some ⟨w.heap.size + 1, 0, none⟩)) 32 _ rfl rfl rfl (HL2.out) ?_; go_simp; (with_reducible refine hK _ ?_); clear hK K
        refine wpQuiet_step (fun K hK => ?_); go_simp; (with_reducible refine ⟨_, fun _ hb => (cmp_is HAB.out _).mono fun _ _ h => ⟨h.1, hb.trans (h.2.mono (by simpa using hb.size))⟩, hK _ ?_⟩); clear hK K
        refine wpQuiet_step (fun K hK => ?_); go_simp; (first | (with_reducible refine hK _ ?_) | (with_reducible refine ⟨_, fun _ _ => rfl, hK _ ?_⟩)); clear hK K
        refine wpQuiet_step (fun K hK => ?_); refine q_load (p := .pointer (some ⟨w.heap.size, 0, none⟩)) 32 _ rfl rfl rfl (HL1.out) ?_; go_simp; (with_reducible refine hK _ ?_); clear hK K
        refine wpQuiet_step (fun K hK => ?_); refine q_load (p := .pointer (some ⟨w.heap.size + 1, 0, none⟩)) 32 _ rfl rfl rfl (HL2.out) ?_; go_simp; (with_reducible refine hK _ ?_); clear hK K
        refine wpQuiet_step (fun K hK => ?_); refine q_bin _ _ _ _ _ rfl rfl rfl rfl (eq_r _ _ a b) ?_; go_simp; (with_reducible refine hK _ ?_); clear hK K
        refine wpQuiet_step (fun K hK => ?_); go_simp; (first | (with_reducible refine hK _ ?_) | (with_reducible refine ⟨_, fun _ _ => rfl, hK _ ?_⟩)); clear hK K
        refine wpQuiet_step (fun K hK => ?_); go_simp; (first | (with_reducible refine hK _ ?_) | (with_reducible refine ⟨_, fun _ _ => rfl, hK _ ?_⟩)); clear hK K
        refine wpQuiet_step (fun K hK => ?_); go_simp; (first | (with_reducible refine hK _ ?_) | (with_reducible refine ⟨_, fun _ _ => rfl, hK _ ?_⟩)); clear hK K
        refine wpQuiet_step (fun K hK => ?_); refine q_load (p := .pointer (some ⟨w.heap.size, 0, none⟩)) 32 _ rfl rfl rfl (HL1.out) ?_; go_simp; (with_reducible refine hK _ ?_); clear hK K
        refine wpQuiet_step (fun K hK => ?_); refine q_load (p := .pointer (some ⟨w.heap.size + 1, 0, none⟩)) 32 _ rfl rfl rfl (HL2.out) ?_; go_simp; (with_reducible refine hK _ ?_); clear hK K
        refine wpQuiet_step (fun K hK => ?_); go_simp; (with_reducible refine ⟨_, fun _ hb => (cmp_is HAB.out _).mono fun _ _ h => ⟨h.1, hb.trans (h.2.mono (by simpa using hb.size))⟩, hK _ ?_⟩); clear hK K
        refine wpQuiet_step (fun K hK => ?_); go_simp; (first | (with_reducible refine hK _ ?_) | (with_reducible refine ⟨_, fun _ _ => rfl, hK _ ?_⟩)); clear hK K
        refine wpQuiet_step (fun K hK => ?_); go_simp; (first | (with_reducible refine hK _ ?_) | (with_reducible refine ⟨_, fun _ _ => rfl, hK _ ?_⟩)); clear hK K
        refine wpQuiet_step (fun K hK => ?_); refine q_load (p := .pointer (some ⟨w.heap.size + 1, 0, none⟩)) 32 _ rfl rfl rfl (HL2.out) ?_; go_simp; (with_reducible refine hK _ ?_); clear hK K
        refine wpQuiet_step (fun K hK => ?_); refine q_load (p := .pointer (some ⟨w.heap.size + 1 + 1, 0, none⟩)) 32 _ rfl rfl rfl (HL3.out) ?_; go_simp; (with_reducible refine hK _ ?_); clear hK K
        refine wpQuiet_step (fun K hK => ?_); go_simp; (with_reducible refine ⟨_, fun _ hb => (cmp_is HBC.out _).mono fun _ _ h => ⟨h.1, hb.trans (h.2.mono (by simpa using hb.size))⟩, hK _ ?_⟩); clear hK K
        refine wpQuiet_step (fun K hK => ?_); go_simp; (first | (with_reducible refine hK _ ?_) | (with_reducible refine ⟨_, fun _ _ => rfl, hK _ ?_⟩)); clear hK K
        refine wpQuiet_step (fun K hK => ?_); go_simp; (first | (with_reducible refine hK _ ?_) | (with_reducible refine ⟨_, fun _ _ => rfl, hK _ ?_⟩)); clear hK K
        refine wpQuiet_step (fun K hK => ?_); go_simp; (first | (with_reducible refine hK _ ?_) | (with_reducible refine ⟨_, fun _ _ => rfl, hK _ ?_⟩)); clear hK K
        refine wpQuiet_step (fun K hK => ?_); refine q_load (p := .pointer (some ⟨w.heap.size, 0, none⟩)) 32 _ rfl rfl rfl (HL1.out) ?_; go_simp; (with_reducible refine hK _ ?_); clear hK K
        refine wpQuiet_step (fun K hK => ?_); refine q_load (p := .pointer (some ⟨w.heap.size + 1 + 1, 0, none⟩)) 32 _ rfl rfl rfl (HL3.out) ?_; go_simp; (with_reducible refine hK _ ?_); clear hK K
        refine wpQuiet_step (fun K hK => ?_); go_simp; (with_reducible refine ⟨_, fun _ hb => (cmp_is HAC.out _).mono fun _ _ h => ⟨h.1, hb.trans (h.2.mono (by simpa using hb.size))⟩, hK _ ?_⟩); clear hK K
        refine wpQuiet_step (fun K hK => ?_); go_simp; (first | (with_reducible refine hK _ ?_) | (with_reducible refine ⟨_, fun _ _ => rfl, hK _ ?_⟩)); clear hK K
        refine wpQuiet_step (fun K hK => ?_); go_simp; (first | (with_reducible refine hK _ ?_) | (with_reducible refine ⟨_, fun _ _ => rfl, hK _ ?_⟩)); clear hK K
        refine wpQuiet_step (fun K hK => ?_); go_simp; (first | (with_reducible refine hK _ ?_) | (with_reducible refine ⟨_, fun _ _ => rfl, hK _ ?_⟩)); clear hK K
        refine wpQuiet_nil ?_
        intro wy hb
        have h := HA.out.below hb; clear HA; have HA := Lib.hid h; clear h
        have h := Hb.out.trans (hb.mono Hb.out.size); clear Hb hb HL1 HL2 HL3; have Hb := Lib.hid h; clear h
        have hc := HSO.out wy _ HA.out
        have HC := Lib.hid hc; clear hc
        go_wp2_with fail
        refine HC.out.mono ?_; rintro e w5 ⟨⟨v, rfl, hr⟩, hb0⟩
        clear HC
        have hb := hb0
        clear hb0
        have h := HA.out.below hb; clear HA; have HA := Lib.hid h; clear h
        have h := Hb.out.trans (hb.mono Hb.out.size); clear Hb hb; have Hb := Lib.hid h; clear h
        obtain ⟨A1, c1, rfl, z1⟩ := hr
        have H1 := Lib.hid (show RowV w5 (.slice A1 (s : List Rd).length c1) s from ⟨A1, c1, rfl, z1⟩); clear z1
        dsimp only
        have HT1 := Lib.hid (ts_of H1.out)
        clear HA H1 HSO he
        go_wp2_with fail
        go_loopw [10] (fun vi wr => ∃ k : Nat, vi = .int .i64 ((k : Int) + 1) ∧ k ≤ s.length ∧ Below w5.heap.size w5 wr) (fun vi _ => s.length + 1 - (intOf vi).toNat)
        case atStart => exact ⟨0, by simp, by omega, Below.refl _ _⟩
        case round =>
          obtain ⟨k, rfl, hk, hbr⟩ := hrel
          have HBR := Lib.hid hbr; clear hbr
          by_cases hlt : k + 1 < s.length
          · have hltz : (k : Int) + 1 < (s.length : Int) := by omega
            have d2 : decide ((k : Int) + 1 < (s.length : Int)) = true := by simp; omega
            obtain ⟨x, hx⟩ : ∃ x, s[k]? = some x := ⟨_, List.getElem?_eq_getElem (by omega)⟩
            obtain ⟨y, hy⟩ : ∃ y, s[k + 1]? = some y := ⟨_, List.getElem?_eq_getElem hlt⟩
            obtain ⟨n, hn⟩ : ∃ n, x.C y = n := ⟨_, rfl⟩
            have hn0 : n ≤ 0 := by rw [← hn]; exact rises HSS.out hx hy
            have d3 : decide (0 < n) = false := by simp; omega
            have d4 : decide (n > 0) = false := by simp; omega
            have hn1 : ¬ 0 < n := by omega
            have wk : IntKind.i64.wrap (k : Int) = (k : Int) := IntWalk.i64_in _ (by omega)
            have hk1 : (k : Int) < (s.length : Int) := by omega
            have zk : 0 ≤ (k : Int) + 1 := by omega
            have tk : ((k : Int) + 1).toNat = k + 1 := by omega
            obtain ⟨b1, o1, rfl, hb1, hload1⟩ := load_r HT1.out hx
            obtain ⟨b2, o2, e2, _, hload2⟩ := load_r HT1.out hy
            cases e2
            have HX := Lib.hid (fun w' (hb : Below wr.heap.size wr w') => hload1 w' (HBR.out.trans (hb.mono HBR.out.size)))
            have HY := Lib.hid (fun w' (hb : Below wr.heap.size wr w') => hload2 w' (HBR.out.trans (hb.mono HBR.out.size)))
            have HN := Lib.hid hn
            clear hx hy hn hload1 hload2
            go_wp2_with fail
            refine wp_region_below (by kernel_rfl) (by kernel_rfl) ?_
            refine wpQuiet_step (fun K hK => ?_); go_simp; (first | (with_reducible refine hK _ ?_) | (with_reducible refine ⟨_, fun _ _ => rfl, hK _ ?_⟩)); clear hK K
            refine wpQuiet_step (fun K hK => ?_); go_simp; (first | (with_reducible refine hK _ ?_) | (with_reducible refine ⟨_, fun _ _ => rfl, hK _ ?_⟩)); clear hK K
            refine wpQuiet_step (fun K hK => ?_); go_simp; (first | (with_reducible refine hK _ ?_) | (with_reducible refine ⟨_, fun _ _ => rfl, hK _ ?_⟩)); clear hK K
            refine wpQuiet_step (fun K hK => ?_); go_simp; (first | (with_reducible refine hK _ ?_) | (with_reducible refine ⟨_, fun _ _ => rfl, hK _ ?_⟩)); clear hK K
            refine wpQuiet_step (fun K hK => ?_); refine q_load (p := .pointer (some ⟨b1, o1 + k * 2, none⟩)) 32 _ rfl rfl rfl (HX.out) ?_; go_simp; (with_reducible refine hK _ ?_); clear hK K
            refine wpQuiet_step (fun K hK => ?_); go_simp; (first | (with_reducible refine hK _ ?_) | (with_reducible refine ⟨_, fun _ _ => rfl, hK _ ?_⟩)); clear hK K
            refine wpQuiet_step (fun K hK => ?_); go_simp; (first | (with_reducible refine hK _ ?_) | (with_reducible refine ⟨_, fun _ _ => rfl, hK _ ?_⟩)); clear hK K
            refine wpQuiet_step (fun K hK => ?_); go_simp; (first | (with_reducible refine hK _ ?_) | (with_reducible refine ⟨_, fun _ _ => rfl, hK _ ?_⟩)); clear hK K
            refine wpQuiet_step (fun K hK => ?_); refine q_load (p := .pointer (some ⟨b1, o1 + (k + 1) * 2, none⟩)) 32 _ rfl rfl rfl (HY.out) ?_; go_simp; (with_reducible refine hK _ ?_); clear hK K
            refine wpQuiet_step (fun K hK => ?_); go_simp; (with_reducible refine ⟨_, fun _ hb => (cmp_is HN.out _).mono fun _ _ h => ⟨h.1, hb.trans (h.2.mono (by simpa using hb.size))⟩, hK _ ?_⟩); clear hK K
            refine wpQuiet_step (fun K hK => ?_); go_simp; (first | (with_reducible refine hK _ ?_) | (with_reducible refine ⟨_, fun _ _ => rfl, hK _ ?_⟩)); clear hK K
            refine wpQuiet_nil ?_
            intro wz hbz
            have HBZ := Lib.hid hbz; clear hbz
            go_wp2_with fail
            go_roundw
            case rel => exact ⟨k + 1, by simp, by omega, HBR.out.trans (HBZ.out.mono HBR.out.size)⟩
            case measure => simp only [intOf]; omega
          · have hltz : ¬ (k : Int) + 1 < (s.length : Int) := by omega
            have d2 : decide ((k : Int) + 1 < (s.length : Int)) = false := by simp; omega
            have h := Hb.out.trans (HBR.out.mono Hb.out.size); clear Hb; have Hb := Lib.hid h; clear h
            have hc := works_any wr
            have HC := Lib.hid hc; clear hc
            go_wp2_with fail
            refine HC.out.mono ?_; rintro e w10 ⟨rfl, hb0⟩
            clear HC
            have hb := hb0
            clear hb0
            have h := Hb.out.trans (hb.mono Hb.out.size); clear Hb hb; have Hb := Lib.hid h; clear h
            dsimp only
            go_wp2_with fail
            go_ret
            exact ⟨rfl, Hb.out⟩
            rename_i hne; exact absurd (by have := HSL.out; omega) hne
      · have he : eqB a b = true := eqB_yes (Rd.C_zero.1 hab)
        have hba : b.C a = 0 := by have := Rd.C_swap (a := a) (b := b); omega
        have hac : a.C c = 0 := by have e1 := Rd.C_zero.1 hab; have e2 := Rd.C_zero.1 hbc; subst e1; subst e2; exact Rd.C_zero.2 rfl
        have HAB := Lib.hid hab; have HBA := Lib.hid hba; clear hab hba
        have HBC := Lib.hid hbc; clear hbc
        have HAC := Lib.hid hac; clear hac
        have wr1 : IntKind.i64.wrap 1 = 1 := by decide
        have wr2 : IntKind.i64.wrap (-1) = -1 := by decide
        have wr3 : IntKind.i64.wrap 0 = 0 := by decide
        go_wp2_with fail
        refine wp_region_below (by kernel_rfl) (by kernel_rfl) ?_
        refine wpQuiet_step (fun K hK => ?_); refine q_load (p := .pointer (some ⟨w.heap.size, 0, none⟩)) 32 _ rfl rfl rfl (HL1.out) ?_; go_simp; (with_reducible refine hK _ ?_); clear hK K
        refine wpQuiet_step (fun K hK => ?_); refine q_load (p := .pointer (some ⟨w.heap.size + 1, 0, none⟩)) 32 _ rfl rfl rfl (HL2.out) ?_; go_simp; (with_reducible refine hK _ ?_); clear hK K
        refine wpQuiet_step (fun K hK => ?_); go_simp; (with_reducible refine ⟨_, fun _ hb => (cmp_is HAB.out _).mono fun _ _ h => ⟨h.1, hb.trans (h.2.mono (by simpa using hb.size))⟩, hK _ ?_⟩); clear hK K
        refine wpQuiet_step (fun K hK => ?_); refine q_load (p := .pointer (some ⟨w.heap.size + 1, 0, none⟩)) 32 _ rfl rfl rfl (HL2.out) ?_; go_simp; (with_reducible refine hK _ ?_); clear hK K
        refine wpQuiet_step (fun K hK => ?_); refine q_load (p := .pointer (some ⟨w.heap.size, 0, none⟩)) 32 _ rfl rfl rfl (HL1.out) ?_; go_simp; (with_reducible refine hK _ ?_); clear hK K
        refine wpQuiet_step (fun K hK => ?_); go_simp; (with_reducible refine ⟨_, fun _ hb => (cmp_is HBA.out _).mono fun _ _ h => ⟨h.1, hb.trans (h.2.mono (by simpa using hb.size))⟩, hK _ ?_⟩); clear hK K
        refine wpQuiet_step (fun K hK => ?_); go_simp; (first | (with_reducible refine hK _ ?_) | (with_reducible refine ⟨_, fun _ _ => rfl, hK _ ?_⟩)); clear hK K
        refine wpQuiet_step (fun K hK => ?_); go_simp; (first | (with_reducible refine hK _ ?_) | (with_reducible refine ⟨_, fun _ _ => rfl, hK _ ?_⟩)); clear hK K
        refine wpQuiet_step (fun K hK => ?_); go_simp; (first | (with_reducible refine hK _ ?_) | (with_reducible refine ⟨_, fun _ _ => rfl, hK _ ?_⟩)); clear hK K
        refine wpQuiet_step (fun K hK => ?_); refine q_load (p := .pointer (some ⟨w.heap.size, 0, none⟩)) 32 _ rfl rfl rfl (HL1.out) ?_; go_simp; (with_reducible refine hK _ ?_); clear hK K
        refine wpQuiet_step (fun K hK => ?_); refine q_load (p := .pointer (some ⟨w.heap.size + 1, 0, none⟩)) 32 _ rfl rfl rfl (HL2.out) ?_; go_simp; (with_reducible refine hK _ ?_); clear hK K
        refine wpQuiet_step (fun K hK => ?_); go_simp; (with_reducible refine ⟨_, fun _ hb => (cmp_is HAB.out _).mono fun _ _ h => ⟨h.1, hb.trans (h.2.mono (by simpa using hb.size))⟩, hK _ ?_⟩); clear hK K
        refine wpQuiet_step (fun K hK => ?_); go_simp; (first | (with_reducible refine hK _ ?_) | (with_reducible refine ⟨_, fun _ _ => rfl, hK _ ?_⟩)); clear hK K
        refine wpQuiet_step (fun K hK => ?_); refine q_load (p := .pointer (some ⟨w.heap.size, 0, none⟩)) 32 _ rfl rfl rfl (HL1.out) ?_; go_simp; (with_reducible refine hK _ ?_); clear hK K
        refine wpQuiet_step (fun K hK => ?_); refine q_load (p := .pointer (some ⟨w.heap.size + 1, 0, none⟩)) 32 _ rfl rfl rfl (HL2.out) ?_; go_simp; (with_reducible refine hK _ ?_); clear hK K
        refine wpQuiet_step (fun K hK => ?_); refine q_bin _ _ _ _ _ rfl rfl rfl rfl (eq_r _ _ a b) ?_; go_simp; (with_reducible refine hK _ ?_); clear hK K
        refine wpQuiet_step (fun K hK => ?_); go_simp; (first | (with_reducible refine hK _ ?_) | (with_reducible refine ⟨_, fun _ _ => rfl, hK _ ?_⟩)); clear hK K
        refine wpQuiet_step (fun K hK => ?_); go_simp; (first | (with_reducible refine hK _ ?_) | (with_reducible refine ⟨_, fun _ _ => rfl, hK _ ?_⟩)); clear hK K
        refine wpQuiet_step (fun K hK => ?_); go_simp; (first | (with_reducible refine hK _ ?_) | (with_reducible refine ⟨_, fun _ _ => rfl, hK _ ?_⟩)); clear hK K
        refine wpQuiet_step (fun K hK => ?_); refine q_load (p := .pointer (some ⟨w.heap.size, 0, none⟩)) 32 _ rfl rfl rfl (HL1.out) ?_; go_simp; (with_reducible refine hK _ ?_); clear hK K
        refine wpQuiet_step (fun K hK => ?_); refine q_load (p := .pointer (some ⟨w.heap.size + 1, 0, none⟩)) 32 _ rfl rfl rfl (HL2.out) ?_; go_simp; (with_reducible refine hK _ ?_); clear hK K
        refine wpQuiet_step (fun K hK => ?_); go_simp; (with_reducible refine ⟨_, fun _ hb => (cmp_is HAB.out _).mono fun _ _ h => ⟨h.1, hb.trans (h.2.mono (by simpa using hb.size))⟩, hK _ ?_⟩); clear hK K
        refine wpQuiet_step (fun K hK => ?_); go_simp; (first | (with_reducible refine hK _ ?_) | (with_reducible refine ⟨_, fun _ _ => rfl, hK _ ?_⟩)); clear hK K
        refine wpQuiet_step (fun K hK => ?_); go_simp; (first | (with_reducible refine hK _ ?_) | (with_reducible refine ⟨_, fun _ _ => rfl, hK _ ?_⟩)); clear hK K
        refine wpQuiet_step (fun K hK => ?_); refine q_load (p := .pointer (some ⟨w.heap.size + 1, 0, none⟩)) 32 _ rfl rfl rfl (HL2.out) ?_; go_simp; (with_reducible refine hK _ ?_); clear hK K
        refine wpQuiet_step (fun K hK => ?_); refine q_load (p := .pointer (some ⟨w.heap.size + 1 + 1, 0, none⟩)) 32 _ rfl rfl rfl (HL3.out) ?_; go_simp; (with_reducible refine hK _ ?_); clear hK K
        refine wpQuiet_step (fun K hK => ?_); go_simp; (with_reducible refine ⟨_, fun _ hb => (cmp_is HBC.out _).mono fun _ _ h => ⟨h.1, hb.trans (h.2.mono (by simpa using hb.size))⟩, hK _ ?_⟩); clear hK K
        refine wpQuiet_step (fun K hK => ?_); go_simp; (first | (with_reducible refine hK _ ?_) | (with_reducible refine ⟨_, fun _ _ => rfl, hK _ ?_⟩)); clear hK K
        refine wpQuiet_step (fun K hK => ?_); go_simp; (first | (with_reducible refine hK _ ?_) | (with_reducible refine ⟨_, fun _ _ => rfl, hK _ ?_⟩)); clear hK K
        refine wpQuiet_step (fun K hK => ?_); go_simp; (first | (with_reducible refine hK _ ?_) | (with_reducible refine ⟨_, fun _ _ => rfl, hK _ ?_⟩)); clear hK K
        refine wpQuiet_step (fun K hK => ?_); refine q_load (p := .pointer (some ⟨w.heap.size, 0, none⟩)) 32 _ rfl rfl rfl (HL1.out) ?_; go_simp; (with_reducible refine hK _ ?_); clear hK K
        refine wpQuiet_step (fun K hK => ?_); refine q_load (p := .pointer (some ⟨w.heap.size + 1 + 1, 0, none⟩)) 32 _ rfl rfl rfl (HL3.out) ?_; go_simp; (with_reducible refine hK _ ?_); clear hK K
        refine wpQuiet_step (fun K hK => ?_); go_simp; (with_reducible refine ⟨_, fun _ hb => (cmp_is HAC.out _).mono fun _ _ h => ⟨h.1, hb.trans (h.2.mono (by simpa using hb.size))⟩, hK _ ?_⟩); clear hK K
        refine wpQuiet_step (fun K hK => ?_); go_simp; (first | (with_reducible refine hK _ ?_) | (with_reducible refine ⟨_, fun _ _ => rfl, hK _ ?_⟩)); clear hK K
        refine wpQuiet_step (fun K hK => ?_); go_simp; (first | (with_reducible refine hK _ ?_) | (with_reducible refine ⟨_, fun _ _ => rfl, hK _ ?_⟩)); clear hK K
        refine wpQuiet_step (fun K hK => ?_); go_simp; (first | (with_reducible refine hK _ ?_) | (with_reducible refine ⟨_, fun _ _ => rfl, hK _ ?_⟩)); clear hK K
        refine wpQuiet_nil ?_
        intro wy hb
        have h := HA.out.below hb; clear HA; have HA := Lib.hid h; clear h
        have h := Hb.out.trans (hb.mono Hb.out.size); clear Hb hb HL1 HL2 HL3; have Hb := Lib.hid h; clear h
        have hc := HSO.out wy _ HA.out
        have HC := Lib.hid hc; clear hc
        go_wp2_with fail
        refine HC.out.mono ?_; rintro e w5 ⟨⟨v, rfl, hr⟩, hb0⟩
        clear HC
        have hb := hb0
        clear hb0
        have h := HA.out.below hb; clear HA; have HA := Lib.hid h; clear h
        have h := Hb.out.trans (hb.mono Hb.out.size); clear Hb hb; have Hb := Lib.hid h; clear h
        obtain ⟨A1, c1, rfl, z1⟩ := hr
        have H1 := Lib.hid (show RowV w5 (.slice A1 (s : List Rd).length c1) s from ⟨A1, c1, rfl, z1⟩); clear z1
        dsimp only
        have HT1 := Lib.hid (ts_of H1.out)
        clear HA H1 HSO he
        go_wp2_with fail
        go_loopw [10] (fun vi wr => ∃ k : Nat, vi = .int .i64 ((k : Int) + 1) ∧ k ≤ s.length ∧ Below w5.heap.size w5 wr) (fun vi _ => s.length + 1 - (intOf vi).toNat)
        case atStart => exact ⟨0, by simp, by omega, Below.refl _ _⟩
        case round =>
          obtain ⟨k, rfl, hk, hbr⟩ := hrel
          have HBR := Lib.hid hbr; clear hbr
          by_cases hlt : k + 1 < s.length
          · have hltz : (k : Int) + 1 < (s.length : Int) := by omega
            have d2 : decide ((k : Int) + 1 < (s.length : Int)) = true := by simp; omega
            obtain ⟨x, hx⟩ : ∃ x, s[k]? = some x := ⟨_, List.getElem?_eq_getElem (by omega)⟩
            obtain ⟨y, hy⟩ : ∃ y, s[k + 1]? = some y := ⟨_, List.getElem?_eq_getElem hlt⟩
            obtain ⟨n, hn⟩ : ∃ n, x.C y = n := ⟨_, rfl⟩
            have hn0 : n ≤ 0 := by rw [← hn]; exact rises HSS.out hx hy
            have d3 : decide (0 < n) = false := by simp; omega
            have d4 : decide (n > 0) = false := by simp; omega
            have hn1 : ¬ 0 < n := by omega
            have wk : IntKind.i64.wrap (k : Int) = (k : Int) := IntWalk.i64_in _ (by omega)
            have hk1 : (k : Int) < (s.length : Int) := by omega
            have zk : 0 ≤ (k : Int) + 1 := by omega
            have tk : ((k : Int) + 1).toNat = k + 1 := by omega
            obtain ⟨b1, o1, rfl, hb1, hload1⟩ := load_r HT1.out hx
            obtain ⟨b2, o2, e2, _, hload2⟩ := load_r HT1.out hy
            cases e2
            have HX := Lib.hid (fun w' (hb : Below wr.heap.size wr w') => hload1 w' (HBR.out.trans (hb.mono HBR.out.size)))
            have HY := Lib.hid (fun w' (hb : Below wr.heap.size wr w') => hload2 w' (HBR.out.trans (hb.mono HBR.out.size)))
            have HN := Lib.hid hn
            clear hx hy hn hload1 hload2
            go_wp2_with fail
            refine wp_region_below (by kernel_rfl) (by kernel_rfl) ?_
            refine wpQuiet_step (fun K hK => ?_); go_simp; (first | (with_reducible refine hK _ ?_) | (with_reducible refine ⟨_, fun _ _ => rfl, hK _ ?_⟩)); clear hK K
            refine wpQuiet_step (fun K hK => ?_); go_simp; (first | (with_reducible refine hK _ ?_) | (with_reducible refine ⟨_, fun _ _ => rfl, hK _ ?_⟩)); clear hK K
            refine wpQuiet_step (fun K hK => ?_); go_simp; (first | (with_reducible refine hK _ ?_) | (with_reducible refine ⟨_, fun _ _ => rfl, hK _ ?_⟩)); clear hK K
            refine wpQuiet_step (fun K hK => ?_); go_simp; (first | (with_reducible refine hK _ ?_) | (with_reducible refine ⟨_, fun _ _ => rfl, hK _ ?_⟩)); clear hK K
            refine wpQuiet_step (fun K hK => ?_); refine q_load (p := .pointer (some ⟨b1, o1 + k * 2, none⟩)) 32 _ rfl rfl rfl (HX.out) ?_; go_simp; (with_reducible refine hK _ ?_); clear hK K
            refine wpQuiet_step (fun K hK => ?_); go_simp; (first | (with_reducible refine hK _ ?_) | (with_reducible refine ⟨_, fun _ _ => rfl, hK _ ?_⟩)); clear hK K
            refine wpQuiet_step (fun K hK => ?_); go_simp; (first | (with_reducible refine hK _ ?_) | (with_reducible refine ⟨_, fun _ _ => rfl, hK _ ?_⟩)); clear hK K
            refine wpQuiet_step (fun K hK => ?_); go_simp; (first | (with_reducible refine hK _ ?_) | (with_reducible refine ⟨_, fun _ _ => rfl, hK _ ?_⟩)); clear hK K
            refine wpQuiet_step (fun K hK => ?_); refine q_load (p := .pointer (some ⟨b1, o1 + (k + 1) * 2, none⟩)) 32 _ rfl rfl rfl (HY.out) ?_; go_simp; (with_reducible refine hK _ ?_); clear hK K
            refine wpQuiet_step (fun K hK => ?_); go_simp; (with_reducible refine ⟨_, fun _ hb => (cmp_is HN.out _).mono fun _ _ h => ⟨h.1, hb.trans (h.2.mono (by simpa using hb.size))⟩, hK _ ?_⟩); clear hK K
            refine wpQuiet_step (fun K hK => ?_); go_simp; (first | (with_reducible refine hK _ ?_) | (with_reducible refine ⟨_, fun _ _ => rfl, hK _ ?_⟩)); clear hK K
            refine wpQuiet_nil ?_
            intro wz hbz
            have HBZ := Lib.hid hbz; clear hbz
            go_wp2_with fail
            go_roundw
            case rel => exact ⟨k + 1, by simp, by omega, HBR.out.trans (HBZ.out.mono HBR.out.size)⟩
            case measure => simp only [intOf]; omega
          · have hltz : ¬ (k : Int) + 1 < (s.length : Int) := by omega
            have d2 : decide ((k : Int) + 1 < (s.length : Int)) = false := by simp; omega
            have h := Hb.out.trans (HBR.out.mono Hb.out.size); clear Hb; have Hb := Lib.hid h; clear h
            have hc := works_any wr
            have HC := Lib.hid hc; clear hc
            go_wp2_with fail
            refine HC.out.mono ?_; rintro e w10 ⟨rfl, hb0⟩
            clear HC
            have hb := hb0
            clear hb0
            have h := Hb.out.trans (hb.mono Hb.out.size); clear Hb hb; have Hb := Lib.hid h; clear h
            dsimp only
            go_wp2_with fail
            go_ret
            exact ⟨rfl, Hb.out⟩
            rename_i hne; exact absurd (by have := HSL.out; omega) hne

set_option maxRecDepth 100000 in
theorem lifted (os : Os) (started : os.Started) (H : Type) (enc : TypeId × Value → H) :
    ReturnsInHanded {} Try.checked os 6 .any (Rows.valueOrderSpec.pre6 enc Try.prog Try.f6 Rows.valueOrderRow.domain false) (Rows.valueOrderSpec.post enc Try.prog Try.f6 false true false false) := by
  refine returnsInHanded_of_change_sized (C := Try.checked) ownKnob_none started (by kernel_rfl) Try.func6
    (ChangeSpec.witness6 (enc := enc) (C := Try.checked) false ⟨#[], #[.agg #[.int .i64 0, .int .i64 0], .agg #[.int .i64 0, .int .i64 0], .agg #[.int .i64 0, .int .i64 0], .slice none 0 0], []⟩ 8 (by kernel_rfl) (by kernel_rfl) (by kernel_rfl) (by kernel_rfl)) ?_
  intro W base args ds gs before hval0 hW hcnd hsz0 _
  have hval : ∀ (j : Nat) t v, Try.f6.params[j]? = some t → args[j]? = some v → Value.okWide Try.prog W .any base t v := hval0
  have hW' := hW
  obtain ⟨p, q, hA0, hV, rfl, hfz, hnd⟩ := hW
  have hA : DataW.TrodAll enc Try.prog W 0 (fun _ => true) true Try.f6.params.toList args.toList ds p := hA0
  have hsz : (DataW.weightsEach Try.prog (Try.f6.params.toList ++ Rows.valueOrderSpec.plain.varTypes Try.prog) (ds ++ gs)).all (· ≤ reachBytes) = true := hsz0
  rw [Try.params6] at hA hval hsz
  obtain ⟨v0, vs0, d0, ds0, p0, q0, hargs, rfl, rfl, h0, r0⟩ := trodAll_cons hA
  obtain ⟨v1, vs1, d1, ds1, p1, q1, rfl, rfl, rfl, h1, r1⟩ := trodAll_cons r0
  obtain ⟨v2, vs2, d2, ds2, p2, q2, rfl, rfl, rfl, h2, r2⟩ := trodAll_cons r1
  obtain ⟨v3, vs3, d3, ds3, p3, q3, rfl, rfl, rfl, h3, r3⟩ := trodAll_cons r2
  obtain ⟨rfl, rfl, rfl⟩ := trodAll_nil r3
  obtain rfl : args = #[v0, v1, v2, v3] := by cases args; simp_all
  obtain ⟨rfl, rfl⟩ := trodVars_none hV
  obtain ⟨t0, rfl, hw0⟩ := Vr.open_rec (hval 0 32 v0 rfl rfl) h0
  obtain ⟨t1, rfl, hw1⟩ := Vr.open_rec (hval 1 32 v1 rfl rfl) h1
  obtain ⟨t2, rfl, hw2⟩ := Vr.open_rec (hval 2 32 v2 rfl rfl) h2
  obtain ⟨A3, l3, c3, rfl, hT3, hw3, hc3, hm3, hn3⟩ := Vr.open_recs (hval 3 22 v3 rfl rfl) h3
  clear hA0 hval0 hsz0
  refine (walk t0 t1 t2 A3 l3 c3 W ⟨A3, c3, rfl, hT3, hn3, hc3, hm3⟩).mono fun e W' ⟨he, hg⟩ => ?_
  subst he
  exact ⟨_, rfl, law_post progLaid hW' rfl (by rw [Try.params6]; intro t ht; simp at ht; rcases ht with rfl | rfl <;> exact ⟨by kernel_rfl, of_decide_eq_true (by kernel_rfl)⟩) rfl Try.underlying4 rfl hg⟩

theorem over : Rows.valueOrderRow.holds Try.pinned (OpenSpec.ofChange Rows.valueOrderSpec) :=
  OpenClaim.holds_of_wide 6 Try.f6 rfl rfl rfl rfl rfl rfl rfl ⟨rfl, rfl, rfl, rfl, rfl⟩ rfl rfl rfl rfl rfl (by kernel_rfl) Try.func6 (by kernel_rfl)
    (of_decide_eq_true (by kernel_rfl)) (by unfold Func.isWrapper; first | (rw [if_pos (by decide +kernel)]; kernel_rfl) | (rw [if_neg (by decide +kernel)]; exact ⟨rfl, rfl⟩))
    (fun os started H enc _ => lifted os started H enc)

/-- The statement. -/
theorem proved : Rows.ValueOrderSaid :=
  over
end valueOrder
end Go.Proofs.Ytcdofkhkckodjaa
