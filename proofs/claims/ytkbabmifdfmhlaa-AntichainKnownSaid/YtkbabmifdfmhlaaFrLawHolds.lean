/- AntichainHolds: is a time in a frontier: as the document's own reading says; what is in is in for all times behind it; for all rows of at most 60 times. -/
import Derived.Test.YtkbabmifdfmhlaaFrSlc
import Derived.Test.YtkbabmifdfmhlaaFrRefHolds
namespace Go.Proofs.Ytkbabmifdfmhlaa
open Go.ChangeShapes Go.WideShapes Go.ChangeAt Go.RowKit Go.BigFrame Go.Shelf
set_option linter.unusedVariables false
set_option maxRecDepth 100000
namespace antichainHolds
theorem nee_is {x y : Operand} {i j : Int} {p : Bool} (h : (i != j) = p) : ∀ w, (do eqGuard .neq 33 x y (.int .i64 i) (.int .i64 j); binOp .neq 33 (.int .i64 i) (.int .i64 j) : Sem Value).run Try.prog w = .ok (.bool p) w := by
  intro w; subst h; go_simp
theorem good {v : Bool} {l x : List St} (h : ifS v l = x ∧ errS v = 0) : v = true ∧ x = l := by
  cases v with
  | true => exact ⟨rfl, h.1.symm⟩
  | false => have := h.2; simp [errS] at this
section
variable {l : List St} {t u x z : St} {A : Option Addr} {a : List St} {c : Nat} {w : World} {v : Bool}
theorem refHoldsW (h : Slc w A c a) (ha : a.length ≤ 1000) (hv : decide (Inside a t) = v) : ∀ w', Below w.heap.size w w' → Calls Try.prog 53 #[.slice A a.length c, t.val] w' fun e w'' => e = .returned (.bool v) ∧ Below w'.heap.size w' w'' := fun w' hw => by
  subst hv; exact refHolds_any A a c t w' (h.ts.below hw) ha h.le h.max
theorem leqW (hv : decide (u.L t) = v) : ∀ w, Calls Try.prog 54 #[u.val, t.val] w fun e w' => e = .returned (.bool v) ∧ Below w.heap.size w w' := by
  subst hv; exact fun w => leq_any u t w
theorem down (h : Inside l t) (k : u.L t) : Inside l u := by
  have hR : u.R := k.1
  have hd : u.d = t.d := by unfold St.L at k; omega
  refine ⟨⟨h.1.1, ⟨?_, ?_, List.pairwise_singleton _ _, ?_⟩, ?_⟩, ?_⟩
  · intro y hy; rw [List.mem_singleton] at hy; rw [hy]; exact hR
  · intro y hy z hz; rw [List.mem_singleton] at hy hz; rw [hy, hz]
  · intro y hy z hz _; rw [List.mem_singleton] at hy hz; rw [hy, hz]
  · intro y hy z hz; rw [List.mem_singleton] at hz; rw [hz, hd]; exact h.1.2.2 y hy t (by simp)
  · exact fun hu => h.2 (hu.mono k)
def badA (l : List St) (t : St) (e : Int) : Bool := e != 0 || !decide t.R || (match l with | [] => false | z :: _ => z.d != t.d)
theorem ofIn_iff {e : Int} (he : errS (decide (Even l)) = e) (hb : badA l t e = false) : decide (Inside (ofS l) t) = !decide (Up l t) := by
  unfold badA at hb
  simp only [Bool.or_eq_false_iff, bne_eq_false_iff_eq, Bool.not_eq_false', decide_eq_true_eq] at hb
  obtain ⟨⟨h1, h2⟩, h3⟩ := hb
  subst h1
  have hE : Even l := of_decide_eq_true (err_zero.1 he)
  have hd : ∀ y ∈ l, y.d = t.d := by
    cases l with
    | nil => intro y hy; cases hy
    | cons z r =>
      have h3 : z.d = t.d := by simpa using h3
      intro y hy
      rw [(hE y hy).2 z (by simp), h3]
  rw [Bool.eq_iff_iff, Bool.not_eq_true', decide_eq_true_iff, decide_eq_false_iff_not, ← ofS_up hE]
  constructor
  · exact fun h => h.2
  · intro h
    refine ⟨⟨ofS_fr hE, ⟨?_, ?_, List.pairwise_singleton _ _, ?_⟩, ?_⟩, h⟩
    · intro y hy; rw [List.mem_singleton] at hy; rw [hy]; exact h2
    · intro y hy z hz; rw [List.mem_singleton] at hy hz; rw [hy, hz]
    · intro y hy z hz _; rw [List.mem_singleton] at hy hz; rw [hy, hz]
    · intro y hy z hz; rw [List.mem_singleton] at hz; rw [hz]; exact hd y (mem_ofS.1 hy).1
theorem up_next {k : Nat} (hx : l[k]? = some x) : decide (Up (l.take (k + 1)) t) = (decide (Up (l.take k) t) || decide (x.L t)) := by
  rw [Bool.eq_iff_iff, List.take_add_one, hx]
  simp only [Bool.or_eq_true, decide_eq_true_iff, Up_append]
  simp [Up]
end
set_option maxRecDepth 100000 in
set_option maxHeartbeats 16000000 in
theorem walk (A : Option Addr) (l : List St) (ca : Nat) (t u : St) (w : World) (hA : Slc w A ca l) :
    Calls Try.prog 27 #[.slice A l.length ca, t.val, u.val] w fun e w' => e = .returned (.bool true) ∧ Below w.heap.size w w' := by
  have hbt := ((Below.refl w.heap.size w).alloc (Nat.le_refl _) (.cells #[.int .i64 t.d, .int .i64 t.e, .int .i64 t.x, .int .i64 t.y, .int .i64 t.z] 25)).alloc (by simp) (.cells #[.int .i64 u.d, .int .i64 u.e, .int .i64 u.x, .int .i64 u.y, .int .i64 u.z] 25)
  have hx := (Holds.made w t).alloc (.cells #[.int .i64 u.d, .int .i64 u.e, .int .i64 u.x, .int .i64 u.y, .int .i64 u.z] 25)
  have hy := Holds.made (w.alloc (.cells #[.int .i64 t.d, .int .i64 t.e, .int .i64 t.x, .int .i64 t.y, .int .i64 t.z] 25)) u
  rw [size_alloc] at hy
  have hA1 := hA.below hbt
  clear hA
  have WW := Lib.hid works_any
  have Hbx := Lib.hid hx; have Hby := Lib.hid hy; have Hl := Lib.hid hA1; have HBW := Lib.hid hbt
  clear hx hy hA1 hbt
  unfold St.val at *
  by_cases ll : 60 < l.length
  · have dl : decide ((l.length : Int) > 60) = true := decide_eq_true (by omega)
    go_enter Try.func27, Try.ntmps27
    go_wp2_with fail
    refine (WW.out _).mono ?_; rintro e we ⟨rfl, hbe⟩
    go_wp2_with fail
    go_ret
    exact ⟨rfl, HBW.out.trans (hbe.mono HBW.out.size)⟩
  have dl : decide ((l.length : Int) > 60) = false := decide_eq_false (by omega)
  have LN := Lib.hid (Nat.not_lt.1 ll)
  go_enter Try.func27, Try.ntmps27
  go_upto_region 3 with fail
  clear ll dl
  generalize (w.alloc (.cells #[.int .i64 t.d, .int .i64 t.e, .int .i64 t.x, .int .i64 t.y, .int .i64 t.z] 25)).alloc (.cells #[.int .i64 u.d, .int .i64 u.e, .int .i64 u.x, .int .i64 u.y, .int .i64 u.z] 25) = w0 at *
  obtain ⟨h1, hh1⟩ : ∃ v, decide (Inside l t) = v := ⟨_, rfl⟩
  have H1 := Lib.hid hh1; clear hh1
  obtain ⟨c0, c1, c2, c3, c4⟩ := Hbx.out.cells5
  have hlt := Hbx.out.lt
  obtain ⟨e0, e1, e2, e3, e4⟩ := Hby.out.cells5
  have hlu := Hby.out.lt
  go_wp2_with fail
  refine (holdsW (t := t) Hl.out (by have := LN.out; omega) H1.out _ (Below.refl _ _)).mono ?_; rintro e v1 ⟨rfl, hb⟩
  clear c0 c1 c2 c3 c4 hlt e0 e1 e2 e3 e4 hlu
  have hl := Hl.out.below hb; clear Hl; have Hl := Lib.hid hl; clear hl
  have hbx := Hbx.out.below hb; clear Hbx; have Hbx := Lib.hid hbx; clear hbx
  have hby := Hby.out.below hb; clear Hby; have Hby := Lib.hid hby; clear hby
  have hbw := HBW.out.trans (hb.mono HBW.out.size); clear HBW hb; have HBW := Lib.hid hbw; clear hbw
  go_upto_region 4 with fail
  go_cut [37] from 19 to 37 (fun s wx => s = .bool false ∧ Below v1.heap.size v1 wx)
  case first =>
    have H2 := Lib.hid (fun w' hw => refHoldsW (t := t) Hl.out (by have := LN.out; omega) H1.out w' hw)
    unfold St.val at *
    cases h1 with
    | false =>
      obtain ⟨c0, c1, c2, c3, c4⟩ := Hbx.out.cells5
      have hlt := Hbx.out.lt
      obtain ⟨e0, e1, e2, e3, e4⟩ := Hby.out.cells5
      have hlu := Hby.out.lt
      go_wp2_with fail
      refine (H2.out _ (Below.refl _ _)).mono ?_; rintro e v7 ⟨rfl, hb⟩
      clear c0 c1 c2 c3 c4 hlt e0 e1 e2 e3 e4 hlu
      go_wp2_with fail
      go_meet
      exact ⟨rfl, hb⟩
    | true =>
      cases hv : decide (u.L t) with
      | false =>
        have hl := leqW hv
        unfold St.val at *
        have HL := Lib.hid hl; have HV := Lib.hid hv; clear hl hv
        obtain ⟨c0, c1, c2, c3, c4⟩ := Hbx.out.cells5
        have hlt := Hbx.out.lt
        obtain ⟨e0, e1, e2, e3, e4⟩ := Hby.out.cells5
        have hlu := Hby.out.lt
        go_wp2_with fail
        refine (H2.out _ (Below.refl _ _)).mono ?_; rintro e v7 ⟨rfl, hb⟩
        clear c0 c1 c2 c3 c4 hlt e0 e1 e2 e3 e4 hlu
        have hbx := Hbx.out.below hb; have hby := Hby.out.below hb
        have HBX := Lib.hid hbx; have HBY := Lib.hid hby; have HB7 := Lib.hid hb; clear hbx hby hb
        obtain ⟨c0, c1, c2, c3, c4⟩ := HBX.out.cells5
        have hlt := HBX.out.lt
        obtain ⟨e0, e1, e2, e3, e4⟩ := HBY.out.cells5
        have hlu := HBY.out.lt
        go_wp2_with fail
        refine (HL.out _).mono ?_; rintro e v8 ⟨rfl, hb⟩
        clear c0 c1 c2 c3 c4 hlt e0 e1 e2 e3 e4 hlu
        have HB8 := Lib.hid (HB7.out.trans (hb.mono HB7.out.size))
        clear hb
        go_wp2_with fail
        go_meet
        exact ⟨rfl, HB8.out⟩
      | true =>
        have hl := leqW hv
        unfold St.val at *
        have HL := Lib.hid hl; have HV := Lib.hid hv; clear hl hv
        obtain ⟨c0, c1, c2, c3, c4⟩ := Hbx.out.cells5
        have hlt := Hbx.out.lt
        obtain ⟨e0, e1, e2, e3, e4⟩ := Hby.out.cells5
        have hlu := Hby.out.lt
        go_wp2_with fail
        refine (H2.out _ (Below.refl _ _)).mono ?_; rintro e v7 ⟨rfl, hb⟩
        clear c0 c1 c2 c3 c4 hlt e0 e1 e2 e3 e4 hlu
        have hbx := Hbx.out.below hb; have hby := Hby.out.below hb
        have HBX := Lib.hid hbx; have HBY := Lib.hid hby; have HB7 := Lib.hid hb; clear hbx hby hb
        obtain ⟨c0, c1, c2, c3, c4⟩ := HBX.out.cells5
        have hlt := HBX.out.lt
        obtain ⟨e0, e1, e2, e3, e4⟩ := HBY.out.cells5
        have hlu := HBY.out.lt
        go_wp2_with fail
        refine (HL.out _).mono ?_; rintro e v8 ⟨rfl, hb⟩
        clear c0 c1 c2 c3 c4 hlt e0 e1 e2 e3 e4 hlu
        have HB8 := Lib.hid (HB7.out.trans (hb.mono HB7.out.size))
        have hby := HBY.out.below hb; have hbx := HBX.out.below hb
        clear HBY HBX; have HBX := Lib.hid hbx; have HBY := Lib.hid hby; clear hb hbx hby
        obtain ⟨c0, c1, c2, c3, c4⟩ := HBX.out.cells5
        have hlt := HBX.out.lt
        obtain ⟨e0, e1, e2, e3, e4⟩ := HBY.out.cells5
        have hlu := HBY.out.lt
        go_wp2_with fail
        refine (holdsW (t := u) Hl.out (by have := LN.out; omega) (decide_eq_true (down (of_decide_eq_true H1.out) (of_decide_eq_true HV.out))) _ HB8.out).mono ?_; rintro e v9 ⟨rfl, hb⟩
        clear c0 c1 c2 c3 c4 hlt e0 e1 e2 e3 e4 hlu
        go_wp2_with fail
        go_meet
        exact ⟨rfl, HB8.out.trans (hb.mono HB8.out.size)⟩
  case rest =>
    obtain ⟨rfl, hbel⟩ := hcut
    have hl := Hl.out.below hbel; clear Hl; have Hl := Lib.hid hl; clear hl
    have hbx := Hbx.out.below hbel; clear Hbx; have Hbx := Lib.hid hbx; clear hbx
    have hby := Hby.out.below hbel; clear Hby; have Hby := Lib.hid hby; clear hby
    have hbw := HBW.out.trans (hbel.mono HBW.out.size); clear HBW hbel; have HBW := Lib.hid hbw; clear hbw
    go_wp2_with fail
    have k := ofC Hl.out (by have := LN.out; omega)
    obtain ⟨f, hp⟩ : ∃ p, ifS (decide (Even l)) (ofS l) = p := ⟨_, rfl⟩
    obtain ⟨ef, hep⟩ : ∃ n, errS (decide (Even l)) = n := ⟨_, rfl⟩
    rw [hp, hep] at k
    have Lf := Lib.hid (show f.length ≤ 60 by rw [← hp]; exact ifS_len (by have := ofS_len l; have := LN.out; omega))
    have Ef := Lib.hid (And.intro hp hep); have K := Lib.hid k; clear k hp hep
    refine (K.out).mono ?_; rintro e v2 ⟨⟨Af, cf, rfl, hs⟩, hb⟩
    have hl := Hl.out.below hb; clear Hl; have Hl := Lib.hid hl; clear hl
    have hbx := Hbx.out.below hb; clear Hbx; have Hbx := Lib.hid hbx; clear hbx
    have hby := Hby.out.below hb; clear Hby; have Hby := Lib.hid hby; clear hby
    have hbw := HBW.out.trans (hb.mono HBW.out.size); clear HBW hb; have HBW := Lib.hid hbw; clear hbw
    have Hf := Lib.hid hs; clear hs K
    dsimp only
    go_wp2_with fail
    go_cut [63] from 43 to 63 (fun s wx => s = .bool (badA l t ef) ∧ Below v2.heap.size v2 wx)
    case first =>
      by_cases he : ef = 0
      case neg =>
        have h1 : (ef != 0) = true := by simpa using he
        have hbd : badA l t ef = true := by unfold badA; rw [h1]; rfl
        have HE := Lib.hid h1; have HBD := Lib.hid hbd; clear h1 hbd he
        unfold St.val at *
        refine wp_region_below (by kernel_rfl) (by kernel_rfl) ?_
        refine wpQuiet_step (fun K hK => ?_); go_simp; (first | (with_reducible refine hK _ ?_) | (with_reducible refine ⟨_, fun _ _ => rfl, hK _ ?_⟩)); clear hK K
        refine wpQuiet_step (fun K hK => ?_); refine q_bin _ _ _ _ _ rfl rfl rfl rfl (nee_is HE.out) ?_; go_simp; (with_reducible refine hK _ ?_); clear hK K
        refine wpQuiet_step (fun K hK => ?_); go_simp; (try (with_reducible refine ⟨_, fun _ _ => rfl, ?_⟩)); generalize hA : ({ tmps := _, defers := _ } : Act) = A; (with_reducible refine hK A ?_); clear hK K
        refine wpQuiet_step (fun K hK => ?_); subst hA; go_simp; (try (with_reducible refine ⟨_, fun _ _ => rfl, ?_⟩)); generalize hA : ({ tmps := _, defers := _ } : Act) = A; (with_reducible refine hK A ?_); clear hK K
        refine wpQuiet_step (fun K hK => ?_); subst hA; go_simp; (try (with_reducible refine ⟨_, fun _ _ => rfl, ?_⟩)); generalize hA : ({ tmps := _, defers := _ } : Act) = A; (with_reducible refine hK A ?_); clear hK K
        refine wpQuiet_step (fun K hK => ?_); subst hA; go_simp; (try (with_reducible refine ⟨_, fun _ _ => rfl, ?_⟩)); generalize hA : ({ tmps := _, defers := _ } : Act) = A; (with_reducible refine hK A ?_); clear hK K
        refine wpQuiet_step (fun K hK => ?_); subst hA; go_simp; (first | (with_reducible refine hK _ ?_) | (with_reducible refine ⟨_, fun _ _ => rfl, hK _ ?_⟩)); clear hK K
        refine wpQuiet_step (fun K hK => ?_); go_simp; (try (with_reducible refine ⟨_, fun _ _ => rfl, ?_⟩)); generalize hA : ({ tmps := _, defers := _ } : Act) = A; (with_reducible refine hK A ?_); clear hK K
        refine wpQuiet_step (fun K hK => ?_); subst hA; go_simp; (try (with_reducible refine ⟨_, fun _ _ => rfl, ?_⟩)); generalize hA : ({ tmps := _, defers := _ } : Act) = A; (with_reducible refine hK A ?_); clear hK K
        refine wpQuiet_step (fun K hK => ?_); subst hA; go_simp; (try (with_reducible refine ⟨_, fun _ _ => rfl, ?_⟩)); generalize hA : ({ tmps := _, defers := _ } : Act) = A; (with_reducible refine hK A ?_); clear hK K
        refine wpQuiet_step (fun K hK => ?_); subst hA; go_simp; (try (with_reducible refine ⟨_, fun _ _ => rfl, ?_⟩)); generalize hA : ({ tmps := _, defers := _ } : Act) = A; (with_reducible refine hK A ?_); clear hK K
        refine wpQuiet_step (fun K hK => ?_); subst hA; go_simp; (try (with_reducible refine ⟨_, fun _ _ => rfl, ?_⟩)); generalize hA : ({ tmps := _, defers := _ } : Act) = A; (with_reducible refine hK A ?_); clear hK K
        refine wpQuiet_step (fun K hK => ?_); subst hA; go_simp; generalize hA : ({ tmps := _, defers := _ } : Act) = A; rw [if_neg (by simp [undef])]; (with_reducible refine hK A ?_); clear hK K
        refine wpQuiet_step (fun K hK => ?_); subst hA; go_simp; generalize hA : ({ tmps := _, defers := _ } : Act) = A; rw [if_neg (by simp [undef])]; (with_reducible refine hK A ?_); clear hK K
        refine wpQuiet_step (fun K hK => ?_); subst hA; go_simp; generalize hA : ({ tmps := _, defers := _ } : Act) = A; rw [if_neg (by simp [undef])]; (with_reducible refine hK A ?_); clear hK K
        refine wpQuiet_step (fun K hK => ?_); subst hA; go_simp; generalize hA : ({ tmps := _, defers := _ } : Act) = A; rw [if_neg (by simp [undef])]; (with_reducible refine hK A ?_); clear hK K
        refine wpQuiet_step (fun K hK => ?_); subst hA; go_simp; generalize hA : ({ tmps := _, defers := _ } : Act) = A; rw [if_neg (by simp [undef])]; (with_reducible refine hK A ?_); clear hK K
        refine wpQuiet_step (fun K hK => ?_); subst hA; go_simp; generalize hA : ({ tmps := _, defers := _ } : Act) = A; rw [if_neg (by simp [undef])]; (with_reducible refine hK A ?_); clear hK K
        refine wpQuiet_step (fun K hK => ?_); subst hA; go_simp; generalize hA : ({ tmps := _, defers := _ } : Act) = A; rw [if_neg (by simp [undef])]; (with_reducible refine hK A ?_); clear hK K
        refine wpQuiet_step (fun K hK => ?_); subst hA; go_simp; (try (with_reducible refine ⟨_, fun _ _ => rfl, ?_⟩)); generalize hA : ({ tmps := _, defers := _ } : Act) = A; (with_reducible refine hK A ?_); clear hK K
        refine wpQuiet_step (fun K hK => ?_); subst hA; go_simp; (first | (with_reducible refine hK _ ?_) | (with_reducible refine ⟨_, fun _ _ => rfl, hK _ ?_⟩)); clear hK K
        refine wpQuiet_nil ?_
        intro wz hbel
        go_wp2_with fail
        go_meet
        exact ⟨by rw [HBD.out], hbel⟩
      have h1 : (ef != 0) = false := by rw [he]; rfl
      have HE := Lib.hid h1
      by_cases hR : t.R
      case neg =>
        have hbd : badA l t ef = true := by unfold badA; rw [h1, decide_eq_false hR]; rfl
        have hq := right_is (decide_eq_false hR) (right_any t)
        have HBD := Lib.hid hbd; unfold St.val at *; have HR := Lib.hid hq; clear h1 hbd he hq hR
        refine wp_region_below (by kernel_rfl) (by kernel_rfl) ?_
        refine wpQuiet_step (fun K hK => ?_); go_simp; (first | (with_reducible refine hK _ ?_) | (with_reducible refine ⟨_, fun _ _ => rfl, hK _ ?_⟩)); clear hK K
        refine wpQuiet_step (fun K hK => ?_); refine q_bin _ _ _ _ _ rfl rfl rfl rfl (nee_is HE.out) ?_; go_simp; (with_reducible refine hK _ ?_); clear hK K
        refine wpQuiet_step (fun K hK => ?_); go_simp; (first | (with_reducible refine hK _ ?_) | (with_reducible refine ⟨_, fun _ _ => rfl, hK _ ?_⟩)); clear hK K
        refine wpQuiet_step (fun K hK => ?_); refine q_load (p := .pointer (some ⟨w.heap.size, 0, none⟩)) 25 _ rfl rfl rfl (load_t Hbx.out) ?_; go_simp; (with_reducible refine hK _ ?_); clear hK K
        refine wpQuiet_step (fun K hK => ?_); go_simp; (with_reducible refine ⟨_, fun _ hb => (HR.out _).mono fun _ _ h => ⟨h.1, hb.trans (h.2.mono (by simpa using hb.size))⟩, hK _ ?_⟩); clear hK K
        refine wpQuiet_step (fun K hK => ?_); go_simp; (first | (with_reducible refine hK _ ?_) | (with_reducible refine ⟨_, fun _ _ => rfl, hK _ ?_⟩)); clear hK K
        refine wpQuiet_step (fun K hK => ?_); go_simp; (first | (with_reducible refine hK _ ?_) | (with_reducible refine ⟨_, fun _ _ => rfl, hK _ ?_⟩)); clear hK K
        refine wpQuiet_step (fun K hK => ?_); go_simp; (try (with_reducible refine ⟨_, fun _ _ => rfl, ?_⟩)); generalize hA : ({ tmps := _, defers := _ } : Act) = A; (with_reducible refine hK A ?_); clear hK K
        refine wpQuiet_step (fun K hK => ?_); subst hA; go_simp; (try (with_reducible refine ⟨_, fun _ _ => rfl, ?_⟩)); generalize hA : ({ tmps := _, defers := _ } : Act) = A; (with_reducible refine hK A ?_); clear hK K
        refine wpQuiet_step (fun K hK => ?_); subst hA; go_simp; (try (with_reducible refine ⟨_, fun _ _ => rfl, ?_⟩)); generalize hA : ({ tmps := _, defers := _ } : Act) = A; (with_reducible refine hK A ?_); clear hK K
        refine wpQuiet_step (fun K hK => ?_); subst hA; go_simp; (try (with_reducible refine ⟨_, fun _ _ => rfl, ?_⟩)); generalize hA : ({ tmps := _, defers := _ } : Act) = A; (with_reducible refine hK A ?_); clear hK K
        refine wpQuiet_step (fun K hK => ?_); subst hA; go_simp; (try (with_reducible refine ⟨_, fun _ _ => rfl, ?_⟩)); generalize hA : ({ tmps := _, defers := _ } : Act) = A; (with_reducible refine hK A ?_); clear hK K
        refine wpQuiet_step (fun K hK => ?_); subst hA; go_simp; generalize hA : ({ tmps := _, defers := _ } : Act) = A; rw [if_neg (by simp [undef])]; (with_reducible refine hK A ?_); clear hK K
        refine wpQuiet_step (fun K hK => ?_); subst hA; go_simp; generalize hA : ({ tmps := _, defers := _ } : Act) = A; rw [if_neg (by simp [undef])]; (with_reducible refine hK A ?_); clear hK K
        refine wpQuiet_step (fun K hK => ?_); subst hA; go_simp; generalize hA : ({ tmps := _, defers := _ } : Act) = A; rw [if_neg (by simp [undef])]; (with_reducible refine hK A ?_); clear hK K
        refine wpQuiet_step (fun K hK => ?_); subst hA; go_simp; generalize hA : ({ tmps := _, defers := _ } : Act) = A; rw [if_neg (by simp [undef])]; (with_reducible refine hK A ?_); clear hK K
        refine wpQuiet_step (fun K hK => ?_); subst hA; go_simp; generalize hA : ({ tmps := _, defers := _ } : Act) = A; rw [if_neg (by simp [undef])]; (with_reducible refine hK A ?_); clear hK K
        refine wpQuiet_step (fun K hK => ?_); subst hA; go_simp; generalize hA : ({ tmps := _, defers := _ } : Act) = A; rw [if_neg (by simp [undef])]; (with_reducible refine hK A ?_); clear hK K
        refine wpQuiet_step (fun K hK => ?_); subst hA; go_simp; generalize hA : ({ tmps := _, defers := _ } : Act) = A; rw [if_neg (by simp [undef])]; (with_reducible refine hK A ?_); clear hK K
        refine wpQuiet_step (fun K hK => ?_); subst hA; go_simp; (try (with_reducible refine ⟨_, fun _ _ => rfl, ?_⟩)); generalize hA : ({ tmps := _, defers := _ } : Act) = A; (with_reducible refine hK A ?_); clear hK K
        refine wpQuiet_step (fun K hK => ?_); subst hA; go_simp; (first | (with_reducible refine hK _ ?_) | (with_reducible refine ⟨_, fun _ _ => rfl, hK _ ?_⟩)); clear hK K
        refine wpQuiet_nil ?_
        intro wz hbel
        go_wp2_with fail
        go_meet
        exact ⟨by rw [HBD.out], hbel⟩
      have hq := right_is (decide_eq_true hR) (right_any t)
      cases l with
      | nil =>
        have hbd : badA [] t ef = false := by unfold badA; rw [h1, decide_eq_true hR]; rfl
        have HG := Lib.hid (show decide ((([] : List St).length : Int) > 0) = false from rfl)
        have HBD := Lib.hid hbd; unfold St.val at *; have HR := Lib.hid hq; clear h1 hbd he hq hR
        refine wp_region_below (by kernel_rfl) (by kernel_rfl) ?_
        refine wpQuiet_step (fun K hK => ?_); go_simp; (first | (with_reducible refine hK _ ?_) | (with_reducible refine ⟨_, fun _ _ => rfl, hK _ ?_⟩)); clear hK K
        refine wpQuiet_step (fun K hK => ?_); refine q_bin _ _ _ _ _ rfl rfl rfl rfl (nee_is HE.out) ?_; go_simp; (with_reducible refine hK _ ?_); clear hK K
        refine wpQuiet_step (fun K hK => ?_); go_simp; (first | (with_reducible refine hK _ ?_) | (with_reducible refine ⟨_, fun _ _ => rfl, hK _ ?_⟩)); clear hK K
        refine wpQuiet_step (fun K hK => ?_); refine q_load (p := .pointer (some ⟨w.heap.size, 0, none⟩)) 25 _ rfl rfl rfl (load_t Hbx.out) ?_; go_simp; (with_reducible refine hK _ ?_); clear hK K
        refine wpQuiet_step (fun K hK => ?_); go_simp; (with_reducible refine ⟨_, fun _ hb => (HR.out _).mono fun _ _ h => ⟨h.1, hb.trans (h.2.mono (by simpa using hb.size))⟩, hK _ ?_⟩); clear hK K
        refine wpQuiet_step (fun K hK => ?_); go_simp; (first | (with_reducible refine hK _ ?_) | (with_reducible refine ⟨_, fun _ _ => rfl, hK _ ?_⟩)); clear hK K
        refine wpQuiet_step (fun K hK => ?_); go_simp; (first | (with_reducible refine hK _ ?_) | (with_reducible refine ⟨_, fun _ _ => rfl, hK _ ?_⟩)); clear hK K
        refine wpQuiet_step (fun K hK => ?_); go_simp; (first | (with_reducible refine hK _ ?_) | (with_reducible refine ⟨_, fun _ _ => rfl, hK _ ?_⟩)); clear hK K
        refine wpQuiet_step (fun K hK => ?_); go_simp; (first | (with_reducible refine hK _ ?_) | (with_reducible refine ⟨_, fun _ _ => rfl, hK _ ?_⟩)); clear hK K
        refine wpQuiet_step (fun K hK => ?_); go_simp; (first | (with_reducible refine hK _ ?_) | (with_reducible refine ⟨_, fun _ _ => rfl, hK _ ?_⟩)); clear hK K
        refine wpQuiet_step (fun K hK => ?_); refine q_bin _ _ _ _ _ rfl rfl rfl rfl (gti_is HG.out) ?_; go_simp; (with_reducible refine hK _ ?_); clear hK K
        refine wpQuiet_step (fun K hK => ?_); go_simp; (try (with_reducible refine ⟨_, fun _ _ => rfl, ?_⟩)); generalize hA : ({ tmps := _, defers := _ } : Act) = A; (with_reducible refine hK A ?_); clear hK K
        refine wpQuiet_step (fun K hK => ?_); subst hA; go_simp; (try (with_reducible refine ⟨_, fun _ _ => rfl, ?_⟩)); generalize hA : ({ tmps := _, defers := _ } : Act) = A; (with_reducible refine hK A ?_); clear hK K
        refine wpQuiet_step (fun K hK => ?_); subst hA; go_simp; (try (with_reducible refine ⟨_, fun _ _ => rfl, ?_⟩)); generalize hA : ({ tmps := _, defers := _ } : Act) = A; (with_reducible refine hK A ?_); clear hK K
        refine wpQuiet_step (fun K hK => ?_); subst hA; go_simp; (try (with_reducible refine ⟨_, fun _ _ => rfl, ?_⟩)); generalize hA : ({ tmps := _, defers := _ } : Act) = A; (with_reducible refine hK A ?_); clear hK K
        refine wpQuiet_step (fun K hK => ?_); subst hA; go_simp; (try (with_reducible refine ⟨_, fun _ _ => rfl, ?_⟩)); generalize hA : ({ tmps := _, defers := _ } : Act) = A; (with_reducible refine hK A ?_); clear hK K
        refine wpQuiet_step (fun K hK => ?_); subst hA; go_simp; (try (with_reducible refine ⟨_, fun _ _ => rfl, ?_⟩)); generalize hA : ({ tmps := _, defers := _ } : Act) = A; (with_reducible refine hK A ?_); clear hK K
        refine wpQuiet_step (fun K hK => ?_); subst hA; go_simp; (try (with_reducible refine ⟨_, fun _ _ => rfl, ?_⟩)); generalize hA : ({ tmps := _, defers := _ } : Act) = A; (with_reducible refine hK A ?_); clear hK K
        refine wpQuiet_step (fun K hK => ?_); subst hA; go_simp; (try (with_reducible refine ⟨_, fun _ _ => rfl, ?_⟩)); generalize hA : ({ tmps := _, defers := _ } : Act) = A; (with_reducible refine hK A ?_); clear hK K
        refine wpQuiet_step (fun K hK => ?_); subst hA; go_simp; (first | (with_reducible refine hK _ ?_) | (with_reducible refine ⟨_, fun _ _ => rfl, hK _ ?_⟩)); clear hK K
        refine wpQuiet_step (fun K hK => ?_); go_simp; (first | (with_reducible refine hK _ ?_) | (with_reducible refine ⟨_, fun _ _ => rfl, hK _ ?_⟩)); clear hK K
        refine wpQuiet_nil ?_
        intro wz hbel
        go_wp2_with fail
        go_meet
        exact ⟨by rw [HBD.out], hbel⟩
      | cons z r =>
        have hts := Hl.out.ts
        obtain ⟨b, o, hAe, hbl, h0⟩ := hts.five (i := 0) (t := z) rfl
        subst hAe
        have h0 := (h0 v2 (Below.refl _ _)).1
        rw [Nat.zero_mul, Nat.add_zero] at h0
        have H0 := Lib.hid (And.intro hbl h0); clear hts hbl h0
        have HG := Lib.hid (show decide (((z :: r).length : Int) > 0) = true from decide_eq_true (by simp <;> omega))
        have HZ := Lib.hid (show 0 < (z :: r).length by simp)
        have hbd : badA (z :: r) t ef = (z.d != t.d) := by unfold badA; rw [h1, decide_eq_true hR]; rfl
        generalize hzv : (z.d != t.d) = zv at *
        have HBD := Lib.hid hbd; have HZV := Lib.hid hzv; unfold St.val at *; have HR := Lib.hid hq; clear h1 hbd he hq hR hzv
        have hz := HZ.out
        generalize (z :: r).length = n at *
        refine wp_region_below (by kernel_rfl) (by kernel_rfl) ?_
        refine wpQuiet_step (fun K hK => ?_); go_simp; (first | (with_reducible refine hK _ ?_) | (with_reducible refine ⟨_, fun _ _ => rfl, hK _ ?_⟩)); clear hK K
        refine wpQuiet_step (fun K hK => ?_); refine q_bin _ _ _ _ _ rfl rfl rfl rfl (nee_is HE.out) ?_; go_simp; (with_reducible refine hK _ ?_); clear hK K
        refine wpQuiet_step (fun K hK => ?_); go_simp; (first | (with_reducible refine hK _ ?_) | (with_reducible refine ⟨_, fun _ _ => rfl, hK _ ?_⟩)); clear hK K
        refine wpQuiet_step (fun K hK => ?_); refine q_load (p := .pointer (some ⟨w.heap.size, 0, none⟩)) 25 _ rfl rfl rfl (load_t Hbx.out) ?_; go_simp; (with_reducible refine hK _ ?_); clear hK K
        refine wpQuiet_step (fun K hK => ?_); go_simp; (with_reducible refine ⟨_, fun _ hb => (HR.out _).mono fun _ _ h => ⟨h.1, hb.trans (h.2.mono (by simpa using hb.size))⟩, hK _ ?_⟩); clear hK K
        refine wpQuiet_step (fun K hK => ?_); go_simp; (first | (with_reducible refine hK _ ?_) | (with_reducible refine ⟨_, fun _ _ => rfl, hK _ ?_⟩)); clear hK K
        refine wpQuiet_step (fun K hK => ?_); go_simp; (first | (with_reducible refine hK _ ?_) | (with_reducible refine ⟨_, fun _ _ => rfl, hK _ ?_⟩)); clear hK K
        refine wpQuiet_step (fun K hK => ?_); go_simp; (first | (with_reducible refine hK _ ?_) | (with_reducible refine ⟨_, fun _ _ => rfl, hK _ ?_⟩)); clear hK K
        refine wpQuiet_step (fun K hK => ?_); go_simp; (first | (with_reducible refine hK _ ?_) | (with_reducible refine ⟨_, fun _ _ => rfl, hK _ ?_⟩)); clear hK K
        refine wpQuiet_step (fun K hK => ?_); go_simp; (first | (with_reducible refine hK _ ?_) | (with_reducible refine ⟨_, fun _ _ => rfl, hK _ ?_⟩)); clear hK K
        refine wpQuiet_step (fun K hK => ?_); refine q_bin _ _ _ _ _ rfl rfl rfl rfl (gti_is HG.out) ?_; go_simp; (with_reducible refine hK _ ?_); clear hK K
        refine wpQuiet_step (fun K hK => ?_); go_simp; (first | (with_reducible refine hK _ ?_) | (with_reducible refine ⟨_, fun _ _ => rfl, hK _ ?_⟩)); clear hK K
        refine wpQuiet_step (fun K hK => ?_); go_simp; (first | (with_reducible refine hK _ ?_) | (with_reducible refine ⟨_, fun _ _ => rfl, hK _ ?_⟩)); clear hK K
        refine wpQuiet_step (fun K hK => ?_); go_simp; (first | (with_reducible refine hK _ ?_) | (with_reducible refine ⟨_, fun _ _ => rfl, hK _ ?_⟩)); clear hK K
        refine wpQuiet_step (fun K hK => ?_); go_simp; (first | (with_reducible refine hK _ ?_) | (with_reducible refine ⟨_, fun _ _ => rfl, hK _ ?_⟩)); clear hK K
        refine wpQuiet_step (fun K hK => ?_); refine q_load (p := .pointer (some ⟨b, o, none⟩)) 3 _ rfl rfl rfl (load_at H0.out.1 H0.out.2) ?_; go_simp; (with_reducible refine hK _ ?_); clear hK K
        refine wpQuiet_step (fun K hK => ?_); go_simp; (first | (with_reducible refine hK _ ?_) | (with_reducible refine ⟨_, fun _ _ => rfl, hK _ ?_⟩)); clear hK K
        refine wpQuiet_step (fun K hK => ?_); refine q_load (p := .pointer (some ⟨w.heap.size, 0, none⟩)) 3 _ rfl rfl rfl (load_d Hbx.out) ?_; go_simp; (with_reducible refine hK _ ?_); clear hK K
        refine wpQuiet_step (fun K hK => ?_); refine q_bin _ _ _ _ _ rfl rfl rfl rfl (nei_is HZV.out) ?_; go_simp; (with_reducible refine hK _ ?_); clear hK K
        refine wpQuiet_step (fun K hK => ?_); go_simp; (first | (with_reducible refine hK _ ?_) | (with_reducible refine ⟨_, fun _ _ => rfl, hK _ ?_⟩)); clear hK K
        refine wpQuiet_step (fun K hK => ?_); go_simp; (first | (with_reducible refine hK _ ?_) | (with_reducible refine ⟨_, fun _ _ => rfl, hK _ ?_⟩)); clear hK K
        refine wpQuiet_nil ?_
        intro wz hbel
        go_wp2_with fail
        go_meet
        exact ⟨by rw [HBD.out], hbel⟩
    case rest =>
      obtain ⟨rfl, hbel⟩ := hcut
      have hl := Hl.out.below hbel; clear Hl; have Hl := Lib.hid hl; clear hl
      have hf := Hf.out.below hbel; clear Hf; have Hf := Lib.hid hf; clear hf
      have hbx := Hbx.out.below hbel; clear Hbx; have Hbx := Lib.hid hbx; clear hbx
      have hby := Hby.out.below hbel; clear Hby; have Hby := Lib.hid hby; clear hby
      have hbw := HBW.out.trans (hbel.mono HBW.out.size); clear HBW hbel; have HBW := Lib.hid hbw; clear hbw
      cases hbad : badA l t ef with
      | true =>
        clear hbad
        go_wp2_with fail
        refine (WW.out _).mono ?_; rintro e we ⟨rfl, hbe⟩
        go_wp2_with fail
        go_ret
        exact ⟨rfl, HBW.out.trans (hbe.mono HBW.out.size)⟩
      | false =>
        have hin := ofIn_iff Ef.out.2 hbad
        have hev : Even l := by
          have := Ef.out.2
          unfold badA at hbad
          simp only [Bool.or_eq_false_iff, bne_eq_false_iff_eq] at hbad
          rw [hbad.1.1] at this
          exact of_decide_eq_true (err_zero.1 this)
        have hfe : f = ofS l := by
          have := Ef.out.1
          rw [decide_eq_true hev] at this
          exact this.symm
        rw [← hfe] at hin
        have HIN := Lib.hid hin; clear hin hbad hev hfe Ef
        go_wp2_with fail
        have hn := LN.out
        go_loopw [10, 11] (fun b i wr => ∃ k : Nat, k ≤ l.length ∧ i = .int .i64 k ∧ b = .bool (decide (Up (l.take k) t)) ∧ Below wc.heap.size wc wr) (fun _ i _ => l.length - (intOf i).toNat)
        case atStart => exact ⟨0, by omega, rfl, by simp [Up], Below.refl _ _⟩
        case round =>
          obtain ⟨k, hk, rfl, rfl, hb⟩ := hrel
          have HB := Lib.hid hb; clear hb
          by_cases hlt : k < l.length
          · have hltz : (k : Int) < (l.length : Int) := by omega
            obtain ⟨x, hx⟩ : ∃ x, l[k]? = some x := ⟨_, List.getElem?_eq_getElem hlt⟩
            have hT1 := Hl.out.ts.below HB.out
            have hY := Hbx.out.below HB.out
            obtain ⟨b, o, hAe, hbl, h0⟩ := hT1.load hx
            subst hAe
            have hnx := up_next (t := t) hx
            have hl := leqW (t := t) (u := x) rfl
            generalize decide (x.L t) = lv at *
            generalize hq : decide (Up (l.take k) t) = q at *
            unfold St.val at *
            have H0 := Lib.hid h0; have HNX := Lib.hid hnx; have HY := Lib.hid hY; have HL := Lib.hid hl
            clear h0 hbl hx hT1 hY hnx hl hq
            cases q with
            | true =>
              go_wp2_with fail
              refine wp_region_below (by kernel_rfl) (by kernel_rfl) ?_
              refine wpQuiet_step (fun K hK => ?_); go_simp; (first | (with_reducible refine hK _ ?_) | (with_reducible refine ⟨_, fun _ _ => rfl, hK _ ?_⟩)); clear hK K
              refine wpQuiet_step (fun K hK => ?_); go_simp; (try (with_reducible refine ⟨_, fun _ _ => rfl, ?_⟩)); generalize hA : ({ tmps := _, defers := _ } : Act) = A; (with_reducible refine hK A ?_); clear hK K
              refine wpQuiet_step (fun K hK => ?_); subst hA; go_simp; (try (with_reducible refine ⟨_, fun _ _ => rfl, ?_⟩)); generalize hA : ({ tmps := _, defers := _ } : Act) = A; (with_reducible refine hK A ?_); clear hK K
              refine wpQuiet_step (fun K hK => ?_); subst hA; go_simp; (try (with_reducible refine ⟨_, fun _ _ => rfl, ?_⟩)); generalize hA : ({ tmps := _, defers := _ } : Act) = A; (with_reducible refine hK A ?_); clear hK K
              refine wpQuiet_step (fun K hK => ?_); subst hA; go_simp; (try (with_reducible refine ⟨_, fun _ _ => rfl, ?_⟩)); generalize hA : ({ tmps := _, defers := _ } : Act) = A; (with_reducible refine hK A ?_); clear hK K
              refine wpQuiet_step (fun K hK => ?_); subst hA; go_simp; (try (with_reducible refine ⟨_, fun _ _ => rfl, ?_⟩)); generalize hA : ({ tmps := _, defers := _ } : Act) = A; (with_reducible refine hK A ?_); clear hK K
              refine wpQuiet_step (fun K hK => ?_); subst hA; go_simp; (try (with_reducible refine ⟨_, fun _ _ => rfl, ?_⟩)); generalize hA : ({ tmps := _, defers := _ } : Act) = A; (with_reducible refine hK A ?_); clear hK K
              refine wpQuiet_step (fun K hK => ?_); subst hA; go_simp; (try (with_reducible refine ⟨_, fun _ _ => rfl, ?_⟩)); generalize hA : ({ tmps := _, defers := _ } : Act) = A; (with_reducible refine hK A ?_); clear hK K
              refine wpQuiet_step (fun K hK => ?_); subst hA; go_simp; (first | (with_reducible refine hK _ ?_) | (with_reducible refine ⟨_, fun _ _ => rfl, hK _ ?_⟩)); clear hK K
              refine wpQuiet_step (fun K hK => ?_); go_simp; (first | (with_reducible refine hK _ ?_) | (with_reducible refine ⟨_, fun _ _ => rfl, hK _ ?_⟩)); clear hK K
              refine wpQuiet_nil ?_
              intro w1 hb1
              have HB4 := Lib.hid (HB.out.trans (hb1.mono HB.out.size)); clear hb1
              go_wp2_with fail
              go_roundw
              case rel => exact ⟨k + 1, by omega, by simp, by rw [HNX.out]; simp, HB4.out⟩
              case measure => simp only [intOf]; omega
            | false =>
              go_wp2_with fail
              refine wp_region_below (by kernel_rfl) (by kernel_rfl) ?_
              refine wpQuiet_step (fun K hK => ?_); go_simp; (first | (with_reducible refine hK _ ?_) | (with_reducible refine ⟨_, fun _ _ => rfl, hK _ ?_⟩)); clear hK K
              refine wpQuiet_step (fun K hK => ?_); go_simp; (first | (with_reducible refine hK _ ?_) | (with_reducible refine ⟨_, fun _ _ => rfl, hK _ ?_⟩)); clear hK K
              refine wpQuiet_step (fun K hK => ?_); go_simp; (first | (with_reducible refine hK _ ?_) | (with_reducible refine ⟨_, fun _ _ => rfl, hK _ ?_⟩)); clear hK K
              refine wpQuiet_step (fun K hK => ?_); go_simp; (first | (with_reducible refine hK _ ?_) | (with_reducible refine ⟨_, fun _ _ => rfl, hK _ ?_⟩)); clear hK K
              refine wpQuiet_step (fun K hK => ?_); go_simp; (first | (with_reducible refine hK _ ?_) | (with_reducible refine ⟨_, fun _ _ => rfl, hK _ ?_⟩)); clear hK K
              refine wpQuiet_step (fun K hK => ?_); refine q_load (p := .pointer (some ⟨b, o + k * 5, none⟩)) 25 _ rfl rfl rfl (H0.out) ?_; go_simp; (with_reducible refine hK _ ?_); clear hK K
              refine wpQuiet_step (fun K hK => ?_); refine q_load (p := .pointer (some ⟨w.heap.size, 0, none⟩)) 25 _ rfl rfl rfl (load_t HY.out) ?_; go_simp; (with_reducible refine hK _ ?_); clear hK K
              refine wpQuiet_step (fun K hK => ?_); go_simp; (with_reducible refine ⟨_, fun _ hb => (HL.out _).mono fun _ _ h => ⟨h.1, hb.trans (h.2.mono (by simpa using hb.size))⟩, hK _ ?_⟩); clear hK K
              refine wpQuiet_step (fun K hK => ?_); go_simp; (first | (with_reducible refine hK _ ?_) | (with_reducible refine ⟨_, fun _ _ => rfl, hK _ ?_⟩)); clear hK K
              refine wpQuiet_step (fun K hK => ?_); go_simp; (first | (with_reducible refine hK _ ?_) | (with_reducible refine ⟨_, fun _ _ => rfl, hK _ ?_⟩)); clear hK K
              refine wpQuiet_nil ?_
              intro w1 hb1
              have HB4 := Lib.hid (HB.out.trans (hb1.mono HB.out.size)); clear hb1
              go_wp2_with fail
              go_roundw
              case rel => exact ⟨k + 1, by omega, by simp, by rw [HNX.out]; simp, HB4.out⟩
              case measure => simp only [intOf]; omega
          · have hk' : k = l.length := by omega
            subst hk'
            rw [List.take_length]
            have hbb := HB.out
            have hl := Hl.out.below hbb; clear Hl; have Hl := Lib.hid hl; clear hl
            have hf := Hf.out.below hbb; clear Hf; have Hf := Lib.hid hf; clear hf
            have hbx := Hbx.out.below hbb; clear Hbx; have Hbx := Lib.hid hbx; clear hbx
            have hby := Hby.out.below hbb; clear Hby; have Hby := Lib.hid hby; clear hby
            have hbw := HBW.out.trans (hbb.mono HBW.out.size); clear HBW hbb; have HBW := Lib.hid hbw; clear hbw
            obtain ⟨c0, c1, c2, c3, c4⟩ := Hbx.out.cells5
            have hlt := Hbx.out.lt
            obtain ⟨e0, e1, e2, e3, e4⟩ := Hby.out.cells5
            have hlu := Hby.out.lt
            generalize decide (Up l t) = q at *
            cases q with
            | true =>
              go_wp2_with fail
              refine (holdsW (t := t) Hf.out (by have := Lf.out; omega) HIN.out _ (Below.refl _ _)).mono ?_; rintro e v11 ⟨rfl, hb⟩
              clear c0 c1 c2 c3 c4 hlt e0 e1 e2 e3 e4 hlu
              have hbw := HBW.out.trans (hb.mono HBW.out.size); clear HBW hb; have HBW := Lib.hid hbw; clear hbw
              go_wp2_with fail
              refine (WW.out _).mono ?_; rintro e we ⟨rfl, hbe⟩
              go_wp2_with fail
              go_ret
              exact ⟨rfl, HBW.out.trans (hbe.mono HBW.out.size)⟩
            | false =>
              go_wp2_with fail
              refine (holdsW (t := t) Hf.out (by have := Lf.out; omega) HIN.out _ (Below.refl _ _)).mono ?_; rintro e v11 ⟨rfl, hb⟩
              clear c0 c1 c2 c3 c4 hlt e0 e1 e2 e3 e4 hlu
              have hbw := HBW.out.trans (hb.mono HBW.out.size); clear HBW hb; have HBW := Lib.hid hbw; clear hbw
              go_wp2_with fail
              refine (WW.out _).mono ?_; rintro e we ⟨rfl, hbe⟩
              go_wp2_with fail
              go_ret
              exact ⟨rfl, HBW.out.trans (hbe.mono HBW.out.size)⟩

end antichainHolds
end Go.Proofs.Ytkbabmifdfmhlaa
