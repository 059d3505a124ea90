/- The chapter's examples hold. -/
import Derived.Test.YtkbabmifdfmhlaaFrT
namespace Go.Proofs.Ytkbabmifdfmhlaa
open Go.ChangeShapes Go.WideShapes Go.ChangeAt Go.RowKit Go.BigFrame Go.Shelf
set_option linter.unusedVariables false
set_option maxRecDepth 100000
section
variable {K : Value → World → Prop} {a : Act} {o : Oper} {w : World}
theorem g_slice1 (g n c : Nat) (x : Operand) (ho : o.op = .slice 40 x none (some (.const (.int .i64 1))) (some (.const (.int .i64 1)))) (hx : a.eval x = .slice (some ⟨g, 0, none⟩) n c) (hc : 1 ≤ c) (h : K (.slice (some ⟨g, 0, none⟩) 1 1) w) :
    Free.gets Try.prog K ((execOp a.eval o).run Try.prog w) := by
  have hc' : (1 : Int) ≤ (c : Int) := by omega
  unfold execOp
  simp only [ho, hx]
  go_simp
  exact h
theorem g_build1 (k : Nat) (t : St) (ho : o.op = .buildSlice 40 1 #[(0, .tmp k)]) (hx : a.eval (.tmp k) = .agg #[.int .i64 t.d, .int .i64 t.e, .int .i64 t.x, .int .i64 t.y, .int .i64 t.z]) (h : K (.slice (some ⟨w.heap.size, 0, none⟩) 1 1) (w.alloc (.cells #[.int .i64 t.d, .int .i64 t.e, .int .i64 t.x, .int .i64 t.y, .int .i64 t.z] 25))) :
    Free.gets Try.prog K ((execOp a.eval o).run Try.prog w) := by
  have hx' : a.tmps[k]?.getD undef = .agg #[.int .i64 t.d, .int .i64 t.e, .int .i64 t.x, .int .i64 t.y, .int .i64 t.z] := by simpa [Act.eval] using hx
  unfold execOp
  simp only [ho]
  go_simp
  exact h
theorem g_ext (x : Operand) (k : Nat) (vs : Array Value) (v : Value) (ho : o.op = .extract x k) (hx : a.eval x = .tuple vs) (hv : vs[k]? = some v) (h : K v w) : Free.gets Try.prog K ((execOp a.eval o).run Try.prog w) := by
  unfold execOp
  simp only [ho, hx]
  go_simp
  exact h
end
theorem ts_own {w : World} {base n g c : Nat} {ts : List St} (h : w.ownsRow base 25 5 (.slice (some ⟨g, 0, none⟩) n c) n (rowS ts)) : Ts w (some ⟨g, 0, none⟩) ts ∧ n ≤ c ∧ c ≤ maxLen ∧ ts.length = n := by
  have hn := own_len h
  obtain ⟨A, c', e, h1, h2, h3⟩ := Times.of_own h
  cases e
  exact ⟨Ts.of h1, by omega, h3, by omega⟩
theorem own_slice {w : World} {base n : Nat} {v : Value} {ts : List St} (h : w.ownsRow base 25 5 v n (rowS ts)) : ∃ A c, v = .slice A ts.length c ∧ Ts w A ts ∧ ts.length ≤ c ∧ c ≤ maxLen ∧ (A = none → c = 0) := by
  obtain ⟨A, c, e, h1, h2, h3⟩ := Times.of_own h
  refine ⟨A, c, e, Ts.of h1, h2, h3, fun hA => ?_⟩
  subst hA
  rcases h.2 with ⟨e2, _⟩ | ⟨g, cap, cur, e2, _⟩
  · rw [e] at e2; injection e2
  · rw [e] at e2; injection e2 with h; cases h
/-- what region 4 has told, operation by operation -/
def R4 (base g c : Nat) (i : Nat) (v : Value) (w : World) : Prop := match i with
  | 0 => v = .slice (some ⟨g, 0, none⟩) 2 c
  | 1 => v = .slice (some ⟨g, 0, none⟩) 1 1
  | 2 => v = .agg #[.int .i64 1, .int .i64 2, .int .i64 1, .int .i64 0, .int .i64 0]
  | 3 => ∃ g', v = .slice (some ⟨g', 0, none⟩) 1 1 ∧ Ts w (some ⟨g', 0, none⟩) [tS 2 1]
  | 4 => ∃ u, v = .tuple #[u, .int .i64 0] ∧ w.ownsRow base 25 5 u 2 (rowS front2)
  | 5 => ∃ u, v = .tuple #[u, .int .i64 0] ∧ w.ownsRow base 25 5 u 2 (rowS front2)
  | 6 => w.ownsRow base 25 5 v 2 (rowS front2)
  | 7 => v = .int .i64 0
  | 8 => w.ownsRow base 25 5 v 2 (rowS front2)
  | _ => v = .int .i64 0
theorem R4_keep (base g c : Nat) : ∀ j u w w', RowKit.Below w.heap.size w w' → R4 base g c j u w → R4 base g c j u w' := by
  intro j u wa wb hb h
  match j with
  | 0 | 1 | 2 | 7 => exact h
  | 3 => obtain ⟨g', e, h⟩ := h; exact ⟨g', e, h.below hb⟩
  | 4 => obtain ⟨u', e, h⟩ := h; exact ⟨u', e, own_kept h hb⟩
  | 5 => obtain ⟨u', e, h⟩ := h; exact ⟨u', e, own_kept h hb⟩
  | 6 => exact own_kept h hb
  | 8 => exact own_kept h hb
  | _ + 9 => exact h
set_option maxHeartbeats 8000000 in
theorem works_any (w : World) : Calls Try.prog 31 #[] w fun e w' => e = .returned (.bool true) ∧ Below w.heap.size w w' := by
  have T := Lib.hid (fun a b w => t_any a b w)
  go_enter Try.func31, Try.ntmps31
  go_wp2_with fail
  refine (T.out _ _ _).mono ?_; rintro e w1 ⟨rfl, hb1⟩
  go_wp2_with fail
  refine (T.out _ _ _).mono ?_; rintro e w2 ⟨rfl, hb2⟩
  have hb2 := hb1.trans (hb2.mono hb1.size); clear hb1
  go_wp2_with fail
  refine (T.out _ _ _).mono ?_; rintro e w3 ⟨rfl, hb3⟩
  have hb3 := hb2.trans (hb3.mono hb2.size); clear hb2
  go_wp2_with fail
  refine (T.out _ _ _).mono ?_; rintro e w4 ⟨rfl, hb4⟩
  have hb4 := hb3.trans (hb4.mono hb3.size); clear hb3
  have hT4 := Times.made w4 times4
  have hof := of_any (some ⟨w4.heap.size, 0, none⟩) times4 4 _ (Ts.of hT4) (by decide)
  rw [decide_eq_true times4_even, times4_of] at hof
  have HOF := Lib.hid hof; have HB4 := Lib.hid hb4; clear hT4 hof hb4
  go_wp2_with fail
  refine (HOF.out).mono ?_; rintro e w5 ⟨⟨v, rfl, hr5⟩, hb5⟩
  obtain ⟨g, c, rfl⟩ := ownsRow_succ (k := 1) hr5
  obtain ⟨hT5, hc5, hcm5, _⟩ := ts_own hr5
  have hal := (Below.refl w4.heap.size w4).alloc (Nat.le_refl _) (.cells (rowS times4).toArray 25)
  have hb5 := HB4.out.trans ((hal.trans (hb5.mono (by simp))).mono HB4.out.size)
  have HB5 := Lib.hid hb5; have H5 := Lib.hid (And.intro hr5 hT5)
  clear hal hb5 hr5 hT5 HOF HB4
  have hc1 : (1 : Int) ≤ (c : Int) := by omega
  dsimp only
  go_wp2_with fail
  refine Free.wp_grow (by kernel_rfl) (by kernel_rfl) (R4 w.heap.size g c) (R4_keep _ _ _) ?_ ?_
  · intro i o hi a wa hold hpre hbw
    match i with
    | 0 => cases hi; exact Free.g_move _ rfl ⟨(hold 1 (by decide)).trans rfl, Below.refl _ _⟩
    | 1 =>
      cases hi
      have h0 := hpre 0 _ _ (by kernel_rfl) rfl rfl
      exact g_slice1 g 2 c _ rfl h0 (by omega) ⟨rfl, Below.refl _ _⟩
    | 2 =>
      cases hi
      refine Free.g_call _ _ rfl Try.func62 (by kernel_rfl) rfl [.int .i64 2, .int .i64 1] rfl ?_
      exact (T.out 2 1 wa).mono fun e w2 ⟨he, hb2⟩ => ⟨_, he, rfl, hb2⟩
    | 3 =>
      cases hi
      have h0 := hpre 2 _ _ (by kernel_rfl) rfl rfl
      exact g_build1 24 (tS 2 1) rfl h0 ⟨⟨_, rfl, ts_one wa (tS 2 1)⟩, (Below.refl _ _).alloc (Nat.le_refl _) _⟩
    | 4 =>
      cases hi
      have h1 := hpre 1 _ _ (by kernel_rfl) rfl rfl
      obtain ⟨g', h2, hT2⟩ := hpre 3 _ _ (by kernel_rfl) rfl rfl
      have hTa : Ts wa (some ⟨g, 0, none⟩) [tS 1 2] := (H5.out.2.below hbw).take 1
      have hbo := both_any (some ⟨g, 0, none⟩) (some ⟨g', 0, none⟩) [tS 1 2] [tS 2 1] 1 1 wa hTa hT2 (by simp) (by simp) (by simp) (by simp) (by unfold maxLen; omega) (by unfold maxLen; omega) (fun h => by cases h) (fun h => by cases h)
      rw [decide_eq_true alike_f1, both_f] at hbo
      have hba := HB5.out.trans (hbw.mono HB5.out.size)
      refine Free.g_call _ _ rfl Try.func25 (by kernel_rfl) rfl [.slice (some ⟨g, 0, none⟩) 1 1, .slice (some ⟨g', 0, none⟩) 1 1] (by show [a.eval (.tmp 23), a.eval (.tmp 25)] = _; rw [h1, h2]) ?_
      exact hbo.mono fun e w2 ⟨⟨u, he, hu⟩, hb2⟩ => ⟨_, he, ⟨u, rfl, own_base hu hba.size⟩, hb2⟩
    | 5 =>
      cases hi
      have h0 := hpre 4 _ _ (by kernel_rfl) rfl rfl
      exact Free.g_move _ rfl ⟨h0, Below.refl _ _⟩
    | 6 =>
      cases hi
      obtain ⟨u, h0, hu⟩ := hpre 5 _ _ (by kernel_rfl) rfl rfl
      exact g_ext _ 0 _ u rfl h0 rfl ⟨hu, Below.refl _ _⟩
    | 7 =>
      cases hi
      obtain ⟨u, h0, hu⟩ := hpre 5 _ _ (by kernel_rfl) rfl rfl
      exact g_ext _ 1 _ _ rfl h0 rfl ⟨rfl, Below.refl _ _⟩
    | 8 =>
      cases hi
      have h0 := hpre 6 _ _ (by kernel_rfl) rfl rfl
      exact Free.g_assign _ rfl ⟨h0, Below.refl _ _⟩
    | 9 =>
      cases hi
      have h0 := hpre 7 _ _ (by kernel_rfl) rfl rfl
      exact Free.g_assign _ rfl ⟨h0, Below.refl _ _⟩
    | _ + 10 => cases hi
  · intro vs w6 hv hbw
    have h8 : w6.ownsRow w.heap.size 25 5 (vs 8) 2 (rowS front2) := hv 8 (by simp) (by rintro o ⟨⟩; rfl)
    have h9 : vs 9 = .int .i64 0 := hv 9 (by simp) (by rintro o ⟨⟩; rfl)
    have hb6 := HB5.out.trans (hbw.mono HB5.out.size)
    have HB6 := Lib.hid hb6; have H6 := Lib.hid (And.intro (own_kept H5.out.1 hbw) h8)
    clear hv hbw hb6 H5 HB5
    simp only [Free.puts]
    generalize vs 8 = vb at *
    rw [h9]
    generalize vs 0 = y0
    generalize vs 1 = y1
    generalize vs 2 = y2
    generalize vs 3 = y3
    generalize vs 4 = y4
    generalize vs 5 = y5
    generalize vs 6 = y6
    generalize vs 7 = y7
    clear h9 h8
    go_simp
    go_wp2_with fail
    refine (T.out _ _ _).mono ?_; rintro e w7 ⟨rfl, hb7⟩
    have hTp := ts_one w7 (tS 1 2)
    have hb7' := hb7.trans ((((Below.refl w7.heap.size w7).alloc (Nat.le_refl _) (.cells #[.int .i64 1, .int .i64 1, .int .i64 2, .int .i64 0, .int .i64 0] 25))).mono hb7.size)
    have H7 := Lib.hid (And.intro hTp hb7')
    clear hTp hb7' hb7
    go_wp2_with fail
    refine (T.out _ _ _).mono ?_; rintro e w8 ⟨rfl, hb8⟩
    have hTq := ts_one w8 (tS 2 1)
    have hTp := (H7.out.1.below hb8).below ((Below.refl w8.heap.size w8).alloc (Nat.le_refl _) (.cells #[.int .i64 1, .int .i64 2, .int .i64 1, .int .i64 0, .int .i64 0] 25))
    have hei := either_any (some ⟨w7.heap.size, 0, none⟩) (some ⟨w8.heap.size, 0, none⟩) [tS 1 2] [tS 2 1] 1 1 _ hTp hTq (by simp) (by simp) (by simp) (by simp) (by simp) (by unfold maxLen; omega) (by unfold maxLen; omega)
    rw [decide_eq_true alike_f1, either_f] at hei
    have hb8' := H7.out.2.trans ((hb8.trans ((((Below.refl w8.heap.size w8).alloc (Nat.le_refl _) (.cells #[.int .i64 1, .int .i64 2, .int .i64 1, .int .i64 0, .int .i64 0] 25))).mono hb8.size)).mono H7.out.2.size)
    have HEI := Lib.hid hei; have H8 := Lib.hid hb8'
    clear hTq hTp hei hb8 hb8' H7
    go_wp2_with fail
    refine (HEI.out).mono ?_; rintro e w9 ⟨⟨vo, rfl, hro⟩, hb9⟩
    have hb9' := H8.out.trans (hb9.mono H8.out.size)
    have ho2 := H6.out
    have H9 := Lib.hid (And.intro (own_kept H6.out.1 hb9') (And.intro (own_kept H6.out.2 hb9') (And.intro (own_base (base' := w.heap.size) hro (by have := HB6.out.size; have := H8.out.size; omega)) (HB6.out.trans (hb9'.mono HB6.out.size)))))
    clear hro hb9 hb9' ho2 H6 H8 HEI HB6
    obtain ⟨hTf, hcf, hcmf, _⟩ := ts_own H9.out.1
    have hen := either_any (some ⟨g, 0, none⟩) none front2 [] c 0 w9 hTf Ts.nil (by decide) (by simp) (by simp) hcf (by simp) hcmf (by simp)
    rw [decide_eq_true alike_fn, either_fn] at hen
    have HEN := Lib.hid hen
    clear hTf hcf hen
    dsimp only
    go_wp2_with fail
    refine (HEN.out).mono ?_; rintro e w10 ⟨⟨vn, rfl, hrn⟩, hb10⟩
    have H10 := Lib.hid (And.intro (own_kept H9.out.1 hb10) (And.intro (own_kept H9.out.2.1 hb10) (And.intro (own_kept H9.out.2.2.1 hb10) (And.intro hrn (H9.out.2.2.2.trans (hb10.mono H9.out.2.2.2.size))))))
    clear hrn hb10 H9 HEN
    dsimp only
    go_wp2_with fail
    obtain ⟨hTf, hcf, hcmf, _⟩ := ts_own H10.out.1
    obtain ⟨Ab, cb, rfl, hTb, hcb, hcmb, _⟩ := own_slice H10.out.2.1
    obtain ⟨g5, c5, rfl⟩ := ownsRow_succ (k := 0) H10.out.2.2.1
    obtain ⟨hTo, hco, hcmo, _⟩ := ts_own H10.out.2.2.1
    obtain ⟨An, cn, rfl, _⟩ := own_slice H10.out.2.2.2.1
    have hin : ∀ (a b : Int) (v : Bool), decide (Inside front2 (tS a b)) = v → ∀ w', Below w10.heap.size w10 w' → Calls Try.prog 22 #[.slice (some ⟨g, 0, none⟩) 2 c, .agg #[.int .i64 1, .int .i64 a, .int .i64 b, .int .i64 0, .int .i64 0]] w' fun e w'' => e = .returned (.bool v) ∧ Below w'.heap.size w' w'' := fun a b v hv w' hw => by
      subst hv; exact holds_any (some ⟨g, 0, none⟩) front2 c (tS a b) w' (hTf.below hw) (by decide) hcf hcmf
    have H11 := Lib.hid (hin 1 1 true (decide_eq_true in_11))
    have H12 := Lib.hid (hin 1 2 false (decide_eq_false in_12))
    have H20 := Lib.hid (hin 2 0 true (decide_eq_true in_20))
    have H33 := Lib.hid (hin 3 3 false (decide_eq_false in_33))
    have hfo : ∀ w', Below w10.heap.size w10 w' → Calls Try.prog 24 #[.slice (some ⟨g, 0, none⟩) 2 c, .slice (some ⟨g5, 0, none⟩) 1 c5] w' fun e w'' => e = .returned (.bool true) ∧ Below w'.heap.size w' w'' := fun w' hw => by
      have := within_any (some ⟨g, 0, none⟩) (some ⟨g5, 0, none⟩) front2 [tS 2 2] c c5 w' (hTf.below hw) (hTo.below hw) (by decide) (by simp) hcf hco hcmf hcmo
      rw [decide_eq_true under_fo] at this; exact this
    have hof : ∀ w', Below w10.heap.size w10 w' → Calls Try.prog 24 #[.slice (some ⟨g5, 0, none⟩) 1 c5, .slice (some ⟨g, 0, none⟩) 2 c] w' fun e w'' => e = .returned (.bool false) ∧ Below w'.heap.size w' w'' := fun w' hw => by
      have := within_any (some ⟨g5, 0, none⟩) (some ⟨g, 0, none⟩) [tS 2 2] front2 c5 c w' (hTo.below hw) (hTf.below hw) (by simp) (by decide) hco hcf hcmo hcmf
      rw [decide_eq_false under_of] at this; exact this
    have hsame : ∀ w', Below w10.heap.size w10 w' → Calls Try.prog 59 #[.slice Ab 2 cb, .slice (some ⟨g, 0, none⟩) 2 c] w' fun e w'' => e = .returned (.bool true) ∧ Below w'.heap.size w' w'' := fun w' hw => by
      have := same_any Ab (some ⟨g, 0, none⟩) front2 front2 cb c w' (hTb.below hw) (hTf.below hw) (by decide) (by decide)
      rw [decide_eq_true rfl] at this; exact this
    have hright : ∀ w', Below w10.heap.size w10 w' → Calls Try.prog 23 #[.slice (some ⟨g, 0, none⟩) 2 c] w' fun e w'' => e = .returned (.bool true) ∧ Below w'.heap.size w' w'' := fun w' hw => by
      have := right_row_any (some ⟨g, 0, none⟩) front2 c w' (hTf.below hw) (by decide) hcf hcmf
      rw [decide_eq_true fr2] at this; exact this
    have hf0 : ∀ w', Below w10.heap.size w10 w' → (Instr.loadAt 25 (.pointer (some ⟨g, 0, none⟩))).run Try.prog w' = .ok (.agg #[.int .i64 1, .int .i64 1, .int .i64 2, .int .i64 0, .int .i64 0]) w' := by
      obtain ⟨b', o', e, _, h⟩ := hTf.load (i := 0) (t := tS 1 2) rfl
      cases e
      exact h
    have hf1 : ∀ w', Below w10.heap.size w10 w' → (Instr.loadAt 25 (.pointer (some ⟨g, 5, none⟩))).run Try.prog w' = .ok (.agg #[.int .i64 1, .int .i64 2, .int .i64 1, .int .i64 0, .int .i64 0]) w' := by
      obtain ⟨b', o', e, _, h⟩ := hTf.load (i := 1) (t := tS 2 1) rfl
      cases e
      exact h
    have ho0 : ∀ w', Below w10.heap.size w10 w' → (Instr.loadAt 25 (.pointer (some ⟨g5, 0, none⟩))).run Try.prog w' = .ok (.agg #[.int .i64 1, .int .i64 2, .int .i64 2, .int .i64 0, .int .i64 0]) w' := by
      obtain ⟨b', o', e, _, h⟩ := hTo.load (i := 0) (t := tS 2 2) rfl
      cases e
      exact h
    have Hfo := Lib.hid hfo; have Hof := Lib.hid hof; have Hsame := Lib.hid hsame; have Hright := Lib.hid hright; have HF0 := Lib.hid hf0; have HF1 := Lib.hid hf1; have HO0 := Lib.hid ho0
    clear hin hfo hof hsame hright hf0 hf1 ho0 hTf hTb hTo hcf hcb hco hcmf hcmb hcmo
    simp only [show front2.length = 2 from rfl, Nat.zero_add, List.length_nil]
    refine wp_region_below (by kernel_rfl) (by kernel_rfl) ?_
    refine wpQuiet_step (fun K hK => ?_); go_simp; (first | (with_reducible refine hK _ ?_) | (with_reducible refine ⟨_, fun _ _ => rfl, hK _ ?_⟩)); clear hK K
    refine wpQuiet_step (fun K hK => ?_); refine q_bin _ _ _ _ _ rfl rfl rfl rfl (eqe_self _ _ _) ?_; go_simp; (with_reducible refine hK _ ?_); clear hK K
    refine wpQuiet_step (fun K hK => ?_); go_simp; (first | (with_reducible refine hK _ ?_) | (with_reducible refine ⟨_, fun _ _ => rfl, hK _ ?_⟩)); clear hK K
    refine wpQuiet_step (fun K hK => ?_); go_simp; (first | (with_reducible refine hK _ ?_) | (with_reducible refine ⟨_, fun _ _ => rfl, hK _ ?_⟩)); clear hK K
    refine wpQuiet_step (fun K hK => ?_); go_simp; (first | (with_reducible refine hK _ ?_) | (with_reducible refine ⟨_, fun _ _ => rfl, hK _ ?_⟩)); clear hK K
    refine wpQuiet_step (fun K hK => ?_); refine q_load (p := .pointer (some ⟨g, 0, none⟩)) 25 _ rfl rfl rfl (HF0.out) ?_; go_simp; (with_reducible refine hK _ ?_); clear hK K
    refine wpQuiet_step (fun K hK => ?_); go_simp; (with_reducible refine ⟨_, fun _ hb => ((T.out 1 2) _).mono fun _ _ h => ⟨h.1, hb.trans (h.2.mono (by simpa using hb.size))⟩, hK _ ?_⟩); clear hK K
    refine wpQuiet_step (fun K hK => ?_); refine q_bin _ _ _ _ _ rfl rfl rfl rfl (eqt_self _ _ (tS 1 2)) ?_; go_simp; (with_reducible refine hK _ ?_); clear hK K
    refine wpQuiet_step (fun K hK => ?_); go_simp; (first | (with_reducible refine hK _ ?_) | (with_reducible refine ⟨_, fun _ _ => rfl, hK _ ?_⟩)); clear hK K
    refine wpQuiet_step (fun K hK => ?_); go_simp; (first | (with_reducible refine hK _ ?_) | (with_reducible refine ⟨_, fun _ _ => rfl, hK _ ?_⟩)); clear hK K
    refine wpQuiet_step (fun K hK => ?_); go_simp; (first | (with_reducible refine hK _ ?_) | (with_reducible refine ⟨_, fun _ _ => rfl, hK _ ?_⟩)); clear hK K
    refine wpQuiet_step (fun K hK => ?_); go_simp; (first | (with_reducible refine hK _ ?_) | (with_reducible refine ⟨_, fun _ _ => rfl, hK _ ?_⟩)); clear hK K
    refine wpQuiet_step (fun K hK => ?_); refine q_load (p := .pointer (some ⟨g, 5, none⟩)) 25 _ rfl rfl rfl (HF1.out) ?_; go_simp; (with_reducible refine hK _ ?_); clear hK K
    refine wpQuiet_step (fun K hK => ?_); go_simp; (with_reducible refine ⟨_, fun _ hb => ((T.out 2 1) _).mono fun _ _ h => ⟨h.1, hb.trans (h.2.mono (by simpa using hb.size))⟩, hK _ ?_⟩); clear hK K
    refine wpQuiet_step (fun K hK => ?_); refine q_bin _ _ _ _ _ rfl rfl rfl rfl (eqt_self _ _ (tS 2 1)) ?_; go_simp; (with_reducible refine hK _ ?_); clear hK K
    refine wpQuiet_step (fun K hK => ?_); go_simp; (first | (with_reducible refine hK _ ?_) | (with_reducible refine ⟨_, fun _ _ => rfl, hK _ ?_⟩)); clear hK K
    refine wpQuiet_step (fun K hK => ?_); go_simp; (first | (with_reducible refine hK _ ?_) | (with_reducible refine ⟨_, fun _ _ => rfl, hK _ ?_⟩)); clear hK K
    refine wpQuiet_step (fun K hK => ?_); go_simp; (first | (with_reducible refine hK _ ?_) | (with_reducible refine ⟨_, fun _ _ => rfl, hK _ ?_⟩)); clear hK K
    refine wpQuiet_step (fun K hK => ?_); go_simp; (with_reducible refine ⟨_, fun _ hb => ((T.out 1 1) _).mono fun _ _ h => ⟨h.1, hb.trans (h.2.mono (by simpa using hb.size))⟩, hK _ ?_⟩); clear hK K
    refine wpQuiet_step (fun K hK => ?_); go_simp; (with_reducible refine ⟨_, fun wq hb => (H11.out wq hb).mono fun _ _ h => ⟨h.1, hb.trans (h.2.mono (by simpa using hb.size))⟩, hK _ ?_⟩); clear hK K
    refine wpQuiet_step (fun K hK => ?_); go_simp; (first | (with_reducible refine hK _ ?_) | (with_reducible refine ⟨_, fun _ _ => rfl, hK _ ?_⟩)); clear hK K
    refine wpQuiet_step (fun K hK => ?_); go_simp; (first | (with_reducible refine hK _ ?_) | (with_reducible refine ⟨_, fun _ _ => rfl, hK _ ?_⟩)); clear hK K
    refine wpQuiet_step (fun K hK => ?_); go_simp; (first | (with_reducible refine hK _ ?_) | (with_reducible refine ⟨_, fun _ _ => rfl, hK _ ?_⟩)); clear hK K
    refine wpQuiet_step (fun K hK => ?_); go_simp; (with_reducible refine ⟨_, fun _ hb => ((T.out 1 2) _).mono fun _ _ h => ⟨h.1, hb.trans (h.2.mono (by simpa using hb.size))⟩, hK _ ?_⟩); clear hK K
    refine wpQuiet_step (fun K hK => ?_); go_simp; (with_reducible refine ⟨_, fun wq hb => (H12.out wq hb).mono fun _ _ h => ⟨h.1, hb.trans (h.2.mono (by simpa using hb.size))⟩, hK _ ?_⟩); clear hK K
    refine wpQuiet_step (fun K hK => ?_); go_simp; (first | (with_reducible refine hK _ ?_) | (with_reducible refine ⟨_, fun _ _ => rfl, hK _ ?_⟩)); clear hK K
    refine wpQuiet_step (fun K hK => ?_); go_simp; (first | (with_reducible refine hK _ ?_) | (with_reducible refine ⟨_, fun _ _ => rfl, hK _ ?_⟩)); clear hK K
    refine wpQuiet_step (fun K hK => ?_); go_simp; (first | (with_reducible refine hK _ ?_) | (with_reducible refine ⟨_, fun _ _ => rfl, hK _ ?_⟩)); clear hK K
    refine wpQuiet_step (fun K hK => ?_); go_simp; (first | (with_reducible refine hK _ ?_) | (with_reducible refine ⟨_, fun _ _ => rfl, hK _ ?_⟩)); clear hK K
    refine wpQuiet_step (fun K hK => ?_); go_simp; (with_reducible refine ⟨_, fun _ hb => ((T.out 2 0) _).mono fun _ _ h => ⟨h.1, hb.trans (h.2.mono (by simpa using hb.size))⟩, hK _ ?_⟩); clear hK K
    refine wpQuiet_step (fun K hK => ?_); go_simp; (with_reducible refine ⟨_, fun wq hb => (H20.out wq hb).mono fun _ _ h => ⟨h.1, hb.trans (h.2.mono (by simpa using hb.size))⟩, hK _ ?_⟩); clear hK K
    refine wpQuiet_step (fun K hK => ?_); go_simp; (first | (with_reducible refine hK _ ?_) | (with_reducible refine ⟨_, fun _ _ => rfl, hK _ ?_⟩)); clear hK K
    refine wpQuiet_step (fun K hK => ?_); go_simp; (first | (with_reducible refine hK _ ?_) | (with_reducible refine ⟨_, fun _ _ => rfl, hK _ ?_⟩)); clear hK K
    refine wpQuiet_step (fun K hK => ?_); go_simp; (first | (with_reducible refine hK _ ?_) | (with_reducible refine ⟨_, fun _ _ => rfl, hK _ ?_⟩)); clear hK K
    refine wpQuiet_step (fun K hK => ?_); go_simp; (with_reducible refine ⟨_, fun _ hb => ((T.out 3 3) _).mono fun _ _ h => ⟨h.1, hb.trans (h.2.mono (by simpa using hb.size))⟩, hK _ ?_⟩); clear hK K
    refine wpQuiet_step (fun K hK => ?_); go_simp; (with_reducible refine ⟨_, fun wq hb => (H33.out wq hb).mono fun _ _ h => ⟨h.1, hb.trans (h.2.mono (by simpa using hb.size))⟩, hK _ ?_⟩); clear hK K
    refine wpQuiet_step (fun K hK => ?_); go_simp; (first | (with_reducible refine hK _ ?_) | (with_reducible refine ⟨_, fun _ _ => rfl, hK _ ?_⟩)); clear hK K
    refine wpQuiet_step (fun K hK => ?_); go_simp; (first | (with_reducible refine hK _ ?_) | (with_reducible refine ⟨_, fun _ _ => rfl, hK _ ?_⟩)); clear hK K
    refine wpQuiet_step (fun K hK => ?_); go_simp; (first | (with_reducible refine hK _ ?_) | (with_reducible refine ⟨_, fun _ _ => rfl, hK _ ?_⟩)); clear hK K
    refine wpQuiet_step (fun K hK => ?_); go_simp; (first | (with_reducible refine hK _ ?_) | (with_reducible refine ⟨_, fun _ _ => rfl, hK _ ?_⟩)); clear hK K
    refine wpQuiet_step (fun K hK => ?_); go_simp; (first | (with_reducible refine hK _ ?_) | (with_reducible refine ⟨_, fun _ _ => rfl, hK _ ?_⟩)); clear hK K
    refine wpQuiet_step (fun K hK => ?_); go_simp; (with_reducible refine ⟨_, fun wq hb => (Hfo.out wq hb).mono fun _ _ h => ⟨h.1, hb.trans (h.2.mono (by simpa using hb.size))⟩, hK _ ?_⟩); clear hK K
    refine wpQuiet_step (fun K hK => ?_); go_simp; (first | (with_reducible refine hK _ ?_) | (with_reducible refine ⟨_, fun _ _ => rfl, hK _ ?_⟩)); clear hK K
    refine wpQuiet_step (fun K hK => ?_); go_simp; (first | (with_reducible refine hK _ ?_) | (with_reducible refine ⟨_, fun _ _ => rfl, hK _ ?_⟩)); clear hK K
    refine wpQuiet_step (fun K hK => ?_); go_simp; (first | (with_reducible refine hK _ ?_) | (with_reducible refine ⟨_, fun _ _ => rfl, hK _ ?_⟩)); clear hK K
    refine wpQuiet_step (fun K hK => ?_); go_simp; (first | (with_reducible refine hK _ ?_) | (with_reducible refine ⟨_, fun _ _ => rfl, hK _ ?_⟩)); clear hK K
    refine wpQuiet_step (fun K hK => ?_); go_simp; (with_reducible refine ⟨_, fun wq hb => (Hof.out wq hb).mono fun _ _ h => ⟨h.1, hb.trans (h.2.mono (by simpa using hb.size))⟩, hK _ ?_⟩); clear hK K
    refine wpQuiet_step (fun K hK => ?_); go_simp; (first | (with_reducible refine hK _ ?_) | (with_reducible refine ⟨_, fun _ _ => rfl, hK _ ?_⟩)); clear hK K
    refine wpQuiet_step (fun K hK => ?_); go_simp; (first | (with_reducible refine hK _ ?_) | (with_reducible refine ⟨_, fun _ _ => rfl, hK _ ?_⟩)); clear hK K
    refine wpQuiet_step (fun K hK => ?_); go_simp; (first | (with_reducible refine hK _ ?_) | (with_reducible refine ⟨_, fun _ _ => rfl, hK _ ?_⟩)); clear hK K
    refine wpQuiet_step (fun K hK => ?_); go_simp; (first | (with_reducible refine hK _ ?_) | (with_reducible refine ⟨_, fun _ _ => rfl, hK _ ?_⟩)); clear hK K
    refine wpQuiet_step (fun K hK => ?_); refine q_bin _ _ _ _ _ rfl rfl rfl rfl (eqe_self _ _ _) ?_; go_simp; (with_reducible refine hK _ ?_); clear hK K
    refine wpQuiet_step (fun K hK => ?_); go_simp; (first | (with_reducible refine hK _ ?_) | (with_reducible refine ⟨_, fun _ _ => rfl, hK _ ?_⟩)); clear hK K
    refine wpQuiet_step (fun K hK => ?_); go_simp; (first | (with_reducible refine hK _ ?_) | (with_reducible refine ⟨_, fun _ _ => rfl, hK _ ?_⟩)); clear hK K
    refine wpQuiet_step (fun K hK => ?_); go_simp; (first | (with_reducible refine hK _ ?_) | (with_reducible refine ⟨_, fun _ _ => rfl, hK _ ?_⟩)); clear hK K
    refine wpQuiet_step (fun K hK => ?_); go_simp; (first | (with_reducible refine hK _ ?_) | (with_reducible refine ⟨_, fun _ _ => rfl, hK _ ?_⟩)); clear hK K
    refine wpQuiet_step (fun K hK => ?_); go_simp; (with_reducible refine ⟨_, fun wq hb => (Hsame.out wq hb).mono fun _ _ h => ⟨h.1, hb.trans (h.2.mono (by simpa using hb.size))⟩, hK _ ?_⟩); clear hK K
    refine wpQuiet_step (fun K hK => ?_); go_simp; (first | (with_reducible refine hK _ ?_) | (with_reducible refine ⟨_, fun _ _ => rfl, hK _ ?_⟩)); clear hK K
    refine wpQuiet_step (fun K hK => ?_); go_simp; (first | (with_reducible refine hK _ ?_) | (with_reducible refine ⟨_, fun _ _ => rfl, hK _ ?_⟩)); clear hK K
    refine wpQuiet_step (fun K hK => ?_); go_simp; (first | (with_reducible refine hK _ ?_) | (with_reducible refine ⟨_, fun _ _ => rfl, hK _ ?_⟩)); clear hK K
    refine wpQuiet_step (fun K hK => ?_); refine q_bin _ _ _ _ _ rfl rfl rfl rfl (eqe_self _ _ _) ?_; go_simp; (with_reducible refine hK _ ?_); clear hK K
    refine wpQuiet_step (fun K hK => ?_); go_simp; (first | (with_reducible refine hK _ ?_) | (with_reducible refine ⟨_, fun _ _ => rfl, hK _ ?_⟩)); clear hK K
    refine wpQuiet_step (fun K hK => ?_); go_simp; (first | (with_reducible refine hK _ ?_) | (with_reducible refine ⟨_, fun _ _ => rfl, hK _ ?_⟩)); clear hK K
    refine wpQuiet_step (fun K hK => ?_); go_simp; (first | (with_reducible refine hK _ ?_) | (with_reducible refine ⟨_, fun _ _ => rfl, hK _ ?_⟩)); clear hK K
    refine wpQuiet_step (fun K hK => ?_); go_simp; (first | (with_reducible refine hK _ ?_) | (with_reducible refine ⟨_, fun _ _ => rfl, hK _ ?_⟩)); clear hK K
    refine wpQuiet_step (fun K hK => ?_); refine q_bin _ _ _ _ _ rfl rfl rfl rfl (eqi_self _ _ _) ?_; go_simp; (with_reducible refine hK _ ?_); clear hK K
    refine wpQuiet_step (fun K hK => ?_); go_simp; (first | (with_reducible refine hK _ ?_) | (with_reducible refine ⟨_, fun _ _ => rfl, hK _ ?_⟩)); clear hK K
    refine wpQuiet_step (fun K hK => ?_); go_simp; (first | (with_reducible refine hK _ ?_) | (with_reducible refine ⟨_, fun _ _ => rfl, hK _ ?_⟩)); clear hK K
    refine wpQuiet_step (fun K hK => ?_); go_simp; (first | (with_reducible refine hK _ ?_) | (with_reducible refine ⟨_, fun _ _ => rfl, hK _ ?_⟩)); clear hK K
    refine wpQuiet_step (fun K hK => ?_); go_simp; (first | (with_reducible refine hK _ ?_) | (with_reducible refine ⟨_, fun _ _ => rfl, hK _ ?_⟩)); clear hK K
    refine wpQuiet_step (fun K hK => ?_); refine q_load (p := .pointer (some ⟨g5, 0, none⟩)) 25 _ rfl rfl rfl (HO0.out) ?_; go_simp; (with_reducible refine hK _ ?_); clear hK K
    refine wpQuiet_step (fun K hK => ?_); go_simp; (with_reducible refine ⟨_, fun _ hb => ((T.out 2 2) _).mono fun _ _ h => ⟨h.1, hb.trans (h.2.mono (by simpa using hb.size))⟩, hK _ ?_⟩); clear hK K
    refine wpQuiet_step (fun K hK => ?_); refine q_bin _ _ _ _ _ rfl rfl rfl rfl (eqt_self _ _ (tS 2 2)) ?_; go_simp; (with_reducible refine hK _ ?_); clear hK K
    refine wpQuiet_step (fun K hK => ?_); go_simp; (first | (with_reducible refine hK _ ?_) | (with_reducible refine ⟨_, fun _ _ => rfl, hK _ ?_⟩)); clear hK K
    refine wpQuiet_step (fun K hK => ?_); go_simp; (first | (with_reducible refine hK _ ?_) | (with_reducible refine ⟨_, fun _ _ => rfl, hK _ ?_⟩)); clear hK K
    refine wpQuiet_step (fun K hK => ?_); go_simp; (first | (with_reducible refine hK _ ?_) | (with_reducible refine ⟨_, fun _ _ => rfl, hK _ ?_⟩)); clear hK K
    refine wpQuiet_step (fun K hK => ?_); go_simp; (first | (with_reducible refine hK _ ?_) | (with_reducible refine ⟨_, fun _ _ => rfl, hK _ ?_⟩)); clear hK K
    refine wpQuiet_step (fun K hK => ?_); refine q_bin _ _ _ _ _ rfl rfl rfl rfl (eqi_self _ _ _) ?_; go_simp; (with_reducible refine hK _ ?_); clear hK K
    refine wpQuiet_step (fun K hK => ?_); go_simp; (first | (with_reducible refine hK _ ?_) | (with_reducible refine ⟨_, fun _ _ => rfl, hK _ ?_⟩)); clear hK K
    refine wpQuiet_step (fun K hK => ?_); go_simp; (first | (with_reducible refine hK _ ?_) | (with_reducible refine ⟨_, fun _ _ => rfl, hK _ ?_⟩)); clear hK K
    refine wpQuiet_step (fun K hK => ?_); go_simp; (first | (with_reducible refine hK _ ?_) | (with_reducible refine ⟨_, fun _ _ => rfl, hK _ ?_⟩)); clear hK K
    refine wpQuiet_step (fun K hK => ?_); refine q_bin _ _ _ _ _ rfl rfl rfl rfl (eqe_self _ _ _) ?_; go_simp; (with_reducible refine hK _ ?_); clear hK K
    refine wpQuiet_step (fun K hK => ?_); go_simp; (first | (with_reducible refine hK _ ?_) | (with_reducible refine ⟨_, fun _ _ => rfl, hK _ ?_⟩)); clear hK K
    refine wpQuiet_step (fun K hK => ?_); go_simp; (first | (with_reducible refine hK _ ?_) | (with_reducible refine ⟨_, fun _ _ => rfl, hK _ ?_⟩)); clear hK K
    refine wpQuiet_step (fun K hK => ?_); go_simp; (first | (with_reducible refine hK _ ?_) | (with_reducible refine ⟨_, fun _ _ => rfl, hK _ ?_⟩)); clear hK K
    refine wpQuiet_step (fun K hK => ?_); go_simp; (with_reducible refine ⟨_, fun wq hb => (Hright.out wq hb).mono fun _ _ h => ⟨h.1, hb.trans (h.2.mono (by simpa using hb.size))⟩, hK _ ?_⟩); clear hK K
    refine wpQuiet_step (fun K hK => ?_); go_simp; (first | (with_reducible refine hK _ ?_) | (with_reducible refine ⟨_, fun _ _ => rfl, hK _ ?_⟩)); clear hK K
    refine wpQuiet_step (fun K hK => ?_); go_simp; (first | (with_reducible refine hK _ ?_) | (with_reducible refine ⟨_, fun _ _ => rfl, hK _ ?_⟩)); clear hK K
    refine wpQuiet_nil ?_
    intro wz hbz
    go_wp2_with fail
    go_ret
    exact ⟨rfl, H10.out.2.2.2.2.trans (hbz.mono H10.out.2.2.2.2.size)⟩
end Go.Proofs.Ytkbabmifdfmhlaa
