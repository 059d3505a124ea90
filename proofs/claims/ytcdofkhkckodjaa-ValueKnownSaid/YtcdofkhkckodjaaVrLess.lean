/- Less, the program's. -/
import Derived.Test.YtcdofkhkckodjaaVrSame
import Derived.Test.YtcdofkhkckodjaaVrSub
namespace Go.Proofs.Ytcdofkhkckodjaa
namespace Vr
open Go.ChangeShapes Go.WideShapes Go.ChangeAt Go.RowKit Go.BigFrame
set_option linter.unusedVariables false
set_option maxRecDepth 100000
/-- what Less answers -/
def LessD (o : Option (List Rd)) (w : World) (e : Ending) (w' : World) : Prop := (∃ v, e = .returned (.tuple #[v, .bool o.isSome]) ∧ w'.ownsRow w.heap.size 32 kindR.K v (o.getD []).length (Rw.row kindR (o.getD []))) ∧ Below w.heap.size w w'
/-- a row that can be read, apart from one that is appended to -/
theorem aw_grown {w w' : World} {base n K : Nat} {T : TypeId} {v : Value} {xs : List Value} {A : Option Addr} {l : List Rd} (h : Rw.Ts kindR w A l) (hab : ∀ ad, A = some ad → ad.block < base ∨ l = []) (hg : w.grownBy w' v.ownBlock) (ho : w.ownsRow base T K v n xs) : Rw.Ts kindR w' A l := fun hn => by
  obtain ⟨b, o, e, hlt, hc⟩ := h hn
  have hb : b < base := (hab _ e).resolve_right (by intro e; rw [e] at hn; simp at hn)
  refine ⟨b, o, e, Nat.lt_of_lt_of_le hlt hg.size, fun j u hu => ?_⟩
  have hne : some b ≠ v.ownBlock := fun e' => by have := (ho.lt b e'.symm).1; omega
  exact (World.cell?_of_block (a := ⟨b, o + j, none⟩) (hg.block b hlt hne)).trans (hc j u hu)
set_option maxHeartbeats 2000000 in
theorem less_any (A B : Option Addr) (a b : List Rd) (c d : Nat) (w : World) (hA : Rw.Ts kindR w A a) (hB : Rw.Ts kindR w B b) (hAn : A = none → c = 0 ∧ a = []) (hBn : B = none → d = 0 ∧ b = []) (ha : a.length ≤ 100000) (hb : b.length ≤ 100000) :
    Calls Try.prog 10 #[.slice A a.length c, .slice B b.length d] w (LessD (lessR a b) w) := by
  have h1 := sorted_any B b d w hB hBn (by omega)
  have h2 := fun w' (hb' : Below w.heap.size w w') => sorted_any A a c w' (hA.below hb') hAn (by omega)
  have hl1 : (sortR a).length ≤ 100000 := by rw [sortR_perm.length_eq]; exact ha
  have hl2 : (sortR b).length ≤ 100000 := by rw [sortR_perm.length_eq]; exact hb
  have hyes := fun rest => SubI.yes (a := a) (b := b) (rest := rest)
  have hno := fun rest away => SubI.no (a := a) (b := b) (rest := rest) (away := away)
  have hss := sortR_sort (l := a); have hsb := sortR_sort (l := b)
  have hst := SubI.start (sortR a) (sortR b)
  generalize lessR a b = ans at *
  generalize sortR a = sa at *
  generalize sortR b = sb at *
  have H1 := Lib.hid h1; have H2 := Lib.hid h2; have HYES := Lib.hid hyes; have HNO := Lib.hid hno; have HSS := Lib.hid hss; have HSB := Lib.hid hsb; have HST := Lib.hid hst; have HL2 := Lib.hid hl2
  clear h1 h2 hyes hno hss hsb hst hA hB hAn hBn ha hb hl2
  generalize a.length = n at *
  generalize b.length = m at *
  go_enter Try.func10, Try.ntmps10
  go_wp2_with fail
  refine H1.out.mono ?_; rintro e w1 ⟨⟨v1, rfl, ho1⟩, hb1⟩
  obtain ⟨A1, c1, rfl, hT1, _, hc1, hm1⟩ := own_ts ho1
  have HT1 := Lib.hid hT1; have HB1 := Lib.hid hb1; have HC1 := Lib.hid (And.intro hc1 hm1); clear ho1 hT1 hb1 H1 hc1 hm1
  dsimp only
  go_wp2_with fail
  refine (H2.out _ HB1.out).mono ?_; rintro e w2 ⟨⟨v2, rfl, ho2⟩, hb2⟩
  obtain ⟨A2, c2, rfl, hT2, _, _, _⟩ := own_ts ho2
  have HT1' := Lib.hid (HT1.out.below hb2); have HT2 := Lib.hid hT2; have HB2 := Lib.hid (HB1.out.trans (hb2.mono HB1.out.size)); clear ho2 hT2 hb2 H2 HB1 HT1
  dsimp only
  have hw2 : w.heap.size ≤ w2.heap.size := HB2.out.size
  have hab : ∀ ad, A1 = some ad → ad.block < w2.heap.size ∨ sb = [] := fun ad e => by
    cases hh : sb with
    | nil => exact .inr rfl
    | cons x t =>
      obtain ⟨b', o', e', hlt, _⟩ := HT1'.out (by rw [hh]; simp)
      rw [e'] at e; cases e; exact .inl hlt
  have HW2 := Lib.hid hw2; have HAB0 := Lib.hid hab; clear hw2 hab
  go_wp2_with fail
  go_loopw [6, 7, 15] (fun va vr vi wr => ∃ i : Nat, i ≤ sa.length ∧ vi = .int .i64 i ∧ ∃ (rest away : List Rd) (AA : Option Addr) (ca : Nat), va = .slice AA away.length ca ∧ wr.ownsRow w2.heap.size 32 kindR.K vr rest.length (Rw.row kindR rest) ∧ Rw.Ts kindR wr AA away ∧ (∀ ad, AA = some ad → ad.block < w2.heap.size ∨ away = []) ∧ (away.length ≤ ca ∧ ca ≤ maxLen) ∧ SubI sa sb i rest away ∧ Below w2.heap.size w2 wr) (fun _ _ vi _ => sa.length - (intOf vi).toNat)
  case atStart => exact ⟨0, by omega, rfl, [], sb, A1, c1, rfl, World.ownsRow_nil _ _ _ _, HT1'.out, HAB0.out, HC1.out, HST.out, Below.refl _ _⟩
  case round =>
    obtain ⟨i, hi, rfl, rest, away, AA, ca, rfl, hown, haw, hab, hca, hsub, hb⟩ := hrel
    have HO := Lib.hid hown; have HAW := Lib.hid haw; have HAB := Lib.hid hab; have HC := Lib.hid hca; have HSUB := Lib.hid hsub; have HB := Lib.hid hb
    have hrl : rest.length ≤ sa.length := by have := hsub.sub.length_le; have := List.length_take_le i sa; omega
    clear hown haw hab hca hsub hb
    by_cases hlt : i < sa.length
    · have hltz : (i : Int) < (sa.length : Int) := by omega
      obtain ⟨r, hr⟩ : ∃ r, sa[i]? = some r := ⟨_, List.getElem?_eq_getElem hlt⟩
      obtain ⟨b2, o2, rfl, _, hcl⟩ := recs_at HT2.out hr
      obtain ⟨e0, e1⟩ := hcl wr HB.out
      have HR := Lib.hid hr; clear hr hcl
      go_upto_region 6 with fail
      have hbx := Row.made wr 32 [.int .i64 r.k, .int .i64 r.v]
      have hal := (Below.refl wr.heap.size wr).alloc (Nat.le_refl _) (.cells #[.int .i64 r.k, .int .i64 r.v] 32)
      have ho2 := HO.out.alloc (.cells #[.int .i64 r.k, .int .i64 r.v] 32)
      have haw2 := HAW.out.below hal
      have hb2 := HB.out.alloc HB.out.size (.cells #[.int .i64 r.k, .int .i64 r.v] 32)
      simp only [List.toArray] at hbx
      clear hal HO HAW HB e0 e1
      generalize wr.alloc (.cells #[.int .i64 r.k, .int .i64 r.v] 32) = wz at *
      generalize wr.heap.size = B2 at *
      have HBOX := Lib.hid hbx; have HO2 := Lib.hid ho2; have HAW2 := Lib.hid haw2; have HB2 := Lib.hid hb2
      clear hbx ho2 haw2 hb2
      have HL2' : Hid (∀ w', Below wz.heap.size wz w' → (Instr.loadAt 32 (.pointer (some ⟨B2, 0, none⟩))).run Try.prog w' = .ok (.agg #[.int .i64 r.k, .int .i64 r.v]) w') := Lib.hid fun w' hb => run_loadAt_part B2 0 32 _ r.cells (fun j v hj => by rw [add_at, Nat.zero_add, (HBOX.out.below hb HBOX.out.lt).cell]; exact hj) Try.underlying32 rfl (by kernel_rfl)
      obtain ⟨al, hal⟩ : ∃ al, away.length = al := ⟨_, rfl⟩
      rw [hal]
      by_cases hz : 0 < al
      · obtain ⟨x, t, hxt⟩ : ∃ x t, away = x :: t := by
          cases away with
          | nil => simp at hal; omega
          | cons x t => exact ⟨x, t, rfl⟩
        obtain ⟨ba, oa, hAA, hba, hload⟩ := load_r HAW2.out (i := 0) (t := x) (by rw [hxt]; rfl)
        rw [Nat.zero_mul, Nat.add_zero] at hload
        have HL1 := Lib.hid hload; have HXT := Lib.hid hxt; have HAL := Lib.hid hal; have HBA := Lib.hid hba
        clear hload hxt hal hba
        rw [hAA]
        have HAA := Lib.hid hAA; clear hAA
        have hzi : (0 : Int) < (al : Int) := by omega
        have d0 : decide ((0 : Int) < (al : Int)) = true := by simp; omega
        have hca1 : al ≤ ca := by have := HC.out.1; have := HAL.out; omega
        have hca2 : ca ≤ 9223372036854775807 := by have := HC.out.2; unfold maxLen at this; omega
        by_cases hxr : x = r
        · have he : eqB x r = true := eqB_yes hxr
          have HHIT : Hid (SubI sa sb (i + 1) rest t) := Lib.hid (SubI.hit (by have h := HSUB.out; rw [HXT.out, hxr] at h; exact h) HR.out)
          clear hxr
          refine wp_region_below (by kernel_rfl) (by kernel_rfl) ?_
          refine wpQuiet_step (fun K hK => ?_); go_simp; (first | (with_reducible refine hK _ ?_) | (with_reducible refine ⟨_, fun _ _ => rfl, hK _ ?_⟩)); clear hK K
          refine wpQuiet_step (fun K hK => ?_); go_simp; (first | (with_reducible refine hK _ ?_) | (with_reducible refine ⟨_, fun _ _ => rfl, hK _ ?_⟩)); clear hK K
          refine wpQuiet_step (fun K hK => ?_); go_simp; (first | (with_reducible refine hK _ ?_) | (with_reducible refine ⟨_, fun _ _ => rfl, hK _ ?_⟩)); clear hK K
          refine wpQuiet_step (fun K hK => ?_); go_simp; (first | (with_reducible refine hK _ ?_) | (with_reducible refine ⟨_, fun _ _ => rfl, hK _ ?_⟩)); clear hK K
          refine wpQuiet_step (fun K hK => ?_); go_simp; (first | (with_reducible refine hK _ ?_) | (with_reducible refine ⟨_, fun _ _ => rfl, hK _ ?_⟩)); clear hK K
          refine wpQuiet_step (fun K hK => ?_); go_simp; (first | (with_reducible refine hK _ ?_) | (with_reducible refine ⟨_, fun _ _ => rfl, hK _ ?_⟩)); clear hK K
          refine wpQuiet_step (fun K hK => ?_); refine q_load (p := .pointer (some ⟨ba, oa, none⟩)) 32 _ rfl rfl rfl (HL1.out) ?_; go_simp; (with_reducible refine hK _ ?_); clear hK K
          refine wpQuiet_step (fun K hK => ?_); refine q_load (p := .pointer (some ⟨B2, 0, none⟩)) 32 _ rfl rfl rfl (HL2'.out) ?_; go_simp; (with_reducible refine hK _ ?_); clear hK K
          refine wpQuiet_step (fun K hK => ?_); refine q_bin _ _ _ _ _ rfl rfl rfl rfl (eq_r _ _ x r) ?_; go_simp; (with_reducible refine hK _ ?_); clear hK K
          refine wpQuiet_step (fun K hK => ?_); go_simp; (first | (with_reducible refine hK _ ?_) | (with_reducible refine ⟨_, fun _ _ => rfl, hK _ ?_⟩)); clear hK K
          refine wpQuiet_nil ?_
          intro wy hby
          have HBY := Lib.hid hby; clear hby
          have HO3 := Lib.hid (Rw.own_kept HO2.out HBY.out); have HB3 := Lib.hid (HB2.out.trans (HBY.out.mono HB2.out.size))
          have HAW3 : Hid (Rw.Ts kindR wy (some ⟨ba, oa, none⟩) (x :: t)) := Lib.hid (by have h := HAW2.out.below HBY.out; rw [HAA.out, HXT.out] at h; exact h)
          have hta : t.length = al - 1 := by have := HAL.out; rw [HXT.out] at this; simp at this; omega
          have hab' : ba < w2.heap.size ∨ t = [] := by
            rcases HAB.out _ HAA.out with h | h
            · exact .inl h
            · rw [HXT.out] at h; cases h
          have HTA := Lib.hid hta; have HAB' := Lib.hid hab'
          clear hta hab' HL1 HL2' HO2 HB2 HAW2 he
          by_cases hc1 : ca = 1
          · have ht0 : t = [] := List.eq_nil_of_length_eq_zero (by have := HTA.out; omega)
            have HT0 := Lib.hid ht0; clear ht0
            have hal1 : al = 1 := by omega
            subst hc1 hal1
            go_wp2_with fail
            go_roundw
            case rel => exact ⟨i + 1, by omega, by simp, rest, t, some ⟨ba, oa, none⟩, 0, by rw [HT0.out]; rfl, HO3.out, by rw [HT0.out]; exact Rw.Ts.nil, fun ad e => by cases e; exact HAB'.out, ⟨by rw [HT0.out]; simp, by unfold maxLen; omega⟩, HHIT.out, HB3.out⟩
            case measure => simp only [intOf]; omega
          · have hc2 : ¬ ca = 1 := hc1
            have hc3 : 1 < ca := by omega
            clear hc1
            go_wp2_with fail
            go_roundw
            case rel => exact ⟨i + 1, by omega, by simp, rest, t, some ⟨ba, oa + 1 * 2, none⟩, ca - 1, by rw [HTA.out], HO3.out, by have h := HAW3.out.drop 1; exact h, fun ad e => by cases e; exact HAB'.out, ⟨by rw [HTA.out]; omega, by unfold maxLen; omega⟩, HHIT.out, HB3.out⟩
            case measure => simp only [intOf]; omega
        · have he : eqB x r = false := eqB_no hxr
          have HMISS : Hid (SubI sa sb (i + 1) (rest ++ [r]) away) := Lib.hid (HSUB.out.miss HR.out HSS.out HSB.out fun x' t' e => by rw [HXT.out] at e; cases e; exact hxr)
          clear hxr
          refine wp_region_below (by kernel_rfl) (by kernel_rfl) ?_
          refine wpQuiet_step (fun K hK => ?_); go_simp; (first | (with_reducible refine hK _ ?_) | (with_reducible refine ⟨_, fun _ _ => rfl, hK _ ?_⟩)); clear hK K
          refine wpQuiet_step (fun K hK => ?_); go_simp; (first | (with_reducible refine hK _ ?_) | (with_reducible refine ⟨_, fun _ _ => rfl, hK _ ?_⟩)); clear hK K
          refine wpQuiet_step (fun K hK => ?_); go_simp; (first | (with_reducible refine hK _ ?_) | (with_reducible refine ⟨_, fun _ _ => rfl, hK _ ?_⟩)); clear hK K
          refine wpQuiet_step (fun K hK => ?_); go_simp; (first | (with_reducible refine hK _ ?_) | (with_reducible refine ⟨_, fun _ _ => rfl, hK _ ?_⟩)); clear hK K
          refine wpQuiet_step (fun K hK => ?_); go_simp; (first | (with_reducible refine hK _ ?_) | (with_reducible refine ⟨_, fun _ _ => rfl, hK _ ?_⟩)); clear hK K
          refine wpQuiet_step (fun K hK => ?_); go_simp; (first | (with_reducible refine hK _ ?_) | (with_reducible refine ⟨_, fun _ _ => rfl, hK _ ?_⟩)); clear hK K
          refine wpQuiet_step (fun K hK => ?_); refine q_load (p := .pointer (some ⟨ba, oa, none⟩)) 32 _ rfl rfl rfl (HL1.out) ?_; go_simp; (with_reducible refine hK _ ?_); clear hK K
          refine wpQuiet_step (fun K hK => ?_); refine q_load (p := .pointer (some ⟨B2, 0, none⟩)) 32 _ rfl rfl rfl (HL2'.out) ?_; go_simp; (with_reducible refine hK _ ?_); clear hK K
          refine wpQuiet_step (fun K hK => ?_); refine q_bin _ _ _ _ _ rfl rfl rfl rfl (eq_r _ _ x r) ?_; go_simp; (with_reducible refine hK _ ?_); clear hK K
          refine wpQuiet_step (fun K hK => ?_); go_simp; (first | (with_reducible refine hK _ ?_) | (with_reducible refine ⟨_, fun _ _ => rfl, hK _ ?_⟩)); clear hK K
          refine wpQuiet_nil ?_
          intro wy hby
          have HBY := Lib.hid hby; clear hby HL1 HL2'
          rw [← HAA.out]
          have k0 : wy.cell? ⟨B2, 0, none⟩ = some (.int .i64 r.k) := HBOX.out.below HBY.out HBOX.out.lt |>.cell 0
          have k1 : wy.cell? ⟨B2, 1, none⟩ = some (.int .i64 r.v) := HBOX.out.below HBY.out HBOX.out.lt |>.cell 1
          have HO3 := Lib.hid (Rw.own_kept HO2.out HBY.out); have HB3 := Lib.hid (HB2.out.trans (HBY.out.mono HB2.out.size))
          have HAW3 := Lib.hid (HAW2.out.below HBY.out)
          have HBS := Lib.hid HB3.out.size
          clear HAW2 HO2 HB2 HBY HBOX
          go_wp2_with (at_builtin; refine Rw.append_own kindR 32 22 Try.underlying22 infoRec rfl rfl _ _ rfl w2.heap.size _ rest.length rest rfl (HO3.out.alloc _) _ 1 [r] rfl (by simp) (Rw.Ts.made _ [r] _) (by unfold maxLen; simp; omega) (by simp; omega) (by have := HBS.out; simp; omega) ?_; intro v2 w4 hv2 hg2; have hb2 := Rw.own_below (HO3.out.alloc _) hg2 (HB3.out.alloc HBS.out _) (by have := HBS.out; simp; omega); have HV : Hid (w4.ownsRow w2.heap.size 32 kindR.K v2 (rest ++ [r]).length (Rw.row kindR (rest ++ [r]))) := Lib.hid (by rw [List.length_append]; exact hv2); have HAW4 : Hid (Rw.Ts kindR w4 AA away) := Lib.hid (aw_grown (HAW3.out.below ((Below.refl _ wy).alloc (Nat.le_refl _) _)) HAB.out hg2 (HO3.out.alloc _)); have HB4 := Lib.hid hb2; clear hv2 hg2 hb2 k0 k1)
          go_roundw
          case rel => exact ⟨i + 1, by omega, by simp, rest ++ [r], away, AA, ca, by rw [HAL.out], HV.out, HAW4.out, HAB.out, HC.out, HMISS.out, HB4.out⟩
          case measure => simp only [intOf]; omega
      · have hzi : ¬ (0 : Int) < (al : Int) := by omega
        have d0 : decide ((0 : Int) < (al : Int)) = false := by simp; omega
        have HMISS : Hid (SubI sa sb (i + 1) (rest ++ [r]) away) := Lib.hid (HSUB.out.miss HR.out HSS.out HSB.out fun x' t' e => by rw [e] at hal; simp at hal; omega)
        have HAL := Lib.hid hal; clear hal
        refine wp_region_below (by kernel_rfl) (by kernel_rfl) ?_
        refine wpQuiet_step (fun K hK => ?_); go_simp; (try (with_reducible refine ⟨_, fun _ _ => rfl, ?_⟩)); generalize hA : ({ tmps := _, defers := _ } : Act) = A; (with_reducible refine hK A ?_); clear hK K
        refine wpQuiet_step (fun K hK => ?_); subst hA; go_simp; (try (with_reducible refine ⟨_, fun _ _ => rfl, ?_⟩)); generalize hA : ({ tmps := _, defers := _ } : Act) = A; (with_reducible refine hK A ?_); clear hK K
        refine wpQuiet_step (fun K hK => ?_); subst hA; go_simp; (try (with_reducible refine ⟨_, fun _ _ => rfl, ?_⟩)); generalize hA : ({ tmps := _, defers := _ } : Act) = A; (with_reducible refine hK A ?_); clear hK K
        refine wpQuiet_step (fun K hK => ?_); subst hA; go_simp; (try (with_reducible refine ⟨_, fun _ _ => rfl, ?_⟩)); generalize hA : ({ tmps := _, defers := _ } : Act) = A; (with_reducible refine hK A ?_); clear hK K
        refine wpQuiet_step (fun K hK => ?_); subst hA; go_simp; (try (with_reducible refine ⟨_, fun _ _ => rfl, ?_⟩)); generalize hA : ({ tmps := _, defers := _ } : Act) = A; (with_reducible refine hK A ?_); clear hK K
        refine wpQuiet_step (fun K hK => ?_); subst hA; go_simp; (try (with_reducible refine ⟨_, fun _ _ => rfl, ?_⟩)); generalize hA : ({ tmps := _, defers := _ } : Act) = A; (with_reducible refine hK A ?_); clear hK K
        refine wpQuiet_step (fun K hK => ?_); subst hA; go_simp; (try (with_reducible refine ⟨_, fun _ _ => rfl, ?_⟩)); generalize hA : ({ tmps := _, defers := _ } : Act) = A; (with_reducible refine hK A ?_); clear hK K
        refine wpQuiet_step (fun K hK => ?_); subst hA; go_simp; (try (with_reducible refine ⟨_, fun _ _ => rfl, ?_⟩)); generalize hA : ({ tmps := _, defers := _ } : Act) = A; (with_reducible refine hK A ?_); clear hK K
        refine wpQuiet_step (fun K hK => ?_); subst hA; go_simp; (try (with_reducible refine ⟨_, fun _ _ => rfl, ?_⟩)); generalize hA : ({ tmps := _, defers := _ } : Act) = A; (with_reducible refine hK A ?_); clear hK K
        refine wpQuiet_step (fun K hK => ?_); subst hA; go_simp; (try (with_reducible refine ⟨_, fun _ _ => rfl, ?_⟩)); generalize hA : ({ tmps := _, defers := _ } : Act) = A; (with_reducible refine hK A ?_); clear hK K
        subst hA
        refine wpQuiet_nil ?_
        intro wy hby
        have HBY := Lib.hid hby; clear hby HL2'
        have k0 : wy.cell? ⟨B2, 0, none⟩ = some (.int .i64 r.k) := HBOX.out.below HBY.out HBOX.out.lt |>.cell 0
        have k1 : wy.cell? ⟨B2, 1, none⟩ = some (.int .i64 r.v) := HBOX.out.below HBY.out HBOX.out.lt |>.cell 1
        have HO3 := Lib.hid (Rw.own_kept HO2.out HBY.out); have HB3 := Lib.hid (HB2.out.trans (HBY.out.mono HB2.out.size))
        have HAW3 := Lib.hid (HAW2.out.below HBY.out)
        have HBS := Lib.hid HB3.out.size
        clear HAW2 HO2 HB2 HBY HBOX
        go_wp2_with (at_builtin; refine Rw.append_own kindR 32 22 Try.underlying22 infoRec rfl rfl _ _ rfl w2.heap.size _ rest.length rest rfl (HO3.out.alloc _) _ 1 [r] rfl (by simp) (Rw.Ts.made _ [r] _) (by unfold maxLen; simp; omega) (by simp; omega) (by have := HBS.out; simp; omega) ?_; intro v2 w4 hv2 hg2; have hb2 := Rw.own_below (HO3.out.alloc _) hg2 (HB3.out.alloc HBS.out _) (by have := HBS.out; simp; omega); have HV : Hid (w4.ownsRow w2.heap.size 32 kindR.K v2 (rest ++ [r]).length (Rw.row kindR (rest ++ [r]))) := Lib.hid (by rw [List.length_append]; exact hv2); have HAW4 : Hid (Rw.Ts kindR w4 AA away) := Lib.hid (aw_grown (HAW3.out.below ((Below.refl _ wy).alloc (Nat.le_refl _) _)) HAB.out hg2 (HO3.out.alloc _)); have HB4 := Lib.hid hb2; clear hv2 hg2 hb2 k0 k1)
        go_roundw
        case rel => exact ⟨i + 1, by omega, by simp, rest ++ [r], away, AA, ca, by rw [HAL.out], HV.out, HAW4.out, HAB.out, HC.out, HMISS.out, HB4.out⟩
        case measure => simp only [intOf]; omega
    · have hltz : ¬ (i : Int) < (sa.length : Int) := by omega
      have hie : i = sa.length := by omega
      subst hie
      by_cases hz : 0 < away.length
      · have hzi : (0 : Int) < (away.length : Int) := by omega
        have hans := HNO.out rest away HSUB.out hz
        have HA := Lib.hid hans; clear hans
        go_wp2_with fail
        go_ret2
        show LessD ans w _ _
        rw [HA.out]
        exact ⟨⟨_, rfl, World.ownsRow_nil _ _ _ _⟩, HB2.out.trans (HB.out.mono HW2.out)⟩
      · have hzi : ¬ (0 : Int) < (away.length : Int) := by omega
        have ha0 : away = [] := List.eq_nil_of_length_eq_zero (by omega)
        have hans := HYES.out rest (by have h := HSUB.out; rw [ha0] at h; exact h)
        have HA := Lib.hid hans; clear hans ha0
        go_wp2_with fail
        go_ret2
        show LessD ans w _ _
        rw [HA.out]
        exact ⟨⟨_, rfl, own_base HO.out HW2.out⟩, HB2.out.trans (HB.out.mono HW2.out)⟩
end Vr
end Go.Proofs.Ytcdofkhkckodjaa
