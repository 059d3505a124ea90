/- CheckOrder: any graph's order is the document's, or it is refused; each node stands there once, behind all that feed it, but for Feedbacks. -/
import Derived.Test.YtocdganglokplaaDoorChkInts
import Derived.Test.YtocdganglokplaaDoorChkWkA
import Derived.Test.YtocdganglokplaaDoorChkStkA
import Derived.Test.YtocdganglokplaaDoorChkSi
namespace Go.Proofs.YtocdganglokplaaDoor
open Go.ChangeShapes Go.WideShapes Go.ChangeAt Go.RowKit Go.BigFrame
set_option linter.unusedVariables false
set_option maxRecDepth 100000
namespace checkOrder
set_option maxHeartbeats 32000000 in
theorem walk (A : Option Addr) (l : List Gn) (c : Nat) (w : World) (hT : Tab w) (hG : Gr w A l) (hl : l.length ≤ maxLen) (hc : l.length ≤ c ∧ c ≤ maxLen) :
    Calls Tryd.prog 5 #[.slice A l.length c] w fun e w' => e = .returned (.bool true) ∧ Below w.heap.size w w' := by
  have HT := Lib.hid hT; clear hT
  have HG := Lib.hid hG; have HL := Lib.hid hl; have HCC := Lib.hid hc; clear hG hl hc
  have h1 := ins_any A l c 36 w HG.out HL.out
  cases e1 : insB (nds l) 36 with
  | false =>
    rw [e1] at h1; clear e1; have H1 := Lib.hid h1; clear h1
    have Hb := Lib.hid (Below.refl w.heap.size w)
    go_enter Tryd.func5, Tryd.ntmps5
    have hc := H1.out
    have HC := Lib.hid hc; clear hc
    go_wp2_with fail
    refine HC.out.mono ?_; rintro e w0 ⟨rfl, rfl⟩
    clear HC
    dsimp only
    have hc := chkWorks_any w HT.out
    have HC := Lib.hid hc; clear hc
    go_wp2_with fail
    refine HC.out.mono ?_; rintro e w2 ⟨rfl, hb⟩
    clear HC
    have h := HG.out.below hb; clear HG; have HG := Lib.hid h; clear h
    have h := HT.out.below hb; clear HT; have HT := Lib.hid h; clear h
    have h := Hb.out.trans (hb.mono Hb.out.size); clear Hb hb; have Hb := Lib.hid h; clear h
    dsimp only
    go_wp2_with fail
    go_ret
    exact ⟨rfl, Hb.out⟩
  | true =>
    have HI := Lib.hid (insB_nds (T := 36) e1)
    rw [e1] at h1; clear e1; have H1 := Lib.hid h1; clear h1
    have Hb := Lib.hid (Below.refl w.heap.size w)
    go_enter Tryd.func5, Tryd.ntmps5
    have hc := H1.out
    have HC := Lib.hid hc; clear hc
    go_wp2_with fail
    refine HC.out.mono ?_; rintro e w0 ⟨rfl, rfl⟩
    clear HC
    dsimp only
    obtain ⟨xs, hxs⟩ : ∃ xs : List Int, (orderR (nds l)).1.map Int.ofNat = xs := ⟨_, rfl⟩
    obtain ⟨E, hE⟩ : ∃ E, (orderR (nds l)).2 = E := ⟨_, rfl⟩
    have horl : (E ≠ 0 ∧ xs.length ≤ maxLen) ∨ (E = 0 ∧ ∃ T : List Nat, xs = T.map Int.ofNat ∧ OrdT (nds l) T ∧ T.length = l.length ∧ xs.length = l.length) := by
      by_cases h : (checkR (nds l)).2 = 0
      · obtain ⟨T, h1, h2, h3⟩ := order_there h
        rw [nds_len] at h3
        rw [h1] at hxs hE
        exact .inr ⟨hE.symm, T, hxs.symm, h2, h3, by rw [← hxs, List.length_map]; exact h3⟩
      · rw [orderR_no h] at hxs hE
        exact .inl ⟨by rw [← hE]; exact h, by rw [← hxs]; exact Nat.zero_le _⟩
    have HXS := Lib.hid hxs; have HE := Lib.hid hE; clear hxs hE
    have hc := (chkOrder_any A l c w HT.out HG.out (by have := HI.out.1; omega) (fun x hx => by have := HI.out.2 x hx; omega) HCC.out).mono fun e w' h => OrdD.ints HXS.out HE.out h
    have HC := Lib.hid hc; clear hc
    go_wp2_with fail
    refine HC.out.mono ?_; rintro e w2 ⟨⟨v, rfl, hv⟩, hb⟩
    clear HC
    have h := HG.out.below hb; clear HG; have HG := Lib.hid h; clear h
    have h := HT.out.below hb; clear HT; have HT := Lib.hid h; clear h
    have h := Hb.out.trans (hb.mono Hb.out.size); clear Hb hb; have Hb := Lib.hid h; clear h
    dsimp only
    obtain ⟨PA, pc, rfl, hpt, _, _, _, _⟩ := Rw.Ts.of_own (κ := kindI) (ts := xs) hv
    have HPA := Lib.hid hpt; clear hv hpt
    have hc := (refOrder_any A l c w2 HG.out HL.out).mono fun e w' h => OrdD.ints HXS.out HE.out h
    have HC := Lib.hid hc; clear hc
    go_wp2_with fail
    refine HC.out.mono ?_; rintro e w3 ⟨⟨v, rfl, hv⟩, hb⟩
    clear HC
    have h := HG.out.below hb; clear HG; have HG := Lib.hid h; clear h
    have h := HT.out.below hb; clear HT; have HT := Lib.hid h; clear h
    have h := HPA.out.below hb; clear HPA; have HPA := Lib.hid h; clear h
    have h := Hb.out.trans (hb.mono Hb.out.size); clear Hb hb; have Hb := Lib.hid h; clear h
    dsimp only
    obtain ⟨PB, qc, rfl, hpt, _, _, _, _⟩ := Rw.Ts.of_own (κ := kindI) (ts := xs) hv
    have HPB := Lib.hid hpt; clear hv hpt
    rcases horl with ⟨hne, hml⟩ | ⟨rfl, T, hT, hot, htl, htm⟩
    · skip
      have hez : (E != 0) = true := by simpa using hne
      have HML := Lib.hid hml; clear hml
      have HNE := Lib.hid hne; clear hne
      have hc := sameInts_self PA PB xs pc qc w3 HPA.out HPB.out HML.out
      have HC := Lib.hid hc; clear hc
      go_wp2_with fail
      refine HC.out.mono ?_; rintro e w4 ⟨rfl, hb⟩
      clear HC
      have h := HG.out.below hb; clear HG; have HG := Lib.hid h; clear h
      have h := HT.out.below hb; clear HT; have HT := Lib.hid h; clear h
      have h := HPA.out.below hb; clear HPA; have HPA := Lib.hid h; clear h
      have h := HPB.out.below hb; clear HPB; have HPB := Lib.hid h; clear h
      have h := Hb.out.trans (hb.mono Hb.out.size); clear Hb hb; have Hb := Lib.hid h; clear h
      dsimp only
      have hc := chkWorks_any w4 HT.out
      have HC := Lib.hid hc; clear hc
      go_wp2_with fail
      refine HC.out.mono ?_; rintro e w5 ⟨rfl, hb⟩
      clear HC
      have h := HG.out.below hb; clear HG; have HG := Lib.hid h; clear h
      have h := HT.out.below hb; clear HT; have HT := Lib.hid h; clear h
      have h := HPA.out.below hb; clear HPA; have HPA := Lib.hid h; clear h
      have h := HPB.out.below hb; clear HPB; have HPB := Lib.hid h; clear h
      have h := Hb.out.trans (hb.mono Hb.out.size); clear Hb hb; have Hb := Lib.hid h; clear h
      dsimp only
      go_wp2_with fail
      go_ret
      exact ⟨rfl, Hb.out⟩
    · skip
      have hml : xs.length ≤ maxLen := by rw [htm]; exact HL.out
      have HML := Lib.hid hml; have HTL := Lib.hid htl; have HOT := Lib.hid hot; have HTM := Lib.hid htm; have HTT := Lib.hid hT; clear hT hml htl hot htm
      have hc := sameInts_self PA PB xs pc qc w3 HPA.out HPB.out HML.out
      have HC := Lib.hid hc; clear hc
      go_wp2_with fail
      refine HC.out.mono ?_; rintro e w4 ⟨rfl, hb⟩
      clear HC
      have h := HG.out.below hb; clear HG; have HG := Lib.hid h; clear h
      have h := HT.out.below hb; clear HT; have HT := Lib.hid h; clear h
      have h := HPA.out.below hb; clear HPA; have HPA := Lib.hid h; clear h
      have h := HPB.out.below hb; clear HPB; have HPB := Lib.hid h; clear h
      have h := Hb.out.trans (hb.mono Hb.out.size); clear Hb hb; have Hb := Lib.hid h; clear h
      dsimp only
      have hl36 := HI.out.1
      obtain ⟨i0, hi0, hz0, hz1, hz2⟩ := info_parts infoBool
      obtain ⟨w9, hr9, ho9, hg9⟩ := run_make_full (P := Tryd.prog) w4 w4.heap.size 37 4 i0 _ 1 Tryd.underlying37 hi0 hz0 hz1 .i64 .i64 l.length (by rw [hz2]; omega) (by unfold maxLen; omega) (Nat.le_refl _)
      have hb9 := (Below.refl w4.heap.size w4).grown hg9 (Nat.le_refl _) (fun _ e => by cases e)
      rw [made_bools] at ho9
      generalize hgs : w4.heap.size = gs at hr9 ho9
      have hrs0 : RowsS w4 w9 (.slice none 0 0) gs [] (List.replicate l.length false) := ⟨hb9, World.ownsRow_nil _ _ _ _, by rw [List.length_replicate, hgs]; exact ho9⟩
      have HR9 := Lib.hid hr9; have HRS0 := Lib.hid hrs0; clear hi0 hz0 hz1 hz2 hr9 ho9 hg9 hb9 hrs0 hgs
      rw [HTM.out]
      go_wp2_with (refine wpList_make_is _ _ 37 rfl rfl _ _ _ rfl rfl HR9.out ?_)
      go_loopw [8] (fun n wx => ∃ (k : Nat) (seen : List Bool), n = .int .i64 k ∧ k ≤ l.length ∧ Marks (T.take k) seen ∧ seen.length = l.length ∧ RowsS w4 wx (.slice none 0 0) gs [] seen) (fun n _ => l.length - (intOf n).toNat)
      case atStart => exact ⟨0, _, rfl, Nat.zero_le _, Marks.start _, List.length_replicate, HRS0.out⟩
      case round =>
        obtain ⟨wo, rfl⟩ : ∃ wo, wo = wr := ⟨_, rfl⟩
        obtain ⟨k, seen, rfl, hk, hmk, hsl, hrs⟩ := hrel
        have HMK := Lib.hid hmk; have HSL := Lib.hid hsl; have HRS := Lib.hid hrs; clear hmk hsl hrs HRS0
        by_cases hkl : k < l.length
        · have hkz : (k : Int) < (l.length : Int) := by omega
          obtain ⟨m, hm⟩ : ∃ m, T[k]? = some m := ⟨_, List.getElem?_eq_getElem (by have := HTL.out; omega)⟩
          have hnx := nextO_lt (HOT.out k m hm)
          rw [nds_len] at hnx
          obtain ⟨hml, hmT, x0, hx0, hfed⟩ := hnx
          have hmz : (m : Int) < (l.length : Int) := by omega
          obtain ⟨x, hx, rfl⟩ : ∃ x, l[m]? = some x ∧ x.nd = x0 := by
            unfold nds at hx0
            rw [List.getElem?_map, Option.map_eq_some_iff] at hx0
            exact hx0
          have hmi : xs[k]? = some ((m : Nat) : Int) := by rw [HTT.out, List.getElem?_map, hm]; rfl
          obtain ⟨ab, ao, rfl, _, hqa⟩ := ints_at HPA.out hmi
          have qa := hqa wo HRS.out.below
          obtain ⟨bt, hbt⟩ : ∃ bt, seen[m]? = some bt := ⟨_, List.getElem?_eq_getElem (by have := HSL.out; omega)⟩
          obtain rfl : bt = false := by
            cases bt with
            | true => exact absurd ((HMK.out m true hbt).1 rfl) hmT
            | false => rfl
          obtain ⟨d1, d2⟩ := HRS.out.bit hbt
          have hti := HG.out.ins hx
          have hil : x.nd.ins.length ≤ maxLen := Nat.le_trans (HG.out.ok hx).c.1 (HG.out.ok hx).c.2
          unfold maxLen at hil
          obtain ⟨b, o, rfl, hbl, hcl⟩ := HG.out.at_ hx
          obtain ⟨c0, c1, c2, c3, c4⟩ := hcl wo HRS.out.below
          have hrb := HRS.out.kept ((Below.refl _ wo).alloc (Nat.le_refl _) (.cells #[.int .u8 (x.nd.k : Nat), .int .u8 (x.nd.a : Nat), .int .i64 x.nd.b, .int .i64 x.nd.d, .slice x.A x.nd.ins.length x.c] 39))
          have hbx : Row (wo.alloc (.cells #[.int .u8 (x.nd.k : Nat), .int .u8 (x.nd.a : Nat), .int .i64 x.nd.b, .int .i64 x.nd.d, .slice x.A x.nd.ins.length x.c] 39)) wo.heap.size 39 (kindG.cells x) := Row.made wo _ _
          have HFED := Lib.hid hfed; have HTI := Lib.hid hti; have HM := Lib.hid hm; have HQA := Lib.hid hqa; have HBT := Lib.hid hbt
          clear hm hmT hx0 hfed hx hmi hqa hbt hti hcl
          go_wp2_with fail
          generalize (wo.alloc (.cells #[.int .u8 (x.nd.k : Nat), .int .u8 (x.nd.a : Nat), .int .i64 x.nd.b, .int .i64 x.nd.d, .slice x.A x.nd.ins.length x.c] 39)) = wb at *
          generalize wo.heap.size = gx at *
          have f0 : wb.cell? ⟨gx, 0, none⟩ = some (.int .u8 (x.nd.k : Nat)) := hbx.cell 0
          have f4 : wb.cell? ⟨gx, 4, none⟩ = some (.slice x.A x.nd.ins.length x.c) := hbx.cell 4
          have HRB := Lib.hid hrb; clear hrb hbx c0 c1 c2 c3 c4 qa d1 d2
          go_loop [10] (fun j => ∃ q : Nat, j = .int .i64 q ∧ q ≤ x.nd.ins.length) (fun j => x.nd.ins.length - (intOf j).toNat)
          case atStart => exact ⟨0, rfl, Nat.zero_le _⟩
          case round =>
            obtain ⟨q, rfl, hq⟩ := hrel
            by_cases hql : q < x.nd.ins.length
            · have hqz : (q : Int) < (x.nd.ins.length : Int) := by omega
              by_cases h9 : x.nd.k = 9
              · have h9z : (((x.nd.k : Nat) : Int) != 9) = false := by simp; omega
                clear h9
                go_wp2_with fail
                go_round
                case rel => exact ⟨q + 1, by simp, by omega⟩
                case measure => simp only [intOf]; omega
              · have h9z : (((x.nd.k : Nat) : Int) != 9) = true := by simp; omega
                obtain ⟨z, hz⟩ : ∃ z, x.nd.ins[q]? = some z := ⟨_, List.getElem?_eq_getElem hql⟩
                have hzz : 0 ≤ z ∧ z.toNat ∈ T.take k := by
                  rcases HFED.out with h | h
                  · exact absurd h h9
                  · exact h z (List.mem_of_getElem? hz)
                obtain ⟨Z, rfl⟩ : ∃ Z : Nat, z = (Z : Int) := Int.eq_ofNat_of_zero_le hzz.1
                have hZT : Z ∈ T.take k := by have := hzz.2; rwa [Int.toNat_natCast] at this
                have hZl : Z < l.length := by
                  have := HOT.out.lt Z (List.mem_of_mem_take hZT)
                  rw [nds_len] at this; exact this
                have hZz : (Z : Int) < (l.length : Int) := by omega
                obtain ⟨bz, hbz⟩ : ∃ bz, seen[Z]? = some bz := ⟨_, List.getElem?_eq_getElem (by have := HSL.out; omega)⟩
                obtain rfl : bz = true := (HMK.out Z bz hbz).2 hZT
                obtain ⟨e1, _⟩ := HRB.out.bit hbz
                obtain ⟨ib, io, hXA, _, hqq⟩ := ints_at HTI.out hz
                have q1 := hqq wb HRB.out.below
                rw [hXA] at f4
                clear h9 hz hzz hZT hbz hqq hXA
                go_wp2_with fail
                go_round
                case rel => exact ⟨q + 1, by simp, by omega⟩
                case measure => simp only [intOf]; omega
            · have hqz : ¬ (q : Int) < (x.nd.ins.length : Int) := by omega
              have qa := HQA.out wb HRB.out.below
              obtain ⟨d1, d2⟩ := HRB.out.bit HBT.out
              have HMW := Lib.hid (HRB.out.mark m (by have := HSL.out; omega))
              go_wp2_with fail
              go_roundw
              case rel =>
                refine ⟨k + 1, seen.set m true, by simp, by omega, ?_, by rw [List.length_set]; exact HSL.out, HMW.out⟩
                rw [List.take_add_one, HM.out]
                exact HMK.out.push m
              case measure => simp only [intOf]; omega
        · have hkz : ¬ (k : Int) < (l.length : Int) := by omega
          have HBW := Lib.hid (Hb.out.trans (HRS.out.below.mono Hb.out.size))
          have HCW := Lib.hid (chkWorks_any wo (HT.out.below HRS.out.below))
          go_wp2_with fail
          refine HCW.out.mono ?_; rintro e w8 ⟨rfl, hb8⟩
          have HBZ := Lib.hid (HBW.out.trans (hb8.mono HBW.out.size)); clear hb8
          dsimp only
          go_wp2_with fail
          go_ret
          exact ⟨rfl, HBZ.out⟩

set_option maxRecDepth 100000 in
theorem lifted (os : Os) (started : os.Started) (H : Type) (enc : TypeId × Value → H) :
    ReturnsInHanded {} Tryd.checked os 5 .any (fun w args => (Rows.checkOrderSpec.pre enc Tryd.prog Tryd.f5 [] false w args ∧ laidMetH Tryd.prog laidT w) ∧ sizedMet enc Tryd.prog Tryd.f5 (OpenSpec.ofChange Rows.checkOrderSpec) false w args) (Rows.checkOrderSpec.post enc Tryd.prog Tryd.f5 false true false false) := by
  refine returnsInHanded_of_change_and (C := Tryd.checked) (X := fun w _ => laidMetH Tryd.prog laidT w) (fun _ _ _ hh h => h.of_heap hh) ownKnob_none started (by kernel_rfl) Tryd.func5
    (ChangeSpec.witness_shaped (enc := enc) (C := Tryd.checked) (os := os) (X := fun w _ => laidMetH Tryd.prog laidT w) false (World.doorLaid Tryd.prog 400 os) #[.slice none 0 0] 8 rfl (World.shaped_of_RefB (by kernel_rfl) (by kernel_rfl)) (by kernel_rfl) (by kernel_rfl) (by kernel_rfl) (door_met os _)) ?_
  intro W base args ds gs before hval0 hW hcnd hsz0 hL _
  have hTab := tab_of_laid hL
  have hval : ∀ (j : Nat) t v, Tryd.f5.params[j]? = some t → args[j]? = some v → Value.okWide Tryd.prog W .any base t v := hval0
  have hW' := hW
  obtain ⟨p, q, hA0, hV, rfl, hfz, hnd⟩ := hW
  have hA : DataW.TrodAll enc Tryd.prog W 0 (fun _ => true) true Tryd.f5.params.toList args.toList ds p := hA0
  have hsz : (DataW.weightsEach Tryd.prog (Tryd.f5.params.toList ++ Rows.checkOrderSpec.plain.varTypes Tryd.prog) (ds ++ gs)).all (· ≤ reachBytes) = true := hsz0
  rw [Tryd.params5] at hA hval hsz
  obtain ⟨v0, vs0, d0, ds0, p0, q0, hargs, rfl, rfl, h0, r0⟩ := trodAll_cons hA
  obtain ⟨rfl, rfl, rfl⟩ := trodAll_nil r0
  obtain rfl : args = #[v0] := by cases args; simp_all
  obtain ⟨rfl, rfl⟩ := trodVars_none hV
  obtain ⟨A0, l0, c0, rfl, hG0, hgc0, hgm0, hgn0⟩ := open_graph (hval 0 23 v0 rfl rfl) h0
  clear hA0 hval0 hsz0
  refine (walk A0 l0 c0 W hTab hG0 (Nat.le_trans hgc0 hgm0) ⟨hgc0, hgm0⟩).mono fun e W' ⟨he, hg⟩ => ?_
  subst he
  exact ⟨_, rfl, law_post progLaid hW' rfl (by rw [Tryd.params5]; intro t ht; simp at ht; subst ht; exact ⟨by kernel_rfl, of_decide_eq_true (by kernel_rfl)⟩) rfl Tryd.underlying4 rfl hg⟩

theorem over : Rows.checkOrderRow.holds Tryd.pinned (OpenSpec.ofChange Rows.checkOrderSpec) :=
  OpenClaim.holds_of_wide 5 Tryd.f5 rfl rfl rfl rfl rfl rfl rfl ⟨rfl, rfl, rfl, rfl, rfl⟩ rfl rfl rfl rfl rfl (by kernel_rfl) Tryd.func5 (by kernel_rfl)
    (of_decide_eq_true (by kernel_rfl)) (by unfold Func.isWrapper; first | (rw [if_pos (by decide +kernel)]; kernel_rfl) | (rw [if_neg (by decide +kernel)]; exact ⟨rfl, rfl⟩))
    (fun os started H enc _ => lifted os started H enc)

/-- The statement. -/
theorem proved : Rows.CheckOrderCardSaid :=
  Claim7.holds_tied_plain_at .later [] [.data] true Rows.checkOrderCard.stood.harness false over (fun _ h => by cases h) (by kernel_rfl) (fun _ h => by cases h) checkOrder_row_tie rfl ⟨rfl, rfl⟩ (by kernel_rfl) rfl
    (fun f fn hf hfn => by
      obtain rfl : f = 5 := Option.some.inj ((show Tryd.prog.funcNamed "tailrace/tailracelaw10.CheckOrder" = some 5 by kernel_rfl).symm.trans hf) |>.symm
      obtain rfl : fn = Tryd.f5 := (Option.some.inj (Tryd.func5.symm.trans hfn)).symm
      refine ⟨by kernel_rfl, fun j t ht => ?_⟩
      rw [Tryd.params5] at ht
      have hm := Array.mem_of_getElem? ht
      simp only [List.mem_toArray, List.mem_cons, List.not_mem_nil, or_false] at hm
      first
        | (subst hm; exact si_graph)
        | (rcases hm with rfl | rfl <;> first | exact si_graph | exact si_int | exact si_u8)
        | (rcases hm with rfl | rfl | rfl <;> first | exact si_graph | exact si_int | exact si_u8)
        | cases hm)
    (by kernel_rfl)
end checkOrder
end Go.Proofs.YtocdganglokplaaDoor
