/- OpersReduces: each key once; counts, least, greatest. -/
import Derived.Test.YtkhmefbmffpkcaaCa25
import Derived.Test.YtkhmefbmffpkcaaCa26
import Derived.Test.YtkhmefbmffpkcaaCa9
import Derived.Test.YtkhmefbmffpkcaaCa21
import Derived.Test.YtkhmefbmffpkcaaOpInRow
import Derived.Test.YtkhmefbmffpkcaaOpKeys
import Derived.SizedLaws
namespace Go.Proofs.Ytkhmefbmffpkcaa
open Go.ChangeShapes Go.WideShapes Go.ChangeAt Go.RowKit Go.BigFrame
open Vr _root_.Go.Proofs.Ytkhmefbmffpkcaa.Op
set_option linter.unusedVariables false
set_option maxRecDepth 100000
namespace opersReduces
theorem red_run {w : World} {va : Value} {l : List Rd} (a : Nat) (ha : a ≤ 3) (h : RowV w va l) (hW : ∀ r ∈ l, r.W) (hl : l.length ≤ 60) :
    Calls Try.prog 14 #[.agg #[.int .u8 ((5 : Nat) : Nat), .int .u8 (a : Nat), .int .i64 0, .int .i64 0, .slice none 0 0], .slice (some ⟨w.heap.size, 0, none⟩) 1 1] (w.alloc (.cells #[va] 28)) (GivesE ((skeys l).map fun k => ⟨k, redV a (valsOf l k)⟩) 0 (w.alloc (.cells #[va] 28))) := by
  have hI := LitV.inV (LitV.made w [va] [l] ⟨h, trivial⟩ #[va] rfl 1 rfl)
  have hr := run_v ⟨5, a, 0, 0, []⟩ none 0 0 hI (by show 5 < 256; omega) (by show a < 256; omega) (by simp) (by simp) (by simp) (fun q hq => by simp only [List.mem_singleton] at hq; subst hq; exact hW) (fun q hq => by simp only [List.mem_singleton] at hq; subst hq; omega)
  have he : errR ⟨5, a, 0, 0, []⟩ [l].length = 0 := by
    unfold errR
    have hn : Nd.num ⟨5, a, 0, 0, []⟩ = true := by unfold Nd.num; simp; omega
    rw [hn]; rfl
  have hs : runR ⟨5, a, 0, 0, []⟩ [l] = (skeys l).map fun k => ⟨k, redV a (valsOf l k)⟩ := by
    unfold runR
    rw [he, if_pos rfl, ← reduce_sorted]; rfl
  rw [he, hs] at hr
  exact hr
theorem red_run1 {w : World} {va : Value} {l : List Rd} (h : RowV w va l) (hW : ∀ r ∈ l, r.W) (hl : l.length ≤ 60) :
    Calls Try.prog 14 #[.agg #[.int .u8 5, .int .u8 1, .int .i64 0, .int .i64 0, .slice none 0 0], .slice (some ⟨w.heap.size, 0, none⟩) 1 1] (w.alloc (.cells #[va] 28)) (GivesE ((skeys l).map fun k => ⟨k, redV 1 (valsOf l k)⟩) 0 (w.alloc (.cells #[va] 28))) := red_run 1 (by decide) h hW hl
theorem red_run2 {w : World} {va : Value} {l : List Rd} (h : RowV w va l) (hW : ∀ r ∈ l, r.W) (hl : l.length ≤ 60) :
    Calls Try.prog 14 #[.agg #[.int .u8 5, .int .u8 2, .int .i64 0, .int .i64 0, .slice none 0 0], .slice (some ⟨w.heap.size, 0, none⟩) 1 1] (w.alloc (.cells #[va] 28)) (GivesE ((skeys l).map fun k => ⟨k, redV 2 (valsOf l k)⟩) 0 (w.alloc (.cells #[va] 28))) := red_run 2 (by decide) h hW hl
theorem red_run3 {w : World} {va : Value} {l : List Rd} (h : RowV w va l) (hW : ∀ r ∈ l, r.W) (hl : l.length ≤ 60) :
    Calls Try.prog 14 #[.agg #[.int .u8 5, .int .u8 3, .int .i64 0, .int .i64 0, .slice none 0 0], .slice (some ⟨w.heap.size, 0, none⟩) 1 1] (w.alloc (.cells #[va] 28)) (GivesE ((skeys l).map fun k => ⟨k, redV 3 (valsOf l k)⟩) 0 (w.alloc (.cells #[va] 28))) := red_run 3 (by decide) h hW hl
/-- a row that reads so, and how long it is -/
theorem row_open {w : World} {v : Value} {l : List Rd} (h : RowV w v l) {N : Nat} (hN : l.length = N) : ∃ A c, v = .slice A N c ∧ Rw.Ts kindR w A l := by
  subst hN
  obtain ⟨A, c, e, hT, _⟩ := h
  exact ⟨A, c, e, hT⟩
set_option maxHeartbeats 8000000 in
theorem walk (A : Option Addr) (l : List Rd) (c : Nat) (w : World) (hA : RowV w (.slice A l.length c) l) (hW : ∀ r ∈ l, r.W) :
    Calls Try.prog 9 #[.slice A l.length c] w fun e w' => e = .returned (.bool true) ∧ Below w.heap.size w w' := by
  have HA := Lib.hid hA; have HW := Lib.hid hW; clear hA hW
  by_cases h1 : 60 < l.length
  · have h1z : (60 : Int) < (l.length : Int) := by omega
    have d1 : decide ((60 : Int) < (l.length : Int)) = true := by simp; omega
    have Hb := Lib.hid (Below.refl w.heap.size w)
    go_enter Try.func9, Try.ntmps9
    have hc := works_any w
    have HC := Lib.hid hc; clear hc
    go_wp2_with fail
    refine HC.out.mono ?_; rintro e w2 ⟨rfl, hb0⟩
    clear HC
    have hb := hb0
    clear hb0
    have h := HA.out.below hb; clear HA; have HA := Lib.hid h; clear h
    have h := Hb.out.trans (hb.mono Hb.out.size); clear Hb hb; have Hb := Lib.hid h; clear h
    dsimp only
    go_wp2_with fail
    go_ret
    exact ⟨rfl, Hb.out⟩
  · have h1z : ¬ (60 : Int) < (l.length : Int) := by omega
    have d1 : decide ((60 : Int) < (l.length : Int)) = false := by simp; omega
    have hl : l.length ≤ 60 := by omega
    clear h1
    have Hb := Lib.hid (Below.refl w.heap.size w)
    go_enter Try.func9, Try.ntmps9
    have hc := red_run1 HA.out HW.out hl
    have HC := Lib.hid hc; clear hc
    go_wp2_with fail
    refine HC.out.mono ?_; rintro e w2 ⟨⟨vc, rfl, hr⟩, hb0⟩
    clear HC
    have hb : Below w.heap.size w w2 := ((Below.refl _ w).alloc (Nat.le_refl _) _).trans (hb0.mono (by simp))
    clear hb0
    have h := HA.out.below hb; clear HA; have HA := Lib.hid h; clear h
    have h := Hb.out.trans (hb.mono Hb.out.size); clear Hb hb; have Hb := Lib.hid h; clear h
    have Hc := Lib.hid hr; clear hr
    dsimp only
    have hc := red_run2 HA.out HW.out hl
    have HC := Lib.hid hc; clear hc
    go_wp2_with fail
    refine HC.out.mono ?_; rintro e w3 ⟨⟨vo, rfl, hr⟩, hb0⟩
    clear HC
    have hb : Below w2.heap.size w2 w3 := ((Below.refl _ w2).alloc (Nat.le_refl _) _).trans (hb0.mono (by simp))
    clear hb0
    have h := HA.out.below hb; clear HA; have HA := Lib.hid h; clear h
    have h := Hc.out.below hb; clear Hc; have Hc := Lib.hid h; clear h
    have h := Hb.out.trans (hb.mono Hb.out.size); clear Hb hb; have Hb := Lib.hid h; clear h
    have Ho := Lib.hid hr; clear hr
    dsimp only
    have hc := red_run3 HA.out HW.out hl
    have HC := Lib.hid hc; clear hc
    go_wp2_with fail
    refine HC.out.mono ?_; rintro e w4 ⟨⟨vh, rfl, hr⟩, hb0⟩
    clear HC
    have hb : Below w3.heap.size w3 w4 := ((Below.refl _ w3).alloc (Nat.le_refl _) _).trans (hb0.mono (by simp))
    clear hb0
    have h := HA.out.below hb; clear HA; have HA := Lib.hid h; clear h
    have h := Hc.out.below hb; clear Hc; have Hc := Lib.hid h; clear h
    have h := Ho.out.below hb; clear Ho; have Ho := Lib.hid h; clear h
    have h := Hb.out.trans (hb.mono Hb.out.size); clear Hb hb; have Hb := Lib.hid h; clear h
    have Hh := Lib.hid hr; clear hr
    dsimp only
    have hN := skeys_len (l := l)
    obtain ⟨N, hNN⟩ : ∃ N, (skeys l).length = N := ⟨_, rfl⟩
    obtain ⟨AC, cc, rfl, hTC⟩ := row_open Hc.out (N := N) (by rw [List.length_map]; exact hNN)
    obtain ⟨AO, co, rfl, hTO⟩ := row_open Ho.out (N := N) (by rw [List.length_map]; exact hNN)
    obtain ⟨AH, ch, rfl, hTH⟩ := row_open Hh.out (N := N) (by rw [List.length_map]; exact hNN)
    obtain ⟨AL, cl, el, hTL, _⟩ := HA.out
    injection el with el1 el2 el3
    subst el1 el3
    rw [hNN] at hN
    have HTC := Lib.hid hTC; have HTO := Lib.hid hTO; have HTH := Lib.hid hTH; have HTL := Lib.hid hTL; have HNN := Lib.hid hNN
    clear hTC hTO hTH hTL hNN Hc Ho Hh HA el2
    go_wp2_with fail
    go_loopw [9, 10] (fun vn vi wr => ∃ i : Nat, i ≤ N ∧ vi = .int .i64 i ∧ vn = .int .i64 (seenN l i : Nat) ∧ Below w4.heap.size w4 wr) (fun _ vi _ => N - (intOf vi).toNat)
    case atStart => exact ⟨0, by omega, rfl, by rw [seenN_zero]; rfl, Below.refl _ _⟩
    case round =>
      obtain ⟨i, hi, rfl, rfl, hb0⟩ := hrel
      have HB := Lib.hid hb0; clear hb0
      by_cases hlt : i < N
      · have hltz : (i : Int) < (N : Int) := by omega
        obtain ⟨k, hk⟩ : ∃ k, (skeys l)[i]? = some k := ⟨_, List.getElem?_eq_getElem (by rw [HNN.out]; exact hlt)⟩
        have hat := atKey hk
        have hst := seenN_step hk
        have hsl := seenN_le (l := l) (i := i + 1)
        obtain ⟨bc, oc, rfl, hbc, hqc⟩ := recs_at HTC.out (i := i) (t := ⟨k, redV 1 (valsOf l k)⟩) (by rw [List.getElem?_map, hk]; rfl)
        obtain ⟨bo, oo, rfl, hbo, hqo⟩ := recs_at HTO.out (i := i) (t := ⟨k, redV 2 (valsOf l k)⟩) (by rw [List.getElem?_map, hk]; rfl)
        obtain ⟨bh, oh, rfl, hbh, hqh⟩ := recs_at HTH.out (i := i) (t := ⟨k, redV 3 (valsOf l k)⟩) (by rw [List.getElem?_map, hk]; rfl)
        obtain ⟨m, hm⟩ : ∃ m, (valsOf l k).length = m := ⟨_, rfl⟩
        obtain ⟨lo, hlo⟩ : ∃ lo, redV 2 (valsOf l k) = lo := ⟨_, rfl⟩
        obtain ⟨hi', hhi⟩ : ∃ hi', redV 3 (valsOf l k) = hi' := ⟨_, rfl⟩
        have hrm : redV 1 (valsOf l k) = (m : Int) := by rw [← hm]; rfl
        simp only [hrm] at hqc
        simp only [hlo] at hqo
        simp only [hhi] at hqh
        rw [hm] at hst
        have hlom := hat.lo; have hhim := hat.hi; have hall := hat.all
        rw [hlo] at hlom hall; rw [hhi] at hhim hall
        have HST := Lib.hid hst; have HLOM := Lib.hid hlom; have HHIM := Lib.hid hhim; have HALL := Lib.hid hall; have HQC := Lib.hid hqc; have HQO := Lib.hid hqo; have HQH := Lib.hid hqh
        have hsm : seenN l i + m ≤ 60 := by omega
        clear hst hlom hhim hall hqc hqo hqh hat hsl hm hlo hhi hrm
        generalize seenN l i = S at *
        obtain ⟨c0, c1⟩ := HQC.out wr HB.out
        obtain ⟨o0, o1⟩ := HQO.out wr HB.out
        obtain ⟨g0, g1⟩ := HQH.out wr HB.out
        try simp only at c0 c1 o0 o1 g0 g1
        go_upto_region 12 with fail
        go_cut [108] from 67 to 108 (fun v wx => v = .bool false ∧ Below wr.heap.size wr wx)
        case first =>
          by_cases hi0 : i = 0
          · subst hi0
            try simp only [Nat.zero_mul, Nat.add_zero] at c0 o0 g0
            go_quiet (fail)
            go_wp2_with fail
            go_meet
            exact ⟨rfl, below_drewN (Below.refl _ _) _⟩
          · have hip : 0 < i := by omega
            obtain ⟨j, hj⟩ : ∃ j, (skeys l)[i - 1]? = some j := ⟨_, List.getElem?_eq_getElem (by rw [HNN.out]; omega)⟩
            have hjk := keys_lt hip hj hk
            obtain ⟨b', o', e', _, hqj⟩ := recs_at HTC.out (i := i - 1) (t := ⟨j, redV 1 (valsOf l j)⟩) (by rw [List.getElem?_map, hj]; rfl)
            cases e'
            obtain ⟨j0, j1⟩ := hqj wr HB.out
            simp only at j0 j1
            clear hqj hj
            have s1 : IntKind.i64.wrap ((i : Int) - 1) = (i : Int) - 1 := IntWalk.i64_in _ (by omega)
            have s2 : (1 : Int) ≤ (i : Int) := by omega
            have s3 : (0 : Int) ≤ (i : Int) - 1 := by omega
            have s4 : ((i : Int) - 1).toNat = i - 1 := by omega
            have s5 : (i : Int) - 1 < (N : Int) := by omega
            have s6 : i - 1 < N := by omega
            have d3 : decide ((i : Int) > 0) = true := by simp; omega
            have d4 : decide (j ≥ k) = false := by simp; omega
            go_quiet (fail)
            go_wp2_with fail
            go_meet
            exact ⟨rfl, below_drewN (Below.refl _ _) _⟩
        case rest =>
          obtain ⟨rfl, hbc⟩ := hcut
          have HB2 := Lib.hid (HB.out.trans (hbc.mono HB.out.size)); clear hbc HB c0 c1 o0 o1 g0 g1
          obtain ⟨c0, c1⟩ := HQC.out wc HB2.out
          obtain ⟨o0, o1⟩ := HQO.out wc HB2.out
          obtain ⟨g0, g1⟩ := HQH.out wc HB2.out
          have HI := Lib.hid fun w' (hb' : Below w4.heap.size w4 w') => in_any A l c ⟨k, lo⟩ w' (HTL.out.below hb') HLOM.out (by omega)
          have HI2 := Lib.hid fun w' (hb' : Below w4.heap.size w4 w') => in_any A l c ⟨k, hi'⟩ w' (HTL.out.below hb') HHIM.out (by omega)
          go_wp2_with fail
          refine (HI.out _ HB2.out).mono ?_; rintro e w6 ⟨rfl, hb6⟩
          clear c0 c1 o0 o1 g0 g1
          have HB3 := Lib.hid (HB2.out.trans (hb6.mono HB2.out.size)); clear hb6 HB2
          obtain ⟨g0, g1⟩ := HQH.out w6 HB3.out
          dsimp only
          go_wp2_with fail
          refine (HI2.out _ HB3.out).mono ?_; rintro e w7 ⟨rfl, hb7⟩
          clear g0 g1
          have HB4 := Lib.hid (HB3.out.trans (hb7.mono HB3.out.size)); clear hb7 HB3 HI HI2
          dsimp only
          go_wp2_with fail
          go_loopw [11] (fun vj wy => ∃ j : Nat, j ≤ l.length ∧ vj = .int .i64 j ∧ Below w4.heap.size w4 wy) (fun vj _ => l.length - (intOf vj).toNat)
          case atStart => exact ⟨0, by omega, rfl, HB4.out⟩
          case round =>
            obtain ⟨j, hj, rfl, hb0⟩ := hrel
            have HB5 := Lib.hid hb0; clear hb0 HB4
            by_cases hjt : j < l.length
            · have hjz : (j : Int) < (l.length : Int) := by omega
              obtain ⟨r, hr⟩ : ∃ r, l[j]? = some r := ⟨_, List.getElem?_eq_getElem hjt⟩
              obtain ⟨bl, ol, rfl, hbl, hql⟩ := recs_at HTL.out hr
              obtain ⟨e0, e1⟩ := hql wr HB5.out
              obtain ⟨c0, c1⟩ := HQC.out wr HB5.out
              obtain ⟨o0, o1⟩ := HQO.out wr HB5.out
              obtain ⟨g0, g1⟩ := HQH.out wr HB5.out
              have hall := HALL.out r (List.mem_of_getElem? hr)
              clear hql hr
              by_cases hrk : r.k = k
              · obtain ⟨h1, h2⟩ := hall hrk
                have z1 : (r.k == k) = true := by simpa using hrk
                have z2 : decide (r.v < lo) = false := by simp; omega
                have z3 : decide (hi' < r.v) = false := by simp; omega
                have z4 : decide (r.v > hi') = false := by simp; omega
                clear hrk hall
                go_upto_region 20 with fail
                go_quiet (fail)
                go_wp2_with fail
                go_roundw
                case rel => exact ⟨j + 1, by omega, by simp, below_drewN HB5.out _⟩
                case measure => simp only [intOf]; omega
              · have z1 : (r.k == k) = false := by simpa using hrk
                clear hrk hall
                go_upto_region 20 with fail
                go_quiet (fail)
                go_wp2_with fail
                go_roundw
                case rel => exact ⟨j + 1, by omega, by simp, below_drewN HB5.out _⟩
                case measure => simp only [intOf]; omega
            · have hjl : j = l.length := by omega
              subst hjl
              go_wp2_with fail
              go_roundw
              case rel => exact ⟨i + 1, by omega, by simp, by rw [HST.out]; simp, HB5.out⟩
              case measure => simp only [intOf]; omega
      · have hil : i = N := by omega
        subst hil
        have hse : seenN l i = l.length := by rw [← HNN.out]; exact seenN_end
        rw [hse]
        clear hse
        go_wp2_with fail
        refine (works_any _).mono ?_; rintro e w9 ⟨rfl, hb9⟩
        have HB9 := Lib.hid (HB.out.trans (hb9.mono HB.out.size)); clear hb9
        dsimp only
        go_wp2_with fail
        go_ret
        exact ⟨rfl, Hb.out.trans (HB9.out.mono Hb.out.size)⟩

set_option maxRecDepth 100000 in
theorem lifted (os : Os) (started : os.Started) (H : Type) (enc : TypeId × Value → H) :
    ReturnsInHanded {} Try.checked os 9 .any (Rows.opersReducesSpec.pre6 enc Try.prog Try.f9 Rows.opersReducesRow.domain false) (Rows.opersReducesSpec.post enc Try.prog Try.f9 false true false false) := by
  refine returnsInHanded_of_change_sized (C := Try.checked) ownKnob_none started (by kernel_rfl) Try.func9
    (ChangeSpec.witness6 (enc := enc) (C := Try.checked) false ⟨#[], #[.slice none 0 0], []⟩ 8 (by kernel_rfl) (by kernel_rfl) (by kernel_rfl) (by kernel_rfl)) ?_
  intro W base args ds gs before hval0 hW hcnd hsz0 _
  have hval : ∀ (j : Nat) t v, Try.f9.params[j]? = some t → args[j]? = some v → Value.okWide Try.prog W .any base t v := hval0
  have hW' := hW
  obtain ⟨p, q, hA0, hV, rfl, hfz, hnd⟩ := hW
  have hA : DataW.TrodAll enc Try.prog W 0 (fun _ => true) true Try.f9.params.toList args.toList ds p := hA0
  have hsz : (DataW.weightsEach Try.prog (Try.f9.params.toList ++ Rows.opersReducesSpec.plain.varTypes Try.prog) (ds ++ gs)).all (· ≤ reachBytes) = true := hsz0
  rw [Try.params9] at hA hval hsz
  obtain ⟨v0, vs0, d0, ds0, p0, q0, hargs, rfl, rfl, h0, r0⟩ := trodAll_cons hA
  obtain ⟨rfl, rfl, rfl⟩ := trodAll_nil r0
  obtain rfl : args = #[v0] := by cases args; simp_all
  obtain ⟨rfl, rfl⟩ := trodVars_none hV
  obtain ⟨A0, l0, c0, rfl, hT0, hw0, hc0, hm0, hn0⟩ := Vr.open_recs (hval 0 28 v0 rfl rfl) h0
  clear hA0 hval0 hsz0
  refine (walk A0 l0 c0 W ⟨A0, c0, rfl, hT0, hn0, hc0, hm0⟩ hw0).mono fun e W' ⟨he, hg⟩ => ?_
  subst he
  exact ⟨_, rfl, law_post progLaid hW' rfl (by rw [Try.params9]; intro t ht; simp at ht; subst ht; exact ⟨by kernel_rfl, of_decide_eq_true (by kernel_rfl)⟩) rfl Try.underlying4 rfl hg⟩

theorem over : Rows.opersReducesRow.holds Try.pinned (OpenSpec.ofChange Rows.opersReducesSpec) :=
  OpenClaim.holds_of_wide 9 Try.f9 rfl rfl rfl rfl rfl rfl rfl ⟨rfl, rfl, rfl, rfl, rfl⟩ rfl rfl rfl rfl rfl (by kernel_rfl) Try.func9 (by kernel_rfl)
    (of_decide_eq_true (by kernel_rfl)) (by unfold Func.isWrapper; first | (rw [if_pos (by decide +kernel)]; kernel_rfl) | (rw [if_neg (by decide +kernel)]; exact ⟨rfl, rfl⟩))
    (fun os started H enc _ => lifted os started H enc)

/-- The statement. -/
theorem proved : Rows.OpersReducesSaid :=
  over
end opersReduces
end Go.Proofs.Ytkhmefbmffpkcaa
