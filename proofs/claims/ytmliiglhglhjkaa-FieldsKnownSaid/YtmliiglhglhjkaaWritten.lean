/- FieldsWritten: what is told of a Writer are the things' bytes, one behind the other; numbers are cut to their size; what is told is its own, and what was handed in is not kept; for at most 50 things of 2000 bytes, and 200 bytes more. -/
import Derived.Test.YtmliiglhglhjkaaWorks
import Derived.Test.YtmliiglhglhjkaaMine
import Derived.Test.YtmliiglhglhjkaaLaw
import Derived.Test.YtmliiglhglhjkaaOpen
import Derived.SizedLaws
namespace Go.Proofs.Ytmliiglhglhjkaa
open Go.ChangeShapes Go.WideShapes Go.ChangeAt Go.RowKit Go.BigFrame
set_option linter.unusedVariables false

theorem bump {w0 wr : World} {B base g gb n k x : Nat} {A : Option Addr} {xs : List Nat} {L : List Value} (hm : Mine wr base A n) (hA : A = some ⟨gb, 0, none⟩) (hr : Row wr gb 5 L) (hW : IsWriter wr g xs) (hne : g ≠ gb) (hb : Below B w0 wr) (hB : B ≤ gb) :
    Mine (wr.setCell ⟨gb, k, none⟩ (.int .u8 (((x : Int) + 1) % 256))) base A n ∧ IsWriter (wr.setCell ⟨gb, k, none⟩ (.int .u8 (((x : Int) + 1) % 256))) g xs ∧ Below B w0 (wr.setCell ⟨gb, k, none⟩ (.int .u8 (((x : Int) + 1) % 256))) := by
  have e : (((x : Int) + 1) % 256) = (((x + 1) % 256 : Nat) : Int) := by omega
  rw [e]
  exact ⟨hm.put gb k _ hA (by omega), hW.grown (grown_setCell _ _ _) (by intro h; injection h with h; exact hne h) (fun k' l he hk' => by cases he; exact Row.apart hr hk' (by decide) rfl), hb.setCell hB _⟩
namespace fieldsWritten
theorem walk_else (ts : List Th) (A : Option Addr) (c : Nat) (xs : List Nat) (A2 : Option Addr) (c2 : Nat) (w : World) (hT : Things w A ts) (hl : ts.length * 3 ≤ 140737488351232) (hx : xs.length ≤ 9223372036854775807) (hno : few ts = false ∨ 200 < xs.length) :
    Calls Try.prog 3 #[.slice A ts.length c, .slice A2 xs.length c2] w fun e w' => e = .returned (.bool true) ∧ Below w.heap.size w w' := by
  have hf := few_any A c ts w hT hl
  by_cases h : few ts = false
  · rw [h] at hf
    have Hf := Lib.hid hf; clear hf h hno
    go_enter Try.func3, Try.ntmps3
    go_wp2_with fail
    refine (Hf.out).mono ?_; rintro e w' ⟨rfl, rfl⟩
    go_wp2_with fail
    refine (works_any w).mono ?_; rintro e w2 ⟨rfl, hb2⟩
    go_wp2_with fail
    go_ret
    exact ⟨rfl, hb2⟩
  · have h' : few ts = true := by simpa using h
    rw [h'] at hf
    have hlx : 200 < xs.length := by rcases hno with h1 | h1; (exact absurd h1 h); exact h1
    have ht : decide ((200 : Int) < (xs.length : Int)) = true := decide_eq_true (by omega)
    have Hf := Lib.hid hf; clear hf h h' hno
    go_enter Try.func3, Try.ntmps3
    go_wp2_with fail
    refine (Hf.out).mono ?_; rintro e w' ⟨rfl, rfl⟩
    go_wp2_with fail
    refine (works_any w).mono ?_; rintro e w2 ⟨rfl, hb2⟩
    go_wp2_with fail
    go_ret
    exact ⟨rfl, hb2⟩
set_option maxRecDepth 100000 in
theorem walk_main (ts : List Th) (A : Option Addr) (c : Nat) (xs : List Nat) (A2 : Option Addr) (c2 : Nat) (w : World) (hT : Things w A ts) (hB : Bytes w A2 xs) (hA2 : A2 = none → c2 = 0) (hfw : few ts = true) (hx : xs.length ≤ 200) :
    Calls Try.prog 3 #[.slice A ts.length c, .slice A2 xs.length c2] w fun e w' => e = .returned (.bool true) ∧ Below w.heap.size w w' := by
  obtain ⟨i0, hi, hz0, hz1, hz2⟩ := info_parts Try.infoByte
  have hfw2 := hfw
  simp only [few, Bool.and_eq_true, decide_eq_true_eq] at hfw2
  obtain ⟨hl50, hwe⟩ := hfw2
  have hf := few_any A c ts w hT (by omega)
  rw [hfw] at hf
  have ht : decide ((200 : Int) < (xs.length : Int)) = false := decide_eq_false (by omega)
  have hal := all_any A c ts w hT (by omega) (by omega)
  have Hf := Lib.hid hf; have Hal := Lib.hid hal; clear hf hfw hal
  go_enter Try.func3, Try.ntmps3
  go_wp2_with fail
  refine (Hf.out).mono ?_; rintro e w' ⟨rfl, rfl⟩
  go_wp2_with fail
  refine (Hal.out).mono ?_; rintro e w1 ⟨g, rfl, hg, hW, hb1⟩
  dsimp only
  have hBw := hB.below hb1
  have hown0 := World.ownsRow_made (base := w1.heap.size) (e := 5) (size := 1) w1 #[] 0 (Nat.le_refl _) (by unfold maxLen; omega) rfl
  have hB0 : Bytes (w1.alloc (.cells #[] 5)) A2 xs := hBw.below ((Below.refl _ _).alloc (Nat.le_refl _) _)
  have HW := Lib.hid hW; have Hb1 := Lib.hid hb1; clear hW hb1 hBw
  go_wp2_with (at_builtin; refine wpList_append_bytes rfl _ _ 23 rfl w1.heap.size 5 i0 (.int .u8 0) Try.underlying23 hi hz0 hz1 hz2 rfl _ 0 [] rfl hown0 A2 c2 xs rfl hB0 hA2 (by omega) (by simp) ?_)
  intro v w2 hown hgr
  obtain ⟨A3, c3, rfl, hB3, hl3, hm3, hA3n, hA3⟩ := Own.of_own hown hB.1
  have hmine := Mine.of_own (c := c3) hown hB.1
  have hb2 : Below w1.heap.size w1 w2 := ((Below.refl _ _).alloc (Nat.le_refl _) _).grown hgr (by simp) (by intro k h; simp [Value.ownBlock] at h; omega)
  have hgl := HW.out.lt
  have hraw := raw_any g (texts ts) xs A3 c3 w2 (HW.out.below hb2) hB3 hl3 (by unfold maxLen at hm3; exact hm3) (fun ad he => by have := (hA3 ad he).1; omega) (by have := texts_len ts; omega)
  have Hraw := Lib.hid hraw; have Hmine := Lib.hid hmine; have Hb2 := Lib.hid hb2; have HA3 := Lib.hid hA3
  clear hraw hmine hb2 hA3 hown hgr hown0 hB0 hB3 hl3 hm3 hi hz0 hz1 hz2 hA3n
  go_wp2_with fail
  refine (Hraw.out).mono ?_; rintro e w3 ⟨rfl, hW3, hg3⟩
  have hm3 : Mine w3 w1.heap.size A3 xs.length := by
    intro hn
    obtain ⟨gb, L, e, hb, hr, hc⟩ := Hmine.out hn
    exact ⟨gb, L, e, hb, hr.grown hg3 (by intro e'; injection e' with e'; omega), hc⟩
  have hb3 : Below w.heap.size w w3 := Hb1.out.trans ((Hb2.out.mono Hb1.out.size).trans (below_of_grown hg3 (Nat.le_trans Hb1.out.size Hb2.out.size) hg))
  have hs3 : w1.heap.size ≤ w3.heap.size := Nat.le_trans Hb2.out.size hg3.size
  clear hg3
  go_wp2_with fail
  go_loopw [7] (fun i wr => ∃ k : Nat, k ≤ xs.length ∧ i = .int .i64 k ∧ Mine wr w1.heap.size A3 xs.length ∧ IsWriter wr g (texts ts ++ xs) ∧ Below w.heap.size w wr) (fun i _ => xs.length - (intOf i).toNat)
  case atStart => exact ⟨0, by omega, rfl, hm3, hW3, hb3⟩
  case round =>
    obtain ⟨k, hk, rfl, hm, hWr, hb⟩ := hrel
    by_cases hlt : k < xs.length
    · obtain ⟨gb, L, rfl, hbb, hr, hc⟩ := id hm (by omega)
      obtain ⟨x, hx8, hcx⟩ := hc k hlt
      have hcell := hr.cell k
      rw [hcx] at hcell
      have hfz := hr.free k
      have hbp := bump (k := k) (x := x) hm rfl hr hWr (by omega) hb (by have := Hb1.out.size; omega)
      have Hbp := Lib.hid hbp
      clear hm hr hc hcx hWr hb hbp
      go_wp2_with fail
      go_roundw
      case rel => exact ⟨k + 1, by omega, by go_num, Hbp.out.1, Hbp.out.2.1, Hbp.out.2.2⟩
      case measure => simp [intOf]; omega
    · obtain rfl : k = xs.length := by omega
      clear hm3 hW3 hb3 hs3 Hraw Hmine HA3 hm
      have HWr := Lib.hid hWr; have Hb := Lib.hid hb; clear hWr hb
      obtain ⟨str, hstr⟩ : ∃ str, str = strOf (texts ts ++ xs) := ⟨_, rfl⟩
      have hadd : strOf (texts ts) ++ strOf xs = str := by rw [hstr, strOf_append]
      have htl := texts_len ts
      have hs1 : (strOf (texts ts)).size ≤ 4000 := by rw [strOf_size]; omega
      have hs2 : (strOf xs).size ≤ 200 := by rw [strOf_size]; exact hx
      have Hstr := Lib.hid hstr; have Hadd := Lib.hid hadd; clear hstr hadd htl
      go_wp2_with fail
      refine Free.wp_grow (by kernel_rfl) (by kernel_rfl) (fun i v w' => match i with
        | 0 => v = .slice A ts.length c
        | 1 => v = .string (strOf (texts ts))
        | 2 => v = .slice A2 xs.length c2
        | 3 => v = .string (strOf xs)
        | _ => v = .string str) ?_ ?_ ?_
      · intro j u wa wb hb h
        match j with
        | 0 | 1 | 2 | 3 => exact h
        | _ + 4 => exact h
      · intro i o hi a wa hold hpre hbw
        have hbwa := Hb.out.trans (hbw.mono Hb.out.size)
        match i with
        | 0 => cases hi; exact Free.g_move _ rfl ⟨(hold 0 (by decide)).trans rfl, Below.refl _ _⟩
        | 1 =>
          cases hi
          have h0 := hpre 0 _ _ (by kernel_rfl) rfl rfl
          refine Free.g_call _ _ rfl Try.func13 (by kernel_rfl) rfl [.slice A ts.length c] (by show [a.eval (.tmp 42)] = _; rw [h0]) ?_
          exact (texts_any A c ts wa (hT.below hbwa) (by omega) (by omega)).mono fun e w2 ⟨he, hb2⟩ => ⟨_, he, rfl, hb2⟩
        | 2 => cases hi; exact Free.g_move _ rfl ⟨(hold 1 (by decide)).trans rfl, Below.refl _ _⟩
        | 3 =>
          cases hi
          have h0 := hpre 2 _ _ (by kernel_rfl) rfl rfl
          exact Free.g_convert _ _ _ rfl h0 (conv_bytes (P := Try.prog) Try.underlying23 Try.underlying5 Try.underlying9 (hB.below hbwa) c2) ⟨rfl, Below.refl _ _⟩
        | 4 =>
          cases hi
          have h1 := hpre 1 _ _ (by kernel_rfl) rfl rfl
          have h3 := hpre 3 _ _ (by kernel_rfl) rfl rfl
          refine Free.g_bin _ _ _ _ _ rfl h1 h3 (run_add_str wa 9 _ _ _ _ Try.underlying9 (by omega)) ⟨?_, Below.refl _ _⟩
          exact congrArg Value.string Hadd.out
        | 5 =>
          cases hi
          have h4 := hpre 4 _ _ (by kernel_rfl) rfl rfl
          exact Free.g_assign _ rfl ⟨h4, Below.refl _ _⟩
        | _ + 6 => cases hi
      · intro vs w4 hv hbw
        have h6 : vs 5 = .string str := hv 5 (by simp) (by rintro o ⟨⟩; rfl)
        have hb4 := Hb.out.trans (hbw.mono Hb.out.size)
        have hlw := HWr.out.lt
        have hW4 := HWr.out.below hbw
        have hlen : (texts ts ++ xs).length ≤ 1000000 := by have := texts_len ts; simp; omega
        have hou := out_any g _ w4 hW4 hlen
        have hby := hW4.bytes
        have Hou := Lib.hid hou; have HW4 := Lib.hid hW4; have Hb4 := Lib.hid hb4
        clear hou hW4 hb4 hbw hv HWr
        simp only [Free.puts]
        go_simp
        go_wp2_with fail
        refine (Hou.out).mono ?_; rintro e w5 ⟨b5, rfl, hg5, hr5, hb5⟩
        dsimp only
        have hB5 := Bytes.of_row hr5 hby
        have hcv := conv_bytes (P := Try.prog) (w := w5) Try.underlying23 Try.underlying5 Try.underlying9 hB5 (texts ts ++ xs).length
        rw [← Hstr.out] at hcv
        have hm5 := Mine.of_row (base := w4.heap.size) hr5 hg5 hby
        have hW5 := HW4.out.below hb5
        have hb05 := Hb4.out.trans (hb5.mono Hb4.out.size)
        have hl5 : (texts ts ++ xs).length ≤ 9223372036854775807 := by omega
        have hg4 := HW4.out.lt
        clear hB5 hr5
        obtain ⟨n5, hn5⟩ : ∃ n5, n5 = (texts ts ++ xs).length := ⟨_, rfl⟩
        rw [← hn5] at hcv hm5 hl5 ⊢
        have Hn5 := Lib.hid hn5; clear hn5
        have Hm5 := Lib.hid hm5; have HW5 := Lib.hid hW5; have Hb05 := Lib.hid hb05; clear hm5 hW5 hb05 hb5
        go_wp2_with fail
        have hs04 := Hb4.out.size
        go_loopw [10] (fun i wr => ∃ k : Nat, k ≤ n5 ∧ i = .int .i64 k ∧ Mine wr w4.heap.size (some ⟨b5, 0, none⟩) n5 ∧ IsWriter wr g (texts ts ++ xs) ∧ Below w.heap.size w wr) (fun i _ => n5 - (intOf i).toNat)
        case atStart => exact ⟨0, by omega, rfl, Hm5.out, HW5.out, Hb05.out⟩
        case round =>
          obtain ⟨k, hk, rfl, hm, hWr, hb⟩ := hrel
          by_cases hlt : k < n5
          · obtain ⟨gb, L, he, hbb, hr, hc⟩ := id hm (by omega)
            obtain rfl : b5 = gb := by injection he with he; injection he
            obtain ⟨x, hx8, hcx⟩ := hc k hlt
            have hcell := hr.cell k
            rw [hcx] at hcell
            have hfz := hr.free k
            have hbp := bump (k := k) (x := x) hm rfl hr hWr (by omega) hb (by omega)
            have Hbp := Lib.hid hbp
            clear hm hr hc hcx hWr hb hbp he
            go_wp2_with fail
            go_roundw
            case rel => exact ⟨k + 1, by omega, by go_num, Hbp.out.1, Hbp.out.2.1, Hbp.out.2.2⟩
            case measure => simp [intOf]; omega
          · have hou := out_any g _ _ hWr hlen
            rw [← Hn5.out] at hou
            have Hou2 := Lib.hid hou; have Hb := Lib.hid hb; clear hou hb hWr hm
            go_wp2_with fail
            refine (Hou2.out).mono ?_; rintro e w7 ⟨b7, rfl, hg7, hr7, hb7⟩
            dsimp only
            have hB7 := Bytes.of_row hr7 hby
            have hcv7 := conv_bytes (P := Try.prog) (w := w7) Try.underlying23 Try.underlying5 Try.underlying9 hB7 n5
            rw [← Hstr.out, ← Hn5.out] at hcv7
            have Hb7 := Lib.hid (Hb.out.trans (hb7.mono Hb.out.size))
            clear hB7 hr7 hb7 hcv
            go_wp2_with fail
            refine (works_any w7).mono ?_; rintro e w8 ⟨rfl, hb8⟩
            dsimp only
            go_wp2_with fail
            go_ret
            exact ⟨rfl, Hb7.out.trans (hb8.mono Hb7.out.size)⟩
theorem walk (ts : List Th) (A : Option Addr) (c : Nat) (xs : List Nat) (A2 : Option Addr) (c2 : Nat) (w : World) (hT : Things w A ts) (hl : ts.length * 3 ≤ 140737488351232) (hB : Bytes w A2 xs) (hxc : xs.length ≤ c2) (hcm : c2 ≤ maxLen) (hA2 : A2 = none → c2 = 0) :
    Calls Try.prog 3 #[.slice A ts.length c, .slice A2 xs.length c2] w fun e w' => e = .returned (.bool true) ∧ Below w.heap.size w w' := by
  unfold maxLen at hcm
  by_cases h : few ts = true ∧ xs.length ≤ 200
  · exact walk_main ts A c xs A2 c2 w hT hB hA2 h.1 h.2
  · refine walk_else ts A c xs A2 c2 w hT hl (by omega) ?_
    cases hf : few ts with
    | false => exact .inl rfl
    | true => exact .inr (by have : ¬ xs.length ≤ 200 := fun h2 => h ⟨hf, h2⟩; omega)

set_option maxRecDepth 100000 in
theorem lifted (os : Os) (started : os.Started) (H : Type) (enc : TypeId × Value → H) :
    ReturnsInHanded {} Try.checked os 3 .any (Rows.fieldsWrittenSpec.pre6 enc Try.prog Try.f3 Rows.fieldsWrittenRow.domain false) (Rows.fieldsWrittenSpec.post enc Try.prog Try.f3 false true false false) := by
  refine returnsInHanded_of_change_sized (C := Try.checked) ownKnob_none started (by kernel_rfl) Try.func3
    (ChangeSpec.witness6 (enc := enc) (C := Try.checked) false ⟨#[], #[.slice none 0 0, .slice none 0 0], []⟩ 8 (by kernel_rfl) (by kernel_rfl) (by kernel_rfl) (by kernel_rfl)) ?_
  intro W base args ds gs before hval0 hW hcnd hsz0 _
  have hval : ∀ (j : Nat) t v, Try.f3.params[j]? = some t → args[j]? = some v → Value.okWide Try.prog W .any base t v := hval0
  have hW' := hW
  obtain ⟨p, q, hA0, hV, rfl, hfz, hnd⟩ := hW
  have hA : DataW.TrodAll enc Try.prog W 0 (fun _ => true) true Try.f3.params.toList args.toList ds p := hA0
  have hsz : (DataW.weightsEach Try.prog (Try.f3.params.toList ++ Rows.fieldsWrittenSpec.plain.varTypes Try.prog) (ds ++ gs)).all (· ≤ reachBytes) = true := hsz0
  rw [Try.params3] at hA hval hsz
  obtain ⟨v0, vs0, d0, ds0, p0, q0, hargs, rfl, rfl, h0, r0⟩ := trodAll_cons hA
  obtain ⟨v1, vs1, d1, ds1, p1, q1, rfl, rfl, rfl, h1, r1⟩ := trodAll_cons r0
  obtain ⟨rfl, rfl, rfl⟩ := trodAll_nil r1
  obtain rfl : args = #[v0, v1] := by cases args; simp_all
  obtain ⟨rfl, rfl⟩ := trodVars_none hV
  obtain ⟨A0, ts0, c0, rfl, hT0, hl0⟩ := open_things (hval 0 22 v0 rfl rfl) h0 (weights_of hsz (j := 0) rfl rfl)
  obtain ⟨A1, xs1, c1, rfl, hB1, hxc1, hcm1, hAc1⟩ := open_bytes Try.underlying23 Try.underlying5 cells_u8 (hval 1 23 v1 rfl rfl) h1
  clear hA0 hval0 hsz0
  refine (walk ts0 A0 c0 xs1 A1 c1 W hT0 hl0 hB1 hxc1 hcm1 hAc1).mono fun e W' ⟨he, hg⟩ => ?_
  subst he
  exact ⟨_, rfl, law_post progLaid hW' rfl (by rw [Try.params3]; intro t ht; simp at ht; rcases ht with rfl | rfl <;> exact ⟨by kernel_rfl, of_decide_eq_true (by kernel_rfl)⟩) rfl Try.underlying4 rfl hg⟩

theorem over : Rows.fieldsWrittenRow.holds Try.pinned (OpenSpec.ofChange Rows.fieldsWrittenSpec) :=
  OpenClaim.holds_of_wide 3 Try.f3 rfl rfl rfl rfl rfl rfl rfl ⟨rfl, rfl, rfl, rfl, rfl⟩ rfl rfl rfl rfl rfl (by kernel_rfl) Try.func3 (by kernel_rfl)
    (of_decide_eq_true (by kernel_rfl)) (by unfold Func.isWrapper; first | (rw [if_pos (by decide +kernel)]; kernel_rfl) | (rw [if_neg (by decide +kernel)]; exact ⟨rfl, rfl⟩))
    (fun os started H enc _ => lifted os started H enc)

/-- The statement. -/
theorem proved : Rows.FieldsWrittenSaid :=
  over
end fieldsWritten
end Go.Proofs.Ytmliiglhglhjkaa
