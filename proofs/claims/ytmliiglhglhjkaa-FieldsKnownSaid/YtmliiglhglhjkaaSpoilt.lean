/- FieldsSpoilt: once spoilt, a reader answers nothing any more, whatever is asked for; for rows of at most 100 bytes, and at most 50 things of 2000 bytes. -/
import Derived.Test.YtmliiglhglhjkaaWorks
import Derived.Test.YtmliiglhglhjkaaOpen
import Derived.SizedLaws
namespace Go.Proofs.Ytmliiglhglhjkaa
open Go.ChangeShapes Go.WideShapes Go.ChangeAt Go.RowKit Go.BigFrame
set_option linter.unusedVariables false
theorem told_spoilt (t : Th) : t.told [] true = List.replicate t.wide 0 := by
  unfold Th.told
  split
  · rename_i h; rw [h]; rfl
  · exact M.be_zero _
namespace fieldsSpoilt
theorem walk_else (xs : List Nat) (A2 : Option Addr) (c2 : Nat) (ts : List Th) (A : Option Addr) (c : Nat) (w : World) (hT : Things w A ts) (hl : ts.length * 3 ≤ 140737488351232) (hx : xs.length ≤ 9223372036854775807) (hno : 100 < xs.length ∨ few ts = false) :
    Calls Try.prog 7 #[.slice A2 xs.length c2, .slice A ts.length c] w fun e w' => e = .returned (.bool true) ∧ Below w.heap.size w w' := by
  by_cases h : 100 < xs.length
  · have ht : decide ((100 : Int) < (xs.length : Int)) = true := decide_eq_true (by omega)
    clear h hno
    go_enter Try.func7, Try.ntmps7
    go_wp2_with fail
    refine (works_any w).mono ?_; rintro e w2 ⟨rfl, hb2⟩
    go_wp2_with fail
    go_ret
    exact ⟨rfl, hb2⟩
  · have hf := few_any A c ts w hT hl
    rw [show few ts = false by rcases hno with h1 | h1; (exact absurd h1 h); exact h1] at hf
    have ht : decide ((100 : Int) < (xs.length : Int)) = false := decide_eq_false (by omega)
    have Hf := Lib.hid hf; clear hf h hno
    go_enter Try.func7, Try.ntmps7
    go_wp2_with fail
    refine (Hf.out).mono ?_; rintro e w' ⟨rfl, rfl⟩
    go_wp2_with fail
    refine (works_any w).mono ?_; rintro e w2 ⟨rfl, hb2⟩
    go_wp2_with fail
    go_ret
    exact ⟨rfl, hb2⟩
set_option maxRecDepth 100000 in
theorem walk_main (xs : List Nat) (A2 : Option Addr) (c2 : Nat) (ts : List Th) (A : Option Addr) (c : Nat) (w : World) (hT : Things w A ts) (hB : Bytes w A2 xs) (hxc : xs.length ≤ c2) (hA2 : A2 = none → c2 = 0) (hfw : few ts = true) (hx : xs.length ≤ 100) :
    Calls Try.prog 7 #[.slice A2 xs.length c2, .slice A ts.length c] w fun e w' => e = .returned (.bool true) ∧ Below w.heap.size w w' := by
  obtain ⟨i0, hi, hz0, hz1, hz2⟩ := info_parts Try.infoByte
  have hfw2 := hfw
  simp only [few, Bool.and_eq_true, decide_eq_true_eq] at hfw2
  obtain ⟨hl50, hwe⟩ := hfw2
  have hf := few_any A c ts w hT (by omega)
  rw [hfw] at hf
  have ht : decide ((100 : Int) < (xs.length : Int)) = false := decide_eq_false (by omega)
  have hop := open_any A2 c2 xs w hB (by omega) hxc hA2
  have Hf := Lib.hid hf; have Hop := Lib.hid hop; clear hf hfw hop
  go_enter Try.func7, Try.ntmps7
  go_wp2_with fail
  refine (Hf.out).mono ?_; rintro e w' ⟨rfl, rfl⟩
  go_wp2_with fail
  refine (Hop.out).mono ?_; rintro e w1 ⟨g, rfl, hg, hR, hb1⟩
  dsimp only
  have htk : M.took ((xs.length : Int) + 1) xs false = false := by
    unfold M.took
    rw [decide_eq_false (p := ((xs.length : Int) + 1) ≤ xs.length) (by omega), Bool.and_false]
  have hraw := rraw_any g xs false ((xs.length : Int) + 1) w1 hR (by omega)
  rw [show M.out ((xs.length : Int) + 1) xs false = [] by unfold M.out; rw [htk]; rfl, show M.rest ((xs.length : Int) + 1) xs false = [] by unfold M.rest; rw [htk]; rfl, show M.spoil ((xs.length : Int) + 1) xs false = true by unfold M.spoil; rw [htk]; rfl] at hraw
  have Hraw := Lib.hid hraw; have Hb1 := Lib.hid hb1; clear hraw hR hb1 htk
  go_wp2_with fail
  refine (Hraw.out).mono ?_; rintro e w2 ⟨v, rfl, ⟨A3, c3, rfl, -⟩, hR2, hg2⟩
  dsimp only
  have hb2 : Below w.heap.size w w2 := Hb1.out.trans (below_of_grown hg2 Hb1.out.size hg)
  have hbad := bad_any g [] true w2 hR2
  have hleft := left_any g [] true w2 hR2
  have Hbad := Lib.hid hbad; have Hleft := Lib.hid hleft; have HR2 := Lib.hid hR2; have Hb2 := Lib.hid hb2
  clear hbad hleft hR2 hb2 hg2
  go_wp2_with fail
  refine (Hbad.out).mono ?_; rintro e w' ⟨rfl, rfl⟩
  go_wp2_with fail
  refine (Hleft.out).mono ?_; rintro e w' ⟨rfl, rfl⟩
  go_wp2_with fail
  go_loopw [6, 7] (fun i _ wr => ∃ k : Nat, k ≤ ts.length ∧ i = .int .i64 k ∧ IsReader wr g [] true ∧ Below w.heap.size w wr) (fun i _ _ => ts.length - (intOf i).toNat)
  case atStart => exact ⟨0, by omega, rfl, HR2.out, Hb2.out⟩
  case round =>
    obtain ⟨k, hk, rfl, hR, hb⟩ := hrel
    by_cases hlt : k < ts.length
    · have hT' := hT.below hb
      obtain ⟨b, off, rfl, hbw, -⟩ := hT.2 (by omega)
      obtain ⟨b', off', he, hbl, hc⟩ := hT'.2 (by omega)
      obtain ⟨rfl, rfl⟩ : b = b' ∧ off = off' := by injection he with he; injection he with e1 e2; exact ⟨e1, e2⟩
      clear he
      have hx : ts[k]? = some ts[k] := List.getElem?_eq_getElem hlt
      have hmem := List.mem_of_getElem? hx
      obtain ⟨hc1, hc2, hc3⟩ := hc k _ hx
      have hrd := read_any ts[k] g [] true wr hR (hT.1 _ hmem).1 (by have := weigh_mem hmem; omega) (by simp)
      rw [told_spoilt, show M.rest (ts[k].ask : Int) [] true = [] from rfl, show M.spoil (ts[k].ask : Int) [] true = true from rfl] at hrd
      have hwd := fun w' => wide_any ts[k] w'
      have hw8 : ts[k].wide ≤ 8 := by unfold Th.wide; (repeat' split) <;> omega
      have Hrd := Lib.hid hrd; have Hwd := Lib.hid hwd; have Hb := Lib.hid hb
      have HT' := Lib.hid (hc k _ hx)
      clear hrd hwd hc hx hmem hT' hR hb
      generalize ts[k] = t at *
      generalize t.wide = W at *
      obtain ⟨s, n, B⟩ := t
      simp only at hc1 hc2 hc3
      go_wp2_with fail
      refine (Hrd.out).mono ?_; rintro e w3 ⟨rfl, hR3, hg3⟩
      have hbg : b ≠ g := by omega
      have hcc : ∀ o, w3.cell? ⟨b, o, none⟩ = wr.cell? ⟨b, o, none⟩ := fun o => World.cell?_of_block (hg3.block b hbl (by intro e; injection e with e; exact hbg e))
      have hc1' := (hcc _).trans hc1
      have hc2' := (hcc _).trans hc2
      have hc3' := (hcc _).trans hc3
      have hb3 : Below w.heap.size w w3 := Hb.out.trans (below_of_grown hg3 Hb.out.size hg)
      have HR3 := Lib.hid hR3; have Hb3 := Lib.hid hb3
      clear hcc hc1 hc2 hc3 hg3 hR3 hb3
      go_wp2_with fail
      refine (Hwd.out _).mono ?_; rintro e w4 ⟨rfl, hb4⟩
      have Hb4 := Lib.hid hb4; clear hb4
      go_wp2_with (refine wpList_make_full _ rfl (.tmp 53) (.tmp 53) 23 rfl w4.heap.size 5 i0 _ 1 Try.underlying23 hi hz0 hz1 .i64 .i64 _ _ W rfl rfl rfl rfl (by rw [hz2]; omega) (by unfold maxLen; omega) (Nat.le_refl _) ?_)
      intro w5 hown hgr
      have hr5 := Row.of_full hown
      rw [toList_madeCells_one] at hr5
      have hB5 := Bytes.of_row (xs := List.replicate W 0) (by simpa using hr5) (by simp)
      have hcv := conv_bytes (P := Try.prog) (w := w5) Try.underlying23 Try.underlying5 Try.underlying9 hB5 W
      rw [List.length_replicate] at hcv
      have hb5 : Below w.heap.size w w5 := (Hb3.out.trans (Hb4.out.mono Hb3.out.size)).grown hgr (Nat.le_trans Hb3.out.size Hb4.out.size) (by simp)
      have hR5 : IsReader w5 g [] true := (HR3.out.below Hb4.out).below (grown_none hgr)
      have hbad5 := bad_any g [] true w5 hR5
      have hleft5 := left_any g [] true w5 hR5
      have Hbad5 := Lib.hid hbad5; have Hleft5 := Lib.hid hleft5; have HR5 := Lib.hid hR5; have Hb5 := Lib.hid hb5
      clear hbad5 hleft5 hR5 hb5 hown hgr hr5 hB5 hc1' hc2' hc3'
      generalize strOf (List.replicate W 0) = str at *
      go_wp2_with fail
      refine (Hbad5.out).mono ?_; rintro e w' ⟨rfl, rfl⟩
      go_wp2_with fail
      refine (Hleft5.out).mono ?_; rintro e w' ⟨rfl, rfl⟩
      go_wp2_with fail
      go_roundw
      case rel => exact ⟨k + 1, by omega, by go_num, HR5.out, Hb5.out⟩
      case measure => simp [intOf]; omega
    · have hraw := rraw_any g [] true 0 wr hR (by simp)
      rw [show M.out 0 [] true = [] from rfl, show M.rest 0 [] true = [] from rfl, show M.spoil 0 [] true = true from rfl] at hraw
      have Hraw2 := Lib.hid hraw; have Hb := Lib.hid hb; clear hraw hR hb
      go_wp2_with fail
      refine (Hraw2.out).mono ?_; rintro e w6 ⟨v, rfl, ⟨A6, c6, rfl, -⟩, hR6, hg6⟩
      dsimp only
      have hb6 : Below w.heap.size w w6 := Hb.out.trans (below_of_grown hg6 Hb.out.size hg)
      have Hb6 := Lib.hid hb6; clear hb6 hR6 hg6
      go_wp2_with fail
      refine (works_any w6).mono ?_; rintro e w7 ⟨rfl, hb7⟩
      dsimp only
      go_wp2_with fail
      go_ret
      exact ⟨rfl, Hb6.out.trans (hb7.mono Hb6.out.size)⟩
theorem walk (xs : List Nat) (A2 : Option Addr) (c2 : Nat) (ts : List Th) (A : Option Addr) (c : Nat) (w : World) (hT : Things w A ts) (hl : ts.length * 3 ≤ 140737488351232) (hB : Bytes w A2 xs) (hxc : xs.length ≤ c2) (hcm : c2 ≤ maxLen) (hA2 : A2 = none → c2 = 0) :
    Calls Try.prog 7 #[.slice A2 xs.length c2, .slice A ts.length c] w fun e w' => e = .returned (.bool true) ∧ Below w.heap.size w w' := by
  unfold maxLen at hcm
  by_cases h : few ts = true ∧ xs.length ≤ 100
  · exact walk_main xs A2 c2 ts A c w hT hB hxc hA2 h.1 h.2
  · refine walk_else xs A2 c2 ts A c w hT hl (by omega) ?_
    cases hf : few ts with
    | false => exact .inr rfl
    | true => exact .inl (by have : ¬ xs.length ≤ 100 := fun h2 => h ⟨hf, h2⟩; omega)

set_option maxRecDepth 100000 in
theorem lifted (os : Os) (started : os.Started) (H : Type) (enc : TypeId × Value → H) :
    ReturnsInHanded {} Try.checked os 7 .any (Rows.fieldsSpoiltSpec.pre6 enc Try.prog Try.f7 Rows.fieldsSpoiltRow.domain false) (Rows.fieldsSpoiltSpec.post enc Try.prog Try.f7 false true false false) := by
  refine returnsInHanded_of_change_sized (C := Try.checked) ownKnob_none started (by kernel_rfl) Try.func7
    (ChangeSpec.witness6 (enc := enc) (C := Try.checked) false ⟨#[], #[.slice none 0 0, .slice none 0 0], []⟩ 8 (by kernel_rfl) (by kernel_rfl) (by kernel_rfl) (by kernel_rfl)) ?_
  intro W base args ds gs before hval0 hW hcnd hsz0 _
  have hval : ∀ (j : Nat) t v, Try.f7.params[j]? = some t → args[j]? = some v → Value.okWide Try.prog W .any base t v := hval0
  have hW' := hW
  obtain ⟨p, q, hA0, hV, rfl, hfz, hnd⟩ := hW
  have hA : DataW.TrodAll enc Try.prog W 0 (fun _ => true) true Try.f7.params.toList args.toList ds p := hA0
  have hsz : (DataW.weightsEach Try.prog (Try.f7.params.toList ++ Rows.fieldsSpoiltSpec.plain.varTypes Try.prog) (ds ++ gs)).all (· ≤ reachBytes) = true := hsz0
  rw [Try.params7] at hA hval hsz
  obtain ⟨v0, vs0, d0, ds0, p0, q0, hargs, rfl, rfl, h0, r0⟩ := trodAll_cons hA
  obtain ⟨v1, vs1, d1, ds1, p1, q1, rfl, rfl, rfl, h1, r1⟩ := trodAll_cons r0
  obtain ⟨rfl, rfl, rfl⟩ := trodAll_nil r1
  obtain rfl : args = #[v0, v1] := by cases args; simp_all
  obtain ⟨rfl, rfl⟩ := trodVars_none hV
  obtain ⟨A0, xs0, c0, rfl, hB0, hxc0, hcm0, hAc0⟩ := open_bytes Try.underlying23 Try.underlying5 cells_u8 (hval 0 23 v0 rfl rfl) h0
  obtain ⟨A1, ts1, c1, rfl, hT1, hl1⟩ := open_things (hval 1 22 v1 rfl rfl) h1 (weights_of hsz (j := 1) rfl rfl)
  clear hA0 hval0 hsz0
  refine (walk xs0 A0 c0 ts1 A1 c1 W hT1 hl1 hB0 hxc0 hcm0 hAc0).mono fun e W' ⟨he, hg⟩ => ?_
  subst he
  exact ⟨_, rfl, law_post progLaid hW' rfl (by rw [Try.params7]; intro t ht; simp at ht; rcases ht with rfl | rfl <;> exact ⟨by kernel_rfl, of_decide_eq_true (by kernel_rfl)⟩) rfl Try.underlying4 rfl hg⟩

theorem over : Rows.fieldsSpoiltRow.holds Try.pinned (OpenSpec.ofChange Rows.fieldsSpoiltSpec) :=
  OpenClaim.holds_of_wide 7 Try.f7 rfl rfl rfl rfl rfl rfl rfl ⟨rfl, rfl, rfl, rfl, rfl⟩ rfl rfl rfl rfl rfl (by kernel_rfl) Try.func7 (by kernel_rfl)
    (of_decide_eq_true (by kernel_rfl)) (by unfold Func.isWrapper; first | (rw [if_pos (by decide +kernel)]; kernel_rfl) | (rw [if_neg (by decide +kernel)]; exact ⟨rfl, rfl⟩))
    (fun os started H enc _ => lifted os started H enc)

/-- The statement. -/
theorem proved : Rows.FieldsSpoiltSaid :=
  over
end fieldsSpoilt
end Go.Proofs.Ytmliiglhglhjkaa
