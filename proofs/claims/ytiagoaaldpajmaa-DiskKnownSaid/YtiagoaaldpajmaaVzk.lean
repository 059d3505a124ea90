/- Several texts in one: Begins. -/
import Derived.Test.YtiagoaaldpajmaaVu
namespace Go.Proofs.Ytiagoaaldpajmaa
open Go.ChangeShapes Go.WideShapes Go.ChangeAt Go.RowKit Go.BigFrame Go.Maps Go.Sort
set_option linter.unusedVariables false
theorem str_take (mb : ByteArray) (n : Nat) (h : n ≤ mb.size) : strOf ((bl mb).take n) = mb.extract 0 n := by
  apply ByteArray.ext
  apply Array.ext'
  simp only [strOf, strOfNums_data, bl, ByteArray.data_extract, Array.toList_extract, List.map_take, List.map_map]
  rw [show ((fun n : Int => UInt8.ofNat n.toNat) ∘ (fun x : Nat => (x : Int)) ∘ UInt8.toNat) = id from by funext u; simp]
  simp [List.extract]
/-- one operation makes a block, the others read -/
def Step2 (a b : World) (b1 : Bool) (w : World) : Prop := match b1 with | false => w = a | true => w = b
theorem bl_append (a b : ByteArray) : bl (a ++ b) = bl a ++ bl b := by simp [bl]
theorem add_size (a b : ByteArray) : (a ++ b).size = a.size + b.size := by simp
namespace diskBegins
set_option maxRecDepth 100000 in
set_option maxHeartbeats 1000000 in
theorem walk_else (su : ByteArray) (A : Option Addr) (ps : List ByteArray) (c : Nat) (keep again : Int) (w : World) (hs : su.size ≤ 9223372036854775807) (hp : ps.length ≤ 9223372036854775807) (hno : 500 < su.size ∨ 30 < ps.length) :
    Calls Try.prog 4 #[.string su, .slice A ps.length c, .int .i64 keep, .int .i64 again] w fun e w' => e = .returned (.bool true) ∧ Below w.heap.size w w' := by
  have hw := works_any w
  have HW := Lib.hid hw; clear hw
  by_cases h1 : 500 < su.size
  · clear hno
    go_enter Try.func4, Try.ntmps4
    go_wp2_with fail
    refine (HW.out).mono ?_; rintro e w2 ⟨rfl, hb2⟩
    go_wp2_with fail
    go_ret
    exact ⟨rfl, hb2⟩
  · have h2 : 30 < ps.length := by omega
    clear hno
    go_enter Try.func4, Try.ntmps4
    go_wp2_with fail
    refine (HW.out).mono ?_; rintro e w2 ⟨rfl, hb2⟩
    go_wp2_with fail
    go_ret
    exact ⟨rfl, hb2⟩
/-- what holds at each round's head -/
def At (w : World) (p : Nat) (su : ByteArray) (k : Nat) (mb : ByteArray) (wr : World) : Prop := mb.size ≤ 300 * k ∧ ∃ F, OwnF w wr p (oneD (bl su ++ bl mb) (bl su).length true (2 + k) false) F
set_option maxRecDepth 100000 in
set_option maxHeartbeats 4000000 in
theorem walk (su : ByteArray) (A : Option Addr) (ps : List ByteArray) (c : Nat) (keep again : Int) (w : World) (hs : su.size ≤ 500) (hp : ps.length ≤ 30) (hP : Strs w A ps) (hk : -9223372036854775808 ≤ keep ∧ keep ≤ 9223372036854775807) (ha : -9223372036854775808 ≤ again ∧ again ≤ 9223372036854775807) :
    Calls Try.prog 4 #[.string su, .slice A ps.length c, .int .i64 keep, .int .i64 again] w fun e w' => e = .returned (.bool true) ∧ Below w.heap.size w w' := by
  have hn := own_new (w0 := w) (w := w) 100000 (Below.refl _ _) (by omega)
  have HN := Lib.hid hn; have HP := Lib.hid hP; have HKR := Lib.hid hk; have HAR := Lib.hid ha; clear hn hP hk ha
  go_enter Try.func4, Try.ntmps4
  go_wp2_with fail
  refine (HN.out).mono ?_; rintro e w1 ⟨rfl, ho, -⟩
  obtain ⟨p, hp0⟩ : ∃ p, p = w.heap.size := ⟨_, rfl⟩
  rw [← hp0] at ho ⊢
  clear hp0
  go_wp2_with (refine wpList_tobytes rfl (.tmp 28) rfl Try.underlying9 Try.underlying36 Try.underlying5 su rfl (by unfold maxLen; omega) ?_)
  intro c1 w2 hB hb2 hc1 hcm1 hlt1
  have hlen := bl_len su
  have hap := own_append (ho.made hb2) sf ⟨w1.heap.size, 0, none⟩ (bl su) c1 hB (fun _ e => by have := (ho.mine _ e).2; simp at this) (by decide) (by omega) (by decide)
  rw [(one_app0 (bs := bl su) (by omega)).1, (one_app0 (bs := bl su) (by omega)).2, hlen] at hap
  have HAp := Lib.hid hap; have HLen := Lib.hid hlen; clear hap ho hB hb2 hc1 hcm1 hlt1 hlen
  go_wp2_with fail
  refine (HAp.out).mono ?_; rintro e w3 ⟨rfl, ho3, -⟩
  generalize Ext _ _ _ = F3 at ho3
  have hsy := own_sync ho3 sf (by decide) (by simp [oneD])
  rw [one_sync.1, one_sync.2] at hsy
  have HSy := Lib.hid hsy; clear hsy ho3
  go_wp2_with fail
  refine (HSy.out).mono ?_; rintro e w4 ⟨rfl, ho4, -⟩
  generalize Ext _ _ _ = F4 at ho4
  have h0 : At w p su 0 ⟨#[]⟩ w4 := ⟨Nat.le_refl 0, F4, by
    rw [show bl su ++ bl ⟨#[]⟩ = bl su by show bl su ++ [] = bl su; simp]; exact ho4⟩
  have H0 := Lib.hid h0; clear h0 ho4
  go_wp2_with fail
  go_loopw [10, 11] (fun m i wr => ∃ (k : Nat) (mb : ByteArray), k ≤ ps.length ∧ i = .int .i64 k ∧ m = .string mb ∧ At w p su k mb wr) (fun _ i _ => ps.length - (intOf i).toNat)
  case atStart => exact ⟨0, ⟨#[]⟩, Nat.zero_le _, rfl, rfl, H0.out⟩
  case round =>
    obtain ⟨k, mb, hk, rfl, rfl, hat⟩ := hrel
    by_cases hlt : k < ps.length
    · obtain ⟨hmb, F, ho⟩ := hat
      have hPr := HP.out.below ho.below
      obtain ⟨b, off, hA, hbl, hci⟩ := hPr.2 (by omega)
      have hcell := hci k ps[k] (List.getElem?_eq_getElem hlt)
      have hsz := HP.out.1 ps[k] (List.getElem_mem hlt)
      subst hA
      generalize ps[k] = s at hcell hsz
      have HO := Lib.hid ho; clear ho hPr hci
      by_cases hbig : 300 < s.size
      · have hw := works_any wr
        have HW := Lib.hid hw; clear hw
        go_wp2_with fail
        refine (HW.out).mono ?_; rintro e w5 ⟨rfl, hb5⟩
        have H5 := Lib.hid hb5; clear hb5
        go_wp2_with fail
        go_ret
        exact ⟨rfl, HO.out.below.trans (H5.out.mono HO.out.below.size)⟩
      · have hpb : ¬ F b := fun e => by have := (HO.out.mine _ e).1; have := (HP.out.2 (by omega)); obtain ⟨b', off', e', hb', _⟩ := this; injection e' with e'; injection e' with e1 _; omega
        go_wp2_with (refine wpList_tobytes rfl (.tmp 54) rfl Try.underlying9 Try.underlying36 Try.underlying5 s rfl (by unfold maxLen; omega) ?_)
        intro c5 w5 hB hb5 hc5 hcm5 hlt5
        have hlen := bl_len s
        have hlsu := bl_len su
        have hlmb := bl_len mb
        have hsum : (bl su ++ bl mb).length + (bl s).length ≤ 100000 := by rw [List.length_append, hlen, hlsu, hlmb]; omega
        have hap := own_append (HO.out.made hb5) sf ⟨wr.heap.size, 0, none⟩ (bl s) c5 hB (fun _ e => by have := (HO.out.mine _ e).2; simp at this) (by decide) (by omega) (by simp [oneD]; omega)
        rw [(one_app hsum).1, (one_app hsum).2, hlen] at hap
        have HAp5 := Lib.hid hap; clear hap hB hc5 hcm5 hlt5 hlen hlsu hlmb hsum
        have HB5 := Lib.hid hb5; clear hb5
        go_wp2_with fail
        refine (HAp5.out).mono ?_; rintro e w6 ⟨rfl, ho6, ht6⟩
        have hcell6 : w6.cell? ⟨b, off + k, none⟩ = some (.string s) := by
          rw [← hcell]
          exact (World.cell?_of_block (ht6.block b (Nat.lt_of_lt_of_le hbl HB5.out.size) hpb)).trans (World.cell?_of_block (HB5.out.block b hbl))
        generalize Ext _ _ _ = F6 at ho6
        have hat6 : At w p su (k + 1) (mb ++ s) w6 := ⟨by rw [add_size]; omega, F6, by
          rw [bl_append, ← List.append_assoc, show 2 + (k + 1) = 2 + k + 1 by omega]; exact ho6⟩
        have H6 := Lib.hid hat6; clear hat6 ho6 ht6 hcell hpb
        go_wp2_with fail
        go_roundw
        case rel => exact ⟨k + 1, mb ++ s, by omega, by go_num, rfl, H6.out⟩
        case measure => simp [intOf]; omega
    · obtain ⟨hmb, F, ho⟩ := hat
      have hkn : k = ps.length := by omega
      have hlsu := bl_len su
      have hlmb := bl_len mb
      have hcr := own_crash ho
      rw [one_crash] at hcr
      have HCr := Lib.hid hcr; clear hcr ho hkn
      go_wp2_with fail
      refine (HCr.out).mono ?_; rintro e w5 ⟨rfl, ho5, -⟩
      generalize Ext _ _ _ = F5 at ho5
      have hon := own_on (ho5.alloc (.cells #[.int .i64 keep] 3)) (some ⟨w5.heap.size, 0, none⟩) [keep] 1 (ints_lit w5 keep HKR.out) (by simp) (by decide) (by intro ad e _ hF; injection e with e; subst e; have := (ho5.mine _ hF).2; simp at this) (by simp [oneD]; omega)
      rw [one_on] at hon
      have hsub : (bl su ++ bl mb).length - (bl su).length = mb.size := by rw [List.length_append, hlmb]; omega
      rw [hsub, hlsu] at hon
      obtain ⟨n, hn⟩ : ∃ n, n = (keep % ((mb.size : Nat) + 1)).toNat := ⟨_, rfl⟩
      have hnk : keep % ((mb.size : Int) + 1) = (n : Int) := by have := Int.emod_nonneg keep (show ((mb.size : Int) + 1) ≠ 0 by omega); omega
      have hnm : n ≤ mb.size := by have := Int.emod_lt_of_pos keep (show 0 < ((mb.size : Int) + 1) by omega); omega
      rw [← hn] at hon
      have hT : (bl su ++ bl mb).take (su.size + n) = bl su ++ (bl mb).take n := by rw [List.take_append, hlsu]; simp [List.take_of_length_le (show (bl su).length ≤ su.size + n by omega)]
      have hTl : (bl su ++ (bl mb).take n).length = su.size + n := by rw [List.length_append, hlsu, List.length_take, hlmb]; omega
      rw [hT] at hon
      obtain ⟨T, hTe⟩ : ∃ T, T = bl su ++ (bl mb).take n := ⟨_, rfl⟩
      rw [← hTe] at hon hTl
      have HOn := Lib.hid hon; have HTe := Lib.hid hTe; have HTl := Lib.hid hTl; have HNk := Lib.hid hnk
      clear hon ho5 hTe hTl hnk hn hT hsub hlsu hlmb
      go_wp2_with fail
      refine (HOn.out).mono ?_; rintro e w6 ⟨rfl, ho6, -⟩
      have hm6 : ∀ i, Ext F5 (w5.alloc (.cells #[.int .i64 keep] 3)) w6 i → i < w6.heap.size := fun i hi => (ho6.mine i hi).2
      generalize Ext _ _ _ = F6 at ho6 hm6
      have HM6 := Lib.hid hm6; clear hm6
      have hrd := own_read ho6 sf (by decide)
      rw [one_read, one_find, HTl.out] at hrd
      have HRd := Lib.hid hrd; clear hrd ho6
      go_wp2_with fail
      refine (HRd.out).mono ?_; rintro e w7 ⟨B, c7, rfl, hB7, hB7a, ho7, -⟩
      have HB7 := Lib.hid hB7; have HB7a := Lib.hid hB7a; have HO7 := Lib.hid ho7; clear hB7 hB7a ho7
      go_wp2_with fail
      rw [show (su.size : Int) + (n : Int) - (su.size : Int) = (n : Int) by omega]
      have hcv : (convert 36 9 (.slice B (su.size + n) c7)).run Try.prog w7.drew = .ok (.string (su ++ mb.extract 0 n)) w7.drew := by
        have h1 := conv_bytes (P := Try.prog) Try.underlying36 Try.underlying5 Try.underlying9 HB7.out.drew c7
        rw [HTl.out] at h1
        rw [h1, HTe.out, strOf_append, strOf_bl, str_take mb n hnm]
      refine Stage.wp_region (by kernel_rfl) (by kernel_rfl) (Stage.one 25 (Step2 w7.drew (w7.drew.alloc (.cells #[.int .i64 keep] 3)))) (Stage.one_start (by simp) (show Step2 _ _ false w7.drew from rfl)) ?_
      have hn0 : decide ((n : Int) < 0) = false := decide_eq_false (by omega)
      have hn1 : decide ((mb.size : Int) < (n : Int)) = false := decide_eq_false (by omega)
      have hn2 : decide (mb.size < n) = false := decide_eq_false (by omega)
      refine Stage.wpSt_reads 23 (fun w' => w' = w7.drew) (by kernel_rfl) (Stage.one_before (by kernel_rfl)) ?_
      simp only [List.take_succ_cons, List.take_zero, List.drop_succ_cons, List.drop_zero]
      repeat (go_big_quiet_step (fail))
      refine wpQuiet_nil ?_
      clear hcv hn0 hn1 hn2
      refine Stage.wpSt_reads 2 (fun _ => True) (by kernel_rfl) (Stage.one_any (by simp)) ?_
      simp only [List.take_succ_cons, List.take_zero, List.drop_succ_cons, List.drop_zero]
      repeat (go_big_quiet_step (fail))
      refine wpQuiet_nil ?_
      refine Stage.wpSt_do (.slice (some ⟨w7.heap.size, 0, none⟩) 1 1) rfl (Stage.one_do ?_) ?_
      · intro w' hw
        have hw' : w' = w7.drew := hw
        subst hw'
        have hD : Step2 w7.drew (w7.drew.alloc (.cells #[.int .i64 keep] 3)) true (w7.drew.alloc (.cells #[.int .i64 keep] 3)) := rfl
        have HD := Lib.hid hD
        unfold Stage.at_
        go_simp
        exact ⟨rfl, HD.out⟩
      go_simp
      refine Stage.wpSt_reads 2 (fun _ => True) (by kernel_rfl) (Stage.one_any (by simp)) ?_
      simp only [List.take_succ_cons, List.take_zero, List.drop_succ_cons, List.drop_zero]
      repeat (go_big_quiet_step (fail))
      refine wpQuiet_nil ?_
      refine Stage.wpSt_do (.int .i64 (n : Nat)) rfl (fun S w' hF hi hS => ?_) ?_
      · obtain ⟨h1, h2⟩ := Stage.one_after (k := 28) (m := 29) (by kernel_rfl) 28 (by omega) (by omega) S w' hF hi hS
        have h1' : w' = w7.drew.alloc (.cells #[.int .i64 keep] 3) := h1
        refine Free.at_call _ _ rfl Try.func22 (by kernel_rfl) rfl [.slice (some ⟨w7.heap.size, 0, none⟩) 1 1, .int .i64 0, .int .i64 (mb.size : Nat)] rfl ?_
        have hst := stays_any (w := w') w7.heap.size keep mb.size HKR.out (by omega) (by rw [h1']; exact (Row.made w7.drew 3 [.int .i64 keep]).cell 0)
        rw [HNk.out] at hst
        refine hst.mono ?_
        rintro e w'' ⟨he, rfl⟩
        exact ⟨he, h2⟩
      go_simp
      refine Stage.wpSt_reads 2 (fun _ => True) (by kernel_rfl) (Stage.one_any (by simp)) ?_
      simp only [List.take_succ_cons, List.take_zero, List.drop_succ_cons, List.drop_zero]
      repeat (go_big_quiet_step (fail))
      refine wpQuiet_nil (Stage.wpSt_nil (Stage.one_end ?_))
      intro w8 hw8
      have e8 : w8 = w7.drew.alloc (.cells #[.int .i64 keep] 3) := hw8
      have ho8 : OwnF w w8 p (oneD T (su.size + n) true (2 + k) false) F6 := by rw [e8]; exact (HO7.out.made (⟨rfl, rfl, rfl, Nat.le_refl _, fun _ _ => rfl⟩ : Below w7.heap.size w7 w7.drew)).alloc _
      have hB8 : Bytes w8 B T := by rw [e8]; exact HB7.out.drew.below ((Below.refl _ _).alloc (Nat.le_refl _) _)
      clear hw8 e8
      have hcr := own_crash ho8
      rw [one_crash] at hcr
      have HCr8 := Lib.hid hcr; have HB8 := Lib.hid hB8; have HO8 := Lib.hid ho8; clear hcr ho8 hB8
      go_wp2_with fail
      refine (HCr8.out).mono ?_; rintro e w9 ⟨rfl, ho9, ht9⟩
      have hBF : ∀ ad, B = some ad → 0 < T.length → ¬ F6 ad.block := fun ad e h0 hF => by
        obtain ⟨ad', e', hl, _⟩ := HB7.out.2 h0
        rw [e] at e'; injection e' with e'; subst e'
        have h1 := (HO7.out.mine _ hF).2
        have h2 := HB7a.out ad e
        have h3 := HM6.out _ hF
        omega
      have hB9 : Bytes w9 B T := by
        refine ⟨HB8.out.1, fun h0 => ?_⟩
        obtain ⟨ad, e, hl, hc⟩ := HB8.out.2 h0
        refine ⟨ad, e, Nat.lt_of_lt_of_le hl ht9.size, fun j x hj => ?_⟩
        rw [← hc j x hj]
        exact World.cell?_of_block (by rw [add_block]; exact ht9.block _ hl (hBF ad e h0))
      have hl9 : w8.heap.size ≤ w9.heap.size := ht9.size
      have hF9 : ∀ i, Ext F6 w8 w9 i → F6 i ∨ w8.heap.size ≤ i := fun i hi => by
        rcases hi with hi | hi
        · exact .inl hi
        · exact .inr hi.1
      generalize Ext _ _ _ = F9 at ho9 hF9
      have hon := own_on (ho9.alloc (.cells #[.int .i64 again] 3)) (some ⟨w9.heap.size, 0, none⟩) [again] 1 (ints_lit w9 again HAR.out) (by simp) (by decide) (by intro ad e _ hF; injection e with e; subst e; have := (ho9.mine _ hF).2; simp at this) (by simp [oneD]; omega)
      rw [one_on, HTl.out] at hon
      rw [show (again % (((su.size + n - (su.size + n) : Nat) : Int) + 1)).toNat = 0 by rw [Nat.sub_self]; simp, Nat.add_zero, show T.take (su.size + n) = T from List.take_of_length_le (by rw [HTl.out]; omega)] at hon
      have HOn9 := Lib.hid hon; have HB9 := Lib.hid hB9; have HF9 := Lib.hid hF9; have HBF := Lib.hid hBF; clear hon hB9 hF9 hBF ho9 ht9
      go_wp2_with fail
      refine (HOn9.out).mono ?_; rintro e w10 ⟨rfl, ho10, ht10⟩
      have hB10 : Bytes w10 B T := by
        have h9 : Bytes (w9.alloc (.cells #[.int .i64 again] 3)) B T := HB9.out.below ((Below.refl _ _).alloc (Nat.le_refl _) _)
        refine ⟨h9.1, fun h0 => ?_⟩
        obtain ⟨ad, e, hl, hc⟩ := h9.2 h0
        refine ⟨ad, e, Nat.lt_of_lt_of_le hl ht10.size, fun j x hj => ?_⟩
        rw [← hc j x hj]
        have hnF : ¬ F9 ad.block := fun hF => by
          obtain ⟨ad8, e8, hl8, _⟩ := HB8.out.2 h0
          rw [e] at e8; injection e8 with e8; subst e8
          rcases HF9.out _ hF with h | h
          · exact HBF.out ad e h0 h
          · omega
        exact World.cell?_of_block (by rw [add_block]; exact ht10.block _ hl hnF)
      generalize Ext _ _ _ = F10 at ho10
      have hrd := own_read ho10 sf (by decide)
      rw [one_read, one_find, HTl.out] at hrd
      have HRd10 := Lib.hid hrd; have HB10 := Lib.hid hB10; clear hrd hB10 ho10 ht10
      go_wp2_with fail
      refine (HRd10.out).mono ?_; rintro e w11 ⟨B2, c11, rfl, hB11, -, ho11, hb11⟩
      have hcv1 := conv_bytes (P := Try.prog) Try.underlying36 Try.underlying5 Try.underlying9 hB11 c11
      have hcv2 := conv_bytes (P := Try.prog) Try.underlying36 Try.underlying5 Try.underlying9 (HB10.out.below hb11) c7
      rw [HTl.out] at hcv1 hcv2
      have hw := works_any w11
      have HO11 := Lib.hid ho11; have HW := Lib.hid hw; clear ho11 hb11 hB11 hw
      generalize strOf T = X at hcv1 hcv2
      go_wp2_with fail
      refine (HW.out).mono ?_; rintro e w12 ⟨rfl, hb12⟩
      have H12 := Lib.hid hb12; clear hb12 hcv1 hcv2
      go_wp2_with fail
      go_ret
      exact ⟨rfl, HO11.out.below.trans (H12.out.mono HO11.out.below.size)⟩
theorem walk_any (su : ByteArray) (A : Option Addr) (ps : List ByteArray) (c : Nat) (keep again : Int) (w : World) (hs : su.size ≤ 9223372036854775807) (hpl : ps.length ≤ 9223372036854775807) (hP : Strs w A ps) (hk : -9223372036854775808 ≤ keep ∧ keep ≤ 9223372036854775807) (ha : -9223372036854775808 ≤ again ∧ again ≤ 9223372036854775807) :
    Calls Try.prog 4 #[.string su, .slice A ps.length c, .int .i64 keep, .int .i64 again] w fun e w' => e = .returned (.bool true) ∧ Below w.heap.size w w' := by
  by_cases h : 500 < su.size ∨ 30 < ps.length
  · exact walk_else su A ps c keep again w hs hpl h
  · exact walk su A ps c keep again w (by omega) (by omega) hP hk ha

set_option maxRecDepth 100000 in
theorem lifted (os : Os) (started : os.Started) (H : Type) (enc : TypeId × Value → H) :
    ReturnsInHanded {} Try.checked os 4 .any (Rows.diskBeginsSpec.pre6 enc Try.prog Try.f4 Rows.diskBeginsRow.domain false) (Rows.diskBeginsSpec.post enc Try.prog Try.f4 false true false false) := by
  refine returnsInHanded_of_change_sized (C := Try.checked) ownKnob_none started (by kernel_rfl) Try.func4
    (ChangeSpec.witness6 (enc := enc) (C := Try.checked) false ⟨#[], #[.string ⟨#[]⟩, .slice none 0 0, .int .i64 0, .int .i64 0], []⟩ 8 (by kernel_rfl) (by kernel_rfl) (by kernel_rfl) (by kernel_rfl)) ?_
  intro W base args ds gs before hval0 hW hcnd hsz0 _
  have hval : ∀ (j : Nat) t v, Try.f4.params[j]? = some t → args[j]? = some v → Value.okWide Try.prog W .any base t v := hval0
  have hW' := hW
  obtain ⟨p, q, hA0, hV, rfl, hfz, hnd⟩ := hW
  have hA : DataW.TrodAll enc Try.prog W 0 (fun _ => true) true Try.f4.params.toList args.toList ds p := hA0
  have hsz : (DataW.weightsEach Try.prog (Try.f4.params.toList ++ Rows.diskBeginsSpec.plain.varTypes Try.prog) (ds ++ gs)).all (· ≤ reachBytes) = true := hsz0
  rw [Try.params4] at hA hval hsz
  obtain ⟨v0, vs0, d0, ds0, p0, q0, hargs, rfl, rfl, h0, r0⟩ := trodAll_cons hA
  obtain ⟨v1, vs1, d1, ds1, p1, q1, rfl, rfl, rfl, h1, r1⟩ := trodAll_cons r0
  obtain ⟨v2, vs2, d2, ds2, p2, q2, rfl, rfl, rfl, h2, r2⟩ := trodAll_cons r1
  obtain ⟨v3, vs3, d3, ds3, p3, q3, rfl, rfl, rfl, h3, r3⟩ := trodAll_cons r2
  obtain ⟨rfl, rfl, rfl⟩ := trodAll_nil r3
  obtain rfl : args = #[v0, v1, v2, v3] := by cases args; simp_all
  obtain ⟨rfl, rfl⟩ := trodVars_none hV
  obtain ⟨s0, rfl, rfl, rfl, hs0⟩ := Go.ChangeMaps.open_string Try.underlying9 (hval 0 9 v0 rfl rfl) h0
  unfold maxLen at hs0
  obtain ⟨A1, ps1, c1, rfl, hP1, hpc1, hpm1, hpn1⟩ := open_strs Try.underlying42 Try.underlying9 cells_str (hval 1 42 v1 rfl rfl) h1
  obtain ⟨a2, rfl, rfl, rfl, w2⟩ := open_int Try.underlying3 (hval 2 3 v2 rfl rfl) h2
  have b2 := i64_wf w2
  obtain ⟨a3, rfl, rfl, rfl, w3⟩ := open_int Try.underlying3 (hval 3 3 v3 rfl rfl) h3
  have b3 := i64_wf w3
  clear hA0 hval0 hsz0
  refine (walk_any s0 A1 ps1 c1 a2 a3 W hs0 (by omega) hP1 b2 b3).mono fun e W' ⟨he, hg⟩ => ?_
  subst he
  exact ⟨_, rfl, law_post progLaid hW' rfl (by rw [Try.params4]; intro t ht; simp at ht; rcases ht with rfl | rfl | rfl <;> exact ⟨by kernel_rfl, of_decide_eq_true (by kernel_rfl)⟩) rfl Try.underlying4 rfl hg⟩

theorem over : Rows.diskBeginsRow.holds Try.pinned (OpenSpec.ofChange Rows.diskBeginsSpec) :=
  OpenClaim.holds_of_wide 4 Try.f4 rfl rfl rfl rfl rfl rfl rfl ⟨rfl, rfl, rfl, rfl, rfl⟩ rfl rfl rfl rfl rfl (by kernel_rfl) Try.func4 (by kernel_rfl)
    (of_decide_eq_true (by kernel_rfl)) (by unfold Func.isWrapper; first | (rw [if_pos (by decide +kernel)]; kernel_rfl) | (rw [if_neg (by decide +kernel)]; exact ⟨rfl, rfl⟩))
    (fun os started H enc _ => lifted os started H enc)

/-- The statement. -/
theorem proved : Rows.DiskBeginsSaid :=
  over
end diskBegins
end Go.Proofs.Ytiagoaaldpajmaa
