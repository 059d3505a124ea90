/- DiskNamed: a file that is renamed has the one name or the other, and all of its bytes, wherever the power goes; the one that had that name before is there as it was, or not at all; two files, both sure, of 300 bytes; behind how many deeds the power goes; what is kept. -/
import Derived.Test.YtgfdpilgonpokaaTwoF
import Derived.Test.YtgfdpilgonpokaaInts
import Derived.Lib.SlBytesConst
namespace Go.Proofs.Ytgfdpilgonpokaa
open Go.ChangeShapes Go.WideShapes Go.ChangeAt Go.RowKit Go.BigFrame Go.Maps Go.Sort
set_option linter.unusedVariables false
namespace diskNamed
set_option maxRecDepth 100000 in
set_option maxHeartbeats 1000000 in
theorem walk_else (so st : ByteArray) (q : Nat) (A : Option Addr) (ks : List Int) (c : Nat) (w : World) (hs : so.size ≤ 9223372036854775807) (ht : st.size ≤ 9223372036854775807) (hno : 300 < so.size ∨ 300 < st.size) :
    Calls Try.prog 6 #[.string so, .string st, .int .u8 (q : Nat), .slice A ks.length c] w fun e w' => e = .returned (.bool true) ∧ Below w.heap.size w w' := by
  have hw := works_any w
  have HW := Lib.hid hw; clear hw
  by_cases h1 : 300 < so.size
  · clear hno
    go_enter Try.func6, Try.ntmps6
    go_wp2_with fail
    refine (HW.out).mono ?_; rintro e w2 ⟨rfl, hb2⟩
    go_wp2_with fail
    go_ret
    exact ⟨rfl, hb2⟩
  · have h2 : 300 < st.size := by omega
    clear hno
    go_enter Try.func6, Try.ntmps6
    go_wp2_with fail
    refine (HW.out).mono ?_; rintro e w2 ⟨rfl, hb2⟩
    go_wp2_with fail
    go_ret
    exact ⟨rfl, hb2⟩
set_option maxRecDepth 100000 in
set_option maxHeartbeats 4000000 in
theorem walk (so st : ByteArray) (q : Nat) (A : Option Addr) (ks : List Int) (c : Nat) (w : World) (hs : so.size ≤ 300) (ht : st.size ≤ 300) (hq : q ≤ 255) (hK : IntsAt w A ks) (hkc : ks.length ≤ c) (hkm : c ≤ 9223372036854775807) :
    Calls Try.prog 6 #[.string so, .string st, .int .u8 (q : Nat), .slice A ks.length c] w fun e w' => e = .returned (.bool true) ∧ Below w.heap.size w w' := by
  have hn := own_new (w0 := w) (w := w) 10000 (Below.refl _ _) (by omega)
  have hKlt : ∀ ad, A = some ad → 0 < ks.length → ad.block < w.heap.size := fun ad e h0 => by
    obtain ⟨b, off, e', hb, _⟩ := hK.2 h0
    rw [e] at e'; injection e' with e'; subst e'; exact hb
  have HN := Lib.hid hn; have HK := Lib.hid hK; have HKL := Lib.hid hKlt; clear hn hK hKlt
  go_enter Try.func6, Try.ntmps6
  go_wp2_with fail
  refine (HN.out).mono ?_; rintro e w1 ⟨rfl, ho, -⟩
  obtain ⟨p, hp0⟩ : ∃ p, p = w.heap.size := ⟨_, rfl⟩
  rw [← hp0] at ho ⊢
  clear hp0
  -- Append a
  go_wp2_with (refine wpList_tobytes rfl (.tmp 26) rfl Try.underlying9 Try.underlying36 Try.underlying5 so rfl (by unfold maxLen; omega) ?_)
  intro c1 w2 hB hb2 hc1 hcm1 hlt1
  have hlo := bl_len so
  have hlt := bl_len st
  have hap := own_append (ho.made hb2) sa ⟨w1.heap.size, 0, none⟩ (bl so) c1 hB (fun _ e => by have := (ho.mine _ e).2; simp at this) (by decide) (by omega) (by decide)
  rw [(nm1 (one := bl so) (by omega)).1, (nm1 (one := bl so) (by omega)).2, hlo] at hap
  have HAp := Lib.hid hap; have HLo := Lib.hid hlo; have HLt := Lib.hid hlt; clear hap ho hB hb2 hc1 hcm1 hlt1 hlo hlt
  go_wp2_with fail
  refine (HAp.out).mono ?_; rintro e w3 ⟨rfl, ho3, -⟩
  generalize Ext _ _ _ = F3 at ho3
  have hsy := own_sync ho3 sa (by decide) (by simp [ND])
  rw [nm2.1, nm2.2, cut_all] at hsy
  have HSy := Lib.hid hsy; clear hsy ho3
  go_wp2_with fail
  refine (HSy.out).mono ?_; rintro e w4 ⟨rfl, ho4, -⟩
  generalize Ext _ _ _ = F4 at ho4
  have HO4 := Lib.hid ho4; clear ho4
  -- Append b
  obtain ⟨c5, w5, hr5, hB, hb5, hc5, hcm5, hlt5⟩ := run_tobytes (P := Try.prog) (src := 9) (dst := 36) (e := 5) w4 st Try.underlying9 Try.underlying36 Try.underlying5 (by unfold maxLen; omega)
  have hap := own_append (HO4.out.made hb5) sb ⟨w4.heap.size, 0, none⟩ (bl st) c5 hB (fun _ e => by have := (HO4.out.mine _ e).2; simp at this) (by decide) (by rw [HLt.out]; omega) (by simp [ND])
  rw [(nm3 (two := bl st) (by show (bl so).length ≤ 300; rw [HLo.out]; exact hs) (by rw [HLt.out]; exact ht)).1, (nm3 (two := bl st) (by show (bl so).length ≤ 300; rw [HLo.out]; exact hs) (by rw [HLt.out]; exact ht)).2, HLt.out] at hap
  have HAp5 := Lib.hid hap; clear hap hB hb5 hc5 hcm5 hlt5
  go_wp2_with fail
  refine (HAp5.out).mono ?_; rintro e w6 ⟨rfl, ho6, -⟩
  generalize Ext _ _ _ = F6 at ho6
  have hsy := own_sync ho6 sb (by decide) (by simp [ND])
  rw [nm4.1, nm4.2, cut_all] at hsy
  have HSy6 := Lib.hid hsy; clear hsy ho6
  go_wp2_with fail
  refine (HSy6.out).mono ?_; rintro e w7 ⟨rfl, ho7, -⟩
  generalize Ext _ _ _ = F7 at ho7
  have kc := fun (w : World) (C : Array Value) (n c : Nat) => Lib.run_convert_bytes_const (P := Try.prog) w 36 5 C n c Try.underlying36 Try.underlying5
  obtain ⟨z, hz⟩ : ∃ z, z = q % 3 := ⟨_, rfl⟩
  have hzq : (q : Int) % 3 = (z : Int) := by omega
  have hz3 : z < 3 := by omega
  have hfl := own_fail ho7 ((z : Nat) : Int) (by omega)
  rw [show failD (ND (fAB ⟨bl so, (bl so).length, true⟩ ⟨bl st, (bl st).length, true⟩) (1 + 1 + 1 + 1) false 0) ((z : Nat) : Int) = ND (fAB ⟨bl so, (bl so).length, true⟩ ⟨bl st, (bl st).length, true⟩) 4 false (z + 1) by unfold failD ND; congr 1] at hfl
  have HFl := Lib.hid hfl; have HZ := Lib.hid hz; clear hfl ho7 hz
  go_wp2_with fail
  rw [hzq]
  clear hzq
  refine (HFl.out).mono ?_; rintro e w8 ⟨rfl, ho8, -⟩
  generalize Ext _ _ _ = F8 at ho8
  by_cases hz0 : z = 0
  · obtain rfl : z = 0 := by omega
    have hre := own_rename ho8 sa sb (by decide) (by decide) (by simp [ND])
    rw [nm6_gone.1, nm6_gone.2] at hre
    have HRe := Lib.hid hre; clear hre ho8
    go_wp2_with fail
    refine (HRe.out).mono ?_; rintro e w9 ⟨rfl, ho9, -⟩
    generalize Ext _ _ _ = F9 at ho9
    have hap := own_append (ho9.alloc (.cells (u8s [109, 111, 114, 101]).toArray 5 (4, 5))) sc ⟨w9.heap.size, 0, none⟩ [109, 111, 114, 101] 4 (Bytes.made w9 5 (4, 5) (by decide)) (fun _ e => by have := (ho9.mine _ e).2; simp at this) (by decide) (by decide) (by simp [ND])
    rw [nm7_off] at hap
    generalize appE _ _ _ = E9 at hap
    have HA9 := Lib.hid hap; clear hap ho9
    go_wp2_with fail
    refine (HA9.out).mono ?_; rintro e w10 ⟨rfl, ho10, -⟩
    generalize Ext _ _ _ = F10 at ho10
    have hcr := own_crash ho10
    rw [nm8] at hcr
    have HCr := Lib.hid hcr; clear hcr ho10
    go_wp2_with fail
    refine (HCr.out).mono ?_; rintro e w11 ⟨rfl, ho11, -⟩
    generalize Ext _ _ _ = F11 at ho11
    have hK11 : IntsAt w11 A ks := HK.out.touch (Touch.of_below (F := fun _ => False) ho11.below) (by simp)
    have hon := own_on ho11 A ks c hK11 hkc hkm (fun ad e h0 hF => by have := (ho11.mine _ hF).1; have := HKL.out ad e h0; omega) (by simp [ND])
    rw [nm9, on_two] at hon
    have HOn := Lib.hid hon; clear hon ho11 hK11
    go_wp2_with fail
    refine (HOn.out).mono ?_; rintro e w12 ⟨rfl, ho12, -⟩
    generalize Ext _ _ _ = F12 at ho12
    have hra := own_read ho12 sa (by decide)
    rw [find_two.1, find_two.2.2.1] at hra
    have HRa := Lib.hid hra; clear hra ho12
    go_wp2_with fail
    refine (HRa.out).mono ?_; rintro e w13 ⟨B1, c13, rfl, hB13, -, ho13, -⟩
    have HB13 := Lib.hid hB13; clear hB13
    have hrb := own_read ho13 sb (by decide)
    rw [find_two.2.1, find_two.2.2.2] at hrb
    have HRb := Lib.hid hrb; clear hrb ho13
    go_wp2_with fail
    refine (HRb.out).mono ?_; rintro e w14 ⟨B2, c14, rfl, hB14, -, ho14, hb14⟩
    have hcv2 := conv_bytes (P := Try.prog) Try.underlying36 Try.underlying5 Try.underlying9 hB14 c14
    have hcv1 := conv_bytes (P := Try.prog) Try.underlying36 Try.underlying5 Try.underlying9 (HB13.out.below hb14) c13
    rw [strOf_bl] at hcv1
    rw [strOf_bl] at hcv2
    have hw := works_any w14
    have HO14 := Lib.hid ho14; have HW := Lib.hid hw; clear ho14 hb14 hB14 hw
    go_wp2_with fail
    refine (HW.out).mono ?_; rintro e w15 ⟨rfl, hb15⟩
    have H15 := Lib.hid hb15; clear hb15
    go_wp2_with fail
    go_ret
    exact ⟨rfl, HO14.out.below.trans (H15.out.mono HO14.out.below.size)⟩
  · obtain ⟨f, rfl⟩ : ∃ f, z = f + 1 := ⟨z - 1, by omega⟩
    have hre := own_rename ho8 sa sb (by decide) (by decide) (by simp [ND])
    rw [nm6_well.1, nm6_well.2, cut_all] at hre
    have HRe := Lib.hid hre; clear hre ho8
    go_wp2_with fail
    refine (HRe.out).mono ?_; rintro e w9 ⟨rfl, ho9, -⟩
    generalize Ext _ _ _ = F9 at ho9
    have hap := own_append (ho9.alloc (.cells (u8s [109, 111, 114, 101]).toArray 5 (4, 5))) sc ⟨w9.heap.size, 0, none⟩ [109, 111, 114, 101] 4 (Bytes.made w9 5 (4, 5) (by decide)) (fun _ e => by have := (ho9.mine _ e).2; simp at this) (by decide) (by decide) (by simp [ND])
    obtain ⟨o', f', he⟩ := nm7 (x := ⟨bl so, (bl so).length, true⟩) (bs := [109, 111, 114, 101]) (dd := 4 + 1) (f := f + 1) (by show (bl so).length ≤ 300; rw [HLo.out]; exact hs) (by decide)
    rw [he] at hap
    generalize appE _ _ _ = E9 at hap
    have HA9 := Lib.hid hap; clear hap ho9 he
    go_wp2_with fail
    refine (HA9.out).mono ?_; rintro e w10 ⟨rfl, ho10, -⟩
    generalize Ext _ _ _ = F10 at ho10
    obtain ⟨l, hl, hle⟩ := on_b (one := bl so) (wishOf ks) ⟨[109, 111, 114, 101], 0, false⟩
    have HLE := Lib.hid hle; have HL := Lib.hid hl; clear hle hl
    have hcr := own_crash ho10
    rw [nm8] at hcr
    have HCr := Lib.hid hcr; clear hcr ho10
    go_wp2_with fail
    refine (HCr.out).mono ?_; rintro e w11 ⟨rfl, ho11, -⟩
    generalize Ext _ _ _ = F11 at ho11
    have hK11 : IntsAt w11 A ks := HK.out.touch (Touch.of_below (F := fun _ => False) ho11.below) (by simp)
    have hon := own_on ho11 A ks c hK11 hkc hkm (fun ad e h0 hF => by have := (ho11.mine _ hF).1; have := HKL.out ad e h0; omega) (by simp [ND])
    rw [nm9, HLE.out] at hon
    have HOn := Lib.hid hon; clear hon ho11 hK11
    go_wp2_with fail
    refine (HOn.out).mono ?_; rintro e w12 ⟨rfl, ho12, -⟩
    generalize Ext _ _ _ = F12 at ho12
    have hra := own_read ho12 sa (by decide)
    rw [(find_b l HL.out).1] at hra
    have HRa := Lib.hid hra; clear hra ho12
    go_wp2_with fail
    refine (HRa.out).mono ?_; rintro e w13 ⟨B1, c13, rfl, hB13, -, ho13, -⟩
    have HB13 := Lib.hid hB13; clear hB13
    have hrb := own_read ho13 sb (by decide)
    rw [(find_b l HL.out).2.1, (find_b l HL.out).2.2] at hrb
    have HRb := Lib.hid hrb; clear hrb ho13
    go_wp2_with fail
    refine (HRb.out).mono ?_; rintro e w14 ⟨B2, c14, rfl, hB14, -, ho14, hb14⟩
    have hcv2 := conv_bytes (P := Try.prog) Try.underlying36 Try.underlying5 Try.underlying9 hB14 c14
    rw [strOf_bl] at hcv2
    have hw := works_any w14
    have HO14 := Lib.hid ho14; have HW := Lib.hid hw; clear ho14 hb14 hB14 hw
    go_wp2_with fail
    refine (HW.out).mono ?_; rintro e w15 ⟨rfl, hb15⟩
    have H15 := Lib.hid hb15; clear hb15
    go_wp2_with fail
    go_ret
    exact ⟨rfl, HO14.out.below.trans (H15.out.mono HO14.out.below.size)⟩
theorem walk_any (so st : ByteArray) (q : Nat) (A : Option Addr) (ks : List Int) (c : Nat) (w : World) (hs : so.size ≤ 9223372036854775807) (ht : st.size ≤ 9223372036854775807) (hq : q ≤ 255) (hK : IntsAt w A ks) (hkc : ks.length ≤ c) (hkm : c ≤ 9223372036854775807) :
    Calls Try.prog 6 #[.string so, .string st, .int .u8 (q : Nat), .slice A ks.length c] w fun e w' => e = .returned (.bool true) ∧ Below w.heap.size w w' := by
  by_cases h : 300 < so.size ∨ 300 < st.size
  · exact walk_else so st q A ks c w hs ht h
  · exact walk so st q A ks c w (by omega) (by omega) hq hK hkc hkm

set_option maxRecDepth 100000 in
theorem lifted (os : Os) (started : os.Started) (H : Type) (enc : TypeId × Value → H) :
    ReturnsInHanded {} Try.checked os 6 .any (Rows.diskNamedSpec.pre6 enc Try.prog Try.f6 Rows.diskNamedRow.domain false) (Rows.diskNamedSpec.post enc Try.prog Try.f6 false true false false) := by
  refine returnsInHanded_of_change_sized (C := Try.checked) ownKnob_none started (by kernel_rfl) Try.func6
    (ChangeSpec.witness6 (enc := enc) (C := Try.checked) false ⟨#[], #[.string ⟨#[]⟩, .string ⟨#[]⟩, .int .u8 0, .slice none 0 0], []⟩ 8 (by kernel_rfl) (by kernel_rfl) (by kernel_rfl) (by kernel_rfl)) ?_
  intro W base args ds gs before hval0 hW hcnd hsz0 _
  have hval : ∀ (j : Nat) t v, Try.f6.params[j]? = some t → args[j]? = some v → Value.okWide Try.prog W .any base t v := hval0
  have hW' := hW
  obtain ⟨p, q, hA0, hV, rfl, hfz, hnd⟩ := hW
  have hA : DataW.TrodAll enc Try.prog W 0 (fun _ => true) true Try.f6.params.toList args.toList ds p := hA0
  have hsz : (DataW.weightsEach Try.prog (Try.f6.params.toList ++ Rows.diskNamedSpec.plain.varTypes Try.prog) (ds ++ gs)).all (· ≤ reachBytes) = true := hsz0
  rw [Try.params6] at hA hval hsz
  obtain ⟨v0, vs0, d0, ds0, p0, q0, hargs, rfl, rfl, h0, r0⟩ := trodAll_cons hA
  obtain ⟨v1, vs1, d1, ds1, p1, q1, rfl, rfl, rfl, h1, r1⟩ := trodAll_cons r0
  obtain ⟨v2, vs2, d2, ds2, p2, q2, rfl, rfl, rfl, h2, r2⟩ := trodAll_cons r1
  obtain ⟨v3, vs3, d3, ds3, p3, q3, rfl, rfl, rfl, h3, r3⟩ := trodAll_cons r2
  obtain ⟨rfl, rfl, rfl⟩ := trodAll_nil r3
  obtain rfl : args = #[v0, v1, v2, v3] := by cases args; simp_all
  obtain ⟨rfl, rfl⟩ := trodVars_none hV
  obtain ⟨s0, rfl, rfl, rfl, hs0⟩ := Go.ChangeMaps.open_string Try.underlying9 (hval 0 9 v0 rfl rfl) h0
  unfold maxLen at hs0
  obtain ⟨s1, rfl, rfl, rfl, hs1⟩ := Go.ChangeMaps.open_string Try.underlying9 (hval 1 9 v1 rfl rfl) h1
  unfold maxLen at hs1
  obtain ⟨a2, rfl, rfl, rfl, w2⟩ := open_int Try.underlying5 (hval 2 5 v2 rfl rfl) h2
  have b2 := u8_wf w2
  obtain ⟨n2, rfl⟩ := Int.eq_ofNat_of_zero_le b2.1
  obtain ⟨A3, ks3, c3, rfl, hK3, hkc3, hkm3, hkn3⟩ := open_ints_at Try.underlying30 Try.underlying3 cells_int (hval 3 30 v3 rfl rfl) h3
  clear hA0 hval0 hsz0
  refine (walk_any s0 s1 n2 A3 ks3 c3 W hs0 hs1 (by omega) hK3 hkc3 hkm3).mono fun e W' ⟨he, hg⟩ => ?_
  subst he
  exact ⟨_, rfl, law_post progLaid hW' rfl (by rw [Try.params6]; intro t ht; simp at ht; rcases ht with rfl | rfl | rfl <;> exact ⟨by kernel_rfl, of_decide_eq_true (by kernel_rfl)⟩) rfl Try.underlying4 rfl hg⟩

theorem over : Rows.diskNamedRow.holds Try.pinned (OpenSpec.ofChange Rows.diskNamedSpec) :=
  OpenClaim.holds_of_wide 6 Try.f6 rfl rfl rfl rfl rfl rfl rfl ⟨rfl, rfl, rfl, rfl, rfl⟩ rfl rfl rfl rfl rfl (by kernel_rfl) Try.func6 (by kernel_rfl)
    (of_decide_eq_true (by kernel_rfl)) (by unfold Func.isWrapper; first | (rw [if_pos (by decide +kernel)]; kernel_rfl) | (rw [if_neg (by decide +kernel)]; exact ⟨rfl, rfl⟩))
    (fun os started H enc _ => lifted os started H enc)

/-- The statement. -/
theorem proved : Rows.DiskNamedSaid :=
  over
end diskNamed
end Go.Proofs.Ytgfdpilgonpokaa
