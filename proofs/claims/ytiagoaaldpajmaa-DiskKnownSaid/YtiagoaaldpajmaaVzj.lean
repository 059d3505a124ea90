/- Several texts in one: Others. -/
import Derived.Test.YtiagoaaldpajmaaVze
namespace Go.Proofs.Ytiagoaaldpajmaa
open Go.ChangeShapes Go.WideShapes Go.ChangeAt Go.RowKit Go.BigFrame Go.Maps Go.Sort
set_option linter.unusedVariables false
/-- the name of the file that is kept -/
abbrev kf : ByteArray := ⟨#[107, 101, 112, 116]⟩
/-- a disk that has the kept file, all of it sure -/
structure Keeps (kept : List Nat) (k : Nat) (d : DM) : Prop where
  room : d.room = 10000
  deeds : d.deeds ≤ 2 + k
  file : getF kf.data.toList d.fs = some ⟨kept, kept.length, true⟩
theorem Keeps.next {kept : List Nat} {k : Nat} {d : DM} (h : Keeps kept k d) (x : De) (h1 : x.name ≠ kf) (h2 : x.b ≠ kf) : Keeps kept (k + 1) (doD d x) := by
  have hn := Near.do_ d x
  have hne : ∀ s : ByteArray, s ≠ kf → kf.data.toList ≠ s.data.toList := fun s hs e => hs (name_eq e.symm)
  exact ⟨hn.room.trans h.room, by have := hn.deeds; have := h.deeds; omega, kept_do x h.file rfl rfl (hne _ h1) (hne _ h2)⟩
theorem Keeps.skip {kept : List Nat} {k : Nat} {d : DM} (h : Keeps kept k d) : Keeps kept (k + 1) d := ⟨h.room, by have := h.deeds; omega, h.file⟩
theorem keeps_start (kept : List Nat) (hl : kept.length ≤ 300) : appE (newD 10000) kf kept.length = 0 ∧ syncE (appD (newD 10000) kf kept) kf = 0 ∧ Keeps kept 0 (syncD (appD (newD 10000) kf kept) kf) ∧ Fine (appD (newD 10000) kf kept) := by
  have h1 : lookE false [kf] = 0 := by decide
  have hA : appE (newD 10000) kf kept.length = 0 := by
    unfold appE
    have e1 : (newD 10000).off = false := rfl
    have e2 : (newD 10000).fs = [] := rfl
    have e3 : (newD 10000).room = 10000 := rfl
    have e4 : (newD 10000).fuse = 0 := rfl
    rw [e1, h1, e2, e3, e4]
    simp [lenF, getF, usedF]
    omega
  have hD : appD (newD 10000) kf kept = ⟨10000, [(kf.data.toList, ⟨kept, 0, false⟩)], 1, false, 0⟩ := by
    unfold appD
    have e1 : (newD 10000).off = false := rfl
    have e2 : (newD 10000).fs = [] := rfl
    have e3 : (newD 10000).room = 10000 := rfl
    rw [e1, h1, e2, e3]
    rw [if_neg (by decide), if_neg (by simp [lenF, getF]; omega), if_neg (by simp [usedF]; omega)]
    simp [newD, DM.tick, appendF, putF, delF, insF, getF, appF, newF]
    rfl
  refine ⟨hA, ?_⟩
  rw [hD]
  have hf : findE ⟨10000, [(kf.data.toList, ⟨kept, 0, false⟩)], 1, false, 0⟩ kf [] = 0 := by
    unfold findE noneE
    rw [h1]; simp [getF]
  unfold syncE syncD deedE
  rw [hf]
  refine ⟨rfl, ⟨rfl, Nat.le_refl _, ?_⟩, ⟨(by decide : (1 : Nat) ≤ 1000000000), by simp, ?_, ?_, by simp [usedF]; omega⟩⟩
  · simp [DM.deed, syncF, getF, putF, delF, insF, cutF]
  · intro n x hx
    unfold getF at hx
    simp only [List.find?_cons, List.find?_nil] at hx
    split at hx
    · simp at hx; rw [← hx]; show kept.length ≤ _; omega
    · simp at hx
  · intro n x hx
    unfold getF at hx
    simp only [List.find?_cons, List.find?_nil] at hx
    split at hx
    · simp at hx; rw [← hx]; exact Nat.zero_le _
    · simp at hx
/-- the power goes, and it is on again -/
theorem keeps_end {kept : List Nat} {k : Nat} {d : DM} (h : Keeps kept k d) (ks : List Int) : findE (onD (crashD d) ks) kf [] = 0 ∧ readB (onD (crashD d) ks) kf = kept := by
  have hg : getF kf.data.toList (onD (crashD d) ks).fs = some ⟨kept, kept.length, true⟩ := by
    unfold onD crashD
    exact kept_on _ rfl rfl _ _ h.file
  have hf : findE (onD (crashD d) ks) kf [] = 0 := by
    unfold findE noneE
    rw [hg, show (onD (crashD d) ks).off = false from rfl, show lookE false [kf] = 0 by decide]
    rfl
  refine ⟨hf, ?_⟩
  unfold readB
  rw [if_pos hf, hg]
theorem ne_kf {s : ByteArray} (h : (s.toList == [107, 101, 112, 116]) = false) : s ≠ kf := by
  rintro rfl
  rw [Lib.toList_data] at h
  cases h
namespace diskOthers
set_option maxRecDepth 100000 in
set_option maxHeartbeats 1000000 in
theorem walk_else (kp : ByteArray) (A : Option Addr) (l : List De) (c : Nat) (KA : Option Addr) (ks : List Int) (kc : Nat) (w : World) (hs : kp.size ≤ 9223372036854775807) (hD : Deeds w A l) (hc : l.length ≤ c) (hm : c ≤ 9223372036854775807) (hno : few l = false ∨ 300 < kp.size) :
    Calls Try.prog 5 #[.string kp, .slice A l.length c, .slice KA ks.length kc] w fun e w' => e = .returned (.bool true) ∧ Below w.heap.size w w' := by
  have hfw := few_any w A l c hD hc hm
  have hw := works_any w
  have HW := Lib.hid hw; clear hw hD
  cases hf : few l with
  | false =>
    rw [hf] at hfw
    have HF := Lib.hid hfw; clear hfw hno hf
    go_enter Try.func5, Try.ntmps5
    go_wp2_with fail
    refine (HF.out).mono ?_; rintro e w1 ⟨rfl, rfl⟩
    go_wp2_with fail
    refine (HW.out).mono ?_; rintro e w2 ⟨rfl, hb2⟩
    go_wp2_with fail
    go_ret
    exact ⟨rfl, hb2⟩
  | true =>
    have h3 : 300 < kp.size := by rcases hno with h | h; rw [hf] at h; cases h; exact h
    rw [hf] at hfw
    have HF := Lib.hid hfw; clear hfw hno hf
    go_enter Try.func5, Try.ntmps5
    go_wp2_with fail
    refine (HF.out).mono ?_; rintro e w1 ⟨rfl, rfl⟩
    go_wp2_with fail
    refine (HW.out).mono ?_; rintro e w2 ⟨rfl, hb2⟩
    go_wp2_with fail
    go_ret
    exact ⟨rfl, hb2⟩
set_option maxRecDepth 100000 in
set_option maxHeartbeats 8000000 in
theorem walk (kp : ByteArray) (A : Option Addr) (l : List De) (c : Nat) (KA : Option Addr) (ks : List Int) (kc : Nat) (w : World) (hs : kp.size ≤ 300) (hD : Deeds w A l) (hc : l.length ≤ c) (hm : c ≤ 9223372036854775807) (hf : few l = true) (hK : IntsAt w KA ks) (hkc : ks.length ≤ kc) (hkm : kc ≤ 9223372036854775807) :
    Calls Try.prog 5 #[.string kp, .slice A l.length c, .slice KA ks.length kc] w fun e w' => e = .returned (.bool true) ∧ Below w.heap.size w w' := by
  have hfw := few_any w A l c hD hc hm
  rw [hf] at hfw
  obtain ⟨hl50, hsm⟩ := few_out hf
  have hn := own_new (w0 := w) (w := w) 10000 (Below.refl _ _) (by omega)
  have hlen := bl_len kp
  have hst := keeps_start (bl kp) (by omega)
  have HF := Lib.hid hfw; have HN := Lib.hid hn; have HD := Lib.hid hD; have HS := Lib.hid hsm; have HK := Lib.hid hK; have HLen := Lib.hid hlen; have HSt := Lib.hid hst; clear hfw hn hD hsm hK hlen hst
  go_enter Try.func5, Try.ntmps5
  go_wp2_with fail
  refine (HF.out).mono ?_; rintro e w1 ⟨rfl, rfl⟩
  go_wp2_with fail
  refine (HN.out).mono ?_; rintro e w1 ⟨rfl, ho, -⟩
  obtain ⟨p, hp0⟩ : ∃ p, p = w.heap.size := ⟨_, rfl⟩
  rw [← hp0] at ho ⊢
  clear hp0
  have hrn := ref_new w1 10000 (by omega)
  have HRn := Lib.hid hrn; have HO := Lib.hid ho; clear hrn ho
  go_wp2_with fail
  refine (HRn.out).mono ?_; rintro e w2 ⟨rfl, hR, hb2, hz2⟩
  obtain ⟨q, hq0⟩ : ∃ q, q = w1.heap.size := ⟨_, rfl⟩
  have hp2 : Pair w w2 p q (newD 10000) (newD 10000) (fun _ => False) := by
    rw [← hq0] at hR
    refine ⟨_, _, _, _, _, HO.out.made hb2, hR, by simp, by rw [hq0]; exact HO.out.below.size, fun k hk => ⟨by simp, by have := (HO.out.mine k hk).2; omega⟩, by simp⟩
  rw [← hq0]
  have HP2 := Lib.hid hp2; clear hp2 hR hb2 hz2 hq0
  go_wp2_with (refine wpList_tobytes rfl (.tmp 24) rfl Try.underlying9 Try.underlying36 Try.underlying5 kp rfl (by unfold maxLen; omega) ?_)
  intro c3 w3 hB3 hb3 hc3 hcm3 hlt3
  have hp3 := HP2.out.more hb3
  have hap := pair_append hp3 kf ⟨w2.heap.size, 0, none⟩ (bl kp) c3 hB3 (.inr ⟨Nat.le_refl _, hlt3⟩) (by decide) (by rw [HLen.out]; omega) (by decide)
  rw [HSt.out.1, HLen.out] at hap
  have HAp := Lib.hid hap; clear hap hp3 hB3 hb3 hc3 hcm3 hlt3
  go_wp2_with fail
  refine (HAp.out).mono ?_; rintro e w4 ⟨rfl, hp4, -⟩
  have hdd := HSt.out.2.2.2.deeds
  have hsy := pair_sync hp4 kf (by decide) hdd
  rw [HSt.out.2.1] at hsy
  have HSy := Lib.hid hsy; clear hsy hp4 hdd
  go_wp2_with fail
  refine (HSy.out).mono ?_; rintro e w5 ⟨rfl, hp5, -⟩
  have HP5 := Lib.hid (hp5.less (Y := fun _ => False) (by simp)); clear hp5
  go_wp2_with (refine wpList_tobytes rfl (.tmp 34) rfl Try.underlying9 Try.underlying36 Try.underlying5 kp rfl (by unfold maxLen; omega) ?_)
  intro c6 w6 hB6 hb6 hc6 hcm6 hlt6
  have hp6 := HP5.out.made hb6
  have hfi : Fine (newD 10000) := ⟨by decide, by decide, by simp [newD, getF], by simp [newD, getF], by decide⟩
  have har := pref_append hp6 hfi kf ⟨w5.heap.size, 0, none⟩ (bl kp) c6 hB6 (by decide) (by rw [HLen.out]; omega)
  rw [HLen.out] at har
  have HAr := Lib.hid har; clear har hp6 hB6 hb6 hc6 hcm6 hlt6 hfi
  go_wp2_with fail
  refine (HAr.out).mono ?_; rintro e w7 ⟨rfl, hp7, -⟩
  have hfi2 := HSt.out.2.2.2
  have hsr := pref_sync hp7 hfi2 kf (by decide)
  have HSr := Lib.hid hsr; clear hsr hp7 hfi2
  go_wp2_with fail
  refine (HSr.out).mono ?_; rintro e w8 ⟨rfl, hp8, -⟩
  obtain ⟨d8, hd8⟩ : ∃ d8, d8 = syncD (appD (newD 10000) kf (bl kp)) kf := ⟨_, rfl⟩
  have hk8 := HSt.out.2.2.1
  rw [← hd8] at hp8 hk8
  have HP8 := Lib.hid hp8; have HK8 := Lib.hid hk8; clear hp8 hk8 hd8
  go_wp2_with fail
  go_loopw [9] (fun i wr => ∃ (k : Nat) (d : DM), k ≤ l.length ∧ i = .int .i64 k ∧ Pair w wr p q d d (fun _ => False) ∧ Keeps (bl kp) k d) (fun i _ => l.length - (intOf i).toNat)
  case atStart => exact ⟨0, d8, Nat.zero_le _, rfl, HP8.out, HK8.out⟩
  case round =>
    obtain ⟨k, d, hk, rfl, hp, hkeep⟩ := hrel
    by_cases hlt : k < l.length
    · have hDr := HD.out.below hp.below
      obtain ⟨b, off, hA, hbl, hci⟩ := HD.out.2 (by omega)
      obtain ⟨b', off', hA', -, hci'⟩ := hDr.2 (by omega)
      rw [hA] at hA'
      injection hA' with hA'
      injection hA' with hb' ho'
      subst hb'; subst ho'
      have hcx := hci' k l[k] (List.getElem?_eq_getElem hlt)
      have hsz := HS.out l[k] (List.getElem_mem hlt)
      obtain ⟨hok, hKx⟩ := hDr.1 l[k] (List.getElem_mem hlt)
      have hKo := (HD.out.1 l[k] (List.getElem_mem hlt)).2
      subst hA
      generalize l[k] = x at hcx hsz hok hKx hKo
      have hld := load_de wr hcx
      obtain ⟨hc0, hc1, hc2, hc3, hc4⟩ := hcx
      have hds : d.deeds ≤ 1000000 := by have := hkeep.deeds; omega
      have hrm : d.room ≤ 1000000000000 := by rw [hkeep.room]; decide
      have hdo := does_any hp x hok (by omega) hKx (fun ad e h0 => by
        obtain ⟨kb, ko, e2, hlt2, _⟩ := hKo.2 h0
        rw [e] at e2; injection e2 with e2; subst e2; exact hlt2) hds hrm
      rw [show x.val = .agg #[.int .u8 (x.kind : Nat), .string x.name, .string x.b, .int .i64 x.n, .slice x.ka x.keep.length x.kc] from rfl] at hdo
      have HDo := Lib.hid hdo; have HP := Lib.hid hp; have HKe := Lib.hid hkeep; have HLd := Lib.hid hld
      have hkd := hok.kind
      clear hdo hp hkeep hDr hci hci' hok hKx hKo hld hds hrm
      cases hq1 : (x.name.toList == [107, 101, 112, 116]) with
      | true =>
        have hq1' : (x.name.toList != [107, 101, 112, 116]) = false := by rw [bne, hq1]; rfl
        go_wp2_with fail
        go_roundw
        case rel => exact ⟨k + 1, d, by omega, by go_num, HP.out, HKe.out.skip⟩
        case measure => simp [intOf]; omega
      | false =>
        have hq1' : (x.name.toList != [107, 101, 112, 116]) = true := by rw [bne, hq1]; rfl
        cases hq2 : (x.b.toList == [107, 101, 112, 116]) with
        | true =>
          have hq2' : (x.b.toList != [107, 101, 112, 116]) = false := by rw [bne, hq2]; rfl
          go_wp2_with fail
          go_roundw
          case rel => exact ⟨k + 1, d, by omega, by go_num, HP.out, HKe.out.skip⟩
          case measure => simp [intOf]; omega
        | false =>
          have hq2' : (x.b.toList != [107, 101, 112, 116]) = true := by rw [bne, hq2]; rfl
          have hnx := HKe.out.next x (ne_kf hq1) (ne_kf hq2)
          have HNx := Lib.hid hnx; clear hnx
          cases hq3 : ((x.kind : Int) == 9) with
          | true =>
            have hq3' : ((x.kind : Int) != 9) = false := by rw [bne, hq3]; rfl
            go_wp2_with fail
            go_roundw
            case rel => exact ⟨k + 1, d, by omega, by go_num, HP.out, HKe.out.skip⟩
            case measure => simp [intOf]; omega
          | false =>
            have hq3' : ((x.kind : Int) != 9) = true := by rw [bne, hq3]; rfl
            go_wp2_with fail
            refine (HDo.out).mono ?_; rintro e w9 ⟨rfl, hp9, -⟩
            have HP9 := Lib.hid hp9; clear hp9
            go_wp2_with fail
            go_roundw
            case rel => exact ⟨k + 1, doD d x, by omega, by go_num, HP9.out, HNx.out⟩
            case measure => simp [intOf]; omega
    · have hcr := pair_crash hp
      have HCr := Lib.hid hcr; have hke := keeps_end hkeep ks; have HKe := Lib.hid hke; have hdd := hkeep.deeds; clear hcr hp hkeep hke
      go_wp2_with fail
      refine (HCr.out).mono ?_; rintro e w9 ⟨rfl, hp9, -⟩
      have hK9 : IntsAt w9 KA ks := HK.out.touch (Touch.of_below (F := fun _ => False) hp9.below) (by simp)
      have hon := pair_on hp9 KA ks kc hK9 hkc hkm (fun ad e h0 => .inr (by
        obtain ⟨kb, ko, e2, hlt2, _⟩ := HK.out.2 h0
        rw [e] at e2; injection e2 with e2; subst e2; exact hlt2)) (by show d.deeds ≤ _; omega)
      have HOn := Lib.hid hon; clear hon hp9 hK9
      go_wp2_with fail
      refine (HOn.out).mono ?_; rintro e w10 ⟨rfl, hp10, -⟩
      have hrd := pair_read hp10 kf (by decide)
      rw [HKe.out.1, HKe.out.2, HLen.out] at hrd
      have HRd := Lib.hid hrd; have HP10 := Lib.hid hp10; clear hrd hp10
      go_wp2_with fail
      refine (HRd.out).mono ?_; rintro e w11 ⟨B, cB, rfl, hB, -, hb11⟩
      dsimp only
      have hcv := conv_bytes (P := Try.prog) Try.underlying36 Try.underlying5 Try.underlying9 hB cB
      rw [HLen.out, strOf_bl] at hcv
      have hw := works_any w11
      have HW := Lib.hid hw; have HB11 := Lib.hid (HP10.out.below.trans (hb11.mono HP10.out.below.size)); clear hw hB hb11
      go_wp2_with fail
      refine (HW.out).mono ?_; rintro e w12 ⟨rfl, hb12⟩
      have HB12 := Lib.hid hb12; clear hb12
      go_wp2_with fail
      go_ret
      exact ⟨rfl, HB11.out.trans (HB12.out.mono HB11.out.size)⟩
theorem walk_any (kp : ByteArray) (A : Option Addr) (l : List De) (c : Nat) (KA : Option Addr) (ks : List Int) (kc : Nat) (w : World) (hs : kp.size ≤ 9223372036854775807) (hD : Deeds w A l) (hc : l.length ≤ c) (hm : c ≤ 9223372036854775807) (hK : IntsAt w KA ks) (hkc : ks.length ≤ kc) (hkm : kc ≤ 9223372036854775807) :
    Calls Try.prog 5 #[.string kp, .slice A l.length c, .slice KA ks.length kc] w fun e w' => e = .returned (.bool true) ∧ Below w.heap.size w w' := by
  cases h : few l with
  | false => exact walk_else kp A l c KA ks kc w hs hD hc hm (.inl h)
  | true =>
    by_cases h3 : 300 < kp.size
    · exact walk_else kp A l c KA ks kc w hs hD hc hm (.inr h3)
    · exact walk kp A l c KA ks kc w (by omega) hD hc hm h hK hkc hkm

set_option maxRecDepth 100000 in
theorem lifted (os : Os) (started : os.Started) (H : Type) (enc : TypeId × Value → H) :
    ReturnsInHanded {} Try.checked os 5 .any (Rows.diskOthersSpec.pre6 enc Try.prog Try.f5 Rows.diskOthersRow.domain false) (Rows.diskOthersSpec.post enc Try.prog Try.f5 false true false false) := by
  refine returnsInHanded_of_change_sized (C := Try.checked) ownKnob_none started (by kernel_rfl) Try.func5
    (ChangeSpec.witness6 (enc := enc) (C := Try.checked) false ⟨#[], #[.string ⟨#[]⟩, .slice none 0 0, .slice none 0 0], []⟩ 8 (by kernel_rfl) (by kernel_rfl) (by kernel_rfl) (by kernel_rfl)) ?_
  intro W base args ds gs before hval0 hW hcnd hsz0 _
  have hval : ∀ (j : Nat) t v, Try.f5.params[j]? = some t → args[j]? = some v → Value.okWide Try.prog W .any base t v := hval0
  have hW' := hW
  obtain ⟨p, q, hA0, hV, rfl, hfz, hnd⟩ := hW
  have hA : DataW.TrodAll enc Try.prog W 0 (fun _ => true) true Try.f5.params.toList args.toList ds p := hA0
  have hsz : (DataW.weightsEach Try.prog (Try.f5.params.toList ++ Rows.diskOthersSpec.plain.varTypes Try.prog) (ds ++ gs)).all (· ≤ reachBytes) = true := hsz0
  rw [Try.params5] at hA hval hsz
  obtain ⟨v0, vs0, d0, ds0, p0, q0, hargs, rfl, rfl, h0, r0⟩ := trodAll_cons hA
  obtain ⟨v1, vs1, d1, ds1, p1, q1, rfl, rfl, rfl, h1, r1⟩ := trodAll_cons r0
  obtain ⟨v2, vs2, d2, ds2, p2, q2, rfl, rfl, rfl, h2, r2⟩ := trodAll_cons r1
  obtain ⟨rfl, rfl, rfl⟩ := trodAll_nil r2
  obtain rfl : args = #[v0, v1, v2] := by cases args; simp_all
  obtain ⟨rfl, rfl⟩ := trodVars_none hV
  obtain ⟨s0, rfl, rfl, rfl, hs0⟩ := Go.ChangeMaps.open_string Try.underlying9 (hval 0 9 v0 rfl rfl) h0
  unfold maxLen at hs0
  obtain ⟨A1, l1, c1, rfl, hL1, hlc1, hcm1⟩ := open_deeds (hval 1 23 v1 rfl rfl) h1
  obtain ⟨A2, ks2, c2, rfl, hK2, hkc2, hkm2, hkn2⟩ := open_ints_at Try.underlying30 Try.underlying3 cells_int (hval 2 30 v2 rfl rfl) h2
  clear hA0 hval0 hsz0
  refine (walk_any s0 A1 l1 c1 A2 ks2 c2 W hs0 hL1 hlc1 hcm1 hK2 hkc2 hkm2).mono fun e W' ⟨he, hg⟩ => ?_
  subst he
  exact ⟨_, rfl, law_post progLaid hW' rfl (by rw [Try.params5]; intro t ht; simp at ht; rcases ht with rfl | rfl | rfl <;> exact ⟨by kernel_rfl, of_decide_eq_true (by kernel_rfl)⟩) rfl Try.underlying4 rfl hg⟩

theorem over : Rows.diskOthersRow.holds Try.pinned (OpenSpec.ofChange Rows.diskOthersSpec) :=
  OpenClaim.holds_of_wide 5 Try.f5 rfl rfl rfl rfl rfl rfl rfl ⟨rfl, rfl, rfl, rfl, rfl⟩ rfl rfl rfl rfl rfl (by kernel_rfl) Try.func5 (by kernel_rfl)
    (of_decide_eq_true (by kernel_rfl)) (by unfold Func.isWrapper; first | (rw [if_pos (by decide +kernel)]; kernel_rfl) | (rw [if_neg (by decide +kernel)]; exact ⟨rfl, rfl⟩))
    (fun os started H enc _ => lifted os started H enc)

/-- The statement. -/
theorem proved : Rows.DiskOthersSaid :=
  over
end diskOthers
end Go.Proofs.Ytiagoaaldpajmaa
