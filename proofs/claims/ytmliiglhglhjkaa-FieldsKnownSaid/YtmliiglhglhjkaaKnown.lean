/- FieldsKnown: closed: numbers about their bounds, what is asked for about its bounds, and nil ones. -/
import Derived.Test.YtmliiglhglhjkaaWritten
import Derived.Test.YtmliiglhglhjkaaBoth
import Derived.Test.YtmliiglhglhjkaaUnread
import Derived.Test.YtmliiglhglhjkaaSpoilt
import Derived.Test.YtmliiglhglhjkaaAsk
import Derived.Test.YtmliiglhglhjkaaNil
import Derived.Lib.SlBytesConst
namespace Go.Proofs.Ytmliiglhglhjkaa
open Go.ChangeShapes Go.WideShapes Go.ChangeAt Go.RowKit Go.BigFrame
set_option linter.unusedVariables false
namespace fieldsKnown
def u64s : List Int := [0, 1, 127, 128, 255, 256, 32768, 65535, 65536, 2147483648, 4294967295, 4294967296, 9223372036854775808, 18446744073709551615]
def i8s : List Int := [1, 2, 4, 8, 0, 3, -1]
theorem own_ne {w : World} {base : Nat} {v : Value} {n b : Nat} {xs l : List Value} {t : TypeId} (h : w.ownsRow base 42 3 v n xs) (hr : Row w b t l) (ht : t ≠ 42) : some b ≠ v.ownBlock := by
  obtain ⟨_, ⟨rfl, _⟩ | ⟨g, cap, cur, rfl, _, hh, _⟩⟩ := h
  · intro e; cases e
  · intro e
    injection e with e
    subst e
    unfold Row at hr
    rw [hr] at hh; injection hh with hh; injection hh with _ ht'; exact ht ht'
theorem own_cap {w : World} {base : Nat} {v : Value} {n : Nat} {ts : List Th} (h : w.ownsRow base 42 3 v n (rowOf ts)) (hw : ∀ t ∈ ts, t.n < 18446744073709551616 ∧ t.b.size ≤ 140737488351232) :
    ∃ A c, v = .slice A ts.length c ∧ Things w A ts ∧ ts.length ≤ c ∧ (A = none → c = 0) := by
  have hl : ts.length = n := by have := h.1; rw [rowOf_len] at this; omega
  obtain ⟨A, c, e, hT⟩ := Things.of_own h hw
  refine ⟨A, c, e, hT, ?_, ?_⟩
  · obtain ⟨_, ⟨e2, h0⟩ | ⟨g, cap, cur, e2, _, _, hc, _⟩⟩ := h
    · omega
    · rw [e] at e2; injection e2 with _ _ e3; omega
  · rintro rfl
    obtain ⟨_, ⟨e2, h0⟩ | ⟨g, cap, cur, e2, _, _, hc, _⟩⟩ := h
    · rw [e] at e2; injection e2
    · rw [e] at e2; injection e2 with e3; cases e3
theorem one_thing (w : World) (z : Int) (n : Nat) (B : ByteArray) (hn : n < 18446744073709551616) (hB : B.size ≤ 140737488351232) : Things (w.alloc (.cells #[.int .i8 z, .int .u64 (n : Nat), .string B] 42)) (some ⟨w.heap.size, 0, none⟩) [⟨z, n, B⟩] := by
  have hr : Row (w.alloc (.cells #[.int .i8 z, .int .u64 (n : Nat), .string B] 42)) w.heap.size 42 [.int .i8 z, .int .u64 (n : Nat), .string B] := Row.made _ _ _
  refine ⟨by intro t ht; obtain rfl : t = ⟨z, n, B⟩ := by simpa using ht
             exact ⟨hn, hB⟩, fun _ => ⟨w.heap.size, 0, rfl, hr.lt, fun i t hi => ?_⟩⟩
  match i with
  | 0 =>
    obtain rfl : ⟨z, n, B⟩ = t := by simpa using hi
    exact ⟨hr.cell 0, hr.cell 1, hr.cell 2⟩
  | _ + 1 => simp at hi
theorem abz (n : Nat) : ((⟨#[97, 98, 0]⟩ : ByteArray).extract 0 (n % 4)).size ≤ 140737488351232 := by
  show ((⟨#[97, 98, 0]⟩ : ByteArray).extract 0 (n % 4)).data.size ≤ _
  simp; omega
def Fine (ts : List Th) : Prop := ∀ t ∈ ts, t.n < 18446744073709551616 ∧ t.b.size ≤ 140737488351232
set_option maxRecDepth 100000 in
set_option maxHeartbeats 20000000 in
theorem walk (w : World) :
    Calls Try.prog 8 #[] w fun e w' => e = .returned (.bool true) ∧ Below w.heap.size w w' := by
  have kc := fun (w : World) (C : Array Value) (n c : Nat) => Lib.run_convert_bytes_const (P := Try.prog) w 23 5 C n c Try.underlying23 Try.underlying5
  go_enter Try.func8, Try.ntmps8
  go_wp2_with fail
  go_loopw [1, 11] (fun l i wr => ∃ (k : Nat) (ts : List Th), k ≤ 14 ∧ i = .int .i64 k ∧ wr.ownsRow w.heap.size 42 3 l ts.length (rowOf ts) ∧ Fine ts ∧ ts.length ≤ 40 ∧ Row wr w.heap.size 40 (u64s.map (Value.int .u64)) ∧ Below w.heap.size w wr) (fun _ i _ => 14 - (intOf i).toNat)
  case atStart => exact ⟨0, [], by omega, rfl, World.ownsRow_nil _ _ _ _, (by intro t h; cases h), by simp, Row.made _ _ _, (Below.refl _ _).alloc (Nat.le_refl _) _⟩
  case round =>
    obtain ⟨k, ts, hk, rfl, hown, hfine, hlen, hrow, hb⟩ := hrel
    by_cases hlt : k < 14
    · have hc := hrow.cell k
      rw [List.getElem?_map] at hc
      obtain ⟨n, hn, hn1, hn2⟩ : ∃ n : Nat, u64s[k]? = some (n : Int) ∧ n < 18446744073709551616 ∧ True := by
        match k, hlt with
        | 0, _ | 1, _ | 2, _ | 3, _ | 4, _ | 5, _ | 6, _ | 7, _ | 8, _ | 9, _ | 10, _ | 11, _ | 12, _ | 13, _ => exact ⟨_, rfl, by decide, trivial⟩
      rw [hn, Option.map_some] at hc
      have H := Lib.hid (And.intro hown (And.intro hrow hb)); clear hown hrow hb hn
      have htk : decide ((k : Int) < 14) = true := decide_eq_true (by omega)
      have hkn : k ≤ 14 := hk
      go_wp2_with fail
      have hb1 : Below w.heap.size w (wr.alloc (.cells (i8s.map (Value.int .i8)).toArray 39)) := H.out.2.2.alloc H.out.2.2.size _
      have hr1 : Row (wr.alloc (.cells (i8s.map (Value.int .i8)).toArray 39)) wr.heap.size 39 (i8s.map (Value.int .i8)) := Row.made _ _ _
      have hr0 : Row (wr.alloc (.cells (i8s.map (Value.int .i8)).toArray 39)) w.heap.size 40 (u64s.map (Value.int .u64)) := H.out.2.1.alloc _
      have ho1 : (wr.alloc (.cells (i8s.map (Value.int .i8)).toArray 39)).ownsRow w.heap.size 42 3 u1 ts.length (rowOf ts) := H.out.1.alloc _
      obtain ⟨B1, hB1⟩ : ∃ B1, B1 = wr.heap.size := ⟨_, rfl⟩
      rw [← hB1] at hr1 ⊢
      have H1 := Lib.hid (And.intro ho1 (And.intro hr0 (And.intro hr1 hb1))); clear ho1 hr0 hr1 hb1 H hB1 hc
      go_loopw [1, 17] (fun l i w2 => ∃ (j : Nat) (us : List Th), j ≤ 7 ∧ i = .int .i64 j ∧ w2.ownsRow w.heap.size 42 3 l us.length (rowOf us) ∧ Fine us ∧ us.length ≤ 40 + j ∧ Row w2 w.heap.size 40 (u64s.map (Value.int .u64)) ∧ Row w2 B1 39 (i8s.map (Value.int .i8)) ∧ Below w.heap.size w w2) (fun _ i _ => 7 - (intOf i).toNat)
      case atStart => exact ⟨0, ts, by omega, rfl, H1.out.1, hfine, by omega, H1.out.2.1, H1.out.2.2.1, H1.out.2.2.2⟩
      case round =>
        obtain ⟨j, us, hj, rfl, hown, hfu, hlu, hr0, hr1, hb⟩ := hrel
        by_cases hjl : j < 7
        · have hc1 := hr1.cell j
          rw [List.getElem?_map] at hc1
          obtain ⟨z, hz⟩ : ∃ z, i8s[j]? = some z := ⟨_, List.getElem?_eq_getElem (show j < i8s.length from hjl)⟩
          rw [hz, Option.map_some] at hc1
          clear hz
          have hm4 : (n : Int) % 4 < 4 := Int.emod_lt_of_pos _ (by omega)
          have hm0 : 0 ≤ (n : Int) % 4 := Int.emod_nonneg _ (by omega)
          have hoA : (wr.alloc (.cells #[.int .i8 z, .int .u64 (n : Nat), .string ((⟨#[97, 98, 0]⟩ : ByteArray).extract 0 (n % 4))] 42)).ownsRow w.heap.size 42 3 u1 us.length (rowOf us) := hown.alloc _
          have hTA := one_thing wr z n ((⟨#[97, 98, 0]⟩ : ByteArray).extract 0 (n % 4)) hn1 (abz n)
          have hba : Below w.heap.size w (wr.alloc (.cells #[.int .i8 z, .int .u64 (n : Nat), .string ((⟨#[97, 98, 0]⟩ : ByteArray).extract 0 (n % 4))] 42)) := hb.alloc hb.size _
          have hbs := hba.size
          have hrA := Row.alloc hr0 (.cells #[.int .i8 z, .int .u64 (n : Nat), .string ((⟨#[97, 98, 0]⟩ : ByteArray).extract 0 (n % 4))] 42)
          have hrB := Row.alloc hr1 (.cells #[.int .i8 z, .int .u64 (n : Nat), .string ((⟨#[97, 98, 0]⟩ : ByteArray).extract 0 (n % 4))] 42)
          have HR := Lib.hid (And.intro hrA (And.intro hrB hba)); clear hrA hrB hba hr0 hr1 hb
          have Hfu := Lib.hid hfu; clear hfu hown
          go_wp2_with (at_builtin; refine wpList_append_things rfl _ _ rfl w.heap.size u1 us.length us rfl hoA (some ⟨wr.heap.size, 0, none⟩) 1 [⟨z, n, _⟩] rfl hTA (by simp) (by simp; omega) hbs ?_)
          intro v2 w2 hown2 hgr2
          have hr02 := HR.out.1.grown hgr2 (own_ne hoA HR.out.1 (by decide))
          have hr12 := HR.out.2.1.grown hgr2 (own_ne hoA HR.out.2.1 (by decide))
          have hb2 := HR.out.2.2.trans (fieldsBoth.own_below hoA hgr2 hbs)
          have H2 := Lib.hid (And.intro hown2 (And.intro hr02 (And.intro hr12 hb2))); clear hown2 hr02 hr12 hb2 hgr2 hoA hTA HR
          go_wp2_with fail
          go_roundw
          case rel =>
            refine ⟨j + 1, us ++ [⟨z, n, (⟨#[97, 98, 0]⟩ : ByteArray).extract 0 (n % 4)⟩], by omega, by go_num, by simpa using H2.out.1, ?_, by simp; omega, H2.out.2.1, H2.out.2.2.1, H2.out.2.2.2⟩
            intro t ht
            rcases List.mem_append.1 ht with h | h
            · exact Hfu.out t h
            · obtain rfl : t = ⟨z, n, (⟨#[97, 98, 0]⟩ : ByteArray).extract 0 (n % 4)⟩ := by simpa using h
              exact ⟨hn1, abz n⟩
          case measure => simp [intOf]; omega
        · obtain rfl : j = 7 := by omega
          have hown' := hown
          obtain ⟨A3, c3, rfl, hL, hlc, hAn⟩ := own_cap hown hfu
          have H7 := Lib.hid (And.intro hown' (And.intro hr0 hb)); clear hown hown' hr0 hr1 hb H1
          have Hfu := Lib.hid hfu; have HL := Lib.hid hL; clear hfu hL hfine
          by_cases h40 : 40 < us.length
          · have ht40 : decide ((40 : Int) < (us.length : Int)) = true := decide_eq_true (by omega)
            have hlc7 : 7 ≤ c3 := by omega
            go_wp2_with fail
            refine (fieldsWritten.walk us A3 c3 [114, 97, 119] _ 3 _ (HL.out.below ((Below.refl wr.heap.size wr).alloc (Nat.le_refl _) _)) (by omega) (lit_bytes wr [114, 97, 119] (3, 4) (by simp)) (by simp) (by unfold maxLen; omega) (by simp)).mono ?_; rintro e w3 ⟨rfl, hb3⟩
            dsimp only
            have hb03 : Below wr.heap.size wr w3 := ((Below.refl wr.heap.size wr).alloc (Nat.le_refl _) _).trans (hb3.mono (by simp))
            have hL3 := HL.out.below hb03
            have h7 : (us.take 7).length = 7 := by rw [List.length_take]; omega
            have hL37 : Things w3 A3 (us.take 7) := ⟨fun t ht => hL3.1 t (List.mem_of_mem_take ht), fun hn => by
              obtain ⟨b, off, e, h1, h2⟩ := hL3.2 (by omega)
              refine ⟨b, off, e, h1, fun i t hi => h2 i t ?_⟩
              rw [List.getElem?_take] at hi; split at hi
              · exact hi
              · cases hi⟩
            have hbo := fieldsBoth.walk us A3 c3 (us.take 7) A3 c3 w3 hL3 (by omega) hAn hL37 (by omega) hAn
            rw [h7] at hbo
            have Hbo := Lib.hid hbo; have H3 := Lib.hid (And.intro hb03 hL3); clear hbo hL37 hb3 hb03 hL3 h7
            go_wp2_with fail
            refine (Hbo.out).mono ?_; rintro e w4 ⟨rfl, hb4⟩
            dsimp only
            have hb04 : Below wr.heap.size wr w4 := H3.out.1.trans (hb4.mono H3.out.1.size)
            have hL4 := HL.out.below hb04
            have H4 := Lib.hid (And.intro hb04 hL4); clear hb04 hL4 hb4 H3 Hbo
            go_wp2_with fail
            refine (fieldsUnread.walk us A3 c3 [] none 0 [255] _ 1 _ (H4.out.2.below ((Below.refl w4.heap.size w4).alloc (Nat.le_refl _) _)) (by omega) ⟨by simp, by simp⟩ (by simp) (by unfold maxLen; omega) (lit_bytes w4 [255] (0, 0) (by simp)) (by simp) (by unfold maxLen; omega)).mono ?_; rintro e w5 ⟨rfl, hb5⟩
            dsimp only
            have hb05 : Below wr.heap.size wr w5 := (H4.out.1.trans (((Below.refl w4.heap.size w4).alloc (Nat.le_refl _) _).mono H4.out.1.size)).trans (hb5.mono (by simp; have := H4.out.1.size; omega))
            have hL5 := HL.out.below hb05
            have H5 := Lib.hid (And.intro hb05 hL5); clear hb05 hL5 hb5 H4
            go_wp2_with fail
            refine (fieldsSpoilt.walk [97, 98, 99] _ 3 us A3 c3 _ (H5.out.2.below ((Below.refl w5.heap.size w5).alloc (Nat.le_refl _) _)) (by omega) (lit_bytes w5 [97, 98, 99] (3, 4) (by simp)) (by simp) (by unfold maxLen; omega) (by simp)).mono ?_; rintro e w6 ⟨rfl, hb6⟩
            dsimp only
            have hb06 : Below wr.heap.size wr w6 := (H5.out.1.trans (((Below.refl w5.heap.size w5).alloc (Nat.le_refl _) _).mono H5.out.1.size)).trans (hb6.mono (by simp; have := H5.out.1.size; omega))
            have H6 := Lib.hid hb06; clear hb06 hb6 H5
            go_wp2_with fail
            go_roundw
            case rel => exact ⟨k + 1, [], by omega, by go_num, World.ownsRow_nil _ _ _ _, (by intro t h; cases h), by simp, H7.out.2.1.below H6.out H7.out.2.1.lt, H7.out.2.2.trans (H6.out.mono H7.out.2.2.size)⟩
            case measure => simp [intOf]; omega
          · have ht40 : decide ((40 : Int) < (us.length : Int)) = false := decide_eq_false (by omega)
            go_wp2_with fail
            go_roundw
            case rel => exact ⟨k + 1, us, by omega, by go_num, H7.out.1, Hfu.out, by omega, H7.out.2.1, H7.out.2.2⟩
            case measure => simp [intOf]; omega
    · obtain rfl : k = 14 := by omega
      have Hb := Lib.hid hb; clear hb hown hrow hfine
      go_wp2_with fail
      go_loopw [6] (fun i wr => ∃ x : Int, -40 ≤ x ∧ x ≤ 202 ∧ i = .int .i16 x ∧ Below w.heap.size w wr) (fun i _ => (300 - intOf i).toNat)
      case atStart => exact ⟨-40, by omega, by omega, rfl, Hb.out⟩
      case round =>
        obtain ⟨x, hx0, hx1, rfl, hb⟩ := hrel
        by_cases hxl : x < 200
        · have htx : decide (x < 200) = true := decide_eq_true hxl
          have Hb2 := Lib.hid hb; clear hb Hb
          go_wp2_with fail
          refine (ask wr x hx0 hx1).mono ?_; rintro e w4 ⟨rfl, hb4⟩
          dsimp only
          have hb04 : Below w.heap.size w w4 := Hb2.out.trans (hb4.mono Hb2.out.size)
          have H4 := Lib.hid hb04; clear hb04 hb4 Hb2
          go_wp2_with fail
          go_roundw
          case rel => exact ⟨x + 3, by omega, by omega, by go_num, H4.out⟩
          case measure => simp [intOf]; omega
        · have htx : decide (x < 200) = false := decide_eq_false hxl
          have Hb2 := Lib.hid hb; clear hb Hb
          go_wp2_with fail
          refine (nil_word 5 wr (by omega)).mono ?_; rintro e w4 ⟨rfl, hb4⟩
          have H4 := Lib.hid (Hb2.out.trans (hb4.mono Hb2.out.size)); clear hb4
          go_wp2_with fail
          refine (nil_raw _ _).mono ?_; rintro e w5 ⟨rfl, hw5⟩
          have hb5 : Below w.heap.size w w5 := by rw [← hw5]; exact H4.out.alloc H4.out.size _
          have H5 := Lib.hid hb5; clear hw5 hb5 H4
          go_wp2_with fail
          refine (nil_out _).mono ?_; rintro e w' ⟨rfl, rfl⟩
          go_wp2_with fail
          refine (nil_bad _).mono ?_; rintro e w' ⟨rfl, rfl⟩
          go_wp2_with fail
          refine (nil_left _).mono ?_; rintro e w' ⟨rfl, rfl⟩
          go_wp2_with fail
          refine (nil_long _).mono ?_; rintro e w6 ⟨rfl, hb6⟩
          dsimp only
          have H6 := Lib.hid (H5.out.trans (hb6.mono H5.out.size)); clear hb6
          go_wp2_with fail
          refine (nil_rraw _ _).mono ?_; rintro e w7 ⟨A7, c7, rfl, hb7⟩
          dsimp only
          have H7 := Lib.hid (H6.out.trans (hb7.mono H6.out.size)); clear hb7
          go_wp2_with fail
          refine (fieldsBoth.walk [] none 0 [] none 0 w7 ⟨by simp, by simp⟩ (by simp) (fun _ => rfl) ⟨by simp, by simp⟩ (by simp) (fun _ => rfl)).mono ?_; rintro e w8 ⟨rfl, hb8⟩
          dsimp only
          have H8 := Lib.hid (H7.out.trans (hb8.mono H7.out.size)); clear hb8
          go_wp2_with fail
          refine (works_any _).mono ?_; rintro e w9 ⟨rfl, hb9⟩
          dsimp only
          go_wp2_with fail
          go_ret
          exact ⟨rfl, H8.out.trans (hb9.mono H8.out.size)⟩

set_option maxRecDepth 100000 in
theorem lifted (os : Os) (started : os.Started) (H : Type) (enc : TypeId × Value → H) :
    ReturnsInHanded {} Try.checked os 8 .any (Rows.fieldsKnownSpec.pre6 enc Try.prog Try.f8 Rows.fieldsKnownRow.domain false) (Rows.fieldsKnownSpec.post enc Try.prog Try.f8 false true false false) := by
  refine returnsInHanded_of_change_sized (C := Try.checked) ownKnob_none started (by kernel_rfl) Try.func8
    (ChangeSpec.witness6 (enc := enc) (C := Try.checked) false ⟨#[], #[], []⟩ 8 (by kernel_rfl) (by kernel_rfl) (by kernel_rfl) (by kernel_rfl)) ?_
  intro W base args ds gs before hval0 hW hcnd hsz0 _
  have hval : ∀ (j : Nat) t v, Try.f8.params[j]? = some t → args[j]? = some v → Value.okWide Try.prog W .any base t v := hval0
  have hW' := hW
  obtain ⟨p, q, hA0, hV, rfl, hfz, hnd⟩ := hW
  have hA : DataW.TrodAll enc Try.prog W 0 (fun _ => true) true Try.f8.params.toList args.toList ds p := hA0
  have hsz : (DataW.weightsEach Try.prog (Try.f8.params.toList ++ Rows.fieldsKnownSpec.plain.varTypes Try.prog) (ds ++ gs)).all (· ≤ reachBytes) = true := hsz0
  rw [Try.params8] at hA hval hsz
  obtain ⟨hargs, rfl, rfl⟩ := trodAll_nil hA
  obtain rfl : args = #[] := by cases args; simp_all
  obtain ⟨rfl, rfl⟩ := trodVars_none hV
  clear hA0 hval0 hsz0
  refine (walk W).mono fun e W' ⟨he, hg⟩ => ?_
  subst he
  exact ⟨_, rfl, law_post progLaid hW' rfl (by rw [Try.params8]; intro t ht; simp at ht) rfl Try.underlying4 rfl hg⟩

theorem over : Rows.fieldsKnownRow.holds Try.pinned (OpenSpec.ofChange Rows.fieldsKnownSpec) :=
  OpenClaim.holds_of_wide 8 Try.f8 rfl rfl rfl rfl rfl rfl rfl ⟨rfl, rfl, rfl, rfl, rfl⟩ rfl rfl rfl rfl rfl (by kernel_rfl) Try.func8 (by kernel_rfl)
    (of_decide_eq_true (by kernel_rfl)) (by unfold Func.isWrapper; first | (rw [if_pos (by decide +kernel)]; kernel_rfl) | (rw [if_neg (by decide +kernel)]; exact ⟨rfl, rfl⟩))
    (fun os started H enc _ => lifted os started H enc)

/-- The statement. -/
theorem proved : Rows.FieldsKnownSaid :=
  over
end fieldsKnown
end Go.Proofs.Ytmliiglhglhjkaa
