/- Several texts in one: Room. -/
import Derived.Test.YtiagoaaldpajmaaVz
namespace Go.Proofs.Ytiagoaaldpajmaa
open Go.ChangeShapes Go.WideShapes Go.ChangeAt Go.RowKit Go.BigFrame Go.Maps Go.Sort
set_option linter.unusedVariables false
namespace diskRoom
def V18ok (us n nl dd q k b off p ll c : Nat) (by_ : ByteArray) (E : Int) (i : Nat) (v : Value) : Prop := match i with
  | 0 => v = .int .i64 E
  | 1 => v = .bool true
  | 2 => v = .bool true
  | 3 => v = .pointer (some ⟨p, 0, none⟩)
  | 4 => v = .int .i64 ((us + n : Nat) : Int)
  | 5 => v = .int .i64 ((us : Nat) : Int)
  | 6 => v = .slice (some ⟨b, off, none⟩) ll c
  | 7 => v = .int .i64 ((k : Nat) : Int)
  | 8 => v = .pointer (some ⟨b, off + k * 5, none⟩)
  | 9 => v = .pointer (some ⟨b, off + k * 5 + 2, none⟩)
  | 10 => v = .string by_
  | 11 => v = .int .i64 ((n : Nat) : Int)
  | 12 => v = .int .i64 ((us + n : Nat) : Int)
  | 13 => v = .bool false
  | 14 => v = .bool false
  | 15 => v = .pointer (some ⟨p, 0, none⟩)
  | 16 => v = .int .i64 ((dd + 1 : Nat) : Int)
  | 17 => v = .int .i64 ((dd : Nat) : Int)
  | 18 => v = .int .i64 ((dd + 1 : Nat) : Int)
  | 19 => v = .bool false
  | 20 => v = .bool false
  | 21 => v = .bool false
  | 22 => v = .bool false
  | 23 => v = .int .i64 E
  | 24 => v = .bool false
  | 25 => v = .bool false
  | 26 => v = undef
  | 27 => v = undef
  | 28 => v = undef
  | 29 => v = undef
  | 30 => v = undef
  | 31 => v = undef
  | 32 => v = undef
  | 33 => v = undef
  | 34 => v = undef
  | 35 => v = undef
  | 36 => v = undef
  | 37 => v = undef
  | 38 => v = undef
  | 39 => v = undef
  | 40 => v = undef
  | 41 => v = undef
  | 42 => v = undef
  | 43 => v = .bool false
  | 44 => v = .bool false
  | 45 => v = .bool false
  | 46 => v = .pointer (some ⟨p, 0, none⟩)
  | 47 => v = .int .i64 ((us + n : Nat) : Int)
  | 48 => v = .int .u16 (q : Nat)
  | 49 => v = .int .i64 ((q : Nat) : Int)
  | 50 => v = .bool false
  | _ => v = .bool false
def V18no (us n nl dd q k b off p ll c : Nat) (by_ : ByteArray) (E : Int) (i : Nat) (v : Value) : Prop := match i with
  | 0 => v = .int .i64 E
  | 1 => v = .bool false
  | 2 => v = .bool false
  | 3 => v = undef
  | 4 => v = undef
  | 5 => v = undef
  | 6 => v = undef
  | 7 => v = undef
  | 8 => v = undef
  | 9 => v = undef
  | 10 => v = undef
  | 11 => v = undef
  | 12 => v = undef
  | 13 => v = undef
  | 14 => v = undef
  | 15 => v = undef
  | 16 => v = undef
  | 17 => v = undef
  | 18 => v = undef
  | 19 => v = undef
  | 20 => v = undef
  | 21 => v = .bool false
  | 22 => v = .bool false
  | 23 => v = .int .i64 E
  | 24 => v = .bool true
  | 25 => v = .bool true
  | 26 => v = .pointer (some ⟨p, 0, none⟩)
  | 27 => v = .int .i64 ((us : Nat) : Int)
  | 28 => v = .int .i64 ((us : Nat) : Int)
  | 29 => v = .bool false
  | 30 => v = .bool false
  | 31 => v = .pointer (some ⟨p, 0, none⟩)
  | 32 => ∃ A c, v = .slice A nl c
  | 33 => v = .int .i64 ((nl : Nat) : Int)
  | 34 => v = .int .i64 ((nl : Nat) : Int)
  | 35 => v = .bool false
  | 36 => v = .bool false
  | 37 => v = .bool false
  | 38 => v = .pointer (some ⟨p, 0, none⟩)
  | 39 => v = .int .i64 ((dd : Nat) : Int)
  | 40 => v = .int .i64 ((dd : Nat) : Int)
  | 41 => v = .bool false
  | 42 => v = .bool false
  | 43 => v = .bool false
  | 44 => v = .bool false
  | 45 => v = .bool false
  | 46 => v = .pointer (some ⟨p, 0, none⟩)
  | 47 => v = .int .i64 ((us : Nat) : Int)
  | 48 => v = .int .u16 (q : Nat)
  | 49 => v = .int .i64 ((q : Nat) : Int)
  | 50 => v = .bool false
  | _ => v = .bool false
set_option maxRecDepth 100000 in
set_option maxHeartbeats 1000000 in
theorem walk_else (q : Nat) (A : Option Addr) (l : List De) (c : Nat) (w : World) (hq : q ≤ 65535) (hD : Deeds w A l) (hc : l.length ≤ c) (hm : c ≤ 9223372036854775807) (hf : few l = false) :
    Calls Try.prog 7 #[.int .u16 (q : Nat), .slice A l.length c] w fun e w' => e = .returned (.bool true) ∧ Below w.heap.size w w' := by
  have hfw := few_any w A l c hD hc hm
  rw [hf] at hfw
  have hw := works_any w
  have HW := Lib.hid hw; have HF := Lib.hid hfw; clear hw hfw hD
  go_enter Try.func7, Try.ntmps7
  go_wp2_with fail
  refine (HF.out).mono ?_; rintro e w1 ⟨rfl, rfl⟩
  go_wp2_with fail
  refine (HW.out).mono ?_; rintro e w2 ⟨rfl, hb2⟩
  go_wp2_with fail
  go_ret
  exact ⟨rfl, hb2⟩
/-- what holds at each round's head -/
def At (w : World) (p q k : Nat) (wr : World) : Prop := ∃ d F, OwnF w wr p d F ∧ Roomy q k d
set_option maxRecDepth 100000 in
set_option maxHeartbeats 20000000 in
theorem walk (q : Nat) (A : Option Addr) (l : List De) (c : Nat) (w : World) (hq : q ≤ 65535) (hD : Deeds w A l) (hc : l.length ≤ c) (hm : c ≤ 9223372036854775807) (hf : few l = true) :
    Calls Try.prog 7 #[.int .u16 (q : Nat), .slice A l.length c] w fun e w' => e = .returned (.bool true) ∧ Below w.heap.size w w' := by
  have hfw := few_any w A l c hD hc hm
  rw [hf] at hfw
  obtain ⟨hl50, hsm⟩ := few_out hf
  have hn := own_new (w0 := w) (w := w) ((q : Nat) : Int) (Below.refl _ _) (by omega)
  have hq64 : IntKind.i64.wrap ((q : Nat) : Int) = (q : Nat) := wrap_in (by omega) (by omega)
  have HF := Lib.hid hfw; have HN := Lib.hid hn; have HD := Lib.hid hD; have HS := Lib.hid hsm; clear hfw hn hD hsm
  go_enter Try.func7, Try.ntmps7
  go_wp2_with fail
  refine (HF.out).mono ?_; rintro e w1 ⟨rfl, rfl⟩
  go_wp2_with fail
  refine (HN.out).mono ?_; rintro e w1 ⟨rfl, ho, -⟩
  obtain ⟨p, hp0⟩ : ∃ p, p = w.heap.size := ⟨_, rfl⟩
  rw [← hp0] at ho ⊢
  clear hp0
  have h0 : At w p q 0 w1 := ⟨_, _, ho, room_new q⟩
  have H0 := Lib.hid h0; clear h0 ho
  go_wp2_with fail
  go_loopw [6] (fun i wr => ∃ (k : Nat), k ≤ l.length ∧ i = .int .i64 k ∧ At w p q k wr) (fun i _ => l.length - (intOf i).toNat)
  case atStart => exact ⟨0, Nat.zero_le _, rfl, H0.out⟩
  case round =>
    obtain ⟨k, hk, rfl, hat⟩ := hrel
    by_cases hlt : k < l.length
    · obtain ⟨d, F, ho, hR⟩ := hat
      obtain ⟨b, off, hA, hbl, hci⟩ := HD.out.2 (by omega)
      obtain ⟨-, hc1, hc2, -, -⟩ := hci k l[k] (List.getElem?_eq_getElem hlt)
      have hsz := HS.out l[k] (List.getElem_mem hlt)
      subst hA
      generalize l[k] = x at hc1 hc2 hsz
      obtain ⟨nm, hnm⟩ : ∃ nm, nm = x.name := ⟨_, rfl⟩
      obtain ⟨by_, hby⟩ : ∃ by_, by_ = x.b := ⟨_, rfl⟩
      rw [← hnm] at hc1 hsz
      rw [← hby] at hc2 hsz
      have hC1 : ∀ w', Below w.heap.size w w' → w'.cell? ⟨b, off + k * 5 + 1, none⟩ = some (.string nm) := fun w' h => (World.cell?_of_block (h.block b hbl)).trans hc1
      have hC2 : ∀ w', Below w.heap.size w w' → w'.cell? ⟨b, off + k * 5 + 2, none⟩ = some (.string by_) := fun w' h => (World.cell?_of_block (h.block b hbl)).trans hc2
      clear hnm hby hci hc1 hc2 hbl
      have hdd : d.deeds ≤ 1000 := by have := hR.deeds; omega
      have hU9 := hR.used
      have hfl : d.fs.length ≤ 1000 := by
        obtain ⟨m, g, v, hdk⟩ := ho.disk
        have := hdk.few; omega
      have hu := own_used ho
      have hna := own_names ho (by omega)
      have HC1 := Lib.hid hC1; have HC2 := Lib.hid hC2; have HU := Lib.hid hu; have HNa := Lib.hid hna; have HR := Lib.hid hR
      clear hC1 hC2 hu hna ho hR
      obtain ⟨us, hus⟩ : ∃ us, us = usedF d.fs := ⟨_, rfl⟩
      obtain ⟨dd, hddd⟩ : ∃ dd, dd = d.deeds := ⟨_, rfl⟩
      obtain ⟨nl, hnl⟩ : ∃ nl, nl = d.fs.length := ⟨_, rfl⟩
      rw [← hus] at hU9 HU
      rw [← hddd] at hdd
      rw [← hnl] at hfl HNa
      have HUS := Lib.hid hus; have HDDD := Lib.hid hddd; have HNL := Lib.hid hnl; clear hus hddd hnl
      obtain ⟨n, hn⟩ : ∃ n, n = by_.size := ⟨_, rfl⟩
      have hn3 : n ≤ 300 := by omega
      have hlen := bl_len by_
      rw [← hn] at hlen
      have HLen := Lib.hid hlen; have HNn := Lib.hid hn; clear hlen hn
      go_wp2_with fail
      refine (HU.out).mono ?_; rintro e w2 ⟨rfl, rfl⟩
      go_wp2_with fail
      refine (HNa.out).mono ?_; rintro e w2 ⟨A1, c1, rfl, ho2, hb2, -⟩
      have hst := own_steps ho2
      rw [← HDDD.out] at hst
      have HSt := Lib.hid hst; have HO2 := Lib.hid ho2; clear hst ho2 hb2
      go_wp2_with fail
      refine (HSt.out).mono ?_; rintro e w3 ⟨rfl, rfl⟩
      have hcn : w2.cell? ⟨b, off + k * 5 + 1, none⟩ = some (.string nm) := HC1.out w2 HO2.out.below
      have hcb : w2.cell? ⟨b, off + k * 5 + 2, none⟩ = some (.string by_) := HC2.out w2 HO2.out.below
      by_cases hs1 : nm.size < 1
      · have hrb : rightB nm = false := by simp [rightB]; omega
        obtain ⟨d', hd'⟩ : ∃ d', d' = d := ⟨_, rfl⟩
        have hEd : appE d nm (bl by_).length = 2 ∧ appD d nm (bl by_) = d' := by rw [hd']; exact room_arg HR.out hrb
        have hUs : usedF d'.fs = us := by rw [hd', HUS.out]
        have hDs : d'.deeds = dd := by rw [hd', HDDD.out]
        have hNs : d'.fs.length = nl := by rw [hd', HNL.out]
        have hR' : Roomy q (k + 1) d' := by rw [hd']; exact ⟨HR.out.room, HR.out.off, HR.out.fuse, HR.out.sort, HR.out.used, by have := HR.out.deeds; omega⟩
        have HEd := Lib.hid hEd; have HUs := Lib.hid hUs; have HDs := Lib.hid hDs; have HNs := Lib.hid hNs; have HR' := Lib.hid hR'
        clear hEd hUs hDs hNs hR' hd'
        go_wp2_with fail
        obtain ⟨c5, w5, hr5, hB, hb5, hc5, hcm5, hlt5⟩ := run_tobytes (P := Try.prog) (src := 9) (dst := 36) (e := 5) w2.drew by_ Try.underlying9 Try.underlying36 Try.underlying5 (by unfold maxLen; omega)
        have hap := own_append (HO2.out.drew.made hb5) nm ⟨w2.drew.heap.size, 0, none⟩ (bl by_) c5 hB (fun _ e => by have := (HO2.out.mine _ e).2; simp at this) (by omega) (by rw [HLen.out]; omega) (by rw [← HDDD.out]; omega)
        rw [HEd.out.1, HEd.out.2, HLen.out] at hap
        have hcn' : ∀ b1 w', Seq4 w2.drew w5 (fun w' => ∃ F', OwnF w w' p d' F') b1 false w' → w'.cell? ⟨b, off + k * 5 + 1, none⟩ = some (.string nm) := by
          intro b1 w' hw
          cases b1 with
          | false => obtain rfl : w' = w2.drew := hw; exact HC1.out _ HO2.out.drew.below
          | true => obtain rfl : w' = w5 := hw; exact HC1.out _ (HO2.out.drew.made hb5).below
        have hcb' : ∀ b1 w', Seq4 w2.drew w5 (fun w' => ∃ F', OwnF w w' p d' F') b1 false w' → w'.cell? ⟨b, off + k * 5 + 2, none⟩ = some (.string by_) := by
          intro b1 w' hw
          cases b1 with
          | false => obtain rfl : w' = w2.drew := hw; exact HC2.out _ HO2.out.drew.below
          | true => obtain rfl : w' = w5 := hw; exact HC2.out _ (HO2.out.drew.made hb5).below
        have HAp := Lib.hid hap; have HCn := Lib.hid hcn'; have HCb := Lib.hid hcb'; have HR5 := Lib.hid hr5
        clear hap hcn' hcb' hr5 hB hb5 hc5 hcm5 hlt5 hcn hcb
        refine Stage.wp_region (by kernel_rfl) (by kernel_rfl) (Stage.two 11 12 (Seq4 w2.drew w5 (fun w' => ∃ F', OwnF w w' p d' F'))) (Stage.two_start (by simp) (by simp) (show Seq4 w2.drew w5 (fun w' => ∃ F', OwnF w w' p d' F') false false w2.drew from rfl)) ?_
        refine Stage.wpSt_reads 5 (fun _ => True) (by kernel_rfl) (Stage.two_any (by simp) (by simp)) ?_
        simp only [List.take_succ_cons, List.take_zero, List.drop_succ_cons, List.drop_zero]
        repeat (go_big_quiet_step (fail))
        refine wpQuiet_nil ?_
        refine Stage.wpSt_do (.string nm) rfl (Stage.two_step (by kernel_rfl) (fun b1 w' hw => Free.at_load _ _ rfl rfl (load_str2 (HCn.out b1 w' hw)) hw)) ?_
        go_simp
        refine Stage.wpSt_reads 4 (fun _ => True) (by kernel_rfl) (Stage.two_any (by simp) (by simp)) ?_
        simp only [List.take_succ_cons, List.take_zero, List.drop_succ_cons, List.drop_zero]
        repeat (go_big_quiet_step (fail))
        refine wpQuiet_nil ?_
        refine Stage.wpSt_do (.string by_) rfl (Stage.two_step (by kernel_rfl) (fun b1 w' hw => Free.at_load _ _ rfl rfl (load_str2 (HCb.out b1 w' hw)) hw)) ?_
        go_simp
        refine Stage.wpSt_do (.slice (some ⟨w2.drew.heap.size, 0, none⟩) by_.size c5) rfl (Stage.two_first (by decide) (by kernel_rfl) ?_) ?_
        · intro w' hw
          obtain rfl : w' = w2.drew := hw
          exact Stage.at_convert2 _ _ _ rfl rfl HR5.out rfl
        go_simp
        refine Stage.wpSt_do (.int .i64 2) rfl (Stage.two_then (by decide) (by kernel_rfl) ?_) ?_
        · intro w' hw
          obtain rfl : w' = w5 := hw
          refine Free.at_call _ _ rfl Try.func14 (by kernel_rfl) rfl [.pointer (some ⟨p, 0, none⟩), .string nm, .slice (some ⟨w2.drew.heap.size, 0, none⟩) by_.size c5] rfl ?_
          rw [← HNn.out]
          exact HAp.out.mono fun e w'' ⟨he, h1, _⟩ => ⟨he, _, h1⟩
        go_simp
        refine Stage.wpSt_reads 1 (fun _ => True) (by kernel_rfl) (Stage.two_any (by simp) (by simp)) ?_
        simp only [List.take_succ_cons, List.take_zero, List.drop_succ_cons, List.drop_zero]
        repeat (go_big_quiet_step (fail))
        refine wpQuiet_nil (Stage.wpSt_nil (Stage.two_end ?_))
        rintro w7 ⟨F7, ho7⟩
        have hcb7 := HC2.out w7 ho7.below
        go_simp
        go_wp2_with fail
        refine Free.wp_guarded (by kernel_rfl) (by kernel_rfl) (fun w' => ∃ F', OwnF w w' p d' F') (V18no us n nl dd q k b off p l.length c by_ (2)) ⟨F7, ho7.drew⟩ ?_ ?_
        · intro i o hi a wa hold hpre hF
          obtain ⟨Fa, hoa⟩ := hF
          match i with
          | 0 =>
            cases hi
            exact Free.c_all rfl (Free.g_move _ rfl ⟨((hold 11 (by decide)).trans rfl), Fa, hoa⟩)
          | 1 =>
            cases hi
            have h0 : a.eval (.tmp 83) = .int .i64 2 := hpre 0 _ _ (by kernel_rfl) rfl rfl
            exact Free.c_all rfl (Free.g_bin _ _ _ _ _ rfl h0 rfl (Free.r_eql _ _ _ _ _ _ _) ⟨rfl, Fa, hoa⟩)
          | 2 =>
            cases hi
            have h0 : a.eval (.tmp 84) = .bool false := hpre 1 _ _ (by kernel_rfl) rfl rfl
            exact Free.c_all rfl (Free.g_move _ rfl ⟨h0, Fa, hoa⟩)
          | 3 =>
            cases hi
            have hg : a.eval (.tmp 85) = .bool false := hpre 2 _ _ (by kernel_rfl) rfl rfl
            exact Free.c_no rfl rfl rfl hg ⟨rfl, Fa, hoa⟩
          | 4 =>
            cases hi
            have hg : a.eval (.tmp 85) = .bool false := hpre 2 _ _ (by kernel_rfl) rfl rfl
            exact Free.c_no rfl rfl rfl hg ⟨rfl, Fa, hoa⟩
          | 5 =>
            cases hi
            have hg : a.eval (.tmp 85) = .bool false := hpre 2 _ _ (by kernel_rfl) rfl rfl
            exact Free.c_no rfl rfl rfl hg ⟨rfl, Fa, hoa⟩
          | 6 =>
            cases hi
            have hg : a.eval (.tmp 85) = .bool false := hpre 2 _ _ (by kernel_rfl) rfl rfl
            exact Free.c_no rfl rfl rfl hg ⟨rfl, Fa, hoa⟩
          | 7 =>
            cases hi
            have hg : a.eval (.tmp 85) = .bool false := hpre 2 _ _ (by kernel_rfl) rfl rfl
            exact Free.c_no rfl rfl rfl hg ⟨rfl, Fa, hoa⟩
          | 8 =>
            cases hi
            have hg : a.eval (.tmp 85) = .bool false := hpre 2 _ _ (by kernel_rfl) rfl rfl
            exact Free.c_no rfl rfl rfl hg ⟨rfl, Fa, hoa⟩
          | 9 =>
            cases hi
            have hg : a.eval (.tmp 85) = .bool false := hpre 2 _ _ (by kernel_rfl) rfl rfl
            exact Free.c_no rfl rfl rfl hg ⟨rfl, Fa, hoa⟩
          | 10 =>
            cases hi
            have hg : a.eval (.tmp 85) = .bool false := hpre 2 _ _ (by kernel_rfl) rfl rfl
            exact Free.c_no rfl rfl rfl hg ⟨rfl, Fa, hoa⟩
          | 11 =>
            cases hi
            have hg : a.eval (.tmp 85) = .bool false := hpre 2 _ _ (by kernel_rfl) rfl rfl
            exact Free.c_no rfl rfl rfl hg ⟨rfl, Fa, hoa⟩
          | 12 =>
            cases hi
            have hg : a.eval (.tmp 85) = .bool false := hpre 2 _ _ (by kernel_rfl) rfl rfl
            exact Free.c_no rfl rfl rfl hg ⟨rfl, Fa, hoa⟩
          | 13 =>
            cases hi
            have hg : a.eval (.tmp 85) = .bool false := hpre 2 _ _ (by kernel_rfl) rfl rfl
            exact Free.c_no rfl rfl rfl hg ⟨rfl, Fa, hoa⟩
          | 14 =>
            cases hi
            have hg : a.eval (.tmp 85) = .bool false := hpre 2 _ _ (by kernel_rfl) rfl rfl
            exact Free.c_no rfl rfl rfl hg ⟨rfl, Fa, hoa⟩
          | 15 =>
            cases hi
            have hg : a.eval (.tmp 97) = undef := hpre 14 _ _ (by kernel_rfl) rfl rfl
            exact Free.c_none rfl rfl rfl hg ⟨rfl, Fa, hoa⟩
          | 16 =>
            cases hi
            have hg : a.eval (.tmp 97) = undef := hpre 14 _ _ (by kernel_rfl) rfl rfl
            exact Free.c_none rfl rfl rfl hg ⟨rfl, Fa, hoa⟩
          | 17 =>
            cases hi
            have hg : a.eval (.tmp 97) = undef := hpre 14 _ _ (by kernel_rfl) rfl rfl
            exact Free.c_none rfl rfl rfl hg ⟨rfl, Fa, hoa⟩
          | 18 =>
            cases hi
            have hg : a.eval (.tmp 97) = undef := hpre 14 _ _ (by kernel_rfl) rfl rfl
            exact Free.c_none rfl rfl rfl hg ⟨rfl, Fa, hoa⟩
          | 19 =>
            cases hi
            have hg : a.eval (.tmp 97) = undef := hpre 14 _ _ (by kernel_rfl) rfl rfl
            exact Free.c_none rfl rfl rfl hg ⟨rfl, Fa, hoa⟩
          | 20 =>
            cases hi
            have hg : a.eval (.tmp 85) = .bool false := hpre 2 _ _ (by kernel_rfl) rfl rfl
            exact Free.c_no rfl rfl rfl hg ⟨rfl, Fa, hoa⟩
          | 21 =>
            cases hi
            have h0 : a.eval (.tmp 85) = .bool false := hpre 2 _ _ (by kernel_rfl) rfl rfl
            have h1 : a.eval (.tmp 103) = undef := hpre 20 _ _ (by kernel_rfl) rfl rfl
            exact Free.c_all rfl (Free.g_pick _ _ _ rfl h0 h1 rfl ⟨rfl, Fa, hoa⟩)
          | 22 =>
            cases hi
            have h0 : a.eval (.tmp 104) = .bool false := hpre 21 _ _ (by kernel_rfl) rfl rfl
            exact Free.c_all rfl (Free.g_move _ rfl ⟨h0, Fa, hoa⟩)
          | 23 =>
            cases hi
            have hg : a.eval (.tmp 105) = .bool false := hpre 22 _ _ (by kernel_rfl) rfl rfl
            exact Free.c_yes rfl rfl rfl hg (Free.g_move _ rfl ⟨((hold 11 (by decide)).trans rfl), Fa, hoa⟩)
          | 24 =>
            cases hi
            have hg : a.eval (.tmp 105) = .bool false := hpre 22 _ _ (by kernel_rfl) rfl rfl
            have h0 : a.eval (.tmp 106) = .int .i64 2 := hpre 23 _ _ (by kernel_rfl) rfl rfl
            exact Free.c_yes rfl rfl rfl hg (Free.g_bin _ _ _ _ _ rfl h0 rfl (Free.r_neq _ _ _ _ _ _ _) ⟨rfl, Fa, hoa⟩)
          | 25 =>
            cases hi
            have hg : a.eval (.tmp 105) = .bool false := hpre 22 _ _ (by kernel_rfl) rfl rfl
            have h0 : a.eval (.tmp 107) = .bool true := hpre 24 _ _ (by kernel_rfl) rfl rfl
            exact Free.c_yes rfl rfl rfl hg (Free.g_move _ rfl ⟨h0, Fa, hoa⟩)
          | 26 =>
            cases hi
            have hg : a.eval (.tmp 108) = .bool true := hpre 25 _ _ (by kernel_rfl) rfl rfl
            exact Free.c_yes rfl rfl rfl hg (Free.g_move _ rfl ⟨((hold 5 (by decide)).trans rfl), Fa, hoa⟩)
          | 27 =>
            cases hi
            have hg : a.eval (.tmp 108) = .bool true := hpre 25 _ _ (by kernel_rfl) rfl rfl
            have h0 : a.eval (.tmp 109) = .pointer (some ⟨p, 0, none⟩) := hpre 26 _ _ (by kernel_rfl) rfl rfl
            refine Free.c_yes rfl rfl rfl hg (Free.g_call _ _ rfl Try.func27 (by kernel_rfl) rfl [.pointer (some ⟨p, 0, none⟩)] (by show [a.eval (.tmp 109)] = _; rw [h0]) ?_)
            refine (own_used hoa).mono fun e w2 ⟨he, hw⟩ => ⟨_, he, ?_, Fa, hw ▸ hoa⟩
            exact congrArg (fun n : Nat => Value.int .i64 (n : Int)) HUs.out
          | 28 =>
            cases hi
            have hg : a.eval (.tmp 108) = .bool true := hpre 25 _ _ (by kernel_rfl) rfl rfl
            exact Free.c_yes rfl rfl rfl hg (Free.g_move _ rfl ⟨((hold 7 (by decide)).trans rfl), Fa, hoa⟩)
          | 29 =>
            cases hi
            have hg : a.eval (.tmp 108) = .bool true := hpre 25 _ _ (by kernel_rfl) rfl rfl
            have h0 : a.eval (.tmp 110) = .int .i64 ((us : Nat) : Int) := hpre 27 _ _ (by kernel_rfl) rfl rfl
            have h1 : a.eval (.tmp 111) = .int .i64 ((us : Nat) : Int) := hpre 28 _ _ (by kernel_rfl) rfl rfl
            exact Free.c_yes rfl rfl rfl hg (Free.g_bin _ _ _ _ _ rfl h0 h1 (Free.r_neq _ _ _ _ _ _ _) ⟨congrArg Value.bool (bne_self_eq_false _), Fa, hoa⟩)
          | 30 =>
            cases hi
            have hg : a.eval (.tmp 108) = .bool true := hpre 25 _ _ (by kernel_rfl) rfl rfl
            have h0 : a.eval (.tmp 112) = .bool false := hpre 29 _ _ (by kernel_rfl) rfl rfl
            exact Free.c_yes rfl rfl rfl hg (Free.g_move _ rfl ⟨h0, Fa, hoa⟩)
          | 31 =>
            cases hi
            have hg : a.eval (.tmp 113) = .bool false := hpre 30 _ _ (by kernel_rfl) rfl rfl
            exact Free.c_yes rfl rfl rfl hg (Free.g_move _ rfl ⟨((hold 5 (by decide)).trans rfl), Fa, hoa⟩)
          | 32 =>
            cases hi
            have hg : a.eval (.tmp 113) = .bool false := hpre 30 _ _ (by kernel_rfl) rfl rfl
            have h0 : a.eval (.tmp 114) = .pointer (some ⟨p, 0, none⟩) := hpre 31 _ _ (by kernel_rfl) rfl rfl
            refine Free.c_yes rfl rfl rfl hg (Free.g_call _ _ rfl Try.func28 (by kernel_rfl) rfl [.pointer (some ⟨p, 0, none⟩)] (by show [a.eval (.tmp 114)] = _; rw [h0]) ?_)
            exact (own_names hoa (by rw [HDs.out]; omega)).mono fun e w2 ⟨A9, c9, he, ho9, _⟩ => ⟨_, he, ⟨A9, c9, by rw [HNs.out]⟩, Fa, ho9⟩
          | 33 =>
            cases hi
            have hg : a.eval (.tmp 113) = .bool false := hpre 30 _ _ (by kernel_rfl) rfl rfl
            obtain ⟨A9, c9, h0⟩ : ∃ A9 c9, a.eval (.tmp 115) = .slice A9 nl c9 := hpre 32 _ _ (by kernel_rfl) rfl rfl
            exact Free.c_yes rfl rfl rfl hg (Free.g_len _ _ rfl h0 (run_len_slice wa _ _ _ _ _ Try.underlying42) ⟨rfl, Fa, hoa⟩)
          | 34 =>
            cases hi
            have hg : a.eval (.tmp 113) = .bool false := hpre 30 _ _ (by kernel_rfl) rfl rfl
            exact Free.c_yes rfl rfl rfl hg (Free.g_move _ rfl ⟨((hold 8 (by decide)).trans rfl), Fa, hoa⟩)
          | 35 =>
            cases hi
            have hg : a.eval (.tmp 113) = .bool false := hpre 30 _ _ (by kernel_rfl) rfl rfl
            have h0 : a.eval (.tmp 116) = .int .i64 ((nl : Nat) : Int) := hpre 33 _ _ (by kernel_rfl) rfl rfl
            have h1 : a.eval (.tmp 117) = .int .i64 ((nl : Nat) : Int) := hpre 34 _ _ (by kernel_rfl) rfl rfl
            exact Free.c_yes rfl rfl rfl hg (Free.g_bin _ _ _ _ _ rfl h0 h1 (Free.r_neq _ _ _ _ _ _ _) ⟨congrArg Value.bool (bne_self_eq_false _), Fa, hoa⟩)
          | 36 =>
            cases hi
            have hg : a.eval (.tmp 108) = .bool true := hpre 25 _ _ (by kernel_rfl) rfl rfl
            have h0 : a.eval (.tmp 113) = .bool false := hpre 30 _ _ (by kernel_rfl) rfl rfl
            have h2 : a.eval (.tmp 118) = .bool false := hpre 35 _ _ (by kernel_rfl) rfl rfl
            exact Free.c_yes rfl rfl rfl hg (Free.g_pick _ _ _ rfl h0 rfl h2 ⟨rfl, Fa, hoa⟩)
          | 37 =>
            cases hi
            have hg : a.eval (.tmp 108) = .bool true := hpre 25 _ _ (by kernel_rfl) rfl rfl
            have h0 : a.eval (.tmp 119) = .bool false := hpre 36 _ _ (by kernel_rfl) rfl rfl
            exact Free.c_yes rfl rfl rfl hg (Free.g_move _ rfl ⟨h0, Fa, hoa⟩)
          | 38 =>
            cases hi
            have hg : a.eval (.tmp 120) = .bool false := hpre 37 _ _ (by kernel_rfl) rfl rfl
            exact Free.c_yes rfl rfl rfl hg (Free.g_move _ rfl ⟨((hold 5 (by decide)).trans rfl), Fa, hoa⟩)
          | 39 =>
            cases hi
            have hg : a.eval (.tmp 120) = .bool false := hpre 37 _ _ (by kernel_rfl) rfl rfl
            have h0 : a.eval (.tmp 121) = .pointer (some ⟨p, 0, none⟩) := hpre 38 _ _ (by kernel_rfl) rfl rfl
            refine Free.c_yes rfl rfl rfl hg (Free.g_call _ _ rfl Try.func29 (by kernel_rfl) rfl [.pointer (some ⟨p, 0, none⟩)] (by show [a.eval (.tmp 121)] = _; rw [h0]) ?_)
            refine (own_steps hoa).mono fun e w2 ⟨he, hw⟩ => ⟨_, he, ?_, Fa, hw ▸ hoa⟩
            exact congrArg (fun n : Nat => Value.int .i64 (n : Int)) HDs.out
          | 40 =>
            cases hi
            have hg : a.eval (.tmp 120) = .bool false := hpre 37 _ _ (by kernel_rfl) rfl rfl
            exact Free.c_yes rfl rfl rfl hg (Free.g_move _ rfl ⟨((hold 9 (by decide)).trans rfl), Fa, hoa⟩)
          | 41 =>
            cases hi
            have hg : a.eval (.tmp 120) = .bool false := hpre 37 _ _ (by kernel_rfl) rfl rfl
            have h0 : a.eval (.tmp 122) = .int .i64 ((dd : Nat) : Int) := hpre 39 _ _ (by kernel_rfl) rfl rfl
            have h1 : a.eval (.tmp 123) = .int .i64 ((dd : Nat) : Int) := hpre 40 _ _ (by kernel_rfl) rfl rfl
            exact Free.c_yes rfl rfl rfl hg (Free.g_bin _ _ _ _ _ rfl h0 h1 (Free.r_neq _ _ _ _ _ _ _) ⟨congrArg Value.bool (bne_self_eq_false _), Fa, hoa⟩)
          | 42 =>
            cases hi
            have hg : a.eval (.tmp 108) = .bool true := hpre 25 _ _ (by kernel_rfl) rfl rfl
            have h0 : a.eval (.tmp 120) = .bool false := hpre 37 _ _ (by kernel_rfl) rfl rfl
            have h2 : a.eval (.tmp 124) = .bool false := hpre 41 _ _ (by kernel_rfl) rfl rfl
            exact Free.c_yes rfl rfl rfl hg (Free.g_pick _ _ _ rfl h0 rfl h2 ⟨rfl, Fa, hoa⟩)
          | 43 =>
            cases hi
            have hg : a.eval (.tmp 105) = .bool false := hpre 22 _ _ (by kernel_rfl) rfl rfl
            have h0 : a.eval (.tmp 108) = .bool true := hpre 25 _ _ (by kernel_rfl) rfl rfl
            have h1 : a.eval (.tmp 125) = .bool false := hpre 42 _ _ (by kernel_rfl) rfl rfl
            exact Free.c_yes rfl rfl rfl hg (Free.g_pick _ _ _ rfl h0 h1 rfl ⟨rfl, Fa, hoa⟩)
          | 44 =>
            cases hi
            have h0 : a.eval (.tmp 105) = .bool false := hpre 22 _ _ (by kernel_rfl) rfl rfl
            have h2 : a.eval (.tmp 126) = .bool false := hpre 43 _ _ (by kernel_rfl) rfl rfl
            exact Free.c_all rfl (Free.g_pick _ _ _ rfl h0 rfl h2 ⟨rfl, Fa, hoa⟩)
          | 45 =>
            cases hi
            have h0 : a.eval (.tmp 127) = .bool false := hpre 44 _ _ (by kernel_rfl) rfl rfl
            exact Free.c_all rfl (Free.g_move _ rfl ⟨h0, Fa, hoa⟩)
          | 46 =>
            cases hi
            have hg : a.eval (.tmp 128) = .bool false := hpre 45 _ _ (by kernel_rfl) rfl rfl
            exact Free.c_yes rfl rfl rfl hg (Free.g_move _ rfl ⟨((hold 5 (by decide)).trans rfl), Fa, hoa⟩)
          | 47 =>
            cases hi
            have hg : a.eval (.tmp 128) = .bool false := hpre 45 _ _ (by kernel_rfl) rfl rfl
            have h0 : a.eval (.tmp 129) = .pointer (some ⟨p, 0, none⟩) := hpre 46 _ _ (by kernel_rfl) rfl rfl
            refine Free.c_yes rfl rfl rfl hg (Free.g_call _ _ rfl Try.func27 (by kernel_rfl) rfl [.pointer (some ⟨p, 0, none⟩)] (by show [a.eval (.tmp 129)] = _; rw [h0]) ?_)
            refine (own_used hoa).mono fun e w2 ⟨he, hw⟩ => ⟨_, he, ?_, Fa, hw ▸ hoa⟩
            exact congrArg (fun n : Nat => Value.int .i64 (n : Int)) HUs.out
          | 48 =>
            cases hi
            have hg : a.eval (.tmp 128) = .bool false := hpre 45 _ _ (by kernel_rfl) rfl rfl
            exact Free.c_yes rfl rfl rfl hg (Free.g_move _ rfl ⟨((hold 0 (by decide)).trans rfl), Fa, hoa⟩)
          | 49 =>
            cases hi
            have hg : a.eval (.tmp 128) = .bool false := hpre 45 _ _ (by kernel_rfl) rfl rfl
            have h0 : a.eval (.tmp 131) = .int .u16 (q : Nat) := hpre 48 _ _ (by kernel_rfl) rfl rfl
            exact Free.c_yes rfl rfl rfl hg (Free.g_convert _ _ _ rfl h0 (conv_u16 wa hq) ⟨rfl, Fa, hoa⟩)
          | 50 =>
            cases hi
            have hg : a.eval (.tmp 128) = .bool false := hpre 45 _ _ (by kernel_rfl) rfl rfl
            have h0 : a.eval (.tmp 130) = .int .i64 ((us : Nat) : Int) := hpre 47 _ _ (by kernel_rfl) rfl rfl
            have h1 : a.eval (.tmp 132) = .int .i64 ((q : Nat) : Int) := hpre 49 _ _ (by kernel_rfl) rfl rfl
            exact Free.c_yes rfl rfl rfl hg (Free.g_bin _ _ _ _ _ rfl h0 h1 (Free.r_gtr _ _ _ _ _ _ _) ⟨congrArg Value.bool (decide_eq_false (by omega)), Fa, hoa⟩)
          | 51 =>
            cases hi
            have h0 : a.eval (.tmp 128) = .bool false := hpre 45 _ _ (by kernel_rfl) rfl rfl
            have h2 : a.eval (.tmp 133) = .bool false := hpre 50 _ _ (by kernel_rfl) rfl rfl
            exact Free.c_all rfl (Free.g_pick _ _ _ rfl h0 rfl h2 ⟨rfl, Fa, hoa⟩)
          | _ + 52 => cases hi
        · rintro vs w8 hv ⟨F8, ho8⟩
          have h134 : vs 51 = .bool false := hv 51 (by simp) (by rintro o ⟨⟩; rfl)
          have HO8 := Lib.hid ho8; clear ho8 hv
          simp only [Free.puts, Nat.reduceAdd, h134]
          generalize vs 0 = y0
          go_simp
          go_wp2_with fail
          go_roundw
          case rel => exact ⟨k + 1, by omega, by go_num, d', F8, HO8.out, HR'.out⟩
          case measure => simp [intOf]; omega
      · by_cases hs2 : 128 < nm.size
        · have hrb : rightB nm = false := by simp [rightB]; omega
          have hdc : decide ((nm.size : Int) ≤ 128) = false := decide_eq_false (by omega)
          obtain ⟨d', hd'⟩ : ∃ d', d' = d := ⟨_, rfl⟩
          have hEd : appE d nm (bl by_).length = 2 ∧ appD d nm (bl by_) = d' := by rw [hd']; exact room_arg HR.out hrb
          have hUs : usedF d'.fs = us := by rw [hd', HUS.out]
          have hDs : d'.deeds = dd := by rw [hd', HDDD.out]
          have hNs : d'.fs.length = nl := by rw [hd', HNL.out]
          have hR' : Roomy q (k + 1) d' := by rw [hd']; exact ⟨HR.out.room, HR.out.off, HR.out.fuse, HR.out.sort, HR.out.used, by have := HR.out.deeds; omega⟩
          have HEd := Lib.hid hEd; have HUs := Lib.hid hUs; have HDs := Lib.hid hDs; have HNs := Lib.hid hNs; have HR' := Lib.hid hR'
          clear hEd hUs hDs hNs hR' hd'
          go_wp2_with fail
          obtain ⟨c5, w5, hr5, hB, hb5, hc5, hcm5, hlt5⟩ := run_tobytes (P := Try.prog) (src := 9) (dst := 36) (e := 5) w2.drew by_ Try.underlying9 Try.underlying36 Try.underlying5 (by unfold maxLen; omega)
          have hap := own_append (HO2.out.drew.made hb5) nm ⟨w2.drew.heap.size, 0, none⟩ (bl by_) c5 hB (fun _ e => by have := (HO2.out.mine _ e).2; simp at this) (by omega) (by rw [HLen.out]; omega) (by rw [← HDDD.out]; omega)
          rw [HEd.out.1, HEd.out.2, HLen.out] at hap
          have hcn' : ∀ b1 w', Seq4 w2.drew w5 (fun w' => ∃ F', OwnF w w' p d' F') b1 false w' → w'.cell? ⟨b, off + k * 5 + 1, none⟩ = some (.string nm) := by
            intro b1 w' hw
            cases b1 with
            | false => obtain rfl : w' = w2.drew := hw; exact HC1.out _ HO2.out.drew.below
            | true => obtain rfl : w' = w5 := hw; exact HC1.out _ (HO2.out.drew.made hb5).below
          have hcb' : ∀ b1 w', Seq4 w2.drew w5 (fun w' => ∃ F', OwnF w w' p d' F') b1 false w' → w'.cell? ⟨b, off + k * 5 + 2, none⟩ = some (.string by_) := by
            intro b1 w' hw
            cases b1 with
            | false => obtain rfl : w' = w2.drew := hw; exact HC2.out _ HO2.out.drew.below
            | true => obtain rfl : w' = w5 := hw; exact HC2.out _ (HO2.out.drew.made hb5).below
          have HAp := Lib.hid hap; have HCn := Lib.hid hcn'; have HCb := Lib.hid hcb'; have HR5 := Lib.hid hr5
          clear hap hcn' hcb' hr5 hB hb5 hc5 hcm5 hlt5 hcn hcb
          refine Stage.wp_region (by kernel_rfl) (by kernel_rfl) (Stage.two 11 12 (Seq4 w2.drew w5 (fun w' => ∃ F', OwnF w w' p d' F'))) (Stage.two_start (by simp) (by simp) (show Seq4 w2.drew w5 (fun w' => ∃ F', OwnF w w' p d' F') false false w2.drew from rfl)) ?_
          refine Stage.wpSt_reads 5 (fun _ => True) (by kernel_rfl) (Stage.two_any (by simp) (by simp)) ?_
          simp only [List.take_succ_cons, List.take_zero, List.drop_succ_cons, List.drop_zero]
          repeat (go_big_quiet_step (fail))
          refine wpQuiet_nil ?_
          refine Stage.wpSt_do (.string nm) rfl (Stage.two_step (by kernel_rfl) (fun b1 w' hw => Free.at_load _ _ rfl rfl (load_str2 (HCn.out b1 w' hw)) hw)) ?_
          go_simp
          refine Stage.wpSt_reads 4 (fun _ => True) (by kernel_rfl) (Stage.two_any (by simp) (by simp)) ?_
          simp only [List.take_succ_cons, List.take_zero, List.drop_succ_cons, List.drop_zero]
          repeat (go_big_quiet_step (fail))
          refine wpQuiet_nil ?_
          refine Stage.wpSt_do (.string by_) rfl (Stage.two_step (by kernel_rfl) (fun b1 w' hw => Free.at_load _ _ rfl rfl (load_str2 (HCb.out b1 w' hw)) hw)) ?_
          go_simp
          refine Stage.wpSt_do (.slice (some ⟨w2.drew.heap.size, 0, none⟩) by_.size c5) rfl (Stage.two_first (by decide) (by kernel_rfl) ?_) ?_
          · intro w' hw
            obtain rfl : w' = w2.drew := hw
            exact Stage.at_convert2 _ _ _ rfl rfl HR5.out rfl
          go_simp
          refine Stage.wpSt_do (.int .i64 2) rfl (Stage.two_then (by decide) (by kernel_rfl) ?_) ?_
          · intro w' hw
            obtain rfl : w' = w5 := hw
            refine Free.at_call _ _ rfl Try.func14 (by kernel_rfl) rfl [.pointer (some ⟨p, 0, none⟩), .string nm, .slice (some ⟨w2.drew.heap.size, 0, none⟩) by_.size c5] rfl ?_
            rw [← HNn.out]
            exact HAp.out.mono fun e w'' ⟨he, h1, _⟩ => ⟨he, _, h1⟩
          go_simp
          refine Stage.wpSt_reads 1 (fun _ => True) (by kernel_rfl) (Stage.two_any (by simp) (by simp)) ?_
          simp only [List.take_succ_cons, List.take_zero, List.drop_succ_cons, List.drop_zero]
          repeat (go_big_quiet_step (fail))
          refine wpQuiet_nil (Stage.wpSt_nil (Stage.two_end ?_))
          rintro w7 ⟨F7, ho7⟩
          have hcb7 := HC2.out w7 ho7.below
          go_simp
          go_wp2_with fail
          refine Free.wp_guarded (by kernel_rfl) (by kernel_rfl) (fun w' => ∃ F', OwnF w w' p d' F') (V18no us n nl dd q k b off p l.length c by_ (2)) ⟨F7, ho7.drew⟩ ?_ ?_
          · intro i o hi a wa hold hpre hF
            obtain ⟨Fa, hoa⟩ := hF
            match i with
            | 0 =>
              cases hi
              exact Free.c_all rfl (Free.g_move _ rfl ⟨((hold 11 (by decide)).trans rfl), Fa, hoa⟩)
            | 1 =>
              cases hi
              have h0 : a.eval (.tmp 83) = .int .i64 2 := hpre 0 _ _ (by kernel_rfl) rfl rfl
              exact Free.c_all rfl (Free.g_bin _ _ _ _ _ rfl h0 rfl (Free.r_eql _ _ _ _ _ _ _) ⟨rfl, Fa, hoa⟩)
            | 2 =>
              cases hi
              have h0 : a.eval (.tmp 84) = .bool false := hpre 1 _ _ (by kernel_rfl) rfl rfl
              exact Free.c_all rfl (Free.g_move _ rfl ⟨h0, Fa, hoa⟩)
            | 3 =>
              cases hi
              have hg : a.eval (.tmp 85) = .bool false := hpre 2 _ _ (by kernel_rfl) rfl rfl
              exact Free.c_no rfl rfl rfl hg ⟨rfl, Fa, hoa⟩
            | 4 =>
              cases hi
              have hg : a.eval (.tmp 85) = .bool false := hpre 2 _ _ (by kernel_rfl) rfl rfl
              exact Free.c_no rfl rfl rfl hg ⟨rfl, Fa, hoa⟩
            | 5 =>
              cases hi
              have hg : a.eval (.tmp 85) = .bool false := hpre 2 _ _ (by kernel_rfl) rfl rfl
              exact Free.c_no rfl rfl rfl hg ⟨rfl, Fa, hoa⟩
            | 6 =>
              cases hi
              have hg : a.eval (.tmp 85) = .bool false := hpre 2 _ _ (by kernel_rfl) rfl rfl
              exact Free.c_no rfl rfl rfl hg ⟨rfl, Fa, hoa⟩
            | 7 =>
              cases hi
              have hg : a.eval (.tmp 85) = .bool false := hpre 2 _ _ (by kernel_rfl) rfl rfl
              exact Free.c_no rfl rfl rfl hg ⟨rfl, Fa, hoa⟩
            | 8 =>
              cases hi
              have hg : a.eval (.tmp 85) = .bool false := hpre 2 _ _ (by kernel_rfl) rfl rfl
              exact Free.c_no rfl rfl rfl hg ⟨rfl, Fa, hoa⟩
            | 9 =>
              cases hi
              have hg : a.eval (.tmp 85) = .bool false := hpre 2 _ _ (by kernel_rfl) rfl rfl
              exact Free.c_no rfl rfl rfl hg ⟨rfl, Fa, hoa⟩
            | 10 =>
              cases hi
              have hg : a.eval (.tmp 85) = .bool false := hpre 2 _ _ (by kernel_rfl) rfl rfl
              exact Free.c_no rfl rfl rfl hg ⟨rfl, Fa, hoa⟩
            | 11 =>
              cases hi
              have hg : a.eval (.tmp 85) = .bool false := hpre 2 _ _ (by kernel_rfl) rfl rfl
              exact Free.c_no rfl rfl rfl hg ⟨rfl, Fa, hoa⟩
            | 12 =>
              cases hi
              have hg : a.eval (.tmp 85) = .bool false := hpre 2 _ _ (by kernel_rfl) rfl rfl
              exact Free.c_no rfl rfl rfl hg ⟨rfl, Fa, hoa⟩
            | 13 =>
              cases hi
              have hg : a.eval (.tmp 85) = .bool false := hpre 2 _ _ (by kernel_rfl) rfl rfl
              exact Free.c_no rfl rfl rfl hg ⟨rfl, Fa, hoa⟩
            | 14 =>
              cases hi
              have hg : a.eval (.tmp 85) = .bool false := hpre 2 _ _ (by kernel_rfl) rfl rfl
              exact Free.c_no rfl rfl rfl hg ⟨rfl, Fa, hoa⟩
            | 15 =>
              cases hi
              have hg : a.eval (.tmp 97) = undef := hpre 14 _ _ (by kernel_rfl) rfl rfl
              exact Free.c_none rfl rfl rfl hg ⟨rfl, Fa, hoa⟩
            | 16 =>
              cases hi
              have hg : a.eval (.tmp 97) = undef := hpre 14 _ _ (by kernel_rfl) rfl rfl
              exact Free.c_none rfl rfl rfl hg ⟨rfl, Fa, hoa⟩
            | 17 =>
              cases hi
              have hg : a.eval (.tmp 97) = undef := hpre 14 _ _ (by kernel_rfl) rfl rfl
              exact Free.c_none rfl rfl rfl hg ⟨rfl, Fa, hoa⟩
            | 18 =>
              cases hi
              have hg : a.eval (.tmp 97) = undef := hpre 14 _ _ (by kernel_rfl) rfl rfl
              exact Free.c_none rfl rfl rfl hg ⟨rfl, Fa, hoa⟩
            | 19 =>
              cases hi
              have hg : a.eval (.tmp 97) = undef := hpre 14 _ _ (by kernel_rfl) rfl rfl
              exact Free.c_none rfl rfl rfl hg ⟨rfl, Fa, hoa⟩
            | 20 =>
              cases hi
              have hg : a.eval (.tmp 85) = .bool false := hpre 2 _ _ (by kernel_rfl) rfl rfl
              exact Free.c_no rfl rfl rfl hg ⟨rfl, Fa, hoa⟩
            | 21 =>
              cases hi
              have h0 : a.eval (.tmp 85) = .bool false := hpre 2 _ _ (by kernel_rfl) rfl rfl
              have h1 : a.eval (.tmp 103) = undef := hpre 20 _ _ (by kernel_rfl) rfl rfl
              exact Free.c_all rfl (Free.g_pick _ _ _ rfl h0 h1 rfl ⟨rfl, Fa, hoa⟩)
            | 22 =>
              cases hi
              have h0 : a.eval (.tmp 104) = .bool false := hpre 21 _ _ (by kernel_rfl) rfl rfl
              exact Free.c_all rfl (Free.g_move _ rfl ⟨h0, Fa, hoa⟩)
            | 23 =>
              cases hi
              have hg : a.eval (.tmp 105) = .bool false := hpre 22 _ _ (by kernel_rfl) rfl rfl
              exact Free.c_yes rfl rfl rfl hg (Free.g_move _ rfl ⟨((hold 11 (by decide)).trans rfl), Fa, hoa⟩)
            | 24 =>
              cases hi
              have hg : a.eval (.tmp 105) = .bool false := hpre 22 _ _ (by kernel_rfl) rfl rfl
              have h0 : a.eval (.tmp 106) = .int .i64 2 := hpre 23 _ _ (by kernel_rfl) rfl rfl
              exact Free.c_yes rfl rfl rfl hg (Free.g_bin _ _ _ _ _ rfl h0 rfl (Free.r_neq _ _ _ _ _ _ _) ⟨rfl, Fa, hoa⟩)
            | 25 =>
              cases hi
              have hg : a.eval (.tmp 105) = .bool false := hpre 22 _ _ (by kernel_rfl) rfl rfl
              have h0 : a.eval (.tmp 107) = .bool true := hpre 24 _ _ (by kernel_rfl) rfl rfl
              exact Free.c_yes rfl rfl rfl hg (Free.g_move _ rfl ⟨h0, Fa, hoa⟩)
            | 26 =>
              cases hi
              have hg : a.eval (.tmp 108) = .bool true := hpre 25 _ _ (by kernel_rfl) rfl rfl
              exact Free.c_yes rfl rfl rfl hg (Free.g_move _ rfl ⟨((hold 5 (by decide)).trans rfl), Fa, hoa⟩)
            | 27 =>
              cases hi
              have hg : a.eval (.tmp 108) = .bool true := hpre 25 _ _ (by kernel_rfl) rfl rfl
              have h0 : a.eval (.tmp 109) = .pointer (some ⟨p, 0, none⟩) := hpre 26 _ _ (by kernel_rfl) rfl rfl
              refine Free.c_yes rfl rfl rfl hg (Free.g_call _ _ rfl Try.func27 (by kernel_rfl) rfl [.pointer (some ⟨p, 0, none⟩)] (by show [a.eval (.tmp 109)] = _; rw [h0]) ?_)
              refine (own_used hoa).mono fun e w2 ⟨he, hw⟩ => ⟨_, he, ?_, Fa, hw ▸ hoa⟩
              exact congrArg (fun n : Nat => Value.int .i64 (n : Int)) HUs.out
            | 28 =>
              cases hi
              have hg : a.eval (.tmp 108) = .bool true := hpre 25 _ _ (by kernel_rfl) rfl rfl
              exact Free.c_yes rfl rfl rfl hg (Free.g_move _ rfl ⟨((hold 7 (by decide)).trans rfl), Fa, hoa⟩)
            | 29 =>
              cases hi
              have hg : a.eval (.tmp 108) = .bool true := hpre 25 _ _ (by kernel_rfl) rfl rfl
              have h0 : a.eval (.tmp 110) = .int .i64 ((us : Nat) : Int) := hpre 27 _ _ (by kernel_rfl) rfl rfl
              have h1 : a.eval (.tmp 111) = .int .i64 ((us : Nat) : Int) := hpre 28 _ _ (by kernel_rfl) rfl rfl
              exact Free.c_yes rfl rfl rfl hg (Free.g_bin _ _ _ _ _ rfl h0 h1 (Free.r_neq _ _ _ _ _ _ _) ⟨congrArg Value.bool (bne_self_eq_false _), Fa, hoa⟩)
            | 30 =>
              cases hi
              have hg : a.eval (.tmp 108) = .bool true := hpre 25 _ _ (by kernel_rfl) rfl rfl
              have h0 : a.eval (.tmp 112) = .bool false := hpre 29 _ _ (by kernel_rfl) rfl rfl
              exact Free.c_yes rfl rfl rfl hg (Free.g_move _ rfl ⟨h0, Fa, hoa⟩)
            | 31 =>
              cases hi
              have hg : a.eval (.tmp 113) = .bool false := hpre 30 _ _ (by kernel_rfl) rfl rfl
              exact Free.c_yes rfl rfl rfl hg (Free.g_move _ rfl ⟨((hold 5 (by decide)).trans rfl), Fa, hoa⟩)
            | 32 =>
              cases hi
              have hg : a.eval (.tmp 113) = .bool false := hpre 30 _ _ (by kernel_rfl) rfl rfl
              have h0 : a.eval (.tmp 114) = .pointer (some ⟨p, 0, none⟩) := hpre 31 _ _ (by kernel_rfl) rfl rfl
              refine Free.c_yes rfl rfl rfl hg (Free.g_call _ _ rfl Try.func28 (by kernel_rfl) rfl [.pointer (some ⟨p, 0, none⟩)] (by show [a.eval (.tmp 114)] = _; rw [h0]) ?_)
              exact (own_names hoa (by rw [HDs.out]; omega)).mono fun e w2 ⟨A9, c9, he, ho9, _⟩ => ⟨_, he, ⟨A9, c9, by rw [HNs.out]⟩, Fa, ho9⟩
            | 33 =>
              cases hi
              have hg : a.eval (.tmp 113) = .bool false := hpre 30 _ _ (by kernel_rfl) rfl rfl
              obtain ⟨A9, c9, h0⟩ : ∃ A9 c9, a.eval (.tmp 115) = .slice A9 nl c9 := hpre 32 _ _ (by kernel_rfl) rfl rfl
              exact Free.c_yes rfl rfl rfl hg (Free.g_len _ _ rfl h0 (run_len_slice wa _ _ _ _ _ Try.underlying42) ⟨rfl, Fa, hoa⟩)
            | 34 =>
              cases hi
              have hg : a.eval (.tmp 113) = .bool false := hpre 30 _ _ (by kernel_rfl) rfl rfl
              exact Free.c_yes rfl rfl rfl hg (Free.g_move _ rfl ⟨((hold 8 (by decide)).trans rfl), Fa, hoa⟩)
            | 35 =>
              cases hi
              have hg : a.eval (.tmp 113) = .bool false := hpre 30 _ _ (by kernel_rfl) rfl rfl
              have h0 : a.eval (.tmp 116) = .int .i64 ((nl : Nat) : Int) := hpre 33 _ _ (by kernel_rfl) rfl rfl
              have h1 : a.eval (.tmp 117) = .int .i64 ((nl : Nat) : Int) := hpre 34 _ _ (by kernel_rfl) rfl rfl
              exact Free.c_yes rfl rfl rfl hg (Free.g_bin _ _ _ _ _ rfl h0 h1 (Free.r_neq _ _ _ _ _ _ _) ⟨congrArg Value.bool (bne_self_eq_false _), Fa, hoa⟩)
            | 36 =>
              cases hi
              have hg : a.eval (.tmp 108) = .bool true := hpre 25 _ _ (by kernel_rfl) rfl rfl
              have h0 : a.eval (.tmp 113) = .bool false := hpre 30 _ _ (by kernel_rfl) rfl rfl
              have h2 : a.eval (.tmp 118) = .bool false := hpre 35 _ _ (by kernel_rfl) rfl rfl
              exact Free.c_yes rfl rfl rfl hg (Free.g_pick _ _ _ rfl h0 rfl h2 ⟨rfl, Fa, hoa⟩)
            | 37 =>
              cases hi
              have hg : a.eval (.tmp 108) = .bool true := hpre 25 _ _ (by kernel_rfl) rfl rfl
              have h0 : a.eval (.tmp 119) = .bool false := hpre 36 _ _ (by kernel_rfl) rfl rfl
              exact Free.c_yes rfl rfl rfl hg (Free.g_move _ rfl ⟨h0, Fa, hoa⟩)
            | 38 =>
              cases hi
              have hg : a.eval (.tmp 120) = .bool false := hpre 37 _ _ (by kernel_rfl) rfl rfl
              exact Free.c_yes rfl rfl rfl hg (Free.g_move _ rfl ⟨((hold 5 (by decide)).trans rfl), Fa, hoa⟩)
            | 39 =>
              cases hi
              have hg : a.eval (.tmp 120) = .bool false := hpre 37 _ _ (by kernel_rfl) rfl rfl
              have h0 : a.eval (.tmp 121) = .pointer (some ⟨p, 0, none⟩) := hpre 38 _ _ (by kernel_rfl) rfl rfl
              refine Free.c_yes rfl rfl rfl hg (Free.g_call _ _ rfl Try.func29 (by kernel_rfl) rfl [.pointer (some ⟨p, 0, none⟩)] (by show [a.eval (.tmp 121)] = _; rw [h0]) ?_)
              refine (own_steps hoa).mono fun e w2 ⟨he, hw⟩ => ⟨_, he, ?_, Fa, hw ▸ hoa⟩
              exact congrArg (fun n : Nat => Value.int .i64 (n : Int)) HDs.out
            | 40 =>
              cases hi
              have hg : a.eval (.tmp 120) = .bool false := hpre 37 _ _ (by kernel_rfl) rfl rfl
              exact Free.c_yes rfl rfl rfl hg (Free.g_move _ rfl ⟨((hold 9 (by decide)).trans rfl), Fa, hoa⟩)
            | 41 =>
              cases hi
              have hg : a.eval (.tmp 120) = .bool false := hpre 37 _ _ (by kernel_rfl) rfl rfl
              have h0 : a.eval (.tmp 122) = .int .i64 ((dd : Nat) : Int) := hpre 39 _ _ (by kernel_rfl) rfl rfl
              have h1 : a.eval (.tmp 123) = .int .i64 ((dd : Nat) : Int) := hpre 40 _ _ (by kernel_rfl) rfl rfl
              exact Free.c_yes rfl rfl rfl hg (Free.g_bin _ _ _ _ _ rfl h0 h1 (Free.r_neq _ _ _ _ _ _ _) ⟨congrArg Value.bool (bne_self_eq_false _), Fa, hoa⟩)
            | 42 =>
              cases hi
              have hg : a.eval (.tmp 108) = .bool true := hpre 25 _ _ (by kernel_rfl) rfl rfl
              have h0 : a.eval (.tmp 120) = .bool false := hpre 37 _ _ (by kernel_rfl) rfl rfl
              have h2 : a.eval (.tmp 124) = .bool false := hpre 41 _ _ (by kernel_rfl) rfl rfl
              exact Free.c_yes rfl rfl rfl hg (Free.g_pick _ _ _ rfl h0 rfl h2 ⟨rfl, Fa, hoa⟩)
            | 43 =>
              cases hi
              have hg : a.eval (.tmp 105) = .bool false := hpre 22 _ _ (by kernel_rfl) rfl rfl
              have h0 : a.eval (.tmp 108) = .bool true := hpre 25 _ _ (by kernel_rfl) rfl rfl
              have h1 : a.eval (.tmp 125) = .bool false := hpre 42 _ _ (by kernel_rfl) rfl rfl
              exact Free.c_yes rfl rfl rfl hg (Free.g_pick _ _ _ rfl h0 h1 rfl ⟨rfl, Fa, hoa⟩)
            | 44 =>
              cases hi
              have h0 : a.eval (.tmp 105) = .bool false := hpre 22 _ _ (by kernel_rfl) rfl rfl
              have h2 : a.eval (.tmp 126) = .bool false := hpre 43 _ _ (by kernel_rfl) rfl rfl
              exact Free.c_all rfl (Free.g_pick _ _ _ rfl h0 rfl h2 ⟨rfl, Fa, hoa⟩)
            | 45 =>
              cases hi
              have h0 : a.eval (.tmp 127) = .bool false := hpre 44 _ _ (by kernel_rfl) rfl rfl
              exact Free.c_all rfl (Free.g_move _ rfl ⟨h0, Fa, hoa⟩)
            | 46 =>
              cases hi
              have hg : a.eval (.tmp 128) = .bool false := hpre 45 _ _ (by kernel_rfl) rfl rfl
              exact Free.c_yes rfl rfl rfl hg (Free.g_move _ rfl ⟨((hold 5 (by decide)).trans rfl), Fa, hoa⟩)
            | 47 =>
              cases hi
              have hg : a.eval (.tmp 128) = .bool false := hpre 45 _ _ (by kernel_rfl) rfl rfl
              have h0 : a.eval (.tmp 129) = .pointer (some ⟨p, 0, none⟩) := hpre 46 _ _ (by kernel_rfl) rfl rfl
              refine Free.c_yes rfl rfl rfl hg (Free.g_call _ _ rfl Try.func27 (by kernel_rfl) rfl [.pointer (some ⟨p, 0, none⟩)] (by show [a.eval (.tmp 129)] = _; rw [h0]) ?_)
              refine (own_used hoa).mono fun e w2 ⟨he, hw⟩ => ⟨_, he, ?_, Fa, hw ▸ hoa⟩
              exact congrArg (fun n : Nat => Value.int .i64 (n : Int)) HUs.out
            | 48 =>
              cases hi
              have hg : a.eval (.tmp 128) = .bool false := hpre 45 _ _ (by kernel_rfl) rfl rfl
              exact Free.c_yes rfl rfl rfl hg (Free.g_move _ rfl ⟨((hold 0 (by decide)).trans rfl), Fa, hoa⟩)
            | 49 =>
              cases hi
              have hg : a.eval (.tmp 128) = .bool false := hpre 45 _ _ (by kernel_rfl) rfl rfl
              have h0 : a.eval (.tmp 131) = .int .u16 (q : Nat) := hpre 48 _ _ (by kernel_rfl) rfl rfl
              exact Free.c_yes rfl rfl rfl hg (Free.g_convert _ _ _ rfl h0 (conv_u16 wa hq) ⟨rfl, Fa, hoa⟩)
            | 50 =>
              cases hi
              have hg : a.eval (.tmp 128) = .bool false := hpre 45 _ _ (by kernel_rfl) rfl rfl
              have h0 : a.eval (.tmp 130) = .int .i64 ((us : Nat) : Int) := hpre 47 _ _ (by kernel_rfl) rfl rfl
              have h1 : a.eval (.tmp 132) = .int .i64 ((q : Nat) : Int) := hpre 49 _ _ (by kernel_rfl) rfl rfl
              exact Free.c_yes rfl rfl rfl hg (Free.g_bin _ _ _ _ _ rfl h0 h1 (Free.r_gtr _ _ _ _ _ _ _) ⟨congrArg Value.bool (decide_eq_false (by omega)), Fa, hoa⟩)
            | 51 =>
              cases hi
              have h0 : a.eval (.tmp 128) = .bool false := hpre 45 _ _ (by kernel_rfl) rfl rfl
              have h2 : a.eval (.tmp 133) = .bool false := hpre 50 _ _ (by kernel_rfl) rfl rfl
              exact Free.c_all rfl (Free.g_pick _ _ _ rfl h0 rfl h2 ⟨rfl, Fa, hoa⟩)
            | _ + 52 => cases hi
          · rintro vs w8 hv ⟨F8, ho8⟩
            have h134 : vs 51 = .bool false := hv 51 (by simp) (by rintro o ⟨⟩; rfl)
            have HO8 := Lib.hid ho8; clear ho8 hv
            simp only [Free.puts, Nat.reduceAdd, h134]
            generalize vs 0 = y0
            go_simp
            go_wp2_with fail
            go_roundw
            case rel => exact ⟨k + 1, by omega, by go_num, d', F8, HO8.out, HR'.out⟩
            case measure => simp [intOf]; omega
        · have hrb : rightB nm = true := by simp [rightB]; omega
          have hdc : decide ((nm.size : Int) ≤ 128) = true := decide_eq_true (by omega)
          by_cases hfu : q < us + n
          · have hfb : q < us + by_.size := by have := HNn.out; omega
            obtain ⟨d', hd'⟩ : ∃ d', d' = d := ⟨_, rfl⟩
            have hEd : appE d nm (bl by_).length = 31 ∧ appD d nm (bl by_) = d' := by rw [hd']; exact room_full HR.out hrb hq (by rw [HLen.out]; omega) (by rw [HLen.out, ← HUS.out]; exact hfu)
            have hUs : usedF d'.fs = us := by rw [hd', HUS.out]
            have hDs : d'.deeds = dd := by rw [hd', HDDD.out]
            have hNs : d'.fs.length = nl := by rw [hd', HNL.out]
            have hR' : Roomy q (k + 1) d' := by rw [hd']; exact ⟨HR.out.room, HR.out.off, HR.out.fuse, HR.out.sort, HR.out.used, by have := HR.out.deeds; omega⟩
            have HEd := Lib.hid hEd; have HUs := Lib.hid hUs; have HDs := Lib.hid hDs; have HNs := Lib.hid hNs; have HR' := Lib.hid hR'
            clear hEd hUs hDs hNs hR' hd'
            go_wp2_with fail
            obtain ⟨c5, w5, hr5, hB, hb5, hc5, hcm5, hlt5⟩ := run_tobytes (P := Try.prog) (src := 9) (dst := 36) (e := 5) w2.drew by_ Try.underlying9 Try.underlying36 Try.underlying5 (by unfold maxLen; omega)
            have hap := own_append (HO2.out.drew.made hb5) nm ⟨w2.drew.heap.size, 0, none⟩ (bl by_) c5 hB (fun _ e => by have := (HO2.out.mine _ e).2; simp at this) (by omega) (by rw [HLen.out]; omega) (by rw [← HDDD.out]; omega)
            rw [HEd.out.1, HEd.out.2, HLen.out] at hap
            have hcn' : ∀ b1 w', Seq4 w2.drew w5 (fun w' => ∃ F', OwnF w w' p d' F') b1 false w' → w'.cell? ⟨b, off + k * 5 + 1, none⟩ = some (.string nm) := by
              intro b1 w' hw
              cases b1 with
              | false => obtain rfl : w' = w2.drew := hw; exact HC1.out _ HO2.out.drew.below
              | true => obtain rfl : w' = w5 := hw; exact HC1.out _ (HO2.out.drew.made hb5).below
            have hcb' : ∀ b1 w', Seq4 w2.drew w5 (fun w' => ∃ F', OwnF w w' p d' F') b1 false w' → w'.cell? ⟨b, off + k * 5 + 2, none⟩ = some (.string by_) := by
              intro b1 w' hw
              cases b1 with
              | false => obtain rfl : w' = w2.drew := hw; exact HC2.out _ HO2.out.drew.below
              | true => obtain rfl : w' = w5 := hw; exact HC2.out _ (HO2.out.drew.made hb5).below
            have HAp := Lib.hid hap; have HCn := Lib.hid hcn'; have HCb := Lib.hid hcb'; have HR5 := Lib.hid hr5
            clear hap hcn' hcb' hr5 hB hb5 hc5 hcm5 hlt5 hcn hcb
            refine Stage.wp_region (by kernel_rfl) (by kernel_rfl) (Stage.two 11 12 (Seq4 w2.drew w5 (fun w' => ∃ F', OwnF w w' p d' F'))) (Stage.two_start (by simp) (by simp) (show Seq4 w2.drew w5 (fun w' => ∃ F', OwnF w w' p d' F') false false w2.drew from rfl)) ?_
            refine Stage.wpSt_reads 5 (fun _ => True) (by kernel_rfl) (Stage.two_any (by simp) (by simp)) ?_
            simp only [List.take_succ_cons, List.take_zero, List.drop_succ_cons, List.drop_zero]
            repeat (go_big_quiet_step (fail))
            refine wpQuiet_nil ?_
            refine Stage.wpSt_do (.string nm) rfl (Stage.two_step (by kernel_rfl) (fun b1 w' hw => Free.at_load _ _ rfl rfl (load_str2 (HCn.out b1 w' hw)) hw)) ?_
            go_simp
            refine Stage.wpSt_reads 4 (fun _ => True) (by kernel_rfl) (Stage.two_any (by simp) (by simp)) ?_
            simp only [List.take_succ_cons, List.take_zero, List.drop_succ_cons, List.drop_zero]
            repeat (go_big_quiet_step (fail))
            refine wpQuiet_nil ?_
            refine Stage.wpSt_do (.string by_) rfl (Stage.two_step (by kernel_rfl) (fun b1 w' hw => Free.at_load _ _ rfl rfl (load_str2 (HCb.out b1 w' hw)) hw)) ?_
            go_simp
            refine Stage.wpSt_do (.slice (some ⟨w2.drew.heap.size, 0, none⟩) by_.size c5) rfl (Stage.two_first (by decide) (by kernel_rfl) ?_) ?_
            · intro w' hw
              obtain rfl : w' = w2.drew := hw
              exact Stage.at_convert2 _ _ _ rfl rfl HR5.out rfl
            go_simp
            refine Stage.wpSt_do (.int .i64 31) rfl (Stage.two_then (by decide) (by kernel_rfl) ?_) ?_
            · intro w' hw
              obtain rfl : w' = w5 := hw
              refine Free.at_call _ _ rfl Try.func14 (by kernel_rfl) rfl [.pointer (some ⟨p, 0, none⟩), .string nm, .slice (some ⟨w2.drew.heap.size, 0, none⟩) by_.size c5] rfl ?_
              rw [← HNn.out]
              exact HAp.out.mono fun e w'' ⟨he, h1, _⟩ => ⟨he, _, h1⟩
            go_simp
            refine Stage.wpSt_reads 1 (fun _ => True) (by kernel_rfl) (Stage.two_any (by simp) (by simp)) ?_
            simp only [List.take_succ_cons, List.take_zero, List.drop_succ_cons, List.drop_zero]
            repeat (go_big_quiet_step (fail))
            refine wpQuiet_nil (Stage.wpSt_nil (Stage.two_end ?_))
            rintro w7 ⟨F7, ho7⟩
            have hcb7 := HC2.out w7 ho7.below
            go_simp
            go_wp2_with fail
            refine Free.wp_guarded (by kernel_rfl) (by kernel_rfl) (fun w' => ∃ F', OwnF w w' p d' F') (V18no us n nl dd q k b off p l.length c by_ (31)) ⟨F7, ho7.drew⟩ ?_ ?_
            · intro i o hi a wa hold hpre hF
              obtain ⟨Fa, hoa⟩ := hF
              match i with
              | 0 =>
                cases hi
                exact Free.c_all rfl (Free.g_move _ rfl ⟨((hold 11 (by decide)).trans rfl), Fa, hoa⟩)
              | 1 =>
                cases hi
                have h0 : a.eval (.tmp 83) = .int .i64 31 := hpre 0 _ _ (by kernel_rfl) rfl rfl
                exact Free.c_all rfl (Free.g_bin _ _ _ _ _ rfl h0 rfl (Free.r_eql _ _ _ _ _ _ _) ⟨rfl, Fa, hoa⟩)
              | 2 =>
                cases hi
                have h0 : a.eval (.tmp 84) = .bool false := hpre 1 _ _ (by kernel_rfl) rfl rfl
                exact Free.c_all rfl (Free.g_move _ rfl ⟨h0, Fa, hoa⟩)
              | 3 =>
                cases hi
                have hg : a.eval (.tmp 85) = .bool false := hpre 2 _ _ (by kernel_rfl) rfl rfl
                exact Free.c_no rfl rfl rfl hg ⟨rfl, Fa, hoa⟩
              | 4 =>
                cases hi
                have hg : a.eval (.tmp 85) = .bool false := hpre 2 _ _ (by kernel_rfl) rfl rfl
                exact Free.c_no rfl rfl rfl hg ⟨rfl, Fa, hoa⟩
              | 5 =>
                cases hi
                have hg : a.eval (.tmp 85) = .bool false := hpre 2 _ _ (by kernel_rfl) rfl rfl
                exact Free.c_no rfl rfl rfl hg ⟨rfl, Fa, hoa⟩
              | 6 =>
                cases hi
                have hg : a.eval (.tmp 85) = .bool false := hpre 2 _ _ (by kernel_rfl) rfl rfl
                exact Free.c_no rfl rfl rfl hg ⟨rfl, Fa, hoa⟩
              | 7 =>
                cases hi
                have hg : a.eval (.tmp 85) = .bool false := hpre 2 _ _ (by kernel_rfl) rfl rfl
                exact Free.c_no rfl rfl rfl hg ⟨rfl, Fa, hoa⟩
              | 8 =>
                cases hi
                have hg : a.eval (.tmp 85) = .bool false := hpre 2 _ _ (by kernel_rfl) rfl rfl
                exact Free.c_no rfl rfl rfl hg ⟨rfl, Fa, hoa⟩
              | 9 =>
                cases hi
                have hg : a.eval (.tmp 85) = .bool false := hpre 2 _ _ (by kernel_rfl) rfl rfl
                exact Free.c_no rfl rfl rfl hg ⟨rfl, Fa, hoa⟩
              | 10 =>
                cases hi
                have hg : a.eval (.tmp 85) = .bool false := hpre 2 _ _ (by kernel_rfl) rfl rfl
                exact Free.c_no rfl rfl rfl hg ⟨rfl, Fa, hoa⟩
              | 11 =>
                cases hi
                have hg : a.eval (.tmp 85) = .bool false := hpre 2 _ _ (by kernel_rfl) rfl rfl
                exact Free.c_no rfl rfl rfl hg ⟨rfl, Fa, hoa⟩
              | 12 =>
                cases hi
                have hg : a.eval (.tmp 85) = .bool false := hpre 2 _ _ (by kernel_rfl) rfl rfl
                exact Free.c_no rfl rfl rfl hg ⟨rfl, Fa, hoa⟩
              | 13 =>
                cases hi
                have hg : a.eval (.tmp 85) = .bool false := hpre 2 _ _ (by kernel_rfl) rfl rfl
                exact Free.c_no rfl rfl rfl hg ⟨rfl, Fa, hoa⟩
              | 14 =>
                cases hi
                have hg : a.eval (.tmp 85) = .bool false := hpre 2 _ _ (by kernel_rfl) rfl rfl
                exact Free.c_no rfl rfl rfl hg ⟨rfl, Fa, hoa⟩
              | 15 =>
                cases hi
                have hg : a.eval (.tmp 97) = undef := hpre 14 _ _ (by kernel_rfl) rfl rfl
                exact Free.c_none rfl rfl rfl hg ⟨rfl, Fa, hoa⟩
              | 16 =>
                cases hi
                have hg : a.eval (.tmp 97) = undef := hpre 14 _ _ (by kernel_rfl) rfl rfl
                exact Free.c_none rfl rfl rfl hg ⟨rfl, Fa, hoa⟩
              | 17 =>
                cases hi
                have hg : a.eval (.tmp 97) = undef := hpre 14 _ _ (by kernel_rfl) rfl rfl
                exact Free.c_none rfl rfl rfl hg ⟨rfl, Fa, hoa⟩
              | 18 =>
                cases hi
                have hg : a.eval (.tmp 97) = undef := hpre 14 _ _ (by kernel_rfl) rfl rfl
                exact Free.c_none rfl rfl rfl hg ⟨rfl, Fa, hoa⟩
              | 19 =>
                cases hi
                have hg : a.eval (.tmp 97) = undef := hpre 14 _ _ (by kernel_rfl) rfl rfl
                exact Free.c_none rfl rfl rfl hg ⟨rfl, Fa, hoa⟩
              | 20 =>
                cases hi
                have hg : a.eval (.tmp 85) = .bool false := hpre 2 _ _ (by kernel_rfl) rfl rfl
                exact Free.c_no rfl rfl rfl hg ⟨rfl, Fa, hoa⟩
              | 21 =>
                cases hi
                have h0 : a.eval (.tmp 85) = .bool false := hpre 2 _ _ (by kernel_rfl) rfl rfl
                have h1 : a.eval (.tmp 103) = undef := hpre 20 _ _ (by kernel_rfl) rfl rfl
                exact Free.c_all rfl (Free.g_pick _ _ _ rfl h0 h1 rfl ⟨rfl, Fa, hoa⟩)
              | 22 =>
                cases hi
                have h0 : a.eval (.tmp 104) = .bool false := hpre 21 _ _ (by kernel_rfl) rfl rfl
                exact Free.c_all rfl (Free.g_move _ rfl ⟨h0, Fa, hoa⟩)
              | 23 =>
                cases hi
                have hg : a.eval (.tmp 105) = .bool false := hpre 22 _ _ (by kernel_rfl) rfl rfl
                exact Free.c_yes rfl rfl rfl hg (Free.g_move _ rfl ⟨((hold 11 (by decide)).trans rfl), Fa, hoa⟩)
              | 24 =>
                cases hi
                have hg : a.eval (.tmp 105) = .bool false := hpre 22 _ _ (by kernel_rfl) rfl rfl
                have h0 : a.eval (.tmp 106) = .int .i64 31 := hpre 23 _ _ (by kernel_rfl) rfl rfl
                exact Free.c_yes rfl rfl rfl hg (Free.g_bin _ _ _ _ _ rfl h0 rfl (Free.r_neq _ _ _ _ _ _ _) ⟨rfl, Fa, hoa⟩)
              | 25 =>
                cases hi
                have hg : a.eval (.tmp 105) = .bool false := hpre 22 _ _ (by kernel_rfl) rfl rfl
                have h0 : a.eval (.tmp 107) = .bool true := hpre 24 _ _ (by kernel_rfl) rfl rfl
                exact Free.c_yes rfl rfl rfl hg (Free.g_move _ rfl ⟨h0, Fa, hoa⟩)
              | 26 =>
                cases hi
                have hg : a.eval (.tmp 108) = .bool true := hpre 25 _ _ (by kernel_rfl) rfl rfl
                exact Free.c_yes rfl rfl rfl hg (Free.g_move _ rfl ⟨((hold 5 (by decide)).trans rfl), Fa, hoa⟩)
              | 27 =>
                cases hi
                have hg : a.eval (.tmp 108) = .bool true := hpre 25 _ _ (by kernel_rfl) rfl rfl
                have h0 : a.eval (.tmp 109) = .pointer (some ⟨p, 0, none⟩) := hpre 26 _ _ (by kernel_rfl) rfl rfl
                refine Free.c_yes rfl rfl rfl hg (Free.g_call _ _ rfl Try.func27 (by kernel_rfl) rfl [.pointer (some ⟨p, 0, none⟩)] (by show [a.eval (.tmp 109)] = _; rw [h0]) ?_)
                refine (own_used hoa).mono fun e w2 ⟨he, hw⟩ => ⟨_, he, ?_, Fa, hw ▸ hoa⟩
                exact congrArg (fun n : Nat => Value.int .i64 (n : Int)) HUs.out
              | 28 =>
                cases hi
                have hg : a.eval (.tmp 108) = .bool true := hpre 25 _ _ (by kernel_rfl) rfl rfl
                exact Free.c_yes rfl rfl rfl hg (Free.g_move _ rfl ⟨((hold 7 (by decide)).trans rfl), Fa, hoa⟩)
              | 29 =>
                cases hi
                have hg : a.eval (.tmp 108) = .bool true := hpre 25 _ _ (by kernel_rfl) rfl rfl
                have h0 : a.eval (.tmp 110) = .int .i64 ((us : Nat) : Int) := hpre 27 _ _ (by kernel_rfl) rfl rfl
                have h1 : a.eval (.tmp 111) = .int .i64 ((us : Nat) : Int) := hpre 28 _ _ (by kernel_rfl) rfl rfl
                exact Free.c_yes rfl rfl rfl hg (Free.g_bin _ _ _ _ _ rfl h0 h1 (Free.r_neq _ _ _ _ _ _ _) ⟨congrArg Value.bool (bne_self_eq_false _), Fa, hoa⟩)
              | 30 =>
                cases hi
                have hg : a.eval (.tmp 108) = .bool true := hpre 25 _ _ (by kernel_rfl) rfl rfl
                have h0 : a.eval (.tmp 112) = .bool false := hpre 29 _ _ (by kernel_rfl) rfl rfl
                exact Free.c_yes rfl rfl rfl hg (Free.g_move _ rfl ⟨h0, Fa, hoa⟩)
              | 31 =>
                cases hi
                have hg : a.eval (.tmp 113) = .bool false := hpre 30 _ _ (by kernel_rfl) rfl rfl
                exact Free.c_yes rfl rfl rfl hg (Free.g_move _ rfl ⟨((hold 5 (by decide)).trans rfl), Fa, hoa⟩)
              | 32 =>
                cases hi
                have hg : a.eval (.tmp 113) = .bool false := hpre 30 _ _ (by kernel_rfl) rfl rfl
                have h0 : a.eval (.tmp 114) = .pointer (some ⟨p, 0, none⟩) := hpre 31 _ _ (by kernel_rfl) rfl rfl
                refine Free.c_yes rfl rfl rfl hg (Free.g_call _ _ rfl Try.func28 (by kernel_rfl) rfl [.pointer (some ⟨p, 0, none⟩)] (by show [a.eval (.tmp 114)] = _; rw [h0]) ?_)
                exact (own_names hoa (by rw [HDs.out]; omega)).mono fun e w2 ⟨A9, c9, he, ho9, _⟩ => ⟨_, he, ⟨A9, c9, by rw [HNs.out]⟩, Fa, ho9⟩
              | 33 =>
                cases hi
                have hg : a.eval (.tmp 113) = .bool false := hpre 30 _ _ (by kernel_rfl) rfl rfl
                obtain ⟨A9, c9, h0⟩ : ∃ A9 c9, a.eval (.tmp 115) = .slice A9 nl c9 := hpre 32 _ _ (by kernel_rfl) rfl rfl
                exact Free.c_yes rfl rfl rfl hg (Free.g_len _ _ rfl h0 (run_len_slice wa _ _ _ _ _ Try.underlying42) ⟨rfl, Fa, hoa⟩)
              | 34 =>
                cases hi
                have hg : a.eval (.tmp 113) = .bool false := hpre 30 _ _ (by kernel_rfl) rfl rfl
                exact Free.c_yes rfl rfl rfl hg (Free.g_move _ rfl ⟨((hold 8 (by decide)).trans rfl), Fa, hoa⟩)
              | 35 =>
                cases hi
                have hg : a.eval (.tmp 113) = .bool false := hpre 30 _ _ (by kernel_rfl) rfl rfl
                have h0 : a.eval (.tmp 116) = .int .i64 ((nl : Nat) : Int) := hpre 33 _ _ (by kernel_rfl) rfl rfl
                have h1 : a.eval (.tmp 117) = .int .i64 ((nl : Nat) : Int) := hpre 34 _ _ (by kernel_rfl) rfl rfl
                exact Free.c_yes rfl rfl rfl hg (Free.g_bin _ _ _ _ _ rfl h0 h1 (Free.r_neq _ _ _ _ _ _ _) ⟨congrArg Value.bool (bne_self_eq_false _), Fa, hoa⟩)
              | 36 =>
                cases hi
                have hg : a.eval (.tmp 108) = .bool true := hpre 25 _ _ (by kernel_rfl) rfl rfl
                have h0 : a.eval (.tmp 113) = .bool false := hpre 30 _ _ (by kernel_rfl) rfl rfl
                have h2 : a.eval (.tmp 118) = .bool false := hpre 35 _ _ (by kernel_rfl) rfl rfl
                exact Free.c_yes rfl rfl rfl hg (Free.g_pick _ _ _ rfl h0 rfl h2 ⟨rfl, Fa, hoa⟩)
              | 37 =>
                cases hi
                have hg : a.eval (.tmp 108) = .bool true := hpre 25 _ _ (by kernel_rfl) rfl rfl
                have h0 : a.eval (.tmp 119) = .bool false := hpre 36 _ _ (by kernel_rfl) rfl rfl
                exact Free.c_yes rfl rfl rfl hg (Free.g_move _ rfl ⟨h0, Fa, hoa⟩)
              | 38 =>
                cases hi
                have hg : a.eval (.tmp 120) = .bool false := hpre 37 _ _ (by kernel_rfl) rfl rfl
                exact Free.c_yes rfl rfl rfl hg (Free.g_move _ rfl ⟨((hold 5 (by decide)).trans rfl), Fa, hoa⟩)
              | 39 =>
                cases hi
                have hg : a.eval (.tmp 120) = .bool false := hpre 37 _ _ (by kernel_rfl) rfl rfl
                have h0 : a.eval (.tmp 121) = .pointer (some ⟨p, 0, none⟩) := hpre 38 _ _ (by kernel_rfl) rfl rfl
                refine Free.c_yes rfl rfl rfl hg (Free.g_call _ _ rfl Try.func29 (by kernel_rfl) rfl [.pointer (some ⟨p, 0, none⟩)] (by show [a.eval (.tmp 121)] = _; rw [h0]) ?_)
                refine (own_steps hoa).mono fun e w2 ⟨he, hw⟩ => ⟨_, he, ?_, Fa, hw ▸ hoa⟩
                exact congrArg (fun n : Nat => Value.int .i64 (n : Int)) HDs.out
              | 40 =>
                cases hi
                have hg : a.eval (.tmp 120) = .bool false := hpre 37 _ _ (by kernel_rfl) rfl rfl
                exact Free.c_yes rfl rfl rfl hg (Free.g_move _ rfl ⟨((hold 9 (by decide)).trans rfl), Fa, hoa⟩)
              | 41 =>
                cases hi
                have hg : a.eval (.tmp 120) = .bool false := hpre 37 _ _ (by kernel_rfl) rfl rfl
                have h0 : a.eval (.tmp 122) = .int .i64 ((dd : Nat) : Int) := hpre 39 _ _ (by kernel_rfl) rfl rfl
                have h1 : a.eval (.tmp 123) = .int .i64 ((dd : Nat) : Int) := hpre 40 _ _ (by kernel_rfl) rfl rfl
                exact Free.c_yes rfl rfl rfl hg (Free.g_bin _ _ _ _ _ rfl h0 h1 (Free.r_neq _ _ _ _ _ _ _) ⟨congrArg Value.bool (bne_self_eq_false _), Fa, hoa⟩)
              | 42 =>
                cases hi
                have hg : a.eval (.tmp 108) = .bool true := hpre 25 _ _ (by kernel_rfl) rfl rfl
                have h0 : a.eval (.tmp 120) = .bool false := hpre 37 _ _ (by kernel_rfl) rfl rfl
                have h2 : a.eval (.tmp 124) = .bool false := hpre 41 _ _ (by kernel_rfl) rfl rfl
                exact Free.c_yes rfl rfl rfl hg (Free.g_pick _ _ _ rfl h0 rfl h2 ⟨rfl, Fa, hoa⟩)
              | 43 =>
                cases hi
                have hg : a.eval (.tmp 105) = .bool false := hpre 22 _ _ (by kernel_rfl) rfl rfl
                have h0 : a.eval (.tmp 108) = .bool true := hpre 25 _ _ (by kernel_rfl) rfl rfl
                have h1 : a.eval (.tmp 125) = .bool false := hpre 42 _ _ (by kernel_rfl) rfl rfl
                exact Free.c_yes rfl rfl rfl hg (Free.g_pick _ _ _ rfl h0 h1 rfl ⟨rfl, Fa, hoa⟩)
              | 44 =>
                cases hi
                have h0 : a.eval (.tmp 105) = .bool false := hpre 22 _ _ (by kernel_rfl) rfl rfl
                have h2 : a.eval (.tmp 126) = .bool false := hpre 43 _ _ (by kernel_rfl) rfl rfl
                exact Free.c_all rfl (Free.g_pick _ _ _ rfl h0 rfl h2 ⟨rfl, Fa, hoa⟩)
              | 45 =>
                cases hi
                have h0 : a.eval (.tmp 127) = .bool false := hpre 44 _ _ (by kernel_rfl) rfl rfl
                exact Free.c_all rfl (Free.g_move _ rfl ⟨h0, Fa, hoa⟩)
              | 46 =>
                cases hi
                have hg : a.eval (.tmp 128) = .bool false := hpre 45 _ _ (by kernel_rfl) rfl rfl
                exact Free.c_yes rfl rfl rfl hg (Free.g_move _ rfl ⟨((hold 5 (by decide)).trans rfl), Fa, hoa⟩)
              | 47 =>
                cases hi
                have hg : a.eval (.tmp 128) = .bool false := hpre 45 _ _ (by kernel_rfl) rfl rfl
                have h0 : a.eval (.tmp 129) = .pointer (some ⟨p, 0, none⟩) := hpre 46 _ _ (by kernel_rfl) rfl rfl
                refine Free.c_yes rfl rfl rfl hg (Free.g_call _ _ rfl Try.func27 (by kernel_rfl) rfl [.pointer (some ⟨p, 0, none⟩)] (by show [a.eval (.tmp 129)] = _; rw [h0]) ?_)
                refine (own_used hoa).mono fun e w2 ⟨he, hw⟩ => ⟨_, he, ?_, Fa, hw ▸ hoa⟩
                exact congrArg (fun n : Nat => Value.int .i64 (n : Int)) HUs.out
              | 48 =>
                cases hi
                have hg : a.eval (.tmp 128) = .bool false := hpre 45 _ _ (by kernel_rfl) rfl rfl
                exact Free.c_yes rfl rfl rfl hg (Free.g_move _ rfl ⟨((hold 0 (by decide)).trans rfl), Fa, hoa⟩)
              | 49 =>
                cases hi
                have hg : a.eval (.tmp 128) = .bool false := hpre 45 _ _ (by kernel_rfl) rfl rfl
                have h0 : a.eval (.tmp 131) = .int .u16 (q : Nat) := hpre 48 _ _ (by kernel_rfl) rfl rfl
                exact Free.c_yes rfl rfl rfl hg (Free.g_convert _ _ _ rfl h0 (conv_u16 wa hq) ⟨rfl, Fa, hoa⟩)
              | 50 =>
                cases hi
                have hg : a.eval (.tmp 128) = .bool false := hpre 45 _ _ (by kernel_rfl) rfl rfl
                have h0 : a.eval (.tmp 130) = .int .i64 ((us : Nat) : Int) := hpre 47 _ _ (by kernel_rfl) rfl rfl
                have h1 : a.eval (.tmp 132) = .int .i64 ((q : Nat) : Int) := hpre 49 _ _ (by kernel_rfl) rfl rfl
                exact Free.c_yes rfl rfl rfl hg (Free.g_bin _ _ _ _ _ rfl h0 h1 (Free.r_gtr _ _ _ _ _ _ _) ⟨congrArg Value.bool (decide_eq_false (by omega)), Fa, hoa⟩)
              | 51 =>
                cases hi
                have h0 : a.eval (.tmp 128) = .bool false := hpre 45 _ _ (by kernel_rfl) rfl rfl
                have h2 : a.eval (.tmp 133) = .bool false := hpre 50 _ _ (by kernel_rfl) rfl rfl
                exact Free.c_all rfl (Free.g_pick _ _ _ rfl h0 rfl h2 ⟨rfl, Fa, hoa⟩)
              | _ + 52 => cases hi
            · rintro vs w8 hv ⟨F8, ho8⟩
              have h134 : vs 51 = .bool false := hv 51 (by simp) (by rintro o ⟨⟩; rfl)
              have HO8 := Lib.hid ho8; clear ho8 hv
              simp only [Free.puts, Nat.reduceAdd, h134]
              generalize vs 0 = y0
              go_simp
              go_wp2_with fail
              go_roundw
              case rel => exact ⟨k + 1, by omega, by go_num, d', F8, HO8.out, HR'.out⟩
              case measure => simp [intOf]; omega
          · have hfb : us + by_.size ≤ q := by have := HNn.out; omega
            have hro := room_ok HR.out (s := nm) (bs := bl by_) hrb hq (by rw [HLen.out]; omega) (by rw [HLen.out, ← HUS.out]; omega)
            rw [← HUS.out, ← HDDD.out] at hro
            obtain ⟨d', hd'⟩ : ∃ d', d' = appD d nm (bl by_) := ⟨_, rfl⟩
            rw [← hd', HLen.out] at hro
            have hEd : appE d nm (bl by_).length = 0 ∧ appD d nm (bl by_) = d' := ⟨by rw [HLen.out]; exact hro.1, hd'.symm⟩
            have HEd := Lib.hid hEd; have HUs := Lib.hid hro.2.1; have HDs := Lib.hid hro.2.2.1; have HR' := Lib.hid hro.2.2.2
            clear hEd hro hd'
            go_wp2_with fail
            obtain ⟨c5, w5, hr5, hB, hb5, hc5, hcm5, hlt5⟩ := run_tobytes (P := Try.prog) (src := 9) (dst := 36) (e := 5) w2.drew by_ Try.underlying9 Try.underlying36 Try.underlying5 (by unfold maxLen; omega)
            have hap := own_append (HO2.out.drew.made hb5) nm ⟨w2.drew.heap.size, 0, none⟩ (bl by_) c5 hB (fun _ e => by have := (HO2.out.mine _ e).2; simp at this) (by omega) (by rw [HLen.out]; omega) (by rw [← HDDD.out]; omega)
            rw [HEd.out.1, HEd.out.2, HLen.out] at hap
            have hcn' : ∀ b1 w', Seq4 w2.drew w5 (fun w' => ∃ F', OwnF w w' p d' F') b1 false w' → w'.cell? ⟨b, off + k * 5 + 1, none⟩ = some (.string nm) := by
              intro b1 w' hw
              cases b1 with
              | false => obtain rfl : w' = w2.drew := hw; exact HC1.out _ HO2.out.drew.below
              | true => obtain rfl : w' = w5 := hw; exact HC1.out _ (HO2.out.drew.made hb5).below
            have hcb' : ∀ b1 w', Seq4 w2.drew w5 (fun w' => ∃ F', OwnF w w' p d' F') b1 false w' → w'.cell? ⟨b, off + k * 5 + 2, none⟩ = some (.string by_) := by
              intro b1 w' hw
              cases b1 with
              | false => obtain rfl : w' = w2.drew := hw; exact HC2.out _ HO2.out.drew.below
              | true => obtain rfl : w' = w5 := hw; exact HC2.out _ (HO2.out.drew.made hb5).below
            have HAp := Lib.hid hap; have HCn := Lib.hid hcn'; have HCb := Lib.hid hcb'; have HR5 := Lib.hid hr5
            clear hap hcn' hcb' hr5 hB hb5 hc5 hcm5 hlt5 hcn hcb
            refine Stage.wp_region (by kernel_rfl) (by kernel_rfl) (Stage.two 11 12 (Seq4 w2.drew w5 (fun w' => ∃ F', OwnF w w' p d' F'))) (Stage.two_start (by simp) (by simp) (show Seq4 w2.drew w5 (fun w' => ∃ F', OwnF w w' p d' F') false false w2.drew from rfl)) ?_
            refine Stage.wpSt_reads 5 (fun _ => True) (by kernel_rfl) (Stage.two_any (by simp) (by simp)) ?_
            simp only [List.take_succ_cons, List.take_zero, List.drop_succ_cons, List.drop_zero]
            repeat (go_big_quiet_step (fail))
            refine wpQuiet_nil ?_
            refine Stage.wpSt_do (.string nm) rfl (Stage.two_step (by kernel_rfl) (fun b1 w' hw => Free.at_load _ _ rfl rfl (load_str2 (HCn.out b1 w' hw)) hw)) ?_
            go_simp
            refine Stage.wpSt_reads 4 (fun _ => True) (by kernel_rfl) (Stage.two_any (by simp) (by simp)) ?_
            simp only [List.take_succ_cons, List.take_zero, List.drop_succ_cons, List.drop_zero]
            repeat (go_big_quiet_step (fail))
            refine wpQuiet_nil ?_
            refine Stage.wpSt_do (.string by_) rfl (Stage.two_step (by kernel_rfl) (fun b1 w' hw => Free.at_load _ _ rfl rfl (load_str2 (HCb.out b1 w' hw)) hw)) ?_
            go_simp
            refine Stage.wpSt_do (.slice (some ⟨w2.drew.heap.size, 0, none⟩) by_.size c5) rfl (Stage.two_first (by decide) (by kernel_rfl) ?_) ?_
            · intro w' hw
              obtain rfl : w' = w2.drew := hw
              exact Stage.at_convert2 _ _ _ rfl rfl HR5.out rfl
            go_simp
            refine Stage.wpSt_do (.int .i64 0) rfl (Stage.two_then (by decide) (by kernel_rfl) ?_) ?_
            · intro w' hw
              obtain rfl : w' = w5 := hw
              refine Free.at_call _ _ rfl Try.func14 (by kernel_rfl) rfl [.pointer (some ⟨p, 0, none⟩), .string nm, .slice (some ⟨w2.drew.heap.size, 0, none⟩) by_.size c5] rfl ?_
              rw [← HNn.out]
              exact HAp.out.mono fun e w'' ⟨he, h1, _⟩ => ⟨he, _, h1⟩
            go_simp
            refine Stage.wpSt_reads 1 (fun _ => True) (by kernel_rfl) (Stage.two_any (by simp) (by simp)) ?_
            simp only [List.take_succ_cons, List.take_zero, List.drop_succ_cons, List.drop_zero]
            repeat (go_big_quiet_step (fail))
            refine wpQuiet_nil (Stage.wpSt_nil (Stage.two_end ?_))
            rintro w7 ⟨F7, ho7⟩
            have hcb7 := HC2.out w7 ho7.below
            go_simp
            go_wp2_with fail
            refine Free.wp_guarded (by kernel_rfl) (by kernel_rfl) (fun w' => ∃ F', OwnF w w' p d' F') (V18ok us n nl dd q k b off p l.length c by_ (0)) ⟨F7, ho7.drew⟩ ?_ ?_
            · intro i o hi a wa hold hpre hF
              obtain ⟨Fa, hoa⟩ := hF
              match i with
              | 0 =>
                cases hi
                exact Free.c_all rfl (Free.g_move _ rfl ⟨((hold 11 (by decide)).trans rfl), Fa, hoa⟩)
              | 1 =>
                cases hi
                have h0 : a.eval (.tmp 83) = .int .i64 0 := hpre 0 _ _ (by kernel_rfl) rfl rfl
                exact Free.c_all rfl (Free.g_bin _ _ _ _ _ rfl h0 rfl (Free.r_eql _ _ _ _ _ _ _) ⟨rfl, Fa, hoa⟩)
              | 2 =>
                cases hi
                have h0 : a.eval (.tmp 84) = .bool true := hpre 1 _ _ (by kernel_rfl) rfl rfl
                exact Free.c_all rfl (Free.g_move _ rfl ⟨h0, Fa, hoa⟩)
              | 3 =>
                cases hi
                have hg : a.eval (.tmp 85) = .bool true := hpre 2 _ _ (by kernel_rfl) rfl rfl
                exact Free.c_yes rfl rfl rfl hg (Free.g_move _ rfl ⟨((hold 5 (by decide)).trans rfl), Fa, hoa⟩)
              | 4 =>
                cases hi
                have hg : a.eval (.tmp 85) = .bool true := hpre 2 _ _ (by kernel_rfl) rfl rfl
                have h0 : a.eval (.tmp 86) = .pointer (some ⟨p, 0, none⟩) := hpre 3 _ _ (by kernel_rfl) rfl rfl
                refine Free.c_yes rfl rfl rfl hg (Free.g_call _ _ rfl Try.func27 (by kernel_rfl) rfl [.pointer (some ⟨p, 0, none⟩)] (by show [a.eval (.tmp 86)] = _; rw [h0]) ?_)
                refine (own_used hoa).mono fun e w2 ⟨he, hw⟩ => ⟨_, he, ?_, Fa, hw ▸ hoa⟩
                exact congrArg (fun n : Nat => Value.int .i64 (n : Int)) HUs.out
              | 5 =>
                cases hi
                have hg : a.eval (.tmp 85) = .bool true := hpre 2 _ _ (by kernel_rfl) rfl rfl
                exact Free.c_yes rfl rfl rfl hg (Free.g_move _ rfl ⟨((hold 7 (by decide)).trans rfl), Fa, hoa⟩)
              | 6 =>
                cases hi
                have hg : a.eval (.tmp 85) = .bool true := hpre 2 _ _ (by kernel_rfl) rfl rfl
                exact Free.c_yes rfl rfl rfl hg (Free.g_move _ rfl ⟨((hold 1 (by decide)).trans rfl), Fa, hoa⟩)
              | 7 =>
                cases hi
                have hg : a.eval (.tmp 85) = .bool true := hpre 2 _ _ (by kernel_rfl) rfl rfl
                exact Free.c_yes rfl rfl rfl hg (Free.g_move _ rfl ⟨((hold 6 (by decide)).trans rfl), Fa, hoa⟩)
              | 8 =>
                cases hi
                have hg : a.eval (.tmp 85) = .bool true := hpre 2 _ _ (by kernel_rfl) rfl rfl
                have h0 : a.eval (.tmp 89) = .slice (some ⟨b, off, none⟩) l.length c := hpre 6 _ _ (by kernel_rfl) rfl rfl
                have h1 : a.eval (.tmp 90) = .int .i64 ((k : Nat) : Int) := hpre 7 _ _ (by kernel_rfl) rfl rfl
                exact Free.c_yes rfl rfl rfl hg (Free.g_indexAddr _ _ _ rfl h0 h1 (deed_ix wa hlt) ⟨rfl, Fa, hoa⟩)
              | 9 =>
                cases hi
                have hg : a.eval (.tmp 85) = .bool true := hpre 2 _ _ (by kernel_rfl) rfl rfl
                have h0 : a.eval (.tmp 91) = .pointer (some ⟨b, off + k * 5, none⟩) := hpre 8 _ _ (by kernel_rfl) rfl rfl
                exact Free.c_yes rfl rfl rfl hg (Free.g_field _ _ _ rfl h0 (deed_field wa 2 (.inr rfl)) ⟨rfl, Fa, hoa⟩)
              | 10 =>
                cases hi
                have hg : a.eval (.tmp 85) = .bool true := hpre 2 _ _ (by kernel_rfl) rfl rfl
                have h0 : a.eval (.tmp 92) = .pointer (some ⟨b, off + k * 5 + 2, none⟩) := hpre 9 _ _ (by kernel_rfl) rfl rfl
                exact Free.c_yes rfl rfl rfl hg (Free.g_load _ _ rfl h0 (load_str2 (HC2.out wa hoa.below)) ⟨rfl, Fa, hoa⟩)
              | 11 =>
                cases hi
                have hg : a.eval (.tmp 85) = .bool true := hpre 2 _ _ (by kernel_rfl) rfl rfl
                have h0 : a.eval (.tmp 93) = .string by_ := hpre 10 _ _ (by kernel_rfl) rfl rfl
                exact Free.c_yes rfl rfl rfl hg (Free.g_len _ _ rfl h0 (run_len_string wa _ _ _ Try.underlying9) ⟨congrArg (fun n : Nat => Value.int .i64 (n : Int)) HNn.out.symm, Fa, hoa⟩)
              | 12 =>
                cases hi
                have hg : a.eval (.tmp 85) = .bool true := hpre 2 _ _ (by kernel_rfl) rfl rfl
                have h0 : a.eval (.tmp 88) = .int .i64 ((us : Nat) : Int) := hpre 5 _ _ (by kernel_rfl) rfl rfl
                have h1 : a.eval (.tmp 94) = .int .i64 ((n : Nat) : Int) := hpre 11 _ _ (by kernel_rfl) rfl rfl
                exact Free.c_yes rfl rfl rfl hg (Free.g_bin _ _ _ _ _ rfl h0 h1 (Free.r_add _ _ _ _ _ _ _) ⟨congrArg (Value.int .i64) (wrap_add (by omega)), Fa, hoa⟩)
              | 13 =>
                cases hi
                have hg : a.eval (.tmp 85) = .bool true := hpre 2 _ _ (by kernel_rfl) rfl rfl
                have h0 : a.eval (.tmp 87) = .int .i64 ((us + n : Nat) : Int) := hpre 4 _ _ (by kernel_rfl) rfl rfl
                have h1 : a.eval (.tmp 95) = .int .i64 ((us + n : Nat) : Int) := hpre 12 _ _ (by kernel_rfl) rfl rfl
                exact Free.c_yes rfl rfl rfl hg (Free.g_bin _ _ _ _ _ rfl h0 h1 (Free.r_neq _ _ _ _ _ _ _) ⟨congrArg Value.bool (bne_self_eq_false _), Fa, hoa⟩)
              | 14 =>
                cases hi
                have hg : a.eval (.tmp 85) = .bool true := hpre 2 _ _ (by kernel_rfl) rfl rfl
                have h0 : a.eval (.tmp 96) = .bool false := hpre 13 _ _ (by kernel_rfl) rfl rfl
                exact Free.c_yes rfl rfl rfl hg (Free.g_move _ rfl ⟨h0, Fa, hoa⟩)
              | 15 =>
                cases hi
                have hg : a.eval (.tmp 97) = .bool false := hpre 14 _ _ (by kernel_rfl) rfl rfl
                exact Free.c_yes rfl rfl rfl hg (Free.g_move _ rfl ⟨((hold 5 (by decide)).trans rfl), Fa, hoa⟩)
              | 16 =>
                cases hi
                have hg : a.eval (.tmp 97) = .bool false := hpre 14 _ _ (by kernel_rfl) rfl rfl
                have h0 : a.eval (.tmp 98) = .pointer (some ⟨p, 0, none⟩) := hpre 15 _ _ (by kernel_rfl) rfl rfl
                refine Free.c_yes rfl rfl rfl hg (Free.g_call _ _ rfl Try.func29 (by kernel_rfl) rfl [.pointer (some ⟨p, 0, none⟩)] (by show [a.eval (.tmp 98)] = _; rw [h0]) ?_)
                refine (own_steps hoa).mono fun e w2 ⟨he, hw⟩ => ⟨_, he, ?_, Fa, hw ▸ hoa⟩
                exact congrArg (fun n : Nat => Value.int .i64 (n : Int)) HDs.out
              | 17 =>
                cases hi
                have hg : a.eval (.tmp 97) = .bool false := hpre 14 _ _ (by kernel_rfl) rfl rfl
                exact Free.c_yes rfl rfl rfl hg (Free.g_move _ rfl ⟨((hold 9 (by decide)).trans rfl), Fa, hoa⟩)
              | 18 =>
                cases hi
                have hg : a.eval (.tmp 97) = .bool false := hpre 14 _ _ (by kernel_rfl) rfl rfl
                have h0 : a.eval (.tmp 100) = .int .i64 ((dd : Nat) : Int) := hpre 17 _ _ (by kernel_rfl) rfl rfl
                exact Free.c_yes rfl rfl rfl hg (Free.g_bin _ _ _ _ _ rfl h0 rfl (Free.r_add _ _ _ _ _ _ _) ⟨congrArg (Value.int .i64) (wrap_add (n := 1) (by omega)), Fa, hoa⟩)
              | 19 =>
                cases hi
                have hg : a.eval (.tmp 97) = .bool false := hpre 14 _ _ (by kernel_rfl) rfl rfl
                have h0 : a.eval (.tmp 99) = .int .i64 ((dd + 1 : Nat) : Int) := hpre 16 _ _ (by kernel_rfl) rfl rfl
                have h1 : a.eval (.tmp 101) = .int .i64 ((dd + 1 : Nat) : Int) := hpre 18 _ _ (by kernel_rfl) rfl rfl
                exact Free.c_yes rfl rfl rfl hg (Free.g_bin _ _ _ _ _ rfl h0 h1 (Free.r_neq _ _ _ _ _ _ _) ⟨congrArg Value.bool (bne_self_eq_false _), Fa, hoa⟩)
              | 20 =>
                cases hi
                have hg : a.eval (.tmp 85) = .bool true := hpre 2 _ _ (by kernel_rfl) rfl rfl
                have h0 : a.eval (.tmp 97) = .bool false := hpre 14 _ _ (by kernel_rfl) rfl rfl
                have h2 : a.eval (.tmp 102) = .bool false := hpre 19 _ _ (by kernel_rfl) rfl rfl
                exact Free.c_yes rfl rfl rfl hg (Free.g_pick _ _ _ rfl h0 rfl h2 ⟨rfl, Fa, hoa⟩)
              | 21 =>
                cases hi
                have h0 : a.eval (.tmp 85) = .bool true := hpre 2 _ _ (by kernel_rfl) rfl rfl
                have h1 : a.eval (.tmp 103) = .bool false := hpre 20 _ _ (by kernel_rfl) rfl rfl
                exact Free.c_all rfl (Free.g_pick _ _ _ rfl h0 h1 rfl ⟨rfl, Fa, hoa⟩)
              | 22 =>
                cases hi
                have h0 : a.eval (.tmp 104) = .bool false := hpre 21 _ _ (by kernel_rfl) rfl rfl
                exact Free.c_all rfl (Free.g_move _ rfl ⟨h0, Fa, hoa⟩)
              | 23 =>
                cases hi
                have hg : a.eval (.tmp 105) = .bool false := hpre 22 _ _ (by kernel_rfl) rfl rfl
                exact Free.c_yes rfl rfl rfl hg (Free.g_move _ rfl ⟨((hold 11 (by decide)).trans rfl), Fa, hoa⟩)
              | 24 =>
                cases hi
                have hg : a.eval (.tmp 105) = .bool false := hpre 22 _ _ (by kernel_rfl) rfl rfl
                have h0 : a.eval (.tmp 106) = .int .i64 0 := hpre 23 _ _ (by kernel_rfl) rfl rfl
                exact Free.c_yes rfl rfl rfl hg (Free.g_bin _ _ _ _ _ rfl h0 rfl (Free.r_neq _ _ _ _ _ _ _) ⟨rfl, Fa, hoa⟩)
              | 25 =>
                cases hi
                have hg : a.eval (.tmp 105) = .bool false := hpre 22 _ _ (by kernel_rfl) rfl rfl
                have h0 : a.eval (.tmp 107) = .bool false := hpre 24 _ _ (by kernel_rfl) rfl rfl
                exact Free.c_yes rfl rfl rfl hg (Free.g_move _ rfl ⟨h0, Fa, hoa⟩)
              | 26 =>
                cases hi
                have hg : a.eval (.tmp 108) = .bool false := hpre 25 _ _ (by kernel_rfl) rfl rfl
                exact Free.c_no rfl rfl rfl hg ⟨rfl, Fa, hoa⟩
              | 27 =>
                cases hi
                have hg : a.eval (.tmp 108) = .bool false := hpre 25 _ _ (by kernel_rfl) rfl rfl
                exact Free.c_no rfl rfl rfl hg ⟨rfl, Fa, hoa⟩
              | 28 =>
                cases hi
                have hg : a.eval (.tmp 108) = .bool false := hpre 25 _ _ (by kernel_rfl) rfl rfl
                exact Free.c_no rfl rfl rfl hg ⟨rfl, Fa, hoa⟩
              | 29 =>
                cases hi
                have hg : a.eval (.tmp 108) = .bool false := hpre 25 _ _ (by kernel_rfl) rfl rfl
                exact Free.c_no rfl rfl rfl hg ⟨rfl, Fa, hoa⟩
              | 30 =>
                cases hi
                have hg : a.eval (.tmp 108) = .bool false := hpre 25 _ _ (by kernel_rfl) rfl rfl
                exact Free.c_no rfl rfl rfl hg ⟨rfl, Fa, hoa⟩
              | 31 =>
                cases hi
                have hg : a.eval (.tmp 113) = undef := hpre 30 _ _ (by kernel_rfl) rfl rfl
                exact Free.c_none rfl rfl rfl hg ⟨rfl, Fa, hoa⟩
              | 32 =>
                cases hi
                have hg : a.eval (.tmp 113) = undef := hpre 30 _ _ (by kernel_rfl) rfl rfl
                exact Free.c_none rfl rfl rfl hg ⟨rfl, Fa, hoa⟩
              | 33 =>
                cases hi
                have hg : a.eval (.tmp 113) = undef := hpre 30 _ _ (by kernel_rfl) rfl rfl
                exact Free.c_none rfl rfl rfl hg ⟨rfl, Fa, hoa⟩
              | 34 =>
                cases hi
                have hg : a.eval (.tmp 113) = undef := hpre 30 _ _ (by kernel_rfl) rfl rfl
                exact Free.c_none rfl rfl rfl hg ⟨rfl, Fa, hoa⟩
              | 35 =>
                cases hi
                have hg : a.eval (.tmp 113) = undef := hpre 30 _ _ (by kernel_rfl) rfl rfl
                exact Free.c_none rfl rfl rfl hg ⟨rfl, Fa, hoa⟩
              | 36 =>
                cases hi
                have hg : a.eval (.tmp 108) = .bool false := hpre 25 _ _ (by kernel_rfl) rfl rfl
                exact Free.c_no rfl rfl rfl hg ⟨rfl, Fa, hoa⟩
              | 37 =>
                cases hi
                have hg : a.eval (.tmp 108) = .bool false := hpre 25 _ _ (by kernel_rfl) rfl rfl
                exact Free.c_no rfl rfl rfl hg ⟨rfl, Fa, hoa⟩
              | 38 =>
                cases hi
                have hg : a.eval (.tmp 120) = undef := hpre 37 _ _ (by kernel_rfl) rfl rfl
                exact Free.c_none rfl rfl rfl hg ⟨rfl, Fa, hoa⟩
              | 39 =>
                cases hi
                have hg : a.eval (.tmp 120) = undef := hpre 37 _ _ (by kernel_rfl) rfl rfl
                exact Free.c_none rfl rfl rfl hg ⟨rfl, Fa, hoa⟩
              | 40 =>
                cases hi
                have hg : a.eval (.tmp 120) = undef := hpre 37 _ _ (by kernel_rfl) rfl rfl
                exact Free.c_none rfl rfl rfl hg ⟨rfl, Fa, hoa⟩
              | 41 =>
                cases hi
                have hg : a.eval (.tmp 120) = undef := hpre 37 _ _ (by kernel_rfl) rfl rfl
                exact Free.c_none rfl rfl rfl hg ⟨rfl, Fa, hoa⟩
              | 42 =>
                cases hi
                have hg : a.eval (.tmp 108) = .bool false := hpre 25 _ _ (by kernel_rfl) rfl rfl
                exact Free.c_no rfl rfl rfl hg ⟨rfl, Fa, hoa⟩
              | 43 =>
                cases hi
                have hg : a.eval (.tmp 105) = .bool false := hpre 22 _ _ (by kernel_rfl) rfl rfl
                have h0 : a.eval (.tmp 108) = .bool false := hpre 25 _ _ (by kernel_rfl) rfl rfl
                have h1 : a.eval (.tmp 125) = undef := hpre 42 _ _ (by kernel_rfl) rfl rfl
                exact Free.c_yes rfl rfl rfl hg (Free.g_pick _ _ _ rfl h0 h1 rfl ⟨rfl, Fa, hoa⟩)
              | 44 =>
                cases hi
                have h0 : a.eval (.tmp 105) = .bool false := hpre 22 _ _ (by kernel_rfl) rfl rfl
                have h2 : a.eval (.tmp 126) = .bool false := hpre 43 _ _ (by kernel_rfl) rfl rfl
                exact Free.c_all rfl (Free.g_pick _ _ _ rfl h0 rfl h2 ⟨rfl, Fa, hoa⟩)
              | 45 =>
                cases hi
                have h0 : a.eval (.tmp 127) = .bool false := hpre 44 _ _ (by kernel_rfl) rfl rfl
                exact Free.c_all rfl (Free.g_move _ rfl ⟨h0, Fa, hoa⟩)
              | 46 =>
                cases hi
                have hg : a.eval (.tmp 128) = .bool false := hpre 45 _ _ (by kernel_rfl) rfl rfl
                exact Free.c_yes rfl rfl rfl hg (Free.g_move _ rfl ⟨((hold 5 (by decide)).trans rfl), Fa, hoa⟩)
              | 47 =>
                cases hi
                have hg : a.eval (.tmp 128) = .bool false := hpre 45 _ _ (by kernel_rfl) rfl rfl
                have h0 : a.eval (.tmp 129) = .pointer (some ⟨p, 0, none⟩) := hpre 46 _ _ (by kernel_rfl) rfl rfl
                refine Free.c_yes rfl rfl rfl hg (Free.g_call _ _ rfl Try.func27 (by kernel_rfl) rfl [.pointer (some ⟨p, 0, none⟩)] (by show [a.eval (.tmp 129)] = _; rw [h0]) ?_)
                refine (own_used hoa).mono fun e w2 ⟨he, hw⟩ => ⟨_, he, ?_, Fa, hw ▸ hoa⟩
                exact congrArg (fun n : Nat => Value.int .i64 (n : Int)) HUs.out
              | 48 =>
                cases hi
                have hg : a.eval (.tmp 128) = .bool false := hpre 45 _ _ (by kernel_rfl) rfl rfl
                exact Free.c_yes rfl rfl rfl hg (Free.g_move _ rfl ⟨((hold 0 (by decide)).trans rfl), Fa, hoa⟩)
              | 49 =>
                cases hi
                have hg : a.eval (.tmp 128) = .bool false := hpre 45 _ _ (by kernel_rfl) rfl rfl
                have h0 : a.eval (.tmp 131) = .int .u16 (q : Nat) := hpre 48 _ _ (by kernel_rfl) rfl rfl
                exact Free.c_yes rfl rfl rfl hg (Free.g_convert _ _ _ rfl h0 (conv_u16 wa hq) ⟨rfl, Fa, hoa⟩)
              | 50 =>
                cases hi
                have hg : a.eval (.tmp 128) = .bool false := hpre 45 _ _ (by kernel_rfl) rfl rfl
                have h0 : a.eval (.tmp 130) = .int .i64 ((us + n : Nat) : Int) := hpre 47 _ _ (by kernel_rfl) rfl rfl
                have h1 : a.eval (.tmp 132) = .int .i64 ((q : Nat) : Int) := hpre 49 _ _ (by kernel_rfl) rfl rfl
                exact Free.c_yes rfl rfl rfl hg (Free.g_bin _ _ _ _ _ rfl h0 h1 (Free.r_gtr _ _ _ _ _ _ _) ⟨congrArg Value.bool (decide_eq_false (by omega)), Fa, hoa⟩)
              | 51 =>
                cases hi
                have h0 : a.eval (.tmp 128) = .bool false := hpre 45 _ _ (by kernel_rfl) rfl rfl
                have h2 : a.eval (.tmp 133) = .bool false := hpre 50 _ _ (by kernel_rfl) rfl rfl
                exact Free.c_all rfl (Free.g_pick _ _ _ rfl h0 rfl h2 ⟨rfl, Fa, hoa⟩)
              | _ + 52 => cases hi
            · rintro vs w8 hv ⟨F8, ho8⟩
              have h134 : vs 51 = .bool false := hv 51 (by simp) (by rintro o ⟨⟩; rfl)
              have HO8 := Lib.hid ho8; clear ho8 hv
              simp only [Free.puts, Nat.reduceAdd, h134]
              generalize vs 0 = y0
              go_simp
              go_wp2_with fail
              go_roundw
              case rel => exact ⟨k + 1, by omega, by go_num, d', F8, HO8.out, HR'.out⟩
              case measure => simp [intOf]; omega
    · have hw := works_any wr
      obtain ⟨d, F, ho, -⟩ := hat
      have HO := Lib.hid ho; have HW := Lib.hid hw; clear hw ho
      go_wp2_with fail
      refine (HW.out).mono ?_; rintro e w2 ⟨rfl, hb2⟩
      have HB := Lib.hid hb2; clear hb2
      go_wp2_with fail
      go_ret
      exact ⟨rfl, HO.out.below.trans (HB.out.mono HO.out.below.size)⟩
theorem walk_any (q : Nat) (A : Option Addr) (l : List De) (c : Nat) (w : World) (hq : q ≤ 65535) (hD : Deeds w A l) (hc : l.length ≤ c) (hm : c ≤ 9223372036854775807) :
    Calls Try.prog 7 #[.int .u16 (q : Nat), .slice A l.length c] w fun e w' => e = .returned (.bool true) ∧ Below w.heap.size w w' := by
  cases h : few l with
  | false => exact walk_else q A l c w hq hD hc hm h
  | true => exact walk q A l c w hq hD hc hm h

set_option maxRecDepth 100000 in
theorem lifted (os : Os) (started : os.Started) (H : Type) (enc : TypeId × Value → H) :
    ReturnsInHanded {} Try.checked os 7 .any (Rows.diskRoomSpec.pre6 enc Try.prog Try.f7 Rows.diskRoomRow.domain false) (Rows.diskRoomSpec.post enc Try.prog Try.f7 false true false false) := by
  refine returnsInHanded_of_change_sized (C := Try.checked) ownKnob_none started (by kernel_rfl) Try.func7
    (ChangeSpec.witness6 (enc := enc) (C := Try.checked) false ⟨#[], #[.int .u16 0, .slice none 0 0], []⟩ 8 (by kernel_rfl) (by kernel_rfl) (by kernel_rfl) (by kernel_rfl)) ?_
  intro W base args ds gs before hval0 hW hcnd hsz0 _
  have hval : ∀ (j : Nat) t v, Try.f7.params[j]? = some t → args[j]? = some v → Value.okWide Try.prog W .any base t v := hval0
  have hW' := hW
  obtain ⟨p, q, hA0, hV, rfl, hfz, hnd⟩ := hW
  have hA : DataW.TrodAll enc Try.prog W 0 (fun _ => true) true Try.f7.params.toList args.toList ds p := hA0
  have hsz : (DataW.weightsEach Try.prog (Try.f7.params.toList ++ Rows.diskRoomSpec.plain.varTypes Try.prog) (ds ++ gs)).all (· ≤ reachBytes) = true := hsz0
  rw [Try.params7] at hA hval hsz
  obtain ⟨v0, vs0, d0, ds0, p0, q0, hargs, rfl, rfl, h0, r0⟩ := trodAll_cons hA
  obtain ⟨v1, vs1, d1, ds1, p1, q1, rfl, rfl, rfl, h1, r1⟩ := trodAll_cons r0
  obtain ⟨rfl, rfl, rfl⟩ := trodAll_nil r1
  obtain rfl : args = #[v0, v1] := by cases args; simp_all
  obtain ⟨rfl, rfl⟩ := trodVars_none hV
  obtain ⟨a0, rfl, rfl, rfl, w0⟩ := open_int Try.underlying51 (hval 0 51 v0 rfl rfl) h0
  have b0 := u16_wf w0
  obtain ⟨n0, rfl⟩ := Int.eq_ofNat_of_zero_le b0.1
  obtain ⟨A1, l1, c1, rfl, hL1, hlc1, hcm1⟩ := open_deeds (hval 1 23 v1 rfl rfl) h1
  clear hA0 hval0 hsz0
  refine (walk_any n0 A1 l1 c1 W (by omega) hL1 hlc1 hcm1).mono fun e W' ⟨he, hg⟩ => ?_
  subst he
  exact ⟨_, rfl, law_post progLaid hW' rfl (by rw [Try.params7]; intro t ht; simp at ht; rcases ht with rfl | rfl <;> exact ⟨by kernel_rfl, of_decide_eq_true (by kernel_rfl)⟩) rfl Try.underlying4 rfl hg⟩

theorem over : Rows.diskRoomRow.holds Try.pinned (OpenSpec.ofChange Rows.diskRoomSpec) :=
  OpenClaim.holds_of_wide 7 Try.f7 rfl rfl rfl rfl rfl rfl rfl ⟨rfl, rfl, rfl, rfl, rfl⟩ rfl rfl rfl rfl rfl (by kernel_rfl) Try.func7 (by kernel_rfl)
    (of_decide_eq_true (by kernel_rfl)) (by unfold Func.isWrapper; first | (rw [if_pos (by decide +kernel)]; kernel_rfl) | (rw [if_neg (by decide +kernel)]; exact ⟨rfl, rfl⟩))
    (fun os started H enc _ => lifted os started H enc)

/-- The statement. -/
theorem proved : Rows.DiskRoomSaid :=
  over
end diskRoom
end Go.Proofs.Ytiagoaaldpajmaa
