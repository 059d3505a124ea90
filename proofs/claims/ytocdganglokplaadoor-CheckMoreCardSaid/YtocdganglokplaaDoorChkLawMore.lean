/- CheckMore: a graph that may be run may be run with a node more, that others feed and that is right; the order is the same, with it at the end. -/
import Derived.Test.YtocdganglokplaaDoorChkInts
import Derived.Test.YtocdganglokplaaDoorChkWkA
import Derived.Test.YtocdganglokplaaDoorChkMoreMath
import Derived.Test.YtocdganglokplaaDoorMoreOps
import Derived.Deep.QuietTactic
import Derived.BigQuiet
import Derived.WalkSmall
import Derived.Test.YtocdganglokplaaDoorChkSi
namespace Go.Proofs.YtocdganglokplaaDoor
open Go.ChangeShapes Go.WideShapes Go.ChangeAt Go.RowKit Go.BigFrame
set_option linter.unusedVariables false
set_option maxRecDepth 100000
namespace checkMore
set_option maxHeartbeats 64000000 in
theorem walk (A : Option Addr) (l : List Gn) (c a1 : Nat) (a2 : Int) (w : World) (hT : Tab w) (hG : Gr w A l) (hl : l.length ≤ maxLen) (hc : l.length ≤ c ∧ c ≤ maxLen) :
    Calls Tryd.prog 6 #[.slice A l.length c, .int .u8 (a1 : Nat), .int .i64 a2] w fun e w' => e = .returned (.bool true) ∧ Below w.heap.size w w' := by
  have HT := Lib.hid hT; clear hT
  have HG := Lib.hid hG; have HL := Lib.hid hl; have HCC := Lib.hid hc; clear hG hl hc
  have h1 := ins_any A l c 30 w HG.out HL.out
  cases e1 : insB (nds l) 30 with
  | false =>
    rw [e1] at h1; clear e1; have H1 := Lib.hid h1; clear h1
    have Hb := Lib.hid (Below.refl w.heap.size w)
    go_enter Tryd.func6, Tryd.ntmps6
    have hc := H1.out
    have HC := Lib.hid hc; clear hc
    go_wp2_with fail
    refine HC.out.mono ?_; rintro e w0 ⟨rfl, rfl⟩
    clear HC
    dsimp only
    have hc := chkWorks_any w HT.out
    have HC := Lib.hid hc; clear hc
    go_wp2_with fail
    refine HC.out.mono ?_; rintro e w2 ⟨rfl, hb⟩
    clear HC
    have h := HG.out.below hb; clear HG; have HG := Lib.hid h; clear h
    have h := HT.out.below hb; clear HT; have HT := Lib.hid h; clear h
    have h := Hb.out.trans (hb.mono Hb.out.size); clear Hb hb; have Hb := Lib.hid h; clear h
    dsimp only
    go_wp2_with fail
    go_ret
    exact ⟨rfl, Hb.out⟩
  | true =>
    have HI := Lib.hid (insB_nds (T := 30) e1)
    rw [e1] at h1; clear e1; have H1 := Lib.hid h1; clear h1
    have Hb := Lib.hid (Below.refl w.heap.size w)
    go_enter Tryd.func6, Tryd.ntmps6
    have hc := H1.out
    have HC := Lib.hid hc; clear hc
    go_wp2_with fail
    refine HC.out.mono ?_; rintro e w0 ⟨rfl, rfl⟩
    clear HC
    dsimp only
    obtain ⟨N, hN⟩ : ∃ N, (checkR (nds l)).1 = N := ⟨_, rfl⟩
    obtain ⟨E, hE⟩ : ∃ E, (checkR (nds l)).2 = E := ⟨_, rfl⟩
    have hc := (by have h := chkCheck_any A l c w HT.out HG.out (by have := HI.out.1; omega) (fun x hx => by have := HI.out.2 x hx; omega) HCC.out; unfold ChkD at h; rw [hN, hE] at h; exact h)
    have HC := Lib.hid hc; clear hc
    go_wp2_with fail
    refine HC.out.mono ?_; rintro e w2 ⟨rfl, hb⟩
    clear HC
    have h := HG.out.below hb; clear HG; have HG := Lib.hid h; clear h
    have h := HT.out.below hb; clear HT; have HT := Lib.hid h; clear h
    have h := Hb.out.trans (hb.mono Hb.out.size); clear Hb hb; have Hb := Lib.hid h; clear h
    dsimp only
    by_cases hz : E = 0
    rotate_left
    · skip
      have hez : (E != 0) = true := by simpa using hz
      clear hz hN hE
      have hc := chkWorks_any w2 HT.out
      have HC := Lib.hid hc; clear hc
      go_wp2_with fail
      refine HC.out.mono ?_; rintro e w3 ⟨rfl, hb⟩
      clear HC
      have h := HG.out.below hb; clear HG; have HG := Lib.hid h; clear h
      have h := HT.out.below hb; clear HT; have HT := Lib.hid h; clear h
      have h := Hb.out.trans (hb.mono Hb.out.size); clear Hb hb; have Hb := Lib.hid h; clear h
      dsimp only
      go_wp2_with fail
      go_ret
      exact ⟨rfl, Hb.out⟩
    subst hz
    by_cases h0 : a2 < 0
    · skip
      clear hN hE
      have hc := chkWorks_any w2 HT.out
      have HC := Lib.hid hc; clear hc
      go_wp2_with fail
      refine HC.out.mono ?_; rintro e w3 ⟨rfl, hb⟩
      clear HC
      have h := HG.out.below hb; clear HG; have HG := Lib.hid h; clear h
      have h := HT.out.below hb; clear HT; have HT := Lib.hid h; clear h
      have h := Hb.out.trans (hb.mono Hb.out.size); clear Hb hb; have Hb := Lib.hid h; clear h
      dsimp only
      go_wp2_with fail
      go_ret
      exact ⟨rfl, Hb.out⟩
    by_cases h1 : (l.length : Int) ≤ a2
    · skip
      clear hN hE
      have hc := chkWorks_any w2 HT.out
      have HC := Lib.hid hc; clear hc
      go_wp2_with fail
      refine HC.out.mono ?_; rintro e w3 ⟨rfl, hb⟩
      clear HC
      have h := HG.out.below hb; clear HG; have HG := Lib.hid h; clear h
      have h := HT.out.below hb; clear HT; have HT := Lib.hid h; clear h
      have h := Hb.out.trans (hb.mono Hb.out.size); clear Hb hb; have Hb := Lib.hid h; clear h
      dsimp only
      go_wp2_with fail
      go_ret
      exact ⟨rfl, Hb.out⟩
    obtain ⟨Z, rfl⟩ : ∃ Z : Nat, a2 = (Z : Int) := Int.eq_ofNat_of_zero_le (by omega)
    have hZl : Z < l.length := by omega
    have hZz : (Z : Int) < (l.length : Int) := by omega
    obtain ⟨m, hm⟩ : ∃ m, l[Z]? = some m := ⟨_, List.getElem?_eq_getElem hZl⟩
    have hmn : (nds l)[Z]? = some m.nd := by unfold nds; rw [List.getElem?_map, hm]; rfl
    have hm256 := (HG.out.ok hm).k
    have hGat := HG.out.at_ hm
    obtain ⟨mb, mo, rfl, hmb, hmc⟩ := hGat
    obtain ⟨c0, c1, c2, c3, c4⟩ := hmc w2 (Below.refl _ _)
    have hmb2 : mb < w2.heap.size := hmb
    have HMN := Lib.hid hmn; have HMC := Lib.hid hmc; clear hm hmc h0 h1
    by_cases h10 : m.nd.k = 10
    · skip
      have h10z : (((m.nd.k : Nat) : Int) == 10) = true := by simp; omega
      clear h10 hN hE
      have hc := chkWorks_any w2 HT.out
      have HC := Lib.hid hc; clear hc
      go_wp2_with fail
      refine HC.out.mono ?_; rintro e w3 ⟨rfl, hb⟩
      clear HC
      have h := HG.out.below hb; clear HG; have HG := Lib.hid h; clear h
      have h := HT.out.below hb; clear HT; have HT := Lib.hid h; clear h
      have h := Hb.out.trans (hb.mono Hb.out.size); clear Hb hb; have Hb := Lib.hid h; clear h
      dsimp only
      go_wp2_with fail
      go_ret
      exact ⟨rfl, Hb.out⟩
    have h10z : (((m.nd.k : Nat) : Int) == 10) = false := by simp; omega
    obtain ⟨r, hr⟩ : ∃ r, a1 % 5 = r := ⟨_, rfl⟩
    have hr5 : r < 5 := by omega
    obtain ⟨K, hK⟩ : ∃ K, kindsL[r]? = some K := ⟨_, List.getElem?_eq_getElem (by show r < 5; exact hr5)⟩
    have hrz : (a1 : Int) % 5 = (r : Int) := by omega
    have hrt : (a1 : Int).tmod 5 = (r : Int) := by rw [Int.tmod_eq_emod_of_nonneg (by omega)]; exact hrz
    have H10 := Lib.hid h10; have HN := Lib.hid hN; have HE := Lib.hid hE; have HK := Lib.hid hK
    clear h10 hN hE hK hr
    generalize hD : m.nd.d = D at c3
    have HD := Lib.hid hD; clear hD
    have HTI := Lib.hid hrt; have HC3 := Lib.hid c3; have HMB := Lib.hid hmb2
    clear c1 c2 c3 c4 hrz hrt
    have hq0 : decide ((Z : Int) < 0) = false := decide_eq_false (by omega)
    have hq1 : decide (l.length ≤ Z) = false := decide_eq_false (by omega)
    obtain ⟨W, hW⟩ : ∃ W, W = w2 := ⟨_, rfl⟩
    have HW := Lib.hid hW; clear hW
    go_upto_region 6 with fail
    clear c0
    refine Free.wp_key (by kernel_rfl) (by kernel_rfl) (fun b vs wq => AddF w2 r K D (Z : Int) b vs wq) (AddV a1 r K D mb mo l.length c Z) ?_ ?_ ?_
    · intro vs
      exact AddF.start w2 vs
    · intro i oi hi bb vs a9 wq hold hpre hbi hF
      match i with
      | 0 => cases hi; exact Free.c_all rfl (m_lit _ _ _ [(0, .int .u8 2), (1, .int .u8 3), (2, .int .u8 5), (3, .int .u8 8), (4, .int .u8 10)] rfl rfl (build5 wq) ⟨trivial, hF.n0⟩)
      | 1 => cases hi; exact Free.c_all rfl (Free.g_move _ rfl ⟨(hold 1 (by decide)).trans rfl, hF.keep (Below.refl _ _) (by decide)⟩)
      | 2 =>
        cases hi
        have h0 := (hpre 1 _ _ (by kernel_rfl) rfl rfl).2.2
        exact Free.c_all rfl (Free.g_bin _ _ _ _ _ rfl h0 rfl (rem5 HTI.out _ _ wq) ⟨rfl, hF.keep (Below.refl _ _) (by decide)⟩)
      | 3 =>
        cases hi
        obtain ⟨hb0, hv0, _⟩ := hpre 0 _ _ (by kernel_rfl) rfl rfl
        have h0 := (hpre 2 _ _ (by kernel_rfl) rfl rfl).2.2
        obtain ⟨B, e, hB, hr⟩ := hF.k0 hb0
        rw [e] at hv0
        exact Free.c_all rfl (Free.g_indexAddr _ _ _ rfl hv0 h0 (index8 B r hr5 wq) ⟨trivial, hF.n3 hB hr⟩)
      | 4 =>
        cases hi
        obtain ⟨hb0, hv0, _⟩ := hpre 3 _ _ (by kernel_rfl) rfl rfl
        obtain ⟨B, e, hB, hr⟩ := hF.k3 hb0
        rw [e] at hv0
        exact Free.c_all rfl (Free.g_load _ _ rfl hv0 (load8 hr HK.out) ⟨rfl, hF.keep (Below.refl _ _) (by decide)⟩)
      | 5 => cases hi; exact Free.c_all rfl (Free.g_move _ rfl ⟨(hold 0 (by decide)).trans rfl, hF.keep (Below.refl _ _) (by decide)⟩)
      | 6 => cases hi; exact Free.c_all rfl (Free.g_move _ rfl ⟨(hold 2 (by decide)).trans rfl, hF.keep (Below.refl _ _) (by decide)⟩)
      | 7 =>
        cases hi
        have h0 := (hpre 5 _ _ (by kernel_rfl) rfl rfl).2.2
        have h1 := (hpre 6 _ _ (by kernel_rfl) rfl rfl).2.2
        exact Free.c_all rfl (Free.g_indexAddr _ _ _ rfl h0 h1 (indexG mb mo l.length c Z hZl wq) ⟨rfl, hF.keep (Below.refl _ _) (by decide)⟩)
      | 8 =>
        cases hi
        have h0 := (hpre 7 _ _ (by kernel_rfl) rfl rfl).2.2
        exact Free.c_all rfl (Free.g_field _ _ _ rfl h0 (field3 mb (mo + Z * 5) wq) ⟨rfl, hF.keep (Below.refl _ _) (by decide)⟩)
      | 9 =>
        cases hi
        have h0 := (hpre 8 _ _ (by kernel_rfl) rfl rfl).2.2
        exact Free.c_all rfl (Free.g_load _ _ rfl h0 (loadI ((hF.below.cell HMB.out).trans HC3.out)) ⟨rfl, hF.keep (Below.refl _ _) (by decide)⟩)
      | 10 => cases hi; exact Free.c_all rfl (Free.g_move _ rfl ⟨(hold 2 (by decide)).trans rfl, hF.keep (Below.refl _ _) (by decide)⟩)
      | 11 =>
        cases hi
        have h0 : a9.eval (.tmp 62) = .int .i64 (Z : Nat) := (hpre 10 _ _ (by kernel_rfl) rfl rfl).2.2
        exact Free.c_all rfl (m_lit _ _ _ [(0, .int .i64 (Z : Nat))] rfl (by show [(0, a9.eval (.tmp 62))] = _; rw [h0]) (build1 wq _) ⟨trivial, hF.n11⟩)
      | 12 =>
        cases hi
        have h0 : a9.eval (.tmp 56) = .int .u8 (K : Nat) := (hpre 4 _ _ (by kernel_rfl) rfl rfl).2.2
        have h1 : a9.eval (.tmp 61) = .int .i64 D := (hpre 9 _ _ (by kernel_rfl) rfl rfl).2.2
        obtain ⟨hb0, hv0, _⟩ := hpre 11 _ _ (by kernel_rfl) rfl rfl
        obtain ⟨B, e, hB, hr⟩ := hF.k11 hb0
        rw [e] at hv0
        have hv1 : a9.eval (.tmp 63) = .slice (some ⟨B, 0, none⟩) 1 1 := hv0
        exact Free.c_all rfl (Free.g_build _ _ rfl (nodeV B K D).toArray [(0, .int .u8 (K : Nat)), (3, .int .i64 D), (4, .slice (some ⟨B, 0, none⟩) 1 1)] (by show [(0, a9.eval (.tmp 56)), (3, a9.eval (.tmp 61)), (4, a9.eval (.tmp 63))] = _; rw [h0, h1, hv1]) (builtN B K D) ⟨trivial, hF.n12 hB hr⟩)
      | 13 => cases hi; exact Free.c_all rfl (m_alloc _ rfl (allocN wq) ⟨trivial, hF.n13 hbi⟩)
      | 14 =>
        cases hi
        obtain ⟨hb13, hv13, _⟩ := hpre 13 _ _ (by kernel_rfl) rfl rfl
        obtain ⟨hb12, hv12, _⟩ := hpre 12 _ _ (by kernel_rfl) rfl rfl
        obtain ⟨X, eX, hX, hrX⟩ := hF.k13 hbi hb13
        obtain ⟨Y, eY, hY, hrY⟩ := hF.k12 hb12
        rw [eX] at hv13
        rw [eY] at hv12
        exact Free.c_all rfl (m_store _ _ _ rfl hv13 hv12 (storeN hrX) ⟨trivial, hF.n14 hb13 eX hX hY hrX hrY⟩)
      | n + 15 => simp at hi
    · intro vs w5 hv hF
      obtain ⟨X, Y, e13, hA⟩ := hF.k14 rfl
      have HA := Lib.hid hA
      clear hv hF hA
      simp only [Free.puts, Nat.reduceAdd]
      rw [e13]
      generalize vs 0 = y0; generalize vs 1 = y1; generalize vs 2 = y2; generalize vs 3 = y3; generalize vs 4 = y4; generalize vs 5 = y5; generalize vs 6 = y6; generalize vs 7 = y7; generalize vs 8 = y8; generalize vs 9 = y9; generalize vs 10 = y10; generalize vs 11 = y11; generalize vs 12 = y12; generalize vs 14 = y14
      clear e13
      go_simp
      obtain ⟨d, hd⟩ : ∃ d, (if K = 8 then D - 1 else D) = d := ⟨_, rfl⟩
      obtain ⟨R, hR⟩ : ∃ R, decide ((K = 8 → 0 ≤ d) ∧ (K = 10 → d = 0)) = R := ⟨_, rfl⟩
      have hk5 : K = 2 ∨ K = 3 ∨ K = 5 ∨ K = 8 ∨ K = 10 := by
        have h := HK.out
        rcases (by omega : r = 0 ∨ r = 1 ∨ r = 2 ∨ r = 3 ∨ r = 4) with rfl | rfl | rfl | rfl | rfl <;> (simp only [kindsL, List.getElem?_cons_zero, List.getElem?_cons_succ, Option.some.injEq] at h; omega)
      have hd03 : 0 ≤ D ∧ D ≤ 3 := by
        have h := (checkR_zero HE.out).2.1 Z (by rw [nds_len]; exact hZl)
        rw [nodeE_at HMN.out] at h
        have h2 := (err_zero h).2.2.1
        unfold Nd.deepB at h2
        rw [decide_eq_true_eq, HD.out] at h2
        exact ⟨h2.1, h2.2.1⟩
      have hdr : -10 ≤ d ∧ d ≤ 10 := by
        rw [← hd]; split <;> omega
      have HDD := Lib.hid hd; have HRR := Lib.hid hR; have HK5 := Lib.hid hk5; have HD03 := Lib.hid hd03; have HDR := Lib.hid hdr
      clear hd hR hk5 hd03 hdr
      obtain ⟨R1, hR1⟩ : ∃ R1, decide (K = 8 → 0 ≤ d) = R1 := ⟨_, rfl⟩
      have HR1 := Lib.hid hR1; clear hR1
      have g0 := HA.out.node.cell 0
      simp only [nodeV, List.getElem?_cons_zero] at g0
      go_upto_if 67 with fail
      clear g0
      go_cut [10] from 68 to 74 (fun v wx => v = .bool R1 ∧ AddS w2 wx X Y K d (Z : Int))
      case first =>
        have hd03 := HD03.out
        have g3 := HA.out.node.cell 3
        have f3 := HA.out.node.free 3
        simp only [nodeV, List.getElem?_cons_zero, List.getElem?_cons_succ] at g3
        by_cases k8 : K = 8
        · subst k8
          have hdd : D - 1 = d := by have := HDD.out; rw [if_pos rfl] at this; exact this
          have hw : IntKind.i64.wrap (D - 1) = D - 1 := IntWalk.i64_in _ (by omega)
          have hRR : decide (1 ≤ D) = R1 := by rw [← HR1.out, ← hdd, Bool.eq_iff_iff, decide_eq_true_eq, decide_eq_true_eq]; omega
          have HSS := Lib.hid (HA.out.set (d' := D - 1)); have HR2 := Lib.hid hRR; have HD2 := Lib.hid hdd
          clear hRR hdd
          go_wp2_with fail
          go_meet
          exact ⟨by rw [← HR2.out], by rw [← HD2.out]; exact HSS.out⟩
        · have k8z : (((K : Nat) : Int) == 8) = false := by simp; omega
          have hdd : D = d := by have := HDD.out; rw [if_neg k8] at this; exact this
          have hRR : true = R1 := by rw [← HR1.out]; simp [k8]
          have HR2 := Lib.hid hRR; have HD2 := Lib.hid hdd
          clear hRR hdd k8
          go_wp2_with fail
          go_meet
          exact ⟨by rw [← HR2.out], by rw [← HD2.out]; exact HA.out⟩
      case rest =>
      obtain ⟨rfl, hA⟩ := hcut
      clear HA
      have HA := Lib.hid hA; clear hA
      have g0 := HA.out.node.cell 0
      simp only [nodeV, List.getElem?_cons_zero] at g0
      go_upto_if 77 with fail
      clear g0
      go_cut [10] from 78 to 80 (fun v wx => v = .bool R ∧ AddS w2 wx X Y K d (Z : Int))
      case first =>
        have g3 := HA.out.node.cell 3
        simp only [nodeV, List.getElem?_cons_zero, List.getElem?_cons_succ] at g3
        by_cases k10 : K = 10
        · subst k10
          have hRz : (d == 0) = R := by rw [← HRR.out]; simp only [Bool.beq_eq_decide_eq]; congr 1; simp
          have HR2 := Lib.hid hRz
          clear hRz
          go_wp2_with fail
          go_meet
          exact ⟨by rw [← HR2.out], HA.out⟩
        · have k10z : (((K : Nat) : Int) == 10) = false := by simp; omega
          have hRR : R1 = R := by rw [← HRR.out, ← HR1.out]; simp [k10]
          have HR2 := Lib.hid hRR
          clear hRR k10
          go_wp2_with fail
          go_meet
          exact ⟨by rw [← HR2.out], HA.out⟩
      case rest =>
        obtain ⟨rfl, hA⟩ := hcut
        clear HA
        have HA := Lib.hid hA; clear hA
        have HGc := Lib.hid (HG.out.below HA.out.below)
        have HTc := Lib.hid (HT.out.below HA.out.below)
        have Hbc := Lib.hid (Hb.out.trans (HA.out.below.mono Hb.out.size))
        go_upto_region 13 with fail
        refine Free.wp_key (by kernel_rfl) (by kernel_rfl) (fun b vs wq => MoreF wc l Y K d Z b vs wq) (MoreV mb mo l.length c Y K d) ?_ ?_ ?_
        · intro vs
          exact MoreF.start wc vs
        · intro i oi hi bb vs a9 wq hold hpre hbi hF
          match i with
          | 0 => cases hi; exact Free.c_all rfl (Free.g_move _ rfl ⟨(hold 0 (by decide)).trans rfl, hF.keep (by decide)⟩)
          | 1 =>
            cases hi
            have h0 : a9.eval (.tmp 81) = .slice (some ⟨mb, mo, none⟩) l.length c := (hpre 0 _ _ (by kernel_rfl) rfl rfl).2.2
            refine Free.c_all rfl (Free.g_call _ _ rfl Tryd.func11 (by kernel_rfl) rfl [.slice (some ⟨mb, mo, none⟩) l.length c] (by show [a9.eval (.tmp 81)] = _; rw [h0]) ?_)
            exact (own_any (some ⟨mb, mo, none⟩) l c wq (HGc.out.below hF.below) (by have := HI.out.1; omega) (fun x hx => by have := HI.out.2 x.nd (List.mem_map.2 ⟨x, hx, rfl⟩); omega)).mono fun e w9 ⟨⟨v, l', he, hn, ho⟩, hb⟩ => ⟨v, he, trivial, hF.n1 hbi hb hn ho⟩
          | 2 =>
            cases hi
            exact Free.c_all rfl (Free.g_load _ _ rfl ((hold 9 (by decide)).trans rfl) (loadN (HA.out.node.below hF.below HA.out.node.lt)) ⟨rfl, hF.keep (by decide)⟩)
          | 3 =>
            cases hi
            have h0 : a9.eval (.tmp 83) = .agg (nodeV Y K d).toArray := (hpre 2 _ _ (by kernel_rfl) rfl rfl).2.2
            exact Free.c_all rfl (m_lit _ _ _ [(0, .agg (nodeV Y K d).toArray)] rfl (by show [(0, a9.eval (.tmp 83))] = _; rw [h0]) (buildN wq Y K d) ⟨trivial, hF.n3 hbi⟩)
          | 4 =>
            cases hi
            obtain ⟨hb1, hv1, _⟩ := hpre 1 _ _ (by kernel_rfl) rfl rfl
            obtain ⟨hb3, hv3, _⟩ := hpre 3 _ _ (by kernel_rfl) rfl rfl
            obtain ⟨v', w', hrun, hm⟩ := hF.more hb1 hb3 hbi HA.out.ins.lt HA.out.ins (by have := HI.out.1; omega) (xG_ok (by have := HK5.out; omega) HDR.out (by have := HI.out.1; omega)) _
            exact Free.c_all rfl (m_append _ _ _ rfl _ _ hv1 hv3 hrun ⟨trivial, hm⟩)
          | 5 =>
            cases hi
            obtain ⟨hb4, hv4, _⟩ := hpre 4 _ _ (by kernel_rfl) rfl rfl
            exact Free.c_all rfl (Free.g_assign _ rfl ⟨trivial, by rw [hv4]; exact hF.n5 hb4⟩)
          | n + 6 => simp at hi
        · intro vs w6 hv hF
          obtain ⟨l', A', c', hn', e4, hGx, hcx1, hcx2⟩ := hF.k4 rfl
          obtain ⟨_, e5⟩ := hF.k5 rfl
          have hb6 := hF.below
          have hne := nds_more (Y := Y) (K := K) (Z := Z) (d := d) hn'
          rw [e4] at e5
          generalize (l' ++ [xG Y K d Z]) = lx at *
          have hlx : lx.length = l.length + 1 := by
            have := congrArg List.length hne
            rwa [nds_len, List.length_append, nds_len] at this
          have HGX := Lib.hid hGx; have HNX := Lib.hid hne; have HCX := Lib.hid (And.intro hcx1 hcx2); have HLX := Lib.hid hlx
          have HT6 := Lib.hid (HTc.out.below hb6); have HG6 := Lib.hid (HGc.out.below hb6); have Hb6 := Lib.hid (Hbc.out.trans (hb6.mono Hbc.out.size))
          clear hv hF e4 hGx hne hcx1 hcx2 hlx hb6 hn' HGc HTc Hbc HA
          simp only [Free.puts, Nat.reduceAdd]
          rw [e5]
          generalize vs 0 = y0; generalize vs 1 = y1; generalize vs 2 = y2; generalize vs 3 = y3; generalize vs 4 = y4
          clear e5
          go_simp
          clear HT HG Hb
          have HT := HT6; have HG := HG6; have Hb := Hb6
          clear HT6 HG6 Hb6
          obtain ⟨_, _, _, hcr⟩ := checkR_zero HE.out
          have hN : N = (l.length : Int) := by rw [← HN.out, hcr, nds_len]
          subst hN
          have hmp := (addN_ok HE.out HMN.out H10.out HK5.out (d := d) (by rw [← HDD.out, HD.out]) (addN K d Z) rfl)
          have hnx : nds lx = nds l ++ [addN K d Z] := HNX.out
          have h40 : ∀ x ∈ nds lx, x.ins.length ≤ 40 := by
            rw [hnx]
            intro x hx
            rcases List.mem_append.1 hx with hx | hx
            · have := HI.out.2 x hx; omega
            · obtain rfl := List.mem_singleton.1 hx
              show 1 ≤ 40; decide
          have HMP := Lib.hid hmp; have HN2 := Lib.hid hnx; have H40 := Lib.hid h40; have HCR := Lib.hid hcr
          clear hcr hmp hnx h40 HNX
          obtain ⟨M, hM⟩ : ∃ M, (checkR (nds lx)).1 = M := ⟨_, rfl⟩
          obtain ⟨F, hF⟩ : ∃ F, (checkR (nds lx)).2 = F := ⟨_, rfl⟩
          have hc := (by have h := chkCheck_any A' lx c' w6 HT.out HGX.out (by have := HLX.out; have := HI.out.1; omega) H40.out HCX.out; unfold ChkD at h; rw [hM, hF] at h; exact h)
          have HC := Lib.hid hc; clear hc
          go_wp2_with fail
          refine HC.out.mono ?_; rintro e w7 ⟨rfl, hb⟩
          clear HC
          have h := HG.out.below hb; clear HG; have HG := Lib.hid h; clear h
          have h := HT.out.below hb; clear HT; have HT := Lib.hid h; clear h
          have h := HGX.out.below hb; clear HGX; have HGX := Lib.hid h; clear h
          have h := Hb.out.trans (hb.mono Hb.out.size); clear Hb hb; have Hb := Lib.hid h; clear h
          dsimp only
          cases hRb : R with
          | false =>
            subst hRb
            have hF0 : F ≠ 0 := by
              rw [← hF, HN2.out]
              refine check_wrong fun h => ?_
              have h2 := HRR.out
              rw [decide_eq_false_iff_not] at h2
              exact h2 (HMP.out.1.1 h)
            have hFz : (F != 0) = true := by simpa using hF0
            have HML := Lib.hid (show lx.length ≤ maxLen by have := HLX.out; have := HI.out.1; unfold maxLen; omega)
            clear hF0
            have hc := (by have h := refCheck_any A' lx c' w7 HGX.out HML.out; unfold ChkD at h; rw [hM, hF] at h; exact h)
            have HC := Lib.hid hc; clear hc
            go_wp2_with fail
            refine HC.out.mono ?_; rintro e w8 ⟨rfl, hb⟩
            clear HC
            have h := HG.out.below hb; clear HG; have HG := Lib.hid h; clear h
            have h := HT.out.below hb; clear HT; have HT := Lib.hid h; clear h
            have h := HGX.out.below hb; clear HGX; have HGX := Lib.hid h; clear h
            have h := Hb.out.trans (hb.mono Hb.out.size); clear Hb hb; have Hb := Lib.hid h; clear h
            dsimp only
            have hc := chkWorks_any w8 HT.out
            have HC := Lib.hid hc; clear hc
            go_wp2_with fail
            refine HC.out.mono ?_; rintro e w9 ⟨rfl, hb⟩
            clear HC
            have h := HG.out.below hb; clear HG; have HG := Lib.hid h; clear h
            have h := HT.out.below hb; clear HT; have HT := Lib.hid h; clear h
            have h := HGX.out.below hb; clear HGX; have HGX := Lib.hid h; clear h
            have h := Hb.out.trans (hb.mono Hb.out.size); clear Hb hb; have Hb := Lib.hid h; clear h
            dsimp only
            go_wp2_with fail
            go_ret
            exact ⟨rfl, Hb.out⟩
          | true =>
            subst hRb
            have hrr := HRR.out
            rw [decide_eq_true_eq] at hrr
            have hzin : ∀ z ∈ (addN K d Z).ins, 0 ≤ z ∧ z.toNat < (nds l).length := fun z hz => by
              obtain rfl := List.mem_singleton.1 hz
              rw [nds_len]; omega
            have hcm := check_more HE.out (x := addN K d Z) (by rw [nds_len]; have := HI.out.1; omega) (HMP.out.2 hrr.1 (by rw [nds_len]; have := HI.out.1; omega)) (HMP.out.1.2 hrr) (fun z hz => (hzin z hz).2)
            rw [← HN2.out, nds_len] at hcm
            obtain ⟨T, hT1, hot, hTl, hT2⟩ := order_more HE.out (x := addN K d Z) (by rw [← HN2.out, hcm]) hzin
            rw [← HN2.out, nds_len] at hT2
            rw [nds_len] at hTl
            obtain rfl : M = (l.length : Int) + 1 := by rw [← hM, hcm]
            obtain rfl : F = 0 := by rw [← hF, hcm]
            obtain ⟨xs, hxs⟩ : ∃ xs : List Int, T.map Int.ofNat = xs := ⟨_, rfl⟩
            obtain ⟨ys, hys⟩ : ∃ ys : List Int, (T ++ [l.length]).map Int.ofNat = ys := ⟨_, rfl⟩
            have hxl : xs.length = l.length := by rw [← hxs, List.length_map]; exact hTl
            have hyl : ys.length = l.length + 1 := by rw [← hys, List.length_map, List.length_append, hTl]; rfl
            have HXS := Lib.hid hxs; have HYS := Lib.hid hys; have HT1 := Lib.hid hT1; have HT2 := Lib.hid hT2; have HTL := Lib.hid hTl; have HOT := Lib.hid hot
            clear hrr hzin hcm hT1 hot hTl hT2 hM hF hxs hys
            have hc := (chkOrder_any (some ⟨mb, mo, none⟩) l c w7 HT.out HG.out (by have := HI.out.1; omega) (fun x hx => by have := HI.out.2 x hx; omega) HCC.out).mono fun e w' h => OrdD.ints (xs := xs) (E := 0) (by rw [HT1.out]; exact HXS.out) (by rw [HT1.out]) h
            have HC := Lib.hid hc; clear hc
            go_wp2_with fail
            refine HC.out.mono ?_; rintro e w8 ⟨⟨v, rfl, hv⟩, hb⟩
            clear HC
            have h := HG.out.below hb; clear HG; have HG := Lib.hid h; clear h
            have h := HT.out.below hb; clear HT; have HT := Lib.hid h; clear h
            have h := HGX.out.below hb; clear HGX; have HGX := Lib.hid h; clear h
            have h := Hb.out.trans (hb.mono Hb.out.size); clear Hb hb; have Hb := Lib.hid h; clear h
            dsimp only
            obtain ⟨PA, pc, rfl, hpt, _, _, _, _⟩ := Rw.Ts.of_own (κ := kindI) (ts := xs) hv
            have HPA := Lib.hid hpt; clear hv hpt
            have hc := (chkOrder_any A' lx c' w8 HT.out HGX.out (by have := HLX.out; have := HI.out.1; omega) H40.out HCX.out).mono fun e w' h => OrdD.ints (xs := ys) (E := 0) (by rw [HT2.out]; exact HYS.out) (by rw [HT2.out]) h
            have HC := Lib.hid hc; clear hc
            go_wp2_with fail
            refine HC.out.mono ?_; rintro e w9 ⟨⟨v, rfl, hv⟩, hb⟩
            clear HC
            have h := HG.out.below hb; clear HG; have HG := Lib.hid h; clear h
            have h := HT.out.below hb; clear HT; have HT := Lib.hid h; clear h
            have h := HGX.out.below hb; clear HGX; have HGX := Lib.hid h; clear h
            have h := HPA.out.below hb; clear HPA; have HPA := Lib.hid h; clear h
            have h := Hb.out.trans (hb.mono Hb.out.size); clear Hb hb; have Hb := Lib.hid h; clear h
            dsimp only
            obtain ⟨PB, qc, rfl, hpt, _, _, _, _⟩ := Rw.Ts.of_own (κ := kindI) (ts := ys) hv
            have HPB := Lib.hid hpt; clear hv hpt
            have hw1 : IntKind.i64.wrap ((l.length : Int) + 1) = (l.length : Int) + 1 := IntWalk.i64_in _ (by have := HI.out.1; omega)
            have hl30 := HI.out.1
            have hylz : (ys.length : Int) = (l.length : Int) + 1 := by omega
            have hxlz : (xs.length : Int) = (l.length : Int) := by omega
            have HHB := Lib.hid (Below.refl w9.heap.size w9)
            go_wp2_with fail
            have HXL := Lib.hid hxl; have HYL := Lib.hid hyl
            clear hxl hyl hylz hxlz
            go_loopw [20, 21] (fun kv cv wx => ∃ q : Nat, q ≤ l.length + 1 ∧ cv = .int .i64 q ∧ kv = .int .i64 (min q l.length : Nat) ∧ Below w9.heap.size w9 wx) (fun _ cv _ => l.length + 1 - (intOf cv).toNat)
            case atStart => exact ⟨0, by omega, rfl, by rw [Nat.zero_min]; rfl, HHB.out⟩
            case round =>
              obtain ⟨q, hq, rfl, rfl, hb⟩ := hrel
              clear HHB
              have HHB := Lib.hid hb; clear hb
              by_cases hql : q < l.length + 1
              · have hqz : (q : Int) < (l.length : Int) + 1 := by omega
                by_cases hqn : q < l.length
                · have hqnz : (q : Int) < (l.length : Int) := by omega
                  obtain ⟨tt, ht⟩ : ∃ tt, T[q]? = some tt := ⟨_, List.getElem?_eq_getElem (by rw [HTL.out]; exact hqn)⟩
                  have htl := HOT.out.lt tt (List.mem_of_getElem? ht)
                  rw [nds_len] at htl
                  have hx1 : xs[q]? = some ((tt : Nat) : Int) := by rw [← HXS.out, List.getElem?_map, ht]; rfl
                  have hy1 : ys[q]? = some ((tt : Nat) : Int) := by rw [← HYS.out, List.getElem?_map, List.getElem?_append_left (by rw [HTL.out]; exact hqn), ht]; rfl
                  obtain ⟨ab, ao, rfl, _, hqa⟩ := ints_at HPA.out hx1
                  obtain ⟨bb2, bo, rfl, _, hqb⟩ := ints_at HPB.out hy1
                  have d0 := hqa wr HHB.out
                  have d1 := hqb wr HHB.out
                  have hne : (((tt : Nat) : Int) == (l.length : Int)) = false := by rw [beq_eq_false_iff_ne]; omega
                  have hmin : min q l.length = q := by omega
                  rw [hmin]
                  have hge : decide ((l.length : Int) ≤ (q : Int)) = false := decide_eq_false (by omega)
                  have hge3 : decide (l.length ≤ q) = false := decide_eq_false (by omega)
                  have hw2 : IntKind.i64.wrap ((q : Int) + 1) = (q : Int) + 1 := IntWalk.i64_in _ (by omega)
                  clear hx1 hy1 ht hqa hqb hmin
                  go_wp2_with fail
                  go_quiet (fail)
                  go_wp2_with fail
                  go_roundw
                  case rel => exact ⟨q + 1, by omega, by simp, by have : min (q + 1) l.length = q + 1 := by { omega }; rw [this]; simp, below_drewN HHB.out _⟩
                  case measure => simp only [intOf]; omega
                · have hqe : q = l.length := by omega
                  subst hqe
                  have hy1 : ys[l.length]? = some ((l.length : Nat) : Int) := by rw [← HYS.out, List.getElem?_map, List.getElem?_append_right (by rw [HTL.out]; omega), HTL.out, Nat.sub_self]; rfl
                  obtain ⟨bb2, bo, rfl, _, hqb⟩ := ints_at HPB.out hy1
                  have d1 := hqb wr HHB.out
                  rw [Nat.min_self]
                  clear hy1 hqb
                  go_wp2_with fail
                  go_roundw
                  case rel => exact ⟨l.length + 1, by omega, by simp, by have : min (l.length + 1) l.length = l.length := by { omega }; rw [this], HHB.out⟩
                  case measure => simp only [intOf]; omega
              · have hqz : ¬ (q : Int) < (l.length : Int) + 1 := by omega
                have HBW := Lib.hid (Hb.out.trans (HHB.out.mono Hb.out.size))
                have HCW := Lib.hid (chkWorks_any wr (HT.out.below HHB.out))
                go_wp2_with fail
                refine HCW.out.mono ?_; rintro e w12 ⟨rfl, hb8⟩
                have HBZ := Lib.hid (HBW.out.trans (hb8.mono HBW.out.size)); clear hb8
                dsimp only
                go_wp2_with fail
                go_ret
                exact ⟨rfl, HBZ.out⟩

set_option maxRecDepth 100000 in
theorem lifted (os : Os) (started : os.Started) (H : Type) (enc : TypeId × Value → H) :
    ReturnsInHanded {} Tryd.checked os 6 .any (fun w args => (Rows.checkMoreSpec.pre enc Tryd.prog Tryd.f6 [] false w args ∧ laidMetH Tryd.prog laidT w) ∧ sizedMet enc Tryd.prog Tryd.f6 (OpenSpec.ofChange Rows.checkMoreSpec) false w args) (Rows.checkMoreSpec.post enc Tryd.prog Tryd.f6 false true false false) := by
  refine returnsInHanded_of_change_and (C := Tryd.checked) (X := fun w _ => laidMetH Tryd.prog laidT w) (fun _ _ _ hh h => h.of_heap hh) ownKnob_none started (by kernel_rfl) Tryd.func6
    (ChangeSpec.witness_shaped (enc := enc) (C := Tryd.checked) (os := os) (X := fun w _ => laidMetH Tryd.prog laidT w) false (World.doorLaid Tryd.prog 400 os) #[.slice none 0 0, .int .u8 0, .int .i64 0] 8 rfl (World.shaped_of_RefB (by kernel_rfl) (by kernel_rfl)) (by kernel_rfl) (by kernel_rfl) (by kernel_rfl) (door_met os _)) ?_
  intro W base args ds gs before hval0 hW hcnd hsz0 hL _
  have hTab := tab_of_laid hL
  have hval : ∀ (j : Nat) t v, Tryd.f6.params[j]? = some t → args[j]? = some v → Value.okWide Tryd.prog W .any base t v := hval0
  have hW' := hW
  obtain ⟨p, q, hA0, hV, rfl, hfz, hnd⟩ := hW
  have hA : DataW.TrodAll enc Tryd.prog W 0 (fun _ => true) true Tryd.f6.params.toList args.toList ds p := hA0
  have hsz : (DataW.weightsEach Tryd.prog (Tryd.f6.params.toList ++ Rows.checkMoreSpec.plain.varTypes Tryd.prog) (ds ++ gs)).all (· ≤ reachBytes) = true := hsz0
  rw [Tryd.params6] at hA hval hsz
  obtain ⟨v0, vs0, d0, ds0, p0, q0, hargs, rfl, rfl, h0, r0⟩ := trodAll_cons hA
  obtain ⟨v1, vs1, d1, ds1, p1, q1, rfl, rfl, rfl, h1, r1⟩ := trodAll_cons r0
  obtain ⟨v2, vs2, d2, ds2, p2, q2, rfl, rfl, rfl, h2, r2⟩ := trodAll_cons r1
  obtain ⟨rfl, rfl, rfl⟩ := trodAll_nil r2
  obtain rfl : args = #[v0, v1, v2] := by cases args; simp_all
  obtain ⟨rfl, rfl⟩ := trodVars_none hV
  obtain ⟨A0, l0, c0, rfl, hG0, hgc0, hgm0, hgn0⟩ := open_graph (hval 0 23 v0 rfl rfl) h0
  obtain ⟨a1, rfl, rfl, rfl, w1⟩ := open_int Tryd.underlying5 (hval 1 5 v1 rfl rfl) h1
  have b1 := u8_wf w1
  obtain ⟨n1, rfl⟩ := Int.eq_ofNat_of_zero_le b1.1
  obtain ⟨a2, rfl, rfl, rfl, w2⟩ := open_int Tryd.underlying3 (hval 2 3 v2 rfl rfl) h2
  have b2 := i64_wf w2
  clear hA0 hval0 hsz0
  refine (walk A0 l0 c0 n1 a2 W hTab hG0 (Nat.le_trans hgc0 hgm0) ⟨hgc0, hgm0⟩).mono fun e W' ⟨he, hg⟩ => ?_
  subst he
  exact ⟨_, rfl, law_post progLaid hW' rfl (by rw [Tryd.params6]; intro t ht; simp at ht; rcases ht with rfl | rfl | rfl <;> exact ⟨by kernel_rfl, of_decide_eq_true (by kernel_rfl)⟩) rfl Tryd.underlying4 rfl hg⟩

theorem over : Rows.checkMoreRow.holds Tryd.pinned (OpenSpec.ofChange Rows.checkMoreSpec) :=
  OpenClaim.holds_of_wide 6 Tryd.f6 rfl rfl rfl rfl rfl rfl rfl ⟨rfl, rfl, rfl, rfl, rfl⟩ rfl rfl rfl rfl rfl (by kernel_rfl) Tryd.func6 (by kernel_rfl)
    (of_decide_eq_true (by kernel_rfl)) (by unfold Func.isWrapper; first | (rw [if_pos (by decide +kernel)]; kernel_rfl) | (rw [if_neg (by decide +kernel)]; exact ⟨rfl, rfl⟩))
    (fun os started H enc _ => lifted os started H enc)

/-- The statement. -/
theorem proved : Rows.CheckMoreCardSaid :=
  Claim7.holds_tied_plain_at .later [] [.data] true Rows.checkMoreCard.stood.harness false over (fun _ h => by cases h) (by kernel_rfl) (fun _ h => by cases h) checkMore_row_tie rfl ⟨rfl, rfl⟩ (by kernel_rfl) rfl
    (fun f fn hf hfn => by
      obtain rfl : f = 6 := Option.some.inj ((show Tryd.prog.funcNamed "tailrace/tailracelaw10.CheckMore" = some 6 by kernel_rfl).symm.trans hf) |>.symm
      obtain rfl : fn = Tryd.f6 := (Option.some.inj (Tryd.func6.symm.trans hfn)).symm
      refine ⟨by kernel_rfl, fun j t ht => ?_⟩
      rw [Tryd.params6] at ht
      have hm := Array.mem_of_getElem? ht
      simp only [List.mem_toArray, List.mem_cons, List.not_mem_nil, or_false] at hm
      first
        | (subst hm; exact si_graph)
        | (rcases hm with rfl | rfl <;> first | exact si_graph | exact si_int | exact si_u8)
        | (rcases hm with rfl | rfl | rfl <;> first | exact si_graph | exact si_int | exact si_u8)
        | cases hm)
    (by kernel_rfl)
end checkMore
end Go.Proofs.YtocdganglokplaaDoor
