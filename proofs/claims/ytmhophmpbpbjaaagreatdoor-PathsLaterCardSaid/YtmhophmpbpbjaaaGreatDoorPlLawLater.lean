/- PathsLater: what may come of a time is within what may come of a later one. -/
import Derived.Test.YtmhophmpbpbjaaaGreatDoorCa31
import Derived.Test.YtmhophmpbpbjaaaGreatDoorCa8
import Derived.Test.YtmhophmpbpbjaaaGreatDoorCa6
import Derived.Test.YtmhophmpbpbjaaaGreatDoorCa28
import Derived.Test.YtmhophmpbpbjaaaGreatDoorCa27
import Derived.Test.YtmhophmpbpbjaaaGreatDoorCa30
namespace Go.Proofs.YtmhophmpbpbjaaaGreatDoor
open Go.ChangeShapes Go.WideShapes Go.ChangeAt Go.RowKit Go.BigFrame
set_option linter.unusedVariables false
set_option maxRecDepth 100000
theorem WaysOf.uniq {g : List Nd} {f t : Int} {l m : List Sm} (h : WaysOf g f t l) (k : WaysOf g f t m) : l = m := by
  rcases h with ⟨i, n, T, D, e1, e2, hi, hn, hr, hl⟩ | ⟨hno, rfl⟩
  · rcases k with ⟨i', n', T', D', e1', e2', _, _, hr', hl'⟩ | ⟨hno, _⟩
    · obtain rfl : i = i' := by omega
      obtain rfl : n = n' := by omega
      have hall : ∀ x ∈ l ++ m, Arr g i n x := fun x hx => by
        rcases List.mem_append.1 hx with hx | hx
        · exact hr.dsound n x (hr.sub n l x hl hx)
        · exact hr'.dsound n x (hr'.sub n m x hl' hx)
      have q1 : waysS l = waysS (l ++ m) := waysS_cover (fun x hx => List.mem_append_left _ hx) fun x hx _ => by
        obtain ⟨y, ⟨z, hz, hy⟩, hyl⟩ := hr.coverP.covers (hall x hx)
        rw [hl] at hz; cases hz
        exact ⟨y, hy, hyl⟩
      have q2 : waysS m = waysS (l ++ m) := waysS_cover (fun x hx => List.mem_append_right _ hx) fun x hx _ => by
        obtain ⟨y, ⟨z, hz, hy⟩, hyl⟩ := hr'.coverP.covers (hall x hx)
        rw [hl'] at hz; cases hz
        exact ⟨y, hy, hyl⟩
      rw [← hr.self n l hl, ← hr'.self n m hl', q1, q2]
    · exact absurd ⟨⟨by omega, by omega⟩, by omega, by omega⟩ hno
  · rcases k with ⟨i', n', T', D', e1', e2', _, _, _, _⟩ | ⟨_, rfl⟩
    · exact absurd ⟨⟨by omega, by omega⟩, by omega, by omega⟩ hno
    · rfl
theorem later_under {T U : St} {l : List Sm} (ho : OneTo l) (hts : T.L U) : Under (ofS (appS T l)) (ofS (appS U l)) := by
  refine ⟨⟨ofS_fr (appS_even ho), ofS_fr (appS_even ho), fun x hx y hy => ?_⟩, comes_later ho hts⟩
  obtain ⟨s, hs, e⟩ := mem_appS.1 (mem_ofS.1 hx).1
  obtain ⟨s', hs', e'⟩ := mem_appS.1 (mem_ofS.1 hy).1
  rw [(Sm.apply_R e).2.1, (Sm.apply_R e').2.1]
  exact ho s hs s' hs'
namespace pathsLater
structure LatF (w1 : World) (base p F : Nat) (A : Option Addr) (c : Nat) (lg : List Gn) (f t : Int) (T U : St) (b : Nat → Bool) (vs : Nat → Value) (wz : World) : Prop where
  below : Below w1.heap.size w1 wz
  pth : ∃ fs, Pth wz base p F A c lg fs
  one : b 4 = true → ∃ l, WaysOf (nds lg) f t l ∧ wz.ownsRow 0 49 5 (vs 4) (ofS (appS T l)).length (rowS (ofS (appS T l)))
  two : b 9 = true → ∃ l, WaysOf (nds lg) f t l ∧ wz.ownsRow 0 49 5 (vs 9) (ofS (appS U l)).length (rowS (ofS (appS U l)))
  a1 : b 10 = true → b 4 = true ∧ vs 10 = vs 4
  a2 : b 11 = true → b 9 = true ∧ vs 11 = vs 9
section
variable {w1 wz wy : World} {base p F : Nat} {A : Option Addr} {c : Nat} {lg : List Gn} {f t : Int} {T U : St} {b : Nat → Bool} {vs : Nat → Value} {v : Value} {i : Nat}
theorem LatF.keep (h : LatF w1 base p F A c lg f t T U b vs wz) (hb : Below wz.heap.size wz wy) (hi : i ≠ 4 ∧ i ≠ 9 ∧ i ≠ 10 ∧ i ≠ 11) : LatF w1 base p F A c lg f t T U (Free.updb b i) (Free.updw vs i v) wy := by
  obtain ⟨h4, h9, h10, h11⟩ := hi
  obtain ⟨k1, ⟨fs, hP⟩, k3, k4, k5, k6⟩ := h
  refine ⟨k1.trans (hb.mono k1.size), ⟨fs, hP.below hb⟩, ?_, ?_, ?_, ?_⟩
  · rw [Free.updb_ne (Ne.symm h4), Free.updw_ne (Ne.symm h4)]
    intro k; obtain ⟨l, hw, ho⟩ := k3 k; exact ⟨l, hw, Rw.own_kept ho hb⟩
  · rw [Free.updb_ne (Ne.symm h9), Free.updw_ne (Ne.symm h9)]
    intro k; obtain ⟨l, hw, ho⟩ := k4 k; exact ⟨l, hw, Rw.own_kept ho hb⟩
  · rw [Free.updb_ne (Ne.symm h10), Free.updb_ne (Ne.symm h4), Free.updw_ne (Ne.symm h10), Free.updw_ne (Ne.symm h4)]; exact k5
  · rw [Free.updb_ne (Ne.symm h11), Free.updb_ne (Ne.symm h9), Free.updw_ne (Ne.symm h11), Free.updw_ne (Ne.symm h9)]; exact k6
theorem LatF.first {l : List Sm} (h : LatF w1 base p F A c lg f t T U b vs wz) (hbi : b 4 = false) (hFB : w1.heap.size ≤ F) (hw : WaysOf (nds lg) f t l) (ho : wy.ownsRow wz.heap.size 49 5 v (ofS (appS T l)).length (rowS (ofS (appS T l)))) (hp : ∃ fs, Pth wy base p F A c lg fs) (ht : Touch (fun k => k = F) wz wy) :
    LatF w1 base p F A c lg f t T U (Free.updb b 4) (Free.updw vs 4 v) wy := by
  obtain ⟨k1, ⟨fs, hP⟩, k3, k4, k5, k6⟩ := h
  refine ⟨k1.trans (ht.below (fun k hk => by subst hk; exact hFB) k1.size), hp, fun _ => ⟨l, hw, by rw [Free.updw_self]; exact own_base ho (Nat.zero_le _)⟩, ?_, ?_, ?_⟩
  · rw [Free.updb_ne (by decide), Free.updw_ne (by decide)]
    intro k; obtain ⟨l, hw, ho⟩ := k4 k; exact ⟨l, hw, own_touchF ho hP.fans (by decide) ht⟩
  · rw [Free.updb_ne (show 10 ≠ 4 by decide)]
    intro k; rw [(k5 k).1] at hbi; cases hbi
  · rw [Free.updb_ne (by decide), Free.updb_ne (by decide), Free.updw_ne (by decide), Free.updw_ne (by decide)]; exact k6
theorem LatF.second {l : List Sm} (h : LatF w1 base p F A c lg f t T U b vs wz) (hbi : b 9 = false) (hFB : w1.heap.size ≤ F) (hw : WaysOf (nds lg) f t l) (ho : wy.ownsRow wz.heap.size 49 5 v (ofS (appS U l)).length (rowS (ofS (appS U l)))) (hp : ∃ fs, Pth wy base p F A c lg fs) (ht : Touch (fun k => k = F) wz wy) :
    LatF w1 base p F A c lg f t T U (Free.updb b 9) (Free.updw vs 9 v) wy := by
  obtain ⟨k1, ⟨fs, hP⟩, k3, k4, k5, k6⟩ := h
  refine ⟨k1.trans (ht.below (fun k hk => by subst hk; exact hFB) k1.size), hp, ?_, fun _ => ⟨l, hw, by rw [Free.updw_self]; exact own_base ho (Nat.zero_le _)⟩, ?_, ?_⟩
  · rw [Free.updb_ne (by decide), Free.updw_ne (by decide)]
    intro k; obtain ⟨l, hw, ho⟩ := k3 k; exact ⟨l, hw, own_touchF ho hP.fans (by decide) ht⟩
  · rw [Free.updb_ne (by decide), Free.updb_ne (by decide), Free.updw_ne (by decide), Free.updw_ne (by decide)]; exact k5
  · rw [Free.updb_ne (show 11 ≠ 9 by decide)]
    intro k; rw [(k6 k).1] at hbi; cases hbi
theorem LatF.asg1 (h : LatF w1 base p F A c lg f t T U b vs wz) (k : b 4 = true) : LatF w1 base p F A c lg f t T U (Free.updb b 10) (Free.updw vs 10 (vs 4)) wz := by
  obtain ⟨k1, k2, k3, k4, k5, k6⟩ := h
  refine ⟨k1, k2, ?_, ?_, fun _ => ⟨by rw [Free.updb_ne (by decide)]; exact k, by rw [Free.updw_self, Free.updw_ne (by decide)]⟩, ?_⟩
  · rw [Free.updb_ne (by decide), Free.updw_ne (by decide)]; exact k3
  · rw [Free.updb_ne (by decide), Free.updw_ne (by decide)]; exact k4
  · rw [Free.updb_ne (by decide), Free.updb_ne (by decide), Free.updw_ne (by decide), Free.updw_ne (by decide)]; exact k6
theorem LatF.asg2 (h : LatF w1 base p F A c lg f t T U b vs wz) (k : b 9 = true) : LatF w1 base p F A c lg f t T U (Free.updb b 11) (Free.updw vs 11 (vs 9)) wz := by
  obtain ⟨k1, k2, k3, k4, k5, k6⟩ := h
  refine ⟨k1, k2, ?_, ?_, ?_, fun _ => ⟨by rw [Free.updb_ne (by decide)]; exact k, by rw [Free.updw_self, Free.updw_ne (by decide)]⟩⟩
  · rw [Free.updb_ne (by decide), Free.updw_ne (by decide)]; exact k3
  · rw [Free.updb_ne (by decide), Free.updw_ne (by decide)]; exact k4
  · rw [Free.updb_ne (by decide), Free.updb_ne (by decide), Free.updw_ne (by decide), Free.updw_ne (by decide)]; exact k5
theorem LatF.done (h : LatF w1 base p F A c lg f t T U (fun _ => true) vs wz) : ∃ l A1 c1 A2 c2, WaysOf (nds lg) f t l ∧ vs 10 = .slice A1 (ofS (appS T l)).length c1 ∧ vs 11 = .slice A2 (ofS (appS U l)).length c2 ∧ Ts wz A1 (ofS (appS T l)) ∧ Ts wz A2 (ofS (appS U l)) ∧ ((ofS (appS T l)).length ≤ c1 ∧ c1 ≤ maxLen) ∧ ((ofS (appS U l)).length ≤ c2 ∧ c2 ≤ maxLen) ∧ (∃ fs, Pth wz base p F A c lg fs) ∧ Below w1.heap.size w1 wz := by
  obtain ⟨k1, k2, k3, k4, k5, k6⟩ := h
  obtain ⟨l, hw, ho⟩ := k3 rfl
  obtain ⟨l', hw', ho'⟩ := k4 rfl
  obtain rfl := hw.uniq hw'
  obtain ⟨A1, c1, e1, hT1, h1, h2, _⟩ := Rw.Ts.of_own (κ := kindU) (ts := ofS (appS T l)) ho
  obtain ⟨A2, c2, e2, hT2, h3, h4, _⟩ := Rw.Ts.of_own (κ := kindU) (ts := ofS (appS U l)) ho'
  exact ⟨l, A1, c1, A2, c2, hw, (k5 rfl).2.trans e1, (k6 rfl).2.trans e2, hT1, hT2, ⟨h1, h2⟩, ⟨h3, h4⟩, k2, k1⟩
end
def LaV (p : Nat) (f t : Int) (T U : St) (i : Nat) (v : Value) : Prop := match i with
  | 0 => v = .pointer (some ⟨p, 0, none⟩)
  | 1 => v = .int .i64 f
  | 2 => v = .agg #[.int .i64 T.d, .int .i64 T.e, .int .i64 T.x, .int .i64 T.y, .int .i64 T.z]
  | 3 => v = .int .i64 t
  | 4 => True
  | 5 => v = .pointer (some ⟨p, 0, none⟩)
  | 6 => v = .int .i64 f
  | 7 => v = .agg #[.int .i64 U.d, .int .i64 U.e, .int .i64 U.x, .int .i64 U.y, .int .i64 U.z]
  | 8 => v = .int .i64 t
  | 9 => True
  | 10 => True
  | _ => True
set_option maxHeartbeats 16000000 in
theorem walk (A0 : Option Addr) (lg0 : List Gn) (c0 : Nat) (f t : Int) (T U : St) (w : World) (hT : Tab w) (hG : Gr w A0 lg0) (hl : lg0.length ≤ maxLen) (hc : lg0.length ≤ c0 ∧ c0 ≤ maxLen) (hn0 : A0 = none → c0 = 0) :
    Calls Tryz.prog 5 #[.slice A0 lg0.length c0, .int .i64 f, .int .i64 t, T.val, U.val] w fun e w' => e = .returned (.bool true) ∧ Below w.heap.size w w' := by
  have hb0 : Below w.heap.size w ((w.alloc (.cells #[.int .i64 T.d, .int .i64 T.e, .int .i64 T.x, .int .i64 T.y, .int .i64 T.z] 49)).alloc (.cells #[.int .i64 U.d, .int .i64 U.e, .int .i64 U.x, .int .i64 U.y, .int .i64 U.z] 49)) := ((Below.refl _ _).alloc (Nat.le_refl _) _).alloc (by simp) _
  have hub : Holds ((w.alloc (.cells #[.int .i64 T.d, .int .i64 T.e, .int .i64 T.x, .int .i64 T.y, .int .i64 T.z] 49)).alloc (.cells #[.int .i64 U.d, .int .i64 U.e, .int .i64 U.x, .int .i64 U.y, .int .i64 U.z] 49)) (w.heap.size + 1) U := by have h := Holds.made (w.alloc (.cells #[.int .i64 T.d, .int .i64 T.e, .int .i64 T.x, .int .i64 T.y, .int .i64 T.z] 49)) U; rw [show (w.alloc (.cells #[.int .i64 T.d, .int .i64 T.e, .int .i64 T.x, .int .i64 T.y, .int .i64 T.z] 49)).heap.size = w.heap.size + 1 by simp] at h; exact h
  have HTB := Lib.hid ((Holds.made w T).alloc (.cells #[.int .i64 U.d, .int .i64 U.e, .int .i64 U.x, .int .i64 U.y, .int .i64 U.z] 49))
  have HUB := Lib.hid hub
  have HT := Lib.hid (hT.below hb0); have HG := Lib.hid (hG.below hb0); have HB0 := Lib.hid hb0; have HC := Lib.hid hc; have HN0 := Lib.hid hn0; have HLM := Lib.hid hl; clear hT hG hb0 hc hn0 hl hub
  go_enter Tryz.func5, Tryz.ntmps5
  go_wp2_with fail
  generalize (w.alloc (.cells #[.int .i64 T.d, .int .i64 T.e, .int .i64 T.x, .int .i64 T.y, .int .i64 T.z] 49)).alloc (.cells #[.int .i64 U.d, .int .i64 U.e, .int .i64 U.x, .int .i64 U.y, .int .i64 U.z] 49) = w1 at *
  obtain ⟨wn0, hwn0⟩ : ∃ wn0, w.heap.size = wn0 := ⟨_, rfl⟩
  obtain ⟨wn1, hwn1⟩ : ∃ wn1, w.heap.size + 1 = wn1 := ⟨_, rfl⟩
  rw [hwn1] at HUB ⊢
  rw [hwn0] at HTB ⊢
  clear hwn0 hwn1
  refine (few_any A0 lg0 c0 w1 HG.out HLM.out).mono ?_; rintro e w2 ⟨⟨b, rfl, hb⟩, rfl⟩
  cases b with
  | false =>
    clear hb
    dsimp only
    go_wp2_with fail
    refine (plWorks_any w1 (HT.out)).mono ?_; rintro e w9 ⟨rfl, hb⟩
    have HB := Lib.hid (HB0.out.trans (hb.mono HB0.out.size)); clear hb
    dsimp only
    go_wp2_with fail
    go_ret
    exact ⟨rfl, HB.out⟩
  | true =>
    obtain ⟨hl14, hI⟩ := few_nds (hb rfl)
    have HL0 := Lib.hid hl14; have HI0 := Lib.hid hI; clear hl14 hI hb
    obtain ⟨t0, t1, t2, t3, t4⟩ := HTB.out.c5
    obtain ⟨u0, u1, u2, u3, u4⟩ := HUB.out.c5
    dsimp only
    go_wp2_with fail
    clear t0 t1 t2 t3 t4 u0 u1 u2 u3 u4
    refine (leq_any T U w1).mono ?_; rintro e wq ⟨rfl, hbq⟩
    have HBQ := Lib.hid hbq; clear hbq
    dsimp only
    by_cases hTU : T.L U
    · rw [decide_eq_true hTU]
      have HTU := Lib.hid hTU; clear hTU
      by_cases hE : (checkR (nds lg0)).2 = 0
      · have hfi : Fine (nds lg0) := fine_of (checkR_zero hE).2.1
        have hnew := new_good A0 lg0 c0 wq (HT.out.below HBQ.out) (HG.out.below HBQ.out) (by have := HL0.out; omega) HI0.out HC.out HN0.out hE
        have HNEW := Lib.hid hnew; have HFI0 := Lib.hid hfi; clear hnew hfi hE
        go_wp2_with fail
        refine HNEW.out.mono ?_
        rintro e wn ⟨⟨p, F, A, c, lg, rfl, hn, hP⟩, hbn⟩
        have hll : lg.length = lg0.length := by rw [← nds_len, hn, nds_len]
        have HFB : Hid (w1.heap.size ≤ F) := Lib.hid (Nat.le_trans HBQ.out.size hP.lo.2); have HP := Lib.hid hP; have HBN := Lib.hid (HBQ.out.trans (hbn.mono HBQ.out.size)); have HL : Hid (lg.length ≤ 14) := Lib.hid (by have := HL0.out; omega)
        have HI : Hid (∀ x ∈ nds lg, x.ins.length ≤ 40) := Lib.hid (by rw [hn]; exact HI0.out)
        have HFI : Hid (Fine (nds lg)) := Lib.hid (by rw [hn]; exact HFI0.out)
        clear hn hP hbn hll HNEW
        dsimp only
        generalize wq.heap.size = base at HP
        go_upto_region 6 with fail
        refine Free.wp_key (by kernel_rfl) (by kernel_rfl) (LatF w1 base p F A c lg f t T U) (LaV p f t T U) (fun vs => ⟨HBN.out.drew, ⟨_, HP.out.below (Below.refl _ _).drew⟩, fun h => by simp at h, fun h => by simp at h, fun h => by simp at h, fun h => by simp at h⟩) ?_ ?_
        · intro i o hi bz vs a wa hold hpre hbi hF
          match i with
          | 0 =>
            cases hi
            exact Free.c_all rfl (Free.g_move _ rfl ⟨((hold 11 (by decide)).trans rfl), hF.keep (Below.refl _ _) (by decide)⟩)
          | 1 =>
            cases hi
            exact Free.c_all rfl (Free.g_move _ rfl ⟨((hold 1 (by decide)).trans rfl), hF.keep (Below.refl _ _) (by decide)⟩)
          | 2 =>
            cases hi
            exact Free.c_all rfl (Free.g_load _ _ rfl ((hold 8 (by decide)).trans rfl) (load_t HTB.out wa hF.below) ⟨rfl, hF.keep (Below.refl _ _) (by decide)⟩)
          | 3 =>
            cases hi
            exact Free.c_all rfl (Free.g_move _ rfl ⟨((hold 2 (by decide)).trans rfl), hF.keep (Below.refl _ _) (by decide)⟩)
          | 4 =>
            cases hi
            have h0 : a.eval (.tmp 33) = .pointer (some ⟨p, 0, none⟩) := (hpre 0 _ _ (by kernel_rfl) rfl rfl).2.2
            have h1 : a.eval (.tmp 34) = .int .i64 f := (hpre 1 _ _ (by kernel_rfl) rfl rfl).2.2
            have h2 : a.eval (.tmp 35) = .agg #[.int .i64 T.d, .int .i64 T.e, .int .i64 T.x, .int .i64 T.y, .int .i64 T.z] := (hpre 2 _ _ (by kernel_rfl) rfl rfl).2.2
            have h3 : a.eval (.tmp 36) = .int .i64 t := (hpre 3 _ _ (by kernel_rfl) rfl rfl).2.2
            refine Free.c_all rfl (Free.g_call _ _ rfl Tryz.func21 (by kernel_rfl) rfl [.pointer (some ⟨p, 0, none⟩), .int .i64 f, .agg #[.int .i64 T.d, .int .i64 T.e, .int .i64 T.x, .int .i64 T.y, .int .i64 T.z], .int .i64 t] (by show [a.eval (.tmp 33), a.eval (.tmp 34), a.eval (.tmp 35), a.eval (.tmp 36)] = _; rw [h0, h1, h2, h3]) ?_)
            obtain ⟨fs, hP⟩ := hF.pth
            exact (comes_any p F c base A lg fs f t T wa hP HL.out HI.out HFI.out).mono fun e w2 ⟨⟨v, l, he, hw, ho⟩, hp, ht⟩ => ⟨v, he, trivial, hF.first hbi HFB.out hw ho hp ht⟩
          | 5 =>
            cases hi
            exact Free.c_all rfl (Free.g_move _ rfl ⟨((hold 11 (by decide)).trans rfl), hF.keep (Below.refl _ _) (by decide)⟩)
          | 6 =>
            cases hi
            exact Free.c_all rfl (Free.g_move _ rfl ⟨((hold 1 (by decide)).trans rfl), hF.keep (Below.refl _ _) (by decide)⟩)
          | 7 =>
            cases hi
            exact Free.c_all rfl (Free.g_load _ _ rfl ((hold 9 (by decide)).trans rfl) (load_t HUB.out wa hF.below) ⟨rfl, hF.keep (Below.refl _ _) (by decide)⟩)
          | 8 =>
            cases hi
            exact Free.c_all rfl (Free.g_move _ rfl ⟨((hold 2 (by decide)).trans rfl), hF.keep (Below.refl _ _) (by decide)⟩)
          | 9 =>
            cases hi
            have h0 : a.eval (.tmp 38) = .pointer (some ⟨p, 0, none⟩) := (hpre 5 _ _ (by kernel_rfl) rfl rfl).2.2
            have h1 : a.eval (.tmp 39) = .int .i64 f := (hpre 6 _ _ (by kernel_rfl) rfl rfl).2.2
            have h2 : a.eval (.tmp 40) = .agg #[.int .i64 U.d, .int .i64 U.e, .int .i64 U.x, .int .i64 U.y, .int .i64 U.z] := (hpre 7 _ _ (by kernel_rfl) rfl rfl).2.2
            have h3 : a.eval (.tmp 41) = .int .i64 t := (hpre 8 _ _ (by kernel_rfl) rfl rfl).2.2
            refine Free.c_all rfl (Free.g_call _ _ rfl Tryz.func21 (by kernel_rfl) rfl [.pointer (some ⟨p, 0, none⟩), .int .i64 f, .agg #[.int .i64 U.d, .int .i64 U.e, .int .i64 U.x, .int .i64 U.y, .int .i64 U.z], .int .i64 t] (by show [a.eval (.tmp 38), a.eval (.tmp 39), a.eval (.tmp 40), a.eval (.tmp 41)] = _; rw [h0, h1, h2, h3]) ?_)
            obtain ⟨fs, hP⟩ := hF.pth
            exact (comes_any p F c base A lg fs f t U wa hP HL.out HI.out HFI.out).mono fun e w2 ⟨⟨v, l, he, hw, ho⟩, hp, ht⟩ => ⟨v, he, trivial, hF.second hbi HFB.out hw ho hp ht⟩
          | 10 =>
            cases hi
            have q4 := hpre (4) _ _ (by kernel_rfl) rfl rfl
            exact Free.c_all rfl (Free.g_assign _ rfl ⟨trivial, by rw [q4.2.1]; exact hF.asg1 q4.1⟩)
          | 11 =>
            cases hi
            have q9 := hpre (9) _ _ (by kernel_rfl) rfl rfl
            exact Free.c_all rfl (Free.g_assign _ rfl ⟨trivial, by rw [q9.2.1]; exact hF.asg2 q9.1⟩)
          | _ + 12 => cases hi
        · intro vs we hv hF
          clear hv
          obtain ⟨l, A1, c1, A2, c2, hw, e1, e2, hT1, hT2, hc1, hc2, hp, hbw⟩ := hF.done
          clear hF
          simp only [Free.puts, Nat.reduceAdd, e1, e2]
          clear e1 e2
          generalize vs 0 = y0
          generalize vs 1 = y1
          generalize vs 2 = y2
          generalize vs 3 = y3
          generalize vs 4 = y4
          generalize vs 5 = y5
          generalize vs 6 = y6
          generalize vs 7 = y7
          generalize vs 8 = y8
          generalize vs 9 = y9
          clear vs
          go_simp
          have hone := hw.one HFI.out
          have hund := later_under hone HTU.out
          have hlen1 : (ofS (appS T l)).length ≤ 5000000 := by have h1 := ofS_len (appS T l); have h2 := appS_len T l; have h3 := hw.len; omega
          have hlen2 : (ofS (appS U l)).length ≤ 5000000 := by have h1 := ofS_len (appS U l); have h2 := appS_len U l; have h3 := hw.len; omega
          have r1 := right_row_any A1 (ofS (appS T l)) c1 we hT1 hlen1 hc1.1 hc1.2
          rw [decide_eq_true hund.1.1] at r1
          have r2 := fun wx (hx : Below we.heap.size we wx) => right_row_any A2 (ofS (appS U l)) c2 wx (hT2.below hx) hlen2 hc2.1 hc2.2
          rw [decide_eq_true hund.1.2.1] at r2
          have r3 := fun wx (hx : Below we.heap.size we wx) => frWithin_any A1 A2 (ofS (appS T l)) (ofS (appS U l)) c1 c2 wx (hT1.below hx) (hT2.below hx) hlen1 hlen2 hc1.1 hc2.1 hc1.2 hc2.2
          rw [decide_eq_true hund] at r3
          have HR1 := Lib.hid r1; have HR2 := Lib.hid r2; have HR3 := Lib.hid r3; have HBW := Lib.hid hbw
          clear r1 r2 r3 hund hone hw hlen1 hlen2 hT1 hT2 hc1 hc2 hp hbw
          go_wp2_with fail
          refine HR1.out.mono ?_; rintro e wa ⟨rfl, hba⟩
          have HBA := Lib.hid hba; clear hba
          dsimp only
          go_wp2_with fail
          refine (HR2.out wa HBA.out).mono ?_; rintro e wb ⟨rfl, hbb⟩
          have HBB := Lib.hid (HBA.out.trans (hbb.mono HBA.out.size)); clear hbb
          dsimp only
          go_wp2_with fail
          refine (HR3.out wb HBB.out).mono ?_; rintro e wc ⟨rfl, hbc⟩
          have HBC := Lib.hid (HBW.out.trans ((HBB.out.trans (hbc.mono HBB.out.size)).mono HBW.out.size)); clear hbc
          dsimp only
          go_wp2_with fail
          refine (plWorks_any wc (HT.out.below HBC.out)).mono ?_; rintro e w9 ⟨rfl, hb⟩
          have HB := Lib.hid (HB0.out.trans ((HBC.out.trans (hb.mono HBC.out.size)).mono HB0.out.size)); clear hb
          dsimp only
          go_wp2_with fail
          go_ret
          exact ⟨rfl, HB.out⟩
      · have hnew := new_bad A0 lg0 c0 wq (HT.out.below HBQ.out) (HG.out.below HBQ.out) (by have := HL0.out; omega) HI0.out HC.out hE
        have hez : ((checkR (nds lg0)).2 != 0) = true := by simpa using hE
        generalize (checkR (nds lg0)).2 = E at *
        have HNEW := Lib.hid hnew; clear hnew hE
        go_wp2_with fail
        refine HNEW.out.mono ?_
        rintro e wn ⟨rfl, hbn⟩
        have HBN := Lib.hid (HBQ.out.trans (hbn.mono HBQ.out.size)); clear hbn HNEW
        dsimp only
        go_wp2_with fail
        refine (plWorks_any wn (HT.out.below HBN.out)).mono ?_; rintro e w9 ⟨rfl, hb⟩
        have HB := Lib.hid (HB0.out.trans ((HBN.out.trans (hb.mono HBN.out.size)).mono HB0.out.size)); clear hb
        dsimp only
        go_wp2_with fail
        go_ret
        exact ⟨rfl, HB.out⟩
    · rw [decide_eq_false hTU]
      clear hTU
      go_wp2_with fail
      refine (plWorks_any wq (HT.out.below HBQ.out)).mono ?_; rintro e w9 ⟨rfl, hb⟩
      have HB := Lib.hid (HB0.out.trans ((HBQ.out.trans (hb.mono HBQ.out.size)).mono HB0.out.size)); clear hb
      dsimp only
      go_wp2_with fail
      go_ret
      exact ⟨rfl, HB.out⟩

set_option maxRecDepth 100000 in
theorem lifted (os : Os) (started : os.Started) (H : Type) (enc : TypeId × Value → H) :
    ReturnsInHanded {} Tryz.checked os 5 .any (fun w args => (Rows.pathsLaterSpec.pre enc Tryz.prog Tryz.f5 [] false w args ∧ laidMetH Tryz.prog laidT w) ∧ sizedMet enc Tryz.prog Tryz.f5 (OpenSpec.ofChange Rows.pathsLaterSpec) false w args) (Rows.pathsLaterSpec.post enc Tryz.prog Tryz.f5 false true false false) := by
  refine returnsInHanded_of_change_and (C := Tryz.checked) (X := fun w _ => laidMetH Tryz.prog laidT w) (fun _ _ _ hh h => h.of_heap hh) ownKnob_none started (by kernel_rfl) Tryz.func5
    (ChangeSpec.witness_shaped (enc := enc) (C := Tryz.checked) (os := os) (X := fun w _ => laidMetH Tryz.prog laidT w) false (World.doorLaid Tryz.prog 400 os) #[.slice none 0 0, .int .i64 0, .int .i64 0, .agg #[.int .i64 0, .int .i64 0, .int .i64 0, .int .i64 0, .int .i64 0], .agg #[.int .i64 0, .int .i64 0, .int .i64 0, .int .i64 0, .int .i64 0]] 8 rfl (World.shaped_of_RefB (by kernel_rfl) (by kernel_rfl)) (by kernel_rfl) (by kernel_rfl) (by kernel_rfl) (door_met os _)) ?_
  intro W base args ds gs before hval0 hW hcnd hsz0 hL _
  have hTab := tab_of_laid hL
  have hval : ∀ (j : Nat) t v, Tryz.f5.params[j]? = some t → args[j]? = some v → Value.okWide Tryz.prog W .any base t v := hval0
  have hW' := hW
  obtain ⟨p, q, hA0, hV, rfl, hfz, hnd⟩ := hW
  have hA : DataW.TrodAll enc Tryz.prog W 0 (fun _ => true) true Tryz.f5.params.toList args.toList ds p := hA0
  have hsz : (DataW.weightsEach Tryz.prog (Tryz.f5.params.toList ++ Rows.pathsLaterSpec.plain.varTypes Tryz.prog) (ds ++ gs)).all (· ≤ reachBytes) = true := hsz0
  rw [Tryz.params5] at hA hval hsz
  obtain ⟨v0, vs0, d0, ds0, p0, q0, hargs, rfl, rfl, h0, r0⟩ := trodAll_cons hA
  obtain ⟨v1, vs1, d1, ds1, p1, q1, rfl, rfl, rfl, h1, r1⟩ := trodAll_cons r0
  obtain ⟨v2, vs2, d2, ds2, p2, q2, rfl, rfl, rfl, h2, r2⟩ := trodAll_cons r1
  obtain ⟨v3, vs3, d3, ds3, p3, q3, rfl, rfl, rfl, h3, r3⟩ := trodAll_cons r2
  obtain ⟨v4, vs4, d4, ds4, p4, q4, rfl, rfl, rfl, h4, r4⟩ := trodAll_cons r3
  obtain ⟨rfl, rfl, rfl⟩ := trodAll_nil r4
  obtain rfl : args = #[v0, v1, v2, v3, v4] := by cases args; simp_all
  obtain ⟨rfl, rfl⟩ := trodVars_none hV
  obtain ⟨A0, l0, c0, rfl, hG0, hgc0, hgm0, hgn0⟩ := open_graph (hval 0 23 v0 rfl rfl) h0
  obtain ⟨a1, rfl, rfl, rfl, w1⟩ := open_int Tryz.underlying3 (hval 1 3 v1 rfl rfl) h1
  have b1 := i64_wf w1
  obtain ⟨a2, rfl, rfl, rfl, w2⟩ := open_int Tryz.underlying3 (hval 2 3 v2 rfl rfl) h2
  have b2 := i64_wf w2
  obtain ⟨t3, rfl⟩ := open_stamp (hval 3 49 v3 rfl rfl) h3
  obtain ⟨t4, rfl⟩ := open_stamp (hval 4 49 v4 rfl rfl) h4
  clear hA0 hval0 hsz0
  refine (walk A0 l0 c0 a1 a2 t3 t4 W hTab hG0 (Nat.le_trans hgc0 hgm0) ⟨hgc0, hgm0⟩ hgn0).mono fun e W' ⟨he, hg⟩ => ?_
  subst he
  exact ⟨_, rfl, law_post progLaid hW' rfl (by rw [Tryz.params5]; intro t ht; simp at ht; rcases ht with rfl | rfl | rfl <;> exact ⟨by kernel_rfl, of_decide_eq_true (by kernel_rfl)⟩) rfl Tryz.underlying4 rfl hg⟩

theorem over : Rows.pathsLaterRow.holds Tryz.pinned (OpenSpec.ofChange Rows.pathsLaterSpec) :=
  OpenClaim.holds_of_wide 5 Tryz.f5 rfl rfl rfl rfl rfl rfl rfl ⟨rfl, rfl, rfl, rfl, rfl⟩ rfl rfl rfl rfl rfl (by kernel_rfl) Tryz.func5 (by kernel_rfl)
    (of_decide_eq_true (by kernel_rfl)) (by unfold Func.isWrapper; first | (rw [if_pos (by decide +kernel)]; kernel_rfl) | (rw [if_neg (by decide +kernel)]; exact ⟨rfl, rfl⟩))
    (fun os started H enc _ => lifted os started H enc)

theorem proved : Rows.PathsLaterCardSaid :=
  Claim7.holds_tied_plain_at .later [] [.data] true Rows.pathsLaterCard.stood.harness false over (fun _ h => by cases h) (by kernel_rfl) (fun _ h => by cases h) pathsLater_row_tie rfl ⟨rfl, rfl⟩ (by kernel_rfl) rfl
    (fun f fn hf hfn => by
      obtain rfl : f = 5 := Option.some.inj ((show Tryz.prog.funcNamed "tailrace/tailracelaw11.PathsLater" = some 5 by kernel_rfl).symm.trans hf) |>.symm
      obtain rfl : fn = Tryz.f5 := (Option.some.inj (Tryz.func5.symm.trans hfn)).symm
      refine ⟨by kernel_rfl, fun j t ht => ?_⟩
      rw [Tryz.params5] at ht
      have hm := Array.mem_of_getElem? ht
      simp only [List.mem_toArray, List.mem_cons, List.not_mem_nil, or_false] at hm
      first
        | (rcases hm with rfl | rfl | rfl | rfl | rfl <;> (first | exact si_graph | exact si_int | exact si_u8 | exact si_stamp))
        | cases hm)
    (by kernel_rfl)
end pathsLater
end Go.Proofs.YtmhophmpbpbjaaaGreatDoor
