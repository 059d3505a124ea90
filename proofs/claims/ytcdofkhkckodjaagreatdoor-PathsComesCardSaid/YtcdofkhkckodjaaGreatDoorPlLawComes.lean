/- PathsComes: when what is at any time at a node's output may come to a node is the document's. -/
import Derived.Test.YtcdofkhkckodjaaGreatDoorCa37
import Derived.Test.YtcdofkhkckodjaaGreatDoorCa9
import Derived.Test.YtcdofkhkckodjaaGreatDoorCa8
import Derived.Test.YtcdofkhkckodjaaGreatDoorCa32
namespace Go.Proofs.YtcdofkhkckodjaaGreatDoor
open Go.ChangeShapes Go.WideShapes Go.ChangeAt Go.RowKit Go.BigFrame
set_option linter.unusedVariables false
set_option maxRecDepth 100000
theorem WaysOf.comes {g : List Nd} {f t : Int} {l : List Sm} {L : List (Nat × Sm)} (hF : Fine g) (h : WaysOf g f t l) (hL : LOf g f L) (T : St) : ofS (appS T l) = ofS (appS T (atI t L)) := by
  rw [h.eq hL]
  by_cases hf : f < 0 ∨ (g.length : Int) ≤ f
  · rw [hL.out hf]; rfl
  · by_cases ht : t < 0
    · rw [atI_neg ht]; rfl
    · rw [show t = ((t.toNat : Nat) : Int) by omega, atI_nat]
      exact AllOf.comes_least hF (fun m s => (hL.all f.toNat (by omega) (by omega)).all) T
theorem ts_touch {F : Nat} {w w' : World} {A : Option Addr} {l : List St} (h : Ts w A l) (ht : Touch (fun b => b = F) w w') (hA : ∀ ad, A = some ad → F < ad.block) : Ts w' A l := fun hn => by
  obtain ⟨b, o, e, hlt, hc⟩ := h hn
  exact ⟨b, o, e, Nat.lt_of_lt_of_le hlt ht.size, fun j u hu => touch_cell ht (hc j u hu) (by have := hA _ e; simp only at this; omega)⟩
namespace pathsComes
structure ComF (w1 : World) (base p F : Nat) (A : Option Addr) (c : Nat) (lg : List Gn) (f t : Int) (T : St) (b : Nat → Bool) (vs : Nat → Value) (wz : World) : Prop where
  below : Below w1.heap.size w1 wz
  pth : ∃ fs, Pth wz base p F A c lg fs
  one : b 4 = true → ∃ l, WaysOf (nds lg) f t l ∧ wz.ownsRow 0 49 5 (vs 4) (ofS (appS T l)).length (rowS (ofS (appS T l)))
  two : b 9 = true → ∃ B d L, LOf (nds lg) f L ∧ vs 9 = .slice B (ofS (appS T (atI t L))).length d ∧ Ts wz B (ofS (appS T (atI t L))) ∧ ∀ ad, B = some ad → F < ad.block
section
variable {w1 wz wy : World} {base p F : Nat} {A : Option Addr} {c : Nat} {lg : List Gn} {f t : Int} {T : St} {b : Nat → Bool} {vs : Nat → Value} {v : Value} {i : Nat}
theorem ComF.keep (h : ComF w1 base p F A c lg f t T b vs wz) (hb : Below wz.heap.size wz wy) (h4 : i ≠ 4) (h9 : i ≠ 9) : ComF w1 base p F A c lg f t T (Free.updb b i) (Free.updw vs i v) wy where
  below := h.below.trans (hb.mono h.below.size)
  pth := by obtain ⟨fs, hP⟩ := h.pth; exact ⟨fs, hP.below hb⟩
  one := fun k => by
    rw [Free.updb_ne (Ne.symm h4)] at k
    rw [Free.updw_ne (Ne.symm h4)]
    obtain ⟨l, hw, ho⟩ := h.one k
    exact ⟨l, hw, Rw.own_kept ho hb⟩
  two := fun k => by
    rw [Free.updb_ne (Ne.symm h9)] at k
    rw [Free.updw_ne (Ne.symm h9)]
    obtain ⟨B, d, L, hL, e, hs, hB⟩ := h.two k
    exact ⟨B, d, L, hL, e, hs.below hb, hB⟩
theorem ComF.first {l : List Sm} (h : ComF w1 base p F A c lg f t T b vs wz) (hFB : w1.heap.size ≤ F) (hw : WaysOf (nds lg) f t l) (ho : wy.ownsRow wz.heap.size 49 5 v (ofS (appS T l)).length (rowS (ofS (appS T l)))) (hp : ∃ fs, Pth wy base p F A c lg fs) (ht : Touch (fun k => k = F) wz wy) :
    ComF w1 base p F A c lg f t T (Free.updb b 4) (Free.updw vs 4 v) wy where
  below := h.below.trans (ht.below (fun k hk => by subst hk; exact hFB) h.below.size)
  pth := hp
  one := fun _ => ⟨l, hw, by rw [Free.updw_self]; exact own_base ho (Nat.zero_le _)⟩
  two := fun k => by
    rw [Free.updb_ne (by decide)] at k
    rw [Free.updw_ne (by decide)]
    obtain ⟨B, d, L, hL, e, hs, hB⟩ := h.two k
    exact ⟨B, d, L, hL, e, ts_touch hs ht hB, hB⟩
theorem ComF.second {g : List Nd} {B : Option Addr} {d : Nat} {L : List (Nat × Sm)} (h : ComF w1 base p F A c lg f t T b vs wz) (hn : nds lg = g) (hL : LOf g f L) (hs : Slc wy B d (ofS (appS T (atI t L)))) (hB : ∀ ad, B = some ad → wz.heap.size ≤ ad.block) (hb : Below wz.heap.size wz wy) :
    ComF w1 base p F A c lg f t T (Free.updb b 9) (Free.updw vs 9 (.slice B (ofS (appS T (atI t L))).length d)) wy where
  below := h.below.trans (hb.mono h.below.size)
  pth := by obtain ⟨fs, hP⟩ := h.pth; exact ⟨fs, hP.below hb⟩
  one := fun k => by
    rw [Free.updb_ne (by decide)] at k
    rw [Free.updw_ne (by decide)]
    obtain ⟨l, hw, ho⟩ := h.one k
    exact ⟨l, hw, Rw.own_kept ho hb⟩
  two := fun _ => ⟨B, d, L, by rw [hn]; exact hL, by rw [Free.updw_self], hs.ts, fun ad e => by
    obtain ⟨fs, hP⟩ := h.pth
    have := hB ad e; have := hP.fans.lt; omega⟩
theorem ComF.both (h : ComF w1 base p F A c lg f t T b vs wz) (hF : Fine (nds lg)) (k4 : b 4 = true) (k9 : b 9 = true) : ∃ B d B2 d2 us, vs 4 = .slice B (us : List St).length d ∧ vs 9 = .slice B2 us.length d2 ∧ Ts wz B us ∧ Ts wz B2 us ∧ us.length ≤ 5000000 := by
  obtain ⟨l, hw, ho⟩ := h.one k4
  obtain ⟨B2, d2, L, hL, e9, hs, _⟩ := h.two k9
  have he := hw.comes hF hL T
  rw [← he] at e9 hs
  obtain ⟨B, d, e4, hT, _⟩ := Rw.Ts.of_own (κ := kindU) (ts := ofS (appS T l)) ho
  refine ⟨B, d, B2, d2, _, e4, e9, hT, hs, ?_⟩
  have h1 := ofS_len (appS T l); have h2 := appS_len T l; have h3 := hw.len
  omega
end
def LcV (p wn : Nat) (A0 : Option Addr) (lg0 : List Gn) (c0 : Nat) (f t : Int) (T : St) (i : Nat) (v : Value) : Prop := match i with
  | 0 => v = .pointer (some ⟨p, 0, none⟩)
  | 1 => v = .int .i64 f
  | 2 => v = .agg #[.int .i64 T.d, .int .i64 T.e, .int .i64 T.x, .int .i64 T.y, .int .i64 T.z]
  | 3 => v = .int .i64 t
  | 4 => True
  | 5 => v = .slice A0 lg0.length c0
  | 6 => v = .int .i64 f
  | 7 => v = .agg #[.int .i64 T.d, .int .i64 T.e, .int .i64 T.x, .int .i64 T.y, .int .i64 T.z]
  | 8 => v = .int .i64 t
  | 9 => True
  | 10 => v = .bool true
  | 11 => v = .bool true
  | 12 => v = .bool true
  | 13 => v = .bool true
  | _ => v = .bool true
set_option maxHeartbeats 16000000 in
theorem walk (A0 : Option Addr) (lg0 : List Gn) (c0 : Nat) (f t : Int) (T : St) (w : World) (hT : Tab w) (hG : Gr w A0 lg0) (hl : lg0.length ≤ maxLen) (hc : lg0.length ≤ c0 ∧ c0 ≤ maxLen) (hn0 : A0 = none → c0 = 0) :
    Calls Tryz.prog 4 #[.slice A0 lg0.length c0, .int .i64 f, .int .i64 t, T.val] w fun e w' => e = .returned (.bool true) ∧ Below w.heap.size w w' := by
  have hb0 : Below w.heap.size w (w.alloc (.cells #[.int .i64 T.d, .int .i64 T.e, .int .i64 T.x, .int .i64 T.y, .int .i64 T.z] 49)) := (Below.refl _ _).alloc (Nat.le_refl _) _
  have HTB := Lib.hid (Holds.made w T)
  have HT := Lib.hid (hT.below hb0); have HG := Lib.hid (hG.below hb0); have HB0 := Lib.hid hb0; have HC := Lib.hid hc; have HN0 := Lib.hid hn0; have HLM := Lib.hid hl; clear hT hG hb0 hc hn0 hl
  go_enter Tryz.func4, Tryz.ntmps4
  go_wp2_with fail
  generalize (w.alloc (.cells #[.int .i64 T.d, .int .i64 T.e, .int .i64 T.x, .int .i64 T.y, .int .i64 T.z] 49)) = w1 at *
  refine (few_any A0 lg0 c0 w1 HG.out HLM.out).mono ?_; rintro e w2 ⟨⟨b, rfl, hb⟩, rfl⟩
  cases b with
  | false =>
    clear hb
    dsimp only
    go_wp2_with fail
    refine (plWorks_any w1 HT.out).mono ?_; rintro e w2 ⟨rfl, hb⟩
    have HB := Lib.hid (HB0.out.trans (hb.mono HB0.out.size)); clear hb
    dsimp only
    go_wp2_with fail
    go_ret
    exact ⟨rfl, HB.out⟩
  | true =>
    obtain ⟨hl14, hI⟩ := few_nds (hb rfl)
    have HL0 := Lib.hid hl14; have HI0 := Lib.hid hI; clear hl14 hI hb
    dsimp only
    by_cases hE : (checkR (nds lg0)).2 = 0
    · have hfi : Fine (nds lg0) := fine_of (checkR_zero hE).2.1
      have hnew := new_good A0 lg0 c0 w1 HT.out HG.out (by have := HL0.out; omega) HI0.out HC.out HN0.out hE
      have HNEW := Lib.hid hnew; have HFI0 := Lib.hid hfi; clear hnew hfi hE
      go_wp2_with fail
      refine HNEW.out.mono ?_
      rintro e wn ⟨⟨p, F, A, c, lg, rfl, hn, hP⟩, hbn⟩
      have hll : lg.length = lg0.length := by rw [← nds_len, hn, nds_len]
      have HN := Lib.hid hn; have HFB := Lib.hid hP.lo.2; have HP := Lib.hid hP; have HBN := Lib.hid hbn; have HL : Hid (lg.length ≤ 14) := Lib.hid (by have := HL0.out; omega)
      have HI : Hid (∀ x ∈ nds lg, x.ins.length ≤ 40) := Lib.hid (by rw [hn]; exact HI0.out)
      have HFI : Hid (Fine (nds lg)) := Lib.hid (by rw [hn]; exact HFI0.out)
      clear hn hP hbn hll HNEW
      dsimp only
      obtain ⟨base, hbase⟩ : ∃ base, w1.heap.size = base := ⟨_, rfl⟩
      rw [hbase] at HP
      go_upto_region 6 with fail
      refine Free.wp_key (by kernel_rfl) (by kernel_rfl) (ComF w1 base p F A c lg f t T) (LcV p w.heap.size A0 lg0 c0 f t T) (fun vs => ⟨HBN.out.drew, ⟨_, HP.out.below (Below.refl _ _).drew⟩, fun h => by simp at h, fun h => by simp at h⟩) ?_ ?_
      · intro i o hi bz vs a wa hold hpre hbi hF
        match i with
        | 0 =>
          cases hi
          exact Free.c_all rfl (Free.g_move _ rfl ⟨((hold 9 (by decide)).trans rfl), hF.keep (Below.refl _ _) (by decide) (by decide)⟩)
        | 1 =>
          cases hi
          exact Free.c_all rfl (Free.g_move _ rfl ⟨((hold 1 (by decide)).trans rfl), hF.keep (Below.refl _ _) (by decide) (by decide)⟩)
        | 2 =>
          cases hi
          exact Free.c_all rfl (Free.g_load _ _ rfl ((hold 7 (by decide)).trans rfl) (load_t HTB.out wa hF.below) ⟨rfl, hF.keep (Below.refl _ _) (by decide) (by decide)⟩)
        | 3 =>
          cases hi
          exact Free.c_all rfl (Free.g_move _ rfl ⟨((hold 2 (by decide)).trans rfl), hF.keep (Below.refl _ _) (by decide) (by decide)⟩)
        | 4 =>
          cases hi
          have h0 : a.eval (.tmp 23) = .pointer (some ⟨p, 0, none⟩) := (hpre 0 _ _ (by kernel_rfl) rfl rfl).2.2
          have h1 : a.eval (.tmp 24) = .int .i64 f := (hpre 1 _ _ (by kernel_rfl) rfl rfl).2.2
          have h2 : a.eval (.tmp 25) = .agg #[.int .i64 T.d, .int .i64 T.e, .int .i64 T.x, .int .i64 T.y, .int .i64 T.z] := (hpre 2 _ _ (by kernel_rfl) rfl rfl).2.2
          have h3 : a.eval (.tmp 26) = .int .i64 t := (hpre 3 _ _ (by kernel_rfl) rfl rfl).2.2
          refine Free.c_all rfl (Free.g_call _ _ rfl Tryz.func21 (by kernel_rfl) rfl [.pointer (some ⟨p, 0, none⟩), .int .i64 f, .agg #[.int .i64 T.d, .int .i64 T.e, .int .i64 T.x, .int .i64 T.y, .int .i64 T.z], .int .i64 t] (by show [a.eval (.tmp 23), a.eval (.tmp 24), a.eval (.tmp 25), a.eval (.tmp 26)] = _; rw [h0, h1, h2, h3]) ?_)
          obtain ⟨fs, hP⟩ := hF.pth
          exact (comes_any p F c base A lg fs f t T wa hP HL.out HI.out HFI.out).mono fun e w2 ⟨⟨v, l, he, hw, ho⟩, hp, ht⟩ => ⟨v, he, trivial, hF.first HFB.out hw ho hp ht⟩
        | 5 =>
          cases hi
          exact Free.c_all rfl (Free.g_move _ rfl ⟨((hold 0 (by decide)).trans rfl), hF.keep (Below.refl _ _) (by decide) (by decide)⟩)
        | 6 =>
          cases hi
          exact Free.c_all rfl (Free.g_move _ rfl ⟨((hold 1 (by decide)).trans rfl), hF.keep (Below.refl _ _) (by decide) (by decide)⟩)
        | 7 =>
          cases hi
          exact Free.c_all rfl (Free.g_load _ _ rfl ((hold 7 (by decide)).trans rfl) (load_t HTB.out wa hF.below) ⟨rfl, hF.keep (Below.refl _ _) (by decide) (by decide)⟩)
        | 8 =>
          cases hi
          exact Free.c_all rfl (Free.g_move _ rfl ⟨((hold 2 (by decide)).trans rfl), hF.keep (Below.refl _ _) (by decide) (by decide)⟩)
        | 9 =>
          cases hi
          have h0 : a.eval (.tmp 28) = .slice A0 lg0.length c0 := (hpre 5 _ _ (by kernel_rfl) rfl rfl).2.2
          have h1 : a.eval (.tmp 29) = .int .i64 f := (hpre 6 _ _ (by kernel_rfl) rfl rfl).2.2
          have h2 : a.eval (.tmp 30) = .agg #[.int .i64 T.d, .int .i64 T.e, .int .i64 T.x, .int .i64 T.y, .int .i64 T.z] := (hpre 7 _ _ (by kernel_rfl) rfl rfl).2.2
          have h3 : a.eval (.tmp 31) = .int .i64 t := (hpre 8 _ _ (by kernel_rfl) rfl rfl).2.2
          refine Free.c_all rfl (Free.g_call _ _ rfl Tryz.func22 (by kernel_rfl) rfl [.slice A0 lg0.length c0, .int .i64 f, .agg #[.int .i64 T.d, .int .i64 T.e, .int .i64 T.x, .int .i64 T.y, .int .i64 T.z], .int .i64 t] (by show [a.eval (.tmp 28), a.eval (.tmp 29), a.eval (.tmp 30), a.eval (.tmp 31)] = _; rw [h0, h1, h2, h3]) ?_)
          exact (refComes_any A0 lg0 c0 f t T wa (HG.out.below hF.below) HL0.out HI0.out HFI0.out).mono fun e w2 ⟨⟨B, d, L, hL, he, hs, hb9⟩, hb2⟩ => ⟨_, he, trivial, hF.second HN.out hL hs hb9 hb2⟩
        | 10 =>
          cases hi
          have q4 := hpre (4) _ _ (by kernel_rfl) rfl rfl
          have q9 := hpre (9) _ _ (by kernel_rfl) rfl rfl
          obtain ⟨B, d, B2, d2, us, e4, e9, hT4, hT9, hlen⟩ := hF.both HFI.out q4.1 q9.1
          have h0 : a.eval (.tmp 27) = .slice B us.length d := q4.2.1.trans e4
          have h1 : a.eval (.tmp 32) = .slice B2 us.length d2 := q9.2.1.trans e9
          refine Free.c_all rfl (Free.g_call _ _ rfl Tryz.func20 (by kernel_rfl) rfl [.slice B us.length d, .slice B2 us.length d2] (by show [a.eval (.tmp 27), a.eval (.tmp 32)] = _; rw [h0, h1]) ?_)
          refine (frRefSame_any B B2 us us d d2 wa hT4 hT9 hlen hlen).mono fun e w2 ⟨he, hb2⟩ => ⟨_, he, ?_, hF.keep hb2 (by decide) (by decide)⟩
          rw [decide_eq_true rfl]
          rfl
        | 11 =>
          cases hi
          have h0 : a.eval (.tmp 33) = .bool true := (hpre 10 _ _ (by kernel_rfl) rfl rfl).2.2
          exact Free.c_all rfl (Free.g_move _ rfl ⟨h0, hF.keep (Below.refl _ _) (by decide) (by decide)⟩)
        | 12 =>
          cases hi
          have hg : a.eval (.tmp 34) = .bool true := (hpre 11 _ _ (by kernel_rfl) rfl rfl).2.2
          refine Free.c_yes rfl rfl rfl hg (Free.g_call _ _ rfl Tryz.func10 (by kernel_rfl) rfl [] rfl ?_)
          exact (plWorks_any wa (HT.out.below hF.below)).mono fun e w2 ⟨he, hb2⟩ => ⟨_, he, rfl, hF.keep hb2 (by decide) (by decide)⟩
        | 13 =>
          cases hi
          have h1 : a.eval (.tmp 34) = .bool true := (hpre 11 _ _ (by kernel_rfl) rfl rfl).2.2
          have h2 : a.eval (.tmp 35) = .bool true := (hpre 12 _ _ (by kernel_rfl) rfl rfl).2.2
          exact Free.c_all rfl (Free.g_pick _ _ _ rfl h1 h2 rfl ⟨rfl, hF.keep (Below.refl _ _) (by decide) (by decide)⟩)
        | 14 =>
          cases hi
          have h0 : a.eval (.tmp 36) = .bool true := (hpre 13 _ _ (by kernel_rfl) rfl rfl).2.2
          exact Free.c_all rfl (Free.g_assign _ rfl ⟨h0, hF.keep (Below.refl _ _) (by decide) (by decide)⟩)
        | _ + 15 => cases hi
      · intro vs we hv hF
        have hlast : vs 14 = .bool true := hv 14 (by simp) (by rintro o ⟨⟩; rfl)
        have HWE := Lib.hid hF.below; clear hF hv
        simp only [Free.puts, Nat.reduceAdd, hlast]
        generalize vs 0 = y0
        generalize vs 1 = y1
        generalize vs 2 = y2
        generalize vs 3 = y3
        generalize vs 4 = y4
        generalize vs 5 = y5
        generalize vs 6 = y6
        generalize vs 7 = y7
        generalize vs 8 = y8
        generalize vs 9 = y9
        generalize vs 10 = y10
        generalize vs 11 = y11
        generalize vs 12 = y12
        generalize vs 13 = y13
        go_simp
        go_wp2_with fail
        go_ret
        exact ⟨rfl, HB0.out.trans (HWE.out.mono HB0.out.size)⟩
    · have hnew := new_bad A0 lg0 c0 w1 HT.out HG.out (by have := HL0.out; omega) HI0.out HC.out hE
      have hez : ((checkR (nds lg0)).2 != 0) = true := by simpa using hE
      generalize (checkR (nds lg0)).2 = E at *
      have HNEW := Lib.hid hnew; clear hnew hE
      go_wp2_with fail
      refine HNEW.out.mono ?_
      rintro e wn ⟨rfl, hbn⟩
      have HBN := Lib.hid hbn; clear hbn HNEW
      dsimp only
      go_wp2_with fail
      refine (plWorks_any wn (HT.out.below HBN.out)).mono ?_; rintro e w2 ⟨rfl, hb⟩
      have HB := Lib.hid (HB0.out.trans ((HBN.out.trans (hb.mono HBN.out.size)).mono HB0.out.size)); clear hb
      dsimp only
      go_wp2_with fail
      go_ret
      exact ⟨rfl, HB.out⟩

set_option maxRecDepth 100000 in
theorem lifted (os : Os) (started : os.Started) (H : Type) (enc : TypeId × Value → H) :
    ReturnsInHanded {} Tryz.checked os 4 .any (fun w args => (Rows.pathsComesSpec.pre enc Tryz.prog Tryz.f4 [] false w args ∧ laidMetH Tryz.prog laidT w) ∧ sizedMet enc Tryz.prog Tryz.f4 (OpenSpec.ofChange Rows.pathsComesSpec) false w args) (Rows.pathsComesSpec.post enc Tryz.prog Tryz.f4 false true false false) := by
  refine returnsInHanded_of_change_and (C := Tryz.checked) (X := fun w _ => laidMetH Tryz.prog laidT w) (fun _ _ _ hh h => h.of_heap hh) ownKnob_none started (by kernel_rfl) Tryz.func4
    (ChangeSpec.witness_shaped (enc := enc) (C := Tryz.checked) (os := os) (X := fun w _ => laidMetH Tryz.prog laidT w) false (World.doorLaid Tryz.prog 400 os) #[.slice none 0 0, .int .i64 0, .int .i64 0, .agg #[.int .i64 0, .int .i64 0, .int .i64 0, .int .i64 0, .int .i64 0]] 8 rfl (World.shaped_of_RefB (by kernel_rfl) (by kernel_rfl)) (by kernel_rfl) (by kernel_rfl) (by kernel_rfl) (door_met os _)) ?_
  intro W base args ds gs before hval0 hW hcnd hsz0 hL _
  have hTab := tab_of_laid hL
  have hval : ∀ (j : Nat) t v, Tryz.f4.params[j]? = some t → args[j]? = some v → Value.okWide Tryz.prog W .any base t v := hval0
  have hW' := hW
  obtain ⟨p, q, hA0, hV, rfl, hfz, hnd⟩ := hW
  have hA : DataW.TrodAll enc Tryz.prog W 0 (fun _ => true) true Tryz.f4.params.toList args.toList ds p := hA0
  have hsz : (DataW.weightsEach Tryz.prog (Tryz.f4.params.toList ++ Rows.pathsComesSpec.plain.varTypes Tryz.prog) (ds ++ gs)).all (· ≤ reachBytes) = true := hsz0
  rw [Tryz.params4] at hA hval hsz
  obtain ⟨v0, vs0, d0, ds0, p0, q0, hargs, rfl, rfl, h0, r0⟩ := trodAll_cons hA
  obtain ⟨v1, vs1, d1, ds1, p1, q1, rfl, rfl, rfl, h1, r1⟩ := trodAll_cons r0
  obtain ⟨v2, vs2, d2, ds2, p2, q2, rfl, rfl, rfl, h2, r2⟩ := trodAll_cons r1
  obtain ⟨v3, vs3, d3, ds3, p3, q3, rfl, rfl, rfl, h3, r3⟩ := trodAll_cons r2
  obtain ⟨rfl, rfl, rfl⟩ := trodAll_nil r3
  obtain rfl : args = #[v0, v1, v2, v3] := by cases args; simp_all
  obtain ⟨rfl, rfl⟩ := trodVars_none hV
  obtain ⟨A0, l0, c0, rfl, hG0, hgc0, hgm0, hgn0⟩ := open_graph (hval 0 23 v0 rfl rfl) h0
  obtain ⟨a1, rfl, rfl, rfl, w1⟩ := open_int Tryz.underlying3 (hval 1 3 v1 rfl rfl) h1
  have b1 := i64_wf w1
  obtain ⟨a2, rfl, rfl, rfl, w2⟩ := open_int Tryz.underlying3 (hval 2 3 v2 rfl rfl) h2
  have b2 := i64_wf w2
  obtain ⟨t3, rfl⟩ := open_stamp (hval 3 49 v3 rfl rfl) h3
  clear hA0 hval0 hsz0
  refine (walk A0 l0 c0 a1 a2 t3 W hTab hG0 (Nat.le_trans hgc0 hgm0) ⟨hgc0, hgm0⟩ hgn0).mono fun e W' ⟨he, hg⟩ => ?_
  subst he
  exact ⟨_, rfl, law_post progLaid hW' rfl (by rw [Tryz.params4]; intro t ht; simp at ht; rcases ht with rfl | rfl | rfl <;> exact ⟨by kernel_rfl, of_decide_eq_true (by kernel_rfl)⟩) rfl Tryz.underlying4 rfl hg⟩

theorem over : Rows.pathsComesRow.holds Tryz.pinned (OpenSpec.ofChange Rows.pathsComesSpec) :=
  OpenClaim.holds_of_wide 4 Tryz.f4 rfl rfl rfl rfl rfl rfl rfl ⟨rfl, rfl, rfl, rfl, rfl⟩ rfl rfl rfl rfl rfl (by kernel_rfl) Tryz.func4 (by kernel_rfl)
    (of_decide_eq_true (by kernel_rfl)) (by unfold Func.isWrapper; first | (rw [if_pos (by decide +kernel)]; kernel_rfl) | (rw [if_neg (by decide +kernel)]; exact ⟨rfl, rfl⟩))
    (fun os started H enc _ => lifted os started H enc)

theorem proved : Rows.PathsComesCardSaid :=
  Claim7.holds_tied_plain_at .later [] [.data] true Rows.pathsComesCard.stood.harness false over (fun _ h => by cases h) (by kernel_rfl) (fun _ h => by cases h) pathsComes_row_tie rfl ⟨rfl, rfl⟩ (by kernel_rfl) rfl
    (fun f fn hf hfn => by
      obtain rfl : f = 4 := Option.some.inj ((show Tryz.prog.funcNamed "tailrace/tailracelaw11.PathsComes" = some 4 by kernel_rfl).symm.trans hf) |>.symm
      obtain rfl : fn = Tryz.f4 := (Option.some.inj (Tryz.func4.symm.trans hfn)).symm
      refine ⟨by kernel_rfl, fun j t ht => ?_⟩
      rw [Tryz.params4] at ht
      have hm := Array.mem_of_getElem? ht
      simp only [List.mem_toArray, List.mem_cons, List.not_mem_nil, or_false] at hm
      first
        | (rcases hm with rfl | rfl | rfl | rfl <;> (first | exact si_graph | exact si_int | exact si_u8 | exact si_stamp))
        | cases hm)
    (by kernel_rfl)
end pathsComes
end Go.Proofs.YtcdofkhkckodjaaGreatDoor
