/- PaComes, SmApply, PlComes, Bytes, Conv, GrBytes, GrMine, GrKits -/
import Derived.Test.YtcdofkhkckodjaaGreatDoorCa30
import Derived.Test.YtcdofkhkckodjaaGreatDoorCa31
import Derived.Test.YtcdofkhkckodjaaGreatDoorCa35
import Derived.Deep.Onto
import Derived.Test.YtcdofkhkckodjaaGreatDoorCa6
import Derived.Test.YtcdofkhkckodjaaGreatDoorCa34
import Derived.Test.YtcdofkhkckodjaaGreatDoorCa0
import Derived.Laws.BytesArg
import Derived.Laws.AppendOwnNone
import Derived.OwnWalk
import Derived.Laws.IdiomStrings
import Derived.Laws.Strings
import Derived.Test.YtcdofkhkckodjaaGreatDoorCa10
namespace Go.Proofs.YtcdofkhkckodjaaGreatDoor
set_option linter.unusedVariables false
section
open Go.ChangeShapes Go.WideShapes Go.ChangeAt Go.RowKit Go.BigFrame
set_option maxRecDepth 100000
def kindU : Kind St := ⟨St.cells, 5, fun _ => rfl, fun t u hu => by
  simp only [St.cells, List.mem_cons, List.not_mem_nil, or_false] at hu
  rcases hu with rfl | rfl | rfl | rfl | rfl <;> rfl, by decide⟩
def rowC (T : St) (t : Int) (L : List (Nat × Sm)) (k : Nat) : List St := appS T (atI t (L.take k))
theorem appS_len (T : St) : ∀ l : List Sm, (appS T l).length ≤ l.length
  | [] => Nat.le_refl _
  | s :: l => by
    have := appS_len T l
    unfold appS
    cases s.apply T with
    | none => simp only [List.length_cons]; omega
    | some u => simp only [List.length_cons]; omega
theorem rowC_len (T : St) (t : Int) (L : List (Nat × Sm)) (k : Nat) : (rowC T t L k).length ≤ k := by
  have h1 := appS_len T (atI t (L.take k))
  have h2 := atI_len t (L.take k)
  rw [List.length_take] at h2
  unfold rowC; omega
theorem rowC_off {T : St} {t : Int} {L : List (Nat × Sm)} {k : Nat} {a : Nat × Sm} (h : L[k]? = some a) (hn : ¬ ((a.1 : Nat) : Int) = t) : rowC T t L (k + 1) = rowC T t L k := by
  unfold rowC; rw [atI_take h, if_neg hn]
theorem rowC_no {T : St} {t : Int} {L : List (Nat × Sm)} {k : Nat} {a : Nat × Sm} (h : L[k]? = some a) (hn : a.2.apB T = false) : rowC T t L (k + 1) = rowC T t L k := by
  unfold rowC
  rw [atI_take h]
  by_cases e : ((a.1 : Nat) : Int) = t
  · rw [if_pos e, appS_append]
    have : a.2.apply T = none := by
      unfold Sm.apB at hn
      cases h2 : a.2.apply T with
      | none => rfl
      | some u => rw [h2] at hn; cases hn
    have e2 : appS T [a.2] = [] := by unfold appS; rw [this]; rfl
    rw [e2, List.append_nil]
  · rw [if_neg e]
theorem rowC_yes {T : St} {t : Int} {L : List (Nat × Sm)} {k : Nat} {a : Nat × Sm} (h : L[k]? = some a) (e : ((a.1 : Nat) : Int) = t) (hn : a.2.apB T = true) : rowC T t L (k + 1) = rowC T t L k ++ [a.2.ap T] := by
  unfold rowC
  rw [atI_take h, if_pos e, appS_append]
  congr 1
  unfold Sm.apB at hn
  unfold Sm.ap appS
  cases h2 : a.2.apply T with
  | none => rw [h2] at hn; cases hn
  | some u => rfl
theorem LOf.one {g : List Nd} {f : Int} {L : List (Nat × Sm)} (hF : Fine g) (h : LOf g f L) (t : Int) : OneTo (atI t L) := by
  by_cases hf : f < 0 ∨ (g.length : Int) ≤ f
  · rw [h.out hf]; intro x hx; cases hx
  · have ha := h.all f.toNat (by omega) (by omega)
    by_cases ht : t < 0
    · rw [atI_neg ht]; intro x hx; cases hx
    · rw [show t = ((t.toNat : Nat) : Int) by omega, atI_nat]
      exact AllOf.one hF fun n s => ha.all
theorem comes_kept {w w4 w5 : World} {o : Obj} {v vl : Value} {M : List St} {L : List (Nat × Sm)} {gt : Nat} {T : St} (ho : w4.ownsRow (w.heap.size + 1) 49 kindU.K v M.length (Rw.row kindU M)) (hb : Below w.heap.size w w4)
    (hr : Holds w4 gt T) (hp : w4.ownsRow w.heap.size 80 kindA.K vl L.length (Rw.row kindA L)) (hgt : w.heap.size = gt) (hg : (w4.alloc o).grownBy w5 v.ownBlock) :
    Below w.heap.size w w5 ∧ Holds w5 gt T ∧ w5.ownsRow w.heap.size 80 kindA.K vl L.length (Rw.row kindA L) := by
  have ho' := World.ownsRow.mono ho (show w.heap.size ≤ w.heap.size + 1 by omega)
  refine ⟨Rw.own_below (ho'.alloc o) hg (hb.alloc hb.size o) (Nat.le_trans hb.size ((Below.refl w4.heap.size w4).alloc (Nat.le_refl _) o).size), (Row.alloc hr o).grown hg (fun e => ?_), (hp.alloc o).kept hg (Rw.own_apart2 (ho'.alloc o) (hp.alloc o) (by decide))⟩
  have := (ho.lt gt e.symm).1
  omega
def ComesD (g : List Nd) (f t : Int) (T : St) (w : World) (e : Ending) (w' : World) : Prop := (∃ A c L, LOf g f L ∧ e = .returned (.slice A (ofS (appS T (atI t L))).length c) ∧ Slc w' A c (ofS (appS T (atI t L))) ∧ ∀ ad, A = some ad → w.heap.size ≤ ad.block) ∧ Below w.heap.size w w'
def ComV (g lc k : Nat) (L : List (Nat × Sm)) (gt : Nat) (s : Sm) (T U : St) (TB : Bool) (i : Nat) (v : Value) : Prop := match i with
  | 0 => v = .slice (some ⟨g, 0, none⟩) L.length lc
  | 1 => v = .int .i64 (k : Nat)
  | 2 => v = .pointer (some ⟨g, k * 8, none⟩)
  | 3 => v = .pointer (some ⟨g, k * 8 + 1, none⟩)
  | 4 => v = .agg #[.int .i64 s.fr, .int .i64 s.to, .int .i64 s.kp, .int .i64 s.ad, .int .i64 s.t0, .int .i64 s.t1, .int .i64 s.t2]
  | 5 => v = .agg #[.int .i64 T.d, .int .i64 T.e, .int .i64 T.x, .int .i64 T.y, .int .i64 T.z]
  | 6 => v = .tuple #[.agg #[.int .i64 U.d, .int .i64 U.e, .int .i64 U.x, .int .i64 U.y, .int .i64 U.z], .bool TB]
  | 7 => v = .tuple #[.agg #[.int .i64 U.d, .int .i64 U.e, .int .i64 U.x, .int .i64 U.y, .int .i64 U.z], .bool TB]
  | 8 => v = .agg #[.int .i64 U.d, .int .i64 U.e, .int .i64 U.x, .int .i64 U.y, .int .i64 U.z]
  | 9 => v = .bool TB
  | 10 => True
  | 11 => v = undef
  | _ => v = .bool TB
set_option maxHeartbeats 16000000 in
theorem refComes_any (A : Option Addr) (lg : List Gn) (c : Nat) (f t : Int) (T : St) (w : World) (hG : Gr w A lg) (hl : lg.length ≤ 14) (hI : ∀ x ∈ nds lg, x.ins.length ≤ 40) (hF : Fine (nds lg)) :
    Calls Tryz.prog 22 #[.slice A lg.length c, .int .i64 f, T.val, .int .i64 t] w (ComesD (nds lg) f t T w) := by
  have ht0 : Holds (w.alloc (.cells #[.int .i64 T.d, .int .i64 T.e, .int .i64 T.x, .int .i64 T.y, .int .i64 T.z] 49)) w.heap.size T := Holds.made w T
  have hb0 : Below w.heap.size w (w.alloc (.cells #[.int .i64 T.d, .int .i64 T.e, .int .i64 T.x, .int .i64 T.y, .int .i64 T.z] 49)) := (Below.refl _ _).alloc (Nat.le_refl _) _
  have ha := refAll_any A lg c f (w.alloc (.cells #[.int .i64 T.d, .int .i64 T.e, .int .i64 T.x, .int .i64 T.y, .int .i64 T.z] 49)) (hG.below hb0) hl hI hF
  have HA := Lib.hid ha; have HF := Lib.hid hF; have HT0 := Lib.hid ht0; have HB0 := Lib.hid hb0; clear ha hF hG hI ht0 hb0
  go_enter Tryz.func22, Tryz.ntmps22
  go_wp2_with fail
  refine HA.out.mono ?_; rintro e w1 ⟨⟨v, L, rfl, ho, hL⟩, hb⟩
  have hbd := hL.len HF.out
  rw [nds_len] at hbd
  have ho1 := World.ownsRow.mono ho (HB0.out.size)
  have hb1 := HB0.out.trans (hb.mono HB0.out.size)
  have ht1 := HT0.out.below hb
  obtain ⟨LA, lc, rfl, _, _, _, _, _⟩ := Rw.Ts.of_own ho
  have HO : Hid (OwnA w w1 (.slice LA L.length lc) L) := Lib.hid ho1
  have HL := Lib.hid hL; have HB := Lib.hid hb1; have HBD := Lib.hid hbd; have HT1 := Lib.hid ht1; clear ho ho1 hL hb hb1 hbd ht1 HA HT0 HB0
  obtain ⟨gt, hgt⟩ : ∃ gt, w.heap.size = gt := ⟨_, rfl⟩
  have HGT := Lib.hid hgt; rw [hgt] at HT1 ⊢; clear hgt
  dsimp only
  go_wp2_with fail
  go_loopw [9, 11] (fun v n wx => ∃ k : Nat, n = .int .i64 k ∧ k ≤ L.length ∧ wx.ownsRow (w.heap.size + 1) 49 kindU.K v (rowC T t L k).length (Rw.row kindU (rowC T t L k)) ∧ OwnA w wx (.slice LA L.length lc) L ∧ Holds wx gt T ∧ Below w.heap.size w wx) (fun _ n _ => L.length - (intOf n).toNat)
  case atStart => exact ⟨0, rfl, Nat.zero_le _, World.ownsRow_nil _ _ _ _, HO.out, HT1.out, HB.out⟩
  case round =>
    obtain ⟨w3, rfl⟩ : ∃ wo, wo = wr := ⟨_, rfl⟩
    obtain ⟨k, rfl, hk, hn, ho, htx, hb⟩ := hrel
    have HN := Lib.hid hn; have HO2 := Lib.hid ho; have HB2 := Lib.hid hb; have HTX := Lib.hid htx; clear hn ho hb htx HO HB HT1
    by_cases hkl : k < L.length
    · have hkz : (k : Int) < (L.length : Int) := by omega
      have hkb : k < 60000000 := by have := HBD.out; omega
      obtain ⟨⟨n, s⟩, hns⟩ : ∃ a, L[k]? = some a := ⟨_, List.getElem?_eq_getElem hkl⟩
      obtain ⟨g, cap, e, hg0, hglt, hgc⟩ := HO2.out.get hns
      cases e
      have hoff := fun h => rowC_off (T := T) (t := t) hns h
      have hno := fun h => rowC_no (T := T) (t := t) hns h
      have hyes := fun h h2 => rowC_yes (T := T) (t := t) hns h h2
      simp only at hoff hno hyes
      have hlen := rowC_len T t L k
      have hap := fun wz => refApply_any s T wz
      have hls := fun wz (hz : Below w3.heap.size w3 wz) => (hgc wz hz).2
      have hq := fun wz (hz : Below w3.heap.size w3 wz) => (hgc wz hz).1
      simp only at hls hq
      generalize rowC T t L k = M at *
      generalize s.ap T = U at *
      generalize s.apB T = TB at *
      have HOFF := Lib.hid hoff; have HNO := Lib.hid hno; have HYES := Lib.hid hyes; have HLEN := Lib.hid hlen; have HAP := Lib.hid hap; have HLS := Lib.hid hls; have HQ := Lib.hid hq
      clear hoff hno hyes hlen hap hls hq hgc hns
      go_upto_region 6 with fail
      refine Free.wp_key (by kernel_rfl) (by kernel_rfl) (PutF w3 10 11 49 [.int .i64 0, .int .i64 0, .int .i64 0, .int .i64 0, .int .i64 0] [.int .i64 U.d, .int .i64 U.e, .int .i64 U.x, .int .i64 U.y, .int .i64 U.z]) (ComV g lc k L gt s T U TB) (fun vs => PutF.start 13 (by decide) (by decide) _ _ _ _ vs) ?_ ?_
      · intro i o hi bz vs az wa hold hpre hbi hF
        match i with
        | 0 =>
          cases hi
          exact Free.c_all rfl (Free.g_move _ rfl ⟨((hold 10 (by decide)).trans rfl), hF.keep (Below.refl _ _) (by decide) (by decide)⟩)
        | 1 =>
          cases hi
          exact Free.c_all rfl (Free.g_move _ rfl ⟨((hold 11 (by decide)).trans rfl), hF.keep (Below.refl _ _) (by decide) (by decide)⟩)
        | 2 =>
          cases hi
          have h1 : az.eval (.tmp 26) = .slice (some ⟨g, 0, none⟩) L.length lc := (hpre 0 _ _ (by kernel_rfl) rfl rfl).2.2
          have h2 : az.eval (.tmp 27) = .int .i64 (k : Nat) := (hpre 1 _ _ (by kernel_rfl) rfl rfl).2.2
          exact Free.c_all rfl (Free.g_indexAddr (v := .pointer (some ⟨g, k * 8, none⟩)) _ _ _ rfl h1 h2 (by go_simp) ⟨rfl, hF.keep (Below.refl _ _) (by decide) (by decide)⟩)
        | 3 =>
          cases hi
          have h0 : az.eval (.tmp 28) = .pointer (some ⟨g, k * 8, none⟩) := (hpre 2 _ _ (by kernel_rfl) rfl rfl).2.2
          exact Free.c_all rfl (Free.g_field (v := .pointer (some ⟨g, k * 8 + 1, none⟩)) _ _ _ rfl h0 (by go_simp) ⟨rfl, hF.keep (Below.refl _ _) (by decide) (by decide)⟩)
        | 4 =>
          cases hi
          have h0 : az.eval (.tmp 29) = .pointer (some ⟨g, k * 8 + 1, none⟩) := (hpre 3 _ _ (by kernel_rfl) rfl rfl).2.2
          exact Free.c_all rfl (Free.g_load _ _ rfl h0 (HLS.out wa hF.1) ⟨rfl, hF.keep (Below.refl _ _) (by decide) (by decide)⟩)
        | 5 =>
          cases hi
          exact Free.c_all rfl (Free.g_load _ _ rfl ((hold 6 (by decide)).trans rfl) (load_t HTX.out wa hF.1) ⟨rfl, hF.keep (Below.refl _ _) (by decide) (by decide)⟩)
        | 6 =>
          cases hi
          have h0 : az.eval (.tmp 30) = .agg #[.int .i64 s.fr, .int .i64 s.to, .int .i64 s.kp, .int .i64 s.ad, .int .i64 s.t0, .int .i64 s.t1, .int .i64 s.t2] := (hpre 4 _ _ (by kernel_rfl) rfl rfl).2.2
          have h1 : az.eval (.tmp 31) = .agg #[.int .i64 T.d, .int .i64 T.e, .int .i64 T.x, .int .i64 T.y, .int .i64 T.z] := (hpre 5 _ _ (by kernel_rfl) rfl rfl).2.2
          refine Free.c_all rfl (Free.g_call _ _ rfl Tryz.func48 (by kernel_rfl) rfl [.agg #[.int .i64 s.fr, .int .i64 s.to, .int .i64 s.kp, .int .i64 s.ad, .int .i64 s.t0, .int .i64 s.t1, .int .i64 s.t2], .agg #[.int .i64 T.d, .int .i64 T.e, .int .i64 T.x, .int .i64 T.y, .int .i64 T.z]] (by show [az.eval (.tmp 30), az.eval (.tmp 31)] = _; rw [h0, h1]) ?_)
          exact ((fun wa _ => HAP.out wa) wa hF.1).mono fun e w2 ⟨he, hb2⟩ => ⟨_, he, rfl, hF.keep hb2 (by decide) (by decide)⟩
        | 7 =>
          cases hi
          have h0 : az.eval (.tmp 32) = .tuple #[.agg #[.int .i64 U.d, .int .i64 U.e, .int .i64 U.x, .int .i64 U.y, .int .i64 U.z], .bool TB] := (hpre 6 _ _ (by kernel_rfl) rfl rfl).2.2
          exact Free.c_all rfl (Free.g_move _ rfl ⟨h0, hF.keep (Below.refl _ _) (by decide) (by decide)⟩)
        | 8 =>
          cases hi
          have h0 : az.eval (.tmp 25) = .tuple #[.agg #[.int .i64 U.d, .int .i64 U.e, .int .i64 U.x, .int .i64 U.y, .int .i64 U.z], .bool TB] := (hpre 7 _ _ (by kernel_rfl) rfl rfl).2.2
          refine Free.c_all rfl ?_
          unfold execOp
          simp only [h0]
          go_simp
          exact ⟨rfl, hF.keep (Below.refl _ _) (by decide) (by decide)⟩
        | 9 =>
          cases hi
          have h0 : az.eval (.tmp 25) = .tuple #[.agg #[.int .i64 U.d, .int .i64 U.e, .int .i64 U.x, .int .i64 U.y, .int .i64 U.z], .bool TB] := (hpre 7 _ _ (by kernel_rfl) rfl rfl).2.2
          refine Free.c_all rfl ?_
          unfold execOp
          simp only [h0]
          go_simp
          exact ⟨rfl, hF.keep (Below.refl _ _) (by decide) (by decide)⟩
        | 10 =>
          cases hi
          refine Free.c_all rfl ?_
          unfold execOp
          go_simp
          exact ⟨trivial, hF.alloc (by decide) hbi⟩
        | 11 =>
          cases hi
          have hq := id (hpre (10) _ _ (by kernel_rfl) rfl rfl)
          have hx : az.eval (.tmp 33) = .agg #[.int .i64 U.d, .int .i64 U.e, .int .i64 U.x, .int .i64 U.y, .int .i64 U.z] := (hpre 8 _ _ (by kernel_rfl) rfl rfl).2.2
          obtain ⟨blk, hblk, hle, hrow⟩ := hF.row hq.1 hbi
          have hp : az.eval (.tmp 12) = .pointer (some ⟨blk, 0, none⟩) := hq.2.1.trans hblk
          have hc0 := hrow.cell 0; have hf0 := hrow.free 0
          have hc1 := hrow.cell 1; have hf1 := hrow.free 1
          have hc2 := hrow.cell 2; have hf2 := hrow.free 2
          have hc3 := hrow.cell 3; have hf3 := hrow.free 3
          have hc4 := hrow.cell 4; have hf4 := hrow.free 4
          simp only [List.getElem?_cons_succ, List.getElem?_cons_zero] at hc0 hc1 hc2 hc3 hc4
          refine Free.c_all rfl ?_
          unfold execOp
          simp only [hp, hx]
          go_simp
          exact ⟨rfl, hF.store (by decide) hq.1 hblk hle (row_set5' hrow) ((((((hF.1.setCell hle _).setCell hle _).setCell hle _).setCell hle _).setCell hle _))⟩
        | 12 =>
          cases hi
          have h0 : az.eval (.tmp 34) = .bool TB := (hpre 9 _ _ (by kernel_rfl) rfl rfl).2.2
          exact Free.c_all rfl (Free.g_assign _ rfl ⟨h0, hF.keep (Below.refl _ _) (by decide) (by decide)⟩)
        | _ + 13 => cases hi
      · intro vs we hv hF
        obtain ⟨hbE, blk, hblk, hle, hrowE⟩ := hF.done
        clear hF
        have e12 : vs 12 = .bool TB := hv 12 (by simp) (by rintro o ⟨⟩; rfl)
        clear hv
        simp only [Free.puts, Nat.reduceAdd, hblk, e12]
        clear e12
        clear hblk
        generalize vs 0 = y0
        generalize vs 1 = y1
        generalize vs 2 = y2
        generalize vs 3 = y3
        generalize vs 4 = y4
        generalize vs 5 = y5
        generalize vs 6 = y6
        generalize vs 7 = y7
        generalize vs 8 = y8
        generalize vs 9 = y9
        generalize vs 11 = y11
        clear vs
        go_simp
        have HB4 := Lib.hid hbE; have HUX : Hid (Holds we blk U) := Lib.hid hrowE; clear hbE hle hrowE
        generalize we = w4 at *
        generalize blk = gu at *
        cases TB with
        | false =>
          have hm := HNO.out rfl
          have HM := Lib.hid hm; clear hm
          go_wp2_with fail
          go_roundw
          case rel => exact ⟨k + 1, by simp, by omega, by rw [HM.out]; exact Rw.own_kept HN.out HB4.out, Rw.own_kept HO2.out HB4.out, HTX.out.below HB4.out, HB2.out.trans (HB4.out.mono HB2.out.size)⟩
          case measure => simp only [intOf]; omega
        | true =>
          have q0 := HQ.out w4 HB4.out
          by_cases hnt : ((n : Nat) : Int) = t
          · subst hnt
            have hm := HYES.out rfl rfl
            have hty := Rw.Ts.made (κ := kindU) w4 [U] 49
            have hsz : w.heap.size + 1 ≤ w4.heap.size := by
              have h1 := HTX.out.lt; have h2 := HGT.out; have h3 := HB4.out.size; omega
            have hn4 := Rw.own_kept HN.out HB4.out
            have ho4 : w4.ownsRow w.heap.size 80 kindA.K (.slice (some ⟨g, 0, none⟩) L.length lc) L.length (Rw.row kindA L) := Rw.own_kept HO2.out HB4.out
            have ht4 := HTX.out.below HB4.out
            have hb4 := HB2.out.trans (HB4.out.mono HB2.out.size)
            obtain ⟨c0, c1, c2, c3, c4⟩ := HUX.out.c5
            have HM := Lib.hid hm; have HTY := Lib.hid hty; have HSZ := Lib.hid hsz; have HN4 := Lib.hid hn4; have HO4 := Lib.hid ho4; have HT4 := Lib.hid ht4; have HB5 := Lib.hid hb4; clear hm hty hsz hn4 ho4 ht4 hb4
            go_wp2_with (at_builtin; refine Rw.append_own kindU 49 51 Tryz.underlying51 Tryz.infoStamp rfl rfl _ _ rfl (w.heap.size + 1) _ M.length M rfl (World.ownsRow.alloc HN4.out _) _ 1 [U] rfl (by simp) HTY.out (by unfold maxLen; have := HLEN.out; simp; omega) (by have := HLEN.out; simp; omega) (by have := HSZ.out; simp; omega) ?_; intro v2 w5 hv2 hg2; have hk2 := comes_kept HN4.out HB5.out HT4.out HO4.out HGT.out hg2; have HV := Lib.hid hv2; have HK := Lib.hid hk2; clear hv2 hg2 hk2)
            go_roundw
            case rel =>
              refine ⟨k + 1, by simp, by omega, ?_, HK.out.2.2, HK.out.2.1, HK.out.1⟩
              rw [HM.out, List.length_append]
              exact HV.out
            case measure => simp only [intOf]; omega
          · have hntz : (((n : Nat) : Int) == t) = false := by simpa using hnt
            have hm := HOFF.out hnt
            have HM := Lib.hid hm; clear hm
            go_wp2_with fail
            go_roundw
            case rel => exact ⟨k + 1, by simp, by omega, by rw [HM.out]; exact Rw.own_kept HN.out HB4.out, Rw.own_kept HO2.out HB4.out, HTX.out.below HB4.out, HB2.out.trans (HB4.out.mono HB2.out.size)⟩
            case measure => simp only [intOf]; omega
    · have hkz : ¬ (k : Int) < (L.length : Int) := by omega
      have hke : k = L.length := by omega
      have hn := HN.out
      rw [show rowC T t L k = appS T (atI t L) by unfold rowC; rw [hke, List.take_length]] at hn
      have hle : (appS T (atI t L)).length ≤ 5000000 := by have h1 := HL.out.atLen HF.out (t := t); have h2 := appS_len T (atI t L); omega
      have hev : Even (appS T (atI t L)) := appS_even (HL.out.one HF.out t)
      obtain ⟨NA, nc, rfl, hs⟩ := Slc.of_own (ts := appS T (atI t L)) hn
      have hcl := frRefOf_any NA (appS T (atI t L)) nc w3 hs hle
      rw [decide_eq_true hev] at hcl
      have HC := Lib.hid hcl; clear hcl hn hke hs hle hev
      go_wp2_with fail
      refine HC.out.mono ?_; rintro e w5 ⟨⟨A', c', rfl, hs, hbs⟩, hb5⟩
      have HS := Lib.hid hs; have HBS := Lib.hid hbs; have HB5 := Lib.hid (HB2.out.trans (hb5.mono HB2.out.size)); clear hs hb5 hbs
      dsimp only
      go_wp2_with fail
      go_ret
      exact ⟨⟨A', c', L, HL.out, rfl, HS.out, fun ad h => Nat.le_trans HB2.out.size (HBS.out ad h)⟩, HB5.out⟩
end

section
open Go.ChangeShapes Go.WideShapes Go.ChangeAt Go.RowKit Go.BigFrame
set_option maxRecDepth 100000
def ApD (w : World) (s : Sm) (t : St) (p q r : Int) (b1 b2 : Bool) (w' : World) : Prop :=
  Below w.heap.size w w' ∧ HoldsM w' w.heap.size 44 s ∧ Holds w' (w.heap.size + 1) ⟨if b1 then s.to else t.d, t.e, if b2 then p else t.x, if b2 then q else t.y, if b2 then r else t.z⟩ ∧ Holds w' (w.heap.size + 1 + 1) St.zero
theorem ApD.below {w : World} {s : Sm} {t : St} {p q r : Int} {b1 b2 : Bool} {v v' : World} (h : ApD w s t p q r b1 b2 v) (hb : Below v.heap.size v v') : ApD w s t p q r b1 b2 v' :=
  ⟨h.1.trans (hb.mono h.1.size), h.2.1.below hb, h.2.2.1.below hb, h.2.2.2.below hb⟩
set_option maxHeartbeats 8000000 in
theorem apply_D (s : Sm) (t : St) (w : World) (h : s.R) (h2 : t.R) (hd : t.d = s.fr) : Calls Tryz.prog 46 #[s.v, t.val] w fun e w' => e = .returned (.tuple #[(s.ap t).val, .bool (s.apB t)]) ∧ Below w.heap.size w w' := by
  have hmr := Sm.made_R h h2
  have hal := along_any s t.x t.y t.z
  have bt : (0 ≤ t.x ∧ t.x ≤ 1000) ∧ (0 ≤ t.y ∧ t.y ≤ 1000) ∧ (0 ≤ t.z ∧ t.z ≤ 1000) := by unfold St.R at h2; omega
  have cal := fun w => hal w h bt.1 bt.2.1 bt.2.2
  rw [show s.al 0 t.x = s.val t 0 from Sm.val_al 0, show s.al 1 t.y = s.val t 1 from Sm.val_al 1, show s.al 2 t.z = s.val t 2 from Sm.val_al 2] at cal
  have r3 := fun w => right_any ⟨s.to, t.e, s.val t 0, s.val t 1, s.val t 2⟩ w
  have hres : (s.ap t).val = (if decide (St.R ⟨s.to, t.e, s.val t 0, s.val t 1, s.val t 2⟩) then (St.val ⟨s.to, t.e, s.val t 0, s.val t 1, s.val t 2⟩) else St.zero.val) ∧ s.apB t = decide (St.R ⟨s.to, t.e, s.val t 0, s.val t 1, s.val t 2⟩) := by
    by_cases hh : s.val t 0 < 16 ∧ s.val t 1 < 16 ∧ s.val t 2 < 16
    · obtain ⟨q1, q2⟩ := Sm.ap_yes (s := s) (t := t) ⟨h, h2, hd, hh⟩
      rw [q1, q2, decide_eq_true (hmr.2 hh)]; exact ⟨rfl, rfl⟩
    · obtain ⟨q1, q2⟩ := Sm.ap_no (s := s) (t := t) (fun g => hh g.2.2.2)
      rw [q1, q2, decide_eq_false (fun g => hh (hmr.1 g))]; exact ⟨rfl, rfl⟩
  rw [hres.1, hres.2]
  clear hres hmr hal bt
  have h3 := Trio.made w 44 s t
  have hbw := below_alloc3 w (.cells #[.int .i64 s.fr, .int .i64 s.to, .int .i64 s.kp, .int .i64 s.ad, .int .i64 s.t0, .int .i64 s.t1, .int .i64 s.t2] 44) (.cells #[.int .i64 t.d, .int .i64 t.e, .int .i64 t.x, .int .i64 t.y, .int .i64 t.z] 49) (.cells #[.int .i64 0, .int .i64 0, .int .i64 0, .int .i64 0, .int .i64 0] 49)
  have H3 := Lib.hid h3; have HB := Lib.hid hbw; clear h3 hbw
  have r1 := fun w => rightM_true h w
  have r2 := fun w => right_true h2 w
  have hn : (t.d != s.fr) = false := by simpa using hd
  have R1 := Lib.hid r1; have R2 := Lib.hid r2; clear r1 r2
  clear h h2 hd
  generalize s.val t 0 = p at *
  generalize s.val t 1 = q at *
  generalize s.val t 2 = r at *
  generalize hb : decide (St.R ⟨s.to, t.e, p, q, r⟩) = bb at *
  clear hb
  have R3 := Lib.hid r3; have CAL := Lib.hid cal; clear r3 cal
  unfold Sm.v St.val at *
  go_enter Tryz.func46, Tryz.ntmps46
  go_wp2_with fail
  refine (R1.out _).mono ?_; rintro e w2 ⟨rfl, hb2⟩
  have k3 := H3.out.below hb2
  have kb := HB.out.trans (hb2.mono HB.out.size); clear H3 HB
  have H3 := Lib.hid k3; have HB := Lib.hid kb; clear k3 kb hb2
  obtain ⟨a0, a1, a2, a3, a4⟩ := H3.out.2.1.c5
  obtain ⟨b0, b1, b2, b3, b4, b5, b6⟩ := H3.out.1.cells7
  go_wp2_with fail
  clear a0 a1 a2 a3 a4 b0 b1 b2 b3 b4 b5 b6 R1
  refine (R2.out _).mono ?_; rintro e w3 ⟨rfl, hb3⟩
  have k3 := H3.out.below hb3
  have kb := HB.out.trans (hb3.mono HB.out.size); clear H3 HB
  have H3 := Lib.hid k3; have HB := Lib.hid kb; clear k3 kb hb3
  obtain ⟨a0, a1, a2, a3, a4⟩ := H3.out.2.1.c5
  obtain ⟨b0, b1, b2, b3, b4, b5, b6⟩ := H3.out.1.cells7
  go_wp2_with fail
  clear a0 a1 a2 a3 a4 b0 b1 b2 b3 b4 b5 b6 R2 hn
  have hD : ApD w s t p q r false false w3.drew := ⟨HB.out.drew, H3.out.1, H3.out.2.1, H3.out.2.2⟩
  have HD := Lib.hid hD; clear hD H3 HB
  refine Stage.wp_region (by kernel_rfl) (by kernel_rfl) (Stage.two 7 9 (ApD w s t p q r)) (Stage.two_start (by simp) (by simp) HD.out) ?_
  refine Stage.wpSt_do (.pointer (some ⟨w.heap.size, 1, none⟩)) rfl (Stage.two_step (by kernel_rfl) (fun b w' hw => ?_)) ?_
  · exact at_of (by go_simp) hw
  go_simp
  refine Stage.wpSt_do (.int .i64 s.to) rfl (Stage.two_step (by kernel_rfl) (fun b w' hw => ?_)) ?_
  · exact Free.at_load _ _ rfl rfl (load_m1 hw.2.1 1 rfl w' (Below.refl _ _)) hw
  go_simp
  refine Stage.wpSt_do (.agg #[.int .i64 s.fr, .int .i64 s.to, .int .i64 s.kp, .int .i64 s.ad, .int .i64 s.t0, .int .i64 s.t1, .int .i64 s.t2]) rfl (Stage.two_step (by kernel_rfl) (fun b w' hw => ?_)) ?_
  · exact Free.at_load _ _ rfl rfl (load_m hw.2.1 w' (Below.refl _ _)) hw
  go_simp
  refine Stage.wpSt_do (.pointer (some ⟨w.heap.size + 1, 2, none⟩)) rfl (Stage.two_step (by kernel_rfl) (fun b w' hw => ?_)) ?_
  · exact at_of (by go_simp) hw
  go_simp
  refine Stage.wpSt_do (.agg #[.int .i64 t.x, .int .i64 t.y, .int .i64 t.z]) rfl (Stage.two_step (by kernel_rfl) (fun b w' hw => ?_)) ?_
  · exact Free.at_load _ _ rfl rfl (load_l hw.2.2.1 w' (Below.refl _ _)) hw
  go_simp
  refine Stage.wpSt_do (.agg #[.int .i64 p, .int .i64 q, .int .i64 r]) rfl (Stage.two_step (by kernel_rfl) (fun b w' hw => ?_)) ?_
  · exact Free.at_call _ _ rfl Tryz.func58 (by kernel_rfl) rfl [.agg #[.int .i64 s.fr, .int .i64 s.to, .int .i64 s.kp, .int .i64 s.ad, .int .i64 s.t0, .int .i64 s.t1, .int .i64 s.t2], .agg #[.int .i64 t.x, .int .i64 t.y, .int .i64 t.z]] rfl ((CAL.out _).mono fun _ _ hh => ⟨hh.1, hw.below hh.2⟩)
  go_simp
  refine Stage.wpSt_do (.pointer (some ⟨w.heap.size + 1, 0, none⟩)) rfl (Stage.two_step (by kernel_rfl) (fun b w' hw => ?_)) ?_
  · exact at_of (by go_simp) hw
  go_simp
  refine Stage.wpSt_do undef rfl (Stage.two_first (by decide) (by kernel_rfl) (fun w' hw => ?_)) ?_
  · have c := hw.2.2.1.c5.1
    have f := hw.2.2.1.f5.1
    simp only at c
    exact at_skip (w' := w'.setCell ⟨w.heap.size + 1, 0, none⟩ (.int .i64 s.to)) (by go_simp) ⟨hw.1.setCell (by simp) _, Row.far hw.2.1 (by simp) _, Row.put hw.2.2.1 0 _, Row.far hw.2.2.2 (by simp) _⟩
  go_simp
  refine Stage.wpSt_do (.pointer (some ⟨w.heap.size + 1, 2, none⟩)) rfl (Stage.two_step (by kernel_rfl) (fun b w' hw => ?_)) ?_
  · exact at_of (by go_simp) hw
  go_simp
  refine Stage.wpSt_do undef rfl (Stage.two_then (by decide) (by kernel_rfl) (fun w' hw => ?_)) ?_
  · obtain ⟨c0, c1, c2, c3, c4⟩ := hw.2.2.1.c5
    obtain ⟨f0, f1, f2, f3, f4⟩ := hw.2.2.1.f5
    exact at_skip (w' := ((w'.setCell ⟨w.heap.size + 1, 2, none⟩ (.int .i64 p)).setCell ⟨w.heap.size + 1, 3, none⟩ (.int .i64 q)).setCell ⟨w.heap.size + 1, 4, none⟩ (.int .i64 r)) (by go_simp) ⟨((hw.1.setCell (by simp) _).setCell (by simp) _).setCell (by simp) _, Row.far (Row.far (Row.far hw.2.1 (by simp) _) (by simp) _) (by simp) _, Row.put (Row.put (Row.put hw.2.2.1 2 _) 3 _) 4 _, Row.far (Row.far (Row.far hw.2.2.2 (by simp) _) (by simp) _) (by simp) _⟩
  go_simp
  refine Stage.wpSt_nil (Stage.two_end ?_)
  intro w4 hw4
  obtain ⟨hb4, hm4, ht4, hz4⟩ := hw4
  simp only [if_true] at ht4
  obtain ⟨a0, a1, a2, a3, a4⟩ := ht4.c5
  have HB := Lib.hid hb4; have HT := Lib.hid ht4; have HZ := Lib.hid hz4; clear hb4 hm4 ht4 hz4 HD CAL
  go_wp2_with fail
  refine (R3.out _).mono ?_; rintro e w5 ⟨rfl, hb5⟩
  have ht5 := HT.out.below hb5; have hz5 := HZ.out.below hb5; have hbw := HB.out.trans (hb5.mono HB.out.size)
  clear a0 a1 a2 a3 a4 HT HZ HB hb5 R3
  obtain ⟨a0, a1, a2, a3, a4⟩ := ht5.c5
  obtain ⟨z0, z1, z2, z3, z4⟩ := hz5.c5
  obtain ⟨f0, f1, f2, f3, f4⟩ := hz5.f5
  have HB := Lib.hid hbw; have HZ := Lib.hid hz5; clear hbw hz5 ht5
  simp only at a0 a1 a2 a3 a4
  cases bb with
  | true =>
    go_wp2_with fail
    refine bodyPost_ret (v := .tuple #[.agg #[.int .i64 s.to, .int .i64 t.e, .int .i64 p, .int .i64 q, .int .i64 r], .bool true]) (two_results rfl _ _ _ 49 _ (0, 0) _ rfl (row_set5' HZ.out) Tryz.underlying49 rfl (by kernel_rfl) rfl) rfl ?_
    exact ⟨rfl, below_set5' HB.out (by omega)⟩
  | false =>
    go_wp2_with fail
    refine bodyPost_ret (v := .tuple #[.agg #[.int .i64 0, .int .i64 0, .int .i64 0, .int .i64 0, .int .i64 0], .bool false]) (two_results rfl _ _ _ 49 _ (0, 0) _ rfl (row_set5' HZ.out) Tryz.underlying49 rfl (by kernel_rfl) rfl) rfl ?_
    exact ⟨rfl, below_set5' HB.out (by omega)⟩
theorem apply_any (s : Sm) (t : St) (w : World) : Calls Tryz.prog 46 #[s.v, t.val] w fun e w' => e = .returned (.tuple #[(s.ap t).val, .bool (s.apB t)]) ∧ Below w.heap.size w w' := by
  by_cases h : s.R
  · by_cases h2 : t.R
    · by_cases hd : t.d = s.fr
      · exact apply_D s t w h h2 hd
      · exact apply_C s t w h h2 hd
    · exact apply_B s t w h h2
  · exact apply_A s t w h
end

section
open Go.ChangeShapes Go.WideShapes Go.ChangeAt Go.RowKit Go.BigFrame
set_option maxRecDepth 100000
theorem WaysOf.one {g : List Nd} {f t : Int} {l : List Sm} (hF : Fine g) (h : WaysOf g f t l) : OneTo l := by
  rcases h with ⟨i, n, T, D, rfl, rfl, hi, hn, hr, hl⟩ | ⟨_, rfl⟩
  · obtain ⟨x, hx⟩ : ∃ x, g[n]? = some x := ⟨_, List.getElem?_eq_getElem hn⟩
    intro s hs u hu
    rw [(hr.dsound n s (hr.sub n l s hl hs)).to_eq hF hx, (hr.dsound n u (hr.sub n l u hl hu)).to_eq hF hx]
  · intro x hx; cases hx
theorem take_no {T : St} {l : List Sm} {k : Nat} {s : Sm} (h : l[k]? = some s) (hn : s.apB T = false) : appS T (l.take (k + 1)) = appS T (l.take k) := by
  rw [List.take_add_one, h, Option.toList_some, appS_append]
  have : s.apply T = none := by
    unfold Sm.apB at hn
    cases h2 : s.apply T with
    | none => rfl
    | some u => rw [h2] at hn; cases hn
  have e2 : appS T [s] = [] := by unfold appS; rw [this]; rfl
  rw [e2, List.append_nil]
theorem take_yes {T : St} {l : List Sm} {k : Nat} {s : Sm} (h : l[k]? = some s) (hn : s.apB T = true) : appS T (l.take (k + 1)) = appS T (l.take k) ++ [s.ap T] := by
  rw [List.take_add_one, h, Option.toList_some, appS_append]
  congr 1
  unfold Sm.apB at hn
  unfold Sm.ap appS
  cases h2 : s.apply T with
  | none => rw [h2] at hn; cases hn
  | some u => rfl
theorem app_kept {w1 w4 w5 : World} {o : Obj} {v : Value} {M : List St} (ho : w4.ownsRow w1.heap.size 49 kindU.K v M.length (Rw.row kindU M)) (hb : Below w1.heap.size w1 w4) (hg : (w4.alloc o).grownBy w5 v.ownBlock) : Below w1.heap.size w1 w5 :=
  Rw.own_below (ho.alloc o) hg (hb.alloc hb.size o) (Nat.le_trans hb.size ((Below.refl w4.heap.size w4).alloc (Nat.le_refl _) o).size)
def ComeD (w : World) (base p F : Nat) (A : Option Addr) (c : Nat) (lg : List Gn) (f t : Int) (T : St) (e : Ending) (w' : World) : Prop :=
  (∃ v l, e = .returned v ∧ WaysOf (nds lg) f t l ∧ w'.ownsRow w.heap.size 49 5 v (ofS (appS T l)).length (rowS (ofS (appS T l)))) ∧ (∃ fs, Pth w' base p F A c lg fs) ∧ Touch (fun b => b = F) w w'
set_option maxHeartbeats 16000000 in
theorem comes_any (p F c base : Nat) (A : Option Addr) (lg : List Gn) (fs : List (Option Sl)) (f t : Int) (T : St) (w : World) (hP : Pth w base p F A c lg fs) (hl : lg.length ≤ 14) (hI : ∀ x ∈ nds lg, x.ins.length ≤ 40) (hFi : Fine (nds lg)) :
    Calls Tryz.prog 21 #[.pointer (some ⟨p, 0, none⟩), .int .i64 f, T.val, .int .i64 t] w (ComeD w base p F A c lg f t T) := by
  have ht0 : Holds (w.alloc (.cells #[.int .i64 T.d, .int .i64 T.e, .int .i64 T.x, .int .i64 T.y, .int .i64 T.z] 49)) w.heap.size T := Holds.made w T
  have hb0 : Below w.heap.size w (w.alloc (.cells #[.int .i64 T.d, .int .i64 T.e, .int .i64 T.x, .int .i64 T.y, .int .i64 T.z] 49)) := (Below.refl _ _).alloc (Nat.le_refl _) _
  have hlst := least_any p F c base A lg fs f t _ (hP.below hb0) hl hI hFi
  have hFF : F ≠ w.heap.size := by have := hP.fans.lt; omega
  have HA := Lib.hid hlst; have HF := Lib.hid hFi; have HT0 := Lib.hid ht0; have HB0 := Lib.hid hb0; have HFF := Lib.hid hFF; clear hlst hFi hP hI ht0 hb0 hFF
  go_enter Tryz.func21, Tryz.ntmps21
  go_wp2_with fail
  refine HA.out.mono ?_; rintro e w1 ⟨⟨v, l, rfl, hw, LA, lc, rfl, hTs, h1, h2, h3⟩, ⟨fs', hP⟩, ht⟩
  have hbd := hw.len
  have ht1 : Holds w1 w.heap.size T := Row.touch (t := 49) HT0.out ht (fun e => HFF.out e.symm)
  have hts : Mx.Ts w1 LA l := hTs
  have HW := Lib.hid hw; have HP := Lib.hid (And.intro hP ht); have HTS := Lib.hid hts; have HBD := Lib.hid hbd; have HT1 := Lib.hid ht1; clear hw hTs hts h1 h2 h3 hP ht hbd ht1 HA HT0
  obtain ⟨gt, hgt⟩ : ∃ gt, w.heap.size = gt := ⟨_, rfl⟩
  have HGT := Lib.hid hgt; rw [hgt] at HT1 ⊢; clear hgt
  dsimp only
  go_wp2_with fail
  go_loopw [9, 21] (fun v n wx => ∃ k : Nat, n = .int .i64 k ∧ k ≤ l.length ∧ wx.ownsRow w1.heap.size 49 kindU.K v (appS T (l.take k)).length (Rw.row kindU (appS T (l.take k))) ∧ Below w1.heap.size w1 wx) (fun _ n _ => l.length - (intOf n).toNat)
  case atStart => exact ⟨0, rfl, Nat.zero_le _, World.ownsRow_nil _ _ _ _, Below.refl _ _⟩
  case round =>
    obtain ⟨w3, rfl⟩ : ∃ wo, wo = wr := ⟨_, rfl⟩
    obtain ⟨k, rfl, hk, hn, hb⟩ := hrel
    have HN := Lib.hid hn; have HB2 := Lib.hid hb; clear hn hb
    by_cases hkl : k < l.length
    · have hkz : (k : Int) < (l.length : Int) := by omega
      have hkb : k < 60000000 := by have := HBD.out; omega
      obtain ⟨s, hs⟩ : ∃ a, l[k]? = some a := ⟨_, List.getElem?_eq_getElem hkl⟩
      obtain ⟨b, o, rfl, hblt, hld⟩ := Mx.Ts.five HTS.out hs
      obtain ⟨q0, q1, q2, q3, q4, q5, q6⟩ := hld w3 HB2.out
      obtain ⟨d0, d1, d2, d3, d4⟩ := (HT1.out.below HB2.out).c5
      have hlg : gt < w3.heap.size := (HT1.out.below HB2.out).lt
      have hno := fun h => take_no (T := T) hs h
      have hyes := fun h => take_yes (T := T) hs h
      have hlen := appS_len T (l.take k)
      rw [List.length_take] at hlen
      have hap := fun wz => apply_any s T wz
      generalize appS T (l.take k) = M at *
      generalize s.ap T = U at *
      generalize s.apB T = TB at *
      have HNO := Lib.hid hno; have HYES := Lib.hid hyes; have HLEN := Lib.hid hlen; have HAP := Lib.hid hap
      clear hno hyes hlen hap hld hs hblt
      go_wp2_with fail
      refine (HAP.out _).mono ?_; rintro e w4 ⟨rfl, hb4⟩
      have hb4' : Below w3.heap.size w3 w4 := ((Below.refl _ _).alloc (Nat.le_refl _) _).trans (hb4.mono (by simp))
      have HB4 := Lib.hid hb4'; clear hb4 hb4' q0 q1 q2 q3 q4 q5 q6 d0 d1 d2 d3 d4
      dsimp only
      cases TB with
      | false =>
        have hm := HNO.out rfl
        have HM := Lib.hid hm; clear hm
        go_wp2_with fail
        go_roundw
        case rel =>
          have hb5 := HB4.out.alloc HB4.out.size (.cells #[.int .i64 U.d, .int .i64 U.e, .int .i64 U.x, .int .i64 U.y, .int .i64 U.z] 49)
          exact ⟨k + 1, by simp, by omega, by rw [HM.out]; exact Rw.own_kept HN.out hb5, HB2.out.trans (hb5.mono HB2.out.size)⟩
        case measure => simp only [intOf]; omega
      | true =>
        have hm := HYES.out rfl
        have hb5 := HB4.out.alloc HB4.out.size (.cells #[.int .i64 U.d, .int .i64 U.e, .int .i64 U.x, .int .i64 U.y, .int .i64 U.z] 49)
        have hb6 := HB2.out.trans (hb5.mono HB2.out.size)
        have hn5 := Rw.own_kept HN.out hb5
        obtain ⟨c0, c1, c2, c3, c4⟩ := (Holds.made w4 U).c5
        have HM := Lib.hid hm; have HN5 := Lib.hid hn5; have HB6 := Lib.hid hb6; clear hm hn5 hb5 hb6
        go_upto_region 7 with fail
        generalize w4.alloc (.cells #[.int .i64 U.d, .int .i64 U.e, .int .i64 U.x, .int .i64 U.y, .int .i64 U.z] 49) = w5 at *
        generalize w4.heap.size = gu at *
        have hty := Rw.Ts.made (κ := kindU) w5 [U] 49
        have HTY := Lib.hid hty; clear hty
        go_wp2_with (at_builtin; refine Rw.append_own kindU 49 51 Tryz.underlying51 Tryz.infoStamp rfl rfl _ _ rfl w1.heap.size _ M.length M rfl (World.ownsRow.alloc HN5.out _) _ 1 [U] rfl (by simp) HTY.out (by unfold maxLen; have := HLEN.out; simp; omega) (by have := HLEN.out; simp; omega) (by have := HB6.out.size; simp; omega) ?_; intro v2 w6 hv2 hg2; have hk2 := app_kept HN5.out HB6.out hg2; have HV := Lib.hid hv2; have HK := Lib.hid hk2; clear hv2 hg2 hk2)
        go_roundw
        case rel =>
          refine ⟨k + 1, by simp, by omega, ?_, HK.out⟩
          rw [HM.out, List.length_append]
          exact HV.out
        case measure => simp only [intOf]; omega
    · have hkz : ¬ (k : Int) < (l.length : Int) := by omega
      have hke : k = l.length := by omega
      have hn := HN.out
      rw [hke, List.take_length] at hn
      have hle : (appS T l).length ≤ 5000000 := by have h1 := HBD.out; have h2 := appS_len T l; omega
      have hev : Even (appS T l) := appS_even (HW.out.one HF.out)
      obtain ⟨NA, nc, rfl, hs, _, _, _⟩ := Rw.Ts.of_own hn
      have hs' : Ts w3 NA (appS T l) := hs
      have hcl := frOf_any NA (appS T l) nc w3 hs' hle
      rw [decide_eq_true hev] at hcl
      have HC := Lib.hid hcl; clear hcl hn hke hs hs' hle hev HN
      unfold Gives ifS errS at HC
      simp only [if_true] at HC
      go_wp2_with fail
      refine HC.out.mono ?_; rintro e w5 ⟨⟨v5, rfl, ho⟩, hb5⟩
      have HO := Lib.hid (And.intro ho hb5); clear ho hb5
      dsimp only
      go_wp2_with fail
      go_ret
      obtain ⟨ho, hb5⟩ := HO.out
      obtain ⟨hP, ht⟩ := HP.out
      have hb6 := HB2.out.trans (hb5.mono HB2.out.size)
      have hsz : w.heap.size ≤ w3.heap.size := Nat.le_trans HB0.out.size (Nat.le_trans ht.size HB2.out.size)
      exact ⟨⟨_, l, rfl, HW.out, frOwn_base ho hsz⟩, ⟨_, hP.below hb6⟩, ((Touch.of_below HB0.out).trans ht).trans (Touch.of_below (hb6.mono (by exact Nat.le_refl _)))⟩
end

section
open Go.RowKit

section
variable {P : Program}
end
end

section
open Go.RowKit
section
variable {P : Program} {src dst e : TypeId}
end
end

section
open Go.ChangeShapes Go.WideShapes Go.ChangeAt Go.RowKit Go.BigFrame
set_option linter.unusedVariables false
end

section
open Go.ChangeShapes Go.WideShapes Go.ChangeAt Go.RowKit Go.BigFrame
section
variable {P : Program} {src dst : TypeId}
end
end

section
open Go.ChangeShapes Go.WideShapes Go.ChangeAt Go.RowKit Go.BigFrame
set_option maxRecDepth 100000
theorem allocs_heap : ∀ (os : List Obj) (w : World), (os.foldl World.alloc w).heap.toList = w.heap.toList ++ os
  | [], w => (List.append_nil _).symm
  | o :: os, w => by
    rw [List.foldl_cons, allocs_heap os (w.alloc o)]
    show (w.heap.push o).toList ++ os = _
    rw [Array.toList_push, List.append_assoc]; rfl
theorem allocs_at (os : List Obj) (w : World) {k : Nat} {o : Obj} (h : os[k]? = some o) : (os.foldl World.alloc w).heap[w.heap.size + k]? = some o := by
  rw [← Array.getElem?_toList, allocs_heap, List.getElem?_append_right (by simp)]
  simpa using h
theorem allocs_below : ∀ (os : List Obj) {B : Nat} {w0 w : World}, Below B w0 w → B ≤ w.heap.size → Below B w0 (os.foldl World.alloc w)
  | [], _, _, _, h, _ => h
  | o :: os, _, _, w, h, hB => allocs_below os (h.alloc hB o) (by simp; omega)
theorem allocs_ints (os : List Obj) (w : World) {k : Nat} (zs : List Int) (h : os[k]? = some (.cells (Rw.row kindI zs).toArray 3)) : Rw.Ts kindI (os.foldl World.alloc w) (some ⟨w.heap.size + k, 0, none⟩) zs := Rw.Ts.of_row (t := 3) (allocs_at os w h)
theorem allocs_nodes (os : List Obj) (w : World) {k : Nat} (l : List Gn) (h : os[k]? = some (.cells (Rw.row kindG l).toArray 35)) : Rw.Ts kindG (os.foldl World.alloc w) (some ⟨w.heap.size + k, 0, none⟩) l := Rw.Ts.of_row (t := 35) (allocs_at os w h)
theorem ok_small (k a : Nat) (b d : Int) (ins : List Int) (A : Option Addr) (c : Nat) (h : (k < 256 ∧ a < 256 ∧ -100 ≤ b ∧ b ≤ 100 ∧ -100 ≤ d ∧ d ≤ 100 ∧ ins.length ≤ c ∧ c ≤ 10) ∧ ∀ z ∈ ins, -100 ≤ z ∧ z ≤ 100) (hA : A = none → c = 0) : Gn.Ok ⟨⟨k, a, b, d, ins⟩, A, c⟩ := by
  have h1 : -9223372036854775808 ≤ b ∧ b ≤ 9223372036854775807 := by have := h.1; omega
  have h2 : -9223372036854775808 ≤ d ∧ d ≤ 9223372036854775807 := by have := h.1; omega
  have h3 : ∀ z ∈ ins, -9223372036854775808 ≤ z ∧ z ≤ 9223372036854775807 := fun z hz => by have := h.2 z hz; omega
  have h4 : ins.length ≤ c ∧ c ≤ maxLen := by have := h.1; unfold maxLen; omega
  exact ⟨h.1.1, h.1.2.1, h1, h2, h3, h4, hA⟩
end
end Go.Proofs.YtcdofkhkckodjaaGreatDoor
