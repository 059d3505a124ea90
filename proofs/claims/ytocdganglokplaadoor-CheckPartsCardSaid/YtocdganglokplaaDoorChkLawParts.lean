/- CheckParts: in a graph that may be run each node is right, and along the order each node's way back comes to an end. -/
import Derived.Test.YtocdganglokplaaDoorChkInts
import Derived.Test.YtocdganglokplaaDoorChkWkA
import Derived.Test.YtocdganglokplaaDoorChkStkA
import Derived.Test.YtocdganglokplaaDoorChkMoreMath
import Derived.BigRegion
import Derived.Test.YtocdganglokplaaDoorChkSi
namespace Go.Proofs.YtocdganglokplaaDoor
open Go.ChangeShapes Go.WideShapes Go.ChangeAt Go.RowKit Go.BigFrame
set_option linter.unusedVariables false
set_option maxRecDepth 100000
namespace checkParts
/-- the statement's rows: the order, and how deep each place lies -/
structure DeepS (w1 w3 w : World) (v : Value) (gs : Nat) (xs D : List Int) : Prop where
  below : Below w1.heap.size w1 w
  size : w3.heap.size ≤ w.heap.size
  lo : w1.heap.size ≤ gs
  hi : gs < w3.heap.size
  ord : w.ownsRow w3.heap.size 3 kindI.K v xs.length (Rw.row kindI xs)
  deep : Row w gs 3 (D.map (Value.int .i64))
section
variable {w1 w3 w w' : World} {v : Value} {gs : Nat} {xs D : List Int}
theorem DeepS.kept (h : DeepS w1 w3 w v gs xs D) (hb : Below w.heap.size w w') : DeepS w1 w3 w' v gs xs D :=
  ⟨h.below.trans (hb.mono h.below.size), Nat.le_trans h.size hb.size, h.lo, h.hi, Rw.own_kept h.ord hb, h.deep.below hb (Nat.lt_of_lt_of_le h.hi h.size)⟩
theorem DeepS.set (h : DeepS w1 w3 w v gs xs D) (j : Nat) (u : Int) : DeepS w1 w3 (w.setCell ⟨gs, j, none⟩ (.int .i64 u)) v gs xs (D.set j u) where
  below := h.below.setCell h.lo _
  size := by have := (grown_set w gs j (.int .i64 u)).size; have := h.size; omega
  lo := h.lo
  hi := h.hi
  ord := h.ord.kept (grown_set w gs j _) (by
    rcases e : v.ownBlock with _ | k
    · exact .inl rfl
    · right
      intro e2
      have := (h.ord.lt k e).1
      have h2 := h.hi
      cases e2
      omega)
  deep := by rw [List.map_set]; exact h.deep.put j _
theorem DeepS.at_ (h : DeepS w1 w3 w v gs xs D) {i : Nat} {s : Int} (hi : xs[i]? = some s) : ∃ g c, v = .slice (some ⟨g, 0, none⟩) xs.length c ∧ g < w.heap.size ∧ w.cell? ⟨g, i, none⟩ = some (.int .i64 s) := by
  have hl := (List.getElem?_eq_some_iff.1 hi).1
  have hlt := h.ord.lt
  rcases id h.ord.2 with ⟨_, h0⟩ | ⟨g, cap, cur, e, _⟩
  · omega
  · refine ⟨g, cap, e, (hlt g (by rw [e]; rfl)).2, ?_⟩
    have hown := h.ord
    rw [e] at hown
    have := hown.cells (g := g) rfl i (.int .i64 s) (by rw [row_ints, List.getElem?_map, hi]; rfl)
    rwa [add_zero_off] at this
theorem DeepS.len (h : DeepS w1 w3 w v gs xs D) : ∃ A c, v = .slice A xs.length c := by
  rcases id h.ord.2 with ⟨e, h0⟩ | ⟨g, cap, cur, e, _⟩
  · exact ⟨_, _, by rw [e, h0]⟩
  · exact ⟨_, _, e⟩
theorem DeepS.num (h : DeepS w1 w3 w v gs xs D) {j : Nat} {u : Int} (hj : D[j]? = some u) : w.cell? ⟨gs, j, none⟩ = some (.int .i64 u) ∧ w.frozen? ⟨gs, j, none⟩ = false :=
  ⟨by rw [h.deep.cell, List.getElem?_map, hj]; rfl, h.deep.free j⟩
end
theorem made_ints (n : Nat) : (madeCells (Value.int .i64 0).cells (n * 1)).toList = (List.replicate n 0).map (Value.int .i64) := by
  have : (Value.int .i64 0).cells = #[.int .i64 0] := rfl
  rw [this, toList_madeCells_one, List.map_replicate, Nat.mul_one]
set_option maxHeartbeats 32000000 in
theorem walk (A : Option Addr) (l : List Gn) (c : Nat) (w : World) (hT : Tab w) (hG : Gr w A l) (hl : l.length ≤ maxLen) (hc : l.length ≤ c ∧ c ≤ maxLen) :
    Calls Tryd.prog 7 #[.slice A l.length c] w fun e w' => e = .returned (.bool true) ∧ Below w.heap.size w w' := by
  have HT := Lib.hid hT; clear hT
  have HG := Lib.hid hG; have HL := Lib.hid hl; have HCC := Lib.hid hc; clear hG hl hc
  have h1 := ins_any A l c 30 w HG.out HL.out
  cases e1 : insB (nds l) 30 with
  | false =>
    rw [e1] at h1; clear e1; have H1 := Lib.hid h1; clear h1
    have Hb := Lib.hid (Below.refl w.heap.size w)
    go_enter Tryd.func7, Tryd.ntmps7
    have hc := H1.out
    have HC := Lib.hid hc; clear hc
    go_wp2_with fail
    refine HC.out.mono ?_; rintro e w0 ⟨rfl, rfl⟩
    clear HC
    dsimp only
    have hc := chkWorks_any w HT.out
    have HC := Lib.hid hc; clear hc
    go_wp2_with fail
    refine HC.out.mono ?_; rintro e w2 ⟨rfl, hb⟩
    clear HC
    have h := HG.out.below hb; clear HG; have HG := Lib.hid h; clear h
    have h := HT.out.below hb; clear HT; have HT := Lib.hid h; clear h
    have h := Hb.out.trans (hb.mono Hb.out.size); clear Hb hb; have Hb := Lib.hid h; clear h
    dsimp only
    go_wp2_with fail
    go_ret
    exact ⟨rfl, Hb.out⟩
  | true =>
    have HI := Lib.hid (insB_nds (T := 30) e1)
    rw [e1] at h1; clear e1; have H1 := Lib.hid h1; clear h1
    have Hb := Lib.hid (Below.refl w.heap.size w)
    go_enter Tryd.func7, Tryd.ntmps7
    have hc := H1.out
    have HC := Lib.hid hc; clear hc
    go_wp2_with fail
    refine HC.out.mono ?_; rintro e w0 ⟨rfl, rfl⟩
    clear HC
    dsimp only
    obtain ⟨N, hN⟩ : ∃ N, (checkR (nds l)).1 = N := ⟨_, rfl⟩
    obtain ⟨E, hE⟩ : ∃ E, (checkR (nds l)).2 = E := ⟨_, rfl⟩
    have hc := (by have h := chkCheck_any A l c w HT.out HG.out (by have := HI.out.1; omega) (fun x hx => by have := HI.out.2 x hx; omega) HCC.out; unfold ChkD at h; rw [hN, hE] at h; exact h)
    have HC := Lib.hid hc; clear hc
    go_wp2_with fail
    refine HC.out.mono ?_; rintro e w2 ⟨rfl, hb⟩
    clear HC
    have h := HG.out.below hb; clear HG; have HG := Lib.hid h; clear h
    have h := HT.out.below hb; clear HT; have HT := Lib.hid h; clear h
    have h := Hb.out.trans (hb.mono Hb.out.size); clear Hb hb; have Hb := Lib.hid h; clear h
    dsimp only
    by_cases hz : E = 0
    · skip
      subst hz
      obtain ⟨_, hnode, _, _⟩ := checkR_zero hE
      obtain ⟨T, hor, hot, htl⟩ := order_there hE
      obtain ⟨xs, hxs⟩ : ∃ xs : List Int, (orderR (nds l)).1.map Int.ofNat = xs := ⟨_, rfl⟩
      have hE2 : (orderR (nds l)).2 = 0 := by rw [hor]
      have htt : xs = T.map Int.ofNat := by rw [← hxs, hor]
      rw [nds_len] at htl
      have htm : xs.length = l.length := by rw [htt, List.length_map]; exact htl
      have HND := Lib.hid hnode; have HOT := Lib.hid hot; have HTL := Lib.hid htl; have HXS := Lib.hid hxs; have HTT := Lib.hid htt; have HTM := Lib.hid htm; have HE2 := Lib.hid hE2
      clear hnode hot htl hxs htt htm hE2 hor hN hE
      have hl36 := HI.out.1
      obtain ⟨i0, hi0, hz0, hz1, hz2⟩ := info_parts infoInt
      obtain ⟨w9, hr9, ho9, hg9⟩ := run_make_full (P := Tryd.prog) w2 w2.heap.size 33 3 i0 _ 1 Tryd.underlying33 hi0 hz0 hz1 .i64 .i64 l.length (by rw [hz2]; omega) (by unfold maxLen; omega) (Nat.le_refl _)
      have hb9 := (Below.refl w2.heap.size w2).grown hg9 (Nat.le_refl _) (fun _ e => by cases e)
      rw [made_ints] at ho9
      have hrow9 := Row.of_full ho9
      generalize hgs : w2.heap.size = gs at hr9 ho9 hrow9
      have HR9 := Lib.hid hr9; have HW9 := Lib.hid hrow9; have HB9 := Lib.hid hb9; have HGS := Lib.hid hgs; clear hi0 hz0 hz1 hz2 hr9 ho9 hg9 hb9 hrow9 hgs
      go_wp2_with (refine wpList_make_is _ _ 33 rfl rfl _ _ _ rfl rfl HR9.out ?_)
      have hc := (chkOrder_any A l c w9 (HT.out.below HB9.out) (HG.out.below HB9.out) (by have := HI.out.1; omega) (fun x hx => by have := HI.out.2 x hx; omega) HCC.out).mono fun e w' h => OrdD.ints HXS.out HE2.out h
      have HC := Lib.hid hc; clear hc
      go_wp2_with fail
      refine HC.out.mono ?_; rintro e w8 ⟨⟨v, rfl, hv⟩, hb8⟩
      clear HC
      have hds : DeepS w2 w9 w8 v gs xs (List.replicate l.length 0) := ⟨HB9.out.trans (hb8.mono HB9.out.size), hb8.size, by have := HGS.out; omega, HW9.out.lt, hv, HW9.out.below hb8 HW9.out.lt⟩
      have HDS0 := Lib.hid hds; clear hds hv hb8 HR9 HW9 HB9 HGS
      dsimp only
      go_wp2_with fail
      go_loopw [8] (fun n wx => ∃ (k : Nat) (D : List Int), n = .int .i64 k ∧ k ≤ l.length ∧ D.length = l.length ∧ Deeps (T.take k) D ∧ (∀ (m : Nat), m ∉ T.take k → ∀ u, D[m]? = some u → u = 0) ∧ DeepS w2 w9 wx v gs xs D) (fun n _ => l.length - (intOf n).toNat)
      case atStart => exact ⟨0, _, rfl, Nat.zero_le _, List.length_replicate, Deeps.start _, fun m _ u hu => by rw [List.getElem?_replicate] at hu; split at hu <;> simp_all, HDS0.out⟩
      case round =>
        obtain ⟨wo, rfl⟩ : ∃ wo, wo = wr := ⟨_, rfl⟩
        obtain ⟨k, D, rfl, hk, hdl, hdp, hdz, hds⟩ := hrel
        obtain ⟨PA, pc, rfl⟩ := hds.len
        have HDL := Lib.hid hdl; have HDP := Lib.hid hdp; have HDZ := Lib.hid hdz; have HDS := Lib.hid hds; clear hdl hdp hdz hds HDS0
        by_cases hkl : k < l.length
        · have hkz : (k : Int) < (xs.length : Int) := by have := HTM.out; omega
          obtain ⟨m, hm⟩ : ∃ m, T[k]? = some m := ⟨_, List.getElem?_eq_getElem (by have := HTL.out; omega)⟩
          have hnx := nextO_lt (HOT.out k m hm)
          rw [nds_len] at hnx
          obtain ⟨hml, hmT, x0, hx0, hfed⟩ := hnx
          have hmz : (m : Int) < (l.length : Int) := by omega
          have hnode := HND.out m (by rw [nds_len]; exact hml)
          obtain ⟨x, hx, rfl⟩ : ∃ x, l[m]? = some x ∧ x.nd = x0 := by
            unfold nds at hx0
            rw [List.getElem?_map, Option.map_eq_some_iff] at hx0
            exact hx0
          have hmi : xs[k]? = some ((m : Nat) : Int) := by rw [HTT.out, List.getElem?_map, hm]; rfl
          obtain ⟨ab, ao, he, _, qa⟩ := HDS.out.at_ hmi
          cases he
          have hti := HG.out.ins hx
          have hil : x.nd.ins.length ≤ maxLen := Nat.le_trans (HG.out.ok hx).c.1 (HG.out.ok hx).c.2
          unfold maxLen at hil
          obtain ⟨b, o, rfl, hbl, hcl⟩ := HG.out.at_ hx
          obtain ⟨c0, c1, c2, c3, c4⟩ := hcl wo HDS.out.below
          have hdb := HDS.out.kept ((Below.refl _ wo).alloc (Nat.le_refl _) (.cells #[.int .u8 (x.nd.k : Nat), .int .u8 (x.nd.a : Nat), .int .i64 x.nd.b, .int .i64 x.nd.d, .slice x.A x.nd.ins.length x.c] 39))
          have hbx : Row (wo.alloc (.cells #[.int .u8 (x.nd.k : Nat), .int .u8 (x.nd.a : Nat), .int .i64 x.nd.b, .int .i64 x.nd.d, .slice x.A x.nd.ins.length x.c] 39)) wo.heap.size 39 (kindG.cells x) := Row.made wo _ _
          have hgx : gs < wo.heap.size := Nat.lt_of_lt_of_le HDS.out.hi HDS.out.size
          have HFED := Lib.hid hfed; have HTI := Lib.hid hti; have HM := Lib.hid hm; have HMI := Lib.hid hmi; have HNO := Lib.hid hnode; have HMT := Lib.hid hmT
          clear hm hmT hx0 hfed hx hmi hti hcl hnode
          have hGb := HG.out.below hdb.below
          have hc := chkNode_any _ l c (m : Nat) _ hGb (by have := HI.out.1; omega) (fun x hx => by have := HI.out.2 x hx; omega) HCC.out
          rw [HNO.out] at hc
          have HC := Lib.hid hc; have HDB := Lib.hid hdb; have HBX := Lib.hid hbx; clear hc hGb hdb hbx HNO
          go_wp2_with fail
          refine HC.out.mono ?_; rintro e w5 ⟨rfl, hb5⟩
          clear HC
          have hd5 := HDB.out.kept hb5
          have hb5 := HBX.out.below hb5 HBX.out.lt
          clear HDB HBX
          have HDI := Lib.hid hd5; have HBX := Lib.hid hb5; clear hd5 hb5 c0 c1 c2 c3 c4 qa
          dsimp only
          generalize wo.heap.size = gx at *
          go_wp2_with fail
          go_loopw [10] (fun j wx => ∃ (q : Nat) (D : List Int) (v : Int), j = .int .i64 q ∧ q ≤ x.nd.ins.length ∧ D.length = l.length ∧ Deeps (T.take k) D ∧ (∀ (m : Nat), m ∉ T.take (k + 1) → ∀ u, D[m]? = some u → u = 0) ∧ (D[m]? = some v ∧ 0 ≤ v ∧ v ≤ k) ∧ DeepS w2 w9 wx (.slice (some ⟨ab, 0, none⟩) xs.length pc) gs xs D ∧ Row wx gx 39 (kindG.cells x)) (fun j _ => x.nd.ins.length - (intOf j).toNat)
          case atStart =>
            obtain ⟨v, hv⟩ : ∃ v, D[m]? = some v := ⟨_, List.getElem?_eq_getElem (by have := HDL.out; omega)⟩
            have hv0 := HDZ.out m HMT.out v hv
            exact ⟨0, D, v, rfl, Nat.zero_le _, HDL.out, HDP.out, fun m' hm' u hu => HDZ.out m' (fun h => hm' (by rw [List.take_add_one]; exact List.mem_append_left _ h)) u hu, ⟨hv, by omega, by omega⟩, HDI.out, HBX.out⟩
          case round =>
            obtain ⟨wi, rfl⟩ : ∃ wi, wi = wr := ⟨_, rfl⟩
            clear HDL HDP HDZ HDS HDI HBX D
            obtain ⟨q, D, v, rfl, hq, hdl, hdp, hdz, ⟨hv, hv0, hv1⟩, hds, hbx⟩ := hrel
            have f0 : wi.cell? ⟨gx, 0, none⟩ = some (.int .u8 (x.nd.k : Nat)) := hbx.cell 0
            have f4 : wi.cell? ⟨gx, 4, none⟩ = some (.slice x.A x.nd.ins.length x.c) := hbx.cell 4
            obtain ⟨ab', ao', he, hab, qa⟩ := hds.at_ HMI.out
            cases he
            obtain ⟨d1, d2⟩ := hds.num hv
            have HDL := Lib.hid hdl; have HDP := Lib.hid hdp; have HDZ := Lib.hid hdz; have HDS := Lib.hid hds; have HBX := Lib.hid hbx; have HV := Lib.hid hv; clear hdl hdp hdz hds hbx hv
            by_cases hql : q < x.nd.ins.length
            · have hqz : (q : Int) < (x.nd.ins.length : Int) := by omega
              by_cases h9 : x.nd.k = 9
              · have h9z : (((x.nd.k : Nat) : Int) != 9) = false := by simp; omega
                clear h9
                go_wp2_with fail
                go_roundw
                case rel => exact ⟨q + 1, D, v, by simp, by omega, HDL.out, HDP.out, HDZ.out, ⟨HV.out, hv0, hv1⟩, HDS.out, HBX.out⟩
                case measure => simp only [intOf]; omega
              · have h9z : (((x.nd.k : Nat) : Int) != 9) = true := by simp; omega
                obtain ⟨z, hz⟩ : ∃ z, x.nd.ins[q]? = some z := ⟨_, List.getElem?_eq_getElem hql⟩
                have hzz : 0 ≤ z ∧ z.toNat ∈ T.take k := by
                  rcases HFED.out with h | h
                  · exact absurd h h9
                  · exact h z (List.mem_of_getElem? hz)
                obtain ⟨Z, rfl⟩ : ∃ Z : Nat, z = (Z : Int) := Int.eq_ofNat_of_zero_le hzz.1
                have hZT : Z ∈ T.take k := by have := hzz.2; rwa [Int.toNat_natCast] at this
                have hZl : Z < l.length := by
                  have := HOT.out.lt Z (List.mem_of_mem_take hZT)
                  rw [nds_len] at this; exact this
                have hZz : (Z : Int) < (l.length : Int) := by omega
                have hDz : (Z : Int) < (D.length : Int) := by have := HDL.out; omega
                obtain ⟨u, hu, hu0, hu1⟩ := HDP.out.mem hZT
                rw [List.length_take, Nat.min_eq_left (by have := HTL.out; omega)] at hu1
                obtain ⟨e1, e2⟩ := HDS.out.num hu
                obtain ⟨ib, io, hXA, _, hqq⟩ := ints_at HTI.out hz
                have q1 := hqq wi HDS.out.below
                rw [hXA] at f4
                have hwr : IntKind.i64.wrap (u + 1) = u + 1 := by rw [show u = ((u.toNat : Nat) : Int) by omega]; simp [IntKind.wrap, IntKind.bits]; omega
                clear h9 hz hzz hZT hqq hXA hu
                go_wp2_with fail
                go_region
                obtain ⟨y, hy⟩ : ∃ y, (if v < u + 1 then u + 1 else v) = y := ⟨_, rfl⟩
                have hy0 : 0 ≤ y ∧ y ≤ k := by rw [← hy]; split <;> omega
                rw [hy]
                have HDN := Lib.hid ((HDS.out.set m y).kept ((Below.refl _ _).drew))
                have HBN := Lib.hid (((HBX.out.far (p := ⟨gs, m, none⟩) (by simp only; omega) (.int .i64 y)).drew))
                generalize (wi.setCell ⟨gs, m, none⟩ (.int .i64 y)).drew = wn at *
                clear hy
                go_wp2_with fail
                go_roundw
                case rel =>
                  refine ⟨q + 1, D.set m y, y, by simp, by omega, by rw [List.length_set]; exact HDL.out, HDP.out.set HMT.out y, fun m' hm' t ht => ?_, ⟨by rw [List.getElem?_set_self (by have := HDL.out; omega)], hy0⟩, HDN.out, HBN.out⟩
                  have hne : m ≠ m' := fun e => hm' (by rw [List.take_add_one, HM.out, ← e]; simp)
                  rw [List.getElem?_set_ne hne] at ht
                  exact HDZ.out m' hm' t ht
                case measure => simp only [intOf]; omega
            · have hqz : ¬ (q : Int) < (x.nd.ins.length : Int) := by omega
              have hvz : ¬ (k : Int) < v := by omega
              go_wp2_with fail
              go_roundw
              case rel =>
                refine ⟨k + 1, D, by simp, by omega, HDL.out, ?_, HDZ.out, HDS.out⟩
                rw [List.take_add_one, HM.out]
                exact HDP.out.snoc HV.out hv0 (by rw [List.length_take, Nat.min_eq_left (by have := HTL.out; omega)]; exact hv1)
              case measure => simp only [intOf]; omega
        · have hkz : ¬ (k : Int) < (xs.length : Int) := by have := HTM.out; omega
          have HBW := Lib.hid (Hb.out.trans (HDS.out.below.mono Hb.out.size))
          have HCW := Lib.hid (chkWorks_any wo (HT.out.below HDS.out.below))
          go_wp2_with fail
          refine HCW.out.mono ?_; rintro e w7 ⟨rfl, hb8⟩
          have HBZ := Lib.hid (HBW.out.trans (hb8.mono HBW.out.size)); clear hb8
          dsimp only
          go_wp2_with fail
          go_ret
          exact ⟨rfl, HBZ.out⟩
    · skip
      have hez : (E != 0) = true := by simpa using hz
      clear hN hE hz
      have hc := chkWorks_any w2 HT.out
      have HC := Lib.hid hc; clear hc
      go_wp2_with fail
      refine HC.out.mono ?_; rintro e w3 ⟨rfl, hb⟩
      clear HC
      have h := HG.out.below hb; clear HG; have HG := Lib.hid h; clear h
      have h := HT.out.below hb; clear HT; have HT := Lib.hid h; clear h
      have h := Hb.out.trans (hb.mono Hb.out.size); clear Hb hb; have Hb := Lib.hid h; clear h
      dsimp only
      go_wp2_with fail
      go_ret
      exact ⟨rfl, Hb.out⟩

set_option maxRecDepth 100000 in
theorem lifted (os : Os) (started : os.Started) (H : Type) (enc : TypeId × Value → H) :
    ReturnsInHanded {} Tryd.checked os 7 .any (fun w args => (Rows.checkPartsSpec.pre enc Tryd.prog Tryd.f7 [] false w args ∧ laidMetH Tryd.prog laidT w) ∧ sizedMet enc Tryd.prog Tryd.f7 (OpenSpec.ofChange Rows.checkPartsSpec) false w args) (Rows.checkPartsSpec.post enc Tryd.prog Tryd.f7 false true false false) := by
  refine returnsInHanded_of_change_and (C := Tryd.checked) (X := fun w _ => laidMetH Tryd.prog laidT w) (fun _ _ _ hh h => h.of_heap hh) ownKnob_none started (by kernel_rfl) Tryd.func7
    (ChangeSpec.witness_shaped (enc := enc) (C := Tryd.checked) (os := os) (X := fun w _ => laidMetH Tryd.prog laidT w) false (World.doorLaid Tryd.prog 400 os) #[.slice none 0 0] 8 rfl (World.shaped_of_RefB (by kernel_rfl) (by kernel_rfl)) (by kernel_rfl) (by kernel_rfl) (by kernel_rfl) (door_met os _)) ?_
  intro W base args ds gs before hval0 hW hcnd hsz0 hL _
  have hTab := tab_of_laid hL
  have hval : ∀ (j : Nat) t v, Tryd.f7.params[j]? = some t → args[j]? = some v → Value.okWide Tryd.prog W .any base t v := hval0
  have hW' := hW
  obtain ⟨p, q, hA0, hV, rfl, hfz, hnd⟩ := hW
  have hA : DataW.TrodAll enc Tryd.prog W 0 (fun _ => true) true Tryd.f7.params.toList args.toList ds p := hA0
  have hsz : (DataW.weightsEach Tryd.prog (Tryd.f7.params.toList ++ Rows.checkPartsSpec.plain.varTypes Tryd.prog) (ds ++ gs)).all (· ≤ reachBytes) = true := hsz0
  rw [Tryd.params7] at hA hval hsz
  obtain ⟨v0, vs0, d0, ds0, p0, q0, hargs, rfl, rfl, h0, r0⟩ := trodAll_cons hA
  obtain ⟨rfl, rfl, rfl⟩ := trodAll_nil r0
  obtain rfl : args = #[v0] := by cases args; simp_all
  obtain ⟨rfl, rfl⟩ := trodVars_none hV
  obtain ⟨A0, l0, c0, rfl, hG0, hgc0, hgm0, hgn0⟩ := open_graph (hval 0 23 v0 rfl rfl) h0
  clear hA0 hval0 hsz0
  refine (walk A0 l0 c0 W hTab hG0 (Nat.le_trans hgc0 hgm0) ⟨hgc0, hgm0⟩).mono fun e W' ⟨he, hg⟩ => ?_
  subst he
  exact ⟨_, rfl, law_post progLaid hW' rfl (by rw [Tryd.params7]; intro t ht; simp at ht; subst ht; exact ⟨by kernel_rfl, of_decide_eq_true (by kernel_rfl)⟩) rfl Tryd.underlying4 rfl hg⟩

theorem over : Rows.checkPartsRow.holds Tryd.pinned (OpenSpec.ofChange Rows.checkPartsSpec) :=
  OpenClaim.holds_of_wide 7 Tryd.f7 rfl rfl rfl rfl rfl rfl rfl ⟨rfl, rfl, rfl, rfl, rfl⟩ rfl rfl rfl rfl rfl (by kernel_rfl) Tryd.func7 (by kernel_rfl)
    (of_decide_eq_true (by kernel_rfl)) (by unfold Func.isWrapper; first | (rw [if_pos (by decide +kernel)]; kernel_rfl) | (rw [if_neg (by decide +kernel)]; exact ⟨rfl, rfl⟩))
    (fun os started H enc _ => lifted os started H enc)

/-- The statement. -/
theorem proved : Rows.CheckPartsCardSaid :=
  Claim7.holds_tied_plain_at .later [] [.data] true Rows.checkPartsCard.stood.harness false over (fun _ h => by cases h) (by kernel_rfl) (fun _ h => by cases h) checkParts_row_tie rfl ⟨rfl, rfl⟩ (by kernel_rfl) rfl
    (fun f fn hf hfn => by
      obtain rfl : f = 7 := Option.some.inj ((show Tryd.prog.funcNamed "tailrace/tailracelaw10.CheckParts" = some 7 by kernel_rfl).symm.trans hf) |>.symm
      obtain rfl : fn = Tryd.f7 := (Option.some.inj (Tryd.func7.symm.trans hfn)).symm
      refine ⟨by kernel_rfl, fun j t ht => ?_⟩
      rw [Tryd.params7] at ht
      have hm := Array.mem_of_getElem? ht
      simp only [List.mem_toArray, List.mem_cons, List.not_mem_nil, or_false] at hm
      first
        | (subst hm; exact si_graph)
        | (rcases hm with rfl | rfl <;> first | exact si_graph | exact si_int | exact si_u8)
        | (rcases hm with rfl | rfl | rfl <;> first | exact si_graph | exact si_int | exact si_u8)
        | cases hm)
    (by kernel_rfl)
end checkParts
end Go.Proofs.YtocdganglokplaaDoor
