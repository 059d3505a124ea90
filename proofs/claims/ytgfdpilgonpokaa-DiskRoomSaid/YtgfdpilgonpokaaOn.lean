/- On. -/
import Derived.Test.YtgfdpilgonpokaaOnF
namespace Go.Proofs.Ytgfdpilgonpokaa
open Go.ChangeShapes Go.WideShapes Go.ChangeAt Go.RowKit Go.BigFrame Go.Maps Go.Sort
set_option linter.unusedVariables false
/-- a slice of whole numbers -/
def IntsAt (w : World) (A : Option Addr) (ks : List Int) : Prop :=
  (∀ z ∈ ks, -9223372036854775808 ≤ z ∧ z ≤ 9223372036854775807) ∧ (0 < ks.length → ∃ b off, A = some ⟨b, off, none⟩ ∧ b < w.heap.size ∧ ∀ (j : Nat) (z : Int), ks[j]? = some z → w.cell? ⟨b, off + j, none⟩ = some (.int .i64 z))
section
variable {w w' : World} {F : Nat → Prop} {fs : Fs} {g : Nm → Nat} {v : Nm → Value} {n : Nm} {x y : Fil} {p r u dd f : Nat} {m : Option Nat} {o : Bool} {d : DM}
theorem IntsAt.touch {A : Option Addr} {ks : List Int} {G : Nat → Prop} (h : IntsAt w A ks) (ht : Touch G w w') (hG : ∀ ad, A = some ad → 0 < ks.length → ¬ G ad.block) : IntsAt w' A ks :=
  ⟨h.1, fun h0 => by
    obtain ⟨b, off, e, hlt, hc⟩ := h.2 h0
    refine ⟨b, off, e, Nat.lt_of_lt_of_le hlt ht.size, fun j z hj => ?_⟩
    rw [← hc j z hj]
    exact World.cell?_of_block (ht.block b hlt (hG _ e h0))⟩
theorem Kept.step {w1 w2 w3 : World} {fs' : Fs} (h : Kept F p r dd f o m fs g w1 w2) (h' : Kept (Ext F w1 w2) p r dd f o m fs' g w2 w3) : Kept F p r dd f o m fs' g w1 w3 := by
  obtain ⟨v1, h1, h2, h3⟩ := h
  obtain ⟨v2, k1, k2, k3⟩ := h'
  exact ⟨v2, k1, k2.mono (Ext.step h3.size k3.size), h3.ext k3⟩
set_option maxRecDepth 100000 in
set_option maxHeartbeats 4000000 in
theorem on_gone (h : Row w p TD (dcells r (usedF fs) m dd true f)) (hH : Held w F p m fs g v) (hFb : ∀ k, F k → k < w.heap.size) (A : Option Addr) (ks : List Int) (c : Nat) (hK : IntsAt w A ks) (hc : ks.length ≤ c) (hcm : c ≤ 9223372036854775807)
    (hKF : ∀ ad, A = some ad → 0 < ks.length → ¬ F ad.block) (hu : usedF fs ≤ 9223372036854775807) (hl : fs.length ≤ 1000000000) :
    Calls Try.prog 16 #[.pointer (some ⟨p, 0, none⟩), .slice A ks.length c] w fun e w' => e = .returned (.tuple #[]) ∧ Kept F p r dd 0 false m (onF (wishOf ks) 0 fs) g w w' := by
  obtain ⟨h0, h1, h2, h3, h4, h5⟩ := drow h
  have hz := h.free
  have hr1 : Row ((w.setCell ⟨p, 5, none⟩ (.int .u64 0)).setCell ⟨p, 4, none⟩ (.bool false)) p TD (dcells r (usedF fs) m dd false 0) := (h.put 5 (.int .u64 0)).put 4 (.bool false)
  have ht1 : Touch (· = p) w ((w.setCell ⟨p, 5, none⟩ (.int .u64 0)).setCell ⟨p, 4, none⟩ (.bool false)) := ((Touch.refl (· = p) w).setCell (p := ⟨p, 5, none⟩) (.inl rfl) _).setCell (p := ⟨p, 4, none⟩) (.inl rfl) _
  have hsz1 : ((w.setCell ⟨p, 5, none⟩ (.int .u64 0)).setCell ⟨p, 4, none⟩ (.bool false)).heap.size = w.heap.size := by simp
  have hH1 := hH.own h ht1
  have hK1 := hK.touch ht1 (fun ad e h0 e2 => hKF ad e h0 (e2 ▸ hH.memp))
  have hnm := names_any hr1 hH1.map hH1.ok.sort hl
  have HH := Lib.hid hH; have HFb := Lib.hid hFb; have HKF := Lib.hid hKF; have Hr1 := Lib.hid hr1; have Ht1 := Lib.hid ht1; have HH1 := Lib.hid hH1; have HK1 := Lib.hid hK1; have HNm := Lib.hid hnm; have HSz := Lib.hid hsz1
  clear hH hFb hKF hr1 ht1 hH1 hK1 hnm h hK hsz1
  go_enter Try.func16, Try.ntmps16
  go_wp2_with fail
  have hgen : ∃ W, W = (w.setCell ⟨p, 5, none⟩ (.int .u64 0)).setCell ⟨p, 4, none⟩ (.bool false) := ⟨_, rfl⟩
  obtain ⟨W, hW⟩ := hgen
  rw [← hW] at Hr1 Ht1 HH1 HK1 HNm HSz ⊢
  clear hW
  refine (HNm.out).mono ?_; rintro e w2 ⟨nv, rfl, hown, hbl⟩
  have ht2 : Touch F w w2 := (Ht1.out.mono (by rintro i rfl; exact HH.out.memp)).trans (Touch.of_below hbl)
  have hr2 : Row w2 p TD (dcells r (usedF fs) m dd false 0) := Hr1.out.below hbl Hr1.out.lt
  have hH2 : Held w2 F p m fs g v := HH1.out.touch (Touch.of_below (F := fun _ => False) hbl) (by simp)
  have hK2 : IntsAt w2 A ks := HK1.out.touch (Touch.of_below (F := fun _ => False) hbl) (by simp)
  have hpn : ∀ gn, nv.ownBlock = some gn → w.heap.size ≤ gn := fun gn hgn => by have := (hown.lt gn hgn).1; have := HSz.out; omega
  obtain ⟨AN, cn, hnv, hncap⟩ : ∃ AN cn, nv = .slice AN fs.length cn ∧ cn ≤ 9223372036854775807 := by
    obtain ⟨_, ⟨e1, e2⟩ | ⟨g9, cap9, cur9, e1, _, _, _, e5, _⟩⟩ := id hown
    · exact ⟨none, 0, by rw [e1, e2], by omega⟩
    · exact ⟨_, _, e1, by unfold maxLen at e5; exact e5⟩
  subst hnv
  have HOwn := Lib.hid hown; have HT2 := Lib.hid ht2; have HH2 := Lib.hid hH2; have HR2 := Lib.hid hr2; have HK2 := Lib.hid hK2; have HPN := Lib.hid hpn
  clear hown ht2 hH2 hr2 hK2 hbl hpn h0 h1 h2 h3 h4 h5 hz
  go_wp2_with fail
  go_loopw [4, 5, 6, 23] (fun _ _ _ i wr => ∃ k : Nat, k ≤ fs.length ∧ i = .int .i64 k ∧ Kept F p r dd 0 false m (midF (wishOf ks) fs k) g w2 wr) (fun _ _ _ i _ => fs.length - (intOf i).toNat)
  case atStart => exact ⟨0, Nat.zero_le _, rfl, v, by rw [mid_zero]; exact HR2.out, by rw [mid_zero]; exact HH2.out.mono (fun k hk => .inl hk), Touch.refl _ _⟩
  case round =>
    obtain ⟨k, hk, rfl, hkept⟩ := hrel
    by_cases hlt : k < fs.length
    · obtain ⟨v', hr, hHr, htr⟩ := id hkept
      have hget := mid_get (W := wishOf ks) HH.out.ok.sort hlt
      have hstep := mid_step (W := wishOf ks) HH.out.ok.sort hlt
      have hname : fs[k].1.length ≤ 128 := (HH.out.ok.name fs[k].1 fs[k].2 (getF_of_mem HH.out.ok.sort (List.getElem_mem hlt))).2
      obtain ⟨nm, hnm⟩ : ∃ nm, nm = fs[k].1 := ⟨_, rfl⟩
      rw [← hnm] at hget hstep hname
      obtain ⟨s, hs⟩ : ∃ s : ByteArray, s = ⟨nm.toArray⟩ := ⟨_, rfl⟩
      have hsd : s.data.toList = nm := by rw [hs]
      have hss : s.size ≤ 9223372036854775807 := by
        have : s.size = nm.length := by rw [hs]; show nm.toArray.size = _; simp
        omega
      -- the name's cell
      obtain ⟨gn, hgn⟩ : ∃ gn, AN = some ⟨gn, 0, none⟩ := by
        obtain ⟨_, ⟨_, e2⟩ | ⟨g9, cap9, cur9, e1, _⟩⟩ := id HOwn.out
        · omega
        · injection e1 with e1; exact ⟨g9, e1⟩
      subst hgn
      have hgnF : ¬ F gn := fun e => by have := HFb.out _ e; have := HPN.out gn rfl; omega
      have hcell : wr.cell? ⟨gn, k, none⟩ = some (.string s) := by
        have h1 := HOwn.out.cells (g := gn) rfl k (.string s) (by unfold nameRow; rw [List.getElem?_map, List.getElem?_eq_getElem hlt, hs, hnm]; rfl)
        rw [add_zero_off] at h1
        rw [← h1]
        exact World.cell?_of_block (htr.block gn (HOwn.out.lt gn rfl).2 hgnF)
      have hus : usedF (midF (wishOf ks) fs k) ≤ 9223372036854775807 := by
        have := usedF_mid (W := wishOf ks) (k := k) HH.out.ok; omega
      -- the wish
      have hwr : -9223372036854775808 ≤ wishOf ks k ∧ wishOf ks k ≤ 9223372036854775807 := by
        unfold wishOf
        rw [List.getD_eq_getElem?_getD]
        cases hz : ks[k]? with
        | none => simp
        | some z => exact HK2.out.1 z (List.mem_of_getElem? hz)
      have hst := stay_any (fs := midF (wishOf ks) fs k) hr hHr s hss (by rw [hsd]; exact hget) (wishOf ks k) hwr hus
      rw [hsd, hstep] at hst
      have HST := Lib.hid hst; have HKept := Lib.hid hkept
      by_cases hkk : k < ks.length
      · obtain ⟨b, off, hA, hbl, hci⟩ := HK2.out.2 (by omega)
        have hz := hci k ks[k] (List.getElem?_eq_getElem hkk)
        have hkc : wr.cell? ⟨b, off + k, none⟩ = some (.int .i64 (wishOf ks k)) := by
          rw [show wishOf ks k = ks[k] by unfold wishOf; simp [List.getD_eq_getElem?_getD, hkk]]
          rw [← hz]
          exact World.cell?_of_block (htr.block b hbl (HKF.out _ hA (by omega)))
        subst hA
        obtain ⟨z, hzz⟩ : ∃ z, z = wishOf ks k := ⟨_, rfl⟩
        rw [← hzz] at hkc HST
        clear hst hkept hr hHr htr hget hstep hname hnm hs hsd hss hgnF hus hwr hz hci hzz
        go_wp2_with fail
        refine (HST.out).mono ?_; rintro e w3 ⟨rfl, h3⟩
        have H3 := Lib.hid (Kept.step HKept.out h3); clear h3
        go_wp2_with fail
        go_roundw
        case rel => exact ⟨k + 1, by omega, by go_num, H3.out⟩
        case measure => simp [intOf]; omega
      · have hz0 : wishOf ks k = 0 := by unfold wishOf; rw [List.getD_eq_getElem?_getD, List.getElem?_eq_none (by omega)]; rfl
        rw [hz0] at HST
        clear hst hkept hr hHr htr hget hstep hname hnm hs hsd hss hgnF hus hwr hz0
        go_wp2_with fail
        refine (HST.out).mono ?_; rintro e w3 ⟨rfl, h3⟩
        have H3 := Lib.hid (Kept.step HKept.out h3); clear h3
        go_wp2_with fail
        go_roundw
        case rel => exact ⟨k + 1, by omega, by go_num, H3.out⟩
        case measure => simp [intOf]; omega
    · have hkept2 := hkept
      rw [show k = fs.length by omega, mid_all] at hkept2
      have HK9 := Lib.hid hkept2; clear hkept hkept2
      go_wp2
      go_end0
      obtain ⟨v', h1, h2, h3⟩ := HK9.out
      exact ⟨rfl, v', h1, h2.mono (Ext.from HT2.out.size), HT2.out.trans h3⟩
end
end Go.Proofs.Ytgfdpilgonpokaa
