/- Several texts in one: OnF, On, On2, Conv. -/
import Derived.Test.YtiagoaaldpajmaaVl
import Derived.Test.YtiagoaaldpajmaaVa
import Derived.Test.YtiagoaaldpajmaaVe
import Derived.Laws.IdiomStrings
import Derived.Laws.Strings
namespace Go.Proofs.Ytiagoaaldpajmaa
set_option linter.unusedVariables false
def stays (p : Nm × Fil) (wish : Int) : Fs := match stay1 p.2 wish with | some y => [(p.1, y)] | none => []
def onF (W : Nat → Int) : Nat → Fs → Fs
  | _, [] => []
  | i, p :: r => stays p (W i) ++ onF W (i + 1) r
def midF (W : Nat → Int) (fs : Fs) (k : Nat) : Fs := onF W 0 (fs.take k) ++ fs.drop k
theorem onF_append (W : Nat → Int) : ∀ (l : Fs) (i : Nat) (p : Nm × Fil), onF W i (l ++ [p]) = onF W i l ++ stays p (W (i + l.length))
  | [], i, p => by simp [onF]
  | q :: r, i, p => by
    simp only [List.cons_append, onF, onF_append W r (i + 1) p, List.length_cons, List.append_assoc]
    rw [show i + 1 + r.length = i + (r.length + 1) by omega]
theorem onF_mem (W : Nat → Int) : ∀ (l : Fs) (i : Nat) (q : Nm × Fil), q ∈ onF W i l → ∃ x, (q.1, x) ∈ l
  | [], _, _, h => by simp [onF] at h
  | p :: r, i, q, h => by
    simp only [onF, List.mem_append] at h
    rcases h with h | h
    · unfold stays at h
      split at h
      · simp at h; exact ⟨p.2, by rw [h]; simp⟩
      · simp at h
    · obtain ⟨x, hx⟩ := onF_mem W r (i + 1) q h
      exact ⟨x, by simp [hx]⟩
section
variable {A R : Fs} {n : Nm} {x y : Fil}
theorem del_mid (hA : ∀ a ∈ A, bytesBefore a.1 n = true) (hR : ∀ a ∈ R, bytesBefore n a.1 = true) : delF n (A ++ (n, x) :: R) = A ++ R := by
  have h1 : delF n A = A := by unfold delF; rw [List.filter_eq_self]; intro a ha; simpa using bb_ne (hA a ha)
  have h2 : delF n R = R := by unfold delF; rw [List.filter_eq_self]; intro a ha; simpa using Ne.symm (bb_ne (hR a ha))
  unfold delF at h1 h2 ⊢
  rw [List.filter_append, List.filter_cons, h1, h2]
  simp
theorem ins_mid (hA : ∀ a ∈ A, bytesBefore a.1 n = true) (hR : ∀ a ∈ R, bytesBefore n a.1 = true) : insF (n, y) (A ++ R) = A ++ (n, y) :: R := by
  induction A with
  | nil =>
    cases R with
    | nil => rfl
    | cons a r => simp [insF, hR a (by simp)]
  | cons a A ih =>
    have h1 : ¬ bytesBefore n a.1 = true := fun e => by
      have := bb_trans e (hA a (by simp)); rw [bb_irrefl] at this; cases this
    rw [List.cons_append, insF, if_neg h1, ih (fun b hb => hA b (by simp [hb]))]
    rfl
theorem put_mid (hA : ∀ a ∈ A, bytesBefore a.1 n = true) (hR : ∀ a ∈ R, bytesBefore n a.1 = true) : putF n y (A ++ (n, x) :: R) = A ++ (n, y) :: R := by
  unfold putF; rw [del_mid hA hR, ins_mid hA hR]
theorem get_mid (hA : ∀ a ∈ A, bytesBefore a.1 n = true) : getF n (A ++ (n, x) :: R) = some x := by
  unfold getF
  rw [List.find?_append]
  have : A.find? (fun p => p.1 == n) = none := by
    rw [List.find?_eq_none]; intro a ha; simpa using bb_ne (hA a ha)
  rw [this]; simp
end
section
variable {fs : Fs} {W : Nat → Int} {k : Nat}
theorem split_at (hS : SortF fs) (hk : k < fs.length) : (∀ a ∈ onF W 0 (fs.take k), bytesBefore a.1 fs[k].1 = true) ∧ (∀ a ∈ fs.drop (k + 1), bytesBefore fs[k].1 a.1 = true) := by
  have h1 : fs = fs.take k ++ fs[k] :: fs.drop (k + 1) := by rw [← List.drop_eq_getElem_cons hk, List.take_append_drop]
  unfold SortF at hS
  rw [h1, List.pairwise_append, List.pairwise_cons] at hS
  obtain ⟨_, ⟨h3, _⟩, h4⟩ := hS
  refine ⟨fun a ha => ?_, fun a ha => h3 a ha⟩
  obtain ⟨x, hx⟩ := onF_mem W _ _ _ ha
  exact h4 _ hx fs[k] List.mem_cons_self
theorem mid_eq (hk : k < fs.length) : midF W fs k = onF W 0 (fs.take k) ++ (fs[k].1, fs[k].2) :: fs.drop (k + 1) := by
  unfold midF; rw [List.drop_eq_getElem_cons hk]
theorem mid_get (hS : SortF fs) (hk : k < fs.length) : getF fs[k].1 (midF W fs k) = some fs[k].2 := by
  rw [mid_eq hk]; exact get_mid (split_at hS hk).1
theorem mid_step (hS : SortF fs) (hk : k < fs.length) : stayF fs[k].1 (W k) (midF W fs k) = midF W fs (k + 1) := by
  obtain ⟨hA, hR⟩ := split_at (W := W) hS hk
  have hm : midF W fs (k + 1) = onF W 0 (fs.take k) ++ stays fs[k] (W k) ++ fs.drop (k + 1) := by
    unfold midF
    rw [List.take_succ_eq_append_getElem hk, onF_append]
    simp [Nat.min_eq_left (Nat.le_of_lt hk)]
  unfold stayF
  rw [mid_get hS hk, hm, mid_eq hk]
  show (match stay1 fs[k].2 (W k) with | some y => putF fs[k].1 y (onF W 0 (fs.take k) ++ (fs[k].1, fs[k].2) :: fs.drop (k + 1)) | none => delF fs[k].1 (onF W 0 (fs.take k) ++ (fs[k].1, fs[k].2) :: fs.drop (k + 1))) = _
  unfold stays
  cases stay1 fs[k].2 (W k) with
  | some y => simp only [put_mid hA hR]; simp
  | none => simp only [del_mid hA hR]; simp
theorem usedF_app (A R : Fs) : usedF (A ++ R) = usedF A + usedF R := by
  induction A with
  | nil => simp [usedF]
  | cons a A ih => simp only [List.cons_append, usedF, ih]; omega
theorem usedF_on (h : ∀ p ∈ fs, p.2.sure ≤ p.2.b.length) : ∀ i, usedF (onF W i fs) ≤ usedF fs := by
  induction fs with
  | nil => intro i; simp [onF]
  | cons p r ih =>
    intro i
    have h1 := ih (fun q hq => h q (by simp [hq])) (i + 1)
    have h2 : usedF (stays p (W i)) ≤ p.2.b.length := by
      unfold stays stay1
      by_cases hh : stayN p.2 (W i) = 0 ∧ p.2.made = false
      · simp only [if_pos hh]; simp [usedF]
      · simp only [if_neg hh]; simp [usedF, cutF]; omega
    simp only [onF, usedF_app, usedF]
    omega
theorem usedF_mid (h : OkFs fs) : usedF (midF W fs k) ≤ usedF fs := by
  have hs : ∀ p ∈ fs, p.2.sure ≤ p.2.b.length := fun p hp => h.sure p.1 p.2 (getF_of_mem h.sort hp)
  have h1 := usedF_on (W := W) (fs := fs.take k) (fun p hp => hs p (List.mem_of_mem_take hp)) 0
  have h2 : usedF (fs.take k) + usedF (fs.drop k) = usedF fs := by rw [← usedF_app, List.take_append_drop]
  unfold midF
  rw [usedF_app]; omega
theorem mid_zero : midF W fs 0 = fs := by simp [midF, onF]
theorem mid_all : midF W fs fs.length = onF W 0 fs := by simp [midF]
end
/-- how much is wished of the k-th file -/
def wishOf (ks : List Int) (k : Nat) : Int := ks.getD k 0
def onD (d : DM) (ks : List Int) : DM := if d.off = true then ⟨d.room, onF (wishOf ks) 0 d.fs, d.deeds, false, 0⟩ else { d with fuse := 0 }
end Go.Proofs.Ytiagoaaldpajmaa
namespace Go.Proofs.Ytiagoaaldpajmaa
open Go.ChangeShapes Go.WideShapes Go.ChangeAt Go.RowKit Go.BigFrame Go.Maps Go.Sort
set_option linter.unusedVariables false
/-- a slice of whole numbers -/
def IntsAt (w : World) (A : Option Addr) (ks : List Int) : Prop :=
  (∀ z ∈ ks, -9223372036854775808 ≤ z ∧ z ≤ 9223372036854775807) ∧ (0 < ks.length → ∃ b off, A = some ⟨b, off, none⟩ ∧ b < w.heap.size ∧ ∀ (j : Nat) (z : Int), ks[j]? = some z → w.cell? ⟨b, off + j, none⟩ = some (.int .i64 z))
section
variable {w w' : World} {F : Nat → Prop} {fs : Fs} {g : Nm → Nat} {v : Nm → Value} {n : Nm} {x y : Fil} {p r u dd f : Nat} {m : Option Nat} {o : Bool} {d : DM}
theorem IntsAt.touch {A : Option Addr} {ks : List Int} {G : Nat → Prop} (h : IntsAt w A ks) (ht : Touch G w w') (hG : ∀ ad, A = some ad → 0 < ks.length → ¬ G ad.block) : IntsAt w' A ks :=
  ⟨h.1, fun h0 => by
    obtain ⟨b, off, e, hlt, hc⟩ := h.2 h0
    refine ⟨b, off, e, Nat.lt_of_lt_of_le hlt ht.size, fun j z hj => ?_⟩
    rw [← hc j z hj]
    exact World.cell?_of_block (ht.block b hlt (hG _ e h0))⟩
theorem Kept.step {w1 w2 w3 : World} {fs' : Fs} (h : Kept F p r dd f o m fs g w1 w2) (h' : Kept (Ext F w1 w2) p r dd f o m fs' g w2 w3) : Kept F p r dd f o m fs' g w1 w3 := by
  obtain ⟨v1, h1, h2, h3⟩ := h
  obtain ⟨v2, k1, k2, k3⟩ := h'
  exact ⟨v2, k1, k2.mono (Ext.step h3.size k3.size), h3.ext k3⟩
set_option maxRecDepth 100000 in
set_option maxHeartbeats 4000000 in
theorem on_gone (h : Row w p TD (dcells r (usedF fs) m dd true f)) (hH : Held w F p m fs g v) (hFb : ∀ k, F k → k < w.heap.size) (A : Option Addr) (ks : List Int) (c : Nat) (hK : IntsAt w A ks) (hc : ks.length ≤ c) (hcm : c ≤ 9223372036854775807)
    (hKF : ∀ ad, A = some ad → 0 < ks.length → ¬ F ad.block) (hu : usedF fs ≤ 9223372036854775807) (hl : fs.length ≤ 1000000000) :
    Calls Try.prog 16 #[.pointer (some ⟨p, 0, none⟩), .slice A ks.length c] w fun e w' => e = .returned (.tuple #[]) ∧ Kept F p r dd 0 false m (onF (wishOf ks) 0 fs) g w w' := by
  obtain ⟨h0, h1, h2, h3, h4, h5⟩ := drow h
  have hz := h.free
  have hr1 : Row ((w.setCell ⟨p, 5, none⟩ (.int .u64 0)).setCell ⟨p, 4, none⟩ (.bool false)) p TD (dcells r (usedF fs) m dd false 0) := (h.put 5 (.int .u64 0)).put 4 (.bool false)
  have ht1 : Touch (· = p) w ((w.setCell ⟨p, 5, none⟩ (.int .u64 0)).setCell ⟨p, 4, none⟩ (.bool false)) := ((Touch.refl (· = p) w).setCell (p := ⟨p, 5, none⟩) (.inl rfl) _).setCell (p := ⟨p, 4, none⟩) (.inl rfl) _
  have hsz1 : ((w.setCell ⟨p, 5, none⟩ (.int .u64 0)).setCell ⟨p, 4, none⟩ (.bool false)).heap.size = w.heap.size := by simp
  have hH1 := hH.own h ht1
  have hK1 := hK.touch ht1 (fun ad e h0 e2 => hKF ad e h0 (e2 ▸ hH.memp))
  have hnm := names_any hr1 hH1.map hH1.ok.sort hl
  have HH := Lib.hid hH; have HFb := Lib.hid hFb; have HKF := Lib.hid hKF; have Hr1 := Lib.hid hr1; have Ht1 := Lib.hid ht1; have HH1 := Lib.hid hH1; have HK1 := Lib.hid hK1; have HNm := Lib.hid hnm; have HSz := Lib.hid hsz1
  clear hH hFb hKF hr1 ht1 hH1 hK1 hnm h hK hsz1
  go_enter Try.func16, Try.ntmps16
  go_wp2_with fail
  have hgen : ∃ W, W = (w.setCell ⟨p, 5, none⟩ (.int .u64 0)).setCell ⟨p, 4, none⟩ (.bool false) := ⟨_, rfl⟩
  obtain ⟨W, hW⟩ := hgen
  rw [← hW] at Hr1 Ht1 HH1 HK1 HNm HSz ⊢
  clear hW
  refine (HNm.out).mono ?_; rintro e w2 ⟨nv, rfl, hown, hbl⟩
  have ht2 : Touch F w w2 := (Ht1.out.mono (by rintro i rfl; exact HH.out.memp)).trans (Touch.of_below hbl)
  have hr2 : Row w2 p TD (dcells r (usedF fs) m dd false 0) := Hr1.out.below hbl Hr1.out.lt
  have hH2 : Held w2 F p m fs g v := HH1.out.touch (Touch.of_below (F := fun _ => False) hbl) (by simp)
  have hK2 : IntsAt w2 A ks := HK1.out.touch (Touch.of_below (F := fun _ => False) hbl) (by simp)
  have hpn : ∀ gn, nv.ownBlock = some gn → w.heap.size ≤ gn := fun gn hgn => by have := (hown.lt gn hgn).1; have := HSz.out; omega
  obtain ⟨AN, cn, hnv, hncap⟩ : ∃ AN cn, nv = .slice AN fs.length cn ∧ cn ≤ 9223372036854775807 := by
    obtain ⟨_, ⟨e1, e2⟩ | ⟨g9, cap9, cur9, e1, _, _, _, e5, _⟩⟩ := id hown
    · exact ⟨none, 0, by rw [e1, e2], by omega⟩
    · exact ⟨_, _, e1, by unfold maxLen at e5; exact e5⟩
  subst hnv
  have HOwn := Lib.hid hown; have HT2 := Lib.hid ht2; have HH2 := Lib.hid hH2; have HR2 := Lib.hid hr2; have HK2 := Lib.hid hK2; have HPN := Lib.hid hpn
  clear hown ht2 hH2 hr2 hK2 hbl hpn h0 h1 h2 h3 h4 h5 hz
  go_wp2_with fail
  go_loopw [4, 5, 6, 23] (fun _ _ _ i wr => ∃ k : Nat, k ≤ fs.length ∧ i = .int .i64 k ∧ Kept F p r dd 0 false m (midF (wishOf ks) fs k) g w2 wr) (fun _ _ _ i _ => fs.length - (intOf i).toNat)
  case atStart => exact ⟨0, Nat.zero_le _, rfl, v, by rw [mid_zero]; exact HR2.out, by rw [mid_zero]; exact HH2.out.mono (fun k hk => .inl hk), Touch.refl _ _⟩
  case round =>
    obtain ⟨k, hk, rfl, hkept⟩ := hrel
    by_cases hlt : k < fs.length
    · obtain ⟨v', hr, hHr, htr⟩ := id hkept
      have hget := mid_get (W := wishOf ks) HH.out.ok.sort hlt
      have hstep := mid_step (W := wishOf ks) HH.out.ok.sort hlt
      have hname : fs[k].1.length ≤ 128 := (HH.out.ok.name fs[k].1 fs[k].2 (getF_of_mem HH.out.ok.sort (List.getElem_mem hlt))).2
      obtain ⟨nm, hnm⟩ : ∃ nm, nm = fs[k].1 := ⟨_, rfl⟩
      rw [← hnm] at hget hstep hname
      obtain ⟨s, hs⟩ : ∃ s : ByteArray, s = ⟨nm.toArray⟩ := ⟨_, rfl⟩
      have hsd : s.data.toList = nm := by rw [hs]
      have hss : s.size ≤ 9223372036854775807 := by
        have : s.size = nm.length := by rw [hs]; show nm.toArray.size = _; simp
        omega
      -- the name's cell
      obtain ⟨gn, hgn⟩ : ∃ gn, AN = some ⟨gn, 0, none⟩ := by
        obtain ⟨_, ⟨_, e2⟩ | ⟨g9, cap9, cur9, e1, _⟩⟩ := id HOwn.out
        · omega
        · injection e1 with e1; exact ⟨g9, e1⟩
      subst hgn
      have hgnF : ¬ F gn := fun e => by have := HFb.out _ e; have := HPN.out gn rfl; omega
      have hcell : wr.cell? ⟨gn, k, none⟩ = some (.string s) := by
        have h1 := HOwn.out.cells (g := gn) rfl k (.string s) (by unfold nameRow; rw [List.getElem?_map, List.getElem?_eq_getElem hlt, hs, hnm]; rfl)
        rw [add_zero_off] at h1
        rw [← h1]
        exact World.cell?_of_block (htr.block gn (HOwn.out.lt gn rfl).2 hgnF)
      have hus : usedF (midF (wishOf ks) fs k) ≤ 9223372036854775807 := by
        have := usedF_mid (W := wishOf ks) (k := k) HH.out.ok; omega
      -- the wish
      have hwr : -9223372036854775808 ≤ wishOf ks k ∧ wishOf ks k ≤ 9223372036854775807 := by
        unfold wishOf
        rw [List.getD_eq_getElem?_getD]
        cases hz : ks[k]? with
        | none => simp
        | some z => exact HK2.out.1 z (List.mem_of_getElem? hz)
      have hst := stay_any (fs := midF (wishOf ks) fs k) hr hHr s hss (by rw [hsd]; exact hget) (wishOf ks k) hwr hus
      rw [hsd, hstep] at hst
      have HST := Lib.hid hst; have HKept := Lib.hid hkept
      by_cases hkk : k < ks.length
      · obtain ⟨b, off, hA, hbl, hci⟩ := HK2.out.2 (by omega)
        have hz := hci k ks[k] (List.getElem?_eq_getElem hkk)
        have hkc : wr.cell? ⟨b, off + k, none⟩ = some (.int .i64 (wishOf ks k)) := by
          rw [show wishOf ks k = ks[k] by unfold wishOf; simp [List.getD_eq_getElem?_getD, hkk]]
          rw [← hz]
          exact World.cell?_of_block (htr.block b hbl (HKF.out _ hA (by omega)))
        subst hA
        obtain ⟨z, hzz⟩ : ∃ z, z = wishOf ks k := ⟨_, rfl⟩
        rw [← hzz] at hkc HST
        clear hst hkept hr hHr htr hget hstep hname hnm hs hsd hss hgnF hus hwr hz hci hzz
        go_wp2_with fail
        refine (HST.out).mono ?_; rintro e w3 ⟨rfl, h3⟩
        have H3 := Lib.hid (Kept.step HKept.out h3); clear h3
        go_wp2_with fail
        go_roundw
        case rel => exact ⟨k + 1, by omega, by go_num, H3.out⟩
        case measure => simp [intOf]; omega
      · have hz0 : wishOf ks k = 0 := by unfold wishOf; rw [List.getD_eq_getElem?_getD, List.getElem?_eq_none (by omega)]; rfl
        rw [hz0] at HST
        clear hst hkept hr hHr htr hget hstep hname hnm hs hsd hss hgnF hus hwr hz0
        go_wp2_with fail
        refine (HST.out).mono ?_; rintro e w3 ⟨rfl, h3⟩
        have H3 := Lib.hid (Kept.step HKept.out h3); clear h3
        go_wp2_with fail
        go_roundw
        case rel => exact ⟨k + 1, by omega, by go_num, H3.out⟩
        case measure => simp [intOf]; omega
    · have hkept2 := hkept
      rw [show k = fs.length by omega, mid_all] at hkept2
      have HK9 := Lib.hid hkept2; clear hkept hkept2
      go_wp2
      go_end0
      obtain ⟨v', h1, h2, h3⟩ := HK9.out
      exact ⟨rfl, v', h1, h2.mono (Ext.from HT2.out.size), HT2.out.trans h3⟩
end
end Go.Proofs.Ytiagoaaldpajmaa
namespace Go.Proofs.Ytiagoaaldpajmaa
open Go.ChangeShapes Go.WideShapes Go.ChangeAt Go.RowKit Go.BigFrame Go.Maps Go.Sort
set_option linter.unusedVariables false
section
variable {w w' : World} {F : Nat → Prop} {fs : Fs} {g : Nm → Nat} {v : Nm → Value} {n : Nm} {x y : Fil} {p r u dd f : Nat} {m : Option Nat} {o : Bool} {d : DM}
set_option maxRecDepth 100000 in
theorem on_still (h : Row w p TD (dcells r u m dd false f)) (A : Option Addr) (k c : Nat) :
    Calls Try.prog 16 #[.pointer (some ⟨p, 0, none⟩), .slice A k c] w fun e w' => e = .returned (.tuple #[]) ∧ Row w' p TD (dcells r u m dd false 0) ∧ Touch (· = p) w w' := by
  obtain ⟨h0, h1, h2, h3, h4, h5⟩ := drow h
  have hz := h.free
  have hr := h.put 5 (.int .u64 0)
  have HR := Lib.hid hr; clear hr h
  go_enter Try.func16, Try.ntmps16
  go_wp2_with fail
  refine bodyPost_ret (results_none rfl _ _ _) rfl ?_
  exact ⟨rfl, HR.out, (Touch.refl (· = p) w).setCell (p := ⟨p, 5, none⟩) (.inl rfl) _⟩
theorem onF_len (W : Nat → Int) : ∀ (l : Fs) (i : Nat), (onF W i l).length ≤ l.length
  | [], _ => by simp [onF]
  | p :: r, i => by
    have := onF_len W r (i + 1)
    have h2 : (stays p (W i)).length ≤ 1 := by unfold stays; split <;> simp
    simp only [onF, List.length_append, List.length_cons]; omega
/-- On, whatever it is told -/
theorem on_any (h : DiskAt w p d F m g v) (hFb : ∀ k, F k → k < w.heap.size) (A : Option Addr) (ks : List Int) (c : Nat) (hK : IntsAt w A ks) (hc : ks.length ≤ c) (hcm : c ≤ 9223372036854775807)
    (hKF : ∀ ad, A = some ad → 0 < ks.length → ¬ F ad.block) (hd : d.deeds ≤ 1000000000) :
    Calls Try.prog 16 #[.pointer (some ⟨p, 0, none⟩), .slice A ks.length c] w fun e w' => e = .returned (.tuple #[]) ∧ IsDisk w' p (onD d ks) (Ext F w w') ∧ Touch F w w' := by
  unfold onD
  have hfew := h.few
  cases ho : d.off with
  | true =>
    have hrow := h.row
    rw [ho] at hrow
    refine (on_gone hrow h.held hFb A ks c hK hc hcm hKF (Nat.le_trans h.used h.room) (by omega)).mono ?_
    rintro e w' ⟨rfl, v', h1, h2, h3⟩
    have hu := usedF_on (W := wishOf ks) (fs := d.fs) (fun q hq => h.ok.sure q.1 q.2 (getF_of_mem h.ok.sort hq)) 0
    refine ⟨rfl, ⟨m, g, v', h1, h2.map, h2.files, h2.memp, h2.memm, h2.ok, Nat.le_trans hu h.used, h.room, Nat.le_trans (onF_len _ _ _) h.few, by simp⟩, h3⟩
  | false =>
    have hrow := h.row
    rw [ho] at hrow
    refine (on_still hrow A ks.length c).mono ?_
    rintro e w' ⟨rfl, hr, ht⟩
    have hH := h.held.own h.row ht
    refine ⟨rfl, ⟨m, g, v, by rw [show dcells d.room (usedF d.fs) m d.deeds false 0 = dcells d.room (usedF d.fs) m d.deeds false 0 from rfl] at hr; simpa [ho] using hr, hH.map, hH.files.mono fun k hk => .inl hk, .inl hH.memp, fun b hb => .inl (hH.memm b hb), hH.ok, h.used, h.room, h.few, by simp⟩, ht.mono ?_⟩
    rintro i rfl; exact h.memp
/-- Crash -/
def crashD (d : DM) : DM := { d with off := true, fuse := 0 }
theorem crash_disk (h : DiskAt w p d F m g v) :
    Calls Try.prog 15 #[.pointer (some ⟨p, 0, none⟩)] w fun e w' => e = .returned (.tuple #[]) ∧ DiskAt w' p (crashD d) F m g v ∧ Touch F w w' ∧ w'.heap.size = w.heap.size := by
  refine (crash_any h.row).mono ?_
  rintro e w' ⟨rfl, rfl⟩
  have ht : Touch (· = p) w ((w.setCell ⟨p, 4, none⟩ (.bool true)).setCell ⟨p, 5, none⟩ (.int .u64 0)) := ((Touch.refl (· = p) w).setCell (p := ⟨p, 4, none⟩) (.inl rfl) _).setCell (p := ⟨p, 5, none⟩) (.inl rfl) _
  have hH := h.held.own h.row ht
  refine ⟨rfl, ⟨(h.row.put 4 (.bool true)).put 5 (.int .u64 0), hH.map, hH.files, hH.memp, hH.memm, hH.ok, h.used, h.room, h.few, by simp [crashD]⟩, ht.mono ?_, by simp⟩
  rintro i rfl; exact h.memp
/-- Fail -/
def failD (d : DM) (n : Int) : DM := { d with fuse := (n + 1).toNat }
theorem fail_disk (h : DiskAt w p d F m g v) (n : Int) (hn : -9223372036854775808 ≤ n ∧ n ≤ 9223372036854775807) :
    Calls Try.prog 25 #[.pointer (some ⟨p, 0, none⟩), .int .i64 n] w fun e w' => e = .returned (.tuple #[]) ∧ DiskAt w' p (failD d n) F m g v ∧ Touch F w w' := by
  refine (fail_any n h.row hn).mono ?_
  rintro e w' ⟨rfl, hr, ht⟩
  have hH := h.held.own h.row ht
  refine ⟨rfl, ⟨hr, hH.map, hH.files, hH.memp, hH.memm, hH.ok, h.used, h.room, h.few, by show (n + 1).toNat ≤ _; omega⟩, ht.mono ?_⟩
  rintro i rfl; exact h.memp
/-- New -/
def newD (q : Int) : DM := ⟨(max q 0).toNat, [], 0, false, 0⟩
theorem new_disk (q : Int) (w : World) (hq : -9223372036854775808 ≤ q ∧ q ≤ 9223372036854775807) :
    Calls Try.prog 11 #[.int .i64 q] w fun e w' => e = .returned (.pointer (some ⟨w.heap.size, 0, none⟩)) ∧ DiskAt w' w.heap.size (newD q) (· = w.heap.size) none (fun _ => 0) (fun _ => .slice none 0 0) ∧ Below w.heap.size w w' ∧ w'.heap.size = w.heap.size + 1 := by
  refine (new_any q w hq).mono ?_
  rintro e w' ⟨rfl, rfl⟩
  refine ⟨rfl, ⟨Row.made w TD _, rfl, ⟨?_, ?_, ?_, ?_, ?_⟩, rfl, by simp, ⟨List.Pairwise.nil, ?_, ?_, ?_⟩, by simp [newD, usedF], by show (max q 0).toNat ≤ _; omega, by simp [newD], by simp [newD]⟩, (Below.refl _ _).alloc (Nat.le_refl _) _, by simp⟩
  all_goals
    intros
    simp [newD, getF] at *
end
end Go.Proofs.Ytiagoaaldpajmaa
namespace Go.Proofs.Ytiagoaaldpajmaa
open Go.RowKit
/-- a string's bytes -/
def bl (b : ByteArray) : List Nat := b.data.toList.map UInt8.toNat
theorem bl_len (b : ByteArray) : (bl b).length = b.size := by unfold bl; rw [List.length_map, Array.length_toList]; rfl
theorem bl_lt (b : ByteArray) : ∀ x ∈ bl b, x < 256 := by
  intro x hx
  obtain ⟨u, _, rfl⟩ := List.mem_map.1 hx
  exact u.toNat_lt
theorem strOf_bl (b : ByteArray) : strOf (bl b) = b := by
  apply ByteArray.ext
  apply Array.ext'
  simp only [strOf, strOfNums_data, bl, List.map_map]
  conv => rhs; rw [← List.map_id b.data.toList]
  apply List.map_congr_left
  intro u _
  simp
theorem bl_strOf (xs : List Nat) (h : ∀ x ∈ xs, x < 256) : bl (strOf xs) = xs := by
  unfold bl
  simp only [strOf, strOfNums_data, List.map_map]
  conv => rhs; rw [← List.map_id xs]
  apply List.map_congr_left
  intro x hx
  have := h x hx
  simp; omega
theorem strOf_size (xs : List Nat) : (strOf xs).size = xs.length := by
  show (strOf xs).data.size = _
  have : (strOf xs).data.toList.length = xs.length := by simp only [strOf, strOfNums_data, List.length_map]
  simpa using this
theorem strOf_append (xs ys : List Nat) : strOf (xs ++ ys) = strOf xs ++ strOf ys := by
  apply ByteArray.ext
  apply Array.ext'
  simp [strOf, strOfNums_data]
theorem str_eql (a b : ByteArray) : (a.toList == b.toList) = decide (a = b) := by
  rw [ByteArray.toList_eq, ByteArray.toList_eq, Bool.eq_iff_iff, beq_iff_eq, decide_eq_true_iff]
  exact ⟨fun h => ByteArray.ext (Array.ext' h), fun h => by rw [h]⟩
section
variable {P : Program} {src dst e : TypeId}
theorem run_tobytes (w : World) (s : ByteArray) (hs : P.underlying src = some .string) (hd : P.underlying dst = some (.slice e)) (he : P.underlying e = some (.int .u8)) (hm : s.size ≤ maxLen) :
    ∃ c w', (convert src dst (.string s)).run P w = .ok (.slice (some ⟨w.heap.size, 0, none⟩) s.size c) w' ∧ Bytes w' (some ⟨w.heap.size, 0, none⟩) (bl s) ∧ Below w.heap.size w w' ∧ s.size ≤ c ∧ c ≤ maxLen ∧ w.heap.size < w'.heap.size := by
  refine ⟨_, _, run_bytes_of_string w src dst e s hs hd he, ⟨bl_lt s, fun _ => ⟨_, rfl, by simp, fun j x hj => ?_⟩⟩, (Below.refl _ _).drew.alloc (Nat.le_refl _) _, grownCap_ge _ _ _ _, grownCap_le_maxLen _ _ _ _ hm, by simp⟩
  have hj2 : j < s.size := by rw [← bl_len]; exact (List.getElem?_eq_some_iff.1 hj).1
  rw [add_zero_off, cell_of_row _ w.heap.size j _ e _ (heap_alloc_new w.drew _)]
  unfold bytesRow
  have h1 : j < s.data.size := hj2
  have hx : x = (s.data[j]).toNat := by
    unfold bl at hj
    rw [List.getElem?_map] at hj
    rw [Array.getElem?_toList, Array.getElem?_eq_getElem h1] at hj
    simpa using hj.symm
  subst hx
  rw [Array.getElem?_append_left (by simpa using h1), Array.getElem?_map, Array.getElem?_eq_getElem h1]
  rfl
theorem wpList_tobytes {w : World} {ops : Array Oper} {rest : List Oper} {o : Oper} {a : Act} {Q : Exit → Act → World → Prop} (hgd : o.guard = none) (x : Operand) (ho : o.op = .convert src dst x)
    (hs : P.underlying src = some .string) (hd : P.underlying dst = some (.slice e)) (he : P.underlying e = some (.int .u8)) (s : ByteArray) (hx : a.eval x = .string s) (hm : s.size ≤ maxLen)
    (h : ∀ c w', Bytes w' (some ⟨w.heap.size, 0, none⟩) (bl s) → Below w.heap.size w w' → s.size ≤ c → c ≤ maxLen → w.heap.size < w'.heap.size → wpList P ops Q rest (a.put o.dst (.slice (some ⟨w.heap.size, 0, none⟩) s.size c)) w') : wpList P ops Q (o :: rest) a w := by
  obtain ⟨c, w', hr, h1, h2, h3, h4, h5⟩ := run_tobytes (P := P) w s hs hd he hm
  refine wpList_plain hgd fun K hK => ?_
  unfold Oper.wp execOp
  simp only [ho, hx, Sem.run_bind, hr, Result.andThen_ok, Sem.run_pure, Oper.upon]
  exact hK _ _ (h c w' h1 h2 h3 h4 h5)
/-- s + t -/
theorem run_add_str (w : World) (t : TypeId) (x y : Operand) (a b : ByteArray) (ht : P.underlying t = some .string) (h : a.size + b.size ≤ 9223372036854775807) :
    (do eqGuard .add t x y (.string a) (.string b); binOp .add t (.string a) (.string b) : Sem Value).run P w = .ok (.string (a ++ b)) w := by
  simp [go_sem, eqGuard, binOp, run_underlying ht, Op.stringOp]
  omega
end
end Go.Proofs.Ytiagoaaldpajmaa
