/- Several texts in one: Tells, Done. -/
import Derived.Test.YtiagoaaldpajmaaVzc
import Derived.Test.YtiagoaaldpajmaaVn
import Derived.Maps.RangeWalk
import Derived.Maps.Ext
namespace Go.Proofs.Ytiagoaaldpajmaa
open Go.ChangeShapes Go.WideShapes Go.ChangeAt Go.RowKit Go.BigFrame Go.Maps Go.Sort
set_option linter.unusedVariables false
/-- the names from the k-th on, in a row of the call's own -/
def NamesAt (w : World) (X : Nat → Prop) (fs : Fs) (k : Nat) (A : Option Addr) (B : Nat) : Prop := 0 < fs.length → ∃ g L, A = some ⟨g, 0, none⟩ ∧ X g ∧ B ≤ g ∧ Row w g 9 L ∧ ∀ j, k ≤ j → j < fs.length → L[j]? = (nameRow fs)[j]?
section
variable {w0 w w' w1 w2 wr : World} {p q : Nat} {d d' m m' : DM} {X Y F M : Nat → Prop} {fs : Fs} {A : Option Addr} {k B : Nat}
theorem NamesAt.touch (h : NamesAt w X fs k A B) {G : Nat → Prop} (ht : Touch G w w') (hG : ∀ i, X i → ¬ G i) : NamesAt w' X fs k A B := fun h0 => by
  obtain ⟨g, L, e, hX, hB, hr, hL⟩ := h h0
  exact ⟨g, L, e, hX, hB, hr.touch ht (hG g hX), hL⟩
theorem NamesAt.at_ (h : NamesAt w X fs k A B) (hk : k < fs.length) : ∃ g, A = some ⟨g, 0, none⟩ ∧ X g ∧ B ≤ g ∧ g < w.heap.size ∧ w.cell? ⟨g, k, none⟩ = some (.string ⟨fs[k].1.toArray⟩) ∧ (∀ i, w.frozen? ⟨g, i, none⟩ = false) ∧ ∀ v, NamesAt (w.setCell ⟨g, k, none⟩ v) X fs (k + 1) A B := by
  obtain ⟨g, L, e, hX, hB, hr, hL⟩ := h (by omega)
  refine ⟨g, e, hX, hB, hr.lt, ?_, hr.free, fun v h0 => ⟨g, L.set k v, e, hX, hB, hr.put k v, fun j hj hjl => ?_⟩⟩
  · rw [hr.cell, hL k (Nat.le_refl _) hk]; unfold nameRow; rw [List.getElem?_map, List.getElem?_eq_getElem hk]; rfl
  · rw [List.getElem?_set_ne (by omega)]; exact hL j (by omega) hjl
/-- its names, in new memory -/
theorem pair_names (h : Pair w0 w p q d m X) (hd : d.deeds ≤ 1000000000) :
    Calls Try.prog 28 #[.pointer (some ⟨p, 0, none⟩)] w fun e w' => ∃ A c, e = .returned (.slice A d.fs.length c) ∧ Below w.heap.size w w' ∧ NamesAt w' (Plus X w w') d.fs 0 A w.heap.size := by
  obtain ⟨F, M, es, A, c, h⟩ := h
  refine (own_names h.own hd).mono ?_
  rintro e w' ⟨A, c, rfl, _, hb, hown⟩
  refine ⟨A, c, rfl, hb, fun h0 => ?_⟩
  obtain ⟨g, rest, cap, e, hg, hr⟩ := Row.of_own_some hown h0
  injection e with e1
  refine ⟨g, _, e1, .inr ⟨hg, hr.lt⟩, hg, hr, fun j _ hj => ?_⟩
  rw [List.getElem?_append_left (by unfold nameRow; simpa using hj)]
theorem pair_used (h : Pair w0 w p q d m X) : Calls Try.prog 27 #[.pointer (some ⟨p, 0, none⟩)] w fun e w' => e = .returned (.int .i64 (usedF d.fs : Nat)) ∧ w = w' := by
  obtain ⟨F, M, es, A, c, h⟩ := h; exact own_used h.own
theorem pair_steps (h : Pair w0 w p q d m X) : Calls Try.prog 29 #[.pointer (some ⟨p, 0, none⟩)] w fun e w' => e = .returned (.int .i64 (d.deeds : Nat)) ∧ w = w' := by
  obtain ⟨F, M, es, A, c, h⟩ := h; exact own_steps h.own
theorem pair_off (h : Pair w0 w p q d m X) : Calls Try.prog 31 #[.pointer (some ⟨p, 0, none⟩)] w fun e w' => e = .returned (.bool d.off) ∧ w = w' := by
  obtain ⟨F, M, es, A, c, h⟩ := h
  obtain ⟨mm, g, v, hD⟩ := h.own.disk
  exact off_any hD.row
theorem pref_used (h : Pair w0 w p q d m X) (hm : Fine m) : Calls Try.prog 51 #[.pointer (some ⟨q, 0, none⟩)] w fun e w' => e = .returned (.int .i64 (usedF m.fs : Nat)) ∧ w = w' := by
  obtain ⟨F, M, es, A, c, h⟩ := h
  exact ref_used h.ref (by have := hm.used; omega)
theorem Pair.drew (h : Pair w0 w p q d m X) : Pair w0 w.drew p q d m X := h.made (Below.refl _ _).drew
/-- the files on both sides -/
theorem Pair.look (h : Pair w0 w p q d d X) : OkFs d.fs ∧ ∃ es A c M, RefAt w q d es A c M := by
  obtain ⟨F, M, es, A, c, h⟩ := h
  obtain ⟨mm, g, v, hD⟩ := h.own.disk
  exact ⟨hD.ok, es, A, c, M, h.ref⟩
/-- what a Read of the k-th file tells, where it is on -/
theorem read_at (hok : OkFs d.fs) (ho : d.off = false) {k : Nat} (hk : k < d.fs.length) : findE d ⟨d.fs[k].1.toArray⟩ [] = 0 ∧ readB d ⟨d.fs[k].1.toArray⟩ = d.fs[k].2.b := by
  have hg : getF d.fs[k].1 d.fs = some d.fs[k].2 := getF_of_mem hok.sort (List.getElem_mem hk)
  have hn := hok.name _ _ hg
  have hg2 : getF (⟨d.fs[k].1.toArray⟩ : ByteArray).data.toList d.fs = some d.fs[k].2 := by simpa using hg
  have hf : findE d ⟨d.fs[k].1.toArray⟩ [] = 0 := by
    have hs : (⟨d.fs[k].1.toArray⟩ : ByteArray).size = d.fs[k].1.length := by show d.fs[k].1.toArray.size = _; simp
    have hl : lookE d.off [⟨d.fs[k].1.toArray⟩] = 0 := by unfold lookE; rw [ho]; simp [okName, hs]; omega
    unfold findE noneE
    rw [hl, hg2]; simp
  refine ⟨hf, ?_⟩
  unfold readB
  rw [if_pos hf, hg2]
/-- while it is told -/
def Telling (w0 w : World) (p q : Nat) (d : DM) (Y : Nat → Prop) (A : Option Addr) (k : Nat) (wr : World) : Prop := Pair w0 wr p q d d Y ∧ Below w.heap.size w wr ∧ NamesAt wr Y d.fs k A w.heap.size
theorem Telling.made (h : Telling w0 w p q d Y A k wr) (hb : Below wr.heap.size wr w') : Telling w0 w p q d Y A k w' :=
  ⟨h.1.made hb, h.2.1.trans (hb.mono h.2.1.size), h.2.2.touch (Touch.of_below (F := fun _ => False) hb) (by simp)⟩
theorem Telling.put (h : Telling w0 w p q d Y A k wr) (h0 : w0.heap.size ≤ w.heap.size) (hk : k < d.fs.length) : ∃ g, A = some ⟨g, 0, none⟩ ∧ wr.cell? ⟨g, k, none⟩ = some (.string ⟨d.fs[k].1.toArray⟩) ∧ wr.frozen? ⟨g, k, none⟩ = false ∧ ∀ v, Telling w0 w p q d Y A (k + 1) (wr.setCell ⟨g, k, none⟩ v) := by
  obtain ⟨hp, hb, hn⟩ := h
  obtain ⟨g, hA, hY, hB, hlt, hc, hf, hput⟩ := hn.at_ hk
  refine ⟨g, hA, hc, hf k, fun v => ?_⟩
  have ht : Touch (· = g) wr (wr.setCell ⟨g, k, none⟩ v) := (Touch.refl (· = g) wr).setCell (p := ⟨g, k, none⟩) (.inl rfl) _
  exact ⟨hp.write hY (by omega) ht, hb.trans (ht.below (by rintro i rfl; exact hB) hb.size), hput v⟩
set_option maxRecDepth 100000 in
set_option maxHeartbeats 8000000 in
theorem tells_any (h : Pair w0 w p q d d X) (hd : d.deeds ≤ 1000000) (hr : d.room ≤ 1000000000000) :
    Calls Try.prog 19 #[.pointer (some ⟨p, 0, none⟩), .pointer (some ⟨q, 0, none⟩)] w fun e w' => e = .returned (.bool true) ∧ Below w.heap.size w w' := by
  obtain ⟨hfi, -⟩ := h.fine hd hr
  have hs0 := h.size
  have hn := pair_names h (by omega)
  have hfew := hfi.few
  obtain ⟨N, hN⟩ : ∃ N, N = d.fs.length := ⟨_, rfl⟩
  rw [← hN] at hn hfew
  have HN := Lib.hid hn; have HH := Lib.hid h; have HFi := Lib.hid hfi; have HNN := Lib.hid hN; have HS0 := Lib.hid hs0
  clear hn h hfi hN hs0
  go_enter Try.func19, Try.ntmps19
  go_wp2_with fail
  refine (HN.out).mono ?_; rintro e w1 ⟨A, c, rfl, hb1, hna⟩
  have h1 : Pair w0 w1 p q d d (Plus X w w1) := HH.out.more hb1
  obtain ⟨Y, hY⟩ : ∃ Y, Y = Plus X w w1 := ⟨_, rfl⟩
  rw [← hY] at h1 hna
  have hT : Telling w0 w p q d Y A 0 w1 := ⟨h1, hb1, hna⟩
  have h1d := h1.drew
  obtain ⟨-, es, RA, rc, M, hR⟩ := h1d.look
  have hel : es.length = N := by rw [hR.es_len, HNN.out]
  obtain ⟨f0, f1, f2, f3, f4⟩ := rrow hR.row
  rw [hel] at f0
  have hus := pair_used h1d
  have hru := pref_used h1d HFi.out
  have hst := pair_steps h1d
  have hof := pair_off h1d
  have huz : usedF d.fs ≤ 1000000000000 := HFi.out.used
  obtain ⟨us, hus'⟩ : ∃ us, us = usedF d.fs := ⟨_, rfl⟩
  obtain ⟨dd, hdd'⟩ : ∃ dd, dd = d.deeds := ⟨_, rfl⟩
  obtain ⟨of, hof'⟩ : ∃ of, of = d.off := ⟨_, rfl⟩
  rw [← hus'] at hus hru huz
  rw [← hdd'] at hst f2 hd
  rw [← hof'] at hof f4
  have HT := Lib.hid hT; have HUs := Lib.hid hus; have HRu := Lib.hid hru; have HSt := Lib.hid hst; have HOf := Lib.hid hof; have HOf' := Lib.hid hof'; have HDd := Lib.hid hdd'
  clear hT h1 h1d hR hel hus hru hst hof hus' hdd' hof' hb1 hna hY f1 f3
  go_wp2_with fail
  refine Stage.wp_region (by kernel_rfl) (by kernel_rfl) (fun _ w' => w' = w1.drew) rfl ?_
  refine Stage.wpSt_reads 10 (fun w' => w' = w1.drew) (by kernel_rfl) (fun i _ _ S w' _ _ h => ⟨h, h⟩) ?_
  simp only [List.take_succ_cons, List.take_zero, List.drop_succ_cons, List.drop_zero]
  repeat (go_big_quiet_step (fail))
  refine wpQuiet_nil ?_
  refine Stage.wpSt_do (.int .i64 (us : Nat)) rfl (fun S w' _ _ hw => ?_) ?_
  · have hw' : w' = w1.drew := hw
    subst hw'
    refine Free.at_call _ _ rfl Try.func27 (by kernel_rfl) rfl [.pointer (some ⟨p, 0, none⟩)] rfl ?_
    exact (HUs.out).mono fun e w'' ⟨he, h⟩ => ⟨he, h.symm⟩
  go_simp
  refine Stage.wpSt_reads 1 (fun w' => w' = w1.drew) (by kernel_rfl) (fun i _ _ S w' _ _ h => ⟨h, h⟩) ?_
  simp only [List.take_succ_cons, List.take_zero, List.drop_succ_cons, List.drop_zero]
  repeat (go_big_quiet_step (fail))
  refine wpQuiet_nil ?_
  refine Stage.wpSt_do (.int .i64 (us : Nat)) rfl (fun S w' _ _ hw => ?_) ?_
  · have hw' : w' = w1.drew := hw
    subst hw'
    refine Free.at_call _ _ rfl Try.func51 (by kernel_rfl) rfl [.pointer (some ⟨q, 0, none⟩)] rfl ?_
    exact (HRu.out).mono fun e w'' ⟨he, h⟩ => ⟨he, h.symm⟩
  go_simp
  refine Stage.wpSt_reads 4 (fun w' => w' = w1.drew) (by kernel_rfl) (fun i _ _ S w' _ _ h => ⟨h, h⟩) ?_
  simp only [List.take_succ_cons, List.take_zero, List.drop_succ_cons, List.drop_zero]
  repeat (go_big_quiet_step (fail))
  refine wpQuiet_nil ?_
  refine Stage.wpSt_do (.int .i64 (dd : Nat)) rfl (fun S w' _ _ hw => ?_) ?_
  · have hw' : w' = w1.drew := hw
    subst hw'
    refine Free.at_call _ _ rfl Try.func29 (by kernel_rfl) rfl [.pointer (some ⟨p, 0, none⟩)] rfl ?_
    exact (HSt.out).mono fun e w'' ⟨he, h⟩ => ⟨he, h.symm⟩
  go_simp
  refine Stage.wpSt_reads 8 (fun w' => w' = w1.drew) (by kernel_rfl) (fun i _ _ S w' _ _ h => ⟨h, h⟩) ?_
  simp only [List.take_succ_cons, List.take_zero, List.drop_succ_cons, List.drop_zero]
  repeat (go_big_quiet_step (fail))
  refine wpQuiet_nil ?_
  refine Stage.wpSt_do (.bool of) rfl (fun S w' _ _ hw => ?_) ?_
  · have hw' : w' = w1.drew := hw
    subst hw'
    refine Free.at_call _ _ rfl Try.func31 (by kernel_rfl) rfl [.pointer (some ⟨p, 0, none⟩)] rfl ?_
    exact (HOf.out).mono fun e w'' ⟨he, h⟩ => ⟨he, h.symm⟩
  go_simp
  refine Stage.wpSt_reads 6 (fun w' => w' = w1.drew) (by kernel_rfl) (fun i _ _ S w' _ _ h => ⟨h, h⟩) ?_
  simp only [List.take_succ_cons, List.take_zero, List.drop_succ_cons, List.drop_zero]
  repeat (go_big_quiet_step (fail))
  refine wpQuiet_nil (Stage.wpSt_nil ?_)
  intro S w4 _ hw4
  have hw4' : w4 = w1.drew := hw4
  subst hw4'
  clear hw4
  have hT1 : Telling w0 w p q d Y A 0 w1.drew := ⟨HT.out.1.drew, HT.out.2.1.drew, HT.out.2.2.touch (Touch.refl (fun _ => False) _).drew (by simp)⟩
  have HT1 := Lib.hid hT1; clear hT1 f0 f2 f4
  go_wp2_with fail
  go_loopw [6] (fun i wr => ∃ k : Nat, k ≤ N ∧ i = .int .i64 k ∧ Telling w0 w p q d Y A k wr) (fun i _ => N - (intOf i).toNat)
  case atStart => exact ⟨0, Nat.zero_le _, rfl, HT1.out⟩
  case round =>
    obtain ⟨k, hk, rfl, ht⟩ := hrel
    by_cases hlt : k < N
    · have hkf : k < d.fs.length := by rw [← HNN.out]; exact hlt
      obtain ⟨g, hA, hcg, -, -⟩ := ht.put HS0.out hkf
      obtain ⟨hok, es, RA, rc, M, hR⟩ := ht.1.look
      have hnl : d.fs[k].1.length ≤ 128 := (hok.name _ _ (getF_of_mem hok.sort (List.getElem_mem hkf))).2
      have hkel : k < es.length := by rw [hR.es_len]; exact hkf
      have hel2 : es.length = N := by rw [hR.es_len, HNN.out]
      have hkey : es[k].key = d.fs[k] := by
        have h1 : d.fs[k]? = (es.map En.key)[k]? := by rw [← hR.fs]
        rw [List.getElem?_eq_getElem hkf, List.getElem?_map, List.getElem?_eq_getElem hkel] at h1
        exact (Option.some.inj h1).symm
      have hra := read_at hok (k := k)
      obtain ⟨nm, hnm⟩ : ∃ nm : ByteArray, nm = ⟨d.fs[k].1.toArray⟩ := ⟨_, rfl⟩
      have hns : nm.size ≤ 9223372036854775807 := by
        have : nm.size = d.fs[k].1.length := by rw [hnm]; show d.fs[k].1.toArray.size = _; simp
        omega
      have hnd : nm.data.toList = d.fs[k].1 := by rw [hnm]
      rw [← hnm] at hcg
      have hrd := pair_read ht.1 nm hns
      obtain ⟨E, hE⟩ : ∃ E, E = findE d nm [] := ⟨_, rfl⟩
      obtain ⟨bs, hbs⟩ : ∃ bs, bs = readB d nm := ⟨_, rfl⟩
      rw [← hE, ← hbs] at hrd
      obtain ⟨b, off, hRA, hbl, hci⟩ := hR.list.row (by omega)
      have hat := hci k es[k] (List.getElem?_eq_getElem hkel)
      have hen := hR.ens es[k] (List.getElem_mem hkel)
      obtain ⟨x, hx⟩ : ∃ x, x = es[k] := ⟨_, rfl⟩
      rw [← hx] at hat hen hkey
      have hxn : x.name = nm := name_eq (by rw [hnd, ← hkey]; rfl)
      have hxf : x.f = d.fs[k].2 := by rw [← hkey]; rfl
      have hofc : d.off = false → E = 0 ∧ bs = x.f.b := fun ho => by
        have := hra ho hkf
        rw [← hnm, ← hE, ← hbs] at this
        rw [hxf]; exact this
      subst hA; subst hRA
      have hcapx := hR.list.cap
      have hmaxx := hR.list.max
      have HRd := Lib.hid hrd; have HR := Lib.hid hR; have HTe := Lib.hid ht; have HAt := Lib.hid hat; have HEn := Lib.hid hen; have HOfc := Lib.hid hofc; have HXn := Lib.hid hxn; have HEl := Lib.hid hel2; have HBl := Lib.hid hbl
      clear hrd hR ht hat hen hofc hxn hxf hkey hra hx hbs hE hnd hnm hci hok hkel hel2
      go_wp2_with fail
      refine (HRd.out).mono ?_; rintro e w5 ⟨A5, c5, rfl, hB5, -, hb5⟩
      dsimp only
      have hR5 := HR.out.still (Touch.of_below (F := fun _ => False) hb5).drew
      have hT5 : Telling w0 w p q d Y (some ⟨g, 0, none⟩) k w5.drew := (HTe.out.made hb5).made (Below.refl _ _).drew
      obtain ⟨g', hA', hcg5, hfz5, hput5⟩ := hT5.put HS0.out hkf
      injection hA' with hA'
      injection hA' with hA'
      subst hA'
      have hcg5' : w5.drew.cell? ⟨g, k, none⟩ = some (.string nm) := by
        rw [← hcg]
        exact World.cell?_of_block (hb5.block g (by
          obtain ⟨g2, hA2, -, -, hlt2, -⟩ := HTe.out.2.2.at_ hkf
          injection hA2 with hA2; injection hA2 with hA2; subst hA2; exact hlt2))
      have hat5 := HAt.out.touch (Touch.of_below (F := fun _ => False) hb5).drew HBl.out (by simp)
      have hen5 := HEn.out.touch (M := M) (Touch.of_below (F := fun _ => False) hb5).drew (by simp)
      obtain ⟨e0, e1, -, -⟩ := hat5
      rw [HXn.out] at e0
      obtain ⟨q0, -, -, -, q4⟩ := rrow hR5.row
      rw [HEl.out] at q0
      have hcv1 := conv_bytes (P := Try.prog) Try.underlying36 Try.underlying5 Try.underlying9 hB5.drew c5
      have hcv2 := conv_bytes (P := Try.prog) Try.underlying36 Try.underlying5 Try.underlying9 hen5.bytes x.bc
      have HPut := Lib.hid hput5; have HFz := Lib.hid hfz5
      clear hcg hb5 hR5 hT5 hcg5 hen5 hput5 hfz5 hB5
      cases hoff : d.off with
      | true =>
        rw [hoff] at q4
        clear hcv1 hcv2
        go_wp2_with fail
        refine Stage.wp_region (by kernel_rfl) (by kernel_rfl) (fun _ w' => w' = w5.drew) rfl ?_
        refine Stage.wpSt_reads 38 (fun w' => w' = w5.drew) (by kernel_rfl) (fun i _ _ S w' _ _ h => ⟨h, h⟩) ?_
        simp only [List.take_succ_cons, List.take_zero, List.drop_succ_cons, List.drop_zero]
        repeat (go_big_quiet_step (fail))
        refine wpQuiet_nil (Stage.wpSt_nil ?_)
        intro S w4 _ hw4
        have hw4' : w4 = w5.drew := hw4
        subst hw4'
        clear hw4
        have hfz := HFz.out
        go_wp2_with fail
        go_roundw
        case rel => exact ⟨k + 1, by omega, by go_num, HPut.out _⟩
        case measure => simp [intOf]; omega
      | false =>
        rw [hoff] at q4
        obtain ⟨hE0, hbx⟩ := HOfc.out hoff
        subst hE0
        rw [hbx] at hcv1 ⊢
        go_wp2_with fail
        refine Stage.wp_region (by kernel_rfl) (by kernel_rfl) (fun _ w' => w' = w5.drew) rfl ?_
        refine Stage.wpSt_reads 38 (fun w' => w' = w5.drew) (by kernel_rfl) (fun i _ _ S w' _ _ h => ⟨h, h⟩) ?_
        simp only [List.take_succ_cons, List.take_zero, List.drop_succ_cons, List.drop_zero]
        repeat (go_big_quiet_step (fail))
        refine wpQuiet_nil (Stage.wpSt_nil ?_)
        intro S w4 _ hw4
        have hw4' : w4 = w5.drew := hw4
        subst hw4'
        clear hw4
        have hfz := HFz.out
        go_wp2_with fail
        go_roundw
        case rel => exact ⟨k + 1, by omega, by go_num, HPut.out _⟩
        case measure => simp [intOf]; omega
    · have HE := Lib.hid ht.2.1; clear ht
      go_wp2_with fail
      go_ret
      exact ⟨rfl, HE.out⟩
end
end Go.Proofs.Ytiagoaaldpajmaa
namespace Go.Proofs.Ytiagoaaldpajmaa
open Go.ChangeShapes Go.WideShapes Go.ChangeAt Go.RowKit Go.BigFrame Go.Maps Go.Sort
set_option linter.unusedVariables false
def doneF (left : Lit → Bool) (fs : Fs) : Fs := fs.filter fun p => !left (.string p.1)
section
variable {left left' : Lit → Bool} {fs : Fs} {n : Nm} {f : Fil}
theorem doneF_sort (h : SortF fs) : SortF (doneF left fs) := List.Pairwise.filter _ h
theorem doneF_mem {p : Nm × Fil} : p ∈ doneF left fs ↔ p ∈ fs ∧ left (.string p.1) = false := by simp [doneF]
theorem doneF_none (h : ∀ p ∈ fs, left (.string p.1) = true) : doneF left fs = [] := by
  unfold doneF; rw [List.filter_eq_nil_iff]; intro p hp; simp [h p hp]
theorem doneF_all (h : ∀ k, left k = false) : doneF left fs = fs := by
  unfold doneF; rw [List.filter_eq_self]; intro p _; simp [h]
theorem insF_cons {x y : Nm × Fil} {r : Fs} (h : bytesBefore x.1 y.1 = false) : insF x (y :: r) = y :: insF x r := by
  simp only [insF]; rw [if_neg (by rw [h]; exact Bool.false_ne_true)]
theorem insF_front {x : Nm × Fil} {r : Fs} (h : ∀ p ∈ r, bytesBefore x.1 p.1 = true) : insF x r = x :: r := by
  cases r with
  | nil => rfl
  | cons y r => unfold insF; rw [if_pos (h y List.mem_cons_self)]
theorem delF_id (h : ∀ p ∈ fs, p.1 ≠ n) : delF n fs = fs := by
  unfold delF; rw [List.filter_eq_self]; intro p hp; simpa using h p hp
/-- one more has come -/
theorem doneF_step (hs : SortF fs) (hg : getF n fs = some f) (hl : left (.string n) = true) (h' : ∀ m, left' (.string m) = (left (.string m) && !(m == n))) : doneF left' fs = putF n f (doneF left fs) := by
  have hno : ∀ p ∈ doneF left fs, p.1 ≠ n := fun p hp e => by
    have := (doneF_mem.1 hp).2; rw [e, hl] at this; cases this
  unfold putF
  rw [delF_id hno]
  clear hno
  induction fs with
  | nil => simp [getF] at hg
  | cons p r ih =>
    unfold SortF at hs
    rw [List.pairwise_cons] at hs
    by_cases hp : p.1 = n
    · have hpf : p = (n, f) := by
        have h2 : p.2 = f := by simpa [getF, hp] using hg
        rw [← hp, ← h2]
      have h3 : ∀ q ∈ r, q.1 ≠ n := fun q hq e => by
        have := hs.1 q hq; rw [hp, e, bb_irrefl] at this; cases this
      have h4 : doneF left' r = doneF left r := by
        unfold doneF
        refine List.filter_congr fun q hq => ?_
        have : (q.1 == n) = false := by simpa using h3 q hq
        rw [h', this]; simp
      have h5 : doneF left (p :: r) = doneF left r := by
        unfold doneF; rw [List.filter_cons, if_neg (by rw [hp, hl]; simp)]
      have h6 : doneF left' (p :: r) = p :: doneF left' r := by
        unfold doneF; rw [List.filter_cons, if_pos (by rw [h', hp]; simp)]
      rw [h5, h6, h4, insF_front (fun q hq => by have := hs.1 q (doneF_mem.1 hq).1; rw [hp] at this; exact this), hpf]
    · have hg2 : getF n r = some f := by
        have : (p.1 == n) = false := by simpa using hp
        simpa [getF, this] using hg
      have hbp : bytesBefore n p.1 = false := by
        have h1 := hs.1 (n, f) (mem_of_getF hg2)
        cases hb : bytesBefore n p.1 with
        | false => rfl
        | true => have := bb_trans hb h1; rw [bb_irrefl] at this; cases this
      have hl' : left' (.string p.1) = left (.string p.1) := by
        have : (p.1 == n) = false := by simpa using hp
        rw [h', this]; simp
      have ih := ih hs.2 hg2
      cases hlp : left (.string p.1) with
      | true =>
        have h5 : doneF left (p :: r) = doneF left r := by unfold doneF; rw [List.filter_cons, if_neg (by rw [hlp]; simp)]
        have h6 : doneF left' (p :: r) = doneF left' r := by unfold doneF; rw [List.filter_cons, if_neg (by rw [hl', hlp]; simp)]
        rw [h5, h6, ih]
      | false =>
        have h5 : doneF left (p :: r) = p :: doneF left r := by unfold doneF; rw [List.filter_cons, if_pos (by rw [hlp]; rfl)]
        have h6 : doneF left' (p :: r) = p :: doneF left' r := by unfold doneF; rw [List.filter_cons, if_pos (by rw [hl', hlp]; rfl)]
        rw [h5, h6, ih, insF_cons hbp]
theorem doneF_get (hs : SortF fs) (hl : left (.string n) = true) : getF n (doneF left fs) = none := by
  unfold getF
  rw [Option.map_eq_none_iff, List.find?_eq_none]
  intro p hp e
  have h1 : p.1 = n := by simpa using e
  have := (doneF_mem.1 hp).2
  rw [h1, hl] at this; cases this
theorem doneF_len : (doneF left fs).length ≤ fs.length := List.length_filter_le _ _
theorem doneF_of {m : Nm} {z : Fil} (hs : SortF fs) (h : getF m (doneF left fs) = some z) : getF m fs = some z :=
  getF_of_mem hs (doneF_mem.1 (mem_of_getF h)).1
end
/-- a key of the map, by its value -/
theorem key_str {key : Value} {kl : Lit} (h : keyOf Try.prog 9 key = some kl) : ∃ s : ByteArray, key = .string s ∧ kl = .string s.data.toList ∧ s.size ≤ maxLen := WideMaps.string_of_keyOf und_str h
end Go.Proofs.Ytiagoaaldpajmaa
