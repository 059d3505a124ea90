/- Several texts in one: Works, OneF, Law, Stays. -/
import Derived.Test.YtiagoaaldpajmaaVn
import Derived.Test.YtiagoaaldpajmaaRows
import Derived.Test.YtiagoaaldpajmaaVa
import Derived.WalkKit
import Derived.ProofKit
import Derived.OpenShut
import Derived.Carry
import Derived.SizedLaws
import Derived.SliceStrings
import Derived.ChangeMaps5
namespace Go.Proofs.Ytiagoaaldpajmaa
open Go.ChangeShapes Go.WideShapes Go.ChangeAt Go.RowKit Go.BigFrame Go.Maps Go.Sort
set_option linter.unusedVariables false
abbrev sa : ByteArray := ⟨#[97]⟩
def wD1 : DM := ⟨100, [([97], ⟨[1, 2], 0, false⟩)], 1, false, 0⟩
def wD2 : DM := ⟨100, [([97], ⟨[1, 2], 2, true⟩)], 2, false, 0⟩
def wD3 : DM := ⟨100, [([97], ⟨[1, 2, 3, 4], 2, true⟩)], 3, false, 0⟩
def wD4 : DM := ⟨100, [([97], ⟨[1, 2, 3, 4], 2, true⟩)], 3, true, 0⟩
def wD5 : DM := ⟨100, [([97], ⟨[1, 2, 3], 3, true⟩)], 3, false, 0⟩
def wE1 : DM := ⟨9, [([97], ⟨[1], 0, false⟩)], 1, false, 0⟩
def wE2 : DM := ⟨9, [([97], ⟨[1], 0, false⟩)], 1, true, 0⟩
def wE3 : DM := ⟨9, [], 1, false, 0⟩
theorem wk1 : appE (newD 100) sa 2 = 0 ∧ appD (newD 100) sa [1, 2] = wD1 := ⟨by kernel_rfl, by kernel_rfl⟩
theorem wk2 : syncE wD1 sa = 0 ∧ syncD wD1 sa = wD2 := ⟨by kernel_rfl, by kernel_rfl⟩
theorem wk3 : appE wD2 sa 2 = 0 ∧ appD wD2 sa [3, 4] = wD3 := ⟨by kernel_rfl, by kernel_rfl⟩
theorem wk4 : crashD wD3 = wD4 := by kernel_rfl
theorem wk5 : onD wD4 [1] = wD5 := by kernel_rfl
theorem wk6 : readB wD5 sa = [1, 2, 3] ∧ findE wD5 sa [] = 0 := ⟨by kernel_rfl, by kernel_rfl⟩
theorem wk7 : appE (newD 9) sa 1 = 0 ∧ appD (newD 9) sa [1] = wE1 := ⟨by kernel_rfl, by kernel_rfl⟩
theorem wk8 : crashD wE1 = wE2 := by kernel_rfl
theorem wk9 : onD wE2 [] = wE3 := by kernel_rfl
set_option maxRecDepth 100000 in
set_option maxHeartbeats 4000000 in
theorem works_any (w : World) : Calls Try.prog 10 #[] w fun e w' => e = .returned (.bool true) ∧ Below w.heap.size w w' := by
  have hn := own_new (w0 := w) (w := w) 100 (Below.refl _ _) (by omega)
  have HN := Lib.hid hn; clear hn
  go_enter Try.func10, Try.ntmps10
  go_wp2_with fail
  refine (HN.out).mono ?_; rintro e w1 ⟨rfl, ho, hb1⟩
  obtain ⟨p, hp⟩ : ∃ p, p = w.heap.size := ⟨_, rfl⟩
  rw [← hp] at ho ⊢
  have HP := Lib.hid hp; clear hp hb1
  -- Append
  have ha := own_append (ho.alloc (.cells (u8s [1, 2]).toArray 5)) sa ⟨w1.heap.size, 0, none⟩ [1, 2] 2 (bytes_lit w1 [1, 2] (by decide)) (fun _ e => by have := (ho.mine _ e).2; simp at this) (by decide) (by decide) (by decide)
  rw [wk1.2] at ha
  have HA := Lib.hid ha; clear ha
  go_wp2_with fail
  refine (HA.out).mono ?_; rintro e w2 ⟨rfl, ho2, -⟩
  rw [show ([1, 2] : List Nat).length = 2 from rfl, wk1.1]
  clear ho
  generalize Ext _ _ _ = F2 at ho2
  have hs := own_sync ho2 sa (by decide) (by decide)
  rw [wk2.1, wk2.2] at hs
  have HS := Lib.hid hs; clear hs ho2
  go_wp2_with fail
  refine (HS.out).mono ?_; rintro e w3 ⟨rfl, ho3, -⟩
  generalize Ext _ _ _ = F3 at ho3
  have ha := own_append (ho3.alloc (.cells (u8s [3, 4]).toArray 5)) sa ⟨w3.heap.size, 0, none⟩ [3, 4] 2 (bytes_lit w3 [3, 4] (by decide)) (fun _ e => by have := (ho3.mine _ e).2; simp at this) (by decide) (by decide) (by decide)
  rw [wk3.2] at ha
  have HA3 := Lib.hid ha; clear ha ho3
  go_wp2_with fail
  refine (HA3.out).mono ?_; rintro e w4 ⟨rfl, ho4, -⟩
  rw [show ([3, 4] : List Nat).length = 2 from rfl, wk3.1]
  generalize Ext _ _ _ = F4 at ho4
  have hc := own_crash ho4
  rw [wk4] at hc
  have HC := Lib.hid hc; clear hc ho4
  go_wp2_with fail
  refine (HC.out).mono ?_; rintro e w5 ⟨rfl, ho5, -⟩
  generalize Ext _ _ _ = F5 at ho5
  have hon := own_on (ho5.alloc (.cells #[.int .i64 1] 3)) (some ⟨w5.heap.size, 0, none⟩) [1] 1 (ints_lit w5 1 (by omega)) (by decide) (by decide) (by intro ad e _ hF; injection e with e; subst e; have := (ho5.mine _ hF).2; simp at this) (by decide)
  rw [wk5] at hon
  have HON := Lib.hid hon; clear hon ho5
  go_wp2_with fail
  refine (HON.out).mono ?_; rintro e w6 ⟨rfl, ho6, -⟩
  generalize Ext _ _ _ = F6 at ho6
  have hrd := own_read ho6 sa (by decide)
  rw [wk6.1, wk6.2] at hrd
  have HRD := Lib.hid hrd; clear hrd ho6
  go_wp2_with fail
  refine (HRD.out).mono ?_; rintro e w7 ⟨A, c, rfl, hB, -, ho7, -⟩
  rw [show ([1, 2, 3] : List Nat).length = 3 from rfl]
  have hn2 := own_new (w0 := w7) (w := w7) 9 (Below.refl _ _) (by omega)
  have HN2 := Lib.hid hn2; have HB := Lib.hid hB; have HO7 := Lib.hid ho7; clear hn2 hB ho7
  go_wp2_with fail
  refine (HN2.out).mono ?_; rintro e w8 ⟨rfl, ho8, -⟩
  obtain ⟨q, hq⟩ : ∃ q, q = w7.heap.size := ⟨_, rfl⟩
  rw [← hq] at ho8 ⊢
  clear hq
  have ha := own_append (ho8.alloc (.cells (u8s [1]).toArray 5)) sa ⟨w8.heap.size, 0, none⟩ [1] 1 (bytes_lit w8 [1] (by decide)) (fun _ e => by have := (ho8.mine _ e).2; simp at this) (by decide) (by decide) (by decide)
  rw [wk7.2] at ha
  have HA8 := Lib.hid ha; clear ha ho8
  go_wp2_with fail
  refine (HA8.out).mono ?_; rintro e w9 ⟨rfl, ho9, -⟩
  generalize Ext _ _ _ = F9 at ho9
  have hc := own_crash ho9
  rw [wk8] at hc
  have HC9 := Lib.hid hc; clear hc ho9
  go_wp2_with fail
  refine (HC9.out).mono ?_; rintro e w10 ⟨rfl, ho10, -⟩
  generalize Ext _ _ _ = F10 at ho10
  have hon := own_on ho10 none [] 0 (ints_none _) (by decide) (by decide) (by intro ad e; cases e) (by decide)
  rw [wk9] at hon
  have HON10 := Lib.hid hon; clear hon ho10
  go_wp2_with fail
  refine (HON10.out).mono ?_; rintro e w11 ⟨rfl, ho11, -⟩
  generalize Ext _ _ _ = F11 at ho11
  have hcv := conv_bytes (P := Try.prog) Try.underlying36 Try.underlying5 Try.underlying9 (HB.out.below ho11.below) c
  rw [show strOf [1, 2, 3] = ⟨#[1, 2, 3]⟩ from rfl, show ([1, 2, 3] : List Nat).length = 3 from rfl] at hcv
  have hnm := own_names ho11 (by decide)
  have HNM := Lib.hid hnm; clear hnm ho11
  go_wp2_with fail
  refine (HNM.out).mono ?_; rintro e w12 ⟨A2, c2, rfl, ho12, -, -⟩
  have H12 := Lib.hid ho12; clear ho12 hcv
  rw [show wE3.fs.length = 0 from rfl]
  go_wp2_with fail
  go_ret
  exact ⟨rfl, HO7.out.below.trans (H12.out.below.mono HO7.out.below.size)⟩
end Go.Proofs.Ytiagoaaldpajmaa
namespace Go.Proofs.Ytiagoaaldpajmaa
open Go.ChangeShapes Go.WideShapes Go.ChangeAt Go.RowKit Go.BigFrame Go.Maps Go.Sort
set_option linter.unusedVariables false
abbrev sf : ByteArray := ⟨#[102]⟩
def oneD (b : List Nat) (sure : Nat) (made : Bool) (deeds : Nat) (off : Bool) : DM := ⟨100000, [([102], ⟨b, sure, made⟩)], deeds, off, 0⟩
section
variable {b bs : List Nat} {s dd : Nat} {md off : Bool}
theorem one_look : lookE false [sf] = 0 := by kernel_rfl
theorem one_get : getF sf.data.toList (oneD b s md dd off).fs = some ⟨b, s, md⟩ := by simp [oneD, getF]
theorem one_len : lenF sf.data.toList (oneD b s md dd off).fs = b.length := by unfold lenF; rw [one_get]
theorem one_used : usedF (oneD b s md dd off).fs = b.length := by simp [oneD, usedF]
theorem one_put {y : Fil} : putF sf.data.toList y (oneD b s md dd off).fs = [([102], y)] := by simp [oneD, putF, delF, insF]
theorem one_app0 (h : bs.length ≤ 100000) : appE (newD 100000) sf bs.length = 0 ∧ appD (newD 100000) sf bs = oneD bs 0 false 1 false := by
  have h1 : lookE (newD 100000).off [sf] = 0 := one_look
  have h2 : lenF sf.data.toList (newD 100000).fs = 0 := by kernel_rfl
  have h3 : usedF (newD 100000).fs = 0 := by kernel_rfl
  have h4 : (newD 100000).room = 100000 := by kernel_rfl
  have h5 : ¬ (newD 100000).fuse = 1 := by decide
  unfold appE appD
  rw [h1, h2, h3, h4]
  simp only [ne_eq, not_true_eq_false, if_false, if_neg (show ¬ 8388608 < 0 + bs.length by omega), if_neg (show ¬ 100000 < 0 + bs.length by omega), if_neg h5, true_and]
  unfold DM.tick
  rw [if_neg h5]
  simp [newD, appendF, putF, delF, insF, getF, appF, newF, oneD]
  rfl
theorem one_app (h : b.length + bs.length ≤ 100000) : appE (oneD b s md dd false) sf bs.length = 0 ∧ appD (oneD b s md dd false) sf bs = oneD (b ++ bs) s md (dd + 1) false := by
  have h1 : lookE (oneD b s md dd false).off [sf] = 0 := one_look
  have h5 : ¬ (oneD b s md dd false).fuse = 1 := by simp [oneD]
  unfold appE appD
  rw [h1, one_len, one_used]
  have h4 : (oneD b s md dd false).room = 100000 := rfl
  rw [h4]
  simp only [ne_eq, not_true_eq_false, if_false, if_neg (show ¬ 8388608 < b.length + bs.length by omega), if_neg (show ¬ 100000 < b.length + bs.length by omega), if_neg h5, true_and]
  unfold DM.tick
  rw [if_neg h5]
  unfold appendF
  rw [one_put, one_get]
  simp [oneD, appF]
theorem one_find : findE (oneD b s md dd false) sf [] = 0 := by
  have h1 : lookE (oneD b s md dd false).off [sf] = 0 := one_look
  unfold findE noneE
  rw [h1, one_get]; simp
theorem one_sync : syncE (oneD b s md dd false) sf = 0 ∧ syncD (oneD b s md dd false) sf = oneD b b.length true (dd + 1) false := by
  have h5 : ¬ (oneD b s md dd false).fuse = 1 := by simp [oneD]
  unfold syncE syncD deedE DM.deed syncF
  rw [one_find]
  simp only [if_true, if_neg h5, true_and]
  have hg := one_get (b := b) (s := s) (md := md) (dd := dd) (off := false)
  cases hh : getF sf.data.toList (oneD b s md dd false).fs with
  | none => rw [hh] at hg; cases hg
  | some x =>
    rw [hh] at hg; cases hg
    simp [oneD, cutF, putF, delF, insF]
theorem one_crash : crashD (oneD b s md dd off) = oneD b s md dd true := by simp [crashD, oneD]
theorem one_on (keep : Int) : onD (oneD b s true dd true) [keep] = oneD (b.take (s + (keep % ((b.length - s : Nat) + 1)).toNat)) (s + (keep % ((b.length - s : Nat) + 1)).toNat) true dd false := by
  simp [onD, oneD, onF, stays, stay1, stayN, wishOf, cutF]
theorem one_read : readB (oneD b s md dd false) sf = b := by
  unfold readB
  rw [one_find]
  have hg := one_get (b := b) (s := s) (md := md) (dd := dd) (off := false)
  cases hh : getF sf.data.toList (oneD b s md dd false).fs with
  | none => rw [hh] at hg; cases hg
  | some x => rw [hh] at hg; cases hg; rfl
end
end Go.Proofs.Ytiagoaaldpajmaa
namespace Go.Proofs.Ytiagoaaldpajmaa
open Go.ChangeShapes Go.WideShapes Go.ChangeAt Go.RowKit
set_option linter.unusedVariables false

theorem progLaid : laidOutB Try.prog = true := by kernel_rfl
theorem ownKnob_none : ownKnob Try.prog.godebug = none := by kernel_rfl

section
variable {H : Type} {enc : TypeId × Value → H} {P : Program}
theorem trodAll_later (hl : laidOutB P = true) {W W' : World} (hb : Below W.heap.size W W') {sp : Nat → Bool} :
    ∀ (ts : List TypeId) (vs : List Value) (ds : List (DataW H)) (ps : List MemPlace), (∀ t ∈ ts, P.readableRec t = true ∧ t < P.types.size) →
      DataW.TrodAll enc P W 0 (fun _ => true) true ts vs ds ps → (∀ x ∈ ps, x.block < W.heap.size) → (∀ x ∈ ps, sp x.block = true) → DataW.TrodAll enc P W' 0 sp true ts vs ds ps := by
  intro ts
  induction ts with
  | nil =>
    intro vs ds ps _ h _ _
    cases vs with
    | nil => cases ds with
      | nil => exact h
      | cons d ds => exact h.elim
    | cons v vs => cases ds <;> exact h.elim
  | cons t ts ih =>
    intro vs ds ps hts h hlt hsp
    cases vs with
    | nil => cases ds <;> exact h.elim
    | cons v vs => cases ds with
      | nil => exact h.elim
      | cons d ds =>
        obtain ⟨p, q, h1, h2, rfl⟩ := h
        exact ⟨p, q, WideElems.Trod_stays hl (hts t (by simp)).1 (hts t (by simp)).2 h1 (fun x hx => hb.same (hlt x (by simp [hx]))) (fun x hx => hsp x (by simp [hx])),
          ih vs ds q (fun t' h' => hts t' (by simp [h'])) h2 (fun x hx => hlt x (by simp [hx])) (fun x hx => hsp x (by simp [hx])), rfl⟩

/-- A LAW's POST: it answered true, and nothing that was there has turned. -/
theorem law_post (hl : laidOutB P = true) {f : Func} {s : ChangeSpec} {W W' : World} {args : Array Value} {ds gs : List (DataW H)} {before : List MemPlace} {tb : TypeId}
    (hW : DataW.Whole enc P f.params.toList s.vars false W args.toList ds gs before) (hv : s.vars = [])
    (hts : ∀ t ∈ f.params.toList, P.readableRec t = true ∧ t < P.types.size) (hr : f.resultTypes = #[tb]) (htb : P.underlying tb = some .bool)
    (hfn : (s.fn H (ds ++ gs)) = { results := [.lit (.bool true)], args := ds }) (hb : Below W.heap.size W W') :
    s.post enc P f false true false false W args (.bool true) W' := by
  have hlt : ∀ p ∈ before, p.block < W.heap.size := fun p hp => hW.lt p hp
  obtain ⟨p, q, hA, hV, e, hfz, hnd⟩ := id hW
  rw [hv] at hV
  obtain ⟨rfl, rfl⟩ := trodVars_none hV
  simp only [List.append_nil] at e
  subst e
  have hargs : ∀ sp : Nat → Bool, (∀ x ∈ before, sp x.block = true) → DataW.TrodAll enc P W' 0 sp true f.params.toList args.toList ds before :=
    fun sp hsp => trodAll_later hl hb _ _ _ _ hts hA hlt hsp
  have hold : ∀ x ∈ before, (fun b => decide (b < W.heap.size)) x.block = true := fun x hx => by simpa using hlt x hx
  have hone : ∀ (sp : Nat → Bool) (hd : Bool) (b : Nat), DataW.TrodAll enc P W' b sp hd f.resultTypes.toList ((Value.bool true).resultList f.resultTypes.size) [.lit (.bool true)] [] := by
    intro sp hd b; rw [hr]; exact trodAll_cons_mk (shut_bool htb _) trodAll_mk0
  have hvars : ∀ sp : Nat → Bool, DataW.TrodVars enc P W' sp s.vars [] [] := by intro sp; rw [hv]; exact rfl
  refine ⟨ds, [], before, [], before, [], hW, ?_, ?_, ?_, World.keptBut_mono (fun x hx => ⟨hx, by simp [hx]⟩) (hb.frame (· ∈ before)), fun _ => ?_⟩
  · rw [hfn]; exact hone _ _ _
  · rw [hfn]; exact hargs _ hold
  · rw [hfn]; exact hvars _
  · refine ⟨ok_one hr rfl (okWide_bool_mk htb _), _, _, ([] ++ before) ++ [], ⟨[] ++ before, [], trodAll_append (hargs _ (fun _ _ => rfl)) (hone _ _ _), hvars _, rfl, ?_, ?_⟩, ?_⟩
    · intro b off hp
      have hin : MemPlace.cell b off ∈ before := by simpa using hp
      rw [hb.frozen (hlt _ hin)]
      exact hfz b off hin
    · intro ha; exact absurd ha (by decide)
    · intro x hx _
      simpa using hx

theorem cell_lt {w : World} {a : Addr} {v : Value} (h : w.cell? a = some v) : a.block < w.heap.size := by
  by_cases hlt : a.block < w.heap.size
  · exact hlt
  · unfold World.cell? at h; rw [Array.getElem?_eq_none (by omega)] at h; cases h
theorem u8_wf {n : Int} (h : (Lit.int .u8 n).wf = true) : 0 ≤ n ∧ n ≤ 255 := by
  simpa [Lit.wf, IntKind.min, IntKind.max, IntKind.signed, IntKind.bits] using h

/-- a []byte that came in: nil, empty, or not -/
theorem open_bytes {t e : TypeId} (ht : P.underlying t = some (.slice e)) (he : P.underlying e = some (.int .u8)) (hc : P.cellsOf e = 1) {W : World} {base : Nat} {v : Value} {d : DataW H} {p : List MemPlace}
    (hok : Value.okWide P W .any base t v) (h : DataW.Trod enc P W 0 (fun _ => true) true t v d p) :
    ∃ (A : Option Addr) (xs : List Nat) (c : Nat), v = .slice A xs.length c ∧ Bytes W A xs ∧ xs.length ≤ c ∧ c ≤ maxLen ∧ (A = none → c = 0) := by
  obtain ⟨A, len, cap, rfl⟩ := okWide_slice ht hok
  obtain ⟨fuel, hf⟩ := h
  rcases open_ints ht he hc hf with ⟨hcs, _⟩ | ⟨a, len', cap', zs, hcs, _, hl, hm, hz, _, hcell, hwz⟩
  · simp [Value.cells] at hcs
    obtain ⟨rfl, rfl, rfl⟩ := hcs
    exact ⟨none, [], 0, rfl, ⟨by simp, by simp⟩, by simp, by simp, fun _ => rfl⟩
  · simp [Value.cells] at hcs
    obtain ⟨rfl, rfl, rfl⟩ := hcs
    simp only [if_true] at hz
    have hlen : ((zs.take len).map Int.toNat).length = len := by simp; omega
    refine ⟨some a, (zs.take len).map Int.toNat, cap, by rw [hlen], ⟨?_, fun h0 => ⟨a, rfl, ?_, ?_⟩⟩, by omega, hm, by simp⟩
    · intro x hx
      obtain ⟨z, hz1, rfl⟩ := List.mem_map.1 hx
      have := u8_wf (hwz z (List.mem_of_mem_take hz1))
      omega
    · have := cell_lt (hcell 0 (by omega))
      rwa [add_block] at this
    · intro j x hx
      rw [List.getElem?_map] at hx
      by_cases hj : j < len
      · have hj2 : j < zs.length := by omega
        rw [List.getElem?_take, if_pos hj, List.getElem?_eq_getElem hj2] at hx
        simp at hx
        have hw := u8_wf (hwz _ (List.getElem_mem hj2))
        rw [hcell j hj2]
        have e : zs.getD j 0 = zs[j] := by simp [List.getD_eq_getElem?_getD, hj2]
        rw [e, ← hx]
        congr 3; omega
      · rw [List.getElem?_take, if_neg hj] at hx; simp at hx
theorem u32_wf {n : Int} (h : (Lit.int .u32 n).wf = true) : 0 ≤ n ∧ n ≤ 4294967295 := by
  simpa [Lit.wf, IntKind.min, IntKind.max, IntKind.signed, IntKind.bits] using h
theorem u16_wf {n : Int} (h : (Lit.int .u16 n).wf = true) : 0 ≤ n ∧ n ≤ 65535 := by
  simpa [Lit.wf, IntKind.min, IntKind.max, IntKind.signed, IntKind.bits] using h
end
theorem cells_u8 : Try.prog.cellsOf 5 = 1 := by kernel_rfl
end Go.Proofs.Ytiagoaaldpajmaa
namespace Go.Proofs.Ytiagoaaldpajmaa
open Go.ChangeShapes Go.WideShapes Go.ChangeAt Go.RowKit Go.BigFrame
set_option linter.unusedVariables false
section
variable {w w' : World}
/-- Stays of one wish -/
theorem stays_any (b : Nat) (keep : Int) (u : Nat) (hk : -9223372036854775808 ≤ keep ∧ keep ≤ 9223372036854775807) (hu : u ≤ 100000) (hc : w.cell? ⟨b, 0, none⟩ = some (.int .i64 keep)) :
    Calls Try.prog 22 #[.slice (some ⟨b, 0, none⟩) 1 1, .int .i64 0, .int .i64 (u : Nat)] w fun e w' => e = .returned (.int .i64 (keep % ((u : Int) + 1))) ∧ w = w' := by
  obtain ⟨hk1, hk2⟩ := hk
  have t1 : keep.tmod ((u : Int) + 1) < (u : Int) + 1 := Int.tmod_lt_of_pos _ (by omega)
  have t2 : -((u : Int) + 1) < keep.tmod ((u : Int) + 1) := by have := Int.lt_tmod_of_pos keep (show 0 < (u : Int) + 1 by omega); omega
  have e1 : keep % ((u : Int) + 1) = if keep.tmod ((u : Int) + 1) < 0 then keep.tmod ((u : Int) + 1) + (u : Int) + 1 else keep.tmod ((u : Int) + 1) := by
    have h0 : keep % ((u : Int) + 1) = (keep.tmod ((u : Int) + 1)) % ((u : Int) + 1) := by rw [Int.tmod_def, Int.sub_mul_emod_self_left]
    rw [h0]
    generalize keep.tmod ((u : Int) + 1) = t at t1 t2
    by_cases hn : t < 0
    · rw [if_pos hn, ← Int.add_emod_right, Int.emod_eq_of_lt (by omega) (by omega)]; omega
    · rw [if_neg hn, Int.emod_eq_of_lt (by omega) (by omega)]
  have E1 := Lib.hid e1; clear e1
  by_cases hn : keep.tmod ((u : Int) + 1) < 0
  · have e2 : keep % ((u : Int) + 1) = keep.tmod ((u : Int) + 1) + (u : Int) + 1 := by rw [E1.out, if_pos hn]
    rw [e2]
    clear e2 E1
    go_enter Try.func22, Try.ntmps22
    go_wp2
    go_ret
    exact ⟨rfl, rfl⟩
  · have e2 : keep % ((u : Int) + 1) = keep.tmod ((u : Int) + 1) := by rw [E1.out, if_neg hn]
    rw [e2]
    clear e2 E1
    go_enter Try.func22, Try.ntmps22
    go_wp2
    go_ret
    exact ⟨rfl, rfl⟩
/-- a slice of strings -/
def Strs (w : World) (A : Option Addr) (ss : List ByteArray) : Prop :=
  (∀ s ∈ ss, s.size ≤ 9223372036854775807) ∧ (0 < ss.length → ∃ b off, A = some ⟨b, off, none⟩ ∧ b < w.heap.size ∧ ∀ (j : Nat) (s : ByteArray), ss[j]? = some s → w.cell? ⟨b, off + j, none⟩ = some (.string s))
theorem Strs.below {A : Option Addr} {ss : List ByteArray} (h : Strs w A ss) (hb : Below w.heap.size w w') : Strs w' A ss :=
  ⟨h.1, fun h0 => by
    obtain ⟨b, off, e, hlt, hc⟩ := h.2 h0
    exact ⟨b, off, e, Nat.lt_of_lt_of_le hlt hb.size, fun j s hj => (World.cell?_of_block (hb.block b hlt)).trans (hc j s hj)⟩⟩
theorem plain_addr {a : Addr} {v : Value} (h : w.cell? a = some v) : ∃ b off, a = ⟨b, off, none⟩ := by
  obtain ⟨b, off, spot⟩ := a
  cases spot with
  | none => exact ⟨b, off, rfl⟩
  | some q =>
    exfalso
    unfold World.cell? at h
    cases hh : w.heap[b]? with
    | none => simp [hh] at h
    | some o => cases o <;> simp [hh] at h
theorem plain_add {b off j : Nat} : (⟨b, off, none⟩ : Addr).add j = ⟨b, off + j, none⟩ := by
  cases j <;> simp [Addr.add]
end
section
variable {H : Type} {enc : TypeId × Value → H} {P : Program}
theorem open_strs {t e : TypeId} (ht : P.underlying t = some (.slice e)) (he : P.underlying e = some .string) (hc : P.cellsOf e = 1) {W : World} {base : Nat} {v : Value} {d : DataW H} {p : List MemPlace}
    (hok : Value.okWide P W .any base t v) (h : DataW.Trod enc P W 0 (fun _ => true) true t v d p) :
    ∃ (A : Option Addr) (ss : List ByteArray) (c : Nat), v = .slice A ss.length c ∧ Strs W A ss ∧ ss.length ≤ c ∧ c ≤ 9223372036854775807 ∧ (A = none → c = 0) := by
  obtain ⟨A, len, cap, rfl⟩ := okWide_slice ht hok
  obtain ⟨fuel, hf⟩ := h
  rcases open_strings ht he hc hf with ⟨hcs, _⟩ | ⟨a, len', cap', ss, hcs, _, hl, hm, hz, _, hcell, hsz⟩
  · simp [Value.cells] at hcs
    obtain ⟨rfl, rfl, rfl⟩ := hcs
    exact ⟨none, [], 0, rfl, ⟨by simp, by simp⟩, by simp, by simp, fun _ => rfl⟩
  · simp [Value.cells] at hcs
    obtain ⟨rfl, rfl, rfl⟩ := hcs
    simp only [if_true] at hz
    have hlen : (ss.take len).length = len := by simp; omega
    refine ⟨some a, ss.take len, cap, by rw [hlen], ⟨fun s hs => ?_, fun h0 => ?_⟩, by omega, by unfold maxLen at hm; exact hm, by simp⟩
    · have := hsz s (List.mem_of_mem_take hs); unfold maxLen at this; exact this
    · have h1 := hcell 0 (by omega)
      have hlt := cell_lt h1
      rw [add_block] at hlt
      obtain ⟨b, off, rfl⟩ : ∃ b off, a = ⟨b, off, none⟩ := by
        obtain ⟨b, off, e⟩ := plain_addr h1
        obtain ⟨b', off', spot⟩ := a
        simp [Addr.add] at e
        exact ⟨b', off', by rw [e.2.2]⟩
      refine ⟨b, off, rfl, hlt, fun j s hj => ?_⟩
      have hj' := (List.getElem?_eq_some_iff.1 hj).1
      have h2 := hcell j (by simp at hj'; omega)
      rw [plain_add] at h2
      rw [h2]
      rw [List.getElem?_take] at hj
      split at hj
      · simp [List.getD_eq_getElem?_getD, hj]
      · cases hj
end
theorem cells_str : Try.prog.cellsOf 9 = 1 := by kernel_rfl
theorem i64_wf {n : Int} (h : (Lit.int .i64 n).wf = true) : -9223372036854775808 ≤ n ∧ n ≤ 9223372036854775807 := by
  simpa [Lit.wf, IntKind.min, IntKind.max, IntKind.signed, IntKind.bits] using h
theorem i16_wf {n : Int} (h : (Lit.int .i16 n).wf = true) : -32768 ≤ n ∧ n ≤ 32767 := by
  simpa [Lit.wf, IntKind.min, IntKind.max, IntKind.signed, IntKind.bits] using h
end Go.Proofs.Ytiagoaaldpajmaa
