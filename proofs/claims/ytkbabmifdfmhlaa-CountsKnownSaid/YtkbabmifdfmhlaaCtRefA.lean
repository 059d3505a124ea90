/- CtRefMath, CtRef, CtRefT, CtRefRow, CtRefAdd, CtPlays, CtLawPlays -/
import Derived.Test.YtkbabmifdfmhlaaCountMath
import Derived.Test.YtkbabmifdfmhlaaCtComA
import Derived.Test.YtkbabmifdfmhlaaFrRefOf
import Derived.Test.YtkbabmifdfmhlaaKey
import Derived.Test.YtkbabmifdfmhlaaFrRefEA
namespace Go.Proofs.Ytkbabmifdfmhlaa
set_option linter.unusedVariables false
section
set_option maxRecDepth 100000
/-- k of l stand ahead of t; is it there? -/
structure AtK (l : Cn) (t : St) (k : Nat) (b : Bool) : Prop where
  le : k ≤ l.length
  ahead : ∀ (j : Nat) (p : St × Int), j < k → l[j]? = some p → p.1.C t < 0
  not : ∀ p, l[k]? = some p → ¬ p.1.C t < 0
  here : b = true ↔ ∃ p, l[k]? = some p ∧ p.1 = t
section
variable {l : Cn} {t : St} {k : Nat} {b : Bool}
theorem AtK.no (hk : CnOk l) (h : AtK l t k false) : ∀ p ∈ l, p.1 ≠ t := by
  intro p hp e
  obtain ⟨j, hj⟩ := List.getElem?_of_mem hp
  have hjl := (List.getElem?_eq_some_iff.1 hj).1
  rcases Nat.lt_trichotomy j k with h1 | h1 | h1
  · have := h.ahead j p h1 hj
    rw [e] at this; exact St.C_irrefl this
  · subst h1
    have := h.here.2 ⟨p, hj, e⟩
    cases this
  · have hkl : k < l.length := by omega
    have hs := hk.sort
    rw [List.pairwise_iff_getElem] at hs
    have h2 := hs k j hkl hjl h1
    have h3 := h.not l[k] (List.getElem?_eq_getElem hkl)
    have h4 : l[j] = p := by rw [List.getElem?_eq_getElem hjl] at hj; exact Option.some.inj hj
    rw [h4, e] at h2
    exact h3 h2
theorem AtK.cnt_no (hk : CnOk l) (h : AtK l t k false) : cnt l t = 0 := cnt_of_not (h.no hk)
theorem AtK.cnt_yes (hk : CnOk l) (h : AtK l t k true) : ∃ p, l[k]? = some p ∧ p.1 = t ∧ p.2 = cnt l t := by
  obtain ⟨p, hp, e⟩ := h.here.1 rfl
  exact ⟨p, hp, e, by rw [← e]; exact (cnt_mem hk (List.mem_of_getElem? hp)).symm⟩
theorem delC_none (h : ∀ p ∈ l, p.1 ≠ t) : delC l t = l := by
  unfold delC; rw [List.filter_eq_self]; intro p hp; simpa using h p hp
theorem insC_front {p : St × Int} (h : ∀ q ∈ l, ¬ q.1.C p.1 < 0) : insC p l = p :: l := by
  cases l with
  | nil => rfl
  | cons y r => unfold insC; rw [if_neg (h y List.mem_cons_self)]
end
/-- the row with m in the place of t -/
def rowM (l : Cn) (t : St) (k : Nat) (b : Bool) (m : Int) : Cn := l.take k ++ (if m = 0 then [] else [(t, m)]) ++ l.drop (if b then k + 1 else k)
theorem rowM_is : ∀ (l : Cn) (t : St) (k : Nat) (b : Bool) (m : Int), CnOk l → AtK l t k b → rowM l t k b m = if m = 0 then delC l t else insC (t, m) (delC l t)
  | [], t, k, b, m, hk, h => by
    have h0 : k = 0 := by have := h.le; simpa using this
    subst h0
    have hb : b = false := by
      cases b with
      | false => rfl
      | true => obtain ⟨p, hp, _⟩ := h.here.1 rfl; simp at hp
    subst hb
    unfold rowM
    by_cases hm : m = 0 <;> simp [hm, delC, insC]
  | x :: r, t, 0, b, m, hk, h => by
    have hs := hk.sort
    rw [List.pairwise_cons] at hs
    have hx := h.not x rfl
    have hr : ∀ q ∈ r, ¬ q.1.C t < 0 := fun q hq hlt => hx (St.C_lt_trans (hs.1 q hq) hlt)
    have hne : ∀ q ∈ r, q.1 ≠ t := fun q hq e => hx (by have := hs.1 q hq; rw [e] at this; exact this)
    cases b with
    | true =>
      obtain ⟨p, hp, e⟩ := h.here.1 rfl
      have : x = p := by simpa using hp
      subst this
      have hd : delC (x :: r) t = r := by
        unfold delC
        rw [List.filter_cons, if_neg (by simp [e])]
        exact delC_none hne
      unfold rowM
      rw [hd, insC_front (p := (t, m)) hr]
      by_cases hm : m = 0 <;> simp [hm]
    | false =>
      have hxt : x.1 ≠ t := fun e => by
        have := h.here.2 ⟨x, rfl, e⟩; cases this
      have hd : delC (x :: r) t = x :: r := delC_none (by
        intro p hp
        rcases List.mem_cons.1 hp with e | hp
        · rw [e]; exact hxt
        · exact hne p hp)
      unfold rowM
      rw [hd, insC_front (p := (t, m)) (by
        intro p hp
        rcases List.mem_cons.1 hp with e | hp
        · rw [e]; exact hx
        · exact hr p hp)]
      by_cases hm : m = 0 <;> simp [hm]
  | x :: r, t, k + 1, b, m, hk, h => by
    have hs := hk.sort
    rw [List.pairwise_cons] at hs
    have hx := h.ahead 0 x (by omega) rfl
    have hxt : x.1 ≠ t := fun e => by rw [e] at hx; exact St.C_irrefl hx
    have hkr : CnOk r := ⟨hs.2, fun p hp => hk.zero p (List.mem_cons_of_mem _ hp)⟩
    have hr : AtK r t k b := ⟨by have := h.le; simp at this; exact this, fun j p hj hp => h.ahead (j + 1) p (by omega) (by simpa using hp), fun p hp => h.not p (by simpa using hp), by
      rw [h.here]; simp⟩
    have ih := rowM_is r t k b m hkr hr
    have hd : delC (x :: r) t = x :: delC r t := by
      unfold delC
      rw [List.filter_cons, if_pos (by simpa using hxt)]
    have hl : rowM (x :: r) t (k + 1) b m = x :: rowM r t k b m := by
      unfold rowM
      cases b <;> simp
    rw [hl, ih, hd]
    by_cases hm : m = 0
    · simp [hm]
    · rw [if_neg hm, if_neg hm]
      conv => rhs; unfold insC
      rw [if_pos hx]
end

section
open Go.ChangeShapes Go.WideShapes Go.ChangeAt Go.RowKit Go.BigFrame Go.Shelf
set_option maxRecDepth 100000
/-- the document's counts: a row at A -/
structure Rf (w : World) (A : Option Addr) (c : Nat) (l : Cn) : Prop where
  ps : Ps w A l
  le : l.length ≤ c
  max : c ≤ maxLen
  at_ : (A = none ∧ c = 0) ∨ ∃ g, A = some ⟨g, 0, none⟩ ∧ ∃ r, Row w g 64 r
theorem Rf.below {w w' : World} {A : Option Addr} {c : Nat} {l : Cn} (h : Rf w A c l) (hb : Below w.heap.size w w') : Rf w' A c l :=
  ⟨h.ps.kept hb, h.le, h.max, h.at_.imp id fun ⟨g, e, r, hr⟩ => ⟨g, e, r, hr.below hb hr.lt⟩⟩
theorem Rf.touch {F : Nat → Prop} {w w' : World} {A : Option Addr} {c : Nat} {l : Cn} (h : Rf w A c l) (ht : Touch F w w') (hF : ∀ g r, A = some ⟨g, 0, none⟩ → Row w g 64 r → ¬ F g) : Rf w' A c l := by
  rcases h.at_ with ⟨rfl, h0⟩ | ⟨g, rfl, r, hr⟩
  · refine ⟨fun hn => ?_, h.le, h.max, .inl ⟨rfl, h0⟩⟩
    obtain ⟨b, o, e, _⟩ := h.ps hn
    cases e
  · have hr' := hr.touch ht (hF g r rfl hr)
    refine ⟨fun hn => ?_, h.le, h.max, .inr ⟨g, rfl, r, hr'⟩⟩
    obtain ⟨b, o, e, hlt, hc⟩ := h.ps hn
    cases e
    refine ⟨g, 0, rfl, hr'.lt, fun j u hu => ?_⟩
    have h1 := hc j u hu
    rw [hr.cell] at h1
    rw [hr'.cell]; exact h1
theorem load_sl {W : World} {g n c : Nat} {d : Int} {A : Option Addr} (h : Row W g 31 [.int .i64 d, .slice A n c]) : ∀ w', Below W.heap.size W w' → (Instr.loadAt 29 (.pointer (some ⟨g, 1, none⟩))).run Try.prog w' = .ok (.slice A n c) w' := by
  intro w' hb
  have hc : w'.cell? ⟨g, 1, none⟩ = some (.slice A n c) := (h.below hb h.lt).cell 1
  go_simp
def Placed (w : World) (l : Cn) (t : St) (e : Ending) (w' : World) : Prop := (∃ (k : Nat) (b : Bool), e = .returned (.tuple #[.int .i64 (k : Nat), .bool b]) ∧ AtK l t k b) ∧ Below w.heap.size w w'
theorem in_any (n : Int) (w : World) : Calls Try.prog 38 #[.int .i64 n] w fun e w' => e = .returned (.bool (decide (Nr n))) ∧ w = w' := by
  by_cases h1 : -1099511627776 ≤ n
  · by_cases h2 : n ≤ 1099511627776
    · have hv : decide (Nr n) = true := decide_eq_true ⟨h1, h2⟩
      rw [hv]; clear hv
      go_enter Try.func38, Try.ntmps38
      go_wp2
      go_ret
      exact ⟨rfl, rfl⟩
    · have hv : decide (Nr n) = false := decide_eq_false fun h => h2 h.2
      rw [hv]; clear hv
      go_enter Try.func38, Try.ntmps38
      go_wp2
      go_ret
      exact ⟨rfl, rfl⟩
  · have hv : decide (Nr n) = false := decide_eq_false fun h => h1 h.1
    rw [hv]; clear hv
    go_enter Try.func38, Try.ntmps38
    go_wp2
    go_ret
    exact ⟨rfl, rfl⟩
set_option maxHeartbeats 8000000 in
theorem place_any (A : Option Addr) (l : Cn) (c : Nat) (d : Int) (t : St) (w : World) (h : Rf w A c l) (hn : l.length ≤ 1000) :
    Calls Try.prog 37 #[.agg #[.int .i64 d, .slice A l.length c], t.val] w (Placed w l t) := by
  have hB0 := ((Below.refl w.heap.size w).alloc (Nat.le_refl _) (.cells #[.int .i64 d, .slice A l.length c] 31)).alloc (by simp) (.cells #[.int .i64 t.d, .int .i64 t.e, .int .i64 t.x, .int .i64 t.y, .int .i64 t.z] 25)
  have hr2 : Row ((w.alloc (.cells #[.int .i64 d, .slice A l.length c] 31)).alloc (.cells #[.int .i64 t.d, .int .i64 t.e, .int .i64 t.x, .int .i64 t.y, .int .i64 t.z] 25)) w.heap.size 31 [.int .i64 d, .slice A l.length c] := Row.alloc (Row.made w _ _) _
  have hx := Holds.made (w.alloc (.cells #[.int .i64 d, .slice A l.length c] 31)) t
  rw [size_alloc] at hx
  have hp := h.below hB0
  have HB0 := Lib.hid hB0; have HR := Lib.hid hr2; have HX := Lib.hid hx; have HP := Lib.hid hp.ps; clear hB0 hr2 hx hp h
  unfold St.val at *
  go_enter Try.func37, Try.ntmps37
  go_wp2_with fail
  generalize (w.alloc (.cells #[.int .i64 d, .slice A l.length c] 31)).alloc (.cells #[.int .i64 t.d, .int .i64 t.e, .int .i64 t.x, .int .i64 t.y, .int .i64 t.z] 25) = w0 at *
  go_loopw [6] (fun i wr => ∃ k : Nat, k ≤ l.length ∧ i = .int .i64 k ∧ Below w0.heap.size w0 wr ∧ ∀ (j : Nat) (p : St × Int), j < k → l[j]? = some p → p.1.C t < 0) (fun i _ => l.length - (intOf i).toNat)
  case atStart => exact ⟨0, by omega, rfl, Below.refl _ _, fun j p hj => absurd hj (by omega)⟩
  case round =>
    obtain ⟨k, hk, rfl, hb, hah⟩ := hrel
    have HB := Lib.hid hb; have HAH := Lib.hid hah; clear hb hah
    have hrl := HR.out.below HB.out HR.out.lt
    have hxl := HX.out.below HB.out
    have HRL := Lib.hid hrl; have HXL := Lib.hid hxl; clear hrl hxl
    by_cases hlt : k < l.length
    · have hltz : (k : Int) < (l.length : Int) := by omega
      obtain ⟨p, hp⟩ : ∃ p, l[k]? = some p := ⟨_, List.getElem?_eq_getElem hlt⟩
      obtain ⟨b, o, rfl, hbl, hlt1, -⟩ := HP.out.loadT hp
      obtain ⟨s, hs⟩ : ∃ s, p.1 = s := ⟨_, rfl⟩
      rw [hs] at hlt1
      have hld : ∀ w', Below wr.heap.size wr w' → (Instr.loadAt 25 (.pointer (some ⟨b, o + k * 6, none⟩))).run Try.prog w' = .ok (.agg #[.int .i64 s.d, .int .i64 s.e, .int .i64 s.x, .int .i64 s.y, .int .i64 s.z]) w' := fun w' hw => hlt1 w' (HB.out.trans (hw.mono HB.out.size))
      have hg : decide ((k : Int) < (l.length : Int)) = true := decide_eq_true hltz
      have hc := fun w => refCompare_any s t w
      obtain ⟨cc, hcc⟩ : ∃ cc, s.C t = cc := ⟨_, rfl⟩
      rw [hcc] at hc
      unfold St.val at hc
      have HLD := Lib.hid hld; have HG := Lib.hid hg; have HC := Lib.hid hc; have HPS := Lib.hid (And.intro hp (And.intro hs hcc))
      clear hld hg hc hp hs hcc hlt1 hbl
      by_cases hv : cc < 0
      · have hv' : decide (cc < 0) = true := decide_eq_true hv
        have HV := Lib.hid hv'; clear hv'
        go_wp2_with fail
        refine wp_region_below (by kernel_rfl) (by kernel_rfl) ?_
        refine wpQuiet_step (fun K hK => ?_); go_simp; (first | (with_reducible refine hK _ ?_) | (with_reducible refine ⟨_, fun _ _ => rfl, hK _ ?_⟩)); clear hK K
        refine wpQuiet_step (fun K hK => ?_); go_simp; (first | (with_reducible refine hK _ ?_) | (with_reducible refine ⟨_, fun _ _ => rfl, hK _ ?_⟩)); clear hK K
        refine wpQuiet_step (fun K hK => ?_); refine q_load (p := .pointer (some ⟨w.heap.size, 1, none⟩)) 29 _ rfl rfl rfl (load_sl HRL.out) ?_; go_simp; (with_reducible refine hK _ ?_); clear hK K
        refine wpQuiet_step (fun K hK => ?_); go_simp; (first | (with_reducible refine hK _ ?_) | (with_reducible refine ⟨_, fun _ _ => rfl, hK _ ?_⟩)); clear hK K
        refine wpQuiet_step (fun K hK => ?_); refine q_bin _ _ _ _ _ rfl rfl rfl rfl (lti_is HG.out) ?_; go_simp; (with_reducible refine hK _ ?_); clear hK K
        refine wpQuiet_step (fun K hK => ?_); go_simp; (first | (with_reducible refine hK _ ?_) | (with_reducible refine ⟨_, fun _ _ => rfl, hK _ ?_⟩)); clear hK K
        refine wpQuiet_step (fun K hK => ?_); go_simp; (first | (with_reducible refine hK _ ?_) | (with_reducible refine ⟨_, fun _ _ => rfl, hK _ ?_⟩)); clear hK K
        refine wpQuiet_step (fun K hK => ?_); refine q_load (p := .pointer (some ⟨w.heap.size, 1, none⟩)) 29 _ rfl rfl rfl (load_sl HRL.out) ?_; go_simp; (with_reducible refine hK _ ?_); clear hK K
        refine wpQuiet_step (fun K hK => ?_); go_simp; (first | (with_reducible refine hK _ ?_) | (with_reducible refine ⟨_, fun _ _ => rfl, hK _ ?_⟩)); clear hK K
        refine wpQuiet_step (fun K hK => ?_); go_simp; (first | (with_reducible refine hK _ ?_) | (with_reducible refine ⟨_, fun _ _ => rfl, hK _ ?_⟩)); clear hK K
        refine wpQuiet_step (fun K hK => ?_); go_simp; (first | (with_reducible refine hK _ ?_) | (with_reducible refine ⟨_, fun _ _ => rfl, hK _ ?_⟩)); clear hK K
        refine wpQuiet_step (fun K hK => ?_); refine q_load (p := .pointer (some ⟨b, o + k * 6, none⟩)) 25 _ rfl rfl rfl (HLD.out) ?_; go_simp; (with_reducible refine hK _ ?_); clear hK K
        refine wpQuiet_step (fun K hK => ?_); refine q_load (p := .pointer (some ⟨w.heap.size + 1, 0, none⟩)) 25 _ rfl rfl rfl (load_t HXL.out) ?_; go_simp; (with_reducible refine hK _ ?_); clear hK K
        refine wpQuiet_step (fun K hK => ?_); go_simp; (with_reducible refine ⟨_, fun _ hb => (HC.out _).mono fun _ _ h => ⟨h.1, hb.trans (h.2.mono (by simpa using hb.size))⟩, hK _ ?_⟩); clear hK K
        refine wpQuiet_step (fun K hK => ?_); refine q_bin _ _ _ _ _ rfl rfl rfl rfl (lti_is HV.out) ?_; go_simp; (with_reducible refine hK _ ?_); clear hK K
        refine wpQuiet_step (fun K hK => ?_); go_simp; (first | (with_reducible refine hK _ ?_) | (with_reducible refine ⟨_, fun _ _ => rfl, hK _ ?_⟩)); clear hK K
        refine wpQuiet_nil ?_
        intro w1 hb1
        have HB1 := Lib.hid (HB.out.trans (hb1.mono HB.out.size)); clear hb1
        go_wp2_with fail
        go_roundw
        case rel =>
          refine ⟨k + 1, by omega, by simp, HB1.out, fun j q hj hq => ?_⟩
          by_cases e : j = k
          · rw [e, HPS.out.1] at hq; cases hq
            rw [HPS.out.2.1, HPS.out.2.2]; exact hv
          · exact HAH.out j q (by omega) hq
        case measure => simp only [intOf]; omega
      · have hv' : decide (cc < 0) = false := decide_eq_false hv
        have HV := Lib.hid hv'; clear hv'
        go_wp2_with fail
        refine wp_region_below (by kernel_rfl) (by kernel_rfl) ?_
        refine wpQuiet_step (fun K hK => ?_); go_simp; (first | (with_reducible refine hK _ ?_) | (with_reducible refine ⟨_, fun _ _ => rfl, hK _ ?_⟩)); clear hK K
        refine wpQuiet_step (fun K hK => ?_); go_simp; (first | (with_reducible refine hK _ ?_) | (with_reducible refine ⟨_, fun _ _ => rfl, hK _ ?_⟩)); clear hK K
        refine wpQuiet_step (fun K hK => ?_); refine q_load (p := .pointer (some ⟨w.heap.size, 1, none⟩)) 29 _ rfl rfl rfl (load_sl HRL.out) ?_; go_simp; (with_reducible refine hK _ ?_); clear hK K
        refine wpQuiet_step (fun K hK => ?_); go_simp; (first | (with_reducible refine hK _ ?_) | (with_reducible refine ⟨_, fun _ _ => rfl, hK _ ?_⟩)); clear hK K
        refine wpQuiet_step (fun K hK => ?_); refine q_bin _ _ _ _ _ rfl rfl rfl rfl (lti_is HG.out) ?_; go_simp; (with_reducible refine hK _ ?_); clear hK K
        refine wpQuiet_step (fun K hK => ?_); go_simp; (first | (with_reducible refine hK _ ?_) | (with_reducible refine ⟨_, fun _ _ => rfl, hK _ ?_⟩)); clear hK K
        refine wpQuiet_step (fun K hK => ?_); go_simp; (first | (with_reducible refine hK _ ?_) | (with_reducible refine ⟨_, fun _ _ => rfl, hK _ ?_⟩)); clear hK K
        refine wpQuiet_step (fun K hK => ?_); refine q_load (p := .pointer (some ⟨w.heap.size, 1, none⟩)) 29 _ rfl rfl rfl (load_sl HRL.out) ?_; go_simp; (with_reducible refine hK _ ?_); clear hK K
        refine wpQuiet_step (fun K hK => ?_); go_simp; (first | (with_reducible refine hK _ ?_) | (with_reducible refine ⟨_, fun _ _ => rfl, hK _ ?_⟩)); clear hK K
        refine wpQuiet_step (fun K hK => ?_); go_simp; (first | (with_reducible refine hK _ ?_) | (with_reducible refine ⟨_, fun _ _ => rfl, hK _ ?_⟩)); clear hK K
        refine wpQuiet_step (fun K hK => ?_); go_simp; (first | (with_reducible refine hK _ ?_) | (with_reducible refine ⟨_, fun _ _ => rfl, hK _ ?_⟩)); clear hK K
        refine wpQuiet_step (fun K hK => ?_); refine q_load (p := .pointer (some ⟨b, o + k * 6, none⟩)) 25 _ rfl rfl rfl (HLD.out) ?_; go_simp; (with_reducible refine hK _ ?_); clear hK K
        refine wpQuiet_step (fun K hK => ?_); refine q_load (p := .pointer (some ⟨w.heap.size + 1, 0, none⟩)) 25 _ rfl rfl rfl (load_t HXL.out) ?_; go_simp; (with_reducible refine hK _ ?_); clear hK K
        refine wpQuiet_step (fun K hK => ?_); go_simp; (with_reducible refine ⟨_, fun _ hb => (HC.out _).mono fun _ _ h => ⟨h.1, hb.trans (h.2.mono (by simpa using hb.size))⟩, hK _ ?_⟩); clear hK K
        refine wpQuiet_step (fun K hK => ?_); refine q_bin _ _ _ _ _ rfl rfl rfl rfl (lti_is HV.out) ?_; go_simp; (with_reducible refine hK _ ?_); clear hK K
        refine wpQuiet_step (fun K hK => ?_); go_simp; (first | (with_reducible refine hK _ ?_) | (with_reducible refine ⟨_, fun _ _ => rfl, hK _ ?_⟩)); clear hK K
        refine wpQuiet_nil ?_
        intro w1 hb1
        have hrl := HRL.out.below hb1 HRL.out.lt
        have hxl := HXL.out.below hb1
        have hld2 : ∀ w', Below w1.heap.size w1 w' → (Instr.loadAt 25 (.pointer (some ⟨b, o + k * 6, none⟩))).run Try.prog w' = .ok (.agg #[.int .i64 s.d, .int .i64 s.e, .int .i64 s.x, .int .i64 s.y, .int .i64 s.z]) w' := fun w' hw => HLD.out w' (hb1.trans (hw.mono hb1.size))
        have HLM := Lib.hid hld2; clear hld2
        have HB1 := Lib.hid (HB.out.trans (hb1.mono HB.out.size)); have HRM := Lib.hid hrl; have HXM := Lib.hid hxl; clear hb1 hrl hxl
        go_wp2_with fail
        refine wp_region_below (by kernel_rfl) (by kernel_rfl) ?_
        refine wpQuiet_step (fun K hK => ?_); go_simp; (first | (with_reducible refine hK _ ?_) | (with_reducible refine ⟨_, fun _ _ => rfl, hK _ ?_⟩)); clear hK K
        refine wpQuiet_step (fun K hK => ?_); go_simp; (first | (with_reducible refine hK _ ?_) | (with_reducible refine ⟨_, fun _ _ => rfl, hK _ ?_⟩)); clear hK K
        refine wpQuiet_step (fun K hK => ?_); go_simp; (first | (with_reducible refine hK _ ?_) | (with_reducible refine ⟨_, fun _ _ => rfl, hK _ ?_⟩)); clear hK K
        refine wpQuiet_step (fun K hK => ?_); refine q_load (p := .pointer (some ⟨w.heap.size, 1, none⟩)) 29 _ rfl rfl rfl (load_sl HRM.out) ?_; go_simp; (with_reducible refine hK _ ?_); clear hK K
        refine wpQuiet_step (fun K hK => ?_); go_simp; (first | (with_reducible refine hK _ ?_) | (with_reducible refine ⟨_, fun _ _ => rfl, hK _ ?_⟩)); clear hK K
        refine wpQuiet_step (fun K hK => ?_); refine q_bin _ _ _ _ _ rfl rfl rfl rfl (lti_is HG.out) ?_; go_simp; (with_reducible refine hK _ ?_); clear hK K
        refine wpQuiet_step (fun K hK => ?_); go_simp; (first | (with_reducible refine hK _ ?_) | (with_reducible refine ⟨_, fun _ _ => rfl, hK _ ?_⟩)); clear hK K
        refine wpQuiet_step (fun K hK => ?_); go_simp; (first | (with_reducible refine hK _ ?_) | (with_reducible refine ⟨_, fun _ _ => rfl, hK _ ?_⟩)); clear hK K
        refine wpQuiet_step (fun K hK => ?_); refine q_load (p := .pointer (some ⟨w.heap.size, 1, none⟩)) 29 _ rfl rfl rfl (load_sl HRM.out) ?_; go_simp; (with_reducible refine hK _ ?_); clear hK K
        refine wpQuiet_step (fun K hK => ?_); go_simp; (first | (with_reducible refine hK _ ?_) | (with_reducible refine ⟨_, fun _ _ => rfl, hK _ ?_⟩)); clear hK K
        refine wpQuiet_step (fun K hK => ?_); go_simp; (first | (with_reducible refine hK _ ?_) | (with_reducible refine ⟨_, fun _ _ => rfl, hK _ ?_⟩)); clear hK K
        refine wpQuiet_step (fun K hK => ?_); go_simp; (first | (with_reducible refine hK _ ?_) | (with_reducible refine ⟨_, fun _ _ => rfl, hK _ ?_⟩)); clear hK K
        refine wpQuiet_step (fun K hK => ?_); refine q_load (p := .pointer (some ⟨b, o + k * 6, none⟩)) 25 _ rfl rfl rfl (HLM.out) ?_; go_simp; (with_reducible refine hK _ ?_); clear hK K
        refine wpQuiet_step (fun K hK => ?_); refine q_load (p := .pointer (some ⟨w.heap.size + 1, 0, none⟩)) 25 _ rfl rfl rfl (load_t HXM.out) ?_; go_simp; (with_reducible refine hK _ ?_); clear hK K
        refine wpQuiet_step (fun K hK => ?_); refine q_bin _ _ _ _ _ rfl rfl rfl rfl (eq_t _ _ s t) ?_; go_simp; (with_reducible refine hK _ ?_); clear hK K
        refine wpQuiet_step (fun K hK => ?_); go_simp; (first | (with_reducible refine hK _ ?_) | (with_reducible refine ⟨_, fun _ _ => rfl, hK _ ?_⟩)); clear hK K
        refine wpQuiet_step (fun K hK => ?_); go_simp; (first | (with_reducible refine hK _ ?_) | (with_reducible refine ⟨_, fun _ _ => rfl, hK _ ?_⟩)); clear hK K
        refine wpQuiet_step (fun K hK => ?_); go_simp; (first | (with_reducible refine hK _ ?_) | (with_reducible refine ⟨_, fun _ _ => rfl, hK _ ?_⟩)); clear hK K
        refine wpQuiet_nil ?_
        intro w2 hb2
        have HB2 := Lib.hid (HB0.out.trans ((HB1.out.trans (hb2.mono HB1.out.size)).mono HB0.out.size)); clear hb2
        go_wp2_with fail
        go_ret2
        refine ⟨⟨k, eqB s t, rfl, hk, HAH.out, fun q hq => ?_, ?_⟩, HB2.out⟩
        · rw [HPS.out.1] at hq; cases hq
          rw [HPS.out.2.1, HPS.out.2.2]; omega
        · unfold eqB
          rw [decide_eq_true_iff]
          constructor
          · intro e; exact ⟨p, HPS.out.1, by rw [HPS.out.2.1]; exact e⟩
          · rintro ⟨q, hq, e⟩
            rw [HPS.out.1] at hq; cases hq
            rw [← HPS.out.2.1]; exact e
    · have hltz : ¬ (k : Int) < (l.length : Int) := by omega
      have hg : decide ((k : Int) < (l.length : Int)) = false := decide_eq_false hltz
      have HG := Lib.hid hg; clear hg
      go_wp2_with fail
      refine wp_region_below (by kernel_rfl) (by kernel_rfl) ?_
      refine wpQuiet_step (fun K hK => ?_); go_simp; (first | (with_reducible refine hK _ ?_) | (with_reducible refine ⟨_, fun _ _ => rfl, hK _ ?_⟩)); clear hK K
      refine wpQuiet_step (fun K hK => ?_); go_simp; (first | (with_reducible refine hK _ ?_) | (with_reducible refine ⟨_, fun _ _ => rfl, hK _ ?_⟩)); clear hK K
      refine wpQuiet_step (fun K hK => ?_); refine q_load (p := .pointer (some ⟨w.heap.size, 1, none⟩)) 29 _ rfl rfl rfl (load_sl HRL.out) ?_; go_simp; (with_reducible refine hK _ ?_); clear hK K
      refine wpQuiet_step (fun K hK => ?_); go_simp; (first | (with_reducible refine hK _ ?_) | (with_reducible refine ⟨_, fun _ _ => rfl, hK _ ?_⟩)); clear hK K
      refine wpQuiet_step (fun K hK => ?_); refine q_bin _ _ _ _ _ rfl rfl rfl rfl (lti_is HG.out) ?_; go_simp; (with_reducible refine hK _ ?_); clear hK K
      refine wpQuiet_step (fun K hK => ?_); go_simp; (try (with_reducible refine ⟨_, fun _ _ => rfl, ?_⟩)); generalize hA : ({ tmps := _, defers := _ } : Act) = A; (with_reducible refine hK A ?_); clear hK K
      refine wpQuiet_step (fun K hK => ?_); subst hA; go_simp; (try (with_reducible refine ⟨_, fun _ _ => rfl, ?_⟩)); generalize hA : ({ tmps := _, defers := _ } : Act) = A; (with_reducible refine hK A ?_); clear hK K
      refine wpQuiet_step (fun K hK => ?_); subst hA; go_simp; (try (with_reducible refine ⟨_, fun _ _ => rfl, ?_⟩)); generalize hA : ({ tmps := _, defers := _ } : Act) = A; (with_reducible refine hK A ?_); clear hK K
      refine wpQuiet_step (fun K hK => ?_); subst hA; go_simp; (try (with_reducible refine ⟨_, fun _ _ => rfl, ?_⟩)); generalize hA : ({ tmps := _, defers := _ } : Act) = A; (with_reducible refine hK A ?_); clear hK K
      refine wpQuiet_step (fun K hK => ?_); subst hA; go_simp; (try (with_reducible refine ⟨_, fun _ _ => rfl, ?_⟩)); generalize hA : ({ tmps := _, defers := _ } : Act) = A; (with_reducible refine hK A ?_); clear hK K
      refine wpQuiet_step (fun K hK => ?_); subst hA; go_simp; (try (with_reducible refine ⟨_, fun _ _ => rfl, ?_⟩)); generalize hA : ({ tmps := _, defers := _ } : Act) = A; (with_reducible refine hK A ?_); clear hK K
      refine wpQuiet_step (fun K hK => ?_); subst hA; go_simp; (try (with_reducible refine ⟨_, fun _ _ => rfl, ?_⟩)); generalize hA : ({ tmps := _, defers := _ } : Act) = A; (with_reducible refine hK A ?_); clear hK K
      refine wpQuiet_step (fun K hK => ?_); subst hA; go_simp; (try (with_reducible refine ⟨_, fun _ _ => rfl, ?_⟩)); generalize hA : ({ tmps := _, defers := _ } : Act) = A; (with_reducible refine hK A ?_); clear hK K
      refine wpQuiet_step (fun K hK => ?_); subst hA; go_simp; (try (with_reducible refine ⟨_, fun _ _ => rfl, ?_⟩)); generalize hA : ({ tmps := _, defers := _ } : Act) = A; (with_reducible refine hK A ?_); clear hK K
      refine wpQuiet_step (fun K hK => ?_); subst hA; go_simp; (try (with_reducible refine ⟨_, fun _ _ => rfl, ?_⟩)); generalize hA : ({ tmps := _, defers := _ } : Act) = A; (with_reducible refine hK A ?_); clear hK K
      refine wpQuiet_step (fun K hK => ?_); subst hA; go_simp; (first | (with_reducible refine hK _ ?_) | (with_reducible refine ⟨_, fun _ _ => rfl, hK _ ?_⟩)); clear hK K
      refine wpQuiet_nil ?_
      intro w1 hb1
      have hrl := HRL.out.below hb1 HRL.out.lt
      have hxl := HXL.out.below hb1
      have HB1 := Lib.hid (HB.out.trans (hb1.mono HB.out.size)); have HRM := Lib.hid hrl; have HXM := Lib.hid hxl; clear hb1 hrl hxl
      go_wp2_with fail
      refine wp_region_below (by kernel_rfl) (by kernel_rfl) ?_
      refine wpQuiet_step (fun K hK => ?_); go_simp; (first | (with_reducible refine hK _ ?_) | (with_reducible refine ⟨_, fun _ _ => rfl, hK _ ?_⟩)); clear hK K
      refine wpQuiet_step (fun K hK => ?_); go_simp; (first | (with_reducible refine hK _ ?_) | (with_reducible refine ⟨_, fun _ _ => rfl, hK _ ?_⟩)); clear hK K
      refine wpQuiet_step (fun K hK => ?_); go_simp; (first | (with_reducible refine hK _ ?_) | (with_reducible refine ⟨_, fun _ _ => rfl, hK _ ?_⟩)); clear hK K
      refine wpQuiet_step (fun K hK => ?_); refine q_load (p := .pointer (some ⟨w.heap.size, 1, none⟩)) 29 _ rfl rfl rfl (load_sl HRM.out) ?_; go_simp; (with_reducible refine hK _ ?_); clear hK K
      refine wpQuiet_step (fun K hK => ?_); go_simp; (first | (with_reducible refine hK _ ?_) | (with_reducible refine ⟨_, fun _ _ => rfl, hK _ ?_⟩)); clear hK K
      refine wpQuiet_step (fun K hK => ?_); refine q_bin _ _ _ _ _ rfl rfl rfl rfl (lti_is HG.out) ?_; go_simp; (with_reducible refine hK _ ?_); clear hK K
      refine wpQuiet_step (fun K hK => ?_); go_simp; (try (with_reducible refine ⟨_, fun _ _ => rfl, ?_⟩)); generalize hA : ({ tmps := _, defers := _ } : Act) = A; (with_reducible refine hK A ?_); clear hK K
      refine wpQuiet_step (fun K hK => ?_); subst hA; go_simp; (try (with_reducible refine ⟨_, fun _ _ => rfl, ?_⟩)); generalize hA : ({ tmps := _, defers := _ } : Act) = A; (with_reducible refine hK A ?_); clear hK K
      refine wpQuiet_step (fun K hK => ?_); subst hA; go_simp; (try (with_reducible refine ⟨_, fun _ _ => rfl, ?_⟩)); generalize hA : ({ tmps := _, defers := _ } : Act) = A; (with_reducible refine hK A ?_); clear hK K
      refine wpQuiet_step (fun K hK => ?_); subst hA; go_simp; (try (with_reducible refine ⟨_, fun _ _ => rfl, ?_⟩)); generalize hA : ({ tmps := _, defers := _ } : Act) = A; (with_reducible refine hK A ?_); clear hK K
      refine wpQuiet_step (fun K hK => ?_); subst hA; go_simp; (try (with_reducible refine ⟨_, fun _ _ => rfl, ?_⟩)); generalize hA : ({ tmps := _, defers := _ } : Act) = A; (with_reducible refine hK A ?_); clear hK K
      refine wpQuiet_step (fun K hK => ?_); subst hA; go_simp; (try (with_reducible refine ⟨_, fun _ _ => rfl, ?_⟩)); generalize hA : ({ tmps := _, defers := _ } : Act) = A; (with_reducible refine hK A ?_); clear hK K
      refine wpQuiet_step (fun K hK => ?_); subst hA; go_simp; (try (with_reducible refine ⟨_, fun _ _ => rfl, ?_⟩)); generalize hA : ({ tmps := _, defers := _ } : Act) = A; (with_reducible refine hK A ?_); clear hK K
      refine wpQuiet_step (fun K hK => ?_); subst hA; go_simp; (try (with_reducible refine ⟨_, fun _ _ => rfl, ?_⟩)); generalize hA : ({ tmps := _, defers := _ } : Act) = A; (with_reducible refine hK A ?_); clear hK K
      refine wpQuiet_step (fun K hK => ?_); subst hA; go_simp; (try (with_reducible refine ⟨_, fun _ _ => rfl, ?_⟩)); generalize hA : ({ tmps := _, defers := _ } : Act) = A; (with_reducible refine hK A ?_); clear hK K
      refine wpQuiet_step (fun K hK => ?_); subst hA; go_simp; (first | (with_reducible refine hK _ ?_) | (with_reducible refine ⟨_, fun _ _ => rfl, hK _ ?_⟩)); clear hK K
      refine wpQuiet_step (fun K hK => ?_); go_simp; (first | (with_reducible refine hK _ ?_) | (with_reducible refine ⟨_, fun _ _ => rfl, hK _ ?_⟩)); clear hK K
      refine wpQuiet_step (fun K hK => ?_); go_simp; (first | (with_reducible refine hK _ ?_) | (with_reducible refine ⟨_, fun _ _ => rfl, hK _ ?_⟩)); clear hK K
      refine wpQuiet_nil ?_
      intro w2 hb2
      have HB2 := Lib.hid (HB0.out.trans ((HB1.out.trans (hb2.mono HB1.out.size)).mono HB0.out.size)); clear hb2
      go_wp2_with fail
      go_ret2
      have hnone : l[k]? = none := List.getElem?_eq_none (by omega)
      refine ⟨⟨k, false, rfl, hk, HAH.out, fun q hq => ?_, ?_⟩, HB2.out⟩
      · rw [hnone] at hq; cases hq
      · rw [hnone]; simp
set_option maxHeartbeats 4000000 in
theorem refCount_any (A : Option Addr) (l : Cn) (c : Nat) (d : Int) (t : St) (w : World) (h : Rf w A c l) (hn : l.length ≤ 1000) (hok : CnOk l) :
    Calls Try.prog 16 #[.agg #[.int .i64 d, .slice A l.length c], t.val] w fun e w' => e = .returned (.int .i64 (cnt l t)) ∧ Below w.heap.size w w' := by
  have hB0 := ((Below.refl w.heap.size w).alloc (Nat.le_refl _) (.cells #[.int .i64 d, .slice A l.length c] 31)).alloc (by simp) (.cells #[.int .i64 t.d, .int .i64 t.e, .int .i64 t.x, .int .i64 t.y, .int .i64 t.z] 25)
  have hr2 : Row ((w.alloc (.cells #[.int .i64 d, .slice A l.length c] 31)).alloc (.cells #[.int .i64 t.d, .int .i64 t.e, .int .i64 t.x, .int .i64 t.y, .int .i64 t.z] 25)) w.heap.size 31 [.int .i64 d, .slice A l.length c] := Row.alloc (Row.made w _ _) _
  have hp := h.below hB0
  have kk := place_any A l c d t _ hp hn
  have KK := Lib.hid kk; have HB0 := Lib.hid hB0; have HR := Lib.hid hr2; have HP := Lib.hid hp.ps; have HOK := Lib.hid hok; clear hB0 hr2 hp h kk hok
  unfold St.val at *
  go_enter Try.func16, Try.ntmps16
  go_wp2_with fail
  generalize (w.alloc (.cells #[.int .i64 d, .slice A l.length c] 31)).alloc (.cells #[.int .i64 t.d, .int .i64 t.e, .int .i64 t.x, .int .i64 t.y, .int .i64 t.z] 25) = w0 at *
  refine (KK.out).mono ?_; rintro e w1 ⟨⟨k, b, rfl, hat⟩, hb1⟩
  have hrl := HR.out.below hb1 HR.out.lt
  have HB1 := Lib.hid (HB0.out.trans (hb1.mono HB0.out.size))
  cases b with
  | false =>
    have HZ := Lib.hid (hat.cnt_no HOK.out)
    clear hat hb1 hrl
    dsimp only
    go_wp2_with fail
    go_ret
    exact ⟨ret_int HZ.out.symm, HB1.out⟩
  | true =>
    obtain ⟨p, hp, -, hc⟩ := hat.cnt_yes HOK.out
    obtain ⟨bb, o, rfl, hbl, h6⟩ := HP.out.six hp
    obtain ⟨-, -, -, -, -, c5⟩ := h6 w1 hb1
    have hkl : (k : Int) < (l.length : Int) := by have := (List.getElem?_eq_some_iff.1 hp).1; omega
    have hc1 : w1.cell? ⟨w.heap.size, 1, none⟩ = some (.slice (some ⟨bb, o, none⟩) l.length c) := hrl.cell 1
    obtain ⟨q, hq⟩ : ∃ q, p.2 = q := ⟨_, rfl⟩
    rw [hq] at c5
    have HQ := Lib.hid (hq.symm.trans hc)
    clear hat hb1 hrl h6 hc hp hq hbl
    dsimp only
    go_wp2_with fail
    go_ret
    exact ⟨ret_int HQ.out, HB1.out⟩
end

section
open Go.ChangeShapes Go.WideShapes Go.ChangeAt Go.RowKit Go.BigFrame Go.Shelf
set_option maxRecDepth 100000
theorem timesC_snoc (l : Cn) (p : St × Int) : timesC (l ++ [p]) = timesC l ++ [p.1] := by simp [timesC]
theorem posC_yes {l : Cn} {p : St × Int} (h : 0 < p.2) : posC (l ++ [p]) = posC l ++ [p.1] := by simp [posC, h]
theorem posC_no {l : Cn} {p : St × Int} (h : ¬ 0 < p.2) : posC (l ++ [p]) = posC l := by simp [posC, h]
theorem posC_len (l : Cn) : (posC l).length ≤ l.length := by
  unfold posC; rw [List.length_map]; exact List.length_filter_le _ _
theorem takeC_snoc {l : Cn} {k : Nat} {p : St × Int} (h : l[k]? = some p) : l.take (k + 1) = l.take k ++ [p] := by rw [List.take_add_one, h]; rfl
set_option maxHeartbeats 8000000 in
theorem refTimes_any (A : Option Addr) (l : Cn) (c : Nat) (d : Int) (w : World) (h : Rf w A c l) (hn : l.length ≤ 900) :
    Calls Try.prog 20 #[.agg #[.int .i64 d, .slice A l.length c]] w (Gives1 w (timesC l)) := by
  have hB0 := (Below.refl w.heap.size w).alloc (Nat.le_refl _) (.cells #[.int .i64 d, .slice A l.length c] 31)
  have hr2 : Row (w.alloc (.cells #[.int .i64 d, .slice A l.length c] 31)) w.heap.size 31 [.int .i64 d, .slice A l.length c] := Row.made w _ _
  have hp := h.below hB0
  have HB0 := Lib.hid hB0; have HR := Lib.hid hr2; have HP := Lib.hid hp.ps; clear hB0 hr2 hp h
  go_enter Try.func20, Try.ntmps20
  go_wp2_with fail
  generalize w.alloc (.cells #[.int .i64 d, .slice A l.length c] 31) = w0 at *
  go_loopw [3, 4] (fun v i wr => ∃ k : Nat, k ≤ l.length ∧ i = .int .i64 k ∧ Below w0.heap.size w0 wr ∧ wr.ownsRow w0.heap.size 25 5 v (timesC (l.take k)).length (rowS (timesC (l.take k)))) (fun _ i _ => l.length - (intOf i).toNat)
  case atStart => exact ⟨0, by omega, rfl, Below.refl _ _, World.ownsRow_nil _ _ _ _⟩
  case round =>
    obtain ⟨k, hk, rfl, hb, hro⟩ := hrel
    have hrl := HR.out.below hb HR.out.lt
    have hc1 : wr.cell? ⟨w.heap.size, 1, none⟩ = some (.slice A l.length c) := hrl.cell 1
    by_cases hlt : k < l.length
    · have hltz : (k : Int) < (l.length : Int) := by omega
      obtain ⟨p, hp⟩ : ∃ p, l[k]? = some p := ⟨_, List.getElem?_eq_getElem hlt⟩
      obtain ⟨b, o, rfl, hbl, h6⟩ := HP.out.six hp
      obtain ⟨c0, c1, c2, c3, c4, c5⟩ := h6 wr hb
      obtain ⟨s, hs⟩ : ∃ s, p.1 = s := ⟨_, rfl⟩
      obtain ⟨q, hq⟩ : ∃ q, p.2 = q := ⟨_, rfl⟩
      rw [hs] at c0 c1 c2 c3 c4
      rw [hq] at c5
      have htk := takeC_snoc hp
      have hns : timesC (l.take (k + 1)) = timesC (l.take k) ++ [s] := by rw [htk, timesC_snoc, hs]
      have hlu : (timesC (l.take k)).length + [s].length ≤ 1000 := by
        have := (fun l => Nat.le_of_eq (timesC_len l)) (l.take k); rw [List.length_take] at this; simp; omega
      have hoA := hro.alloc (.cells #[.int .i64 s.d, .int .i64 s.e, .int .i64 s.x, .int .i64 s.y, .int .i64 s.z] 25)
      have hTA := Times.made wr [s]
      have hbs : w0.heap.size ≤ (wr.alloc (.cells #[.int .i64 s.d, .int .i64 s.e, .int .i64 s.x, .int .i64 s.y, .int .i64 s.z] 25)).heap.size := by have := hb.size; simp; omega
      have HNS := Lib.hid hns; have HB := Lib.hid hb
      clear hns hro hb hp hs hq h6 htk hbl hrl
      generalize timesC (l.take k) = us at *
      go_wp2_with (at_builtin; refine wpList_append_times rfl _ _ rfl w0.heap.size _ us.length us rfl hoA ⟨wr.heap.size, 0, none⟩ 1 [s] rfl (by simp) hTA hlu hbs ?_; intro v' w5 hown' hgr')
      have hb6 := own_belowS hoA hgr' (HB.out.alloc HB.out.size _) hbs
      have H6 := Lib.hid (And.intro hown' hb6); clear hown' hgr' hoA hTA hb6 hbs
      go_wp2_with fail
      go_roundw
      case rel => exact ⟨k + 1, by omega, by simp, H6.out.2, by rw [HNS.out]; simpa using H6.out.1⟩
      case measure => simp only [intOf]; omega
    · have hltz : ¬ (k : Int) < (l.length : Int) := by omega
      have hk' : k = l.length := by omega
      rw [hk', List.take_length] at hro
      have HF := Lib.hid (And.intro hro (HB0.out.trans (hb.mono HB0.out.size))); clear hro hb hk' hrl
      go_wp2_with fail
      go_ret
      exact ⟨⟨_, rfl, own_base HF.out.1 HB0.out.size⟩, HF.out.2⟩
/-- a row that can be read is given -/
def GivesR (w : World) (l : List St) (e : Ending) (w' : World) : Prop := (∃ A c, e = .returned (.slice A l.length c) ∧ Slc w' A c l) ∧ Below w.heap.size w w'
set_option maxHeartbeats 8000000 in
theorem refFrontier_any (A : Option Addr) (l : Cn) (c : Nat) (d : Int) (w : World) (h : Rf w A c l) (hn : l.length ≤ 900) {dd : Int} (hev : EvenC l dd) :
    Calls Try.prog 21 #[.agg #[.int .i64 d, .slice A l.length c]] w (GivesR w (frC l)) := by
  have hB0 := (Below.refl w.heap.size w).alloc (Nat.le_refl _) (.cells #[.int .i64 d, .slice A l.length c] 31)
  have hr2 : Row (w.alloc (.cells #[.int .i64 d, .slice A l.length c] 31)) w.heap.size 31 [.int .i64 d, .slice A l.length c] := Row.made w _ _
  have hp := h.below hB0
  have HB0 := Lib.hid hB0; have HR := Lib.hid hr2; have HP := Lib.hid hp.ps; have HEV := Lib.hid hev; clear hB0 hr2 hp h hev
  go_enter Try.func21, Try.ntmps21
  go_wp2_with fail
  generalize w.alloc (.cells #[.int .i64 d, .slice A l.length c] 31) = w0 at *
  go_loopw [3, 4] (fun v i wr => ∃ k : Nat, k ≤ l.length ∧ i = .int .i64 k ∧ Below w0.heap.size w0 wr ∧ wr.ownsRow w0.heap.size 25 5 v (posC (l.take k)).length (rowS (posC (l.take k)))) (fun _ i _ => l.length - (intOf i).toNat)
  case atStart => exact ⟨0, by omega, rfl, Below.refl _ _, World.ownsRow_nil _ _ _ _⟩
  case round =>
    obtain ⟨k, hk, rfl, hb, hro⟩ := hrel
    have hrl := HR.out.below hb HR.out.lt
    have hc1 : wr.cell? ⟨w.heap.size, 1, none⟩ = some (.slice A l.length c) := hrl.cell 1
    by_cases hlt : k < l.length
    · have hltz : (k : Int) < (l.length : Int) := by omega
      obtain ⟨p, hp⟩ : ∃ p, l[k]? = some p := ⟨_, List.getElem?_eq_getElem hlt⟩
      obtain ⟨b, o, rfl, hbl, h6⟩ := HP.out.six hp
      obtain ⟨c0, c1, c2, c3, c4, c5⟩ := h6 wr hb
      obtain ⟨s, hs⟩ : ∃ s, p.1 = s := ⟨_, rfl⟩
      obtain ⟨q, hq⟩ : ∃ q, p.2 = q := ⟨_, rfl⟩
      rw [hs] at c0 c1 c2 c3 c4
      rw [hq] at c5
      have htk := takeC_snoc hp
      by_cases hpos : 0 < q
      · have hns : posC (l.take (k + 1)) = posC (l.take k) ++ [s] := by rw [htk, posC_yes (by rw [hq]; exact hpos), hs]
        have hlu : (posC (l.take k)).length + [s].length ≤ 1000 := by
          have := posC_len (l.take k); rw [List.length_take] at this; simp; omega
        have hoA := hro.alloc (.cells #[.int .i64 s.d, .int .i64 s.e, .int .i64 s.x, .int .i64 s.y, .int .i64 s.z] 25)
        have hTA := Times.made wr [s]
        have hbs : w0.heap.size ≤ (wr.alloc (.cells #[.int .i64 s.d, .int .i64 s.e, .int .i64 s.x, .int .i64 s.y, .int .i64 s.z] 25)).heap.size := by have := hb.size; simp; omega
        have HNS := Lib.hid hns; have HB := Lib.hid hb
        clear hns hro hb hp hs hq h6 htk hbl hrl
        generalize posC (l.take k) = us at *
        go_wp2_with (at_builtin; refine wpList_append_times rfl _ _ rfl w0.heap.size _ us.length us rfl hoA ⟨wr.heap.size, 0, none⟩ 1 [s] rfl (by simp) hTA hlu hbs ?_; intro v' w5 hown' hgr')
        have hb6 := own_belowS hoA hgr' (HB.out.alloc HB.out.size _) hbs
        have H6 := Lib.hid (And.intro hown' hb6); clear hown' hgr' hoA hTA hb6 hbs
        go_wp2_with fail
        go_roundw
        case rel => exact ⟨k + 1, by omega, by simp, H6.out.2, by rw [HNS.out]; simpa using H6.out.1⟩
        case measure => simp only [intOf]; omega
      · have hns : posC (l.take (k + 1)) = posC (l.take k) := by rw [htk, posC_no (by rw [hq]; exact hpos)]
        have HNS := Lib.hid hns; have HB := Lib.hid hb; have HRO := Lib.hid hro
        clear hns hro hb hp hs hq h6 htk hbl hrl
        go_wp2_with fail
        go_roundw
        case rel => exact ⟨k + 1, by omega, by simp, HB.out, by rw [HNS.out]; exact HRO.out⟩
        case measure => simp only [intOf]; omega
    · have hltz : ¬ (k : Int) < (l.length : Int) := by omega
      have hk' : k = l.length := by omega
      rw [hk', List.take_length] at hro
      obtain ⟨A9, c9, rfl, hs9⟩ := Slc.of_own hro
      have kk := refOf_any A9 (posC l) c9 wr hs9 (by have := posC_len l; omega)
      rw [decide_eq_true HEV.out.pos] at kk
      have hfr : ofS (posC l) = frC l := rfl
      unfold ifS at kk
      rw [if_pos rfl, hfr] at kk
      have KK := Lib.hid kk; have HB := Lib.hid (HB0.out.trans (hb.mono HB0.out.size)); clear kk hro hb hk' hrl hs9 hfr
      generalize posC l = us at *
      go_wp2_with fail
      refine (KK.out).mono ?_; rintro e w3 ⟨⟨Af, cf, rfl, hsf, -⟩, hb3⟩
      have HF := Lib.hid (And.intro hsf (HB.out.trans (hb3.mono HB.out.size))); clear hsf hb3 KK hc1
      dsimp only
      go_wp2_with fail
      go_ret
      exact ⟨⟨Af, cf, rfl, HF.out.1⟩, HF.out.2⟩
end

section
open Go.ChangeShapes Go.WideShapes Go.ChangeAt Go.RowKit Go.BigFrame Go.Shelf
set_option maxRecDepth 100000
theorem Try.infoCount : (Try.prog.info? 64).map (fun i => (i.zero, i.size, i.bytes)) = some (some (.agg #[.int .i64 0, .int .i64 0, .int .i64 0, .int .i64 0, .int .i64 0, .int .i64 0]), 6, 48) := by kernel_rfl
theorem rowP_append (a b : Cn) : rowP (a ++ b) = rowP a ++ rowP b := by simp [rowP]
theorem rowP_one (l : Cn) : ∀ u ∈ rowP l, u.oneCell' = true := by
  intro u hu
  simp only [rowP, List.mem_flatten, List.mem_map] at hu
  obtain ⟨r, ⟨p, _, rfl⟩, hu⟩ := hu
  simp only [stepCells, List.mem_cons, List.not_mem_nil, or_false] at hu
  rcases hu with rfl | rfl | rfl | rfl | rfl | rfl <;> rfl
theorem rowP_take (l : Cn) (k : Nat) : rowP (l.take k) = (rowP l).take (k * 6) := by
  induction l generalizing k with
  | nil => simp [rowP]
  | cons p l ih =>
    cases k with
    | zero => simp [rowP]
    | succ k => rw [List.take_succ_cons, rowP_cons, rowP_cons, ih, show (k + 1) * 6 = k * 6 + 1 + 1 + 1 + 1 + 1 + 1 by omega]; simp only [List.take_succ_cons]
theorem rowP_drop (l : Cn) (k : Nat) : rowP (l.drop k) = (rowP l).drop (k * 6) := by
  induction l generalizing k with
  | nil => simp [rowP]
  | cons p l ih =>
    cases k with
    | zero => simp
    | succ k => rw [List.drop_succ_cons, ih, rowP_cons, show (k + 1) * 6 = k * 6 + 1 + 1 + 1 + 1 + 1 + 1 by omega]; simp only [List.drop_succ_cons]
section
variable {w : World} {A : Option Addr} {l : Cn}
theorem Ps.nil : Ps w A [] := fun h => absurd h (by simp)
theorem Ps.take (h : Ps w A l) (k : Nat) : Ps w A (l.take k) := fun hn => by
  obtain ⟨b, o, e, hlt, hc⟩ := h (by rw [List.length_take] at hn; omega)
  refine ⟨b, o, e, hlt, fun j u hu => hc j u ?_⟩
  rw [rowP_take, List.getElem?_take] at hu
  split at hu
  · exact hu
  · cases hu
theorem Ps.drop {b : Nat} (h : Ps w (some ⟨b, 0, none⟩) l) (k : Nat) : Ps w (some ⟨b, k * 6, none⟩) (l.drop k) := fun hn => by
  obtain ⟨b', o', e, hlt, hc⟩ := h (by rw [List.length_drop] at hn; omega)
  cases e
  refine ⟨b, k * 6, rfl, hlt, fun j u hu => ?_⟩
  rw [rowP_drop, List.getElem?_drop] at hu
  have := hc _ u hu
  rwa [Nat.zero_add] at this
end
theorem append_ps_run (w : World) (base : Nat) (v : Value) (n : Nat) (ls : Cn) (hown : w.ownsRow base 64 6 v n (rowP ls)) (A : Option Addr) (c : Nat) (ys : Cn) (hA0 : A = none → c = 0) (hb : Ps w A ys)
    (hle : n + ys.length ≤ 4000) (hbase : base ≤ w.heap.size) (ty : TypeId) :
    ∃ v' w', (Builtin.append_ #[29, 29] ty #[v, .slice A ys.length c]).run Try.prog w = .ok v' w' ∧ w'.ownsRow base 64 6 v' (n + ys.length) (rowP (ls ++ ys)) ∧ w.grownBy w' v.ownBlock := by
  obtain ⟨i, hi, hz0, hz1, hz2⟩ := info_parts Try.infoCount
  cases A with
  | none =>
    have hy : ys = [] := by
      cases ys with
      | nil => rfl
      | cons y ys => obtain ⟨b, o, e, _⟩ := hb (by simp); cases e
    subst hy
    rw [hA0 rfl]
    refine ⟨v, w, run_append_owned_none w base _ ty _ i 6 Try.underlying29 hi v n _ hown, by simpa using hown, ⟨rfl, rfl, rfl, Nat.le_refl _, fun _ _ _ => rfl⟩⟩
  | some ad =>
    obtain ⟨v', w', hr, h1, h2, -⟩ := run_append_own (P := Try.prog) w base 29 ty 64 i _ 6 48 Try.underlying29 hi hz0 hz1 hz2 rfl (by omega) v n (rowP ls) hown ad ys.length c (rowP ys) (rowP_len ys)
      (fun j u hj => by
        have hn : 0 < ys.length := by
          have := (List.getElem?_eq_some_iff.1 hj).1
          rw [rowP_len] at this; omega
        obtain ⟨b, o, e, _, hc⟩ := hb hn
        cases e
        rw [add_at]; exact hc j u hj) (rowP_one ys) (by unfold maxLen; omega) (by omega) hbase
    exact ⟨v', w', hr, by rw [rowP_append]; exact h1, h2⟩
theorem wpList_append_ps {w : World} {ops : Array Oper} {rest : List Oper} {o : Oper} {a : Act} {Q : Exit → Act → World → Prop} (hgd : o.guard = none) (s x : Operand)
    (ho : o.op = .call { callee := .builtin .append, args := #[s, x], argTypes := #[29, 29] })
    (base : Nat) (v : Value) (n : Nat) (ls : Cn) (hs : a.eval s = v) (hown : w.ownsRow base 64 6 v n (rowP ls))
    (A : Option Addr) (c m : Nat) (ys : Cn) (hx : a.eval x = .slice A m c) (hm : ys.length = m) (hA0 : A = none → c = 0) (hb : Ps w A ys)
    (hle : n + m ≤ 4000) (hbase : base ≤ w.heap.size)
    (h : ∀ v' w', w'.ownsRow base 64 6 v' (n + m) (rowP (ls ++ ys)) → w.grownBy w' v.ownBlock → wpList Try.prog ops Q rest (a.put o.dst v') w') : wpList Try.prog ops Q (o :: rest) a w := by
  subst hm
  refine wpList_plain hgd fun K' hK' => ?_
  obtain ⟨v', w', hr, h1, h2⟩ := append_ps_run w base v n ls hown A c ys hA0 hb hle hbase o.type
  unfold Oper.wp execOp
  simp only [ho, resolve, invoke, builtin, Sem.run_bind, Sem.run_pure, Result.andThen_ok, List.map_toArray, List.map_cons, List.map_nil, hs, hx, hr]
  exact hK' _ _ (h v' w' h1 h2)
theorem own_lenP {w : World} {base n : Nat} {v : Value} {l : Cn} (h : w.ownsRow base 64 6 v n (rowP l)) : n = l.length := by
  have := h.1; rw [rowP_len] at this; omega
theorem Rf.of_own {w : World} {base n : Nat} {v : Value} {l : Cn} (h : w.ownsRow base 64 6 v n (rowP l)) : ∃ A c, v = .slice A l.length c ∧ Rf w A c l := by
  have hl := own_lenP h
  obtain ⟨_, ⟨rfl, h0⟩ | ⟨g, cap, cur, rfl, _, hh, h1, h2, _, ht⟩⟩ := id h
  · have : l = [] := List.eq_nil_of_length_eq_zero (by omega)
    subst this
    exact ⟨none, 0, rfl, Ps.nil, by simp, by simp, .inl ⟨rfl, rfl⟩⟩
  · have hg : g < w.heap.size := (Array.getElem?_eq_some_iff.1 hh).1
    refine ⟨some ⟨g, 0, none⟩, cap, by rw [hl], fun _ => ⟨g, 0, rfl, hg, fun j u hj => ?_⟩, by omega, h2, .inr ⟨g, rfl, cur.toList, by unfold Row; simpa using hh⟩⟩
    have := h.cells (g := g) rfl j u hj
    rw [add_zero_off] at this
    rw [Nat.zero_add]; exact this
/-- what Add gives -/
def RAdded (w : World) (d : Int) (K : Cn) (r : Int) (e : Ending) (w' : World) : Prop :=
  (∃ A c, e = .returned (.tuple #[.agg #[.int .i64 d, .slice A K.length c], .int .i64 r]) ∧ Rf w' A c K) ∧ Below w.heap.size w w'
end

section
open Go.ChangeShapes Go.WideShapes Go.ChangeAt Go.RowKit Go.BigFrame Go.Shelf
set_option maxRecDepth 100000
theorem cut_any (A : Option Addr) (c : Nat) (l : Cn) (hat : (A = none ∧ c = 0) ∨ ∃ g, A = some ⟨g, 0, none⟩) (k : Nat) (i : Int) (hi : i = (k : Nat)) (hk : k ≤ l.length) (hc : l.length ≤ c) :
    ∃ A', (∀ w, (Instr.sliceAt 29 (.slice A l.length c) (some (.int .i64 i)) none none).run Try.prog w = .ok (.slice A' (l.length - k) (c - k)) w) ∧ (A' = none → c - k = 0) ∧ ∀ W, Ps W A l → Ps W A' (l.drop k) := by
  subst hi
  have h0 : (0 : Int) ≤ (k : Int) := by omega
  have h1 : (k : Int) ≤ (l.length : Int) := by omega
  have h2 : l.length ≤ c := hc
  refine ⟨if c = k then A else A.map (·.add (k * 6)), fun w => ?_, ?_, ?_⟩
  · go_simp
  · rcases hat with ⟨rfl, rfl⟩ | ⟨g, rfl⟩
    · intro _; omega
    · by_cases h : c = k
      · intro _; omega
      · rw [if_neg h]; intro e; cases e
  · intro W h
    by_cases hck : c = k
    · have : l.drop k = [] := List.drop_eq_nil_of_le (by omega)
      rw [this]; exact Ps.nil
    · rw [if_neg hck]
      rcases hat with ⟨rfl, rfl⟩ | ⟨g, rfl⟩
      · omega
      · have e : ((some ⟨g, 0, none⟩ : Option Addr).map (·.add (k * 6))) = some ⟨g, k * 6, none⟩ := by simp [add_at]
        rw [e]; exact h.drop k
section
open Stage
theorem at_append {C : World → Prop} {o : Oper} {a : Act} {w w' : World} {u v z : Value} (s x : Operand) (ty : TypeId) (hty : o.type = ty)
    (ho : o.op = .call { callee := .builtin .append, args := #[s, x], argTypes := #[29, 29] }) (hs : a.eval s = u) (hx : a.eval x = v)
    (hr : (Builtin.append_ #[29, 29] ty #[u, v]).run Try.prog w = .ok z w') (h : C w') : Stage.at_ Try.prog o a C w z := by
  subst hty
  unfold Stage.at_ execOp
  simp only [ho, resolve, invoke, builtin, Sem.run_bind, Sem.run_pure, Result.andThen_ok, List.map_toArray, List.map_cons, List.map_nil, hs, hx, hr, Stage.upon]
  exact ⟨trivial, h⟩
theorem at_cut {C : World → Prop} {o : Oper} {a : Act} {w : World} {u v i : Value} (t : TypeId) (x lo : Operand) (ho : o.op = .slice t x (some lo) none none) (hx : a.eval x = u) (hl : a.eval lo = i)
    (hr : (Instr.sliceAt t u (some i) none none).run Try.prog w = .ok v w) (h : C w) : Stage.at_ Try.prog o a C w v := by
  unfold Stage.at_ execOp
  simp only [ho, Option.map_some, Option.map_none, hx, hl, Sem.run_bind, hr, Result.andThen_ok, Sem.run_pure, Stage.upon]
  exact ⟨trivial, h⟩
end
theorem below_setCell {B : Nat} {w w' : World} (h : Below B w w') {p : Addr} (hp : B ≤ p.block) (u : Value) : Below B w (w'.setCell p u) := h.setCell hp u
theorem own_belowP {w0 w w' : World} {base n : Nat} {v : Value} {xs : List Value} (h : w.ownsRow base 64 6 v n xs) (hg : w.grownBy w' v.ownBlock) (hb : Below base w0 w) (hB : base ≤ w.heap.size) : Below base w0 w' :=
  hb.grown hg hB (fun k e => (h.lt k e).1)
set_option maxHeartbeats 2000000 in
theorem radd_A {w : World} {A : Option Addr} {l : Cn} {c : Nat} {d : Int} (h : Rf w A c l) (hl : l.length ≤ 500) (hok : CnOk l) (t : St) (n : Int) (hR : ¬ t.R) :
    Calls Try.prog 14 #[.agg #[.int .i64 d, .slice A l.length c], t.val, .int .i64 n] w (RAdded w d l 50) := by
  have hB0 := (((Below.refl w.heap.size w).alloc (Nat.le_refl _) (.cells #[.int .i64 d, .slice A l.length c] 31)).alloc (by simp) (.cells #[.int .i64 t.d, .int .i64 t.e, .int .i64 t.x, .int .i64 t.y, .int .i64 t.z] 25)).alloc (by simp; omega) (.cells #[.int .i64 0, .slice none 0 0] 31)
  have hr3 : Row (((w.alloc (.cells #[.int .i64 d, .slice A l.length c] 31)).alloc (.cells #[.int .i64 t.d, .int .i64 t.e, .int .i64 t.x, .int .i64 t.y, .int .i64 t.z] 25)).alloc (.cells #[.int .i64 0, .slice none 0 0] 31)) w.heap.size 31 [.int .i64 d, .slice A l.length c] := Row.alloc (Row.alloc (Row.made w _ _) _) _
  have hx := (Holds.made (w.alloc (.cells #[.int .i64 d, .slice A l.length c] 31)) t).alloc (.cells #[.int .i64 0, .slice none 0 0] 31)
  have hr6 : Row (((w.alloc (.cells #[.int .i64 d, .slice A l.length c] 31)).alloc (.cells #[.int .i64 t.d, .int .i64 t.e, .int .i64 t.x, .int .i64 t.y, .int .i64 t.z] 25)).alloc (.cells #[.int .i64 0, .slice none 0 0] 31)) ((w.alloc (.cells #[.int .i64 d, .slice A l.length c] 31)).alloc (.cells #[.int .i64 t.d, .int .i64 t.e, .int .i64 t.x, .int .i64 t.y, .int .i64 t.z] 25)).heap.size 31 [.int .i64 0, .slice none 0 0] := Row.made _ _ _
  rw [size_alloc] at hx
  rw [size_alloc, size_alloc] at hr6
  have hr := right_is (decide_eq_false hR) (refRight_any t)
  have HRT := Lib.hid hr; clear hr hR hok
  have H0 := Lib.hid h; have HB0 := Lib.hid hB0; have HR := Lib.hid hr3; have HX := Lib.hid hx; have HZ := Lib.hid hr6; clear hB0 hr3 hx hr6 h
  unfold St.val at *
  go_enter Try.func14, Try.ntmps14
  go_wp2_with fail
  generalize ((w.alloc (.cells #[.int .i64 d, .slice A l.length c] 31)).alloc (.cells #[.int .i64 t.d, .int .i64 t.e, .int .i64 t.x, .int .i64 t.y, .int .i64 t.z] 25)).alloc (.cells #[.int .i64 0, .slice none 0 0] 31) = w0 at *
  have r3 := HR.out.below (Below.refl _ w0) HR.out.lt; have x4 := HX.out.below (Below.refl _ w0); have r6 := HZ.out.below (Below.refl _ w0) HZ.out.lt
  have c30 : w0.cell? ⟨w.heap.size, 0, none⟩ = some (.int .i64 d) := r3.cell 0
  have c31 : w0.cell? ⟨w.heap.size, 1, none⟩ = some (.slice A l.length c) := r3.cell 1
  obtain ⟨c40, c41, c42, c43, c44⟩ := x4.cells5
  have c60 : w0.cell? ⟨w.heap.size + 1 + 1, 0, none⟩ = some (.int .i64 0) := r6.cell 0
  have c61 : w0.cell? ⟨w.heap.size + 1 + 1, 1, none⟩ = some (.slice none 0 0) := r6.cell 1
  have f60 : w0.frozen? ⟨w.heap.size + 1 + 1, 0, none⟩ = false := r6.free 0
  have f61 : w0.frozen? ⟨w.heap.size + 1 + 1, 1, none⟩ = false := r6.free 1
  go_wp2_with fail
  refine (HRT.out _).mono ?_; rintro e w1 ⟨rfl, hb1⟩
  clear c30 c31 c40 c41 c42 c43 c44 c60 c61 f60 f61
  have r3a := HR.out.below hb1 HR.out.lt; have x4a := HX.out.below hb1; have r6a := HZ.out.below hb1 HZ.out.lt
  have c30 : w1.cell? ⟨w.heap.size, 0, none⟩ = some (.int .i64 d) := r3a.cell 0
  have c31 : w1.cell? ⟨w.heap.size, 1, none⟩ = some (.slice A l.length c) := r3a.cell 1
  obtain ⟨c40, c41, c42, c43, c44⟩ := x4a.cells5
  have c60 : w1.cell? ⟨w.heap.size + 1 + 1, 0, none⟩ = some (.int .i64 0) := r6a.cell 0
  have c61 : w1.cell? ⟨w.heap.size + 1 + 1, 1, none⟩ = some (.slice none 0 0) := r6a.cell 1
  have f60 : w1.frozen? ⟨w.heap.size + 1 + 1, 0, none⟩ = false := r6a.free 0
  have f61 : w1.frozen? ⟨w.heap.size + 1 + 1, 1, none⟩ = false := r6a.free 1
  have HB1 := Lib.hid (HB0.out.trans (hb1.mono HB0.out.size)); clear hb1
  go_wp2_with fail
  refine bodyPost_ret (v := .tuple #[.agg #[.int .i64 d, .slice A l.length c], .int .i64 50]) (two_results rfl _ _ _ 31 _ (0, 0) _ rfl (((r6a).put 0 _).put 1 _) Try.underlying31 rfl (by kernel_rfl) rfl) rfl ?_
  have hbz := (below_setCell (below_setCell (HB1.out) (p := ⟨w.heap.size + 1 + 1, 0, none⟩) (by simp; omega) (.int .i64 d)) (p := ⟨w.heap.size + 1 + 1, 1, none⟩) (by simp; omega) (.slice A l.length c))
  exact ⟨⟨A, c, rfl, H0.out.below hbz⟩, hbz⟩
set_option maxHeartbeats 2000000 in
theorem radd_B {w : World} {A : Option Addr} {l : Cn} {c : Nat} {d : Int} (h : Rf w A c l) (hl : l.length ≤ 500) (hok : CnOk l) (t : St) (n : Int) (hR : t.R) (hd : t.d ≠ d) :
    Calls Try.prog 14 #[.agg #[.int .i64 d, .slice A l.length c], t.val, .int .i64 n] w (RAdded w d l 50) := by
  have hB0 := (((Below.refl w.heap.size w).alloc (Nat.le_refl _) (.cells #[.int .i64 d, .slice A l.length c] 31)).alloc (by simp) (.cells #[.int .i64 t.d, .int .i64 t.e, .int .i64 t.x, .int .i64 t.y, .int .i64 t.z] 25)).alloc (by simp; omega) (.cells #[.int .i64 0, .slice none 0 0] 31)
  have hr3 : Row (((w.alloc (.cells #[.int .i64 d, .slice A l.length c] 31)).alloc (.cells #[.int .i64 t.d, .int .i64 t.e, .int .i64 t.x, .int .i64 t.y, .int .i64 t.z] 25)).alloc (.cells #[.int .i64 0, .slice none 0 0] 31)) w.heap.size 31 [.int .i64 d, .slice A l.length c] := Row.alloc (Row.alloc (Row.made w _ _) _) _
  have hx := (Holds.made (w.alloc (.cells #[.int .i64 d, .slice A l.length c] 31)) t).alloc (.cells #[.int .i64 0, .slice none 0 0] 31)
  have hr6 : Row (((w.alloc (.cells #[.int .i64 d, .slice A l.length c] 31)).alloc (.cells #[.int .i64 t.d, .int .i64 t.e, .int .i64 t.x, .int .i64 t.y, .int .i64 t.z] 25)).alloc (.cells #[.int .i64 0, .slice none 0 0] 31)) ((w.alloc (.cells #[.int .i64 d, .slice A l.length c] 31)).alloc (.cells #[.int .i64 t.d, .int .i64 t.e, .int .i64 t.x, .int .i64 t.y, .int .i64 t.z] 25)).heap.size 31 [.int .i64 0, .slice none 0 0] := Row.made _ _ _
  rw [size_alloc] at hx
  rw [size_alloc, size_alloc] at hr6
  have hr := right_is (decide_eq_true hR) (refRight_any t)
  have hdd : (t.d != d) = true := by simpa using hd
  have HRT := Lib.hid hr; clear hr hR hok hd
  have H0 := Lib.hid h; have HB0 := Lib.hid hB0; have HR := Lib.hid hr3; have HX := Lib.hid hx; have HZ := Lib.hid hr6; clear hB0 hr3 hx hr6 h
  unfold St.val at *
  go_enter Try.func14, Try.ntmps14
  go_wp2_with fail
  generalize ((w.alloc (.cells #[.int .i64 d, .slice A l.length c] 31)).alloc (.cells #[.int .i64 t.d, .int .i64 t.e, .int .i64 t.x, .int .i64 t.y, .int .i64 t.z] 25)).alloc (.cells #[.int .i64 0, .slice none 0 0] 31) = w0 at *
  have r3 := HR.out.below (Below.refl _ w0) HR.out.lt; have x4 := HX.out.below (Below.refl _ w0); have r6 := HZ.out.below (Below.refl _ w0) HZ.out.lt
  have c30 : w0.cell? ⟨w.heap.size, 0, none⟩ = some (.int .i64 d) := r3.cell 0
  have c31 : w0.cell? ⟨w.heap.size, 1, none⟩ = some (.slice A l.length c) := r3.cell 1
  obtain ⟨c40, c41, c42, c43, c44⟩ := x4.cells5
  have c60 : w0.cell? ⟨w.heap.size + 1 + 1, 0, none⟩ = some (.int .i64 0) := r6.cell 0
  have c61 : w0.cell? ⟨w.heap.size + 1 + 1, 1, none⟩ = some (.slice none 0 0) := r6.cell 1
  have f60 : w0.frozen? ⟨w.heap.size + 1 + 1, 0, none⟩ = false := r6.free 0
  have f61 : w0.frozen? ⟨w.heap.size + 1 + 1, 1, none⟩ = false := r6.free 1
  go_wp2_with fail
  refine (HRT.out _).mono ?_; rintro e w1 ⟨rfl, hb1⟩
  clear c30 c31 c40 c41 c42 c43 c44 c60 c61 f60 f61
  have r3a := HR.out.below hb1 HR.out.lt; have x4a := HX.out.below hb1; have r6a := HZ.out.below hb1 HZ.out.lt
  have c30 : w1.cell? ⟨w.heap.size, 0, none⟩ = some (.int .i64 d) := r3a.cell 0
  have c31 : w1.cell? ⟨w.heap.size, 1, none⟩ = some (.slice A l.length c) := r3a.cell 1
  obtain ⟨c40, c41, c42, c43, c44⟩ := x4a.cells5
  have c60 : w1.cell? ⟨w.heap.size + 1 + 1, 0, none⟩ = some (.int .i64 0) := r6a.cell 0
  have c61 : w1.cell? ⟨w.heap.size + 1 + 1, 1, none⟩ = some (.slice none 0 0) := r6a.cell 1
  have f60 : w1.frozen? ⟨w.heap.size + 1 + 1, 0, none⟩ = false := r6a.free 0
  have f61 : w1.frozen? ⟨w.heap.size + 1 + 1, 1, none⟩ = false := r6a.free 1
  have HB1 := Lib.hid (HB0.out.trans (hb1.mono HB0.out.size)); clear hb1
  go_wp2_with fail
  refine bodyPost_ret (v := .tuple #[.agg #[.int .i64 d, .slice A l.length c], .int .i64 50]) (two_results rfl _ _ _ 31 _ (0, 0) _ rfl (((r6a).put 0 _).put 1 _) Try.underlying31 rfl (by kernel_rfl) rfl) rfl ?_
  have hbz := (below_setCell (below_setCell (HB1.out) (p := ⟨w.heap.size + 1 + 1, 0, none⟩) (by simp; omega) (.int .i64 d)) (p := ⟨w.heap.size + 1 + 1, 1, none⟩) (by simp; omega) (.slice A l.length c))
  exact ⟨⟨A, c, rfl, H0.out.below hbz⟩, hbz⟩
theorem in_is {n : Int} {v : Bool} (h : decide (Nr n) = v) : ∀ w, Calls Try.prog 38 #[.int .i64 n] w fun e w' => e = .returned (.bool v) ∧ w = w' := fun w => by
  rw [← h]; exact in_any n w
set_option maxHeartbeats 4000000 in
theorem radd_C {w : World} {A : Option Addr} {l : Cn} {c : Nat} {d : Int} (h : Rf w A c l) (hl : l.length ≤ 500) (hok : CnOk l) (t : St) (n : Int) (hR : t.R) (hd : t.d = d) (hn : ¬ Nr n) :
    Calls Try.prog 14 #[.agg #[.int .i64 d, .slice A l.length c], t.val, .int .i64 n] w (RAdded w d l 3) := by
  have hB0 := (((Below.refl w.heap.size w).alloc (Nat.le_refl _) (.cells #[.int .i64 d, .slice A l.length c] 31)).alloc (by simp) (.cells #[.int .i64 t.d, .int .i64 t.e, .int .i64 t.x, .int .i64 t.y, .int .i64 t.z] 25)).alloc (by simp; omega) (.cells #[.int .i64 0, .slice none 0 0] 31)
  have hr3 : Row (((w.alloc (.cells #[.int .i64 d, .slice A l.length c] 31)).alloc (.cells #[.int .i64 t.d, .int .i64 t.e, .int .i64 t.x, .int .i64 t.y, .int .i64 t.z] 25)).alloc (.cells #[.int .i64 0, .slice none 0 0] 31)) w.heap.size 31 [.int .i64 d, .slice A l.length c] := Row.alloc (Row.alloc (Row.made w _ _) _) _
  have hx := (Holds.made (w.alloc (.cells #[.int .i64 d, .slice A l.length c] 31)) t).alloc (.cells #[.int .i64 0, .slice none 0 0] 31)
  have hr6 : Row (((w.alloc (.cells #[.int .i64 d, .slice A l.length c] 31)).alloc (.cells #[.int .i64 t.d, .int .i64 t.e, .int .i64 t.x, .int .i64 t.y, .int .i64 t.z] 25)).alloc (.cells #[.int .i64 0, .slice none 0 0] 31)) ((w.alloc (.cells #[.int .i64 d, .slice A l.length c] 31)).alloc (.cells #[.int .i64 t.d, .int .i64 t.e, .int .i64 t.x, .int .i64 t.y, .int .i64 t.z] 25)).heap.size 31 [.int .i64 0, .slice none 0 0] := Row.made _ _ _
  rw [size_alloc] at hx
  rw [size_alloc, size_alloc] at hr6
  have hr := right_is (decide_eq_true hR) (refRight_any t)
  have hdd : (t.d != d) = false := by simpa using hd
  have hpl := fun w' (hb : Below w.heap.size w w') => place_any A l c d t w' (h.below hb) (by omega)
  have hcn := fun w' (hb : Below w.heap.size w w') => refCount_any A l c d t w' (h.below hb) (by omega) hok
  obtain ⟨q, hq⟩ : ∃ q, cnt l t = q := ⟨_, rfl⟩
  rw [hq] at hcn
  have HIN := Lib.hid (in_is (decide_eq_false hn)); clear hn
  have HRT := Lib.hid hr; have HPL := Lib.hid hpl; have HCN := Lib.hid hcn; have HQ := Lib.hid hq; have HOK := Lib.hid hok; have HRD := Lib.hid (And.intro hR hd); clear hr hpl hcn hq hok hR hd
  have H0 := Lib.hid h; have HB0 := Lib.hid hB0; have HR := Lib.hid hr3; have HX := Lib.hid hx; have HZ := Lib.hid hr6; clear hB0 hr3 hx hr6 h
  unfold St.val at *
  go_enter Try.func14, Try.ntmps14
  go_wp2_with fail
  generalize ((w.alloc (.cells #[.int .i64 d, .slice A l.length c] 31)).alloc (.cells #[.int .i64 t.d, .int .i64 t.e, .int .i64 t.x, .int .i64 t.y, .int .i64 t.z] 25)).alloc (.cells #[.int .i64 0, .slice none 0 0] 31) = w0 at *
  have r3 := HR.out.below (Below.refl _ w0) HR.out.lt; have x4 := HX.out.below (Below.refl _ w0); have r6 := HZ.out.below (Below.refl _ w0) HZ.out.lt
  have c30 : w0.cell? ⟨w.heap.size, 0, none⟩ = some (.int .i64 d) := r3.cell 0
  have c31 : w0.cell? ⟨w.heap.size, 1, none⟩ = some (.slice A l.length c) := r3.cell 1
  obtain ⟨c40, c41, c42, c43, c44⟩ := x4.cells5
  have c60 : w0.cell? ⟨w.heap.size + 1 + 1, 0, none⟩ = some (.int .i64 0) := r6.cell 0
  have c61 : w0.cell? ⟨w.heap.size + 1 + 1, 1, none⟩ = some (.slice none 0 0) := r6.cell 1
  have f60 : w0.frozen? ⟨w.heap.size + 1 + 1, 0, none⟩ = false := r6.free 0
  have f61 : w0.frozen? ⟨w.heap.size + 1 + 1, 1, none⟩ = false := r6.free 1
  go_wp2_with fail
  refine (HRT.out _).mono ?_; rintro e w1 ⟨rfl, hb1⟩
  clear c30 c31 c40 c41 c42 c43 c44 c60 c61 f60 f61
  have r3a := HR.out.below hb1 HR.out.lt; have x4a := HX.out.below hb1; have r6a := HZ.out.below hb1 HZ.out.lt
  have c30 : w1.cell? ⟨w.heap.size, 0, none⟩ = some (.int .i64 d) := r3a.cell 0
  have c31 : w1.cell? ⟨w.heap.size, 1, none⟩ = some (.slice A l.length c) := r3a.cell 1
  obtain ⟨c40, c41, c42, c43, c44⟩ := x4a.cells5
  have c60 : w1.cell? ⟨w.heap.size + 1 + 1, 0, none⟩ = some (.int .i64 0) := r6a.cell 0
  have c61 : w1.cell? ⟨w.heap.size + 1 + 1, 1, none⟩ = some (.slice none 0 0) := r6a.cell 1
  have f60 : w1.frozen? ⟨w.heap.size + 1 + 1, 0, none⟩ = false := r6a.free 0
  have f61 : w1.frozen? ⟨w.heap.size + 1 + 1, 1, none⟩ = false := r6a.free 1
  have HB1 := Lib.hid (HB0.out.trans (hb1.mono HB0.out.size)); have HW1 := Lib.hid hb1; clear r3 x4 r6 hb1
  have RS1 := Lib.hid (And.intro r3a (And.intro x4a r6a)); clear r3a x4a r6a
  have kk := HPL.out w1 HB1.out
  unfold St.val at kk
  have KK := Lib.hid kk; clear kk
  go_wp2_with fail
  refine (KK.out).mono ?_; rintro e w2 ⟨⟨k, b, rfl, hat⟩, hb2⟩
  clear c30 c31 c40 c41 c42 c43 c44 c60 c61 f60 f61
  have RS2 := Lib.hid (And.intro (RS1.out.1.below hb2 RS1.out.1.lt) (And.intro (RS1.out.2.1.below hb2) (RS1.out.2.2.below hb2 RS1.out.2.2.lt)))
  have HB2 := Lib.hid (HB1.out.trans (hb2.mono HB1.out.size)); have HW2 := Lib.hid (HW1.out.trans (hb2.mono HW1.out.size)); have HAT := Lib.hid hat; clear hb2 hat KK HPL
  have c30 : w2.cell? ⟨w.heap.size, 0, none⟩ = some (.int .i64 d) := RS2.out.1.cell 0
  have c31 : w2.cell? ⟨w.heap.size, 1, none⟩ = some (.slice A l.length c) := RS2.out.1.cell 1
  obtain ⟨c40, c41, c42, c43, c44⟩ := RS2.out.2.1.cells5
  have c60 : w2.cell? ⟨w.heap.size + 1 + 1, 0, none⟩ = some (.int .i64 0) := RS2.out.2.2.cell 0
  have c61 : w2.cell? ⟨w.heap.size + 1 + 1, 1, none⟩ = some (.slice none 0 0) := RS2.out.2.2.cell 1
  have f60 : w2.frozen? ⟨w.heap.size + 1 + 1, 0, none⟩ = false := RS2.out.2.2.free 0
  have f61 : w2.frozen? ⟨w.heap.size + 1 + 1, 1, none⟩ = false := RS2.out.2.2.free 1
  dsimp only
  go_wp2_with fail
  refine (HIN.out _).mono ?_; rintro e w3 ⟨rfl, rfl⟩
  go_wp2_with fail
  refine bodyPost_ret (v := .tuple #[.agg #[.int .i64 d, .slice A l.length c], .int .i64 3]) (two_results rfl _ _ _ 31 _ (0, 0) _ rfl (((RS2.out.2.2).put 0 _).put 1 _) Try.underlying31 rfl (by kernel_rfl) rfl) rfl ?_
  have hbz := (below_setCell (below_setCell (HB2.out) (p := ⟨w.heap.size + 1 + 1, 0, none⟩) (by simp; omega) (.int .i64 d)) (p := ⟨w.heap.size + 1 + 1, 1, none⟩) (by simp; omega) (.slice A l.length c))
  exact ⟨⟨A, c, rfl, H0.out.below hbz⟩, hbz⟩
set_option maxHeartbeats 4000000 in
theorem radd_D {w : World} {A : Option Addr} {l : Cn} {c : Nat} {d : Int} (h : Rf w A c l) (hl : l.length ≤ 500) (hok : CnOk l) (t : St) (n : Int) (hR : t.R) (hd : t.d = d) (hn : Nr n) (hq0 : Nr (cnt l t)) (hc : ¬ Nr (cnt l t + n)) :
    Calls Try.prog 14 #[.agg #[.int .i64 d, .slice A l.length c], t.val, .int .i64 n] w (RAdded w d l 3) := by
  have hB0 := (((Below.refl w.heap.size w).alloc (Nat.le_refl _) (.cells #[.int .i64 d, .slice A l.length c] 31)).alloc (by simp) (.cells #[.int .i64 t.d, .int .i64 t.e, .int .i64 t.x, .int .i64 t.y, .int .i64 t.z] 25)).alloc (by simp; omega) (.cells #[.int .i64 0, .slice none 0 0] 31)
  have hr3 : Row (((w.alloc (.cells #[.int .i64 d, .slice A l.length c] 31)).alloc (.cells #[.int .i64 t.d, .int .i64 t.e, .int .i64 t.x, .int .i64 t.y, .int .i64 t.z] 25)).alloc (.cells #[.int .i64 0, .slice none 0 0] 31)) w.heap.size 31 [.int .i64 d, .slice A l.length c] := Row.alloc (Row.alloc (Row.made w _ _) _) _
  have hx := (Holds.made (w.alloc (.cells #[.int .i64 d, .slice A l.length c] 31)) t).alloc (.cells #[.int .i64 0, .slice none 0 0] 31)
  have hr6 : Row (((w.alloc (.cells #[.int .i64 d, .slice A l.length c] 31)).alloc (.cells #[.int .i64 t.d, .int .i64 t.e, .int .i64 t.x, .int .i64 t.y, .int .i64 t.z] 25)).alloc (.cells #[.int .i64 0, .slice none 0 0] 31)) ((w.alloc (.cells #[.int .i64 d, .slice A l.length c] 31)).alloc (.cells #[.int .i64 t.d, .int .i64 t.e, .int .i64 t.x, .int .i64 t.y, .int .i64 t.z] 25)).heap.size 31 [.int .i64 0, .slice none 0 0] := Row.made _ _ _
  rw [size_alloc] at hx
  rw [size_alloc, size_alloc] at hr6
  have HIN := Lib.hid (in_is (decide_eq_true hn))
  have HSB := Lib.hid (show -3000000000000 ≤ cnt l t + n ∧ cnt l t + n ≤ 3000000000000 by unfold Nr at hq0 hn; omega)
  have hsum : IntKind.i64.wrap (cnt l t + n) = cnt l t + n := IntWalk.i64_in _ (by have := HSB.out; omega)
  obtain ⟨s, hs⟩ : ∃ s, cnt l t + n = s := ⟨_, rfl⟩
  rw [hs] at hc hsum
  have hr := right_is (decide_eq_true hR) (refRight_any t)
  have hdd : (t.d != d) = false := by simpa using hd
  have hpl := fun w' (hb : Below w.heap.size w w') => place_any A l c d t w' (h.below hb) (by omega)
  have hcn := fun w' (hb : Below w.heap.size w w') => refCount_any A l c d t w' (h.below hb) (by omega) hok
  obtain ⟨q, hq⟩ : ∃ q, cnt l t = q := ⟨_, rfl⟩
  rw [hq] at hcn
  have HIN2 := Lib.hid (in_is (decide_eq_false hc)); clear hn hc hq0
  rw [hq] at hs
  have hsum : IntKind.i64.wrap (q + n) = s := by rw [hs]; exact hsum
  rw [hq] at HSB
  have HRT := Lib.hid hr; have HPL := Lib.hid hpl; have HCN := Lib.hid hcn; have HQ := Lib.hid hq; have HOK := Lib.hid hok; have HRD := Lib.hid (And.intro hR hd); clear hr hpl hcn hq hok hR hd
  have H0 := Lib.hid h; have HB0 := Lib.hid hB0; have HR := Lib.hid hr3; have HX := Lib.hid hx; have HZ := Lib.hid hr6; clear hB0 hr3 hx hr6 h
  unfold St.val at *
  go_enter Try.func14, Try.ntmps14
  go_wp2_with fail
  generalize ((w.alloc (.cells #[.int .i64 d, .slice A l.length c] 31)).alloc (.cells #[.int .i64 t.d, .int .i64 t.e, .int .i64 t.x, .int .i64 t.y, .int .i64 t.z] 25)).alloc (.cells #[.int .i64 0, .slice none 0 0] 31) = w0 at *
  have r3 := HR.out.below (Below.refl _ w0) HR.out.lt; have x4 := HX.out.below (Below.refl _ w0); have r6 := HZ.out.below (Below.refl _ w0) HZ.out.lt
  have c30 : w0.cell? ⟨w.heap.size, 0, none⟩ = some (.int .i64 d) := r3.cell 0
  have c31 : w0.cell? ⟨w.heap.size, 1, none⟩ = some (.slice A l.length c) := r3.cell 1
  obtain ⟨c40, c41, c42, c43, c44⟩ := x4.cells5
  have c60 : w0.cell? ⟨w.heap.size + 1 + 1, 0, none⟩ = some (.int .i64 0) := r6.cell 0
  have c61 : w0.cell? ⟨w.heap.size + 1 + 1, 1, none⟩ = some (.slice none 0 0) := r6.cell 1
  have f60 : w0.frozen? ⟨w.heap.size + 1 + 1, 0, none⟩ = false := r6.free 0
  have f61 : w0.frozen? ⟨w.heap.size + 1 + 1, 1, none⟩ = false := r6.free 1
  go_wp2_with fail
  refine (HRT.out _).mono ?_; rintro e w1 ⟨rfl, hb1⟩
  clear c30 c31 c40 c41 c42 c43 c44 c60 c61 f60 f61
  have r3a := HR.out.below hb1 HR.out.lt; have x4a := HX.out.below hb1; have r6a := HZ.out.below hb1 HZ.out.lt
  have c30 : w1.cell? ⟨w.heap.size, 0, none⟩ = some (.int .i64 d) := r3a.cell 0
  have c31 : w1.cell? ⟨w.heap.size, 1, none⟩ = some (.slice A l.length c) := r3a.cell 1
  obtain ⟨c40, c41, c42, c43, c44⟩ := x4a.cells5
  have c60 : w1.cell? ⟨w.heap.size + 1 + 1, 0, none⟩ = some (.int .i64 0) := r6a.cell 0
  have c61 : w1.cell? ⟨w.heap.size + 1 + 1, 1, none⟩ = some (.slice none 0 0) := r6a.cell 1
  have f60 : w1.frozen? ⟨w.heap.size + 1 + 1, 0, none⟩ = false := r6a.free 0
  have f61 : w1.frozen? ⟨w.heap.size + 1 + 1, 1, none⟩ = false := r6a.free 1
  have HB1 := Lib.hid (HB0.out.trans (hb1.mono HB0.out.size)); have HW1 := Lib.hid hb1; clear r3 x4 r6 hb1
  have RS1 := Lib.hid (And.intro r3a (And.intro x4a r6a)); clear r3a x4a r6a
  have kk := HPL.out w1 HB1.out
  unfold St.val at kk
  have KK := Lib.hid kk; clear kk
  go_wp2_with fail
  refine (KK.out).mono ?_; rintro e w2 ⟨⟨k, b, rfl, hat⟩, hb2⟩
  clear c30 c31 c40 c41 c42 c43 c44 c60 c61 f60 f61
  have RS2 := Lib.hid (And.intro (RS1.out.1.below hb2 RS1.out.1.lt) (And.intro (RS1.out.2.1.below hb2) (RS1.out.2.2.below hb2 RS1.out.2.2.lt)))
  have HB2 := Lib.hid (HB1.out.trans (hb2.mono HB1.out.size)); have HW2 := Lib.hid (HW1.out.trans (hb2.mono HW1.out.size)); have HAT := Lib.hid hat; clear hb2 hat KK HPL
  have c30 : w2.cell? ⟨w.heap.size, 0, none⟩ = some (.int .i64 d) := RS2.out.1.cell 0
  have c31 : w2.cell? ⟨w.heap.size, 1, none⟩ = some (.slice A l.length c) := RS2.out.1.cell 1
  obtain ⟨c40, c41, c42, c43, c44⟩ := RS2.out.2.1.cells5
  have c60 : w2.cell? ⟨w.heap.size + 1 + 1, 0, none⟩ = some (.int .i64 0) := RS2.out.2.2.cell 0
  have c61 : w2.cell? ⟨w.heap.size + 1 + 1, 1, none⟩ = some (.slice none 0 0) := RS2.out.2.2.cell 1
  have f60 : w2.frozen? ⟨w.heap.size + 1 + 1, 0, none⟩ = false := RS2.out.2.2.free 0
  have f61 : w2.frozen? ⟨w.heap.size + 1 + 1, 1, none⟩ = false := RS2.out.2.2.free 1
  dsimp only
  go_wp2_with fail
  refine (HIN.out _).mono ?_; rintro e w3 ⟨rfl, rfl⟩
  have kk := HCN.out w2 HB2.out
  unfold St.val at kk
  have KK := Lib.hid kk; clear kk
  go_wp2_with fail
  refine (KK.out).mono ?_; rintro e w3 ⟨rfl, hb3⟩
  clear c30 c31 c40 c41 c42 c43 c44 c60 c61 f60 f61
  have RS3 := Lib.hid (And.intro (RS2.out.1.below hb3 RS2.out.1.lt) (And.intro (RS2.out.2.1.below hb3) (RS2.out.2.2.below hb3 RS2.out.2.2.lt)))
  have HB3 := Lib.hid (HB2.out.trans (hb3.mono HB2.out.size)); have HW3 := Lib.hid (HW2.out.trans (hb3.mono HW2.out.size)); clear hb3 RS2 HB2
  clear KK
  have c30 : w3.cell? ⟨w.heap.size, 0, none⟩ = some (.int .i64 d) := RS3.out.1.cell 0
  have c31 : w3.cell? ⟨w.heap.size, 1, none⟩ = some (.slice A l.length c) := RS3.out.1.cell 1
  obtain ⟨c40, c41, c42, c43, c44⟩ := RS3.out.2.1.cells5
  have c60 : w3.cell? ⟨w.heap.size + 1 + 1, 0, none⟩ = some (.int .i64 0) := RS3.out.2.2.cell 0
  have c61 : w3.cell? ⟨w.heap.size + 1 + 1, 1, none⟩ = some (.slice none 0 0) := RS3.out.2.2.cell 1
  have f60 : w3.frozen? ⟨w.heap.size + 1 + 1, 0, none⟩ = false := RS3.out.2.2.free 0
  have f61 : w3.frozen? ⟨w.heap.size + 1 + 1, 1, none⟩ = false := RS3.out.2.2.free 1
  go_wp2_with fail
  refine (HIN2.out _).mono ?_; rintro e w4 ⟨rfl, rfl⟩
  go_wp2_with fail
  refine bodyPost_ret (v := .tuple #[.agg #[.int .i64 d, .slice A l.length c], .int .i64 3]) (two_results rfl _ _ _ 31 _ (0, 0) _ rfl (((RS3.out.2.2).put 0 _).put 1 _) Try.underlying31 rfl (by kernel_rfl) rfl) rfl ?_
  have hbz := (below_setCell (below_setCell (HB3.out) (p := ⟨w.heap.size + 1 + 1, 0, none⟩) (by simp; omega) (.int .i64 d)) (p := ⟨w.heap.size + 1 + 1, 1, none⟩) (by simp; omega) (.slice A l.length c))
  exact ⟨⟨A, c, rfl, H0.out.below hbz⟩, hbz⟩
set_option maxHeartbeats 8000000 in
theorem radd_Esy {w : World} {g : Nat} {l : Cn} {c : Nat} {d : Int} (h : Rf w (some ⟨g, 0, none⟩) c l) (hl : l.length ≤ 500) (hok : CnOk l) (t : St) (n : Int) (hR : t.R) (hd : t.d = d) (hn : Nr n) (hq0 : Nr (cnt l t)) (hc : Nr (cnt l t + n)) (hz : cnt l t + n ≠ 0) :
    Calls Try.prog 14 #[.agg #[.int .i64 d, .slice (some ⟨g, 0, none⟩) l.length c], t.val, .int .i64 n] w (RAdded w d (addC l t n) 0) := by
  have hB0 := (((Below.refl w.heap.size w).alloc (Nat.le_refl _) (.cells #[.int .i64 d, .slice (some ⟨g, 0, none⟩) l.length c] 31)).alloc (by simp) (.cells #[.int .i64 t.d, .int .i64 t.e, .int .i64 t.x, .int .i64 t.y, .int .i64 t.z] 25)).alloc (by simp; omega) (.cells #[.int .i64 0, .slice none 0 0] 31)
  have hr3 : Row (((w.alloc (.cells #[.int .i64 d, .slice (some ⟨g, 0, none⟩) l.length c] 31)).alloc (.cells #[.int .i64 t.d, .int .i64 t.e, .int .i64 t.x, .int .i64 t.y, .int .i64 t.z] 25)).alloc (.cells #[.int .i64 0, .slice none 0 0] 31)) w.heap.size 31 [.int .i64 d, .slice (some ⟨g, 0, none⟩) l.length c] := Row.alloc (Row.alloc (Row.made w _ _) _) _
  have hx := (Holds.made (w.alloc (.cells #[.int .i64 d, .slice (some ⟨g, 0, none⟩) l.length c] 31)) t).alloc (.cells #[.int .i64 0, .slice none 0 0] 31)
  have hr6 : Row (((w.alloc (.cells #[.int .i64 d, .slice (some ⟨g, 0, none⟩) l.length c] 31)).alloc (.cells #[.int .i64 t.d, .int .i64 t.e, .int .i64 t.x, .int .i64 t.y, .int .i64 t.z] 25)).alloc (.cells #[.int .i64 0, .slice none 0 0] 31)) ((w.alloc (.cells #[.int .i64 d, .slice (some ⟨g, 0, none⟩) l.length c] 31)).alloc (.cells #[.int .i64 t.d, .int .i64 t.e, .int .i64 t.x, .int .i64 t.y, .int .i64 t.z] 25)).heap.size 31 [.int .i64 0, .slice none 0 0] := Row.made _ _ _
  rw [size_alloc] at hx
  rw [size_alloc, size_alloc] at hr6
  have HIN := Lib.hid (in_is (decide_eq_true hn))
  have HSB := Lib.hid (show -3000000000000 ≤ cnt l t + n ∧ cnt l t + n ≤ 3000000000000 by unfold Nr at hq0 hn; omega)
  have hsum : IntKind.i64.wrap (cnt l t + n) = cnt l t + n := IntWalk.i64_in _ (by have := HSB.out; omega)
  obtain ⟨s, hs⟩ : ∃ s, cnt l t + n = s := ⟨_, rfl⟩
  rw [hs] at hc hsum
  have hok0 := hok
  have hr := right_is (decide_eq_true hR) (refRight_any t)
  have hdd : (t.d != d) = false := by simpa using hd
  have hpl := fun w' (hb : Below w.heap.size w w') => place_any (some ⟨g, 0, none⟩) l c d t w' (h.below hb) (by omega)
  have hcn := fun w' (hb : Below w.heap.size w w') => refCount_any (some ⟨g, 0, none⟩) l c d t w' (h.below hb) (by omega) hok
  obtain ⟨q, hq⟩ : ∃ q, cnt l t = q := ⟨_, rfl⟩
  rw [hq] at hcn
  have HIN2 := Lib.hid (in_is (decide_eq_true hc)); clear hn hc hq0
  have HS := Lib.hid hs
  rw [hq] at hs
  have hsum : IntKind.i64.wrap (q + n) = s := by rw [hs]; exact hsum
  rw [hq] at HSB
  have HRT := Lib.hid hr; have HPL := Lib.hid hpl; have HCN := Lib.hid hcn; have HQ := Lib.hid hq; have HOK := Lib.hid hok; have HRD := Lib.hid (And.intro hR hd); clear hr hpl hcn hq hok hR hd
  have H0 := Lib.hid h; have HB0 := Lib.hid hB0; have HR := Lib.hid hr3; have HX := Lib.hid hx; have HZ := Lib.hid hr6; clear hB0 hr3 hx hr6 h
  have hzz : (s != 0) = true := by rw [HS.out] at hz; simpa using hz
  have HRW := Lib.hid (fun (k : Nat) (b : Bool) (hat : AtK l t k b) => rowM_is l t k b s hok0 hat)
  have HZZ := Lib.hid hzz; have HL := Lib.hid hl; clear hok0 hzz hz hl
  unfold St.val at *
  go_enter Try.func14, Try.ntmps14
  go_wp2_with fail
  generalize ((w.alloc (.cells #[.int .i64 d, .slice (some ⟨g, 0, none⟩) l.length c] 31)).alloc (.cells #[.int .i64 t.d, .int .i64 t.e, .int .i64 t.x, .int .i64 t.y, .int .i64 t.z] 25)).alloc (.cells #[.int .i64 0, .slice none 0 0] 31) = w0 at *
  have r3 := HR.out.below (Below.refl _ w0) HR.out.lt; have x4 := HX.out.below (Below.refl _ w0); have r6 := HZ.out.below (Below.refl _ w0) HZ.out.lt
  have c30 : w0.cell? ⟨w.heap.size, 0, none⟩ = some (.int .i64 d) := r3.cell 0
  have c31 : w0.cell? ⟨w.heap.size, 1, none⟩ = some (.slice (some ⟨g, 0, none⟩) l.length c) := r3.cell 1
  obtain ⟨c40, c41, c42, c43, c44⟩ := x4.cells5
  have c60 : w0.cell? ⟨w.heap.size + 1 + 1, 0, none⟩ = some (.int .i64 0) := r6.cell 0
  have c61 : w0.cell? ⟨w.heap.size + 1 + 1, 1, none⟩ = some (.slice none 0 0) := r6.cell 1
  have f60 : w0.frozen? ⟨w.heap.size + 1 + 1, 0, none⟩ = false := r6.free 0
  have f61 : w0.frozen? ⟨w.heap.size + 1 + 1, 1, none⟩ = false := r6.free 1
  go_wp2_with fail
  refine (HRT.out _).mono ?_; rintro e w1 ⟨rfl, hb1⟩
  clear c30 c31 c40 c41 c42 c43 c44 c60 c61 f60 f61
  have r3a := HR.out.below hb1 HR.out.lt; have x4a := HX.out.below hb1; have r6a := HZ.out.below hb1 HZ.out.lt
  have c30 : w1.cell? ⟨w.heap.size, 0, none⟩ = some (.int .i64 d) := r3a.cell 0
  have c31 : w1.cell? ⟨w.heap.size, 1, none⟩ = some (.slice (some ⟨g, 0, none⟩) l.length c) := r3a.cell 1
  obtain ⟨c40, c41, c42, c43, c44⟩ := x4a.cells5
  have c60 : w1.cell? ⟨w.heap.size + 1 + 1, 0, none⟩ = some (.int .i64 0) := r6a.cell 0
  have c61 : w1.cell? ⟨w.heap.size + 1 + 1, 1, none⟩ = some (.slice none 0 0) := r6a.cell 1
  have f60 : w1.frozen? ⟨w.heap.size + 1 + 1, 0, none⟩ = false := r6a.free 0
  have f61 : w1.frozen? ⟨w.heap.size + 1 + 1, 1, none⟩ = false := r6a.free 1
  have HB1 := Lib.hid (HB0.out.trans (hb1.mono HB0.out.size)); have HW1 := Lib.hid hb1; clear r3 x4 r6 hb1
  have RS1 := Lib.hid (And.intro r3a (And.intro x4a r6a)); clear r3a x4a r6a
  have kk := HPL.out w1 HB1.out
  unfold St.val at kk
  have KK := Lib.hid kk; clear kk
  go_wp2_with fail
  refine (KK.out).mono ?_; rintro e w2 ⟨⟨k, b, rfl, hat⟩, hb2⟩
  clear c30 c31 c40 c41 c42 c43 c44 c60 c61 f60 f61
  have RS2 := Lib.hid (And.intro (RS1.out.1.below hb2 RS1.out.1.lt) (And.intro (RS1.out.2.1.below hb2) (RS1.out.2.2.below hb2 RS1.out.2.2.lt)))
  have HB2 := Lib.hid (HB1.out.trans (hb2.mono HB1.out.size)); have HW2 := Lib.hid (HW1.out.trans (hb2.mono HW1.out.size)); have HAT := Lib.hid hat; clear hb2 hat KK HPL
  have c30 : w2.cell? ⟨w.heap.size, 0, none⟩ = some (.int .i64 d) := RS2.out.1.cell 0
  have c31 : w2.cell? ⟨w.heap.size, 1, none⟩ = some (.slice (some ⟨g, 0, none⟩) l.length c) := RS2.out.1.cell 1
  obtain ⟨c40, c41, c42, c43, c44⟩ := RS2.out.2.1.cells5
  have c60 : w2.cell? ⟨w.heap.size + 1 + 1, 0, none⟩ = some (.int .i64 0) := RS2.out.2.2.cell 0
  have c61 : w2.cell? ⟨w.heap.size + 1 + 1, 1, none⟩ = some (.slice none 0 0) := RS2.out.2.2.cell 1
  have f60 : w2.frozen? ⟨w.heap.size + 1 + 1, 0, none⟩ = false := RS2.out.2.2.free 0
  have f61 : w2.frozen? ⟨w.heap.size + 1 + 1, 1, none⟩ = false := RS2.out.2.2.free 1
  dsimp only
  go_wp2_with fail
  refine (HIN.out _).mono ?_; rintro e w3 ⟨rfl, rfl⟩
  have kk := HCN.out w2 HB2.out
  unfold St.val at kk
  have KK := Lib.hid kk; clear kk
  go_wp2_with fail
  refine (KK.out).mono ?_; rintro e w3 ⟨rfl, hb3⟩
  clear c30 c31 c40 c41 c42 c43 c44 c60 c61 f60 f61
  have RS3 := Lib.hid (And.intro (RS2.out.1.below hb3 RS2.out.1.lt) (And.intro (RS2.out.2.1.below hb3) (RS2.out.2.2.below hb3 RS2.out.2.2.lt)))
  have HB3 := Lib.hid (HB2.out.trans (hb3.mono HB2.out.size)); have HW3 := Lib.hid (HW2.out.trans (hb3.mono HW2.out.size)); clear hb3 RS2 HB2
  clear KK
  have c30 : w3.cell? ⟨w.heap.size, 0, none⟩ = some (.int .i64 d) := RS3.out.1.cell 0
  have c31 : w3.cell? ⟨w.heap.size, 1, none⟩ = some (.slice (some ⟨g, 0, none⟩) l.length c) := RS3.out.1.cell 1
  obtain ⟨c40, c41, c42, c43, c44⟩ := RS3.out.2.1.cells5
  have c60 : w3.cell? ⟨w.heap.size + 1 + 1, 0, none⟩ = some (.int .i64 0) := RS3.out.2.2.cell 0
  have c61 : w3.cell? ⟨w.heap.size + 1 + 1, 1, none⟩ = some (.slice none 0 0) := RS3.out.2.2.cell 1
  have f60 : w3.frozen? ⟨w.heap.size + 1 + 1, 0, none⟩ = false := RS3.out.2.2.free 0
  have f61 : w3.frozen? ⟨w.heap.size + 1 + 1, 1, none⟩ = false := RS3.out.2.2.free 1
  go_wp2_with fail
  refine (HIN2.out _).mono ?_; rintro e w4 ⟨rfl, rfl⟩
  go_wp2_with fail
  clear c30 c31 c40 c41 c42 c43 c44 c60 c61 f60 f61
  have c30 : w3.cell? ⟨w.heap.size, 0, none⟩ = some (.int .i64 d) := RS3.out.1.cell 0
  have c31 : w3.cell? ⟨w.heap.size, 1, none⟩ = some (.slice (some ⟨g, 0, none⟩) l.length c) := RS3.out.1.cell 1
  obtain ⟨c40, c41, c42, c43, c44⟩ := RS3.out.2.1.cells5
  have c60 : w3.cell? ⟨w.heap.size + 1 + 1, 0, none⟩ = some (.int .i64 0) := RS3.out.2.2.cell 0
  have c61 : w3.cell? ⟨w.heap.size + 1 + 1, 1, none⟩ = some (.slice none 0 0) := RS3.out.2.2.cell 1
  have f60 : w3.frozen? ⟨w.heap.size + 1 + 1, 0, none⟩ = false := RS3.out.2.2.free 0
  have f61 : w3.frozen? ⟨w.heap.size + 1 + 1, 1, none⟩ = false := RS3.out.2.2.free 1
  have kk := HCN.out w3 HB3.out
  unfold St.val at kk
  have KK := Lib.hid kk; clear kk
  go_wp2_with fail
  refine (KK.out).mono ?_; rintro e w4 ⟨rfl, hb4⟩
  clear c30 c31 c40 c41 c42 c43 c44 c60 c61 f60 f61
  have RS4 := Lib.hid (And.intro (RS3.out.1.below hb4 RS3.out.1.lt) (And.intro (RS3.out.2.1.below hb4) (RS3.out.2.2.below hb4 RS3.out.2.2.lt)))
  have HB4 := Lib.hid (HB3.out.trans (hb4.mono HB3.out.size)); have HW4 := Lib.hid (HW3.out.trans (hb4.mono HW3.out.size)); clear hb4 RS3 HB3
  clear KK HCN
  have hr3 := HR.out.below HW4.out HR.out.lt; have hx4 := HX.out.below HW4.out; have hr6 := HZ.out.below HW4.out HZ.out.lt
  have c30 : w4.cell? ⟨w.heap.size, 0, none⟩ = some (.int .i64 d) := hr3.cell 0
  have c31 : w4.cell? ⟨w.heap.size, 1, none⟩ = some (.slice (some ⟨g, 0, none⟩) l.length c) := hr3.cell 1
  obtain ⟨c40, c41, c42, c43, c44⟩ := hx4.cells5
  have c60 : w4.cell? ⟨w.heap.size + 1 + 1, 0, none⟩ = some (.int .i64 0) := hr6.cell 0
  have c61 : w4.cell? ⟨w.heap.size + 1 + 1, 1, none⟩ = some (.slice none 0 0) := hr6.cell 1
  have f60 : w4.frozen? ⟨w.heap.size + 1 + 1, 0, none⟩ = false := hr6.free 0
  have f61 : w4.frozen? ⟨w.heap.size + 1 + 1, 1, none⟩ = false := hr6.free 1
  clear hr3 hx4 hr6
  have hkl := HAT.out.le
  have hkc : (k : Int) ≤ (c : Int) := by have := H0.out.le; omega
  have hk0 : (0 : Int) ≤ (k : Int) := by omega
  have hlc : (l.length : Int) ≤ (c : Int) := by have := H0.out.le; omega
  dsimp only
  have hz' := HZZ.out
  cases b with
  | true =>
    have hkl1 : k < l.length := by obtain ⟨p, hp, _⟩ := HAT.out.here.1 rfl; exact (List.getElem?_eq_some_iff.1 hp).1
    have hkw : IntKind.i64.wrap ((k : Int) + 1) = (k : Int) + 1 := IntWalk.i64_in _ (by have := HL.out; omega)
    go_wp2_with (at_builtin; first
      | (have hps := ((H0.out.below HB4.out).ps).take k; have hle4 : w0.heap.size ≤ w4.heap.size := HW4.out.size; clear c30 c31 c40 c41 c42 c43 c44 c60 c61 f60 f61; refine wpList_append_ps rfl _ _ rfl w0.heap.size _ 0 [] rfl (World.ownsRow_nil _ _ _ _) (some ⟨g, 0, none⟩) c k (l.take k) rfl (by rw [List.length_take]; have := HAT.out.le; omega) (by simp) hps (by have := HAT.out.le; have := HL.out; omega) hle4 ?_; intro v5 w5 hown5 hgr5; have hb5 := own_belowP (World.ownsRow_nil _ _ _ _) hgr5 HW4.out hle4; have HW5 := Lib.hid hb5; have HO5 := Lib.hid hown5; clear hown5 hgr5 hb5 hps; have hr3 := HR.out.below HW5.out HR.out.lt; have hx4 := HX.out.below HW5.out; have hr6 := HZ.out.below HW5.out HZ.out.lt; have c30 : w5.cell? ⟨w.heap.size, 0, none⟩ = some (.int .i64 d) := hr3.cell 0; have c31 : w5.cell? ⟨w.heap.size, 1, none⟩ = some (.slice (some ⟨g, 0, none⟩) l.length c) := hr3.cell 1; obtain ⟨c40, c41, c42, c43, c44⟩ := hx4.cells5; have c60 : w5.cell? ⟨w.heap.size + 1 + 1, 0, none⟩ = some (.int .i64 0) := hr6.cell 0; have c61 : w5.cell? ⟨w.heap.size + 1 + 1, 1, none⟩ = some (.slice none 0 0) := hr6.cell 1; have f60 : w5.frozen? ⟨w.heap.size + 1 + 1, 0, none⟩ = false := hr6.free 0; have f61 : w5.frozen? ⟨w.heap.size + 1 + 1, 1, none⟩ = false := hr6.free 1; clear hr3 hx4 hr6)
      | (have hox := HO5.out.alloc (.cells #[.int .i64 t.d, .int .i64 t.e, .int .i64 t.x, .int .i64 t.y, .int .i64 t.z, .int .i64 s] 64); have hwx := HW5.out.alloc HW5.out.size (.cells #[.int .i64 t.d, .int .i64 t.e, .int .i64 t.x, .int .i64 t.y, .int .i64 t.z, .int .i64 s] 64); have hpx : Ps (w5.alloc (.cells #[.int .i64 t.d, .int .i64 t.e, .int .i64 t.x, .int .i64 t.y, .int .i64 t.z, .int .i64 s] 64)) (some ⟨w5.heap.size, 0, none⟩) [(t, s)] := fun _ => ⟨w5.heap.size, 0, rfl, by simp, fun j u hj => by rw [Nat.zero_add]; exact (Row.cell (Row.made w5 64 (stepCells (t, s))) j).trans (by simpa [rowP, stepCells] using hj)⟩; clear c30 c31 c40 c41 c42 c43 c44 c60 c61 f60 f61; refine wpList_append_ps rfl _ _ rfl w0.heap.size v5 (0 + k) ([] ++ l.take k) rfl hox (some ⟨w5.heap.size, 0, none⟩) 1 1 [(t, s)] rfl rfl (by simp) hpx (by have := HAT.out.le; have := HL.out; omega) (hwx.size) ?_; intro v6 w6 hown6 hgr6; have hb6 := own_belowP hox hgr6 hwx hwx.size; have HW6 := Lib.hid hb6; have HO6 := Lib.hid hown6; clear hown6 hgr6 hb6 hpx hox hwx))
    have hr3 := HR.out.below HW6.out HR.out.lt; have hx4 := HX.out.below HW6.out; have hr6 := HZ.out.below HW6.out HZ.out.lt
    have c30 : w6.cell? ⟨w.heap.size, 0, none⟩ = some (.int .i64 d) := hr3.cell 0
    have c31 : w6.cell? ⟨w.heap.size, 1, none⟩ = some (.slice (some ⟨g, 0, none⟩) l.length c) := hr3.cell 1
    obtain ⟨c40, c41, c42, c43, c44⟩ := hx4.cells5
    have c60 : w6.cell? ⟨w.heap.size + 1 + 1, 0, none⟩ = some (.int .i64 0) := hr6.cell 0
    have c61 : w6.cell? ⟨w.heap.size + 1 + 1, 1, none⟩ = some (.slice none 0 0) := hr6.cell 1
    have f60 : w6.frozen? ⟨w.heap.size + 1 + 1, 0, none⟩ = false := hr6.free 0
    have f61 : w6.frozen? ⟨w.heap.size + 1 + 1, 1, none⟩ = false := hr6.free 1
    clear hr3 hx4 hr6
    go_wp2_with fail
    clear c30 c31 c40 c41 c42 c43 c44 c60 c61 f60 f61
    obtain ⟨A1, hcut, hA1, hpsd⟩ := cut_any (some ⟨g, 0, none⟩) c l (.inr ⟨g, rfl⟩) (k + 1) ((k : Int) + 1) (by omega) (by omega) H0.out.le
    have hdr : w6.drew = w6.drewN 1 := rfl
    obtain ⟨W, hW⟩ : ∃ W, w6.drew = W := ⟨_, rfl⟩
    have hwd : Below w0.heap.size w0 W := by rw [← hW]; exact HW6.out.drew
    have hod : W.ownsRow w0.heap.size 64 6 v6 (0 + k + 1) (rowP ([] ++ l.take k ++ [(t, s)])) := by rw [← hW]; exact HO6.out
    have hpw : Ps W (some ⟨g, 0, none⟩) l := (H0.out.below (HB0.out.trans (hwd.mono HB0.out.size))).ps
    obtain ⟨v7, W7, hr7, ho7, hg7⟩ := append_ps_run W w0.heap.size v6 (0 + k + 1) ([] ++ l.take k ++ [(t, s)]) hod A1 (c - (k + 1)) (l.drop (k + 1)) hA1 (hpsd W hpw) (by rw [List.length_drop]; have := HL.out; omega) hwd.size 29
    rw [List.length_drop] at hr7
    have hw7 := own_belowP hod hg7 hwd hwd.size
    have hK : ([] ++ l.take k ++ [(t, s)]) ++ l.drop (k + 1) = addC l t n := by
      have h1 := HRW.out k true HAT.out
      unfold addC
      rw [HS.out, ← h1]
      have h2 := HZZ.out
      simp at h2
      simp [rowM, h2]
    rw [hK] at ho7
    obtain ⟨K, hKe⟩ : ∃ K, addC l t n = K := ⟨_, rfl⟩
    rw [hKe] at ho7
    rw [hKe]
    obtain ⟨A7, c7, rfl, -⟩ := Rf.of_own ho7
    have hr3 := HR.out.below hw7 HR.out.lt; have hr6 := HZ.out.below hw7 HZ.out.lt
    have c60 : W7.cell? ⟨w.heap.size + 1 + 1, 0, none⟩ = some (.int .i64 0) := hr6.cell 0
    have c61 : W7.cell? ⟨w.heap.size + 1 + 1, 1, none⟩ = some (.slice none 0 0) := hr6.cell 1
    have f60 : W7.frozen? ⟨w.heap.size + 1 + 1, 0, none⟩ = false := hr6.free 0
    have f61 : W7.frozen? ⟨w.heap.size + 1 + 1, 1, none⟩ = false := hr6.free 1
    have HDR := Lib.hid hW; have HWD := Lib.hid hwd; have HR7 := Lib.hid hr7; have HO7 := Lib.hid ho7; have HW7 := Lib.hid hw7; have HCUT := Lib.hid hcut; have HR6 := Lib.hid hr6
    clear hW hwd hod hpw hr7 hg7 ho7 hw7 hcut hr3 hr6 hpsd hA1
    have hU : ∀ (b1 : Bool) (w' : World), w' = (if false = true then W else if b1 = true then W7 else W) → Below w0.heap.size w0 w' := fun b1 w' hw => by
      cases b1 with
      | true => have : w' = W7 := hw; subst this; exact HW7.out
      | false => have : w' = W := hw; subst this; exact HWD.out
    have HU := Lib.hid hU; clear hU
    refine Stage.wp_region (by kernel_rfl) (by kernel_rfl) (Stage.two 7 9 (fun b1 b2 w' => w' = if b2 then (W7.setCell ⟨w.heap.size + 1 + 1, 0, none⟩ (.int .i64 d)).setCell ⟨w.heap.size + 1 + 1, 1, none⟩ (.slice A7 K.length c7) else if b1 then W7 else W)) (Stage.two_start (by simp) (by simp) HDR.out) ?_
    refine Stage.wpSt_do (.pointer (some ⟨w.heap.size, 0, none⟩)) rfl (Stage.two_step (by kernel_rfl) (fun b w' hw => ?_)) ?_
    · exact at_of (by go_simp) hw
    go_simp
    refine Stage.wpSt_do (.int .i64 d) rfl (Stage.two_step (by kernel_rfl) (fun b w' hw => ?_)) ?_
    · exact Free.at_load _ _ rfl rfl (load_at HR.out.lt (HR.out.cell 0) w' (HU.out b w' hw)) hw
    go_simp
    refine Stage.wpSt_do v6 rfl (Stage.two_step (by kernel_rfl) (fun b w' hw => ?_)) ?_
    · exact at_of (by go_simp) hw
    go_simp
    refine Stage.wpSt_do (.pointer (some ⟨w.heap.size, 1, none⟩)) rfl (Stage.two_step (by kernel_rfl) (fun b w' hw => ?_)) ?_
    · exact at_of (by go_simp) hw
    go_simp
    refine Stage.wpSt_do (.slice (some ⟨g, 0, none⟩) l.length c) rfl (Stage.two_step (by kernel_rfl) (fun b w' hw => ?_)) ?_
    · exact Free.at_load _ _ rfl rfl (load_sl HR.out w' (HU.out b w' hw)) hw
    go_simp
    refine Stage.wpSt_do (.int .i64 ((k : Int) + 1)) rfl (Stage.two_step (by kernel_rfl) (fun b w' hw => ?_)) ?_
    · exact at_of (by go_simp) hw
    go_simp
    refine Stage.wpSt_do (.slice A1 (l.length - (k + 1)) (c - (k + 1))) rfl (Stage.two_step (by kernel_rfl) (fun b w' hw => ?_)) ?_
    · exact at_cut _ _ _ rfl rfl rfl (HCUT.out w') hw
    go_simp
    refine Stage.wpSt_do (.slice A7 K.length c7) rfl (Stage.two_first (by decide) (by kernel_rfl) (fun w' hw => ?_)) ?_
    · have hw' : w' = W := hw
      clear hw; subst hw'
      exact at_append _ _ _ rfl rfl rfl rfl HR7.out rfl
    go_simp
    refine Stage.wpSt_do (.agg #[.int .i64 d, .slice A7 K.length c7]) rfl (Stage.two_step (by kernel_rfl) (fun b w' hw => ?_)) ?_
    · exact at_of (by go_simp) hw
    go_simp
    refine Stage.wpSt_do undef rfl (Stage.two_then (by decide) (by kernel_rfl) (fun w' hw => ?_)) ?_
    · have hw' : w' = W7 := hw
      clear hw; subst hw'
      exact at_skip (by go_simp) rfl
    go_simp
    refine Stage.wpSt_reads 1 (fun _ => True) (by kernel_rfl) (Stage.two_any (by simp) (by simp)) ?_
    simp only [List.take_succ_cons, List.take_zero, List.drop_succ_cons, List.drop_zero]
    repeat (go_big_quiet_step (fail))
    refine wpQuiet_nil (Stage.wpSt_nil (Stage.two_end ?_))
    intro w9 hw9
    have hw9 : w9 = (W7.setCell ⟨w.heap.size + 1 + 1, 0, none⟩ (.int .i64 d)).setCell ⟨w.heap.size + 1 + 1, 1, none⟩ (.slice A7 K.length c7) := hw9
    subst hw9
    clear c60 c61 f60 f61
    go_wp2_with fail
    refine bodyPost_ret (v := .tuple #[.agg #[.int .i64 d, .slice A7 K.length c7], .int .i64 0]) (two_results rfl _ _ _ 31 _ (0, 0) _ rfl ((HR6.out.put 0 _).put 1 _) Try.underlying31 rfl (by kernel_rfl) rfl) rfl ?_
    have hg6 : w.heap.size + 1 + 1 < w0.heap.size := HZ.out.lt
    have hbz := (below_setCell (below_setCell (HB0.out.trans (HW7.out.mono HB0.out.size)) (p := ⟨w.heap.size + 1 + 1, 0, none⟩) (by simp; omega) (.int .i64 d)) (p := ⟨w.heap.size + 1 + 1, 1, none⟩) (by simp; omega) (.slice A7 K.length c7))
    obtain ⟨A8, c8, e8, hrf⟩ := Rf.of_own (ownsRow_setCell_below (ownsRow_setCell_below HO7.out (a := ⟨w.heap.size + 1 + 1, 0, none⟩) hg6 (.int .i64 d)) (a := ⟨w.heap.size + 1 + 1, 1, none⟩) hg6 (.slice A7 K.length c7))
    rw [hKe]
    exact ⟨⟨A8, c8, by rw [e8], hrf⟩, hbz⟩
  | false =>
    go_wp2_with (at_builtin; first
      | (have hps := ((H0.out.below HB4.out).ps).take k; have hle4 : w0.heap.size ≤ w4.heap.size := HW4.out.size; clear c30 c31 c40 c41 c42 c43 c44 c60 c61 f60 f61; refine wpList_append_ps rfl _ _ rfl w0.heap.size _ 0 [] rfl (World.ownsRow_nil _ _ _ _) (some ⟨g, 0, none⟩) c k (l.take k) rfl (by rw [List.length_take]; have := HAT.out.le; omega) (by simp) hps (by have := HAT.out.le; have := HL.out; omega) hle4 ?_; intro v5 w5 hown5 hgr5; have hb5 := own_belowP (World.ownsRow_nil _ _ _ _) hgr5 HW4.out hle4; have HW5 := Lib.hid hb5; have HO5 := Lib.hid hown5; clear hown5 hgr5 hb5 hps; have hr3 := HR.out.below HW5.out HR.out.lt; have hx4 := HX.out.below HW5.out; have hr6 := HZ.out.below HW5.out HZ.out.lt; have c30 : w5.cell? ⟨w.heap.size, 0, none⟩ = some (.int .i64 d) := hr3.cell 0; have c31 : w5.cell? ⟨w.heap.size, 1, none⟩ = some (.slice (some ⟨g, 0, none⟩) l.length c) := hr3.cell 1; obtain ⟨c40, c41, c42, c43, c44⟩ := hx4.cells5; have c60 : w5.cell? ⟨w.heap.size + 1 + 1, 0, none⟩ = some (.int .i64 0) := hr6.cell 0; have c61 : w5.cell? ⟨w.heap.size + 1 + 1, 1, none⟩ = some (.slice none 0 0) := hr6.cell 1; have f60 : w5.frozen? ⟨w.heap.size + 1 + 1, 0, none⟩ = false := hr6.free 0; have f61 : w5.frozen? ⟨w.heap.size + 1 + 1, 1, none⟩ = false := hr6.free 1; clear hr3 hx4 hr6)
      | (have hox := HO5.out.alloc (.cells #[.int .i64 t.d, .int .i64 t.e, .int .i64 t.x, .int .i64 t.y, .int .i64 t.z, .int .i64 s] 64); have hwx := HW5.out.alloc HW5.out.size (.cells #[.int .i64 t.d, .int .i64 t.e, .int .i64 t.x, .int .i64 t.y, .int .i64 t.z, .int .i64 s] 64); have hpx : Ps (w5.alloc (.cells #[.int .i64 t.d, .int .i64 t.e, .int .i64 t.x, .int .i64 t.y, .int .i64 t.z, .int .i64 s] 64)) (some ⟨w5.heap.size, 0, none⟩) [(t, s)] := fun _ => ⟨w5.heap.size, 0, rfl, by simp, fun j u hj => by rw [Nat.zero_add]; exact (Row.cell (Row.made w5 64 (stepCells (t, s))) j).trans (by simpa [rowP, stepCells] using hj)⟩; clear c30 c31 c40 c41 c42 c43 c44 c60 c61 f60 f61; refine wpList_append_ps rfl _ _ rfl w0.heap.size v5 (0 + k) ([] ++ l.take k) rfl hox (some ⟨w5.heap.size, 0, none⟩) 1 1 [(t, s)] rfl rfl (by simp) hpx (by have := HAT.out.le; have := HL.out; omega) (hwx.size) ?_; intro v6 w6 hown6 hgr6; have hb6 := own_belowP hox hgr6 hwx hwx.size; have HW6 := Lib.hid hb6; have HO6 := Lib.hid hown6; clear hown6 hgr6 hb6 hpx hox hwx))
    have hr3 := HR.out.below HW6.out HR.out.lt; have hx4 := HX.out.below HW6.out; have hr6 := HZ.out.below HW6.out HZ.out.lt
    have c30 : w6.cell? ⟨w.heap.size, 0, none⟩ = some (.int .i64 d) := hr3.cell 0
    have c31 : w6.cell? ⟨w.heap.size, 1, none⟩ = some (.slice (some ⟨g, 0, none⟩) l.length c) := hr3.cell 1
    obtain ⟨c40, c41, c42, c43, c44⟩ := hx4.cells5
    have c60 : w6.cell? ⟨w.heap.size + 1 + 1, 0, none⟩ = some (.int .i64 0) := hr6.cell 0
    have c61 : w6.cell? ⟨w.heap.size + 1 + 1, 1, none⟩ = some (.slice none 0 0) := hr6.cell 1
    have f60 : w6.frozen? ⟨w.heap.size + 1 + 1, 0, none⟩ = false := hr6.free 0
    have f61 : w6.frozen? ⟨w.heap.size + 1 + 1, 1, none⟩ = false := hr6.free 1
    clear hr3 hx4 hr6
    go_wp2_with fail
    clear c30 c31 c40 c41 c42 c43 c44 c60 c61 f60 f61
    obtain ⟨A1, hcut, hA1, hpsd⟩ := cut_any (some ⟨g, 0, none⟩) c l (.inr ⟨g, rfl⟩) k (k : Int) (by omega) (by omega) H0.out.le
    have hdr : w6.drew = w6.drewN 1 := rfl
    obtain ⟨W, hW⟩ : ∃ W, w6.drew = W := ⟨_, rfl⟩
    have hwd : Below w0.heap.size w0 W := by rw [← hW]; exact HW6.out.drew
    have hod : W.ownsRow w0.heap.size 64 6 v6 (0 + k + 1) (rowP ([] ++ l.take k ++ [(t, s)])) := by rw [← hW]; exact HO6.out
    have hpw : Ps W (some ⟨g, 0, none⟩) l := (H0.out.below (HB0.out.trans (hwd.mono HB0.out.size))).ps
    obtain ⟨v7, W7, hr7, ho7, hg7⟩ := append_ps_run W w0.heap.size v6 (0 + k + 1) ([] ++ l.take k ++ [(t, s)]) hod A1 (c - k) (l.drop k) hA1 (hpsd W hpw) (by rw [List.length_drop]; have := HL.out; omega) hwd.size 29
    rw [List.length_drop] at hr7
    have hw7 := own_belowP hod hg7 hwd hwd.size
    have hK : ([] ++ l.take k ++ [(t, s)]) ++ l.drop k = addC l t n := by
      have h1 := HRW.out k false HAT.out
      unfold addC
      rw [HS.out, ← h1]
      have h2 := HZZ.out
      simp at h2
      simp [rowM, h2]
    rw [hK] at ho7
    obtain ⟨K, hKe⟩ : ∃ K, addC l t n = K := ⟨_, rfl⟩
    rw [hKe] at ho7
    rw [hKe]
    obtain ⟨A7, c7, rfl, -⟩ := Rf.of_own ho7
    have hr3 := HR.out.below hw7 HR.out.lt; have hr6 := HZ.out.below hw7 HZ.out.lt
    have c60 : W7.cell? ⟨w.heap.size + 1 + 1, 0, none⟩ = some (.int .i64 0) := hr6.cell 0
    have c61 : W7.cell? ⟨w.heap.size + 1 + 1, 1, none⟩ = some (.slice none 0 0) := hr6.cell 1
    have f60 : W7.frozen? ⟨w.heap.size + 1 + 1, 0, none⟩ = false := hr6.free 0
    have f61 : W7.frozen? ⟨w.heap.size + 1 + 1, 1, none⟩ = false := hr6.free 1
    have HDR := Lib.hid hW; have HWD := Lib.hid hwd; have HR7 := Lib.hid hr7; have HO7 := Lib.hid ho7; have HW7 := Lib.hid hw7; have HCUT := Lib.hid hcut; have HR6 := Lib.hid hr6
    clear hW hwd hod hpw hr7 hg7 ho7 hw7 hcut hr3 hr6 hpsd hA1
    have hU : ∀ (b1 : Bool) (w' : World), w' = (if false = true then W else if b1 = true then W7 else W) → Below w0.heap.size w0 w' := fun b1 w' hw => by
      cases b1 with
      | true => have : w' = W7 := hw; subst this; exact HW7.out
      | false => have : w' = W := hw; subst this; exact HWD.out
    have HU := Lib.hid hU; clear hU
    refine Stage.wp_region (by kernel_rfl) (by kernel_rfl) (Stage.two 7 9 (fun b1 b2 w' => w' = if b2 then (W7.setCell ⟨w.heap.size + 1 + 1, 0, none⟩ (.int .i64 d)).setCell ⟨w.heap.size + 1 + 1, 1, none⟩ (.slice A7 K.length c7) else if b1 then W7 else W)) (Stage.two_start (by simp) (by simp) HDR.out) ?_
    refine Stage.wpSt_do (.pointer (some ⟨w.heap.size, 0, none⟩)) rfl (Stage.two_step (by kernel_rfl) (fun b w' hw => ?_)) ?_
    · exact at_of (by go_simp) hw
    go_simp
    refine Stage.wpSt_do (.int .i64 d) rfl (Stage.two_step (by kernel_rfl) (fun b w' hw => ?_)) ?_
    · exact Free.at_load _ _ rfl rfl (load_at HR.out.lt (HR.out.cell 0) w' (HU.out b w' hw)) hw
    go_simp
    refine Stage.wpSt_do v6 rfl (Stage.two_step (by kernel_rfl) (fun b w' hw => ?_)) ?_
    · exact at_of (by go_simp) hw
    go_simp
    refine Stage.wpSt_do (.pointer (some ⟨w.heap.size, 1, none⟩)) rfl (Stage.two_step (by kernel_rfl) (fun b w' hw => ?_)) ?_
    · exact at_of (by go_simp) hw
    go_simp
    refine Stage.wpSt_do (.slice (some ⟨g, 0, none⟩) l.length c) rfl (Stage.two_step (by kernel_rfl) (fun b w' hw => ?_)) ?_
    · exact Free.at_load _ _ rfl rfl (load_sl HR.out w' (HU.out b w' hw)) hw
    go_simp
    refine Stage.wpSt_do (.int .i64 (k : Int)) rfl (Stage.two_step (by kernel_rfl) (fun b w' hw => ?_)) ?_
    · exact at_of (by go_simp) hw
    go_simp
    refine Stage.wpSt_do (.slice A1 (l.length - k) (c - k)) rfl (Stage.two_step (by kernel_rfl) (fun b w' hw => ?_)) ?_
    · exact at_cut _ _ _ rfl rfl rfl (HCUT.out w') hw
    go_simp
    refine Stage.wpSt_do (.slice A7 K.length c7) rfl (Stage.two_first (by decide) (by kernel_rfl) (fun w' hw => ?_)) ?_
    · have hw' : w' = W := hw
      clear hw; subst hw'
      exact at_append _ _ _ rfl rfl rfl rfl HR7.out rfl
    go_simp
    refine Stage.wpSt_do (.agg #[.int .i64 d, .slice A7 K.length c7]) rfl (Stage.two_step (by kernel_rfl) (fun b w' hw => ?_)) ?_
    · exact at_of (by go_simp) hw
    go_simp
    refine Stage.wpSt_do undef rfl (Stage.two_then (by decide) (by kernel_rfl) (fun w' hw => ?_)) ?_
    · have hw' : w' = W7 := hw
      clear hw; subst hw'
      exact at_skip (by go_simp) rfl
    go_simp
    refine Stage.wpSt_reads 1 (fun _ => True) (by kernel_rfl) (Stage.two_any (by simp) (by simp)) ?_
    simp only [List.take_succ_cons, List.take_zero, List.drop_succ_cons, List.drop_zero]
    repeat (go_big_quiet_step (fail))
    refine wpQuiet_nil (Stage.wpSt_nil (Stage.two_end ?_))
    intro w9 hw9
    have hw9 : w9 = (W7.setCell ⟨w.heap.size + 1 + 1, 0, none⟩ (.int .i64 d)).setCell ⟨w.heap.size + 1 + 1, 1, none⟩ (.slice A7 K.length c7) := hw9
    subst hw9
    clear c60 c61 f60 f61
    go_wp2_with fail
    refine bodyPost_ret (v := .tuple #[.agg #[.int .i64 d, .slice A7 K.length c7], .int .i64 0]) (two_results rfl _ _ _ 31 _ (0, 0) _ rfl ((HR6.out.put 0 _).put 1 _) Try.underlying31 rfl (by kernel_rfl) rfl) rfl ?_
    have hg6 : w.heap.size + 1 + 1 < w0.heap.size := HZ.out.lt
    have hbz := (below_setCell (below_setCell (HB0.out.trans (HW7.out.mono HB0.out.size)) (p := ⟨w.heap.size + 1 + 1, 0, none⟩) (by simp; omega) (.int .i64 d)) (p := ⟨w.heap.size + 1 + 1, 1, none⟩) (by simp; omega) (.slice A7 K.length c7))
    obtain ⟨A8, c8, e8, hrf⟩ := Rf.of_own (ownsRow_setCell_below (ownsRow_setCell_below HO7.out (a := ⟨w.heap.size + 1 + 1, 0, none⟩) hg6 (.int .i64 d)) (a := ⟨w.heap.size + 1 + 1, 1, none⟩) hg6 (.slice A7 K.length c7))
    rw [hKe]
    exact ⟨⟨A8, c8, by rw [e8], hrf⟩, hbz⟩
set_option maxHeartbeats 8000000 in
theorem radd_Esz {w : World} {g : Nat} {l : Cn} {c : Nat} {d : Int} (h : Rf w (some ⟨g, 0, none⟩) c l) (hl : l.length ≤ 500) (hok : CnOk l) (t : St) (n : Int) (hR : t.R) (hd : t.d = d) (hn : Nr n) (hq0 : Nr (cnt l t)) (hc : Nr (cnt l t + n)) (hz : cnt l t + n = 0) :
    Calls Try.prog 14 #[.agg #[.int .i64 d, .slice (some ⟨g, 0, none⟩) l.length c], t.val, .int .i64 n] w (RAdded w d (addC l t n) 0) := by
  have hB0 := (((Below.refl w.heap.size w).alloc (Nat.le_refl _) (.cells #[.int .i64 d, .slice (some ⟨g, 0, none⟩) l.length c] 31)).alloc (by simp) (.cells #[.int .i64 t.d, .int .i64 t.e, .int .i64 t.x, .int .i64 t.y, .int .i64 t.z] 25)).alloc (by simp; omega) (.cells #[.int .i64 0, .slice none 0 0] 31)
  have hr3 : Row (((w.alloc (.cells #[.int .i64 d, .slice (some ⟨g, 0, none⟩) l.length c] 31)).alloc (.cells #[.int .i64 t.d, .int .i64 t.e, .int .i64 t.x, .int .i64 t.y, .int .i64 t.z] 25)).alloc (.cells #[.int .i64 0, .slice none 0 0] 31)) w.heap.size 31 [.int .i64 d, .slice (some ⟨g, 0, none⟩) l.length c] := Row.alloc (Row.alloc (Row.made w _ _) _) _
  have hx := (Holds.made (w.alloc (.cells #[.int .i64 d, .slice (some ⟨g, 0, none⟩) l.length c] 31)) t).alloc (.cells #[.int .i64 0, .slice none 0 0] 31)
  have hr6 : Row (((w.alloc (.cells #[.int .i64 d, .slice (some ⟨g, 0, none⟩) l.length c] 31)).alloc (.cells #[.int .i64 t.d, .int .i64 t.e, .int .i64 t.x, .int .i64 t.y, .int .i64 t.z] 25)).alloc (.cells #[.int .i64 0, .slice none 0 0] 31)) ((w.alloc (.cells #[.int .i64 d, .slice (some ⟨g, 0, none⟩) l.length c] 31)).alloc (.cells #[.int .i64 t.d, .int .i64 t.e, .int .i64 t.x, .int .i64 t.y, .int .i64 t.z] 25)).heap.size 31 [.int .i64 0, .slice none 0 0] := Row.made _ _ _
  rw [size_alloc] at hx
  rw [size_alloc, size_alloc] at hr6
  have HIN := Lib.hid (in_is (decide_eq_true hn))
  have HSB := Lib.hid (show -3000000000000 ≤ cnt l t + n ∧ cnt l t + n ≤ 3000000000000 by unfold Nr at hq0 hn; omega)
  have hsum : IntKind.i64.wrap (cnt l t + n) = cnt l t + n := IntWalk.i64_in _ (by have := HSB.out; omega)
  obtain ⟨s, hs⟩ : ∃ s, cnt l t + n = s := ⟨_, rfl⟩
  rw [hs] at hc hsum
  have hok0 := hok
  have hr := right_is (decide_eq_true hR) (refRight_any t)
  have hdd : (t.d != d) = false := by simpa using hd
  have hpl := fun w' (hb : Below w.heap.size w w') => place_any (some ⟨g, 0, none⟩) l c d t w' (h.below hb) (by omega)
  have hcn := fun w' (hb : Below w.heap.size w w') => refCount_any (some ⟨g, 0, none⟩) l c d t w' (h.below hb) (by omega) hok
  obtain ⟨q, hq⟩ : ∃ q, cnt l t = q := ⟨_, rfl⟩
  rw [hq] at hcn
  have HIN2 := Lib.hid (in_is (decide_eq_true hc)); clear hn hc hq0
  have HS := Lib.hid hs
  rw [hq] at hs
  have hsum : IntKind.i64.wrap (q + n) = s := by rw [hs]; exact hsum
  rw [hq] at HSB
  have HRT := Lib.hid hr; have HPL := Lib.hid hpl; have HCN := Lib.hid hcn; have HQ := Lib.hid hq; have HOK := Lib.hid hok; have HRD := Lib.hid (And.intro hR hd); clear hr hpl hcn hq hok hR hd
  have H0 := Lib.hid h; have HB0 := Lib.hid hB0; have HR := Lib.hid hr3; have HX := Lib.hid hx; have HZ := Lib.hid hr6; clear hB0 hr3 hx hr6 h
  have hzz : (s != 0) = false := by rw [HS.out] at hz; simpa using hz
  have HRW := Lib.hid (fun (k : Nat) (b : Bool) (hat : AtK l t k b) => rowM_is l t k b s hok0 hat)
  have HZZ := Lib.hid hzz; have HL := Lib.hid hl; clear hok0 hzz hz hl
  unfold St.val at *
  go_enter Try.func14, Try.ntmps14
  go_wp2_with fail
  generalize ((w.alloc (.cells #[.int .i64 d, .slice (some ⟨g, 0, none⟩) l.length c] 31)).alloc (.cells #[.int .i64 t.d, .int .i64 t.e, .int .i64 t.x, .int .i64 t.y, .int .i64 t.z] 25)).alloc (.cells #[.int .i64 0, .slice none 0 0] 31) = w0 at *
  have r3 := HR.out.below (Below.refl _ w0) HR.out.lt; have x4 := HX.out.below (Below.refl _ w0); have r6 := HZ.out.below (Below.refl _ w0) HZ.out.lt
  have c30 : w0.cell? ⟨w.heap.size, 0, none⟩ = some (.int .i64 d) := r3.cell 0
  have c31 : w0.cell? ⟨w.heap.size, 1, none⟩ = some (.slice (some ⟨g, 0, none⟩) l.length c) := r3.cell 1
  obtain ⟨c40, c41, c42, c43, c44⟩ := x4.cells5
  have c60 : w0.cell? ⟨w.heap.size + 1 + 1, 0, none⟩ = some (.int .i64 0) := r6.cell 0
  have c61 : w0.cell? ⟨w.heap.size + 1 + 1, 1, none⟩ = some (.slice none 0 0) := r6.cell 1
  have f60 : w0.frozen? ⟨w.heap.size + 1 + 1, 0, none⟩ = false := r6.free 0
  have f61 : w0.frozen? ⟨w.heap.size + 1 + 1, 1, none⟩ = false := r6.free 1
  go_wp2_with fail
  refine (HRT.out _).mono ?_; rintro e w1 ⟨rfl, hb1⟩
  clear c30 c31 c40 c41 c42 c43 c44 c60 c61 f60 f61
  have r3a := HR.out.below hb1 HR.out.lt; have x4a := HX.out.below hb1; have r6a := HZ.out.below hb1 HZ.out.lt
  have c30 : w1.cell? ⟨w.heap.size, 0, none⟩ = some (.int .i64 d) := r3a.cell 0
  have c31 : w1.cell? ⟨w.heap.size, 1, none⟩ = some (.slice (some ⟨g, 0, none⟩) l.length c) := r3a.cell 1
  obtain ⟨c40, c41, c42, c43, c44⟩ := x4a.cells5
  have c60 : w1.cell? ⟨w.heap.size + 1 + 1, 0, none⟩ = some (.int .i64 0) := r6a.cell 0
  have c61 : w1.cell? ⟨w.heap.size + 1 + 1, 1, none⟩ = some (.slice none 0 0) := r6a.cell 1
  have f60 : w1.frozen? ⟨w.heap.size + 1 + 1, 0, none⟩ = false := r6a.free 0
  have f61 : w1.frozen? ⟨w.heap.size + 1 + 1, 1, none⟩ = false := r6a.free 1
  have HB1 := Lib.hid (HB0.out.trans (hb1.mono HB0.out.size)); have HW1 := Lib.hid hb1; clear r3 x4 r6 hb1
  have RS1 := Lib.hid (And.intro r3a (And.intro x4a r6a)); clear r3a x4a r6a
  have kk := HPL.out w1 HB1.out
  unfold St.val at kk
  have KK := Lib.hid kk; clear kk
  go_wp2_with fail
  refine (KK.out).mono ?_; rintro e w2 ⟨⟨k, b, rfl, hat⟩, hb2⟩
  clear c30 c31 c40 c41 c42 c43 c44 c60 c61 f60 f61
  have RS2 := Lib.hid (And.intro (RS1.out.1.below hb2 RS1.out.1.lt) (And.intro (RS1.out.2.1.below hb2) (RS1.out.2.2.below hb2 RS1.out.2.2.lt)))
  have HB2 := Lib.hid (HB1.out.trans (hb2.mono HB1.out.size)); have HW2 := Lib.hid (HW1.out.trans (hb2.mono HW1.out.size)); have HAT := Lib.hid hat; clear hb2 hat KK HPL
  have c30 : w2.cell? ⟨w.heap.size, 0, none⟩ = some (.int .i64 d) := RS2.out.1.cell 0
  have c31 : w2.cell? ⟨w.heap.size, 1, none⟩ = some (.slice (some ⟨g, 0, none⟩) l.length c) := RS2.out.1.cell 1
  obtain ⟨c40, c41, c42, c43, c44⟩ := RS2.out.2.1.cells5
  have c60 : w2.cell? ⟨w.heap.size + 1 + 1, 0, none⟩ = some (.int .i64 0) := RS2.out.2.2.cell 0
  have c61 : w2.cell? ⟨w.heap.size + 1 + 1, 1, none⟩ = some (.slice none 0 0) := RS2.out.2.2.cell 1
  have f60 : w2.frozen? ⟨w.heap.size + 1 + 1, 0, none⟩ = false := RS2.out.2.2.free 0
  have f61 : w2.frozen? ⟨w.heap.size + 1 + 1, 1, none⟩ = false := RS2.out.2.2.free 1
  dsimp only
  go_wp2_with fail
  refine (HIN.out _).mono ?_; rintro e w3 ⟨rfl, rfl⟩
  have kk := HCN.out w2 HB2.out
  unfold St.val at kk
  have KK := Lib.hid kk; clear kk
  go_wp2_with fail
  refine (KK.out).mono ?_; rintro e w3 ⟨rfl, hb3⟩
  clear c30 c31 c40 c41 c42 c43 c44 c60 c61 f60 f61
  have RS3 := Lib.hid (And.intro (RS2.out.1.below hb3 RS2.out.1.lt) (And.intro (RS2.out.2.1.below hb3) (RS2.out.2.2.below hb3 RS2.out.2.2.lt)))
  have HB3 := Lib.hid (HB2.out.trans (hb3.mono HB2.out.size)); have HW3 := Lib.hid (HW2.out.trans (hb3.mono HW2.out.size)); clear hb3 RS2 HB2
  clear KK
  have c30 : w3.cell? ⟨w.heap.size, 0, none⟩ = some (.int .i64 d) := RS3.out.1.cell 0
  have c31 : w3.cell? ⟨w.heap.size, 1, none⟩ = some (.slice (some ⟨g, 0, none⟩) l.length c) := RS3.out.1.cell 1
  obtain ⟨c40, c41, c42, c43, c44⟩ := RS3.out.2.1.cells5
  have c60 : w3.cell? ⟨w.heap.size + 1 + 1, 0, none⟩ = some (.int .i64 0) := RS3.out.2.2.cell 0
  have c61 : w3.cell? ⟨w.heap.size + 1 + 1, 1, none⟩ = some (.slice none 0 0) := RS3.out.2.2.cell 1
  have f60 : w3.frozen? ⟨w.heap.size + 1 + 1, 0, none⟩ = false := RS3.out.2.2.free 0
  have f61 : w3.frozen? ⟨w.heap.size + 1 + 1, 1, none⟩ = false := RS3.out.2.2.free 1
  go_wp2_with fail
  refine (HIN2.out _).mono ?_; rintro e w4 ⟨rfl, rfl⟩
  go_wp2_with fail
  clear c30 c31 c40 c41 c42 c43 c44 c60 c61 f60 f61
  have c30 : w3.cell? ⟨w.heap.size, 0, none⟩ = some (.int .i64 d) := RS3.out.1.cell 0
  have c31 : w3.cell? ⟨w.heap.size, 1, none⟩ = some (.slice (some ⟨g, 0, none⟩) l.length c) := RS3.out.1.cell 1
  obtain ⟨c40, c41, c42, c43, c44⟩ := RS3.out.2.1.cells5
  have c60 : w3.cell? ⟨w.heap.size + 1 + 1, 0, none⟩ = some (.int .i64 0) := RS3.out.2.2.cell 0
  have c61 : w3.cell? ⟨w.heap.size + 1 + 1, 1, none⟩ = some (.slice none 0 0) := RS3.out.2.2.cell 1
  have f60 : w3.frozen? ⟨w.heap.size + 1 + 1, 0, none⟩ = false := RS3.out.2.2.free 0
  have f61 : w3.frozen? ⟨w.heap.size + 1 + 1, 1, none⟩ = false := RS3.out.2.2.free 1
  have kk := HCN.out w3 HB3.out
  unfold St.val at kk
  have KK := Lib.hid kk; clear kk
  go_wp2_with fail
  refine (KK.out).mono ?_; rintro e w4 ⟨rfl, hb4⟩
  clear c30 c31 c40 c41 c42 c43 c44 c60 c61 f60 f61
  have RS4 := Lib.hid (And.intro (RS3.out.1.below hb4 RS3.out.1.lt) (And.intro (RS3.out.2.1.below hb4) (RS3.out.2.2.below hb4 RS3.out.2.2.lt)))
  have HB4 := Lib.hid (HB3.out.trans (hb4.mono HB3.out.size)); have HW4 := Lib.hid (HW3.out.trans (hb4.mono HW3.out.size)); clear hb4 RS3 HB3
  clear KK HCN
  have hr3 := HR.out.below HW4.out HR.out.lt; have hx4 := HX.out.below HW4.out; have hr6 := HZ.out.below HW4.out HZ.out.lt
  have c30 : w4.cell? ⟨w.heap.size, 0, none⟩ = some (.int .i64 d) := hr3.cell 0
  have c31 : w4.cell? ⟨w.heap.size, 1, none⟩ = some (.slice (some ⟨g, 0, none⟩) l.length c) := hr3.cell 1
  obtain ⟨c40, c41, c42, c43, c44⟩ := hx4.cells5
  have c60 : w4.cell? ⟨w.heap.size + 1 + 1, 0, none⟩ = some (.int .i64 0) := hr6.cell 0
  have c61 : w4.cell? ⟨w.heap.size + 1 + 1, 1, none⟩ = some (.slice none 0 0) := hr6.cell 1
  have f60 : w4.frozen? ⟨w.heap.size + 1 + 1, 0, none⟩ = false := hr6.free 0
  have f61 : w4.frozen? ⟨w.heap.size + 1 + 1, 1, none⟩ = false := hr6.free 1
  clear hr3 hx4 hr6
  have hkl := HAT.out.le
  have hkc : (k : Int) ≤ (c : Int) := by have := H0.out.le; omega
  have hk0 : (0 : Int) ≤ (k : Int) := by omega
  have hlc : (l.length : Int) ≤ (c : Int) := by have := H0.out.le; omega
  dsimp only
  have hz' := HZZ.out
  cases b with
  | true =>
    have hkl1 : k < l.length := by obtain ⟨p, hp, _⟩ := HAT.out.here.1 rfl; exact (List.getElem?_eq_some_iff.1 hp).1
    have hkw : IntKind.i64.wrap ((k : Int) + 1) = (k : Int) + 1 := IntWalk.i64_in _ (by have := HL.out; omega)
    go_wp2_with (at_builtin; first
      | (have hps := ((H0.out.below HB4.out).ps).take k; have hle4 : w0.heap.size ≤ w4.heap.size := HW4.out.size; clear c30 c31 c40 c41 c42 c43 c44 c60 c61 f60 f61; refine wpList_append_ps rfl _ _ rfl w0.heap.size _ 0 [] rfl (World.ownsRow_nil _ _ _ _) (some ⟨g, 0, none⟩) c k (l.take k) rfl (by rw [List.length_take]; have := HAT.out.le; omega) (by simp) hps (by have := HAT.out.le; have := HL.out; omega) hle4 ?_; intro v5 w5 hown5 hgr5; have hb5 := own_belowP (World.ownsRow_nil _ _ _ _) hgr5 HW4.out hle4; have HW5 := Lib.hid hb5; have HO5 := Lib.hid hown5; clear hown5 hgr5 hb5 hps; have hr3 := HR.out.below HW5.out HR.out.lt; have hx4 := HX.out.below HW5.out; have hr6 := HZ.out.below HW5.out HZ.out.lt; have c30 : w5.cell? ⟨w.heap.size, 0, none⟩ = some (.int .i64 d) := hr3.cell 0; have c31 : w5.cell? ⟨w.heap.size, 1, none⟩ = some (.slice (some ⟨g, 0, none⟩) l.length c) := hr3.cell 1; obtain ⟨c40, c41, c42, c43, c44⟩ := hx4.cells5; have c60 : w5.cell? ⟨w.heap.size + 1 + 1, 0, none⟩ = some (.int .i64 0) := hr6.cell 0; have c61 : w5.cell? ⟨w.heap.size + 1 + 1, 1, none⟩ = some (.slice none 0 0) := hr6.cell 1; have f60 : w5.frozen? ⟨w.heap.size + 1 + 1, 0, none⟩ = false := hr6.free 0; have f61 : w5.frozen? ⟨w.heap.size + 1 + 1, 1, none⟩ = false := hr6.free 1; clear hr3 hx4 hr6))
    have hr3 := HR.out.below HW5.out HR.out.lt; have hx4 := HX.out.below HW5.out; have hr6 := HZ.out.below HW5.out HZ.out.lt
    have c30 : w5.cell? ⟨w.heap.size, 0, none⟩ = some (.int .i64 d) := hr3.cell 0
    have c31 : w5.cell? ⟨w.heap.size, 1, none⟩ = some (.slice (some ⟨g, 0, none⟩) l.length c) := hr3.cell 1
    obtain ⟨c40, c41, c42, c43, c44⟩ := hx4.cells5
    have c60 : w5.cell? ⟨w.heap.size + 1 + 1, 0, none⟩ = some (.int .i64 0) := hr6.cell 0
    have c61 : w5.cell? ⟨w.heap.size + 1 + 1, 1, none⟩ = some (.slice none 0 0) := hr6.cell 1
    have f60 : w5.frozen? ⟨w.heap.size + 1 + 1, 0, none⟩ = false := hr6.free 0
    have f61 : w5.frozen? ⟨w.heap.size + 1 + 1, 1, none⟩ = false := hr6.free 1
    clear hr3 hx4 hr6
    go_wp2_with fail
    clear c30 c31 c40 c41 c42 c43 c44 c60 c61 f60 f61
    obtain ⟨A1, hcut, hA1, hpsd⟩ := cut_any (some ⟨g, 0, none⟩) c l (.inr ⟨g, rfl⟩) (k + 1) ((k : Int) + 1) (by omega) (by omega) H0.out.le
    have hdr : w5.drew = w5.drewN 1 := rfl
    obtain ⟨W, hW⟩ : ∃ W, w5.drew = W := ⟨_, rfl⟩
    have hwd : Below w0.heap.size w0 W := by rw [← hW]; exact HW5.out.drew
    have hod : W.ownsRow w0.heap.size 64 6 v5 (0 + k) (rowP ([] ++ l.take k)) := by rw [← hW]; exact HO5.out
    have hpw : Ps W (some ⟨g, 0, none⟩) l := (H0.out.below (HB0.out.trans (hwd.mono HB0.out.size))).ps
    obtain ⟨v7, W7, hr7, ho7, hg7⟩ := append_ps_run W w0.heap.size v5 (0 + k) ([] ++ l.take k) hod A1 (c - (k + 1)) (l.drop (k + 1)) hA1 (hpsd W hpw) (by rw [List.length_drop]; have := HL.out; omega) hwd.size 29
    rw [List.length_drop] at hr7
    have hw7 := own_belowP hod hg7 hwd hwd.size
    have hK : ([] ++ l.take k) ++ l.drop (k + 1) = addC l t n := by
      have h1 := HRW.out k true HAT.out
      unfold addC
      rw [HS.out, ← h1]
      have h2 := HZZ.out
      simp at h2
      simp [rowM, h2]
    rw [hK] at ho7
    obtain ⟨K, hKe⟩ : ∃ K, addC l t n = K := ⟨_, rfl⟩
    rw [hKe] at ho7
    rw [hKe]
    obtain ⟨A7, c7, rfl, -⟩ := Rf.of_own ho7
    have hr3 := HR.out.below hw7 HR.out.lt; have hr6 := HZ.out.below hw7 HZ.out.lt
    have c60 : W7.cell? ⟨w.heap.size + 1 + 1, 0, none⟩ = some (.int .i64 0) := hr6.cell 0
    have c61 : W7.cell? ⟨w.heap.size + 1 + 1, 1, none⟩ = some (.slice none 0 0) := hr6.cell 1
    have f60 : W7.frozen? ⟨w.heap.size + 1 + 1, 0, none⟩ = false := hr6.free 0
    have f61 : W7.frozen? ⟨w.heap.size + 1 + 1, 1, none⟩ = false := hr6.free 1
    have HDR := Lib.hid hW; have HWD := Lib.hid hwd; have HR7 := Lib.hid hr7; have HO7 := Lib.hid ho7; have HW7 := Lib.hid hw7; have HCUT := Lib.hid hcut; have HR6 := Lib.hid hr6
    clear hW hwd hod hpw hr7 hg7 ho7 hw7 hcut hr3 hr6 hpsd hA1
    have hU : ∀ (b1 : Bool) (w' : World), w' = (if false = true then W else if b1 = true then W7 else W) → Below w0.heap.size w0 w' := fun b1 w' hw => by
      cases b1 with
      | true => have : w' = W7 := hw; subst this; exact HW7.out
      | false => have : w' = W := hw; subst this; exact HWD.out
    have HU := Lib.hid hU; clear hU
    refine Stage.wp_region (by kernel_rfl) (by kernel_rfl) (Stage.two 7 9 (fun b1 b2 w' => w' = if b2 then (W7.setCell ⟨w.heap.size + 1 + 1, 0, none⟩ (.int .i64 d)).setCell ⟨w.heap.size + 1 + 1, 1, none⟩ (.slice A7 K.length c7) else if b1 then W7 else W)) (Stage.two_start (by simp) (by simp) HDR.out) ?_
    refine Stage.wpSt_do (.pointer (some ⟨w.heap.size, 0, none⟩)) rfl (Stage.two_step (by kernel_rfl) (fun b w' hw => ?_)) ?_
    · exact at_of (by go_simp) hw
    go_simp
    refine Stage.wpSt_do (.int .i64 d) rfl (Stage.two_step (by kernel_rfl) (fun b w' hw => ?_)) ?_
    · exact Free.at_load _ _ rfl rfl (load_at HR.out.lt (HR.out.cell 0) w' (HU.out b w' hw)) hw
    go_simp
    refine Stage.wpSt_do v5 rfl (Stage.two_step (by kernel_rfl) (fun b w' hw => ?_)) ?_
    · exact at_of (by go_simp) hw
    go_simp
    refine Stage.wpSt_do (.pointer (some ⟨w.heap.size, 1, none⟩)) rfl (Stage.two_step (by kernel_rfl) (fun b w' hw => ?_)) ?_
    · exact at_of (by go_simp) hw
    go_simp
    refine Stage.wpSt_do (.slice (some ⟨g, 0, none⟩) l.length c) rfl (Stage.two_step (by kernel_rfl) (fun b w' hw => ?_)) ?_
    · exact Free.at_load _ _ rfl rfl (load_sl HR.out w' (HU.out b w' hw)) hw
    go_simp
    refine Stage.wpSt_do (.int .i64 ((k : Int) + 1)) rfl (Stage.two_step (by kernel_rfl) (fun b w' hw => ?_)) ?_
    · exact at_of (by go_simp) hw
    go_simp
    refine Stage.wpSt_do (.slice A1 (l.length - (k + 1)) (c - (k + 1))) rfl (Stage.two_step (by kernel_rfl) (fun b w' hw => ?_)) ?_
    · exact at_cut _ _ _ rfl rfl rfl (HCUT.out w') hw
    go_simp
    refine Stage.wpSt_do (.slice A7 K.length c7) rfl (Stage.two_first (by decide) (by kernel_rfl) (fun w' hw => ?_)) ?_
    · have hw' : w' = W := hw
      clear hw; subst hw'
      exact at_append _ _ _ rfl rfl rfl rfl HR7.out rfl
    go_simp
    refine Stage.wpSt_do (.agg #[.int .i64 d, .slice A7 K.length c7]) rfl (Stage.two_step (by kernel_rfl) (fun b w' hw => ?_)) ?_
    · exact at_of (by go_simp) hw
    go_simp
    refine Stage.wpSt_do undef rfl (Stage.two_then (by decide) (by kernel_rfl) (fun w' hw => ?_)) ?_
    · have hw' : w' = W7 := hw
      clear hw; subst hw'
      exact at_skip (by go_simp) rfl
    go_simp
    refine Stage.wpSt_reads 1 (fun _ => True) (by kernel_rfl) (Stage.two_any (by simp) (by simp)) ?_
    simp only [List.take_succ_cons, List.take_zero, List.drop_succ_cons, List.drop_zero]
    repeat (go_big_quiet_step (fail))
    refine wpQuiet_nil (Stage.wpSt_nil (Stage.two_end ?_))
    intro w9 hw9
    have hw9 : w9 = (W7.setCell ⟨w.heap.size + 1 + 1, 0, none⟩ (.int .i64 d)).setCell ⟨w.heap.size + 1 + 1, 1, none⟩ (.slice A7 K.length c7) := hw9
    subst hw9
    clear c60 c61 f60 f61
    go_wp2_with fail
    refine bodyPost_ret (v := .tuple #[.agg #[.int .i64 d, .slice A7 K.length c7], .int .i64 0]) (two_results rfl _ _ _ 31 _ (0, 0) _ rfl ((HR6.out.put 0 _).put 1 _) Try.underlying31 rfl (by kernel_rfl) rfl) rfl ?_
    have hg6 : w.heap.size + 1 + 1 < w0.heap.size := HZ.out.lt
    have hbz := (below_setCell (below_setCell (HB0.out.trans (HW7.out.mono HB0.out.size)) (p := ⟨w.heap.size + 1 + 1, 0, none⟩) (by simp; omega) (.int .i64 d)) (p := ⟨w.heap.size + 1 + 1, 1, none⟩) (by simp; omega) (.slice A7 K.length c7))
    obtain ⟨A8, c8, e8, hrf⟩ := Rf.of_own (ownsRow_setCell_below (ownsRow_setCell_below HO7.out (a := ⟨w.heap.size + 1 + 1, 0, none⟩) hg6 (.int .i64 d)) (a := ⟨w.heap.size + 1 + 1, 1, none⟩) hg6 (.slice A7 K.length c7))
    rw [hKe]
    exact ⟨⟨A8, c8, by rw [e8], hrf⟩, hbz⟩
  | false =>
    go_wp2_with (at_builtin; first
      | (have hps := ((H0.out.below HB4.out).ps).take k; have hle4 : w0.heap.size ≤ w4.heap.size := HW4.out.size; clear c30 c31 c40 c41 c42 c43 c44 c60 c61 f60 f61; refine wpList_append_ps rfl _ _ rfl w0.heap.size _ 0 [] rfl (World.ownsRow_nil _ _ _ _) (some ⟨g, 0, none⟩) c k (l.take k) rfl (by rw [List.length_take]; have := HAT.out.le; omega) (by simp) hps (by have := HAT.out.le; have := HL.out; omega) hle4 ?_; intro v5 w5 hown5 hgr5; have hb5 := own_belowP (World.ownsRow_nil _ _ _ _) hgr5 HW4.out hle4; have HW5 := Lib.hid hb5; have HO5 := Lib.hid hown5; clear hown5 hgr5 hb5 hps; have hr3 := HR.out.below HW5.out HR.out.lt; have hx4 := HX.out.below HW5.out; have hr6 := HZ.out.below HW5.out HZ.out.lt; have c30 : w5.cell? ⟨w.heap.size, 0, none⟩ = some (.int .i64 d) := hr3.cell 0; have c31 : w5.cell? ⟨w.heap.size, 1, none⟩ = some (.slice (some ⟨g, 0, none⟩) l.length c) := hr3.cell 1; obtain ⟨c40, c41, c42, c43, c44⟩ := hx4.cells5; have c60 : w5.cell? ⟨w.heap.size + 1 + 1, 0, none⟩ = some (.int .i64 0) := hr6.cell 0; have c61 : w5.cell? ⟨w.heap.size + 1 + 1, 1, none⟩ = some (.slice none 0 0) := hr6.cell 1; have f60 : w5.frozen? ⟨w.heap.size + 1 + 1, 0, none⟩ = false := hr6.free 0; have f61 : w5.frozen? ⟨w.heap.size + 1 + 1, 1, none⟩ = false := hr6.free 1; clear hr3 hx4 hr6))
    have hr3 := HR.out.below HW5.out HR.out.lt; have hx4 := HX.out.below HW5.out; have hr6 := HZ.out.below HW5.out HZ.out.lt
    have c30 : w5.cell? ⟨w.heap.size, 0, none⟩ = some (.int .i64 d) := hr3.cell 0
    have c31 : w5.cell? ⟨w.heap.size, 1, none⟩ = some (.slice (some ⟨g, 0, none⟩) l.length c) := hr3.cell 1
    obtain ⟨c40, c41, c42, c43, c44⟩ := hx4.cells5
    have c60 : w5.cell? ⟨w.heap.size + 1 + 1, 0, none⟩ = some (.int .i64 0) := hr6.cell 0
    have c61 : w5.cell? ⟨w.heap.size + 1 + 1, 1, none⟩ = some (.slice none 0 0) := hr6.cell 1
    have f60 : w5.frozen? ⟨w.heap.size + 1 + 1, 0, none⟩ = false := hr6.free 0
    have f61 : w5.frozen? ⟨w.heap.size + 1 + 1, 1, none⟩ = false := hr6.free 1
    clear hr3 hx4 hr6
    go_wp2_with fail
    clear c30 c31 c40 c41 c42 c43 c44 c60 c61 f60 f61
    obtain ⟨A1, hcut, hA1, hpsd⟩ := cut_any (some ⟨g, 0, none⟩) c l (.inr ⟨g, rfl⟩) k (k : Int) (by omega) (by omega) H0.out.le
    have hdr : w5.drew = w5.drewN 1 := rfl
    obtain ⟨W, hW⟩ : ∃ W, w5.drew = W := ⟨_, rfl⟩
    have hwd : Below w0.heap.size w0 W := by rw [← hW]; exact HW5.out.drew
    have hod : W.ownsRow w0.heap.size 64 6 v5 (0 + k) (rowP ([] ++ l.take k)) := by rw [← hW]; exact HO5.out
    have hpw : Ps W (some ⟨g, 0, none⟩) l := (H0.out.below (HB0.out.trans (hwd.mono HB0.out.size))).ps
    obtain ⟨v7, W7, hr7, ho7, hg7⟩ := append_ps_run W w0.heap.size v5 (0 + k) ([] ++ l.take k) hod A1 (c - k) (l.drop k) hA1 (hpsd W hpw) (by rw [List.length_drop]; have := HL.out; omega) hwd.size 29
    rw [List.length_drop] at hr7
    have hw7 := own_belowP hod hg7 hwd hwd.size
    have hK : ([] ++ l.take k) ++ l.drop k = addC l t n := by
      have h1 := HRW.out k false HAT.out
      unfold addC
      rw [HS.out, ← h1]
      have h2 := HZZ.out
      simp at h2
      simp [rowM, h2]
    rw [hK] at ho7
    obtain ⟨K, hKe⟩ : ∃ K, addC l t n = K := ⟨_, rfl⟩
    rw [hKe] at ho7
    rw [hKe]
    obtain ⟨A7, c7, rfl, -⟩ := Rf.of_own ho7
    have hr3 := HR.out.below hw7 HR.out.lt; have hr6 := HZ.out.below hw7 HZ.out.lt
    have c60 : W7.cell? ⟨w.heap.size + 1 + 1, 0, none⟩ = some (.int .i64 0) := hr6.cell 0
    have c61 : W7.cell? ⟨w.heap.size + 1 + 1, 1, none⟩ = some (.slice none 0 0) := hr6.cell 1
    have f60 : W7.frozen? ⟨w.heap.size + 1 + 1, 0, none⟩ = false := hr6.free 0
    have f61 : W7.frozen? ⟨w.heap.size + 1 + 1, 1, none⟩ = false := hr6.free 1
    have HDR := Lib.hid hW; have HWD := Lib.hid hwd; have HR7 := Lib.hid hr7; have HO7 := Lib.hid ho7; have HW7 := Lib.hid hw7; have HCUT := Lib.hid hcut; have HR6 := Lib.hid hr6
    clear hW hwd hod hpw hr7 hg7 ho7 hw7 hcut hr3 hr6 hpsd hA1
    have hU : ∀ (b1 : Bool) (w' : World), w' = (if false = true then W else if b1 = true then W7 else W) → Below w0.heap.size w0 w' := fun b1 w' hw => by
      cases b1 with
      | true => have : w' = W7 := hw; subst this; exact HW7.out
      | false => have : w' = W := hw; subst this; exact HWD.out
    have HU := Lib.hid hU; clear hU
    refine Stage.wp_region (by kernel_rfl) (by kernel_rfl) (Stage.two 7 9 (fun b1 b2 w' => w' = if b2 then (W7.setCell ⟨w.heap.size + 1 + 1, 0, none⟩ (.int .i64 d)).setCell ⟨w.heap.size + 1 + 1, 1, none⟩ (.slice A7 K.length c7) else if b1 then W7 else W)) (Stage.two_start (by simp) (by simp) HDR.out) ?_
    refine Stage.wpSt_do (.pointer (some ⟨w.heap.size, 0, none⟩)) rfl (Stage.two_step (by kernel_rfl) (fun b w' hw => ?_)) ?_
    · exact at_of (by go_simp) hw
    go_simp
    refine Stage.wpSt_do (.int .i64 d) rfl (Stage.two_step (by kernel_rfl) (fun b w' hw => ?_)) ?_
    · exact Free.at_load _ _ rfl rfl (load_at HR.out.lt (HR.out.cell 0) w' (HU.out b w' hw)) hw
    go_simp
    refine Stage.wpSt_do v5 rfl (Stage.two_step (by kernel_rfl) (fun b w' hw => ?_)) ?_
    · exact at_of (by go_simp) hw
    go_simp
    refine Stage.wpSt_do (.pointer (some ⟨w.heap.size, 1, none⟩)) rfl (Stage.two_step (by kernel_rfl) (fun b w' hw => ?_)) ?_
    · exact at_of (by go_simp) hw
    go_simp
    refine Stage.wpSt_do (.slice (some ⟨g, 0, none⟩) l.length c) rfl (Stage.two_step (by kernel_rfl) (fun b w' hw => ?_)) ?_
    · exact Free.at_load _ _ rfl rfl (load_sl HR.out w' (HU.out b w' hw)) hw
    go_simp
    refine Stage.wpSt_do (.int .i64 (k : Int)) rfl (Stage.two_step (by kernel_rfl) (fun b w' hw => ?_)) ?_
    · exact at_of (by go_simp) hw
    go_simp
    refine Stage.wpSt_do (.slice A1 (l.length - k) (c - k)) rfl (Stage.two_step (by kernel_rfl) (fun b w' hw => ?_)) ?_
    · exact at_cut _ _ _ rfl rfl rfl (HCUT.out w') hw
    go_simp
    refine Stage.wpSt_do (.slice A7 K.length c7) rfl (Stage.two_first (by decide) (by kernel_rfl) (fun w' hw => ?_)) ?_
    · have hw' : w' = W := hw
      clear hw; subst hw'
      exact at_append _ _ _ rfl rfl rfl rfl HR7.out rfl
    go_simp
    refine Stage.wpSt_do (.agg #[.int .i64 d, .slice A7 K.length c7]) rfl (Stage.two_step (by kernel_rfl) (fun b w' hw => ?_)) ?_
    · exact at_of (by go_simp) hw
    go_simp
    refine Stage.wpSt_do undef rfl (Stage.two_then (by decide) (by kernel_rfl) (fun w' hw => ?_)) ?_
    · have hw' : w' = W7 := hw
      clear hw; subst hw'
      exact at_skip (by go_simp) rfl
    go_simp
    refine Stage.wpSt_reads 1 (fun _ => True) (by kernel_rfl) (Stage.two_any (by simp) (by simp)) ?_
    simp only [List.take_succ_cons, List.take_zero, List.drop_succ_cons, List.drop_zero]
    repeat (go_big_quiet_step (fail))
    refine wpQuiet_nil (Stage.wpSt_nil (Stage.two_end ?_))
    intro w9 hw9
    have hw9 : w9 = (W7.setCell ⟨w.heap.size + 1 + 1, 0, none⟩ (.int .i64 d)).setCell ⟨w.heap.size + 1 + 1, 1, none⟩ (.slice A7 K.length c7) := hw9
    subst hw9
    clear c60 c61 f60 f61
    go_wp2_with fail
    refine bodyPost_ret (v := .tuple #[.agg #[.int .i64 d, .slice A7 K.length c7], .int .i64 0]) (two_results rfl _ _ _ 31 _ (0, 0) _ rfl ((HR6.out.put 0 _).put 1 _) Try.underlying31 rfl (by kernel_rfl) rfl) rfl ?_
    have hg6 : w.heap.size + 1 + 1 < w0.heap.size := HZ.out.lt
    have hbz := (below_setCell (below_setCell (HB0.out.trans (HW7.out.mono HB0.out.size)) (p := ⟨w.heap.size + 1 + 1, 0, none⟩) (by simp; omega) (.int .i64 d)) (p := ⟨w.heap.size + 1 + 1, 1, none⟩) (by simp; omega) (.slice A7 K.length c7))
    obtain ⟨A8, c8, e8, hrf⟩ := Rf.of_own (ownsRow_setCell_below (ownsRow_setCell_below HO7.out (a := ⟨w.heap.size + 1 + 1, 0, none⟩) hg6 (.int .i64 d)) (a := ⟨w.heap.size + 1 + 1, 1, none⟩) hg6 (.slice A7 K.length c7))
    rw [hKe]
    exact ⟨⟨A8, c8, by rw [e8], hrf⟩, hbz⟩
set_option maxHeartbeats 8000000 in
theorem radd_Eny {w : World}  {l : Cn} {c : Nat} {d : Int} (h : Rf w none c l) (hl : l.length ≤ 500) (hok : CnOk l) (t : St) (n : Int) (hR : t.R) (hd : t.d = d) (hn : Nr n) (hq0 : Nr (cnt l t)) (hc : Nr (cnt l t + n)) (hz : cnt l t + n ≠ 0) :
    Calls Try.prog 14 #[.agg #[.int .i64 d, .slice none l.length c], t.val, .int .i64 n] w (RAdded w d (addC l t n) 0) := by
  have hB0 := (((Below.refl w.heap.size w).alloc (Nat.le_refl _) (.cells #[.int .i64 d, .slice none l.length c] 31)).alloc (by simp) (.cells #[.int .i64 t.d, .int .i64 t.e, .int .i64 t.x, .int .i64 t.y, .int .i64 t.z] 25)).alloc (by simp; omega) (.cells #[.int .i64 0, .slice none 0 0] 31)
  have hr3 : Row (((w.alloc (.cells #[.int .i64 d, .slice none l.length c] 31)).alloc (.cells #[.int .i64 t.d, .int .i64 t.e, .int .i64 t.x, .int .i64 t.y, .int .i64 t.z] 25)).alloc (.cells #[.int .i64 0, .slice none 0 0] 31)) w.heap.size 31 [.int .i64 d, .slice none l.length c] := Row.alloc (Row.alloc (Row.made w _ _) _) _
  have hx := (Holds.made (w.alloc (.cells #[.int .i64 d, .slice none l.length c] 31)) t).alloc (.cells #[.int .i64 0, .slice none 0 0] 31)
  have hr6 : Row (((w.alloc (.cells #[.int .i64 d, .slice none l.length c] 31)).alloc (.cells #[.int .i64 t.d, .int .i64 t.e, .int .i64 t.x, .int .i64 t.y, .int .i64 t.z] 25)).alloc (.cells #[.int .i64 0, .slice none 0 0] 31)) ((w.alloc (.cells #[.int .i64 d, .slice none l.length c] 31)).alloc (.cells #[.int .i64 t.d, .int .i64 t.e, .int .i64 t.x, .int .i64 t.y, .int .i64 t.z] 25)).heap.size 31 [.int .i64 0, .slice none 0 0] := Row.made _ _ _
  rw [size_alloc] at hx
  rw [size_alloc, size_alloc] at hr6
  have HIN := Lib.hid (in_is (decide_eq_true hn))
  have HSB := Lib.hid (show -3000000000000 ≤ cnt l t + n ∧ cnt l t + n ≤ 3000000000000 by unfold Nr at hq0 hn; omega)
  have hsum : IntKind.i64.wrap (cnt l t + n) = cnt l t + n := IntWalk.i64_in _ (by have := HSB.out; omega)
  obtain ⟨s, hs⟩ : ∃ s, cnt l t + n = s := ⟨_, rfl⟩
  rw [hs] at hc hsum
  have hok0 := hok
  have hr := right_is (decide_eq_true hR) (refRight_any t)
  have hdd : (t.d != d) = false := by simpa using hd
  have hpl := fun w' (hb : Below w.heap.size w w') => place_any none l c d t w' (h.below hb) (by omega)
  have hcn := fun w' (hb : Below w.heap.size w w') => refCount_any none l c d t w' (h.below hb) (by omega) hok
  obtain ⟨q, hq⟩ : ∃ q, cnt l t = q := ⟨_, rfl⟩
  rw [hq] at hcn
  have HIN2 := Lib.hid (in_is (decide_eq_true hc)); clear hn hc hq0
  have HS := Lib.hid hs
  rw [hq] at hs
  have hsum : IntKind.i64.wrap (q + n) = s := by rw [hs]; exact hsum
  rw [hq] at HSB
  have HRT := Lib.hid hr; have HPL := Lib.hid hpl; have HCN := Lib.hid hcn; have HQ := Lib.hid hq; have HOK := Lib.hid hok; have HRD := Lib.hid (And.intro hR hd); clear hr hpl hcn hq hok hR hd
  have H0 := Lib.hid h; have HB0 := Lib.hid hB0; have HR := Lib.hid hr3; have HX := Lib.hid hx; have HZ := Lib.hid hr6; clear hB0 hr3 hx hr6 h
  have hzz : (s != 0) = true := by rw [HS.out] at hz; simpa using hz
  have HRW := Lib.hid (fun (k : Nat) (b : Bool) (hat : AtK l t k b) => rowM_is l t k b s hok0 hat)
  have HC0 := Lib.hid (show c = 0 by rcases H0.out.at_ with ⟨_, e⟩ | ⟨g, e, _⟩; exact e; cases e)
  have HZZ := Lib.hid hzz; have HL := Lib.hid hl; clear hok0 hzz hz hl
  unfold St.val at *
  go_enter Try.func14, Try.ntmps14
  go_wp2_with fail
  generalize ((w.alloc (.cells #[.int .i64 d, .slice none l.length c] 31)).alloc (.cells #[.int .i64 t.d, .int .i64 t.e, .int .i64 t.x, .int .i64 t.y, .int .i64 t.z] 25)).alloc (.cells #[.int .i64 0, .slice none 0 0] 31) = w0 at *
  have r3 := HR.out.below (Below.refl _ w0) HR.out.lt; have x4 := HX.out.below (Below.refl _ w0); have r6 := HZ.out.below (Below.refl _ w0) HZ.out.lt
  have c30 : w0.cell? ⟨w.heap.size, 0, none⟩ = some (.int .i64 d) := r3.cell 0
  have c31 : w0.cell? ⟨w.heap.size, 1, none⟩ = some (.slice none l.length c) := r3.cell 1
  obtain ⟨c40, c41, c42, c43, c44⟩ := x4.cells5
  have c60 : w0.cell? ⟨w.heap.size + 1 + 1, 0, none⟩ = some (.int .i64 0) := r6.cell 0
  have c61 : w0.cell? ⟨w.heap.size + 1 + 1, 1, none⟩ = some (.slice none 0 0) := r6.cell 1
  have f60 : w0.frozen? ⟨w.heap.size + 1 + 1, 0, none⟩ = false := r6.free 0
  have f61 : w0.frozen? ⟨w.heap.size + 1 + 1, 1, none⟩ = false := r6.free 1
  go_wp2_with fail
  refine (HRT.out _).mono ?_; rintro e w1 ⟨rfl, hb1⟩
  clear c30 c31 c40 c41 c42 c43 c44 c60 c61 f60 f61
  have r3a := HR.out.below hb1 HR.out.lt; have x4a := HX.out.below hb1; have r6a := HZ.out.below hb1 HZ.out.lt
  have c30 : w1.cell? ⟨w.heap.size, 0, none⟩ = some (.int .i64 d) := r3a.cell 0
  have c31 : w1.cell? ⟨w.heap.size, 1, none⟩ = some (.slice none l.length c) := r3a.cell 1
  obtain ⟨c40, c41, c42, c43, c44⟩ := x4a.cells5
  have c60 : w1.cell? ⟨w.heap.size + 1 + 1, 0, none⟩ = some (.int .i64 0) := r6a.cell 0
  have c61 : w1.cell? ⟨w.heap.size + 1 + 1, 1, none⟩ = some (.slice none 0 0) := r6a.cell 1
  have f60 : w1.frozen? ⟨w.heap.size + 1 + 1, 0, none⟩ = false := r6a.free 0
  have f61 : w1.frozen? ⟨w.heap.size + 1 + 1, 1, none⟩ = false := r6a.free 1
  have HB1 := Lib.hid (HB0.out.trans (hb1.mono HB0.out.size)); have HW1 := Lib.hid hb1; clear r3 x4 r6 hb1
  have RS1 := Lib.hid (And.intro r3a (And.intro x4a r6a)); clear r3a x4a r6a
  have kk := HPL.out w1 HB1.out
  unfold St.val at kk
  have KK := Lib.hid kk; clear kk
  go_wp2_with fail
  refine (KK.out).mono ?_; rintro e w2 ⟨⟨k, b, rfl, hat⟩, hb2⟩
  clear c30 c31 c40 c41 c42 c43 c44 c60 c61 f60 f61
  have RS2 := Lib.hid (And.intro (RS1.out.1.below hb2 RS1.out.1.lt) (And.intro (RS1.out.2.1.below hb2) (RS1.out.2.2.below hb2 RS1.out.2.2.lt)))
  have HB2 := Lib.hid (HB1.out.trans (hb2.mono HB1.out.size)); have HW2 := Lib.hid (HW1.out.trans (hb2.mono HW1.out.size)); have HAT := Lib.hid hat; clear hb2 hat KK HPL
  have c30 : w2.cell? ⟨w.heap.size, 0, none⟩ = some (.int .i64 d) := RS2.out.1.cell 0
  have c31 : w2.cell? ⟨w.heap.size, 1, none⟩ = some (.slice none l.length c) := RS2.out.1.cell 1
  obtain ⟨c40, c41, c42, c43, c44⟩ := RS2.out.2.1.cells5
  have c60 : w2.cell? ⟨w.heap.size + 1 + 1, 0, none⟩ = some (.int .i64 0) := RS2.out.2.2.cell 0
  have c61 : w2.cell? ⟨w.heap.size + 1 + 1, 1, none⟩ = some (.slice none 0 0) := RS2.out.2.2.cell 1
  have f60 : w2.frozen? ⟨w.heap.size + 1 + 1, 0, none⟩ = false := RS2.out.2.2.free 0
  have f61 : w2.frozen? ⟨w.heap.size + 1 + 1, 1, none⟩ = false := RS2.out.2.2.free 1
  dsimp only
  go_wp2_with fail
  refine (HIN.out _).mono ?_; rintro e w3 ⟨rfl, rfl⟩
  have kk := HCN.out w2 HB2.out
  unfold St.val at kk
  have KK := Lib.hid kk; clear kk
  go_wp2_with fail
  refine (KK.out).mono ?_; rintro e w3 ⟨rfl, hb3⟩
  clear c30 c31 c40 c41 c42 c43 c44 c60 c61 f60 f61
  have RS3 := Lib.hid (And.intro (RS2.out.1.below hb3 RS2.out.1.lt) (And.intro (RS2.out.2.1.below hb3) (RS2.out.2.2.below hb3 RS2.out.2.2.lt)))
  have HB3 := Lib.hid (HB2.out.trans (hb3.mono HB2.out.size)); have HW3 := Lib.hid (HW2.out.trans (hb3.mono HW2.out.size)); clear hb3 RS2 HB2
  clear KK
  have c30 : w3.cell? ⟨w.heap.size, 0, none⟩ = some (.int .i64 d) := RS3.out.1.cell 0
  have c31 : w3.cell? ⟨w.heap.size, 1, none⟩ = some (.slice none l.length c) := RS3.out.1.cell 1
  obtain ⟨c40, c41, c42, c43, c44⟩ := RS3.out.2.1.cells5
  have c60 : w3.cell? ⟨w.heap.size + 1 + 1, 0, none⟩ = some (.int .i64 0) := RS3.out.2.2.cell 0
  have c61 : w3.cell? ⟨w.heap.size + 1 + 1, 1, none⟩ = some (.slice none 0 0) := RS3.out.2.2.cell 1
  have f60 : w3.frozen? ⟨w.heap.size + 1 + 1, 0, none⟩ = false := RS3.out.2.2.free 0
  have f61 : w3.frozen? ⟨w.heap.size + 1 + 1, 1, none⟩ = false := RS3.out.2.2.free 1
  go_wp2_with fail
  refine (HIN2.out _).mono ?_; rintro e w4 ⟨rfl, rfl⟩
  go_wp2_with fail
  clear c30 c31 c40 c41 c42 c43 c44 c60 c61 f60 f61
  have c30 : w3.cell? ⟨w.heap.size, 0, none⟩ = some (.int .i64 d) := RS3.out.1.cell 0
  have c31 : w3.cell? ⟨w.heap.size, 1, none⟩ = some (.slice none l.length c) := RS3.out.1.cell 1
  obtain ⟨c40, c41, c42, c43, c44⟩ := RS3.out.2.1.cells5
  have c60 : w3.cell? ⟨w.heap.size + 1 + 1, 0, none⟩ = some (.int .i64 0) := RS3.out.2.2.cell 0
  have c61 : w3.cell? ⟨w.heap.size + 1 + 1, 1, none⟩ = some (.slice none 0 0) := RS3.out.2.2.cell 1
  have f60 : w3.frozen? ⟨w.heap.size + 1 + 1, 0, none⟩ = false := RS3.out.2.2.free 0
  have f61 : w3.frozen? ⟨w.heap.size + 1 + 1, 1, none⟩ = false := RS3.out.2.2.free 1
  have kk := HCN.out w3 HB3.out
  unfold St.val at kk
  have KK := Lib.hid kk; clear kk
  go_wp2_with fail
  refine (KK.out).mono ?_; rintro e w4 ⟨rfl, hb4⟩
  clear c30 c31 c40 c41 c42 c43 c44 c60 c61 f60 f61
  have RS4 := Lib.hid (And.intro (RS3.out.1.below hb4 RS3.out.1.lt) (And.intro (RS3.out.2.1.below hb4) (RS3.out.2.2.below hb4 RS3.out.2.2.lt)))
  have HB4 := Lib.hid (HB3.out.trans (hb4.mono HB3.out.size)); have HW4 := Lib.hid (HW3.out.trans (hb4.mono HW3.out.size)); clear hb4 RS3 HB3
  clear KK HCN
  have hr3 := HR.out.below HW4.out HR.out.lt; have hx4 := HX.out.below HW4.out; have hr6 := HZ.out.below HW4.out HZ.out.lt
  have c30 : w4.cell? ⟨w.heap.size, 0, none⟩ = some (.int .i64 d) := hr3.cell 0
  have c31 : w4.cell? ⟨w.heap.size, 1, none⟩ = some (.slice none l.length c) := hr3.cell 1
  obtain ⟨c40, c41, c42, c43, c44⟩ := hx4.cells5
  have c60 : w4.cell? ⟨w.heap.size + 1 + 1, 0, none⟩ = some (.int .i64 0) := hr6.cell 0
  have c61 : w4.cell? ⟨w.heap.size + 1 + 1, 1, none⟩ = some (.slice none 0 0) := hr6.cell 1
  have f60 : w4.frozen? ⟨w.heap.size + 1 + 1, 0, none⟩ = false := hr6.free 0
  have f61 : w4.frozen? ⟨w.heap.size + 1 + 1, 1, none⟩ = false := hr6.free 1
  clear hr3 hx4 hr6
  have hkl := HAT.out.le
  have hkc : (k : Int) ≤ (c : Int) := by have := H0.out.le; omega
  have hk0 : (0 : Int) ≤ (k : Int) := by omega
  have hlc : (l.length : Int) ≤ (c : Int) := by have := H0.out.le; omega
  dsimp only
  have hz' := HZZ.out
  cases b with
  | true =>
    have hkl1 : k < l.length := by obtain ⟨p, hp, _⟩ := HAT.out.here.1 rfl; exact (List.getElem?_eq_some_iff.1 hp).1
    have hkw : IntKind.i64.wrap ((k : Int) + 1) = (k : Int) + 1 := IntWalk.i64_in _ (by have := HL.out; omega)
    go_wp2_with (at_builtin; first
      | (have hps := ((H0.out.below HB4.out).ps).take k; have hle4 : w0.heap.size ≤ w4.heap.size := HW4.out.size; clear c30 c31 c40 c41 c42 c43 c44 c60 c61 f60 f61; refine wpList_append_ps rfl _ _ rfl w0.heap.size _ 0 [] rfl (World.ownsRow_nil _ _ _ _) none c k (l.take k) rfl (by rw [List.length_take]; have := HAT.out.le; omega) (by intro _; exact HC0.out) hps (by have := HAT.out.le; have := HL.out; omega) hle4 ?_; intro v5 w5 hown5 hgr5; have hb5 := own_belowP (World.ownsRow_nil _ _ _ _) hgr5 HW4.out hle4; have HW5 := Lib.hid hb5; have HO5 := Lib.hid hown5; clear hown5 hgr5 hb5 hps; have hr3 := HR.out.below HW5.out HR.out.lt; have hx4 := HX.out.below HW5.out; have hr6 := HZ.out.below HW5.out HZ.out.lt; have c30 : w5.cell? ⟨w.heap.size, 0, none⟩ = some (.int .i64 d) := hr3.cell 0; have c31 : w5.cell? ⟨w.heap.size, 1, none⟩ = some (.slice none l.length c) := hr3.cell 1; obtain ⟨c40, c41, c42, c43, c44⟩ := hx4.cells5; have c60 : w5.cell? ⟨w.heap.size + 1 + 1, 0, none⟩ = some (.int .i64 0) := hr6.cell 0; have c61 : w5.cell? ⟨w.heap.size + 1 + 1, 1, none⟩ = some (.slice none 0 0) := hr6.cell 1; have f60 : w5.frozen? ⟨w.heap.size + 1 + 1, 0, none⟩ = false := hr6.free 0; have f61 : w5.frozen? ⟨w.heap.size + 1 + 1, 1, none⟩ = false := hr6.free 1; clear hr3 hx4 hr6)
      | (have hox := HO5.out.alloc (.cells #[.int .i64 t.d, .int .i64 t.e, .int .i64 t.x, .int .i64 t.y, .int .i64 t.z, .int .i64 s] 64); have hwx := HW5.out.alloc HW5.out.size (.cells #[.int .i64 t.d, .int .i64 t.e, .int .i64 t.x, .int .i64 t.y, .int .i64 t.z, .int .i64 s] 64); have hpx : Ps (w5.alloc (.cells #[.int .i64 t.d, .int .i64 t.e, .int .i64 t.x, .int .i64 t.y, .int .i64 t.z, .int .i64 s] 64)) (some ⟨w5.heap.size, 0, none⟩) [(t, s)] := fun _ => ⟨w5.heap.size, 0, rfl, by simp, fun j u hj => by rw [Nat.zero_add]; exact (Row.cell (Row.made w5 64 (stepCells (t, s))) j).trans (by simpa [rowP, stepCells] using hj)⟩; clear c30 c31 c40 c41 c42 c43 c44 c60 c61 f60 f61; refine wpList_append_ps rfl _ _ rfl w0.heap.size v5 (0 + k) ([] ++ l.take k) rfl hox (some ⟨w5.heap.size, 0, none⟩) 1 1 [(t, s)] rfl rfl (by simp) hpx (by have := HAT.out.le; have := HL.out; omega) (hwx.size) ?_; intro v6 w6 hown6 hgr6; have hb6 := own_belowP hox hgr6 hwx hwx.size; have HW6 := Lib.hid hb6; have HO6 := Lib.hid hown6; clear hown6 hgr6 hb6 hpx hox hwx))
    have hr3 := HR.out.below HW6.out HR.out.lt; have hx4 := HX.out.below HW6.out; have hr6 := HZ.out.below HW6.out HZ.out.lt
    have c30 : w6.cell? ⟨w.heap.size, 0, none⟩ = some (.int .i64 d) := hr3.cell 0
    have c31 : w6.cell? ⟨w.heap.size, 1, none⟩ = some (.slice none l.length c) := hr3.cell 1
    obtain ⟨c40, c41, c42, c43, c44⟩ := hx4.cells5
    have c60 : w6.cell? ⟨w.heap.size + 1 + 1, 0, none⟩ = some (.int .i64 0) := hr6.cell 0
    have c61 : w6.cell? ⟨w.heap.size + 1 + 1, 1, none⟩ = some (.slice none 0 0) := hr6.cell 1
    have f60 : w6.frozen? ⟨w.heap.size + 1 + 1, 0, none⟩ = false := hr6.free 0
    have f61 : w6.frozen? ⟨w.heap.size + 1 + 1, 1, none⟩ = false := hr6.free 1
    clear hr3 hx4 hr6
    go_wp2_with fail
    clear c30 c31 c40 c41 c42 c43 c44 c60 c61 f60 f61
    obtain ⟨A1, hcut, hA1, hpsd⟩ := cut_any none c l (.inl ⟨rfl, HC0.out⟩) (k + 1) ((k : Int) + 1) (by omega) (by omega) H0.out.le
    have hdr : w6.drew = w6.drewN 1 := rfl
    obtain ⟨W, hW⟩ : ∃ W, w6.drew = W := ⟨_, rfl⟩
    have hwd : Below w0.heap.size w0 W := by rw [← hW]; exact HW6.out.drew
    have hod : W.ownsRow w0.heap.size 64 6 v6 (0 + k + 1) (rowP ([] ++ l.take k ++ [(t, s)])) := by rw [← hW]; exact HO6.out
    have hpw : Ps W none l := (H0.out.below (HB0.out.trans (hwd.mono HB0.out.size))).ps
    obtain ⟨v7, W7, hr7, ho7, hg7⟩ := append_ps_run W w0.heap.size v6 (0 + k + 1) ([] ++ l.take k ++ [(t, s)]) hod A1 (c - (k + 1)) (l.drop (k + 1)) hA1 (hpsd W hpw) (by rw [List.length_drop]; have := HL.out; omega) hwd.size 29
    rw [List.length_drop] at hr7
    have hw7 := own_belowP hod hg7 hwd hwd.size
    have hK : ([] ++ l.take k ++ [(t, s)]) ++ l.drop (k + 1) = addC l t n := by
      have h1 := HRW.out k true HAT.out
      unfold addC
      rw [HS.out, ← h1]
      have h2 := HZZ.out
      simp at h2
      simp [rowM, h2]
    rw [hK] at ho7
    obtain ⟨K, hKe⟩ : ∃ K, addC l t n = K := ⟨_, rfl⟩
    rw [hKe] at ho7
    rw [hKe]
    obtain ⟨A7, c7, rfl, -⟩ := Rf.of_own ho7
    have hr3 := HR.out.below hw7 HR.out.lt; have hr6 := HZ.out.below hw7 HZ.out.lt
    have c60 : W7.cell? ⟨w.heap.size + 1 + 1, 0, none⟩ = some (.int .i64 0) := hr6.cell 0
    have c61 : W7.cell? ⟨w.heap.size + 1 + 1, 1, none⟩ = some (.slice none 0 0) := hr6.cell 1
    have f60 : W7.frozen? ⟨w.heap.size + 1 + 1, 0, none⟩ = false := hr6.free 0
    have f61 : W7.frozen? ⟨w.heap.size + 1 + 1, 1, none⟩ = false := hr6.free 1
    have HDR := Lib.hid hW; have HWD := Lib.hid hwd; have HR7 := Lib.hid hr7; have HO7 := Lib.hid ho7; have HW7 := Lib.hid hw7; have HCUT := Lib.hid hcut; have HR6 := Lib.hid hr6
    clear hW hwd hod hpw hr7 hg7 ho7 hw7 hcut hr3 hr6 hpsd hA1
    have hU : ∀ (b1 : Bool) (w' : World), w' = (if false = true then W else if b1 = true then W7 else W) → Below w0.heap.size w0 w' := fun b1 w' hw => by
      cases b1 with
      | true => have : w' = W7 := hw; subst this; exact HW7.out
      | false => have : w' = W := hw; subst this; exact HWD.out
    have HU := Lib.hid hU; clear hU
    refine Stage.wp_region (by kernel_rfl) (by kernel_rfl) (Stage.two 7 9 (fun b1 b2 w' => w' = if b2 then (W7.setCell ⟨w.heap.size + 1 + 1, 0, none⟩ (.int .i64 d)).setCell ⟨w.heap.size + 1 + 1, 1, none⟩ (.slice A7 K.length c7) else if b1 then W7 else W)) (Stage.two_start (by simp) (by simp) HDR.out) ?_
    refine Stage.wpSt_do (.pointer (some ⟨w.heap.size, 0, none⟩)) rfl (Stage.two_step (by kernel_rfl) (fun b w' hw => ?_)) ?_
    · exact at_of (by go_simp) hw
    go_simp
    refine Stage.wpSt_do (.int .i64 d) rfl (Stage.two_step (by kernel_rfl) (fun b w' hw => ?_)) ?_
    · exact Free.at_load _ _ rfl rfl (load_at HR.out.lt (HR.out.cell 0) w' (HU.out b w' hw)) hw
    go_simp
    refine Stage.wpSt_do v6 rfl (Stage.two_step (by kernel_rfl) (fun b w' hw => ?_)) ?_
    · exact at_of (by go_simp) hw
    go_simp
    refine Stage.wpSt_do (.pointer (some ⟨w.heap.size, 1, none⟩)) rfl (Stage.two_step (by kernel_rfl) (fun b w' hw => ?_)) ?_
    · exact at_of (by go_simp) hw
    go_simp
    refine Stage.wpSt_do (.slice none l.length c) rfl (Stage.two_step (by kernel_rfl) (fun b w' hw => ?_)) ?_
    · exact Free.at_load _ _ rfl rfl (load_sl HR.out w' (HU.out b w' hw)) hw
    go_simp
    refine Stage.wpSt_do (.int .i64 ((k : Int) + 1)) rfl (Stage.two_step (by kernel_rfl) (fun b w' hw => ?_)) ?_
    · exact at_of (by go_simp) hw
    go_simp
    refine Stage.wpSt_do (.slice A1 (l.length - (k + 1)) (c - (k + 1))) rfl (Stage.two_step (by kernel_rfl) (fun b w' hw => ?_)) ?_
    · exact at_cut _ _ _ rfl rfl rfl (HCUT.out w') hw
    go_simp
    refine Stage.wpSt_do (.slice A7 K.length c7) rfl (Stage.two_first (by decide) (by kernel_rfl) (fun w' hw => ?_)) ?_
    · have hw' : w' = W := hw
      clear hw; subst hw'
      exact at_append _ _ _ rfl rfl rfl rfl HR7.out rfl
    go_simp
    refine Stage.wpSt_do (.agg #[.int .i64 d, .slice A7 K.length c7]) rfl (Stage.two_step (by kernel_rfl) (fun b w' hw => ?_)) ?_
    · exact at_of (by go_simp) hw
    go_simp
    refine Stage.wpSt_do undef rfl (Stage.two_then (by decide) (by kernel_rfl) (fun w' hw => ?_)) ?_
    · have hw' : w' = W7 := hw
      clear hw; subst hw'
      exact at_skip (by go_simp) rfl
    go_simp
    refine Stage.wpSt_reads 1 (fun _ => True) (by kernel_rfl) (Stage.two_any (by simp) (by simp)) ?_
    simp only [List.take_succ_cons, List.take_zero, List.drop_succ_cons, List.drop_zero]
    repeat (go_big_quiet_step (fail))
    refine wpQuiet_nil (Stage.wpSt_nil (Stage.two_end ?_))
    intro w9 hw9
    have hw9 : w9 = (W7.setCell ⟨w.heap.size + 1 + 1, 0, none⟩ (.int .i64 d)).setCell ⟨w.heap.size + 1 + 1, 1, none⟩ (.slice A7 K.length c7) := hw9
    subst hw9
    clear c60 c61 f60 f61
    go_wp2_with fail
    refine bodyPost_ret (v := .tuple #[.agg #[.int .i64 d, .slice A7 K.length c7], .int .i64 0]) (two_results rfl _ _ _ 31 _ (0, 0) _ rfl ((HR6.out.put 0 _).put 1 _) Try.underlying31 rfl (by kernel_rfl) rfl) rfl ?_
    have hg6 : w.heap.size + 1 + 1 < w0.heap.size := HZ.out.lt
    have hbz := (below_setCell (below_setCell (HB0.out.trans (HW7.out.mono HB0.out.size)) (p := ⟨w.heap.size + 1 + 1, 0, none⟩) (by simp; omega) (.int .i64 d)) (p := ⟨w.heap.size + 1 + 1, 1, none⟩) (by simp; omega) (.slice A7 K.length c7))
    obtain ⟨A8, c8, e8, hrf⟩ := Rf.of_own (ownsRow_setCell_below (ownsRow_setCell_below HO7.out (a := ⟨w.heap.size + 1 + 1, 0, none⟩) hg6 (.int .i64 d)) (a := ⟨w.heap.size + 1 + 1, 1, none⟩) hg6 (.slice A7 K.length c7))
    rw [hKe]
    exact ⟨⟨A8, c8, by rw [e8], hrf⟩, hbz⟩
  | false =>
    go_wp2_with (at_builtin; first
      | (have hps := ((H0.out.below HB4.out).ps).take k; have hle4 : w0.heap.size ≤ w4.heap.size := HW4.out.size; clear c30 c31 c40 c41 c42 c43 c44 c60 c61 f60 f61; refine wpList_append_ps rfl _ _ rfl w0.heap.size _ 0 [] rfl (World.ownsRow_nil _ _ _ _) none c k (l.take k) rfl (by rw [List.length_take]; have := HAT.out.le; omega) (by intro _; exact HC0.out) hps (by have := HAT.out.le; have := HL.out; omega) hle4 ?_; intro v5 w5 hown5 hgr5; have hb5 := own_belowP (World.ownsRow_nil _ _ _ _) hgr5 HW4.out hle4; have HW5 := Lib.hid hb5; have HO5 := Lib.hid hown5; clear hown5 hgr5 hb5 hps; have hr3 := HR.out.below HW5.out HR.out.lt; have hx4 := HX.out.below HW5.out; have hr6 := HZ.out.below HW5.out HZ.out.lt; have c30 : w5.cell? ⟨w.heap.size, 0, none⟩ = some (.int .i64 d) := hr3.cell 0; have c31 : w5.cell? ⟨w.heap.size, 1, none⟩ = some (.slice none l.length c) := hr3.cell 1; obtain ⟨c40, c41, c42, c43, c44⟩ := hx4.cells5; have c60 : w5.cell? ⟨w.heap.size + 1 + 1, 0, none⟩ = some (.int .i64 0) := hr6.cell 0; have c61 : w5.cell? ⟨w.heap.size + 1 + 1, 1, none⟩ = some (.slice none 0 0) := hr6.cell 1; have f60 : w5.frozen? ⟨w.heap.size + 1 + 1, 0, none⟩ = false := hr6.free 0; have f61 : w5.frozen? ⟨w.heap.size + 1 + 1, 1, none⟩ = false := hr6.free 1; clear hr3 hx4 hr6)
      | (have hox := HO5.out.alloc (.cells #[.int .i64 t.d, .int .i64 t.e, .int .i64 t.x, .int .i64 t.y, .int .i64 t.z, .int .i64 s] 64); have hwx := HW5.out.alloc HW5.out.size (.cells #[.int .i64 t.d, .int .i64 t.e, .int .i64 t.x, .int .i64 t.y, .int .i64 t.z, .int .i64 s] 64); have hpx : Ps (w5.alloc (.cells #[.int .i64 t.d, .int .i64 t.e, .int .i64 t.x, .int .i64 t.y, .int .i64 t.z, .int .i64 s] 64)) (some ⟨w5.heap.size, 0, none⟩) [(t, s)] := fun _ => ⟨w5.heap.size, 0, rfl, by simp, fun j u hj => by rw [Nat.zero_add]; exact (Row.cell (Row.made w5 64 (stepCells (t, s))) j).trans (by simpa [rowP, stepCells] using hj)⟩; clear c30 c31 c40 c41 c42 c43 c44 c60 c61 f60 f61; refine wpList_append_ps rfl _ _ rfl w0.heap.size v5 (0 + k) ([] ++ l.take k) rfl hox (some ⟨w5.heap.size, 0, none⟩) 1 1 [(t, s)] rfl rfl (by simp) hpx (by have := HAT.out.le; have := HL.out; omega) (hwx.size) ?_; intro v6 w6 hown6 hgr6; have hb6 := own_belowP hox hgr6 hwx hwx.size; have HW6 := Lib.hid hb6; have HO6 := Lib.hid hown6; clear hown6 hgr6 hb6 hpx hox hwx))
    have hr3 := HR.out.below HW6.out HR.out.lt; have hx4 := HX.out.below HW6.out; have hr6 := HZ.out.below HW6.out HZ.out.lt
    have c30 : w6.cell? ⟨w.heap.size, 0, none⟩ = some (.int .i64 d) := hr3.cell 0
    have c31 : w6.cell? ⟨w.heap.size, 1, none⟩ = some (.slice none l.length c) := hr3.cell 1
    obtain ⟨c40, c41, c42, c43, c44⟩ := hx4.cells5
    have c60 : w6.cell? ⟨w.heap.size + 1 + 1, 0, none⟩ = some (.int .i64 0) := hr6.cell 0
    have c61 : w6.cell? ⟨w.heap.size + 1 + 1, 1, none⟩ = some (.slice none 0 0) := hr6.cell 1
    have f60 : w6.frozen? ⟨w.heap.size + 1 + 1, 0, none⟩ = false := hr6.free 0
    have f61 : w6.frozen? ⟨w.heap.size + 1 + 1, 1, none⟩ = false := hr6.free 1
    clear hr3 hx4 hr6
    go_wp2_with fail
    clear c30 c31 c40 c41 c42 c43 c44 c60 c61 f60 f61
    obtain ⟨A1, hcut, hA1, hpsd⟩ := cut_any none c l (.inl ⟨rfl, HC0.out⟩) k (k : Int) (by omega) (by omega) H0.out.le
    have hdr : w6.drew = w6.drewN 1 := rfl
    obtain ⟨W, hW⟩ : ∃ W, w6.drew = W := ⟨_, rfl⟩
    have hwd : Below w0.heap.size w0 W := by rw [← hW]; exact HW6.out.drew
    have hod : W.ownsRow w0.heap.size 64 6 v6 (0 + k + 1) (rowP ([] ++ l.take k ++ [(t, s)])) := by rw [← hW]; exact HO6.out
    have hpw : Ps W none l := (H0.out.below (HB0.out.trans (hwd.mono HB0.out.size))).ps
    obtain ⟨v7, W7, hr7, ho7, hg7⟩ := append_ps_run W w0.heap.size v6 (0 + k + 1) ([] ++ l.take k ++ [(t, s)]) hod A1 (c - k) (l.drop k) hA1 (hpsd W hpw) (by rw [List.length_drop]; have := HL.out; omega) hwd.size 29
    rw [List.length_drop] at hr7
    have hw7 := own_belowP hod hg7 hwd hwd.size
    have hK : ([] ++ l.take k ++ [(t, s)]) ++ l.drop k = addC l t n := by
      have h1 := HRW.out k false HAT.out
      unfold addC
      rw [HS.out, ← h1]
      have h2 := HZZ.out
      simp at h2
      simp [rowM, h2]
    rw [hK] at ho7
    obtain ⟨K, hKe⟩ : ∃ K, addC l t n = K := ⟨_, rfl⟩
    rw [hKe] at ho7
    rw [hKe]
    obtain ⟨A7, c7, rfl, -⟩ := Rf.of_own ho7
    have hr3 := HR.out.below hw7 HR.out.lt; have hr6 := HZ.out.below hw7 HZ.out.lt
    have c60 : W7.cell? ⟨w.heap.size + 1 + 1, 0, none⟩ = some (.int .i64 0) := hr6.cell 0
    have c61 : W7.cell? ⟨w.heap.size + 1 + 1, 1, none⟩ = some (.slice none 0 0) := hr6.cell 1
    have f60 : W7.frozen? ⟨w.heap.size + 1 + 1, 0, none⟩ = false := hr6.free 0
    have f61 : W7.frozen? ⟨w.heap.size + 1 + 1, 1, none⟩ = false := hr6.free 1
    have HDR := Lib.hid hW; have HWD := Lib.hid hwd; have HR7 := Lib.hid hr7; have HO7 := Lib.hid ho7; have HW7 := Lib.hid hw7; have HCUT := Lib.hid hcut; have HR6 := Lib.hid hr6
    clear hW hwd hod hpw hr7 hg7 ho7 hw7 hcut hr3 hr6 hpsd hA1
    have hU : ∀ (b1 : Bool) (w' : World), w' = (if false = true then W else if b1 = true then W7 else W) → Below w0.heap.size w0 w' := fun b1 w' hw => by
      cases b1 with
      | true => have : w' = W7 := hw; subst this; exact HW7.out
      | false => have : w' = W := hw; subst this; exact HWD.out
    have HU := Lib.hid hU; clear hU
    refine Stage.wp_region (by kernel_rfl) (by kernel_rfl) (Stage.two 7 9 (fun b1 b2 w' => w' = if b2 then (W7.setCell ⟨w.heap.size + 1 + 1, 0, none⟩ (.int .i64 d)).setCell ⟨w.heap.size + 1 + 1, 1, none⟩ (.slice A7 K.length c7) else if b1 then W7 else W)) (Stage.two_start (by simp) (by simp) HDR.out) ?_
    refine Stage.wpSt_do (.pointer (some ⟨w.heap.size, 0, none⟩)) rfl (Stage.two_step (by kernel_rfl) (fun b w' hw => ?_)) ?_
    · exact at_of (by go_simp) hw
    go_simp
    refine Stage.wpSt_do (.int .i64 d) rfl (Stage.two_step (by kernel_rfl) (fun b w' hw => ?_)) ?_
    · exact Free.at_load _ _ rfl rfl (load_at HR.out.lt (HR.out.cell 0) w' (HU.out b w' hw)) hw
    go_simp
    refine Stage.wpSt_do v6 rfl (Stage.two_step (by kernel_rfl) (fun b w' hw => ?_)) ?_
    · exact at_of (by go_simp) hw
    go_simp
    refine Stage.wpSt_do (.pointer (some ⟨w.heap.size, 1, none⟩)) rfl (Stage.two_step (by kernel_rfl) (fun b w' hw => ?_)) ?_
    · exact at_of (by go_simp) hw
    go_simp
    refine Stage.wpSt_do (.slice none l.length c) rfl (Stage.two_step (by kernel_rfl) (fun b w' hw => ?_)) ?_
    · exact Free.at_load _ _ rfl rfl (load_sl HR.out w' (HU.out b w' hw)) hw
    go_simp
    refine Stage.wpSt_do (.int .i64 (k : Int)) rfl (Stage.two_step (by kernel_rfl) (fun b w' hw => ?_)) ?_
    · exact at_of (by go_simp) hw
    go_simp
    refine Stage.wpSt_do (.slice A1 (l.length - k) (c - k)) rfl (Stage.two_step (by kernel_rfl) (fun b w' hw => ?_)) ?_
    · exact at_cut _ _ _ rfl rfl rfl (HCUT.out w') hw
    go_simp
    refine Stage.wpSt_do (.slice A7 K.length c7) rfl (Stage.two_first (by decide) (by kernel_rfl) (fun w' hw => ?_)) ?_
    · have hw' : w' = W := hw
      clear hw; subst hw'
      exact at_append _ _ _ rfl rfl rfl rfl HR7.out rfl
    go_simp
    refine Stage.wpSt_do (.agg #[.int .i64 d, .slice A7 K.length c7]) rfl (Stage.two_step (by kernel_rfl) (fun b w' hw => ?_)) ?_
    · exact at_of (by go_simp) hw
    go_simp
    refine Stage.wpSt_do undef rfl (Stage.two_then (by decide) (by kernel_rfl) (fun w' hw => ?_)) ?_
    · have hw' : w' = W7 := hw
      clear hw; subst hw'
      exact at_skip (by go_simp) rfl
    go_simp
    refine Stage.wpSt_reads 1 (fun _ => True) (by kernel_rfl) (Stage.two_any (by simp) (by simp)) ?_
    simp only [List.take_succ_cons, List.take_zero, List.drop_succ_cons, List.drop_zero]
    repeat (go_big_quiet_step (fail))
    refine wpQuiet_nil (Stage.wpSt_nil (Stage.two_end ?_))
    intro w9 hw9
    have hw9 : w9 = (W7.setCell ⟨w.heap.size + 1 + 1, 0, none⟩ (.int .i64 d)).setCell ⟨w.heap.size + 1 + 1, 1, none⟩ (.slice A7 K.length c7) := hw9
    subst hw9
    clear c60 c61 f60 f61
    go_wp2_with fail
    refine bodyPost_ret (v := .tuple #[.agg #[.int .i64 d, .slice A7 K.length c7], .int .i64 0]) (two_results rfl _ _ _ 31 _ (0, 0) _ rfl ((HR6.out.put 0 _).put 1 _) Try.underlying31 rfl (by kernel_rfl) rfl) rfl ?_
    have hg6 : w.heap.size + 1 + 1 < w0.heap.size := HZ.out.lt
    have hbz := (below_setCell (below_setCell (HB0.out.trans (HW7.out.mono HB0.out.size)) (p := ⟨w.heap.size + 1 + 1, 0, none⟩) (by simp; omega) (.int .i64 d)) (p := ⟨w.heap.size + 1 + 1, 1, none⟩) (by simp; omega) (.slice A7 K.length c7))
    obtain ⟨A8, c8, e8, hrf⟩ := Rf.of_own (ownsRow_setCell_below (ownsRow_setCell_below HO7.out (a := ⟨w.heap.size + 1 + 1, 0, none⟩) hg6 (.int .i64 d)) (a := ⟨w.heap.size + 1 + 1, 1, none⟩) hg6 (.slice A7 K.length c7))
    rw [hKe]
    exact ⟨⟨A8, c8, by rw [e8], hrf⟩, hbz⟩
set_option maxHeartbeats 8000000 in
theorem radd_Enz {w : World}  {l : Cn} {c : Nat} {d : Int} (h : Rf w none c l) (hl : l.length ≤ 500) (hok : CnOk l) (t : St) (n : Int) (hR : t.R) (hd : t.d = d) (hn : Nr n) (hq0 : Nr (cnt l t)) (hc : Nr (cnt l t + n)) (hz : cnt l t + n = 0) :
    Calls Try.prog 14 #[.agg #[.int .i64 d, .slice none l.length c], t.val, .int .i64 n] w (RAdded w d (addC l t n) 0) := by
  have hB0 := (((Below.refl w.heap.size w).alloc (Nat.le_refl _) (.cells #[.int .i64 d, .slice none l.length c] 31)).alloc (by simp) (.cells #[.int .i64 t.d, .int .i64 t.e, .int .i64 t.x, .int .i64 t.y, .int .i64 t.z] 25)).alloc (by simp; omega) (.cells #[.int .i64 0, .slice none 0 0] 31)
  have hr3 : Row (((w.alloc (.cells #[.int .i64 d, .slice none l.length c] 31)).alloc (.cells #[.int .i64 t.d, .int .i64 t.e, .int .i64 t.x, .int .i64 t.y, .int .i64 t.z] 25)).alloc (.cells #[.int .i64 0, .slice none 0 0] 31)) w.heap.size 31 [.int .i64 d, .slice none l.length c] := Row.alloc (Row.alloc (Row.made w _ _) _) _
  have hx := (Holds.made (w.alloc (.cells #[.int .i64 d, .slice none l.length c] 31)) t).alloc (.cells #[.int .i64 0, .slice none 0 0] 31)
  have hr6 : Row (((w.alloc (.cells #[.int .i64 d, .slice none l.length c] 31)).alloc (.cells #[.int .i64 t.d, .int .i64 t.e, .int .i64 t.x, .int .i64 t.y, .int .i64 t.z] 25)).alloc (.cells #[.int .i64 0, .slice none 0 0] 31)) ((w.alloc (.cells #[.int .i64 d, .slice none l.length c] 31)).alloc (.cells #[.int .i64 t.d, .int .i64 t.e, .int .i64 t.x, .int .i64 t.y, .int .i64 t.z] 25)).heap.size 31 [.int .i64 0, .slice none 0 0] := Row.made _ _ _
  rw [size_alloc] at hx
  rw [size_alloc, size_alloc] at hr6
  have HIN := Lib.hid (in_is (decide_eq_true hn))
  have HSB := Lib.hid (show -3000000000000 ≤ cnt l t + n ∧ cnt l t + n ≤ 3000000000000 by unfold Nr at hq0 hn; omega)
  have hsum : IntKind.i64.wrap (cnt l t + n) = cnt l t + n := IntWalk.i64_in _ (by have := HSB.out; omega)
  obtain ⟨s, hs⟩ : ∃ s, cnt l t + n = s := ⟨_, rfl⟩
  rw [hs] at hc hsum
  have hok0 := hok
  have hr := right_is (decide_eq_true hR) (refRight_any t)
  have hdd : (t.d != d) = false := by simpa using hd
  have hpl := fun w' (hb : Below w.heap.size w w') => place_any none l c d t w' (h.below hb) (by omega)
  have hcn := fun w' (hb : Below w.heap.size w w') => refCount_any none l c d t w' (h.below hb) (by omega) hok
  obtain ⟨q, hq⟩ : ∃ q, cnt l t = q := ⟨_, rfl⟩
  rw [hq] at hcn
  have HIN2 := Lib.hid (in_is (decide_eq_true hc)); clear hn hc hq0
  have HS := Lib.hid hs
  rw [hq] at hs
  have hsum : IntKind.i64.wrap (q + n) = s := by rw [hs]; exact hsum
  rw [hq] at HSB
  have HRT := Lib.hid hr; have HPL := Lib.hid hpl; have HCN := Lib.hid hcn; have HQ := Lib.hid hq; have HOK := Lib.hid hok; have HRD := Lib.hid (And.intro hR hd); clear hr hpl hcn hq hok hR hd
  have H0 := Lib.hid h; have HB0 := Lib.hid hB0; have HR := Lib.hid hr3; have HX := Lib.hid hx; have HZ := Lib.hid hr6; clear hB0 hr3 hx hr6 h
  have hzz : (s != 0) = false := by rw [HS.out] at hz; simpa using hz
  have HRW := Lib.hid (fun (k : Nat) (b : Bool) (hat : AtK l t k b) => rowM_is l t k b s hok0 hat)
  have HC0 := Lib.hid (show c = 0 by rcases H0.out.at_ with ⟨_, e⟩ | ⟨g, e, _⟩; exact e; cases e)
  have HZZ := Lib.hid hzz; have HL := Lib.hid hl; clear hok0 hzz hz hl
  unfold St.val at *
  go_enter Try.func14, Try.ntmps14
  go_wp2_with fail
  generalize ((w.alloc (.cells #[.int .i64 d, .slice none l.length c] 31)).alloc (.cells #[.int .i64 t.d, .int .i64 t.e, .int .i64 t.x, .int .i64 t.y, .int .i64 t.z] 25)).alloc (.cells #[.int .i64 0, .slice none 0 0] 31) = w0 at *
  have r3 := HR.out.below (Below.refl _ w0) HR.out.lt; have x4 := HX.out.below (Below.refl _ w0); have r6 := HZ.out.below (Below.refl _ w0) HZ.out.lt
  have c30 : w0.cell? ⟨w.heap.size, 0, none⟩ = some (.int .i64 d) := r3.cell 0
  have c31 : w0.cell? ⟨w.heap.size, 1, none⟩ = some (.slice none l.length c) := r3.cell 1
  obtain ⟨c40, c41, c42, c43, c44⟩ := x4.cells5
  have c60 : w0.cell? ⟨w.heap.size + 1 + 1, 0, none⟩ = some (.int .i64 0) := r6.cell 0
  have c61 : w0.cell? ⟨w.heap.size + 1 + 1, 1, none⟩ = some (.slice none 0 0) := r6.cell 1
  have f60 : w0.frozen? ⟨w.heap.size + 1 + 1, 0, none⟩ = false := r6.free 0
  have f61 : w0.frozen? ⟨w.heap.size + 1 + 1, 1, none⟩ = false := r6.free 1
  go_wp2_with fail
  refine (HRT.out _).mono ?_; rintro e w1 ⟨rfl, hb1⟩
  clear c30 c31 c40 c41 c42 c43 c44 c60 c61 f60 f61
  have r3a := HR.out.below hb1 HR.out.lt; have x4a := HX.out.below hb1; have r6a := HZ.out.below hb1 HZ.out.lt
  have c30 : w1.cell? ⟨w.heap.size, 0, none⟩ = some (.int .i64 d) := r3a.cell 0
  have c31 : w1.cell? ⟨w.heap.size, 1, none⟩ = some (.slice none l.length c) := r3a.cell 1
  obtain ⟨c40, c41, c42, c43, c44⟩ := x4a.cells5
  have c60 : w1.cell? ⟨w.heap.size + 1 + 1, 0, none⟩ = some (.int .i64 0) := r6a.cell 0
  have c61 : w1.cell? ⟨w.heap.size + 1 + 1, 1, none⟩ = some (.slice none 0 0) := r6a.cell 1
  have f60 : w1.frozen? ⟨w.heap.size + 1 + 1, 0, none⟩ = false := r6a.free 0
  have f61 : w1.frozen? ⟨w.heap.size + 1 + 1, 1, none⟩ = false := r6a.free 1
  have HB1 := Lib.hid (HB0.out.trans (hb1.mono HB0.out.size)); have HW1 := Lib.hid hb1; clear r3 x4 r6 hb1
  have RS1 := Lib.hid (And.intro r3a (And.intro x4a r6a)); clear r3a x4a r6a
  have kk := HPL.out w1 HB1.out
  unfold St.val at kk
  have KK := Lib.hid kk; clear kk
  go_wp2_with fail
  refine (KK.out).mono ?_; rintro e w2 ⟨⟨k, b, rfl, hat⟩, hb2⟩
  clear c30 c31 c40 c41 c42 c43 c44 c60 c61 f60 f61
  have RS2 := Lib.hid (And.intro (RS1.out.1.below hb2 RS1.out.1.lt) (And.intro (RS1.out.2.1.below hb2) (RS1.out.2.2.below hb2 RS1.out.2.2.lt)))
  have HB2 := Lib.hid (HB1.out.trans (hb2.mono HB1.out.size)); have HW2 := Lib.hid (HW1.out.trans (hb2.mono HW1.out.size)); have HAT := Lib.hid hat; clear hb2 hat KK HPL
  have c30 : w2.cell? ⟨w.heap.size, 0, none⟩ = some (.int .i64 d) := RS2.out.1.cell 0
  have c31 : w2.cell? ⟨w.heap.size, 1, none⟩ = some (.slice none l.length c) := RS2.out.1.cell 1
  obtain ⟨c40, c41, c42, c43, c44⟩ := RS2.out.2.1.cells5
  have c60 : w2.cell? ⟨w.heap.size + 1 + 1, 0, none⟩ = some (.int .i64 0) := RS2.out.2.2.cell 0
  have c61 : w2.cell? ⟨w.heap.size + 1 + 1, 1, none⟩ = some (.slice none 0 0) := RS2.out.2.2.cell 1
  have f60 : w2.frozen? ⟨w.heap.size + 1 + 1, 0, none⟩ = false := RS2.out.2.2.free 0
  have f61 : w2.frozen? ⟨w.heap.size + 1 + 1, 1, none⟩ = false := RS2.out.2.2.free 1
  dsimp only
  go_wp2_with fail
  refine (HIN.out _).mono ?_; rintro e w3 ⟨rfl, rfl⟩
  have kk := HCN.out w2 HB2.out
  unfold St.val at kk
  have KK := Lib.hid kk; clear kk
  go_wp2_with fail
  refine (KK.out).mono ?_; rintro e w3 ⟨rfl, hb3⟩
  clear c30 c31 c40 c41 c42 c43 c44 c60 c61 f60 f61
  have RS3 := Lib.hid (And.intro (RS2.out.1.below hb3 RS2.out.1.lt) (And.intro (RS2.out.2.1.below hb3) (RS2.out.2.2.below hb3 RS2.out.2.2.lt)))
  have HB3 := Lib.hid (HB2.out.trans (hb3.mono HB2.out.size)); have HW3 := Lib.hid (HW2.out.trans (hb3.mono HW2.out.size)); clear hb3 RS2 HB2
  clear KK
  have c30 : w3.cell? ⟨w.heap.size, 0, none⟩ = some (.int .i64 d) := RS3.out.1.cell 0
  have c31 : w3.cell? ⟨w.heap.size, 1, none⟩ = some (.slice none l.length c) := RS3.out.1.cell 1
  obtain ⟨c40, c41, c42, c43, c44⟩ := RS3.out.2.1.cells5
  have c60 : w3.cell? ⟨w.heap.size + 1 + 1, 0, none⟩ = some (.int .i64 0) := RS3.out.2.2.cell 0
  have c61 : w3.cell? ⟨w.heap.size + 1 + 1, 1, none⟩ = some (.slice none 0 0) := RS3.out.2.2.cell 1
  have f60 : w3.frozen? ⟨w.heap.size + 1 + 1, 0, none⟩ = false := RS3.out.2.2.free 0
  have f61 : w3.frozen? ⟨w.heap.size + 1 + 1, 1, none⟩ = false := RS3.out.2.2.free 1
  go_wp2_with fail
  refine (HIN2.out _).mono ?_; rintro e w4 ⟨rfl, rfl⟩
  go_wp2_with fail
  clear c30 c31 c40 c41 c42 c43 c44 c60 c61 f60 f61
  have c30 : w3.cell? ⟨w.heap.size, 0, none⟩ = some (.int .i64 d) := RS3.out.1.cell 0
  have c31 : w3.cell? ⟨w.heap.size, 1, none⟩ = some (.slice none l.length c) := RS3.out.1.cell 1
  obtain ⟨c40, c41, c42, c43, c44⟩ := RS3.out.2.1.cells5
  have c60 : w3.cell? ⟨w.heap.size + 1 + 1, 0, none⟩ = some (.int .i64 0) := RS3.out.2.2.cell 0
  have c61 : w3.cell? ⟨w.heap.size + 1 + 1, 1, none⟩ = some (.slice none 0 0) := RS3.out.2.2.cell 1
  have f60 : w3.frozen? ⟨w.heap.size + 1 + 1, 0, none⟩ = false := RS3.out.2.2.free 0
  have f61 : w3.frozen? ⟨w.heap.size + 1 + 1, 1, none⟩ = false := RS3.out.2.2.free 1
  have kk := HCN.out w3 HB3.out
  unfold St.val at kk
  have KK := Lib.hid kk; clear kk
  go_wp2_with fail
  refine (KK.out).mono ?_; rintro e w4 ⟨rfl, hb4⟩
  clear c30 c31 c40 c41 c42 c43 c44 c60 c61 f60 f61
  have RS4 := Lib.hid (And.intro (RS3.out.1.below hb4 RS3.out.1.lt) (And.intro (RS3.out.2.1.below hb4) (RS3.out.2.2.below hb4 RS3.out.2.2.lt)))
  have HB4 := Lib.hid (HB3.out.trans (hb4.mono HB3.out.size)); have HW4 := Lib.hid (HW3.out.trans (hb4.mono HW3.out.size)); clear hb4 RS3 HB3
  clear KK HCN
  have hr3 := HR.out.below HW4.out HR.out.lt; have hx4 := HX.out.below HW4.out; have hr6 := HZ.out.below HW4.out HZ.out.lt
  have c30 : w4.cell? ⟨w.heap.size, 0, none⟩ = some (.int .i64 d) := hr3.cell 0
  have c31 : w4.cell? ⟨w.heap.size, 1, none⟩ = some (.slice none l.length c) := hr3.cell 1
  obtain ⟨c40, c41, c42, c43, c44⟩ := hx4.cells5
  have c60 : w4.cell? ⟨w.heap.size + 1 + 1, 0, none⟩ = some (.int .i64 0) := hr6.cell 0
  have c61 : w4.cell? ⟨w.heap.size + 1 + 1, 1, none⟩ = some (.slice none 0 0) := hr6.cell 1
  have f60 : w4.frozen? ⟨w.heap.size + 1 + 1, 0, none⟩ = false := hr6.free 0
  have f61 : w4.frozen? ⟨w.heap.size + 1 + 1, 1, none⟩ = false := hr6.free 1
  clear hr3 hx4 hr6
  have hkl := HAT.out.le
  have hkc : (k : Int) ≤ (c : Int) := by have := H0.out.le; omega
  have hk0 : (0 : Int) ≤ (k : Int) := by omega
  have hlc : (l.length : Int) ≤ (c : Int) := by have := H0.out.le; omega
  dsimp only
  have hz' := HZZ.out
  cases b with
  | true =>
    have hkl1 : k < l.length := by obtain ⟨p, hp, _⟩ := HAT.out.here.1 rfl; exact (List.getElem?_eq_some_iff.1 hp).1
    have hkw : IntKind.i64.wrap ((k : Int) + 1) = (k : Int) + 1 := IntWalk.i64_in _ (by have := HL.out; omega)
    go_wp2_with (at_builtin; first
      | (have hps := ((H0.out.below HB4.out).ps).take k; have hle4 : w0.heap.size ≤ w4.heap.size := HW4.out.size; clear c30 c31 c40 c41 c42 c43 c44 c60 c61 f60 f61; refine wpList_append_ps rfl _ _ rfl w0.heap.size _ 0 [] rfl (World.ownsRow_nil _ _ _ _) none c k (l.take k) rfl (by rw [List.length_take]; have := HAT.out.le; omega) (by intro _; exact HC0.out) hps (by have := HAT.out.le; have := HL.out; omega) hle4 ?_; intro v5 w5 hown5 hgr5; have hb5 := own_belowP (World.ownsRow_nil _ _ _ _) hgr5 HW4.out hle4; have HW5 := Lib.hid hb5; have HO5 := Lib.hid hown5; clear hown5 hgr5 hb5 hps; have hr3 := HR.out.below HW5.out HR.out.lt; have hx4 := HX.out.below HW5.out; have hr6 := HZ.out.below HW5.out HZ.out.lt; have c30 : w5.cell? ⟨w.heap.size, 0, none⟩ = some (.int .i64 d) := hr3.cell 0; have c31 : w5.cell? ⟨w.heap.size, 1, none⟩ = some (.slice none l.length c) := hr3.cell 1; obtain ⟨c40, c41, c42, c43, c44⟩ := hx4.cells5; have c60 : w5.cell? ⟨w.heap.size + 1 + 1, 0, none⟩ = some (.int .i64 0) := hr6.cell 0; have c61 : w5.cell? ⟨w.heap.size + 1 + 1, 1, none⟩ = some (.slice none 0 0) := hr6.cell 1; have f60 : w5.frozen? ⟨w.heap.size + 1 + 1, 0, none⟩ = false := hr6.free 0; have f61 : w5.frozen? ⟨w.heap.size + 1 + 1, 1, none⟩ = false := hr6.free 1; clear hr3 hx4 hr6))
    have hr3 := HR.out.below HW5.out HR.out.lt; have hx4 := HX.out.below HW5.out; have hr6 := HZ.out.below HW5.out HZ.out.lt
    have c30 : w5.cell? ⟨w.heap.size, 0, none⟩ = some (.int .i64 d) := hr3.cell 0
    have c31 : w5.cell? ⟨w.heap.size, 1, none⟩ = some (.slice none l.length c) := hr3.cell 1
    obtain ⟨c40, c41, c42, c43, c44⟩ := hx4.cells5
    have c60 : w5.cell? ⟨w.heap.size + 1 + 1, 0, none⟩ = some (.int .i64 0) := hr6.cell 0
    have c61 : w5.cell? ⟨w.heap.size + 1 + 1, 1, none⟩ = some (.slice none 0 0) := hr6.cell 1
    have f60 : w5.frozen? ⟨w.heap.size + 1 + 1, 0, none⟩ = false := hr6.free 0
    have f61 : w5.frozen? ⟨w.heap.size + 1 + 1, 1, none⟩ = false := hr6.free 1
    clear hr3 hx4 hr6
    go_wp2_with fail
    clear c30 c31 c40 c41 c42 c43 c44 c60 c61 f60 f61
    obtain ⟨A1, hcut, hA1, hpsd⟩ := cut_any none c l (.inl ⟨rfl, HC0.out⟩) (k + 1) ((k : Int) + 1) (by omega) (by omega) H0.out.le
    have hdr : w5.drew = w5.drewN 1 := rfl
    obtain ⟨W, hW⟩ : ∃ W, w5.drew = W := ⟨_, rfl⟩
    have hwd : Below w0.heap.size w0 W := by rw [← hW]; exact HW5.out.drew
    have hod : W.ownsRow w0.heap.size 64 6 v5 (0 + k) (rowP ([] ++ l.take k)) := by rw [← hW]; exact HO5.out
    have hpw : Ps W none l := (H0.out.below (HB0.out.trans (hwd.mono HB0.out.size))).ps
    obtain ⟨v7, W7, hr7, ho7, hg7⟩ := append_ps_run W w0.heap.size v5 (0 + k) ([] ++ l.take k) hod A1 (c - (k + 1)) (l.drop (k + 1)) hA1 (hpsd W hpw) (by rw [List.length_drop]; have := HL.out; omega) hwd.size 29
    rw [List.length_drop] at hr7
    have hw7 := own_belowP hod hg7 hwd hwd.size
    have hK : ([] ++ l.take k) ++ l.drop (k + 1) = addC l t n := by
      have h1 := HRW.out k true HAT.out
      unfold addC
      rw [HS.out, ← h1]
      have h2 := HZZ.out
      simp at h2
      simp [rowM, h2]
    rw [hK] at ho7
    obtain ⟨K, hKe⟩ : ∃ K, addC l t n = K := ⟨_, rfl⟩
    rw [hKe] at ho7
    rw [hKe]
    obtain ⟨A7, c7, rfl, -⟩ := Rf.of_own ho7
    have hr3 := HR.out.below hw7 HR.out.lt; have hr6 := HZ.out.below hw7 HZ.out.lt
    have c60 : W7.cell? ⟨w.heap.size + 1 + 1, 0, none⟩ = some (.int .i64 0) := hr6.cell 0
    have c61 : W7.cell? ⟨w.heap.size + 1 + 1, 1, none⟩ = some (.slice none 0 0) := hr6.cell 1
    have f60 : W7.frozen? ⟨w.heap.size + 1 + 1, 0, none⟩ = false := hr6.free 0
    have f61 : W7.frozen? ⟨w.heap.size + 1 + 1, 1, none⟩ = false := hr6.free 1
    have HDR := Lib.hid hW; have HWD := Lib.hid hwd; have HR7 := Lib.hid hr7; have HO7 := Lib.hid ho7; have HW7 := Lib.hid hw7; have HCUT := Lib.hid hcut; have HR6 := Lib.hid hr6
    clear hW hwd hod hpw hr7 hg7 ho7 hw7 hcut hr3 hr6 hpsd hA1
    have hU : ∀ (b1 : Bool) (w' : World), w' = (if false = true then W else if b1 = true then W7 else W) → Below w0.heap.size w0 w' := fun b1 w' hw => by
      cases b1 with
      | true => have : w' = W7 := hw; subst this; exact HW7.out
      | false => have : w' = W := hw; subst this; exact HWD.out
    have HU := Lib.hid hU; clear hU
    refine Stage.wp_region (by kernel_rfl) (by kernel_rfl) (Stage.two 7 9 (fun b1 b2 w' => w' = if b2 then (W7.setCell ⟨w.heap.size + 1 + 1, 0, none⟩ (.int .i64 d)).setCell ⟨w.heap.size + 1 + 1, 1, none⟩ (.slice A7 K.length c7) else if b1 then W7 else W)) (Stage.two_start (by simp) (by simp) HDR.out) ?_
    refine Stage.wpSt_do (.pointer (some ⟨w.heap.size, 0, none⟩)) rfl (Stage.two_step (by kernel_rfl) (fun b w' hw => ?_)) ?_
    · exact at_of (by go_simp) hw
    go_simp
    refine Stage.wpSt_do (.int .i64 d) rfl (Stage.two_step (by kernel_rfl) (fun b w' hw => ?_)) ?_
    · exact Free.at_load _ _ rfl rfl (load_at HR.out.lt (HR.out.cell 0) w' (HU.out b w' hw)) hw
    go_simp
    refine Stage.wpSt_do v5 rfl (Stage.two_step (by kernel_rfl) (fun b w' hw => ?_)) ?_
    · exact at_of (by go_simp) hw
    go_simp
    refine Stage.wpSt_do (.pointer (some ⟨w.heap.size, 1, none⟩)) rfl (Stage.two_step (by kernel_rfl) (fun b w' hw => ?_)) ?_
    · exact at_of (by go_simp) hw
    go_simp
    refine Stage.wpSt_do (.slice none l.length c) rfl (Stage.two_step (by kernel_rfl) (fun b w' hw => ?_)) ?_
    · exact Free.at_load _ _ rfl rfl (load_sl HR.out w' (HU.out b w' hw)) hw
    go_simp
    refine Stage.wpSt_do (.int .i64 ((k : Int) + 1)) rfl (Stage.two_step (by kernel_rfl) (fun b w' hw => ?_)) ?_
    · exact at_of (by go_simp) hw
    go_simp
    refine Stage.wpSt_do (.slice A1 (l.length - (k + 1)) (c - (k + 1))) rfl (Stage.two_step (by kernel_rfl) (fun b w' hw => ?_)) ?_
    · exact at_cut _ _ _ rfl rfl rfl (HCUT.out w') hw
    go_simp
    refine Stage.wpSt_do (.slice A7 K.length c7) rfl (Stage.two_first (by decide) (by kernel_rfl) (fun w' hw => ?_)) ?_
    · have hw' : w' = W := hw
      clear hw; subst hw'
      exact at_append _ _ _ rfl rfl rfl rfl HR7.out rfl
    go_simp
    refine Stage.wpSt_do (.agg #[.int .i64 d, .slice A7 K.length c7]) rfl (Stage.two_step (by kernel_rfl) (fun b w' hw => ?_)) ?_
    · exact at_of (by go_simp) hw
    go_simp
    refine Stage.wpSt_do undef rfl (Stage.two_then (by decide) (by kernel_rfl) (fun w' hw => ?_)) ?_
    · have hw' : w' = W7 := hw
      clear hw; subst hw'
      exact at_skip (by go_simp) rfl
    go_simp
    refine Stage.wpSt_reads 1 (fun _ => True) (by kernel_rfl) (Stage.two_any (by simp) (by simp)) ?_
    simp only [List.take_succ_cons, List.take_zero, List.drop_succ_cons, List.drop_zero]
    repeat (go_big_quiet_step (fail))
    refine wpQuiet_nil (Stage.wpSt_nil (Stage.two_end ?_))
    intro w9 hw9
    have hw9 : w9 = (W7.setCell ⟨w.heap.size + 1 + 1, 0, none⟩ (.int .i64 d)).setCell ⟨w.heap.size + 1 + 1, 1, none⟩ (.slice A7 K.length c7) := hw9
    subst hw9
    clear c60 c61 f60 f61
    go_wp2_with fail
    refine bodyPost_ret (v := .tuple #[.agg #[.int .i64 d, .slice A7 K.length c7], .int .i64 0]) (two_results rfl _ _ _ 31 _ (0, 0) _ rfl ((HR6.out.put 0 _).put 1 _) Try.underlying31 rfl (by kernel_rfl) rfl) rfl ?_
    have hg6 : w.heap.size + 1 + 1 < w0.heap.size := HZ.out.lt
    have hbz := (below_setCell (below_setCell (HB0.out.trans (HW7.out.mono HB0.out.size)) (p := ⟨w.heap.size + 1 + 1, 0, none⟩) (by simp; omega) (.int .i64 d)) (p := ⟨w.heap.size + 1 + 1, 1, none⟩) (by simp; omega) (.slice A7 K.length c7))
    obtain ⟨A8, c8, e8, hrf⟩ := Rf.of_own (ownsRow_setCell_below (ownsRow_setCell_below HO7.out (a := ⟨w.heap.size + 1 + 1, 0, none⟩) hg6 (.int .i64 d)) (a := ⟨w.heap.size + 1 + 1, 1, none⟩) hg6 (.slice A7 K.length c7))
    rw [hKe]
    exact ⟨⟨A8, c8, by rw [e8], hrf⟩, hbz⟩
  | false =>
    go_wp2_with (at_builtin; first
      | (have hps := ((H0.out.below HB4.out).ps).take k; have hle4 : w0.heap.size ≤ w4.heap.size := HW4.out.size; clear c30 c31 c40 c41 c42 c43 c44 c60 c61 f60 f61; refine wpList_append_ps rfl _ _ rfl w0.heap.size _ 0 [] rfl (World.ownsRow_nil _ _ _ _) none c k (l.take k) rfl (by rw [List.length_take]; have := HAT.out.le; omega) (by intro _; exact HC0.out) hps (by have := HAT.out.le; have := HL.out; omega) hle4 ?_; intro v5 w5 hown5 hgr5; have hb5 := own_belowP (World.ownsRow_nil _ _ _ _) hgr5 HW4.out hle4; have HW5 := Lib.hid hb5; have HO5 := Lib.hid hown5; clear hown5 hgr5 hb5 hps; have hr3 := HR.out.below HW5.out HR.out.lt; have hx4 := HX.out.below HW5.out; have hr6 := HZ.out.below HW5.out HZ.out.lt; have c30 : w5.cell? ⟨w.heap.size, 0, none⟩ = some (.int .i64 d) := hr3.cell 0; have c31 : w5.cell? ⟨w.heap.size, 1, none⟩ = some (.slice none l.length c) := hr3.cell 1; obtain ⟨c40, c41, c42, c43, c44⟩ := hx4.cells5; have c60 : w5.cell? ⟨w.heap.size + 1 + 1, 0, none⟩ = some (.int .i64 0) := hr6.cell 0; have c61 : w5.cell? ⟨w.heap.size + 1 + 1, 1, none⟩ = some (.slice none 0 0) := hr6.cell 1; have f60 : w5.frozen? ⟨w.heap.size + 1 + 1, 0, none⟩ = false := hr6.free 0; have f61 : w5.frozen? ⟨w.heap.size + 1 + 1, 1, none⟩ = false := hr6.free 1; clear hr3 hx4 hr6))
    have hr3 := HR.out.below HW5.out HR.out.lt; have hx4 := HX.out.below HW5.out; have hr6 := HZ.out.below HW5.out HZ.out.lt
    have c30 : w5.cell? ⟨w.heap.size, 0, none⟩ = some (.int .i64 d) := hr3.cell 0
    have c31 : w5.cell? ⟨w.heap.size, 1, none⟩ = some (.slice none l.length c) := hr3.cell 1
    obtain ⟨c40, c41, c42, c43, c44⟩ := hx4.cells5
    have c60 : w5.cell? ⟨w.heap.size + 1 + 1, 0, none⟩ = some (.int .i64 0) := hr6.cell 0
    have c61 : w5.cell? ⟨w.heap.size + 1 + 1, 1, none⟩ = some (.slice none 0 0) := hr6.cell 1
    have f60 : w5.frozen? ⟨w.heap.size + 1 + 1, 0, none⟩ = false := hr6.free 0
    have f61 : w5.frozen? ⟨w.heap.size + 1 + 1, 1, none⟩ = false := hr6.free 1
    clear hr3 hx4 hr6
    go_wp2_with fail
    clear c30 c31 c40 c41 c42 c43 c44 c60 c61 f60 f61
    obtain ⟨A1, hcut, hA1, hpsd⟩ := cut_any none c l (.inl ⟨rfl, HC0.out⟩) k (k : Int) (by omega) (by omega) H0.out.le
    have hdr : w5.drew = w5.drewN 1 := rfl
    obtain ⟨W, hW⟩ : ∃ W, w5.drew = W := ⟨_, rfl⟩
    have hwd : Below w0.heap.size w0 W := by rw [← hW]; exact HW5.out.drew
    have hod : W.ownsRow w0.heap.size 64 6 v5 (0 + k) (rowP ([] ++ l.take k)) := by rw [← hW]; exact HO5.out
    have hpw : Ps W none l := (H0.out.below (HB0.out.trans (hwd.mono HB0.out.size))).ps
    obtain ⟨v7, W7, hr7, ho7, hg7⟩ := append_ps_run W w0.heap.size v5 (0 + k) ([] ++ l.take k) hod A1 (c - k) (l.drop k) hA1 (hpsd W hpw) (by rw [List.length_drop]; have := HL.out; omega) hwd.size 29
    rw [List.length_drop] at hr7
    have hw7 := own_belowP hod hg7 hwd hwd.size
    have hK : ([] ++ l.take k) ++ l.drop k = addC l t n := by
      have h1 := HRW.out k false HAT.out
      unfold addC
      rw [HS.out, ← h1]
      have h2 := HZZ.out
      simp at h2
      simp [rowM, h2]
    rw [hK] at ho7
    obtain ⟨K, hKe⟩ : ∃ K, addC l t n = K := ⟨_, rfl⟩
    rw [hKe] at ho7
    rw [hKe]
    obtain ⟨A7, c7, rfl, -⟩ := Rf.of_own ho7
    have hr3 := HR.out.below hw7 HR.out.lt; have hr6 := HZ.out.below hw7 HZ.out.lt
    have c60 : W7.cell? ⟨w.heap.size + 1 + 1, 0, none⟩ = some (.int .i64 0) := hr6.cell 0
    have c61 : W7.cell? ⟨w.heap.size + 1 + 1, 1, none⟩ = some (.slice none 0 0) := hr6.cell 1
    have f60 : W7.frozen? ⟨w.heap.size + 1 + 1, 0, none⟩ = false := hr6.free 0
    have f61 : W7.frozen? ⟨w.heap.size + 1 + 1, 1, none⟩ = false := hr6.free 1
    have HDR := Lib.hid hW; have HWD := Lib.hid hwd; have HR7 := Lib.hid hr7; have HO7 := Lib.hid ho7; have HW7 := Lib.hid hw7; have HCUT := Lib.hid hcut; have HR6 := Lib.hid hr6
    clear hW hwd hod hpw hr7 hg7 ho7 hw7 hcut hr3 hr6 hpsd hA1
    have hU : ∀ (b1 : Bool) (w' : World), w' = (if false = true then W else if b1 = true then W7 else W) → Below w0.heap.size w0 w' := fun b1 w' hw => by
      cases b1 with
      | true => have : w' = W7 := hw; subst this; exact HW7.out
      | false => have : w' = W := hw; subst this; exact HWD.out
    have HU := Lib.hid hU; clear hU
    refine Stage.wp_region (by kernel_rfl) (by kernel_rfl) (Stage.two 7 9 (fun b1 b2 w' => w' = if b2 then (W7.setCell ⟨w.heap.size + 1 + 1, 0, none⟩ (.int .i64 d)).setCell ⟨w.heap.size + 1 + 1, 1, none⟩ (.slice A7 K.length c7) else if b1 then W7 else W)) (Stage.two_start (by simp) (by simp) HDR.out) ?_
    refine Stage.wpSt_do (.pointer (some ⟨w.heap.size, 0, none⟩)) rfl (Stage.two_step (by kernel_rfl) (fun b w' hw => ?_)) ?_
    · exact at_of (by go_simp) hw
    go_simp
    refine Stage.wpSt_do (.int .i64 d) rfl (Stage.two_step (by kernel_rfl) (fun b w' hw => ?_)) ?_
    · exact Free.at_load _ _ rfl rfl (load_at HR.out.lt (HR.out.cell 0) w' (HU.out b w' hw)) hw
    go_simp
    refine Stage.wpSt_do v5 rfl (Stage.two_step (by kernel_rfl) (fun b w' hw => ?_)) ?_
    · exact at_of (by go_simp) hw
    go_simp
    refine Stage.wpSt_do (.pointer (some ⟨w.heap.size, 1, none⟩)) rfl (Stage.two_step (by kernel_rfl) (fun b w' hw => ?_)) ?_
    · exact at_of (by go_simp) hw
    go_simp
    refine Stage.wpSt_do (.slice none l.length c) rfl (Stage.two_step (by kernel_rfl) (fun b w' hw => ?_)) ?_
    · exact Free.at_load _ _ rfl rfl (load_sl HR.out w' (HU.out b w' hw)) hw
    go_simp
    refine Stage.wpSt_do (.int .i64 (k : Int)) rfl (Stage.two_step (by kernel_rfl) (fun b w' hw => ?_)) ?_
    · exact at_of (by go_simp) hw
    go_simp
    refine Stage.wpSt_do (.slice A1 (l.length - k) (c - k)) rfl (Stage.two_step (by kernel_rfl) (fun b w' hw => ?_)) ?_
    · exact at_cut _ _ _ rfl rfl rfl (HCUT.out w') hw
    go_simp
    refine Stage.wpSt_do (.slice A7 K.length c7) rfl (Stage.two_first (by decide) (by kernel_rfl) (fun w' hw => ?_)) ?_
    · have hw' : w' = W := hw
      clear hw; subst hw'
      exact at_append _ _ _ rfl rfl rfl rfl HR7.out rfl
    go_simp
    refine Stage.wpSt_do (.agg #[.int .i64 d, .slice A7 K.length c7]) rfl (Stage.two_step (by kernel_rfl) (fun b w' hw => ?_)) ?_
    · exact at_of (by go_simp) hw
    go_simp
    refine Stage.wpSt_do undef rfl (Stage.two_then (by decide) (by kernel_rfl) (fun w' hw => ?_)) ?_
    · have hw' : w' = W7 := hw
      clear hw; subst hw'
      exact at_skip (by go_simp) rfl
    go_simp
    refine Stage.wpSt_reads 1 (fun _ => True) (by kernel_rfl) (Stage.two_any (by simp) (by simp)) ?_
    simp only [List.take_succ_cons, List.take_zero, List.drop_succ_cons, List.drop_zero]
    repeat (go_big_quiet_step (fail))
    refine wpQuiet_nil (Stage.wpSt_nil (Stage.two_end ?_))
    intro w9 hw9
    have hw9 : w9 = (W7.setCell ⟨w.heap.size + 1 + 1, 0, none⟩ (.int .i64 d)).setCell ⟨w.heap.size + 1 + 1, 1, none⟩ (.slice A7 K.length c7) := hw9
    subst hw9
    clear c60 c61 f60 f61
    go_wp2_with fail
    refine bodyPost_ret (v := .tuple #[.agg #[.int .i64 d, .slice A7 K.length c7], .int .i64 0]) (two_results rfl _ _ _ 31 _ (0, 0) _ rfl ((HR6.out.put 0 _).put 1 _) Try.underlying31 rfl (by kernel_rfl) rfl) rfl ?_
    have hg6 : w.heap.size + 1 + 1 < w0.heap.size := HZ.out.lt
    have hbz := (below_setCell (below_setCell (HB0.out.trans (HW7.out.mono HB0.out.size)) (p := ⟨w.heap.size + 1 + 1, 0, none⟩) (by simp; omega) (.int .i64 d)) (p := ⟨w.heap.size + 1 + 1, 1, none⟩) (by simp; omega) (.slice A7 K.length c7))
    obtain ⟨A8, c8, e8, hrf⟩ := Rf.of_own (ownsRow_setCell_below (ownsRow_setCell_below HO7.out (a := ⟨w.heap.size + 1 + 1, 0, none⟩) hg6 (.int .i64 d)) (a := ⟨w.heap.size + 1 + 1, 1, none⟩) hg6 (.slice A7 K.length c7))
    rw [hKe]
    exact ⟨⟨A8, c8, by rw [e8], hrf⟩, hbz⟩
theorem refAdd_any {w : World} {A : Option Addr} {l : Cn} {c : Nat} {d : Int} (h : Rf w A c l) (hl : l.length ≤ 500) (hok : CnOk l) (hq : ∀ t, Nr (cnt l t)) (t : St) (n : Int) :
    Calls Try.prog 14 #[.agg #[.int .i64 d, .slice A l.length c], t.val, .int .i64 n] w (RAdded w d (putC d l t n) (errC d l t n)) := by
  by_cases hR : t.R
  · by_cases hd : t.d = d
    · by_cases hn : Nr n
      · by_cases hc : Nr (cnt l t + n)
        · have e1 : errC d l t n = 0 := by unfold errC; rw [if_pos ⟨hR, hd⟩, if_pos ⟨hn, hc⟩]
          have e2 : putC d l t n = addC l t n := by unfold putC; rw [if_pos ⟨⟨hR, hd⟩, hn, hc⟩]
          rw [e1, e2]
          rcases h.at_ with ⟨rfl, -⟩ | ⟨g, rfl, -⟩
          · by_cases hz : cnt l t + n = 0
            · exact radd_Enz h hl hok t n hR hd hn (hq t) hc hz
            · exact radd_Eny h hl hok t n hR hd hn (hq t) hc hz
          · by_cases hz : cnt l t + n = 0
            · exact radd_Esz h hl hok t n hR hd hn (hq t) hc hz
            · exact radd_Esy h hl hok t n hR hd hn (hq t) hc hz
        · have e1 : errC d l t n = 3 := by unfold errC; rw [if_pos ⟨hR, hd⟩, if_neg fun h => hc h.2]
          have e2 : putC d l t n = l := by unfold putC; rw [if_neg fun h => hc h.2.2]
          rw [e1, e2]; exact radd_D h hl hok t n hR hd hn (hq t) hc
      · have e1 : errC d l t n = 3 := by unfold errC; rw [if_pos ⟨hR, hd⟩, if_neg fun h => hn h.1]
        have e2 : putC d l t n = l := by unfold putC; rw [if_neg fun h => hn h.2.1]
        rw [e1, e2]; exact radd_C h hl hok t n hR hd hn
    · have e1 : errC d l t n = 50 := by unfold errC; rw [if_neg fun h => hd h.2]
      have e2 : putC d l t n = l := by unfold putC; rw [if_neg fun h => hd h.1.2]
      rw [e1, e2]; exact radd_B h hl hok t n hR hd
  · have e1 : errC d l t n = 50 := by unfold errC; rw [if_neg fun h => hR h.1]
    have e2 : putC d l t n = l := by unfold putC; rw [if_neg fun h => hR h.1.1]
    rw [e1, e2]; exact radd_A h hl hok t n hR
end

section
open Go.ChangeShapes Go.WideShapes Go.ChangeAt Go.RowKit Go.BigFrame Go.Shelf
set_option maxRecDepth 100000
/-- the counts behind the additions of l -/
noncomputable def playC (d : Int) (l : Cn) : Cn := l.foldl (fun L p => putC d L p.1 p.2) []
theorem playC_snoc {d : Int} {l : Cn} {p : St × Int} : playC d (l ++ [p]) = putC d (playC d l) p.1 p.2 := by unfold playC; rw [List.foldl_append]; rfl
theorem Ct.lower {w : World} {base base' b N : Nat} {m : Option Nat} {d : Int} {L : Cn} (h : Ct w base b m N d L) (hb : base' ≤ base) : Ct w base' b m N d L :=
  ⟨h.row, h.of, ⟨Nat.le_trans hb h.lo.1, fun k hk => Nat.le_trans hb (h.lo.2 k hk)⟩, h.ok, h.even⟩
theorem touch_two (w : World) (g : Nat) (u v : Value) : Touch (fun k => k = g) w ((w.setCell ⟨g, 0, none⟩ u).setCell ⟨g, 1, none⟩ v) :=
  Touch.setCell (F := fun k => k = g) (p := ⟨g, 1, none⟩) (Touch.setCell (F := fun k => k = g) (p := ⟨g, 0, none⟩) (Touch.refl _ w) (.inl rfl) u) (.inl rfl) v
/-- the counts, a copy, the document's counts in their box, the time in its -/
structure Pk (w W : World) (b1 : Nat) (m : Option Nat) (N b2 : Nat) (m2 : Option Nat) (M gr ga : Nat) (d : Int) (t : St) (A : Option Addr) (c : Nat) (L K J : Cn) : Prop where
  bw : Below w.heap.size w W
  c1 : Ct W w.heap.size b1 m N d L
  c2 : Ct W w.heap.size b2 m2 M d K
  ap : Apart b1 m b2 m2
  row : Row W gr 31 [.int .i64 d, .slice A J.length c]
  rf : Rf W A c J
  tt : Holds W ga t
section
variable {w W W' : World} {b1 N b2 M gr ga c : Nat} {m m2 : Option Nat} {d : Int} {t : St} {A : Option Addr} {L K J : Cn}
theorem Pk.below (h : Pk w W b1 m N b2 m2 M gr ga d t A c L K J) (hb : Below W.heap.size W W') : Pk w W' b1 m N b2 m2 M gr ga d t A c L K J :=
  ⟨h.bw.trans (hb.mono h.bw.size), h.c1.below hb, h.c2.below hb, h.ap, h.row.below hb h.row.lt, h.rf.below hb, h.tt.below hb⟩
theorem Rf.off {F : Nat → Prop} (h : Rf W A c J) (ht : Touch (AtC b1 m) W W') (hc : Ct W w.heap.size b1 m N d L) : Rf W' A c J :=
  h.touch ht fun g r _ hr => hc.off hr (by decide)
theorem Pk.add1 (h : Pk w W b1 m N b2 m2 M gr ga d t A c L K J) {m' : Option Nat} {L' : Cn} {N' : Nat} (hn : Ct W' w.heap.size b1 m' N' d L') (ht : Touch (AtC b1 m) W W') (hm : m' = m ∨ ∃ k, m' = some k ∧ W.heap.size ≤ k) : Pk w W' b1 m' N' b2 m2 M gr ga d t A c L' K J :=
  ⟨h.c1.out h.bw ht, hn, h.c2.other h.c1 h.ap.symm ht, (h.ap.symm.add h.c2 hm).symm, h.row.touch ht (h.c1.off h.row (by decide)), h.rf.touch ht (fun g r _ hr => h.c1.off hr (by decide)), h.tt.touch ht (h.c1.off h.tt (by decide))⟩
theorem Pk.add2 (h : Pk w W b1 m N b2 m2 M gr ga d t A c L K J) {m' : Option Nat} {K' : Cn} {M' : Nat} (hn : Ct W' w.heap.size b2 m' M' d K') (ht : Touch (AtC b2 m2) W W') (hm : m' = m2 ∨ ∃ k, m' = some k ∧ W.heap.size ≤ k) : Pk w W' b1 m N b2 m' M' gr ga d t A c L K' J :=
  ⟨h.c2.out h.bw ht, h.c1.other h.c2 h.ap ht, hn, h.ap.add h.c1 hm, h.row.touch ht (h.c2.off h.row (by decide)), h.rf.touch ht (fun g r _ hr => h.c2.off hr (by decide)), h.tt.touch ht (h.c2.off h.tt (by decide))⟩
/-- the next row is laid into the document's box -/
theorem Pk.store (h : Pk w W b1 m N b2 m2 M gr ga d t A c L K J) (hg : w.heap.size ≤ gr) {A' : Option Addr} {c' : Nat} {J' : Cn} (hr : Rf W A' c' J') :
    Pk w ((W.setCell ⟨gr, 0, none⟩ (.int .i64 d)).setCell ⟨gr, 1, none⟩ (.slice A' J'.length c')) b1 m N b2 m2 M gr ga d t A' c' L K J' := by
  have ht : Touch (fun k => k = gr) W ((W.setCell ⟨gr, 0, none⟩ (.int .i64 d)).setCell ⟨gr, 1, none⟩ (.slice A' J'.length c')) := touch_two W gr _ _
  refine ⟨below_setCell (below_setCell h.bw hg _) hg _, h.c1.touch ht ?_ ?_, h.c2.touch ht ?_ ?_, h.ap, (h.row.put 0 _).put 1 _, hr.touch ht ?_, h.tt.touch ht ?_⟩
  · intro e; exact h.row.apart h.c1.row (by decide) e.symm
  · intro k hk e; exact h.c1.off h.row (by decide) (.inr (by rw [← e]; exact hk.symm))
  · intro e; exact h.row.apart h.c2.row (by decide) e.symm
  · intro k hk e; exact h.c2.off h.row (by decide) (.inr (by rw [← e]; exact hk.symm))
  · intro g r _ hg e; exact h.row.apart hg (by decide) e.symm
  · intro e; exact h.row.apart h.tt (by decide) e.symm
end
/-- a tuple of a row and a number, the row such as can be read -/
def TupAt (w : World) (d r : Int) (K : Cn) (v : Value) : Prop := ∃ A c, v = .tuple #[.agg #[.int .i64 d, .slice A K.length c], .int .i64 r] ∧ Rf w A c K
def AggAt (w : World) (d : Int) (K : Cn) (v : Value) : Prop := ∃ A c, v = .agg #[.int .i64 d, .slice A K.length c] ∧ Rf w A c K
section
variable {w w' W : World} {d r : Int} {K : Cn} {v : Value} {b : Nat → Bool} {vs : Nat → Value} {F : Nat → Prop}
theorem TupAt.below (h : TupAt w d r K v) (hb : Below w.heap.size w w') : TupAt w' d r K v := by
  obtain ⟨A, c, e, hr⟩ := h; exact ⟨A, c, e, hr.below hb⟩
theorem AggAt.below (h : AggAt w d K v) (hb : Below w.heap.size w w') : AggAt w' d K v := by
  obtain ⟨A, c, e, hr⟩ := h; exact ⟨A, c, e, hr.below hb⟩
theorem TupAt.touch (h : TupAt w d r K v) (ht : Touch F w w') (hF : ∀ g r, Row w g 64 r → ¬ F g) : TupAt w' d r K v := by
  obtain ⟨A, c, e, hr⟩ := h; exact ⟨A, c, e, hr.touch ht fun g r _ => hF g r⟩
theorem AggAt.touch (h : AggAt w d K v) (ht : Touch F w w') (hF : ∀ g r, Row w g 64 r → ¬ F g) : AggAt w' d K v := by
  obtain ⟨A, c, e, hr⟩ := h; exact ⟨A, c, e, hr.touch ht fun g r _ => hF g r⟩
/-- what lies in the result's box -/
def BoxAt7 (w : World) (d : Int) (K : Cn) (g : Nat) (s : Bool) : Prop := if s then ∃ A c, Row w g 31 [.int .i64 d, .slice A K.length c] ∧ Rf w A c K else Row w g 31 [.int .i64 0, .slice none 0 0]
theorem BoxAt7.below {g : Nat} {s : Bool} (h : BoxAt7 w d K g s) (hb : Below w.heap.size w w') : BoxAt7 w' d K g s := by
  cases s with
  | true => obtain ⟨A, c, h1, h2⟩ := h; exact ⟨A, c, h1.below hb h1.lt, h2.below hb⟩
  | false =>
    have h1 : Row w g 31 [.int .i64 0, .slice none 0 0] := h
    exact h1.below hb h1.lt
/-- while the document's Add is called and its row stored -/
def Ep (W : World) (d r : Int) (K : Cn) (b : Nat → Bool) (vs : Nat → Value) (w : World) : Prop :=
  Below W.heap.size W w ∧ (b 11 = true → TupAt w d r K (vs 11)) ∧ (b 12 = true → TupAt w d r K (vs 12)) ∧ (b 13 = true → AggAt w d K (vs 13)) ∧
  (b 15 = true → ∃ g, vs 15 = .pointer (some ⟨g, 0, none⟩) ∧ W.heap.size ≤ g ∧ BoxAt7 w d K g (b 16)) ∧ (b 16 = true → b 15 = true)
theorem Ep.step {i : Nat} (h : Ep W d r K b vs w) (hb : Below w.heap.size w w') (h11 : i = 11 → TupAt w' d r K v) (h12 : i = 12 → TupAt w' d r K v) (h13 : i = 13 → AggAt w' d K v) (h15 : i ≠ 15) (h16 : i ≠ 16) :
    Ep W d r K (Free.updb b i) (Free.updw vs i v) w' := by
  obtain ⟨k0, k1, k2, k3, k4, k5⟩ := h
  refine ⟨k0.trans (hb.mono k0.size), fun e => ?_, fun e => ?_, fun e => ?_, fun e => ?_, fun e => ?_⟩
  · by_cases hi : i = 11
    · subst hi; rw [Free.updw_self]; exact h11 rfl
    · rw [Free.updb_ne (Ne.symm hi)] at e; rw [Free.updw_ne (Ne.symm hi)]; exact (k1 e).below hb
  · by_cases hi : i = 12
    · subst hi; rw [Free.updw_self]; exact h12 rfl
    · rw [Free.updb_ne (Ne.symm hi)] at e; rw [Free.updw_ne (Ne.symm hi)]; exact (k2 e).below hb
  · by_cases hi : i = 13
    · subst hi; rw [Free.updw_self]; exact h13 rfl
    · rw [Free.updb_ne (Ne.symm hi)] at e; rw [Free.updw_ne (Ne.symm hi)]; exact (k3 e).below hb
  · rw [Free.updb_ne (Ne.symm h15)] at e
    obtain ⟨g, e1, e2, e3⟩ := k4 e
    rw [Free.updw_ne (Ne.symm h15), Free.updb_ne (Ne.symm h16)]
    exact ⟨g, e1, e2, e3.below hb⟩
  · rw [Free.updb_ne (Ne.symm h16)] at e
    rw [Free.updb_ne (Ne.symm h15)]; exact k5 e
theorem Ep.keep {i : Nat} (h : Ep W d r K b vs w) (hb : Below w.heap.size w w') (hi : i ≠ 11 ∧ i ≠ 12 ∧ i ≠ 13 ∧ i ≠ 15 ∧ i ≠ 16) : Ep W d r K (Free.updb b i) (Free.updw vs i v) w' :=
  h.step hb (fun e => absurd e hi.1) (fun e => absurd e hi.2.1) (fun e => absurd e hi.2.2.1) hi.2.2.2.1 hi.2.2.2.2
theorem Ep.made (h : Ep W d r K b vs w) (hb15 : b 15 = false) : Ep W d r K (Free.updb b 15) (Free.updw vs 15 (.pointer (some ⟨w.heap.size, 0, none⟩))) (w.alloc (.cells #[.int .i64 0, .slice none 0 0] 31)) := by
  obtain ⟨k0, k1, k2, k3, k4, k5⟩ := h
  have hb : Below w.heap.size w (w.alloc (.cells #[.int .i64 0, .slice none 0 0] 31)) := (Below.refl _ _).alloc (Nat.le_refl _) _
  have h16 : b 16 = false := by
    cases e : b 16 with
    | false => rfl
    | true => have := k5 e; rw [hb15] at this; cases this
  refine ⟨k0.alloc k0.size _, fun e => ?_, fun e => ?_, fun e => ?_, fun e => ⟨w.heap.size, Free.updw_self, k0.size, ?_⟩, fun _ => Free.updb_self⟩
  · rw [Free.updb_ne (by decide)] at e; rw [Free.updw_ne (by decide)]; exact (k1 e).below hb
  · rw [Free.updb_ne (by decide)] at e; rw [Free.updw_ne (by decide)]; exact (k2 e).below hb
  · rw [Free.updb_ne (by decide)] at e; rw [Free.updw_ne (by decide)]; exact (k3 e).below hb
  · rw [Free.updb_ne (by decide), h16]; exact Row.made w _ _
theorem alloc_rc (w : World) : (Instr.alloc 31 true (.tuple #[])).run Try.prog w = .ok (.pointer (some ⟨w.heap.size, 0, none⟩)) (w.alloc (.cells #[.int .i64 0, .slice none 0 0] 31)) := by
  go_simp
theorem store_rc (w : World) (g : Nat) (d : Int) (A : Option Addr) (n c : Nat) (h : Row w g 31 [.int .i64 0, .slice none 0 0]) :
    (Instr.storeAt 31 (.pointer (some ⟨g, 0, none⟩)) (.agg #[.int .i64 d, .slice A n c])).run Try.prog w = .ok () ((w.setCell ⟨g, 0, none⟩ (.int .i64 d)).setCell ⟨g, 1, none⟩ (.slice A n c)) := by
  have c0 : w.cell? ⟨g, 0, none⟩ = some (.int .i64 0) := h.cell 0
  have c1 : w.cell? ⟨g, 1, none⟩ = some (.slice none 0 0) := h.cell 1
  have f0 : w.frozen? ⟨g, 0, none⟩ = false := h.free 0
  have f1 : w.frozen? ⟨g, 1, none⟩ = false := h.free 1
  go_simp
theorem Ep.stored {g : Nat} {A : Option Addr} {c : Nat} (h : Ep W d r K b vs w) (h15 : b 15 = true) (h16 : b 16 = false) (hv : vs 15 = .pointer (some ⟨g, 0, none⟩)) (hrf : Rf w A c K) :
    Row w g 31 [.int .i64 0, .slice none 0 0] ∧ Ep W d r K (Free.updb b 16) (Free.updw vs 16 undef) ((w.setCell ⟨g, 0, none⟩ (.int .i64 d)).setCell ⟨g, 1, none⟩ (.slice A K.length c)) := by
  obtain ⟨k0, k1, k2, k3, k4, k5⟩ := h
  obtain ⟨g', e1, e2, e3⟩ := k4 h15
  rw [hv] at e1; cases e1
  rw [h16] at e3
  have hrow : Row w g 31 [.int .i64 0, .slice none 0 0] := e3
  have ht : Touch (fun k => k = g) w ((w.setCell ⟨g, 0, none⟩ (.int .i64 d)).setCell ⟨g, 1, none⟩ (.slice A K.length c)) := touch_two w g _ _
  have hF : ∀ x q, Row w x 64 q → ¬ (fun k => k = g) x := fun x q hq e => hrow.apart hq (by decide) e.symm
  refine ⟨hrow, below_setCell (below_setCell k0 e2 _) e2 _, fun e => ?_, fun e => ?_, fun e => ?_, fun e => ⟨g, by rw [Free.updw_ne (by decide)]; exact hv, e2, ?_⟩, fun _ => by rw [Free.updb_ne (by decide)]; exact h15⟩
  · rw [Free.updb_ne (by decide)] at e; rw [Free.updw_ne (by decide)]; exact (k1 e).touch ht hF
  · rw [Free.updb_ne (by decide)] at e; rw [Free.updw_ne (by decide)]; exact (k2 e).touch ht hF
  · rw [Free.updb_ne (by decide)] at e; rw [Free.updw_ne (by decide)]; exact (k3 e).touch ht hF
  · rw [Free.updb_self]
    exact ⟨A, c, (hrow.put 0 _).put 1 _, hrf.touch ht fun x q _ => hF x q⟩
/-- two rows of times come up -/
def Et (W : World) (X : List St) (b : Nat → Bool) (vs : Nat → Value) (w : World) : Prop :=
  Below W.heap.size W w ∧ (b 9 = true → ∃ A c, vs 9 = .slice A X.length c ∧ Slc w A c X) ∧ (b 11 = true → ∃ A c, vs 11 = .slice A X.length c ∧ Slc w A c X)
theorem Et.step {i : Nat} {X : List St} (h : Et W X b vs w) (hb : Below w.heap.size w w') (h9 : i = 9 → ∃ A c, v = .slice A X.length c ∧ Slc w' A c X) (h11 : i = 11 → ∃ A c, v = .slice A X.length c ∧ Slc w' A c X) :
    Et W X (Free.updb b i) (Free.updw vs i v) w' := by
  obtain ⟨k0, k1, k2⟩ := h
  refine ⟨k0.trans (hb.mono k0.size), fun e => ?_, fun e => ?_⟩
  · by_cases hi : i = 9
    · subst hi; rw [Free.updw_self]; exact h9 rfl
    · rw [Free.updb_ne (Ne.symm hi)] at e; rw [Free.updw_ne (Ne.symm hi)]
      obtain ⟨A, c, e1, e2⟩ := k1 e; exact ⟨A, c, e1, e2.below hb⟩
  · by_cases hi : i = 11
    · subst hi; rw [Free.updw_self]; exact h11 rfl
    · rw [Free.updb_ne (Ne.symm hi)] at e; rw [Free.updw_ne (Ne.symm hi)]
      obtain ⟨A, c, e1, e2⟩ := k2 e; exact ⟨A, c, e1, e2.below hb⟩
theorem Et.keep {i : Nat} {X : List St} (h : Et W X b vs w) (hb : Below w.heap.size w w') (hi : i ≠ 9 ∧ i ≠ 11) : Et W X (Free.updb b i) (Free.updw vs i v) w' :=
  h.step hb (fun e => absurd e hi.1) (fun e => absurd e hi.2)
end
end

section
open Go.ChangeShapes Go.WideShapes Go.ChangeAt Go.RowKit Go.BigFrame Go.Shelf
set_option maxRecDepth 100000
theorem load_rc {W : World} {g n c : Nat} {d : Int} {A : Option Addr} (h : Row W g 31 [.int .i64 d, .slice A n c]) : ∀ w', Below W.heap.size W w' → (Instr.loadAt 31 (.pointer (some ⟨g, 0, none⟩))).run Try.prog w' = .ok (.agg #[.int .i64 d, .slice A n c]) w' := by
  intro w' hb
  have hr := h.below hb h.lt
  have c0 : w'.cell? ⟨g, 0, none⟩ = some (.int .i64 d) := hr.cell 0
  have c1 : w'.cell? ⟨g, 1, none⟩ = some (.slice A n c) := hr.cell 1
  go_simp
theorem nee_is {x y : Operand} {i j : Int} {p : Bool} (h : (i != j) = p) : ∀ w, (do eqGuard .neq 33 x y (.int .i64 i) (.int .i64 j); binOp .neq 33 (.int .i64 i) (.int .i64 j) : Sem Value).run Try.prog w = .ok (.bool p) w := by
  intro w; subst h; go_simp
namespace countsPlays
def V12 (bb oo k gr cb : Nat) (n d r : Int) (l L K : Cn) (s : St) (A : Option Addr) (c : Nat) (i : Nat) (v : Value) : Prop := match i with
  | 0 => v = .agg #[.int .i64 d, .slice A L.length c]
  | 1 => v = .slice (some ⟨bb, oo, none⟩) l.length cb
  | 2 => v = .int .i64 ((k : Nat) : Int)
  | 3 => v = .pointer (some ⟨bb, oo + k * 6, none⟩)
  | 4 => v = .pointer (some ⟨bb, oo + k * 6, none⟩)
  | 5 => v = .agg #[.int .i64 s.d, .int .i64 s.e, .int .i64 s.x, .int .i64 s.y, .int .i64 s.z]
  | 6 => v = .slice (some ⟨bb, oo, none⟩) l.length cb
  | 7 => v = .int .i64 ((k : Nat) : Int)
  | 8 => v = .pointer (some ⟨bb, oo + k * 6, none⟩)
  | 9 => v = .pointer (some ⟨bb, oo + k * 6 + 5, none⟩)
  | 10 => v = .int .i64 n
  | 11 => ∃ A9 c9, v = .tuple #[.agg #[.int .i64 d, .slice A9 K.length c9], .int .i64 r]
  | 12 => ∃ A9 c9, v = .tuple #[.agg #[.int .i64 d, .slice A9 K.length c9], .int .i64 r]
  | 13 => ∃ A9 c9, v = .agg #[.int .i64 d, .slice A9 K.length c9]
  | 14 => v = .int .i64 r
  | 15 => True
  | 16 => True
  | _ => v = .int .i64 r
def V26 (b1 ga gr : Nat) (d q3 : Int) (K : Cn) (X : List St) (t : St) (A2 : Option Addr) (c2 : Nat) (i : Nat) (v : Value) : Prop := match i with
  | 0 => v = .pointer (some ⟨b1, 0, none⟩)
  | 1 => v = .agg #[.int .i64 t.d, .int .i64 t.e, .int .i64 t.x, .int .i64 t.y, .int .i64 t.z]
  | 2 => v = .int .i64 q3
  | 3 => v = .agg #[.int .i64 d, .slice A2 K.length c2]
  | 4 => v = .agg #[.int .i64 t.d, .int .i64 t.e, .int .i64 t.x, .int .i64 t.y, .int .i64 t.z]
  | 5 => v = .int .i64 q3
  | 6 => v = .bool false
  | 7 => v = .bool false
  | 8 => v = .pointer (some ⟨b1, 0, none⟩)
  | 9 => ∃ A9 c9, v = .slice A9 X.length c9
  | 10 => v = .agg #[.int .i64 d, .slice A2 K.length c2]
  | 11 => ∃ A9 c9, v = .slice A9 X.length c9
  | 12 => v = .bool true
  | 13 => v = .bool false
  | _ => v = .bool false
/-- what holds at a round's head -/
def At (w : World) (b1 ga gr : Nat) (d : Int) (t : St) (l : Cn) (k : Nat) (wr : World) : Prop := ∃ m N A c, N ≤ k ∧ Below w.heap.size w wr ∧ Ct wr w.heap.size b1 m N d (playC d (l.take k)) ∧ Row wr gr 31 [.int .i64 d, .slice A (playC d (l.take k)).length c] ∧ Rf wr A c (playC d (l.take k)) ∧ Holds wr ga t
set_option maxHeartbeats 16000000 in
theorem walk (d : Int) (B : Option Addr) (l : Cn) (cb : Nat) (t : St) (w : World) (hB : Ps w B l) (hW : ∀ p ∈ l, p.1.W) (htW : t.W) (hcb : l.length ≤ cb) (hcm : cb ≤ maxLen) :
    Calls Try.prog 3 #[.int .i64 d, .slice B l.length cb, t.val] w fun e w' => e = .returned (.bool true) ∧ Below w.heap.size w w' := by
  have WW := Lib.hid works7_any
  have hbA := (Below.refl w.heap.size w).alloc (Nat.le_refl _) (.cells #[.int .i64 t.d, .int .i64 t.e, .int .i64 t.x, .int .i64 t.y, .int .i64 t.z] 25)
  have hx := Holds.made w t
  have HBA := Lib.hid hbA; have HX := Lib.hid hx; clear hbA hx
  unfold St.val
  by_cases hl : 60 < l.length
  · have dl : decide ((l.length : Int) > 60) = true := decide_eq_true (by omega)
    clear hB
    go_enter Try.func3, Try.ntmps3
    go_wp2_with fail
    refine (WW.out _).mono ?_; rintro e we ⟨rfl, hbe⟩
    go_wp2_with fail
    go_ret
    exact ⟨rfl, HBA.out.trans (hbe.mono HBA.out.size)⟩
  have dl : decide ((l.length : Int) > 60) = false := decide_eq_false (by omega)
  by_cases hd : d < 0 ∨ 3 < d
  · have HN := Lib.hid (fun w => new_no d w hd); clear hB
    by_cases hd0 : d < 0
    · clear hd
      go_enter Try.func3, Try.ntmps3
      go_wp2_with fail
      refine (HN.out _).mono ?_; rintro e w1 ⟨rfl, rfl⟩
      go_wp2_with fail
      refine (WW.out _).mono ?_; rintro e we ⟨rfl, hbe⟩
      go_wp2_with fail
      go_ret
      exact ⟨rfl, HBA.out.trans (hbe.mono HBA.out.size)⟩
    · have hd3 : 3 < d := by omega
      clear hd
      go_enter Try.func3, Try.ntmps3
      go_wp2_with fail
      refine (HN.out _).mono ?_; rintro e w1 ⟨rfl, rfl⟩
      go_wp2_with fail
      refine (WW.out _).mono ?_; rintro e we ⟨rfl, hbe⟩
      go_wp2_with fail
      go_ret
      exact ⟨rfl, HBA.out.trans (hbe.mono HBA.out.size)⟩
  have hd1 : 0 ≤ d ∧ d ≤ 3 := by omega
  have HN := Lib.hid (fun w => new_yes d w hd1.1 hd1.2)
  have hd0 : ¬ d < 0 := by omega
  have hd3 : ¬ 3 < d := by omega
  have HL := Lib.hid (Nat.not_lt.1 hl); have HB := Lib.hid hB; have HWW := Lib.hid hW; have HTW := Lib.hid htW
  clear hl hB hd1 hd hW htW
  go_enter Try.func3, Try.ntmps3
  go_wp2_with fail
  refine (HN.out _).mono ?_; rintro e w1 ⟨rfl, hc1, hb1⟩
  have HC1 := Lib.hid (And.intro hc1 hb1); clear hc1 hb1
  go_wp2_with fail
  have hc1 := HC1.out.1
  rw [size_alloc] at hc1
  have e0 : playC d (l.take 0) = [] := by simp [playC]
  have hst : At w (w.heap.size + 1) w.heap.size w1.heap.size d t l 0 (w1.alloc (.cells #[.int .i64 d, .slice none 0 0] 31)) := by
    have hbb : Below w1.heap.size w1 (w1.alloc (.cells #[.int .i64 d, .slice none 0 0] 31)) := (Below.refl _ _).alloc (Nat.le_refl _) _
    have hb01 : Below w.heap.size w w1 := HBA.out.trans (HC1.out.2.mono HBA.out.size)
    unfold At
    rw [e0]
    exact ⟨none, 0, none, 0, Nat.le_refl _, hb01.trans (hbb.mono hb01.size), (hc1.lower (Nat.le_succ _)).below hbb, Row.made w1 _ _, ⟨Ps.nil, by simp, by simp, .inl ⟨rfl, rfl⟩⟩, (HX.out.below HC1.out.2).below hbb⟩
  have hgr : w.heap.size ≤ w1.heap.size := by have := HBA.out.size; have := HC1.out.2.size; omega
  obtain ⟨b1, hb1⟩ : ∃ b1, w.heap.size + 1 = b1 := ⟨_, rfl⟩
  obtain ⟨gr, hgr0⟩ : ∃ gr, w1.heap.size = gr := ⟨_, rfl⟩
  obtain ⟨w2, hw2⟩ : ∃ w2, w1.alloc (.cells #[.int .i64 d, .slice none 0 0] 31) = w2 := ⟨_, rfl⟩
  have H1 := Lib.hid (show At w b1 w.heap.size gr d t l 0 w2 by rw [← hb1, ← hgr0, ← hw2]; exact hst)
  have HGR := Lib.hid (show w.heap.size ≤ gr by rw [← hgr0]; exact hgr)
  rw [hb1, hgr0, hw2]
  clear hst hgr hb1 hgr0 hw2 hc1 e0 HC1 HN HBA HX hd0 hd3
  obtain ⟨ga, hga⟩ : ∃ ga, w.heap.size = ga := ⟨_, rfl⟩
  have H1 := Lib.hid (show At w b1 ga gr d t l 0 w2 by rw [← hga]; exact H1.out)
  rw [show (⟨w.heap.size, 0, none⟩ : Addr) = ⟨ga, 0, none⟩ by rw [hga]]
  clear hga
  go_loopw [9] (fun i wr => ∃ k : Nat, k ≤ l.length ∧ i = .int .i64 k ∧ At w b1 ga gr d t l k wr) (fun i _ => l.length - (intOf i).toNat)
  case atStart => exact ⟨0, by omega, rfl, H1.out⟩
  case round =>
    obtain ⟨k, hk, rfl, m, N, A, c, hN, hbw, hc, hr, hf, ht⟩ := hrel
    clear H1
    by_cases hlt : k < l.length
    · have hltz : (k : Int) < (l.length : Int) := by omega
      obtain ⟨⟨s, n⟩, hp⟩ : ∃ p, l[k]? = some p := ⟨_, List.getElem?_eq_getElem hlt⟩
      have hsW : s.W := HWW.out _ (List.mem_of_getElem? hp)
      obtain ⟨bb, oo, rfl, hbl, h6⟩ := HB.out.six hp
      obtain ⟨bb2, o2, e2, -, hld, hln⟩ := HB.out.loadT hp
      cases e2
      dsimp only at h6 hld hln
      have hnx : playC d (l.take (k + 1)) = putC d (playC d (l.take k)) s n := by
        rw [takeC_snoc hp, playC_snoc]
      have hlen := hc.len
      have hk60 : k ≤ 60 := by have := HL.out; omega
      obtain ⟨L, hL⟩ : ∃ L, playC d (l.take k) = L := ⟨_, rfl⟩
      rw [hL] at hc hr hf hnx hlen
      have HNX := Lib.hid hnx; have HLN := Lib.hid (show L.length ≤ 60 ∧ N ≤ 60 by omega); have HSW := Lib.hid hsW
      have H6 := Lib.hid h6; have HLD0 := Lib.hid hld; have HLN0 := Lib.hid hln; have HBL := Lib.hid hbl
      have kk := copy_any hc
      have KK := Lib.hid kk; have HC := Lib.hid hc; have HR := Lib.hid hr; have HF := Lib.hid hf; have HT := Lib.hid ht; have HBW := Lib.hid hbw; have HNK := Lib.hid hN
      clear hnx hlen hk60 hsW h6 hld hln hbl hp hL kk hc hr hf ht hbw hN
      go_wp2_with fail
      refine (KK.out).mono ?_; rintro e w3 ⟨⟨b2, m2, rfl, hc2⟩, hb3⟩
      have hpk : Pk w w3 b1 m N b2 m2 N gr ga d t A c L L L := by
        refine ⟨HBW.out.trans (hb3.mono HBW.out.size), HC.out.below hb3, hc2.lower HBW.out.size, ⟨?_, ?_⟩, HR.out.below hb3 HR.out.lt, HF.out.below hb3, HT.out.below hb3⟩
        · have h1 := HC.out.lt; have h2 := hc2.lo.1; omega
        · intro j hj e
          have h1 := HC.out.mlt hj; have h2 := hc2.lo.2 j e; omega
      have HP3 := Lib.hid hpk
      clear hpk hc2 hb3 KK HC HR HF HT HBW
      dsimp only
      go_wp2_with fail
      obtain ⟨w4, hw4⟩ : ∃ w4, w3.drewN 1 = w4 := ⟨_, rfl⟩
      have hpk : Pk w w4 b1 m N b2 m2 N gr ga d t A c L L L := by rw [← hw4]; exact HP3.out.below (below_drewN (Below.refl _ _) 1)
      obtain ⟨c0, c1, c2, c3, c4, c5⟩ := H6.out w4 hpk.bw
      have hset := add_any hpk.c1 (by have := HLN.out; unfold maxLen; omega) s n
      unfold St.val at hset
      have hblw : bb < w4.heap.size := by have := hpk.bw.size; have := HBL.out; omega
      have HSE := Lib.hid hset; have HP4 := Lib.hid hpk; have HP4K := Lib.hid (And.intro hpk.c1.ok (fun t => hpk.c1.nr (t := t))); clear hset hpk HP3
      refine wp_tail 11 (by kernel_rfl) (by kernel_rfl) ?_
      rw [hw4]
      simp only [List.take_succ_cons, List.take_zero, List.drop_succ_cons, List.drop_zero]
      repeat still_step
      refine wpStill_nil ?_
      go_wp2_with fail
      refine (HSE.out).mono ?_; rintro e w5 ⟨rfl, m', hct, htc, hm'⟩
      have HP5 := Lib.hid (HP4.out.add1 hct htc hm')
      clear hct htc hm' HSE HP4 hw4 c0 c1 c2 c3 c4 c5 hblw
      obtain ⟨r, hr⟩ : ∃ r, errC d L s n = r := ⟨_, rfl⟩
      rw [hr]
      go_wp2_with fail
      obtain ⟨K, hK⟩ : ∃ K, putC d L s n = K := ⟨_, rfl⟩
      rw [hK] at HNX HP5
      have hra : ∀ w', Below w5.heap.size w5 w' → Calls Try.prog 14 #[.agg #[.int .i64 d, .slice A L.length c], .agg #[.int .i64 s.d, .int .i64 s.e, .int .i64 s.x, .int .i64 s.y, .int .i64 s.z], .int .i64 n] w' (RAdded w' d K r) := fun w' hw => by
        have h1 := refAdd_any (HP5.out.rf.below hw) (by have := HLN.out; omega) HP4K.out.1 HP4K.out.2 s n (d := d)
        rw [hK, hr] at h1; exact h1
      have HRA := Lib.hid hra
      have HLR := Lib.hid (fun w' (hw : Below w5.heap.size w5 w') => load_rc HP5.out.row w' hw)
      have HLD := Lib.hid (fun w' (hw : Below w5.heap.size w5 w') => HLD0.out w' (HP5.out.bw.trans (hw.mono HP5.out.bw.size)))
      have HLN2 := Lib.hid (fun w' (hw : Below w5.heap.size w5 w') => HLN0.out w' (HP5.out.bw.trans (hw.mono HP5.out.bw.size)))
      clear hra hK hr
      refine Free.wp_key (by kernel_rfl) (by kernel_rfl) (fun b vs wq => Ep w5 d r K b vs wq) (V12 bb oo k gr cb n d r l L K s A c) (fun vs => ⟨(Below.refl _ _).drew, fun e => absurd e (by decide), fun e => absurd e (by decide), fun e => absurd e (by decide), fun e => absurd e (by decide), fun e => absurd e (by decide)⟩) ?_ ?_
      · intro i o hi b vs a wa hold hpre hbi hF
        match i with
        | 0 =>
          cases hi
          exact Free.c_all rfl (Free.g_load _ _ rfl ((hold 8 (by decide)).trans rfl) (HLR.out wa hF.1) ⟨rfl, hF.keep (Below.refl _ _) (by decide)⟩)
        | 1 =>
          cases hi
          exact Free.c_all rfl (Free.g_move _ rfl ⟨((hold 1 (by decide)).trans rfl), hF.keep (Below.refl _ _) (by decide)⟩)
        | 2 =>
          cases hi
          exact Free.c_all rfl (Free.g_move _ rfl ⟨((hold 9 (by decide)).trans rfl), hF.keep (Below.refl _ _) (by decide)⟩)
        | 3 =>
          cases hi
          have h1 : a.eval (.tmp 58) = .slice (some ⟨bb, oo, none⟩) l.length cb := (hpre 1 _ _ (by kernel_rfl) rfl rfl).2.2
          have h2 : a.eval (.tmp 59) = .int .i64 ((k : Nat) : Int) := (hpre 2 _ _ (by kernel_rfl) rfl rfl).2.2
          exact Free.c_all rfl (Free.g_indexAddr (v := .pointer (some ⟨bb, oo + k * 6, none⟩)) _ _ _ rfl h1 h2 (by go_simp) ⟨rfl, hF.keep (Below.refl _ _) (by decide)⟩)
        | 4 =>
          cases hi
          have h0 : a.eval (.tmp 60) = .pointer (some ⟨bb, oo + k * 6, none⟩) := (hpre 3 _ _ (by kernel_rfl) rfl rfl).2.2
          exact Free.c_all rfl (Free.g_field (v := .pointer (some ⟨bb, oo + k * 6, none⟩)) _ _ _ rfl h0 (by go_simp) ⟨rfl, hF.keep (Below.refl _ _) (by decide)⟩)
        | 5 =>
          cases hi
          have h0 : a.eval (.tmp 61) = .pointer (some ⟨bb, oo + k * 6, none⟩) := (hpre 4 _ _ (by kernel_rfl) rfl rfl).2.2
          exact Free.c_all rfl (Free.g_load _ _ rfl h0 (HLD.out wa hF.1) ⟨rfl, hF.keep (Below.refl _ _) (by decide)⟩)
        | 6 =>
          cases hi
          exact Free.c_all rfl (Free.g_move _ rfl ⟨((hold 1 (by decide)).trans rfl), hF.keep (Below.refl _ _) (by decide)⟩)
        | 7 =>
          cases hi
          exact Free.c_all rfl (Free.g_move _ rfl ⟨((hold 9 (by decide)).trans rfl), hF.keep (Below.refl _ _) (by decide)⟩)
        | 8 =>
          cases hi
          have h1 : a.eval (.tmp 63) = .slice (some ⟨bb, oo, none⟩) l.length cb := (hpre 6 _ _ (by kernel_rfl) rfl rfl).2.2
          have h2 : a.eval (.tmp 64) = .int .i64 ((k : Nat) : Int) := (hpre 7 _ _ (by kernel_rfl) rfl rfl).2.2
          exact Free.c_all rfl (Free.g_indexAddr (v := .pointer (some ⟨bb, oo + k * 6, none⟩)) _ _ _ rfl h1 h2 (by go_simp) ⟨rfl, hF.keep (Below.refl _ _) (by decide)⟩)
        | 9 =>
          cases hi
          have h0 : a.eval (.tmp 65) = .pointer (some ⟨bb, oo + k * 6, none⟩) := (hpre 8 _ _ (by kernel_rfl) rfl rfl).2.2
          exact Free.c_all rfl (Free.g_field (v := .pointer (some ⟨bb, oo + k * 6 + 5, none⟩)) _ _ _ rfl h0 (by go_simp) ⟨rfl, hF.keep (Below.refl _ _) (by decide)⟩)
        | 10 =>
          cases hi
          have h0 : a.eval (.tmp 66) = .pointer (some ⟨bb, oo + k * 6 + 5, none⟩) := (hpre 9 _ _ (by kernel_rfl) rfl rfl).2.2
          exact Free.c_all rfl (Free.g_load _ _ rfl h0 (HLN2.out wa hF.1) ⟨rfl, hF.keep (Below.refl _ _) (by decide)⟩)
        | 11 =>
          cases hi
          have h0 : a.eval (.tmp 57) = .agg #[.int .i64 d, .slice A L.length c] := (hpre 0 _ _ (by kernel_rfl) rfl rfl).2.2
          have h1 : a.eval (.tmp 62) = .agg #[.int .i64 s.d, .int .i64 s.e, .int .i64 s.x, .int .i64 s.y, .int .i64 s.z] := (hpre 5 _ _ (by kernel_rfl) rfl rfl).2.2
          have h2 : a.eval (.tmp 67) = .int .i64 n := (hpre 10 _ _ (by kernel_rfl) rfl rfl).2.2
          refine Free.c_all rfl (Free.g_call _ _ rfl Try.func14 (by kernel_rfl) rfl [.agg #[.int .i64 d, .slice A L.length c], .agg #[.int .i64 s.d, .int .i64 s.e, .int .i64 s.x, .int .i64 s.y, .int .i64 s.z], .int .i64 n] (by show [a.eval (.tmp 57), a.eval (.tmp 62), a.eval (.tmp 67)] = _; rw [h0, h1, h2]) ?_)
          exact (HRA.out wa hF.1).mono fun e w9 ⟨⟨A9, c9, he, hrf⟩, hb9⟩ => ⟨_, he, ⟨A9, c9, rfl⟩, hF.step hb9 (fun _ => ⟨A9, c9, rfl, hrf⟩) (fun e => absurd e (by decide)) (fun e => absurd e (by decide)) (by decide) (by decide)⟩
        | 12 =>
          cases hi
          obtain ⟨hb11, hv11, -⟩ := hpre 11 _ _ (by kernel_rfl) rfl  rfl
          obtain ⟨A9, c9, e9, hrf⟩ := hF.2.1 hb11
          rw [e9] at hv11
          exact Free.c_all rfl (Free.g_move _ rfl ⟨⟨A9, c9, hv11⟩, hF.step (Below.refl _ _) (fun e => absurd e (by decide)) (fun _ => ⟨A9, c9, hv11, hrf⟩) (fun e => absurd e (by decide)) (by decide) (by decide)⟩)
        | 13 =>
          cases hi
          obtain ⟨hb12, hv12, -⟩ := hpre 12 _ _ (by kernel_rfl) rfl  rfl
          obtain ⟨A9, c9, e9, hrf⟩ := hF.2.2.1 hb12
          rw [e9] at hv12
          exact Free.c_all rfl (Free.g_extract _ _ rfl hv12 (extract_0 _ _ wa) ⟨⟨A9, c9, rfl⟩, hF.step (Below.refl _ _) (fun e => absurd e (by decide)) (fun e => absurd e (by decide)) (fun _ => ⟨A9, c9, rfl, hrf⟩) (by decide) (by decide)⟩)
        | 14 =>
          cases hi
          obtain ⟨hb12, hv12, -⟩ := hpre 12 _ _ (by kernel_rfl) rfl  rfl
          obtain ⟨A9, c9, e9, hrf⟩ := hF.2.2.1 hb12
          rw [e9] at hv12
          exact Free.c_all rfl (Free.g_extract _ _ rfl hv12 (extract_1 _ _ wa) ⟨rfl, hF.keep (Below.refl _ _) (by decide)⟩)
        | 15 =>
          cases hi
          exact Free.c_all rfl (Free.g_alloc _ rfl (alloc_rc wa) ⟨trivial, hF.made hbi⟩)
        | 16 =>
          cases hi
          obtain ⟨hb15, hv15, -⟩ := hpre 15 _ _ (by kernel_rfl) rfl  rfl
          obtain ⟨hb13, hv13, -⟩ := hpre 13 _ _ (by kernel_rfl) rfl  rfl
          obtain ⟨A9, c9, e9, hrf⟩ := hF.2.2.2.1 hb13
          rw [e9] at hv13
          obtain ⟨g9, e15, -, -⟩ := hF.2.2.2.2.1 hb15
          rw [e15] at hv15
          obtain ⟨hrow, hst⟩ := hF.stored hb15 hbi e15 hrf
          exact Free.c_all rfl (Free.g_store _ _ _ rfl hv15 hv13 (store_rc wa g9 d A9 _ c9 hrow) ⟨trivial, hst⟩)
        | 17 =>
          cases hi
          have h0 : a.eval (.tmp 70) = .int .i64 r := (hpre 14 _ _ (by kernel_rfl) rfl rfl).2.2
          exact Free.c_all rfl (Free.g_assign _ rfl ⟨h0, hF.keep (Below.refl _ _) (by decide)⟩)
        | _ + 18 => cases hi
      · intro vs we hv hF
        have hlast : vs 17 = .int .i64 r := hv 17 (by simp) (by rintro o ⟨⟩; rfl)
        obtain ⟨g, hg, hge, hbx⟩ := hF.2.2.2.2.1 rfl
        obtain ⟨A2, c2, hrow, hrf⟩ : ∃ A c, Row we g 31 [.int .i64 d, .slice A K.length c] ∧ Rf we A c K := hbx
        have HP6 := Lib.hid (HP5.out.below hF.1); have H12 := Lib.hid (And.intro hrow (And.intro hrf hge))
        clear hv hF hrow hrf
        simp only [Free.puts, Nat.reduceAdd, hlast, hg]
        clear hg hlast
        generalize vs 0 = y0
        generalize vs 1 = y1
        generalize vs 2 = y2
        generalize vs 3 = y3
        generalize vs 4 = y4
        generalize vs 5 = y5
        generalize vs 6 = y6
        generalize vs 7 = y7
        generalize vs 8 = y8
        generalize vs 9 = y9
        generalize vs 10 = y10
        generalize vs 11 = y11
        generalize vs 12 = y12
        generalize vs 13 = y13
        generalize vs 14 = y14
        generalize vs 16 = y16
        go_simp
        obtain ⟨q, hq⟩ : ∃ q, cnt L s = q := ⟨_, rfl⟩
        have hk2 : ∀ w', Below we.heap.size we w' → Calls Try.prog 15 #[.pointer (some ⟨b2, 0, none⟩), .agg #[.int .i64 s.d, .int .i64 s.e, .int .i64 s.x, .int .i64 s.y, .int .i64 s.z]] w' fun e w'' => e = .returned (.int .i64 q) ∧ Below w'.heap.size w' w'' := fun w' hw => by
          have h1 := count_any (HP6.out.c2.below hw) s HSW.out
          rw [hq] at h1; exact h1
        have hk3 : ∀ w', Below we.heap.size we w' → Calls Try.prog 16 #[.agg #[.int .i64 d, .slice A L.length c], .agg #[.int .i64 s.d, .int .i64 s.e, .int .i64 s.x, .int .i64 s.y, .int .i64 s.z]] w' fun e w'' => e = .returned (.int .i64 q) ∧ Below w'.heap.size w' w'' := fun w' hw => by
          have h1 := refCount_any A L c d s w' (HP6.out.rf.below hw) (by have := HLN.out; have := HP6.out.c2.len; omega) HP6.out.c2.ok
          rw [hq] at h1; exact h1
        have HA1 := Lib.hid hk2; have HB1 := Lib.hid hk3; have HN1 := Lib.hid (show (q != q) = false by simp)
        clear hk2 hk3 hq
        have HLR6 := Lib.hid (fun w' (hw : Below we.heap.size we w') => load_rc HP6.out.row w' hw)
        have HLD6 := Lib.hid (fun w' (hw : Below we.heap.size we w') => HLD0.out w' (HP6.out.bw.trans (hw.mono HP6.out.bw.size)))
        have HNR := Lib.hid (show (r != r) = false by simp)
        go_wp2_with fail
        refine wp_region_below (by kernel_rfl) (by kernel_rfl) ?_
        refine wpQuiet_step (fun K hK => ?_); go_simp; (first | (with_reducible refine hK _ ?_) | (with_reducible refine ⟨_, fun _ _ => rfl, hK _ ?_⟩)); clear hK K
        refine wpQuiet_step (fun K hK => ?_); go_simp; (first | (with_reducible refine hK _ ?_) | (with_reducible refine ⟨_, fun _ _ => rfl, hK _ ?_⟩)); clear hK K
        refine wpQuiet_step (fun K hK => ?_); refine q_bin _ _ _ _ _ rfl rfl rfl rfl (nee_is HNR.out) ?_; go_simp; (with_reducible refine hK _ ?_); clear hK K
        refine wpQuiet_step (fun K hK => ?_); go_simp; (first | (with_reducible refine hK _ ?_) | (with_reducible refine ⟨_, fun _ _ => rfl, hK _ ?_⟩)); clear hK K
        refine wpQuiet_step (fun K hK => ?_); go_simp; (first | (with_reducible refine hK _ ?_) | (with_reducible refine ⟨_, fun _ _ => rfl, hK _ ?_⟩)); clear hK K
        refine wpQuiet_step (fun K hK => ?_); go_simp; (first | (with_reducible refine hK _ ?_) | (with_reducible refine ⟨_, fun _ _ => rfl, hK _ ?_⟩)); clear hK K
        refine wpQuiet_step (fun K hK => ?_); go_simp; (first | (with_reducible refine hK _ ?_) | (with_reducible refine ⟨_, fun _ _ => rfl, hK _ ?_⟩)); clear hK K
        refine wpQuiet_step (fun K hK => ?_); go_simp; (first | (with_reducible refine hK _ ?_) | (with_reducible refine ⟨_, fun _ _ => rfl, hK _ ?_⟩)); clear hK K
        refine wpQuiet_step (fun K hK => ?_); go_simp; (first | (with_reducible refine hK _ ?_) | (with_reducible refine ⟨_, fun _ _ => rfl, hK _ ?_⟩)); clear hK K
        refine wpQuiet_step (fun K hK => ?_); refine q_load (p := .pointer (some ⟨bb, oo + k * 6, none⟩)) 25 _ rfl rfl rfl (HLD6.out) ?_; go_simp; (with_reducible refine hK _ ?_); clear hK K
        refine wpQuiet_step (fun K hK => ?_); go_simp; (with_reducible refine ⟨_, fun wq hb => (HA1.out wq hb).mono fun _ _ h => ⟨h.1, hb.trans (h.2.mono (by simpa using hb.size))⟩, hK _ ?_⟩); clear hK K
        refine wpQuiet_step (fun K hK => ?_); refine q_load (p := .pointer (some ⟨gr, 0, none⟩)) 31 _ rfl rfl rfl (HLR6.out) ?_; go_simp; (with_reducible refine hK _ ?_); clear hK K
        refine wpQuiet_step (fun K hK => ?_); go_simp; (first | (with_reducible refine hK _ ?_) | (with_reducible refine ⟨_, fun _ _ => rfl, hK _ ?_⟩)); clear hK K
        refine wpQuiet_step (fun K hK => ?_); go_simp; (first | (with_reducible refine hK _ ?_) | (with_reducible refine ⟨_, fun _ _ => rfl, hK _ ?_⟩)); clear hK K
        refine wpQuiet_step (fun K hK => ?_); go_simp; (first | (with_reducible refine hK _ ?_) | (with_reducible refine ⟨_, fun _ _ => rfl, hK _ ?_⟩)); clear hK K
        refine wpQuiet_step (fun K hK => ?_); go_simp; (first | (with_reducible refine hK _ ?_) | (with_reducible refine ⟨_, fun _ _ => rfl, hK _ ?_⟩)); clear hK K
        refine wpQuiet_step (fun K hK => ?_); refine q_load (p := .pointer (some ⟨bb, oo + k * 6, none⟩)) 25 _ rfl rfl rfl (HLD6.out) ?_; go_simp; (with_reducible refine hK _ ?_); clear hK K
        refine wpQuiet_step (fun K hK => ?_); go_simp; (with_reducible refine ⟨_, fun wq hb => (HB1.out wq hb).mono fun _ _ h => ⟨h.1, hb.trans (h.2.mono (by simpa using hb.size))⟩, hK _ ?_⟩); clear hK K
        refine wpQuiet_step (fun K hK => ?_); refine q_bin _ _ _ _ _ rfl rfl rfl rfl (ne64_is HN1.out) ?_; go_simp; (with_reducible refine hK _ ?_); clear hK K
        refine wpQuiet_step (fun K hK => ?_); go_simp; (first | (with_reducible refine hK _ ?_) | (with_reducible refine ⟨_, fun _ _ => rfl, hK _ ?_⟩)); clear hK K
        refine wpQuiet_nil ?_
        intro w7 hb7
        have hp7 := HP6.out.below hb7
        have HRF2 := Lib.hid (H12.out.2.1.below hb7)
        have hr12 := H12.out.1.below hb7 H12.out.1.lt
        have g0 : w7.cell? ⟨g, 0, none⟩ = some (.int .i64 d) := hr12.cell 0
        have g1 : w7.cell? ⟨g, 1, none⟩ = some (.slice A2 K.length c2) := hr12.cell 1
        have r0 : w7.cell? ⟨gr, 0, none⟩ = some (.int .i64 d) := hp7.row.cell 0
        have r1 : w7.cell? ⟨gr, 1, none⟩ = some (.slice A L.length c) := hp7.row.cell 1
        have f0 : w7.frozen? ⟨gr, 0, none⟩ = false := hp7.row.free 0
        have f1 : w7.frozen? ⟨gr, 1, none⟩ = false := hp7.row.free 1
        have HP7 := Lib.hid hp7
        clear hp7 hr12 hb7 HP6 H12 HA1 HB1 HN1 HLR6 HLD6 HP5 HRA HLR HLD HLN2 HNR HP4K
        go_wp2_with fail
        obtain ⟨w8, hw8⟩ : ∃ w8, (w7.setCell ⟨gr, 0, none⟩ (.int .i64 d)).setCell ⟨gr, 1, none⟩ (.slice A2 K.length c2) = w8 := ⟨_, rfl⟩
        have HP8 := Lib.hid (show Pk w w8 b1 m' (N + 1) b2 m2 N gr ga d t A2 c2 K L K by rw [← hw8]; exact HP7.out.store HGR.out HRF2.out)
        rw [hw8]
        clear hw8 g0 g1 r0 r1 f0 f1 HP7 HRF2
        obtain ⟨q1, hq1⟩ : ∃ q, cnt K s = q := ⟨_, rfl⟩
        have hk2 : ∀ w', Below w8.heap.size w8 w' → Calls Try.prog 15 #[.pointer (some ⟨b1, 0, none⟩), .agg #[.int .i64 s.d, .int .i64 s.e, .int .i64 s.x, .int .i64 s.y, .int .i64 s.z]] w' fun e w'' => e = .returned (.int .i64 q1) ∧ Below w'.heap.size w' w'' := fun w' hw => by
          have h1 := count_any (HP8.out.c1.below hw) s HSW.out
          rw [hq1] at h1; exact h1
        have hk3 : ∀ w', Below w8.heap.size w8 w' → Calls Try.prog 16 #[.agg #[.int .i64 d, .slice A2 K.length c2], .agg #[.int .i64 s.d, .int .i64 s.e, .int .i64 s.x, .int .i64 s.y, .int .i64 s.z]] w' fun e w'' => e = .returned (.int .i64 q1) ∧ Below w'.heap.size w' w'' := fun w' hw => by
          have h1 := refCount_any A2 K c2 d s w' (HP8.out.rf.below hw) (by have := HLN.out; have := HP8.out.c1.len; omega) HP8.out.c1.ok
          rw [hq1] at h1; exact h1
        have HA1 := Lib.hid hk2; have HB1 := Lib.hid hk3; have HN1 := Lib.hid (show (q1 != q1) = false by simp)
        clear hk2 hk3 hq1
        obtain ⟨q2, hq2⟩ : ∃ q, cnt K t = q := ⟨_, rfl⟩
        have hk2 : ∀ w', Below w8.heap.size w8 w' → Calls Try.prog 15 #[.pointer (some ⟨b1, 0, none⟩), .agg #[.int .i64 t.d, .int .i64 t.e, .int .i64 t.x, .int .i64 t.y, .int .i64 t.z]] w' fun e w'' => e = .returned (.int .i64 q2) ∧ Below w'.heap.size w' w'' := fun w' hw => by
          have h1 := count_any (HP8.out.c1.below hw) t HTW.out
          rw [hq2] at h1; exact h1
        have hk3 : ∀ w', Below w8.heap.size w8 w' → Calls Try.prog 16 #[.agg #[.int .i64 d, .slice A2 K.length c2], .agg #[.int .i64 t.d, .int .i64 t.e, .int .i64 t.x, .int .i64 t.y, .int .i64 t.z]] w' fun e w'' => e = .returned (.int .i64 q2) ∧ Below w'.heap.size w' w'' := fun w' hw => by
          have h1 := refCount_any A2 K c2 d t w' (HP8.out.rf.below hw) (by have := HLN.out; have := HP8.out.c1.len; omega) HP8.out.c1.ok
          rw [hq2] at h1; exact h1
        have HA2 := Lib.hid hk2; have HB2 := Lib.hid hk3; have HN2 := Lib.hid (show (q2 != q2) = false by simp)
        clear hk2 hk3 hq2
        have HLR8 := Lib.hid (fun w' (hw : Below w8.heap.size w8 w') => load_rc HP8.out.row w' hw)
        have HLD8 := Lib.hid (fun w' (hw : Below w8.heap.size w8 w') => HLD0.out w' (HP8.out.bw.trans (hw.mono HP8.out.bw.size)))
        have HLT8 := Lib.hid (load_t HP8.out.tt)
        refine wp_region_below (by kernel_rfl) (by kernel_rfl) ?_
        refine wpQuiet_step (fun K hK => ?_); go_simp; (first | (with_reducible refine hK _ ?_) | (with_reducible refine ⟨_, fun _ _ => rfl, hK _ ?_⟩)); clear hK K
        refine wpQuiet_step (fun K hK => ?_); go_simp; (first | (with_reducible refine hK _ ?_) | (with_reducible refine ⟨_, fun _ _ => rfl, hK _ ?_⟩)); clear hK K
        refine wpQuiet_step (fun K hK => ?_); go_simp; (first | (with_reducible refine hK _ ?_) | (with_reducible refine ⟨_, fun _ _ => rfl, hK _ ?_⟩)); clear hK K
        refine wpQuiet_step (fun K hK => ?_); go_simp; (first | (with_reducible refine hK _ ?_) | (with_reducible refine ⟨_, fun _ _ => rfl, hK _ ?_⟩)); clear hK K
        refine wpQuiet_step (fun K hK => ?_); go_simp; (first | (with_reducible refine hK _ ?_) | (with_reducible refine ⟨_, fun _ _ => rfl, hK _ ?_⟩)); clear hK K
        refine wpQuiet_step (fun K hK => ?_); refine q_load (p := .pointer (some ⟨bb, oo + k * 6, none⟩)) 25 _ rfl rfl rfl (HLD8.out) ?_; go_simp; (with_reducible refine hK _ ?_); clear hK K
        refine wpQuiet_step (fun K hK => ?_); go_simp; (with_reducible refine ⟨_, fun wq hb => (HA1.out wq hb).mono fun _ _ h => ⟨h.1, hb.trans (h.2.mono (by simpa using hb.size))⟩, hK _ ?_⟩); clear hK K
        refine wpQuiet_step (fun K hK => ?_); refine q_load (p := .pointer (some ⟨gr, 0, none⟩)) 31 _ rfl rfl rfl (HLR8.out) ?_; go_simp; (with_reducible refine hK _ ?_); clear hK K
        refine wpQuiet_step (fun K hK => ?_); go_simp; (first | (with_reducible refine hK _ ?_) | (with_reducible refine ⟨_, fun _ _ => rfl, hK _ ?_⟩)); clear hK K
        refine wpQuiet_step (fun K hK => ?_); go_simp; (first | (with_reducible refine hK _ ?_) | (with_reducible refine ⟨_, fun _ _ => rfl, hK _ ?_⟩)); clear hK K
        refine wpQuiet_step (fun K hK => ?_); go_simp; (first | (with_reducible refine hK _ ?_) | (with_reducible refine ⟨_, fun _ _ => rfl, hK _ ?_⟩)); clear hK K
        refine wpQuiet_step (fun K hK => ?_); go_simp; (first | (with_reducible refine hK _ ?_) | (with_reducible refine ⟨_, fun _ _ => rfl, hK _ ?_⟩)); clear hK K
        refine wpQuiet_step (fun K hK => ?_); refine q_load (p := .pointer (some ⟨bb, oo + k * 6, none⟩)) 25 _ rfl rfl rfl (HLD8.out) ?_; go_simp; (with_reducible refine hK _ ?_); clear hK K
        refine wpQuiet_step (fun K hK => ?_); go_simp; (with_reducible refine ⟨_, fun wq hb => (HB1.out wq hb).mono fun _ _ h => ⟨h.1, hb.trans (h.2.mono (by simpa using hb.size))⟩, hK _ ?_⟩); clear hK K
        refine wpQuiet_step (fun K hK => ?_); refine q_bin _ _ _ _ _ rfl rfl rfl rfl (ne64_is HN1.out) ?_; go_simp; (with_reducible refine hK _ ?_); clear hK K
        refine wpQuiet_step (fun K hK => ?_); go_simp; (first | (with_reducible refine hK _ ?_) | (with_reducible refine ⟨_, fun _ _ => rfl, hK _ ?_⟩)); clear hK K
        refine wpQuiet_step (fun K hK => ?_); go_simp; (first | (with_reducible refine hK _ ?_) | (with_reducible refine ⟨_, fun _ _ => rfl, hK _ ?_⟩)); clear hK K
        refine wpQuiet_step (fun K hK => ?_); refine q_load (p := .pointer (some ⟨ga, 0, none⟩)) 25 _ rfl rfl rfl (HLT8.out) ?_; go_simp; (with_reducible refine hK _ ?_); clear hK K
        refine wpQuiet_step (fun K hK => ?_); go_simp; (with_reducible refine ⟨_, fun wq hb => (HA2.out wq hb).mono fun _ _ h => ⟨h.1, hb.trans (h.2.mono (by simpa using hb.size))⟩, hK _ ?_⟩); clear hK K
        refine wpQuiet_step (fun K hK => ?_); refine q_load (p := .pointer (some ⟨gr, 0, none⟩)) 31 _ rfl rfl rfl (HLR8.out) ?_; go_simp; (with_reducible refine hK _ ?_); clear hK K
        refine wpQuiet_step (fun K hK => ?_); refine q_load (p := .pointer (some ⟨ga, 0, none⟩)) 25 _ rfl rfl rfl (HLT8.out) ?_; go_simp; (with_reducible refine hK _ ?_); clear hK K
        refine wpQuiet_step (fun K hK => ?_); go_simp; (with_reducible refine ⟨_, fun wq hb => (HB2.out wq hb).mono fun _ _ h => ⟨h.1, hb.trans (h.2.mono (by simpa using hb.size))⟩, hK _ ?_⟩); clear hK K
        refine wpQuiet_step (fun K hK => ?_); refine q_bin _ _ _ _ _ rfl rfl rfl rfl (ne64_is HN2.out) ?_; go_simp; (with_reducible refine hK _ ?_); clear hK K
        refine wpQuiet_step (fun K hK => ?_); go_simp; (first | (with_reducible refine hK _ ?_) | (with_reducible refine ⟨_, fun _ _ => rfl, hK _ ?_⟩)); clear hK K
        refine wpQuiet_nil ?_
        intro w9 hb9
        have hp9 := HP8.out.below hb9
        have HP9 := Lib.hid hp9
        clear hb9 HP8 HA1 HB1 HN1 HA2 HB2 HN2 HLR8 HLD8 HLT8
        have HKL := Lib.hid (show K.length ≤ 61 by have := hp9.c1.len; have := HLN.out; omega)
        have kk := times_any hp9.c1 (by have := HKL.out; omega)
        have KK := Lib.hid kk; clear kk hp9
        go_wp2_with fail
        refine (KK.out).mono ?_; rintro e w10 ⟨⟨v, rfl, hv⟩, hb10⟩
        have hp10 := HP9.out.below hb10
        have kk := frontier_any hp10.c1 (by have := HKL.out; omega)
        have HV := Lib.hid hv; have HB10 := Lib.hid hb10; have HP10 := Lib.hid hp10
        clear KK hv hb10 hp10
        have KK := Lib.hid kk; clear kk
        go_wp2_with fail
        refine (KK.out).mono ?_; rintro e w11 ⟨⟨v2, rfl, hv2⟩, hb11⟩
        have hv := own_kept HV.out hb11
        obtain ⟨X, hX⟩ : ∃ X, timesC K = X := ⟨_, rfl⟩
        obtain ⟨Y, hY⟩ : ∃ Y, frC K = Y := ⟨_, rfl⟩
        rw [hX] at hv
        rw [hY] at hv2
        have hx61 : X.length ≤ 61 := by rw [← hX, timesC_len]; exact HKL.out
        have hy61 : Y.length ≤ 61 := by rw [← hY]; exact Nat.le_trans (frC_len _) HKL.out
        obtain ⟨A5, c5, rfl, hs5⟩ := Slc.of_own hv
        obtain ⟨A6, c6, rfl, hs6⟩ := Slc.of_own hv2
        obtain ⟨gx, hgx⟩ := antichainOf.own_wr0 (fun hn => antichainOf.own_wr hv hn)
        have hp11 := HP10.out.below hb11
        have kk := refTimes_any A2 K c2 d w11 hp11.rf (by have := HKL.out; omega)
        rw [hX] at kk
        have hr8 := hp11.row
        have r0 : w11.cell? ⟨gr, 0, none⟩ = some (.int .i64 d) := hr8.cell 0
        have r1 : w11.cell? ⟨gr, 1, none⟩ = some (.slice A2 K.length c2) := hr8.cell 1
        clear hr8
        have KK9 := Lib.hid kk; have HX := Lib.hid hX; have HY := Lib.hid hY; have HXL := Lib.hid (And.intro hx61 hy61); have HS5 := Lib.hid hs5; have HS6 := Lib.hid hs6; have HGX := Lib.hid hgx; have HP11 := Lib.hid hp11
        have HB11 := Lib.hid (HB10.out.trans (hb11.mono HB10.out.size))
        clear kk KK hv hv2 hX hY hx61 hy61 hs5 hs6 hgx hb11 hp11 HV HB10 HP10
        dsimp only
        go_wp2_with fail
        refine (KK9.out).mono ?_; rintro e w12 ⟨⟨v3, rfl, hv3⟩, hb12⟩
        obtain ⟨A7, c7, rfl, hs7⟩ := Slc.of_own hv3
        have HSA := Lib.hid (refSameW (HS5.out.below hb12) hs7 (by have := HXL.out; omega) (by have := HXL.out; omega) (decide_eq_true rfl))
        have HB12 := Lib.hid hb12; have HP12 := Lib.hid (HP11.out.below hb12); have HS6b := Lib.hid (HS6.out.below hb12)
        clear hb12 hs7 hv3 KK9 HP11 HS6 r0 r1
        dsimp only
        go_wp2_with fail
        refine (HSA.out _ (Below.refl _ _)).mono ?_; rintro e w13 ⟨rfl, hb13⟩
        have hp13 := HP12.out.below hb13
        have kk := refFrontier_any A2 K c2 d w13 hp13.rf (by have := HKL.out; omega) hp13.c1.even
        rw [HY.out] at kk
        have hr8 := hp13.row
        have r0 : w13.cell? ⟨gr, 0, none⟩ = some (.int .i64 d) := hr8.cell 0
        have r1 : w13.cell? ⟨gr, 1, none⟩ = some (.slice A2 K.length c2) := hr8.cell 1
        clear hr8
        have KK9 := Lib.hid kk; have HP13 := Lib.hid hp13; have HS6c := Lib.hid (HS6b.out.below hb13); have HB13 := Lib.hid (HB12.out.trans (hb13.mono HB12.out.size))
        clear kk hp13 hb13 HSA HP12 HS6b HB12
        go_wp2_with fail
        refine (KK9.out).mono ?_; rintro e w14 ⟨⟨A8, c8, rfl, hs8⟩, hb14⟩
        have HSA := Lib.hid (refSameW (HS6c.out.below hb14) hs8 (by have := HXL.out; omega) (by have := HXL.out; omega) (decide_eq_true rfl))
        have HB14 := Lib.hid (HB13.out.trans (hb14.mono HB13.out.size))
        clear hb14 hs8 KK9 HP13 HB13 HS6c r0 r1
        dsimp only
        go_wp2_with fail
        refine (HSA.out _ (Below.refl _ _)).mono ?_; rintro e w15 ⟨rfl, hb15⟩
        have HB15 := Lib.hid (HB14.out.trans (hb15.mono HB14.out.size))
        have hst : Below w9.heap.size w9 w15 ∧ (0 < X.length → antichainOf.Wr w15 gx X.length) := ⟨HB11.out.trans (HB15.out.mono HB11.out.size), fun hn => (HGX.out hn).2.2.below HB15.out⟩
        have HST := Lib.hid hst
        have HGX2 := Lib.hid (fun hn => And.intro (HGX.out hn).1 (HGX.out hn).2.1)
        clear hst hb15 HSA HB14 HB15 HGX HB11 HS5
        go_wp2_with fail
        go_loopw [16] (fun i wq => ∃ q : Nat, q ≤ X.length ∧ i = .int .i64 q ∧ Below w9.heap.size w9 wq ∧ (0 < X.length → antichainOf.Wr wq gx X.length)) (fun i _ => X.length - (intOf i).toNat)
        case atStart => exact ⟨0, by omega, rfl, HST.out.1, HST.out.2⟩
        case round =>
          obtain ⟨q, hq, rfl, hbq, hwq⟩ := hrel
          clear HST
          by_cases hlq : q < X.length
          · have hlqz : (q : Int) < (X.length : Int) := by omega
            have hxl := HXL.out.1
            obtain ⟨hA5, hge⟩ := HGX2.out (by omega)
            have hwr := hwq (by omega)
            subst hA5
            obtain ⟨x, hx⟩ := hwr.cell hlq
            have hfr := hwr.free (q * 5 + 1)
            have hgl := hwr.lt
            have HSTEP := Lib.hid (show Below w9.heap.size w9 (wr.setCell ⟨gx, q * 5 + 1, none⟩ (.int .i64 (-9))) ∧ antichainOf.Wr (wr.setCell ⟨gx, q * 5 + 1, none⟩ (.int .i64 (-9))) gx X.length from ⟨hbq.setCell hge _, hwr.put _ _⟩)
            clear hwr hge hwq hbq
            go_wp2_with fail
            go_roundw
            case rel => exact ⟨q + 1, by omega, by simp, by first | exact HSTEP.out.1 | simpa using HSTEP.out.1, fun _ => by first | exact HSTEP.out.2 | simpa using HSTEP.out.2⟩
            case measure => simp only [intOf]; omega
          · have hlqz : ¬ (q : Int) < (X.length : Int) := by omega
            have hp16 := HP9.out.below hbq
            have hset := add_any hp16.c2 (by have := HLN.out; unfold maxLen; omega) t 5
            unfold St.val at hset
            obtain ⟨c40, c41, c42, c43, c44⟩ := hp16.tt.cells5
            have HSE := Lib.hid hset; have HP16 := Lib.hid hp16; clear hset hp16 hwq hbq HP9 HGX2
            go_wp2_with fail
            refine (HSE.out).mono ?_; rintro e w17 ⟨rfl, m3, hct, htc, hm3⟩
            have HP17 := Lib.hid (HP16.out.add2 hct htc hm3)
            clear hct htc hm3 HSE HP16 c40 c41 c42 c43 c44
            obtain ⟨q3, hq3⟩ : ∃ q, cnt K t = q := ⟨_, rfl⟩
            have hk2 : ∀ w', Below w17.heap.size w17 w' → Calls Try.prog 15 #[.pointer (some ⟨b1, 0, none⟩), .agg #[.int .i64 t.d, .int .i64 t.e, .int .i64 t.x, .int .i64 t.y, .int .i64 t.z]] w' fun e w'' => e = .returned (.int .i64 q3) ∧ Below w'.heap.size w' w'' := fun w' hw => by
              have h1 := count_any (HP17.out.c1.below hw) t HTW.out
              rw [hq3] at h1; exact h1
            have hk3 : ∀ w', Below w17.heap.size w17 w' → Calls Try.prog 16 #[.agg #[.int .i64 d, .slice A2 K.length c2], .agg #[.int .i64 t.d, .int .i64 t.e, .int .i64 t.x, .int .i64 t.y, .int .i64 t.z]] w' fun e w'' => e = .returned (.int .i64 q3) ∧ Below w'.heap.size w' w'' := fun w' hw => by
              have h1 := refCount_any A2 K c2 d t w' (HP17.out.rf.below hw) (by have := HLN.out; have := HP17.out.c1.len; omega) HP17.out.c1.ok
              rw [hq3] at h1; exact h1
            have HA3 := Lib.hid hk2; have HB3 := Lib.hid hk3; have HN3 := Lib.hid (show (q3 != q3) = false by simp)
            clear hk2 hk3 hq3
            have HLR17 := Lib.hid (fun w' (hw : Below w17.heap.size w17 w') => load_rc HP17.out.row w' hw)
            have HLD17 := Lib.hid (fun w' (hw : Below w17.heap.size w17 w') => HLD0.out w' (HP17.out.bw.trans (hw.mono HP17.out.bw.size)))
            have HLT17 := Lib.hid (load_t HP17.out.tt)
            have htm : ∀ w', Below w17.heap.size w17 w' → Calls Try.prog 17 #[.pointer (some ⟨b1, 0, none⟩)] w' (Gives1 w' X) := fun w' hw => by
              have h1 := times_any (HP17.out.c1.below hw) (by have := HKL.out; omega)
              rw [HX.out] at h1; exact h1
            have hrm : ∀ w', Below w17.heap.size w17 w' → Calls Try.prog 20 #[.agg #[.int .i64 d, .slice A2 K.length c2]] w' (Gives1 w' X) := fun w' hw => by
              have h1 := refTimes_any A2 K c2 d w' (HP17.out.rf.below hw) (by have := HKL.out; omega)
              rw [HX.out] at h1; exact h1
            have HTM := Lib.hid htm; have HRM := Lib.hid hrm; clear htm hrm
            go_wp2_with fail
            refine Free.wp_key (by kernel_rfl) (by kernel_rfl) (fun b vs wq => Et w17 X b vs wq) (V26 b1 ga gr d q3 K X t A2 c2) (fun vs => ⟨(Below.refl _ _).drew, fun e => absurd e (by decide), fun e => absurd e (by decide)⟩) ?_ ?_
            · intro i o hi b vs a wa hold hpre hbi hF
              match i with
              | 0 =>
                cases hi
                exact Free.c_all rfl (Free.g_move _ rfl ⟨((hold 7 (by decide)).trans rfl), hF.keep (Below.refl _ _) (by decide)⟩)
              | 1 =>
                cases hi
                exact Free.c_all rfl (Free.g_load _ _ rfl ((hold 5 (by decide)).trans rfl) (HLT17.out wa hF.1) ⟨rfl, hF.keep (Below.refl _ _) (by decide)⟩)
              | 2 =>
                cases hi
                have h0 : a.eval (.tmp 145) = .pointer (some ⟨b1, 0, none⟩) := (hpre 0 _ _ (by kernel_rfl) rfl rfl).2.2
                have h1 : a.eval (.tmp 146) = .agg #[.int .i64 t.d, .int .i64 t.e, .int .i64 t.x, .int .i64 t.y, .int .i64 t.z] := (hpre 1 _ _ (by kernel_rfl) rfl rfl).2.2
                refine Free.c_all rfl (Free.g_call _ _ rfl Try.func15 (by kernel_rfl) rfl [.pointer (some ⟨b1, 0, none⟩), .agg #[.int .i64 t.d, .int .i64 t.e, .int .i64 t.x, .int .i64 t.y, .int .i64 t.z]] (by show [a.eval (.tmp 145), a.eval (.tmp 146)] = _; rw [h0, h1]) ?_)
                exact (HA3.out wa hF.1).mono fun e w2 ⟨he, hb2⟩ => ⟨_, he, rfl, hF.keep hb2 (by decide)⟩
              | 3 =>
                cases hi
                exact Free.c_all rfl (Free.g_load _ _ rfl ((hold 8 (by decide)).trans rfl) (HLR17.out wa hF.1) ⟨rfl, hF.keep (Below.refl _ _) (by decide)⟩)
              | 4 =>
                cases hi
                exact Free.c_all rfl (Free.g_load _ _ rfl ((hold 5 (by decide)).trans rfl) (HLT17.out wa hF.1) ⟨rfl, hF.keep (Below.refl _ _) (by decide)⟩)
              | 5 =>
                cases hi
                have h0 : a.eval (.tmp 148) = .agg #[.int .i64 d, .slice A2 K.length c2] := (hpre 3 _ _ (by kernel_rfl) rfl rfl).2.2
                have h1 : a.eval (.tmp 149) = .agg #[.int .i64 t.d, .int .i64 t.e, .int .i64 t.x, .int .i64 t.y, .int .i64 t.z] := (hpre 4 _ _ (by kernel_rfl) rfl rfl).2.2
                refine Free.c_all rfl (Free.g_call _ _ rfl Try.func16 (by kernel_rfl) rfl [.agg #[.int .i64 d, .slice A2 K.length c2], .agg #[.int .i64 t.d, .int .i64 t.e, .int .i64 t.x, .int .i64 t.y, .int .i64 t.z]] (by show [a.eval (.tmp 148), a.eval (.tmp 149)] = _; rw [h0, h1]) ?_)
                exact (HB3.out wa hF.1).mono fun e w2 ⟨he, hb2⟩ => ⟨_, he, rfl, hF.keep hb2 (by decide)⟩
              | 6 =>
                cases hi
                have h2 : a.eval (.tmp 147) = .int .i64 q3 := (hpre 2 _ _ (by kernel_rfl) rfl rfl).2.2
                have h3 : a.eval (.tmp 150) = .int .i64 q3 := (hpre 5 _ _ (by kernel_rfl) rfl rfl).2.2
                exact Free.c_all rfl (Free.g_bin _ _ _ _ _ rfl h2 h3 (ne64_is HN3.out wa) ⟨rfl, hF.keep (Below.refl _ _) (by decide)⟩)
              | 7 =>
                cases hi
                have h0 : a.eval (.tmp 151) = .bool false := (hpre 6 _ _ (by kernel_rfl) rfl rfl).2.2
                exact Free.c_all rfl (Free.g_move _ rfl ⟨h0, hF.keep (Below.refl _ _) (by decide)⟩)
              | 8 =>
                cases hi
                have hg : a.eval (.tmp 152) = .bool false := (hpre 7 _ _ (by kernel_rfl) rfl rfl).2.2
                exact Free.c_yes rfl rfl rfl hg (Free.g_move _ rfl ⟨((hold 7 (by decide)).trans rfl), hF.keep (Below.refl _ _) (by decide)⟩)
              | 9 =>
                cases hi
                have hg : a.eval (.tmp 152) = .bool false := (hpre 7 _ _ (by kernel_rfl) rfl rfl).2.2
                have h0 : a.eval (.tmp 153) = .pointer (some ⟨b1, 0, none⟩) := (hpre 8 _ _ (by kernel_rfl) rfl rfl).2.2
                refine Free.c_yes rfl rfl rfl hg (Free.g_call _ _ rfl Try.func17 (by kernel_rfl) rfl [.pointer (some ⟨b1, 0, none⟩)] (by show [a.eval (.tmp 153)] = _; rw [h0]) ?_)
                exact (HTM.out wa hF.1).mono fun e w9 ⟨⟨v9, he, hv9⟩, hb9⟩ => by obtain ⟨A9, c9, rfl, hs9⟩ := Slc.of_own hv9; exact ⟨_, he, ⟨A9, c9, rfl⟩, hF.step hb9 (fun _ => ⟨A9, c9, rfl, hs9⟩) (fun e => absurd e (by decide))⟩
              | 10 =>
                cases hi
                have hg : a.eval (.tmp 152) = .bool false := (hpre 7 _ _ (by kernel_rfl) rfl rfl).2.2
                exact Free.c_yes rfl rfl rfl hg (Free.g_load _ _ rfl ((hold 8 (by decide)).trans rfl) (HLR17.out wa hF.1) ⟨rfl, hF.keep (Below.refl _ _) (by decide)⟩)
              | 11 =>
                cases hi
                have hg : a.eval (.tmp 152) = .bool false := (hpre 7 _ _ (by kernel_rfl) rfl rfl).2.2
                have h0 : a.eval (.tmp 155) = .agg #[.int .i64 d, .slice A2 K.length c2] := (hpre 10 _ _ (by kernel_rfl) rfl rfl).2.2
                refine Free.c_yes rfl rfl rfl hg (Free.g_call _ _ rfl Try.func20 (by kernel_rfl) rfl [.agg #[.int .i64 d, .slice A2 K.length c2]] (by show [a.eval (.tmp 155)] = _; rw [h0]) ?_)
                exact (HRM.out wa hF.1).mono fun e w9 ⟨⟨v9, he, hv9⟩, hb9⟩ => by obtain ⟨A9, c9, rfl, hs9⟩ := Slc.of_own hv9; exact ⟨_, he, ⟨A9, c9, rfl⟩, hF.step hb9 (fun e => absurd e (by decide)) (fun _ => ⟨A9, c9, rfl, hs9⟩)⟩
              | 12 =>
                cases hi
                have hg : a.eval (.tmp 152) = .bool false := (hpre 7 _ _ (by kernel_rfl) rfl rfl).2.2
                obtain ⟨hb9, hv9, -⟩ := hpre 9 _ _ (by kernel_rfl) rfl  rfl
                obtain ⟨hb11, hv11, -⟩ := hpre 11 _ _ (by kernel_rfl) rfl  rfl
                obtain ⟨A9, c9, e9, hs9⟩ := hF.2.1 hb9
                obtain ⟨A8, c8, e8, hs8⟩ := hF.2.2 hb11
                rw [e9] at hv9
                rw [e8] at hv11
                refine Free.c_yes rfl rfl rfl hg (Free.g_call _ _ rfl Try.func19 (by kernel_rfl) rfl [.slice A9 X.length c9, .slice A8 X.length c8] (by show [a.eval (.tmp 154), a.eval (.tmp 156)] = _; rw [hv9, hv11]) ?_)
                exact (refSameW hs9 hs8 (by have := HXL.out; omega) (by have := HXL.out; omega) (decide_eq_true rfl) _ (Below.refl _ _)).mono fun e w2 ⟨he, hb2⟩ => ⟨_, he, rfl, hF.keep hb2 (by decide)⟩
              | 13 =>
                cases hi
                have hg : a.eval (.tmp 152) = .bool false := (hpre 7 _ _ (by kernel_rfl) rfl rfl).2.2
                have h0 : a.eval (.tmp 157) = .bool true := (hpre 12 _ _ (by kernel_rfl) rfl rfl).2.2
                exact Free.c_yes rfl rfl rfl hg (g_not _ _ rfl h0 ⟨rfl, hF.keep (Below.refl _ _) (by decide)⟩)
              | 14 =>
                cases hi
                have h1 : a.eval (.tmp 152) = .bool false := (hpre 7 _ _ (by kernel_rfl) rfl rfl).2.2
                have h3 : a.eval (.tmp 158) = .bool false := (hpre 13 _ _ (by kernel_rfl) rfl rfl).2.2
                exact Free.c_all rfl (Free.g_pick _ _ _ rfl h1 rfl h3 ⟨rfl, hF.keep (Below.refl _ _) (by decide)⟩)
              | _ + 15 => cases hi
            · intro vs we hv hF
              have hlast : vs 14 = .bool false := hv 14 (by simp) (by rintro o ⟨⟩; rfl)
              have HP18 := Lib.hid (HP17.out.below hF.1)
              clear hv hF
              simp only [Free.puts, Nat.reduceAdd, hlast]
              clear hlast
              generalize vs 0 = y0
              generalize vs 1 = y1
              generalize vs 2 = y2
              generalize vs 3 = y3
              generalize vs 4 = y4
              generalize vs 5 = y5
              generalize vs 6 = y6
              generalize vs 7 = y7
              generalize vs 8 = y8
              generalize vs 9 = y9
              generalize vs 10 = y10
              generalize vs 11 = y11
              generalize vs 12 = y12
              generalize vs 13 = y13
              have hln := HL.out
              go_simp
              go_wp2_with fail
              go_roundw
              case rel =>
                refine ⟨k + 1, by omega, by simp, ?_⟩
                unfold At
                rw [HNX.out]
                exact ⟨_, N + 1, A2, c2, by have := HNK.out; omega, HP18.out.bw, HP18.out.c1, HP18.out.row, HP18.out.rf, HP18.out.tt⟩
              case measure => simp only [intOf]; omega
    · have hltz : ¬ (k : Int) < (l.length : Int) := by omega
      have HBW := Lib.hid hbw; clear hc hr hf ht hbw
      go_wp2_with fail
      refine (WW.out _).mono ?_; rintro e we ⟨rfl, hbe⟩
      go_wp2_with fail
      go_ret
      exact ⟨rfl, HBW.out.trans (hbe.mono HBW.out.size)⟩

set_option maxRecDepth 100000 in
theorem lifted (os : Os) (started : os.Started) (H : Type) (enc : TypeId × Value → H) :
    ReturnsInHanded {} Try.checked os 3 .any (Rows.countsPlaysSpec.pre6 enc Try.prog Try.f3 Rows.countsPlaysRow.domain false) (Rows.countsPlaysSpec.post enc Try.prog Try.f3 false true false false) := by
  refine returnsInHanded_of_change_sized (C := Try.checked) ownKnob_none started (by kernel_rfl) Try.func3
    (ChangeSpec.witness6 (enc := enc) (C := Try.checked) false ⟨#[], #[.int .i64 0, .slice none 0 0, .agg #[.int .i64 0, .int .i64 0, .int .i64 0, .int .i64 0, .int .i64 0]], []⟩ 8 (by kernel_rfl) (by kernel_rfl) (by kernel_rfl) (by kernel_rfl)) ?_
  intro W base args ds gs before hval0 hW hcnd hsz0 _
  have hval : ∀ (j : Nat) t v, Try.f3.params[j]? = some t → args[j]? = some v → Value.okWide Try.prog W .any base t v := hval0
  have hW' := hW
  obtain ⟨p, q, hA0, hV, rfl, hfz, hnd⟩ := hW
  have hA : DataW.TrodAll enc Try.prog W 0 (fun _ => true) true Try.f3.params.toList args.toList ds p := hA0
  have hsz : (DataW.weightsEach Try.prog (Try.f3.params.toList ++ Rows.countsPlaysSpec.plain.varTypes Try.prog) (ds ++ gs)).all (· ≤ reachBytes) = true := hsz0
  rw [Try.params3] at hA hval hsz
  obtain ⟨v0, vs0, d0, ds0, p0, q0, hargs, rfl, rfl, h0, r0⟩ := trodAll_cons hA
  obtain ⟨v1, vs1, d1, ds1, p1, q1, rfl, rfl, rfl, h1, r1⟩ := trodAll_cons r0
  obtain ⟨v2, vs2, d2, ds2, p2, q2, rfl, rfl, rfl, h2, r2⟩ := trodAll_cons r1
  obtain ⟨rfl, rfl, rfl⟩ := trodAll_nil r2
  obtain rfl : args = #[v0, v1, v2] := by cases args; simp_all
  obtain ⟨rfl, rfl⟩ := trodVars_none hV
  obtain ⟨a0, rfl, rfl, rfl, w0⟩ := open_int Try.underlying3 (hval 0 3 v0 rfl rfl) h0
  have b0 := i64_wf w0
  obtain ⟨A1, l1, c1, rfl, hP1, hW1, hc1, hm1⟩ := open_steps (hval 1 22 v1 rfl rfl) h1
  obtain ⟨t2, rfl, hW2⟩ := open_stampW (hval 2 25 v2 rfl rfl) h2
  clear hA0 hval0 hsz0
  refine (walk a0 A1 l1 c1 t2 W hP1 (fun p hp => (hW1 p hp).1) hW2 hc1 hm1).mono fun e W' ⟨he, hg⟩ => ?_
  subst he
  exact ⟨_, rfl, law_post progLaid hW' rfl (by rw [Try.params3]; intro t ht; simp at ht; rcases ht with rfl | rfl | rfl <;> exact ⟨by kernel_rfl, of_decide_eq_true (by kernel_rfl)⟩) rfl Try.underlying4 rfl hg⟩

theorem over : Rows.countsPlaysRow.holds Try.pinned (OpenSpec.ofChange Rows.countsPlaysSpec) :=
  OpenClaim.holds_of_wide 3 Try.f3 rfl rfl rfl rfl rfl rfl rfl ⟨rfl, rfl, rfl, rfl, rfl⟩ rfl rfl rfl rfl rfl (by kernel_rfl) Try.func3 (by kernel_rfl)
    (of_decide_eq_true (by kernel_rfl)) (by unfold Func.isWrapper; first | (rw [if_pos (by decide +kernel)]; kernel_rfl) | (rw [if_neg (by decide +kernel)]; exact ⟨rfl, rfl⟩))
    (fun os started H enc _ => lifted os started H enc)

/-- The statement. -/
theorem proved : Rows.CountsPlaysSaid :=
  over
end countsPlays
end
end Go.Proofs.Ytkbabmifdfmhlaa
