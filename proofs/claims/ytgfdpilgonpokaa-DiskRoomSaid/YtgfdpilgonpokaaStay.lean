/- What stays of a file. -/
import Derived.Test.YtgfdpilgonpokaaRead1
namespace Go.Proofs.Ytgfdpilgonpokaa
open Go.ChangeShapes Go.WideShapes Go.ChangeAt Go.RowKit Go.BigFrame Go.Maps Go.Sort
set_option linter.unusedVariables false
/-- how many bytes stay -/
def stayN (x : Fil) (wish : Int) : Nat := x.sure + (wish % ((x.b.length - x.sure : Nat) + 1)).toNat
def stay1 (x : Fil) (wish : Int) : Option Fil := if stayN x wish = 0 ∧ x.made = false then none else some (cutF x (stayN x wish))
def stayF (n : Nm) (wish : Int) (fs : Fs) : Fs := match getF n fs with
  | some x => (match stay1 x wish with | some y => putF n y fs | none => delF n fs)
  | none => fs
theorem stayN_le {x : Fil} {wish : Int} (h : x.sure ≤ x.b.length) : stayN x wish ≤ x.b.length := by
  unfold stayN
  have h1 := Int.emod_lt_of_pos wish (show 0 < (((x.b.length - x.sure : Nat) : Int) + 1) by omega)
  omega
section
variable {w w' : World} {F : Nat → Prop} {fs : Fs} {g : Nm → Nat} {v : Nm → Value} {n : Nm} {x y : Fil} {p r u dd f : Nat} {m : Option Nat} {o : Bool} {d : DM}
theorem left_quiet (a b : Int) (w : World) (hn : -9223372036854775808 ≤ a ∧ a ≤ 9223372036854775807) (hm : 1 ≤ b ∧ b ≤ 8388609) (k : Nat) :
    Calls Try.prog 67 #[.int .i64 a, .int .i64 b] (w.drewN k) fun e w' => e = .returned (.int .i64 (a % b)) ∧ ∃ j, w' = w.drewN j :=
  Calls.quiet_of_same ((left_any a b (w.drewN k) hn hm).mono fun _ _ ⟨he, hm⟩ => ⟨he, hm.symm⟩)
/-- what a call on a disk leaves, the disk's own numbers but for the files the same -/
def Kept (F : Nat → Prop) (p r dd f : Nat) (o : Bool) (m : Option Nat) (fs : Fs) (g : Nm → Nat) (w w' : World) : Prop := Left F p r (usedF fs) dd f o m fs g w w'
theorem Kept.drew {n1 : Nat} (h : Kept F p r dd f o m fs g (w.drewN n1) w') : Kept F p r dd f o m fs g w w' := by
  obtain ⟨v', h1, h2, h3⟩ := h
  exact ⟨v', h1, h2, ((Touch.refl F w).drewN n1).trans h3⟩
set_option maxRecDepth 100000 in
set_option maxHeartbeats 2000000 in
theorem stay_any (h : Row w p TD (dcells r (usedF fs) m dd o f)) (hH : Held w F p m fs g v) (s : ByteArray) (hs : s.size ≤ 9223372036854775807) (hg : getF s.data.toList fs = some x) (wish : Int) (hw : -9223372036854775808 ≤ wish ∧ wish ≤ 9223372036854775807) (hu : usedF fs ≤ 9223372036854775807) :
    Calls Try.prog 40 #[.pointer (some ⟨p, 0, none⟩), .string s, .int .i64 wish] w fun e w' => e = .returned (.tuple #[]) ∧ Kept F p r dd f o m (stayF s.data.toList wish fs) g w w' := by
  have hx := hH.files.at_ _ _ hg
  have hsu := hH.ok.sure _ _ hg
  have hl8 := hH.ok.len _ _ hg
  have hlu := lenF_le (n := s.data.toList) hH.ok.sort
  rw [lenF_some hg] at hlu
  obtain ⟨h0, h1, h2, h3, h4, h5⟩ := drow h
  obtain ⟨k0, k1, k2⟩ := frow hx
  obtain ⟨A, c, hv, hc, hcm⟩ := fslice hx
  rw [hv] at k0
  have hlk := lookup_run hH.map s hs
  rw [ptrOf_some hg] at hlk
  obtain ⟨D, hD⟩ : ∃ D, D = x.b.length - x.sure := ⟨_, rfl⟩
  have hNle := stayN_le (wish := wish) hsu
  obtain ⟨R, hR⟩ : ∃ R, R = (wish % ((D : Int) + 1)).toNat := ⟨_, rfl⟩
  have hRe : wish % ((D : Int) + 1) = (R : Int) := by have := Int.emod_nonneg wish (show ((D : Int) + 1) ≠ 0 by omega); omega
  obtain ⟨N, hN⟩ : ∃ N, N = stayN x wish := ⟨_, rfl⟩
  have hNs : N = x.sure + R := by rw [hN, hR, hD]; rfl
  rw [← hN] at hNle
  obtain ⟨L, hL⟩ : ∃ L, L = x.b.length := ⟨_, rfl⟩
  obtain ⟨S, hS⟩ : ∃ S, S = x.sure := ⟨_, rfl⟩
  rw [← hL] at hsu hl8 hlu hD hNle k0 hc
  rw [← hS] at hsu hD hNs k1
  have hq1 : IntKind.i64.wrap ((L : Int) - (S : Int)) = (D : Int) := by rw [IntWalk.i64_in _ (by omega)]; omega
  have hq2 : IntKind.i64.wrap ((D : Int) + 1) = (D : Int) + 1 := IntWalk.i64_in _ (by omega)
  have hq3 : IntKind.i64.wrap ((S : Int) + (R : Int)) = (N : Int) := by rw [IntWalk.i64_in _ (by omega)]; omega
  have hle := fun k => left_quiet wish ((D : Int) + 1) w hw (by omega) k
  rw [hRe] at hle
  have HLE := Lib.hid hle; have HH := Lib.hid hH; have HRow := Lib.hid h; have HG := Lib.hid hg
  have HN := Lib.hid hN; have HLx := Lib.hid hL; have HNle := Lib.hid hNle; have Hlu := Lib.hid hlu
  have hst : stay1 x wish = if N = 0 ∧ x.made = false then none else some (cutF x N) := by rw [hN]; rfl
  have hsF : stayF s.data.toList wish fs = if N = 0 ∧ x.made = false then delF s.data.toList fs else putF s.data.toList (cutF x N) fs := by
    unfold stayF; rw [hg]
    show (match stay1 x wish with | some y => putF s.data.toList y fs | none => delF s.data.toList fs) = _
    rw [hst]
    by_cases hh : N = 0 ∧ x.made = false
    · simp only [if_pos hh]
    · simp only [if_neg hh]
  have HSF := Lib.hid hsF
  obtain ⟨gb, hgb⟩ : ∃ gb, gb = g s.data.toList := ⟨_, rfl⟩
  have Hgb := Lib.hid hgb
  rw [← hgb] at k0 k1 k2 hlk
  clear hx hv hle hH h hg hst hsF hL hS hR hRe hN hD hgb hNs hNle hlu
  by_cases hdr : N = 0 ∧ x.made = false
  · have hdrop : ∀ k, Calls Try.prog 43 #[.pointer (some ⟨p, 0, none⟩), .string s] (w.drewN k) fun e w' => e = .returned (.tuple #[]) ∧ Row w' p TD (dcells r (usedF fs - lenF s.data.toList fs) m dd o f) ∧ Held w' F p m (delF s.data.toList fs) g v ∧ Touch F (w.drewN k) w' ∧ FilesAt w' F fs g v := fun k =>
      drop_held (w := w.drewN k) (HRow.out.drewN k) (HH.out.touch ((Touch.refl (fun _ => False) w).drewN k) (by simp)) s hs (by have := Hlu.out; rw [lenF_some HG.out, ← HLx.out]; omega) hu
    have HDrop := Lib.hid hdrop; clear hdrop
    have hsf : stayF s.data.toList wish fs = delF s.data.toList fs := by rw [HSF.out, if_pos hdr]
    have Hsf := Lib.hid hsf; clear hsf
    obtain ⟨hN0, hmd⟩ := hdr
    subst hN0
    rw [hmd] at k2
    go_enter Try.func40, Try.ntmps40
    go_wp2_with fail
    go_quiet ((go_at_call 67; exact HLE.out _))
    go_wp2_with fail
    refine (HDrop.out _).mono ?_; rintro e w2 ⟨rfl, h1', h2', h3', -⟩
    have H1 := Lib.hid h1'; have H2 := Lib.hid h2'; have H3 := Lib.hid h3'; clear h1' h2' h3'
    go_wp2_with fail
    refine bodyPost_ret (results_none rfl _ _ _) rfl ?_
    refine ⟨rfl, ?_⟩
    rw [Hsf.out]
    refine Kept.drew (n1 := nq) ⟨v, ?_, H2.out.mono fun k hk => .inl hk, H3.out⟩
    have e1 : usedF (delF s.data.toList fs) = usedF fs - lenF s.data.toList fs := by have := usedF_del (n := s.data.toList) HH.out.ok.sort; omega
    rw [e1]; exact H1.out
  · have hset : ∀ k, Calls Try.prog 53 #[.pointer (some ⟨p, 0, none⟩), .pointer (some ⟨gb, 0, none⟩), .int .i64 (N : Nat)] (w.drewN k) fun e w' => e = .returned (.tuple #[]) ∧ Left F p r (usedF fs - (x.b.length - N)) dd f o m (putF s.data.toList (cutF x N) fs) g (w.drewN k) w' := fun k => by
      have := settle_held (w := w.drewN k) (HRow.out.drewN k) (HH.out.touch ((Touch.refl (fun _ => False) w).drewN k) (by simp)) HG.out N (by rw [← HLx.out]; exact HNle.out) (by rw [← HLx.out]; exact Hlu.out) hu
      rw [← Hgb.out] at this
      exact this
    have HSet := Lib.hid hset; clear hset
    have hsf : stayF s.data.toList wish fs = putF s.data.toList (cutF x N) fs := by rw [HSF.out, if_neg hdr]
    have Hsf := Lib.hid hsf; clear hsf
    have fin : ∀ nq w2, Left F p r (usedF fs - (x.b.length - N)) dd f o m (putF s.data.toList (cutF x N) fs) g (w.drewN nq) w2 → Kept F p r dd f o m (stayF s.data.toList wish fs) g w w2 := by
      intro nq w2 h1
      rw [Hsf.out]
      refine Kept.drew (n1 := nq) ?_
      unfold Kept
      rw [usedF_cut HH.out.ok.sort HG.out (by rw [← HLx.out]; exact HNle.out)]
      exact h1
    have HFin := Lib.hid fin; clear fin
    by_cases hN0 : N = 0
    · subst hN0
      have hmd : x.made = true := by
        cases hm : x.made with
        | true => rfl
        | false => exact absurd ⟨rfl, hm⟩ hdr
      rw [hmd] at k2
      clear hdr hmd
      go_enter Try.func40, Try.ntmps40
      go_wp2_with fail
      go_quiet ((go_at_call 67; exact HLE.out _))
      go_wp2_with fail
      refine (HSet.out _).mono ?_; rintro e w2 ⟨rfl, h1'⟩
      have H1 := Lib.hid h1'; clear h1'
      go_wp2_with fail
      go_end0
      exact ⟨rfl, HFin.out _ _ H1.out⟩
    · have hNb : ((N : Int) == 0) = false := by simpa using (by omega : ¬ (N : Int) = 0)
      clear hdr
      go_enter Try.func40, Try.ntmps40
      go_wp2_with fail
      go_quiet ((go_at_call 67; exact HLE.out _))
      go_wp2_with fail
      refine (HSet.out _).mono ?_; rintro e w2 ⟨rfl, h1'⟩
      have H1 := Lib.hid h1'; clear h1'
      go_wp2_with fail
      go_end0
      exact ⟨rfl, HFin.out _ _ H1.out⟩
end
end Go.Proofs.Ytgfdpilgonpokaa
