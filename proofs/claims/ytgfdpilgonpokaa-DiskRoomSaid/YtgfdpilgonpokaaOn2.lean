/- On; a new disk. -/
import Derived.Test.YtgfdpilgonpokaaOn
namespace Go.Proofs.Ytgfdpilgonpokaa
open Go.ChangeShapes Go.WideShapes Go.ChangeAt Go.RowKit Go.BigFrame Go.Maps Go.Sort
set_option linter.unusedVariables false
section
variable {w w' : World} {F : Nat → Prop} {fs : Fs} {g : Nm → Nat} {v : Nm → Value} {n : Nm} {x y : Fil} {p r u dd f : Nat} {m : Option Nat} {o : Bool} {d : DM}
set_option maxRecDepth 100000 in
theorem on_still (h : Row w p TD (dcells r u m dd false f)) (A : Option Addr) (k c : Nat) :
    Calls Try.prog 16 #[.pointer (some ⟨p, 0, none⟩), .slice A k c] w fun e w' => e = .returned (.tuple #[]) ∧ Row w' p TD (dcells r u m dd false 0) ∧ Touch (· = p) w w' := by
  obtain ⟨h0, h1, h2, h3, h4, h5⟩ := drow h
  have hz := h.free
  have hr := h.put 5 (.int .u64 0)
  have HR := Lib.hid hr; clear hr h
  go_enter Try.func16, Try.ntmps16
  go_wp2_with fail
  refine bodyPost_ret (results_none rfl _ _ _) rfl ?_
  exact ⟨rfl, HR.out, (Touch.refl (· = p) w).setCell (p := ⟨p, 5, none⟩) (.inl rfl) _⟩
theorem onF_len (W : Nat → Int) : ∀ (l : Fs) (i : Nat), (onF W i l).length ≤ l.length
  | [], _ => by simp [onF]
  | p :: r, i => by
    have := onF_len W r (i + 1)
    have h2 : (stays p (W i)).length ≤ 1 := by unfold stays; split <;> simp
    simp only [onF, List.length_append, List.length_cons]; omega
/-- On, whatever it is told -/
theorem on_any (h : DiskAt w p d F m g v) (hFb : ∀ k, F k → k < w.heap.size) (A : Option Addr) (ks : List Int) (c : Nat) (hK : IntsAt w A ks) (hc : ks.length ≤ c) (hcm : c ≤ 9223372036854775807)
    (hKF : ∀ ad, A = some ad → 0 < ks.length → ¬ F ad.block) (hd : d.deeds ≤ 1000000000) :
    Calls Try.prog 16 #[.pointer (some ⟨p, 0, none⟩), .slice A ks.length c] w fun e w' => e = .returned (.tuple #[]) ∧ IsDisk w' p (onD d ks) (Ext F w w') ∧ Touch F w w' := by
  unfold onD
  have hfew := h.few
  cases ho : d.off with
  | true =>
    have hrow := h.row
    rw [ho] at hrow
    refine (on_gone hrow h.held hFb A ks c hK hc hcm hKF (Nat.le_trans h.used h.room) (by omega)).mono ?_
    rintro e w' ⟨rfl, v', h1, h2, h3⟩
    have hu := usedF_on (W := wishOf ks) (fs := d.fs) (fun q hq => h.ok.sure q.1 q.2 (getF_of_mem h.ok.sort hq)) 0
    refine ⟨rfl, ⟨m, g, v', h1, h2.map, h2.files, h2.memp, h2.memm, h2.ok, Nat.le_trans hu h.used, h.room, Nat.le_trans (onF_len _ _ _) h.few, by simp⟩, h3⟩
  | false =>
    have hrow := h.row
    rw [ho] at hrow
    refine (on_still hrow A ks.length c).mono ?_
    rintro e w' ⟨rfl, hr, ht⟩
    have hH := h.held.own h.row ht
    refine ⟨rfl, ⟨m, g, v, by rw [show dcells d.room (usedF d.fs) m d.deeds false 0 = dcells d.room (usedF d.fs) m d.deeds false 0 from rfl] at hr; simpa [ho] using hr, hH.map, hH.files.mono fun k hk => .inl hk, .inl hH.memp, fun b hb => .inl (hH.memm b hb), hH.ok, h.used, h.room, h.few, by simp⟩, ht.mono ?_⟩
    rintro i rfl; exact h.memp
/-- Crash -/
def crashD (d : DM) : DM := { d with off := true, fuse := 0 }
theorem crash_disk (h : DiskAt w p d F m g v) :
    Calls Try.prog 15 #[.pointer (some ⟨p, 0, none⟩)] w fun e w' => e = .returned (.tuple #[]) ∧ DiskAt w' p (crashD d) F m g v ∧ Touch F w w' ∧ w'.heap.size = w.heap.size := by
  refine (crash_any h.row).mono ?_
  rintro e w' ⟨rfl, rfl⟩
  have ht : Touch (· = p) w ((w.setCell ⟨p, 4, none⟩ (.bool true)).setCell ⟨p, 5, none⟩ (.int .u64 0)) := ((Touch.refl (· = p) w).setCell (p := ⟨p, 4, none⟩) (.inl rfl) _).setCell (p := ⟨p, 5, none⟩) (.inl rfl) _
  have hH := h.held.own h.row ht
  refine ⟨rfl, ⟨(h.row.put 4 (.bool true)).put 5 (.int .u64 0), hH.map, hH.files, hH.memp, hH.memm, hH.ok, h.used, h.room, h.few, by simp [crashD]⟩, ht.mono ?_, by simp⟩
  rintro i rfl; exact h.memp
/-- Fail -/
def failD (d : DM) (n : Int) : DM := { d with fuse := (n + 1).toNat }
theorem fail_disk (h : DiskAt w p d F m g v) (n : Int) (hn : -9223372036854775808 ≤ n ∧ n ≤ 9223372036854775807) :
    Calls Try.prog 25 #[.pointer (some ⟨p, 0, none⟩), .int .i64 n] w fun e w' => e = .returned (.tuple #[]) ∧ DiskAt w' p (failD d n) F m g v ∧ Touch F w w' := by
  refine (fail_any n h.row hn).mono ?_
  rintro e w' ⟨rfl, hr, ht⟩
  have hH := h.held.own h.row ht
  refine ⟨rfl, ⟨hr, hH.map, hH.files, hH.memp, hH.memm, hH.ok, h.used, h.room, h.few, by show (n + 1).toNat ≤ _; omega⟩, ht.mono ?_⟩
  rintro i rfl; exact h.memp
/-- New -/
def newD (q : Int) : DM := ⟨(max q 0).toNat, [], 0, false, 0⟩
theorem new_disk (q : Int) (w : World) (hq : -9223372036854775808 ≤ q ∧ q ≤ 9223372036854775807) :
    Calls Try.prog 11 #[.int .i64 q] w fun e w' => e = .returned (.pointer (some ⟨w.heap.size, 0, none⟩)) ∧ DiskAt w' w.heap.size (newD q) (· = w.heap.size) none (fun _ => 0) (fun _ => .slice none 0 0) ∧ Below w.heap.size w w' ∧ w'.heap.size = w.heap.size + 1 := by
  refine (new_any q w hq).mono ?_
  rintro e w' ⟨rfl, rfl⟩
  refine ⟨rfl, ⟨Row.made w TD _, rfl, ⟨?_, ?_, ?_, ?_, ?_⟩, rfl, by simp, ⟨List.Pairwise.nil, ?_, ?_, ?_⟩, by simp [newD, usedF], by show (max q 0).toNat ≤ _; omega, by simp [newD], by simp [newD]⟩, (Below.refl _ _).alloc (Nat.le_refl _) _, by simp⟩
  all_goals
    intros
    simp [newD, getF] at *
end
end Go.Proofs.Ytgfdpilgonpokaa
