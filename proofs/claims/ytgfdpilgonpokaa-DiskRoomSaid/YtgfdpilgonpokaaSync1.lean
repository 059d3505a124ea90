/- Sync. -/
import Derived.Test.YtgfdpilgonpokaaHeld
namespace Go.Proofs.Ytgfdpilgonpokaa
open Go.ChangeShapes Go.WideShapes Go.ChangeAt Go.RowKit Go.BigFrame Go.Maps Go.Sort
set_option linter.unusedVariables false
abbrev TPF : TypeId := 70
/-- a deed that the power lets be, or not -/
def DM.deed (d : DM) (fs : Fs) : DM := if d.fuse = 1 then ⟨d.room, d.fs, d.deeds + 1, true, 0⟩ else ⟨d.room, fs, d.deeds + 1, d.off, d.fuse - 1⟩
def deedE (d : DM) : Int := if d.fuse = 1 then 30 else 0
/-- what forbids a call that wants a file -/
def findE (d : DM) (s : ByteArray) (ns : List ByteArray) : Int := if lookE d.off (s :: ns) ≠ 0 then lookE d.off (s :: ns) else noneE d.fs s.data.toList
/-- what a deed that settles leaves -/
def Left (F : Nat → Prop) (p r u dd f : Nat) (o : Bool) (m : Option Nat) (fs : Fs) (g : Nm → Nat) (w w' : World) : Prop := ∃ v', Row w' p TD (dcells r u m dd o f) ∧ Held w' (Ext F w w') p m fs g v' ∧ Touch F w w'
def Settled (W : World) (P : World → Prop) (b : Bool) (w : World) : Prop := match b with | true => P w | false => w = W.drew
section
variable {w w' : World} {F : Nat → Prop} {fs : Fs} {g : Nm → Nat} {v : Nm → Value} {n : Nm} {x y : Fil} {p r u dd f : Nat} {m : Option Nat} {o : Bool} {d : DM}
/-- find, whatever it is told -/
theorem find_any (h : DiskAt w p d F m g v) (nb : Nat) (s : ByteArray) (ns : List ByteArray) (hn : Row w nb 9 ((s :: ns).map Value.string)) (c : Nat) (hc : (s :: ns).length ≤ c) (hl : (s :: ns).length ≤ 1000) (hs : ∀ x ∈ s :: ns, x.size ≤ 9223372036854775807) :
    Calls Try.prog 41 #[.pointer (some ⟨p, 0, none⟩), .slice (some ⟨nb, 0, none⟩) (s :: ns).length c] w fun e w' => ∃ a, e = .returned (.tuple #[.pointer a, .int .i64 (findE d s ns)]) ∧ (findE d s ns = 0 → ∃ x, getF s.data.toList d.fs = some x ∧ a = some ⟨g s.data.toList, 0, none⟩) ∧ ∃ k, w' = w.drewN k := by
  unfold findE
  have hn' : Row w nb 9 ((s :: ns).map Value.string ++ []) := by simpa using hn
  by_cases hb : lookE d.off (s :: ns) = 0
  · rw [if_neg (by simpa using hb)]
    refine (find_ok h.row h.map nb s ns [] hn' c hc hl hs hb).mono ?_
    rintro e w' ⟨rfl, hw⟩
    refine ⟨_, rfl, fun h0 => ?_, hw⟩
    cases hg : getF s.data.toList d.fs with
    | none => simp [noneE, hg] at h0
    | some x => exact ⟨x, rfl, ptrOf_some hg⟩
  · rw [if_pos hb]
    refine (find_bad h.row nb (s :: ns) [] hn' c hc hl hs hb).mono ?_
    rintro e w' ⟨rfl, rfl⟩
    exact ⟨_, rfl, fun h0 => absurd h0 hb, 0, rfl⟩
theorem findE_zero {s : ByteArray} {ns : List ByteArray} (h : findE d s ns = 0) : lookE d.off (s :: ns) = 0 := by
  unfold findE at h
  by_cases hb : lookE d.off (s :: ns) = 0
  · exact hb
  · rw [if_pos hb] at h; exact absurd h hb
set_option maxRecDepth 100000 in
set_option maxHeartbeats 2000000 in
theorem sync1_any (h : Row w p TD (dcells r u m dd o f)) (hH : Held w F p m fs g v) (kd kf : Nat) (bd : Row w kd TP [.pointer (some ⟨p, 0, none⟩)]) (bf : Row w kf TPF [.pointer (some ⟨g n, 0, none⟩)]) (hg : getF n fs = some x) (hu : x.b.length ≤ u) (hr : u ≤ 9223372036854775807) :
    Calls Try.prog 52 #[.pointer (some ⟨kd, 0, none⟩), .pointer (some ⟨kf, 0, none⟩)] w fun e w' => e = .returned (.tuple #[]) ∧
      Left F p r u dd f o m (putF n (cutF x x.b.length) fs) g w w' := by
  have hx := hH.files.at_ _ _ hg
  obtain ⟨k0, k1, k2⟩ := frow hx
  obtain ⟨A, c, hv, hc, hcm⟩ := fslice hx
  rw [hv] at k0
  have c1 : w.cell? ⟨kd, 0, none⟩ = some (.pointer (some ⟨p, 0, none⟩)) := bd.cell 0
  have c2 : w.cell? ⟨kf, 0, none⟩ = some (.pointer (some ⟨g n, 0, none⟩)) := bf.cell 0
  have hset := settle_held (w := w.drew) h.drew (hH.touch (Touch.refl (fun _ => False) w).drew (by simp)) hg x.b.length (Nat.le_refl _) hu hr
  have HS := Lib.hid hset; have HV := Lib.hid hv
  clear hset hv hx hH h bd bf hg
  go_enter Try.func52, Try.ntmps52
  go_wp2_with fail
  refine Stage.wp_region (by kernel_rfl) (by kernel_rfl) (Stage.one 7 (Settled w (Left F p r u dd f o m (putF n (cutF x x.b.length) fs) g w))) (Stage.one_start (by simp) (show Settled w _ false w.drew from rfl)) ?_
  refine Stage.wpSt_reads 7 (fun w' => w' = w.drew) (by kernel_rfl) (Stage.one_before (by kernel_rfl)) ?_
  simp only [List.take_succ_cons, List.take_zero, List.drop_succ_cons, List.drop_zero]
  repeat (go_big_quiet_step (fail))
  refine wpQuiet_nil ?_
  refine Stage.wpSt_do (.tuple #[]) rfl (Stage.one_do ?_) ?_
  · intro w' hw
    have hw' : w' = w.drew := hw
    subst hw'
    refine Free.at_call _ _ rfl Try.func53 (by kernel_rfl) rfl [.pointer (some ⟨p, 0, none⟩), .pointer (some ⟨g n, 0, none⟩), .int .i64 (x.b.length : Nat)] rfl ?_
    refine (HS.out).mono ?_
    rintro e w'' ⟨rfl, v', h1, h2, h3⟩
    rw [show u - (x.b.length - x.b.length) = u by omega] at h1
    exact ⟨rfl, v', h1, h2, (Touch.refl F w).drew.trans h3⟩
  go_simp
  refine Stage.wpSt_nil (Stage.one_end ?_)
  intro w2 hw2
  have hw3 : Left F p r u dd f o m (putF n (cutF x x.b.length) fs) g w w2 := hw2
  have H2 := Lib.hid hw3; clear hw2 hw3
  go_wp2_with fail
  go_end0
  exact ⟨rfl, H2.out⟩
end
end Go.Proofs.Ytgfdpilgonpokaa
