/- Several texts in one: Settle. -/
import Derived.Test.YtiagoaaldpajmaaVb
import Derived.Test.YtiagoaaldpajmaaVc
import Derived.Maps.OwnSet
import Derived.RegionTactic
import Derived.BigRegion
import Derived.ChangeAlike
import Derived.StillTailTactics
import Derived.Deep.QuietTactic
import Derived.Deep.RegionLaw
namespace Go.Proofs.Ytiagoaaldpajmaa
open Go.ChangeShapes Go.WideShapes Go.ChangeAt Go.RowKit Go.BigFrame
set_option linter.unusedVariables false

section
variable {w : World} {p r u dd f : Nat} {m : Option Nat} {o : Bool}
theorem frow {b : Nat} {v : Value} {x : Fil} (h : FileAt w b v x) : w.cell? ⟨b, 0, none⟩ = some v ∧ w.cell? ⟨b, 1, none⟩ = some (.int .i64 (x.sure : Nat)) ∧ w.cell? ⟨b, 2, none⟩ = some (.bool x.made) :=
  ⟨h.row.cell 0, h.row.cell 1, h.row.cell 2⟩
theorem fslice {b : Nat} {v : Value} {x : Fil} (h : FileAt w b v x) : ∃ A c, v = .slice A x.b.length c ∧ x.b.length ≤ c ∧ c ≤ 9223372036854775807 := by
  obtain ⟨_, ⟨rfl, h0⟩ | ⟨g, cap, cur, rfl, _, _, h1, h2, _⟩⟩ := h.own
  · exact ⟨none, 0, by rw [h0], by omega, by omega⟩
  · exact ⟨_, cap, rfl, h1, by unfold maxLen at h2; exact h2⟩
theorem ownsRow_cut {A : Option Addr} {len c n : Nat} {bs : List Nat} {t : TypeId} (h : w.ownsRow 0 t 1 (.slice A len c) bs.length (u8s bs)) (hn : n ≤ bs.length) : w.ownsRow 0 t 1 (.slice A n c) n (u8s (bs.take n)) := by
  have hl : (u8s (bs.take n)).length = n * 1 := by simp; omega
  obtain ⟨_, ⟨he, h0⟩ | ⟨g, cap, cur, he, hg, hh, h1, h2, h3, h4⟩⟩ := h
  · injection he with e1 e2 e3
    subst e1; subst e3
    obtain rfl : n = 0 := by omega
    exact ⟨hl, .inl ⟨rfl, rfl⟩⟩
  · injection he with e1 e2 e3
    subst e1; subst e2; subst e3
    refine ⟨hl, .inr ⟨g, c, cur, rfl, hg, hh, by omega, h2, h3, ?_⟩⟩
    rw [show n * 1 = min n (bs.length * 1) by omega, ← List.take_take, h4]
    simp [u8s, List.map_take]
theorem length_any (h : Row w p TD (dcells r u m dd o f)) {fs : Fs} {F : Nat → Prop} {g : Nm → Nat} {v : Nm → Value} (hM : MapAt w m fs g) (hF : FilesAt w F fs g v) (s : ByteArray) (hs : s.size ≤ 9223372036854775807) :
    Calls Try.prog 36 #[.pointer (some ⟨p, 0, none⟩), .string s] w fun e w' => e = .returned (.int .i64 (lenF s.data.toList fs : Nat)) ∧ w = w' := by
  obtain ⟨h0, h1, h2, h3, h4, h5⟩ := drow h
  have hlk := lookup_run hM s hs
  cases hg : getF s.data.toList fs with
  | none =>
    rw [ptrOf_none hg] at hlk
    have hL : lenF s.data.toList fs = 0 := by unfold lenF; rw [hg]
    rw [hL]; clear hL hg
    go_enter Try.func36, Try.ntmps36
    go_wp2
    go_ret
    exact ⟨rfl, rfl⟩
  | some x =>
    rw [ptrOf_some hg] at hlk
    have hL : lenF s.data.toList fs = x.b.length := by unfold lenF; rw [hg]
    rw [hL]; clear hL
    have hx := hF.at_ _ _ hg
    clear hg
    obtain ⟨k0, k1, k2⟩ := frow hx
    obtain ⟨A, c, hv, _, _⟩ := fslice hx
    rw [hv] at k0; clear hv
    go_enter Try.func36, Try.ntmps36
    go_wp2
    go_ret
    exact ⟨rfl, rfl⟩
/-- a file's first n bytes, all sure -/
def cutF (x : Fil) (n : Nat) : Fil := ⟨x.b.take n, n, true⟩
set_option maxHeartbeats 1000000 in
theorem settle_any (h : Row w p TD (dcells r u m dd o f)) {b : Nat} {v : Value} {x : Fil} (hx : FileAt w b v x) (n : Nat) (hn : n ≤ x.b.length) (hu : x.b.length ≤ u) (hr : u ≤ 9223372036854775807) :
    Calls Try.prog 53 #[.pointer (some ⟨p, 0, none⟩), .pointer (some ⟨b, 0, none⟩), .int .i64 (n : Nat)] w fun e w' => e = .returned (.tuple #[]) ∧
      Row w' p TD (dcells r (u - (x.b.length - n)) m dd o f) ∧ Touch (fun k => k = p ∨ k = b) w w' ∧ ∃ v', FileAt w' b v' (cutF x n) ∧ v'.ownBlock = v.ownBlock := by
  obtain ⟨h0, h1, h2, h3, h4, h5⟩ := drow h
  obtain ⟨k0, k1, k2⟩ := frow hx
  obtain ⟨A, c, hv, hc, hcm⟩ := fslice hx
  rw [hv] at k0
  have hz := h.free
  have hzb := hx.row.free
  have hpb : p ≠ b := h.apart hx.row (by decide)
  have HX := Lib.hid hx; have HH := Lib.hid h; have HV := Lib.hid hv; clear hx h hv
  go_enter Try.func53, Try.ntmps53
  go_wp2
  go_region
  go_wp2
  go_end0
  have hr2 := HH.out.put 1 (.int .i64 ((u : Int) - ((x.b.length : Int) - (n : Int))))
  have e1 : (u : Int) - ((x.b.length : Int) - (n : Int)) = ((u - (x.b.length - n) : Nat) : Int) := by omega
  rw [e1] at hr2 ⊢
  generalize hw1 : w.setCell ⟨p, 1, none⟩ (.int .i64 ((u - (x.b.length - n) : Nat) : Int)) = w1 at hr2 ⊢
  have hx := HX.out
  have hv := HV.out
  subst hv
  have ht1 : Touch (fun k => k = p ∨ k = b) w w1 := by
    rw [← hw1]
    exact (Touch.refl (fun k => k = p ∨ k = b) w).setCell (p := ⟨p, 1, none⟩) (.inl (.inl rfl)) _
  have hb1 : Row w1 b TF [.slice A x.b.length c, .int .i64 (x.sure : Nat), .bool x.made] := by rw [← hw1]; exact hx.row.far (p := ⟨p, 1, none⟩) (Ne.symm hpb) _
  have hb4 := ((hb1.put 0 (.slice A n c)).put 1 (.int .i64 (n : Nat))).put 2 (.bool true)
  refine ⟨rfl, (((hr2.far (p := ⟨b, 0, none⟩) hpb _).far (p := ⟨b, 1, none⟩) hpb _).far (p := ⟨b, 2, none⟩) hpb _).drew,
    (((ht1.setCell (p := ⟨b, 0, none⟩) (.inl (.inr rfl)) _).setCell (p := ⟨b, 1, none⟩) (.inl (.inr rfl)) _).setCell (p := ⟨b, 2, none⟩) (.inl (.inr rfl)) _).drew, .slice A n c, ⟨hb4.drew, ?_, fun y hy => hx.lt y (List.mem_of_mem_take hy)⟩, by cases A <;> rfl⟩
  have hlen : (x.b.take n).length = n := by simp; omega
  show World.ownsRow _ 0 5 1 (.slice A n c) (x.b.take n).length (u8s (x.b.take n))
  rw [hlen]
  have ho := ownsRow_cut hx.own hn
  have hbk : ∀ k, (Value.slice A n c).ownBlock = some k → k ≠ p ∧ k ≠ b := by
    intro k hk
    obtain ⟨_, ⟨he, _⟩ | ⟨g', cap, cur, he, _, hh, _⟩⟩ := ho
    · rw [he] at hk; cases hk
    · rw [he] at hk
      injection hk with hk
      simp only at hk
      subst hk
      constructor
      · intro e; rw [e] at hh
        have := HH.out; unfold Row at this; rw [this] at hh
        injection hh with hh; injection hh with _ ht; exact absurd ht (by decide)
      · intro e; rw [e] at hh
        have := hx.row; unfold Row at this; rw [this] at hh
        injection hh with hh; injection hh with _ ht; exact absurd ht (by decide)
  refine World.ownsRow.drew ?_
  refine ownsRow_touch ho ((((Touch.refl (fun k => k = p ∨ k = b) w1).setCell (p := ⟨b, 0, none⟩) (.inl (.inr rfl)) _).setCell (p := ⟨b, 1, none⟩) (.inl (.inr rfl)) _).setCell (p := ⟨b, 2, none⟩) (.inl (.inr rfl)) _ |>.trans' (Touch.refl (fun _ => False) _) (by simp) |> fun t => ht1.trans t) ?_
  intro k hk; have := hbk k hk; omega
/-- the disk's own block and its map's -/
def PM (p : Nat) (m : Option Nat) (k : Nat) : Prop := k = p ∨ m = some k
theorem MapAt.own {w : World} {b : Nat} {fs : Fs} {g : Nm → Nat} {n : Nat} (h : w.ownsMap Try.prog 9 refPtr b n (dat fs g)) : MapAt w (some b) fs g := by
  have := ownsMap_tight h
  rw [dat_size] at this
  exact this
set_option maxHeartbeats 1000000 in
theorem drop_any (h : Row w p TD (dcells r u m dd o f)) {fs : Fs} {F : Nat → Prop} {g : Nm → Nat} {v : Nm → Value} (hM : MapAt w m fs g) (hF : FilesAt w F fs g v) (hS : SortF fs) (s : ByteArray) (hs : s.size ≤ 9223372036854775807) (hu : lenF s.data.toList fs ≤ u) (hr : u ≤ 9223372036854775807) :
    Calls Try.prog 43 #[.pointer (some ⟨p, 0, none⟩), .string s] w fun e w' => e = .returned (.tuple #[]) ∧
      Row w' p TD (dcells r (u - lenF s.data.toList fs) m dd o f) ∧ MapAt w' m (delF s.data.toList fs) g ∧ Touch (PM p m) w w' := by
  obtain ⟨h0, h1, h2, h3, h4, h5⟩ := drow h
  have hz := h.free
  have hlen := length_any (w := w.drew) h.drew (hM.touch (Touch.refl (fun _ => False) w).drew (by simp)) (hF.touch (Touch.refl (fun _ => False) w).drew (by simp)) s hs
  have HL := Lib.hid hlen; have HH := Lib.hid h; have HM := Lib.hid hM; have HF := Lib.hid hF; clear hlen h hM hF
  obtain ⟨L, hL⟩ : ∃ L, L = lenF s.data.toList fs := ⟨_, rfl⟩
  rw [← hL] at HL hu ⊢
  obtain ⟨U, hU⟩ : ∃ U, U = u - L := ⟨_, rfl⟩
  rw [← hU]
  have hwr : IntKind.i64.wrap ((u : Int) - (L : Int)) = (U : Int) := by rw [IntWalk.i64_in _ (by omega)]; omega
  have hrow := HH.out.put 1 (.int .i64 (U : Int))
  have HR := Lib.hid hrow; clear hrow
  have HLe := Lib.hid hL; have HU := Lib.hid hU; clear hL hU
  have hmp : ∀ b, m = some b → b ≠ p := by
    rintro b rfl e
    subst e
    obtain ⟨es, clock, hb, _⟩ := HM.out
    have := HH.out; unfold Row at this; rw [this] at hb; cases hb
  have HMP := Lib.hid hmp; clear hmp
  go_enter Try.func43, Try.ntmps43
  go_wp2
  go_region_with (go_at_call 36; refine (HL.out).mono ?_; rintro e w' ⟨rfl, rfl⟩)
  all_goals
    generalize hw1 : (w.setCell ⟨p, 1, none⟩ (.int .i64 (U : Int))).drew = w1
    have hr1 : Row w1 p TD (dcells r U m dd o f) := by rw [← hw1]; exact HR.out.drew
    have ht1 : Touch (PM p m) w w1 := by rw [← hw1]; exact ((Touch.refl (PM p m) w).setCell (p := ⟨p, 1, none⟩) (.inl (.inl rfl)) _).drew
    have hM1 : MapAt w1 m fs g := by
      rw [← hw1]
      exact HM.out.touch ((Touch.refl (· = p) w).setCell (p := ⟨p, 1, none⟩) (.inl rfl) _).drew (fun b hb => HMP.out b hb)
    obtain ⟨_, _, g2, _, _, _⟩ := drow hr1
    have HR1 := Lib.hid hr1; have HT1 := Lib.hid ht1; have HM1 := Lib.hid hM1
    clear hr1 ht1 hM1 hw1
    have hkey := key_of (s := s) (by unfold maxLen; omega)
    cases m with
    | none =>
      have hdn := fun ty => Maps.drop_nil (P := Try.prog) (w := w1) str_law und_map hkey ty
      go_wp2
      go_end0
      have hfs : fs = [] := HM1.out
      exact ⟨rfl, HR1.out, by rw [hfs]; rfl, HT1.out⟩
    | some b =>
      have hown : w1.ownsMap Try.prog 9 refPtr b fs.length (dat fs g) := HM1.out
      go_wp2_with (at_delete; refine wpList_delete_own _ rfl _ _ TM 9 rfl 70 str_law und_map _ b _ _ rfl hown _ _ rfl hkey ?_; intro w2 hown2 hturn2)
      go_end0
      rw [dat_del] at hown2
      have hne : b ≠ p := HMP.out b rfl
      have hg2 : w1.grownBy w2 (some b) := hturn2.grown
      have hnb : some p ≠ some b := fun e => hne (Option.some.inj e).symm
      have hr2 : Row w2 p TD (dcells r U (some b) dd o f) := Row.grown HR1.out hg2 hnb
      have ht2 : Touch (PM p (some b)) w1 w2 := Touch.of_grown hg2 (fun k hk => .inr hk)
      have hm2 : MapAt w2 (some b) (delF s.data.toList fs) g := MapAt.own hown2
      exact ⟨rfl, hr2, hm2, HT1.out.trans ht2⟩
end
end Go.Proofs.Ytiagoaaldpajmaa
