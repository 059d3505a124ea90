/- A file of a disk settled, or dropped. -/
import Derived.Test.YtgfdpilgonpokaaAppend3
namespace Go.Proofs.Ytgfdpilgonpokaa
open Go.ChangeShapes Go.WideShapes Go.ChangeAt Go.RowKit Go.BigFrame Go.Maps Go.Sort
set_option linter.unusedVariables false
section
variable {w w' : World} {F : Nat → Prop} {fs : Fs} {g : Nm → Nat} {v : Nm → Value} {n : Nm} {x y : Fil} {p r u dd f : Nat} {m : Option Nat} {o : Bool} {d : DM}
theorem settle_held (h : Row w p TD (dcells r u m dd o f)) (hH : Held w F p m fs g v) (hg : getF n fs = some x) (k : Nat) (hk : k ≤ x.b.length) (hu : x.b.length ≤ u) (hr : u ≤ 9223372036854775807) :
    Calls Try.prog 53 #[.pointer (some ⟨p, 0, none⟩), .pointer (some ⟨g n, 0, none⟩), .int .i64 (k : Nat)] w fun e w' => e = .returned (.tuple #[]) ∧
      ∃ v', Row w' p TD (dcells r (u - (x.b.length - k)) m dd o f) ∧ Held w' (Ext F w w') p m (putF n (cutF x k) fs) g v' ∧ Touch F w w' := by
  have hx := hH.files.at_ _ _ hg
  refine (settle_any h hx k hk hu hr).mono ?_
  rintro e w' ⟨rfl, hr', ht, v', hf', hv'⟩
  have hG : ∀ a z, getF a fs = some z → a ≠ n → ¬ (fun i => i = p ∨ i = g n) (g a) ∧ ∀ i, (v a).ownBlock = some i → ¬ (fun i => i = p ∨ i = g n) i := by
    intro a z hz ha
    have hpm := hH.files.pm h hH.map hz
    refine ⟨?_, fun i hi => ?_⟩
    · rintro (e | e)
      · exact hpm.1 (.inl e)
      · exact hH.files.apart a n z x hz hg ha e
    · rintro (e | e)
      · exact hpm.2 i hi (.inl e)
      · exact own_ne (hH.files.at_ a z hz).own hi (e ▸ hx.row) (by decide)
  have hfs := hH.files.change hg ht hG hf' (fun i hi => .inl (by rw [← hv']; exact hi))
  have hM : MapAt w' m (putF n (cutF x k) fs) g := by
    refine MapAt.keep (hH.map.touch ht ?_) hH.ok.sort hg
    rintro b rfl (e | e)
    · exact hH.map.ne_row h e
    · exact hH.map.ne_row hx.row e
  have hl := hH.ok.len _ _ hg
  refine ⟨rfl, _, hr', ⟨hM, hfs, hH.ok.keys hg (by simp [cutF]; omega) (by simp [cutF]; omega), .inl hH.memp, fun b hb => .inl (hH.memm b hb)⟩, ht.mono ?_⟩
  rintro i (e | e)
  · exact e ▸ hH.memp
  · exact e ▸ hH.files.mem _ _ hg
theorem drop_held (h : Row w p TD (dcells r u m dd o f)) (hH : Held w F p m fs g v) (s : ByteArray) (hs : s.size ≤ 9223372036854775807) (hu : lenF s.data.toList fs ≤ u) (hr : u ≤ 9223372036854775807) :
    Calls Try.prog 43 #[.pointer (some ⟨p, 0, none⟩), .string s] w fun e w' => e = .returned (.tuple #[]) ∧
      Row w' p TD (dcells r (u - lenF s.data.toList fs) m dd o f) ∧ Held w' F p m (delF s.data.toList fs) g v ∧ Touch F w w' ∧ FilesAt w' F fs g v := by
  refine (drop_any h hH.map hH.files hH.ok.sort s hs hu hr).mono ?_
  rintro e w' ⟨rfl, hr', hM', ht⟩
  have hst : FilesAt w' F fs g v := hH.files.stay ht fun a z hz => hH.files.pm h hH.map hz
  refine ⟨rfl, hr', ⟨hM', hst.less, hH.ok.drop, hH.memp, hH.memm⟩, ht.mono ?_, hst⟩
  rintro i (e | e)
  · exact e ▸ hH.memp
  · exact hH.memm i e
theorem lenF_some (h : getF n fs = some x) : lenF n fs = x.b.length := by simp [lenF, h]
theorem usedF_cut (hS : SortF fs) (hg : getF n fs = some x) {k : Nat} (hk : k ≤ x.b.length) : usedF (putF n (cutF x k) fs) = usedF fs - (x.b.length - k) := by
  have h1 := usedF_put (n := n) (f := cutF x k) hS
  rw [lenF_some hg] at h1
  have h2 := lenF_le (n := n) hS
  rw [lenF_some hg] at h2
  have h3 : (cutF x k).b.length = k := by simp [cutF]; omega
  omega
end
end Go.Proofs.Ytgfdpilgonpokaa
