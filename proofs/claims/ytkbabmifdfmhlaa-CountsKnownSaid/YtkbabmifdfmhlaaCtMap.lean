/- A map from times to how often they are there. -/
import Derived.Test.YtkbabmifdfmhlaaCtTouch
import Derived.Test.YtkbabmifdfmhlaaCountMath
import Derived.Test.YtkbabmifdfmhlaaFrMap
namespace Go.Proofs.Ytkbabmifdfmhlaa
open Go.ChangeShapes Go.WideShapes Go.ChangeAt Go.RowKit Go.BigFrame Go.Shelf
open Go.Maps (Keyed)
open Go.WideElems (Fit rd rg rd_key rd_val rg_of)
open Go.ChangeMaps (notKey putKey)
set_option linter.unusedVariables false
set_option maxRecDepth 100000
def Fits (n : Int) : Prop := (Lit.int .i64 n).wf = true
/-- a time of ints -/
def St.W (t : St) : Prop := Fits t.d ∧ Fits t.e ∧ Fits t.x ∧ Fits t.y ∧ Fits t.z
theorem fits_of {n : Int} (h1 : -9223372036854775808 ≤ n) (h2 : n ≤ 9223372036854775807) : Fits n := by
  simp [Fits, Lit.wf, IntKind.min, IntKind.max, IntKind.signed, IntKind.bits]; omega
theorem St.R.w {t : St} (h : t.R) : t.W := by
  unfold St.R at h
  exact ⟨fits_of (by omega) (by omega), fits_of (by omega) (by omega), fits_of (by omega) (by omega), fits_of (by omega) (by omega), fits_of (by omega) (by omega)⟩
theorem keyed5 : Keyed Try.prog 25 := Keyed.of_law (deep_law_laid progLaid (m := 6) (by decide) (of_decide_eq_true (by kernel_rfl)) (by kernel_rfl) (by kernel_rfl))
theorem keyLits5 (d : Nat) {t : St} (h : t.W) :
    Try.prog.keyLits (d + 3) 25 [.int .i64 t.d, .int .i64 t.e, .int .i64 t.x, .int .i64 t.y, .int .i64 t.z] = some [.int .i64 t.d, .int .i64 t.e, .int .i64 t.x, .int .i64 t.y, .int .i64 t.z] := by
  obtain ⟨h0, h1, h2, h3, h4⟩ := h
  unfold Fits at *
  simp [Program.keyLits, Try.underlying25, Try.underlying23, Try.underlying3, cells_stamp, cells_arr, cells_int, List.range_succ, h0, h1, h2, h3, h4]
theorem keyOf5_some {t : St} (h : t.W) : ∃ l, keyOf Try.prog 25 t.val = some l := by
  have h0 : decide (1 < Try.prog.types.size) = true := by kernel_rfl
  have h0 := of_decide_eq_true h0
  obtain ⟨m, hm⟩ : ∃ m, Try.prog.types.size = m + 2 := ⟨Try.prog.types.size - 2, by omega⟩
  have hk : Try.prog.keyType 25 = true := by kernel_rfl
  unfold keyOf
  rw [Try.underlying25, hm]
  simp [hk, Value.formed, Try.underlying25, cells_stamp, Value.cells]
  exact ⟨_, _, keyLits5 m h, rfl⟩
noncomputable def kt (t : St) : Lit := (keyOf Try.prog 25 t.val).getD (.bool false)
theorem keyOf_kt {t : St} (h : t.W) : keyOf Try.prog 25 t.val = some (kt t) := by
  obtain ⟨l, hl⟩ := keyOf5_some h
  unfold kt; rw [hl]; rfl
theorem kt_inj {s t : St} (hs : s.W) (ht : t.W) (h : kt s = kt t) : s = t := val_inj (keyed5.inj (keyOf_kt hs) (by rw [h]; exact keyOf_kt ht))
theorem kt_lit {t : St} (h : t.W) : WideAt.IsKeyLit (kt t) := keyed5.key (keyOf_kt h)
/-- a count that may be -/
def Nr (n : Int) : Prop := -1099511627776 ≤ n ∧ n ≤ 1099511627776
instance (n : Int) : Decidable (Nr n) := inferInstanceAs (Decidable (_ ∧ _))
theorem Nr.fits {n : Int} (h : Nr n) : Fits n := by unfold Nr at h; exact fits_of (by omega) (by omega)
noncomputable def entC (p : St × Int) : Lit × DataW Unit := (kt p.1, .lit (.int .i64 p.2))
@[reducible] noncomputable def RI : Value → Option (DataW Unit × List MemPlace) := plainElem Try.prog 2
theorem RI_mk {n : Int} (h : Nr n) : RI (.int .i64 n) = some (.lit (.int .i64 n), []) := plainElem_int Try.underlying2 h.fits
/-- block b is a map of at most N times: L -/
def MapC (w : World) (b N : Nat) (L : Cn) : Prop :=
  (∃ D, w.ownsMap Try.prog 25 RI b N (.map D) ∧ D.Perm (L.map entC)) ∧ ∀ p ∈ L, p.1.R ∧ Nr p.2
section
variable {w w' : World} {b N : Nat} {L : Cn} {row : Option Nat} {F : Nat → Prop}
theorem MapC.made (w : World) : MapC (w.alloc (.map #[] 0)) w.heap.size 0 [] := ⟨⟨[], World.ownsMap_made _ _ _ _, .refl _⟩, by simp⟩
theorem MapC.touch (h : MapC w b N L) (ht : Touch F w w') (hb : ¬ F b) : MapC w' b N L := by
  obtain ⟨⟨D, h1, h2⟩, h3⟩ := h
  exact ⟨⟨D, ownsMap_touch h1 ht hb, h2⟩, h3⟩
theorem MapC.lt (h : MapC w b N L) : b < w.heap.size := by
  obtain ⟨⟨D, h1, h2⟩, h3⟩ := h
  exact h1.lt
theorem MapC.mono (h : MapC w b N L) {M : Nat} (hm : N ≤ M) : MapC w b M L := by
  obtain ⟨⟨D, h1, h2⟩, h3⟩ := h
  exact ⟨⟨D, h1.mono hm, h2⟩, h3⟩
theorem MapC.isMap (h : MapC w b N L) : ∃ es c, w.heap[b]? = some (.map es c) := by
  obtain ⟨⟨D, ⟨es, clock, hb, _⟩, _⟩, _⟩ := h
  exact ⟨es, clock, hb⟩
theorem MapC.look (h : MapC w b N L) (hk : CnOk L) {t : St} (ht : t.W) :
    (Instr.lookup 55 (.map (some b)) t.val false).run Try.prog w = .ok (.int .i64 (cnt L t)) w := by
  obtain ⟨⟨D, ⟨es, clock, hb, F, _, hD⟩, hp⟩, hR⟩ := h
  have hL : D = (es.toList.map (rg Try.prog 25 RI)).foldr DataW.insert [] := by injection hD
  have hpe : (es.toList.map (rg Try.prog 25 RI)).Perm (L.map entC) := ((sorted_perm _).symm.trans (by rw [← hL])).trans hp
  have hz : (zeroValue 2).run Try.prog w = .ok (.int .i64 0) w := Try.zeroValue2 w
  rcases Go.Maps.fit_look false keyed5 Try.underlying55 hz hb F (keyOf_kt ht) with ⟨hrun, hno, _⟩ | ⟨e0, y, hm, hk0, hrun, hR0, _, _⟩
  · rw [cnt_of_not (L := L) (t := t)]
    · exact hrun
    · intro p hp1 e
      have : entC p ∈ es.toList.map (rg Try.prog 25 RI) := hpe.mem_iff.2 (List.mem_map_of_mem hp1)
      obtain ⟨x, hx, he⟩ := List.mem_map.1 this
      obtain ⟨y, hy⟩ := F.reads x hx
      rw [rg_of hy] at he
      subst he
      refine hno x hx ?_
      rw [← e]
      exact keyed5.inj (rd_key hy) (keyOf_kt (hR p hp1).1.w)
  · obtain ⟨c, hu, hz', hwc⟩ := plainElem_int_inv Try.underlying2 hR0
    rw [hu] at hrun
    obtain ⟨y', hy⟩ := F.reads e0 hm
    have h1 := rd_key hy
    obtain ⟨z, h2, h3⟩ := rd_val hy
    rw [hR0] at h2; cases h2
    have : y' ∈ L.map entC := hpe.mem_iff.1 (List.mem_map.2 ⟨e0, hm, rg_of hy⟩)
    obtain ⟨p, hp1, e⟩ := List.mem_map.1 this
    have h4 : y'.1 = kt p.1 := by rw [← e]; rfl
    have h5 : y'.2 = .lit (.int .i64 p.2) := by rw [← e]; rfl
    have hc : c = p.2 := by
      have h6 : y.1 = .lit (.int .i64 c) := congrArg Prod.fst hz'
      rw [h3, h6] at h5
      injection h5 with h5; injection h5
    rw [hk0] at h1
    have ht' : t = p.1 := kt_inj ht (hR p hp1).1.w (by rw [← h4]; have := keyOf_kt ht; rw [h1] at this; exact (Option.some.inj this).symm)
    have e : cnt L t = c := by rw [ht', cnt_mem hk hp1, hc]
    rw [e]
    exact hrun
theorem insC_perm {p : St × Int} : ∀ {L : Cn}, (insC p L).Perm (p :: L)
  | [] => .refl _
  | y :: r => by
    unfold insC
    split
    · exact (List.Perm.cons _ insC_perm).trans (List.Perm.swap _ _ _)
    · exact .refl _
theorem filter_kt {t : St} (ht : t.W) (hR : ∀ p ∈ L, p.1.R ∧ Nr p.2) {D : List (Lit × DataW Unit)} (hp : D.Perm (L.map entC)) : (D.filter (notKey (kt t))).Perm ((delC L t).map entC) := by
  refine (hp.filter _).trans ?_
  rw [List.filter_map]
  refine List.Perm.of_eq ?_
  unfold delC
  congr 1
  refine List.filter_congr fun u hu => ?_
  show notKey (kt t) (entC u) = _
  rw [Bool.eq_iff_iff, Go.Maps.notKey_iff (kt_lit ht)]
  simp only [Bool.not_eq_true', decide_eq_false_iff_not]
  constructor
  · intro h e; exact h (by rw [← e]; rfl)
  · intro h e; exact h (kt_inj (hR u hu).1.w ht e)
theorem MapC.drop (h : MapC w b N L) {t : St} (ht : t.W) (ty : TypeId) :
    ∃ w', (Builtin.delete_ #[55, 25] ty #[.map (some b), t.val]).run Try.prog w = .ok (.tuple #[]) w' ∧ MapC w' b N (delC L t) ∧ Touch (fun k => k = b) w w' := by
  obtain ⟨⟨D, h1, hp⟩, hR⟩ := h
  obtain ⟨w', hrun, h2, hg⟩ := h1.drop keyed5 Try.underlying55 (keyOf_kt ht) ty
  rw [DataW.del_eq] at h2
  exact ⟨w', hrun, ⟨⟨_, h2, filter_kt ht hR hp⟩, fun p hp => hR p (mem_delC.1 hp).1⟩, Touch.turned hg⟩
theorem MapC.store (h : MapC w b N L) (hn : N < maxLen) {t : St} (ht : t.R) {n : Int} (hr : Nr n) :
    ∃ w', (Instr.mapUpdate 55 (.map (some b)) t.val (.int .i64 n)).run Try.prog w = .ok () w' ∧ MapC w' b (N + 1) (insC (t, n) (delC L t)) ∧ Touch (fun k => k = b) w w' := by
  obtain ⟨⟨D, h1, hp⟩, hR⟩ := h
  obtain ⟨w', hrun, h2, hg⟩ := h1.store keyed5 Try.underlying55 hn (keyOf_kt ht.w) (RI_mk hr)
  rw [DataW.put_eq] at h2
  refine ⟨w', hrun, ⟨⟨_, h2, ?_⟩, ?_⟩, Touch.turned hg⟩
  · unfold putKey
    refine (insert_perm _ _).trans ?_
    refine List.Perm.trans ?_ (insC_perm.map entC).symm
    rw [List.map_cons]
    exact List.Perm.cons _ (filter_kt ht.w hR hp)
  · intro p hp
    rcases mem_insC.1 hp with e | hp
    · rw [e]; exact ⟨ht, hr⟩
    · exact hR p (mem_delC.1 hp).1
end
end Go.Proofs.Ytkbabmifdfmhlaa
