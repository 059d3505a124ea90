/- A map of the call's own, from counters to times. -/
import Derived.Test.YtkbabmifdfmhlaaFrIter
import Derived.Maps.OwnIn
import Derived.DeepKeys4
namespace Go.Proofs.Ytkbabmifdfmhlaa
open Go.ChangeShapes Go.WideShapes Go.ChangeAt Go.RowKit Go.BigFrame Go.Shelf
open Go.Maps (Keyed)
open Go.WideElems (Fit rd rg rd_key rd_val rg_of)
open Go.ChangeMaps (notKey putKey)
set_option linter.unusedVariables false
set_option maxRecDepth 100000
/-- the counters, as a map's key -/
@[reducible] def St.key (t : St) : Value := .agg #[.int .i64 t.x, .int .i64 t.y, .int .i64 t.z]
/-- what a map's element reads as -/
def dat (t : St) : DataW Unit := .agg [.lit (.int .i64 t.d), .lit (.int .i64 t.e), .lit (.int .i64 t.x), .lit (.int .i64 t.y), .lit (.int .i64 t.z)]
theorem val_inj {s t : St} (h : s.val = t.val) : s = t := by
  simp only [St.val, Value.agg.injEq, Array.mk.injEq, List.cons.injEq, Value.int.injEq, true_and, and_true] at h
  exact St.ext' h.1 h.2.1 h.2.2.1 h.2.2.2.1 h.2.2.2.2
open Classical in
noncomputable def elS (v : Value) : Option (DataW Unit × List MemPlace) := if h : ∃ t : St, v = t.val then some (dat h.choose, []) else none
theorem elS_val (t : St) : elS t.val = some (dat t, []) := by
  have h : ∃ s : St, t.val = s.val := ⟨t, rfl⟩
  unfold elS
  rw [dif_pos h, ← val_inj h.choose_spec]
theorem elS_inv {v : Value} {y : DataW Unit × List MemPlace} (h : elS v = some y) : ∃ t : St, v = t.val ∧ y = (dat t, []) := by
  unfold elS at h
  split at h
  · rename_i hx
    cases h
    exact ⟨_, hx.choose_spec, rfl⟩
  · cases h
theorem dat_inj {s t : St} (h : dat s = dat t) : s = t := by
  unfold dat at h
  simp at h
  exact St.ext' h.1 h.2.1 h.2.2.1 h.2.2.2.1 h.2.2.2.2
theorem key_inj {s t : St} : s.key = t.key ↔ s.x = t.x ∧ s.y = t.y ∧ s.z = t.z := by simp [St.key]
theorem keyed3 : Keyed Try.prog 23 := Keyed.of_law (deep_law_laid progLaid (m := 5) (by decide) (of_decide_eq_true (by kernel_rfl)) (by kernel_rfl) (by kernel_rfl))
theorem wf_of {n : Int} (h1 : 0 ≤ n) (h2 : n < 16) : (Lit.int .i64 n).wf = true := by
  simp [Lit.wf, IntKind.min, IntKind.max, IntKind.signed, IntKind.bits]; omega
theorem keyLits3 (d : Nat) {x y z : Int} (hx : (Lit.int .i64 x).wf = true) (hy : (Lit.int .i64 y).wf = true) (hz : (Lit.int .i64 z).wf = true) :
    Try.prog.keyLits (d + 2) 23 [.int .i64 x, .int .i64 y, .int .i64 z] = some [.int .i64 x, .int .i64 y, .int .i64 z] := by
  simp [Program.keyLits, Try.underlying23, Try.underlying3, cells_arr, cells_int, List.range_succ, hx, hy, hz]
theorem keyOf_some {t : St} (h : t.R) : ∃ l, keyOf Try.prog 23 t.key = some l := by
  have h0 : decide (0 < Try.prog.types.size) = true := by kernel_rfl
  have h0 := of_decide_eq_true h0
  obtain ⟨m, hm⟩ : ∃ m, Try.prog.types.size = m + 1 := ⟨Try.prog.types.size - 1, by omega⟩
  have hk : Try.prog.keyType 23 = true := by kernel_rfl
  unfold St.R at h
  unfold keyOf
  rw [Try.underlying23, hm]
  simp [hk, Value.formed, Try.underlying23, cells_arr, St.key, Value.cells]
  rw [keyLits3 m (wf_of (by omega) (by omega)) (wf_of (by omega) (by omega)) (wf_of (by omega) (by omega))]
  exact ⟨_, _, rfl, rfl⟩
noncomputable def kl (t : St) : Lit := (keyOf Try.prog 23 t.key).getD (.bool false)
theorem keyOf_kl {t : St} (h : t.R) : keyOf Try.prog 23 t.key = some (kl t) := by
  obtain ⟨l, hl⟩ := keyOf_some h
  unfold kl; rw [hl]; rfl
theorem kl_inj {s t : St} (hs : s.R) (ht : t.R) (h : kl s = kl t) : s.key = t.key := keyed3.inj (keyOf_kl hs) (by rw [h]; exact keyOf_kl ht)
theorem kl_key {s t : St} (h : s.key = t.key) : kl s = kl t := by unfold kl; rw [h]
noncomputable def ent (t : St) : Lit × DataW Unit := (kl t, dat t)
/-- block b is a map of at most n times: E, by their counters -/
def MapS (w : World) (b n : Nat) (E : List St) : Prop :=
  (∃ L, w.ownsMap Try.prog 23 elS b n (.map L) ∧ L.Perm (E.map ent)) ∧ (∀ t ∈ E, t.R) ∧ E.Pairwise fun s t => s.key ≠ t.key
/-- a time takes the place of the one with its counters -/
def putS (t : St) (E : List St) : List St := t :: E.filter fun u => decide (¬ (u.x = t.x ∧ u.y = t.y ∧ u.z = t.z))
section
variable {w w' : World} {b n : Nat} {E : List St} {row : Option Nat}
theorem MapS.made (w : World) : MapS (w.alloc (.map #[] 0)) w.heap.size 0 [] := ⟨⟨[], World.ownsMap_made _ _ _ _, .refl _⟩, by simp, List.Pairwise.nil⟩
theorem MapS.kept (h : MapS w b n E) (hg : w.grownBy w' row) (hne : some b ≠ row) : MapS w' b n E := by
  obtain ⟨⟨L, h1, h2⟩, h3⟩ := h
  exact ⟨⟨L, h1.kept hg hne, h2⟩, h3⟩
theorem MapS.lt (h : MapS w b n E) : b < w.heap.size := by
  obtain ⟨⟨L, h1, h2⟩, h3⟩ := h
  exact h1.lt
theorem MapS.alloc (h : MapS w b n E) (o : Obj) : MapS (w.alloc o) b n E := h.kept (World.grownBy_alloc w o none) (by simp)
theorem MapS.look (h : MapS w b n E) {t : St} (ht : t.R) :
    ((Instr.lookup 85 (.map (some b)) t.key true).run Try.prog w = .ok (.tuple #[St.zero.val, .bool false]) w ∧ ∀ u ∈ E, u.key ≠ t.key) ∨
    ∃ u ∈ E, u.key = t.key ∧ (Instr.lookup 85 (.map (some b)) t.key true).run Try.prog w = .ok (.tuple #[u.val, .bool true]) w := by
  obtain ⟨⟨L, ⟨es, clock, hb, F, _, hD⟩, hp⟩, hR, _⟩ := h
  have hL : L = (es.toList.map (rg Try.prog 23 elS)).foldr DataW.insert [] := by injection hD
  have hpe : (es.toList.map (rg Try.prog 23 elS)).Perm (E.map ent) := ((sorted_perm _).symm.trans (by rw [← hL])).trans hp
  have hz : (zeroValue 25).run Try.prog w = .ok St.zero.val w := Try.zeroValue25 w
  rcases Go.Maps.fit_look true keyed3 Try.underlying85 hz hb F (keyOf_kl ht) with ⟨hrun, hno, _⟩ | ⟨e0, y, hm, hk, hrun, hR0, _, _⟩
  · refine .inl ⟨hrun, fun u hu hk => ?_⟩
    have : ent u ∈ es.toList.map (rg Try.prog 23 elS) := hpe.mem_iff.2 (List.mem_map_of_mem hu)
    obtain ⟨x, hx, he⟩ := List.mem_map.1 this
    obtain ⟨y, hy⟩ := F.reads x hx
    rw [rg_of hy] at he
    subst he
    refine hno x hx ?_
    rw [← hk]
    exact keyed3.inj (rd_key hy) (keyOf_kl (hR u hu))
  · obtain ⟨u, hu, rfl⟩ := elS_inv hR0
    refine .inr ⟨u, ?_, ?_, by rw [hu] at hrun; exact hrun⟩
    all_goals
      obtain ⟨y, hy⟩ := F.reads e0 hm
      have h1 := rd_key hy
      obtain ⟨z, h2, h3⟩ := rd_val hy
      rw [hR0] at h2; cases h2
      have : y ∈ E.map ent := hpe.mem_iff.1 (List.mem_map.2 ⟨e0, hm, rg_of hy⟩)
      obtain ⟨u', hu', e⟩ := List.mem_map.1 this
      have h3' : y.2 = dat u := h3
      have hd : dat u' = dat u := by rw [← h3', ← e]; rfl
      have := dat_inj hd
      subst this
    · exact hu'
    · have h4 : y.1 = kl u' := by rw [← e]; rfl
      rw [hk] at h1
      exact keyed3.inj (keyOf_kl (hR u' hu')) (by rw [h1, h4])
theorem MapS.store (h : MapS w b n E) (hn : n < maxLen) {t : St} (ht : t.R) :
    ∃ w', (Instr.mapUpdate 85 (.map (some b)) t.key t.val).run Try.prog w = .ok () w' ∧ MapS w' b (n + 1) (putS t E) ∧ w.grownBy w' (some b) := by
  obtain ⟨⟨L, h1, hp⟩, hR, hd⟩ := h
  obtain ⟨w', hrun, h2, hg⟩ := h1.update keyed3 Try.underlying85 hn (keyOf_kl ht) (elS_val t)
  rw [DataW.put_eq] at h2
  refine ⟨w', hrun, ⟨⟨_, h2, ?_⟩, ?_, ?_⟩, hg⟩
  · unfold putKey putS
    refine (insert_perm _ _).trans ?_
    rw [List.map_cons]
    refine List.Perm.cons _ ?_
    refine (hp.filter _).trans ?_
    rw [List.filter_map]
    have : (notKey (kl t) ∘ ent) = fun u => notKey (kl t) (ent u) := rfl
    rw [this]
    refine List.Perm.of_eq ?_
    congr 1
    refine List.filter_congr fun u hu => ?_
    rw [Bool.eq_iff_iff, decide_eq_true_iff, Go.Maps.notKey_iff (keyed3.key (keyOf_kl ht))]
    rw [← key_inj]
    constructor
    · intro h e; exact h (kl_key e)
    · intro h e; exact h (kl_inj (hR u hu) ht e)
  · intro u hu
    rcases List.mem_cons.1 hu with rfl | hu
    · exact ht
    · exact hR u (List.mem_filter.1 hu).1
  · refine List.pairwise_cons.2 ⟨fun u hu => ?_, hd.filter _⟩
    have := (List.mem_filter.1 hu).2
    rw [decide_eq_true_iff, ← key_inj] at this
    exact fun e => this e.symm
end
end Go.Proofs.Ytkbabmifdfmhlaa
