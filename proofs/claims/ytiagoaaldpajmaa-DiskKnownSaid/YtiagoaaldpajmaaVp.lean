/- Several texts in one: RefRow, Drop. -/
import Derived.Test.YtiagoaaldpajmaaVo
import Derived.Laws.AppendOwnNone
import Derived.OwnWalk
import Derived.Test.YtiagoaaldpajmaaVe
namespace Go.Proofs.Ytiagoaaldpajmaa
open Go.ChangeShapes Go.WideShapes Go.ChangeAt Go.RowKit Go.BigFrame Go.Maps Go.Sort
set_option linter.unusedVariables false
abbrev TFS : TypeId := 66
theorem Try.infoFile : (Try.prog.info? TRF).map (fun i => (i.zero, i.size, i.bytes)) = some (some (.agg #[.string ⟨#[]⟩, .slice none 0 0, .int .i64 0, .bool false]), 4, 56) := by kernel_rfl
/-- a row to read from -/
def SrcAt (w : World) (A : Option Addr) (ys : List En) (c : Nat) : Prop := (A = none → c = 0) ∧ (0 < ys.length → ∃ b off, A = some ⟨b, off, none⟩ ∧ b < w.heap.size ∧ ∀ (j : Nat) (e : En), ys[j]? = some e → e.at_ w b (off + j * 4))
section
variable {w w' : World} {q : Nat} {d : DM} {es ys ts : List En} {A : Option Addr} {c k : Nat} {M : Nat → Prop} {e : En} {G : Nat → Prop}
theorem below_grown {row : Option Nat} {base : Nat} (h : w.grownBy w' row) (hF : ∀ k, row = some k → base ≤ k) (hb : base ≤ w.heap.size) : Below base w w' := (Touch.of_grown (F := fun k => base ≤ k) h hF).below (fun _ hk => hk) hb
theorem wpList_append_run {P : Program} {ops : Array Oper} {rest : List Oper} {o : Oper} {a : Act} {Q : Exit → Act → World → Prop} (hgd : o.guard = none) (s x : Operand) (t : TypeId)
    (ho : o.op = .call { callee := .builtin .append, args := #[s, x], argTypes := #[t, t] }) (v y v' : Value) (hs : a.eval s = v) (hx : a.eval x = y) (hr : (Builtin.append_ #[t, t] o.type #[v, y]).run P w = .ok v' w')
    (h : wpList P ops Q rest (a.put o.dst v') w') : wpList P ops Q (o :: rest) a w := by
  refine wpList_plain hgd fun K hK => ?_
  unfold Oper.wp
  simp [execOp, ho, resolve, invoke, builtin, hs, hx, hr, Result.andThen]
  exact hK _ _ h
theorem EnsAt.src (h : EnsAt w M A es c) : SrcAt w A es c := ⟨h.none, h.row⟩
theorem SrcAt.below (h : SrcAt w A ys c) (hb : Below w.heap.size w w') : SrcAt w' A ys c := ⟨h.1, fun h0 => by
  obtain ⟨b, off, e, hlt, hc⟩ := h.2 h0
  exact ⟨b, off, e, Nat.lt_of_lt_of_le hlt hb.size, fun j x hx => (hc j x hx).touch (Touch.of_below (F := fun _ => False) hb) hlt (by simp)⟩⟩
theorem slice_low (h : SrcAt w A es c) (hk : k ≤ es.length) (hc : es.length ≤ c) : ∃ A2 c2, (∀ w2 : World, (Instr.sliceAt TFS (.slice A es.length c) none (some (.int .i64 (k : Nat))) none).run Try.prog w2 = .ok (.slice A2 k c2) w2) ∧ SrcAt w A2 (es.take k) c2 := by
  refine ⟨A, c, fun w2 => ?_, h.1, fun h0 => ?_⟩
  · rw [run_sliceAt_slice (P := Try.prog) (h := by kernel_rfl), run_slice_h (P := Try.prog) (ht := by kernel_rfl) _ _ _ _ _ _ _ (by omega) (by omega)]
    have hs : (sizeOf (Try.prog.elem TFS)).run Try.prog w2 = .ok 4 w2 := by go_simp
    rw [hs]
    simp [sliced, Result.andThen]
    intro _
    cases A <;> rfl
  · rw [List.length_take] at h0
    obtain ⟨b, off, e, hlt, hcl⟩ := h.2 (by omega)
    refine ⟨b, off, e, hlt, fun j x hx => ?_⟩
    rw [List.getElem?_take] at hx
    split at hx
    · exact hcl j x hx
    · cases hx
theorem slice_high (h : SrcAt w A es c) (hk : k ≤ es.length) (hc : es.length ≤ c) : ∃ A2 c2, (∀ w2 : World, (Instr.sliceAt TFS (.slice A es.length c) (some (.int .i64 (k : Nat))) none none).run Try.prog w2 = .ok (.slice A2 (es.length - k) c2) w2) ∧ SrcAt w A2 (es.drop k) c2 := by
  have hrun : ∀ w2 : World, (Instr.sliceAt TFS (.slice A es.length c) (some (.int .i64 (k : Nat))) none none).run Try.prog w2 = .ok (sliced A k es.length c 4) w2 := fun w2 => by
    rw [run_sliceAt_slice (P := Try.prog) (h := by kernel_rfl), run_slice_l (P := Try.prog) (ht := by kernel_rfl) _ _ _ _ _ _ _ (by omega) (by omega)]
    have hs : (sizeOf (Try.prog.elem TFS)).run Try.prog w2 = .ok 4 w2 := by go_simp
    rw [hs]
    simp [Result.andThen]
  cases A with
  | none =>
    have hc0 := h.1 rfl
    refine ⟨none, c - k, fun w2 => ?_, fun _ => by omega, fun h0 => ?_⟩
    · rw [hrun]; simp [sliced]
    · rw [List.length_drop] at h0; omega
  | some a =>
    by_cases hck : c = k
    · refine ⟨some a, c - k, fun w2 => ?_, by simp, fun h0 => ?_⟩
      · rw [hrun]; simp [sliced, hck]
      · rw [List.length_drop] at h0; omega
    · refine ⟨some (a.add (k * 4)), c - k, fun w2 => ?_, by simp, fun h0 => ?_⟩
      · rw [hrun]; simp [sliced, hck]
      · rw [List.length_drop] at h0
        obtain ⟨b, off, e, hlt, hcl⟩ := h.2 (by omega)
        cases e
        refine ⟨b, off + k * 4, by rw [add_at], hlt, fun j x hx => ?_⟩
        rw [List.getElem?_drop] at hx
        have := hcl (k + j) x hx
        rwa [show off + (k + j) * 4 = off + k * 4 + j * 4 by omega] at this
/-- a row of the call's own, as files -/
theorem ens_of_own {base : Nat} {v : Value} {n : Nat} (h : w.ownsRow base TRF 4 v n (enRow es)) :
    ∃ A c, v = .slice A es.length c ∧ n = es.length ∧ EnsAt w (fun b => base ≤ b ∧ b < w.heap.size) A es c := by
  have hl : es.length = n := by have := h.1; rw [enRow_len] at this; omega
  obtain ⟨_, ⟨rfl, h0⟩ | ⟨g, cap, cur, rfl, hbg, hh, hnc, hcm, _, ht⟩⟩ := id h
  · exact ⟨none, 0, by rw [hl, h0], hl.symm, ⟨by omega, by omega, fun _ => rfl, by simp, fun hn => by omega⟩⟩
  · have hg : g < w.heap.size := by
      by_cases hg : g < w.heap.size
      · exact hg
      · rw [Array.getElem?_eq_none (by omega)] at hh; cases hh
    refine ⟨some ⟨g, 0, none⟩, cap, by rw [hl], hl.symm, ⟨by omega, by unfold maxLen at hcm; omega, by simp, by rintro ad ⟨⟩; exact ⟨hbg, hg⟩, fun hn => ⟨g, 0, rfl, hg, fun i t hi => ?_⟩⟩⟩
    have key : ∀ j u, (enRow es)[j]? = some u → w.cell? ⟨g, 0 + j, none⟩ = some u := fun j u hj => by
      have := h.cells (g := g) rfl j u hj
      rw [add_zero_off] at this
      rw [Nat.zero_add]; exact this
    obtain ⟨h1, h2, h3, h4⟩ := enRow_at es i t hi
    refine ⟨key _ _ h1, ?_, ?_, ?_⟩
    · have := key _ _ h2; rwa [← Nat.add_assoc] at this
    · have := key _ _ h3; rwa [← Nat.add_assoc] at this
    · have := key _ _ h4; rwa [← Nat.add_assoc] at this
theorem run_append_ens (ty : TypeId) (base : Nat) (v : Value) (n : Nat) (hown : w.ownsRow base TRF 4 v n (enRow ts)) (hb : SrcAt w A ys c) (hle : n + ys.length ≤ 1000000000) (hbase : base ≤ w.heap.size) :
    ∃ v' w', (Builtin.append_ #[TFS, TFS] ty #[v, .slice A ys.length c]).run Try.prog w = .ok v' w' ∧ w'.ownsRow base TRF 4 v' (n + ys.length) (enRow (ts ++ ys)) ∧ w.grownBy w' v.ownBlock := by
  obtain ⟨i, hi, hz0, hz1, hz2⟩ := info_parts Try.infoFile
  cases A with
  | some ad =>
    obtain ⟨v', w', hr, h2, h3, _⟩ := run_append_own (P := Try.prog) w base TFS ty TRF i _ 4 56 Try.underlying66 hi hz0 hz1 hz2 rfl (by omega) v n (enRow ts) hown ad ys.length c (enRow ys) (enRow_len ys)
      (enRow_mem ys (fun j => w.cell? (ad.add j)) (fun i t ht => by
        have hn : 0 < ys.length := by have := (List.getElem?_eq_some_iff.1 ht).1; omega
        obtain ⟨b, off, e, _, hcell⟩ := hb.2 hn
        cases e
        obtain ⟨h1, h2, h3, h4⟩ := hcell i t ht
        simp only [add_at]
        exact ⟨h1, h2, h3, h4⟩)) (enRow_one ys) (by unfold maxLen; omega) (by omega) hbase
    exact ⟨v', w', hr, by rw [enRow_append]; exact h2, h3⟩
  | none =>
    have hn : ys = [] := by
      cases ys with
      | nil => rfl
      | cons y l => obtain ⟨_, _, e', _⟩ := hb.2 (by simp); cases e'
    subst hn
    have hc0 := hb.1 rfl
    subst hc0
    exact ⟨v, w, run_append_owned_none (P := Try.prog) (w := w) base TFS ty TRF i 4 Try.underlying66 hi v n (enRow ts) hown, by simpa using hown, ⟨rfl, rfl, rfl, Nat.le_refl _, fun _ _ _ => rfl⟩⟩
/-- the files but one -/
def outE (k : Nat) (b : Bool) (es : List En) : List En := es.take k ++ es.drop (if b then k + 1 else k)
theorem isF_lt {n : Nm} (h : RefAt w q d es A c M) (hb : isF n d.fs = true) : posF n d.fs < es.length := by
  have hl : d.fs.length = es.length := by rw [h.fs, List.length_map]
  have := posF_le (n := n) (fs := d.fs)
  by_cases he : posF n d.fs = d.fs.length
  · rw [isF_end h.sort he] at hb; cases hb
  · omega
set_option maxRecDepth 100000 in
set_option maxHeartbeats 4000000 in
theorem ref_without (h : RefAt w q d es A c M) (s : ByteArray) (hl : es.length ≤ 100000000) :
    Calls Try.prog 68 #[.pointer (some ⟨q, 0, none⟩), .string s] w fun e w' => ∃ A' c', e = .returned (.slice A' (outE (posF s.data.toList d.fs) (isF s.data.toList d.fs) es).length c') ∧
      EnsAt w' (fun b => w.heap.size ≤ b ∧ b < w'.heap.size) A' (outE (posF s.data.toList d.fs) (isF s.data.toList d.fs) es) c' ∧ Below w.heap.size w w' := by
  have hat := at_any h s
  have hkl : posF s.data.toList d.fs ≤ es.length := by
    have hl : d.fs.length = es.length := by rw [h.fs, List.length_map]
    rw [← hl]; exact posF_le
  have hlt := isF_lt (n := s.data.toList) h
  obtain ⟨h0, -, -, -, -⟩ := rrow h.row
  have hcap := h.list.cap
  have hmax := h.list.max
  have hsrc : SrcAt w.drew A es c := h.list.src
  generalize posF s.data.toList d.fs = k at *
  obtain ⟨A1, c1, hs1, hsr1⟩ := slice_low hsrc hkl hcap
  have hlt1 : (es.take k).length = k := by rw [List.length_take]; omega
  have hown0 : w.drew.ownsRow w.heap.size TRF 4 (.slice none 0 0) 0 (enRow []) := ⟨rfl, .inl ⟨rfl, rfl⟩⟩
  obtain ⟨v1, w1, hr1, hown1, hgr1⟩ := run_append_ens TFS w.heap.size (.slice none 0 0) 0 hown0 hsr1 (by rw [hlt1]; omega) (Nat.le_refl _)
  rw [hlt1] at hr1
  have hb1 : Below w.heap.size w w1 := (Below.refl _ w).drew.trans (below_grown hgr1 (by simp [Value.ownBlock]) (Nat.le_refl _))
  rw [List.nil_append] at hown1
  have hsrc1 : SrcAt w1 A es c := h.list.src.below hb1
  have h01 : w1.cell? ⟨q, 0, none⟩ = some (.slice A es.length c) := (World.cell?_of_block (hb1.block q h.row.lt)).trans h0
  have h0d : w.drew.cell? ⟨q, 0, none⟩ = some (.slice A es.length c) := h0
  have HAt := Lib.hid hat; have HOwn1 := Lib.hid hown1; have HB1 := Lib.hid hb1; have HSrc1 := Lib.hid hsrc1
  clear hat hown0 hown1 hgr1 hb1 hsrc hsr1 hsrc1 h h0
  cases hb : isF s.data.toList d.fs with
  | false =>
    rw [hb] at HAt
    clear hlt hb
    obtain ⟨A2, c2, hs2, hsr2⟩ := slice_high HSrc1.out hkl hcap
    have hlt2 : (es.drop k).length = es.length - k := List.length_drop
    obtain ⟨v2, w2, hr2, hown2, hgr2⟩ := run_append_ens TFS w.heap.size v1 _ HOwn1.out hsr2 (by rw [hlt1, hlt2]; omega) HB1.out.size
    rw [hlt2] at hr2
    obtain ⟨A3, c3, hv3, -, hens⟩ := ens_of_own hown2
    have hb2 : Below w.heap.size w w2 := HB1.out.trans (below_grown hgr2 (fun k hk => (HOwn1.out.lt k hk).1) HB1.out.size)
    subst hv3
    have HEns := Lib.hid hens; have HB2 := Lib.hid hb2; clear hown2 hgr2 hsr2 hens hb2
    go_enter Try.func68, Try.ntmps68
    go_wp2_with fail
    refine (HAt.out).mono ?_; rintro e w3 ⟨rfl, rfl⟩
    go_wp2_with (at_builtin; refine wpList_append_run rfl _ _ TFS rfl _ _ _ rfl rfl (by first | exact hr1 | exact hr2) ?_)
    go_ret
    have hL : (outE k false es).length = es.length := by simp [outE]
    exact ⟨A3, c3, by rw [hL]; rfl, HEns.out, HB2.out⟩
  | true =>
    rw [hb] at HAt
    have hkl1 : k + 1 ≤ es.length := hlt hb
    clear hlt hb
    obtain ⟨A2, c2, hs2, hsr2⟩ := slice_high (k := k + 1) HSrc1.out hkl1 hcap
    have hlt2 : (es.drop (k + 1)).length = es.length - (k + 1) := List.length_drop
    obtain ⟨v2, w2, hr2, hown2, hgr2⟩ := run_append_ens TFS w.heap.size v1 _ HOwn1.out hsr2 (by rw [hlt1, hlt2]; omega) HB1.out.size
    rw [hlt2] at hr2
    obtain ⟨A3, c3, hv3, -, hens⟩ := ens_of_own hown2
    have hb2 : Below w.heap.size w w2 := HB1.out.trans (below_grown hgr2 (fun k hk => (HOwn1.out.lt k hk).1) HB1.out.size)
    subst hv3
    have hkc : ((k + 1 : Nat) : Int) = (k : Int) + 1 := by push_cast; rfl
    rw [hkc] at hs2
    have HEns := Lib.hid hens; have HB2 := Lib.hid hb2; clear hown2 hgr2 hsr2 hens hb2 hkc
    go_enter Try.func68, Try.ntmps68
    go_wp2_with fail
    refine (HAt.out).mono ?_; rintro e w3 ⟨rfl, rfl⟩
    go_wp2_with (at_builtin; refine wpList_append_run rfl _ _ TFS rfl _ _ _ rfl rfl (by first | exact hr1 | exact hr2) ?_)
    go_ret
    have hL : (outE k true es).length = k + (es.length - (k + 1)) := by simp [outE]; omega
    exact ⟨A3, c3, by rw [hL]; rfl, HEns.out, HB2.out⟩
end
end Go.Proofs.Ytiagoaaldpajmaa
namespace Go.Proofs.Ytiagoaaldpajmaa
namespace Free
section
variable {P : Program}
/-- the same, where operation K ends what was told of the operations D -/
theorem wp_drop {id : Nat} {Q : Exit → Act → World → Prop} {a0 : Act} {w0 : World} {l : List Oper} (hm : P.follows .mixedOrders = true) (hB : okB l a0.tmps.size = true)
    (K : Nat) (D : List Nat) (F : World → Prop) (R : Nat → Value → World → Prop) (hF : F w0.drew)
    (hstep : ∀ i o, l[i]? = some o → ∀ (a : Act) (w : World), (∀ t, t ∉ dsts l → a.eval (.tmp t) = a0.eval (.tmp t)) → (∀ j oj t, Region.waitsFor .any l.toArray j i = true → l[j]? = some oj → oj.dst = some t → a.eval (.tmp t) = a0.eval (.tmp t)) →
      (∀ j oj t, Region.waitsFor .any l.toArray i j = true → l[j]? = some oj → oj.dst = some t → (D.contains j = false ∨ i = K) → R j (a.eval (.tmp t)) w) → F w →
      gets P (fun v w' => R i v w' ∧ F w' ∧ ∀ j u, j ≠ i → Region.waitsFor .any l.toArray j i = false → (D.contains j = false ∨ i ≠ K) → R j u w → R j u w') ((execOp a.eval o).run P w))
    (hend : ∀ (vs : Nat → Value) (w' : World), (∀ i, i < l.length → (∀ o, l[i]? = some o → o.dst.isSome = true) → D.contains i = false → R i (vs i) w') → F w' → Q .normal (puts a0 l 0 vs) w') : (Code.region id l.toArray true).wp P Q a0 w0 := by
  simp only [okB, Bool.and_eq_true, decide_eq_true_eq] at hB
  obtain ⟨⟨⟨hns, hgd⟩, hnd⟩, hlt⟩ := hB
  have hlt' : ∀ t ∈ dsts l, t < a0.tmps.size := fun t ht => by simpa using List.all_eq_true.1 hlt t ht
  let Inv : Array Bool → Act → World → Prop := fun S a w => a.defers = a0.defers ∧ a.tmps.size = a0.tmps.size ∧ (∀ t, t ∉ dsts l → a.tmps.getD t undef = a0.tmps.getD t undef) ∧ F w ∧
    (∀ i o t, l[i]? = some o → S.getD i false = true → o.dst = some t → (D.contains i = true → S.getD K true = false) → R i (a.tmps.getD t undef) w) ∧
    (∀ j oj t, l[j]? = some oj → S.getD j true = false → oj.dst = some t → a.tmps.getD t undef = a0.tmps.getD t undef)
  have main : ∀ (fuel : Nat) (S : Array Bool) (a : Act) (w : World), S.toList.count false = fuel → Stage.Fit .any l.toArray S → Inv S a w → wpAny P .any l.toArray Q fuel S a w := by
    intro fuel
    have fin : ∀ (S : Array Bool) (a : Act) (w : World), Stage.Fit .any l.toArray S → (∀ i, S.getD i true = true) → Inv S a w → Q .normal a w := by
      rintro S a w hFit hS ⟨h1, h2, h3, h4, h5, h6⟩
      have e : a = puts a0 l 0 (fun i => match l[i]? with | some o => slot a o | none => undef) := by
        have hp := puts_size l a0 0 (fun i => match l[i]? with | some o => slot a o | none => undef)
        refine act_ext (h1.trans hp.2.symm) (h2.trans hp.1.symm) (fun t ht => ?_)
        by_cases hm : t ∈ dsts l
        · obtain ⟨o, ho, e⟩ := List.mem_filterMap.1 hm
          obtain ⟨i, hi⟩ := List.getElem?_of_mem ho
          rw [puts_new l a0 0 _ i o t hnd hi e (hlt' t hm), Nat.zero_add]
          simp only [hi, slot, e]
        · rw [puts_old _ _ _ _ _ hm]; exact h3 t hm
      rw [e]
      refine hend _ w (fun i hi hd hD => ?_) h4
      have hi' : l[i]? = some l[i] := List.getElem?_eq_getElem hi
      simp only [hi']
      obtain ⟨t, ht⟩ := Option.isSome_iff_exists.1 (hd _ hi')
      have hSi : S.getD i false = true := by
        have h1 := hS i
        have : i < S.size := by rw [hFit.size]; simpa using hi
        simp [this] at h1 ⊢; exact h1
      have := h5 i _ t hi' hSi ht (fun h => by rw [hD] at h; cases h)
      unfold slot; rw [ht]; exact this
    have one : ∀ (S : Array Bool) (a : Act) (w : World) (K9 : Act → World → Prop), Stage.Fit .any l.toArray S → Inv S a w → ∀ i ∈ Region.ready .any l.toArray S, (∀ a' w', Inv (S.setIfInBounds i true) a' w' → K9 a' w') → wpOp P l.toArray Q i K9 a w := by
      rintro S a w K9 hFit ⟨h1, h2, h3, h4, h5, h6⟩ i hi hK9
      obtain ⟨hun, o, ho, hall⟩ := mem_ready.1 hi
      have hol : l[i]? = some o := by simpa using ho
      unfold wpOp
      simp only [ho]
      have hw : Region.wanted o (yielded l.toArray a.tmps) = true := by
        have := List.all_eq_true.1 hgd o (List.mem_of_getElem? hol)
        have hn : o.guard = none := by simpa using this
        simp [Region.wanted, hn]
      rw [if_pos hw]
      refine .inl ?_
      have hpre : ∀ j oj t, Region.waitsFor .any l.toArray i j = true → l[j]? = some oj → oj.dst = some t → (D.contains j = false ∨ i = K) → R j (a.eval (.tmp t)) w := by
        intro j oj t hwt hj hd hDK
        have hc := Stage.came hi hwt
        have hSj : S.getD j false = true := by
          have hjl : j < S.size := by rw [hFit.size]; simpa using (List.getElem?_eq_some_iff.1 hj).1
          simp [hjl] at hc ⊢; exact hc
        exact h5 j oj t hj hSj hd (fun h => by
          rcases hDK with h' | h'
          · rw [h'] at h; cases h
          · rw [← h']; exact hun)
      have hs := hstep i o hol a w (fun t ht => h3 t ht) (fun j oj t hwj hj hd => h6 j oj t hj (hFit.not hun hwj) hd) hpre h4
      have step : ∀ v w', (R i v w' ∧ F w' ∧ ∀ j u, j ≠ i → Region.waitsFor .any l.toArray j i = false → (D.contains j = false ∨ i ≠ K) → R j u w → R j u w') → K9 (a.put o.dst v) w' := by
        rintro v w' ⟨r1, r2, r3⟩
        refine hK9 _ _ ⟨by rw [put_defers]; exact h1, by rw [put_size]; exact h2, fun t ht => ?_, r2, fun j oj t hj hSj hd hcond => ?_, fun j oj t hj hSj hd => ?_⟩
        · rw [put_getD _ _ _ _ (fun e => ht (mem_dsts hol e))]; exact h3 t ht
        · by_cases hij : i = j
          · subst hij
            obtain rfl : oj = o := Option.some.inj (hj.symm.trans hol)
            rw [hd, put_getD_self _ _ _ (by rw [h2]; exact hlt' t (mem_dsts hj hd))]
            exact r1
          · rw [getD_set_ne false hij] at hSj
            rw [put_getD _ _ _ _ (fun e => hij (dst_ne hnd hol hj e hd))]
            have hKi : D.contains j = true → i ≠ K := fun h e => by
              have := hcond h
              rw [← e] at this
              rw [Stage.getD_set_self hun] at this; cases this
            have hDj : D.contains j = false ∨ i ≠ K := by
              cases hd2 : D.contains j with
              | false => exact .inl rfl
              | true => exact .inr (hKi hd2)
            have hwf : Region.waitsFor .any l.toArray j i = false := by
              cases hwf : Region.waitsFor .any l.toArray j i with
              | false => rfl
              | true =>
                have h1 := hFit.not hun hwf
                have hjl : j < S.size := by rw [hFit.size]; simpa using (List.getElem?_eq_some_iff.1 hj).1
                simp [hjl] at h1 hSj
                rw [h1] at hSj; cases hSj
            refine r3 j _ (Ne.symm hij) hwf hDj (h5 j oj t hj hSj hd (fun h => ?_))
            have := hcond h
            rwa [getD_set_ne true (hKi h)] at this
        · have hij : i ≠ j := fun e => by subst e; rw [Stage.getD_set_self hun] at hSj; cases hSj
          rw [getD_set_ne true hij] at hSj
          rw [put_getD _ _ _ _ (fun e => hij (dst_ne hnd hol hj e hd))]
          exact h6 j oj t hj hSj hd
      unfold Oper.wp
      generalize (execOp a.eval o).run P w = r at hs
      cases r with
      | ok n w' =>
        cases n <;> simp only [gets] at hs <;> simp only [Oper.upon]
        case value u => exact step _ _ hs
        case skip => exact step _ _ hs
        case enter f args => exact hs.mono fun e w'' ⟨v, he, h⟩ => by subst he; exact step _ _ h
      | halt x w' => simp only [gets] at hs
    induction fuel with
    | zero =>
      intro S a w hn hFit hI
      have hS : ∀ i, S.getD i true = true := fun i => by rw [Stage.getD_toList]; exact Stage.all_of_count hn i
      refine ⟨?_, fin S a w hFit hS hI⟩
      cases hr : Region.ready .any l.toArray S with
      | nil => rfl
      | cons i r =>
        have := (mem_ready.1 (show i ∈ Region.ready .any l.toArray S by rw [hr]; simp)).1
        rw [hS i] at this; cases this
    | succ fuel ih =>
      intro S a w hn hFit hI
      refine ⟨fun h0 => ?_, fun i hi => ?_⟩
      · refine fin S a w hFit (fun i => ?_) hI
        induction i using Nat.strongRecOn with
        | _ i ihi =>
          cases hx : S.getD i true with
          | true => rfl
          | false =>
            exfalso
            have hil : i < l.length := by
              rcases Nat.lt_or_ge i S.size with h' | h'
              · rw [hFit.size] at h'; simpa using h'
              · simp [Array.getElem?_eq_none h'] at hx
            have hup := List.all_eq_true.1 hns i (List.mem_range.2 hil)
            rw [List.getElem?_eq_getElem hil] at hup
            have hr : i ∈ Region.ready .any l.toArray S := by
              refine mem_ready.2 ⟨hx, l[i], by simp [hil], fun e he hbe => ?_⟩
              have h1 : e.on < i := by
                have := Array.all_eq_true_iff_forall_mem.1 hup e he
                simpa [hbe] using this
              have h2 := ihi e.on h1
              have h3 : e.on < S.size := by rw [hFit.size]; simp; omega
              simp [h3] at h2 ⊢; exact h2
            rw [h0] at hr; cases hr
      · have hun := (mem_ready.1 hi).1
        have hc : (S.setIfInBounds i true).toList.count false = fuel := by
          rw [Array.toList_setIfInBounds]
          have := Stage.count_set (l := S.toList) (i := i) (by rw [← Stage.getD_toList]; exact hun)
          omega
        exact one S a w _ hFit hI i hi (fun a' w' hI' => ih _ a' w' hc (hFit.set hi) hI')
  refine wp_region_any hm (main _ _ _ _ (by simp) (by simpa using Stage.Fit.start (md := .any) (ops := l.toArray)) ⟨rfl, rfl, fun _ _ => rfl, hF, fun i o t _ h _ _ => ?_, fun _ _ _ _ _ _ => rfl⟩)
  rw [getD_replicate_false] at h; cases h
end
end Free
end Go.Proofs.Ytiagoaaldpajmaa
