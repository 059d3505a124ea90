/- VrOpen, Key, VrKey -/
import Derived.Test.YtcjdjdhjbchaaaaCa5
import Derived.Deep.Slices
import Derived.Laws.IdiomArrays
import Derived.OpenShut
import Derived.Test.YtcjdjdhjbchaaaaCa2
import Derived.Test.YtcjdjdhjbchaaaaCa4
namespace Go.Proofs.Ytcjdjdhjbchaaaa
set_option linter.unusedVariables false
section
namespace Vr
open Go.ChangeShapes Go.WideShapes Go.ChangeAt Go.RowKit Go.BigFrame Go.Shelf
set_option maxRecDepth 100000
theorem plain_addr1 {w : World} {a : Addr} {v : Value} (h : w.cell? a = some v) : ∃ b off, a = ⟨b, off, none⟩ := by
  obtain ⟨b, off, spot⟩ := a
  refine ⟨b, off, ?_⟩
  cases spot with
  | none => rfl
  | some s =>
    unfold World.cell? at h
    split at h
    · simp at h
    · cases h
theorem cells_rec : Try.prog.cellsOf 36 = 2 := by kernel_rfl
theorem i64_wf {n : Int} (h : (Lit.int .i64 n).wf = true) : -9223372036854775808 ≤ n ∧ n < 9223372036854775808 := by
  have : -9223372036854775808 ≤ n ∧ n ≤ 9223372036854775807 := by simpa [Lit.wf, IntKind.min, IntKind.max, IntKind.signed, IntKind.bits] using h
  omega
theorem rec_cells {H : Type} {enc : TypeId × Value → H} {W : World} {n : Nat} {cs : List Value} {x : DataW H × List MemPlace} (hl : cs.length = 2) (h : DataW.trod enc Try.prog W 0 (fun _ => true) true n 36 cs = some x) : ∃ t : Rd, cs = t.cells ∧ t.W := by
  match cs, hl with
  | [c0, c1], _ =>
    obtain ⟨xs, n', _, hx, _, hlen, hg⟩ := DataW.trod_struct Try.underlying36 h
    match xs, hlen with
    | [y0, y1], _ =>
      have h0 : DataW.trod enc Try.prog W 0 (fun _ => true) true n' 2 [c0] = some y0 := hg 0 _ rfl
      have h1 : DataW.trod enc Try.prog W 0 (fun _ => true) true n' 2 [c1] = some y1 := hg 1 _ rfl
      obtain ⟨n0, e0, -, f0⟩ := DataW.trod_int Try.underlying2 h0
      obtain ⟨n1, e1, -, f1⟩ := DataW.trod_int Try.underlying2 h1
      cases e0; cases e1
      exact ⟨⟨n0, n1⟩, rfl, i64_wf f0, i64_wf f1⟩
theorem open_rec {H : Type} {enc : TypeId × Value → H} {W : World} {base : Nat} {v : Value} {d : DataW H} {p : List MemPlace}
    (hok : Value.okWide Try.prog W .any base 36 v) (h : DataW.Trod enc Try.prog W 0 (fun _ => true) true 36 v d p) : ∃ t : Rd, v = t.val ∧ t.W := by
  obtain ⟨cs, rfl, hsz⟩ := okWide_struct Try.underlying36 hok
  obtain ⟨l⟩ := cs
  match l, hsz.trans cells_rec with
  | [c0, c1], _ =>
    obtain ⟨fuel, hf⟩ := h
    obtain ⟨t, e, hW⟩ := rec_cells (cs := [c0, c1]) rfl hf
    refine ⟨t, ?_, hW⟩
    rw [e]
    rfl
theorem open_recs {H : Type} {enc : TypeId × Value → H} {W : World} {base : Nat} {v : Value} {d : DataW H} {p : List MemPlace} (hok : Value.okWide Try.prog W .any base 28 v)
    (h : DataW.Trod enc Try.prog W 0 (fun _ => true) true 28 v d p) :
    ∃ (A : Option Addr) (l : List Rd) (c : Nat), v = .slice A l.length c ∧ Rw.Ts kindR W A l ∧ (∀ r ∈ l, r.W) ∧ l.length ≤ c ∧ c ≤ maxLen ∧ (A = none → c = 0 ∧ l = []) := by
  obtain ⟨A0, len, cap, rfl⟩ := okWide_slice Try.underlying28 hok
  obtain ⟨fuel, hf⟩ := h
  rcases Go.Deep.open_slice Try.underlying28 hf with ⟨hcs, _⟩ | ⟨a, len', cap', m, n, D, Pl, hcs, _, hl, hm, hmm, hx, hi⟩
  · simp [Value.cells] at hcs
    obtain ⟨rfl, rfl, rfl⟩ := hcs
    exact ⟨none, [], 0, rfl, Rw.Ts.nil, by simp, by simp, by simp, fun _ => ⟨rfl, rfl⟩⟩
  · simp [Value.cells] at hcs
    obtain ⟨rfl, rfl, rfl⟩ := hcs
    simp only [if_true] at hmm
    subst hmm
    rw [cells_rec] at hi
    have key : ∀ i, i < len → ∃ x : Rd, (∀ j u, x.cells[j]? = some u → W.cell? ((a.add (i * 2)).add j) = some u) ∧ x.W := by
      intro i hlt
      obtain ⟨cs', hc, ht⟩ := hi i (by omega)
      obtain ⟨_, hcl, hat⟩ := World.cells?_some hc
      obtain ⟨t, rfl, hW⟩ := rec_cells hcl ht
      refine ⟨t, fun j u hu => ?_, hW⟩
      have hj : j < 2 := (List.getElem?_eq_some_iff.1 hu).1
      rw [hat j hj]; exact hu
    let f : Nat → Rd := fun i => if h : i < len then Classical.choose (key i h) else ⟨0, 0⟩
    have hf' : ∀ i (h : i < len), f i = Classical.choose (key i h) := fun i h => by simp only [f]; rw [dif_pos h]
    have hspec := fun i (h : i < len) => (by rw [hf' i h]; exact Classical.choose_spec (key i h) : (∀ j u, (f i).cells[j]? = some u → W.cell? ((a.add (i * 2)).add j) = some u) ∧ (f i).W)
    refine ⟨some a, (List.range len).map f, m, by simp, fun hn => ?_, fun r hr => ?_, by simp; omega, hm, by simp⟩
    · have hlen : 0 < len := by simpa using hn
      have h0 := (hspec 0 hlen).1 0 _ rfl
      have hlt := cell_lt h0
      rw [add_block, add_block] at hlt
      obtain ⟨b, off, rfl⟩ : ∃ b off, a = ⟨b, off, none⟩ := by
        obtain ⟨b, off, e⟩ := plain_addr1 h0
        obtain ⟨b', off', spot⟩ := a
        simp [Addr.add] at e
        exact ⟨b', off', by rw [e.2.2]⟩
      refine ⟨b, off, rfl, hlt, fun j u hu => ?_⟩
      have hj : j < len * 2 := by
        have := (List.getElem?_eq_some_iff.1 hu).1
        rw [Rw.row_len] at this
        have h2 : ((List.range len).map f).length = len := by simp
        rw [h2] at this; exact this
      have hil : j / 2 < len := by omega
      have hti : ((List.range len).map f)[j / 2]? = some (f (j / 2)) := by rw [List.getElem?_map, List.getElem?_range hil]; rfl
      obtain ⟨u', hu'⟩ : ∃ u', (f (j / 2)).cells[j % 2]? = some u' := ⟨_, List.getElem?_eq_getElem (by show j % 2 < 2; omega)⟩
      have h1 := Rw.row_at (κ := kindR) _ (j / 2) _ hti (j % 2) u' hu'
      rw [show j / 2 * kindR.K + j % 2 = j by show j / 2 * 2 + j % 2 = j; omega, hu] at h1
      cases h1
      have h2 := (hspec (j / 2) hil).1 (j % 2) u hu'
      rw [add_at, add_at, Nat.add_assoc, show j / 2 * 2 + j % 2 = j by omega] at h2
      exact h2
    · obtain ⟨i, hi', rfl⟩ := List.mem_map.1 hr
      exact (hspec i (List.mem_range.1 hi')).2
end Vr
end

section
namespace Free
section
variable {P : Program}
def updb (b : Nat → Bool) (i : Nat) : Nat → Bool := fun j => if j = i then true else b j
def updw (vs : Nat → Value) (i : Nat) (v : Value) : Nat → Value := fun j => if j = i then v else vs j
theorem updb_self {b : Nat → Bool} {i : Nat} : updb b i i = true := if_pos rfl
theorem updb_ne {b : Nat → Bool} {i j : Nat} (h : j ≠ i) : updb b i j = b j := if_neg h
theorem updw_self {vs : Nat → Value} {i : Nat} {v : Value} : updw vs i v i = v := if_pos rfl
theorem updw_ne {vs : Nat → Value} {i j : Nat} {v : Value} (h : j ≠ i) : updw vs i v j = vs j := if_neg h
/-- each order, with guards: the class F goes by which have come up and what their slots hold -/
theorem wp_key {id : Nat} {Q : Exit → Act → World → Prop} {a0 : Act} {w0 : World} {l : List Oper} (hm : P.follows .mixedOrders = true) (hB : okG l a0.tmps.size = true)
    (F : (Nat → Bool) → (Nat → Value) → World → Prop) (V : Nat → Value → Prop) (hF : ∀ vs, F (fun i => decide (l.length ≤ i)) vs w0.drew)
    (hstep : ∀ i o, l[i]? = some o → ∀ (b : Nat → Bool) (vs : Nat → Value) (a : Act) (w : World), (∀ t, t ∉ dsts l → a.eval (.tmp t) = a0.eval (.tmp t)) →
      (∀ j oj t, Region.waitsFor .any l.toArray i j = true → l[j]? = some oj → oj.dst = some t → b j = true ∧ a.eval (.tmp t) = vs j ∧ V j (a.eval (.tmp t))) → b i = false → F b vs w →
      Comes P l a o w (fun v w' => V i v ∧ F (updb b i) (updw vs i v) w'))
    (hend : ∀ (vs : Nat → Value) (w' : World), (∀ i, i < l.length → (∀ o, l[i]? = some o → o.dst.isSome = true) → V i (vs i)) → F (fun _ => true) vs w' → Q .normal (puts a0 l 0 vs) w') : (Code.region id l.toArray true).wp P Q a0 w0 := by
  simp only [okG, Bool.and_eq_true, decide_eq_true_eq] at hB
  obtain ⟨⟨hns, hnd⟩, hlt⟩ := hB
  have hlt' : ∀ t ∈ dsts l, t < a0.tmps.size := fun t ht => by simpa using List.all_eq_true.1 hlt t ht
  let Inv : Array Bool → Act → World → Prop := fun S a w => a.defers = a0.defers ∧ a.tmps.size = a0.tmps.size ∧ (∀ t, t ∉ dsts l → a.tmps.getD t undef = a0.tmps.getD t undef) ∧
    (∃ vs, F (fun i => S.getD i true) vs w ∧ ∀ i o t, l[i]? = some o → S.getD i false = true → o.dst = some t → a.tmps.getD t undef = vs i) ∧
    ∀ i o t, l[i]? = some o → S.getD i false = true → o.dst = some t → V i (a.tmps.getD t undef)
  have main : ∀ (fuel : Nat) (S : Array Bool) (a : Act) (w : World), S.toList.count false = fuel → Stage.Fit .any l.toArray S → Inv S a w → wpAny P .any l.toArray Q fuel S a w := by
    intro fuel
    have fin : ∀ (S : Array Bool) (a : Act) (w : World), Stage.Fit .any l.toArray S → (∀ i, S.getD i true = true) → Inv S a w → Q .normal a w := by
      rintro S a w hFit hS ⟨h1, h2, h3, ⟨vs, h4, h4'⟩, h5⟩
      have hSi : ∀ i, i < l.length → S.getD i false = true := fun i hi => by
        have h1 := hS i
        have : i < S.size := by rw [hFit.size]; simpa using hi
        simp [this] at h1 ⊢; exact h1
      have e : a = puts a0 l 0 vs := by
        have hp := puts_size l a0 0 vs
        refine act_ext (h1.trans hp.2.symm) (h2.trans hp.1.symm) (fun t ht => ?_)
        by_cases hm : t ∈ dsts l
        · obtain ⟨o, ho, e⟩ := List.mem_filterMap.1 hm
          obtain ⟨i, hi⟩ := List.getElem?_of_mem ho
          rw [puts_new l a0 0 _ i o t hnd hi e (hlt' t hm), Nat.zero_add]
          exact h4' i o t hi (hSi i (List.getElem?_eq_some_iff.1 hi).1) e
        · rw [puts_old _ _ _ _ _ hm]; exact h3 t hm
      rw [e]
      refine hend _ w (fun i hi hd => ?_) (by rw [show (fun i => S.getD i true) = fun _ => true from funext hS] at h4; exact h4)
      have hi' : l[i]? = some l[i] := List.getElem?_eq_getElem hi
      obtain ⟨t, ht⟩ := Option.isSome_iff_exists.1 (hd _ hi')
      have := h5 i _ t hi' (hSi i hi) ht
      rwa [h4' i _ t hi' (hSi i hi) ht] at this
    have one : ∀ (S : Array Bool) (a : Act) (w : World) (K : Act → World → Prop), Stage.Fit .any l.toArray S → Inv S a w → ∀ i ∈ Region.ready .any l.toArray S, (∀ a' w', Inv (S.setIfInBounds i true) a' w' → K a' w') → wpOp P l.toArray Q i K a w := by
      rintro S a w K hFit ⟨h1, h2, h3, ⟨vs, h4, h4'⟩, h5⟩ i hi hK
      obtain ⟨hun, o, ho, hall⟩ := mem_ready.1 hi
      have hol : l[i]? = some o := by simpa using ho
      unfold wpOp
      simp only [ho]
      have hpre : ∀ j oj t, Region.waitsFor .any l.toArray i j = true → l[j]? = some oj → oj.dst = some t → (fun i => S.getD i true) j = true ∧ a.eval (.tmp t) = vs j ∧ V j (a.eval (.tmp t)) := by
        intro j oj t hwt hj hd
        have hc := Stage.came hi hwt
        have hSj : S.getD j false = true := by
          have hjl : j < S.size := by rw [hFit.size]; simpa using (List.getElem?_eq_some_iff.1 hj).1
          simp [hjl] at hc ⊢; exact hc
        exact ⟨hc, h4' j oj t hj hSj hd, h5 j oj t hj hSj hd⟩
      have hs := hstep i o hol _ vs a w (fun t ht => h3 t ht) hpre hun h4
      have hSs : ∀ j, (S.setIfInBounds i true).getD j true = updb (fun i => S.getD i true) i j := fun j => by
        unfold updb
        by_cases hji : j = i
        · rw [if_pos hji, hji]; exact Stage.getD_set_self hun
        · rw [if_neg hji, getD_set_ne true (Ne.symm hji)]
      have step : ∀ v w', (V i v ∧ F (updb (fun i => S.getD i true) i) (updw vs i v) w') → K (a.put o.dst v) w' := by
        rintro v w' ⟨r1, r2⟩
        refine hK _ _ ⟨by rw [put_defers]; exact h1, by rw [put_size]; exact h2, fun t ht => ?_, ⟨updw vs i v, by rw [funext hSs]; exact r2, fun j oj t hj hSj hd => ?_⟩, fun j oj t hj hSj hd => ?_⟩
        · rw [put_getD _ _ _ _ (fun e => ht (mem_dsts hol e))]; exact h3 t ht
        · by_cases hij : i = j
          · subst hij
            obtain rfl : oj = o := Option.some.inj (hj.symm.trans hol)
            rw [hd, put_getD_self _ _ _ (by rw [h2]; exact hlt' t (mem_dsts hj hd))]
            exact updw_self.symm
          · rw [getD_set_ne false hij] at hSj
            rw [put_getD _ _ _ _ (fun e => hij (dst_ne hnd hol hj e hd)), updw_ne (Ne.symm hij)]
            exact h4' j oj t hj hSj hd
        · by_cases hij : i = j
          · subst hij
            obtain rfl : oj = o := Option.some.inj (hj.symm.trans hol)
            rw [hd, put_getD_self _ _ _ (by rw [h2]; exact hlt' t (mem_dsts hj hd))]
            exact r1
          · rw [getD_set_ne false hij] at hSj
            rw [put_getD _ _ _ _ (fun e => hij (dst_ne hnd hol hj e hd))]
            exact h5 j oj t hj hSj hd
      rcases hs with ⟨hw, hs⟩ | ⟨hw, hs⟩
      case inr => rw [if_neg (by rw [hw]; exact Bool.false_ne_true)]; exact step _ _ hs
      rw [if_pos hw]
      refine .inl ?_
      unfold Oper.wp
      generalize (execOp a.eval o).run P w = r at hs
      cases r with
      | ok n w' =>
        cases n <;> simp only [gets] at hs <;> simp only [Oper.upon]
        case value u => exact step _ _ hs
        case skip => exact step _ _ hs
        case enter f args => exact hs.mono fun e w'' ⟨v, he, h⟩ => by subst he; exact step _ _ h
      | halt x w' => simp only [gets] at hs
    induction fuel with
    | zero =>
      intro S a w hn hFit hI
      have hS : ∀ i, S.getD i true = true := fun i => by rw [Stage.getD_toList]; exact Stage.all_of_count hn i
      refine ⟨?_, fin S a w hFit hS hI⟩
      cases hr : Region.ready .any l.toArray S with
      | nil => rfl
      | cons i r =>
        have := (mem_ready.1 (show i ∈ Region.ready .any l.toArray S by rw [hr]; simp)).1
        rw [hS i] at this; cases this
    | succ fuel ih =>
      intro S a w hn hFit hI
      refine ⟨fun h0 => ?_, fun i hi => ?_⟩
      · refine fin S a w hFit (fun i => ?_) hI
        induction i using Nat.strongRecOn with
        | _ i ihi =>
          cases hx : S.getD i true with
          | true => rfl
          | false =>
            exfalso
            have hil : i < l.length := by
              rcases Nat.lt_or_ge i S.size with h' | h'
              · rw [hFit.size] at h'; simpa using h'
              · simp [Array.getElem?_eq_none h'] at hx
            have hup := List.all_eq_true.1 hns i (List.mem_range.2 hil)
            rw [List.getElem?_eq_getElem hil] at hup
            have hr : i ∈ Region.ready .any l.toArray S := by
              refine mem_ready.2 ⟨hx, l[i], by simp [hil], fun e he hbe => ?_⟩
              have h1 : e.on < i := by
                have := Array.all_eq_true_iff_forall_mem.1 hup e he
                simpa [hbe] using this
              have h2 := ihi e.on h1
              have h3 : e.on < S.size := by rw [hFit.size]; simp; omega
              simp [h3] at h2 ⊢; exact h2
            rw [h0] at hr; cases hr
      · have hun := (mem_ready.1 hi).1
        have hc : (S.setIfInBounds i true).toList.count false = fuel := by
          rw [Array.toList_setIfInBounds]
          have := Stage.count_set (l := S.toList) (i := i) (by rw [← Stage.getD_toList]; exact hun)
          omega
        exact one S a w _ hFit hI i hi (fun a' w' hI' => ih _ a' w' hc (hFit.set hi) hI')
  refine wp_region_any hm (main _ _ _ _ (by simp) (by simpa using Stage.Fit.start (md := .any) (ops := l.toArray)) ⟨rfl, rfl, fun _ _ => rfl, ⟨fun _ => undef, ?_, fun i o t _ h _ => ?_⟩, fun i o t _ h _ => ?_⟩)
  · have hS0 : (fun i => (Array.replicate l.toArray.size false).getD i true) = fun i => decide (l.length ≤ i) := by
      funext i
      by_cases h : i < l.length
      · simp [h]
      · simp [h]; omega
    rw [hS0]; exact hF _
  · rw [getD_replicate_false] at h; cases h
  · rw [getD_replicate_false] at h; cases h
end
end Free
end

section
namespace Vr
open Go.ChangeShapes Go.WideShapes Go.ChangeAt Go.RowKit Go.BigFrame
set_option maxRecDepth 100000
/-- a slice that reads as the row l -/
def RowV (w : World) (v : Value) (l : List Rd) : Prop := ∃ A c, v = .slice A l.length c ∧ Rw.Ts kindR w A l ∧ (A = none → c = 0 ∧ l = []) ∧ l.length ≤ c ∧ c ≤ maxLen
theorem RowV.below {w w' : World} {v : Value} {l : List Rd} (h : RowV w v l) (hb : Below w.heap.size w w') : RowV w' v l := by
  obtain ⟨A, c, e, hT, h3⟩ := h
  exact ⟨A, c, e, hT.below hb, h3⟩
theorem RowV.own {w : World} {base n : Nat} {v : Value} {l : List Rd} (h : w.ownsRow base 36 kindR.K v n (Rw.row kindR l)) : RowV w v l := by
  obtain ⟨A, c, e, hT, h1, h2, h3⟩ := own_ts h
  exact ⟨A, c, e, hT, h1, h2, h3⟩
theorem RowV.made (w : World) (l : List Rd) (h : l.length ≤ maxLen) (ar : Array Value) (har : ar = (Rw.row kindR l).toArray) (n : Nat) (hn : n = l.length) : RowV (w.alloc (.cells ar 36)) (.slice (some ⟨w.heap.size, 0, none⟩) n n) l := by
  subst har hn
  exact ⟨_, _, rfl, Rw.Ts.made w l _, (fun e => by cases e), Nat.le_refl _, h⟩
theorem RowV.nil (w : World) : RowV w (.slice none 0 0) [] := ⟨none, 0, rfl, Rw.Ts.nil, fun _ => ⟨rfl, rfl⟩, by simp, by simp⟩
/-- a literal of rows -/
def LitV (w : World) (v : Value) (ls : List (List Rd)) : Prop := ∃ B L, v = .slice (some ⟨B, 0, none⟩) ls.length ls.length ∧ RowsAt w B L ∧ L.map Rr.ts = ls
theorem LitV.below {w w' : World} {v : Value} {ls : List (List Rd)} (h : LitV w v ls) (hb : Below w.heap.size w w') : LitV w' v ls := by
  obtain ⟨B, L, e, hR, h2⟩ := h
  exact ⟨B, L, e, hR.below hb, h2⟩
/-- these slices are these rows -/
def RowsV (w : World) : List Value → List (List Rd) → Prop
  | [], [] => True
  | v :: vs, l :: ls => RowV w v l ∧ RowsV w vs ls
  | _, _ => False
theorem RowsV.rrs {w : World} : ∀ {vs : List Value} {ls : List (List Rd)}, RowsV w vs ls → ∃ L : List Rr, L.map Rr.val = vs ∧ (∀ r ∈ L, r.Ok w) ∧ L.map Rr.ts = ls
  | [], [], _ => ⟨[], rfl, by simp, rfl⟩
  | v :: vs, l :: ls, h => by
    obtain ⟨⟨A, c, e, hT, hn, h3⟩, h2⟩ := h
    obtain ⟨L, e1, e2, e3⟩ := RowsV.rrs h2
    refine ⟨⟨A, l, c⟩ :: L, ?_, ?_, ?_⟩
    · rw [List.map_cons, e1, e]; rfl
    · intro r hr
      rcases List.mem_cons.1 hr with rfl | hr
      · exact ⟨hT, hn⟩
      · exact e2 r hr
    · rw [List.map_cons, e3]
theorem LitV.made (w : World) (vs : List Value) (ls : List (List Rd)) (h : RowsV w vs ls) (ar : Array Value) (har : ar = vs.toArray) (n : Nat) (hn : n = ls.length) : LitV (w.alloc (.cells ar 28)) (.slice (some ⟨w.heap.size, 0, none⟩) n n) ls := by
  subst har hn
  obtain ⟨L, e1, e2, e3⟩ := RowsV.rrs h
  refine ⟨_, L, rfl, ?_, e3⟩
  have := RowsAt.made w L e2
  rw [e1] at this
  exact this
/-- bytes -/
def BytV (w : World) (v : Value) (xs : List Nat) : Prop := ∃ A c, v = .slice A xs.length c ∧ Bytes w A xs ∧ xs.length ≤ c ∧ c ≤ maxLen
theorem BytV.below {w w' : World} {v : Value} {l : List Nat} (h : BytV w v l) (hb : Below w.heap.size w w') : BytV w' v l := by
  obtain ⟨A, c, e, hT, h3⟩ := h
  exact ⟨A, c, e, hT.below hb, h3⟩
section
variable {w : World} {v va vb : Value} {l a b : List Rd} {ls : List (List Rd)}
/-- what answers a row -/
def GivesR (l : List Rd) (w : World) (e : Ending) (w' : World) : Prop := (∃ v', e = .returned v' ∧ RowV w' v' l) ∧ Below w.heap.size w w'
theorem AddD.gives {w' : World} {e : Ending} (h : AddD l w e w') : GivesR l w e w' := by
  obtain ⟨⟨v, he, ho⟩, hb⟩ := h
  exact ⟨⟨v, he, RowV.own ho⟩, hb⟩
theorem sorted_v (h : RowV w v l) (hl : l.length ≤ 100000) : Calls Try.prog 31 #[v] w (GivesR (sortR l) w) := by
  obtain ⟨A, c, rfl, hT, hn, _⟩ := h
  exact (sorted_any A l c w hT hn (by omega)).mono fun _ _ h => h.gives
theorem refSorted_v (h : RowV w v l) (hl : l.length ≤ 100000) : Calls Try.prog 33 #[v] w (GivesR (sortR l) w) := by
  obtain ⟨A, c, rfl, hT, hn, _⟩ := h
  exact (refSorted_any A l c w hT (by omega)).mono fun _ _ h => h.gives
theorem add_v (h : LitV w v ls) (h1 : ls.length ≤ 1000) (h2 : ls.flatten.length ≤ 100000) : Calls Try.prog 23 #[v] w (GivesR (sortR ls.flatten) w) := by
  obtain ⟨B, L, rfl, hR, rfl⟩ := h
  rw [List.length_map] at h1 ⊢
  exact (add_any B L w hR h1 (show (cat L).length ≤ 1000000 by unfold cat; omega)).mono fun _ _ h => AddD.gives h
theorem alike_v (h : RowV w va a) (k : RowV w vb b) (ha : a.length ≤ 100000) (hb : b.length ≤ 100000) : Calls Try.prog 16 #[va, vb] w fun e w' => e = .returned (.bool (sameR a b)) ∧ Below w.heap.size w w' := by
  obtain ⟨A, c, rfl, hT, _⟩ := h
  obtain ⟨B, d, rfl, hU, _⟩ := k
  exact alike_any A B a b c d w hT hU (by omega) (by omega)
/-- what Less answers -/
def GivesL (o : Option (List Rd)) (w : World) (e : Ending) (w' : World) : Prop := (∃ v', e = .returned (.tuple #[v', .bool o.isSome]) ∧ RowV w' v' (o.getD [])) ∧ Below w.heap.size w w'
theorem LessD.gives {o : Option (List Rd)} {w' : World} {e : Ending} (h : LessD o w e w') : GivesL o w e w' := by
  obtain ⟨⟨v, he, ho⟩, hb⟩ := h
  exact ⟨⟨v, he, RowV.own ho⟩, hb⟩
/-- what answers bytes -/
def GivesB (xs : List Nat) (w : World) (e : Ending) (w' : World) : Prop := (∃ v', e = .returned v' ∧ BytV w' v' xs) ∧ Below w.heap.size w w'
theorem PutD.gives {w' : World} {e : Ending} (h : PutD (putR l) w e w') : GivesB (putR l) w e w' := by
  obtain ⟨⟨v, he, ho⟩, hb⟩ := h
  obtain ⟨A, c, e', hB, h1, h2, _⟩ := own_bytes ho (putR_lt l)
  exact ⟨⟨v, he, A, c, e', hB, h1, h2⟩, hb⟩
end
def Kept (p : World → Value → Prop) : Prop := ∀ w w' v, p w v → Below w.heap.size w w' → p w' v
theorem kept_row (l : List Rd) : Kept (fun w v => RowV w v l) := fun _ _ _ h hb => h.below hb
theorem kept_lit (l : List (List Rd)) : Kept (fun w v => LitV w v l) := fun _ _ _ h hb => h.below hb
theorem kept_byt (l : List Nat) : Kept (fun w v => BytV w v l) := fun _ _ _ h hb => h.below hb
theorem kept_true : Kept (fun _ _ => True) := fun _ _ _ _ _ => trivial
/-- what has come up reads as the table says -/
def FT (w0 : World) (tb : Nat → World → Value → Prop) (b : Nat → Bool) (vs : Nat → Value) (w : World) : Prop := Below w0.heap.size w0 w ∧ ∀ i, b i = true → tb i w (vs i)
section
variable {w0 w w' : World} {tb : Nat → World → Value → Prop} {b : Nat → Bool} {vs : Nat → Value} {i n : Nat} {v : Value}
theorem FT.step (hk : ∀ i, Kept (tb i)) (h : FT w0 tb b vs w) (hb : Below w.heap.size w w') (hv : tb i w' v) : FT w0 tb (Free.updb b i) (Free.updw vs i v) w' := by
  refine ⟨h.1.trans (hb.mono h.1.size), fun j hbj => ?_⟩
  by_cases e : j = i
  · subst e
    rw [Free.updw_self]; exact hv
  · rw [Free.updb_ne e] at hbj
    rw [Free.updw_ne e]; exact hk j _ _ _ (h.2 j hbj) hb
theorem FT.start (hn : ∀ i w v, n ≤ i → tb i w v) : FT w0 tb (fun i => decide (n ≤ i)) vs w0.drew := ⟨(Below.refl _ _).drew, fun j hb => hn _ _ _ (by simpa using hb)⟩
end
section
variable {P : Program} {K : Value → World → Prop} {o : Oper} {a : Act} {w w' : World}
theorem m_lit {v : Value} (t : TypeId) (n : Nat) (parts : Array (Nat × Operand)) (ps : List (Nat × Value)) (ho : o.op = .buildSlice t n parts) (hp : (parts.toList.map fun (i, x) => (i, a.eval x)) = ps)
    (hr : (Instr.buildSlice t n ps.toArray).run P w = .ok v w') (h : K v w') : Free.gets P K ((execOp a.eval o).run P w) := by
  have e : (parts.map fun (i, x) => (i, a.eval x)) = ps.toArray := by rw [← hp, ← Array.toList_map, Array.toArray_toList]
  unfold execOp; simp only [ho, e, Sem.run_bind, hr, Result.andThen_ok, Sem.run_pure, Free.gets]; exact h
theorem g_not {b : Bool} (t : TypeId) (x : Operand) (ho : o.op = .unOp .not t x) (hx : a.eval x = .bool b) (h : K (.bool (!b)) w) : Free.gets P K ((execOp a.eval o).run P w) := by
  unfold execOp
  simp only [ho, hx]
  simp [go_sem, Free.gets]
  exact h
end
theorem build_r1 (w : World) (a : Rd) : (Instr.buildSlice 28 1 #[(0, a.val)]).run Try.prog w = .ok (.slice (some ⟨w.heap.size, 0, none⟩) 1 1) (w.alloc (.cells #[.int .i64 a.k, .int .i64 a.v] 36)) := by
  go_simp
theorem build_r2 (w : World) (a b : Rd) : (Instr.buildSlice 28 2 #[(0, a.val), (1, b.val)]).run Try.prog w = .ok (.slice (some ⟨w.heap.size, 0, none⟩) 2 2) (w.alloc (.cells #[.int .i64 a.k, .int .i64 a.v, .int .i64 b.k, .int .i64 b.v] 36)) := by
  go_simp
theorem build_r4 (w : World) (a b c d : Rd) : (Instr.buildSlice 28 4 #[(0, a.val), (1, b.val), (2, c.val), (3, d.val)]).run Try.prog w = .ok (.slice (some ⟨w.heap.size, 0, none⟩) 4 4) (w.alloc (.cells #[.int .i64 a.k, .int .i64 a.v, .int .i64 b.k, .int .i64 b.v, .int .i64 c.k, .int .i64 c.v, .int .i64 d.k, .int .i64 d.v] 36)) := by
  go_simp
theorem build_l1 (w : World) (A : Option Addr) (n c : Nat) : (Instr.buildSlice 25 1 #[(0, .slice A n c)]).run Try.prog w = .ok (.slice (some ⟨w.heap.size, 0, none⟩) 1 1) (w.alloc (.cells #[.slice A n c] 28)) := by
  go_simp
theorem build_l2 (w : World) (A B : Option Addr) (n c m d : Nat) : (Instr.buildSlice 25 2 #[(0, .slice A n c), (1, .slice B m d)]).run Try.prog w = .ok (.slice (some ⟨w.heap.size, 0, none⟩) 2 2) (w.alloc (.cells #[.slice A n c, .slice B m d] 28)) := by
  go_simp
theorem build_l3 (w : World) (A B C : Option Addr) (n c m d k e : Nat) : (Instr.buildSlice 25 3 #[(0, .slice A n c), (1, .slice B m d), (2, .slice C k e)]).run Try.prog w = .ok (.slice (some ⟨w.heap.size, 0, none⟩) 3 3) (w.alloc (.cells #[.slice A n c, .slice B m d, .slice C k e] 28)) := by
  go_simp
theorem build_l4 (w : World) (A B C D : Option Addr) (n c m d k e q f : Nat) : (Instr.buildSlice 25 4 #[(0, .slice A n c), (1, .slice B m d), (2, .slice C k e), (3, .slice D q f)]).run Try.prog w = .ok (.slice (some ⟨w.heap.size, 0, none⟩) 4 4) (w.alloc (.cells #[.slice A n c, .slice B m d, .slice C k e, .slice D q f] 28)) := by
  go_simp
end Vr
end
end Go.Proofs.Ytcjdjdhjbchaaaa
