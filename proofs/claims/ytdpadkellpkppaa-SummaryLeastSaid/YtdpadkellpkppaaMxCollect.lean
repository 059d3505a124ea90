/- slices.AppendSeq, slices.Collect: all summaries that an iterator tells, in a row of the call's own. -/
import Derived.Test.YtdpadkellpkppaaMxKeys
namespace Go.Proofs.Ytdpadkellpkppaa
namespace Mx
open Go.ChangeShapes Go.WideShapes Go.ChangeAt Go.RowKit Go.BigFrame Go.Shelf
set_option linter.unusedVariables false
set_option maxRecDepth 100000
attribute [local go_sem] Oper.semAt_some
/-- between two rounds -/
def AppI (w : World) (pre : List RSm) (W : World) : Prop := ∃ v, Boxed W w.heap.size 44 v ∧ W.ownsRow w.heap.size 24 7 v pre.length (rowS (raw pre)) ∧ True
theorem rowS_one_at (w : World) (t : Sm) : ∀ (j : Nat) (u : Value), (rowS [t])[j]? = some u → (w.alloc (.cells #[.int .i64 t.fr, .int .i64 t.to, .int .i64 t.kp, .int .i64 t.ad, .int .i64 t.t0, .int .i64 t.t1, .int .i64 t.t2] 24)).cell? ((⟨w.heap.size, 0, none⟩ : Addr).add j) = some u := by
  intro j u hj
  have h : Row (w.alloc (.cells #[.int .i64 t.fr, .int .i64 t.to, .int .i64 t.kp, .int .i64 t.ad, .int .i64 t.t0, .int .i64 t.t1, .int .i64 t.t2] 24)) w.heap.size 24 (rowS [t]) := Row.made w _ (rowS [t])
  rw [add_zero_off]
  exact (h.cell j).trans hj
set_option maxRecDepth 100000 in
set_option maxHeartbeats 4000000 in
theorem appendSeq_any (g N : Nat) (lb : Array Value) (S Sp : List RSm → Prop) (hN : N ≤ 1000) (w0 w : World) (hb0 : Below w0.heap.size w0 w) (eg : ∀ args w, (callFunc g args).run Try.prog w = .ok (.enter g args) w)
    (hseq : ∀ n, 1 ≤ n → SeqStopsK Fence.wide n Try.prog g lb encS KeepsWalks S Sp N w0) :
    Calls Try.prog 55 #[.slice none 0 0, .func (.func g) #[] lb] w fun e W' => (∃ v xs, e = .returned v ∧ S xs ∧ W'.ownsRow w.heap.size 24 7 v xs.length (rowS (raw xs))) ∧ Below w.heap.size w W' := by
  refine (callsIn_wide (n := 5)).1 ?_
  refine callsIn_of_wp_marks Try.func55 rfl trivial ?_ rfl
  simp only [Try.ntmps55, List.size_toArray, List.length_cons, List.length_nil, Nat.reduceAdd, Nat.reduceSub, Array.replicate_succ, Array.replicate_zero, List.push_toArray, List.append_toArray, List.nil_append, List.cons_append]
  obtain ⟨i0, hi, hz0, hz1, hz2⟩ := info_parts infoSum
  gi_wp2
  have hsz : (w.alloc (.cells #[.slice none 0 0] 44)).heap.size = w.heap.size + 1 := by simp
  have bM := Boxed.new w 44 (.slice none 0 0)
  have hB0 : Below w.heap.size w (w.alloc (.cells #[.slice none 0 0] 44)) := (Below.refl _ w).alloc (Nat.le_refl _) _
  have hK0 : Below w0.heap.size w0 (w.alloc (.cells #[.slice none 0 0] 44)) := hb0.alloc hb0.size _
  obtain ⟨W0, hW0⟩ : ∃ W0, w.alloc (.cells #[.slice none 0 0] 44) = W0 := ⟨_, rfl⟩
  rw [hW0] at hsz bM hB0 hK0 ⊢
  clear hW0 hb0
  refine wpIn_rangeFunc_ownH rfl (by omega) (gf := g) (lb := lb) rfl trivial eg (hseq 4 (by omega)) walksK_t walksK_b hK0 (fun _ => rfl)
    (fun pre W => AppI w pre W ∧ Below w.heap.size w W)
    (fun _ _ _ => False)
    (OwnFrom.and (Own.from (holdsRow_own w.heap.size w.heap.size 44 24 7 (fun pre : List RSm => pre.length) (fun pre => rowS (raw pre)) (fun _ _ => True)) _) (ownFrom_below (Nat.le_refl _) (by omega)))
    (fun _ _ _ _ _ hs _ _ => hs)
    ⟨⟨_, bM, World.ownsRow_nil _ _ _ _, trivial⟩, hB0⟩
    (fun x a' W => ∃ Bx, w.heap.size < Bx ∧ Holds W Bx x.1 ∧ a' = { tmps := #[.slice none 0 0, .func (.func g) #[] lb, .pointer (some ⟨w.heap.size, 0, none⟩), undef, .slice none 0 0, .pointer (some ⟨Bx, 0, none⟩), .func (.func g) #[] lb, .agg #[.int .i64 x.1.fr, .int .i64 x.1.to, .int .i64 x.1.kp, .int .i64 x.1.ad, .int .i64 x.1.t0, .int .i64 x.1.t1, .int .i64 x.1.t2], undef, undef, undef, undef, undef], defers := [] })
    (fun x a' _ X Y row hs hg hr => by
      obtain ⟨Bx, h1, h2, h3⟩ := hs
      refine ⟨Bx, h1, Row.grown h2 hg (fun e => ?_), h3⟩
      obtain ⟨_, o, ho, hc⟩ := hr Bx e.symm
      have h4 : X.heap[Bx]? = _ := h2
      rw [h4] at ho; cases ho; cases hc)
    ?assign ?body ?done ?stop
  case assign =>
    rintro l pre x W K ⟨⟨v, bM1, hr1⟩, hB1⟩ hK
    dsimp only [encS] at *
    unfold Sm.v at *
    gi_wp2
    exact hK _ _ ((KeepsOthers.alloc _ _).from _) (KeepsWalks.alloc W _) ⟨⟨v, bM1.alloc _, hr1.1.alloc _, trivial⟩, hB1.alloc hB1.size _⟩ ⟨W.heap.size, bM1.lt, Holds.made W x.1, rfl⟩
  case body =>
    rintro l pre x a' W hl ⟨r, hr⟩ ⟨⟨v, bM1, hr1, _⟩, hB1⟩ ⟨Bx, hBx, bX, rfl⟩ hlt
    have hsW := hB1.size
    have cM := bM1.cell
    have hBl := bX.lt
    have hml := bM1.lt
    obtain ⟨c0, c1, c2, c3, c4, c5, c6⟩ := bX.cells5
    have hnews := rowS_one_at W x.1
    have hrow := hr1.alloc (.cells #[.int .i64 x.1.fr, .int .i64 x.1.to, .int .i64 x.1.kp, .int .i64 x.1.ad, .int .i64 x.1.t0, .int .i64 x.1.t1, .int .i64 x.1.t2] 24)
    have hlen : rowS (raw pre) ++ rowS [x.1] = rowS (raw (pre ++ [x])) := by rw [← rowS_append]; simp [raw]
    have HB := Lib.hid (And.intro bM1 (And.intro hr1 hB1)); have HROW := Lib.hid hrow; have HN := Lib.hid hnews; have HL := Lib.hid hlen
    clear bM1 hr1 hB1 hrow hnews hr bX hseq eg hB0 hK0 hlen
    gi_wp2_with (gi_at_builtin; refine wpListIn_append_own _ rfl _ _ 44 rfl w.heap.size 24 i0 (.agg #[.int .i64 0, .int .i64 0, .int .i64 0, .int .i64 0, .int .i64 0, .int .i64 0, .int .i64 0]) 7 56 Try.underlying44 hi hz0 hz1 hz2 rfl (by decide) v pre.length (rowS (raw pre)) rfl HROW.out ⟨W.heap.size, 0, none⟩ 1 1 (rowS [x.1]) rfl rfl HN.out (rowS_one [x.1]) (by unfold maxLen; omega) (by omega) (by simp; omega) ?_; intro v' w1 hown' hgrow _; obtain ⟨g', cap', rfl⟩ := ownsRow_succ hown'; obtain ⟨hv1, hv2, hr2, hk2, hb2⟩ := (HB.out.1).appended (by decide) HB.out.2.1 hsW (Nat.le_refl _) hown' hgrow; have hc1 := hv1.cell; have hf1 := hv1.frozen)
    rw [HL.out] at hr2
    exact ⟨hk2.from _, hk2.walks, ⟨_, hv2, by rw [List.length_append]; exact hr2, trivial⟩, HB.out.2.2.trans hb2⟩
  case done =>
    rintro D ys W hD hys ⟨⟨v, bM1, hr1, _⟩, hB1⟩ hK
    have cM := bM1.cell
    have HR := Lib.hid hr1; have HB1 := Lib.hid hB1; have HK := Lib.hid hK
    clear hr1 bM1 hB1 hseq eg hB0 hK0 hK
    gi_wp2
    refine ⟨by simp, .inl ⟨_, _, rfl, run_takeDeferred HK.out, ?_⟩⟩
    exact ⟨_, results_tmp rfl _ _ _, ⟨_, ys, rfl, hys, ownsRow_putObj HR.out _ HK.out rfl⟩, HB1.out.trans (belowK_b (w := w) (Nat.le_refl _) W D _ _ (by omega) HK.out rfl rfl)⟩
  case stop =>
    rintro D c pre W _ _ h _
    exact h.elim
theorem collect_any (g N : Nat) (lb : Array Value) (S Sp : List RSm → Prop) (hN : N ≤ 1000) (w0 w : World) (hb0 : Below w0.heap.size w0 w) (eg : ∀ args w, (callFunc g args).run Try.prog w = .ok (.enter g args) w)
    (hseq : ∀ n, 1 ≤ n → SeqStopsK Fence.wide n Try.prog g lb encS KeepsWalks S Sp N w0) :
    Calls Try.prog 44 #[.func (.func g) #[] lb] w fun e W' => (∃ v xs, e = .returned v ∧ S xs ∧ W'.ownsRow w.heap.size 24 7 v xs.length (rowS (raw xs))) ∧ Below w.heap.size w W' := by
  have H := Lib.hid (appendSeq_any g N lb S Sp hN w0 w hb0 eg hseq)
  clear hseq eg hb0
  go_enter Try.func44, Try.ntmps44
  go_wp2_with fail
  refine (H.out).mono ?_; rintro e w1 ⟨⟨v, xs, rfl, hS, hr⟩, hb⟩
  have HH := Lib.hid (And.intro hS (And.intro hr hb)); clear hS hr hb
  dsimp only
  go_wp2_with fail
  go_ret
  exact ⟨⟨v, xs, rfl, HH.out.1, HH.out.2.1⟩, HH.out.2.2⟩
end Mx
end Go.Proofs.Ytdpadkellpkppaa
