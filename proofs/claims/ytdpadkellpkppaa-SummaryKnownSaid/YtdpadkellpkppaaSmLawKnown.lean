/- SummaryKnown: the other laws at rows of summaries: those of nodes, two behind one another, and such as are not right. -/
import Derived.Test.YtdpadkellpkppaaSmLawLeast
import Derived.Test.YtdpadkellpkppaaSmLawTwo
import Derived.Test.YtdpadkellpkppaaSmLawThen
import Derived.Test.YtdpadkellpkppaaSmLawApply
import Derived.Test.YtdpadkellpkppaaSmLawOrder
import Derived.Test.YtdpadkellpkppaaSmOrderB
import Derived.Lib.MinMax
namespace Go.Proofs.Ytdpadkellpkppaa
open Go.Shelf Go.ChangeShapes Go.WideShapes Go.ChangeAt Go.RowKit Go.BigFrame
set_option linter.unusedVariables false
set_option maxRecDepth 100000
open Mx (Ts rowS rowS_at rowS_len rowS_append own_kept own_belowS own_len)
namespace summaryKnown
open Mx in
theorem wpList_append_more {w : World} {ops : Array Oper} {rest : List Oper} {o : Oper} {a : Act} {Q : Exit → Act → World → Prop} (hgd : o.guard = none) (s x : Operand)
    (ho : o.op = .call { callee := .builtin .append, args := #[s, x], argTypes := #[44, 44] })
    (base : Nat) (v : Value) (n : Nat) (ts : List Sm) (hs : a.eval s = v) (hown : w.ownsRow base 24 7 v n (rowS ts))
    (ad : Addr) (c : Nat) (ys : List Sm) (hx : a.eval x = .slice (some ad) ys.length c) (hy : 0 < ys.length) (hb : Mx.Times w (some ad) ys)
    (hle : n + ys.length ≤ 10000) (hbase : base ≤ w.heap.size)
    (h : ∀ v' w', w'.ownsRow base 24 7 v' (n + ys.length) (rowS (ts ++ ys)) → w.grownBy w' v.ownBlock → wpList Try.prog ops Q rest (a.put o.dst v') w') : wpList Try.prog ops Q (o :: rest) a w := by
  obtain ⟨i, hi, hz0, hz1, hz2⟩ := info_parts infoSum
  obtain ⟨b, e, _, hcell⟩ := hb hy
  cases e
  refine wpList_append_own w hgd s x 44 ho base 24 i _ 7 56 Try.underlying44 hi hz0 hz1 hz2 rfl (by omega) v n (rowS ts) hs hown ⟨b, 0, none⟩ ys.length c (rowS ys) hx (rowS_len ys) ?_ (rowS_one ys) (by unfold maxLen; omega) (by omega) hbase ?_
  · intro j u hj
    rw [add_zero_off]; exact hcell j u hj
  · intro v' w' h1 h2 _
    exact h v' w' (by rw [rowS_append]; exact h1) h2
theorem add_nat {x y : Operand} {i j : Nat} (h : i + j ≤ 100000) : ∀ w, (do eqGuard .add 3 x y (.int .i64 (i : Nat)) (.int .i64 (j : Nat)); binOp .add 3 (.int .i64 (i : Nat)) (.int .i64 (j : Nat)) : Sem Value).run Try.prog w = .ok (.int .i64 ((i : Int) + (j : Int))) w := by
  intro w
  have : IntKind.i64.wrap ((i : Int) + (j : Int)) = (i : Int) + (j : Int) := IntWalk.i64_in _ (by omega)
  simp [go_sem, this]
theorem rem_rows {x y : Operand} {i j L q : Nat} (hq : ((i : Int) + (j : Int)) % (L : Int) = (q : Int)) (hL : 0 < L) (h : i + j ≤ 100000) (hb : q ≤ 100000) : ∀ w, (do eqGuard .rem 3 x y (.int .i64 ((i : Int) + (j : Int))) (.int .i64 (L : Nat)); binOp .rem 3 (.int .i64 ((i : Int) + (j : Int))) (.int .i64 (L : Nat)) : Sem Value).run Try.prog w = .ok (.int .i64 (q : Int)) w := by
  intro w
  have h1 : ((i : Int) + (j : Int)).tmod (L : Int) = (q : Int) := by rw [Int.tmod_eq_emod_of_nonneg (by omega)]; exact hq
  have h2 : IntKind.i64.wrap (((i : Int) + (j : Int)).tmod (L : Int)) = (q : Int) := by
    rw [h1]
    exact IntWalk.i64_in _ (by omega)
  have h3 : L ≠ 0 := by omega
  simp [go_sem, h1, h2, h3]
theorem rem4 {x y : Operand} {i r : Nat} (h : i % 4 = r) : ∀ w, (do eqGuard .rem 3 x y (.int .i64 (i : Nat)) (.int .i64 4); binOp .rem 3 (.int .i64 (i : Nat)) (.int .i64 4) : Sem Value).run Try.prog w = .ok (.int .i64 (r : Nat)) w := by
  intro w
  have h1 : (i : Int).tmod 4 = (r : Int) := by rw [Int.tmod_eq_emod_of_nonneg (by omega)]; omega
  have h2 : (i : Int) % 4 = (r : Int) := by omega
  go_simp
theorem add29 {x y : Operand} {i : Nat} (h : i ≤ 100000) : ∀ w, (do eqGuard .add 3 x y (.int .i64 (i : Nat)) (.int .i64 29); binOp .add 3 (.int .i64 (i : Nat)) (.int .i64 29) : Sem Value).run Try.prog w = .ok (.int .i64 ((i : Int) + 29)) w := by
  intro w
  have : IntKind.i64.wrap ((i : Int) + 29) = (i : Int) + 29 := IntWalk.i64_in _ (by omega)
  simp [go_sem, this]
section
variable {P : Program} {C : World → Prop} {K : Act → Prop} {a : Act} {o : Oper} {ops : Array Oper}
theorem q_slice {v p q r : Value} (t : TypeId) (x lo hi : Operand) (ho : o.op = .slice t x (some lo) (some hi) none) (hw : Region.wanted o (yielded ops a.tmps) = true) (hx : a.eval x = p) (hl : a.eval lo = q) (hh : a.eval hi = r)
    (hr : ∀ w', C w' → (Instr.sliceAt t p (some q) (some r) none).run P w' = .ok v w') (hk : K (a.put o.dst v)) :
    if Region.wanted o (yielded ops a.tmps) then o.quiet P a C K else K (a.put o.dst undef) := by
  rw [if_pos hw]
  refine ⟨v, fun w' hw' => ?_, hk⟩
  unfold Oper.quietAt execOp
  simp only [ho, Option.map_some, Option.map_none, hx, hl, hh, Sem.run_bind, hr w' hw', Result.andThen_ok, Sem.run_pure, Oper.quietUpon]
  exact ⟨trivial, trivial⟩
theorem q_min {i j m : Int} (x y : Operand) (t u : TypeId) (ho : o.op = .call { callee := .builtin .min, args := #[x, y], argTypes := #[t, u] }) (hw : Region.wanted o (yielded ops a.tmps) = true) (hx : a.eval x = .int .i64 i) (hy : a.eval y = .int .i64 j)
    (hm : min i j = m) (hk : K (a.put o.dst (.int .i64 m))) :
    if Region.wanted o (yielded ops a.tmps) then o.quiet P a C K else K (a.put o.dst undef) := by
  rw [if_pos hw]
  refine ⟨.int .i64 m, fun w' hw' => ?_, hk⟩
  unfold Oper.quietAt execOp
  subst hm
  simp only [ho, resolve, invoke, builtin, Sem.run_bind, Sem.run_pure, Result.andThen_ok, List.map_toArray, List.map_cons, List.map_nil, hx, hy, Go.Lib.run_min_ints, Oper.quietUpon]
  exact ⟨trivial, trivial⟩
end
theorem slice_mid {b o L c p m n : Nat} (hp : p < c) (hpm : p ≤ m) (hmc : m ≤ c) (hn : n = m - p) : ∀ w, (Instr.sliceAt 44 (.slice (some ⟨b, o, none⟩) L c) (some (.int .i64 (p : Nat))) (some (.int .i64 (m : Nat))) none).run Try.prog w = .ok (.slice (some ⟨b, o + p * 7, none⟩) n (c - p)) w := by
  subst hn
  intro w
  have h0 : (0 : Int) ≤ (p : Int) := by omega
  have h1 : (p : Int) ≤ (m : Int) := by omega
  have h2 : (m : Int) ≤ (c : Int) := by omega
  have h3 : ¬ c = p := by omega
  go_simp
def sevenX : List Int := [-1, 0, 1, 3, 4, 15, 16]
def sevS (x : Int) : List Sm := [⟨x, 1, 1, 0, 0, 0, 0⟩, ⟨2, x, 1, 0, 0, 0, 0⟩, ⟨2, 2, x, 0, 0, 0, 0⟩, ⟨2, 2, 2, x, 0, 0, 0⟩, ⟨2, 2, 1, 0, x, 0, 0⟩, ⟨2, 2, 1, 0, 1, x, 0⟩, ⟨0, 0, 0, x, 0, 0, 0⟩]
def KnV (x y S : Sm) (B : Bool) (bg og p k c : Nat) (es : List Sm) (i : Nat) (v : Value) : Prop := match i with
  | 0 => v = .slice (some ⟨bg, og, none⟩) es.length c
  | 1 => v = .int .i64 p
  | 2 => v = .pointer (some ⟨bg, og + p * 7, none⟩)
  | 3 => v = .agg #[.int .i64 x.fr, .int .i64 x.to, .int .i64 x.kp, .int .i64 x.ad, .int .i64 x.t0, .int .i64 x.t1, .int .i64 x.t2]
  | 4 => v = .slice (some ⟨bg, og, none⟩) es.length c
  | 5 => v = .int .i64 k
  | 6 => v = .pointer (some ⟨bg, og + k * 7, none⟩)
  | 7 => v = .agg #[.int .i64 y.fr, .int .i64 y.to, .int .i64 y.kp, .int .i64 y.ad, .int .i64 y.t0, .int .i64 y.t1, .int .i64 y.t2]
  | 8 => v = .tuple #[.agg #[.int .i64 S.fr, .int .i64 S.to, .int .i64 S.kp, .int .i64 S.ad, .int .i64 S.t0, .int .i64 S.t1, .int .i64 S.t2], .bool B]
  | 9 => v = .tuple #[.agg #[.int .i64 S.fr, .int .i64 S.to, .int .i64 S.kp, .int .i64 S.ad, .int .i64 S.t0, .int .i64 S.t1, .int .i64 S.t2], .bool B]
  | 10 => v = .agg #[.int .i64 S.fr, .int .i64 S.to, .int .i64 S.kp, .int .i64 S.ad, .int .i64 S.t0, .int .i64 S.t1, .int .i64 S.t2]
  | 11 => v = .bool B
  | 12 => True
  | 13 => v = undef
  | _ => v = .bool B
set_option maxHeartbeats 16000000 in
theorem walk (w : World) : Calls Try.prog 10 #[] w fun e w' => e = .returned (.bool true) ∧ Below w.heap.size w w' := by
  have CO := Lib.hid (fun (k d : Int) (w : World) => of_any k d w)
  have CT := Lib.hid (fun (a b : Sm) (w : World) => then_any a b w)
  have LA := Lib.hid (fun (s : Sm) (t : St) (k d : Int) (w : World) => summaryApply.walk s t k d w)
  have LT := Lib.hid (fun (a b : Sm) (w : World) => summaryTwo.walk a b w)
  have LH := Lib.hid (fun (a b c : Sm) (t : St) (w : World) => summaryThen.walk a b c t w)
  have LO := Lib.hid (fun (a b : Sm) (t s : St) (w : World) => summaryOrder.walk a b t s w)
  have LL := Lib.hid (fun (A : Option Addr) (l : List Sm) (c : Nat) (w : World) (hT : Ts w A l) => summaryLeast.walk A l c w hT)
  have CW := Lib.hid (fun (w : World) => works_any w)
  go_enter Try.func10, Try.ntmps10
  go_wp2_with fail
  go_loopw [1, 2] (fun v i wr => ∃ (k : Nat) (ds : List Sm), k ≤ 12 ∧ i = .int .u8 k ∧ Below w.heap.size w wr ∧ wr.ownsRow w.heap.size 24 7 v ds.length (rowS ds) ∧ ds.length ≤ k * 6) (fun _ i _ => 12 - (intOf i).toNat)
  case atStart => exact ⟨0, [], by omega, rfl, Below.refl _ _, World.ownsRow_nil _ _ _ _, by simp⟩
  case round =>
    obtain ⟨k, ds, hk, rfl, hb, hr, hl⟩ := hrel
    have HB := Lib.hid hb; have HR := Lib.hid hr; clear hb hr
    by_cases hlt : k < 12
    · have hkz : (k : Int) < 12 := by omega
      go_wp2_with fail
      go_loopw [1, 3] (fun v j wr => ∃ (d : Nat) (es : List Sm), d ≤ 6 ∧ j = .int .i64 ((d : Int) - 1) ∧ Below w.heap.size w wr ∧ wr.ownsRow w.heap.size 24 7 v es.length (rowS es) ∧ es.length ≤ k * 6 + d) (fun _ j _ => (5 - intOf j).toNat)
      case atStart => exact ⟨0, ds, by omega, rfl, HB.out, HR.out, by omega⟩
      case round =>
        clear HB HR
        obtain ⟨d, es, hd, rfl, hb, hr, hl2⟩ := hrel
        have HB := Lib.hid hb; have HR := Lib.hid hr; clear hb hr
        obtain ⟨D, hD⟩ : ∃ D, (d : Int) - 1 = D := ⟨_, rfl⟩
        rw [hD]
        have HD := Lib.hid hD; clear hD
        by_cases hlt2 : d < 6
        · have hDz : D < 5 := by have := HD.out; omega
          have hc1 := fun w => CO.out k D w
          generalize Sm.of_ k D = S at *
          generalize decide (okOf k D) = B at *
          have hc2 := fun w => LA.out S ⟨D, 0, 0, 0, 0⟩ k D w
          unfold Sm.v at hc1 hc2
          simp only [St.val] at hc2
          have C1 := Lib.hid hc1; have C2 := Lib.hid hc2; clear hc1 hc2
          go_wp2_with fail
          refine (C1.out _).mono ?_; rintro e w2 ⟨rfl, hb2⟩
          have hr2 := (own_kept HR.out hb2).alloc (.cells #[.int .i64 S.fr, .int .i64 S.to, .int .i64 S.kp, .int .i64 S.ad, .int .i64 S.t0, .int .i64 S.t1, .int .i64 S.t2] 24)
          have hb3 := HB.out.trans (hb2.mono HB.out.size)
          have hx : HoldsM (w2.alloc (.cells #[.int .i64 S.fr, .int .i64 S.to, .int .i64 S.kp, .int .i64 S.ad, .int .i64 S.t0, .int .i64 S.t1, .int .i64 S.t2] 24)) w2.heap.size 24 S := HoldsM.made w2 _ S
          have hb4 := hb3.alloc hb3.size (.cells #[.int .i64 S.fr, .int .i64 S.to, .int .i64 S.kp, .int .i64 S.ad, .int .i64 S.t0, .int .i64 S.t1, .int .i64 S.t2] 24)
          clear HB HR C1
          have HB := Lib.hid hb4; have HR := Lib.hid hr2; have HX := Lib.hid hx; clear hb2 hb3 hb4 hr2 hx
          dsimp only
          go_wp2_with fail
          generalize w2.alloc (.cells #[.int .i64 S.fr, .int .i64 S.to, .int .i64 S.kp, .int .i64 S.ad, .int .i64 S.t0, .int .i64 S.t1, .int .i64 S.t2] 24) = w3 at *
          generalize w2.heap.size = gx at *
          refine (C2.out _).mono ?_; rintro e w4 ⟨rfl, hb4⟩
          have hb5 := HB.out.trans (hb4.mono HB.out.size)
          have hr5 := own_kept HR.out hb4
          have hx5 : HoldsM w4 gx 24 S := HoldsM.below HX.out hb4
          clear HB HR HX C2
          have HB := Lib.hid hb5; have HR := Lib.hid hr5; have HX := Lib.hid hx5; clear hb4 hb5 hr5 hx5
          dsimp only
          go_upto_region 11 with fail
          go_cut [57] from 37 to 57 (fun s wx => (∃ b : Bool, s = .bool b) ∧ w4 = wx)
          case first =>
            cases B with
            | false =>
              go_wp2_with fail
              go_meet
              exact ⟨⟨_, rfl⟩, rfl⟩
            | true =>
              by_cases h7 : k = 7
              · subst h7
                go_wp2_with fail
                go_meet
                exact ⟨⟨_, rfl⟩, rfl⟩
              · have e7 : ((k : Int) == 7) = false := by simp; omega
                by_cases h8 : k = 8
                · subst h8
                  go_wp2_with fail
                  go_meet
                  exact ⟨⟨_, rfl⟩, rfl⟩
                · have e8 : ((k : Int) == 8) = false := by simp; omega
                  by_cases h9 : k = 9
                  · subst h9
                    go_wp2_with fail
                    go_meet
                    exact ⟨⟨_, rfl⟩, rfl⟩
                  · have e9 : ((k : Int) == 9) = false := by simp; omega
                    by_cases h2 : k = 2
                    · subst h2
                      go_wp2_with fail
                      go_meet
                      exact ⟨⟨_, rfl⟩, rfl⟩
                    · have e2 : ((k : Int) == 2) = false := by simp; omega
                      go_wp2_with fail
                      go_meet
                      exact ⟨⟨_, rfl⟩, rfl⟩
          case rest =>
            obtain ⟨⟨b, rfl⟩, rfl⟩ := hcut
            have hw1 : wrap64 (D + 1) = D + 1 := by have := HD.out; unfold wrap64; omega
            cases b with
            | false =>
              go_wp2_with fail
              go_roundw
              case rel => exact ⟨d + 1, es, by omega, by have := HD.out; first | (rw [hw1]; congr 1; omega) | (simp; omega), HB.out, HR.out, by omega⟩
              case measure => simp only [intOf]; have := HD.out; omega
            | true =>
              obtain ⟨c0, c1, c2, c3, c4, c5, c6⟩ := HX.out.cells7
              have hgl := HX.out.lt
              have hoA := HR.out.alloc (.cells #[.int .i64 S.fr, .int .i64 S.to, .int .i64 S.kp, .int .i64 S.ad, .int .i64 S.t0, .int .i64 S.t1, .int .i64 S.t2] 24)
              have hTA := Mx.Times.made w4 [S]
              have hba := HB.out.alloc HB.out.size (.cells #[.int .i64 S.fr, .int .i64 S.to, .int .i64 S.kp, .int .i64 S.ad, .int .i64 S.t0, .int .i64 S.t1, .int .i64 S.t2] 24)
              have hbs := hba.size
              have HBA := Lib.hid hba; clear hba
              go_wp2_with (at_builtin; refine wpList_append_more rfl _ _ rfl w.heap.size _ es.length es rfl hoA ⟨w4.heap.size, 0, none⟩ 1 [S] rfl (by simp) hTA (by simp; omega) hbs ?_; intro v' w5 hown' hgr')
              have hb6 := own_belowS hoA hgr' HBA.out hbs
              have H6 := Lib.hid (And.intro hown' hb6); clear hown' hgr' hoA hTA hb6 hbs c0 c1 c2 c3 c4 c5 c6 hgl HBA
              go_wp2_with fail
              go_roundw
              case rel => exact ⟨d + 1, es ++ [S], by omega, by have := HD.out; first | (rw [hw1]; congr 1; omega) | (simp; omega), H6.out.2, by simpa using H6.out.1, by simp; omega⟩
              case measure => simp only [intOf]; omega
        · have hDz : ¬ D < 5 := by have := HD.out; omega
          have hd6 : d = 6 := by omega
          subst hd6
          go_wp2_with fail
          go_roundw
          case rel => exact ⟨k + 1, es, by omega, by simp, HB.out, HR.out, by omega⟩
          case measure => simp only [intOf]; omega
    · have hkz : ¬ (k : Int) < 12 := by omega
      have hl72 : ds.length ≤ 72 := by omega
      clear hlt hl
      generalize (k : Int) = kk at *
      clear hk
      obtain ⟨G, c, rfl, _, _, _⟩ := Mx.Times.of_own HR.out
      go_wp2_with fail
      go_loopw [1, 7] (fun v i wr => ∃ (k : Nat) (es : List Sm), k ≤ ds.length ∧ i = .int .i64 k ∧ Below w.heap.size w wr ∧ wr.ownsRow w.heap.size 24 7 v es.length (rowS es) ∧ ds.length ≤ es.length ∧ es.length ≤ 72 + k * 72) (fun _ i _ => ds.length - (intOf i).toNat)
      case atStart => exact ⟨0, ds, by omega, rfl, HB.out, HR.out, by omega, by omega⟩
      case round =>
        clear HB HR
        obtain ⟨p, es, hi, rfl, hb, hr, hle1, hle2⟩ := hrel
        have HB := Lib.hid hb; have HR := Lib.hid hr; clear hb hr
        by_cases hlt : p < ds.length
        · have hiz : (p : Int) < (ds.length : Int) := by omega
          go_wp2_with fail
          go_loopw [1, 8] (fun v j wr => ∃ (k : Nat) (es : List Sm), k ≤ ds.length ∧ j = .int .i64 k ∧ Below w.heap.size w wr ∧ wr.ownsRow w.heap.size 24 7 v es.length (rowS es) ∧ ds.length ≤ es.length ∧ es.length ≤ 72 + p * 72 + k) (fun _ j _ => ds.length - (intOf j).toNat)
          case atStart => exact ⟨0, es, by omega, rfl, HB.out, HR.out, by omega, by omega⟩
          case round =>
            clear HB HR hle1 hle2
            obtain ⟨k, es, hk, rfl, hb, hr, hle1, hle2⟩ := hrel
            have HB := Lib.hid hb; have HR := Lib.hid hr; clear hb hr
            by_cases hlt2 : k < ds.length
            · have hkz : (k : Int) < (ds.length : Int) := by omega
              have hie : (p : Int) < (es.length : Int) := by omega
              have hke : (k : Int) < (es.length : Int) := by omega
              obtain ⟨x, hx⟩ : ∃ x, es[p]? = some x := ⟨_, List.getElem?_eq_getElem (by omega)⟩
              obtain ⟨y, hy⟩ : ∃ y, es[k]? = some y := ⟨_, List.getElem?_eq_getElem (by omega)⟩
              obtain ⟨G, c, rfl, hT, _, _⟩ := Mx.Times.of_own HR.out
              obtain ⟨bg, og, rfl, hbl, la⟩ := (Mx.Ts.of hT).load hx
              obtain ⟨_, _, e, _, lb⟩ := (Mx.Ts.of hT).load hy
              cases e
              have hc := fun w => CT.out x y w
              generalize x.th y = S at *
              generalize x.thB y = B at *
              unfold Sm.v at hc
              have LX := Lib.hid la; have LY := Lib.hid lb; have C1 := Lib.hid hc
              clear la lb hc hx hy hT hbl
              go_wp2_with fail
              refine Free.wp_key (by kernel_rfl) (by kernel_rfl) (PutF wr 12 13 24 [.int .i64 0, .int .i64 0, .int .i64 0, .int .i64 0, .int .i64 0, .int .i64 0, .int .i64 0] [.int .i64 S.fr, .int .i64 S.to, .int .i64 S.kp, .int .i64 S.ad, .int .i64 S.t0, .int .i64 S.t1, .int .i64 S.t2]) (KnV x y S B bg og p k c es) (fun vs => PutF.start 15 (by decide) (by decide) _ _ _ _ vs) ?_ ?_
              · intro i o hi bz vs az wa hold hpre hbi hF
                match i with
                | 0 =>
                  cases hi
                  exact Free.c_all rfl (Free.g_move _ rfl ⟨((hold 1 (by decide)).trans rfl), hF.keep (Below.refl _ _) (by decide) (by decide)⟩)
                | 1 =>
                  cases hi
                  exact Free.c_all rfl (Free.g_move _ rfl ⟨((hold 7 (by decide)).trans rfl), hF.keep (Below.refl _ _) (by decide) (by decide)⟩)
                | 2 =>
                  cases hi
                  have h1 : az.eval (.tmp 75) = .slice (some ⟨bg, og, none⟩) es.length c := (hpre 0 _ _ (by kernel_rfl) rfl rfl).2.2
                  have h2 : az.eval (.tmp 76) = .int .i64 p := (hpre 1 _ _ (by kernel_rfl) rfl rfl).2.2
                  exact Free.c_all rfl (Free.g_indexAddr (v := .pointer (some ⟨bg, og + p * 7, none⟩)) _ _ _ rfl h1 h2 (by go_simp) ⟨rfl, hF.keep (Below.refl _ _) (by decide) (by decide)⟩)
                | 3 =>
                  cases hi
                  have h0 : az.eval (.tmp 77) = .pointer (some ⟨bg, og + p * 7, none⟩) := (hpre 2 _ _ (by kernel_rfl) rfl rfl).2.2
                  exact Free.c_all rfl (Free.g_load _ _ rfl h0 (LX.out wa hF.1) ⟨rfl, hF.keep (Below.refl _ _) (by decide) (by decide)⟩)
                | 4 =>
                  cases hi
                  exact Free.c_all rfl (Free.g_move _ rfl ⟨((hold 1 (by decide)).trans rfl), hF.keep (Below.refl _ _) (by decide) (by decide)⟩)
                | 5 =>
                  cases hi
                  exact Free.c_all rfl (Free.g_move _ rfl ⟨((hold 8 (by decide)).trans rfl), hF.keep (Below.refl _ _) (by decide) (by decide)⟩)
                | 6 =>
                  cases hi
                  have h1 : az.eval (.tmp 79) = .slice (some ⟨bg, og, none⟩) es.length c := (hpre 4 _ _ (by kernel_rfl) rfl rfl).2.2
                  have h2 : az.eval (.tmp 80) = .int .i64 k := (hpre 5 _ _ (by kernel_rfl) rfl rfl).2.2
                  exact Free.c_all rfl (Free.g_indexAddr (v := .pointer (some ⟨bg, og + k * 7, none⟩)) _ _ _ rfl h1 h2 (by go_simp) ⟨rfl, hF.keep (Below.refl _ _) (by decide) (by decide)⟩)
                | 7 =>
                  cases hi
                  have h0 : az.eval (.tmp 81) = .pointer (some ⟨bg, og + k * 7, none⟩) := (hpre 6 _ _ (by kernel_rfl) rfl rfl).2.2
                  exact Free.c_all rfl (Free.g_load _ _ rfl h0 (LY.out wa hF.1) ⟨rfl, hF.keep (Below.refl _ _) (by decide) (by decide)⟩)
                | 8 =>
                  cases hi
                  have h0 : az.eval (.tmp 78) = .agg #[.int .i64 x.fr, .int .i64 x.to, .int .i64 x.kp, .int .i64 x.ad, .int .i64 x.t0, .int .i64 x.t1, .int .i64 x.t2] := (hpre 3 _ _ (by kernel_rfl) rfl rfl).2.2
                  have h1 : az.eval (.tmp 82) = .agg #[.int .i64 y.fr, .int .i64 y.to, .int .i64 y.kp, .int .i64 y.ad, .int .i64 y.t0, .int .i64 y.t1, .int .i64 y.t2] := (hpre 7 _ _ (by kernel_rfl) rfl rfl).2.2
                  refine Free.c_all rfl (Free.g_call _ _ rfl Try.func19 (by kernel_rfl) rfl [.agg #[.int .i64 x.fr, .int .i64 x.to, .int .i64 x.kp, .int .i64 x.ad, .int .i64 x.t0, .int .i64 x.t1, .int .i64 x.t2], .agg #[.int .i64 y.fr, .int .i64 y.to, .int .i64 y.kp, .int .i64 y.ad, .int .i64 y.t0, .int .i64 y.t1, .int .i64 y.t2]] (by show [az.eval (.tmp 78), az.eval (.tmp 82)] = _; rw [h0, h1]) ?_)
                  exact ((fun wa _ => C1.out wa) wa hF.1).mono fun e w2 ⟨he, hb2⟩ => ⟨_, he, rfl, hF.keep hb2 (by decide) (by decide)⟩
                | 9 =>
                  cases hi
                  have h0 : az.eval (.tmp 83) = .tuple #[.agg #[.int .i64 S.fr, .int .i64 S.to, .int .i64 S.kp, .int .i64 S.ad, .int .i64 S.t0, .int .i64 S.t1, .int .i64 S.t2], .bool B] := (hpre 8 _ _ (by kernel_rfl) rfl rfl).2.2
                  exact Free.c_all rfl (Free.g_move _ rfl ⟨h0, hF.keep (Below.refl _ _) (by decide) (by decide)⟩)
                | 10 =>
                  cases hi
                  have h0 : az.eval (.tmp 74) = .tuple #[.agg #[.int .i64 S.fr, .int .i64 S.to, .int .i64 S.kp, .int .i64 S.ad, .int .i64 S.t0, .int .i64 S.t1, .int .i64 S.t2], .bool B] := (hpre 9 _ _ (by kernel_rfl) rfl rfl).2.2
                  refine Free.c_all rfl ?_
                  unfold execOp
                  simp only [h0]
                  go_simp
                  exact ⟨rfl, hF.keep (Below.refl _ _) (by decide) (by decide)⟩
                | 11 =>
                  cases hi
                  have h0 : az.eval (.tmp 74) = .tuple #[.agg #[.int .i64 S.fr, .int .i64 S.to, .int .i64 S.kp, .int .i64 S.ad, .int .i64 S.t0, .int .i64 S.t1, .int .i64 S.t2], .bool B] := (hpre 9 _ _ (by kernel_rfl) rfl rfl).2.2
                  refine Free.c_all rfl ?_
                  unfold execOp
                  simp only [h0]
                  go_simp
                  exact ⟨rfl, hF.keep (Below.refl _ _) (by decide) (by decide)⟩
                | 12 =>
                  cases hi
                  refine Free.c_all rfl ?_
                  unfold execOp
                  go_simp
                  exact ⟨trivial, hF.alloc (by decide) hbi⟩
                | 13 =>
                  cases hi
                  have hq := id (hpre (12) _ _ (by kernel_rfl) rfl rfl)
                  have hx : az.eval (.tmp 84) = .agg #[.int .i64 S.fr, .int .i64 S.to, .int .i64 S.kp, .int .i64 S.ad, .int .i64 S.t0, .int .i64 S.t1, .int .i64 S.t2] := (hpre 10 _ _ (by kernel_rfl) rfl rfl).2.2
                  obtain ⟨blk, hblk, hle, hrow⟩ := hF.row hq.1 hbi
                  have hp : az.eval (.tmp 9) = .pointer (some ⟨blk, 0, none⟩) := hq.2.1.trans hblk
                  have hc0 := hrow.cell 0; have hf0 := hrow.free 0
                  have hc1 := hrow.cell 1; have hf1 := hrow.free 1
                  have hc2 := hrow.cell 2; have hf2 := hrow.free 2
                  have hc3 := hrow.cell 3; have hf3 := hrow.free 3
                  have hc4 := hrow.cell 4; have hf4 := hrow.free 4
                  have hc5 := hrow.cell 5; have hf5 := hrow.free 5
                  have hc6 := hrow.cell 6; have hf6 := hrow.free 6
                  simp only [List.getElem?_cons_succ, List.getElem?_cons_zero] at hc0 hc1 hc2 hc3 hc4 hc5 hc6
                  refine Free.c_all rfl ?_
                  unfold execOp
                  simp only [hp, hx]
                  go_simp
                  exact ⟨rfl, hF.store (by decide) hq.1 hblk hle (row_set7 hrow) ((((((((hF.1.setCell hle _).setCell hle _).setCell hle _).setCell hle _).setCell hle _).setCell hle _).setCell hle _))⟩
                | 14 =>
                  cases hi
                  have h0 : az.eval (.tmp 85) = .bool B := (hpre 11 _ _ (by kernel_rfl) rfl rfl).2.2
                  exact Free.c_all rfl (Free.g_assign _ rfl ⟨h0, hF.keep (Below.refl _ _) (by decide) (by decide)⟩)
                | _ + 15 => cases hi
              · intro vs we hv hF
                obtain ⟨hbE, blk, hblk, hle, hrowE⟩ := hF.done
                clear hF
                have e14 : vs 14 = .bool B := hv 14 (by simp) (by rintro o ⟨⟩; rfl)
                clear hv
                simp only [Free.puts, Nat.reduceAdd, hblk, e14]
                clear e14
                clear hblk
                generalize vs 0 = y0
                generalize vs 1 = y1
                generalize vs 2 = y2
                generalize vs 3 = y3
                generalize vs 4 = y4
                generalize vs 5 = y5
                generalize vs 6 = y6
                generalize vs 7 = y7
                generalize vs 8 = y8
                generalize vs 9 = y9
                generalize vs 10 = y10
                generalize vs 11 = y11
                generalize vs 13 = y13
                clear vs
                go_simp
                have hr5 := own_kept HR.out hbE
                have hb5 := HB.out.trans (hbE.mono HB.out.size)
                have hx5 : HoldsM we blk 24 S := hrowE
                clear HB HR LX LY C1 hbE hle hrowE
                have HB := Lib.hid hb5; have HR := Lib.hid hr5; have HX := Lib.hid hx5; clear hb5 hr5 hx5
                go_upto_region 21 with fail
                go_cut [94] from 86 to 94 (fun s wx => (∃ b : Bool, s = .bool b) ∧ we = wx)
                case first =>
                  cases B with
                  | false =>
                    go_wp2_with fail
                    go_meet
                    exact ⟨⟨_, rfl⟩, rfl⟩
                  | true =>
                    obtain ⟨s, hs⟩ : ∃ s : Nat, p * 5 + k = s := ⟨_, rfl⟩
                    obtain ⟨m5, hm5⟩ : ∃ m5 : Int, (p : Int) * 5 = m5 := ⟨_, rfl⟩
                    obtain ⟨r, hr⟩ : ∃ r : Nat, s % 3 = r := ⟨_, rfl⟩
                    have q1 : wrap64 ((p : Int) * 5) = m5 := by unfold wrap64; omega
                    have q2 : wrap64 (m5 + (k : Int)) = (s : Int) := by unfold wrap64; omega
                    have q3 : ((s : Int)).tmod 3 = (r : Int) := by rw [Int.tmod_eq_emod_of_nonneg (by omega)]; omega
                    have q4 : (s : Int) % 3 = (r : Int) := by omega
                    clear hs hm5 hr
                    go_wp2_with fail
                    go_meet
                    exact ⟨⟨_, rfl⟩, rfl⟩
                case rest =>
                  obtain ⟨⟨b, rfl⟩, rfl⟩ := hcut
                  cases b with
                  | false =>
                    go_wp2_with fail
                    go_roundw
                    case rel => exact ⟨k + 1, es, by omega, by simp, HB.out, HR.out, by omega, by omega⟩
                    case measure => simp only [intOf]; omega
                  | true =>
                    obtain ⟨c0, c1, c2, c3, c4, c5, c6⟩ := HX.out.cells7
                    have hgl := HX.out.lt
                    have hoA := HR.out.alloc (.cells #[.int .i64 S.fr, .int .i64 S.to, .int .i64 S.kp, .int .i64 S.ad, .int .i64 S.t0, .int .i64 S.t1, .int .i64 S.t2] 24)
                    have hTA := Mx.Times.made we [S]
                    have hba := HB.out.alloc HB.out.size (.cells #[.int .i64 S.fr, .int .i64 S.to, .int .i64 S.kp, .int .i64 S.ad, .int .i64 S.t0, .int .i64 S.t1, .int .i64 S.t2] 24)
                    have hbs := hba.size
                    have HBA := Lib.hid hba; clear hba
                    go_wp2_with (at_builtin; refine wpList_append_more rfl _ _ rfl w.heap.size _ es.length es rfl hoA ⟨we.heap.size, 0, none⟩ 1 [S] rfl (by simp) hTA (by simp; omega) hbs ?_; intro v' w5 hown' hgr')
                    have hb6 := own_belowS hoA hgr' HBA.out hbs
                    have H6 := Lib.hid (And.intro hown' hb6); clear hown' hgr' hoA hTA hb6 hbs c0 c1 c2 c3 c4 c5 c6 hgl HBA
                    go_wp2_with fail
                    go_roundw
                    case rel => exact ⟨k + 1, es ++ [S], by omega, by simp, H6.out.2, by simpa using H6.out.1, by simp; omega, by simp; omega⟩
                    case measure => simp only [intOf]; omega
            · have hkz : ¬ (k : Int) < (ds.length : Int) := by omega
              go_wp2_with fail
              go_roundw
              case rel => exact ⟨p + 1, es, by omega, by simp, HB.out, HR.out, by omega, by omega⟩
              case measure => simp only [intOf]; omega
        · have hiz : ¬ (p : Int) < (ds.length : Int) := by omega
          have hN : es.length ≤ 5256 := by omega
          clear hlt hle1 hle2 hi hl72
          obtain ⟨w9, rfl⟩ : ∃ w9, w9 = wr := ⟨_, rfl⟩
          have hbN := HB.out.alloc HB.out.size (.cells (sevenX.map (Value.int .i64)).toArray 3)
          have hrN : Row (w9.alloc (.cells (sevenX.map (Value.int .i64)).toArray 3)) w9.heap.size 3 (sevenX.map (Value.int .i64)) := Row.made _ _ _
          have hoN := HR.out.alloc (.cells (sevenX.map (Value.int .i64)).toArray 3)
          have HB2 := Lib.hid hbN; have HR2 := Lib.hid hoN; have HX := Lib.hid hrN
          clear hbN hrN hoN HB HR
          go_wp2_with fail
          go_loopw [1, 101] (fun v i wx => ∃ (j : Nat) (es : List Sm), j ≤ 7 ∧ i = .int .i64 j ∧ Below w.heap.size w wx ∧ wx.ownsRow w.heap.size 24 7 v es.length (rowS es) ∧ es.length ≤ 5256 + j * 7 ∧ Row wx w9.heap.size 3 (sevenX.map (Value.int .i64))) (fun _ i _ => 7 - (intOf i).toNat)
          case atStart => exact ⟨0, es, by omega, rfl, HB2.out, HR2.out, by omega, HX.out⟩
          case round =>
            clear HB2 HR2 HX hiz
            generalize w9.heap.size = gN at *
            obtain ⟨j, fs, hj, rfl, hb, hr, hle, hrw⟩ := hrel
            have HB := Lib.hid hb; have HR := Lib.hid hr; have HX := Lib.hid hrw; clear hb hr hrw
            by_cases hlj : j < 7
            · have hljz : (j : Int) < 7 := by omega
              obtain ⟨x, hx⟩ : ∃ x, sevenX[j]? = some x := ⟨_, List.getElem?_eq_getElem (show j < 7 from hlj)⟩
              have hcj : wr.cell? ⟨gN, j, none⟩ = some (.int .i64 x) := by rw [HX.out.cell, List.getElem?_map, hx]; rfl
              have hgN := HX.out.lt
              have hoA := HR.out.alloc (.cells (rowS (sevS x)).toArray 24)
              have hTA := Mx.Times.made wr (sevS x)
              have hba := HB.out.alloc HB.out.size (.cells (rowS (sevS x)).toArray 24)
              have hbs := hba.size
              have hln : fs.length + (sevS x).length ≤ 10000 := by show fs.length + 7 ≤ 10000; omega
              have HBA := Lib.hid hba; have HXA := Lib.hid (HX.out.alloc (.cells (rowS (sevS x)).toArray 24)); clear hba hx
              go_wp2_with (at_builtin; refine wpList_append_more rfl _ _ rfl w.heap.size _ fs.length fs rfl hoA ⟨wr.heap.size, 0, none⟩ 7 (sevS x) rfl (by show 0 < 7; omega) hTA hln hbs ?_; intro v' w5 hown' hgr')
              have hb6 := own_belowS hoA hgr' HBA.out hbs
              have hr6 := HXA.out.grown hgr' (Mx.own_apart hoA HXA.out (by decide))
              have H6 := Lib.hid (And.intro hown' (And.intro hb6 hr6)); clear hown' hgr' hoA hTA hb6 hr6 hbs hln hcj hgN HBA HXA
              go_wp2_with fail
              go_roundw
              case rel => exact ⟨j + 1, fs ++ sevS x, by omega, by simp, H6.out.2.1, by rw [List.length_append]; exact H6.out.1, by rw [List.length_append]; show fs.length + 7 ≤ _; omega, H6.out.2.2⟩
              case measure => simp only [intOf]; omega
            · have hljz : ¬ (j : Int) < 7 := by omega
              have hN2 : fs.length ≤ 5305 := by omega
              clear hlj hle hj HX hN
              obtain ⟨w9, rfl⟩ : ∃ w9, w9 = wr := ⟨_, rfl⟩
              have hbT := HB.out.alloc HB.out.size (.cells #[.int .i64 2, .int .i64 3, .int .i64 1, .int .i64 14, .int .i64 0] 26)
              have hoT := HR.out.alloc (.cells #[.int .i64 2, .int .i64 3, .int .i64 1, .int .i64 14, .int .i64 0] 26)
              obtain ⟨tt, hxT⟩ : ∃ t : St, Holds (w9.alloc (.cells #[.int .i64 2, .int .i64 3, .int .i64 1, .int .i64 14, .int .i64 0] 26)) w9.heap.size t := ⟨⟨2, 3, 1, 14, 0⟩, Holds.made w9 ⟨2, 3, 1, 14, 0⟩⟩
              have HB2 := Lib.hid hbT; have HR2 := Lib.hid hoT; have HX := Lib.hid hxT
              clear hbT hoT hxT HB HR
              go_wp2_with fail
              generalize w9.alloc (.cells #[.int .i64 2, .int .i64 3, .int .i64 1, .int .i64 14, .int .i64 0] 26) = w8 at *
              generalize w9.heap.size = gT at *
              obtain ⟨G, c, rfl, hT, hfc, hcm⟩ := Mx.Times.of_own HR2.out
              have HT := Lib.hid (Mx.Ts.of hT); have HCM := Lib.hid (And.intro hfc hcm)
              clear hT hfc hcm HR2 hljz
              go_loopw [14] (fun i wx => ∃ p : Nat, p ≤ fs.length ∧ i = .int .i64 p ∧ Below w8.heap.size w8 wx) (fun i _ => fs.length - (intOf i).toNat)
              case atStart => exact ⟨0, by omega, rfl, Below.refl _ _⟩
              case round =>
                obtain ⟨p, hp, rfl, hb⟩ := hrel
                have HB := Lib.hid hb; clear hb
                by_cases hlp : p < fs.length
                · have hpz : (p : Int) < (fs.length : Int) := by omega
                  obtain ⟨x, hx⟩ : ∃ x, fs[p]? = some x := ⟨_, List.getElem?_eq_getElem (by omega)⟩
                  have HPX := Lib.hid hx; clear hx
                  go_wp2_with fail
                  go_loopw [15] (fun i wx => ∃ k : Nat, k ≤ fs.length ∧ i = .int .i64 k ∧ Below w8.heap.size w8 wx) (fun i _ => fs.length - (intOf i).toNat)
                  case atStart => exact ⟨0, by omega, rfl, HB.out⟩
                  case round =>
                    clear HB
                    obtain ⟨k, hk, rfl, hb⟩ := hrel
                    have HB := Lib.hid hb; clear hb
                    by_cases hlk : k < fs.length
                    · have hkz : (k : Int) < (fs.length : Int) := by omega
                      obtain ⟨y, hy⟩ : ∃ y, fs[k]? = some y := ⟨_, List.getElem?_eq_getElem (by omega)⟩
                      obtain ⟨q, hq⟩ : ∃ q : Nat, (p + k) % fs.length = q := ⟨_, rfl⟩
                      have hqi : ((p : Int) + (k : Int)) % (fs.length : Int) = (q : Int) := by rw [← hq]; simp
                      have hql : q < fs.length := by rw [← hq]; exact Nat.mod_lt _ (by omega)
                      have hqz : (q : Int) < (fs.length : Int) := by omega
                      obtain ⟨z, hz⟩ : ∃ z, fs[q]? = some z := ⟨_, List.getElem?_eq_getElem (by omega)⟩
                      obtain ⟨bg, og, rfl, hbl, la⟩ := (HT.out.below HB.out).load HPX.out
                      obtain ⟨_, _, e, _, lb⟩ := (HT.out.below HB.out).load hy
                      cases e
                      obtain ⟨_, _, e, _, lc⟩ := (HT.out.below HB.out).load hz
                      cases e
                      have lt := load_t (HX.out.below HB.out)
                      have c2 := fun w => LT.out x y w
                      have c3 := fun w => LH.out x y z tt w
                      have c4 := fun w => LO.out x y tt ⟨2, 3, 0, 14, 0⟩ w
                      unfold Sm.v at c2 c3 c4
                      simp only [St.val] at c3 c4
                      have hrm := fun a b => rem_rows (x := a) (y := b) hqi (by omega) (by omega) (by omega)
                      have had := fun a b => add_nat (x := a) (y := b) (i := p) (j := k) (by omega)
                      have L1 := Lib.hid la; have L2 := Lib.hid lb; have L3 := Lib.hid lc; have L4 := Lib.hid lt; have C2 := Lib.hid c2; have C3 := Lib.hid c3; have C4 := Lib.hid c4; have RM := Lib.hid hrm; have AD := Lib.hid had
                      clear la lb lc lt c2 c3 c4 hrm had hy hz hq hqi hbl
                      go_wp2_with fail
                      refine wp_region_below (by kernel_rfl) (by kernel_rfl) ?_
                      refine wpQuiet_step (fun K hK => ?_); go_simp; (first | (with_reducible refine hK _ ?_) | (with_reducible refine ⟨_, fun _ _ => rfl, hK _ ?_⟩)); clear hK K
                      refine wpQuiet_step (fun K hK => ?_); go_simp; (first | (with_reducible refine hK _ ?_) | (with_reducible refine ⟨_, fun _ _ => rfl, hK _ ?_⟩)); clear hK K
                      refine wpQuiet_step (fun K hK => ?_); go_simp; (first | (with_reducible refine hK _ ?_) | (with_reducible refine ⟨_, fun _ _ => rfl, hK _ ?_⟩)); clear hK K
                      refine wpQuiet_step (fun K hK => ?_); refine q_load (p := .pointer (some ⟨bg, og + p * 7, none⟩)) 24 _ rfl rfl rfl (L1.out) ?_; go_simp; (with_reducible refine hK _ ?_); clear hK K
                      refine wpQuiet_step (fun K hK => ?_); go_simp; (first | (with_reducible refine hK _ ?_) | (with_reducible refine ⟨_, fun _ _ => rfl, hK _ ?_⟩)); clear hK K
                      refine wpQuiet_step (fun K hK => ?_); go_simp; (first | (with_reducible refine hK _ ?_) | (with_reducible refine ⟨_, fun _ _ => rfl, hK _ ?_⟩)); clear hK K
                      refine wpQuiet_step (fun K hK => ?_); go_simp; (first | (with_reducible refine hK _ ?_) | (with_reducible refine ⟨_, fun _ _ => rfl, hK _ ?_⟩)); clear hK K
                      refine wpQuiet_step (fun K hK => ?_); refine q_load (p := .pointer (some ⟨bg, og + k * 7, none⟩)) 24 _ rfl rfl rfl (L2.out) ?_; go_simp; (with_reducible refine hK _ ?_); clear hK K
                      refine wpQuiet_step (fun K hK => ?_); go_simp; (with_reducible refine ⟨_, fun _ hb => (C2.out _).mono fun _ _ h => ⟨h.1, hb.trans (h.2.mono (by simpa using hb.size))⟩, hK _ ?_⟩); clear hK K
                      refine wpQuiet_step (fun K hK => ?_); go_simp; (first | (with_reducible refine hK _ ?_) | (with_reducible refine ⟨_, fun _ _ => rfl, hK _ ?_⟩)); clear hK K
                      refine wpQuiet_step (fun K hK => ?_); go_simp; (first | (with_reducible refine hK _ ?_) | (with_reducible refine ⟨_, fun _ _ => rfl, hK _ ?_⟩)); clear hK K
                      refine wpQuiet_step (fun K hK => ?_); go_simp; (first | (with_reducible refine hK _ ?_) | (with_reducible refine ⟨_, fun _ _ => rfl, hK _ ?_⟩)); clear hK K
                      refine wpQuiet_step (fun K hK => ?_); go_simp; (first | (with_reducible refine hK _ ?_) | (with_reducible refine ⟨_, fun _ _ => rfl, hK _ ?_⟩)); clear hK K
                      refine wpQuiet_step (fun K hK => ?_); go_simp; (first | (with_reducible refine hK _ ?_) | (with_reducible refine ⟨_, fun _ _ => rfl, hK _ ?_⟩)); clear hK K
                      refine wpQuiet_step (fun K hK => ?_); refine q_load (p := .pointer (some ⟨bg, og + p * 7, none⟩)) 24 _ rfl rfl rfl (L1.out) ?_; go_simp; (with_reducible refine hK _ ?_); clear hK K
                      refine wpQuiet_step (fun K hK => ?_); go_simp; (first | (with_reducible refine hK _ ?_) | (with_reducible refine ⟨_, fun _ _ => rfl, hK _ ?_⟩)); clear hK K
                      refine wpQuiet_step (fun K hK => ?_); go_simp; (first | (with_reducible refine hK _ ?_) | (with_reducible refine ⟨_, fun _ _ => rfl, hK _ ?_⟩)); clear hK K
                      refine wpQuiet_step (fun K hK => ?_); go_simp; (first | (with_reducible refine hK _ ?_) | (with_reducible refine ⟨_, fun _ _ => rfl, hK _ ?_⟩)); clear hK K
                      refine wpQuiet_step (fun K hK => ?_); refine q_load (p := .pointer (some ⟨bg, og + k * 7, none⟩)) 24 _ rfl rfl rfl (L2.out) ?_; go_simp; (with_reducible refine hK _ ?_); clear hK K
                      refine wpQuiet_step (fun K hK => ?_); go_simp; (first | (with_reducible refine hK _ ?_) | (with_reducible refine ⟨_, fun _ _ => rfl, hK _ ?_⟩)); clear hK K
                      refine wpQuiet_step (fun K hK => ?_); go_simp; (first | (with_reducible refine hK _ ?_) | (with_reducible refine ⟨_, fun _ _ => rfl, hK _ ?_⟩)); clear hK K
                      refine wpQuiet_step (fun K hK => ?_); go_simp; (first | (with_reducible refine hK _ ?_) | (with_reducible refine ⟨_, fun _ _ => rfl, hK _ ?_⟩)); clear hK K
                      refine wpQuiet_step (fun K hK => ?_); refine q_bin _ _ _ _ _ rfl rfl rfl rfl (AD.out _ _) ?_; go_simp; (with_reducible refine hK _ ?_); clear hK K
                      refine wpQuiet_step (fun K hK => ?_); go_simp; (first | (with_reducible refine hK _ ?_) | (with_reducible refine ⟨_, fun _ _ => rfl, hK _ ?_⟩)); clear hK K
                      refine wpQuiet_step (fun K hK => ?_); go_simp; (first | (with_reducible refine hK _ ?_) | (with_reducible refine ⟨_, fun _ _ => rfl, hK _ ?_⟩)); clear hK K
                      refine wpQuiet_step (fun K hK => ?_); refine q_bin _ _ _ _ _ rfl rfl rfl rfl (RM.out _ _) ?_; go_simp; (with_reducible refine hK _ ?_); clear hK K
                      refine wpQuiet_step (fun K hK => ?_); go_simp; (first | (with_reducible refine hK _ ?_) | (with_reducible refine ⟨_, fun _ _ => rfl, hK _ ?_⟩)); clear hK K
                      refine wpQuiet_step (fun K hK => ?_); refine q_load (p := .pointer (some ⟨bg, og + q * 7, none⟩)) 24 _ rfl rfl rfl (L3.out) ?_; go_simp; (with_reducible refine hK _ ?_); clear hK K
                      refine wpQuiet_step (fun K hK => ?_); refine q_load (p := .pointer (some ⟨gT, 0, none⟩)) 26 _ rfl rfl rfl (L4.out) ?_; go_simp; (with_reducible refine hK _ ?_); clear hK K
                      refine wpQuiet_step (fun K hK => ?_); go_simp; (with_reducible refine ⟨_, fun _ hb => (C3.out _).mono fun _ _ h => ⟨h.1, hb.trans (h.2.mono (by simpa using hb.size))⟩, hK _ ?_⟩); clear hK K
                      refine wpQuiet_step (fun K hK => ?_); go_simp; (first | (with_reducible refine hK _ ?_) | (with_reducible refine ⟨_, fun _ _ => rfl, hK _ ?_⟩)); clear hK K
                      refine wpQuiet_step (fun K hK => ?_); go_simp; (first | (with_reducible refine hK _ ?_) | (with_reducible refine ⟨_, fun _ _ => rfl, hK _ ?_⟩)); clear hK K
                      refine wpQuiet_step (fun K hK => ?_); go_simp; (first | (with_reducible refine hK _ ?_) | (with_reducible refine ⟨_, fun _ _ => rfl, hK _ ?_⟩)); clear hK K
                      refine wpQuiet_step (fun K hK => ?_); go_simp; (first | (with_reducible refine hK _ ?_) | (with_reducible refine ⟨_, fun _ _ => rfl, hK _ ?_⟩)); clear hK K
                      refine wpQuiet_step (fun K hK => ?_); go_simp; (first | (with_reducible refine hK _ ?_) | (with_reducible refine ⟨_, fun _ _ => rfl, hK _ ?_⟩)); clear hK K
                      refine wpQuiet_step (fun K hK => ?_); go_simp; (first | (with_reducible refine hK _ ?_) | (with_reducible refine ⟨_, fun _ _ => rfl, hK _ ?_⟩)); clear hK K
                      refine wpQuiet_step (fun K hK => ?_); refine q_load (p := .pointer (some ⟨bg, og + p * 7, none⟩)) 24 _ rfl rfl rfl (L1.out) ?_; go_simp; (with_reducible refine hK _ ?_); clear hK K
                      refine wpQuiet_step (fun K hK => ?_); go_simp; (first | (with_reducible refine hK _ ?_) | (with_reducible refine ⟨_, fun _ _ => rfl, hK _ ?_⟩)); clear hK K
                      refine wpQuiet_step (fun K hK => ?_); go_simp; (first | (with_reducible refine hK _ ?_) | (with_reducible refine ⟨_, fun _ _ => rfl, hK _ ?_⟩)); clear hK K
                      refine wpQuiet_step (fun K hK => ?_); go_simp; (first | (with_reducible refine hK _ ?_) | (with_reducible refine ⟨_, fun _ _ => rfl, hK _ ?_⟩)); clear hK K
                      refine wpQuiet_step (fun K hK => ?_); refine q_load (p := .pointer (some ⟨bg, og + k * 7, none⟩)) 24 _ rfl rfl rfl (L2.out) ?_; go_simp; (with_reducible refine hK _ ?_); clear hK K
                      refine wpQuiet_step (fun K hK => ?_); refine q_load (p := .pointer (some ⟨gT, 0, none⟩)) 26 _ rfl rfl rfl (L4.out) ?_; go_simp; (with_reducible refine hK _ ?_); clear hK K
                      refine wpQuiet_step (fun K hK => ?_); go_simp; (first | (with_reducible refine hK _ ?_) | (with_reducible refine ⟨_, fun _ _ => rfl, hK _ ?_⟩)); clear hK K
                      refine wpQuiet_step (fun K hK => ?_); go_simp; (first | (with_reducible refine hK _ ?_) | (with_reducible refine ⟨_, fun _ _ => rfl, hK _ ?_⟩)); clear hK K
                      refine wpQuiet_step (fun K hK => ?_); go_simp; (with_reducible refine ⟨_, fun _ hb => (C4.out _).mono fun _ _ h => ⟨h.1, hb.trans (h.2.mono (by simpa using hb.size))⟩, hK _ ?_⟩); clear hK K
                      refine wpQuiet_step (fun K hK => ?_); go_simp; (first | (with_reducible refine hK _ ?_) | (with_reducible refine ⟨_, fun _ _ => rfl, hK _ ?_⟩)); clear hK K
                      refine wpQuiet_step (fun K hK => ?_); go_simp; (first | (with_reducible refine hK _ ?_) | (with_reducible refine ⟨_, fun _ _ => rfl, hK _ ?_⟩)); clear hK K
                      refine wpQuiet_nil ?_
                      intro w5 hb5
                      have hbn := HB.out.trans (hb5.mono HB.out.size)
                      have HBN := Lib.hid hbn; clear hb5 hbn HB L1 L2 L3 L4
                      go_wp2_with fail
                      go_roundw
                      case rel => exact ⟨k + 1, by omega, by simp, HBN.out⟩
                      case measure => simp only [intOf]; omega
                    · have hkz : ¬ (k : Int) < (fs.length : Int) := by omega
                      clear hlk hk
                      obtain ⟨bg, og, rfl, hbl, la⟩ := (HT.out.below HB.out).load HPX.out
                      have lt := load_t (HX.out.below HB.out)
                      have c1 := fun w => LA.out x tt 1 p w
                      obtain ⟨r, hr⟩ : ∃ r : Nat, p % 4 = r := ⟨_, rfl⟩
                      have c2 := fun w => LA.out x ⟨r, 0, 0, 0, 0⟩ 1 p w
                      unfold Sm.v at c1 c2
                      simp only [St.val] at c1 c2
                      obtain ⟨m, hm⟩ : ∃ m : Nat, min fs.length (p + 29) = m := ⟨_, rfl⟩
                      have hmi : min (fs.length : Int) ((p : Int) + 29) = (m : Int) := by omega
                      have hpm : p ≤ m := by omega
                      have hmc : m ≤ c := by have := HCM.out; omega
                      have hcx : c ≤ maxLen := HCM.out.2
                      have hr4 := fun a b => rem4 (x := a) (y := b) hr
                      have h29 := fun a b => add29 (x := a) (y := b) (i := p) (by omega)
                      obtain ⟨Y, hY⟩ : ∃ Y, (fs.drop p).take (m - p) = Y := ⟨_, rfl⟩
                      have hYl : Y.length = m - p := by rw [← hY, List.length_take, List.length_drop]; omega
                      have hTY : Mx.Ts wr (some ⟨bg, og + p * 7, none⟩) Y := by rw [← hY]; exact ((HT.out.below HB.out).drop p).take (m - p)
                      have c5 := fun wq (hb : Below wr.heap.size wr wq) => LL.out (some ⟨bg, og + p * 7, none⟩) Y (c - p) wq (hTY.below hb)
                      have sl := slice_mid (b := bg) (o := og) (L := fs.length) (c := c) (p := p) (m := m) (n := Y.length) (by omega) hpm hmc hYl
                      have C5 := Lib.hid c5; have SL := Lib.hid sl; have MM := Lib.hid hmi
                      clear c5 sl hmi hTY hYl hY hpm hmc hcx hm
                      have L1 := Lib.hid la; have L4 := Lib.hid lt; have C1 := Lib.hid c1; have C2 := Lib.hid c2; have R4 := Lib.hid hr4; have A9 := Lib.hid h29
                      clear la lt c1 c2 hr4 h29 hr hbl
                      go_wp2_with fail
                      refine wp_region_below (by kernel_rfl) (by kernel_rfl) ?_
                      refine wpQuiet_step (fun K hK => ?_); go_simp; (first | (with_reducible refine hK _ ?_) | (with_reducible refine ⟨_, fun _ _ => rfl, hK _ ?_⟩)); clear hK K
                      refine wpQuiet_step (fun K hK => ?_); go_simp; (first | (with_reducible refine hK _ ?_) | (with_reducible refine ⟨_, fun _ _ => rfl, hK _ ?_⟩)); clear hK K
                      refine wpQuiet_step (fun K hK => ?_); go_simp; (first | (with_reducible refine hK _ ?_) | (with_reducible refine ⟨_, fun _ _ => rfl, hK _ ?_⟩)); clear hK K
                      refine wpQuiet_step (fun K hK => ?_); refine q_load (p := .pointer (some ⟨bg, og + p * 7, none⟩)) 24 _ rfl rfl rfl (L1.out) ?_; go_simp; (with_reducible refine hK _ ?_); clear hK K
                      refine wpQuiet_step (fun K hK => ?_); refine q_load (p := .pointer (some ⟨gT, 0, none⟩)) 26 _ rfl rfl rfl (L4.out) ?_; go_simp; (with_reducible refine hK _ ?_); clear hK K
                      refine wpQuiet_step (fun K hK => ?_); go_simp; (first | (with_reducible refine hK _ ?_) | (with_reducible refine ⟨_, fun _ _ => rfl, hK _ ?_⟩)); clear hK K
                      refine wpQuiet_step (fun K hK => ?_); go_simp; (with_reducible refine ⟨_, fun _ hb => (C1.out _).mono fun _ _ h => ⟨h.1, hb.trans (h.2.mono (by simpa using hb.size))⟩, hK _ ?_⟩); clear hK K
                      refine wpQuiet_step (fun K hK => ?_); go_simp; (first | (with_reducible refine hK _ ?_) | (with_reducible refine ⟨_, fun _ _ => rfl, hK _ ?_⟩)); clear hK K
                      refine wpQuiet_step (fun K hK => ?_); go_simp; (first | (with_reducible refine hK _ ?_) | (with_reducible refine ⟨_, fun _ _ => rfl, hK _ ?_⟩)); clear hK K
                      refine wpQuiet_step (fun K hK => ?_); go_simp; (first | (with_reducible refine hK _ ?_) | (with_reducible refine ⟨_, fun _ _ => rfl, hK _ ?_⟩)); clear hK K
                      refine wpQuiet_step (fun K hK => ?_); go_simp; (first | (with_reducible refine hK _ ?_) | (with_reducible refine ⟨_, fun _ _ => rfl, hK _ ?_⟩)); clear hK K
                      refine wpQuiet_step (fun K hK => ?_); go_simp; (first | (with_reducible refine hK _ ?_) | (with_reducible refine ⟨_, fun _ _ => rfl, hK _ ?_⟩)); clear hK K
                      refine wpQuiet_step (fun K hK => ?_); refine q_load (p := .pointer (some ⟨bg, og + p * 7, none⟩)) 24 _ rfl rfl rfl (L1.out) ?_; go_simp; (with_reducible refine hK _ ?_); clear hK K
                      refine wpQuiet_step (fun K hK => ?_); go_simp; (first | (with_reducible refine hK _ ?_) | (with_reducible refine ⟨_, fun _ _ => rfl, hK _ ?_⟩)); clear hK K
                      refine wpQuiet_step (fun K hK => ?_); refine q_bin _ _ _ _ _ rfl rfl rfl rfl (R4.out _ _) ?_; go_simp; (with_reducible refine hK _ ?_); clear hK K
                      refine wpQuiet_step (fun K hK => ?_); go_simp; (first | (with_reducible refine hK _ ?_) | (with_reducible refine ⟨_, fun _ _ => rfl, hK _ ?_⟩)); clear hK K
                      refine wpQuiet_step (fun K hK => ?_); go_simp; (first | (with_reducible refine hK _ ?_) | (with_reducible refine ⟨_, fun _ _ => rfl, hK _ ?_⟩)); clear hK K
                      refine wpQuiet_step (fun K hK => ?_); go_simp; (with_reducible refine ⟨_, fun _ hb => (C2.out _).mono fun _ _ h => ⟨h.1, hb.trans (h.2.mono (by simpa using hb.size))⟩, hK _ ?_⟩); clear hK K
                      refine wpQuiet_step (fun K hK => ?_); go_simp; (first | (with_reducible refine hK _ ?_) | (with_reducible refine ⟨_, fun _ _ => rfl, hK _ ?_⟩)); clear hK K
                      refine wpQuiet_step (fun K hK => ?_); go_simp; (first | (with_reducible refine hK _ ?_) | (with_reducible refine ⟨_, fun _ _ => rfl, hK _ ?_⟩)); clear hK K
                      refine wpQuiet_step (fun K hK => ?_); go_simp; (first | (with_reducible refine hK _ ?_) | (with_reducible refine ⟨_, fun _ _ => rfl, hK _ ?_⟩)); clear hK K
                      refine wpQuiet_step (fun K hK => ?_); go_simp; (first | (with_reducible refine hK _ ?_) | (with_reducible refine ⟨_, fun _ _ => rfl, hK _ ?_⟩)); clear hK K
                      refine wpQuiet_step (fun K hK => ?_); go_simp; (first | (with_reducible refine hK _ ?_) | (with_reducible refine ⟨_, fun _ _ => rfl, hK _ ?_⟩)); clear hK K
                      refine wpQuiet_step (fun K hK => ?_); go_simp; (first | (with_reducible refine hK _ ?_) | (with_reducible refine ⟨_, fun _ _ => rfl, hK _ ?_⟩)); clear hK K
                      refine wpQuiet_step (fun K hK => ?_); go_simp; (first | (with_reducible refine hK _ ?_) | (with_reducible refine ⟨_, fun _ _ => rfl, hK _ ?_⟩)); clear hK K
                      refine wpQuiet_step (fun K hK => ?_); go_simp; (first | (with_reducible refine hK _ ?_) | (with_reducible refine ⟨_, fun _ _ => rfl, hK _ ?_⟩)); clear hK K
                      refine wpQuiet_step (fun K hK => ?_); refine q_bin _ _ _ _ _ rfl rfl rfl rfl (A9.out _ _) ?_; go_simp; (with_reducible refine hK _ ?_); clear hK K
                      refine wpQuiet_step (fun K hK => ?_); refine q_min _ _ _ _ rfl rfl rfl rfl MM.out ?_; go_simp; (with_reducible refine hK _ ?_); clear hK K
                      refine wpQuiet_step (fun K hK => ?_); refine q_slice 44 _ _ _ rfl rfl rfl rfl rfl (fun w _ => SL.out w) ?_; go_simp; (with_reducible refine hK _ ?_); clear hK K
                      refine wpQuiet_step (fun K hK => ?_); go_simp; (with_reducible refine ⟨_, fun wq hb => (C5.out wq hb).mono fun _ _ h => ⟨h.1, hb.trans (h.2.mono (by simpa using hb.size))⟩, hK _ ?_⟩); clear hK K
                      refine wpQuiet_step (fun K hK => ?_); go_simp; (first | (with_reducible refine hK _ ?_) | (with_reducible refine ⟨_, fun _ _ => rfl, hK _ ?_⟩)); clear hK K
                      refine wpQuiet_step (fun K hK => ?_); go_simp; (first | (with_reducible refine hK _ ?_) | (with_reducible refine ⟨_, fun _ _ => rfl, hK _ ?_⟩)); clear hK K
                      refine wpQuiet_nil ?_
                      intro w5 hb5
                      have hbn := HB.out.trans (hb5.mono HB.out.size)
                      have HBN := Lib.hid hbn; clear hb5 hbn HB L1 L4
                      go_wp2_with fail
                      go_roundw
                      case rel => exact ⟨p + 1, by omega, by simp, HBN.out⟩
                      case measure => simp only [intOf]; omega
                · have hpz : ¬ (p : Int) < (fs.length : Int) := by omega
                  have cl := LL.out none [] 0 wr Mx.Ts.nil
                  have CL := Lib.hid cl; clear cl hlp hp
                  go_wp2_with fail
                  refine CL.out.mono ?_; rintro e w5 ⟨rfl, hb5⟩
                  have HB5 := Lib.hid (HB.out.trans (hb5.mono HB.out.size)); clear hb5 CL
                  dsimp only
                  go_wp2_with fail
                  refine (CW.out _).mono ?_; rintro e w6 ⟨rfl, hb6⟩
                  have HB6 := Lib.hid (HB2.out.trans ((HB5.out.trans (hb6.mono HB5.out.size)).mono HB2.out.size)); clear hb6
                  dsimp only
                  go_wp2_with fail
                  go_ret
                  exact ⟨rfl, HB6.out⟩

set_option maxRecDepth 100000 in
theorem lifted (os : Os) (started : os.Started) (H : Type) (enc : TypeId × Value → H) :
    ReturnsInHanded {} Try.checked os 10 .any (Rows.summaryKnownSpec.pre6 enc Try.prog Try.f10 Rows.summaryKnownRow.domain false) (Rows.summaryKnownSpec.post enc Try.prog Try.f10 false true false false) := by
  refine returnsInHanded_of_change_sized (C := Try.checked) ownKnob_none started (by kernel_rfl) Try.func10
    (ChangeSpec.witness6 (enc := enc) (C := Try.checked) false ⟨#[], #[], []⟩ 8 (by kernel_rfl) (by kernel_rfl) (by kernel_rfl) (by kernel_rfl)) ?_
  intro W base args ds gs before hval0 hW hcnd hsz0 _
  have hval : ∀ (j : Nat) t v, Try.f10.params[j]? = some t → args[j]? = some v → Value.okWide Try.prog W .any base t v := hval0
  have hW' := hW
  obtain ⟨p, q, hA0, hV, rfl, hfz, hnd⟩ := hW
  have hA : DataW.TrodAll enc Try.prog W 0 (fun _ => true) true Try.f10.params.toList args.toList ds p := hA0
  have hsz : (DataW.weightsEach Try.prog (Try.f10.params.toList ++ Rows.summaryKnownSpec.plain.varTypes Try.prog) (ds ++ gs)).all (· ≤ reachBytes) = true := hsz0
  rw [Try.params10] at hA hval hsz
  obtain ⟨hargs, rfl, rfl⟩ := trodAll_nil hA
  obtain rfl : args = #[] := by cases args; simp_all
  obtain ⟨rfl, rfl⟩ := trodVars_none hV
  clear hA0 hval0 hsz0
  refine (walk W).mono fun e W' ⟨he, hg⟩ => ?_
  subst he
  exact ⟨_, rfl, law_post progLaid hW' rfl (by rw [Try.params10]; intro t ht; simp at ht) rfl Try.underlying4 rfl hg⟩

theorem over : Rows.summaryKnownRow.holds Try.pinned (OpenSpec.ofChange Rows.summaryKnownSpec) :=
  OpenClaim.holds_of_wide 10 Try.f10 rfl rfl rfl rfl rfl rfl rfl ⟨rfl, rfl, rfl, rfl, rfl⟩ rfl rfl rfl rfl rfl (by kernel_rfl) Try.func10 (by kernel_rfl)
    (of_decide_eq_true (by kernel_rfl)) (by unfold Func.isWrapper; first | (rw [if_pos (by decide +kernel)]; kernel_rfl) | (rw [if_neg (by decide +kernel)]; exact ⟨rfl, rfl⟩))
    (fun os started H enc _ => lifted os started H enc)

/-- The statement. -/
theorem proved : Rows.SummaryKnownSaid :=
  over
end summaryKnown
end Go.Proofs.Ytdpadkellpkppaa
