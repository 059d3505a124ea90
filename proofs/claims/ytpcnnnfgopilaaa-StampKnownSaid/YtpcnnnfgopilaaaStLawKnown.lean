/- StampKnown: closed: the examples, and times with one number at a bound, or past it, in all pairs. -/
import Derived.Test.YtpcnnnfgopilaaaStRefPut2
import Derived.Test.YtpcnnnfgopilaaaStRow
import Derived.Test.YtpcnnnfgopilaaaStTwo
import Derived.Test.YtpcnnnfgopilaaaStLawRight
import Derived.Test.YtpcnnnfgopilaaaStLawOrder
import Derived.Test.YtpcnnnfgopilaaaStLawLoops
import Derived.Test.YtpcnnnfgopilaaaStLawGet
namespace Go.Proofs.Ytpcnnnfgopilaaa
open Go.ChangeShapes Go.WideShapes Go.ChangeAt Go.RowKit Go.BigFrame
set_option linter.unusedVariables false
namespace stampKnown
def ds : List Int := [-1, 0, 1, 2, 3, 4]
def ns : List Int := [-1, 0, 1, 14, 15, 16]
/-- what the document's Put gives of any time: some bytes -/
def Some (w : World) (e : Ending) (w' : World) : Prop :=
  ∃ (ys : List Nat) (A : Option Addr) (c : Nat) (x : Int), e = .returned (.tuple #[.slice A ys.length c, .int .i64 x]) ∧ Bytes w' A ys ∧ ys.length ≤ c ∧ c ≤ maxLen ∧ (A = none → c = 0) ∧ Below w.heap.size w w'
theorem refPut_some (t : St) (w : World) : Calls Try.prog 18 #[t.val] w (Some w) := by
  by_cases h : t.R
  · refine (refPut2_any t w h).mono ?_
    rintro e w1 ⟨A, c, rfl, hB, h1, h2, hb⟩
    refine ⟨t.put, A, c, 0, rfl, hB, h1, h2, ?_, hb⟩
    rintro rfl
    have := St.put_len h
    obtain ⟨_, e, _⟩ := hB.2 (by omega)
    cases e
  · refine (refPut_no t w h).mono ?_
    rintro e w1 ⟨rfl, hb⟩
    exact ⟨[], none, 0, 50, rfl, bytes_nil, by simp, by simp, fun _ => rfl, hb⟩
theorem load_elem {W : World} {b n : Nat} {us : List St} {t : St} (h : Times W (some ⟨b, 0, none⟩) us) (hn : 0 < us.length) (ht : us[n]? = some t) : ∀ w', Below W.heap.size W w' → (Instr.loadAt 24 (.pointer (some ⟨b, n * 5, none⟩))).run Try.prog w' = .ok (.agg #[.int .i64 t.d, .int .i64 t.e, .int .i64 t.x, .int .i64 t.y, .int .i64 t.z]) w' := by
  intro w' hb
  obtain ⟨_, e, hlt, hc⟩ := h hn
  cases e
  exact run_loadAt_part b (n * 5) 24 _ t.cells (fun j v hj => by rw [add_at]; exact (hb.cell (p := ⟨b, n * 5 + j, none⟩) hlt).trans (hc _ _ (rowS_at us n t ht j v hj))) Try.underlying24 rfl (by kernel_rfl)
section
variable {P : Program} {C : World → Prop} {K : Act → Prop} {a : Act} {o : Oper} {ops : Array Oper}
theorem q_move {v : Value} (x : Operand) (ho : o.op = .move x) (hw : Region.wanted o (yielded ops a.tmps) = true) (hx : a.eval x = v) (hk : K (a.put o.dst v)) :
    if Region.wanted o (yielded ops a.tmps) then o.quiet P a C K else K (a.put o.dst undef) := by
  rw [if_pos hw]
  refine ⟨v, fun w' hw' => ?_, hk⟩
  unfold Oper.quietAt execOp
  simp only [ho, hx, Sem.run_pure, Oper.quietUpon]
  exact ⟨trivial, trivial⟩
theorem q_no (hw : Region.wanted o (yielded ops a.tmps) = false) (hk : K (a.put o.dst undef)) :
    if Region.wanted o (yielded ops a.tmps) then o.quiet P a C K else K (a.put o.dst undef) := by
  rw [if_neg (by rw [hw]; exact Bool.false_ne_true)]; exact hk
end
theorem mul7 {x y : Operand} {i : Nat} (h : i ≤ 1000) : ∀ w, (do eqGuard .mul 3 x y (.int .i64 (i : Nat)) (.int .i64 7); binOp .mul 3 (.int .i64 (i : Nat)) (.int .i64 7) : Sem Value).run Try.prog w = .ok (.int .i64 ((i * 7 : Nat) : Int)) w := by
  intro w
  have : IntKind.i64.wrap ((i : Int) * 7) = ((i * 7 : Nat) : Int) := by rw [IntWalk.i64_in _ (by omega)]; push_cast; rfl
  simp [go_sem, this]
theorem mul3 {x y : Operand} {i : Nat} (h : i ≤ 1000) : ∀ w, (do eqGuard .mul 3 x y (.int .i64 (i : Nat)) (.int .i64 3); binOp .mul 3 (.int .i64 (i : Nat)) (.int .i64 3) : Sem Value).run Try.prog w = .ok (.int .i64 ((i * 3 : Nat) : Int)) w := by
  intro w
  have : IntKind.i64.wrap ((i : Int) * 3) = ((i * 3 : Nat) : Int) := by rw [IntWalk.i64_in _ (by omega)]; push_cast; rfl
  simp [go_sem, this]
theorem add_nat {x y : Operand} {i j : Nat} (h : i + j ≤ 100000) : ∀ w, (do eqGuard .add 3 x y (.int .i64 (i : Nat)) (.int .i64 (j : Nat)); binOp .add 3 (.int .i64 (i : Nat)) (.int .i64 (j : Nat)) : Sem Value).run Try.prog w = .ok (.int .i64 ((i : Int) + (j : Int))) w := by
  intro w
  have : IntKind.i64.wrap ((i : Int) + (j : Int)) = (i : Int) + (j : Int) := IntWalk.i64_in _ (by omega)
  simp [go_sem, this]
theorem rem_nat {x y : Operand} {i j L q : Nat} (hq : ((i : Int) + (j : Int)) % (L : Int) = (q : Int)) (hL : 0 < L) (h : i + j ≤ 100000) (hb : q ≤ 1000) : ∀ w, (do eqGuard .rem 3 x y (.int .i64 ((i : Int) + (j : Int))) (.int .i64 (L : Nat)); binOp .rem 3 (.int .i64 ((i : Int) + (j : Int))) (.int .i64 (L : Nat)) : Sem Value).run Try.prog w = .ok (.int .i64 (q : Int)) w := by
  intro w
  have h1 : ((i : Int) + (j : Int)).tmod (L : Int) = (q : Int) := by rw [Int.tmod_eq_emod_of_nonneg (by omega)]; exact hq
  have h2 : IntKind.i64.wrap (((i : Int) + (j : Int)).tmod (L : Int)) = (q : Int) := by
    rw [h1]
    exact IntWalk.i64_in _ (by omega)
  have h3 : L ≠ 0 := by omega
  simp [go_sem, h1, h2, h3]
theorem sub1 {x y : Operand} {m : Nat} (h : m ≤ 9223372036854775806) : ∀ w, (do eqGuard .sub 3 x y (.int .i64 ((m : Int) + 1)) (.int .i64 1); binOp .sub 3 (.int .i64 ((m : Int) + 1)) (.int .i64 1) : Sem Value).run Try.prog w = .ok (.int .i64 (m : Int)) w := by
  intro w
  have : IntKind.i64.wrap (m : Int) = (m : Int) := IntWalk.i64_in _ (by omega)
  simp [go_sem, this]
set_option maxRecDepth 100000 in
set_option maxHeartbeats 8000000 in
theorem walk (w : World) : Calls Try.prog 10 #[] w fun e w' => e = .returned (.bool true) ∧ Below w.heap.size w w' := by
  go_enter Try.func10, Try.ntmps10
  go_wp2_with fail
  go_loopw [1, 12] (fun l i wr => ∃ (k : Nat) (ts : List St), k ≤ 6 ∧ i = .int .i64 k ∧ wr.ownsRow w.heap.size 24 5 l ts.length (rowS ts) ∧ ts.length ≤ 21 * k ∧ Row wr w.heap.size 3 (ds.map (Value.int .i64)) ∧ Below w.heap.size w wr) (fun _ i _ => 6 - (intOf i).toNat)
  case atStart => exact ⟨0, [], by omega, rfl, World.ownsRow_nil _ _ _ _, by simp, Row.made _ _ _, (Below.refl _ _).alloc (Nat.le_refl _) _⟩
  case round =>
    obtain ⟨k, ts, hk, rfl, hown, hlen, hrow, hb⟩ := hrel
    by_cases hlt : k < 6
    · have hc := hrow.cell k
      rw [List.getElem?_map] at hc
      obtain ⟨x, hx⟩ : ∃ x, ds[k]? = some x := ⟨_, List.getElem?_eq_getElem (show k < ds.length from hlt)⟩
      rw [hx, Option.map_some] at hc
      have H := Lib.hid (And.intro hown (And.intro hrow hb)); clear hown hrow hb hx
      have htk : decide ((k : Int) < 6) = true := decide_eq_true (by omega)
      go_wp2_with fail
      have hb1 : Below w.heap.size w (wr.alloc (.cells (ns.map (Value.int .i64)).toArray 3)) := H.out.2.2.alloc H.out.2.2.size _
      have hr1 : Row (wr.alloc (.cells (ns.map (Value.int .i64)).toArray 3)) wr.heap.size 3 (ns.map (Value.int .i64)) := Row.made _ _ _
      have hr0 : Row (wr.alloc (.cells (ns.map (Value.int .i64)).toArray 3)) w.heap.size 3 (ds.map (Value.int .i64)) := H.out.2.1.alloc _
      have ho1 : (wr.alloc (.cells (ns.map (Value.int .i64)).toArray 3)).ownsRow w.heap.size 24 5 u1 ts.length (rowS ts) := H.out.1.alloc _
      obtain ⟨B1, hB1⟩ : ∃ B1, B1 = wr.heap.size := ⟨_, rfl⟩
      rw [← hB1] at hr1 ⊢
      have H1 := Lib.hid (And.intro ho1 (And.intro hr0 (And.intro hr1 hb1))); clear ho1 hr0 hr1 hb1 H hB1 hc
      go_loopw [1, 18] (fun l i w2 => ∃ (j : Nat) (us : List St), j ≤ 6 ∧ i = .int .i64 j ∧ w2.ownsRow w.heap.size 24 5 l us.length (rowS us) ∧ us.length ≤ 21 * k + 3 * j ∧ Row w2 w.heap.size 3 (ds.map (Value.int .i64)) ∧ Row w2 B1 3 (ns.map (Value.int .i64)) ∧ Below w.heap.size w w2) (fun _ i _ => 6 - (intOf i).toNat)
      case atStart => exact ⟨0, ts, by omega, rfl, H1.out.1, by omega, H1.out.2.1, H1.out.2.2.1, H1.out.2.2.2⟩
      case round =>
        obtain ⟨j, us, hj, rfl, hown, hlu, hr0, hr1, hb⟩ := hrel
        by_cases hjl : j < 6
        · have hc1 := hr1.cell j
          rw [List.getElem?_map] at hc1
          obtain ⟨y, hy⟩ : ∃ y, ns[j]? = some y := ⟨_, List.getElem?_eq_getElem (show j < ns.length from hjl)⟩
          rw [hy, Option.map_some] at hc1
          clear hy H1
          have hoA : (wr.alloc (.cells #[.int .i64 x, .int .i64 5, .int .i64 y, .int .i64 0, .int .i64 0, .int .i64 x, .int .i64 5, .int .i64 0, .int .i64 y, .int .i64 0, .int .i64 x, .int .i64 y, .int .i64 0, .int .i64 0, .int .i64 y] 24)).ownsRow w.heap.size 24 5 u1 us.length (rowS us) := hown.alloc _
          have hTA : Times (wr.alloc (.cells #[.int .i64 x, .int .i64 5, .int .i64 y, .int .i64 0, .int .i64 0, .int .i64 x, .int .i64 5, .int .i64 0, .int .i64 y, .int .i64 0, .int .i64 x, .int .i64 y, .int .i64 0, .int .i64 0, .int .i64 y] 24)) (some ⟨wr.heap.size, 0, none⟩) [⟨x, 5, y, 0, 0⟩, ⟨x, 5, 0, y, 0⟩, ⟨x, y, 0, 0, y⟩] := Times.made wr [⟨x, 5, y, 0, 0⟩, ⟨x, 5, 0, y, 0⟩, ⟨x, y, 0, 0, y⟩]
          have hba : Below w.heap.size w (wr.alloc (.cells #[.int .i64 x, .int .i64 5, .int .i64 y, .int .i64 0, .int .i64 0, .int .i64 x, .int .i64 5, .int .i64 0, .int .i64 y, .int .i64 0, .int .i64 x, .int .i64 y, .int .i64 0, .int .i64 0, .int .i64 y] 24)) := hb.alloc hb.size _
          have hbs := hba.size
          have hr0A : Row (wr.alloc (.cells #[.int .i64 x, .int .i64 5, .int .i64 y, .int .i64 0, .int .i64 0, .int .i64 x, .int .i64 5, .int .i64 0, .int .i64 y, .int .i64 0, .int .i64 x, .int .i64 y, .int .i64 0, .int .i64 0, .int .i64 y] 24)) w.heap.size 3 (ds.map (Value.int .i64)) := hr0.alloc _
          have hr1A : Row (wr.alloc (.cells #[.int .i64 x, .int .i64 5, .int .i64 y, .int .i64 0, .int .i64 0, .int .i64 x, .int .i64 5, .int .i64 0, .int .i64 y, .int .i64 0, .int .i64 x, .int .i64 y, .int .i64 0, .int .i64 0, .int .i64 y] 24)) B1 3 (ns.map (Value.int .i64)) := hr1.alloc _
          have Xhba := Lib.hid hba; clear hba
          have Xhr0A := Lib.hid hr0A; clear hr0A
          have Xhr1A := Lib.hid hr1A; clear hr1A
          clear hb hr0 hr1 hown
          go_wp2_with (at_builtin; refine wpList_append_times rfl _ _ rfl w.heap.size u1 us.length us rfl hoA ⟨wr.heap.size, 0, none⟩ 3 [⟨x, 5, y, 0, 0⟩, ⟨x, 5, 0, y, 0⟩, ⟨x, y, 0, 0, y⟩] rfl (by simp) hTA (by simp; omega) hbs ?_)
          intro v2 w2 hown2 hgr2
          have hr02 := Xhr0A.out.grown hgr2 (own_apart hoA Xhr0A.out (by decide))
          have hr12 := Xhr1A.out.grown hgr2 (own_apart hoA Xhr1A.out (by decide))
          have hb2 := own_belowS hoA hgr2 Xhba.out hbs
          have H2 := Lib.hid (And.intro hown2 (And.intro hb2 (And.intro hr02 hr12))); clear hown2 hb2 hgr2 hoA hTA Xhba Xhr0A hr02 Xhr1A hr12
          go_wp2_with fail
          go_roundw
          case rel => exact ⟨j + 1, us ++ [⟨x, 5, y, 0, 0⟩, ⟨x, 5, 0, y, 0⟩, ⟨x, y, 0, 0, y⟩], by omega, by go_num, by simpa using H2.out.1, by simp; omega, H2.out.2.2.1, H2.out.2.2.2, H2.out.2.1⟩
          case measure => simp [intOf]; omega
        · obtain rfl : j = 6 := by omega
          clear hr1 H1
          have hoA : (wr.alloc (.cells #[.int .i64 x, .int .i64 999, .int .i64 0, .int .i64 0, .int .i64 0, .int .i64 x, .int .i64 1000, .int .i64 0, .int .i64 0, .int .i64 0, .int .i64 x, .int .i64 256, .int .i64 1, .int .i64 2, .int .i64 3] 24)).ownsRow w.heap.size 24 5 u1 us.length (rowS us) := hown.alloc _
          have hTA : Times (wr.alloc (.cells #[.int .i64 x, .int .i64 999, .int .i64 0, .int .i64 0, .int .i64 0, .int .i64 x, .int .i64 1000, .int .i64 0, .int .i64 0, .int .i64 0, .int .i64 x, .int .i64 256, .int .i64 1, .int .i64 2, .int .i64 3] 24)) (some ⟨wr.heap.size, 0, none⟩) [⟨x, 999, 0, 0, 0⟩, ⟨x, 1000, 0, 0, 0⟩, ⟨x, 256, 1, 2, 3⟩] := Times.made wr [⟨x, 999, 0, 0, 0⟩, ⟨x, 1000, 0, 0, 0⟩, ⟨x, 256, 1, 2, 3⟩]
          have hba : Below w.heap.size w (wr.alloc (.cells #[.int .i64 x, .int .i64 999, .int .i64 0, .int .i64 0, .int .i64 0, .int .i64 x, .int .i64 1000, .int .i64 0, .int .i64 0, .int .i64 0, .int .i64 x, .int .i64 256, .int .i64 1, .int .i64 2, .int .i64 3] 24)) := hb.alloc hb.size _
          have hbs := hba.size
          have hr0A : Row (wr.alloc (.cells #[.int .i64 x, .int .i64 999, .int .i64 0, .int .i64 0, .int .i64 0, .int .i64 x, .int .i64 1000, .int .i64 0, .int .i64 0, .int .i64 0, .int .i64 x, .int .i64 256, .int .i64 1, .int .i64 2, .int .i64 3] 24)) w.heap.size 3 (ds.map (Value.int .i64)) := hr0.alloc _
          have Xhba := Lib.hid hba; clear hba
          have Xhr0A := Lib.hid hr0A; clear hr0A
          clear hb hr0 hown
          go_wp2_with (at_builtin; refine wpList_append_times rfl _ _ rfl w.heap.size u1 us.length us rfl hoA ⟨wr.heap.size, 0, none⟩ 3 [⟨x, 999, 0, 0, 0⟩, ⟨x, 1000, 0, 0, 0⟩, ⟨x, 256, 1, 2, 3⟩] rfl (by simp) hTA (by simp; omega) hbs ?_)
          intro v2 w2 hown2 hgr2
          have hr02 := Xhr0A.out.grown hgr2 (own_apart hoA Xhr0A.out (by decide))
          have hb2 := own_belowS hoA hgr2 Xhba.out hbs
          have H2 := Lib.hid (And.intro hown2 (And.intro hb2 (And.intro hr02 trivial))); clear hown2 hb2 hgr2 hoA hTA Xhba Xhr0A hr02
          go_wp2_with fail
          go_roundw
          case rel => exact ⟨k + 1, us ++ [⟨x, 999, 0, 0, 0⟩, ⟨x, 1000, 0, 0, 0⟩, ⟨x, 256, 1, 2, 3⟩], by omega, by go_num, by simpa using H2.out.1, by simp; omega, H2.out.2.2.1, H2.out.2.1⟩
          case measure => simp [intOf]; omega
    · obtain rfl : k = 6 := by omega
      clear hrow
      have hoA : (wr.alloc (.cells #[.int .i64 4611686018427387904, .int .i64 4611686018427387904, .int .i64 0, .int .i64 0, .int .i64 0, .int .i64 (-9223372036854775808), .int .i64 (-9223372036854775808), .int .i64 (-9223372036854775808), .int .i64 9223372036854775807, .int .i64 0, .int .i64 9223372036854775807, .int .i64 0, .int .i64 0, .int .i64 0, .int .i64 0] 24)).ownsRow w.heap.size 24 5 u1 ts.length (rowS ts) := hown.alloc _
      have hTA : Times (wr.alloc (.cells #[.int .i64 4611686018427387904, .int .i64 4611686018427387904, .int .i64 0, .int .i64 0, .int .i64 0, .int .i64 (-9223372036854775808), .int .i64 (-9223372036854775808), .int .i64 (-9223372036854775808), .int .i64 9223372036854775807, .int .i64 0, .int .i64 9223372036854775807, .int .i64 0, .int .i64 0, .int .i64 0, .int .i64 0] 24)) (some ⟨wr.heap.size, 0, none⟩) [⟨4611686018427387904, 4611686018427387904, 0, 0, 0⟩, ⟨-9223372036854775808, -9223372036854775808, -9223372036854775808, 9223372036854775807, 0⟩, ⟨9223372036854775807, 0, 0, 0, 0⟩] := Times.made wr [⟨4611686018427387904, 4611686018427387904, 0, 0, 0⟩, ⟨-9223372036854775808, -9223372036854775808, -9223372036854775808, 9223372036854775807, 0⟩, ⟨9223372036854775807, 0, 0, 0, 0⟩]
      have hba : Below w.heap.size w (wr.alloc (.cells #[.int .i64 4611686018427387904, .int .i64 4611686018427387904, .int .i64 0, .int .i64 0, .int .i64 0, .int .i64 (-9223372036854775808), .int .i64 (-9223372036854775808), .int .i64 (-9223372036854775808), .int .i64 9223372036854775807, .int .i64 0, .int .i64 9223372036854775807, .int .i64 0, .int .i64 0, .int .i64 0, .int .i64 0] 24)) := hb.alloc hb.size _
      have hbs := hba.size
      have Xhba := Lib.hid hba; clear hba
      clear hb  hown
      go_wp2_with (at_builtin; refine wpList_append_times rfl _ _ rfl w.heap.size u1 ts.length ts rfl hoA ⟨wr.heap.size, 0, none⟩ 3 [⟨4611686018427387904, 4611686018427387904, 0, 0, 0⟩, ⟨-9223372036854775808, -9223372036854775808, -9223372036854775808, 9223372036854775807, 0⟩, ⟨9223372036854775807, 0, 0, 0, 0⟩] rfl (by simp) hTA (by simp; omega) hbs ?_)
      intro v2 w2 hown2 hgr2
      have hb2 := own_belowS hoA hgr2 Xhba.out hbs
      have H2 := Lib.hid (And.intro hown2 (And.intro hb2 trivial)); clear hown2 hb2 hgr2 hoA hTA Xhba 
      obtain ⟨us, hus⟩ : ∃ us, us = ts ++ [⟨4611686018427387904, 4611686018427387904, 0, 0, 0⟩, ⟨-9223372036854775808, -9223372036854775808, -9223372036854775808, 9223372036854775807, 0⟩, ⟨9223372036854775807, 0, 0, 0, 0⟩] := ⟨_, rfl⟩
      have hul : us.length ≤ 129 := by rw [hus]; simp; omega
      have hul0 : 0 < us.length := by rw [hus]; simp
      have hou := H2.out.1
      rw [← hus, show ts.length + 3 = us.length by rw [hus]; simp] at hou
      have hbw := H2.out.2.1
      obtain ⟨A, c, rfl, hT, hlc, hcm⟩ := Times.of_own hou
      clear hou hus H2 hlen
      have HBW := Lib.hid hbw; clear hbw
      have hul3 : 0 < us.length := hul0
      obtain ⟨b, rfl, hbl, -⟩ := hT hul3
      have HT := Lib.hid hT; clear hT
      go_wp2_with fail
      go_loopw [6] (fun i wr => ∃ (n : Nat), n ≤ us.length ∧ i = .int .i64 n ∧ Below w2.heap.size w2 wr) (fun i _ => us.length - (intOf i).toNat)
      case atStart => exact ⟨0, by omega, rfl, Below.refl _ _⟩
      case round =>
        obtain ⟨n, hn, rfl, hb⟩ := hrel
        by_cases hlt : n < us.length
        · obtain ⟨t, ht⟩ : ∃ t, us[n]? = some t := ⟨_, List.getElem?_eq_getElem hlt⟩
          obtain ⟨_, e, _, hcell⟩ := HT.out.below hb hul3
          cases e
          have k0 := hcell _ _ (rowS_at us n t ht 0 _ rfl); have k1 := hcell _ _ (rowS_at us n t ht 1 _ rfl); have k2 := hcell _ _ (rowS_at us n t ht 2 _ rfl); have k3 := hcell _ _ (rowS_at us n t ht 3 _ rfl); have k4 := hcell _ _ (rowS_at us n t ht 4 _ rfl)
          simp only [Nat.add_zero] at k0
          have HT1 := Lib.hid ht; have HB := Lib.hid hb; clear hcell ht hb
          go_wp2_with fail
          refine (refPut_some t _).mono ?_; rintro e v1 ⟨ys, A2, c2, x2, rfl, hB2, hl2, hm2, hn2, hbel⟩
          dsimp only
          have hb1 : Below w2.heap.size w2 v1 := HB.out.trans (hbel.mono HB.out.size)
          have hT1 := HT.out.below hb1
          have HTV := Lib.hid hT1; have HB1 := Lib.hid hb1; have HBY := Lib.hid hB2; clear hT1 hb1 hB2 hbel HB k0 k1 k2 k3 k4
          by_cases hy : 0 < ys.length
          · obtain ⟨m0, hm0⟩ : ∃ m0, ys.length = m0 + 1 := ⟨ys.length - 1, by omega⟩
            have hg1 := fun w (hB : Bytes w A2 ys) => stampGet.walk t ys A2 c2 w hB hl2 hm2 hn2
            have hg2 := fun w (hB : Bytes w A2 (ys.take m0)) => stampGet.walk t (ys.take m0) A2 c2 w hB (by rw [List.length_take]; omega) hm2 hn2
            rw [show (ys.take m0).length = m0 by rw [List.length_take]; omega] at hg2
            rw [hm0] at hg1 hl2 hy ⊢
            have tg : decide ((m0 : Int) + 1 > 0) = true := decide_eq_true (by omega)
            have HG1 := Lib.hid hg1; have HG2 := Lib.hid hg2; have TG := Lib.hid tg; clear hg1 hg2 tg hm0 hy
            have hm2_ := hm2
            unfold maxLen at hm2_
            have hmc : m0 ≤ c2 := by omega
            go_wp2_with fail
            refine wp_region_below (by kernel_rfl) (by kernel_rfl) ?_
            refine wpQuiet_step (fun K hK => ?_); go_simp; (first | (with_reducible refine hK _ ?_) | (with_reducible refine ⟨_, fun _ _ => rfl, hK _ ?_⟩)); clear hK K
            refine wpQuiet_step (fun K hK => ?_); go_simp; (first | (with_reducible refine hK _ ?_) | (with_reducible refine ⟨_, fun _ _ => rfl, hK _ ?_⟩)); clear hK K
            refine wpQuiet_step (fun K hK => ?_); go_simp; (first | (with_reducible refine hK _ ?_) | (with_reducible refine ⟨_, fun _ _ => rfl, hK _ ?_⟩)); clear hK K
            refine wpQuiet_step (fun K hK => ?_); refine q_load (p := .pointer (some ⟨b, n * 5, none⟩)) 24 _ rfl rfl rfl (load_elem HTV.out hul3 HT1.out) ?_; go_simp; (with_reducible refine hK _ ?_); clear hK K
            refine wpQuiet_step (fun K hK => ?_); go_simp; (with_reducible refine ⟨_, fun _ hb => (stampRight.walk t _).mono fun _ _ h => ⟨h.1, hb.trans (h.2.mono (by simpa using hb.size))⟩, hK _ ?_⟩); clear hK K
            refine wpQuiet_step (fun K hK => ?_); go_simp; (first | (with_reducible refine hK _ ?_) | (with_reducible refine ⟨_, fun _ _ => rfl, hK _ ?_⟩)); clear hK K
            refine wpQuiet_step (fun K hK => ?_); go_simp; (first | (with_reducible refine hK _ ?_) | (with_reducible refine ⟨_, fun _ _ => rfl, hK _ ?_⟩)); clear hK K
            refine wpQuiet_step (fun K hK => ?_); go_simp; (first | (with_reducible refine hK _ ?_) | (with_reducible refine ⟨_, fun _ _ => rfl, hK _ ?_⟩)); clear hK K
            refine wpQuiet_step (fun K hK => ?_); go_simp; (first | (with_reducible refine hK _ ?_) | (with_reducible refine ⟨_, fun _ _ => rfl, hK _ ?_⟩)); clear hK K
            refine wpQuiet_step (fun K hK => ?_); go_simp; (first | (with_reducible refine hK _ ?_) | (with_reducible refine ⟨_, fun _ _ => rfl, hK _ ?_⟩)); clear hK K
            refine wpQuiet_step (fun K hK => ?_); refine q_load (p := .pointer (some ⟨b, n * 5, none⟩)) 24 _ rfl rfl rfl (load_elem HTV.out hul3 HT1.out) ?_; go_simp; (with_reducible refine hK _ ?_); clear hK K
            refine wpQuiet_step (fun K hK => ?_); go_simp; (first | (with_reducible refine hK _ ?_) | (with_reducible refine ⟨_, fun _ _ => rfl, hK _ ?_⟩)); clear hK K
            refine wpQuiet_step (fun K hK => ?_); go_simp; (with_reducible refine ⟨_, fun _ hb => (HG1.out _ (HBY.out.below hb)).mono fun _ _ h => ⟨h.1, hb.trans (h.2.mono (by simpa using hb.size))⟩, hK _ ?_⟩); clear hK K
            refine wpQuiet_step (fun K hK => ?_); go_simp; (first | (with_reducible refine hK _ ?_) | (with_reducible refine ⟨_, fun _ _ => rfl, hK _ ?_⟩)); clear hK K
            refine wpQuiet_step (fun K hK => ?_); go_simp; (first | (with_reducible refine hK _ ?_) | (with_reducible refine ⟨_, fun _ _ => rfl, hK _ ?_⟩)); clear hK K
            refine wpQuiet_step (fun K hK => ?_); go_simp; (first | (with_reducible refine hK _ ?_) | (with_reducible refine ⟨_, fun _ _ => rfl, hK _ ?_⟩)); clear hK K
            refine wpQuiet_step (fun K hK => ?_); go_simp; (first | (with_reducible refine hK _ ?_) | (with_reducible refine ⟨_, fun _ _ => rfl, hK _ ?_⟩)); clear hK K
            refine wpQuiet_step (fun K hK => ?_); go_simp; (first | (with_reducible refine hK _ ?_) | (with_reducible refine ⟨_, fun _ _ => rfl, hK _ ?_⟩)); clear hK K
            refine wpQuiet_step (fun K hK => ?_); refine q_bin _ _ _ _ _ rfl rfl rfl rfl (gti_is TG.out) ?_; go_simp; (with_reducible refine hK _ ?_); clear hK K
            refine wpQuiet_step (fun K hK => ?_); go_simp; (first | (with_reducible refine hK _ ?_) | (with_reducible refine ⟨_, fun _ _ => rfl, hK _ ?_⟩)); clear hK K
            refine wpQuiet_step (fun K hK => ?_); go_simp; (first | (with_reducible refine hK _ ?_) | (with_reducible refine ⟨_, fun _ _ => rfl, hK _ ?_⟩)); clear hK K
            refine wpQuiet_step (fun K hK => ?_); go_simp; (first | (with_reducible refine hK _ ?_) | (with_reducible refine ⟨_, fun _ _ => rfl, hK _ ?_⟩)); clear hK K
            refine wpQuiet_step (fun K hK => ?_); go_simp; (first | (with_reducible refine hK _ ?_) | (with_reducible refine ⟨_, fun _ _ => rfl, hK _ ?_⟩)); clear hK K
            refine wpQuiet_step (fun K hK => ?_); refine q_load (p := .pointer (some ⟨b, n * 5, none⟩)) 24 _ rfl rfl rfl (load_elem HTV.out hul3 HT1.out) ?_; go_simp; (with_reducible refine hK _ ?_); clear hK K
            refine wpQuiet_step (fun K hK => ?_); go_simp; (first | (with_reducible refine hK _ ?_) | (with_reducible refine ⟨_, fun _ _ => rfl, hK _ ?_⟩)); clear hK K
            refine wpQuiet_step (fun K hK => ?_); go_simp; (first | (with_reducible refine hK _ ?_) | (with_reducible refine ⟨_, fun _ _ => rfl, hK _ ?_⟩)); clear hK K
            refine wpQuiet_step (fun K hK => ?_); go_simp; (first | (with_reducible refine hK _ ?_) | (with_reducible refine ⟨_, fun _ _ => rfl, hK _ ?_⟩)); clear hK K
            refine wpQuiet_step (fun K hK => ?_); refine q_bin _ _ _ _ _ rfl rfl rfl rfl (sub1 (m := m0) (by omega)) ?_; go_simp; (with_reducible refine hK _ ?_); clear hK K
            refine wpQuiet_step (fun K hK => ?_); go_simp; (first | (with_reducible refine hK _ ?_) | (with_reducible refine ⟨_, fun _ _ => rfl, hK _ ?_⟩)); clear hK K
            refine wpQuiet_step (fun K hK => ?_); go_simp; (with_reducible refine ⟨_, fun _ hb => (HG2.out _ ((HBY.out.below hb).take _)).mono fun _ _ h => ⟨h.1, hb.trans (h.2.mono (by simpa using hb.size))⟩, hK _ ?_⟩); clear hK K
            refine wpQuiet_step (fun K hK => ?_); go_simp; (first | (with_reducible refine hK _ ?_) | (with_reducible refine ⟨_, fun _ _ => rfl, hK _ ?_⟩)); clear hK K
            refine wpQuiet_step (fun K hK => ?_); go_simp; (first | (with_reducible refine hK _ ?_) | (with_reducible refine ⟨_, fun _ _ => rfl, hK _ ?_⟩)); clear hK K
            refine wpQuiet_step (fun K hK => ?_); go_simp; (first | (with_reducible refine hK _ ?_) | (with_reducible refine ⟨_, fun _ _ => rfl, hK _ ?_⟩)); clear hK K
            refine wpQuiet_nil ?_
            intro v3 hbel3
            have hb3 := HB1.out.trans (hbel3.mono HB1.out.size)
            have HB3 := Lib.hid hb3; clear hb3 hbel3 HB1 HTV HBY
            go_wp2_with fail
            go_loopw [9] (fun i wr => ∃ (m : Nat), m ≤ us.length ∧ i = .int .i64 m ∧ Below w2.heap.size w2 wr) (fun i _ => us.length - (intOf i).toNat)
            case atStart => exact ⟨0, by omega, rfl, HB3.out⟩
            case round =>
              obtain ⟨m, hm, rfl, hb⟩ := hrel
              by_cases hmt : m < us.length
              · obtain ⟨u, hu⟩ : ∃ u, us[m]? = some u := ⟨_, List.getElem?_eq_getElem hmt⟩
                have hq : (n * 7 + m * 3) % us.length < us.length := Nat.mod_lt _ hul3
                have hqe : (((n * 7 : Nat) : Int) + ((m * 3 : Nat) : Int)) % (us.length : Int) = (((n * 7 + m * 3) % us.length : Nat) : Int) := by rw [← Int.natCast_add]; exact (Int.natCast_emod _ _).symm
                obtain ⟨q, hqd⟩ : ∃ q, q = (n * 7 + m * 3) % us.length := ⟨_, rfl⟩
                rw [← hqd] at hq hqe
                obtain ⟨v, hv⟩ : ∃ v, us[q]? = some v := ⟨_, List.getElem?_eq_getElem hq⟩
                have hTV := HT.out.below hb
                have HTV := Lib.hid hTV; have HU := Lib.hid hu; have HV := Lib.hid hv; have HQE := Lib.hid hqe; have HB4 := Lib.hid hb; clear hTV hu hv hqe hqd hb
                go_wp2_with fail
                refine wp_region_below (by kernel_rfl) (by kernel_rfl) ?_
                refine wpQuiet_step (fun K hK => ?_); go_simp; (first | (with_reducible refine hK _ ?_) | (with_reducible refine ⟨_, fun _ _ => rfl, hK _ ?_⟩)); clear hK K
                refine wpQuiet_step (fun K hK => ?_); go_simp; (first | (with_reducible refine hK _ ?_) | (with_reducible refine ⟨_, fun _ _ => rfl, hK _ ?_⟩)); clear hK K
                refine wpQuiet_step (fun K hK => ?_); go_simp; (first | (with_reducible refine hK _ ?_) | (with_reducible refine ⟨_, fun _ _ => rfl, hK _ ?_⟩)); clear hK K
                refine wpQuiet_step (fun K hK => ?_); refine q_load (p := .pointer (some ⟨b, n * 5, none⟩)) 24 _ rfl rfl rfl (load_elem HTV.out hul3 HT1.out) ?_; go_simp; (with_reducible refine hK _ ?_); clear hK K
                refine wpQuiet_step (fun K hK => ?_); go_simp; (first | (with_reducible refine hK _ ?_) | (with_reducible refine ⟨_, fun _ _ => rfl, hK _ ?_⟩)); clear hK K
                refine wpQuiet_step (fun K hK => ?_); go_simp; (first | (with_reducible refine hK _ ?_) | (with_reducible refine ⟨_, fun _ _ => rfl, hK _ ?_⟩)); clear hK K
                refine wpQuiet_step (fun K hK => ?_); go_simp; (first | (with_reducible refine hK _ ?_) | (with_reducible refine ⟨_, fun _ _ => rfl, hK _ ?_⟩)); clear hK K
                refine wpQuiet_step (fun K hK => ?_); refine q_load (p := .pointer (some ⟨b, m * 5, none⟩)) 24 _ rfl rfl rfl (load_elem HTV.out hul3 HU.out) ?_; go_simp; (with_reducible refine hK _ ?_); clear hK K
                refine wpQuiet_step (fun K hK => ?_); go_simp; (with_reducible refine ⟨_, fun _ hb => (stampTwo.walk t u _).mono fun _ _ h => ⟨h.1, hb.trans (h.2.mono (by simpa using hb.size))⟩, hK _ ?_⟩); clear hK K
                refine wpQuiet_step (fun K hK => ?_); go_simp; (first | (with_reducible refine hK _ ?_) | (with_reducible refine ⟨_, fun _ _ => rfl, hK _ ?_⟩)); clear hK K
                refine wpQuiet_step (fun K hK => ?_); go_simp; (first | (with_reducible refine hK _ ?_) | (with_reducible refine ⟨_, fun _ _ => rfl, hK _ ?_⟩)); clear hK K
                refine wpQuiet_step (fun K hK => ?_); go_simp; (first | (with_reducible refine hK _ ?_) | (with_reducible refine ⟨_, fun _ _ => rfl, hK _ ?_⟩)); clear hK K
                refine wpQuiet_step (fun K hK => ?_); go_simp; (first | (with_reducible refine hK _ ?_) | (with_reducible refine ⟨_, fun _ _ => rfl, hK _ ?_⟩)); clear hK K
                refine wpQuiet_step (fun K hK => ?_); go_simp; (first | (with_reducible refine hK _ ?_) | (with_reducible refine ⟨_, fun _ _ => rfl, hK _ ?_⟩)); clear hK K
                refine wpQuiet_step (fun K hK => ?_); refine q_load (p := .pointer (some ⟨b, n * 5, none⟩)) 24 _ rfl rfl rfl (load_elem HTV.out hul3 HT1.out) ?_; go_simp; (with_reducible refine hK _ ?_); clear hK K
                refine wpQuiet_step (fun K hK => ?_); go_simp; (first | (with_reducible refine hK _ ?_) | (with_reducible refine ⟨_, fun _ _ => rfl, hK _ ?_⟩)); clear hK K
                refine wpQuiet_step (fun K hK => ?_); go_simp; (first | (with_reducible refine hK _ ?_) | (with_reducible refine ⟨_, fun _ _ => rfl, hK _ ?_⟩)); clear hK K
                refine wpQuiet_step (fun K hK => ?_); go_simp; (first | (with_reducible refine hK _ ?_) | (with_reducible refine ⟨_, fun _ _ => rfl, hK _ ?_⟩)); clear hK K
                refine wpQuiet_step (fun K hK => ?_); refine q_load (p := .pointer (some ⟨b, m * 5, none⟩)) 24 _ rfl rfl rfl (load_elem HTV.out hul3 HU.out) ?_; go_simp; (with_reducible refine hK _ ?_); clear hK K
                refine wpQuiet_step (fun K hK => ?_); go_simp; (with_reducible refine ⟨_, fun _ hb => (stampLoops.walk t u _).mono fun _ _ h => ⟨h.1, hb.trans (h.2.mono (by simpa using hb.size))⟩, hK _ ?_⟩); clear hK K
                refine wpQuiet_step (fun K hK => ?_); go_simp; (first | (with_reducible refine hK _ ?_) | (with_reducible refine ⟨_, fun _ _ => rfl, hK _ ?_⟩)); clear hK K
                refine wpQuiet_step (fun K hK => ?_); go_simp; (first | (with_reducible refine hK _ ?_) | (with_reducible refine ⟨_, fun _ _ => rfl, hK _ ?_⟩)); clear hK K
                refine wpQuiet_step (fun K hK => ?_); go_simp; (first | (with_reducible refine hK _ ?_) | (with_reducible refine ⟨_, fun _ _ => rfl, hK _ ?_⟩)); clear hK K
                refine wpQuiet_step (fun K hK => ?_); go_simp; (first | (with_reducible refine hK _ ?_) | (with_reducible refine ⟨_, fun _ _ => rfl, hK _ ?_⟩)); clear hK K
                refine wpQuiet_step (fun K hK => ?_); go_simp; (first | (with_reducible refine hK _ ?_) | (with_reducible refine ⟨_, fun _ _ => rfl, hK _ ?_⟩)); clear hK K
                refine wpQuiet_step (fun K hK => ?_); go_simp; (first | (with_reducible refine hK _ ?_) | (with_reducible refine ⟨_, fun _ _ => rfl, hK _ ?_⟩)); clear hK K
                refine wpQuiet_step (fun K hK => ?_); refine q_load (p := .pointer (some ⟨b, n * 5, none⟩)) 24 _ rfl rfl rfl (load_elem HTV.out hul3 HT1.out) ?_; go_simp; (with_reducible refine hK _ ?_); clear hK K
                refine wpQuiet_step (fun K hK => ?_); go_simp; (first | (with_reducible refine hK _ ?_) | (with_reducible refine ⟨_, fun _ _ => rfl, hK _ ?_⟩)); clear hK K
                refine wpQuiet_step (fun K hK => ?_); go_simp; (first | (with_reducible refine hK _ ?_) | (with_reducible refine ⟨_, fun _ _ => rfl, hK _ ?_⟩)); clear hK K
                refine wpQuiet_step (fun K hK => ?_); go_simp; (first | (with_reducible refine hK _ ?_) | (with_reducible refine ⟨_, fun _ _ => rfl, hK _ ?_⟩)); clear hK K
                refine wpQuiet_step (fun K hK => ?_); refine q_load (p := .pointer (some ⟨b, m * 5, none⟩)) 24 _ rfl rfl rfl (load_elem HTV.out hul3 HU.out) ?_; go_simp; (with_reducible refine hK _ ?_); clear hK K
                refine wpQuiet_step (fun K hK => ?_); go_simp; (first | (with_reducible refine hK _ ?_) | (with_reducible refine ⟨_, fun _ _ => rfl, hK _ ?_⟩)); clear hK K
                refine wpQuiet_step (fun K hK => ?_); go_simp; (first | (with_reducible refine hK _ ?_) | (with_reducible refine ⟨_, fun _ _ => rfl, hK _ ?_⟩)); clear hK K
                refine wpQuiet_step (fun K hK => ?_); refine q_bin _ _ _ _ _ rfl rfl rfl rfl (mul7 (i := n) (by omega)) ?_; go_simp; (with_reducible refine hK _ ?_); clear hK K
                refine wpQuiet_step (fun K hK => ?_); go_simp; (first | (with_reducible refine hK _ ?_) | (with_reducible refine ⟨_, fun _ _ => rfl, hK _ ?_⟩)); clear hK K
                refine wpQuiet_step (fun K hK => ?_); refine q_bin _ _ _ _ _ rfl rfl rfl rfl (mul3 (i := m) (by omega)) ?_; go_simp; (with_reducible refine hK _ ?_); clear hK K
                refine wpQuiet_step (fun K hK => ?_); refine q_bin _ _ _ _ _ rfl rfl rfl rfl (add_nat (i := n * 7) (j := m * 3) (by omega)) ?_; go_simp; (with_reducible refine hK _ ?_); clear hK K
                refine wpQuiet_step (fun K hK => ?_); go_simp; (first | (with_reducible refine hK _ ?_) | (with_reducible refine ⟨_, fun _ _ => rfl, hK _ ?_⟩)); clear hK K
                refine wpQuiet_step (fun K hK => ?_); go_simp; (first | (with_reducible refine hK _ ?_) | (with_reducible refine ⟨_, fun _ _ => rfl, hK _ ?_⟩)); clear hK K
                refine wpQuiet_step (fun K hK => ?_); refine q_bin _ _ _ _ _ rfl rfl rfl rfl (rem_nat (i := n * 7) (j := m * 3) HQE.out hul3 (by omega) (by omega)) ?_; go_simp; (with_reducible refine hK _ ?_); clear hK K
                refine wpQuiet_step (fun K hK => ?_); go_simp; (first | (with_reducible refine hK _ ?_) | (with_reducible refine ⟨_, fun _ _ => rfl, hK _ ?_⟩)); clear hK K
                refine wpQuiet_step (fun K hK => ?_); refine q_load (p := .pointer (some ⟨b, q * 5, none⟩)) 24 _ rfl rfl rfl (load_elem HTV.out hul3 HV.out) ?_; go_simp; (with_reducible refine hK _ ?_); clear hK K
                refine wpQuiet_step (fun K hK => ?_); go_simp; (with_reducible refine ⟨_, fun _ hb => (stampOrder.walk t u v _).mono fun _ _ h => ⟨h.1, hb.trans (h.2.mono (by simpa using hb.size))⟩, hK _ ?_⟩); clear hK K
                refine wpQuiet_step (fun K hK => ?_); go_simp; (first | (with_reducible refine hK _ ?_) | (with_reducible refine ⟨_, fun _ _ => rfl, hK _ ?_⟩)); clear hK K
                refine wpQuiet_step (fun K hK => ?_); go_simp; (first | (with_reducible refine hK _ ?_) | (with_reducible refine ⟨_, fun _ _ => rfl, hK _ ?_⟩)); clear hK K
                refine wpQuiet_nil ?_
                intro v4 hbel4
                have hb5 := HB4.out.trans (hbel4.mono HB4.out.size)
                have HB5 := Lib.hid hb5; clear hb5 hbel4
                go_wp2_with fail
                go_roundw
                case rel => exact ⟨m + 1, by omega, by go_num, HB5.out⟩
                case measure => simp [intOf]; omega
              · obtain rfl : m = us.length := by omega
                have HB6 := Lib.hid hb; clear hb
                go_wp2_with fail
                go_roundw
                case rel => exact ⟨n + 1, by omega, by go_num, HB6.out⟩
                case measure => simp [intOf]; omega
          · obtain rfl : ys = [] := by cases ys with
              | nil => rfl
              | cons a l => exact absurd (by simp) hy
            have hg1 := fun w (hB : Bytes w A2 []) => stampGet.walk t [] A2 c2 w hB hl2 hm2 hn2
            rw [show ([] : List Nat).length = 0 from rfl] at hg1 ⊢
            have tg : decide ((0 : Int) > 0) = false := by decide
            have HG1 := Lib.hid hg1; clear hg1 tg hy hl2 hn2 hm2
            go_wp2_with fail
            refine wp_region_below (by kernel_rfl) (by kernel_rfl) ?_
            refine wpQuiet_step (fun K hK => ?_); go_simp; (first | (with_reducible refine hK _ ?_) | (with_reducible refine ⟨_, fun _ _ => rfl, hK _ ?_⟩)); clear hK K
            refine wpQuiet_step (fun K hK => ?_); go_simp; (first | (with_reducible refine hK _ ?_) | (with_reducible refine ⟨_, fun _ _ => rfl, hK _ ?_⟩)); clear hK K
            refine wpQuiet_step (fun K hK => ?_); go_simp; (first | (with_reducible refine hK _ ?_) | (with_reducible refine ⟨_, fun _ _ => rfl, hK _ ?_⟩)); clear hK K
            refine wpQuiet_step (fun K hK => ?_); refine q_load (p := .pointer (some ⟨b, n * 5, none⟩)) 24 _ rfl rfl rfl (load_elem HTV.out hul3 HT1.out) ?_; go_simp; (with_reducible refine hK _ ?_); clear hK K
            refine wpQuiet_step (fun K hK => ?_); go_simp; (with_reducible refine ⟨_, fun _ hb => (stampRight.walk t _).mono fun _ _ h => ⟨h.1, hb.trans (h.2.mono (by simpa using hb.size))⟩, hK _ ?_⟩); clear hK K
            refine wpQuiet_step (fun K hK => ?_); go_simp; (first | (with_reducible refine hK _ ?_) | (with_reducible refine ⟨_, fun _ _ => rfl, hK _ ?_⟩)); clear hK K
            refine wpQuiet_step (fun K hK => ?_); go_simp; (first | (with_reducible refine hK _ ?_) | (with_reducible refine ⟨_, fun _ _ => rfl, hK _ ?_⟩)); clear hK K
            refine wpQuiet_step (fun K hK => ?_); go_simp; (first | (with_reducible refine hK _ ?_) | (with_reducible refine ⟨_, fun _ _ => rfl, hK _ ?_⟩)); clear hK K
            refine wpQuiet_step (fun K hK => ?_); go_simp; (first | (with_reducible refine hK _ ?_) | (with_reducible refine ⟨_, fun _ _ => rfl, hK _ ?_⟩)); clear hK K
            refine wpQuiet_step (fun K hK => ?_); go_simp; (first | (with_reducible refine hK _ ?_) | (with_reducible refine ⟨_, fun _ _ => rfl, hK _ ?_⟩)); clear hK K
            refine wpQuiet_step (fun K hK => ?_); refine q_load (p := .pointer (some ⟨b, n * 5, none⟩)) 24 _ rfl rfl rfl (load_elem HTV.out hul3 HT1.out) ?_; go_simp; (with_reducible refine hK _ ?_); clear hK K
            refine wpQuiet_step (fun K hK => ?_); go_simp; (first | (with_reducible refine hK _ ?_) | (with_reducible refine ⟨_, fun _ _ => rfl, hK _ ?_⟩)); clear hK K
            refine wpQuiet_step (fun K hK => ?_); go_simp; (with_reducible refine ⟨_, fun _ hb => (HG1.out _ (HBY.out.below hb)).mono fun _ _ h => ⟨h.1, hb.trans (h.2.mono (by simpa using hb.size))⟩, hK _ ?_⟩); clear hK K
            refine wpQuiet_step (fun K hK => ?_); go_simp; (first | (with_reducible refine hK _ ?_) | (with_reducible refine ⟨_, fun _ _ => rfl, hK _ ?_⟩)); clear hK K
            refine wpQuiet_step (fun K hK => ?_); go_simp; (first | (with_reducible refine hK _ ?_) | (with_reducible refine ⟨_, fun _ _ => rfl, hK _ ?_⟩)); clear hK K
            refine wpQuiet_step (fun K hK => ?_); go_simp; (first | (with_reducible refine hK _ ?_) | (with_reducible refine ⟨_, fun _ _ => rfl, hK _ ?_⟩)); clear hK K
            refine wpQuiet_step (fun K hK => ?_); go_simp; (first | (with_reducible refine hK _ ?_) | (with_reducible refine ⟨_, fun _ _ => rfl, hK _ ?_⟩)); clear hK K
            refine wpQuiet_step (fun K hK => ?_); go_simp; (first | (with_reducible refine hK _ ?_) | (with_reducible refine ⟨_, fun _ _ => rfl, hK _ ?_⟩)); clear hK K
            refine wpQuiet_step (fun K hK => ?_); go_simp; (first | (with_reducible refine hK _ ?_) | (with_reducible refine ⟨_, fun _ _ => rfl, hK _ ?_⟩)); clear hK K
            refine wpQuiet_step (fun K hK => ?_); go_simp; (try (with_reducible refine ⟨_, fun _ _ => rfl, ?_⟩)); generalize hA : ({ tmps := _, defers := _ } : Act) = A; (with_reducible refine hK A ?_); clear hK K
            refine wpQuiet_step (fun K hK => ?_); subst hA; go_simp; (try (with_reducible refine ⟨_, fun _ _ => rfl, ?_⟩)); generalize hA : ({ tmps := _, defers := _ } : Act) = A; (with_reducible refine hK A ?_); clear hK K
            refine wpQuiet_step (fun K hK => ?_); subst hA; go_simp; (try (with_reducible refine ⟨_, fun _ _ => rfl, ?_⟩)); generalize hA : ({ tmps := _, defers := _ } : Act) = A; (with_reducible refine hK A ?_); clear hK K
            refine wpQuiet_step (fun K hK => ?_); subst hA; go_simp; (try (with_reducible refine ⟨_, fun _ _ => rfl, ?_⟩)); generalize hA : ({ tmps := _, defers := _ } : Act) = A; (with_reducible refine hK A ?_); clear hK K
            refine wpQuiet_step (fun K hK => ?_); subst hA; go_simp; (try (with_reducible refine ⟨_, fun _ _ => rfl, ?_⟩)); generalize hA : ({ tmps := _, defers := _ } : Act) = A; (with_reducible refine hK A ?_); clear hK K
            refine wpQuiet_step (fun K hK => ?_); subst hA; go_simp; (try (with_reducible refine ⟨_, fun _ _ => rfl, ?_⟩)); generalize hA : ({ tmps := _, defers := _ } : Act) = A; (with_reducible refine hK A ?_); clear hK K
            refine wpQuiet_step (fun K hK => ?_); subst hA; go_simp; (try (with_reducible refine ⟨_, fun _ _ => rfl, ?_⟩)); generalize hA : ({ tmps := _, defers := _ } : Act) = A; (with_reducible refine hK A ?_); clear hK K
            refine wpQuiet_step (fun K hK => ?_); subst hA; go_simp; (try (with_reducible refine ⟨_, fun _ _ => rfl, ?_⟩)); generalize hA : ({ tmps := _, defers := _ } : Act) = A; (with_reducible refine hK A ?_); clear hK K
            refine wpQuiet_step (fun K hK => ?_); subst hA; go_simp; (try (with_reducible refine ⟨_, fun _ _ => rfl, ?_⟩)); generalize hA : ({ tmps := _, defers := _ } : Act) = A; (with_reducible refine hK A ?_); clear hK K
            refine wpQuiet_step (fun K hK => ?_); subst hA; go_simp; (try (with_reducible refine ⟨_, fun _ _ => rfl, ?_⟩)); generalize hA : ({ tmps := _, defers := _ } : Act) = A; (with_reducible refine hK A ?_); clear hK K
            refine wpQuiet_step (fun K hK => ?_); subst hA; go_simp; (try (with_reducible refine ⟨_, fun _ _ => rfl, ?_⟩)); generalize hA : ({ tmps := _, defers := _ } : Act) = A; (with_reducible refine hK A ?_); clear hK K
            refine wpQuiet_step (fun K hK => ?_); subst hA; go_simp; (try (with_reducible refine ⟨_, fun _ _ => rfl, ?_⟩)); generalize hA : ({ tmps := _, defers := _ } : Act) = A; (with_reducible refine hK A ?_); clear hK K
            refine wpQuiet_step (fun K hK => ?_); subst hA; go_simp; (first | (with_reducible refine hK _ ?_) | (with_reducible refine ⟨_, fun _ _ => rfl, hK _ ?_⟩)); clear hK K
            refine wpQuiet_step (fun K hK => ?_); go_simp; (first | (with_reducible refine hK _ ?_) | (with_reducible refine ⟨_, fun _ _ => rfl, hK _ ?_⟩)); clear hK K
            refine wpQuiet_nil ?_
            intro v3 hbel3
            have hb3 := HB1.out.trans (hbel3.mono HB1.out.size)
            have HB3 := Lib.hid hb3; clear hb3 hbel3 HB1 HTV HBY
            go_wp2_with fail
            go_loopw [9] (fun i wr => ∃ (m : Nat), m ≤ us.length ∧ i = .int .i64 m ∧ Below w2.heap.size w2 wr) (fun i _ => us.length - (intOf i).toNat)
            case atStart => exact ⟨0, by omega, rfl, HB3.out⟩
            case round =>
              obtain ⟨m, hm, rfl, hb⟩ := hrel
              by_cases hmt : m < us.length
              · obtain ⟨u, hu⟩ : ∃ u, us[m]? = some u := ⟨_, List.getElem?_eq_getElem hmt⟩
                have hq : (n * 7 + m * 3) % us.length < us.length := Nat.mod_lt _ hul3
                have hqe : (((n * 7 : Nat) : Int) + ((m * 3 : Nat) : Int)) % (us.length : Int) = (((n * 7 + m * 3) % us.length : Nat) : Int) := by rw [← Int.natCast_add]; exact (Int.natCast_emod _ _).symm
                obtain ⟨q, hqd⟩ : ∃ q, q = (n * 7 + m * 3) % us.length := ⟨_, rfl⟩
                rw [← hqd] at hq hqe
                obtain ⟨v, hv⟩ : ∃ v, us[q]? = some v := ⟨_, List.getElem?_eq_getElem hq⟩
                have hTV := HT.out.below hb
                have HTV := Lib.hid hTV; have HU := Lib.hid hu; have HV := Lib.hid hv; have HQE := Lib.hid hqe; have HB4 := Lib.hid hb; clear hTV hu hv hqe hqd hb
                go_wp2_with fail
                refine wp_region_below (by kernel_rfl) (by kernel_rfl) ?_
                refine wpQuiet_step (fun K hK => ?_); go_simp; (first | (with_reducible refine hK _ ?_) | (with_reducible refine ⟨_, fun _ _ => rfl, hK _ ?_⟩)); clear hK K
                refine wpQuiet_step (fun K hK => ?_); go_simp; (first | (with_reducible refine hK _ ?_) | (with_reducible refine ⟨_, fun _ _ => rfl, hK _ ?_⟩)); clear hK K
                refine wpQuiet_step (fun K hK => ?_); go_simp; (first | (with_reducible refine hK _ ?_) | (with_reducible refine ⟨_, fun _ _ => rfl, hK _ ?_⟩)); clear hK K
                refine wpQuiet_step (fun K hK => ?_); refine q_load (p := .pointer (some ⟨b, n * 5, none⟩)) 24 _ rfl rfl rfl (load_elem HTV.out hul3 HT1.out) ?_; go_simp; (with_reducible refine hK _ ?_); clear hK K
                refine wpQuiet_step (fun K hK => ?_); go_simp; (first | (with_reducible refine hK _ ?_) | (with_reducible refine ⟨_, fun _ _ => rfl, hK _ ?_⟩)); clear hK K
                refine wpQuiet_step (fun K hK => ?_); go_simp; (first | (with_reducible refine hK _ ?_) | (with_reducible refine ⟨_, fun _ _ => rfl, hK _ ?_⟩)); clear hK K
                refine wpQuiet_step (fun K hK => ?_); go_simp; (first | (with_reducible refine hK _ ?_) | (with_reducible refine ⟨_, fun _ _ => rfl, hK _ ?_⟩)); clear hK K
                refine wpQuiet_step (fun K hK => ?_); refine q_load (p := .pointer (some ⟨b, m * 5, none⟩)) 24 _ rfl rfl rfl (load_elem HTV.out hul3 HU.out) ?_; go_simp; (with_reducible refine hK _ ?_); clear hK K
                refine wpQuiet_step (fun K hK => ?_); go_simp; (with_reducible refine ⟨_, fun _ hb => (stampTwo.walk t u _).mono fun _ _ h => ⟨h.1, hb.trans (h.2.mono (by simpa using hb.size))⟩, hK _ ?_⟩); clear hK K
                refine wpQuiet_step (fun K hK => ?_); go_simp; (first | (with_reducible refine hK _ ?_) | (with_reducible refine ⟨_, fun _ _ => rfl, hK _ ?_⟩)); clear hK K
                refine wpQuiet_step (fun K hK => ?_); go_simp; (first | (with_reducible refine hK _ ?_) | (with_reducible refine ⟨_, fun _ _ => rfl, hK _ ?_⟩)); clear hK K
                refine wpQuiet_step (fun K hK => ?_); go_simp; (first | (with_reducible refine hK _ ?_) | (with_reducible refine ⟨_, fun _ _ => rfl, hK _ ?_⟩)); clear hK K
                refine wpQuiet_step (fun K hK => ?_); go_simp; (first | (with_reducible refine hK _ ?_) | (with_reducible refine ⟨_, fun _ _ => rfl, hK _ ?_⟩)); clear hK K
                refine wpQuiet_step (fun K hK => ?_); go_simp; (first | (with_reducible refine hK _ ?_) | (with_reducible refine ⟨_, fun _ _ => rfl, hK _ ?_⟩)); clear hK K
                refine wpQuiet_step (fun K hK => ?_); refine q_load (p := .pointer (some ⟨b, n * 5, none⟩)) 24 _ rfl rfl rfl (load_elem HTV.out hul3 HT1.out) ?_; go_simp; (with_reducible refine hK _ ?_); clear hK K
                refine wpQuiet_step (fun K hK => ?_); go_simp; (first | (with_reducible refine hK _ ?_) | (with_reducible refine ⟨_, fun _ _ => rfl, hK _ ?_⟩)); clear hK K
                refine wpQuiet_step (fun K hK => ?_); go_simp; (first | (with_reducible refine hK _ ?_) | (with_reducible refine ⟨_, fun _ _ => rfl, hK _ ?_⟩)); clear hK K
                refine wpQuiet_step (fun K hK => ?_); go_simp; (first | (with_reducible refine hK _ ?_) | (with_reducible refine ⟨_, fun _ _ => rfl, hK _ ?_⟩)); clear hK K
                refine wpQuiet_step (fun K hK => ?_); refine q_load (p := .pointer (some ⟨b, m * 5, none⟩)) 24 _ rfl rfl rfl (load_elem HTV.out hul3 HU.out) ?_; go_simp; (with_reducible refine hK _ ?_); clear hK K
                refine wpQuiet_step (fun K hK => ?_); go_simp; (with_reducible refine ⟨_, fun _ hb => (stampLoops.walk t u _).mono fun _ _ h => ⟨h.1, hb.trans (h.2.mono (by simpa using hb.size))⟩, hK _ ?_⟩); clear hK K
                refine wpQuiet_step (fun K hK => ?_); go_simp; (first | (with_reducible refine hK _ ?_) | (with_reducible refine ⟨_, fun _ _ => rfl, hK _ ?_⟩)); clear hK K
                refine wpQuiet_step (fun K hK => ?_); go_simp; (first | (with_reducible refine hK _ ?_) | (with_reducible refine ⟨_, fun _ _ => rfl, hK _ ?_⟩)); clear hK K
                refine wpQuiet_step (fun K hK => ?_); go_simp; (first | (with_reducible refine hK _ ?_) | (with_reducible refine ⟨_, fun _ _ => rfl, hK _ ?_⟩)); clear hK K
                refine wpQuiet_step (fun K hK => ?_); go_simp; (first | (with_reducible refine hK _ ?_) | (with_reducible refine ⟨_, fun _ _ => rfl, hK _ ?_⟩)); clear hK K
                refine wpQuiet_step (fun K hK => ?_); go_simp; (first | (with_reducible refine hK _ ?_) | (with_reducible refine ⟨_, fun _ _ => rfl, hK _ ?_⟩)); clear hK K
                refine wpQuiet_step (fun K hK => ?_); go_simp; (first | (with_reducible refine hK _ ?_) | (with_reducible refine ⟨_, fun _ _ => rfl, hK _ ?_⟩)); clear hK K
                refine wpQuiet_step (fun K hK => ?_); refine q_load (p := .pointer (some ⟨b, n * 5, none⟩)) 24 _ rfl rfl rfl (load_elem HTV.out hul3 HT1.out) ?_; go_simp; (with_reducible refine hK _ ?_); clear hK K
                refine wpQuiet_step (fun K hK => ?_); go_simp; (first | (with_reducible refine hK _ ?_) | (with_reducible refine ⟨_, fun _ _ => rfl, hK _ ?_⟩)); clear hK K
                refine wpQuiet_step (fun K hK => ?_); go_simp; (first | (with_reducible refine hK _ ?_) | (with_reducible refine ⟨_, fun _ _ => rfl, hK _ ?_⟩)); clear hK K
                refine wpQuiet_step (fun K hK => ?_); go_simp; (first | (with_reducible refine hK _ ?_) | (with_reducible refine ⟨_, fun _ _ => rfl, hK _ ?_⟩)); clear hK K
                refine wpQuiet_step (fun K hK => ?_); refine q_load (p := .pointer (some ⟨b, m * 5, none⟩)) 24 _ rfl rfl rfl (load_elem HTV.out hul3 HU.out) ?_; go_simp; (with_reducible refine hK _ ?_); clear hK K
                refine wpQuiet_step (fun K hK => ?_); go_simp; (first | (with_reducible refine hK _ ?_) | (with_reducible refine ⟨_, fun _ _ => rfl, hK _ ?_⟩)); clear hK K
                refine wpQuiet_step (fun K hK => ?_); go_simp; (first | (with_reducible refine hK _ ?_) | (with_reducible refine ⟨_, fun _ _ => rfl, hK _ ?_⟩)); clear hK K
                refine wpQuiet_step (fun K hK => ?_); refine q_bin _ _ _ _ _ rfl rfl rfl rfl (mul7 (i := n) (by omega)) ?_; go_simp; (with_reducible refine hK _ ?_); clear hK K
                refine wpQuiet_step (fun K hK => ?_); go_simp; (first | (with_reducible refine hK _ ?_) | (with_reducible refine ⟨_, fun _ _ => rfl, hK _ ?_⟩)); clear hK K
                refine wpQuiet_step (fun K hK => ?_); refine q_bin _ _ _ _ _ rfl rfl rfl rfl (mul3 (i := m) (by omega)) ?_; go_simp; (with_reducible refine hK _ ?_); clear hK K
                refine wpQuiet_step (fun K hK => ?_); refine q_bin _ _ _ _ _ rfl rfl rfl rfl (add_nat (i := n * 7) (j := m * 3) (by omega)) ?_; go_simp; (with_reducible refine hK _ ?_); clear hK K
                refine wpQuiet_step (fun K hK => ?_); go_simp; (first | (with_reducible refine hK _ ?_) | (with_reducible refine ⟨_, fun _ _ => rfl, hK _ ?_⟩)); clear hK K
                refine wpQuiet_step (fun K hK => ?_); go_simp; (first | (with_reducible refine hK _ ?_) | (with_reducible refine ⟨_, fun _ _ => rfl, hK _ ?_⟩)); clear hK K
                refine wpQuiet_step (fun K hK => ?_); refine q_bin _ _ _ _ _ rfl rfl rfl rfl (rem_nat (i := n * 7) (j := m * 3) HQE.out hul3 (by omega) (by omega)) ?_; go_simp; (with_reducible refine hK _ ?_); clear hK K
                refine wpQuiet_step (fun K hK => ?_); go_simp; (first | (with_reducible refine hK _ ?_) | (with_reducible refine ⟨_, fun _ _ => rfl, hK _ ?_⟩)); clear hK K
                refine wpQuiet_step (fun K hK => ?_); refine q_load (p := .pointer (some ⟨b, q * 5, none⟩)) 24 _ rfl rfl rfl (load_elem HTV.out hul3 HV.out) ?_; go_simp; (with_reducible refine hK _ ?_); clear hK K
                refine wpQuiet_step (fun K hK => ?_); go_simp; (with_reducible refine ⟨_, fun _ hb => (stampOrder.walk t u v _).mono fun _ _ h => ⟨h.1, hb.trans (h.2.mono (by simpa using hb.size))⟩, hK _ ?_⟩); clear hK K
                refine wpQuiet_step (fun K hK => ?_); go_simp; (first | (with_reducible refine hK _ ?_) | (with_reducible refine ⟨_, fun _ _ => rfl, hK _ ?_⟩)); clear hK K
                refine wpQuiet_step (fun K hK => ?_); go_simp; (first | (with_reducible refine hK _ ?_) | (with_reducible refine ⟨_, fun _ _ => rfl, hK _ ?_⟩)); clear hK K
                refine wpQuiet_nil ?_
                intro v4 hbel4
                have hb5 := HB4.out.trans (hbel4.mono HB4.out.size)
                have HB5 := Lib.hid hb5; clear hb5 hbel4
                go_wp2_with fail
                go_roundw
                case rel => exact ⟨m + 1, by omega, by go_num, HB5.out⟩
                case measure => simp [intOf]; omega
              · obtain rfl : m = us.length := by omega
                have HB6 := Lib.hid hb; clear hb
                go_wp2_with fail
                go_roundw
                case rel => exact ⟨n + 1, by omega, by go_num, HB6.out⟩
                case measure => simp [intOf]; omega
        · obtain rfl : n = us.length := by omega
          have hbw : Below w.heap.size w wr := HBW.out.trans (hb.mono HBW.out.size)
          have HB7 := Lib.hid hbw; clear hbw hb
          have Q1 := Lib.hid (stampGet.walk St.zero [1, 255, 255, 0] (some ⟨wr.heap.size, 0, none⟩) 4 _ (Bytes.made (xs := [1, 255, 255, 0]) wr 5 (0, 0) (by decide)) (by decide) (by unfold maxLen; omega) (by simp))
          go_wp2_with fail
          refine (Q1.out).mono ?_; rintro e x1 ⟨rfl, hbel⟩
          have hb8 := (HB7.out.alloc HB7.out.size (.cells #[.int .u8 1, .int .u8 255, .int .u8 255, .int .u8 0] 5)).trans (hbel.mono (HB7.out.alloc HB7.out.size _).size)
          have HB8 := Lib.hid hb8; clear hb8 hbel Q1
          have Q2 := Lib.hid (stampGet.walk St.zero [4, 0, 0, 0, 0, 0, 0] (some ⟨x1.heap.size, 0, none⟩) 7 _ (Bytes.made (xs := [4, 0, 0, 0, 0, 0, 0]) x1 5 (0, 0) (by decide)) (by decide) (by unfold maxLen; omega) (by simp))
          go_wp2_with fail
          refine (Q2.out).mono ?_; rintro e x2 ⟨rfl, hbel⟩
          have hb9 := (HB8.out.alloc HB8.out.size (.cells #[.int .u8 4, .int .u8 0, .int .u8 0, .int .u8 0, .int .u8 0, .int .u8 0, .int .u8 0] 5)).trans (hbel.mono (HB8.out.alloc HB8.out.size _).size)
          have HB9 := Lib.hid hb9; clear hb9 hbel Q2
          have Q3 := Lib.hid (stampGet.walk St.zero [2, 0, 0, 16, 0] (some ⟨x2.heap.size, 0, none⟩) 5 _ (Bytes.made (xs := [2, 0, 0, 16, 0]) x2 5 (0, 0) (by decide)) (by decide) (by unfold maxLen; omega) (by simp))
          go_wp2_with fail
          refine (Q3.out).mono ?_; rintro e x3 ⟨rfl, hbel⟩
          have hb10 := (HB9.out.alloc HB9.out.size (.cells #[.int .u8 2, .int .u8 0, .int .u8 0, .int .u8 16, .int .u8 0] 5)).trans (hbel.mono (HB9.out.alloc HB9.out.size _).size)
          have HB10 := Lib.hid hb10; clear hb10 hbel Q3
          go_wp2_with fail
          refine (works_any x3).mono ?_; rintro e x4 ⟨rfl, hbel⟩
          have hb11 := HB10.out.trans (hbel.mono HB10.out.size)
          have HB11 := Lib.hid hb11; clear hb11 hbel
          go_wp2_with fail
          go_ret
          exact ⟨rfl, HB11.out⟩

set_option maxRecDepth 100000 in
theorem lifted (os : Os) (started : os.Started) (H : Type) (enc : TypeId × Value → H) :
    ReturnsInHanded {} Try.checked os 10 .any (Rows.stampKnownSpec.pre6 enc Try.prog Try.f10 Rows.stampKnownRow.domain false) (Rows.stampKnownSpec.post enc Try.prog Try.f10 false true false false) := by
  refine returnsInHanded_of_change_sized (C := Try.checked) ownKnob_none started (by kernel_rfl) Try.func10
    (ChangeSpec.witness6 (enc := enc) (C := Try.checked) false ⟨#[], #[], []⟩ 8 (by kernel_rfl) (by kernel_rfl) (by kernel_rfl) (by kernel_rfl)) ?_
  intro W base args ds gs before hval0 hW hcnd hsz0 _
  have hval : ∀ (j : Nat) t v, Try.f10.params[j]? = some t → args[j]? = some v → Value.okWide Try.prog W .any base t v := hval0
  have hW' := hW
  obtain ⟨p, q, hA0, hV, rfl, hfz, hnd⟩ := hW
  have hA : DataW.TrodAll enc Try.prog W 0 (fun _ => true) true Try.f10.params.toList args.toList ds p := hA0
  have hsz : (DataW.weightsEach Try.prog (Try.f10.params.toList ++ Rows.stampKnownSpec.plain.varTypes Try.prog) (ds ++ gs)).all (· ≤ reachBytes) = true := hsz0
  rw [Try.params10] at hA hval hsz
  obtain ⟨hargs, rfl, rfl⟩ := trodAll_nil hA
  obtain rfl : args = #[] := by cases args; simp_all
  obtain ⟨rfl, rfl⟩ := trodVars_none hV
  clear hA0 hval0 hsz0
  refine (walk W).mono fun e W' ⟨he, hg⟩ => ?_
  subst he
  exact ⟨_, rfl, law_post progLaid hW' rfl (by rw [Try.params10]; intro t ht; simp at ht) rfl Try.underlying4 rfl hg⟩

theorem over : Rows.stampKnownRow.holds Try.pinned (OpenSpec.ofChange Rows.stampKnownSpec) :=
  OpenClaim.holds_of_wide 10 Try.f10 rfl rfl rfl rfl rfl rfl rfl ⟨rfl, rfl, rfl, rfl, rfl⟩ rfl rfl rfl rfl rfl (by kernel_rfl) Try.func10 (by kernel_rfl)
    (of_decide_eq_true (by kernel_rfl)) (by unfold Func.isWrapper; first | (rw [if_pos (by decide +kernel)]; kernel_rfl) | (rw [if_neg (by decide +kernel)]; exact ⟨rfl, rfl⟩))
    (fun os started H enc _ => lifted os started H enc)

/-- The statement. -/
theorem proved : Rows.StampKnownSaid :=
  over
end stampKnown
end Go.Proofs.Ytpcnnnfgopilaaa
