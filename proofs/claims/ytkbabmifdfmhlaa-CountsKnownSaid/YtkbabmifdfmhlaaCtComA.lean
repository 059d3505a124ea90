/- CtOpen, CtWorks, CtCom -/
import Derived.Test.YtkbabmifdfmhlaaCtKeysA
import Derived.Test.YtkbabmifdfmhlaaFrSlc
import Derived.Test.YtkbabmifdfmhlaaCtSum
namespace Go.Proofs.Ytkbabmifdfmhlaa
set_option linter.unusedVariables false
section
open Go.ChangeShapes Go.WideShapes Go.ChangeAt Go.RowKit Go.BigFrame Go.Shelf
set_option maxRecDepth 100000
/-- six cells -/
def stepCells (p : St × Int) : List Value := [.int .i64 p.1.d, .int .i64 p.1.e, .int .i64 p.1.x, .int .i64 p.1.y, .int .i64 p.1.z, .int .i64 p.2]
def rowP (l : Cn) : List Value := (l.map stepCells).flatten
theorem rowP_cons (p : St × Int) (l : Cn) : rowP (p :: l) = .int .i64 p.1.d :: .int .i64 p.1.e :: .int .i64 p.1.x :: .int .i64 p.1.y :: .int .i64 p.1.z :: .int .i64 p.2 :: rowP l := by simp [rowP, stepCells]
theorem rowP_len (l : Cn) : (rowP l).length = l.length * 6 := by
  induction l with
  | nil => rfl
  | cons t l ih => rw [rowP_cons]; simp only [List.length_cons, ih]; omega
theorem rowP_at : ∀ (l : Cn) (i : Nat) (p : St × Int), l[i]? = some p → ∀ (j : Nat) (u : Value), (stepCells p)[j]? = some u → (rowP l)[i * 6 + j]? = some u
  | x :: l, 0, p, h, j, u, hu => by
    obtain rfl : x = p := by simpa using h
    rw [rowP_cons, Nat.zero_mul, Nat.zero_add]
    match j, hu with
    | 0, hu => exact hu
    | 1, hu => exact hu
    | 2, hu => exact hu
    | 3, hu => exact hu
    | 4, hu => exact hu
    | 5, hu => exact hu
    | j + 6, hu => simp [stepCells] at hu
  | x :: l, i + 1, p, h, j, u, hu => by
    have := rowP_at l i p (by simpa using h) j u hu
    rw [rowP_cons, show (i + 1) * 6 + j = i * 6 + j + 1 + 1 + 1 + 1 + 1 + 1 by omega]
    simp only [List.getElem?_cons_succ]
    exact this
/-- the slice at A holds the additions l -/
def Ps (w : World) (A : Option Addr) (l : Cn) : Prop :=
  0 < l.length → ∃ b o, A = some ⟨b, o, none⟩ ∧ b < w.heap.size ∧ ∀ (j : Nat) (u : Value), (rowP l)[j]? = some u → w.cell? ⟨b, o + j, none⟩ = some u
section
variable {w w' : World} {A : Option Addr} {l : Cn} {F : Nat → Prop}
theorem Ps.below {B : Nat} (h : Ps w A l) (hb : Below B w w') (hA : ∀ ad, A = some ad → ad.block < B) : Ps w' A l := fun hn => by
  obtain ⟨b, o, e, hlt, hc⟩ := h hn
  exact ⟨b, o, e, Nat.lt_of_lt_of_le hlt hb.size, fun j u hu => (hb.cell (p := ⟨b, o + j, none⟩) (by exact hA ⟨b, o, none⟩ e)).trans (hc j u hu)⟩
theorem Ps.kept (h : Ps w A l) (hb : Below w.heap.size w w') : Ps w' A l := fun hn => by
  obtain ⟨b, o, e, hlt, hc⟩ := h hn
  exact ⟨b, o, e, Nat.lt_of_lt_of_le hlt hb.size, fun j u hu => (hb.cell (p := ⟨b, o + j, none⟩) hlt).trans (hc j u hu)⟩
/-- the cells of one, in each later world -/
theorem Ps.six (h : Ps w A l) {i : Nat} {p : St × Int} (hi : l[i]? = some p) : ∃ b o, A = some ⟨b, o, none⟩ ∧ b < w.heap.size ∧
    ∀ w', Below w.heap.size w w' → w'.cell? ⟨b, o + i * 6, none⟩ = some (.int .i64 p.1.d) ∧ w'.cell? ⟨b, o + i * 6 + 1, none⟩ = some (.int .i64 p.1.e) ∧ w'.cell? ⟨b, o + i * 6 + 2, none⟩ = some (.int .i64 p.1.x) ∧ w'.cell? ⟨b, o + i * 6 + 3, none⟩ = some (.int .i64 p.1.y) ∧ w'.cell? ⟨b, o + i * 6 + 4, none⟩ = some (.int .i64 p.1.z) ∧ w'.cell? ⟨b, o + i * 6 + 5, none⟩ = some (.int .i64 p.2) := by
  obtain ⟨hl, _⟩ := List.getElem?_eq_some_iff.1 hi
  obtain ⟨b, o, e, hlt, hc⟩ := h (by omega)
  refine ⟨b, o, e, hlt, fun w' hb => ?_⟩
  have key : ∀ j v, (stepCells p)[j]? = some v → w'.cell? ⟨b, o + i * 6 + j, none⟩ = some v := fun j v hj => by
    rw [hb.cell (p := ⟨b, o + i * 6 + j, none⟩) hlt, Nat.add_assoc]
    exact hc _ v (rowP_at l i p hi j v hj)
  exact ⟨key 0 _ rfl, key 1 _ rfl, key 2 _ rfl, key 3 _ rfl, key 4 _ rfl, key 5 _ rfl⟩
/-- the time of one -/
theorem Ps.loadT (h : Ps w A l) {i : Nat} {p : St × Int} (hi : l[i]? = some p) : ∃ b o, A = some ⟨b, o, none⟩ ∧ b < w.heap.size ∧
    (∀ w', Below w.heap.size w w' → (Instr.loadAt 25 (.pointer (some ⟨b, o + i * 6, none⟩))).run Try.prog w' = .ok (.agg #[.int .i64 p.1.d, .int .i64 p.1.e, .int .i64 p.1.x, .int .i64 p.1.y, .int .i64 p.1.z]) w') ∧
    ∀ w', Below w.heap.size w w' → (Instr.loadAt 2 (.pointer (some ⟨b, o + i * 6 + 5, none⟩))).run Try.prog w' = .ok (.int .i64 p.2) w' := by
  obtain ⟨b, o, e, hlt, h6⟩ := h.six hi
  refine ⟨b, o, e, hlt, fun w' hb => ?_, fun w' hb => ?_⟩
  · obtain ⟨c0, c1, c2, c3, c4, c5⟩ := h6 w' hb
    refine run_load_st _ _ _ _ fun j v hj => ?_
    match j, hj with
    | 0, hj => rw [Nat.add_zero]; exact c0.trans hj
    | 1, hj => exact c1.trans hj
    | 2, hj => exact c2.trans hj
    | 3, hj => exact c3.trans hj
    | 4, hj => exact c4.trans hj
    | j + 5, hj => simp [St.cells] at hj
  · obtain ⟨c0, c1, c2, c3, c4, c5⟩ := h6 w' hb
    go_simp
end
theorem cells_step : Try.prog.cellsOf 36 = 6 := by kernel_rfl
theorem stamp_cellsW {H : Type} {enc : TypeId × Value → H} {W : World} {n : Nat} {cs : List Value} {x : DataW H × List MemPlace} (hl : cs.length = 5) (h : DataW.trod enc Try.prog W 0 (fun _ => true) true n 25 cs = some x) : ∃ t : St, cs = t.cells ∧ t.W := by
  match cs, hl with
  | [c0, c1, c2, c3, c4], _ =>
    obtain ⟨xs, n', _, hx, _, hlen, hg⟩ := DataW.trod_struct Try.underlying25 h
    match xs, hlen with
    | [y0, y1, y2], _ =>
      have h0 : DataW.trod enc Try.prog W 0 (fun _ => true) true n' 3 [c0] = some y0 := hg 0 _ rfl
      have h1 : DataW.trod enc Try.prog W 0 (fun _ => true) true n' 3 [c1] = some y1 := hg 1 _ rfl
      have h2 : DataW.trod enc Try.prog W 0 (fun _ => true) true n' 23 [c2, c3, c4] = some y2 := hg 2 _ rfl
      obtain ⟨z0, z1, z2, m, -, k0, k1, k2⟩ := trod_array3 Try.underlying23 cells_int h2
      obtain ⟨n0, e0, -, f0⟩ := DataW.trod_int Try.underlying3 h0
      obtain ⟨n1, e1, -, f1⟩ := DataW.trod_int Try.underlying3 h1
      obtain ⟨n2, e2, -, f2⟩ := DataW.trod_int Try.underlying3 k0
      obtain ⟨n3, e3, -, f3⟩ := DataW.trod_int Try.underlying3 k1
      obtain ⟨n4, e4, -, f4⟩ := DataW.trod_int Try.underlying3 k2
      cases e0; cases e1; cases e2; cases e3; cases e4
      exact ⟨⟨n0, n1, n2, n3, n4⟩, rfl, f0, f1, f2, f3, f4⟩
theorem step_cells {H : Type} {enc : TypeId × Value → H} {W : World} {n : Nat} {cs : List Value} {x : DataW H × List MemPlace} (hl : cs.length = 6) (h : DataW.trod enc Try.prog W 0 (fun _ => true) true n 36 cs = some x) : ∃ p : St × Int, cs = stepCells p ∧ p.1.W ∧ Fits p.2 := by
  match cs, hl with
  | [c0, c1, c2, c3, c4, c5], _ =>
    obtain ⟨xs, n', _, hx, _, hlen, hg⟩ := DataW.trod_struct Try.underlying36 h
    match xs, hlen with
    | [y0, y1], _ =>
      have h0 : DataW.trod enc Try.prog W 0 (fun _ => true) true n' 25 [c0, c1, c2, c3, c4] = some y0 := hg 0 _ rfl
      have h1 : DataW.trod enc Try.prog W 0 (fun _ => true) true n' 2 [c5] = some y1 := hg 1 _ rfl
      obtain ⟨t, e, hW⟩ := stamp_cellsW rfl h0
      obtain ⟨n5, e5, -, f5⟩ := DataW.trod_int Try.underlying2 h1
      cases e5
      unfold St.cells at e
      injection e with e0 e; injection e with e1 e; injection e with e2 e; injection e with e3 e; injection e with e4 e
      subst e0 e1 e2 e3 e4
      exact ⟨(t, n5), rfl, hW, f5⟩
theorem open_steps {H : Type} {enc : TypeId × Value → H} {W : World} {base : Nat} {v : Value} {d : DataW H} {p : List MemPlace} (hok : Value.okWide Try.prog W .any base 22 v)
    (h : DataW.Trod enc Try.prog W 0 (fun _ => true) true 22 v d p) :
    ∃ (A : Option Addr) (l : Cn) (c : Nat), v = .slice A l.length c ∧ Ps W A l ∧ (∀ p ∈ l, p.1.W ∧ Fits p.2) ∧ l.length ≤ c ∧ c ≤ maxLen := by
  obtain ⟨A0, len, cap, rfl⟩ := okWide_slice Try.underlying22 hok
  obtain ⟨fuel, hf⟩ := h
  rcases Go.Deep.open_slice Try.underlying22 hf with ⟨hcs, _⟩ | ⟨a, len', cap', m, n, D, Pl, hcs, _, hl, hm, hmm, hx, hi⟩
  · simp [Value.cells] at hcs
    obtain ⟨rfl, rfl, rfl⟩ := hcs
    exact ⟨none, [], 0, rfl, fun h => absurd h (by simp), by simp, by simp, by simp⟩
  · simp [Value.cells] at hcs
    obtain ⟨rfl, rfl, rfl⟩ := hcs
    simp only [if_true] at hmm
    subst hmm
    rw [cells_step] at hi
    have key : ∀ i, i < len → ∃ x : St × Int, (∀ j u, (stepCells x)[j]? = some u → W.cell? ((a.add (i * 6)).add j) = some u) ∧ x.1.W ∧ Fits x.2 := by
      intro i hlt
      obtain ⟨cs', hc, ht⟩ := hi i (by omega)
      obtain ⟨_, hcl, hat⟩ := World.cells?_some hc
      obtain ⟨t, rfl, hW⟩ := step_cells hcl ht
      refine ⟨t, fun j u hu => ?_, hW⟩
      have hj : j < 6 := (List.getElem?_eq_some_iff.1 hu).1
      rw [hat j hj]; exact hu
    let f : Nat → St × Int := fun i => if h : i < len then Classical.choose (key i h) else (St.zero, 0)
    have hf' : ∀ i (h : i < len), f i = Classical.choose (key i h) := fun i h => by simp only [f]; rw [dif_pos h]
    have hspec := fun i (h : i < len) => (by rw [hf' i h]; exact Classical.choose_spec (key i h) : (∀ j u, (stepCells (f i))[j]? = some u → W.cell? ((a.add (i * 6)).add j) = some u) ∧ (f i).1.W ∧ Fits (f i).2)
    refine ⟨some a, (List.range len).map f, m, by simp, fun hn => ?_, fun p hp => ?_, by simp; omega, hm⟩
    · have hlen : 0 < len := by simpa using hn
      have h0 := (hspec 0 hlen).1 0 _ rfl
      have hlt := cell_lt h0
      rw [add_block, add_block] at hlt
      obtain ⟨b, off, rfl⟩ : ∃ b off, a = ⟨b, off, none⟩ := by
        obtain ⟨b, off, e⟩ := plain_addr h0
        obtain ⟨b', off', spot⟩ := a
        simp [Addr.add] at e
        exact ⟨b', off', by rw [e.2.2]⟩
      refine ⟨b, off, rfl, hlt, fun j u hu => ?_⟩
      have hj : j < len * 6 := by
        have := (List.getElem?_eq_some_iff.1 hu).1
        rw [rowP_len] at this; simpa using this
      have hil : j / 6 < len := by omega
      have hti : ((List.range len).map f)[j / 6]? = some (f (j / 6)) := by rw [List.getElem?_map, List.getElem?_range hil]; rfl
      obtain ⟨u', hu'⟩ : ∃ u', (stepCells (f (j / 6)))[j % 6]? = some u' := ⟨_, List.getElem?_eq_getElem (by show j % 6 < 6; omega)⟩
      have h1 := rowP_at _ (j / 6) _ hti (j % 6) u' hu'
      rw [show j / 6 * 6 + j % 6 = j by omega, hu] at h1
      cases h1
      have h2 := (hspec (j / 6) hil).1 (j % 6) u hu'
      rw [add_at, add_at, Nat.add_assoc, show j / 6 * 6 + j % 6 = j by omega] at h2
      exact h2
    · obtain ⟨i, hi1, rfl⟩ := List.mem_map.1 hp
      exact (hspec i (List.mem_range.1 hi1)).2
/-- a time that came in -/
theorem open_stampW {H : Type} {enc : TypeId × Value → H} {W : World} {base : Nat} {v : Value} {d : DataW H} {p : List MemPlace}
    (hok : Value.okWide Try.prog W .any base 25 v) (h : DataW.Trod enc Try.prog W 0 (fun _ => true) true 25 v d p) : ∃ t : St, v = t.val ∧ t.W := by
  obtain ⟨cs, rfl, hsz⟩ := okWide_struct Try.underlying25 hok
  obtain ⟨l⟩ := cs
  obtain ⟨fuel, hf⟩ := h
  obtain ⟨t, e, hW⟩ := stamp_cellsW (hsz.trans cells_stamp) hf
  refine ⟨t, ?_, hW⟩
  have : l = t.cells := e
  rw [this]
theorem ownS_at {w : World} {base n k : Nat} {v : Value} {xs : List Value} (h : w.ownsRow base 25 5 v n xs) (hv : v.ownBlock = some k) : ∃ cur, w.heap[k]? = some (.cells cur 25 (0, 0)) := by
  obtain ⟨_, ⟨rfl, _⟩ | ⟨g, cap, cur, rfl, _, hh, _⟩⟩ := h
  · cases hv
  · cases hv; exact ⟨cur, hh⟩
section
variable {w w' : World} {base B b N n : Nat} {m : Option Nat} {d : Int} {L : Cn} {v : Value} {xs : List Value}
/-- a row of times of the call's own is none of the counts' blocks -/
theorem Ct.apart (h : Ct w base b m N d L) (ho : w.ownsRow B 25 5 v n xs) : ∀ k, v.ownBlock = some k → ¬ AtC b m k := by
  intro k hk ha
  obtain ⟨cur, hh⟩ := ownS_at ho hk
  rcases ha with rfl | e
  · have hr := h.row
    unfold Row at hr
    rw [hh] at hr
    injection hr with hr; injection hr with _ hr
    exact absurd hr (by decide)
  · rcases h.of with ⟨e0, _⟩ | ⟨j, e1, hj⟩
    · rw [e0] at e; cases e
    · rw [e1] at e; cases e
      obtain ⟨es, c, hm⟩ := hj.isMap
      rw [hh] at hm; cases hm
theorem Ct.own (h : Ct w base b m N d L) (ho : w.ownsRow B 25 5 v n xs) (ht : Touch (AtC b m) w w') : w'.ownsRow B 25 5 v n xs := ownsRow_touch ho ht (h.apart ho)
end
/-- one time alone -/
theorem own_one {w : World} {base : Nat} {v : Value} {t : St} (h : w.ownsRow base 25 5 v 1 (rowS [t])) : ∃ g c, v = .slice (some ⟨g, 0, none⟩) 1 c ∧ g < w.heap.size ∧ w.cell? ⟨g, 1, none⟩ = some (.int .i64 t.e) := by
  obtain ⟨g, c, rfl⟩ := ownsRow_succ (k := 0) h
  refine ⟨g, c, rfl, (h.lt g rfl).2, ?_⟩
  have := h.cells (g := g) rfl 1 (.int .i64 t.e) (by simp [rowS, St.cells])
  rwa [add_zero_off] at this
end

section
open Go.ChangeShapes Go.WideShapes Go.ChangeAt Go.RowKit Go.BigFrame Go.Shelf
set_option maxRecDepth 100000
def tZ (e : Int) : St := ⟨0, e, 0, 0, 0⟩
theorem tZ_R {a : Int} (h1 : 0 ≤ a) (h2 : a < 1000) : (tZ a).R := by
  exact ⟨⟨Int.le_refl _, by show (0 : Int) ≤ 3; omega⟩, ⟨h1, h2⟩, ⟨Int.le_refl _, by show (0 : Int) < 16; omega, fun _ => rfl⟩, ⟨Int.le_refl _, by show (0 : Int) < 16; omega, fun _ => rfl⟩, ⟨Int.le_refl _, by show (0 : Int) < 16; omega, fun _ => rfl⟩⟩
theorem ad1 : addC [] (tZ 3) 2 = [(tZ 3, 2)] := by decide +kernel
theorem ad2 : addC [(tZ 3, 2)] (tZ 5) 1 = [(tZ 3, 2), (tZ 5, 1)] := by decide +kernel
theorem ad3 : addC [(tZ 3, 2), (tZ 5, 1)] (tZ 3) (-2) = [(tZ 5, 1)] := by decide +kernel
theorem ad4 : addC [(tZ 5, 1)] (tZ 4) (-1) = [(tZ 4, -1), (tZ 5, 1)] := by decide +kernel
theorem fr_2 : frC [(tZ 3, 2), (tZ 5, 1)] = [tZ 3] := by decide +kernel
theorem fr_3 : frC [(tZ 5, 1)] = [tZ 5] := by decide +kernel
theorem fr_4 : frC [(tZ 4, -1), (tZ 5, 1)] = [tZ 5] := by decide +kernel
theorem cn_4 : cnt [(tZ 4, -1), (tZ 5, 1)] (tZ 4) = -1 := by decide +kernel
theorem nr_small {n : Int} (h1 : -1000000 ≤ n) (h2 : n ≤ 1000000) : Nr n := by unfold Nr; omega
section
variable {w0 w w' : World} {base b N : Nat} {m : Option Nat} {d : Int} {L : Cn}
/-- all that is written lies from base on -/
theorem Ct.out (h : Ct w base b m N d L) (hb : Below base w0 w) (ht : Touch (AtC b m) w w') : Below base w0 w' :=
  hb.trans (ht.below (fun i hi => by
    rcases hi with rfl | e
    · exact h.lo.1
    · exact h.lo.2 _ e.symm) (Nat.le_trans h.lo.1 (Nat.le_of_lt h.lt)))
theorem Ct.size (h : Ct w base b m N d L) : base ≤ w.heap.size := Nat.le_trans h.lo.1 (Nat.le_of_lt h.lt)
end
section
variable {K : Value → World → Prop} {a : Act} {o : Oper} {w : World}
theorem g_not {b : Bool} (t : TypeId) (x : Operand) (ho : o.op = .unOp .not t x) (hx : a.eval x = .bool b) (h : K (.bool (!b)) w) : Free.gets Try.prog K ((execOp a.eval o).run Try.prog w) := by
  unfold execOp; simp only [ho, hx]; go_simp; exact h
end
set_option maxHeartbeats 16000000 in
theorem works7_any (w : World) : Calls Try.prog 10 #[] w fun e w' => e = .returned (.bool true) ∧ Below w.heap.size w w' := by
  have HN := Lib.hid (new_yes 0 w (by omega) (by omega))
  go_enter Try.func10, Try.ntmps10
  go_wp2_with fail
  refine (HN.out).mono ?_; rintro e w1 ⟨rfl, hc1, hb1⟩
  obtain ⟨b, hbd⟩ : ∃ b, w.heap.size = b := ⟨_, rfl⟩
  rw [hbd] at hc1 hb1 ⊢
  have HBD := Lib.hid hbd; clear hbd HN
  have k := add_E hc1 (by unfold maxLen; omega) (tZ 3) (2) (tZ_R (by omega) (by omega)) rfl (nr_small (by omega) (by omega)) (nr_small (by decide +kernel) (by decide +kernel))
  rw [ad1] at k
  have K := Lib.hid k; have HC := Lib.hid (And.intro hc1 hb1); clear k hc1 hb1
  go_wp2_with fail
  refine (K.out).mono ?_; rintro e w2 ⟨rfl, m2, hc2, htc, hm2⟩
  have hb2 := HC.out.1.out HC.out.2 htc
  clear htc hm2 K HC
  have k := add_E hc2 (by unfold maxLen; omega) (tZ 5) (1) (tZ_R (by omega) (by omega)) rfl (nr_small (by omega) (by omega)) (nr_small (by decide +kernel) (by decide +kernel))
  rw [ad2] at k
  have K := Lib.hid k; have HC := Lib.hid (And.intro hc2 hb2); clear k hc2 hb2
  go_wp2_with fail
  refine (K.out).mono ?_; rintro e w3 ⟨rfl, m3, hc3, htc, hm3⟩
  have hb3 := HC.out.1.out HC.out.2 htc
  clear htc hm3 K HC
  have k := frontier_any hc3 (by simp)
  rw [fr_2] at k
  have K := Lib.hid k; have HC := Lib.hid (And.intro hc3 hb3); clear k hc3 hb3
  go_wp2_with fail
  refine (K.out).mono ?_; rintro e w4 ⟨⟨va, rfl, ha⟩, hb⟩
  have hc4 := HC.out.1.below hb
  have hb4 := HC.out.2.trans (hb.mono HC.out.1.size)
  clear hb K HC
  have k := times_any hc4 (by simp)
  have K := Lib.hid k; have HC := Lib.hid (And.intro hc4 hb4); clear k hc4 hb4
  have Ha := Lib.hid ha; clear ha
  go_wp2_with fail
  refine (K.out).mono ?_; rintro e w5 ⟨⟨vt, rfl, ht⟩, hb⟩
  have hc5 := HC.out.1.below hb
  have hb5 := HC.out.2.trans (hb.mono HC.out.1.size)
  have ha := own_kept Ha.out hb; clear Ha
  clear hb K HC
  have k := add_E hc5 (by unfold maxLen; omega) (tZ 3) (-2) (tZ_R (by omega) (by omega)) rfl (nr_small (by omega) (by omega)) (nr_small (by decide +kernel) (by decide +kernel))
  rw [ad3] at k
  have K := Lib.hid k; have HC := Lib.hid (And.intro hc5 hb5); clear k hc5 hb5
  have Ha := Lib.hid ha; clear ha
  have Ht := Lib.hid ht; clear ht
  go_wp2_with fail
  refine (K.out).mono ?_; rintro e w6 ⟨rfl, m6, hc6, htc, hm6⟩
  have hb6 := HC.out.1.out HC.out.2 htc
  have ha := HC.out.1.own Ha.out htc; clear Ha
  have ht := HC.out.1.own Ht.out htc; clear Ht
  clear htc hm6 K HC
  have k := frontier_any hc6 (by simp)
  rw [fr_3] at k
  have K := Lib.hid k; have HC := Lib.hid (And.intro hc6 hb6); clear k hc6 hb6
  have Ha := Lib.hid ha; clear ha
  have Ht := Lib.hid ht; clear ht
  go_wp2_with fail
  refine (K.out).mono ?_; rintro e w7 ⟨⟨vx, rfl, hx⟩, hb⟩
  have hc7 := HC.out.1.below hb
  have hb7 := HC.out.2.trans (hb.mono HC.out.1.size)
  have ha := own_kept Ha.out hb; clear Ha
  have ht := own_kept Ht.out hb; clear Ht
  clear hb K HC
  have k := add_E hc7 (by unfold maxLen; omega) (tZ 4) (-1) (tZ_R (by omega) (by omega)) rfl (nr_small (by omega) (by omega)) (nr_small (by decide +kernel) (by decide +kernel))
  rw [ad4] at k
  have K := Lib.hid k; have HC := Lib.hid (And.intro hc7 hb7); clear k hc7 hb7
  have Ha := Lib.hid ha; clear ha
  have Ht := Lib.hid ht; clear ht
  have Hx := Lib.hid hx; clear hx
  go_wp2_with fail
  refine (K.out).mono ?_; rintro e w8 ⟨rfl, m8, hc8, htc, hm8⟩
  have hb8 := HC.out.1.out HC.out.2 htc
  have ha := HC.out.1.own Ha.out htc; clear Ha
  have ht := HC.out.1.own Ht.out htc; clear Ht
  have hx := HC.out.1.own Hx.out htc; clear Hx
  clear htc hm8 K HC
  have k := frontier_any hc8 (by simp)
  rw [fr_4] at k
  have K := Lib.hid k; have HC := Lib.hid (And.intro hc8 hb8); clear k hc8 hb8
  have Ha := Lib.hid ha; clear ha
  have Ht := Lib.hid ht; clear ht
  have Hx := Lib.hid hx; clear hx
  go_wp2_with fail
  refine (K.out).mono ?_; rintro e w9 ⟨⟨vy, rfl, hy⟩, hb⟩
  have hc9 := HC.out.1.below hb
  have hb9 := HC.out.2.trans (hb.mono HC.out.1.size)
  have ha := own_kept Ha.out hb; clear Ha
  have ht := own_kept Ht.out hb; clear Ht
  have hx := own_kept Hx.out hb; clear Hx
  clear hb K HC
  have hcn : ∀ w', Below w9.heap.size w9 w' → Calls Try.prog 15 #[.pointer (some ⟨b, 0, none⟩), .agg #[.int .i64 0, .int .i64 4, .int .i64 0, .int .i64 0, .int .i64 0]] w' fun e w'' => e = .returned (.int .i64 (-1)) ∧ Below w'.heap.size w' w'' := fun w' hw => by
    have := count_any (hc9.below hw) (tZ 4) (tZ_R (a := 4) (by omega) (by omega)).w
    rw [cn_4] at this; exact this
  have htm : ∀ w', Below w9.heap.size w9 w' → Calls Try.prog 17 #[.pointer (some ⟨b, 0, none⟩)] w' fun e w'' => (∃ A c, e = .returned (.slice A 2 c)) ∧ Below w'.heap.size w' w'' := fun w' hw => by
    refine (times_any (hc9.below hw) (by simp)).mono fun e w2 ⟨⟨v, he, ho⟩, hb⟩ => ⟨?_, hb⟩
    obtain ⟨A, c, hv, _⟩ := Times.of_own ho
    exact ⟨A, c, by rw [he, hv]; rfl⟩
  have ha1 : ∀ w', Below w9.heap.size w9 w' → Calls Try.prog 13 #[.pointer (some ⟨b, 0, none⟩), .agg #[.int .i64 0, .int .i64 5, .int .i64 0, .int .i64 0, .int .i64 0], .int .i64 2199023255552] w' fun e w'' => e = .returned (.int .i64 3) ∧ Below w'.heap.size w' w'' := fun w' hw =>
    add_C (hc9.below hw) (tZ 5) 2199023255552 (tZ_R (by omega) (by omega)) rfl (by unfold Nr; omega)
  have ha2 : ∀ w', Below w9.heap.size w9 w' → Calls Try.prog 13 #[.pointer (some ⟨b, 0, none⟩), .agg #[.int .i64 1, .int .i64 1, .int .i64 0, .int .i64 0, .int .i64 0], .int .i64 1] w' fun e w'' => e = .returned (.int .i64 50) ∧ Below w'.heap.size w' w'' := fun w' hw =>
    add_B (hc9.below hw) (tS 1 0) 1 (tS_R (by omega) (by omega) (by omega) (by omega)) (by decide)
  obtain ⟨ga, ca, rfl, la, c_a⟩ := own_one ha
  obtain ⟨gx, cx, rfl, lx, c_x⟩ := own_one hx
  obtain ⟨gy, cy, rfl, ly, c_y⟩ := own_one hy
  obtain ⟨Ab, cb, rfl, _⟩ := Times.of_own ht
  have HLY := Lib.hid (And.intro ly c_y)
  have HCN := Lib.hid hcn; have HTM := Lib.hid htm; have HA1 := Lib.hid ha1; have HA2 := Lib.hid ha2; have HB := Lib.hid hb9
  clear hcn htm ha1 ha2 la lx ly c_y ha hx hy ht hc9 hb9
  simp only [timesC_len, List.length_cons, List.length_nil, Nat.zero_add, Nat.reduceAdd]
  go_wp2_with fail
  refine (HCN.out _ (Below.refl _ _)).mono ?_; rintro e u1 ⟨rfl, hu1⟩
  have hcy := (hu1.cell (p := ⟨gy, 1, none⟩) HLY.out.1).trans HLY.out.2
  have HU1 := Lib.hid hu1; clear hu1 c_a c_x
  go_wp2_with fail
  refine (HTM.out _ HU1.out).mono ?_; rintro e u2 ⟨⟨A9, c9, rfl⟩, hu2⟩
  have HU2 := Lib.hid (HU1.out.trans (hu2.mono HU1.out.size)); clear hu2 hcy
  go_wp2_with fail
  refine (HA1.out _ HU2.out).mono ?_; rintro e u3 ⟨rfl, hu3⟩
  have HU3 := Lib.hid (HU2.out.trans (hu3.mono HU2.out.size)); clear hu3
  go_wp2_with fail
  refine (HA2.out _ HU3.out).mono ?_; rintro e u4 ⟨rfl, hu4⟩
  have HU4 := Lib.hid (HU3.out.trans (hu4.mono HU3.out.size)); clear hu4
  go_wp2_with fail
  go_ret
  have hB := HB.out
  have hbd := HBD.out
  subst hbd
  exact ⟨rfl, hB.trans (HU4.out.mono hB.size)⟩
end

section
open Go.ChangeShapes Go.WideShapes Go.ChangeAt Go.RowKit Go.BigFrame Go.Shelf
set_option maxRecDepth 100000
theorem i64_wf {n : Int} (h : (Lit.int .i64 n).wf = true) : -9223372036854775808 ≤ n ∧ n ≤ 9223372036854775807 := by
  simpa [Lit.wf, IntKind.min, IntKind.max, IntKind.signed, IntKind.bits] using h
theorem MapC.len {w : World} {b N : Nat} {L : Cn} (h : MapC w b N L) : L.length ≤ N := by
  obtain ⟨⟨D, ⟨es, c, _, F, hs, hD⟩, hp⟩, _⟩ := h
  have hL : D = (es.toList.map (Go.WideElems.rg Try.prog 25 RI)).foldr DataW.insert [] := by injection hD
  have h1 := hp.length_eq
  have h2 := (sorted_perm (es.toList.map (Go.WideElems.rg Try.prog 25 RI))).length_eq
  rw [← hL] at h2
  simp at h1 h2
  omega
section
variable {w0 w w' : World} {base b b2 N n : Nat} {m m2 m2' : Option Nat} {d : Int} {L L2 : Cn} {t : St}
theorem Ct.len (h : Ct w base b m N d L) : L.length ≤ N := by
  rcases h.of with ⟨_, rfl⟩ | ⟨k, _, hk⟩
  · simp
  · exact hk.len
theorem Ct.below' {B : Nat} (h : Ct w base b m N d L) (hb : Below B w w') (hB : w.heap.size ≤ B) : Ct w' base b m N d L := h.below (hb.mono hB)
theorem mem_frC {x : St} (he : EvenC L d) (h : x ∈ frC L) : x.d = d ∧ x.R := by
  have h1 := (mem_ofS.1 h).1
  unfold posC at h1
  simp only [List.mem_map, List.mem_filter] at h1
  obtain ⟨p, ⟨hp, _⟩, rfl⟩ := h1
  exact ⟨(he p hp).2, (he p hp).1⟩
theorem frC_len (L : Cn) : (frC L).length ≤ L.length := by
  unfold frC
  refine Nat.le_trans (ofS_len _) ?_
  unfold posC
  rw [List.length_map]
  exact List.length_filter_le _ _
theorem putC_even (h : EvenC L d) : EvenC (putC d L t n) d := by
  unfold putC
  split
  · rename_i hk
    exact h.add hk.1.1 hk.1.2
  · exact h
/-- two counts that have no block in common -/
def Apart (b : Nat) (m : Option Nat) (b2 : Nat) (m2 : Option Nat) : Prop := b ≠ b2 ∧ ∀ k, m = some k → m2 ≠ some k
theorem Apart.symm (h : Apart b m b2 m2) : Apart b2 m2 b m := ⟨fun e => h.1 e.symm, fun k h1 h2 => h.2 k h2 h1⟩
theorem Ct.notmap (h : Ct w base b m N d L) (h2 : Ct w base b2 m2 n d L2) : m2 ≠ some b := fun e => by
  rcases h2.of with ⟨e0, _⟩ | ⟨k, e1, hk⟩
  · rw [e0] at e; cases e
  · rw [e1] at e; cases e
    obtain ⟨es, c, hh⟩ := hk.isMap
    have hr := h.row
    unfold Row at hr
    rw [hh] at hr; cases hr
/-- the one stays while the other one is added to -/
theorem Ct.other (h : Ct w base b m N d L) (h2 : Ct w base b2 m2 n d L2) (ha : Apart b m b2 m2) (ht : Touch (AtC b2 m2) w w') : Ct w' base b m N d L := by
  refine h.touch ht ?_ ?_
  · rintro (e | e)
    · exact ha.1 e
    · exact h.notmap h2 e.symm
  · rintro k hk (e | e)
    · rw [e] at hk; exact h2.notmap h hk
    · exact ha.2 k hk e.symm
theorem Apart.add (ha : Apart b m b2 m2) (h : Ct w base b m N d L) (hm : m2' = m2 ∨ ∃ k, m2' = some k ∧ w.heap.size ≤ k) : Apart b m b2 m2' := by
  refine ⟨ha.1, fun k hk e => ?_⟩
  rcases hm with e' | ⟨j, e', hj⟩
  · rw [e'] at e; exact ha.2 k hk e
  · rw [e'] at e; cases e
    have := h.mlt hk
    omega
/-- another cell block is none of the counts' -/
theorem Ct.off {g : Nat} {T : TypeId} {r : List Value} (h : Ct w base b m N d L) (hr : Row w g T r) (hT : T ≠ 57) : ¬ AtC b m g := by
  rintro (e | e)
  · exact hr.apart h.row hT e
  · rcases h.of with ⟨e0, _⟩ | ⟨k, e1, hk⟩
    · rw [e0] at e; cases e
    · rw [e1] at e; cases e
      obtain ⟨es, c, hh⟩ := hk.isMap
      unfold Row at hr
      rw [hh] at hr; cases hr
theorem put_all {l : Cn} {p : St × Int} (hl : l.length ≤ 200) (hb : ∀ p ∈ l, -999 ≤ p.2 ∧ p.2 ≤ 999) (hp : -999 ≤ p.2 ∧ p.2 ≤ 999) : putC d (allC d l) p.1 p.2 = allC d (l ++ [p]) ∧ errC d (allC d l) p.1 p.2 = if p.1.R ∧ p.1.d = d then 0 else 50 := by
  have h1 : Nr p.2 := nr_small (by omega) (by omega)
  have h2 : Nr (cnt (allC d l) p.1 + p.2) := by
    rw [cnt_all]
    have := sum_bound (d := d) (t := p.1) (b := 999) (by omega) hb
    exact nr_small (by omega) (by omega)
  rw [allC_snoc]
  constructor
  · unfold putC add1
    by_cases hv : p.1.R ∧ p.1.d = d
    · rw [if_pos (show OkC d (allC d l) p.1 p.2 from ⟨hv, h1, h2⟩), if_pos hv]
    · rw [if_neg (fun h : OkC d (allC d l) p.1 p.2 => hv h.1), if_neg hv]
  · by_cases hv : p.1.R ∧ p.1.d = d
    · simp [errC, hv, h1, h2]
    · have hv' : p.1.R → ¬ p.1.d = d := fun h1 h2 => hv ⟨h1, h2⟩
      simp only [errC]
      rw [if_neg hv, if_neg hv]
/-- what it tells -/
def errV (d : Int) (t : St) : Int := if t.R ∧ t.d = d then 0 else 50
/-- an addition that no limit meets -/
theorem step_all {l : Cn} (h : Ct w base b m N d (allC d l)) (hN : N < maxLen) (hl : l.length ≤ 200) (hb : ∀ p ∈ l, -999 ≤ p.2 ∧ p.2 ≤ 999) (t : St) (q : Int) (hq : -999 ≤ q ∧ q ≤ 999) :
    Calls Try.prog 13 #[.pointer (some ⟨b, 0, none⟩), t.val, .int .i64 q] w (Added w base b m (N + 1) d (allC d (l ++ [(t, q)])) (errV d t)) := by
  have h1 := add_any h hN t q
  obtain ⟨e1, e2⟩ := put_all (d := d) (p := (t, q)) hl hb hq
  dsimp only at e1 e2
  rw [e1, e2] at h1
  exact h1
end
end
end Go.Proofs.Ytkbabmifdfmhlaa
