/- GrGetMath, GrGet -/
import Derived.Test.YtocdganglokplaaDoorGrPut
import Derived.Deep.RegionHeld3
import Derived.Deep.RegionLaw
import Derived.Deep.AppendLies
import Derived.IntWalk
namespace Go.Proofs.YtocdganglokplaaDoor
set_option linter.unusedVariables false
section
open Go.ChangeShapes Go.WideShapes Go.ChangeAt Go.RowKit Go.BigFrame
theorem Bytes.ts {w : World} {A : Option Addr} {xs : List Nat} (h : Bytes w A xs) : Rw.Ts kindB w A xs := fun hn => by
  obtain ⟨ad, rfl, hlt, hc⟩ := h.2 hn
  obtain ⟨x, hx⟩ : ∃ x, xs[0]? = some x := ⟨_, List.getElem?_eq_getElem hn⟩
  obtain ⟨b, o, e⟩ := plain_addr (hc 0 x hx)
  obtain rfl : ad = ⟨b, o, none⟩ := by
    obtain ⟨b', o', s'⟩ := ad
    simp [Addr.add] at e
    rw [e.1, e.2.1, e.2.2]
  refine ⟨b, o, rfl, hlt, fun j u hu => ?_⟩
  refine row_read (κ := kindB) (f := fun j => w.cell? ⟨b, o + j, none⟩) (fun i t ht j u hu => ?_) j u hu
  obtain ⟨hj, e⟩ := List.getElem?_eq_some_iff.1 hu
  simp only [kindB, List.length_singleton] at hj
  have hj0 : j = 0 := by omega
  subst hj0
  simp only [kindB, List.getElem_cons_zero] at e
  subst e
  have := hc i t ht
  rw [add_at] at this
  simpa [kindB] using this
theorem bytes_at {w : World} {A : Option Addr} {l : List Nat} (h : Rw.Ts kindB w A l) {i : Nat} {z : Nat} (hi : l[i]? = some z) : ∃ b o, A = some ⟨b, o, none⟩ ∧ b < w.heap.size ∧ ∀ w', Below w.heap.size w w' → w'.cell? ⟨b, o + i, none⟩ = some (.int .u8 (z : Nat)) := by
  obtain ⟨b, o, e, hlt, hc⟩ := h.at_ hi
  refine ⟨b, o, e, hlt, fun w' hb => ?_⟩
  have := hc w' hb 0 _ rfl
  simp only [kindB, Nat.mul_one, Nat.add_zero] at this
  exact this
theorem drop_cons {xs : List Nat} {i x : Nat} (h : xs[i]? = some x) : xs.drop i = x :: xs.drop (i + 1) := by
  obtain ⟨hl, e⟩ := List.getElem?_eq_some_iff.1 h
  rw [List.drop_eq_getElem_cons hl, e]
/-- the number of a row of bytes, the highest first -/
def accU : Nat → List Nat → Nat
  | a, [] => a
  | a, x :: l => accU (a * 256 + x) l
theorem accU_snoc : ∀ (l : List Nat) (a x : Nat), accU a (l ++ [x]) = accU a l * 256 + x
  | [], a, x => rfl
  | y :: l, a, x => accU_snoc l _ x
theorem accU_lt : ∀ (l : List Nat) (a : Nat), (∀ x ∈ l, x < 256) → accU a l < (a + 1) * 256 ^ l.length
  | [], a, _ => by simp [accU]
  | x :: l, a, h => by
    have hx := h x List.mem_cons_self
    have := accU_lt l (a * 256 + x) fun y hy => h y (List.mem_cons_of_mem _ hy)
    simp only [accU, List.length_cons, Nat.pow_succ]
    have h2 : a * 256 + x + 1 ≤ (a + 1) * 256 := by omega
    calc accU (a * 256 + x) l < (a * 256 + x + 1) * 256 ^ l.length := this
      _ ≤ (a + 1) * 256 * 256 ^ l.length := Nat.mul_le_mul_right _ h2
      _ = (a + 1) * (256 ^ l.length * 256) := by rw [Nat.mul_assoc, Nat.mul_comm 256]
theorem accU_take {xs : List Nat} {t j y : Nat} (hy : xs[t + j]? = some y) : accU 0 ((xs.drop t).take (j + 1)) = accU 0 ((xs.drop t).take j) * 256 + y := by
  rw [List.take_add_one, List.getElem?_drop, hy]
  exact accU_snoc _ _ _
theorem accU_small {xs : List Nat} (hx : ∀ x ∈ xs, x < 256) (t j : Nat) (hj : j < 8) : accU 0 ((xs.drop t).take j) < 72057594037927936 := by
  have h := accU_lt ((xs.drop t).take j) 0 fun x h => hx x (List.mem_of_mem_drop (List.mem_of_mem_take h))
  have hle : ((xs.drop t).take j).length ≤ 7 := by have := List.length_take_le j (xs.drop t); omega
  have : 256 ^ ((xs.drop t).take j).length ≤ 256 ^ 7 := Nat.pow_le_pow_right (by decide) hle
  have e : 256 ^ 7 = 72057594037927936 := by decide
  omega
theorem sg64_wrap {X : Nat} (h : X < 18446744073709551616) : IntKind.i64.wrap (X : Int) = sg64 X := by
  unfold sg64
  have e1 : (2 : Int) ^ (64 - 1) = 9223372036854775808 := by decide
  have e2 : (2 : Int) ^ 64 = 18446744073709551616 := by decide
  simp only [IntKind.wrap, IntKind.signed, IntKind.bits, Bool.true_and, decide_eq_true_eq, e1, e2]
  split <;> split <;> omega
theorem getN_at {xs : List Nat} {t n : Nat} (h : t + 12 ≤ xs.length) (hn : xs[t + 11]? = some n) (h2 : t + 12 + n ≤ xs.length) {k a d : Nat} (hk : xs[t]? = some k) (ha : xs[t + 1]? = some a) (hd : xs[t + 10]? = some d) :
    getN (xs.drop t) = some (⟨k, a, sg64 (accU 0 ((xs.drop (t + 2)).take 8)), d, ((xs.drop (t + 12)).take n).map Int.ofNat⟩, xs.drop (t + 12 + n)) := by
  have g : ∀ i, t + i < xs.length → ∃ x, xs[t + i]? = some x := fun i hi => ⟨_, List.getElem?_eq_getElem hi⟩
  obtain ⟨b0, e0⟩ := g 2 (by omega)
  obtain ⟨b1, e1⟩ := g 3 (by omega)
  obtain ⟨b2, e2⟩ := g 4 (by omega)
  obtain ⟨b3, e3⟩ := g 5 (by omega)
  obtain ⟨b4, e4⟩ := g 6 (by omega)
  obtain ⟨b5, e5⟩ := g 7 (by omega)
  obtain ⟨b6, e6⟩ := g 8 (by omega)
  obtain ⟨b7, e7⟩ := g 9 (by omega)
  have e2' : xs.drop (t + 2) = b0 :: b1 :: b2 :: b3 :: b4 :: b5 :: b6 :: b7 :: xs.drop (t + 10) := by
    rw [drop_cons e0, drop_cons e1, drop_cons e2, drop_cons e3, drop_cons e4, drop_cons e5, drop_cons e6, drop_cons e7]
  have e := drop_cons hk
  rw [drop_cons ha, e2', drop_cons hd, drop_cons hn] at e
  rw [e, e2', getN_cons, if_pos (by rw [List.length_drop]; omega), List.drop_drop]
  simp only [List.take_succ_cons, List.take_zero, accU, of8]
  simp only [Nat.zero_mul, Nat.zero_add]
theorem getN_no1 {xs : List Nat} {t : Nat} (h : ¬ t + 12 ≤ xs.length) : getN (xs.drop t) = none := by
  unfold getN
  split
  · rename_i e
    have := congrArg List.length e
    simp only [List.length_drop, List.length_cons] at this
    omega
  · rfl
theorem getN_no2 {xs : List Nat} {t n : Nat} (h : t + 12 ≤ xs.length) (hn : xs[t + 11]? = some n) (h2 : ¬ t + 12 + n ≤ xs.length) : getN (xs.drop t) = none := by
  unfold getN
  split
  · rename_i k a c0 c1 c2 c3 c4 c5 c6 c7 d m r e
    have h11 : (xs.drop t)[11]? = some n := by rw [List.getElem?_drop]; exact hn
    rw [e] at h11
    simp only [List.getElem?_cons_succ, List.getElem?_cons_zero, Option.some.injEq] at h11
    subst h11
    have := congrArg List.length e
    simp only [List.length_drop, List.length_cons] at this
    rw [if_neg (by omega)]
  · rfl
/-- how far it has come: d are the nodes that were read, t is where the next one begins -/
def GetAt (xs : List Nat) (m k t : Nat) (d : List Nd) : Prop := getNs m (xs.drop 1) = match getNs (m - k) (xs.drop t) with | some (g, s) => some (d ++ g, s) | none => none
theorem GetAt.start (xs : List Nat) (m : Nat) : GetAt xs m 0 1 [] := by
  unfold GetAt
  rw [Nat.sub_zero]
  cases getNs m (xs.drop 1) with
  | none => rfl
  | some p => rfl
theorem GetAt.step {xs : List Nat} {m k t t' : Nat} {d : List Nd} {n : Nd} (h : GetAt xs m k t d) (hk : k < m) (hn : getN (xs.drop t) = some (n, xs.drop t')) : GetAt xs m (k + 1) t' (d ++ [n]) := by
  unfold GetAt at h ⊢
  rw [h, show m - k = (m - (k + 1)) + 1 by omega]
  conv => lhs; unfold getNs
  rw [hn]
  simp only
  cases getNs (m - (k + 1)) (xs.drop t') with
  | none => rfl
  | some p => simp
theorem GetAt.stop {xs : List Nat} {m k t : Nat} {d : List Nd} (h : GetAt xs m k t d) (hk : k < m) (hn : getN (xs.drop t) = none) : getNs m (xs.drop 1) = none := by
  unfold GetAt at h
  rw [h, show m - k = (m - (k + 1)) + 1 by omega]
  conv => lhs; unfold getNs
  rw [hn]
theorem GetAt.end_ {xs : List Nat} {m t : Nat} {d : List Nd} (h : GetAt xs m m t d) : getNs m (xs.drop 1) = some (d, xs.drop t) := by
  unfold GetAt at h
  rw [h, Nat.sub_self]
  simp [getNs]
/-- what Get answers: the graph, and the error -/
noncomputable def getR (xs : List Nat) : Option (List Nd) := match getG xs with | some g => if mayB g = true then some g else none | none => none
noncomputable def getO (xs : List Nat) : List Nd := (getR xs).getD []
noncomputable def getE (xs : List Nat) : Int := if (getR xs).isSome then 0 else 90
theorem getG_of {xs : List Nat} {m : Nat} (hm : xs[0]? = some m) : getG xs = match getNs m (xs.drop 1) with | some (g, []) => some g | _ => none := by
  cases xs with
  | nil => simp at hm
  | cons y ys =>
    simp only [List.getElem?_cons_zero, Option.some.injEq] at hm
    subst hm
    rfl
theorem getR_none {xs : List Nat} (h : getR xs = none) : 90 = getE xs ∧ getO xs = [] := by unfold getE getO; rw [h]; exact ⟨rfl, rfl⟩
theorem getR_some {xs : List Nat} {g : List Nd} (h : getR xs = some g) : 0 = getE xs ∧ getO xs = g := by unfold getE getO; rw [h]; exact ⟨rfl, rfl⟩
theorem getR_empty : getR [] = none := rfl
theorem getR_stop {xs : List Nat} {m : Nat} (hm : xs[0]? = some m) (h : getNs m (xs.drop 1) = none) : getR xs = none := by unfold getR; rw [getG_of hm, h]
theorem getR_long {xs : List Nat} {m t : Nat} {d : List Nd} (hm : xs[0]? = some m) (h : getNs m (xs.drop 1) = some (d, xs.drop t)) (ht : t ≠ xs.length) (hl : t ≤ xs.length) : getR xs = none := by
  unfold getR
  rw [getG_of hm, h]
  obtain ⟨x, hx⟩ : ∃ x, xs[t]? = some x := ⟨_, List.getElem?_eq_getElem (by omega)⟩
  rw [drop_cons hx]
theorem getR_may {xs : List Nat} {m t : Nat} {d : List Nd} (hm : xs[0]? = some m) (h : getNs m (xs.drop 1) = some (d, xs.drop t)) (ht : t = xs.length) : getR xs = if mayB d = true then some d else none := by
  unfold getR
  rw [getG_of hm, h, ht, List.drop_length]
end

section
open Go.ChangeShapes Go.WideShapes Go.ChangeAt Go.RowKit Go.BigFrame
set_option maxRecDepth 100000
theorem own_base {w : World} {base base' K n : Nat} {T : TypeId} {v : Value} {xs : List Value} (h : w.ownsRow base T K v n xs) (hb : base' ≤ base) : w.ownsRow base' T K v n xs := by
  obtain ⟨h1, h2 | ⟨g, cap, cur, e, hg, h3⟩⟩ := h
  · exact ⟨h1, .inl h2⟩
  · exact ⟨h1, .inr ⟨g, cap, cur, e, by omega, h3⟩⟩
/-- in a round: the node's box at g, and its inputs, since the world wr -/
structure RoundS (wr W : World) (g : Nat) (cs : List Value) (iv : Value) (ins : List Int) : Prop where
  below : Below wr.heap.size wr W
  row : Row W g 39 cs
  hg : wr.heap.size ≤ g
  own : W.ownsRow wr.heap.size 3 kindI.K iv ins.length (Rw.row kindI ins)
section
variable {wr W : World} {g : Nat} {cs : List Value} {iv : Value} {ins : List Int}
theorem RoundS.set (h : RoundS wr W g cs iv ins) (j : Nat) (u : Value) : RoundS wr (W.setCell ⟨g, j, none⟩ u) g (cs.set j u) iv ins where
  below := h.below.setCell h.hg u
  row := h.row.put j u
  hg := h.hg
  own := h.own.kept (grown_set W g j u) (.inr fun e => Rw.own_apart h.own h.row (by decide) e.symm)
theorem RoundS.drew (h : RoundS wr W g cs iv ins) : RoundS wr W.drew g cs iv ins := ⟨h.below.drew, h.row, h.hg, h.own⟩
theorem RoundS.more {W' : World} {iv' : Value} {z : Int} (h : RoundS wr W g cs iv ins) (o : Obj) (hv : W'.ownsRow wr.heap.size 3 kindI.K iv' (ins.length + 1) (Rw.row kindI (ins ++ [z]))) (hg : (W.alloc o).drew.grownBy W' iv.ownBlock) : RoundS wr W' g cs iv' (ins ++ [z]) where
  below := Rw.own_below (h.own.alloc o).drew hg (h.below.alloc h.below.size o).drew (by have := h.below.size; simp; omega)
  row := ((h.row.alloc o).drew).grown hg (Rw.own_apart (h.own.alloc o).drew (h.row.alloc o).drew (by decide))
  hg := h.hg
  own := by rw [List.length_append]; exact hv
end
/-- what Get answers -/
def GetD (xs : List Nat) (w : World) (e : Ending) (w' : World) : Prop := (∃ v l', e = .returned (.tuple #[v, .int .i64 (getE xs)]) ∧ nds l' = getO xs ∧ OwnG w' w.heap.size v l') ∧ Below w.heap.size w w'
theorem GetD.no {xs : List Nat} {w w' : World} (h : getR xs = none) (hb : Below w.heap.size w w') : GetD xs w (.returned (.tuple #[.slice none 0 0, .int .i64 90])) w' :=
  ⟨⟨_, [], by rw [(getR_none h).1], by rw [(getR_none h).2]; rfl, OwnG.nil _ _⟩, hb⟩
theorem GetD.yes {xs : List Nat} {w w' : World} {v : Value} {l' : List Gn} (h : getR xs = some (nds l')) (ho : OwnG w' w.heap.size v l') (hb : Below w.heap.size w w') : GetD xs w (.returned (.tuple #[v, .int .i64 0])) w' :=
  ⟨⟨_, l', by rw [(getR_some h).1], by rw [(getR_some h).2], ho⟩, hb⟩
end
end Go.Proofs.YtocdganglokplaaDoor
