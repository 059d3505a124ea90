/- GrGetMath, GrGet, GrTo, ChkMath, ChkNum, OpSmall -/
import Derived.Test.YtcjdjdhjbchaaaaCa6
import Derived.Deep.RegionHeld3
import Derived.Deep.RegionLaw
import Derived.Deep.AppendLies
import Derived.IntWalk
import Derived.Test.YtcjdjdhjbchaaaaCa8
import Derived.Test.YtcjdjdhjbchaaaaCa3
namespace Go.Proofs.Ytcjdjdhjbchaaaa
set_option linter.unusedVariables false
section
open Go.ChangeShapes Go.WideShapes Go.ChangeAt Go.RowKit Go.BigFrame
theorem Bytes.ts {w : World} {A : Option Addr} {xs : List Nat} (h : Bytes w A xs) : Rw.Ts kindB w A xs := fun hn => by
  obtain ⟨ad, rfl, hlt, hc⟩ := h.2 hn
  obtain ⟨x, hx⟩ : ∃ x, xs[0]? = some x := ⟨_, List.getElem?_eq_getElem hn⟩
  obtain ⟨b, o, e⟩ := plain_addr (hc 0 x hx)
  obtain rfl : ad = ⟨b, o, none⟩ := by
    obtain ⟨b', o', s'⟩ := ad
    simp [Addr.add] at e
    rw [e.1, e.2.1, e.2.2]
  refine ⟨b, o, rfl, hlt, fun j u hu => ?_⟩
  refine row_read (κ := kindB) (f := fun j => w.cell? ⟨b, o + j, none⟩) (fun i t ht j u hu => ?_) j u hu
  obtain ⟨hj, e⟩ := List.getElem?_eq_some_iff.1 hu
  simp only [kindB, List.length_singleton] at hj
  have hj0 : j = 0 := by omega
  subst hj0
  simp only [kindB, List.getElem_cons_zero] at e
  subst e
  have := hc i t ht
  rw [add_at] at this
  simpa [kindB] using this
theorem bytes_at {w : World} {A : Option Addr} {l : List Nat} (h : Rw.Ts kindB w A l) {i : Nat} {z : Nat} (hi : l[i]? = some z) : ∃ b o, A = some ⟨b, o, none⟩ ∧ b < w.heap.size ∧ ∀ w', Below w.heap.size w w' → w'.cell? ⟨b, o + i, none⟩ = some (.int .u8 (z : Nat)) := by
  obtain ⟨b, o, e, hlt, hc⟩ := h.at_ hi
  refine ⟨b, o, e, hlt, fun w' hb => ?_⟩
  have := hc w' hb 0 _ rfl
  simp only [kindB, Nat.mul_one, Nat.add_zero] at this
  exact this
theorem drop_cons {xs : List Nat} {i x : Nat} (h : xs[i]? = some x) : xs.drop i = x :: xs.drop (i + 1) := by
  obtain ⟨hl, e⟩ := List.getElem?_eq_some_iff.1 h
  rw [List.drop_eq_getElem_cons hl, e]
/-- the number of a row of bytes, the highest first -/
def accU : Nat → List Nat → Nat
  | a, [] => a
  | a, x :: l => accU (a * 256 + x) l
theorem accU_snoc : ∀ (l : List Nat) (a x : Nat), accU a (l ++ [x]) = accU a l * 256 + x
  | [], a, x => rfl
  | y :: l, a, x => accU_snoc l _ x
theorem accU_lt : ∀ (l : List Nat) (a : Nat), (∀ x ∈ l, x < 256) → accU a l < (a + 1) * 256 ^ l.length
  | [], a, _ => by simp [accU]
  | x :: l, a, h => by
    have hx := h x List.mem_cons_self
    have := accU_lt l (a * 256 + x) fun y hy => h y (List.mem_cons_of_mem _ hy)
    simp only [accU, List.length_cons, Nat.pow_succ]
    have h2 : a * 256 + x + 1 ≤ (a + 1) * 256 := by omega
    calc accU (a * 256 + x) l < (a * 256 + x + 1) * 256 ^ l.length := this
      _ ≤ (a + 1) * 256 * 256 ^ l.length := Nat.mul_le_mul_right _ h2
      _ = (a + 1) * (256 ^ l.length * 256) := by rw [Nat.mul_assoc, Nat.mul_comm 256]
theorem accU_take {xs : List Nat} {t j y : Nat} (hy : xs[t + j]? = some y) : accU 0 ((xs.drop t).take (j + 1)) = accU 0 ((xs.drop t).take j) * 256 + y := by
  rw [List.take_add_one, List.getElem?_drop, hy]
  exact accU_snoc _ _ _
theorem accU_small {xs : List Nat} (hx : ∀ x ∈ xs, x < 256) (t j : Nat) (hj : j < 8) : accU 0 ((xs.drop t).take j) < 72057594037927936 := by
  have h := accU_lt ((xs.drop t).take j) 0 fun x h => hx x (List.mem_of_mem_drop (List.mem_of_mem_take h))
  have hle : ((xs.drop t).take j).length ≤ 7 := by have := List.length_take_le j (xs.drop t); omega
  have : 256 ^ ((xs.drop t).take j).length ≤ 256 ^ 7 := Nat.pow_le_pow_right (by decide) hle
  have e : 256 ^ 7 = 72057594037927936 := by decide
  omega
theorem sg64_wrap {X : Nat} (h : X < 18446744073709551616) : IntKind.i64.wrap (X : Int) = sg64 X := by
  unfold sg64
  have e1 : (2 : Int) ^ (64 - 1) = 9223372036854775808 := by decide
  have e2 : (2 : Int) ^ 64 = 18446744073709551616 := by decide
  simp only [IntKind.wrap, IntKind.signed, IntKind.bits, Bool.true_and, decide_eq_true_eq, e1, e2]
  split <;> split <;> omega
theorem getN_at {xs : List Nat} {t n : Nat} (h : t + 12 ≤ xs.length) (hn : xs[t + 11]? = some n) (h2 : t + 12 + n ≤ xs.length) {k a d : Nat} (hk : xs[t]? = some k) (ha : xs[t + 1]? = some a) (hd : xs[t + 10]? = some d) :
    getN (xs.drop t) = some (⟨k, a, sg64 (accU 0 ((xs.drop (t + 2)).take 8)), d, ((xs.drop (t + 12)).take n).map Int.ofNat⟩, xs.drop (t + 12 + n)) := by
  have g : ∀ i, t + i < xs.length → ∃ x, xs[t + i]? = some x := fun i hi => ⟨_, List.getElem?_eq_getElem hi⟩
  obtain ⟨b0, e0⟩ := g 2 (by omega)
  obtain ⟨b1, e1⟩ := g 3 (by omega)
  obtain ⟨b2, e2⟩ := g 4 (by omega)
  obtain ⟨b3, e3⟩ := g 5 (by omega)
  obtain ⟨b4, e4⟩ := g 6 (by omega)
  obtain ⟨b5, e5⟩ := g 7 (by omega)
  obtain ⟨b6, e6⟩ := g 8 (by omega)
  obtain ⟨b7, e7⟩ := g 9 (by omega)
  have e2' : xs.drop (t + 2) = b0 :: b1 :: b2 :: b3 :: b4 :: b5 :: b6 :: b7 :: xs.drop (t + 10) := by
    rw [drop_cons e0, drop_cons e1, drop_cons e2, drop_cons e3, drop_cons e4, drop_cons e5, drop_cons e6, drop_cons e7]
  have e := drop_cons hk
  rw [drop_cons ha, e2', drop_cons hd, drop_cons hn] at e
  rw [e, e2', getN_cons, if_pos (by rw [List.length_drop]; omega), List.drop_drop]
  simp only [List.take_succ_cons, List.take_zero, accU, of8]
  simp only [Nat.zero_mul, Nat.zero_add]
theorem getN_no1 {xs : List Nat} {t : Nat} (h : ¬ t + 12 ≤ xs.length) : getN (xs.drop t) = none := by
  unfold getN
  split
  · rename_i e
    have := congrArg List.length e
    simp only [List.length_drop, List.length_cons] at this
    omega
  · rfl
theorem getN_no2 {xs : List Nat} {t n : Nat} (h : t + 12 ≤ xs.length) (hn : xs[t + 11]? = some n) (h2 : ¬ t + 12 + n ≤ xs.length) : getN (xs.drop t) = none := by
  unfold getN
  split
  · rename_i k a c0 c1 c2 c3 c4 c5 c6 c7 d m r e
    have h11 : (xs.drop t)[11]? = some n := by rw [List.getElem?_drop]; exact hn
    rw [e] at h11
    simp only [List.getElem?_cons_succ, List.getElem?_cons_zero, Option.some.injEq] at h11
    subst h11
    have := congrArg List.length e
    simp only [List.length_drop, List.length_cons] at this
    rw [if_neg (by omega)]
  · rfl
/-- how far it has come: d are the nodes that were read, t is where the next one begins -/
def GetAt (xs : List Nat) (m k t : Nat) (d : List Nd) : Prop := getNs m (xs.drop 1) = match getNs (m - k) (xs.drop t) with | some (g, s) => some (d ++ g, s) | none => none
theorem GetAt.start (xs : List Nat) (m : Nat) : GetAt xs m 0 1 [] := by
  unfold GetAt
  rw [Nat.sub_zero]
  cases getNs m (xs.drop 1) with
  | none => rfl
  | some p => rfl
theorem GetAt.step {xs : List Nat} {m k t t' : Nat} {d : List Nd} {n : Nd} (h : GetAt xs m k t d) (hk : k < m) (hn : getN (xs.drop t) = some (n, xs.drop t')) : GetAt xs m (k + 1) t' (d ++ [n]) := by
  unfold GetAt at h ⊢
  rw [h, show m - k = (m - (k + 1)) + 1 by omega]
  conv => lhs; unfold getNs
  rw [hn]
  simp only
  cases getNs (m - (k + 1)) (xs.drop t') with
  | none => rfl
  | some p => simp
theorem GetAt.stop {xs : List Nat} {m k t : Nat} {d : List Nd} (h : GetAt xs m k t d) (hk : k < m) (hn : getN (xs.drop t) = none) : getNs m (xs.drop 1) = none := by
  unfold GetAt at h
  rw [h, show m - k = (m - (k + 1)) + 1 by omega]
  conv => lhs; unfold getNs
  rw [hn]
theorem GetAt.end_ {xs : List Nat} {m t : Nat} {d : List Nd} (h : GetAt xs m m t d) : getNs m (xs.drop 1) = some (d, xs.drop t) := by
  unfold GetAt at h
  rw [h, Nat.sub_self]
  simp [getNs]
/-- what Get answers: the graph, and the error -/
noncomputable def grGetR (xs : List Nat) : Option (List Nd) := match getG xs with | some g => if mayB g = true then some g else none | none => none
noncomputable def getO (xs : List Nat) : List Nd := (grGetR xs).getD []
noncomputable def getE (xs : List Nat) : Int := if (grGetR xs).isSome then 0 else 90
theorem getG_of {xs : List Nat} {m : Nat} (hm : xs[0]? = some m) : getG xs = match getNs m (xs.drop 1) with | some (g, []) => some g | _ => none := by
  cases xs with
  | nil => simp at hm
  | cons y ys =>
    simp only [List.getElem?_cons_zero, Option.some.injEq] at hm
    subst hm
    rfl
theorem getR_none {xs : List Nat} (h : grGetR xs = none) : 90 = getE xs ∧ getO xs = [] := by unfold getE getO; rw [h]; exact ⟨rfl, rfl⟩
theorem grGetR_some {xs : List Nat} {g : List Nd} (h : grGetR xs = some g) : 0 = getE xs ∧ getO xs = g := by unfold getE getO; rw [h]; exact ⟨rfl, rfl⟩
theorem getR_empty : grGetR [] = none := rfl
theorem getR_stop {xs : List Nat} {m : Nat} (hm : xs[0]? = some m) (h : getNs m (xs.drop 1) = none) : grGetR xs = none := by unfold grGetR; rw [getG_of hm, h]
theorem getR_long {xs : List Nat} {m t : Nat} {d : List Nd} (hm : xs[0]? = some m) (h : getNs m (xs.drop 1) = some (d, xs.drop t)) (ht : t ≠ xs.length) (hl : t ≤ xs.length) : grGetR xs = none := by
  unfold grGetR
  rw [getG_of hm, h]
  obtain ⟨x, hx⟩ : ∃ x, xs[t]? = some x := ⟨_, List.getElem?_eq_getElem (by omega)⟩
  rw [drop_cons hx]
theorem getR_may {xs : List Nat} {m t : Nat} {d : List Nd} (hm : xs[0]? = some m) (h : getNs m (xs.drop 1) = some (d, xs.drop t)) (ht : t = xs.length) : grGetR xs = if mayB d = true then some d else none := by
  unfold grGetR
  rw [getG_of hm, h, ht, List.drop_length]
end

section
open Go.ChangeShapes Go.WideShapes Go.ChangeAt Go.RowKit Go.BigFrame
set_option maxRecDepth 100000
theorem own_base {w : World} {base base' K n : Nat} {T : TypeId} {v : Value} {xs : List Value} (h : w.ownsRow base T K v n xs) (hb : base' ≤ base) : w.ownsRow base' T K v n xs := by
  obtain ⟨h1, h2 | ⟨g, cap, cur, e, hg, h3⟩⟩ := h
  · exact ⟨h1, .inl h2⟩
  · exact ⟨h1, .inr ⟨g, cap, cur, e, by omega, h3⟩⟩
/-- in a round: the node's box at g, and its inputs, since the world wr -/
structure RoundS (wr W : World) (g : Nat) (cs : List Value) (iv : Value) (ins : List Int) : Prop where
  below : Below wr.heap.size wr W
  row : Row W g 24 cs
  hg : wr.heap.size ≤ g
  own : W.ownsRow wr.heap.size 3 kindI.K iv ins.length (Rw.row kindI ins)
section
variable {wr W : World} {g : Nat} {cs : List Value} {iv : Value} {ins : List Int}
theorem RoundS.set (h : RoundS wr W g cs iv ins) (j : Nat) (u : Value) : RoundS wr (W.setCell ⟨g, j, none⟩ u) g (cs.set j u) iv ins where
  below := h.below.setCell h.hg u
  row := h.row.put j u
  hg := h.hg
  own := h.own.kept (grown_set W g j u) (.inr fun e => Rw.own_apart h.own h.row (by decide) e.symm)
theorem RoundS.drew (h : RoundS wr W g cs iv ins) : RoundS wr W.drew g cs iv ins := ⟨h.below.drew, h.row, h.hg, h.own⟩
theorem RoundS.more {W' : World} {iv' : Value} {z : Int} (h : RoundS wr W g cs iv ins) (o : Obj) (hv : W'.ownsRow wr.heap.size 3 kindI.K iv' (ins.length + 1) (Rw.row kindI (ins ++ [z]))) (hg : (W.alloc o).drew.grownBy W' iv.ownBlock) : RoundS wr W' g cs iv' (ins ++ [z]) where
  below := Rw.own_below (h.own.alloc o).drew hg (h.below.alloc h.below.size o).drew (by have := h.below.size; simp; omega)
  row := ((h.row.alloc o).drew).grown hg (Rw.own_apart (h.own.alloc o).drew (h.row.alloc o).drew (by decide))
  hg := h.hg
  own := by rw [List.length_append]; exact hv
end
/-- what Get answers -/
def GetD (xs : List Nat) (w : World) (e : Ending) (w' : World) : Prop := (∃ v l', e = .returned (.tuple #[v, .int .i64 (getE xs)]) ∧ nds l' = getO xs ∧ OwnG w' w.heap.size v l') ∧ Below w.heap.size w w'
theorem GetD.no {xs : List Nat} {w w' : World} (h : grGetR xs = none) (hb : Below w.heap.size w w') : GetD xs w (.returned (.tuple #[.slice none 0 0, .int .i64 90])) w' :=
  ⟨⟨_, [], by rw [(getR_none h).1], by rw [(getR_none h).2]; rfl, OwnG.nil _ _⟩, hb⟩
theorem GetD.yes {xs : List Nat} {w w' : World} {v : Value} {l' : List Gn} (h : grGetR xs = some (nds l')) (ho : OwnG w' w.heap.size v l') (hb : Below w.heap.size w w') : GetD xs w (.returned (.tuple #[v, .int .i64 0])) w' :=
  ⟨⟨_, l', by rw [(grGetR_some h).1], by rw [(grGetR_some h).2], ho⟩, hb⟩
end

section
open Go.ChangeShapes Go.WideShapes Go.ChangeAt Go.RowKit Go.BigFrame
set_option maxRecDepth 100000
def kindP : Kind (Nat × Nat) := ⟨fun x => [.int .i64 (x.1 : Nat), .int .i64 (x.2 : Nat)], 2, fun _ => rfl, fun t u hu => by
  simp only [List.mem_cons, List.not_mem_nil, or_false] at hu
  rcases hu with rfl | rfl <;> rfl, by decide⟩
/-- a row of inputs of the call's own -/
def ToD (T : TypeId) (ps : List (Nat × Nat)) (w : World) (e : Ending) (w' : World) : Prop := (∃ v, e = .returned v ∧ w'.ownsRow w.heap.size T kindP.K v ps.length (Rw.row kindP ps)) ∧ Below w.heap.size w w'
end

section
/-- are its numbers right? -/
def Nd.num (n : Nd) : Bool :=
  if n.k = 2 then decide (n.a ≤ 3 ∧ (n.a ≠ 3 ∨ 0 < n.b))
  else if n.k = 3 then decide (n.a ≤ 2 ∧ (n.a ≠ 1 ∨ 0 < n.b))
  else if n.k = 5 then decide (n.a ≤ 3 ∧ n.b = 0)
  else if n.k = 9 then decide (n.a = 0 ∧ 1 ≤ n.b ∧ n.b ≤ 16)
  else decide (1 ≤ n.k ∧ n.k ≤ 10 ∧ n.a = 0 ∧ n.b = 0)
/-- how many inputs its kind has -/
def Nd.want (n : Nd) : Nat := if n.k = 1 then 0 else if n.k = 4 ∨ n.k = 6 then 2 else 1
/-- is z the place of a node that is no Output? -/
def portOk (g : List Nd) (z : Int) : Prop := 0 ≤ z ∧ ∃ m, g[z.toNat]? = some m ∧ m.k ≠ 10
def Nd.Ports (g : List Nd) (n : Nd) : Prop := (∀ z ∈ n.ins, portOk g z) ∧ n.ins.length = n.want
def Nd.more (n : Nd) : Int := if n.k = 7 then 1 else if n.k = 8 then -1 else 0
/-- is its depth right, of itself? -/
def Nd.deepB (n : Nd) : Bool := decide (0 ≤ n.d ∧ n.d ≤ 3 ∧ ((n.k = 1 ∨ n.k = 10) → n.d = 0) ∧ (n.k = 9 → 1 ≤ n.d))
def Nd.Deep (g : List Nd) (n : Nd) : Prop := n.deepB = true ∧ ∀ z ∈ n.ins, ∀ m, g[z.toNat]? = some m → n.d - n.more = m.d
open Classical in
/-- the error of a node that is there -/
noncomputable def Nd.err (g : List Nd) (n : Nd) : Int := if n.num = false then 130 else if ¬ n.Ports g then 100 else if ¬ n.Deep g then 101 else 0
/-- the error of the node at i -/
noncomputable def nodeE (g : List Nd) (i : Int) : Int := if i < 0 then 2 else match g[i.toNat]? with | some n => n.err g | none => 2
theorem nodeE_at {g : List Nd} {i : Nat} {n : Nd} (h : g[i]? = some n) : nodeE g (i : Nat) = n.err g := by
  unfold nodeE; rw [if_neg (by omega), Int.toNat_natCast, h]
theorem nodeE_out {g : List Nd} {i : Int} (h : i < 0 ∨ (g.length : Int) ≤ i) : nodeE g i = 2 := by
  unfold nodeE
  split
  · rfl
  · rw [List.getElem?_eq_none (by omega)]
theorem err_num {g : List Nd} {n : Nd} (h : n.num = false) : n.err g = 130 := by unfold Nd.err; rw [if_pos h]
theorem err_ports {g : List Nd} {n : Nd} (h : n.num = true) (h2 : ¬ n.Ports g) : n.err g = 100 := by unfold Nd.err; rw [if_neg (by simp [h]), if_pos h2]
theorem err_deep {g : List Nd} {n : Nd} (h : n.num = true) (h2 : n.Ports g) (h3 : ¬ n.Deep g) : n.err g = 101 := by unfold Nd.err; rw [if_neg (by simp [h]), if_neg (by simpa using h2), if_pos h3]
theorem err_ok {g : List Nd} {n : Nd} (h : n.num = true) (h2 : n.Ports g) (h3 : n.Deep g) : n.err g = 0 := by unfold Nd.err; rw [if_neg (by simp [h]), if_neg (by simpa using h2), if_neg (by simpa using h3)]
theorem err_zero {g : List Nd} {n : Nd} (h : n.err g = 0) : n.num = true ∧ n.Ports g ∧ n.Deep g := by
  unfold Nd.err at h
  split at h
  · cases h
  · split at h
    · cases h
    · split at h
      · cases h
      · rename_i h1 h2 h3
        exact ⟨by simpa using h1, by simpa using h2, by simpa using h3⟩
open Classical in
/-- the least place below n of which p holds -/
noncomputable def firstP (p : Nat → Prop) : Nat → Option Nat
  | 0 => none
  | n + 1 => match firstP p n with | some i => some i | none => if p n then some n else none
theorem firstP_none {p : Nat → Prop} : ∀ {n : Nat}, firstP p n = none ↔ ∀ j, j < n → ¬ p j
  | 0 => by simp [firstP]
  | n + 1 => by
    have ih := firstP_none (p := p) (n := n)
    unfold firstP
    cases h : firstP p n with
    | some i =>
      simp only [reduceCtorEq, false_iff]
      intro hh
      rw [ih.2 fun j hj => hh j (by omega)] at h
      cases h
    | none =>
      have h1 := ih.1 h
      by_cases hp : p n
      · simp only [if_pos hp, reduceCtorEq, false_iff]
        exact fun hh => hh n (by omega) hp
      · simp only [if_neg hp, true_iff]
        intro j hj
        by_cases e : j = n
        · subst e; exact hp
        · exact h1 j (by omega)
theorem firstP_some {p : Nat → Prop} : ∀ {n i : Nat}, firstP p n = some i ↔ i < n ∧ p i ∧ ∀ j, j < i → ¬ p j
  | 0, i => by simp [firstP]
  | n + 1, i => by
    have ih := fun i => firstP_some (p := p) (n := n) (i := i)
    have ihn := firstP_none (p := p) (n := n)
    unfold firstP
    cases h : firstP p n with
    | some k =>
      simp only [Option.some.injEq]
      have hk := (ih k).1 h
      constructor
      · rintro rfl; exact ⟨by omega, hk.2⟩
      · rintro ⟨h1, h2, h3⟩
        by_cases e : k = i
        · exact e
        · by_cases hlt : k < i
          · exact absurd hk.2.1 (h3 k hlt)
          · exact absurd h2 (hk.2.2 i (by omega))
    | none =>
      have hn := ihn.1 h
      by_cases hp : p n
      · simp only [if_pos hp, Option.some.injEq]
        constructor
        · rintro rfl; exact ⟨by omega, hp, hn⟩
        · rintro ⟨h1, h2, h3⟩
          by_cases e : n = i
          · exact e
          · exact absurd h2 (hn i (by omega))
      · simp only [if_neg hp, reduceCtorEq, false_iff]
        rintro ⟨h1, h2, h3⟩
        by_cases e : i = n
        · subst e; exact hp h2
        · exact hn i (by omega) h2
/-- may a node stand in a cycle whose least depth is that one, and of which no Feedback has it? -/
def Nd.stays (n : Nd) (least : Int) : Bool := decide (least < n.d ∨ n.d = least ∧ n.k ≠ 9)
/-- a state: a place, doubled, and 1 more where a node of the least depth was met -/
def StepN (g : List Nd) (least : Int) (s t : Nat) : Prop :=
  ∃ x, g[t / 2]? = some x ∧ ((s / 2 : Nat) : Int) ∈ x.ins ∧ x.stays least = true ∧ t = 2 * (t / 2) + if x.d = least then 1 else s % 2
inductive ReachN (g : List Nd) (least : Int) (s : Nat) : Nat → Prop
  | one {t : Nat} : StepN g least s t → ReachN g least s t
  | more {t u : Nat} : ReachN g least s t → StepN g least t u → ReachN g least s u
def startN (x : Nd) (i : Nat) (least : Int) : Nat := 2 * i + if x.d = least then 1 else 0
/-- does the node at i stand in a cycle whose least depth is that one, and of which no Feedback has it? -/
def Stuck (g : List Nd) (i : Nat) (least : Int) : Prop := ∃ x, g[i]? = some x ∧ x.stays least = true ∧ ReachN g least (startN x i least) (2 * i + 1)
/-- does it stand in a cycle that doesn't go on? -/
def BadAt (g : List Nd) (i : Nat) : Prop := ∃ x, g[i]? = some x ∧ ∃ least : Int, 0 ≤ least ∧ least ≤ x.d ∧ Stuck g i least
theorem ReachN.trans {g : List Nd} {least : Int} {s t u : Nat} (h : ReachN g least s t) (k : ReachN g least t u) : ReachN g least s u := by
  induction k with
  | one k => exact h.more k
  | more _ k ih => exact ih.more k
theorem StepN.lt {g : List Nd} {least : Int} {s t : Nat} (h : StepN g least s t) : t < 2 * g.length := by
  obtain ⟨x, hx, _⟩ := h
  have := (List.getElem?_eq_some_iff.1 hx).1
  omega
/-- Check: a place, and an error -/
noncomputable def checkR (g : List Nd) : Int × Int :=
  if putE g ≠ 0 then (0, putE g)
  else match firstP (fun i => nodeE g i ≠ 0) g.length with
    | some i => ((i : Nat), nodeE g i)
    | none => match firstP (BadAt g) g.length with
      | some i => ((i : Nat), 102)
      | none => (g.length, 0)
theorem checkR_put {g : List Nd} (h : putE g ≠ 0) : checkR g = (0, putE g) := by unfold checkR; rw [if_pos h]
theorem checkR_node {g : List Nd} {i : Nat} (h : putE g = 0) (hi : i < g.length) (h1 : nodeE g i ≠ 0) (h2 : ∀ j : Nat, j < i → nodeE g j = 0) : checkR g = (((i : Nat) : Int), nodeE g i) := by
  unfold checkR
  rw [if_neg (by simpa using h), firstP_some.2 ⟨hi, h1, fun j hj => by simpa using h2 j hj⟩]
theorem checkR_bad {g : List Nd} {i : Nat} (h : putE g = 0) (h2 : ∀ j : Nat, j < g.length → nodeE g j = 0) (hi : i < g.length) (hb : BadAt g i) (hn : ∀ j, j < i → ¬ BadAt g j) : checkR g = (((i : Nat) : Int), 102) := by
  unfold checkR
  rw [if_neg (by simpa using h), firstP_none.2 fun j hj => by simpa using h2 j hj]
  simp only
  rw [firstP_some.2 ⟨hi, hb, hn⟩]
theorem checkR_ok {g : List Nd} (h : putE g = 0) (h2 : ∀ j : Nat, j < g.length → nodeE g j = 0) (hn : ∀ j, j < g.length → ¬ BadAt g j) : checkR g = ((g.length : Int), 0) := by
  unfold checkR
  rw [if_neg (by simpa using h), firstP_none.2 fun j hj => by simpa using h2 j hj]
  simp only
  rw [firstP_none.2 hn]
/-- what follows of a graph that may be run -/
theorem checkR_zero {g : List Nd} (h : (checkR g).2 = 0) : putE g = 0 ∧ (∀ j : Nat, j < g.length → nodeE g j = 0) ∧ (∀ j, j < g.length → ¬ BadAt g j) ∧ checkR g = ((g.length : Int), 0) := by
  by_cases h0 : putE g = 0
  · unfold checkR at h
    rw [if_neg (by simpa using h0)] at h
    cases h1 : firstP (fun i => nodeE g i ≠ 0) g.length with
    | some i =>
      rw [h1] at h
      exact absurd h (firstP_some.1 h1).2.1
    | none =>
      rw [h1] at h
      have h1' : ∀ j : Nat, j < g.length → nodeE g j = 0 := fun j hj => Classical.not_not.1 (firstP_none.1 h1 j hj)
      cases h2 : firstP (BadAt g) g.length with
      | some i =>
        rw [h2] at h
        cases h
      | none => exact ⟨h0, h1', firstP_none.1 h2, checkR_ok h0 h1' (firstP_none.1 h2)⟩
  · rw [checkR_put h0] at h
    exact absurd h h0
end

section
open Go.ChangeShapes Go.WideShapes Go.ChangeAt Go.RowKit Go.BigFrame
set_option maxRecDepth 100000
set_option maxHeartbeats 8000000 in
theorem refNumbers_any (xk xa : Nat) (xb xd : Int) (xi : List Int) (xA : Option Addr) (xc : Nat) (w : World) :
    Calls Try.prog 60 #[.agg #[.int .u8 (xk : Nat), .int .u8 (xa : Nat), .int .i64 xb, .int .i64 xd, .slice xA xi.length xc]] w fun e w' => e = .returned (.bool (Nd.num ⟨xk, xa, xb, xd, xi⟩)) ∧ Below w.heap.size w w' := by
  have HB := Lib.hid ((Below.refl _ w).alloc (Nat.le_refl _) (.cells #[.int .u8 (xk : Nat), .int .u8 (xa : Nat), .int .i64 xb, .int .i64 xd, .slice xA xi.length xc] 24))
  obtain ⟨N, hN⟩ : ∃ N, Nd.num ⟨xk, xa, xb, xd, xi⟩ = N := ⟨_, rfl⟩
  rw [hN]
  have HN := Lib.hid hN; clear hN
  by_cases k2 : xk = 2
  · subst k2
    by_cases h1 : xa ≤ 3
    · have h1z : (xa : Int) ≤ 3 := by omega
      by_cases h2 : xa = 3
      · subst h2
        by_cases h3 : 0 < xb
        · go_enter Try.func60, Try.ntmps60
          go_wp2_with fail
          go_ret
          exact ⟨retb (by rw [← HN.out]; unfold Nd.num; first | (simp; done) | (simp; omega)), HB.out⟩
        · go_enter Try.func60, Try.ntmps60
          go_wp2_with fail
          go_ret
          exact ⟨retb (by rw [← HN.out]; unfold Nd.num; first | (simp; done) | (simp; omega)), HB.out⟩
      · have h2z : (((xa : Nat) : Int) != 3) = true := by simp; omega
        go_enter Try.func60, Try.ntmps60
        go_wp2_with fail
        go_ret
        exact ⟨retb (by rw [← HN.out]; unfold Nd.num; first | (simp; done) | (simp; omega)), HB.out⟩
    · have h1z : ¬ (xa : Int) ≤ 3 := by omega
      go_enter Try.func60, Try.ntmps60
      go_wp2_with fail
      go_ret
      exact ⟨retb (by rw [← HN.out]; unfold Nd.num; first | (simp; done) | (simp; omega)), HB.out⟩
  · have k2z : (((xk : Nat) : Int) == 2) = false := by simp; omega
    by_cases k3 : xk = 3
    · subst k3
      by_cases h1 : xa ≤ 2
      · have h1z : (xa : Int) ≤ 2 := by omega
        by_cases h2 : xa = 1
        · subst h2
          by_cases h3 : 0 < xb
          · go_enter Try.func60, Try.ntmps60
            go_wp2_with fail
            go_ret
            exact ⟨retb (by rw [← HN.out]; unfold Nd.num; first | (simp; done) | (simp; omega)), HB.out⟩
          · go_enter Try.func60, Try.ntmps60
            go_wp2_with fail
            go_ret
            exact ⟨retb (by rw [← HN.out]; unfold Nd.num; first | (simp; done) | (simp; omega)), HB.out⟩
        · have h2z : (((xa : Nat) : Int) != 1) = true := by simp; omega
          go_enter Try.func60, Try.ntmps60
          go_wp2_with fail
          go_ret
          exact ⟨retb (by rw [← HN.out]; unfold Nd.num; first | (simp; done) | (simp; omega)), HB.out⟩
      · have h1z : ¬ (xa : Int) ≤ 2 := by omega
        go_enter Try.func60, Try.ntmps60
        go_wp2_with fail
        go_ret
        exact ⟨retb (by rw [← HN.out]; unfold Nd.num; first | (simp; done) | (simp; omega)), HB.out⟩
    · have k3z : (((xk : Nat) : Int) == 3) = false := by simp; omega
      by_cases k5 : xk = 5
      · subst k5
        by_cases h1 : xa ≤ 3
        · have h1z : (xa : Int) ≤ 3 := by omega
          by_cases h2 : xb = 0
          · subst h2
            go_enter Try.func60, Try.ntmps60
            go_wp2_with fail
            go_ret
            exact ⟨retb (by rw [← HN.out]; unfold Nd.num; first | (simp; done) | (simp; omega)), HB.out⟩
          · have h2z : (xb == 0) = false := by simp; omega
            go_enter Try.func60, Try.ntmps60
            go_wp2_with fail
            go_ret
            exact ⟨retb (by rw [← HN.out]; unfold Nd.num; first | (simp; done) | (simp; omega)), HB.out⟩
        · have h1z : ¬ (xa : Int) ≤ 3 := by omega
          go_enter Try.func60, Try.ntmps60
          go_wp2_with fail
          go_ret
          exact ⟨retb (by rw [← HN.out]; unfold Nd.num; first | (simp; done) | (simp; omega)), HB.out⟩
      · have k5z : (((xk : Nat) : Int) == 5) = false := by simp; omega
        by_cases k9 : xk = 9
        · subst k9
          by_cases h1 : xa = 0
          · subst h1
            by_cases h2 : 1 ≤ xb
            · by_cases h3 : xb ≤ 16
              · go_enter Try.func60, Try.ntmps60
                go_wp2_with fail
                go_ret
                exact ⟨retb (by rw [← HN.out]; unfold Nd.num; first | (simp; done) | (simp; omega)), HB.out⟩
              · go_enter Try.func60, Try.ntmps60
                go_wp2_with fail
                go_ret
                exact ⟨retb (by rw [← HN.out]; unfold Nd.num; first | (simp; done) | (simp; omega)), HB.out⟩
            · go_enter Try.func60, Try.ntmps60
              go_wp2_with fail
              go_ret
              exact ⟨retb (by rw [← HN.out]; unfold Nd.num; first | (simp; done) | (simp; omega)), HB.out⟩
          · have h1z : (((xa : Nat) : Int) == 0) = false := by simp; omega
            go_enter Try.func60, Try.ntmps60
            go_wp2_with fail
            go_ret
            exact ⟨retb (by rw [← HN.out]; unfold Nd.num; first | (simp; done) | (simp; omega)), HB.out⟩
        · have k9z : (((xk : Nat) : Int) == 9) = false := by simp; omega
          by_cases h1 : 1 ≤ xk
          · have h1z : (1 : Int) ≤ (xk : Int) := by omega
            by_cases h2 : xk ≤ 10
            · have h2z : (xk : Int) ≤ 10 := by omega
              by_cases h3 : xa = 0
              · subst h3
                by_cases h4 : xb = 0
                · subst h4
                  go_enter Try.func60, Try.ntmps60
                  go_wp2_with fail
                  go_ret
                  exact ⟨retb (by rw [← HN.out]; unfold Nd.num; first | (simp [k2, k3, k5, k9]; done) | (simp [k2, k3, k5, k9]; omega)), HB.out⟩
                · have h4z : (xb == 0) = false := by simp; omega
                  go_enter Try.func60, Try.ntmps60
                  go_wp2_with fail
                  go_ret
                  exact ⟨retb (by rw [← HN.out]; unfold Nd.num; first | (simp [k2, k3, k5, k9]; done) | (simp [k2, k3, k5, k9]; omega)), HB.out⟩
              · have h3z : (((xa : Nat) : Int) == 0) = false := by simp; omega
                go_enter Try.func60, Try.ntmps60
                go_wp2_with fail
                go_ret
                exact ⟨retb (by rw [← HN.out]; unfold Nd.num; first | (simp [k2, k3, k5, k9]; done) | (simp [k2, k3, k5, k9]; omega)), HB.out⟩
            · have h2z : ¬ (xk : Int) ≤ 10 := by omega
              go_enter Try.func60, Try.ntmps60
              go_wp2_with fail
              go_ret
              exact ⟨retb (by rw [← HN.out]; unfold Nd.num; first | (simp [k2, k3, k5, k9]; done) | (simp [k2, k3, k5, k9]; omega)), HB.out⟩
          · have h1z : ¬ (1 : Int) ≤ (xk : Int) := by omega
            go_enter Try.func60, Try.ntmps60
            go_wp2_with fail
            go_ret
            exact ⟨retb (by rw [← HN.out]; unfold Nd.num; first | (simp [k2, k3, k5, k9]; done) | (simp [k2, k3, k5, k9]; omega)), HB.out⟩
end

section
namespace Op
open Go.ChangeShapes Go.WideShapes Go.ChangeAt Go.RowKit Go.BigFrame
set_option maxRecDepth 100000
theorem reti' {a b : Int} (h : a = b) : Ending.returned (.int .i64 a) = .returned (.int .i64 b) := by rw [h]
theorem retb' {a b : Bool} (h : a = b) : Ending.returned (.bool a) = .returned (.bool b) := by rw [h]
theorem tmod_facts (n by_ : Int) (h : 1 ≤ by_) : -by_ < n.tmod by_ ∧ n.tmod by_ < by_ ∧ (n.tmod by_ < 0 → n.tmod by_ + by_ = n % by_) ∧ (¬ n.tmod by_ < 0 → n.tmod by_ = n % by_) := by
  have h1 := Int.tmod_eq_emod (a := n) (b := by_)
  have h2 := Int.emod_nonneg n (show by_ ≠ 0 by omega)
  have h3 := Int.emod_lt_of_pos n (show 0 < by_ by omega)
  have h4 : (by_.natAbs : Int) = by_ := Int.natAbs_of_nonneg (by omega)
  by_cases hc : 0 ≤ n ∨ by_ ∣ n
  · rw [if_pos hc] at h1
    refine ⟨by omega, by omega, fun h => by omega, fun _ => by omega⟩
  · rw [if_neg hc, h4] at h1
    have h5 : n % by_ ≠ 0 := fun e => hc (.inr (Int.dvd_of_emod_eq_zero e))
    refine ⟨by omega, by omega, fun h => by omega, fun h => by omega⟩
theorem modulo_any (n by_ : Int) (w : World) (h : 1 ≤ by_) (h2 : by_ ≤ 9223372036854775807) : Calls Try.prog 42 #[.int .i64 n, .int .i64 by_] w fun e w' => e = .returned (.int .i64 (n % by_)) ∧ w = w' := by
  obtain ⟨h3, h4, h5, h6⟩ := tmod_facts n by_ h
  have hz : ¬ by_ = 0 := by omega
  by_cases hn : n.tmod by_ < 0
  · have H := Lib.hid (h5 hn); clear h5 h6
    have dn : decide (n.tmod by_ < 0) = true := decide_eq_true hn
    go_enter Try.func42, Try.ntmps42
    go_wp2_with fail
    go_ret
    exact ⟨reti' H.out, rfl⟩
  · have H := Lib.hid (h6 hn); clear h5 h6
    have dn : decide (n.tmod by_ < 0) = false := decide_eq_false hn
    go_enter Try.func42, Try.ntmps42
    go_wp2_with fail
    go_ret
    exact ⟨reti' H.out, rfl⟩
theorem refModulo_any (n by_ : Int) (w : World) (h : 1 ≤ by_) (h2 : by_ ≤ 9223372036854775807) : Calls Try.prog 43 #[.int .i64 n, .int .i64 by_] w fun e w' => e = .returned (.int .i64 (n % by_)) ∧ w = w' := by
  obtain ⟨h3, h4, h5, h6⟩ := tmod_facts n by_ h
  have hz : ¬ by_ = 0 := by omega
  by_cases hn : n.tmod by_ < 0
  · have H := Lib.hid (h5 hn); clear h5 h6
    have dn : decide (n.tmod by_ < 0) = true := decide_eq_true hn
    go_enter Try.func43, Try.ntmps43
    go_wp2_with fail
    go_ret
    exact ⟨reti' H.out, rfl⟩
  · have H := Lib.hid (h6 hn); clear h5 h6
    have dn : decide (n.tmod by_ < 0) = false := decide_eq_false hn
    go_enter Try.func43, Try.ntmps43
    go_wp2_with fail
    go_ret
    exact ⟨reti' H.out, rfl⟩
def waitsB (k : Nat) : Bool := decide (k = 5 ∨ k = 6)
theorem waits_any (k : Nat) (w : World) : Calls Try.prog 17 #[.int .u8 (k : Nat)] w fun e w' => e = .returned (.bool (waitsB k)) ∧ w = w' := by
  by_cases h5 : k = 5
  · subst h5
    go_enter Try.func17, Try.ntmps17
    go_wp2_with fail
    go_ret
    exact ⟨rfl, rfl⟩
  · have z5 : (((k : Nat) : Int) == 5) = false := by simp; omega
    by_cases h6 : k = 6
    · subst h6
      go_enter Try.func17, Try.ntmps17
      go_wp2_with fail
      go_ret
      exact ⟨rfl, rfl⟩
    · have z6 : (((k : Nat) : Int) == 6) = false := by simp; omega
      have H := Lib.hid (show false = waitsB k from (decide_eq_false (by omega)).symm)
      go_enter Try.func17, Try.ntmps17
      go_wp2_with fail
      go_ret
      exact ⟨retb' H.out, rfl⟩
theorem refWaits_any (k : Nat) (w : World) : Calls Try.prog 18 #[.int .u8 (k : Nat)] w fun e w' => e = .returned (.bool (waitsB k)) ∧ w = w' := by
  by_cases h5 : k = 5
  · subst h5
    go_enter Try.func18, Try.ntmps18
    go_wp2_with fail
    go_ret
    exact ⟨rfl, rfl⟩
  · have z5 : (((k : Nat) : Int) == 5) = false := by simp; omega
    by_cases h6 : k = 6
    · subst h6
      go_enter Try.func18, Try.ntmps18
      go_wp2_with fail
      go_ret
      exact ⟨rfl, rfl⟩
    · have z6 : (((k : Nat) : Int) == 6) = false := by simp; omega
      have H := Lib.hid (show false = waitsB k from (decide_eq_false (by omega)).symm)
      go_enter Try.func18, Try.ntmps18
      go_wp2_with fail
      go_ret
      exact ⟨retb' H.out, rfl⟩
/-- to which worker -/
def ofR (k : Nat) (key worker workers : Int) : Int := if workers < 1 ∨ workers > 64 ∨ worker < 0 ∨ workers ≤ worker then -1 else if waitsB k then key % workers else worker
end Op
end
end Go.Proofs.Ytcjdjdhjbchaaaa
