/- Graphs and their bytes, there and back; which inputs a node feeds: plain mathematics, of no code. -/
import Derived.Test.YtcdofkhkckodjaaStLattice
namespace Go.Proofs.Ytcdofkhkckodjaa
set_option linter.unusedVariables false
/-- a node -/
structure Nd where
  k : Nat
  a : Nat
  b : Int
  d : Int
  ins : List Int
/-- its parts are numbers of their kinds -/
def Nd.W (n : Nd) : Prop := n.k < 256 ∧ n.a < 256 ∧ -9223372036854775808 ≤ n.b ∧ n.b < 9223372036854775808
/-- it may be written -/
def Nd.May (n : Nd) : Prop := (0 ≤ n.d ∧ n.d ≤ 3) ∧ n.ins.length ≤ 2 ∧ ∀ x ∈ n.ins, 0 ≤ x ∧ x ≤ 31
def GMay (g : List Nd) : Prop := (1 ≤ g.length ∧ g.length ≤ 32) ∧ ∀ n ∈ g, n.May
/-- a number's eight bytes, the highest first -/
def be8 (x : Nat) : List Nat := [x / 72057594037927936 % 256, x / 281474976710656 % 256, x / 1099511627776 % 256, x / 4294967296 % 256, x / 16777216 % 256, x / 65536 % 256, x / 256 % 256, x % 256]
def of8 (a b c d e f g h : Nat) : Nat := ((((((a * 256 + b) * 256 + c) * 256 + d) * 256 + e) * 256 + f) * 256 + g) * 256 + h
def uns (b : Int) : Nat := (b % 18446744073709551616).toNat
def sg64 (x : Nat) : Int := if x < 9223372036854775808 then x else (x : Int) - 18446744073709551616
def Nd.put (n : Nd) : List Nat := n.k :: n.a :: (be8 (uns n.b) ++ (n.d.toNat :: n.ins.length :: n.ins.map Int.toNat))
/-- a node off the front of bytes -/
def getN : List Nat → Option (Nd × List Nat)
  | k :: a :: b0 :: b1 :: b2 :: b3 :: b4 :: b5 :: b6 :: b7 :: d :: n :: r =>
    if n ≤ r.length then some (⟨k, a, sg64 (of8 b0 b1 b2 b3 b4 b5 b6 b7), d, (r.take n).map Int.ofNat⟩, r.drop n) else none
  | _ => none
def getNs : Nat → List Nat → Option (List Nd × List Nat)
  | 0, b => some ([], b)
  | m + 1, b => match getN b with
    | none => none
    | some (n, r) => match getNs m r with
      | none => none
      | some (g, s) => some (n :: g, s)
def putNs (g : List Nd) : List Nat := (g.map Nd.put).flatten
def putG (g : List Nd) : List Nat := g.length :: putNs g
/-- the graph that bytes are: all nodes, and nothing behind them -/
def getG : List Nat → Option (List Nd)
  | [] => none
  | m :: b => match getNs m b with
    | some (g, []) => some g
    | _ => none
section
variable {n m : Nd} {g h : List Nd} {b r s : List Nat} {x : Nat} {v : Int}
theorem of8_be8 (h : x < 18446744073709551616) : of8 (x / 72057594037927936 % 256) (x / 281474976710656 % 256) (x / 1099511627776 % 256) (x / 4294967296 % 256) (x / 16777216 % 256) (x / 65536 % 256) (x / 256 % 256) (x % 256) = x := by
  unfold of8; omega
theorem of8_lt {a b c d e f g h : Nat} (ha : a < 256) (hb : b < 256) (hc : c < 256) (hd : d < 256) (he : e < 256) (hf : f < 256) (hg : g < 256) (hh : h < 256) : of8 a b c d e f g h < 18446744073709551616 := by
  unfold of8; omega
theorem be8_of8 {a b c d e f g h : Nat} (ha : a < 256) (hb : b < 256) (hc : c < 256) (hd : d < 256) (he : e < 256) (hf : f < 256) (hg : g < 256) (hh : h < 256) : be8 (of8 a b c d e f g h) = [a, b, c, d, e, f, g, h] := by
  unfold be8 of8
  simp only [List.cons.injEq, and_true]
  refine ⟨?_, ?_, ?_, ?_, ?_, ?_, ?_, ?_⟩ <;> omega
theorem sg64_uns (h : -9223372036854775808 ≤ v) (k : v < 9223372036854775808) : sg64 (uns v) = v := by
  unfold sg64 uns; split <;> omega
theorem uns_sg64 (h : x < 18446744073709551616) : uns (sg64 x) = x := by
  unfold sg64 uns; split <;> omega
theorem uns_lt : uns v < 18446744073709551616 := by unfold uns; omega
theorem sg64_W (h : x < 18446744073709551616) : -9223372036854775808 ≤ sg64 x ∧ sg64 x < 9223372036854775808 := by
  unfold sg64; split <;> omega
theorem back_ints : ∀ {l : List Int}, (∀ x ∈ l, 0 ≤ x) → (l.map Int.toNat).map Int.ofNat = l
  | [], _ => rfl
  | x :: l, h => by
    have := h x List.mem_cons_self
    simp only [List.map_cons]
    rw [back_ints fun y hy => h y (List.mem_cons_of_mem _ hy)]
    congr 1
    show ((x.toNat : Nat) : Int) = x
    omega
theorem back_nats : ∀ {l : List Nat}, (l.map Int.ofNat).map Int.toNat = l
  | [] => rfl
  | x :: l => by simp only [List.map_cons]; rw [back_nats]; rfl
theorem getN_cons {k a b0 b1 b2 b3 b4 b5 b6 b7 d n : Nat} {r : List Nat} : getN (k :: a :: b0 :: b1 :: b2 :: b3 :: b4 :: b5 :: b6 :: b7 :: d :: n :: r) =
    if n ≤ r.length then some (⟨k, a, sg64 (of8 b0 b1 b2 b3 b4 b5 b6 b7), d, (r.take n).map Int.ofNat⟩, r.drop n) else none := rfl
/-- what is put is got as it was -/
theorem getN_put (hw : n.W) (hm : n.May) : getN (n.put ++ r) = some (n, r) := by
  obtain ⟨h1, h2, h3, h4⟩ := hw
  obtain ⟨⟨h5, h6⟩, h7, h8⟩ := hm
  unfold Nd.put be8
  simp only [List.cons_append, List.nil_append]
  rw [getN_cons, if_pos (by simp), of8_be8 uns_lt, sg64_uns h3 h4]
  have e1 : (List.map Int.toNat n.ins ++ r).take n.ins.length = List.map Int.toNat n.ins := by
    rw [List.take_append_of_le_length (by simp)]; exact List.take_of_length_le (by simp)
  have e2 : (List.map Int.toNat n.ins ++ r).drop n.ins.length = r := by
    rw [List.drop_append_of_le_length (by simp), List.drop_of_length_le (by simp)]; rfl
  rw [e1, e2, back_ints fun y hy => (h8 y hy).1]
  congr 2
  cases n with | mk k a b d ins =>
  simp only [Nd.mk.injEq, true_and, and_true]
  simp only at h5
  omega
/-- what is got is put as the same bytes -/
theorem getN_some (hb : ∀ x ∈ b, x < 256) (h : getN b = some (n, r)) : n.W ∧ b = n.put ++ r ∧ 0 ≤ n.d ∧ (∀ x ∈ n.ins, 0 ≤ x) ∧ ∀ x ∈ r, x < 256 := by
  unfold getN at h
  split at h
  · rename_i k a b0 b1 b2 b3 b4 b5 b6 b7 d m q
    split at h
    · rename_i hm
      simp only [Option.some.injEq, Prod.mk.injEq] at h
      obtain ⟨rfl, rfl⟩ := h
      simp only [List.mem_cons, forall_eq_or_imp] at hb
      obtain ⟨hk, ha, g0, g1, g2, g3, g4, g5, g6, g7, hd, hn, hq⟩ := hb
      have hl := of8_lt g0 g1 g2 g3 g4 g5 g6 g7
      refine ⟨⟨hk, ha, sg64_W hl⟩, ?_, ?_, ?_, fun x hx => hq x (List.mem_of_mem_drop hx)⟩
      · unfold Nd.put
        simp only
        rw [uns_sg64 hl, be8_of8 g0 g1 g2 g3 g4 g5 g6 g7, back_nats]
        simp only [List.cons_append, List.nil_append, List.length_map, List.length_take, List.append_assoc, List.take_append_drop]
        rw [Nat.min_eq_left hm]; rfl
      · show (0 : Int) ≤ (d : Int); omega
      · intro x hx
        obtain ⟨y, _, rfl⟩ := List.mem_map.1 hx
        exact Int.natCast_nonneg y
    · exact absurd h (by simp)
  · exact absurd h (by simp)
theorem getNs_put : ∀ {g : List Nd}, (∀ n ∈ g, n.W ∧ n.May) → getNs g.length (putNs g ++ r) = some (g, r)
  | [], _ => rfl
  | n :: g, h => by
    have hn := h n List.mem_cons_self
    show getNs (g.length + 1) (((n.put :: g.map Nd.put).flatten) ++ r) = _
    unfold getNs
    rw [List.flatten_cons, List.append_assoc, getN_put hn.1 hn.2]
    simp only
    rw [show (g.map Nd.put).flatten = putNs g from rfl, getNs_put fun y hy => h y (List.mem_cons_of_mem _ hy)]
theorem getNs_some : ∀ {m : Nat} {b : List Nat} {g : List Nd} {r : List Nat}, (∀ x ∈ b, x < 256) → getNs m b = some (g, r) → g.length = m ∧ (∀ n ∈ g, n.W) ∧ b = putNs g ++ r
  | 0, b, g, r, _, h => by
    simp only [getNs, Option.some.injEq, Prod.mk.injEq] at h
    obtain ⟨rfl, rfl⟩ := h
    exact ⟨rfl, by simp, rfl⟩
  | m + 1, b, g, r, hb, h => by
    unfold getNs at h
    split at h
    · exact absurd h (by simp)
    · rename_i n q hq
      obtain ⟨hw, e, -, -, hqb⟩ := getN_some hb hq
      split at h
      · exact absurd h (by simp)
      · rename_i g' s hs
        simp only [Option.some.injEq, Prod.mk.injEq] at h
        obtain ⟨rfl, rfl⟩ := h
        obtain ⟨h1, h2, h3⟩ := getNs_some hqb hs
        refine ⟨by rw [List.length_cons, h1], fun y hy => ?_, ?_⟩
        · rcases List.mem_cons.1 hy with e' | hy
          · rw [e']; exact hw
          · exact h2 y hy
        · rw [e, h3, show putNs (n :: g') = n.put ++ putNs g' from rfl, List.append_assoc]
/-- a graph that may be written, of its bytes -/
theorem getG_put (hw : ∀ n ∈ g, n.W) (hm : GMay g) : getG (putG g) = some g := by
  have := getNs_put (r := []) fun n hn => ⟨hw n hn, hm.2 n hn⟩
  rw [List.append_nil] at this
  unfold getG putG
  simp only
  rw [this]
theorem getG_some (hb : ∀ x ∈ b, x < 256) (h : getG b = some g) : (∀ n ∈ g, n.W) ∧ b = putG g := by
  unfold getG at h
  split at h
  · exact absurd h (by simp)
  · rename_i m b'
    split at h
    · rename_i g' hg
      simp only [Option.some.injEq] at h
      subst h
      obtain ⟨h1, h2, h3⟩ := getNs_some (fun x hx => hb x (List.mem_cons_of_mem _ hx)) hg
      refine ⟨h2, ?_⟩
      unfold putG
      rw [h1, h3, List.append_nil]
    · exact absurd h (by simp)
/-- the bytes of a graph that may be written are of no other one -/
theorem getG_iff (hb : ∀ x ∈ b, x < 256) : (getG b = some g ∧ GMay g) ↔ ((∀ n ∈ g, n.W) ∧ GMay g ∧ b = putG g) := by
  constructor
  · rintro ⟨h1, h2⟩
    obtain ⟨h3, h4⟩ := getG_some hb h1
    exact ⟨h3, h2, h4⟩
  · rintro ⟨h1, h2, rfl⟩
    exact ⟨getG_put h1 h2, h2⟩
/-- unlike graphs have unlike bytes -/
theorem putG_inj (hg : ∀ n ∈ g, n.W) (hh : ∀ n ∈ h, n.W) (mg : GMay g) (mh : GMay h) : putG g = putG h ↔ g = h := by
  constructor
  · intro e
    have h1 := getG_put hg mg
    rw [e, getG_put hh mh] at h1
    exact (Option.some.inj h1).symm
  · intro e; rw [e]
/-- no beginning of a graph's bytes, shorter than they are, is a graph's -/
theorem putG_begins (hg : ∀ n ∈ g, n.W) (hh : ∀ n ∈ h, n.W) (mg : GMay g) (mh : GMay h) (e : putG h ++ s = putG g) : s = [] := by
  unfold putG at e
  rw [List.cons_append, List.cons.injEq] at e
  have h1 := getNs_put (r := []) fun n hn => ⟨hg n hn, mg.2 n hn⟩
  have h2 := getNs_put (r := s) fun n hn => ⟨hh n hn, mh.2 n hn⟩
  rw [List.append_nil, ← e.1, ← e.2, h2] at h1
  simp only [Option.some.injEq, Prod.mk.injEq] at h1
  exact h1.2
/-- each byte is one -/
theorem putN_lt (hw : n.W) (hm : n.May) : ∀ x ∈ n.put, x < 256 := by
  obtain ⟨h1, h2, -, -⟩ := hw
  obtain ⟨⟨h5, h6⟩, h7, h8⟩ := hm
  unfold Nd.put be8
  simp only [List.cons_append, List.nil_append, List.mem_cons, forall_eq_or_imp]
  refine ⟨h1, h2, by omega, by omega, by omega, by omega, by omega, by omega, by omega, by omega, by omega, by omega, fun x hx => ?_⟩
  obtain ⟨y, hy, rfl⟩ := List.mem_map.1 hx
  have := h8 y hy
  omega
theorem putG_lt (hw : ∀ n ∈ g, n.W) (hm : GMay g) : ∀ x ∈ putG g, x < 256 := by
  intro x hx
  unfold putG at hx
  rcases List.mem_cons.1 hx with e | hx
  · have := hm.1.2; omega
  · obtain ⟨l, hl, hxl⟩ := List.mem_flatten.1 hx
    obtain ⟨n, hn, rfl⟩ := List.mem_map.1 hl
    exact putN_lt (hw n hn) (hm.2 n hn) x hxl
end
end Go.Proofs.Ytcdofkhkckodjaa
