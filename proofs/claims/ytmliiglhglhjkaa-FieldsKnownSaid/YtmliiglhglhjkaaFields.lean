/- What a Writer and a Reader hold, in memory. -/
import Derived.Test.YtmliiglhglhjkaaBytes
import Derived.Laws.CopyOwn
import Derived.Test.YtmliiglhglhjkaaStage
import Derived.Test.YtmliiglhglhjkaaParts
namespace Go.Proofs.Ytmliiglhglhjkaa
open Go.RowKit

/-- the number of a slice's elements, for a measure -/
def lenOf : Value → Nat | .slice _ n _ => n | _ => 0

/-- full pieces, the last one first -/
def Pieces (w : World) : Option Addr → List (List Nat) → Prop
  | P, [] => P = none
  | P, c :: cs => ∃ g P', P = some ⟨g, 0, none⟩ ∧ c.length = 64 ∧ (∀ x ∈ c, x < 256) ∧ Row w g 66 (.pointer P' :: u8s c) ∧ Pieces w P' cs
/-- the Writer at block g has written xs -/
def IsWriter (w : World) (g : Nat) (xs : List Nat) : Prop :=
  ∃ P cs last, Row w g 63 (.pointer P :: (u8s last ++ [.int .i64 (xs.length : Nat)])) ∧ Pieces w P cs ∧ last.length = 64 ∧ (∀ x ∈ last, x < 256) ∧ xs = cs.reverse.flatten ++ last.take (xs.length % 64)
/-- the Reader at block g has yet to read ys -/
def IsReader (w : World) (g : Nat) (ys : List Nat) (sp : Bool) : Prop :=
  ∃ A c, Row w g 69 [.slice A ys.length c, .bool sp] ∧ Bytes w A ys ∧ ys.length ≤ c ∧ c ≤ 9223372036854775807 ∧ (A = none → c = 0) ∧ (∀ ad, A = some ad → ad.block < g) ∧ (sp = true → ys = [])

section
variable {w w' : World} {g : Nat} {P : Option Addr} {cs : List (List Nat)} {xs ys : List Nat}
theorem Pieces.len (h : Pieces w P cs) : cs.reverse.flatten.length = 64 * cs.length := by
  induction cs generalizing P with
  | nil => rfl
  | cons c cs ih =>
    obtain ⟨g, P', _, hc, _, _, hp⟩ := h
    have := ih hp
    simp [List.flatten_append] at this ⊢; omega
theorem Pieces.bytes (h : Pieces w P cs) : ∀ x ∈ cs.reverse.flatten, x < 256 := by
  induction cs generalizing P with
  | nil => simp
  | cons c cs ih =>
    obtain ⟨g, P', _, _, hb, _, hp⟩ := h
    intro x hx
    simp [List.flatten_append] at hx
    have := ih hp x
    simp at this
    rcases hx with ⟨l, hl, hx⟩ | hx
    · exact this l hl hx
    · exact hb x hx
/-- pieces stay where blocks of their type stay -/
theorem Pieces.keep (h : Pieces w P cs) (hk : ∀ k l, Row w k 66 l → Row w' k 66 l) : Pieces w' P cs := by
  induction cs generalizing P with
  | nil => exact h
  | cons c cs ih =>
    obtain ⟨g, P', e, hc, hb, hr, hp⟩ := h
    exact ⟨g, P', e, hc, hb, hk _ _ hr, ih hp⟩
theorem Pieces.grown {row : Option Nat} (h : Pieces w P cs) (hg : w.grownBy w' row) (hr : ∀ k l, row = some k → ¬ Row w k 66 l) : Pieces w' P cs :=
  h.keep fun k l hl => hl.grown hg (fun e => hr k l e.symm hl)
theorem IsWriter.lt (h : IsWriter w g xs) : g < w.heap.size := by obtain ⟨_, _, _, h, _⟩ := h; exact h.lt
theorem IsWriter.bytes (h : IsWriter w g xs) : ∀ x ∈ xs, x < 256 := by
  obtain ⟨P, cs, last, _, hp, _, hb, e⟩ := h
  intro x hx
  rw [e] at hx
  rcases List.mem_append.1 hx with hx | hx
  · exact hp.bytes x hx
  · exact hb x (List.mem_of_mem_take hx)
/-- a Writer stays where only another block, of another type, was written -/
theorem IsWriter.grown {row : Option Nat} (h : IsWriter w g xs) (hg : w.grownBy w' row) (hn : some g ≠ row) (hr : ∀ k l, row = some k → ¬ Row w k 66 l) : IsWriter w' g xs := by
  obtain ⟨P, cs, last, hw, hp, hl, hb, e⟩ := h
  exact ⟨P, cs, last, hw.grown hg hn, hp.grown hg hr, hl, hb, e⟩
theorem IsWriter.below (h : IsWriter w g xs) (hb : Below w.heap.size w w') : IsWriter w' g xs := by
  obtain ⟨P, cs, last, hw, hp, hl, hx, e⟩ := h
  exact ⟨P, cs, last, hw.below hb hw.lt, hp.keep fun k l hk => hk.below hb hk.lt, hl, hx, e⟩
theorem IsReader.lt {sp : Bool} (h : IsReader w g ys sp) : g < w.heap.size := by obtain ⟨_, _, h, _⟩ := h; exact h.lt
theorem IsReader.bytes {sp : Bool} (h : IsReader w g ys sp) : ∀ x ∈ ys, x < 256 := by obtain ⟨_, _, _, h, _⟩ := h; exact h.1
theorem IsReader.below {sp : Bool} (h : IsReader w g ys sp) (hb : Below w.heap.size w w') : IsReader w' g ys sp := by
  obtain ⟨A, c, hr, hB, h1, h2, h3, h4, h5⟩ := h
  exact ⟨A, c, hr.below hb hr.lt, hB.below hb, h1, h2, h3, h4, h5⟩
end
section
variable {w w' : World}
theorem Bytes.grown {A : Option Addr} {xs : List Nat} {row : Option Nat} (h : Bytes w A xs) (hg : w.grownBy w' row) (hn : ∀ ad, A = some ad → some ad.block ≠ row) : Bytes w' A xs :=
  ⟨h.1, fun h0 => by
    obtain ⟨ad, e, hlt, hc⟩ := h.2 h0
    refine ⟨ad, e, Nat.lt_of_lt_of_le hlt hg.size, fun j x hx => ?_⟩
    rw [← hc j x hx]
    exact World.cell?_of_block (hg.block (ad.add j).block (by rw [add_block]; exact hlt) (by rw [add_block]; exact hn ad e))⟩
theorem add_add (a : Addr) (i j : Nat) : (a.add i).add j = a.add (i + j) := by
  unfold Addr.add
  by_cases hi : i = 0 <;> by_cases hj : j = 0 <;> simp [hi, hj, Nat.add_assoc]
theorem Bytes.cut {A : Option Addr} {xs : List Nat} (h : Bytes w A xs) (k : Nat) {A' : Option Addr} (hA : k < xs.length → A' = A.map (·.add k)) : Bytes w A' (xs.drop k) :=
  ⟨fun x hx => h.1 x (List.mem_of_mem_drop hx), fun hn => by
    rw [List.length_drop] at hn
    obtain ⟨ad, rfl, hlt, hc⟩ := h.2 (by omega)
    refine ⟨ad.add k, hA (by omega), by rw [add_block]; exact hlt, fun j x hx => ?_⟩
    rw [add_add]
    exact hc _ x (by rw [← hx, List.getElem?_drop])⟩
theorem grown_setRow (w : World) (g : Nat) (cs : Array Value) : w.grownBy (w.setRow g cs) (some g) :=
  ⟨rfl, rfl, rfl, by simp [World.setRow], fun k _ hk => setRow_other w g k cs (fun e => hk (by rw [e]))⟩
theorem grown_setCell (w : World) (p : Addr) (u : Value) : w.grownBy (w.setCell p u) (some p.block) :=
  ⟨rfl, rfl, rfl, by simp [World.setCell], fun k _ hk => Below.heap_setCell w p u k (fun e => hk (by rw [e]))⟩
theorem grown_drew (w : World) (row : Option Nat) : w.grownBy w.drew row := ⟨rfl, rfl, rfl, Nat.le_refl _, fun _ _ _ => rfl⟩
theorem grown_drewN (w : World) (n : Nat) (row : Option Nat) : w.grownBy (w.drewN n) row := ⟨rfl, rfl, rfl, Nat.le_refl _, fun _ _ _ => rfl⟩
theorem grown_trans {a b c : World} {row : Option Nat} (h : a.grownBy b row) (k : b.grownBy c row) : a.grownBy c row :=
  ⟨k.os.trans h.os, k.tape.trans h.tape, k.output.trans h.output, Nat.le_trans h.size k.size, fun i hi hn => (k.block i (Nat.lt_of_lt_of_le hi h.size) hn).trans (h.block i hi hn)⟩
theorem grown_of_below {a b : World} {B : Nat} (h : Below B a b) (hB : a.heap.size ≤ B) (row : Option Nat) : a.grownBy b row := ⟨h.os, h.tape, h.output, h.size, fun i hi _ => h.block i (Nat.lt_of_lt_of_le hi hB)⟩
/-- only new blocks and one that was there, but not to the caller -/
theorem below_of_grown {a b : World} {B g : Nat} (h : a.grownBy b (some g)) (hB : B ≤ a.heap.size) (hg : B ≤ g) : Below B a b :=
  ⟨h.os, h.tape, h.output, h.size, fun i hi => h.block i (Nat.lt_of_lt_of_le hi hB) (by intro e; injection e with e; omega)⟩
/-- what a call wrote to new blocks alone, then to one that was new to the caller -/
theorem grown_none {a b : World} (h : a.grownBy b none) : Below a.heap.size a b := ⟨h.os, h.tape, h.output, h.size, fun i hi => h.block i hi (by simp)⟩
end
/-! what a round of Raw does to what the Writer holds -/
theorem splice_in {p : Value} {last ys : List Nat} {z : Value} {r : Nat} (hl : last.length = 64) (hr : r + ys.length ≤ 64) :
    splice (p :: (u8s last ++ [z])) (1 + r) (u8s ys) = p :: (u8s (splice last r ys) ++ [z]) := by
  unfold splice u8s
  rw [show 1 + r = r + 1 by omega, List.take_succ_cons, show r + 1 + (ys.map fun x : Nat => Value.int .u8 (x : Nat)).length = (r + ys.length) + 1 by simp; omega, List.drop_succ_cons]
  rw [List.take_append_of_le_length (by simp; omega), List.drop_append_of_le_length (by simp; omega)]
  simp
theorem set_in {p z z' : Value} {last : List Nat} (hl : last.length = 64) : (p :: (u8s last ++ [z])).set 65 z' = p :: (u8s last ++ [z']) := by
  rw [List.set_cons_succ, List.set_append_right (h := by simp; omega)]
  simp [hl]
theorem splice_len {last ys : List Nat} {r : Nat} (hl : last.length = 64) (hr : r + ys.length ≤ 64) : (splice last r ys).length = 64 := by
  rw [length_splice _ _ _ (by omega), hl]
theorem splice_take {last ys : List Nat} {r : Nat} (hl : last.length = 64) (hr : r + ys.length ≤ 64) : (splice last r ys).take (r + ys.length) = last.take r ++ ys := by
  unfold splice
  rw [← List.append_assoc, List.take_append_of_le_length (by simp; omega), List.take_of_length_le (by simp; omega)]
theorem splice_mem {last ys : List Nat} {r : Nat} (h1 : ∀ x ∈ last, x < 256) (h2 : ∀ x ∈ ys, x < 256) : ∀ x ∈ splice last r ys, x < 256 := by
  intro x hx
  unfold splice at hx
  simp only [List.mem_append] at hx
  rcases hx with hx | hx | hx
  · exact h1 x (List.mem_of_mem_take hx)
  · exact h2 x hx
  · exact h1 x (List.mem_of_mem_drop hx)
section
variable {w : World} {g : Nat} {P : Option Addr} {cs : List (List Nat)} {zs ys last : List Nat} {m : Nat}
/-- a round that doesn't fill the piece -/
theorem writer_more (hlen : zs.length = m) (hx : zs = cs.reverse.flatten ++ last.take (m % 64)) (hc : cs.reverse.flatten.length = 64 * cs.length) (hl : last.length = 64) (hb : ∀ x ∈ last, x < 256) (hy : ∀ x ∈ ys, x < 256)
    (hr : m % 64 + ys.length < 64) (hR : Row w g 63 (.pointer P :: (u8s (splice last (m % 64) ys) ++ [.int .i64 (m + ys.length : Nat)]))) (hP : Pieces w P cs) : IsWriter w g (zs ++ ys) := by
  have hm : (m + ys.length) % 64 = m % 64 + ys.length := by omega
  refine ⟨P, cs, splice last (m % 64) ys, ?_, hP, splice_len hl (by omega), splice_mem hb hy, ?_⟩
  · rw [List.length_append, hlen]; exact hR
  · rw [List.length_append, hlen, hm, splice_take hl (by omega), ← List.append_assoc, ← hx]
/-- a round that fills it -/
theorem writer_full {g' : Nat} (hlen : zs.length = m) (hx : zs = cs.reverse.flatten ++ last.take (m % 64)) (hl : last.length = 64) (hb : ∀ x ∈ last, x < 256) (hy : ∀ x ∈ ys, x < 256)
    (hr : m % 64 + ys.length = 64) (hR : Row w g 63 (.pointer (some ⟨g', 0, none⟩) :: (u8s (splice last (m % 64) ys) ++ [.int .i64 (m + ys.length : Nat)])))
    (hR' : Row w g' 66 (.pointer P :: u8s (splice last (m % 64) ys))) (hP : Pieces w P cs) : IsWriter w g (zs ++ ys) := by
  have hm : (m + ys.length) % 64 = 0 := by omega
  refine ⟨_, splice last (m % 64) ys :: cs, splice last (m % 64) ys, ?_, ⟨g', P, rfl, splice_len hl (by omega), splice_mem hb hy, hR', hP⟩, splice_len hl (by omega), splice_mem hb hy, ?_⟩
  · rw [List.length_append, hlen]; exact hR
  · rw [List.length_append, hlen, hm, List.take_zero, List.append_nil, List.reverse_cons, List.flatten_append]
    have := splice_take (last := last) (ys := ys) (r := m % 64) hl (by omega)
    rw [hr, List.take_of_length_le (by rw [splice_len hl (by omega)]; omega)] at this
    rw [this]
    simp only [List.flatten_cons, List.flatten_nil, List.append_nil]
    rw [← List.append_assoc, ← hx]
end
section
variable {P : Program}
/-- copy into a block that is known whole -/
theorem wpList_copy_at {w : World} {ops : Array Oper} {rest : List Oper} {o : Oper} {a : Act} {Q : Exit → Act → World → Prop} (hgd : o.guard = none) (d s : Operand) (dT sT : TypeId)
    (ho : o.op = .call { callee := .builtin .copy, args := #[d, s], argTypes := #[dT, sT] }) (elem : TypeId) (hu : P.underlying dT = some (.slice elem)) (hsz : (P.info? elem).map (·.size) = some 1)
    (dp sp : Option Addr) (dLen dCap sLen sCap : Nat) (hd : a.eval d = .slice dp dLen dCap) (hs : a.eval s = .slice sp sLen sCap)
    (g off : Nat) (cur : List Value) (t : TypeId) (hg : Row w g t cur) (xs : List Nat) (hn : xs.length = Nat.min sLen dLen)
    (hpos : 0 < xs.length → dp = some ⟨g, off, none⟩ ∧ ∃ ad, sp = some ad ∧ ∀ (j x : Nat), xs[j]? = some x → w.cell? (ad.add j) = some (.int .u8 (x : Nat)))
    (hfit : off + xs.length ≤ cur.length)
    (h : ∀ w', Hid (Row w' g t (splice cur off (u8s xs))) → w.grownBy w' (some g) → wpList P ops Q rest (a.put o.dst (goInt (xs.length : Nat))) w') :
    wpList P ops Q (o :: rest) a w := by
  by_cases h0 : xs.length = 0
  · obtain rfl : xs = [] := List.eq_nil_of_length_eq_zero h0
    refine wpList_copy_nothing hgd d s dT sT ho elem hu hsz dp sp dLen dCap sLen sCap hd hs (by simpa using hn.symm) ?_
    exact h w (show _ = _ by unfold Row at hg; simpa [splice] using hg) (World.grownBy.refl w _)
  · obtain ⟨rfl, ad, rfl, hsrc⟩ := hpos (by omega)
    refine wpList_copy_own hgd d s dT sT ho elem hu hsz g off dLen dCap ad sLen sCap hd hs cur.toArray t hg (u8s xs) (by simpa using hn) ?_ (by simpa using hfit) ?_ ?_
    · intro j v hv
      rw [List.getElem?_map] at hv
      cases hx : xs[j]? with
      | none => simp [hx] at hv
      | some x => simp [hx] at hv; rw [← hv]; exact hsrc j x hx
    · intro v hv
      obtain ⟨x, _, rfl⟩ := List.mem_map.1 hv
      rfl
    · have := h (w.setRow g (cur.take off ++ (u8s xs ++ cur.drop (off + xs.length))).toArray) (show _ = _ by
        have := setRow_heap w g _ (cur.take off ++ (u8s xs ++ cur.drop (off + xs.length))).toArray t _ hg
        simpa [splice] using this) (grown_setRow w g _)
      simpa using this
theorem at_copy {w : World} {o : Oper} {a : Act} {C : World → Prop} (d s : Operand) (dT sT : TypeId)
    (ho : o.op = .call { callee := .builtin .copy, args := #[d, s], argTypes := #[dT, sT] }) (elem : TypeId) (hu : P.underlying dT = some (.slice elem)) (hsz : (P.info? elem).map (·.size) = some 1)
    (dp sp : Option Addr) (dLen dCap sLen sCap : Nat) (hd : a.eval d = .slice dp dLen dCap) (hs : a.eval s = .slice sp sLen sCap)
    (g off : Nat) (cur : List Value) (t : TypeId) (hg : Row w g t cur) (xs : List Nat) (n : Nat) (hxn : xs.length = n) (hn : n = Nat.min sLen dLen)
    (hpos : 0 < n → dp = some ⟨g, off, none⟩ ∧ ∃ ad, sp = some ad ∧ ∀ (j x : Nat), xs[j]? = some x → w.cell? (ad.add j) = some (.int .u8 (x : Nat)))
    (hfit : off + n ≤ cur.length)
    (h : ∀ w', Row w' g t (splice cur off (u8s xs)) → w.grownBy w' (some g) → C w') : Stage.at_ P o a C w (goInt (n : Nat)) := by
  subst hxn
  by_cases h0 : xs.length = 0
  · obtain rfl : xs = [] := List.eq_nil_of_length_eq_zero h0
    have hrun := run_copy_none (P := P) w dT sT o.type elem dp sp dLen dCap sLen sCap hu hsz (by simpa using hn.symm)
    unfold Stage.at_
    simp [execOp, ho, resolve, invoke, builtin, hd, hs, hrun, Result.andThen, Stage.upon]
    exact h w (by unfold Row at hg ⊢; simpa [splice] using hg) (World.grownBy.refl w _)
  · obtain ⟨rfl, ad, rfl, hsrc⟩ := hpos (by omega)
    have hrun := run_copy_row (P := P) w dT sT o.type elem g off dLen dCap ad sLen sCap cur.toArray t (u8s xs) hu hsz hg (by simpa using hn) (by
      intro j v hv
      rw [List.getElem?_map] at hv
      cases hx : xs[j]? with
      | none => simp [hx] at hv
      | some x => simp [hx] at hv; rw [← hv]; exact hsrc j x hx) (by simpa using hfit) (by
      intro v hv
      obtain ⟨x, _, rfl⟩ := List.mem_map.1 hv
      rfl)
    unfold Stage.at_
    simp [execOp, ho, resolve, invoke, builtin, hd, hs, hrun, Result.andThen, Stage.upon]
    have := h (w.setRow g (cur.take off ++ (u8s xs ++ cur.drop (off + xs.length))).toArray) (by
        have := setRow_heap w g _ (cur.take off ++ (u8s xs ++ cur.drop (off + xs.length))).toArray t _ hg
        unfold Row
        simpa [splice] using this) (grown_setRow w g _)
    simpa using this
end
end Go.Proofs.Ytmliiglhglhjkaa
