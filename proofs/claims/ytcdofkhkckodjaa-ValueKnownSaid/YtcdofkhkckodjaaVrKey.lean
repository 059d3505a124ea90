/- Rows as values; the contracts on them; a region whose order is open, in which rows are made and handed on, and nothing that was there is written: the class FT. -/
import Derived.Test.YtcdofkhkckodjaaVrRefLess
import Derived.Test.YtcdofkhkckodjaaVrRefPut
import Derived.Test.YtcdofkhkckodjaaVrOpen
import Derived.Test.YtcdofkhkckodjaaKey
namespace Go.Proofs.Ytcdofkhkckodjaa
namespace Vr
open Go.ChangeShapes Go.WideShapes Go.ChangeAt Go.RowKit Go.BigFrame
set_option linter.unusedVariables false
set_option maxRecDepth 100000
/-- a slice that reads as the row l -/
def RowV (w : World) (v : Value) (l : List Rd) : Prop := ∃ A c, v = .slice A l.length c ∧ Rw.Ts kindR w A l ∧ (A = none → c = 0 ∧ l = []) ∧ l.length ≤ c ∧ c ≤ maxLen
theorem RowV.below {w w' : World} {v : Value} {l : List Rd} (h : RowV w v l) (hb : Below w.heap.size w w') : RowV w' v l := by
  obtain ⟨A, c, e, hT, h3⟩ := h
  exact ⟨A, c, e, hT.below hb, h3⟩
theorem RowV.own {w : World} {base n : Nat} {v : Value} {l : List Rd} (h : w.ownsRow base 32 kindR.K v n (Rw.row kindR l)) : RowV w v l := by
  obtain ⟨A, c, e, hT, h1, h2, h3⟩ := own_ts h
  exact ⟨A, c, e, hT, h1, h2, h3⟩
theorem RowV.made (w : World) (l : List Rd) (h : l.length ≤ maxLen) (ar : Array Value) (har : ar = (Rw.row kindR l).toArray) (n : Nat) (hn : n = l.length) : RowV (w.alloc (.cells ar 32)) (.slice (some ⟨w.heap.size, 0, none⟩) n n) l := by
  subst har hn
  exact ⟨_, _, rfl, Rw.Ts.made w l _, (fun e => by cases e), Nat.le_refl _, h⟩
theorem RowV.nil (w : World) : RowV w (.slice none 0 0) [] := ⟨none, 0, rfl, Rw.Ts.nil, fun _ => ⟨rfl, rfl⟩, by simp, by simp⟩
/-- a literal of rows -/
def LitV (w : World) (v : Value) (ls : List (List Rd)) : Prop := ∃ B L, v = .slice (some ⟨B, 0, none⟩) ls.length ls.length ∧ RowsAt w B L ∧ L.map Rr.ts = ls
theorem LitV.below {w w' : World} {v : Value} {ls : List (List Rd)} (h : LitV w v ls) (hb : Below w.heap.size w w') : LitV w' v ls := by
  obtain ⟨B, L, e, hR, h2⟩ := h
  exact ⟨B, L, e, hR.below hb, h2⟩
/-- these slices are these rows -/
def RowsV (w : World) : List Value → List (List Rd) → Prop
  | [], [] => True
  | v :: vs, l :: ls => RowV w v l ∧ RowsV w vs ls
  | _, _ => False
theorem RowsV.rrs {w : World} : ∀ {vs : List Value} {ls : List (List Rd)}, RowsV w vs ls → ∃ L : List Rr, L.map Rr.val = vs ∧ (∀ r ∈ L, r.Ok w) ∧ L.map Rr.ts = ls
  | [], [], _ => ⟨[], rfl, by simp, rfl⟩
  | v :: vs, l :: ls, h => by
    obtain ⟨⟨A, c, e, hT, hn, h3⟩, h2⟩ := h
    obtain ⟨L, e1, e2, e3⟩ := RowsV.rrs h2
    refine ⟨⟨A, l, c⟩ :: L, ?_, ?_, ?_⟩
    · rw [List.map_cons, e1, e]; rfl
    · intro r hr
      rcases List.mem_cons.1 hr with rfl | hr
      · exact ⟨hT, hn⟩
      · exact e2 r hr
    · rw [List.map_cons, e3]
theorem LitV.made (w : World) (vs : List Value) (ls : List (List Rd)) (h : RowsV w vs ls) (ar : Array Value) (har : ar = vs.toArray) (n : Nat) (hn : n = ls.length) : LitV (w.alloc (.cells ar 22)) (.slice (some ⟨w.heap.size, 0, none⟩) n n) ls := by
  subst har hn
  obtain ⟨L, e1, e2, e3⟩ := RowsV.rrs h
  refine ⟨_, L, rfl, ?_, e3⟩
  have := RowsAt.made w L e2
  rw [e1] at this
  exact this
/-- bytes -/
def BytV (w : World) (v : Value) (xs : List Nat) : Prop := ∃ A c, v = .slice A xs.length c ∧ Bytes w A xs ∧ xs.length ≤ c ∧ c ≤ maxLen
theorem BytV.below {w w' : World} {v : Value} {l : List Nat} (h : BytV w v l) (hb : Below w.heap.size w w') : BytV w' v l := by
  obtain ⟨A, c, e, hT, h3⟩ := h
  exact ⟨A, c, e, hT.below hb, h3⟩
section
variable {w : World} {v va vb : Value} {l a b : List Rd} {ls : List (List Rd)}
/-- what answers a row -/
def GivesR (l : List Rd) (w : World) (e : Ending) (w' : World) : Prop := (∃ v', e = .returned v' ∧ RowV w' v' l) ∧ Below w.heap.size w w'
theorem AddD.gives {w' : World} {e : Ending} (h : AddD l w e w') : GivesR l w e w' := by
  obtain ⟨⟨v, he, ho⟩, hb⟩ := h
  exact ⟨⟨v, he, RowV.own ho⟩, hb⟩
theorem sorted_v (h : RowV w v l) (hl : l.length ≤ 100000) : Calls Try.prog 12 #[v] w (GivesR (sortR l) w) := by
  obtain ⟨A, c, rfl, hT, hn, _⟩ := h
  exact (sorted_any A l c w hT hn (by omega)).mono fun _ _ h => h.gives
theorem refSorted_v (h : RowV w v l) (hl : l.length ≤ 100000) : Calls Try.prog 14 #[v] w (GivesR (sortR l) w) := by
  obtain ⟨A, c, rfl, hT, hn, _⟩ := h
  exact (refSorted_any A l c w hT (by omega)).mono fun _ _ h => h.gives
theorem add_v (h : LitV w v ls) (h1 : ls.length ≤ 1000) (h2 : ls.flatten.length ≤ 100000) : Calls Try.prog 17 #[v] w (GivesR (sortR ls.flatten) w) := by
  obtain ⟨B, L, rfl, hR, rfl⟩ := h
  rw [List.length_map] at h1 ⊢
  exact (add_any B L w hR h1 (show (cat L).length ≤ 1000000 by unfold cat; omega)).mono fun _ _ h => AddD.gives h
theorem refAdd_v (h : LitV w v ls) (h1 : ls.length ≤ 1000) (h2 : ls.flatten.length ≤ 100000) : Calls Try.prog 18 #[v] w (GivesR (sortR ls.flatten) w) := by
  obtain ⟨B, L, rfl, hR, rfl⟩ := h
  rw [List.length_map] at h1 ⊢
  exact (refAdd_any B L w hR h1 (show (cat L).length ≤ 1000000 by unfold cat; omega)).mono fun _ _ h => AddD.gives h
theorem alike_v (h : RowV w va a) (k : RowV w vb b) (ha : a.length ≤ 100000) (hb : b.length ≤ 100000) : Calls Try.prog 13 #[va, vb] w fun e w' => e = .returned (.bool (sameR a b)) ∧ Below w.heap.size w w' := by
  obtain ⟨A, c, rfl, hT, _⟩ := h
  obtain ⟨B, d, rfl, hU, _⟩ := k
  exact alike_any A B a b c d w hT hU (by omega) (by omega)
theorem same_v (h : RowV w va a) (k : RowV w vb b) (ha : a.length ≤ 100000) (hb : b.length ≤ 100000) : Calls Try.prog 15 #[va, vb] w fun e w' => e = .returned (.bool (sameR (sortR a) (sortR b))) ∧ Below w.heap.size w w' := by
  obtain ⟨A, c, rfl, hT, hn, _⟩ := h
  obtain ⟨B, d, rfl, hU, hm, _⟩ := k
  exact same_any A B a b c d w hT hU hn hm (by omega) (by omega)
theorem refSame_v (h : RowV w va a) (k : RowV w vb b) (ha : a.length ≤ 100000) (hb : b.length ≤ 100000) : Calls Try.prog 16 #[va, vb] w fun e w' => e = .returned (.bool (sameR (sortR a) (sortR b))) ∧ Below w.heap.size w w' := by
  obtain ⟨A, c, rfl, hT, hn, _⟩ := h
  obtain ⟨B, d, rfl, hU, hm, _⟩ := k
  exact refSame_any A B a b c d w hT hU (by omega) (by omega)
/-- what Less answers -/
def GivesL (o : Option (List Rd)) (w : World) (e : Ending) (w' : World) : Prop := (∃ v', e = .returned (.tuple #[v', .bool o.isSome]) ∧ RowV w' v' (o.getD [])) ∧ Below w.heap.size w w'
theorem LessD.gives {o : Option (List Rd)} {w' : World} {e : Ending} (h : LessD o w e w') : GivesL o w e w' := by
  obtain ⟨⟨v, he, ho⟩, hb⟩ := h
  exact ⟨⟨v, he, RowV.own ho⟩, hb⟩
theorem less_v (h : RowV w va a) (k : RowV w vb b) (ha : a.length ≤ 100000) (hb : b.length ≤ 100000) : Calls Try.prog 10 #[va, vb] w (GivesL (lessR a b) w) := by
  obtain ⟨A, c, rfl, hT, hn, _⟩ := h
  obtain ⟨B, d, rfl, hU, hm, _⟩ := k
  exact (less_any A B a b c d w hT hU hn hm ha hb).mono fun _ _ h => h.gives
theorem refLess_v (h : RowV w va a) (k : RowV w vb b) (ha : a.length ≤ 100000) (hb : b.length ≤ 100000) : Calls Try.prog 11 #[va, vb] w (GivesL (lessR a b) w) := by
  obtain ⟨A, c, rfl, hT, hn, _⟩ := h
  obtain ⟨B, d, rfl, hU, hm, _⟩ := k
  exact (refLess_any A B a b c d w hT hU ha hb).mono fun _ _ h => h.gives
/-- what answers bytes -/
def GivesB (xs : List Nat) (w : World) (e : Ending) (w' : World) : Prop := (∃ v', e = .returned v' ∧ BytV w' v' xs) ∧ Below w.heap.size w w'
theorem PutD.gives {w' : World} {e : Ending} (h : PutD (putR l) w e w') : GivesB (putR l) w e w' := by
  obtain ⟨⟨v, he, ho⟩, hb⟩ := h
  obtain ⟨A, c, e', hB, h1, h2, _⟩ := own_bytes ho (putR_lt l)
  exact ⟨⟨v, he, A, c, e', hB, h1, h2⟩, hb⟩
theorem put_v (h : RowV w v l) (hl : l.length ≤ 10000) (hW : ∀ r ∈ l, r.W) : Calls Try.prog 21 #[v] w (GivesB (putR l) w) := by
  obtain ⟨A, c, rfl, hT, hn, _⟩ := h
  exact (put_any A l c w hT hl hW).mono fun _ _ h => PutD.gives h
theorem refPut_v (h : RowV w v l) (hl : l.length ≤ 10000) : Calls Try.prog 25 #[v] w (GivesB (putR l) w) := by
  obtain ⟨A, c, rfl, hT, hn, _⟩ := h
  exact (refPut_any A l c w hT hl).mono fun _ _ h => PutD.gives h
theorem sameBytes_v {xs ys : List Nat} (h : BytV w va xs) (k : BytV w vb ys) : Calls Try.prog 24 #[va, vb] w fun e w' => e = .returned (.bool (sameB xs ys)) ∧ w = w' := by
  obtain ⟨A, c, rfl, hA, _⟩ := h
  obtain ⟨B, d, rfl, hB, _⟩ := k
  exact sameBytes_any xs ys A B c d w hA hB
end
def Kept (p : World → Value → Prop) : Prop := ∀ w w' v, p w v → Below w.heap.size w w' → p w' v
theorem kept_row (l : List Rd) : Kept (fun w v => RowV w v l) := fun _ _ _ h hb => h.below hb
theorem kept_lit (l : List (List Rd)) : Kept (fun w v => LitV w v l) := fun _ _ _ h hb => h.below hb
theorem kept_byt (l : List Nat) : Kept (fun w v => BytV w v l) := fun _ _ _ h hb => h.below hb
theorem kept_true : Kept (fun _ _ => True) := fun _ _ _ _ _ => trivial
/-- what has come up reads as the table says -/
def FT (w0 : World) (tb : Nat → World → Value → Prop) (b : Nat → Bool) (vs : Nat → Value) (w : World) : Prop := Below w0.heap.size w0 w ∧ ∀ i, b i = true → tb i w (vs i)
section
variable {w0 w w' : World} {tb : Nat → World → Value → Prop} {b : Nat → Bool} {vs : Nat → Value} {i n : Nat} {v : Value}
theorem FT.step (hk : ∀ i, Kept (tb i)) (h : FT w0 tb b vs w) (hb : Below w.heap.size w w') (hv : tb i w' v) : FT w0 tb (Free.updb b i) (Free.updw vs i v) w' := by
  refine ⟨h.1.trans (hb.mono h.1.size), fun j hbj => ?_⟩
  by_cases e : j = i
  · subst e
    rw [Free.updw_self]; exact hv
  · rw [Free.updb_ne e] at hbj
    rw [Free.updw_ne e]; exact hk j _ _ _ (h.2 j hbj) hb
theorem FT.start (hn : ∀ i w v, n ≤ i → tb i w v) : FT w0 tb (fun i => decide (n ≤ i)) vs w0.drew := ⟨(Below.refl _ _).drew, fun j hb => hn _ _ _ (by simpa using hb)⟩
end
section
variable {P : Program} {K : Value → World → Prop} {o : Oper} {a : Act} {w w' : World}
theorem m_lit {v : Value} (t : TypeId) (n : Nat) (parts : Array (Nat × Operand)) (ps : List (Nat × Value)) (ho : o.op = .buildSlice t n parts) (hp : (parts.toList.map fun (i, x) => (i, a.eval x)) = ps)
    (hr : (Instr.buildSlice t n ps.toArray).run P w = .ok v w') (h : K v w') : Free.gets P K ((execOp a.eval o).run P w) := by
  have e : (parts.map fun (i, x) => (i, a.eval x)) = ps.toArray := by rw [← hp, ← Array.toList_map, Array.toArray_toList]
  unfold execOp; simp only [ho, e, Sem.run_bind, hr, Result.andThen_ok, Sem.run_pure, Free.gets]; exact h
theorem g_not {b : Bool} (t : TypeId) (x : Operand) (ho : o.op = .unOp .not t x) (hx : a.eval x = .bool b) (h : K (.bool (!b)) w) : Free.gets P K ((execOp a.eval o).run P w) := by
  unfold execOp
  simp only [ho, hx]
  simp [go_sem, Free.gets]
  exact h
end
theorem build_r1 (w : World) (a : Rd) : (Instr.buildSlice 22 1 #[(0, a.val)]).run Try.prog w = .ok (.slice (some ⟨w.heap.size, 0, none⟩) 1 1) (w.alloc (.cells #[.int .i64 a.k, .int .i64 a.v] 32)) := by
  go_simp
theorem build_r2 (w : World) (a b : Rd) : (Instr.buildSlice 22 2 #[(0, a.val), (1, b.val)]).run Try.prog w = .ok (.slice (some ⟨w.heap.size, 0, none⟩) 2 2) (w.alloc (.cells #[.int .i64 a.k, .int .i64 a.v, .int .i64 b.k, .int .i64 b.v] 32)) := by
  go_simp
theorem build_r4 (w : World) (a b c d : Rd) : (Instr.buildSlice 22 4 #[(0, a.val), (1, b.val), (2, c.val), (3, d.val)]).run Try.prog w = .ok (.slice (some ⟨w.heap.size, 0, none⟩) 4 4) (w.alloc (.cells #[.int .i64 a.k, .int .i64 a.v, .int .i64 b.k, .int .i64 b.v, .int .i64 c.k, .int .i64 c.v, .int .i64 d.k, .int .i64 d.v] 32)) := by
  go_simp
theorem build_l1 (w : World) (A : Option Addr) (n c : Nat) : (Instr.buildSlice 30 1 #[(0, .slice A n c)]).run Try.prog w = .ok (.slice (some ⟨w.heap.size, 0, none⟩) 1 1) (w.alloc (.cells #[.slice A n c] 22)) := by
  go_simp
theorem build_l2 (w : World) (A B : Option Addr) (n c m d : Nat) : (Instr.buildSlice 30 2 #[(0, .slice A n c), (1, .slice B m d)]).run Try.prog w = .ok (.slice (some ⟨w.heap.size, 0, none⟩) 2 2) (w.alloc (.cells #[.slice A n c, .slice B m d] 22)) := by
  go_simp
theorem build_l3 (w : World) (A B C : Option Addr) (n c m d k e : Nat) : (Instr.buildSlice 30 3 #[(0, .slice A n c), (1, .slice B m d), (2, .slice C k e)]).run Try.prog w = .ok (.slice (some ⟨w.heap.size, 0, none⟩) 3 3) (w.alloc (.cells #[.slice A n c, .slice B m d, .slice C k e] 22)) := by
  go_simp
theorem build_l4 (w : World) (A B C D : Option Addr) (n c m d k e q f : Nat) : (Instr.buildSlice 30 4 #[(0, .slice A n c), (1, .slice B m d), (2, .slice C k e), (3, .slice D q f)]).run Try.prog w = .ok (.slice (some ⟨w.heap.size, 0, none⟩) 4 4) (w.alloc (.cells #[.slice A n c, .slice B m d, .slice C k e, .slice D q f] 22)) := by
  go_simp
end Vr
end Go.Proofs.Ytcdofkhkckodjaa
