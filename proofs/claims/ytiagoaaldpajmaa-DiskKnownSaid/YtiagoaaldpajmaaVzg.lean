/- Several texts in one: CopyF. -/
import Derived.Test.YtiagoaaldpajmaaVzf
import Derived.Test.YtiagoaaldpajmaaVzb
import Derived.Test.YtiagoaaldpajmaaVl
namespace Go.Proofs.Ytiagoaaldpajmaa
open Go.ChangeShapes Go.WideShapes Go.ChangeAt Go.RowKit Go.BigFrame Go.Maps Go.Sort
set_option linter.unusedVariables false
theorem store_any (p x y : Nat) (w : World) (hc : w.cell? ⟨p, 3, none⟩ = some (.int .i64 (x : Nat))) (hz : w.frozen? ⟨p, 3, none⟩ = false) :
    Calls Try.prog 32 #[.pointer (some ⟨p, 3, none⟩), .int .i64 (y : Nat)] w fun e w' => e = .returned (.tuple #[]) ∧ w' = w.setCell ⟨p, 3, none⟩ (.int .i64 (y : Nat)) := by
  have hrun := run_call_store (P := Try.prog) (f := 64) Try.func64 (by kernel_rfl) (by kernel_rfl) (by kernel_rfl) (by kernel_rfl) (a := ⟨p, 3, none⟩) (k := .i64) (y := (y : Nat)) hc hz
  go_enter Try.func32, Try.ntmps32
  go_wp2
  go_end0
  exact ⟨rfl, rfl⟩
namespace Free
theorem g_mapUpdate {P : Program} {K : Value → World → Prop} {o : Oper} {a : Act} {w w' : World} (mo x v : Operand) (t : TypeId) (hop : o.op = Op.mapUpdate t mo x v) (m key val : Value) (hm : a.eval mo = m) (hx : a.eval x = key) (hv : a.eval v = val)
    (hr : (Instr.mapUpdate t m key val).run P w = .ok () w') (h : K undef w') : gets P K ((execOp a.eval o).run P w) := by
  unfold execOp
  simp only [hop, hm, hx, hv, Sem.run_bind, hr, Result.andThen_ok, Sem.run_pure, gets]
  exact h
theorem g_nilc {P : Program} {K : Value → World → Prop} {o : Oper} {a : Act} {w : World} {b : Addr} (x : Operand) (ho : o.op = .nilCheck x) (hx : a.eval x = .pointer (some b)) (h : K (.pointer (some b)) w) : gets P K ((execOp a.eval o).run P w) := by
  unfold execOp; simp only [ho, hx, Sem.run_pure, gets]; exact h
end Free
/-- what one file more leaves -/
def OneMore (W : World) (B : Nat) (n : Nm) (f : Fil) (fs' : Fs) (g' : Nm → Nat) (wr : World) : Prop :=
  ∃ nb V', MapAt wr (some B) (putF n f fs') (upd g' n nb) ∧ FileAt wr nb V' f ∧ W.heap.size ≤ nb ∧ (∀ k, V'.ownBlock = some k → W.heap.size ≤ k) ∧ Touch (· = B) W wr
/-- a file is copied, in whatever order -/
structure CopyF (W : World) (B : Nat) (n : Nm) (f : Fil) (fs' : Fs) (g' : Nm → Nat) (b : Nat → Bool) (vs : Nat → Value) (wr : World) : Prop where
  touch : Touch (· = B) W wr
  s0 : b 9 = false → wr = W
  s1 : b 9 = true → b 19 = false → wr.ownsRow W.heap.size 5 1 (vs 9) f.b.length (u8s f.b) ∧ Below W.heap.size W wr
  s18 : b 18 = true → b 9 = true ∧ vs 18 = .agg #[vs 9, .int .i64 (f.sure : Nat), .bool f.made]
  s19 : b 19 = true → b 20 = false → ∃ nb, vs 19 = .pointer (some ⟨nb, 0, none⟩) ∧ W.heap.size ≤ nb ∧ FileAt wr nb (vs 9) f ∧ Below W.heap.size W wr ∧ ∀ k, (vs 9).ownBlock = some k → W.heap.size ≤ k
  c19 : b 19 = true → b 18 = true
  c20 : b 20 = true → b 19 = true
  s20 : b 20 = true → OneMore W B n f fs' g' wr
section
variable {W wr w' : World} {B gn pp : Nat} {n : Nm} {f : Fil} {fs' : Fs} {g' : Nm → Nat} {b : Nat → Bool} {vs : Nat → Value} {i : Nat} {v V : Value}
theorem CopyF.keep (h : CopyF W B n f fs' g' b vs wr) (h9 : i ≠ 9) (h18 : i ≠ 18) (h19 : i ≠ 19) (h20 : i ≠ 20) : CopyF W B n f fs' g' (Free.updb b i) (Free.updw vs i v) wr := by
  have e9 : Free.updb b i 9 = b 9 := Free.updb_ne (Ne.symm h9)
  have e18 : Free.updb b i 18 = b 18 := Free.updb_ne (Ne.symm h18)
  have e19 : Free.updb b i 19 = b 19 := Free.updb_ne (Ne.symm h19)
  have e20 : Free.updb b i 20 = b 20 := Free.updb_ne (Ne.symm h20)
  have v9 : Free.updw vs i v 9 = vs 9 := Free.updw_ne (Ne.symm h9)
  have v18 : Free.updw vs i v 18 = vs 18 := Free.updw_ne (Ne.symm h18)
  have v19 : Free.updw vs i v 19 = vs 19 := Free.updw_ne (Ne.symm h19)
  exact ⟨h.touch, by rw [e9]; exact h.s0, by rw [e9, e19, v9]; exact h.s1, by rw [e18, e9, v18, v9]; exact h.s18, by rw [e19, e20, v19, v9]; exact h.s19, by rw [e19, e18]; exact h.c19, by rw [e20, e19]; exact h.c20, by rw [e20]; exact h.s20⟩
/-- its bytes are copied -/
theorem CopyF.clone (h : CopyF W B n f fs' g' b vs wr) (hb : b 9 = false) (hV : W.ownsRow 0 5 1 V f.b.length (u8s f.b)) (hl : f.b.length ≤ 8388608) :
    Calls Try.prog 34 #[V] wr fun e w' => ∃ V', e = .returned V' ∧ CopyF W B n f fs' g' (Free.updb b 9) (Free.updw vs 9 V') w' := by
  obtain rfl := h.s0 hb
  refine (clone_any hV hl).mono ?_
  rintro e w' ⟨V', rfl, hown, hbl⟩
  have h19 : b 19 = false := by
    cases h9 : b 19 with
    | false => rfl
    | true => rw [(h.s18 (h.c19 h9)).1] at hb; cases hb
  have h18 : b 18 = false := by
    cases h9 : b 18 with
    | false => rfl
    | true => rw [(h.s18 h9).1] at hb; cases hb
  have h20 : b 20 = false := by
    cases h9 : b 20 with
    | false => rfl
    | true => rw [h.c20 h9] at h19; cases h19
  have e9 : Free.updb b 9 9 = true := Free.updb_self
  have e18 : Free.updb b 9 18 = false := h18
  have e19 : Free.updb b 9 19 = false := h19
  have e20 : Free.updb b 9 20 = false := h20
  exact ⟨V', rfl, Touch.of_below hbl, by rw [e9]; simp, fun _ _ => ⟨hown, hbl⟩, by rw [e18]; simp, by rw [e19]; simp, by rw [e19]; simp, by rw [e20]; simp, by rw [e20]; simp⟩
theorem CopyF.slice9 (h : CopyF W B n f fs' g' b vs wr) (hb : b 9 = true) (hi : b 19 = false) : ∃ A c, vs 9 = .slice A f.b.length c := by
  obtain ⟨_, ⟨e1, e2⟩ | ⟨g9, cap9, cur9, e1, _⟩⟩ := (h.s1 hb hi).1
  · exact ⟨none, 0, by rw [e1, e2]⟩
  · exact ⟨_, _, e1⟩
theorem CopyF.no19 (h : CopyF W B n f fs' g' b vs wr) (hb : b 18 = false) : b 19 = false := by
  cases h9 : b 19 with
  | false => rfl
  | true => rw [h.c19 h9] at hb; cases hb
theorem CopyF.build (h : CopyF W B n f fs' g' b vs wr) (hb : b 9 = true) (hi : b 18 = false) (hv : v = .agg #[vs 9, .int .i64 (f.sure : Nat), .bool f.made]) : CopyF W B n f fs' g' (Free.updb b 18) (Free.updw vs 18 v) wr :=
  ⟨h.touch, h.s0, h.s1, fun _ => ⟨hb, hv⟩, h.s19, fun _ => Free.updb_self, h.c20, h.s20⟩
theorem CopyF.box (h : CopyF W B n f fs' g' b vs wr) (hb : b 18 = true) (hi : b 19 = false) (hlt : ∀ x ∈ f.b, x < 256) :
    vs 18 = .agg #[vs 9, .int .i64 (f.sure : Nat), .bool f.made] ∧ CopyF W B n f fs' g' (Free.updb b 19) (Free.updw vs 19 (.pointer (some ⟨wr.heap.size, 0, none⟩))) (wr.alloc (.cells #[vs 9, .int .i64 (f.sure : Nat), .bool f.made] TF)) := by
  obtain ⟨h9, h18⟩ := h.s18 hb
  obtain ⟨hown, hbl⟩ := h.s1 h9 hi
  have h20 : b 20 = false := by
    cases h9 : b 20 with
    | false => rfl
    | true => rw [h.c20 h9] at hi; cases hi
  have hr : Row (wr.alloc (.cells #[vs 9, .int .i64 (f.sure : Nat), .bool f.made] TF)) wr.heap.size TF [vs 9, .int .i64 (f.sure : Nat), .bool f.made] := Row.made wr TF [vs 9, .int .i64 (f.sure : Nat), .bool f.made]
  have hbl2 : Below W.heap.size W (wr.alloc (.cells #[vs 9, .int .i64 (f.sure : Nat), .bool f.made] TF)) := hbl.alloc hbl.size _
  refine ⟨h18, h.touch.alloc _, ?_, ?_, h.s18, fun _ _ => ⟨wr.heap.size, rfl, hbl.size, ⟨hr, ?_, hlt⟩, hbl2, fun k hk => (hown.lt k hk).1⟩, fun _ => hb, fun _ => rfl, ?_⟩
  · intro e; rw [show Free.updb b 19 9 = b 9 from rfl, h9] at e; cases e
  · intro _ e; rw [show Free.updb b 19 19 = true from rfl] at e; cases e
  · exact ownsRow_base_a (ownsRow_touch hown ((Touch.refl (fun _ => False) wr).alloc _) (by simp)) (Nat.zero_le _)
  · intro e; rw [show Free.updb b 19 20 = b 20 from rfl, h20] at e; cases e
theorem CopyF.update (h : CopyF W B n f fs' g' b vs wr) (hb : b 19 = true) (hi : b 20 = false) (hM : MapAt W (some B) fs' g') (hlen : fs'.length ≤ 1000000000) (s : ByteArray) (hs : s.size ≤ maxLen) (hn : s.data.toList = n) (hno : getF n fs' = none) :
    ∃ nb w', vs 19 = .pointer (some ⟨nb, 0, none⟩) ∧ (Instr.mapUpdate TM (.map (some B)) (.string s) (.pointer (some ⟨nb, 0, none⟩))).run Try.prog wr = .ok () w' ∧ CopyF W B n f fs' g' (Free.updb b 20) (Free.updw vs 20 undef) w' := by
  obtain ⟨nb, e, hnb, hf, hbl, hob⟩ := h.s19 hb hi
  have hown : wr.ownsMap Try.prog 9 refPtr B fs'.length (dat fs' g') := ownsMap_touch hM (Touch.of_below (F := fun _ => False) hbl) (by simp)
  obtain ⟨w', hrun, h1, h2⟩ := hown.update str_law und_map (by unfold maxLen; omega) (key_of hs) (val := .pointer (some ⟨nb, 0, none⟩)) (d := .lit (.int .i64 (nb : Nat))) (ps := []) rfl
  rw [hn, dat_put fs' g' n f nb] at h1
  have hnB : nb ≠ B := by
    rintro rfl
    exact (map_ne_row hown hf.row) rfl
  have hVB : ∀ k, (vs 9).ownBlock = some k → ¬ k = B := by
    rintro k hk rfl
    exact MapAt.ne_own (fs := fs') (g := g') hown hf.own hk rfl
  have ht : Touch (· = B) wr w' := Touch.of_grown h2 (fun k hk => (Option.some.inj hk).symm)
  have h9 : b 9 = true := (h.s18 (h.c19 hb)).1
  refine ⟨nb, w', e, hrun, h.touch.trans ht, ?_, ?_, h.s18, ?_, h.c19, fun _ => hb, fun _ => ⟨nb, vs 9, MapAt.own h1, hf.touch ht hnB hVB, hnb, hob, h.touch.trans ht⟩⟩
  · intro e; rw [show Free.updb b 20 9 = b 9 from rfl, h9] at e; cases e
  · intro _ e; rw [show Free.updb b 20 19 = b 19 from rfl, hb] at e; cases e
  · intro _ e; rw [show Free.updb b 20 20 = true from rfl] at e; cases e
theorem CopyF.cell (h : CopyF W B n f fs' g' b vs wr) {k o : Nat} (hk : k < W.heap.size) (hne : k ≠ B) : wr.cell? ⟨k, o, none⟩ = W.cell? ⟨k, o, none⟩ := World.cell?_of_block (h.touch.block k hk hne)
end
end Go.Proofs.Ytiagoaaldpajmaa
