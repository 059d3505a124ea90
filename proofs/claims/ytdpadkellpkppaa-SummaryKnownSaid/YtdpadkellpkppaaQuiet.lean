/- Regions whose order is open and whose callees may make memory: loads of what was there. -/
import Derived.Test.YtdpadkellpkppaaRegion
import Derived.Test.YtdpadkellpkppaaParts
import Derived.Test.YtdpadkellpkppaaStVal
namespace Go.Proofs.Ytdpadkellpkppaa
open Go.RowKit
section
variable {P : Program} {C : World → Prop} {K : Act → Prop} {a : Act} {o : Oper} {ops : Array Oper}
theorem q_load {v p : Value} (t : TypeId) (x : Operand) (ho : o.op = .load t x) (hw : Region.wanted o (yielded ops a.tmps) = true) (hx : a.eval x = p) (hr : ∀ w', C w' → (Instr.loadAt t p).run P w' = .ok v w') (hk : K (a.put o.dst v)) :
    if Region.wanted o (yielded ops a.tmps) then o.quiet P a C K else K (a.put o.dst undef) := by
  rw [if_pos hw]
  refine ⟨v, fun w' hw' => ?_, hk⟩
  unfold Oper.quietAt execOp
  simp only [ho, hx, Sem.run_bind, hr w' hw', Result.andThen_ok, Sem.run_pure, Oper.quietUpon]
  exact ⟨trivial, trivial⟩
end
/-- block g holds the time t -/
def Holds (w : World) (g : Nat) (t : St) : Prop := Row w g 26 t.cells
section
variable {W : World} {g : Nat} {t : St}
theorem Holds.lt (h : Holds W g t) : g < W.heap.size := Row.lt h
theorem Holds.below {w' : World} (h : Holds W g t) (hb : Below W.heap.size W w') : Holds w' g t := Row.below h hb h.lt
theorem Holds.alloc (h : Holds W g t) (o : Obj) : Holds (W.alloc o) g t := Row.alloc h o
theorem Holds.drewN (h : Holds W g t) (n : Nat) : Holds (W.drewN n) g t := h
theorem Holds.made (w : World) (t : St) : Holds (w.alloc (.cells #[.int .i64 t.d, .int .i64 t.e, .int .i64 t.x, .int .i64 t.y, .int .i64 t.z] 26)) w.heap.size t := Row.made w _ _
theorem Holds.at_ (h : Holds W g t) (j : Nat) : W.cell? ⟨g, j, none⟩ = t.cells[j]? := Row.cell h j
theorem load_t (h : Holds W g t) : ∀ w', Below W.heap.size W w' → (Instr.loadAt 26 (.pointer (some ⟨g, 0, none⟩))).run Try.prog w' = .ok (.agg #[.int .i64 t.d, .int .i64 t.e, .int .i64 t.x, .int .i64 t.y, .int .i64 t.z]) w' :=
  fun w' hb => run_loadAt_part g 0 26 _ t.cells (fun j v hj => by rw [add_at, (h.below hb).at_, Nat.zero_add]; exact hj) Try.underlying26 rfl (by kernel_rfl)
theorem load_l (h : Holds W g t) : ∀ w', Below W.heap.size W w' → (Instr.loadAt 22 (.pointer (some ⟨g, 2, none⟩))).run Try.prog w' = .ok (.agg #[.int .i64 t.x, .int .i64 t.y, .int .i64 t.z]) w' :=
  fun w' hb => run_loadAt_part g 2 22 _ [.int .i64 t.x, .int .i64 t.y, .int .i64 t.z] (fun j v hj => by rw [add_at, (h.below hb).at_, Nat.add_comm]; exact hj) Try.underlying22 rfl (by kernel_rfl)
theorem load_1 (h : Holds W g t) (j : Nat) {v : Int} (hj : t.cells[j]? = some (.int .i64 v)) : ∀ w', Below W.heap.size W w' → (Instr.loadAt 3 (.pointer (some ⟨g, j, none⟩))).run Try.prog w' = .ok (.int .i64 v) w' := by
  intro w' hb
  have hc := ((h.below hb).at_ j).trans hj
  go_simp
theorem load_d (h : Holds W g t) : ∀ w', Below W.heap.size W w' → (Instr.loadAt 3 (.pointer (some ⟨g, 0, none⟩))).run Try.prog w' = .ok (.int .i64 t.d) w' := load_1 h 0 rfl
theorem load_e (h : Holds W g t) : ∀ w', Below W.heap.size W w' → (Instr.loadAt 3 (.pointer (some ⟨g, 1, none⟩))).run Try.prog w' = .ok (.int .i64 t.e) w' := load_1 h 1 rfl
theorem load_x (h : Holds W g t) : ∀ w', Below W.heap.size W w' → (Instr.loadAt 3 (.pointer (some ⟨g, 2, none⟩))).run Try.prog w' = .ok (.int .i64 t.x) w' := load_1 h 2 rfl
theorem load_y (h : Holds W g t) : ∀ w', Below W.heap.size W w' → (Instr.loadAt 3 (.pointer (some ⟨g, 3, none⟩))).run Try.prog w' = .ok (.int .i64 t.y) w' := load_1 h 3 rfl
theorem load_z (h : Holds W g t) : ∀ w', Below W.heap.size W w' → (Instr.loadAt 3 (.pointer (some ⟨g, 4, none⟩))).run Try.prog w' = .ok (.int .i64 t.z) w' := load_1 h 4 rfl
end
end Go.Proofs.Ytdpadkellpkppaa
