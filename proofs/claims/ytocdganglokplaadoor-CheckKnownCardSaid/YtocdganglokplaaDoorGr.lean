/- Graphs in memory: a row of nodes, each with a row of numbers of its own. -/
import Derived.Test.YtocdganglokplaaDoorRw
import Derived.Test.YtocdganglokplaaDoorFlowMath
import Derived.Test.YtocdganglokplaaDoorLaw
namespace Go.Proofs.YtocdganglokplaaDoor
open Go.ChangeShapes Go.WideShapes Go.ChangeAt Go.RowKit Go.BigFrame
set_option linter.unusedVariables false
set_option maxRecDepth 100000
/-- a node, and where its inputs lie -/
structure Gn where
  nd : Nd
  A : Option Addr
  c : Nat
def kindI : Kind Int := ⟨fun x => [.int .i64 x], 1, fun _ => rfl, fun t u hu => by simp only [List.mem_singleton] at hu; subst hu; rfl, by decide⟩
def kindG : Kind Gn := ⟨fun x => [.int .u8 (x.nd.k : Nat), .int .u8 (x.nd.a : Nat), .int .i64 x.nd.b, .int .i64 x.nd.d, .slice x.A x.nd.ins.length x.c], 5, fun _ => rfl, fun t u hu => by
  simp only [List.mem_cons, List.not_mem_nil, or_false] at hu
  rcases hu with rfl | rfl | rfl | rfl | rfl <;> rfl, by decide⟩
/-- its numbers are such -/
structure Gn.Ok (x : Gn) : Prop where
  k : x.nd.k < 256
  a : x.nd.a < 256
  b : -9223372036854775808 ≤ x.nd.b ∧ x.nd.b ≤ 9223372036854775807
  d : -9223372036854775808 ≤ x.nd.d ∧ x.nd.d ≤ 9223372036854775807
  ins : ∀ z ∈ x.nd.ins, -9223372036854775808 ≤ z ∧ z ≤ 9223372036854775807
  c : x.nd.ins.length ≤ x.c ∧ x.c ≤ maxLen
  none : x.A = Option.none → x.c = 0
def nds (g : List Gn) : List Nd := g.map Gn.nd
/-- the slice at A holds the graph g -/
def Gr (w : World) (A : Option Addr) (g : List Gn) : Prop := Rw.Ts kindG w A g ∧ ∀ x ∈ g, x.Ok ∧ Rw.Ts kindI w x.A x.nd.ins
section
variable {w w' : World} {A : Option Addr} {g : List Gn}
theorem Gr.below (h : Gr w A g) (hb : Below w.heap.size w w') : Gr w' A g := ⟨h.1.below hb, fun x hx => ⟨(h.2 x hx).1, (h.2 x hx).2.below hb⟩⟩
theorem Gr.nil : Gr w A [] := ⟨Rw.Ts.nil, fun x hx => by cases hx⟩
theorem Gr.ok (h : Gr w A g) {i : Nat} {x : Gn} (hi : g[i]? = some x) : x.Ok := (h.2 x (List.mem_of_getElem? hi)).1
theorem Gr.take (h : Gr w A g) (k : Nat) : Gr w A (g.take k) := ⟨h.1.take k, fun x hx => h.2 x (List.mem_of_mem_take hx)⟩
theorem Gr.at_ (h : Gr w A g) {i : Nat} {x : Gn} (hi : g[i]? = some x) : ∃ b o, A = some ⟨b, o, none⟩ ∧ b < w.heap.size ∧ ∀ w', Below w.heap.size w w' →
    w'.cell? ⟨b, o + i * 5, none⟩ = some (.int .u8 (x.nd.k : Nat)) ∧ w'.cell? ⟨b, o + i * 5 + 1, none⟩ = some (.int .u8 (x.nd.a : Nat)) ∧ w'.cell? ⟨b, o + i * 5 + 2, none⟩ = some (.int .i64 x.nd.b) ∧ w'.cell? ⟨b, o + i * 5 + 3, none⟩ = some (.int .i64 x.nd.d) ∧ w'.cell? ⟨b, o + i * 5 + 4, none⟩ = some (.slice x.A x.nd.ins.length x.c) := by
  obtain ⟨b, o, e, hlt, hc⟩ := h.1.at_ hi
  exact ⟨b, o, e, hlt, fun w' hb => ⟨hc w' hb 0 _ rfl, hc w' hb 1 _ rfl, hc w' hb 2 _ rfl, hc w' hb 3 _ rfl, hc w' hb 4 _ rfl⟩⟩
theorem Gr.ins (h : Gr w A g) {i : Nat} {x : Gn} (hi : g[i]? = some x) : Rw.Ts kindI w x.A x.nd.ins := (h.2 x (List.mem_of_getElem? hi)).2
end
theorem ints_at {w : World} {A : Option Addr} {l : List Int} (h : Rw.Ts kindI w A l) {i : Nat} {z : Int} (hi : l[i]? = some z) : ∃ b o, A = some ⟨b, o, none⟩ ∧ b < w.heap.size ∧ ∀ w', Below w.heap.size w w' → w'.cell? ⟨b, o + i, none⟩ = some (.int .i64 z) := by
  obtain ⟨b, o, e, hlt, hc⟩ := h.at_ hi
  refine ⟨b, o, e, hlt, fun w' hb => ?_⟩
  have := hc w' hb 0 _ rfl
  simp only [kindI, Nat.mul_one, Nat.add_zero] at this
  exact this
/-- a node as it lies in memory, loaded whole -/
theorem run_load_gn (w : World) (b o : Nat) (x : Gn) (h : ∀ (j : Nat) (v : Value), (kindG.cells x)[j]? = some v → w.cell? ⟨b, o + j, none⟩ = some v) :
    (Instr.loadAt 39 (.pointer (some ⟨b, o, none⟩))).run Tryd.prog w = .ok (.agg #[.int .u8 (x.nd.k : Nat), .int .u8 (x.nd.a : Nat), .int .i64 x.nd.b, .int .i64 x.nd.d, .slice x.A x.nd.ins.length x.c]) w :=
  run_loadAt_part b o 39 _ (kindG.cells x) (fun j v hj => by rw [add_at]; exact h j v hj) Tryd.underlying39 rfl (by kernel_rfl)
theorem Gr.load {w : World} {A : Option Addr} {g : List Gn} (h : Gr w A g) {i : Nat} {x : Gn} (hi : g[i]? = some x) : ∃ b o, A = some ⟨b, o, none⟩ ∧ b < w.heap.size ∧
    ∀ w', Below w.heap.size w w' → (Instr.loadAt 39 (.pointer (some ⟨b, o + i * 5, none⟩))).run Tryd.prog w' = .ok (.agg #[.int .u8 (x.nd.k : Nat), .int .u8 (x.nd.a : Nat), .int .i64 x.nd.b, .int .i64 x.nd.d, .slice x.A x.nd.ins.length x.c]) w' := by
  obtain ⟨b, o, e, hlt, hc⟩ := h.1.at_ hi
  exact ⟨b, o, e, hlt, fun w' hb => run_load_gn _ _ _ _ fun j v hj => hc w' hb j v hj⟩
theorem infoNode : (Tryd.prog.info? 39).map (fun i => (i.zero, i.size, i.bytes)) = some (some (.agg #[.int .u8 0, .int .u8 0, .int .i64 0, .int .i64 0, .slice none 0 0]), 5, 48) := by kernel_rfl
theorem infoInt : (Tryd.prog.info? 3).map (fun i => (i.zero, i.size, i.bytes)) = some (some (.int .i64 0), 1, 8) := by kernel_rfl
end Go.Proofs.YtocdganglokplaaDoor
