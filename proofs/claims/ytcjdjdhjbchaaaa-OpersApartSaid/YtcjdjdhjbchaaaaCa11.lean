/- OpRec -/
import Derived.Test.YtcjdjdhjbchaaaaCa10
import Derived.StillTailTactics
import Derived.RegionTactic
import Derived.BigRegion
namespace Go.Proofs.Ytcjdjdhjbchaaaa
set_option linter.unusedVariables false
section
namespace Op
open Go.ChangeShapes Go.WideShapes Go.ChangeAt Go.RowKit Go.BigFrame
set_option maxRecDepth 100000
theorem made_at {W : World} {o : Obj} {g : Nat} (h : g = W.heap.size) : (W.alloc o).heap[g]? = some o := by subst h; exact heap_alloc_new W o
theorem made_at' {W : World} {o : Obj} {g : Nat} (h : g = W.heap.size) : (W.alloc o).drew.heap[g]? = some o := by subst h; exact heap_alloc_new W o
theorem retr {a b : Rd} (h : a = b) : Ending.returned (.agg #[.int .i64 a.k, .int .i64 a.v]) = .returned (.agg #[.int .i64 b.k, .int .i64 b.v]) := by rw [h]
theorem agg_rd {r q : Rd} (h : q = r) : Ending.returned (.agg #[.int .i64 q.k, .int .i64 q.v]) = .returned r.val := by subst h; rfl
set_option maxHeartbeats 1000000 in
theorem mapped0 (xk : Nat) (b d k v : Int) (A : Option Addr) (n c : Nat) (w : World) :
    Calls Try.prog 53 #[.agg #[.int .u8 (xk : Nat), .int .u8 ((0 : Nat) : Nat), .int .i64 b, .int .i64 d, .slice A n c], .agg #[.int .i64 k, .int .i64 v]] w fun e w' => e = .returned (Rd.val ⟨k, wrap64 (v + b)⟩) ∧ Below w.heap.size w w' := by
  have HB := Lib.hid fun (x y z : Obj) => (((Below.refl _ w).alloc (Nat.le_refl _) x).alloc (by simp) y).alloc (by simp; omega) z
  go_enter Try.func53, Try.ntmps53
  go_wp2_with fail
  refine bodyPost_ret (results_cell_row rfl _ _ (w.heap.size + 1 + 1) 36 _ (0, 0) _ rfl (made_at (by simp)) Try.underlying36 rfl (by kernel_rfl)) rfl ?_
  exact ⟨rfl, HB.out _ _ _⟩
set_option maxHeartbeats 1000000 in
theorem mapped1 (xk : Nat) (b d k v : Int) (A : Option Addr) (n c : Nat) (w : World) :
    Calls Try.prog 53 #[.agg #[.int .u8 (xk : Nat), .int .u8 ((1 : Nat) : Nat), .int .i64 b, .int .i64 d, .slice A n c], .agg #[.int .i64 k, .int .i64 v]] w fun e w' => e = .returned (Rd.val ⟨k, wrap64 (v * b)⟩) ∧ Below w.heap.size w w' := by
  have HB := Lib.hid fun (x y z : Obj) => (((Below.refl _ w).alloc (Nat.le_refl _) x).alloc (by simp) y).alloc (by simp; omega) z
  go_enter Try.func53, Try.ntmps53
  go_wp2_with fail
  refine bodyPost_ret (results_cell_row rfl _ _ (w.heap.size + 1 + 1) 36 _ (0, 0) _ rfl (made_at (by simp)) Try.underlying36 rfl (by kernel_rfl)) rfl ?_
  exact ⟨rfl, HB.out _ _ _⟩
set_option maxHeartbeats 1000000 in
theorem mapped2 (xk : Nat) (b d k v : Int) (A : Option Addr) (n c : Nat) (w : World) :
    Calls Try.prog 53 #[.agg #[.int .u8 (xk : Nat), .int .u8 ((2 : Nat) : Nat), .int .i64 b, .int .i64 d, .slice A n c], .agg #[.int .i64 k, .int .i64 v]] w fun e w' => e = .returned (Rd.val ⟨v, k⟩) ∧ Below w.heap.size w w' := by
  have HB := Lib.hid fun (x y z : Obj) => (((Below.refl _ w).alloc (Nat.le_refl _) x).alloc (by simp) y).alloc (by simp; omega) z
  go_enter Try.func53, Try.ntmps53
  go_wp2_with fail
  refine bodyPost_ret (results_cell_row rfl _ _ (w.heap.size + 1 + 1) 36 _ (0, 0) _ rfl (made_at (by simp)) Try.underlying36 rfl (by kernel_rfl)) rfl ?_
  exact ⟨rfl, HB.out _ _ _⟩
set_option maxHeartbeats 1000000 in
theorem mapped3 (xk : Nat) (b d k v : Int) (A : Option Addr) (n c : Nat) (w : World) (hb : 1 ≤ b) (hb2 : b ≤ 9223372036854775807) :
    Calls Try.prog 53 #[.agg #[.int .u8 (xk : Nat), .int .u8 ((3 : Nat) : Nat), .int .i64 b, .int .i64 d, .slice A n c], .agg #[.int .i64 k, .int .i64 v]] w fun e w' => e = .returned (Rd.val ⟨v % b, v⟩) ∧ Below w.heap.size w w' := by
  have HB := Lib.hid fun (x y z : Obj) => (((Below.refl _ w).alloc (Nat.le_refl _) x).alloc (by simp) y).alloc (by simp; omega) z
  go_enter Try.func53, Try.ntmps53
  go_wp2_with fail
  refine (modulo_any _ _ _ hb hb2).mono ?_; rintro e w' ⟨rfl, rfl⟩
  go_wp2_with fail
  refine bodyPost_ret (results_cell_row rfl _ _ (w.heap.size + 1 + 1) 36 _ (0, 0) _ rfl (made_at (by simp)) Try.underlying36 rfl (by kernel_rfl)) rfl ?_
  exact ⟨rfl, HB.out _ _ _⟩
theorem mapped_any (n : Nd) (A : Option Addr) (m c : Nat) (r : Rd) (w : World) (ha : n.a ≤ 3) (hb : n.a = 3 → 1 ≤ n.b) (hb2 : n.b ≤ 9223372036854775807) :
    Calls Try.prog 53 #[.agg #[.int .u8 (n.k : Nat), .int .u8 (n.a : Nat), .int .i64 n.b, .int .i64 n.d, .slice A m c], r.val] w fun e w' => e = .returned (mapR n r).val ∧ Below w.heap.size w w' := by
  obtain ⟨xk, xa, b, d, ins⟩ := n
  obtain ⟨k, v⟩ := r
  simp only at ha hb hb2
  have : xa = 0 ∨ xa = 1 ∨ xa = 2 ∨ xa = 3 := by omega
  rcases this with rfl | rfl | rfl | rfl
  · exact mapped0 xk b d k v A m c w
  · exact mapped1 xk b d k v A m c w
  · exact mapped2 xk b d k v A m c w
  · exact mapped3 xk b d k v A m c w (hb rfl) hb2
set_option maxHeartbeats 1000000 in
theorem refMapped0 (xk : Nat) (b d k v : Int) (A : Option Addr) (n c : Nat) (w : World) :
    Calls Try.prog 64 #[.agg #[.int .u8 (xk : Nat), .int .u8 ((0 : Nat) : Nat), .int .i64 b, .int .i64 d, .slice A n c], .agg #[.int .i64 k, .int .i64 v]] w fun e w' => e = .returned (Rd.val ⟨k, wrap64 (v + b)⟩) ∧ Below w.heap.size w w' := by
  have HB := Lib.hid fun (x y z : Obj) => (((Below.refl _ w).alloc (Nat.le_refl _) x).alloc (by simp) y).alloc (by simp; omega) z
  go_enter Try.func64, Try.ntmps64
  go_wp2_with fail
  refine bodyPost_ret (results_cell_row rfl _ _ (w.heap.size + 1 + 1) 36 _ (0, 0) _ rfl (made_at (by simp)) Try.underlying36 rfl (by kernel_rfl)) rfl ?_
  exact ⟨rfl, HB.out _ _ _⟩
set_option maxHeartbeats 1000000 in
theorem refMapped1 (xk : Nat) (b d k v : Int) (A : Option Addr) (n c : Nat) (w : World) :
    Calls Try.prog 64 #[.agg #[.int .u8 (xk : Nat), .int .u8 ((1 : Nat) : Nat), .int .i64 b, .int .i64 d, .slice A n c], .agg #[.int .i64 k, .int .i64 v]] w fun e w' => e = .returned (Rd.val ⟨k, wrap64 (v * b)⟩) ∧ Below w.heap.size w w' := by
  have HB := Lib.hid fun (x y z : Obj) => (((Below.refl _ w).alloc (Nat.le_refl _) x).alloc (by simp) y).alloc (by simp; omega) z
  go_enter Try.func64, Try.ntmps64
  go_wp2_with fail
  refine bodyPost_ret (results_cell_row rfl _ _ (w.heap.size + 1 + 1) 36 _ (0, 0) _ rfl (made_at (by simp)) Try.underlying36 rfl (by kernel_rfl)) rfl ?_
  exact ⟨rfl, HB.out _ _ _⟩
set_option maxHeartbeats 1000000 in
theorem refMapped2 (xk : Nat) (b d k v : Int) (A : Option Addr) (n c : Nat) (w : World) :
    Calls Try.prog 64 #[.agg #[.int .u8 (xk : Nat), .int .u8 ((2 : Nat) : Nat), .int .i64 b, .int .i64 d, .slice A n c], .agg #[.int .i64 k, .int .i64 v]] w fun e w' => e = .returned (Rd.val ⟨v, k⟩) ∧ Below w.heap.size w w' := by
  have HB := Lib.hid fun (x y z : Obj) => (((Below.refl _ w).alloc (Nat.le_refl _) x).alloc (by simp) y).alloc (by simp; omega) z
  go_enter Try.func64, Try.ntmps64
  go_wp2_with fail
  refine bodyPost_ret (results_cell_row rfl _ _ (w.heap.size + 1 + 1) 36 _ (0, 0) _ rfl (made_at (by simp)) Try.underlying36 rfl (by kernel_rfl)) rfl ?_
  exact ⟨rfl, HB.out _ _ _⟩
set_option maxHeartbeats 1000000 in
theorem refMapped3 (xk : Nat) (b d k v : Int) (A : Option Addr) (n c : Nat) (w : World) (hb : 1 ≤ b) (hb2 : b ≤ 9223372036854775807) :
    Calls Try.prog 64 #[.agg #[.int .u8 (xk : Nat), .int .u8 ((3 : Nat) : Nat), .int .i64 b, .int .i64 d, .slice A n c], .agg #[.int .i64 k, .int .i64 v]] w fun e w' => e = .returned (Rd.val ⟨v % b, v⟩) ∧ Below w.heap.size w w' := by
  have HB := Lib.hid fun (x y z : Obj) => (((Below.refl _ w).alloc (Nat.le_refl _) x).alloc (by simp) y).alloc (by simp; omega) z
  go_enter Try.func64, Try.ntmps64
  go_upto_region 8 with fail
  go_region_with (go_at_call 43; refine (refModulo_any _ _ _ hb hb2).mono ?_; rintro e w' ⟨rfl, rfl⟩)
  all_goals try go_wp2_with fail
  all_goals
    refine bodyPost_ret (results_cell_row rfl _ _ (w.heap.size + 1 + 1) 36 _ (0, 0) _ rfl (made_at' (by simp)) Try.underlying36 rfl (by kernel_rfl)) rfl ?_
    exact ⟨rfl, (HB.out _ _ _).drew⟩
theorem refMapped_any (n : Nd) (A : Option Addr) (m c : Nat) (r : Rd) (w : World) (ha : n.a ≤ 3) (hb : n.a = 3 → 1 ≤ n.b) (hb2 : n.b ≤ 9223372036854775807) :
    Calls Try.prog 64 #[.agg #[.int .u8 (n.k : Nat), .int .u8 (n.a : Nat), .int .i64 n.b, .int .i64 n.d, .slice A m c], r.val] w fun e w' => e = .returned (mapR n r).val ∧ Below w.heap.size w w' := by
  obtain ⟨xk, xa, b, d, ins⟩ := n
  obtain ⟨k, v⟩ := r
  simp only at ha hb hb2
  have : xa = 0 ∨ xa = 1 ∨ xa = 2 ∨ xa = 3 := by omega
  rcases this with rfl | rfl | rfl | rfl
  · exact refMapped0 xk b d k v A m c w
  · exact refMapped1 xk b d k v A m c w
  · exact refMapped2 xk b d k v A m c w
  · exact refMapped3 xk b d k v A m c w (hb rfl) hb2
set_option maxHeartbeats 1000000 in
theorem passes0 (xk : Nat) (b d k v : Int) (A : Option Addr) (n c : Nat) (w : World) :
    Calls Try.prog 55 #[.agg #[.int .u8 (xk : Nat), .int .u8 ((0 : Nat) : Nat), .int .i64 b, .int .i64 d, .slice A n c], .agg #[.int .i64 k, .int .i64 v]] w fun e w' => e = .returned (.bool (decide (v < b))) ∧ Below w.heap.size w w' := by
  have HB := Lib.hid fun (x y : Obj) => ((Below.refl _ w).alloc (Nat.le_refl _) x).alloc (by simp) y
  go_enter Try.func55, Try.ntmps55
  go_wp2_with fail
  go_ret
  exact ⟨retb' (by first | rfl | (rw [Bool.eq_iff_iff]; simp)), HB.out _ _⟩
set_option maxHeartbeats 1000000 in
theorem passes1 (xk : Nat) (b d k v : Int) (A : Option Addr) (n c : Nat) (w : World) (hb : 1 ≤ b) (hb2 : b ≤ 9223372036854775807) :
    Calls Try.prog 55 #[.agg #[.int .u8 (xk : Nat), .int .u8 ((1 : Nat) : Nat), .int .i64 b, .int .i64 d, .slice A n c], .agg #[.int .i64 k, .int .i64 v]] w fun e w' => e = .returned (.bool (decide (v.tmod b = 0))) ∧ Below w.heap.size w w' := by
  have HB := Lib.hid fun (x y : Obj) => ((Below.refl _ w).alloc (Nat.le_refl _) x).alloc (by simp) y
  go_enter Try.func55, Try.ntmps55
  go_wp2_with fail
  go_ret
  exact ⟨retb' (by first | rfl | (rw [Bool.eq_iff_iff]; simp)), HB.out _ _⟩
set_option maxHeartbeats 1000000 in
theorem passes2 (xk : Nat) (b d k v : Int) (A : Option Addr) (n c : Nat) (w : World) :
    Calls Try.prog 55 #[.agg #[.int .u8 (xk : Nat), .int .u8 ((2 : Nat) : Nat), .int .i64 b, .int .i64 d, .slice A n c], .agg #[.int .i64 k, .int .i64 v]] w fun e w' => e = .returned (.bool (decide (k < b))) ∧ Below w.heap.size w w' := by
  have HB := Lib.hid fun (x y : Obj) => ((Below.refl _ w).alloc (Nat.le_refl _) x).alloc (by simp) y
  go_enter Try.func55, Try.ntmps55
  go_wp2_with fail
  go_ret
  exact ⟨retb' (by first | rfl | (rw [Bool.eq_iff_iff]; simp)), HB.out _ _⟩
theorem passes_any (n : Nd) (A : Option Addr) (m c : Nat) (r : Rd) (w : World) (ha : n.a ≤ 2) (hb : n.a = 1 → 1 ≤ n.b) (hb2 : n.b ≤ 9223372036854775807) :
    Calls Try.prog 55 #[.agg #[.int .u8 (n.k : Nat), .int .u8 (n.a : Nat), .int .i64 n.b, .int .i64 n.d, .slice A m c], r.val] w fun e w' => e = .returned (.bool (passB n r)) ∧ Below w.heap.size w w' := by
  obtain ⟨xk, xa, b, d, ins⟩ := n
  obtain ⟨k, v⟩ := r
  simp only at ha hb hb2
  have : xa = 0 ∨ xa = 1 ∨ xa = 2 := by omega
  rcases this with rfl | rfl | rfl
  · exact passes0 xk b d k v A m c w
  · exact passes1 xk b d k v A m c w (hb rfl) hb2
  · exact passes2 xk b d k v A m c w
set_option maxHeartbeats 1000000 in
theorem refPasses0 (xk : Nat) (b d k v : Int) (A : Option Addr) (n c : Nat) (w : World) :
    Calls Try.prog 65 #[.agg #[.int .u8 (xk : Nat), .int .u8 ((0 : Nat) : Nat), .int .i64 b, .int .i64 d, .slice A n c], .agg #[.int .i64 k, .int .i64 v]] w fun e w' => e = .returned (.bool (decide (v < b))) ∧ Below w.heap.size w w' := by
  have HB := Lib.hid fun (x y : Obj) => ((Below.refl _ w).alloc (Nat.le_refl _) x).alloc (by simp) y
  go_enter Try.func65, Try.ntmps65
  go_wp2_with fail
  go_ret
  exact ⟨retb' (by first | rfl | (rw [Bool.eq_iff_iff]; simp)), HB.out _ _⟩
set_option maxHeartbeats 1000000 in
theorem refPasses1 (xk : Nat) (b d k v : Int) (A : Option Addr) (n c : Nat) (w : World) (hb : 1 ≤ b) (hb2 : b ≤ 9223372036854775807) :
    Calls Try.prog 65 #[.agg #[.int .u8 (xk : Nat), .int .u8 ((1 : Nat) : Nat), .int .i64 b, .int .i64 d, .slice A n c], .agg #[.int .i64 k, .int .i64 v]] w fun e w' => e = .returned (.bool (decide (v.tmod b = 0))) ∧ Below w.heap.size w w' := by
  have HB := Lib.hid fun (x y : Obj) => ((Below.refl _ w).alloc (Nat.le_refl _) x).alloc (by simp) y
  go_enter Try.func65, Try.ntmps65
  go_wp2_with fail
  go_ret
  exact ⟨retb' (by first | rfl | (rw [Bool.eq_iff_iff]; simp)), HB.out _ _⟩
set_option maxHeartbeats 1000000 in
theorem refPasses2 (xk : Nat) (b d k v : Int) (A : Option Addr) (n c : Nat) (w : World) :
    Calls Try.prog 65 #[.agg #[.int .u8 (xk : Nat), .int .u8 ((2 : Nat) : Nat), .int .i64 b, .int .i64 d, .slice A n c], .agg #[.int .i64 k, .int .i64 v]] w fun e w' => e = .returned (.bool (decide (k < b))) ∧ Below w.heap.size w w' := by
  have HB := Lib.hid fun (x y : Obj) => ((Below.refl _ w).alloc (Nat.le_refl _) x).alloc (by simp) y
  go_enter Try.func65, Try.ntmps65
  go_wp2_with fail
  go_ret
  exact ⟨retb' (by first | rfl | (rw [Bool.eq_iff_iff]; simp)), HB.out _ _⟩
theorem refPasses_any (n : Nd) (A : Option Addr) (m c : Nat) (r : Rd) (w : World) (ha : n.a ≤ 2) (hb : n.a = 1 → 1 ≤ n.b) (hb2 : n.b ≤ 9223372036854775807) :
    Calls Try.prog 65 #[.agg #[.int .u8 (n.k : Nat), .int .u8 (n.a : Nat), .int .i64 n.b, .int .i64 n.d, .slice A m c], r.val] w fun e w' => e = .returned (.bool (passB n r)) ∧ Below w.heap.size w w' := by
  obtain ⟨xk, xa, b, d, ins⟩ := n
  obtain ⟨k, v⟩ := r
  simp only at ha hb hb2
  have : xa = 0 ∨ xa = 1 ∨ xa = 2 := by omega
  rcases this with rfl | rfl | rfl
  · exact refPasses0 xk b d k v A m c w
  · exact refPasses1 xk b d k v A m c w (hb rfl) hb2
  · exact refPasses2 xk b d k v A m c w
end Op
end
end Go.Proofs.Ytcjdjdhjbchaaaa
