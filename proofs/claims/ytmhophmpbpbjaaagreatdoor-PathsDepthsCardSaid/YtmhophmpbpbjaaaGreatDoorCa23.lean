/- PlLeast -/
import Derived.Test.YtmhophmpbpbjaaaGreatDoorCa22
import Derived.BigQuiet
import Derived.Test.YtmhophmpbpbjaaaGreatDoorCa5
import Derived.Deep.DeepCutAuto
namespace Go.Proofs.YtmhophmpbpbjaaaGreatDoor
set_option linter.unusedVariables false
section
open Go.ChangeShapes Go.WideShapes Go.ChangeAt Go.RowKit Go.BigFrame
set_option maxRecDepth 100000
section
variable {K : Value → World → Prop} {a : Act} {o : Oper} {w : World}
theorem g_not {b : Bool} (t : TypeId) (x : Operand) (ho : o.op = .unOp .not t x) (hx : a.eval x = .bool b) (h : K (.bool (!b)) w) : Free.gets Tryz.prog K ((execOp a.eval o).run Tryz.prog w) := by
  unfold execOp; simp only [ho, hx]; go_simp; exact h
end
def LeastR (g : List Nd) (i n : Nat) (w' : World) (v : Value) (l : List Sm) : Prop := ∃ A c T D, v = .slice A l.length c ∧ Rw.Ts kindS w' A l ∧ l.length ≤ c ∧ c ≤ maxLen ∧ (A = none → c = 0) ∧ Run g i T D [] ∧ T[n]? = some l
theorem row_fan (s : Sl) : ∀ (fs : List (Option Sl)) (i : Nat), fs[i]? = some none →
    (((((Rw.row kindF fs).set (i * 5 + 1) (.int .i32 1)).set (i * 5 + 4) s.v).set (i * 5 + 3) (.int .u32 1)).set (i * 5) (.int .u32 1)).set (i * 5 + 1) (.int .i32 0) = Rw.row kindF (fs.set i (some s))
  | [], i, h => by simp at h
  | x :: fs, 0, h => by
    obtain rfl : x = none := by simpa using h
    rw [List.set_cons_zero, Rw.row_cons, Rw.row_cons]; rfl
  | x :: fs, i + 1, h => by
    have h1 := row_fan s fs i (by simpa using h)
    have el : (kindF.cells x).length = 5 := kindF.len x
    have e : ∀ (l : List Value) (j : Nat) (u : Value), (kindF.cells x ++ l).set ((i + 1) * 5 + j) u = kindF.cells x ++ l.set (i * 5 + j) u := fun l j u => by
      rw [List.set_append_right (h := by rw [el]; omega), el, show (i + 1) * 5 + j - 5 = i * 5 + j by omega]
    have e0 : ∀ (l : List Value) (u : Value), (kindF.cells x ++ l).set ((i + 1) * 5) u = kindF.cells x ++ l.set (i * 5) u := fun l u => e l 0 u
    rw [List.set_cons_succ, Rw.row_cons, Rw.row_cons, e, e, e, e0, e, h1]
theorem fan_at {w : World} {F : Nat} {fs : List (Option Sl)} {i : Nat} {x : Option Sl} (h : Row w F 143 (Rw.row kindF fs)) (hx : fs[i]? = some x) (j : Nat) (u : Value) (hu : (fanC x)[j]? = some u) : w.cell? ⟨F, i * 5 + j, none⟩ = some u := by
  rw [h.cell]; exact Rw.row_at (κ := kindF) fs i x hx j u hu
theorem RowsAt.get {w : World} {base : Nat} {g : List Nd} {k n : Nat} {s : Sl} (h : RowsAt w base g k s) (hn : n < g.length) : ∃ B A l c, s = ⟨some ⟨B, 0, none⟩, g.length, g.length⟩ ∧ B < w.heap.size ∧ (∀ w', Below w.heap.size w w' → w'.cell? ⟨B, n, none⟩ = some (.slice A l.length c)) ∧ ∀ w', Below w.heap.size w w' → LeastR g k n w' (.slice A l.length c) l := by
  obtain ⟨B, T, D, vs, e, ht, hr⟩ := h
  obtain ⟨l, hl⟩ : ∃ l, T[n]? = some l := ⟨_, List.getElem?_eq_getElem (by rw [hr.len]; exact hn)⟩
  obtain ⟨⟨sA, sn, sc⟩, hs, hsn, ho, hc⟩ := ht.get hl
  simp only at hsn
  subst hsn
  obtain ⟨A, c, e2, hT, h1, h2, h3, _⟩ := Rw.Ts.of_own (κ := kindS) (ts := l) ho
  cases e2
  exact ⟨B, sA, l, sc, e, ht.row.lt, fun w' hb => (hb.cell (p := ⟨B, n, none⟩) ht.row.lt).trans hc, fun w' hb => ⟨sA, sc, T, D, rfl, hT.below hb, h1, h2, h3, hr, hl⟩⟩
theorem ptr_no (x y : Operand) (b o : Nat) : ∀ w : World, (do eqGuard .eql 27 x y (.pointer (some ⟨b, o, none⟩)) (.pointer none); binOp .eql 27 (.pointer (some ⟨b, o, none⟩)) (.pointer none) : Sem Value).run Tryz.prog w = .ok (.bool false) w := fun w => by go_simp
theorem below_cell {w2 : World} {b o : Nat} {v : Value} (hc : w2.cell? ⟨b, o, none⟩ = some v) : ∀ w', Below w2.heap.size w2 w' → w'.cell? ⟨b, o, none⟩ = some v := fun w' hb => (hb.cell (p := ⟨b, o, none⟩) (World.block_lt_of_cell? w2 _ hc)).trans hc
theorem load_pp {w2 : World} {b o : Nat} {q : Option Addr} (hc : w2.cell? ⟨b, o, none⟩ = some (.pointer q)) : ∀ w', Below w2.heap.size w2 w' → (Instr.loadAt 27 (.pointer (some ⟨b, o, none⟩))).run Tryz.prog w' = .ok (.pointer q) w' := fun w' hb => by
  have h := below_cell hc w' hb
  go_simp
theorem load_gg {w2 : World} {b o n c : Nat} {A : Option Addr} (hc : w2.cell? ⟨b, o, none⟩ = some (.slice A n c)) : ∀ w', Below w2.heap.size w2 w' → (Instr.loadAt 23 (.pointer (some ⟨b, o, none⟩))).run Tryz.prog w' = .ok (.slice A n c) w' := fun w' hb => by
  have h := below_cell hc w' hb
  go_simp
theorem load_ii {w2 : World} {b o : Nat} {z : Int} (hc : w2.cell? ⟨b, o, none⟩ = some (.int .i64 z)) : ∀ w', Below w2.heap.size w2 w' → (Instr.loadAt 3 (.pointer (some ⟨b, o, none⟩))).run Tryz.prog w' = .ok (.int .i64 z) w' := fun w' hb => by
  have h := below_cell hc w' hb
  go_simp
theorem isNode_below {A : Option Addr} {n c : Nat} {i : Int} {B : Bool} (h : decide (0 ≤ i ∧ i < (n : Int)) = B) (wz : World) : ∀ w, Below wz.heap.size wz w → Calls Tryz.prog 84 #[.slice A n c, .int .i64 i] w fun e w' => e = .returned (.bool B) ∧ Below w.heap.size w w' := fun w _ => (isNode_any A n c i w).mono fun e w' hh => ⟨by rw [← h]; exact hh.1, by rw [← hh.2]; exact Below.refl _ _⟩
def AskA (p h0 h1 n0 c : Nat) (A : Option Addr) (f t : Int) (i : Nat) (v : Value) : Prop := match i with
  | 0 => v = .pointer (some ⟨p, 0, none⟩)
  | 1 => v = .bool false
  | 2 => v = .bool false
  | 3 => v = .pointer (some ⟨p, 0, none⟩)
  | 4 => v = .pointer (some ⟨p, 0, none⟩)
  | 5 => v = .pointer (some ⟨p, 0, none⟩)
  | 6 => v = .slice A n0 c
  | 7 => v = .int .i64 f
  | 8 => v = .bool true
  | 9 => v = .bool false
  | 10 => v = .bool false
  | 11 => v = .bool false
  | 12 => v = .pointer (some ⟨p, 0, none⟩)
  | 13 => v = .pointer (some ⟨p, 0, none⟩)
  | 14 => v = .pointer (some ⟨p, 0, none⟩)
  | 15 => v = .slice A n0 c
  | 16 => v = .int .i64 t
  | 17 => v = .bool false
  | 18 => v = .bool true
  | _ => v = .bool true
def AskB (p h0 h1 n0 c : Nat) (A : Option Addr) (f t : Int) (i : Nat) (v : Value) : Prop := match i with
  | 0 => v = .pointer (some ⟨p, 0, none⟩)
  | 1 => v = .bool false
  | 2 => v = .bool false
  | 3 => v = .pointer (some ⟨p, 0, none⟩)
  | 4 => v = .pointer (some ⟨p, 0, none⟩)
  | 5 => v = .pointer (some ⟨p, 0, none⟩)
  | 6 => v = .slice A n0 c
  | 7 => v = .int .i64 f
  | 8 => v = .bool false
  | 9 => v = .bool true
  | 10 => v = .bool true
  | 11 => v = .bool true
  | 12 => v = undef
  | 13 => v = undef
  | 14 => v = undef
  | 15 => v = undef
  | 16 => v = undef
  | 17 => v = undef
  | 18 => v = undef
  | _ => v = .bool true
def AskC (p h0 h1 n0 c : Nat) (A : Option Addr) (f t : Int) (i : Nat) (v : Value) : Prop := match i with
  | 0 => v = .pointer (some ⟨p, 0, none⟩)
  | 1 => v = .bool false
  | 2 => v = .bool false
  | 3 => v = .pointer (some ⟨p, 0, none⟩)
  | 4 => v = .pointer (some ⟨p, 0, none⟩)
  | 5 => v = .pointer (some ⟨p, 0, none⟩)
  | 6 => v = .slice A n0 c
  | 7 => v = .int .i64 f
  | 8 => v = .bool true
  | 9 => v = .bool false
  | 10 => v = .bool false
  | 11 => v = .bool false
  | 12 => v = .pointer (some ⟨p, 0, none⟩)
  | 13 => v = .pointer (some ⟨p, 0, none⟩)
  | 14 => v = .pointer (some ⟨p, 0, none⟩)
  | 15 => v = .slice A n0 c
  | 16 => v = .int .i64 t
  | 17 => v = .bool true
  | 18 => v = .bool false
  | _ => v = .bool false
set_option maxHeartbeats 8000000 in
theorem least_offA (p n0 c base : Nat) (A : Option Addr) (f t : Int) (w : World) (hc : w.cell? ⟨p, 0, none⟩ = some (.slice A n0 c)) (hf : decide (0 ≤ f ∧ f < (n0 : Int)) = true) (ht : decide (0 ≤ t ∧ t < (n0 : Int)) = false) :
    Calls Tryz.prog 43 #[.pointer (some ⟨p, 0, none⟩), .int .i64 f, .int .i64 t] w fun e w' => e = .returned (.slice none 0 0) ∧ Below w.heap.size w w' := by
  have hw0 : (((w.alloc (.cells #[.pointer (some ⟨p, 0, none⟩)] 27)).alloc (.cells #[.int .i64 f] 3))).cell? ⟨w.heap.size, 0, none⟩ = some (.pointer (some ⟨p, 0, none⟩)) := ((Row.made w 27 [.pointer (some ⟨p, 0, none⟩)]).alloc _).cell 0
  have hw1 : (((w.alloc (.cells #[.pointer (some ⟨p, 0, none⟩)] 27)).alloc (.cells #[.int .i64 f] 3))).cell? ⟨w.heap.size + 1, 0, none⟩ = some (.int .i64 f) := (made2 w _ 3 [.int .i64 f]).cell 0
  have hbw : Below w.heap.size w ((w.alloc (.cells #[.pointer (some ⟨p, 0, none⟩)] 27)).alloc (.cells #[.int .i64 f] 3)) := ((Below.refl _ _).alloc (Nat.le_refl _) _).alloc (by simp) _
  have hgc := below_cell hc _ hbw
  have HW0 := Lib.hid hw0; have HW1 := Lib.hid hw1; have HBW := Lib.hid hbw; have HGC := Lib.hid hgc; clear hw0 hw1 hbw hgc hc
  go_enter Tryz.func43, Tryz.ntmps43
  go_wp2_with fail
  generalize (w.alloc (.cells #[.pointer (some ⟨p, 0, none⟩)] 27)).alloc (.cells #[.int .i64 f] 3) = w2 at *
  obtain ⟨h0, hh0⟩ : ∃ h0, w.heap.size = h0 := ⟨_, rfl⟩
  obtain ⟨h1, hh1⟩ : ∃ h1, w.heap.size + 1 = h1 := ⟨_, rfl⟩
  rw [hh1] at HW1 ⊢
  rw [hh0] at HW0 ⊢
  have HH := Lib.hid (And.intro hh0 hh1); clear hh0 hh1
  have LP := Lib.hid (load_pp HW0.out); have LG := Lib.hid (load_gg HGC.out); have LF := Lib.hid (load_ii HW1.out)
  have H1 := Lib.hid (isNode_below (A := A) (c := c) hf w2); have H2 := Lib.hid (isNode_below (A := A) (c := c) ht w2); clear hf ht
  refine Free.wp_guarded (by kernel_rfl) (by kernel_rfl) (fun w' => Below w2.heap.size w2 w') (AskA p h0 h1 n0 c A f t) ((Below.refl _ _).drew) ?_ ?_
  · intro i o hi a wa hold hpre hF
    match i with
    | 0 =>
      cases hi
      exact Free.c_all rfl (Free.g_load _ _ rfl ((hold 3 (by decide)).trans rfl) (LP.out wa hF) ⟨rfl, hF⟩)
    | 1 =>
      cases hi
      have h2 : a.eval (.tmp 8) = .pointer (some ⟨p, 0, none⟩) := hpre 0 _ _ (by kernel_rfl) rfl rfl
      exact Free.c_all rfl (Free.g_bin _ _ _ _ _ rfl h2 rfl (ptr_no _ _ p 0 wa) ⟨rfl, hF⟩)
    | 2 =>
      cases hi
      have h0 : a.eval (.tmp 9) = .bool false := hpre 1 _ _ (by kernel_rfl) rfl rfl
      exact Free.c_all rfl (Free.g_move _ rfl ⟨h0, hF⟩)
    | 3 =>
      cases hi
      have hg : a.eval (.tmp 10) = .bool false := hpre 2 _ _ (by kernel_rfl) rfl rfl
      exact Free.c_yes rfl rfl rfl hg (Free.g_load _ _ rfl ((hold 3 (by decide)).trans rfl) (LP.out wa hF) ⟨rfl, hF⟩)
    | 4 =>
      cases hi
      have hg : a.eval (.tmp 10) = .bool false := hpre 2 _ _ (by kernel_rfl) rfl rfl
      have h0 : a.eval (.tmp 11) = .pointer (some ⟨p, 0, none⟩) := hpre 3 _ _ (by kernel_rfl) rfl rfl
      refine Free.c_yes rfl rfl rfl hg ?_
      unfold execOp
      simp only [h0]
      go_simp
      exact ⟨rfl, hF⟩
    | 5 =>
      cases hi
      have hg : a.eval (.tmp 10) = .bool false := hpre 2 _ _ (by kernel_rfl) rfl rfl
      have h0 : a.eval (.tmp 12) = .pointer (some ⟨p, 0, none⟩) := hpre 4 _ _ (by kernel_rfl) rfl rfl
      exact Free.c_yes rfl rfl rfl hg (Free.g_field (v := .pointer (some ⟨p, 0, none⟩)) _ _ _ rfl h0 (by go_simp) ⟨rfl, hF⟩)
    | 6 =>
      cases hi
      have hg : a.eval (.tmp 10) = .bool false := hpre 2 _ _ (by kernel_rfl) rfl rfl
      have h0 : a.eval (.tmp 13) = .pointer (some ⟨p, 0, none⟩) := hpre 5 _ _ (by kernel_rfl) rfl rfl
      exact Free.c_yes rfl rfl rfl hg (Free.g_load _ _ rfl h0 (LG.out wa hF) ⟨rfl, hF⟩)
    | 7 =>
      cases hi
      have hg : a.eval (.tmp 10) = .bool false := hpre 2 _ _ (by kernel_rfl) rfl rfl
      exact Free.c_yes rfl rfl rfl hg (Free.g_load _ _ rfl ((hold 4 (by decide)).trans rfl) (LF.out wa hF) ⟨rfl, hF⟩)
    | 8 =>
      cases hi
      have hg : a.eval (.tmp 10) = .bool false := hpre 2 _ _ (by kernel_rfl) rfl rfl
      have h0 : a.eval (.tmp 14) = .slice A n0 c := hpre 6 _ _ (by kernel_rfl) rfl rfl
      have h1 : a.eval (.tmp 15) = .int .i64 f := hpre 7 _ _ (by kernel_rfl) rfl rfl
      refine Free.c_yes rfl rfl rfl hg (Free.g_call _ _ rfl Tryz.func84 (by kernel_rfl) rfl [.slice A n0 c, .int .i64 f] (by show [a.eval (.tmp 14), a.eval (.tmp 15)] = _; rw [h0, h1]) ?_)
      exact (H1.out wa hF).mono fun e w2 ⟨he, hb2⟩ => ⟨_, he, rfl, hF.trans (hb2.mono hF.size)⟩
    | 9 =>
      cases hi
      have hg : a.eval (.tmp 10) = .bool false := hpre 2 _ _ (by kernel_rfl) rfl rfl
      have h0 : a.eval (.tmp 16) = .bool true := hpre 8 _ _ (by kernel_rfl) rfl rfl
      exact Free.c_yes rfl rfl rfl hg (g_not _ _ rfl h0 ⟨rfl, hF⟩)
    | 10 =>
      cases hi
      have h1 : a.eval (.tmp 10) = .bool false := hpre 2 _ _ (by kernel_rfl) rfl rfl
      have h3 : a.eval (.tmp 17) = .bool false := hpre 9 _ _ (by kernel_rfl) rfl rfl
      exact Free.c_all rfl (Free.g_pick _ _ _ rfl h1 rfl h3 ⟨rfl, hF⟩)
    | 11 =>
      cases hi
      have h0 : a.eval (.tmp 18) = .bool false := hpre 10 _ _ (by kernel_rfl) rfl rfl
      exact Free.c_all rfl (Free.g_move _ rfl ⟨h0, hF⟩)
    | 12 =>
      cases hi
      have hg : a.eval (.tmp 19) = .bool false := hpre 11 _ _ (by kernel_rfl) rfl rfl
      exact Free.c_yes rfl rfl rfl hg (Free.g_load _ _ rfl ((hold 3 (by decide)).trans rfl) (LP.out wa hF) ⟨rfl, hF⟩)
    | 13 =>
      cases hi
      have hg : a.eval (.tmp 19) = .bool false := hpre 11 _ _ (by kernel_rfl) rfl rfl
      have h0 : a.eval (.tmp 20) = .pointer (some ⟨p, 0, none⟩) := hpre 12 _ _ (by kernel_rfl) rfl rfl
      refine Free.c_yes rfl rfl rfl hg ?_
      unfold execOp
      simp only [h0]
      go_simp
      exact ⟨rfl, hF⟩
    | 14 =>
      cases hi
      have hg : a.eval (.tmp 19) = .bool false := hpre 11 _ _ (by kernel_rfl) rfl rfl
      have h0 : a.eval (.tmp 21) = .pointer (some ⟨p, 0, none⟩) := hpre 13 _ _ (by kernel_rfl) rfl rfl
      exact Free.c_yes rfl rfl rfl hg (Free.g_field (v := .pointer (some ⟨p, 0, none⟩)) _ _ _ rfl h0 (by go_simp) ⟨rfl, hF⟩)
    | 15 =>
      cases hi
      have hg : a.eval (.tmp 19) = .bool false := hpre 11 _ _ (by kernel_rfl) rfl rfl
      have h0 : a.eval (.tmp 22) = .pointer (some ⟨p, 0, none⟩) := hpre 14 _ _ (by kernel_rfl) rfl rfl
      exact Free.c_yes rfl rfl rfl hg (Free.g_load _ _ rfl h0 (LG.out wa hF) ⟨rfl, hF⟩)
    | 16 =>
      cases hi
      have hg : a.eval (.tmp 19) = .bool false := hpre 11 _ _ (by kernel_rfl) rfl rfl
      exact Free.c_yes rfl rfl rfl hg (Free.g_move _ rfl ⟨((hold 2 (by decide)).trans rfl), hF⟩)
    | 17 =>
      cases hi
      have hg : a.eval (.tmp 19) = .bool false := hpre 11 _ _ (by kernel_rfl) rfl rfl
      have h0 : a.eval (.tmp 23) = .slice A n0 c := hpre 15 _ _ (by kernel_rfl) rfl rfl
      have h1 : a.eval (.tmp 24) = .int .i64 t := hpre 16 _ _ (by kernel_rfl) rfl rfl
      refine Free.c_yes rfl rfl rfl hg (Free.g_call _ _ rfl Tryz.func84 (by kernel_rfl) rfl [.slice A n0 c, .int .i64 t] (by show [a.eval (.tmp 23), a.eval (.tmp 24)] = _; rw [h0, h1]) ?_)
      exact (H2.out wa hF).mono fun e w2 ⟨he, hb2⟩ => ⟨_, he, rfl, hF.trans (hb2.mono hF.size)⟩
    | 18 =>
      cases hi
      have hg : a.eval (.tmp 19) = .bool false := hpre 11 _ _ (by kernel_rfl) rfl rfl
      have h0 : a.eval (.tmp 25) = .bool false := hpre 17 _ _ (by kernel_rfl) rfl rfl
      exact Free.c_yes rfl rfl rfl hg (g_not _ _ rfl h0 ⟨rfl, hF⟩)
    | 19 =>
      cases hi
      have h1 : a.eval (.tmp 19) = .bool false := hpre 11 _ _ (by kernel_rfl) rfl rfl
      have h3 : a.eval (.tmp 26) = .bool true := hpre 18 _ _ (by kernel_rfl) rfl rfl
      exact Free.c_all rfl (Free.g_pick _ _ _ rfl h1 rfl h3 ⟨rfl, hF⟩)
    | _ + 20 => cases hi
  · intro vs we hv hF
    have hlast : vs 19 = .bool true := hv 19 (by simp) (by rintro o ⟨⟩; rfl)
    have HWE := Lib.hid hF; clear hF hv
    simp only [Free.puts, Nat.reduceAdd, hlast]
    generalize vs 0 = y0
    generalize vs 1 = y1
    generalize vs 2 = y2
    generalize vs 3 = y3
    generalize vs 4 = y4
    generalize vs 5 = y5
    generalize vs 6 = y6
    generalize vs 7 = y7
    generalize vs 8 = y8
    generalize vs 9 = y9
    generalize vs 10 = y10
    generalize vs 11 = y11
    generalize vs 12 = y12
    generalize vs 13 = y13
    generalize vs 14 = y14
    generalize vs 15 = y15
    generalize vs 16 = y16
    generalize vs 17 = y17
    generalize vs 18 = y18
    go_simp
    go_wp2_with fail
    go_ret
    exact ⟨rfl, HBW.out.trans (HWE.out.mono HBW.out.size)⟩
set_option maxHeartbeats 8000000 in
theorem least_offB (p n0 c base : Nat) (A : Option Addr) (f t : Int) (w : World) (hc : w.cell? ⟨p, 0, none⟩ = some (.slice A n0 c)) (hf : decide (0 ≤ f ∧ f < (n0 : Int)) = false) :
    Calls Tryz.prog 43 #[.pointer (some ⟨p, 0, none⟩), .int .i64 f, .int .i64 t] w fun e w' => e = .returned (.slice none 0 0) ∧ Below w.heap.size w w' := by
  have hw0 : (((w.alloc (.cells #[.pointer (some ⟨p, 0, none⟩)] 27)).alloc (.cells #[.int .i64 f] 3))).cell? ⟨w.heap.size, 0, none⟩ = some (.pointer (some ⟨p, 0, none⟩)) := ((Row.made w 27 [.pointer (some ⟨p, 0, none⟩)]).alloc _).cell 0
  have hw1 : (((w.alloc (.cells #[.pointer (some ⟨p, 0, none⟩)] 27)).alloc (.cells #[.int .i64 f] 3))).cell? ⟨w.heap.size + 1, 0, none⟩ = some (.int .i64 f) := (made2 w _ 3 [.int .i64 f]).cell 0
  have hbw : Below w.heap.size w ((w.alloc (.cells #[.pointer (some ⟨p, 0, none⟩)] 27)).alloc (.cells #[.int .i64 f] 3)) := ((Below.refl _ _).alloc (Nat.le_refl _) _).alloc (by simp) _
  have hgc := below_cell hc _ hbw
  have HW0 := Lib.hid hw0; have HW1 := Lib.hid hw1; have HBW := Lib.hid hbw; have HGC := Lib.hid hgc; clear hw0 hw1 hbw hgc hc
  go_enter Tryz.func43, Tryz.ntmps43
  go_wp2_with fail
  generalize (w.alloc (.cells #[.pointer (some ⟨p, 0, none⟩)] 27)).alloc (.cells #[.int .i64 f] 3) = w2 at *
  obtain ⟨h0, hh0⟩ : ∃ h0, w.heap.size = h0 := ⟨_, rfl⟩
  obtain ⟨h1, hh1⟩ : ∃ h1, w.heap.size + 1 = h1 := ⟨_, rfl⟩
  rw [hh1] at HW1 ⊢
  rw [hh0] at HW0 ⊢
  have HH := Lib.hid (And.intro hh0 hh1); clear hh0 hh1
  have LP := Lib.hid (load_pp HW0.out); have LG := Lib.hid (load_gg HGC.out); have LF := Lib.hid (load_ii HW1.out)
  have H1 := Lib.hid (isNode_below (A := A) (c := c) hf w2); clear hf
  refine Free.wp_guarded (by kernel_rfl) (by kernel_rfl) (fun w' => Below w2.heap.size w2 w') (AskB p h0 h1 n0 c A f t) ((Below.refl _ _).drew) ?_ ?_
  · intro i o hi a wa hold hpre hF
    match i with
    | 0 =>
      cases hi
      exact Free.c_all rfl (Free.g_load _ _ rfl ((hold 3 (by decide)).trans rfl) (LP.out wa hF) ⟨rfl, hF⟩)
    | 1 =>
      cases hi
      have h2 : a.eval (.tmp 8) = .pointer (some ⟨p, 0, none⟩) := hpre 0 _ _ (by kernel_rfl) rfl rfl
      exact Free.c_all rfl (Free.g_bin _ _ _ _ _ rfl h2 rfl (ptr_no _ _ p 0 wa) ⟨rfl, hF⟩)
    | 2 =>
      cases hi
      have h0 : a.eval (.tmp 9) = .bool false := hpre 1 _ _ (by kernel_rfl) rfl rfl
      exact Free.c_all rfl (Free.g_move _ rfl ⟨h0, hF⟩)
    | 3 =>
      cases hi
      have hg : a.eval (.tmp 10) = .bool false := hpre 2 _ _ (by kernel_rfl) rfl rfl
      exact Free.c_yes rfl rfl rfl hg (Free.g_load _ _ rfl ((hold 3 (by decide)).trans rfl) (LP.out wa hF) ⟨rfl, hF⟩)
    | 4 =>
      cases hi
      have hg : a.eval (.tmp 10) = .bool false := hpre 2 _ _ (by kernel_rfl) rfl rfl
      have h0 : a.eval (.tmp 11) = .pointer (some ⟨p, 0, none⟩) := hpre 3 _ _ (by kernel_rfl) rfl rfl
      refine Free.c_yes rfl rfl rfl hg ?_
      unfold execOp
      simp only [h0]
      go_simp
      exact ⟨rfl, hF⟩
    | 5 =>
      cases hi
      have hg : a.eval (.tmp 10) = .bool false := hpre 2 _ _ (by kernel_rfl) rfl rfl
      have h0 : a.eval (.tmp 12) = .pointer (some ⟨p, 0, none⟩) := hpre 4 _ _ (by kernel_rfl) rfl rfl
      exact Free.c_yes rfl rfl rfl hg (Free.g_field (v := .pointer (some ⟨p, 0, none⟩)) _ _ _ rfl h0 (by go_simp) ⟨rfl, hF⟩)
    | 6 =>
      cases hi
      have hg : a.eval (.tmp 10) = .bool false := hpre 2 _ _ (by kernel_rfl) rfl rfl
      have h0 : a.eval (.tmp 13) = .pointer (some ⟨p, 0, none⟩) := hpre 5 _ _ (by kernel_rfl) rfl rfl
      exact Free.c_yes rfl rfl rfl hg (Free.g_load _ _ rfl h0 (LG.out wa hF) ⟨rfl, hF⟩)
    | 7 =>
      cases hi
      have hg : a.eval (.tmp 10) = .bool false := hpre 2 _ _ (by kernel_rfl) rfl rfl
      exact Free.c_yes rfl rfl rfl hg (Free.g_load _ _ rfl ((hold 4 (by decide)).trans rfl) (LF.out wa hF) ⟨rfl, hF⟩)
    | 8 =>
      cases hi
      have hg : a.eval (.tmp 10) = .bool false := hpre 2 _ _ (by kernel_rfl) rfl rfl
      have h0 : a.eval (.tmp 14) = .slice A n0 c := hpre 6 _ _ (by kernel_rfl) rfl rfl
      have h1 : a.eval (.tmp 15) = .int .i64 f := hpre 7 _ _ (by kernel_rfl) rfl rfl
      refine Free.c_yes rfl rfl rfl hg (Free.g_call _ _ rfl Tryz.func84 (by kernel_rfl) rfl [.slice A n0 c, .int .i64 f] (by show [a.eval (.tmp 14), a.eval (.tmp 15)] = _; rw [h0, h1]) ?_)
      exact (H1.out wa hF).mono fun e w2 ⟨he, hb2⟩ => ⟨_, he, rfl, hF.trans (hb2.mono hF.size)⟩
    | 9 =>
      cases hi
      have hg : a.eval (.tmp 10) = .bool false := hpre 2 _ _ (by kernel_rfl) rfl rfl
      have h0 : a.eval (.tmp 16) = .bool false := hpre 8 _ _ (by kernel_rfl) rfl rfl
      exact Free.c_yes rfl rfl rfl hg (g_not _ _ rfl h0 ⟨rfl, hF⟩)
    | 10 =>
      cases hi
      have h1 : a.eval (.tmp 10) = .bool false := hpre 2 _ _ (by kernel_rfl) rfl rfl
      have h3 : a.eval (.tmp 17) = .bool true := hpre 9 _ _ (by kernel_rfl) rfl rfl
      exact Free.c_all rfl (Free.g_pick _ _ _ rfl h1 rfl h3 ⟨rfl, hF⟩)
    | 11 =>
      cases hi
      have h0 : a.eval (.tmp 18) = .bool true := hpre 10 _ _ (by kernel_rfl) rfl rfl
      exact Free.c_all rfl (Free.g_move _ rfl ⟨h0, hF⟩)
    | 12 =>
      cases hi
      have hg : a.eval (.tmp 19) = .bool true := hpre 11 _ _ (by kernel_rfl) rfl rfl
      exact Free.c_no rfl rfl rfl hg ⟨rfl, hF⟩
    | 13 =>
      cases hi
      have hg : a.eval (.tmp 19) = .bool true := hpre 11 _ _ (by kernel_rfl) rfl rfl
      exact Free.c_no rfl rfl rfl hg ⟨rfl, hF⟩
    | 14 =>
      cases hi
      have hg : a.eval (.tmp 19) = .bool true := hpre 11 _ _ (by kernel_rfl) rfl rfl
      exact Free.c_no rfl rfl rfl hg ⟨rfl, hF⟩
    | 15 =>
      cases hi
      have hg : a.eval (.tmp 19) = .bool true := hpre 11 _ _ (by kernel_rfl) rfl rfl
      exact Free.c_no rfl rfl rfl hg ⟨rfl, hF⟩
    | 16 =>
      cases hi
      have hg : a.eval (.tmp 19) = .bool true := hpre 11 _ _ (by kernel_rfl) rfl rfl
      exact Free.c_no rfl rfl rfl hg ⟨rfl, hF⟩
    | 17 =>
      cases hi
      have hg : a.eval (.tmp 19) = .bool true := hpre 11 _ _ (by kernel_rfl) rfl rfl
      exact Free.c_no rfl rfl rfl hg ⟨rfl, hF⟩
    | 18 =>
      cases hi
      have hg : a.eval (.tmp 19) = .bool true := hpre 11 _ _ (by kernel_rfl) rfl rfl
      exact Free.c_no rfl rfl rfl hg ⟨rfl, hF⟩
    | 19 =>
      cases hi
      have h1 : a.eval (.tmp 19) = .bool true := hpre 11 _ _ (by kernel_rfl) rfl rfl
      have h3 : a.eval (.tmp 26) = undef := hpre 18 _ _ (by kernel_rfl) rfl rfl
      exact Free.c_all rfl (Free.g_pick _ _ _ rfl h1 rfl h3 ⟨rfl, hF⟩)
    | _ + 20 => cases hi
  · intro vs we hv hF
    have hlast : vs 19 = .bool true := hv 19 (by simp) (by rintro o ⟨⟩; rfl)
    have HWE := Lib.hid hF; clear hF hv
    simp only [Free.puts, Nat.reduceAdd, hlast]
    generalize vs 0 = y0
    generalize vs 1 = y1
    generalize vs 2 = y2
    generalize vs 3 = y3
    generalize vs 4 = y4
    generalize vs 5 = y5
    generalize vs 6 = y6
    generalize vs 7 = y7
    generalize vs 8 = y8
    generalize vs 9 = y9
    generalize vs 10 = y10
    generalize vs 11 = y11
    generalize vs 12 = y12
    generalize vs 13 = y13
    generalize vs 14 = y14
    generalize vs 15 = y15
    generalize vs 16 = y16
    generalize vs 17 = y17
    generalize vs 18 = y18
    go_simp
    go_wp2_with fail
    go_ret
    exact ⟨rfl, HBW.out.trans (HWE.out.mono HBW.out.size)⟩
theorem least_known (p F c : Nat) (A : Option Addr) (lg : List Gn) (fs : List (Option Sl)) (base i n : Nat) (s : Sl) (w : World) (hP : Pth w base p F A c lg fs) (hi : i < lg.length) (hn : n < lg.length) (hs : fs[i]? = some (some s)) (hl : lg.length ≤ 14) :
    Calls Tryz.prog 43 #[.pointer (some ⟨p, 0, none⟩), .int .i64 (i : Nat), .int .i64 (n : Nat)] w fun e w' => (∃ v l, e = .returned v ∧ LeastR (nds lg) i n w' v l) ∧ Below w.heap.size w w' := by
  obtain ⟨f, hfi⟩ : ∃ f : Int, ((i : Nat) : Int) = f := ⟨_, rfl⟩
  obtain ⟨t, htn⟩ : ∃ t : Int, ((n : Nat) : Int) = t := ⟨_, rfl⟩
  obtain ⟨n0, hn0⟩ : ∃ n0, lg.length = n0 := ⟨_, rfl⟩
  have hf : decide (0 ≤ f ∧ f < (n0 : Int)) = true := decide_eq_true (by omega)
  have ht : decide (0 ≤ t ∧ t < (n0 : Int)) = true := decide_eq_true (by omega)
  have hc : w.cell? ⟨p, 0, none⟩ = some (.slice A n0 c) := by rw [← hn0]; exact hP.row.cell 0
  have hc1 : w.cell? ⟨p, 1, none⟩ = some (.slice (some ⟨F, 0, none⟩) n0 n0) := by rw [← hn0]; exact hP.row.cell 1
  have hfz : f < (n0 : Int) := by omega
  have htz : t < (n0 : Int) := by omega
  have hf0 : 0 ≤ f := by omega
  have ht0 : 0 ≤ t := by omega
  have f3 := fan_at hP.fans hs 3 _ rfl
  have f4 := fan_at hP.fans hs 4 _ rfl
  obtain ⟨B, rA, l, rc, hse, hBl, hcell, hres⟩ := RowsAt.get (hP.known i s hs) (n := n) (by rw [nds_len]; exact hn)
  have hnl : (nds lg).length = n0 := by rw [nds_len]; exact hn0
  rw [hse] at f4
  rw [hnl] at f4
  have hit : f.toNat = i := by omega
  have hnt : t.toNat = n := by omega
  have HC1 := Lib.hid hc1; have HF3 := Lib.hid f3; have HF4 := Lib.hid f4; have HCELL := Lib.hid hcell; have HRES := Lib.hid hres; have HP := Lib.hid hP
  rw [hfi, htn]
  clear hc1 f3 f4 hcell hres hP hs hse hnl
  have hw0 : (((w.alloc (.cells #[.pointer (some ⟨p, 0, none⟩)] 27)).alloc (.cells #[.int .i64 f] 3))).cell? ⟨w.heap.size, 0, none⟩ = some (.pointer (some ⟨p, 0, none⟩)) := ((Row.made w 27 [.pointer (some ⟨p, 0, none⟩)]).alloc _).cell 0
  have hw1 : (((w.alloc (.cells #[.pointer (some ⟨p, 0, none⟩)] 27)).alloc (.cells #[.int .i64 f] 3))).cell? ⟨w.heap.size + 1, 0, none⟩ = some (.int .i64 f) := (made2 w _ 3 [.int .i64 f]).cell 0
  have hbw : Below w.heap.size w ((w.alloc (.cells #[.pointer (some ⟨p, 0, none⟩)] 27)).alloc (.cells #[.int .i64 f] 3)) := ((Below.refl _ _).alloc (Nat.le_refl _) _).alloc (by simp) _
  have hgc := below_cell hc _ hbw
  have HW0 := Lib.hid hw0; have HW1 := Lib.hid hw1; have HBW := Lib.hid hbw; have HGC := Lib.hid hgc; clear hw0 hw1 hbw hgc hc
  go_enter Tryz.func43, Tryz.ntmps43
  go_wp2_with fail
  generalize (w.alloc (.cells #[.pointer (some ⟨p, 0, none⟩)] 27)).alloc (.cells #[.int .i64 f] 3) = w2 at *
  obtain ⟨h0, hh0⟩ : ∃ h0, w.heap.size = h0 := ⟨_, rfl⟩
  obtain ⟨h1, hh1⟩ : ∃ h1, w.heap.size + 1 = h1 := ⟨_, rfl⟩
  rw [hh1] at HW1 ⊢
  rw [hh0] at HW0 ⊢
  have HH := Lib.hid (And.intro hh0 hh1); clear hh0 hh1
  have LP := Lib.hid (load_pp HW0.out); have LG := Lib.hid (load_gg HGC.out); have LF := Lib.hid (load_ii HW1.out)
  have H1 := Lib.hid (isNode_below (A := A) (c := c) hf w2); have H2 := Lib.hid (isNode_below (A := A) (c := c) ht w2); clear hf ht
  refine Free.wp_guarded (by kernel_rfl) (by kernel_rfl) (fun w' => Below w2.heap.size w2 w') (AskC p h0 h1 n0 c A f t) ((Below.refl _ _).drew) ?_ ?_
  · intro i o hi a wa hold hpre hF
    match i with
    | 0 =>
      cases hi
      exact Free.c_all rfl (Free.g_load _ _ rfl ((hold 3 (by decide)).trans rfl) (LP.out wa hF) ⟨rfl, hF⟩)
    | 1 =>
      cases hi
      have h2 : a.eval (.tmp 8) = .pointer (some ⟨p, 0, none⟩) := hpre 0 _ _ (by kernel_rfl) rfl rfl
      exact Free.c_all rfl (Free.g_bin _ _ _ _ _ rfl h2 rfl (ptr_no _ _ p 0 wa) ⟨rfl, hF⟩)
    | 2 =>
      cases hi
      have h0 : a.eval (.tmp 9) = .bool false := hpre 1 _ _ (by kernel_rfl) rfl rfl
      exact Free.c_all rfl (Free.g_move _ rfl ⟨h0, hF⟩)
    | 3 =>
      cases hi
      have hg : a.eval (.tmp 10) = .bool false := hpre 2 _ _ (by kernel_rfl) rfl rfl
      exact Free.c_yes rfl rfl rfl hg (Free.g_load _ _ rfl ((hold 3 (by decide)).trans rfl) (LP.out wa hF) ⟨rfl, hF⟩)
    | 4 =>
      cases hi
      have hg : a.eval (.tmp 10) = .bool false := hpre 2 _ _ (by kernel_rfl) rfl rfl
      have h0 : a.eval (.tmp 11) = .pointer (some ⟨p, 0, none⟩) := hpre 3 _ _ (by kernel_rfl) rfl rfl
      refine Free.c_yes rfl rfl rfl hg ?_
      unfold execOp
      simp only [h0]
      go_simp
      exact ⟨rfl, hF⟩
    | 5 =>
      cases hi
      have hg : a.eval (.tmp 10) = .bool false := hpre 2 _ _ (by kernel_rfl) rfl rfl
      have h0 : a.eval (.tmp 12) = .pointer (some ⟨p, 0, none⟩) := hpre 4 _ _ (by kernel_rfl) rfl rfl
      exact Free.c_yes rfl rfl rfl hg (Free.g_field (v := .pointer (some ⟨p, 0, none⟩)) _ _ _ rfl h0 (by go_simp) ⟨rfl, hF⟩)
    | 6 =>
      cases hi
      have hg : a.eval (.tmp 10) = .bool false := hpre 2 _ _ (by kernel_rfl) rfl rfl
      have h0 : a.eval (.tmp 13) = .pointer (some ⟨p, 0, none⟩) := hpre 5 _ _ (by kernel_rfl) rfl rfl
      exact Free.c_yes rfl rfl rfl hg (Free.g_load _ _ rfl h0 (LG.out wa hF) ⟨rfl, hF⟩)
    | 7 =>
      cases hi
      have hg : a.eval (.tmp 10) = .bool false := hpre 2 _ _ (by kernel_rfl) rfl rfl
      exact Free.c_yes rfl rfl rfl hg (Free.g_load _ _ rfl ((hold 4 (by decide)).trans rfl) (LF.out wa hF) ⟨rfl, hF⟩)
    | 8 =>
      cases hi
      have hg : a.eval (.tmp 10) = .bool false := hpre 2 _ _ (by kernel_rfl) rfl rfl
      have h0 : a.eval (.tmp 14) = .slice A n0 c := hpre 6 _ _ (by kernel_rfl) rfl rfl
      have h1 : a.eval (.tmp 15) = .int .i64 f := hpre 7 _ _ (by kernel_rfl) rfl rfl
      refine Free.c_yes rfl rfl rfl hg (Free.g_call _ _ rfl Tryz.func84 (by kernel_rfl) rfl [.slice A n0 c, .int .i64 f] (by show [a.eval (.tmp 14), a.eval (.tmp 15)] = _; rw [h0, h1]) ?_)
      exact (H1.out wa hF).mono fun e w2 ⟨he, hb2⟩ => ⟨_, he, rfl, hF.trans (hb2.mono hF.size)⟩
    | 9 =>
      cases hi
      have hg : a.eval (.tmp 10) = .bool false := hpre 2 _ _ (by kernel_rfl) rfl rfl
      have h0 : a.eval (.tmp 16) = .bool true := hpre 8 _ _ (by kernel_rfl) rfl rfl
      exact Free.c_yes rfl rfl rfl hg (g_not _ _ rfl h0 ⟨rfl, hF⟩)
    | 10 =>
      cases hi
      have h1 : a.eval (.tmp 10) = .bool false := hpre 2 _ _ (by kernel_rfl) rfl rfl
      have h3 : a.eval (.tmp 17) = .bool false := hpre 9 _ _ (by kernel_rfl) rfl rfl
      exact Free.c_all rfl (Free.g_pick _ _ _ rfl h1 rfl h3 ⟨rfl, hF⟩)
    | 11 =>
      cases hi
      have h0 : a.eval (.tmp 18) = .bool false := hpre 10 _ _ (by kernel_rfl) rfl rfl
      exact Free.c_all rfl (Free.g_move _ rfl ⟨h0, hF⟩)
    | 12 =>
      cases hi
      have hg : a.eval (.tmp 19) = .bool false := hpre 11 _ _ (by kernel_rfl) rfl rfl
      exact Free.c_yes rfl rfl rfl hg (Free.g_load _ _ rfl ((hold 3 (by decide)).trans rfl) (LP.out wa hF) ⟨rfl, hF⟩)
    | 13 =>
      cases hi
      have hg : a.eval (.tmp 19) = .bool false := hpre 11 _ _ (by kernel_rfl) rfl rfl
      have h0 : a.eval (.tmp 20) = .pointer (some ⟨p, 0, none⟩) := hpre 12 _ _ (by kernel_rfl) rfl rfl
      refine Free.c_yes rfl rfl rfl hg ?_
      unfold execOp
      simp only [h0]
      go_simp
      exact ⟨rfl, hF⟩
    | 14 =>
      cases hi
      have hg : a.eval (.tmp 19) = .bool false := hpre 11 _ _ (by kernel_rfl) rfl rfl
      have h0 : a.eval (.tmp 21) = .pointer (some ⟨p, 0, none⟩) := hpre 13 _ _ (by kernel_rfl) rfl rfl
      exact Free.c_yes rfl rfl rfl hg (Free.g_field (v := .pointer (some ⟨p, 0, none⟩)) _ _ _ rfl h0 (by go_simp) ⟨rfl, hF⟩)
    | 15 =>
      cases hi
      have hg : a.eval (.tmp 19) = .bool false := hpre 11 _ _ (by kernel_rfl) rfl rfl
      have h0 : a.eval (.tmp 22) = .pointer (some ⟨p, 0, none⟩) := hpre 14 _ _ (by kernel_rfl) rfl rfl
      exact Free.c_yes rfl rfl rfl hg (Free.g_load _ _ rfl h0 (LG.out wa hF) ⟨rfl, hF⟩)
    | 16 =>
      cases hi
      have hg : a.eval (.tmp 19) = .bool false := hpre 11 _ _ (by kernel_rfl) rfl rfl
      exact Free.c_yes rfl rfl rfl hg (Free.g_move _ rfl ⟨((hold 2 (by decide)).trans rfl), hF⟩)
    | 17 =>
      cases hi
      have hg : a.eval (.tmp 19) = .bool false := hpre 11 _ _ (by kernel_rfl) rfl rfl
      have h0 : a.eval (.tmp 23) = .slice A n0 c := hpre 15 _ _ (by kernel_rfl) rfl rfl
      have h1 : a.eval (.tmp 24) = .int .i64 t := hpre 16 _ _ (by kernel_rfl) rfl rfl
      refine Free.c_yes rfl rfl rfl hg (Free.g_call _ _ rfl Tryz.func84 (by kernel_rfl) rfl [.slice A n0 c, .int .i64 t] (by show [a.eval (.tmp 23), a.eval (.tmp 24)] = _; rw [h0, h1]) ?_)
      exact (H2.out wa hF).mono fun e w2 ⟨he, hb2⟩ => ⟨_, he, rfl, hF.trans (hb2.mono hF.size)⟩
    | 18 =>
      cases hi
      have hg : a.eval (.tmp 19) = .bool false := hpre 11 _ _ (by kernel_rfl) rfl rfl
      have h0 : a.eval (.tmp 25) = .bool true := hpre 17 _ _ (by kernel_rfl) rfl rfl
      exact Free.c_yes rfl rfl rfl hg (g_not _ _ rfl h0 ⟨rfl, hF⟩)
    | 19 =>
      cases hi
      have h1 : a.eval (.tmp 19) = .bool false := hpre 11 _ _ (by kernel_rfl) rfl rfl
      have h3 : a.eval (.tmp 26) = .bool false := hpre 18 _ _ (by kernel_rfl) rfl rfl
      exact Free.c_all rfl (Free.g_pick _ _ _ rfl h1 rfl h3 ⟨rfl, hF⟩)
    | _ + 20 => cases hi
  · intro vs we hv hF
    have hlast : vs 19 = .bool false := hv 19 (by simp) (by rintro o ⟨⟩; rfl)
    have HWE := Lib.hid hF; clear hF hv
    simp only [Free.puts, Nat.reduceAdd, hlast]
    generalize vs 0 = y0
    generalize vs 1 = y1
    generalize vs 2 = y2
    generalize vs 3 = y3
    generalize vs 4 = y4
    generalize vs 5 = y5
    generalize vs 6 = y6
    generalize vs 7 = y7
    generalize vs 8 = y8
    generalize vs 9 = y9
    generalize vs 10 = y10
    generalize vs 11 = y11
    generalize vs 12 = y12
    generalize vs 13 = y13
    generalize vs 14 = y14
    generalize vs 15 = y15
    generalize vs 16 = y16
    generalize vs 17 = y17
    generalize vs 18 = y18
    go_simp
    have hbe := HBW.out.trans (HWE.out.mono HBW.out.size)
    have e0 := below_cell HW0.out _ HWE.out
    have e1 := below_cell HW1.out _ HWE.out
    have e2 := below_cell HC1.out _ hbe
    have hle := (hbe.size)
    have l0 := World.block_lt_of_cell? _ _ e0; have l1 := World.block_lt_of_cell? _ _ e1; have l2 := World.block_lt_of_cell? _ _ e2
    simp only at l0 l1 l2
    have HBE := Lib.hid hbe; clear hbe
    go_upto_region 3 with fail
    go_cut [7] from 28 to 33 (fun v wx => ∃ hf, v = .pointer (some ⟨hf, 0, none⟩) ∧ Row wx hf 130 [.pointer (some ⟨F, i * 5, none⟩)] ∧ Below we.heap.size we wx)
    case first =>
      go_region
      all_goals
        go_wp2_with fail
        go_meet
        refine ⟨_, rfl, ?_, ?_⟩
        · rw [← hit]; first | exact Row.drew (Row.made _ _ _) | exact Row.made _ _ _
        · exact ((Below.refl _ _).alloc (Nat.le_refl _) _).drew
    case rest =>
      obtain ⟨hf, rfl, hrow, hbw⟩ := hcut
      have hbx := HBE.out.trans (hbw.mono HBE.out.size)
      have g0 := hrow.cell 0
      simp only [List.getElem?_cons_zero] at g0
      have g3 := below_cell HF3.out _ hbx
      have g4 : wc.cell? ⟨F, i * 5 + 4, none⟩ = some (.slice (some ⟨B, 0, none⟩) n0 n0) := below_cell HF4.out _ hbx
      have g5 := HCELL.out _ hbx
      have hfl := flag_load ⟨F, i * 5 + 3, none⟩ 1 true rfl wc g3
      have HRW := Lib.hid hrow; have HBX := Lib.hid hbx; have HFL := Lib.hid hfl; clear hrow hbw hbx e0 e1 e2 hfl g3
      go_wp2_with fail
      refine HFL.out.mono ?_; rintro e w5 ⟨rfl, rfl⟩
      dsimp only
      go_wp2_with fail
      go_ret
      exact ⟨⟨_, l, rfl, HRES.out _ HBX.out⟩, HBX.out⟩
end
end Go.Proofs.YtmhophmpbpbjaaaGreatDoor
