/- FrRefEither, FrLawOf -/
import Derived.Test.YtkbabmifdfmhlaaFrRefTwo
import Derived.Test.YtkbabmifdfmhlaaKey
import Derived.Test.YtkbabmifdfmhlaaFrRefOf
namespace Go.Proofs.Ytkbabmifdfmhlaa
set_option linter.unusedVariables false
section
open Go.ChangeShapes Go.WideShapes Go.ChangeAt Go.RowKit Go.BigFrame Go.Shelf
set_option maxRecDepth 100000
namespace Free
section
variable {P : Program} {K : Value → World → Prop} {a : Act} {o : Oper} {w w' : World}
theorem g_alloc {v : Value} (t : TypeId) (ho : o.op = .alloc t) (hr : (Instr.alloc t true (.tuple #[])).run P w = .ok v w') (h : K v w') : gets P K ((execOp a.eval o).run P w) := by
  unfold execOp
  simp only [ho, Sem.run_bind, hr, Result.andThen_ok, Sem.run_pure, gets]; exact h
theorem g_store {p q : Value} (t : TypeId) (x y : Operand) (ho : o.op = .store t x y) (hx : a.eval x = p) (hy : a.eval y = q) (hr : (Instr.storeAt t p q).run P w = .ok () w') (h : K undef w') : gets P K ((execOp a.eval o).run P w) := by
  unfold execOp
  simp only [ho, hx, hy, Sem.run_bind, hr, Result.andThen_ok, Sem.run_pure, gets]; exact h
theorem g_extract {p v : Value} (x : Operand) (i : Nat) (ho : o.op = .extract x i) (hx : a.eval x = p) (hr : (Instr.extract p i).run P w = .ok v w') (h : K v w') : gets P K ((execOp a.eval o).run P w) := by
  unfold execOp
  simp only [ho, hx, Sem.run_bind, hr, Result.andThen_ok, Sem.run_pure, gets]; exact h
end
end Free
theorem alloc_st (w : World) : (Instr.alloc 25 true (.tuple #[])).run Try.prog w = .ok (.pointer (some ⟨w.heap.size, 0, none⟩)) (w.alloc (.cells #[.int .i64 0, .int .i64 0, .int .i64 0, .int .i64 0, .int .i64 0] 25)) := by
  go_simp
theorem extract_0 (u v : Value) (w : World) : (Instr.extract (.tuple #[u, v]) 0).run Try.prog w = .ok u w := by
  go_simp
theorem extract_1 (u v : Value) (w : World) : (Instr.extract (.tuple #[u, v]) 1).run Try.prog w = .ok v w := by
  go_simp
theorem store_st (w : World) (g : Nat) (z t : St) (h : Holds w g z) : ∃ w', (Instr.storeAt 25 (.pointer (some ⟨g, 0, none⟩)) (.agg #[.int .i64 t.d, .int .i64 t.e, .int .i64 t.x, .int .i64 t.y, .int .i64 t.z])).run Try.prog w = .ok () w' ∧ Holds w' g t ∧ ∀ B w0, B ≤ g → Below B w0 w → Below B w0 w' := by
  obtain ⟨c0, c1, c2, c3, c4⟩ := h.cells5
  have hlt := h.lt
  have f0 := Row.free h 0; have f1 := Row.free h 1; have f2 := Row.free h 2; have f3 := Row.free h 3; have f4 := Row.free h 4
  refine ⟨_, by go_simp; rfl, ?_, ?_⟩
  · exact ((((Row.put h 0 _).put 1 _).put 2 _).put 3 _).put 4 _
  · intro B w0 hB hb
    exact ((((hb.setCell hB _).setCell hB _).setCell hB _).setCell hB _).setCell hB _
theorem index_st (b o n c k : Nat) (hk : k < n) (w : World) : (Instr.indexAt 40 (.slice (some ⟨b, o, none⟩) n c) (.int .i64 (k : Nat))).run Try.prog w = .ok (.pointer (some ⟨b, o + k * 5, none⟩)) w := by
  have hkz : (k : Int) < (n : Int) := by omega
  go_simp
/-- what stands while the region goes on: the box, once made, holds zero, and once stored the join -/
def Ej (W : World) (J : St) (b : Nat → Bool) (vs : Nat → Value) (w : World) : Prop :=
  Below W.heap.size W w ∧ (b 12 = true → ∃ g, vs 12 = .pointer (some ⟨g, 0, none⟩) ∧ W.heap.size ≤ g ∧ Holds w g (if b 13 then J else St.zero)) ∧ (b 13 = true → b 12 = true)
theorem Ej.keep {W : World} {J : St} {b : Nat → Bool} {vs : Nat → Value} {w w' : World} {i : Nat} {v : Value} (h : Ej W J b vs w) (hb : Below w.heap.size w w') (h12 : i ≠ 12) (h13 : i ≠ 13) : Ej W J (Free.updb b i) (Free.updw vs i v) w' := by
  refine ⟨h.1.trans (hb.mono h.1.size), fun e => ?_, fun e => ?_⟩
  · rw [Free.updb_ne (Ne.symm h12)] at e
    obtain ⟨g, h1, h2, h3⟩ := h.2.1 e
    refine ⟨g, by rw [Free.updw_ne (Ne.symm h12)]; exact h1, h2, ?_⟩
    rw [Free.updb_ne (Ne.symm h13)]
    exact h3.below hb
  · rw [Free.updb_ne (Ne.symm h12)]
    rw [Free.updb_ne (Ne.symm h13)] at e
    exact h.2.2 e
def Vj (p o r s k m : Nat) (A B : Value) (x y J : St) (v : Bool) : Nat → Value → Prop
  | 0, u => u = A
  | 1, u => u = .int .i64 (k : Nat)
  | 2, u => u = .pointer (some ⟨p, o + k * 5, none⟩)
  | 3, u => u = x.val
  | 4, u => u = B
  | 5, u => u = .int .i64 (m : Nat)
  | 6, u => u = .pointer (some ⟨r, s + m * 5, none⟩)
  | 7, u => u = y.val
  | 8, u => u = .tuple #[J.val, .bool v]
  | 9, u => u = .tuple #[J.val, .bool v]
  | 10, u => u = J.val
  | 11, u => u = .bool v
  | 14, u => u = .bool v
  | _, _ => True
def rowTo (a b : List St) (k m : Nat) (x : St) : List St := pairsS (a.take k) b ++ (b.take m).map (x.join ·)
theorem rowTo_zero {a b : List St} {k : Nat} {x : St} : rowTo a b k 0 x = pairsS (a.take k) b := by simp [rowTo]
theorem rowTo_next {a b : List St} {k m : Nat} {x y : St} (hy : b[m]? = some y) : rowTo a b k (m + 1) x = rowTo a b k m x ++ [x.join y] := by
  unfold rowTo
  rw [List.take_add_one, hy]; simp
theorem rowTo_end {a b : List St} {k : Nat} {x : St} (hx : a[k]? = some x) : rowTo a b k b.length x = pairsS (a.take (k + 1)) b := by
  unfold rowTo pairsS
  rw [List.take_add_one, hx, List.take_length]; simp
theorem rowTo_len {a b : List St} {k m : Nat} {x : St} (ha : a.length ≤ 30) (hb : b.length ≤ 30) : (rowTo a b k m x).length ≤ 930 := by
  unfold rowTo
  rw [List.length_append, pairs_len, List.length_map]
  have h1 : (a.take k).length ≤ 30 := by rw [List.length_take]; omega
  have h2 : (b.take m).length ≤ 30 := by rw [List.length_take]; omega
  have h3 := Nat.mul_le_mul h1 hb
  omega
set_option maxRecDepth 100000 in
set_option maxHeartbeats 8000000 in
theorem refEither_any (A B : Option Addr) (a b : List St) (c d : Nat) (w : World) (hA : Slc w A c a) (hB : Slc w B d b) (ha : a.length ≤ 30) (hb : b.length ≤ 30) :
    Calls Try.prog 57 #[.slice A a.length c, .slice B b.length d] w (GivesB w (ifS (decide (Alike a b)) (eitherS a b)) (errS (decide (Alike a b)))) := by
  by_cases hal : Alike a b
  case neg =>
    have hr := refAlikeW hA hB (by omega) (by omega) (decide_eq_false hal) w (Below.refl _ _)
    have HR := Lib.hid hr; have HAL := Lib.hid hal; clear hA hB hr hal
    go_enter Try.func57, Try.ntmps57
    go_wp2_with fail
    refine (HR.out).mono ?_; rintro e w1 ⟨rfl, hb1⟩
    have HB1 := Lib.hid hb1; clear hb1
    go_wp2_with fail
    go_ret2
    rw [decide_eq_false HAL.out]
    exact gives_none HB1.out
  have hr := refAlikeW hA hB (by omega) (by omega) (decide_eq_true hal) w (Below.refl _ _)
  have HA := Lib.hid hA; have HB := Lib.hid hB; have HR := Lib.hid hr; have HAL := Lib.hid hal; clear hA hB hr hal
  go_enter Try.func57, Try.ntmps57
  go_wp2_with fail
  refine (HR.out).mono ?_; rintro e w1 ⟨rfl, hb1⟩
  have HB1 := Lib.hid hb1; clear hb1
  go_wp2_with fail
  go_loopw [6, 7] (fun fv i wr => ∃ k : Nat, k ≤ a.length ∧ i = .int .i64 k ∧ Below w.heap.size w wr ∧ wr.ownsRow w.heap.size 25 5 fv (pairsS (a.take k) b).length (rowS (pairsS (a.take k) b))) (fun _ i _ => a.length - (intOf i).toNat)
  case atStart => exact ⟨0, by omega, rfl, HB1.out, World.ownsRow_nil _ _ _ _⟩
  case round =>
    obtain ⟨k, hk, rfl, hbw, hro⟩ := hrel
    clear HB1
    have HB1 := Lib.hid hbw; have HO := Lib.hid hro; clear hbw hro
    by_cases hlt : k < a.length
    · have hltz : (k : Int) < (a.length : Int) := by omega
      obtain ⟨x, hx⟩ : ∃ x, a[k]? = some x := ⟨_, List.getElem?_eq_getElem hlt⟩
      have HX := Lib.hid hx; clear hx
      go_wp2_with fail
      go_loopw [6, 8] (fun fv i wr => ∃ m : Nat, m ≤ b.length ∧ i = .int .i64 m ∧ Below w.heap.size w wr ∧ wr.ownsRow w.heap.size 25 5 fv (rowTo a b k m x).length (rowS (rowTo a b k m x))) (fun _ i _ => b.length - (intOf i).toNat)
      case atStart => exact ⟨0, by omega, rfl, HB1.out, by rw [rowTo_zero]; exact HO.out⟩
      case round =>
        obtain ⟨m, hm, rfl, hbw, hro⟩ := hrel
        clear HB1 HO
        have HB1 := Lib.hid hbw; have HO := Lib.hid hro; clear hbw hro
        by_cases hlm : m < b.length
        · have hlmz : (m : Int) < (b.length : Int) := by omega
          obtain ⟨y, hy⟩ : ∃ y, b[m]? = some y := ⟨_, List.getElem?_eq_getElem hlm⟩
          have hnx := rowTo_next (a := a) (k := k) (x := x) hy
          have hll := rowTo_len (k := k) (m := m) (x := x) ha hb
          obtain ⟨p, o, hAe, hbl, h0⟩ := (HA.out.ts.below HB1.out).load HX.out
          subst hAe
          obtain ⟨r, s, hBe, hbl2, h1⟩ := (HB.out.ts.below HB1.out).load hy
          subst hBe
          have hj := fun w => refJoin_any x y w
          generalize decide (x.B y) = bv at *
          generalize x.join y = J at *
          generalize rowTo a b k m x = L at *
          have HNX := Lib.hid hnx; have H0 := Lib.hid h0; have H1 := Lib.hid h1; have HJ := Lib.hid hj; have HLL := Lib.hid hll; clear hnx h0 h1 hj hy hbl hbl2 hll
          obtain ⟨W, hW⟩ : ∃ W, W = wr := ⟨_, rfl⟩
          have HW := Lib.hid hW; clear hW
          go_wp2_with fail
          refine Free.wp_key (by kernel_rfl) (by kernel_rfl) (fun b vs wq => Ej wr J b vs wq) (Vj p o r s k m (.slice (some ⟨p, o, none⟩) a.length c) (.slice (some ⟨r, s, none⟩) b.length d) x y J bv) ?_ ?_ ?_
          · intro vs
            exact ⟨(Below.refl _ _).drew, fun e => absurd e (by decide), fun e => absurd e (by decide)⟩
          · intro i oi hi bb vs a9 wq hold hpre hbi hF
            match i with
            | 0 => cases hi; exact Free.c_all rfl (Free.g_move _ rfl ⟨(hold 0 (by decide)).trans rfl, hF.keep (Below.refl _ _) (by decide) (by decide)⟩)
            | 1 => cases hi; exact Free.c_all rfl (Free.g_move _ rfl ⟨(hold 7 (by decide)).trans rfl, hF.keep (Below.refl _ _) (by decide) (by decide)⟩)
            | 2 =>
              cases hi
              have h0 := (hpre 0 _ _ (by kernel_rfl) rfl rfl).2.2
              have h1 := (hpre 1 _ _ (by kernel_rfl) rfl rfl).2.2
              exact Free.c_all rfl (Free.g_indexAddr _ _ _ rfl h0 h1 (index_st p o a.length c k hlt wq) ⟨rfl, hF.keep (Below.refl _ _) (by decide) (by decide)⟩)
            | 3 =>
              cases hi
              have h0 := (hpre 2 _ _ (by kernel_rfl) rfl rfl).2.2
              exact Free.c_all rfl (Free.g_load _ _ rfl h0 (H0.out wq hF.1) ⟨rfl, hF.keep (Below.refl _ _) (by decide) (by decide)⟩)
            | 4 => cases hi; exact Free.c_all rfl (Free.g_move _ rfl ⟨(hold 1 (by decide)).trans rfl, hF.keep (Below.refl _ _) (by decide) (by decide)⟩)
            | 5 => cases hi; exact Free.c_all rfl (Free.g_move _ rfl ⟨(hold 8 (by decide)).trans rfl, hF.keep (Below.refl _ _) (by decide) (by decide)⟩)
            | 6 =>
              cases hi
              have h0 := (hpre 4 _ _ (by kernel_rfl) rfl rfl).2.2
              have h1 := (hpre 5 _ _ (by kernel_rfl) rfl rfl).2.2
              exact Free.c_all rfl (Free.g_indexAddr _ _ _ rfl h0 h1 (index_st r s b.length d m hlm wq) ⟨rfl, hF.keep (Below.refl _ _) (by decide) (by decide)⟩)
            | 7 =>
              cases hi
              have h0 := (hpre 6 _ _ (by kernel_rfl) rfl rfl).2.2
              exact Free.c_all rfl (Free.g_load _ _ rfl h0 (H1.out wq hF.1) ⟨rfl, hF.keep (Below.refl _ _) (by decide) (by decide)⟩)
            | 8 =>
              cases hi
              have h0 : a9.eval (.tmp 31) = x.val := (hpre 3 _ _ (by kernel_rfl) rfl rfl).2.2
              have h1 : a9.eval (.tmp 35) = y.val := (hpre 7 _ _ (by kernel_rfl) rfl rfl).2.2
              refine Free.c_all rfl (Free.g_call _ _ rfl Try.func80 (by kernel_rfl) rfl [x.val, y.val] (by show [a9.eval (.tmp 31), a9.eval (.tmp 35)] = _; rw [h0, h1]) ?_)
              exact (HJ.out wq).mono fun e w9 ⟨he, h9⟩ => ⟨_, he, rfl, hF.keep h9 (by decide) (by decide)⟩
            | 9 =>
              cases hi
              have h0 := (hpre 8 _ _ (by kernel_rfl) rfl rfl).2.2
              exact Free.c_all rfl (Free.g_move _ rfl ⟨h0, hF.keep (Below.refl _ _) (by decide) (by decide)⟩)
            | 10 =>
              cases hi
              have h0 := (hpre 9 _ _ (by kernel_rfl) rfl rfl).2.2
              exact Free.c_all rfl (Free.g_extract _ _ rfl h0 (extract_0 _ _ wq) ⟨rfl, hF.keep (Below.refl _ _) (by decide) (by decide)⟩)
            | 11 =>
              cases hi
              have h0 := (hpre 9 _ _ (by kernel_rfl) rfl rfl).2.2
              exact Free.c_all rfl (Free.g_extract _ _ rfl h0 (extract_1 _ _ wq) ⟨rfl, hF.keep (Below.refl _ _) (by decide) (by decide)⟩)
            | 12 =>
              cases hi
              refine Free.c_all rfl (Free.g_alloc _ rfl (alloc_st wq) ⟨trivial, ?_⟩)
              have h13 : bb 13 = false := by
                cases e : bb 13 with
                | false => rfl
                | true => have := hF.2.2 e; rw [hbi] at this; cases this
              refine ⟨hF.1.alloc hF.1.size _, fun _ => ⟨wq.heap.size, Free.updw_self, hF.1.size, ?_⟩, fun _ => Free.updb_self⟩
              rw [Free.updb_ne (by decide), h13]
              exact Holds.made wq St.zero
            | 13 =>
              cases hi
              obtain ⟨hb12, hev, _⟩ := hpre 12 _ _ (by kernel_rfl) rfl rfl
              have h1 : a9.eval (.tmp 37) = J.val := (hpre 10 _ _ (by kernel_rfl) rfl rfl).2.2
              obtain ⟨g, hg, hge, hh⟩ := hF.2.1 hb12
              rw [hg] at hev
              rw [hbi] at hh
              obtain ⟨w9, hst, hh9, hb9⟩ := store_st wq g St.zero J hh
              refine Free.c_all rfl (Free.g_store _ _ _ rfl hev h1 hst ⟨trivial, ?_⟩)
              refine ⟨hb9 _ _ hge hF.1, fun _ => ⟨g, by rw [Free.updw_ne (by decide)]; exact hg, hge, ?_⟩, fun _ => by rw [Free.updb_ne (by decide)]; exact hb12⟩
              rw [Free.updb_self]
              exact hh9
            | 14 =>
              cases hi
              have h0 := (hpre 11 _ _ (by kernel_rfl) rfl rfl).2.2
              exact Free.c_all rfl (Free.g_assign _ rfl ⟨h0, hF.keep (Below.refl _ _) (by decide) (by decide)⟩)
            | n + 15 => simp at hi
          · intro vs w9 hv hF9
            obtain ⟨g, hg, hge, hh⟩ := hF9.2.1 rfl
            have hb9 := hF9.1
            rw [if_pos rfl] at hh
            clear hv hF9
            have hoK := own_kept HO.out hb9
            have hbW := HB1.out.trans (hb9.mono HB1.out.size)
            obtain ⟨c0, c1, c2, c3, c4⟩ := hh.cells5
            have hgl := hh.lt
            have hoA := hoK.alloc (.cells #[.int .i64 J.d, .int .i64 J.e, .int .i64 J.x, .int .i64 J.y, .int .i64 J.z] 25)
            have hTA := Times.made w9 [J]
            have hbA := hbW.alloc hbW.size (.cells #[.int .i64 J.d, .int .i64 J.e, .int .i64 J.x, .int .i64 J.y, .int .i64 J.z] 25)
            have hbs := hbA.size
            have hll := HLL.out
            have HBA := Lib.hid hbA
            clear hbA hbW hoK hb9 hge hh
            simp only [Free.puts, Nat.reduceAdd]
            rw [hg]
            generalize vs 0 = y0; generalize vs 1 = y1; generalize vs 2 = y2; generalize vs 3 = y3; generalize vs 4 = y4; generalize vs 5 = y5; generalize vs 6 = y6; generalize vs 7 = y7; generalize vs 8 = y8; generalize vs 9 = y9; generalize vs 10 = y10; generalize vs 11 = y11; generalize vs 14 = y14
            clear hg
            go_simp
            go_wp2_with (at_builtin; refine wpList_append_times rfl _ _ rfl w.heap.size _ L.length L rfl hoA ⟨w9.heap.size, 0, none⟩ 1 [J] rfl (by simp) hTA (by have : [J].length = 1 := rfl; omega) hbs ?_; intro v' w5 hown' hgr')
            have hb6 := own_belowS hoA hgr' HBA.out hbs
            have H6 := Lib.hid (And.intro hown' hb6); clear hown' hgr' hoA hTA hb6 c0 c1 c2 c3 c4
            go_wp2_with fail
            go_roundw
            case rel => exact ⟨m + 1, by omega, by simp, H6.out.2, by rw [HNX.out]; simpa using H6.out.1⟩
            case measure => simp only [intOf]; omega
        · have hm' : m = b.length := by omega
          subst hm'
          have hro := HO.out
          rw [rowTo_end HX.out] at hro
          clear HO
          have HO := Lib.hid hro; clear hro
          go_wp2_with fail
          go_roundw
          case rel => exact ⟨k + 1, by omega, by simp, HB1.out, HO.out⟩
          case measure => simp only [intOf]; omega
    · have hk' : k = a.length := by omega
      subst hk'
      have hro := HO.out
      rw [List.take_length] at hro
      obtain ⟨Am, cm, rfl, hsm⟩ := Slc.of_own hro
      have HM := Lib.hid hsm; clear hsm hro HO
      have hle9 : (pairsS a b).length ≤ 900 := by rw [pairs_len]; exact Nat.mul_le_mul ha hb
      have kk := refOf_any Am (pairsS a b) cm _ HM.out (by omega)
      rw [decide_eq_true (even_pairs HAL.out)] at kk
      have K := Lib.hid kk; clear kk
      go_wp2_with fail
      refine (K.out).mono ?_; rintro e w3 ⟨⟨Ar, cr, rfl, hsr, har⟩, hb3⟩
      have H3 := Lib.hid (And.intro hsr (And.intro har hb3)); clear hsr har hb3
      dsimp only
      go_wp2_with fail
      go_ret2
      rw [decide_eq_true HAL.out]
      exact ⟨⟨Ar, cr, rfl, H3.out.1, fun ad h => Nat.le_trans HB1.out.size (H3.out.2.1 ad h)⟩, HB1.out.trans (H3.out.2.2.mono HB1.out.size)⟩
end

section
open Go.ChangeShapes Go.WideShapes Go.ChangeAt Go.RowKit Go.BigFrame Go.Shelf
set_option maxRecDepth 100000
namespace antichainOf
/-- a row of times of the call's own, that is written to -/
structure Wr (w : World) (g n : Nat) : Prop where
  row : ∃ L, Row w g 25 L ∧ ∀ j, j < n → ∃ x : Int, L[j * 5 + 1]? = some (.int .i64 x)
section
variable {w w' : World} {g n b k : Nat}
theorem Wr.cell (h : Wr w g n) (hk : k < n) : ∃ x : Int, w.cell? ⟨g, k * 5 + 1, none⟩ = some (.int .i64 x) := by
  obtain ⟨L, hr, hc⟩ := h.row
  obtain ⟨x, hx⟩ := hc k hk
  exact ⟨x, by rw [hr.cell]; exact hx⟩
theorem Wr.free (h : Wr w g n) (i : Nat) : w.frozen? ⟨g, i, none⟩ = false := by
  obtain ⟨L, hr, _⟩ := h.row
  exact hr.free i
theorem Wr.lt (h : Wr w g n) : g < w.heap.size := by
  obtain ⟨L, hr, _⟩ := h.row
  exact hr.lt
theorem Wr.put (h : Wr w g n) (k : Nat) (x : Int) : Wr (w.setCell ⟨g, k, none⟩ (.int .i64 x)) g n := by
  obtain ⟨L, hr, hc⟩ := h.row
  refine ⟨L.set k (.int .i64 x), hr.put k _, fun j hj => ?_⟩
  obtain ⟨y, hy⟩ := hc j hj
  by_cases e : k = j * 5 + 1
  · exact ⟨x, by rw [e, List.getElem?_set_self (List.getElem?_eq_some_iff.1 hy).1]⟩
  · exact ⟨y, by rw [List.getElem?_set_ne e]; exact hy⟩
theorem Wr.below (h : Wr w g n) (hb : Below w.heap.size w w') : Wr w' g n := by
  obtain ⟨L, hr, hc⟩ := h.row
  exact ⟨L, hr.below hb hr.lt, hc⟩
theorem own_wr0 {base : Nat} {A : Option Addr} {c : Nat} {ts : List St} (h : ∀ hn : 0 < ts.length, ∃ g cap, Value.slice A ts.length c = .slice (some ⟨g, 0, none⟩) ts.length cap ∧ base ≤ g ∧ Wr w g ts.length) : ∃ g, 0 < ts.length → A = some ⟨g, 0, none⟩ ∧ base ≤ g ∧ Wr w g ts.length := by
  by_cases hn : 0 < ts.length
  · obtain ⟨g, cap, e, h1, h2⟩ := h hn
    injection e with e1 e2 e3
    exact ⟨g, fun _ => ⟨e1, h1, h2⟩⟩
  · exact ⟨0, fun h => absurd h hn⟩
theorem own_wr {base : Nat} {v : Value} {ts : List St} (h : w.ownsRow base 25 5 v ts.length (rowS ts)) (hn : 0 < ts.length) : ∃ g cap, v = .slice (some ⟨g, 0, none⟩) ts.length cap ∧ base ≤ g ∧ Wr w g ts.length := by
  obtain ⟨hlen, ⟨_, h0⟩ | ⟨g, cap, cur, rfl, hg, hh, _, _, _, ht⟩⟩ := h
  · omega
  · refine ⟨g, cap, rfl, hg, ⟨cur.toList, ?_, fun j hj => ?_⟩⟩
    · unfold Row
      rw [hh]
    · obtain ⟨t, htj⟩ : ∃ t, ts[j]? = some t := ⟨_, List.getElem?_eq_getElem hj⟩
      refine ⟨t.e, ?_⟩
      have h1 := rowS_at ts j t htj 1 (.int .i64 t.e) rfl
      rw [← ht, List.getElem?_take] at h1
      split at h1
      · exact h1
      · cases h1
end
section
variable {A : Option Addr} {a : List St} {c : Nat} {w : World} {v : Bool}
theorem refOfW (h : Slc w A c a) (ha : a.length ≤ 1000) : Calls Try.prog 30 #[.slice A a.length c] w (GivesB w (ifS (decide (Even a)) (ofS a)) (errS (decide (Even a)))) := refOf_any A a c w h ha
theorem refRightW (h : Slc w A c a) (ha : a.length ≤ 1000) (hv : decide (Fr a) = v) : ∀ w', Below w.heap.size w w' → Calls Try.prog 52 #[.slice A a.length c] w' fun e w'' => e = .returned (.bool v) ∧ Below w'.heap.size w' w'' := fun w' hw => by
  subst hv; exact refRightRow_any A a c w' (h.ts.below hw) ha h.le h.max
theorem Slc.far {g b : Nat} {x : Value} (h : Slc w A c a) (hw : ∀ ad, A = some ad → ad.block ≠ g) : Slc (w.setCell ⟨g, b, none⟩ x) A c a := by
  refine ⟨fun hn => ?_, h.le, h.max, h.nil⟩
  obtain ⟨p, o, e, hlt, hc⟩ := h.ts hn
  have hne : p ≠ g := hw _ e
  refine ⟨p, o, e, by rw [show (w.setCell ⟨g, b, none⟩ x).heap.size = w.heap.size by simp [World.setCell]]; exact hlt, fun j u hu => ?_⟩
  have e1 : (w.setCell ⟨g, b, none⟩ x).cell? ⟨p, o + j, none⟩ = w.cell? ⟨p, o + j, none⟩ := World.cell?_setCell_other _ _ _ _ (by first | exact hne | exact Ne.symm hne | (intro h; cases h; exact hne rfl) | simp [hne, Ne.symm hne])
  rw [e1]
  exact hc j u hu
end
set_option maxRecDepth 100000 in
set_option maxHeartbeats 16000000 in
theorem walk (A : Option Addr) (l : List St) (ca : Nat) (w : World) (hA : Slc w A ca l) :
    Calls Try.prog 26 #[.slice A l.length ca] w fun e w' => e = .returned (.bool true) ∧ Below w.heap.size w w' := by
  have hbw0 := Below.refl w.heap.size w
  have WW := Lib.hid works_any
  have Hl := Lib.hid hA; have HBW := Lib.hid hbw0
  clear hA hbw0
  by_cases ll : 60 < l.length
  · have dl : decide ((l.length : Int) > 60) = true := decide_eq_true (by omega)
    go_enter Try.func26, Try.ntmps26
    go_wp2_with fail
    refine (WW.out _).mono ?_; rintro e we ⟨rfl, hbe⟩
    go_wp2_with fail
    go_ret
    exact ⟨rfl, HBW.out.trans (hbe.mono HBW.out.size)⟩
  have dl : decide ((l.length : Int) > 60) = false := decide_eq_false (by omega)
  have LN := Lib.hid (Nat.not_lt.1 ll)
  go_enter Try.func26, Try.ntmps26
  go_upto_region 4 with fail
  clear ll dl
  have hts := Hl.out.ts; have hnil := Hl.out.nil; have hln := LN.out
  have hbs : w.heap.size ≤ w.heap.size := Nat.le_refl _
  go_upto_region 5 with (at_builtin; refine wpList_append_ts rfl _ _ rfl w.heap.size _ 0 [] rfl (World.ownsRow_nil _ _ _ _) A ca l rfl hnil hts (by omega) hbs ?_; intro va wa hown hgr)
  have hb := own_belowS (World.ownsRow_nil w w.heap.size 25 5) hgr (Below.refl _ _) hbs
  rw [List.nil_append, Nat.zero_add] at hown
  obtain ⟨Am, cm, rfl, hsm⟩ := Slc.of_own hown
  clear hts hnil hbs hown hgr hln
  have hl := Hl.out.below hb; clear Hl; have Hl := Lib.hid hl; clear hl
  have hbw := HBW.out.trans (hb.mono HBW.out.size); clear HBW hb; have HBW := Lib.hid hbw; clear hbw
  have HBA := Lib.hid HBW.out
  have Hm := Lib.hid hsm; clear hsm
  have k := of_any Am l cm wa Hm.out.ts (by have := LN.out; omega)
  obtain ⟨f, hp⟩ : ∃ p, ifS (decide (Even l)) (ofS l) = p := ⟨_, rfl⟩
  obtain ⟨er, hep⟩ : ∃ n, errS (decide (Even l)) = n := ⟨_, rfl⟩
  rw [hp, hep] at k
  have Lf := Lib.hid (show f.length ≤ 60 by rw [← hp]; exact ifS_len (by have := ofS_len l; have := LN.out; omega))
  have Ef := Lib.hid (And.intro hp hep); have K := Lib.hid k; clear k hp hep
  go_wp2_with fail
  refine (K.out).mono ?_; rintro e v1 ⟨⟨vf, rfl, hown⟩, hb⟩
  obtain ⟨Af, cf, hvf, hs⟩ := Slc.of_own hown
  have hge := fun hn => own_wr hown hn
  rw [hvf] at hge
  obtain ⟨gf, hgf⟩ := own_wr0 hge
  subst hvf
  have HGF := Lib.hid hgf
  have HAf := Lib.hid hs
  clear hs hge hown K hgf
  have HB1 := Lib.hid hb; have HLa := Lib.hid Hl.out; have HMa := Lib.hid Hm.out
  have hl := Hl.out.below hb; clear Hl; have Hl := Lib.hid hl; clear hl
  have hm := Hm.out.below hb; clear Hm; have Hm := Lib.hid hm; clear hm
  have hbw := HBW.out.trans (hb.mono HBW.out.size); clear HBW hb; have HBW := Lib.hid hbw; clear hbw
  have Hf := Lib.hid HAf.out; clear HAf
  have k := refOfW Hl.out (by have := LN.out; omega)
  rw [Ef.out.1, Ef.out.2] at k
  have K := Lib.hid k; clear k
  dsimp only
  go_wp2_with fail
  refine (K.out).mono ?_; rintro e v2 ⟨⟨Ag, cg, rfl, hsg, hag⟩, hb⟩
  have HG := Lib.hid hsg
  have HWF := Lib.hid (fun hn => (HGF.out hn).2.2.below hb)
  have HAG := Lib.hid hag; clear hsg hag K
  have HV12 := Lib.hid hb
  have hl := Hl.out.below hb; clear Hl; have Hl := Lib.hid hl; clear hl
  have hm := Hm.out.below hb; clear Hm; have Hm := Lib.hid hm; clear hm
  have hf := Hf.out.below hb; clear Hf; have Hf := Lib.hid hf; clear hf
  have hbw := HBW.out.trans (hb.mono HBW.out.size); clear HBW hb; have HBW := Lib.hid hbw; clear hbw
  have Hg := Lib.hid HG.out; clear HG
  dsimp only
  go_upto_region 7 with fail
  go_cut [41] from 26 to 41 (fun s wx => s = .bool false ∧ Below v2.heap.size v2 wx)
  case first =>
    have hrr := rightW Hl.out (by have := LN.out; omega) rfl
    have hrq := refRightW Hl.out (by have := LN.out; omega) rfl
    generalize decide (Fr l) = fl at *
    have HRR := Lib.hid hrr; have HRQ := Lib.hid hrq; clear hrr hrq
    go_wp2_with fail
    refine (refSameW Hf.out Hg.out (by have := Lf.out; omega) (by have := Lf.out; omega) (decide_eq_true rfl) _ (Below.refl _ _)).mono ?_; rintro e v3 ⟨rfl, hb3⟩
    go_wp2_with fail
    refine (HRR.out _ hb3).mono ?_; rintro e v4 ⟨rfl, hb4⟩
    have hb34 := hb3.trans (hb4.mono hb3.size)
    go_wp2_with fail
    refine (HRQ.out _ hb34).mono ?_; rintro e v5 ⟨rfl, hb5⟩
    have hb35 := hb34.trans (hb5.mono hb34.size)
    clear hb3 hb4 hb34 hb5
    cases fl with
    | true =>
      go_wp2_with fail
      go_meet
      exact ⟨rfl, hb35⟩
    | false =>
      go_wp2_with fail
      go_meet
      exact ⟨rfl, hb35⟩
  case rest =>
    obtain ⟨rfl, hbel⟩ := hcut
    have hl9 : v1.heap.size ≤ v2.heap.size := HV12.out.size
    have HG2 := Lib.hid (Hg.out.below hbel); have HW2 := Lib.hid (fun hn => (HWF.out hn).below (hbel.mono (Nat.le_refl _)))
    have hb12 := HB1.out.trans (HV12.out.mono HB1.out.size)
    have HBX := Lib.hid (hb12.trans (hbel.mono hb12.size)); clear hbel hb12
    go_wp2_with fail
    have hn := Lf.out
    go_loopw [8] (fun i wr => ∃ k : Nat, k ≤ f.length ∧ i = .int .i64 k ∧ Below wa.heap.size wa wr ∧ Slc wr Ag cg f ∧ (0 < f.length → Wr wr gf f.length)) (fun i _ => f.length - (intOf i).toNat)
    case atStart => exact ⟨0, by omega, rfl, HBX.out, HG2.out, HW2.out⟩
    case round =>
      obtain ⟨k, hk, rfl, hb, hsg, hwf⟩ := hrel
      clear HBX HG2 HW2
      have HBX := Lib.hid hb; have HG2 := Lib.hid hsg; have HW2 := Lib.hid hwf; clear hb hsg hwf
      by_cases hlt : k < f.length
      · have hltz : (k : Int) < (f.length : Int) := by omega
        obtain ⟨hAf, hge, hw1⟩ := HGF.out (by omega)
        have hwr := HW2.out (by omega)
        subst hAf
        obtain ⟨x, hx⟩ := hwr.cell hlt
        have hfr := hwr.free (k * 5 + 1)
        have hgl := hwr.lt
        have hg1 := hw1.lt
        have HSTEP := Lib.hid (show Below wa.heap.size wa (wr.setCell ⟨gf, k * 5 + 1, none⟩ (.int .i64 (-9))) ∧ Slc (wr.setCell ⟨gf, k * 5 + 1, none⟩ (.int .i64 (-9))) Ag cg f ∧ Wr (wr.setCell ⟨gf, k * 5 + 1, none⟩ (.int .i64 (-9))) gf f.length from
          ⟨HBX.out.setCell hge _, Slc.far HG2.out (fun ad h => by have := HAG.out ad h; omega), hwr.put _ _⟩)
        clear hwr hge hw1
        go_wp2_with fail
        go_roundw
        case rel => exact ⟨k + 1, by omega, by simp, by first | exact HSTEP.out.1 | simpa using HSTEP.out.1, by first | exact HSTEP.out.2.1 | simpa using HSTEP.out.2.1, fun _ => by first | exact HSTEP.out.2.2 | simpa using HSTEP.out.2.2⟩
        case measure => simp only [intOf]; omega
      · have hk' : k = f.length := by omega
        subst hk'
        go_wp2_with fail
        refine (refSameW HMa.out HLa.out (by have := LN.out; omega) (by have := LN.out; omega) (decide_eq_true rfl) _ HBX.out).mono ?_; rintro e v6 ⟨rfl, hb6⟩
        have HB6 := Lib.hid (HBX.out.trans (hb6.mono HBX.out.size)); have HG6 := Lib.hid (HG2.out.below hb6); clear hb6
        have HBF := Lib.hid (HBA.out.trans (HB6.out.mono HBA.out.size))
        by_cases he : er = 0
        · subst he
          have hfr : Fr f := by
            have h1 := Ef.out.2
            have hE : Even l := of_decide_eq_true (err_zero.1 h1)
            rw [← Ef.out.1, decide_eq_true hE]
            exact ofS_fr hE
          have HR6 := Lib.hid (rightW HG6.out (by have := Lf.out; omega) (decide_eq_true hfr)); clear hfr
          go_wp2_with fail
          refine (HR6.out _ (Below.refl _ _)).mono ?_; rintro e v7 ⟨rfl, hb7⟩
          have HB7 := Lib.hid (HBF.out.trans (hb7.mono HBF.out.size)); clear hb7
          go_wp2_with fail
          refine (WW.out _).mono ?_; rintro e we ⟨rfl, hbe⟩
          go_wp2_with fail
          go_ret
          exact ⟨rfl, HB7.out.trans (hbe.mono HB7.out.size)⟩
        · have he1 : (er != 0) = true := by simpa using he
          have he2 : (er == 0) = false := by simpa using he
          go_wp2_with fail
          refine (WW.out _).mono ?_; rintro e we ⟨rfl, hbe⟩
          go_wp2_with fail
          go_ret
          exact ⟨rfl, HBF.out.trans (hbe.mono HBF.out.size)⟩

end antichainOf
end
end Go.Proofs.Ytkbabmifdfmhlaa
