/- The document's Either. -/
import Derived.Test.YtkbabmifdfmhlaaFrRefTwo
import Derived.Test.YtkbabmifdfmhlaaKey
namespace Go.Proofs.Ytkbabmifdfmhlaa
open Go.ChangeShapes Go.WideShapes Go.ChangeAt Go.RowKit Go.BigFrame Go.Shelf
set_option linter.unusedVariables false
set_option maxRecDepth 100000
namespace Free
section
variable {P : Program} {K : Value → World → Prop} {a : Act} {o : Oper} {w w' : World}
theorem g_alloc {v : Value} (t : TypeId) (ho : o.op = .alloc t) (hr : (Instr.alloc t true (.tuple #[])).run P w = .ok v w') (h : K v w') : gets P K ((execOp a.eval o).run P w) := by
  unfold execOp
  simp only [ho, Sem.run_bind, hr, Result.andThen_ok, Sem.run_pure, gets]; exact h
theorem g_store {p q : Value} (t : TypeId) (x y : Operand) (ho : o.op = .store t x y) (hx : a.eval x = p) (hy : a.eval y = q) (hr : (Instr.storeAt t p q).run P w = .ok () w') (h : K undef w') : gets P K ((execOp a.eval o).run P w) := by
  unfold execOp
  simp only [ho, hx, hy, Sem.run_bind, hr, Result.andThen_ok, Sem.run_pure, gets]; exact h
theorem g_extract {p v : Value} (x : Operand) (i : Nat) (ho : o.op = .extract x i) (hx : a.eval x = p) (hr : (Instr.extract p i).run P w = .ok v w') (h : K v w') : gets P K ((execOp a.eval o).run P w) := by
  unfold execOp
  simp only [ho, hx, Sem.run_bind, hr, Result.andThen_ok, Sem.run_pure, gets]; exact h
end
end Free
theorem alloc_st (w : World) : (Instr.alloc 25 true (.tuple #[])).run Try.prog w = .ok (.pointer (some ⟨w.heap.size, 0, none⟩)) (w.alloc (.cells #[.int .i64 0, .int .i64 0, .int .i64 0, .int .i64 0, .int .i64 0] 25)) := by
  go_simp
theorem extract_0 (u v : Value) (w : World) : (Instr.extract (.tuple #[u, v]) 0).run Try.prog w = .ok u w := by
  go_simp
theorem extract_1 (u v : Value) (w : World) : (Instr.extract (.tuple #[u, v]) 1).run Try.prog w = .ok v w := by
  go_simp
theorem store_st (w : World) (g : Nat) (z t : St) (h : Holds w g z) : ∃ w', (Instr.storeAt 25 (.pointer (some ⟨g, 0, none⟩)) (.agg #[.int .i64 t.d, .int .i64 t.e, .int .i64 t.x, .int .i64 t.y, .int .i64 t.z])).run Try.prog w = .ok () w' ∧ Holds w' g t ∧ ∀ B w0, B ≤ g → Below B w0 w → Below B w0 w' := by
  obtain ⟨c0, c1, c2, c3, c4⟩ := h.cells5
  have hlt := h.lt
  have f0 := Row.free h 0; have f1 := Row.free h 1; have f2 := Row.free h 2; have f3 := Row.free h 3; have f4 := Row.free h 4
  refine ⟨_, by go_simp; rfl, ?_, ?_⟩
  · exact ((((Row.put h 0 _).put 1 _).put 2 _).put 3 _).put 4 _
  · intro B w0 hB hb
    exact ((((hb.setCell hB _).setCell hB _).setCell hB _).setCell hB _).setCell hB _
theorem index_st (b o n c k : Nat) (hk : k < n) (w : World) : (Instr.indexAt 40 (.slice (some ⟨b, o, none⟩) n c) (.int .i64 (k : Nat))).run Try.prog w = .ok (.pointer (some ⟨b, o + k * 5, none⟩)) w := by
  have hkz : (k : Int) < (n : Int) := by omega
  go_simp
/-- what stands while the region goes on: the box, once made, holds zero, and once stored the join -/
def Ej (W : World) (J : St) (b : Nat → Bool) (vs : Nat → Value) (w : World) : Prop :=
  Below W.heap.size W w ∧ (b 12 = true → ∃ g, vs 12 = .pointer (some ⟨g, 0, none⟩) ∧ W.heap.size ≤ g ∧ Holds w g (if b 13 then J else St.zero)) ∧ (b 13 = true → b 12 = true)
theorem Ej.keep {W : World} {J : St} {b : Nat → Bool} {vs : Nat → Value} {w w' : World} {i : Nat} {v : Value} (h : Ej W J b vs w) (hb : Below w.heap.size w w') (h12 : i ≠ 12) (h13 : i ≠ 13) : Ej W J (Free.updb b i) (Free.updw vs i v) w' := by
  refine ⟨h.1.trans (hb.mono h.1.size), fun e => ?_, fun e => ?_⟩
  · rw [Free.updb_ne (Ne.symm h12)] at e
    obtain ⟨g, h1, h2, h3⟩ := h.2.1 e
    refine ⟨g, by rw [Free.updw_ne (Ne.symm h12)]; exact h1, h2, ?_⟩
    rw [Free.updb_ne (Ne.symm h13)]
    exact h3.below hb
  · rw [Free.updb_ne (Ne.symm h12)]
    rw [Free.updb_ne (Ne.symm h13)] at e
    exact h.2.2 e
def Vj (p o r s k m : Nat) (A B : Value) (x y J : St) (v : Bool) : Nat → Value → Prop
  | 0, u => u = A
  | 1, u => u = .int .i64 (k : Nat)
  | 2, u => u = .pointer (some ⟨p, o + k * 5, none⟩)
  | 3, u => u = x.val
  | 4, u => u = B
  | 5, u => u = .int .i64 (m : Nat)
  | 6, u => u = .pointer (some ⟨r, s + m * 5, none⟩)
  | 7, u => u = y.val
  | 8, u => u = .tuple #[J.val, .bool v]
  | 9, u => u = .tuple #[J.val, .bool v]
  | 10, u => u = J.val
  | 11, u => u = .bool v
  | 14, u => u = .bool v
  | _, _ => True
def rowTo (a b : List St) (k m : Nat) (x : St) : List St := pairsS (a.take k) b ++ (b.take m).map (x.join ·)
theorem rowTo_zero {a b : List St} {k : Nat} {x : St} : rowTo a b k 0 x = pairsS (a.take k) b := by simp [rowTo]
theorem rowTo_next {a b : List St} {k m : Nat} {x y : St} (hy : b[m]? = some y) : rowTo a b k (m + 1) x = rowTo a b k m x ++ [x.join y] := by
  unfold rowTo
  rw [List.take_add_one, hy]; simp
theorem rowTo_end {a b : List St} {k : Nat} {x : St} (hx : a[k]? = some x) : rowTo a b k b.length x = pairsS (a.take (k + 1)) b := by
  unfold rowTo pairsS
  rw [List.take_add_one, hx, List.take_length]; simp
theorem rowTo_len {a b : List St} {k m : Nat} {x : St} (ha : a.length ≤ 30) (hb : b.length ≤ 30) : (rowTo a b k m x).length ≤ 930 := by
  unfold rowTo
  rw [List.length_append, pairs_len, List.length_map]
  have h1 : (a.take k).length ≤ 30 := by rw [List.length_take]; omega
  have h2 : (b.take m).length ≤ 30 := by rw [List.length_take]; omega
  have h3 := Nat.mul_le_mul h1 hb
  omega
set_option maxRecDepth 100000 in
set_option maxHeartbeats 8000000 in
theorem refEither_any (A B : Option Addr) (a b : List St) (c d : Nat) (w : World) (hA : Slc w A c a) (hB : Slc w B d b) (ha : a.length ≤ 30) (hb : b.length ≤ 30) :
    Calls Try.prog 57 #[.slice A a.length c, .slice B b.length d] w (GivesB w (ifS (decide (Alike a b)) (eitherS a b)) (errS (decide (Alike a b)))) := by
  by_cases hal : Alike a b
  case neg =>
    have hr := refAlikeW hA hB (by omega) (by omega) (decide_eq_false hal) w (Below.refl _ _)
    have HR := Lib.hid hr; have HAL := Lib.hid hal; clear hA hB hr hal
    go_enter Try.func57, Try.ntmps57
    go_wp2_with fail
    refine (HR.out).mono ?_; rintro e w1 ⟨rfl, hb1⟩
    have HB1 := Lib.hid hb1; clear hb1
    go_wp2_with fail
    go_ret2
    rw [decide_eq_false HAL.out]
    exact gives_none HB1.out
  have hr := refAlikeW hA hB (by omega) (by omega) (decide_eq_true hal) w (Below.refl _ _)
  have HA := Lib.hid hA; have HB := Lib.hid hB; have HR := Lib.hid hr; have HAL := Lib.hid hal; clear hA hB hr hal
  go_enter Try.func57, Try.ntmps57
  go_wp2_with fail
  refine (HR.out).mono ?_; rintro e w1 ⟨rfl, hb1⟩
  have HB1 := Lib.hid hb1; clear hb1
  go_wp2_with fail
  go_loopw [6, 7] (fun fv i wr => ∃ k : Nat, k ≤ a.length ∧ i = .int .i64 k ∧ Below w.heap.size w wr ∧ wr.ownsRow w.heap.size 25 5 fv (pairsS (a.take k) b).length (rowS (pairsS (a.take k) b))) (fun _ i _ => a.length - (intOf i).toNat)
  case atStart => exact ⟨0, by omega, rfl, HB1.out, World.ownsRow_nil _ _ _ _⟩
  case round =>
    obtain ⟨k, hk, rfl, hbw, hro⟩ := hrel
    clear HB1
    have HB1 := Lib.hid hbw; have HO := Lib.hid hro; clear hbw hro
    by_cases hlt : k < a.length
    · have hltz : (k : Int) < (a.length : Int) := by omega
      obtain ⟨x, hx⟩ : ∃ x, a[k]? = some x := ⟨_, List.getElem?_eq_getElem hlt⟩
      have HX := Lib.hid hx; clear hx
      go_wp2_with fail
      go_loopw [6, 8] (fun fv i wr => ∃ m : Nat, m ≤ b.length ∧ i = .int .i64 m ∧ Below w.heap.size w wr ∧ wr.ownsRow w.heap.size 25 5 fv (rowTo a b k m x).length (rowS (rowTo a b k m x))) (fun _ i _ => b.length - (intOf i).toNat)
      case atStart => exact ⟨0, by omega, rfl, HB1.out, by rw [rowTo_zero]; exact HO.out⟩
      case round =>
        obtain ⟨m, hm, rfl, hbw, hro⟩ := hrel
        clear HB1 HO
        have HB1 := Lib.hid hbw; have HO := Lib.hid hro; clear hbw hro
        by_cases hlm : m < b.length
        · have hlmz : (m : Int) < (b.length : Int) := by omega
          obtain ⟨y, hy⟩ : ∃ y, b[m]? = some y := ⟨_, List.getElem?_eq_getElem hlm⟩
          have hnx := rowTo_next (a := a) (k := k) (x := x) hy
          have hll := rowTo_len (k := k) (m := m) (x := x) ha hb
          obtain ⟨p, o, hAe, hbl, h0⟩ := (HA.out.ts.below HB1.out).load HX.out
          subst hAe
          obtain ⟨r, s, hBe, hbl2, h1⟩ := (HB.out.ts.below HB1.out).load hy
          subst hBe
          have hj := fun w => refJoin_any x y w
          generalize decide (x.B y) = bv at *
          generalize x.join y = J at *
          generalize rowTo a b k m x = L at *
          have HNX := Lib.hid hnx; have H0 := Lib.hid h0; have H1 := Lib.hid h1; have HJ := Lib.hid hj; have HLL := Lib.hid hll; clear hnx h0 h1 hj hy hbl hbl2 hll
          obtain ⟨W, hW⟩ : ∃ W, W = wr := ⟨_, rfl⟩
          have HW := Lib.hid hW; clear hW
          go_wp2_with fail
          refine Free.wp_key (by kernel_rfl) (by kernel_rfl) (fun b vs wq => Ej wr J b vs wq) (Vj p o r s k m (.slice (some ⟨p, o, none⟩) a.length c) (.slice (some ⟨r, s, none⟩) b.length d) x y J bv) ?_ ?_ ?_
          · intro vs
            exact ⟨(Below.refl _ _).drew, fun e => absurd e (by decide), fun e => absurd e (by decide)⟩
          · intro i oi hi bb vs a9 wq hold hpre hbi hF
            match i with
            | 0 => cases hi; exact Free.c_all rfl (Free.g_move _ rfl ⟨(hold 0 (by decide)).trans rfl, hF.keep (Below.refl _ _) (by decide) (by decide)⟩)
            | 1 => cases hi; exact Free.c_all rfl (Free.g_move _ rfl ⟨(hold 7 (by decide)).trans rfl, hF.keep (Below.refl _ _) (by decide) (by decide)⟩)
            | 2 =>
              cases hi
              have h0 := (hpre 0 _ _ (by kernel_rfl) rfl rfl).2.2
              have h1 := (hpre 1 _ _ (by kernel_rfl) rfl rfl).2.2
              exact Free.c_all rfl (Free.g_indexAddr _ _ _ rfl h0 h1 (index_st p o a.length c k hlt wq) ⟨rfl, hF.keep (Below.refl _ _) (by decide) (by decide)⟩)
            | 3 =>
              cases hi
              have h0 := (hpre 2 _ _ (by kernel_rfl) rfl rfl).2.2
              exact Free.c_all rfl (Free.g_load _ _ rfl h0 (H0.out wq hF.1) ⟨rfl, hF.keep (Below.refl _ _) (by decide) (by decide)⟩)
            | 4 => cases hi; exact Free.c_all rfl (Free.g_move _ rfl ⟨(hold 1 (by decide)).trans rfl, hF.keep (Below.refl _ _) (by decide) (by decide)⟩)
            | 5 => cases hi; exact Free.c_all rfl (Free.g_move _ rfl ⟨(hold 8 (by decide)).trans rfl, hF.keep (Below.refl _ _) (by decide) (by decide)⟩)
            | 6 =>
              cases hi
              have h0 := (hpre 4 _ _ (by kernel_rfl) rfl rfl).2.2
              have h1 := (hpre 5 _ _ (by kernel_rfl) rfl rfl).2.2
              exact Free.c_all rfl (Free.g_indexAddr _ _ _ rfl h0 h1 (index_st r s b.length d m hlm wq) ⟨rfl, hF.keep (Below.refl _ _) (by decide) (by decide)⟩)
            | 7 =>
              cases hi
              have h0 := (hpre 6 _ _ (by kernel_rfl) rfl rfl).2.2
              exact Free.c_all rfl (Free.g_load _ _ rfl h0 (H1.out wq hF.1) ⟨rfl, hF.keep (Below.refl _ _) (by decide) (by decide)⟩)
            | 8 =>
              cases hi
              have h0 : a9.eval (.tmp 31) = x.val := (hpre 3 _ _ (by kernel_rfl) rfl rfl).2.2
              have h1 : a9.eval (.tmp 35) = y.val := (hpre 7 _ _ (by kernel_rfl) rfl rfl).2.2
              refine Free.c_all rfl (Free.g_call _ _ rfl Try.func80 (by kernel_rfl) rfl [x.val, y.val] (by show [a9.eval (.tmp 31), a9.eval (.tmp 35)] = _; rw [h0, h1]) ?_)
              exact (HJ.out wq).mono fun e w9 ⟨he, h9⟩ => ⟨_, he, rfl, hF.keep h9 (by decide) (by decide)⟩
            | 9 =>
              cases hi
              have h0 := (hpre 8 _ _ (by kernel_rfl) rfl rfl).2.2
              exact Free.c_all rfl (Free.g_move _ rfl ⟨h0, hF.keep (Below.refl _ _) (by decide) (by decide)⟩)
            | 10 =>
              cases hi
              have h0 := (hpre 9 _ _ (by kernel_rfl) rfl rfl).2.2
              exact Free.c_all rfl (Free.g_extract _ _ rfl h0 (extract_0 _ _ wq) ⟨rfl, hF.keep (Below.refl _ _) (by decide) (by decide)⟩)
            | 11 =>
              cases hi
              have h0 := (hpre 9 _ _ (by kernel_rfl) rfl rfl).2.2
              exact Free.c_all rfl (Free.g_extract _ _ rfl h0 (extract_1 _ _ wq) ⟨rfl, hF.keep (Below.refl _ _) (by decide) (by decide)⟩)
            | 12 =>
              cases hi
              refine Free.c_all rfl (Free.g_alloc _ rfl (alloc_st wq) ⟨trivial, ?_⟩)
              have h13 : bb 13 = false := by
                cases e : bb 13 with
                | false => rfl
                | true => have := hF.2.2 e; rw [hbi] at this; cases this
              refine ⟨hF.1.alloc hF.1.size _, fun _ => ⟨wq.heap.size, Free.updw_self, hF.1.size, ?_⟩, fun _ => Free.updb_self⟩
              rw [Free.updb_ne (by decide), h13]
              exact Holds.made wq St.zero
            | 13 =>
              cases hi
              obtain ⟨hb12, hev, _⟩ := hpre 12 _ _ (by kernel_rfl) rfl rfl
              have h1 : a9.eval (.tmp 37) = J.val := (hpre 10 _ _ (by kernel_rfl) rfl rfl).2.2
              obtain ⟨g, hg, hge, hh⟩ := hF.2.1 hb12
              rw [hg] at hev
              rw [hbi] at hh
              obtain ⟨w9, hst, hh9, hb9⟩ := store_st wq g St.zero J hh
              refine Free.c_all rfl (Free.g_store _ _ _ rfl hev h1 hst ⟨trivial, ?_⟩)
              refine ⟨hb9 _ _ hge hF.1, fun _ => ⟨g, by rw [Free.updw_ne (by decide)]; exact hg, hge, ?_⟩, fun _ => by rw [Free.updb_ne (by decide)]; exact hb12⟩
              rw [Free.updb_self]
              exact hh9
            | 14 =>
              cases hi
              have h0 := (hpre 11 _ _ (by kernel_rfl) rfl rfl).2.2
              exact Free.c_all rfl (Free.g_assign _ rfl ⟨h0, hF.keep (Below.refl _ _) (by decide) (by decide)⟩)
            | n + 15 => simp at hi
          · intro vs w9 hv hF9
            obtain ⟨g, hg, hge, hh⟩ := hF9.2.1 rfl
            have hb9 := hF9.1
            rw [if_pos rfl] at hh
            clear hv hF9
            have hoK := own_kept HO.out hb9
            have hbW := HB1.out.trans (hb9.mono HB1.out.size)
            obtain ⟨c0, c1, c2, c3, c4⟩ := hh.cells5
            have hgl := hh.lt
            have hoA := hoK.alloc (.cells #[.int .i64 J.d, .int .i64 J.e, .int .i64 J.x, .int .i64 J.y, .int .i64 J.z] 25)
            have hTA := Times.made w9 [J]
            have hbA := hbW.alloc hbW.size (.cells #[.int .i64 J.d, .int .i64 J.e, .int .i64 J.x, .int .i64 J.y, .int .i64 J.z] 25)
            have hbs := hbA.size
            have hll := HLL.out
            have HBA := Lib.hid hbA
            clear hbA hbW hoK hb9 hge hh
            simp only [Free.puts, Nat.reduceAdd]
            rw [hg]
            generalize vs 0 = y0; generalize vs 1 = y1; generalize vs 2 = y2; generalize vs 3 = y3; generalize vs 4 = y4; generalize vs 5 = y5; generalize vs 6 = y6; generalize vs 7 = y7; generalize vs 8 = y8; generalize vs 9 = y9; generalize vs 10 = y10; generalize vs 11 = y11; generalize vs 14 = y14
            clear hg
            go_simp
            go_wp2_with (at_builtin; refine wpList_append_times rfl _ _ rfl w.heap.size _ L.length L rfl hoA ⟨w9.heap.size, 0, none⟩ 1 [J] rfl (by simp) hTA (by have : [J].length = 1 := rfl; omega) hbs ?_; intro v' w5 hown' hgr')
            have hb6 := own_belowS hoA hgr' HBA.out hbs
            have H6 := Lib.hid (And.intro hown' hb6); clear hown' hgr' hoA hTA hb6 c0 c1 c2 c3 c4
            go_wp2_with fail
            go_roundw
            case rel => exact ⟨m + 1, by omega, by simp, H6.out.2, by rw [HNX.out]; simpa using H6.out.1⟩
            case measure => simp only [intOf]; omega
        · have hm' : m = b.length := by omega
          subst hm'
          have hro := HO.out
          rw [rowTo_end HX.out] at hro
          clear HO
          have HO := Lib.hid hro; clear hro
          go_wp2_with fail
          go_roundw
          case rel => exact ⟨k + 1, by omega, by simp, HB1.out, HO.out⟩
          case measure => simp only [intOf]; omega
    · have hk' : k = a.length := by omega
      subst hk'
      have hro := HO.out
      rw [List.take_length] at hro
      obtain ⟨Am, cm, rfl, hsm⟩ := Slc.of_own hro
      have HM := Lib.hid hsm; clear hsm hro HO
      have hle9 : (pairsS a b).length ≤ 900 := by rw [pairs_len]; exact Nat.mul_le_mul ha hb
      have kk := refOf_any Am (pairsS a b) cm _ HM.out (by omega)
      rw [decide_eq_true (even_pairs HAL.out)] at kk
      have K := Lib.hid kk; clear kk
      go_wp2_with fail
      refine (K.out).mono ?_; rintro e w3 ⟨⟨Ar, cr, rfl, hsr, har⟩, hb3⟩
      have H3 := Lib.hid (And.intro hsr (And.intro har hb3)); clear hsr har hb3
      dsimp only
      go_wp2_with fail
      go_ret2
      rw [decide_eq_true HAL.out]
      exact ⟨⟨Ar, cr, rfl, H3.out.1, fun ad h => Nat.le_trans HB1.out.size (H3.out.2.1 ad h)⟩, HB1.out.trans (H3.out.2.2.mono HB1.out.size)⟩
end Go.Proofs.Ytkbabmifdfmhlaa
