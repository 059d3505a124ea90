/- CountsKnown: the examples: a nil Counts; 729 rows of seven additions; eight numbers at the bounds. -/
import Derived.Test.YtkbabmifdfmhlaaCtRefA
import Derived.Test.YtkbabmifdfmhlaaCtLawA
namespace Go.Proofs.Ytkbabmifdfmhlaa
open Go.ChangeShapes Go.WideShapes Go.ChangeAt Go.RowKit Go.BigFrame Go.Shelf
set_option linter.unusedVariables false
set_option maxRecDepth 100000
theorem at_row {w : World} {g : Nat} {X : List St} (h : Ts w (some ⟨g, 0, none⟩) X) {i : Nat} {t : St} (ht : X[i]? = some t) : g < w.heap.size ∧ ∀ w', Below w.heap.size w w' →
    w'.cell? ⟨g, i * 5, none⟩ = some (.int .i64 t.d) ∧ w'.cell? ⟨g, i * 5 + 1, none⟩ = some (.int .i64 t.e) ∧ w'.cell? ⟨g, i * 5 + 2, none⟩ = some (.int .i64 t.x) ∧ w'.cell? ⟨g, i * 5 + 3, none⟩ = some (.int .i64 t.y) ∧ w'.cell? ⟨g, i * 5 + 4, none⟩ = some (.int .i64 t.z) := by
  obtain ⟨b, o, e, hlt, h5⟩ := h.five ht
  cases e
  simp only [Nat.zero_add] at h5
  exact ⟨hlt, h5⟩
namespace Stage
section
variable {P : Program} {ops : Array Oper} {md : Region.Mode} {K1 K2 : Nat} {D : Bool → Bool → World → Prop}
theorem keep2 {i : Nat} (h1 : i ≠ K1) (h2 : i ≠ K2) {o : Oper} {a : Act} {v : Value} (h : ∀ b1 b2 w, D b1 b2 w → at_ P o a (D b1 b2) w v) :
    ∀ S w, Fit md ops S → i ∈ Region.ready md ops S → two K1 K2 D S w → at_ P o a (two K1 K2 D (S.setIfInBounds i true)) w v := by
  intro S w hF hi hS
  unfold two at *
  rw [getD_set_ne true h1, getD_set_ne true h2]
  exact h _ _ w hS
end
end Stage
namespace countsKnown
/-- the four times -/
def four : List St := [⟨1, 0, 0, 0, 0⟩, ⟨1, 1, 0, 0, 0⟩, ⟨1, 0, 1, 0, 0⟩, ⟨1, 1, 1, 0, 0⟩]
def seven (U0 T1 T2 T3 U1 U2 U3 : St) (p q r s : Int) : Cn := [(U0, 1), (T1, p), (T2, q), (T3, r), (U1, s), (U2, 1), (U3, -1)]
theorem four_W : ∀ t ∈ four, t.W := by
  intro t ht
  simp only [four, List.mem_cons, List.not_mem_nil, or_false] at ht
  rcases ht with rfl | rfl | rfl | rfl <;> exact ⟨rfl, rfl, rfl, rfl, rfl⟩
theorem fits_small {n : Int} (h : -5 ≤ n ∧ n ≤ 5) : Fits n := by
  obtain ⟨h1, h2⟩ := h
  unfold Fits
  have : n = -5 ∨ n = -4 ∨ n = -3 ∨ n = -2 ∨ n = -1 ∨ n = 0 ∨ n = 1 ∨ n = 2 ∨ n = 3 ∨ n = 4 ∨ n = 5 := by omega
  rcases this with rfl | rfl | rfl | rfl | rfl | rfl | rfl | rfl | rfl | rfl | rfl <;> rfl
theorem made_ps (w : World) (l : Cn) : Ps (w.alloc (.cells (rowP l).toArray 36)) (some ⟨w.heap.size, 0, none⟩) l := fun _ =>
  ⟨w.heap.size, 0, rfl, by simp, fun j u hj => by rw [Nat.zero_add]; exact (Row.cell (Row.made w 36 (rowP l)) j).trans hj⟩
def eightN : List Int := [1099511627776, 1099511627777, -1099511627776, -1099511627777, 9223372036854775807, -9223372036854775808, 1, 0]
def sevenN (t : St) (n : Int) : Cn := [(t, n), (t, 1), (t, -1), (t, n), (t, -1099511627776), (⟨0, 0, 0, 0, 0⟩, n), (⟨1, 1000, 0, 0, 0⟩, n)]
theorem seven_W {t : St} {n : Int} (h : t.W) : ∀ p ∈ sevenN t n, p.1.W := by
  intro p hp
  simp only [sevenN, List.mem_cons, List.not_mem_nil, or_false] at hp
  rcases hp with rfl | rfl | rfl | rfl | rfl | rfl | rfl
  · exact h
  · exact h
  · exact h
  · exact h
  · exact h
  · exact ⟨rfl, rfl, rfl, rfl, rfl⟩
  · exact ⟨rfl, rfl, rfl, rfl, rfl⟩
theorem cells0 {w : World} {g : Nat} (h : Slc w (some ⟨g, 0, none⟩) 4 four) : w.cell? ⟨g, 0, none⟩ = some (.int .i64 1) ∧ w.cell? ⟨g, 1, none⟩ = some (.int .i64 0) ∧ w.cell? ⟨g, 2, none⟩ = some (.int .i64 0) ∧ w.cell? ⟨g, 3, none⟩ = some (.int .i64 0) ∧ w.cell? ⟨g, 4, none⟩ = some (.int .i64 0) ∧ g < w.heap.size := by
  obtain ⟨hl, h1⟩ := at_row h.ts (i := 0) rfl
  obtain ⟨c0, c1, c2, c3, c4⟩ := h1 w (Below.refl _ _)
  simp only [Nat.zero_mul, Nat.zero_add] at c0 c1 c2 c3 c4
  exact ⟨c0, c1, c2, c3, c4, hl⟩
theorem one_W : (⟨1, 0, 0, 0, 0⟩ : St).W := ⟨rfl, rfl, rfl, rfl, rfl⟩
theorem plays_nil (d : Int) (w : World) : Calls Try.prog 3 #[.int .i64 d, .slice none 0 0, .agg #[.int .i64 1, .int .i64 0, .int .i64 0, .int .i64 0, .int .i64 0]] w fun e w' => e = .returned (.bool true) ∧ Below w.heap.size w w' :=
  countsPlays.walk d none [] 0 ⟨1, 0, 0, 0, 0⟩ w Ps.nil (by simp) one_W (by simp) (by decide)
theorem plays_one (w : World) : Calls Try.prog 3 #[.int .i64 0, .slice (some ⟨w.heap.size, 0, none⟩) 1 1, .agg #[.int .i64 1, .int .i64 0, .int .i64 0, .int .i64 0, .int .i64 0]] (w.alloc (.cells (rowP [(⟨0, 0, 0, 0, 0⟩, 1)]).toArray 36)) fun e w' => e = .returned (.bool true) ∧ Below (w.alloc (.cells (rowP [(⟨0, 0, 0, 0, 0⟩, 1)]).toArray 36)).heap.size (w.alloc (.cells (rowP [(⟨0, 0, 0, 0, 0⟩, 1)]).toArray 36)) w' :=
  countsPlays.walk 0 _ [(⟨0, 0, 0, 0, 0⟩, 1)] 1 ⟨1, 0, 0, 0, 0⟩ _ (made_ps w _) (by intro p hp; simp only [List.mem_cons, List.not_mem_nil, or_false] at hp; subst hp; exact ⟨rfl, rfl, rfl, rfl, rfl⟩) one_W (by simp) (by decide)
theorem slc_at {w : World} {g i : Nat} {t : St} (h : Slc w (some ⟨g, 0, none⟩) 4 four) (ht : four[i]? = some t) (hi : i < 4) : Slc w (some ⟨g, i * 5, none⟩) (4 - i) [t] := by
  obtain ⟨hlt, hc⟩ := at_row h.ts ht
  obtain ⟨c0, c1, c2, c3, c4⟩ := hc w (Below.refl _ _)
  refine ⟨fun _ => ⟨g, i * 5, rfl, hlt, fun j u hj => ?_⟩, by simp; omega, by unfold maxLen; omega, by simp⟩
  match j, hj with
  | 0, hj => cases hj; exact c0
  | 1, hj => cases hj; exact c1
  | 2, hj => cases hj; exact c2
  | 3, hj => cases hj; exact c3
  | 4, hj => cases hj; exact c4
  | j + 5, hj => exact absurd hj (by simp [rowS, St.cells])
set_option maxHeartbeats 16000000 in
theorem walk (w : World) : Calls Try.prog 8 #[] w fun e w' => e = .returned (.bool true) ∧ Below w.heap.size w w' := by
  have WW := Lib.hid works7_any
  have hrow : Row (w.alloc (.cells (rowS four).toArray 25)) w.heap.size 25 (rowS four) := Row.made w _ _
  have hbA := (Below.refl w.heap.size w).alloc (Nat.le_refl _) (.cells (rowS four).toArray 25)
  have AN := Lib.hid (fun w => add_nil ⟨1, 0, 0, 0, 0⟩ 1 w); have CN := Lib.hid (fun w => count_nil ⟨1, 0, 0, 0, 0⟩ w); have TN := Lib.hid times_nil; have FN := Lib.hid frontier_nil; have CP := Lib.hid copy_nil
  unfold St.val at AN CN
  dsimp only at AN CN
  have HROW := Lib.hid hrow; have HBA := Lib.hid hbA; clear hrow hbA
  go_enter Try.func8, Try.ntmps8
  go_wp2_with fail
  refine (AN.out _).mono ?_; rintro e w2 ⟨rfl, hb⟩
  have hr2 : Row w2 w.heap.size 25 (rowS four) := Row.below HROW.out hb HROW.out.lt
  have hb2 : Below w.heap.size w w2 := Below.trans HBA.out (Below.mono hb HBA.out.size)
  have hs2 : Slc w2 (some ⟨w.heap.size, 0, none⟩) 4 four := ⟨fun _ => ⟨w.heap.size, 0, rfl, hr2.lt, fun j u hj => by rw [Nat.zero_add]; exact (hr2.cell j).trans hj⟩, by decide, by decide, by simp⟩
  obtain ⟨g, hg⟩ : ∃ g, w.heap.size = g := ⟨_, rfl⟩
  have HS2 := Lib.hid (show Slc w2 (some ⟨g, 0, none⟩) 4 four by rw [← hg]; exact hs2)
  have HB2 := Lib.hid hb2
  rw [hg]
  clear hr2 hb2 hs2 hg hb HROW HBA AN
  obtain ⟨c0, c1, c2, c3, c4⟩ := (at_row HS2.out.ts (i := 0) rfl).2 w2 (Below.refl _ _)
  have hgl := (at_row HS2.out.ts (i := 0) rfl).1
  dsimp only at c0 c1 c2 c3 c4
  simp only [Nat.zero_mul, Nat.zero_add] at c0 c1 c2 c3 c4
  go_wp2_with fail
  refine (CN.out _).mono ?_; rintro e w3 ⟨rfl, hb3⟩
  have HS3 := Lib.hid (HS2.out.below hb3); have HB3 := Lib.hid (HB2.out.trans (hb3.mono HB2.out.size)); clear hb3 CN c0 c1 c2 c3 c4 hgl HS2 HB2
  go_wp2_with fail
  refine (TN.out _).mono ?_; rintro e w4 ⟨rfl, rfl⟩
  go_wp2_with fail
  refine (FN.out _).mono ?_; rintro e w4 ⟨rfl, rfl⟩
  go_wp2_with fail
  refine (CP.out _).mono ?_; rintro e w4 ⟨rfl, rfl⟩
  clear TN FN CP
  go_wp2_with fail
  go_loopw [3] (fun i wr => ∃ k : Nat, k ≤ 729 ∧ i = .int .i64 k ∧ Below w3.heap.size w3 wr) (fun i _ => 729 - (intOf i).toNat)
  case atStart => exact ⟨0, by omega, rfl, Below.refl _ _⟩
  case round =>
    obtain ⟨k, hk, rfl, hbw⟩ := hrel
    have HBW := Lib.hid hbw; have HSW := Lib.hid (HS3.out.below hbw); clear hbw
    by_cases hlt : k < 729
    · have hltz : (k : Int) < 729 := by omega
      obtain ⟨w4, hw4⟩ : ∃ w4, wr.drewN 1 = w4 := ⟨_, rfl⟩
      have hs4 : Slc w4 (some ⟨g, 0, none⟩) 4 four := by rw [← hw4]; exact HSW.out.below (below_drewN (Below.refl _ _) 1)
      have hb4 : Below w.heap.size w w4 := by rw [← hw4]; exact HB3.out.trans ((below_drewN HBW.out 1).mono HB3.out.size)
      have hbw4 : Below w3.heap.size w3 w4 := by rw [← hw4]; exact below_drewN HBW.out 1
      obtain ⟨r3, hr3⟩ : ∃ a, k % 3 = a := ⟨_, rfl⟩
      have r31 : (k : Int).tmod 3 = (r3 : Int) := by rw [Int.tmod_eq_emod_of_nonneg (by omega)]; omega
      have r32 : (k : Int) % 3 = (r3 : Int) := by omega
      have r34 : IntKind.i64.wrap ((r3 : Int) - 1) = (r3 : Int) - 1 := IntWalk.i64_in _ (by omega)
      have r35 : (r3 : Int) < 4 := by omega
      obtain ⟨r4, hr4⟩ : ∃ a, k % 4 = a := ⟨_, rfl⟩
      have r41 : (k : Int).tmod 4 = (r4 : Int) := by rw [Int.tmod_eq_emod_of_nonneg (by omega)]; omega
      have r42 : (k : Int) % 4 = (r4 : Int) := by omega
      have r45 : (r4 : Int) < 4 := by omega
      obtain ⟨a3, ha3⟩ : ∃ a, k / 3 = a := ⟨_, rfl⟩
      have a31 : (k : Int).tdiv 3 = (a3 : Int) := by rw [Int.tdiv_eq_ediv_of_nonneg (by omega)]; omega
      have a32 : (k : Int) / 3 = (a3 : Int) := by omega
      have a33 : IntKind.i64.wrap (a3 : Int) = (a3 : Int) := IntWalk.i64_in _ (by omega)
      obtain ⟨r9, hr9⟩ : ∃ a, a3 % 3 = a := ⟨_, rfl⟩
      have r91 : (a3 : Int).tmod 3 = (r9 : Int) := by rw [Int.tmod_eq_emod_of_nonneg (by omega)]; omega
      have r92 : (a3 : Int) % 3 = (r9 : Int) := by omega
      have r94 : IntKind.i64.wrap ((r9 : Int) - 1) = (r9 : Int) - 1 := IntWalk.i64_in _ (by omega)
      have r95 : (r9 : Int) < 4 := by omega
      obtain ⟨a9, ha9⟩ : ∃ a, k / 9 = a := ⟨_, rfl⟩
      have a91 : (k : Int).tdiv 9 = (a9 : Int) := by rw [Int.tdiv_eq_ediv_of_nonneg (by omega)]; omega
      have a92 : (k : Int) / 9 = (a9 : Int) := by omega
      have a93 : IntKind.i64.wrap (a9 : Int) = (a9 : Int) := IntWalk.i64_in _ (by omega)
      obtain ⟨r27, hr27⟩ : ∃ a, a9 % 3 = a := ⟨_, rfl⟩
      have r271 : (a9 : Int).tmod 3 = (r27 : Int) := by rw [Int.tmod_eq_emod_of_nonneg (by omega)]; omega
      have r272 : (a9 : Int) % 3 = (r27 : Int) := by omega
      have r274 : IntKind.i64.wrap ((r27 : Int) - 1) = (r27 : Int) - 1 := IntWalk.i64_in _ (by omega)
      have r275 : (r27 : Int) < 4 := by omega
      obtain ⟨a27, ha27⟩ : ∃ a, k / 27 = a := ⟨_, rfl⟩
      have a271 : (k : Int).tdiv 27 = (a27 : Int) := by rw [Int.tdiv_eq_ediv_of_nonneg (by omega)]; omega
      have a272 : (k : Int) / 27 = (a27 : Int) := by omega
      have a273 : IntKind.i64.wrap (a27 : Int) = (a27 : Int) := IntWalk.i64_in _ (by omega)
      obtain ⟨r81, hr81⟩ : ∃ a, a27 % 3 = a := ⟨_, rfl⟩
      have r811 : (a27 : Int).tmod 3 = (r81 : Int) := by rw [Int.tmod_eq_emod_of_nonneg (by omega)]; omega
      have r812 : (a27 : Int) % 3 = (r81 : Int) := by omega
      have r815 : (r81 : Int) < 4 := by omega
      obtain ⟨j81, hj81⟩ : ∃ j, r81 + 1 = j := ⟨_, rfl⟩
      have j811 : IntKind.i64.wrap ((r81 : Int) + 1) = (j81 : Int) := by rw [← hj81]; exact IntWalk.i64_in _ (by omega)
      have j812 : (j81 : Int) < 4 := by omega
      obtain ⟨a81, ha81⟩ : ∃ a, k / 81 = a := ⟨_, rfl⟩
      have a811 : (k : Int).tdiv 81 = (a81 : Int) := by rw [Int.tdiv_eq_ediv_of_nonneg (by omega)]; omega
      have a812 : (k : Int) / 81 = (a81 : Int) := by omega
      have a813 : IntKind.i64.wrap (a81 : Int) = (a81 : Int) := IntWalk.i64_in _ (by omega)
      obtain ⟨r243, hr243⟩ : ∃ a, a81 % 3 = a := ⟨_, rfl⟩
      have r2431 : (a81 : Int).tmod 3 = (r243 : Int) := by rw [Int.tmod_eq_emod_of_nonneg (by omega)]; omega
      have r2432 : (a81 : Int) % 3 = (r243 : Int) := by omega
      have r2434 : IntKind.i64.wrap ((r243 : Int) - 1) = (r243 : Int) - 1 := IntWalk.i64_in _ (by omega)
      have r2435 : (r243 : Int) < 4 := by omega
      obtain ⟨a243, ha243⟩ : ∃ a, k / 243 = a := ⟨_, rfl⟩
      have a2431 : (k : Int).tdiv 243 = (a243 : Int) := by rw [Int.tdiv_eq_ediv_of_nonneg (by omega)]; omega
      have a2432 : (k : Int) / 243 = (a243 : Int) := by omega
      have a2433 : IntKind.i64.wrap (a243 : Int) = (a243 : Int) := IntWalk.i64_in _ (by omega)
      have a2434 : (a243 : Int) < 4 := by omega
      have HNUM := Lib.hid (And.intro hr3 (And.intro hr4 (And.intro ha3 (And.intro hr9 (And.intro ha9 (And.intro hr27 (And.intro ha27 (And.intro hr81 (And.intro hj81 (And.intro ha81 (And.intro hr243 ha243)))))))))))
      obtain ⟨T1, hT1⟩ : ∃ t, four[1]? = some t := ⟨_, rfl⟩
      obtain ⟨T2, hT2⟩ : ∃ t, four[2]? = some t := ⟨_, rfl⟩
      obtain ⟨T3, hT3⟩ : ∃ t, four[3]? = some t := ⟨_, rfl⟩
      obtain ⟨U0, hU0⟩ : ∃ t, four[r3]? = some t := ⟨_, List.getElem?_eq_getElem (show r3 < 4 by omega)⟩
      obtain ⟨U1, hU1⟩ : ∃ t, four[j81]? = some t := ⟨_, List.getElem?_eq_getElem (show j81 < 4 by omega)⟩
      obtain ⟨U2, hU2⟩ : ∃ t, four[a243]? = some t := ⟨_, List.getElem?_eq_getElem (show a243 < 4 by omega)⟩
      obtain ⟨U3, hU3⟩ : ∃ t, four[r4]? = some t := ⟨_, List.getElem?_eq_getElem (show r4 < 4 by omega)⟩
      obtain ⟨d0, d1, d2, d3, d4⟩ := (at_row hs4.ts hT1).2 w4 (Below.refl _ _)
      obtain ⟨e0, e1, e2, e3, e4⟩ := (at_row hs4.ts hT2).2 w4 (Below.refl _ _)
      obtain ⟨f0, f1, f2, f3, f4⟩ := (at_row hs4.ts hT3).2 w4 (Below.refl _ _)
      obtain ⟨u0, u1, u2, u3, u4⟩ := (at_row hs4.ts hU0).2 w4 (Below.refl _ _)
      obtain ⟨v0, v1, v2, v3, v4⟩ := (at_row hs4.ts hU1).2 w4 (Below.refl _ _)
      obtain ⟨x0, x1, x2, x3, x4⟩ := (at_row hs4.ts hU2).2 w4 (Below.refl _ _)
      obtain ⟨y0, y1, y2, y3, y4⟩ := (at_row hs4.ts hU3).2 w4 (Below.refl _ _)
      simp only [Nat.reduceMul, Nat.reduceAdd] at d0 d1 d2 d3 d4 e0 e1 e2 e3 e4 f0 f1 f2 f3 f4
      have hgl := (at_row hs4.ts hT1).1
      clear hr3 hr4 ha3 hr9 ha9 hr27 ha27 hr81 hj81 ha81 hr243 ha243
      have HS4 := Lib.hid hs4; have HB4 := Lib.hid hb4; have HBW4 := Lib.hid hbw4
      have HT := Lib.hid (And.intro hT1 (And.intro hT2 (And.intro hT3 (And.intro hU0 (And.intro hU1 (And.intro hU2 hU3))))))
      clear hs4 hb4 hbw4 hT1 hT2 hT3 hU0 hU1 hU2 hU3
      go_wp2_with fail
      refine wp_tail 53 (by kernel_rfl) (by kernel_rfl) ?_
      rw [hw4]
      simp only [List.take_succ_cons, List.take_zero, List.drop_succ_cons, List.drop_zero]
      repeat still_step
      refine wpStill_nil ?_
      go_wp2_with fail
      have hps := made_ps w4 (seven U0 T1 T2 T3 U1 U2 U3 ((r3 : Int) - 1) ((r9 : Int) - 1) ((r27 : Int) - 1) ((r243 : Int) - 1))
      have hbx : Below w4.heap.size w4 (w4.alloc (.cells (rowP (seven U0 T1 T2 T3 U1 U2 U3 ((r3 : Int) - 1) ((r9 : Int) - 1) ((r27 : Int) - 1) ((r243 : Int) - 1))).toArray 36)) := (Below.refl _ _).alloc (Nat.le_refl _) _
      have hWs : ∀ p ∈ seven U0 T1 T2 T3 U1 U2 U3 ((r3 : Int) - 1) ((r9 : Int) - 1) ((r27 : Int) - 1) ((r243 : Int) - 1), p.1.W ∧ Fits p.2 := by
        obtain ⟨t1, t2, t3, s0, s1, s2, s3⟩ := HT.out
        intro p hp
        simp only [seven, List.mem_cons, List.not_mem_nil, or_false] at hp
        rcases hp with rfl | rfl | rfl | rfl | rfl | rfl | rfl
        · exact ⟨four_W _ (List.mem_of_getElem? s0), fits_small (by omega)⟩
        · exact ⟨four_W _ (List.mem_of_getElem? t1), fits_small (by omega)⟩
        · exact ⟨four_W _ (List.mem_of_getElem? t2), fits_small (by omega)⟩
        · exact ⟨four_W _ (List.mem_of_getElem? t3), fits_small (by omega)⟩
        · exact ⟨four_W _ (List.mem_of_getElem? s1), fits_small (by omega)⟩
        · exact ⟨four_W _ (List.mem_of_getElem? s2), fits_small (by omega)⟩
        · exact ⟨four_W _ (List.mem_of_getElem? s3), fits_small (by omega)⟩
      have kk := countsPlays.walk 1 _ _ 7 U3 _ hps (fun p hp => (hWs p hp).1) (four_W _ (List.mem_of_getElem? HT.out.2.2.2.2.2.2)) (by show 7 ≤ 7; omega) (by decide)
      unfold St.val at kk
      have KK := Lib.hid kk; have HPS := Lib.hid hps; have HBX := Lib.hid hbx; have HWS := Lib.hid hWs
      clear kk hps hbx hWs
      refine (KK.out).mono ?_; rintro e w6 ⟨rfl, hb6⟩
      have hps := HPS.out.kept hb6
      have hb46 : Below w4.heap.size w4 w6 := HBX.out.trans (hb6.mono HBX.out.size)
      have hws := HWS.out
      obtain ⟨S, hS⟩ : ∃ S, seven U0 T1 T2 T3 U1 U2 U3 ((r3 : Int) - 1) ((r9 : Int) - 1) ((r27 : Int) - 1) ((r243 : Int) - 1) = S := ⟨_, rfl⟩
      have hs7 : S.length = 7 := by rw [← hS]; rfl
      rw [hS] at hps hws
      have hbS : w4.heap.size < w6.heap.size := by
        obtain ⟨b, o, e, hlt, _⟩ := hps (by omega)
        cases e; exact hlt
      obtain ⟨bS, hbs⟩ : ∃ b, w4.heap.size = b := ⟨_, rfl⟩
      rw [hbs] at hps hbS
      rw [hbs]
      have HPS6 := Lib.hid hps; have HWS6 := Lib.hid hws; have HS7 := Lib.hid hs7
      have HS6 := Lib.hid (HS4.out.below hb46); have HB6 := Lib.hid (HB4.out.trans (hb46.mono HB4.out.size)); have HBW6 := Lib.hid (HBW4.out.trans (hb46.mono HBW4.out.size))
      clear hps hws hs7 hb46 hb6 hS KK HPS HBX HWS HS4 HB4 HBW4 hbs hbS d0 d1 d2 d3 d4 e0 e1 e2 e3 e4 f0 f1 f2 f3 f4 u0 u1 u2 u3 u4 v0 v1 v2 v3 v4 x0 x1 x2 x3 x4 y0 y1 y2 y3 y4
      have kk := countsOrder.walk 1 _ S 7 (k % 256) w6 HPS6.out (by have := HS7.out; omega) (by decide) (by omega)
      rw [HS7.out, show (((k % 256 : Nat)) : Int) = (k : Int) % 256 by omega] at kk
      have KK := Lib.hid kk; clear kk
      obtain ⟨i3, hi3⟩ : ∃ i, r3 + 1 = i := ⟨_, rfl⟩
      have i31 : IntKind.i64.wrap ((r3 : Int) + 1) = (i3 : Int) := by rw [← hi3]; exact IntWalk.i64_in _ (by omega)
      have i32 : i3 - r3 = 1 := by omega
      have i33 : ¬ (4 = r3) := by omega
      have i34 : (r3 : Int) ≤ (i3 : Int) := by omega
      have i35 : (i3 : Int) ≤ 4 := by omega
      have i36 : (0 : Int) ≤ (r3 : Int) := by omega
      clear hi3
      go_wp2_with fail
      refine (KK.out).mono ?_; rintro e w7 ⟨rfl, hb7⟩
      have HB7 := Lib.hid (HB6.out.trans (hb7.mono HB6.out.size)); have HBW7 := Lib.hid (HBW6.out.trans (hb7.mono HBW6.out.size))
      have hsr := slc_at (HS6.out.below hb7) HT.out.2.2.2.1 (by omega)
      have kk := countsRises.walk 1 _ [U0] (4 - r3) _ S 7 w7 hsr (HPS6.out.kept hb7) HWS6.out (by have := HS7.out; omega) (by decide)
      rw [HS7.out] at kk
      clear KK hb7 HB6 HBW6 hsr
      have KK := Lib.hid kk; clear kk
      go_wp2_with fail
      refine (KK.out).mono ?_; rintro e w8 ⟨rfl, hb8⟩
      have HBW8 := Lib.hid (HBW7.out.trans (hb8.mono HBW7.out.size)); clear hb8 KK
      go_wp2_with fail
      go_roundw
      case rel => exact ⟨k + 1, by omega, by simp, HBW8.out⟩
      case measure => simp only [intOf]; omega
    · have hltz : ¬ (k : Int) < 729 := by omega
      obtain ⟨w9, rfl⟩ : ∃ w9, w9 = wr := ⟨_, rfl⟩
      have hb3 := HB3.out.trans (HBW.out.mono HB3.out.size)
      have hbN := (Below.refl w9.heap.size w9).alloc (Nat.le_refl _) (.cells (eightN.map (Value.int .i64)).toArray 2)
      have hrN : Row (w9.alloc (.cells (eightN.map (Value.int .i64)).toArray 2)) w9.heap.size 2 (eightN.map (Value.int .i64)) := Row.made _ _ _
      have hsN := HSW.out.below hbN
      obtain ⟨wN, hwN⟩ : ∃ wN, w9.alloc (.cells (eightN.map (Value.int .i64)).toArray 2) = wN := ⟨_, rfl⟩
      rw [hwN] at hbN hrN hsN
      have HBN := Lib.hid (hb3.trans (hbN.mono hb3.size)); have HRN := Lib.hid hrN; have HSN := Lib.hid hsN; have HWN := Lib.hid hwN
      clear hb3 hbN hrN hsN hwN HB3 HBW HS3 HSW
      go_wp2_with fail
      go_loopw [132] (fun i wr => ∃ j : Nat, j ≤ 8 ∧ i = .int .i64 j ∧ Below wN.heap.size wN wr) (fun i _ => 8 - (intOf i).toNat)
      case atStart => exact ⟨0, by omega, rfl, by rw [← HWN.out]; exact Below.refl _ _⟩
      case round =>
        obtain ⟨j, hj, rfl, hbw⟩ := hrel
        have HBW := Lib.hid hbw; have HSW := Lib.hid (HSN.out.below hbw); have HRW := Lib.hid (HRN.out.below hbw HRN.out.lt); clear hbw
        by_cases hlj : j < 8
        · have hljz : (j : Int) < 8 := by omega
          obtain ⟨nj, hnj⟩ : ∃ n, eightN[j]? = some n := ⟨_, List.getElem?_eq_getElem (show j < 8 from hlj)⟩
          have hcj : wr.cell? ⟨w9.heap.size, j, none⟩ = some (.int .i64 nj) := by rw [HRW.out.cell, List.getElem?_map, hnj]; rfl
          have hgN := HRW.out.lt
          obtain ⟨T0, hT0⟩ : ∃ t, four[0]? = some t := ⟨_, rfl⟩
          have hT0W : T0.W := four_W _ (List.mem_of_getElem? hT0)
          obtain ⟨W, hW⟩ : ∃ W, wr.drew = W := ⟨_, rfl⟩
          have hsW : Slc W (some ⟨g, 0, none⟩) 4 four := by rw [← hW]; exact HSW.out.below (below_drewN (Below.refl _ _) 1)
          have hbW : Below wN.heap.size wN W := by rw [← hW]; exact HBW.out.drew
          obtain ⟨W1, hW1⟩ : ∃ W1, W.alloc (.cells (rowP (sevenN T0 nj)).toArray 36) = W1 := ⟨_, rfl⟩
          have hb1 : Below W.heap.size W W1 := by rw [← hW1]; exact (Below.refl _ _).alloc (Nat.le_refl _) _
          have hps : Ps W1 (some ⟨W.heap.size, 0, none⟩) (sevenN T0 nj) := by rw [← hW1]; exact made_ps W _
          have kk := countsPlays.walk 1 _ _ 7 T0 W1 hps (seven_W hT0W) hT0W (by show 7 ≤ 7; omega) (by decide)
          unfold St.val at kk
          have hld : ∀ w', Below W.heap.size W w' → (Instr.loadAt 25 (.pointer (some ⟨g, 0, none⟩))).run Try.prog w' = .ok (.agg #[.int .i64 T0.d, .int .i64 T0.e, .int .i64 T0.x, .int .i64 T0.y, .int .i64 T0.z]) w' := fun w' hw => by
            obtain ⟨b, o, e, _, h5⟩ := hsW.ts.load hT0
            cases e
            have := h5 w' hw
            simpa using this
          have HDR := Lib.hid hW; have HW1 := Lib.hid hW1; have KP := Lib.hid kk; have HLD := Lib.hid hld; have HBWW := Lib.hid hbW; have HB1 := Lib.hid hb1
          clear hnj hT0 hT0W hW hsW hbW hW1 hps kk hld hb1
          go_wp2_with fail
          have hU : ∀ (u1 u2 : Bool) (w' : World), (if u2 = true then Below W1.heap.size W1 w' else w' = (if u1 = true then W1 else W)) → Below W.heap.size W w' := fun u1 u2 w' hw => by
            cases u2 with
            | true =>
              have h : Below W1.heap.size W1 w' := hw
              exact HB1.out.trans (h.mono HB1.out.size)
            | false =>
              cases u1 with
              | true => have h : w' = W1 := hw; rw [h]; exact HB1.out
              | false => have h : w' = W := hw; rw [h]; exact Below.refl _ _
          have HU := Lib.hid hU; clear hU hcj
          refine Stage.wp_region (by kernel_rfl) (by kernel_rfl) (Stage.two 28 32 (fun u1 u2 w' => if u2 = true then Below W1.heap.size W1 w' else w' = (if u1 = true then W1 else W))) (Stage.two_start (by simp) (by simp) HDR.out) ?_
          refine Stage.wpSt_do (.slice (some ⟨g, 0, none⟩) 4 4) rfl (Stage.keep2 (by decide) (by decide) (fun u1 u2 w' hw => at_of (by go_simp) hw)) ?_
          go_simp
          refine Stage.wpSt_do (.pointer (some ⟨g, 0, none⟩)) rfl (Stage.keep2 (by decide) (by decide) (fun u1 u2 w' hw => at_of (by go_simp) hw)) ?_
          go_simp
          refine Stage.wpSt_do (.agg #[.int .i64 T0.d, .int .i64 T0.e, .int .i64 T0.x, .int .i64 T0.y, .int .i64 T0.z]) rfl (Stage.keep2 (by decide) (by decide) (fun u1 u2 w' hw => Free.at_load _ _ rfl rfl (HLD.out w' (HU.out u1 u2 w' hw)) hw)) ?_
          go_simp
          refine Stage.wpSt_do (.int .i64 nj) rfl (Stage.keep2 (by decide) (by decide) (fun u1 u2 w' hw => at_of (by go_simp) hw)) ?_
          go_simp
          refine Stage.wpSt_do (.agg #[.int .i64 T0.d, .int .i64 T0.e, .int .i64 T0.x, .int .i64 T0.y, .int .i64 T0.z, .int .i64 nj]) rfl (Stage.keep2 (by decide) (by decide) (fun u1 u2 w' hw => at_of (by go_simp) hw)) ?_
          go_simp
          refine Stage.wpSt_do (.slice (some ⟨g, 0, none⟩) 4 4) rfl (Stage.keep2 (by decide) (by decide) (fun u1 u2 w' hw => at_of (by go_simp) hw)) ?_
          go_simp
          refine Stage.wpSt_do (.pointer (some ⟨g, 0, none⟩)) rfl (Stage.keep2 (by decide) (by decide) (fun u1 u2 w' hw => at_of (by go_simp) hw)) ?_
          go_simp
          refine Stage.wpSt_do (.agg #[.int .i64 T0.d, .int .i64 T0.e, .int .i64 T0.x, .int .i64 T0.y, .int .i64 T0.z]) rfl (Stage.keep2 (by decide) (by decide) (fun u1 u2 w' hw => Free.at_load _ _ rfl rfl (HLD.out w' (HU.out u1 u2 w' hw)) hw)) ?_
          go_simp
          refine Stage.wpSt_do (.agg #[.int .i64 T0.d, .int .i64 T0.e, .int .i64 T0.x, .int .i64 T0.y, .int .i64 T0.z, .int .i64 1]) rfl (Stage.keep2 (by decide) (by decide) (fun u1 u2 w' hw => at_of (by go_simp) hw)) ?_
          go_simp
          refine Stage.wpSt_do (.slice (some ⟨g, 0, none⟩) 4 4) rfl (Stage.keep2 (by decide) (by decide) (fun u1 u2 w' hw => at_of (by go_simp) hw)) ?_
          go_simp
          refine Stage.wpSt_do (.pointer (some ⟨g, 0, none⟩)) rfl (Stage.keep2 (by decide) (by decide) (fun u1 u2 w' hw => at_of (by go_simp) hw)) ?_
          go_simp
          refine Stage.wpSt_do (.agg #[.int .i64 T0.d, .int .i64 T0.e, .int .i64 T0.x, .int .i64 T0.y, .int .i64 T0.z]) rfl (Stage.keep2 (by decide) (by decide) (fun u1 u2 w' hw => Free.at_load _ _ rfl rfl (HLD.out w' (HU.out u1 u2 w' hw)) hw)) ?_
          go_simp
          refine Stage.wpSt_do (.agg #[.int .i64 T0.d, .int .i64 T0.e, .int .i64 T0.x, .int .i64 T0.y, .int .i64 T0.z, .int .i64 (-1)]) rfl (Stage.keep2 (by decide) (by decide) (fun u1 u2 w' hw => at_of (by go_simp) hw)) ?_
          go_simp
          refine Stage.wpSt_do (.slice (some ⟨g, 0, none⟩) 4 4) rfl (Stage.keep2 (by decide) (by decide) (fun u1 u2 w' hw => at_of (by go_simp) hw)) ?_
          go_simp
          refine Stage.wpSt_do (.pointer (some ⟨g, 0, none⟩)) rfl (Stage.keep2 (by decide) (by decide) (fun u1 u2 w' hw => at_of (by go_simp) hw)) ?_
          go_simp
          refine Stage.wpSt_do (.agg #[.int .i64 T0.d, .int .i64 T0.e, .int .i64 T0.x, .int .i64 T0.y, .int .i64 T0.z]) rfl (Stage.keep2 (by decide) (by decide) (fun u1 u2 w' hw => Free.at_load _ _ rfl rfl (HLD.out w' (HU.out u1 u2 w' hw)) hw)) ?_
          go_simp
          refine Stage.wpSt_do (.int .i64 nj) rfl (Stage.keep2 (by decide) (by decide) (fun u1 u2 w' hw => at_of (by go_simp) hw)) ?_
          go_simp
          refine Stage.wpSt_do (.agg #[.int .i64 T0.d, .int .i64 T0.e, .int .i64 T0.x, .int .i64 T0.y, .int .i64 T0.z, .int .i64 nj]) rfl (Stage.keep2 (by decide) (by decide) (fun u1 u2 w' hw => at_of (by go_simp) hw)) ?_
          go_simp
          refine Stage.wpSt_do (.slice (some ⟨g, 0, none⟩) 4 4) rfl (Stage.keep2 (by decide) (by decide) (fun u1 u2 w' hw => at_of (by go_simp) hw)) ?_
          go_simp
          refine Stage.wpSt_do (.pointer (some ⟨g, 0, none⟩)) rfl (Stage.keep2 (by decide) (by decide) (fun u1 u2 w' hw => at_of (by go_simp) hw)) ?_
          go_simp
          refine Stage.wpSt_do (.agg #[.int .i64 T0.d, .int .i64 T0.e, .int .i64 T0.x, .int .i64 T0.y, .int .i64 T0.z]) rfl (Stage.keep2 (by decide) (by decide) (fun u1 u2 w' hw => Free.at_load _ _ rfl rfl (HLD.out w' (HU.out u1 u2 w' hw)) hw)) ?_
          go_simp
          refine Stage.wpSt_do (.agg #[.int .i64 T0.d, .int .i64 T0.e, .int .i64 T0.x, .int .i64 T0.y, .int .i64 T0.z, .int .i64 (-1099511627776)]) rfl (Stage.keep2 (by decide) (by decide) (fun u1 u2 w' hw => at_of (by go_simp) hw)) ?_
          go_simp
          refine Stage.wpSt_do (.agg #[.int .i64 0, .int .i64 0, .int .i64 0, .int .i64 0, .int .i64 0]) rfl (Stage.keep2 (by decide) (by decide) (fun u1 u2 w' hw => at_of (by go_simp) hw)) ?_
          go_simp
          refine Stage.wpSt_do (.int .i64 nj) rfl (Stage.keep2 (by decide) (by decide) (fun u1 u2 w' hw => at_of (by go_simp) hw)) ?_
          go_simp
          refine Stage.wpSt_do (.agg #[.int .i64 0, .int .i64 0, .int .i64 0, .int .i64 0, .int .i64 0, .int .i64 nj]) rfl (Stage.keep2 (by decide) (by decide) (fun u1 u2 w' hw => at_of (by go_simp) hw)) ?_
          go_simp
          refine Stage.wpSt_do (.agg #[.int .i64 1, .int .i64 1000, .int .i64 0, .int .i64 0, .int .i64 0]) rfl (Stage.keep2 (by decide) (by decide) (fun u1 u2 w' hw => at_of (by go_simp) hw)) ?_
          go_simp
          refine Stage.wpSt_do (.int .i64 nj) rfl (Stage.keep2 (by decide) (by decide) (fun u1 u2 w' hw => at_of (by go_simp) hw)) ?_
          go_simp
          refine Stage.wpSt_do (.agg #[.int .i64 1, .int .i64 1000, .int .i64 0, .int .i64 0, .int .i64 0, .int .i64 nj]) rfl (Stage.keep2 (by decide) (by decide) (fun u1 u2 w' hw => at_of (by go_simp) hw)) ?_
          go_simp
          refine Stage.wpSt_do (.slice (some ⟨W.heap.size, 0, none⟩) 7 7) rfl (Stage.two_first (by decide) (by kernel_rfl) (fun w' hw => ?_)) ?_
          · have hw' : w' = W := hw
            clear hw; subst hw'
            exact at_made (w' := w'.alloc (.cells (rowP (sevenN T0 nj)).toArray 36)) (by go_simp; rfl) HW1.out
          go_simp
          refine Stage.wpSt_do (.slice (some ⟨g, 0, none⟩) 4 4) rfl (Stage.keep2 (by decide) (by decide) (fun u1 u2 w' hw => at_of (by go_simp) hw)) ?_
          go_simp
          refine Stage.wpSt_do (.pointer (some ⟨g, 0, none⟩)) rfl (Stage.keep2 (by decide) (by decide) (fun u1 u2 w' hw => at_of (by go_simp) hw)) ?_
          go_simp
          refine Stage.wpSt_do (.agg #[.int .i64 T0.d, .int .i64 T0.e, .int .i64 T0.x, .int .i64 T0.y, .int .i64 T0.z]) rfl (Stage.keep2 (by decide) (by decide) (fun u1 u2 w' hw => Free.at_load _ _ rfl rfl (HLD.out w' (HU.out u1 u2 w' hw)) hw)) ?_
          go_simp
          refine Stage.wpSt_do (.bool true) rfl (Stage.two_then (by decide) (by kernel_rfl) (fun w' hw => ?_)) ?_
          · have hw' : w' = W1 := hw
            clear hw; subst hw'
            refine Free.at_call _ _ rfl Try.func3 (by kernel_rfl) rfl [.int .i64 1, .slice (some ⟨W.heap.size, 0, none⟩) 7 7, .agg #[.int .i64 T0.d, .int .i64 T0.e, .int .i64 T0.x, .int .i64 T0.y, .int .i64 T0.z]] rfl ?_
            exact (KP.out).mono fun e w'' ⟨he, h⟩ => ⟨he, h⟩
          go_simp
          refine Stage.wpSt_do (.bool false) rfl (Stage.keep2 (by decide) (by decide) (fun u1 u2 w' hw => at_of (by go_simp) hw)) ?_
          go_simp
          refine Stage.wpSt_nil (Stage.two_end ?_)
          intro we hwe
          have HBE := Lib.hid (HBWW.out.trans ((HB1.out.trans ((show Below W1.heap.size W1 we from hwe).mono HB1.out.size)).mono HBWW.out.size))
          clear hwe
          go_wp2_with fail
          go_roundw
          case rel => exact ⟨j + 1, by omega, by simp, HBE.out⟩
          case measure => simp only [intOf]; omega
        · have hljz : ¬ (j : Int) < 8 := by omega
          have HBZ := Lib.hid (HBN.out.trans (HBW.out.mono HBN.out.size))
          obtain ⟨c0, c1, c2, c3, c4, hgl⟩ := cells0 HSW.out
          have PN := Lib.hid plays_nil; have P1 := Lib.hid plays_one; have HSZ := Lib.hid HSW.out
          clear HBN HRN HSN HWN HBW HRW HSW
          go_wp2_with fail
          refine (PN.out _ _).mono ?_; rintro e wa ⟨rfl, hba⟩
          have HBa := Lib.hid (HBZ.out.trans (hba.mono HBZ.out.size)); have HSa := Lib.hid (HSZ.out.below hba)
          clear c0 c1 c2 c3 c4 hgl hba HBZ HSZ
          obtain ⟨c0, c1, c2, c3, c4, hgl⟩ := cells0 HSa.out
          go_wp2_with fail
          refine (PN.out _ _).mono ?_; rintro e wb ⟨rfl, hbb⟩
          have HBb := Lib.hid (HBa.out.trans (hbb.mono HBa.out.size)); have HSb := Lib.hid (HSa.out.below hbb)
          clear c0 c1 c2 c3 c4 hgl hbb HBa HSa
          obtain ⟨c0, c1, c2, c3, c4, hgl⟩ := cells0 HSb.out
          go_wp2_with fail
          refine (P1.out _).mono ?_; rintro e wc ⟨rfl, hbc⟩
          have hb1 := (Below.refl wb.heap.size wb).alloc (Nat.le_refl _) (.cells (rowP [(⟨0, 0, 0, 0, 0⟩, 1)]).toArray 36)
          have HBc := Lib.hid (HBb.out.trans ((hb1.trans (hbc.mono hb1.size)).mono HBb.out.size))
          clear hbc hb1
          go_wp2_with fail
          refine (WW.out _).mono ?_; rintro e we ⟨rfl, hbe⟩
          go_wp2_with fail
          go_ret
          exact ⟨rfl, HBc.out.trans (hbe.mono HBc.out.size)⟩

set_option maxRecDepth 100000 in
theorem lifted (os : Os) (started : os.Started) (H : Type) (enc : TypeId × Value → H) :
    ReturnsInHanded {} Try.checked os 8 .any (Rows.countsKnownSpec.pre6 enc Try.prog Try.f8 Rows.countsKnownRow.domain false) (Rows.countsKnownSpec.post enc Try.prog Try.f8 false true false false) := by
  refine returnsInHanded_of_change_sized (C := Try.checked) ownKnob_none started (by kernel_rfl) Try.func8
    (ChangeSpec.witness6 (enc := enc) (C := Try.checked) false ⟨#[], #[], []⟩ 8 (by kernel_rfl) (by kernel_rfl) (by kernel_rfl) (by kernel_rfl)) ?_
  intro W base args ds gs before hval0 hW hcnd hsz0 _
  have hval : ∀ (j : Nat) t v, Try.f8.params[j]? = some t → args[j]? = some v → Value.okWide Try.prog W .any base t v := hval0
  have hW' := hW
  obtain ⟨p, q, hA0, hV, rfl, hfz, hnd⟩ := hW
  have hA : DataW.TrodAll enc Try.prog W 0 (fun _ => true) true Try.f8.params.toList args.toList ds p := hA0
  have hsz : (DataW.weightsEach Try.prog (Try.f8.params.toList ++ Rows.countsKnownSpec.plain.varTypes Try.prog) (ds ++ gs)).all (· ≤ reachBytes) = true := hsz0
  rw [Try.params8] at hA hval hsz
  obtain ⟨hargs, rfl, rfl⟩ := trodAll_nil hA
  obtain rfl : args = #[] := by cases args; simp_all
  obtain ⟨rfl, rfl⟩ := trodVars_none hV
  clear hA0 hval0 hsz0
  refine (walk W).mono fun e W' ⟨he, hg⟩ => ?_
  subst he
  exact ⟨_, rfl, law_post progLaid hW' rfl (by rw [Try.params8]; intro t ht; simp at ht) rfl Try.underlying4 rfl hg⟩

theorem over : Rows.countsKnownRow.holds Try.pinned (OpenSpec.ofChange Rows.countsKnownSpec) :=
  OpenClaim.holds_of_wide 8 Try.f8 rfl rfl rfl rfl rfl rfl rfl ⟨rfl, rfl, rfl, rfl, rfl⟩ rfl rfl rfl rfl rfl (by kernel_rfl) Try.func8 (by kernel_rfl)
    (of_decide_eq_true (by kernel_rfl)) (by unfold Func.isWrapper; first | (rw [if_pos (by decide +kernel)]; kernel_rfl) | (rw [if_neg (by decide +kernel)]; exact ⟨rfl, rfl⟩))
    (fun os started H enc _ => lifted os started H enc)

/-- The statement. -/
theorem proved : Rows.CountsKnownSaid :=
  over
end countsKnown
end Go.Proofs.Ytkbabmifdfmhlaa
