/- AntichainKnown: the examples hold; all times of one depth below 3 and 3, in all pairs; times that may not be. -/
import Derived.Test.YtkbabmifdfmhlaaFrWhere
import Derived.Test.YtkbabmifdfmhlaaKey
namespace Go.Proofs.Ytkbabmifdfmhlaa
open Go.ChangeShapes Go.WideShapes Go.ChangeAt Go.RowKit Go.BigFrame Go.Shelf
set_option linter.unusedVariables false
set_option maxRecDepth 100000
/-- the other row stays -/
theorem in_add {W W' : World} {B n4 n5 : Nat} {v4 v5 v4' : Value} {r4 r5 : List Value} (h4 : W.ownsRow B 25 5 v4 n4 r4) (h5 : W.ownsRow B 25 5 v5 n5 r5) (hap : ∀ k, v4.ownBlock = some k → v5.ownBlock ≠ some k)
    (hg : W.grownBy W' v4.ownBlock) (hw : ∀ k, v4'.ownBlock = some k → v4.ownBlock = some k ∨ W.heap.size ≤ k) : W'.ownsRow B 25 5 v5 n5 r5 ∧ ∀ k, v4'.ownBlock = some k → v5.ownBlock ≠ some k := by
  refine ⟨?_, fun k hk e => ?_⟩
  · refine h5.kept hg ?_
    cases hv : v5.ownBlock with
    | none => exact .inl rfl
    | some j => exact .inr fun e => hap j e.symm hv
  · rcases hw k hk with h | h
    · exact hap k h e
    · have := (h5.lt k e).2; omega
theorem at_nine {w : World} {g : Nat} {X : List St} (h : Ts w (some ⟨g, 0, none⟩) X) {i : Nat} {t : St} (ht : X[i]? = some t) : g < w.heap.size ∧ ∀ w', Below w.heap.size w w' →
    w'.cell? ⟨g, i * 5, none⟩ = some (.int .i64 t.d) ∧ w'.cell? ⟨g, i * 5 + 1, none⟩ = some (.int .i64 t.e) ∧ w'.cell? ⟨g, i * 5 + 2, none⟩ = some (.int .i64 t.x) ∧ w'.cell? ⟨g, i * 5 + 3, none⟩ = some (.int .i64 t.y) ∧ w'.cell? ⟨g, i * 5 + 4, none⟩ = some (.int .i64 t.z) := by
  obtain ⟨b, o, e, hlt, h5⟩ := h.five ht
  cases e
  simp only [Nat.zero_add] at h5
  exact ⟨hlt, h5⟩
theorem load_nine {w : World} {g : Nat} {X : List St} (h : Ts w (some ⟨g, 0, none⟩) X) {i : Nat} {t : St} (ht : X[i]? = some t) : ∀ w', Below w.heap.size w w' → (Instr.loadAt 25 (.pointer (some ⟨g, i * 5, none⟩))).run Try.prog w' = .ok (.agg #[.int .i64 t.d, .int .i64 t.e, .int .i64 t.x, .int .i64 t.y, .int .i64 t.z]) w' := by
  obtain ⟨b, o, e, _, h5⟩ := h.load ht
  cases e
  simp only [Nat.zero_add] at h5
  exact h5
section
variable {x y : Operand} {a r : Nat}
theorem remn9 (h : a % 9 = r) : ∀ w, (do eqGuard .rem 3 x y (.int .i64 (a : Nat)) (.int .i64 9); binOp .rem 3 (.int .i64 (a : Nat)) (.int .i64 9) : Sem Value).run Try.prog w = .ok (.int .i64 (r : Nat)) w := by
  intro w
  have h1 : (a : Int).tmod 9 = (r : Int) := by rw [Int.tmod_eq_emod_of_nonneg (by omega)]; omega
  have h2 : (a : Int) % 9 = (r : Int) := by omega
  go_simp
theorem quon9 (h : a / 9 = r) (hb : a ≤ 1000000) : ∀ w, (do eqGuard .quo 3 x y (.int .i64 (a : Nat)) (.int .i64 9); binOp .quo 3 (.int .i64 (a : Nat)) (.int .i64 9) : Sem Value).run Try.prog w = .ok (.int .i64 (r : Nat)) w := by
  intro w
  have h1 : (a : Int).tdiv 9 = (r : Int) := by rw [Int.tdiv_eq_ediv_of_nonneg (by omega)]; omega
  have h2 : (a : Int) / 9 = (r : Int) := by omega
  have h3 : IntKind.i64.wrap (r : Int) = (r : Int) := IntWalk.i64_in _ (by omega)
  go_simp
theorem quon5 (h : a / 5 = r) (hb : a ≤ 1000000) : ∀ w, (do eqGuard .quo 3 x y (.int .i64 (a : Nat)) (.int .i64 5); binOp .quo 3 (.int .i64 (a : Nat)) (.int .i64 5) : Sem Value).run Try.prog w = .ok (.int .i64 (r : Nat)) w := by
  intro w
  have h1 : (a : Int).tdiv 5 = (r : Int) := by rw [Int.tdiv_eq_ediv_of_nonneg (by omega)]; omega
  have h2 : (a : Int) / 5 = (r : Int) := by omega
  have h3 : IntKind.i64.wrap (r : Int) = (r : Int) := IntWalk.i64_in _ (by omega)
  go_simp
end
/-- times that may not be, and one that may -/
def badL : List St := [⟨4, 0, 0, 0, 0⟩, ⟨0, -1, 0, 0, 0⟩, ⟨1, 1, 0, 0, 0⟩, ⟨0, 0, 0, 0, 0⟩]
section
variable {K : Value → World → Prop} {a : Act} {o : Oper} {w : World}
theorem g_not6 {b : Bool} (t : TypeId) (x : Operand) (ho : o.op = .unOp .not t x) (hx : a.eval x = .bool b) (h : K (.bool (!b)) w) : Free.gets Try.prog K ((execOp a.eval o).run Try.prog w) := by
  unfold execOp; simp only [ho, hx]; go_simp; exact h
theorem g_build2 (k l : Nat) (s t : St) (ho : o.op = .buildSlice 40 2 #[(0, .tmp k), (1, .tmp l)]) (hx : a.eval (.tmp k) = .agg #[.int .i64 s.d, .int .i64 s.e, .int .i64 s.x, .int .i64 s.y, .int .i64 s.z]) (hy : a.eval (.tmp l) = .agg #[.int .i64 t.d, .int .i64 t.e, .int .i64 t.x, .int .i64 t.y, .int .i64 t.z])
    (h : K (.slice (some ⟨w.heap.size, 0, none⟩) 2 2) (w.alloc (.cells (rowS [s, t]).toArray 25))) : Free.gets Try.prog K ((execOp a.eval o).run Try.prog w) := by
  have hx' : a.tmps[k]?.getD undef = .agg #[.int .i64 s.d, .int .i64 s.e, .int .i64 s.x, .int .i64 s.y, .int .i64 s.z] := by simpa [Act.eval] using hx
  have hy' : a.tmps[l]?.getD undef = .agg #[.int .i64 t.d, .int .i64 t.e, .int .i64 t.x, .int .i64 t.y, .int .i64 t.z] := by simpa [Act.eval] using hy
  unfold execOp
  simp only [ho]
  go_simp
  exact h
theorem add_one {x y : Operand} {k : Nat} (h : k < 4) : ∀ w, (do eqGuard .add 3 x y (.int .i64 (k : Nat)) (.int .i64 1); binOp .add 3 (.int .i64 (k : Nat)) (.int .i64 1) : Sem Value).run Try.prog w = .ok (.int .i64 ((k + 1 : Nat) : Int)) w := by
  intro w
  have : IntKind.i64.wrap ((k : Int) + 1) = (k : Int) + 1 := IntWalk.i64_in _ (by omega)
  go_simp
end
/-- the class of the worlds in the third loop's region: operation 13 has made a row of two -/
def FK13 (W : World) (s t : St) (b : Nat → Bool) (vs : Nat → Value) (w : World) : Prop := Below W.heap.size W w ∧ (b 13 = true → ∃ g, vs 13 = .slice (some ⟨g, 0, none⟩) 2 2 ∧ Ts w (some ⟨g, 0, none⟩) [s, t])
theorem FKkeep {W w w' : World} {s t : St} {b : Nat → Bool} {vs : Nat → Value} {i : Nat} {v : Value} (h : FK13 W s t b vs w) (hb : Below w.heap.size w w') (hi : decide (i ≠ 13) = true) : FK13 W s t (Free.updb b i) (Free.updw vs i v) w' := by
  have hi := of_decide_eq_true hi
  refine ⟨h.1.trans (hb.mono h.1.size), fun h13 => ?_⟩
  rw [Free.updb_ne (Ne.symm hi)] at h13
  obtain ⟨g, e, hT⟩ := h.2 h13
  exact ⟨g, by rw [Free.updw_ne (Ne.symm hi)]; exact e, hT.below hb⟩
theorem FKmade {W w : World} {s t : St} {b : Nat → Bool} {vs : Nat → Value} (h : FK13 W s t b vs w) : FK13 W s t (Free.updb b 13) (Free.updw vs 13 (.slice (some ⟨w.heap.size, 0, none⟩) 2 2)) (w.alloc (.cells (rowS [s, t]).toArray 25)) :=
  ⟨h.1.alloc h.1.size _, fun _ => ⟨w.heap.size, Free.updw_self, Ts.of (Times.made w [s, t])⟩⟩
def VK6 (g c gb k : Nat) (t0 t : St) (i : Nat) (v : Value) : Prop := match i with
  | 0 => v = .slice (some ⟨gb, 0, none⟩) 4 4
  | 1 => v = .int .i64 ((k : Nat) : Int)
  | 2 => v = .slice (some ⟨gb, k * 5, none⟩) (4 - k) (4 - k)
  | 3 => v = .bool true
  | 4 => v = .bool false
  | 5 => v = .bool false
  | 6 => v = .slice (some ⟨g, 0, none⟩) 9 c
  | 7 => v = .pointer (some ⟨g, 0, none⟩)
  | 8 => v = .agg #[.int .i64 t0.d, .int .i64 t0.e, .int .i64 t0.x, .int .i64 t0.y, .int .i64 t0.z]
  | 9 => v = .slice (some ⟨gb, 0, none⟩) 4 4
  | 10 => v = .int .i64 ((k : Nat) : Int)
  | 11 => v = .pointer (some ⟨gb, k * 5, none⟩)
  | 12 => v = .agg #[.int .i64 t.d, .int .i64 t.e, .int .i64 t.x, .int .i64 t.y, .int .i64 t.z]
  | 13 => ∃ g2, v = .slice (some ⟨g2, 0, none⟩) 2 2
  | 14 => v = .bool true
  | 15 => v = .bool false
  | 16 => v = .bool false
  | 17 => v = .bool false
  | 18 => v = .slice (some ⟨g, 0, none⟩) 9 c
  | 19 => v = .slice (some ⟨g, 20, none⟩) 1 (c - 4)
  | 20 => v = .slice (some ⟨gb, 0, none⟩) 4 4
  | 21 => v = .int .i64 ((k : Nat) : Int)
  | 22 => v = .pointer (some ⟨gb, k * 5, none⟩)
  | 23 => v = .agg #[.int .i64 t.d, .int .i64 t.e, .int .i64 t.x, .int .i64 t.y, .int .i64 t.z]
  | 24 => v = .slice (some ⟨g, 0, none⟩) 9 c
  | 25 => v = .pointer (some ⟨g, 0, none⟩)
  | 26 => v = .agg #[.int .i64 t0.d, .int .i64 t0.e, .int .i64 t0.x, .int .i64 t0.y, .int .i64 t0.z]
  | 27 => v = .bool true
  | 28 => v = .bool false
  | 29 => v = .bool false
  | 30 => v = .bool false
  | 31 => v = .slice (some ⟨g, 0, none⟩) 9 c
  | 32 => v = .slice (some ⟨g, 20, none⟩) 1 (c - 4)
  | 33 => v = .slice (some ⟨gb, 0, none⟩) 4 4
  | 34 => v = .int .i64 ((k : Nat) : Int)
  | 35 => v = .int .i64 ((k : Nat) : Int)
  | 36 => v = .int .i64 (((k + 1 : Nat)) : Int)
  | 37 => v = .slice (some ⟨gb, k * 5, none⟩) 1 (4 - k)
  | 38 => v = .bool true
  | 39 => v = .bool false
  | 40 => v = .bool false
  | 41 => v = .bool false
  | 42 => v = .slice (some ⟨gb, 0, none⟩) 4 4
  | 43 => v = .int .i64 ((k : Nat) : Int)
  | 44 => v = .pointer (some ⟨gb, k * 5, none⟩)
  | 45 => v = .agg #[.int .i64 t.d, .int .i64 t.e, .int .i64 t.x, .int .i64 t.y, .int .i64 t.z]
  | 46 => v = .slice (some ⟨g, 0, none⟩) 9 c
  | 47 => v = .pointer (some ⟨g, 0, none⟩)
  | 48 => v = .agg #[.int .i64 t0.d, .int .i64 t0.e, .int .i64 t0.x, .int .i64 t0.y, .int .i64 t0.z]
  | 49 => v = .bool true
  | 50 => v = .bool false
  | 51 => v = .bool false
  | 52 => v = .bool false
  | 53 => v = .slice (some ⟨gb, 0, none⟩) 4 4
  | 54 => v = .int .i64 ((k : Nat) : Int)
  | 55 => v = .int .i64 ((k : Nat) : Int)
  | 56 => v = .int .i64 (((k + 1 : Nat)) : Int)
  | 57 => v = .slice (some ⟨gb, k * 5, none⟩) 1 (4 - k)
  | 58 => v = .bool true
  | 59 => v = .bool false
  | _ => v = .bool false
namespace antichainKnown
/-- two rows of the call's own, that no block have in common -/
def In3 (w1 : World) (k : Nat) (v4 v5 : Value) (wr : World) : Prop := Below w1.heap.size w1 wr ∧ ∃ xs ys, xs.length ≤ k ∧ ys.length ≤ k ∧ wr.ownsRow w1.heap.size 25 5 v4 xs.length (rowS xs) ∧ wr.ownsRow w1.heap.size 25 5 v5 ys.length (rowS ys) ∧ ∀ j, v4.ownBlock = some j → v5.ownBlock ≠ some j
set_option maxHeartbeats 16000000 in
theorem walk (w : World) : Calls Try.prog 9 #[] w fun e w' => e = .returned (.bool true) ∧ Below w.heap.size w w' := by
  have WW := Lib.hid works_any
  go_enter Try.func9, Try.ntmps9
  go_wp2_with fail
  go_loopw [1, 2] (fun v i wr => ∃ k : Nat, k ≤ 9 ∧ i = .int .i64 k ∧ Below w.heap.size w wr ∧ wr.ownsRow w.heap.size 25 5 v k (rowS (nine k))) (fun _ i _ => 9 - (intOf i).toNat)
  case atStart => exact ⟨0, by omega, rfl, Below.refl _ _, World.ownsRow_nil _ _ _ _⟩
  case round =>
    obtain ⟨k, hk, rfl, hbw, hro⟩ := hrel
    by_cases hlt : k < 9
    · have hltz : (k : Int) < 9 := by omega
      obtain ⟨q, hq⟩ : ∃ q, k / 3 = q := ⟨_, rfl⟩
      obtain ⟨r, hr⟩ : ∃ r, k % 3 = r := ⟨_, rfl⟩
      have q1 : (k : Int) / 3 = (q : Int) := by rw [← hq]; omega
      have q2 : (k : Int).tdiv 3 = (q : Int) := by rw [Int.tdiv_eq_ediv_of_nonneg (by omega)]; exact q1
      have r1 : (k : Int) % 3 = (r : Int) := by rw [← hr]; omega
      have r2 : (k : Int).tmod 3 = (r : Int) := by rw [Int.tmod_eq_emod_of_nonneg (by omega)]; exact r1
      have hb : ∀ w, (Instr.build 25 #[(0, .int .i64 1), (1, .int .i64 (q : Nat)), (2, .agg #[.int .i64 (r : Nat), .int .i64 0, .int .i64 0])]).run Try.prog w = .ok (.agg #[.int .i64 1, .int .i64 (q : Nat), .int .i64 (r : Nat), .int .i64 0, .int .i64 0]) w := fun w => run_build w _ _ _ (by kernel_rfl)
      have ht : t9 k = ⟨1, (q : Nat), (r : Nat), 0, 0⟩ := by unfold t9; rw [hq, hr]
      have hns := nine_succ k
      rw [ht] at hns
      have HNS := Lib.hid hns; have HBW := Lib.hid hbw
      clear hns ht hq hr hbw
      have hoA := hro.alloc (.cells #[.int .i64 1, .int .i64 (q : Nat), .int .i64 (r : Nat), .int .i64 0, .int .i64 0] 25)
      have hTA := Times.made wr [(⟨1, (q : Nat), (r : Nat), 0, 0⟩ : St)]
      have hbs : w.heap.size ≤ (wr.alloc (.cells #[.int .i64 1, .int .i64 (q : Nat), .int .i64 (r : Nat), .int .i64 0, .int .i64 0] 25)).heap.size := by have := HBW.out.size; simp; omega
      have HOA := Lib.hid hoA; have HBS := Lib.hid hbs; clear hro
      go_wp2_with (at_builtin; refine wpList_append_timesW rfl _ _ rfl w.heap.size _ k (nine k) rfl hoA ⟨wr.heap.size, 0, none⟩ 1 [(⟨1, (q : Nat), (r : Nat), 0, 0⟩ : St)] rfl (by simp) hTA (by simp; omega) hbs ?_; intro v' w5 hown' hgr' _)
      have hb6 := own_belowS hoA hgr' (HBW.out.alloc HBW.out.size _) hbs
      have H6 := Lib.hid (And.intro hown' hb6); clear hown' hgr' hoA hTA hb6 hbs
      go_wp2_with fail
      go_roundw
      case rel => exact ⟨k + 1, by omega, by simp, H6.out.2, by rw [HNS.out]; simpa using H6.out.1⟩
      case measure => simp only [intOf]; omega
    · obtain ⟨w1, rfl⟩ : ∃ w1 : World, w1 = wr := ⟨_, rfl⟩
      have hk9 : k = 9 := by omega
      have hltz : ¬ (k : Int) < 9 := by omega
      rw [hk9] at hro
      obtain ⟨g, c, rfl⟩ := ownsRow_succ (k := 8) hro
      obtain ⟨A0, c0, e0, hs⟩ := Slc.of_own hro
      rw [nine_len] at e0
      injection e0 with e0 e1 e2
      subst e0; subst e2
      have h9 := nine_len 9
      obtain ⟨X, hX⟩ : ∃ X, nine 9 = X := ⟨_, rfl⟩
      rw [hX] at hs h9
      have hk9' : ((9 : Nat) : Int) = 9 := rfl
      have HS := Lib.hid hs; have HBW := Lib.hid hbw; have H9 := Lib.hid h9
      clear hs hbw hro hX h9 hk9 hk
      go_wp2_with fail
      go_loopw [3] (fun i wr => ∃ k : Nat, k ≤ 171 ∧ i = .int .i64 ((3 * k : Nat) : Int) ∧ Below w1.heap.size w1 wr) (fun i _ => 600 - (intOf i).toNat)
      case atStart => exact ⟨0, by omega, rfl, Below.refl _ _⟩
      case round =>
        obtain ⟨k, hk, rfl, hb2⟩ := hrel
        by_cases hlt : k < 171
        · have hltz : ((3 * k : Nat) : Int) < 512 := by omega
          obtain ⟨m, hm⟩ : ∃ m : Nat, 3 * k = m := ⟨_, rfl⟩
          rw [hm] at hltz ⊢
          have HM := Lib.hid hm; have HB2 := Lib.hid hb2; clear hm hb2
          obtain ⟨wo, rfl⟩ : ∃ wo : World, wo = wr := ⟨_, rfl⟩
          go_wp2_with fail
          go_loopw [4, 5, 6] (fun v4 v5 i wr => ∃ j : Nat, j ≤ 9 ∧ i = .int .i64 j ∧ In3 wo j v4 v5 wr) (fun _ _ i _ => 9 - (intOf i).toNat)
          case atStart => exact ⟨0, by omega, rfl, Below.refl _ _, [], [], by simp, by simp, World.ownsRow_nil _ _ _ _, World.ownsRow_nil _ _ _ _, by simp [Value.ownBlock]⟩
          case round =>
            obtain ⟨j, hj, rfl, hin⟩ := hrel
            by_cases hlj : j < 9
            · have hlz : (j : Int) < 9 := by omega
              obtain ⟨hbi, xs, ys, hxl, hyl, h4, h5, hap⟩ := hin
              obtain ⟨p, hp⟩ : ∃ p : Nat, 8 - j = p := ⟨_, rfl⟩
              have hp1 : (8 : Int) - (j : Int) = (p : Int) := by omega
              have hp9 : p < 9 := by omega
              obtain ⟨tp, htp⟩ : ∃ tp, X[p]? = some tp := ⟨_, List.getElem?_eq_getElem (by have := H9.out; omega)⟩
              obtain ⟨tj, htj⟩ : ∃ tj, X[j]? = some tj := ⟨_, List.getElem?_eq_getElem (by have := H9.out; omega)⟩
              have hxp := at_nine HS.out.ts htp
              have hxj := at_nine HS.out.ts htj
              have HXP := Lib.hid (fun w' (hw : Below wo.heap.size wo w') => hxp.2 w' (HB2.out.trans (hw.mono HB2.out.size)))
              have HXJ := Lib.hid (fun w' (hw : Below wo.heap.size wo w') => hxj.2 w' (HB2.out.trans (hw.mono HB2.out.size)))
              have HGL := Lib.hid (Nat.lt_of_lt_of_le hxp.1 HB2.out.size)
              have HLN := Lib.hid (And.intro hxl hyl)
              have H4 := Lib.hid h4; have H5 := Lib.hid h5; have HAP := Lib.hid hap; have HBI := Lib.hid hbi
              clear hbi hxl hyl h4 h5 hap hxp hxj htp htj hp
              obtain ⟨b1, hb1⟩ : ∃ b1, (bits BinOp.and IntKind.i64 ((m : Int) / 2 ^ j) 1 == 1) = b1 := ⟨_, rfl⟩
              obtain ⟨b2, hb2⟩ : ∃ b2, (bits BinOp.and IntKind.i64 (((m : Int) * 37 + 11) / 2 ^ j) 1 == 1) = b2 := ⟨_, rfl⟩
              have E1 := Lib.hid hb1; have E2 := Lib.hid hb2; clear hb1 hb2
              have hm512 : (m : Int) < 512 := hltz
              cases b1 with
              | true =>
                cases b2 with
                | true =>
                  have e1 := E1.out; have e2 := E2.out
                  obtain ⟨c0, c1, c2, c3, c4⟩ := HXP.out wr HBI.out
                  have hgl : g < wr.heap.size := Nat.lt_of_lt_of_le HGL.out HBI.out.size
                  have hoA := H4.out.alloc (.cells #[.int .i64 tp.d, .int .i64 tp.e, .int .i64 tp.x, .int .i64 tp.y, .int .i64 tp.z] 25)
                  have hoB := H5.out.alloc (.cells #[.int .i64 tp.d, .int .i64 tp.e, .int .i64 tp.x, .int .i64 tp.y, .int .i64 tp.z] 25)
                  have hTA := Times.made wr [tp]
                  have hbs : wo.heap.size ≤ (wr.alloc (.cells #[.int .i64 tp.d, .int .i64 tp.e, .int .i64 tp.x, .int .i64 tp.y, .int .i64 tp.z] 25)).heap.size := by have := HBI.out.size; simp; omega
                  have hle : xs.length + 1 ≤ 1000 := by have := HLN.out; omega
                  have hle2 : ys.length + 1 ≤ 1000 := by have := HLN.out; omega
                  have HOB := Lib.hid hoB; clear hoB
                  go_wp2_with (first
                    | (at_builtin; refine wpList_append_timesW rfl _ _ rfl wo.heap.size _ xs.length xs rfl hoA ⟨wr.heap.size, 0, none⟩ 1 [tp] rfl (by simp) hTA hle hbs ?_; intro v4' w5 hown4 hgr4 hwh4; have hb6 := own_belowS hoA hgr4 (HBI.out.alloc HBI.out.size _) hbs; obtain ⟨hob5, hap5⟩ := in_add hoA HOB.out HAP.out hgr4 hwh4; obtain ⟨d0, d1, d2, d3, d4⟩ := HXJ.out w5 hb6; have hgl5 : g < w5.heap.size := Nat.lt_of_lt_of_le HGL.out hb6.size; have hoA2 := hob5.alloc (.cells #[.int .i64 tj.d, .int .i64 tj.e, .int .i64 tj.x, .int .i64 tj.y, .int .i64 tj.z] 25); have hTA2 := Times.made w5 [tj]; have hbs2 : wo.heap.size ≤ (w5.alloc (.cells #[.int .i64 tj.d, .int .i64 tj.e, .int .i64 tj.x, .int .i64 tj.y, .int .i64 tj.z] 25)).heap.size := (by have := hb6.size; simp; omega); have K5 := Lib.hid (And.intro hown4 (And.intro hob5 (And.intro hap5 hb6))); clear hown4 hgr4 hwh4 hob5 hap5 hb6 hoA hTA hbs c0 c1 c2 c3 c4 hgl)
                    | (at_builtin; refine wpList_append_timesW rfl _ _ rfl wo.heap.size _ ys.length ys rfl hoA2 ⟨w5.heap.size, 0, none⟩ 1 [tj] rfl (by simp) hTA2 hle2 hbs2 ?_; intro v5' w6 hown5 hgr5 hwh5))
                  have hb7 := own_belowS hoA2 hgr5 (K5.out.2.2.2.alloc K5.out.2.2.2.size _) hbs2
                  obtain ⟨hob4, hap4⟩ := in_add hoA2 (K5.out.1.alloc (.cells #[.int .i64 tj.d, .int .i64 tj.e, .int .i64 tj.x, .int .i64 tj.y, .int .i64 tj.z] 25)) (fun k h1 h2 => K5.out.2.2.1 k h2 h1) hgr5 hwh5
                  clear H4 H5 HAP HBI HOB
                  have H5 := Lib.hid hown5; have H4 := Lib.hid hob4; have HAP := Lib.hid (fun (k : Nat) h1 h2 => hap4 k h2 h1); have HBI := Lib.hid hb7
                  clear hown5 hob4 hap4 hb7 hgr5 hwh5 hoA2 hTA2 hbs2 hle hle2 hgl5 d0 d1 d2 d3 d4 K5
                  go_wp2_with fail
                  go_roundw
                  case rel => exact ⟨j + 1, by omega, by simp, HBI.out, xs ++ [tp], ys ++ [tj], by have := HLN.out; simp; omega, by have := HLN.out; simp; omega, by simpa using H4.out, by simpa using H5.out, HAP.out⟩
                  case measure => simp only [intOf]; omega
                | false =>
                  have e1 := E1.out; have e2 := E2.out
                  obtain ⟨c0, c1, c2, c3, c4⟩ := HXP.out wr (HBI.out)
                  have hgl : g < wr.heap.size := Nat.lt_of_lt_of_le HGL.out HBI.out.size
                  have hoA := H4.out.alloc (.cells #[.int .i64 tp.d, .int .i64 tp.e, .int .i64 tp.x, .int .i64 tp.y, .int .i64 tp.z] 25)
                  have hoB := H5.out.alloc (.cells #[.int .i64 tp.d, .int .i64 tp.e, .int .i64 tp.x, .int .i64 tp.y, .int .i64 tp.z] 25)
                  have hTA := Times.made wr [tp]
                  have hbs : wo.heap.size ≤ (wr.alloc (.cells #[.int .i64 tp.d, .int .i64 tp.e, .int .i64 tp.x, .int .i64 tp.y, .int .i64 tp.z] 25)).heap.size := by have := HBI.out.size; simp; omega
                  have hle : xs.length + 1 ≤ 1000 := by have := HLN.out; omega
                  go_wp2_with (at_builtin; refine wpList_append_timesW rfl _ _ rfl wo.heap.size _ xs.length xs rfl hoA ⟨wr.heap.size, 0, none⟩ 1 [tp] rfl (by simp) hTA hle hbs ?_; intro v4' w5 hown' hgr' hwh)
                  have hb6 := own_belowS hoA hgr' (HBI.out.alloc HBI.out.size _) hbs
                  obtain ⟨hob5, hap5⟩ := in_add hoA hoB HAP.out hgr' hwh
                  clear H4 H5 HAP HBI
                  have H4 := Lib.hid hown'; have H5 := Lib.hid hob5; have HAP := Lib.hid (hap5); have HBI := Lib.hid hb6
                  clear hown' hob5 hap5 hb6 hgr' hwh hoA hoB hTA hbs hle hgl c0 c1 c2 c3 c4
                  go_wp2_with fail
                  go_roundw
                  case rel => exact ⟨j + 1, by omega, by simp, HBI.out, xs ++ [tp], ys, by have := HLN.out; simp; omega, by have := HLN.out; simp; omega, by simpa using H4.out, H5.out, HAP.out⟩
                  case measure => simp only [intOf]; omega
              | false =>
                cases b2 with
                | true =>
                  have e1 := E1.out; have e2 := E2.out
                  obtain ⟨c0, c1, c2, c3, c4⟩ := HXJ.out wr (HBI.out)
                  have hgl : g < wr.heap.size := Nat.lt_of_lt_of_le HGL.out HBI.out.size
                  have hoA := H5.out.alloc (.cells #[.int .i64 tj.d, .int .i64 tj.e, .int .i64 tj.x, .int .i64 tj.y, .int .i64 tj.z] 25)
                  have hoB := H4.out.alloc (.cells #[.int .i64 tj.d, .int .i64 tj.e, .int .i64 tj.x, .int .i64 tj.y, .int .i64 tj.z] 25)
                  have hTA := Times.made wr [tj]
                  have hbs : wo.heap.size ≤ (wr.alloc (.cells #[.int .i64 tj.d, .int .i64 tj.e, .int .i64 tj.x, .int .i64 tj.y, .int .i64 tj.z] 25)).heap.size := by have := HBI.out.size; simp; omega
                  have hle : ys.length + 1 ≤ 1000 := by have := HLN.out; omega
                  go_wp2_with (at_builtin; refine wpList_append_timesW rfl _ _ rfl wo.heap.size _ ys.length ys rfl hoA ⟨wr.heap.size, 0, none⟩ 1 [tj] rfl (by simp) hTA hle hbs ?_; intro v5' w6 hown' hgr' hwh)
                  have hb6 := own_belowS hoA hgr' (HBI.out.alloc HBI.out.size _) hbs
                  obtain ⟨hob5, hap5⟩ := in_add hoA hoB (fun k h1 h2 => HAP.out k h2 h1) hgr' hwh
                  clear H4 H5 HAP HBI
                  have H5 := Lib.hid hown'; have H4 := Lib.hid hob5; have HAP := Lib.hid (fun k h1 h2 => hap5 k h2 h1); have HBI := Lib.hid hb6
                  clear hown' hob5 hap5 hb6 hgr' hwh hoA hoB hTA hbs hle hgl c0 c1 c2 c3 c4
                  go_wp2_with fail
                  go_roundw
                  case rel => exact ⟨j + 1, by omega, by simp, HBI.out, xs, ys ++ [tj], by have := HLN.out; simp; omega, by have := HLN.out; simp; omega, H4.out, by simpa using H5.out, HAP.out⟩
                  case measure => simp only [intOf]; omega
                | false =>
                  have e1 := E1.out; have e2 := E2.out
                  go_wp2_with fail
                  go_roundw
                  case rel => exact ⟨j + 1, by omega, by simp, HBI.out, xs, ys, by have := HLN.out; simp; omega, by have := HLN.out; simp; omega, H4.out, H5.out, HAP.out⟩
                  case measure => simp only [intOf]; omega
            · have hlz : ¬ (j : Int) < 9 := by omega
              have hj9 : j = 9 := by omega
              obtain ⟨hbi, xs, ys, hxl, hyl, h4, h5, -⟩ := hin
              obtain ⟨A4, c4, rfl, hs4⟩ := Slc.of_own h4
              obtain ⟨A5, c5, rfl, hs5⟩ := Slc.of_own h5
              have hbx := HB2.out.trans (hbi.mono HB2.out.size)
              have hsx := HS.out.below hbx
              obtain ⟨p1, hp1⟩ : ∃ p1, m % 9 = p1 := ⟨_, rfl⟩
              obtain ⟨q2, hq2⟩ : ∃ q2, m / 9 = q2 := ⟨_, rfl⟩
              obtain ⟨p2, hp2⟩ : ∃ p2, q2 % 9 = p2 := ⟨_, rfl⟩
              obtain ⟨q3, hq3⟩ : ∃ q3, m / 5 = q3 := ⟨_, rfl⟩
              obtain ⟨p3, hp3⟩ : ∃ p3, q3 % 9 = p3 := ⟨_, rfl⟩
              have l1 : p1 < 9 := by omega
              have l2 : p2 < 9 := by omega
              have l3 : p3 < 9 := by omega
              obtain ⟨t1, ht1⟩ : ∃ t1, X[p1]? = some t1 := ⟨_, List.getElem?_eq_getElem (by have := H9.out; omega)⟩
              obtain ⟨t2, ht2⟩ : ∃ t2, X[p2]? = some t2 := ⟨_, List.getElem?_eq_getElem (by have := H9.out; omega)⟩
              obtain ⟨t3, ht3⟩ : ∃ t3, X[p3]? = some t3 := ⟨_, List.getElem?_eq_getElem (by have := H9.out; omega)⟩
              obtain ⟨t0, ht0⟩ : ∃ t0, X[0]? = some t0 := ⟨_, List.getElem?_eq_getElem (by have := H9.out; omega)⟩
              have hc9 : 9 ≤ c := by have := hsx.le; have := H9.out; omega
              have hdl : (X.drop p1).length = 9 - p1 := by rw [List.length_drop, H9.out]
              have hsd : Slc wr (some ⟨g, p1 * 5, none⟩) (c - p1) (X.drop p1) := by
                refine ⟨?_, by rw [hdl]; omega, by have := hsx.max; omega, fun h => by cases h⟩
                have := hsx.ts.drop p1
                rwa [Nat.zero_add] at this
              have LD1 := Lib.hid (load_nine hsx.ts ht1); have LD2 := Lib.hid (load_nine hsx.ts ht2); have LD3 := Lib.hid (load_nine hsx.ts ht3); have LD0 := Lib.hid (load_nine hsx.ts ht0)
              have K1 := Lib.hid (fun w' (hw : Below wr.heap.size wr w') => antichainOf.walk A4 xs c4 w' (hs4.below hw))
              have K2 := Lib.hid (fun w' (hw : Below wr.heap.size wr w') => antichainHolds.walk A4 xs c4 t1 t2 w' (hs4.below hw))
              have K3 := Lib.hid (fun w' (hw : Below wr.heap.size wr w') => antichainTwo.walk A4 A5 xs ys c4 c5 w' (hs4.below hw) (hs5.below hw))
              have kk := fun w' (hw : Below wr.heap.size wr w') => antichainOrder.walk A4 A5 (some ⟨g, p1 * 5, none⟩) xs ys (X.drop p1) c4 c5 (c - p1) t3 w' (hs4.below hw) (hs5.below hw) (hsd.below hw)
              rw [hdl] at kk
              have K4 := Lib.hid kk
              have HP1 := Lib.hid hp1; have HQ2 := Lib.hid hq2; have HP2 := Lib.hid hp2; have HQ3 := Lib.hid hq3; have HP3 := Lib.hid hp3; have HS4 := Lib.hid hs4; have HS5 := Lib.hid hs5; have HBX := Lib.hid hbx; have HT := Lib.hid (And.intro ht1 ht0); have HXY := Lib.hid (And.intro hxl hyl)
              have l1z : (p1 : Int) < 9 := by omega
              have l2z : (p2 : Int) < 9 := by omega
              have l3z : (p3 : Int) < 9 := by omega
              have l1y : (p1 : Int) ≤ 9 := by omega
              have hcne : ¬ c = p1 := by omega
              have HMB := Lib.hid (show m ≤ 1000000 by omega)
              clear kk hp1 hq2 hp2 hq3 hp3 hs4 hs5 hbx ht1 ht2 ht3 ht0 hsx hsd hdl h4 h5 hbi hxl hyl hj9
              unfold St.val at *
              go_wp2_with fail
              refine wp_region_below (by kernel_rfl) (by kernel_rfl) ?_
              refine wpQuiet_step (fun K hK => ?_); go_simp; (first | (with_reducible refine hK _ ?_) | (with_reducible refine ⟨_, fun _ _ => rfl, hK _ ?_⟩)); clear hK K
              refine wpQuiet_step (fun K hK => ?_); go_simp; (with_reducible refine ⟨_, fun wq hb => (K1.out wq hb).mono fun _ _ h => ⟨h.1, hb.trans (h.2.mono (by simpa using hb.size))⟩, hK _ ?_⟩); clear hK K
              refine wpQuiet_step (fun K hK => ?_); go_simp; (first | (with_reducible refine hK _ ?_) | (with_reducible refine ⟨_, fun _ _ => rfl, hK _ ?_⟩)); clear hK K
              refine wpQuiet_step (fun K hK => ?_); go_simp; (first | (with_reducible refine hK _ ?_) | (with_reducible refine ⟨_, fun _ _ => rfl, hK _ ?_⟩)); clear hK K
              refine wpQuiet_step (fun K hK => ?_); go_simp; (first | (with_reducible refine hK _ ?_) | (with_reducible refine ⟨_, fun _ _ => rfl, hK _ ?_⟩)); clear hK K
              refine wpQuiet_step (fun K hK => ?_); go_simp; (first | (with_reducible refine hK _ ?_) | (with_reducible refine ⟨_, fun _ _ => rfl, hK _ ?_⟩)); clear hK K
              refine wpQuiet_step (fun K hK => ?_); go_simp; (first | (with_reducible refine hK _ ?_) | (with_reducible refine ⟨_, fun _ _ => rfl, hK _ ?_⟩)); clear hK K
              refine wpQuiet_step (fun K hK => ?_); refine q_bin _ _ _ _ _ rfl rfl rfl rfl (remn9 HP1.out) ?_; go_simp; (with_reducible refine hK _ ?_); clear hK K
              refine wpQuiet_step (fun K hK => ?_); go_simp; (first | (with_reducible refine hK _ ?_) | (with_reducible refine ⟨_, fun _ _ => rfl, hK _ ?_⟩)); clear hK K
              refine wpQuiet_step (fun K hK => ?_); refine q_load (p := .pointer (some ⟨g, p1 * 5, none⟩)) 25 _ rfl rfl rfl (LD1.out) ?_; go_simp; (with_reducible refine hK _ ?_); clear hK K
              refine wpQuiet_step (fun K hK => ?_); go_simp; (first | (with_reducible refine hK _ ?_) | (with_reducible refine ⟨_, fun _ _ => rfl, hK _ ?_⟩)); clear hK K
              refine wpQuiet_step (fun K hK => ?_); go_simp; (first | (with_reducible refine hK _ ?_) | (with_reducible refine ⟨_, fun _ _ => rfl, hK _ ?_⟩)); clear hK K
              refine wpQuiet_step (fun K hK => ?_); refine q_bin _ _ _ _ _ rfl rfl rfl rfl (quon9 HQ2.out HMB.out) ?_; go_simp; (with_reducible refine hK _ ?_); clear hK K
              refine wpQuiet_step (fun K hK => ?_); refine q_bin _ _ _ _ _ rfl rfl rfl rfl (remn9 HP2.out) ?_; go_simp; (with_reducible refine hK _ ?_); clear hK K
              refine wpQuiet_step (fun K hK => ?_); go_simp; (first | (with_reducible refine hK _ ?_) | (with_reducible refine ⟨_, fun _ _ => rfl, hK _ ?_⟩)); clear hK K
              refine wpQuiet_step (fun K hK => ?_); refine q_load (p := .pointer (some ⟨g, p2 * 5, none⟩)) 25 _ rfl rfl rfl (LD2.out) ?_; go_simp; (with_reducible refine hK _ ?_); clear hK K
              refine wpQuiet_step (fun K hK => ?_); go_simp; (with_reducible refine ⟨_, fun wq hb => (K2.out wq hb).mono fun _ _ h => ⟨h.1, hb.trans (h.2.mono (by simpa using hb.size))⟩, hK _ ?_⟩); clear hK K
              refine wpQuiet_step (fun K hK => ?_); go_simp; (first | (with_reducible refine hK _ ?_) | (with_reducible refine ⟨_, fun _ _ => rfl, hK _ ?_⟩)); clear hK K
              refine wpQuiet_step (fun K hK => ?_); go_simp; (first | (with_reducible refine hK _ ?_) | (with_reducible refine ⟨_, fun _ _ => rfl, hK _ ?_⟩)); clear hK K
              refine wpQuiet_step (fun K hK => ?_); go_simp; (first | (with_reducible refine hK _ ?_) | (with_reducible refine ⟨_, fun _ _ => rfl, hK _ ?_⟩)); clear hK K
              refine wpQuiet_step (fun K hK => ?_); go_simp; (first | (with_reducible refine hK _ ?_) | (with_reducible refine ⟨_, fun _ _ => rfl, hK _ ?_⟩)); clear hK K
              refine wpQuiet_step (fun K hK => ?_); go_simp; (first | (with_reducible refine hK _ ?_) | (with_reducible refine ⟨_, fun _ _ => rfl, hK _ ?_⟩)); clear hK K
              refine wpQuiet_step (fun K hK => ?_); go_simp; (with_reducible refine ⟨_, fun wq hb => (K3.out wq hb).mono fun _ _ h => ⟨h.1, hb.trans (h.2.mono (by simpa using hb.size))⟩, hK _ ?_⟩); clear hK K
              refine wpQuiet_step (fun K hK => ?_); go_simp; (first | (with_reducible refine hK _ ?_) | (with_reducible refine ⟨_, fun _ _ => rfl, hK _ ?_⟩)); clear hK K
              refine wpQuiet_step (fun K hK => ?_); go_simp; (first | (with_reducible refine hK _ ?_) | (with_reducible refine ⟨_, fun _ _ => rfl, hK _ ?_⟩)); clear hK K
              refine wpQuiet_step (fun K hK => ?_); go_simp; (first | (with_reducible refine hK _ ?_) | (with_reducible refine ⟨_, fun _ _ => rfl, hK _ ?_⟩)); clear hK K
              refine wpQuiet_step (fun K hK => ?_); go_simp; (first | (with_reducible refine hK _ ?_) | (with_reducible refine ⟨_, fun _ _ => rfl, hK _ ?_⟩)); clear hK K
              refine wpQuiet_step (fun K hK => ?_); go_simp; (first | (with_reducible refine hK _ ?_) | (with_reducible refine ⟨_, fun _ _ => rfl, hK _ ?_⟩)); clear hK K
              refine wpQuiet_step (fun K hK => ?_); go_simp; (first | (with_reducible refine hK _ ?_) | (with_reducible refine ⟨_, fun _ _ => rfl, hK _ ?_⟩)); clear hK K
              refine wpQuiet_step (fun K hK => ?_); go_simp; (first | (with_reducible refine hK _ ?_) | (with_reducible refine ⟨_, fun _ _ => rfl, hK _ ?_⟩)); clear hK K
              refine wpQuiet_step (fun K hK => ?_); refine q_bin _ _ _ _ _ rfl rfl rfl rfl (remn9 HP1.out) ?_; go_simp; (with_reducible refine hK _ ?_); clear hK K
              refine wpQuiet_step (fun K hK => ?_); go_simp; (first | (with_reducible refine hK _ ?_) | (with_reducible refine ⟨_, fun _ _ => rfl, hK _ ?_⟩)); clear hK K
              refine wpQuiet_step (fun K hK => ?_); go_simp; (first | (with_reducible refine hK _ ?_) | (with_reducible refine ⟨_, fun _ _ => rfl, hK _ ?_⟩)); clear hK K
              refine wpQuiet_step (fun K hK => ?_); go_simp; (first | (with_reducible refine hK _ ?_) | (with_reducible refine ⟨_, fun _ _ => rfl, hK _ ?_⟩)); clear hK K
              refine wpQuiet_step (fun K hK => ?_); refine q_bin _ _ _ _ _ rfl rfl rfl rfl (quon5 HQ3.out HMB.out) ?_; go_simp; (with_reducible refine hK _ ?_); clear hK K
              refine wpQuiet_step (fun K hK => ?_); refine q_bin _ _ _ _ _ rfl rfl rfl rfl (remn9 HP3.out) ?_; go_simp; (with_reducible refine hK _ ?_); clear hK K
              refine wpQuiet_step (fun K hK => ?_); go_simp; (first | (with_reducible refine hK _ ?_) | (with_reducible refine ⟨_, fun _ _ => rfl, hK _ ?_⟩)); clear hK K
              refine wpQuiet_step (fun K hK => ?_); refine q_load (p := .pointer (some ⟨g, p3 * 5, none⟩)) 25 _ rfl rfl rfl (LD3.out) ?_; go_simp; (with_reducible refine hK _ ?_); clear hK K
              refine wpQuiet_step (fun K hK => ?_); go_simp; (with_reducible refine ⟨_, fun wq hb => (K4.out wq hb).mono fun _ _ h => ⟨h.1, hb.trans (h.2.mono (by simpa using hb.size))⟩, hK _ ?_⟩); clear hK K
              refine wpQuiet_step (fun K hK => ?_); go_simp; (first | (with_reducible refine hK _ ?_) | (with_reducible refine ⟨_, fun _ _ => rfl, hK _ ?_⟩)); clear hK K
              refine wpQuiet_step (fun K hK => ?_); go_simp; (first | (with_reducible refine hK _ ?_) | (with_reducible refine ⟨_, fun _ _ => rfl, hK _ ?_⟩)); clear hK K
              refine wpQuiet_nil ?_
              intro w4 hb4
              have HB4 := Lib.hid hb4; clear hb4 K1 K2 K3 K4
              have kk := antichainOf.refOfW (HS4.out.below HB4.out) (by have := HXY.out; omega)
              have KK := Lib.hid kk; clear kk
              go_wp2_with fail
              refine (KK.out).mono ?_; rintro e w5 ⟨⟨Af, cf, rfl, hsf, -⟩, hb5⟩
              have kk := antichainOf.refOfW (HS5.out.below (HB4.out.trans (hb5.mono HB4.out.size))) (by have := HXY.out; omega)
              obtain ⟨fl, hfl⟩ : ∃ fl, ifS (decide (Even xs)) (ofS xs) = fl := ⟨_, rfl⟩
              rw [hfl] at hsf ⊢
              have KK2 := Lib.hid kk; have HB5 := Lib.hid (HB4.out.trans (hb5.mono HB4.out.size)); have HB55 := Lib.hid hb5; have HSF := Lib.hid hsf; clear kk hsf hb5 KK hfl
              obtain ⟨er, her⟩ : ∃ er, errS (decide (Even xs)) = er := ⟨_, rfl⟩
              rw [her]
              clear her
              dsimp only
              go_wp2_with fail
              refine (KK2.out).mono ?_; rintro e w6 ⟨⟨Ag, cg, rfl, hsg, -⟩, hb6⟩
              obtain ⟨gl, hgl⟩ : ∃ gl, ifS (decide (Even ys)) (ofS ys) = gl := ⟨_, rfl⟩
              rw [hgl] at hsg ⊢
              obtain ⟨er2, her⟩ : ∃ er, errS (decide (Even ys)) = er := ⟨_, rfl⟩
              rw [her]
              have hsf := HSF.out.below hb6
              have HB6 := Lib.hid (HB5.out.trans (hb6.mono HB5.out.size))
              clear hb6 KK2 hgl her HSF HB5 HB55 HB4
              have hn : ∀ W, Slc W none 0 [] := fun W => ⟨Ts.nil, by simp, by simp, fun _ => rfl⟩
              have K1 := Lib.hid (fun w' (hw : Below w6.heap.size w6 w') => antichainTwo.walk Af Ag fl gl cf cg w' (hsf.below hw) (hsg.below hw))
              have K2 := Lib.hid (fun w' (hw : Below w6.heap.size w6 w') => antichainTwo.walk Af none fl [] cf 0 w' (hsf.below hw) (hn _))
              have K3 := Lib.hid (fun w' (hw : Below w6.heap.size w6 w') => antichainTwo.walk none Ag [] gl 0 cg w' (hn _) (hsg.below hw))
              have K4 := Lib.hid (fun w' (hw : Below w6.heap.size w6 w') => antichainHolds.walk Af fl cf t1 t0 w' (hsf.below hw))
              have L1 := Lib.hid (fun w' (hw : Below w6.heap.size w6 w') => LD1.out w' (HB6.out.trans (hw.mono HB6.out.size)))
              have L0 := Lib.hid (fun w' (hw : Below w6.heap.size w6 w') => LD0.out w' (HB6.out.trans (hw.mono HB6.out.size)))
              clear hsf hsg hn LD1 LD2 LD3 LD0
              unfold St.val at *
              dsimp only
              go_wp2_with fail
              refine wp_region_below (by kernel_rfl) (by kernel_rfl) ?_
              refine wpQuiet_step (fun K hK => ?_); go_simp; (first | (with_reducible refine hK _ ?_) | (with_reducible refine ⟨_, fun _ _ => rfl, hK _ ?_⟩)); clear hK K
              refine wpQuiet_step (fun K hK => ?_); go_simp; (first | (with_reducible refine hK _ ?_) | (with_reducible refine ⟨_, fun _ _ => rfl, hK _ ?_⟩)); clear hK K
              refine wpQuiet_step (fun K hK => ?_); go_simp; (with_reducible refine ⟨_, fun wq hb => (K1.out wq hb).mono fun _ _ h => ⟨h.1, hb.trans (h.2.mono (by simpa using hb.size))⟩, hK _ ?_⟩); clear hK K
              refine wpQuiet_step (fun K hK => ?_); go_simp; (first | (with_reducible refine hK _ ?_) | (with_reducible refine ⟨_, fun _ _ => rfl, hK _ ?_⟩)); clear hK K
              refine wpQuiet_step (fun K hK => ?_); go_simp; (first | (with_reducible refine hK _ ?_) | (with_reducible refine ⟨_, fun _ _ => rfl, hK _ ?_⟩)); clear hK K
              refine wpQuiet_step (fun K hK => ?_); go_simp; (first | (with_reducible refine hK _ ?_) | (with_reducible refine ⟨_, fun _ _ => rfl, hK _ ?_⟩)); clear hK K
              refine wpQuiet_step (fun K hK => ?_); go_simp; (with_reducible refine ⟨_, fun wq hb => (K2.out wq hb).mono fun _ _ h => ⟨h.1, hb.trans (h.2.mono (by simpa using hb.size))⟩, hK _ ?_⟩); clear hK K
              refine wpQuiet_step (fun K hK => ?_); go_simp; (first | (with_reducible refine hK _ ?_) | (with_reducible refine ⟨_, fun _ _ => rfl, hK _ ?_⟩)); clear hK K
              refine wpQuiet_step (fun K hK => ?_); go_simp; (first | (with_reducible refine hK _ ?_) | (with_reducible refine ⟨_, fun _ _ => rfl, hK _ ?_⟩)); clear hK K
              refine wpQuiet_step (fun K hK => ?_); go_simp; (first | (with_reducible refine hK _ ?_) | (with_reducible refine ⟨_, fun _ _ => rfl, hK _ ?_⟩)); clear hK K
              refine wpQuiet_step (fun K hK => ?_); go_simp; (first | (with_reducible refine hK _ ?_) | (with_reducible refine ⟨_, fun _ _ => rfl, hK _ ?_⟩)); clear hK K
              refine wpQuiet_step (fun K hK => ?_); go_simp; (with_reducible refine ⟨_, fun wq hb => (K3.out wq hb).mono fun _ _ h => ⟨h.1, hb.trans (h.2.mono (by simpa using hb.size))⟩, hK _ ?_⟩); clear hK K
              refine wpQuiet_step (fun K hK => ?_); go_simp; (first | (with_reducible refine hK _ ?_) | (with_reducible refine ⟨_, fun _ _ => rfl, hK _ ?_⟩)); clear hK K
              refine wpQuiet_step (fun K hK => ?_); go_simp; (first | (with_reducible refine hK _ ?_) | (with_reducible refine ⟨_, fun _ _ => rfl, hK _ ?_⟩)); clear hK K
              refine wpQuiet_step (fun K hK => ?_); go_simp; (first | (with_reducible refine hK _ ?_) | (with_reducible refine ⟨_, fun _ _ => rfl, hK _ ?_⟩)); clear hK K
              refine wpQuiet_step (fun K hK => ?_); go_simp; (first | (with_reducible refine hK _ ?_) | (with_reducible refine ⟨_, fun _ _ => rfl, hK _ ?_⟩)); clear hK K
              refine wpQuiet_step (fun K hK => ?_); go_simp; (first | (with_reducible refine hK _ ?_) | (with_reducible refine ⟨_, fun _ _ => rfl, hK _ ?_⟩)); clear hK K
              refine wpQuiet_step (fun K hK => ?_); go_simp; (first | (with_reducible refine hK _ ?_) | (with_reducible refine ⟨_, fun _ _ => rfl, hK _ ?_⟩)); clear hK K
              refine wpQuiet_step (fun K hK => ?_); refine q_bin _ _ _ _ _ rfl rfl rfl rfl (remn9 HP1.out) ?_; go_simp; (with_reducible refine hK _ ?_); clear hK K
              refine wpQuiet_step (fun K hK => ?_); go_simp; (first | (with_reducible refine hK _ ?_) | (with_reducible refine ⟨_, fun _ _ => rfl, hK _ ?_⟩)); clear hK K
              refine wpQuiet_step (fun K hK => ?_); refine q_load (p := .pointer (some ⟨g, p1 * 5, none⟩)) 25 _ rfl rfl rfl (L1.out) ?_; go_simp; (with_reducible refine hK _ ?_); clear hK K
              refine wpQuiet_step (fun K hK => ?_); go_simp; (first | (with_reducible refine hK _ ?_) | (with_reducible refine ⟨_, fun _ _ => rfl, hK _ ?_⟩)); clear hK K
              refine wpQuiet_step (fun K hK => ?_); go_simp; (first | (with_reducible refine hK _ ?_) | (with_reducible refine ⟨_, fun _ _ => rfl, hK _ ?_⟩)); clear hK K
              refine wpQuiet_step (fun K hK => ?_); refine q_load (p := .pointer (some ⟨g, 0, none⟩)) 25 _ rfl rfl rfl (L0.out) ?_; go_simp; (with_reducible refine hK _ ?_); clear hK K
              refine wpQuiet_step (fun K hK => ?_); go_simp; (with_reducible refine ⟨_, fun wq hb => (K4.out wq hb).mono fun _ _ h => ⟨h.1, hb.trans (h.2.mono (by simpa using hb.size))⟩, hK _ ?_⟩); clear hK K
              refine wpQuiet_step (fun K hK => ?_); go_simp; (first | (with_reducible refine hK _ ?_) | (with_reducible refine ⟨_, fun _ _ => rfl, hK _ ?_⟩)); clear hK K
              refine wpQuiet_step (fun K hK => ?_); go_simp; (first | (with_reducible refine hK _ ?_) | (with_reducible refine ⟨_, fun _ _ => rfl, hK _ ?_⟩)); clear hK K
              refine wpQuiet_nil ?_
              intro w7 hb7
              have HB7 := Lib.hid (HBX.out.trans ((HB6.out.trans (hb7.mono HB6.out.size)).mono HBX.out.size)); clear hb7 K1 K2 K3 K4 L1 L0
              go_wp2_with fail
              go_roundw
              case rel => exact ⟨k + 1, by omega, by have := HM.out; simp; omega, HB7.out⟩
              case measure => have := HM.out; simp only [intOf]; omega
        · have hltz : ¬ ((3 * k : Nat) : Int) < 512 := by omega
          have HB2 := Lib.hid hb2; clear hb2 hlt hk
          go_wp2_with fail
          have hsb : Slc (wr.alloc (.cells (rowS badL).toArray 25)) (some ⟨wr.heap.size, 0, none⟩) 4 badL := ⟨Ts.of (Times.made wr badL), by decide, by unfold maxLen; omega, fun h => by cases h⟩
          have hbb := HB2.out.alloc HB2.out.size (.cells (rowS badL).toArray 25)
          have HSB := Lib.hid hsb; have HBB := Lib.hid hbb
          obtain ⟨wb, hwb⟩ : ∃ wb, wr.alloc (.cells (rowS badL).toArray 25) = wb := ⟨_, rfl⟩
          have hwb2 : wr.alloc (.cells #[.int .i64 4, .int .i64 0, .int .i64 0, .int .i64 0, .int .i64 0, .int .i64 0, .int .i64 (-1), .int .i64 0, .int .i64 0, .int .i64 0, .int .i64 1, .int .i64 1, .int .i64 0, .int .i64 0, .int .i64 0, .int .i64 0, .int .i64 0, .int .i64 0, .int .i64 0, .int .i64 0] 25) = wb := hwb
          rw [hwb] at HSB HBB
          rw [hwb2]
          obtain ⟨gb, hgb⟩ : ∃ gb, wr.heap.size = gb := ⟨_, rfl⟩
          rw [hgb] at HSB ⊢
          clear hsb hbb hwb hwb2 hgb HB2
          go_loopw [12] (fun i wr => ∃ k : Nat, k ≤ 4 ∧ i = .int .i64 k ∧ Below wb.heap.size wb wr) (fun i _ => 4 - (intOf i).toNat)
          case atStart => exact ⟨0, by omega, rfl, Below.refl _ _⟩
          case round =>
            obtain ⟨k, hk, rfl, hb4⟩ := hrel
            have HB4 := Lib.hid hb4; clear hb4
            by_cases hlt : k < 4
            · have hltz : (k : Int) < 4 := by omega
              obtain ⟨t, ht⟩ : ∃ t, badL[k]? = some t := ⟨_, List.getElem?_eq_getElem (by show k < 4; exact hlt)⟩
              obtain ⟨t0, ht0⟩ : ∃ t0, X[0]? = some t0 := ⟨_, List.getElem?_eq_getElem (by have := H9.out; omega)⟩
              obtain ⟨t4, ht4⟩ : ∃ t4, X[4]? = some t4 := ⟨_, List.getElem?_eq_getElem (by have := H9.out; omega)⟩
              have hsb := HSB.out.below HB4.out
              have hsx := HS.out.below (HBB.out.trans (HB4.out.mono HBB.out.size))
              have hc9 : 9 ≤ c := by have := hsx.le; have := H9.out; omega
              have hdl : (badL.drop k).length = 4 - k := by rw [List.length_drop]; rfl
              have hsd : Slc wr (some ⟨gb, k * 5, none⟩) (4 - k) (badL.drop k) := by
                refine ⟨?_, by rw [hdl]; exact Nat.le_refl _, by unfold maxLen; omega, fun h => by cases h⟩
                have := hsb.ts.drop k
                rwa [Nat.zero_add] at this
              have hs1 : Slc wr (some ⟨gb, k * 5, none⟩) (4 - k) [t] := by
                have hh := hsd.ts.take 1
                rw [show (badL.drop k).take 1 = [t] by rw [List.take_one]; simp [ht]] at hh
                exact ⟨hh, by simp; omega, hsd.max, fun h => by cases h⟩
              have hx1 : Slc wr (some ⟨g, 20, none⟩) (c - 4) [t4] := by
                have hh := (hsx.ts.drop 4).take 1
                rw [show (X.drop 4).take 1 = [t4] by rw [List.take_one]; simp [ht4], Nat.zero_add] at hh
                exact ⟨hh, by simp; omega, by have := hsx.max; omega, fun h => by cases h⟩
              have hn : ∀ W, Slc W none 0 [] := fun W => ⟨Ts.nil, by simp, by simp, fun _ => rfl⟩
              have kk := fun w' (hw : Below wr.heap.size wr w') => antichainOf.walk (some ⟨gb, k * 5, none⟩) (badL.drop k) (4 - k) w' (hsd.below hw)
              rw [hdl] at kk
              have K1 := Lib.hid kk
              have K2 := Lib.hid (fun w' (hw : Below wr.heap.size wr w') => antichainHolds.walk (some ⟨g, 20, none⟩) [t4] (c - 4) t t0 w' (hx1.below hw))
              have K3 := Lib.hid (fun w' (hw : Below wr.heap.size wr w') => antichainTwo.walk (some ⟨g, 20, none⟩) (some ⟨gb, k * 5, none⟩) [t4] [t] (c - 4) (4 - k) w' (hx1.below hw) (hs1.below hw))
              have K4 := Lib.hid (fun w' (hw : Below wr.heap.size wr w') => antichainHolds.walk none [] 0 t t0 w' (hn _))
              have K5 := Lib.hid (fun w' (hw : Below wr.heap.size wr w') => antichainTwo.walk (some ⟨gb, k * 5, none⟩) none [t] [] (4 - k) 0 w' (hs1.below hw) (hn _))
              have L0 := Lib.hid (load_nine hsx.ts ht0); have LT := Lib.hid (load_nine hsb.ts ht)
              have HK4 := Lib.hid hlt
              have l1 : (k : Int) ≤ 4 := by omega
              have l2 : ¬ 4 = k := by omega
              have l3 : ¬ c = 4 := by omega
              have l4 : (5 : Int) ≤ (c : Int) := by omega
              have l5 : ((k + 1 : Nat) : Int) ≤ 4 := by omega
              have l7 : 0 ≤ (k : Int) + 1 := by omega
              have l8 : (k : Int) + 1 ≤ 4 := by omega
              have l6 : (k : Int) ≤ ((k + 1 : Nat) : Int) := by omega
              clear kk hsb hsx hsd hs1 hx1 hn ht ht0 ht4 hdl
              unfold St.val at *
              go_wp2_with fail
              refine Free.wp_key (by kernel_rfl) (by kernel_rfl) (FK13 wr t0 t) (VK6 g c gb k t0 t) (fun vs => ⟨(Below.refl _ _).drew, fun h => absurd h (by decide)⟩) ?_ ?_
              · intro i o hi b vs a wa hold hpre hbi hF
                match i with
                | 0 =>
                  cases hi
                  exact Free.c_all rfl (Free.g_move _ rfl ⟨((hold 11 (by decide)).trans rfl), FKkeep hF (Below.refl _ _) (by decide)⟩)
                | 1 =>
                  cases hi
                  exact Free.c_all rfl (Free.g_move _ rfl ⟨((hold 12 (by decide)).trans rfl), FKkeep hF (Below.refl _ _) (by decide)⟩)
                | 2 =>
                  cases hi
                  have h0 : a.eval (.tmp 150) = .slice (some ⟨gb, 0, none⟩) 4 4 := (hpre 0 _ _ (by kernel_rfl) rfl rfl).2.2
                  have h3 : a.eval (.tmp 151) = .int .i64 ((k : Nat) : Int) := (hpre 1 _ _ (by kernel_rfl) rfl rfl).2.2
                  have hb3 : a.tmps[151]?.getD undef = .int .i64 ((k : Nat) : Int) := by simpa [Act.eval] using (show a.eval (.tmp 151) = .int .i64 ((k : Nat) : Int) from h3)
                  refine Free.c_all rfl ?_
                  unfold execOp
                  simp only [h0]
                  go_simp
                  exact ⟨rfl, FKkeep hF (Below.refl _ _) (by decide)⟩
                | 3 =>
                  cases hi
                  have h0 : a.eval (.tmp 152) = .slice (some ⟨gb, k * 5, none⟩) (4 - k) (4 - k) := (hpre 2 _ _ (by kernel_rfl) rfl rfl).2.2
                  refine Free.c_all rfl (Free.g_call _ _ rfl Try.func26 (by kernel_rfl) rfl [.slice (some ⟨gb, k * 5, none⟩) (4 - k) (4 - k)] (by show [a.eval (.tmp 152)] = _; rw [h0]) ?_)
                  exact (K1.out wa hF.1).mono fun e w2 ⟨he, hb2⟩ => ⟨_, he, rfl, FKkeep hF hb2 (by decide)⟩
                | 4 =>
                  cases hi
                  have h0 : a.eval (.tmp 153) = .bool true := (hpre 3 _ _ (by kernel_rfl) rfl rfl).2.2
                  exact Free.c_all rfl (g_not6 _ _ rfl h0 ⟨rfl, FKkeep hF (Below.refl _ _) (by decide)⟩)
                | 5 =>
                  cases hi
                  have h0 : a.eval (.tmp 154) = .bool false := (hpre 4 _ _ (by kernel_rfl) rfl rfl).2.2
                  exact Free.c_all rfl (Free.g_move _ rfl ⟨h0, FKkeep hF (Below.refl _ _) (by decide)⟩)
                | 6 =>
                  cases hi
                  have hg : a.eval (.tmp 155) = .bool false := (hpre 5 _ _ (by kernel_rfl) rfl rfl).2.2
                  exact Free.c_yes rfl rfl rfl hg (Free.g_move _ rfl ⟨((hold 1 (by decide)).trans rfl), FKkeep hF (Below.refl _ _) (by decide)⟩)
                | 7 =>
                  cases hi
                  have hg : a.eval (.tmp 155) = .bool false := (hpre 5 _ _ (by kernel_rfl) rfl rfl).2.2
                  have h1 : a.eval (.tmp 156) = .slice (some ⟨g, 0, none⟩) 9 c := (hpre 6 _ _ (by kernel_rfl) rfl rfl).2.2
                  exact Free.c_yes rfl rfl rfl hg (Free.g_indexAddr (v := .pointer (some ⟨g, 0, none⟩)) _ _ _ rfl h1 rfl (by go_simp) ⟨rfl, FKkeep hF (Below.refl _ _) (by decide)⟩)
                | 8 =>
                  cases hi
                  have hg : a.eval (.tmp 155) = .bool false := (hpre 5 _ _ (by kernel_rfl) rfl rfl).2.2
                  have h0 : a.eval (.tmp 157) = .pointer (some ⟨g, 0, none⟩) := (hpre 7 _ _ (by kernel_rfl) rfl rfl).2.2
                  exact Free.c_yes rfl rfl rfl hg (Free.g_load _ _ rfl h0 (L0.out wa hF.1) ⟨rfl, FKkeep hF (Below.refl _ _) (by decide)⟩)
                | 9 =>
                  cases hi
                  have hg : a.eval (.tmp 155) = .bool false := (hpre 5 _ _ (by kernel_rfl) rfl rfl).2.2
                  exact Free.c_yes rfl rfl rfl hg (Free.g_move _ rfl ⟨((hold 11 (by decide)).trans rfl), FKkeep hF (Below.refl _ _) (by decide)⟩)
                | 10 =>
                  cases hi
                  have hg : a.eval (.tmp 155) = .bool false := (hpre 5 _ _ (by kernel_rfl) rfl rfl).2.2
                  exact Free.c_yes rfl rfl rfl hg (Free.g_move _ rfl ⟨((hold 12 (by decide)).trans rfl), FKkeep hF (Below.refl _ _) (by decide)⟩)
                | 11 =>
                  cases hi
                  have hg : a.eval (.tmp 155) = .bool false := (hpre 5 _ _ (by kernel_rfl) rfl rfl).2.2
                  have h1 : a.eval (.tmp 159) = .slice (some ⟨gb, 0, none⟩) 4 4 := (hpre 9 _ _ (by kernel_rfl) rfl rfl).2.2
                  have h2 : a.eval (.tmp 160) = .int .i64 ((k : Nat) : Int) := (hpre 10 _ _ (by kernel_rfl) rfl rfl).2.2
                  exact Free.c_yes rfl rfl rfl hg (Free.g_indexAddr (v := .pointer (some ⟨gb, k * 5, none⟩)) _ _ _ rfl h1 h2 (by go_simp) ⟨rfl, FKkeep hF (Below.refl _ _) (by decide)⟩)
                | 12 =>
                  cases hi
                  have hg : a.eval (.tmp 155) = .bool false := (hpre 5 _ _ (by kernel_rfl) rfl rfl).2.2
                  have h0 : a.eval (.tmp 161) = .pointer (some ⟨gb, k * 5, none⟩) := (hpre 11 _ _ (by kernel_rfl) rfl rfl).2.2
                  exact Free.c_yes rfl rfl rfl hg (Free.g_load _ _ rfl h0 (LT.out wa hF.1) ⟨rfl, FKkeep hF (Below.refl _ _) (by decide)⟩)
                | 13 =>
                  cases hi
                  have hg : a.eval (.tmp 155) = .bool false := (hpre 5 _ _ (by kernel_rfl) rfl rfl).2.2
                  have h1 : a.eval (.tmp 158) = .agg #[.int .i64 t0.d, .int .i64 t0.e, .int .i64 t0.x, .int .i64 t0.y, .int .i64 t0.z] := ((hpre 8 _ _ (by kernel_rfl) rfl rfl).2.2)
                  have h2 : a.eval (.tmp 162) = .agg #[.int .i64 t.d, .int .i64 t.e, .int .i64 t.x, .int .i64 t.y, .int .i64 t.z] := ((hpre 12 _ _ (by kernel_rfl) rfl rfl).2.2)
                  exact Free.c_yes rfl rfl rfl hg (g_build2 158 162 t0 t rfl h1 h2 ⟨⟨_, rfl⟩, FKmade hF⟩)
                | 14 =>
                  cases hi
                  have hg : a.eval (.tmp 155) = .bool false := (hpre 5 _ _ (by kernel_rfl) rfl rfl).2.2
                  obtain ⟨hb13, he13, -⟩ := hpre  13 _ _ (by kernel_rfl) rfl rfl
                  obtain ⟨g2, e2, hT2⟩ := hF.2 hb13
                  refine Free.c_yes rfl rfl rfl hg (Free.g_call _ _ rfl Try.func26 (by kernel_rfl) rfl [.slice (some ⟨g2, 0, none⟩) 2 2] (by show [a.eval (.tmp 163)] = _; rw [he13, e2]) ?_)
                  exact (antichainOf.walk (some ⟨g2, 0, none⟩) [t0, t] 2 wa ⟨hT2, by simp, by unfold maxLen; omega, fun h => by cases h⟩).mono fun e w2 ⟨he, hb2⟩ => ⟨_, he, rfl, FKkeep hF hb2 (by decide)⟩
                | 15 =>
                  cases hi
                  have hg : a.eval (.tmp 155) = .bool false := (hpre 5 _ _ (by kernel_rfl) rfl rfl).2.2
                  have h0 : a.eval (.tmp 164) = .bool true := (hpre 14 _ _ (by kernel_rfl) rfl rfl).2.2
                  exact Free.c_yes rfl rfl rfl hg (g_not6 _ _ rfl h0 ⟨rfl, FKkeep hF (Below.refl _ _) (by decide)⟩)
                | 16 =>
                  cases hi
                  have h1 : a.eval (.tmp 155) = .bool false := (hpre 5 _ _ (by kernel_rfl) rfl rfl).2.2
                  have h3 : a.eval (.tmp 165) = .bool false := (hpre 15 _ _ (by kernel_rfl) rfl rfl).2.2
                  exact Free.c_all rfl (Free.g_pick _ _ _ rfl h1 rfl h3 ⟨rfl, FKkeep hF (Below.refl _ _) (by decide)⟩)
                | 17 =>
                  cases hi
                  have h0 : a.eval (.tmp 166) = .bool false := (hpre 16 _ _ (by kernel_rfl) rfl rfl).2.2
                  exact Free.c_all rfl (Free.g_move _ rfl ⟨h0, FKkeep hF (Below.refl _ _) (by decide)⟩)
                | 18 =>
                  cases hi
                  have hg : a.eval (.tmp 167) = .bool false := (hpre 17 _ _ (by kernel_rfl) rfl rfl).2.2
                  exact Free.c_yes rfl rfl rfl hg (Free.g_move _ rfl ⟨((hold 1 (by decide)).trans rfl), FKkeep hF (Below.refl _ _) (by decide)⟩)
                | 19 =>
                  cases hi
                  have hg : a.eval (.tmp 167) = .bool false := (hpre 17 _ _ (by kernel_rfl) rfl rfl).2.2
                  have h0 : a.eval (.tmp 168) = .slice (some ⟨g, 0, none⟩) 9 c := (hpre 18 _ _ (by kernel_rfl) rfl rfl).2.2
                  refine Free.c_yes rfl rfl rfl hg ?_
                  unfold execOp
                  simp only [h0]
                  go_simp
                  exact ⟨rfl, FKkeep hF (Below.refl _ _) (by decide)⟩
                | 20 =>
                  cases hi
                  have hg : a.eval (.tmp 167) = .bool false := (hpre 17 _ _ (by kernel_rfl) rfl rfl).2.2
                  exact Free.c_yes rfl rfl rfl hg (Free.g_move _ rfl ⟨((hold 11 (by decide)).trans rfl), FKkeep hF (Below.refl _ _) (by decide)⟩)
                | 21 =>
                  cases hi
                  have hg : a.eval (.tmp 167) = .bool false := (hpre 17 _ _ (by kernel_rfl) rfl rfl).2.2
                  exact Free.c_yes rfl rfl rfl hg (Free.g_move _ rfl ⟨((hold 12 (by decide)).trans rfl), FKkeep hF (Below.refl _ _) (by decide)⟩)
                | 22 =>
                  cases hi
                  have hg : a.eval (.tmp 167) = .bool false := (hpre 17 _ _ (by kernel_rfl) rfl rfl).2.2
                  have h1 : a.eval (.tmp 170) = .slice (some ⟨gb, 0, none⟩) 4 4 := (hpre 20 _ _ (by kernel_rfl) rfl rfl).2.2
                  have h2 : a.eval (.tmp 171) = .int .i64 ((k : Nat) : Int) := (hpre 21 _ _ (by kernel_rfl) rfl rfl).2.2
                  exact Free.c_yes rfl rfl rfl hg (Free.g_indexAddr (v := .pointer (some ⟨gb, k * 5, none⟩)) _ _ _ rfl h1 h2 (by go_simp) ⟨rfl, FKkeep hF (Below.refl _ _) (by decide)⟩)
                | 23 =>
                  cases hi
                  have hg : a.eval (.tmp 167) = .bool false := (hpre 17 _ _ (by kernel_rfl) rfl rfl).2.2
                  have h0 : a.eval (.tmp 172) = .pointer (some ⟨gb, k * 5, none⟩) := (hpre 22 _ _ (by kernel_rfl) rfl rfl).2.2
                  exact Free.c_yes rfl rfl rfl hg (Free.g_load _ _ rfl h0 (LT.out wa hF.1) ⟨rfl, FKkeep hF (Below.refl _ _) (by decide)⟩)
                | 24 =>
                  cases hi
                  have hg : a.eval (.tmp 167) = .bool false := (hpre 17 _ _ (by kernel_rfl) rfl rfl).2.2
                  exact Free.c_yes rfl rfl rfl hg (Free.g_move _ rfl ⟨((hold 1 (by decide)).trans rfl), FKkeep hF (Below.refl _ _) (by decide)⟩)
                | 25 =>
                  cases hi
                  have hg : a.eval (.tmp 167) = .bool false := (hpre 17 _ _ (by kernel_rfl) rfl rfl).2.2
                  have h1 : a.eval (.tmp 174) = .slice (some ⟨g, 0, none⟩) 9 c := (hpre 24 _ _ (by kernel_rfl) rfl rfl).2.2
                  exact Free.c_yes rfl rfl rfl hg (Free.g_indexAddr (v := .pointer (some ⟨g, 0, none⟩)) _ _ _ rfl h1 rfl (by go_simp) ⟨rfl, FKkeep hF (Below.refl _ _) (by decide)⟩)
                | 26 =>
                  cases hi
                  have hg : a.eval (.tmp 167) = .bool false := (hpre 17 _ _ (by kernel_rfl) rfl rfl).2.2
                  have h0 : a.eval (.tmp 175) = .pointer (some ⟨g, 0, none⟩) := (hpre 25 _ _ (by kernel_rfl) rfl rfl).2.2
                  exact Free.c_yes rfl rfl rfl hg (Free.g_load _ _ rfl h0 (L0.out wa hF.1) ⟨rfl, FKkeep hF (Below.refl _ _) (by decide)⟩)
                | 27 =>
                  cases hi
                  have hg : a.eval (.tmp 167) = .bool false := (hpre 17 _ _ (by kernel_rfl) rfl rfl).2.2
                  have h0 : a.eval (.tmp 169) = .slice (some ⟨g, 20, none⟩) 1 (c - 4) := (hpre 19 _ _ (by kernel_rfl) rfl rfl).2.2
                  have h1 : a.eval (.tmp 173) = .agg #[.int .i64 t.d, .int .i64 t.e, .int .i64 t.x, .int .i64 t.y, .int .i64 t.z] := (hpre 23 _ _ (by kernel_rfl) rfl rfl).2.2
                  have h2 : a.eval (.tmp 176) = .agg #[.int .i64 t0.d, .int .i64 t0.e, .int .i64 t0.x, .int .i64 t0.y, .int .i64 t0.z] := (hpre 26 _ _ (by kernel_rfl) rfl rfl).2.2
                  refine Free.c_yes rfl rfl rfl hg (Free.g_call _ _ rfl Try.func27 (by kernel_rfl) rfl [.slice (some ⟨g, 20, none⟩) 1 (c - 4), .agg #[.int .i64 t.d, .int .i64 t.e, .int .i64 t.x, .int .i64 t.y, .int .i64 t.z], .agg #[.int .i64 t0.d, .int .i64 t0.e, .int .i64 t0.x, .int .i64 t0.y, .int .i64 t0.z]] (by show [a.eval (.tmp 169), a.eval (.tmp 173), a.eval (.tmp 176)] = _; rw [h0, h1, h2]) ?_)
                  exact (K2.out wa hF.1).mono fun e w2 ⟨he, hb2⟩ => ⟨_, he, rfl, FKkeep hF hb2 (by decide)⟩
                | 28 =>
                  cases hi
                  have hg : a.eval (.tmp 167) = .bool false := (hpre 17 _ _ (by kernel_rfl) rfl rfl).2.2
                  have h0 : a.eval (.tmp 177) = .bool true := (hpre 27 _ _ (by kernel_rfl) rfl rfl).2.2
                  exact Free.c_yes rfl rfl rfl hg (g_not6 _ _ rfl h0 ⟨rfl, FKkeep hF (Below.refl _ _) (by decide)⟩)
                | 29 =>
                  cases hi
                  have h1 : a.eval (.tmp 167) = .bool false := (hpre 17 _ _ (by kernel_rfl) rfl rfl).2.2
                  have h3 : a.eval (.tmp 178) = .bool false := (hpre 28 _ _ (by kernel_rfl) rfl rfl).2.2
                  exact Free.c_all rfl (Free.g_pick _ _ _ rfl h1 rfl h3 ⟨rfl, FKkeep hF (Below.refl _ _) (by decide)⟩)
                | 30 =>
                  cases hi
                  have h0 : a.eval (.tmp 179) = .bool false := (hpre 29 _ _ (by kernel_rfl) rfl rfl).2.2
                  exact Free.c_all rfl (Free.g_move _ rfl ⟨h0, FKkeep hF (Below.refl _ _) (by decide)⟩)
                | 31 =>
                  cases hi
                  have hg : a.eval (.tmp 180) = .bool false := (hpre 30 _ _ (by kernel_rfl) rfl rfl).2.2
                  exact Free.c_yes rfl rfl rfl hg (Free.g_move _ rfl ⟨((hold 1 (by decide)).trans rfl), FKkeep hF (Below.refl _ _) (by decide)⟩)
                | 32 =>
                  cases hi
                  have hg : a.eval (.tmp 180) = .bool false := (hpre 30 _ _ (by kernel_rfl) rfl rfl).2.2
                  have h0 : a.eval (.tmp 181) = .slice (some ⟨g, 0, none⟩) 9 c := (hpre 31 _ _ (by kernel_rfl) rfl rfl).2.2
                  refine Free.c_yes rfl rfl rfl hg ?_
                  unfold execOp
                  simp only [h0]
                  go_simp
                  exact ⟨rfl, FKkeep hF (Below.refl _ _) (by decide)⟩
                | 33 =>
                  cases hi
                  have hg : a.eval (.tmp 180) = .bool false := (hpre 30 _ _ (by kernel_rfl) rfl rfl).2.2
                  exact Free.c_yes rfl rfl rfl hg (Free.g_move _ rfl ⟨((hold 11 (by decide)).trans rfl), FKkeep hF (Below.refl _ _) (by decide)⟩)
                | 34 =>
                  cases hi
                  have hg : a.eval (.tmp 180) = .bool false := (hpre 30 _ _ (by kernel_rfl) rfl rfl).2.2
                  exact Free.c_yes rfl rfl rfl hg (Free.g_move _ rfl ⟨((hold 12 (by decide)).trans rfl), FKkeep hF (Below.refl _ _) (by decide)⟩)
                | 35 =>
                  cases hi
                  have hg : a.eval (.tmp 180) = .bool false := (hpre 30 _ _ (by kernel_rfl) rfl rfl).2.2
                  exact Free.c_yes rfl rfl rfl hg (Free.g_move _ rfl ⟨((hold 12 (by decide)).trans rfl), FKkeep hF (Below.refl _ _) (by decide)⟩)
                | 36 =>
                  cases hi
                  have hg : a.eval (.tmp 180) = .bool false := (hpre 30 _ _ (by kernel_rfl) rfl rfl).2.2
                  have h2 : a.eval (.tmp 185) = .int .i64 ((k : Nat) : Int) := (hpre 35 _ _ (by kernel_rfl) rfl rfl).2.2
                  exact Free.c_yes rfl rfl rfl hg (Free.g_bin _ _ _ _ _ rfl h2 rfl (add_one HK4.out wa) ⟨rfl, FKkeep hF (Below.refl _ _) (by decide)⟩)
                | 37 =>
                  cases hi
                  have hg : a.eval (.tmp 180) = .bool false := (hpre 30 _ _ (by kernel_rfl) rfl rfl).2.2
                  have h0 : a.eval (.tmp 183) = .slice (some ⟨gb, 0, none⟩) 4 4 := (hpre 33 _ _ (by kernel_rfl) rfl rfl).2.2
                  have h3 : a.eval (.tmp 184) = .int .i64 ((k : Nat) : Int) := (hpre 34 _ _ (by kernel_rfl) rfl rfl).2.2
                  have hb3 : a.tmps[184]?.getD undef = .int .i64 ((k : Nat) : Int) := by simpa [Act.eval] using (show a.eval (.tmp 184) = .int .i64 ((k : Nat) : Int) from h3)
                  have h5 : a.eval (.tmp 186) = .int .i64 (((k + 1 : Nat)) : Int) := (hpre 36 _ _ (by kernel_rfl) rfl rfl).2.2
                  have hb5 : a.tmps[186]?.getD undef = .int .i64 (((k + 1 : Nat)) : Int) := by simpa [Act.eval] using (show a.eval (.tmp 186) = .int .i64 (((k + 1 : Nat)) : Int) from h5)
                  refine Free.c_yes rfl rfl rfl hg ?_
                  unfold execOp
                  simp only [h0]
                  go_simp
                  exact ⟨rfl, FKkeep hF (Below.refl _ _) (by decide)⟩
                | 38 =>
                  cases hi
                  have hg : a.eval (.tmp 180) = .bool false := (hpre 30 _ _ (by kernel_rfl) rfl rfl).2.2
                  have h0 : a.eval (.tmp 182) = .slice (some ⟨g, 20, none⟩) 1 (c - 4) := (hpre 32 _ _ (by kernel_rfl) rfl rfl).2.2
                  have h1 : a.eval (.tmp 187) = .slice (some ⟨gb, k * 5, none⟩) 1 (4 - k) := (hpre 37 _ _ (by kernel_rfl) rfl rfl).2.2
                  refine Free.c_yes rfl rfl rfl hg (Free.g_call _ _ rfl Try.func28 (by kernel_rfl) rfl [.slice (some ⟨g, 20, none⟩) 1 (c - 4), .slice (some ⟨gb, k * 5, none⟩) 1 (4 - k)] (by show [a.eval (.tmp 182), a.eval (.tmp 187)] = _; rw [h0, h1]) ?_)
                  exact (K3.out wa hF.1).mono fun e w2 ⟨he, hb2⟩ => ⟨_, he, rfl, FKkeep hF hb2 (by decide)⟩
                | 39 =>
                  cases hi
                  have hg : a.eval (.tmp 180) = .bool false := (hpre 30 _ _ (by kernel_rfl) rfl rfl).2.2
                  have h0 : a.eval (.tmp 188) = .bool true := (hpre 38 _ _ (by kernel_rfl) rfl rfl).2.2
                  exact Free.c_yes rfl rfl rfl hg (g_not6 _ _ rfl h0 ⟨rfl, FKkeep hF (Below.refl _ _) (by decide)⟩)
                | 40 =>
                  cases hi
                  have h1 : a.eval (.tmp 180) = .bool false := (hpre 30 _ _ (by kernel_rfl) rfl rfl).2.2
                  have h3 : a.eval (.tmp 189) = .bool false := (hpre 39 _ _ (by kernel_rfl) rfl rfl).2.2
                  exact Free.c_all rfl (Free.g_pick _ _ _ rfl h1 rfl h3 ⟨rfl, FKkeep hF (Below.refl _ _) (by decide)⟩)
                | 41 =>
                  cases hi
                  have h0 : a.eval (.tmp 190) = .bool false := (hpre 40 _ _ (by kernel_rfl) rfl rfl).2.2
                  exact Free.c_all rfl (Free.g_move _ rfl ⟨h0, FKkeep hF (Below.refl _ _) (by decide)⟩)
                | 42 =>
                  cases hi
                  have hg : a.eval (.tmp 191) = .bool false := (hpre 41 _ _ (by kernel_rfl) rfl rfl).2.2
                  exact Free.c_yes rfl rfl rfl hg (Free.g_move _ rfl ⟨((hold 11 (by decide)).trans rfl), FKkeep hF (Below.refl _ _) (by decide)⟩)
                | 43 =>
                  cases hi
                  have hg : a.eval (.tmp 191) = .bool false := (hpre 41 _ _ (by kernel_rfl) rfl rfl).2.2
                  exact Free.c_yes rfl rfl rfl hg (Free.g_move _ rfl ⟨((hold 12 (by decide)).trans rfl), FKkeep hF (Below.refl _ _) (by decide)⟩)
                | 44 =>
                  cases hi
                  have hg : a.eval (.tmp 191) = .bool false := (hpre 41 _ _ (by kernel_rfl) rfl rfl).2.2
                  have h1 : a.eval (.tmp 192) = .slice (some ⟨gb, 0, none⟩) 4 4 := (hpre 42 _ _ (by kernel_rfl) rfl rfl).2.2
                  have h2 : a.eval (.tmp 193) = .int .i64 ((k : Nat) : Int) := (hpre 43 _ _ (by kernel_rfl) rfl rfl).2.2
                  exact Free.c_yes rfl rfl rfl hg (Free.g_indexAddr (v := .pointer (some ⟨gb, k * 5, none⟩)) _ _ _ rfl h1 h2 (by go_simp) ⟨rfl, FKkeep hF (Below.refl _ _) (by decide)⟩)
                | 45 =>
                  cases hi
                  have hg : a.eval (.tmp 191) = .bool false := (hpre 41 _ _ (by kernel_rfl) rfl rfl).2.2
                  have h0 : a.eval (.tmp 194) = .pointer (some ⟨gb, k * 5, none⟩) := (hpre 44 _ _ (by kernel_rfl) rfl rfl).2.2
                  exact Free.c_yes rfl rfl rfl hg (Free.g_load _ _ rfl h0 (LT.out wa hF.1) ⟨rfl, FKkeep hF (Below.refl _ _) (by decide)⟩)
                | 46 =>
                  cases hi
                  have hg : a.eval (.tmp 191) = .bool false := (hpre 41 _ _ (by kernel_rfl) rfl rfl).2.2
                  exact Free.c_yes rfl rfl rfl hg (Free.g_move _ rfl ⟨((hold 1 (by decide)).trans rfl), FKkeep hF (Below.refl _ _) (by decide)⟩)
                | 47 =>
                  cases hi
                  have hg : a.eval (.tmp 191) = .bool false := (hpre 41 _ _ (by kernel_rfl) rfl rfl).2.2
                  have h1 : a.eval (.tmp 196) = .slice (some ⟨g, 0, none⟩) 9 c := (hpre 46 _ _ (by kernel_rfl) rfl rfl).2.2
                  exact Free.c_yes rfl rfl rfl hg (Free.g_indexAddr (v := .pointer (some ⟨g, 0, none⟩)) _ _ _ rfl h1 rfl (by go_simp) ⟨rfl, FKkeep hF (Below.refl _ _) (by decide)⟩)
                | 48 =>
                  cases hi
                  have hg : a.eval (.tmp 191) = .bool false := (hpre 41 _ _ (by kernel_rfl) rfl rfl).2.2
                  have h0 : a.eval (.tmp 197) = .pointer (some ⟨g, 0, none⟩) := (hpre 47 _ _ (by kernel_rfl) rfl rfl).2.2
                  exact Free.c_yes rfl rfl rfl hg (Free.g_load _ _ rfl h0 (L0.out wa hF.1) ⟨rfl, FKkeep hF (Below.refl _ _) (by decide)⟩)
                | 49 =>
                  cases hi
                  have hg : a.eval (.tmp 191) = .bool false := (hpre 41 _ _ (by kernel_rfl) rfl rfl).2.2
                  have h1 : a.eval (.tmp 195) = .agg #[.int .i64 t.d, .int .i64 t.e, .int .i64 t.x, .int .i64 t.y, .int .i64 t.z] := (hpre 45 _ _ (by kernel_rfl) rfl rfl).2.2
                  have h2 : a.eval (.tmp 198) = .agg #[.int .i64 t0.d, .int .i64 t0.e, .int .i64 t0.x, .int .i64 t0.y, .int .i64 t0.z] := (hpre 48 _ _ (by kernel_rfl) rfl rfl).2.2
                  refine Free.c_yes rfl rfl rfl hg (Free.g_call _ _ rfl Try.func27 (by kernel_rfl) rfl [.slice none 0 0, .agg #[.int .i64 t.d, .int .i64 t.e, .int .i64 t.x, .int .i64 t.y, .int .i64 t.z], .agg #[.int .i64 t0.d, .int .i64 t0.e, .int .i64 t0.x, .int .i64 t0.y, .int .i64 t0.z]] (by show [.slice none 0 0, a.eval (.tmp 195), a.eval (.tmp 198)] = _; rw [h1, h2]) ?_)
                  exact (K4.out wa hF.1).mono fun e w2 ⟨he, hb2⟩ => ⟨_, he, rfl, FKkeep hF hb2 (by decide)⟩
                | 50 =>
                  cases hi
                  have hg : a.eval (.tmp 191) = .bool false := (hpre 41 _ _ (by kernel_rfl) rfl rfl).2.2
                  have h0 : a.eval (.tmp 199) = .bool true := (hpre 49 _ _ (by kernel_rfl) rfl rfl).2.2
                  exact Free.c_yes rfl rfl rfl hg (g_not6 _ _ rfl h0 ⟨rfl, FKkeep hF (Below.refl _ _) (by decide)⟩)
                | 51 =>
                  cases hi
                  have h1 : a.eval (.tmp 191) = .bool false := (hpre 41 _ _ (by kernel_rfl) rfl rfl).2.2
                  have h3 : a.eval (.tmp 200) = .bool false := (hpre 50 _ _ (by kernel_rfl) rfl rfl).2.2
                  exact Free.c_all rfl (Free.g_pick _ _ _ rfl h1 rfl h3 ⟨rfl, FKkeep hF (Below.refl _ _) (by decide)⟩)
                | 52 =>
                  cases hi
                  have h0 : a.eval (.tmp 201) = .bool false := (hpre 51 _ _ (by kernel_rfl) rfl rfl).2.2
                  exact Free.c_all rfl (Free.g_move _ rfl ⟨h0, FKkeep hF (Below.refl _ _) (by decide)⟩)
                | 53 =>
                  cases hi
                  have hg : a.eval (.tmp 202) = .bool false := (hpre 52 _ _ (by kernel_rfl) rfl rfl).2.2
                  exact Free.c_yes rfl rfl rfl hg (Free.g_move _ rfl ⟨((hold 11 (by decide)).trans rfl), FKkeep hF (Below.refl _ _) (by decide)⟩)
                | 54 =>
                  cases hi
                  have hg : a.eval (.tmp 202) = .bool false := (hpre 52 _ _ (by kernel_rfl) rfl rfl).2.2
                  exact Free.c_yes rfl rfl rfl hg (Free.g_move _ rfl ⟨((hold 12 (by decide)).trans rfl), FKkeep hF (Below.refl _ _) (by decide)⟩)
                | 55 =>
                  cases hi
                  have hg : a.eval (.tmp 202) = .bool false := (hpre 52 _ _ (by kernel_rfl) rfl rfl).2.2
                  exact Free.c_yes rfl rfl rfl hg (Free.g_move _ rfl ⟨((hold 12 (by decide)).trans rfl), FKkeep hF (Below.refl _ _) (by decide)⟩)
                | 56 =>
                  cases hi
                  have hg : a.eval (.tmp 202) = .bool false := (hpre 52 _ _ (by kernel_rfl) rfl rfl).2.2
                  have h2 : a.eval (.tmp 205) = .int .i64 ((k : Nat) : Int) := (hpre 55 _ _ (by kernel_rfl) rfl rfl).2.2
                  exact Free.c_yes rfl rfl rfl hg (Free.g_bin _ _ _ _ _ rfl h2 rfl (add_one HK4.out wa) ⟨rfl, FKkeep hF (Below.refl _ _) (by decide)⟩)
                | 57 =>
                  cases hi
                  have hg : a.eval (.tmp 202) = .bool false := (hpre 52 _ _ (by kernel_rfl) rfl rfl).2.2
                  have h0 : a.eval (.tmp 203) = .slice (some ⟨gb, 0, none⟩) 4 4 := (hpre 53 _ _ (by kernel_rfl) rfl rfl).2.2
                  have h3 : a.eval (.tmp 204) = .int .i64 ((k : Nat) : Int) := (hpre 54 _ _ (by kernel_rfl) rfl rfl).2.2
                  have hb3 : a.tmps[204]?.getD undef = .int .i64 ((k : Nat) : Int) := by simpa [Act.eval] using (show a.eval (.tmp 204) = .int .i64 ((k : Nat) : Int) from h3)
                  have h5 : a.eval (.tmp 206) = .int .i64 (((k + 1 : Nat)) : Int) := (hpre 56 _ _ (by kernel_rfl) rfl rfl).2.2
                  have hb5 : a.tmps[206]?.getD undef = .int .i64 (((k + 1 : Nat)) : Int) := by simpa [Act.eval] using (show a.eval (.tmp 206) = .int .i64 (((k + 1 : Nat)) : Int) from h5)
                  refine Free.c_yes rfl rfl rfl hg ?_
                  unfold execOp
                  simp only [h0]
                  go_simp
                  exact ⟨rfl, FKkeep hF (Below.refl _ _) (by decide)⟩
                | 58 =>
                  cases hi
                  have hg : a.eval (.tmp 202) = .bool false := (hpre 52 _ _ (by kernel_rfl) rfl rfl).2.2
                  have h0 : a.eval (.tmp 207) = .slice (some ⟨gb, k * 5, none⟩) 1 (4 - k) := (hpre 57 _ _ (by kernel_rfl) rfl rfl).2.2
                  refine Free.c_yes rfl rfl rfl hg (Free.g_call _ _ rfl Try.func28 (by kernel_rfl) rfl [.slice (some ⟨gb, k * 5, none⟩) 1 (4 - k), .slice none 0 0] (by show [a.eval (.tmp 207), .slice none 0 0] = _; rw [h0]) ?_)
                  exact (K5.out wa hF.1).mono fun e w2 ⟨he, hb2⟩ => ⟨_, he, rfl, FKkeep hF hb2 (by decide)⟩
                | 59 =>
                  cases hi
                  have hg : a.eval (.tmp 202) = .bool false := (hpre 52 _ _ (by kernel_rfl) rfl rfl).2.2
                  have h0 : a.eval (.tmp 208) = .bool true := (hpre 58 _ _ (by kernel_rfl) rfl rfl).2.2
                  exact Free.c_yes rfl rfl rfl hg (g_not6 _ _ rfl h0 ⟨rfl, FKkeep hF (Below.refl _ _) (by decide)⟩)
                | 60 =>
                  cases hi
                  have h1 : a.eval (.tmp 202) = .bool false := (hpre 52 _ _ (by kernel_rfl) rfl rfl).2.2
                  have h3 : a.eval (.tmp 209) = .bool false := (hpre 59 _ _ (by kernel_rfl) rfl rfl).2.2
                  exact Free.c_all rfl (Free.g_pick _ _ _ rfl h1 rfl h3 ⟨rfl, FKkeep hF (Below.refl _ _) (by decide)⟩)
                | _ + 61 => cases hi
              · intro vs we hv hF
                have hlast : vs 60 = .bool false := hv 60 (by simp) (by rintro o ⟨⟩; rfl)
                have HWE := Lib.hid hF.1; clear hF hv
                simp only [Free.puts, Nat.reduceAdd, hlast]
                generalize vs 0 = y0
                generalize vs 1 = y1
                generalize vs 2 = y2
                generalize vs 3 = y3
                generalize vs 4 = y4
                generalize vs 5 = y5
                generalize vs 6 = y6
                generalize vs 7 = y7
                generalize vs 8 = y8
                generalize vs 9 = y9
                generalize vs 10 = y10
                generalize vs 11 = y11
                generalize vs 12 = y12
                generalize vs 13 = y13
                generalize vs 14 = y14
                generalize vs 15 = y15
                generalize vs 16 = y16
                generalize vs 17 = y17
                generalize vs 18 = y18
                generalize vs 19 = y19
                generalize vs 20 = y20
                generalize vs 21 = y21
                generalize vs 22 = y22
                generalize vs 23 = y23
                generalize vs 24 = y24
                generalize vs 25 = y25
                generalize vs 26 = y26
                generalize vs 27 = y27
                generalize vs 28 = y28
                generalize vs 29 = y29
                generalize vs 30 = y30
                generalize vs 31 = y31
                generalize vs 32 = y32
                generalize vs 33 = y33
                generalize vs 34 = y34
                generalize vs 35 = y35
                generalize vs 36 = y36
                generalize vs 37 = y37
                generalize vs 38 = y38
                generalize vs 39 = y39
                generalize vs 40 = y40
                generalize vs 41 = y41
                generalize vs 42 = y42
                generalize vs 43 = y43
                generalize vs 44 = y44
                generalize vs 45 = y45
                generalize vs 46 = y46
                generalize vs 47 = y47
                generalize vs 48 = y48
                generalize vs 49 = y49
                generalize vs 50 = y50
                generalize vs 51 = y51
                generalize vs 52 = y52
                generalize vs 53 = y53
                generalize vs 54 = y54
                generalize vs 55 = y55
                generalize vs 56 = y56
                generalize vs 57 = y57
                generalize vs 58 = y58
                generalize vs 59 = y59
                go_simp
                have HBE := Lib.hid (HB4.out.trans (HWE.out.mono HB4.out.size)); clear HWE
                go_wp2_with fail
                go_roundw
                case rel => exact ⟨k + 1, by omega, by simp, HBE.out⟩
                case measure => simp only [intOf]; omega
            · have hltz : ¬ (k : Int) < 4 := by omega
              have hn : ∀ W, Slc W none 0 [] := fun W => ⟨Ts.nil, by simp, by simp, fun _ => rfl⟩
              have hb9 := HBW.out.trans ((HBB.out.trans (HB4.out.mono HBB.out.size)).mono HBW.out.size)
              have KN := Lib.hid (antichainOf.walk none [] 0 wr (hn _)); have HB9 := Lib.hid hb9
              clear hn hb9
              go_wp2_with fail
              refine (KN.out).mono ?_; rintro e w8 ⟨rfl, hb8⟩
              have HB8 := Lib.hid (HB9.out.trans (hb8.mono HB9.out.size)); clear hb8
              go_wp2_with fail
              refine (WW.out _).mono ?_; rintro e we ⟨rfl, hbe⟩
              go_wp2_with fail
              go_ret
              exact ⟨rfl, HB8.out.trans (hbe.mono HB8.out.size)⟩

set_option maxRecDepth 100000 in
theorem lifted (os : Os) (started : os.Started) (H : Type) (enc : TypeId × Value → H) :
    ReturnsInHanded {} Try.checked os 9 .any (Rows.antichainKnownSpec.pre6 enc Try.prog Try.f9 Rows.antichainKnownRow.domain false) (Rows.antichainKnownSpec.post enc Try.prog Try.f9 false true false false) := by
  refine returnsInHanded_of_change_sized (C := Try.checked) ownKnob_none started (by kernel_rfl) Try.func9
    (ChangeSpec.witness6 (enc := enc) (C := Try.checked) false ⟨#[], #[], []⟩ 8 (by kernel_rfl) (by kernel_rfl) (by kernel_rfl) (by kernel_rfl)) ?_
  intro W base args ds gs before hval0 hW hcnd hsz0 _
  have hval : ∀ (j : Nat) t v, Try.f9.params[j]? = some t → args[j]? = some v → Value.okWide Try.prog W .any base t v := hval0
  have hW' := hW
  obtain ⟨p, q, hA0, hV, rfl, hfz, hnd⟩ := hW
  have hA : DataW.TrodAll enc Try.prog W 0 (fun _ => true) true Try.f9.params.toList args.toList ds p := hA0
  have hsz : (DataW.weightsEach Try.prog (Try.f9.params.toList ++ Rows.antichainKnownSpec.plain.varTypes Try.prog) (ds ++ gs)).all (· ≤ reachBytes) = true := hsz0
  rw [Try.params9] at hA hval hsz
  obtain ⟨hargs, rfl, rfl⟩ := trodAll_nil hA
  obtain rfl : args = #[] := by cases args; simp_all
  obtain ⟨rfl, rfl⟩ := trodVars_none hV
  clear hA0 hval0 hsz0
  refine (walk W).mono fun e W' ⟨he, hg⟩ => ?_
  subst he
  exact ⟨_, rfl, law_post progLaid hW' rfl (by rw [Try.params9]; intro t ht; simp at ht) rfl Try.underlying4 rfl hg⟩

theorem over : Rows.antichainKnownRow.holds Try.pinned (OpenSpec.ofChange Rows.antichainKnownSpec) :=
  OpenClaim.holds_of_wide 9 Try.f9 rfl rfl rfl rfl rfl rfl rfl ⟨rfl, rfl, rfl, rfl, rfl⟩ rfl rfl rfl rfl rfl (by kernel_rfl) Try.func9 (by kernel_rfl)
    (of_decide_eq_true (by kernel_rfl)) (by unfold Func.isWrapper; first | (rw [if_pos (by decide +kernel)]; kernel_rfl) | (rw [if_neg (by decide +kernel)]; exact ⟨rfl, rfl⟩))
    (fun os started H enc _ => lifted os started H enc)

/-- The statement. -/
theorem proved : Rows.AntichainKnownSaid :=
  over
end antichainKnown
end Go.Proofs.Ytkbabmifdfmhlaa
