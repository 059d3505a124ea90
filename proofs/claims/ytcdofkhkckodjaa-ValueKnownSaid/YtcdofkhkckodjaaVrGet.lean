/- Get, the program's. -/
import Derived.Test.YtcdofkhkckodjaaVrGetMath
import Derived.Test.YtcdofkhkckodjaaVrChunk
import Derived.Maps.AppendAt
import Derived.Deep.AppendLies
namespace Go.Proofs.Ytcdofkhkckodjaa
namespace Vr
open Go.ChangeShapes Go.WideShapes Go.ChangeAt Go.RowKit Go.BigFrame Go.Shelf
set_option linter.unusedVariables false
set_option maxRecDepth 100000
attribute [local go_sem] Oper.semAt_some
/-- an append, under one name -/
def AppS (ts : Array TypeId) (ty : TypeId) (args : Array Value) : Sem Value := Builtin.append_ ts ty args
theorem appS_eq (ts : Array TypeId) (ty : TypeId) (args : Array Value) : Builtin.append_ ts ty args = AppS ts ty args := rfl
attribute [local go_sem ↓] appS_eq
/-- between two rounds -/
def GetI (w : World) (xs : List Nat) (Bl N : Nat) (pre : List (Upto N)) (W : World) : Prop := ∃ v, Boxed W Bl 22 v ∧ W.ownsRow w.heap.size 32 2 v pre.length (Rw.row kindR (pre.map fun y => recAt xs y.1)) ∧ True
theorem getI_own (w : World) (xs : List Nat) (Bl N B : Nat) (h : w.heap.size ≤ B) : OwnFrom B (fun (pre : List (Upto N)) W => GetI w xs Bl N pre W ∧ Below w.heap.size w W) := by
  have h1 : Own (fun (pre : List (Upto N)) W => GetI w xs Bl N pre W) := by
    intro pre X Y row hs hg hr
    unfold GetI at *
    generalize Rw.row kindR (pre.map fun y => recAt xs y.1) = L at *
    generalize pre.length = k at *
    exact holdsRow_own (β := Unit) w.heap.size Bl 22 32 2 (fun _ => k) (fun _ => L) (fun _ _ => True) () X Y row hs hg hr
  have h2 := h1.from B
  have h3 : OwnFrom B (fun (pre : List (Upto N)) W => Below w.heap.size w W) := ownFrom_below (Nat.le_refl _) h
  exact OwnFrom.and h2 h3
set_option maxHeartbeats 8000000 in
theorem get_any (A : Option Addr) (xs : List Nat) (c : Nat) (w : World) (hT : Rw.Ts kindB w A xs) (hx : ∀ x ∈ xs, x < 256) (hl : xs.length ≤ 100000) (hlc : xs.length ≤ c) (hc : c ≤ maxLen) :
    Calls Try.prog 22 #[.slice A xs.length c] w (GetD xs w) := by
  have HT := Lib.hid hT; have HX := Lib.hid hx; clear hT hx
  by_cases h16 : xs.length % 16 = 0
  · obtain ⟨N, hN⟩ : ∃ N, xs.length = N * 16 := ⟨xs.length / 16, by omega⟩
    have hmod : (xs.length : Int) % 16 = 0 := by omega
    have hdiv : (xs.length : Int) / 16 = (N : Int) := by omega
    have hNb : N ≤ 100000 := by omega
    obtain ⟨i0, hi, hz0, hz1, hz2⟩ := info_parts infoRec
    have hAe : 0 < N → ∃ b o, A = some ⟨b, o, none⟩ := fun h => by
      obtain ⟨b, o, e, _⟩ := HT.out (by omega)
      exact ⟨b, o, e⟩
    have HY := Lib.hid (getL_yes hN); have HN := Lib.hid hN; have HAE := Lib.hid hAe; clear hN h16 hAe
    refine (callsIn_wide (n := 5)).1 ?_
    refine callsIn_of_wp_marks Try.func22 rfl trivial ?_ rfl
    simp only [Try.ntmps22, List.size_toArray, List.length_cons, List.length_nil, Nat.reduceAdd, Nat.reduceSub, Array.replicate_succ, Array.replicate_zero, List.push_toArray, List.append_toArray, List.nil_append, List.cons_append]
    gi_wp2_with (first
      | (gi_at_make; refine wpListIn_make_own _ rfl _ _ 22 rfl w.heap.size 32 i0 _ 2 Try.underlying22 hi hz0 hz1 .i64 .i64 _ N rfl rfl rfl (by rw [hz2]; omega) (by unfold maxLen; omega) (Nat.le_refl _) ?_; intro w1 ho1 hg1; have HO1 := Lib.hid ho1; have HG1 := Lib.hid hg1; clear ho1 hg1)
      | (refine ⟨trivial, ?_⟩; gi_at_call 32; refine (callsIn_wide.2 (chunk_any _ _ _ _)).mono ?_; rintro e w' ⟨rfl, rfl⟩))
    obtain ⟨b, o, hAo⟩ : ∃ b o, 0 < N → A = some ⟨b, o, none⟩ := by
      by_cases h : 0 < N
      · obtain ⟨b, o, e⟩ := HAE.out h
        exact ⟨b, o, fun _ => e⟩
      · exact ⟨0, 0, fun h' => absurd h' h⟩
    have HAO := Lib.hid hAo; clear hAo
    have hb1 : Below w.heap.size w w1 := (Below.refl w.heap.size w).grown HG1.out (Nat.le_refl _) (fun k e => by cases e)
    have bM0 := Boxed.new w1 22 (.slice (some ⟨w.heap.size, 0, none⟩) 0 N)
    have bM := (bM0.alloc (.cells #[.slice A xs.length c] 34)).alloc (.cells #[.int .i64 16] 3)
    have hS := (Row.made (w1.alloc (.cells #[.slice (some ⟨w.heap.size, 0, none⟩) 0 N] 22)) 34 [.slice A xs.length c]).alloc (.cells #[.int .i64 16] 3)
    have hNb2 := Row.made ((w1.alloc (.cells #[.slice (some ⟨w.heap.size, 0, none⟩) 0 N] 22)).alloc (.cells #[.slice A xs.length c] 34)) 3 [.int .i64 16]
    have hRW := ((HO1.out.alloc (.cells #[.slice (some ⟨w.heap.size, 0, none⟩) 0 N] 22)).alloc (.cells #[.slice A xs.length c] 34)).alloc (.cells #[.int .i64 16] 3)
    have hBW := ((hb1.alloc hb1.size (.cells #[.slice (some ⟨w.heap.size, 0, none⟩) 0 N] 22)).alloc (by have := hb1.size; simp; omega) (.cells #[.slice A xs.length c] 34)).alloc (by have := hb1.size; simp; omega) (.cells #[.int .i64 16] 3)
    have hSZ : ((((w1.alloc (.cells #[.slice (some ⟨w.heap.size, 0, none⟩) 0 N] 22)).alloc (.cells #[.slice A xs.length c] 34)).alloc (.cells #[.int .i64 16] 3))).heap.size = w1.heap.size + 3 := by simp
    have hle := hb1.size
    simp only [World.size_alloc] at bM hS hNb2
    clear bM0 hb1 HG1 HO1
    obtain ⟨W0, hW0⟩ : ∃ W0, (((w1.alloc (.cells #[.slice (some ⟨w.heap.size, 0, none⟩) 0 N] 22)).alloc (.cells #[.slice A xs.length c] 34)).alloc (.cells #[.int .i64 16] 3)) = W0 := ⟨_, rfl⟩
    simp only [List.toArray] at hS hNb2
    rw [hW0] at bM hS hNb2 hRW hBW hSZ ⊢
    generalize w1.heap.size = Bl at *
    clear hW0
    have hWs : w.heap.size ≤ W0.heap.size := by omega
    have h45 : 1 ≤ 5 := by omega
    have hN6 : N ≤ 1000000 := by omega
    refine wpIn_rangeFunc_ownF rfl h45 (gf := 40) (lb := #[.pointer (some ⟨Bl + 1, 0, none⟩), .pointer (some ⟨Bl + 1 + 1, 0, none⟩)]) rfl trivial (enters_of Try.func40 (by kernel_rfl) rfl) (chunkC 4 (by decide) (Bl + 1) (Bl + 1 + 1) b o N c A xs.length W0 hS hNb2 HAO.out HN.out hlc hc hN6) keepC_t (keepC_b (w := W0)) (Below.refl _ _) (fun _ => rfl)
      (fun pre W => GetI w xs Bl N pre W ∧ Below w.heap.size w W)
      (fun _ _ _ => False)
      (getI_own w xs Bl N W0.heap.size hWs)
      (fun _ _ _ _ _ hs _ _ => hs)
      ⟨⟨_, bM, hRW, trivial⟩, hBW⟩
      (fun y => { tmps := #[.slice A xs.length c, undef, .slice none 0 0, .int .i64 0, .pointer (some ⟨Bl, 0, none⟩), .slice (some ⟨b, o + y.1 * 16, none⟩) 16 16, .slice A xs.length c, .int .i64 xs.length, .int .i64 0, .bool false, .slice A xs.length c, .int .i64 xs.length, .int .i64 N, .slice (some ⟨w.heap.size, 0, none⟩) 0 N, .slice A xs.length c, .func (.func 40) #[] #[.pointer (some ⟨Bl + 1, 0, none⟩), .pointer (some ⟨Bl + 1 + 1, 0, none⟩)], .slice (some ⟨b, o + y.1 * 16, none⟩) 16 16, undef, undef, undef, undef, undef, undef, undef, undef, undef, undef, undef], defers := [] })
      ?assign ?body ?done ?stop
    case assign =>
      intro l x W K hK
      dsimp only [encC]
      gi_wp2
      exact hK
    case body =>
      rintro l pre x W ⟨⟨v, bM1, hr1, _⟩, hB1⟩ hlt
      have hk : x.1 < N := List.mem_range.1 x.2
      have hAo := HAO.out (by omega)
      obtain ⟨p, hp⟩ : ∃ p, x.1 * 16 = p := ⟨_, rfl⟩
      have hpl : p + 16 ≤ xs.length := by have := HN.out; omega
      have hT1 := HT.out.below hB1
      rw [hAo] at hT1
      have ht1 : Rw.Ts kindB W.drew (some ⟨b, o + p, none⟩) (xs.drop p) := by
        have h := hT1.drop p
        rw [show p * kindB.K = p from Nat.mul_one p] at h
        exact h
      have ht2 : Rw.Ts kindB W.drew (some ⟨b, o + p + 8, none⟩) (xs.drop (p + 8)) := by
        have h := hT1.drop (p + 8)
        rw [show (p + 8) * kindB.K = p + 8 from Nat.mul_one _, ← Nat.add_assoc] at h
        exact h
      have hlt8 : ∀ q, ∀ z ∈ (xs.drop q).take 8, z < 256 := fun q z hz => HX.out z (List.mem_of_mem_drop (List.mem_of_mem_take hz))
      have h1 := number_any _ _ 16 W.drew (ht1.take 8) (hlt8 p) (by rw [List.length_take, List.length_drop]; omega)
      have h2 := number_any _ _ 8 W.drew (ht2.take 8) (hlt8 (p + 8)) (by rw [List.length_take, List.length_drop]; omega)
      obtain ⟨K1, hK1⟩ : ∃ K, sg64 (accU 0 ((xs.drop p).take 8)) = K := ⟨_, rfl⟩
      obtain ⟨K2, hK2⟩ : ∃ K, sg64 (accU 0 ((xs.drop (p + 8)).take 8)) = K := ⟨_, rfl⟩
      rw [hK1] at h1; rw [hK2] at h2
      have hrec : recAt xs x.1 = ⟨K1, K2⟩ := by unfold recAt; rw [hp, hK1, hK2]
      have hlenp : pre.length ≤ 100000 := by omega
      have hrow : (W.drew.alloc (.cells #[.int .i64 K1, .int .i64 K2] 32)).ownsRow w.heap.size 32 2 v pre.length (Rw.row kindR (pre.map fun y => recAt xs y.1)) := hr1.drew.alloc _
      have hmade := Row.made W.drew 32 [.int .i64 K1, .int .i64 K2]
      obtain ⟨g, cap, w4, hrun, ho4, hg4, _, _⟩ := run_append_lies (P := Try.prog) (W.drew.alloc (.cells #[.int .i64 K1, .int .i64 K2] 32)) 22 22 w.heap.size 32 i0 _ 2 16 Try.underlying22 hi hz0 hz1 hz2 rfl (by decide) v pre.length _ hrow ⟨W.heap.size, 0, none⟩ 1 1 [.int .i64 K1, .int .i64 K2] rfl
        (fun j u hj => by rw [add_zero_off]; exact (hmade.cell j).trans hj) (by intro u hu; simp only [List.mem_cons, List.not_mem_nil, or_false] at hu; rcases hu with rfl | rfl <;> rfl) (by decide) (by unfold maxLen; omega) (by omega) (by have := hB1.size; simp; omega) _ rfl
      have hrun2 : (AppS #[22, 22] 22 #[v, .slice (some ⟨W.heap.size, 0, none⟩) 1 1]).run Try.prog ((W.alloc (.cells #[.int .i64 K1, .int .i64 K2] 32)).drew) = .ok (.slice (some ⟨g, 0, none⟩) (pre.length + 1) cap) w4 := hrun
      have hrun3 : (AppS #[22, 22] 22 #[v, .slice (some ⟨W.heap.size, 0, none⟩) 1 1]).run Try.prog (W.drew.alloc (.cells #[.int .i64 K1, .int .i64 K2] 32)) = .ok (.slice (some ⟨g, 0, none⟩) (pre.length + 1) cap) w4 := hrun
      have hfin := Boxed.appended (W := W.drew) (B := Bl) bM1 (by decide) hr1.drew (by have := hB1.size; exact this) hle ho4 hg4
      have hkc : KeepC (Bl + 1) (Bl + 1 + 1) W (w4.setCell ⟨Bl, 0, none⟩ (.slice (some ⟨g, 0, none⟩) (pre.length + 1) cap)) :=
        ⟨fun u hu => Row.far (p := ⟨Bl, 0, none⟩) ((Row.alloc (w := W.drew) hu _).grown hg4 (Rw.own_apart hrow (Row.alloc (w := W.drew) hu _) (by decide))) (by show Bl + 1 ≠ Bl; omega) _,
         fun u hu => Row.far (p := ⟨Bl, 0, none⟩) ((Row.alloc (w := W.drew) hu _).grown hg4 (Rw.own_apart hrow (Row.alloc (w := W.drew) hu _) (by decide))) (by show Bl + 1 + 1 ≠ Bl; omega) _⟩
      have hnext : Rw.row kindR (pre.map fun y => recAt xs y.1) ++ [.int .i64 K1, .int .i64 K2] = Rw.row kindR ((pre ++ [x]).map fun y => recAt xs y.1) := by
        rw [List.map_append, Rw.row_append]
        simp only [List.map_cons, List.map_nil, hrec]
        rfl
      have cM := bM1.cell
      have hBlt := bM1.lt
      have cM2 : ((W.alloc (.cells #[.int .i64 K1, .int .i64 K2] 32)).drew).cell? ⟨Bl, 0, none⟩ = some v := (Boxed.alloc (W := W) bM1 _).cell
      have cM4 := hfin.1.cell
      have fM4 := hfin.1.frozen
      have HF := Lib.hid hfin; have HKC := Lib.hid hkc; have HNX := Lib.hid hnext; have H1 := Lib.hid h1; have H2 := Lib.hid h2; have HB1 := Lib.hid hB1
      rw [show (x.1 * 16 : Nat) = p from hp]
      clear hfin hkc hnext h1 h2 hB1 hrow hmade hg4 ho4 hrec hK1 hK2 hlt8 ht1 ht2 hT1 hr1 bM1 hp hS hNb2 hRW hBW bM hrun
      have hmx : Try.prog.follows .mixedOrders = true := by kernel_rfl
      gi_wp2
      gi_region_with_o (refine ⟨trivial, ?_⟩; gi_at_call 33; first | ((with_reducible refine (CallsIn.inRound l (callsIn_wide.2 H1.out)).mono ?_); rintro e w' ⟨rfl, rfl⟩) | ((with_reducible refine (CallsIn.inRound l (callsIn_wide.2 H2.out)).mono ?_); rintro e w' ⟨rfl, rfl⟩))
      all_goals gi_wp2
      all_goals
        refine ⟨(KeepsOthers.drew W).trans HF.out.2.2.2.1, HKC.out, ⟨_, HF.out.2.1, ?_, trivial⟩, HB1.out.drew.trans HF.out.2.2.2.2⟩
        rw [← HNX.out, List.length_append]
        exact HF.out.2.2.1
    case done =>
      rintro D ys W hD rfl ⟨⟨v, bM1, hr1, _⟩, hB1⟩ hK
      have cM := bM1.cell
      have HR := Lib.hid hr1; have HB1 := Lib.hid hB1; have HK := Lib.hid hK
      clear hr1 bM1 hB1 hK hS hNb2 hRW hBW bM
      gi_wp2
      refine ⟨by simp, .inl ⟨_, _, rfl, run_takeDeferred HK.out, ?_⟩⟩
      refine ⟨_, results_tmp2 rfl _ _ _, ?_⟩
      have hm : (allC N).map (fun y => recAt xs y.1) = recsN xs N := by
        unfold allC recsN
        show List.map (recAt xs ∘ Subtype.val) _ = _
        rw [← List.map_map, List.attach_map_subtype_val]
      have ho := ownsRow_putObj (o' := .deferred none) HR.out HK.out rfl
      rw [hm, ← HY.out.2] at ho
      refine GetD.mk HY.out.1 ?_ (HB1.out.trans (belowK_b (w := w) (Nat.le_refl _) W D _ _ (by omega) HK.out rfl rfl))
      have hl2 : (getL xs).length = (allC N).length := by rw [HY.out.2, recsN_len, allC_len]
      rw [hl2]
      exact ho
    case stop =>
      rintro D c' pre W _ _ h _
      exact h.elim
  · have hmod : (((xs.length : Int) % 16) != 0) = true := by simp; omega
    have HY := Lib.hid (getL_no h16); clear h16
    go_enter Try.func22, Try.ntmps22
    go_wp2_with fail
    go_ret2
    exact GetD.mk HY.out.1 (by rw [HY.out.2]; exact World.ownsRow_nil _ _ _ _) (Below.refl _ _)
end Vr
end Go.Proofs.Ytcdofkhkckodjaa
