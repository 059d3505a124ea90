/- slices.Values, and joins: iterators over times, for every loop body. -/
import Derived.Test.YtkbabmifdfmhlaaFrHoldsA
import Derived.RangeFuncNested
import Derived.RangeFuncBound
import Derived.RangeFuncCalls
import Derived.RangeFuncLeaves
import Derived.Shelf.RegionOpen
import Derived.OwnWalkIn
import Derived.TacticsInMore
import Derived.LoopNIn
import Derived.LoopIn
namespace Go.Proofs.Ytkbabmifdfmhlaa
open Go.ChangeShapes Go.WideShapes Go.ChangeAt Go.RowKit Go.BigFrame Go.Shelf
set_option linter.unusedVariables false
set_option maxRecDepth 100000
/-- a time that may be -/
abbrev RSt := { t : St // t.R }
def encS (x : RSt) : Array Value := #[x.1.val]
def raw (l : List RSt) : List St := l.map (·.1)
theorem raw_length (l : List RSt) : (raw l).length = l.length := by simp [raw]
theorem raw_get (l : List RSt) (k : Nat) (t : RSt) (h : l[k]? = some t) : (raw l)[k]? = some t.1 := by simp [raw, h]
theorem pre_of {α : Type} {xs : List α} {k : Nat} {t : α} (h : xs[k]? = some t) : xs.take k ++ [t] <+: xs := by
  have e : xs.take (k + 1) = xs.take k ++ [t] := by rw [List.take_add_one, h]; rfl
  rw [← e]; exact List.take_prefix _ _
/-- what a round of a loop keeps: all that lay below n, and all cells -/
def Keep (n : Nat) (W W' : World) : Prop := Below n W W' ∧ ∀ (b : Nat) (o : Obj), W.heap[b]? = some o → o.isCells = true → W'.heap[b]? = some o
theorem keep_t {n : Nat} {A B C : World} (h : Keep n A B) (k : Keep n B C) : Keep n A C := ⟨h.1.trans k.1, fun b o ho hc => k.2 b o (h.2 b o ho hc) hc⟩
theorem keep_b {n : Nat} {w : World} (hn : n ≤ w.heap.size) (W : World) (l : Nat) (o o' : Obj) (hl : w.heap.size ≤ l) (ho : W.heap[l]? = some o) (hc : o.isCells = false) (hw : o.isWalk = false) : Keep n W (W.putObj l o') :=
  ⟨(belowK_b (w := w) hn) W l o o' hl ho hc hw, fun b p hp hpc => by
    by_cases e : b = l
    · subst e; rw [ho] at hp; cases hp; rw [hc] at hpc; cases hpc
    · exact (World.putObj_heap_other e).trans hp⟩
theorem Row.keep {n : Nat} {W W' : World} {g : Nat} {t : TypeId} {l : List Value} (h : Row W g t l) (k : Keep n W W') : Row W' g t l := k.2 g _ h rfl
theorem grown_below {w w' : World} (hb : Below w.heap.size w w') : w.grownBy w' none := ⟨hb.os, hb.tape, hb.output, hb.size, fun k hk _ => hb.block k hk⟩
theorem values_any (a : Option Addr) (n c : Nat) (w : World) :
    Calls Try.prog 50 #[.slice a n c] w fun e w' => e = .returned (.func (.func 75) #[] #[.pointer (some ⟨w.heap.size, 0, none⟩)]) ∧ w' = w.alloc (.cells #[.slice a n c] 40) := by
  go_enter Try.func50, Try.ntmps50
  go_wp2_with fail
  go_ret
  exact ⟨rfl, rfl⟩
set_option maxRecDepth 100000 in
set_option maxHeartbeats 1000000 in
theorem valuesC (n : Nat) (hn : 1 ≤ n) (Bs : Nat) (A : Option Addr) (xs : List RSt) (hl : xs.length ≤ 1000) (c : Nat) (w : World) (hB : BoxAt w Bs (.slice A xs.length c)) (hT : Ts w A (raw xs)) :
    SeqStopsK Fence.wide n Try.prog 75 #[.pointer (some ⟨Bs, 0, none⟩)] encS (Keep w.heap.size) (fun ys => ys = xs) (fun pre => pre <+: xs) xs.length w := fun l J Jx W hW hJ _ hY h0 => by
  have hBW := (hB.below hW).2
  have HT := Lib.hid hT; have HLE := Lib.hid hW.size; have HJ := Lib.hid hJ
  clear hB hT hJ
  have HW := Lib.hid hW; clear hW
  refine callsIn_of_wp Try.func75 rfl trivial ?_ rfl
  simp only [Try.ntmps75, List.size_toArray, List.length_cons, List.length_nil, Nat.reduceAdd, Nat.reduceSub, Array.replicate_succ, Array.replicate_zero, List.push_toArray, List.append_toArray, List.nil_append, List.cons_append]
  gi_wp2
  gi_loopw [7] (fun i wr => ∃ k : Nat, k ≤ xs.length ∧ i = .int .i64 k ∧ J (xs.take k) wr ∧ Below w.heap.size W wr) (fun i _ => xs.length - (intOf i).toNat)
  case atStart => exact ⟨0, Nat.zero_le _, rfl, h0, Below.refl _ _⟩
  case round =>
    obtain ⟨k, hk, rfl, hJs, hbel⟩ := hrel
    by_cases hlt : k < xs.length
    · obtain ⟨t, ht⟩ : ∃ t, xs[k]? = some t := ⟨_, List.getElem?_eq_getElem hlt⟩
      have hsz := hbel.size
      have hJ2 : J (xs.take k) (wr.alloc (.cells #[.int .i64 t.1.d, .int .i64 t.1.e, .int .i64 t.1.x, .int .i64 t.1.y, .int .i64 t.1.z] 25)) := HJ.out _ _ _ none hJs (World.grownBy_alloc _ _ none) (fun r e => by cases e)
      obtain ⟨fn, tmps, assign, body, hy, hR⟩ := hY _ t _ hJ2 (by rw [List.length_take]; omega)
      dsimp only [encS] at hy
      unfold St.val at hy
      have hb2 : Below w.heap.size W (wr.alloc (.cells #[.int .i64 t.1.d, .int .i64 t.1.e, .int .i64 t.1.x, .int .i64 t.1.y, .int .i64 t.1.z] 25)) := hbel.alloc (Nat.le_trans HLE.out hsz) _
      obtain ⟨b, o, rfl, hbl, h5⟩ := (HT.out).five (raw_get xs k t ht)
      obtain ⟨c0, c1, c2, c3, c4⟩ := h5 wr (HW.out.trans hbel)
      have HBL := Lib.hid hbel; have HB2 := Lib.hid hb2; have HTT := Lib.hid ht
      clear h5 hbl hbel hb2 ht h0
      gi_wp2
      refine hR.mono ?_
      rintro e W3 (⟨rfl, hJ3, hk3⟩ | ⟨rfl, hJx3⟩)
      · have HB3 := Lib.hid (HB2.out.trans hk3.1)
        clear hk3
        gi_wp2
        go_roundw
        case rel => exact ⟨k + 1, by omega, by simp, by rw [List.take_add_one, HTT.out]; exact hJ3, HB3.out⟩
        case measure => simp only [intOf]; omega
      · gi_wp2
        refine bodyPost_ret (results_none rfl _ _ _) rfl ?_
        exact ⟨⟨_, rfl⟩, .inr ⟨_, pre_of HTT.out, hJx3⟩⟩
    · have hk' : k = xs.length := by omega
      subst hk'
      have hJ' : J xs wr := by rwa [List.take_length] at hJs
      clear hJs
      gi_wp2
      go_end0
      exact ⟨⟨_, rfl⟩, .inl ⟨_, rfl, hJ'⟩⟩
theorem joins_any (A B : Option Addr) (n c m d : Nat) (w : World) :
    Calls Try.prog 79 #[.slice A n c, .slice B m d] w fun e w' => e = .returned (.func (.func 90) #[] #[.pointer (some ⟨w.heap.size, 0, none⟩), .pointer (some ⟨w.heap.size + 1, 0, none⟩)]) ∧ w' = (w.alloc (.cells #[.slice A n c] 40)).alloc (.cells #[.slice B m d] 40) := by
  go_enter Try.func79, Try.ntmps79
  go_wp2_with fail
  go_ret
  exact ⟨rfl, rfl⟩
/-- zs are the joins of each of a with each of b -/
structure Pairs (a b : List St) (zs : List RSt) : Prop where
  len : zs.length = a.length * b.length
  at_ : ∀ (k j : Nat) (x y : St), a[k]? = some x → b[j]? = some y → ∃ z : RSt, zs[k * b.length + j]? = some z ∧ z.1 = x.join y ∧ x.B y
set_option maxRecDepth 100000 in
set_option maxHeartbeats 4000000 in
theorem joinsC (n : Nat) (hn : 1 ≤ n) (Ba Bb : Nat) (A B : Option Addr) (a b : List St) (zs : List RSt) (hla : a.length ≤ 1000) (hlb : b.length ≤ 1000) (c d : Nat) (w : World) (hBa : BoxAt w Ba (.slice A a.length c)) (hBb : BoxAt w Bb (.slice B b.length d)) (hA : Ts w A a) (hB : Ts w B b) (hz : Pairs a b zs) :
    SeqStopsK Fence.wide n Try.prog 90 #[.pointer (some ⟨Ba, 0, none⟩), .pointer (some ⟨Bb, 0, none⟩)] encS (Keep w.heap.size) (fun ys => ys = zs) (fun pre => pre <+: zs) zs.length w := fun l J Jx W hW hJ _ hY h0 => by
  have hba := (hBa.below hW).2
  have HT := Lib.hid hA; have HU := Lib.hid hB; have HLE := Lib.hid hW.size; have HJ := Lib.hid hJ; have HZ := Lib.hid hz; have HBB := Lib.hid hBb
  clear hA hB hJ hBa hBb hz
  have HW := Lib.hid hW; clear hW
  refine callsIn_of_wp Try.func90 rfl trivial ?_ rfl
  simp only [Try.ntmps90, List.size_toArray, List.length_cons, List.length_nil, Nat.reduceAdd, Nat.reduceSub, Array.replicate_succ, Array.replicate_zero, List.push_toArray, List.append_toArray, List.nil_append, List.cons_append]
  gi_wp2
  gi_loopw [12] (fun i wr => ∃ k : Nat, k ≤ a.length ∧ i = .int .i64 k ∧ J (zs.take (k * b.length)) wr ∧ Below w.heap.size W wr) (fun i _ => a.length - (intOf i).toNat)
  case atStart => exact ⟨0, Nat.zero_le _, rfl, by simpa using h0, Below.refl _ _⟩
  case round =>
    obtain ⟨k, hk, rfl, hJs, hbel⟩ := hrel
    clear hba h0
    by_cases hlt : k < a.length
    · obtain ⟨x, hx⟩ : ∃ x, a[k]? = some x := ⟨_, List.getElem?_eq_getElem hlt⟩
      have hsz := hbel.size
      have hJ2 : J (zs.take (k * b.length)) (wr.alloc (.cells #[.int .i64 x.d, .int .i64 x.e, .int .i64 x.x, .int .i64 x.y, .int .i64 x.z] 25)) := HJ.out _ _ _ none hJs (World.grownBy_alloc _ _ none) (fun r e => by cases e)
      have hb2 : Below w.heap.size W (wr.alloc (.cells #[.int .i64 x.d, .int .i64 x.e, .int .i64 x.x, .int .i64 x.y, .int .i64 x.z] 25)) := hbel.alloc (Nat.le_trans HLE.out hsz) _
      have hh := Holds.made wr x
      obtain ⟨p, q, rfl, hbl, h5⟩ := (HT.out).five hx
      obtain ⟨c0, c1, c2, c3, c4⟩ := h5 wr (HW.out.trans hbel)
      have hbb := (HBB.out.below (HW.out.trans hb2)).2
      have hgx : W.heap.size ≤ wr.heap.size := hsz
      have HBL := Lib.hid hbel; have HB2 := Lib.hid hb2; have HX := Lib.hid hx; have HH := Lib.hid hh; have HJ2 := Lib.hid hJ2
      clear h5 hbl hbel hb2 hx hh hJ2 hJs
      gi_wp2
      clear hbb c0 c1 c2 c3 c4 hsz
      generalize wr.heap.size = gx at *
      gi_loopw [18] (fun i wr2 => ∃ j : Nat, j ≤ b.length ∧ i = .int .i64 j ∧ J (zs.take (k * b.length + j)) wr2 ∧ Below w.heap.size W wr2 ∧ Holds wr2 gx x) (fun i _ => b.length - (intOf i).toNat)
      case atStart => exact ⟨0, Nat.zero_le _, rfl, HJ2.out, HB2.out, HH.out⟩
      case round =>
        obtain ⟨j, hj, rfl, hJs, hbel, hh⟩ := hrel
        by_cases hlt2 : j < b.length
        · obtain ⟨y, hy⟩ : ∃ y, b[j]? = some y := ⟨_, List.getElem?_eq_getElem hlt2⟩
          obtain ⟨z, hz1, hz2, hBxy⟩ := HZ.out.at_ k j x y HX.out hy
          obtain ⟨r, s, rfl, hbl, h5⟩ := (HU.out).five hy
          obtain ⟨e0, e1, e2, e3, e4⟩ := h5 wr (HW.out.trans hbel)
          obtain ⟨c0, c1, c2, c3, c4⟩ := hh.cells5
          have hgl := hh.lt
          have hsz2 := hbel.size
          have hjoin := fun w => join_any x y w
          rw [decide_eq_true hBxy, ← hz2] at hjoin
          have hby := Holds.made wr y
          have hJy : J (zs.take (k * b.length + j)) (wr.alloc (.cells #[.int .i64 y.d, .int .i64 y.e, .int .i64 y.x, .int .i64 y.y, .int .i64 y.z] 25)) := HJ.out _ _ _ none hJs (World.grownBy_alloc _ _ none) (fun r e => by cases e)
          have hb3 : Below w.heap.size W (wr.alloc (.cells #[.int .i64 y.d, .int .i64 y.e, .int .i64 y.x, .int .i64 y.y, .int .i64 y.z] 25)) := hbel.alloc (Nat.le_trans HLE.out hsz2) _
          have hh3 := hh.alloc (.cells #[.int .i64 y.d, .int .i64 y.e, .int .i64 y.x, .int .i64 y.y, .int .i64 y.z] 25)
          have HJN := Lib.hid hjoin; have HY := Lib.hid hby; have HJY := Lib.hid hJy; have HB3 := Lib.hid hb3; have HH3 := Lib.hid hh3; have HZ1 := Lib.hid hz1
          clear hjoin hby hJy hb3 hh3 h5 hbl hh hbel hJs hz1 hy hz2
          unfold St.val at *
          gi_wp2
          refine ⟨trivial, ?_⟩
          refine (callsIn_wide.2 (HJN.out _)).mono ?_
          rintro e w1 ⟨rfl, hb1⟩
          have hJz : J (zs.take (k * b.length + j)) (w1.alloc (.cells #[.int .i64 z.1.d, .int .i64 z.1.e, .int .i64 z.1.x, .int .i64 z.1.y, .int .i64 z.1.z] 25)) := HJ.out _ _ _ none (HJ.out _ _ _ none HJY.out (grown_below hb1) (fun r e => by cases e)) (World.grownBy_alloc _ _ none) (fun r e => by cases e)
          have hb4 : Below w.heap.size W (w1.alloc (.cells #[.int .i64 z.1.d, .int .i64 z.1.e, .int .i64 z.1.x, .int .i64 z.1.y, .int .i64 z.1.z] 25)) := (HB3.out.trans (hb1.mono (Nat.le_trans HLE.out HB3.out.size))).alloc (Nat.le_trans HLE.out (Nat.le_trans HB3.out.size hb1.size)) _
          have hh4 : Holds (w1.alloc (.cells #[.int .i64 z.1.d, .int .i64 z.1.e, .int .i64 z.1.x, .int .i64 z.1.y, .int .i64 z.1.z] 25)) gx x := (HH3.out.below hb1).alloc _
          obtain ⟨fn, tmps, assign, body, hy, hR⟩ := hY _ z _ hJz (by have := (List.getElem?_eq_some_iff.1 HZ1.out).1; rw [List.length_take]; omega)
          dsimp only [encS] at hy
          unfold St.val at hy
          have HB4 := Lib.hid hb4; have HH4 := Lib.hid hh4
          clear hb1 hJz hb4 hh4 c0 c1 c2 c3 c4 e0 e1 e2 e3 e4
          gi_wp2
          refine hR.mono ?_
          rintro e W3 (⟨rfl, hJ3, hk3⟩ | ⟨rfl, hJx3⟩)
          · have hb5 := HB4.out.trans hk3.1
            have hh5 : Holds W3 gx x := Row.keep HH4.out hk3
            have HB5 := Lib.hid hb5; have HH5 := Lib.hid hh5
            clear hk3 hb5 hh5
            gi_wp2
            go_roundw
            case rel => exact ⟨j + 1, by omega, by simp, by rw [← Nat.add_assoc, List.take_add_one, HZ1.out]; exact hJ3, HB5.out, HH5.out⟩
            case measure => simp only [intOf]; omega
          · gi_wp2
            refine bodyPost_ret (results_none rfl _ _ _) rfl ?_
            exact ⟨⟨_, rfl⟩, .inr ⟨_, pre_of HZ1.out, hJx3⟩⟩
        · have hk' : j = b.length := by omega
          subst hk'
          have hJ' : J (zs.take ((k + 1) * b.length)) wr := by rwa [Nat.succ_mul]
          clear hJs
          gi_wp2
          go_roundw
          case rel => exact ⟨k + 1, by omega, by simp, hJ', hbel⟩
          case measure => simp only [intOf]; omega
    · have hk' : k = a.length := by omega
      subst hk'
      have hJ' : J zs wr := by rwa [← HZ.out.len, List.take_length] at hJs
      clear hJs
      gi_wp2
      go_end0
      exact ⟨⟨_, rfl⟩, .inl ⟨_, rfl, hJ'⟩⟩
end Go.Proofs.Ytkbabmifdfmhlaa
