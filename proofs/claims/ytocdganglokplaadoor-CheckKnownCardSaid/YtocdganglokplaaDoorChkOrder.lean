/- Order: the document's. -/
import Derived.Test.YtocdganglokplaaDoorChkCheck
import Derived.Test.YtocdganglokplaaDoorChkRunA
import Derived.Test.YtocdganglokplaaDoorChkStkA
namespace Go.Proofs.YtocdganglokplaaDoor
open Go.ChangeShapes Go.WideShapes Go.ChangeAt Go.RowKit Go.BigFrame
set_option linter.unusedVariables false
set_option maxRecDepth 100000
theorem RowsS.slice {w0 w : World} {v : Value} {gs : Nat} {todo : List Nat} {seen : List Bool} (h : RowsS w0 w v gs todo seen) : ∃ A c, v = .slice A todo.length c := by
  rcases h.todo.2 with ⟨e, h0⟩ | ⟨g, cap, cur, e, _⟩
  · exact ⟨none, 0, by rw [h0]; exact e⟩
  · exact ⟨_, cap, e⟩
/-- what Order answers -/
def OrdD (g : List Nd) (w : World) (e : Ending) (w' : World) : Prop := (∃ v, e = .returned (.tuple #[v, .int .i64 (orderR g).2]) ∧ w'.ownsRow w.heap.size 3 kindI.K v (orderR g).1.length (Rw.row kindI ((orderR g).1.map Int.ofNat))) ∧ Below w.heap.size w w'
theorem OrdD.mk {g : List Nd} {w w' : World} {v : Value} {T : List Nat} {e : Int} (h : orderR g = (T, e)) (ho : w'.ownsRow w.heap.size 3 kindI.K v T.length (Rw.row kindI (T.map Int.ofNat))) (hb : Below w.heap.size w w') : OrdD g w (.returned (.tuple #[v, .int .i64 e])) w' := by
  unfold OrdD; rw [h]; exact ⟨⟨v, rfl, ho⟩, hb⟩
theorem OrdD.ints {g : List Nd} {w w' : World} {e : Ending} {xs : List Int} {E : Int} (hx : (orderR g).1.map Int.ofNat = xs) (hE : (orderR g).2 = E) (h : OrdD g w e w') :
    (∃ v, e = .returned (.tuple #[v, .int .i64 E]) ∧ w'.ownsRow w.heap.size 3 kindI.K v xs.length (Rw.row kindI xs)) ∧ Below w.heap.size w w' := by
  obtain ⟨⟨v, h1, h2⟩, h3⟩ := h
  rw [hE] at h1
  rw [hx] at h2
  rw [← hx, List.length_map, hx]
  exact ⟨⟨v, h1, h2⟩, h3⟩
/-- which places are there -/
def Marks (T : List Nat) (seen : List Bool) : Prop := ∀ (j : Nat) (b : Bool), seen[j]? = some b → (b = true ↔ j ∈ T)
theorem Marks.start (n : Nat) : Marks [] (List.replicate n false) := fun j b h => by
  have := List.eq_of_mem_replicate (List.mem_of_getElem? h)
  subst this; simp
theorem Marks.push {T : List Nat} {seen : List Bool} (h : Marks T seen) (t : Nat) : Marks (T ++ [t]) (seen.set t true) := fun j b hj => by
  by_cases e : t = j
  · subst e
    have hl := (List.getElem?_eq_some_iff.1 hj).1
    rw [List.length_set] at hl
    rw [List.getElem?_set_self hl] at hj
    injection hj with hj; subst hj
    simp
  · rw [List.getElem?_set_ne e] at hj
    rw [h j b hj, List.mem_append]
    constructor
    · exact .inl
    · rintro (hm | hm)
      · exact hm
      · simp only [List.mem_singleton] at hm
        exact absurd hm.symm e
/-- is each of the first q inputs there, or is it a Feedback? -/
def MayQ (T : List Nat) (i : Nat) (x : Nd) (q : Nat) : Prop := i ∉ T ∧ (x.k = 9 ∨ ∀ z ∈ x.ins.take q, 0 ≤ z ∧ z.toNat ∈ T)
noncomputable def mayQ (T : List Nat) (i : Nat) (x : Nd) (q : Nat) : Bool := @decide (MayQ T i x q) (Classical.propDecidable _)
theorem mayQ_iff {T : List Nat} {i : Nat} {x : Nd} {q : Nat} : mayQ T i x q = true ↔ MayQ T i x q := by unfold mayQ; exact @decide_eq_true_iff _ (Classical.propDecidable _)
theorem mayQ_no {T : List Nat} {i : Nat} {x : Nd} {q : Nat} (h : ¬ MayQ T i x q) : mayQ T i x q = false := by
  cases e : mayQ T i x q with
  | true => exact absurd (mayQ_iff.1 e) h
  | false => rfl
theorem mayQ_zero {T : List Nat} {i : Nat} {x : Nd} {b : Bool} (h : b = true ↔ i ∈ T) : (!b) = mayQ T i x 0 := by
  rw [Bool.eq_iff_iff, mayQ_iff]
  unfold MayQ
  simp only [List.take_zero, List.not_mem_nil, false_implies, implies_true, or_true, and_true]
  cases b <;> simp_all
theorem mayQ_fb {T : List Nat} {i : Nat} {x : Nd} {q : Nat} (hk : x.k = 9) : mayQ T i x q = mayQ T i x (q + 1) := by
  rw [Bool.eq_iff_iff, mayQ_iff, mayQ_iff]; unfold MayQ; simp [hk]
theorem mayQ_step {T : List Nat} {i : Nat} {x : Nd} {q Z : Nat} {b : Bool} (hk : x.k ≠ 9) (hz : x.ins[q]? = some (Z : Int)) (hb : b = true ↔ Z ∈ T) : (mayQ T i x q && b) = mayQ T i x (q + 1) := by
  rw [Bool.eq_iff_iff, Bool.and_eq_true, mayQ_iff, mayQ_iff, hb]
  unfold MayQ
  rw [List.take_add_one, hz, Option.toList_some]
  constructor
  · rintro ⟨⟨h1, h2⟩, h3⟩
    refine ⟨h1, .inr fun z hm => ?_⟩
    rcases List.mem_append.1 hm with hm | hm
    · rcases h2 with h2 | h2
      · exact absurd h2 hk
      · exact h2 z hm
    · simp only [List.mem_singleton] at hm
      subst hm
      exact ⟨by omega, by rw [Int.toNat_natCast]; exact h3⟩
  · rintro ⟨h1, h2⟩
    rcases h2 with h2 | h2
    · exact absurd h2 hk
    · refine ⟨⟨h1, .inr fun z hm => h2 z (List.mem_append.2 (.inl hm))⟩, ?_⟩
      have := (h2 (Z : Int) (List.mem_append.2 (.inr (by simp)))).2
      rwa [Int.toNat_natCast] at this
theorem mayQ_all {g : List Nd} {T : List Nat} {i : Nat} {x : Nd} (hx : g[i]? = some x) : mayQ T i x x.ins.length = true ↔ MayNext g T i := by
  rw [mayQ_iff]
  unfold MayQ MayNext
  rw [List.take_length]
  constructor
  · rintro ⟨h1, h2⟩; exact ⟨h1, x, hx, h2⟩
  · rintro ⟨h1, y, hy, h2⟩
    rw [hx] at hy; injection hy with hy; subst hy
    exact ⟨h1, h2⟩
theorem mayQ_mono {T : List Nat} {i : Nat} {x : Nd} {q : Nat} (h : mayQ T i x q = false) : mayQ T i x (q + 1) = false := mayQ_no fun hh => by
  have : MayQ T i x q := ⟨hh.1, by
    rcases hh.2 with h2 | h2
    · exact .inl h2
    · refine .inr fun z hz => h2 z ?_
      rw [List.take_add_one]
      exact List.mem_append.2 (.inl hz)⟩
  rw [mayQ_iff.2 this] at h; cases h
/-- what the search for the next one knows, before place k -/
def NextIs (g : List Nd) (T : List Nat) (k : Nat) (nx : Int) : Prop := (nx = -1 ∧ ∀ j, j < k → ¬ MayNext g T j) ∨ ∃ m : Nat, nx = (m : Int) ∧ nextO g T = some m
def lenV : Value → Nat
  | .slice _ n _ => n
  | _ => 0
set_option maxHeartbeats 32000000 in
theorem refOrder_any (A : Option Addr) (l : List Gn) (c : Nat) (w : World) (hG : Gr w A l) (hl : l.length ≤ maxLen) :
    Calls Tryd.prog 18 #[.slice A l.length c] w (OrdD (nds l) w) := by
  have HML := Lib.hid hl
  unfold maxLen at hl
  have hcall := refCheck_any A l c w hG HML.out
  have HG := Lib.hid hG; clear hG
  unfold ChkD at hcall
  by_cases hp : (checkR (nds l)).2 = 0
  · obtain ⟨l0, hord, hot, hol⟩ := order_there hp
    obtain ⟨hp0, hnode, _, _⟩ := checkR_zero hp
    have hmay := putE_may hp0
    have hl32 : l.length ≤ 32 := by have := hmay.1.2; rw [nds_len] at this; exact this
    have hport : ∀ (j : Nat) (x : Gn), l[j]? = some x → ∀ z ∈ x.nd.ins, portOk (nds l) z := fun j x hx => by
      have hj := (List.getElem?_eq_some_iff.1 hx).1
      have h := hnode j (by rw [nds_len]; exact hj)
      rw [nodeE_at (n := x.nd) (by unfold nds; rw [List.getElem?_map, hx]; rfl)] at h
      exact (err_zero h).2.1.1
    have hnext : ∀ T : List Nat, OrdT (nds l) T → T.length < l.length → ∃ i, nextO (nds l) T = some i := fun T hT hn => next_there hp hT (by rw [nds_len]; exact hn)
    have hordr : ∀ T, OrdT (nds l) T → T.length = l.length → orderR (nds l) = (T, 0) := fun T hT hn => orderR_ok hp hT (by rw [nds_len]; exact hn)
    rw [hp] at hcall
    generalize (checkR (nds l)).1 = N at *
    have HC := Lib.hid hcall; have HPO := Lib.hid hport; have HNX := Lib.hid hnext; have HORD := Lib.hid hordr
    clear hcall hp hord hot hol hp0 hnode hmay hport hnext hordr
    obtain ⟨i0, hi0, hz0, hz1, hz2⟩ := info_parts infoBool
    have HI0 := Lib.hid hi0; have HZ0 := Lib.hid hz0; have HZ1 := Lib.hid hz1; have HZ2 := Lib.hid hz2; clear hi0 hz0 hz1 hz2
    go_enter Tryd.func18, Tryd.ntmps18
    go_wp2_with fail
    refine HC.out.mono ?_; rintro e w1 ⟨rfl, hb1⟩
    have HB1 := Lib.hid hb1; clear hb1
    dsimp only
    obtain ⟨w2, hr2, ho2, hg2⟩ := run_make_full (P := Tryd.prog) w1 w.heap.size 37 4 i0 _ 1 Tryd.underlying37 HI0.out HZ0.out HZ1.out .i64 .i64 l.length (by rw [HZ2.out]; omega) (by unfold maxLen; omega) HB1.out.size
    have hb2 := HB1.out.grown hg2 HB1.out.size (fun _ e => by cases e)
    rw [made_bools] at ho2
    have hrs0 : RowsS w w2 (.slice none 0 0) w1.heap.size [] (List.replicate l.length false) := ⟨hb2, World.ownsRow_nil _ _ _ _, by rw [List.length_replicate]; exact ho2⟩
    have HR2 := Lib.hid hr2; have HRS0 := Lib.hid hrs0; clear hr2 ho2 hg2 hb2 hrs0
    generalize w1.heap.size = gs at *
    go_wp2_with (refine wpList_make_is _ _ 37 rfl rfl _ _ _ rfl rfl HR2.out ?_)
    go_loopw [6] (fun v wx => ∃ (T : List Nat) (seen : List Bool), T.length ≤ l.length ∧ OrdT (nds l) T ∧ Marks T seen ∧ seen.length = l.length ∧ RowsS w wx v gs T seen) (fun v _ => l.length - lenV v)
    case atStart => exact ⟨[], _, Nat.zero_le _, OrdT.nil _, Marks.start _, List.length_replicate, HRS0.out⟩
    case round =>
      obtain ⟨wo, rfl⟩ : ∃ wo, wo = wr := ⟨_, rfl⟩
      obtain ⟨T, seen, hTl, hT, hmk, hsl, hrs⟩ := hrel
      obtain ⟨VA, vc, rfl⟩ := hrs.slice
      have HT := Lib.hid hT; have HMK := Lib.hid hmk; have HSL := Lib.hid hsl; have HRS := Lib.hid hrs; clear hT hmk hsl hrs HRS0
      by_cases hTn : T.length < l.length
      · have hTz : (T.length : Int) < (l.length : Int) := by omega
        go_wp2_with fail
        go_loop [8, 9] (fun nx i => ∃ (k : Nat) (X : Int), nx = .int .i64 X ∧ i = .int .i64 k ∧ k ≤ l.length ∧ NextIs (nds l) T k X) (fun _ i => l.length - (intOf i).toNat)
        case atStart => exact ⟨0, -1, rfl, rfl, by omega, .inl ⟨rfl, fun j h => absurd h (by omega)⟩⟩
        case round =>
          obtain ⟨k, X, rfl, rfl, hk, hnx⟩ := hrel
          rcases hnx with ⟨rfl, hno⟩ | ⟨m, rfl, hm⟩
          · have HNO := Lib.hid hno; clear hno
            by_cases hkl : k < l.length
            · have hkz : (k : Int) < (l.length : Int) := by omega
              obtain ⟨x, hx⟩ : ∃ x, l[k]? = some x := ⟨_, List.getElem?_eq_getElem hkl⟩
              have hxn : (nds l)[k]? = some x.nd := by unfold nds; rw [List.getElem?_map, hx]; rfl
              have hpx := HPO.out k x hx
              have hti := HG.out.ins hx
              have hil : x.nd.ins.length ≤ maxLen := Nat.le_trans (HG.out.ok hx).c.1 (HG.out.ok hx).c.2
              unfold maxLen at hil
              obtain ⟨b, o, rfl, hbl, hcl⟩ := HG.out.at_ hx
              obtain ⟨c0, _, _, _, c4⟩ := hcl wo HRS.out.below
              obtain ⟨bt, hbt⟩ : ∃ bt, seen[k]? = some bt := ⟨_, List.getElem?_eq_getElem (by have := HSL.out; omega)⟩
              obtain ⟨d1, _⟩ := HRS.out.bit hbt
              have HB0 := Lib.hid (mayQ_zero (x := x.nd) (HMK.out k bt hbt))
              have HXN := Lib.hid hxn; have HPX := Lib.hid hpx; have HTI := Lib.hid hti
              clear hx hxn hpx hti hcl hbt
              go_wp2_with fail
              go_loop [10, 11] (fun mv j => ∃ q : Nat, j = .int .i64 q ∧ q ≤ x.nd.ins.length ∧ mv = .bool (mayQ T k x.nd q)) (fun _ j => x.nd.ins.length - (intOf j).toNat)
              case atStart => exact ⟨0, rfl, by omega, by rw [← HB0.out]⟩
              case round =>
                obtain ⟨q, rfl, hq, rfl⟩ := hrel
                clear d1
                by_cases hql : q < x.nd.ins.length
                · have hqz : (q : Int) < (x.nd.ins.length : Int) := by omega
                  cases hmq : mayQ T k x.nd q with
                  | false =>
                    have HMQ := Lib.hid (mayQ_mono hmq); clear hmq
                    go_wp2_with fail
                    go_round
                    case rel => exact ⟨q + 1, by simp, by omega, by rw [HMQ.out]⟩
                    case measure => simp only [intOf]; omega
                  | true =>
                    by_cases h9 : x.nd.k = 9
                    · have h9z : (((x.nd.k : Nat) : Int) == 9) = true := by simp; omega
                      have HMQ : Hid (mayQ T k x.nd (q + 1) = true) := Lib.hid (by rw [← mayQ_fb h9]; exact hmq)
                      clear hmq h9
                      go_wp2_with fail
                      go_round
                      case rel => exact ⟨q + 1, by simp, by omega, by rw [HMQ.out]⟩
                      case measure => simp only [intOf]; omega
                    · have h9z : (((x.nd.k : Nat) : Int) == 9) = false := by simp; omega
                      obtain ⟨z, hz⟩ : ∃ z, x.nd.ins[q]? = some z := ⟨_, List.getElem?_eq_getElem hql⟩
                      obtain ⟨hz0, y, hy, _⟩ := HPX.out z (List.mem_of_getElem? hz)
                      obtain ⟨Z, rfl⟩ : ∃ Z : Nat, z = (Z : Int) := Int.eq_ofNat_of_zero_le hz0
                      have hZl : Z < l.length := by
                        have := (List.getElem?_eq_some_iff.1 hy).1
                        rw [Int.toNat_natCast, nds_len] at this; exact this
                      have hZz : (Z : Int) < (l.length : Int) := by omega
                      obtain ⟨bz, hbz⟩ : ∃ bz, seen[Z]? = some bz := ⟨_, List.getElem?_eq_getElem (by have := HSL.out; omega)⟩
                      obtain ⟨d2, _⟩ := HRS.out.bit hbz
                      obtain ⟨bb, oo, hXA, hbb, hqq⟩ := ints_at HTI.out hz
                      have q1 := hqq wo HRS.out.below
                      rw [hXA] at c4
                      have HMQ : Hid (mayQ T k x.nd (q + 1) = bz) := Lib.hid (by rw [← mayQ_step h9 hz (HMK.out Z bz hbz), hmq, Bool.true_and])
                      clear hmq h9 hz hy hbz hqq hXA
                      go_wp2_with fail
                      go_round
                      case rel => exact ⟨q + 1, by simp, by omega, by rw [HMQ.out]⟩
                      case measure => simp only [intOf]; omega
                · have hqz : ¬ (q : Int) < (x.nd.ins.length : Int) := by omega
                  obtain rfl : q = x.nd.ins.length := by omega
                  cases hmq : mayQ T k x.nd x.nd.ins.length with
                  | false =>
                    have hnm : ¬ MayNext (nds l) T k := fun h => by rw [(mayQ_all HXN.out).2 h] at hmq; cases hmq
                    have HNM := Lib.hid hnm; clear hmq hnm
                    go_wp2_with fail
                    go_round
                    case rel =>
                      refine ⟨k + 1, -1, rfl, by simp, by omega, .inl ⟨rfl, fun j hj => ?_⟩⟩
                      by_cases e : j = k
                      · subst e; exact HNM.out
                      · exact HNO.out j (by omega)
                    case measure => simp only [intOf]; omega
                  | true =>
                    have HNM := Lib.hid ((mayQ_all HXN.out).1 hmq); clear hmq
                    go_wp2_with fail
                    go_round
                    case rel => exact ⟨k + 1, (k : Int), rfl, by simp, by omega, .inr ⟨k, rfl, firstP_some.2 ⟨by rw [nds_len]; exact hkl, HNM.out, HNO.out⟩⟩⟩
                    case measure => simp only [intOf]; omega
            · exfalso
              obtain ⟨i, hi⟩ := HNX.out T HT.out hTn
              have h := nextO_lt hi
              rw [nds_len] at h
              exact HNO.out i (by omega) h.2
          · have hml := (nextO_lt hm).1
            rw [nds_len] at hml
            have hmz : (m : Int) < (l.length : Int) := by omega
            obtain ⟨bt, hbt⟩ : ∃ bt, seen[m]? = some bt := ⟨_, List.getElem?_eq_getElem (by have := HSL.out; omega)⟩
            obtain ⟨e1, e2⟩ := HRS.out.bit hbt
            have HMW := Lib.hid (HRS.out.mark m (by have := HSL.out; omega)); have HM := Lib.hid hm
            clear hbt hm
            by_cases hkl : k < l.length
            · have hkz : (k : Int) < (l.length : Int) := by omega
              have htz : ¬ (m : Int) < 0 := by omega
              go_upto_region 21 with fail
              generalize (wo.setCell ⟨gs, m, none⟩ (Value.bool true)) = wm at *
              clear e1 e2
              go_wp2_with (at_builtin; refine wpList_push rfl _ _ rfl m _ rfl rfl rfl HMW.out (by omega) ?_; intro v5 w5 hpu hg5; have HPR := Lib.hid hpu; clear hpu hg5)
              go_roundw
              case rel => exact ⟨T ++ [m], seen.set m true, by rw [List.length_append, List.length_singleton]; omega, HT.out.snoc HM.out, HMK.out.push m, by rw [List.length_set]; exact HSL.out, HPR.out⟩
              case measure =>
                obtain ⟨VB, vd, rfl⟩ := HPR.out.slice
                show l.length - (T ++ [m]).length < l.length - T.length
                rw [List.length_append, List.length_singleton]; omega
            · have hkz : ¬ (k : Int) < (l.length : Int) := by omega
              have htz : ¬ (m : Int) < 0 := by omega
              go_upto_region 21 with fail
              generalize (wo.setCell ⟨gs, m, none⟩ (Value.bool true)) = wm at *
              clear e1 e2
              go_wp2_with (at_builtin; refine wpList_push rfl _ _ rfl m _ rfl rfl rfl HMW.out (by omega) ?_; intro v5 w5 hpu hg5; have HPR := Lib.hid hpu; clear hpu hg5)
              go_roundw
              case rel => exact ⟨T ++ [m], seen.set m true, by rw [List.length_append, List.length_singleton]; omega, HT.out.snoc HM.out, HMK.out.push m, by rw [List.length_set]; exact HSL.out, HPR.out⟩
              case measure =>
                obtain ⟨VB, vd, rfl⟩ := HPR.out.slice
                show l.length - (T ++ [m]).length < l.length - T.length
                rw [List.length_append, List.length_singleton]; omega
      · have hTz : ¬ (T.length : Int) < (l.length : Int) := by omega
        have HN := Lib.hid (HORD.out T HT.out (by omega))
        go_wp2_with fail
        go_ret2
        exact OrdD.mk HN.out HRS.out.todo HRS.out.below
  · have HN := Lib.hid (orderR_no hp)
    have hpz : ((checkR (nds l)).2 != 0) = true := by simpa using hp
    generalize (checkR (nds l)).2 = E at *
    generalize (checkR (nds l)).1 = N at *
    have HC := Lib.hid hcall; clear hcall hp
    go_enter Tryd.func18, Tryd.ntmps18
    go_wp2_with fail
    refine HC.out.mono ?_; rintro e w1 ⟨rfl, hb1⟩
    have HB1 := Lib.hid hb1; clear hb1 HC
    dsimp only
    go_wp2_with fail
    go_ret2
    exact OrdD.mk HN.out (World.ownsRow_nil _ _ _ _) HB1.out
end Go.Proofs.YtocdganglokplaaDoor
