/- ChkStuck, ChkMake, ChkPush, ChkSearch -/
import Derived.Test.YtocdganglokplaaDoorChkRunA
import Derived.Test.YtocdganglokplaaDoorChkStays
import Derived.Laws.OwnMore
import Derived.Test.YtocdganglokplaaDoorChkMath
import Derived.Deep.DeepCutAuto
import Derived.Deep.CutRange
namespace Go.Proofs.YtocdganglokplaaDoor
set_option linter.unusedVariables false
section
open Go.ChangeShapes Go.WideShapes Go.ChangeAt Go.RowKit Go.BigFrame
set_option maxRecDepth 100000
def kindT : Kind Bool := ⟨fun b => [.bool b], 1, fun _ => rfl, fun t u hu => by simp only [List.mem_singleton] at hu; subst hu; rfl, by decide⟩
theorem infoBool : (Tryd.prog.info? 4).map (fun i => (i.zero, i.size, i.bytes)) = some (some (.bool false), 1, 1) := by kernel_rfl
theorem row_bools : ∀ (l : List Bool), Rw.row kindT l = l.map Value.bool
  | [] => rfl
  | x :: l => by rw [Rw.row_cons, row_bools l]; rfl
theorem made_bools (n : Nat) : (madeCells (Value.bool false).cells (n * 1)).toList = Rw.row kindT (List.replicate n false) := by
  have : (Value.bool false).cells = #[.bool false] := rfl
  rw [this, toList_madeCells_one, row_bools, List.map_replicate, Nat.mul_one]
theorem ints_of (l : List Nat) : Rw.row kindI (l.map Int.ofNat) = l.map fun x => Value.int .i64 (x : Nat) := by rw [row_ints, List.map_map]; rfl
noncomputable def stuckB (g : List Nd) (i : Nat) (least : Int) : Bool := @decide (Stuck g i least) (Classical.propDecidable _)
theorem stuckB_iff {g : List Nd} {i : Nat} {least : Int} : stuckB g i least = true ↔ Stuck g i least := by unfold stuckB; exact @decide_eq_true_iff _ (Classical.propDecidable _)
theorem stuckB_no {g : List Nd} {i : Nat} {least : Int} (h : ¬ Stuck g i least) : false = stuckB g i least := by
  cases e : stuckB g i least with
  | true => exact absurd (stuckB_iff.1 e) h
  | false => rfl
theorem Bfs.small {g : List Nd} {least : Int} {first tgt i : Nat} {todo : List Nat} {seen : List Bool} (h : Bfs g least first tgt i todo seen) (hf : first < 2 * g.length) : ∀ s ∈ todo, s < 2 * g.length := fun s hs => by
  rcases h.reach s hs with rfl | hr
  · exact hf
  · cases hr with
    | one hr => exact hr.lt
    | more _ hr => exact hr.lt
/-- the rows of the search, of the call's own: what is to do, and what was seen -/
structure RowsS (w0 w : World) (v : Value) (gs : Nat) (todo : List Nat) (seen : List Bool) : Prop where
  below : Below w0.heap.size w0 w
  todo : w.ownsRow w0.heap.size 3 kindI.K v todo.length (Rw.row kindI (todo.map Int.ofNat))
  seen : w.ownsRow w0.heap.size 4 kindT.K (.slice (some ⟨gs, 0, none⟩) seen.length seen.length) seen.length (Rw.row kindT seen)
section
variable {w0 w w' : World} {v v' : Value} {gs : Nat} {todo : List Nat} {seen : List Bool}
theorem RowsS.kept (h : RowsS w0 w v gs todo seen) (hb : Below w.heap.size w w') : RowsS w0 w' v gs todo seen := ⟨h.below.trans (hb.mono h.below.size), Rw.own_kept h.todo hb, Rw.own_kept h.seen hb⟩
theorem RowsS.mark (h : RowsS w0 w v gs todo seen) (j : Nat) (hj : j < seen.length) : RowsS w0 (w.setCell ⟨gs, j, none⟩ (.bool true)) v gs todo (seen.set j true) where
  below := h.below.setCell (h.seen.lt gs rfl).1 _
  todo := h.todo.kept (grown_set w gs j _) (by
    rcases Rw.own_apart2 h.seen h.todo (by decide) with e | e
    · exact .inl e
    · exact .inr e)
  seen := by
    have h1 := (h.seen.stored j (.bool true)).1
    have e : (Rw.row kindT seen).set j (.bool true) = Rw.row kindT (seen.set j true) := by rw [row_bools, row_bools, List.map_set]
    rw [e] at h1
    rw [List.length_set]; exact h1
theorem RowsS.push (h : RowsS w0 w v gs todo seen) (t : Nat) (o : Obj) (hv : w'.ownsRow w0.heap.size 3 kindI.K v' ((todo.map Int.ofNat).length + 1) (Rw.row kindI (todo.map Int.ofNat ++ [(t : Int)]))) (hg : (w.alloc o).grownBy w' v.ownBlock) : RowsS w0 w' v' gs (todo ++ [t]) seen where
  below := Rw.own_below (h.todo.alloc o) hg (h.below.alloc h.below.size o) (by have := h.below.size; simp; omega)
  todo := by
    rw [List.length_append, List.length_singleton, List.map_append]
    rw [List.length_map] at hv
    exact hv
  seen := (h.seen.alloc o).kept hg (by
    rcases Rw.own_apart2 h.todo h.seen (by decide) with e | e
    · exact .inl e
    · exact .inr e)
theorem RowsS.at_ (h : RowsS w0 w v gs todo seen) {i s : Nat} (hi : todo[i]? = some s) : ∃ g c, v = .slice (some ⟨g, 0, none⟩) todo.length c ∧ w.cell? ⟨g, i, none⟩ = some (.int .i64 (s : Nat)) := by
  have hl := (List.getElem?_eq_some_iff.1 hi).1
  rcases id h.todo.2 with ⟨_, h0⟩ | ⟨g, cap, cur, e, _⟩
  · omega
  · refine ⟨g, cap, e, ?_⟩
    have hown := h.todo
    rw [e] at hown
    have := hown.cells (g := g) rfl i (.int .i64 (s : Nat)) (by rw [ints_of, List.getElem?_map, hi]; rfl)
    rwa [add_zero_off] at this
theorem RowsS.bit (h : RowsS w0 w v gs todo seen) {j : Nat} {b : Bool} (hj : seen[j]? = some b) : w.cell? ⟨gs, j, none⟩ = some (.bool b) ∧ w.frozen? ⟨gs, j, none⟩ = false := by
  have := h.seen.cells (g := gs) rfl j (.bool b) (by rw [row_bools, List.getElem?_map, hj]; rfl)
  rw [add_zero_off] at this
  exact ⟨this, h.seen.frozenAt j⟩
end
end

section
open Go.ChangeShapes Go.WideShapes Go.ChangeAt Go.RowKit Go.BigFrame
/-- a make that is wanted -/
theorem wpList_make_is {P : Program} {ops : Array Oper} {rest : List Oper} {o : Oper} {a : Act} {w w' : World} {Q : Exit → Act → World → Prop} (l c : Operand) (t : TypeId) (ho : o.op = Op.makeSlice t l c) (hw : Region.wanted o (yielded ops a.tmps) = true)
    (x y v' : Value) (hl : a.eval l = x) (hc : a.eval c = y) (hr : (Instr.makeSlice t x y).run P w = .ok v' w') (h : wpList P ops Q rest (a.put o.dst v') w') : wpList P ops Q (o :: rest) a w := by
  unfold wpList
  rw [if_pos hw]
  refine .inl ?_
  unfold Oper.wp
  simp [execOp, ho, hl, hc, hr, Result.andThen]
  exact h
end

section
open Go.ChangeShapes Go.WideShapes Go.ChangeAt Go.RowKit Go.BigFrame
set_option maxRecDepth 100000
theorem wpList_push {ops : Array Oper} {rest : List Oper} {o : Oper} {a : Act} {Q : Exit → Act → World → Prop} (hgd : o.guard = none) (s x : Operand)
    (ho : o.op = .call { callee := .builtin .append, args := #[s, x], argTypes := #[33, 33] }) {w0 W : World} {v : Value} {gs : Nat} {todo : List Nat} {seen : List Bool} (T g : Nat) (hs : a.eval s = v) (hx : a.eval x = .slice (some ⟨g, 0, none⟩) 1 1) (hg : g = W.heap.size)
    (h : RowsS w0 W v gs todo seen) (hb : todo.length ≤ 1000)
    (k : ∀ v' w', RowsS w0 w' v' gs (todo ++ [T]) seen → (W.alloc (.cells #[.int .i64 (T : Nat)] 3)).grownBy w' v.ownBlock → wpList Tryd.prog ops Q rest (a.put o.dst v') w') :
    wpList Tryd.prog ops Q (o :: rest) a (W.alloc (.cells #[.int .i64 (T : Nat)] 3)) := by
  subst hg
  have hlm : (todo.map Int.ofNat).length = todo.length := List.length_map _
  refine Rw.append_own kindI 3 33 Tryd.underlying33 infoInt rfl hgd s x ho w0.heap.size v todo.length (todo.map Int.ofNat) hs (h.todo.alloc _) _ 1 [(T : Int)] hx (fun e => by cases e) (Rw.Ts.made (κ := kindI) W [(T : Int)] _) (by unfold maxLen; simp; omega) (by simp; omega) (by have := h.below.size; simp; omega) ?_
  intro v' w' hv hg
  refine k v' w' (h.push T _ ?_ hg) hg
  rw [hlm]; exact hv
end

section
open Go.ChangeShapes Go.WideShapes Go.ChangeAt Go.RowKit Go.BigFrame
set_option maxRecDepth 100000
theorem toG_port {g : List Nd} {i : Int} {k n p : Nat} (h : (toG i 0 g)[k]? = some (n, p)) : ∃ x, g[n]? = some x := by
  obtain ⟨_, x, hx, _⟩ := mem_toG.1 (List.mem_of_getElem? h)
  exact ⟨x, by simpa using hx⟩
set_option maxHeartbeats 16000000 in
theorem refStuck_any (A : Option Addr) (l : List Gn) (c i : Nat) (least : Int) (w : World) (hG : Gr w A l) (hl : l.length ≤ 40) (hi : i < l.length) (hI : ∀ x ∈ nds l, x.ins.length ≤ 40) :
    Calls Tryd.prog 33 #[.slice A l.length c, .int .i64 (i : Nat), .int .i64 least] w fun e w' => e = .returned (.bool (stuckB (nds l) i least)) ∧ Below w.heap.size w w' := by
  obtain ⟨x, hx⟩ : ∃ x, l[i]? = some x := ⟨_, List.getElem?_eq_getElem hi⟩
  have hnx : (nds l)[i]? = some x.nd := by unfold nds; rw [List.getElem?_map, hx]; rfl
  have hiz : (i : Int) < (l.length : Int) := by omega
  obtain ⟨b, o, rfl, hbl, hcl⟩ := hG.at_ hx
  have hst := refStays_any x.nd.k x.nd.a x.nd.b x.nd.d x.nd.ins x.A x.c least w
  have HG := Lib.hid hG; have HI := Lib.hid hI; have HX := Lib.hid hnx
  obtain ⟨c0, c1, c2, c3, c4⟩ := hcl w (Below.refl _ _)
  have HCL := Lib.hid hcl
  have hee : (⟨x.nd.k, x.nd.a, x.nd.b, x.nd.d, x.nd.ins⟩ : Nd) = x.nd := rfl
  rw [hee] at hst
  clear hG hI hnx hcl hx hee
  cases hs : x.nd.stays least with
  | false =>
    rw [hs] at hst
    have HS := Lib.hid hst
    have HN := Lib.hid (stuckB_no (g := nds l) (i := i) (least := least) fun h => by
      obtain ⟨y, hy, hys, _⟩ := h
      rw [HX.out] at hy; injection hy with hy; subst hy
      rw [hs] at hys; cases hys)
    clear hst hs
    go_enter Tryd.func33, Tryd.ntmps33
    go_wp2_with fail
    refine HS.out.mono ?_; rintro e w1 ⟨rfl, hb1⟩
    have HB1 := Lib.hid hb1; clear hb1 c0 c1 c2 c3 c4
    dsimp only
    go_wp2_with fail
    go_ret
    exact ⟨retb HN.out, HB1.out⟩
  | true =>
    rw [hs] at hst
    have HS := Lib.hid hst; have HSX := Lib.hid hs; clear hst hs
    obtain ⟨i0, hi0, hz0, hz1, hz2⟩ := info_parts infoBool
    have HI0 := Lib.hid hi0; have HZ0 := Lib.hid hz0; have HZ1 := Lib.hid hz1; have HZ2 := Lib.hid hz2; clear hi0 hz0 hz1 hz2
    go_enter Tryd.func33, Tryd.ntmps33
    go_wp2_with fail
    refine HS.out.mono ?_; rintro e w1 ⟨rfl, hb1⟩
    have HB1 := Lib.hid hb1; clear hb1 c0 c1 c2 c3 c4
    dsimp only
    obtain ⟨c0, c1, c2, c3, c4⟩ := HCL.out w1 HB1.out
    have hx3 : ∃ X : Int, x.nd.d = X := ⟨_, rfl⟩
    obtain ⟨X, hX⟩ := hx3
    rw [hX] at c3
    have HX3 := Lib.hid hX; clear hX
    obtain ⟨f0, hf0, hfb⟩ : ∃ f0 : Nat, startN x.nd i least = f0 ∧ f0 < 2 * l.length ∧ f0 = 2 * i + if X = least then 1 else 0 := ⟨_, rfl, by unfold startN; split <;> omega, by unfold startN; rw [HX3.out]⟩
    have HF0 := Lib.hid hf0; have HFB := Lib.hid hfb; clear hf0 hfb
    have hmk := run_make_full (P := Tryd.prog) w1 w.heap.size 37 4 i0 _ 1 Tryd.underlying37 HI0.out HZ0.out HZ1.out .i64 .i64 (2 * l.length) (by rw [HZ2.out]; omega) (by unfold maxLen; omega) HB1.out.size
    obtain ⟨w2, hr2, ho2, hg2⟩ := hmk
    have hb2 := HB1.out.grown hg2 HB1.out.size (fun _ e => by cases e)
    rw [made_bools] at ho2
    have hrs0 : RowsS w w2 (.slice none 0 0) w1.heap.size [] (List.replicate (2 * l.length) false) := ⟨hb2, World.ownsRow_nil _ _ _ _, by rw [List.length_replicate]; exact ho2⟩
    rw [show ((2 * l.length : Nat) : Int) = 2 * (l.length : Int) by omega] at hr2
    have HR2 := Lib.hid hr2; have HRS0 := Lib.hid hrs0; clear hr2 ho2 hg2 hb2 hrs0 c0 c1 c2 c3 c4
    obtain ⟨d0, d1, d2, d3, d4⟩ := HCL.out w2 HRS0.out.below
    rw [HX3.out] at d3
    generalize w1.heap.size = gs at *
    go_upto_if 34 with (refine wpList_make_is _ _ 37 rfl rfl _ _ _ rfl rfl HR2.out ?_)
    go_cut [8] from 35 to 36 (fun v wx => v = .int .i64 (f0 : Nat) ∧ wx = w2)
    case first =>
      by_cases hXl : X = least
      · have hXz : (X == least) = true := by simpa using hXl
        have hf : (2 * (i : Int) + 1) = (f0 : Int) := by have := HFB.out.2; rw [if_pos hXl] at this; omega
        have HF := Lib.hid hf; clear hf hXl
        go_wp2_with fail
        go_meet
        exact ⟨by rw [HF.out], rfl⟩
      · have hXz : (X == least) = false := by simpa using hXl
        have hf : (2 * (i : Int)) = (f0 : Int) := by have := HFB.out.2; rw [if_neg hXl] at this; omega
        have HF := Lib.hid hf; clear hf hXl
        go_wp2_with fail
        go_meet
        exact ⟨by rw [HF.out], rfl⟩
    case rest =>
      obtain ⟨rfl, rfl⟩ := hcut
      have hown := own_base (World.ownsRow_lit (base := wc.heap.size) (e := 3) (size := 1) wc #[.int .i64 (f0 : Nat)] 1 (Nat.le_refl _) (by decide) rfl) HRS0.out.below.size
      have hrs : RowsS w (wc.alloc (.cells #[.int .i64 (f0 : Nat)] 3)) (.slice (some ⟨wc.heap.size, 0, none⟩) 1 1) gs [f0] (List.replicate (2 * l.length) false) := ⟨HRS0.out.below.alloc HRS0.out.below.size _, hown, HRS0.out.seen.alloc _⟩
      have hbf := Bfs.start (nds l) least f0 (2 * i + 1)
      rw [nds_len] at hbf
      have HRS := Lib.hid hrs; have HBF := Lib.hid hbf; clear hown hrs hbf HRS0 d0 d1 d2 d3 d4
      go_wp2_with fail
      go_loopw [9, 10] (fun v n wx => ∃ (k : Nat) (todo : List Nat) (seen : List Bool), n = .int .i64 k ∧ k ≤ todo.length ∧ Bfs (nds l) least f0 (2 * i + 1) k todo seen ∧ RowsS w wx v gs todo seen) (fun _ n _ => 1 + 2 * l.length - (intOf n).toNat)
      case atStart => exact ⟨0, [f0], _, rfl, by omega, HBF.out, HRS.out⟩
      case round =>
        obtain ⟨wo, rfl⟩ : ∃ wo, wo = wr := ⟨_, rfl⟩
        obtain ⟨k, todo, seen, rfl, hk, hbf, hrs⟩ := hrel
        obtain ⟨g0, cap0, rfl, _⟩ := hrs.at_ hbf.head
        have hbound := hbf.bound
        rw [nds_len] at hbound
        have HBFS := Lib.hid hbf; have HRW := Lib.hid hrs; clear hbf hrs HRS HBF
        by_cases hkl : k < todo.length
        · have hkz : (k : Int) < (todo.length : Int) := by omega
          obtain ⟨s, hs⟩ : ∃ s, todo[k]? = some s := ⟨_, List.getElem?_eq_getElem hkl⟩
          have hs80 : s < 80 := by
            have := HBFS.out.small (by rw [nds_len]; exact HFB.out.1) s (List.mem_of_getElem? hs)
            rw [nds_len] at this; omega
          obtain ⟨_, _, e, q0⟩ := HRW.out.at_ hs
          cases e
          have hin := HBFS.out.in_ hs
          have hcall := refTo_any (some ⟨b, o, none⟩) l c ((s : Int) / 2) wo (HG.out.below HRW.out.below) (by omega) HI.out
          have hport : ((s : Int) / 2) = ((s / 2 : Nat) : Int) := by omega
          rw [show toG ((s : Int) / 2) 0 (nds l) = toG ((s / 2 : Nat) : Int) 0 (nds l) by rw [hport]] at hcall
          have hln := toG_len ((s / 2 : Nat) : Int) 40 (nds l) 0 HI.out
          rw [nds_len] at hln
          have hl1600 : (toG ((s / 2 : Nat) : Int) 0 (nds l)).length ≤ 1600 := by have := Nat.mul_le_mul_right 40 hl; omega
          have HC := Lib.hid hcall; have HIN := Lib.hid hin; clear hcall hport hin hln hs
          generalize hps : toG ((s / 2 : Nat) : Int) 0 (nds l) = ps at *
          have HPS := Lib.hid hps; clear hps
          go_wp2_with fail
          refine HC.out.mono ?_; rintro e w3 ⟨⟨vp, rfl, hvp⟩, hb3⟩
          obtain ⟨PA, pc, rfl, _, _, _, _, _⟩ := Rw.Ts.of_own hvp
          have HVP := Lib.hid hvp; have HRW3 := Lib.hid (HRW.out.kept hb3); clear hvp hb3 HC q0
          dsimp only
          go_wp2_with fail
          go_loopw [9, 12] (fun v n wx => ∃ (q : Nat) (todo : List Nat) (seen : List Bool), n = .int .i64 q ∧ q ≤ ps.length ∧ BfsIn (nds l) least f0 (2 * i + 1) k todo seen s q ∧ RowsS w wx v gs todo seen ∧ wx.ownsRow wo.heap.size 74 kindP.K (.slice PA ps.length pc) ps.length (Rw.row kindP ps)) (fun _ n _ => ps.length - (intOf n).toNat)
          case atStart => exact ⟨0, todo, seen, rfl, by omega, HIN.out, HRW3.out, HVP.out⟩
          case round =>
            obtain ⟨wi, rfl⟩ : ∃ wi, wi = wr := ⟨_, rfl⟩
            obtain ⟨q, todo', seen', rfl, hq, hbf, hrs, hvp⟩ := hrel
            clear HRW3 HIN HVP
            obtain ⟨g1, cap1, rfl, q1⟩ := hrs.at_ hbf.cur
            have hkl' : k < todo'.length := (List.getElem?_eq_some_iff.1 hbf.cur).1
            have hkz' : (k : Int) < (todo'.length : Int) := by omega
            have hbound' := hbf.base.bound
            rw [nds_len] at hbound'
            by_cases hql : q < ps.length
            · have hqz : (q : Int) < (ps.length : Int) := by omega
              obtain ⟨⟨n, p⟩, hnp⟩ : ∃ np, ps[q]? = some np := ⟨_, List.getElem?_eq_getElem hql⟩
              obtain ⟨pg, rfl⟩ : ∃ pg, PA = some ⟨pg, 0, none⟩ := by
                rcases hvp.2 with ⟨_, h0⟩ | ⟨g, cap, cur, e, _⟩
                · omega
                · injection e with e; exact ⟨g, e⟩
              have hcp := hvp.cells (g := pg) rfl (q * 2) (.int .i64 (n : Nat)) (by have := Rw.row_at (κ := kindP) ps q (n, p) hnp 0 _ rfl; simpa [kindP] using this)
              rw [add_zero_off] at hcp
              have hport : (toG ((s / 2 : Nat) : Int) 0 (nds l))[q]? = some (n, p) := by rw [HPS.out]; exact hnp
              obtain ⟨yn, hyn⟩ := toG_port hport
              obtain ⟨y, hy, rfl⟩ : ∃ y, l[n]? = some y ∧ y.nd = yn := by
                unfold nds at hyn
                rw [List.getElem?_map, Option.map_eq_some_iff] at hyn
                exact hyn
              have hnl : n < l.length := (List.getElem?_eq_some_iff.1 hy).1
              have hnz : (n : Int) < (l.length : Int) := by omega
              obtain ⟨b', o', e, _, hcl⟩ := HG.out.at_ hy
              cases e
              obtain ⟨c0, c1, c2, c3, c4⟩ := hcl wi hrs.below
              have hst := refStays_any y.nd.k y.nd.a y.nd.b y.nd.d y.nd.ins y.A y.c least wi
              have hee : (⟨y.nd.k, y.nd.a, y.nd.b, y.nd.d, y.nd.ins⟩ : Nd) = y.nd := rfl
              rw [hee] at hst
              have HPO := Lib.hid hport; have HYN := Lib.hid hyn; have HBI := Lib.hid hbf; have HRI := Lib.hid hrs; have HVP := Lib.hid hvp; have HCY := Lib.hid hcl
              clear hport hyn hbf hrs hvp hnp hy hcl hee
              cases hs : y.nd.stays least with
              | false =>
                rw [hs] at hst
                have HST := Lib.hid hst; have HSK := Lib.hid (HBI.out.skip HPO.out HYN.out hs); clear hst hs
                go_wp2_with fail
                refine HST.out.mono ?_; rintro e w4 ⟨rfl, hb4⟩
                have HRK := Lib.hid (HRI.out.kept hb4); have HVK := Lib.hid (Rw.own_kept HVP.out hb4); clear hb4 c0 c1 c2 c3 c4 hcp q1
                dsimp only
                go_wp2_with fail
                go_roundw
                case rel => exact ⟨q + 1, todo', seen', by simp, by omega, HSK.out, HRK.out, HVK.out⟩
                case measure => simp only [intOf]; omega
              | true =>
                rw [hs] at hst
                have HST := Lib.hid hst; have HSY := Lib.hid hs; clear hst hs
                go_wp2_with fail
                refine HST.out.mono ?_; rintro e w4 ⟨rfl, hb4⟩
                have hrk := HRI.out.kept hb4
                have hvk := Rw.own_kept HVP.out hb4
                clear c0 c1 c2 c3 c4 hcp q1
                obtain ⟨_, _, e, q1⟩ := hrk.at_ HBI.out.cur
                cases e
                obtain ⟨c0, c1, c2, c3, c4⟩ := HCY.out w4 hrk.below
                obtain ⟨T, hT⟩ : ∃ T, nextC least s n y.nd = T := ⟨_, rfl⟩
                have hT2 : T = 2 * n + if y.nd.d = least then 1 else s % 2 := by rw [← hT]; rfl
                generalize hY : y.nd.d = Y at *
                have hT80 : T < 2 * l.length := by rw [hT2]; split <;> omega
                have HT := Lib.hid hT; have HT2 := Lib.hid hT2; have HRK := Lib.hid hrk; have HVK := Lib.hid hvk; have HY := Lib.hid hY
                clear hT hT2 hrk hvk hb4 hY
                dsimp only
                go_upto_if 84 with fail
                go_cut [14] from 85 to 87 (fun v wx => v = .int .i64 (T : Nat) ∧ wx = w4)
                case first =>
                  by_cases hYl : Y = least
                  · have hYz : (Y == least) = true := by simpa using hYl
                    have hf : (2 * (n : Int) + 1) = (T : Int) := by have := HT2.out; rw [if_pos hYl] at this; omega
                    have HF := Lib.hid hf; clear hf hYl
                    go_wp2_with fail
                    go_meet
                    exact ⟨by rw [HF.out], rfl⟩
                  · have hYz : (Y == least) = false := by simpa using hYl
                    have hf : (2 * (n : Int) + (s : Int) % 2) = (T : Int) := by have := HT2.out; rw [if_neg hYl] at this; omega
                    have HF := Lib.hid hf; clear hf hYl
                    go_wp2_with fail
                    go_meet
                    exact ⟨by rw [HF.out], rfl⟩
                case rest =>
                  obtain ⟨rfl, rfl⟩ := hcut
                  clear c0 c1 c2 c3 c4 q1
                  by_cases htg : T = 2 * i + 1
                  · have htz : ((T : Int) == 2 * (i : Int) + 1) = true := by simp; omega
                    have HN : Hid (true = stuckB (nds l) i least) := Lib.hid (stuckB_iff.2 ⟨x.nd, HX.out, HSX.out, by
                      have h1 := HBI.out.step HPO.out HYN.out HSY.out
                      rw [HT.out, htg] at h1
                      rw [HF0.out]; exact h1⟩).symm
                    clear htg
                    go_wp2_with fail
                    go_ret
                    exact ⟨retb HN.out, HRK.out.below⟩
                  · have htz : ((T : Int) == 2 * (i : Int) + 1) = false := by simp; omega
                    have hlen : seen'.length = 2 * l.length := by have := HBI.out.base.len; rw [nds_len] at this; exact this
                    obtain ⟨bt, hbt⟩ : ∃ bt, seen'[T]? = some bt := ⟨_, List.getElem?_eq_getElem (by omega)⟩
                    have hTz : (T : Int) < 2 * (l.length : Int) := by omega
                    obtain ⟨e1, e2⟩ := HRK.out.bit hbt
                    have HTG := Lib.hid htg; have HLEN := Lib.hid hlen; clear htg hlen
                    cases bt with
                    | true =>
                      have HOLD := Lib.hid (HBI.out.old HPO.out HYN.out (by rw [HT.out]; exact HTG.out) (by rw [HT.out]; exact hbt))
                      clear hbt
                      go_wp2_with fail
                      go_roundw
                      case rel => exact ⟨q + 1, todo', seen', by simp, by omega, HOLD.out, HRK.out, HVK.out⟩
                      case measure => simp only [intOf]; omega
                    | false =>
                      have HPU := Lib.hid (HBI.out.push HPO.out HYN.out HSY.out (by rw [HT.out]; exact HTG.out) (by rw [HT.out]; exact hbt))
                      have hmk := HRK.out.mark T (by rw [HLEN.out]; omega)
                      have hvm : (wc.setCell ⟨gs, T, none⟩ (.bool true)).ownsRow wo.heap.size 74 kindP.K (.slice (some ⟨pg, 0, none⟩) ps.length pc) ps.length (Rw.row kindP ps) := HVK.out.kept (grown_set _ _ _ _) (by
                        rcases Rw.own_apart2 HRK.out.seen HVK.out (by decide) with e | e
                        · exact .inl e
                        · exact .inr e)
                      have HMK := Lib.hid hmk; have HVM := Lib.hid hvm; clear hbt hmk hvm
                      go_upto_region 24 with fail
                      generalize (wc.setCell ⟨gs, T, none⟩ (Value.bool true)) = wm at *
                      clear e1 e2
                      go_wp2_with (at_builtin; refine wpList_push rfl _ _ rfl T _ rfl rfl rfl HMK.out (by omega) ?_; intro v5 w5 hpu hg5; have hvn := (HVM.out.alloc _).kept hg5 (Rw.own_apart2 HMK.out.todo HVM.out (by decide)); have HPR := Lib.hid hpu; have HVN := Lib.hid hvn; clear hpu hvn hg5)
                      go_roundw
                      case rel =>
                        refine ⟨q + 1, todo' ++ [T], seen'.set T true, by simp, by omega, ?_, HPR.out, HVN.out⟩
                        have h := HPU.out
                        rw [HT.out] at h
                        exact h
                      case measure => simp only [intOf]; omega
            · have hqz : ¬ (q : Int) < (ps.length : Int) := by omega
              have HEN := Lib.hid (hbf.ends (by rw [HPS.out]; omega)); have HRI := Lib.hid hrs; clear hbf hrs hvp
              go_wp2_with fail
              go_roundw
              case rel => exact ⟨k + 1, todo', seen', by simp, by omega, HEN.out, HRI.out⟩
              case measure => simp only [intOf]; omega
        · have hkz : ¬ (k : Int) < (todo.length : Int) := by omega
          have HN := Lib.hid (stuckB_no (g := nds l) (i := i) (least := least) fun h => by
            obtain ⟨y, hy, _, hr⟩ := h
            rw [HX.out] at hy; injection hy with hy; subst hy
            rw [HF0.out] at hr
            exact HBFS.out.no (by omega) hr)
          go_wp2_with fail
          go_ret
          exact ⟨retb HN.out, HRW.out.below⟩
end
end Go.Proofs.YtocdganglokplaaDoor
