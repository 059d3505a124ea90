/- PgTo, ChkMake -/
import Derived.Test.YtmhophmpbpbjaaaGreatDoorCa8
namespace Go.Proofs.YtmhophmpbpbjaaaGreatDoor
set_option linter.unusedVariables false
section
open Go.ChangeShapes Go.WideShapes Go.ChangeAt Go.RowKit Go.BigFrame
set_option maxRecDepth 100000
theorem infoPort : (Tryz.prog.info? 111).map (fun i => (i.zero, i.size, i.bytes)) = some (some (.agg #[.int .i64 0, .int .i64 0]), 2, 16) := by kernel_rfl
set_option maxHeartbeats 4000000 in
theorem flowTo_any (A : Option Addr) (l : List Gn) (c : Nat) (i : Int) (w : World) (hG : Gr w A l) (hl : l.length ≤ 40) (hi : ∀ x ∈ nds l, x.ins.length ≤ 40) :
    Calls Tryz.prog 67 #[.slice A l.length c, .int .i64 i] w (ToD 111 (toG i 0 (nds l)) w) := by
  have HG := Lib.hid hG; have HI := Lib.hid hi; clear hG hi
  go_enter Tryz.func67, Tryz.ntmps67
  go_wp2_with fail
  go_loopw [5, 12] (fun v n wr => ∃ k : Nat, k ≤ l.length ∧ n = .int .i64 k ∧ wr.ownsRow w.heap.size 111 kindP.K v (toG i 0 (nds (l.take k))).length (Rw.row kindP (toG i 0 (nds (l.take k)))) ∧ Below w.heap.size w wr) (fun _ n _ => l.length - (intOf n).toNat)
  case atStart => exact ⟨0, by omega, rfl, World.ownsRow_nil _ _ _ _, Below.refl _ _⟩
  case round =>
    obtain ⟨k, hk, rfl, hown, hb⟩ := hrel
    have HO := Lib.hid hown; have HB := Lib.hid hb; clear hown hb
    by_cases hlt : k < l.length
    · have hltz : (k : Int) < (l.length : Int) := by omega
      obtain ⟨x, hx⟩ : ∃ x, l[k]? = some x := ⟨_, List.getElem?_eq_getElem hlt⟩
      have hix := HI.out x.nd (List.mem_map.2 ⟨x, List.mem_of_getElem? hx, rfl⟩)
      obtain ⟨⟨xk, xa, xb, xd, xi⟩, xA, xc⟩ := x
      obtain ⟨b, o, rfl, hbl, hcl⟩ := HG.out.at_ hx
      have hln : (toG i 0 (nds (l.take k))).length ≤ 1600 := by
        have h1 := toG_len i 40 (nds (l.take k)) 0 fun y hy => HI.out y (by
          unfold nds at hy ⊢
          rw [List.map_take] at hy
          exact List.mem_of_mem_take hy)
        rw [nds_len, List.length_take] at h1
        have : min k l.length ≤ 40 := by omega
        have := Nat.mul_le_mul_right 40 this
        omega
      have HTK := Lib.hid (toG_take i hx)
      generalize toG i 0 (nds (l.take k)) = ps at *
      obtain ⟨c0, c1, c2, c3, c4⟩ := hcl wr HB.out
      simp only at hix c0 c1 c2 c3 c4
      have HX := Lib.hid hx; have HLN := Lib.hid hln; clear hx hcl hln
      go_wp2_with fail
      go_loopw [5, 20] (fun v n wx => ∃ p : Nat, p ≤ xi.length ∧ n = .int .i64 p ∧ wx.ownsRow w.heap.size 111 kindP.K v (ps ++ toIn k i 0 (xi.take p)).length (Rw.row kindP (ps ++ toIn k i 0 (xi.take p))) ∧ Below w.heap.size w wx) (fun _ n _ => xi.length - (intOf n).toNat)
      case atStart => exact ⟨0, by omega, rfl, by simpa [toIn] using HO.out.alloc _, HB.out.alloc HB.out.size _⟩
      case round =>
        obtain ⟨p, hp, rfl, hown, hb⟩ := hrel
        have HO2 := Lib.hid hown; have HB2 := Lib.hid hb; clear hown hb HO HB c0 c1 c2 c3 c4
        by_cases hlp : p < xi.length
        · have hpz : (p : Int) < (xi.length : Int) := by omega
          obtain ⟨z, hz⟩ : ∃ z, xi[p]? = some z := ⟨_, List.getElem?_eq_getElem hlp⟩
          obtain ⟨bb, oo, rfl, _, hq⟩ := ints_at (HG.out.ins HX.out) hz
          have q := hq wr HB2.out
          have hln2 : (ps ++ toIn k i 0 (xi.take p)).length ≤ 1640 := by
            have := toIn_len k i (xi.take p) 0
            have := List.length_take_le p xi
            have := HLN.out
            rw [List.length_append]; omega
          have HTI := Lib.hid (toIn_take k i hz)
          have HLN2 := Lib.hid hln2; clear hln2 hz hq
          generalize hqs : ps ++ toIn k i 0 (xi.take p) = qs at *
          have HQS := Lib.hid hqs; clear hqs
          by_cases hzi : z = i
          · subst hzi
            have hbs := HB2.out.size
            have HBS := Lib.hid hbs; clear hbs
            go_wp2_with (at_builtin; refine Rw.append_own kindP 111 107 Tryz.underlying107 infoPort rfl rfl _ _ rfl w.heap.size _ qs.length qs rfl (HO2.out.alloc _) _ 1 [(k, p)] rfl (by simp) (Rw.Ts.made _ [(k, p)] _) (by unfold maxLen; have := HLN2.out; simp; omega) (by have := HLN2.out; simp; omega) (by have := HBS.out; simp; omega) ?_; intro v2 w4 hv2 hg2; have hb2 := Rw.own_below (HO2.out.alloc _) hg2 (HB2.out.alloc HB2.out.size _) (by have := HBS.out; simp; omega); have HV := Lib.hid hv2; have HB3 := Lib.hid hb2; clear hv2 hg2 hb2)
            go_roundw
            case rel =>
              refine ⟨p + 1, by omega, by simp, ?_, HB3.out⟩
              rw [HTI.out, if_pos rfl, ← List.append_assoc, HQS.out, List.length_append]
              exact HV.out
            case measure => simp only [intOf]; omega
          · have hzb : (z == i) = false := by simpa using hzi
            have HN := Lib.hid hzi; clear hzi
            go_wp2_with fail
            go_roundw
            case rel =>
              refine ⟨p + 1, by omega, by simp, ?_, HB2.out⟩
              rw [HTI.out, if_neg HN.out, List.append_nil, HQS.out]
              exact HO2.out
            case measure => simp only [intOf]; omega
        · have hpz : ¬ (p : Int) < (xi.length : Int) := by omega
          have hpe : p = xi.length := by omega
          have HPE := Lib.hid hpe; clear hpe
          go_wp2_with fail
          go_roundw
          case rel =>
            refine ⟨k + 1, by omega, by simp, ?_, HB2.out⟩
            have h := HO2.out
            rw [HPE.out, List.take_length] at h
            rw [HTK.out]
            exact h
          case measure => simp only [intOf]; omega
    · have hltz : ¬ (k : Int) < (l.length : Int) := by omega
      have hke : k = l.length := by omega
      have HK := Lib.hid hke; clear hke
      go_wp2_with fail
      go_ret
      refine ⟨⟨_, rfl, ?_⟩, HB.out⟩
      have h := HO.out
      rw [HK.out, List.take_length] at h
      exact h
end

section
open Go.ChangeShapes Go.WideShapes Go.ChangeAt Go.RowKit Go.BigFrame
theorem wpList_make_is {P : Program} {ops : Array Oper} {rest : List Oper} {o : Oper} {a : Act} {w w' : World} {Q : Exit → Act → World → Prop} (l c : Operand) (t : TypeId) (ho : o.op = Op.makeSlice t l c) (hw : Region.wanted o (yielded ops a.tmps) = true)
    (x y v' : Value) (hl : a.eval l = x) (hc : a.eval c = y) (hr : (Instr.makeSlice t x y).run P w = .ok v' w') (h : wpList P ops Q rest (a.put o.dst v') w') : wpList P ops Q (o :: rest) a w := by
  unfold wpList
  rw [if_pos hw]
  refine .inl ?_
  unfold Oper.wp
  simp [execOp, ho, hl, hc, hr, Result.andThen]
  exact h
end
end Go.Proofs.YtmhophmpbpbjaaaGreatDoor
