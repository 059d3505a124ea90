/- PlReach -/
import Derived.Test.YtmhophmpbpbjaaaGreatDoorCa10
import Derived.Test.YtmhophmpbpbjaaaGreatDoorCa12
import Derived.Test.YtmhophmpbpbjaaaGreatDoorCa13
import Derived.Test.YtmhophmpbpbjaaaGreatDoorCa14
import Derived.Deep.AppendLies
import Derived.Deep.RegionLaw
namespace Go.Proofs.YtmhophmpbpbjaaaGreatDoor
set_option linter.unusedVariables false
section
open Go.ChangeShapes Go.WideShapes Go.ChangeAt Go.RowKit Go.BigFrame
set_option maxRecDepth 100000
theorem made_rows (n : Nat) : (madeCells (Value.slice none 0 0).cells (n * 1)).toList = List.replicate n (.slice none 0 0) := by
  have : (Value.slice none 0 0).cells = #[.slice none 0 0] := rfl
  rw [this, toList_madeCells_one, Nat.mul_one]
structure RchS (g : List Nd) (i : Nat) (w : World) (Bt N : Nat) (on : Value) (wx : World) (T : List (List Sm)) (D Q : List (Nat × Sm)) (vs : List Sl) : Prop where
  run : Run g i T D Q
  count : N = 2 * (g.length * 4194304 - D.length) + Q.length
  on : Rc.Own wx w.heap.size 182 kindW.K on Q.length (Rw.row kindW Q)
  tt : TT wx w.heap.size Bt vs T
  below : Below w.heap.size w wx
  few : Q.length ≤ D.length + 1
def RchN (g : List Nd) (i : Nat) (w : World) (Bt : Nat) (on : Value) (wx : World) (N : Nat) : Prop := ∃ T D Q vs, RchS g i w Bt N on wx T D Q vs
theorem Run.todo {g : List Nd} {i : Nat} {T : List (List Sm)} {D Q : List (Nat × Sm)} (hF : Fine g) (h : Run g i T D Q) : D.length ≤ g.length * 4194304 := h.bound hF
structure RchI (g : List Nd) (i j : Nat) (u : Sm) (w : World) (Bt gs N0 : Nat) (ps : List (Nat × Nat)) (q : Nat) (on : Value) (wx : World) (T : List (List Sm)) (D Q : List (Nat × Sm)) (vs : List Sl) : Prop where
  run : Run g i T D ((j, u) :: Q)
  count : 2 * (g.length * 4194304 - D.length) + (Q.length + 1) ≤ N0
  upto : UptoP T ps q u
  on : Rc.Own wx w.heap.size 182 kindW.K on (Q.length + 1) (Rw.row kindW ((j, u) :: Q))
  tt : TT wx w.heap.size Bt vs T
  off : TOff vs gs
  box : Mx.Holds wx gs u
  below : Below w.heap.size w wx
  few : Q.length ≤ D.length
section
variable {g : List Nd} {i j Bt gs N0 q : Nat} {u : Sm} {w wx wy : World} {ps : List (Nat × Nat)} {on : Value} {T : List (List Sm)} {D Q : List (Nat × Sm)} {vs : List Sl}
theorem RchI.kept (h : RchI g i j u w Bt gs N0 ps q on wx T D Q vs) (hb : Below wx.heap.size wx wy) : RchI g i j u w Bt gs N0 ps q on wy T D Q vs :=
  ⟨h.run, h.count, h.upto, h.on.below hb, h.tt.below hb, h.off, HoldsM.below h.box hb, h.below.trans (hb.mono h.below.size), h.few⟩
theorem RchI.skip (h : RchI g i j u w Bt gs N0 ps q on wx T D Q vs) {m z : Nat} (hq : ps[q]? = some (m, z)) (hc : CovAt T m u) : RchI g i j u w Bt gs N0 ps (q + 1) on wx T D Q vs :=
  ⟨h.run, h.count, h.upto.step hq hc, h.on, h.tt, h.off, h.box, h.below, h.few⟩
structure RchJ (g : List Nd) (i j : Nat) (u : Sm) (w : World) (Bt gs N0 : Nat) (ps : List (Nat × Nat)) (q : Nat) (on : Value) (wx : World) (T : List (List Sm)) (D Q : List (Nat × Sm)) (vs : List Sl) (m : Nat) (x : Nd) (T' : List (List Sm)) : Prop where
  run : Run g i T D ((j, u) :: Q)
  run' : Run g i T' (D ++ [(m, u)]) (if u.thenOk x.sm then (j, u) :: Q ++ [(m, u.seq x.sm)] else (j, u) :: Q)
  room : D.length + 1 ≤ g.length * 4194304
  count : 2 * (g.length * 4194304 - D.length) + (Q.length + 1) ≤ N0
  upto : UptoP T' ps (q + 1) u
  on : Rc.Own wx w.heap.size 182 kindW.K on (Q.length + 1) (Rw.row kindW ((j, u) :: Q))
  tt : TT wx w.heap.size Bt vs T'
  off : TOff vs gs
  box : Mx.Holds wx gs u
  below : Below w.heap.size w wx
  few : Q.length ≤ D.length
theorem RchJ.kept {m : Nat} {x : Nd} {T' : List (List Sm)} (h : RchJ g i j u w Bt gs N0 ps q on wx T D Q vs m x T') (hb : Below wx.heap.size wx wy) : RchJ g i j u w Bt gs N0 ps q on wy T D Q vs m x T' :=
  ⟨h.run, h.run', h.room, h.count, h.upto, h.on.below hb, h.tt.below hb, h.off, HoldsM.below h.box hb, h.below.trans (hb.mono h.below.size), h.few⟩
theorem RchI.put {w1 w2 : World} {m z : Nat} {x : Nd} {l : List Sm} {s s2 : Sl} (hF : Fine g) (h : RchI g i j u w Bt gs N0 ps q on wx T D Q vs) (hq : ps[q]? = some (m, z)) (hps : toG ((j : Nat) : Int) 0 g = ps) (hx : g[m]? = some x) (hl : T[m]? = some l) (hs : vs[m]? = some s)
    (hno : ∀ t ∈ l, ¬ t.L u) (hg : wx.grownBy w1 s.v.ownBlock) (hb : Below w1.heap.size w1 w2) (hn : w2.ownsRow w1.heap.size 44 7 s2.v (waysS (l ++ [u])).length (Mx.rowS (waysS (l ++ [u])))) :
    RchJ g i j u w Bt gs N0 ps q on (w2.setCell ⟨Bt, m, none⟩ s2.v) T D Q (vs.set m s2) m x (T.set m (waysS (l ++ [u]))) := by
  have hfd : Fd g j m := by
    refine toG_fd.1 ⟨(m, z), ?_, rfl⟩
    rw [hps]; exact List.mem_of_getElem? hq
  have ha : Arr g i m u := (h.run.outs j u List.mem_cons_self).fed hfd
  have hr := Run.add hF h.run ha hx hl hno
  have hbd := hr.bound hF
  rw [List.length_append, List.length_singleton] at hbd
  have hown := h.tt.own m s l hs hl
  have hsB : s.v.ownBlock ≠ some Bt := fun e => by
    rcases own_apartM hown h.tt.row (by decide) with e2 | e2
    · rw [e2] at e; cases e
    · exact e2 e
  have hon1 : Rc.Own w1 w.heap.size 182 kindW.K on (Q.length + 1) (Rw.row kindW ((j, u) :: Q)) := h.on.kept hg (h.on.apart hown (by decide))
  have hon2 := hon1.below hb
  have hr1 : Row w1 Bt 36 (slv vs) := h.tt.row.grown hg (fun e => hsB e.symm)
  have hr2 : Row w2 Bt 36 (slv vs) := hr1.below hb hr1.lt
  have hb1 : Mx.Holds w1 gs u := Row.grown h.box hg (fun e => h.off m s hs e.symm)
  have hb2 : Mx.Holds w2 gs u := HoldsM.below hb1 hb
  have hgl : gs < wx.heap.size := Row.lt h.box
  have hb0 : Below w.heap.size w w1 := h.below.grown hg h.below.size (fun k e => (hown.lt k e).1)
  refine ⟨h.run, hr, hbd, h.count, (h.upto.mono fun n u => CovAt.set hF h.run hl).step hq (CovAt.put ((ha.ends hF).1) hl), ?_, h.tt.step hs hl hg hb hn h.below.size, h.off.set ?_, ?_, ?_, h.few⟩
  · exact hon2.kept (grown_set w2 Bt m s2.v) (hon2.apart_row hr2 (by decide))
  · intro e
    have := (hn.lt gs e).1
    have := hg.size
    omega
  · exact Row.far hb2 (Row.apart hb2 hr2 (by decide)) s2.v
  · exact (hb0.trans (hb.mono hb0.size)).setCell h.tt.lo _
theorem RchJ.no {m : Nat} {x : Nd} {T' : List (List Sm)} (h : RchJ g i j u w Bt gs N0 ps q on wx T D Q vs m x T') (hto : ¬ u.thenOk x.sm) : RchI g i j u w Bt gs N0 ps (q + 1) on wx T' (D ++ [(m, u)]) Q vs := by
  have hr := h.run'
  rw [if_neg hto] at hr
  refine ⟨hr, ?_, h.upto, h.on, h.tt, h.off, h.box, h.below, ?_⟩
  · have := h.count; have := h.room
    rw [List.length_append, List.length_singleton]; omega
  · have := h.few
    rw [List.length_append]; omega
theorem RchJ.yes {m : Nat} {x : Nd} {T' : List (List Sm)} {on' : Value} {w' wz : World} {ob : Obj} (h : RchJ g i j u w Bt gs N0 ps q on wx T D Q vs m x T') (hto : u.thenOk x.sm) (hz : wz = wx.alloc ob)
    (ho : Rc.Own w' w.heap.size 182 kindW.K on' (Q.length + 1 + 1) (Rw.row kindW (((j, u) :: Q) ++ [(m, u.seq x.sm)]))) (hg : wz.grownBy w' on.ownBlock) :
    RchI g i j u w Bt gs N0 ps (q + 1) on' w' T' (D ++ [(m, u)]) (Q ++ [(m, u.seq x.sm)]) vs := by
  subst hz
  have hr := h.run'
  rw [if_pos hto] at hr
  have hon := h.on.alloc ob
  have htt := h.tt.alloc ob
  refine ⟨hr, ?_, h.upto, ?_, htt.grown hg (fun e => ?_) fun k s hs => ?_, h.off, ?_, ?_, ?_⟩
  · have := h.count; have := h.room
    rw [List.length_append, List.length_singleton, List.length_append, List.length_singleton]; omega
  · rw [List.length_append, List.length_singleton]; exact ho
  · exact hon.apart_row htt.row (by decide) e
  · obtain ⟨l, hl⟩ : ∃ l, T'[k]? = some l := ⟨_, List.getElem?_eq_getElem (by have := (List.getElem?_eq_some_iff.1 hs).1; have := h.tt.len; omega)⟩
    exact .inr fun e => hon.apart (htt.own k s l hs hl) (by decide) e.symm
  · exact Row.grown (Row.alloc h.box ob) hg (fun e => hon.apart_row (Row.alloc h.box ob) (by decide) e.symm)
  · exact (h.below.alloc h.below.size ob).grown hg (by have := h.below.size; simp; omega) (fun k e => (hon.lt k e).1)
  · have := h.few
    rw [List.length_append, List.length_singleton, List.length_append, List.length_singleton]; omega
theorem RchI.ends {c' g' off' : Nat} (hF : Fine g) (h : RchI g i j u w Bt gs N0 ps ps.length (.slice (some ⟨g', off', none⟩) (Q.length + 1) c') wx T D Q vs) (hps : toG ((j : Nat) : Int) 0 g = ps) :
    ∃ N, N < N0 ∧ RchS g i w Bt N (.slice (if c' = 1 then some ⟨g', off', none⟩ else some ⟨g', off' + 8, none⟩) Q.length (c' - 1)) wx T D Q vs := by
  refine ⟨_, ?_, h.run.pop (h.upto.all hps), rfl, ?_, h.tt, h.below, by have := h.few; omega⟩
  · have := h.count; have := h.run.bound hF; omega
  · have := h.on.cut (c := kindW.cells (j, u)) (ys := Rw.row kindW Q) (Rw.row_cons _ _) rfl (by omega) (by decide)
    exact this
end
theorem least_sl {w7 : World} {base gg cap : Nat} {l : List Sm} {u : Sm} (h : w7.ownsRow base 44 7 (.slice (some ⟨gg, 0, none⟩) (l.length + 1) cap) (l.length + 1) (Mx.rowS l ++ Sm.cells u)) (hl : l.length ≤ 4194304) :
    Calls Tryz.prog 30 [.slice (some ⟨gg, 0, none⟩) (l.length + 1) cap].toArray w7 (fun e w' => ∃ v, e = .returned v ∧ ∃ A n c, v = .slice A n c ∧ w'.ownsRow w7.heap.size 44 7 (.slice A n c) (waysS (l ++ [u])).length (Mx.rowS (waysS (l ++ [u]))) ∧ Below w7.heap.size w7 w') := by
  have e : Mx.rowS l ++ Sm.cells u = Rw.row kindS (l ++ [u]) := by
    rw [Rw.row_append, Rw.row_cons, Rw.row_nil, List.append_nil]; rfl
  rw [e] at h
  obtain ⟨A, c, e2, hT, _⟩ := Rw.Ts.of_own h
  have hl1 : (l ++ [u]).length = l.length + 1 := by rw [List.length_append, List.length_singleton]
  rw [hl1] at e2
  cases e2
  have hc := Mx.least_any (some ⟨gg, 0, none⟩) (l ++ [u]) cap w7 hT (by rw [hl1]; omega)
  rw [hl1] at hc
  refine hc.mono ?_
  rintro e w' ⟨⟨v, rfl, ho⟩, hb⟩
  obtain ⟨A, c, rfl, _⟩ := Rw.Ts.of_own (κ := kindS) (ts := waysS (l ++ [u])) ho
  exact ⟨_, rfl, A, _, c, rfl, ho, hb⟩
theorem ways11_kept {w10 w11 : World} {o : Obj} {base bp n k : Nat} {v vp : Value} {xs ys : List Value} (ho : Rc.Own w10 base 182 kindW.K v n xs) (hp : w10.ownsRow bp 111 kindP.K vp k ys) (hg : (w10.alloc o).grownBy w11 v.ownBlock) : w11.ownsRow bp 111 kindP.K vp k ys :=
  (hp.alloc o).kept hg (.inr fun e => (ho.alloc o).apart (hp.alloc o) (by decide) e.symm)
theorem toG_at {g : List Nd} {i : Int} {k n p : Nat} (h : (toG i 0 g)[k]? = some (n, p)) : ∃ x, g[n]? = some x := by
  obtain ⟨_, x, hx, _⟩ := mem_toG.1 (List.mem_of_getElem? h)
  exact ⟨x, by simpa using hx⟩
def RowsD (g : List Nd) (i : Nat) (w : World) (e : Ending) (w' : World) : Prop := (∃ B T D vs, e = .returned (.slice (some ⟨B, 0, none⟩) g.length g.length) ∧ TT w' w.heap.size B vs T ∧ Run g i T D []) ∧ Below w.heap.size w w'
def RchV (lg : List Gn) (b o c m gs yk ya yc : Nat) (yb yd : Int) (yi : List Int) (yA : Option Addr) (u O S : Sm) (TB : Bool) (i : Nat) (v : Value) : Prop := match i with
  | 0 => v = .agg #[.int .i64 u.fr, .int .i64 u.to, .int .i64 u.kp, .int .i64 u.ad, .int .i64 u.t0, .int .i64 u.t1, .int .i64 u.t2]
  | 1 => v = .slice (some ⟨b, o, none⟩) lg.length c
  | 2 => v = .int .i64 (m : Nat)
  | 3 => v = .pointer (some ⟨b, o + m * 5, none⟩)
  | 4 => v = .agg #[.int .u8 (yk : Nat), .int .u8 (ya : Nat), .int .i64 yb, .int .i64 yd, .slice yA yi.length yc]
  | 5 => v = .agg #[.int .i64 O.fr, .int .i64 O.to, .int .i64 O.kp, .int .i64 O.ad, .int .i64 O.t0, .int .i64 O.t1, .int .i64 O.t2]
  | 6 => v = .tuple #[.agg #[.int .i64 S.fr, .int .i64 S.to, .int .i64 S.kp, .int .i64 S.ad, .int .i64 S.t0, .int .i64 S.t1, .int .i64 S.t2], .bool TB]
  | 7 => v = .tuple #[.agg #[.int .i64 S.fr, .int .i64 S.to, .int .i64 S.kp, .int .i64 S.ad, .int .i64 S.t0, .int .i64 S.t1, .int .i64 S.t2], .bool TB]
  | 8 => v = .agg #[.int .i64 S.fr, .int .i64 S.to, .int .i64 S.kp, .int .i64 S.ad, .int .i64 S.t0, .int .i64 S.t1, .int .i64 S.t2]
  | 9 => v = .bool TB
  | 10 => True
  | 11 => v = undef
  | _ => v = .bool TB
set_option maxHeartbeats 32000000 in
theorem reach_any (A : Option Addr) (lg : List Gn) (c i : Nat) (w : World) (hG : Gr w A lg) (hi : i < lg.length) (hl : lg.length ≤ 14) (hI : ∀ x ∈ nds lg, x.ins.length ≤ 40) (hF : Fine (nds lg)) :
    Calls Tryz.prog 88 #[.slice A lg.length c, .int .i64 (i : Nat)] w (RowsD (nds lg) i w) := by
  obtain ⟨x, hx⟩ : ∃ x, lg[i]? = some x := ⟨_, List.getElem?_eq_getElem hi⟩
  have hnx : (nds lg)[i]? = some x.nd := by unfold nds; rw [List.getElem?_map, hx]; rfl
  have hiz : (i : Int) < (lg.length : Int) := by omega
  obtain ⟨b, o, rfl, hbl, hcl⟩ := hG.at_ hx
  have hst := Run.start hnx
  rw [nds_len] at hst
  obtain ⟨⟨xk, xa, xb, xd, xi⟩, xA, xc⟩ := x
  simp only at hst
  have hcl2 := fun w' hb => (hcl w' hb).2.2.2.1
  simp only at hcl2
  obtain ⟨i0, hi0, hz0, hz1, hz2⟩ := info_parts infoSums
  obtain ⟨w2, hr2, ho2, hg2⟩ := run_make_full (P := Tryz.prog) w w.heap.size 141 36 i0 _ 1 Tryz.underlying141 hi0 hz0 hz1 .i64 .i64 lg.length (by rw [hz2]; omega) (by unfold maxLen; omega) (Nat.le_refl _)
  have hb2 := (Below.refl w.heap.size w).grown hg2 (Nat.le_refl _) (fun _ e => by cases e)
  rw [made_rows] at ho2
  have htt : TT w2 w.heap.size w.heap.size (List.replicate lg.length ⟨none, 0, 0⟩) (List.replicate lg.length []) := TT.start (Row.of_full ho2) (Nat.le_refl _)
  have hnm := fun wz => nothingMade_any xd wz
  have c3 := hcl2 w2 hb2
  have HG := Lib.hid hG; have HI := Lib.hid hI; have HF := Lib.hid hF; have HST := Lib.hid hst; have HTT := Lib.hid htt; have HB2 := Lib.hid hb2; have HR2 := Lib.hid hr2; have HNM := Lib.hid hnm
  have hnb : b < w2.heap.size := Nat.lt_of_lt_of_le hbl hb2.size
  clear hG hI hF hst htt hb2 hr2 ho2 hg2 hnm hx hnx hcl hi0 hz0 hz1 hz2
  go_enter Tryz.func88, Tryz.ntmps88
  go_wp2_with (refine wpList_make_is _ _ 141 rfl rfl _ _ _ rfl rfl HR2.out ?_)
  refine (HNM.out _).mono ?_; rintro e w3 ⟨rfl, hb3⟩
  have HB3 := Lib.hid hb3; clear hb3 c3 HNM
  dsimp only
  go_wp2_with fail
  have hon0 : (w3.alloc (.cells (kindW.cells (i, idS xd)).toArray 182)).ownsRow w.heap.size 182 kindW.K (.slice (some ⟨w3.heap.size, 0, none⟩) 1 1) 1 (Rw.row kindW [(i, idS xd)]) :=
    own_base (World.ownsRow_lit (base := w3.heap.size) (e := 182) (size := 8) w3 (kindW.cells (i, idS xd)).toArray 1 (Nat.le_refl _) (by decide) rfl) (Nat.le_trans HB2.out.size HB3.out.size)
  have hbz := HB2.out.trans (HB3.out.mono HB2.out.size)
  have hrch : RchN (nds lg) i w w.heap.size (.slice (some ⟨w3.heap.size, 0, none⟩) 1 1) (w3.alloc (.cells (kindW.cells (i, idS xd)).toArray 182)) (2 * ((nds lg).length * 4194304 - 0) + 1) :=
    ⟨_, [], [(i, idS xd)], _, HST.out, rfl, Rc.Own.of_row hon0 (by simp), (HTT.out.below HB3.out).alloc _, hbz.alloc hbz.size _, by simp⟩
  have HRCH := Lib.hid hrch; clear hon0 hbz hrch HST HTT HB2 HB3 HR2
  go_loopw [6] (fun on wx => ∃ N, RchN (nds lg) i w w.heap.size on wx N) (fun on wx => leastN (RchN (nds lg) i w w.heap.size on wx))
  case atStart => exact ⟨_, HRCH.out⟩
  case round =>
    obtain ⟨wo, rfl⟩ : ∃ wo, wo = wr := ⟨_, rfl⟩
    have hmin := leastN_is hrel
    clear hrel HRCH
    obtain ⟨N0, hN0⟩ : ∃ N0, leastN (RchN (nds lg) i w w.heap.size u6 wo) = N0 := ⟨_, rfl⟩
    rw [hN0] at hmin
    obtain ⟨T, D, Q, vs, hS⟩ := hmin
    have HN0 := Lib.hid hN0; clear hN0
    obtain ⟨g', off', c', rfl, hg0, hglt, hc1, hc2, hcc⟩ := hS.on.at_
    cases Q with
    | nil =>
      have HS := Lib.hid hS; clear hS hcc
      go_wp2_with fail
      go_ret
      refine ⟨⟨w.heap.size, T, D, vs, by rw [nds_len]; rfl, HS.out.tt, HS.out.run⟩, HS.out.below⟩
    | cons ju Qt =>
      obtain ⟨j, u⟩ := ju
      have hout := hS.run.outs j u List.mem_cons_self
      have hjl : j < lg.length := by
        have h : j < (nds lg).length := by
          rcases hout with ⟨rfl, y, hy, _⟩ | ⟨t, y, ha, _⟩
          · exact (List.getElem?_eq_some_iff.1 hy).1
          · exact ha.lt
        rwa [nds_len] at h
      have hft := fun wz (hz : Below wo.heap.size wo wz) => flowTo_any (some ⟨b, o, none⟩) lg c ((j : Nat) : Int) wz ((HG.out.below hS.below).below hz) (by omega) HI.out
      have hln := toG_len ((j : Nat) : Int) 40 (nds lg) 0 HI.out
      rw [nds_len] at hln
      have hl1600 : (toG ((j : Nat) : Int) 0 (nds lg)).length ≤ 1600 := by omega
      obtain ⟨ps, hps⟩ : ∃ ps, toG ((j : Nat) : Int) 0 (nds lg) = ps := ⟨_, rfl⟩
      rw [hps] at hft hl1600
      have c0 : wo.cell? ⟨g', off', none⟩ = some (.int .i64 (j : Nat)) := hcc 0 _ rfl
      have c1 : wo.cell? ⟨g', off' + 1, none⟩ = some (.int .i64 u.fr) := hcc 1 _ rfl
      have c2 : wo.cell? ⟨g', off' + 2, none⟩ = some (.int .i64 u.to) := hcc 2 _ rfl
      have c3 : wo.cell? ⟨g', off' + 3, none⟩ = some (.int .i64 u.kp) := hcc 3 _ rfl
      have c4 : wo.cell? ⟨g', off' + 4, none⟩ = some (.int .i64 u.ad) := hcc 4 _ rfl
      have c5 : wo.cell? ⟨g', off' + 5, none⟩ = some (.int .i64 u.t0) := hcc 5 _ rfl
      have c6 : wo.cell? ⟨g', off' + 6, none⟩ = some (.int .i64 u.t1) := hcc 6 _ rfl
      have c7 : wo.cell? ⟨g', off' + 7, none⟩ = some (.int .i64 u.t2) := hcc 7 _ rfl
      have hcount := hS.count
      have hrch0 : RchI (nds lg) i j u w w.heap.size wo.heap.size N0 ps 0 (.slice (some ⟨g', off', none⟩) (Qt.length + 1) c') (wo.alloc (.cells #[.int .i64 u.fr, .int .i64 u.to, .int .i64 u.kp, .int .i64 u.ad, .int .i64 u.t0, .int .i64 u.t1, .int .i64 u.t2] 44)) T D Qt vs :=
        ⟨hS.run, by rw [hcount]; exact Nat.le_refl _, UptoP.none, hS.on.alloc _, hS.tt.alloc _, hS.tt.off_new, Mx.Holds.made wo u, hS.below.alloc hS.below.size _, by have := hS.few; rw [List.length_cons] at this; omega⟩
      obtain ⟨nQ, hnQ⟩ : ∃ nQ, Qt.length + 1 = nQ := ⟨_, rfl⟩
      have hQ0 : 0 < nQ := by omega
      have hQ1 : (0 : Int) < (nQ : Int) := by omega
      have HFT := Lib.hid hft; have HPS := Lib.hid hps; have HR0 := Lib.hid hrch0; have HNQ := Lib.hid hnQ
      rw [show ((j, u) :: Qt).length = nQ from hnQ] at HN0 ⊢
      clear hft hps hrch0 hnQ hS hout hcc hcount hln
      go_wp2_with fail
      refine (HFT.out _ ((Below.refl _ _).alloc (Nat.le_refl _) _)).mono ?_; rintro e w4 ⟨⟨vp, rfl, hvp⟩, hb4⟩
      obtain ⟨PA, pc, rfl, _, _, _, _, _⟩ := Rw.Ts.of_own hvp
      have hr4 := HR0.out.kept hb4
      have HVP := Lib.hid hvp; have HR4 := Lib.hid hr4; clear hvp hr4 hb4 HR0 HFT c0 c1 c2 c3 c4 c5 c6 c7
      obtain ⟨gs, hgs⟩ : ∃ gs, wo.heap.size = gs := ⟨_, rfl⟩
      rw [hgs] at HR4 ⊢
      clear hgs
      dsimp only
      rw [HNQ.out] at HR4
      go_wp2_with fail
      go_loopw [6, 43] (fun on n wx => ∃ (q : Nat) (T : List (List Sm)) (D Q : List (Nat × Sm)) (vs : List Sl), n = .int .i64 q ∧ q ≤ ps.length ∧ RchI (nds lg) i j u w w.heap.size gs N0 ps q on wx T D Q vs ∧ ∃ bp, wx.ownsRow bp 111 kindP.K (.slice PA ps.length pc) ps.length (Rw.row kindP ps)) (fun _ n _ => ps.length - (intOf n).toNat)
      case atStart => exact ⟨0, T, D, Qt, vs, rfl, Nat.zero_le _, HR4.out, _, HVP.out⟩
      case round =>
        obtain ⟨w5, rfl⟩ : ∃ w5, w5 = wr := ⟨_, rfl⟩
        obtain ⟨q, T1, D1, Q1, vs1, rfl, hq, hI1, bp, hvp⟩ := hrel
        obtain ⟨g2, off2, c2, rfl, _, _, hc21, _, _⟩ := hI1.on.at_
        have HI1 := Lib.hid hI1; have HVP1 := Lib.hid hvp; clear hI1 hvp HR4 HVP
        by_cases hql : q < ps.length
        · have hqz : (q : Int) < (ps.length : Int) := by omega
          have hqb : q < 2000 := by omega
          obtain ⟨⟨m, z⟩, hmz⟩ : ∃ mz, ps[q]? = some mz := ⟨_, List.getElem?_eq_getElem hql⟩
          obtain ⟨pg, rfl⟩ : ∃ pg, PA = some ⟨pg, 0, none⟩ := by
            rcases HVP1.out.2 with ⟨_, h0⟩ | ⟨g, cap, cur, e, _⟩
            · omega
            · injection e with e; exact ⟨g, e⟩
          have p0 := HVP1.out.cells (g := pg) rfl (q * 2) (.int .i64 (m : Nat)) (by have := Rw.row_at (κ := kindP) ps q (m, z) hmz 0 _ rfl; simpa [kindP] using this)
          have p1 := HVP1.out.cells (g := pg) rfl (q * 2 + 1) (.int .i64 (z : Nat)) (by have := Rw.row_at (κ := kindP) ps q (m, z) hmz 1 _ rfl; simpa [kindP] using this)
          rw [add_zero_off] at p0 p1
          have hpg : pg < w5.heap.size := (HVP1.out.lt pg rfl).2
          obtain ⟨yn, hyn⟩ := toG_at (by rw [HPS.out]; exact hmz)
          obtain ⟨y, hy, rfl⟩ : ∃ y, lg[m]? = some y ∧ y.nd = yn := by
            unfold nds at hyn
            rw [List.getElem?_map, Option.map_eq_some_iff] at hyn
            exact hyn
          have hml : m < lg.length := (List.getElem?_eq_some_iff.1 hy).1
          have hmlz : (m : Int) < (lg.length : Int) := by omega
          have hTl := HI1.out.run.len
          rw [nds_len] at hTl
          obtain ⟨l, hl1⟩ : ∃ l, T1[m]? = some l := ⟨_, List.getElem?_eq_getElem (by omega)⟩
          obtain ⟨⟨sA, sn, sc⟩, hs1, hsn, hso, hsc⟩ := HI1.out.tt.get hl1
          simp only at hsn
          subst hsn
          have hlr := HI1.out.run.row hl1
          obtain ⟨A9, c9, e9, hTs, _⟩ := Rw.Ts.of_own (κ := kindS) (ts := l) hso
          cases e9
          have hcf := fun wz (hz : Below w5.heap.size w5 wz) => Mx.containsFunc_any sA l sc 129 #[.pointer (some ⟨gs, 0, none⟩)] (fun x => decide (x.L u)) wz (Rw.Ts.below hTs hz) (by omega) (enters_of Tryz.func129 (by kernel_rfl) rfl) (fun _ => reachC gs u wz (HoldsM.below HI1.out.box hz))
          have hBl : w.heap.size < w5.heap.size := HI1.out.tt.row.lt
          have hok : y.nd.smOk := HF.out.fedOk (toG_fd.1 ⟨(m, z), by rw [HPS.out]; exact List.mem_of_getElem? hmz, rfl⟩) hyn
          have HMZ := Lib.hid hmz; have HYN := Lib.hid hyn; have HY := Lib.hid hy; have HL1 := Lib.hid hl1; have HS1 := Lib.hid hs1; have HSO := Lib.hid hso; have HLR := Lib.hid hlr; have HCF := Lib.hid hcf; have HOK := Lib.hid hok
          clear hmz hyn hy hl1 hs1 hso hlr hcf hok hTs hTl
          go_wp2_with fail
          refine (HCF.out _ ((Below.refl _ _).alloc (Nat.le_refl _) _)).mono ?_; rintro e w6 ⟨rfl, hb6⟩
          have hb56 : Below w5.heap.size w5 w6 := ((Below.refl w5.heap.size w5).alloc (Nat.le_refl _) (.cells #[.int .i64 (m : Nat), .int .i64 (z : Nat)] 111)).trans (hb6.mono (by simp))
          have HI6 := Lib.hid (HI1.out.kept hb56); have HVP6 := Lib.hid (Rw.own_kept HVP1.out hb56); have HSO6 := Lib.hid (own_keptM HSO.out hb56)
          have hBl6 : w.heap.size < w6.heap.size := Nat.lt_of_lt_of_le hBl hb56.size
          clear hb6 hb56 p0 p1 hsc hBl hpg HCF
          dsimp only
          cases hany : (l.any fun x => decide (x.L u)) with
          | true =>
            have hcov : CovAt T1 m u := by
              obtain ⟨t, ht, hl⟩ := List.any_eq_true.1 hany
              exact ⟨l, t, HL1.out, ht, of_decide_eq_true hl⟩
            have HSK := Lib.hid (HI6.out.skip HMZ.out hcov); clear hany hcov
            go_wp2_with fail
            go_roundw
            case rel => exact ⟨q + 1, T1, D1, Q1, vs1, by simp, by omega, HSK.out, bp, HVP6.out⟩
            case measure => simp only [intOf]; omega
          | false =>
            have hno : ∀ t ∈ l, ¬ t.L u := fun t ht hl => by
              have := List.any_eq_false.1 hany t ht
              simp only [decide_eq_true_eq] at this
              exact this hl
            have HNO := Lib.hid hno; clear hno hany
            have e1 : w6.cell? ⟨w.heap.size, m, none⟩ = some (.slice sA l.length sc) := by rw [HI6.out.tt.row.cell]; exact slv_at HS1.out
            obtain ⟨d0, d1, d2, d3, d4, d5, d6⟩ := HI6.out.box.cells5
            have hgl : gs < w6.heap.size := Row.lt HI6.out.box
            have hrow6 := HI6.out.tt.row
            obtain ⟨is, his, hs0, hs1', hs2⟩ := info_parts Mx.infoSum
            have hsB : (Value.slice sA l.length sc).ownBlock ≠ some w.heap.size := fun e => by
              rcases own_apartM HSO6.out hrow6 (by decide) with e2 | e2
              · rw [e2] at e; cases e
              · exact e2 e
            have HIS := Lib.hid his; have HZ0 := Lib.hid hs0; have HZ1 := Lib.hid hs1'; have HZ2 := Lib.hid hs2; have HROW6 := Lib.hid hrow6; have HSB := Lib.hid hsB
            clear his hs0 hs1' hs2 hrow6 hsB
            go_upto_region 12 with fail
            go_cut [] from 55 to 65 (fun wx => ∃ vs2, RchJ (nds lg) i j u w w.heap.size gs N0 ps q (.slice (some ⟨g2, off2, none⟩) (Q1.length + 1) c2) wx T1 D1 Q1 vs2 m y.nd (T1.set m (waysS (l ++ [u]))) ∧ wx.ownsRow bp 111 kindP.K (.slice (some ⟨pg, 0, none⟩) ps.length pc) ps.length (Rw.row kindP ps))
            case first =>
              go_region_law
                (first
                  | (refine step_append_lies _ (by rfl) _ _ _ (by rfl) w.heap.size 44 is _ 7 56 Tryz.underlying36 HIS.out HZ0.out HZ1.out HZ2.out rfl (by omega) (.slice sA l.length sc) _ _ (by rfl) ((HSO6.out.alloc _).drew)
                      ⟨w6.heap.size, 0, none⟩ 1 1 [.int .i64 u.fr, .int .i64 u.to, .int .i64 u.kp, .int .i64 u.ad, .int .i64 u.t0, .int .i64 u.t1, .int .i64 u.t2] (by rfl) (by rfl) (World.news_of_block (cs := #[.int .i64 u.fr, .int .i64 u.to, .int .i64 u.kp, .int .i64 u.ad, .int .i64 u.t0, .int .i64 u.t1, .int .i64 u.t2]) (t := 44) (fr := (0, 0)) (heap_alloc_new w6 _)) (by simp [Value.oneCell'])
                      (by omega) (by unfold maxLen; have := HLR.out; omega) (by have := HLR.out; omega) (by simp; omega) (w6.heap.size + 1) (by simp) ?_; intro gg cap w7 hown7 hgrow7 hat7 hlt7)
                  | (refine step_call (by rfl) _ _ (by rfl) Tryz.func30 (by kernel_rfl) (by rfl) [.slice (some ⟨gg, 0, none⟩) (l.length + 1) cap] (by rfl) (least_sl hown7 HLR.out) ?_; rintro _ w8 ⟨A8, n8, c8, rfl, hown8, hb8⟩; have hr7 : Row w7 w.heap.size 36 (slv vs1) := ((HROW6.out.alloc _).drew).grown hgrow7 (fun e => HSB.out e.symm); have hr8 : Row w8 w.heap.size 36 (slv vs1) := hr7.below hb8 hr7.lt; have f5 : w8.frozen? ⟨w.heap.size, m, none⟩ = false := hr8.free m; have f6 : w8.cell? ⟨w.heap.size, m, none⟩ = some (.slice sA l.length sc) := by { rw [hr8.cell]; exact slv_at HS1.out }))
              all_goals
                have hg67 : w6.grownBy w7 (Value.slice sA l.length sc).ownBlock := World.grownBy.trans (World.grownBy_alloc w6 _ _) ⟨hgrow7.os, hgrow7.tape, hgrow7.output, hgrow7.size, hgrow7.block⟩
                have hJ := RchI.put (s := ⟨sA, l.length, sc⟩) (s2 := ⟨A8, n8, c8⟩) HF.out HI6.out HMZ.out HPS.out HYN.out HL1.out HS1.out HNO.out hg67 hb8 hown8
                have hp7 := HVP6.out.kept hg67 (Rw.own_apart2 HSO6.out HVP6.out (by decide))
                have hp8 : w8.ownsRow bp 111 kindP.K (.slice (some ⟨pg, 0, none⟩) ps.length pc) ps.length (Rw.row kindP ps) := Rw.own_kept hp7 hb8
                have hp9 := hp8.kept (grown_set w8 w.heap.size m (.slice A8 n8 c8)) (.inr fun e => Rw.own_apart hp8 hr8 (by decide) e.symm)
                have HJ := Lib.hid hJ; have HP9 := Lib.hid hp9
                clear hJ hp7 hp8 hp9 hg67 hgrow7 hown7 hown8 hb8 hr7 hr8 f5 f6 hat7
                go_wp2_with fail
                go_meet
                exact ⟨_, HJ.out, HP9.out⟩
            case rest =>
              obtain ⟨vs2, hJ, hp⟩ := hcut
              clear e1 d0 d1 d2 d3 d4 d5 d6
              obtain ⟨w9, rfl⟩ : ∃ w9, w9 = wc := ⟨_, rfl⟩
              obtain ⟨b9, o9, e, _, hln⟩ := (HG.out.below hJ.below).load HY.out
              cases e
              obtain ⟨⟨yk, ya, yb, yd, yi⟩, yA, yc⟩ := y
              have hon := fun wz => ofNode_any yk ya yb yd yi yA yc wz HOK.out
              obtain ⟨O, hO⟩ : ∃ O, Nd.sm ⟨yk, ya, yb, yd, yi⟩ = O := ⟨_, rfl⟩
              rw [hO] at hon
              have hth := fun wz => then_any u O wz
              have hyes := Sm.th_yes (a := u) (b := O)
              have hno' := Sm.th_no (a := u) (b := O)
              generalize u.th O = S at *
              generalize u.thB O = TB at *
              have hsx : HoldsM w9 gs 44 u := hJ.box
              have HJ := Lib.hid hJ; have HP := Lib.hid hp; have HLN := Lib.hid hln; have HON := Lib.hid hon; have HTH := Lib.hid hth; have HYES := Lib.hid hyes; have HNO2 := Lib.hid hno'; have HSX := Lib.hid hsx; have HO := Lib.hid hO
              clear hJ hp hln hon hth hyes hno' hsx hO
              go_upto_region 13 with fail
              refine Free.wp_key (by kernel_rfl) (by kernel_rfl) (PutF w9 10 11 44 [.int .i64 0, .int .i64 0, .int .i64 0, .int .i64 0, .int .i64 0, .int .i64 0, .int .i64 0] [.int .i64 S.fr, .int .i64 S.to, .int .i64 S.kp, .int .i64 S.ad, .int .i64 S.t0, .int .i64 S.t1, .int .i64 S.t2]) (RchV lg b o c m gs yk ya yc yb yd yi yA u O S TB) (fun vs => PutF.start 13 (by decide) (by decide) _ _ _ _ vs) ?_ ?_
              · intro i o hi bz vs az wa hold hpre hbi hF
                match i with
                | 0 =>
                  cases hi
                  exact Free.c_all rfl (Free.g_load _ _ rfl ((hold 7 (by decide)).trans rfl) (load_m HSX.out wa hF.1) ⟨rfl, hF.keep (Below.refl _ _) (by decide) (by decide)⟩)
                | 1 =>
                  cases hi
                  exact Free.c_all rfl (Free.g_move _ rfl ⟨((hold 0 (by decide)).trans rfl), hF.keep (Below.refl _ _) (by decide) (by decide)⟩)
                | 2 =>
                  cases hi
                  exact Free.c_all rfl (Free.g_move _ rfl ⟨((hold 11 (by decide)).trans rfl), hF.keep (Below.refl _ _) (by decide) (by decide)⟩)
                | 3 =>
                  cases hi
                  have h1 : az.eval (.tmp 68) = .slice (some ⟨b, o, none⟩) lg.length c := (hpre 1 _ _ (by kernel_rfl) rfl rfl).2.2
                  have h2 : az.eval (.tmp 69) = .int .i64 (m : Nat) := (hpre 2 _ _ (by kernel_rfl) rfl rfl).2.2
                  exact Free.c_all rfl (Free.g_indexAddr (v := .pointer (some ⟨b, o + m * 5, none⟩)) _ _ _ rfl h1 h2 (by go_simp) ⟨rfl, hF.keep (Below.refl _ _) (by decide) (by decide)⟩)
                | 4 =>
                  cases hi
                  have h0 : az.eval (.tmp 70) = .pointer (some ⟨b, o + m * 5, none⟩) := (hpre 3 _ _ (by kernel_rfl) rfl rfl).2.2
                  exact Free.c_all rfl (Free.g_load _ _ rfl h0 (HLN.out wa hF.1) ⟨rfl, hF.keep (Below.refl _ _) (by decide) (by decide)⟩)
                | 5 =>
                  cases hi
                  have h0 : az.eval (.tmp 71) = .agg #[.int .u8 (yk : Nat), .int .u8 (ya : Nat), .int .i64 yb, .int .i64 yd, .slice yA yi.length yc] := (hpre 4 _ _ (by kernel_rfl) rfl rfl).2.2
                  refine Free.c_all rfl (Free.g_call _ _ rfl Tryz.func130 (by kernel_rfl) rfl [.agg #[.int .u8 (yk : Nat), .int .u8 (ya : Nat), .int .i64 yb, .int .i64 yd, .slice yA yi.length yc]] (by show [az.eval (.tmp 71)] = _; rw [h0]) ?_)
                  exact ((fun wa _ => HON.out wa) wa hF.1).mono fun e w2 ⟨he, hb2⟩ => ⟨_, he, rfl, hF.keep hb2 (by decide) (by decide)⟩
                | 6 =>
                  cases hi
                  have h0 : az.eval (.tmp 67) = .agg #[.int .i64 u.fr, .int .i64 u.to, .int .i64 u.kp, .int .i64 u.ad, .int .i64 u.t0, .int .i64 u.t1, .int .i64 u.t2] := (hpre 0 _ _ (by kernel_rfl) rfl rfl).2.2
                  have h1 : az.eval (.tmp 72) = .agg #[.int .i64 O.fr, .int .i64 O.to, .int .i64 O.kp, .int .i64 O.ad, .int .i64 O.t0, .int .i64 O.t1, .int .i64 O.t2] := (hpre 5 _ _ (by kernel_rfl) rfl rfl).2.2
                  refine Free.c_all rfl (Free.g_call _ _ rfl Tryz.func29 (by kernel_rfl) rfl [.agg #[.int .i64 u.fr, .int .i64 u.to, .int .i64 u.kp, .int .i64 u.ad, .int .i64 u.t0, .int .i64 u.t1, .int .i64 u.t2], .agg #[.int .i64 O.fr, .int .i64 O.to, .int .i64 O.kp, .int .i64 O.ad, .int .i64 O.t0, .int .i64 O.t1, .int .i64 O.t2]] (by show [az.eval (.tmp 67), az.eval (.tmp 72)] = _; rw [h0, h1]) ?_)
                  exact ((fun wa _ => HTH.out wa) wa hF.1).mono fun e w2 ⟨he, hb2⟩ => ⟨_, he, rfl, hF.keep hb2 (by decide) (by decide)⟩
                | 7 =>
                  cases hi
                  have h0 : az.eval (.tmp 73) = .tuple #[.agg #[.int .i64 S.fr, .int .i64 S.to, .int .i64 S.kp, .int .i64 S.ad, .int .i64 S.t0, .int .i64 S.t1, .int .i64 S.t2], .bool TB] := (hpre 6 _ _ (by kernel_rfl) rfl rfl).2.2
                  exact Free.c_all rfl (Free.g_move _ rfl ⟨h0, hF.keep (Below.refl _ _) (by decide) (by decide)⟩)
                | 8 =>
                  cases hi
                  have h0 : az.eval (.tmp 66) = .tuple #[.agg #[.int .i64 S.fr, .int .i64 S.to, .int .i64 S.kp, .int .i64 S.ad, .int .i64 S.t0, .int .i64 S.t1, .int .i64 S.t2], .bool TB] := (hpre 7 _ _ (by kernel_rfl) rfl rfl).2.2
                  refine Free.c_all rfl ?_
                  unfold execOp
                  simp only [h0]
                  go_simp
                  exact ⟨rfl, hF.keep (Below.refl _ _) (by decide) (by decide)⟩
                | 9 =>
                  cases hi
                  have h0 : az.eval (.tmp 66) = .tuple #[.agg #[.int .i64 S.fr, .int .i64 S.to, .int .i64 S.kp, .int .i64 S.ad, .int .i64 S.t0, .int .i64 S.t1, .int .i64 S.t2], .bool TB] := (hpre 7 _ _ (by kernel_rfl) rfl rfl).2.2
                  refine Free.c_all rfl ?_
                  unfold execOp
                  simp only [h0]
                  go_simp
                  exact ⟨rfl, hF.keep (Below.refl _ _) (by decide) (by decide)⟩
                | 10 =>
                  cases hi
                  refine Free.c_all rfl ?_
                  unfold execOp
                  go_simp
                  exact ⟨trivial, hF.alloc (by decide) hbi⟩
                | 11 =>
                  cases hi
                  have hq := id (hpre (10) _ _ (by kernel_rfl) rfl rfl)
                  have hx : az.eval (.tmp 74) = .agg #[.int .i64 S.fr, .int .i64 S.to, .int .i64 S.kp, .int .i64 S.ad, .int .i64 S.t0, .int .i64 S.t1, .int .i64 S.t2] := (hpre 8 _ _ (by kernel_rfl) rfl rfl).2.2
                  obtain ⟨blk, hblk, hle, hrow⟩ := hF.row hq.1 hbi
                  have hp : az.eval (.tmp 12) = .pointer (some ⟨blk, 0, none⟩) := hq.2.1.trans hblk
                  have hc0 := hrow.cell 0; have hf0 := hrow.free 0
                  have hc1 := hrow.cell 1; have hf1 := hrow.free 1
                  have hc2 := hrow.cell 2; have hf2 := hrow.free 2
                  have hc3 := hrow.cell 3; have hf3 := hrow.free 3
                  have hc4 := hrow.cell 4; have hf4 := hrow.free 4
                  have hc5 := hrow.cell 5; have hf5 := hrow.free 5
                  have hc6 := hrow.cell 6; have hf6 := hrow.free 6
                  simp only [List.getElem?_cons_succ, List.getElem?_cons_zero] at hc0 hc1 hc2 hc3 hc4 hc5 hc6
                  refine Free.c_all rfl ?_
                  unfold execOp
                  simp only [hp, hx]
                  go_simp
                  exact ⟨rfl, hF.store (by decide) hq.1 hblk hle (row_set7 hrow) ((((((((hF.1.setCell hle _).setCell hle _).setCell hle _).setCell hle _).setCell hle _).setCell hle _).setCell hle _))⟩
                | 12 =>
                  cases hi
                  have h0 : az.eval (.tmp 75) = .bool TB := (hpre 9 _ _ (by kernel_rfl) rfl rfl).2.2
                  exact Free.c_all rfl (Free.g_assign _ rfl ⟨h0, hF.keep (Below.refl _ _) (by decide) (by decide)⟩)
                | _ + 13 => cases hi
              · intro vs we hv hF
                obtain ⟨hbE, blk, hblk, hle, hrowE⟩ := hF.done
                clear hF
                have e12 : vs 12 = .bool TB := hv 12 (by simp) (by rintro o ⟨⟩; rfl)
                clear hv
                simp only [Free.puts, Nat.reduceAdd, hblk, e12]
                clear e12
                clear hblk
                generalize vs 0 = y0
                generalize vs 1 = y1
                generalize vs 2 = y2
                generalize vs 3 = y3
                generalize vs 4 = y4
                generalize vs 5 = y5
                generalize vs 6 = y6
                generalize vs 7 = y7
                generalize vs 8 = y8
                generalize vs 9 = y9
                generalize vs 11 = y11
                clear vs
                go_simp
                have HJ10 := Lib.hid (HJ.out.kept hbE); have HP10 := Lib.hid (Rw.own_kept HP.out hbE); have HSS : Hid (Mx.Holds we blk S) := Lib.hid hrowE
                clear hbE hle hrowE HJ HP HLN HON HTH HSX
                generalize we = w10 at *
                generalize blk = gM at *
                cases TB with
                | false =>
                  have hto : ¬ u.thenOk (Nd.sm ⟨yk, ya, yb, yd, yi⟩) := fun h => by
                    rw [HO.out] at h
                    have := (HYES.out h).2; cases this
                  have HIN := Lib.hid (HJ10.out.no hto); clear hto
                  go_wp2_with fail
                  go_roundw
                  case rel => exact ⟨q + 1, _, _, Q1, vs2, by simp, by omega, HIN.out, bp, HP10.out⟩
                  case measure => simp only [intOf]; omega
                | true =>
                  have hto : u.thenOk O := by
                    apply Classical.byContradiction
                    intro h
                    have := (HNO2.out h).2; cases this
                  have hSe := (HYES.out hto).1
                  rw [← HO.out] at hto hSe
                  obtain ⟨s0, s1, s2, s3, s4, s5, s6⟩ := HSS.out.cells5
                  have hbnd := HJ10.out.room
                  have hfew := HJ10.out.few
                  rw [nds_len] at hbnd
                  have hqn : Q1.length ≤ 60000000 := by omega
                  have hty := Rw.Ts.made (κ := kindW) w10 [(m, S)] 182
                  have hon10 := HJ10.out.on
                  have hsz := HJ10.out.below.size
                  have HTO := Lib.hid hto; have HSE := Lib.hid hSe; have HQN := Lib.hid hqn; have HTY := Lib.hid hty; have HON := Lib.hid hon10; have HSZ := Lib.hid hsz
                  clear hto hSe hbnd hfew hqn hty hon10 hsz
                  go_wp2_with (at_builtin; refine Rc.append_own kindW 182 183 Tryz.underlying183 infoWay rfl rfl _ _ rfl w.heap.size _ (Q1.length + 1) ((j, u) :: Q1) rfl (HON.out.alloc _) _ 1 [(m, S)] rfl HTY.out (by simp) (by unfold maxLen; have := HQN.out; simp; omega) (by have := HQN.out; simp; omega) (by have := HSZ.out; simp; omega) ?_; intro v11 w11 hv11 hg11 _; have hy11 := RchJ.yes HJ10.out HTO.out rfl (by rw [← HSE.out]; exact hv11) hg11; have hp11 := ways11_kept HON.out HP10.out hg11; have HY11 := Lib.hid hy11; have HP11 := Lib.hid hp11; clear hy11 hp11 hv11 hg11)
                  go_roundw
                  case rel => exact ⟨q + 1, _, _, _, vs2, by simp, by omega, HY11.out, bp, HP11.out⟩
                  case measure => simp only [intOf]; omega
        · have hqz : ¬ (q : Int) < (ps.length : Int) := by omega
          have hqe : q = ps.length := by omega
          subst hqe
          obtain ⟨N, hN, hS2⟩ := HI1.out.ends HF.out HPS.out
          have HS2 := Lib.hid hS2; have HNN := Lib.hid hN; clear hS2 hN
          obtain ⟨nQ2, hnQ2⟩ : ∃ nQ2, Q1.length + 1 = nQ2 := ⟨_, rfl⟩
          have hQ2 : (1 : Int) ≤ (nQ2 : Int) := by omega
          rw [hnQ2] at hc21 ⊢
          have HNQ2 := Lib.hid hnQ2; clear hnQ2
          have hlast : RchN (nds lg) i w w.heap.size (.slice (if c2 = 1 then some ⟨g2, off2, none⟩ else some ⟨g2, off2 + 8, none⟩) (nQ2 - 1) (c2 - 1)) w5 N := by
            have e : Q1.length = nQ2 - 1 := by have := HNQ2.out; omega
            have h := HS2.out
            rw [e] at h
            exact ⟨T1, D1, Q1, vs1, h⟩
          have HLAST := Lib.hid hlast; clear hlast
          go_wp2_with fail
          go_roundw
          case rel => exact ⟨N, HLAST.out⟩
          case measure => rw [HN0.out]; exact Nat.lt_of_le_of_lt (leastN_le HLAST.out) HNN.out
end
end Go.Proofs.YtmhophmpbpbjaaaGreatDoor
