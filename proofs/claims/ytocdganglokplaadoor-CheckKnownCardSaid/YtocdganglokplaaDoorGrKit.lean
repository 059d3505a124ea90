/- Ins and Own: how great a graph is; a copy of it. -/
import Derived.Test.YtocdganglokplaaDoorGrOpen
import Derived.Test.YtocdganglokplaaDoorRegion
import Derived.Test.YtocdganglokplaaDoorQuiet
import Derived.Lib.Hide
namespace Go.Proofs.YtocdganglokplaaDoor
open Go.ChangeShapes Go.WideShapes Go.ChangeAt Go.RowKit Go.BigFrame
set_option linter.unusedVariables false
set_option maxRecDepth 100000
theorem retb {a b : Bool} (h : a = b) : Ending.returned (.bool a) = .returned (.bool b) := by rw [h]
/-- at most so many nodes, and inputs of each -/
def insB (l : List Nd) (T : Int) : Bool := decide ((l.length : Int) ≤ T ∧ ∀ x ∈ l, (x.ins.length : Int) ≤ T)
theorem insB_no1 {l : List Gn} {T : Int} (h : T < (l.length : Int)) : false = insB (nds l) T := by
  unfold insB nds; rw [decide_eq_false]; rw [List.length_map]; omega
theorem insB_no2 {l : List Gn} {T : Int} {i : Nat} {x : Gn} (hi : l[i]? = some x) (h : T < (x.nd.ins.length : Int)) : false = insB (nds l) T := by
  unfold insB nds; rw [decide_eq_false]
  intro hh
  have := hh.2 x.nd (List.mem_map.2 ⟨x, List.mem_of_getElem? hi, rfl⟩)
  omega
theorem insB_yes {l : List Gn} {T : Int} (h0 : ¬ T < (l.length : Int)) (h : ∀ (j : Nat) (x : Gn), j < l.length → l[j]? = some x → (x.nd.ins.length : Int) ≤ T) : true = insB (nds l) T := by
  unfold insB nds; rw [decide_eq_true]
  refine ⟨by rw [List.length_map]; omega, fun y hy => ?_⟩
  obtain ⟨x, hx, rfl⟩ := List.mem_map.1 hy
  obtain ⟨j, hj⟩ := List.getElem?_of_mem hx
  exact h j x (List.getElem?_eq_some_iff.1 hj).1 hj
set_option maxHeartbeats 1000000 in
theorem ins_any (A : Option Addr) (l : List Gn) (c : Nat) (T : Int) (w : World) (hG : Gr w A l) (hl : l.length ≤ maxLen) :
    Calls Tryd.prog 9 #[.slice A l.length c, .int .i64 T] w fun e w' => e = .returned (.bool (insB (nds l) T)) ∧ w = w' := by
  unfold maxLen at hl
  have HG := Lib.hid hG; clear hG
  by_cases h0 : T < (l.length : Int)
  · go_enter Tryd.func9, Tryd.ntmps9
    go_wp2_with fail
    go_ret
    exact ⟨retb (insB_no1 h0), rfl⟩
  · go_enter Tryd.func9, Tryd.ntmps9
    go_wp2_with fail
    go_loop [5] (fun i => ∃ k : Nat, k ≤ l.length ∧ i = .int .i64 k ∧ ∀ (j : Nat) (x : Gn), j < k → l[j]? = some x → (x.nd.ins.length : Int) ≤ T) (fun i => l.length - (intOf i).toNat)
    case atStart => exact ⟨0, by omega, rfl, fun j x h => absurd h (by omega)⟩
    case round =>
      obtain ⟨k, hk, rfl, hall⟩ := hrel
      have HA := Lib.hid hall; clear hall
      by_cases hlt : k < l.length
      · have hltz : (k : Int) < (l.length : Int) := by omega
        obtain ⟨x, hx⟩ : ∃ x, l[k]? = some x := ⟨_, List.getElem?_eq_getElem hlt⟩
        obtain ⟨b, o, rfl, hbl, hcl⟩ := HG.out.at_ hx
        obtain ⟨_, _, _, _, c4⟩ := hcl w (Below.refl _ _)
        have HX := Lib.hid hx; clear hx hcl
        by_cases h2 : T < (x.nd.ins.length : Int)
        · go_wp2_with fail
          go_ret
          exact ⟨retb (insB_no2 HX.out h2), rfl⟩
        · go_wp2_with fail
          go_round
          case rel =>
            refine ⟨k + 1, by omega, by simp, fun j y hj hy => ?_⟩
            by_cases e : j = k
            · subst e
              rw [HX.out] at hy; cases hy
              omega
            · exact HA.out j y (by omega) hy
          case measure => simp [intOf]; omega
      · have hltz : ¬ (k : Int) < (l.length : Int) := by omega
        have hkl : k = l.length := by omega
        have HK := Lib.hid hkl; clear hkl
        go_wp2_with fail
        go_ret
        exact ⟨retb (insB_yes (by omega) (by have := HA.out; rw [HK.out] at this; exact this)), rfl⟩
/-- a graph of the call's own -/
structure OwnG (w : World) (base : Nat) (v : Value) (l : List Gn) : Prop where
  row : w.ownsRow base 39 kindG.K v l.length (Rw.row kindG l)
  ok : ∀ x ∈ l, x.Ok
  ins : ∀ x ∈ l, w.ownsRow base 3 kindI.K (.slice x.A x.nd.ins.length x.c) x.nd.ins.length (Rw.row kindI x.nd.ins)
section
variable {w w' : World} {base : Nat} {v : Value} {l : List Gn}
theorem OwnG.nil (w : World) (base : Nat) : OwnG w base (.slice none 0 0) [] := ⟨World.ownsRow_nil _ _ _ _, fun x hx => absurd hx (by simp), fun x hx => absurd hx (by simp)⟩
theorem OwnG.alloc (h : OwnG w base v l) (o : Obj) : OwnG (w.alloc o) base v l := ⟨h.row.alloc o, h.ok, fun x hx => (h.ins x hx).alloc o⟩
theorem OwnG.below (h : OwnG w base v l) (hb : Below w.heap.size w w') : OwnG w' base v l := ⟨Rw.own_kept h.row hb, h.ok, fun x hx => Rw.own_kept (h.ins x hx) hb⟩
/-- rows of numbers are apart from rows of nodes -/
theorem ints_apart {base' n n' K K' : Nat} {u u' : Value} {xs ys : List Value} (h : w.ownsRow base 39 K u n xs) (h' : w.ownsRow base' 3 K' u' n' ys) : u'.ownBlock = none ∨ u'.ownBlock ≠ u.ownBlock := Rw.own_apart2 h h' (by decide)
/-- a node more -/
theorem OwnG.more (h : OwnG w base v l) {x : Gn} (hx : x.Ok) (hi : w.ownsRow base 3 kindI.K (.slice x.A x.nd.ins.length x.c) x.nd.ins.length (Rw.row kindI x.nd.ins)) {v' : Value} (hr : w'.ownsRow base 39 kindG.K v' (l.length + 1) (Rw.row kindG (l ++ [x]))) (hg : w.grownBy w' v.ownBlock) : OwnG w' base v' (l ++ [x]) where
  row := by rw [List.length_append]; exact hr
  ok := fun y hy => by
    rcases List.mem_append.1 hy with hy | hy
    · exact h.ok y hy
    · simp only [List.mem_singleton] at hy; subst hy; exact hx
  ins := fun y hy => by
    rcases List.mem_append.1 hy with hy | hy
    · exact (h.ins y hy).kept hg (ints_apart h.row (h.ins y hy))
    · simp only [List.mem_singleton] at hy; subst hy; exact hi.kept hg (ints_apart h.row hi)
/-- as a graph that can be read -/
theorem OwnG.gr (h : OwnG w base v l) : ∃ A c, v = .slice A l.length c ∧ Gr w A l ∧ l.length ≤ c ∧ c ≤ maxLen ∧ (A = none → c = 0) := by
  obtain ⟨A, c, e, hT, h1, h2, h3, _⟩ := Rw.Ts.of_own h.row
  refine ⟨A, c, e, ⟨hT, fun x hx => ⟨h.ok x hx, ?_⟩⟩, h1, h2, h3⟩
  obtain ⟨A', c', e', hT', _⟩ := Rw.Ts.of_own (h.ins x hx)
  cases e'
  exact hT'
end
theorem grown_set (w : World) (b o : Nat) (v : Value) : w.grownBy (w.setCell ⟨b, o, none⟩ v) (some b) :=
  ⟨rfl, rfl, rfl, by simp [World.setCell], fun k _ hk => Below.heap_setCell _ _ _ _ (fun e => hk (by rw [e]))⟩
/-- behind the first append of a round: what is kept -/
theorem own_round {wr w1 : World} {base : Nat} {v v1 : Value} {d : List Gn} {l : List Value} {zs : List Int} (ho : OwnG wr base v d) (hbase : base ≤ wr.heap.size) (hg : (wr.alloc (.cells l.toArray 39)).grownBy w1 (Value.slice none 0 0).ownBlock)
    (h1 : w1.ownsRow base 3 kindI.K v1 (0 + zs.length) (Rw.row kindI ([] ++ zs))) :
    ∃ A1 cc, v1 = .slice A1 zs.length cc ∧ Row w1 wr.heap.size 39 l ∧ zs.length ≤ cc ∧ cc ≤ maxLen ∧ (A1 = none → cc = 0) ∧ ∀ o u, (w1.setCell ⟨wr.heap.size, o, none⟩ u).ownsRow base 3 kindI.K (.slice A1 zs.length cc) zs.length (Rw.row kindI zs) ∧ Below wr.heap.size wr (w1.setCell ⟨wr.heap.size, o, none⟩ u) := by
  rw [Nat.zero_add, List.nil_append] at h1
  obtain ⟨A1, cc, rfl, _, hc1, hc2, hn, _⟩ := Rw.Ts.of_own h1
  have hr : Row w1 wr.heap.size 39 l := (Row.made wr _ l).grown hg (by intro e; cases e)
  refine ⟨A1, cc, rfl, hr, hc1, hc2, hn, fun o u => ⟨h1.kept (grown_set w1 _ _ _) ?_, ?_⟩⟩
  · have := Rw.own_apart h1 hr (by decide)
    exact .inr fun e => this e.symm
  · exact (((Below.refl _ wr).alloc (Nat.le_refl _) _).grown hg (by simp) (fun k e => by cases e)).setCell (Nat.le_refl _) _
/-- a copy of the graph l, in memory of its own -/
def OwnedG (l : List Gn) (w : World) (e : Ending) (w' : World) : Prop := (∃ v l', e = .returned v ∧ nds l' = nds l ∧ OwnG w' w.heap.size v l') ∧ Below w.heap.size w w'
set_option maxHeartbeats 4000000 in
theorem own_any (A : Option Addr) (l : List Gn) (c : Nat) (w : World) (hG : Gr w A l) (hl : l.length ≤ 1000) (hi : ∀ x ∈ l, x.nd.ins.length ≤ 1000) :
    Calls Tryd.prog 11 #[.slice A l.length c] w (OwnedG l w) := by
  have HG := Lib.hid hG; have HI := Lib.hid hi; clear hG hi
  go_enter Tryd.func11, Tryd.ntmps11
  go_wp2_with fail
  go_loopw [3, 4] (fun v i wr => ∃ (k : Nat) (d : List Gn), k ≤ l.length ∧ i = .int .i64 k ∧ nds d = nds (l.take k) ∧ OwnG wr w.heap.size v d ∧ Below w.heap.size w wr) (fun _ i _ => l.length - (intOf i).toNat)
  case atStart => exact ⟨0, [], by omega, rfl, rfl, OwnG.nil _ _, Below.refl _ _⟩
  case round =>
    obtain ⟨k, d, hk, rfl, hd, hown, hb⟩ := hrel
    have hdl : d.length = k := by
      have := congrArg List.length hd
      simp only [nds, List.length_map, List.length_take] at this; omega
    have HD := Lib.hid hd; have HO := Lib.hid hown; have HB := Lib.hid hb; have HDL := Lib.hid hdl; clear hd hown hb hdl
    by_cases hlt : k < l.length
    · have hltz : (k : Int) < (l.length : Int) := by omega
      obtain ⟨x, hx⟩ : ∃ x, l[k]? = some x := ⟨_, List.getElem?_eq_getElem hlt⟩
      obtain ⟨b, o, rfl, hbl, hcl⟩ := HG.out.at_ hx
      obtain ⟨c0, c1, c2, c3, c4⟩ := hcl wr HB.out
      have HX := Lib.hid hx; clear hx hcl
      have hxo : x.Ok := HG.out.ok HX.out
      have hix := HI.out x (List.mem_of_getElem? HX.out)
      have hixm : 0 + x.nd.ins.length ≤ maxLen := by unfold maxLen; omega
      have hixb : (0 + x.nd.ins.length) * 8 ≤ 140737488355328 := by omega
      have hbs : w.heap.size ≤ (wr.alloc (.cells #[.int .u8 (x.nd.k : Nat), .int .u8 (x.nd.a : Nat), .int .i64 x.nd.b, .int .i64 x.nd.d, .slice x.A x.nd.ins.length x.c] 39)).heap.size := by have := HB.out.size; simp; omega
      have hts : Rw.Ts kindI (wr.alloc (.cells #[.int .u8 (x.nd.k : Nat), .int .u8 (x.nd.a : Nat), .int .i64 x.nd.b, .int .i64 x.nd.d, .slice x.A x.nd.ins.length x.c] 39)) x.A x.nd.ins := ((HG.out.below HB.out).ins HX.out).below ((Below.refl _ wr).alloc (Nat.le_refl _) _)
      have hnn : x.A = none → x.c = 0 ∧ x.nd.ins = [] := fun e => ⟨hxo.none e, List.length_eq_zero_iff.1 (by have := hxo.c.1; have := hxo.none e; omega)⟩
      have HXO := Lib.hid hxo; have HIX := Lib.hid hix; have HXM := Lib.hid hixm; have HXB := Lib.hid hixb; have HBS := Lib.hid hbs; have HTS := Lib.hid hts; have HNN := Lib.hid hnn
      clear hxo hix hixm hixb hbs hts hnn
      go_wp2_with (first
        | (at_builtin
           refine Rw.append_own kindI 3 33 Tryd.underlying33 infoInt rfl rfl _ _ rfl w.heap.size _ 0 [] rfl (World.ownsRow_nil _ _ _ _) x.A x.c x.nd.ins rfl HNN.out HTS.out HXM.out HXB.out HBS.out ?_
           intro v1 w1 hv1 hg1
           obtain ⟨A1, cc, rfl, hrow, hcc1, hcc2, hccn, hset⟩ := own_round (l := [.int .u8 (x.nd.k : Nat), .int .u8 (x.nd.a : Nat), .int .i64 x.nd.b, .int .i64 x.nd.d, .slice x.A x.nd.ins.length x.c]) HO.out HB.out.size hg1 hv1
           have d0 : w1.cell? ⟨wr.heap.size, 0, none⟩ = some (.int .u8 (x.nd.k : Nat)) := hrow.cell 0
           have d1 : w1.cell? ⟨wr.heap.size, 1, none⟩ = some (.int .u8 (x.nd.a : Nat)) := hrow.cell 1
           have d2 : w1.cell? ⟨wr.heap.size, 2, none⟩ = some (.int .i64 x.nd.b) := hrow.cell 2
           have d3 : w1.cell? ⟨wr.heap.size, 3, none⟩ = some (.int .i64 x.nd.d) := hrow.cell 3
           have d4 : w1.cell? ⟨wr.heap.size, 4, none⟩ = some (.slice x.A x.nd.ins.length x.c) := hrow.cell 4
           have f4 : w1.frozen? ⟨wr.heap.size, 4, none⟩ = false := hrow.free 4
           obtain ⟨hin, hbl1⟩ := hset 4 (.slice A1 x.nd.ins.length cc)
           have hbz : w.heap.size ≤ (w1.setCell ⟨wr.heap.size, 4, none⟩ (.slice A1 x.nd.ins.length cc)).heap.size := by have := HB.out.size; have := hbl1.size; omega
           have hog := (HO.out.below hbl1).alloc (.cells #[.int .u8 (x.nd.k : Nat), .int .u8 (x.nd.a : Nat), .int .i64 x.nd.b, .int .i64 x.nd.d, .slice A1 x.nd.ins.length cc] 39)
           have hbl2 := HB.out.trans (hbl1.mono HB.out.size)
           have HIN := Lib.hid hin; have HOG := Lib.hid hog; have HBL := Lib.hid hbl2; have HCC := Lib.hid (And.intro hcc1 (And.intro hcc2 hccn)); have HBZ := Lib.hid hbz
           have hsz : (w1.setCell ⟨wr.heap.size, 4, none⟩ (.slice A1 x.nd.ins.length cc)).heap.size = w1.heap.size := by simp [World.setCell]
           have hty := Rw.Ts.made (κ := kindG) (w1.setCell ⟨wr.heap.size, 4, none⟩ (.slice A1 x.nd.ins.length cc)) [⟨x.nd, A1, cc⟩] 39
           rw [hsz] at hty
           have HTY := Lib.hid hty
           clear hty hsz hin hog hbl1 hbl2 hcc1 hcc2 hccn hbz hset hrow hv1 hg1)
        | (at_builtin
           refine Rw.append_own kindG 39 23 Tryd.underlying23 infoNode rfl rfl _ _ rfl w.heap.size _ d.length d rfl HOG.out.row _ 1 [⟨x.nd, A1, cc⟩] rfl (by simp) HTY.out (by unfold maxLen; have := HDL.out; simp; omega) (by have := HDL.out; simp; omega) (by have := HBZ.out; simp at this ⊢; omega) ?_
           intro v2 w2 hv2 hg2
           have hm := OwnG.more HOG.out (x := ⟨x.nd, A1, cc⟩) ⟨HXO.out.k, HXO.out.a, HXO.out.b, HXO.out.d, HXO.out.ins, ⟨HCC.out.1, HCC.out.2.1⟩, HCC.out.2.2⟩ (HIN.out.alloc _) hv2 hg2
           have hb2 := Rw.own_below HOG.out.row hg2 (HBL.out.alloc HBZ.out _) (by have := HBZ.out; simp at this ⊢; omega)
           have HM := Lib.hid hm; have HB2 := Lib.hid hb2
           clear hm hb2 hv2 hg2 HOG HIN HBL HCC HBZ HTY d0 d1 d2 d3 d4 f4))
      go_roundw
      case rel =>
        refine ⟨k + 1, d ++ [⟨x.nd, A1, cc⟩], by omega, by simp, ?_, HM.out, HB2.out⟩
        have h1 := HD.out
        unfold nds at h1 ⊢
        rw [List.map_append, h1, List.take_add_one, HX.out]; simp
      case measure => simp only [intOf]; omega
    · have hltz : ¬ (k : Int) < (l.length : Int) := by omega
      have hkl : k = l.length := by omega
      have HK := Lib.hid hkl; clear hkl hlt hk
      go_wp2_with fail
      go_ret
      exact ⟨⟨_, d, rfl, by rw [HD.out, HK.out, List.take_length], HO.out⟩, HB.out⟩
end Go.Proofs.YtocdganglokplaaDoor
