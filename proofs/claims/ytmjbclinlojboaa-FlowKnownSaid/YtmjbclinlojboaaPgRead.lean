/- readNode, the program's. -/
import Derived.Test.YtmjbclinlojboaaPgCut
namespace Go.Proofs.Ytmjbclinlojboaa
open Go.ChangeShapes Go.WideShapes Go.ChangeAt Go.RowKit Go.BigFrame
set_option linter.unusedVariables false
set_option maxRecDepth 100000
theorem grown_drew {w W : World} {r : Option Nat} (h : w.grownBy W r) : w.grownBy W.drew r := ⟨h.os, h.tape, h.output, h.size, h.block⟩
theorem two_resultsG {P : Program} {fn : Func} {p q : Tmp} {ty : TypeId} {v : Value} (h : fn.results = #[.cell p ty, .tmp q]) (tmps : Array Value) (w : World) (g : Nat) (t : TypeId) (cs : Array Value) (fr : Nat × Nat) (d : TypeDesc)
    (hp : tmps.getD p undef = .pointer (some ⟨g, 0, none⟩)) (hg : w.heap[g]? = some (.cells cs t fr))
    (hu : P.underlying ty = some d) (hd : (match d with | .struct _ | .array _ _ => true | _ => false) = true) (hi : (P.info? ty).map (·.size) = some cs.size) (hq : tmps.getD q undef = v) :
    (results fn tmps).run P w = .ok (.tuple #[.agg cs, v]) w := by
  have hp' : tmps[p]?.getD undef = .pointer (some ⟨g, 0, none⟩) := by simpa using hp
  have hq' : tmps[q]?.getD undef = v := by simpa using hq
  simp [results, h, hp', hq', asAddr, run_loadVar_row w g t ty cs fr d hg hu hd hi]
theorem or_i64 (V x : Nat) (hV : V < 72057594037927936) (hx : x < 256) : bits .or .i64 (sg64 (V * 256)) (x : Int) = sg64 (V * 256 + x) := by
  have hl : V * 256 < 18446744073709551616 := by omega
  have h1 : (BitVec.ofInt 64 (sg64 (V * 256))).toNat = V * 256 := by
    have h := uns_sg64 hl
    unfold uns at h
    rw [BitVec.toNat_ofInt]
    have e : ((2 ^ 64 : Nat) : Int) = 18446744073709551616 := by decide
    rw [e]; exact h
  have h2 : (BitVec.ofInt 64 (x : Int)).toNat = x := by
    rw [BitVec.ofInt_natCast, BitVec.toNat_ofNat]; exact Nat.mod_eq_of_lt (by omega)
  have h3 := Nat.two_pow_add_eq_or_of_lt (i := 8) (b := x) (by omega) V
  show IntKind.i64.wrap ((BitVec.ofInt 64 (sg64 (V * 256)) ||| BitVec.ofInt 64 (x : Int)).toNat : Int) = _
  rw [BitVec.toNat_or, h1, h2, show V * 256 = 2 ^ 8 * V by omega, ← h3, show 2 ^ 8 * V + x = V * 256 + x by omega]
  exact sg64_wrap (by omega)
theorem sg64_low {V : Nat} (h : V < 9223372036854775808) : sg64 V = (V : Int) := by unfold sg64; rw [if_pos h]
/-- in readNode, since w: the result's cells at R, the node's box at g, its inputs of the call's own -/
structure NodeS (w0 w W : World) (B R g : Nat) (ls : List Nat) (cs : List Value) (iv : Value) (ins : List Int) : Prop where
  grown : w.grownBy W (some B)
  res : Row W R 48 [.int .u8 0, .int .u8 0, .int .i64 0, .int .i64 0, .slice none 0 0]
  row : Row W g 48 cs
  box : LeftS w0 W B ls
  own : W.ownsRow w.heap.size 3 kindI.K iv ins.length (Rw.row kindI ins)
  lo : w.heap.size ≤ R ∧ R < g
  hB : B < w.heap.size
section
variable {w0 w W : World} {B R g : Nat} {ls : List Nat} {cs : List Value} {iv : Value} {ins : List Int}
theorem NodeS.set (h : NodeS w0 w W B R g ls cs iv ins) (j : Nat) (u : Value) : NodeS w0 w (W.setCell ⟨g, j, none⟩ u) B R g ls (cs.set j u) iv ins where
  grown := grown_past h.grown (grown_set W g j u) (fun b e => by cases e; have := h.lo; omega)
  res := h.res.far (p := ⟨g, j, none⟩) (by show R ≠ g; have := h.lo; omega) u
  row := h.row.put j u
  box := h.box.kept (grown_set W g j u) (fun e => by injection e with e; have := h.lo; have := h.hB; omega)
  own := h.own.kept (grown_set W g j u) (.inr fun e => Rw.own_apart h.own h.row (by decide) e.symm)
  lo := h.lo
  hB := h.hB
theorem NodeS.cut {W' : World} {ls' : List Nat} (h : NodeS w0 w W B R g ls cs iv ins) (hg : W.grownBy W' (some B)) (hl : LeftS w0 W' B ls') : NodeS w0 w W' B R g ls' cs iv ins where
  grown := grown_trans h.grown hg
  res := h.res.grown hg (fun e => by injection e with e; have := h.lo; have := h.hB; omega)
  row := h.row.grown hg (fun e => by injection e with e; have := h.lo; have := h.hB; omega)
  box := hl
  own := h.own.kept hg (by
    cases e : iv.ownBlock with
    | none => exact .inl rfl
    | some k => right; intro hk; injection hk with hk; have := (h.own.lt k e).1; have := h.hB; omega)
  lo := h.lo
  hB := h.hB
theorem NodeS.more {W' : World} {iv' : Value} {z : Int} (h : NodeS w0 w W B R g ls cs iv ins) (o : Obj) (hv : W'.ownsRow w.heap.size 3 kindI.K iv' (ins.length + 1) (Rw.row kindI (ins ++ [z]))) (hg : (W.alloc o).grownBy W' iv.ownBlock) : NodeS w0 w W' B R g ls cs iv' (ins ++ [z]) where
  grown := grown_past (grown_past h.grown (World.grownBy_alloc W o none) (fun _ e => by cases e)) hg (fun b e => ((h.own.alloc o).lt b e).1)
  res := (h.res.alloc o).grown hg (Rw.own_apart (h.own.alloc o) (h.res.alloc o) (by decide))
  row := (h.row.alloc o).grown hg (Rw.own_apart (h.own.alloc o) (h.row.alloc o) (by decide))
  box := (h.box.kept (World.grownBy_alloc W o none) (fun e => by cases e)).kept hg (fun e => by have := (h.own.lt B e.symm).1; have := h.hB; omega)
  own := by rw [List.length_append]; exact hv
  lo := h.lo
  hB := h.hB
end
/-- at readNode's end: the result's cells are written -/
structure ResS (w0 w W : World) (B R : Nat) (ls : List Nat) (rs : List Value) (iv : Value) (ins : List Int) : Prop where
  grown : w.grownBy W (some B)
  res : Row W R 48 rs
  box : LeftS w0 W B ls
  own : W.ownsRow w.heap.size 3 kindI.K iv ins.length (Rw.row kindI ins)
  lo : w.heap.size ≤ R
  hB : B < w.heap.size
theorem NodeS.ends {w0 w W : World} {B R g : Nat} {ls : List Nat} {cs : List Value} {iv : Value} {ins : List Int} (h : NodeS w0 w W B R g ls cs iv ins) : ResS w0 w W B R ls [.int .u8 0, .int .u8 0, .int .i64 0, .int .i64 0, .slice none 0 0] iv ins := ⟨h.grown, h.res, h.box, h.own, h.lo.1, h.hB⟩
theorem ResS.put {w0 w W : World} {B R : Nat} {ls : List Nat} {rs : List Value} {iv : Value} {ins : List Int} (h : ResS w0 w W B R ls rs iv ins) (j : Nat) (u : Value) : ResS w0 w (W.setCell ⟨R, j, none⟩ u) B R ls (rs.set j u) iv ins where
  grown := grown_past h.grown (grown_set W R j u) (fun b e => by cases e; exact h.lo)
  res := h.res.put j u
  box := h.box.kept (grown_set W R j u) (fun e => by injection e with e; have := h.lo; have := h.hB; omega)
  own := h.own.kept (grown_set W R j u) (.inr fun e => Rw.own_apart h.own h.res (by decide) e.symm)
  lo := h.lo
  hB := h.hB
/-- what readNode answers -/
def ReadD (w0 w : World) (B : Nat) (ys : List Nat) (e : Ending) (w' : World) : Prop :=
  (∃ (xk xa : Nat) (xb xd : Int) (xi : List Int) (xA : Option Addr) (xc n : Nat), e = .returned (.tuple #[.agg #[.int .u8 (xk : Nat), .int .u8 (xa : Nat), .int .i64 xb, .int .i64 xd, .slice xA xi.length xc], .bool true]) ∧
    Gn.Ok ⟨⟨xk, xa, xb, xd, xi⟩, xA, xc⟩ ∧ getN ys = some (⟨xk, xa, xb, xd, xi⟩, ys.drop (12 + n)) ∧ 12 + n ≤ ys.length ∧ w'.ownsRow w.heap.size 3 kindI.K (.slice xA xi.length xc) xi.length (Rw.row kindI xi) ∧ LeftS w0 w' B (ys.drop (12 + n)) ∧ w.grownBy w' (some B)) ∨
  (∃ (xk xa : Nat) (xb xd : Int) (xi : List Int) (xA : Option Addr) (xc : Nat), e = .returned (.tuple #[.agg #[.int .u8 (xk : Nat), .int .u8 (xa : Nat), .int .i64 xb, .int .i64 xd, .slice xA xi.length xc], .bool false]) ∧ getN ys = none ∧ w.grownBy w' (some B))
set_option maxHeartbeats 16000000 in
theorem readNode_any (w0 : World) (ys : List Nat) (B : Nat) (w : World) (h : LeftS w0 w B ys) (hb : Below w0.heap.size w0 w) (hB : w0.heap.size ≤ B) (hx : ∀ x ∈ ys, x < 256) :
    Calls Try.prog 32 #[.func (.func 31) #[] #[.pointer (some ⟨B, 0, none⟩)]] w (ReadD w0 w B ys) := by
  have eg : ∀ args w, (callFunc 31 args).run Try.prog w = .ok (.enter 31 args) w := enters_of Try.func31 (by kernel_rfl) rfl
  have hBw : B < w.heap.size := by obtain ⟨b, o, c, h1, _⟩ := h; exact h1.lt
  have HW := Lib.hid hb; have HX := Lib.hid hx; clear hb hx
  have hL := h.kept (World.grownBy_alloc w (.cells #[.int .u8 0, .int .u8 0, .int .i64 0, .int .i64 0, .slice none 0 0] 48) none) (fun e => by cases e)
  by_cases h1 : ys.length < 12
  · obtain ⟨b, o, c, hr, _⟩ := hL
    have hcall := cut_no _ _ _ 12 B _ hr h1
    have HC := Lib.hid hcall; have HN := Lib.hid (getN_no1 (xs := ys) (t := 0) (by omega)); clear hcall hr h
    go_enter Try.func32, Try.ntmps32
    go_wp2_with fail
    refine HC.out.mono ?_; rintro e w1 ⟨rfl, rfl⟩
    dsimp only
    go_wp2_with fail
    refine bodyPost_ret (v := .tuple #[.agg #[.int .u8 0, .int .u8 0, .int .i64 0, .int .i64 0, .slice none 0 0], .bool false]) (two_resultsG rfl _ _ w.heap.size 48 _ (0, 0) _ rfl (Row.made w _ [.int .u8 0, .int .u8 0, .int .i64 0, .int .i64 0, .slice none 0 0]) Try.underlying48 rfl (by kernel_rfl) rfl) rfl ?_
    exact .inr ⟨0, 0, 0, 0, [], none, 0, rfl, HN.out, World.grownBy_alloc w _ _⟩
  · have hcall := cut_yes w0 ys 12 B _ hL (by omega)
    have HC := Lib.hid hcall; clear hcall hL h
    obtain ⟨n, hn⟩ : ∃ n, ys[11]? = some n := ⟨_, List.getElem?_eq_getElem (by omega)⟩
    obtain ⟨x0, hx0⟩ : ∃ n, ys[0]? = some n := ⟨_, List.getElem?_eq_getElem (by omega)⟩
    obtain ⟨x1, hx1⟩ : ∃ n, ys[1]? = some n := ⟨_, List.getElem?_eq_getElem (by omega)⟩
    obtain ⟨x10, hx10⟩ : ∃ n, ys[10]? = some n := ⟨_, List.getElem?_eq_getElem (by omega)⟩
    have n256 := HX.out n (List.mem_of_getElem? hn)
    have x0256 := HX.out x0 (List.mem_of_getElem? hx0)
    have x1256 := HX.out x1 (List.mem_of_getElem? hx1)
    have x10256 := HX.out x10 (List.mem_of_getElem? hx10)
    have hget : 12 + n ≤ ys.length → getN ys = _ := fun h2 => getN_at (xs := ys) (t := 0) (by omega) hn (by omega) hx0 hx1 hx10
    have hgetn : ¬ 12 + n ≤ ys.length → getN ys = none := fun h2 => getN_no2 (xs := ys) (t := 0) (by omega) hn (by omega)
    have HG := Lib.hid hget; have HGN := Lib.hid hgetn; clear hget hgetn
    have HXS := Lib.hid (And.intro hn (And.intro hx0 (And.intro hx1 hx10))); clear hn hx0 hx1 hx10
    go_enter Try.func32, Try.ntmps32
    go_wp2_with fail
    refine HC.out.mono ?_; rintro e w1 ⟨b, o, c, rfl, hc1, hc2, hts, hleft, hgr⟩
    dsimp only
    have tk : ∀ {i x : Nat}, i < 12 → ys[i]? = some x → (ys.take 12)[i]? = some x := fun hi h => by rw [List.getElem?_take, if_pos hi]; exact h
    have hgw : w.grownBy w1 (some B) := grown_trans (World.grownBy_alloc w _ (some B)) hgr
    have hb1 : Below w0.heap.size w0 w1 := grown_below HW.out hgw hB
    have hres : Row w1 w.heap.size 48 [.int .u8 0, .int .u8 0, .int .i64 0, .int .i64 0, .slice none 0 0] := (Row.made w _ [.int .u8 0, .int .u8 0, .int .i64 0, .int .i64 0, .slice none 0 0]).grown hgr (fun e => by injection e with e; omega)
    have hsz : w.heap.size < w1.heap.size := by have := hgr.size; simp at this; omega
    obtain ⟨_, _, e, hbl, hqa⟩ := bytes_at hts (tk (i := 0) (by omega) HXS.out.2.1)
    cases e
    obtain ⟨_, _, e, _, hqb⟩ := bytes_at hts (tk (i := 1) (by omega) HXS.out.2.2.1)
    cases e
    obtain ⟨_, _, e, _, hqc⟩ := bytes_at hts (tk (i := 10) (by omega) HXS.out.2.2.2)
    cases e
    have qa := hqa w1 hb1
    have qb := hqb w1 hb1
    have qc := hqc w1 hb1
    rw [Nat.add_zero] at qa
    have hbw : b < w1.heap.size := Nat.lt_of_lt_of_le hbl hb1.size
    have HTS := Lib.hid hts; have HGW := Lib.hid hgw; have HRES := Lib.hid hres; have HLF := Lib.hid hleft; clear hts hgw hres hleft hgr hqa hqb hqc hb1 tk
    go_upto_region 4 with fail
    go_region
    have hns : NodeS w0 w (w1.alloc (.cells #[.int .u8 (x0 : Nat), .int .u8 (x1 : Nat), .int .i64 0, .int .i64 (x10 : Nat), .slice none 0 0] 48)).drew B w.heap.size w1.heap.size (ys.drop 12) [.int .u8 (x0 : Nat), .int .u8 (x1 : Nat), .int .i64 0, .int .i64 (x10 : Nat), .slice none 0 0] (.slice none 0 0) [] :=
      ⟨grown_past HGW.out (grown_drew (World.grownBy_alloc w1 _ none)) (fun _ e => by cases e), (HRES.out.alloc _).drew, (Row.made w1 _ _).drew, HLF.out.kept (grown_drew (World.grownBy_alloc w1 _ none)) (fun e => by cases e), World.ownsRow_nil _ _ _ _, ⟨Nat.le_refl _, hsz⟩, hBw⟩
    generalize (w1.alloc (.cells #[.int .u8 (x0 : Nat), .int .u8 (x1 : Nat), .int .i64 0, .int .i64 (x10 : Nat), .slice none 0 0] 48)).drew = w2 at *
    generalize w1.heap.size = g at *
    have HNS := Lib.hid hns; clear hns qa qb qc
    go_wp2_with fail
    go_loopw [34] (fun i wx => ∃ j : Nat, j ≤ 8 ∧ i = .int .i64 j ∧ NodeS w0 w wx B w.heap.size g (ys.drop 12) [.int .u8 (x0 : Nat), .int .u8 (x1 : Nat), .int .i64 (sg64 (accU 0 ((ys.drop 2).take j))), .int .i64 (x10 : Nat), .slice none 0 0] (.slice none 0 0) []) (fun i _ => 8 - (intOf i).toNat)
    case atStart => exact ⟨0, by omega, rfl, HNS.out⟩
    case round =>
      obtain ⟨j, hj, rfl, hns⟩ := hrel
      by_cases hj8 : j < 8
      · have hjz : (j : Int) < 8 := by omega
        obtain ⟨y, hy⟩ : ∃ x, ys[2 + j]? = some x := ⟨_, List.getElem?_eq_getElem (by omega)⟩
        have y256 := HX.out y (List.mem_of_getElem? hy)
        obtain ⟨_, _, e, _, hqy⟩ := bytes_at HTS.out (i := 2 + j) (z := y) (by rw [List.getElem?_take, if_pos (by omega)]; exact hy)
        cases e
        have qy := hqy wr (grown_below HW.out hns.grown hB)
        rw [← Nat.add_assoc] at qy
        have hac := accU_take hy
        have hV := accU_small HX.out 2 j hj8
        have d2 : wr.cell? ⟨g, 2, none⟩ = some (.int .i64 (sg64 (accU 0 ((ys.drop 2).take j)))) := hns.row.cell 2
        have f2 : wr.frozen? ⟨g, 2, none⟩ = false := hns.row.free 2
        rw [sg64_low (by omega)] at d2
        have hor := or_i64 _ y hV y256
        rw [← hac] at hor
        have HS := Lib.hid (hns.set 2 (.int .i64 (sg64 (accU 0 ((ys.drop 2).take (j + 1)))))); clear hns HNS hac hqy hy
        generalize accU 0 ((ys.drop 2).take j) = V at *
        generalize hN : sg64 (accU 0 ((ys.drop 2).take (j + 1))) = N at *
        have HN := Lib.hid hN; clear hN
        have hw := sg64_wrap (X := V * 256) (by omega)
        generalize sg64 (V * 256) = S at *
        rw [show ((V * 256 : Nat) : Int) = (V : Int) * 256 by omega] at hw
        go_wp2_with fail
        go_roundw
        case rel => exact ⟨j + 1, by omega, by simp, by rw [HN.out]; exact HS.out⟩
        case measure => simp only [intOf]; omega
      · have hjz : ¬ (j : Int) < 8 := by omega
        obtain rfl : j = 8 := by omega
        obtain ⟨_, _, e, _, hqn⟩ := bytes_at HTS.out (i := 11) (z := n) (by rw [List.getElem?_take, if_pos (by omega)]; exact HXS.out.1)
        cases e
        have qn := hqn wr (grown_below HW.out hns.grown hB)
        have hX64 : accU 0 ((ys.drop 2).take 8) < 18446744073709551616 := by
          have h := accU_lt ((ys.drop 2).take 8) 0 fun x h => HX.out x (List.mem_of_mem_drop (List.mem_of_mem_take h))
          have hle : ((ys.drop 2).take 8).length ≤ 8 := List.length_take_le _ _
          have : 256 ^ ((ys.drop 2).take 8).length ≤ 256 ^ 8 := Nat.pow_le_pow_right (by decide) hle
          have e : 256 ^ 8 = 18446744073709551616 := by decide
          omega
        obtain ⟨Bv, hBv⟩ : ∃ Bv, sg64 (accU 0 ((ys.drop 2).take 8)) = Bv := ⟨_, rfl⟩
        have hBr := sg64_W hX64
        rw [hBv] at hns hBr
        have HBV := Lib.hid hBv; have HBR := Lib.hid hBr; clear hBv hX64 hBr hqn HNS
        by_cases h2 : 12 + n ≤ ys.length
        · have hcall := cut_yes w0 (ys.drop 12) n B wr hns.box (by rw [List.length_drop]; omega)
          have HC2 := Lib.hid hcall; have HN1 := Lib.hid hns; clear hcall hns
          go_wp2_with fail
          refine HC2.out.mono ?_; rintro e w3 ⟨b2, o2, c2, rfl, k1, k2, hts2, hleft2, hgr2⟩
          have hn3 := HN1.out.cut hgr2 (by rw [List.drop_drop] at hleft2; exact hleft2)
          have HN3 := Lib.hid hn3; have HT2 := Lib.hid hts2; clear hn3 hts2 hleft2 hgr2 qn
          dsimp only
          go_wp2_with fail
          go_loopw [57] (fun i wx => ∃ (p : Nat) (iv : Value), p ≤ n ∧ i = .int .i64 p ∧ NodeS w0 w wx B w.heap.size g (ys.drop (12 + n)) [.int .u8 (x0 : Nat), .int .u8 (x1 : Nat), .int .i64 Bv, .int .i64 (x10 : Nat), iv] iv (((ys.drop 12).take p).map Int.ofNat)) (fun i _ => n - (intOf i).toNat)
          case atStart => exact ⟨0, _, by omega, rfl, by simpa using HN3.out⟩
          case round =>
            obtain ⟨p, iv, hp, rfl, hns⟩ := hrel
            have hins : (((ys.drop 12).take p).map Int.ofNat).length ≤ 256 := by rw [List.length_map]; have := List.length_take_le p (ys.drop 12); omega
            generalize hI : ((ys.drop 12).take p).map Int.ofNat = ins at *
            have HP := Lib.hid hns; have HINS := Lib.hid hI; have HLL := Lib.hid hins; clear hns HN3 hI hins
            by_cases hpn : p < n
            · have hpz : (p : Int) < (n : Int) := by omega
              obtain ⟨z, hz⟩ : ∃ x, ys[12 + p]? = some x := ⟨_, List.getElem?_eq_getElem (by omega)⟩
              have z256 := HX.out z (List.mem_of_getElem? hz)
              have hz2 : (ys.drop 12)[p]? = some z := by rw [List.getElem?_drop]; exact hz
              obtain ⟨_, _, e, _, hqz⟩ := bytes_at HT2.out (i := p) (z := z) (by rw [List.getElem?_take, if_pos hpn]; exact hz2)
              cases e
              have qz := hqz wr (grown_below HW.out HP.out.grown hB)
              have d4 : wr.cell? ⟨g, 4, none⟩ = some iv := HP.out.row.cell 4
              have HZ := Lib.hid hz2; clear hz hz2 hqz
              go_wp2_with (at_builtin; refine Rw.append_own kindI 3 46 Try.underlying46 infoInt rfl rfl _ _ rfl w.heap.size _ ins.length ins rfl (HP.out.own.alloc _) _ 1 [(z : Int)] rfl (fun e => by cases e) (Rw.Ts.made _ [(z : Int)] _) (by unfold maxLen; have := HLL.out; simp; omega) (by have := HLL.out; simp; omega) (by have := HP.out.grown.size; simp; omega) ?_; intro v2 w4 hv2 hg2; obtain ⟨A2, ic2, hve, _⟩ := Rw.Ts.of_own (κ := kindI) (ts := ins ++ [(z : Int)]) hv2; rw [show (ins ++ [(z : Int)]).length = ins.length + 1 by simp] at hve; subst hve; have hm := HP.out.more _ hv2 hg2; have d4' : w4.cell? ⟨g, 4, none⟩ = some iv := hm.row.cell 4; have f4' : w4.frozen? ⟨g, 4, none⟩ = false := hm.row.free 4; have HM := Lib.hid (hm.set 4 (.slice A2 (ins.length + 1) ic2)); clear hm hv2 hg2)
              go_roundw
              case rel =>
                refine ⟨p + 1, .slice A2 (ins.length + 1) ic2, by omega, by simp, ?_⟩
                rw [List.take_add_one, HZ.out, Option.toList_some, List.map_append, HINS.out]
                exact HM.out
              case measure => simp only [intOf]; omega
            · have hpz : ¬ (p : Int) < (n : Int) := by omega
              obtain rfl : p = n := by omega
              obtain ⟨A1, ic, rfl, _, hi1, hi2, hin, _⟩ := Rw.Ts.of_own HP.out.own
              have hok : Gn.Ok ⟨⟨x0, x1, Bv, (x10 : Nat), ins⟩, A1, ic⟩ := ⟨x0256, x1256, by have := HBR.out; show -9223372036854775808 ≤ Bv ∧ Bv ≤ 9223372036854775807; omega, by show -9223372036854775808 ≤ (x10 : Int) ∧ (x10 : Int) ≤ 9223372036854775807; omega, by
                intro z hz
                rw [← HINS.out] at hz
                obtain ⟨y, hy, rfl⟩ := List.mem_map.1 hz
                have := HX.out y (List.mem_of_mem_drop (List.mem_of_mem_take hy))
                show -9223372036854775808 ≤ (y : Int) ∧ (y : Int) ≤ 9223372036854775807
                omega, ⟨hi1, hi2⟩, hin⟩
              have hgt := HG.out h2
              have HOK := Lib.hid hok; have HGT := Lib.hid hgt; clear hok hgt hi1 hi2 hin
              have r0 : wr.cell? ⟨w.heap.size, 0, none⟩ = some (.int .u8 0) := HP.out.res.cell 0
              have r1 : wr.cell? ⟨w.heap.size, 1, none⟩ = some (.int .u8 0) := HP.out.res.cell 1
              have r2 : wr.cell? ⟨w.heap.size, 2, none⟩ = some (.int .i64 0) := HP.out.res.cell 2
              have r3 : wr.cell? ⟨w.heap.size, 3, none⟩ = some (.int .i64 0) := HP.out.res.cell 3
              have r4 : wr.cell? ⟨w.heap.size, 4, none⟩ = some (.slice none 0 0) := HP.out.res.cell 4
              have z0 : wr.frozen? ⟨w.heap.size, 0, none⟩ = false := HP.out.res.free 0
              have z1 : wr.frozen? ⟨w.heap.size, 1, none⟩ = false := HP.out.res.free 1
              have z2 : wr.frozen? ⟨w.heap.size, 2, none⟩ = false := HP.out.res.free 2
              have z3 : wr.frozen? ⟨w.heap.size, 3, none⟩ = false := HP.out.res.free 3
              have z4 : wr.frozen? ⟨w.heap.size, 4, none⟩ = false := HP.out.res.free 4
              have d0 : wr.cell? ⟨g, 0, none⟩ = some (.int .u8 (x0 : Nat)) := HP.out.row.cell 0
              have d1 : wr.cell? ⟨g, 1, none⟩ = some (.int .u8 (x1 : Nat)) := HP.out.row.cell 1
              have d2 : wr.cell? ⟨g, 2, none⟩ = some (.int .i64 Bv) := HP.out.row.cell 2
              have d3 : wr.cell? ⟨g, 3, none⟩ = some (.int .i64 (x10 : Nat)) := HP.out.row.cell 3
              have d4 : wr.cell? ⟨g, 4, none⟩ = some (.slice A1 ins.length ic) := HP.out.row.cell 4
              go_wp2_with fail
              refine bodyPost_ret (v := .tuple #[.agg #[.int .u8 (x0 : Nat), .int .u8 (x1 : Nat), .int .i64 Bv, .int .i64 (x10 : Nat), .slice A1 ins.length ic], .bool true]) (two_resultsG rfl _ _ w.heap.size 48 _ (0, 0) _ rfl (((((HP.out.ends.put 0 _).put 1 _).put 2 _).put 3 _).put 4 _).res Try.underlying48 rfl (by kernel_rfl) rfl) rfl ?_
              refine .inl ⟨x0, x1, Bv, (x10 : Nat), ins, A1, ic, p, rfl, HOK.out, ?_, h2, ?_, ?_, (((((HP.out.ends.put 0 _).put 1 _).put 2 _).put 3 _).put 4 _).grown⟩
              · have h := HGT.out
                rw [show accU 0 (List.take 8 (List.drop (0 + 2) ys)) = accU 0 (List.take 8 (List.drop 2 ys)) from rfl, HBV.out, show List.map Int.ofNat (List.take p (List.drop (0 + 12) ys)) = List.map Int.ofNat (List.take p (List.drop 12 ys)) from rfl, HINS.out] at h
                exact h
              · exact (((((HP.out.ends.put 0 _).put 1 _).put 2 _).put 3 _).put 4 _).own
              · exact (((((HP.out.ends.put 0 _).put 1 _).put 2 _).put 3 _).put 4 _).box
        · have hcall : Calls Try.prog 31 #[.int .i64 (n : Nat), .pointer (some ⟨B, 0, none⟩)] wr fun e w' => e = .returned (.tuple #[.slice none 0 0, .bool false]) ∧ wr = w' := by
            obtain ⟨_, _, _, hr, _⟩ := hns.box
            exact cut_no _ _ _ n B wr hr (by rw [List.length_drop]; omega)
          have HC2 := Lib.hid hcall; have HP := Lib.hid hns; clear hcall hns
          have HGT := Lib.hid (HGN.out h2)
          go_wp2_with fail
          refine HC2.out.mono ?_; rintro e w3 ⟨rfl, rfl⟩
          dsimp only
          go_wp2_with fail
          go_loopw [57] (fun i wx => i = .int .i64 0 ∧ NodeS w0 w wx B w.heap.size g (ys.drop 12) [.int .u8 (x0 : Nat), .int .u8 (x1 : Nat), .int .i64 Bv, .int .i64 (x10 : Nat), .slice none 0 0] (.slice none 0 0) []) (fun _ _ => 0)
          case atStart => exact ⟨rfl, HP.out⟩
          case round =>
            obtain ⟨rfl, hns⟩ := hrel
            have HP := Lib.hid hns; clear hns
            have r0 : wr.cell? ⟨w.heap.size, 0, none⟩ = some (.int .u8 0) := HP.out.res.cell 0
            have r1 : wr.cell? ⟨w.heap.size, 1, none⟩ = some (.int .u8 0) := HP.out.res.cell 1
            have r2 : wr.cell? ⟨w.heap.size, 2, none⟩ = some (.int .i64 0) := HP.out.res.cell 2
            have r3 : wr.cell? ⟨w.heap.size, 3, none⟩ = some (.int .i64 0) := HP.out.res.cell 3
            have r4 : wr.cell? ⟨w.heap.size, 4, none⟩ = some (.slice none 0 0) := HP.out.res.cell 4
            have z0 : wr.frozen? ⟨w.heap.size, 0, none⟩ = false := HP.out.res.free 0
            have z1 : wr.frozen? ⟨w.heap.size, 1, none⟩ = false := HP.out.res.free 1
            have z2 : wr.frozen? ⟨w.heap.size, 2, none⟩ = false := HP.out.res.free 2
            have z3 : wr.frozen? ⟨w.heap.size, 3, none⟩ = false := HP.out.res.free 3
            have z4 : wr.frozen? ⟨w.heap.size, 4, none⟩ = false := HP.out.res.free 4
            have d0 : wr.cell? ⟨g, 0, none⟩ = some (.int .u8 (x0 : Nat)) := HP.out.row.cell 0
            have d1 : wr.cell? ⟨g, 1, none⟩ = some (.int .u8 (x1 : Nat)) := HP.out.row.cell 1
            have d2 : wr.cell? ⟨g, 2, none⟩ = some (.int .i64 Bv) := HP.out.row.cell 2
            have d3 : wr.cell? ⟨g, 3, none⟩ = some (.int .i64 (x10 : Nat)) := HP.out.row.cell 3
            have d4 : wr.cell? ⟨g, 4, none⟩ = some (.slice none 0 0) := HP.out.row.cell 4
            go_wp2_with fail
            refine bodyPost_ret (v := .tuple #[.agg #[.int .u8 (x0 : Nat), .int .u8 (x1 : Nat), .int .i64 Bv, .int .i64 (x10 : Nat), .slice none 0 0], .bool false]) (two_resultsG rfl _ _ w.heap.size 48 _ (0, 0) _ rfl (((((HP.out.ends.put 0 _).put 1 _).put 2 _).put 3 _).put 4 _).res Try.underlying48 rfl (by kernel_rfl) rfl) rfl ?_
            exact .inr ⟨x0, x1, Bv, (x10 : Nat), [], none, 0, rfl, HGT.out, (((((HP.out.ends.put 0 _).put 1 _).put 2 _).put 3 _).put 4 _).grown⟩
end Go.Proofs.Ytmjbclinlojboaa
