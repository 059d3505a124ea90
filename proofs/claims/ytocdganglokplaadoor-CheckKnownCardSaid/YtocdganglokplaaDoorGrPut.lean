/- Put, the document's. -/
import Derived.Test.YtocdganglokplaaDoorGrMay
namespace Go.Proofs.YtocdganglokplaaDoor
open Go.ChangeShapes Go.WideShapes Go.ChangeAt Go.RowKit Go.BigFrame
set_option linter.unusedVariables false
set_option maxRecDepth 100000
def kindB : Kind Nat := ⟨fun x => [.int .u8 (x : Nat)], 1, fun _ => rfl, fun t u hu => by simp only [List.mem_singleton] at hu; subst hu; rfl, by decide⟩
theorem infoU8 : (Tryd.prog.info? 5).map (fun i => (i.zero, i.size, i.bytes)) = some (some (.int .u8 0), 1, 1) := by kernel_rfl
/-- the error of Put -/
noncomputable def putE (g : List Nd) : Int := if g.length < 1 ∨ 32 < g.length then 3 else if mayB g = true then 0 else 90
noncomputable def putO (g : List Nd) : List Nat := if g.length < 1 ∨ 32 < g.length then [] else if mayB g = true then putG g else []
/-- what Put answers -/
def PutD (g : List Nd) (w : World) (e : Ending) (w' : World) : Prop := (∃ v, e = .returned (.tuple #[v, .int .i64 (putE g)]) ∧ w'.ownsRow w.heap.size 5 kindB.K v (putO g).length (Rw.row kindB (putO g))) ∧ Below w.heap.size w w'
theorem PutD.nil {g : List Nd} {w w' : World} {e : Int} (he : e = putE g) (h0 : putO g = []) (hb : Below w.heap.size w w') : PutD g w (.returned (.tuple #[.slice none 0 0, .int .i64 e])) w' :=
  ⟨⟨_, by rw [he], by rw [h0]; exact World.ownsRow_nil _ _ _ _⟩, hb⟩
theorem PutD.yes {g : List Nd} {w w' : World} {v : Value} {xs : List Nat} (he : 0 = putE g) (h0 : putO g = xs) (ho : w'.ownsRow w.heap.size 5 kindB.K v xs.length (Rw.row kindB xs)) (hb : Below w.heap.size w w') : PutD g w (.returned (.tuple #[v, .int .i64 0])) w' :=
  ⟨⟨_, by rw [he], by rw [h0]; exact ho⟩, hb⟩
/-- append to bytes of the call's own, of a row of a literal -/
theorem append_b {w : World} {ops : Array Oper} {rest : List Oper} {o : Oper} {a : Act} {Q : Exit → Act → World → Prop} (hgd : o.guard = none) (s x : Operand)
    (ho : o.op = .call { callee := .builtin .append, args := #[s, x], argTypes := #[40, 40] })
    (base : Nat) (v : Value) (n : Nat) (ts : List Nat) (hs : a.eval s = v) (hown : w.ownsRow base 5 kindB.K v n (Rw.row kindB ts))
    (b : Nat) (c : Nat) (ys : List Nat) (hx : a.eval x = .slice (some ⟨b, 0, none⟩) ys.length c) (hb : Rw.Ts kindB w (some ⟨b, 0, none⟩) ys)
    (hle : n + ys.length ≤ 100000) (hbase : base ≤ w.heap.size)
    (h : ∀ v' w', w'.ownsRow base 5 kindB.K v' (n + ys.length) (Rw.row kindB (ts ++ ys)) → w.grownBy w' v.ownBlock → wpList Tryd.prog ops Q rest (a.put o.dst v') w') : wpList Tryd.prog ops Q (o :: rest) a w :=
  Rw.append_own kindB 5 40 Tryd.underlying40 infoU8 rfl hgd s x ho base v n ts hs hown (some ⟨b, 0, none⟩) c ys hx (fun e => by cases e) hb (by unfold maxLen; omega) (by omega) hbase h
theorem nodes_bytes (x : Nd) : x.put.length = 12 + x.ins.length := by simp [Nd.put, be8]; omega
theorem putNs_len : ∀ (l : List Nd), (∀ n ∈ l, n.May) → (putNs l).length ≤ l.length * 14
  | [], _ => by simp [putNs]
  | n :: l, hl => by
    have h1 := putNs_len l fun m hm => hl m (List.mem_cons_of_mem _ hm)
    have h2 := (hl n List.mem_cons_self).2.1
    have h3 := nodes_bytes n
    simp only [putNs, List.map_cons, List.flatten_cons, List.length_append, List.length_cons] at h1 ⊢
    omega
theorem putNs_take {l : List Gn} (h : GMay (nds l)) (k : Nat) : (l.length :: putNs (nds (l.take k))).length ≤ 500 := by
  have h1 := putNs_len (nds (l.take k)) fun n hn => h.2 n (by
    unfold nds at hn ⊢
    rw [List.map_take] at hn
    exact List.mem_of_mem_take hn)
  have h2 := h.1.2
  rw [nds_len] at h1 h2
  have : (l.take k).length ≤ l.length := List.length_take_le' ..
  simp only [List.length_cons]; omega
theorem putNs_more {l : List Gn} {k : Nat} {x : Gn} (hx : l[k]? = some x) : putNs (nds (l.take (k + 1))) = putNs (nds (l.take k)) ++ x.nd.put := by
  unfold nds putNs
  rw [List.take_add_one, hx]; simp
/-- a node's box at g, and the bytes bs of the call's own -/
structure PutS (w0 w : World) (base g : Nat) (cs : List Value) (v : Value) (bs : List Nat) : Prop where
  below : Below base w0 w
  lo : base ≤ w.heap.size
  row : Row w g 39 cs
  own : w.ownsRow base 5 kindB.K v bs.length (Rw.row kindB bs)
theorem PutS.app {w0 w w' : World} {base g : Nat} {cs : List Value} {v v' : Value} {bs ys : List Nat} (h : PutS w0 w base g cs v bs) (o : Obj) (hv : w'.ownsRow base 5 kindB.K v' (bs.length + ys.length) (Rw.row kindB (bs ++ ys)))
    (hg : (w.alloc o).grownBy w' v.ownBlock) : PutS w0 w' base g cs v' (bs ++ ys) where
  below := Rw.own_below (h.own.alloc o) hg (h.below.alloc h.lo o) (by have := h.lo; simp; omega)
  lo := by have := h.lo; have := hg.size; simp at this; omega
  row := (h.row.alloc o).grown hg (Rw.own_apart (h.own.alloc o) (h.row.alloc o) (by decide))
  own := by rw [List.length_append]; exact hv
set_option maxHeartbeats 4000000 in
theorem refPut_any (A : Option Addr) (l : List Gn) (c : Nat) (w : World) (hG : Gr w A l) (hl : l.length ≤ maxLen) :
    Calls Tryd.prog 32 #[.slice A l.length c] w (PutD (nds l) w) := by
  have hm := refMay_any A l c w hG hl
  unfold maxLen at hl
  have HG := Lib.hid hG; clear hG
  by_cases h1 : l.length < 1
  · have he : (3 : Int) = putE (nds l) := by unfold putE; rw [if_pos (by rw [nds_len]; omega)]
    have h0 : putO (nds l) = [] := by unfold putO; rw [if_pos (by rw [nds_len]; omega)]
    have HE := Lib.hid he; have H0 := Lib.hid h0; clear he h0 hm
    go_enter Tryd.func32, Tryd.ntmps32
    go_wp2_with fail
    go_ret2
    exact PutD.nil HE.out H0.out (Below.refl _ _)
  · by_cases h2 : 32 < l.length
    · have he : (3 : Int) = putE (nds l) := by unfold putE; rw [if_pos (by rw [nds_len]; omega)]
      have h0 : putO (nds l) = [] := by unfold putO; rw [if_pos (by rw [nds_len]; omega)]
      have HE := Lib.hid he; have H0 := Lib.hid h0; clear he h0 hm
      go_enter Tryd.func32, Tryd.ntmps32
      go_wp2_with fail
      go_ret2
      exact PutD.nil HE.out H0.out (Below.refl _ _)
    · cases hmb : mayB (nds l) with
      | false =>
        rw [hmb] at hm
        have he : (90 : Int) = putE (nds l) := by unfold putE; rw [if_neg (by rw [nds_len]; omega), if_neg (by rw [hmb]; simp)]
        have h0 : putO (nds l) = [] := by unfold putO; rw [if_neg (by rw [nds_len]; omega), if_neg (by rw [hmb]; simp)]
        have HE := Lib.hid he; have H0 := Lib.hid h0; have HM := Lib.hid hm; clear he h0 hm hmb
        go_enter Tryd.func32, Tryd.ntmps32
        go_wp2_with fail
        refine HM.out.mono ?_; rintro e w1 ⟨rfl, rfl⟩
        dsimp only
        go_wp2_with fail
        go_ret2
        exact PutD.nil HE.out H0.out (Below.refl _ _)
      | true =>
        rw [hmb] at hm
        have he : (0 : Int) = putE (nds l) := by unfold putE; rw [if_neg (by rw [nds_len]; omega), if_pos hmb]
        have h0 : putO (nds l) = putG (nds l) := by unfold putO; rw [if_neg (by rw [nds_len]; omega), if_pos hmb]
        have HE := Lib.hid he; have H0 := Lib.hid h0; have HM := Lib.hid hm; have HMAY := Lib.hid (mayB_iff.1 hmb); clear he h0 hm hmb
        have z1 : decide ((l.length : Int) < 1) = false := by simp; omega
        have z2 : decide (32 < (l.length : Int)) = false := by simp; omega
        go_enter Tryd.func32, Tryd.ntmps32
        go_wp2_with fail
        refine HM.out.mono ?_; rintro e w1 ⟨rfl, rfl⟩
        dsimp only
        go_wp2_with fail
        go_loopw [4, 5] (fun v i wr => ∃ k : Nat, k ≤ l.length ∧ i = .int .i64 k ∧ Below w.heap.size w wr ∧ wr.ownsRow w.heap.size 5 kindB.K v (l.length :: putNs (nds (l.take k))).length (Rw.row kindB (l.length :: putNs (nds (l.take k))))) (fun _ i _ => l.length - (intOf i).toNat)
        case atStart => exact ⟨0, by omega, rfl, (Below.refl _ _).alloc (Nat.le_refl _) _, World.ownsRow_lit w #[.int .u8 (l.length : Nat)] 1 (Nat.le_refl _) (by decide) rfl⟩
        case round =>
          obtain ⟨k, hk, rfl, hb, hown⟩ := hrel
          have HB := Lib.hid hb; have HO := Lib.hid hown; clear hb hown
          by_cases hlt : k < l.length
          · have hltz : (k : Int) < (l.length : Int) := by omega
            obtain ⟨x, hx⟩ : ∃ x, l[k]? = some x := ⟨_, List.getElem?_eq_getElem hlt⟩
            have hmy := HMAY.out.2 x.nd (List.mem_map.2 ⟨x, List.mem_of_getElem? hx, rfl⟩)
            have hbs := putNs_take HMAY.out k
            generalize hbd : (l.length :: putNs (nds (l.take k))) = bs at *
            have HBD := Lib.hid hbd; clear hbd
            have hok := HG.out.ok hx
            obtain ⟨⟨xk, xa, xb, xd, xi⟩, xA, xc⟩ := x
            obtain ⟨D, rfl⟩ : ∃ D : Nat, xd = (D : Int) := Int.eq_ofNat_of_zero_le hmy.1.1
            obtain ⟨b, o, rfl, hbl, hcl⟩ := HG.out.at_ hx
            obtain ⟨c0, c1, c2, c3, c4⟩ := hcl wr HB.out
            simp only at c0 c1 c2 c3 c4
            have HX := Lib.hid hx; have HMY := Lib.hid hmy; have HOK := Lib.hid hok; have HBS := Lib.hid hbs; clear hx hcl hmy hok hbs
            go_upto_region 10 with fail
            have hps : PutS w (wr.alloc (.cells #[.int .u8 (xk : Nat), .int .u8 (xa : Nat), .int .i64 xb, .int .i64 (D : Nat), .slice xA xi.length xc] 39)) w.heap.size wr.heap.size [.int .u8 (xk : Nat), .int .u8 (xa : Nat), .int .i64 xb, .int .i64 (D : Nat), .slice xA xi.length xc] _ bs :=
              ⟨HB.out.alloc HB.out.size _, by have := HB.out.size; simp; omega, Row.made wr _ _, HO.out.alloc _⟩
            have d0 := hps.row.cell 0
            have d1 := hps.row.cell 1
            generalize (wr.alloc (.cells #[.int .u8 (xk : Nat), .int .u8 (xa : Nat), .int .i64 xb, .int .i64 (D : Nat), .slice xA xi.length xc] 39)) = w2 at *
            generalize wr.heap.size = g at *
            have d0' : w2.cell? ⟨g, 0, none⟩ = some (.int .u8 (xk : Nat)) := d0
            have d1' : w2.cell? ⟨g, 1, none⟩ = some (.int .u8 (xa : Nat)) := d1
            have HP := Lib.hid hps; clear hps HB HO c0 c1 c2 c3 c4 d0 d1
            go_wp2_with (at_builtin; refine append_b rfl _ _ rfl w.heap.size _ bs.length bs rfl (HP.out.own.alloc _) _ 2 [xk, xa] rfl (Rw.Ts.made _ [xk, xa] _) (by have := HBS.out; simp; omega) (by have := HP.out.lo; simp; omega) ?_; intro v1 w3 hv1 hg1; have hp1 := HP.out.app _ hv1 hg1; have HP1 := Lib.hid hp1; clear hp1 hv1 hg1 d0' d1' HP)
            go_loopw [4, 7] (fun v i wx => ∃ j : Nat, j ≤ 8 ∧ i = .int .i64 (7 - (j : Int)) ∧ PutS w wx w.heap.size g [.int .u8 (xk : Nat), .int .u8 (xa : Nat), .int .i64 xb, .int .i64 (D : Nat), .slice xA xi.length xc] v (bs ++ [xk, xa] ++ (be8 (uns xb)).take j)) (fun _ i _ => (intOf i + 1).toNat)
            case atStart => exact ⟨0, by omega, rfl, by simpa using HP1.out⟩
            case round =>
              obtain ⟨j, hj, rfl, hps⟩ := hrel
              have hbl : (bs ++ [xk, xa] ++ (be8 (uns xb)).take j).length ≤ 600 := by have := HBS.out; simp [be8]; omega
              have d2 : wr.cell? ⟨g, 2, none⟩ = some (.int .i64 xb) := hps.row.cell 2
              have HQ := Lib.hid hps; have HBL := Lib.hid hbl; clear hps hbl HP1
              by_cases hj8 : j < 8
              · have hbase := HQ.out.lo
                have HBA := Lib.hid hbase; clear hbase
                rcases (show j = 0 ∨ j = 1 ∨ j = 2 ∨ j = 3 ∨ j = 4 ∨ j = 5 ∨ j = 6 ∨ j = 7 by omega) with rfl | rfl | rfl | rfl | rfl | rfl | rfl | rfl
                · obtain ⟨B, hB, hE⟩ : ∃ B : Nat, B = uns xb / 72057594037927936 % 256 ∧ IntKind.u64.wrap xb / 72057594037927936 % 256 = (B : Int) := ⟨_, rfl, by unfold uns; rw [show IntKind.u64.wrap xb = xb % 18446744073709551616 by simp [IntKind.wrap, IntKind.signed, IntKind.bits]]; omega⟩
                  have HB' := Lib.hid hB; clear hB
                  go_wp2_with (at_builtin; refine append_b rfl _ _ rfl w.heap.size _ _ _ rfl (HQ.out.own.alloc _) _ 1 [B] rfl (Rw.Ts.made _ [B] _) (by have := HBL.out; simp only [List.length_cons, List.length_nil]; omega) (by have := HBA.out; simp; omega) ?_; intro v1 w3 hv1 hg1; have hp1 := HQ.out.app _ hv1 hg1; have HP1 := Lib.hid hp1; clear hp1 hv1 hg1)
                  go_roundw
                  case rel => exact ⟨1, by omega, by simp, by have := HP1.out; rw [HB'.out, List.append_assoc (bs ++ [xk, xa])] at this; exact this⟩
                  case measure => simp [intOf]
                · obtain ⟨B, hB, hE⟩ : ∃ B : Nat, B = uns xb / 281474976710656 % 256 ∧ IntKind.u64.wrap xb / 281474976710656 % 256 = (B : Int) := ⟨_, rfl, by unfold uns; rw [show IntKind.u64.wrap xb = xb % 18446744073709551616 by simp [IntKind.wrap, IntKind.signed, IntKind.bits]]; omega⟩
                  have HB' := Lib.hid hB; clear hB
                  go_wp2_with (at_builtin; refine append_b rfl _ _ rfl w.heap.size _ _ _ rfl (HQ.out.own.alloc _) _ 1 [B] rfl (Rw.Ts.made _ [B] _) (by have := HBL.out; simp only [List.length_cons, List.length_nil]; omega) (by have := HBA.out; simp; omega) ?_; intro v1 w3 hv1 hg1; have hp1 := HQ.out.app _ hv1 hg1; have HP1 := Lib.hid hp1; clear hp1 hv1 hg1)
                  go_roundw
                  case rel => exact ⟨2, by omega, by simp, by have := HP1.out; rw [HB'.out, List.append_assoc (bs ++ [xk, xa])] at this; exact this⟩
                  case measure => simp [intOf]
                · obtain ⟨B, hB, hE⟩ : ∃ B : Nat, B = uns xb / 1099511627776 % 256 ∧ IntKind.u64.wrap xb / 1099511627776 % 256 = (B : Int) := ⟨_, rfl, by unfold uns; rw [show IntKind.u64.wrap xb = xb % 18446744073709551616 by simp [IntKind.wrap, IntKind.signed, IntKind.bits]]; omega⟩
                  have HB' := Lib.hid hB; clear hB
                  go_wp2_with (at_builtin; refine append_b rfl _ _ rfl w.heap.size _ _ _ rfl (HQ.out.own.alloc _) _ 1 [B] rfl (Rw.Ts.made _ [B] _) (by have := HBL.out; simp only [List.length_cons, List.length_nil]; omega) (by have := HBA.out; simp; omega) ?_; intro v1 w3 hv1 hg1; have hp1 := HQ.out.app _ hv1 hg1; have HP1 := Lib.hid hp1; clear hp1 hv1 hg1)
                  go_roundw
                  case rel => exact ⟨3, by omega, by simp, by have := HP1.out; rw [HB'.out, List.append_assoc (bs ++ [xk, xa])] at this; exact this⟩
                  case measure => simp [intOf]
                · obtain ⟨B, hB, hE⟩ : ∃ B : Nat, B = uns xb / 4294967296 % 256 ∧ IntKind.u64.wrap xb / 4294967296 % 256 = (B : Int) := ⟨_, rfl, by unfold uns; rw [show IntKind.u64.wrap xb = xb % 18446744073709551616 by simp [IntKind.wrap, IntKind.signed, IntKind.bits]]; omega⟩
                  have HB' := Lib.hid hB; clear hB
                  go_wp2_with (at_builtin; refine append_b rfl _ _ rfl w.heap.size _ _ _ rfl (HQ.out.own.alloc _) _ 1 [B] rfl (Rw.Ts.made _ [B] _) (by have := HBL.out; simp only [List.length_cons, List.length_nil]; omega) (by have := HBA.out; simp; omega) ?_; intro v1 w3 hv1 hg1; have hp1 := HQ.out.app _ hv1 hg1; have HP1 := Lib.hid hp1; clear hp1 hv1 hg1)
                  go_roundw
                  case rel => exact ⟨4, by omega, by simp, by have := HP1.out; rw [HB'.out, List.append_assoc (bs ++ [xk, xa])] at this; exact this⟩
                  case measure => simp [intOf]
                · obtain ⟨B, hB, hE⟩ : ∃ B : Nat, B = uns xb / 16777216 % 256 ∧ IntKind.u64.wrap xb / 16777216 % 256 = (B : Int) := ⟨_, rfl, by unfold uns; rw [show IntKind.u64.wrap xb = xb % 18446744073709551616 by simp [IntKind.wrap, IntKind.signed, IntKind.bits]]; omega⟩
                  have HB' := Lib.hid hB; clear hB
                  go_wp2_with (at_builtin; refine append_b rfl _ _ rfl w.heap.size _ _ _ rfl (HQ.out.own.alloc _) _ 1 [B] rfl (Rw.Ts.made _ [B] _) (by have := HBL.out; simp only [List.length_cons, List.length_nil]; omega) (by have := HBA.out; simp; omega) ?_; intro v1 w3 hv1 hg1; have hp1 := HQ.out.app _ hv1 hg1; have HP1 := Lib.hid hp1; clear hp1 hv1 hg1)
                  go_roundw
                  case rel => exact ⟨5, by omega, by simp, by have := HP1.out; rw [HB'.out, List.append_assoc (bs ++ [xk, xa])] at this; exact this⟩
                  case measure => simp [intOf]
                · obtain ⟨B, hB, hE⟩ : ∃ B : Nat, B = uns xb / 65536 % 256 ∧ IntKind.u64.wrap xb / 65536 % 256 = (B : Int) := ⟨_, rfl, by unfold uns; rw [show IntKind.u64.wrap xb = xb % 18446744073709551616 by simp [IntKind.wrap, IntKind.signed, IntKind.bits]]; omega⟩
                  have HB' := Lib.hid hB; clear hB
                  go_wp2_with (at_builtin; refine append_b rfl _ _ rfl w.heap.size _ _ _ rfl (HQ.out.own.alloc _) _ 1 [B] rfl (Rw.Ts.made _ [B] _) (by have := HBL.out; simp only [List.length_cons, List.length_nil]; omega) (by have := HBA.out; simp; omega) ?_; intro v1 w3 hv1 hg1; have hp1 := HQ.out.app _ hv1 hg1; have HP1 := Lib.hid hp1; clear hp1 hv1 hg1)
                  go_roundw
                  case rel => exact ⟨6, by omega, by simp, by have := HP1.out; rw [HB'.out, List.append_assoc (bs ++ [xk, xa])] at this; exact this⟩
                  case measure => simp [intOf]
                · obtain ⟨B, hB, hE⟩ : ∃ B : Nat, B = uns xb / 256 % 256 ∧ IntKind.u64.wrap xb / 256 % 256 = (B : Int) := ⟨_, rfl, by unfold uns; rw [show IntKind.u64.wrap xb = xb % 18446744073709551616 by simp [IntKind.wrap, IntKind.signed, IntKind.bits]]; omega⟩
                  have HB' := Lib.hid hB; clear hB
                  go_wp2_with (at_builtin; refine append_b rfl _ _ rfl w.heap.size _ _ _ rfl (HQ.out.own.alloc _) _ 1 [B] rfl (Rw.Ts.made _ [B] _) (by have := HBL.out; simp only [List.length_cons, List.length_nil]; omega) (by have := HBA.out; simp; omega) ?_; intro v1 w3 hv1 hg1; have hp1 := HQ.out.app _ hv1 hg1; have HP1 := Lib.hid hp1; clear hp1 hv1 hg1)
                  go_roundw
                  case rel => exact ⟨7, by omega, by simp, by have := HP1.out; rw [HB'.out, List.append_assoc (bs ++ [xk, xa])] at this; exact this⟩
                  case measure => simp [intOf]
                · obtain ⟨B, hB, hE⟩ : ∃ B : Nat, B = uns xb % 256 ∧ IntKind.u64.wrap xb % 256 = (B : Int) := ⟨_, rfl, by unfold uns; rw [show IntKind.u64.wrap xb = xb % 18446744073709551616 by simp [IntKind.wrap, IntKind.signed, IntKind.bits]]; omega⟩
                  have HB' := Lib.hid hB; clear hB
                  go_wp2_with (at_builtin; refine append_b rfl _ _ rfl w.heap.size _ _ _ rfl (HQ.out.own.alloc _) _ 1 [B] rfl (Rw.Ts.made _ [B] _) (by have := HBL.out; simp only [List.length_cons, List.length_nil]; omega) (by have := HBA.out; simp; omega) ?_; intro v1 w3 hv1 hg1; have hp1 := HQ.out.app _ hv1 hg1; have HP1 := Lib.hid hp1; clear hp1 hv1 hg1)
                  go_roundw
                  case rel => exact ⟨8, by omega, by simp, by have := HP1.out; rw [HB'.out, List.append_assoc (bs ++ [xk, xa])] at this; exact this⟩
                  case measure => simp [intOf]
              · have hj88 : j = 8 := by omega
                subst hj88
                have hD : D ≤ 3 := by have := HMY.out.1.2; simp only at this; omega
                have hlx : xi.length ≤ 2 := HMY.out.2.1
                have d3 : wr.cell? ⟨g, 3, none⟩ = some (.int .i64 (D : Nat)) := HQ.out.row.cell 3
                have d4 : wr.cell? ⟨g, 4, none⟩ = some (.slice xA xi.length xc) := HQ.out.row.cell 4
                have hbase := HQ.out.lo
                have HBA := Lib.hid hbase; clear hbase d2
                go_wp2_with (at_builtin; refine append_b rfl _ _ rfl w.heap.size _ _ _ rfl (HQ.out.own.alloc _) _ 2 [D, xi.length] rfl (Rw.Ts.made _ [D, xi.length] _) (by have := HBL.out; simp only [List.length_cons, List.length_nil]; omega) (by have := HBA.out; simp; omega) ?_; intro v1 w3 hv1 hg1; have hp1 := HQ.out.app _ hv1 hg1; have HP1 := Lib.hid hp1; clear hp1 hv1 hg1 d3 d4)
                go_loopw [4, 8] (fun v i wx => ∃ p : Nat, p ≤ xi.length ∧ i = .int .i64 (p : Nat) ∧ PutS w wx w.heap.size g [.int .u8 (xk : Nat), .int .u8 (xa : Nat), .int .i64 xb, .int .i64 (D : Nat), .slice xA xi.length xc] v (bs ++ [xk, xa] ++ (be8 (uns xb)).take 8 ++ [D, xi.length] ++ (xi.take p).map Int.toNat)) (fun _ i _ => xi.length - (intOf i).toNat)
                case atStart => exact ⟨0, by omega, rfl, by simpa using HP1.out⟩
                case round =>
                  obtain ⟨p, hp, rfl, hps⟩ := hrel
                  have hbl : (bs ++ [xk, xa] ++ (be8 (uns xb)).take 8 ++ [D, xi.length] ++ (xi.take p).map Int.toNat).length ≤ 600 := by have := HBS.out; simp [be8]; omega
                  have d4 : wr.cell? ⟨g, 4, none⟩ = some (.slice xA xi.length xc) := hps.row.cell 4
                  have HQ2 := Lib.hid hps; have HBL2 := Lib.hid hbl; clear hps hbl HP1
                  by_cases hlp : p < xi.length
                  · have hpz : (p : Int) < (xi.length : Int) := by omega
                    obtain ⟨z, hz1⟩ : ∃ z, xi[p]? = some z := ⟨_, List.getElem?_eq_getElem hlp⟩
                    have hzz := HMY.out.2.2 z (List.mem_of_getElem? hz1)
                    obtain ⟨Z, rfl⟩ : ∃ Z : Nat, z = (Z : Int) := Int.eq_ofNat_of_zero_le hzz.1
                    obtain ⟨bb, oo, rfl, _, hq1⟩ := ints_at (HG.out.ins HX.out) hz1
                    have q1 := hq1 wr HQ2.out.below
                    have hZ : Z ≤ 31 := by omega
                    have HZ1 := Lib.hid hz1; clear hz1 hq1 hzz
                    have hbase := HQ2.out.lo
                    have HBA2 := Lib.hid hbase; clear hbase
                    go_wp2_with (at_builtin; refine append_b rfl _ _ rfl w.heap.size _ _ _ rfl (HQ2.out.own.alloc _) _ 1 [Z] rfl (Rw.Ts.made _ [Z] _) (by have := HBL2.out; simp only [List.length_cons, List.length_nil]; omega) (by have := HBA2.out; simp; omega) ?_; intro v1 w3 hv1 hg1; have hp1 := HQ2.out.app _ hv1 hg1; have HP1 := Lib.hid hp1; clear hp1 hv1 hg1)
                    go_roundw
                    case rel => exact ⟨p + 1, by omega, by simp, by have := HP1.out; rw [List.append_assoc (bs ++ [xk, xa] ++ (be8 (uns xb)).take 8 ++ [D, xi.length])] at this; have e : (xi.take (p + 1)).map Int.toNat = (xi.take p).map Int.toNat ++ [Z] := by { rw [List.take_add_one, HZ1.out, List.map_append]; rfl }; rw [e]; exact this⟩
                    case measure => simp only [intOf]; omega
                  · have hpz : ¬ (p : Int) < (xi.length : Int) := by omega
                    have hpe : p = xi.length := by omega
                    have HPE := Lib.hid hpe; clear hpe
                    go_wp2_with fail
                    go_roundw
                    case rel =>
                      refine ⟨k + 1, by omega, by simp, HQ2.out.below, ?_⟩
                      have h := HQ2.out.own
                      have e : l.length :: putNs (nds (l.take (k + 1))) = bs ++ [xk, xa] ++ (be8 (uns xb)).take 8 ++ [D, xi.length] ++ (xi.take p).map Int.toNat := by
                        rw [putNs_more HX.out, HPE.out, List.take_length, ← HBD.out]
                        simp [Nd.put, be8]
                      rw [e]; exact h
                    case measure => simp only [intOf]; omega
          · have hltz : ¬ (k : Int) < (l.length : Int) := by omega
            have hke : k = l.length := by omega
            have HK := Lib.hid hke; clear hke hlt hk
            go_wp2_with fail
            go_ret2
            have h := HO.out
            rw [HK.out, List.take_length] at h
            have e : putO (nds l) = l.length :: putNs (nds l) := by rw [H0.out]; unfold putG; rw [nds_len]
            exact PutD.yes HE.out e h HB.out
end Go.Proofs.YtocdganglokplaaDoor
