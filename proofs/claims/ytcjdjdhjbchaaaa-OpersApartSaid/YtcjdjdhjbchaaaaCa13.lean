/- OpIn, OpFilter, OpMap -/
import Derived.Test.YtcjdjdhjbchaaaaCa7
import Derived.Test.YtcjdjdhjbchaaaaCa12
import Derived.Lib.SliceRun
namespace Go.Proofs.Ytcjdjdhjbchaaaa
set_option linter.unusedVariables false
section
namespace Op
open Go.ChangeShapes Go.WideShapes Go.ChangeAt Go.RowKit Go.BigFrame Go.Shelf Vr
set_option maxRecDepth 100000
def kindRR : Kind Rr := ⟨fun r => [r.val], 1, fun _ => rfl, fun t u hu => by simp only [List.mem_singleton] at hu; subst hu; rfl, by decide⟩
/-- the slice at A holds the slices of these rows -/
structure RowsIn (w : World) (A : Option Addr) (L : List Rr) : Prop where
  ts : Rw.Ts kindRR w A L
  ok : ∀ r ∈ L, r.Ok w
theorem RowsIn.below {w w' : World} {A : Option Addr} {L : List Rr} (h : RowsIn w A L) (hb : Below w.heap.size w w') : RowsIn w' A L := ⟨h.ts.below hb, fun r hr => (h.ok r hr).below hb⟩
theorem RowsIn.at_ {w : World} {A : Option Addr} {L : List Rr} (h : RowsIn w A L) {i : Nat} {r : Rr} (hi : L[i]? = some r) : ∃ b o, A = some ⟨b, o, none⟩ ∧ b < w.heap.size ∧ ∀ w', Below w.heap.size w w' → w'.cell? ⟨b, o + i, none⟩ = some (.slice r.A r.ts.length r.c) := by
  obtain ⟨b, o, e, hlt, hc⟩ := h.ts.at_ hi
  refine ⟨b, o, e, hlt, fun w' hb => ?_⟩
  have := hc w' hb 0 _ rfl
  simp only [kindRR, Nat.mul_one, Nat.add_zero] at this
  exact this
theorem row_rr : ∀ (L : List Rr), Rw.row kindRR L = L.map Rr.val
  | [] => rfl
  | r :: L => by rw [Rw.row_cons, row_rr L]; rfl
theorem RowsIn.of_at {w : World} {B : Nat} {L : List Rr} (h : RowsAt w B L) : RowsIn w (some ⟨B, 0, none⟩) L := ⟨Rw.Ts.of_row (t := 28) (by rw [row_rr]; exact h.row), h.ok⟩
theorem RowsIn.nil {w : World} {A : Option Addr} : RowsIn w A [] := ⟨Rw.Ts.nil, by simp⟩
/-- rows that are handed on -/
def InV (w : World) (v : Value) (ls : List (List Rd)) : Prop := ∃ A c L, v = .slice A ls.length c ∧ RowsIn w A L ∧ L.map Rr.ts = ls
theorem InV.below {w w' : World} {v : Value} {ls : List (List Rd)} (h : InV w v ls) (hb : Below w.heap.size w w') : InV w' v ls := by
  obtain ⟨A, c, L, e, hR, h2⟩ := h
  exact ⟨A, c, L, e, hR.below hb, h2⟩
theorem LitV.inV {w : World} {v : Value} {ls : List (List Rd)} (h : LitV w v ls) : InV w v ls := by
  obtain ⟨B, L, e, hR, h2⟩ := h
  exact ⟨_, _, L, e, RowsIn.of_at hR, h2⟩
theorem InV.nil (w : World) : InV w (.slice none 0 0) [] := ⟨none, 0, [], rfl, RowsIn.nil, rfl⟩
/-- one of them -/
theorem InV.at_ {w : World} {v : Value} {ls : List (List Rd)} (h : InV w v ls) {i : Nat} {l : List Rd} (hi : ls[i]? = some l) : ∃ b o c A k, v = .slice (some ⟨b, o, none⟩) ls.length c ∧ Rw.Ts kindR w A l ∧ (A = none → k = 0 ∧ l = []) ∧ ∀ w', Below w.heap.size w w' → w'.cell? ⟨b, o + i, none⟩ = some (.slice A l.length k) := by
  obtain ⟨A, c, L, e, hR, h2⟩ := h
  subst h2
  rw [List.getElem?_map] at hi
  cases hl : L[i]? with
  | none => rw [hl] at hi; cases hi
  | some r =>
    rw [hl] at hi
    simp only [Option.map_some, Option.some.injEq] at hi
    subst hi
    obtain ⟨b, o, rfl, hlt, hc⟩ := hR.at_ hl
    have hok := hR.ok r (List.mem_of_getElem? hl)
    exact ⟨b, o, c, r.A, r.c, e, hok.ts, hok.nil, hc⟩
@[reducible] def nodeV (n : Nd) (A : Option Addr) (m c : Nat) : Value := .agg #[.int .u8 (n.k : Nat), .int .u8 (n.a : Nat), .int .i64 n.b, .int .i64 n.d, .slice A m c]
set_option maxHeartbeats 4000000 in
theorem concat2_any (A : Option Addr) (c : Nat) (L : List Rr) (w : World) (hL : RowsIn w A L) (hl : L.length ≤ 1000) (hn : (cat L).length ≤ 1000000) :
    Calls Try.prog 44 #[.slice A L.length c] w fun e w' => (∃ v, e = .returned v ∧ w'.ownsRow w.heap.size 36 kindR.K v (cat L).length (Rw.row kindR (cat L))) ∧ Below w.heap.size w w' := by
  have HL := Lib.hid hL; have HN := Lib.hid hn; clear hL hn
  go_enter Try.func44, Try.ntmps44
  go_wp2_with fail
  go_loop [3, 11] (fun s i => ∃ k : Nat, k ≤ L.length ∧ i = .int .i64 k ∧ s = .int .i64 ((cat (L.take k)).length : Nat)) (fun _ i => L.length - (intOf i).toNat)
  case atStart => exact ⟨0, by omega, rfl, rfl⟩
  case round =>
    obtain ⟨k, hk, rfl, rfl⟩ := hrel
    by_cases hlt : k < L.length
    · have hltz : (k : Int) < (L.length : Int) := by omega
      obtain ⟨r, hr⟩ : ∃ r, L[k]? = some r := ⟨_, List.getElem?_eq_getElem hlt⟩
      obtain ⟨B, o, rfl, hBl, hq⟩ := HL.out.at_ hr
      have q := hq w (Below.refl _ _)
      clear hq
      have ht := cat_take hr
      have hle := cat_take_le L (k + 1)
      rw [ht, List.length_append] at hle
      obtain ⟨p, hp⟩ : ∃ p, (cat (L.take k)).length = p := ⟨_, rfl⟩
      rw [hp] at hle ⊢
      have hb : p + r.ts.length ≤ 1000000 := by have := HN.out; omega
      have hz : ¬ ((p : Int) + (r.ts.length : Int) < 0) := by omega
      have HT := Lib.hid ht; have HP := Lib.hid hp
      clear hle hr ht hp
      go_wp2_with fail
      go_round
      case rel => exact ⟨k + 1, by omega, by simp, by rw [HT.out, List.length_append, HP.out]; simp⟩
      case measure => simp [intOf]; omega
    · have hkl : k = L.length := by omega
      subst hkl
      rw [List.take_length]
      have hg := grow_any (cat L).length w HN.out
      have HG := Lib.hid hg; clear hg
      have hnn : (cat L).length ≤ 1000000 := HN.out
      go_wp2_with fail
      refine HG.out.mono ?_; rintro e w1 ⟨⟨v, rfl, hown⟩, hb1⟩
      have HO := Lib.hid hown; have HB := Lib.hid hb1; clear hown hb1 HG
      dsimp only
      go_wp2_with fail
      go_loopw [6, 27] (fun fv i wr => ∃ k : Nat, k ≤ L.length ∧ i = .int .i64 k ∧ Below w.heap.size w wr ∧ wr.ownsRow w.heap.size 36 kindR.K fv (cat (L.take k)).length (Rw.row kindR (cat (L.take k)))) (fun _ i _ => L.length - (intOf i).toNat)
      case atStart => exact ⟨0, by omega, rfl, HB.out, HO.out⟩
      case round =>
        obtain ⟨k, hk, rfl, hbw, hro⟩ := hrel
        have HBW := Lib.hid hbw; have HRO := Lib.hid hro; clear hbw hro HO HB
        by_cases hlt : k < L.length
        · have hltz : (k : Int) < (L.length : Int) := by omega
          obtain ⟨r, hr⟩ : ∃ r, L[k]? = some r := ⟨_, List.getElem?_eq_getElem hlt⟩
          obtain ⟨B, o, rfl, hBl, hq⟩ := HL.out.at_ hr
          have q := hq wr HBW.out
          clear hq
          have hok := HL.out.ok r (List.mem_of_getElem? hr)
          have ht := cat_take hr
          have hle := cat_take_le L (k + 1)
          rw [ht, List.length_append] at hle
          generalize cat (L.take k) = us at *
          have hb : us.length + r.ts.length ≤ 1000000 := by omega
          have hbs := HBW.out.size
          have HT := Lib.hid ht; have HOK := Lib.hid hok; have HBS := Lib.hid hbs
          clear hle hr ht hok hbs
          go_wp2_with (at_builtin; refine Rw.append_own kindR 36 28 Try.underlying28 infoRec rfl rfl _ _ rfl w.heap.size _ us.length us rfl HRO.out r.A r.c r.ts rfl HOK.out.nil (HOK.out.ts.below HBW.out) (by unfold maxLen; omega) (by omega) HBS.out ?_; intro v2 w4 hv2 hg2; have hb2 := Rw.own_below HRO.out hg2 HBW.out HBS.out; have HV := Lib.hid hv2; have HB2 := Lib.hid hb2; clear hv2 hg2 hb2)
          go_roundw
          case rel => exact ⟨k + 1, by omega, by simp, HB2.out, by rw [HT.out, List.length_append]; exact HV.out⟩
          case measure => simp only [intOf]; omega
        · have hkl : k = L.length := by omega
          subst hkl
          have hro := HRO.out
          rw [List.take_length] at hro
          have HRO' := Lib.hid hro; clear hro
          go_wp2_with fail
          go_ret
          exact ⟨⟨_, rfl, HRO'.out⟩, HBW.out⟩
theorem concat_v {w : World} {v : Value} {ls : List (List Rd)} (h : InV w v ls) (h1 : ls.length ≤ 1000) (h2 : ls.flatten.length ≤ 100000) : Calls Try.prog 44 #[v] w (GivesR ls.flatten w) := by
  obtain ⟨A, c, L, rfl, hR, rfl⟩ := h
  rw [List.length_map] at h1 ⊢
  exact (concat2_any A c L w hR h1 (show (cat L).length ≤ 1000000 by unfold cat; omega)).mono fun _ _ ⟨⟨v, he, ho⟩, hb⟩ => ⟨⟨v, he, RowV.own ho⟩, hb⟩
/-- what a node's closure answers -/
def GivesP (l : List Rd) (w : World) (e : Ending) (w' : World) : Prop := (∃ v' l', e = .returned v' ∧ l'.Perm l ∧ RowV w' v' l') ∧ Below w.heap.size w w'
theorem as_v {w : World} {v : Value} {ls : List (List Rd)} (n : Nd) (NA : Option Addr) (nm nc : Nat) (h : InV w v ls) (h1 : ls.length ≤ 1000) (h2 : ls.flatten.length ≤ 100000) : Calls Try.prog 50 #[nodeV n NA nm nc, v] w (GivesP ls.flatten w) := by
  have hb1 := (Below.refl _ w).alloc (Nat.le_refl _) (.cells #[.int .u8 (n.k : Nat), .int .u8 (n.a : Nat), .int .i64 n.b, .int .i64 n.d, .slice NA nm nc] 24)
  have HC := Lib.hid (concat_v (h.below hb1) h1 h2)
  have HB := Lib.hid hb1
  clear h h1 h2 hb1
  generalize ls.flatten = fl at *
  go_enter Try.func50, Try.ntmps50
  go_wp2_with fail
  refine HC.out.mono ?_; rintro e w1 ⟨⟨v, rfl, hr⟩, hb⟩
  have HR := Lib.hid hr; have HB1 := Lib.hid (HB.out.trans (hb.mono HB.out.size)); clear hr hb
  dsimp only
  go_wp2_with fail
  go_ret
  exact ⟨⟨_, _, rfl, List.Perm.refl _, HR.out⟩, HB1.out⟩
end Op
end

section
namespace Op
open Go.ChangeShapes Go.WideShapes Go.ChangeAt Go.RowKit Go.BigFrame Go.Shelf Vr
set_option maxRecDepth 100000
theorem node_box (w : World) (n : Nd) (NA : Option Addr) (nm nc : Nat) : Row (w.alloc (.cells #[.int .u8 (n.k : Nat), .int .u8 (n.a : Nat), .int .i64 n.b, .int .i64 n.d, .slice NA nm nc] 24)) w.heap.size 24 [.int .u8 (n.k : Nat), .int .u8 (n.a : Nat), .int .i64 n.b, .int .i64 n.d, .slice NA nm nc] := Row.made w _ _
/-- a node, loaded out of its box -/
theorem load_node {w : World} {g : Nat} {n : Nd} {NA : Option Addr} {nm nc : Nat} (h : Row w g 24 [.int .u8 (n.k : Nat), .int .u8 (n.a : Nat), .int .i64 n.b, .int .i64 n.d, .slice NA nm nc]) : (Instr.loadAt 24 (.pointer (some ⟨g, 0, none⟩))).run Try.prog w = .ok (nodeV n NA nm nc) w :=
  run_loadAt_part g 0 24 _ [.int .u8 (n.k : Nat), .int .u8 (n.a : Nat), .int .i64 n.b, .int .i64 n.d, .slice NA nm nc] (fun j v hj => by rw [add_at, Nat.zero_add, h.cell]; exact hj) Try.underlying24 rfl (by kernel_rfl)
theorem cells5 {w : World} {g : Nat} {t : TypeId} {a b c d e : Value} (h : Row w g t [a, b, c, d, e]) : w.cell? ⟨g, 0, none⟩ = some a ∧ w.cell? ⟨g, 1, none⟩ = some b ∧ w.cell? ⟨g, 2, none⟩ = some c ∧ w.cell? ⟨g, 3, none⟩ = some d ∧ w.cell? ⟨g, 4, none⟩ = some e := ⟨h.cell 0, h.cell 1, h.cell 2, h.cell 3, h.cell 4⟩
theorem cells2 {w : World} {g : Nat} {t : TypeId} {a b : Value} (h : Row w g t [a, b]) : w.cell? ⟨g, 0, none⟩ = some a ∧ w.cell? ⟨g, 1, none⟩ = some b := ⟨h.cell 0, h.cell 1⟩
theorem filter_snoc (p : Rd → Bool) (l : List Rd) (r : Rd) : (l ++ [r]).filter p = if p r then l.filter p ++ [r] else l.filter p := by
  rw [List.filter_append]
  cases h : p r <;> simp [h]
set_option maxHeartbeats 4000000 in
theorem filter_v {w : World} {v : Value} {l : List Rd} (n : Nd) (NA : Option Addr) (nm nc : Nat) (hI : InV w v [l]) (hl : l.length ≤ 10000) (ha : n.a ≤ 2) (hb : n.a = 1 → 1 ≤ n.b) (hb2 : n.b ≤ 9223372036854775807) :
    Calls Try.prog 54 #[nodeV n NA nm nc, v] w (GivesP (l.filter (passB n)) w) := by
  obtain ⟨B, o, c, A, k, rfl, hT, hn, hc⟩ := hI.at_ (i := 0) (l := l) rfl
  have hb1 := (Below.refl _ w).alloc (Nat.le_refl _) (.cells #[.int .u8 (n.k : Nat), .int .u8 (n.a : Nat), .int .i64 n.b, .int .i64 n.d, .slice NA nm nc] 24)
  have hbx := node_box w n NA nm nc
  have q0 := hc _ hb1
  rw [Nat.add_zero] at q0
  have HC := Lib.hid fun r w' => passes_any n NA nm nc r w' ha hb hb2
  have HT := Lib.hid hT; have HB1 := Lib.hid hb1; have HBX := Lib.hid hbx
  clear hI hc hT hn hb1 hbx
  go_enter Try.func54, Try.ntmps54
  go_wp2_with fail
  clear q0
  generalize hW1 : w.alloc (.cells #[.int .u8 (n.k : Nat), .int .u8 (n.a : Nat), .int .i64 n.b, .int .i64 n.d, .slice NA nm nc] 24) = w1 at *
  clear hW1
  go_loopw [5, 12] (fun fv vi wr => ∃ i : Nat, i ≤ l.length ∧ vi = .int .i64 i ∧ wr.ownsRow w1.heap.size 36 kindR.K fv ((l.take i).filter (passB n)).length (Rw.row kindR ((l.take i).filter (passB n))) ∧ Below w1.heap.size w1 wr) (fun _ vi _ => l.length - (intOf vi).toNat)
  case atStart => exact ⟨0, by omega, rfl, World.ownsRow_nil _ _ _ _, Below.refl _ _⟩
  case round =>
    obtain ⟨i, hi, rfl, hown, hb0⟩ := hrel
    have HO := Lib.hid hown; have HB := Lib.hid hb0; clear hown hb0
    by_cases hlt : i < l.length
    · have hltz : (i : Int) < (l.length : Int) := by omega
      obtain ⟨r, hr⟩ : ∃ r, l[i]? = some r := ⟨_, List.getElem?_eq_getElem hlt⟩
      obtain ⟨b1, o1, rfl, hb1, hcl⟩ := recs_at HT.out hr
      obtain ⟨e0, e1⟩ := hcl wr (HB1.out.trans (HB.out.mono HB1.out.size))
      have hfl : ((l.take i).filter (passB n)).length ≤ i := Nat.le_trans (List.length_filter_le _ _) (List.length_take_le _ _)
      have hst : (l.take (i + 1)).filter (passB n) = if passB n r then (l.take i).filter (passB n) ++ [r] else (l.take i).filter (passB n) := by
        rw [take_snoc hr]; exact filter_snoc _ _ _
      have HST := Lib.hid hst; clear hst hcl hr
      have hrow := (HBX.out.below HB.out HBX.out.lt)
      generalize (l.take i).filter (passB n) = us at *
      go_upto_region 5 with fail
      have hrw := Row.made wr 36 [.int .i64 r.k, .int .i64 r.v]
      have hal := (Below.refl wr.heap.size wr).alloc (Nat.le_refl _) (.cells #[.int .i64 r.k, .int .i64 r.v] 36)
      have hrow2 := hrow.alloc (.cells #[.int .i64 r.k, .int .i64 r.v] 36)
      simp only [List.toArray] at hrw
      clear hrow e0 e1
      generalize wr.alloc (.cells #[.int .i64 r.k, .int .i64 r.v] 36) = wz at *
      have hsz : wr.heap.size < wz.heap.size := hrw.lt
      have HSZ := Lib.hid hsz; clear hsz
      have HAL := Lib.hid hal; have HO1 := Lib.hid (Rw.own_kept HO.out hal); have HB2 := Lib.hid (HB.out.trans (hal.mono HB.out.size)); clear hal HO HB HAL
      generalize wr.heap.size = B2 at *
      have hc0 := HC.out r wz
      obtain ⟨m0, m1, m2, m3, m4⟩ := cells5 hrow2
      obtain ⟨p0, p1⟩ := cells2 hrw
      have HC0 := Lib.hid hc0; have HRW := Lib.hid hrw; clear hc0 hrow2 hrw
      go_wp2_with fail
      refine HC0.out.mono ?_; rintro e w5 ⟨rfl, hb5⟩
      have h5 := HRW.out.below hb5 HRW.out.lt
      have hB5 := HB2.out.trans (hb5.mono HB2.out.size)
      have ho5 := Rw.own_kept HO1.out hb5
      have HB5 := Lib.hid hB5; have HO5 := Lib.hid ho5
      clear p0 p1
      obtain ⟨p0, p1⟩ := cells2 h5
      clear h5 hB5 ho5 hb5 HRW HC0 HB2 HO1 m0 m1 m2 m3 m4
      dsimp only
      cases hp : passB n r with
      | false =>
        have hst := HST.out
        rw [hp] at hst
        simp only [Bool.false_eq_true, if_false] at hst
        have HST2 := Lib.hid hst; clear hst HST hp
        go_wp2_with fail
        go_roundw
        case rel => exact ⟨i + 1, by omega, by simp, by rw [HST2.out]; exact HO5.out, HB5.out⟩
        case measure => simp only [intOf]; omega
      | true =>
        have hst := HST.out
        rw [hp] at hst
        simp only [if_true] at hst
        have HST2 := Lib.hid hst; clear hst HST hp
        have HBS := Lib.hid HB5.out.size
        go_wp2_with (at_builtin; refine Rw.append_own kindR 36 28 Try.underlying28 infoRec rfl rfl _ _ rfl w1.heap.size _ us.length us rfl (HO5.out.alloc _) _ 1 [r] rfl (by simp) (Rw.Ts.made _ [r] _) (by unfold maxLen; simp; omega) (by simp; omega) (by have := HBS.out; simp; omega) ?_; intro v2 w6 hv2 hg2; have hb6 := Rw.own_below (HO5.out.alloc _) hg2 (HB5.out.alloc HBS.out _) (by have := HBS.out; simp; omega); have HV : Hid (w6.ownsRow w1.heap.size 36 kindR.K v2 (us ++ [r]).length (Rw.row kindR (us ++ [r]))) := Lib.hid (by rw [List.length_append]; exact hv2); have HB6 := Lib.hid hb6; clear hv2 hg2 hb6 p0 p1)
        go_roundw
        case rel => exact ⟨i + 1, by omega, by simp, by rw [HST2.out]; exact HV.out, HB6.out⟩
        case measure => simp only [intOf]; omega
    · have hil : i = l.length := by omega
      subst hil
      go_wp2_with fail
      go_ret
      have ho := HO.out
      rw [List.take_length] at ho
      exact ⟨⟨_, _, rfl, List.Perm.refl _, RowV.own ho⟩, HB1.out.trans (HB.out.mono HB1.out.size)⟩
end Op
end

section
namespace Op
open Go.ChangeShapes Go.WideShapes Go.ChangeAt Go.RowKit Go.BigFrame Go.Shelf Vr
set_option maxRecDepth 100000
/-- a row of the call's own -/
def OwnD (l : List Rd) (w : World) (e : Ending) (w' : World) : Prop := (∃ v, e = .returned v ∧ w'.ownsRow w.heap.size 36 kindR.K v l.length (Rw.row kindR l)) ∧ Below w.heap.size w w'
theorem own_empty (w : World) : (w.alloc (.cells #[] 36)).ownsRow w.heap.size 36 kindR.K (.slice (some ⟨w.heap.size, 0, none⟩) 0 0) ([] : List Rd).length (Rw.row kindR []) :=
  ⟨rfl, .inr ⟨w.heap.size, 0, #[], rfl, Nat.le_refl _, heap_alloc_new w _, Nat.le_refl _, by simp, rfl, by simp [Rw.row]⟩⟩
set_option maxHeartbeats 1000000 in
theorem clone_any (A : Option Addr) (l : List Rd) (c : Nat) (w : World) (hT : Rw.Ts kindR w A l) (hn : A = none → c = 0 ∧ l = []) (hl : l.length ≤ 100000) : Calls Try.prog 52 #[.slice A l.length c] w (OwnD l w) := by
  have q22 : ∀ (w : World) (a : Option Addr) (n c n' c' : Nat), (binOp .eql 28 (.slice a n c) (.slice none n' c')).run Try.prog w = .ok (.bool a.isNone) w := fun w a n c n' c' => Lib.run_eql_slice_nil w _ _ a n c n' c' Try.underlying28
  cases A with
  | none =>
    obtain ⟨rfl, rfl⟩ := hn rfl
    go_enter Try.func52, Try.ntmps52
    go_wp2_with fail
    go_ret
    exact ⟨⟨_, rfl, World.ownsRow_nil _ _ _ _⟩, Below.refl _ _⟩
  | some a =>
    have HT := Lib.hid hT; clear hT hn
    have hal := (Below.refl _ w).alloc (Nat.le_refl _) (.cells #[] 36)
    have HAL := Lib.hid hal; clear hal
    have hsz : w.heap.size ≤ (w.alloc (.cells #[] 36)).heap.size := by simp
    have HSZ := Lib.hid hsz; clear hsz
    go_enter Try.func52, Try.ntmps52
    go_wp2_with (at_builtin; refine Rw.append_own kindR 36 28 Try.underlying28 infoRec rfl rfl _ _ rfl w.heap.size _ 0 [] rfl (own_empty w) _ _ l rfl (fun e => by cases e) (HT.out.below HAL.out) (by unfold maxLen; omega) (by omega) HSZ.out ?_; intro v2 w4 hv2 hg2; have hb2 := Rw.own_below (own_empty w) hg2 HAL.out HSZ.out; have HV : Hid (w4.ownsRow w.heap.size 36 kindR.K v2 l.length (Rw.row kindR l)) := Lib.hid (by simpa using hv2); have HB2 := Lib.hid hb2; clear hv2 hg2 hb2)
    go_ret
    exact ⟨⟨_, rfl, HV.out⟩, HB2.out⟩
/-- an own row with a record written over -/
theorem own_put {w : World} {base g n c : Nat} {l : List Rd} {i : Nat} {r : Rd} (h : w.ownsRow base 36 kindR.K (.slice (some ⟨g, 0, none⟩) n c) n (Rw.row kindR l)) (hi : i < l.length) :
    ((w.setCell ⟨g, i * 2, none⟩ (.int .i64 r.k)).setCell ⟨g, i * 2 + 1, none⟩ (.int .i64 r.v)).ownsRow base 36 kindR.K (.slice (some ⟨g, 0, none⟩) n c) n (Rw.row kindR (l.set i r)) := by
  have h1 := (h.stored (i * 2) (.int .i64 r.k)).1
  have h2 := (h1.stored (i * 2 + 1) (.int .i64 r.v)).1
  have e : ((Rw.row kindR l).set (i * 2) (.int .i64 r.k)).set (i * 2 + 1) (.int .i64 r.v) = Rw.row kindR (l.set i r) := by
    clear h h1 h2
    induction l generalizing i with
    | nil => simp at hi
    | cons x l ih =>
      cases i with
      | zero => rfl
      | succ i =>
        rw [List.set_cons_succ, Rw.row_cons, Rw.row_cons, ← ih (by simpa using hi)]
        show ([Value.int .i64 x.k, .int .i64 x.v] ++ Rw.row kindR l |>.set ((i + 1) * 2) _ |>.set ((i + 1) * 2 + 1) _) = _
        rw [show (i + 1) * 2 = i * 2 + 1 + 1 by omega]
        rfl
  rw [e] at h2
  exact h2

def wrote (f : Rd → Rd) (l : List Rd) (i : Nat) : List Rd := (l.take i).map f ++ l.drop i
theorem wrote_len (f : Rd → Rd) (l : List Rd) (i : Nat) : (wrote f l i).length = l.length := by unfold wrote; simp; omega
theorem wrote_at {f : Rd → Rd} {l : List Rd} {i : Nat} {r : Rd} (h : l[i]? = some r) : (wrote f l i)[i]? = some r := by
  have hi := (List.getElem?_eq_some_iff.1 h).1
  unfold wrote
  rw [List.getElem?_append_right (by simp; omega), List.length_map, List.length_take, Nat.min_eq_left (by omega), Nat.sub_self, List.getElem?_drop, Nat.add_zero]; exact h
theorem wrote_set {f : Rd → Rd} {l : List Rd} {i : Nat} {r : Rd} (h : l[i]? = some r) : (wrote f l i).set i (f r) = wrote f l (i + 1) := by
  have hi := (List.getElem?_eq_some_iff.1 h).1
  unfold wrote
  rw [Vr.take_snoc h, Vr.drop_cons h, List.map_append, List.set_append_right _ _ (by simp; omega), List.length_map, List.length_take, Nat.min_eq_left (by omega), Nat.sub_self, List.set_cons_zero]
  simp
theorem wrote_end (f : Rd → Rd) (l : List Rd) : wrote f l l.length = l.map f := by unfold wrote; simp
theorem wrote_zero (f : Rd → Rd) (l : List Rd) : wrote f l 0 = l := by unfold wrote; simp
theorem own_form {w : World} {base n m c : Nat} {A : Option Addr} {xs : List Value} (h : w.ownsRow base 36 kindR.K (.slice A m c) n xs) (hn : 0 < n) : ∃ g, A = some ⟨g, 0, none⟩ ∧ base ≤ g ∧ g < w.heap.size ∧ n ≤ c ∧ m = n := by
  have hlt := h.lt
  rcases h.2 with ⟨_, h0⟩ | ⟨g, cap, cur, hv, hb, hh, h1, _⟩
  · omega
  · injection hv with e1 e2 e3
    subst e1 e2 e3
    exact ⟨g, rfl, hb, (hlt g rfl).2, h1, rfl⟩
set_option maxHeartbeats 4000000 in
theorem map_v {w : World} {v : Value} {l : List Rd} (n : Nd) (NA : Option Addr) (nm nc : Nat) (hI : InV w v [l]) (hl : l.length ≤ 10000) (ha : n.a ≤ 3) (hb : n.a = 3 → 1 ≤ n.b) (hb2 : n.b ≤ 9223372036854775807) :
    Calls Try.prog 51 #[nodeV n NA nm nc, v] w (GivesP (l.map (mapR n)) w) := by
  obtain ⟨B, o, c, A, k, rfl, hT, hn, hc⟩ := hI.at_ (i := 0) (l := l) rfl
  have hb1 := (Below.refl _ w).alloc (Nat.le_refl _) (.cells #[.int .u8 (n.k : Nat), .int .u8 (n.a : Nat), .int .i64 n.b, .int .i64 n.d, .slice NA nm nc] 24)
  have hbx := node_box w n NA nm nc
  have q0 := hc _ hb1
  rw [Nat.add_zero] at q0
  have HC := Lib.hid fun r w' => mapped_any n NA nm nc r w' ha hb hb2
  have HCL := Lib.hid (clone_any A l k _ (hT.below hb1) hn (by omega))
  have HB1 := Lib.hid hb1; have HBX := Lib.hid hbx
  clear hI hc hT hn hb1 hbx
  go_enter Try.func51, Try.ntmps51
  go_wp2_with fail
  clear q0
  generalize hW1 : w.alloc (.cells #[.int .u8 (n.k : Nat), .int .u8 (n.a : Nat), .int .i64 n.b, .int .i64 n.d, .slice NA nm nc] 24) = w1 at *
  clear hW1
  refine HCL.out.mono ?_; rintro e w2 ⟨⟨v2, rfl, hown2⟩, hb2'⟩
  clear HCL
  obtain ⟨A1, c1, rfl, _⟩ := own_ts hown2
  have HO2 := Lib.hid hown2; have HB2 := Lib.hid hb2'; clear hown2 hb2'
  dsimp only
  go_wp2_with fail
  go_loopw [14] (fun vi wr => ∃ i : Nat, i ≤ l.length ∧ vi = .int .i64 i ∧ wr.ownsRow w1.heap.size 36 kindR.K (.slice A1 l.length c1) l.length (Rw.row kindR (wrote (mapR n) l i)) ∧ Below w1.heap.size w1 wr) (fun vi _ => l.length - (intOf vi).toNat)
  case atStart => exact ⟨0, by omega, rfl, by rw [wrote_zero]; exact HO2.out, HB2.out⟩
  case round =>
    obtain ⟨i, hi, rfl, hown, hb0⟩ := hrel
    have HO := Lib.hid hown; have HB := Lib.hid hb0; clear hown hb0
    by_cases hlt : i < l.length
    · have hltz : (i : Int) < (l.length : Int) := by omega
      obtain ⟨r, hr⟩ : ∃ r, l[i]? = some r := ⟨_, List.getElem?_eq_getElem hlt⟩
      obtain ⟨g, rfl, hg1, hg2, hg3, _⟩ := own_form HO.out (by omega)
      have hat := wrote_at (f := mapR n) hr
      have hst := wrote_set (f := mapR n) hr
      have hwl := wrote_len (mapR n) l i
      have e0 := (HO.out.cellAt (i * 2) (by show i * 2 < l.length * 2; omega)).trans (Rw.row_at (κ := kindR) _ i r hat 0 _ rfl)
      have e1 := (HO.out.cellAt (i * 2 + 1) (by show i * 2 + 1 < l.length * 2; omega)).trans (Rw.row_at (κ := kindR) _ i r hat 1 _ rfl)
      have HST := Lib.hid hst; have HWL := Lib.hid hwl; have HAT := Lib.hid hat; clear hst hwl hat hr
      have hrow := (HBX.out.below HB.out HBX.out.lt)
      generalize wrote (mapR n) l i = us at *
      go_upto_region 5 with fail
      have hrw := Row.made wr 36 [.int .i64 r.k, .int .i64 r.v]
      have hal := (Below.refl wr.heap.size wr).alloc (Nat.le_refl _) (.cells #[.int .i64 r.k, .int .i64 r.v] 36)
      have hrow2 := hrow.alloc (.cells #[.int .i64 r.k, .int .i64 r.v] 36)
      simp only [List.toArray] at hrw
      clear hrow e0 e1
      generalize wr.alloc (.cells #[.int .i64 r.k, .int .i64 r.v] 36) = wz at *
      have hsz : wr.heap.size < wz.heap.size := hrw.lt
      have HSZ := Lib.hid hsz; clear hsz
      have HO1 := Lib.hid (Rw.own_kept HO.out hal); have HB2' := Lib.hid (HB.out.trans (hal.mono HB.out.size)); clear hal HO HB
      generalize wr.heap.size = B2 at *
      have hc0 := HC.out r wz
      obtain ⟨m0, m1, m2, m3, m4⟩ := cells5 hrow2
      obtain ⟨p0, p1⟩ := cells2 hrw
      have HC0 := Lib.hid hc0; clear hc0 hrow2 hrw
      go_wp2_with fail
      refine HC0.out.mono ?_; rintro e w5 ⟨rfl, hb5⟩
      have hB5 := HB2'.out.trans (hb5.mono HB2'.out.size)
      have ho5 := Rw.own_kept HO1.out hb5
      have HB5 := Lib.hid hB5; have HO5 := Lib.hid ho5
      clear p0 p1 m0 m1 m2 m3 m4 hB5 hb5 HC0 HB2' HO1
      have e0 := (ho5.cellAt (i * 2) (by show i * 2 < l.length * 2; omega)).trans (Rw.row_at (κ := kindR) _ i r HAT.out 0 _ rfl)
      have e1 := (ho5.cellAt (i * 2 + 1) (by show i * 2 + 1 < l.length * 2; omega)).trans (Rw.row_at (κ := kindR) _ i r HAT.out 1 _ rfl)
      have f0 := ho5.frozenAt (i * 2)
      have f1 := ho5.frozenAt (i * 2 + 1)
      clear ho5
      generalize hq : mapR n r = q at *
      clear hq
      dsimp only
      go_wp2_with fail
      go_roundw
      case rel => exact ⟨i + 1, by omega, by simp, by rw [← HST.out]; exact own_put HO5.out (by rw [HWL.out]; exact hlt), (HB5.out.setCell (p := ⟨g, i * 2, none⟩) hg1 _).setCell (p := ⟨g, i * 2 + 1, none⟩) hg1 _⟩
      case measure => simp only [intOf]; omega
    · have hil : i = l.length := by omega
      subst hil
      go_wp2_with fail
      go_ret
      have ho := HO.out
      rw [wrote_end] at ho
      refine ⟨⟨_, _, rfl, List.Perm.refl _, ?_⟩, HB1.out.trans (HB.out.mono HB1.out.size)⟩
      exact RowV.own ho
end Op
end
end Go.Proofs.Ytcjdjdhjbchaaaa
