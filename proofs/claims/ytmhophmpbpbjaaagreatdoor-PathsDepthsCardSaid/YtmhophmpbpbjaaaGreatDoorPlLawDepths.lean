/- PathsDepths: each way leads from the Depth of the one node to that of the other's inputs, is right, and no other one of the row is at or ahead of it. -/
import Derived.Test.YtmhophmpbpbjaaaGreatDoorCa29
import Derived.Test.YtmhophmpbpbjaaaGreatDoorCa8
import Derived.Test.YtmhophmpbpbjaaaGreatDoorCa4
import Derived.Test.YtmhophmpbpbjaaaGreatDoorCa2
import Derived.Test.YtmhophmpbpbjaaaGreatDoorCa5
namespace Go.Proofs.YtmhophmpbpbjaaaGreatDoor
open Go.ChangeShapes Go.WideShapes Go.ChangeAt Go.RowKit Go.BigFrame
set_option linter.unusedVariables false
set_option maxRecDepth 100000
theorem arr_ends {g : List Nd} {i n : Nat} {x z : Nd} {s : Sm} (hg : Fine g) (ha : Arr g i n s) (hx : g[i]? = some x) (hz : g[n]? = some z) : s.R ∧ s.fr = x.d ∧ ∃ j y, z.ins[0]? = some ((j : Nat) : Int) ∧ g[j]? = some y ∧ s.to = y.d := by
  obtain ⟨hr, ⟨x', hx', e1⟩, j, y, hy, hf, e2⟩ := ha.ends hg
  rw [hx] at hx'
  cases hx'
  obtain ⟨z', hz', hm⟩ := hf
  rw [hz] at hz'
  cases hz'
  refine ⟨hr, e1, ?_⟩
  obtain ⟨c, hc⟩ : ∃ c, z.ins[0]? = some c := by
    cases h0 : z.ins with
    | nil => rw [h0] at hm; cases hm
    | cons c r => exact ⟨c, rfl⟩
  obtain ⟨h0, m, hm2, _⟩ := (hg n z hz).2.1.1 c (List.mem_of_getElem? hc)
  refine ⟨c.toNat, m, by rw [hc]; congr 1; omega, hm2, ?_⟩
  rw [ha.to_eq hg hz]
  exact (hg n z hz).2.2.2 c (List.mem_of_getElem? hc) m hm2
theorem WaysOf.arr {g : List Nd} {i n : Nat} {l : List Sm} {s : Sm} (h : WaysOf g (i : Nat) (n : Nat) l) (hs : s ∈ l) : Arr g i n s := by
  rcases h with ⟨i', n', T, D, e1, e2, _, _, hr, hl⟩ | ⟨_, rfl⟩
  · obtain rfl : i = i' := by omega
    obtain rfl : n = n' := by omega
    exact hr.dsound n s (hr.sub n l s hl hs)
  · cases hs
theorem WaysOf.self {g : List Nd} {f t : Int} {l : List Sm} (h : WaysOf g f t l) : waysS l = l := by
  rcases h with ⟨i', n', T, D, e1, e2, _, _, hr, hl⟩ | ⟨_, rfl⟩
  · exact hr.self n' l hl
  · rfl
theorem WaysOf.apart {g : List Nd} {f t : Int} {l : List Sm} {k q : Nat} {s u : Sm} (h : WaysOf g f t l) (hk : l[k]? = some s) (hq : l[q]? = some u) (hne : k ≠ q) : ¬ u.L s := by
  intro hl
  have hself := h.self
  have hs := List.mem_of_getElem? hk
  have hu := List.mem_of_getElem? hq
  rw [← hself] at hs hu
  have e := waysS_apart hu hs hl
  have hp : l.Pairwise Sm.A := by
    have := waysIn_sort l l
    rw [show waysIn l l = waysS l from rfl, hself] at this
    exact this
  obtain ⟨hk', ek⟩ := List.getElem?_eq_some_iff.1 hk
  obtain ⟨hq', eq⟩ := List.getElem?_eq_some_iff.1 hq
  have irr : ∀ a : Sm, ¬ a.A a := fun a ha => by unfold Sm.A at ha; omega
  rcases Nat.lt_or_gt_of_ne hne with h1 | h1
  · have := List.pairwise_iff_getElem.1 hp k q hk' hq' h1
    rw [ek, eq, e] at this; exact irr _ this
  · have := List.pairwise_iff_getElem.1 hp q k hq' hk' h1
    rw [ek, eq, e] at this; exact irr _ this
theorem ne_int (x y : Operand) {a b : Int} {p : Bool} (h : (a != b) = p) : ∀ w : World, (do eqGuard .neq 3 x y (.int .i64 a) (.int .i64 b); binOp .neq 3 (.int .i64 a) (.int .i64 b) : Sem Value).run Tryz.prog w = .ok (.bool p) w := fun w => by go_simp
theorem eq_int0 (x y : Operand) {a b : Int} {p : Bool} (h : (a == b) = p) : ∀ w : World, (do eqGuard .eql 3 x y (.int .i64 a) (.int .i64 b); binOp .eql 3 (.int .i64 a) (.int .i64 b) : Sem Value).run Tryz.prog w = .ok (.bool p) w := fun w => by go_simp
theorem load_c {w2 : World} {b o : Nat} {v : Value} {t : TypeId} (hl : ∀ w', w'.cell? ⟨b, o, none⟩ = some v → (Instr.loadAt t (.pointer (some ⟨b, o, none⟩))).run Tryz.prog w' = .ok v w') (hc : ∀ w', Below w2.heap.size w2 w' → w'.cell? ⟨b, o, none⟩ = some v) : ∀ w', Below w2.heap.size w2 w' → (Instr.loadAt t (.pointer (some ⟨b, o, none⟩))).run Tryz.prog w' = .ok v w' := fun w' hb => hl w' (hc w' hb)
theorem ld_int {b o : Nat} {z : Int} (w' : World) (h : w'.cell? ⟨b, o, none⟩ = some (.int .i64 z)) : (Instr.loadAt 3 (.pointer (some ⟨b, o, none⟩))).run Tryz.prog w' = .ok (.int .i64 z) w' := by go_simp
theorem ld_ints {b o n c : Nat} {A : Option Addr} (w' : World) (h : w'.cell? ⟨b, o, none⟩ = some (.slice A n c)) : (Instr.loadAt 33 (.pointer (some ⟨b, o, none⟩))).run Tryz.prog w' = .ok (.slice A n c) w' := by go_simp
namespace pathsDepths
def DpA (b o ln lc gb go N c0 fi n j k ib io zn zc : Nat) (s : Sm) (x y : Nd) (i : Nat) (v : Value) : Prop := match i with
  | 0 => v = .slice (some ⟨b, o, none⟩) ln lc
  | 1 => v = .int .i64 (k : Nat)
  | 2 => v = .pointer (some ⟨b, o + k * 7, none⟩)
  | 3 => v = .agg #[.int .i64 s.fr, .int .i64 s.to, .int .i64 s.kp, .int .i64 s.ad, .int .i64 s.t0, .int .i64 s.t1, .int .i64 s.t2]
  | 4 => v = .bool true
  | 5 => v = .bool false
  | 6 => v = .bool false
  | 7 => v = .slice (some ⟨b, o, none⟩) ln lc
  | 8 => v = .int .i64 (k : Nat)
  | 9 => v = .pointer (some ⟨b, o + k * 7, none⟩)
  | 10 => v = .pointer (some ⟨b, o + k * 7, none⟩)
  | 11 => v = .int .i64 s.fr
  | 12 => v = .slice (some ⟨gb, go, none⟩) N c0
  | 13 => v = .int .i64 (fi : Nat)
  | 14 => v = .pointer (some ⟨gb, go + fi * 5, none⟩)
  | 15 => v = .pointer (some ⟨gb, go + fi * 5 + 3, none⟩)
  | 16 => v = .int .i64 x.d
  | 17 => v = .bool false
  | 18 => v = .bool false
  | 19 => v = .bool false
  | 20 => v = .slice (some ⟨gb, go, none⟩) N c0
  | 21 => v = .int .i64 (n : Nat)
  | 22 => v = .pointer (some ⟨gb, go + n * 5, none⟩)
  | 23 => v = .pointer (some ⟨gb, go + n * 5 + 4, none⟩)
  | 24 => v = .slice (some ⟨ib, io, none⟩) zn zc
  | 25 => v = .int .i64 (zn : Nat)
  | 26 => v = .bool false
  | 27 => v = .bool false
  | 28 => v = .bool false
  | 29 => v = .slice (some ⟨b, o, none⟩) ln lc
  | 30 => v = .int .i64 (k : Nat)
  | 31 => v = .pointer (some ⟨b, o + k * 7, none⟩)
  | 32 => v = .pointer (some ⟨b, o + k * 7 + 1, none⟩)
  | 33 => v = .int .i64 s.to
  | 34 => v = .slice (some ⟨gb, go, none⟩) N c0
  | 35 => v = .slice (some ⟨gb, go, none⟩) N c0
  | 36 => v = .int .i64 (n : Nat)
  | 37 => v = .pointer (some ⟨gb, go + n * 5, none⟩)
  | 38 => v = .pointer (some ⟨gb, go + n * 5 + 4, none⟩)
  | 39 => v = .slice (some ⟨ib, io, none⟩) zn zc
  | 40 => v = .pointer (some ⟨ib, io, none⟩)
  | 41 => v = .int .i64 (j : Nat)
  | 42 => v = .pointer (some ⟨gb, go + j * 5, none⟩)
  | 43 => v = .pointer (some ⟨gb, go + j * 5 + 3, none⟩)
  | 44 => v = .int .i64 y.d
  | 45 => v = .bool false
  | _ => v = .bool false
def DpB (b o ln lc k q : Nat) (s u : Sm) (i : Nat) (v : Value) : Prop := match i with
  | 0 => v = .int .i64 (k : Nat)
  | 1 => v = .int .i64 (q : Nat)
  | 2 => v = .bool true
  | 3 => v = .bool true
  | 4 => v = .slice (some ⟨b, o, none⟩) ln lc
  | 5 => v = .int .i64 (q : Nat)
  | 6 => v = .pointer (some ⟨b, o + q * 7, none⟩)
  | 7 => v = .agg #[.int .i64 u.fr, .int .i64 u.to, .int .i64 u.kp, .int .i64 u.ad, .int .i64 u.t0, .int .i64 u.t1, .int .i64 u.t2]
  | 8 => v = .slice (some ⟨b, o, none⟩) ln lc
  | 9 => v = .int .i64 (k : Nat)
  | 10 => v = .pointer (some ⟨b, o + k * 7, none⟩)
  | 11 => v = .agg #[.int .i64 s.fr, .int .i64 s.to, .int .i64 s.kp, .int .i64 s.ad, .int .i64 s.t0, .int .i64 s.t1, .int .i64 s.t2]
  | 12 => v = .bool false
  | _ => v = .bool false
def DpC (b o ln lc k q : Nat) (s u : Sm) (i : Nat) (v : Value) : Prop := match i with
  | 0 => v = .int .i64 (k : Nat)
  | 1 => v = .int .i64 (k : Nat)
  | 2 => v = .bool false
  | 3 => v = .bool false
  | 4 => v = undef
  | 5 => v = undef
  | 6 => v = undef
  | 7 => v = undef
  | 8 => v = undef
  | 9 => v = undef
  | 10 => v = undef
  | 11 => v = undef
  | 12 => v = undef
  | _ => v = .bool false
set_option maxHeartbeats 16000000 in
theorem walk (A0 : Option Addr) (lg0 : List Gn) (c0 : Nat) (f t : Int) (w : World) (hT : Tab w) (hG : Gr w A0 lg0) (hl : lg0.length ≤ maxLen) (hc : lg0.length ≤ c0 ∧ c0 ≤ maxLen) (hn0 : A0 = none → c0 = 0) :
    Calls Tryz.prog 7 #[.slice A0 lg0.length c0, .int .i64 f, .int .i64 t] w fun e w' => e = .returned (.bool true) ∧ Below w.heap.size w w' := by
  have HT := Lib.hid hT; have HG := Lib.hid hG; have HC := Lib.hid hc; have HN0 := Lib.hid hn0; have HLM := Lib.hid hl; clear hT hG hc hn0 hl
  go_enter Tryz.func7, Tryz.ntmps7
  go_wp2_with fail
  refine (few_any A0 lg0 c0 w HG.out HLM.out).mono ?_; rintro e w2 ⟨⟨bb, rfl, hb⟩, rfl⟩
  cases bb with
  | false =>
    clear hb
    dsimp only
    go_wp2_with fail
    refine (plWorks_any w (HT.out)).mono ?_; rintro e w9 ⟨rfl, hb⟩
    have HB := Lib.hid (hb); clear hb
    dsimp only
    go_wp2_with fail
    go_ret
    exact ⟨rfl, HB.out⟩
  | true =>
    obtain ⟨hl14, hI⟩ := few_nds (hb rfl)
    have HL0 := Lib.hid hl14; have HI0 := Lib.hid hI; clear hl14 hI hb
    dsimp only
    by_cases hE : (checkR (nds lg0)).2 = 0
    · have hfi : Fine (nds lg0) := fine_of (checkR_zero hE).2.1
      have hnew := new_good A0 lg0 c0 w HT.out HG.out (by have := HL0.out; omega) HI0.out HC.out HN0.out hE
      have HNEW := Lib.hid hnew; have HFI0 := Lib.hid hfi; clear hnew hfi hE
      go_wp2_with fail
      refine HNEW.out.mono ?_
      rintro e wn ⟨⟨p, F, A, c, lg, rfl, hn, hP⟩, hbn⟩
      have hll : lg.length = lg0.length := by rw [← nds_len, hn, nds_len]
      have HN := Lib.hid hn; have HFB := Lib.hid hP.lo.2; have HP := Lib.hid hP; have HBN := Lib.hid hbn; have HL : Hid (lg.length ≤ 14) := Lib.hid (by have := HL0.out; omega)
      have HI : Hid (∀ x ∈ nds lg, x.ins.length ≤ 40) := Lib.hid (by rw [hn]; exact HI0.out)
      have HFI : Hid (Fine (nds lg)) := Lib.hid (by rw [hn]; exact HFI0.out)
      clear hn hP hbn hll HNEW
      dsimp only
      by_cases hf0 : f < 0
      · go_wp2_with fail
        refine (plWorks_any wn (HT.out.below HBN.out)).mono ?_; rintro e w9 ⟨rfl, hb⟩
        have HB := Lib.hid (HBN.out.trans (hb.mono HBN.out.size)); clear hb
        dsimp only
        go_wp2_with fail
        go_ret
        exact ⟨rfl, HB.out⟩
      by_cases hf1 : (lg0.length : Int) ≤ f
      · go_wp2_with fail
        refine (plWorks_any wn (HT.out.below HBN.out)).mono ?_; rintro e w9 ⟨rfl, hb⟩
        have HB := Lib.hid (HBN.out.trans (hb.mono HBN.out.size)); clear hb
        dsimp only
        go_wp2_with fail
        go_ret
        exact ⟨rfl, HB.out⟩
      by_cases ht0 : t < 0
      · go_wp2_with fail
        refine (plWorks_any wn (HT.out.below HBN.out)).mono ?_; rintro e w9 ⟨rfl, hb⟩
        have HB := Lib.hid (HBN.out.trans (hb.mono HBN.out.size)); clear hb
        dsimp only
        go_wp2_with fail
        go_ret
        exact ⟨rfl, HB.out⟩
      by_cases ht1 : (lg0.length : Int) ≤ t
      · go_wp2_with fail
        refine (plWorks_any wn (HT.out.below HBN.out)).mono ?_; rintro e w9 ⟨rfl, hb⟩
        have HB := Lib.hid (HBN.out.trans (hb.mono HBN.out.size)); clear hb
        dsimp only
        go_wp2_with fail
        go_ret
        exact ⟨rfl, HB.out⟩
      go_wp2_with fail
      refine (ways_any p F c _ A lg _ f t wn HP.out HL.out HI.out HFI.out).mono ?_
      rintro e w4 ⟨⟨v, l, rfl, hw, ho⟩, hp, ht⟩
      have hb4 : Below w.heap.size w w4 := HBN.out.trans ((ht.below (B := w.heap.size) (fun k hk => by subst hk; exact HFB.out) HBN.out.size).mono (Nat.le_refl _))
      obtain ⟨fi, rfl⟩ : ∃ fi : Nat, f = (fi : Nat) := ⟨f.toNat, by omega⟩
      obtain ⟨n, rfl⟩ : ∃ n : Nat, t = (n : Nat) := ⟨t.toNat, by omega⟩
      have hil : fi < lg0.length := by omega
      have hnl : n < lg0.length := by omega
      rw [HN.out] at hw
      obtain ⟨LA, lc, rfl, hrow, _⟩ := Rw.Ts.of_own (κ := kindS) (ts := l) ho
      have hrow' : Mx.Ts w4 LA l := hrow
      obtain ⟨ln, hln⟩ : ∃ ln, l.length = ln := ⟨_, rfl⟩
      have hbd := hw.len
      have HB4 := Lib.hid hb4; have HW := Lib.hid hw; have HROW := Lib.hid hrow'; have HBD := Lib.hid hbd; have HT4 := Lib.hid (HT.out.below hb4); have HG4 := Lib.hid (HG.out.below hb4)
      clear hrow hrow' ho hp ht hb4 hw hbd hf0 hf1 ht0 ht1 HP HBN
      obtain ⟨N, hN⟩ : ∃ N, lg0.length = N := ⟨_, rfl⟩
      have HNN := Lib.hid hN; have HLN := Lib.hid hln
      rw [hN] at hil hnl ⊢
      rw [hln]
      have hiz : (fi : Int) < (N : Int) := by omega
      have hnz : (n : Int) < (N : Int) := by omega
      clear hN hln
      dsimp only
      go_wp2_with fail
      go_loopw [10] (fun v wx => ∃ k : Nat, v = .int .i64 k ∧ k ≤ ln ∧ Below w4.heap.size w4 wx) (fun v _ => ln - (intOf v).toNat)
      case atStart => exact ⟨0, rfl, Nat.zero_le _, Below.refl _ _⟩
      case round =>
        obtain ⟨w3, rfl⟩ : ∃ wo, wo = wr := ⟨_, rfl⟩
        obtain ⟨k, rfl, hk, hb⟩ := hrel
        have HB3 := Lib.hid hb; clear hb
        by_cases hkl : k < ln
        · have hkz : (k : Int) < (ln : Int) := by omega
          have hkb : k < 60000000 := by have := HBD.out; have := HLN.out; omega
          obtain ⟨s, hs⟩ : ∃ a, l[k]? = some a := ⟨_, List.getElem?_eq_getElem (by rw [HLN.out]; exact hkl)⟩
          obtain ⟨b, o, rfl, hblt, hld⟩ := Mx.Ts.load HROW.out hs
          obtain ⟨b', o', e', _, hfv⟩ := Mx.Ts.five HROW.out hs
          cases e'
          obtain ⟨x, hx⟩ : ∃ x, lg0[fi]? = some x := ⟨_, List.getElem?_eq_getElem (by rw [HNN.out]; exact hil)⟩
          obtain ⟨z, hz⟩ : ∃ z, lg0[n]? = some z := ⟨_, List.getElem?_eq_getElem (by rw [HNN.out]; exact hnl)⟩
          have hxn : (nds lg0)[fi]? = some x.nd := by unfold nds; rw [List.getElem?_map, hx]; rfl
          have hzn : (nds lg0)[n]? = some z.nd := by unfold nds; rw [List.getElem?_map, hz]; rfl
          obtain ⟨hR, hfr, j, y0, hj, hy0, hto⟩ := arr_ends HFI0.out (HW.out.arr (List.mem_of_getElem? hs)) hxn hzn
          obtain ⟨y, hy, rfl⟩ : ∃ y, lg0[j]? = some y ∧ y.nd = y0 := by
            unfold nds at hy0
            rw [List.getElem?_map, Option.map_eq_some_iff] at hy0
            exact hy0
          have hjl : j < N := by rw [← HNN.out]; exact (List.getElem?_eq_some_iff.1 hy).1
          have hjz : (j : Int) < (N : Int) := by omega
          obtain ⟨gb, go, rfl, _, hcx⟩ := HG4.out.at_ hx
          obtain ⟨gb2, go2, e2, _, hcz⟩ := HG4.out.at_ hz
          cases e2
          obtain ⟨gb3, go3, e3, _, hcy⟩ := HG4.out.at_ hy
          cases e3
          obtain ⟨ib, io, hzA, _, hqq⟩ := ints_at (HG4.out.ins hz) hj
          have hzpos : (((z.nd.ins.length : Nat) : Int) == 0) = false := by have := (List.getElem?_eq_some_iff.1 hj).1; simp; intro h; rw [h] at this; simp at this
          have hzn0 : 0 < z.nd.ins.length := (List.getElem?_eq_some_iff.1 hj).1
          rw [hzA] at hcz
          have HLS := Lib.hid (fun wz (hz : Below w3.heap.size w3 wz) => hld wz (HB3.out.trans (hz.mono HB3.out.size)))
          have HL0' := Lib.hid (load_c (w2 := w3) ld_int (fun wz hz => (hfv wz (HB3.out.trans (hz.mono HB3.out.size))).1))
          have HL1 := Lib.hid (load_c (w2 := w3) ld_int (fun wz hz => (hfv wz (HB3.out.trans (hz.mono HB3.out.size))).2.1))
          have HXD := Lib.hid (load_c (w2 := w3) ld_int (fun wz hz => (hcx wz (HB3.out.trans (hz.mono HB3.out.size))).2.2.2.1))
          have HYD := Lib.hid (load_c (w2 := w3) ld_int (fun wz hz => (hcy wz (HB3.out.trans (hz.mono HB3.out.size))).2.2.2.1))
          have HZI := Lib.hid (load_c (w2 := w3) ld_ints (fun wz hz => (hcz wz (HB3.out.trans (hz.mono HB3.out.size))).2.2.2.2))
          have HZ0 := Lib.hid (load_c (w2 := w3) ld_int (fun wz hz => hqq wz (HB3.out.trans (hz.mono HB3.out.size))))
          have hrt := fun wz => rightM_any s wz
          rw [decide_eq_true hR] at hrt
          have HRT := Lib.hid hrt
          have HN1 := Lib.hid (fun x1 y1 => ne_int x1 y1 (a := s.fr) (b := x.nd.d) (p := false) (by rw [hfr]; simp))
          have HN3 := Lib.hid (fun x1 y1 => ne_int x1 y1 (a := s.to) (b := y.nd.d) (p := false) (by rw [hto]; simp))
          have HN2 := Lib.hid (fun x1 y1 => eq_int0 x1 y1 (a := (z.nd.ins.length : Nat)) (b := 0) (p := false) hzpos)
          have HS := Lib.hid hs
          generalize z.nd.ins.length = zn at *
          clear hld hfv hcx hcy hcz hqq hrt hs hx hz hxn hzn hy hy0 hj hR hfr hto hzA hzpos hblt
          have hzz : (0 : Int) < (zn : Int) := by omega
          go_upto_region 10 with fail
          refine Free.wp_guarded (by kernel_rfl) (by kernel_rfl) (fun w' => Below w3.heap.size w3 w') (DpA b o ln lc gb go N c0 fi n j k ib io zn z.c s x.nd y.nd) ((Below.refl _ _).drew) ?_ ?_
          · intro i o hi a wa hold hpre hF
            match i with
            | 0 =>
              cases hi
              exact Free.c_all rfl (Free.g_move _ rfl ⟨((hold 9 (by decide)).trans rfl), hF⟩)
            | 1 =>
              cases hi
              exact Free.c_all rfl (Free.g_move _ rfl ⟨((hold 10 (by decide)).trans rfl), hF⟩)
            | 2 =>
              cases hi
              have h1 : a.eval (.tmp 54) = .slice (some ⟨b, o, none⟩) ln lc := hpre 0 _ _ (by kernel_rfl) rfl rfl
              have h2 : a.eval (.tmp 55) = .int .i64 (k : Nat) := hpre 1 _ _ (by kernel_rfl) rfl rfl
              exact Free.c_all rfl (Free.g_indexAddr (v := .pointer (some ⟨b, o + k * 7, none⟩)) _ _ _ rfl h1 h2 (by go_simp) ⟨rfl, hF⟩)
            | 3 =>
              cases hi
              have h0 : a.eval (.tmp 56) = .pointer (some ⟨b, o + k * 7, none⟩) := hpre 2 _ _ (by kernel_rfl) rfl rfl
              exact Free.c_all rfl (Free.g_load _ _ rfl h0 (HLS.out wa hF) ⟨rfl, hF⟩)
            | 4 =>
              cases hi
              have h0 : a.eval (.tmp 57) = .agg #[.int .i64 s.fr, .int .i64 s.to, .int .i64 s.kp, .int .i64 s.ad, .int .i64 s.t0, .int .i64 s.t1, .int .i64 s.t2] := hpre 3 _ _ (by kernel_rfl) rfl rfl
              refine Free.c_all rfl (Free.g_call _ _ rfl Tryz.func31 (by kernel_rfl) rfl [.agg #[.int .i64 s.fr, .int .i64 s.to, .int .i64 s.kp, .int .i64 s.ad, .int .i64 s.t0, .int .i64 s.t1, .int .i64 s.t2]] (by show [a.eval (.tmp 57)] = _; rw [h0]) ?_)
              exact ((fun wa _ => HRT.out wa) wa hF).mono fun e w2 ⟨he, hb2⟩ => ⟨_, he, rfl, hF.trans (hb2.mono hF.size)⟩
            | 5 =>
              cases hi
              have h0 : a.eval (.tmp 58) = .bool true := hpre 4 _ _ (by kernel_rfl) rfl rfl
              exact Free.c_all rfl (g_not _ _ rfl h0 ⟨rfl, hF⟩)
            | 6 =>
              cases hi
              have h0 : a.eval (.tmp 59) = .bool false := hpre 5 _ _ (by kernel_rfl) rfl rfl
              exact Free.c_all rfl (Free.g_move _ rfl ⟨h0, hF⟩)
            | 7 =>
              cases hi
              have hg : a.eval (.tmp 60) = .bool false := hpre 6 _ _ (by kernel_rfl) rfl rfl
              exact Free.c_yes rfl rfl rfl hg (Free.g_move _ rfl ⟨((hold 9 (by decide)).trans rfl), hF⟩)
            | 8 =>
              cases hi
              have hg : a.eval (.tmp 60) = .bool false := hpre 6 _ _ (by kernel_rfl) rfl rfl
              exact Free.c_yes rfl rfl rfl hg (Free.g_move _ rfl ⟨((hold 10 (by decide)).trans rfl), hF⟩)
            | 9 =>
              cases hi
              have hg : a.eval (.tmp 60) = .bool false := hpre 6 _ _ (by kernel_rfl) rfl rfl
              have h1 : a.eval (.tmp 61) = .slice (some ⟨b, o, none⟩) ln lc := hpre 7 _ _ (by kernel_rfl) rfl rfl
              have h2 : a.eval (.tmp 62) = .int .i64 (k : Nat) := hpre 8 _ _ (by kernel_rfl) rfl rfl
              exact Free.c_yes rfl rfl rfl hg (Free.g_indexAddr (v := .pointer (some ⟨b, o + k * 7, none⟩)) _ _ _ rfl h1 h2 (by go_simp) ⟨rfl, hF⟩)
            | 10 =>
              cases hi
              have hg : a.eval (.tmp 60) = .bool false := hpre 6 _ _ (by kernel_rfl) rfl rfl
              have h0 : a.eval (.tmp 63) = .pointer (some ⟨b, o + k * 7, none⟩) := hpre 9 _ _ (by kernel_rfl) rfl rfl
              exact Free.c_yes rfl rfl rfl hg (Free.g_field (v := .pointer (some ⟨b, o + k * 7, none⟩)) _ _ _ rfl h0 (by go_simp) ⟨rfl, hF⟩)
            | 11 =>
              cases hi
              have hg : a.eval (.tmp 60) = .bool false := hpre 6 _ _ (by kernel_rfl) rfl rfl
              have h0 : a.eval (.tmp 64) = .pointer (some ⟨b, o + k * 7, none⟩) := hpre 10 _ _ (by kernel_rfl) rfl rfl
              exact Free.c_yes rfl rfl rfl hg (Free.g_load _ _ rfl h0 (HL0'.out wa hF) ⟨rfl, hF⟩)
            | 12 =>
              cases hi
              have hg : a.eval (.tmp 60) = .bool false := hpre 6 _ _ (by kernel_rfl) rfl rfl
              exact Free.c_yes rfl rfl rfl hg (Free.g_move _ rfl ⟨((hold 0 (by decide)).trans rfl), hF⟩)
            | 13 =>
              cases hi
              have hg : a.eval (.tmp 60) = .bool false := hpre 6 _ _ (by kernel_rfl) rfl rfl
              exact Free.c_yes rfl rfl rfl hg (Free.g_move _ rfl ⟨((hold 1 (by decide)).trans rfl), hF⟩)
            | 14 =>
              cases hi
              have hg : a.eval (.tmp 60) = .bool false := hpre 6 _ _ (by kernel_rfl) rfl rfl
              have h1 : a.eval (.tmp 66) = .slice (some ⟨gb, go, none⟩) N c0 := hpre 12 _ _ (by kernel_rfl) rfl rfl
              have h2 : a.eval (.tmp 67) = .int .i64 (fi : Nat) := hpre 13 _ _ (by kernel_rfl) rfl rfl
              exact Free.c_yes rfl rfl rfl hg (Free.g_indexAddr (v := .pointer (some ⟨gb, go + fi * 5, none⟩)) _ _ _ rfl h1 h2 (by go_simp) ⟨rfl, hF⟩)
            | 15 =>
              cases hi
              have hg : a.eval (.tmp 60) = .bool false := hpre 6 _ _ (by kernel_rfl) rfl rfl
              have h0 : a.eval (.tmp 68) = .pointer (some ⟨gb, go + fi * 5, none⟩) := hpre 14 _ _ (by kernel_rfl) rfl rfl
              exact Free.c_yes rfl rfl rfl hg (Free.g_field (v := .pointer (some ⟨gb, go + fi * 5 + 3, none⟩)) _ _ _ rfl h0 (by go_simp) ⟨rfl, hF⟩)
            | 16 =>
              cases hi
              have hg : a.eval (.tmp 60) = .bool false := hpre 6 _ _ (by kernel_rfl) rfl rfl
              have h0 : a.eval (.tmp 69) = .pointer (some ⟨gb, go + fi * 5 + 3, none⟩) := hpre 15 _ _ (by kernel_rfl) rfl rfl
              exact Free.c_yes rfl rfl rfl hg (Free.g_load _ _ rfl h0 (HXD.out wa hF) ⟨rfl, hF⟩)
            | 17 =>
              cases hi
              have hg : a.eval (.tmp 60) = .bool false := hpre 6 _ _ (by kernel_rfl) rfl rfl
              have h2 : a.eval (.tmp 65) = .int .i64 s.fr := hpre 11 _ _ (by kernel_rfl) rfl rfl
              have h3 : a.eval (.tmp 70) = .int .i64 x.nd.d := hpre 16 _ _ (by kernel_rfl) rfl rfl
              exact Free.c_yes rfl rfl rfl hg (Free.g_bin _ _ _ _ _ rfl h2 h3 ((HN1.out _ _) wa) ⟨rfl, hF⟩)
            | 18 =>
              cases hi
              have h1 : a.eval (.tmp 60) = .bool false := hpre 6 _ _ (by kernel_rfl) rfl rfl
              have h3 : a.eval (.tmp 71) = .bool false := hpre 17 _ _ (by kernel_rfl) rfl rfl
              exact Free.c_all rfl (Free.g_pick _ _ _ rfl h1 rfl h3 ⟨rfl, hF⟩)
            | 19 =>
              cases hi
              have h0 : a.eval (.tmp 72) = .bool false := hpre 18 _ _ (by kernel_rfl) rfl rfl
              exact Free.c_all rfl (Free.g_move _ rfl ⟨h0, hF⟩)
            | 20 =>
              cases hi
              have hg : a.eval (.tmp 73) = .bool false := hpre 19 _ _ (by kernel_rfl) rfl rfl
              exact Free.c_yes rfl rfl rfl hg (Free.g_move _ rfl ⟨((hold 0 (by decide)).trans rfl), hF⟩)
            | 21 =>
              cases hi
              have hg : a.eval (.tmp 73) = .bool false := hpre 19 _ _ (by kernel_rfl) rfl rfl
              exact Free.c_yes rfl rfl rfl hg (Free.g_move _ rfl ⟨((hold 2 (by decide)).trans rfl), hF⟩)
            | 22 =>
              cases hi
              have hg : a.eval (.tmp 73) = .bool false := hpre 19 _ _ (by kernel_rfl) rfl rfl
              have h1 : a.eval (.tmp 74) = .slice (some ⟨gb, go, none⟩) N c0 := hpre 20 _ _ (by kernel_rfl) rfl rfl
              have h2 : a.eval (.tmp 75) = .int .i64 (n : Nat) := hpre 21 _ _ (by kernel_rfl) rfl rfl
              exact Free.c_yes rfl rfl rfl hg (Free.g_indexAddr (v := .pointer (some ⟨gb, go + n * 5, none⟩)) _ _ _ rfl h1 h2 (by go_simp) ⟨rfl, hF⟩)
            | 23 =>
              cases hi
              have hg : a.eval (.tmp 73) = .bool false := hpre 19 _ _ (by kernel_rfl) rfl rfl
              have h0 : a.eval (.tmp 76) = .pointer (some ⟨gb, go + n * 5, none⟩) := hpre 22 _ _ (by kernel_rfl) rfl rfl
              exact Free.c_yes rfl rfl rfl hg (Free.g_field (v := .pointer (some ⟨gb, go + n * 5 + 4, none⟩)) _ _ _ rfl h0 (by go_simp) ⟨rfl, hF⟩)
            | 24 =>
              cases hi
              have hg : a.eval (.tmp 73) = .bool false := hpre 19 _ _ (by kernel_rfl) rfl rfl
              have h0 : a.eval (.tmp 77) = .pointer (some ⟨gb, go + n * 5 + 4, none⟩) := hpre 23 _ _ (by kernel_rfl) rfl rfl
              exact Free.c_yes rfl rfl rfl hg (Free.g_load _ _ rfl h0 (HZI.out wa hF) ⟨rfl, hF⟩)
            | 25 =>
              cases hi
              have hg : a.eval (.tmp 73) = .bool false := hpre 19 _ _ (by kernel_rfl) rfl rfl
              have h0 : a.eval (.tmp 78) = .slice (some ⟨ib, io, none⟩) zn z.c := hpre 24 _ _ (by kernel_rfl) rfl rfl
              exact Free.c_yes rfl rfl rfl hg (Free.g_len _ _ rfl h0 (run_len_slice wa _ _ _ _ _ Tryz.underlying33) ⟨rfl, hF⟩)
            | 26 =>
              cases hi
              have hg : a.eval (.tmp 73) = .bool false := hpre 19 _ _ (by kernel_rfl) rfl rfl
              have h2 : a.eval (.tmp 79) = .int .i64 (zn : Nat) := hpre 25 _ _ (by kernel_rfl) rfl rfl
              exact Free.c_yes rfl rfl rfl hg (Free.g_bin _ _ _ _ _ rfl h2 rfl ((HN2.out _ _) wa) ⟨rfl, hF⟩)
            | 27 =>
              cases hi
              have h1 : a.eval (.tmp 73) = .bool false := hpre 19 _ _ (by kernel_rfl) rfl rfl
              have h3 : a.eval (.tmp 80) = .bool false := hpre 26 _ _ (by kernel_rfl) rfl rfl
              exact Free.c_all rfl (Free.g_pick _ _ _ rfl h1 rfl h3 ⟨rfl, hF⟩)
            | 28 =>
              cases hi
              have h0 : a.eval (.tmp 81) = .bool false := hpre 27 _ _ (by kernel_rfl) rfl rfl
              exact Free.c_all rfl (Free.g_move _ rfl ⟨h0, hF⟩)
            | 29 =>
              cases hi
              have hg : a.eval (.tmp 82) = .bool false := hpre 28 _ _ (by kernel_rfl) rfl rfl
              exact Free.c_yes rfl rfl rfl hg (Free.g_move _ rfl ⟨((hold 9 (by decide)).trans rfl), hF⟩)
            | 30 =>
              cases hi
              have hg : a.eval (.tmp 82) = .bool false := hpre 28 _ _ (by kernel_rfl) rfl rfl
              exact Free.c_yes rfl rfl rfl hg (Free.g_move _ rfl ⟨((hold 10 (by decide)).trans rfl), hF⟩)
            | 31 =>
              cases hi
              have hg : a.eval (.tmp 82) = .bool false := hpre 28 _ _ (by kernel_rfl) rfl rfl
              have h1 : a.eval (.tmp 83) = .slice (some ⟨b, o, none⟩) ln lc := hpre 29 _ _ (by kernel_rfl) rfl rfl
              have h2 : a.eval (.tmp 84) = .int .i64 (k : Nat) := hpre 30 _ _ (by kernel_rfl) rfl rfl
              exact Free.c_yes rfl rfl rfl hg (Free.g_indexAddr (v := .pointer (some ⟨b, o + k * 7, none⟩)) _ _ _ rfl h1 h2 (by go_simp) ⟨rfl, hF⟩)
            | 32 =>
              cases hi
              have hg : a.eval (.tmp 82) = .bool false := hpre 28 _ _ (by kernel_rfl) rfl rfl
              have h0 : a.eval (.tmp 85) = .pointer (some ⟨b, o + k * 7, none⟩) := hpre 31 _ _ (by kernel_rfl) rfl rfl
              exact Free.c_yes rfl rfl rfl hg (Free.g_field (v := .pointer (some ⟨b, o + k * 7 + 1, none⟩)) _ _ _ rfl h0 (by go_simp) ⟨rfl, hF⟩)
            | 33 =>
              cases hi
              have hg : a.eval (.tmp 82) = .bool false := hpre 28 _ _ (by kernel_rfl) rfl rfl
              have h0 : a.eval (.tmp 86) = .pointer (some ⟨b, o + k * 7 + 1, none⟩) := hpre 32 _ _ (by kernel_rfl) rfl rfl
              exact Free.c_yes rfl rfl rfl hg (Free.g_load _ _ rfl h0 (HL1.out wa hF) ⟨rfl, hF⟩)
            | 34 =>
              cases hi
              have hg : a.eval (.tmp 82) = .bool false := hpre 28 _ _ (by kernel_rfl) rfl rfl
              exact Free.c_yes rfl rfl rfl hg (Free.g_move _ rfl ⟨((hold 0 (by decide)).trans rfl), hF⟩)
            | 35 =>
              cases hi
              have hg : a.eval (.tmp 82) = .bool false := hpre 28 _ _ (by kernel_rfl) rfl rfl
              exact Free.c_yes rfl rfl rfl hg (Free.g_move _ rfl ⟨((hold 0 (by decide)).trans rfl), hF⟩)
            | 36 =>
              cases hi
              have hg : a.eval (.tmp 82) = .bool false := hpre 28 _ _ (by kernel_rfl) rfl rfl
              exact Free.c_yes rfl rfl rfl hg (Free.g_move _ rfl ⟨((hold 2 (by decide)).trans rfl), hF⟩)
            | 37 =>
              cases hi
              have hg : a.eval (.tmp 82) = .bool false := hpre 28 _ _ (by kernel_rfl) rfl rfl
              have h1 : a.eval (.tmp 89) = .slice (some ⟨gb, go, none⟩) N c0 := hpre 35 _ _ (by kernel_rfl) rfl rfl
              have h2 : a.eval (.tmp 90) = .int .i64 (n : Nat) := hpre 36 _ _ (by kernel_rfl) rfl rfl
              exact Free.c_yes rfl rfl rfl hg (Free.g_indexAddr (v := .pointer (some ⟨gb, go + n * 5, none⟩)) _ _ _ rfl h1 h2 (by go_simp) ⟨rfl, hF⟩)
            | 38 =>
              cases hi
              have hg : a.eval (.tmp 82) = .bool false := hpre 28 _ _ (by kernel_rfl) rfl rfl
              have h0 : a.eval (.tmp 91) = .pointer (some ⟨gb, go + n * 5, none⟩) := hpre 37 _ _ (by kernel_rfl) rfl rfl
              exact Free.c_yes rfl rfl rfl hg (Free.g_field (v := .pointer (some ⟨gb, go + n * 5 + 4, none⟩)) _ _ _ rfl h0 (by go_simp) ⟨rfl, hF⟩)
            | 39 =>
              cases hi
              have hg : a.eval (.tmp 82) = .bool false := hpre 28 _ _ (by kernel_rfl) rfl rfl
              have h0 : a.eval (.tmp 92) = .pointer (some ⟨gb, go + n * 5 + 4, none⟩) := hpre 38 _ _ (by kernel_rfl) rfl rfl
              exact Free.c_yes rfl rfl rfl hg (Free.g_load _ _ rfl h0 (HZI.out wa hF) ⟨rfl, hF⟩)
            | 40 =>
              cases hi
              have hg : a.eval (.tmp 82) = .bool false := hpre 28 _ _ (by kernel_rfl) rfl rfl
              have h1 : a.eval (.tmp 93) = .slice (some ⟨ib, io, none⟩) zn z.c := hpre 39 _ _ (by kernel_rfl) rfl rfl
              exact Free.c_yes rfl rfl rfl hg (Free.g_indexAddr (v := .pointer (some ⟨ib, io, none⟩)) _ _ _ rfl h1 rfl (by go_simp) ⟨rfl, hF⟩)
            | 41 =>
              cases hi
              have hg : a.eval (.tmp 82) = .bool false := hpre 28 _ _ (by kernel_rfl) rfl rfl
              have h0 : a.eval (.tmp 94) = .pointer (some ⟨ib, io, none⟩) := hpre 40 _ _ (by kernel_rfl) rfl rfl
              exact Free.c_yes rfl rfl rfl hg (Free.g_load _ _ rfl h0 (HZ0.out wa hF) ⟨rfl, hF⟩)
            | 42 =>
              cases hi
              have hg : a.eval (.tmp 82) = .bool false := hpre 28 _ _ (by kernel_rfl) rfl rfl
              have h1 : a.eval (.tmp 88) = .slice (some ⟨gb, go, none⟩) N c0 := hpre 34 _ _ (by kernel_rfl) rfl rfl
              have h2 : a.eval (.tmp 95) = .int .i64 (j : Nat) := hpre 41 _ _ (by kernel_rfl) rfl rfl
              exact Free.c_yes rfl rfl rfl hg (Free.g_indexAddr (v := .pointer (some ⟨gb, go + j * 5, none⟩)) _ _ _ rfl h1 h2 (by go_simp) ⟨rfl, hF⟩)
            | 43 =>
              cases hi
              have hg : a.eval (.tmp 82) = .bool false := hpre 28 _ _ (by kernel_rfl) rfl rfl
              have h0 : a.eval (.tmp 96) = .pointer (some ⟨gb, go + j * 5, none⟩) := hpre 42 _ _ (by kernel_rfl) rfl rfl
              exact Free.c_yes rfl rfl rfl hg (Free.g_field (v := .pointer (some ⟨gb, go + j * 5 + 3, none⟩)) _ _ _ rfl h0 (by go_simp) ⟨rfl, hF⟩)
            | 44 =>
              cases hi
              have hg : a.eval (.tmp 82) = .bool false := hpre 28 _ _ (by kernel_rfl) rfl rfl
              have h0 : a.eval (.tmp 97) = .pointer (some ⟨gb, go + j * 5 + 3, none⟩) := hpre 43 _ _ (by kernel_rfl) rfl rfl
              exact Free.c_yes rfl rfl rfl hg (Free.g_load _ _ rfl h0 (HYD.out wa hF) ⟨rfl, hF⟩)
            | 45 =>
              cases hi
              have hg : a.eval (.tmp 82) = .bool false := hpre 28 _ _ (by kernel_rfl) rfl rfl
              have h2 : a.eval (.tmp 87) = .int .i64 s.to := hpre 33 _ _ (by kernel_rfl) rfl rfl
              have h3 : a.eval (.tmp 98) = .int .i64 y.nd.d := hpre 44 _ _ (by kernel_rfl) rfl rfl
              exact Free.c_yes rfl rfl rfl hg (Free.g_bin _ _ _ _ _ rfl h2 h3 ((HN3.out _ _) wa) ⟨rfl, hF⟩)
            | 46 =>
              cases hi
              have h1 : a.eval (.tmp 82) = .bool false := hpre 28 _ _ (by kernel_rfl) rfl rfl
              have h3 : a.eval (.tmp 99) = .bool false := hpre 45 _ _ (by kernel_rfl) rfl rfl
              exact Free.c_all rfl (Free.g_pick _ _ _ rfl h1 rfl h3 ⟨rfl, hF⟩)
            | _ + 47 => cases hi
          · intro vs we hv hF
            have hlast : vs 46 = .bool false := hv 46 (by simp) (by rintro o ⟨⟩; rfl)
            have HWE := Lib.hid hF; clear hF hv
            simp only [Free.puts, Nat.reduceAdd, hlast]
            generalize vs 0 = y0
            generalize vs 1 = y1
            generalize vs 2 = y2
            generalize vs 3 = y3
            generalize vs 4 = y4
            generalize vs 5 = y5
            generalize vs 6 = y6
            generalize vs 7 = y7
            generalize vs 8 = y8
            generalize vs 9 = y9
            generalize vs 10 = y10
            generalize vs 11 = y11
            generalize vs 12 = y12
            generalize vs 13 = y13
            generalize vs 14 = y14
            generalize vs 15 = y15
            generalize vs 16 = y16
            generalize vs 17 = y17
            generalize vs 18 = y18
            generalize vs 19 = y19
            generalize vs 20 = y20
            generalize vs 21 = y21
            generalize vs 22 = y22
            generalize vs 23 = y23
            generalize vs 24 = y24
            generalize vs 25 = y25
            generalize vs 26 = y26
            generalize vs 27 = y27
            generalize vs 28 = y28
            generalize vs 29 = y29
            generalize vs 30 = y30
            generalize vs 31 = y31
            generalize vs 32 = y32
            generalize vs 33 = y33
            generalize vs 34 = y34
            generalize vs 35 = y35
            generalize vs 36 = y36
            generalize vs 37 = y37
            generalize vs 38 = y38
            generalize vs 39 = y39
            generalize vs 40 = y40
            generalize vs 41 = y41
            generalize vs 42 = y42
            generalize vs 43 = y43
            generalize vs 44 = y44
            generalize vs 45 = y45
            go_simp
            have HB5 := Lib.hid (HB3.out.trans (HWE.out.mono HB3.out.size)); clear HWE HLS HL0' HL1 HXD HYD HZI HZ0 HRT HN1 HN2 HN3 HB3
            go_wp2_with fail
            go_loopw [11] (fun v wx => ∃ q : Nat, v = .int .i64 q ∧ q ≤ ln ∧ Below w4.heap.size w4 wx) (fun v _ => ln - (intOf v).toNat)
            case atStart => exact ⟨0, rfl, Nat.zero_le _, HB5.out⟩
            case round =>
              obtain ⟨w5, rfl⟩ : ∃ wo, wo = wr := ⟨_, rfl⟩
              obtain ⟨q, rfl, hq, hb⟩ := hrel
              have HB6 := Lib.hid hb; clear hb
              by_cases hql : q < ln
              · have hqz : (q : Int) < (ln : Int) := by omega
                have hqb : q < 60000000 := by have := HBD.out; have := HLN.out; omega
                by_cases hkq : k = q
                · subst hkq
                  have HNE := Lib.hid (fun x1 y1 => ne_int x1 y1 (a := (k : Nat)) (b := (k : Nat)) (p := false) (by simp))
                  go_upto_region 15 with fail
                  refine Free.wp_guarded (by kernel_rfl) (by kernel_rfl) (fun w' => Below w5.heap.size w5 w') (DpC b o ln lc k k s s) ((Below.refl _ _).drew) ?_ ?_
                  · intro i o hi a wa hold hpre hF
                    match i with
                    | 0 =>
                      cases hi
                      exact Free.c_all rfl (Free.g_move _ rfl ⟨((hold 10 (by decide)).trans rfl), hF⟩)
                    | 1 =>
                      cases hi
                      exact Free.c_all rfl (Free.g_move _ rfl ⟨((hold 11 (by decide)).trans rfl), hF⟩)
                    | 2 =>
                      cases hi
                      have h2 : a.eval (.tmp 107) = .int .i64 (k : Nat) := hpre 0 _ _ (by kernel_rfl) rfl rfl
                      have h3 : a.eval (.tmp 108) = .int .i64 (k : Nat) := hpre 1 _ _ (by kernel_rfl) rfl rfl
                      exact Free.c_all rfl (Free.g_bin _ _ _ _ _ rfl h2 h3 ((HNE.out _ _) wa) ⟨rfl, hF⟩)
                    | 3 =>
                      cases hi
                      have h0 : a.eval (.tmp 109) = .bool false := hpre 2 _ _ (by kernel_rfl) rfl rfl
                      exact Free.c_all rfl (Free.g_move _ rfl ⟨h0, hF⟩)
                    | 4 =>
                      cases hi
                      have hg : a.eval (.tmp 110) = .bool false := hpre 3 _ _ (by kernel_rfl) rfl rfl
                      exact Free.c_no rfl rfl rfl hg ⟨rfl, hF⟩
                    | 5 =>
                      cases hi
                      have hg : a.eval (.tmp 110) = .bool false := hpre 3 _ _ (by kernel_rfl) rfl rfl
                      exact Free.c_no rfl rfl rfl hg ⟨rfl, hF⟩
                    | 6 =>
                      cases hi
                      have hg : a.eval (.tmp 110) = .bool false := hpre 3 _ _ (by kernel_rfl) rfl rfl
                      exact Free.c_no rfl rfl rfl hg ⟨rfl, hF⟩
                    | 7 =>
                      cases hi
                      have hg : a.eval (.tmp 110) = .bool false := hpre 3 _ _ (by kernel_rfl) rfl rfl
                      exact Free.c_no rfl rfl rfl hg ⟨rfl, hF⟩
                    | 8 =>
                      cases hi
                      have hg : a.eval (.tmp 110) = .bool false := hpre 3 _ _ (by kernel_rfl) rfl rfl
                      exact Free.c_no rfl rfl rfl hg ⟨rfl, hF⟩
                    | 9 =>
                      cases hi
                      have hg : a.eval (.tmp 110) = .bool false := hpre 3 _ _ (by kernel_rfl) rfl rfl
                      exact Free.c_no rfl rfl rfl hg ⟨rfl, hF⟩
                    | 10 =>
                      cases hi
                      have hg : a.eval (.tmp 110) = .bool false := hpre 3 _ _ (by kernel_rfl) rfl rfl
                      exact Free.c_no rfl rfl rfl hg ⟨rfl, hF⟩
                    | 11 =>
                      cases hi
                      have hg : a.eval (.tmp 110) = .bool false := hpre 3 _ _ (by kernel_rfl) rfl rfl
                      exact Free.c_no rfl rfl rfl hg ⟨rfl, hF⟩
                    | 12 =>
                      cases hi
                      have hg : a.eval (.tmp 110) = .bool false := hpre 3 _ _ (by kernel_rfl) rfl rfl
                      exact Free.c_no rfl rfl rfl hg ⟨rfl, hF⟩
                    | 13 =>
                      cases hi
                      have h1 : a.eval (.tmp 110) = .bool false := hpre 3 _ _ (by kernel_rfl) rfl rfl
                      have h2 : a.eval (.tmp 119) = undef := hpre 12 _ _ (by kernel_rfl) rfl rfl
                      exact Free.c_all rfl (Free.g_pick _ _ _ rfl h1 h2 rfl ⟨rfl, hF⟩)
                    | _ + 14 => cases hi
                  · intro vs we hv hF
                    have hlast : vs 13 = .bool false := hv 13 (by simp) (by rintro o ⟨⟩; rfl)
                    have HWE := Lib.hid hF; clear hF hv
                    simp only [Free.puts, Nat.reduceAdd, hlast]
                    generalize vs 0 = y0
                    generalize vs 1 = y1
                    generalize vs 2 = y2
                    generalize vs 3 = y3
                    generalize vs 4 = y4
                    generalize vs 5 = y5
                    generalize vs 6 = y6
                    generalize vs 7 = y7
                    generalize vs 8 = y8
                    generalize vs 9 = y9
                    generalize vs 10 = y10
                    generalize vs 11 = y11
                    generalize vs 12 = y12
                    go_simp
                    have HB7 := Lib.hid (HB6.out.trans (HWE.out.mono HB6.out.size))
                    go_wp2_with fail
                    go_roundw
                    case rel => exact ⟨k + 1, by simp, by omega, HB7.out⟩
                    case measure => simp only [intOf]; omega
                · obtain ⟨u, hu⟩ : ∃ a, l[q]? = some a := ⟨_, List.getElem?_eq_getElem (by rw [HLN.out]; exact hql)⟩
                  obtain ⟨b', o', e', _, hlu⟩ := Mx.Ts.load HROW.out hu
                  cases e'
                  obtain ⟨b', o', e', _, hls⟩ := Mx.Ts.load HROW.out HS.out
                  cases e'
                  have hlq := fun wz => leqM_any u s wz
                  rw [decide_eq_false (HW.out.apart HS.out hu hkq)] at hlq
                  have HLQ := Lib.hid hlq
                  have HLU := Lib.hid (fun wz (hz : Below w5.heap.size w5 wz) => hlu wz (HB6.out.trans (hz.mono HB6.out.size)))
                  have HLS := Lib.hid (fun wz (hz : Below w5.heap.size w5 wz) => hls wz (HB6.out.trans (hz.mono HB6.out.size)))
                  have HNE := Lib.hid (fun x1 y1 => ne_int x1 y1 (a := (k : Nat)) (b := (q : Nat)) (p := true) (by simp; omega))
                  clear hlq hlu hls hu
                  go_upto_region 15 with fail
                  refine Free.wp_guarded (by kernel_rfl) (by kernel_rfl) (fun w' => Below w5.heap.size w5 w') (DpB b o ln lc k q s u) ((Below.refl _ _).drew) ?_ ?_
                  · intro i o hi a wa hold hpre hF
                    match i with
                    | 0 =>
                      cases hi
                      exact Free.c_all rfl (Free.g_move _ rfl ⟨((hold 10 (by decide)).trans rfl), hF⟩)
                    | 1 =>
                      cases hi
                      exact Free.c_all rfl (Free.g_move _ rfl ⟨((hold 11 (by decide)).trans rfl), hF⟩)
                    | 2 =>
                      cases hi
                      have h2 : a.eval (.tmp 107) = .int .i64 (k : Nat) := hpre 0 _ _ (by kernel_rfl) rfl rfl
                      have h3 : a.eval (.tmp 108) = .int .i64 (q : Nat) := hpre 1 _ _ (by kernel_rfl) rfl rfl
                      exact Free.c_all rfl (Free.g_bin _ _ _ _ _ rfl h2 h3 ((HNE.out _ _) wa) ⟨rfl, hF⟩)
                    | 3 =>
                      cases hi
                      have h0 : a.eval (.tmp 109) = .bool true := hpre 2 _ _ (by kernel_rfl) rfl rfl
                      exact Free.c_all rfl (Free.g_move _ rfl ⟨h0, hF⟩)
                    | 4 =>
                      cases hi
                      have hg : a.eval (.tmp 110) = .bool true := hpre 3 _ _ (by kernel_rfl) rfl rfl
                      exact Free.c_yes rfl rfl rfl hg (Free.g_move _ rfl ⟨((hold 9 (by decide)).trans rfl), hF⟩)
                    | 5 =>
                      cases hi
                      have hg : a.eval (.tmp 110) = .bool true := hpre 3 _ _ (by kernel_rfl) rfl rfl
                      exact Free.c_yes rfl rfl rfl hg (Free.g_move _ rfl ⟨((hold 11 (by decide)).trans rfl), hF⟩)
                    | 6 =>
                      cases hi
                      have hg : a.eval (.tmp 110) = .bool true := hpre 3 _ _ (by kernel_rfl) rfl rfl
                      have h1 : a.eval (.tmp 111) = .slice (some ⟨b, o, none⟩) ln lc := hpre 4 _ _ (by kernel_rfl) rfl rfl
                      have h2 : a.eval (.tmp 112) = .int .i64 (q : Nat) := hpre 5 _ _ (by kernel_rfl) rfl rfl
                      exact Free.c_yes rfl rfl rfl hg (Free.g_indexAddr (v := .pointer (some ⟨b, o + q * 7, none⟩)) _ _ _ rfl h1 h2 (by go_simp) ⟨rfl, hF⟩)
                    | 7 =>
                      cases hi
                      have hg : a.eval (.tmp 110) = .bool true := hpre 3 _ _ (by kernel_rfl) rfl rfl
                      have h0 : a.eval (.tmp 113) = .pointer (some ⟨b, o + q * 7, none⟩) := hpre 6 _ _ (by kernel_rfl) rfl rfl
                      exact Free.c_yes rfl rfl rfl hg (Free.g_load _ _ rfl h0 (HLU.out wa hF) ⟨rfl, hF⟩)
                    | 8 =>
                      cases hi
                      have hg : a.eval (.tmp 110) = .bool true := hpre 3 _ _ (by kernel_rfl) rfl rfl
                      exact Free.c_yes rfl rfl rfl hg (Free.g_move _ rfl ⟨((hold 9 (by decide)).trans rfl), hF⟩)
                    | 9 =>
                      cases hi
                      have hg : a.eval (.tmp 110) = .bool true := hpre 3 _ _ (by kernel_rfl) rfl rfl
                      exact Free.c_yes rfl rfl rfl hg (Free.g_move _ rfl ⟨((hold 10 (by decide)).trans rfl), hF⟩)
                    | 10 =>
                      cases hi
                      have hg : a.eval (.tmp 110) = .bool true := hpre 3 _ _ (by kernel_rfl) rfl rfl
                      have h1 : a.eval (.tmp 115) = .slice (some ⟨b, o, none⟩) ln lc := hpre 8 _ _ (by kernel_rfl) rfl rfl
                      have h2 : a.eval (.tmp 116) = .int .i64 (k : Nat) := hpre 9 _ _ (by kernel_rfl) rfl rfl
                      exact Free.c_yes rfl rfl rfl hg (Free.g_indexAddr (v := .pointer (some ⟨b, o + k * 7, none⟩)) _ _ _ rfl h1 h2 (by go_simp) ⟨rfl, hF⟩)
                    | 11 =>
                      cases hi
                      have hg : a.eval (.tmp 110) = .bool true := hpre 3 _ _ (by kernel_rfl) rfl rfl
                      have h0 : a.eval (.tmp 117) = .pointer (some ⟨b, o + k * 7, none⟩) := hpre 10 _ _ (by kernel_rfl) rfl rfl
                      exact Free.c_yes rfl rfl rfl hg (Free.g_load _ _ rfl h0 (HLS.out wa hF) ⟨rfl, hF⟩)
                    | 12 =>
                      cases hi
                      have hg : a.eval (.tmp 110) = .bool true := hpre 3 _ _ (by kernel_rfl) rfl rfl
                      have h0 : a.eval (.tmp 114) = .agg #[.int .i64 u.fr, .int .i64 u.to, .int .i64 u.kp, .int .i64 u.ad, .int .i64 u.t0, .int .i64 u.t1, .int .i64 u.t2] := hpre 7 _ _ (by kernel_rfl) rfl rfl
                      have h1 : a.eval (.tmp 118) = .agg #[.int .i64 s.fr, .int .i64 s.to, .int .i64 s.kp, .int .i64 s.ad, .int .i64 s.t0, .int .i64 s.t1, .int .i64 s.t2] := hpre 11 _ _ (by kernel_rfl) rfl rfl
                      refine Free.c_yes rfl rfl rfl hg (Free.g_call _ _ rfl Tryz.func32 (by kernel_rfl) rfl [.agg #[.int .i64 u.fr, .int .i64 u.to, .int .i64 u.kp, .int .i64 u.ad, .int .i64 u.t0, .int .i64 u.t1, .int .i64 u.t2], .agg #[.int .i64 s.fr, .int .i64 s.to, .int .i64 s.kp, .int .i64 s.ad, .int .i64 s.t0, .int .i64 s.t1, .int .i64 s.t2]] (by show [a.eval (.tmp 114), a.eval (.tmp 118)] = _; rw [h0, h1]) ?_)
                      exact ((fun wa _ => HLQ.out wa) wa hF).mono fun e w2 ⟨he, hb2⟩ => ⟨_, he, rfl, hF.trans (hb2.mono hF.size)⟩
                    | 13 =>
                      cases hi
                      have h1 : a.eval (.tmp 110) = .bool true := hpre 3 _ _ (by kernel_rfl) rfl rfl
                      have h2 : a.eval (.tmp 119) = .bool false := hpre 12 _ _ (by kernel_rfl) rfl rfl
                      exact Free.c_all rfl (Free.g_pick _ _ _ rfl h1 h2 rfl ⟨rfl, hF⟩)
                    | _ + 14 => cases hi
                  · intro vs we hv hF
                    have hlast : vs 13 = .bool false := hv 13 (by simp) (by rintro o ⟨⟩; rfl)
                    have HWE := Lib.hid hF; clear hF hv
                    simp only [Free.puts, Nat.reduceAdd, hlast]
                    generalize vs 0 = y0
                    generalize vs 1 = y1
                    generalize vs 2 = y2
                    generalize vs 3 = y3
                    generalize vs 4 = y4
                    generalize vs 5 = y5
                    generalize vs 6 = y6
                    generalize vs 7 = y7
                    generalize vs 8 = y8
                    generalize vs 9 = y9
                    generalize vs 10 = y10
                    generalize vs 11 = y11
                    generalize vs 12 = y12
                    go_simp
                    have HB7 := Lib.hid (HB6.out.trans (HWE.out.mono HB6.out.size))
                    go_wp2_with fail
                    go_roundw
                    case rel => exact ⟨q + 1, by simp, by omega, HB7.out⟩
                    case measure => simp only [intOf]; omega
              · have hqz : ¬ (q : Int) < (ln : Int) := by omega
                go_wp2_with fail
                go_roundw
                case rel => exact ⟨k + 1, by simp, by omega, HB6.out⟩
                case measure => simp only [intOf]; omega
        · have hkz : ¬ (k : Int) < (ln : Int) := by omega
          go_wp2_with fail
          refine (plWorks_any w3 (HT.out.below (HB4.out.trans (HB3.out.mono HB4.out.size)))).mono ?_; rintro e w9 ⟨rfl, hb⟩
          have HB := Lib.hid ((HB4.out.trans (HB3.out.mono HB4.out.size)).trans (hb.mono (HB4.out.trans (HB3.out.mono HB4.out.size)).size)); clear hb
          dsimp only
          go_wp2_with fail
          go_ret
          exact ⟨rfl, HB.out⟩
    · have hnew := new_bad A0 lg0 c0 w HT.out HG.out (by have := HL0.out; omega) HI0.out HC.out hE
      have hez : ((checkR (nds lg0)).2 != 0) = true := by simpa using hE
      generalize (checkR (nds lg0)).2 = E at *
      have HNEW := Lib.hid hnew; clear hnew hE
      go_wp2_with fail
      refine HNEW.out.mono ?_
      rintro e wn ⟨rfl, hbn⟩
      have HBN := Lib.hid hbn; clear hbn HNEW
      dsimp only
      go_wp2_with fail
      refine (plWorks_any wn (HT.out.below HBN.out)).mono ?_; rintro e w9 ⟨rfl, hb⟩
      have HB := Lib.hid (HBN.out.trans (hb.mono HBN.out.size)); clear hb
      dsimp only
      go_wp2_with fail
      go_ret
      exact ⟨rfl, HB.out⟩

set_option maxRecDepth 100000 in
theorem lifted (os : Os) (started : os.Started) (H : Type) (enc : TypeId × Value → H) :
    ReturnsInHanded {} Tryz.checked os 7 .any (fun w args => (Rows.pathsDepthsSpec.pre enc Tryz.prog Tryz.f7 [] false w args ∧ laidMetH Tryz.prog laidT w) ∧ sizedMet enc Tryz.prog Tryz.f7 (OpenSpec.ofChange Rows.pathsDepthsSpec) false w args) (Rows.pathsDepthsSpec.post enc Tryz.prog Tryz.f7 false true false false) := by
  refine returnsInHanded_of_change_and (C := Tryz.checked) (X := fun w _ => laidMetH Tryz.prog laidT w) (fun _ _ _ hh h => h.of_heap hh) ownKnob_none started (by kernel_rfl) Tryz.func7
    (ChangeSpec.witness_shaped (enc := enc) (C := Tryz.checked) (os := os) (X := fun w _ => laidMetH Tryz.prog laidT w) false (World.doorLaid Tryz.prog 400 os) #[.slice none 0 0, .int .i64 0, .int .i64 0] 8 rfl (World.shaped_of_RefB (by kernel_rfl) (by kernel_rfl)) (by kernel_rfl) (by kernel_rfl) (by kernel_rfl) (door_met os _)) ?_
  intro W base args ds gs before hval0 hW hcnd hsz0 hL _
  have hTab := tab_of_laid hL
  have hval : ∀ (j : Nat) t v, Tryz.f7.params[j]? = some t → args[j]? = some v → Value.okWide Tryz.prog W .any base t v := hval0
  have hW' := hW
  obtain ⟨p, q, hA0, hV, rfl, hfz, hnd⟩ := hW
  have hA : DataW.TrodAll enc Tryz.prog W 0 (fun _ => true) true Tryz.f7.params.toList args.toList ds p := hA0
  have hsz : (DataW.weightsEach Tryz.prog (Tryz.f7.params.toList ++ Rows.pathsDepthsSpec.plain.varTypes Tryz.prog) (ds ++ gs)).all (· ≤ reachBytes) = true := hsz0
  rw [Tryz.params7] at hA hval hsz
  obtain ⟨v0, vs0, d0, ds0, p0, q0, hargs, rfl, rfl, h0, r0⟩ := trodAll_cons hA
  obtain ⟨v1, vs1, d1, ds1, p1, q1, rfl, rfl, rfl, h1, r1⟩ := trodAll_cons r0
  obtain ⟨v2, vs2, d2, ds2, p2, q2, rfl, rfl, rfl, h2, r2⟩ := trodAll_cons r1
  obtain ⟨rfl, rfl, rfl⟩ := trodAll_nil r2
  obtain rfl : args = #[v0, v1, v2] := by cases args; simp_all
  obtain ⟨rfl, rfl⟩ := trodVars_none hV
  obtain ⟨A0, l0, c0, rfl, hG0, hgc0, hgm0, hgn0⟩ := open_graph (hval 0 23 v0 rfl rfl) h0
  obtain ⟨a1, rfl, rfl, rfl, w1⟩ := open_int Tryz.underlying3 (hval 1 3 v1 rfl rfl) h1
  have b1 := i64_wf w1
  obtain ⟨a2, rfl, rfl, rfl, w2⟩ := open_int Tryz.underlying3 (hval 2 3 v2 rfl rfl) h2
  have b2 := i64_wf w2
  clear hA0 hval0 hsz0
  refine (walk A0 l0 c0 a1 a2 W hTab hG0 (Nat.le_trans hgc0 hgm0) ⟨hgc0, hgm0⟩ hgn0).mono fun e W' ⟨he, hg⟩ => ?_
  subst he
  exact ⟨_, rfl, law_post progLaid hW' rfl (by rw [Tryz.params7]; intro t ht; simp at ht; rcases ht with rfl | rfl <;> exact ⟨by kernel_rfl, of_decide_eq_true (by kernel_rfl)⟩) rfl Tryz.underlying4 rfl hg⟩

theorem over : Rows.pathsDepthsRow.holds Tryz.pinned (OpenSpec.ofChange Rows.pathsDepthsSpec) :=
  OpenClaim.holds_of_wide 7 Tryz.f7 rfl rfl rfl rfl rfl rfl rfl ⟨rfl, rfl, rfl, rfl, rfl⟩ rfl rfl rfl rfl rfl (by kernel_rfl) Tryz.func7 (by kernel_rfl)
    (of_decide_eq_true (by kernel_rfl)) (by unfold Func.isWrapper; first | (rw [if_pos (by decide +kernel)]; kernel_rfl) | (rw [if_neg (by decide +kernel)]; exact ⟨rfl, rfl⟩))
    (fun os started H enc _ => lifted os started H enc)

theorem proved : Rows.PathsDepthsCardSaid :=
  Claim7.holds_tied_plain_at .later [] [.data] true Rows.pathsDepthsCard.stood.harness false over (fun _ h => by cases h) (by kernel_rfl) (fun _ h => by cases h) pathsDepths_row_tie rfl ⟨rfl, rfl⟩ (by kernel_rfl) rfl
    (fun f fn hf hfn => by
      obtain rfl : f = 7 := Option.some.inj ((show Tryz.prog.funcNamed "tailrace/tailracelaw11.PathsDepths" = some 7 by kernel_rfl).symm.trans hf) |>.symm
      obtain rfl : fn = Tryz.f7 := (Option.some.inj (Tryz.func7.symm.trans hfn)).symm
      refine ⟨by kernel_rfl, fun j t ht => ?_⟩
      rw [Tryz.params7] at ht
      have hm := Array.mem_of_getElem? ht
      simp only [List.mem_toArray, List.mem_cons, List.not_mem_nil, or_false] at hm
      first
        | (rcases hm with rfl | rfl | rfl <;> (first | exact si_graph | exact si_int | exact si_u8 | exact si_stamp))
        | cases hm)
    (by kernel_rfl)
end pathsDepths
end Go.Proofs.YtmhophmpbpbjaaaGreatDoor
