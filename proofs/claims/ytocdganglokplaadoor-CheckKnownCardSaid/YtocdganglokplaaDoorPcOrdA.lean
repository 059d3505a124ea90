/- PcCheck, PcWait, PcOrder -/
import Derived.Test.YtocdganglokplaaDoorPcStA
import Derived.Test.YtocdganglokplaaDoorPcFault
import Derived.Test.YtocdganglokplaaDoorPgPut
import Derived.Test.YtocdganglokplaaDoorChkCheck
import Derived.Test.YtocdganglokplaaDoorPcPort
import Derived.Test.YtocdganglokplaaDoorChkRunA
import Derived.Test.YtocdganglokplaaDoorChkOrder
namespace Go.Proofs.YtocdganglokplaaDoor
set_option linter.unusedVariables false
section
open Go.ChangeShapes Go.WideShapes Go.ChangeAt Go.RowKit Go.BigFrame
set_option maxRecDepth 100000
set_option maxHeartbeats 16000000 in
theorem chkCheck_any (A : Option Addr) (l : List Gn) (c : Nat) (w : World) (hT : Tab w) (hG : Gr w A l) (hl : l.length ≤ 40) (hi : ∀ x ∈ nds l, x.ins.length ≤ 40) (hc : l.length ≤ c ∧ c ≤ maxLen) :
    Calls Tryd.prog 15 #[.slice A l.length c] w (ChkD (nds l) w) := by
  have HML : Hid (l.length ≤ maxLen) := Lib.hid (by unfold maxLen; omega)
  have CP := Lib.hid (flowPut_any A l c w hG HML.out)
  have HG := Lib.hid hG; have HT := Lib.hid hT; clear hG hT hi hc
  have cp := CP.out
  unfold PutD at cp
  by_cases hp : putE (nds l) = 0
  · rw [hp] at cp
    have HCP := Lib.hid cp
    have hmay := putE_may hp
    have hl32 : l.length ≤ 32 := by have := hmay.1.2; rw [nds_len] at this; exact this
    have hdep : ∀ x ∈ nds l, 0 ≤ x.d ∧ x.d ≤ 3 := fun x hx => (hmay.2 x hx).1
    have HP := Lib.hid hp; have HDEP := Lib.hid hdep; have HL32 := Lib.hid hl32; clear cp hp hmay hdep hl32 CP
    go_enter Tryd.func15, Tryd.ntmps15
    go_wp2_with fail
    refine HCP.out.mono ?_; rintro e w1 ⟨⟨v, rfl, _⟩, hb1⟩
    have HB1 := Lib.hid hb1; clear hb1 HCP
    dsimp only
    have hnum := numbers_any w1
    have HNUM := Lib.hid hnum; clear hnum
    go_wp2_with fail
    refine HNUM.out.mono ?_; rintro e w2 ⟨⟨m, rfl, hR⟩, hb2⟩
    have HB2 := Lib.hid (HB1.out.trans (hb2.mono HB1.out.size)); have HR2 := Lib.hid hR; clear hb2 hR HNUM HB1
    dsimp only
    go_wp2_with fail
    go_loopw [21] (fun n wx => ∃ k : Nat, n = .int .i64 k ∧ k ≤ l.length ∧ Below w.heap.size w wx ∧ Rules wx m ∧ ∀ j : Nat, j < k → nodeE (nds l) j = 0) (fun n _ => l.length - (intOf n).toNat)
    case atStart => exact ⟨0, rfl, by omega, HB2.out, HR2.out, fun j h => absurd h (by omega)⟩
    case round =>
      obtain ⟨wo, rfl⟩ : ∃ wo, wo = wr := ⟨_, rfl⟩
      obtain ⟨k, rfl, hk, hb, hR, hall⟩ := hrel
      have HB := Lib.hid hb; have HR := Lib.hid hR; have HA := Lib.hid hall; clear hb hall hR HB2 HR2
      by_cases hkl : k < l.length
      · have hkz : (k : Int) < (l.length : Int) := by omega
        have hcall := fault_any A l c m (k : Int) wo (HG.out.below HB.out) HML.out HR.out
        by_cases he : nodeE (nds l) (k : Nat) = 0
        · rw [he] at hcall
          have HC := Lib.hid hcall; have HE := Lib.hid he; clear hcall he
          go_wp2_with fail
          refine HC.out.mono ?_; rintro e w2 ⟨rfl, hb2⟩
          have HB2 := Lib.hid (HB.out.trans (hb2.mono HB.out.size)); have HR2 := Lib.hid (HR.out.below hb2); clear hb2
          dsimp only
          go_wp2_with fail
          go_roundw
          case rel =>
            refine ⟨k + 1, by simp, by omega, HB2.out, HR2.out, fun j hj => ?_⟩
            by_cases e : j = k
            · subst e; exact HE.out
            · exact HA.out j (by omega)
          case measure => simp only [intOf]; omega
        · have HN := Lib.hid (checkR_node HP.out (by rw [nds_len]; exact hkl) he HA.out)
          have hez : (nodeE (nds l) (k : Nat) != 0) = true := by simpa using he
          generalize nodeE (nds l) (k : Nat) = E at *
          have HC := Lib.hid hcall; clear hcall he
          go_wp2_with fail
          refine HC.out.mono ?_; rintro e w2 ⟨rfl, hb2⟩
          have HB2 := Lib.hid (HB.out.trans (hb2.mono HB.out.size)); clear hb2
          dsimp only
          go_wp2_with fail
          go_ret2
          exact ChkD.mk HN.out HB2.out
      · have hkz : ¬ (k : Int) < (l.length : Int) := by omega
        have hal : ∀ j : Nat, j < (nds l).length → nodeE (nds l) j = 0 := fun j hj => HA.out j (by rw [nds_len] at hj; omega)
        have hpo : ∀ x ∈ nds l, ∀ z ∈ x.ins, portOk (nds l) z := fun x hx => by
          obtain ⟨j, hj⟩ := List.getElem?_of_mem hx
          have h := hal j (List.getElem?_eq_some_iff.1 hj).1
          rw [nodeE_at hj] at h
          exact (err_zero h).2.1.1
        have hcall := stuck_any A l c wo (HG.out.below HB.out) HL32.out hpo
        have HC := Lib.hid hcall; have HAL := Lib.hid hal; clear HA hal hpo hcall
        go_wp2_with fail
        refine HC.out.mono ?_; rintro e w2 ⟨⟨s, rfl, hs⟩, hb2⟩
        have HS : Hid (SetIs s (BadAt (nds l))) := Lib.hid (hs.congr fun j => (bad_iff HDEP.out).symm)
        have HB2 := Lib.hid (HB.out.trans (hb2.mono HB.out.size)); clear hb2 hs HC
        dsimp only
        by_cases h0 : s = 0
        · subst h0
          have HN := Lib.hid (checkR_ok HP.out HAL.out fun j _ h => by have := (HS.out.2 j).2 h; simp at this)
          rw [nds_len] at HN
          go_wp2_with fail
          go_ret2
          exact ChkD.mk HN.out HB2.out
        · have hsz : (((s : Nat) : Int) != 0) = true := by simp; omega
          have hlow := pcLow_any s w2 h0 HS.out.1 (HT.out.below HB2.out)
          have HLOW := Lib.hid hlow; clear hlow h0
          go_wp2_with fail
          refine HLOW.out.mono ?_; rintro e w3 ⟨i, rfl, rfl, hi, hbit, hno⟩
          have hbad := (HS.out.2 i).1 hbit
          have hlt : i < (nds l).length := by
            obtain ⟨x, hx, _⟩ := hbad
            exact (List.getElem?_eq_some_iff.1 hx).1
          have HN := Lib.hid (checkR_bad HP.out HAL.out hlt hbad fun j hj h => by have := (HS.out.2 j).2 h; rw [hno j hj] at this; cases this)
          clear hbad hlt hbit hno hi
          dsimp only
          go_wp2_with fail
          go_ret2
          exact ChkD.mk HN.out HB2.out
  · have HN := Lib.hid (checkR_put hp)
    have hpz : (putE (nds l) != 0) = true := by simpa using hp
    generalize putE (nds l) = E at *
    have HC := Lib.hid cp; clear cp hp CP
    go_enter Tryd.func15, Tryd.ntmps15
    go_wp2_with fail
    refine HC.out.mono ?_; rintro e w1 ⟨⟨v, rfl, _⟩, hb1⟩
    have HB1 := Lib.hid hb1; clear hb1 HC
    dsimp only
    go_wp2_with fail
    go_ret2
    exact ChkD.mk HN.out HB1.out
end

section
open Go.ChangeShapes Go.WideShapes Go.ChangeAt Go.RowKit Go.BigFrame
set_option maxRecDepth 100000
theorem waits_any (ts B : Nat) (z : Int) (w : World) (hB : w.cell? ⟨B, 0, none⟩ = some (.int .u32 (ts : Nat))) (hts : ts < 4294967296) (hz : 0 ≤ z ∧ z < 32) :
    Calls Tryd.prog 50 #[.int .i64 z, .pointer (some ⟨B, 0, none⟩)] w fun e w' => e = .returned (.bool (!ts.testBit z.toNat)) ∧ w = w' := by
  obtain ⟨Z, rfl⟩ : ∃ Z : Nat, z = (Z : Int) := Int.eq_ofNat_of_zero_le hz.1
  have H := Lib.hid (pcHas_any ts Z w hts (by omega))
  rw [Int.toNat_natCast]
  generalize ts.testBit Z = b at *
  go_enter Tryd.func50, Tryd.ntmps50
  go_wp2_with fail
  refine H.out.mono ?_; rintro e w1 ⟨rfl, rfl⟩
  dsimp only
  go_wp2_with fail
  go_ret
  exact ⟨rfl, rfl⟩
def IdxWait (b : Bool) (w : World) (e : Ending) (w' : World) : Prop := (∃ i : Int, e = .returned (.int .i64 i) ∧ decide (0 ≤ i) = b) ∧ w = w'
set_option maxHeartbeats 4000000 in
theorem indexWait_any (ts B : Nat) (xA : Option Addr) (xs : List Int) (c1 : Nat) (w : World) (hA : Rw.Ts kindI w xA xs) (h1 : xs.length ≤ maxLen) (hB : w.cell? ⟨B, 0, none⟩ = some (U32 ts)) (hts : ts < 4294967296) (hP : ∀ z ∈ xs, 0 ≤ z ∧ z < 32) :
    Calls Tryd.prog 59 #[.slice xA xs.length c1, .func (.func 50) #[] #[.pointer (some ⟨B, 0, none⟩)]] w (IdxWait (xs.any fun z => !ts.testBit z.toNat) w) := by
  have eg : ∀ args w, (callFunc 50 args).run Tryd.prog w = .ok (.enter 50 args) w := enters_of Tryd.func50 (by kernel_rfl) rfl
  have HC0 := Lib.hid fun (t : Int) (wr : World) (hb : Below w.heap.size w wr) (ht : t ∈ xs) => waits_any ts B t wr (cell_below hB hb) hts (hP _ ht)
  unfold maxLen at h1
  have HA := Lib.hid hA; clear hA
  go_enter Tryd.func59, Tryd.ntmps59
  go_wp2_with fail
  go_loop [8] (fun i => ∃ k : Nat, k ≤ xs.length ∧ i = .int .i64 k ∧ ∀ (j : Nat) (t : Int), j < k → xs[j]? = some t → (fun z => !ts.testBit z.toNat) t = false) (fun i => xs.length - (intOf i).toNat)
  case atStart => exact ⟨0, by omega, rfl, fun j t h => absurd h (by omega)⟩
  case round =>
    obtain ⟨k, hk, rfl, hno⟩ := hrel
    have HNO := Lib.hid hno; clear hno
    by_cases hlt : k < xs.length
    · have hltz : (k : Int) < (xs.length : Int) := by omega
      obtain ⟨t, ht⟩ : ∃ t, xs[k]? = some t := ⟨_, List.getElem?_eq_getElem hlt⟩
      obtain ⟨b, o, rfl, hbl, hld⟩ := ints_at HA.out ht
      have c0 := hld _ (Below.refl _ _)
      have hcall := HC0.out t w (Below.refl _ _) (List.mem_of_getElem? ht)
      have HT := Lib.hid ht; clear ht hld
      cases hq : (fun z => !ts.testBit z.toNat) t with
      | true =>
        simp only [] at hq hcall
        rw [hq] at hcall
        have HQ := Lib.hid hq; have HC := Lib.hid hcall; clear hq hcall
        go_wp2_with fail
        refine HC.out.mono ?_; rintro e w1 ⟨rfl, rfl⟩
        go_wp2_with fail
        go_ret
        exact ⟨⟨k, rfl, by rw [decide_eq_true (by omega)]; exact anyI_true (p := fun z => !ts.testBit z.toNat) HT.out HQ.out⟩, rfl⟩
      | false =>
        simp only [] at hq hcall
        rw [hq] at hcall
        have HQ := Lib.hid hq; have HC := Lib.hid hcall; clear hq hcall
        go_wp2_with fail
        refine HC.out.mono ?_; rintro e w1 ⟨rfl, rfl⟩
        go_wp2_with fail
        go_round
        case rel =>
          refine ⟨k + 1, by omega, by simp, fun j t' hj ht' => ?_⟩
          by_cases e : j = k
          · subst e
            rw [HT.out] at ht'; cases ht'
            exact HQ.out
          · exact HNO.out j t' (by omega) ht'
        case measure => simp only [intOf]; omega
    · have hltz : ¬ (k : Int) < (xs.length : Int) := by omega
      go_wp2_with fail
      go_ret
      exact ⟨⟨-1, rfl, by rw [decide_eq_false (by omega)]; exact anyI_false (p := fun z => !ts.testBit z.toNat) fun j t ht => HNO.out j t (by have := (List.getElem?_eq_some_iff.1 ht).1; omega) ht⟩, rfl⟩
theorem containsWait_any (ts B : Nat) (xA : Option Addr) (xs : List Int) (c1 : Nat) (w : World) (hA : Rw.Ts kindI w xA xs) (h1 : xs.length ≤ maxLen) (hB : w.cell? ⟨B, 0, none⟩ = some (U32 ts)) (hts : ts < 4294967296) (hP : ∀ z ∈ xs, 0 ≤ z ∧ z < 32) :
    Calls Tryd.prog 51 #[.slice xA xs.length c1, .func (.func 50) #[] #[.pointer (some ⟨B, 0, none⟩)]] w fun e w' => e = .returned (.bool (xs.any fun z => !ts.testBit z.toNat)) ∧ w = w' := by
  have H := Lib.hid (indexWait_any ts B xA xs c1 w hA h1 hB hts hP); clear hA
  generalize (xs.any fun z => !ts.testBit z.toNat) = v at *
  go_enter Tryd.func51, Tryd.ntmps51
  go_wp2_with fail
  refine H.out.mono ?_; rintro e w1 ⟨⟨i, rfl, hi⟩, hb1⟩
  have HI := Lib.hid hi; have HB1 := Lib.hid hb1; clear hi hb1
  go_wp2_with fail
  go_ret
  exact ⟨retb HI.out, HB1.out⟩
/-- may it stand behind those? -/
def readyB (x : Nd) (ts : Nat) : Bool := decide (x.k = 9) || !(x.ins.any fun z => !ts.testBit z.toNat)
theorem readyB_iff {g : List Nd} {T : List Nat} {i ts : Nat} {x : Nd} (hx : g[i]? = some x) (hts : SetIs ts (· ∈ T)) (hP : ∀ z ∈ x.ins, 0 ≤ z ∧ z < 32) (hn : i ∉ T) : readyB x ts = true ↔ MayNext g T i := by
  unfold readyB MayNext
  rw [Bool.or_eq_true, decide_eq_true_eq, Bool.not_eq_true', List.any_eq_false]
  constructor
  · rintro (h | h)
    · exact ⟨hn, x, hx, .inl h⟩
    · refine ⟨hn, x, hx, .inr fun z hz => ⟨(hP z hz).1, ?_⟩⟩
      have := h z hz
      exact (hts.2 _).1 (by simpa using this)
  · rintro ⟨_, y, hy, h⟩
    rw [hx] at hy; injection hy with hy; subst hy
    rcases h with h | h
    · exact .inl h
    · refine .inr fun z hz => ?_
      have := (hts.2 _).2 (h z hz).2
      simp [this]
set_option maxHeartbeats 8000000 in
theorem ready_any (ts xk xa : Nat) (xb xd : Int) (xi : List Int) (xA : Option Addr) (xc : Nat) (w : World) (hT : Rw.Ts kindI w xA xi) (hx : xi.length ≤ maxLen) (hts : ts < 4294967296) (hP : ∀ z ∈ xi, 0 ≤ z ∧ z < 32) :
    Calls Tryd.prog 35 #[.agg #[.int .u8 (xk : Nat), .int .u8 (xa : Nat), .int .i64 xb, .int .i64 xd, .slice xA xi.length xc], .int .u32 ts] w fun e w' => e = .returned (.bool (readyB ⟨xk, xa, xb, xd, xi⟩ ts)) ∧ Below w.heap.size w w' := by
  have hb1 := (Below.refl _ w).alloc (Nat.le_refl _) (.cells #[.int .u8 (xk : Nat), .int .u8 (xa : Nat), .int .i64 xb, .int .i64 xd, .slice xA xi.length xc] 39)
  have hb2 := hb1.alloc hb1.size (.cells #[.int .u32 (ts : Nat)] 55)
  have hcall := containsWait_any ts (w.heap.size + 1) xA xi xc _ (hT.below hb2) hx (new_cell (by simp)) hts hP
  have hr : readyB ⟨xk, xa, xb, xd, xi⟩ ts = (decide (xk = 9) || !(xi.any fun z => !ts.testBit z.toNat)) := rfl
  rw [hr]
  have HC := Lib.hid hcall; have HB := Lib.hid hb2
  generalize (xi.any fun z => !ts.testBit z.toNat) = v at *
  clear hb1 hb2 hcall hT hP hr
  by_cases h9 : xk = 9
  · have h9z : (((xk : Nat) : Int) == 9) = true := by simp; omega
    rw [decide_eq_true h9, Bool.true_or]
    clear h9
    go_enter Tryd.func35, Tryd.ntmps35
    go_wp2_with fail
    go_ret
    exact ⟨rfl, HB.out⟩
  · have h9z : (((xk : Nat) : Int) == 9) = false := by simp; omega
    rw [decide_eq_false h9, Bool.false_or]
    clear h9
    go_enter Tryd.func35, Tryd.ntmps35
    go_wp2_with fail
    refine HC.out.mono ?_; rintro e w1 ⟨rfl, rfl⟩
    dsimp only
    go_wp2_with fail
    go_ret
    exact ⟨rfl, HB.out⟩
end

section
open Go.ChangeShapes Go.WideShapes Go.ChangeAt Go.RowKit Go.BigFrame
set_option maxRecDepth 100000
/-- the order so far -/
structure OrdS (w0 w : World) (v : Value) (T : List Nat) : Prop where
  own : w.ownsRow w0.heap.size 3 kindI.K v T.length (Rw.row kindI (T.map Int.ofNat))
  below : Below w0.heap.size w0 w
theorem OrdS.kept {w0 w w' : World} {v : Value} {T : List Nat} (h : OrdS w0 w v T) (hb : Below w.heap.size w w') : OrdS w0 w' v T := ⟨Rw.own_kept h.own hb, h.below.trans (hb.mono h.below.size)⟩
theorem OrdS.alloc {w0 w : World} {v : Value} {T : List Nat} (h : OrdS w0 w v T) (o : Obj) : OrdS w0 (w.alloc o) v T := h.kept ((Below.refl _ w).alloc (Nat.le_refl _) o)
set_option maxHeartbeats 32000000 in
theorem chkOrder_any (A : Option Addr) (l : List Gn) (c : Nat) (w : World) (hT : Tab w) (hG : Gr w A l) (hl : l.length ≤ 40) (hi : ∀ x ∈ nds l, x.ins.length ≤ 40) (hc : l.length ≤ c ∧ c ≤ maxLen) :
    Calls Tryd.prog 17 #[.slice A l.length c] w (OrdD (nds l) w) := by
  have hcall := chkCheck_any A l c w hT hG hl hi hc
  have HG := Lib.hid hG; clear hG hT hi hc
  unfold ChkD at hcall
  by_cases hp : (checkR (nds l)).2 = 0
  · obtain ⟨hp0, hnode, _, _⟩ := checkR_zero hp
    have hmay := putE_may hp0
    have hl32 : l.length ≤ 32 := by have := hmay.1.2; rw [nds_len] at this; exact this
    have hport : ∀ (j : Nat) (x : Gn), l[j]? = some x → ∀ z ∈ x.nd.ins, 0 ≤ z ∧ z < 32 := fun j x hx z hz => by
      have hj := (List.getElem?_eq_some_iff.1 hx).1
      have h := hnode j (by rw [nds_len]; exact hj)
      rw [nodeE_at (n := x.nd) (by unfold nds; rw [List.getElem?_map, hx]; rfl)] at h
      obtain ⟨h0, m, hm, _⟩ := (err_zero h).2.1.1 z hz
      have := (List.getElem?_eq_some_iff.1 hm).1
      rw [nds_len] at this
      omega
    have hnext : ∀ T : List Nat, OrdT (nds l) T → T.length < l.length → ∃ i, nextO (nds l) T = some i := fun T hT hn => next_there hp hT (by rw [nds_len]; exact hn)
    have hordr : ∀ T, OrdT (nds l) T → T.length = l.length → orderR (nds l) = (T, 0) := fun T hT hn => orderR_ok hp hT (by rw [nds_len]; exact hn)
    rw [hp] at hcall
    generalize (checkR (nds l)).1 = N at *
    have HC := Lib.hid hcall; have HPO := Lib.hid hport; have HNX := Lib.hid hnext; have HORD := Lib.hid hordr
    clear hcall hp hp0 hnode hmay hport hnext hordr
    go_enter Tryd.func17, Tryd.ntmps17
    go_wp2_with fail
    refine HC.out.mono ?_; rintro e w1 ⟨rfl, hb1⟩
    have HB1 := Lib.hid hb1; clear hb1
    dsimp only
    go_wp2_with fail
    go_loopw [6, 7, 20] (fun v b i wx => ∃ (k ts : Nat) (T : List Nat), k ≤ l.length ∧ i = .int .i64 k ∧ T.length = k ∧ OrdT (nds l) T ∧ b = .int .u32 ts ∧ SetIs ts (· ∈ T) ∧ OrdS w wx v T) (fun _ _ i _ => l.length - (intOf i).toNat)
    case atStart => exact ⟨0, 0, [], by omega, rfl, rfl, OrdT.nil _, rfl, SetIs.zero fun j h => by simp at h, ⟨World.ownsRow_nil _ _ _ _, HB1.out⟩⟩
    case round =>
      obtain ⟨wo, rfl⟩ : ∃ wo, wo = wr := ⟨_, rfl⟩
      obtain ⟨k, ts, T, hk, rfl, hTk, hT, rfl, hts, hS⟩ := hrel
      have HTK := Lib.hid hTk; have HT := Lib.hid hT; have HTS := Lib.hid hts; have HS := Lib.hid hS; clear hTk hT hts hS HB1
      by_cases hkl : k < l.length
      · have hkz : (k : Int) < (l.length : Int) := by omega
        go_wp2_with fail
        go_loopw [6, 7, 24] (fun v b i wx => b = .int .u32 ts ∧ OrdS w wx v T ∧ ∃ q : Nat, q ≤ l.length ∧ i = .int .i64 q ∧ ∀ j, j < q → ¬ MayNext (nds l) T j) (fun _ _ i _ => l.length - (intOf i).toNat)
        case atStart => exact ⟨rfl, HS.out, 0, by omega, rfl, fun j h => absurd h (by omega)⟩
        case round =>
          obtain ⟨wi, rfl⟩ : ∃ wi, wi = wr := ⟨_, rfl⟩
          obtain ⟨rfl, hS, q, hq, rfl, hno⟩ := hrel
          clear HS
          have HS := Lib.hid hS; have HNO := Lib.hid hno; clear hS hno
          by_cases hql : q < l.length
          · have hqz : (q : Int) < (l.length : Int) := by omega
            obtain ⟨x, hx⟩ : ∃ x, l[q]? = some x := ⟨_, List.getElem?_eq_getElem hql⟩
            have hxn : (nds l)[q]? = some x.nd := by unfold nds; rw [List.getElem?_map, hx]; rfl
            have hpx := HPO.out q x hx
            have hti := HG.out.ins hx
            have hxm : x.nd.ins.length ≤ maxLen := Nat.le_trans (HG.out.ok hx).c.1 (HG.out.ok hx).c.2
            obtain ⟨⟨xk, xa, xb, xd, xi⟩, xA, xc⟩ := x
            obtain ⟨b, o, rfl, hbl, hcl⟩ := HG.out.at_ hx
            obtain ⟨c0, c1, c2, c3, c4⟩ := hcl wi HS.out.below
            simp only at hxn hpx hti hxm c0 c1 c2 c3 c4
            have hbn := HS.out.below.alloc HS.out.below.size (.cells #[.int .u8 (xk : Nat), .int .u8 (xa : Nat), .int .i64 xb, .int .i64 xd, .slice xA xi.length xc] 39)
            have h1 := pcHas_any ts q (wi.alloc (.cells #[.int .u8 (xk : Nat), .int .u8 (xa : Nat), .int .i64 xb, .int .i64 xd, .slice xA xi.length xc] 39)) HTS.out.1 (by omega)
            have h2 := ready_any ts xk xa xb xd xi xA xc (wi.alloc (.cells #[.int .u8 (xk : Nat), .int .u8 (xa : Nat), .int .i64 xb, .int .i64 xd, .slice xA xi.length xc] 39)) (hti.below hbn) hxm HTS.out.1 hpx
            have hit := HTS.out.2 q
            have hri := fun hn => readyB_iff (T := T) hxn HTS.out hpx hn
            have HSA := Lib.hid (HS.out.alloc (.cells #[.int .u8 (xk : Nat), .int .u8 (xa : Nat), .int .i64 xb, .int .i64 xd, .slice xA xi.length xc] 39))
            clear hx hxn hpx hti hxm hcl hbn
            cases e1 : ts.testBit q with
            | true =>
              rw [e1] at h1 hit
              have HN : Hid (¬ MayNext (nds l) T q) := Lib.hid fun h => h.1 (hit.1 rfl)
              have H1 := Lib.hid h1; clear h1 h2 hit hri e1
              go_wp2_with fail
              refine H1.out.mono ?_; rintro e w3 ⟨rfl, rfl⟩
              dsimp only
              go_wp2_with fail
              go_roundw
              case rel =>
                refine ⟨rfl, HSA.out, q + 1, by omega, by simp, fun j hj => ?_⟩
                by_cases e : j = q
                · subst e; exact HN.out
                · exact HNO.out j (by omega)
              case measure => simp only [intOf]; omega
            | false =>
              rw [e1] at h1 hit
              have hnm : q ∉ T := fun h => by have := hit.2 h; cases this
              have hri := hri hnm
              cases e2 : readyB ⟨xk, xa, xb, xd, xi⟩ ts with
              | false =>
                rw [e2] at h2 hri
                have HN : Hid (¬ MayNext (nds l) T q) := Lib.hid fun h => by have := hri.2 h; cases this
                have H1 := Lib.hid h1; have H2 := Lib.hid h2; clear h1 h2 hit hri e1 e2 hnm
                go_wp2_with fail
                refine H1.out.mono ?_; rintro e w3 ⟨rfl, rfl⟩
                dsimp only
                go_wp2_with fail
                refine H2.out.mono ?_; rintro e w3 ⟨rfl, hb3⟩
                have HS3 := Lib.hid (HSA.out.kept hb3); clear hb3
                dsimp only
                go_wp2_with fail
                go_roundw
                case rel =>
                  refine ⟨rfl, HS3.out, q + 1, by omega, by simp, fun j hj => ?_⟩
                  by_cases e : j = q
                  · subst e; exact HN.out
                  · exact HNO.out j (by omega)
                case measure => simp only [intOf]; omega
              | true =>
                rw [e2] at h2 hri
                have HNX2 : Hid (nextO (nds l) T = some q) := Lib.hid (firstP_some.2 ⟨by rw [nds_len]; exact hql, hri.1 rfl, HNO.out⟩)
                have H1 := Lib.hid h1; have H2 := Lib.hid h2; clear h1 h2 hit hri e1 e2 hnm
                go_wp2_with fail
                refine H1.out.mono ?_; rintro e w3 ⟨rfl, rfl⟩
                dsimp only
                go_wp2_with fail
                refine H2.out.mono ?_; rintro e w3 ⟨rfl, hb3⟩
                have HS3 := Lib.hid (HSA.out.kept hb3); clear hb3 HSA c0 c1 c2 c3 c4
                dsimp only
                have htl : T.length ≤ 32 := by have := HTK.out; omega
                have hml : (T.map Int.ofNat).length = T.length := List.length_map _
                go_wp2_with (at_builtin; refine Rw.append_own kindI 3 33 Tryd.underlying33 infoInt rfl rfl _ _ rfl w.heap.size _ T.length (T.map Int.ofNat) rfl (HS3.out.alloc _).own _ 1 [(q : Int)] rfl (by simp) (Rw.Ts.made _ [(q : Int)] _) (by unfold maxLen; simp; omega) (by simp; omega) (by have := HS3.out.below.size; simp; omega) ?_; intro v4 w4 hv4 hg4; have hb4 := Rw.own_below (HS3.out.alloc _).own hg4 (HS3.out.alloc _).below (HS3.out.alloc _).below.size; have HV := Lib.hid hv4; have HB4 := Lib.hid hb4; clear hv4 hg4 hb4)
                have h4 := pcWith_any ts q w4 HTS.out.1 (by omega)
                have H4 := Lib.hid h4; clear h4
                refine H4.out.mono ?_; rintro e w5 ⟨rfl, rfl⟩
                dsimp only
                go_wp2_with fail
                go_roundw
                case rel =>
                  refine ⟨k + 1, ts ||| 2 ^ q, T ++ [q], by omega, by simp, by rw [List.length_append, HTK.out]; rfl, HT.out.snoc HNX2.out, rfl, (HTS.out.put (by omega)).congr fun j => by simp [List.mem_append], ⟨?_, HB4.out⟩⟩
                  rw [List.map_append, List.length_append]
                  exact HV.out
                case measure => simp only [intOf]; omega
          · exfalso
            obtain ⟨i, hi⟩ := HNX.out T HT.out (by have := HTK.out; omega)
            have h := nextO_lt hi
            rw [nds_len] at h
            exact HNO.out i (by omega) h.2
      · have hkz : ¬ (k : Int) < (l.length : Int) := by omega
        have HN := Lib.hid (HORD.out T HT.out (by have := HTK.out; omega))
        go_wp2_with fail
        go_ret2
        exact OrdD.mk HN.out HS.out.own HS.out.below
  · have HN := Lib.hid (orderR_no hp)
    have hpz : ((checkR (nds l)).2 != 0) = true := by simpa using hp
    generalize (checkR (nds l)).2 = E at *
    generalize (checkR (nds l)).1 = N at *
    have HC := Lib.hid hcall; clear hcall hp
    go_enter Tryd.func17, Tryd.ntmps17
    go_wp2_with fail
    refine HC.out.mono ?_; rintro e w1 ⟨rfl, hb1⟩
    have HB1 := Lib.hid hb1; clear hb1 HC
    dsimp only
    go_wp2_with fail
    go_ret2
    exact OrdD.mk HN.out (World.ownsRow_nil _ _ _ _) HB1.out
end
end Go.Proofs.YtocdganglokplaaDoor
