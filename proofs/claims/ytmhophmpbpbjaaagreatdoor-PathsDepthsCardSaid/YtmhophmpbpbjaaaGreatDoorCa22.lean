/- ChkCheck, PcCheck, PlPth, PlOnce, StRow, CtTouch, PlBody -/
import Derived.Test.YtmhophmpbpbjaaaGreatDoorCa20
import Derived.Test.YtmhophmpbpbjaaaGreatDoorCa21
import Derived.Test.YtmhophmpbpbjaaaGreatDoorCa18
import Derived.Test.YtmhophmpbpbjaaaGreatDoorCa15
import Derived.Test.YtmhophmpbpbjaaaGreatDoorCa16
import Derived.Laws.MakeOwn
import Derived.Test.YtmhophmpbpbjaaaGreatDoorCa0
import Derived.Tactics2
import Derived.Defers
import Derived.Laws.Pointers
import Derived.Laws.LoneSync
import Derived.Laws.NewBlocks
import Derived.RegionTactic
import Derived.RegionCalls
import Derived.ChangeAlike
import Derived.Lib.Hide
import Derived.Test.YtmhophmpbpbjaaaGreatDoorCa6
import Derived.Laws.AppendOwnNone
import Derived.OwnWalk
import Derived.Test.YtmhophmpbpbjaaaGreatDoorCa9
import Derived.Maps.OwnSet
namespace Go.Proofs.YtmhophmpbpbjaaaGreatDoor
set_option linter.unusedVariables false
section
open Go.ChangeShapes Go.WideShapes Go.ChangeAt Go.RowKit Go.BigFrame
set_option maxRecDepth 100000
theorem putE_may {g : List Nd} (h : putE g = 0) : GMay g := by
  unfold putE at h
  split at h
  · cases h
  · split at h
    · exact mayB_iff.1 ‹_›
    · cases h
def ChkD (g : List Nd) (w : World) (e : Ending) (w' : World) : Prop := e = .returned (.tuple #[.int .i64 (checkR g).1, .int .i64 (checkR g).2]) ∧ Below w.heap.size w w'
theorem ChkD.mk {g : List Nd} {w w' : World} {a b : Int} (h : checkR g = (a, b)) (hb : Below w.heap.size w w') : ChkD g w (.returned (.tuple #[.int .i64 a, .int .i64 b])) w' := by unfold ChkD; rw [h]; exact ⟨rfl, hb⟩
end

section
open Go.ChangeShapes Go.WideShapes Go.ChangeAt Go.RowKit Go.BigFrame
set_option maxRecDepth 100000
set_option maxHeartbeats 16000000 in
theorem chkCheck_any (A : Option Addr) (l : List Gn) (c : Nat) (w : World) (hT : Tab w) (hG : Gr w A l) (hl : l.length ≤ 40) (hi : ∀ x ∈ nds l, x.ins.length ≤ 40) (hc : l.length ≤ c ∧ c ≤ maxLen) :
    Calls Tryz.prog 37 #[.slice A l.length c] w (ChkD (nds l) w) := by
  have HML : Hid (l.length ≤ maxLen) := Lib.hid (by unfold maxLen; omega)
  have CP := Lib.hid (flowPut_any A l c w hG HML.out)
  have HG := Lib.hid hG; have HT := Lib.hid hT; clear hG hT hi hc
  have cp := CP.out
  unfold PutD at cp
  by_cases hp : putE (nds l) = 0
  · rw [hp] at cp
    have HCP := Lib.hid cp
    have hmay := putE_may hp
    have hl32 : l.length ≤ 32 := by have := hmay.1.2; rw [nds_len] at this; exact this
    have hdep : ∀ x ∈ nds l, 0 ≤ x.d ∧ x.d ≤ 3 := fun x hx => (hmay.2 x hx).1
    have HP := Lib.hid hp; have HDEP := Lib.hid hdep; have HL32 := Lib.hid hl32; clear cp hp hmay hdep hl32 CP
    go_enter Tryz.func37, Tryz.ntmps37
    go_wp2_with fail
    refine HCP.out.mono ?_; rintro e w1 ⟨⟨v, rfl, _⟩, hb1⟩
    have HB1 := Lib.hid hb1; clear hb1 HCP
    dsimp only
    have hnum := numbers_any w1
    have HNUM := Lib.hid hnum; clear hnum
    go_wp2_with fail
    refine HNUM.out.mono ?_; rintro e w2 ⟨⟨m, rfl, hR⟩, hb2⟩
    have HB2 := Lib.hid (HB1.out.trans (hb2.mono HB1.out.size)); have HR2 := Lib.hid hR; clear hb2 hR HNUM HB1
    dsimp only
    go_wp2_with fail
    go_loopw [21] (fun n wx => ∃ k : Nat, n = .int .i64 k ∧ k ≤ l.length ∧ Below w.heap.size w wx ∧ Rules wx m ∧ ∀ j : Nat, j < k → nodeE (nds l) j = 0) (fun n _ => l.length - (intOf n).toNat)
    case atStart => exact ⟨0, rfl, by omega, HB2.out, HR2.out, fun j h => absurd h (by omega)⟩
    case round =>
      obtain ⟨wo, rfl⟩ : ∃ wo, wo = wr := ⟨_, rfl⟩
      obtain ⟨k, rfl, hk, hb, hR, hall⟩ := hrel
      have HB := Lib.hid hb; have HR := Lib.hid hR; have HA := Lib.hid hall; clear hb hall hR HB2 HR2
      by_cases hkl : k < l.length
      · have hkz : (k : Int) < (l.length : Int) := by omega
        have hcall := fault_any A l c m (k : Int) wo (HG.out.below HB.out) HML.out HR.out
        by_cases he : nodeE (nds l) (k : Nat) = 0
        · rw [he] at hcall
          have HC := Lib.hid hcall; have HE := Lib.hid he; clear hcall he
          go_wp2_with fail
          refine HC.out.mono ?_; rintro e w2 ⟨rfl, hb2⟩
          have HB2 := Lib.hid (HB.out.trans (hb2.mono HB.out.size)); have HR2 := Lib.hid (HR.out.below hb2); clear hb2
          dsimp only
          go_wp2_with fail
          go_roundw
          case rel =>
            refine ⟨k + 1, by simp, by omega, HB2.out, HR2.out, fun j hj => ?_⟩
            by_cases e : j = k
            · subst e; exact HE.out
            · exact HA.out j (by omega)
          case measure => simp only [intOf]; omega
        · have HN := Lib.hid (checkR_node HP.out (by rw [nds_len]; exact hkl) he HA.out)
          have hez : (nodeE (nds l) (k : Nat) != 0) = true := by simpa using he
          generalize nodeE (nds l) (k : Nat) = E at *
          have HC := Lib.hid hcall; clear hcall he
          go_wp2_with fail
          refine HC.out.mono ?_; rintro e w2 ⟨rfl, hb2⟩
          have HB2 := Lib.hid (HB.out.trans (hb2.mono HB.out.size)); clear hb2
          dsimp only
          go_wp2_with fail
          go_ret2
          exact ChkD.mk HN.out HB2.out
      · have hkz : ¬ (k : Int) < (l.length : Int) := by omega
        have hal : ∀ j : Nat, j < (nds l).length → nodeE (nds l) j = 0 := fun j hj => HA.out j (by rw [nds_len] at hj; omega)
        have hpo : ∀ x ∈ nds l, ∀ z ∈ x.ins, portOk (nds l) z := fun x hx => by
          obtain ⟨j, hj⟩ := List.getElem?_of_mem hx
          have h := hal j (List.getElem?_eq_some_iff.1 hj).1
          rw [nodeE_at hj] at h
          exact (err_zero h).2.1.1
        have hcall := stuck_any A l c wo (HG.out.below HB.out) HL32.out hpo
        have HC := Lib.hid hcall; have HAL := Lib.hid hal; clear HA hal hpo hcall
        go_wp2_with fail
        refine HC.out.mono ?_; rintro e w2 ⟨⟨s, rfl, hs⟩, hb2⟩
        have HS : Hid (SetIs s (BadAt (nds l))) := Lib.hid (hs.congr fun j => (bad_iff HDEP.out).symm)
        have HB2 := Lib.hid (HB.out.trans (hb2.mono HB.out.size)); clear hb2 hs HC
        dsimp only
        by_cases h0 : s = 0
        · subst h0
          have HN := Lib.hid (checkR_ok HP.out HAL.out fun j _ h => by have := (HS.out.2 j).2 h; simp at this)
          rw [nds_len] at HN
          go_wp2_with fail
          go_ret2
          exact ChkD.mk HN.out HB2.out
        · have hsz : (((s : Nat) : Int) != 0) = true := by simp; omega
          have hlow := pcLow_any s w2 h0 HS.out.1 (HT.out.below HB2.out)
          have HLOW := Lib.hid hlow; clear hlow h0
          go_wp2_with fail
          refine HLOW.out.mono ?_; rintro e w3 ⟨i, rfl, rfl, hi, hbit, hno⟩
          have hbad := (HS.out.2 i).1 hbit
          have hlt : i < (nds l).length := by
            obtain ⟨x, hx, _⟩ := hbad
            exact (List.getElem?_eq_some_iff.1 hx).1
          have HN := Lib.hid (checkR_bad HP.out HAL.out hlt hbad fun j hj h => by have := (HS.out.2 j).2 h; rw [hno j hj] at this; cases this)
          clear hbad hlt hbit hno hi
          dsimp only
          go_wp2_with fail
          go_ret2
          exact ChkD.mk HN.out HB2.out
  · have HN := Lib.hid (checkR_put hp)
    have hpz : (putE (nds l) != 0) = true := by simpa using hp
    generalize putE (nds l) = E at *
    have HC := Lib.hid cp; clear cp hp CP
    go_enter Tryz.func37, Tryz.ntmps37
    go_wp2_with fail
    refine HC.out.mono ?_; rintro e w1 ⟨⟨v, rfl, _⟩, hb1⟩
    have HB1 := Lib.hid hb1; clear hb1 HC
    dsimp only
    go_wp2_with fail
    go_ret2
    exact ChkD.mk HN.out HB1.out
end

section
open Go.ChangeShapes Go.WideShapes Go.ChangeAt Go.RowKit Go.BigFrame
set_option maxRecDepth 100000
def fanC : Option Sl → List Value
  | none => [.int .u32 0, .int .i32 0, .int .u32 0, .int .u32 0, .slice none 0 0]
  | some s => [.int .u32 1, .int .i32 0, .int .u32 0, .int .u32 1, s.v]
def kindF : Kind (Option Sl) := ⟨fanC, 5, fun t => by cases t <;> rfl, fun t u hu => by
  cases t <;> simp only [fanC, List.mem_cons, List.not_mem_nil, or_false] at hu <;> rcases hu with rfl | rfl | rfl | rfl | rfl <;> rfl, by decide⟩
theorem infoFan : (Tryz.prog.info? 143).map (fun i => (i.zero, i.size, i.bytes)) = some (some (.agg #[.int .u32 0, .int .i32 0, .int .u32 0, .int .u32 0, .slice none 0 0]), 5, 40) := by kernel_rfl
theorem made_fans (n : Nat) : (madeCells (Value.agg #[.int .u32 0, .int .i32 0, .int .u32 0, .int .u32 0, .slice none 0 0]).cells (n * 5)).toList = Rw.row kindF (List.replicate n none) := by
  have hz : (Value.agg #[.int .u32 0, .int .i32 0, .int .u32 0, .int .u32 0, .slice none 0 0]).cells = #[.int .u32 0, .int .i32 0, .int .u32 0, .int .u32 0, .slice none 0 0] := rfl
  rw [hz]
  apply List.ext_getElem?
  intro j
  by_cases hj : j < n * 5
  · have hr : (List.replicate n (none : Option Sl))[j / 5]? = some none := by rw [List.getElem?_replicate, if_pos (by omega)]
    have hrow := fun u hu => Rw.row_at (κ := kindF) (List.replicate n none) (j / 5) none hr (j % 5) u hu
    rw [show j / 5 * kindF.K + j % 5 = j by show j / 5 * 5 + j % 5 = j; omega] at hrow
    have h5 : j % 5 = 0 ∨ j % 5 = 1 ∨ j % 5 = 2 ∨ j % 5 = 3 ∨ j % 5 = 4 := by omega
    rcases h5 with h | h | h | h | h <;> rw [h] at hrow <;> rw [hrow _ rfl] <;> simp [madeCells, hj, h]
  · rw [List.getElem?_eq_none (by simp [madeCells]; omega), List.getElem?_eq_none (by rw [Rw.row_len, List.length_replicate]; exact Nat.le_of_not_lt hj)]
def RowsAt (w : World) (base : Nat) (g : List Nd) (k : Nat) (s : Sl) : Prop := ∃ B T D vs, s = ⟨some ⟨B, 0, none⟩, g.length, g.length⟩ ∧ TT w base B vs T ∧ Run g k T D []
structure Pth (w : World) (base p F : Nat) (A : Option Addr) (c : Nat) (lg : List Gn) (fs : List (Option Sl)) : Prop where
  row : Row w p 71 [.slice A lg.length c, .slice (some ⟨F, 0, none⟩) lg.length lg.length]
  graph : OwnG w base (.slice A lg.length c) lg
  fans : Row w F 143 (Rw.row kindF fs)
  len : fs.length = lg.length
  lo : base ≤ p ∧ base ≤ F
  known : ∀ (k : Nat) (s : Sl), fs[k]? = some (some s) → RowsAt w base (nds lg) k s
def Stays (base : Nat) (w w' : World) : Prop := w.heap.size ≤ w'.heap.size ∧ ∀ k, base ≤ k → k < w.heap.size → w'.heap[k]? = w.heap[k]?
section
variable {w w' : World} {base p F : Nat} {A : Option Addr} {c : Nat} {lg : List Gn} {fs : List (Option Sl)}
theorem Stays.of_below (h : Below w.heap.size w w') : Stays base w w' := ⟨h.size, fun k _ hk => h.block k hk⟩
theorem Stays.far {blk j : Nat} {u : Value} (hb : blk < base) : Stays base w (w.setCell ⟨blk, j, none⟩ u) := ⟨by simp [World.setCell], fun k hk _ => Below.heap_setCell w ⟨blk, j, none⟩ u k (by show k ≠ blk; omega)⟩
theorem row_stays {b : Nat} {t : TypeId} {l : List Value} (h : Row w b t l) (hs : Stays base w w') (hb : base ≤ b) : Row w' b t l := (hs.2 b hb h.lt).trans h
theorem own_stays {base' n K : Nat} {T : TypeId} {v : Value} {xs : List Value} (h : w.ownsRow base' T K v n xs) (hs : Stays base w w') (hb : base ≤ base') : w'.ownsRow base' T K v n xs := by
  have hlt := h.lt
  obtain ⟨hl, h | ⟨g, cap, cur, rfl, hg, hh, h1⟩⟩ := h
  · exact ⟨hl, .inl h⟩
  · exact ⟨hl, .inr ⟨g, cap, cur, rfl, hg, (hs.2 g (by omega) (hlt g rfl).2).trans hh, h1⟩⟩
theorem tt_stays {B : Nat} {vs : List Sl} {T : List (List Sm)} (h : TT w base B vs T) (hs : Stays base w w') : TT w' base B vs T :=
  ⟨row_stays h.row hs h.lo, h.lo, h.len, fun j s l hv hl => own_stays (h.own j s l hv hl) hs (Nat.le_refl _), h.apart⟩
theorem RowsAt.stays {g : List Nd} {k : Nat} {s : Sl} (h : RowsAt w base g k s) (hs : Stays base w w') : RowsAt w' base g k s := by
  obtain ⟨B, T, D, vs, e, ht, hr⟩ := h
  exact ⟨B, T, D, vs, e, tt_stays ht hs, hr⟩
theorem Pth.stays (h : Pth w base p F A c lg fs) (hs : Stays base w w') : Pth w' base p F A c lg fs :=
  ⟨row_stays h.row hs h.lo.1, ⟨own_stays h.graph.row hs (Nat.le_refl _), h.graph.ok, fun x hx => own_stays (h.graph.ins x hx) hs (Nat.le_refl _)⟩, row_stays h.fans hs h.lo.2, h.len, h.lo, fun k s hk => (h.known k s hk).stays hs⟩
theorem Pth.below (h : Pth w base p F A c lg fs) (hb : Below w.heap.size w w') : Pth w' base p F A c lg fs := h.stays (Stays.of_below hb)
end
def NewD (lg : List Gn) (w : World) (e : Ending) (w' : World) : Prop := (∃ p F A c l', e = .returned (.tuple #[.pointer (some ⟨p, 0, none⟩), .int .i64 0]) ∧ nds l' = nds lg ∧ Pth w' w.heap.size p F A c l' (List.replicate lg.length none)) ∧ Below w.heap.size w w'
theorem new_bad (A : Option Addr) (lg : List Gn) (c : Nat) (w : World) (hT : Tab w) (hG : Gr w A lg) (hl : lg.length ≤ 40) (hI : ∀ x ∈ nds lg, x.ins.length ≤ 40) (hc : lg.length ≤ c ∧ c ≤ maxLen) (hE : (checkR (nds lg)).2 ≠ 0) :
    Calls Tryz.prog 12 #[.slice A lg.length c] w fun e w' => e = .returned (.tuple #[.pointer none, .int .i64 (checkR (nds lg)).2]) ∧ Below w.heap.size w w' := by
  have hck := chkCheck_any A lg c w hT hG hl hI hc
  unfold ChkD at hck
  generalize (checkR (nds lg)).1 = N at *
  generalize (checkR (nds lg)).2 = E at *
  have hez : (E != 0) = true := by simpa using hE
  have HC := Lib.hid hck; clear hck hE hT hG hI hc
  go_enter Tryz.func12, Tryz.ntmps12
  go_wp2_with fail
  refine HC.out.mono ?_; rintro e w1 ⟨rfl, hb1⟩
  have HB := Lib.hid hb1; clear hb1 HC
  dsimp only
  go_wp2_with fail
  go_ret2
  exact ⟨rfl, HB.out⟩
theorem ownG_mono {w : World} {base base' : Nat} {v : Value} {l : List Gn} (h : OwnG w base v l) (hb : base' ≤ base) : OwnG w base' v l := ⟨own_base h.row hb, h.ok, fun x hx => own_base (h.ins x hx) hb⟩
theorem new_end {w w3 : World} {lg l' : List Gn} {A : Option Addr} {c F p : Nat} (hn : nds l' = nds lg) (ho : OwnG w3 w.heap.size (.slice A l'.length c) l') (hF : Row w3 F 143 (Rw.row kindF (List.replicate lg.length none))) (hlo : w.heap.size ≤ F) (hb3 : Below w.heap.size w w3) (hp : p = w3.heap.size) :
    NewD lg w (.returned (.tuple #[.pointer (some ⟨p, 0, none⟩), .int .i64 0])) (w3.alloc (.cells #[.slice A l'.length c, .slice (some ⟨F, 0, none⟩) lg.length lg.length] 71)) := by
  subst hp
  have hll : l'.length = lg.length := by have := congrArg List.length hn; rwa [nds_len, nds_len] at this
  refine ⟨⟨w3.heap.size, F, A, c, l', rfl, hn, ⟨?_, ho.alloc _, hF.alloc _, ?_, ⟨hb3.size, hlo⟩, fun k s hk => ?_⟩⟩, hb3.alloc hb3.size _⟩
  · rw [hll]; exact Row.made w3 _ _
  · rw [List.length_replicate, hll]
  · have := List.mem_of_getElem? hk
    rw [List.mem_replicate] at this
    cases this.2
set_option maxHeartbeats 8000000 in
theorem new_good (A : Option Addr) (lg : List Gn) (c : Nat) (w : World) (hT : Tab w) (hG : Gr w A lg) (hl : lg.length ≤ 40) (hI : ∀ x ∈ nds lg, x.ins.length ≤ 40) (hc : lg.length ≤ c ∧ c ≤ maxLen) (hn0 : A = none → c = 0) (hE : (checkR (nds lg)).2 = 0) :
    Calls Tryz.prog 12 #[.slice A lg.length c] w (NewD lg w) := by
  have hck := chkCheck_any A lg c w hT hG hl hI hc
  unfold ChkD at hck
  rw [(checkR_zero hE).2.2.2, nds_len] at hck
  obtain ⟨i0, hi0, hz0, hz1, hz2⟩ := info_parts infoFan
  have hmk : ∀ wz : World, (Instr.makeSlice 69 (.int .i64 (lg.length : Nat)) (.int .i64 (lg.length : Nat))).run Tryz.prog wz = .ok (.slice (some ⟨wz.heap.size, 0, none⟩) lg.length lg.length) (wz.alloc (.cells (Rw.row kindF (List.replicate lg.length none)).toArray 143)) := fun wz => by
    have := run_make (P := Tryz.prog) wz 69 143 i0 _ Tryz.underlying69 hi0 hz0 .i64 .i64 lg.length lg.length (by omega) (Int.le_refl _) (by rw [hz2]; omega) (by omega)
    simp only [Int.toNat_natCast] at this
    rw [this, hz1, ← made_fans, Array.toArray_toList]
  have hcp := fun wz (hz : Below w.heap.size w wz) => copied_any A lg c wz (hG.below hz) (fun e => ⟨hn0 e, List.eq_nil_of_length_eq_zero (by have := hn0 e; omega)⟩) (by omega) (fun x hx => by have := hI x.nd (List.mem_map.2 ⟨x, hx, rfl⟩); omega)
  have HC := Lib.hid hck; have HCP := Lib.hid hcp; clear hck hE hT hG hI hc hcp hi0 hz0 hz1 hz2
  go_enter Tryz.func12, Tryz.ntmps12
  go_wp2_with fail
  refine HC.out.mono ?_; rintro e w1 ⟨rfl, hb1⟩
  have HB := Lib.hid hb1; clear hb1 HC
  dsimp only
  go_upto_region 4 with fail
  go_region_with (go_at_call 38; refine (HCP.out _ (by first | exact HB.out.drew | exact (HB.out.alloc HB.out.size _).drew | exact (HB.out.drew).alloc HB.out.size _)).mono ?_; rintro e w3 ⟨⟨v3, l3, rfl, hn3, ho3⟩, hb3⟩; obtain ⟨A3, c3, rfl, _, _, _, _⟩ := ho3.gr)
  all_goals
    have HO3 := Lib.hid (And.intro hn3 (And.intro ho3 hb3)); clear hn3 ho3 hb3
    go_wp2_with fail
    go_ret2
    obtain ⟨hn3, ho3, hb3⟩ := HO3.out
    first
      | exact new_end (w3 := w3.alloc (.cells (Rw.row kindF (List.replicate lg.length none)).toArray 143)) hn3 ((ownG_mono ho3 HB.out.size).alloc _) (Row.made _ _ _) (Nat.le_trans HB.out.size hb3.size) ((HB.out.drew.trans (hb3.mono HB.out.size)).alloc (Nat.le_trans HB.out.size hb3.size) _) (by simp)
      | exact new_end hn3 (ownG_mono ho3 (by have := HB.out.size; simp; omega)) ((Row.made w1.drew 143 (Rw.row kindF (List.replicate lg.length none))).below hb3 (by simp)) HB.out.size ((HB.out.drew.alloc HB.out.size _).trans (hb3.mono (by have := HB.out.size; simp; omega))) rfl
end

section
set_option maxRecDepth 100000
theorem once_disable (w : World) : (callFunc 184 #[]).run Tryz.prog w = .ok (.value (.tuple #[])) w := run_call_mark0 Tryz.func184 (by kernel_rfl) (by kernel_rfl) (by kernel_rfl) .disable (by kernel_rfl) w
theorem once_enable (w : World) : (callFunc 186 #[]).run Tryz.prog w = .ok (.value (.tuple #[])) w := run_call_mark0 Tryz.func186 (by kernel_rfl) (by kernel_rfl) (by kernel_rfl) .enable (by kernel_rfl) w
theorem once_acquire (a : Addr) (w : World) : (callFunc 187 #[.pointer (some a)]).run Tryz.prog w = .ok (.value (.tuple #[])) w := run_call_marked Tryz.func187 (by kernel_rfl) (by kernel_rfl) (by kernel_rfl) .acquire (by kernel_rfl) a w
theorem once_release (a : Addr) (w : World) : (callFunc 189 #[.pointer (some a)]).run Tryz.prog w = .ok (.value (.tuple #[])) w := run_call_marked Tryz.func189 (by kernel_rfl) (by kernel_rfl) (by kernel_rfl) .releaseMerge (by kernel_rfl) a w
theorem flag_load (a : Addr) (x : Int) (v : Bool) (hv : (x != 0) = v) (w : World) (hc : w.cell? a = some (.int .u32 x)) :
    Calls Tryz.prog 85 #[.pointer (some a)] w fun e w' => e = .returned (.bool v) ∧ w' = w := by
  have hl := run_call_load (P := Tryz.prog) Tryz.func126 (by kernel_rfl) (by kernel_rfl) (by kernel_rfl) .u32 (by kernel_rfl) hc
  go_enter Tryz.func85, Tryz.ntmps85
  go_wp2
  first | go_end0 | go_ret
  exact ⟨rfl, rfl⟩
theorem flag_store (a : Addr) (x : Value) (w : World) (hc : w.cell? a = some x) (hz : w.frozen? a = false) :
    Calls Tryz.prog 89 #[.pointer (some a), .bool true] w fun e w' => e = .returned (.tuple #[]) ∧ w' = w.drew.setCell a (.int .u32 1) := by
  have hc' : w.drew.cell? a = some x := by go_simp
  have hz' : w.drew.frozen? a = false := by go_simp
  have hst := run_call_store (P := Tryz.prog) Tryz.func131 (by kernel_rfl) (by kernel_rfl) (by kernel_rfl) (by kernel_rfl) (k := .u32) (y := 1) hc' hz'
  go_enter Tryz.func89, Tryz.ntmps89
  go_wp2
  go_region_calls
  all_goals (go_end0; exact ⟨rfl, rfl⟩)
theorem store_deferred (a : Addr) (x : Value) (u : FrameMode) (w : World) (hc : w.cell? a = some x) (hz : w.frozen? a = false) :
    CallsD Tryz.prog 89 #[.pointer (some a), .bool true] u w fun e u' w' => u' = u ∧ (e = .returned (.tuple #[]) ∧ w' = w.drew.setCell a (.int .u32 1)) := by
  have hc' : w.drew.cell? a = some x := by go_simp
  have hz' : w.drew.frozen? a = false := by go_simp
  have hst := run_call_store (P := Tryz.prog) Tryz.func131 (by kernel_rfl) (by kernel_rfl) (by kernel_rfl) (by kernel_rfl) (k := .u32) (y := 1) hc' hz'
  go_enter_d Tryz.func89, Tryz.ntmps89
  go_wp2
  go_region_calls
  all_goals (go_end0; exact ⟨rfl, rfl⟩)
theorem unlock_deferred (a : Addr) (u : FrameMode) (w : World) (hc : w.cell? a = some (.int .i32 1)) (hz : w.frozen? a = false) :
    CallsD Tryz.prog 157 #[.pointer (some a)] u w fun e u' w' => u' = u ∧ (e = .returned (.tuple #[]) ∧ w' = w.setCell a (.int .i32 0)) := by
  have hd := once_disable
  have he := once_enable
  have hr := once_release
  have hadd := run_call_add (P := Tryz.prog) Tryz.func190 (by kernel_rfl) (by kernel_rfl) (by kernel_rfl) .i32 (by kernel_rfl) (y := -1) (s := 0) hc hz (by simp [go_sem]; rfl)
  have hcv := run_convert_to_unsafe (P := Tryz.prog) (src := 226) (dst := 230) Tryz.underlying226 Tryz.underlying230 (by kernel_rfl) hc
  go_enter_d Tryz.func157, Tryz.ntmps157
  go_wp2
  go_end0
  go_wp2
  go_end0
  exact ⟨rfl, rfl⟩
theorem lock_free (a : Addr) (w : World) (hc : w.cell? a = some (.int .i32 0)) (hz : w.frozen? a = false) :
    Calls Tryz.prog 156 #[.pointer (some a)] w fun e w' => e = .returned (.tuple #[]) ∧ w' = w.setCell a (.int .i32 1) := by
  have hd := once_disable
  have he := once_enable
  have ha := once_acquire
  have hcas := run_call_cas_hit (P := Tryz.prog) Tryz.func185 (by kernel_rfl) (by kernel_rfl) (by kernel_rfl) .i32 (by kernel_rfl) (y := 1) hc hz
  have hc' : (w.setCell a (.int .i32 1)).cell? a = some (.int .i32 1) := World.cell?_setCell_same w a _ hc
  have hcv := run_convert_to_unsafe (P := Tryz.prog) (src := 226) (dst := 230) Tryz.underlying226 Tryz.underlying230 (by kernel_rfl) hc'
  go_enter Tryz.func156, Tryz.ntmps156
  go_wp2
  first | go_end0 | (simp only [Exit.inBlock, Exit.then]; refine bodyPost_ret (results_none rfl _ _ _) rfl ?_) | refine bodyPost_ret (results_none rfl _ _ _) rfl ?_
  go_wp2
  go_end0
  exact ⟨rfl, rfl⟩
structure OnceHeld (b off : Nat) (w : World) : Prop where
  c0 : w.cell? ⟨b, off, none⟩ = some (.int .u32 0)
  c1 : w.cell? ⟨b, off + 1, none⟩ = some (.int .i32 1)
  f0 : w.frozen? ⟨b, off, none⟩ = false
  f1 : w.frozen? ⟨b, off + 1, none⟩ = false
theorem slow_any (b off : Nat) (caps : Array Value) (w : World) (Post : World → Prop)
    (h0 : w.cell? ⟨b, off, none⟩ = some (.int .u32 0)) (h1 : w.cell? ⟨b, off + 1, none⟩ = some (.int .i32 0))
    (f0 : w.frozen? ⟨b, off, none⟩ = false) (f1 : w.frozen? ⟨b, off + 1, none⟩ = false)
    (hf : Calls Tryz.prog 87 caps (w.setCell ⟨b, off + 1, none⟩ (.int .i32 1)) fun e w' => e = .returned (.tuple #[]) ∧ OnceHeld b off w' ∧ Post w') :
    Calls Tryz.prog 127 #[.pointer (some ⟨b, off, none⟩), .func (.func 87) #[] caps] w fun e w' => e = .returned (.tuple #[]) ∧
      ∃ w1, Post w1 ∧ OnceHeld b off w1 ∧ w' = (w1.drew.setCell ⟨b, off, none⟩ (.int .u32 1)).setCell ⟨b, off + 1, none⟩ (.int .i32 0) := by
  have hl := (World.cell?_setCell_other w ⟨b, off + 1, none⟩ ⟨b, off, none⟩ (.int .i32 1) (by simp)).trans h0
  have hnot : ∀ (x : Bool) (w : World), (Op.unary .not (.bool x)).run Tryz.prog w = .ok (.bool (!x)) w := fun _ _ => rfl
  have HF := Lib.hid hf; clear hf
  go_enter_defers Tryz.func127, Tryz.ntmps127
  go_wp2_with (first | (go_at_call 156; refine (lock_free ⟨b, off + 1, none⟩ _ (by go_simp) (by go_simp)).mono ?_; rintro e w' ⟨rfl, rfl⟩) | (go_at_call 85; refine (flag_load ⟨b, off, none⟩ 0 false rfl _ hl).mono ?_; rintro e w' ⟨rfl, rfl⟩) | (go_at_call 87; refine HF.out.mono ?_; rintro e w1 ⟨rfl, hh, hp⟩))
  refine leaves_cons (f := 89) (args := #[.pointer (some ⟨b, off, none⟩), .bool true]) (by simp) (by simp [go_sem]) ?_
  refine (store_deferred ⟨b, off, none⟩ (.int .u32 0) .returning _ hh.c0 hh.f0).mono ?_
  rintro e u' w'' ⟨rfl, rfl, rfl⟩
  refine leaves_cons (f := 157) (args := #[.pointer (some ⟨b, off + 1, none⟩)]) (by simp [settle]) (by simp [go_sem]) ?_
  refine (unlock_deferred ⟨b, off + 1, none⟩ _ _ ?_ (by simp [hh.f1])).mono ?_
  · refine (World.cell?_setCell_other _ ⟨b, off, none⟩ ⟨b, off + 1, none⟩ _ (by simp)).trans ?_
    rw [World.cell?_drew]
    exact hh.c1
  rintro e u' w'' ⟨rfl, rfl, rfl⟩
  simp [Leaves, settle, results, Tryz.results127]
  exact ⟨w1, hp, hh, rfl⟩
theorem do_first (b off : Nat) (caps : Array Value) (w : World) (Post : World → Prop)
    (h0 : w.cell? ⟨b, off, none⟩ = some (.int .u32 0)) (h1 : w.cell? ⟨b, off + 1, none⟩ = some (.int .i32 0))
    (f0 : w.frozen? ⟨b, off, none⟩ = false) (f1 : w.frozen? ⟨b, off + 1, none⟩ = false)
    (hf : Calls Tryz.prog 87 caps (w.setCell ⟨b, off + 1, none⟩ (.int .i32 1)) fun e w' => e = .returned (.tuple #[]) ∧ OnceHeld b off w' ∧ Post w') :
    Calls Tryz.prog 86 #[.pointer (some ⟨b, off, none⟩), .func (.func 87) #[] caps] w fun e w' => e = .returned (.tuple #[]) ∧
      ∃ w1, Post w1 ∧ OnceHeld b off w1 ∧ w' = (w1.drew.setCell ⟨b, off, none⟩ (.int .u32 1)).setCell ⟨b, off + 1, none⟩ (.int .i32 0) := by
  have hnot : ∀ (x : Bool) (w : World), (Op.unary .not (.bool x)).run Tryz.prog w = .ok (.bool (!x)) w := fun _ _ => rfl
  have HF := Lib.hid hf; clear hf
  go_enter Tryz.func86, Tryz.ntmps86
  go_wp2_with (first | (go_at_call 127; refine (slow_any b off caps _ Post h0 h1 f0 f1 HF.out).mono ?_; rintro e w' ⟨rfl, w1, hp, hh, rfl⟩) | (go_at_call 85; refine (flag_load ⟨b, off, none⟩ 0 false rfl _ h0).mono ?_; rintro e w' ⟨rfl, rfl⟩))
  go_end0
  exact ⟨rfl, w1, hp, hh, rfl⟩
end

section
open Go.ChangeShapes Go.WideShapes Go.ChangeAt Go.RowKit Go.BigFrame
set_option maxRecDepth 100000
theorem Tryz.infoStamp : (Tryz.prog.info? 49).map (fun i => (i.zero, i.size, i.bytes)) = some (some (.agg #[.int .i64 0, .int .i64 0, .int .i64 0, .int .i64 0, .int .i64 0]), 5, 40) := by kernel_rfl
def rowS (ts : List St) : List Value := (ts.map St.cells).flatten
theorem rowS_cons (t : St) (ts : List St) : rowS (t :: ts) = .int .i64 t.d :: .int .i64 t.e :: .int .i64 t.x :: .int .i64 t.y :: .int .i64 t.z :: rowS ts := by simp [rowS, St.cells]
theorem rowS_append (ts us : List St) : rowS (ts ++ us) = rowS ts ++ rowS us := by simp [rowS]
theorem rowS_len (ts : List St) : (rowS ts).length = ts.length * 5 := by
  induction ts with
  | nil => rfl
  | cons t ts ih => rw [rowS_cons]; simp only [List.length_cons, ih]; omega
theorem rowS_at : ∀ (ts : List St) (i : Nat) (t : St), ts[i]? = some t → ∀ (j : Nat) (u : Value), t.cells[j]? = some u → (rowS ts)[i * 5 + j]? = some u
  | x :: ts, 0, t, h, j, u, hu => by
    obtain rfl : x = t := by simpa using h
    rw [rowS_cons, Nat.zero_mul, Nat.zero_add]
    match j, hu with
    | 0, hu => exact hu
    | 1, hu => exact hu
    | 2, hu => exact hu
    | 3, hu => exact hu
    | 4, hu => exact hu
    | j + 5, hu => simp [St.cells] at hu
  | x :: ts, i + 1, t, h, j, u, hu => by
    have := rowS_at ts i t (by simpa using h) j u hu
    rw [rowS_cons, show (i + 1) * 5 + j = i * 5 + j + 1 + 1 + 1 + 1 + 1 by omega]
    simp only [List.getElem?_cons_succ]
    exact this
theorem rowS_one (ts : List St) : ∀ u ∈ rowS ts, u.oneCell' = true := by
  intro u hu
  simp only [rowS, List.mem_flatten, List.mem_map] at hu
  obtain ⟨l, ⟨t, _, rfl⟩, hu⟩ := hu
  simp only [St.cells, List.mem_cons, List.not_mem_nil, or_false] at hu
  rcases hu with rfl | rfl | rfl | rfl | rfl <;> rfl
def Times (w : World) (A : Option Addr) (ts : List St) : Prop :=
  0 < ts.length → ∃ b, A = some ⟨b, 0, none⟩ ∧ b < w.heap.size ∧ ∀ (j : Nat) (u : Value), (rowS ts)[j]? = some u → w.cell? ⟨b, j, none⟩ = some u
theorem Times.made (w : World) (ts : List St) : Times (w.alloc (.cells (rowS ts).toArray 49)) (some ⟨w.heap.size, 0, none⟩) ts := fun _ => by
  have h : Row (w.alloc (.cells (rowS ts).toArray 49)) w.heap.size 49 (rowS ts) := Row.made w _ _
  exact ⟨_, rfl, h.lt, fun j u hu => (h.cell j).trans hu⟩
theorem Times.of_own {w : World} {base : Nat} {v : Value} {n : Nat} {ts : List St} (h : w.ownsRow base 49 5 v n (rowS ts)) :
    ∃ A c, v = .slice A ts.length c ∧ Times w A ts ∧ ts.length ≤ c ∧ c ≤ maxLen := by
  have hl : ts.length = n := by have := h.1; rw [rowS_len] at this; omega
  obtain ⟨_, ⟨rfl, h0⟩ | ⟨g, cap, cur, rfl, _, hh, h1, h2, _, ht⟩⟩ := id h
  · exact ⟨none, 0, by rw [hl, h0], fun hn => by omega, by omega, by simp⟩
  · refine ⟨some ⟨g, 0, none⟩, cap, by rw [hl], fun _ => ⟨g, rfl, ?_, fun j u hj => ?_⟩, by omega, h2⟩
    · by_cases hg : g < w.heap.size
      · exact hg
      · rw [Array.getElem?_eq_none (by omega)] at hh; cases hh
    · have := h.cells (g := g) rfl j u hj
      rwa [add_zero_off] at this
theorem own_apart {w : World} {base : Nat} {v : Value} {n b : Nat} {xs l : List Value} {t : TypeId} (h : w.ownsRow base 49 5 v n xs) (hr : Row w b t l) (ht : t ≠ 49) : some b ≠ v.ownBlock := by
  obtain ⟨_, ⟨rfl, _⟩ | ⟨g, cap, cur, rfl, _, hh, _⟩⟩ := h
  · intro e; cases e
  · intro e
    injection e with e
    subst e
    unfold Row at hr
    rw [hr] at hh; injection hh with hh; injection hh with _ ht'; exact ht ht'
theorem own_belowS {w0 w w' : World} {base n : Nat} {v : Value} {xs : List Value} (h : w.ownsRow base 49 5 v n xs) (hg : w.grownBy w' v.ownBlock) (hb : Below base w0 w) (hB : base ≤ w.heap.size) : Below base w0 w' :=
  hb.grown hg hB (fun k e => (h.lt k e).1)
theorem wpList_append_times {w : World} {ops : Array Oper} {rest : List Oper} {o : Oper} {a : Act} {Q : Exit → Act → World → Prop} (hgd : o.guard = none) (s x : Operand)
    (ho : o.op = .call { callee := .builtin .append, args := #[s, x], argTypes := #[51, 51] })
    (base : Nat) (v : Value) (n : Nat) (ts : List St) (hs : a.eval s = v) (hown : w.ownsRow base 49 5 v n (rowS ts))
    (ad : Addr) (c : Nat) (ys : List St) (hx : a.eval x = .slice (some ad) ys.length c) (hy : 0 < ys.length) (hb : Times w (some ad) ys)
    (hle : n + ys.length ≤ 5000000) (hbase : base ≤ w.heap.size)
    (h : ∀ v' w', w'.ownsRow base 49 5 v' (n + ys.length) (rowS (ts ++ ys)) → w.grownBy w' v.ownBlock → wpList Tryz.prog ops Q rest (a.put o.dst v') w') : wpList Tryz.prog ops Q (o :: rest) a w := by
  obtain ⟨i, hi, hz0, hz1, hz2⟩ := info_parts Tryz.infoStamp
  obtain ⟨b, e, _, hcell⟩ := hb hy
  cases e
  refine wpList_append_own w hgd s x 51 ho base 49 i _ 5 40 Tryz.underlying51 hi hz0 hz1 hz2 rfl (by omega) v n (rowS ts) hs hown ⟨b, 0, none⟩ ys.length c (rowS ys) hx (rowS_len ys) ?_ (rowS_one ys) (by unfold maxLen; omega) (by omega) hbase ?_
  · intro j u hj
    rw [add_zero_off]; exact hcell j u hj
  · intro v' w' h1 h2 _
    exact h v' w' (by rw [rowS_append]; exact h1) h2
end

section
open Go.ChangeShapes Go.WideShapes Go.ChangeAt Go.RowKit Go.BigFrame Go.ChangeMaps Go.MapKept
set_option maxRecDepth 100000
structure Touch (F : Nat → Prop) (w w' : World) : Prop where
  os : w'.os = w.os
  tape : w'.tape = w.tape
  output : w'.output = w.output
  size : w.heap.size ≤ w'.heap.size
  block : ∀ k, k < w.heap.size → ¬ F k → w'.heap[k]? = w.heap[k]?
section
variable {F F' : Nat → Prop} {w w' w'' : World}
theorem Touch.refl (F : Nat → Prop) (w : World) : Touch F w w := ⟨rfl, rfl, rfl, Nat.le_refl _, fun _ _ _ => rfl⟩
theorem Touch.trans' (h : Touch F w w') (k : Touch F' w' w'') (hF : ∀ i, F' i → F i ∨ w.heap.size ≤ i) : Touch F w w'' :=
  ⟨k.os.trans h.os, k.tape.trans h.tape, k.output.trans h.output, Nat.le_trans h.size k.size, fun i hi hn =>
    (k.block i (Nat.lt_of_lt_of_le hi h.size) (fun e => (hF i e).elim hn (by omega))).trans (h.block i hi hn)⟩
theorem Touch.trans (h : Touch F w w') (k : Touch F w' w'') : Touch F w w'' := h.trans' k fun _ h => .inl h
theorem Touch.drew (h : Touch F w w') : Touch F w w'.drew := ⟨h.os, h.tape, h.output, h.size, h.block⟩
theorem Touch.setCell (h : Touch F w w') {p : Addr} (hp : F p.block ∨ w.heap.size ≤ p.block) (u : Value) : Touch F w (w'.setCell p u) :=
  ⟨h.os, h.tape, h.output, by simpa using h.size, fun i hi hn => (Below.heap_setCell w' p u i (fun e => by subst e; exact hp.elim hn (by omega))).trans (h.block i hi hn)⟩
theorem Touch.of_below (h : Below w.heap.size w w') : Touch F w w' := ⟨h.os, h.tape, h.output, h.size, fun i hi _ => h.block i hi⟩
theorem Touch.below (h : Touch F w w') {B : Nat} (hF : ∀ i, F i → B ≤ i) (hB : B ≤ w.heap.size) : Below B w w' := ⟨h.os, h.tape, h.output, h.size, fun i hi => h.block i (by omega) fun e => by have := hF i e; omega⟩
theorem Row.touch {g : Nat} {t : TypeId} {l : List Value} (h : Row w g t l) (ht : Touch F w w') (hg : ¬ F g) : Row w' g t l := (ht.block g h.lt hg).trans h
theorem ownsRow_touch {base : Nat} {e : TypeId} {size : Nat} {v : Value} {n : Nat} {xs : List Value} (h : w.ownsRow base e size v n xs) (ht : Touch F w w') (hv : ∀ k, v.ownBlock = some k → ¬ F k) : w'.ownsRow base e size v n xs := by
  have hlt := h.lt
  obtain ⟨hlen, h | ⟨g, cap, cur, rfl, hg, hh, h1, h2, h3, h4⟩⟩ := h
  · exact ⟨hlen, .inl h⟩
  · exact ⟨hlen, .inr ⟨g, cap, cur, rfl, hg, (ht.block g (hlt g rfl).2 (hv g rfl)).trans hh, h1, h2, h3, h4⟩⟩
end
end

section
open Go.ChangeShapes Go.WideShapes Go.ChangeAt Go.RowKit Go.BigFrame
set_option maxRecDepth 100000
structure BodyS (wz w' : World) (F i : Nat) (g : List Nd) (R : List Value) (s : Sl) : Prop where
  rows : RowsAt w' wz.heap.size g i s
  row : Row w' F 143 ((R.set (i * 5 + 4) s.v).set (i * 5 + 3) (.int .u32 1))
  touch : Touch (fun b => b = F) wz w'
theorem touch_cell {F : Nat} {w w' : World} {b o : Nat} {v : Value} (h : Touch (fun b => b = F) w w') (hc : w.cell? ⟨b, o, none⟩ = some v) (hne : b ≠ F) : w'.cell? ⟨b, o, none⟩ = some v := by
  have hlt := World.block_lt_of_cell? w ⟨b, o, none⟩ hc
  exact (World.cell?_of_block (a := ⟨b, o, none⟩) (h.block b hlt hne)).trans hc
set_option maxHeartbeats 16000000 in
theorem body_any (wz : World) (bp bi bf p F i : Nat) (A : Option Addr) (c : Nat) (lg : List Gn) (hp : wz.cell? ⟨bp, 0, none⟩ = some (.pointer (some ⟨p, 0, none⟩))) (hi : wz.cell? ⟨bi, 0, none⟩ = some (.int .i64 (i : Nat))) (hf : wz.cell? ⟨bf, 0, none⟩ = some (.pointer (some ⟨F, i * 5, none⟩)))
    (hg : wz.cell? ⟨p, 0, none⟩ = some (.slice A lg.length c)) (hG : Gr wz A lg) (hil : i < lg.length) (hl : lg.length ≤ 14) (hI : ∀ x ∈ nds lg, x.ins.length ≤ 40) (hF : Fine (nds lg)) (R : List Value) (hR : Row wz F 143 R)
    (h4 : ∃ v, R[i * 5 + 4]? = some v) (h3 : R[i * 5 + 3]? = some (.int .u32 0)) (hne : bf ≠ F) :
    Calls Tryz.prog 87 #[.pointer (some ⟨bp, 0, none⟩), .pointer (some ⟨bi, 0, none⟩), .pointer (some ⟨bf, 0, none⟩)] wz fun e w' => e = .returned (.tuple #[]) ∧ ∃ s, BodyS wz w' F i (nds lg) R s := by
  obtain ⟨v4, hv4⟩ := h4
  have hr := fun w5 (h5 : Below wz.heap.size wz w5) => reach_any A lg c i w5 (hG.below h5) hil hl hI hF
  have lp := World.block_lt_of_cell? wz _ hp; have li := World.block_lt_of_cell? wz _ hi; have lf := World.block_lt_of_cell? wz _ hf; have lg' := World.block_lt_of_cell? wz _ hg
  simp only at lp li lf lg'
  have lF := hR.lt
  have HR := Lib.hid hr; have HROW := Lib.hid hR; have HV4 := Lib.hid hv4; have HV3 := Lib.hid h3; have HNE := Lib.hid hne; have HHF := Lib.hid hf
  clear hr hR hv4 h3 hG hI hF hne
  go_enter Tryz.func87, Tryz.ntmps87
  go_upto_region 0 with fail
  go_cut [] from 3 to 9 (fun wx => ∃ s, RowsAt wx wz.heap.size (nds lg) i s ∧ Row wx F 143 (R.set (i * 5 + 4) s.v) ∧ Touch (fun b => b = F) wz wx)
  case first =>
    go_region_with (go_at_call 88; refine (HR.out _ (Below.refl _ _).drew).mono ?_; rintro e w5 ⟨⟨B5, T5, D5, vs5, rfl, htt5, hrun5⟩, hb5⟩; have g5 : w5.cell? ⟨bf, 0, none⟩ = some (.pointer (some ⟨F, i * 5, none⟩)) := (hb5.cell (p := ⟨bf, 0, none⟩) lf).trans (show wz.drew.cell? ⟨bf, 0, none⟩ = _ from HHF.out); have r5 : Row w5 F 143 R := HROW.out.drew.below hb5 lF; have c5 : w5.cell? ⟨F, i * 5 + 4, none⟩ = some v4 := (r5.cell _).trans HV4.out; have f5 : w5.frozen? ⟨F, i * 5 + 4, none⟩ = false := r5.free _)
    all_goals
      have HB5 := Lib.hid (And.intro htt5 (And.intro hrun5 (And.intro hb5 r5))); clear htt5 hrun5 hb5 r5 c5 f5 g5
      go_wp2_with fail
      go_meet
      obtain ⟨htt5, hrun5, hb5, r5⟩ := HB5.out
      refine ⟨⟨some ⟨B5, 0, none⟩, (nds lg).length, (nds lg).length⟩, RowsAt.stays ⟨B5, T5, D5, vs5, rfl, htt5, hrun5⟩ (Stays.far lF), r5.put _ _, ?_⟩
      have ht : Touch (fun b => b = F) wz w5 := ⟨hb5.os, hb5.tape, hb5.output, hb5.size, fun k hk _ => hb5.block k hk⟩
      exact ht.setCell (.inl rfl) _
  case rest =>
    obtain ⟨s, hrows, hrow, ht⟩ := hcut
    have hf2 := touch_cell ht HHF.out HNE.out
    have hc3 : wc.cell? ⟨F, i * 5 + 3, none⟩ = some (.int .u32 0) := by
      rw [hrow.cell, List.getElem?_set_ne (by omega)]; exact HV3.out
    have hst := fun wy (h : wy = wc) => flag_store ⟨F, i * 5 + 3, none⟩ (.int .u32 0) wy (by rw [h]; exact hc3) (by rw [h]; exact hrow.free _)
    have HS := Lib.hid (And.intro hrows (And.intro hrow ht)); have HST := Lib.hid hst; clear hrows hrow ht hst hc3 hp hi hg hf
    go_wp2_with fail
    refine (HST.out _ rfl).mono ?_; rintro e w6 ⟨rfl, rfl⟩
    dsimp only
    go_wp2_with fail
    first | go_end0 | go_ret
    obtain ⟨hrows, hrow, ht⟩ := HS.out
    exact ⟨rfl, s, hrows.stays (Stays.far lF), hrow.put _ _, (ht.drew).setCell (.inl rfl) _⟩
end
end Go.Proofs.YtmhophmpbpbjaaaGreatDoor
