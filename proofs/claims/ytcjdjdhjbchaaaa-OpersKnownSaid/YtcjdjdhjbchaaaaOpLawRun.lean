/- OpersRun: what any node makes of any rows is the document's; they stay. (Not whole yet: gen_oprun3.py.) -/
import Derived.Test.YtcjdjdhjbchaaaaCa25
import Derived.Test.YtcjdjdhjbchaaaaCa26
import Derived.Test.YtcjdjdhjbchaaaaCa9
import Derived.Test.YtcjdjdhjbchaaaaCa21
import Derived.Test.YtcjdjdhjbchaaaaOpFew
import Derived.Test.YtcjdjdhjbchaaaaOpRunOwn
import Derived.Test.YtcjdjdhjbchaaaaOpRefRun
import Derived.Laws.OwnMore
import Derived.SizedLaws
namespace Go.Proofs.Ytcjdjdhjbchaaaa
open Go.ChangeShapes Go.WideShapes Go.ChangeAt Go.RowKit Go.BigFrame
open Vr _root_.Go.Proofs.Ytcjdjdhjbchaaaa.Op
set_option linter.unusedVariables false
set_option maxRecDepth 100000
namespace opersRun
theorem refWaits_w (k : Nat) (b : Bool) (h : waitsB k = b) (w : World) : Calls Try.prog 18 #[.int .u8 (k : Nat)] w fun e w' => e = .returned (.bool b) ∧ Below w.heap.size w w' := (refWaits_any k w).mono fun e w' ⟨he, hw⟩ => by subst hw h; exact ⟨he, Below.refl _ _⟩
theorem own_len {w : World} {base n : Nat} {v : Value} {l : List Rd} (h : w.ownsRow base 36 kindR.K v n (Rw.row kindR l)) : l.length = n := by
  have := h.1; rw [Rw.row_len] at this
  exact Nat.eq_of_mul_eq_mul_right kindR.pos this
theorem own_at {w : World} {base n c : Nat} {A : Option Addr} {xs : List Value} {T : TypeId} (h : w.ownsRow base T kindR.K (.slice A n c) n xs) (hn : 0 < n) : ∃ g, base ≤ g ∧ A = some ⟨g, 0, none⟩ := by
  rcases h.2 with ⟨h', _⟩ | ⟨g', cap', cur, h', hb, _⟩
  · cases h'; omega
  · cases h'; exact ⟨g', hb, rfl⟩
theorem row_set {l : List Rd} {i : Nat} {r : Rd} {x : Int} (h : l[i]? = some r) : (Rw.row kindR l).set (i * 2) (.int .i64 x) = Rw.row kindR (l.set i ⟨x, r.v⟩) := by
  induction l generalizing i with
  | nil => simp at h
  | cons y l ih =>
    cases i with
    | zero =>
      simp only [List.getElem?_cons_zero, Option.some.injEq] at h
      subst h
      simp only [List.set_cons_zero, Rw.row_cons]
      rfl
    | succ i =>
      simp only [List.getElem?_cons_succ] at h
      rw [List.set_cons_succ, Rw.row_cons, Rw.row_cons, ← ih h, show (i + 1) * 2 = i * 2 + 1 + 1 by omega]
      rfl
theorem infoRows : (Try.prog.info? 28).map (fun i => (i.zero, i.size, i.bytes)) = some (some (.slice none 0 0), 1, 24) := by kernel_rfl
/-- rows, each one of the call's own -/
def Owns (base : Nat) (M : List Rr) (w : World) : Prop := ∀ q ∈ M, w.ownsRow base 36 kindR.K q.val q.ts.length (Rw.row kindR q.ts)
theorem Owns.below {base : Nat} {M : List Rr} {w w' : World} (h : Owns base M w) (hb : Below w.heap.size w w') : Owns base M w' := fun q hq => Rw.own_kept (h q hq) hb
/-- nothing but the outer row is written to -/
theorem Owns.grown {base base' : Nat} {M : List Rr} {w w' : World} {v : Value} {n : Nat} {xs : List Value} (h : Owns base M w) (ho : w.ownsRow base' 28 kindRR.K v n xs) (hg : w.grownBy w' v.ownBlock) : Owns base M w' := fun q hq =>
  (h q hq).kept hg (Rw.own_apart2 ho (h q hq) (by decide))
theorem kept_nil {base n : Nat} {T : TypeId} {K : Nat} {v : Value} {xs : List Value} {w w' : World} (h : w.ownsRow base T K v n xs) (hg : w.grownBy w' (Value.slice none 0 0).ownBlock) : w'.ownsRow base T K v n xs :=
  h.kept hg (by rw [show (Value.slice none 0 0).ownBlock = none from rfl]; cases v.ownBlock <;> simp)
theorem Owns.nil {base : Nat} {w : World} : Owns base [] w := fun q hq => by simp at hq
theorem Owns.more {base : Nat} {M : List Rr} {w : World} {q : Rr} (h : Owns base M w) (hq : w.ownsRow base 36 kindR.K q.val q.ts.length (Rw.row kindR q.ts)) : Owns base (M ++ [q]) w := fun p hp => by
  rcases List.mem_append.1 hp with h1 | h1
  · exact h p h1
  · simp only [List.mem_singleton] at h1; subst h1; exact hq
theorem Owns.ok {base : Nat} {M : List Rr} {w : World} (h : Owns base M w) : ∀ q ∈ M, q.Ok w := fun q hq => by
  obtain ⟨A, c, e, hT, hn, _⟩ := own_ts (h q hq)
  obtain ⟨QA, ts, qc⟩ := q
  injection e with e1 e2 e3
  subst e1 e3
  exact ⟨hT, hn⟩
theorem rowsIn {base : Nat} {M : List Rr} {w : World} {v : Value} (ho : w.ownsRow base 28 kindRR.K v M.length (Rw.row kindRR M)) (h : Owns base M w) : ∃ A c, v = .slice A M.length c ∧ Op.RowsIn w A M := by
  obtain ⟨A, c, e, hT, _⟩ := Rw.Ts.of_own ho
  exact ⟨A, c, e, hT, h.ok⟩
set_option maxHeartbeats 4000000 in
theorem walk (n : Nd) (NA : Option Addr) (nm nc : Nat) (hn : NodeOk n) (A : Option Addr) (L : List Rr) (c : Nat) (w : World) (hR : Op.RowsIn w A L) (hW : ∀ q ∈ L, ∀ r ∈ q.ts, r.W) :
    Calls Try.prog 3 #[nodeV n NA nm nc, .slice A L.length c] w fun e w' => e = .returned (.bool true) ∧ Below w.heap.size w w' := by
  have hb1 := (Below.refl _ w).alloc (Nat.le_refl _) (.cells #[.int .u8 (n.k : Nat), .int .u8 (n.a : Nat), .int .i64 n.b, .int .i64 n.d, .slice NA nm nc] 24)
  have hbx := node_box w n NA nm nc
  have HF := Lib.hid (few_any A L c _ (hR.below hb1))
  have HR := Lib.hid hR; have HW := Lib.hid hW; have HB1 := Lib.hid hb1; have HBX := Lib.hid hbx; have HNO := Lib.hid hn; clear hR hW hb1 hbx hn
  go_enter Try.func3, Try.ntmps3
  go_wp2_with fail
  refine HF.out.mono ?_; rintro e w2 ⟨b, rfl, hf, hb2⟩
  have h1 := HB1.out.trans (hb2.mono HB1.out.size); have h2 := HBX.out.below hb2 HBX.out.lt
  have HB2 := Lib.hid h1; have HBX2 := Lib.hid h2; clear h1 h2 hb2 HB1 HBX HF
  dsimp only
  cases b with
  | false =>
    clear hf
    go_wp2_with fail
    refine (works_any _).mono ?_; rintro e w9 ⟨rfl, hb9⟩
    dsimp only
    go_wp2_with fail
    go_ret
    exact ⟨rfl, HB2.out.trans (hb9.mono HB2.out.size)⟩
  | true =>
    obtain ⟨hl4, h60⟩ := hf rfl
    have H60 := Lib.hid h60; clear hf h60
    go_wp2_with fail
    go_loopw [5, 6] (fun fv vi wr => ∃ (i : Nat) (M : List Rr), i ≤ L.length ∧ vi = .int .i64 i ∧ M.length = i ∧ M.map Rr.ts = (L.take i).map Rr.ts ∧ wr.ownsRow w2.heap.size 28 kindRR.K fv M.length (Rw.row kindRR M) ∧ Owns w2.heap.size M wr ∧ Below w2.heap.size w2 wr) (fun _ vi _ => L.length - (intOf vi).toNat)
    case atStart => exact ⟨0, [], by omega, rfl, rfl, rfl, World.ownsRow_nil _ _ _ _, Owns.nil, Below.refl _ _⟩
    case round =>
      obtain ⟨i, M, hi, rfl, hml, hmt, ho, hm, hb0⟩ := hrel
      have HO := Lib.hid ho; have HM := Lib.hid hm; have HBR := Lib.hid hb0; have HMT := Lib.hid hmt; clear ho hm hb0 hmt
      by_cases hlt : i < L.length
      · have hltz : (i : Int) < (L.length : Int) := by omega
        obtain ⟨r0, hr0⟩ : ∃ r0, L[i]? = some r0 := ⟨_, List.getElem?_eq_getElem hlt⟩
        have hbw := HB2.out.trans (HBR.out.mono HB2.out.size)
        obtain ⟨hT0, hN0⟩ := HR.out.ok r0 (List.mem_of_getElem? hr0)
        have h60 := H60.out r0 (List.mem_of_getElem? hr0)
        obtain ⟨bR, oR, rfl, _, hcR⟩ := HR.out.at_ hr0
        have hst : (L.take (i + 1)).map Rr.ts = (L.take i).map Rr.ts ++ [r0.ts] := by rw [List.take_add_one, hr0, List.map_append]; rfl
        obtain ⟨RA, ts, rc⟩ := r0
        simp only at hT0 hN0 h60 hcR hst
        have q0 := hcR wr hbw
        have HT0 := Lib.hid (hT0.below hbw); have HN0 := Lib.hid hN0; have HST := Lib.hid hst
        have HSZ := Lib.hid HBR.out.size
        clear hT0 hN0 hst hcR hbw hr0
        go_wp2_with (at_builtin; first | (refine Rw.append_own kindR 36 28 Try.underlying28 infoRec rfl rfl _ _ rfl w2.heap.size _ 0 [] rfl (World.ownsRow_nil _ _ _ _) _ _ ts rfl HN0.out HT0.out (by unfold maxLen; omega) (by omega) HSZ.out ?_; intro v1 w6 hv1 hg1; have hb6 := Rw.own_below (World.ownsRow_nil wr w2.heap.size 36 kindR.K) hg1 HBR.out HSZ.out; have ho6 := kept_nil HO.out hg1; have hw6 : Owns w2.heap.size M w6 := fun q hq => kept_nil (HM.out q hq) hg1; have HV1 : Hid (w6.ownsRow w2.heap.size 36 kindR.K v1 ts.length (Rw.row kindR ts)) := Lib.hid (by simpa using hv1); have HB6 := Lib.hid hb6; have HO6 := Lib.hid ho6; have HM6 := Lib.hid hw6; clear hv1 hg1 hb6 ho6 hw6 q0; obtain ⟨A1, c1, e1, _⟩ := own_ts HV1.out; subst e1) | (refine Rw.append_own kindRR 28 25 Try.underlying25 infoRows rfl rfl _ _ rfl w2.heap.size _ M.length M rfl (HO6.out.alloc _) _ 1 [(⟨A1, ts, c1⟩ : Rr)] rfl (by simp) (Rw.Ts.made _ [(⟨A1, ts, c1⟩ : Rr)] _) (by unfold maxLen; simp; omega) (by simp; omega) (by have := HB6.out.size; simp; omega) ?_; intro v2 w7 hv2 hg2; have hb7 := Rw.own_below (HO6.out.alloc _) hg2 (HB6.out.alloc HB6.out.size _) (by have := HB6.out.size; simp; omega); have hm7 : Owns w2.heap.size (M ++ [(⟨A1, ts, c1⟩ : Rr)]) w7 := Owns.grown (Owns.more (fun q hq => (HM6.out q hq).alloc _) (HV1.out.alloc _)) (HO6.out.alloc _) hg2; have HV7 : Hid (w7.ownsRow w2.heap.size 28 kindRR.K v2 (M ++ [(⟨A1, ts, c1⟩ : Rr)]).length (Rw.row kindRR (M ++ [(⟨A1, ts, c1⟩ : Rr)]))) := Lib.hid (by rw [List.length_append]; exact hv2); have HB7 := Lib.hid hb7; have HM7 := Lib.hid hm7; clear hv2 hg2 hb7 hm7))
        go_roundw
        case rel => exact ⟨i + 1, M ++ [(⟨A1, ts, c1⟩ : Rr)], by omega, by simp, by rw [List.length_append, hml]; rfl, by rw [List.map_append, HMT.out, HST.out]; rfl, HV7.out, HM7.out, HB7.out⟩
        case measure => simp only [intOf]; omega
      · have hil : i = L.length := by omega
        subst hil
        have hmt := HMT.out
        rw [List.take_length] at hmt
        obtain ⟨MA, mc, rfl, hRM⟩ := rowsIn HO.out HM.out
        obtain ⟨ls, hls⟩ : ∃ ls, L.map Rr.ts = ls := ⟨_, rfl⟩
        rw [hls] at hmt
        have hIM : InV wr (.slice MA M.length mc) ls := ⟨MA, mc, M, by rw [← hmt, List.length_map], hRM, hmt⟩
        have hIL : InV wr (.slice A L.length c) ls := ⟨A, c, L, by rw [← hls, List.length_map], HR.out.below (HB2.out.trans (HBR.out.mono HB2.out.size)), hls⟩
        have hll : ls.length ≤ 4 := by rw [← hls, List.length_map]; exact hl4
        have hWl : ∀ l ∈ ls, ∀ r ∈ l, r.W := fun l hl => by
          rw [← hls] at hl
          obtain ⟨q, hq, rfl⟩ := List.mem_map.1 hl
          exact HW.out q hq
        have hl6 : ∀ l ∈ ls, l.length ≤ 200 := fun l hl => by
          rw [← hls] at hl
          obtain ⟨q, hq, rfl⟩ := List.mem_map.1 hl
          have := H60.out q hq; omega
        have h1 := run_own n NA nm nc hIM HNO.out.k HNO.out.a HNO.out.b HNO.out.d (by omega) hWl hl6
        have h2 := fun w' (hb' : Below wr.heap.size wr w') => refRun_v n NA nm nc (hIL.below hb') HNO.out.k HNO.out.a HNO.out.b (by omega) hl6
        have hrl : (runR n ls).length ≤ 100000 := by
          unfold runR
          split
          · rename_i he
            rw [sortR_perm.length_eq]
            rcases errR_cases n ls.length with ⟨e, _⟩ | ⟨e, _⟩ | ⟨_, _, hw⟩
            · omega
            · omega
            · exact makes_len hw hl6
          · simp
        have hbn := HBX2.out.below HBR.out HBX2.out.lt
        have H1 := Lib.hid h1; have H2 := Lib.hid h2; have HMT2 := Lib.hid hmt; have HLS := Lib.hid hls; have HRM := Lib.hid hRM; have HBN := Lib.hid hbn; have HLM := Lib.hid hml
        generalize runR n ls = X at *
        generalize errR n ls.length = E at *
        obtain ⟨n0, n1, n2, n3, n4⟩ := cells5 hbn
        have hbw := HB2.out.trans (HBR.out.mono HB2.out.size)
        have HBW := Lib.hid hbw; have HRL := Lib.hid hrl; have HLM0 := Lib.hid hml; have HL4 := Lib.hid hl4
        clear h1 h2 hmt hls hRM hbn hIM hIL hWl hl6 HMT hbw hrl hml hll hl4 hi hlt HO HM HLM
        go_wp2_with fail
        refine H1.out.mono ?_; rintro e w3 ⟨⟨v3, rfl, hr3⟩, hb3⟩
        have hbn := HBN.out.below hb3 HBN.out.lt
        have HBN3 := Lib.hid hbn; have HB3 := Lib.hid hb3; have HR3 := Lib.hid hr3
        clear n0 n1 n2 n3 n4 hr3 hb3 HBN H1
        obtain ⟨n0, n1, n2, n3, n4⟩ := cells5 hbn
        clear hbn
        dsimp only
        go_wp2_with fail
        refine (H2.out _ HB3.out).mono ?_; rintro e w4 ⟨⟨v4, rfl, hr4⟩, hb4⟩
        have hbn := HBN3.out.below hb4 HBN3.out.lt
        have HBN4 := Lib.hid hbn; have HB4 := Lib.hid (HB3.out.trans (hb4.mono HB3.out.size)); have HR4 := Lib.hid hr4; have HR34 := Lib.hid (Rw.own_kept HR3.out hb4)
        clear n0 n1 n2 n3 n4 hr4 hb4 HBN3 H2 hbn HR3
        dsimp only
        go_upto_region 11 with fail
        have hal := fun w' (hb : Below w4.heap.size w4 w') => alike_v ((RowV.own HR34.out).below hb) (HR4.out.below hb) HRL.out HRL.out
        simp only [sameR_self] at hal
        have HAL := Lib.hid hal; clear hal
        have HL8 : Hid (∀ w', Below w4.heap.size w4 w' → (Instr.loadAt 5 (.pointer (some ⟨w.heap.size, 0, none⟩))).run Try.prog w' = .ok (.int .u8 (n.k : Nat)) w') := Lib.hid fun w' hb => by
          have hc := (HBN4.out.below hb HBN4.out.lt).cell 0
          simp only [List.getElem?_cons_zero] at hc
          go_simp
        have HW1 := Lib.hid (fun w' => waits_w n.k (waitsB n.k) rfl w')
        have HW2 := Lib.hid (fun w' => refWaits_w n.k (waitsB n.k) rfl w')
        generalize waitsB n.k = wb at *
        refine wp_region_below (by kernel_rfl) (by kernel_rfl) ?_
        refine wpQuiet_step (fun K hK => ?_); go_simp; (first | (with_reducible refine hK _ ?_) | (with_reducible refine ⟨_, fun _ _ => rfl, hK _ ?_⟩)); clear hK K
        refine wpQuiet_step (fun K hK => ?_); go_simp; (first | (with_reducible refine hK _ ?_) | (with_reducible refine ⟨_, fun _ _ => rfl, hK _ ?_⟩)); clear hK K
        refine wpQuiet_step (fun K hK => ?_); go_simp; (first | (with_reducible refine hK _ ?_) | (with_reducible refine ⟨_, fun _ _ => rfl, hK _ ?_⟩)); clear hK K
        refine wpQuiet_step (fun K hK => ?_); go_simp; (first | (with_reducible refine hK _ ?_) | (with_reducible refine ⟨_, fun _ _ => rfl, hK _ ?_⟩)); clear hK K
        refine wpQuiet_step (fun K hK => ?_); go_simp; (first | (with_reducible refine hK _ ?_) | (with_reducible refine ⟨_, fun _ _ => rfl, hK _ ?_⟩)); clear hK K
        refine wpQuiet_step (fun K hK => ?_); go_simp; (first | (with_reducible refine hK _ ?_) | (with_reducible refine ⟨_, fun _ _ => rfl, hK _ ?_⟩)); clear hK K
        refine wpQuiet_step (fun K hK => ?_); go_simp; (with_reducible refine ⟨_, fun _ hb => (HAL.out _ hb).mono fun _ _ h => ⟨h.1, hb.trans (h.2.mono (by simpa using hb.size))⟩, hK _ ?_⟩); clear hK K
        refine wpQuiet_step (fun K hK => ?_); go_simp; (first | (with_reducible refine hK _ ?_) | (with_reducible refine ⟨_, fun _ _ => rfl, hK _ ?_⟩)); clear hK K
        refine wpQuiet_step (fun K hK => ?_); go_simp; (first | (with_reducible refine hK _ ?_) | (with_reducible refine ⟨_, fun _ _ => rfl, hK _ ?_⟩)); clear hK K
        refine wpQuiet_step (fun K hK => ?_); go_simp; (first | (with_reducible refine hK _ ?_) | (with_reducible refine ⟨_, fun _ _ => rfl, hK _ ?_⟩)); clear hK K
        refine wpQuiet_step (fun K hK => ?_); go_simp; (first | (with_reducible refine hK _ ?_) | (with_reducible refine ⟨_, fun _ _ => rfl, hK _ ?_⟩)); clear hK K
        refine wpQuiet_step (fun K hK => ?_); refine q_load (p := .pointer (some ⟨w.heap.size, 0, none⟩)) 5 _ rfl rfl rfl (HL8.out) ?_; go_simp; (with_reducible refine hK _ ?_); clear hK K
        refine wpQuiet_step (fun K hK => ?_); go_simp; (with_reducible refine ⟨_, fun _ hb => (HW1.out _).mono fun _ _ h => ⟨h.1, hb.trans (h.2.mono (by simpa using hb.size))⟩, hK _ ?_⟩); clear hK K
        refine wpQuiet_step (fun K hK => ?_); go_simp; (first | (with_reducible refine hK _ ?_) | (with_reducible refine ⟨_, fun _ _ => rfl, hK _ ?_⟩)); clear hK K
        refine wpQuiet_step (fun K hK => ?_); refine q_load (p := .pointer (some ⟨w.heap.size, 0, none⟩)) 5 _ rfl rfl rfl (HL8.out) ?_; go_simp; (with_reducible refine hK _ ?_); clear hK K
        refine wpQuiet_step (fun K hK => ?_); go_simp; (with_reducible refine ⟨_, fun _ hb => (HW2.out _).mono fun _ _ h => ⟨h.1, hb.trans (h.2.mono (by simpa using hb.size))⟩, hK _ ?_⟩); clear hK K
        refine wpQuiet_step (fun K hK => ?_); go_simp; (first | (with_reducible refine hK _ ?_) | (with_reducible refine ⟨_, fun _ _ => rfl, hK _ ?_⟩)); clear hK K
        refine wpQuiet_step (fun K hK => ?_); go_simp; (first | (with_reducible refine hK _ ?_) | (with_reducible refine ⟨_, fun _ _ => rfl, hK _ ?_⟩)); clear hK K
        refine wpQuiet_nil ?_
        intro w5 hb5
        --MARK1
        obtain ⟨wA, rfl⟩ : ∃ wo, wo = wr := ⟨_, rfl⟩
        have h1 := Rw.own_kept HR34.out hb5
        have h2 := HB4.out.trans (hb5.mono HB4.out.size)
        have HR5 := Lib.hid h1; have HB5 := Lib.hid h2
        clear h1 h2 hb5 HR34 HB4 HR4 HAL HL8 HW1 HW2 HBN4
        obtain ⟨A3, c3, rfl, ht3⟩ := own_ts HR5.out
        have HT3 := Lib.hid ht3; clear ht3
        go_wp2_with fail
        go_loopw [12] (fun iv w6 => ∃ (i : Nat) (X' : List Rd), i ≤ X.length ∧ iv = .int .i64 i ∧ w6.ownsRow wA.heap.size 36 kindR.K (.slice A3 X.length c3) X.length (Rw.row kindR X') ∧ Below wA.heap.size wA w6) (fun iv _ => X.length - (intOf iv).toNat)
        case atStart => exact ⟨0, X, by omega, rfl, HR5.out, HB5.out⟩
        case round =>
          obtain ⟨i, X', hi, rfl, ho, hb6⟩ := hrel
          have HO6 := Lib.hid ho; have HB6 := Lib.hid hb6; clear ho hb6
          by_cases hlt : i < X.length
          · have hltz : (i : Int) < (X.length : Int) := by omega
            obtain ⟨g, hg, hA3⟩ := own_at HO6.out (by omega)
            subst hA3
            have hl6 := own_len HO6.out
            obtain ⟨r6, hr6⟩ : ∃ r6, X'[i]? = some r6 := ⟨_, List.getElem?_eq_getElem (by omega)⟩
            have q0 := World.ownsRow.cellAt HO6.out (i * 2) (by show i * 2 < X.length * 2; omega)
            rw [show i * 2 = i * kindR.K + 0 from rfl, Rw.row_at X' i r6 hr6 0 (.int .i64 r6.k) rfl] at q0
            have q1 := World.ownsRow.frozenAt HO6.out (i * 2)
            have hs := World.ownsRow.stored HO6.out (i * 2) (.int .i64 7777)
            rw [row_set hr6] at hs
            have hbs := HB6.out.setCell (p := ⟨g, i * 2, none⟩) hg (.int .i64 7777)
            have HS := Lib.hid hs.1; have HBS := Lib.hid hbs
            clear hs hbs hr6 hl6 hg HO6
            simp only [show kindR.K = 2 from rfl, Nat.add_zero] at q0
            have s1 : IntKind.i64.wrap ((i : Int) + 1) = (i : Int) + 1 := IntWalk.i64_in _ (by have := HRL.out; omega)
            go_wp2_with fail
            go_roundw
            case rel => exact ⟨i + 1, _, by omega, rfl, HS.out, HBS.out⟩
            case measure => simp only [intOf]; omega
          · --MARK2
            have hltz : ¬ (i : Int) < (X.length : Int) := by omega
            clear HR5 HB5 HO6 HT3
            go_wp2_with fail
            clear hlt hltz hi
            go_loopw [13] (fun iv w7 => ∃ i : Nat, i ≤ L.length ∧ iv = .int .i64 i ∧ Below wA.heap.size wA w7) (fun iv _ => L.length - (intOf iv).toNat)
            case atStart => exact ⟨0, by omega, rfl, HB6.out⟩
            case round =>
              obtain ⟨i, hi, rfl, hb7⟩ := hrel
              have HB7 := Lib.hid hb7; clear hb7 HB6
              by_cases hlt : i < L.length
              · have hltz : (i : Int) < (L.length : Int) := by omega
                obtain ⟨rl, hrl⟩ : ∃ r, L[i]? = some r := ⟨_, List.getElem?_eq_getElem hlt⟩
                obtain ⟨rm, hrm⟩ : ∃ r, M[i]? = some r := ⟨_, List.getElem?_eq_getElem (by have := HLM0.out; omega)⟩
                have hts : rm.ts = rl.ts := by
                  have h1 : (M.map Rr.ts)[i]? = (L.map Rr.ts)[i]? := by rw [HMT2.out, HLS.out]
                  rw [List.getElem?_map, List.getElem?_map, hrm, hrl] at h1
                  simpa using h1
                obtain ⟨bL, oL, rfl, hbL, hcL⟩ := HR.out.at_ hrl
                obtain ⟨bM, oM, rfl, hbM, hcM⟩ := HRM.out.at_ hrm
                obtain ⟨hTL, hNL⟩ := HR.out.ok rl (List.mem_of_getElem? hrl)
                obtain ⟨hTM, hNM⟩ := HRM.out.ok rm (List.mem_of_getElem? hrm)
                have h60 := H60.out rl (List.mem_of_getElem? hrl)
                have hbw := HBW.out.trans (HB7.out.mono HBW.out.size)
                obtain ⟨LA, lt, lc⟩ := rl
                obtain ⟨NA2, mt, mc2⟩ := rm
                simp only at hts hTL hNL hTM hNM h60 hcL hcM
                subst hts
                have hTL7 := hTL.below hbw
                have hTM7 := hTM.below HB7.out
                have hal := fun w' (hb : Below wr.heap.size wr w') => alike_any NA2 LA mt mt mc2 lc w' (hTM7.below hb) (hTL7.below hb) (by omega) (by omega)
                simp only [sameR_self] at hal
                have HAI := Lib.hid hal
                have HLM : Hid (∀ w', Below wr.heap.size wr w' → (Instr.loadAt 28 (.pointer (some ⟨bM, oM + i, none⟩))).run Try.prog w' = .ok (.slice NA2 mt.length mc2) w') := Lib.hid fun w' hb => by
                  have hc := hcM w' (HB7.out.trans (hb.mono HB7.out.size))
                  go_simp
                have HLL : Hid (∀ w', Below wr.heap.size wr w' → (Instr.loadAt 28 (.pointer (some ⟨bL, oL + i, none⟩))).run Try.prog w' = .ok (.slice LA mt.length lc) w') := Lib.hid fun w' hb => by
                  have hc := hcL w' (hbw.trans (hb.mono hbw.size))
                  go_simp
                have hml : (i : Int) < (M.length : Int) := by have := HLM0.out; omega
                clear hal hTL7 hTM7 hTL hNL hTM hNM h60 hcL hcM hbw hrl hrm
                have s1 : IntKind.i64.wrap ((i : Int) + 1) = (i : Int) + 1 := IntWalk.i64_in _ (by have := HL4.out; omega)
                go_upto_region 20 with fail
                refine wp_region_below (by kernel_rfl) (by kernel_rfl) ?_
                refine wpQuiet_step (fun K hK => ?_); go_simp; (first | (with_reducible refine hK _ ?_) | (with_reducible refine ⟨_, fun _ _ => rfl, hK _ ?_⟩)); clear hK K
                refine wpQuiet_step (fun K hK => ?_); go_simp; (first | (with_reducible refine hK _ ?_) | (with_reducible refine ⟨_, fun _ _ => rfl, hK _ ?_⟩)); clear hK K
                refine wpQuiet_step (fun K hK => ?_); go_simp; (first | (with_reducible refine hK _ ?_) | (with_reducible refine ⟨_, fun _ _ => rfl, hK _ ?_⟩)); clear hK K
                refine wpQuiet_step (fun K hK => ?_); refine q_load (p := .pointer (some ⟨bM, oM + i, none⟩)) 28 _ rfl rfl rfl (HLM.out) ?_; go_simp; (with_reducible refine hK _ ?_); clear hK K
                refine wpQuiet_step (fun K hK => ?_); go_simp; (first | (with_reducible refine hK _ ?_) | (with_reducible refine ⟨_, fun _ _ => rfl, hK _ ?_⟩)); clear hK K
                refine wpQuiet_step (fun K hK => ?_); go_simp; (first | (with_reducible refine hK _ ?_) | (with_reducible refine ⟨_, fun _ _ => rfl, hK _ ?_⟩)); clear hK K
                refine wpQuiet_step (fun K hK => ?_); go_simp; (first | (with_reducible refine hK _ ?_) | (with_reducible refine ⟨_, fun _ _ => rfl, hK _ ?_⟩)); clear hK K
                refine wpQuiet_step (fun K hK => ?_); refine q_load (p := .pointer (some ⟨bL, oL + i, none⟩)) 28 _ rfl rfl rfl (HLL.out) ?_; go_simp; (with_reducible refine hK _ ?_); clear hK K
                refine wpQuiet_step (fun K hK => ?_); go_simp; (with_reducible refine ⟨_, fun _ hb => (HAI.out _ hb).mono fun _ _ h => ⟨h.1, hb.trans (h.2.mono (by simpa using hb.size))⟩, hK _ ?_⟩); clear hK K
                refine wpQuiet_step (fun K hK => ?_); go_simp; (first | (with_reducible refine hK _ ?_) | (with_reducible refine ⟨_, fun _ _ => rfl, hK _ ?_⟩)); clear hK K
                refine wpQuiet_nil ?_
                intro w8 hb8
                have h8 := HB7.out.trans (hb8.mono HB7.out.size)
                have HB8 := Lib.hid h8
                clear h8 hb8 HAI HLM HLL hml
                go_wp2_with fail
                go_roundw
                case rel => exact ⟨i + 1, by omega, rfl, HB8.out⟩
                case measure => simp only [intOf]; omega
              · have hltz : ¬ (i : Int) < (L.length : Int) := by omega
                have h9 := HBW.out.trans (HB7.out.mono HBW.out.size)
                have HB9 := Lib.hid h9
                clear h9
                go_wp2_with fail
                refine (works_any _).mono ?_; rintro e w9 ⟨rfl, hb9⟩
                dsimp only
                go_wp2_with fail
                go_ret
                exact ⟨rfl, HB9.out.trans (hb9.mono HB9.out.size)⟩

set_option maxRecDepth 100000 in
theorem lifted (os : Os) (started : os.Started) (H : Type) (enc : TypeId × Value → H) :
    ReturnsInHanded {} Try.checked os 3 .any (Rows.opersRunSpec.pre6 enc Try.prog Try.f3 Rows.opersRunRow.domain false) (Rows.opersRunSpec.post enc Try.prog Try.f3 false true false false) := by
  refine returnsInHanded_of_change_sized (C := Try.checked) ownKnob_none started (by kernel_rfl) Try.func3
    (ChangeSpec.witness6 (enc := enc) (C := Try.checked) false ⟨#[], #[.agg #[.int .u8 0, .int .u8 0, .int .i64 0, .int .i64 0, .slice none 0 0], .slice none 0 0], []⟩ 8 (by kernel_rfl) (by kernel_rfl) (by kernel_rfl) (by kernel_rfl)) ?_
  intro W base args ds gs before hval0 hW hcnd hsz0 _
  have hval : ∀ (j : Nat) t v, Try.f3.params[j]? = some t → args[j]? = some v → Value.okWide Try.prog W .any base t v := hval0
  have hW' := hW
  obtain ⟨p, q, hA0, hV, rfl, hfz, hnd⟩ := hW
  have hA : DataW.TrodAll enc Try.prog W 0 (fun _ => true) true Try.f3.params.toList args.toList ds p := hA0
  have hsz : (DataW.weightsEach Try.prog (Try.f3.params.toList ++ Rows.opersRunSpec.plain.varTypes Try.prog) (ds ++ gs)).all (· ≤ reachBytes) = true := hsz0
  rw [Try.params3] at hA hval hsz
  obtain ⟨v0, vs0, d0, ds0, p0, q0, hargs, rfl, rfl, h0, r0⟩ := trodAll_cons hA
  obtain ⟨v1, vs1, d1, ds1, p1, q1, rfl, rfl, rfl, h1, r1⟩ := trodAll_cons r0
  obtain ⟨rfl, rfl, rfl⟩ := trodAll_nil r1
  obtain rfl : args = #[v0, v1] := by cases args; simp_all
  obtain ⟨rfl, rfl⟩ := trodVars_none hV
  obtain ⟨n0, NA0, nm0, nc0, rfl, hN0⟩ := Op.open_node (hval 0 24 v0 rfl rfl) h0
  obtain ⟨A1, c1, L1, rfl, hI1, hw1, hc1, hm1, hq1⟩ := Op.open_recss (hval 1 25 v1 rfl rfl) h1
  clear hA0 hval0 hsz0
  refine (walk n0 NA0 nm0 nc0 hN0 A1 L1 c1 W hI1 hw1).mono fun e W' ⟨he, hg⟩ => ?_
  subst he
  exact ⟨_, rfl, law_post progLaid hW' rfl (by rw [Try.params3]; intro t ht; simp at ht; rcases ht with rfl | rfl <;> exact ⟨by kernel_rfl, of_decide_eq_true (by kernel_rfl)⟩) rfl Try.underlying4 rfl hg⟩

theorem over : Rows.opersRunRow.holds Try.pinned (OpenSpec.ofChange Rows.opersRunSpec) :=
  OpenClaim.holds_of_wide 3 Try.f3 rfl rfl rfl rfl rfl rfl rfl ⟨rfl, rfl, rfl, rfl, rfl⟩ rfl rfl rfl rfl rfl (by kernel_rfl) Try.func3 (by kernel_rfl)
    (of_decide_eq_true (by kernel_rfl)) (by unfold Func.isWrapper; first | (rw [if_pos (by decide +kernel)]; kernel_rfl) | (rw [if_neg (by decide +kernel)]; exact ⟨rfl, rfl⟩))
    (fun os started H enc _ => lifted os started H enc)

/-- The statement. -/
theorem proved : Rows.OpersRunSaid :=
  over
end opersRun
end Go.Proofs.Ytcjdjdhjbchaaaa
