/- The document's first, reduced. -/
import Derived.Test.YtcjdjdhjbchaaaaCa13
namespace Go.Proofs.Ytcjdjdhjbchaaaa
namespace Op
open Go.ChangeShapes Go.WideShapes Go.ChangeAt Go.RowKit Go.BigFrame Vr
set_option linter.unusedVariables false
set_option maxRecDepth 100000
set_option maxHeartbeats 2000000 in
theorem refFirst_any (A : Option Addr) (l : List Rd) (c i : Nat) (r : Rd) (w : World) (hT : Rw.Ts kindR w A l) (hr : l[i]? = some r) (hl : l.length ≤ 100000) : Calls Try.prog 66 #[.slice A l.length c, .int .i64 i] w fun e w' => e = .returned (.bool (decide (r.k ∉ keysOf (l.take i)))) ∧ Below w.heap.size w w' := by
  have hil : i < l.length := (List.getElem?_eq_some_iff.1 hr).1
  obtain ⟨bi, oi, rfl, hbi, hqi⟩ := recs_at hT hr
  have HT := Lib.hid hT; have HQI := Lib.hid hqi; clear hT hqi hr
  have s2 : (i : Int) < (l.length : Int) := by omega
  go_enter Try.func66, Try.ntmps66
  go_wp2_with fail
  go_loopw [5] (fun vi wr => ∃ k : Nat, k ≤ i ∧ vi = .int .i64 k ∧ r.k ∉ keysOf (l.take k) ∧ Below w.heap.size w wr) (fun vi _ => i - (intOf vi).toNat)
  case atStart => exact ⟨0, by omega, rfl, by simp [keysOf, keysRev], Below.refl _ _⟩
  case round =>
    obtain ⟨k, hk, rfl, hn, hb⟩ := hrel
    have HN := Lib.hid hn; have HB := Lib.hid hb; clear hn hb
    by_cases hlt : k < i
    · have hltz : (k : Int) < (i : Int) := by omega
      have s3 : (k : Int) < (l.length : Int) := by omega
      have s4 : k < l.length := by omega
      obtain ⟨x, hx⟩ : ∃ x, l[k]? = some x := ⟨_, List.getElem?_eq_getElem s4⟩
      obtain ⟨b', o', e', _, hqk⟩ := recs_at HT.out hx
      cases e'
      obtain ⟨e0, e1⟩ := hqk wr HB.out
      obtain ⟨c0, c1⟩ := HQI.out wr HB.out
      have HX := Lib.hid hx; clear hx hqk
      by_cases he : x.k = r.k
      · have z1 : (x.k == r.k) = true := by simpa using he
        have hmem : r.k ∈ keysOf (l.take i) := mem_keysOf.2 ⟨x, List.mem_of_getElem? (i := k) (by rw [List.getElem?_take, if_pos hlt]; exact HX.out), he⟩
        have HM := Lib.hid (show false = decide (r.k ∉ keysOf (l.take i)) from (decide_eq_false (fun h => h hmem)).symm)
        clear he hmem
        go_upto_region 4 with fail
        go_quiet (fail)
        go_wp2_with fail
        go_ret
        exact ⟨retb' HM.out, below_drewN HB.out _⟩
      · have z1 : (x.k == r.k) = false := by simpa using he
        have hn2 : r.k ∉ keysOf (l.take (k + 1)) := fun h => by
          obtain ⟨y, hy, e⟩ := mem_keysOf.1 h
          rw [Vr.take_snoc HX.out, List.mem_append, List.mem_singleton] at hy
          rcases hy with hy | rfl
          · exact HN.out (mem_keysOf.2 ⟨y, hy, e⟩)
          · exact he e
        have HN2 := Lib.hid hn2
        clear he hn2
        go_upto_region 4 with fail
        go_quiet (fail)
        go_wp2_with fail
        go_roundw
        case rel => exact ⟨k + 1, by omega, by simp, HN2.out, below_drewN HB.out _⟩
        case measure => simp only [intOf]; omega
    · have hki : k = i := by omega
      subst hki
      have HM := Lib.hid (show true = decide (r.k ∉ keysOf (l.take k)) from (decide_eq_true HN.out).symm)
      go_wp2_with fail
      go_ret
      exact ⟨retb' HM.out, HB.out⟩
set_option maxHeartbeats 4000000 in
theorem refReduced0 (xk : Nat) (b d key : Int) (NA : Option Addr) (nm nc : Nat) (A : Option Addr) (l : List Rd) (c : Nat) (w : World) (hT : Rw.Ts kindR w A l) (hl : l.length ≤ 100000) :
    Calls Try.prog 67 #[.agg #[.int .u8 (xk : Nat), .int .u8 ((0 : Nat) : Nat), .int .i64 b, .int .i64 d, .slice NA nm nc], .int .i64 key, .slice A l.length c] w fun e w' => e = .returned (Rd.val ⟨key, sumF (valsOf l key)⟩) ∧ Below w.heap.size w w' := by
  have hn := ((node_box w ⟨xk, 0, b, d, []⟩ NA nm nc).alloc (.cells #[.int .i64 0, .int .i64 0] 36)).alloc (.cells #[.int .i64 key, .int .i64 0] 36)
  have h6 := (Row.made (w.alloc (.cells #[.int .u8 (xk : Nat), .int .u8 ((0 : Nat) : Nat), .int .i64 b, .int .i64 d, .slice NA nm nc] 24)) 36 [.int .i64 0, .int .i64 0]).alloc (.cells #[.int .i64 key, .int .i64 0] 36)
  have h7 := Row.made ((w.alloc (.cells #[.int .u8 (xk : Nat), .int .u8 ((0 : Nat) : Nat), .int .i64 b, .int .i64 d, .slice NA nm nc] 24)).alloc (.cells #[.int .i64 0, .int .i64 0] 36)) 36 [.int .i64 key, .int .i64 0]
  have hb := (((Below.refl _ w).alloc (Nat.le_refl _) (.cells #[.int .u8 (xk : Nat), .int .u8 ((0 : Nat) : Nat), .int .i64 b, .int .i64 d, .slice NA nm nc] 24)).alloc (by simp) (.cells #[.int .i64 0, .int .i64 0] 36)).alloc (by simp; omega) (.cells #[.int .i64 key, .int .i64 0] 36)
  simp only [size_alloc, List.toArray] at h6 h7
  have HN := Lib.hid hn; have H6 := Lib.hid h6; have H7 := Lib.hid h7; have HB := Lib.hid hb; have HT := Lib.hid hT
  clear hn h6 h7 hb hT
  go_enter Try.func67, Try.ntmps67
  go_upto_region 2 with fail
  generalize ((w.alloc (.cells #[.int .u8 (xk : Nat), .int .u8 ((0 : Nat) : Nat), .int .i64 b, .int .i64 d, .slice NA nm nc] 24)).alloc (.cells #[.int .i64 0, .int .i64 0] 36)).alloc (.cells #[.int .i64 key, .int .i64 0] 36) = w3 at *
  go_wp2_with fail
  go_loopw [8, 9] (fun vc vi wr => ∃ (i m : Nat) (V : Int), i ≤ l.length ∧ vi = .int .i64 i ∧ vc = .int .i64 m ∧ (valsOf (l.take i) key).length = m ∧ sumF (valsOf (l.take i) key) = V ∧ Row wr (w.heap.size + 1 + 1) 36 [.int .i64 key, .int .i64 V] ∧ Row wr w.heap.size 24 [.int .u8 (xk : Nat), .int .u8 ((0 : Nat) : Nat), .int .i64 b, .int .i64 d, .slice NA nm nc] ∧ Row wr (w.heap.size + 1) 36 [.int .i64 0, .int .i64 0] ∧ Below w.heap.size w wr) (fun _ vi _ => l.length - (intOf vi).toNat)
  case atStart => exact ⟨0, 0, 0, by omega, rfl, rfl, rfl, rfl, H7.out, HN.out, H6.out, HB.out⟩
  case round =>
    obtain ⟨i, m, V, hi, rfl, rfl, hm, hV, h7, hn, h6, hb⟩ := hrel
    by_cases hlt : i < l.length
    · have hltz : (i : Int) < (l.length : Int) := by omega
      obtain ⟨x, hx⟩ : ∃ x, l[i]? = some x := ⟨_, List.getElem?_eq_getElem hlt⟩
      obtain ⟨bx, ox, rfl, hbx, hqx⟩ := recs_at HT.out hx
      obtain ⟨e0, e1⟩ := hqx wr hb
      have hml : m ≤ i := by rw [← hm]; exact Nat.le_trans valsOf_len (List.length_take_le _ _)
      have hsn := valsOf_snoc (l.take i) x key
      rw [← Vr.take_snoc hx] at hsn
      obtain ⟨k0, k1⟩ := cells2 h7
      obtain ⟨n0, n1, n2, n3, n4⟩ := cells5 hn
      have f1 := h7.free 1
      have s0 : IntKind.i64.wrap ((m : Int) + 1) = (m : Int) + 1 := IntWalk.i64_in _ (by omega)
      have H7' := Lib.hid h7; have HN' := Lib.hid hn; have H6' := Lib.hid h6; have HB' := Lib.hid hb; have HM := Lib.hid hm; have HV := Lib.hid hV
      clear h7 hn h6 hb hm hV hqx hx HN H6 H7 HB
      by_cases hk : x.k = key
      · rw [if_pos hk] at hsn
        have z1 : (x.k == key) = true := by simpa using hk
        have z2 : (x.k != key) = false := by simpa using hk
        have HS := Lib.hid hsn; clear hsn
        have hm2 : (valsOf (l.take (i + 1)) key).length = m + 1 := by rw [HS.out, List.length_append, HM.out]; rfl
        have HM2 := Lib.hid hm2; clear hm2
        clear hk
        have hV2 : sumF (valsOf (l.take (i + 1)) key) = wrap64 (V + x.v) := by
          rw [HS.out, sumF_snoc, HV.out]
        have HV2 := Lib.hid hV2; clear hV2 
        go_wp2_with fail
        go_roundw
        case rel => exact ⟨i + 1, m + 1, _, by omega, by simp, by simp, HM2.out, HV2.out, H7'.out.put 1 _, HN'.out.far (by show w.heap.size ≠ w.heap.size + 1 + 1; omega) _, H6'.out.far (by show w.heap.size + 1 ≠ w.heap.size + 1 + 1; omega) _, HB'.out.setCell (by show w.heap.size ≤ w.heap.size + 1 + 1; omega) _⟩
        case measure => simp only [intOf]; omega
      · rw [if_neg hk] at hsn
        have z1 : (x.k == key) = false := by simpa using hk
        have z2 : (x.k != key) = true := by simpa using hk
        have HS := Lib.hid hsn; clear hsn hk
        go_wp2_with fail
        go_roundw
        case rel => exact ⟨i + 1, m, V, by omega, by simp, rfl, by rw [HS.out]; exact HM.out, by rw [HS.out]; exact HV.out, H7'.out, HN'.out, H6'.out, HB'.out⟩
        case measure => simp only [intOf]; omega
    · have hil : i = l.length := by omega
      subst hil
      rw [List.take_length] at hm hV
      obtain ⟨k0, k1⟩ := cells2 h7
      have f0 := h6.free 0
      have f1 := h6.free 1
      have f2 := (h6.put 0 (.int .i64 key)).free 1
      have f3 : (wr.setCell ⟨w.heap.size + 1, 0, none⟩ (.int .i64 key)).cell? ⟨w.heap.size + 1, 1, none⟩ = some (.int .i64 0) := (h6.put 0 (.int .i64 key)).cell 1
      have f4 : wr.cell? ⟨w.heap.size + 1, 0, none⟩ = some (.int .i64 0) := h6.cell 0
      have f5 : wr.cell? ⟨w.heap.size + 1, 1, none⟩ = some (.int .i64 0) := h6.cell 1
      have H6' := Lib.hid h6; have HB' := Lib.hid hb; have HV := Lib.hid hV; have H7' := Lib.hid h7
      clear h7 hn h6 hb hm hV HN H6 H7 HB
      go_wp2_with fail
      refine bodyPost_ret (results_cell_row rfl _ _ (w.heap.size + 1) 36 _ (0, 0) _ rfl ((H6'.out.put 0 _).put 1 _) Try.underlying36 rfl (by kernel_rfl)) rfl ?_
      refine ⟨?_, (HB'.out.setCell (by show w.heap.size ≤ w.heap.size + 1; omega) _).setCell (by show w.heap.size ≤ w.heap.size + 1; omega) _⟩
      rw [HV.out]
      rfl
set_option maxHeartbeats 4000000 in
theorem refReduced1 (xk : Nat) (b d key : Int) (NA : Option Addr) (nm nc : Nat) (A : Option Addr) (l : List Rd) (c : Nat) (w : World) (hT : Rw.Ts kindR w A l) (hl : l.length ≤ 100000) :
    Calls Try.prog 67 #[.agg #[.int .u8 (xk : Nat), .int .u8 ((1 : Nat) : Nat), .int .i64 b, .int .i64 d, .slice NA nm nc], .int .i64 key, .slice A l.length c] w fun e w' => e = .returned (Rd.val ⟨key, (((valsOf l key)).length : Int)⟩) ∧ Below w.heap.size w w' := by
  have hn := ((node_box w ⟨xk, 1, b, d, []⟩ NA nm nc).alloc (.cells #[.int .i64 0, .int .i64 0] 36)).alloc (.cells #[.int .i64 key, .int .i64 0] 36)
  have h6 := (Row.made (w.alloc (.cells #[.int .u8 (xk : Nat), .int .u8 ((1 : Nat) : Nat), .int .i64 b, .int .i64 d, .slice NA nm nc] 24)) 36 [.int .i64 0, .int .i64 0]).alloc (.cells #[.int .i64 key, .int .i64 0] 36)
  have h7 := Row.made ((w.alloc (.cells #[.int .u8 (xk : Nat), .int .u8 ((1 : Nat) : Nat), .int .i64 b, .int .i64 d, .slice NA nm nc] 24)).alloc (.cells #[.int .i64 0, .int .i64 0] 36)) 36 [.int .i64 key, .int .i64 0]
  have hb := (((Below.refl _ w).alloc (Nat.le_refl _) (.cells #[.int .u8 (xk : Nat), .int .u8 ((1 : Nat) : Nat), .int .i64 b, .int .i64 d, .slice NA nm nc] 24)).alloc (by simp) (.cells #[.int .i64 0, .int .i64 0] 36)).alloc (by simp; omega) (.cells #[.int .i64 key, .int .i64 0] 36)
  simp only [size_alloc, List.toArray] at h6 h7
  have HN := Lib.hid hn; have H6 := Lib.hid h6; have H7 := Lib.hid h7; have HB := Lib.hid hb; have HT := Lib.hid hT
  clear hn h6 h7 hb hT
  go_enter Try.func67, Try.ntmps67
  go_upto_region 2 with fail
  generalize ((w.alloc (.cells #[.int .u8 (xk : Nat), .int .u8 ((1 : Nat) : Nat), .int .i64 b, .int .i64 d, .slice NA nm nc] 24)).alloc (.cells #[.int .i64 0, .int .i64 0] 36)).alloc (.cells #[.int .i64 key, .int .i64 0] 36) = w3 at *
  go_wp2_with fail
  go_loopw [8, 9] (fun vc vi wr => ∃ (i m : Nat) (V : Int), i ≤ l.length ∧ vi = .int .i64 i ∧ vc = .int .i64 m ∧ (valsOf (l.take i) key).length = m ∧ (((valsOf (l.take i) key)).length : Int) = V ∧ Row wr (w.heap.size + 1 + 1) 36 [.int .i64 key, .int .i64 V] ∧ Row wr w.heap.size 24 [.int .u8 (xk : Nat), .int .u8 ((1 : Nat) : Nat), .int .i64 b, .int .i64 d, .slice NA nm nc] ∧ Row wr (w.heap.size + 1) 36 [.int .i64 0, .int .i64 0] ∧ Below w.heap.size w wr) (fun _ vi _ => l.length - (intOf vi).toNat)
  case atStart => exact ⟨0, 0, 0, by omega, rfl, rfl, rfl, rfl, H7.out, HN.out, H6.out, HB.out⟩
  case round =>
    obtain ⟨i, m, V, hi, rfl, rfl, hm, hV, h7, hn, h6, hb⟩ := hrel
    by_cases hlt : i < l.length
    · have hltz : (i : Int) < (l.length : Int) := by omega
      obtain ⟨x, hx⟩ : ∃ x, l[i]? = some x := ⟨_, List.getElem?_eq_getElem hlt⟩
      obtain ⟨bx, ox, rfl, hbx, hqx⟩ := recs_at HT.out hx
      obtain ⟨e0, e1⟩ := hqx wr hb
      have hml : m ≤ i := by rw [← hm]; exact Nat.le_trans valsOf_len (List.length_take_le _ _)
      have hsn := valsOf_snoc (l.take i) x key
      rw [← Vr.take_snoc hx] at hsn
      obtain ⟨k0, k1⟩ := cells2 h7
      obtain ⟨n0, n1, n2, n3, n4⟩ := cells5 hn
      have f1 := h7.free 1
      have s0 : IntKind.i64.wrap ((m : Int) + 1) = (m : Int) + 1 := IntWalk.i64_in _ (by omega)
      have H7' := Lib.hid h7; have HN' := Lib.hid hn; have H6' := Lib.hid h6; have HB' := Lib.hid hb; have HM := Lib.hid hm; have HV := Lib.hid hV
      clear h7 hn h6 hb hm hV hqx hx HN H6 H7 HB
      by_cases hk : x.k = key
      · rw [if_pos hk] at hsn
        have z1 : (x.k == key) = true := by simpa using hk
        have z2 : (x.k != key) = false := by simpa using hk
        have HS := Lib.hid hsn; clear hsn
        have hm2 : (valsOf (l.take (i + 1)) key).length = m + 1 := by rw [HS.out, List.length_append, HM.out]; rfl
        have HM2 := Lib.hid hm2; clear hm2
        have hVm : V = (m : Int) := by rw [← HV.out, HM.out]
        subst hVm
        clear hk
        have hV2 : (((valsOf (l.take (i + 1)) key)).length : Int) = (m : Int) + 1 := by
          rw [HM2.out]; omega
        have HV2 := Lib.hid hV2; clear hV2 
        go_wp2_with fail
        go_roundw
        case rel => exact ⟨i + 1, m + 1, _, by omega, by simp, by simp, HM2.out, HV2.out, H7'.out.put 1 _, HN'.out.far (by show w.heap.size ≠ w.heap.size + 1 + 1; omega) _, H6'.out.far (by show w.heap.size + 1 ≠ w.heap.size + 1 + 1; omega) _, HB'.out.setCell (by show w.heap.size ≤ w.heap.size + 1 + 1; omega) _⟩
        case measure => simp only [intOf]; omega
      · rw [if_neg hk] at hsn
        have z1 : (x.k == key) = false := by simpa using hk
        have z2 : (x.k != key) = true := by simpa using hk
        have HS := Lib.hid hsn; clear hsn hk
        go_wp2_with fail
        go_roundw
        case rel => exact ⟨i + 1, m, V, by omega, by simp, rfl, by rw [HS.out]; exact HM.out, by rw [HS.out]; exact HV.out, H7'.out, HN'.out, H6'.out, HB'.out⟩
        case measure => simp only [intOf]; omega
    · have hil : i = l.length := by omega
      subst hil
      rw [List.take_length] at hm hV
      obtain ⟨k0, k1⟩ := cells2 h7
      have f0 := h6.free 0
      have f1 := h6.free 1
      have f2 := (h6.put 0 (.int .i64 key)).free 1
      have f3 : (wr.setCell ⟨w.heap.size + 1, 0, none⟩ (.int .i64 key)).cell? ⟨w.heap.size + 1, 1, none⟩ = some (.int .i64 0) := (h6.put 0 (.int .i64 key)).cell 1
      have f4 : wr.cell? ⟨w.heap.size + 1, 0, none⟩ = some (.int .i64 0) := h6.cell 0
      have f5 : wr.cell? ⟨w.heap.size + 1, 1, none⟩ = some (.int .i64 0) := h6.cell 1
      have H6' := Lib.hid h6; have HB' := Lib.hid hb; have HV := Lib.hid hV; have H7' := Lib.hid h7
      clear h7 hn h6 hb hm hV HN H6 H7 HB
      go_wp2_with fail
      refine bodyPost_ret (results_cell_row rfl _ _ (w.heap.size + 1) 36 _ (0, 0) _ rfl ((H6'.out.put 0 _).put 1 _) Try.underlying36 rfl (by kernel_rfl)) rfl ?_
      refine ⟨?_, (HB'.out.setCell (by show w.heap.size ≤ w.heap.size + 1; omega) _).setCell (by show w.heap.size ≤ w.heap.size + 1; omega) _⟩
      rw [HV.out]
      rfl
set_option maxHeartbeats 4000000 in
theorem refReduced2 (xk : Nat) (b d key : Int) (NA : Option Addr) (nm nc : Nat) (A : Option Addr) (l : List Rd) (c : Nat) (w : World) (hT : Rw.Ts kindR w A l) (hl : l.length ≤ 100000) :
    Calls Try.prog 67 #[.agg #[.int .u8 (xk : Nat), .int .u8 ((2 : Nat) : Nat), .int .i64 b, .int .i64 d, .slice NA nm nc], .int .i64 key, .slice A l.length c] w fun e w' => e = .returned (Rd.val ⟨key, minF (valsOf l key)⟩) ∧ Below w.heap.size w w' := by
  have hn := ((node_box w ⟨xk, 2, b, d, []⟩ NA nm nc).alloc (.cells #[.int .i64 0, .int .i64 0] 36)).alloc (.cells #[.int .i64 key, .int .i64 0] 36)
  have h6 := (Row.made (w.alloc (.cells #[.int .u8 (xk : Nat), .int .u8 ((2 : Nat) : Nat), .int .i64 b, .int .i64 d, .slice NA nm nc] 24)) 36 [.int .i64 0, .int .i64 0]).alloc (.cells #[.int .i64 key, .int .i64 0] 36)
  have h7 := Row.made ((w.alloc (.cells #[.int .u8 (xk : Nat), .int .u8 ((2 : Nat) : Nat), .int .i64 b, .int .i64 d, .slice NA nm nc] 24)).alloc (.cells #[.int .i64 0, .int .i64 0] 36)) 36 [.int .i64 key, .int .i64 0]
  have hb := (((Below.refl _ w).alloc (Nat.le_refl _) (.cells #[.int .u8 (xk : Nat), .int .u8 ((2 : Nat) : Nat), .int .i64 b, .int .i64 d, .slice NA nm nc] 24)).alloc (by simp) (.cells #[.int .i64 0, .int .i64 0] 36)).alloc (by simp; omega) (.cells #[.int .i64 key, .int .i64 0] 36)
  simp only [size_alloc, List.toArray] at h6 h7
  have HN := Lib.hid hn; have H6 := Lib.hid h6; have H7 := Lib.hid h7; have HB := Lib.hid hb; have HT := Lib.hid hT
  clear hn h6 h7 hb hT
  go_enter Try.func67, Try.ntmps67
  go_upto_region 2 with fail
  generalize ((w.alloc (.cells #[.int .u8 (xk : Nat), .int .u8 ((2 : Nat) : Nat), .int .i64 b, .int .i64 d, .slice NA nm nc] 24)).alloc (.cells #[.int .i64 0, .int .i64 0] 36)).alloc (.cells #[.int .i64 key, .int .i64 0] 36) = w3 at *
  go_wp2_with fail
  go_loopw [8, 9] (fun vc vi wr => ∃ (i m : Nat) (V : Int), i ≤ l.length ∧ vi = .int .i64 i ∧ vc = .int .i64 m ∧ (valsOf (l.take i) key).length = m ∧ minF (valsOf (l.take i) key) = V ∧ Row wr (w.heap.size + 1 + 1) 36 [.int .i64 key, .int .i64 V] ∧ Row wr w.heap.size 24 [.int .u8 (xk : Nat), .int .u8 ((2 : Nat) : Nat), .int .i64 b, .int .i64 d, .slice NA nm nc] ∧ Row wr (w.heap.size + 1) 36 [.int .i64 0, .int .i64 0] ∧ Below w.heap.size w wr) (fun _ vi _ => l.length - (intOf vi).toNat)
  case atStart => exact ⟨0, 0, 0, by omega, rfl, rfl, rfl, rfl, H7.out, HN.out, H6.out, HB.out⟩
  case round =>
    obtain ⟨i, m, V, hi, rfl, rfl, hm, hV, h7, hn, h6, hb⟩ := hrel
    by_cases hlt : i < l.length
    · have hltz : (i : Int) < (l.length : Int) := by omega
      obtain ⟨x, hx⟩ : ∃ x, l[i]? = some x := ⟨_, List.getElem?_eq_getElem hlt⟩
      obtain ⟨bx, ox, rfl, hbx, hqx⟩ := recs_at HT.out hx
      obtain ⟨e0, e1⟩ := hqx wr hb
      have hml : m ≤ i := by rw [← hm]; exact Nat.le_trans valsOf_len (List.length_take_le _ _)
      have hsn := valsOf_snoc (l.take i) x key
      rw [← Vr.take_snoc hx] at hsn
      obtain ⟨k0, k1⟩ := cells2 h7
      obtain ⟨n0, n1, n2, n3, n4⟩ := cells5 hn
      have f1 := h7.free 1
      have s0 : IntKind.i64.wrap ((m : Int) + 1) = (m : Int) + 1 := IntWalk.i64_in _ (by omega)
      have H7' := Lib.hid h7; have HN' := Lib.hid hn; have H6' := Lib.hid h6; have HB' := Lib.hid hb; have HM := Lib.hid hm; have HV := Lib.hid hV
      clear h7 hn h6 hb hm hV hqx hx HN H6 H7 HB
      by_cases hk : x.k = key
      · rw [if_pos hk] at hsn
        have z1 : (x.k == key) = true := by simpa using hk
        have z2 : (x.k != key) = false := by simpa using hk
        have HS := Lib.hid hsn; clear hsn
        have hm2 : (valsOf (l.take (i + 1)) key).length = m + 1 := by rw [HS.out, List.length_append, HM.out]; rfl
        have HM2 := Lib.hid hm2; clear hm2
        by_cases hm0 : m = 0
        · subst hm0
          clear hk
          have hV2 : minF (valsOf (l.take (i + 1)) key) = x.v := by
            rw [HS.out, minF_snoc, if_pos (List.length_eq_zero_iff.1 HM.out)]
          have HV2 := Lib.hid hV2; clear hV2 
          go_wp2_with fail
          go_roundw
          case rel => exact ⟨i + 1, 0 + 1, _, by omega, by simp, by simp, HM2.out, HV2.out, H7'.out.put 1 _, HN'.out.far (by show w.heap.size ≠ w.heap.size + 1 + 1; omega) _, H6'.out.far (by show w.heap.size + 1 ≠ w.heap.size + 1 + 1; omega) _, HB'.out.setCell (by show w.heap.size ≤ w.heap.size + 1 + 1; omega) _⟩
          case measure => simp only [intOf]; omega
        · have z3 : ((m : Int) == 0) = false := by simp; omega
          have hne : valsOf (l.take i) key ≠ [] := fun e => hm0 (by rw [← HM.out, e]; rfl)
          by_cases hv : x.v < V
          · have z4 : decide (x.v < V) = true := decide_eq_true hv
            have z5 : decide (x.v < V) = true := decide_eq_true hv
            clear hk
            have hV2 : minF (valsOf (l.take (i + 1)) key) = x.v := by
              rw [HS.out, minF_snoc, if_neg hne, HV.out, if_pos hv]
            have HV2 := Lib.hid hV2; clear hV2 hne
            go_wp2_with fail
            go_roundw
            case rel => exact ⟨i + 1, m + 1, _, by omega, by simp, by simp, HM2.out, HV2.out, H7'.out.put 1 _, HN'.out.far (by show w.heap.size ≠ w.heap.size + 1 + 1; omega) _, H6'.out.far (by show w.heap.size + 1 ≠ w.heap.size + 1 + 1; omega) _, HB'.out.setCell (by show w.heap.size ≤ w.heap.size + 1 + 1; omega) _⟩
            case measure => simp only [intOf]; omega
          · have z4 : decide (x.v < V) = false := decide_eq_false hv
            have z5 : decide (x.v < V) = false := decide_eq_false hv
            clear hk
            have hV2 : minF (valsOf (l.take (i + 1)) key) = V := by
              rw [HS.out, minF_snoc, if_neg hne, HV.out, if_neg hv]
            have HV2 := Lib.hid hV2; clear hV2 hne
            go_wp2_with fail
            go_roundw
            case rel => exact ⟨i + 1, m + 1, V, by omega, by simp, by simp, HM2.out, HV2.out, H7'.out, HN'.out, H6'.out, HB'.out⟩
            case measure => simp only [intOf]; omega
      · rw [if_neg hk] at hsn
        have z1 : (x.k == key) = false := by simpa using hk
        have z2 : (x.k != key) = true := by simpa using hk
        have HS := Lib.hid hsn; clear hsn hk
        go_wp2_with fail
        go_roundw
        case rel => exact ⟨i + 1, m, V, by omega, by simp, rfl, by rw [HS.out]; exact HM.out, by rw [HS.out]; exact HV.out, H7'.out, HN'.out, H6'.out, HB'.out⟩
        case measure => simp only [intOf]; omega
    · have hil : i = l.length := by omega
      subst hil
      rw [List.take_length] at hm hV
      obtain ⟨k0, k1⟩ := cells2 h7
      have f0 := h6.free 0
      have f1 := h6.free 1
      have f2 := (h6.put 0 (.int .i64 key)).free 1
      have f3 : (wr.setCell ⟨w.heap.size + 1, 0, none⟩ (.int .i64 key)).cell? ⟨w.heap.size + 1, 1, none⟩ = some (.int .i64 0) := (h6.put 0 (.int .i64 key)).cell 1
      have f4 : wr.cell? ⟨w.heap.size + 1, 0, none⟩ = some (.int .i64 0) := h6.cell 0
      have f5 : wr.cell? ⟨w.heap.size + 1, 1, none⟩ = some (.int .i64 0) := h6.cell 1
      have H6' := Lib.hid h6; have HB' := Lib.hid hb; have HV := Lib.hid hV; have H7' := Lib.hid h7
      clear h7 hn h6 hb hm hV HN H6 H7 HB
      go_wp2_with fail
      refine bodyPost_ret (results_cell_row rfl _ _ (w.heap.size + 1) 36 _ (0, 0) _ rfl ((H6'.out.put 0 _).put 1 _) Try.underlying36 rfl (by kernel_rfl)) rfl ?_
      refine ⟨?_, (HB'.out.setCell (by show w.heap.size ≤ w.heap.size + 1; omega) _).setCell (by show w.heap.size ≤ w.heap.size + 1; omega) _⟩
      rw [HV.out]
      rfl
set_option maxHeartbeats 4000000 in
theorem refReduced3 (xk : Nat) (b d key : Int) (NA : Option Addr) (nm nc : Nat) (A : Option Addr) (l : List Rd) (c : Nat) (w : World) (hT : Rw.Ts kindR w A l) (hl : l.length ≤ 100000) :
    Calls Try.prog 67 #[.agg #[.int .u8 (xk : Nat), .int .u8 ((3 : Nat) : Nat), .int .i64 b, .int .i64 d, .slice NA nm nc], .int .i64 key, .slice A l.length c] w fun e w' => e = .returned (Rd.val ⟨key, maxF (valsOf l key)⟩) ∧ Below w.heap.size w w' := by
  have hn := ((node_box w ⟨xk, 3, b, d, []⟩ NA nm nc).alloc (.cells #[.int .i64 0, .int .i64 0] 36)).alloc (.cells #[.int .i64 key, .int .i64 0] 36)
  have h6 := (Row.made (w.alloc (.cells #[.int .u8 (xk : Nat), .int .u8 ((3 : Nat) : Nat), .int .i64 b, .int .i64 d, .slice NA nm nc] 24)) 36 [.int .i64 0, .int .i64 0]).alloc (.cells #[.int .i64 key, .int .i64 0] 36)
  have h7 := Row.made ((w.alloc (.cells #[.int .u8 (xk : Nat), .int .u8 ((3 : Nat) : Nat), .int .i64 b, .int .i64 d, .slice NA nm nc] 24)).alloc (.cells #[.int .i64 0, .int .i64 0] 36)) 36 [.int .i64 key, .int .i64 0]
  have hb := (((Below.refl _ w).alloc (Nat.le_refl _) (.cells #[.int .u8 (xk : Nat), .int .u8 ((3 : Nat) : Nat), .int .i64 b, .int .i64 d, .slice NA nm nc] 24)).alloc (by simp) (.cells #[.int .i64 0, .int .i64 0] 36)).alloc (by simp; omega) (.cells #[.int .i64 key, .int .i64 0] 36)
  simp only [size_alloc, List.toArray] at h6 h7
  have HN := Lib.hid hn; have H6 := Lib.hid h6; have H7 := Lib.hid h7; have HB := Lib.hid hb; have HT := Lib.hid hT
  clear hn h6 h7 hb hT
  go_enter Try.func67, Try.ntmps67
  go_upto_region 2 with fail
  generalize ((w.alloc (.cells #[.int .u8 (xk : Nat), .int .u8 ((3 : Nat) : Nat), .int .i64 b, .int .i64 d, .slice NA nm nc] 24)).alloc (.cells #[.int .i64 0, .int .i64 0] 36)).alloc (.cells #[.int .i64 key, .int .i64 0] 36) = w3 at *
  go_wp2_with fail
  go_loopw [8, 9] (fun vc vi wr => ∃ (i m : Nat) (V : Int), i ≤ l.length ∧ vi = .int .i64 i ∧ vc = .int .i64 m ∧ (valsOf (l.take i) key).length = m ∧ maxF (valsOf (l.take i) key) = V ∧ Row wr (w.heap.size + 1 + 1) 36 [.int .i64 key, .int .i64 V] ∧ Row wr w.heap.size 24 [.int .u8 (xk : Nat), .int .u8 ((3 : Nat) : Nat), .int .i64 b, .int .i64 d, .slice NA nm nc] ∧ Row wr (w.heap.size + 1) 36 [.int .i64 0, .int .i64 0] ∧ Below w.heap.size w wr) (fun _ vi _ => l.length - (intOf vi).toNat)
  case atStart => exact ⟨0, 0, 0, by omega, rfl, rfl, rfl, rfl, H7.out, HN.out, H6.out, HB.out⟩
  case round =>
    obtain ⟨i, m, V, hi, rfl, rfl, hm, hV, h7, hn, h6, hb⟩ := hrel
    by_cases hlt : i < l.length
    · have hltz : (i : Int) < (l.length : Int) := by omega
      obtain ⟨x, hx⟩ : ∃ x, l[i]? = some x := ⟨_, List.getElem?_eq_getElem hlt⟩
      obtain ⟨bx, ox, rfl, hbx, hqx⟩ := recs_at HT.out hx
      obtain ⟨e0, e1⟩ := hqx wr hb
      have hml : m ≤ i := by rw [← hm]; exact Nat.le_trans valsOf_len (List.length_take_le _ _)
      have hsn := valsOf_snoc (l.take i) x key
      rw [← Vr.take_snoc hx] at hsn
      obtain ⟨k0, k1⟩ := cells2 h7
      obtain ⟨n0, n1, n2, n3, n4⟩ := cells5 hn
      have f1 := h7.free 1
      have s0 : IntKind.i64.wrap ((m : Int) + 1) = (m : Int) + 1 := IntWalk.i64_in _ (by omega)
      have H7' := Lib.hid h7; have HN' := Lib.hid hn; have H6' := Lib.hid h6; have HB' := Lib.hid hb; have HM := Lib.hid hm; have HV := Lib.hid hV
      clear h7 hn h6 hb hm hV hqx hx HN H6 H7 HB
      by_cases hk : x.k = key
      · rw [if_pos hk] at hsn
        have z1 : (x.k == key) = true := by simpa using hk
        have z2 : (x.k != key) = false := by simpa using hk
        have HS := Lib.hid hsn; clear hsn
        have hm2 : (valsOf (l.take (i + 1)) key).length = m + 1 := by rw [HS.out, List.length_append, HM.out]; rfl
        have HM2 := Lib.hid hm2; clear hm2
        by_cases hm0 : m = 0
        · subst hm0
          clear hk
          have hV2 : maxF (valsOf (l.take (i + 1)) key) = x.v := by
            rw [HS.out, maxF_snoc, if_pos (List.length_eq_zero_iff.1 HM.out)]
          have HV2 := Lib.hid hV2; clear hV2 
          go_wp2_with fail
          go_roundw
          case rel => exact ⟨i + 1, 0 + 1, _, by omega, by simp, by simp, HM2.out, HV2.out, H7'.out.put 1 _, HN'.out.far (by show w.heap.size ≠ w.heap.size + 1 + 1; omega) _, H6'.out.far (by show w.heap.size + 1 ≠ w.heap.size + 1 + 1; omega) _, HB'.out.setCell (by show w.heap.size ≤ w.heap.size + 1 + 1; omega) _⟩
          case measure => simp only [intOf]; omega
        · have z3 : ((m : Int) == 0) = false := by simp; omega
          have hne : valsOf (l.take i) key ≠ [] := fun e => hm0 (by rw [← HM.out, e]; rfl)
          by_cases hv : V < x.v
          · have z4 : decide (x.v > V) = true := decide_eq_true hv
            have z5 : decide (V < x.v) = true := decide_eq_true hv
            clear hk
            have hV2 : maxF (valsOf (l.take (i + 1)) key) = x.v := by
              rw [HS.out, maxF_snoc, if_neg hne, HV.out, if_pos hv]
            have HV2 := Lib.hid hV2; clear hV2 hne
            go_wp2_with fail
            go_roundw
            case rel => exact ⟨i + 1, m + 1, _, by omega, by simp, by simp, HM2.out, HV2.out, H7'.out.put 1 _, HN'.out.far (by show w.heap.size ≠ w.heap.size + 1 + 1; omega) _, H6'.out.far (by show w.heap.size + 1 ≠ w.heap.size + 1 + 1; omega) _, HB'.out.setCell (by show w.heap.size ≤ w.heap.size + 1 + 1; omega) _⟩
            case measure => simp only [intOf]; omega
          · have z4 : decide (x.v > V) = false := decide_eq_false hv
            have z5 : decide (V < x.v) = false := decide_eq_false hv
            clear hk
            have hV2 : maxF (valsOf (l.take (i + 1)) key) = V := by
              rw [HS.out, maxF_snoc, if_neg hne, HV.out, if_neg hv]
            have HV2 := Lib.hid hV2; clear hV2 hne
            go_wp2_with fail
            go_roundw
            case rel => exact ⟨i + 1, m + 1, V, by omega, by simp, by simp, HM2.out, HV2.out, H7'.out, HN'.out, H6'.out, HB'.out⟩
            case measure => simp only [intOf]; omega
      · rw [if_neg hk] at hsn
        have z1 : (x.k == key) = false := by simpa using hk
        have z2 : (x.k != key) = true := by simpa using hk
        have HS := Lib.hid hsn; clear hsn hk
        go_wp2_with fail
        go_roundw
        case rel => exact ⟨i + 1, m, V, by omega, by simp, rfl, by rw [HS.out]; exact HM.out, by rw [HS.out]; exact HV.out, H7'.out, HN'.out, H6'.out, HB'.out⟩
        case measure => simp only [intOf]; omega
    · have hil : i = l.length := by omega
      subst hil
      rw [List.take_length] at hm hV
      obtain ⟨k0, k1⟩ := cells2 h7
      have f0 := h6.free 0
      have f1 := h6.free 1
      have f2 := (h6.put 0 (.int .i64 key)).free 1
      have f3 : (wr.setCell ⟨w.heap.size + 1, 0, none⟩ (.int .i64 key)).cell? ⟨w.heap.size + 1, 1, none⟩ = some (.int .i64 0) := (h6.put 0 (.int .i64 key)).cell 1
      have f4 : wr.cell? ⟨w.heap.size + 1, 0, none⟩ = some (.int .i64 0) := h6.cell 0
      have f5 : wr.cell? ⟨w.heap.size + 1, 1, none⟩ = some (.int .i64 0) := h6.cell 1
      have H6' := Lib.hid h6; have HB' := Lib.hid hb; have HV := Lib.hid hV; have H7' := Lib.hid h7
      clear h7 hn h6 hb hm hV HN H6 H7 HB
      go_wp2_with fail
      refine bodyPost_ret (results_cell_row rfl _ _ (w.heap.size + 1) 36 _ (0, 0) _ rfl ((H6'.out.put 0 _).put 1 _) Try.underlying36 rfl (by kernel_rfl)) rfl ?_
      refine ⟨?_, (HB'.out.setCell (by show w.heap.size ≤ w.heap.size + 1; omega) _).setCell (by show w.heap.size ≤ w.heap.size + 1; omega) _⟩
      rw [HV.out]
      rfl
theorem refReduced_any (n : Nd) (key : Int) (NA : Option Addr) (nm nc : Nat) (A : Option Addr) (l : List Rd) (c : Nat) (w : World) (hT : Rw.Ts kindR w A l) (hl : l.length ≤ 100000) (ha : n.a ≤ 3) :
    Calls Try.prog 67 #[.agg #[.int .u8 (n.k : Nat), .int .u8 (n.a : Nat), .int .i64 n.b, .int .i64 n.d, .slice NA nm nc], .int .i64 key, .slice A l.length c] w fun e w' => e = .returned (Rd.val ⟨key, redV n.a (valsOf l key)⟩) ∧ Below w.heap.size w w' := by
  obtain ⟨xk, xa, b, d, ins⟩ := n
  simp only at ha
  have : xa = 0 ∨ xa = 1 ∨ xa = 2 ∨ xa = 3 := by omega
  rcases this with rfl | rfl | rfl | rfl
  · exact refReduced0 xk b d key NA nm nc A l c w hT hl
  · exact refReduced1 xk b d key NA nm nc A l c w hT hl
  · exact refReduced2 xk b d key NA nm nc A l c w hT hl
  · exact refReduced3 xk b d key NA nm nc A l c w hT hl
end Op
end Go.Proofs.Ytcjdjdhjbchaaaa
