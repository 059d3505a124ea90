/- What forbids a call; the file of a name. -/
import Derived.Test.YtgfdpilgonpokaaOps
import Derived.Test.YtgfdpilgonpokaaRegion
namespace Go.Proofs.Ytgfdpilgonpokaa
open Go.ChangeShapes Go.WideShapes Go.ChangeAt Go.RowKit Go.BigFrame
set_option linter.unusedVariables false

/-- a name has from 1 to 128 bytes -/
def okName (s : ByteArray) : Bool := decide (1 ≤ s.size) && decide (s.size ≤ 128)
def lookE (o : Bool) (ns : List ByteArray) : Int := if o = true then 30 else if ns.all okName = true then 0 else 2

theorem lookE_bad {ns : List ByteArray} {k : Nat} (hk : k < ns.length) (h : okName ns[k] = false) : lookE false ns = 2 := by
  have : ns.all okName = false := by
    rw [Bool.eq_false_iff]
    intro ha
    rw [List.all_eq_true] at ha
    rw [ha _ (List.getElem_mem hk)] at h; cases h
  simp [lookE, this]
theorem all_next {ns : List ByteArray} {k : Nat} (hk : k < ns.length) (h : okName ns[k] = true) (ha : (ns.take k).all okName = true) : (ns.take (k + 1)).all okName = true := by
  rw [List.take_succ_eq_append_getElem hk, List.all_append, ha]
  simp [h]
theorem ret_int {k : IntKind} {a b : Int} (h : a = b) : Ending.returned (.int k a) = .returned (.int k b) := by rw [h]
def noneE (fs : Fs) (n : Nm) : Int := match getF n fs with | some _ => 0 | none => 5
/-- the pointer that a map has for a name -/
def ptrOf (fs : Fs) (g : Nm → Nat) (n : Nm) : Option Addr := (getF n fs).map fun _ => ⟨g n, 0, none⟩
theorem ptrOf_some {fs : Fs} {g : Nm → Nat} {n : Nm} {f : Fil} (h : getF n fs = some f) : ptrOf fs g n = some ⟨g n, 0, none⟩ := by simp [ptrOf, h]
theorem ptrOf_none {fs : Fs} {g : Nm → Nat} {n : Nm} (h : getF n fs = none) : ptrOf fs g n = none := by simp [ptrOf, h]
theorem lookup_run {w : World} {mm : Option Nat} {fs : Fs} {g : Nm → Nat} (hM : MapAt w mm fs g) (s : ByteArray) (hs : s.size ≤ 9223372036854775807) :
    (Instr.lookup TM (.map mm) (.string s) false).run Try.prog w = .ok (.pointer (ptrOf fs g s.data.toList)) w := by
  have hk := key_of (s := s) (by unfold maxLen; omega)
  cases mm with
  | none =>
    have hfs : fs = [] := hM
    subst hfs
    exact Maps.look_nil false str_law und_map (zero_ptr w) hk
  | some b =>
    obtain ⟨v, ps, hrun, hv⟩ := World.ownsMap.lookup (zd := .nil) (zp := []) hM str_law und_map (zero_ptr w) rfl hk
    rw [hrun]
    rw [dat_at] at hv
    cases hg : getF s.data.toList fs with
    | none => rw [hg] at hv; rw [refPtr_nil hv, ptrOf_none hg]
    | some f => rw [hg] at hv; rw [refPtr_inv hv, ptrOf_some hg]
section
variable {w : World} {p r u dd f : Nat} {m : Option Nat} {o : Bool}
set_option maxHeartbeats 1000000 in
theorem look_any (h : Row w p TD (dcells r u m dd o f)) (nb : Nat) (ns : List ByteArray) (rest : List Value) (hn : Row w nb 9 (ns.map Value.string ++ rest)) (c : Nat) (hc : ns.length ≤ c) (hl : ns.length ≤ 1000) (hs : ∀ s ∈ ns, s.size ≤ 9223372036854775807) :
    Calls Try.prog 35 #[.pointer (some ⟨p, 0, none⟩), .slice (some ⟨nb, 0, none⟩) ns.length c] w fun e w' => e = .returned (.int .i64 (lookE o ns)) ∧ w = w' := by
  obtain ⟨h0, h1, h2, h3, h4, h5⟩ := drow h
  have hcell : ∀ k (hk : k < ns.length), w.cell? ⟨nb, k, none⟩ = some (.string ns[k]) := by
    intro k hk
    rw [hn.cell, List.getElem?_append_left (by simpa using hk), List.getElem?_map, List.getElem?_eq_getElem hk]; rfl
  have HC := Lib.hid hcell; clear hcell
  have HS := Lib.hid hs; clear hs
  cases o with
  | true =>
    go_enter Try.func35, Try.ntmps35
    go_wp2
    go_ret
    exact ⟨rfl, rfl⟩
  | false =>
    go_enter Try.func35, Try.ntmps35
    go_wp2
    go_loop [6, 15] (fun _ i => ∃ k : Nat, k ≤ ns.length ∧ i = .int .i64 k ∧ (ns.take k).all okName = true) (fun _ i => ns.length - (intOf i).toNat)
    case atStart => exact ⟨0, Nat.zero_le _, rfl, rfl⟩
    case round =>
      obtain ⟨k, hk, rfl, hall⟩ := hrel
      have HA := Lib.hid hall; clear hall
      by_cases hlt : k < ns.length
      · have hck := HC.out k hlt
        have hsk := HS.out ns[k] (List.getElem_mem hlt)
        obtain ⟨s, hs⟩ : ∃ s, s = ns[k] := ⟨_, rfl⟩
        rw [← hs] at hck hsk
        have HK := Lib.hid hs; clear hs
        by_cases hb : s.size < 1
        · go_wp2
          go_ret
          exact ⟨ret_int (lookE_bad hlt (by rw [← HK.out]; simp [okName]; omega)).symm, rfl⟩
        · by_cases hb2 : 128 < s.size
          · go_wp2
            go_ret
            exact ⟨ret_int (lookE_bad hlt (by rw [← HK.out]; simp [okName]; omega)).symm, rfl⟩
          · go_wp2
            go_round
            case rel => exact ⟨k + 1, by omega, by go_num, all_next hlt (by rw [← HK.out]; simp [okName]; omega) HA.out⟩
            case measure => simp [intOf]; omega
      · go_wp2
        go_ret
        have ha := HA.out
        rw [List.take_of_length_le (by omega)] at ha
        exact ⟨ret_int (by simp [lookE, ha]), rfl⟩
set_option maxHeartbeats 1000000 in
theorem find_bad (h : Row w p TD (dcells r u m dd o f)) (nb : Nat) (ns : List ByteArray) (rest : List Value) (hn : Row w nb 9 (ns.map Value.string ++ rest)) (c : Nat) (hc : ns.length ≤ c) (hl : ns.length ≤ 1000) (hs : ∀ s ∈ ns, s.size ≤ 9223372036854775807) (hb : ¬ lookE o ns = 0) :
    Calls Try.prog 41 #[.pointer (some ⟨p, 0, none⟩), .slice (some ⟨nb, 0, none⟩) ns.length c] w fun e w' => e = .returned (.tuple #[.pointer none, .int .i64 (lookE o ns)]) ∧ w = w' := by
  have hb' : (lookE o ns == 0) = false := by simpa using hb
  have hb2 : (lookE o ns != 0) = true := by simpa using hb
  have H1 := Lib.hid hn; clear hn
  go_enter Try.func41, Try.ntmps41
  go_wp2_with (go_at_call 35; refine (look_any h nb ns rest H1.out c hc hl hs).mono ?_; rintro e w' ⟨rfl, rfl⟩)
  go_ret2
  exact ⟨rfl, rfl⟩
set_option maxHeartbeats 1000000 in
theorem find_ok (h : Row w p TD (dcells r u m dd o f)) {fs : Fs} {g : Nm → Nat} (hM : MapAt w m fs g) (nb : Nat) (s : ByteArray) (ns : List ByteArray) (rest : List Value) (hn : Row w nb 9 ((s :: ns).map Value.string ++ rest)) (c : Nat) (hc : (s :: ns).length ≤ c) (hl : (s :: ns).length ≤ 1000) (hs : ∀ x ∈ s :: ns, x.size ≤ 9223372036854775807) (hb : lookE o (s :: ns) = 0) :
    Calls Try.prog 41 #[.pointer (some ⟨p, 0, none⟩), .slice (some ⟨nb, 0, none⟩) (s :: ns).length c] w fun e w' => e = .returned (.tuple #[.pointer (ptrOf fs g s.data.toList), .int .i64 (noneE fs s.data.toList)]) ∧ ∃ k, w' = w.drewN k := by
  obtain ⟨h0, h1, h2, h3, h4, h5⟩ := drow h
  have hlk : ∀ k, (Instr.lookup TM (.map m) (.string s) false).run Try.prog (w.drewN k) = .ok (.pointer (ptrOf fs g s.data.toList)) (w.drewN k) := fun k => lookup_run (w := w.drewN k) (by cases m <;> exact hM) s (hs s (by simp))
  have hc0 : w.cell? ⟨nb, 0, none⟩ = some (.string s) := hn.cell 0
  have H1 := Lib.hid hn; clear hn
  have H2 := Lib.hid hs; clear hs
  go_enter Try.func41, Try.ntmps41
  go_wp2_with (go_at_call 35; refine (look_any h nb (s :: ns) rest H1.out c hc hl H2.out).mono ?_; rintro e w' ⟨rfl, rfl⟩)
  go_quiet (fail)
  cases hg : getF s.data.toList fs with
  | none =>
    rw [ptrOf_none hg]
    go_wp2
    go_ret2
    exact ⟨by rw [ptrOf_none hg, show noneE fs s.data.toList = 5 by simp [noneE, hg]]; rfl, _, rfl⟩
  | some f1 =>
    rw [ptrOf_some hg]
    go_wp2
    go_ret2
    exact ⟨by rw [ptrOf_some hg, show noneE fs s.data.toList = 0 by simp [noneE, hg]]; rfl, _, rfl⟩
end
end Go.Proofs.Ytgfdpilgonpokaa
