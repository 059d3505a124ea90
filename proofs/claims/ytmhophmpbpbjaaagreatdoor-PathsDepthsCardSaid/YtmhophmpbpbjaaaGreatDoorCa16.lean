/- PlClone, PlCopied, BsMath, PcBits -/
import Derived.Test.YtmhophmpbpbjaaaGreatDoorCa8
import Derived.Test.YtmhophmpbpbjaaaGreatDoorCa10
import Derived.Lib.SliceRun
import Derived.Lib.Hide
import Derived.Laws.OwnMore
import Derived.Laws.Entries
import Derived.Lib.LaidTab
namespace Go.Proofs.YtmhophmpbpbjaaaGreatDoor
set_option linter.unusedVariables false
section
open Go.ChangeShapes Go.WideShapes Go.ChangeAt Go.RowKit Go.BigFrame
set_option maxRecDepth 100000
def CloneD {α : Type} (κ : Kind α) (T : TypeId) (l : List α) (w : World) (e : Ending) (w' : World) : Prop := (∃ v, e = .returned v ∧ w'.ownsRow w.heap.size T κ.K v l.length (Rw.row κ l)) ∧ Below w.heap.size w w'
theorem made0 (w : World) (T : TypeId) (size : Nat) : (w.alloc (.cells #[] T)).ownsRow w.heap.size T size (.slice (some ⟨w.heap.size, 0, none⟩) 0 0) 0 [] := World.ownsRow_made w #[] 0 (Nat.le_refl _) (Nat.zero_le _) (by simp)
set_option maxHeartbeats 2000000 in
theorem cloneG_any (A : Option Addr) (l : List Gn) (c : Nat) (w : World) (hT : Rw.Ts kindG w A l) (hc : A = none → c = 0 ∧ l = []) (hl : l.length ≤ 60000000) :
    Calls Tryz.prog 76 #[.slice A l.length c] w (CloneD kindG 35 l w) := by
  have q22 : ∀ (w : World) (a : Option Addr) (n c n' c' : Nat), (binOp .eql 23 (.slice a n c) (.slice none n' c')).run Tryz.prog w = .ok (.bool a.isNone) w := fun w a n c n' c' => Lib.run_eql_slice_nil w _ _ a n c n' c' Tryz.underlying23
  cases A with
  | none =>
    obtain ⟨rfl, rfl⟩ := hc rfl
    clear hT hc
    go_enter Tryz.func76, Tryz.ntmps76
    go_wp2
    go_ret
    exact ⟨⟨_, rfl, World.ownsRow_nil _ _ _ _⟩, Below.refl _ _⟩
  | some a =>
    have HT := Lib.hid hT; clear hT hc
    go_enter Tryz.func76, Tryz.ntmps76
    go_wp2_with (at_builtin; refine Rw.append_own kindG 35 23 Tryz.underlying23 infoNode rfl rfl _ _ rfl w.heap.size _ 0 [] rfl (made0 w _ _) (some a) c l rfl (fun e => by cases e) (HT.out.below ((Below.refl _ _).alloc (Nat.le_refl _) _)) (by unfold maxLen; omega) (by omega) (by simp) ?_; intro v' w1 hown hgrow)
    have hb : Below w.heap.size w w1 := ((Below.refl _ w).alloc (Nat.le_refl _) _).grown hgrow (by simp) (by rintro k ⟨⟩; exact Nat.le_refl _)
    have HO := Lib.hid (And.intro hown hb); clear hown hb hgrow
    go_wp2_with fail
    go_ret
    refine ⟨⟨v', rfl, ?_⟩, HO.out.2⟩
    have h := HO.out.1
    rw [Nat.zero_add, List.nil_append] at h
    exact h
set_option maxHeartbeats 2000000 in
theorem cloneI_any (A : Option Addr) (l : List Int) (c : Nat) (w : World) (hT : Rw.Ts kindI w A l) (hc : A = none → c = 0 ∧ l = []) (hl : l.length ≤ 60000000) :
    Calls Tryz.prog 77 #[.slice A l.length c] w (CloneD kindI 3 l w) := by
  have q22 : ∀ (w : World) (a : Option Addr) (n c n' c' : Nat), (binOp .eql 33 (.slice a n c) (.slice none n' c')).run Tryz.prog w = .ok (.bool a.isNone) w := fun w a n c n' c' => Lib.run_eql_slice_nil w _ _ a n c n' c' Tryz.underlying33
  cases A with
  | none =>
    obtain ⟨rfl, rfl⟩ := hc rfl
    clear hT hc
    go_enter Tryz.func77, Tryz.ntmps77
    go_wp2
    go_ret
    exact ⟨⟨_, rfl, World.ownsRow_nil _ _ _ _⟩, Below.refl _ _⟩
  | some a =>
    have HT := Lib.hid hT; clear hT hc
    go_enter Tryz.func77, Tryz.ntmps77
    go_wp2_with (at_builtin; refine Rw.append_own kindI 3 33 Tryz.underlying33 infoInt rfl rfl _ _ rfl w.heap.size _ 0 [] rfl (made0 w _ _) (some a) c l rfl (fun e => by cases e) (HT.out.below ((Below.refl _ _).alloc (Nat.le_refl _) _)) (by unfold maxLen; omega) (by omega) (by simp) ?_; intro v' w1 hown hgrow)
    have hb : Below w.heap.size w w1 := ((Below.refl _ w).alloc (Nat.le_refl _) _).grown hgrow (by simp) (by rintro k ⟨⟩; exact Nat.le_refl _)
    have HO := Lib.hid (And.intro hown hb); clear hown hb hgrow
    go_wp2_with fail
    go_ret
    refine ⟨⟨v', rfl, ?_⟩, HO.out.2⟩
    have h := HO.out.1
    rw [Nat.zero_add, List.nil_append] at h
    exact h
set_option maxHeartbeats 2000000 in
theorem cloneS_any (A : Option Addr) (l : List Sm) (c : Nat) (w : World) (hT : Rw.Ts kindS w A l) (hc : A = none → c = 0 ∧ l = []) (hl : l.length ≤ 60000000) :
    Calls Tryz.prog 42 #[.slice A l.length c] w (CloneD kindS 44 l w) := by
  have q22 : ∀ (w : World) (a : Option Addr) (n c n' c' : Nat), (binOp .eql 36 (.slice a n c) (.slice none n' c')).run Tryz.prog w = .ok (.bool a.isNone) w := fun w a n c n' c' => Lib.run_eql_slice_nil w _ _ a n c n' c' Tryz.underlying36
  cases A with
  | none =>
    obtain ⟨rfl, rfl⟩ := hc rfl
    clear hT hc
    go_enter Tryz.func42, Tryz.ntmps42
    go_wp2
    go_ret
    exact ⟨⟨_, rfl, World.ownsRow_nil _ _ _ _⟩, Below.refl _ _⟩
  | some a =>
    have HT := Lib.hid hT; clear hT hc
    go_enter Tryz.func42, Tryz.ntmps42
    go_wp2_with (at_builtin; refine Rw.append_own kindS 44 36 Tryz.underlying36 Mx.infoSum rfl rfl _ _ rfl w.heap.size _ 0 [] rfl (made0 w _ _) (some a) c l rfl (fun e => by cases e) (HT.out.below ((Below.refl _ _).alloc (Nat.le_refl _) _)) (by unfold maxLen; omega) (by omega) (by simp) ?_; intro v' w1 hown hgrow)
    have hb : Below w.heap.size w w1 := ((Below.refl _ w).alloc (Nat.le_refl _) _).grown hgrow (by simp) (by rintro k ⟨⟩; exact Nat.le_refl _)
    have HO := Lib.hid (And.intro hown hb); clear hown hb hgrow
    go_wp2_with fail
    go_ret
    refine ⟨⟨v', rfl, ?_⟩, HO.out.2⟩
    have h := HO.out.1
    rw [Nat.zero_add, List.nil_append] at h
    exact h
end

section
open Go.ChangeShapes Go.WideShapes Go.ChangeAt Go.RowKit Go.BigFrame
set_option maxRecDepth 100000
theorem row_put {α : Type} (κ : Kind α) (t' : α) (j : Nat) (u : Value) (hj : j < κ.K) : ∀ (ts : List α) (i : Nat) (t : α), ts[i]? = some t → κ.cells t' = (κ.cells t).set j u → (Rw.row κ ts).set (i * κ.K + j) u = Rw.row κ (ts.set i t')
  | [], i, t, h, _ => by simp at h
  | x :: ts, 0, t, h, hc => by
    obtain rfl : x = t := by simpa using h
    rw [List.set_cons_zero, Rw.row_cons, Rw.row_cons, Nat.zero_mul, Nat.zero_add, List.set_append_left (h := by rw [κ.len]; exact hj), hc]
  | x :: ts, i + 1, t, h, hc => by
    rw [List.set_cons_succ, Rw.row_cons, Rw.row_cons, List.set_append_right (h := by rw [κ.len, Nat.succ_mul]; omega), κ.len, Nat.succ_mul, show i * κ.K + κ.K + j - κ.K = i * κ.K + j by omega, row_put κ t' j u hj ts i t (by simpa using h) hc]
structure CopS (w0 wx : World) (v : Value) (l : List Gn) (k : Nat) (M : List Gn) : Prop where
  len : M.length = l.length
  nd : nds M = nds l
  row : wx.ownsRow w0.heap.size 35 kindG.K v M.length (Rw.row kindG M)
  ok : ∀ (j : Nat) (x : Gn), M[j]? = some x → x.Ok
  own : ∀ (j : Nat) (x : Gn), j < k → M[j]? = some x → wx.ownsRow w0.heap.size 3 kindI.K (.slice x.A x.nd.ins.length x.c) x.nd.ins.length (Rw.row kindI x.nd.ins)
  old : ∀ (j : Nat), k ≤ j → M[j]? = l[j]?
  below : Below w0.heap.size w0 wx
section
variable {w0 wx wy wz : World} {v : Value} {l M : List Gn} {k : Nat}
theorem CopS.step {g cap : Nat} {x : Gn} {A : Option Addr} {c : Nat} (h : CopS w0 wx (.slice (some ⟨g, 0, none⟩) l.length cap) l k M) (hk : l[k]? = some x) (hb : Below wx.heap.size wx wy)
    (ho : wy.ownsRow wx.heap.size 3 kindI.K (.slice A x.nd.ins.length c) x.nd.ins.length (Rw.row kindI x.nd.ins)) (hc : x.nd.ins.length ≤ c) (hm : c ≤ maxLen) (hn : A = none → c = 0) :
    CopS w0 (wy.setCell ⟨g, k * 5 + 4, none⟩ (.slice A x.nd.ins.length c)) (.slice (some ⟨g, 0, none⟩) l.length cap) l (k + 1) (M.set k ⟨x.nd, A, c⟩) := by
  have hx : M[k]? = some x := (h.old k (Nat.le_refl _)).trans hk
  have hkl : k < M.length := (List.getElem?_eq_some_iff.1 hx).1
  have hokx := h.ok k x hx
  have hrow : wy.ownsRow w0.heap.size 35 kindG.K (.slice (some ⟨g, 0, none⟩) M.length cap) M.length (Rw.row kindG M) := by
    have := Rw.own_kept h.row hb
    rw [h.len] at this ⊢
    exact this
  have hst := (hrow.stored (k * 5 + 4) (.slice A x.nd.ins.length c)).1
  have e := row_put kindG (⟨x.nd, A, c⟩ : Gn) 4 (.slice A x.nd.ins.length c) (by decide) M k x hx rfl
  rw [show k * kindG.K + 4 = k * 5 + 4 from rfl] at e
  rw [e] at hst
  have hset := grown_set wy g (k * 5 + 4) (.slice A x.nd.ins.length c)
  have hgb : w0.heap.size ≤ g := (hrow.lt g rfl).1
  have keep : ∀ {base' n' : Nat} {u : Value} {ys : List Value}, wy.ownsRow base' 3 kindI.K u n' ys → (wy.setCell ⟨g, k * 5 + 4, none⟩ (.slice A x.nd.ins.length c)).ownsRow base' 3 kindI.K u n' ys := fun hy =>
    hy.kept hset (Rw.own_apart2 hrow hy (by decide))
  refine ⟨by rw [List.length_set]; exact h.len, ?_, ?_, fun j y hy => ?_, fun j y hj hy => ?_, fun j hj => ?_, (h.below.trans (hb.mono h.below.size)).setCell hgb _⟩
  · rw [← h.nd]
    unfold nds
    rw [List.map_set]
    apply List.ext_getElem?
    intro j
    by_cases e : k = j
    · subst e
      rw [List.getElem?_set_self (by rw [List.length_map]; exact hkl), List.getElem?_map, hx]; rfl
    · rw [List.getElem?_set_ne e]
  · rw [List.length_set]
    have := hst
    rw [h.len] at this ⊢
    exact this
  · by_cases e : k = j
    · subst e
      rw [List.getElem?_set_self hkl] at hy
      cases hy
      exact ⟨hokx.k, hokx.a, hokx.b, hokx.d, hokx.ins, ⟨hc, hm⟩, hn⟩
    · rw [List.getElem?_set_ne e] at hy; exact h.ok j y hy
  · by_cases e : k = j
    · subst e
      rw [List.getElem?_set_self hkl] at hy
      cases hy
      exact keep (own_base ho h.below.size)
    · rw [List.getElem?_set_ne e] at hy
      exact keep (Rw.own_kept (h.own j y (by omega) hy) hb)
  · rw [List.getElem?_set_ne (by omega)]; exact h.old j (by omega)
end
set_option maxHeartbeats 4000000 in
theorem copied_any (A : Option Addr) (l : List Gn) (c : Nat) (w : World) (hG : Gr w A l) (hn : A = none → c = 0 ∧ l = []) (hl : l.length ≤ 1000) (hi : ∀ x ∈ l, x.nd.ins.length ≤ 1000) :
    Calls Tryz.prog 38 #[.slice A l.length c] w (OwnedG l w) := by
  have hcl := cloneG_any A l c w hG.1 hn (by omega)
  have HCL := Lib.hid hcl; have HG := Lib.hid hG; have HI := Lib.hid hi; clear hcl hG hi hn
  go_enter Tryz.func38, Tryz.ntmps38
  go_wp2_with fail
  refine HCL.out.mono ?_; rintro e w1 ⟨⟨v, rfl, ho⟩, hb1⟩
  obtain ⟨CA, cc, rfl, _, _, _, _, _⟩ := Rw.Ts.of_own ho
  have hst : CopS w w1 (.slice CA l.length cc) l 0 l := ⟨rfl, rfl, ho, fun j x hx => HG.out.ok hx, fun j x hj => absurd hj (Nat.not_lt_zero _), fun j _ => rfl, hb1⟩
  have HST := Lib.hid hst; clear hst ho hb1 HCL
  dsimp only
  go_wp2_with fail
  go_loopw [10] (fun n wx => ∃ (k : Nat) (M : List Gn), n = .int .i64 k ∧ k ≤ l.length ∧ CopS w wx (.slice CA l.length cc) l k M) (fun n _ => l.length - (intOf n).toNat)
  case atStart => exact ⟨0, l, rfl, Nat.zero_le _, HST.out⟩
  case round =>
    obtain ⟨wo, rfl⟩ : ∃ wo, wo = wr := ⟨_, rfl⟩
    obtain ⟨k, M, rfl, hk, hS⟩ := hrel
    have HS := Lib.hid hS; clear hS HST
    by_cases hkl : k < l.length
    · have hkz : (k : Int) < (l.length : Int) := by omega
      obtain ⟨x, hx⟩ : ∃ x, l[k]? = some x := ⟨_, List.getElem?_eq_getElem hkl⟩
      have hxM : M[k]? = some x := (HS.out.old k (Nat.le_refl _)).trans hx
      obtain ⟨g, rfl⟩ : ∃ g, CA = some ⟨g, 0, none⟩ := by
        obtain ⟨g, cap, e, _⟩ := World.ownsRow.form HS.out.row (by have := HS.out.len; omega)
        injection e with e; exact ⟨g, e⟩
      have hrw : wo.ownsRow w.heap.size 35 kindG.K (.slice (some ⟨g, 0, none⟩) l.length cc) M.length (Rw.row kindG M) := HS.out.row
      have hcell : ∀ (j : Nat) (u : Value), (kindG.cells x)[j]? = some u → wo.cell? ⟨g, k * 5 + j, none⟩ = some u := fun j u hu => by
        have := World.ownsRow.cells hrw (g := g) rfl (k * 5 + j) u (Rw.row_at (κ := kindG) M k x hxM j u hu)
        rw [add_zero_off] at this
        exact this
      have hgl : g < wo.heap.size := (hrw.lt g rfl).2
      have hci := fun wz (hz : Below wo.heap.size wo wz) => cloneI_any x.A x.nd.ins x.c wz (((HG.out.below HS.out.below).ins hx).below hz) (fun e => ⟨(HG.out.ok hx).none e, by
        have h1 := (HG.out.ok hx).c; have h2 := (HG.out.ok hx).none e
        exact List.eq_nil_of_length_eq_zero (by omega)⟩) (by have := HI.out x (List.mem_of_getElem? hx); omega)
      have HCI := Lib.hid hci; have HX := Lib.hid hx; clear hci hx hxM hrw
      obtain ⟨⟨xk, xa, xb, xd, xi⟩, xA, xc⟩ := x
      have c0 := hcell 0 _ rfl; have c1 := hcell 1 _ rfl; have c2 := hcell 2 _ rfl; have c3 := hcell 3 _ rfl; have c4 := hcell 4 _ rfl
      simp only [Nat.add_zero] at c0 c1 c2 c3 c4
      clear hcell
      go_wp2_with fail
      refine (HCI.out _ ((Below.refl _ _).alloc (Nat.le_refl _) _)).mono ?_; rintro e w3 ⟨⟨v3, rfl, ho3⟩, hb3⟩
      obtain ⟨A3, c3', rfl, _, hc31, hc32, hc33, _⟩ := Rw.Ts.of_own ho3
      have hb4 : Below wo.heap.size wo w3 := ((Below.refl wo.heap.size wo).alloc (Nat.le_refl _) (.cells #[.int .u8 (xk : Nat), .int .u8 (xa : Nat), .int .i64 xb, .int .i64 xd, .slice xA xi.length xc] 35)).trans (hb3.mono (by simp))
      have ho4 : w3.ownsRow wo.heap.size 3 kindI.K (.slice A3 xi.length c3') xi.length (Rw.row kindI xi) := own_base ho3 (by simp)
      have hnext := HS.out.step HX.out hb4 ho4 hc31 hc32 hc33
      have hrow3 := Rw.own_kept HS.out.row hb4
      have f4 : w3.frozen? ⟨g, k * 5 + 4, none⟩ = false := World.ownsRow.frozenAt (by have := HS.out.len; rw [this] at hrow3; exact hrow3) _
      have d4 : w3.cell? ⟨g, k * 5 + 4, none⟩ = some (.slice xA xi.length xc) := (hb4.cell (p := ⟨g, k * 5 + 4, none⟩) hgl).trans c4
      have hgl3 : g < w3.heap.size := Nat.lt_of_lt_of_le hgl hb4.size
      have HNX := Lib.hid hnext; clear hnext hrow3 ho3 ho4 hb3 hb4 c0 c1 c2 c3 c4 HCI
      dsimp only
      go_wp2_with fail
      go_roundw
      case rel => exact ⟨k + 1, _, by simp, by omega, HNX.out⟩
      case measure => simp only [intOf]; omega
    · have hkz : ¬ (k : Int) < (l.length : Int) := by omega
      have hke : k = l.length := by omega
      have HK := Lib.hid hke; clear hke
      go_wp2_with fail
      go_ret
      have h := HS.out
      have hr := h.row
      refine ⟨⟨_, M, rfl, h.nd, ⟨hr, fun y hy => ?_, fun y hy => ?_⟩⟩, h.below⟩
      · obtain ⟨j, hj⟩ := List.getElem?_of_mem hy
        exact h.ok j y hj
      · obtain ⟨j, hj⟩ := List.getElem?_of_mem hy
        exact h.own j y (by rw [HK.out, ← h.len]; exact (List.getElem?_eq_some_iff.1 hj).1) hj
end

section
open Go
theorem wrap32 {n : Nat} (h : n < 4294967296) : IntKind.u32.wrap (n : Int) = (n : Int) := by
  simp [IntKind.wrap, IntKind.bits, IntKind.signed]; omega
theorem ofInt32 {n : Nat} (h : n < 4294967296) : BitVec.ofInt 32 (n : Int) = BitVec.ofNat 32 n := by
  apply BitVec.eq_of_toNat_eq
  rw [BitVec.toNat_ofInt, BitVec.toNat_ofNat]
  omega
theorem bits_or32 {a b : Nat} (ha : a < 4294967296) (hb : b < 4294967296) : bits .or .u32 (a : Int) (b : Int) = ((a ||| b : Nat) : Int) := by
  have h : a ||| b < 4294967296 := Nat.or_lt_two_pow (n := 32) ha hb
  show IntKind.u32.wrap ((BitVec.ofInt 32 (a : Int) ||| BitVec.ofInt 32 (b : Int)).toNat : Int) = _
  rw [ofInt32 ha, ofInt32 hb, BitVec.toNat_or, BitVec.toNat_ofNat, BitVec.toNat_ofNat, Nat.mod_eq_of_lt ha, Nat.mod_eq_of_lt hb, wrap32 h]
theorem bits_and32 {a b : Nat} (ha : a < 4294967296) (hb : b < 4294967296) : bits .and .u32 (a : Int) (b : Int) = ((a &&& b : Nat) : Int) := by
  have h : a &&& b < 4294967296 := Nat.lt_of_le_of_lt Nat.and_le_left ha
  show IntKind.u32.wrap ((BitVec.ofInt 32 (a : Int) &&& BitVec.ofInt 32 (b : Int)).toNat : Int) = _
  rw [ofInt32 ha, ofInt32 hb, BitVec.toNat_and, BitVec.toNat_ofNat, BitVec.toNat_ofNat, Nat.mod_eq_of_lt ha, Nat.mod_eq_of_lt hb, wrap32 h]
theorem has_bit {m i : Nat} (hm : m < 4294967296) : (bits .and .u32 ((m : Int) / 2 ^ i) 1 == 1) = m.testBit i := by
  have h1 : ((m : Int) / 2 ^ i) = ((m / 2 ^ i : Nat) : Int) := by rw [Int.natCast_ediv, Int.natCast_pow]; rfl
  have h2 : m / 2 ^ i < 4294967296 := Nat.lt_of_le_of_lt (Nat.div_le_self _ _) hm
  rw [h1, show (1 : Int) = ((1 : Nat) : Int) from rfl, bits_and32 h2 (by omega), Nat.testBit_eq_decide_div_mod_eq, Nat.and_one_is_mod]
  rw [Bool.eq_iff_iff, beq_iff_eq, decide_eq_true_eq]
  omega
theorem with_bit {m i : Nat} (hm : m < 4294967296) (hi : i < 32) : bits .or .u32 (m : Int) (IntKind.u32.wrap (2 ^ i)) = ((m ||| 2 ^ i : Nat) : Int) := by
  have hp : 2 ^ i < 4294967296 := Nat.pow_lt_pow_right (a := 2) (by omega) (show i < 32 from hi)
  have h1 : (2 ^ i : Int) = ((2 ^ i : Nat) : Int) := by rw [Int.natCast_pow]; rfl
  rw [h1, wrap32 hp, bits_or32 hm hp]
theorem with_lt {m i : Nat} (hm : m < 4294967296) (hi : i < 32) : m ||| 2 ^ i < 4294967296 :=
  Nat.or_lt_two_pow (n := 32) hm (Nat.pow_lt_pow_right (a := 2) (by omega) hi)
theorem or_lt32 {a b : Nat} (ha : a < 4294967296) (hb : b < 4294967296) : a ||| b < 4294967296 := Nat.or_lt_two_pow (n := 32) ha hb
theorem with_test {m i j : Nat} : (m ||| 2 ^ i).testBit j = (m.testBit j || decide (i = j)) := by rw [Nat.testBit_or, Nat.testBit_two_pow]
def tzTab : List Nat := [0, 1, 28, 2, 29, 14, 24, 3, 30, 22, 20, 15, 25, 17, 4, 8, 31, 27, 13, 23, 21, 19, 16, 7, 26, 12, 18, 6, 11, 5, 10, 9]
theorem low_bit {m : Nat} (h0 : m ≠ 0) (hm : m < 4294967296) : ∃ k q, k < 32 ∧ m = 2 ^ k * (2 * q + 1) ∧ m.testBit k = true ∧ ∀ j, j < k → m.testBit j = false := by
  have key : ∀ n m : Nat, m ≠ 0 → m < 2 ^ n → ∃ k q, k < n ∧ m = 2 ^ k * (2 * q + 1) := by
    intro n
    induction n with
    | zero => intro m h0 hm; simp at hm; exact absurd hm h0
    | succ n ih =>
      intro m h0 hm
      by_cases ho : m % 2 = 1
      · exact ⟨0, m / 2, by omega, by rw [Nat.pow_zero]; omega⟩
      · rw [Nat.pow_succ] at hm
        obtain ⟨k, q, hk, e⟩ := ih (m / 2) (by omega) (by omega)
        exact ⟨k + 1, q, by omega, by rw [Nat.pow_succ, Nat.mul_right_comm, ← e]; omega⟩
  obtain ⟨k, q, hk, e⟩ := key 32 m h0 hm
  refine ⟨k, q, hk, e, ?_, ?_⟩
  · rw [e, Nat.testBit_two_pow_mul]; simp
  · intro j hj
    rw [e, Nat.testBit_two_pow_mul]; simp; intro h; omega
theorem and_neg {k q m : Nat} (hk : k < 32) (hm : m < 4294967296) (e : m = 2 ^ k * (2 * q + 1)) : m &&& (4294967296 - m) = 2 ^ k := by
  obtain ⟨p, hp⟩ : ∃ p, p = 2 ^ k := ⟨_, rfl⟩
  have hpp : 2 ^ k ∣ 4294967296 := Nat.pow_dvd_pow (a := 2) (m := k) (n := 32) (by omega)
  obtain ⟨r, hr⟩ := hpp
  obtain ⟨r', hr'⟩ : ∃ r', r = 2 * r' := by
    refine ⟨2 ^ (31 - k), ?_⟩
    have h1 : 2 ^ k * (2 * 2 ^ (31 - k)) = 4294967296 := by
      rw [← Nat.pow_succ', ← Nat.pow_add]; exact congrArg (2 ^ ·) (show k + (31 - k + 1) = 32 by omega)
    exact Nat.eq_of_mul_eq_mul_left (Nat.two_pow_pos k) (by rw [h1, ← hr])
  subst hr'
  have hq : 2 * q + 1 ≤ 2 * r' := by
    apply Nat.le_of_mul_le_mul_left (c := 2 ^ k) _ (Nat.two_pow_pos k)
    rw [← e, ← hr]; omega
  have h2 : 4294967296 - m = 2 ^ k * (2 * (r' - q - 1) + 1) := by
    rw [e, hr, ← Nat.mul_sub]; congr 1; omega
  have h3 : 2 * (r' - q - 1) + 1 = 2 * (r' - 1 - q) + 1 := by omega
  rw [h2]
  apply Nat.eq_of_testBit_eq
  intro i
  rw [Nat.testBit_and, e, Nat.testBit_two_pow_mul, Nat.testBit_two_pow_mul, Nat.testBit_two_pow]
  by_cases hik : k ≤ i
  · obtain ⟨d, rfl⟩ : ∃ d, i = k + d := ⟨i - k, by omega⟩
    have hd : k + d - k = d := by omega
    rw [hd]
    simp only [ge_iff_le, hik, decide_true, Bool.true_and]
    cases d with
    | zero => simp
    | succ d =>
      have e1 : (2 * q + 1).testBit (d + 1) = q.testBit d := by rw [Nat.testBit_succ]; congr 1; omega
      have e2 : (2 * (r' - q - 1) + 1).testBit (d + 1) = (r' - q - 1).testBit d := by rw [Nat.testBit_succ]; congr 1; omega
      rw [e1, e2]
      have e3 : decide (k = k + (d + 1)) = false := decide_eq_false (by omega)
      rw [e3]
      obtain ⟨n, hn⟩ : ∃ n, r' = 2 ^ n := ⟨31 - k, by
        have h1 : 2 ^ k * (2 * 2 ^ (31 - k)) = 4294967296 := by
          rw [← Nat.pow_succ', ← Nat.pow_add]; exact congrArg (2 ^ ·) (show k + (31 - k + 1) = 32 by omega)
        have := Nat.eq_of_mul_eq_mul_left (Nat.two_pow_pos k) (hr.symm.trans h1.symm)
        omega⟩
      rw [hn, show 2 ^ n - q - 1 = 2 ^ n - (q + 1) by omega, Nat.testBit_two_pow_sub_succ (by omega)]
      cases q.testBit d <;> simp
  · have : decide (i ≥ k) = false := decide_eq_false (by omega)
    rw [this]; simp; omega
theorem tz_at : ∀ k, k < 32 → tzTab.getD (2 ^ k * 125613361 % 4294967296 / 134217728) 0 = k := by decide +kernel
theorem tz_lt (k : Nat) : 2 ^ k * 125613361 % 4294967296 / 134217728 < 32 := by omega
/-! ## ways closed up node by node -/
def Way (E : Nat → Nat → Prop) : Nat → Nat → Nat → Prop
  | 0, i, j => E i j
  | k + 1, i, j => Way E k i j ∨ (Way E k i k ∧ Way E k k j)
inductive Plus (E : Nat → Nat → Prop) (i : Nat) : Nat → Prop
  | one {j : Nat} : E i j → Plus E i j
  | more {j k : Nat} : Plus E i j → E j k → Plus E i k
theorem Plus.trans {E : Nat → Nat → Prop} {i j k : Nat} (h : Plus E i j) (h2 : Plus E j k) : Plus E i k := by
  induction h2 with
  | one h2 => exact h.more h2
  | more _ h3 ih => exact ih.more h3
theorem Way.plus {E : Nat → Nat → Prop} : ∀ {k i j : Nat}, Way E k i j → Plus E i j
  | 0, i, j, h => .one h
  | k + 1, i, j, h => h.elim (fun h => Way.plus h) fun h => (Way.plus h.1).trans (Way.plus h.2)
theorem Way.join {E : Nat → Nat → Prop} : ∀ {k i m j : Nat}, m < k → Way E k i m → Way E k m j → Way E k i j
  | 0, i, m, j, h, _, _ => absurd h (by omega)
  | k + 1, i, m, j, hm, h1, h2 => by
    by_cases e : m = k
    · subst e
      exact .inr ⟨h1.elim id And.left, h2.elim id And.right⟩
    · have hk : m < k := by omega
      rcases h1 with h1 | ⟨h1, h1'⟩
      · rcases h2 with h2 | ⟨h2, h2'⟩
        · exact .inl (Way.join hk h1 h2)
        · exact .inr ⟨Way.join hk h1 h2, h2'⟩
      · rcases h2 with h2 | ⟨h2, h2'⟩
        · exact .inr ⟨h1, Way.join hk h1' h2⟩
        · exact .inr ⟨h1, h2'⟩
theorem Way.edge {E : Nat → Nat → Prop} {i j : Nat} (h : E i j) : ∀ k, Way E k i j
  | 0 => h
  | k + 1 => .inl (Way.edge h k)
theorem Plus.way {E : Nat → Nat → Prop} {n i j : Nat} (hE : ∀ a b, E a b → a < n ∧ b < n) (h : Plus E i j) : Way E n i j := by
  induction h with
  | one h => exact Way.edge h n
  | more h h2 ih => exact Way.join (hE _ _ h2).1 ih (Way.edge h2 n)
theorem way_iff {E : Nat → Nat → Prop} {n i j : Nat} (hE : ∀ a b, E a b → a < n ∧ b < n) : Way E n i j ↔ Plus E i j := ⟨Way.plus, Plus.way hE⟩
/-! ## cycles that don't go on -/
def Feeds (g : List Nd) (least : Int) (a b : Nat) : Prop := ∃ x y, g[a]? = some x ∧ g[b]? = some y ∧ x.stays least = true ∧ y.stays least = true ∧ ((a : Nat) : Int) ∈ y.ins
theorem Feeds.lt {g : List Nd} {least : Int} {a b : Nat} (h : Feeds g least a b) : a < g.length ∧ b < g.length := by
  obtain ⟨x, y, hx, hy, _⟩ := h
  exact ⟨(List.getElem?_eq_some_iff.1 hx).1, (List.getElem?_eq_some_iff.1 hy).1⟩
def LeastAt (g : List Nd) (least : Int) (j : Nat) : Prop := ∃ x, g[j]? = some x ∧ x.d = least ∧ x.k ≠ 9
theorem step_feeds {g : List Nd} {least : Int} {s t : Nat} {x : Nd} (hx : g[s / 2]? = some x) (hs : x.stays least = true) (h : StepN g least s t) : Feeds g least (s / 2) (t / 2) := by
  obtain ⟨y, hy, hin, hys, _⟩ := h
  exact ⟨x, y, hx, hy, hs, hys, hin⟩
theorem reach_plus {g : List Nd} {least : Int} {s t : Nat} {x : Nd} (hx : g[s / 2]? = some x) (hs : x.stays least = true) (h : ReachN g least s t) :
    Plus (Feeds g least) (s / 2) (t / 2) ∧ (t % 2 = 1 → s % 2 = 1 ∨ ∃ j, LeastAt g least j ∧ Plus (Feeds g least) (s / 2) j ∧ (j = t / 2 ∨ Plus (Feeds g least) j (t / 2))) := by
  induction h with
  | @one t h =>
    have hf := step_feeds hx hs h
    refine ⟨.one hf, fun ht => ?_⟩
    obtain ⟨y, hy, hin, hys, e⟩ := h
    by_cases hd : y.d = least
    · refine .inr ⟨t / 2, ⟨y, hy, hd, ?_⟩, .one hf, .inl rfl⟩
      unfold Nd.stays at hys; rw [decide_eq_true_eq] at hys; omega
    · rw [if_neg hd] at e; left; omega
  | @more t u h1 h2 ih =>
    obtain ⟨i1, i2⟩ := ih
    have hnode : ∃ z, g[t / 2]? = some z ∧ z.stays least = true := by
      have : ∃ s', StepN g least s' t := by cases h1 with
        | one h => exact ⟨_, h⟩
        | more _ h => exact ⟨_, h⟩
      obtain ⟨s', z, hz, _, hzs, _⟩ := this
      exact ⟨z, hz, hzs⟩
    obtain ⟨z, hz, hzs⟩ := hnode
    have hf := step_feeds hz hzs h2
    refine ⟨i1.more hf, fun hu => ?_⟩
    obtain ⟨y, hy, hin, hys, e⟩ := h2
    by_cases hd : y.d = least
    · refine .inr ⟨u / 2, ⟨y, hy, hd, ?_⟩, i1.more hf, .inl rfl⟩
      unfold Nd.stays at hys; rw [decide_eq_true_eq] at hys; omega
    · rw [if_neg hd] at e
      rcases i2 (by omega) with h | ⟨j, hj, h3, h4⟩
      · exact .inl h
      · refine .inr ⟨j, hj, h3, .inr ?_⟩
        rcases h4 with rfl | h4
        · exact .one hf
        · exact h4.more hf
def nextL (least : Int) (s n : Nat) (x : Nd) : Nat := 2 * n + if x.d = least then 1 else s % 2
theorem plus_reach {g : List Nd} {least : Int} {a b : Nat} (h : Plus (Feeds g least) a b) : ∀ s, s / 2 = a → ∃ t, t / 2 = b ∧ ReachN g least s t ∧ (s % 2 = 1 → t % 2 = 1) ∧ (LeastAt g least b → t % 2 = 1) := by
  induction h with
  | @one b h =>
    intro s hs
    obtain ⟨x, y, hx, hy, hxs, hys, hin⟩ := h
    refine ⟨nextL least s b y, by unfold nextL; split <;> omega, .one ⟨y, ?_, by rw [hs]; exact hin, hys, ?_⟩, ?_, ?_⟩
    · rw [show nextL least s b y / 2 = b by unfold nextL; split <;> omega]; exact hy
    · unfold nextL; split <;> omega
    · intro h; unfold nextL; split <;> omega
    · rintro ⟨z, hz, hd, _⟩
      rw [hy] at hz; injection hz with hz; subst hz
      unfold nextL; rw [if_pos hd]; omega
  | @more b c h1 h2 ih =>
    intro s hs
    obtain ⟨t, ht, hr, hp, _⟩ := ih s hs
    obtain ⟨x, y, hx, hy, hxs, hys, hin⟩ := h2
    refine ⟨nextL least t c y, by unfold nextL; split <;> omega, hr.more ⟨y, ?_, by rw [ht]; exact hin, hys, ?_⟩, ?_, ?_⟩
    · rw [show nextL least t c y / 2 = c by unfold nextL; split <;> omega]; exact hy
    · unfold nextL; split <;> omega
    · intro h; have := hp h; unfold nextL; split <;> omega
    · rintro ⟨z, hz, hd, _⟩
      rw [hy] at hz; injection hz with hz; subst hz
      unfold nextL; rw [if_pos hd]; omega
def InBad (g : List Nd) (least : Int) (i : Nat) : Prop := ∃ j, LeastAt g least j ∧ Plus (Feeds g least) i j ∧ Plus (Feeds g least) j i
theorem Plus.first {E : Nat → Nat → Prop} {i j : Nat} (h : Plus E i j) : ∃ b, E i b := by
  induction h with
  | one h => exact ⟨_, h⟩
  | more _ _ ih => exact ih
theorem stuck_iff {g : List Nd} {i : Nat} {least : Int} : Stuck g i least ↔ InBad g least i := by
  constructor
  · rintro ⟨x, hx, hs, hr⟩
    have hst : startN x i least / 2 = i := by unfold startN; split <;> omega
    obtain ⟨h1, h2⟩ := reach_plus (s := startN x i least) (by rw [hst]; exact hx) hs hr
    rw [hst, show (2 * i + 1) / 2 = i by omega] at h1 h2
    rcases h2 (by omega) with h | ⟨j, hj, h3, h4⟩
    · have hd : x.d = least := by unfold startN at h; split at h <;> omega
      refine ⟨i, ⟨x, hx, hd, ?_⟩, h1, h1⟩
      unfold Nd.stays at hs; rw [decide_eq_true_eq] at hs; omega
    · refine ⟨j, hj, h3, ?_⟩
      rcases h4 with rfl | h4
      · exact h1
      · exact h4
  · rintro ⟨j, hj, h1, h2⟩
    obtain ⟨b, x, y, hx, hy, hxs, _, _⟩ := h1.first
    have hst : startN x i least / 2 = i := by unfold startN; split <;> omega
    obtain ⟨t, ht, hr, _, hl⟩ := plus_reach h1 (startN x i least) hst
    obtain ⟨u, hu, hr2, hp2, _⟩ := plus_reach h2 t ht
    have : u = 2 * i + 1 := by have := hp2 (hl hj); omega
    subst this
    exact ⟨x, hx, hxs, hr.trans hr2⟩
theorem bad_iff {g : List Nd} {i : Nat} (hd : ∀ x ∈ g, 0 ≤ x.d ∧ x.d ≤ 3) : BadAt g i ↔ ∃ d : Nat, d < 4 ∧ InBad g d i := by
  constructor
  · rintro ⟨x, hx, least, h0, h1, hs⟩
    have := hd x (List.mem_of_getElem? hx)
    exact ⟨least.toNat, by omega, by rw [Int.toNat_of_nonneg h0]; exact stuck_iff.1 hs⟩
  · rintro ⟨d, hd4, hb⟩
    have hs := stuck_iff.2 hb
    obtain ⟨x, hx, hxs, _⟩ := id hs
    refine ⟨x, hx, d, by omega, ?_, hs⟩
    unfold Nd.stays at hxs; rw [decide_eq_true_eq] at hxs; omega
end

section
open Go.ChangeShapes Go.WideShapes Go.ChangeAt Go.RowKit Go.BigFrame
set_option maxRecDepth 100000
theorem retu {a b : Int} (h : a = b) : Ending.returned (.int .u32 a) = .returned (.int .u32 b) := by rw [h]
theorem pcHas_any (m i : Nat) (w : World) (hm : m < 4294967296) (hi : i < 32) :
    Calls Tryz.prog 155 #[.int .u32 m, .int .i64 i] w fun e w' => e = .returned (.bool (m.testBit i)) ∧ w = w' := by
  have hi0 : (0 : Int) ≤ (i : Int) := by omega
  have hi1 : (i : Int) ≤ 32 := by omega
  have HH := Lib.hid (has_bit (i := i) hm); clear hm
  go_enter Tryz.func155, Tryz.ntmps155
  go_wp2_with fail
  go_ret
  exact ⟨retb HH.out, rfl⟩
theorem pcWith_any (m i : Nat) (w : World) (hm : m < 4294967296) (hi : i < 32) :
    Calls Tryz.prog 153 #[.int .u32 m, .int .i64 i] w fun e w' => e = .returned (.int .u32 ((m ||| 2 ^ i : Nat) : Int)) ∧ w = w' := by
  have hi0 : (0 : Int) ≤ (i : Int) := by omega
  have hi1 : (i : Int) ≤ 32 := by omega
  have HH := Lib.hid (with_bit hm hi); clear hm
  go_enter Tryz.func153, Tryz.ntmps153
  go_wp2_with fail
  go_ret
  exact ⟨retu HH.out, rfl⟩
def Tab (w : World) : Prop := ∀ i, i < 32 → w.cell? ⟨0, i, none⟩ = some (.int .u8 ((tzTab.getD i 0 : Nat) : Int))
theorem Tab.below {w w' : World} (h : Tab w) (hb : Below w.heap.size w w') : Tab w' := fun i hi => by
  have hc := h i hi
  have hl := cell_lt hc
  rw [hb.cell hl]; exact hc
def LowD (m : Nat) (w : World) (e : Ending) (w' : World) : Prop := ∃ k : Nat, e = .returned (.int .i64 (k : Int)) ∧ w = w' ∧ k < 32 ∧ m.testBit k = true ∧ ∀ j, j < k → m.testBit j = false
theorem neg32 {m : Nat} (h0 : m ≠ 0) (hm : m < 4294967296) : -(m : Int) % 4294967296 = ((4294967296 - m : Nat) : Int) := by
  omega
theorem mul32 (a b : Nat) : (a : Int) * (b : Int) % 4294967296 = ((a * b % 4294967296 : Nat) : Int) := by
  simp
set_option maxHeartbeats 4000000 in
theorem pcLow_any (m : Nat) (w : World) (h0 : m ≠ 0) (hm : m < 4294967296) (hT : Tab w) :
    Calls Tryz.prog 75 #[.int .u32 m] w (LowD m w) := by
  obtain ⟨k, q, hk, e, hb, hl⟩ := low_bit h0 hm
  have h1 : bits .and .u32 (m : Int) (-(m : Int) % 4294967296) = ((2 ^ k : Nat) : Int) := by rw [neg32 h0 hm, bits_and32 hm (by omega), and_neg hk hm e]
  have h2 : ((2 ^ k : Nat) : Int) * 125613361 % 4294967296 = ((2 ^ k * 125613361 % 4294967296 : Nat) : Int) := mul32 (2 ^ k) 125613361
  obtain ⟨X, hX⟩ : ∃ X : Nat, 2 ^ k * 125613361 % 4294967296 / 134217728 = X := ⟨_, rfl⟩
  have h3 : ((2 ^ k * 125613361 % 4294967296 : Nat) : Int) / 134217728 = (X : Int) := by rw [← hX]; rfl
  have hX32 : X < 32 := by rw [← hX]; exact tz_lt k
  have hc := hT X hX32
  rw [← hX, tz_at k hk, hX] at hc
  have hmz : ((m : Int) == 0) = false := by rw [beq_eq_false_iff_ne]; omega
  have HF := Lib.hid (And.intro hk (And.intro hb hl)); have H1 := Lib.hid h1; have H2 := Lib.hid h2; have H3 := Lib.hid h3
  clear e hb hl hT h1 h2 h3 hX
  generalize ((2 ^ k : Nat) : Int) = p at *
  generalize ((2 ^ k * 125613361 % 4294967296 : Nat) : Int) = r at *
  have h1 := H1.out; have h2 := H2.out; have h3 := H3.out
  have hXz : (X : Int) < 32 := by omega
  go_enter Tryz.func75, Tryz.ntmps75
  go_wp2_with fail
  go_ret
  exact ⟨k, rfl, rfl, HF.out⟩
end
end Go.Proofs.YtmhophmpbpbjaaaGreatDoor
