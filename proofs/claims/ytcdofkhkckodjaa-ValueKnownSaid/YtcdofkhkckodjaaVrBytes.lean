/- Bytes and numbers. -/
import Derived.Test.YtcdofkhkckodjaaVrCmp
import Derived.Test.YtcdofkhkckodjaaConv
namespace Go.Proofs.Ytcdofkhkckodjaa
namespace Vr
open Go.ChangeShapes Go.WideShapes Go.ChangeAt Go.RowKit Go.BigFrame
set_option linter.unusedVariables false
set_option maxRecDepth 100000
def kindB : Kind Nat := ⟨fun x => [.int .u8 (x : Nat)], 1, fun _ => rfl, fun t u hu => by simp only [List.mem_singleton] at hu; subst hu; rfl, by decide⟩
theorem infoU8 : (Try.prog.info? 5).map (fun i => (i.zero, i.size, i.bytes)) = some (some (.int .u8 0), 1, 1) := by kernel_rfl
theorem plain_addr {w : World} {a : Addr} {v : Value} (h : w.cell? a = some v) : ∃ b off, a = ⟨b, off, none⟩ := by
  obtain ⟨b, off, spot⟩ := a
  refine ⟨b, off, ?_⟩
  cases spot with
  | none => rfl
  | some s =>
    unfold World.cell? at h
    split at h
    · simp at h
    · cases h
theorem row_read {α : Type} {κ : Kind α} {f : Nat → Option Value} : ∀ {ts : List α}, (∀ (i : Nat) (t : α), ts[i]? = some t → ∀ (j : Nat) (u : Value), (κ.cells t)[j]? = some u → f (i * κ.K + j) = some u) → ∀ (j : Nat) (u : Value), (Rw.row κ ts)[j]? = some u → f j = some u := by
  intro ts
  induction ts generalizing f with
  | nil => intro _ j u h; simp [Rw.row] at h
  | cons t ts ih =>
    intro h j u hj
    rw [Rw.row_cons] at hj
    by_cases hlt : j < κ.K
    · rw [List.getElem?_append_left (by rw [κ.len]; exact hlt)] at hj
      have := h 0 t rfl j u hj
      rwa [Nat.zero_mul, Nat.zero_add] at this
    · rw [List.getElem?_append_right (by rw [κ.len]; omega), κ.len] at hj
      have := ih (f := fun j => f (κ.K + j)) (fun i t' ht j' u' hu => by
        have := h (i + 1) t' (by simpa using ht) j' u' hu
        rwa [Nat.succ_mul, show i * κ.K + κ.K + j' = κ.K + (i * κ.K + j') by omega] at this) (j - κ.K) u hj
      rwa [show κ.K + (j - κ.K) = j by omega] at this
theorem bytes_ts {w : World} {A : Option Addr} {xs : List Nat} (h : Bytes w A xs) : Rw.Ts kindB w A xs := fun hn => by
  obtain ⟨ad, rfl, hlt, hc⟩ := h.2 hn
  obtain ⟨x, hx⟩ : ∃ x, xs[0]? = some x := ⟨_, List.getElem?_eq_getElem hn⟩
  obtain ⟨b, o, e⟩ := plain_addr (hc 0 x hx)
  obtain rfl : ad = ⟨b, o, none⟩ := by
    obtain ⟨b', o', s'⟩ := ad
    simp [Addr.add] at e
    rw [e.1, e.2.1, e.2.2]
  refine ⟨b, o, rfl, hlt, fun j u hu => ?_⟩
  refine row_read (κ := kindB) (f := fun j => w.cell? ⟨b, o + j, none⟩) (fun i t ht j u hu => ?_) j u hu
  obtain ⟨hj, e⟩ := List.getElem?_eq_some_iff.1 hu
  simp only [kindB, List.length_singleton] at hj
  have hj0 : j = 0 := by omega
  subst hj0
  simp only [kindB, List.getElem_cons_zero] at e
  subst e
  have := hc i t ht
  rw [add_at] at this
  simpa [kindB] using this
theorem bytes_at {w : World} {A : Option Addr} {l : List Nat} (h : Rw.Ts kindB w A l) {i : Nat} {z : Nat} (hi : l[i]? = some z) : ∃ b o, A = some ⟨b, o, none⟩ ∧ b < w.heap.size ∧ ∀ w', Below w.heap.size w w' → w'.cell? ⟨b, o + i, none⟩ = some (.int .u8 (z : Nat)) := by
  obtain ⟨b, o, e, hlt, hc⟩ := h.at_ hi
  refine ⟨b, o, e, hlt, fun w' hb => ?_⟩
  have := hc w' hb 0 _ rfl
  simp only [kindB, Nat.mul_one, Nat.add_zero] at this
  exact this
/-- the number of a row of bytes, the highest first -/
def accU : Nat → List Nat → Nat
  | a, [] => a
  | a, x :: l => accU (a * 256 + x) l
theorem accU_snoc : ∀ (l : List Nat) (a x : Nat), accU a (l ++ [x]) = accU a l * 256 + x
  | [], a, x => rfl
  | y :: l, a, x => accU_snoc l _ x
theorem accU_lt : ∀ (l : List Nat) (a : Nat), (∀ x ∈ l, x < 256) → accU a l < (a + 1) * 256 ^ l.length
  | [], a, _ => by simp [accU]
  | x :: l, a, h => by
    have hx := h x List.mem_cons_self
    have := accU_lt l (a * 256 + x) fun y hy => h y (List.mem_cons_of_mem _ hy)
    simp only [accU, List.length_cons, Nat.pow_succ]
    have h2 : a * 256 + x + 1 ≤ (a + 1) * 256 := by omega
    calc accU (a * 256 + x) l < (a * 256 + x + 1) * 256 ^ l.length := this
      _ ≤ (a + 1) * 256 * 256 ^ l.length := Nat.mul_le_mul_right _ h2
      _ = (a + 1) * (256 ^ l.length * 256) := by rw [Nat.mul_assoc, Nat.mul_comm 256]
theorem accU_take {xs : List Nat} {t j y : Nat} (hy : xs[t + j]? = some y) : accU 0 ((xs.drop t).take (j + 1)) = accU 0 ((xs.drop t).take j) * 256 + y := by
  rw [List.take_add_one, List.getElem?_drop, hy]
  exact accU_snoc _ _ _
theorem accU_small {xs : List Nat} (hx : ∀ x ∈ xs, x < 256) (t j : Nat) (hj : j < 8) : accU 0 ((xs.drop t).take j) < 72057594037927936 := by
  have h := accU_lt ((xs.drop t).take j) 0 fun x h => hx x (List.mem_of_mem_drop (List.mem_of_mem_take h))
  have hle : ((xs.drop t).take j).length ≤ 7 := by have := List.length_take_le j (xs.drop t); omega
  have : 256 ^ ((xs.drop t).take j).length ≤ 256 ^ 7 := Nat.pow_le_pow_right (by decide) hle
  have e : 256 ^ 7 = 72057594037927936 := by decide
  omega
theorem sg64_wrap {X : Nat} (h : X < 18446744073709551616) : IntKind.i64.wrap (X : Int) = sg64 X := by
  unfold sg64
  have e1 : (2 : Int) ^ (64 - 1) = 9223372036854775808 := by decide
  have e2 : (2 : Int) ^ 64 = 18446744073709551616 := by decide
  simp only [IntKind.wrap, IntKind.signed, IntKind.bits, Bool.true_and, decide_eq_true_eq, e1, e2]
  split <;> split <;> omega
def sameB (xs ys : List Nat) : Bool := decide (xs = ys)
theorem str_same {xs ys : List Nat} (hx : ∀ x ∈ xs, x < 256) (hy : ∀ y ∈ ys, y < 256) : ((strOf xs).toList == (strOf ys).toList) = sameB xs ys := by
  rw [str_eql]; unfold sameB; rw [decide_eq_decide]; exact strOf_inj hx hy
theorem sameBytes_any (xs ys : List Nat) (A B : Option Addr) (c d : Nat) (w : World) (hA : Bytes w A xs) (hB : Bytes w B ys) :
    Calls Try.prog 24 #[.slice A xs.length c, .slice B ys.length d] w fun e w' => e = .returned (.bool (sameB xs ys)) ∧ w = w' := by
  have h1 := conv_bytes (P := Try.prog) (w := w) Try.underlying34 Try.underlying5 Try.underlying9 hA c
  have h2 := conv_bytes (P := Try.prog) (w := w) Try.underlying34 Try.underlying5 Try.underlying9 hB d
  have h3 := str_same hA.1 hB.1
  generalize strOf xs = s at *
  generalize strOf ys = t at *
  have H3 := Lib.hid h3; clear h3
  generalize xs.length = n at *
  generalize ys.length = m at *
  clear hA hB
  go_enter Try.func24, Try.ntmps24
  go_wp2_with fail
  go_ret
  exact ⟨by rw [← H3.out]; rfl, rfl⟩
/-- a number below n (0 of none) -/
def PickD (n : Nat) (w : World) (e : Ending) (w' : World) : Prop := (∃ k : Nat, e = .returned (.int .i64 (k : Nat)) ∧ (k < n ∨ n = 0 ∧ k = 0)) ∧ w = w'
theorem pick_any (i : Int) (n : Nat) (w : World) (hi : -9223372036854775808 ≤ i ∧ i ≤ 9223372036854775807) (hn : n ≤ 100000) :
    Calls Try.prog 26 #[.int .i64 i, .int .i64 (n : Nat)] w (PickD n w) := by
  by_cases h0 : n = 0
  · subst h0
    go_enter Try.func26, Try.ntmps26
    go_wp2_with fail
    go_ret
    exact ⟨⟨0, rfl, .inr ⟨rfl, rfl⟩⟩, rfl⟩
  · obtain ⟨r, hr⟩ : ∃ r, i.tmod (n : Int) = r := ⟨_, rfl⟩
    have hr1 : -(n : Int) < r ∧ r < (n : Int) := by
      rw [← hr]
      have h1 := Int.tmod_lt_of_pos i (show (0 : Int) < (n : Int) by omega)
      have h2 := Int.lt_tmod_of_pos i (show (0 : Int) < (n : Int) by omega)
      omega
    obtain ⟨k, hk⟩ : ∃ k : Nat, (r + (n : Int)) % (n : Int) = (k : Int) := Int.eq_ofNat_of_zero_le (Int.emod_nonneg _ (by omega))
    have hkn : k < n := by have := Int.emod_lt_of_pos (r + (n : Int)) (show (0 : Int) < (n : Int) by omega); omega
    have hk2 : (r + (n : Int)).tmod (n : Int) = (k : Int) := by rw [Int.tmod_eq_emod_of_nonneg (by omega)]; exact hk
    have HK := Lib.hid hkn; clear hkn
    have hlo : 0 ≤ r + (n : Int) := by omega
    have hup : r + (n : Int) ≤ 200000 := by omega
    go_enter Try.func26, Try.ntmps26
    go_wp2_with fail
    go_ret
    exact ⟨⟨k, rfl, .inl HK.out⟩, rfl⟩
/-- bytes of the call's own, as bytes -/
theorem own_bytes {w : World} {base n : Nat} {v : Value} {xs : List Nat} (h : w.ownsRow base 5 kindB.K v n (Rw.row kindB xs)) (hx : ∀ x ∈ xs, x < 256) :
    ∃ A c, v = .slice A xs.length c ∧ Bytes w A xs ∧ xs.length ≤ c ∧ c ≤ maxLen ∧ (A = none → c = 0) ∧ ∀ ad, A = some ad → base ≤ ad.block := by
  obtain ⟨A, c, e, hT, h1, h2, h3, h4⟩ := Rw.Ts.of_own h
  refine ⟨A, c, e, ⟨hx, fun hn => ?_⟩, h1, h2, h3, h4⟩
  obtain ⟨b, o, rfl, hlt, _⟩ := hT hn
  refine ⟨_, rfl, hlt, fun j x hj => ?_⟩
  obtain ⟨_, _, e, _, hc⟩ := bytes_at hT hj
  cases e
  rw [add_at]
  exact hc w (Below.refl _ _)
theorem or_i64 (V x : Nat) (hV : V < 72057594037927936) (hx : x < 256) : bits .or .i64 (sg64 (V * 256)) (x : Int) = sg64 (V * 256 + x) := by
  have hl : V * 256 < 18446744073709551616 := by omega
  have h1 : (BitVec.ofInt 64 (sg64 (V * 256))).toNat = V * 256 := by
    have h := uns_sg64 hl
    unfold uns at h
    rw [BitVec.toNat_ofInt]
    have e : ((2 ^ 64 : Nat) : Int) = 18446744073709551616 := by decide
    rw [e]; exact h
  have h2 : (BitVec.ofInt 64 (x : Int)).toNat = x := by
    rw [BitVec.ofInt_natCast, BitVec.toNat_ofNat]; exact Nat.mod_eq_of_lt (by omega)
  have h3 := Nat.two_pow_add_eq_or_of_lt (i := 8) (b := x) (by omega) V
  show IntKind.i64.wrap ((BitVec.ofInt 64 (sg64 (V * 256)) ||| BitVec.ofInt 64 (x : Int)).toNat : Int) = _
  rw [BitVec.toNat_or, h1, h2, show V * 256 = 2 ^ 8 * V by omega, ← h3, show 2 ^ 8 * V + x = V * 256 + x by omega]
  exact sg64_wrap (by omega)
theorem sg64_low {V : Nat} (h : V < 9223372036854775808) : sg64 V = (V : Int) := by unfold sg64; rw [if_pos h]
theorem be8_len (x : Nat) : (be8 x).length = 8 := rfl
theorem be8_lt (x : Nat) : ∀ y ∈ be8 x, y < 256 := by
  intro y hy
  simp only [be8, List.mem_cons, List.not_mem_nil, or_false] at hy
  rcases hy with rfl | rfl | rfl | rfl | rfl | rfl | rfl | rfl <;> omega
/-- append to bytes of the call's own, of a literal's row -/
theorem append_b {w : World} {ops : Array Oper} {rest : List Oper} {o : Oper} {a : Act} {Q : Exit → Act → World → Prop} (hgd : o.guard = none) (s x : Operand)
    (ho : o.op = .call { callee := .builtin .append, args := #[s, x], argTypes := #[34, 34] })
    (base : Nat) (v : Value) (n : Nat) (ts : List Nat) (hs : a.eval s = v) (hown : w.ownsRow base 5 kindB.K v n (Rw.row kindB ts))
    (b : Nat) (c : Nat) (ys : List Nat) (hx : a.eval x = .slice (some ⟨b, 0, none⟩) ys.length c) (hb : Rw.Ts kindB w (some ⟨b, 0, none⟩) ys)
    (hle : n + ys.length ≤ 100000000) (hbase : base ≤ w.heap.size)
    (h : ∀ v' w', w'.ownsRow base 5 kindB.K v' (n + ys.length) (Rw.row kindB (ts ++ ys)) → w.grownBy w' v.ownBlock → wpList Try.prog ops Q rest (a.put o.dst v') w') : wpList Try.prog ops Q (o :: rest) a w :=
  Rw.append_own kindB 5 34 Try.underlying34 infoU8 rfl hgd s x ho base v n ts hs hown (some ⟨b, 0, none⟩) c ys hx (fun e => by cases e) hb (by unfold maxLen; omega) (by omega) hbase h
/-- boxes of records stay -/
def KeepR (w w' : World) : Prop := ∀ g l, Row w g 32 l → Row w' g 32 l
theorem KeepR.refl (w : World) : KeepR w w := fun _ _ h => h
theorem KeepR.trans {a b c : World} (h : KeepR a b) (k : KeepR b c) : KeepR a c := fun g l hr => k g l (h g l hr)
theorem KeepR.alloc (w : World) (o : Obj) : KeepR w (w.alloc o) := fun _ _ h => h.alloc o
theorem KeepR.app {w w' : World} {base n K : Nat} {v : Value} {xs : List Value} (ho : w.ownsRow base 5 K v n xs) (hg : w.grownBy w' v.ownBlock) : KeepR w w' := fun g l hr => hr.grown hg (Rw.own_apart ho hr (by decide))
/-- what is put behind bytes of the call's own -/
def PutN (base : Nat) (w : World) (cs : List Nat) (e : Ending) (w' : World) : Prop := (∃ v', e = .returned v' ∧ w'.ownsRow base 5 kindB.K v' cs.length (Rw.row kindB cs)) ∧ Below base w w' ∧ KeepR w w'
theorem row_app {w : World} {base : Nat} {v : Value} {bs ys zs : List Nat} {B : Nat} (h : w.ownsRow base 5 kindB.K v ((bs ++ ys).length + [B].length) (Rw.row kindB ((bs ++ ys) ++ [B]))) (e : ys ++ [B] = zs) : w.ownsRow base 5 kindB.K v (bs ++ zs).length (Rw.row kindB (bs ++ zs)) := by
  subst e
  rw [← List.append_assoc, List.length_append]
  exact h
set_option maxHeartbeats 8000000 in
theorem putNumber_any (base : Nat) (v : Value) (bs : List Nat) (n : Int) (w : World) (ho : w.ownsRow base 5 kindB.K v bs.length (Rw.row kindB bs)) (hl : bs.length ≤ 10000000) (hbase : base ≤ w.heap.size) (hn : -9223372036854775808 ≤ n ∧ n < 9223372036854775808) :
    Calls Try.prog 31 #[v, .int .i64 n] w (PutN base w (bs ++ be8 (uns n))) := by
  have HO := Lib.hid ho; have HL := Lib.hid hl; have HBA := Lib.hid hbase; have HNR := Lib.hid hn; clear ho hl hbase hn
  go_enter Try.func31, Try.ntmps31
  go_wp2_with fail
  go_loopw [0, 5] (fun v i wr => ∃ j : Nat, j ≤ 8 ∧ i = .int .i64 (56 - 8 * (j : Int)) ∧ wr.ownsRow base 5 kindB.K v (bs ++ (be8 (uns n)).take j).length (Rw.row kindB (bs ++ (be8 (uns n)).take j)) ∧ Below base w wr ∧ KeepR w wr) (fun _ i _ => (intOf i + 8).toNat)
  case atStart => exact ⟨0, by omega, rfl, by simpa using HO.out, Below.refl _ _, KeepR.refl _⟩
  case round =>
    obtain ⟨j, hj, rfl, hown, hb, hkr⟩ := hrel
    have HO' := Lib.hid hown; have HB := Lib.hid hb; have HK := Lib.hid hkr
    have HBS : Hid (base ≤ wr.heap.size) := Lib.hid (Nat.le_trans HBA.out hb.size)
    have HLB : Hid ((bs ++ (be8 (uns n)).take j).length ≤ 10000100) := Lib.hid (by have := HL.out; have h := List.length_take_le j (be8 (uns n)); rw [List.length_append]; omega)
    clear hown hb hkr HO
    rcases (show j = 0 ∨ j = 1 ∨ j = 2 ∨ j = 3 ∨ j = 4 ∨ j = 5 ∨ j = 6 ∨ j = 7 ∨ j = 8 by omega) with rfl | rfl | rfl | rfl | rfl | rfl | rfl | rfl | rfl
    · rw [show (56 - 8 * ((0 : Nat) : Int)) = 56 from rfl]
      obtain ⟨B, hB, hE⟩ : ∃ B : Nat, B = uns n / 72057594037927936 % 256 ∧ n / 72057594037927936 % 256 = (B : Int) := ⟨_, rfl, by unfold uns; omega⟩
      have HB' := Lib.hid hB; clear hB
      go_wp2_with (at_builtin; refine append_b rfl _ _ rfl base _ _ _ rfl (HO'.out.alloc _) _ 1 [B] rfl (Rw.Ts.made _ [B] _) (by have := HLB.out; simp only [List.length_cons, List.length_nil]; omega) (by have := HBS.out; simp; omega) ?_; intro v1 w3 hv1 hg1; have HV1 := Lib.hid hv1; have HB1 := Lib.hid (Rw.own_below (HO'.out.alloc _) hg1 (HB.out.alloc HBS.out _) (by have := HBS.out; simp; omega)); have HK1 := Lib.hid ((HK.out.trans (KeepR.alloc _ _)).trans (KeepR.app (HO'.out.alloc _) hg1)); clear hv1 hg1)
      go_roundw
      case rel => exact ⟨1, by omega, by simp, row_app HV1.out (by rw [HB'.out]; rfl), HB1.out, HK1.out⟩
      case measure => simp [intOf]
    · rw [show (56 - 8 * ((1 : Nat) : Int)) = 48 from rfl]
      obtain ⟨B, hB, hE⟩ : ∃ B : Nat, B = uns n / 281474976710656 % 256 ∧ n / 281474976710656 % 256 = (B : Int) := ⟨_, rfl, by unfold uns; omega⟩
      have HB' := Lib.hid hB; clear hB
      go_wp2_with (at_builtin; refine append_b rfl _ _ rfl base _ _ _ rfl (HO'.out.alloc _) _ 1 [B] rfl (Rw.Ts.made _ [B] _) (by have := HLB.out; simp only [List.length_cons, List.length_nil]; omega) (by have := HBS.out; simp; omega) ?_; intro v1 w3 hv1 hg1; have HV1 := Lib.hid hv1; have HB1 := Lib.hid (Rw.own_below (HO'.out.alloc _) hg1 (HB.out.alloc HBS.out _) (by have := HBS.out; simp; omega)); have HK1 := Lib.hid ((HK.out.trans (KeepR.alloc _ _)).trans (KeepR.app (HO'.out.alloc _) hg1)); clear hv1 hg1)
      go_roundw
      case rel => exact ⟨2, by omega, by simp, row_app HV1.out (by rw [HB'.out]; rfl), HB1.out, HK1.out⟩
      case measure => simp [intOf]
    · rw [show (56 - 8 * ((2 : Nat) : Int)) = 40 from rfl]
      obtain ⟨B, hB, hE⟩ : ∃ B : Nat, B = uns n / 1099511627776 % 256 ∧ n / 1099511627776 % 256 = (B : Int) := ⟨_, rfl, by unfold uns; omega⟩
      have HB' := Lib.hid hB; clear hB
      go_wp2_with (at_builtin; refine append_b rfl _ _ rfl base _ _ _ rfl (HO'.out.alloc _) _ 1 [B] rfl (Rw.Ts.made _ [B] _) (by have := HLB.out; simp only [List.length_cons, List.length_nil]; omega) (by have := HBS.out; simp; omega) ?_; intro v1 w3 hv1 hg1; have HV1 := Lib.hid hv1; have HB1 := Lib.hid (Rw.own_below (HO'.out.alloc _) hg1 (HB.out.alloc HBS.out _) (by have := HBS.out; simp; omega)); have HK1 := Lib.hid ((HK.out.trans (KeepR.alloc _ _)).trans (KeepR.app (HO'.out.alloc _) hg1)); clear hv1 hg1)
      go_roundw
      case rel => exact ⟨3, by omega, by simp, row_app HV1.out (by rw [HB'.out]; rfl), HB1.out, HK1.out⟩
      case measure => simp [intOf]
    · rw [show (56 - 8 * ((3 : Nat) : Int)) = 32 from rfl]
      obtain ⟨B, hB, hE⟩ : ∃ B : Nat, B = uns n / 4294967296 % 256 ∧ n / 4294967296 % 256 = (B : Int) := ⟨_, rfl, by unfold uns; omega⟩
      have HB' := Lib.hid hB; clear hB
      go_wp2_with (at_builtin; refine append_b rfl _ _ rfl base _ _ _ rfl (HO'.out.alloc _) _ 1 [B] rfl (Rw.Ts.made _ [B] _) (by have := HLB.out; simp only [List.length_cons, List.length_nil]; omega) (by have := HBS.out; simp; omega) ?_; intro v1 w3 hv1 hg1; have HV1 := Lib.hid hv1; have HB1 := Lib.hid (Rw.own_below (HO'.out.alloc _) hg1 (HB.out.alloc HBS.out _) (by have := HBS.out; simp; omega)); have HK1 := Lib.hid ((HK.out.trans (KeepR.alloc _ _)).trans (KeepR.app (HO'.out.alloc _) hg1)); clear hv1 hg1)
      go_roundw
      case rel => exact ⟨4, by omega, by simp, row_app HV1.out (by rw [HB'.out]; rfl), HB1.out, HK1.out⟩
      case measure => simp [intOf]
    · rw [show (56 - 8 * ((4 : Nat) : Int)) = 24 from rfl]
      obtain ⟨B, hB, hE⟩ : ∃ B : Nat, B = uns n / 16777216 % 256 ∧ n / 16777216 % 256 = (B : Int) := ⟨_, rfl, by unfold uns; omega⟩
      have HB' := Lib.hid hB; clear hB
      go_wp2_with (at_builtin; refine append_b rfl _ _ rfl base _ _ _ rfl (HO'.out.alloc _) _ 1 [B] rfl (Rw.Ts.made _ [B] _) (by have := HLB.out; simp only [List.length_cons, List.length_nil]; omega) (by have := HBS.out; simp; omega) ?_; intro v1 w3 hv1 hg1; have HV1 := Lib.hid hv1; have HB1 := Lib.hid (Rw.own_below (HO'.out.alloc _) hg1 (HB.out.alloc HBS.out _) (by have := HBS.out; simp; omega)); have HK1 := Lib.hid ((HK.out.trans (KeepR.alloc _ _)).trans (KeepR.app (HO'.out.alloc _) hg1)); clear hv1 hg1)
      go_roundw
      case rel => exact ⟨5, by omega, by simp, row_app HV1.out (by rw [HB'.out]; rfl), HB1.out, HK1.out⟩
      case measure => simp [intOf]
    · rw [show (56 - 8 * ((5 : Nat) : Int)) = 16 from rfl]
      obtain ⟨B, hB, hE⟩ : ∃ B : Nat, B = uns n / 65536 % 256 ∧ n / 65536 % 256 = (B : Int) := ⟨_, rfl, by unfold uns; omega⟩
      have HB' := Lib.hid hB; clear hB
      go_wp2_with (at_builtin; refine append_b rfl _ _ rfl base _ _ _ rfl (HO'.out.alloc _) _ 1 [B] rfl (Rw.Ts.made _ [B] _) (by have := HLB.out; simp only [List.length_cons, List.length_nil]; omega) (by have := HBS.out; simp; omega) ?_; intro v1 w3 hv1 hg1; have HV1 := Lib.hid hv1; have HB1 := Lib.hid (Rw.own_below (HO'.out.alloc _) hg1 (HB.out.alloc HBS.out _) (by have := HBS.out; simp; omega)); have HK1 := Lib.hid ((HK.out.trans (KeepR.alloc _ _)).trans (KeepR.app (HO'.out.alloc _) hg1)); clear hv1 hg1)
      go_roundw
      case rel => exact ⟨6, by omega, by simp, row_app HV1.out (by rw [HB'.out]; rfl), HB1.out, HK1.out⟩
      case measure => simp [intOf]
    · rw [show (56 - 8 * ((6 : Nat) : Int)) = 8 from rfl]
      obtain ⟨B, hB, hE⟩ : ∃ B : Nat, B = uns n / 256 % 256 ∧ n / 256 % 256 = (B : Int) := ⟨_, rfl, by unfold uns; omega⟩
      have HB' := Lib.hid hB; clear hB
      go_wp2_with (at_builtin; refine append_b rfl _ _ rfl base _ _ _ rfl (HO'.out.alloc _) _ 1 [B] rfl (Rw.Ts.made _ [B] _) (by have := HLB.out; simp only [List.length_cons, List.length_nil]; omega) (by have := HBS.out; simp; omega) ?_; intro v1 w3 hv1 hg1; have HV1 := Lib.hid hv1; have HB1 := Lib.hid (Rw.own_below (HO'.out.alloc _) hg1 (HB.out.alloc HBS.out _) (by have := HBS.out; simp; omega)); have HK1 := Lib.hid ((HK.out.trans (KeepR.alloc _ _)).trans (KeepR.app (HO'.out.alloc _) hg1)); clear hv1 hg1)
      go_roundw
      case rel => exact ⟨7, by omega, by simp, row_app HV1.out (by rw [HB'.out]; rfl), HB1.out, HK1.out⟩
      case measure => simp [intOf]
    · rw [show (56 - 8 * ((7 : Nat) : Int)) = 0 from rfl]
      obtain ⟨B, hB, hE⟩ : ∃ B : Nat, B = uns n % 256 ∧ n % 256 = (B : Int) := ⟨_, rfl, by unfold uns; omega⟩
      have HB' := Lib.hid hB; clear hB
      go_wp2_with (at_builtin; refine append_b rfl _ _ rfl base _ _ _ rfl (HO'.out.alloc _) _ 1 [B] rfl (Rw.Ts.made _ [B] _) (by have := HLB.out; simp only [List.length_cons, List.length_nil]; omega) (by have := HBS.out; simp; omega) ?_; intro v1 w3 hv1 hg1; have HV1 := Lib.hid hv1; have HB1 := Lib.hid (Rw.own_below (HO'.out.alloc _) hg1 (HB.out.alloc HBS.out _) (by have := HBS.out; simp; omega)); have HK1 := Lib.hid ((HK.out.trans (KeepR.alloc _ _)).trans (KeepR.app (HO'.out.alloc _) hg1)); clear hv1 hg1)
      go_roundw
      case rel => exact ⟨8, by omega, by simp, row_app HV1.out (by rw [HB'.out]; rfl), HB1.out, HK1.out⟩
      case measure => simp [intOf]
    · rw [show (56 - 8 * ((8 : Nat) : Int)) = -8 from rfl]
      go_wp2_with fail
      go_ret
      exact ⟨⟨_, rfl, HO'.out⟩, HB.out, HK.out⟩
set_option maxHeartbeats 2000000 in
theorem number_any (A : Option Addr) (xs : List Nat) (c : Nat) (w : World) (hT : Rw.Ts kindB w A xs) (hx : ∀ x ∈ xs, x < 256) (h8 : xs.length = 8) :
    Calls Try.prog 33 #[.slice A 8 c] w fun e w' => e = .returned (.int .i64 (sg64 (accU 0 xs))) ∧ w = w' := by
  have HT := Lib.hid hT; have HX := Lib.hid hx; have H8 := Lib.hid h8; clear hT hx h8
  go_enter Try.func33, Try.ntmps33
  go_wp2_with fail
  go_loop [3, 8] (fun n i => ∃ j : Nat, j ≤ 8 ∧ i = .int .i64 j ∧ n = .int .i64 (sg64 (accU 0 ((xs.drop 0).take j)))) (fun _ i => 8 - (intOf i).toNat)
  case atStart => exact ⟨0, by omega, rfl, rfl⟩
  case round =>
    obtain ⟨j, hj, rfl, rfl⟩ := hrel
    by_cases hj8 : j < 8
    · have hjz : (j : Int) < 8 := by omega
      obtain ⟨y, hy⟩ : ∃ x, xs[0 + j]? = some x := ⟨_, List.getElem?_eq_getElem (by have := H8.out; omega)⟩
      have y256 := HX.out y (List.mem_of_getElem? hy)
      obtain ⟨b, o, rfl, _, hqy⟩ := bytes_at HT.out (i := 0 + j) (z := y) hy
      have qy := hqy w (Below.refl _ _)
      rw [Nat.zero_add] at qy
      have hac := accU_take hy
      have hV := accU_small HX.out 0 j hj8
      rw [sg64_low (V := accU 0 ((xs.drop 0).take j)) (by omega)]
      have hor := or_i64 _ y hV y256
      rw [← hac] at hor
      clear hac hqy hy
      generalize accU 0 ((xs.drop 0).take j) = V at *
      generalize hN : sg64 (accU 0 ((xs.drop 0).take (j + 1))) = N at *
      have HN := Lib.hid hN; clear hN
      have hw := sg64_wrap (X := V * 256) (by omega)
      generalize sg64 (V * 256) = S at *
      rw [show ((V * 256 : Nat) : Int) = (V : Int) * 256 by omega] at hw
      go_wp2_with fail
      go_round
      case rel => exact ⟨j + 1, by omega, by simp, by rw [HN.out]⟩
      case measure => simp [intOf]; omega
    · obtain rfl : j = 8 := by omega
      have HE : Hid (sg64 (accU 0 ((xs.drop 0).take 8)) = sg64 (accU 0 xs)) := Lib.hid (by rw [List.drop_zero, List.take_of_length_le (by have := H8.out; omega)])
      generalize sg64 (accU 0 ((xs.drop 0).take 8)) = N at *
      go_wp2_with fail
      go_ret
      exact ⟨retI HE.out, rfl⟩
set_option maxHeartbeats 2000000 in
theorem refNumber_any (A : Option Addr) (xs : List Nat) (c t : Nat) (w : World) (hT : Rw.Ts kindB w A xs) (hx : ∀ x ∈ xs, x < 256) (h8 : t + 8 ≤ xs.length) (hl : xs.length ≤ 1000000) :
    Calls Try.prog 34 #[.slice A xs.length c, .int .i64 t] w fun e w' => e = .returned (.int .i64 (sg64 (accU 0 ((xs.drop t).take 8)))) ∧ w = w' := by
  have HT := Lib.hid hT; have HX := Lib.hid hx; clear hT hx
  go_enter Try.func34, Try.ntmps34
  go_wp2_with fail
  go_loop [5, 6] (fun n i => ∃ j : Nat, j ≤ 8 ∧ i = .int .i64 j ∧ n = .int .u64 (accU 0 ((xs.drop t).take j) : Nat)) (fun _ i => 8 - (intOf i).toNat)
  case atStart => exact ⟨0, by omega, rfl, rfl⟩
  case round =>
    obtain ⟨j, hj, rfl, rfl⟩ := hrel
    by_cases hj8 : j < 8
    · have hjz : (j : Int) < 8 := by omega
      obtain ⟨y, hy⟩ : ∃ x, xs[t + j]? = some x := ⟨_, List.getElem?_eq_getElem (by omega)⟩
      have y256 := HX.out y (List.mem_of_getElem? hy)
      obtain ⟨b, o, rfl, _, hqy⟩ := bytes_at HT.out (i := t + j) (z := y) hy
      have qy := hqy w (Below.refl _ _)
      have hac := accU_take hy
      have hV := accU_small HX.out t j hj8
      have htj : (t : Int) + (j : Int) < (xs.length : Int) := by omega
      have HAC := Lib.hid hac
      clear hac hqy hy
      generalize accU 0 ((xs.drop t).take j) = V at *
      have hw1 : IntKind.u64.wrap ((V : Int) * 256) = (V : Int) * 256 := by simp [IntKind.wrap, IntKind.signed, IntKind.bits]; omega
      have hw2 : IntKind.u64.wrap ((V : Int) * 256 + (y : Int)) = (V : Int) * 256 + (y : Int) := by simp [IntKind.wrap, IntKind.signed, IntKind.bits]; omega
      go_wp2_with fail
      go_round
      case rel => exact ⟨j + 1, by omega, by simp, by rw [HAC.out]; simp⟩
      case measure => simp [intOf]; omega
    · obtain rfl : j = 8 := by omega
      have hX64 : accU 0 ((xs.drop t).take 8) < 18446744073709551616 := by
        have h := accU_lt ((xs.drop t).take 8) 0 fun x h => HX.out x (List.mem_of_mem_drop (List.mem_of_mem_take h))
        have hle : ((xs.drop t).take 8).length ≤ 8 := List.length_take_le _ _
        have : 256 ^ ((xs.drop t).take 8).length ≤ 256 ^ 8 := Nat.pow_le_pow_right (by decide) hle
        have e : 256 ^ 8 = 18446744073709551616 := by decide
        omega
      have hw := sg64_wrap hX64
      obtain ⟨N, hN⟩ : ∃ N, sg64 (accU 0 ((xs.drop t).take 8)) = N := ⟨_, rfl⟩
      rw [hN] at hw
      have HN := Lib.hid hN; clear hN hX64
      obtain ⟨V, hV⟩ : ∃ V, accU 0 ((xs.drop t).take 8) = V := ⟨_, rfl⟩
      rw [hV] at hw ⊢
      clear hV
      go_wp2_with fail
      go_ret
      exact ⟨retI HN.out.symm, rfl⟩
end Vr
end Go.Proofs.Ytcdofkhkckodjaa
