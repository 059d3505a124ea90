/- A time read off bytes, the program's: read. -/
import Derived.Test.YtpcnnnfgopilaaaStGetMath
import Derived.Test.YtpcnnnfgopilaaaStPut
namespace Go.Proofs.Ytpcnnnfgopilaaa
open Go.ChangeShapes Go.WideShapes Go.ChangeAt Go.RowKit Go.BigFrame
set_option linter.unusedVariables false
/-- what read tells -/
def Reads (xs : List Nat) (A0 : Option Addr) (w : World) (e : Ending) (w' : World) : Prop :=
  ∃ (t : St) (A : Option Addr) (n c : Nat), e = .returned (.tuple #[t.val, .slice A n c, .bool (decide (Can xs))]) ∧ (Can xs → t = St.of xs ∧ n = (xs.drop (3 + nth xs 0)).length ∧ ∀ W, Bytes W A0 xs → Bytes W A (xs.drop (3 + nth xs 0))) ∧ Below w.heap.size w w'
theorem three_results {P : Program} {fn : Func} {p q r : Tmp} {ty : TypeId} {v u : Value} (h : fn.results = #[.cell p ty, .tmp q, .tmp r]) (tmps : Array Value) (w : World) (g : Nat) (t : TypeId) (cs : Array Value) (fr : Nat × Nat) (d : TypeDesc)
    (hp : tmps.getD p undef = .pointer (some ⟨g, 0, none⟩)) (hg : w.heap[g]? = some (.cells cs t fr))
    (hu : P.underlying ty = some d) (hd : (match d with | .struct _ | .array _ _ => true | _ => false) = true) (hi : (P.info? ty).map (·.size) = some cs.size) (hq : tmps.getD q undef = v) (hr : tmps.getD r undef = u) :
    (results fn tmps).run P w = .ok (.tuple #[.agg cs, v, u]) w := by
  have hp' : tmps[p]?.getD undef = .pointer (some ⟨g, 0, none⟩) := by simpa using hp
  have hq' : tmps[q]?.getD undef = v := by simpa using hq
  have hr' : tmps[r]?.getD undef = u := by simpa using hr
  simp [results, h, hp', hq', hr', asAddr, run_loadVar_row w g t ty cs fr d hg hu hd hi]
theorem three_drew {fn : Func} {p q r : Tmp} {v u : Value} (h : fn.results = #[.cell p 24, .tmp q, .tmp r]) {tmps : Array Value} {w : World} {g : Nat} {T : St} (hg : Holds w g T)
    (hp : tmps.getD p undef = .pointer (some ⟨g, 0, none⟩)) (hq : tmps.getD q undef = v) (hr : tmps.getD r undef = u) :
    (results fn tmps).run Try.prog w.drew = .ok (.tuple #[T.val, v, u]) w.drew :=
  three_results h tmps w.drew g 24 _ (0, 0) _ hp hg Try.underlying24 rfl (by kernel_rfl) hq hr
theorem Bytes.drop {w : World} {b off : Nat} {xs : List Nat} (h : Bytes w (some ⟨b, off, none⟩) xs) (k : Nat) : Bytes w (some ⟨b, off + k, none⟩) (xs.drop k) := by
  refine ⟨fun x hx => h.1 x (List.mem_of_mem_drop hx), fun hn => ?_⟩
  rw [List.length_drop] at hn
  obtain ⟨ad, e, hlt, hc⟩ := h.2 (by omega)
  injection e with e
  subst e
  refine ⟨_, rfl, hlt, fun j x hj => ?_⟩
  rw [List.getElem?_drop] at hj
  have := hc _ _ hj
  rw [add_at] at this ⊢
  rw [← this, Nat.add_assoc]
theorem bytes_nil {w : World} {A : Option Addr} : Bytes w A [] := ⟨by simp, by simp⟩
theorem reads_some {xs : List Nat} {b off c d : Nat} {w w' : World} {t : St} (hz : d = nth xs 0) (hC : decide (Can xs) = true) (ht : t = St.of xs) (hb : Below w.heap.size w w') :
    Reads xs (some ⟨b, off, none⟩) w (.returned (.tuple #[t.val, .slice (some ⟨b, off + (3 + d), none⟩) (xs.length - (3 + d)) c, .bool true])) w' :=
  ⟨t, _, _, _, (by rw [hC]), fun _ => ⟨ht, (by rw [← hz, List.length_drop]), (by rw [← hz]; exact fun W hW => hW.drop _)⟩, hb⟩
theorem reads_none {xs : List Nat} {d : Nat} {A A0 : Option Addr} {c : Nat} {w w' : World} {t : St} (hz : d = nth xs 0) (hl : xs.length = 3 + d) (hC : decide (Can xs) = true) (ht : t = St.of xs) (hb : Below w.heap.size w w') :
    Reads xs A0 w (.returned (.tuple #[t.val, .slice A 0 c, .bool true])) w' :=
  ⟨t, _, _, _, (by rw [hC]), fun _ => ⟨ht, (by rw [← hz, List.length_drop]; omega), (by rw [← hz, List.drop_of_length_le (by omega)]; exact fun _ _ => bytes_nil)⟩, hb⟩
theorem or_bytes (a b : Nat) (ha : a < 256) (hb : b < 256) : bits .or .i64 ((a : Int) * 256) (b : Int) = (a : Int) * 256 + b := by
  have e1 : (a : Int) * 256 = ((a * 256 : Nat) : Int) := by omega
  rw [e1]
  have h1 : (BitVec.ofInt 64 ((a * 256 : Nat) : Int)).toNat = a * 256 := by
    rw [BitVec.ofInt_natCast, BitVec.toNat_ofNat]; exact Nat.mod_eq_of_lt (by omega)
  have h2 : (BitVec.ofInt 64 (b : Int)).toNat = b := by
    rw [BitVec.ofInt_natCast, BitVec.toNat_ofNat]; exact Nat.mod_eq_of_lt (by omega)
  show IntKind.i64.wrap ((BitVec.ofInt 64 ((a * 256 : Nat) : Int) ||| BitVec.ofInt 64 (b : Int)).toNat : Int) = _
  rw [BitVec.toNat_or, h1, h2]
  have h3 : a * 256 ||| b = a * 256 + b := by
    have := Nat.shiftLeft_add_eq_or_of_lt (i := 8) (b := b) (by omega) a
    rw [Nat.shiftLeft_eq] at this
    exact this.symm
  rw [h3]
  refine (IntWalk.i64_in _ ?_).trans ?_ <;> omega
set_option maxHeartbeats 2000000 in
theorem read_short (xs : List Nat) (A : Option Addr) (c : Nat) (w : World) (h : xs.length < 3) : Calls Try.prog 41 #[.slice A xs.length c] w (Reads xs A w) := by
  have hC : ¬ Can xs := fun hc => by have := hc.1; omega
  have HD := Lib.hid (decide_eq_false hC)
  have HC := Lib.hid hC; clear hC
  have hz := zero_made w
  obtain ⟨f0, f1, f2, f3, f4⟩ := hz.free5
  obtain ⟨c0, c1, c2, c3, c4⟩ := hz.cells5
  simp only [St.zero] at c0 c1 c2 c3 c4
  have HZ := Lib.hid hz; clear hz
  go_enter Try.func41, Try.ntmps41
  go_wp2_with fail
  refine bodyPost_ret (v := .tuple #[.agg #[.int .i64 0, .int .i64 0, .int .i64 0, .int .i64 0, .int .i64 0], .slice none 0 0, .bool false]) (three_results rfl _ _ _ 24 _ (0, 0) _ rfl HZ.out Try.underlying24 rfl (by kernel_rfl) rfl rfl) rfl ?_
  exact ⟨St.zero, none, 0, 0, (by rw [HD.out]; rfl), fun h => absurd h HC.out, (Below.refl _ _).alloc (Nat.le_refl _) _⟩
set_option maxHeartbeats 4000000 in
theorem read_more (b off c : Nat) (xs : List Nat) (w : World) (hB : Bytes w (some ⟨b, off, none⟩) xs) (h : 3 ≤ xs.length) (hc : xs.length ≤ c) (hm : c ≤ maxLen) : Calls Try.prog 41 #[.slice (some ⟨b, off, none⟩) xs.length c] w (Reads xs (some ⟨b, off, none⟩) w) := by
  unfold maxLen at hm
  obtain ⟨_, e, hbl, hcell⟩ := hB.2 (by omega)
  cases e
  simp only at hbl
  have k0 := hcell 0 _ (nth_some (by omega)); have k1 := hcell 1 _ (nth_some (by omega)); have k2 := hcell 2 _ (nth_some (by omega))
  have l0 := hB.lt (nth_some (l := xs) (i := 0) (by omega)); have l1 := hB.lt (nth_some (l := xs) (i := 1) (by omega)); have l2 := hB.lt (nth_some (l := xs) (i := 2) (by omega))
  simp only [add_at, Nat.add_zero] at k0 k1 k2
  have n0 : 0 < xs.length := by omega
  have n1 : 1 < xs.length := by omega
  have n2 : 2 < xs.length := by omega
  obtain ⟨a0, h0⟩ : ∃ a, a = nth xs 0 := ⟨_, rfl⟩
  obtain ⟨a1, h1⟩ : ∃ a, a = nth xs 1 := ⟨_, rfl⟩
  obtain ⟨a2, h2⟩ : ∃ a, a = nth xs 2 := ⟨_, rfl⟩
  rw [← h0] at k0 l0; rw [← h1] at k1 l1; rw [← h2] at k2 l2
  have HZ0 := Lib.hid h0; have HZ1 := Lib.hid h1; have HZ2 := Lib.hid h2; clear h0 h1 h2
  have hw : ∀ {j : Nat} {v : Value}, w.cell? ⟨b, j, none⟩ = some v → (w.alloc (.cells #[.int .i64 0, .int .i64 0, .int .i64 0, .int .i64 0, .int .i64 0] 24)).cell? ⟨b, j, none⟩ = some v := fun h => (((Below.refl w.heap.size w).alloc (Nat.le_refl _) _).cell (p := ⟨b, _, none⟩) hbl).trans h
  have k0' := hw k0; have k1' := hw k1; have k2' := hw k2
  have hz := zero_made w
  obtain ⟨f0, f1, f2, f3, f4⟩ := hz.free5
  obtain ⟨c0, c1, c2, c3, c4⟩ := hz.cells5
  simp only [St.zero] at c0 c1 c2 c3 c4
  have HZ := Lib.hid hz; have HB := Lib.hid hB; have HK := Lib.hid hcell; clear hz hB hcell hw k0 k1 k2
  have hne : b ≠ w.heap.size := by omega
  have t1 : decide ((xs.length : Int) < 3) = false := decide_eq_false (by omega)
  go_enter Try.func41, Try.ntmps41
  have hb0 : Below w.heap.size w (w.alloc (.cells #[.int .i64 0, .int .i64 0, .int .i64 0, .int .i64 0, .int .i64 0] 24)) := (Below.refl _ _).alloc (Nat.le_refl _) _
  have hsz : w.heap.size < (w.alloc (.cells #[.int .i64 0, .int .i64 0, .int .i64 0, .int .i64 0, .int .i64 0] 24)).heap.size := by simp
  have HB0 := Lib.hid hb0; have HSZ := Lib.hid hsz; clear hb0 hsz
  go_wp2_with fail
  generalize w.alloc (.cells #[.int .i64 0, .int .i64 0, .int .i64 0, .int .i64 0, .int .i64 0] 24) = W1 at *
  go_region
  have ht := ((HZ.out.set 0 a0 (t' := ⟨a0, 0, 0, 0, 0⟩) rfl).set 1 (bits .or .i64 ((a1 : Int) * 256) (a2 : Int)) (t' := ⟨a0, bits .or .i64 ((a1 : Int) * 256) (a2 : Int), 0, 0, 0⟩) rfl)
  have hb2 := ((HB0.out.setCell (p := ⟨w.heap.size, 0, none⟩) (by simp) (.int .i64 (a0 : Nat))).setCell (p := ⟨w.heap.size, 1, none⟩) (by simp) (.int .i64 (bits .or .i64 ((a1 : Int) * 256) (a2 : Int)))).drew
  have ht2 : Holds (((W1.setCell ⟨w.heap.size, 0, none⟩ (.int .i64 (a0 : Nat))).setCell ⟨w.heap.size, 1, none⟩ (.int .i64 (bits .or .i64 ((a1 : Int) * 256) (a2 : Int)))).drew) w.heap.size ⟨a0, bits .or .i64 ((a1 : Int) * 256) (a2 : Int), 0, 0, 0⟩ := ht
  generalize ((W1.setCell ⟨w.heap.size, 0, none⟩ (.int .i64 (a0 : Nat))).setCell ⟨w.heap.size, 1, none⟩ (.int .i64 (bits .or .i64 ((a1 : Int) * 256) (a2 : Int)))).drew = W2 at *
  rw [or_bytes a1 a2 l1 l2] at ht2
  generalize bits .or .i64 ((a1 : Int) * 256) (a2 : Int) = junk
  clear ht c0 c1 c2 c3 c4 f0 f1 f2 f3 f4 k0' k1' k2' HZ HB0 HSZ
  obtain ⟨f0, f1, f2, f3, f4⟩ := ht2.free5
  obtain ⟨c0, c1, c2, c3, c4⟩ := ht2.cells5
  simp only at c0 c1 c2 c3 c4
  have HT := Lib.hid ht2; have HB2 := Lib.hid hb2; clear ht2 hb2
  by_cases hd3 : 3 < a0
  · have t2 : decide ((a0 : Int) > 3) = true := by rw [decide_eq_true_iff]; omega
    have t2' : decide ((3 : Int) < a0) = true := by rw [decide_eq_true_iff]; omega
    have hC : ¬ Can xs := fun hc => by have := hc.2.1; rw [← HZ0.out] at this; omega
    have HD := Lib.hid (decide_eq_false hC); have HC := Lib.hid hC; clear hC
    go_wp2_with fail
    refine bodyPost_ret (v := .tuple #[.agg #[.int .i64 a0, .int .i64 ((a1 : Int) * 256 + a2), .int .i64 0, .int .i64 0, .int .i64 0], .slice none 0 0, .bool false]) (three_results rfl _ _ _ 24 _ (0, 0) _ rfl (Holds.all HT.out _ _ _ _ _) Try.underlying24 rfl (by kernel_rfl) rfl rfl) rfl ?_
    exact ⟨⟨a0, (a1 : Int) * 256 + a2, 0, 0, 0⟩, none, 0, 0, (by rw [HD.out]), fun h => absurd h HC.out, below_set5 (g := w.heap.size) HB2.out (by omega)⟩
  have t2 : decide ((a0 : Int) > 3) = false := by rw [decide_eq_false_iff_not]; omega
  have t2' : decide ((3 : Int) < a0) = false := by rw [decide_eq_false_iff_not]; omega
  by_cases hl : xs.length < 3 + a0
  · have t3 : decide ((xs.length : Int) < 3 + a0) = true := by rw [decide_eq_true_iff]; omega
    have hC : ¬ Can xs := fun hc => by have := hc.2.2; rw [← HZ0.out] at this; omega
    have HD := Lib.hid (decide_eq_false hC); have HC := Lib.hid hC; clear hC
    go_wp2_with fail
    refine bodyPost_ret (v := .tuple #[.agg #[.int .i64 a0, .int .i64 ((a1 : Int) * 256 + a2), .int .i64 0, .int .i64 0, .int .i64 0], .slice none 0 0, .bool false]) (three_results rfl _ _ _ 24 _ (0, 0) _ rfl (Holds.all HT.out _ _ _ _ _) Try.underlying24 rfl (by kernel_rfl) rfl rfl) rfl ?_
    exact ⟨⟨a0, (a1 : Int) * 256 + a2, 0, 0, 0⟩, none, 0, 0, (by rw [HD.out]), fun h => absurd h HC.out, below_set5 (g := w.heap.size) HB2.out (by omega)⟩
  have hcase : a0 = 0 ∨ a0 = 1 ∨ a0 = 2 ∨ a0 = 3 := by omega
  have hC : Can xs := ⟨h, by rw [← HZ0.out]; omega, by rw [← HZ0.out]; omega⟩
  have HD := Lib.hid (decide_eq_true hC); clear hC
  rcases hcase with rfl | rfl | rfl | rfl
  · go_wp2_with fail
    clear c0 c1 c2 c3 c4 f0 f1 f2 f3 f4
    go_loopw [46] (fun i wr => ∃ (k : Nat), k ≤ 0 ∧ i = .int .i64 k ∧ Holds wr w.heap.size ⟨0, (a1 : Int) * 256 + a2, 0, 0, 0⟩ ∧ Below w.heap.size w wr) (fun i _ => 0 - (intOf i).toNat)
    case atStart => exact ⟨0, by omega, rfl, HT.out, HB2.out⟩
    case round =>
      obtain ⟨k, hk, rfl, ht, hb⟩ := hrel
      have hcase : k = 0 := by omega
      clear hk
      subst hcase
      · obtain ⟨p0, hp0⟩ : ∃ p, p = pc 0 0 (nth xs 3 : Nat) := ⟨_, rfl⟩
        obtain ⟨p1, hp1⟩ : ∃ p, p = pc 0 1 (nth xs 4 : Nat) := ⟨_, rfl⟩
        obtain ⟨p2, hp2⟩ : ∃ p, p = pc 0 2 (nth xs 5 : Nat) := ⟨_, rfl⟩
        have ht' : Holds wr w.heap.size (⟨0, (a1 : Int) * 256 + a2, 0, 0, 0⟩ : St) := by exact ht
        have hof : (⟨0, (a1 : Int) * 256 + a2, 0, 0, 0⟩ : St) = St.of xs := by unfold St.of; rw [← HZ0.out, ← HZ1.out, ← HZ2.out]; rfl
        have HO := Lib.hid hof; clear hof hp0 hp1 hp2 ht
        obtain ⟨f0, f1, f2, f3, f4⟩ := ht'.free5
        obtain ⟨c0, c1, c2, c3, c4⟩ := ht'.cells5
        simp only at c0 c1 c2 c3 c4
        have H1 := Lib.hid ht'; have H2 := Lib.hid hb; clear ht' hb
        by_cases hl2 : xs.length = 3
        · have HL2 := Lib.hid hl2
          go_wp2_with fail
          go_region
          go_wp2_with fail
          refine bodyPost_ret (v := .tuple #[((⟨0, (a1 : Int) * 256 + a2, 0, 0, 0⟩ : St)).val, .slice (some ⟨b, off, none⟩) 0 0, .bool true]) (three_drew rfl (Holds.all H1.out _ _ _ _ _) rfl rfl rfl) rfl ?_
          exact reads_none (t := (⟨0, (a1 : Int) * 256 + a2, 0, 0, 0⟩ : St)) HZ0.out HL2.out HD.out HO.out (below_set5 (g := w.heap.size) H2.out (by omega)).drew
        · go_wp2_with fail
          go_region
          go_wp2_with fail
          refine bodyPost_ret (v := .tuple #[((⟨0, (a1 : Int) * 256 + a2, 0, 0, 0⟩ : St)).val, .slice (some ⟨b, off + 3, none⟩) (xs.length - 3) (xs.length - 3), .bool true]) (three_drew rfl (Holds.all H1.out _ _ _ _ _) rfl rfl rfl) rfl ?_
          exact reads_some (t := (⟨0, (a1 : Int) * 256 + a2, 0, 0, 0⟩ : St)) (d := 0) HZ0.out HD.out HO.out (below_set5 (g := w.heap.size) H2.out (by omega)).drew
  · go_wp2_with fail
    clear c0 c1 c2 c3 c4 f0 f1 f2 f3 f4
    go_loopw [46] (fun i wr => ∃ (k : Nat), k ≤ 1 ∧ i = .int .i64 k ∧ Holds wr w.heap.size ⟨1, (a1 : Int) * 256 + a2, pc k 0 (nth xs 3 : Nat), 0, 0⟩ ∧ Below w.heap.size w wr) (fun i _ => 1 - (intOf i).toNat)
    case atStart => exact ⟨0, by omega, rfl, HT.out, HB2.out⟩
    case round =>
      obtain ⟨k, hk, rfl, ht, hb⟩ := hrel
      have hcase : k = 0 ∨ k = 1 := by omega
      clear hk
      rcases hcase with rfl | rfl
      · obtain ⟨f0, f1, f2, f3, f4⟩ := ht.free5
        obtain ⟨c0, c1, c2, c3, c4⟩ := ht.cells5
        simp only at c0 c1 c2 c3 c4
        have kk := (hb.cell (p := ⟨b, off + 3, none⟩) hbl).trans ((add_at b off 3 ▸ HK.out 3 _ (nth_some (by omega)) :))
        have ll := HB.out.lt (nth_some (l := xs) (i := 3) (by omega))
        obtain ⟨v, hv⟩ : ∃ v, v = nth xs 3 := ⟨_, rfl⟩
        rw [← hv] at kk ll
        have H1 := Lib.hid ht; have H2 := Lib.hid hb; have HV := Lib.hid hv; clear ht hb hv
        go_wp2_with fail
        go_roundw
        case rel => exact ⟨1, by omega, rfl, H1.out.set 2 v (by rw [HV.out]; rfl), H2.out.setCell (by simp) _⟩
        case measure => simp [intOf]
      · obtain ⟨p0, hp0⟩ : ∃ p, p = pc 1 0 (nth xs 3 : Nat) := ⟨_, rfl⟩
        obtain ⟨p1, hp1⟩ : ∃ p, p = pc 1 1 (nth xs 4 : Nat) := ⟨_, rfl⟩
        obtain ⟨p2, hp2⟩ : ∃ p, p = pc 1 2 (nth xs 5 : Nat) := ⟨_, rfl⟩
        have ht' : Holds wr w.heap.size (⟨1, (a1 : Int) * 256 + a2, p0, 0, 0⟩ : St) := by rw [hp0]; exact ht
        have hof : (⟨1, (a1 : Int) * 256 + a2, p0, 0, 0⟩ : St) = St.of xs := by rw [hp0]; unfold St.of; rw [← HZ0.out, ← HZ1.out, ← HZ2.out]; rfl
        have HO := Lib.hid hof; clear hof hp0 hp1 hp2 ht
        obtain ⟨f0, f1, f2, f3, f4⟩ := ht'.free5
        obtain ⟨c0, c1, c2, c3, c4⟩ := ht'.cells5
        simp only at c0 c1 c2 c3 c4
        have H1 := Lib.hid ht'; have H2 := Lib.hid hb; clear ht' hb
        by_cases hl2 : xs.length = 4
        · have HL2 := Lib.hid hl2
          go_wp2_with fail
          go_region
          go_wp2_with fail
          refine bodyPost_ret (v := .tuple #[((⟨1, (a1 : Int) * 256 + a2, p0, 0, 0⟩ : St)).val, .slice (some ⟨b, off, none⟩) 0 0, .bool true]) (three_drew rfl (Holds.all H1.out _ _ _ _ _) rfl rfl rfl) rfl ?_
          exact reads_none (t := (⟨1, (a1 : Int) * 256 + a2, p0, 0, 0⟩ : St)) HZ0.out HL2.out HD.out HO.out (below_set5 (g := w.heap.size) H2.out (by omega)).drew
        · go_wp2_with fail
          go_region
          go_wp2_with fail
          refine bodyPost_ret (v := .tuple #[((⟨1, (a1 : Int) * 256 + a2, p0, 0, 0⟩ : St)).val, .slice (some ⟨b, off + 4, none⟩) (xs.length - 4) (xs.length - 4), .bool true]) (three_drew rfl (Holds.all H1.out _ _ _ _ _) rfl rfl rfl) rfl ?_
          exact reads_some (t := (⟨1, (a1 : Int) * 256 + a2, p0, 0, 0⟩ : St)) (d := 1) HZ0.out HD.out HO.out (below_set5 (g := w.heap.size) H2.out (by omega)).drew
  · go_wp2_with fail
    clear c0 c1 c2 c3 c4 f0 f1 f2 f3 f4
    go_loopw [46] (fun i wr => ∃ (k : Nat), k ≤ 2 ∧ i = .int .i64 k ∧ Holds wr w.heap.size ⟨2, (a1 : Int) * 256 + a2, pc k 0 (nth xs 3 : Nat), pc k 1 (nth xs 4 : Nat), 0⟩ ∧ Below w.heap.size w wr) (fun i _ => 2 - (intOf i).toNat)
    case atStart => exact ⟨0, by omega, rfl, HT.out, HB2.out⟩
    case round =>
      obtain ⟨k, hk, rfl, ht, hb⟩ := hrel
      have hcase : k = 0 ∨ k = 1 ∨ k = 2 := by omega
      clear hk
      rcases hcase with rfl | rfl | rfl
      · obtain ⟨f0, f1, f2, f3, f4⟩ := ht.free5
        obtain ⟨c0, c1, c2, c3, c4⟩ := ht.cells5
        simp only at c0 c1 c2 c3 c4
        have kk := (hb.cell (p := ⟨b, off + 3, none⟩) hbl).trans ((add_at b off 3 ▸ HK.out 3 _ (nth_some (by omega)) :))
        have ll := HB.out.lt (nth_some (l := xs) (i := 3) (by omega))
        obtain ⟨v, hv⟩ : ∃ v, v = nth xs 3 := ⟨_, rfl⟩
        rw [← hv] at kk ll
        have H1 := Lib.hid ht; have H2 := Lib.hid hb; have HV := Lib.hid hv; clear ht hb hv
        go_wp2_with fail
        go_roundw
        case rel => exact ⟨1, by omega, rfl, H1.out.set 2 v (by rw [HV.out]; rfl), H2.out.setCell (by simp) _⟩
        case measure => simp [intOf]
      · obtain ⟨f0, f1, f2, f3, f4⟩ := ht.free5
        obtain ⟨c0, c1, c2, c3, c4⟩ := ht.cells5
        simp only at c0 c1 c2 c3 c4
        have kk := (hb.cell (p := ⟨b, off + 4, none⟩) hbl).trans ((add_at b off 4 ▸ HK.out 4 _ (nth_some (by omega)) :))
        have ll := HB.out.lt (nth_some (l := xs) (i := 4) (by omega))
        obtain ⟨v, hv⟩ : ∃ v, v = nth xs 4 := ⟨_, rfl⟩
        rw [← hv] at kk ll
        have H1 := Lib.hid ht; have H2 := Lib.hid hb; have HV := Lib.hid hv; clear ht hb hv
        go_wp2_with fail
        go_roundw
        case rel => exact ⟨2, by omega, rfl, H1.out.set 3 v (by rw [HV.out]; rfl), H2.out.setCell (by simp) _⟩
        case measure => simp [intOf]
      · obtain ⟨p0, hp0⟩ : ∃ p, p = pc 2 0 (nth xs 3 : Nat) := ⟨_, rfl⟩
        obtain ⟨p1, hp1⟩ : ∃ p, p = pc 2 1 (nth xs 4 : Nat) := ⟨_, rfl⟩
        obtain ⟨p2, hp2⟩ : ∃ p, p = pc 2 2 (nth xs 5 : Nat) := ⟨_, rfl⟩
        have ht' : Holds wr w.heap.size (⟨2, (a1 : Int) * 256 + a2, p0, p1, 0⟩ : St) := by rw [hp0, hp1]; exact ht
        have hof : (⟨2, (a1 : Int) * 256 + a2, p0, p1, 0⟩ : St) = St.of xs := by rw [hp0, hp1]; unfold St.of; rw [← HZ0.out, ← HZ1.out, ← HZ2.out]; rfl
        have HO := Lib.hid hof; clear hof hp0 hp1 hp2 ht
        obtain ⟨f0, f1, f2, f3, f4⟩ := ht'.free5
        obtain ⟨c0, c1, c2, c3, c4⟩ := ht'.cells5
        simp only at c0 c1 c2 c3 c4
        have H1 := Lib.hid ht'; have H2 := Lib.hid hb; clear ht' hb
        by_cases hl2 : xs.length = 5
        · have HL2 := Lib.hid hl2
          go_wp2_with fail
          go_region
          go_wp2_with fail
          refine bodyPost_ret (v := .tuple #[((⟨2, (a1 : Int) * 256 + a2, p0, p1, 0⟩ : St)).val, .slice (some ⟨b, off, none⟩) 0 0, .bool true]) (three_drew rfl (Holds.all H1.out _ _ _ _ _) rfl rfl rfl) rfl ?_
          exact reads_none (t := (⟨2, (a1 : Int) * 256 + a2, p0, p1, 0⟩ : St)) HZ0.out HL2.out HD.out HO.out (below_set5 (g := w.heap.size) H2.out (by omega)).drew
        · go_wp2_with fail
          go_region
          go_wp2_with fail
          refine bodyPost_ret (v := .tuple #[((⟨2, (a1 : Int) * 256 + a2, p0, p1, 0⟩ : St)).val, .slice (some ⟨b, off + 5, none⟩) (xs.length - 5) (xs.length - 5), .bool true]) (three_drew rfl (Holds.all H1.out _ _ _ _ _) rfl rfl rfl) rfl ?_
          exact reads_some (t := (⟨2, (a1 : Int) * 256 + a2, p0, p1, 0⟩ : St)) (d := 2) HZ0.out HD.out HO.out (below_set5 (g := w.heap.size) H2.out (by omega)).drew
  · go_wp2_with fail
    clear c0 c1 c2 c3 c4 f0 f1 f2 f3 f4
    go_loopw [46] (fun i wr => ∃ (k : Nat), k ≤ 3 ∧ i = .int .i64 k ∧ Holds wr w.heap.size ⟨3, (a1 : Int) * 256 + a2, pc k 0 (nth xs 3 : Nat), pc k 1 (nth xs 4 : Nat), pc k 2 (nth xs 5 : Nat)⟩ ∧ Below w.heap.size w wr) (fun i _ => 3 - (intOf i).toNat)
    case atStart => exact ⟨0, by omega, rfl, HT.out, HB2.out⟩
    case round =>
      obtain ⟨k, hk, rfl, ht, hb⟩ := hrel
      have hcase : k = 0 ∨ k = 1 ∨ k = 2 ∨ k = 3 := by omega
      clear hk
      rcases hcase with rfl | rfl | rfl | rfl
      · obtain ⟨f0, f1, f2, f3, f4⟩ := ht.free5
        obtain ⟨c0, c1, c2, c3, c4⟩ := ht.cells5
        simp only at c0 c1 c2 c3 c4
        have kk := (hb.cell (p := ⟨b, off + 3, none⟩) hbl).trans ((add_at b off 3 ▸ HK.out 3 _ (nth_some (by omega)) :))
        have ll := HB.out.lt (nth_some (l := xs) (i := 3) (by omega))
        obtain ⟨v, hv⟩ : ∃ v, v = nth xs 3 := ⟨_, rfl⟩
        rw [← hv] at kk ll
        have H1 := Lib.hid ht; have H2 := Lib.hid hb; have HV := Lib.hid hv; clear ht hb hv
        go_wp2_with fail
        go_roundw
        case rel => exact ⟨1, by omega, rfl, H1.out.set 2 v (by rw [HV.out]; rfl), H2.out.setCell (by simp) _⟩
        case measure => simp [intOf]
      · obtain ⟨f0, f1, f2, f3, f4⟩ := ht.free5
        obtain ⟨c0, c1, c2, c3, c4⟩ := ht.cells5
        simp only at c0 c1 c2 c3 c4
        have kk := (hb.cell (p := ⟨b, off + 4, none⟩) hbl).trans ((add_at b off 4 ▸ HK.out 4 _ (nth_some (by omega)) :))
        have ll := HB.out.lt (nth_some (l := xs) (i := 4) (by omega))
        obtain ⟨v, hv⟩ : ∃ v, v = nth xs 4 := ⟨_, rfl⟩
        rw [← hv] at kk ll
        have H1 := Lib.hid ht; have H2 := Lib.hid hb; have HV := Lib.hid hv; clear ht hb hv
        go_wp2_with fail
        go_roundw
        case rel => exact ⟨2, by omega, rfl, H1.out.set 3 v (by rw [HV.out]; rfl), H2.out.setCell (by simp) _⟩
        case measure => simp [intOf]
      · obtain ⟨f0, f1, f2, f3, f4⟩ := ht.free5
        obtain ⟨c0, c1, c2, c3, c4⟩ := ht.cells5
        simp only at c0 c1 c2 c3 c4
        have kk := (hb.cell (p := ⟨b, off + 5, none⟩) hbl).trans ((add_at b off 5 ▸ HK.out 5 _ (nth_some (by omega)) :))
        have ll := HB.out.lt (nth_some (l := xs) (i := 5) (by omega))
        obtain ⟨v, hv⟩ : ∃ v, v = nth xs 5 := ⟨_, rfl⟩
        rw [← hv] at kk ll
        have H1 := Lib.hid ht; have H2 := Lib.hid hb; have HV := Lib.hid hv; clear ht hb hv
        go_wp2_with fail
        go_roundw
        case rel => exact ⟨3, by omega, rfl, H1.out.set 4 v (by rw [HV.out]; rfl), H2.out.setCell (by simp) _⟩
        case measure => simp [intOf]
      · obtain ⟨p0, hp0⟩ : ∃ p, p = pc 3 0 (nth xs 3 : Nat) := ⟨_, rfl⟩
        obtain ⟨p1, hp1⟩ : ∃ p, p = pc 3 1 (nth xs 4 : Nat) := ⟨_, rfl⟩
        obtain ⟨p2, hp2⟩ : ∃ p, p = pc 3 2 (nth xs 5 : Nat) := ⟨_, rfl⟩
        have ht' : Holds wr w.heap.size (⟨3, (a1 : Int) * 256 + a2, p0, p1, p2⟩ : St) := by rw [hp0, hp1, hp2]; exact ht
        have hof : (⟨3, (a1 : Int) * 256 + a2, p0, p1, p2⟩ : St) = St.of xs := by rw [hp0, hp1, hp2]; unfold St.of; rw [← HZ0.out, ← HZ1.out, ← HZ2.out]; rfl
        have HO := Lib.hid hof; clear hof hp0 hp1 hp2 ht
        obtain ⟨f0, f1, f2, f3, f4⟩ := ht'.free5
        obtain ⟨c0, c1, c2, c3, c4⟩ := ht'.cells5
        simp only at c0 c1 c2 c3 c4
        have H1 := Lib.hid ht'; have H2 := Lib.hid hb; clear ht' hb
        by_cases hl2 : xs.length = 6
        · have HL2 := Lib.hid hl2
          go_wp2_with fail
          go_region
          go_wp2_with fail
          refine bodyPost_ret (v := .tuple #[((⟨3, (a1 : Int) * 256 + a2, p0, p1, p2⟩ : St)).val, .slice (some ⟨b, off, none⟩) 0 0, .bool true]) (three_drew rfl (Holds.all H1.out _ _ _ _ _) rfl rfl rfl) rfl ?_
          exact reads_none (t := (⟨3, (a1 : Int) * 256 + a2, p0, p1, p2⟩ : St)) HZ0.out HL2.out HD.out HO.out (below_set5 (g := w.heap.size) H2.out (by omega)).drew
        · go_wp2_with fail
          go_region
          go_wp2_with fail
          refine bodyPost_ret (v := .tuple #[((⟨3, (a1 : Int) * 256 + a2, p0, p1, p2⟩ : St)).val, .slice (some ⟨b, off + 6, none⟩) (xs.length - 6) (xs.length - 6), .bool true]) (three_drew rfl (Holds.all H1.out _ _ _ _ _) rfl rfl rfl) rfl ?_
          exact reads_some (t := (⟨3, (a1 : Int) * 256 + a2, p0, p1, p2⟩ : St)) (d := 3) HZ0.out HD.out HO.out (below_set5 (g := w.heap.size) H2.out (by omega)).drew
theorem read_any (xs : List Nat) (A : Option Addr) (c : Nat) (w : World) (hB : Bytes w A xs) (hc : xs.length ≤ c) (hm : c ≤ maxLen) : Calls Try.prog 41 #[.slice A xs.length c] w (Reads xs A w) := by
  by_cases h : xs.length < 3
  · exact read_short xs A c w h
  · obtain ⟨b, off, rfl, -⟩ := hB.plain (by omega)
    exact read_more b off c xs w hB (by omega) hc hm
end Go.Proofs.Ytpcnnnfgopilaaa
