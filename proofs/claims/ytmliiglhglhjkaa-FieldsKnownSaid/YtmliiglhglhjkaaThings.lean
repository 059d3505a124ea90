/- Rows of things: how many bytes they have, written by one Writer, their bytes put together. -/
import Derived.Test.YtmliiglhglhjkaaThing
namespace Go.Proofs.Ytmliiglhglhjkaa
open Go.ChangeShapes Go.WideShapes Go.ChangeAt Go.RowKit Go.BigFrame
set_option linter.unusedVariables false

/-- the slice at A holds the things ts -/
def Things (w : World) (A : Option Addr) (ts : List Th) : Prop :=
  (∀ t ∈ ts, t.n < 18446744073709551616 ∧ t.b.size ≤ 140737488351232) ∧
  (0 < ts.length → ∃ b off, A = some ⟨b, off, none⟩ ∧ b < w.heap.size ∧ ∀ (i : Nat) (t : Th), ts[i]? = some t →
    w.cell? ⟨b, off + i * 3, none⟩ = some (.int .i8 t.s) ∧ w.cell? ⟨b, off + i * 3 + 1, none⟩ = some (.int .u64 (t.n : Nat)) ∧ w.cell? ⟨b, off + i * 3 + 2, none⟩ = some (.string t.b))
/-- how many bytes they have, of those that are bytes -/
def weigh (ts : List Th) : Nat := (ts.map fun t => t.b.size).sum
def few (ts : List Th) : Bool := decide (ts.length ≤ 50) && decide (weigh ts ≤ 2000)
def texts (ts : List Th) : List Nat := (ts.map Th.bytes).flatten
theorem Things.below {w w' : World} {A : Option Addr} {ts : List Th} (h : Things w A ts) (hb : Below w.heap.size w w') : Things w' A ts :=
  ⟨h.1, fun hn => by
    obtain ⟨b, off, e, hlt, hc⟩ := h.2 hn
    refine ⟨b, off, e, Nat.lt_of_lt_of_le hlt hb.size, fun i t ht => ?_⟩
    obtain ⟨h1, h2, h3⟩ := hc i t ht
    exact ⟨(hb.cell (p := ⟨b, off + i * 3, none⟩) hlt).trans h1, (hb.cell (p := ⟨b, off + i * 3 + 1, none⟩) hlt).trans h2, (hb.cell (p := ⟨b, off + i * 3 + 2, none⟩) hlt).trans h3⟩⟩
theorem weigh_take (ts : List Th) (k : Nat) (t : Th) (h : ts[k]? = some t) : weigh (ts.take (k + 1)) = weigh (ts.take k) + t.b.size := by
  unfold weigh
  rw [List.take_add_one, h]; simp
theorem weigh_bound (ts : List Th) (h : ∀ t ∈ ts, t.b.size ≤ 140737488351232) : weigh ts ≤ ts.length * 140737488351232 := by
  unfold weigh
  induction ts with
  | nil => simp
  | cons t ts ih =>
    have h1 := ih (fun x hx => h x (by simp [hx]))
    have h2 := h t (by simp)
    simp only [List.map_cons, List.sum_cons, List.length_cons] at h1 ⊢
    omega
theorem texts_take (ts : List Th) (k : Nat) (t : Th) (h : ts[k]? = some t) : texts (ts.take (k + 1)) = texts (ts.take k) ++ t.bytes := by
  unfold texts
  rw [List.take_add_one, h]; simp
theorem few_any (A : Option Addr) (c : Nat) (ts : List Th) (w : World) (hT : Things w A ts) (hl : ts.length * 3 ≤ 140737488351232) :
    Calls Try.prog 9 #[.slice A ts.length c] w fun e w' => e = .returned (.bool (few ts)) ∧ w = w' := by
  by_cases h50 : ts.length ≤ 50
  · have hwb := weigh_bound ts (fun t ht => (hT.1 t ht).2)
    have Hwb := Lib.hid hwb; clear hwb
    go_enter Try.func9, Try.ntmps9
    go_wp2_with fail
    go_loop [3, 4] (fun v i => ∃ k : Nat, k ≤ ts.length ∧ i = .int .i64 k ∧ v = .int .i64 (weigh (ts.take k) : Nat)) (fun _ i => ts.length - (intOf i).toNat)
    case atStart => exact ⟨0, by omega, rfl, rfl⟩
    case round =>
      obtain ⟨k, hk, rfl, rfl⟩ := hrel
      by_cases hlt : k < ts.length
      · obtain ⟨b, off, rfl, hbl, hc⟩ := hT.2 (by omega)
        have hx : ts[k]? = some ts[k] := List.getElem?_eq_getElem hlt
        obtain ⟨-, -, hc3⟩ := hc k _ hx
        have hwt := weigh_take ts k _ hx
        have hbk := weigh_bound (ts.take (k + 1)) (fun t ht => (hT.1 t (List.mem_of_mem_take ht)).2)
        rw [hwt, List.length_take] at hbk
        have hbk2 : weigh (ts.take k) + ts[k].b.size ≤ 7036874417561600 := by
          have : min (k + 1) ts.length ≤ 50 := by omega
          omega
        have Hwt := Lib.hid hwt; clear hwt hbk hx hc
        generalize weigh (ts.take k) = V at *
        generalize ts[k].b = B at *
        go_wp2_with fail
        go_round
        case rel => exact ⟨k + 1, by omega, by go_num, by rw [Hwt.out]; push_cast; rfl⟩
        case measure => simp [intOf]; omega
      · obtain rfl : k = ts.length := by omega
        rw [List.take_length]
        have ht : decide ((ts.length : Int) ≤ 50) = true := decide_eq_true (by omega)
        have hfew : few ts = decide ((weigh ts : Int) ≤ 2000) := by
          unfold few
          rw [decide_eq_true h50, Bool.true_and]
          rw [Bool.eq_iff_iff]; simp; omega
        have Hfew := Lib.hid hfew; clear hfew
        by_cases hV : weigh ts ≤ 2000
        · have ht2 : decide ((weigh ts : Int) ≤ 2000) = true := decide_eq_true (by omega)
          generalize weigh ts = V at *
          go_wp2
          go_ret
          exact ⟨by rw [Hfew.out, ht2]; rfl, rfl⟩
        · have ht2 : decide ((weigh ts : Int) ≤ 2000) = false := decide_eq_false (by omega)
          generalize weigh ts = V at *
          go_wp2
          go_ret
          exact ⟨by rw [Hfew.out, ht2]; rfl, rfl⟩
  · have hfew : few ts = false := by
      unfold few
      rw [decide_eq_false h50]; rfl
    rw [hfew]
    have ht : decide ((ts.length : Int) ≤ 50) = false := decide_eq_false (by omega)
    clear hfew
    go_enter Try.func9, Try.ntmps9
    go_wp2_with fail
    go_loop [3, 4] (fun v i => ∃ (k : Nat) (x : Int), k ≤ ts.length ∧ i = .int .i64 k ∧ v = .int .i64 x) (fun _ i => ts.length - (intOf i).toNat)
    case atStart => exact ⟨0, 0, by omega, rfl, rfl⟩
    case round =>
      obtain ⟨k, x, hk, rfl, rfl⟩ := hrel
      by_cases hlt : k < ts.length
      · obtain ⟨b, off, rfl, hbl, hc⟩ := hT.2 (by omega)
        have hx : ts[k]? = some ts[k] := List.getElem?_eq_getElem hlt
        obtain ⟨-, -, hc3⟩ := hc k _ hx
        generalize ts[k].b = B at *
        clear hc hx
        go_wp2_with fail
        go_round
        case rel => exact ⟨k + 1, _, by omega, by go_num, rfl⟩
        case measure => simp [intOf]; omega
      · obtain rfl : k = ts.length := by omega
        go_wp2
        go_ret
        exact ⟨rfl, rfl⟩

theorem run_load_thing (w : World) (b off : Nat) (t : Th) (h1 : w.cell? ⟨b, off, none⟩ = some (.int .i8 t.s)) (h2 : w.cell? ⟨b, off + 1, none⟩ = some (.int .u64 (t.n : Nat))) (h3 : w.cell? ⟨b, off + 2, none⟩ = some (.string t.b)) :
    (Instr.loadAt 42 (.pointer (some ⟨b, off, none⟩))).run Try.prog w = .ok t.val w := by
  refine run_loadAt_part b off 42 _ [.int .i8 t.s, .int .u64 (t.n : Nat), .string t.b] ?_ Try.underlying42 rfl (by kernel_rfl)
  intro j v hj
  rw [add_at]
  match j with
  | 0 => simpa using h1.trans hj
  | 1 => simpa using h2.trans hj
  | 2 => simpa using h3.trans hj
  | _ + 3 => simp at hj
/-- a Writer nothing was done to -/
def zeroW : Array Value := (Value.pointer none :: (u8s (List.replicate 64 0) ++ [Value.int .i64 0])).toArray
theorem writer_zero (w : World) : IsWriter (w.alloc (.cells zeroW 63)) w.heap.size [] :=
  ⟨none, [], List.replicate 64 0, Row.made _ _ _, rfl, by simp, by simp, rfl⟩
theorem texts_len (ts : List Th) : (texts ts).length ≤ weigh ts + 8 * ts.length := by
  unfold texts weigh
  induction ts with
  | nil => simp
  | cons t ts ih =>
    simp only [List.map_cons, List.flatten_cons, List.length_append, List.sum_cons, List.length_cons]
    have : t.bytes.length ≤ t.b.size + 8 := by
      unfold Th.bytes
      split
      · rw [bl_len]; omega
      · rw [M.be_len]; unfold Th.wide; (repeat' split) <;> omega
    omega
theorem weigh_mem {ts : List Th} {t : Th} (h : t ∈ ts) : t.b.size ≤ weigh ts := by
  unfold weigh
  induction ts with
  | nil => simp at h
  | cons x ts ih =>
    simp only [List.map_cons, List.sum_cons]
    rcases List.mem_cons.1 h with rfl | h
    · omega
    · have := ih h; omega
theorem weigh_take_le (ts : List Th) (k : Nat) : weigh (ts.take k) ≤ weigh ts := by
  unfold weigh
  conv => rhs; rw [← List.take_append_drop k ts]
  rw [List.map_append, List.sum_append]; omega
theorem all_any (A : Option Addr) (c : Nat) (ts : List Th) (w : World) (hT : Things w A ts) (hf : ts.length ≤ 100) (hw : weigh ts ≤ 4000) :
    Calls Try.prog 11 #[.slice A ts.length c] w fun e w' => ∃ g, e = .returned (.pointer (some ⟨g, 0, none⟩)) ∧ w.heap.size ≤ g ∧ IsWriter w' g (texts ts) ∧ Below w.heap.size w w' := by
  have hbd : ∀ w' : World, (zeroValue 63).run Try.prog w' = .ok (.agg zeroW) w' := fun w' => by kernel_rfl
  have hw0 := writer_zero w
  have hb0 : Below w.heap.size w (w.alloc (.cells zeroW 63)) := (Below.refl _ _).alloc (Nat.le_refl _) _
  have Hw0 := Lib.hid hw0; have Hb0 := Lib.hid hb0; clear hw0 hb0
  go_enter Try.func11, Try.ntmps11
  go_wp2_with fail
  go_loopw [4] (fun i wr => ∃ k : Nat, k ≤ ts.length ∧ i = .int .i64 k ∧ IsWriter wr w.heap.size (texts (ts.take k)) ∧ Below w.heap.size w wr) (fun i _ => ts.length - (intOf i).toNat)
  case atStart => exact ⟨0, by omega, rfl, Hw0.out, Hb0.out⟩
  case round =>
    obtain ⟨k, hk, rfl, hWr, hb⟩ := hrel
    by_cases hlt : k < ts.length
    · have hT' := hT.below hb
      obtain ⟨b, off, rfl, hbl, hc⟩ := hT'.2 (by omega)
      have hx : ts[k]? = some ts[k] := List.getElem?_eq_getElem hlt
      have hmem := List.mem_of_getElem? hx
      obtain ⟨hc1, hc2, hc3⟩ := hc k _ hx
      have htt := texts_take ts k _ hx
      have hlen : (texts (ts.take k)).length ≤ 4800 := by
        have h1 := texts_len (ts.take k)
        have h2 := weigh_take_le ts k
        rw [List.length_take] at h1
        omega
      have hwr := write_any ts[k] w.heap.size _ wr hWr (hT.1 _ hmem).1 (by have := weigh_mem hmem; omega) (by omega)
      rw [← htt] at hwr
      have Hwr := Lib.hid hwr; have Hb := Lib.hid hb
      clear hwr htt hc hx hmem hb hT' hWr
      generalize ts[k] = t at *
      obtain ⟨s, n, B⟩ := t
      simp only at hc1 hc2 hc3
      go_wp2_with fail
      refine (Hwr.out).mono ?_; rintro e w2 ⟨rfl, h1, h2⟩
      have h3 := below_of_grown h2 Hb.out.size (Nat.le_refl _)
      have H := Lib.hid (And.intro h1 (Hb.out.trans h3))
      clear h1 h2 h3 hc1 hc2 hc3
      go_wp2_with fail
      go_roundw
      case rel => exact ⟨k + 1, by omega, by go_num, H.out.1, H.out.2⟩
      case measure => simp [intOf]; omega
    · obtain rfl : k = ts.length := by omega
      rw [List.take_length] at hWr
      have H := Lib.hid (And.intro hWr hb); clear hWr hb
      go_wp2
      go_ret
      exact ⟨_, rfl, Nat.le_refl _, H.out.1, H.out.2⟩
theorem texts_any (A : Option Addr) (c : Nat) (ts : List Th) (w : World) (hT : Things w A ts) (hf : ts.length ≤ 100) (hw : weigh ts ≤ 4000) :
    Calls Try.prog 13 #[.slice A ts.length c] w fun e w' => e = .returned (.string (strOf (texts ts))) ∧ Below w.heap.size w w' := by
  go_enter Try.func13, Try.ntmps13
  go_wp2_with fail
  go_loopw [3, 4] (fun s i wr => ∃ k : Nat, k ≤ ts.length ∧ i = .int .i64 k ∧ s = .string (strOf (texts (ts.take k))) ∧ Below w.heap.size w wr) (fun _ i _ => ts.length - (intOf i).toNat)
  case atStart => exact ⟨0, by omega, rfl, rfl, Below.refl _ _⟩
  case round =>
    obtain ⟨k, hk, rfl, rfl, hb⟩ := hrel
    by_cases hlt : k < ts.length
    · have hT' := hT.below hb
      obtain ⟨b, off, rfl, hbl, hc⟩ := hT'.2 (by omega)
      have hx : ts[k]? = some ts[k] := List.getElem?_eq_getElem hlt
      have hmem := List.mem_of_getElem? hx
      obtain ⟨hc1, hc2, hc3⟩ := hc k _ hx
      have htt := congrArg strOf (texts_take ts k _ hx)
      rw [strOf_append] at htt
      have hlen : (texts (ts.take k)).length ≤ 4800 := by
        have h1 := texts_len (ts.take k)
        have h2 := weigh_take_le ts k
        rw [List.length_take] at h1
        omega
      have hlen2 := texts_len [ts[k]]
      have hw1 := weigh_mem hmem
      have htx := text_any ts[k] wr (hT.1 _ hmem).1
      have hsz : (strOf (texts (ts.take k))).size ≤ 4800 := by rw [strOf_size]; exact hlen
      have hbt : strOf ts[k].bytes = if ts[k].wide = 0 then ts[k].b else strOf (M.be ts[k].wide ts[k].n) := by
        unfold Th.bytes; split
        · exact strOf_bl _
        · rfl
      have hsz2 : (strOf ts[k].bytes).size ≤ 100000 := by
        rw [strOf_size]
        simp [texts, weigh] at hlen2; omega
      rw [← hbt] at htx
      have Htx := Lib.hid htx; have Hb := Lib.hid hb; have Htt := Lib.hid htt
      clear htx htt hc hx hmem hb hT' hbt hlen hlen2 hw1
      generalize strOf (texts (ts.take k)) = S at *
      generalize strOf ts[k].bytes = T at *
      generalize ts[k] = t at *
      obtain ⟨s, n, B⟩ := t
      simp only at hc1 hc2 hc3
      go_wp2_with fail
      refine (Htx.out).mono ?_; rintro e w2 ⟨rfl, h2⟩
      have H := Lib.hid (Hb.out.trans (h2.mono Hb.out.size))
      clear h2 hc1 hc2 hc3
      go_wp2_with fail
      go_roundw
      case rel => exact ⟨k + 1, by omega, by go_num, by rw [Htt.out], H.out⟩
      case measure => simp [intOf]; omega
    · obtain rfl : k = ts.length := by omega
      rw [List.take_length]
      have H := Lib.hid hb; clear hb
      go_wp2
      go_ret
      exact ⟨rfl, H.out⟩
end Go.Proofs.Ytmliiglhglhjkaa
