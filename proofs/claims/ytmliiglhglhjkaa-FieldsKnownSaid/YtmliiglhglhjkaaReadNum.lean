/- The Reader's numbers and rows. -/
import Derived.Test.YtmliiglhglhjkaaReader
import Derived.Laws.BitsAllLaws
namespace Go.Proofs.Ytmliiglhglhjkaa
open Go.ChangeShapes Go.WideShapes Go.ChangeAt Go.RowKit Go.BigFrame
set_option linter.unusedVariables false
namespace M
def took (n : Int) (ys : List Nat) (sp : Bool) : Bool := !sp && decide (0 ≤ n) && decide (n ≤ ys.length)
def out (n : Int) (ys : List Nat) (sp : Bool) : List Nat := if took n ys sp then ys.take n.toNat else []
def rest (n : Int) (ys : List Nat) (sp : Bool) : List Nat := if took n ys sp then ys.drop n.toNat else []
def spoil (n : Int) (ys : List Nat) (sp : Bool) : Bool := !took n ys sp
/-- the number of bytes -/
def val (l : List Nat) : Nat := l.foldl (fun n c => n * 256 + c) 0
theorem snoc_ind {α : Type} {P : List α → Prop} (l : List α) (h0 : P []) (h1 : ∀ l x, P l → P (l ++ [x])) : P l := by
  rw [← List.reverse_reverse l]
  generalize l.reverse = r
  induction r with
  | nil => exact h0
  | cons x r ih => rw [List.reverse_cons]; exact h1 _ _ ih
theorem val_snoc (l : List Nat) (x : Nat) : val (l ++ [x]) = val l * 256 + x := by simp [val]
theorem val_lt (l : List Nat) (h : ∀ x ∈ l, x < 256) : val l < 256 ^ l.length := by
  revert h
  refine snoc_ind (P := fun l => (∀ x ∈ l, x < 256) → val l < 256 ^ l.length) l (by simp [val]) ?_
  intro l x ih h
  have h1 := ih (fun y hy => h y (by simp [hy]))
  have h2 := h x (by simp)
  rw [val_snoc, List.length_append, List.length_singleton, Nat.pow_succ]
  omega
theorem val_zeros (k : Nat) (l : List Nat) : val (List.replicate k 0 ++ l) = val l := by
  unfold val
  rw [List.foldl_append]
  congr 1
  induction k with
  | zero => rfl
  | succ k ih => rw [List.replicate_succ, List.foldl_cons]; exact ih
theorem be_val (l : List Nat) (h : ∀ x ∈ l, x < 256) : be l.length (val l) = l := by
  revert h
  refine snoc_ind (P := fun l => (∀ x ∈ l, x < 256) → be l.length (val l) = l) l (fun _ => rfl) ?_
  intro l x ih h
  have h2 := h x (by simp)
  rw [val_snoc, List.length_append, List.length_singleton, be, show (val l * 256 + x) / 256 = val l by omega, show (val l * 256 + x) % 256 = x by omega, ih (fun y hy => h y (by simp [hy]))]
theorem be_zero (w : Nat) : be w 0 = List.replicate w 0 := by
  induction w with
  | zero => rfl
  | succ w ih => rw [be, ih]; simp [← List.replicate_succ']
end M

theorem rraw_any (g : Nat) (ys : List Nat) (sp : Bool) (n : Int) (w : World) (hR : IsReader w g ys sp) (hy : ys.length ≤ 100000) :
    Calls Try.prog 16 #[.pointer (some ⟨g, 0, none⟩), .int .i64 n] w fun e w' => ∃ v, e = .returned v ∧ Own w' w.heap.size v (M.out n ys sp) ∧ IsReader w' g (M.rest n ys sp) (M.spoil n ys sp) ∧ w.grownBy w' (some g) := by
  have hlt := hR.lt
  by_cases ht : M.took n ys sp = true
  · have ht2 := ht
    simp only [M.took, Bool.and_eq_true, Bool.not_eq_true', decide_eq_true_eq] at ht2
    obtain ⟨⟨rfl, h0⟩, h1⟩ := ht2
    obtain ⟨k, rfl⟩ := Int.eq_ofNat_of_zero_le h0
    rw [M.out, M.rest, M.spoil, if_pos ht, if_pos ht, ht, Int.toNat_natCast]
    have hn := next_in g ys k w hR (by omega)
    have Hn := Lib.hid hn; clear hn
    go_enter Try.func16, Try.ntmps16
    go_wp2_with fail
    refine (Hn.out).mono ?_; rintro e w1 ⟨A, rfl, hB, hA, hne, hR1, hg1⟩
    dsimp only
    have hlen : (ys.take k).length = k := by rw [List.length_take]; omega
    have hc := clone_any A k (ys.take k) w1 hB (by omega) (by omega) hA
    rw [hlen] at hc
    have Hc := Lib.hid hc; clear hc hlen
    go_wp2_with fail
    refine (Hc.out).mono ?_; rintro e w2 ⟨v, rfl, hv, hb⟩
    dsimp only
    go_wp2_with fail
    go_ret
    obtain ⟨A', c', h2, h3, h4, h5, h6, h7⟩ := hv
    exact ⟨_, rfl, ⟨A', c', h2, h3, h4, h5, h6, fun ad he => ⟨Nat.le_trans hg1.size (h7 ad he).1, (h7 ad he).2⟩⟩, hR1.below hb, grown_trans hg1 (grown_of_below hb (Nat.le_refl _) _)⟩
  · have hf : M.took n ys sp = false := by simpa using ht
    rw [M.out, M.rest, M.spoil, if_neg ht, if_neg ht, hf]
    cases sp with
    | true =>
      have hn := next_spoilt g ys n w hR
      have Hn := Lib.hid hn; clear hn
      have hR0 : IsReader w g [] true := by
        obtain ⟨A, c, _, _, _, _, _, _, h5⟩ := id hR
        rw [h5 rfl] at hR; exact hR
      have hc := clone_any none 0 [] w ⟨by simp, by simp⟩ (by simp) (by simp) (fun _ => rfl)
      have Hc := Lib.hid hc; clear hc
      go_enter Try.func16, Try.ntmps16
      go_wp2_with fail
      refine (Hn.out).mono ?_; rintro e w1 ⟨rfl, rfl⟩
      go_wp2_with fail
      refine (Hc.out).mono ?_; rintro e w2 ⟨v, rfl, hv, hb⟩
      dsimp only
      go_wp2_with fail
      go_ret
      exact ⟨_, rfl, hv, hR0.below hb, grown_of_below hb (Nat.le_refl _) _⟩
    | false =>
      have hno : n < 0 ∨ (ys.length : Int) < n := by
        simp only [M.took, Bool.not_false, Bool.true_and, Bool.and_eq_false_iff, decide_eq_false_iff_not] at hf
        omega
      have hn := next_out g ys n w hR hno (by omega)
      have Hn := Lib.hid hn; clear hn
      go_enter Try.func16, Try.ntmps16
      go_wp2_with fail
      refine (Hn.out).mono ?_; rintro e w1 ⟨rfl, hR1, hg1⟩
      have hc := clone_any none 0 [] w1 ⟨by simp, by simp⟩ (by simp) (by simp) (fun _ => rfl)
      have Hc := Lib.hid hc; clear hc
      go_wp2_with fail
      refine (Hc.out).mono ?_; rintro e w2 ⟨v, rfl, hv, hb⟩
      dsimp only
      go_wp2_with fail
      go_ret
      obtain ⟨A', c', h2, h3, h4, h5, h6, h7⟩ := hv
      exact ⟨_, rfl, ⟨A', c', h2, h3, h4, h5, h6, fun ad he => ⟨Nat.le_trans hg1.size (h7 ad he).1, (h7 ad he).2⟩⟩, hR1.below hb, grown_trans hg1 (grown_of_below hb (Nat.le_refl _) _)⟩

theorem run_index_row (l : List Nat) (k x : Nat) (hl : l.length = 8) (hx : l[k]? = some x) (w : World) : (Instr.index 77 (.agg (u8s l).toArray) (.int .i64 (k : Nat))).run Try.prog w = .ok (.int .u8 (x : Nat)) w := by
  have hk : k < 8 := by rw [← hl]; exact (List.getElem?_eq_some_iff.1 hx).1
  have hu := Try.underlying77
  have h5 : (sizeOf 5).run Try.prog w = .ok 1 w := by kernel_rfl
  have h6 : (isAgg 5).run Try.prog w = .ok false w := by kernel_rfl
  have h7 : (k : Int) < 8 := by omega
  simp [Instr.index, asIntOf, run_underlying hu, h5, h6, part, h7, hx]
  omega

theorem next_any (g : Nat) (ys : List Nat) (sp : Bool) (k : Nat) (w : World) (hR : IsReader w g ys sp) (hy : ys.length ≤ 100000) :
    Calls Try.prog 29 #[.pointer (some ⟨g, 0, none⟩), .int .i64 (k : Nat)] w fun e w' => ∃ A n, e = .returned (.slice A n n) ∧ n = (M.out k ys sp).length ∧ Bytes w' A (M.out k ys sp) ∧ (A = none → n = 0) ∧ (∀ ad, A = some ad → ad.block < g) ∧ IsReader w' g (M.rest k ys sp) (M.spoil k ys sp) ∧ w.grownBy w' (some g) := by
  by_cases ht : M.took k ys sp = true
  · have ht2 := ht
    simp only [M.took, Bool.and_eq_true, Bool.not_eq_true', decide_eq_true_eq] at ht2
    obtain ⟨⟨rfl, h0⟩, h1⟩ := ht2
    rw [M.out, M.rest, M.spoil, if_pos ht, if_pos ht, ht, Int.toNat_natCast]
    refine (next_in g ys k w hR (by omega)).mono ?_
    rintro e w1 ⟨A, rfl, hB, hA, hne, hR1, hg1⟩
    exact ⟨A, k, rfl, by rw [List.length_take]; omega, hB, hA, hne, hR1, hg1⟩
  · have hf : M.took k ys sp = false := by simpa using ht
    rw [M.out, M.rest, M.spoil, if_neg ht, if_neg ht, hf]
    cases sp with
    | true =>
      have hR0 : IsReader w g [] true := by
        obtain ⟨A, c, _, _, _, _, _, _, h5⟩ := id hR
        rw [h5 rfl] at hR; exact hR
      refine (next_spoilt g ys k w hR).mono ?_
      rintro e w1 ⟨rfl, rfl⟩
      exact ⟨none, 0, rfl, rfl, ⟨by simp, by simp⟩, by simp, by simp, hR0, World.grownBy.refl _ _⟩
    | false =>
      have hno : (k : Int) < 0 ∨ (ys.length : Int) < k := by
        simp only [M.took, Bool.not_false, Bool.true_and, Bool.and_eq_false_iff, decide_eq_false_iff_not] at hf
        omega
      refine (next_out g ys k w hR hno (by omega)).mono ?_
      rintro e w1 ⟨rfl, hR1, hg1⟩
      exact ⟨none, 0, rfl, rfl, ⟨by simp, by simp⟩, by simp, by simp, hR1, hg1⟩
namespace M
theorem out_len (k : Nat) (ys : List Nat) (sp : Bool) : (out k ys sp).length = 0 ∨ (out k ys sp).length = k := by
  unfold out
  split
  · rename_i h
    simp only [took, Bool.and_eq_true, decide_eq_true_eq] at h
    right; rw [List.length_take, Int.toNat_natCast]; omega
  · left; rfl
theorem or_u64 (V x : Nat) (hV : V < 72057594037927936) (hx : x < 256) : bits .or .u64 ((V : Int) * 256) (x : Int) = ((V * 256 + x : Nat) : Int) := by
  have e : (V : Int) * 256 = ((V * 256 : Nat) : Int) := by rw [Int.natCast_mul]; rfl
  have h2 := Nat.two_pow_add_eq_or_of_lt (i := 8) (b := x) (by omega) V
  rw [e, u64_or_nat (V * 256) x (by omega) (by omega), show V * 256 = 2 ^ 8 * V by omega, ← h2]
theorem out_lt (n : Int) (ys : List Nat) (sp : Bool) (h : ∀ x ∈ ys, x < 256) : ∀ x ∈ out n ys sp, x < 256 := by
  intro x hx
  unfold out at hx
  split at hx
  · exact h x (List.mem_of_mem_take hx)
  · simp at hx
theorem val_out_lt (k : Nat) (ys : List Nat) (sp : Bool) (h : ∀ x ∈ ys, x < 256) : val (out k ys sp) < 256 ^ k := by
  have h1 := val_lt (out k ys sp) (out_lt k ys sp h)
  rcases out_len k ys sp with h0 | h0
  · rw [h0] at h1
    exact Nat.lt_of_lt_of_le h1 (Nat.pow_le_pow_right (by omega) (by omega))
  · rw [h0] at h1; exact h1
theorem val_in (width : Nat) (out : List Nat) (hw : width ≤ 8) (h : out.length = 0 ∨ out.length = width) : val (splice (List.replicate 8 0) (8 - width) out) = val out := by
  rcases h with h | h
  · obtain rfl := List.eq_nil_of_length_eq_zero h
    have : splice (List.replicate 8 0) (8 - width) [] = List.replicate 8 0 ++ [] := by simp [splice]
    rw [this, val_zeros]
  · have : splice (List.replicate 8 0) (8 - width) out = List.replicate (8 - width) 0 ++ out := by
      unfold splice
      rw [List.take_replicate, List.drop_replicate, h, show 8 - (8 - width + width) = 0 by omega, show min (8 - width) 8 = 8 - width by omega]
      simp
    rw [this, val_zeros]
theorem in_len (width : Nat) (out : List Nat) (hw : width ≤ 8) (h : out.length = 0 ∨ out.length = width) : (splice (List.replicate 8 0) (8 - width) out).length = 8 := by
  rw [length_splice _ _ _ (by simp; omega)]; simp
theorem in_lt (o : Nat) (out : List Nat) (h : ∀ x ∈ out, x < 256) : ∀ x ∈ splice (List.replicate 8 0) o out, x < 256 := by
  intro x hx
  unfold splice at hx
  simp only [List.mem_append] at hx
  rcases hx with hx | hx | hx
  · have := List.mem_of_mem_take hx; simp at this; omega
  · exact h x hx
  · have := List.mem_of_mem_drop hx; simp at this; omega
end M
theorem u8s_splice (L : List Nat) (o : Nat) (l : List Nat) : u8s (splice L o l) = splice (u8s L) o (u8s l) := by simp [splice, List.map_take, List.map_drop]
set_option maxRecDepth 100000 in
theorem rnumber_any (g : Nat) (ys : List Nat) (sp : Bool) (width : Nat) (w : World) (hR : IsReader w g ys sp) (h1 : 1 ≤ width) (hw : width ≤ 8) (hy : ys.length ≤ 100000) :
    Calls Try.prog 32 #[.pointer (some ⟨g, 0, none⟩), .int .i64 (width : Nat)] w fun e w' => e = .returned (.int .u64 (M.val (M.out width ys sp) : Nat)) ∧ IsReader w' g (M.rest width ys sp) (M.spoil width ys sp) ∧ w.grownBy w' (some g) := by
  have hlt := hR.lt
  have hyb := hR.bytes
  have hb1 : Below w.heap.size w (w.alloc (.cells (u8s (List.replicate 8 0)).toArray 77)) := (Below.refl _ _).alloc (Nat.le_refl _) _
  have hR1 := hR.below hb1
  have hr1 : Row (w.alloc (.cells (u8s (List.replicate 8 0)).toArray 77)) w.heap.size 77 (u8s (List.replicate 8 0)) := Row.made _ _ _
  have hnx := next_any g ys sp width _ hR1 hy
  have hol := M.out_len width ys sp
  have hob := M.out_lt width ys sp hyb
  have H := Lib.hid hr1; have HB := Lib.hid hb1; have Hnx := Lib.hid hnx; have Hol := Lib.hid hol
  clear hr1 hb1 hR1 hnx hol
  generalize M.out width ys sp = out at *
  generalize M.rest width ys sp = rest at *
  generalize M.spoil width ys sp = spoil at *
  go_enter Try.func32, Try.ntmps32
  go_wp2_with fail
  refine (counting_any _ _ _ h1 hw).mono ?_; rintro e w' ⟨rfl, rfl⟩
  go_wp2_with fail
  refine (Hnx.out).mono ?_; rintro e w1 ⟨A, n, rfl, hn, hB, hA, hne, hR2, hg⟩
  dsimp only
  have hr2 := H.out.grown hg (by intro e; injection e with e; omega)
  have hol2 := Hol.out
  rw [← hn] at hol2
  have Hn := Lib.hid hn; clear hn
  go_wp2_with (with_reducible refine wpList_copy_at rfl (.tmp 10) (.tmp 13) 23 23 rfl 5 Try.underlying23 (by kernel_rfl) _ _ _ _ _ _ rfl rfl w.heap.size (8 - width) _ 77 hr2 out ?_ ?_ ?_ ?_)
  · rw [← Hn.out]; show n = min n width; omega
  · intro h0
    obtain ⟨ad, he, _, hc⟩ := hB.2 h0
    first | exact ⟨rfl, ad, he, hc⟩ | exact ⟨ad, he, hc⟩
  · simp; have := Hn.out; omega
  · intro w2 hr3 hg3
    have hrL : Row w2 w.heap.size 77 (u8s (splice (List.replicate 8 0) (8 - width) out)) := by rw [u8s_splice]; exact hr3.out
    have hL8 := M.in_len width out hw Hol.out
    have hLv := M.val_in width out hw Hol.out
    have hLb := M.in_lt (8 - width) out hob
    have hR3 : IsReader w2 g rest spoil := by
      obtain ⟨A', c', hr, hB', a1, a2, a3, a4, a5⟩ := hR2
      exact ⟨A', c', hr.grown hg3 (by intro e; injection e with e; omega), hB'.grown hg3 (fun ad he => by have := a4 ad he; intro e; injection e with e; omega), a1, a2, a3, a4, a5⟩
    clear hr3 hr2 hB hA hne hR2
    generalize splice (List.replicate 8 0) (8 - width) out = L at *
    have HL8 := Lib.hid hL8; have HLv := Lib.hid hLv; clear hL8 hLv
    have hsz : ((Try.prog.info? 77).map (·.size)) = some (u8s L).toArray.size := by rw [show (Try.prog.info? 77).map (·.size) = some 8 by kernel_rfl]; simp [HL8.out]
    have Hsz := Lib.hid hsz; clear hsz
    go_wp2_with (refine wpList_load_row rfl 77 (.tmp 5) rfl w.heap.size rfl 77 (u8s L).toArray (0, 0) _ hrL Try.underlying77 rfl Hsz.out ?_)
    go_wp2_with fail
    go_loop [6, 8, 16] (fun n _ i => ∃ k : Nat, k ≤ 8 ∧ i = .int .i64 k ∧ n = .int .u64 (M.val (L.take k) : Nat)) (fun _ _ i => 8 - (intOf i).toNat)
    case atStart => exact ⟨0, by omega, rfl, rfl⟩
    case round =>
      obtain ⟨k, hk, rfl, rfl⟩ := hrel
      by_cases hlt8 : k < 8
      · have hx : L[k]? = some (L.getD k 0) := by rw [List.getD_eq_getElem?_getD, List.getElem?_eq_getElem (by rw [HL8.out]; exact hlt8)]; rfl
        have hxi := fun w' => run_index_row L k _ HL8.out hx w'
        have hx8 : L.getD k 0 < 256 := hLb _ (List.mem_of_getElem? hx)
        have hvs : M.val (L.take (k + 1)) = M.val (L.take k) * 256 + L.getD k 0 := by
          rw [List.take_add_one, hx]; exact M.val_snoc _ _
        have hvl : M.val (L.take k) < 256 ^ k := by
          have := M.val_lt (L.take k) (fun x hx => hLb x (List.mem_of_mem_take hx))
          rwa [List.length_take, HL8.out, Nat.min_eq_left (by omega)] at this
        have hvl7 : M.val (L.take k) < 72057594037927936 := Nat.lt_of_lt_of_le hvl (Nat.pow_le_pow_right (n := 256) (by omega) (show k ≤ 7 by omega))
        have Hvs := Lib.hid hvs; have Hvl := Lib.hid hvl; clear hvs hvl hx
        generalize M.val (L.take k) = V at *
        generalize L.getD k 0 = x at *
        go_wp2_with fail
        go_round
        case rel => exact ⟨k + 1, by omega, by go_num, by rw [Hvs.out, M.or_u64 V x hvl7 hx8]⟩
        case measure => simp [intOf]; omega
      · obtain rfl : k = 8 := by omega
        rw [List.take_of_length_le (by rw [HL8.out]; omega), HLv.out]
        go_wp2
        go_ret
        refine ⟨rfl, hR3, ?_⟩
        have h2 := grown_trans (grown_of_below HB.out (Nat.le_refl _) (some g)) hg
        exact ⟨hg3.os.trans h2.os, hg3.tape.trans h2.tape, hg3.output.trans h2.output, Nat.le_trans h2.size hg3.size, fun i hi hn => (hg3.block i (Nat.lt_of_lt_of_le hi h2.size) (by intro e; injection e with e; omega)).trans (h2.block i hi hn)⟩
theorem rbyte_any (g : Nat) (ys : List Nat) (sp : Bool) (w : World) (hR : IsReader w g ys sp) (hy : ys.length ≤ 100000) :
    Calls Try.prog 23 #[.pointer (some ⟨g, 0, none⟩)] w fun e w' => e = .returned (.int .u8 (M.val (M.out (1 : Nat) ys sp) : Nat)) ∧ IsReader w' g (M.rest (1 : Nat) ys sp) (M.spoil (1 : Nat) ys sp) ∧ w.grownBy w' (some g) := by
  have h := rnumber_any g ys sp 1 w hR (by omega) (by omega) hy
  have hv := M.val_out_lt 1 ys sp hR.bytes
  have H := Lib.hid h; clear h
  generalize M.val (M.out (1 : Nat) ys sp) = V at *
  have hv2 : V < 256 := hv
  clear hv
  go_enter Try.func23, Try.ntmps23
  go_wp2_with fail
  refine (H.out).mono ?_; rintro e w' ⟨rfl, h1, h2⟩
  go_wp2_with fail
  go_ret
  exact ⟨rfl, h1, h2⟩
theorem rshort_any (g : Nat) (ys : List Nat) (sp : Bool) (w : World) (hR : IsReader w g ys sp) (hy : ys.length ≤ 100000) :
    Calls Try.prog 26 #[.pointer (some ⟨g, 0, none⟩)] w fun e w' => e = .returned (.int .u16 (M.val (M.out (2 : Nat) ys sp) : Nat)) ∧ IsReader w' g (M.rest (2 : Nat) ys sp) (M.spoil (2 : Nat) ys sp) ∧ w.grownBy w' (some g) := by
  have h := rnumber_any g ys sp 2 w hR (by omega) (by omega) hy
  have hv := M.val_out_lt 2 ys sp hR.bytes
  have H := Lib.hid h; clear h
  generalize M.val (M.out (2 : Nat) ys sp) = V at *
  have hv2 : V < 65536 := hv
  clear hv
  go_enter Try.func26, Try.ntmps26
  go_wp2_with fail
  refine (H.out).mono ?_; rintro e w' ⟨rfl, h1, h2⟩
  go_wp2_with fail
  go_ret
  exact ⟨rfl, h1, h2⟩
theorem rword_any (g : Nat) (ys : List Nat) (sp : Bool) (w : World) (hR : IsReader w g ys sp) (hy : ys.length ≤ 100000) :
    Calls Try.prog 31 #[.pointer (some ⟨g, 0, none⟩)] w fun e w' => e = .returned (.int .u32 (M.val (M.out (4 : Nat) ys sp) : Nat)) ∧ IsReader w' g (M.rest (4 : Nat) ys sp) (M.spoil (4 : Nat) ys sp) ∧ w.grownBy w' (some g) := by
  have h := rnumber_any g ys sp 4 w hR (by omega) (by omega) hy
  have hv := M.val_out_lt 4 ys sp hR.bytes
  have H := Lib.hid h; clear h
  generalize M.val (M.out (4 : Nat) ys sp) = V at *
  have hv2 : V < 4294967296 := hv
  clear hv
  go_enter Try.func31, Try.ntmps31
  go_wp2_with fail
  refine (H.out).mono ?_; rintro e w' ⟨rfl, h1, h2⟩
  go_wp2_with fail
  go_ret
  exact ⟨rfl, h1, h2⟩
theorem rlong_any (g : Nat) (ys : List Nat) (sp : Bool) (w : World) (hR : IsReader w g ys sp) (hy : ys.length ≤ 100000) :
    Calls Try.prog 25 #[.pointer (some ⟨g, 0, none⟩)] w fun e w' => e = .returned (.int .u64 (M.val (M.out (8 : Nat) ys sp) : Nat)) ∧ IsReader w' g (M.rest (8 : Nat) ys sp) (M.spoil (8 : Nat) ys sp) ∧ w.grownBy w' (some g) := by
  have h := rnumber_any g ys sp 8 w hR (by omega) (by omega) hy
  have hv := M.val_out_lt 8 ys sp hR.bytes
  have H := Lib.hid h; clear h
  generalize M.val (M.out (8 : Nat) ys sp) = V at *
  have hv2 : V < 18446744073709551616 := hv
  clear hv
  go_enter Try.func25, Try.ntmps25
  go_wp2_with fail
  refine (H.out).mono ?_; rintro e w' ⟨rfl, h1, h2⟩
  go_wp2_with fail
  go_ret
  exact ⟨rfl, h1, h2⟩
end Go.Proofs.Ytmliiglhglhjkaa
