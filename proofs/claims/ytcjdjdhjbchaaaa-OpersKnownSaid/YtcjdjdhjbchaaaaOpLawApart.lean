/- OpersApart: where records go by Of, what workers make of what came to each, together, is what one alone makes of all. -/
import Derived.Test.YtcjdjdhjbchaaaaCa25
import Derived.Test.YtcjdjdhjbchaaaaCa26
import Derived.Test.YtcjdjdhjbchaaaaCa9
import Derived.Test.YtcjdjdhjbchaaaaCa21
import Derived.Test.YtcjdjdhjbchaaaaOpApRegion
import Derived.Test.YtcjdjdhjbchaaaaOpApRun
import Derived.Test.YtcjdjdhjbchaaaaOpSlice
import Derived.SizedLaws
namespace Go.Proofs.Ytcjdjdhjbchaaaa
open Go.ChangeShapes Go.WideShapes Go.ChangeAt Go.RowKit Go.BigFrame
open Vr _root_.Go.Proofs.Ytcjdjdhjbchaaaa.Op
set_option linter.unusedVariables false
set_option maxRecDepth 100000
namespace opersApart
def NB (n : Nd) (A : Option Addr) (m c g : Nat) (w : World) : Prop := Row w g 24 [.int .u8 (n.k : Nat), .int .u8 (n.a : Nat), .int .i64 n.b, .int .i64 n.d, .slice A m c]
theorem NB.below {n : Nd} {A : Option Addr} {m c g : Nat} {w w' : World} (h : NB n A m c g w) (hb : Below w.heap.size w w') : NB n A m c g w' := Row.below h hb h.lt
theorem NB.load {n : Nd} {A : Option Addr} {m c g : Nat} {w : World} (h : NB n A m c g w) : ∀ w', Below w.heap.size w w' → (Instr.loadAt 24 (.pointer (some ⟨g, 0, none⟩))).run Try.prog w' = .ok (nodeV n A m c) w' := fun w' hb => load_node (h.below hb)
theorem infoRRR : (Try.prog.info? 25).map (fun i => (i.zero, i.size, i.bytes)) = some (some (.slice none 0 0), 1, 24) := by kernel_rfl
theorem make_rows (k : Nat) (hk : k ≤ 64) (wz : World) : (Instr.makeSlice 49 (.int .i64 (k : Nat)) (.int .i64 (k : Nat))).run Try.prog wz = .ok (.slice (some ⟨wz.heap.size, 0, none⟩) k k) (wz.alloc (.cells (Array.replicate k (Value.slice none 0 0)) 25)) := by
  obtain ⟨i0, hi0, hz0, hz1, hz2⟩ := info_parts infoRRR
  have := run_make (P := Try.prog) wz 49 25 i0 _ Try.underlying49 hi0 hz0 .i64 .i64 k k (by omega) (Int.le_refl _) (by rw [hz2]; omega) (by omega)
  simp only [Int.toNat_natCast] at this
  rw [this, hz1]
  have e : madeCells (Value.slice none 0 0).cells (k * 1) = Array.replicate k (Value.slice none 0 0) := by
    rw [← List.toArray_replicate, Nat.mul_one, show (Value.slice none 0 0).cells = #[.slice none 0 0] from rfl, ← toList_madeCells_one, Array.toArray_toList]
  rw [e]
/-- the records that are parted, two rows -/
def Ls (l m : List Rd) (q : Nat) : List Rd := if q = 0 then l else if q = 1 then m else []
/-- as far as p rows and i records of the next one -/
def Far (l m : List Rd) (p i : Nat) (Z : Nat → List (Rd × Nat)) : Prop := ∀ q, (Z q).map Prod.fst = if q < p then Ls l m q else if q = p then (Ls l m q).take i else []
/-- how they go -/
structure Goes (n : Nd) (k : Nat) (Z : Nat → List (Rd × Nat)) : Prop where
  lt : ∀ q, ∀ x ∈ Z q, x.2 < k
  key : n.k = 5 ∨ n.k = 6 → ∀ q, Keyed2 (fun y => (y % (k : Int)).toNat) (Z q)
def xs2 (Z : Nat → List (Rd × Nat)) (j : Nat) : List Rd := atW (j / 2) (Z (j % 2))
def Sp (w3 : World) (R k : Nat) (n : Nd) (l m : List Rd) (p i : Nat) (w : World) : Prop :=
  ∃ S V Z, Pt w3.heap.size R k S V V (xs2 Z) w ∧ w3.grownBy w (some R) ∧ Far l m p i Z ∧ Goes n k Z
theorem xs2_step {Z : Nat → List (Rd × Nat)} {p t : Nat} {r : Rd} (hp : p < 2) : updF (xs2 Z) (2 * t + p) (xs2 Z (2 * t + p) ++ [r]) = xs2 (updF Z p (Z p ++ [(r, t)])) := by
  funext j
  by_cases h1 : j = 2 * t + p
  · subst h1
    rw [updF_self]
    unfold xs2
    rw [show (2 * t + p) % 2 = p by omega, show (2 * t + p) / 2 = t by omega, updF_self, atW_snoc, if_pos rfl]
  · rw [updF_ne h1]
    unfold xs2
    by_cases h2 : j % 2 = p
    · rw [h2, updF_self, atW_snoc, if_neg (by omega)]
    · rw [updF_ne h2]
theorem Far.next {l m : List Rd} {p : Nat} {Z : Nat → List (Rd × Nat)} (h : Far l m p (Ls l m p).length Z) : Far l m (p + 1) 0 Z := fun q => by
  rw [h q]
  by_cases h1 : q < p
  · rw [if_pos h1, if_pos (by omega)]
  · by_cases h2 : q = p
    · subst h2; rw [if_neg h1, if_pos rfl, if_pos (by omega), List.take_length]
    · rw [if_neg h1, if_neg h2, if_neg (by omega)]
      split <;> simp
theorem Far.step {l m : List Rd} {p i t : Nat} {r : Rd} {Z : Nat → List (Rd × Nat)} (h : Far l m p i Z) (hr : (Ls l m p)[i]? = some r) : Far l m p (i + 1) (updF Z p (Z p ++ [(r, t)])) := fun q => by
  by_cases h2 : q = p
  · subst h2
    rw [updF_self, List.map_append, h q, if_neg (by omega), if_pos rfl, if_neg (by omega), if_pos rfl, List.take_add_one, hr]
    rfl
  · rw [updF_ne h2, h q]
    simp only [if_neg h2]
theorem Goes.step {n : Nd} {k p t : Nat} {r : Rd} {Z : Nat → List (Rd × Nat)} (h : Goes n k Z) (ht : t < k) (hk : n.k = 5 ∨ n.k = 6 → t = (r.k % (k : Int)).toNat) : Goes n k (updF Z p (Z p ++ [(r, t)])) := by
  constructor
  · intro q x hx
    by_cases e : q = p
    · subst e
      rw [updF_self] at hx
      rcases List.mem_append.1 hx with h1 | h1
      · exact h.lt q x h1
      · simp only [List.mem_singleton] at h1; subst h1; exact ht
    · rw [updF_ne e] at hx; exact h.lt q x hx
  · intro hw q x hx
    by_cases e : q = p
    · subst e
      rw [updF_self] at hx
      rcases List.mem_append.1 hx with h1 | h1
      · exact h.key hw q x h1
      · simp only [List.mem_singleton] at h1; subst h1; exact hk hw
    · rw [updF_ne e] at hx; exact h.key hw q x hx
theorem far_start {l m : List Rd} : Far l m 0 0 (fun _ => []) := fun q => by
  by_cases h : q = 0
  · subst h; simp
  · rw [if_neg (by omega), if_neg h]; rfl
theorem goes_start {n : Nd} {k : Nat} : Goes n k (fun _ => []) := ⟨fun q x hx => by simp at hx, fun _ q x hx => by simp at hx⟩
theorem far_len {l m : List Rd} {p i : Nat} {Z : Nat → List (Rd × Nat)} (h : Far l m p i Z) (hl : l.length ≤ 60) (hm : m.length ≤ 60) (j : Nat) : (xs2 Z j).length ≤ 60 := by
  have h1 := h (j % 2)
  have h2 : (xs2 Z j).length ≤ (Z (j % 2)).length := atW_len
  have h3 : ((Z (j % 2)).map Prod.fst).length = (Z (j % 2)).length := List.length_map ..
  have h4 : (Ls l m (j % 2)).length ≤ 60 := by unfold Ls; split; exact hl; split; exact hm; simp
  have h5 : ((Z (j % 2)).map Prod.fst).length ≤ 60 := by
    rw [h1]
    split
    · exact h4
    · split
      · rw [List.length_take]; omega
      · simp
  omega
theorem of_goes {n : Nd} {r : Rd} {wk k : Nat} (h1 : 1 ≤ k) (h2 : k ≤ 64) (hw : wk < k) : ∃ t : Nat, ofR n.k r.k wk k = (t : Int) ∧ t < k ∧ (n.k = 5 ∨ n.k = 6 → t = (r.k % (k : Int)).toNat) := by
  unfold ofR
  rw [if_neg (by omega)]
  by_cases hb : n.k = 5 ∨ n.k = 6
  · rw [if_pos (show waitsB n.k = true from decide_eq_true hb)]
    have h3 := Int.emod_nonneg r.k (show (k : Int) ≠ 0 by omega)
    have h4 := Int.emod_lt_of_pos r.k (show (0 : Int) < k by omega)
    exact ⟨(r.k % (k : Int)).toNat, by omega, by omega, fun _ => rfl⟩
  · rw [if_neg (by rw [show waitsB n.k = false from decide_eq_false hb]; simp)]
    exact ⟨wk, rfl, hw, fun h => absurd h hb⟩
theorem ix_rows (R k t : Nat) (ht : t < k) (w : World) : (Instr.indexAt 49 (.slice (some ⟨R, 0, none⟩) k k) (.int .i64 (t : Nat))).run Try.prog w = .ok (.pointer (some ⟨R, t, none⟩)) w := by
  have h1 : (t : Int) < (k : Int) := by omega
  go_simp
theorem ix_two (g p : Nat) (hp : p < 2) (w : World) : (Instr.indexAt 25 (.slice (some ⟨g, 0, none⟩) 2 2) (.int .i64 (p : Nat))).run Try.prog w = .ok (.pointer (some ⟨g, p, none⟩)) w := by
  have h1 : (p : Int) < 2 := by omega
  go_simp
theorem ix_rec (b o n c i : Nat) (hi : i < n) (w : World) : (Instr.indexAt 28 (.slice (some ⟨b, o, none⟩) n c) (.int .i64 (i : Nat))).run Try.prog w = .ok (.pointer (some ⟨b, o + i * 2, none⟩)) w := by
  have h1 : (i : Int) < (n : Int) := by omega
  go_simp
theorem store_row (g p : Nat) (A : Option Addr) (n c : Nat) (u : Value) (w : World) (hc : w.cell? ⟨g, p, none⟩ = some u) (hf : w.frozen? ⟨g, p, none⟩ = false) : (Instr.storeAt 28 (.pointer (some ⟨g, p, none⟩)) (.slice A n c)).run Try.prog w = .ok () (w.setCell ⟨g, p, none⟩ (.slice A n c)) := by
  go_simp
def vtP (R k t g p : Nat) (u : Value) (bl ol ln cL i : Nat) (r : Rd) (j : Nat) (v : Value) : Prop := match j with
  | 0 => v = .slice (some ⟨R, 0, none⟩) k k
  | 1 => v = .int .i64 (t : Nat)
  | 2 => v = .pointer (some ⟨R, t, none⟩)
  | 3 => v = .slice (some ⟨g, 0, none⟩) 2 2
  | 4 => v = .int .i64 (p : Nat)
  | 5 => v = .slice (some ⟨R, 0, none⟩) k k
  | 6 => v = .int .i64 (t : Nat)
  | 7 => v = .pointer (some ⟨R, t, none⟩)
  | 8 => v = .slice (some ⟨g, 0, none⟩) 2 2
  | 9 => v = .int .i64 (p : Nat)
  | 10 => v = .pointer (some ⟨g, p, none⟩)
  | 11 => v = u
  | 12 => v = .slice (some ⟨bl, ol, none⟩) ln cL
  | 13 => v = .int .i64 (i : Nat)
  | 14 => v = .pointer (some ⟨bl, ol + i * 2, none⟩)
  | 15 => v = r.val
  | 18 => v = .pointer (some ⟨g, p, none⟩)
  | _ => True
theorem m_store {P : Program} {K : Value → World → Prop} {o : Oper} {a : Act} {w w' : World} {p q : Value} (t : TypeId) (x y : Operand) (ho : o.op = .store t x y) (hx : a.eval x = p) (hy : a.eval y = q) (hr : (Instr.storeAt t p q).run P w = .ok () w') (h : K undef w') : Free.gets P K ((execOp a.eval o).run P w) := by
  unfold execOp; simp only [ho, hx, hy, Sem.run_bind, hr, Result.andThen_ok, Sem.run_pure, Free.gets]; exact h
def tbP28 (NA A0 B0 : Option Addr) (c0 d0 g k t R nm nc : Nat) (n : Nd) (a0 b0 Y : List Rd) (er : Int) (two : Bool) (g0 : Nat) (i : Nat) : World → Value → Prop := match i with
  | 14 => fun w v => TupV w v Y er
  | 15 => fun w v => TupV w v Y er
  | 16 => fun w v => RowV w v Y
  | 18 => fun w v => RowV w v Y
  | _ => fun _ _ => True
def vtP28 (NA A0 B0 : Option Addr) (c0 d0 g k t R nm nc : Nat) (n : Nd) (a0 b0 Y : List Rd) (er : Int) (two : Bool) (g0 : Nat) (i : Nat) (v : Value) : Prop := match i with
  | 0 => v = .agg #[.int .u8 (n.k : Nat), .int .u8 (n.a : Nat), .int .i64 n.b, .int .i64 n.d, .slice NA nm nc]
  | 1 => v = .slice (some ⟨R, 0, none⟩) k k
  | 2 => v = .int .i64 (t : Nat)
  | 3 => v = .pointer (some ⟨R, t, none⟩)
  | 4 => v = .slice (some ⟨g, 0, none⟩) 2 2
  | 5 => v = .pointer (some ⟨g, 0, none⟩)
  | 6 => v = .slice A0 a0.length c0
  | 7 => v = .slice (some ⟨R, 0, none⟩) k k
  | 8 => v = .int .i64 (t : Nat)
  | 9 => v = .pointer (some ⟨R, t, none⟩)
  | 10 => v = .slice (some ⟨g, 0, none⟩) 2 2
  | 11 => v = .pointer (some ⟨g, 1, none⟩)
  | 12 => v = .slice B0 b0.length d0
  | 13 => v = .bool two
  | 17 => v = .int .i64 er
  | 19 => v = .int .i64 er
  | _ => True
theorem tbP28_keep (NA A0 B0 : Option Addr) (c0 d0 g k t R nm nc : Nat) (n : Nd) (a0 b0 Y : List Rd) (er : Int) (two : Bool) (g0 : Nat) : ∀ i, Kept (tbP28 NA A0 B0 c0 d0 g k t R nm nc n a0 b0 Y er two g0 i) := fun i => by
  unfold tbP28
  split <;> first | exact kept_row _ | exact kept_tup _ _ | exact kept_lit _ | exact kept_byt _ | exact kept_true
theorem tbP28_end (NA A0 B0 : Option Addr) (c0 d0 g k t R nm nc : Nat) (n : Nd) (a0 b0 Y : List Rd) (er : Int) (two : Bool) (g0 : Nat) : ∀ i w v, 20 ≤ i → tbP28 NA A0 B0 c0 d0 g k t R nm nc n a0 b0 Y er two g0 i w v := fun i w v h => by
  unfold tbP28
  split <;> first | trivial | (exfalso; omega)
set_option maxHeartbeats 16000000 in
theorem walk (n : Nd) (NA : Option Addr) (nm nc : Nat) (hn : NodeOk n) (A B FA : Option Addr) (l m : List Rd) (c d fc ws : Nat) (xs : List Nat) (hws : ws < 256) (w : World) (hA : RowV w (.slice A l.length c) l) (hB : RowV w (.slice B m.length d) m) (hF : Bytes w FA xs) (hW : ∀ r ∈ l, r.W) (hV : ∀ r ∈ m, r.W) :
    Calls Try.prog 7 #[nodeV n NA nm nc, .slice A l.length c, .slice B m.length d, .int .u8 (ws : Nat), .slice FA xs.length fc] w fun e w' => e = .returned (.bool true) ∧ Below w.heap.size w w' := by
  have HA := Lib.hid hA; have HB := Lib.hid hB; have HW := Lib.hid hW; have HV := Lib.hid hV; have HX := Lib.hid hF; have HNO := Lib.hid hn; clear hA hB hW hV hF hn
  by_cases hx : 60 < l.length
  · have hzl : (60 : Int) < (l.length : Int) := by omega
    have dl : decide ((60 : Int) < (l.length : Int)) = true := by simp; omega
    go_enter Try.func7, Try.ntmps7
    go_wp2_with fail
    refine (works_any _).mono ?_; rintro e w9 ⟨rfl, hb9⟩
    dsimp only
    go_wp2_with fail
    go_ret
    exact ⟨rfl, ((Below.refl _ w).alloc (Nat.le_refl _) _).trans (hb9.mono (by simp))⟩
  · have hzl : ¬ (60 : Int) < (l.length : Int) := by omega
    have dl : decide ((60 : Int) < (l.length : Int)) = false := by simp; omega
    have hl : l.length ≤ 60 := by omega
    clear hx
    by_cases hx : 60 < m.length
    · have hzm : (60 : Int) < (m.length : Int) := by omega
      have dm : decide ((60 : Int) < (m.length : Int)) = true := by simp; omega
      go_enter Try.func7, Try.ntmps7
      go_wp2_with fail
      refine (works_any _).mono ?_; rintro e w9 ⟨rfl, hb9⟩
      dsimp only
      go_wp2_with fail
      go_ret
      exact ⟨rfl, ((Below.refl _ w).alloc (Nat.le_refl _) _).trans (hb9.mono (by simp))⟩
    · have hzm : ¬ (60 : Int) < (m.length : Int) := by omega
      have dm : decide ((60 : Int) < (m.length : Int)) = false := by simp; omega
      have hm : m.length ≤ 60 := by omega
      clear hx
      have hnb : NB n NA nm nc w.heap.size (w.alloc (.cells #[.int .u8 (n.k : Nat), .int .u8 (n.a : Nat), .int .i64 n.b, .int .i64 n.d, .slice NA nm nc] 24)) := node_box w n NA nm nc
      by_cases k1 : n.k = 1
      · have z1 : (((n.k : Nat) : Int) == 1) = true := by simp; omega
        obtain ⟨n0, n1, n2, n3, n4⟩ := cells5 hnb
        clear k1
        go_enter Try.func7, Try.ntmps7
        go_wp2_with fail
        refine (works_any _).mono ?_; rintro e w9 ⟨rfl, hb9⟩
        dsimp only
        go_wp2_with fail
        go_ret
        exact ⟨rfl, ((Below.refl _ w).alloc (Nat.le_refl _) _).trans (hb9.mono (by simp))⟩
      · have z1 : (((n.k : Nat) : Int) == 1) = false := by simp; omega
        have hbn := (Below.refl _ w).alloc (Nat.le_refl _) (.cells #[.int .u8 (n.k : Nat), .int .u8 (n.a : Nat), .int .i64 n.b, .int .i64 n.d, .slice NA nm nc] 24)
        have h := HA.out.below hbn; clear HA; have HA := Lib.hid h; clear h
        have h := HB.out.below hbn; clear HB; have HB := Lib.hid h; clear h
        have h := HX.out.below hbn; clear HX; have HX := Lib.hid h; clear h
        have HNB := Lib.hid hnb; have HBN := Lib.hid hbn
        have HK1 := Lib.hid k1
        obtain ⟨n0, n1, n2, n3, n4⟩ := cells5 hnb
        clear hbn hnb k1
        obtain ⟨j, hj, hj64⟩ : ∃ j : Nat, (ws : Int).tmod 64 = (j : Int) ∧ j < 64 := by
          have h4 := Int.tmod_eq_emod_of_nonneg (a := (ws : Int)) (b := 64) (by omega)
          exact ⟨ws % 64, by omega, by omega⟩
        obtain ⟨k, hk⟩ : ∃ k : Nat, (1 : Int) + (j : Int) = (k : Int) := ⟨1 + j, by omega⟩
        have hk1 : 1 ≤ k := by omega
        have hk64 : k ≤ 64 := by omega
        have s1 : IntKind.i64.wrap (ws : Int) = (ws : Int) := IntWalk.i64_in _ (by omega)
        have s2 : IntKind.i64.wrap (j : Int) = (j : Int) := IntWalk.i64_in _ (by omega)
        have s3 : IntKind.i64.wrap (k : Int) = (k : Int) := IntWalk.i64_in _ (by omega)
        have hmk := make_rows k hk64
        go_enter Try.func7, Try.ntmps7
        go_upto_region 3 with fail
        generalize w.alloc (.cells #[.int .u8 (n.k : Nat), .int .u8 (n.a : Nat), .int .i64 n.b, .int .i64 n.d, .slice NA nm nc] 24) = w1 at *
        clear n0 n1 n2 n3 n4
        go_upto_region 5 with fail
        obtain ⟨R, hR⟩ : ∃ R, w1.heap.size = R := ⟨_, rfl⟩
        have hrow := Row.made w1 25 (List.replicate k (Value.slice none 0 0))
        rw [List.toArray_replicate] at hrow
        have hb1 := (Below.refl w1.heap.size w1).alloc (Nat.le_refl _) (.cells (Array.replicate k (Value.slice none 0 0)) 25)
        generalize hw2 : w1.alloc (.cells (Array.replicate k (Value.slice none 0 0)) 25) = w2 at *
        rw [hR] at hrow ⊢
        have h2s : w2.heap.size = R + 1 := by rw [← hw2, ← hR]; simp
        clear hw2
        go_upto_region 6 with fail
        have hgl := Row.made w2 28 [.slice A l.length c, .slice B m.length d]
        have hrow3 := hrow.alloc (.cells #[.slice A l.length c, .slice B m.length d] 28)
        have hb3 := hb1.alloc hb1.size (.cells #[.slice A l.length c, .slice B m.length d] 28)
        simp only [List.toArray] at hgl
        have h3s : (w2.alloc (.cells #[.slice A l.length c, .slice B m.length d] 28)).heap.size = R + 2 := by simp [h2s]
        generalize w2.alloc (.cells #[.slice A l.length c, .slice B m.length d] 28) = w3 at *
        generalize w2.heap.size = G2 at *
        subst h2s
        have HGL := Lib.hid hgl; have HB3 := Lib.hid hb3; have H3S := Lib.hid h3s; have HR := Lib.hid hR
        have HSP := Lib.hid (show Sp w3 R k n l m 0 0 w3 from ⟨_, _, fun _ => [], Pt.start hrow3, ⟨rfl, rfl, rfl, Nat.le_refl _, fun _ _ _ => rfl⟩, far_start, goes_start⟩)
        clear hgl hb3 h3s hR hrow hrow3 hb1 hmk s1 hj hk
        go_loopw [49] (fun vp wr => ∃ p : Nat, p ≤ 2 ∧ vp = .int .i64 (p : Nat) ∧ Sp w3 R k n l m p 0 wr) (fun vp _ => 2 - (intOf vp).toNat)
        case atStart => exact ⟨0, by omega, rfl, HSP.out⟩
        case round =>
          obtain ⟨p, hp, rfl, hsp⟩ := hrel
          clear HSP
          have HSP := Lib.hid hsp; clear hsp
          by_cases hp2 : p < 2
          · have hpz : (p : Int) < 2 := by omega
            obtain ⟨LA, ll, cL, hll, hlc, hlT, hlW, hl60⟩ : ∃ (LA : Option Addr) (ll : List Rd) (cL : Nat), Ls l m p = ll ∧ ([Value.slice A l.length c, .slice B m.length d] : List Value)[p]? = some (.slice LA ll.length cL) ∧ RowV w1 (.slice LA ll.length cL) ll ∧ (∀ r ∈ ll, r.W) ∧ ll.length ≤ 60 := by
              obtain rfl | rfl : p = 0 ∨ p = 1 := by omega
              · exact ⟨A, l, c, rfl, rfl, HA.out, HW.out, hl⟩
              · exact ⟨B, m, d, rfl, rfl, HB.out, HV.out, hm⟩
            have HLL := Lib.hid hll; have HLT := Lib.hid hlT; clear hll hlT hlW
            obtain ⟨S0, V0, Z0, _, hg0, _⟩ := HSP.out
            have hcp := (HGL.out.grown hg0 (by intro e; cases e)).cell p
            rw [hlc] at hcp
            clear hg0 hlc
            go_upto_region 9 with fail
            clear hcp
            go_loopw [15] (fun vi wr2 => ∃ i : Nat, i ≤ ll.length ∧ vi = .int .i64 (i : Nat) ∧ Sp w3 R k n l m p i wr2) (fun vi _ => ll.length - (intOf vi).toNat)
            case atStart => exact ⟨0, by omega, rfl, HSP.out⟩
            case round =>
              obtain ⟨i, hi, rfl, hsp⟩ := hrel
              clear HSP
              by_cases hlt : i < ll.length
              · have hltz : (i : Int) < (ll.length : Int) := by omega
                obtain ⟨S, V, Z, hpt, hgr, hfr, hgo⟩ := hsp
                have HPT := Lib.hid hpt; have HGR := Lib.hid hgr; have HFR := Lib.hid hfr; have HGO := Lib.hid hgo
                clear hpt hgr hfr hgo
                obtain ⟨r, hr⟩ : ∃ r, ll[i]? = some r := ⟨_, List.getElem?_eq_getElem hlt⟩
                have HRI : Hid ((Ls l m p)[i]? = some r) := Lib.hid (by rw [HLL.out]; exact hr)
                obtain ⟨LA1, cL1, eL, hTL, _⟩ := HLT.out
                injection eL with e1 e2 e3
                subst e1 e3
                clear e2
                obtain ⟨bl, ol, rfl, hbl, hql⟩ := recs_at hTL hr
                have HQL := Lib.hid hql
                clear hr hTL hql
                have hbw : ∀ w', w3.grownBy w' (some R) → Below w1.heap.size w1 w' := fun w' hg => below_grown HB3.out hg (by have := HR.out; omega) HB3.out.size
                have HBW := Lib.hid hbw; clear hbw
                have HLR : Hid (∀ w', w3.grownBy w' (some R) → (Instr.loadAt 36 (.pointer (some ⟨bl, ol + i * 2, none⟩))).run Try.prog w' = .ok r.val w') := Lib.hid fun w' hg => by
                  obtain ⟨q0, q1⟩ := HQL.out w' (HBW.out w' hg)
                  exact run_loadAt_part bl (ol + i * 2) 36 _ r.cells (fun j v hj => by
                    match j, hj with
                    | 0, hj => simp only [Rd.cells, List.getElem?_cons_zero, Option.some.injEq] at hj; subst hj; simpa [add_at] using q0
                    | 1, hj => simp only [Rd.cells, List.getElem?_cons_zero, List.getElem?_cons_succ, Option.some.injEq] at hj; subst hj; simpa [add_at] using q1
                    | j + 2, hj => simp [Rd.cells] at hj) Try.underlying36 rfl (by kernel_rfl)
                clear HQL
                have HLN := Lib.hid (far_len HFR.out hl hm)
                obtain ⟨bb, hbb⟩ : ∃ bb, decide ((i : Int) < (xs.length : Int)) = bb := ⟨_, rfl⟩
                go_upto_if 63 with fail
                go_cut [16] from 60 to 70 (fun v wx => ∃ wk : Nat, wk < k ∧ v = .int .i64 (wk : Nat) ∧ wr = wx)
                case first =>
                  cases bb with
                  | true =>
                    have f1 : (i : Int) < (xs.length : Int) := of_decide_eq_true hbb
                    have hif : i < xs.length := by omega
                    obtain ⟨ad, x, rfl, hbl0, _, hx256, hcx0⟩ := HX.out.at_ hif
                    have hcx := ((HBW.out wr HGR.out).cell (p := ad.add i) (by rw [add_block]; exact hbl0)).trans hcx0
                    clear hcx0 hbl0
                    obtain ⟨wk, hwk, hwk2⟩ : ∃ wk : Nat, (x : Int).tmod (k : Int) = (wk : Int) ∧ wk < k := by
                      have h4 := Int.tmod_eq_emod_of_nonneg (a := (x : Int)) (b := (k : Int)) (by omega)
                      have h5 := Nat.mod_lt x (show 0 < k by omega)
                      exact ⟨x % k, by rw [h4]; rfl, h5⟩
                    have s4 : IntKind.i64.wrap (x : Int) = (x : Int) := IntWalk.i64_in _ (by omega)
                    have s5 : IntKind.i64.wrap (wk : Int) = (wk : Int) := IntWalk.i64_in _ (by omega)
                    have s6 : ¬ (k : Int) = 0 := by omega
                    go_wp2_with fail
                    go_meet
                    exact ⟨wk, hwk2, rfl, rfl⟩
                  | false =>
                    have f1 : ¬ (i : Int) < (xs.length : Int) := of_decide_eq_false hbb
                    go_wp2_with fail
                    go_meet
                    exact ⟨0, by omega, rfl, rfl⟩
                case rest =>
                  obtain ⟨wk, hwk, rfl, rfl⟩ := hcut
                  obtain ⟨t, hof, ht, hky⟩ := of_goes (n := n) (r := r) hk1 hk64 hwk
                  have HKY := Lib.hid hky
                  have hoa := fun w' => of_any n NA nm nc r wk k w'
                  rw [hof] at hoa
                  have HOA := Lib.hid hoa
                  have HLD := Lib.hid (HNB.out.below (HBW.out _ HGR.out)).load
                  have HL2 : Hid (∀ w', Below wr.heap.size wr w' → (Instr.loadAt 36 (.pointer (some ⟨bl, ol + i * 2, none⟩))).run Try.prog w' = .ok r.val w') := Lib.hid fun w' hb => HLR.out w' (grown_next HGR.out hb)
                  clear hof hky hoa
                  go_upto_region 14 with fail
                  refine wp_region_below (by kernel_rfl) (by kernel_rfl) ?_
                  refine wpQuiet_step (fun K hK => ?_); refine q_load (p := .pointer (some ⟨w.heap.size, 0, none⟩)) 24 _ rfl rfl rfl (HLD.out) ?_; go_simp; (with_reducible refine hK _ ?_); clear hK K
                  refine wpQuiet_step (fun K hK => ?_); go_simp; (first | (with_reducible refine hK _ ?_) | (with_reducible refine ⟨_, fun _ _ => rfl, hK _ ?_⟩)); clear hK K
                  refine wpQuiet_step (fun K hK => ?_); go_simp; (first | (with_reducible refine hK _ ?_) | (with_reducible refine ⟨_, fun _ _ => rfl, hK _ ?_⟩)); clear hK K
                  refine wpQuiet_step (fun K hK => ?_); go_simp; (first | (with_reducible refine hK _ ?_) | (with_reducible refine ⟨_, fun _ _ => rfl, hK _ ?_⟩)); clear hK K
                  refine wpQuiet_step (fun K hK => ?_); refine q_load (p := .pointer (some ⟨bl, ol + i * 2, none⟩)) 36 _ rfl rfl rfl (HL2.out) ?_; go_simp; (with_reducible refine hK _ ?_); clear hK K
                  refine wpQuiet_step (fun K hK => ?_); go_simp; (first | (with_reducible refine hK _ ?_) | (with_reducible refine ⟨_, fun _ _ => rfl, hK _ ?_⟩)); clear hK K
                  refine wpQuiet_step (fun K hK => ?_); go_simp; (first | (with_reducible refine hK _ ?_) | (with_reducible refine ⟨_, fun _ _ => rfl, hK _ ?_⟩)); clear hK K
                  refine wpQuiet_step (fun K hK => ?_); go_simp; (with_reducible refine ⟨_, fun _ hb => (HOA.out _).mono fun _ _ h => ⟨h.1, hb.trans (h.2.mono (by simpa using hb.size))⟩, hK _ ?_⟩); clear hK K
                  refine wpQuiet_step (fun K hK => ?_); go_simp; (first | (with_reducible refine hK _ ?_) | (with_reducible refine ⟨_, fun _ _ => rfl, hK _ ?_⟩)); clear hK K
                  refine wpQuiet_nil ?_
                  intro w4 hb4
                  have h1 := HPT.out.below hb4; have h2 := grown_next HGR.out hb4
                  clear HPT HGR HLD HL2 HOA hb4
                  have HPT := Lib.hid h1; have HGR := Lib.hid h2
                  clear h1 h2
                  have z4 : ¬ (t : Int) < 0 := by omega
                  have z5 : decide ((t : Int) < 0) = false := decide_eq_false z4
                  have z6 : ¬ (k : Int) ≤ (t : Int) := by omega
                  have z7 : decide ((t : Int) ≥ (k : Int)) = false := decide_eq_false (by omega)
                  have z8 : decide ((k : Int) ≤ (t : Int)) = false := decide_eq_false z6
                  have htz : (t : Int) < (k : Int) := by omega
                  go_upto_region 17 with fail
                  obtain ⟨bb, hbb⟩ : ∃ bb, (S t).isNone = bb := ⟨_, rfl⟩
                  have HBB := Lib.hid hbb; clear hbb
                  go_cut [91] from 86 to 91 (fun v wx => v = .bool bb ∧ w4 = wx)
                  case first =>
                    have hsl := HPT.out.slot ht
                    have hbv := HBB.out
                    cases hS : S t with
                    | none =>
                      rw [hS] at hsl hbv
                      have hsl2 : w4.cell? ⟨R, t, none⟩ = some (.slice none 0 0) := hsl
                      have HVV := Lib.hid hbv
                      clear hsl hS hbv
                      go_wp2_with fail
                      go_meet
                      exact ⟨by rw [← HVV.out]; rfl, rfl⟩
                    | some g =>
                      rw [hS] at hsl hbv
                      have hsl2 : w4.cell? ⟨R, t, none⟩ = some (.slice (some ⟨g, 0, none⟩) 2 2) := hsl
                      have HVV := Lib.hid hbv
                      clear hsl hS hbv
                      go_wp2_with fail
                      go_meet
                      exact ⟨by rw [← HVV.out]; rfl, rfl⟩
                  case rest =>
                   obtain ⟨rfl, rfl⟩ := hcut
                   go_upto_if 91 with fail
                   go_cut [] from 92 to 95 (fun wx => ∃ S' g, Pt w3.heap.size R k S' V V (xs2 Z) wx ∧ S' t = some g ∧ w3.grownBy wx (some R))
                   case first =>
                    cases bb with
                    | true =>
                      have hS : S t = none := by have := HBB.out; cases e : S t; rfl; rw [e] at this; cases this
                      have hf2 := (HPT.out.rows.alloc (.cells #[.slice none 0 0, .slice none 0 0] 28)).free t
                      have hc2 := (HPT.out.rows.alloc (.cells #[.slice none 0 0, .slice none 0 0] 28)).cell t
                      rw [show ((List.range k).map fun t => slotV (S t))[t]? = some (.slice none 0 0) by simp [ht, hS, slotV]] at hc2
                      have hfr := HPT.out.fresh ht hS HGR.out.size
                      have hg1 : w3.grownBy ((w4.alloc (.cells #[.slice none 0 0, .slice none 0 0] 28)).setCell ⟨R, t, none⟩ (.slice (some ⟨w4.heap.size, 0, none⟩) 2 2)) (some R) := grown_far (grown_next HGR.out ((Below.refl _ w4).alloc (Nat.le_refl _) _)) (grown_set _ R t _) (fun b e => .inr (by rw [e]))
                      have HFS := Lib.hid hfr; have HG1 := Lib.hid hg1
                      clear hfr hg1 hS
                      go_wp2_with fail
                      go_meet
                      exact ⟨_, _, HFS.out, updF_self, HG1.out⟩
                    | false =>
                      obtain ⟨g, hS⟩ : ∃ g, S t = some g := by
                        have := HBB.out
                        cases e : S t with
                        | none => rw [e] at this; cases this
                        | some g => exact ⟨g, rfl⟩
                      have HS := Lib.hid hS
                      clear hS
                      go_wp2_with fail
                      go_meet
                      exact ⟨_, g, HPT.out, HS.out, HGR.out⟩
                   case rest =>
                    clear HPT HGR HBB
                    clear S
                    obtain ⟨S, g, hpt, hst, hgr⟩ := hcut
                    have HPT := Lib.hid hpt; have HGR := Lib.hid hgr; have HST := Lib.hid hst
                    clear hpt hgr hst z4 z5 z6 z7 z8
                    go_upto_region 19 with fail
                    refine Free.wp_key (by kernel_rfl) (by kernel_rfl) (PF w3 R k S V (xs2 Z) (2 * t + p) r) (vtP R k t g p (V (2 * t + p)) bl ol ll.length cL i r) (fun vs => PF.start HPT.out HGR.out) ?_ ?_
                    · intro i1 o hi b vs a wa hold hpre hbi hF
                      match i1 with
                      | 0 =>
                        cases hi
                        exact Free.c_all rfl (Free.g_move _ rfl ⟨(hold 12 (by decide)).trans rfl, (hF.quiet (by decide) (by decide) (by decide))⟩)
                      | 1 =>
                        cases hi
                        exact Free.c_all rfl (Free.g_move _ rfl ⟨(hold 17 (by decide)).trans rfl, (hF.quiet (by decide) (by decide) (by decide))⟩)
                      | 2 =>
                        cases hi
                        have h0 := (hpre 0 _ _ (by kernel_rfl) rfl rfl).2.2
                        have h1 := (hpre 1 _ _ (by kernel_rfl) rfl rfl).2.2
                        exact Free.c_all rfl (Free.g_indexAddr (v := .pointer (some ⟨R, t, none⟩)) _ _ _ rfl h0 h1 (ix_rows R k t ht wa) ⟨rfl, (hF.quiet (by decide) (by decide) (by decide))⟩)
                      | 3 =>
                        cases hi
                        have h0 := (hpre 2 _ _ (by kernel_rfl) rfl rfl).2.2
                        have hc := hF.slot ht HST.out
                        exact Free.c_all rfl (Free.g_load (v := .slice (some ⟨g, 0, none⟩) 2 2) _ _ rfl h0 (by go_simp) ⟨rfl, (hF.quiet (by decide) (by decide) (by decide))⟩)
                      | 4 =>
                        cases hi
                        exact Free.c_all rfl (Free.g_move _ rfl ⟨(hold 13 (by decide)).trans rfl, (hF.quiet (by decide) (by decide) (by decide))⟩)
                      | 5 =>
                        cases hi
                        exact Free.c_all rfl (Free.g_move _ rfl ⟨(hold 12 (by decide)).trans rfl, (hF.quiet (by decide) (by decide) (by decide))⟩)
                      | 6 =>
                        cases hi
                        exact Free.c_all rfl (Free.g_move _ rfl ⟨(hold 17 (by decide)).trans rfl, (hF.quiet (by decide) (by decide) (by decide))⟩)
                      | 7 =>
                        cases hi
                        have h0 := (hpre 5 _ _ (by kernel_rfl) rfl rfl).2.2
                        have h1 := (hpre 6 _ _ (by kernel_rfl) rfl rfl).2.2
                        exact Free.c_all rfl (Free.g_indexAddr (v := .pointer (some ⟨R, t, none⟩)) _ _ _ rfl h0 h1 (ix_rows R k t ht wa) ⟨rfl, (hF.quiet (by decide) (by decide) (by decide))⟩)
                      | 8 =>
                        cases hi
                        have h0 := (hpre 7 _ _ (by kernel_rfl) rfl rfl).2.2
                        have hc := hF.slot ht HST.out
                        exact Free.c_all rfl (Free.g_load (v := .slice (some ⟨g, 0, none⟩) 2 2) _ _ rfl h0 (by go_simp) ⟨rfl, (hF.quiet (by decide) (by decide) (by decide))⟩)
                      | 9 =>
                        cases hi
                        exact Free.c_all rfl (Free.g_move _ rfl ⟨(hold 13 (by decide)).trans rfl, (hF.quiet (by decide) (by decide) (by decide))⟩)
                      | 10 =>
                        cases hi
                        have h0 := (hpre 8 _ _ (by kernel_rfl) rfl rfl).2.2
                        have h1 := (hpre 9 _ _ (by kernel_rfl) rfl rfl).2.2
                        exact Free.c_all rfl (Free.g_indexAddr (v := .pointer (some ⟨g, p, none⟩)) _ _ _ rfl h0 h1 (ix_two g p hp2 wa) ⟨rfl, (hF.quiet (by decide) (by decide) (by decide))⟩)
                      | 11 =>
                        cases hi
                        have h0 := (hpre 10 _ _ (by kernel_rfl) rfl rfl).2.2
                        obtain ⟨A9, c9, e9, _⟩ := own_ts (HPT.out.own (2 * t + p))
                        have hc := hF.cell ht HST.out hp2 hbi
                        rw [e9] at hc
                        exact Free.c_all rfl (Free.g_load (v := .slice A9 _ c9) _ _ rfl h0 (by go_simp) ⟨e9.symm, (hF.quiet (by decide) (by decide) (by decide))⟩)
                      | 12 =>
                        cases hi
                        exact Free.c_all rfl (Free.g_move _ rfl ⟨(hold 14 (by decide)).trans rfl, (hF.quiet (by decide) (by decide) (by decide))⟩)
                      | 13 =>
                        cases hi
                        exact Free.c_all rfl (Free.g_move _ rfl ⟨(hold 15 (by decide)).trans rfl, (hF.quiet (by decide) (by decide) (by decide))⟩)
                      | 14 =>
                        cases hi
                        have h0 := (hpre 12 _ _ (by kernel_rfl) rfl rfl).2.2
                        have h1 := (hpre 13 _ _ (by kernel_rfl) rfl rfl).2.2
                        exact Free.c_all rfl (Free.g_indexAddr (v := .pointer (some ⟨bl, ol + i * 2, none⟩)) _ _ _ rfl h0 h1 (ix_rec bl ol ll.length cL i hlt wa) ⟨rfl, (hF.quiet (by decide) (by decide) (by decide))⟩)
                      | 15 =>
                        cases hi
                        have h0 := (hpre 14 _ _ (by kernel_rfl) rfl rfl).2.2
                        exact Free.c_all rfl (Free.g_load (v := r.val) _ _ rfl h0 (HLR.out wa hF.grown) ⟨rfl, (hF.quiet (by decide) (by decide) (by decide))⟩)
                      | 16 =>
                        cases hi
                        have h0 := (hpre 15 _ _ (by kernel_rfl) rfl rfl).2.2
                        exact Free.c_all rfl (Vr.m_lit _ _ _ [(0, r.val)] rfl (by show [(0, a.eval (.tmp 111))] = _; rw [h0]) (build_r1 wa r) ⟨trivial, hF.one hbi⟩)
                      | 17 =>
                        cases hi
                        have p7 := hpre 11 _ _ (by kernel_rfl) rfl rfl
                        have p8 := hpre 16 _ _ (by kernel_rfl) rfl rfl
                        obtain ⟨v9, w9, hrun, hF2⟩ := hF.app (by omega) (by rw [show (2 * t + p) / 2 = t by omega, HST.out]; simp) (by have := HLN.out (2 * t + p); omega) p7.1 p8.1 hbi
                        exact Free.c_all rfl (m_append _ _ _ rfl _ _ p7.2.2 p8.2.1 hrun ⟨trivial, hF2⟩)
                      | 18 =>
                        cases hi
                        have h0 := (hpre 3 _ _ (by kernel_rfl) rfl rfl).2.2
                        have h1 := (hpre 4 _ _ (by kernel_rfl) rfl rfl).2.2
                        exact Free.c_all rfl (Free.g_indexAddr (v := .pointer (some ⟨g, p, none⟩)) _ _ _ rfl h0 h1 (ix_two g p hp2 wa) ⟨rfl, (hF.quiet (by decide) (by decide) (by decide))⟩)
                      | 19 =>
                        cases hi
                        have h0 := (hpre 18 _ _ (by kernel_rfl) rfl rfl).2.2
                        have p7 := hpre 17 _ _ (by kernel_rfl) rfl rfl
                        have hP := hF.s17 p7.1 hbi
                        obtain ⟨A9, c9, e9, _⟩ := own_ts (hP.own (2 * t + p))
                        rw [updF_self] at e9
                        have hput := hF.put (v := undef) ht HST.out hp2 p7.1 hbi
                        rw [e9] at hput
                        exact Free.c_all rfl (m_store _ _ _ rfl h0 (p7.2.1.trans e9) (store_row g p A9 _ c9 _ wa (hP.cell ht HST.out hp2) (hF.free ht HST.out)) ⟨trivial, hput⟩)
                      | _ + 20 => cases hi
                    · intro vs we hv hF
                      have hP := hF.s19 rfl
                      have hG := hF.grown
                      rw [xs2_step hp2] at hP
                      obtain ⟨V9, hV9⟩ : ∃ V9, updF V (2 * t + p) (vs 17) = V9 := ⟨_, rfl⟩
                      rw [hV9] at hP
                      have HP9 := Lib.hid hP; have HG9 := Lib.hid hG; clear hF hv hP hG hV9
                      simp only [Free.puts, Nat.reduceAdd]
                      generalize vs 0 = y0
                      generalize vs 1 = y1
                      generalize vs 2 = y2
                      generalize vs 3 = y3
                      generalize vs 4 = y4
                      generalize vs 5 = y5
                      generalize vs 6 = y6
                      generalize vs 7 = y7
                      generalize vs 8 = y8
                      generalize vs 9 = y9
                      generalize vs 10 = y10
                      generalize vs 11 = y11
                      generalize vs 12 = y12
                      generalize vs 13 = y13
                      generalize vs 14 = y14
                      generalize vs 15 = y15
                      generalize vs 16 = y16
                      generalize vs 17 = y17
                      generalize vs 18 = y18
                      go_simp
                      go_wp2_with fail
                      go_roundw
                      case rel => exact ⟨i + 1, by omega, by simp, S, V9, _, HP9.out, HG9.out, HFR.out.step HRI.out, HGO.out.step ht HKY.out⟩
                      case measure => simp only [intOf]; omega
              · have hil : i = ll.length := by omega
                subst hil
                go_wp2_with fail
                go_roundw
                case rel =>
                  obtain ⟨S, V, Z, hpt, hgr, hfr, hgo⟩ := hsp
                  refine ⟨p + 1, by omega, by simp, S, V, Z, hpt, hgr, ?_, hgo⟩
                  rw [← HLL.out] at hfr
                  exact hfr.next
                case measure => simp only [intOf]; omega
          · have hpp : p = 2 := by omega
            have hpz : ¬ (p : Int) < 2 := by omega
            obtain ⟨S, V, Z, hpt, hgr, hfr, hgo⟩ := HSP.out
            rw [hpp] at hfr
            clear hpp
            have hZ0 : (Z 0).map Prod.fst = l := by have := hfr 0; rw [if_pos (by omega)] at this; exact this
            have hZ1 : (Z 1).map Prod.fst = m := by have := hfr 1; rw [if_pos (by omega)] at this; exact this
            obtain ⟨two, htwo⟩ : ∃ two, decide (n.k = 4 ∨ n.k = 6) = two := ⟨_, rfl⟩
            have hpa : Parts n two (Z 0) (Z 1) := ⟨htwo.symm, fun h => ⟨_, hgo.key h 0, hgo.key h 1⟩⟩
            have hall := run_all (n := n) (two := two) (k := k) (hgo.lt 0) (hgo.lt 1)
            rw [hZ0, hZ1] at hall
            have hsub : ∀ q t, (∀ r ∈ atW t (Z q), r.W) ∧ (atW t (Z q)).length ≤ 60 := fun q t => by
              refine ⟨fun r hr => ?_, ?_⟩
              · have h1 := List.mem_map_of_mem (f := Prod.fst) (mem_atW hr)
                rw [hfr q] at h1
                have h3 : r ∈ Ls l m q := by
                  split at h1
                  · exact h1
                  · split at h1
                    · exact List.mem_of_mem_take h1
                    · simp at h1
                unfold Ls at h3
                split at h3
                · exact HW.out r h3
                · split at h3
                  · exact HV.out r h3
                  · simp at h3
              · have h1 := far_len hfr hl hm (2 * t + q % 2)
                have h2 : (atW t (Z q)).length ≤ (Z q).length := atW_len
                have h3 := congrArg List.length (hfr q)
                rw [List.length_map] at h3
                have h4 : (if q < 2 then Ls l m q else if q = 2 then (Ls l m q).take 0 else []).length ≤ 60 := by
                  split
                  · unfold Ls; split; exact hl; split; exact hm; simp
                  · split <;> simp
                omega
            have hbw := below_grown HB3.out hgr (by have := HR.out; omega) HB3.out.size
            have h := HA.out.below hbw; clear HA; have HA := Lib.hid h; clear h
            have h := HB.out.below hbw; clear HB; have HB := Lib.hid h; clear h
            have h := HNB.out.below hbw; clear HNB; have HNB := Lib.hid h; clear h
            have h := HBN.out.trans (hbw.mono HBN.out.size); clear HBN; have HBN := Lib.hid h; clear h
            have hzl : ∀ q, (Z q).length ≤ 60 := fun q => by
              have h3 := congrArg List.length (hfr q)
              rw [List.length_map] at h3
              have h4 : (if q < 2 then Ls l m q else if q = 2 then (Ls l m q).take 0 else []).length ≤ 60 := by
                split
                · unfold Ls; split; exact hl; split; exact hm; simp
                · split <;> simp
              omega
            have HZL := Lib.hid hzl; clear hzl
            have HPT := Lib.hid hpt; have HPA := Lib.hid hpa; have HALL := Lib.hid hall; have HSUB := Lib.hid hsub; have HTW := Lib.hid htwo
            clear hpt hgr hfr hgo hZ0 hZ1 hpa hall hsub hbw htwo HSP HGL HX
            go_upto_region 21 with fail
            go_cut [18] from 116 to 123 (fun v wx => v = .bool two ∧ wr = wx)
            case first =>
              obtain ⟨n0, n1, n2, n3, n4⟩ := cells5 HNB.out
              by_cases k4 : n.k = 4
              · have z4 : (((n.k : Nat) : Int) == 4) = true := by simp; omega
                have hv := HTW.out
                rw [decide_eq_true (Or.inl k4)] at hv
                have HVV := Lib.hid hv; clear hv k4
                go_wp2_with fail
                go_meet
                exact ⟨by rw [← HVV.out], rfl⟩
              · have z4 : (((n.k : Nat) : Int) == 4) = false := by simp; omega
                by_cases k6 : n.k = 6
                · have z6 : (((n.k : Nat) : Int) == 6) = true := by simp; omega
                  have hv := HTW.out
                  rw [decide_eq_true (Or.inr k6)] at hv
                  have HVV := Lib.hid hv; clear hv k4 k6
                  go_wp2_with fail
                  go_meet
                  exact ⟨by rw [← HVV.out], rfl⟩
                · have z6 : (((n.k : Nat) : Int) == 6) = false := by simp; omega
                  have hv := HTW.out
                  rw [decide_eq_false (by omega)] at hv
                  have HVV := Lib.hid hv; clear hv k4 k6
                  go_wp2_with fail
                  go_meet
                  exact ⟨by rw [← HVV.out], rfl⟩
            case rest =>
              obtain ⟨rfl, rfl⟩ := hcut
              have hc := runTwo_any n NA nm nc HNO.out two wr HA.out HB.out HW.out HV.out hl hm
              obtain ⟨er, her⟩ : ∃ er, errR n (sel two l m).length = er := ⟨_, rfl⟩
              obtain ⟨X, hX⟩ : ∃ X, runR n (sel two l m) = X := ⟨_, rfl⟩
              rw [her, hX] at hc
              have hall := HALL.out
              rw [hX] at hall
              have HC := Lib.hid hc; clear HALL; have HALL := Lib.hid hall; have HER := Lib.hid her
              have hXl : X.length ≤ 3720 := by
                rw [← hX]
                cases two with
                | false => exact Nat.le_trans rlen1 (by omega)
                | true =>
                  have h3 := rlen2 (n := n) (a := l) (b := m)
                  have h4 : l.length * m.length ≤ 60 * 60 := Nat.mul_le_mul hl hm
                  show (runR n [l, m]).length ≤ 3720
                  omega
              have hcs := cells5 HNB.out
              obtain ⟨n0, n1, n2, n3, n4⟩ := hcs
              clear hc her hX hall
              go_wp2_with fail
              refine HC.out.mono ?_; rintro e w5 ⟨⟨v5, rfl, hr5⟩, hb5⟩
              clear n0 n1 n2 n3 n4 HC
              have h := HNB.out.below hb5; clear HNB; have HNB := Lib.hid h; clear h
              have h := HPT.out.below hb5; clear HPT; have HPT := Lib.hid h; clear h
              have h := HBN.out.trans (hb5.mono HBN.out.size); clear HBN; have HBN := Lib.hid h; clear h
              obtain ⟨Ax, cx, rfl, zx⟩ := hr5
              have Hx := Lib.hid (show RowV w5 (.slice Ax X.length cx) X from ⟨Ax, cx, rfl, zx⟩); clear zx hb5 HA HB
              dsimp only
              go_wp2_with fail
              go_loopw [21, 22] (fun vp vt wr2 => ∃ (t : Nat) (P : List Rd), t ≤ k ∧ vt = .int .i64 (t : Nat) ∧ runR n (ups two t (Z 0) (Z 1)) = P ∧ RowV wr2 vp P ∧ Below w5.heap.size w5 wr2) (fun _ vt _ => k - (intOf vt).toNat)
              case atStart => exact ⟨0, [], by omega, rfl, run_none, RowV.nil _, Below.refl _ _⟩
              case round =>
                obtain ⟨t, P, ht, rfl, hP, hrp, hb6⟩ := hrel
                have HBR := Lib.hid hb6; have HP := Lib.hid hP
                obtain ⟨Ap, cp, rfl, zp⟩ := hrp
                have Hp := Lib.hid (show RowV wr (.slice Ap P.length cp) P from ⟨Ap, cp, rfl, zp⟩); clear zp hP hb6
                by_cases hlt : t < k
                · have hltz : (t : Int) < (k : Int) := by omega
                  have h := HPT.out.below HBR.out
                  have HPT2 := Lib.hid h; clear h
                  have hsl := HPT2.out.slot hlt
                  cases hS : S t with
                  | none =>
                    rw [hS] at hsl
                    have hsl2 : wr.cell? ⟨R, t, none⟩ = some (.slice none 0 0) := hsl
                    obtain ⟨_, hx0, hx1⟩ := HPT.out.none_ t hlt hS
                    unfold xs2 at hx0 hx1
                    rw [show 2 * t / 2 = t by omega, show 2 * t % 2 = 0 by omega] at hx0
                    rw [show (2 * t + 1) / 2 = t by omega, show (2 * t + 1) % 2 = 1 by omega] at hx1
                    have hrs : runR n (ups two (t + 1) (Z 0) (Z 1)) = P := by rw [run_skip hx0 hx1]; exact HP.out
                    have HRS := Lib.hid hrs
                    clear hx0 hx1 hrs hsl hS
                    go_wp2_with fail
                    go_roundw
                    case rel => exact ⟨t + 1, P, by omega, by simp, HRS.out, Hp.out, HBR.out⟩
                    case measure => simp only [intOf]; omega
                  | some g =>
                    rw [hS] at hsl
                    have hsl2 : wr.cell? ⟨R, t, none⟩ = some (.slice (some ⟨g, 0, none⟩) 2 2) := hsl
                    obtain ⟨a0, ha0⟩ : ∃ a0, atW t (Z 0) = a0 := ⟨_, rfl⟩
                    obtain ⟨b0, hb0⟩ : ∃ b0, atW t (Z 1) = b0 := ⟨_, rfl⟩
                    have hv0 := RowV.own (HPT2.out.own (2 * t))
                    have hv1 := RowV.own (HPT2.out.own (2 * t + 1))
                    have hc0 := HPT2.out.cell hlt hS (p := 0) (by omega)
                    have hc1 := HPT2.out.cell hlt hS (p := 1) (by omega)
                    rw [show xs2 Z (2 * t) = a0 by unfold xs2; rw [show 2 * t / 2 = t by omega, show 2 * t % 2 = 0 by omega]; exact ha0] at hv0
                    rw [show xs2 Z (2 * t + 1) = b0 by unfold xs2; rw [show (2 * t + 1) / 2 = t by omega, show (2 * t + 1) % 2 = 1 by omega]; exact hb0] at hv1
                    rw [Nat.add_zero] at hc0
                    obtain ⟨A0, c0, e0, z0⟩ := hv0
                    obtain ⟨B0, d0, e1, z1⟩ := hv1
                    rw [e0] at hc0
                    rw [e1] at hc1
                    have HV0 := Lib.hid (show RowV wr (.slice A0 a0.length c0) a0 from ⟨A0, c0, rfl, z0⟩)
                    have HV1 := Lib.hid (show RowV wr (.slice B0 b0.length d0) b0 from ⟨B0, d0, rfl, z1⟩)
                    obtain ⟨hWa, hla⟩ := HSUB.out 0 t
                    obtain ⟨hWb, hlb⟩ := HSUB.out 1 t
                    rw [ha0] at hWa hla
                    rw [hb0] at hWb hlb
                    obtain ⟨Y, hY⟩ : ∃ Y, runR n (sel two a0 b0) = Y := ⟨_, rfl⟩
                    have hRT := fun (w' : World) (va vb : Value) (h1 : RowV w' va a0) (h2 : RowV w' vb b0) => runTwo_any n NA nm nc HNO.out two w' h1 h2 hWa hWb hla hlb
                    have hle : errR n (sel two a0 b0).length = er := by rw [← HER.out, sel_len, sel_len]
                    rw [hY, hle] at hRT
                    have hst := run_step (t := t) HPA.out
                    rw [HP.out, ats_sel, ha0, hb0, hY] at hst
                    have hYl : Y.length ≤ 3720 := by
                      rw [← hY]
                      cases two with
                      | false => exact Nat.le_trans rlen1 (by omega)
                      | true =>
                        have h3 := rlen2 (n := n) (a := a0) (b := b0)
                        have h4 : a0.length * b0.length ≤ 60 * 60 := Nat.mul_le_mul hla hlb
                        show (runR n [a0, b0]).length ≤ 3720
                        omega
                    have hPl : P.length ≤ 8000 := by
                      rw [← HP.out, ups_sel]
                      have hu0 : (upW t (Z 0)).length ≤ 60 := by have h1 := @upW_len t (Z 0); have h2 := HZL.out 0; omega
                      have hu1 : (upW t (Z 1)).length ≤ 60 := by have h1 := @upW_len t (Z 1); have h2 := HZL.out 1; omega
                      cases two with
                      | false => exact Nat.le_trans rlen1 (by omega)
                      | true =>
                        have h3 := rlen2 (n := n) (a := upW t (Z 0)) (b := upW t (Z 1))
                        have h4 : (upW t (Z 0)).length * (upW t (Z 1)).length ≤ 60 * 60 := Nat.mul_le_mul hu0 hu1
                        show (runR n [upW t (Z 0), upW t (Z 1)]).length ≤ 8000
                        omega
                    have HRT := Lib.hid hRT; have HST := Lib.hid hst
                    have HLD := Lib.hid (HNB.out.below HBR.out).load
                    have HS1 : Hid (∀ w', Below wr.heap.size wr w' → (Instr.loadAt 25 (.pointer (some ⟨R, t, none⟩))).run Try.prog w' = .ok (.slice (some ⟨g, 0, none⟩) 2 2) w') := Lib.hid fun w' hb => by
                      have hc := (HPT2.out.below hb).slot hlt
                      rw [hS] at hc
                      have hc2 : w'.cell? ⟨R, t, none⟩ = some (.slice (some ⟨g, 0, none⟩) 2 2) := hc
                      clear hc
                      go_simp
                    have HS2 : Hid (∀ w', Below wr.heap.size wr w' → (Instr.loadAt 28 (.pointer (some ⟨g, 0, none⟩))).run Try.prog w' = .ok (.slice A0 a0.length c0) w') := Lib.hid fun w' hb => by
                      have hc := (HPT2.out.below hb).cell hlt hS (p := 0) (by omega)
                      rw [Nat.add_zero, e0] at hc
                      go_simp
                    have HS3 : Hid (∀ w', Below wr.heap.size wr w' → (Instr.loadAt 28 (.pointer (some ⟨g, 1, none⟩))).run Try.prog w' = .ok (.slice B0 b0.length d0) w') := Lib.hid fun w' hb => by
                      have hc := (HPT2.out.below hb).cell hlt hS (p := 1) (by omega)
                      rw [e1] at hc
                      go_simp
                    clear hsl hS ha0 hb0 hc0 hc1 e0 e1 z0 z1 hWa hWb hY hRT hst hle
                    go_upto_region 28 with fail
                    have tbk := tbP28_keep NA A0 B0 c0 d0 g k t R nm nc n a0 b0 Y er two w.heap.size
                    refine Free.wp_key (by kernel_rfl) (by kernel_rfl) (FT _ (tbP28 NA A0 B0 c0 d0 g k t R nm nc n a0 b0 Y er two w.heap.size)) (vtP28 NA A0 B0 c0 d0 g k t R nm nc n a0 b0 Y er two w.heap.size) (fun vs => FT.start (tbP28_end NA A0 B0 c0 d0 g k t R nm nc n a0 b0 Y er two w.heap.size)) ?_ ?_
                    · intro i o hi b vs a wa hold hpre hbi hF
                      match i with
                      | 0 =>
                        cases hi
                        have h0 : a.eval (.tmp 5) = .pointer (some ⟨w.heap.size, 0, none⟩) := (hold 5 (by decide)).trans rfl
                        exact Free.c_all rfl (Free.g_load _ _ rfl h0 (HLD.out wa hF.1) ⟨rfl, hF.step tbk (Below.refl _ _) trivial⟩)
                      | 1 =>
                        cases hi
                        have h0 : a.eval (.tmp 12) = .slice (some ⟨R, 0, none⟩) k k := (hold 12 (by decide)).trans rfl
                        exact Free.c_all rfl (Free.g_move _ rfl ⟨h0, hF.step tbk (Below.refl _ _) trivial⟩)
                      | 2 =>
                        cases hi
                        have h0 : a.eval (.tmp 22) = .int .i64 (t : Nat) := (hold 22 (by decide)).trans rfl
                        exact Free.c_all rfl (Free.g_move _ rfl ⟨h0, hF.step tbk (Below.refl _ _) trivial⟩)
                      | 3 =>
                        cases hi
                        have h1 : a.eval (.tmp 145) = .slice (some ⟨R, 0, none⟩) k k := (hpre 1 _ _ (by kernel_rfl) rfl rfl).2.2
                        have h2 : a.eval (.tmp 146) = .int .i64 (t : Nat) := (hpre 2 _ _ (by kernel_rfl) rfl rfl).2.2
                        exact Free.c_all rfl (Free.g_indexAddr _ _ _ rfl h1 h2 (ix_rows R k t hlt wa) ⟨rfl, hF.step tbk (Below.refl _ _) trivial⟩)
                      | 4 =>
                        cases hi
                        have h0 : a.eval (.tmp 147) = .pointer (some ⟨R, t, none⟩) := (hpre 3 _ _ (by kernel_rfl) rfl rfl).2.2
                        exact Free.c_all rfl (Free.g_load _ _ rfl h0 (HS1.out wa hF.1) ⟨rfl, hF.step tbk (Below.refl _ _) trivial⟩)
                      | 5 =>
                        cases hi
                        have h1 : a.eval (.tmp 148) = .slice (some ⟨g, 0, none⟩) 2 2 := (hpre 4 _ _ (by kernel_rfl) rfl rfl).2.2
                        exact Free.c_all rfl (Free.g_indexAddr _ _ _ rfl h1 rfl (ix_two g 0 (by omega) wa) ⟨rfl, hF.step tbk (Below.refl _ _) trivial⟩)
                      | 6 =>
                        cases hi
                        have h0 : a.eval (.tmp 149) = .pointer (some ⟨g, 0, none⟩) := (hpre 5 _ _ (by kernel_rfl) rfl rfl).2.2
                        exact Free.c_all rfl (Free.g_load _ _ rfl h0 (HS2.out wa hF.1) ⟨rfl, hF.step tbk (Below.refl _ _) trivial⟩)
                      | 7 =>
                        cases hi
                        have h0 : a.eval (.tmp 12) = .slice (some ⟨R, 0, none⟩) k k := (hold 12 (by decide)).trans rfl
                        exact Free.c_all rfl (Free.g_move _ rfl ⟨h0, hF.step tbk (Below.refl _ _) trivial⟩)
                      | 8 =>
                        cases hi
                        have h0 : a.eval (.tmp 22) = .int .i64 (t : Nat) := (hold 22 (by decide)).trans rfl
                        exact Free.c_all rfl (Free.g_move _ rfl ⟨h0, hF.step tbk (Below.refl _ _) trivial⟩)
                      | 9 =>
                        cases hi
                        have h1 : a.eval (.tmp 151) = .slice (some ⟨R, 0, none⟩) k k := (hpre 7 _ _ (by kernel_rfl) rfl rfl).2.2
                        have h2 : a.eval (.tmp 152) = .int .i64 (t : Nat) := (hpre 8 _ _ (by kernel_rfl) rfl rfl).2.2
                        exact Free.c_all rfl (Free.g_indexAddr _ _ _ rfl h1 h2 (ix_rows R k t hlt wa) ⟨rfl, hF.step tbk (Below.refl _ _) trivial⟩)
                      | 10 =>
                        cases hi
                        have h0 : a.eval (.tmp 153) = .pointer (some ⟨R, t, none⟩) := (hpre 9 _ _ (by kernel_rfl) rfl rfl).2.2
                        exact Free.c_all rfl (Free.g_load _ _ rfl h0 (HS1.out wa hF.1) ⟨rfl, hF.step tbk (Below.refl _ _) trivial⟩)
                      | 11 =>
                        cases hi
                        have h1 : a.eval (.tmp 154) = .slice (some ⟨g, 0, none⟩) 2 2 := (hpre 10 _ _ (by kernel_rfl) rfl rfl).2.2
                        exact Free.c_all rfl (Free.g_indexAddr _ _ _ rfl h1 rfl (ix_two g 1 (by omega) wa) ⟨rfl, hF.step tbk (Below.refl _ _) trivial⟩)
                      | 12 =>
                        cases hi
                        have h0 : a.eval (.tmp 155) = .pointer (some ⟨g, 1, none⟩) := (hpre 11 _ _ (by kernel_rfl) rfl rfl).2.2
                        exact Free.c_all rfl (Free.g_load _ _ rfl h0 (HS3.out wa hF.1) ⟨rfl, hF.step tbk (Below.refl _ _) trivial⟩)
                      | 13 =>
                        cases hi
                        have h0 : a.eval (.tmp 18) = .bool two := (hold 18 (by decide)).trans rfl
                        exact Free.c_all rfl (Free.g_move _ rfl ⟨h0, hF.step tbk (Below.refl _ _) trivial⟩)
                      | 14 =>
                        cases hi
                        have h0 : a.eval (.tmp 144) = .agg #[.int .u8 (n.k : Nat), .int .u8 (n.a : Nat), .int .i64 n.b, .int .i64 n.d, .slice NA nm nc] := (hpre 0 _ _ (by kernel_rfl) rfl rfl).2.2
                        have e1 : a.eval (.tmp 150) = .slice A0 a0.length c0 := (hpre 6 _ _ (by kernel_rfl) rfl rfl).2.2
                        have r1 := (HV0.out).below hF.1
                        have e2 : a.eval (.tmp 156) = .slice B0 b0.length d0 := (hpre 12 _ _ (by kernel_rfl) rfl rfl).2.2
                        have r2 := (HV1.out).below hF.1
                        have h3 : a.eval (.tmp 157) = .bool two := (hpre 13 _ _ (by kernel_rfl) rfl rfl).2.2
                        refine Free.c_all rfl (Free.g_call _ _ rfl Try.func24 (by kernel_rfl) rfl [.agg #[.int .u8 (n.k : Nat), .int .u8 (n.a : Nat), .int .i64 n.b, .int .i64 n.d, .slice NA nm nc], .slice A0 a0.length c0, .slice B0 b0.length d0, .bool two] (by show [a.eval (.tmp 144), a.eval (.tmp 150), a.eval (.tmp 156), a.eval (.tmp 157)] = _; rw [h0, e1, e2, h3]) ?_)
                        exact (HRT.out wa _ _ r1 r2).mono fun e w2 ⟨⟨v9, he, hr9⟩, hb9⟩ => ⟨_, he, trivial, hF.step tbk hb9 ⟨v9, rfl, hr9⟩⟩
                      | 15 =>
                        cases hi
                        have p0 := hpre 14 _ _ (by kernel_rfl) rfl rfl
                        have e0 : a.eval (.tmp 158) = vs 14 := p0.2.1
                        have r0 := hF.2 14 p0.1
                        exact Free.c_all rfl (Free.g_move _ rfl ⟨trivial, hF.step tbk (Below.refl _ _) (by rw [e0]; exact r0)⟩)
                      | 16 =>
                        cases hi
                        have p0 := hpre 15 _ _ (by kernel_rfl) rfl rfl
                        have e0 : a.eval (.tmp 143) = vs 15 := p0.2.1
                        obtain ⟨v9, e9, r9⟩ := hF.2 15 p0.1
                        exact Free.c_all rfl (m_extract0 _ rfl (e0.trans e9) ⟨trivial, hF.step tbk (Below.refl _ _) r9⟩)
                      | 17 =>
                        cases hi
                        have p0 := hpre 15 _ _ (by kernel_rfl) rfl rfl
                        have e0 : a.eval (.tmp 143) = vs 15 := p0.2.1
                        obtain ⟨v9, e9, r9⟩ := hF.2 15 p0.1
                        exact Free.c_all rfl (m_extract1 _ rfl (e0.trans e9) ⟨rfl, hF.step tbk (Below.refl _ _) trivial⟩)
                      | 18 =>
                        cases hi
                        have p0 := hpre 16 _ _ (by kernel_rfl) rfl rfl
                        have e0 : a.eval (.tmp 159) = vs 16 := p0.2.1
                        have r0 := hF.2 16 p0.1
                        exact Free.c_all rfl (Free.g_assign _ rfl ⟨trivial, hF.step tbk (Below.refl _ _) (by rw [e0]; exact r0)⟩)
                      | 19 =>
                        cases hi
                        have h0 : a.eval (.tmp 160) = .int .i64 er := (hpre 17 _ _ (by kernel_rfl) rfl rfl).2.2
                        exact Free.c_all rfl (Free.g_assign _ rfl ⟨h0, hF.step tbk (Below.refl _ _) trivial⟩)
                      | _ + 20 => cases hi
                    · intro vs wf hv hF
                      have f19 : vs 19 = .int .i64 er := hv 19 (by simp) (by rintro o ⟨⟩; rfl)
                      have k18 := hF.2 18 rfl
                      change RowV wf (vs 18) Y at k18
                      have HWE := Lib.hid hF.1; clear hF hv tbk
                      simp only [Free.puts, Nat.reduceAdd, f19]
                      clear f19
                      generalize vs 0 = y0 at *
                      generalize vs 1 = y1 at *
                      generalize vs 2 = y2 at *
                      generalize vs 3 = y3 at *
                      generalize vs 4 = y4 at *
                      generalize vs 5 = y5 at *
                      generalize vs 6 = y6 at *
                      generalize vs 7 = y7 at *
                      generalize vs 8 = y8 at *
                      generalize vs 9 = y9 at *
                      generalize vs 10 = y10 at *
                      generalize vs 11 = y11 at *
                      generalize vs 12 = y12 at *
                      generalize vs 13 = y13 at *
                      generalize vs 14 = y14 at *
                      generalize vs 15 = y15 at *
                      generalize vs 16 = y16 at *
                      generalize vs 17 = y17 at *
                      generalize vs 18 = y18 at *
                      obtain ⟨Ay, cy, rfl, zy⟩ := k18
                      have Hy := Lib.hid (show RowV wf (.slice Ay (Y : List Rd).length cy) Y from ⟨Ay, cy, rfl, zy⟩); clear zy
                      go_simp
                      have h := HWE.out
                      have hb7 := HBR.out.trans (h.mono HBR.out.size)
                      have hp7 := Hp.out.below h
                      clear Hp HLD HS1 HS2 HS3 HV0 HV1 HPT2 h
                      have HB7 := Lib.hid hb7; have Hp := Lib.hid hp7; clear hb7 hp7
                      have hadd := add_v (LitV.made wf [.slice Ap P.length cp, .slice Ay Y.length cy] [P, Y] ⟨Hp.out, Hy.out, trivial⟩ #[.slice Ap P.length cp, .slice Ay Y.length cy] rfl 2 rfl) (by simp) (by simp; omega)
                      rw [HST.out] at hadd
                      have HADD := Lib.hid hadd; clear hadd
                      go_wp2_with fail
                      refine HADD.out.mono ?_; rintro e w8 ⟨⟨v8, rfl, hr8⟩, hb8⟩
                      have hb9 : Below wf.heap.size wf w8 := ((Below.refl _ wf).alloc (Nat.le_refl _) _).trans (hb8.mono (by simp))
                      have HB9 := Lib.hid (HB7.out.trans (hb9.mono HB7.out.size)); have HR8 := Lib.hid hr8
                      clear HADD hb8 hb9 hr8
                      dsimp only
                      go_wp2_with fail
                      go_roundw
                      case rel => exact ⟨t + 1, _, by omega, by simp, rfl, HR8.out, HB9.out⟩
                      case measure => simp only [intOf]; omega
                · have htk : t = k := by omega
                  subst htk
                  have hPX : P = X := by rw [← HP.out]; exact HALL.out
                  subst hPX
                  have h := Hx.out.below HBR.out
                  have Hx2 := Lib.hid h; clear h
                  have hb7 := HBN.out.trans (HBR.out.mono HBN.out.size)
                  have HB7 := Lib.hid hb7
                  have hal := alike_v Hx2.out Hp.out (by omega) (by omega)
                  rw [sameR_self] at hal
                  have HAL := Lib.hid hal
                  clear hal hb7 Hx Hx2 Hp HPT HALL HP HPA
                  by_cases he : er = 0
                  · subst he
                    go_wp2_with fail
                    refine HAL.out.mono ?_; rintro e w8 ⟨rfl, hb8⟩
                    have HB8 := Lib.hid (HB7.out.trans (hb8.mono HB7.out.size)); clear hb8 HB7 HAL
                    dsimp only
                    go_wp2_with fail
                    refine (works_any _).mono ?_; rintro e w9 ⟨rfl, hb9⟩
                    dsimp only
                    go_wp2_with fail
                    go_ret
                    exact ⟨rfl, HB8.out.trans (hb9.mono HB8.out.size)⟩
                  · have z0 : (er != 0) = true := by simp [he]
                    have z9 : (er == 0) = false := by simp [he]
                    clear HAL
                    go_wp2_with fail
                    refine (works_any _).mono ?_; rintro e w9 ⟨rfl, hb9⟩
                    dsimp only
                    go_wp2_with fail
                    go_ret
                    exact ⟨rfl, HB7.out.trans (hb9.mono HB7.out.size)⟩

set_option maxRecDepth 100000 in
theorem lifted (os : Os) (started : os.Started) (H : Type) (enc : TypeId × Value → H) :
    ReturnsInHanded {} Try.checked os 7 .any (Rows.opersApartSpec.pre6 enc Try.prog Try.f7 Rows.opersApartRow.domain false) (Rows.opersApartSpec.post enc Try.prog Try.f7 false true false false) := by
  refine returnsInHanded_of_change_sized (C := Try.checked) ownKnob_none started (by kernel_rfl) Try.func7
    (ChangeSpec.witness6 (enc := enc) (C := Try.checked) false ⟨#[], #[.agg #[.int .u8 0, .int .u8 0, .int .i64 0, .int .i64 0, .slice none 0 0], .slice none 0 0, .slice none 0 0, .int .u8 0, .slice none 0 0], []⟩ 8 (by kernel_rfl) (by kernel_rfl) (by kernel_rfl) (by kernel_rfl)) ?_
  intro W base args ds gs before hval0 hW hcnd hsz0 _
  have hval : ∀ (j : Nat) t v, Try.f7.params[j]? = some t → args[j]? = some v → Value.okWide Try.prog W .any base t v := hval0
  have hW' := hW
  obtain ⟨p, q, hA0, hV, rfl, hfz, hnd⟩ := hW
  have hA : DataW.TrodAll enc Try.prog W 0 (fun _ => true) true Try.f7.params.toList args.toList ds p := hA0
  have hsz : (DataW.weightsEach Try.prog (Try.f7.params.toList ++ Rows.opersApartSpec.plain.varTypes Try.prog) (ds ++ gs)).all (· ≤ reachBytes) = true := hsz0
  rw [Try.params7] at hA hval hsz
  obtain ⟨v0, vs0, d0, ds0, p0, q0, hargs, rfl, rfl, h0, r0⟩ := trodAll_cons hA
  obtain ⟨v1, vs1, d1, ds1, p1, q1, rfl, rfl, rfl, h1, r1⟩ := trodAll_cons r0
  obtain ⟨v2, vs2, d2, ds2, p2, q2, rfl, rfl, rfl, h2, r2⟩ := trodAll_cons r1
  obtain ⟨v3, vs3, d3, ds3, p3, q3, rfl, rfl, rfl, h3, r3⟩ := trodAll_cons r2
  obtain ⟨v4, vs4, d4, ds4, p4, q4, rfl, rfl, rfl, h4, r4⟩ := trodAll_cons r3
  obtain ⟨rfl, rfl, rfl⟩ := trodAll_nil r4
  obtain rfl : args = #[v0, v1, v2, v3, v4] := by cases args; simp_all
  obtain ⟨rfl, rfl⟩ := trodVars_none hV
  obtain ⟨n0, NA0, nm0, nc0, rfl, hN0⟩ := Op.open_node (hval 0 24 v0 rfl rfl) h0
  obtain ⟨A1, l1, c1, rfl, hT1, hw1, hc1, hm1, hn1⟩ := Vr.open_recs (hval 1 28 v1 rfl rfl) h1
  obtain ⟨A2, l2, c2, rfl, hT2, hw2, hc2, hm2, hn2⟩ := Vr.open_recs (hval 2 28 v2 rfl rfl) h2
  obtain ⟨a3, rfl, rfl, rfl, w3⟩ := open_int Try.underlying5 (hval 3 5 v3 rfl rfl) h3
  have b3 := u8_wf w3
  obtain ⟨n3, rfl⟩ := Int.eq_ofNat_of_zero_le b3.1
  obtain ⟨A4, xs4, c4, rfl, hB4, hxc4, hcm4, hAc4⟩ := open_bytes Try.underlying48 Try.underlying5 cells_u8 (hval 4 48 v4 rfl rfl) h4
  clear hA0 hval0 hsz0
  refine (walk n0 NA0 nm0 nc0 hN0 A1 A2 A4 l1 l2 c1 c2 c4 n3 xs4 (by have := b3; omega) W ⟨A1, c1, rfl, hT1, hn1, hc1, hm1⟩ ⟨A2, c2, rfl, hT2, hn2, hc2, hm2⟩ hB4 hw1 hw2).mono fun e W' ⟨he, hg⟩ => ?_
  subst he
  exact ⟨_, rfl, law_post progLaid hW' rfl (by rw [Try.params7]; intro t ht; simp at ht; rcases ht with rfl | rfl | rfl | rfl <;> exact ⟨by kernel_rfl, of_decide_eq_true (by kernel_rfl)⟩) rfl Try.underlying4 rfl hg⟩

theorem over : Rows.opersApartRow.holds Try.pinned (OpenSpec.ofChange Rows.opersApartSpec) :=
  OpenClaim.holds_of_wide 7 Try.f7 rfl rfl rfl rfl rfl rfl rfl ⟨rfl, rfl, rfl, rfl, rfl⟩ rfl rfl rfl rfl rfl (by kernel_rfl) Try.func7 (by kernel_rfl)
    (of_decide_eq_true (by kernel_rfl)) (by unfold Func.isWrapper; first | (rw [if_pos (by decide +kernel)]; kernel_rfl) | (rw [if_neg (by decide +kernel)]; exact ⟨rfl, rfl⟩))
    (fun os started H enc _ => lifted os started H enc)

/-- The statement. -/
theorem proved : Rows.OpersApartSaid :=
  over
end opersApart
end Go.Proofs.Ytcjdjdhjbchaaaa
