/- Put, the document's, with the room behind its bytes. -/
import Derived.Test.YtpcnnnfgopilaaaStFrame
namespace Go.Proofs.Ytpcnnnfgopilaaa
open Go.ChangeShapes Go.WideShapes Go.ChangeAt Go.RowKit Go.BigFrame
set_option linter.unusedVariables false
/-- what the document's Put gives of a right time -/
def RefRoom (t : St) (w : World) (e : Ending) (w' : World) : Prop :=
  ∃ A c, e = .returned (.tuple #[.slice A t.put.length c, .int .i64 0]) ∧ Bytes w' A t.put ∧ t.put.length ≤ c ∧ c ≤ maxLen ∧ Below w.heap.size w w'
theorem own_bytes2 {w : World} {base : Nat} {v : Value} {n : Nat} {xs : List Nat} (h : w.ownsRow base 5 1 v n (u8s xs)) (hx : ∀ x ∈ xs, x < 256) :
    ∃ A c, v = .slice A xs.length c ∧ Bytes w A xs ∧ xs.length ≤ c ∧ c ≤ maxLen := by
  have hl : xs.length = n := by have := h.1; simpa using this
  obtain ⟨A, c, hv, hB, hn⟩ := Bytes.of_own h hx
  refine ⟨A, c, hv, hB, ?_⟩
  rcases h.2 with ⟨hv2, h0⟩ | ⟨g, cap, cur, hv2, _, _, hle, hm, _, _⟩
  · rw [hv] at hv2
    injection hv2 with _ h1 h2
    rw [h2]; exact ⟨by omega, by simp⟩
  · rw [hv] at hv2
    injection hv2 with _ h1 h2
    rw [h2]; exact ⟨by omega, hm⟩
set_option maxHeartbeats 4000000 in
theorem refPut2_yes0 (e x y z : Int) (w : World) (h : St.R ⟨0, e, x, y, z⟩) : Calls Try.prog 18 #[St.val ⟨0, e, x, y, z⟩] w (RefRoom ⟨0, e, x, y, z⟩ w) := by
  have HR := Lib.hid (right_is (decide_eq_true h) (refRight_any ⟨0, e, x, y, z⟩))
  have hlt := St.put_lt h
  have hlen := len_put0 h
  unfold St.R at h
  simp only at h
  obtain ⟨-, ⟨he0, he1⟩, ⟨x0, x1, -⟩, ⟨y0, y1, -⟩, ⟨z0, z1, -⟩⟩ := h
  obtain ⟨E, rfl⟩ : ∃ E : Nat, e = E := ⟨e.toNat, by omega⟩
  obtain ⟨X, rfl⟩ : ∃ X : Nat, x = X := ⟨x.toNat, by omega⟩
  obtain ⟨Y, rfl⟩ : ∃ Y : Nat, y = Y := ⟨y.toNat, by omega⟩
  obtain ⟨Z, rfl⟩ : ∃ Z : Nat, z = Z := ⟨z.toNat, by omega⟩
  have hput : St.put ⟨0, E, X, Y, Z⟩ = [0, E / 256, E % 256] := by
    unfold St.put St.tail
    simp
    try omega
  rw [hput] at hlt
  have HE := Lib.hid hput; have HX := Lib.hid hlt; have HL := Lib.hid hlen; clear hput hlt hlen
  unfold St.val at *
  simp only at HR ⊢
  obtain ⟨T, hT⟩ : ∃ T : St, T = ⟨0, E, X, Y, Z⟩ := ⟨_, rfl⟩
  rw [← hT] at HE HL ⊢
  have HTT := Lib.hid hT; clear hT
  have hD : IntKind.i64.wrap ((E : Int).tdiv 256) = (E : Int) / 256 := by rw [Int.tdiv_eq_ediv_of_nonneg (by omega)]; exact IntWalk.i64_in _ (by omega)
  go_enter Try.func18, Try.ntmps18
  go_wp2_with fail
  refine (HR.out _).mono ?_; rintro e1 w1 ⟨rfl, hb1⟩
  have ht := (Holds.made w ⟨0, E, X, Y, Z⟩).below hb1
  have hbw : Below w.heap.size w w1 := ((Below.refl _ _).alloc (Nat.le_refl _) _).trans (hb1.mono (by simp))
  have hlt : w.heap.size < w1.heap.size := by have := hb1.size; simp at this; omega
  obtain ⟨c0, c1, c2, c3, c4⟩ := ht.cells5
  simp only at c0 c1 c2 c3 c4
  have hown0 : (w1.alloc (.cells #[.int .u8 0, .int .u8 ((E : Int) / 256), .int .u8 ((E : Int) % 256)] 5)).ownsRow (w.heap.size + 1) 5 1 (.slice (some ⟨w1.heap.size, 0, none⟩) 3 3) 3 (u8s [0, E / 256, E % 256]) :=
    World.ownsRow_lit w1 #[.int .u8 0, .int .u8 ((E : Int) / 256), .int .u8 ((E : Int) % 256)] 3 hlt (by unfold maxLen; omega) rfl
  have HT := Lib.hid ht; have HBW := Lib.hid hbw; have HO := Lib.hid hown0; clear ht hbw hb1 hown0
  go_wp2_with fail
  clear c0 c1 c2 c3 c4
  go_loopw [5, 4] (fun i v wr => ∃ (k : Nat), k ≤ 0 ∧ i = .int .i64 k ∧ Holds wr w.heap.size ⟨0, E, X, Y, Z⟩ ∧ wr.ownsRow (w.heap.size + 1) 5 1 v (3 + k) (u8s ([0, E / 256, E % 256].take (3 + k))) ∧ Below w.heap.size w wr) (fun i _ _ => 0 - (intOf i).toNat)
  case atStart => exact ⟨0, by omega, rfl, HT.out.alloc _, HO.out, HBW.out.alloc (Nat.le_of_lt hlt) _⟩
  case round =>
    obtain ⟨k, hk, rfl, ht, hr, hb⟩ := hrel
    have hcase : k = 0 := by omega
    clear hk
    subst hcase
    · obtain ⟨c0, -⟩ := ht.cells5
      simp only at c0
      obtain ⟨A, c, hv, hB, hn1, hn2⟩ := own_bytes2 hr HX.out
      subst hv
      have HN := Lib.hid (And.intro hn1 hn2)
      have H2 := Lib.hid hB; have H3 := Lib.hid hb; clear ht hr hb hB hn1 hn2
      go_wp2_with fail
      go_ret2
      exact ⟨A, c, (by rw [HL.out]; rfl), by rw [HE.out]; exact H2.out, (by rw [HE.out]; exact HN.out.1), HN.out.2, H3.out⟩
set_option maxHeartbeats 4000000 in
theorem refPut2_yes1 (e x y z : Int) (w : World) (h : St.R ⟨1, e, x, y, z⟩) : Calls Try.prog 18 #[St.val ⟨1, e, x, y, z⟩] w (RefRoom ⟨1, e, x, y, z⟩ w) := by
  have HR := Lib.hid (right_is (decide_eq_true h) (refRight_any ⟨1, e, x, y, z⟩))
  have hlt := St.put_lt h
  have hlen := len_put1 h
  unfold St.R at h
  simp only at h
  obtain ⟨-, ⟨he0, he1⟩, ⟨x0, x1, -⟩, ⟨y0, y1, -⟩, ⟨z0, z1, -⟩⟩ := h
  obtain ⟨E, rfl⟩ : ∃ E : Nat, e = E := ⟨e.toNat, by omega⟩
  obtain ⟨X, rfl⟩ : ∃ X : Nat, x = X := ⟨x.toNat, by omega⟩
  obtain ⟨Y, rfl⟩ : ∃ Y : Nat, y = Y := ⟨y.toNat, by omega⟩
  obtain ⟨Z, rfl⟩ : ∃ Z : Nat, z = Z := ⟨z.toNat, by omega⟩
  have hput : St.put ⟨1, E, X, Y, Z⟩ = [1, E / 256, E % 256, X] := by
    unfold St.put St.tail
    simp
    try omega
  rw [hput] at hlt
  have HE := Lib.hid hput; have HX := Lib.hid hlt; have HL := Lib.hid hlen; clear hput hlt hlen
  unfold St.val at *
  simp only at HR ⊢
  obtain ⟨T, hT⟩ : ∃ T : St, T = ⟨1, E, X, Y, Z⟩ := ⟨_, rfl⟩
  rw [← hT] at HE HL ⊢
  have HTT := Lib.hid hT; clear hT
  have hD : IntKind.i64.wrap ((E : Int).tdiv 256) = (E : Int) / 256 := by rw [Int.tdiv_eq_ediv_of_nonneg (by omega)]; exact IntWalk.i64_in _ (by omega)
  go_enter Try.func18, Try.ntmps18
  go_wp2_with fail
  refine (HR.out _).mono ?_; rintro e1 w1 ⟨rfl, hb1⟩
  have ht := (Holds.made w ⟨1, E, X, Y, Z⟩).below hb1
  have hbw : Below w.heap.size w w1 := ((Below.refl _ _).alloc (Nat.le_refl _) _).trans (hb1.mono (by simp))
  have hlt : w.heap.size < w1.heap.size := by have := hb1.size; simp at this; omega
  obtain ⟨c0, c1, c2, c3, c4⟩ := ht.cells5
  simp only at c0 c1 c2 c3 c4
  have hown0 : (w1.alloc (.cells #[.int .u8 1, .int .u8 ((E : Int) / 256), .int .u8 ((E : Int) % 256)] 5)).ownsRow (w.heap.size + 1) 5 1 (.slice (some ⟨w1.heap.size, 0, none⟩) 3 3) 3 (u8s [1, E / 256, E % 256]) :=
    World.ownsRow_lit w1 #[.int .u8 1, .int .u8 ((E : Int) / 256), .int .u8 ((E : Int) % 256)] 3 hlt (by unfold maxLen; omega) rfl
  have HT := Lib.hid ht; have HBW := Lib.hid hbw; have HO := Lib.hid hown0; clear ht hbw hb1 hown0
  go_wp2_with fail
  clear c0 c1 c2 c3 c4
  go_loopw [5, 4] (fun i v wr => ∃ (k : Nat), k ≤ 1 ∧ i = .int .i64 k ∧ Holds wr w.heap.size ⟨1, E, X, Y, Z⟩ ∧ wr.ownsRow (w.heap.size + 1) 5 1 v (3 + k) (u8s ([1, E / 256, E % 256, X].take (3 + k))) ∧ Below w.heap.size w wr) (fun i _ _ => 1 - (intOf i).toNat)
  case atStart => exact ⟨0, by omega, rfl, HT.out.alloc _, HO.out, HBW.out.alloc (Nat.le_of_lt hlt) _⟩
  case round =>
    obtain ⟨k, hk, rfl, ht, hr, hb⟩ := hrel
    have hcase : k = 0 ∨ k = 1 := by omega
    clear hk
    rcases hcase with rfl | rfl
    · obtain ⟨c0, c1, c2, c3, c4⟩ := ht.cells5
      simp only at c0 c1 c2 c3 c4
      have hsz := hb.size
      have hlw := ht.lt
      have hown1 : (wr.alloc (.cells #[.int .u8 (X : Int)] 5)).ownsRow (w.heap.size + 1) 5 1 u4 3 (u8s [1, E / 256, E % 256]) := hr.alloc _
      have hB1 : Bytes (wr.alloc (.cells #[.int .u8 (X : Int)] 5)) (some ⟨wr.heap.size, 0, none⟩) [X] := Bytes.made (xs := [X]) wr 5 (0, 0) (by simp; omega)
      have hvb := own_size hr
      have H1 := Lib.hid ht; have H3 := Lib.hid hb; have Hv := Lib.hid hvb; clear ht hr hb hvb
      obtain ⟨i0, hi, hz0, hz1, hz2⟩ := info_parts Try.infoByte
      go_wp2_with (at_builtin; refine wpList_append_bytes rfl _ _ 27 rfl (w.heap.size + 1) 5 i0 (.int .u8 0) Try.underlying27 hi hz0 hz1 hz2 rfl _ 3 [1, E / 256, E % 256] rfl hown1 (some ⟨wr.heap.size, 0, none⟩) 1 [X] rfl hB1 (by simp) (by simp) (by simp; omega) ?_)
      intro v2 w2 hown2 hg2
      have ht2 : Holds w2 w.heap.size ⟨1, E, X, Y, Z⟩ := Row.grown (H1.out.alloc _) hg2 (fun e => by have := Hv.out _ e.symm; omega)
      have hb2 : Below w.heap.size w w2 := (H3.out.alloc hsz _).grown hg2 (by simp; omega) (fun k e => by have := Hv.out _ e; omega)
      have H := Lib.hid (And.intro hown2 (And.intro ht2 hb2))
      clear hown1 hB1 hown2 hg2 ht2 hb2 hi hz0 hz1 hz2 c0 c1 c2 c3 c4
      go_wp2_with fail
      go_roundw
      case rel => exact ⟨1, by omega, rfl, H.out.2.1, H.out.1, H.out.2.2⟩
      case measure => simp [intOf]
    · obtain ⟨c0, -⟩ := ht.cells5
      simp only at c0
      obtain ⟨A, c, hv, hB, hn1, hn2⟩ := own_bytes2 hr HX.out
      subst hv
      have HN := Lib.hid (And.intro hn1 hn2)
      have H2 := Lib.hid hB; have H3 := Lib.hid hb; clear ht hr hb hB hn1 hn2
      go_wp2_with fail
      go_ret2
      exact ⟨A, c, (by rw [HL.out]; rfl), by rw [HE.out]; exact H2.out, (by rw [HE.out]; exact HN.out.1), HN.out.2, H3.out⟩
set_option maxHeartbeats 4000000 in
theorem refPut2_yes2 (e x y z : Int) (w : World) (h : St.R ⟨2, e, x, y, z⟩) : Calls Try.prog 18 #[St.val ⟨2, e, x, y, z⟩] w (RefRoom ⟨2, e, x, y, z⟩ w) := by
  have HR := Lib.hid (right_is (decide_eq_true h) (refRight_any ⟨2, e, x, y, z⟩))
  have hlt := St.put_lt h
  have hlen := len_put2 h
  unfold St.R at h
  simp only at h
  obtain ⟨-, ⟨he0, he1⟩, ⟨x0, x1, -⟩, ⟨y0, y1, -⟩, ⟨z0, z1, -⟩⟩ := h
  obtain ⟨E, rfl⟩ : ∃ E : Nat, e = E := ⟨e.toNat, by omega⟩
  obtain ⟨X, rfl⟩ : ∃ X : Nat, x = X := ⟨x.toNat, by omega⟩
  obtain ⟨Y, rfl⟩ : ∃ Y : Nat, y = Y := ⟨y.toNat, by omega⟩
  obtain ⟨Z, rfl⟩ : ∃ Z : Nat, z = Z := ⟨z.toNat, by omega⟩
  have hput : St.put ⟨2, E, X, Y, Z⟩ = [2, E / 256, E % 256, X, Y] := by
    unfold St.put St.tail
    simp
    try omega
  rw [hput] at hlt
  have HE := Lib.hid hput; have HX := Lib.hid hlt; have HL := Lib.hid hlen; clear hput hlt hlen
  unfold St.val at *
  simp only at HR ⊢
  obtain ⟨T, hT⟩ : ∃ T : St, T = ⟨2, E, X, Y, Z⟩ := ⟨_, rfl⟩
  rw [← hT] at HE HL ⊢
  have HTT := Lib.hid hT; clear hT
  have hD : IntKind.i64.wrap ((E : Int).tdiv 256) = (E : Int) / 256 := by rw [Int.tdiv_eq_ediv_of_nonneg (by omega)]; exact IntWalk.i64_in _ (by omega)
  go_enter Try.func18, Try.ntmps18
  go_wp2_with fail
  refine (HR.out _).mono ?_; rintro e1 w1 ⟨rfl, hb1⟩
  have ht := (Holds.made w ⟨2, E, X, Y, Z⟩).below hb1
  have hbw : Below w.heap.size w w1 := ((Below.refl _ _).alloc (Nat.le_refl _) _).trans (hb1.mono (by simp))
  have hlt : w.heap.size < w1.heap.size := by have := hb1.size; simp at this; omega
  obtain ⟨c0, c1, c2, c3, c4⟩ := ht.cells5
  simp only at c0 c1 c2 c3 c4
  have hown0 : (w1.alloc (.cells #[.int .u8 2, .int .u8 ((E : Int) / 256), .int .u8 ((E : Int) % 256)] 5)).ownsRow (w.heap.size + 1) 5 1 (.slice (some ⟨w1.heap.size, 0, none⟩) 3 3) 3 (u8s [2, E / 256, E % 256]) :=
    World.ownsRow_lit w1 #[.int .u8 2, .int .u8 ((E : Int) / 256), .int .u8 ((E : Int) % 256)] 3 hlt (by unfold maxLen; omega) rfl
  have HT := Lib.hid ht; have HBW := Lib.hid hbw; have HO := Lib.hid hown0; clear ht hbw hb1 hown0
  go_wp2_with fail
  clear c0 c1 c2 c3 c4
  go_loopw [5, 4] (fun i v wr => ∃ (k : Nat), k ≤ 2 ∧ i = .int .i64 k ∧ Holds wr w.heap.size ⟨2, E, X, Y, Z⟩ ∧ wr.ownsRow (w.heap.size + 1) 5 1 v (3 + k) (u8s ([2, E / 256, E % 256, X, Y].take (3 + k))) ∧ Below w.heap.size w wr) (fun i _ _ => 2 - (intOf i).toNat)
  case atStart => exact ⟨0, by omega, rfl, HT.out.alloc _, HO.out, HBW.out.alloc (Nat.le_of_lt hlt) _⟩
  case round =>
    obtain ⟨k, hk, rfl, ht, hr, hb⟩ := hrel
    have hcase : k = 0 ∨ k = 1 ∨ k = 2 := by omega
    clear hk
    rcases hcase with rfl | rfl | rfl
    · obtain ⟨c0, c1, c2, c3, c4⟩ := ht.cells5
      simp only at c0 c1 c2 c3 c4
      have hsz := hb.size
      have hlw := ht.lt
      have hown1 : (wr.alloc (.cells #[.int .u8 (X : Int)] 5)).ownsRow (w.heap.size + 1) 5 1 u4 3 (u8s [2, E / 256, E % 256]) := hr.alloc _
      have hB1 : Bytes (wr.alloc (.cells #[.int .u8 (X : Int)] 5)) (some ⟨wr.heap.size, 0, none⟩) [X] := Bytes.made (xs := [X]) wr 5 (0, 0) (by simp; omega)
      have hvb := own_size hr
      have H1 := Lib.hid ht; have H3 := Lib.hid hb; have Hv := Lib.hid hvb; clear ht hr hb hvb
      obtain ⟨i0, hi, hz0, hz1, hz2⟩ := info_parts Try.infoByte
      go_wp2_with (at_builtin; refine wpList_append_bytes rfl _ _ 27 rfl (w.heap.size + 1) 5 i0 (.int .u8 0) Try.underlying27 hi hz0 hz1 hz2 rfl _ 3 [2, E / 256, E % 256] rfl hown1 (some ⟨wr.heap.size, 0, none⟩) 1 [X] rfl hB1 (by simp) (by simp) (by simp; omega) ?_)
      intro v2 w2 hown2 hg2
      have ht2 : Holds w2 w.heap.size ⟨2, E, X, Y, Z⟩ := Row.grown (H1.out.alloc _) hg2 (fun e => by have := Hv.out _ e.symm; omega)
      have hb2 : Below w.heap.size w w2 := (H3.out.alloc hsz _).grown hg2 (by simp; omega) (fun k e => by have := Hv.out _ e; omega)
      have H := Lib.hid (And.intro hown2 (And.intro ht2 hb2))
      clear hown1 hB1 hown2 hg2 ht2 hb2 hi hz0 hz1 hz2 c0 c1 c2 c3 c4
      go_wp2_with fail
      go_roundw
      case rel => exact ⟨1, by omega, rfl, H.out.2.1, H.out.1, H.out.2.2⟩
      case measure => simp [intOf]
    · obtain ⟨c0, c1, c2, c3, c4⟩ := ht.cells5
      simp only at c0 c1 c2 c3 c4
      have hsz := hb.size
      have hlw := ht.lt
      have hown1 : (wr.alloc (.cells #[.int .u8 (Y : Int)] 5)).ownsRow (w.heap.size + 1) 5 1 u4 4 (u8s [2, E / 256, E % 256, X]) := hr.alloc _
      have hB1 : Bytes (wr.alloc (.cells #[.int .u8 (Y : Int)] 5)) (some ⟨wr.heap.size, 0, none⟩) [Y] := Bytes.made (xs := [Y]) wr 5 (0, 0) (by simp; omega)
      have hvb := own_size hr
      have H1 := Lib.hid ht; have H3 := Lib.hid hb; have Hv := Lib.hid hvb; clear ht hr hb hvb
      obtain ⟨i0, hi, hz0, hz1, hz2⟩ := info_parts Try.infoByte
      go_wp2_with (at_builtin; refine wpList_append_bytes rfl _ _ 27 rfl (w.heap.size + 1) 5 i0 (.int .u8 0) Try.underlying27 hi hz0 hz1 hz2 rfl _ 4 [2, E / 256, E % 256, X] rfl hown1 (some ⟨wr.heap.size, 0, none⟩) 1 [Y] rfl hB1 (by simp) (by simp) (by simp; omega) ?_)
      intro v2 w2 hown2 hg2
      have ht2 : Holds w2 w.heap.size ⟨2, E, X, Y, Z⟩ := Row.grown (H1.out.alloc _) hg2 (fun e => by have := Hv.out _ e.symm; omega)
      have hb2 : Below w.heap.size w w2 := (H3.out.alloc hsz _).grown hg2 (by simp; omega) (fun k e => by have := Hv.out _ e; omega)
      have H := Lib.hid (And.intro hown2 (And.intro ht2 hb2))
      clear hown1 hB1 hown2 hg2 ht2 hb2 hi hz0 hz1 hz2 c0 c1 c2 c3 c4
      go_wp2_with fail
      go_roundw
      case rel => exact ⟨2, by omega, rfl, H.out.2.1, H.out.1, H.out.2.2⟩
      case measure => simp [intOf]
    · obtain ⟨c0, -⟩ := ht.cells5
      simp only at c0
      obtain ⟨A, c, hv, hB, hn1, hn2⟩ := own_bytes2 hr HX.out
      subst hv
      have HN := Lib.hid (And.intro hn1 hn2)
      have H2 := Lib.hid hB; have H3 := Lib.hid hb; clear ht hr hb hB hn1 hn2
      go_wp2_with fail
      go_ret2
      exact ⟨A, c, (by rw [HL.out]; rfl), by rw [HE.out]; exact H2.out, (by rw [HE.out]; exact HN.out.1), HN.out.2, H3.out⟩
set_option maxHeartbeats 4000000 in
theorem refPut2_yes3 (e x y z : Int) (w : World) (h : St.R ⟨3, e, x, y, z⟩) : Calls Try.prog 18 #[St.val ⟨3, e, x, y, z⟩] w (RefRoom ⟨3, e, x, y, z⟩ w) := by
  have HR := Lib.hid (right_is (decide_eq_true h) (refRight_any ⟨3, e, x, y, z⟩))
  have hlt := St.put_lt h
  have hlen := len_put3 h
  unfold St.R at h
  simp only at h
  obtain ⟨-, ⟨he0, he1⟩, ⟨x0, x1, -⟩, ⟨y0, y1, -⟩, ⟨z0, z1, -⟩⟩ := h
  obtain ⟨E, rfl⟩ : ∃ E : Nat, e = E := ⟨e.toNat, by omega⟩
  obtain ⟨X, rfl⟩ : ∃ X : Nat, x = X := ⟨x.toNat, by omega⟩
  obtain ⟨Y, rfl⟩ : ∃ Y : Nat, y = Y := ⟨y.toNat, by omega⟩
  obtain ⟨Z, rfl⟩ : ∃ Z : Nat, z = Z := ⟨z.toNat, by omega⟩
  have hput : St.put ⟨3, E, X, Y, Z⟩ = [3, E / 256, E % 256, X, Y, Z] := by
    unfold St.put St.tail
    simp
    try omega
  rw [hput] at hlt
  have HE := Lib.hid hput; have HX := Lib.hid hlt; have HL := Lib.hid hlen; clear hput hlt hlen
  unfold St.val at *
  simp only at HR ⊢
  obtain ⟨T, hT⟩ : ∃ T : St, T = ⟨3, E, X, Y, Z⟩ := ⟨_, rfl⟩
  rw [← hT] at HE HL ⊢
  have HTT := Lib.hid hT; clear hT
  have hD : IntKind.i64.wrap ((E : Int).tdiv 256) = (E : Int) / 256 := by rw [Int.tdiv_eq_ediv_of_nonneg (by omega)]; exact IntWalk.i64_in _ (by omega)
  go_enter Try.func18, Try.ntmps18
  go_wp2_with fail
  refine (HR.out _).mono ?_; rintro e1 w1 ⟨rfl, hb1⟩
  have ht := (Holds.made w ⟨3, E, X, Y, Z⟩).below hb1
  have hbw : Below w.heap.size w w1 := ((Below.refl _ _).alloc (Nat.le_refl _) _).trans (hb1.mono (by simp))
  have hlt : w.heap.size < w1.heap.size := by have := hb1.size; simp at this; omega
  obtain ⟨c0, c1, c2, c3, c4⟩ := ht.cells5
  simp only at c0 c1 c2 c3 c4
  have hown0 : (w1.alloc (.cells #[.int .u8 3, .int .u8 ((E : Int) / 256), .int .u8 ((E : Int) % 256)] 5)).ownsRow (w.heap.size + 1) 5 1 (.slice (some ⟨w1.heap.size, 0, none⟩) 3 3) 3 (u8s [3, E / 256, E % 256]) :=
    World.ownsRow_lit w1 #[.int .u8 3, .int .u8 ((E : Int) / 256), .int .u8 ((E : Int) % 256)] 3 hlt (by unfold maxLen; omega) rfl
  have HT := Lib.hid ht; have HBW := Lib.hid hbw; have HO := Lib.hid hown0; clear ht hbw hb1 hown0
  go_wp2_with fail
  clear c0 c1 c2 c3 c4
  go_loopw [5, 4] (fun i v wr => ∃ (k : Nat), k ≤ 3 ∧ i = .int .i64 k ∧ Holds wr w.heap.size ⟨3, E, X, Y, Z⟩ ∧ wr.ownsRow (w.heap.size + 1) 5 1 v (3 + k) (u8s ([3, E / 256, E % 256, X, Y, Z].take (3 + k))) ∧ Below w.heap.size w wr) (fun i _ _ => 3 - (intOf i).toNat)
  case atStart => exact ⟨0, by omega, rfl, HT.out.alloc _, HO.out, HBW.out.alloc (Nat.le_of_lt hlt) _⟩
  case round =>
    obtain ⟨k, hk, rfl, ht, hr, hb⟩ := hrel
    have hcase : k = 0 ∨ k = 1 ∨ k = 2 ∨ k = 3 := by omega
    clear hk
    rcases hcase with rfl | rfl | rfl | rfl
    · obtain ⟨c0, c1, c2, c3, c4⟩ := ht.cells5
      simp only at c0 c1 c2 c3 c4
      have hsz := hb.size
      have hlw := ht.lt
      have hown1 : (wr.alloc (.cells #[.int .u8 (X : Int)] 5)).ownsRow (w.heap.size + 1) 5 1 u4 3 (u8s [3, E / 256, E % 256]) := hr.alloc _
      have hB1 : Bytes (wr.alloc (.cells #[.int .u8 (X : Int)] 5)) (some ⟨wr.heap.size, 0, none⟩) [X] := Bytes.made (xs := [X]) wr 5 (0, 0) (by simp; omega)
      have hvb := own_size hr
      have H1 := Lib.hid ht; have H3 := Lib.hid hb; have Hv := Lib.hid hvb; clear ht hr hb hvb
      obtain ⟨i0, hi, hz0, hz1, hz2⟩ := info_parts Try.infoByte
      go_wp2_with (at_builtin; refine wpList_append_bytes rfl _ _ 27 rfl (w.heap.size + 1) 5 i0 (.int .u8 0) Try.underlying27 hi hz0 hz1 hz2 rfl _ 3 [3, E / 256, E % 256] rfl hown1 (some ⟨wr.heap.size, 0, none⟩) 1 [X] rfl hB1 (by simp) (by simp) (by simp; omega) ?_)
      intro v2 w2 hown2 hg2
      have ht2 : Holds w2 w.heap.size ⟨3, E, X, Y, Z⟩ := Row.grown (H1.out.alloc _) hg2 (fun e => by have := Hv.out _ e.symm; omega)
      have hb2 : Below w.heap.size w w2 := (H3.out.alloc hsz _).grown hg2 (by simp; omega) (fun k e => by have := Hv.out _ e; omega)
      have H := Lib.hid (And.intro hown2 (And.intro ht2 hb2))
      clear hown1 hB1 hown2 hg2 ht2 hb2 hi hz0 hz1 hz2 c0 c1 c2 c3 c4
      go_wp2_with fail
      go_roundw
      case rel => exact ⟨1, by omega, rfl, H.out.2.1, H.out.1, H.out.2.2⟩
      case measure => simp [intOf]
    · obtain ⟨c0, c1, c2, c3, c4⟩ := ht.cells5
      simp only at c0 c1 c2 c3 c4
      have hsz := hb.size
      have hlw := ht.lt
      have hown1 : (wr.alloc (.cells #[.int .u8 (Y : Int)] 5)).ownsRow (w.heap.size + 1) 5 1 u4 4 (u8s [3, E / 256, E % 256, X]) := hr.alloc _
      have hB1 : Bytes (wr.alloc (.cells #[.int .u8 (Y : Int)] 5)) (some ⟨wr.heap.size, 0, none⟩) [Y] := Bytes.made (xs := [Y]) wr 5 (0, 0) (by simp; omega)
      have hvb := own_size hr
      have H1 := Lib.hid ht; have H3 := Lib.hid hb; have Hv := Lib.hid hvb; clear ht hr hb hvb
      obtain ⟨i0, hi, hz0, hz1, hz2⟩ := info_parts Try.infoByte
      go_wp2_with (at_builtin; refine wpList_append_bytes rfl _ _ 27 rfl (w.heap.size + 1) 5 i0 (.int .u8 0) Try.underlying27 hi hz0 hz1 hz2 rfl _ 4 [3, E / 256, E % 256, X] rfl hown1 (some ⟨wr.heap.size, 0, none⟩) 1 [Y] rfl hB1 (by simp) (by simp) (by simp; omega) ?_)
      intro v2 w2 hown2 hg2
      have ht2 : Holds w2 w.heap.size ⟨3, E, X, Y, Z⟩ := Row.grown (H1.out.alloc _) hg2 (fun e => by have := Hv.out _ e.symm; omega)
      have hb2 : Below w.heap.size w w2 := (H3.out.alloc hsz _).grown hg2 (by simp; omega) (fun k e => by have := Hv.out _ e; omega)
      have H := Lib.hid (And.intro hown2 (And.intro ht2 hb2))
      clear hown1 hB1 hown2 hg2 ht2 hb2 hi hz0 hz1 hz2 c0 c1 c2 c3 c4
      go_wp2_with fail
      go_roundw
      case rel => exact ⟨2, by omega, rfl, H.out.2.1, H.out.1, H.out.2.2⟩
      case measure => simp [intOf]
    · obtain ⟨c0, c1, c2, c3, c4⟩ := ht.cells5
      simp only at c0 c1 c2 c3 c4
      have hsz := hb.size
      have hlw := ht.lt
      have hown1 : (wr.alloc (.cells #[.int .u8 (Z : Int)] 5)).ownsRow (w.heap.size + 1) 5 1 u4 5 (u8s [3, E / 256, E % 256, X, Y]) := hr.alloc _
      have hB1 : Bytes (wr.alloc (.cells #[.int .u8 (Z : Int)] 5)) (some ⟨wr.heap.size, 0, none⟩) [Z] := Bytes.made (xs := [Z]) wr 5 (0, 0) (by simp; omega)
      have hvb := own_size hr
      have H1 := Lib.hid ht; have H3 := Lib.hid hb; have Hv := Lib.hid hvb; clear ht hr hb hvb
      obtain ⟨i0, hi, hz0, hz1, hz2⟩ := info_parts Try.infoByte
      go_wp2_with (at_builtin; refine wpList_append_bytes rfl _ _ 27 rfl (w.heap.size + 1) 5 i0 (.int .u8 0) Try.underlying27 hi hz0 hz1 hz2 rfl _ 5 [3, E / 256, E % 256, X, Y] rfl hown1 (some ⟨wr.heap.size, 0, none⟩) 1 [Z] rfl hB1 (by simp) (by simp) (by simp; omega) ?_)
      intro v2 w2 hown2 hg2
      have ht2 : Holds w2 w.heap.size ⟨3, E, X, Y, Z⟩ := Row.grown (H1.out.alloc _) hg2 (fun e => by have := Hv.out _ e.symm; omega)
      have hb2 : Below w.heap.size w w2 := (H3.out.alloc hsz _).grown hg2 (by simp; omega) (fun k e => by have := Hv.out _ e; omega)
      have H := Lib.hid (And.intro hown2 (And.intro ht2 hb2))
      clear hown1 hB1 hown2 hg2 ht2 hb2 hi hz0 hz1 hz2 c0 c1 c2 c3 c4
      go_wp2_with fail
      go_roundw
      case rel => exact ⟨3, by omega, rfl, H.out.2.1, H.out.1, H.out.2.2⟩
      case measure => simp [intOf]
    · obtain ⟨c0, -⟩ := ht.cells5
      simp only at c0
      obtain ⟨A, c, hv, hB, hn1, hn2⟩ := own_bytes2 hr HX.out
      subst hv
      have HN := Lib.hid (And.intro hn1 hn2)
      have H2 := Lib.hid hB; have H3 := Lib.hid hb; clear ht hr hb hB hn1 hn2
      go_wp2_with fail
      go_ret2
      exact ⟨A, c, (by rw [HL.out]; rfl), by rw [HE.out]; exact H2.out, (by rw [HE.out]; exact HN.out.1), HN.out.2, H3.out⟩
theorem refPut2_any (t : St) (w : World) (h : t.R) : Calls Try.prog 18 #[t.val] w (RefRoom t w) := by
  have hd : t.d = 0 ∨ t.d = 1 ∨ t.d = 2 ∨ t.d = 3 := by have := h; unfold St.R at this; omega
  obtain ⟨d, e, x, y, z⟩ := t
  simp only at hd
  rcases hd with rfl | rfl | rfl | rfl
  · exact refPut2_yes0 e x y z w h
  · exact refPut2_yes1 e x y z w h
  · exact refPut2_yes2 e x y z w h
  · exact refPut2_yes3 e x y z w h
end Go.Proofs.Ytpcnnnfgopilaaa
