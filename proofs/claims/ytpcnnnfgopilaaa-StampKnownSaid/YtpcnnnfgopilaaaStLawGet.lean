/- StampGet: any bytes begin with the time that the document says, or are refused; what is put is got as it was, with what is behind; for all times and bytes. -/
import Derived.Test.YtpcnnnfgopilaaaStFrame
namespace Go.Proofs.Ytpcnnnfgopilaaa
open Go.ChangeShapes Go.WideShapes Go.ChangeAt Go.RowKit Go.BigFrame
set_option linter.unusedVariables false
namespace stampGet
theorem same_self (xs : List Nat) : sameB xs xs = true := by unfold sameB; exact decide_eq_true rfl
theorem same_any (xs : List Nat) (A B : Option Addr) (c d : Nat) (w : World) (hA : Bytes w A xs) (hB : Bytes w B xs) :
    Calls Try.prog 32 #[.slice A xs.length c, .slice B xs.length d] w fun e w' => e = .returned (.bool true) ∧ w = w' := by
  have := sameBytes_any xs xs A B c d w hA hB
  rwa [same_self] at this
/-- a block that holds just these bytes, as the call's own row -/
theorem own_row {w : World} {g : Nat} {xs : List Nat} (h : Row w g 5 (u8s xs)) (hm : xs.length ≤ maxLen) : w.ownsRow g 5 1 (.slice (some ⟨g, 0, none⟩) xs.length xs.length) xs.length (u8s xs) :=
  ⟨by simp, .inr ⟨g, xs.length, (u8s xs).toArray, rfl, Nat.le_refl _, h, Nat.le_refl _, hm, by simp, by rw [Nat.mul_one, List.toList_toArray]; exact List.take_of_length_le (by simp)⟩⟩
theorem own_bytes {w : World} {base : Nat} {v : Value} {n : Nat} {xs : List Nat} (h : w.ownsRow base 5 1 v n (u8s xs)) (hx : ∀ x ∈ xs, x < 256) :
    ∃ A c, v = .slice A xs.length c ∧ Bytes w A xs ∧ xs.length ≤ c ∧ c ≤ maxLen := by
  have hl : xs.length = n := by have := h.1; simpa using this
  obtain ⟨A, c, hv, hB, hn⟩ := Bytes.of_own h hx
  refine ⟨A, c, hv, hB, ?_⟩
  rcases h.2 with ⟨hv2, h0⟩ | ⟨g, cap, cur, hv2, _, _, hle, hm, _, _⟩
  · rw [hv] at hv2
    injection hv2 with _ h1 h2
    rw [h2]; exact ⟨by omega, by simp⟩
  · rw [hv] at hv2
    injection hv2 with _ h1 h2
    rw [h2]; exact ⟨by omega, hm⟩
set_option maxRecDepth 100000 in
set_option maxHeartbeats 2000000 in
theorem walk_long (t : St) (xs : List Nat) (A : Option Addr) (c : Nat) (w : World) (h : 100 < xs.length) : Calls Try.prog 7 #[t.val, .slice A xs.length c] w fun e w' => e = .returned (.bool true) ∧ Below w.heap.size w w' := by
  have tl : decide ((100 : Int) < (xs.length : Int)) = true := decide_eq_true (by omega)
  have tl2 : decide ((xs.length : Int) > 100) = true := decide_eq_true (by omega)
  have c1 := fun w => works_any w
  unfold St.val at *
  have C1 := Lib.hid c1; clear c1 h
  have ht := Holds.made w t
  have hbw : Below w.heap.size w (w.alloc (.cells #[.int .i64 t.d, .int .i64 t.e, .int .i64 t.x, .int .i64 t.y, .int .i64 t.z] 24)) := (Below.refl _ _).alloc (by simp) _
  have Ht := Lib.hid ht; clear ht
  have HBW := Lib.hid hbw; clear hbw
  go_enter Try.func7, Try.ntmps7
  go_wp2_with fail
  generalize w.alloc (.cells #[.int .i64 t.d, .int .i64 t.e, .int .i64 t.x, .int .i64 t.y, .int .i64 t.z] 24) = w0 at *
  refine (C1.out _).mono ?_; rintro e v1 ⟨rfl, hbel⟩
  have ht := Ht.out.below hbel; clear Ht
  have hbw := HBW.out.trans (hbel.mono HBW.out.size); clear HBW hbel
  have Ht := Lib.hid ht; clear ht
  have HBW := Lib.hid hbw; clear hbw
  go_wp2_with fail
  go_ret
  exact ⟨rfl, HBW.out⟩
set_option maxRecDepth 100000 in
set_option maxHeartbeats 4000000 in
theorem walk_no (t : St) (xs : List Nat) (A : Option Addr) (c : Nat) (w : World) (hB : Bytes w A xs) (h : xs.length ≤ 100) (hc : xs.length ≤ c) (hm : c ≤ maxLen) (hAc : A = none → c = 0) (k : ¬ t.R) : Calls Try.prog 7 #[t.val, .slice A xs.length c] w fun e w' => e = .returned (.bool true) ∧ Below w.heap.size w w' := by
  have tl : decide ((100 : Int) < (xs.length : Int)) = false := decide_eq_false (by omega)
  have tl2 : decide ((xs.length : Int) > 100) = false := decide_eq_false (by omega)
  have c1 := fun w (hB : Bytes w A xs) => get_any xs A c w hB hc hm
  have c2 := fun w (hB : Bytes w A xs) => refGet_any xs A c w hB hc hm
  have c3 := fun w => put_no t w k
  have c4 := fun w => works_any w
  have HB := Lib.hid hB; clear hB
  unfold Gets at c1 c2
  generalize gt xs = G at *
  generalize hE : ge xs = e5 at *
  clear hE k
  unfold St.val at *
  have e0 : ∀ w, (Op.equalIn 10000 24 (.agg #[.int .i64 G.d, .int .i64 G.e, .int .i64 G.x, .int .i64 G.y, .int .i64 G.z]) (.agg #[.int .i64 G.d, .int .i64 G.e, .int .i64 G.x, .int .i64 G.y, .int .i64 G.z])).run Try.prog w = .ok true w := fun w => by rw [run_eq5, decide_eq_true rfl]
  have e1 : ∀ w, (Op.equalIn 10000 24 (.agg #[.int .i64 t.d, .int .i64 t.e, .int .i64 t.x, .int .i64 t.y, .int .i64 t.z]) (.agg #[.int .i64 t.d, .int .i64 t.e, .int .i64 t.x, .int .i64 t.y, .int .i64 t.z])).run Try.prog w = .ok true w := fun w => by rw [run_eq5, decide_eq_true rfl]
  have HE0 := Lib.hid e0; have HE1 := Lib.hid e1; clear e0 e1
  have C1 := Lib.hid c1; clear c1
  have C2 := Lib.hid c2; clear c2
  have C3 := Lib.hid c3; clear c3
  have C4 := Lib.hid c4; clear c4
  have ht := Holds.made w t
  have hbw : Below w.heap.size w (w.alloc (.cells #[.int .i64 t.d, .int .i64 t.e, .int .i64 t.x, .int .i64 t.y, .int .i64 t.z] 24)) := (Below.refl _ _).alloc (by simp) _
  have Ht := Lib.hid ht; clear ht
  have HBW := Lib.hid hbw; clear hbw
  go_enter Try.func7, Try.ntmps7
  go_wp2_with fail
  generalize w.alloc (.cells #[.int .i64 t.d, .int .i64 t.e, .int .i64 t.x, .int .i64 t.y, .int .i64 t.z] 24) = w0 at *
  refine (C1.out _ (HB.out.below HBW.out)).mono ?_; rintro e v1 ⟨A1, n1, c1, rfl, hn1, hB1, hbel⟩
  dsimp only
  have ht := Ht.out.below hbel; clear Ht
  have hbw := HBW.out.trans (hbel.mono HBW.out.size); clear HBW hbel
  have Ht := Lib.hid ht; clear ht
  have HBW := Lib.hid hbw; clear hbw
  subst hn1
  have HB1 := Lib.hid hB1; clear hB1
  have lt := Ht.out.lt
  go_wp2_with fail
  clear lt
  have ht := Ht.out.alloc (.cells #[.int .i64 G.d, .int .i64 G.e, .int .i64 G.x, .int .i64 G.y, .int .i64 G.z] 24); clear Ht
  have hbx := Holds.made v1 G
  have hbw := HBW.out.alloc HBW.out.size (.cells #[.int .i64 G.d, .int .i64 G.e, .int .i64 G.x, .int .i64 G.y, .int .i64 G.z] 24); clear HBW
  generalize v1.alloc (.cells #[.int .i64 G.d, .int .i64 G.e, .int .i64 G.x, .int .i64 G.y, .int .i64 G.z] 24) = v2 at *
  generalize v1.heap.size = gbx at *
  have Ht := Lib.hid ht; clear ht
  have Hbx := Lib.hid hbx; clear hbx
  have HBW := Lib.hid hbw; clear hbw
  refine (C2.out _ (HB.out.below HBW.out)).mono ?_; rintro e v3 ⟨A2, n2, c2, rfl, hn2, hB2, hbel⟩
  dsimp only
  have ht := Ht.out.below hbel; clear Ht
  have hbx := Hbx.out.below hbel; clear Hbx
  have hbw := HBW.out.trans (hbel.mono HBW.out.size); clear HBW hbel
  have Ht := Lib.hid ht; clear ht
  have Hbx := Lib.hid hbx; clear hbx
  have HBW := Lib.hid hbw; clear hbw
  subst hn2
  have HB2 := Lib.hid hB2; clear hB2
  have e0 := HE0.out
  have lt := Ht.out.lt
  have lbx := Hbx.out.lt
  obtain ⟨cbx0, cbx1, cbx2, cbx3, cbx4⟩ := Hbx.out.cells5
  go_wp2_with fail
  clear lt lbx cbx0 cbx1 cbx2 cbx3 cbx4
  have ht := Ht.out.alloc (.cells #[.int .i64 G.d, .int .i64 G.e, .int .i64 G.x, .int .i64 G.y, .int .i64 G.z] 24); clear Ht
  have hbx := Hbx.out.alloc (.cells #[.int .i64 G.d, .int .i64 G.e, .int .i64 G.x, .int .i64 G.y, .int .i64 G.z] 24); clear Hbx
  have hby2 := Holds.made v3 G
  have hbw := HBW.out.alloc HBW.out.size (.cells #[.int .i64 G.d, .int .i64 G.e, .int .i64 G.x, .int .i64 G.y, .int .i64 G.z] 24); clear HBW
  generalize v3.alloc (.cells #[.int .i64 G.d, .int .i64 G.e, .int .i64 G.x, .int .i64 G.y, .int .i64 G.z] 24) = v4 at *
  generalize v3.heap.size = gby2 at *
  have Ht := Lib.hid ht; clear ht
  have Hbx := Lib.hid hbx; clear hbx
  have Hby2 := Lib.hid hby2; clear hby2
  have HBW := Lib.hid hbw; clear hbw
  clear e0
  refine (same_any (gr xs) A1 A2 c1 c2 _ (HB1.out _ (HB.out.below HBW.out)) (HB2.out _ (HB.out.below HBW.out))).mono ?_; rintro e wq ⟨rfl, rfl⟩
  clear HB1 HB2
  have lt := Ht.out.lt
  have lbx := Hbx.out.lt
  have lby2 := Hby2.out.lt
  obtain ⟨ct0, ct1, ct2, ct3, ct4⟩ := Ht.out.cells5
  go_wp2_with fail
  clear lt lbx lby2 ct0 ct1 ct2 ct3 ct4
  refine (C3.out _).mono ?_; rintro e v5 ⟨rfl, hbel⟩
  have ht := Ht.out.below hbel; clear Ht
  have hbx := Hbx.out.below hbel; clear Hbx
  have hby2 := Hby2.out.below hbel; clear Hby2
  have hbw := HBW.out.trans (hbel.mono HBW.out.size); clear HBW hbel
  have Ht := Lib.hid ht; clear ht
  have Hbx := Lib.hid hbx; clear hbx
  have Hby2 := Lib.hid hby2; clear hby2
  have HBW := Lib.hid hbw; clear hbw
  have lt := Ht.out.lt
  have lbx := Hbx.out.lt
  have lby2 := Hby2.out.lt
  go_wp2_with fail
  clear lt lbx lby2
  refine (C4.out _).mono ?_; rintro e v6 ⟨rfl, hbel⟩
  have ht := Ht.out.below hbel; clear Ht
  have hbx := Hbx.out.below hbel; clear Hbx
  have hby2 := Hby2.out.below hbel; clear Hby2
  have hbw := HBW.out.trans (hbel.mono HBW.out.size); clear HBW hbel
  have Ht := Lib.hid ht; clear ht
  have Hbx := Lib.hid hbx; clear hbx
  have Hby2 := Lib.hid hby2; clear hby2
  have HBW := Lib.hid hbw; clear hbw
  go_wp2_with fail
  go_ret
  exact ⟨rfl, HBW.out⟩
set_option maxRecDepth 100000 in
set_option maxHeartbeats 4000000 in
theorem walk_yes (t : St) (xs : List Nat) (A : Option Addr) (c : Nat) (w : World) (hB : Bytes w A xs) (h : xs.length ≤ 100) (hc : xs.length ≤ c) (hm : c ≤ maxLen) (hAc : A = none → c = 0) (k : t.R) : Calls Try.prog 7 #[t.val, .slice A xs.length c] w fun e w' => e = .returned (.bool true) ∧ Below w.heap.size w w' := by
  have tl : decide ((100 : Int) < (xs.length : Int)) = false := decide_eq_false (by omega)
  have tl2 : decide ((xs.length : Int) > 100) = false := decide_eq_false (by omega)
  have c1 := fun w (hB : Bytes w A xs) => get_any xs A c w hB hc hm
  have c2 := fun w (hB : Bytes w A xs) => refGet_any xs A c w hB hc hm
  have c3 := fun w => put_any t w k
  have c4 := fun w => works_any w
  have HB := Lib.hid hB; clear hB
  have hp := gt_put k xs
  have hlt := St.put_lt k
  have hle : t.put.length ≤ 6 := by rw [St.put_len k]; unfold St.R at k; omega
  unfold Made at c3
  generalize t.put = ps at *
  have HP := Lib.hid hp; have HLT := Lib.hid hlt; clear hp hlt
  unfold Gets at c1 c2
  generalize gt xs = G at *
  generalize hE : ge xs = e5 at *
  clear hE k
  unfold St.val at *
  have e0 : ∀ w, (Op.equalIn 10000 24 (.agg #[.int .i64 G.d, .int .i64 G.e, .int .i64 G.x, .int .i64 G.y, .int .i64 G.z]) (.agg #[.int .i64 G.d, .int .i64 G.e, .int .i64 G.x, .int .i64 G.y, .int .i64 G.z])).run Try.prog w = .ok true w := fun w => by rw [run_eq5, decide_eq_true rfl]
  have e1 : ∀ w, (Op.equalIn 10000 24 (.agg #[.int .i64 t.d, .int .i64 t.e, .int .i64 t.x, .int .i64 t.y, .int .i64 t.z]) (.agg #[.int .i64 t.d, .int .i64 t.e, .int .i64 t.x, .int .i64 t.y, .int .i64 t.z])).run Try.prog w = .ok true w := fun w => by rw [run_eq5, decide_eq_true rfl]
  have HE0 := Lib.hid e0; have HE1 := Lib.hid e1; clear e0 e1
  have C1 := Lib.hid c1; clear c1
  have C2 := Lib.hid c2; clear c2
  have C3 := Lib.hid c3; clear c3
  have C4 := Lib.hid c4; clear c4
  have ht := Holds.made w t
  have hbw : Below w.heap.size w (w.alloc (.cells #[.int .i64 t.d, .int .i64 t.e, .int .i64 t.x, .int .i64 t.y, .int .i64 t.z] 24)) := (Below.refl _ _).alloc (by simp) _
  have Ht := Lib.hid ht; clear ht
  have HBW := Lib.hid hbw; clear hbw
  go_enter Try.func7, Try.ntmps7
  go_wp2_with fail
  generalize w.alloc (.cells #[.int .i64 t.d, .int .i64 t.e, .int .i64 t.x, .int .i64 t.y, .int .i64 t.z] 24) = w0 at *
  refine (C1.out _ (HB.out.below HBW.out)).mono ?_; rintro e v1 ⟨A1, n1, c1, rfl, hn1, hB1, hbel⟩
  dsimp only
  have ht := Ht.out.below hbel; clear Ht
  have hbw := HBW.out.trans (hbel.mono HBW.out.size); clear HBW hbel
  have Ht := Lib.hid ht; clear ht
  have HBW := Lib.hid hbw; clear hbw
  subst hn1
  have HB1 := Lib.hid hB1; clear hB1
  have lt := Ht.out.lt
  go_wp2_with fail
  clear lt
  have ht := Ht.out.alloc (.cells #[.int .i64 G.d, .int .i64 G.e, .int .i64 G.x, .int .i64 G.y, .int .i64 G.z] 24); clear Ht
  have hbx := Holds.made v1 G
  have hbw := HBW.out.alloc HBW.out.size (.cells #[.int .i64 G.d, .int .i64 G.e, .int .i64 G.x, .int .i64 G.y, .int .i64 G.z] 24); clear HBW
  generalize v1.alloc (.cells #[.int .i64 G.d, .int .i64 G.e, .int .i64 G.x, .int .i64 G.y, .int .i64 G.z] 24) = v2 at *
  generalize v1.heap.size = gbx at *
  have Ht := Lib.hid ht; clear ht
  have Hbx := Lib.hid hbx; clear hbx
  have HBW := Lib.hid hbw; clear hbw
  refine (C2.out _ (HB.out.below HBW.out)).mono ?_; rintro e v3 ⟨A2, n2, c2, rfl, hn2, hB2, hbel⟩
  dsimp only
  have ht := Ht.out.below hbel; clear Ht
  have hbx := Hbx.out.below hbel; clear Hbx
  have hbw := HBW.out.trans (hbel.mono HBW.out.size); clear HBW hbel
  have Ht := Lib.hid ht; clear ht
  have Hbx := Lib.hid hbx; clear hbx
  have HBW := Lib.hid hbw; clear hbw
  subst hn2
  have HB2 := Lib.hid hB2; clear hB2
  have e0 := HE0.out
  have lt := Ht.out.lt
  have lbx := Hbx.out.lt
  obtain ⟨cbx0, cbx1, cbx2, cbx3, cbx4⟩ := Hbx.out.cells5
  go_wp2_with fail
  clear lt lbx cbx0 cbx1 cbx2 cbx3 cbx4
  have ht := Ht.out.alloc (.cells #[.int .i64 G.d, .int .i64 G.e, .int .i64 G.x, .int .i64 G.y, .int .i64 G.z] 24); clear Ht
  have hbx := Hbx.out.alloc (.cells #[.int .i64 G.d, .int .i64 G.e, .int .i64 G.x, .int .i64 G.y, .int .i64 G.z] 24); clear Hbx
  have hby2 := Holds.made v3 G
  have hbw := HBW.out.alloc HBW.out.size (.cells #[.int .i64 G.d, .int .i64 G.e, .int .i64 G.x, .int .i64 G.y, .int .i64 G.z] 24); clear HBW
  generalize v3.alloc (.cells #[.int .i64 G.d, .int .i64 G.e, .int .i64 G.x, .int .i64 G.y, .int .i64 G.z] 24) = v4 at *
  generalize v3.heap.size = gby2 at *
  have Ht := Lib.hid ht; clear ht
  have Hbx := Lib.hid hbx; clear hbx
  have Hby2 := Lib.hid hby2; clear hby2
  have HBW := Lib.hid hbw; clear hbw
  clear e0
  refine (same_any (gr xs) A1 A2 c1 c2 _ (HB1.out _ (HB.out.below HBW.out)) (HB2.out _ (HB.out.below HBW.out))).mono ?_; rintro e wq ⟨rfl, rfl⟩
  clear HB1 HB2
  have lt := Ht.out.lt
  have lbx := Hbx.out.lt
  have lby2 := Hby2.out.lt
  obtain ⟨ct0, ct1, ct2, ct3, ct4⟩ := Ht.out.cells5
  go_wp2_with fail
  clear lt lbx lby2 ct0 ct1 ct2 ct3 ct4
  refine (C3.out _).mono ?_; rintro e v5 ⟨gp, rfl, hgp, hrp, hbel⟩
  have hgpw : w.heap.size ≤ gp := Nat.le_trans HBW.out.size hgp
  have hl0 : gp ≠ w.heap.size := by have := Ht.out.lt; omega
  have ht := Ht.out.below hbel; clear Ht
  have hbx := Hbx.out.below hbel; clear Hbx
  have hby2 := Hby2.out.below hbel; clear Hby2
  have hbw := HBW.out.trans (hbel.mono HBW.out.size); clear HBW hbel
  have Ht := Lib.hid ht; clear ht
  have Hbx := Lib.hid hbx; clear hbx
  have Hby2 := Lib.hid hby2; clear hby2
  have HBW := Lib.hid hbw; clear hbw
  dsimp only
  clear hgp
  have hown := own_row hrp (by unfold maxLen; omega)
  have hsz := hrp.lt
  clear hrp
  have hB0 := HB.out.below HBW.out
  obtain ⟨i0, hi, hz0, hz1, hz2⟩ := info_parts Try.infoByte
  have hm' := hm
  unfold maxLen at hm'
  go_wp2_with (at_builtin; refine wpList_append_bytes rfl _ _ 27 rfl gp 5 i0 (.int .u8 0) Try.underlying27 hi hz0 hz1 hz2 rfl _ ps.length ps rfl hown A c xs rfl hB0 hAc (by omega) (Nat.le_of_lt hsz) ?_)
  intro vv wv hown2 hg2
  clear hi hz0 hz1 hz2 hm'
  have ht : Holds wv w.heap.size t := Row.grown Ht.out hg2 (fun e => by simp [Value.ownBlock] at e; omega)
  have hbw : Below w.heap.size w wv := HBW.out.grown hg2 HBW.out.size (fun k e => by simp [Value.ownBlock] at e; omega)
  clear hown hB0 hg2 Ht HBW Hbx Hby2
  rw [← List.map_append] at hown2
  obtain ⟨AA, cc, rfl, hBA, hlc, hcm⟩ := own_bytes hown2 (fun x hx => by
    rcases List.mem_append.1 hx with h | h
    · exact HLT.out x h
    · exact HB.out.1 x h)
  clear hown2
  have cg := get_any (ps ++ xs) AA cc wv hBA hlc hcm
  unfold Gets at cg
  obtain ⟨hp1, hp2, hp3⟩ := HP.out
  rw [hp1, hp2, hp3] at cg
  clear hp1 hp2 hp3 HP
  have CG := Lib.hid cg; have HBA := Lib.hid hBA; clear cg hBA hlc hcm
  have hlen : ((ps ++ xs).length : Int) = (ps.length : Int) + xs.length := by rw [List.length_append]; push_cast; rfl
  have HLEN := Lib.hid hlen; clear hlen
  generalize (ps ++ xs).length = nn at *
  have Ht := Lib.hid ht; clear ht
  have HBW := Lib.hid hbw; clear hbw
  unfold St.val at CG
  have lt := Ht.out.lt
  go_wp2_with fail
  clear lt
  refine (CG.out).mono ?_; rintro e v6 ⟨A3, n3, c3, rfl, hn3, hB3, hbel⟩
  dsimp only
  have hBx := hB3 v6 (HBA.out.below hbel)
  have ht := Ht.out.below hbel; clear Ht
  have hbw := HBW.out.trans (hbel.mono HBW.out.size); clear HBW hbel
  have Ht := Lib.hid ht; clear ht
  have HBW := Lib.hid hbw; clear hbw
  subst hn3
  have HBX := Lib.hid hBx; clear hBx hB3 HBA CG
  have e1 := HE1.out
  have lt := Ht.out.lt
  obtain ⟨ct0, ct1, ct2, ct3, ct4⟩ := Ht.out.cells5
  go_wp2_with fail
  clear lt ct0 ct1 ct2 ct3 ct4
  have hBx := HBX.out.below ((Below.refl _ _).alloc (Nat.le_refl _) (.cells #[.int .i64 t.d, .int .i64 t.e, .int .i64 t.x, .int .i64 t.y, .int .i64 t.z] 24))
  have HBY := Lib.hid hBx; clear hBx HBX
  have ht := Ht.out.alloc (.cells #[.int .i64 t.d, .int .i64 t.e, .int .i64 t.x, .int .i64 t.y, .int .i64 t.z] 24); clear Ht
  have hbz := Holds.made v6 t
  have hbw := HBW.out.alloc HBW.out.size (.cells #[.int .i64 t.d, .int .i64 t.e, .int .i64 t.x, .int .i64 t.y, .int .i64 t.z] 24); clear HBW
  generalize v6.alloc (.cells #[.int .i64 t.d, .int .i64 t.e, .int .i64 t.x, .int .i64 t.y, .int .i64 t.z] 24) = v7 at *
  generalize v6.heap.size = gbz at *
  have Ht := Lib.hid ht; clear ht
  have Hbz := Lib.hid hbz; clear hbz
  have HBW := Lib.hid hbw; clear hbw
  clear e1
  refine (same_any xs A3 A c3 c _ HBY.out (HB.out.below HBW.out)).mono ?_; rintro e wq ⟨rfl, rfl⟩
  have lt := Ht.out.lt
  have lbz := Hbz.out.lt
  go_wp2_with fail
  clear lt lbz
  refine (C4.out _).mono ?_; rintro e v8 ⟨rfl, hbel⟩
  have ht := Ht.out.below hbel; clear Ht
  have hbz := Hbz.out.below hbel; clear Hbz
  have hbw := HBW.out.trans (hbel.mono HBW.out.size); clear HBW hbel
  have Ht := Lib.hid ht; clear ht
  have Hbz := Lib.hid hbz; clear hbz
  have HBW := Lib.hid hbw; clear hbw
  go_wp2_with fail
  go_ret
  exact ⟨rfl, HBW.out⟩
theorem walk (t : St) (xs : List Nat) (A : Option Addr) (c : Nat) (w : World) (hB : Bytes w A xs) (hc : xs.length ≤ c) (hm : c ≤ maxLen) (hAc : A = none → c = 0) : Calls Try.prog 7 #[t.val, .slice A xs.length c] w fun e w' => e = .returned (.bool true) ∧ Below w.heap.size w w' := by
  by_cases h : 100 < xs.length
  · exact walk_long t xs A c w h
  · by_cases k : t.R
    · exact walk_yes t xs A c w hB (by omega) hc hm hAc k
    · exact walk_no t xs A c w hB (by omega) hc hm hAc k

set_option maxRecDepth 100000 in
theorem lifted (os : Os) (started : os.Started) (H : Type) (enc : TypeId × Value → H) :
    ReturnsInHanded {} Try.checked os 7 .any (Rows.stampGetSpec.pre6 enc Try.prog Try.f7 Rows.stampGetRow.domain false) (Rows.stampGetSpec.post enc Try.prog Try.f7 false true false false) := by
  refine returnsInHanded_of_change_sized (C := Try.checked) ownKnob_none started (by kernel_rfl) Try.func7
    (ChangeSpec.witness6 (enc := enc) (C := Try.checked) false ⟨#[], #[.agg #[.int .i64 0, .int .i64 0, .int .i64 0, .int .i64 0, .int .i64 0], .slice none 0 0], []⟩ 8 (by kernel_rfl) (by kernel_rfl) (by kernel_rfl) (by kernel_rfl)) ?_
  intro W base args ds gs before hval0 hW hcnd hsz0 _
  have hval : ∀ (j : Nat) t v, Try.f7.params[j]? = some t → args[j]? = some v → Value.okWide Try.prog W .any base t v := hval0
  have hW' := hW
  obtain ⟨p, q, hA0, hV, rfl, hfz, hnd⟩ := hW
  have hA : DataW.TrodAll enc Try.prog W 0 (fun _ => true) true Try.f7.params.toList args.toList ds p := hA0
  have hsz : (DataW.weightsEach Try.prog (Try.f7.params.toList ++ Rows.stampGetSpec.plain.varTypes Try.prog) (ds ++ gs)).all (· ≤ reachBytes) = true := hsz0
  rw [Try.params7] at hA hval hsz
  obtain ⟨v0, vs0, d0, ds0, p0, q0, hargs, rfl, rfl, h0, r0⟩ := trodAll_cons hA
  obtain ⟨v1, vs1, d1, ds1, p1, q1, rfl, rfl, rfl, h1, r1⟩ := trodAll_cons r0
  obtain ⟨rfl, rfl, rfl⟩ := trodAll_nil r1
  obtain rfl : args = #[v0, v1] := by cases args; simp_all
  obtain ⟨rfl, rfl⟩ := trodVars_none hV
  obtain ⟨t0, rfl⟩ := open_stamp (hval 0 24 v0 rfl rfl) h0
  obtain ⟨A1, xs1, c1, rfl, hB1, hxc1, hcm1, hAc1⟩ := open_bytes Try.underlying27 Try.underlying5 cells_u8 (hval 1 27 v1 rfl rfl) h1
  clear hA0 hval0 hsz0
  refine (walk t0 xs1 A1 c1 W hB1 hxc1 hcm1 hAc1).mono fun e W' ⟨he, hg⟩ => ?_
  subst he
  exact ⟨_, rfl, law_post progLaid hW' rfl (by rw [Try.params7]; intro t ht; simp at ht; rcases ht with rfl | rfl <;> exact ⟨by kernel_rfl, of_decide_eq_true (by kernel_rfl)⟩) rfl Try.underlying4 rfl hg⟩

theorem over : Rows.stampGetRow.holds Try.pinned (OpenSpec.ofChange Rows.stampGetSpec) :=
  OpenClaim.holds_of_wide 7 Try.f7 rfl rfl rfl rfl rfl rfl rfl ⟨rfl, rfl, rfl, rfl, rfl⟩ rfl rfl rfl rfl rfl (by kernel_rfl) Try.func7 (by kernel_rfl)
    (of_decide_eq_true (by kernel_rfl)) (by unfold Func.isWrapper; first | (rw [if_pos (by decide +kernel)]; kernel_rfl) | (rw [if_neg (by decide +kernel)]; exact ⟨rfl, rfl⟩))
    (fun os started H enc _ => lifted os started H enc)

/-- The statement. -/
theorem proved : Rows.StampGetSaid :=
  over
end stampGet
end Go.Proofs.Ytpcnnnfgopilaaa
