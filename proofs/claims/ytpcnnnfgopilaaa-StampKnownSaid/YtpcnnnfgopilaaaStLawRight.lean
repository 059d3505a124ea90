/- StampRight: of any time it is told whether it is right; its bytes, and where it goes into, out of, and round in a loop, are the document's, or refused; for all times. -/
import Derived.Test.YtpcnnnfgopilaaaStFrame
namespace Go.Proofs.Ytpcnnnfgopilaaa
open Go.ChangeShapes Go.WideShapes Go.ChangeAt Go.RowKit Go.BigFrame
set_option linter.unusedVariables false
namespace stampRight
set_option maxRecDepth 100000 in
set_option maxHeartbeats 4000000 in
theorem walk_yes (t : St) (w : World) (h : t.R) : Calls Try.prog 3 #[t.val] w fun e w' => e = .returned (.bool true) ∧ Below w.heap.size w w' := by
  have c1 := fun w => into_any t w
  have c2 := fun w => refInto_any t w
  have c3 := fun w => out_any t w
  have c4 := fun w => refOut_any t w
  have c5 := fun w => step_any t w
  have c6 := fun w => refStep_any t w
  have c7 := fun w => put_any t w h
  have c8 := fun w => refPut_any t w h
  have c9 := right_is (decide_eq_true h) (right_any t)
  have c10 := right_is (decide_eq_true h) (refRight_any t)
  have c11 := fun w => works_any w
  generalize ov t.into = J at *
  generalize ov t.out = M at *
  generalize ov t.round = N at *
  generalize t.into.isSome = p1 at *
  generalize t.out.isSome = p2 at *
  generalize t.round.isSome = p3 at *
  unfold Made at c7
  unfold RefMade at c8
  have hlt := St.put_lt h
  generalize t.put = xs at *
  have HLT := Lib.hid hlt; clear hlt
  clear h
  have e1 : ∀ w, (Op.equalIn 10000 24 (.agg #[.int .i64 J.d, .int .i64 J.e, .int .i64 J.x, .int .i64 J.y, .int .i64 J.z]) (.agg #[.int .i64 J.d, .int .i64 J.e, .int .i64 J.x, .int .i64 J.y, .int .i64 J.z])).run Try.prog w = .ok true w := fun w => by rw [run_eq5, decide_eq_true rfl]
  have e2 : ∀ w, (Op.equalIn 10000 24 (.agg #[.int .i64 M.d, .int .i64 M.e, .int .i64 M.x, .int .i64 M.y, .int .i64 M.z]) (.agg #[.int .i64 M.d, .int .i64 M.e, .int .i64 M.x, .int .i64 M.y, .int .i64 M.z])).run Try.prog w = .ok true w := fun w => by rw [run_eq5, decide_eq_true rfl]
  have HE1 := Lib.hid e1; have HE2 := Lib.hid e2; clear e1 e2
  unfold St.val at *
  have C1 := Lib.hid c1; clear c1
  have C2 := Lib.hid c2; clear c2
  have C3 := Lib.hid c3; clear c3
  have C4 := Lib.hid c4; clear c4
  have C5 := Lib.hid c5; clear c5
  have C6 := Lib.hid c6; clear c6
  have C7 := Lib.hid c7; clear c7
  have C8 := Lib.hid c8; clear c8
  have C9 := Lib.hid c9; clear c9
  have C10 := Lib.hid c10; clear c10
  have C11 := Lib.hid c11; clear c11
  have ht := Holds.made w t
  have hbw : Below w.heap.size w (w.alloc (.cells #[.int .i64 t.d, .int .i64 t.e, .int .i64 t.x, .int .i64 t.y, .int .i64 t.z] 24)) := (Below.refl _ _).alloc (by simp) _
  have Ht := Lib.hid ht; clear ht
  have HBW := Lib.hid hbw; clear hbw
  go_enter Try.func3, Try.ntmps3
  go_wp2_with fail
  generalize w.alloc (.cells #[.int .i64 t.d, .int .i64 t.e, .int .i64 t.x, .int .i64 t.y, .int .i64 t.z] 24) = w0 at *
  refine (C1.out _).mono ?_; rintro e v1 ⟨rfl, hbel⟩
  have ht := Ht.out.below hbel; clear Ht
  have hbw := HBW.out.trans (hbel.mono HBW.out.size); clear HBW hbel
  have Ht := Lib.hid ht; clear ht
  have HBW := Lib.hid hbw; clear hbw
  have lt := Ht.out.lt
  obtain ⟨ct0, ct1, ct2, ct3, ct4⟩ := Ht.out.cells5
  go_wp2_with fail
  clear lt ct0 ct1 ct2 ct3 ct4
  have ht := Ht.out.alloc (.cells #[.int .i64 J.d, .int .i64 J.e, .int .i64 J.x, .int .i64 J.y, .int .i64 J.z] 24); clear Ht
  have hx := Holds.made v1 J
  have hbw := HBW.out.alloc HBW.out.size (.cells #[.int .i64 J.d, .int .i64 J.e, .int .i64 J.x, .int .i64 J.y, .int .i64 J.z] 24); clear HBW
  generalize v1.alloc (.cells #[.int .i64 J.d, .int .i64 J.e, .int .i64 J.x, .int .i64 J.y, .int .i64 J.z] 24) = v2 at *
  generalize v1.heap.size = gx at *
  have Ht := Lib.hid ht; clear ht
  have Hx := Lib.hid hx; clear hx
  have HBW := Lib.hid hbw; clear hbw
  refine (C2.out _).mono ?_; rintro e v3 ⟨rfl, hbel⟩
  have ht := Ht.out.below hbel; clear Ht
  have hx := Hx.out.below hbel; clear Hx
  have hbw := HBW.out.trans (hbel.mono HBW.out.size); clear HBW hbel
  have Ht := Lib.hid ht; clear ht
  have Hx := Lib.hid hx; clear hx
  have HBW := Lib.hid hbw; clear hbw
  have lt := Ht.out.lt
  have lx := Hx.out.lt
  obtain ⟨ct0, ct1, ct2, ct3, ct4⟩ := Ht.out.cells5
  go_wp2_with fail
  clear lt lx ct0 ct1 ct2 ct3 ct4
  have ht := Ht.out.alloc (.cells #[.int .i64 J.d, .int .i64 J.e, .int .i64 J.x, .int .i64 J.y, .int .i64 J.z] 24); clear Ht
  have hx := Hx.out.alloc (.cells #[.int .i64 J.d, .int .i64 J.e, .int .i64 J.x, .int .i64 J.y, .int .i64 J.z] 24); clear Hx
  have hy := Holds.made v3 J
  have hbw := HBW.out.alloc HBW.out.size (.cells #[.int .i64 J.d, .int .i64 J.e, .int .i64 J.x, .int .i64 J.y, .int .i64 J.z] 24); clear HBW
  generalize v3.alloc (.cells #[.int .i64 J.d, .int .i64 J.e, .int .i64 J.x, .int .i64 J.y, .int .i64 J.z] 24) = v4 at *
  generalize v3.heap.size = gy at *
  have Ht := Lib.hid ht; clear ht
  have Hx := Lib.hid hx; clear hx
  have Hy := Lib.hid hy; clear hy
  have HBW := Lib.hid hbw; clear hbw
  refine (C3.out _).mono ?_; rintro e v5 ⟨rfl, hbel⟩
  have ht := Ht.out.below hbel; clear Ht
  have hx := Hx.out.below hbel; clear Hx
  have hy := Hy.out.below hbel; clear Hy
  have hbw := HBW.out.trans (hbel.mono HBW.out.size); clear HBW hbel
  have Ht := Lib.hid ht; clear ht
  have Hx := Lib.hid hx; clear hx
  have Hy := Lib.hid hy; clear hy
  have HBW := Lib.hid hbw; clear hbw
  have lt := Ht.out.lt
  have lx := Hx.out.lt
  have ly := Hy.out.lt
  obtain ⟨ct0, ct1, ct2, ct3, ct4⟩ := Ht.out.cells5
  go_wp2_with fail
  clear lt lx ly ct0 ct1 ct2 ct3 ct4
  have ht := Ht.out.alloc (.cells #[.int .i64 M.d, .int .i64 M.e, .int .i64 M.x, .int .i64 M.y, .int .i64 M.z] 24); clear Ht
  have hx := Hx.out.alloc (.cells #[.int .i64 M.d, .int .i64 M.e, .int .i64 M.x, .int .i64 M.y, .int .i64 M.z] 24); clear Hx
  have hy := Hy.out.alloc (.cells #[.int .i64 M.d, .int .i64 M.e, .int .i64 M.x, .int .i64 M.y, .int .i64 M.z] 24); clear Hy
  have hz := Holds.made v5 M
  have hbw := HBW.out.alloc HBW.out.size (.cells #[.int .i64 M.d, .int .i64 M.e, .int .i64 M.x, .int .i64 M.y, .int .i64 M.z] 24); clear HBW
  generalize v5.alloc (.cells #[.int .i64 M.d, .int .i64 M.e, .int .i64 M.x, .int .i64 M.y, .int .i64 M.z] 24) = v6 at *
  generalize v5.heap.size = gz at *
  have Ht := Lib.hid ht; clear ht
  have Hx := Lib.hid hx; clear hx
  have Hy := Lib.hid hy; clear hy
  have Hz := Lib.hid hz; clear hz
  have HBW := Lib.hid hbw; clear hbw
  refine (C4.out _).mono ?_; rintro e v7 ⟨rfl, hbel⟩
  have ht := Ht.out.below hbel; clear Ht
  have hx := Hx.out.below hbel; clear Hx
  have hy := Hy.out.below hbel; clear Hy
  have hz := Hz.out.below hbel; clear Hz
  have hbw := HBW.out.trans (hbel.mono HBW.out.size); clear HBW hbel
  have Ht := Lib.hid ht; clear ht
  have Hx := Lib.hid hx; clear hx
  have Hy := Lib.hid hy; clear hy
  have Hz := Lib.hid hz; clear hz
  have HBW := Lib.hid hbw; clear hbw
  have e1 := HE1.out
  have e2 := HE2.out
  have lt := Ht.out.lt
  have lx := Hx.out.lt
  have ly := Hy.out.lt
  have lz := Hz.out.lt
  obtain ⟨ct0, ct1, ct2, ct3, ct4⟩ := Ht.out.cells5
  obtain ⟨cx0, cx1, cx2, cx3, cx4⟩ := Hx.out.cells5
  obtain ⟨cy0, cy1, cy2, cy3, cy4⟩ := Hy.out.cells5
  obtain ⟨cz0, cz1, cz2, cz3, cz4⟩ := Hz.out.cells5
  go_wp2_with fail
  clear lt lx ly lz ct0 ct1 ct2 ct3 ct4 cx0 cx1 cx2 cx3 cx4 cy0 cy1 cy2 cy3 cy4 cz0 cz1 cz2 cz3 cz4
  have ht := Ht.out.alloc (.cells #[.int .i64 M.d, .int .i64 M.e, .int .i64 M.x, .int .i64 M.y, .int .i64 M.z] 24); clear Ht
  have hx := Hx.out.alloc (.cells #[.int .i64 M.d, .int .i64 M.e, .int .i64 M.x, .int .i64 M.y, .int .i64 M.z] 24); clear Hx
  have hy := Hy.out.alloc (.cells #[.int .i64 M.d, .int .i64 M.e, .int .i64 M.x, .int .i64 M.y, .int .i64 M.z] 24); clear Hy
  have hz := Hz.out.alloc (.cells #[.int .i64 M.d, .int .i64 M.e, .int .i64 M.x, .int .i64 M.y, .int .i64 M.z] 24); clear Hz
  have hu := Holds.made v7 M
  have hbw := HBW.out.alloc HBW.out.size (.cells #[.int .i64 M.d, .int .i64 M.e, .int .i64 M.x, .int .i64 M.y, .int .i64 M.z] 24); clear HBW
  generalize v7.alloc (.cells #[.int .i64 M.d, .int .i64 M.e, .int .i64 M.x, .int .i64 M.y, .int .i64 M.z] 24) = v8 at *
  generalize v7.heap.size = gu at *
  have Ht := Lib.hid ht; clear ht
  have Hx := Lib.hid hx; clear hx
  have Hy := Lib.hid hy; clear hy
  have Hz := Lib.hid hz; clear hz
  have Hu := Lib.hid hu; clear hu
  have HBW := Lib.hid hbw; clear hbw
  refine (C5.out _).mono ?_; rintro e v9 ⟨rfl, hbel⟩
  have ht := Ht.out.below hbel; clear Ht
  have hx := Hx.out.below hbel; clear Hx
  have hy := Hy.out.below hbel; clear Hy
  have hz := Hz.out.below hbel; clear Hz
  have hu := Hu.out.below hbel; clear Hu
  have hbw := HBW.out.trans (hbel.mono HBW.out.size); clear HBW hbel
  have Ht := Lib.hid ht; clear ht
  have Hx := Lib.hid hx; clear hx
  have Hy := Lib.hid hy; clear hy
  have Hz := Lib.hid hz; clear hz
  have Hu := Lib.hid hu; clear hu
  have HBW := Lib.hid hbw; clear hbw
  clear e1 e2
  have lt := Ht.out.lt
  have lx := Hx.out.lt
  have ly := Hy.out.lt
  have lz := Hz.out.lt
  have lu := Hu.out.lt
  obtain ⟨ct0, ct1, ct2, ct3, ct4⟩ := Ht.out.cells5
  go_wp2_with fail
  clear lt lx ly lz lu ct0 ct1 ct2 ct3 ct4
  have ht := Ht.out.alloc (.cells #[.int .i64 N.d, .int .i64 N.e, .int .i64 N.x, .int .i64 N.y, .int .i64 N.z] 24); clear Ht
  have hx := Hx.out.alloc (.cells #[.int .i64 N.d, .int .i64 N.e, .int .i64 N.x, .int .i64 N.y, .int .i64 N.z] 24); clear Hx
  have hy := Hy.out.alloc (.cells #[.int .i64 N.d, .int .i64 N.e, .int .i64 N.x, .int .i64 N.y, .int .i64 N.z] 24); clear Hy
  have hz := Hz.out.alloc (.cells #[.int .i64 N.d, .int .i64 N.e, .int .i64 N.x, .int .i64 N.y, .int .i64 N.z] 24); clear Hz
  have hu := Hu.out.alloc (.cells #[.int .i64 N.d, .int .i64 N.e, .int .i64 N.x, .int .i64 N.y, .int .i64 N.z] 24); clear Hu
  have hs := Holds.made v9 N
  have hbw := HBW.out.alloc HBW.out.size (.cells #[.int .i64 N.d, .int .i64 N.e, .int .i64 N.x, .int .i64 N.y, .int .i64 N.z] 24); clear HBW
  generalize v9.alloc (.cells #[.int .i64 N.d, .int .i64 N.e, .int .i64 N.x, .int .i64 N.y, .int .i64 N.z] 24) = v10 at *
  generalize v9.heap.size = gs at *
  have Ht := Lib.hid ht; clear ht
  have Hx := Lib.hid hx; clear hx
  have Hy := Lib.hid hy; clear hy
  have Hz := Lib.hid hz; clear hz
  have Hu := Lib.hid hu; clear hu
  have Hs := Lib.hid hs; clear hs
  have HBW := Lib.hid hbw; clear hbw
  refine (C6.out _).mono ?_; rintro e v11 ⟨rfl, hbel⟩
  have ht := Ht.out.below hbel; clear Ht
  have hx := Hx.out.below hbel; clear Hx
  have hy := Hy.out.below hbel; clear Hy
  have hz := Hz.out.below hbel; clear Hz
  have hu := Hu.out.below hbel; clear Hu
  have hs := Hs.out.below hbel; clear Hs
  have hbw := HBW.out.trans (hbel.mono HBW.out.size); clear HBW hbel
  have Ht := Lib.hid ht; clear ht
  have Hx := Lib.hid hx; clear hx
  have Hy := Lib.hid hy; clear hy
  have Hz := Lib.hid hz; clear hz
  have Hu := Lib.hid hu; clear hu
  have Hs := Lib.hid hs; clear hs
  have HBW := Lib.hid hbw; clear hbw
  have lt := Ht.out.lt
  have lx := Hx.out.lt
  have ly := Hy.out.lt
  have lz := Hz.out.lt
  have lu := Hu.out.lt
  have ls := Hs.out.lt
  obtain ⟨ct0, ct1, ct2, ct3, ct4⟩ := Ht.out.cells5
  go_wp2_with fail
  clear lt lx ly lz lu ls ct0 ct1 ct2 ct3 ct4
  have ht := Ht.out.alloc (.cells #[.int .i64 N.d, .int .i64 N.e, .int .i64 N.x, .int .i64 N.y, .int .i64 N.z] 24); clear Ht
  have hx := Hx.out.alloc (.cells #[.int .i64 N.d, .int .i64 N.e, .int .i64 N.x, .int .i64 N.y, .int .i64 N.z] 24); clear Hx
  have hy := Hy.out.alloc (.cells #[.int .i64 N.d, .int .i64 N.e, .int .i64 N.x, .int .i64 N.y, .int .i64 N.z] 24); clear Hy
  have hz := Hz.out.alloc (.cells #[.int .i64 N.d, .int .i64 N.e, .int .i64 N.x, .int .i64 N.y, .int .i64 N.z] 24); clear Hz
  have hu := Hu.out.alloc (.cells #[.int .i64 N.d, .int .i64 N.e, .int .i64 N.x, .int .i64 N.y, .int .i64 N.z] 24); clear Hu
  have hs := Hs.out.alloc (.cells #[.int .i64 N.d, .int .i64 N.e, .int .i64 N.x, .int .i64 N.y, .int .i64 N.z] 24); clear Hs
  have hr := Holds.made v11 N
  have hbw := HBW.out.alloc HBW.out.size (.cells #[.int .i64 N.d, .int .i64 N.e, .int .i64 N.x, .int .i64 N.y, .int .i64 N.z] 24); clear HBW
  generalize v11.alloc (.cells #[.int .i64 N.d, .int .i64 N.e, .int .i64 N.x, .int .i64 N.y, .int .i64 N.z] 24) = v12 at *
  generalize v11.heap.size = gr at *
  have Ht := Lib.hid ht; clear ht
  have Hx := Lib.hid hx; clear hx
  have Hy := Lib.hid hy; clear hy
  have Hz := Lib.hid hz; clear hz
  have Hu := Lib.hid hu; clear hu
  have Hs := Lib.hid hs; clear hs
  have Hr := Lib.hid hr; clear hr
  have HBW := Lib.hid hbw; clear hbw
  refine (C7.out _).mono ?_; rintro e v13 ⟨gp, rfl, hgp, hrow, hbel⟩
  have ht := Ht.out.below hbel; clear Ht
  have hx := Hx.out.below hbel; clear Hx
  have hy := Hy.out.below hbel; clear Hy
  have hz := Hz.out.below hbel; clear Hz
  have hu := Hu.out.below hbel; clear Hu
  have hs := Hs.out.below hbel; clear Hs
  have hr := Hr.out.below hbel; clear Hr
  have hbw := HBW.out.trans (hbel.mono HBW.out.size); clear HBW hbel
  have Ht := Lib.hid ht; clear ht
  have Hx := Lib.hid hx; clear hx
  have Hy := Lib.hid hy; clear hy
  have Hz := Lib.hid hz; clear hz
  have Hu := Lib.hid hu; clear hu
  have Hs := Lib.hid hs; clear hs
  have Hr := Lib.hid hr; clear hr
  have HBW := Lib.hid hbw; clear hbw
  dsimp only
  have hbp : Bytes v13 (some ⟨gp, 0, none⟩) xs := Bytes.of_row hrow HLT.out
  have HBQ := Lib.hid hbp; clear hgp hrow hbp
  have lt := Ht.out.lt
  have lx := Hx.out.lt
  have ly := Hy.out.lt
  have lz := Hz.out.lt
  have lu := Hu.out.lt
  have ls := Hs.out.lt
  have lr := Hr.out.lt
  obtain ⟨ct0, ct1, ct2, ct3, ct4⟩ := Ht.out.cells5
  go_wp2_with fail
  clear lt lx ly lz lu ls lr ct0 ct1 ct2 ct3 ct4
  refine (C8.out _).mono ?_; rintro e v14 ⟨A, cA, rfl, hB2, hbel⟩
  have hbp := HBQ.out.below hbel; have HBP := Lib.hid hbp; clear hbp HBQ
  have ht := Ht.out.below hbel; clear Ht
  have hx := Hx.out.below hbel; clear Hx
  have hy := Hy.out.below hbel; clear Hy
  have hz := Hz.out.below hbel; clear Hz
  have hu := Hu.out.below hbel; clear Hu
  have hs := Hs.out.below hbel; clear Hs
  have hr := Hr.out.below hbel; clear Hr
  have hbw := HBW.out.trans (hbel.mono HBW.out.size); clear HBW hbel
  have Ht := Lib.hid ht; clear ht
  have Hx := Lib.hid hx; clear hx
  have Hy := Lib.hid hy; clear hy
  have Hz := Lib.hid hz; clear hz
  have Hu := Lib.hid hu; clear hu
  have Hs := Lib.hid hs; clear hs
  have Hr := Lib.hid hr; clear hr
  have HBW := Lib.hid hbw; clear hbw
  dsimp only
  have hb1 : Bytes v14 (some ⟨gp, 0, none⟩) xs := HBP.out
  have k1 := conv_in hb1 xs.length
  have k2 := conv_in hB2 cA
  generalize strOf xs = s at *
  generalize xs.length = n at *
  have K1 := Lib.hid k1; have K2 := Lib.hid k2; clear k1 k2 hb1 hB2 HBP
  have lt := Ht.out.lt
  have lx := Hx.out.lt
  have ly := Hy.out.lt
  have lz := Hz.out.lt
  have lu := Hu.out.lt
  have ls := Hs.out.lt
  have lr := Hr.out.lt
  go_wp2_with fail
  clear lt lx ly lz lu ls lr
  refine wp_region_below (by kernel_rfl) (by kernel_rfl) ?_
  repeat (refine wpQuiet_step (fun K hK => ?_); (first
    | ((first
      | (refine q_load (p := .pointer (some ⟨w.heap.size, 0, none⟩)) 24 _ rfl rfl rfl (load_t Ht.out) ?_)
      | (refine q_load (p := .pointer (some ⟨gs, 0, none⟩)) 24 _ rfl rfl rfl (load_t Hs.out) ?_)
      | (refine q_load (p := .pointer (some ⟨gr, 0, none⟩)) 24 _ rfl rfl rfl (load_t Hr.out) ?_)
      | (refine q_bin _ _ _ _ _ rfl rfl rfl rfl (eqt_self _ _ _) ?_)
      | (refine q_bin _ _ _ _ _ rfl rfl rfl rfl (eqb_self _ _ _) ?_)
      | (refine q_bin _ _ _ _ _ rfl rfl rfl rfl (eqe_self _ _ _) ?_)
      | (refine q_bin _ _ _ _ _ rfl rfl rfl rfl (eqs_self _ _ _) ?_)
      | (refine q_conv 27 9 _ rfl rfl rfl K1.out ?_)
      | (refine q_conv 27 9 _ rfl rfl rfl K2.out ?_)); go_simp; (with_reducible refine hK _ ?_))
    | (go_simp; (first
      | (with_reducible refine hK _ ?_)
      | (with_reducible refine ⟨_, fun _ _ => rfl, hK _ ?_⟩)
      | (with_reducible refine ⟨_, fun _ hb => (C9.out _).mono fun _ _ h => ⟨h.1, hb.trans (h.2.mono (by simpa using hb.size))⟩, hK _ ?_⟩)
      | (with_reducible refine ⟨_, fun _ hb => (C10.out _).mono fun _ _ h => ⟨h.1, hb.trans (h.2.mono (by simpa using hb.size))⟩, hK _ ?_⟩)
      | (with_reducible refine ⟨_, fun _ hb => (C11.out _).mono fun _ _ h => ⟨h.1, hb.trans (h.2.mono (by simpa using hb.size))⟩, hK _ ?_⟩)))); clear hK K)
  refine wpQuiet_nil ?_
  intro v15 hbel
  have ht := Ht.out.below hbel; clear Ht
  have hx := Hx.out.below hbel; clear Hx
  have hy := Hy.out.below hbel; clear Hy
  have hz := Hz.out.below hbel; clear Hz
  have hu := Hu.out.below hbel; clear Hu
  have hs := Hs.out.below hbel; clear Hs
  have hr := Hr.out.below hbel; clear Hr
  have hbw := HBW.out.trans (hbel.mono HBW.out.size); clear HBW hbel
  have Ht := Lib.hid ht; clear ht
  have Hx := Lib.hid hx; clear hx
  have Hy := Lib.hid hy; clear hy
  have Hz := Lib.hid hz; clear hz
  have Hu := Lib.hid hu; clear hu
  have Hs := Lib.hid hs; clear hs
  have Hr := Lib.hid hr; clear hr
  have HBW := Lib.hid hbw; clear hbw
  go_wp2_with fail
  go_ret
  exact ⟨rfl, HBW.out⟩
set_option maxRecDepth 100000 in
set_option maxHeartbeats 4000000 in
theorem walk_no (t : St) (w : World) (h : ¬ t.R) : Calls Try.prog 3 #[t.val] w fun e w' => e = .returned (.bool true) ∧ Below w.heap.size w w' := by
  have c1 := fun w => into_any t w
  have c2 := fun w => refInto_any t w
  have c3 := fun w => out_any t w
  have c4 := fun w => refOut_any t w
  have c5 := fun w => step_any t w
  have c6 := fun w => refStep_any t w
  have c7 := fun w => put_no t w h
  have c8 := fun w => refPut_no t w h
  have c9 := right_is (decide_eq_false h) (right_any t)
  have c10 := right_is (decide_eq_false h) (refRight_any t)
  have c11 := fun w => works_any w
  generalize ov t.into = J at *
  generalize ov t.out = M at *
  generalize ov t.round = N at *
  generalize t.into.isSome = p1 at *
  generalize t.out.isSome = p2 at *
  generalize t.round.isSome = p3 at *
  clear h
  have e1 : ∀ w, (Op.equalIn 10000 24 (.agg #[.int .i64 J.d, .int .i64 J.e, .int .i64 J.x, .int .i64 J.y, .int .i64 J.z]) (.agg #[.int .i64 J.d, .int .i64 J.e, .int .i64 J.x, .int .i64 J.y, .int .i64 J.z])).run Try.prog w = .ok true w := fun w => by rw [run_eq5, decide_eq_true rfl]
  have e2 : ∀ w, (Op.equalIn 10000 24 (.agg #[.int .i64 M.d, .int .i64 M.e, .int .i64 M.x, .int .i64 M.y, .int .i64 M.z]) (.agg #[.int .i64 M.d, .int .i64 M.e, .int .i64 M.x, .int .i64 M.y, .int .i64 M.z])).run Try.prog w = .ok true w := fun w => by rw [run_eq5, decide_eq_true rfl]
  have HE1 := Lib.hid e1; have HE2 := Lib.hid e2; clear e1 e2
  unfold St.val at *
  have C1 := Lib.hid c1; clear c1
  have C2 := Lib.hid c2; clear c2
  have C3 := Lib.hid c3; clear c3
  have C4 := Lib.hid c4; clear c4
  have C5 := Lib.hid c5; clear c5
  have C6 := Lib.hid c6; clear c6
  have C7 := Lib.hid c7; clear c7
  have C8 := Lib.hid c8; clear c8
  have C9 := Lib.hid c9; clear c9
  have C10 := Lib.hid c10; clear c10
  have C11 := Lib.hid c11; clear c11
  have ht := Holds.made w t
  have hbw : Below w.heap.size w (w.alloc (.cells #[.int .i64 t.d, .int .i64 t.e, .int .i64 t.x, .int .i64 t.y, .int .i64 t.z] 24)) := (Below.refl _ _).alloc (by simp) _
  have Ht := Lib.hid ht; clear ht
  have HBW := Lib.hid hbw; clear hbw
  go_enter Try.func3, Try.ntmps3
  go_wp2_with fail
  generalize w.alloc (.cells #[.int .i64 t.d, .int .i64 t.e, .int .i64 t.x, .int .i64 t.y, .int .i64 t.z] 24) = w0 at *
  refine (C1.out _).mono ?_; rintro e v1 ⟨rfl, hbel⟩
  have ht := Ht.out.below hbel; clear Ht
  have hbw := HBW.out.trans (hbel.mono HBW.out.size); clear HBW hbel
  have Ht := Lib.hid ht; clear ht
  have HBW := Lib.hid hbw; clear hbw
  have lt := Ht.out.lt
  obtain ⟨ct0, ct1, ct2, ct3, ct4⟩ := Ht.out.cells5
  go_wp2_with fail
  clear lt ct0 ct1 ct2 ct3 ct4
  have ht := Ht.out.alloc (.cells #[.int .i64 J.d, .int .i64 J.e, .int .i64 J.x, .int .i64 J.y, .int .i64 J.z] 24); clear Ht
  have hx := Holds.made v1 J
  have hbw := HBW.out.alloc HBW.out.size (.cells #[.int .i64 J.d, .int .i64 J.e, .int .i64 J.x, .int .i64 J.y, .int .i64 J.z] 24); clear HBW
  generalize v1.alloc (.cells #[.int .i64 J.d, .int .i64 J.e, .int .i64 J.x, .int .i64 J.y, .int .i64 J.z] 24) = v2 at *
  generalize v1.heap.size = gx at *
  have Ht := Lib.hid ht; clear ht
  have Hx := Lib.hid hx; clear hx
  have HBW := Lib.hid hbw; clear hbw
  refine (C2.out _).mono ?_; rintro e v3 ⟨rfl, hbel⟩
  have ht := Ht.out.below hbel; clear Ht
  have hx := Hx.out.below hbel; clear Hx
  have hbw := HBW.out.trans (hbel.mono HBW.out.size); clear HBW hbel
  have Ht := Lib.hid ht; clear ht
  have Hx := Lib.hid hx; clear hx
  have HBW := Lib.hid hbw; clear hbw
  have lt := Ht.out.lt
  have lx := Hx.out.lt
  obtain ⟨ct0, ct1, ct2, ct3, ct4⟩ := Ht.out.cells5
  go_wp2_with fail
  clear lt lx ct0 ct1 ct2 ct3 ct4
  have ht := Ht.out.alloc (.cells #[.int .i64 J.d, .int .i64 J.e, .int .i64 J.x, .int .i64 J.y, .int .i64 J.z] 24); clear Ht
  have hx := Hx.out.alloc (.cells #[.int .i64 J.d, .int .i64 J.e, .int .i64 J.x, .int .i64 J.y, .int .i64 J.z] 24); clear Hx
  have hy := Holds.made v3 J
  have hbw := HBW.out.alloc HBW.out.size (.cells #[.int .i64 J.d, .int .i64 J.e, .int .i64 J.x, .int .i64 J.y, .int .i64 J.z] 24); clear HBW
  generalize v3.alloc (.cells #[.int .i64 J.d, .int .i64 J.e, .int .i64 J.x, .int .i64 J.y, .int .i64 J.z] 24) = v4 at *
  generalize v3.heap.size = gy at *
  have Ht := Lib.hid ht; clear ht
  have Hx := Lib.hid hx; clear hx
  have Hy := Lib.hid hy; clear hy
  have HBW := Lib.hid hbw; clear hbw
  refine (C3.out _).mono ?_; rintro e v5 ⟨rfl, hbel⟩
  have ht := Ht.out.below hbel; clear Ht
  have hx := Hx.out.below hbel; clear Hx
  have hy := Hy.out.below hbel; clear Hy
  have hbw := HBW.out.trans (hbel.mono HBW.out.size); clear HBW hbel
  have Ht := Lib.hid ht; clear ht
  have Hx := Lib.hid hx; clear hx
  have Hy := Lib.hid hy; clear hy
  have HBW := Lib.hid hbw; clear hbw
  have lt := Ht.out.lt
  have lx := Hx.out.lt
  have ly := Hy.out.lt
  obtain ⟨ct0, ct1, ct2, ct3, ct4⟩ := Ht.out.cells5
  go_wp2_with fail
  clear lt lx ly ct0 ct1 ct2 ct3 ct4
  have ht := Ht.out.alloc (.cells #[.int .i64 M.d, .int .i64 M.e, .int .i64 M.x, .int .i64 M.y, .int .i64 M.z] 24); clear Ht
  have hx := Hx.out.alloc (.cells #[.int .i64 M.d, .int .i64 M.e, .int .i64 M.x, .int .i64 M.y, .int .i64 M.z] 24); clear Hx
  have hy := Hy.out.alloc (.cells #[.int .i64 M.d, .int .i64 M.e, .int .i64 M.x, .int .i64 M.y, .int .i64 M.z] 24); clear Hy
  have hz := Holds.made v5 M
  have hbw := HBW.out.alloc HBW.out.size (.cells #[.int .i64 M.d, .int .i64 M.e, .int .i64 M.x, .int .i64 M.y, .int .i64 M.z] 24); clear HBW
  generalize v5.alloc (.cells #[.int .i64 M.d, .int .i64 M.e, .int .i64 M.x, .int .i64 M.y, .int .i64 M.z] 24) = v6 at *
  generalize v5.heap.size = gz at *
  have Ht := Lib.hid ht; clear ht
  have Hx := Lib.hid hx; clear hx
  have Hy := Lib.hid hy; clear hy
  have Hz := Lib.hid hz; clear hz
  have HBW := Lib.hid hbw; clear hbw
  refine (C4.out _).mono ?_; rintro e v7 ⟨rfl, hbel⟩
  have ht := Ht.out.below hbel; clear Ht
  have hx := Hx.out.below hbel; clear Hx
  have hy := Hy.out.below hbel; clear Hy
  have hz := Hz.out.below hbel; clear Hz
  have hbw := HBW.out.trans (hbel.mono HBW.out.size); clear HBW hbel
  have Ht := Lib.hid ht; clear ht
  have Hx := Lib.hid hx; clear hx
  have Hy := Lib.hid hy; clear hy
  have Hz := Lib.hid hz; clear hz
  have HBW := Lib.hid hbw; clear hbw
  have e1 := HE1.out
  have e2 := HE2.out
  have lt := Ht.out.lt
  have lx := Hx.out.lt
  have ly := Hy.out.lt
  have lz := Hz.out.lt
  obtain ⟨ct0, ct1, ct2, ct3, ct4⟩ := Ht.out.cells5
  obtain ⟨cx0, cx1, cx2, cx3, cx4⟩ := Hx.out.cells5
  obtain ⟨cy0, cy1, cy2, cy3, cy4⟩ := Hy.out.cells5
  obtain ⟨cz0, cz1, cz2, cz3, cz4⟩ := Hz.out.cells5
  go_wp2_with fail
  clear lt lx ly lz ct0 ct1 ct2 ct3 ct4 cx0 cx1 cx2 cx3 cx4 cy0 cy1 cy2 cy3 cy4 cz0 cz1 cz2 cz3 cz4
  have ht := Ht.out.alloc (.cells #[.int .i64 M.d, .int .i64 M.e, .int .i64 M.x, .int .i64 M.y, .int .i64 M.z] 24); clear Ht
  have hx := Hx.out.alloc (.cells #[.int .i64 M.d, .int .i64 M.e, .int .i64 M.x, .int .i64 M.y, .int .i64 M.z] 24); clear Hx
  have hy := Hy.out.alloc (.cells #[.int .i64 M.d, .int .i64 M.e, .int .i64 M.x, .int .i64 M.y, .int .i64 M.z] 24); clear Hy
  have hz := Hz.out.alloc (.cells #[.int .i64 M.d, .int .i64 M.e, .int .i64 M.x, .int .i64 M.y, .int .i64 M.z] 24); clear Hz
  have hu := Holds.made v7 M
  have hbw := HBW.out.alloc HBW.out.size (.cells #[.int .i64 M.d, .int .i64 M.e, .int .i64 M.x, .int .i64 M.y, .int .i64 M.z] 24); clear HBW
  generalize v7.alloc (.cells #[.int .i64 M.d, .int .i64 M.e, .int .i64 M.x, .int .i64 M.y, .int .i64 M.z] 24) = v8 at *
  generalize v7.heap.size = gu at *
  have Ht := Lib.hid ht; clear ht
  have Hx := Lib.hid hx; clear hx
  have Hy := Lib.hid hy; clear hy
  have Hz := Lib.hid hz; clear hz
  have Hu := Lib.hid hu; clear hu
  have HBW := Lib.hid hbw; clear hbw
  refine (C5.out _).mono ?_; rintro e v9 ⟨rfl, hbel⟩
  have ht := Ht.out.below hbel; clear Ht
  have hx := Hx.out.below hbel; clear Hx
  have hy := Hy.out.below hbel; clear Hy
  have hz := Hz.out.below hbel; clear Hz
  have hu := Hu.out.below hbel; clear Hu
  have hbw := HBW.out.trans (hbel.mono HBW.out.size); clear HBW hbel
  have Ht := Lib.hid ht; clear ht
  have Hx := Lib.hid hx; clear hx
  have Hy := Lib.hid hy; clear hy
  have Hz := Lib.hid hz; clear hz
  have Hu := Lib.hid hu; clear hu
  have HBW := Lib.hid hbw; clear hbw
  clear e1 e2
  have lt := Ht.out.lt
  have lx := Hx.out.lt
  have ly := Hy.out.lt
  have lz := Hz.out.lt
  have lu := Hu.out.lt
  obtain ⟨ct0, ct1, ct2, ct3, ct4⟩ := Ht.out.cells5
  go_wp2_with fail
  clear lt lx ly lz lu ct0 ct1 ct2 ct3 ct4
  have ht := Ht.out.alloc (.cells #[.int .i64 N.d, .int .i64 N.e, .int .i64 N.x, .int .i64 N.y, .int .i64 N.z] 24); clear Ht
  have hx := Hx.out.alloc (.cells #[.int .i64 N.d, .int .i64 N.e, .int .i64 N.x, .int .i64 N.y, .int .i64 N.z] 24); clear Hx
  have hy := Hy.out.alloc (.cells #[.int .i64 N.d, .int .i64 N.e, .int .i64 N.x, .int .i64 N.y, .int .i64 N.z] 24); clear Hy
  have hz := Hz.out.alloc (.cells #[.int .i64 N.d, .int .i64 N.e, .int .i64 N.x, .int .i64 N.y, .int .i64 N.z] 24); clear Hz
  have hu := Hu.out.alloc (.cells #[.int .i64 N.d, .int .i64 N.e, .int .i64 N.x, .int .i64 N.y, .int .i64 N.z] 24); clear Hu
  have hs := Holds.made v9 N
  have hbw := HBW.out.alloc HBW.out.size (.cells #[.int .i64 N.d, .int .i64 N.e, .int .i64 N.x, .int .i64 N.y, .int .i64 N.z] 24); clear HBW
  generalize v9.alloc (.cells #[.int .i64 N.d, .int .i64 N.e, .int .i64 N.x, .int .i64 N.y, .int .i64 N.z] 24) = v10 at *
  generalize v9.heap.size = gs at *
  have Ht := Lib.hid ht; clear ht
  have Hx := Lib.hid hx; clear hx
  have Hy := Lib.hid hy; clear hy
  have Hz := Lib.hid hz; clear hz
  have Hu := Lib.hid hu; clear hu
  have Hs := Lib.hid hs; clear hs
  have HBW := Lib.hid hbw; clear hbw
  refine (C6.out _).mono ?_; rintro e v11 ⟨rfl, hbel⟩
  have ht := Ht.out.below hbel; clear Ht
  have hx := Hx.out.below hbel; clear Hx
  have hy := Hy.out.below hbel; clear Hy
  have hz := Hz.out.below hbel; clear Hz
  have hu := Hu.out.below hbel; clear Hu
  have hs := Hs.out.below hbel; clear Hs
  have hbw := HBW.out.trans (hbel.mono HBW.out.size); clear HBW hbel
  have Ht := Lib.hid ht; clear ht
  have Hx := Lib.hid hx; clear hx
  have Hy := Lib.hid hy; clear hy
  have Hz := Lib.hid hz; clear hz
  have Hu := Lib.hid hu; clear hu
  have Hs := Lib.hid hs; clear hs
  have HBW := Lib.hid hbw; clear hbw
  have lt := Ht.out.lt
  have lx := Hx.out.lt
  have ly := Hy.out.lt
  have lz := Hz.out.lt
  have lu := Hu.out.lt
  have ls := Hs.out.lt
  obtain ⟨ct0, ct1, ct2, ct3, ct4⟩ := Ht.out.cells5
  go_wp2_with fail
  clear lt lx ly lz lu ls ct0 ct1 ct2 ct3 ct4
  have ht := Ht.out.alloc (.cells #[.int .i64 N.d, .int .i64 N.e, .int .i64 N.x, .int .i64 N.y, .int .i64 N.z] 24); clear Ht
  have hx := Hx.out.alloc (.cells #[.int .i64 N.d, .int .i64 N.e, .int .i64 N.x, .int .i64 N.y, .int .i64 N.z] 24); clear Hx
  have hy := Hy.out.alloc (.cells #[.int .i64 N.d, .int .i64 N.e, .int .i64 N.x, .int .i64 N.y, .int .i64 N.z] 24); clear Hy
  have hz := Hz.out.alloc (.cells #[.int .i64 N.d, .int .i64 N.e, .int .i64 N.x, .int .i64 N.y, .int .i64 N.z] 24); clear Hz
  have hu := Hu.out.alloc (.cells #[.int .i64 N.d, .int .i64 N.e, .int .i64 N.x, .int .i64 N.y, .int .i64 N.z] 24); clear Hu
  have hs := Hs.out.alloc (.cells #[.int .i64 N.d, .int .i64 N.e, .int .i64 N.x, .int .i64 N.y, .int .i64 N.z] 24); clear Hs
  have hr := Holds.made v11 N
  have hbw := HBW.out.alloc HBW.out.size (.cells #[.int .i64 N.d, .int .i64 N.e, .int .i64 N.x, .int .i64 N.y, .int .i64 N.z] 24); clear HBW
  generalize v11.alloc (.cells #[.int .i64 N.d, .int .i64 N.e, .int .i64 N.x, .int .i64 N.y, .int .i64 N.z] 24) = v12 at *
  generalize v11.heap.size = gr at *
  have Ht := Lib.hid ht; clear ht
  have Hx := Lib.hid hx; clear hx
  have Hy := Lib.hid hy; clear hy
  have Hz := Lib.hid hz; clear hz
  have Hu := Lib.hid hu; clear hu
  have Hs := Lib.hid hs; clear hs
  have Hr := Lib.hid hr; clear hr
  have HBW := Lib.hid hbw; clear hbw
  refine (C7.out _).mono ?_; rintro e v13 ⟨rfl, hbel⟩
  have ht := Ht.out.below hbel; clear Ht
  have hx := Hx.out.below hbel; clear Hx
  have hy := Hy.out.below hbel; clear Hy
  have hz := Hz.out.below hbel; clear Hz
  have hu := Hu.out.below hbel; clear Hu
  have hs := Hs.out.below hbel; clear Hs
  have hr := Hr.out.below hbel; clear Hr
  have hbw := HBW.out.trans (hbel.mono HBW.out.size); clear HBW hbel
  have Ht := Lib.hid ht; clear ht
  have Hx := Lib.hid hx; clear hx
  have Hy := Lib.hid hy; clear hy
  have Hz := Lib.hid hz; clear hz
  have Hu := Lib.hid hu; clear hu
  have Hs := Lib.hid hs; clear hs
  have Hr := Lib.hid hr; clear hr
  have HBW := Lib.hid hbw; clear hbw
  have lt := Ht.out.lt
  have lx := Hx.out.lt
  have ly := Hy.out.lt
  have lz := Hz.out.lt
  have lu := Hu.out.lt
  have ls := Hs.out.lt
  have lr := Hr.out.lt
  obtain ⟨ct0, ct1, ct2, ct3, ct4⟩ := Ht.out.cells5
  go_wp2_with fail
  clear lt lx ly lz lu ls lr ct0 ct1 ct2 ct3 ct4
  refine (C8.out _).mono ?_; rintro e v14 ⟨rfl, hbel⟩
  have ht := Ht.out.below hbel; clear Ht
  have hx := Hx.out.below hbel; clear Hx
  have hy := Hy.out.below hbel; clear Hy
  have hz := Hz.out.below hbel; clear Hz
  have hu := Hu.out.below hbel; clear Hu
  have hs := Hs.out.below hbel; clear Hs
  have hr := Hr.out.below hbel; clear Hr
  have hbw := HBW.out.trans (hbel.mono HBW.out.size); clear HBW hbel
  have Ht := Lib.hid ht; clear ht
  have Hx := Lib.hid hx; clear hx
  have Hy := Lib.hid hy; clear hy
  have Hz := Lib.hid hz; clear hz
  have Hu := Lib.hid hu; clear hu
  have Hs := Lib.hid hs; clear hs
  have Hr := Lib.hid hr; clear hr
  have HBW := Lib.hid hbw; clear hbw
  have k1 := conv_in (w := v14) (A := none) bytes_nil 0
  generalize strOf [] = s at *
  have K1 := Lib.hid k1; clear k1
  have lt := Ht.out.lt
  have lx := Hx.out.lt
  have ly := Hy.out.lt
  have lz := Hz.out.lt
  have lu := Hu.out.lt
  have ls := Hs.out.lt
  have lr := Hr.out.lt
  go_wp2_with fail
  clear lt lx ly lz lu ls lr
  refine wp_region_below (by kernel_rfl) (by kernel_rfl) ?_
  repeat (refine wpQuiet_step (fun K hK => ?_); (first
    | ((first
      | (refine q_load (p := .pointer (some ⟨w.heap.size, 0, none⟩)) 24 _ rfl rfl rfl (load_t Ht.out) ?_)
      | (refine q_load (p := .pointer (some ⟨gs, 0, none⟩)) 24 _ rfl rfl rfl (load_t Hs.out) ?_)
      | (refine q_load (p := .pointer (some ⟨gr, 0, none⟩)) 24 _ rfl rfl rfl (load_t Hr.out) ?_)
      | (refine q_bin _ _ _ _ _ rfl rfl rfl rfl (eqt_self _ _ _) ?_)
      | (refine q_bin _ _ _ _ _ rfl rfl rfl rfl (eqb_self _ _ _) ?_)
      | (refine q_bin _ _ _ _ _ rfl rfl rfl rfl (eqe_self _ _ _) ?_)
      | (refine q_bin _ _ _ _ _ rfl rfl rfl rfl (eqs_self _ _ _) ?_)
      | (refine q_conv 27 9 _ rfl rfl rfl K1.out ?_)); go_simp; (with_reducible refine hK _ ?_))
    | (go_simp; (first
      | (with_reducible refine hK _ ?_)
      | (with_reducible refine ⟨_, fun _ _ => rfl, hK _ ?_⟩)
      | (with_reducible refine ⟨_, fun _ hb => (C9.out _).mono fun _ _ h => ⟨h.1, hb.trans (h.2.mono (by simpa using hb.size))⟩, hK _ ?_⟩)
      | (with_reducible refine ⟨_, fun _ hb => (C10.out _).mono fun _ _ h => ⟨h.1, hb.trans (h.2.mono (by simpa using hb.size))⟩, hK _ ?_⟩)
      | (with_reducible refine ⟨_, fun _ hb => (C11.out _).mono fun _ _ h => ⟨h.1, hb.trans (h.2.mono (by simpa using hb.size))⟩, hK _ ?_⟩)))); clear hK K)
  refine wpQuiet_nil ?_
  intro v15 hbel
  have ht := Ht.out.below hbel; clear Ht
  have hx := Hx.out.below hbel; clear Hx
  have hy := Hy.out.below hbel; clear Hy
  have hz := Hz.out.below hbel; clear Hz
  have hu := Hu.out.below hbel; clear Hu
  have hs := Hs.out.below hbel; clear Hs
  have hr := Hr.out.below hbel; clear Hr
  have hbw := HBW.out.trans (hbel.mono HBW.out.size); clear HBW hbel
  have Ht := Lib.hid ht; clear ht
  have Hx := Lib.hid hx; clear hx
  have Hy := Lib.hid hy; clear hy
  have Hz := Lib.hid hz; clear hz
  have Hu := Lib.hid hu; clear hu
  have Hs := Lib.hid hs; clear hs
  have Hr := Lib.hid hr; clear hr
  have HBW := Lib.hid hbw; clear hbw
  go_wp2_with fail
  go_ret
  exact ⟨rfl, HBW.out⟩
theorem walk (t : St) (w : World) : Calls Try.prog 3 #[t.val] w fun e w' => e = .returned (.bool true) ∧ Below w.heap.size w w' := by
  by_cases h : t.R
  · exact walk_yes t w h
  · exact walk_no t w h

set_option maxRecDepth 100000 in
theorem lifted (os : Os) (started : os.Started) (H : Type) (enc : TypeId × Value → H) :
    ReturnsInHanded {} Try.checked os 3 .any (Rows.stampRightSpec.pre6 enc Try.prog Try.f3 Rows.stampRightRow.domain false) (Rows.stampRightSpec.post enc Try.prog Try.f3 false true false false) := by
  refine returnsInHanded_of_change_sized (C := Try.checked) ownKnob_none started (by kernel_rfl) Try.func3
    (ChangeSpec.witness6 (enc := enc) (C := Try.checked) false ⟨#[], #[.agg #[.int .i64 0, .int .i64 0, .int .i64 0, .int .i64 0, .int .i64 0]], []⟩ 8 (by kernel_rfl) (by kernel_rfl) (by kernel_rfl) (by kernel_rfl)) ?_
  intro W base args ds gs before hval0 hW hcnd hsz0 _
  have hval : ∀ (j : Nat) t v, Try.f3.params[j]? = some t → args[j]? = some v → Value.okWide Try.prog W .any base t v := hval0
  have hW' := hW
  obtain ⟨p, q, hA0, hV, rfl, hfz, hnd⟩ := hW
  have hA : DataW.TrodAll enc Try.prog W 0 (fun _ => true) true Try.f3.params.toList args.toList ds p := hA0
  have hsz : (DataW.weightsEach Try.prog (Try.f3.params.toList ++ Rows.stampRightSpec.plain.varTypes Try.prog) (ds ++ gs)).all (· ≤ reachBytes) = true := hsz0
  rw [Try.params3] at hA hval hsz
  obtain ⟨v0, vs0, d0, ds0, p0, q0, hargs, rfl, rfl, h0, r0⟩ := trodAll_cons hA
  obtain ⟨rfl, rfl, rfl⟩ := trodAll_nil r0
  obtain rfl : args = #[v0] := by cases args; simp_all
  obtain ⟨rfl, rfl⟩ := trodVars_none hV
  obtain ⟨t0, rfl⟩ := open_stamp (hval 0 24 v0 rfl rfl) h0
  clear hA0 hval0 hsz0
  refine (walk t0 W).mono fun e W' ⟨he, hg⟩ => ?_
  subst he
  exact ⟨_, rfl, law_post progLaid hW' rfl (by rw [Try.params3]; intro t ht; simp at ht; subst ht; exact ⟨by kernel_rfl, of_decide_eq_true (by kernel_rfl)⟩) rfl Try.underlying4 rfl hg⟩

theorem over : Rows.stampRightRow.holds Try.pinned (OpenSpec.ofChange Rows.stampRightSpec) :=
  OpenClaim.holds_of_wide 3 Try.f3 rfl rfl rfl rfl rfl rfl rfl ⟨rfl, rfl, rfl, rfl, rfl⟩ rfl rfl rfl rfl rfl (by kernel_rfl) Try.func3 (by kernel_rfl)
    (of_decide_eq_true (by kernel_rfl)) (by unfold Func.isWrapper; first | (rw [if_pos (by decide +kernel)]; kernel_rfl) | (rw [if_neg (by decide +kernel)]; exact ⟨rfl, rfl⟩))
    (fun os started H enc _ => lifted os started H enc)

/-- The statement. -/
theorem proved : Rows.StampRightSaid :=
  over
end stampRight
end Go.Proofs.Ytpcnnnfgopilaaa
