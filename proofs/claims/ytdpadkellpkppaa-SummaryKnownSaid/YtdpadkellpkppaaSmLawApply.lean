/- SummaryApply: of any summary it is told whether it is right, and what becomes of any time; the summary of any kind of node is the document's; for all summaries, times, kinds and depths. -/
import Derived.Test.YtdpadkellpkppaaSmC
import Derived.Test.YtdpadkellpkppaaSmB
import Derived.Test.YtdpadkellpkppaaSmWorks
import Derived.Test.YtdpadkellpkppaaStFrame
import Derived.Test.YtdpadkellpkppaaLaw
namespace Go.Proofs.Ytdpadkellpkppaa
open Go.ChangeShapes Go.WideShapes Go.ChangeAt Go.RowKit Go.BigFrame
set_option linter.unusedVariables false
set_option maxRecDepth 100000
namespace summaryApply
def ApV (s : Sm) (t U : St) (B : Bool) (i : Nat) (v : Value) : Prop := match i with
  | 0 => v = .agg #[.int .i64 s.fr, .int .i64 s.to, .int .i64 s.kp, .int .i64 s.ad, .int .i64 s.t0, .int .i64 s.t1, .int .i64 s.t2]
  | 1 => v = .agg #[.int .i64 s.fr, .int .i64 s.to, .int .i64 s.kp, .int .i64 s.ad, .int .i64 s.t0, .int .i64 s.t1, .int .i64 s.t2]
  | 2 => v = .agg #[.int .i64 t.d, .int .i64 t.e, .int .i64 t.x, .int .i64 t.y, .int .i64 t.z]
  | 3 => v = .tuple #[.agg #[.int .i64 U.d, .int .i64 U.e, .int .i64 U.x, .int .i64 U.y, .int .i64 U.z], .bool B]
  | 4 => v = .tuple #[.agg #[.int .i64 U.d, .int .i64 U.e, .int .i64 U.x, .int .i64 U.y, .int .i64 U.z], .bool B]
  | 5 => v = .agg #[.int .i64 U.d, .int .i64 U.e, .int .i64 U.x, .int .i64 U.y, .int .i64 U.z]
  | 6 => v = .bool B
  | 7 => True
  | 8 => v = undef
  | _ => v = .bool B
set_option maxHeartbeats 4000000 in
theorem walk (s : Sm) (t : St) (k d : Int) (w : World) : Calls Try.prog 3 #[s.v, t.val, .int .u8 k, .int .i64 d] w fun e w' => e = .returned (.bool true) ∧ Below w.heap.size w w' := by
  have c1 := fun w => apply_any s t w
  have c2 := fun w => refApply_any s t w
  have c3 := fun w => of_any k d w
  have c4 := fun w => refOf_any k d w
  have c5 := fun w => rightM_any s w
  have c6 := fun w => refRightM_any s w
  have c7 := fun w => works_any w
  generalize s.ap t = U at *
  generalize s.apB t = B at *
  generalize Sm.of_ k d = O at *
  generalize decide (okOf k d) = D at *
  generalize decide s.R = R at *
  have ps := fun w => plain_any s w
  have po := fun w => plain_any O w
  unfold Sm.v St.val at *
  have C1 := Lib.hid c1; have C2 := Lib.hid c2; have C3 := Lib.hid c3; have C4 := Lib.hid c4; have C5 := Lib.hid c5; have C6 := Lib.hid c6; have C7 := Lib.hid c7; have PS := Lib.hid ps; have PO := Lib.hid po; clear c1 c2 c3 c4 c5 c6 c7 ps po
  have hs : HoldsM ((w.alloc (.cells #[.int .i64 s.fr, .int .i64 s.to, .int .i64 s.kp, .int .i64 s.ad, .int .i64 s.t0, .int .i64 s.t1, .int .i64 s.t2] 24)).alloc (.cells #[.int .i64 t.d, .int .i64 t.e, .int .i64 t.x, .int .i64 t.y, .int .i64 t.z] 26)) w.heap.size 24 s := by
    have hq := Row.alloc (Row.made w 24 [.int .i64 s.fr, .int .i64 s.to, .int .i64 s.kp, .int .i64 s.ad, .int .i64 s.t0, .int .i64 s.t1, .int .i64 s.t2]) (.cells #[.int .i64 t.d, .int .i64 t.e, .int .i64 t.x, .int .i64 t.y, .int .i64 t.z] 26)
    exact hq
  have ht : Holds ((w.alloc (.cells #[.int .i64 s.fr, .int .i64 s.to, .int .i64 s.kp, .int .i64 s.ad, .int .i64 s.t0, .int .i64 s.t1, .int .i64 s.t2] 24)).alloc (.cells #[.int .i64 t.d, .int .i64 t.e, .int .i64 t.x, .int .i64 t.y, .int .i64 t.z] 26)) (w.heap.size + 1) t := by
    have hq := Row.made (w.alloc (.cells #[.int .i64 s.fr, .int .i64 s.to, .int .i64 s.kp, .int .i64 s.ad, .int .i64 s.t0, .int .i64 s.t1, .int .i64 s.t2] 24)) 26 [.int .i64 t.d, .int .i64 t.e, .int .i64 t.x, .int .i64 t.y, .int .i64 t.z]
    rw [size_alloc] at hq
    exact hq
  have hbw : Below w.heap.size w ((w.alloc (.cells #[.int .i64 s.fr, .int .i64 s.to, .int .i64 s.kp, .int .i64 s.ad, .int .i64 s.t0, .int .i64 s.t1, .int .i64 s.t2] 24)).alloc (.cells #[.int .i64 t.d, .int .i64 t.e, .int .i64 t.x, .int .i64 t.y, .int .i64 t.z] 26)) := ((Below.refl _ _).alloc (by simp) _).alloc (by simp) _
  have Hs := Lib.hid hs; clear hs
  have Ht := Lib.hid ht; clear ht
  have HBW := Lib.hid hbw; clear hbw
  go_enter Try.func3, Try.ntmps3
  go_wp2_with fail
  generalize (w.alloc (.cells #[.int .i64 s.fr, .int .i64 s.to, .int .i64 s.kp, .int .i64 s.ad, .int .i64 s.t0, .int .i64 s.t1, .int .i64 s.t2] 24)).alloc (.cells #[.int .i64 t.d, .int .i64 t.e, .int .i64 t.x, .int .i64 t.y, .int .i64 t.z] 26) = w0 at *
  have ls := Hs.out.lt
  have lt := Ht.out.lt
  obtain ⟨cs0, cs1, cs2, cs3, cs4, cs5, cs6⟩ := Hs.out.cells7
  obtain ⟨ct0, ct1, ct2, ct3, ct4⟩ := Ht.out.c5
  go_wp2_with fail
  clear ls lt cs0 cs1 cs2 cs3 cs4 cs5 cs6 ct0 ct1 ct2 ct3 ct4
  refine (C1.out _).mono ?_; rintro e v1 ⟨rfl, hbel⟩
  dsimp only
  have hs := Hs.out.below hbel; clear Hs
  have ht := Ht.out.below hbel; clear Ht
  have hbw := HBW.out.trans (hbel.mono HBW.out.size); clear HBW hbel
  have Hs := Lib.hid hs; clear hs
  have Ht := Lib.hid ht; clear ht
  have HBW := Lib.hid hbw; clear hbw
  have ls := Hs.out.lt
  have lt := Ht.out.lt
  go_wp2_with fail
  clear ls lt
  have hs := Hs.out.alloc (.cells #[.int .i64 U.d, .int .i64 U.e, .int .i64 U.x, .int .i64 U.y, .int .i64 U.z] 26); clear Hs
  have ht := Ht.out.alloc (.cells #[.int .i64 U.d, .int .i64 U.e, .int .i64 U.x, .int .i64 U.y, .int .i64 U.z] 26); clear Ht
  have hu : Holds (v1.alloc (.cells #[.int .i64 U.d, .int .i64 U.e, .int .i64 U.x, .int .i64 U.y, .int .i64 U.z] 26)) v1.heap.size U := Row.made v1 _ _
  have hbw := HBW.out.alloc HBW.out.size (.cells #[.int .i64 U.d, .int .i64 U.e, .int .i64 U.x, .int .i64 U.y, .int .i64 U.z] 26); clear HBW
  generalize v1.alloc (.cells #[.int .i64 U.d, .int .i64 U.e, .int .i64 U.x, .int .i64 U.y, .int .i64 U.z] 26) = v2 at *
  generalize v1.heap.size = gu at *
  have Hs := Lib.hid hs; clear hs
  have Ht := Lib.hid ht; clear ht
  have Hu := Lib.hid hu; clear hu
  have HBW := Lib.hid hbw; clear hbw
  refine Free.wp_key (by kernel_rfl) (by kernel_rfl) (PutF v2 7 8 26 [.int .i64 0, .int .i64 0, .int .i64 0, .int .i64 0, .int .i64 0] [.int .i64 U.d, .int .i64 U.e, .int .i64 U.x, .int .i64 U.y, .int .i64 U.z]) (ApV s t U B) (fun vs => PutF.start 10 (by decide) (by decide) _ _ _ _ vs) ?_ ?_
  · intro i o hi bz vs az wa hold hpre hbi hF
    match i with
    | 0 =>
      cases hi
      exact Free.c_all rfl (Free.g_load _ _ rfl ((hold 4 (by decide)).trans rfl) (load_m Hs.out wa hF.1) ⟨rfl, hF.keep (Below.refl _ _) (by decide) (by decide)⟩)
    | 1 =>
      cases hi
      have h0 : az.eval (.tmp 24) = .agg #[.int .i64 s.fr, .int .i64 s.to, .int .i64 s.kp, .int .i64 s.ad, .int .i64 s.t0, .int .i64 s.t1, .int .i64 s.t2] := (hpre 0 _ _ (by kernel_rfl) rfl rfl).2.2
      refine Free.c_all rfl (Free.g_call _ _ rfl Try.func13 (by kernel_rfl) rfl [.agg #[.int .i64 s.fr, .int .i64 s.to, .int .i64 s.kp, .int .i64 s.ad, .int .i64 s.t0, .int .i64 s.t1, .int .i64 s.t2]] (by show [az.eval (.tmp 24)] = _; rw [h0]) ?_)
      exact ((fun wa _ => PS.out wa) wa hF.1).mono fun e w2 ⟨he, hb2⟩ => ⟨_, he, rfl, hF.keep hb2 (by decide) (by decide)⟩
    | 2 =>
      cases hi
      exact Free.c_all rfl (Free.g_load _ _ rfl ((hold 5 (by decide)).trans rfl) (load_t Ht.out wa hF.1) ⟨rfl, hF.keep (Below.refl _ _) (by decide) (by decide)⟩)
    | 3 =>
      cases hi
      have h0 : az.eval (.tmp 25) = .agg #[.int .i64 s.fr, .int .i64 s.to, .int .i64 s.kp, .int .i64 s.ad, .int .i64 s.t0, .int .i64 s.t1, .int .i64 s.t2] := (hpre 1 _ _ (by kernel_rfl) rfl rfl).2.2
      have h1 : az.eval (.tmp 26) = .agg #[.int .i64 t.d, .int .i64 t.e, .int .i64 t.x, .int .i64 t.y, .int .i64 t.z] := (hpre 2 _ _ (by kernel_rfl) rfl rfl).2.2
      refine Free.c_all rfl (Free.g_call _ _ rfl Try.func12 (by kernel_rfl) rfl [.agg #[.int .i64 s.fr, .int .i64 s.to, .int .i64 s.kp, .int .i64 s.ad, .int .i64 s.t0, .int .i64 s.t1, .int .i64 s.t2], .agg #[.int .i64 t.d, .int .i64 t.e, .int .i64 t.x, .int .i64 t.y, .int .i64 t.z]] (by show [az.eval (.tmp 25), az.eval (.tmp 26)] = _; rw [h0, h1]) ?_)
      exact ((fun wa _ => C2.out wa) wa hF.1).mono fun e w2 ⟨he, hb2⟩ => ⟨_, he, rfl, hF.keep hb2 (by decide) (by decide)⟩
    | 4 =>
      cases hi
      have h0 : az.eval (.tmp 27) = .tuple #[.agg #[.int .i64 U.d, .int .i64 U.e, .int .i64 U.x, .int .i64 U.y, .int .i64 U.z], .bool B] := (hpre 3 _ _ (by kernel_rfl) rfl rfl).2.2
      exact Free.c_all rfl (Free.g_move _ rfl ⟨h0, hF.keep (Below.refl _ _) (by decide) (by decide)⟩)
    | 5 =>
      cases hi
      have h0 : az.eval (.tmp 23) = .tuple #[.agg #[.int .i64 U.d, .int .i64 U.e, .int .i64 U.x, .int .i64 U.y, .int .i64 U.z], .bool B] := (hpre 4 _ _ (by kernel_rfl) rfl rfl).2.2
      refine Free.c_all rfl ?_
      unfold execOp
      simp only [h0]
      go_simp
      exact ⟨rfl, hF.keep (Below.refl _ _) (by decide) (by decide)⟩
    | 6 =>
      cases hi
      have h0 : az.eval (.tmp 23) = .tuple #[.agg #[.int .i64 U.d, .int .i64 U.e, .int .i64 U.x, .int .i64 U.y, .int .i64 U.z], .bool B] := (hpre 4 _ _ (by kernel_rfl) rfl rfl).2.2
      refine Free.c_all rfl ?_
      unfold execOp
      simp only [h0]
      go_simp
      exact ⟨rfl, hF.keep (Below.refl _ _) (by decide) (by decide)⟩
    | 7 =>
      cases hi
      refine Free.c_all rfl ?_
      unfold execOp
      go_simp
      exact ⟨trivial, hF.alloc (by decide) hbi⟩
    | 8 =>
      cases hi
      have hq := id (hpre (7) _ _ (by kernel_rfl) rfl rfl)
      have hx : az.eval (.tmp 28) = .agg #[.int .i64 U.d, .int .i64 U.e, .int .i64 U.x, .int .i64 U.y, .int .i64 U.z] := (hpre 5 _ _ (by kernel_rfl) rfl rfl).2.2
      obtain ⟨blk, hblk, hle, hrow⟩ := hF.row hq.1 hbi
      have hp : az.eval (.tmp 11) = .pointer (some ⟨blk, 0, none⟩) := hq.2.1.trans hblk
      have hc0 := hrow.cell 0; have hf0 := hrow.free 0
      have hc1 := hrow.cell 1; have hf1 := hrow.free 1
      have hc2 := hrow.cell 2; have hf2 := hrow.free 2
      have hc3 := hrow.cell 3; have hf3 := hrow.free 3
      have hc4 := hrow.cell 4; have hf4 := hrow.free 4
      simp only [List.getElem?_cons_succ, List.getElem?_cons_zero] at hc0 hc1 hc2 hc3 hc4
      refine Free.c_all rfl ?_
      unfold execOp
      simp only [hp, hx]
      go_simp
      exact ⟨rfl, hF.store (by decide) hq.1 hblk hle (row_set5' hrow) ((((((hF.1.setCell hle _).setCell hle _).setCell hle _).setCell hle _).setCell hle _))⟩
    | 9 =>
      cases hi
      have h0 : az.eval (.tmp 29) = .bool B := (hpre 6 _ _ (by kernel_rfl) rfl rfl).2.2
      exact Free.c_all rfl (Free.g_assign _ rfl ⟨h0, hF.keep (Below.refl _ _) (by decide) (by decide)⟩)
    | _ + 10 => cases hi
  · intro vs we hv hF
    obtain ⟨hbE, blk, hblk, hle, hrowE⟩ := hF.done
    clear hF
    have e9 : vs 9 = .bool B := hv 9 (by simp) (by rintro o ⟨⟩; rfl)
    clear hv
    simp only [Free.puts, Nat.reduceAdd, hblk, e9]
    clear e9
    clear hblk
    generalize vs 0 = y0
    generalize vs 1 = y1
    generalize vs 2 = y2
    generalize vs 3 = y3
    generalize vs 4 = y4
    generalize vs 5 = y5
    generalize vs 6 = y6
    generalize vs 8 = y8
    clear vs
    go_simp
    have hs := Hs.out.below hbE; clear Hs
    have ht := Ht.out.below hbE; clear Ht
    have hu := Hu.out.below hbE; clear Hu
    have hbw := HBW.out.trans (hbE.mono HBW.out.size); clear HBW hbE hle
    have hv : Holds we blk U := hrowE; clear hrowE
    generalize we = v3 at *
    generalize blk = gv at *
    have Hs := Lib.hid hs; clear hs
    have Ht := Lib.hid ht; clear ht
    have Hu := Lib.hid hu; clear hu
    have Hv := Lib.hid hv; clear hv
    have HBW := Lib.hid hbw; clear hbw
    have ls := Hs.out.lt
    have lt := Ht.out.lt
    have lu := Hu.out.lt
    have lv := Hv.out.lt
    go_wp2_with fail
    clear ls lt lu lv
    refine (C3.out _).mono ?_; rintro e v4 ⟨rfl, hbel⟩
    dsimp only
    have hs := Hs.out.below hbel; clear Hs
    have ht := Ht.out.below hbel; clear Ht
    have hu := Hu.out.below hbel; clear Hu
    have hv := Hv.out.below hbel; clear Hv
    have hbw := HBW.out.trans (hbel.mono HBW.out.size); clear HBW hbel
    have Hs := Lib.hid hs; clear hs
    have Ht := Lib.hid ht; clear ht
    have Hu := Lib.hid hu; clear hu
    have Hv := Lib.hid hv; clear hv
    have HBW := Lib.hid hbw; clear hbw
    have ls := Hs.out.lt
    have lt := Ht.out.lt
    have lu := Hu.out.lt
    have lv := Hv.out.lt
    go_wp2_with fail
    clear ls lt lu lv
    have hs := Hs.out.alloc (.cells #[.int .i64 O.fr, .int .i64 O.to, .int .i64 O.kp, .int .i64 O.ad, .int .i64 O.t0, .int .i64 O.t1, .int .i64 O.t2] 24); clear Hs
    have ht := Ht.out.alloc (.cells #[.int .i64 O.fr, .int .i64 O.to, .int .i64 O.kp, .int .i64 O.ad, .int .i64 O.t0, .int .i64 O.t1, .int .i64 O.t2] 24); clear Ht
    have hu := Hu.out.alloc (.cells #[.int .i64 O.fr, .int .i64 O.to, .int .i64 O.kp, .int .i64 O.ad, .int .i64 O.t0, .int .i64 O.t1, .int .i64 O.t2] 24); clear Hu
    have hv := Hv.out.alloc (.cells #[.int .i64 O.fr, .int .i64 O.to, .int .i64 O.kp, .int .i64 O.ad, .int .i64 O.t0, .int .i64 O.t1, .int .i64 O.t2] 24); clear Hv
    have hc : HoldsM (v4.alloc (.cells #[.int .i64 O.fr, .int .i64 O.to, .int .i64 O.kp, .int .i64 O.ad, .int .i64 O.t0, .int .i64 O.t1, .int .i64 O.t2] 24)) v4.heap.size 24 O := Row.made v4 _ _
    have hbw := HBW.out.alloc HBW.out.size (.cells #[.int .i64 O.fr, .int .i64 O.to, .int .i64 O.kp, .int .i64 O.ad, .int .i64 O.t0, .int .i64 O.t1, .int .i64 O.t2] 24); clear HBW
    generalize v4.alloc (.cells #[.int .i64 O.fr, .int .i64 O.to, .int .i64 O.kp, .int .i64 O.ad, .int .i64 O.t0, .int .i64 O.t1, .int .i64 O.t2] 24) = v5 at *
    generalize v4.heap.size = gc at *
    have Hs := Lib.hid hs; clear hs
    have Ht := Lib.hid ht; clear ht
    have Hu := Lib.hid hu; clear hu
    have Hv := Lib.hid hv; clear hv
    have Hc := Lib.hid hc; clear hc
    have HBW := Lib.hid hbw; clear hbw
    refine (C4.out _).mono ?_; rintro e v6 ⟨rfl, hbel⟩
    dsimp only
    have hs := Hs.out.below hbel; clear Hs
    have ht := Ht.out.below hbel; clear Ht
    have hu := Hu.out.below hbel; clear Hu
    have hv := Hv.out.below hbel; clear Hv
    have hc := Hc.out.below hbel; clear Hc
    have hbw := HBW.out.trans (hbel.mono HBW.out.size); clear HBW hbel
    have Hs := Lib.hid hs; clear hs
    have Ht := Lib.hid ht; clear ht
    have Hu := Lib.hid hu; clear hu
    have Hv := Lib.hid hv; clear hv
    have Hc := Lib.hid hc; clear hc
    have HBW := Lib.hid hbw; clear hbw
    have ls := Hs.out.lt
    have lt := Ht.out.lt
    have lu := Hu.out.lt
    have lv := Hv.out.lt
    have lc := Hc.out.lt
    go_wp2_with fail
    clear ls lt lu lv lc
    have hs := Hs.out.alloc (.cells #[.int .i64 O.fr, .int .i64 O.to, .int .i64 O.kp, .int .i64 O.ad, .int .i64 O.t0, .int .i64 O.t1, .int .i64 O.t2] 30); clear Hs
    have ht := Ht.out.alloc (.cells #[.int .i64 O.fr, .int .i64 O.to, .int .i64 O.kp, .int .i64 O.ad, .int .i64 O.t0, .int .i64 O.t1, .int .i64 O.t2] 30); clear Ht
    have hu := Hu.out.alloc (.cells #[.int .i64 O.fr, .int .i64 O.to, .int .i64 O.kp, .int .i64 O.ad, .int .i64 O.t0, .int .i64 O.t1, .int .i64 O.t2] 30); clear Hu
    have hv := Hv.out.alloc (.cells #[.int .i64 O.fr, .int .i64 O.to, .int .i64 O.kp, .int .i64 O.ad, .int .i64 O.t0, .int .i64 O.t1, .int .i64 O.t2] 30); clear Hv
    have hc := Hc.out.alloc (.cells #[.int .i64 O.fr, .int .i64 O.to, .int .i64 O.kp, .int .i64 O.ad, .int .i64 O.t0, .int .i64 O.t1, .int .i64 O.t2] 30); clear Hc
    have hd : HoldsM (v6.alloc (.cells #[.int .i64 O.fr, .int .i64 O.to, .int .i64 O.kp, .int .i64 O.ad, .int .i64 O.t0, .int .i64 O.t1, .int .i64 O.t2] 30)) v6.heap.size 30 O := Row.made v6 _ _
    have hbw := HBW.out.alloc HBW.out.size (.cells #[.int .i64 O.fr, .int .i64 O.to, .int .i64 O.kp, .int .i64 O.ad, .int .i64 O.t0, .int .i64 O.t1, .int .i64 O.t2] 30); clear HBW
    generalize v6.alloc (.cells #[.int .i64 O.fr, .int .i64 O.to, .int .i64 O.kp, .int .i64 O.ad, .int .i64 O.t0, .int .i64 O.t1, .int .i64 O.t2] 30) = v7 at *
    generalize v6.heap.size = gd at *
    have Hs := Lib.hid hs; clear hs
    have Ht := Lib.hid ht; clear ht
    have Hu := Lib.hid hu; clear hu
    have Hv := Lib.hid hv; clear hv
    have Hc := Lib.hid hc; clear hc
    have Hd := Lib.hid hd; clear hd
    have HBW := Lib.hid hbw; clear hbw
    refine wp_region_below (by kernel_rfl) (by kernel_rfl) ?_
    refine wpQuiet_step (fun K hK => ?_); refine q_load (p := .pointer (some ⟨gu, 0, none⟩)) 26 _ rfl rfl rfl (load_t Hu.out) ?_; go_simp; (with_reducible refine hK _ ?_); clear hK K
    refine wpQuiet_step (fun K hK => ?_); refine q_load (p := .pointer (some ⟨gv, 0, none⟩)) 26 _ rfl rfl rfl (load_t Hv.out) ?_; go_simp; (with_reducible refine hK _ ?_); clear hK K
    refine wpQuiet_step (fun K hK => ?_); refine q_bin _ _ _ _ _ rfl rfl rfl rfl (eqt_self _ _ U) ?_; go_simp; (with_reducible refine hK _ ?_); clear hK K
    refine wpQuiet_step (fun K hK => ?_); go_simp; (first | (with_reducible refine hK _ ?_) | (with_reducible refine ⟨_, fun _ _ => rfl, hK _ ?_⟩)); clear hK K
    refine wpQuiet_step (fun K hK => ?_); go_simp; (first | (with_reducible refine hK _ ?_) | (with_reducible refine ⟨_, fun _ _ => rfl, hK _ ?_⟩)); clear hK K
    refine wpQuiet_step (fun K hK => ?_); go_simp; (first | (with_reducible refine hK _ ?_) | (with_reducible refine ⟨_, fun _ _ => rfl, hK _ ?_⟩)); clear hK K
    refine wpQuiet_step (fun K hK => ?_); refine q_bin _ _ _ _ _ rfl rfl rfl rfl (eqb_self _ _ B) ?_; go_simp; (with_reducible refine hK _ ?_); clear hK K
    refine wpQuiet_step (fun K hK => ?_); go_simp; (first | (with_reducible refine hK _ ?_) | (with_reducible refine ⟨_, fun _ _ => rfl, hK _ ?_⟩)); clear hK K
    refine wpQuiet_step (fun K hK => ?_); go_simp; (first | (with_reducible refine hK _ ?_) | (with_reducible refine ⟨_, fun _ _ => rfl, hK _ ?_⟩)); clear hK K
    refine wpQuiet_step (fun K hK => ?_); refine q_load (p := .pointer (some ⟨gc, 0, none⟩)) 24 _ rfl rfl rfl (load_m Hc.out) ?_; go_simp; (with_reducible refine hK _ ?_); clear hK K
    refine wpQuiet_step (fun K hK => ?_); go_simp; (with_reducible refine ⟨_, fun _ hb => (PO.out _).mono fun _ _ h => ⟨h.1, hb.trans (h.2.mono (by simpa using hb.size))⟩, hK _ ?_⟩); clear hK K
    refine wpQuiet_step (fun K hK => ?_); refine q_load (p := .pointer (some ⟨gd, 0, none⟩)) 30 _ rfl rfl rfl (load_n Hd.out) ?_; go_simp; (with_reducible refine hK _ ?_); clear hK K
    refine wpQuiet_step (fun K hK => ?_); refine q_bin _ _ _ _ _ rfl rfl rfl rfl (eqsr_same _ _ O) ?_; go_simp; (with_reducible refine hK _ ?_); clear hK K
    refine wpQuiet_step (fun K hK => ?_); go_simp; (first | (with_reducible refine hK _ ?_) | (with_reducible refine ⟨_, fun _ _ => rfl, hK _ ?_⟩)); clear hK K
    refine wpQuiet_step (fun K hK => ?_); go_simp; (first | (with_reducible refine hK _ ?_) | (with_reducible refine ⟨_, fun _ _ => rfl, hK _ ?_⟩)); clear hK K
    refine wpQuiet_step (fun K hK => ?_); go_simp; (first | (with_reducible refine hK _ ?_) | (with_reducible refine ⟨_, fun _ _ => rfl, hK _ ?_⟩)); clear hK K
    refine wpQuiet_step (fun K hK => ?_); go_simp; (first | (with_reducible refine hK _ ?_) | (with_reducible refine ⟨_, fun _ _ => rfl, hK _ ?_⟩)); clear hK K
    refine wpQuiet_step (fun K hK => ?_); refine q_bin _ _ _ _ _ rfl rfl rfl rfl (eqb_self _ _ D) ?_; go_simp; (with_reducible refine hK _ ?_); clear hK K
    refine wpQuiet_step (fun K hK => ?_); go_simp; (first | (with_reducible refine hK _ ?_) | (with_reducible refine ⟨_, fun _ _ => rfl, hK _ ?_⟩)); clear hK K
    refine wpQuiet_step (fun K hK => ?_); go_simp; (first | (with_reducible refine hK _ ?_) | (with_reducible refine ⟨_, fun _ _ => rfl, hK _ ?_⟩)); clear hK K
    refine wpQuiet_step (fun K hK => ?_); refine q_load (p := .pointer (some ⟨w.heap.size, 0, none⟩)) 24 _ rfl rfl rfl (load_m Hs.out) ?_; go_simp; (with_reducible refine hK _ ?_); clear hK K
    refine wpQuiet_step (fun K hK => ?_); go_simp; (with_reducible refine ⟨_, fun _ hb => (C5.out _).mono fun _ _ h => ⟨h.1, hb.trans (h.2.mono (by simpa using hb.size))⟩, hK _ ?_⟩); clear hK K
    refine wpQuiet_step (fun K hK => ?_); refine q_load (p := .pointer (some ⟨w.heap.size, 0, none⟩)) 24 _ rfl rfl rfl (load_m Hs.out) ?_; go_simp; (with_reducible refine hK _ ?_); clear hK K
    refine wpQuiet_step (fun K hK => ?_); go_simp; (with_reducible refine ⟨_, fun _ hb => (PS.out _).mono fun _ _ h => ⟨h.1, hb.trans (h.2.mono (by simpa using hb.size))⟩, hK _ ?_⟩); clear hK K
    refine wpQuiet_step (fun K hK => ?_); go_simp; (with_reducible refine ⟨_, fun _ hb => (C6.out _).mono fun _ _ h => ⟨h.1, hb.trans (h.2.mono (by simpa using hb.size))⟩, hK _ ?_⟩); clear hK K
    refine wpQuiet_step (fun K hK => ?_); refine q_bin _ _ _ _ _ rfl rfl rfl rfl (eqb_self _ _ R) ?_; go_simp; (with_reducible refine hK _ ?_); clear hK K
    refine wpQuiet_step (fun K hK => ?_); go_simp; (first | (with_reducible refine hK _ ?_) | (with_reducible refine ⟨_, fun _ _ => rfl, hK _ ?_⟩)); clear hK K
    refine wpQuiet_step (fun K hK => ?_); go_simp; (first | (with_reducible refine hK _ ?_) | (with_reducible refine ⟨_, fun _ _ => rfl, hK _ ?_⟩)); clear hK K
    refine wpQuiet_step (fun K hK => ?_); go_simp; (with_reducible refine ⟨_, fun _ hb => (C7.out _).mono fun _ _ h => ⟨h.1, hb.trans (h.2.mono (by simpa using hb.size))⟩, hK _ ?_⟩); clear hK K
    refine wpQuiet_step (fun K hK => ?_); go_simp; (first | (with_reducible refine hK _ ?_) | (with_reducible refine ⟨_, fun _ _ => rfl, hK _ ?_⟩)); clear hK K
    refine wpQuiet_step (fun K hK => ?_); go_simp; (first | (with_reducible refine hK _ ?_) | (with_reducible refine ⟨_, fun _ _ => rfl, hK _ ?_⟩)); clear hK K
    refine wpQuiet_nil ?_
    intro v8 hbel
    have hs := Hs.out.below hbel; clear Hs
    have ht := Ht.out.below hbel; clear Ht
    have hu := Hu.out.below hbel; clear Hu
    have hv := Hv.out.below hbel; clear Hv
    have hc := Hc.out.below hbel; clear Hc
    have hd := Hd.out.below hbel; clear Hd
    have hbw := HBW.out.trans (hbel.mono HBW.out.size); clear HBW hbel
    have Hs := Lib.hid hs; clear hs
    have Ht := Lib.hid ht; clear ht
    have Hu := Lib.hid hu; clear hu
    have Hv := Lib.hid hv; clear hv
    have Hc := Lib.hid hc; clear hc
    have Hd := Lib.hid hd; clear hd
    have HBW := Lib.hid hbw; clear hbw
    go_wp2_with fail
    go_ret
    exact ⟨rfl, HBW.out⟩
end summaryApply
end Go.Proofs.Ytdpadkellpkppaa
