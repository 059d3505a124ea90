/- SummaryTwo: of any two summaries it is told what they are one behind the other, and whether one is at or ahead of the other, as the document has it; for all summaries. -/
import Derived.Test.YtdpadkellpkppaaSmThen
import Derived.Test.YtdpadkellpkppaaSmThenR
import Derived.Test.YtdpadkellpkppaaSmD
import Derived.Test.YtdpadkellpkppaaSmWorks
import Derived.Test.YtdpadkellpkppaaStFrame
import Derived.Test.YtdpadkellpkppaaLaw
namespace Go.Proofs.Ytdpadkellpkppaa
open Go.ChangeShapes Go.WideShapes Go.ChangeAt Go.RowKit Go.BigFrame
set_option linter.unusedVariables false
set_option maxRecDepth 100000
namespace summaryTwo
def TwV (a b S : Sm) (B : Bool) (i : Nat) (v : Value) : Prop := match i with
  | 0 => v = .agg #[.int .i64 a.fr, .int .i64 a.to, .int .i64 a.kp, .int .i64 a.ad, .int .i64 a.t0, .int .i64 a.t1, .int .i64 a.t2]
  | 1 => v = .agg #[.int .i64 a.fr, .int .i64 a.to, .int .i64 a.kp, .int .i64 a.ad, .int .i64 a.t0, .int .i64 a.t1, .int .i64 a.t2]
  | 2 => v = .agg #[.int .i64 b.fr, .int .i64 b.to, .int .i64 b.kp, .int .i64 b.ad, .int .i64 b.t0, .int .i64 b.t1, .int .i64 b.t2]
  | 3 => v = .agg #[.int .i64 b.fr, .int .i64 b.to, .int .i64 b.kp, .int .i64 b.ad, .int .i64 b.t0, .int .i64 b.t1, .int .i64 b.t2]
  | 4 => v = .tuple #[.agg #[.int .i64 S.fr, .int .i64 S.to, .int .i64 S.kp, .int .i64 S.ad, .int .i64 S.t0, .int .i64 S.t1, .int .i64 S.t2], .bool B]
  | 5 => v = .tuple #[.agg #[.int .i64 S.fr, .int .i64 S.to, .int .i64 S.kp, .int .i64 S.ad, .int .i64 S.t0, .int .i64 S.t1, .int .i64 S.t2], .bool B]
  | 6 => v = .agg #[.int .i64 S.fr, .int .i64 S.to, .int .i64 S.kp, .int .i64 S.ad, .int .i64 S.t0, .int .i64 S.t1, .int .i64 S.t2]
  | 7 => v = .bool B
  | 8 => True
  | 9 => v = undef
  | _ => v = .bool B
set_option maxHeartbeats 4000000 in
theorem walk (a b : Sm) (w : World) : Calls Try.prog 4 #[a.v, b.v] w fun e w' => e = .returned (.bool true) ∧ Below w.heap.size w w' := by
  have c1 := fun w => then_any a b w
  have c2 := fun w => refThen_any a b w
  have c3 := fun w => leqM_any a b w
  have c4 := fun w => refLeqM_any a b w
  have c5 := fun w => works_any w
  generalize a.th b = S at *
  generalize a.thB b = B at *
  generalize decide (a.L b) = L at *
  have pa := fun w => plain_any a w
  have pb := fun w => plain_any b w
  have ps := fun w => plain_any S w
  unfold Sm.v at *
  have C1 := Lib.hid c1; have C2 := Lib.hid c2; have C3 := Lib.hid c3; have C4 := Lib.hid c4; have C5 := Lib.hid c5; have PA := Lib.hid pa; have PB := Lib.hid pb; have PS := Lib.hid ps; clear c1 c2 c3 c4 c5 pa pb ps
  have ha : HoldsM ((w.alloc (.cells #[.int .i64 a.fr, .int .i64 a.to, .int .i64 a.kp, .int .i64 a.ad, .int .i64 a.t0, .int .i64 a.t1, .int .i64 a.t2] 24)).alloc (.cells #[.int .i64 b.fr, .int .i64 b.to, .int .i64 b.kp, .int .i64 b.ad, .int .i64 b.t0, .int .i64 b.t1, .int .i64 b.t2] 24)) w.heap.size 24 a := by
    have hq := Row.alloc (Row.made w 24 [.int .i64 a.fr, .int .i64 a.to, .int .i64 a.kp, .int .i64 a.ad, .int .i64 a.t0, .int .i64 a.t1, .int .i64 a.t2]) (.cells #[.int .i64 b.fr, .int .i64 b.to, .int .i64 b.kp, .int .i64 b.ad, .int .i64 b.t0, .int .i64 b.t1, .int .i64 b.t2] 24)
    exact hq
  have hb : HoldsM ((w.alloc (.cells #[.int .i64 a.fr, .int .i64 a.to, .int .i64 a.kp, .int .i64 a.ad, .int .i64 a.t0, .int .i64 a.t1, .int .i64 a.t2] 24)).alloc (.cells #[.int .i64 b.fr, .int .i64 b.to, .int .i64 b.kp, .int .i64 b.ad, .int .i64 b.t0, .int .i64 b.t1, .int .i64 b.t2] 24)) (w.heap.size + 1) 24 b := by
    have hq := Row.made (w.alloc (.cells #[.int .i64 a.fr, .int .i64 a.to, .int .i64 a.kp, .int .i64 a.ad, .int .i64 a.t0, .int .i64 a.t1, .int .i64 a.t2] 24)) 24 [.int .i64 b.fr, .int .i64 b.to, .int .i64 b.kp, .int .i64 b.ad, .int .i64 b.t0, .int .i64 b.t1, .int .i64 b.t2]
    rw [size_alloc] at hq
    exact hq
  have hbw : Below w.heap.size w ((w.alloc (.cells #[.int .i64 a.fr, .int .i64 a.to, .int .i64 a.kp, .int .i64 a.ad, .int .i64 a.t0, .int .i64 a.t1, .int .i64 a.t2] 24)).alloc (.cells #[.int .i64 b.fr, .int .i64 b.to, .int .i64 b.kp, .int .i64 b.ad, .int .i64 b.t0, .int .i64 b.t1, .int .i64 b.t2] 24)) := ((Below.refl _ _).alloc (by simp) _).alloc (by simp) _
  have Ha := Lib.hid ha; clear ha
  have Hb := Lib.hid hb; clear hb
  have HBW := Lib.hid hbw; clear hbw
  go_enter Try.func4, Try.ntmps4
  go_wp2_with fail
  generalize (w.alloc (.cells #[.int .i64 a.fr, .int .i64 a.to, .int .i64 a.kp, .int .i64 a.ad, .int .i64 a.t0, .int .i64 a.t1, .int .i64 a.t2] 24)).alloc (.cells #[.int .i64 b.fr, .int .i64 b.to, .int .i64 b.kp, .int .i64 b.ad, .int .i64 b.t0, .int .i64 b.t1, .int .i64 b.t2] 24) = w0 at *
  have la := Ha.out.lt
  have lb := Hb.out.lt
  obtain ⟨ca0, ca1, ca2, ca3, ca4, ca5, ca6⟩ := Ha.out.cells7
  obtain ⟨cb0, cb1, cb2, cb3, cb4, cb5, cb6⟩ := Hb.out.cells7
  go_wp2_with fail
  clear la lb ca0 ca1 ca2 ca3 ca4 ca5 ca6 cb0 cb1 cb2 cb3 cb4 cb5 cb6
  refine (C1.out _).mono ?_; rintro e v1 ⟨rfl, hbel⟩
  dsimp only
  have ha := Ha.out.below hbel; clear Ha
  have hb := Hb.out.below hbel; clear Hb
  have hbw := HBW.out.trans (hbel.mono HBW.out.size); clear HBW hbel
  have Ha := Lib.hid ha; clear ha
  have Hb := Lib.hid hb; clear hb
  have HBW := Lib.hid hbw; clear hbw
  have la := Ha.out.lt
  have lb := Hb.out.lt
  go_wp2_with fail
  clear la lb
  have ha := Ha.out.alloc (.cells #[.int .i64 S.fr, .int .i64 S.to, .int .i64 S.kp, .int .i64 S.ad, .int .i64 S.t0, .int .i64 S.t1, .int .i64 S.t2] 24); clear Ha
  have hb := Hb.out.alloc (.cells #[.int .i64 S.fr, .int .i64 S.to, .int .i64 S.kp, .int .i64 S.ad, .int .i64 S.t0, .int .i64 S.t1, .int .i64 S.t2] 24); clear Hb
  have hs : HoldsM (v1.alloc (.cells #[.int .i64 S.fr, .int .i64 S.to, .int .i64 S.kp, .int .i64 S.ad, .int .i64 S.t0, .int .i64 S.t1, .int .i64 S.t2] 24)) v1.heap.size 24 S := Row.made v1 _ _
  have hbw := HBW.out.alloc HBW.out.size (.cells #[.int .i64 S.fr, .int .i64 S.to, .int .i64 S.kp, .int .i64 S.ad, .int .i64 S.t0, .int .i64 S.t1, .int .i64 S.t2] 24); clear HBW
  generalize v1.alloc (.cells #[.int .i64 S.fr, .int .i64 S.to, .int .i64 S.kp, .int .i64 S.ad, .int .i64 S.t0, .int .i64 S.t1, .int .i64 S.t2] 24) = v2 at *
  generalize v1.heap.size = gs at *
  have Ha := Lib.hid ha; clear ha
  have Hb := Lib.hid hb; clear hb
  have Hs := Lib.hid hs; clear hs
  have HBW := Lib.hid hbw; clear hbw
  refine Free.wp_key (by kernel_rfl) (by kernel_rfl) (PutF v2 8 9 30 [.int .i64 0, .int .i64 0, .int .i64 0, .int .i64 0, .int .i64 0, .int .i64 0, .int .i64 0] [.int .i64 S.fr, .int .i64 S.to, .int .i64 S.kp, .int .i64 S.ad, .int .i64 S.t0, .int .i64 S.t1, .int .i64 S.t2]) (TwV a b S B) (fun vs => PutF.start 11 (by decide) (by decide) _ _ _ _ vs) ?_ ?_
  · intro i o hi bz vs az wa hold hpre hbi hF
    match i with
    | 0 =>
      cases hi
      exact Free.c_all rfl (Free.g_load _ _ rfl ((hold 2 (by decide)).trans rfl) (load_m Ha.out wa hF.1) ⟨rfl, hF.keep (Below.refl _ _) (by decide) (by decide)⟩)
    | 1 =>
      cases hi
      have h0 : az.eval (.tmp 16) = .agg #[.int .i64 a.fr, .int .i64 a.to, .int .i64 a.kp, .int .i64 a.ad, .int .i64 a.t0, .int .i64 a.t1, .int .i64 a.t2] := (hpre 0 _ _ (by kernel_rfl) rfl rfl).2.2
      refine Free.c_all rfl (Free.g_call _ _ rfl Try.func13 (by kernel_rfl) rfl [.agg #[.int .i64 a.fr, .int .i64 a.to, .int .i64 a.kp, .int .i64 a.ad, .int .i64 a.t0, .int .i64 a.t1, .int .i64 a.t2]] (by show [az.eval (.tmp 16)] = _; rw [h0]) ?_)
      exact ((fun wa _ => PA.out wa) wa hF.1).mono fun e w2 ⟨he, hb2⟩ => ⟨_, he, rfl, hF.keep hb2 (by decide) (by decide)⟩
    | 2 =>
      cases hi
      exact Free.c_all rfl (Free.g_load _ _ rfl ((hold 3 (by decide)).trans rfl) (load_m Hb.out wa hF.1) ⟨rfl, hF.keep (Below.refl _ _) (by decide) (by decide)⟩)
    | 3 =>
      cases hi
      have h0 : az.eval (.tmp 18) = .agg #[.int .i64 b.fr, .int .i64 b.to, .int .i64 b.kp, .int .i64 b.ad, .int .i64 b.t0, .int .i64 b.t1, .int .i64 b.t2] := (hpre 2 _ _ (by kernel_rfl) rfl rfl).2.2
      refine Free.c_all rfl (Free.g_call _ _ rfl Try.func13 (by kernel_rfl) rfl [.agg #[.int .i64 b.fr, .int .i64 b.to, .int .i64 b.kp, .int .i64 b.ad, .int .i64 b.t0, .int .i64 b.t1, .int .i64 b.t2]] (by show [az.eval (.tmp 18)] = _; rw [h0]) ?_)
      exact ((fun wa _ => PB.out wa) wa hF.1).mono fun e w2 ⟨he, hb2⟩ => ⟨_, he, rfl, hF.keep hb2 (by decide) (by decide)⟩
    | 4 =>
      cases hi
      have h0 : az.eval (.tmp 17) = .agg #[.int .i64 a.fr, .int .i64 a.to, .int .i64 a.kp, .int .i64 a.ad, .int .i64 a.t0, .int .i64 a.t1, .int .i64 a.t2] := (hpre 1 _ _ (by kernel_rfl) rfl rfl).2.2
      have h1 : az.eval (.tmp 19) = .agg #[.int .i64 b.fr, .int .i64 b.to, .int .i64 b.kp, .int .i64 b.ad, .int .i64 b.t0, .int .i64 b.t1, .int .i64 b.t2] := (hpre 3 _ _ (by kernel_rfl) rfl rfl).2.2
      refine Free.c_all rfl (Free.g_call _ _ rfl Try.func20 (by kernel_rfl) rfl [.agg #[.int .i64 a.fr, .int .i64 a.to, .int .i64 a.kp, .int .i64 a.ad, .int .i64 a.t0, .int .i64 a.t1, .int .i64 a.t2], .agg #[.int .i64 b.fr, .int .i64 b.to, .int .i64 b.kp, .int .i64 b.ad, .int .i64 b.t0, .int .i64 b.t1, .int .i64 b.t2]] (by show [az.eval (.tmp 17), az.eval (.tmp 19)] = _; rw [h0, h1]) ?_)
      exact ((fun wa _ => C2.out wa) wa hF.1).mono fun e w2 ⟨he, hb2⟩ => ⟨_, he, rfl, hF.keep hb2 (by decide) (by decide)⟩
    | 5 =>
      cases hi
      have h0 : az.eval (.tmp 20) = .tuple #[.agg #[.int .i64 S.fr, .int .i64 S.to, .int .i64 S.kp, .int .i64 S.ad, .int .i64 S.t0, .int .i64 S.t1, .int .i64 S.t2], .bool B] := (hpre 4 _ _ (by kernel_rfl) rfl rfl).2.2
      exact Free.c_all rfl (Free.g_move _ rfl ⟨h0, hF.keep (Below.refl _ _) (by decide) (by decide)⟩)
    | 6 =>
      cases hi
      have h0 : az.eval (.tmp 15) = .tuple #[.agg #[.int .i64 S.fr, .int .i64 S.to, .int .i64 S.kp, .int .i64 S.ad, .int .i64 S.t0, .int .i64 S.t1, .int .i64 S.t2], .bool B] := (hpre 5 _ _ (by kernel_rfl) rfl rfl).2.2
      refine Free.c_all rfl ?_
      unfold execOp
      simp only [h0]
      go_simp
      exact ⟨rfl, hF.keep (Below.refl _ _) (by decide) (by decide)⟩
    | 7 =>
      cases hi
      have h0 : az.eval (.tmp 15) = .tuple #[.agg #[.int .i64 S.fr, .int .i64 S.to, .int .i64 S.kp, .int .i64 S.ad, .int .i64 S.t0, .int .i64 S.t1, .int .i64 S.t2], .bool B] := (hpre 5 _ _ (by kernel_rfl) rfl rfl).2.2
      refine Free.c_all rfl ?_
      unfold execOp
      simp only [h0]
      go_simp
      exact ⟨rfl, hF.keep (Below.refl _ _) (by decide) (by decide)⟩
    | 8 =>
      cases hi
      refine Free.c_all rfl ?_
      unfold execOp
      go_simp
      exact ⟨trivial, hF.alloc (by decide) hbi⟩
    | 9 =>
      cases hi
      have hq := id (hpre (8) _ _ (by kernel_rfl) rfl rfl)
      have hx : az.eval (.tmp 21) = .agg #[.int .i64 S.fr, .int .i64 S.to, .int .i64 S.kp, .int .i64 S.ad, .int .i64 S.t0, .int .i64 S.t1, .int .i64 S.t2] := (hpre 6 _ _ (by kernel_rfl) rfl rfl).2.2
      obtain ⟨blk, hblk, hle, hrow⟩ := hF.row hq.1 hbi
      have hp : az.eval (.tmp 7) = .pointer (some ⟨blk, 0, none⟩) := hq.2.1.trans hblk
      have hc0 := hrow.cell 0; have hf0 := hrow.free 0
      have hc1 := hrow.cell 1; have hf1 := hrow.free 1
      have hc2 := hrow.cell 2; have hf2 := hrow.free 2
      have hc3 := hrow.cell 3; have hf3 := hrow.free 3
      have hc4 := hrow.cell 4; have hf4 := hrow.free 4
      have hc5 := hrow.cell 5; have hf5 := hrow.free 5
      have hc6 := hrow.cell 6; have hf6 := hrow.free 6
      simp only [List.getElem?_cons_succ, List.getElem?_cons_zero] at hc0 hc1 hc2 hc3 hc4 hc5 hc6
      refine Free.c_all rfl ?_
      unfold execOp
      simp only [hp, hx]
      go_simp
      exact ⟨rfl, hF.store (by decide) hq.1 hblk hle (row_set7 hrow) ((((((((hF.1.setCell hle _).setCell hle _).setCell hle _).setCell hle _).setCell hle _).setCell hle _).setCell hle _))⟩
    | 10 =>
      cases hi
      have h0 : az.eval (.tmp 22) = .bool B := (hpre 7 _ _ (by kernel_rfl) rfl rfl).2.2
      exact Free.c_all rfl (Free.g_assign _ rfl ⟨h0, hF.keep (Below.refl _ _) (by decide) (by decide)⟩)
    | _ + 11 => cases hi
  · intro vs we hv hF
    obtain ⟨hbE, blk, hblk, hle, hrowE⟩ := hF.done
    clear hF
    have e10 : vs 10 = .bool B := hv 10 (by simp) (by rintro o ⟨⟩; rfl)
    clear hv
    simp only [Free.puts, Nat.reduceAdd, hblk, e10]
    clear e10
    clear hblk
    generalize vs 0 = y0
    generalize vs 1 = y1
    generalize vs 2 = y2
    generalize vs 3 = y3
    generalize vs 4 = y4
    generalize vs 5 = y5
    generalize vs 6 = y6
    generalize vs 7 = y7
    generalize vs 9 = y9
    clear vs
    go_simp
    have ha := Ha.out.below hbE; clear Ha
    have hb := Hb.out.below hbE; clear Hb
    have hs := Hs.out.below hbE; clear Hs
    have hbw := HBW.out.trans (hbE.mono HBW.out.size); clear HBW hbE hle
    have ht : HoldsM we blk 30 S := hrowE; clear hrowE
    generalize we = v3 at *
    generalize blk = gt at *
    have Ha := Lib.hid ha; clear ha
    have Hb := Lib.hid hb; clear hb
    have Hs := Lib.hid hs; clear hs
    have Ht := Lib.hid ht; clear ht
    have HBW := Lib.hid hbw; clear hbw
    have la := Ha.out.lt
    have lb := Hb.out.lt
    have ls := Hs.out.lt
    have lt := Ht.out.lt
    go_wp2_with fail
    clear la lb ls lt
    refine wp_region_below (by kernel_rfl) (by kernel_rfl) ?_
    refine wpQuiet_step (fun K hK => ?_); refine q_load (p := .pointer (some ⟨gs, 0, none⟩)) 24 _ rfl rfl rfl (load_m Hs.out) ?_; go_simp; (with_reducible refine hK _ ?_); clear hK K
    refine wpQuiet_step (fun K hK => ?_); go_simp; (with_reducible refine ⟨_, fun _ hb => (PS.out _).mono fun _ _ h => ⟨h.1, hb.trans (h.2.mono (by simpa using hb.size))⟩, hK _ ?_⟩); clear hK K
    refine wpQuiet_step (fun K hK => ?_); refine q_load (p := .pointer (some ⟨gt, 0, none⟩)) 30 _ rfl rfl rfl (load_n Ht.out) ?_; go_simp; (with_reducible refine hK _ ?_); clear hK K
    refine wpQuiet_step (fun K hK => ?_); refine q_bin _ _ _ _ _ rfl rfl rfl rfl (eqsr_same _ _ S) ?_; go_simp; (with_reducible refine hK _ ?_); clear hK K
    refine wpQuiet_step (fun K hK => ?_); go_simp; (first | (with_reducible refine hK _ ?_) | (with_reducible refine ⟨_, fun _ _ => rfl, hK _ ?_⟩)); clear hK K
    refine wpQuiet_step (fun K hK => ?_); go_simp; (first | (with_reducible refine hK _ ?_) | (with_reducible refine ⟨_, fun _ _ => rfl, hK _ ?_⟩)); clear hK K
    refine wpQuiet_step (fun K hK => ?_); go_simp; (first | (with_reducible refine hK _ ?_) | (with_reducible refine ⟨_, fun _ _ => rfl, hK _ ?_⟩)); clear hK K
    refine wpQuiet_step (fun K hK => ?_); refine q_bin _ _ _ _ _ rfl rfl rfl rfl (eqb_self _ _ B) ?_; go_simp; (with_reducible refine hK _ ?_); clear hK K
    refine wpQuiet_step (fun K hK => ?_); go_simp; (first | (with_reducible refine hK _ ?_) | (with_reducible refine ⟨_, fun _ _ => rfl, hK _ ?_⟩)); clear hK K
    refine wpQuiet_step (fun K hK => ?_); go_simp; (first | (with_reducible refine hK _ ?_) | (with_reducible refine ⟨_, fun _ _ => rfl, hK _ ?_⟩)); clear hK K
    refine wpQuiet_step (fun K hK => ?_); refine q_load (p := .pointer (some ⟨w.heap.size, 0, none⟩)) 24 _ rfl rfl rfl (load_m Ha.out) ?_; go_simp; (with_reducible refine hK _ ?_); clear hK K
    refine wpQuiet_step (fun K hK => ?_); refine q_load (p := .pointer (some ⟨(w.heap.size + 1), 0, none⟩)) 24 _ rfl rfl rfl (load_m Hb.out) ?_; go_simp; (with_reducible refine hK _ ?_); clear hK K
    refine wpQuiet_step (fun K hK => ?_); go_simp; (with_reducible refine ⟨_, fun _ hb => (C3.out _).mono fun _ _ h => ⟨h.1, hb.trans (h.2.mono (by simpa using hb.size))⟩, hK _ ?_⟩); clear hK K
    refine wpQuiet_step (fun K hK => ?_); refine q_load (p := .pointer (some ⟨w.heap.size, 0, none⟩)) 24 _ rfl rfl rfl (load_m Ha.out) ?_; go_simp; (with_reducible refine hK _ ?_); clear hK K
    refine wpQuiet_step (fun K hK => ?_); go_simp; (with_reducible refine ⟨_, fun _ hb => (PA.out _).mono fun _ _ h => ⟨h.1, hb.trans (h.2.mono (by simpa using hb.size))⟩, hK _ ?_⟩); clear hK K
    refine wpQuiet_step (fun K hK => ?_); refine q_load (p := .pointer (some ⟨(w.heap.size + 1), 0, none⟩)) 24 _ rfl rfl rfl (load_m Hb.out) ?_; go_simp; (with_reducible refine hK _ ?_); clear hK K
    refine wpQuiet_step (fun K hK => ?_); go_simp; (with_reducible refine ⟨_, fun _ hb => (PB.out _).mono fun _ _ h => ⟨h.1, hb.trans (h.2.mono (by simpa using hb.size))⟩, hK _ ?_⟩); clear hK K
    refine wpQuiet_step (fun K hK => ?_); go_simp; (with_reducible refine ⟨_, fun _ hb => (C4.out _).mono fun _ _ h => ⟨h.1, hb.trans (h.2.mono (by simpa using hb.size))⟩, hK _ ?_⟩); clear hK K
    refine wpQuiet_step (fun K hK => ?_); refine q_bin _ _ _ _ _ rfl rfl rfl rfl (eqb_self _ _ L) ?_; go_simp; (with_reducible refine hK _ ?_); clear hK K
    refine wpQuiet_step (fun K hK => ?_); go_simp; (first | (with_reducible refine hK _ ?_) | (with_reducible refine ⟨_, fun _ _ => rfl, hK _ ?_⟩)); clear hK K
    refine wpQuiet_step (fun K hK => ?_); go_simp; (first | (with_reducible refine hK _ ?_) | (with_reducible refine ⟨_, fun _ _ => rfl, hK _ ?_⟩)); clear hK K
    refine wpQuiet_step (fun K hK => ?_); go_simp; (with_reducible refine ⟨_, fun _ hb => (C5.out _).mono fun _ _ h => ⟨h.1, hb.trans (h.2.mono (by simpa using hb.size))⟩, hK _ ?_⟩); clear hK K
    refine wpQuiet_step (fun K hK => ?_); go_simp; (first | (with_reducible refine hK _ ?_) | (with_reducible refine ⟨_, fun _ _ => rfl, hK _ ?_⟩)); clear hK K
    refine wpQuiet_step (fun K hK => ?_); go_simp; (first | (with_reducible refine hK _ ?_) | (with_reducible refine ⟨_, fun _ _ => rfl, hK _ ?_⟩)); clear hK K
    refine wpQuiet_nil ?_
    intro v4 hbel
    have ha := Ha.out.below hbel; clear Ha
    have hb := Hb.out.below hbel; clear Hb
    have hs := Hs.out.below hbel; clear Hs
    have ht := Ht.out.below hbel; clear Ht
    have hbw := HBW.out.trans (hbel.mono HBW.out.size); clear HBW hbel
    have Ha := Lib.hid ha; clear ha
    have Hb := Lib.hid hb; clear hb
    have Hs := Lib.hid hs; clear hs
    have Ht := Lib.hid ht; clear ht
    have HBW := Lib.hid hbw; clear hbw
    go_wp2_with fail
    go_ret
    exact ⟨rfl, HBW.out⟩
end summaryTwo
end Go.Proofs.Ytdpadkellpkppaa
