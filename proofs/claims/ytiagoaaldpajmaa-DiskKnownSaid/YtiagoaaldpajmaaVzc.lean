/- Several texts in one: Does1, Mine. -/
import Derived.Test.YtiagoaaldpajmaaVzb
namespace Go.Proofs.Ytiagoaaldpajmaa
open Go.ChangeShapes Go.WideShapes Go.ChangeAt Go.RowKit Go.BigFrame Go.Maps Go.Sort
set_option linter.unusedVariables false
section
variable {w0 w w' w1 w2 : World} {p q : Nat} {d d' m m' : DM} {X Y F M : Nat → Prop}
set_option maxRecDepth 100000 in
set_option maxHeartbeats 1000000 in
theorem does_sync (h : Pair w0 w p q d d X) (x : De) (hk : x.kind = 1) (hx : x.Ok) (hd : d.deeds ≤ 1000000) (hr : d.room ≤ 1000000000000) :
    Calls Try.prog 18 #[.pointer (some ⟨p, 0, none⟩), .pointer (some ⟨q, 0, none⟩), x.val] w fun e w' => e = .returned (.bool true) ∧ PairTo w0 w w' p q (doD d x) (doD d x) X := by
  have hD : doD d x = syncD d x.name := by unfold doD; simp only [hk]
  rw [hD]
  obtain ⟨hfi, -⟩ := h.fine hd hr
  have hn := hx.name
  have hby := hx.b
  have hnr := hx.n
  obtain ⟨w1, hw1, hb1, hz1, hrow, h1, hX1⟩ := box_made h x
  have hnm : ∀ b1 b2 w', Duo w0 w1 p q d (syncD d x.name) (Plus X w w1) b1 b2 w' → w'.cell? ⟨w.heap.size, 1, none⟩ = some (.string x.name) := fun b1 b2 w' hw => (PairTo.cell hw hX1 (by omega)).trans (hrow.cell 1)
  have hbb : ∀ b1 b2 w', Duo w0 w1 p q d (syncD d x.name) (Plus X w w1) b1 b2 w' → w'.cell? ⟨w.heap.size, 2, none⟩ = some (.string x.b) := fun b1 b2 w' hw => (PairTo.cell hw hX1 (by omega)).trans (hrow.cell 2)
  have hnn : ∀ b1 b2 w', Duo w0 w1 p q d (syncD d x.name) (Plus X w w1) b1 b2 w' → w'.cell? ⟨w.heap.size, 3, none⟩ = some (.int .i64 x.n) := fun b1 b2 w' hw => (PairTo.cell hw hX1 (by omega)).trans (hrow.cell 3)
  have hc0 : w1.cell? ⟨w.heap.size, 0, none⟩ = some (.int .u8 1) := by rw [hrow.cell 0]; show some (Value.int .u8 (x.kind : Nat)) = _; rw [hk]; rfl
  have hw1' : w.alloc (.cells #[.int .u8 1, .string x.name, .string x.b, .int .i64 x.n, .slice x.ka x.keep.length x.kc] TDe) = w1 := by
    rw [← hw1]; show _ = w.alloc (.cells #[.int .u8 (x.kind : Nat), .string x.name, .string x.b, .int .i64 x.n, .slice x.ka x.keep.length x.kc] TDe); rw [hk]; rfl
  rw [show x.val = .agg #[.int .u8 (x.kind : Nat), .string x.name, .string x.b, .int .i64 x.n, .slice x.ka x.keep.length x.kc] from rfl, hk]
  rw [show (.int .u8 ((1 : Nat) : Int) : Value) = .int .u8 1 from rfl]
  have HW1 := Lib.hid hw1'; have HNm := Lib.hid hnm; have HBy := Lib.hid hbb; have HN := Lib.hid hnn; have H1 := Lib.hid h1; have HB1 := Lib.hid hb1; have HFi := Lib.hid hfi
  clear hw1' hnm hbb hnn h1 hb1 hfi hrow hw1 hk hX1 hx h hD
  generalize x.name = nm at *
  generalize x.b = by_ at *
  generalize x.n = n at *
  go_enter Try.func18, Try.ntmps18
  go_wp2_with fail
  rw [HW1.out]
  go_wp2_with fail
  refine Stage.wp_region (by kernel_rfl) (by kernel_rfl) (Stage.two 3 7 (Duo w0 w1 p q d (syncD d nm) (Plus X w w1))) (Stage.two_start (by simp) (by simp) (Duo.start (PairTo.refl H1.out).drew)) ?_
  refine Stage.wpSt_reads 2 (fun _ => True) (by kernel_rfl) (Stage.two_any (by simp) (by simp)) ?_
  simp only [List.take_succ_cons, List.take_zero, List.drop_succ_cons, List.drop_zero]
  repeat (go_big_quiet_step (fail))
  refine wpQuiet_nil ?_
  refine Stage.wpSt_do (.string nm) rfl (Stage.two_keep (by decide) (by decide) (fun b1 b2 w' hw => Free.at_load _ _ rfl rfl (load_str2 (HNm.out b1 b2 w' hw)) hw)) ?_
  go_simp
  refine Stage.wpSt_do (.int .i64 (syncE d nm)) rfl (Stage.two_do1 (by decide) (fun b w' hw => ?_)) ?_
  · refine Free.at_call _ _ rfl Try.func20 (by kernel_rfl) rfl [.pointer (some ⟨p, 0, none⟩), .string nm] rfl ?_
    exact (pair_sync hw.1 nm hn (by show d.deeds ≤ _; omega)).mono fun e w'' ⟨he, h⟩ => ⟨he, Duo.step1 hw h⟩
  go_simp
  refine Stage.wpSt_reads 2 (fun _ => True) (by kernel_rfl) (Stage.two_any (by simp) (by simp)) ?_
  simp only [List.take_succ_cons, List.take_zero, List.drop_succ_cons, List.drop_zero]
  repeat (go_big_quiet_step (fail))
  refine wpQuiet_nil ?_
  refine Stage.wpSt_do (.string nm) rfl (Stage.two_keep (by decide) (by decide) (fun b1 b2 w' hw => Free.at_load _ _ rfl rfl (load_str2 (HNm.out b1 b2 w' hw)) hw)) ?_
  go_simp
  refine Stage.wpSt_do (.int .i64 (syncE d nm)) rfl (Stage.two_do2 (by decide) (fun b w' hw => ?_)) ?_
  · refine Free.at_call _ _ rfl Try.func24 (by kernel_rfl) rfl [.pointer (some ⟨q, 0, none⟩), .string nm] rfl ?_
    exact (pref_sync hw.1 HFi.out nm hn).mono fun e w'' ⟨he, h⟩ => ⟨he, Duo.step2 hw h⟩
  go_simp
  refine Stage.wpSt_reads 2 (fun _ => True) (by kernel_rfl) (Stage.two_any (by simp) (by simp)) ?_
  simp only [List.take_succ_cons, List.take_zero, List.drop_succ_cons, List.drop_zero]
  repeat (go_big_quiet_step (fail))
  refine wpQuiet_nil (Stage.wpSt_nil (Stage.two_end ?_))
  intro w9 hw9
  have h9 : PairTo w0 w w9 p q _ _ X := PairTo.boxed HB1.out hw9
  have H9 := Lib.hid h9; clear h9 hw9
  go_wp2_with fail
  go_ret
  exact ⟨rfl, H9.out⟩
set_option maxRecDepth 100000 in
set_option maxHeartbeats 1000000 in
theorem does_cut (h : Pair w0 w p q d d X) (x : De) (hk : x.kind = 2) (hx : x.Ok) (hd : d.deeds ≤ 1000000) (hr : d.room ≤ 1000000000000) :
    Calls Try.prog 18 #[.pointer (some ⟨p, 0, none⟩), .pointer (some ⟨q, 0, none⟩), x.val] w fun e w' => e = .returned (.bool true) ∧ PairTo w0 w w' p q (doD d x) (doD d x) X := by
  have hD : doD d x = cutD d x.name x.n := by unfold doD; simp only [hk]
  rw [hD]
  obtain ⟨hfi, -⟩ := h.fine hd hr
  have hn := hx.name
  have hby := hx.b
  have hnr := hx.n
  obtain ⟨w1, hw1, hb1, hz1, hrow, h1, hX1⟩ := box_made h x
  have hnm : ∀ b1 b2 w', Duo w0 w1 p q d (cutD d x.name x.n) (Plus X w w1) b1 b2 w' → w'.cell? ⟨w.heap.size, 1, none⟩ = some (.string x.name) := fun b1 b2 w' hw => (PairTo.cell hw hX1 (by omega)).trans (hrow.cell 1)
  have hbb : ∀ b1 b2 w', Duo w0 w1 p q d (cutD d x.name x.n) (Plus X w w1) b1 b2 w' → w'.cell? ⟨w.heap.size, 2, none⟩ = some (.string x.b) := fun b1 b2 w' hw => (PairTo.cell hw hX1 (by omega)).trans (hrow.cell 2)
  have hnn : ∀ b1 b2 w', Duo w0 w1 p q d (cutD d x.name x.n) (Plus X w w1) b1 b2 w' → w'.cell? ⟨w.heap.size, 3, none⟩ = some (.int .i64 x.n) := fun b1 b2 w' hw => (PairTo.cell hw hX1 (by omega)).trans (hrow.cell 3)
  have hc0 : w1.cell? ⟨w.heap.size, 0, none⟩ = some (.int .u8 2) := by rw [hrow.cell 0]; show some (Value.int .u8 (x.kind : Nat)) = _; rw [hk]; rfl
  have hw1' : w.alloc (.cells #[.int .u8 2, .string x.name, .string x.b, .int .i64 x.n, .slice x.ka x.keep.length x.kc] TDe) = w1 := by
    rw [← hw1]; show _ = w.alloc (.cells #[.int .u8 (x.kind : Nat), .string x.name, .string x.b, .int .i64 x.n, .slice x.ka x.keep.length x.kc] TDe); rw [hk]; rfl
  rw [show x.val = .agg #[.int .u8 (x.kind : Nat), .string x.name, .string x.b, .int .i64 x.n, .slice x.ka x.keep.length x.kc] from rfl, hk]
  rw [show (.int .u8 ((2 : Nat) : Int) : Value) = .int .u8 2 from rfl]
  have HW1 := Lib.hid hw1'; have HNm := Lib.hid hnm; have HBy := Lib.hid hbb; have HN := Lib.hid hnn; have H1 := Lib.hid h1; have HB1 := Lib.hid hb1; have HFi := Lib.hid hfi
  clear hw1' hnm hbb hnn h1 hb1 hfi hrow hw1 hk hX1 hx h hD
  generalize x.name = nm at *
  generalize x.b = by_ at *
  generalize x.n = n at *
  go_enter Try.func18, Try.ntmps18
  go_wp2_with fail
  rw [HW1.out]
  go_wp2_with fail
  refine Stage.wp_region (by kernel_rfl) (by kernel_rfl) (Stage.two 5 11 (Duo w0 w1 p q d (cutD d nm n) (Plus X w w1))) (Stage.two_start (by simp) (by simp) (Duo.start (PairTo.refl H1.out).drew)) ?_
  refine Stage.wpSt_reads 2 (fun _ => True) (by kernel_rfl) (Stage.two_any (by simp) (by simp)) ?_
  simp only [List.take_succ_cons, List.take_zero, List.drop_succ_cons, List.drop_zero]
  repeat (go_big_quiet_step (fail))
  refine wpQuiet_nil ?_
  refine Stage.wpSt_do (.string nm) rfl (Stage.two_keep (by decide) (by decide) (fun b1 b2 w' hw => Free.at_load _ _ rfl rfl (load_str2 (HNm.out b1 b2 w' hw)) hw)) ?_
  go_simp
  refine Stage.wpSt_reads 1 (fun _ => True) (by kernel_rfl) (Stage.two_any (by simp) (by simp)) ?_
  simp only [List.take_succ_cons, List.take_zero, List.drop_succ_cons, List.drop_zero]
  repeat (go_big_quiet_step (fail))
  refine wpQuiet_nil ?_
  refine Stage.wpSt_do (.int .i64 n) rfl (Stage.two_keep (by decide) (by decide) (fun b1 b2 w' hw => Free.at_load _ _ rfl rfl (load_int2 (HN.out b1 b2 w' hw)) hw)) ?_
  go_simp
  refine Stage.wpSt_do (.int .i64 (cutE d nm n)) rfl (Stage.two_do1 (by decide) (fun b w' hw => ?_)) ?_
  · refine Free.at_call _ _ rfl Try.func30 (by kernel_rfl) rfl [.pointer (some ⟨p, 0, none⟩), .string nm, .int .i64 n] rfl ?_
    exact (pair_cut hw.1 nm n hn hnr (by show d.deeds ≤ _; omega)).mono fun e w'' ⟨he, h⟩ => ⟨he, Duo.step1 hw h⟩
  go_simp
  refine Stage.wpSt_reads 2 (fun _ => True) (by kernel_rfl) (Stage.two_any (by simp) (by simp)) ?_
  simp only [List.take_succ_cons, List.take_zero, List.drop_succ_cons, List.drop_zero]
  repeat (go_big_quiet_step (fail))
  refine wpQuiet_nil ?_
  refine Stage.wpSt_do (.string nm) rfl (Stage.two_keep (by decide) (by decide) (fun b1 b2 w' hw => Free.at_load _ _ rfl rfl (load_str2 (HNm.out b1 b2 w' hw)) hw)) ?_
  go_simp
  refine Stage.wpSt_reads 1 (fun _ => True) (by kernel_rfl) (Stage.two_any (by simp) (by simp)) ?_
  simp only [List.take_succ_cons, List.take_zero, List.drop_succ_cons, List.drop_zero]
  repeat (go_big_quiet_step (fail))
  refine wpQuiet_nil ?_
  refine Stage.wpSt_do (.int .i64 n) rfl (Stage.two_keep (by decide) (by decide) (fun b1 b2 w' hw => Free.at_load _ _ rfl rfl (load_int2 (HN.out b1 b2 w' hw)) hw)) ?_
  go_simp
  refine Stage.wpSt_do (.int .i64 (cutE d nm n)) rfl (Stage.two_do2 (by decide) (fun b w' hw => ?_)) ?_
  · refine Free.at_call _ _ rfl Try.func44 (by kernel_rfl) rfl [.pointer (some ⟨q, 0, none⟩), .string nm, .int .i64 n] rfl ?_
    exact (pref_cut hw.1 HFi.out nm n hn hnr).mono fun e w'' ⟨he, h⟩ => ⟨he, Duo.step2 hw h⟩
  go_simp
  refine Stage.wpSt_reads 2 (fun _ => True) (by kernel_rfl) (Stage.two_any (by simp) (by simp)) ?_
  simp only [List.take_succ_cons, List.take_zero, List.drop_succ_cons, List.drop_zero]
  repeat (go_big_quiet_step (fail))
  refine wpQuiet_nil (Stage.wpSt_nil (Stage.two_end ?_))
  intro w9 hw9
  have h9 : PairTo w0 w w9 p q _ _ X := PairTo.boxed HB1.out hw9
  have H9 := Lib.hid h9; clear h9 hw9
  go_wp2_with fail
  go_ret
  exact ⟨rfl, H9.out⟩
set_option maxRecDepth 100000 in
set_option maxHeartbeats 1000000 in
theorem does_rename (h : Pair w0 w p q d d X) (x : De) (hk : x.kind = 3) (hx : x.Ok) (hd : d.deeds ≤ 1000000) (hr : d.room ≤ 1000000000000) :
    Calls Try.prog 18 #[.pointer (some ⟨p, 0, none⟩), .pointer (some ⟨q, 0, none⟩), x.val] w fun e w' => e = .returned (.bool true) ∧ PairTo w0 w w' p q (doD d x) (doD d x) X := by
  have hD : doD d x = renameD d x.name x.b := by unfold doD; simp only [hk]
  rw [hD]
  obtain ⟨hfi, -⟩ := h.fine hd hr
  have hn := hx.name
  have hby := hx.b
  have hnr := hx.n
  obtain ⟨w1, hw1, hb1, hz1, hrow, h1, hX1⟩ := box_made h x
  have hnm : ∀ b1 b2 w', Duo w0 w1 p q d (renameD d x.name x.b) (Plus X w w1) b1 b2 w' → w'.cell? ⟨w.heap.size, 1, none⟩ = some (.string x.name) := fun b1 b2 w' hw => (PairTo.cell hw hX1 (by omega)).trans (hrow.cell 1)
  have hbb : ∀ b1 b2 w', Duo w0 w1 p q d (renameD d x.name x.b) (Plus X w w1) b1 b2 w' → w'.cell? ⟨w.heap.size, 2, none⟩ = some (.string x.b) := fun b1 b2 w' hw => (PairTo.cell hw hX1 (by omega)).trans (hrow.cell 2)
  have hnn : ∀ b1 b2 w', Duo w0 w1 p q d (renameD d x.name x.b) (Plus X w w1) b1 b2 w' → w'.cell? ⟨w.heap.size, 3, none⟩ = some (.int .i64 x.n) := fun b1 b2 w' hw => (PairTo.cell hw hX1 (by omega)).trans (hrow.cell 3)
  have hc0 : w1.cell? ⟨w.heap.size, 0, none⟩ = some (.int .u8 3) := by rw [hrow.cell 0]; show some (Value.int .u8 (x.kind : Nat)) = _; rw [hk]; rfl
  have hw1' : w.alloc (.cells #[.int .u8 3, .string x.name, .string x.b, .int .i64 x.n, .slice x.ka x.keep.length x.kc] TDe) = w1 := by
    rw [← hw1]; show _ = w.alloc (.cells #[.int .u8 (x.kind : Nat), .string x.name, .string x.b, .int .i64 x.n, .slice x.ka x.keep.length x.kc] TDe); rw [hk]; rfl
  rw [show x.val = .agg #[.int .u8 (x.kind : Nat), .string x.name, .string x.b, .int .i64 x.n, .slice x.ka x.keep.length x.kc] from rfl, hk]
  rw [show (.int .u8 ((3 : Nat) : Int) : Value) = .int .u8 3 from rfl]
  have HW1 := Lib.hid hw1'; have HNm := Lib.hid hnm; have HBy := Lib.hid hbb; have HN := Lib.hid hnn; have H1 := Lib.hid h1; have HB1 := Lib.hid hb1; have HFi := Lib.hid hfi
  clear hw1' hnm hbb hnn h1 hb1 hfi hrow hw1 hk hX1 hx h hD
  generalize x.name = nm at *
  generalize x.b = by_ at *
  generalize x.n = n at *
  go_enter Try.func18, Try.ntmps18
  go_wp2_with fail
  rw [HW1.out]
  go_wp2_with fail
  refine Stage.wp_region (by kernel_rfl) (by kernel_rfl) (Stage.two 5 11 (Duo w0 w1 p q d (renameD d nm by_) (Plus X w w1))) (Stage.two_start (by simp) (by simp) (Duo.start (PairTo.refl H1.out).drew)) ?_
  refine Stage.wpSt_reads 2 (fun _ => True) (by kernel_rfl) (Stage.two_any (by simp) (by simp)) ?_
  simp only [List.take_succ_cons, List.take_zero, List.drop_succ_cons, List.drop_zero]
  repeat (go_big_quiet_step (fail))
  refine wpQuiet_nil ?_
  refine Stage.wpSt_do (.string nm) rfl (Stage.two_keep (by decide) (by decide) (fun b1 b2 w' hw => Free.at_load _ _ rfl rfl (load_str2 (HNm.out b1 b2 w' hw)) hw)) ?_
  go_simp
  refine Stage.wpSt_reads 1 (fun _ => True) (by kernel_rfl) (Stage.two_any (by simp) (by simp)) ?_
  simp only [List.take_succ_cons, List.take_zero, List.drop_succ_cons, List.drop_zero]
  repeat (go_big_quiet_step (fail))
  refine wpQuiet_nil ?_
  refine Stage.wpSt_do (.string by_) rfl (Stage.two_keep (by decide) (by decide) (fun b1 b2 w' hw => Free.at_load _ _ rfl rfl (load_str2 (HBy.out b1 b2 w' hw)) hw)) ?_
  go_simp
  refine Stage.wpSt_do (.int .i64 (renameE d nm by_)) rfl (Stage.two_do1 (by decide) (fun b w' hw => ?_)) ?_
  · refine Free.at_call _ _ rfl Try.func26 (by kernel_rfl) rfl [.pointer (some ⟨p, 0, none⟩), .string nm, .string by_] rfl ?_
    exact (pair_rename hw.1 nm by_ hn hby (by show d.deeds ≤ _; omega)).mono fun e w'' ⟨he, h⟩ => ⟨he, Duo.step1 hw h⟩
  go_simp
  refine Stage.wpSt_reads 2 (fun _ => True) (by kernel_rfl) (Stage.two_any (by simp) (by simp)) ?_
  simp only [List.take_succ_cons, List.take_zero, List.drop_succ_cons, List.drop_zero]
  repeat (go_big_quiet_step (fail))
  refine wpQuiet_nil ?_
  refine Stage.wpSt_do (.string nm) rfl (Stage.two_keep (by decide) (by decide) (fun b1 b2 w' hw => Free.at_load _ _ rfl rfl (load_str2 (HNm.out b1 b2 w' hw)) hw)) ?_
  go_simp
  refine Stage.wpSt_reads 1 (fun _ => True) (by kernel_rfl) (Stage.two_any (by simp) (by simp)) ?_
  simp only [List.take_succ_cons, List.take_zero, List.drop_succ_cons, List.drop_zero]
  repeat (go_big_quiet_step (fail))
  refine wpQuiet_nil ?_
  refine Stage.wpSt_do (.string by_) rfl (Stage.two_keep (by decide) (by decide) (fun b1 b2 w' hw => Free.at_load _ _ rfl rfl (load_str2 (HBy.out b1 b2 w' hw)) hw)) ?_
  go_simp
  refine Stage.wpSt_do (.int .i64 (renameE d nm by_)) rfl (Stage.two_do2 (by decide) (fun b w' hw => ?_)) ?_
  · refine Free.at_call _ _ rfl Try.func45 (by kernel_rfl) rfl [.pointer (some ⟨q, 0, none⟩), .string nm, .string by_] rfl ?_
    exact (pref_rename hw.1 HFi.out nm by_ hn hby).mono fun e w'' ⟨he, h⟩ => ⟨he, Duo.step2 hw h⟩
  go_simp
  refine Stage.wpSt_reads 2 (fun _ => True) (by kernel_rfl) (Stage.two_any (by simp) (by simp)) ?_
  simp only [List.take_succ_cons, List.take_zero, List.drop_succ_cons, List.drop_zero]
  repeat (go_big_quiet_step (fail))
  refine wpQuiet_nil (Stage.wpSt_nil (Stage.two_end ?_))
  intro w9 hw9
  have h9 : PairTo w0 w w9 p q _ _ X := PairTo.boxed HB1.out hw9
  have H9 := Lib.hid h9; clear h9 hw9
  go_wp2_with fail
  go_ret
  exact ⟨rfl, H9.out⟩
set_option maxRecDepth 100000 in
set_option maxHeartbeats 1000000 in
theorem does_remove (h : Pair w0 w p q d d X) (x : De) (hk : x.kind = 4) (hx : x.Ok) (hd : d.deeds ≤ 1000000) (hr : d.room ≤ 1000000000000) :
    Calls Try.prog 18 #[.pointer (some ⟨p, 0, none⟩), .pointer (some ⟨q, 0, none⟩), x.val] w fun e w' => e = .returned (.bool true) ∧ PairTo w0 w w' p q (doD d x) (doD d x) X := by
  have hD : doD d x = removeD d x.name := by unfold doD; simp only [hk]
  rw [hD]
  obtain ⟨hfi, -⟩ := h.fine hd hr
  have hn := hx.name
  have hby := hx.b
  have hnr := hx.n
  obtain ⟨w1, hw1, hb1, hz1, hrow, h1, hX1⟩ := box_made h x
  have hnm : ∀ b1 b2 w', Duo w0 w1 p q d (removeD d x.name) (Plus X w w1) b1 b2 w' → w'.cell? ⟨w.heap.size, 1, none⟩ = some (.string x.name) := fun b1 b2 w' hw => (PairTo.cell hw hX1 (by omega)).trans (hrow.cell 1)
  have hbb : ∀ b1 b2 w', Duo w0 w1 p q d (removeD d x.name) (Plus X w w1) b1 b2 w' → w'.cell? ⟨w.heap.size, 2, none⟩ = some (.string x.b) := fun b1 b2 w' hw => (PairTo.cell hw hX1 (by omega)).trans (hrow.cell 2)
  have hnn : ∀ b1 b2 w', Duo w0 w1 p q d (removeD d x.name) (Plus X w w1) b1 b2 w' → w'.cell? ⟨w.heap.size, 3, none⟩ = some (.int .i64 x.n) := fun b1 b2 w' hw => (PairTo.cell hw hX1 (by omega)).trans (hrow.cell 3)
  have hc0 : w1.cell? ⟨w.heap.size, 0, none⟩ = some (.int .u8 4) := by rw [hrow.cell 0]; show some (Value.int .u8 (x.kind : Nat)) = _; rw [hk]; rfl
  have hw1' : w.alloc (.cells #[.int .u8 4, .string x.name, .string x.b, .int .i64 x.n, .slice x.ka x.keep.length x.kc] TDe) = w1 := by
    rw [← hw1]; show _ = w.alloc (.cells #[.int .u8 (x.kind : Nat), .string x.name, .string x.b, .int .i64 x.n, .slice x.ka x.keep.length x.kc] TDe); rw [hk]; rfl
  rw [show x.val = .agg #[.int .u8 (x.kind : Nat), .string x.name, .string x.b, .int .i64 x.n, .slice x.ka x.keep.length x.kc] from rfl, hk]
  rw [show (.int .u8 ((4 : Nat) : Int) : Value) = .int .u8 4 from rfl]
  have HW1 := Lib.hid hw1'; have HNm := Lib.hid hnm; have HBy := Lib.hid hbb; have HN := Lib.hid hnn; have H1 := Lib.hid h1; have HB1 := Lib.hid hb1; have HFi := Lib.hid hfi
  clear hw1' hnm hbb hnn h1 hb1 hfi hrow hw1 hk hX1 hx h hD
  generalize x.name = nm at *
  generalize x.b = by_ at *
  generalize x.n = n at *
  go_enter Try.func18, Try.ntmps18
  go_wp2_with fail
  rw [HW1.out]
  go_wp2_with fail
  refine Stage.wp_region (by kernel_rfl) (by kernel_rfl) (Stage.two 3 7 (Duo w0 w1 p q d (removeD d nm) (Plus X w w1))) (Stage.two_start (by simp) (by simp) (Duo.start (PairTo.refl H1.out).drew)) ?_
  refine Stage.wpSt_reads 2 (fun _ => True) (by kernel_rfl) (Stage.two_any (by simp) (by simp)) ?_
  simp only [List.take_succ_cons, List.take_zero, List.drop_succ_cons, List.drop_zero]
  repeat (go_big_quiet_step (fail))
  refine wpQuiet_nil ?_
  refine Stage.wpSt_do (.string nm) rfl (Stage.two_keep (by decide) (by decide) (fun b1 b2 w' hw => Free.at_load _ _ rfl rfl (load_str2 (HNm.out b1 b2 w' hw)) hw)) ?_
  go_simp
  refine Stage.wpSt_do (.int .i64 (removeE d nm)) rfl (Stage.two_do1 (by decide) (fun b w' hw => ?_)) ?_
  · refine Free.at_call _ _ rfl Try.func17 (by kernel_rfl) rfl [.pointer (some ⟨p, 0, none⟩), .string nm] rfl ?_
    exact (pair_remove hw.1 nm hn (by show d.deeds ≤ _; omega)).mono fun e w'' ⟨he, h⟩ => ⟨he, Duo.step1 hw h⟩
  go_simp
  refine Stage.wpSt_reads 2 (fun _ => True) (by kernel_rfl) (Stage.two_any (by simp) (by simp)) ?_
  simp only [List.take_succ_cons, List.take_zero, List.drop_succ_cons, List.drop_zero]
  repeat (go_big_quiet_step (fail))
  refine wpQuiet_nil ?_
  refine Stage.wpSt_do (.string nm) rfl (Stage.two_keep (by decide) (by decide) (fun b1 b2 w' hw => Free.at_load _ _ rfl rfl (load_str2 (HNm.out b1 b2 w' hw)) hw)) ?_
  go_simp
  refine Stage.wpSt_do (.int .i64 (removeE d nm)) rfl (Stage.two_do2 (by decide) (fun b w' hw => ?_)) ?_
  · refine Free.at_call _ _ rfl Try.func46 (by kernel_rfl) rfl [.pointer (some ⟨q, 0, none⟩), .string nm] rfl ?_
    exact (pref_remove hw.1 HFi.out nm hn).mono fun e w'' ⟨he, h⟩ => ⟨he, Duo.step2 hw h⟩
  go_simp
  refine Stage.wpSt_reads 2 (fun _ => True) (by kernel_rfl) (Stage.two_any (by simp) (by simp)) ?_
  simp only [List.take_succ_cons, List.take_zero, List.drop_succ_cons, List.drop_zero]
  repeat (go_big_quiet_step (fail))
  refine wpQuiet_nil (Stage.wpSt_nil (Stage.two_end ?_))
  intro w9 hw9
  have h9 : PairTo w0 w w9 p q _ _ X := PairTo.boxed HB1.out hw9
  have H9 := Lib.hid h9; clear h9 hw9
  go_wp2_with fail
  go_ret
  exact ⟨rfl, H9.out⟩
end
end Go.Proofs.Ytiagoaaldpajmaa
namespace Go.Proofs.Ytiagoaaldpajmaa
open Go.ChangeShapes Go.WideShapes Go.ChangeAt Go.RowKit Go.BigFrame Go.Maps Go.Sort
set_option linter.unusedVariables false
/-- a row of bytes of the call's own, whatever it holds -/
def Mine (w : World) (X : Nat → Prop) (A : Option Addr) (n : Nat) : Prop :=
  0 < n → ∃ (g : Nat) (L : List Value) (fz : Nat × Nat), A = some ⟨g, 0, none⟩ ∧ X g ∧ w.heap[g]? = some (.cells L.toArray 5 fz) ∧ (n ≤ fz.1 ∨ fz = (0, 0)) ∧ ∀ j, j < n → ∃ x : Nat, x < 256 ∧ L[j]? = some (.int .u8 (x : Nat))
section
variable {w w' w0 w1 w2 : World} {X Y G : Nat → Prop} {A : Option Addr} {n p q : Nat} {d m : DM}
theorem Mine.touch (h : Mine w X A n) (ht : Touch G w w') (hG : ∀ k, X k → ¬ G k) : Mine w' X A n := fun hn => by
  obtain ⟨g, L, fz, e, hX, hr, h1, h2⟩ := h hn
  have hlt : g < w.heap.size := by
    by_cases hg : g < w.heap.size
    · exact hg
    · rw [Array.getElem?_eq_none (by omega)] at hr; cases hr
  exact ⟨g, L, fz, e, hX, (ht.block g hlt (hG g hX)).trans hr, h1, h2⟩
theorem Mine.more (h : Mine w X A n) (hY : ∀ k, X k → Y k) : Mine w Y A n := fun hn => by
  obtain ⟨g, L, fz, e, hX, hr⟩ := h hn; exact ⟨g, L, fz, e, hY g hX, hr⟩
theorem Mine.of_own {c : Nat} {xs : List Nat} {base : Nat} (h : w.ownsRow base 5 1 (.slice A n c) n (u8s xs)) (hx : ∀ x ∈ xs, x < 256) (hX : ∀ k, base ≤ k → k < w.heap.size → X k) : Mine w X A n := by
  intro hn
  obtain ⟨g, rest, cap, e, hb, hr⟩ := Row.of_own_some h hn
  injection e with e1 e2 e3
  have hl : xs.length = n := by have := h.1; simpa using this
  refine ⟨g, _, (0, 0), e1, hX g hb hr.lt, hr, .inr rfl, fun j hj => ⟨xs[j], hx _ (List.getElem_mem (by omega)), ?_⟩⟩
  rw [List.getElem?_append_left (by simp; omega), List.getElem?_map, List.getElem?_eq_getElem (by omega)]; rfl
/-- its k-th byte -/
theorem Mine.at_ (h : Mine w X A n) {k : Nat} (hk : k < n) : ∃ (g x : Nat), A = some ⟨g, 0, none⟩ ∧ X g ∧ g < w.heap.size ∧ x < 256 ∧ w.cell? ⟨g, k, none⟩ = some (.int .u8 (x : Nat)) ∧ w.frozen? ⟨g, k, none⟩ = false ∧
    ∀ y : Nat, y < 256 → Mine (w.setCell ⟨g, k, none⟩ (.int .u8 (y : Nat))) X A n := by
  obtain ⟨g, L, fz, e, hX, hr, h1, h2⟩ := h (by omega)
  obtain ⟨x, hx, hLx⟩ := h2 k hk
  have hlt : g < w.heap.size := by
    by_cases hg : g < w.heap.size
    · exact hg
    · rw [Array.getElem?_eq_none (by omega)] at hr; cases hr
  refine ⟨g, x, e, hX, hlt, hx, by rw [cell_of_row w g k L.toArray _ fz hr]; simpa using hLx, ?_, fun y hy hn => ⟨g, L.set k (.int .u8 (y : Nat)), fz, e, hX, ?_, h1, fun j hj => ?_⟩⟩
  · obtain ⟨lo, hi⟩ := fz
    simp only [World.frozen?, hr]
    rcases h1 with h1 | h1
    · simp at h1; simp; omega
    · injection h1 with h1 h2; subst h1; subst h2; simp
  · simp [World.setCell, Array.getElem?_modify, hr]
  · by_cases ej : k = j
    · subst ej
      exact ⟨y, hy, by rw [List.getElem?_set_self (List.getElem?_eq_some_iff.1 hLx).1]⟩
    · rw [List.getElem?_set_ne ej]; exact h2 j hj
theorem wrap_u8 (x : Nat) : IntKind.u8.wrap ((x : Int) + 1) = (((x + 1) % 256 : Nat) : Int) := by
  simp [IntKind.wrap, IntKind.signed, IntKind.bits]
/-- a string's bytes, anew -/
theorem run_tobytes2 (w : World) (s : ByteArray) (hm : s.size ≤ maxLen) :
    ∃ c w', (convert 9 36 (.string s)).run Try.prog w = .ok (.slice (some ⟨w.heap.size, 0, none⟩) s.size c) w' ∧ Bytes w' (some ⟨w.heap.size, 0, none⟩) (bl s) ∧ Below w.heap.size w w' ∧ s.size ≤ c ∧ c ≤ maxLen ∧ w.heap.size < w'.heap.size ∧
      ∀ X : Nat → Prop, X w.heap.size → Mine w' X (some ⟨w.heap.size, 0, none⟩) s.size := by
  have hr := run_bytes_of_string (P := Try.prog) w 9 36 5 s Try.underlying9 Try.underlying36 Try.underlying5
  obtain ⟨c, w', hr', h1, h2, h3, h4, h5⟩ := run_tobytes (P := Try.prog) w s Try.underlying9 Try.underlying36 Try.underlying5 hm
  have e := hr.symm.trans hr'
  injection e with e1 e2
  refine ⟨c, w', hr', h1, h2, h3, h4, h5, fun X hX hn => ⟨w.heap.size, (bytesRow s (grownCap w s.size 0 5)).toList, ((bytesRow s (grownCap w s.size 0 5)).size, (bytesRow s (grownCap w s.size 0 5)).size + 1), rfl, hX, ?_, .inl ?_, fun j hj => ?_⟩⟩
  · rw [← e2]
    show (w.drew.heap.push _)[w.heap.size]? = _
    have : w.drew.heap.size = w.heap.size := rfl
    rw [← this, Array.getElem?_push_size]
  · unfold bytesRow; simp
  · have h1 : j < s.data.size := hj
    refine ⟨(s.data[j]).toNat, (s.data[j]).toNat_lt, ?_⟩
    unfold bytesRow
    rw [Array.getElem?_toList, Array.getElem?_append_left (by simpa using h1), Array.getElem?_map, Array.getElem?_eq_getElem h1]
    rfl
/-- what a Read has answered -/
theorem pair_read2 {F : Nat → Prop} (h : Pair w0 w p q d m X) (s : ByteArray) (hs : s.size ≤ 9223372036854775807) :
    Calls Try.prog 21 #[.pointer (some ⟨p, 0, none⟩), .string s] w fun e w' => ∃ A c, e = .returned (.tuple #[.slice A (readB d s).length c, .int .i64 (findE d s [])]) ∧ Bytes w' A (readB d s) ∧ Mine w' (fun k => Plus X w w' k ∧ w.heap.size ≤ k) A (readB d s).length ∧ (∀ ad, A = some ad → Plus X w w' ad.block) ∧ Below w.heap.size w w' := by
  obtain ⟨F, M, es, A, c, h⟩ := h
  obtain ⟨mm, g, v, hD⟩ := h.own.disk
  refine (read_any hD s hs).mono ?_
  rintro e w' ⟨V, rfl, hown, _, h2⟩
  have hlt : ∀ x ∈ readB d s, x < 256 := by
    intro x hx
    unfold readB at hx
    split at hx
    · split at hx
      · rename_i y hy; exact (hD.files.at_ _ _ hy).lt x hx
      · simp at hx
    · simp at hx
  obtain ⟨A, c, rfl, hB, _⟩ := Bytes.of_own hown hlt
  refine ⟨A, c, rfl, hB, Mine.of_own hown hlt fun k h1 h2 => ⟨.inr ⟨h1, h2⟩, h1⟩, ?_, h2⟩
  rintro ad rfl
  obtain ⟨h1, h2⟩ := hown.lt ad.block rfl
  exact .inr ⟨h1, h2⟩
theorem Pair.sort (h : Pair w0 w p q d m X) : SortF d.fs := by
  obtain ⟨F, M, es, A, c, h⟩ := h
  obtain ⟨mm, g, v, hD⟩ := h.own.disk
  exact hD.ok.sort
end
end Go.Proofs.Ytiagoaaldpajmaa
