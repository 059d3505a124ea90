/- Several texts in one: Does1. -/
import Derived.Test.YtiagoaaldpajmaaQze
namespace Go.Proofs.Ytiagoaaldpajmaa
open Go.ChangeShapes Go.WideShapes Go.ChangeAt Go.RowKit Go.BigFrame Go.Maps Go.Sort
set_option linter.unusedVariables false
section
variable {w0 w w' w1 w2 : World} {p q : Nat} {d d' m m' : DM} {X Y F M : Nat → Prop}
set_option maxRecDepth 100000 in
set_option maxHeartbeats 1000000 in
theorem does_sync (h : Pair w0 w p q d d X) (x : De) (hk : x.kind = 1) (hx : x.Ok) (hd : d.deeds ≤ 1000000) (hr : d.room ≤ 1000000000000) :
    Calls Try.prog 18 #[.pointer (some ⟨p, 0, none⟩), .pointer (some ⟨q, 0, none⟩), x.val] w fun e w' => e = .returned (.bool true) ∧ PairTo w0 w w' p q (doD d x) (doD d x) X := by
  have hD : doD d x = syncD d x.name := by unfold doD; simp only [hk]
  rw [hD]
  obtain ⟨hfi, -⟩ := h.fine hd hr
  have hn := hx.name
  have hby := hx.b
  have hnr := hx.n
  obtain ⟨w1, hw1, hb1, hz1, hrow, h1, hX1⟩ := box_made h x
  have hnm : ∀ b1 b2 w', Duo w0 w1 p q d (syncD d x.name) (Plus X w w1) b1 b2 w' → w'.cell? ⟨w.heap.size, 1, none⟩ = some (.string x.name) := fun b1 b2 w' hw => (PairTo.cell hw hX1 (by omega)).trans (hrow.cell 1)
  have hbb : ∀ b1 b2 w', Duo w0 w1 p q d (syncD d x.name) (Plus X w w1) b1 b2 w' → w'.cell? ⟨w.heap.size, 2, none⟩ = some (.string x.b) := fun b1 b2 w' hw => (PairTo.cell hw hX1 (by omega)).trans (hrow.cell 2)
  have hnn : ∀ b1 b2 w', Duo w0 w1 p q d (syncD d x.name) (Plus X w w1) b1 b2 w' → w'.cell? ⟨w.heap.size, 3, none⟩ = some (.int .i64 x.n) := fun b1 b2 w' hw => (PairTo.cell hw hX1 (by omega)).trans (hrow.cell 3)
  have hc0 : w1.cell? ⟨w.heap.size, 0, none⟩ = some (.int .u8 1) := by rw [hrow.cell 0]; show some (Value.int .u8 (x.kind : Nat)) = _; rw [hk]; rfl
  have hw1' : w.alloc (.cells #[.int .u8 1, .string x.name, .string x.b, .int .i64 x.n, .slice x.ka x.keep.length x.kc] TDe) = w1 := by
    rw [← hw1]; show _ = w.alloc (.cells #[.int .u8 (x.kind : Nat), .string x.name, .string x.b, .int .i64 x.n, .slice x.ka x.keep.length x.kc] TDe); rw [hk]; rfl
  rw [show x.val = .agg #[.int .u8 (x.kind : Nat), .string x.name, .string x.b, .int .i64 x.n, .slice x.ka x.keep.length x.kc] from rfl, hk]
  rw [show (.int .u8 ((1 : Nat) : Int) : Value) = .int .u8 1 from rfl]
  have HW1 := Lib.hid hw1'; have HNm := Lib.hid hnm; have HBy := Lib.hid hbb; have HN := Lib.hid hnn; have H1 := Lib.hid h1; have HB1 := Lib.hid hb1; have HFi := Lib.hid hfi
  clear hw1' hnm hbb hnn h1 hb1 hfi hrow hw1 hk hX1 hx h hD
  generalize x.name = nm at *
  generalize x.b = by_ at *
  generalize x.n = n at *
  go_enter Try.func18, Try.ntmps18
  go_wp2_with fail
  rw [HW1.out]
  go_wp2_with fail
  refine Stage.wp_region (by kernel_rfl) (by kernel_rfl) (Stage.two 3 7 (Duo w0 w1 p q d (syncD d nm) (Plus X w w1))) (Stage.two_start (by simp) (by simp) (Duo.start (PairTo.refl H1.out).drew)) ?_
  refine Stage.wpSt_reads 2 (fun _ => True) (by kernel_rfl) (Stage.two_any (by simp) (by simp)) ?_
  simp only [List.take_succ_cons, List.take_zero, List.drop_succ_cons, List.drop_zero]
  repeat (go_big_quiet_step (fail))
  refine wpQuiet_nil ?_
  refine Stage.wpSt_do (.string nm) rfl (Stage.two_keep (by decide) (by decide) (fun b1 b2 w' hw => Free.at_load _ _ rfl rfl (load_str2 (HNm.out b1 b2 w' hw)) hw)) ?_
  go_simp
  refine Stage.wpSt_do (.int .i64 (syncE d nm)) rfl (Stage.two_do1 (by decide) (fun b w' hw => ?_)) ?_
  · refine Free.at_call _ _ rfl Try.func20 (by kernel_rfl) rfl [.pointer (some ⟨p, 0, none⟩), .string nm] rfl ?_
    exact (pair_sync hw.1 nm hn (by show d.deeds ≤ _; omega)).mono fun e w'' ⟨he, h⟩ => ⟨he, Duo.step1 hw h⟩
  go_simp
  refine Stage.wpSt_reads 2 (fun _ => True) (by kernel_rfl) (Stage.two_any (by simp) (by simp)) ?_
  simp only [List.take_succ_cons, List.take_zero, List.drop_succ_cons, List.drop_zero]
  repeat (go_big_quiet_step (fail))
  refine wpQuiet_nil ?_
  refine Stage.wpSt_do (.string nm) rfl (Stage.two_keep (by decide) (by decide) (fun b1 b2 w' hw => Free.at_load _ _ rfl rfl (load_str2 (HNm.out b1 b2 w' hw)) hw)) ?_
  go_simp
  refine Stage.wpSt_do (.int .i64 (syncE d nm)) rfl (Stage.two_do2 (by decide) (fun b w' hw => ?_)) ?_
  · refine Free.at_call _ _ rfl Try.func24 (by kernel_rfl) rfl [.pointer (some ⟨q, 0, none⟩), .string nm] rfl ?_
    exact (pref_sync hw.1 HFi.out nm hn).mono fun e w'' ⟨he, h⟩ => ⟨he, Duo.step2 hw h⟩
  go_simp
  refine Stage.wpSt_reads 2 (fun _ => True) (by kernel_rfl) (Stage.two_any (by simp) (by simp)) ?_
  simp only [List.take_succ_cons, List.take_zero, List.drop_succ_cons, List.drop_zero]
  repeat (go_big_quiet_step (fail))
  refine wpQuiet_nil (Stage.wpSt_nil (Stage.two_end ?_))
  intro w9 hw9
  have h9 : PairTo w0 w w9 p q _ _ X := PairTo.boxed HB1.out hw9
  have H9 := Lib.hid h9; clear h9 hw9
  go_wp2_with fail
  go_ret
  exact ⟨rfl, H9.out⟩
set_option maxRecDepth 100000 in
set_option maxHeartbeats 1000000 in
theorem does_cut (h : Pair w0 w p q d d X) (x : De) (hk : x.kind = 2) (hx : x.Ok) (hd : d.deeds ≤ 1000000) (hr : d.room ≤ 1000000000000) :
    Calls Try.prog 18 #[.pointer (some ⟨p, 0, none⟩), .pointer (some ⟨q, 0, none⟩), x.val] w fun e w' => e = .returned (.bool true) ∧ PairTo w0 w w' p q (doD d x) (doD d x) X := by
  have hD : doD d x = cutD d x.name x.n := by unfold doD; simp only [hk]
  rw [hD]
  obtain ⟨hfi, -⟩ := h.fine hd hr
  have hn := hx.name
  have hby := hx.b
  have hnr := hx.n
  obtain ⟨w1, hw1, hb1, hz1, hrow, h1, hX1⟩ := box_made h x
  have hnm : ∀ b1 b2 w', Duo w0 w1 p q d (cutD d x.name x.n) (Plus X w w1) b1 b2 w' → w'.cell? ⟨w.heap.size, 1, none⟩ = some (.string x.name) := fun b1 b2 w' hw => (PairTo.cell hw hX1 (by omega)).trans (hrow.cell 1)
  have hbb : ∀ b1 b2 w', Duo w0 w1 p q d (cutD d x.name x.n) (Plus X w w1) b1 b2 w' → w'.cell? ⟨w.heap.size, 2, none⟩ = some (.string x.b) := fun b1 b2 w' hw => (PairTo.cell hw hX1 (by omega)).trans (hrow.cell 2)
  have hnn : ∀ b1 b2 w', Duo w0 w1 p q d (cutD d x.name x.n) (Plus X w w1) b1 b2 w' → w'.cell? ⟨w.heap.size, 3, none⟩ = some (.int .i64 x.n) := fun b1 b2 w' hw => (PairTo.cell hw hX1 (by omega)).trans (hrow.cell 3)
  have hc0 : w1.cell? ⟨w.heap.size, 0, none⟩ = some (.int .u8 2) := by rw [hrow.cell 0]; show some (Value.int .u8 (x.kind : Nat)) = _; rw [hk]; rfl
  have hw1' : w.alloc (.cells #[.int .u8 2, .string x.name, .string x.b, .int .i64 x.n, .slice x.ka x.keep.length x.kc] TDe) = w1 := by
    rw [← hw1]; show _ = w.alloc (.cells #[.int .u8 (x.kind : Nat), .string x.name, .string x.b, .int .i64 x.n, .slice x.ka x.keep.length x.kc] TDe); rw [hk]; rfl
  rw [show x.val = .agg #[.int .u8 (x.kind : Nat), .string x.name, .string x.b, .int .i64 x.n, .slice x.ka x.keep.length x.kc] from rfl, hk]
  rw [show (.int .u8 ((2 : Nat) : Int) : Value) = .int .u8 2 from rfl]
  have HW1 := Lib.hid hw1'; have HNm := Lib.hid hnm; have HBy := Lib.hid hbb; have HN := Lib.hid hnn; have H1 := Lib.hid h1; have HB1 := Lib.hid hb1; have HFi := Lib.hid hfi
  clear hw1' hnm hbb hnn h1 hb1 hfi hrow hw1 hk hX1 hx h hD
  generalize x.name = nm at *
  generalize x.b = by_ at *
  generalize x.n = n at *
  go_enter Try.func18, Try.ntmps18
  go_wp2_with fail
  rw [HW1.out]
  go_wp2_with fail
  refine Stage.wp_region (by kernel_rfl) (by kernel_rfl) (Stage.two 5 11 (Duo w0 w1 p q d (cutD d nm n) (Plus X w w1))) (Stage.two_start (by simp) (by simp) (Duo.start (PairTo.refl H1.out).drew)) ?_
  refine Stage.wpSt_reads 2 (fun _ => True) (by kernel_rfl) (Stage.two_any (by simp) (by simp)) ?_
  simp only [List.take_succ_cons, List.take_zero, List.drop_succ_cons, List.drop_zero]
  repeat (go_big_quiet_step (fail))
  refine wpQuiet_nil ?_
  refine Stage.wpSt_do (.string nm) rfl (Stage.two_keep (by decide) (by decide) (fun b1 b2 w' hw => Free.at_load _ _ rfl rfl (load_str2 (HNm.out b1 b2 w' hw)) hw)) ?_
  go_simp
  refine Stage.wpSt_reads 1 (fun _ => True) (by kernel_rfl) (Stage.two_any (by simp) (by simp)) ?_
  simp only [List.take_succ_cons, List.take_zero, List.drop_succ_cons, List.drop_zero]
  repeat (go_big_quiet_step (fail))
  refine wpQuiet_nil ?_
  refine Stage.wpSt_do (.int .i64 n) rfl (Stage.two_keep (by decide) (by decide) (fun b1 b2 w' hw => Free.at_load _ _ rfl rfl (load_int2 (HN.out b1 b2 w' hw)) hw)) ?_
  go_simp
  refine Stage.wpSt_do (.int .i64 (cutE d nm n)) rfl (Stage.two_do1 (by decide) (fun b w' hw => ?_)) ?_
  · refine Free.at_call _ _ rfl Try.func30 (by kernel_rfl) rfl [.pointer (some ⟨p, 0, none⟩), .string nm, .int .i64 n] rfl ?_
    exact (pair_cut hw.1 nm n hn hnr (by show d.deeds ≤ _; omega)).mono fun e w'' ⟨he, h⟩ => ⟨he, Duo.step1 hw h⟩
  go_simp
  refine Stage.wpSt_reads 2 (fun _ => True) (by kernel_rfl) (Stage.two_any (by simp) (by simp)) ?_
  simp only [List.take_succ_cons, List.take_zero, List.drop_succ_cons, List.drop_zero]
  repeat (go_big_quiet_step (fail))
  refine wpQuiet_nil ?_
  refine Stage.wpSt_do (.string nm) rfl (Stage.two_keep (by decide) (by decide) (fun b1 b2 w' hw => Free.at_load _ _ rfl rfl (load_str2 (HNm.out b1 b2 w' hw)) hw)) ?_
  go_simp
  refine Stage.wpSt_reads 1 (fun _ => True) (by kernel_rfl) (Stage.two_any (by simp) (by simp)) ?_
  simp only [List.take_succ_cons, List.take_zero, List.drop_succ_cons, List.drop_zero]
  repeat (go_big_quiet_step (fail))
  refine wpQuiet_nil ?_
  refine Stage.wpSt_do (.int .i64 n) rfl (Stage.two_keep (by decide) (by decide) (fun b1 b2 w' hw => Free.at_load _ _ rfl rfl (load_int2 (HN.out b1 b2 w' hw)) hw)) ?_
  go_simp
  refine Stage.wpSt_do (.int .i64 (cutE d nm n)) rfl (Stage.two_do2 (by decide) (fun b w' hw => ?_)) ?_
  · refine Free.at_call _ _ rfl Try.func44 (by kernel_rfl) rfl [.pointer (some ⟨q, 0, none⟩), .string nm, .int .i64 n] rfl ?_
    exact (pref_cut hw.1 HFi.out nm n hn hnr).mono fun e w'' ⟨he, h⟩ => ⟨he, Duo.step2 hw h⟩
  go_simp
  refine Stage.wpSt_reads 2 (fun _ => True) (by kernel_rfl) (Stage.two_any (by simp) (by simp)) ?_
  simp only [List.take_succ_cons, List.take_zero, List.drop_succ_cons, List.drop_zero]
  repeat (go_big_quiet_step (fail))
  refine wpQuiet_nil (Stage.wpSt_nil (Stage.two_end ?_))
  intro w9 hw9
  have h9 : PairTo w0 w w9 p q _ _ X := PairTo.boxed HB1.out hw9
  have H9 := Lib.hid h9; clear h9 hw9
  go_wp2_with fail
  go_ret
  exact ⟨rfl, H9.out⟩
set_option maxRecDepth 100000 in
set_option maxHeartbeats 1000000 in
theorem does_rename (h : Pair w0 w p q d d X) (x : De) (hk : x.kind = 3) (hx : x.Ok) (hd : d.deeds ≤ 1000000) (hr : d.room ≤ 1000000000000) :
    Calls Try.prog 18 #[.pointer (some ⟨p, 0, none⟩), .pointer (some ⟨q, 0, none⟩), x.val] w fun e w' => e = .returned (.bool true) ∧ PairTo w0 w w' p q (doD d x) (doD d x) X := by
  have hD : doD d x = renameD d x.name x.b := by unfold doD; simp only [hk]
  rw [hD]
  obtain ⟨hfi, -⟩ := h.fine hd hr
  have hn := hx.name
  have hby := hx.b
  have hnr := hx.n
  obtain ⟨w1, hw1, hb1, hz1, hrow, h1, hX1⟩ := box_made h x
  have hnm : ∀ b1 b2 w', Duo w0 w1 p q d (renameD d x.name x.b) (Plus X w w1) b1 b2 w' → w'.cell? ⟨w.heap.size, 1, none⟩ = some (.string x.name) := fun b1 b2 w' hw => (PairTo.cell hw hX1 (by omega)).trans (hrow.cell 1)
  have hbb : ∀ b1 b2 w', Duo w0 w1 p q d (renameD d x.name x.b) (Plus X w w1) b1 b2 w' → w'.cell? ⟨w.heap.size, 2, none⟩ = some (.string x.b) := fun b1 b2 w' hw => (PairTo.cell hw hX1 (by omega)).trans (hrow.cell 2)
  have hnn : ∀ b1 b2 w', Duo w0 w1 p q d (renameD d x.name x.b) (Plus X w w1) b1 b2 w' → w'.cell? ⟨w.heap.size, 3, none⟩ = some (.int .i64 x.n) := fun b1 b2 w' hw => (PairTo.cell hw hX1 (by omega)).trans (hrow.cell 3)
  have hc0 : w1.cell? ⟨w.heap.size, 0, none⟩ = some (.int .u8 3) := by rw [hrow.cell 0]; show some (Value.int .u8 (x.kind : Nat)) = _; rw [hk]; rfl
  have hw1' : w.alloc (.cells #[.int .u8 3, .string x.name, .string x.b, .int .i64 x.n, .slice x.ka x.keep.length x.kc] TDe) = w1 := by
    rw [← hw1]; show _ = w.alloc (.cells #[.int .u8 (x.kind : Nat), .string x.name, .string x.b, .int .i64 x.n, .slice x.ka x.keep.length x.kc] TDe); rw [hk]; rfl
  rw [show x.val = .agg #[.int .u8 (x.kind : Nat), .string x.name, .string x.b, .int .i64 x.n, .slice x.ka x.keep.length x.kc] from rfl, hk]
  rw [show (.int .u8 ((3 : Nat) : Int) : Value) = .int .u8 3 from rfl]
  have HW1 := Lib.hid hw1'; have HNm := Lib.hid hnm; have HBy := Lib.hid hbb; have HN := Lib.hid hnn; have H1 := Lib.hid h1; have HB1 := Lib.hid hb1; have HFi := Lib.hid hfi
  clear hw1' hnm hbb hnn h1 hb1 hfi hrow hw1 hk hX1 hx h hD
  generalize x.name = nm at *
  generalize x.b = by_ at *
  generalize x.n = n at *
  go_enter Try.func18, Try.ntmps18
  go_wp2_with fail
  rw [HW1.out]
  go_wp2_with fail
  refine Stage.wp_region (by kernel_rfl) (by kernel_rfl) (Stage.two 5 11 (Duo w0 w1 p q d (renameD d nm by_) (Plus X w w1))) (Stage.two_start (by simp) (by simp) (Duo.start (PairTo.refl H1.out).drew)) ?_
  refine Stage.wpSt_reads 2 (fun _ => True) (by kernel_rfl) (Stage.two_any (by simp) (by simp)) ?_
  simp only [List.take_succ_cons, List.take_zero, List.drop_succ_cons, List.drop_zero]
  repeat (go_big_quiet_step (fail))
  refine wpQuiet_nil ?_
  refine Stage.wpSt_do (.string nm) rfl (Stage.two_keep (by decide) (by decide) (fun b1 b2 w' hw => Free.at_load _ _ rfl rfl (load_str2 (HNm.out b1 b2 w' hw)) hw)) ?_
  go_simp
  refine Stage.wpSt_reads 1 (fun _ => True) (by kernel_rfl) (Stage.two_any (by simp) (by simp)) ?_
  simp only [List.take_succ_cons, List.take_zero, List.drop_succ_cons, List.drop_zero]
  repeat (go_big_quiet_step (fail))
  refine wpQuiet_nil ?_
  refine Stage.wpSt_do (.string by_) rfl (Stage.two_keep (by decide) (by decide) (fun b1 b2 w' hw => Free.at_load _ _ rfl rfl (load_str2 (HBy.out b1 b2 w' hw)) hw)) ?_
  go_simp
  refine Stage.wpSt_do (.int .i64 (renameE d nm by_)) rfl (Stage.two_do1 (by decide) (fun b w' hw => ?_)) ?_
  · refine Free.at_call _ _ rfl Try.func26 (by kernel_rfl) rfl [.pointer (some ⟨p, 0, none⟩), .string nm, .string by_] rfl ?_
    exact (pair_rename hw.1 nm by_ hn hby (by show d.deeds ≤ _; omega)).mono fun e w'' ⟨he, h⟩ => ⟨he, Duo.step1 hw h⟩
  go_simp
  refine Stage.wpSt_reads 2 (fun _ => True) (by kernel_rfl) (Stage.two_any (by simp) (by simp)) ?_
  simp only [List.take_succ_cons, List.take_zero, List.drop_succ_cons, List.drop_zero]
  repeat (go_big_quiet_step (fail))
  refine wpQuiet_nil ?_
  refine Stage.wpSt_do (.string nm) rfl (Stage.two_keep (by decide) (by decide) (fun b1 b2 w' hw => Free.at_load _ _ rfl rfl (load_str2 (HNm.out b1 b2 w' hw)) hw)) ?_
  go_simp
  refine Stage.wpSt_reads 1 (fun _ => True) (by kernel_rfl) (Stage.two_any (by simp) (by simp)) ?_
  simp only [List.take_succ_cons, List.take_zero, List.drop_succ_cons, List.drop_zero]
  repeat (go_big_quiet_step (fail))
  refine wpQuiet_nil ?_
  refine Stage.wpSt_do (.string by_) rfl (Stage.two_keep (by decide) (by decide) (fun b1 b2 w' hw => Free.at_load _ _ rfl rfl (load_str2 (HBy.out b1 b2 w' hw)) hw)) ?_
  go_simp
  refine Stage.wpSt_do (.int .i64 (renameE d nm by_)) rfl (Stage.two_do2 (by decide) (fun b w' hw => ?_)) ?_
  · refine Free.at_call _ _ rfl Try.func45 (by kernel_rfl) rfl [.pointer (some ⟨q, 0, none⟩), .string nm, .string by_] rfl ?_
    exact (pref_rename hw.1 HFi.out nm by_ hn hby).mono fun e w'' ⟨he, h⟩ => ⟨he, Duo.step2 hw h⟩
  go_simp
  refine Stage.wpSt_reads 2 (fun _ => True) (by kernel_rfl) (Stage.two_any (by simp) (by simp)) ?_
  simp only [List.take_succ_cons, List.take_zero, List.drop_succ_cons, List.drop_zero]
  repeat (go_big_quiet_step (fail))
  refine wpQuiet_nil (Stage.wpSt_nil (Stage.two_end ?_))
  intro w9 hw9
  have h9 : PairTo w0 w w9 p q _ _ X := PairTo.boxed HB1.out hw9
  have H9 := Lib.hid h9; clear h9 hw9
  go_wp2_with fail
  go_ret
  exact ⟨rfl, H9.out⟩
set_option maxRecDepth 100000 in
set_option maxHeartbeats 1000000 in
theorem does_remove (h : Pair w0 w p q d d X) (x : De) (hk : x.kind = 4) (hx : x.Ok) (hd : d.deeds ≤ 1000000) (hr : d.room ≤ 1000000000000) :
    Calls Try.prog 18 #[.pointer (some ⟨p, 0, none⟩), .pointer (some ⟨q, 0, none⟩), x.val] w fun e w' => e = .returned (.bool true) ∧ PairTo w0 w w' p q (doD d x) (doD d x) X := by
  have hD : doD d x = removeD d x.name := by unfold doD; simp only [hk]
  rw [hD]
  obtain ⟨hfi, -⟩ := h.fine hd hr
  have hn := hx.name
  have hby := hx.b
  have hnr := hx.n
  obtain ⟨w1, hw1, hb1, hz1, hrow, h1, hX1⟩ := box_made h x
  have hnm : ∀ b1 b2 w', Duo w0 w1 p q d (removeD d x.name) (Plus X w w1) b1 b2 w' → w'.cell? ⟨w.heap.size, 1, none⟩ = some (.string x.name) := fun b1 b2 w' hw => (PairTo.cell hw hX1 (by omega)).trans (hrow.cell 1)
  have hbb : ∀ b1 b2 w', Duo w0 w1 p q d (removeD d x.name) (Plus X w w1) b1 b2 w' → w'.cell? ⟨w.heap.size, 2, none⟩ = some (.string x.b) := fun b1 b2 w' hw => (PairTo.cell hw hX1 (by omega)).trans (hrow.cell 2)
  have hnn : ∀ b1 b2 w', Duo w0 w1 p q d (removeD d x.name) (Plus X w w1) b1 b2 w' → w'.cell? ⟨w.heap.size, 3, none⟩ = some (.int .i64 x.n) := fun b1 b2 w' hw => (PairTo.cell hw hX1 (by omega)).trans (hrow.cell 3)
  have hc0 : w1.cell? ⟨w.heap.size, 0, none⟩ = some (.int .u8 4) := by rw [hrow.cell 0]; show some (Value.int .u8 (x.kind : Nat)) = _; rw [hk]; rfl
  have hw1' : w.alloc (.cells #[.int .u8 4, .string x.name, .string x.b, .int .i64 x.n, .slice x.ka x.keep.length x.kc] TDe) = w1 := by
    rw [← hw1]; show _ = w.alloc (.cells #[.int .u8 (x.kind : Nat), .string x.name, .string x.b, .int .i64 x.n, .slice x.ka x.keep.length x.kc] TDe); rw [hk]; rfl
  rw [show x.val = .agg #[.int .u8 (x.kind : Nat), .string x.name, .string x.b, .int .i64 x.n, .slice x.ka x.keep.length x.kc] from rfl, hk]
  rw [show (.int .u8 ((4 : Nat) : Int) : Value) = .int .u8 4 from rfl]
  have HW1 := Lib.hid hw1'; have HNm := Lib.hid hnm; have HBy := Lib.hid hbb; have HN := Lib.hid hnn; have H1 := Lib.hid h1; have HB1 := Lib.hid hb1; have HFi := Lib.hid hfi
  clear hw1' hnm hbb hnn h1 hb1 hfi hrow hw1 hk hX1 hx h hD
  generalize x.name = nm at *
  generalize x.b = by_ at *
  generalize x.n = n at *
  go_enter Try.func18, Try.ntmps18
  go_wp2_with fail
  rw [HW1.out]
  go_wp2_with fail
  refine Stage.wp_region (by kernel_rfl) (by kernel_rfl) (Stage.two 3 7 (Duo w0 w1 p q d (removeD d nm) (Plus X w w1))) (Stage.two_start (by simp) (by simp) (Duo.start (PairTo.refl H1.out).drew)) ?_
  refine Stage.wpSt_reads 2 (fun _ => True) (by kernel_rfl) (Stage.two_any (by simp) (by simp)) ?_
  simp only [List.take_succ_cons, List.take_zero, List.drop_succ_cons, List.drop_zero]
  repeat (go_big_quiet_step (fail))
  refine wpQuiet_nil ?_
  refine Stage.wpSt_do (.string nm) rfl (Stage.two_keep (by decide) (by decide) (fun b1 b2 w' hw => Free.at_load _ _ rfl rfl (load_str2 (HNm.out b1 b2 w' hw)) hw)) ?_
  go_simp
  refine Stage.wpSt_do (.int .i64 (removeE d nm)) rfl (Stage.two_do1 (by decide) (fun b w' hw => ?_)) ?_
  · refine Free.at_call _ _ rfl Try.func17 (by kernel_rfl) rfl [.pointer (some ⟨p, 0, none⟩), .string nm] rfl ?_
    exact (pair_remove hw.1 nm hn (by show d.deeds ≤ _; omega)).mono fun e w'' ⟨he, h⟩ => ⟨he, Duo.step1 hw h⟩
  go_simp
  refine Stage.wpSt_reads 2 (fun _ => True) (by kernel_rfl) (Stage.two_any (by simp) (by simp)) ?_
  simp only [List.take_succ_cons, List.take_zero, List.drop_succ_cons, List.drop_zero]
  repeat (go_big_quiet_step (fail))
  refine wpQuiet_nil ?_
  refine Stage.wpSt_do (.string nm) rfl (Stage.two_keep (by decide) (by decide) (fun b1 b2 w' hw => Free.at_load _ _ rfl rfl (load_str2 (HNm.out b1 b2 w' hw)) hw)) ?_
  go_simp
  refine Stage.wpSt_do (.int .i64 (removeE d nm)) rfl (Stage.two_do2 (by decide) (fun b w' hw => ?_)) ?_
  · refine Free.at_call _ _ rfl Try.func46 (by kernel_rfl) rfl [.pointer (some ⟨q, 0, none⟩), .string nm] rfl ?_
    exact (pref_remove hw.1 HFi.out nm hn).mono fun e w'' ⟨he, h⟩ => ⟨he, Duo.step2 hw h⟩
  go_simp
  refine Stage.wpSt_reads 2 (fun _ => True) (by kernel_rfl) (Stage.two_any (by simp) (by simp)) ?_
  simp only [List.take_succ_cons, List.take_zero, List.drop_succ_cons, List.drop_zero]
  repeat (go_big_quiet_step (fail))
  refine wpQuiet_nil (Stage.wpSt_nil (Stage.two_end ?_))
  intro w9 hw9
  have h9 : PairTo w0 w w9 p q _ _ X := PairTo.boxed HB1.out hw9
  have H9 := Lib.hid h9; clear h9 hw9
  go_wp2_with fail
  go_ret
  exact ⟨rfl, H9.out⟩
end
end Go.Proofs.Ytiagoaaldpajmaa
