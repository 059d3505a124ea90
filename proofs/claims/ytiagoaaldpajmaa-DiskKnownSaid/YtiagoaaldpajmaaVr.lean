/- Several texts in one: RefWith2, RefSure. -/
import Derived.Test.YtiagoaaldpajmaaVq
namespace Go.Proofs.Ytiagoaaldpajmaa
open Go.ChangeShapes Go.WideShapes Go.ChangeAt Go.RowKit Go.BigFrame Go.Maps Go.Sort
set_option linter.unusedVariables false
section
variable {w w' : World} {q : Nat} {d : DM} {es ys ts : List En} {A : Option Addr} {c k : Nat} {M M' : Nat → Prop} {e x : En} {G : Nat → Prop}
theorem g_append {P : Program} {K : Value → World → Prop} {o : Oper} {a : Act} {w w' : World} {v' : Value} (s x : Operand) (t : TypeId) (ho : o.op = .call { callee := .builtin .append, args := #[s, x], argTypes := #[t, t] }) (v y : Value) (hs : a.eval s = v) (hx : a.eval x = y)
    (hr : (Builtin.append_ #[t, t] o.type #[v, y]).run P w = .ok v' w') (h : K v' w') : Free.gets P K ((execOp a.eval o).run P w) := by
  unfold execOp
  simp only [ho, resolve, invoke, builtin, Sem.run_bind, Sem.run_pure, Result.andThen_ok, List.map_toArray, List.map_cons, List.map_nil, hs, hx, hr, Free.gets]
  exact h
theorem g_nil {P : Program} {K : Value → World → Prop} {o : Oper} {a : Act} {w : World} {b : Addr} (x : Operand) (ho : o.op = .nilCheck x) (hx : a.eval x = .pointer (some b)) (h : K (.pointer (some b)) w) : Free.gets P K ((execOp a.eval o).run P w) := by
  unfold execOp
  simp only [ho, hx, Sem.run_pure, Free.gets]
  exact h
theorem g_slice {P : Program} {K : Value → World → Prop} {o : Oper} {a : Act} {w w' : World} {v' u v : Value} (t : TypeId) (x y : Operand) (ho : o.op = .slice t x none (some y) none) (hx : a.eval x = u) (hy : a.eval y = v)
    (hr : (Instr.sliceAt t u none (some v) none).run P w = .ok v' w') (h : K v' w') : Free.gets P K ((execOp a.eval o).run P w) := by
  unfold execOp
  simp only [ho, Option.map_some, Option.map_none, hx, hy, Sem.run_bind, hr, Result.andThen_ok, Sem.run_pure, Free.gets]
  exact h
theorem g_made {P : Program} {K : Value → World → Prop} {o : Oper} {a : Act} {w w' : World} {v' u : Value} (t : TypeId) (n : Nat) (x : Operand) (ho : o.op = .buildSlice t n #[(0, x)]) (hx : a.eval x = u)
    (hr : (Instr.buildSlice t n #[(0, u)]).run P w = .ok v' w') (h : K v' w') : Free.gets P K ((execOp a.eval o).run P w) := by
  unfold execOp
  simp only [ho, List.map_toArray, List.map_cons, List.map_nil, hx, Sem.run_bind, hr, Result.andThen_ok, Sem.run_pure, Free.gets]
  exact h
theorem build_en (w : World) (x : En) : (Instr.buildSlice TFS 1 #[(0, x.val)]).run Try.prog w = .ok (.slice (some ⟨w.heap.size, 0, none⟩) 1 1) (w.alloc (.cells x.cells.toArray TRF)) := by
  rw [show x.val = .agg #[.string x.name, .slice x.ba x.f.b.length x.bc, .int .i64 (x.f.sure : Nat), .bool x.f.made] from rfl]
  go_simp
  rfl
theorem row_src {w : World} {b : Nat} {x : En} (h : Row w b TRF x.cells) : SrcAt w (some ⟨b, 0, none⟩) [x] 1 := ⟨by simp, fun _ => ⟨b, 0, rfl, h.lt, fun j e hj => by
  cases j with
  | succ j => simp at hj
  | zero =>
    simp at hj; subst hj
    exact ⟨h.cell 0, h.cell 1, h.cell 2, h.cell 3⟩⟩⟩
/-- M, and what has been made since -/
def Since (M : Nat → Prop) (w w' : World) : Nat → Prop := fun k => M k ∨ w.heap.size ≤ k ∧ k < w'.heap.size
set_option maxRecDepth 100000 in
set_option maxHeartbeats 8000000 in
theorem ref_with (h : RefAt w q d es A c M) (hMb : ∀ k, M k → k < w.heap.size) (hx : EnOk w M x) (hl : es.length ≤ 1000000) :
    Calls Try.prog 56 #[.pointer (some ⟨q, 0, none⟩), x.val] w fun e w' => e = .returned (.tuple #[]) ∧ ∃ es' A' c', RefAt w' q { d with fs := putF x.name.data.toList x.f d.fs } es' A' c' (Since M w w') ∧ Touch (· = q) w w' := by
  obtain ⟨W1, hW1⟩ : ∃ W1, W1 = w.alloc (.cells x.cells.toArray TRF) := ⟨_, rfl⟩
  have hbl : Below w.heap.size w W1 := by rw [hW1]; exact (Below.refl _ _).alloc (Nat.le_refl _) _
  have hrow1 : Row W1 w.heap.size TRF x.cells := by rw [hW1]; exact Row.made w TRF x.cells
  have h1 : RefAt W1 q d es A c M := h.still (Touch.of_below hbl)
  have hq := h.row.lt
  obtain ⟨kf, hkf⟩ : ∃ kf, kf = w.heap.size := ⟨_, rfl⟩
  rw [← hkf] at hrow1 hq
  have hwo := ref_without h1 x.name (by omega)
  have hlen1 : (outE (posF x.name.data.toList d.fs) (isF x.name.data.toList d.fs) es).length ≤ es.length := by
    have hp : posF x.name.data.toList d.fs ≤ es.length := by
      have hl : d.fs.length = es.length := by rw [h.fs, List.length_map]
      rw [← hl]; exact posF_le
    unfold outE; split <;> simp <;> omega
  have hkey := out_key h x.name.data.toList
  have hmem1 : ∀ e ∈ outE (posF x.name.data.toList d.fs) (isF x.name.data.toList d.fs) es, e ∈ es := fun e he => by
    unfold outE at he
    rcases List.mem_append.1 he with he | he
    · exact List.mem_of_mem_take he
    · exact List.mem_of_mem_drop he
  generalize outE (posF x.name.data.toList d.fs) (isF x.name.data.toList d.fs) es = es1 at *
  have e0 : W1.cell? ⟨kf, 0, none⟩ = some (.string x.name) := hrow1.cell 0
  have hkfl : kf < W1.heap.size := hrow1.lt
  have HW := Lib.hid hwo; have H1 := Lib.hid h1; have HBl := Lib.hid hbl; have HRow1 := Lib.hid hrow1; have HKey := Lib.hid hkey; have HMem1 := Lib.hid hmem1; have HMb := Lib.hid hMb; have HX := Lib.hid hx; have HH := Lib.hid h; have HKf := Lib.hid hkf; have HW1 := Lib.hid (show W1 = w.alloc (.cells #[.string x.name, .slice x.ba x.f.b.length x.bc, .int .i64 (x.f.sure : Nat), .bool x.f.made] TRF) from hW1)
  rw [show x.val = .agg #[.string x.name, .slice x.ba x.f.b.length x.bc, .int .i64 (x.f.sure : Nat), .bool x.f.made] from rfl]
  clear hwo h1 hbl hrow1 hkey hmem1 hMb hx h hkf hW1
  go_enter Try.func56, Try.ntmps56
  go_wp2_with fail
  rw [← HW1.out, ← HKf.out]
  refine (HW.out).mono ?_; rintro e w2 ⟨A1, c1, rfl, hens1, hb2⟩
  -- stored
  have h2 : RefAt w2 q d es A c M := H1.out.still (Touch.of_below hb2)
  have hrow2 : Row w2 kf TRF x.cells := HRow1.out.below hb2 hkfl
  have hz := h2.row.free
  obtain ⟨g0, -, -, -, -⟩ := rrow h2.row
  have hql := h2.row.lt
  have hr3 : Row (w2.setCell ⟨q, 0, none⟩ (.slice A1 es1.length c1)) q TR (rcells A1 es1.length c1 d.room d.deeds d.fuse d.off) := h2.row.put 0 (.slice A1 es1.length c1)
  have ht3 : Touch (· = q) w2 (w2.setCell ⟨q, 0, none⟩ (.slice A1 es1.length c1)) := (Touch.refl (· = q) w2).setCell (p := ⟨q, 0, none⟩) (.inl rfl) _
  have hM3 : ∀ k, Since M w w2 k → k ≠ q := by
    rintro k (hk | hk) e
    · exact HH.out.free (e ▸ hk)
    · have := HKf.out; omega
  have hsz : w.heap.size ≤ W1.heap.size := HBl.out.size
  have h3 : RefAt (w2.setCell ⟨q, 0, none⟩ (.slice A1 es1.length c1)) q { d with fs := delF x.name.data.toList d.fs } es1 A1 c1 (Since M w w2) :=
    h2.files hr3 ((hens1.mono fun k hk => .inr ⟨by have := hk.1; omega, hk.2⟩).touch ht3 (fun k hk => hM3 k hk)) (fun e he => ((h2.ens e (HMem1.out e he)).mono fun k hk => .inl hk).touch ht3 (fun k hk => hM3 k hk)) HKey.out.symm ⟨rfl, rfl, rfl, rfl⟩ (fun hk => hM3 q hk rfl) (SortF.del HH.out.sort)
  have hx3 : EnOk (w2.setCell ⟨q, 0, none⟩ (.slice A1 es1.length c1)) (Since M w w2) x := ((HX.out.touch (Touch.of_below (F := fun _ => False) HBl.out) (fun _ _ h => h)).touch (Touch.of_below (F := fun _ => False) hb2) (fun _ _ h => h)).mono (fun k hk => .inl hk) |>.touch ht3 (fun k hk => hM3 k hk)
  have hrow3 : Row (w2.setCell ⟨q, 0, none⟩ (.slice A1 es1.length c1)) kf TRF x.cells := hrow2.touch ht3 (by omega)
  have hT3 : Touch (· = q) w (w2.setCell ⟨q, 0, none⟩ (.slice A1 es1.length c1)) := ((Touch.of_below (F := (· = q)) HBl.out).trans (Touch.of_below (F := (· = q)) hb2)).trans ht3
  have hs3 : (w2.setCell ⟨q, 0, none⟩ (.slice A1 es1.length c1)).heap.size = w2.heap.size := by simp
  have hat := at_any h3 x.name
  have hnone : isF x.name.data.toList (delF x.name.data.toList d.fs) = false := by
    unfold isF getF
    rw [Option.isSome_map, Option.isSome_eq_false_iff, Option.isNone_iff_eq_none, List.find?_eq_none]
    intro y hy
    simp [(mem_delF.1 hy).2]
  have hnew := ins_out (n := x.name.data.toList) (f := x.f) (fs := delF x.name.data.toList d.fs) (fun p hp => (mem_delF.1 hp).2)
  have hk2l : posF x.name.data.toList (delF x.name.data.toList d.fs) ≤ es1.length := by
    have hl : (delF x.name.data.toList d.fs).length = es1.length := by rw [← HKey.out, List.length_map]
    rw [← hl]; exact posF_le
  have hat' : Calls Try.prog 69 #[.pointer (some ⟨q, 0, none⟩), .string x.name] (w2.setCell ⟨q, 0, none⟩ (.slice A1 es1.length c1)) fun e w' => e = .returned (.tuple #[.int .i64 (posF x.name.data.toList (delF x.name.data.toList d.fs) : Nat), .bool (isF x.name.data.toList (delF x.name.data.toList d.fs))]) ∧ w' = (w2.setCell ⟨q, 0, none⟩ (.slice A1 es1.length c1)).drew := hat
  rw [hnone] at hat'
  obtain ⟨k2, hk2⟩ : ∃ k2, k2 = posF x.name.data.toList (delF x.name.data.toList d.fs) := ⟨_, rfl⟩
  rw [← hk2] at hat' hnew hk2l
  have e2 : w2.cell? ⟨kf, 0, none⟩ = some (.string x.name) := hrow2.cell 0
  have e3 : (w2.setCell ⟨q, 0, none⟩ (.slice A1 es1.length c1)).cell? ⟨kf, 0, none⟩ = some (.string x.name) := hrow3.cell 0
  have hkf2 : kf < w2.heap.size := hrow2.lt
  have HAt := Lib.hid hat'; have H3 := Lib.hid h3; have HX3 := Lib.hid hx3; have HRow3 := Lib.hid hrow3; have HT3 := Lib.hid hT3; have HS3 := Lib.hid hs3; have HNew := Lib.hid hnew; have HM3 := Lib.hid hM3
  clear hat hat' h3 hx3 hrow3 hT3 hs3 hnew hM3 hr3 ht3 hrow2 h2 hens1 hb2 hnone hk2 hsz
  go_wp2_with fail
  refine (HAt.out).mono ?_; rintro e w4 ⟨rfl, rfl⟩
  go_wp2_with fail
  have hW0 : ∃ W, W = (w2.setCell ⟨q, 0, none⟩ (.slice A1 es1.length c1)).drew := ⟨_, rfl⟩
  obtain ⟨W, hW⟩ := hW0
  have h4 : RefAt W q { d with fs := delF x.name.data.toList d.fs } es1 A1 c1 (Since M w w2) := by rw [hW]; exact H3.out.still (Touch.refl _ _).drew
  have hx4 : EnOk W (Since M w w2) x := by rw [hW]; exact HX3.out.touch (Touch.refl (fun _ => False) _).drew (fun _ _ h => h)
  have hrow4 : Row W kf TRF x.cells := by rw [hW]; exact HRow3.out.drew
  have hT4 : Touch (· = q) w W := by rw [hW]; exact HT3.out.drew
  have hS4 : W.heap.size = w2.heap.size := by rw [hW]; exact HS3.out
  rw [← hW]
  obtain ⟨A2, c2, hs1, hsr1⟩ := slice_low h4.list.src hk2l h4.list.cap
  have hlt1 : (es1.take k2).length = k2 := by rw [List.length_take]; omega
  have H4 := Lib.hid h4; have HX4 := Lib.hid hx4; have HRow4 := Lib.hid hrow4; have HT4 := Lib.hid hT4; have HS4 := Lib.hid hS4; have HSr := Lib.hid hsr1; have HSl := Lib.hid hs1
  clear h4 hx4 hrow4 hT4 hS4 hsr1 hs1 hW H3 HX3 HRow3 HT3 HS3 HAt e2 e3 g0 hz
  refine Free.wp_drop (by kernel_rfl) (by kernel_rfl) 10 [7, 9] (fun w' => Below W.heap.size W w') (fun i v w' => match i with
    | 0 => v = .slice none 0 0
    | 1 => v = .pointer (some ⟨q, 0, none⟩)
    | 2 => v = .pointer (some ⟨q, 0, none⟩)
    | 3 => v = .pointer (some ⟨q, 0, none⟩)
    | 4 => v = .slice A1 es1.length c1
    | 5 => v = .int .i64 (k2 : Nat)
    | 6 => v = .slice A2 k2 c2
    | 7 => w'.ownsRow W.heap.size TRF 4 v k2 (enRow (es1.take k2))
    | 8 => v = x.val
    | 9 => ∃ b, v = .slice (some ⟨b, 0, none⟩) 1 1 ∧ SrcAt w' (some ⟨b, 0, none⟩) [x] 1
    | 10 => w'.ownsRow W.heap.size TRF 4 v (k2 + 1) (enRow (es1.take k2 ++ [x]))
    | 11 => w'.ownsRow W.heap.size TRF 4 v (k2 + 1) (enRow (es1.take k2 ++ [x]))
    | _ => True) (Below.refl _ _).drew ?_ ?_
  · intro i o hi a wa hold hyet hpre hbw
    have hra := H4.out.still (Touch.of_below hbw)
    match i with
    | 0 => cases hi; exact Free.g_move _ rfl ⟨(hyet 11 _ 6 (by kernel_rfl) rfl rfl).trans rfl, hbw, fun j u _ _ _ h => h⟩
    | 1 => cases hi; exact Free.g_move _ rfl ⟨(hold 0 (by decide)).trans rfl, hbw, fun j u _ _ _ h => h⟩
    | 2 =>
      cases hi
      have h0 := hpre 1 _ _ (by kernel_rfl) rfl rfl (by decide)
      exact g_nil _ rfl h0 ⟨rfl, hbw, fun j u _ _ _ h => h⟩
    | 3 =>
      cases hi
      have h0 := hpre 2 _ _ (by kernel_rfl) rfl rfl (by decide)
      exact Free.g_field _ _ _ rfl h0 (by go_simp) ⟨rfl, hbw, fun j u _ _ _ h => h⟩
    | 4 =>
      cases hi
      have h0 := hpre 3 _ _ (by kernel_rfl) rfl rfl (by decide)
      have hc := (rrow hra.row).1
      exact Free.g_load _ _ rfl h0 (by go_simp) ⟨rfl, hbw, fun j u _ _ _ h => h⟩
    | 5 => cases hi; exact Free.g_move _ rfl ⟨(hold 4 (by decide)).trans rfl, hbw, fun j u _ _ _ h => h⟩
    | 6 =>
      cases hi
      have h0 := hpre 4 _ _ (by kernel_rfl) rfl rfl (by decide)
      have h1 := hpre 5 _ _ (by kernel_rfl) rfl rfl (by decide)
      exact g_slice _ _ _ rfl h0 h1 (HSl.out wa) ⟨rfl, hbw, fun j u _ _ _ h => h⟩
    | 7 =>
      cases hi
      have h0 := hpre 0 _ _ (by kernel_rfl) rfl rfl (by decide)
      have h1 := hpre 6 _ _ (by kernel_rfl) rfl rfl (by decide)
      obtain ⟨v1, w1, hr1, hown1, hgr1⟩ := run_append_ens (w := wa) (ts := []) (ys := es1.take k2) TFS W.heap.size (.slice none 0 0) 0 ⟨rfl, .inl ⟨rfl, rfl⟩⟩ (HSr.out.below hbw) (by rw [hlt1]; omega) hbw.size
      rw [hlt1] at hr1 hown1
      rw [List.nil_append, Nat.zero_add] at hown1
      have hb1 : Below wa.heap.size wa w1 := below_grown hgr1 (by simp [Value.ownBlock]) (Nat.le_refl _)
      refine g_append _ _ TFS rfl _ _ h0 h1 hr1 ⟨hown1, hbw.trans (hb1.mono hbw.size), fun j u _ _ _ h => ?_⟩
      match j with
      | 0 | 1 | 2 | 3 | 4 | 5 | 6 | 8 => exact h
      | 7 | 10 | 11 => exact ownsRow_touch h (Touch.of_below (F := fun _ => False) hb1) (by simp)
      | 9 => obtain ⟨b, e, hs⟩ := h; exact ⟨b, e, hs.below hb1⟩
      | _ + 12 => trivial
    | 8 =>
      cases hi
      have hc := (HRow4.out.below hbw HRow4.out.lt)
      exact Free.g_load _ _ rfl ((hold 3 (by decide)).trans rfl) (load_en wa ⟨hc.cell 0, hc.cell 1, hc.cell 2, hc.cell 3⟩) ⟨rfl, hbw, fun j u _ _ _ h => h⟩
    | 9 =>
      cases hi
      have h0 := hpre 8 _ _ (by kernel_rfl) rfl rfl (by decide)
      have hb1 : Below wa.heap.size wa (wa.alloc (.cells x.cells.toArray TRF)) := (Below.refl _ _).alloc (Nat.le_refl _) _
      refine g_made _ _ _ rfl h0 (build_en wa x) ⟨⟨_, rfl, row_src (Row.made wa TRF x.cells)⟩, hbw.trans (hb1.mono hbw.size), fun j u _ _ _ h => ?_⟩
      match j with
      | 0 | 1 | 2 | 3 | 4 | 5 | 6 | 8 => exact h
      | 7 | 10 | 11 => exact ownsRow_touch h (Touch.of_below (F := fun _ => False) hb1) (by simp)
      | 9 => obtain ⟨b, e, hs⟩ := h; exact ⟨b, e, hs.below hb1⟩
      | _ + 12 => trivial
    | 10 =>
      cases hi
      have h0 := hpre 7 _ _ (by kernel_rfl) rfl rfl (by decide)
      obtain ⟨b, h1, hsr⟩ := hpre 9 _ _ (by kernel_rfl) rfl rfl (by decide)
      obtain ⟨v1, w1, hr1, hown1, hgr1⟩ := run_append_ens (w := wa) (ts := es1.take k2) (ys := [x]) TFS W.heap.size _ k2 h0 hsr (by simp; omega) hbw.size
      have hb1 : Below W.heap.size wa w1 := below_grown hgr1 (fun k hk => (World.ownsRow.lt h0 k hk).1) hbw.size
      refine g_append _ _ TFS rfl _ _ rfl h1 hr1 ⟨hown1, hbw.trans hb1, fun j u hj hw hD h => ?_⟩
      match j with
      | 0 | 1 | 2 | 3 | 4 | 5 | 6 | 8 => exact h
      | 7 | 9 => rcases hD with hD | hD
                 · cases hD
                 · exact absurd rfl hD
      | 10 => exact absurd rfl hj
      | 11 => exact absurd (hw.symm.trans (by kernel_rfl : _ = true)) Bool.false_ne_true
      | _ + 12 => trivial
    | 11 =>
      cases hi
      have h0 := hpre 10 _ _ (by kernel_rfl) rfl rfl (by decide)
      exact Free.g_assign _ rfl ⟨h0, hbw, fun j u _ _ _ h => h⟩
    | _ + 12 => cases hi
  · intro vs w5 hv hbw
    have h11 : w5.ownsRow W.heap.size TRF 4 (vs 11) (k2 + 1) (enRow (es1.take k2 ++ [x])) := hv 11 (by simp) (by rintro o ⟨⟩; rfl) (by decide)
    have h5 := H4.out.still (Touch.of_below hbw)
    have hrow5 := h5.row
    obtain ⟨A3, c3, hs3, hsr3⟩ := slice_high h5.list.src hk2l h5.list.cap
    have hlt3 : (es1.drop k2).length = es1.length - k2 := List.length_drop
    obtain ⟨v6, w6, hr6, hown6, hgr6⟩ := run_append_ens (w := w5) (ts := es1.take k2 ++ [x]) (ys := es1.drop k2) TFS W.heap.size (vs 11) (k2 + 1) h11 hsr3 (by rw [hlt3]; omega) hbw.size
    rw [hlt3] at hr6
    have hb6 : Below W.heap.size W w6 := hbw.trans (below_grown hgr6 (fun k hk => (World.ownsRow.lt h11 k hk).1) hbw.size)
    obtain ⟨A4, c4, hv6, hn6, hens6⟩ := ens_of_own hown6
    rw [← hn6] at hv6
    subst hv6
    have h6 := H4.out.still (Touch.of_below hb6)
    have hx6 := HX4.out.touch (Touch.of_below (F := fun _ => False) hb6) (fun _ _ h => h)
    have g5 : w5.cell? ⟨q, 0, none⟩ = some (.slice A1 es1.length c1) := (rrow h5.row).1
    have g6 : w6.cell? ⟨q, 0, none⟩ = some (.slice A1 es1.length c1) := (rrow h6.row).1
    have hz6 := h6.row.free
    have hq6 := h6.row.lt
    have hWs : W.heap.size ≤ w6.heap.size := hb6.size
    have hww : w.heap.size ≤ W.heap.size := HT4.out.size
    have hr7 : Row (w6.setCell ⟨q, 0, none⟩ (.slice A4 (k2 + 1 + (es1.length - k2)) c4)) q TR (rcells A4 (es1.take k2 ++ [x] ++ es1.drop k2).length c4 d.room d.deeds d.fuse d.off) := by
      rw [← hn6, hlt3]
      exact h6.row.put 0 (.slice A4 (k2 + 1 + (es1.length - k2)) c4)
    have ht7 : Touch (· = q) w6 (w6.setCell ⟨q, 0, none⟩ (.slice A4 (k2 + 1 + (es1.length - k2)) c4)) := (Touch.refl (· = q) w6).setCell (p := ⟨q, 0, none⟩) (.inl rfl) _
    have hM7 : ∀ k, Since M w w6 k → k ≠ q := by
      rintro k (hk | hk) e
      · exact HH.out.free (e ▸ hk)
      · have := HKf.out; omega
    have hsub : ∀ k, Since M w w2 k → Since M w w6 k := by
      rintro k (hk | hk)
      · exact .inl hk
      · exact .inr ⟨hk.1, by have := HS4.out; omega⟩
    have hsz7 : (w6.setCell ⟨q, 0, none⟩ (.slice A4 (k2 + 1 + (es1.length - k2)) c4)).heap.size = w6.heap.size := by simp
    have h7 : RefAt (w6.setCell ⟨q, 0, none⟩ (.slice A4 (k2 + 1 + (es1.length - k2)) c4)) q { d with fs := putF x.name.data.toList x.f d.fs } (es1.take k2 ++ [x] ++ es1.drop k2) A4 c4 (Since M w w6) := by
      refine h6.files hr7 ((hens6.mono fun k hk => .inr ⟨by have := hk.1; omega, hk.2⟩).touch ht7 (fun k hk => hM7 k hk)) (fun e he => ?_) ?_ ⟨rfl, rfl, rfl, rfl⟩ (fun hk => hM7 q hk rfl) (SortF.put HH.out.sort)
      · have hin : e = x ∨ e ∈ es1 := by
          rcases List.mem_append.1 he with he | he
          · rcases List.mem_append.1 he with he | he
            · exact .inr (List.mem_of_mem_take he)
            · exact .inl (by simpa using he)
          · exact .inr (List.mem_of_mem_drop he)
        rcases hin with rfl | hin
        · exact (hx6.mono hsub).touch ht7 (fun k hk => hM7 k hk)
        · exact ((h6.ens e hin).mono hsub).touch ht7 (fun k hk => hM7 k hk)
      · show insF (x.name.data.toList, x.f) (delF x.name.data.toList d.fs) = _
        rw [HNew.out, ← HKey.out]
        simp [En.key]
    have hT7 : Touch (· = q) w (w6.setCell ⟨q, 0, none⟩ (.slice A4 (k2 + 1 + (es1.length - k2)) c4)) := (HT4.out.trans (Touch.of_below (F := (· = q)) hb6)).trans ht7
    have H7 := Lib.hid h7; have HT7 := Lib.hid hT7; have HSz7 := Lib.hid hsz7
    clear hv h11 hbw h5 hrow5 hsr3 hown6 hgr6 hb6 hens6 hn6 h6 hx6 hr7 ht7 hM7 hsub h7 hT7 hsz7
    simp only [Free.puts]
    generalize vs 11 = v11 at *
    go_simp
    go_wp2_with (at_builtin; refine wpList_append_run rfl _ _ TFS rfl _ _ _ rfl rfl hr6 ?_)
    go_end0
    refine ⟨rfl, es1.take k2 ++ [x] ++ es1.drop k2, A4, c4, ?_, HT7.out⟩
    have e7 : Since M w (w6.setCell ⟨q, 0, none⟩ (.slice A4 (k2 + 1 + (es1.length - k2)) c4)) = Since M w w6 := by unfold Since; rw [HSz7.out]
    rw [e7]
    exact H7.out
end
end Go.Proofs.Ytiagoaaldpajmaa
namespace Go.Proofs.Ytiagoaaldpajmaa
open Go.ChangeShapes Go.WideShapes Go.ChangeAt Go.RowKit Go.BigFrame Go.Maps Go.Sort
set_option linter.unusedVariables false
section
variable {w w' w1 w2 : World} {q : Nat} {d : DM} {es ys ts es1 : List En} {A A1 : Option Addr} {c c1 k : Nat} {M M' N : Nat → Prop} {e x : En} {G : Nat → Prop}
theorem RefAt.mono (h : RefAt w q d es A c M) (hM : ∀ k, M k → M' k) (hq : ¬ M' q) : RefAt w q d es A c M' := ⟨h.row, h.list.mono hM, fun e he => (h.ens e he).mono hM, h.fs, hq, h.room, h.fuse, h.sort⟩
/-- the files but one are stored -/
theorem ref_less (h : RefAt w q d es A c M) (n : Nm) (hens : EnsAt w N A1 es1 c1) (hN : ∀ k, N k → M' k) (hM : ∀ k, M k → M' k) (hq : ¬ M' q) (hmem : ∀ e ∈ es1, e ∈ es) (hkey : es1.map En.key = delF n d.fs) :
    RefAt (w.setCell ⟨q, 0, none⟩ (.slice A1 es1.length c1)) q { d with fs := delF n d.fs } es1 A1 c1 M' ∧ Touch (· = q) w (w.setCell ⟨q, 0, none⟩ (.slice A1 es1.length c1)) := by
  have ht : Touch (· = q) w (w.setCell ⟨q, 0, none⟩ (.slice A1 es1.length c1)) := (Touch.refl (· = q) w).setCell (p := ⟨q, 0, none⟩) (.inl rfl) _
  have hM3 : ∀ k, M' k → ¬ k = q := fun k hk e => hq (e ▸ hk)
  exact ⟨h.files (h.row.put 0 (.slice A1 es1.length c1)) ((hens.mono hN).touch ht hM3) (fun e he => ((h.ens e (hmem e he)).mono hM).touch ht hM3) hkey.symm ⟨rfl, rfl, rfl, rfl⟩ hq (SortF.del h.sort), ht⟩
theorem out_mem {k : Nat} {b : Bool} : ∀ e ∈ outE k b es, e ∈ es := fun e he => by
  unfold outE at he
  rcases List.mem_append.1 he with he | he
  · exact List.mem_of_mem_take he
  · exact List.mem_of_mem_drop he
theorem Since.old (h : M k) : Since M w w' k := .inl h
theorem Since.step (h1 : w.heap.size ≤ w1.heap.size) (h2 : w1.heap.size ≤ w2.heap.size) : ∀ k, Since (Since M w w1) w1 w2 k → Since M w w2 k := by
  rintro k ((h | h) | h)
  · exact .inl h
  · exact .inr ⟨h.1, by omega⟩
  · exact .inr ⟨by omega, h.2⟩
theorem Since.lt (hMb : ∀ k, M k → k < w.heap.size) (h : w.heap.size ≤ w'.heap.size) : ∀ k, Since M w w' k → k < w'.heap.size := by
  rintro k (hk | hk)
  · have := hMb k hk; omega
  · exact hk.2
theorem slice_bytes {B : Option Addr} {n l c : Nat} (hn : n ≤ l) (hl : l ≤ c) (w2 : World) : (Instr.sliceAt 36 (.slice B l c) none (some (.int .i64 (n : Nat))) none).run Try.prog w2 = .ok (.slice B n c) w2 := by
  rw [run_sliceAt_slice (P := Try.prog) (h := by kernel_rfl), run_slice_h (P := Try.prog) (ht := by kernel_rfl) _ _ _ _ _ _ _ (by omega) (by omega)]
  have hs : (sizeOf (Try.prog.elem 36)).run Try.prog w2 = .ok 1 w2 := by go_simp
  rw [hs]
  simp [sliced, Result.andThen]
  intro _
  cases B <;> rfl
set_option maxRecDepth 100000 in
set_option maxHeartbeats 8000000 in
theorem ref_sure_well (h : RefAt w q d es A c M) (hMb : ∀ k, M k → k < w.heap.size) (s t : ByteArray) (n : Nat) (hs : s.size ≤ 9223372036854775807) (ht : t.size ≤ 9223372036854775807) (hfu : d.fuse ≠ 1) (hd : d.deeds ≤ 1000000000) (hl : es.length ≤ 1000000)
    (hn : n ≤ ((getF s.data.toList d.fs).getD newF).b.length) :
    Calls Try.prog 58 #[.pointer (some ⟨q, 0, none⟩), .string s, .string t, .int .i64 (n : Nat)] w fun e w' => e = .returned (.int .i64 0) ∧
      ∃ es' A' c', RefAt w' q { d.tick with fs := putF t.data.toList (cutF ((getF s.data.toList d.fs).getD newF) n) (delF s.data.toList d.fs) } es' A' c' (Since M w w') ∧ Touch (· = q) w w' := by
  have hde := ref_deed_well h hfu hd
  have htf : d.tick.fs = d.fs := by unfold DM.tick; rw [if_neg hfu]
  have HDe := Lib.hid hde; have HMb := Lib.hid hMb; have HN := Lib.hid hn; have HTf := Lib.hid htf; have HQ := Lib.hid h.free; have HQl := Lib.hid h.row.lt
  clear hde hMb hn htf h
  go_enter Try.func58, Try.ntmps58
  go_wp2_with fail
  refine (HDe.out).mono ?_; rintro e w1 ⟨rfl, h1, ht1, hz1⟩
  have hMb1 : ∀ k, M k → k < w1.heap.size := fun k hk => by rw [hz1]; exact HMb.out k hk
  have hfi := ref_file h1 hMb1 s hs
  rw [HTf.out] at hfi
  have H1 := Lib.hid h1; have HT1 := Lib.hid ht1; have HZ1 := Lib.hid hz1; have HFi := Lib.hid hfi; have HMb1 := Lib.hid hMb1
  clear h1 ht1 hz1 hfi hMb1
  go_wp2_with fail
  refine (HFi.out).mono ?_; rintro e w2 ⟨x, rfl, hxn, hxf, hxo, hb2⟩
  rw [show x.val = .agg #[.string x.name, .slice x.ba x.f.b.length x.bc, .int .i64 (x.f.sure : Nat), .bool x.f.made] from rfl]
  obtain ⟨W3, hW3⟩ : ∃ W3, W3 = w2.alloc (.cells x.cells.toArray TRF) := ⟨_, rfl⟩
  have hb3 : Below w2.heap.size w2 W3 := by rw [hW3]; exact (Below.refl _ _).alloc (Nat.le_refl _) _
  have h3 := (H1.out.still (Touch.of_below hb2)).still (Touch.of_below hb3)
  have hwo := ref_without h3 s (by omega)
  rw [HTf.out] at hwo
  have HW3 := Lib.hid (show W3 = w2.alloc (.cells #[.string x.name, .slice x.ba x.f.b.length x.bc, .int .i64 (x.f.sure : Nat), .bool x.f.made] TRF) from hW3)
  have HWo := Lib.hid hwo; have H3 := Lib.hid h3; have HB2 := Lib.hid hb2; have HB3 := Lib.hid hb3; have HXn := Lib.hid hxn; have HXf := Lib.hid hxf; have HXo := Lib.hid hxo
  clear hwo h3 hb2 hb3 hxn hxf hxo hW3
  obtain ⟨kb, hkb⟩ : ∃ kb, kb = w2.heap.size := ⟨_, rfl⟩
  have hrb : Row W3 kb TRF x.cells := by rw [HW3.out, hkb]; exact Row.made w2 TRF x.cells
  have HKb := Lib.hid hkb; have HRb := Lib.hid hrb; clear hkb hrb
  go_wp2_with fail
  rw [← HW3.out, ← HKb.out]
  refine (HWo.out).mono ?_; rintro e w4 ⟨A1, c1, rfl, hens1, hb4⟩
  have hkey := out_key H3.out s.data.toList
  rw [HTf.out] at hkey
  have hsz1 : w.heap.size ≤ w1.heap.size := by rw [HZ1.out]; exact Nat.le_refl _
  have hsz2 : w1.heap.size ≤ w2.heap.size := HB2.out.size
  have hsz3 : w2.heap.size ≤ W3.heap.size := HB3.out.size
  have hsz4 : W3.heap.size ≤ w4.heap.size := hb4.size
  have hq : q < w.heap.size := HQl.out
  have hMq : ¬ Since M w w4 q := by
    rintro (hk | hk)
    · exact HQ.out hk
    · omega
  have h4 := H3.out.still (Touch.of_below hb4)
  have hle : (outE (posF s.data.toList d.fs) (isF s.data.toList d.fs) es).length ≤ es.length := by
    have hp : posF s.data.toList d.fs ≤ es.length := by
      have hl : d.fs.length = es.length := by rw [← HTf.out, H3.out.fs, List.length_map]
      rw [← hl]; exact posF_le
    unfold outE; split <;> simp <;> omega
  obtain ⟨h5, ht5⟩ := ref_less (M' := Since M w w4) h4 s.data.toList hens1 (fun k hk => .inr ⟨by have := hk.1; omega, hk.2⟩) (fun k hk => .inl hk) hMq out_mem (by rw [HTf.out]; exact hkey)
  rw [HTf.out] at h5
  generalize outE (posF s.data.toList d.fs) (isF s.data.toList d.fs) es = es1 at h5 ht5 hle ⊢
  obtain ⟨g0, -, -, -, -⟩ := rrow h4.row
  have hz4 := h4.row.free
  have hq4 := h4.row.lt
  have hkq : kb ≠ q := by have := HKb.out; omega
  have hrb4 : Row w4 kb TRF x.cells := HRb.out.below hb4 HRb.out.lt
  have hrb5 : Row (w4.setCell ⟨q, 0, none⟩ (.slice A1 es1.length c1)) kb TRF x.cells := hrb4.touch ht5 hkq
  have hs5 : (w4.setCell ⟨q, 0, none⟩ (.slice A1 es1.length c1)).heap.size = w4.heap.size := by simp
  have f1 : w4.cell? ⟨kb, 1, none⟩ = some (.slice x.ba x.f.b.length x.bc) := hrb4.cell 1
  have f2 : (w4.setCell ⟨q, 0, none⟩ (.slice A1 es1.length c1)).cell? ⟨kb, 1, none⟩ = some (.slice x.ba x.f.b.length x.bc) := hrb5.cell 1
  have hnx : n ≤ x.f.b.length := by rw [HXf.out]; exact HN.out
  have hxc := HXo.out.cap
  have hsl := fun w2 : World => slice_bytes (B := x.ba) hnx hxc w2
  have hlen : (x.f.b.take n).length = n := by rw [List.length_take]; omega
  have hMb5 : ∀ k, Since M w w4 k → k < (w4.setCell ⟨q, 0, none⟩ (.slice A1 es1.length c1)).heap.size := fun k hk => by rw [hs5]; exact Since.lt HMb.out (by omega) k hk
  have hxo5 : EnOk (w4.setCell ⟨q, 0, none⟩ (.slice A1 es1.length c1)) (Since M w w4) ⟨t, x.ba, x.bc, ⟨x.f.b.take n, n, true⟩⟩ := by
    have h1 := ((HXo.out.touch (Touch.of_below (F := fun _ => False) HB3.out) (fun _ _ h => h)).touch (Touch.of_below (F := fun _ => False) hb4) (fun _ _ h => h)).mono (M' := Since M w w4) (fun k hk => .inl hk)
    have h2 := h1.touch ht5 (fun k hk e => hMq (e ▸ hk))
    exact ⟨h2.bytes.take n, h2.mem, by rw [hlen]; exact Nat.le_trans hnx hxc, h2.max, ht⟩
  have hwi := ref_with h5 hMb5 hxo5 (by omega)
  rw [show (⟨t, x.ba, x.bc, ⟨x.f.b.take n, n, true⟩⟩ : En).val = .agg #[.string t, .slice x.ba (x.f.b.take n).length x.bc, .int .i64 (n : Nat), .bool true] from rfl, hlen] at hwi
  have HWi := Lib.hid hwi
  have hT5 : Touch (· = q) w (w4.setCell ⟨q, 0, none⟩ (.slice A1 es1.length c1)) := (((HT1.out.trans (Touch.of_below (F := (· = q)) HB2.out)).trans (Touch.of_below (F := (· = q)) HB3.out)).trans (Touch.of_below (F := (· = q)) hb4)).trans ht5
  have HT5 := Lib.hid hT5; have HS5 := Lib.hid hs5; have HXf2 := Lib.hid (show (⟨x.f.b.take n, n, true⟩ : Fil) = cutF ((getF s.data.toList d.fs).getD newF) n by rw [← HXf.out]; rfl)
  clear hens1 hb4 hkey hMq h4 h5 ht5 hrb4 hrb5 hs5 hMb5 hxo5 hwi hT5 hlen
  have HSz := Lib.hid (show w.heap.size ≤ w4.heap.size by omega)
  go_wp2_with fail
  refine (HWi.out).mono ?_; rintro e w6 ⟨rfl, es6, A6, c6, h6, ht6⟩
  have H6 := Lib.hid h6; have HT6 := Lib.hid ht6; clear h6 ht6
  go_wp2_with fail
  go_ret
  refine ⟨rfl, es6, A6, c6, ?_, HT5.out.trans HT6.out⟩
  have h7 := H6.out
  rw [show putF t.data.toList (cutF ((getF s.data.toList d.fs).getD newF) n) (delF s.data.toList d.fs) = putF t.data.toList ⟨x.f.b.take n, n, true⟩ (delF s.data.toList d.fs) by rw [HXf2.out]]
  refine h7.mono (M' := Since M w w6) (fun k hk => ?_) ?_
  · rcases hk with hk | hk
    · rcases hk with hk | hk
      · exact .inl hk
      · exact .inr ⟨hk.1, by have := HT6.out.size; have := HS5.out; omega⟩
    · exact .inr ⟨by have := HS5.out; have := HSz.out; omega, hk.2⟩
  · rintro (hk | hk)
    · exact HQ.out hk
    · have := HQl.out; omega
end
end Go.Proofs.Ytiagoaaldpajmaa
