/- Several texts in one: Does4, DoesAny, DeedRow. -/
import Derived.Test.YtiagoaaldpajmaaVzd
import Derived.Test.YtiagoaaldpajmaaVzc
namespace Go.Proofs.Ytiagoaaldpajmaa
open Go.ChangeShapes Go.WideShapes Go.ChangeAt Go.RowKit Go.BigFrame Go.Maps Go.Sort
set_option linter.unusedVariables false
theorem box_field (w : World) {b : Nat} (k : Nat) (hk : k = 1 ∨ k = 2) : (Instr.fieldAt 32 (.pointer (some ⟨b, 0, none⟩)) k).run Try.prog w = .ok (.pointer (some ⟨b, k, none⟩)) w := by
  rcases hk with rfl | rfl <;> go_simp
/-- both Appends and a conversion between them, in whatever order -/
def AppG (w0 w2 : World) (p q : Nat) (d d' : DM) (XX : Nat → Prop) (n : Nat) (bs : List Nat) (b4 b10 b11 : Bool) (v : Value) (wr : World) : Prop :=
  ∃ Y, Pair w0 wr p q (if b4 then d' else d) (if b11 then d' else d) Y ∧ Touch (Away w0 XX) w2 wr ∧ (∀ k, XX k → Y k) ∧ (b10 = true → ∃ g c, v = .slice (some ⟨g, 0, none⟩) n c ∧ Bytes wr (some ⟨g, 0, none⟩) bs ∧ Y g)
def VApp (p q kx gb n c : Nat) (nm by_ : ByteArray) (E : Int) (i : Nat) (v : Value) : Prop := match i with
  | 0 => v = .pointer (some ⟨p, 0, none⟩)
  | 1 => v = .pointer (some ⟨kx, 1, none⟩)
  | 2 => v = .string nm
  | 3 => v = .slice (some ⟨gb, 0, none⟩) n c
  | 4 => v = .int .i64 E
  | 5 => v = .pointer (some ⟨q, 0, none⟩)
  | 6 => v = .pointer (some ⟨kx, 1, none⟩)
  | 7 => v = .string nm
  | 8 => v = .pointer (some ⟨kx, 2, none⟩)
  | 9 => v = .string by_
  | 10 => True
  | 11 => v = .int .i64 E
  | 12 => v = .bool true
  | 13 => v = .bool true
  | 14 => v = .slice (some ⟨gb, 0, none⟩) n c
  | 15 => v = .string by_
  | 16 => v = .pointer (some ⟨kx, 2, none⟩)
  | 17 => v = .string by_
  | 18 => v = .bool true
  | 19 => v = .bool true
  | _ => v = .bool true
section
variable {w0 w w' w1 w2 wr : World} {p q : Nat} {d d' m m' : DM} {X XX Y F M : Nat → Prop} {n : Nat} {bs : List Nat} {b4 b10 b11 : Bool} {v : Value}
theorem AppG.touch (h : AppG w0 w2 p q d d' XX n bs b4 b10 b11 v wr) : Touch (Away w0 XX) w2 wr := by
  obtain ⟨Y, _, h, _⟩ := h; exact h
theorem AppG.bytes {A : Option Addr} {xs : List Nat} (h : Bytes w A xs) (ht : Touch Y w wr) (hY : ∀ ad, A = some ad → ¬ Y ad.block) : Bytes wr A xs := by
  refine ⟨h.1, fun h0 => ?_⟩
  obtain ⟨ad, e, hl, hc⟩ := h.2 h0
  refine ⟨ad, e, Nat.lt_of_lt_of_le hl ht.size, fun j y hy => ?_⟩
  rw [← hc j y hy]
  exact World.cell?_of_block (by rw [add_block]; exact ht.block _ hl (hY ad e))
theorem AppG.own (h : AppG w0 w2 p q d d' XX n bs false b10 b11 v wr) (s : ByteArray) (gb : Nat) (xs : List Nat) (cb : Nat) (hB : Bytes w2 (some ⟨gb, 0, none⟩) xs) (hX : XX gb) (hd' : d' = appD d s xs) (hs : s.size ≤ 9223372036854775807) (hb : xs.length ≤ 1000000000) (hd : d.deeds ≤ 1000000000) :
    Calls Try.prog 14 #[.pointer (some ⟨p, 0, none⟩), .string s, .slice (some ⟨gb, 0, none⟩) xs.length cb] wr fun e w' => e = .returned (.int .i64 (appE d s xs.length)) ∧ AppG w0 w2 p q d d' XX n bs true b10 b11 v w' := by
  obtain ⟨Y, hp, ht, hXY, hv⟩ := h
  have hBr := AppG.bytes hB ht (fun ad e ha => by injection e with e; subst e; exact ha.2 hX)
  refine (pair_append hp s ⟨gb, 0, none⟩ xs cb hBr (hXY _ hX) hs hb hd).mono ?_
  rintro e w' ⟨rfl, h2⟩
  refine ⟨rfl, Y, by rw [hd']; rw [hd'] at h2; exact h2.1, ht.trans (h2.2.mono fun k hk => ⟨hk.1, fun hx => hk.2 (hXY k hx)⟩), hXY, fun h10 => ?_⟩
  obtain ⟨g, c, e, hB2, hY⟩ := hv h10
  exact ⟨g, c, e, AppG.bytes hB2 h2.2 (fun ad e ha => by injection e with e; subst e; exact ha.2 hY), hY⟩
theorem AppG.ref (h : AppG w0 w2 p q d d' XX n bs b4 true false v wr) (hfi : Fine d) (s : ByteArray) (hn : n = bs.length) (hd' : d' = appD d s bs) (hs : s.size ≤ 9223372036854775807) (hb : bs.length ≤ 1000000000) :
    Calls Try.prog 23 #[.pointer (some ⟨q, 0, none⟩), .string s, v] wr fun e w' => e = .returned (.int .i64 (appE d s bs.length)) ∧ AppG w0 w2 p q d d' XX n bs b4 true true v w' := by
  obtain ⟨Y, hp, ht, hXY, hv⟩ := h
  obtain ⟨g, c, rfl, hB2, hY⟩ := hv rfl
  rw [hn]
  refine (pref_append hp hfi s ⟨g, 0, none⟩ bs c hB2 hs hb).mono ?_
  rintro e w' ⟨rfl, h2⟩
  refine ⟨rfl, Y, by rw [hd']; rw [hd'] at h2; exact h2.1, ht.trans (h2.2.mono fun k hk => ⟨hk.1, fun hx => hk.2 (hXY k hx)⟩), hXY, fun h10 => ?_⟩
  exact ⟨g, c, rfl, AppG.bytes hB2 h2.2 (fun ad e ha => by injection e with e; subst e; exact ha.2 hY), hY⟩
theorem AppG.conv (h : AppG w0 w2 p q d d' XX n bs b4 false b11 v wr) (s : ByteArray) (hn : n = s.size) (hbs : bs = bl s) (hm : s.size ≤ maxLen) :
    ∃ u w', (convert 9 36 (.string s)).run Try.prog wr = .ok u w' ∧ AppG w0 w2 p q d d' XX n bs b4 true b11 u w' := by
  obtain ⟨Y, hp, ht, hXY, hv⟩ := h
  obtain ⟨c, w', hr, hB, hb, _, _, hlt, _⟩ := run_tobytes2 wr s hm
  refine ⟨_, w', hr, Plus Y wr w', hp.more hb, ht.trans (Touch.of_below hb), fun k hk => .inl (hXY k hk), fun _ => ⟨wr.heap.size, c, by rw [hn], by rw [hbs]; exact hB, .inr ⟨Nat.le_refl _, hlt⟩⟩⟩
theorem AppG.cell (h : AppG w0 w2 p q d d' XX n bs b4 b10 b11 v wr) {k o : Nat} (hX : XX k) (hk : k < w2.heap.size) : wr.cell? ⟨k, o, none⟩ = w2.cell? ⟨k, o, none⟩ :=
  World.cell?_of_block (h.touch.block k hk fun e => e.2 hX)
end
theorem r_eql_str (w : World) (x y : Operand) (t : TypeId) (a b : ByteArray) : (do eqGuard .eql t x y (.string a) (.string b); binOp .eql t (.string a) (.string b) : Sem Value).run Try.prog w = .ok (.bool (a.toList == b.toList)) w := by simp [go_sem]
section
variable {w0 w w' w1 w2 : World} {p q : Nat} {d d' m m' : DM} {X Y F M : Nat → Prop}
set_option maxRecDepth 100000 in
set_option maxHeartbeats 4000000 in
theorem does_append (h : Pair w0 w p q d d X) (x : De) (hk : x.kind = 0) (hx : x.Ok) (hb3 : x.b.size ≤ 1000000) (hd : d.deeds ≤ 1000000) (hr : d.room ≤ 1000000000000) :
    Calls Try.prog 18 #[.pointer (some ⟨p, 0, none⟩), .pointer (some ⟨q, 0, none⟩), x.val] w fun e w' => e = .returned (.bool true) ∧ PairTo w0 w w' p q (doD d x) (doD d x) X := by
  have hD : doD d x = appD d x.name (bl x.b) := by unfold doD; simp only [hk]
  rw [hD]
  obtain ⟨hfi, -⟩ := h.fine hd hr
  have hs0 := h.size
  have hn := hx.name
  have hby := hx.b
  have hnr := hx.n
  obtain ⟨w1, hw1, hb1, hz1, hrow, h1, hX1⟩ := box_made h x
  rw [show x.val = .agg #[.int .u8 (x.kind : Nat), .string x.name, .string x.b, .int .i64 x.n, .slice x.ka x.keep.length x.kc] from rfl]
  have hc0 : w1.cell? ⟨w.heap.size, 0, none⟩ = some (.int .u8 0) := by rw [hrow.cell 0]; show some (Value.int .u8 (x.kind : Nat)) = _; rw [hk]; rfl
  have hw1' : w.alloc (.cells #[.int .u8 0, .string x.name, .string x.b, .int .i64 x.n, .slice x.ka x.keep.length x.kc] TDe) = w1 := by
    rw [← hw1]; show _ = w.alloc (.cells #[.int .u8 (x.kind : Nat), .string x.name, .string x.b, .int .i64 x.n, .slice x.ka x.keep.length x.kc] TDe); rw [hk]; rfl
  rw [hk]
  rw [show (.int .u8 ((0 : Nat) : Int) : Value) = .int .u8 0 from rfl]
  have HW1 := Lib.hid hw1'; have H1 := Lib.hid h1; have HB1 := Lib.hid hb1; have HX1 := Lib.hid hX1
  have hc2 : w1.cell? ⟨w.heap.size, 2, none⟩ = some (.string x.b) := hrow.cell 2
  obtain ⟨cb, w2, hcv, hB, hb2, hcb, hcbm, hlt2, hMn⟩ := run_tobytes2 w1 x.b (by unfold maxLen; omega)
  have h2 := h1.more hb2
  have hr1 : w2.cell? ⟨w.heap.size, 1, none⟩ = some (.string x.name) := (World.cell?_of_block (hb2.block w.heap.size (by omega))).trans (hrow.cell 1)
  have hr2 : w2.cell? ⟨w.heap.size, 2, none⟩ = some (.string x.b) := (World.cell?_of_block (hb2.block w.heap.size (by omega))).trans (hrow.cell 2)
  have hXg : Plus (Plus X w w1) w1 w2 w1.heap.size := .inr ⟨Nat.le_refl _, hlt2⟩
  have hM2 : Mine w2 (fun k => Plus (Plus X w w1) w1 w2 k ∧ w.heap.size ≤ k) (some ⟨w1.heap.size, 0, none⟩) x.b.size := hMn _ ⟨hXg, by omega⟩
  have hXx : Plus (Plus X w w1) w1 w2 w.heap.size := .inl hX1
  have hlen := bl_len x.b
  have hbl := bl_lt x.b
  have hsb := strOf_bl x.b
  obtain ⟨bs, hbs⟩ : ∃ bs, bs = bl x.b := ⟨_, rfl⟩
  rw [← hbs] at hB hlen hbl hsb ⊢
  obtain ⟨E, hE⟩ : ∃ E, E = appE d x.name bs.length := ⟨_, rfl⟩
  obtain ⟨d', hd'⟩ : ∃ d', d' = appD d x.name bs := ⟨_, rfl⟩
  rw [← hd']
  have hG : AppG w0 w2 p q d d' (Plus (Plus X w w1) w1 w2) x.b.size bs false false false undef w2.drew := ⟨_, h2.made (Below.refl _ _).drew, (Touch.refl _ _).drew, fun _ hk => hk, fun e => by cases e⟩
  have hT2 : Touch (Away w0 X) w w2 := (Touch.of_below hb1).trans (Touch.of_below (F := Away w0 X) hb2)
  have hlt1 : w.heap.size < w2.heap.size := by have := hb2.size; omega
  have HG := Lib.hid hG; have HFi := Lib.hid hfi; have HS0 := Lib.hid hs0; have HB := Lib.hid hB; have HR1 := Lib.hid hr1; have HR2 := Lib.hid hr2; have HXg := Lib.hid hXg; have HXx := Lib.hid hXx; have HM2 := Lib.hid hM2; have HLen := Lib.hid hlen; have HBl := Lib.hid hbl; have HSb := Lib.hid hsb; have HE := Lib.hid hE; have HD' := Lib.hid hd'; have HBs := Lib.hid hbs; have HT2 := Lib.hid hT2; have HL1 := Lib.hid hlt1
  clear hw1' hrow hw1 hk hX1 hx h hD h1 hfi hs0 hB hb2 hcb hcbm hMn h2 hr1 hr2 hXg hM2 hXx hlen hbl hsb hE hd' hbs hG hb1 hT2 hlt1
  generalize hnm : x.name = nm at *
  generalize hbyy : x.b = by_ at *
  have HXin := Lib.hid (show ∀ k, X k → Plus (Plus X w w1) w1 w2 k from fun k hk => .inl (.inl hk))
  generalize Plus (Plus X w w1) w1 w2 = XX at *
  clear hnm hbyy hz1 hlt2
  generalize w1.heap.size = gb at *
  go_enter Try.func18, Try.ntmps18
  go_wp2_with fail
  rw [HW1.out]
  go_wp2_with fail
  simp only [hcv, Result.andThen_ok, Oper.upon]
  go_wp2_with fail
  refine Free.wp_key (by kernel_rfl) (by kernel_rfl) (fun b vs wr => AppG w0 w2 p q d d' XX by_.size bs (b 4) (b 10) (b 11) (vs 10) wr) (VApp p q w.heap.size gb by_.size cb nm by_ E) ?_ ?_ ?_
  · intro vs
    obtain ⟨Y, h1, h2, h3, h4⟩ := HG.out
    exact ⟨Y, h1, h2, h3, fun e => absurd e (by decide)⟩
  · intro i o hi b vs a wa hold hpre hbi hF
    match i with
    | 0 =>
      cases hi
      exact Free.c_all rfl (Free.g_move _ rfl ⟨(hold 0 (by decide)).trans rfl, hF⟩)
    | 1 =>
      cases hi
      have h5 : a.eval (.tmp 5) = .pointer (some ⟨w.heap.size, 0, none⟩) := (hold 5 (by decide)).trans rfl
      exact Free.c_all rfl (Free.g_field _ _ _ rfl h5 (box_field wa 1 (by decide)) ⟨rfl, hF⟩)
    | 2 =>
      cases hi
      have h0 : a.eval (.tmp 24) = .pointer (some ⟨w.heap.size, 1, none⟩) := (hpre 1 _ _ (by kernel_rfl) rfl rfl).2.2
      exact Free.c_all rfl (Free.g_load _ _ rfl h0 (load_str2 ((hF.cell HXx.out HL1.out).trans HR1.out)) ⟨rfl, hF⟩)
    | 3 =>
      cases hi
      exact Free.c_all rfl (Free.g_move _ rfl ⟨(hold 7 (by decide)).trans rfl, hF⟩)
    | 4 =>
      cases hi
      have h0 : a.eval (.tmp 23) = .pointer (some ⟨p, 0, none⟩) := (hpre 0 _ _ (by kernel_rfl) rfl rfl).2.2
      have h1 : a.eval (.tmp 25) = .string nm := (hpre 2 _ _ (by kernel_rfl) rfl rfl).2.2
      have h2 : a.eval (.tmp 26) = .slice (some ⟨gb, 0, none⟩) by_.size cb := (hpre 3 _ _ (by kernel_rfl) rfl rfl).2.2
      rw [hbi] at hF
      refine Free.c_all rfl (Free.g_call _ _ rfl Try.func14 (by kernel_rfl) rfl [.pointer (some ⟨p, 0, none⟩), .string nm, .slice (some ⟨gb, 0, none⟩) by_.size cb] (by show [a.eval (.tmp 23), a.eval (.tmp 25), a.eval (.tmp 26)] = _; rw [h0, h1, h2]) ?_)
      rw [← HLen.out] at hF ⊢
      refine (AppG.own hF nm _ bs cb HB.out HXg.out HD'.out hn (by rw [HLen.out]; omega) (by omega)).mono ?_
      rintro e w9 ⟨rfl, h9⟩
      exact ⟨_, rfl, by rw [← HE.out]; rfl, h9⟩
    | 5 =>
      cases hi
      exact Free.c_all rfl (Free.g_move _ rfl ⟨(hold 1 (by decide)).trans rfl, hF⟩)
    | 6 =>
      cases hi
      have h5 : a.eval (.tmp 5) = .pointer (some ⟨w.heap.size, 0, none⟩) := (hold 5 (by decide)).trans rfl
      exact Free.c_all rfl (Free.g_field _ _ _ rfl h5 (box_field wa 1 (by decide)) ⟨rfl, hF⟩)
    | 7 =>
      cases hi
      have h0 : a.eval (.tmp 29) = .pointer (some ⟨w.heap.size, 1, none⟩) := (hpre 6 _ _ (by kernel_rfl) rfl rfl).2.2
      exact Free.c_all rfl (Free.g_load _ _ rfl h0 (load_str2 ((hF.cell HXx.out HL1.out).trans HR1.out)) ⟨rfl, hF⟩)
    | 8 =>
      cases hi
      have h5 : a.eval (.tmp 5) = .pointer (some ⟨w.heap.size, 0, none⟩) := (hold 5 (by decide)).trans rfl
      exact Free.c_all rfl (Free.g_field _ _ _ rfl h5 (box_field wa 2 (by decide)) ⟨rfl, hF⟩)
    | 9 =>
      cases hi
      have h0 : a.eval (.tmp 31) = .pointer (some ⟨w.heap.size, 2, none⟩) := (hpre 8 _ _ (by kernel_rfl) rfl rfl).2.2
      exact Free.c_all rfl (Free.g_load _ _ rfl h0 (load_str2 ((hF.cell HXx.out HL1.out).trans HR2.out)) ⟨rfl, hF⟩)
    | 10 =>
      cases hi
      have h0 : a.eval (.tmp 32) = .string by_ := (hpre 9 _ _ (by kernel_rfl) rfl rfl).2.2
      rw [hbi] at hF
      obtain ⟨u, w9, hr9, h9⟩ := hF.conv by_ rfl HBs.out (by unfold maxLen; omega)
      exact Free.c_all rfl (Free.g_convert _ _ _ rfl h0 hr9 ⟨trivial, h9⟩)
    | 11 =>
      cases hi
      have h0 : a.eval (.tmp 28) = .pointer (some ⟨q, 0, none⟩) := (hpre 5 _ _ (by kernel_rfl) rfl rfl).2.2
      have h1 : a.eval (.tmp 30) = .string nm := (hpre 7 _ _ (by kernel_rfl) rfl rfl).2.2
      obtain ⟨hb10, h2, -⟩ := hpre 10 _ 33 (by kernel_rfl) rfl rfl
      rw [hbi, hb10] at hF
      refine Free.c_all rfl (Free.g_call _ _ rfl Try.func23 (by kernel_rfl) rfl [.pointer (some ⟨q, 0, none⟩), .string nm, vs 10] (by show [a.eval (.tmp 28), a.eval (.tmp 30), a.eval (.tmp 33)] = _; rw [h0, h1, h2]) ?_)
      refine (AppG.ref hF HFi.out nm HLen.out.symm HD'.out hn (by rw [HLen.out]; omega)).mono ?_
      rintro e w9 ⟨rfl, h9⟩
      exact ⟨_, rfl, by rw [← HE.out]; rfl, by show AppG w0 w2 p q d d' XX by_.size bs (b 4) (b 10) true (vs 10) w9; rw [hb10]; exact h9⟩
    | 12 =>
      cases hi
      have h0 : a.eval (.tmp 27) = .int .i64 E := (hpre 4 _ _ (by kernel_rfl) rfl rfl).2.2
      have h1 : a.eval (.tmp 34) = .int .i64 E := (hpre 11 _ _ (by kernel_rfl) rfl rfl).2.2
      exact Free.c_all rfl (Free.g_bin _ _ _ _ _ rfl h0 h1 (Free.r_eql _ _ _ _ _ _ _) ⟨congrArg Value.bool (beq_self_eq_true _), hF⟩)
    | 13 =>
      cases hi
      have h0 : a.eval (.tmp 35) = .bool true := (hpre 12 _ _ (by kernel_rfl) rfl rfl).2.2
      exact Free.c_all rfl (Free.g_move _ rfl ⟨h0, hF⟩)
    | 14 =>
      cases hi
      have hg : a.eval (.tmp 36) = .bool true := (hpre 13 _ _ (by kernel_rfl) rfl rfl).2.2
      exact Free.c_yes rfl rfl rfl hg (Free.g_move _ rfl ⟨(hold 7 (by decide)).trans rfl, hF⟩)
    | 15 =>
      cases hi
      have hg : a.eval (.tmp 36) = .bool true := (hpre 13 _ _ (by kernel_rfl) rfl rfl).2.2
      have h0 : a.eval (.tmp 37) = .slice (some ⟨gb, 0, none⟩) by_.size cb := (hpre 14 _ _ (by kernel_rfl) rfl rfl).2.2
      have hBr := AppG.bytes HB.out hF.touch (fun ad e ha => by injection e with e; subst e; exact ha.2 HXg.out)
      have hcv9 := conv_bytes (P := Try.prog) Try.underlying36 Try.underlying5 Try.underlying9 hBr cb
      rw [HLen.out, HSb.out] at hcv9
      exact Free.c_yes rfl rfl rfl hg (Free.g_convert _ _ _ rfl h0 hcv9 ⟨rfl, hF⟩)
    | 16 =>
      cases hi
      have hg : a.eval (.tmp 36) = .bool true := (hpre 13 _ _ (by kernel_rfl) rfl rfl).2.2
      have h5 : a.eval (.tmp 5) = .pointer (some ⟨w.heap.size, 0, none⟩) := (hold 5 (by decide)).trans rfl
      exact Free.c_yes rfl rfl rfl hg (Free.g_field _ _ _ rfl h5 (box_field wa 2 (by decide)) ⟨rfl, hF⟩)
    | 17 =>
      cases hi
      have hg : a.eval (.tmp 36) = .bool true := (hpre 13 _ _ (by kernel_rfl) rfl rfl).2.2
      have h0 : a.eval (.tmp 39) = .pointer (some ⟨w.heap.size, 2, none⟩) := (hpre 16 _ _ (by kernel_rfl) rfl rfl).2.2
      exact Free.c_yes rfl rfl rfl hg (Free.g_load _ _ rfl h0 (load_str2 ((hF.cell HXx.out HL1.out).trans HR2.out)) ⟨rfl, hF⟩)
    | 18 =>
      cases hi
      have hg : a.eval (.tmp 36) = .bool true := (hpre 13 _ _ (by kernel_rfl) rfl rfl).2.2
      have h0 : a.eval (.tmp 38) = .string by_ := (hpre 15 _ _ (by kernel_rfl) rfl rfl).2.2
      have h1 : a.eval (.tmp 40) = .string by_ := (hpre 17 _ _ (by kernel_rfl) rfl rfl).2.2
      exact Free.c_yes rfl rfl rfl hg (Free.g_bin _ _ _ _ _ rfl h0 h1 (r_eql_str wa _ _ _ by_ by_) ⟨congrArg Value.bool (beq_self_eq_true _), hF⟩)
    | 19 =>
      cases hi
      have h0 : a.eval (.tmp 36) = .bool true := (hpre 13 _ _ (by kernel_rfl) rfl rfl).2.2
      have h1 : a.eval (.tmp 41) = .bool true := (hpre 18 _ _ (by kernel_rfl) rfl rfl).2.2
      exact Free.c_all rfl (Free.g_pick _ _ _ rfl h0 h1 rfl ⟨rfl, hF⟩)
    | 20 =>
      cases hi
      have h0 : a.eval (.tmp 42) = .bool true := (hpre 19 _ _ (by kernel_rfl) rfl rfl).2.2
      exact Free.c_all rfl (Free.g_assign _ rfl ⟨h0, hF⟩)
    | i + 21 => cases hi
  · intro vs w3 hv hF3
    obtain ⟨Y, hp3, ht3, hXY, -⟩ := hF3
    have h8 : vs 20 = .bool true := hv 20 (by simp) (by rintro o ⟨⟩; rfl)
    have hsp : Spoil w0 w p q d' d' X Y (some ⟨gb, 0, none⟩) by_.size w3 := ⟨hp3, HT2.out.trans (ht3.mono fun k hk => ⟨hk.1, fun hx => hk.2 (HXin.out k hx)⟩), (HM2.out.touch ht3 (fun k hk ha => ha.2 hk.1)).more fun k hk => ⟨hXY k hk.1, hk.2⟩⟩
    have HS := Lib.hid hsp; have HXY := Lib.hid (fun k hk => hXY k (HXin.out k hk)); clear hsp hp3 ht3 hXY hv
    simp only [Free.puts, Nat.reduceAdd, h8]
    generalize vs 0 = y0
    go_simp
    generalize hN : by_.size = N at *
    go_wp2_with fail
    go_loopw [9] (fun i wr => ∃ k : Nat, k ≤ N ∧ i = .int .i64 k ∧ Spoil w0 w p q d' d' X Y (some ⟨gb, 0, none⟩) N wr) (fun i _ => N - (intOf i).toNat)
    case atStart => exact ⟨0, Nat.zero_le _, rfl, HS.out⟩
    case round =>
      obtain ⟨k, hk, rfl, hsp⟩ := hrel
      by_cases hlt : k < N
      · obtain ⟨g, z, hA, hz, hc, hfz, hnext⟩ := hsp.at_ HS0.out hlt
        injection hA with hA
        injection hA with hA
        subst hA
        have hwu := wrap_u8 z
        have HNx := Lib.hid hnext; clear hsp hnext
        go_wp2_with fail
        go_roundw
        case rel => exact ⟨k + 1, by omega, by go_num, HNx.out⟩
        case measure => simp [intOf]; omega
      · have HE2 := Lib.hid (hsp.to HXY.out); clear hsp
        go_wp2_with fail
        go_ret
        exact ⟨rfl, HE2.out⟩
end
end Go.Proofs.Ytiagoaaldpajmaa
namespace Go.Proofs.Ytiagoaaldpajmaa
open Go.ChangeShapes Go.WideShapes Go.ChangeAt Go.RowKit Go.BigFrame Go.Maps Go.Sort
set_option linter.unusedVariables false
section
variable {w0 w w' w1 w2 : World} {p q : Nat} {d d' m m' : DM} {X Y F M : Nat → Prop}
theorem does_any (h : Pair w0 w p q d d X) (x : De) (hx : x.Ok) (hb3 : x.b.size ≤ 1000000) (hK : IntsAt w x.ka x.keep) (hKX : ∀ ad, x.ka = some ad → 0 < x.keep.length → ad.block < w0.heap.size) (hd : d.deeds ≤ 1000000) (hr : d.room ≤ 1000000000000) :
    Calls Try.prog 18 #[.pointer (some ⟨p, 0, none⟩), .pointer (some ⟨q, 0, none⟩), x.val] w fun e w' => e = .returned (.bool true) ∧ PairTo w0 w w' p q (doD d x) (doD d x) X := by
  by_cases h0 : x.kind = 0
  · exact does_append h x h0 hx hb3 hd hr
  by_cases h1 : x.kind = 1
  · exact does_sync h x h1 hx hd hr
  by_cases h2 : x.kind = 2
  · exact does_cut h x h2 hx hd hr
  by_cases h3 : x.kind = 3
  · exact does_rename h x h3 hx hd hr
  by_cases h4 : x.kind = 4
  · exact does_remove h x h4 hx hd hr
  by_cases h5 : x.kind = 5
  · exact does_read h x h5 hx hd hr
  by_cases h6 : x.kind = 6
  · exact does_fail h x h6 hx hd hr
  by_cases h7 : x.kind = 7
  · exact does_crash h x h7 hx hd hr
  by_cases h8 : x.kind = 8
  · exact does_on h x h8 hx hK hKX hd hr
  exact does_none h x (by omega) hx
end
/-- a call as a value -/
theorem load_de (w : World) {b off : Nat} {x : De} (h : x.cells w b off) : (Instr.loadAt TDe (.pointer (some ⟨b, off, none⟩))).run Try.prog w = .ok x.val w := by
  obtain ⟨h1, h2, h3, h4, h5⟩ := h
  refine run_loadAt_part b off TDe _ x.row ?_ Try.underlying32 rfl (by kernel_rfl)
  intro j v hj
  rw [add_at]
  match j with
  | 0 => simpa using h1.trans hj
  | 1 => simpa using h2.trans hj
  | 2 => simpa using h3.trans hj
  | 3 => simpa using h4.trans hj
  | 4 => simpa using h5.trans hj
  | _ + 5 => simp [De.row] at hj
/-- room and deeds, whatever the call -/
structure Near (d d' : DM) : Prop where
  room : d'.room = d.room
  deeds : d'.deeds ≤ d.deeds + 1
theorem Near.refl (d : DM) : Near d d := ⟨rfl, by omega⟩
theorem Near.tick (d : DM) (fs : Fs) : Near d { d.tick with fs := fs } := by
  unfold DM.tick; split <;> exact ⟨rfl, Nat.le_refl _⟩
theorem Near.deed (d : DM) (fs : Fs) : Near d (d.deed fs) := by
  unfold DM.deed; split <;> exact ⟨rfl, Nat.le_refl _⟩
theorem Near.do_ (d : DM) (x : De) : Near d (doD d x) := by
  unfold doD
  split
  · unfold appD; repeat' split
    all_goals first | exact Near.refl _ | exact Near.tick _ _
  · unfold syncD; split; exact Near.deed _ _; exact Near.refl _
  · unfold cutD; repeat' split
    all_goals first | exact Near.refl _ | exact Near.deed _ _
  · unfold renameD; split; exact Near.deed _ _; exact Near.refl _
  · unfold removeD; split; exact Near.deed _ _; exact Near.refl _
  · exact ⟨rfl, by show d.deeds ≤ _; omega⟩
  · exact ⟨rfl, by show d.deeds ≤ _; omega⟩
  · unfold onD; split; exact ⟨rfl, by show d.deeds ≤ _; omega⟩; exact ⟨rfl, by show d.deeds ≤ _; omega⟩
  · exact Near.refl _
section
variable {d : DM} {n : Nm} {f : Fil} {fs : Fs}
theorem kept_tick (h : getF n fs = some f) : getF n ({ d.tick with fs := fs } : DM).fs = some f := h
theorem kept_deed (h : getF n d.fs = some f) (h2 : getF n fs = some f) : getF n (d.deed fs).fs = some f := by
  unfold DM.deed; split
  · exact h
  · exact h2
theorem kept_put {m : Nm} {y : Fil} (h : getF n fs = some f) (hne : n ≠ m) : getF n (putF m y fs) = some f := by rw [getF_put_ne hne]; exact h
theorem kept_del {m : Nm} (h : getF n fs = some f) (hne : n ≠ m) : getF n (delF m fs) = some f := by rw [getF_del_ne hne]; exact h
/-- a file all of whose bytes are sure stays -/
theorem kept_on (W : Nat → Int) (hs : f.sure = f.b.length) (hm : f.made = true) : ∀ (fs : Fs) (i : Nat), getF n fs = some f → getF n (onF W i fs) = some f
  | [], _, h => by simp [getF] at h
  | p :: r, i, h => by
    by_cases hp : p.1 = n
    · have hpf : p.2 = f := by simpa [getF, hp] using h
      have hst : stays p (W i) = [(n, f)] := by
        have hN : stayN p.2 (W i) = f.b.length := by rw [hpf]; unfold stayN; rw [hs]; simp
        unfold stays stay1
        rw [hN, if_neg (by rw [hpf, hm]; simp), hpf]
        show [(p.1, cutF f f.b.length)] = _
        rw [hp]
        obtain ⟨b, s, m⟩ := f
        simp at hs hm
        simp [cutF, hs, hm]
      simp only [onF, hst]
      simp [getF]
    · have h2 : getF n r = some f := by
        have : (p.1 == n) = false := by simpa using hp
        simpa [getF, this] using h
      have ih := kept_on W hs hm r (i + 1) h2
      have hst : (stays p (W i)).find? (fun p => p.1 == n) = none := by
        rw [List.find?_eq_none]
        intro a ha
        unfold stays at ha
        split at ha
        · simp at ha; rw [ha]; simpa using hp
        · simp at ha
      unfold getF at ih ⊢
      simp only [onF, List.find?_append, hst, Option.none_or]
      exact ih
/-- a file that no call names, and all of whose bytes are sure, is there as it was -/
theorem kept_do (x : De) (h : getF n d.fs = some f) (hs : f.sure = f.b.length) (hm : f.made = true) (h1 : n ≠ x.name.data.toList) (h2 : n ≠ x.b.data.toList) : getF n (doD d x).fs = some f := by
  unfold doD
  split
  · unfold appD; repeat' split
    all_goals first | exact h | exact kept_put h h1
  · unfold syncD; split
    · refine kept_deed h ?_
      unfold syncF; split
      · exact kept_put h h1
      · exact h
    · exact h
  · unfold cutD; repeat' split
    all_goals first | exact h | exact kept_deed h (kept_put h h1) | exact kept_deed h h
  · unfold renameD; split
    · refine kept_deed h ?_
      unfold renameF; split
      · exact kept_put (kept_del (kept_del h h1) h2) h2
      · exact h
    · exact h
  · unfold removeD; split
    · exact kept_deed h (kept_del h h1)
    · exact h
  · exact h
  · exact h
  · unfold onD; split
    · exact kept_on _ hs hm _ _ h
    · exact h
  · exact h
end
end Go.Proofs.Ytiagoaaldpajmaa
namespace Go.Proofs.Ytiagoaaldpajmaa
open Go.ChangeShapes Go.WideShapes Go.ChangeAt Go.RowKit Go.BigFrame
set_option linter.unusedVariables false
abbrev TDS : TypeId := 23
def deRow (l : List De) : List Value := (l.map De.row).flatten
theorem deRow_cons (x : De) (l : List De) : deRow (x :: l) = .int .u8 (x.kind : Nat) :: .string x.name :: .string x.b :: .int .i64 x.n :: .slice x.ka x.keep.length x.kc :: deRow l := by simp [deRow, De.row]
theorem deRow_at : ∀ (l : List De) (i : Nat) (x : De), l[i]? = some x → (deRow l)[i * 5]? = some (.int .u8 (x.kind : Nat)) ∧ (deRow l)[i * 5 + 1]? = some (.string x.name) ∧ (deRow l)[i * 5 + 2]? = some (.string x.b) ∧ (deRow l)[i * 5 + 3]? = some (.int .i64 x.n) ∧ (deRow l)[i * 5 + 4]? = some (.slice x.ka x.keep.length x.kc)
  | y :: l, 0, x, h => by
    obtain rfl : y = x := by simpa using h
    rw [deRow_cons]; exact ⟨rfl, rfl, rfl, rfl, rfl⟩
  | y :: l, i + 1, x, h => by
    have := deRow_at l i x (by simpa using h)
    rw [deRow_cons, show (i + 1) * 5 = i * 5 + 1 + 1 + 1 + 1 + 1 by omega]
    simp only [List.getElem?_cons_succ]
    exact this
section
variable {w w' : World} {A : Option Addr} {l : List De} {b k c : Nat}
theorem Deeds.of_row (hr : Row w b TDe (deRow l)) (h : ∀ x ∈ l, x.Ok ∧ IntsAt w x.ka x.keep) : Deeds w (some ⟨b, 0, none⟩) l :=
  ⟨h, fun _ => ⟨b, 0, rfl, hr.lt, fun j x hj => by
    obtain ⟨h1, h2, h3, h4, h5⟩ := deRow_at l j x hj
    rw [Nat.zero_add]
    exact ⟨(hr.cell _).trans h1, (hr.cell _).trans h2, (hr.cell _).trans h3, (hr.cell _).trans h4, (hr.cell _).trans h5⟩⟩⟩
theorem deeds_low (h : Deeds w (some ⟨b, 0, none⟩) l) (hk : k ≤ l.length) : (∀ w2 : World, (Instr.sliceAt TDS (.slice (some ⟨b, 0, none⟩) l.length l.length) none (some (.int .i64 (k : Nat))) none).run Try.prog w2 = .ok (.slice (some ⟨b, 0, none⟩) k l.length) w2) ∧ Deeds w (some ⟨b, 0, none⟩) (l.take k) := by
  refine ⟨fun w2 => ?_, fun x hx => h.1 x (List.mem_of_mem_take hx), fun h0 => ?_⟩
  · rw [run_sliceAt_slice (P := Try.prog) (h := by kernel_rfl), run_slice_h (P := Try.prog) (ht := by kernel_rfl) _ _ _ _ _ _ _ (by omega) (by omega)]
    have hs : (sizeOf (Try.prog.elem TDS)).run Try.prog w2 = .ok 5 w2 := by go_simp
    rw [hs]
    simp [sliced, Result.andThen]
    intro _
    rfl
  · rw [List.length_take] at h0
    obtain ⟨b', off, e, hlt, hcl⟩ := h.2 (by omega)
    refine ⟨b', off, e, hlt, fun j x hx => ?_⟩
    rw [List.getElem?_take] at hx
    split at hx
    · exact hcl j x hx
    · cases hx
theorem deeds_high (h : Deeds w (some ⟨b, 0, none⟩) l) (hk : k ≤ l.length) : ∃ A2, (∀ w2 : World, (Instr.sliceAt TDS (.slice (some ⟨b, 0, none⟩) l.length l.length) (some (.int .i64 (k : Nat))) none none).run Try.prog w2 = .ok (.slice A2 (l.length - k) (l.length - k)) w2) ∧ Deeds w A2 (l.drop k) := by
  have hrun : ∀ w2 : World, (Instr.sliceAt TDS (.slice (some ⟨b, 0, none⟩) l.length l.length) (some (.int .i64 (k : Nat))) none none).run Try.prog w2 = .ok (sliced (some ⟨b, 0, none⟩) k l.length l.length 5) w2 := fun w2 => by
    rw [run_sliceAt_slice (P := Try.prog) (h := by kernel_rfl), run_slice_l (P := Try.prog) (ht := by kernel_rfl) _ _ _ _ _ _ _ (by omega) (by omega)]
    have hs : (sizeOf (Try.prog.elem TDS)).run Try.prog w2 = .ok 5 w2 := by go_simp
    rw [hs]
    simp [Result.andThen]
  by_cases hck : l.length = k
  · refine ⟨some ⟨b, 0, none⟩, fun w2 => ?_, fun x hx => h.1 x (List.mem_of_mem_drop hx), fun h0 => ?_⟩
    · rw [hrun]; simp [sliced, hck]
    · rw [List.length_drop] at h0; omega
  · refine ⟨some ⟨b, k * 5, none⟩, fun w2 => ?_, fun x hx => h.1 x (List.mem_of_mem_drop hx), fun h0 => ?_⟩
    · rw [hrun]; simp [sliced, hck, add_at]
    · rw [List.length_drop] at h0
      obtain ⟨b', off, e, hlt, hcl⟩ := h.2 (by omega)
      injection e with e
      injection e with e1 e2
      subst e1; subst e2
      refine ⟨b, k * 5, rfl, hlt, fun j x hx => ?_⟩
      rw [List.getElem?_drop] at hx
      have := hcl (k + j) x hx
      rwa [show 0 + (k + j) * 5 = k * 5 + j * 5 by omega] at this
end
/-- a name of k letters n -/
def longN (k : Nat) : ByteArray := ⟨(List.replicate k 110).toArray⟩
theorem longN_size (k : Nat) : (longN k).size = k := by show (List.replicate k (110 : UInt8)).toArray.size = k; simp
theorem longN_next (k : Nat) : longN k ++ ⟨#[110]⟩ = longN (k + 1) := by
  apply ByteArray.ext
  apply Array.ext'
  simp [longN, List.replicate_succ']
end Go.Proofs.Ytiagoaaldpajmaa
