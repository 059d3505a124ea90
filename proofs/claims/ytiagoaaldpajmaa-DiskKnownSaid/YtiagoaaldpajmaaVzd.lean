/- Several texts in one: Does2, Spoil, Does3. -/
import Derived.Test.YtiagoaaldpajmaaVzc
namespace Go.Proofs.Ytiagoaaldpajmaa
open Go.ChangeShapes Go.WideShapes Go.ChangeAt Go.RowKit Go.BigFrame Go.Maps Go.Sort
set_option linter.unusedVariables false
section
variable {w0 w w' w1 w2 : World} {p q : Nat} {d d' m m' : DM} {X Y F M : Nat → Prop}
set_option maxRecDepth 100000 in
set_option maxHeartbeats 1000000 in
theorem does_fail (h : Pair w0 w p q d d X) (x : De) (hk : x.kind = 6) (hx : x.Ok) (hd : d.deeds ≤ 1000000) (hr : d.room ≤ 1000000000000) :
    Calls Try.prog 18 #[.pointer (some ⟨p, 0, none⟩), .pointer (some ⟨q, 0, none⟩), x.val] w fun e w' => e = .returned (.bool true) ∧ PairTo w0 w w' p q (doD d x) (doD d x) X := by
  have hD : doD d x = failD d x.n := by unfold doD; simp only [hk]
  rw [hD]
  have hn := hx.name
  have hby := hx.b
  have hnr := hx.n
  have hkc := hx.kc
  have hkm := hx.km
  obtain ⟨w1, hw1, hb1, hz1, hrow, h1, hX1⟩ := box_made h x
  rw [show x.val = .agg #[.int .u8 (x.kind : Nat), .string x.name, .string x.b, .int .i64 x.n, .slice x.ka x.keep.length x.kc] from rfl]
  have hc0 : w1.cell? ⟨w.heap.size, 0, none⟩ = some (.int .u8 6) := by rw [hrow.cell 0]; show some (Value.int .u8 (x.kind : Nat)) = _; rw [hk]; rfl
  have hw1' : w.alloc (.cells #[.int .u8 6, .string x.name, .string x.b, .int .i64 x.n, .slice x.ka x.keep.length x.kc] TDe) = w1 := by
    rw [← hw1]; show _ = w.alloc (.cells #[.int .u8 (x.kind : Nat), .string x.name, .string x.b, .int .i64 x.n, .slice x.ka x.keep.length x.kc] TDe); rw [hk]; rfl
  rw [hk]
  rw [show (.int .u8 ((6 : Nat) : Int) : Value) = .int .u8 6 from rfl]
  have HW1 := Lib.hid hw1'; have HRow := Lib.hid hrow; have H1 := Lib.hid h1; have HB1 := Lib.hid hb1; have HX1 := Lib.hid hX1
  have hc3 : w1.cell? ⟨w.heap.size, 3, none⟩ = some (.int .i64 x.n) := hrow.cell 3
  have hf := pair_fail h1 x.n hnr
  have HF := Lib.hid hf
  clear hw1' hrow hw1 hk hX1 hx h hD h1 hb1 hf
  generalize x.n = n at *
  go_enter Try.func18, Try.ntmps18
  go_wp2_with fail
  rw [HW1.out]
  go_wp2_with fail
  refine (HF.out).mono ?_; rintro e w2 ⟨rfl, h2⟩
  have hc3' : w2.cell? ⟨w.heap.size, 3, none⟩ = some (.int .i64 n) := (h2.cell HX1.out (by omega)).trans hc3
  have hg := pref_fail h2.1 n hnr
  have HG := Lib.hid hg; have H2 := Lib.hid h2; clear hg h2
  go_wp2_with fail
  refine (HG.out).mono ?_; rintro e w3 ⟨rfl, h3⟩
  have H3 := Lib.hid (PairTo.boxed HB1.out (H2.out.then_ h3)); clear h3
  go_wp2_with fail
  go_ret
  exact ⟨rfl, H3.out⟩
set_option maxRecDepth 100000 in
set_option maxHeartbeats 1000000 in
theorem does_crash (h : Pair w0 w p q d d X) (x : De) (hk : x.kind = 7) (hx : x.Ok) (hd : d.deeds ≤ 1000000) (hr : d.room ≤ 1000000000000) :
    Calls Try.prog 18 #[.pointer (some ⟨p, 0, none⟩), .pointer (some ⟨q, 0, none⟩), x.val] w fun e w' => e = .returned (.bool true) ∧ PairTo w0 w w' p q (doD d x) (doD d x) X := by
  have hD : doD d x = crashD d := by unfold doD; simp only [hk]
  rw [hD]
  have hn := hx.name
  have hby := hx.b
  have hnr := hx.n
  have hkc := hx.kc
  have hkm := hx.km
  obtain ⟨w1, hw1, hb1, hz1, hrow, h1, hX1⟩ := box_made h x
  rw [show x.val = .agg #[.int .u8 (x.kind : Nat), .string x.name, .string x.b, .int .i64 x.n, .slice x.ka x.keep.length x.kc] from rfl]
  have hc0 : w1.cell? ⟨w.heap.size, 0, none⟩ = some (.int .u8 7) := by rw [hrow.cell 0]; show some (Value.int .u8 (x.kind : Nat)) = _; rw [hk]; rfl
  have hw1' : w.alloc (.cells #[.int .u8 7, .string x.name, .string x.b, .int .i64 x.n, .slice x.ka x.keep.length x.kc] TDe) = w1 := by
    rw [← hw1]; show _ = w.alloc (.cells #[.int .u8 (x.kind : Nat), .string x.name, .string x.b, .int .i64 x.n, .slice x.ka x.keep.length x.kc] TDe); rw [hk]; rfl
  rw [hk]
  rw [show (.int .u8 ((7 : Nat) : Int) : Value) = .int .u8 7 from rfl]
  have HW1 := Lib.hid hw1'; have HRow := Lib.hid hrow; have H1 := Lib.hid h1; have HB1 := Lib.hid hb1; have HX1 := Lib.hid hX1
  have hf := pair_crash h1
  have HF := Lib.hid hf
  clear hw1' hrow hw1 hk hX1 hx h hD h1 hb1 hf
  go_enter Try.func18, Try.ntmps18
  go_wp2_with fail
  rw [HW1.out]
  go_wp2_with fail
  refine (HF.out).mono ?_; rintro e w2 ⟨rfl, h2⟩
  have hg := pref_crash h2.1
  have HG := Lib.hid hg; have H2 := Lib.hid h2; clear hg h2
  go_wp2_with fail
  refine (HG.out).mono ?_; rintro e w3 ⟨rfl, h3⟩
  have H3 := Lib.hid (PairTo.boxed HB1.out (H2.out.then_ h3)); clear h3
  go_wp2_with fail
  go_ret
  exact ⟨rfl, H3.out⟩
set_option maxRecDepth 100000 in
set_option maxHeartbeats 1000000 in
theorem does_on (h : Pair w0 w p q d d X) (x : De) (hk : x.kind = 8) (hx : x.Ok) (hK : IntsAt w x.ka x.keep) (hKX : ∀ ad, x.ka = some ad → 0 < x.keep.length → ad.block < w0.heap.size) (hd : d.deeds ≤ 1000000) (hr : d.room ≤ 1000000000000) :
    Calls Try.prog 18 #[.pointer (some ⟨p, 0, none⟩), .pointer (some ⟨q, 0, none⟩), x.val] w fun e w' => e = .returned (.bool true) ∧ PairTo w0 w w' p q (doD d x) (doD d x) X := by
  have hD : doD d x = onD d x.keep := by unfold doD; simp only [hk]
  rw [hD]
  obtain ⟨hfi, -⟩ := h.fine hd hr
  have hn := hx.name
  have hby := hx.b
  have hnr := hx.n
  have hkc := hx.kc
  have hkm := hx.km
  obtain ⟨w1, hw1, hb1, hz1, hrow, h1, hX1⟩ := box_made h x
  rw [show x.val = .agg #[.int .u8 (x.kind : Nat), .string x.name, .string x.b, .int .i64 x.n, .slice x.ka x.keep.length x.kc] from rfl]
  have hc0 : w1.cell? ⟨w.heap.size, 0, none⟩ = some (.int .u8 8) := by rw [hrow.cell 0]; show some (Value.int .u8 (x.kind : Nat)) = _; rw [hk]; rfl
  have hw1' : w.alloc (.cells #[.int .u8 8, .string x.name, .string x.b, .int .i64 x.n, .slice x.ka x.keep.length x.kc] TDe) = w1 := by
    rw [← hw1]; show _ = w.alloc (.cells #[.int .u8 (x.kind : Nat), .string x.name, .string x.b, .int .i64 x.n, .slice x.ka x.keep.length x.kc] TDe); rw [hk]; rfl
  rw [hk]
  rw [show (.int .u8 ((8 : Nat) : Int) : Value) = .int .u8 8 from rfl]
  have HW1 := Lib.hid hw1'; have HRow := Lib.hid hrow; have H1 := Lib.hid h1; have HB1 := Lib.hid hb1; have HX1 := Lib.hid hX1
  have hc4 : w1.cell? ⟨w.heap.size, 4, none⟩ = some (.slice x.ka x.keep.length x.kc) := hrow.cell 4
  have hK1 : IntsAt w1 x.ka x.keep := hK.touch (Touch.of_below (F := fun _ => False) hb1) (by simp)
  have hf := pair_on h1 x.ka x.keep x.kc hK1 hkc hkm (fun ad e h0 => .inr (hKX ad e h0)) (by omega)
  have HF := Lib.hid hf; have HK1 := Lib.hid hK1; have HKX := Lib.hid hKX; have HFi := Lib.hid hfi
  clear hw1' hrow hw1 hk hX1 hx h hD h1 hb1 hf hK1 hKX hK hfi
  generalize x.keep = ks at *
  generalize x.ka = ka at *
  generalize x.kc = kc at *
  go_enter Try.func18, Try.ntmps18
  go_wp2_with fail
  rw [HW1.out]
  go_wp2_with fail
  refine (HF.out).mono ?_; rintro e w2 ⟨rfl, h2⟩
  have hc4' : w2.cell? ⟨w.heap.size, 4, none⟩ = some (.slice ka ks.length kc) := (h2.cell HX1.out (by omega)).trans hc4
  have hK2 : IntsAt w2 ka ks := HK1.out.touch h2.2 (fun ad e h0 ha => by have h1 := ha.1; have h2 := HKX.out ad e h0; omega)
  have hg := pref_on h2.1 HFi.out ka ks kc hK2 hkc hkm (fun ad e h0 => .inr (HKX.out ad e h0)) (fun ho => by have h3 := h2.1.sort; unfold onD at h3; rw [if_pos ho] at h3; exact h3)
  have HG := Lib.hid hg; have H2 := Lib.hid h2; clear hg h2 hK2
  go_wp2_with fail
  refine (HG.out).mono ?_; rintro e w3 ⟨rfl, h3⟩
  have H3 := Lib.hid (PairTo.boxed HB1.out (H2.out.then_ h3)); clear h3
  go_wp2_with fail
  go_ret
  exact ⟨rfl, H3.out⟩
set_option maxRecDepth 100000 in
set_option maxHeartbeats 1000000 in
theorem does_none (h : Pair w0 w p q d d X) (x : De) (hk : 9 ≤ x.kind) (hx : x.Ok) :
    Calls Try.prog 18 #[.pointer (some ⟨p, 0, none⟩), .pointer (some ⟨q, 0, none⟩), x.val] w fun e w' => e = .returned (.bool true) ∧ PairTo w0 w w' p q (doD d x) (doD d x) X := by
  have hD : doD d x = d := by
    unfold doD
    split <;> first | omega | rfl
  rw [hD]
  have hn := hx.name
  have hby := hx.b
  have hnr := hx.n
  have hkc := hx.kc
  have hkm := hx.km
  obtain ⟨w1, hw1, hb1, hz1, hrow, h1, hX1⟩ := box_made h x
  rw [show x.val = .agg #[.int .u8 (x.kind : Nat), .string x.name, .string x.b, .int .i64 x.n, .slice x.ka x.keep.length x.kc] from rfl]
  have hc0 : w1.cell? ⟨w.heap.size, 0, none⟩ = some (.int .u8 (x.kind : Nat)) := hrow.cell 0
  have HW1 := Lib.hid (show w.alloc (.cells #[.int .u8 (x.kind : Nat), .string x.name, .string x.b, .int .i64 x.n, .slice x.ka x.keep.length x.kc] TDe) = w1 from hw1)
  have H1 := Lib.hid h1; have HB1 := Lib.hid hb1
  clear hrow hw1 hX1 hx h hD h1 hb1
  generalize x.kind = kd at *
  have e0 : ((kd : Int) == 0) = false := by simp; omega
  have e1 : ((kd : Int) == 1) = false := by simp; omega
  have e2 : ((kd : Int) == 2) = false := by simp; omega
  have e3 : ((kd : Int) == 3) = false := by simp; omega
  have e4 : ((kd : Int) == 4) = false := by simp; omega
  have e5 : ((kd : Int) == 5) = false := by simp; omega
  have e6 : ((kd : Int) == 6) = false := by simp; omega
  have e7 : ((kd : Int) == 7) = false := by simp; omega
  have e8 : ((kd : Int) == 8) = false := by simp; omega
  go_enter Try.func18, Try.ntmps18
  go_wp2_with fail
  rw [HW1.out]
  go_wp2_with fail
  go_ret
  exact ⟨rfl, PairTo.boxed HB1.out (PairTo.refl H1.out)⟩
end
end Go.Proofs.Ytiagoaaldpajmaa
namespace Go.Proofs.Ytiagoaaldpajmaa
open Go.ChangeShapes Go.WideShapes Go.ChangeAt Go.RowKit Go.BigFrame Go.Maps Go.Sort
set_option linter.unusedVariables false
/-- at each round's head of a loop that spoils bytes that were made since w -/
def Spoil (w0 w : World) (p q : Nat) (d m : DM) (X Y : Nat → Prop) (A : Option Addr) (n : Nat) (wr : World) : Prop := Pair w0 wr p q d m Y ∧ Touch (Away w0 X) w wr ∧ Mine wr (fun k => Y k ∧ w.heap.size ≤ k) A n
section
variable {w0 w w' w1 w2 wr : World} {p q : Nat} {d d' m m' : DM} {X Y F M : Nat → Prop} {A : Option Addr} {n : Nat}
theorem Spoil.at_ (h : Spoil w0 w p q d m X Y A n wr) (h0 : w0.heap.size ≤ w.heap.size) {k : Nat} (hk : k < n) :
    ∃ (g x : Nat), A = some ⟨g, 0, none⟩ ∧ x < 256 ∧ wr.cell? ⟨g, k, none⟩ = some (.int .u8 (x : Nat)) ∧ wr.frozen? ⟨g, k, none⟩ = false ∧ Spoil w0 w p q d m X Y A n (wr.setCell ⟨g, k, none⟩ (.int .u8 (((x + 1) % 256 : Nat) : Int))) := by
  obtain ⟨hp, ht, hm⟩ := h
  obtain ⟨g, x, rfl, ⟨hX, hg⟩, hlt, hx, hc, hf, hput⟩ := hm.at_ hk
  exact ⟨g, x, rfl, hx, hc, hf, hp.write hX (by omega) ((Touch.refl (· = g) wr).setCell (p := ⟨g, k, none⟩) (.inl rfl) _), ht.setCell (p := ⟨g, k, none⟩) (.inr hg) _, hput _ (by omega)⟩
theorem Spoil.to (h : Spoil w0 w p q d m X Y A n wr) (hY : ∀ k, X k → Y k) : PairTo w0 w wr p q d m X := ⟨h.1.less hY, h.2.1⟩
end
end Go.Proofs.Ytiagoaaldpajmaa
namespace Go.Proofs.Ytiagoaaldpajmaa
open Go.ChangeShapes Go.WideShapes Go.ChangeAt Go.RowKit Go.BigFrame Go.Maps Go.Sort
set_option linter.unusedVariables false
section
variable {w0 w w' w1 w2 : World} {p q : Nat} {d d' m m' : DM} {X Y F M : Nat → Prop}
set_option maxRecDepth 100000 in
set_option maxHeartbeats 2000000 in
theorem does_read (h : Pair w0 w p q d d X) (x : De) (hk : x.kind = 5) (hx : x.Ok) (hd : d.deeds ≤ 1000000) (hr : d.room ≤ 1000000000000) :
    Calls Try.prog 18 #[.pointer (some ⟨p, 0, none⟩), .pointer (some ⟨q, 0, none⟩), x.val] w fun e w' => e = .returned (.bool true) ∧ PairTo w0 w w' p q (doD d x) (doD d x) X := by
  have hD : doD d x = d := by unfold doD; simp only [hk]
  rw [hD]
  obtain ⟨hfi, -⟩ := h.fine hd hr
  have hs0 := h.size
  have hn := hx.name
  have hby := hx.b
  have hnr := hx.n
  obtain ⟨w1, hw1, hb1, hz1, hrow, h1, hX1⟩ := box_made h x
  rw [show x.val = .agg #[.int .u8 (x.kind : Nat), .string x.name, .string x.b, .int .i64 x.n, .slice x.ka x.keep.length x.kc] from rfl]
  have hc0 : w1.cell? ⟨w.heap.size, 0, none⟩ = some (.int .u8 5) := by rw [hrow.cell 0]; show some (Value.int .u8 (x.kind : Nat)) = _; rw [hk]; rfl
  have hw1' : w.alloc (.cells #[.int .u8 5, .string x.name, .string x.b, .int .i64 x.n, .slice x.ka x.keep.length x.kc] TDe) = w1 := by
    rw [← hw1]; show _ = w.alloc (.cells #[.int .u8 (x.kind : Nat), .string x.name, .string x.b, .int .i64 x.n, .slice x.ka x.keep.length x.kc] TDe); rw [hk]; rfl
  rw [hk]
  rw [show (.int .u8 ((5 : Nat) : Int) : Value) = .int .u8 5 from rfl]
  have HW1 := Lib.hid hw1'; have HRow := Lib.hid hrow; have H1 := Lib.hid h1; have HB1 := Lib.hid hb1; have HX1 := Lib.hid hX1
  have hc1 : w1.cell? ⟨w.heap.size, 1, none⟩ = some (.string x.name) := hrow.cell 1
  have hf := pair_read2 (F := fun _ => False) h1 x.name hn
  have HF := Lib.hid hf; have HFi := Lib.hid hfi; have HS0 := Lib.hid hs0
  clear hw1' hrow hw1 hk hX1 hx h hD h1 hf hfi hs0
  generalize x.name = nm at *
  obtain ⟨E, hE⟩ : ∃ E, E = findE d nm [] := ⟨_, rfl⟩
  obtain ⟨bs, hbs⟩ : ∃ bs, bs = readB d nm := ⟨_, rfl⟩
  obtain ⟨N, hN⟩ : ∃ N, N = bs.length := ⟨_, rfl⟩
  rw [← hE, ← hbs, ← hN] at HF
  have hlen : N ≤ 8388608 := by
    rw [hN, hbs]
    unfold readB
    split
    · split
      · rename_i y hy; exact HFi.out.len _ _ hy
      · simp
    · simp
  have HE := Lib.hid hE; have HBs := Lib.hid hbs; have HNN := Lib.hid hN; clear hE hbs hN
  go_enter Try.func18, Try.ntmps18
  go_wp2_with fail
  rw [HW1.out]
  go_wp2_with fail
  refine (HF.out).mono ?_; rintro e w2 ⟨A, c, rfl, hB, hM, hA, hb2⟩
  dsimp only
  have hc1' : w2.cell? ⟨w.heap.size, 1, none⟩ = some (.string nm) := by rw [← hc1]; exact World.cell?_of_block (hb2.block w.heap.size (by omega))
  have h2 := H1.out.more hb2
  have hg := pref_read h2 HFi.out nm hn
  rw [← HE.out, ← HBs.out, ← HNN.out] at hg
  have HG := Lib.hid hg; have H2 := Lib.hid h2; have HB := Lib.hid hB; have HM := Lib.hid hM; have HA := Lib.hid hA; have HB2 := Lib.hid hb2; clear hg h2 hB hM hA hb2
  go_wp2_with fail
  refine (HG.out).mono ?_; rintro e w3 ⟨A2, c2, rfl, hB3, h3⟩
  dsimp only
  have hBk : Bytes w3 A bs := by
    refine ⟨HB.out.1, fun h0 => ?_⟩
    obtain ⟨ad, e, hl, hc⟩ := HB.out.2 h0
    refine ⟨ad, e, Nat.lt_of_lt_of_le hl h3.2.size, fun j y hy => ?_⟩
    rw [← hc j y hy]
    exact World.cell?_of_block (by rw [add_block]; exact h3.2.block _ hl fun ha => ha.2 (HA.out ad e))
  have hcv1 := conv_bytes (P := Try.prog) Try.underlying36 Try.underlying5 Try.underlying9 hBk c
  have hcv2 := conv_bytes (P := Try.prog) Try.underlying36 Try.underlying5 Try.underlying9 hB3 c2
  rw [← HNN.out] at hcv1 hcv2
  have hM3 : Mine w3 (fun k => Plus (Plus X w w1) w1 w2 k ∧ w.heap.size ≤ k) A N := by
    exact (HM.out.touch h3.2 (fun k hk ha => ha.2 hk.1)).more fun k hk => ⟨hk.1, by have := hk.2; omega⟩
  have hsp : Spoil w0 w p q d d X (Plus (Plus X w w1) w1 w2) A N w3 := ⟨h3.1, (PairTo.boxed HB1.out (PairTo.boxed HB2.out h3)).2, hM3⟩
  have HS := Lib.hid hsp
  clear hsp hM3 hBk hB3 h3
  go_wp2_with fail
  go_loopw [15] (fun i wr => ∃ k : Nat, k ≤ N ∧ i = .int .i64 k ∧ Spoil w0 w p q d d X (Plus (Plus X w w1) w1 w2) A N wr) (fun i _ => N - (intOf i).toNat)
  case atStart => exact ⟨0, Nat.zero_le _, rfl, HS.out⟩
  case round =>
    obtain ⟨k, hk, rfl, hsp⟩ := hrel
    by_cases hlt : k < N
    · obtain ⟨g, z, hA, hz, hc, hfz, hnext⟩ := hsp.at_ HS0.out hlt
      subst hA
      have hwu := wrap_u8 z
      have HNx := Lib.hid hnext; clear hsp hnext
      go_wp2_with fail
      go_roundw
      case rel => exact ⟨k + 1, by omega, by go_num, HNx.out⟩
      case measure => simp [intOf]; omega
    · have HE := Lib.hid (hsp.to (fun k hk => .inl (.inl hk))); clear hsp
      go_wp2_with fail
      go_ret
      exact ⟨rfl, HE.out⟩
end
end Go.Proofs.Ytiagoaaldpajmaa
