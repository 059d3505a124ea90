/- FieldsUnread: what is not read changes nothing of what is: with other bytes behind, or none, the same things are read; for at most 50 things of 2000 bytes, and two rows of at most 200 bytes. -/
import Derived.Test.YtmliiglhglhjkaaReads
import Derived.Test.YtmliiglhglhjkaaFreePairs
import Derived.Test.YtmliiglhglhjkaaOpen
import Derived.SizedLaws
namespace Go.Proofs.Ytmliiglhglhjkaa
open Go.ChangeShapes Go.WideShapes Go.ChangeAt Go.RowKit Go.BigFrame
set_option linter.unusedVariables false
namespace fieldsUnread
theorem walk_else (ts : List Th) (A : Option Addr) (c : Nat) (xs : List Nat) (A1 : Option Addr) (c1 : Nat) (ys : List Nat) (A2 : Option Addr) (c2 : Nat) (w : World) (hT : Things w A ts) (hl : ts.length * 3 ≤ 140737488351232) (hx : xs.length ≤ 9223372036854775807) (hy : ys.length ≤ 9223372036854775807) (hno : few ts = false ∨ 200 < xs.length ∨ 200 < ys.length) :
    Calls Try.prog 6 #[.slice A ts.length c, .slice A1 xs.length c1, .slice A2 ys.length c2] w fun e w' => e = .returned (.bool true) ∧ Below w.heap.size w w' := by
  have hf := few_any A c ts w hT hl
  cases h : few ts with
  | false =>
    rw [h] at hf
    have Hf := Lib.hid hf; clear hf h hno
    go_enter Try.func6, Try.ntmps6
    go_wp2_with fail
    refine (Hf.out).mono ?_; rintro e w' ⟨rfl, rfl⟩
    go_wp2_with fail
    refine (works_any w).mono ?_; rintro e w2 ⟨rfl, hb2⟩
    go_wp2_with fail
    go_ret
    exact ⟨rfl, hb2⟩
  | true =>
    rw [h] at hf hno
    by_cases h1 : 200 < xs.length
    · have ht : decide ((200 : Int) < (xs.length : Int)) = true := decide_eq_true (by omega)
      have Hf := Lib.hid hf; clear hf h hno h1
      go_enter Try.func6, Try.ntmps6
      go_wp2_with fail
      refine (Hf.out).mono ?_; rintro e w' ⟨rfl, rfl⟩
      go_wp2_with fail
      refine (works_any w).mono ?_; rintro e w2 ⟨rfl, hb2⟩
      go_wp2_with fail
      go_ret
      exact ⟨rfl, hb2⟩
    · have ht : decide ((200 : Int) < (xs.length : Int)) = false := decide_eq_false (by omega)
      have h2 : 200 < ys.length := by rcases hno with h3 | h3 | h3; (cases h3); (exact absurd h3 h1); exact h3
      have ht2 : decide ((200 : Int) < (ys.length : Int)) = true := decide_eq_true (by omega)
      have Hf := Lib.hid hf; clear hf h hno h1 h2
      go_enter Try.func6, Try.ntmps6
      go_wp2_with fail
      refine (Hf.out).mono ?_; rintro e w' ⟨rfl, rfl⟩
      go_wp2_with fail
      refine (works_any w).mono ?_; rintro e w2 ⟨rfl, hb2⟩
      go_wp2_with fail
      go_ret
      exact ⟨rfl, hb2⟩
def E (i j : Nat) (v u : Value) : Prop := (i = 5 → j = 11 → v ≠ u) ∧ (i = 11 → j = 5 → v ≠ u) ∧ (i = 12 → j = 5 → v = u) ∧ (i = 13 → j = 11 → v = u)
theorem E_none {i j : Nat} {v u : Value} (h : i ≠ 5 ∧ i ≠ 11 ∧ i ≠ 12 ∧ i ≠ 13) : E i j v u ∧ E j i u v := by
  unfold E; refine ⟨⟨?_, ?_, ?_, ?_⟩, ?_, ?_, ?_, ?_⟩ <;> (intros; omega)
/-- what a reader's pointer says -/
def Rd (B : Nat) (zs : List Nat) (v : Value) (w : World) : Prop := ∃ g, v = .pointer (some ⟨g, 0, none⟩) ∧ B ≤ g ∧ IsReader w g zs false
def Sl (zs : List Nat) (v : Value) (w : World) : Prop := ∃ ad c, v = .slice (some ad) zs.length c ∧ Bytes w (some ad) zs ∧ zs.length ≤ c
theorem Rd.below {B : Nat} {zs : List Nat} {v : Value} {w w' : World} (h : Rd B zs v w) (hb : Below w.heap.size w w') : Rd B zs v w' := by
  obtain ⟨g, e, h1, h2⟩ := h; exact ⟨g, e, h1, h2.below hb⟩
theorem Sl.below {zs : List Nat} {v : Value} {w w' : World} (h : Sl zs v w) (hb : Below w.heap.size w w') : Sl zs v w' := by
  obtain ⟨ad, c, e, h1, h2⟩ := h; exact ⟨ad, c, e, h1.below hb, h2⟩
set_option maxRecDepth 100000 in
set_option maxHeartbeats 1000000 in
theorem walk_main (ts : List Th) (A : Option Addr) (c : Nat) (xs : List Nat) (A1 : Option Addr) (c1 : Nat) (ys : List Nat) (A2 : Option Addr) (c2 : Nat) (w : World) (hT : Things w A ts) (hB1 : Bytes w A1 xs) (hB2 : Bytes w A2 ys) (hfw : few ts = true) (hx : xs.length ≤ 200) (hy : ys.length ≤ 200) :
    Calls Try.prog 6 #[.slice A ts.length c, .slice A1 xs.length c1, .slice A2 ys.length c2] w fun e w' => e = .returned (.bool true) ∧ Below w.heap.size w w' := by
  have hfw2 := hfw
  simp only [few, Bool.and_eq_true, decide_eq_true_eq] at hfw2
  obtain ⟨hl50, hwe⟩ := hfw2
  have hf := few_any A c ts w hT (by omega)
  rw [hfw] at hf
  have ht1 : decide ((200 : Int) < (xs.length : Int)) = false := decide_eq_false (by omega)
  have ht2 : decide ((200 : Int) < (ys.length : Int)) = false := decide_eq_false (by omega)
  have hal := all_any A c ts w hT (by omega) (by omega)
  have htl := texts_len ts
  have Hf := Lib.hid hf; have Hal := Lib.hid hal; clear hf hfw hal
  go_enter Try.func6, Try.ntmps6
  go_wp2_with fail
  refine (Hf.out).mono ?_; rintro e w' ⟨rfl, rfl⟩
  go_wp2_with fail
  refine (Hal.out).mono ?_; rintro e w1 ⟨g, rfl, hg, hW, hb1⟩
  dsimp only
  have hou := out_any g _ w1 hW (by omega)
  have hby := hW.bytes
  have Hou := Lib.hid hou; have Hb1 := Lib.hid hb1; clear hou hW hb1
  obtain ⟨T, hTT⟩ : ∃ T, T = texts ts := ⟨_, rfl⟩
  rw [← hTT] at hby htl
  have HTT := Lib.hid hTT; clear hTT
  go_wp2_with fail
  refine (Hou.out).mono ?_; rintro e w2 ⟨b2, rfl, hg2, hr2, hb2⟩
  dsimp only
  rw [← HTT.out] at hr2
  have hB3 := Bytes.of_row hr2 hby
  have hcv := conv_bytes (P := Try.prog) (w := w2) Try.underlying23 Try.underlying5 Try.underlying9 hB3 T.length
  have hb2' : Below w.heap.size w w2 := Hb1.out.trans (hb2.mono Hb1.out.size)
  have hs2 : (strOf T).size ≤ 3000 := by rw [strOf_size]; omega
  have Hb2 := Lib.hid hb2'; clear hb2 hb2' hr2 hB3
  rw [show texts ts = T from HTT.out.symm]
  go_wp2_with fail
  have hxl : (strOf xs).size ≤ 200 := by rw [strOf_size]; exact hx
  have hyl : (strOf ys).size ≤ 200 := by rw [strOf_size]; exact hy
  have hBa := hB1.below Hb2.out
  have hBb := hB2.below Hb2.out
  have hxb : ∀ x ∈ T ++ xs, x < 256 := by intro x h; rcases List.mem_append.1 h with h | h; (exact hby x h); exact hB1.1 x h
  have hyb : ∀ x ∈ T ++ ys, x < 256 := by intro x h; rcases List.mem_append.1 h with h | h; (exact hby x h); exact hB2.1 x h
  refine Free.wp_pairs (by kernel_rfl) (by kernel_rfl) (fun i v w' => match i with
    | 0 => v = .string (strOf T)
    | 1 => v = .slice A1 xs.length c1
    | 2 => v = .string (strOf xs)
    | 3 => v = .string (strOf (T ++ xs))
    | 4 => Sl (T ++ xs) v w'
    | 5 => Rd w2.heap.size (T ++ xs) v w'
    | 6 => v = .string (strOf T)
    | 7 => v = .slice A2 ys.length c2
    | 8 => v = .string (strOf ys)
    | 9 => v = .string (strOf (T ++ ys))
    | 10 => Sl (T ++ ys) v w'
    | 11 => Rd w2.heap.size (T ++ ys) v w'
    | _ => True) ?_ E ?_ ?_
  · intro j u wa wb hb h
    match j with
    | 0 | 1 | 2 | 3 | 6 | 7 | 8 | 9 => exact h
    | 4 | 10 => exact Sl.below h hb
    | 5 | 11 => exact Rd.below h hb
    | _ + 12 => exact trivial
  · intro i o hi a wa hold hpre hb
    match i with
    | 0 => cases hi; exact Free.g_move _ rfl ⟨(hold 7 (by decide)).trans rfl, Below.refl _ _, fun j oj t hj hd hji hw hr => E_none (by omega)⟩
    | 1 => cases hi; exact Free.g_move _ rfl ⟨(hold 1 (by decide)).trans rfl, Below.refl _ _, fun j oj t hj hd hji hw hr => E_none (by omega)⟩
    | 2 =>
      cases hi
      have h0 := hpre 1 _ _ (by kernel_rfl) rfl rfl
      exact Free.g_convert _ _ _ rfl h0 (conv_bytes (P := Try.prog) Try.underlying23 Try.underlying5 Try.underlying9 (hBa.below hb) c1) ⟨rfl, Below.refl _ _, fun j oj t hj hd hji hw hr => E_none (by omega)⟩
    | 3 =>
      cases hi
      have h0 := hpre 0 _ _ (by kernel_rfl) rfl rfl
      have h2 := hpre 2 _ _ (by kernel_rfl) rfl rfl
      refine Free.g_bin _ _ _ _ _ rfl h0 h2 (run_add_str wa 9 _ _ _ _ Try.underlying9 (by omega)) ⟨?_, Below.refl _ _, fun j oj t hj hd hji hw hr => E_none (by omega)⟩
      exact congrArg Value.string (strOf_append _ _).symm
    | 4 =>
      cases hi
      have h3 := hpre 3 _ _ (by kernel_rfl) rfl rfl
      have hsz : (strOf (T ++ xs)).size ≤ maxLen := by rw [strOf_size]; unfold maxLen; simp; omega
      obtain ⟨c', w', hr, k1, k2, k3, k4, k5⟩ := run_tobytes (P := Try.prog) (src := 9) (dst := 23) (e := 5) wa (strOf (T ++ xs)) Try.underlying9 Try.underlying23 Try.underlying5 hsz
      rw [bl_strOf _ hxb] at k1
      rw [strOf_size] at hr k3
      exact Free.g_convert _ _ _ rfl h3 hr ⟨⟨_, c', rfl, k1, k3⟩, k2, fun j oj t hj hd hji hw hr => E_none (by omega)⟩
    | 5 =>
      cases hi
      obtain ⟨ad, c', h4, k1, k3⟩ := hpre 4 _ _ (by kernel_rfl) rfl rfl
      refine Free.g_call _ _ rfl Try.func15 (by kernel_rfl) rfl [.slice (some ad) (T ++ xs).length c'] (by show [a.eval (.tmp 33)] = _; rw [h4]) ?_
      refine (open_any (some ad) c' (T ++ xs) wa k1 (by simp; omega) k3 (by simp)).mono ?_
      rintro e w3 ⟨q, he, hq, hR, hb3⟩
      refine ⟨_, he, ⟨q, rfl, Nat.le_trans hb.size hq, hR⟩, hb3, fun j oj t hj hd hji hw hr => ?_⟩
      have hj6 : j = 11 → Value.pointer (some ⟨q, 0, none⟩) ≠ a.eval (.tmp t) := by
        rintro rfl
        obtain ⟨h, hh, _, hRh⟩ := hr
        rw [hh]
        intro e; injection e with e; injection e with e; injection e with e
        have := hRh.lt
        omega
      have hj12 : j ≠ 12 := by
        rintro rfl
        rw [show Region.waitsFor .any _ 12 5 = true from by kernel_rfl] at hw
        cases hw
      unfold E
      refine ⟨⟨?_, ?_, ?_, ?_⟩, ?_, ?_, ?_, ?_⟩
      all_goals intro h1 h2
      all_goals first
        | omega
        | exact hj6 h2
        | exact hj6 h1
        | exact (hj6 h1).symm
        | exact (hj6 h2).symm
        | exact absurd h1 hj12
        | exact absurd h2 hj12
    | 6 => cases hi; exact Free.g_move _ rfl ⟨(hold 7 (by decide)).trans rfl, Below.refl _ _, fun j oj t hj hd hji hw hr => E_none (by omega)⟩
    | 7 => cases hi; exact Free.g_move _ rfl ⟨(hold 2 (by decide)).trans rfl, Below.refl _ _, fun j oj t hj hd hji hw hr => E_none (by omega)⟩
    | 8 =>
      cases hi
      have h0 := hpre 7 _ _ (by kernel_rfl) rfl rfl
      exact Free.g_convert _ _ _ rfl h0 (conv_bytes (P := Try.prog) Try.underlying23 Try.underlying5 Try.underlying9 (hBb.below hb) c2) ⟨rfl, Below.refl _ _, fun j oj t hj hd hji hw hr => E_none (by omega)⟩
    | 9 =>
      cases hi
      have h0 := hpre 6 _ _ (by kernel_rfl) rfl rfl
      have h2 := hpre 8 _ _ (by kernel_rfl) rfl rfl
      refine Free.g_bin _ _ _ _ _ rfl h0 h2 (run_add_str wa 9 _ _ _ _ Try.underlying9 (by omega)) ⟨?_, Below.refl _ _, fun j oj t hj hd hji hw hr => E_none (by omega)⟩
      exact congrArg Value.string (strOf_append _ _).symm
    | 10 =>
      cases hi
      have h3 := hpre 9 _ _ (by kernel_rfl) rfl rfl
      have hsz : (strOf (T ++ ys)).size ≤ maxLen := by rw [strOf_size]; unfold maxLen; simp; omega
      obtain ⟨c', w', hr, k1, k2, k3, k4, k5⟩ := run_tobytes (P := Try.prog) (src := 9) (dst := 23) (e := 5) wa (strOf (T ++ ys)) Try.underlying9 Try.underlying23 Try.underlying5 hsz
      rw [bl_strOf _ hyb] at k1
      rw [strOf_size] at hr k3
      exact Free.g_convert _ _ _ rfl h3 hr ⟨⟨_, c', rfl, k1, k3⟩, k2, fun j oj t hj hd hji hw hr => E_none (by omega)⟩
    | 11 =>
      cases hi
      obtain ⟨ad, c', h4, k1, k3⟩ := hpre 10 _ _ (by kernel_rfl) rfl rfl
      refine Free.g_call _ _ rfl Try.func15 (by kernel_rfl) rfl [.slice (some ad) (T ++ ys).length c'] (by show [a.eval (.tmp 39)] = _; rw [h4]) ?_
      refine (open_any (some ad) c' (T ++ ys) wa k1 (by simp; omega) k3 (by simp)).mono ?_
      rintro e w3 ⟨q, he, hq, hR, hb3⟩
      refine ⟨_, he, ⟨q, rfl, Nat.le_trans hb.size hq, hR⟩, hb3, fun j oj t hj hd hji hw hr => ?_⟩
      have hj6 : j = 5 → Value.pointer (some ⟨q, 0, none⟩) ≠ a.eval (.tmp t) := by
        rintro rfl
        obtain ⟨h, hh, _, hRh⟩ := hr
        rw [hh]
        intro e; injection e with e; injection e with e; injection e with e
        have := hRh.lt
        omega
      have hj12 : j ≠ 13 := by
        rintro rfl
        rw [show Region.waitsFor .any _ 13 11 = true from by kernel_rfl] at hw
        cases hw
      unfold E
      refine ⟨⟨?_, ?_, ?_, ?_⟩, ?_, ?_, ?_, ?_⟩
      all_goals intro h1 h2
      all_goals first
        | omega
        | exact hj6 h2
        | exact hj6 h1
        | exact (hj6 h1).symm
        | exact (hj6 h2).symm
        | exact absurd h1 hj12
        | exact absurd h2 hj12
    | 12 =>
      cases hi
      refine Free.g_assign _ rfl ⟨trivial, Below.refl _ _, fun j oj t hj hd hji hw hr => ?_⟩
      unfold E
      refine ⟨⟨?_, ?_, ?_, ?_⟩, ?_, ?_, ?_, ?_⟩
      all_goals intro h1 h2
      all_goals first
        | omega
        | (subst h2; cases hj; cases hd; rfl)
    | 13 =>
      cases hi
      refine Free.g_assign _ rfl ⟨trivial, Below.refl _ _, fun j oj t hj hd hji hw hr => ?_⟩
      unfold E
      refine ⟨⟨?_, ?_, ?_, ?_⟩, ?_, ?_, ?_, ?_⟩
      all_goals intro h1 h2
      all_goals first
        | omega
        | (subst h2; cases hj; cases hd; rfl)
    | _ + 14 => cases hi
  · intro vs w3 hv hE hb3
    have hdst : ∀ i, i < 14 → True := fun _ _ => trivial
    obtain ⟨q, hq5, hq, hRq⟩ := hv 5 (by simp) (by rintro o ⟨⟩; rfl)
    obtain ⟨r, hr11, hr, hRr⟩ := hv 11 (by simp) (by rintro o ⟨⟩; rfl)
    have h12 : vs 12 = vs 5 := (hE 12 5 (by simp) (by simp) (by decide) (by rintro o ⟨⟩; rfl) (by rintro o ⟨⟩; rfl)).2.2.1 rfl rfl
    have h13 : vs 13 = vs 11 := (hE 13 11 (by simp) (by simp) (by decide) (by rintro o ⟨⟩; rfl) (by rintro o ⟨⟩; rfl)).2.2.2 rfl rfl
    have hqr : q ≠ r := by
      have := (hE 5 11 (by simp) (by simp) (by decide) (by rintro o ⟨⟩; rfl) (by rintro o ⟨⟩; rfl)).1 rfl rfl
      rw [hq5, hr11] at this
      rintro rfl; exact this rfl
    rw [hq5] at h12
    rw [hr11] at h13
    have hb03 := Hb2.out.trans (hb3.mono Hb2.out.size)
    have HRq := Lib.hid hRq; have HRr := Lib.hid hRr; have Hb3 := Lib.hid hb03
    have hwq : w.heap.size ≤ q := Nat.le_trans Hb2.out.size hq
    have hwr : w.heap.size ≤ r := Nat.le_trans Hb2.out.size hr
    clear hv hE hRq hRr hb03 hb3 hq5 hr11 hcv
    simp only [Free.puts]
    go_simp
    go_wp2_with fail
    rw [HTT.out] at HRq HRr
    go_loopw [10] (fun i wr => ∃ k : Nat, k ≤ ts.length ∧ i = .int .i64 k ∧ IsReader wr q (texts (ts.drop k) ++ xs) false ∧ IsReader wr r (texts (ts.drop k) ++ ys) false ∧ Below w.heap.size w wr) (fun i _ => ts.length - (intOf i).toNat)
    case atStart => exact ⟨0, by omega, rfl, HRq.out, HRr.out, Hb3.out⟩
    case round =>
      obtain ⟨k, hk, rfl, hRq, hRr, hb⟩ := hrel
      by_cases hlt : k < ts.length
      · have hT' := hT.below hb
        obtain ⟨b, off, rfl, hbw, -⟩ := hT.2 (by omega)
        obtain ⟨b', off', he, hbl, hc⟩ := hT'.2 (by omega)
        obtain ⟨rfl, rfl⟩ : b = b' ∧ off = off' := by injection he with he; injection he with e1 e2; exact ⟨e1, e2⟩
        clear he
        have hxk : ts[k]? = some ts[k] := List.getElem?_eq_getElem hlt
        have hmem := List.mem_of_getElem? hxk
        have hc' := hc k _ hxk
        have htd := texts_drop ts k _ hxk
        have htn := (hT.1 _ hmem).1
        have htb := weigh_mem hmem
        have hln : (texts (ts.drop (k + 1))).length ≤ 4000 := by
          have h1 := texts_len (ts.drop k)
          rw [htd, List.length_append] at h1
          have h2 : weigh (ts.drop k) ≤ weigh ts := by
            unfold weigh; conv => rhs; rw [← List.take_append_drop k ts]
            rw [List.map_append, List.sum_append]; omega
          rw [List.length_drop] at h1
          omega
        have hlb : ts[k].bytes.length ≤ 4000 := by
          have h1 := texts_len (ts.drop k)
          rw [htd, List.length_append] at h1
          have h2 : weigh (ts.drop k) ≤ weigh ts := by
            unfold weigh; conv => rhs; rw [← List.take_append_drop k ts]
            rw [List.map_append, List.sum_append]; omega
          rw [List.length_drop] at h1
          omega
        rw [htd, List.append_assoc] at hRq hRr
        clear htd hmem hxk hc hT'
        generalize ts[k] = t at *
        obtain ⟨Z, hZ⟩ : ∃ Z, Z = texts (ts.drop (k + 1)) := ⟨_, rfl⟩
        rw [← hZ] at hln hRq hRr
        have HZ := Lib.hid hZ; clear hZ
        have Hc' := Lib.hid hc'; have HRq2 := Lib.hid hRq; have HRr2 := Lib.hid hRr; have Hb := Lib.hid hb
        have hval : ∃ V, V = t.val := ⟨_, rfl⟩
        obtain ⟨V, hV⟩ := hval
        clear hc' hRq hRr hb
        go_wp2_with fail
        refine Stage.wp_region (by kernel_rfl) (by kernel_rfl) (Stage.two 5 11 (fun b1 b2 w' => IsReader w' q (bif b1 then Z ++ xs else t.bytes ++ (Z ++ xs)) false ∧ IsReader w' r (bif b2 then Z ++ ys else t.bytes ++ (Z ++ ys)) false ∧ Below w.heap.size w w' ∧ (∀ o, w'.cell? ⟨b, o, none⟩ = wr.cell? ⟨b, o, none⟩)))
          (Stage.two_start (by simp) (by simp) ⟨HRq2.out, HRr2.out, Hb.out.drew, fun _ => rfl⟩) ?_
        have hcells : ∀ w' : World, (∀ o, w'.cell? ⟨b, o, none⟩ = wr.cell? ⟨b, o, none⟩) → (Instr.loadAt 42 (.pointer (some ⟨b, off + k * 3, none⟩))).run Try.prog w' = .ok V w' := by
          intro w' hcc
          rw [hV]
          exact run_load_thing w' b (off + k * 3) t ((hcc _).trans Hc'.out.1) ((hcc _).trans Hc'.out.2.1) ((hcc _).trans Hc'.out.2.2)
        have Hcells := Lib.hid hcells; have HV := Lib.hid hV; clear hcells hV
        refine Stage.wpSt_reads 3 (fun _ => True) (by kernel_rfl) (Stage.two_any (by simp) (by simp)) ?_
        simp only [List.take_succ_cons, List.take_zero, List.drop_succ_cons, List.drop_zero]
        repeat (go_big_quiet_step (fail))
        refine wpQuiet_nil ?_
        refine Stage.wpSt_do V rfl (fun S w' hF hi hS => Free.at_load _ _ rfl rfl (Hcells.out w' hS.2.2.2) (Stage.two_any (k := 3) (m := 4) (by simp) (by simp) 3 (by omega) (by omega) S w' hF hi hS).2) ?_
        go_simp
        refine Stage.wpSt_reads 1 (fun _ => True) (by kernel_rfl) (Stage.two_any (by simp) (by simp)) ?_
        simp only [List.take_succ_cons, List.take_zero, List.drop_succ_cons, List.drop_zero]
        repeat (go_big_quiet_step (fail))
        refine wpQuiet_nil ?_
        refine Stage.wpSt_do (.string (strOf t.bytes)) rfl (Stage.two_do1 (by decide) ?_) ?_
        · rintro b2 w' ⟨h1, h2, h3, h4⟩
          refine Free.at_call _ _ rfl Try.func19 (by kernel_rfl) rfl [V, .pointer (some ⟨q, 0, none⟩)] rfl ?_
          rw [HV.out]
          have hrd := read_any t q _ false w' h1 htn (by omega) (by simp; omega)
          obtain ⟨e1, e2, e3⟩ := read_front t (Z ++ xs)
          simp only [cond_false] at hrd
          rw [e1, e2, e3] at hrd
          refine hrd.mono ?_
          rintro e w'' ⟨he, k1, k2⟩
          exact ⟨he, k1, h2.other h1 k2 (Ne.symm hqr), h3.trans (below_of_grown k2 h3.size hwq), fun o => by rw [← h4 o]; exact World.cell?_of_block (k2.block b (by have := h3.size; omega) (by intro e; injection e with e; omega))⟩
        go_simp
        refine Stage.wpSt_reads 3 (fun _ => True) (by kernel_rfl) (Stage.two_any (by simp) (by simp)) ?_
        simp only [List.take_succ_cons, List.take_zero, List.drop_succ_cons, List.drop_zero]
        repeat (go_big_quiet_step (fail))
        refine wpQuiet_nil ?_
        refine Stage.wpSt_do V rfl (fun S w' hF hi hS => Free.at_load _ _ rfl rfl (Hcells.out w' hS.2.2.2) (Stage.two_any (k := 9) (m := 10) (by simp) (by simp) 9 (by omega) (by omega) S w' hF hi hS).2) ?_
        go_simp
        refine Stage.wpSt_reads 1 (fun _ => True) (by kernel_rfl) (Stage.two_any (by simp) (by simp)) ?_
        simp only [List.take_succ_cons, List.take_zero, List.drop_succ_cons, List.drop_zero]
        repeat (go_big_quiet_step (fail))
        refine wpQuiet_nil ?_
        refine Stage.wpSt_do (.string (strOf t.bytes)) rfl (Stage.two_do2 (by decide) ?_) ?_
        · rintro b1 w' ⟨h1, h2, h3, h4⟩
          refine Free.at_call _ _ rfl Try.func19 (by kernel_rfl) rfl [V, .pointer (some ⟨r, 0, none⟩)] rfl ?_
          rw [HV.out]
          have hrd := read_any t r _ false w' h2 htn (by omega) (by simp; omega)
          obtain ⟨e1, e2, e3⟩ := read_front t (Z ++ ys)
          simp only [cond_false] at hrd
          rw [e1, e2, e3] at hrd
          refine hrd.mono ?_
          rintro e w'' ⟨he, k1, k2⟩
          exact ⟨he, h1.other h2 k2 hqr, k1, h3.trans (below_of_grown k2 h3.size hwr), fun o => by rw [← h4 o]; exact World.cell?_of_block (k2.block b (by have := h3.size; omega) (by intro e; injection e with e; omega))⟩
        go_simp
        refine Stage.wpSt_reads 1 (fun _ => True) (by kernel_rfl) (Stage.two_any (by simp) (by simp)) ?_
        simp only [List.take_succ_cons, List.take_zero, List.drop_succ_cons, List.drop_zero]
        generalize strOf t.bytes = str at *
        repeat (go_big_quiet_step (fail))
        refine wpQuiet_nil (Stage.wpSt_nil (Stage.two_end ?_))
        rintro w5 ⟨h1, h2, h3, -⟩
        have H := Lib.hid (And.intro h1 (And.intro h2 h3)); clear h1 h2 h3
        go_wp2_with fail
        go_roundw
        case rel => exact ⟨k + 1, by omega, by go_num, by rw [← HZ.out]; exact H.out.1, by rw [← HZ.out]; exact H.out.2.1, H.out.2.2⟩
        case measure => simp [intOf]; omega
      · obtain rfl : k = ts.length := by omega
        rw [List.drop_length] at hRq hRr
        have hlq := left_any q _ false wr hRq
        have hlr := left_any r _ false wr hRr
        have hbq := bad_any q _ false wr hRq
        have hbr := bad_any r _ false wr hRr
        rw [show texts [] ++ xs = xs from rfl] at hlq
        rw [show texts [] ++ ys = ys from rfl] at hlr
        have Hlq := Lib.hid hlq; have Hlr := Lib.hid hlr; have Hbq := Lib.hid hbq; have Hbr := Lib.hid hbr; have Hb := Lib.hid hb
        clear hlq hlr hbq hbr hRq hRr hb
        go_wp2_with fail
        refine (Hlq.out).mono ?_; rintro e w' ⟨rfl, rfl⟩
        go_wp2_with fail
        refine (Hlr.out).mono ?_; rintro e w' ⟨rfl, rfl⟩
        go_wp2_with fail
        refine (Hbq.out).mono ?_; rintro e w' ⟨rfl, rfl⟩
        go_wp2_with fail
        refine (Hbr.out).mono ?_; rintro e w' ⟨rfl, rfl⟩
        go_wp2_with fail
        refine (works_any _).mono ?_; rintro e w8 ⟨rfl, hb8⟩
        dsimp only
        go_wp2_with fail
        go_ret
        exact ⟨rfl, Hb.out.trans (hb8.mono Hb.out.size)⟩
theorem walk (ts : List Th) (A : Option Addr) (c : Nat) (xs : List Nat) (A1 : Option Addr) (c1 : Nat) (ys : List Nat) (A2 : Option Addr) (c2 : Nat) (w : World) (hT : Things w A ts) (hl : ts.length * 3 ≤ 140737488351232) (hB1 : Bytes w A1 xs) (hxc : xs.length ≤ c1) (hcm : c1 ≤ maxLen) (hB2 : Bytes w A2 ys) (hyc : ys.length ≤ c2) (hcm2 : c2 ≤ maxLen) :
    Calls Try.prog 6 #[.slice A ts.length c, .slice A1 xs.length c1, .slice A2 ys.length c2] w fun e w' => e = .returned (.bool true) ∧ Below w.heap.size w w' := by
  unfold maxLen at hcm hcm2
  by_cases h : few ts = true ∧ xs.length ≤ 200 ∧ ys.length ≤ 200
  · exact walk_main ts A c xs A1 c1 ys A2 c2 w hT hB1 hB2 h.1 h.2.1 h.2.2
  · refine walk_else ts A c xs A1 c1 ys A2 c2 w hT hl (by omega) (by omega) ?_
    cases hf : few ts with
    | false => exact .inl rfl
    | true =>
      right
      have : ¬ (xs.length ≤ 200 ∧ ys.length ≤ 200) := fun h2 => h ⟨hf, h2⟩
      omega

set_option maxRecDepth 100000 in
theorem lifted (os : Os) (started : os.Started) (H : Type) (enc : TypeId × Value → H) :
    ReturnsInHanded {} Try.checked os 6 .any (Rows.fieldsUnreadSpec.pre6 enc Try.prog Try.f6 Rows.fieldsUnreadRow.domain false) (Rows.fieldsUnreadSpec.post enc Try.prog Try.f6 false true false false) := by
  refine returnsInHanded_of_change_sized (C := Try.checked) ownKnob_none started (by kernel_rfl) Try.func6
    (ChangeSpec.witness6 (enc := enc) (C := Try.checked) false ⟨#[], #[.slice none 0 0, .slice none 0 0, .slice none 0 0], []⟩ 8 (by kernel_rfl) (by kernel_rfl) (by kernel_rfl) (by kernel_rfl)) ?_
  intro W base args ds gs before hval0 hW hcnd hsz0 _
  have hval : ∀ (j : Nat) t v, Try.f6.params[j]? = some t → args[j]? = some v → Value.okWide Try.prog W .any base t v := hval0
  have hW' := hW
  obtain ⟨p, q, hA0, hV, rfl, hfz, hnd⟩ := hW
  have hA : DataW.TrodAll enc Try.prog W 0 (fun _ => true) true Try.f6.params.toList args.toList ds p := hA0
  have hsz : (DataW.weightsEach Try.prog (Try.f6.params.toList ++ Rows.fieldsUnreadSpec.plain.varTypes Try.prog) (ds ++ gs)).all (· ≤ reachBytes) = true := hsz0
  rw [Try.params6] at hA hval hsz
  obtain ⟨v0, vs0, d0, ds0, p0, q0, hargs, rfl, rfl, h0, r0⟩ := trodAll_cons hA
  obtain ⟨v1, vs1, d1, ds1, p1, q1, rfl, rfl, rfl, h1, r1⟩ := trodAll_cons r0
  obtain ⟨v2, vs2, d2, ds2, p2, q2, rfl, rfl, rfl, h2, r2⟩ := trodAll_cons r1
  obtain ⟨rfl, rfl, rfl⟩ := trodAll_nil r2
  obtain rfl : args = #[v0, v1, v2] := by cases args; simp_all
  obtain ⟨rfl, rfl⟩ := trodVars_none hV
  obtain ⟨A0, ts0, c0, rfl, hT0, hl0⟩ := open_things (hval 0 22 v0 rfl rfl) h0 (weights_of hsz (j := 0) rfl rfl)
  obtain ⟨A1, xs1, c1, rfl, hB1, hxc1, hcm1, hAc1⟩ := open_bytes Try.underlying23 Try.underlying5 cells_u8 (hval 1 23 v1 rfl rfl) h1
  obtain ⟨A2, xs2, c2, rfl, hB2, hxc2, hcm2, hAc2⟩ := open_bytes Try.underlying23 Try.underlying5 cells_u8 (hval 2 23 v2 rfl rfl) h2
  clear hA0 hval0 hsz0
  refine (walk ts0 A0 c0 xs1 A1 c1 xs2 A2 c2 W hT0 hl0 hB1 hxc1 hcm1 hB2 hxc2 hcm2).mono fun e W' ⟨he, hg⟩ => ?_
  subst he
  exact ⟨_, rfl, law_post progLaid hW' rfl (by rw [Try.params6]; intro t ht; simp at ht; rcases ht with rfl | rfl <;> exact ⟨by kernel_rfl, of_decide_eq_true (by kernel_rfl)⟩) rfl Try.underlying4 rfl hg⟩

theorem over : Rows.fieldsUnreadRow.holds Try.pinned (OpenSpec.ofChange Rows.fieldsUnreadSpec) :=
  OpenClaim.holds_of_wide 6 Try.f6 rfl rfl rfl rfl rfl rfl rfl ⟨rfl, rfl, rfl, rfl, rfl⟩ rfl rfl rfl rfl rfl (by kernel_rfl) Try.func6 (by kernel_rfl)
    (of_decide_eq_true (by kernel_rfl)) (by unfold Func.isWrapper; first | (rw [if_pos (by decide +kernel)]; kernel_rfl) | (rw [if_neg (by decide +kernel)]; exact ⟨rfl, rfl⟩))
    (fun os started H enc _ => lifted os started H enc)

/-- The statement. -/
theorem proved : Rows.FieldsUnreadSaid :=
  over
end fieldsUnread
end Go.Proofs.Ytmliiglhglhjkaa
