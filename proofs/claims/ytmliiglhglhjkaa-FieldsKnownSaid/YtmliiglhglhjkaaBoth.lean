/- FieldsBoth: what two Writers have written, one behind the other, is what one has written, and is read again, then nothing more; for at most 50 things of 2000 bytes each. -/
import Derived.Test.YtmliiglhglhjkaaAppend
import Derived.Test.YtmliiglhglhjkaaReads
import Derived.Test.YtmliiglhglhjkaaFreePairs
import Derived.Test.YtmliiglhglhjkaaWorks
import Derived.Test.YtmliiglhglhjkaaLaw
import Derived.SizedLaws
namespace Go.Proofs.Ytmliiglhglhjkaa
open Go.ChangeShapes Go.WideShapes Go.ChangeAt Go.RowKit Go.BigFrame
set_option linter.unusedVariables false
namespace fieldsBoth
theorem walk_else (ts : List Th) (A : Option Addr) (c : Nat) (us : List Th) (A1 : Option Addr) (c1 : Nat) (w : World) (hT : Things w A ts) (hl : ts.length * 3 ≤ 140737488351232) (hU : Things w A1 us) (hl1 : us.length * 3 ≤ 140737488351232) (hno : few ts = false ∨ few us = false) :
    Calls Try.prog 5 #[.slice A ts.length c, .slice A1 us.length c1] w fun e w' => e = .returned (.bool true) ∧ Below w.heap.size w w' := by
  have hf := few_any A c ts w hT hl
  have hf1 := few_any A1 c1 us w hU hl1
  cases h : few ts with
  | false =>
    rw [h] at hf
    have Hf := Lib.hid hf; clear hf hf1 h hno
    go_enter Try.func5, Try.ntmps5
    go_wp2_with fail
    refine (Hf.out).mono ?_; rintro e w' ⟨rfl, rfl⟩
    go_wp2_with fail
    refine (works_any w).mono ?_; rintro e w2 ⟨rfl, hb2⟩
    go_wp2_with fail
    go_ret
    exact ⟨rfl, hb2⟩
  | true =>
    have h1 : few us = false := by rcases hno with h2 | h2; (rw [h2] at h; cases h); exact h2
    rw [h] at hf
    rw [h1] at hf1
    have Hf := Lib.hid hf; have Hf1 := Lib.hid hf1; clear hf hf1 h h1 hno
    go_enter Try.func5, Try.ntmps5
    go_wp2_with fail
    refine (Hf.out).mono ?_; rintro e w' ⟨rfl, rfl⟩
    go_wp2_with fail
    refine (Hf1.out).mono ?_; rintro e w' ⟨rfl, rfl⟩
    go_wp2_with fail
    refine (works_any w).mono ?_; rintro e w2 ⟨rfl, hb2⟩
    go_wp2_with fail
    go_ret
    exact ⟨rfl, hb2⟩
/-- what a writer's pointer says -/
def Wr (zs : List Nat) (v : Value) (w : World) : Prop := ∃ g, v = .pointer (some ⟨g, 0, none⟩) ∧ IsWriter w g zs
def Sl (zs : List Nat) (v : Value) (w : World) : Prop := ∃ b, v = .slice (some ⟨b, 0, none⟩) zs.length zs.length ∧ Bytes w (some ⟨b, 0, none⟩) zs
theorem Wr.below {zs : List Nat} {v : Value} {w w' : World} (h : Wr zs v w) (hb : Below w.heap.size w w') : Wr zs v w' := by
  obtain ⟨g, e, h2⟩ := h; exact ⟨g, e, h2.below hb⟩
theorem Sl.below {zs : List Nat} {v : Value} {w w' : World} (h : Sl zs v w) (hb : Below w.heap.size w w') : Sl zs v w' := by
  obtain ⟨b, e, h1⟩ := h; exact ⟨b, e, h1.below hb⟩
theorem weigh_append (ts us : List Th) : weigh (ts ++ us) = weigh ts + weigh us := by simp [weigh]
theorem texts_append (ts us : List Th) : texts (ts ++ us) = texts ts ++ texts us := by simp [texts]
theorem own_below {w w' : World} {base : Nat} {e : TypeId} {size n : Nat} {v : Value} {xs : List Value} (h : w.ownsRow base e size v n xs) (hg : w.grownBy w' v.ownBlock) (hB : base ≤ w.heap.size) : Below base w w' := by
  cases hv : v.ownBlock with
  | none => rw [hv] at hg; exact (grown_none hg).mono hB
  | some g => rw [hv] at hg; exact below_of_grown hg hB (h.lt g hv).1
set_option maxRecDepth 100000 in
set_option maxHeartbeats 1000000 in
theorem walk_main (ts : List Th) (A : Option Addr) (c : Nat) (us : List Th) (A1 : Option Addr) (c1 : Nat) (w : World) (hT : Things w A ts) (hA : A = none → c = 0) (hU : Things w A1 us) (hA1 : A1 = none → c1 = 0) (hfw : few ts = true) (hfu : few us = true) :
    Calls Try.prog 5 #[.slice A ts.length c, .slice A1 us.length c1] w fun e w' => e = .returned (.bool true) ∧ Below w.heap.size w w' := by
  have hfw2 := hfw
  simp only [few, Bool.and_eq_true, decide_eq_true_eq] at hfw2
  obtain ⟨hl50, hwe⟩ := hfw2
  have hfu2 := hfu
  simp only [few, Bool.and_eq_true, decide_eq_true_eq] at hfu2
  obtain ⟨hm50, hue⟩ := hfu2
  have hf := few_any A c ts w hT (by omega)
  have hf1 := few_any A1 c1 us w hU (by omega)
  rw [hfw] at hf
  rw [hfu] at hf1
  have hown0 : w.ownsRow w.heap.size 42 3 (.slice none 0 0) 0 (rowOf []) := World.ownsRow_nil w _ _ _
  have Hf := Lib.hid hf; have Hf1 := Lib.hid hf1; clear hf hf1 hfw hfu
  go_enter Try.func5, Try.ntmps5
  go_wp2_with fail
  refine (Hf.out).mono ?_; rintro e w' ⟨rfl, rfl⟩
  go_wp2_with fail
  refine (Hf1.out).mono ?_; rintro e w' ⟨rfl, rfl⟩
  go_wp2_with (at_builtin; refine wpList_append_things rfl _ _ rfl w.heap.size _ 0 [] rfl hown0 A c ts rfl hT hA (by omega) (Nat.le_refl _) ?_)
  intro v1 w1 hown1 hgr1
  have hb1 := own_below hown0 hgr1 (Nat.le_refl _)
  have hU1 := hU.below hb1
  have hs1 := hb1.size
  go_wp2_with (at_builtin; refine wpList_append_things rfl _ _ rfl w.heap.size v1 ts.length ts rfl hown1 A1 c1 us rfl hU1 hA1 (by omega) hs1 ?_)
  intro v2 w2 hown2 hgr2
  have hb2 := hb1.trans (own_below hown1 hgr2 hs1)
  obtain ⟨A3, c3, rfl, hL⟩ := Things.of_own hown2 (fun t ht => by rcases List.mem_append.1 ht with h | h; (exact hT.1 t h); exact hU.1 t h)
  have hll : (ts ++ us).length ≤ 100 := by simp; omega
  have hlw : weigh (ts ++ us) ≤ 4000 := by rw [weigh_append]; omega
  have htl := texts_len ts
  have hul := texts_len us
  have htx := texts_append ts us
  have hT2 := hT.below hb2
  have hU2 := hU.below hb2
  obtain ⟨l, hl⟩ : ∃ l, l = ts ++ us := ⟨_, rfl⟩
  rw [← hl] at hL hll hlw htx ⊢
  have Hb2 := Lib.hid hb2
  clear hown0 hown1 hown2 hgr1 hgr2 hb1 hU1 hs1 hb2 hl
  obtain ⟨Ta, hTa⟩ : ∃ T, T = texts ts := ⟨_, rfl⟩
  obtain ⟨Tb, hTb⟩ : ∃ T, T = texts us := ⟨_, rfl⟩
  rw [← hTa, ← hTb] at htx
  rw [← hTa] at htl
  rw [← hTb] at hul
  have HTa := Lib.hid hTa; have HTb := Lib.hid hTb; have Htx := Lib.hid htx; clear hTa hTb htx
  obtain ⟨str, hstr⟩ : ∃ str, str = strOf (Ta ++ Tb) := ⟨_, rfl⟩
  have hadd : strOf Ta ++ strOf Tb = str := by rw [hstr, strOf_append]
  have hsz1 : (strOf Ta).size ≤ 4000 := by rw [strOf_size]; omega
  have hsz2 : (strOf Tb).size ≤ 4000 := by rw [strOf_size]; omega
  have hsz : str.size ≤ 8000 := by rw [hstr, strOf_size]; simp; omega
  have Hstr := Lib.hid hstr; have Hadd := Lib.hid hadd; clear hstr hadd
  go_wp2_with fail
  refine Free.wp_grow (by kernel_rfl) (by kernel_rfl) (fun i v w' => match i with
    | 0 => v = .slice A ts.length c
    | 1 => Wr Ta v w'
    | 2 => Sl Ta v w'
    | 3 => v = .string (strOf Ta)
    | 4 => v = .slice A1 us.length c1
    | 5 => Wr Tb v w'
    | 6 => Sl Tb v w'
    | 7 => v = .string (strOf Tb)
    | _ => v = .string str) ?_ ?_ ?_
  · intro j u wa wb hb h
    match j with
    | 0 | 3 | 4 | 7 => exact h
    | 1 | 5 => exact Wr.below h hb
    | 2 | 6 => exact Sl.below h hb
    | _ + 8 => exact h
  · intro i o hi a wa hold hpre hbw
    match i with
    | 0 => cases hi; exact Free.g_move _ rfl ⟨(hold 0 (by decide)).trans rfl, Below.refl _ _⟩
    | 1 =>
      cases hi
      have h0 := hpre 0 _ _ (by kernel_rfl) rfl rfl
      refine Free.g_call _ _ rfl Try.func11 (by kernel_rfl) rfl [.slice A ts.length c] (by show [a.eval (.tmp 23)] = _; rw [h0]) ?_
      refine (all_any A c ts wa (hT2.below hbw) (by omega) (by omega)).mono ?_
      rintro e w2 ⟨g, he, _, hW, hb2⟩
      exact ⟨_, he, ⟨g, rfl, by rw [HTa.out]; exact hW⟩, hb2⟩
    | 2 =>
      cases hi
      obtain ⟨g, h0, hW⟩ := hpre 1 _ _ (by kernel_rfl) rfl rfl
      refine Free.g_call _ _ rfl Try.func14 (by kernel_rfl) rfl [.pointer (some ⟨g, 0, none⟩)] (by show [a.eval (.tmp 24)] = _; rw [h0]) ?_
      refine (out_any g Ta wa hW (by omega)).mono ?_
      rintro e w2 ⟨b, he, _, hr, hb2⟩
      exact ⟨_, he, ⟨b, rfl, Bytes.of_row hr hW.bytes⟩, hb2⟩
    | 3 =>
      cases hi
      obtain ⟨b, h0, hB⟩ := hpre 2 _ _ (by kernel_rfl) rfl rfl
      exact Free.g_convert _ _ _ rfl h0 (conv_bytes (P := Try.prog) Try.underlying23 Try.underlying5 Try.underlying9 hB Ta.length) ⟨rfl, Below.refl _ _⟩
    | 4 => cases hi; exact Free.g_move _ rfl ⟨(hold 1 (by decide)).trans rfl, Below.refl _ _⟩
    | 5 =>
      cases hi
      have h0 := hpre 4 _ _ (by kernel_rfl) rfl rfl
      refine Free.g_call _ _ rfl Try.func11 (by kernel_rfl) rfl [.slice A1 us.length c1] (by show [a.eval (.tmp 27)] = _; rw [h0]) ?_
      refine (all_any A1 c1 us wa (hU2.below hbw) (by omega) (by omega)).mono ?_
      rintro e w2 ⟨g, he, _, hW, hb2⟩
      exact ⟨_, he, ⟨g, rfl, by rw [HTb.out]; exact hW⟩, hb2⟩
    | 6 =>
      cases hi
      obtain ⟨g, h0, hW⟩ := hpre 5 _ _ (by kernel_rfl) rfl rfl
      refine Free.g_call _ _ rfl Try.func14 (by kernel_rfl) rfl [.pointer (some ⟨g, 0, none⟩)] (by show [a.eval (.tmp 28)] = _; rw [h0]) ?_
      refine (out_any g Tb wa hW (by omega)).mono ?_
      rintro e w2 ⟨b, he, _, hr, hb2⟩
      exact ⟨_, he, ⟨b, rfl, Bytes.of_row hr hW.bytes⟩, hb2⟩
    | 7 =>
      cases hi
      obtain ⟨b, h0, hB⟩ := hpre 6 _ _ (by kernel_rfl) rfl rfl
      exact Free.g_convert _ _ _ rfl h0 (conv_bytes (P := Try.prog) Try.underlying23 Try.underlying5 Try.underlying9 hB Tb.length) ⟨rfl, Below.refl _ _⟩
    | 8 =>
      cases hi
      have h1 := hpre 3 _ _ (by kernel_rfl) rfl rfl
      have h3 := hpre 7 _ _ (by kernel_rfl) rfl rfl
      refine Free.g_bin _ _ _ _ _ rfl h1 h3 (run_add_str wa 9 _ _ _ _ Try.underlying9 (by omega)) ⟨?_, Below.refl _ _⟩
      exact congrArg Value.string Hadd.out
    | 9 =>
      cases hi
      have h4 := hpre 8 _ _ (by kernel_rfl) rfl rfl
      exact Free.g_assign _ rfl ⟨h4, Below.refl _ _⟩
    | _ + 10 => cases hi
  · intro vs w3 hv hb3
    have h6 : vs 9 = .string str := hv 9 (by simp) (by rintro o ⟨⟩; rfl)
    have hb03 := Hb2.out.trans (hb3.mono Hb2.out.size)
    have hL3 := hL.below hb3
    have hall := all_any A3 c3 l w3 hL3 hll hlw
    rw [Htx.out] at hall
    have Hall := Lib.hid hall; have Hb3 := Lib.hid hb03
    clear hv hb03 hb3 hall hT2 hU2 hL
    simp only [Free.puts]
    go_simp
    go_wp2_with fail
    refine (Hall.out).mono ?_; rintro e w4 ⟨g, rfl, hg, hW, hb4⟩
    dsimp only
    have hlen : (Ta ++ Tb).length ≤ 8000 := by simp; omega
    have hou := out_any g _ w4 hW (by omega)
    have hby := hW.bytes
    have hb04 := Hb3.out.trans (hb4.mono Hb3.out.size)
    have hL4 := hL3.below hb4
    have Hou := Lib.hid hou; have Hb4 := Lib.hid hb04; clear hou hW hb4 hb04 hL3
    obtain ⟨n4, hn4⟩ : ∃ n4, n4 = (Ta ++ Tb).length := ⟨_, rfl⟩
    go_wp2_with fail
    refine (Hou.out).mono ?_; rintro e w5 ⟨b5, rfl, _, hr5, hb5⟩
    dsimp only
    have hcv := conv_bytes (P := Try.prog) (w := w5) Try.underlying23 Try.underlying5 Try.underlying9 (Bytes.of_row hr5 hby) (Ta ++ Tb).length
    rw [← Hstr.out, ← hn4] at hcv
    rw [← hn4]
    clear hn4
    have hb05 := Hb4.out.trans (hb5.mono Hb4.out.size)
    have hL5 := hL4.below hb5
    have htxs := texts_any A3 c3 l w5 hL5 hll hlw
    rw [Htx.out, ← Hstr.out] at htxs
    have Htxs := Lib.hid htxs; have Hb5 := Lib.hid hb05; have HL5 := Lib.hid hL5; clear htxs hb05 hb5 hr5 hL4 hL5
    go_wp2_with fail
    refine (Htxs.out).mono ?_; rintro e w6 ⟨rfl, hb6⟩
    dsimp only
    have hb06 := Hb5.out.trans (hb6.mono Hb5.out.size)
    have hL6 := HL5.out.below hb6
    have Hb6 := Lib.hid hb06; have HL6 := Lib.hid hL6; clear hb06 hb6 hL6
    go_wp2_with (refine wpList_tobytes rfl (.tmp 44) rfl Try.underlying9 Try.underlying23 Try.underlying5 str rfl (by unfold maxLen; omega) ?_)
    intro c7 w7 hB7 hb7 hc7 _ _
    have hbl : bl str = Ta ++ Tb := by rw [Hstr.out]; exact bl_strOf _ hby
    have hss : str.size = Ta.length + Tb.length := by rw [Hstr.out, strOf_size, List.length_append]
    rw [hbl] at hB7
    rw [hss] at hc7 ⊢
    have hop := open_any (some ⟨w6.heap.size, 0, none⟩) c7 (Ta ++ Tb) w7 hB7 (by omega) (by rw [List.length_append]; exact hc7) (by simp)
    rw [List.length_append] at hop
    have hb07 := Hb6.out.trans (hb7.mono Hb6.out.size)
    have hL7 := HL6.out.below hb7
    have Hop := Lib.hid hop; have Hb7 := Lib.hid hb07; have HL7 := Lib.hid hL7; clear hop hb07 hL7 hb7 hB7 hc7 hcv
    go_wp2_with fail
    refine (Hop.out).mono ?_; rintro e w8 ⟨r, rfl, hr, hR, hb8⟩
    dsimp only
    have hb08 := Hb7.out.trans (hb8.mono Hb7.out.size)
    have hL8 := HL7.out.below hb8
    have hlb : ∀ b off, A3 = some ⟨b, off, none⟩ → 0 < l.length → b < w7.heap.size := by
      rintro b off rfl hn
      obtain ⟨b', off', e, hlt, _⟩ := HL7.out.2 hn
      injection e with e; injection e with e1 e2; omega
    rw [← Htx.out] at hR
    have HR := Lib.hid hR; have Hb8 := Lib.hid hb08; have HL8 := Lib.hid hL8; have Hlb := Lib.hid hlb; clear hR hb08 hL8 hlb hb8
    go_wp2_with fail
    go_loopw [8] (fun i wr => ∃ k : Nat, k ≤ l.length ∧ i = .int .i64 k ∧ IsReader wr r (texts (l.drop k)) false ∧ Things wr A3 l ∧ Below w.heap.size w wr) (fun i _ => l.length - (intOf i).toNat)
    case atStart => exact ⟨0, by omega, rfl, HR.out, HL8.out, Hb8.out⟩
    case round =>
      obtain ⟨k, hk, rfl, hRr, hLr, hb⟩ := hrel
      by_cases hlt : k < l.length
      · obtain ⟨b, off, rfl, hbl', hc⟩ := id hLr.2 (by omega)
        have hbr : b < w7.heap.size := Hlb.out b off rfl (by omega)
        have hxk : l[k]? = some l[k] := List.getElem?_eq_getElem hlt
        have hmem := List.mem_of_getElem? hxk
        have hc' := hc k _ hxk
        have htd := texts_drop l k _ hxk
        have htn := (hLr.1 _ hmem).1
        have htb := weigh_mem hmem
        have hlt0 := texts_len (l.drop k)
        have hwd : weigh (l.drop k) ≤ weigh l := by
          unfold weigh; conv => rhs; rw [← List.take_append_drop k l]
          rw [List.map_append, List.sum_append]; omega
        rw [htd, List.length_append, List.length_drop] at hlt0
        rw [htd] at hRr
        have hlnZ : l[k].bytes.length + (texts (l.drop (k + 1))).length ≤ 5000 := by omega
        clear htd hmem hxk hc hwd hlt0
        obtain ⟨Z, hZ⟩ : ∃ Z, Z = texts (l.drop (k + 1)) := ⟨_, rfl⟩
        rw [← hZ] at hRr hlnZ
        generalize l[k] = t at *
        have HZ := Lib.hid hZ; clear hZ
        obtain ⟨V, hV⟩ : ∃ V, V = t.val := ⟨_, rfl⟩
        have Hc' := Lib.hid hc'; have HRr := Lib.hid hRr; have HLr := Lib.hid hLr; have Hb := Lib.hid hb
        clear hc' hRr hLr hb
        go_wp2_with fail
        refine Stage.wp_region (by kernel_rfl) (by kernel_rfl) (Stage.one 5 (fun b1 w' => IsReader w' r (bif b1 then Z else t.bytes ++ Z) false ∧ Below w.heap.size w w' ∧ (∀ j, j < wr.heap.size → j ≠ r → w'.heap[j]? = wr.heap[j]?) ∧ wr.heap.size ≤ w'.heap.size))
          (Stage.one_start (by simp) ⟨HRr.out, Hb.out.drew, fun _ _ _ => rfl, Nat.le_refl _⟩) ?_
        have hcells : ∀ w' : World, (∀ j, j < wr.heap.size → j ≠ r → w'.heap[j]? = wr.heap[j]?) → (Instr.loadAt 42 (.pointer (some ⟨b, off + k * 3, none⟩))).run Try.prog w' = .ok V w' := by
          intro w' hcc
          rw [hV]
          have hcb : ∀ o, w'.cell? ⟨b, o, none⟩ = wr.cell? ⟨b, o, none⟩ := fun o => World.cell?_of_block (hcc b hbl' (by omega))
          exact run_load_thing w' b (off + k * 3) t ((hcb _).trans Hc'.out.1) ((hcb _).trans Hc'.out.2.1) ((hcb _).trans Hc'.out.2.2)
        have Hcells := Lib.hid hcells; have HV := Lib.hid hV; clear hcells hV
        refine Stage.wpSt_reads 3 (fun _ => True) (by kernel_rfl) (Stage.one_any (by simp)) ?_
        simp only [List.take_succ_cons, List.take_zero, List.drop_succ_cons, List.drop_zero]
        repeat (go_big_quiet_step (fail))
        refine wpQuiet_nil ?_
        refine Stage.wpSt_do V rfl (fun S w' hF hi hS => Free.at_load _ _ rfl rfl (Hcells.out w' hS.2.2.1) (Stage.one_any (k := 3) (m := 4) (by simp) 3 (by omega) (by omega) S w' hF hi hS).2) ?_
        go_simp
        refine Stage.wpSt_reads 1 (fun _ => True) (by kernel_rfl) (Stage.one_any (by simp)) ?_
        simp only [List.take_succ_cons, List.take_zero, List.drop_succ_cons, List.drop_zero]
        repeat (go_big_quiet_step (fail))
        refine wpQuiet_nil ?_
        refine Stage.wpSt_do (.string (strOf t.bytes)) rfl (Stage.one_do ?_) ?_
        · rintro w' ⟨h1, h3, h4, h5⟩
          refine Free.at_call _ _ rfl Try.func19 (by kernel_rfl) rfl [V, .pointer (some ⟨r, 0, none⟩)] rfl ?_
          rw [HV.out]
          have hrd := read_any t r _ false w' h1 htn (by omega) (by simp; omega)
          obtain ⟨e1, e2, e3⟩ := read_front t Z
          simp only [cond_false] at hrd
          rw [e1, e2, e3] at hrd
          refine hrd.mono ?_
          rintro e w'' ⟨he, k1, k2⟩
          exact ⟨he, k1, h3.trans (below_of_grown k2 h3.size (by have := Hb7.out.size; omega)), fun j hj hjr => (k2.block j (by omega) (by intro e; injection e with e; exact hjr e)).trans (h4 j hj hjr), Nat.le_trans h5 k2.size⟩
        go_simp
        refine Stage.wpSt_reads 3 (fun _ => True) (by kernel_rfl) (Stage.one_any (by simp)) ?_
        simp only [List.take_succ_cons, List.take_zero, List.drop_succ_cons, List.drop_zero]
        repeat (go_big_quiet_step (fail))
        refine wpQuiet_nil ?_
        refine Stage.wpSt_do V rfl (fun S w' hF hi hS => Free.at_load _ _ rfl rfl (Hcells.out w' hS.2.2.1) (Stage.one_any (k := 9) (m := 10) (by simp) 9 (by omega) (by omega) S w' hF hi hS).2) ?_
        go_simp
        refine Stage.wpSt_do (.string (strOf t.bytes)) rfl (fun S w' hF hi hS => ?_) ?_
        · refine Free.at_call _ _ rfl Try.func22 (by kernel_rfl) rfl [V] rfl ?_
          rw [HV.out]
          have htx := text_any t w' htn
          have hbt : strOf t.bytes = if t.wide = 0 then t.b else strOf (M.be t.wide t.n) := by
            unfold Th.bytes; split
            · exact strOf_bl _
            · rfl
          rw [← hbt] at htx
          refine htx.mono ?_
          rintro e w'' ⟨he, k2⟩
          refine ⟨he, (Stage.one_any (k := 10) (m := 11) (by simp) 10 (by omega) (by omega) S w'' hF hi ?_).2⟩
          obtain ⟨h1, h3, h4, h5⟩ := hS
          exact ⟨h1.below k2, h3.trans (k2.mono h3.size), fun j hj hjr => (k2.block j (by omega)).trans (h4 j hj hjr), Nat.le_trans h5 k2.size⟩
        go_simp
        refine Stage.wpSt_reads 1 (fun _ => True) (by kernel_rfl) (Stage.one_any (by simp)) ?_
        simp only [List.take_succ_cons, List.take_zero, List.drop_succ_cons, List.drop_zero]
        generalize strOf t.bytes = stt at *
        repeat (go_big_quiet_step (fail))
        refine wpQuiet_nil (Stage.wpSt_nil (Stage.one_end ?_))
        rintro w5' ⟨h1, h3, h4, h5⟩
        have hL5 : Things w5' (some ⟨b, off, none⟩) l := ⟨HLr.out.1, fun hn => by
          obtain ⟨b', off', e, hlt', hc⟩ := HLr.out.2 hn
          obtain ⟨rfl, rfl⟩ : b = b' ∧ off = off' := by injection e with e; injection e with e1 e2; exact ⟨e1, e2⟩
          have hcb : ∀ o, w5'.cell? ⟨b, o, none⟩ = wr.cell? ⟨b, o, none⟩ := fun o => World.cell?_of_block (h4 b hlt' (by omega))
          exact ⟨b, off, rfl, by omega, fun i t ht => ⟨(hcb _).trans (hc i t ht).1, (hcb _).trans (hc i t ht).2.1, (hcb _).trans (hc i t ht).2.2⟩⟩⟩
        have H := Lib.hid (And.intro h1 (And.intro hL5 h3)); clear h1 h3 h4 h5 hL5
        go_wp2_with fail
        go_roundw
        case rel => exact ⟨k + 1, by omega, by go_num, by rw [← HZ.out]; exact H.out.1, H.out.2.1, H.out.2.2⟩
        case measure => simp [intOf]; omega
      · obtain rfl : k = l.length := by omega
        rw [List.drop_length] at hRr
        have hRr' : IsReader wr r [] false := hRr
        have hlq := left_any r _ false wr hRr'
        have hbq := bad_any r _ false wr hRr'
        have hby2 := rbyte_any r _ false wr hRr' (by simp)
        rw [show M.val (M.out (1 : Nat) [] false) = 0 from rfl, show M.rest (1 : Nat) [] false = [] from rfl, show M.spoil (1 : Nat) [] false = true from rfl] at hby2
        have Hlq := Lib.hid hlq; have Hbq := Lib.hid hbq; have Hby2 := Lib.hid hby2; have Hb := Lib.hid hb
        clear hlq hbq hby2 hRr hRr' hb hLr
        go_wp2_with fail
        refine (Hlq.out).mono ?_; rintro e w' ⟨rfl, rfl⟩
        go_wp2_with fail
        refine (Hbq.out).mono ?_; rintro e w' ⟨rfl, rfl⟩
        go_wp2_with fail
        refine (Hby2.out).mono ?_; rintro e w9 ⟨rfl, hR9, hg9⟩
        dsimp only
        have hbad9 := bad_any r _ true w9 hR9
        have hb9 : Below w.heap.size w w9 := Hb.out.trans (below_of_grown hg9 Hb.out.size (by have := Hb7.out.size; omega))
        have Hbad9 := Lib.hid hbad9; have Hb9 := Lib.hid hb9; clear hbad9 hb9 hR9 hg9
        go_wp2_with fail
        refine (Hbad9.out).mono ?_; rintro e w' ⟨rfl, rfl⟩
        go_wp2_with fail
        refine (works_any _).mono ?_; rintro e w10 ⟨rfl, hb10⟩
        dsimp only
        go_wp2_with fail
        go_ret
        exact ⟨rfl, Hb9.out.trans (hb10.mono Hb9.out.size)⟩
theorem walk (ts : List Th) (A : Option Addr) (c : Nat) (us : List Th) (A1 : Option Addr) (c1 : Nat) (w : World) (hT : Things w A ts) (hl : ts.length * 3 ≤ 140737488351232) (hA : A = none → c = 0) (hU : Things w A1 us) (hl1 : us.length * 3 ≤ 140737488351232) (hA1 : A1 = none → c1 = 0) :
    Calls Try.prog 5 #[.slice A ts.length c, .slice A1 us.length c1] w fun e w' => e = .returned (.bool true) ∧ Below w.heap.size w w' := by
  cases h : few ts with
  | false => exact walk_else ts A c us A1 c1 w hT hl hU hl1 (.inl h)
  | true =>
    cases h1 : few us with
    | false => exact walk_else ts A c us A1 c1 w hT hl hU hl1 (.inr h1)
    | true => exact walk_main ts A c us A1 c1 w hT hA hU hA1 h h1

set_option maxRecDepth 100000 in
theorem lifted (os : Os) (started : os.Started) (H : Type) (enc : TypeId × Value → H) :
    ReturnsInHanded {} Try.checked os 5 .any (Rows.fieldsBothSpec.pre6 enc Try.prog Try.f5 Rows.fieldsBothRow.domain false) (Rows.fieldsBothSpec.post enc Try.prog Try.f5 false true false false) := by
  refine returnsInHanded_of_change_sized (C := Try.checked) ownKnob_none started (by kernel_rfl) Try.func5
    (ChangeSpec.witness6 (enc := enc) (C := Try.checked) false ⟨#[], #[.slice none 0 0, .slice none 0 0], []⟩ 8 (by kernel_rfl) (by kernel_rfl) (by kernel_rfl) (by kernel_rfl)) ?_
  intro W base args ds gs before hval0 hW hcnd hsz0 _
  have hval : ∀ (j : Nat) t v, Try.f5.params[j]? = some t → args[j]? = some v → Value.okWide Try.prog W .any base t v := hval0
  have hW' := hW
  obtain ⟨p, q, hA0, hV, rfl, hfz, hnd⟩ := hW
  have hA : DataW.TrodAll enc Try.prog W 0 (fun _ => true) true Try.f5.params.toList args.toList ds p := hA0
  have hsz : (DataW.weightsEach Try.prog (Try.f5.params.toList ++ Rows.fieldsBothSpec.plain.varTypes Try.prog) (ds ++ gs)).all (· ≤ reachBytes) = true := hsz0
  rw [Try.params5] at hA hval hsz
  obtain ⟨v0, vs0, d0, ds0, p0, q0, hargs, rfl, rfl, h0, r0⟩ := trodAll_cons hA
  obtain ⟨v1, vs1, d1, ds1, p1, q1, rfl, rfl, rfl, h1, r1⟩ := trodAll_cons r0
  obtain ⟨rfl, rfl, rfl⟩ := trodAll_nil r1
  obtain rfl : args = #[v0, v1] := by cases args; simp_all
  obtain ⟨rfl, rfl⟩ := trodVars_none hV
  obtain ⟨A0, ts0, c0, rfl, hT0, hl0⟩ := open_things (hval 0 22 v0 rfl rfl) h0 (weights_of hsz (j := 0) rfl rfl)
  have hA0n := none_cap h0
  obtain ⟨A1, ts1, c1, rfl, hT1, hl1⟩ := open_things (hval 1 22 v1 rfl rfl) h1 (weights_of hsz (j := 1) rfl rfl)
  have hA1n := none_cap h1
  clear hA0 hval0 hsz0
  refine (walk ts0 A0 c0 ts1 A1 c1 W hT0 hl0 hA0n hT1 hl1 hA1n).mono fun e W' ⟨he, hg⟩ => ?_
  subst he
  exact ⟨_, rfl, law_post progLaid hW' rfl (by rw [Try.params5]; intro t ht; simp at ht; subst ht; exact ⟨by kernel_rfl, of_decide_eq_true (by kernel_rfl)⟩) rfl Try.underlying4 rfl hg⟩

theorem over : Rows.fieldsBothRow.holds Try.pinned (OpenSpec.ofChange Rows.fieldsBothSpec) :=
  OpenClaim.holds_of_wide 5 Try.f5 rfl rfl rfl rfl rfl rfl rfl ⟨rfl, rfl, rfl, rfl, rfl⟩ rfl rfl rfl rfl rfl (by kernel_rfl) Try.func5 (by kernel_rfl)
    (of_decide_eq_true (by kernel_rfl)) (by unfold Func.isWrapper; first | (rw [if_pos (by decide +kernel)]; kernel_rfl) | (rw [if_neg (by decide +kernel)]; exact ⟨rfl, rfl⟩))
    (fun os started H enc _ => lifted os started H enc)

/-- The statement. -/
theorem proved : Rows.FieldsBothSaid :=
  over
end fieldsBoth
end Go.Proofs.Ytmliiglhglhjkaa
