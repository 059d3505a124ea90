/- FieldsRead: whatever is asked for, a reader answers as the document's rest of the bytes does; for at most 2000 bytes, 50 asks. -/
import Derived.Test.YtmliiglhglhjkaaBeside
import Derived.Test.YtmliiglhglhjkaaI16
import Derived.Test.YtmliiglhglhjkaaReads
import Derived.Test.YtmliiglhglhjkaaWorks
import Derived.Test.YtmliiglhglhjkaaFree
import Derived.Test.YtmliiglhglhjkaaLaw
import Derived.SizedLaws
import Derived.Deep.QuietTactic
import Derived.BigQuiet
namespace Go.Proofs.Ytmliiglhglhjkaa
open Go.ChangeShapes Go.WideShapes Go.ChangeAt Go.RowKit Go.BigFrame
set_option linter.unusedVariables false
namespace fieldsRead
theorem walk_else (xs : List Nat) (A : Option Addr) (c : Nat) (ns : List Int) (A1 : Option Addr) (c1 : Nat) (w : World) (hx : xs.length ≤ 9223372036854775807) (hn : ns.length ≤ 9223372036854775807) (hno : 2000 < xs.length ∨ 50 < ns.length) :
    Calls Try.prog 4 #[.slice A xs.length c, .slice A1 ns.length c1] w fun e w' => e = .returned (.bool true) ∧ Below w.heap.size w w' := by
  by_cases h : 2000 < xs.length
  · have ht : decide ((2000 : Int) < (xs.length : Int)) = true := decide_eq_true (by omega)
    clear h hno
    go_enter Try.func4, Try.ntmps4
    go_wp2_with fail
    refine (works_any w).mono ?_; rintro e w2 ⟨rfl, hb2⟩
    go_wp2_with fail
    go_ret
    exact ⟨rfl, hb2⟩
  · have ht : decide ((2000 : Int) < (xs.length : Int)) = false := decide_eq_false (by omega)
    have ht2 : decide ((50 : Int) < (ns.length : Int)) = true := decide_eq_true (by omega)
    clear h hno
    go_enter Try.func4, Try.ntmps4
    go_wp2_with fail
    refine (works_any w).mono ?_; rintro e w2 ⟨rfl, hb2⟩
    go_wp2_with fail
    go_ret
    exact ⟨rfl, hb2⟩
/-- what a reader's pointer says, and what a rest's -/
def Rd (B : Nat) (zs : List Nat) (v : Value) (w : World) : Prop := ∃ g, v = .pointer (some ⟨g, 0, none⟩) ∧ B ≤ g ∧ IsReader w g zs false
def Rs (B : Nat) (zs : List Nat) (v : Value) (w : World) : Prop := ∃ g, v = .pointer (some ⟨g, 0, none⟩) ∧ B ≤ g ∧ IsRest w g zs false
theorem Rd.below {B : Nat} {zs : List Nat} {v : Value} {w w' : World} (h : Rd B zs v w) (hb : Below w.heap.size w w') : Rd B zs v w' := by
  obtain ⟨g, e, h1, h2⟩ := h; exact ⟨g, e, h1, h2.below hb⟩
theorem Rs.below {B : Nat} {zs : List Nat} {v : Value} {w w' : World} (h : Rs B zs v w) (hb : Below w.heap.size w w') : Rs B zs v w' := by
  obtain ⟨g, e, h1, h2⟩ := h; exact ⟨g, e, h1, h2.below hb⟩
theorem built_rest (s : ByteArray) : Try.prog.built 37 [(0, .string s)] = some #[.string s, .bool false] := by kernel_rfl
theorem built_thing (z : Int) (w : World) : (Instr.build 42 #[(0, .int .i8 z)]).run Try.prog w = .ok (.agg #[.int .i8 z, .int .u64 0, .string ⟨#[]⟩]) w := run_build w _ _ _ (by kernel_rfl)
set_option maxRecDepth 100000 in
set_option maxHeartbeats 1000000 in
theorem walk_main (xs : List Nat) (A : Option Addr) (c : Nat) (ns : List Int) (A1 : Option Addr) (c1 : Nat) (w : World) (hB : Bytes w A xs) (hxc : xs.length ≤ c) (hA : A = none → c = 0) (hN : I16s w A1 ns) (hx : xs.length ≤ 2000) (hn : ns.length ≤ 50) :
    Calls Try.prog 4 #[.slice A xs.length c, .slice A1 ns.length c1] w fun e w' => e = .returned (.bool true) ∧ Below w.heap.size w w' := by
  obtain ⟨i0, hi, hz0, hz1, hz2⟩ := info_parts Try.infoByte
  have ht : decide ((2000 : Int) < (xs.length : Int)) = false := decide_eq_false (by omega)
  have ht2 : decide ((50 : Int) < (ns.length : Int)) = false := decide_eq_false (by omega)
  have Hi := Lib.hid (And.intro hi (And.intro hz0 (And.intro hz1 hz2))); clear hi hz0 hz1 hz2
  go_enter Try.func4, Try.ntmps4
  go_wp2_with fail
  refine Free.wp_grow (by kernel_rfl) (by kernel_rfl) (fun i v w' => match i with
    | 0 => v = .slice A xs.length c
    | 1 => Rd w.heap.size xs v w'
    | 2 => v = .slice A xs.length c
    | 3 => v = .string (strOf xs)
    | 4 => v = .agg #[.string (strOf xs), .bool false]
    | 5 => Rs w.heap.size xs v w'
    | 6 => Rd w.heap.size xs v w'
    | _ => Rs w.heap.size xs v w') ?_ ?_ ?_
  · intro j u wa wb hb h
    match j with
    | 0 | 2 | 3 | 4 => exact h
    | 1 | 6 => exact Rd.below h hb
    | 5 => exact Rs.below h hb
    | _ + 7 => exact Rs.below h hb
  · intro i o hi a wa hold hpre hbw
    match i with
    | 0 => cases hi; exact Free.g_move _ rfl ⟨(hold 0 (by decide)).trans rfl, Below.refl _ _⟩
    | 1 =>
      cases hi
      have h0 := hpre 0 _ _ (by kernel_rfl) rfl rfl
      refine Free.g_call _ _ rfl Try.func15 (by kernel_rfl) rfl [.slice A xs.length c] (by show [a.eval (.tmp 22)] = _; rw [h0]) ?_
      refine (open_any A c xs wa (hB.below hbw) (by omega) hxc hA).mono ?_
      rintro e w2 ⟨g, he, hg, hR, hb2⟩
      exact ⟨_, he, ⟨g, rfl, Nat.le_trans hbw.size hg, hR⟩, hb2⟩
    | 2 => cases hi; exact Free.g_move _ rfl ⟨(hold 0 (by decide)).trans rfl, Below.refl _ _⟩
    | 3 =>
      cases hi
      have h0 := hpre 2 _ _ (by kernel_rfl) rfl rfl
      exact Free.g_convert _ _ _ rfl h0 (conv_bytes (P := Try.prog) Try.underlying23 Try.underlying5 Try.underlying9 (hB.below hbw) c) ⟨rfl, Below.refl _ _⟩
    | 4 =>
      cases hi
      have h0 := hpre 3 _ _ (by kernel_rfl) rfl rfl
      exact Free.g_build _ _ rfl #[.string (strOf xs), .bool false] [(0, .string (strOf xs))] (by show [((0 : Nat), a.eval (.tmp 25))] = _; rw [h0]) (built_rest _) ⟨rfl, Below.refl _ _⟩
    | 5 =>
      cases hi
      have h0 := hpre 4 _ _ (by kernel_rfl) rfl rfl
      exact Free.g_box _ _ rfl (.agg #[.string (strOf xs), .bool false]) h0 ⟨⟨wa.heap.size, rfl, hbw.size, Row.made wa _ _⟩, (Below.refl _ _).alloc (Nat.le_refl _) _⟩
    | 6 =>
      cases hi
      have h0 := hpre 1 _ _ (by kernel_rfl) rfl rfl
      exact Free.g_assign _ rfl ⟨h0, Below.refl _ _⟩
    | 7 =>
      cases hi
      have h0 := hpre 5 _ _ (by kernel_rfl) rfl rfl
      exact Free.g_assign _ rfl ⟨h0, Below.refl _ _⟩
    | _ + 8 => cases hi
  · intro vs w3 hv hb3
    obtain ⟨g, hg6, hg, hRg⟩ := hv 6 (by simp) (by rintro o ⟨⟩; rfl)
    obtain ⟨q, hq7, hq, hRq⟩ := hv 7 (by simp) (by rintro o ⟨⟩; rfl)
    have hgq : g ≠ q := by
      obtain ⟨A', c', hrow, _⟩ := id hRg
      exact Row.apart hrow hRq (by decide)
    have HRg := Lib.hid hRg; have HRq := Lib.hid hRq; have Hb3 := Lib.hid hb3
    clear hv hRg hRq hb3
    simp only [Free.puts]
    go_simp
    go_wp2_with fail
    go_loopw [7] (fun i wr => ∃ (k : Nat) (ys : List Nat) (sp : Bool), k ≤ ns.length ∧ i = .int .i64 k ∧ IsReader wr g ys sp ∧ IsRest wr q ys sp ∧ ys.length ≤ 2000 ∧ Below w.heap.size w wr) (fun i _ => ns.length - (intOf i).toNat)
    case atStart => exact ⟨0, xs, false, by omega, rfl, HRg.out, HRq.out, hx, Hb3.out⟩
    case round =>
      obtain ⟨k, ys, sp, hk, rfl, hRg, hRq, hys, hb⟩ := hrel
      by_cases hlt : k < ns.length
      · obtain ⟨b, off, rfl, hbl, hc⟩ := (hN.below hb).2 (by omega)
        have hxk : ns[k]? = some ns[k] := List.getElem?_eq_getElem hlt
        have hcell := hc k _ hxk
        have hnb := hN.1 _ (List.mem_of_getElem? hxk)
        have hbt := fun z w => built_thing z w
        clear hc hxk
        generalize ns[k] = n at *
        have HRg := Lib.hid hRg; have HRq := Lib.hid hRq; have Hb := Lib.hid hb
        clear hRg hRq hb
        have hgw := HRg.out.lt
        have hqw := Row.lt HRq.out
        by_cases h16 : n.tmod 16 = 0
        · have ht3 : decide (n.tmod 16 = 0) = true := decide_eq_true h16
          have hkey := raw_beside (n.tdiv 16) HRg.out HRq.out hgq hys Hb.out hg
          have hrn := fun w' h => rest_next q ys sp (n.tdiv 16) w' h (by omega)
          have hY := Nat.le_trans (rest_le (n.tdiv 16) ys sp) hys
          have hol := Nat.le_trans (out_le (n.tdiv 16) ys sp) hys
          have Hkey := Lib.hid hkey; have Hrn := Lib.hid hrn; clear hkey hrn
          go_wp2_with fail
          refine (Hkey.out _ ((Below.refl wr.heap.size wr).alloc (Nat.le_refl _) _)).mono ?_
          rintro e w4 ⟨A4, c4, rfl, hB4, hM4, hA4, hR4, hS4, hb4⟩
          dsimp only
          clear Hkey hcell ht3 h16 hbt
          generalize n.tdiv 16 = m at *
          generalize M.out m ys sp = o at *
          generalize M.rest m ys sp = Y at *
          generalize M.spoil m ys sp = S at *
          have HA := Lib.hid (And.intro hB4 (And.intro hM4 (And.intro hA4 (And.intro hR4 (And.intro hS4 hb4)))))
          clear hB4 hM4 hA4 hR4 hS4 hb4
          go_wp2_with fail
          refine Stage.wp_region (by kernel_rfl) (by kernel_rfl) (Stage.one 4 (fun b1 w' => IsRest w' q (bif b1 then Y else ys) (bif b1 then S else sp) ∧ w4.grownBy w' (some q))) (Stage.one_start (by simp) ⟨HA.out.2.2.2.2.1, grown_drew _ _⟩) ?_
          refine Stage.wpSt_reads 1 (fun _ => True) (by kernel_rfl) (Stage.one_any (by simp)) ?_
          simp only [List.take_succ_cons, List.take_zero, List.drop_succ_cons, List.drop_zero]
          repeat (go_big_quiet_step (fail))
          refine wpQuiet_nil ?_
          refine Stage.wpSt_do (.string (strOf o)) rfl (fun S' w' hF hi hS => Free.at_convert _ _ _ rfl rfl (conv_bytes (P := Try.prog) Try.underlying23 Try.underlying5 Try.underlying9 (HA.out.1.grown hS.2 (fun ad he => by have := HA.out.2.2.1 ad he; intro e; injection e with e; omega)) c4) (Stage.one_any (k := 1) (m := 2) (by simp) 1 (by omega) (by omega) S' w' hF hi hS).2) ?_
          go_simp
          refine Stage.wpSt_reads 2 (fun _ => True) (by kernel_rfl) (Stage.one_any (by simp)) ?_
          simp only [List.take_succ_cons, List.take_zero, List.drop_succ_cons, List.drop_zero]
          repeat (go_big_quiet_step (fail))
          refine wpQuiet_nil ?_
          refine Stage.wpSt_do (.string (strOf o)) rfl (Stage.one_do ?_) ?_
          · rintro w' ⟨h1, h2⟩
            refine Free.at_call _ _ rfl Try.func17 (by kernel_rfl) rfl [.pointer (some ⟨q, 0, none⟩), .int .i64 m] rfl ?_
            refine (Hrn.out w' h1).mono ?_
            rintro e w'' ⟨he, k1, k2⟩
            exact ⟨he, k1, grown_trans h2 k2⟩
          go_simp
          refine Stage.wpSt_reads 1 (fun _ => True) (by kernel_rfl) (Stage.one_any (by simp)) ?_
          simp only [List.take_succ_cons, List.take_zero, List.drop_succ_cons, List.drop_zero]
          generalize strOf o = so at *
          repeat (go_big_quiet_step (fail))
          refine wpQuiet_nil (Stage.wpSt_nil (Stage.one_end ?_))
          rintro w5 ⟨hS5, hg5⟩
          have hM5 := HA.out.2.1.grown hg5 (fun ad he => by have := HA.out.2.2.1 ad he; intro e; injection e with e; omega)
          have hR5 := HA.out.2.2.2.1.beside HA.out.2.2.2.2.1 hg5 hgq
          have hb5 : Below w.heap.size w w5 := HA.out.2.2.2.2.2.trans (below_of_grown hg5 HA.out.2.2.2.2.2.size hq)
          have hwr := Hb.out.size
          simp only [cond_true] at hS5
          have H5 := Lib.hid (And.intro hM5 (And.intro hR5 (And.intro hS5 hb5)))
          clear hM5 hR5 hS5 hb5 hg5 Hrn
          go_wp2_with fail
          go_loopw [11] (fun i w6 => ∃ j : Nat, j ≤ o.length ∧ i = .int .i64 j ∧ Mine w6 wr.heap.size A4 o.length ∧ IsReader w6 g Y S ∧ IsRest w6 q Y S ∧ Below w.heap.size w w6) (fun i _ => o.length - (intOf i).toNat)
          case atStart => exact ⟨0, by omega, rfl, H5.out.1, H5.out.2.1, H5.out.2.2.1, H5.out.2.2.2⟩
          case round =>
            obtain ⟨j, hj, rfl, hm, hR6, hS6, hb6⟩ := hrel
            by_cases hjl : j < o.length
            · obtain ⟨gb, L, rfl, hbb, hr, hc⟩ := id hm (by omega)
              obtain ⟨x, hx8, hcx⟩ := hc j hjl
              have hcell := hr.cell j
              rw [hcx] at hcell
              have hfz := hr.free j
              have hbp := bumped (k := j) (x := x) hm rfl hr hR6 hS6 (by omega) (by omega) hb6 (by omega)
              have Hbp := Lib.hid hbp
              clear hm hr hc hcx hR6 hS6 hb6 hbp
              go_wp2_with fail
              go_roundw
              case rel => exact ⟨j + 1, by omega, by go_num, Hbp.out.1, Hbp.out.2.1, Hbp.out.2.2.1, Hbp.out.2.2.2⟩
              case measure => simp [intOf]; omega
            · obtain rfl : j = o.length := by omega
              have HRt := hR6; have HSt := hS6; have HBt := hb6
              clear hR6 hS6 hb6 hm
              have hl0 := Row.cell HSt 0
              have hl1 := Row.cell HSt 1
              simp only [List.getElem?_cons_succ, List.getElem?_cons_zero] at hl0 hl1
              have hsz := strOf_size Y
              generalize strOf Y = sY at *
              have T := Lib.hid (And.intro HRt (And.intro HSt (And.intro HBt hY))); clear HRt HSt HBt hY
              go_wp2_with fail
              go_quiet ((first | (go_at_call 20; exact left_quiet T.out.1 _) | (go_at_call 21; exact bad_quiet T.out.1 _)))
              go_wp2_with fail
              go_roundw
              case rel => exact ⟨k + 1, Y, S, by omega, by go_num, T.out.1, T.out.2.1, T.out.2.2.2, below_drewN T.out.2.2.1 _⟩
              case measure => simp [intOf]; omega
        · have ht3 : decide (n.tmod 16 = 0) = false := decide_eq_false h16
          go_wp2_with fail
          generalize IntKind.i8.wrap (n.tmod 16) = z at *
          have hwd : ∀ w' : World, Calls Try.prog 18 #[.agg #[.int .i8 z, .int .u64 0, .string ⟨#[]⟩]] w' fun e w'' => e = .returned (.int .i64 ((Th.wide ⟨z, 0, ⟨#[]⟩⟩ : Nat) : Int)) ∧ Below w'.heap.size w' w'' := fun w' => wide_any ⟨z, 0, ⟨#[]⟩⟩ w'
          have hwc := Th.wide_cases ⟨z, 0, ⟨#[]⟩⟩
          have hrd : ∀ w' : World, IsReader w' g ys sp → Calls Try.prog 19 #[.agg #[.int .i8 z, .int .u64 0, .string ⟨#[]⟩], .pointer (some ⟨g, 0, none⟩)] w' fun e w'' => e = .returned (.string (strOf (Th.told ⟨z, 0, ⟨#[]⟩⟩ ys sp))) ∧ IsReader w'' g (M.rest (Th.ask ⟨z, 0, ⟨#[]⟩⟩ : Nat) ys sp) (M.spoil (Th.ask ⟨z, 0, ⟨#[]⟩⟩ : Nat) ys sp) ∧ w'.grownBy w'' (some g) :=
            fun w' h => read_any ⟨z, 0, ⟨#[]⟩⟩ g ys sp w' h (by simp) (by show 0 ≤ 100000; omega) (by omega)
          rw [show Th.ask ⟨z, 0, ⟨#[]⟩⟩ = if Th.wide ⟨z, 0, ⟨#[]⟩⟩ = 0 then 0 else Th.wide ⟨z, 0, ⟨#[]⟩⟩ from rfl, show Th.told ⟨z, 0, ⟨#[]⟩⟩ ys sp = if Th.wide ⟨z, 0, ⟨#[]⟩⟩ = 0 then M.out (0 : Nat) ys sp else M.be (Th.wide ⟨z, 0, ⟨#[]⟩⟩) (M.val (M.out (Th.wide ⟨z, 0, ⟨#[]⟩⟩ : Nat) ys sp)) from rfl] at hrd
          generalize Th.wide ⟨z, 0, ⟨#[]⟩⟩ = W at *
          have hba : Below wr.heap.size wr (wr.alloc (.cells #[.int .i8 z, .int .u64 0, .string ⟨#[]⟩] 42)) := (Below.refl wr.heap.size wr).alloc (Nat.le_refl _) _
          have hrow0 : Row (wr.alloc (.cells #[.int .i8 z, .int .u64 0, .string ⟨#[]⟩] 42)) wr.heap.size 42 [.int .i8 z, .int .u64 0, .string ⟨#[]⟩] := Row.made _ _ _
          refine (hwd _).mono ?_; rintro e w4 ⟨rfl, hb4⟩
          dsimp only
          have hrow := hrow0.below hb4 (by simp)
          have hbr4 : Below wr.heap.size wr w4 := hba.trans (hb4.mono hba.size)
          have hR4 := HRg.out.below hbr4
          have hS4 := HRq.out.below hbr4
          have hB4 := Hb.out.trans (hbr4.mono Hb.out.size)
          clear hrow0 hba hb4 hcell hbt h16 ht3
          by_cases hW0 : W = 0
          · subst hW0
            have HRt := hR4
            have HSt := hS4
            have HBt := hB4
            have hY := hys
            clear hR4 hS4 hB4 hrow hwd hrd hwc hbr4
            have hl0 := Row.cell HSt 0
            have hl1 := Row.cell HSt 1
            simp only [List.getElem?_cons_succ, List.getElem?_cons_zero] at hl0 hl1
            have hsz := strOf_size ys
            generalize strOf ys = sY at *
            have T := Lib.hid (And.intro HRt (And.intro HSt (And.intro HBt hY))); clear HRt HSt HBt hY
            go_wp2_with fail
            go_quiet ((first | (go_at_call 20; exact left_quiet T.out.1 _) | (go_at_call 21; exact bad_quiet T.out.1 _)))
            go_wp2_with fail
            go_roundw
            case rel => exact ⟨k + 1, ys, sp, by omega, by go_num, T.out.1, T.out.2.1, T.out.2.2.2, below_drewN T.out.2.2.1 _⟩
            case measure => simp [intOf]; omega
          · rw [if_neg hW0, if_neg hW0] at hrd
            have hW8 : W ≤ 8 := by omega
            have hpos : decide ((0 : Int) < (W : Int)) = true := decide_eq_true (by omega)
            have Hwd := Lib.hid hwd; have Hrd := Lib.hid hrd; have H4 := Lib.hid (And.intro hrow (And.intro hR4 (And.intro hS4 (And.intro hB4 hbr4))))
            clear hwd hrd hwc
            have hc0 := hrow.cell 0
            have hc1 := hrow.cell 1
            have hc2 := hrow.cell 2
            simp only [List.getElem?_cons_succ, List.getElem?_cons_zero] at hc0 hc1 hc2
            clear hrow hR4 hS4 hB4 hbr4
            go_wp2_with fail
            refine (Hwd.out w4).mono ?_; rintro e w5 ⟨rfl, hb5⟩
            dsimp only
            have hrow := H4.out.1.below hb5 (H4.out.1.lt)
            have hR5 := H4.out.2.1.below hb5
            have hS5 := H4.out.2.2.1.below hb5
            have hB5 := H4.out.2.2.2.1.trans (hb5.mono H4.out.2.2.2.1.size)
            have hs5 := Nat.le_trans H4.out.2.2.2.2.size hb5.size
            clear H4 hc0 hc1 hc2 hb5
            have H5 := Lib.hid (And.intro hrow (And.intro hR5 (And.intro hS5 (And.intro hB5 hs5)))); clear hrow hR5 hS5 hB5 hs5
            go_wp2_with fail
            refine (rest_next q ys sp (W : Nat) w5 H5.out.2.2.1 (by omega)).mono ?_; rintro e w6 ⟨rfl, hS6, hg6⟩
            dsimp only
            have hrow := H5.out.1.grown hg6 (by intro e; injection e with e; omega)
            have hR6 := H5.out.2.1.beside H5.out.2.2.1 hg6 hgq
            have hB6 := H5.out.2.2.2.1.trans (below_of_grown hg6 H5.out.2.2.2.1.size hq)
            have hlt6 := hrow.lt
            have hY := Nat.le_trans (rest_le (W : Nat) ys sp) hys
            have hob := M.out_lt (W : Nat) ys sp hR6.bytes
            have hol := M.out_len W ys sp
            clear H5 hg6
            generalize M.out (W : Nat) ys sp = o at *
            generalize M.rest (W : Nat) ys sp = Y at *
            generalize M.spoil (W : Nat) ys sp = S at *
            have hc0 := hrow.cell 0
            have hc1 := hrow.cell 1
            have hc2 := hrow.cell 2
            simp only [List.getElem?_cons_succ, List.getElem?_cons_zero] at hc0 hc1 hc2
            have H6 := Lib.hid (And.intro hrow (And.intro hR6 (And.intro hS6 hB6))); clear hrow hR6 hS6 hB6
            by_cases ho : o = []
            · subst ho
              rw [show M.val [] = 0 from rfl, M.be_zero] at Hrd
              rw [show strOf [] = ⟨#[]⟩ from rfl]
              clear hob hol
              go_wp2_with fail
              refine (Hwd.out w6).mono ?_; rintro e w7 ⟨rfl, hb7⟩
              dsimp only
              have hrow7 := H6.out.1.below hb7 hlt6
              have hR7 := H6.out.2.1.below hb7
              have hS7 := H6.out.2.2.1.below hb7
              have hB7 := H6.out.2.2.2.trans (hb7.mono H6.out.2.2.2.size)
              obtain ⟨hi, hz0, hz1, hz2⟩ := Hi.out
              clear hc0 hc1 hc2 H6 Hwd
              have H7 := Lib.hid (And.intro hrow7 (And.intro hR7 (And.intro hS7 hB7))); clear hrow7 hR7 hS7 hB7 hb7
              go_wp2_with (refine wpList_make_full _ rfl (.tmp 81) (.tmp 81) 23 rfl w7.heap.size 5 i0 _ 1 Try.underlying23 hi hz0 hz1 .i64 .i64 _ _ W rfl rfl rfl rfl (by rw [hz2]; omega) (by unfold maxLen; omega) (Nat.le_refl _) ?_)
              intro w8 hown hgr
              have hr8 := Row.of_full hown
              rw [toList_madeCells_one] at hr8
              have hB8 := Bytes.of_row (xs := List.replicate W 0) (by simpa using hr8) (by simp)
              have hcv := conv_bytes (P := Try.prog) (w := w8) Try.underlying23 Try.underlying5 Try.underlying9 hB8 W
              rw [List.length_replicate] at hcv
              have hb8 := grown_none hgr
              have hrow := H7.out.1.below hb8 H7.out.1.lt
              have hR8 := H7.out.2.1.below hb8
              have hS8 := H7.out.2.2.1.below hb8
              have hBB8 := H7.out.2.2.2.trans (hb8.mono H7.out.2.2.2.size)
              clear H7 hown hgr hr8 hB8 hb8 hi hz0 hz1 hz2
              generalize strOf (List.replicate W 0) = str at *
              have hc0 := hrow.cell 0
              have hc1 := hrow.cell 1
              have hc2 := hrow.cell 2
              simp only [List.getElem?_cons_succ, List.getElem?_cons_zero] at hc0 hc1 hc2
              have H8 := Lib.hid (And.intro hR8 (And.intro hS8 hBB8)); clear hrow hR8 hS8 hBB8
              go_wp2_with fail
              refine (Hrd.out w8 H8.out.1).mono ?_; rintro e w9 ⟨rfl, hR9, hg9⟩
              dsimp only
              have HRt := hR9
              have HSt := H8.out.2.1.other hg9 (Ne.symm hgq)
              have HBt := H8.out.2.2.trans (below_of_grown hg9 H8.out.2.2.size hg)
              clear hR9 hg9
              clear H8 Hrd hc0 hc1 hc2 hcv
              have hl0 := Row.cell HSt 0
              have hl1 := Row.cell HSt 1
              simp only [List.getElem?_cons_succ, List.getElem?_cons_zero] at hl0 hl1
              have hsz := strOf_size Y
              generalize strOf Y = sY at *
              have T := Lib.hid (And.intro HRt (And.intro HSt (And.intro HBt hY))); clear HRt HSt HBt hY
              go_wp2_with fail
              go_quiet ((first | (go_at_call 20; exact left_quiet T.out.1 _) | (go_at_call 21; exact bad_quiet T.out.1 _)))
              go_wp2_with fail
              go_roundw
              case rel => exact ⟨k + 1, Y, S, by omega, by go_num, T.out.1, T.out.2.1, T.out.2.2.2, below_drewN T.out.2.2.1 _⟩
              case measure => simp [intOf]; omega
            · have hoW : o.length = W := by
                rcases hol with h | h
                · exact absurd (List.eq_nil_of_length_eq_zero h) ho
                · exact h
              have hbe : M.be W (M.val o) = o := by rw [← hoW]; exact M.be_val o hob
              rw [hbe] at Hrd
              have hne : (strOf o).toList.isEmpty = false := by
                cases h : (strOf o).toList.isEmpty with
                | false => rfl
                | true =>
                  exfalso
                  rw [List.isEmpty_iff, ByteArray.toList_eq] at h
                  have h2 := congrArg List.length h
                  rw [Array.length_toList] at h2
                  have h3 : (strOf o).data.size = o.length := strOf_size o
                  simp only [List.length_nil] at h2
                  omega
              clear hob hol hbe Hwd
              generalize strOf o = so at *
              go_wp2_with fail
              refine (Hrd.out w6 H6.out.2.1).mono ?_; rintro e w9 ⟨rfl, hR9, hg9⟩
              dsimp only
              have HRt := hR9
              have HSt := H6.out.2.2.1.other hg9 (Ne.symm hgq)
              have HBt := H6.out.2.2.2.trans (below_of_grown hg9 H6.out.2.2.2.size hg)
              clear hR9 hg9
              clear H6 Hrd hc0 hc1 hc2 hne
              have hl0 := Row.cell HSt 0
              have hl1 := Row.cell HSt 1
              simp only [List.getElem?_cons_succ, List.getElem?_cons_zero] at hl0 hl1
              have hsz := strOf_size Y
              generalize strOf Y = sY at *
              have T := Lib.hid (And.intro HRt (And.intro HSt (And.intro HBt hY))); clear HRt HSt HBt hY
              go_wp2_with fail
              go_quiet ((first | (go_at_call 20; exact left_quiet T.out.1 _) | (go_at_call 21; exact bad_quiet T.out.1 _)))
              go_wp2_with fail
              go_roundw
              case rel => exact ⟨k + 1, Y, S, by omega, by go_num, T.out.1, T.out.2.1, T.out.2.2.2, below_drewN T.out.2.2.1 _⟩
              case measure => simp [intOf]; omega
      · obtain rfl : k = ns.length := by omega
        have Hb := Lib.hid hb; clear hb hRg hRq
        go_wp2_with fail
        refine (works_any _).mono ?_; rintro e w8 ⟨rfl, hb8⟩
        dsimp only
        go_wp2_with fail
        go_ret
        exact ⟨rfl, Hb.out.trans (hb8.mono Hb.out.size)⟩
theorem walk (xs : List Nat) (A : Option Addr) (c : Nat) (ns : List Int) (A1 : Option Addr) (c1 : Nat) (w : World) (hB : Bytes w A xs) (hxc : xs.length ≤ c) (hcm : c ≤ maxLen) (hA : A = none → c = 0) (hN : I16s w A1 ns) (hnl : ns.length ≤ maxLen) :
    Calls Try.prog 4 #[.slice A xs.length c, .slice A1 ns.length c1] w fun e w' => e = .returned (.bool true) ∧ Below w.heap.size w w' := by
  unfold maxLen at hcm hnl
  by_cases h : xs.length ≤ 2000 ∧ ns.length ≤ 50
  · exact walk_main xs A c ns A1 c1 w hB hxc hA hN h.1 h.2
  · exact walk_else xs A c ns A1 c1 w (by omega) (by omega) (by omega)

set_option maxRecDepth 100000 in
theorem lifted (os : Os) (started : os.Started) (H : Type) (enc : TypeId × Value → H) :
    ReturnsInHanded {} Try.checked os 4 .any (Rows.fieldsReadSpec.pre6 enc Try.prog Try.f4 Rows.fieldsReadRow.domain false) (Rows.fieldsReadSpec.post enc Try.prog Try.f4 false true false false) := by
  refine returnsInHanded_of_change_sized (C := Try.checked) ownKnob_none started (by kernel_rfl) Try.func4
    (ChangeSpec.witness6 (enc := enc) (C := Try.checked) false ⟨#[], #[.slice none 0 0, .slice none 0 0], []⟩ 8 (by kernel_rfl) (by kernel_rfl) (by kernel_rfl) (by kernel_rfl)) ?_
  intro W base args ds gs before hval0 hW hcnd hsz0 _
  have hval : ∀ (j : Nat) t v, Try.f4.params[j]? = some t → args[j]? = some v → Value.okWide Try.prog W .any base t v := hval0
  have hW' := hW
  obtain ⟨p, q, hA0, hV, rfl, hfz, hnd⟩ := hW
  have hA : DataW.TrodAll enc Try.prog W 0 (fun _ => true) true Try.f4.params.toList args.toList ds p := hA0
  have hsz : (DataW.weightsEach Try.prog (Try.f4.params.toList ++ Rows.fieldsReadSpec.plain.varTypes Try.prog) (ds ++ gs)).all (· ≤ reachBytes) = true := hsz0
  rw [Try.params4] at hA hval hsz
  obtain ⟨v0, vs0, d0, ds0, p0, q0, hargs, rfl, rfl, h0, r0⟩ := trodAll_cons hA
  obtain ⟨v1, vs1, d1, ds1, p1, q1, rfl, rfl, rfl, h1, r1⟩ := trodAll_cons r0
  obtain ⟨rfl, rfl, rfl⟩ := trodAll_nil r1
  obtain rfl : args = #[v0, v1] := by cases args; simp_all
  obtain ⟨rfl, rfl⟩ := trodVars_none hV
  obtain ⟨A0, xs0, c0, rfl, hB0, hxc0, hcm0, hAc0⟩ := open_bytes Try.underlying23 Try.underlying5 cells_u8 (hval 0 23 v0 rfl rfl) h0
  obtain ⟨A1, ns1, c1, rfl, hN1, hnl1⟩ := open_i16s (hval 1 32 v1 rfl rfl) h1
  clear hA0 hval0 hsz0
  refine (walk xs0 A0 c0 ns1 A1 c1 W hB0 hxc0 hcm0 hAc0 hN1 hnl1).mono fun e W' ⟨he, hg⟩ => ?_
  subst he
  exact ⟨_, rfl, law_post progLaid hW' rfl (by rw [Try.params4]; intro t ht; simp at ht; rcases ht with rfl | rfl <;> exact ⟨by kernel_rfl, of_decide_eq_true (by kernel_rfl)⟩) rfl Try.underlying4 rfl hg⟩

theorem over : Rows.fieldsReadRow.holds Try.pinned (OpenSpec.ofChange Rows.fieldsReadSpec) :=
  OpenClaim.holds_of_wide 4 Try.f4 rfl rfl rfl rfl rfl rfl rfl ⟨rfl, rfl, rfl, rfl, rfl⟩ rfl rfl rfl rfl rfl (by kernel_rfl) Try.func4 (by kernel_rfl)
    (of_decide_eq_true (by kernel_rfl)) (by unfold Func.isWrapper; first | (rw [if_pos (by decide +kernel)]; kernel_rfl) | (rw [if_neg (by decide +kernel)]; exact ⟨rfl, rfl⟩))
    (fun os started H enc _ => lifted os started H enc)

/-- The statement. -/
theorem proved : Rows.FieldsReadSaid :=
  over
end fieldsRead
end Go.Proofs.Ytmliiglhglhjkaa
