/- Law 13's run: a node with one input, or two. -/
import Derived.Test.YtcjdjdhjbchaaaaOpApMath
import Derived.Test.YtcjdjdhjbchaaaaCa26
import Derived.Test.YtcjdjdhjbchaaaaCa13
import Derived.SizedLaws
namespace Go.Proofs.Ytcjdjdhjbchaaaa
namespace Op
open Go.ChangeShapes Go.WideShapes Go.ChangeAt Go.RowKit Go.BigFrame Go.Shelf Vr
set_option linter.unusedVariables false
set_option maxRecDepth 100000
theorem run_sel {w : World} {v : Value} {two : Bool} {a b : List Rd} (n : Nd) (NA : Option Addr) (nm nc : Nat) (hn : NodeOk n) (hI : InV w v (sel two a b)) (hWa : ∀ r ∈ a, r.W) (hWb : ∀ r ∈ b, r.W) (ha : a.length ≤ 60) (hb : b.length ≤ 60) :
    Calls Try.prog 14 #[nodeV n NA nm nc, v] w (GivesE (runR n (sel two a b)) (errR n (sel two a b).length) w) := by
  refine run_v n NA nm nc hI hn.k hn.a hn.b hn.d (by rw [sel_len]; split <;> omega) ?_ ?_
  · intro q hq
    cases two with
    | false => simp only [sel, if_false, List.mem_singleton, Bool.false_eq_true] at hq; subst hq; exact hWa
    | true =>
      simp only [sel, if_true, List.mem_cons, List.not_mem_nil, or_false] at hq
      rcases hq with rfl | rfl
      · exact hWa
      · exact hWb
  · intro q hq
    cases two with
    | false => simp only [sel, if_false, List.mem_singleton, Bool.false_eq_true] at hq; subst hq; omega
    | true =>
      simp only [sel, if_true, List.mem_cons, List.not_mem_nil, or_false] at hq
      rcases hq with rfl | rfl <;> omega
set_option maxHeartbeats 2000000 in
theorem runTwo_any (n : Nd) (NA : Option Addr) (nm nc : Nat) (hn : NodeOk n) (two : Bool) {a b : List Rd} {va vb : Value} (w : World) (hA : RowV w va a) (hB : RowV w vb b) (hWa : ∀ r ∈ a, r.W) (hWb : ∀ r ∈ b, r.W) (ha : a.length ≤ 60) (hb : b.length ≤ 60) :
    Calls Try.prog 24 #[nodeV n NA nm nc, va, vb, .bool two] w (GivesE (runR n (sel two a b)) (errR n (sel two a b).length) w) := by
  obtain ⟨A, c, rfl, zA⟩ := hA
  obtain ⟨B, d, rfl, zB⟩ := hB
  have hbn := (Below.refl _ w).alloc (Nat.le_refl _) (.cells #[.int .u8 (n.k : Nat), .int .u8 (n.a : Nat), .int .i64 n.b, .int .i64 n.d, .slice NA nm nc] 24)
  have hnb := node_box w n NA nm nc
  have hA1 : RowV (w.alloc (.cells #[.int .u8 (n.k : Nat), .int .u8 (n.a : Nat), .int .i64 n.b, .int .i64 n.d, .slice NA nm nc] 24)) (.slice A a.length c) a := RowV.below ⟨A, c, rfl, zA⟩ hbn
  have hB1 : RowV (w.alloc (.cells #[.int .u8 (n.k : Nat), .int .u8 (n.a : Nat), .int .i64 n.b, .int .i64 n.d, .slice NA nm nc] 24)) (.slice B b.length d) b := RowV.below ⟨B, d, rfl, zB⟩ hbn
  clear zA zB
  have hs : w.heap.size < (w.alloc (.cells #[.int .u8 (n.k : Nat), .int .u8 (n.a : Nat), .int .i64 n.b, .int .i64 n.d, .slice NA nm nc] 24)).heap.size := by simp
  go_enter Try.func24, Try.ntmps24
  go_upto_region 1 with fail
  generalize w.alloc (.cells #[.int .u8 (n.k : Nat), .int .u8 (n.a : Nat), .int .i64 n.b, .int .i64 n.d, .slice NA nm nc] 24) = w1 at *
  have HBN := Lib.hid hbn; have HS := Lib.hid hs; have HNB := Lib.hid hnb
  clear hbn hs hnb
  cases two with
  | true =>
    have hc := run_sel (two := true) n NA nm nc hn (LitV.inV (LitV.made w1 [.slice A a.length c, .slice B b.length d] [a, b] ⟨hA1, hB1, trivial⟩ #[.slice A a.length c, .slice B b.length d] rfl 2 rfl)) hWa hWb ha hb
    generalize runR n (sel true a b) = X at *
    generalize errR n (sel true a b).length = er at *
    obtain ⟨n0, n1, n2, n3, n4⟩ := cells5 HNB.out
    have HC := Lib.hid hc; clear hc hA1 hB1 hWa hWb ha hb hn
    go_wp2_with fail
    refine HC.out.mono ?_; rintro e w2 ⟨⟨v, rfl, hr⟩, hb2⟩
    clear n0 n1 n2 n3 n4 HC
    have hbb : Below w.heap.size w w2 := (HBN.out.alloc (by have := HS.out; omega) _).trans (hb2.mono (by have := HS.out; simp; omega))
    dsimp only
    go_wp2_with fail
    go_ret2
    exact ⟨⟨_, rfl, hr⟩, hbb⟩
  | false =>
    have hc := run_sel (two := false) (b := b) n NA nm nc hn (LitV.inV (LitV.made w1 [.slice A a.length c] [a] ⟨hA1, trivial⟩ #[.slice A a.length c] rfl 1 rfl)) hWa hWb ha hb
    generalize runR n (sel false a b) = X at *
    generalize errR n (sel false a b).length = er at *
    obtain ⟨n0, n1, n2, n3, n4⟩ := cells5 HNB.out
    have HC := Lib.hid hc; clear hc hA1 hB1 hWa hWb ha hb hn
    go_wp2_with fail
    refine HC.out.mono ?_; rintro e w2 ⟨⟨v, rfl, hr⟩, hb2⟩
    clear n0 n1 n2 n3 n4 HC
    have hbb : Below w.heap.size w w2 := (HBN.out.alloc (by have := HS.out; omega) _).trans (hb2.mono (by have := HS.out; simp; omega))
    dsimp only
    go_wp2_with fail
    go_ret2
    exact ⟨⟨_, rfl, hr⟩, hbb⟩
end Op
end Go.Proofs.Ytcjdjdhjbchaaaa
