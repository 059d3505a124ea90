/- Records in memory; the order of two of them: the program's and the document's. -/
import Derived.Test.YtcdofkhkckodjaaValMath
import Derived.Test.YtcdofkhkckodjaaLaw
import Derived.Test.YtcdofkhkckodjaaRw
import Derived.Test.YtcdofkhkckodjaaRegion
import Derived.Test.YtcdofkhkckodjaaBytes
import Derived.Lib.Hide
import Derived.StillTailTactics
import Derived.WalkKit
import Derived.LoopTactic
namespace Go.Proofs.Ytcdofkhkckodjaa
namespace Vr
open Go.ChangeShapes Go.WideShapes Go.ChangeAt Go.RowKit Go.BigFrame
set_option linter.unusedVariables false
set_option maxRecDepth 100000
@[reducible] def _root_.Go.Proofs.Ytcdofkhkckodjaa.Rd.val (r : Rd) : Value := .agg #[.int .i64 r.k, .int .i64 r.v]
def _root_.Go.Proofs.Ytcdofkhkckodjaa.Rd.cells (r : Rd) : List Value := [.int .i64 r.k, .int .i64 r.v]
def kindR : Kind Rd := ⟨Rd.cells, 2, fun _ => rfl, fun t u hu => by
  simp only [Rd.cells, List.mem_cons, List.not_mem_nil, or_false] at hu
  rcases hu with rfl | rfl <;> rfl, by decide⟩
theorem infoRec : (Try.prog.info? 32).map (fun i => (i.zero, i.size, i.bytes)) = some (some (.agg #[.int .i64 0, .int .i64 0]), 2, 16) := by kernel_rfl
section
variable {w w' : World} {A : Option Addr} {ts : List Rd}
/-- the cells of one, in each later world -/
theorem recs_at (h : Rw.Ts kindR w A ts) {i : Nat} {t : Rd} (hi : ts[i]? = some t) : ∃ b o, A = some ⟨b, o, none⟩ ∧ b < w.heap.size ∧
    ∀ w', Below w.heap.size w w' → w'.cell? ⟨b, o + i * 2, none⟩ = some (.int .i64 t.k) ∧ w'.cell? ⟨b, o + i * 2 + 1, none⟩ = some (.int .i64 t.v) := by
  obtain ⟨b, o, e, hlt, hc⟩ := h.at_ hi
  exact ⟨b, o, e, hlt, fun w' hb => ⟨hc w' hb 0 _ rfl, hc w' hb 1 _ rfl⟩⟩
end
theorem own_base {w : World} {base base' n K : Nat} {T : TypeId} {v : Value} {xs : List Value} (h : w.ownsRow base T K v n xs) (hb : base' ≤ base) : w.ownsRow base' T K v n xs := by
  obtain ⟨h1, h2⟩ := h
  refine ⟨h1, ?_⟩
  rcases h2 with h2 | ⟨g', cap, cur, hv, hb', h3⟩
  · exact .inl h2
  · exact .inr ⟨g', cap, cur, hv, Nat.le_trans hb hb', h3⟩
theorem nan_any (a : Int) (w : World) : Calls Try.prog 51 #[.int .i64 a] w fun e w' => e = .returned (.bool false) ∧ w = w' := by
  go_enter Try.func51, Try.ntmps51
  go_wp2_with fail
  go_ret
  exact ⟨rfl, rfl⟩
def sgnI (a b : Int) : Int := if a < b then -1 else if b < a then 1 else 0
theorem sgnI_cases (a b : Int) : a < b ∧ sgnI a b = -1 ∨ b < a ∧ sgnI a b = 1 ∨ a = b ∧ sgnI a b = 0 := by
  unfold sgnI
  by_cases h : a < b
  · exact .inl ⟨h, if_pos h⟩
  · by_cases h2 : b < a
    · exact .inr (.inl ⟨h2, by rw [if_neg h, if_pos h2]⟩)
    · exact .inr (.inr ⟨by omega, by rw [if_neg h, if_neg h2]⟩)
theorem cmpCompare_any (a b : Int) (w : World) : Calls Try.prog 39 #[.int .i64 a, .int .i64 b] w fun e w' => e = .returned (.int .i64 (sgnI a b)) ∧ w = w' := by
  rcases sgnI_cases a b with ⟨h, e⟩ | ⟨h, e⟩ | ⟨h, e⟩ <;> rw [e] <;> clear e
  · go_enter Try.func39, Try.ntmps39
    go_wp2_with fail
    refine (nan_any _ _).mono ?_; rintro e w' ⟨rfl, rfl⟩
    go_wp2_with fail
    refine (nan_any _ _).mono ?_; rintro e w' ⟨rfl, rfl⟩
    go_wp2_with fail
    go_ret
    exact ⟨rfl, rfl⟩
  · have h2 : ¬ a < b := by omega
    go_enter Try.func39, Try.ntmps39
    go_wp2_with fail
    refine (nan_any _ _).mono ?_; rintro e w' ⟨rfl, rfl⟩
    go_wp2_with fail
    refine (nan_any _ _).mono ?_; rintro e w' ⟨rfl, rfl⟩
    go_wp2_with fail
    go_ret
    exact ⟨rfl, rfl⟩
  · subst h
    go_enter Try.func39, Try.ntmps39
    go_wp2_with fail
    refine (nan_any _ _).mono ?_; rintro e w' ⟨rfl, rfl⟩
    go_wp2_with fail
    refine (nan_any _ _).mono ?_; rintro e w' ⟨rfl, rfl⟩
    go_wp2_with fail
    go_ret
    exact ⟨rfl, rfl⟩
theorem C_key {a b : Rd} (h : a.k ≠ b.k) : a.C b = sgnI a.k b.k := by
  have e := Rd.ext_iff' (a := a) (b := b)
  unfold Rd.C sgnI
  have n1 : ¬ a = b := fun q => h (e.1 q).1
  split <;> split <;> first | rfl | omega | (split <;> first | rfl | omega)
theorem C_val {a b : Rd} (h : a.k = b.k) : a.C b = sgnI a.v b.v := by
  have e := Rd.ext_iff' (a := a) (b := b)
  unfold Rd.C sgnI
  by_cases h1 : a.v < b.v
  · rw [if_pos (.inr ⟨h, h1⟩), if_pos h1]
  · rw [if_neg (by omega), if_neg h1]
    by_cases h2 : a = b
    · rw [if_pos h2, if_neg (by have := (e.1 h2).2; omega)]
    · rw [if_neg h2, if_pos (by have : ¬ (a.k = b.k ∧ a.v = b.v) := fun q => h2 (e.2 q); omega)]
/-- the closure that orders records -/
theorem closure_any (a b : Rd) (w : World) : Calls Try.prog 38 #[a.val, b.val] w fun e w' => e = .returned (.int .i64 (a.C b)) ∧ w' = (w.alloc (.cells #[.int .i64 a.k, .int .i64 a.v] 32)).alloc (.cells #[.int .i64 b.k, .int .i64 b.v] 32) := by
  obtain ⟨ak, av⟩ := a
  obtain ⟨bk, bv⟩ := b
  by_cases h : ak = bk
  · subst h
    have hz : (ak != ak) = false := by simp
    rw [C_val (a := ⟨ak, av⟩) (b := ⟨ak, bv⟩) rfl]
    simp only
    go_enter Try.func38, Try.ntmps38
    go_wp2_with fail
    refine (cmpCompare_any _ _ _).mono ?_; rintro e w' ⟨rfl, rfl⟩
    go_wp2_with fail
    go_ret
    exact ⟨rfl, rfl⟩
  · have hz : (ak != bk) = true := by simpa using h
    rw [C_key (a := ⟨ak, av⟩) (b := ⟨bk, bv⟩) h]
    have H := Lib.hid h; clear h
    simp only
    go_enter Try.func38, Try.ntmps38
    go_wp2_with fail
    refine (cmpCompare_any _ _ _).mono ?_; rintro e w' ⟨rfl, rfl⟩
    go_wp2_with fail
    go_ret
    exact ⟨rfl, rfl⟩
theorem byKey_any (w : World) : Calls Try.prog 30 #[] w fun e w' => e = .returned (.func (.func 38) #[] #[]) ∧ w = w' := by
  go_enter Try.func30, Try.ntmps30
  go_wp2_with fail
  go_ret
  exact ⟨rfl, rfl⟩
end Vr
end Go.Proofs.Ytcdofkhkckodjaa
