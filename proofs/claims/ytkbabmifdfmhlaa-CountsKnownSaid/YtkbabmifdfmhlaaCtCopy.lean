/- Copy: others that are the same. -/
import Derived.Test.YtkbabmifdfmhlaaCtAdd
import Derived.Test.YtkbabmifdfmhlaaShelfC
namespace Go.Proofs.Ytkbabmifdfmhlaa
open Go.ChangeShapes Go.WideShapes Go.ChangeAt Go.RowKit Go.BigFrame Go.Shelf
set_option linter.unusedVariables false
set_option maxRecDepth 100000
section
variable {K : Value → World → Prop} {a : Act} {o : Oper} {w : World}
theorem g_nil (b i : Nat) (x : Operand) (ho : o.op = .nilCheck x) (hx : a.eval x = .pointer (some ⟨b, i, none⟩)) (h : K (.pointer (some ⟨b, i, none⟩)) w) : Free.gets Try.prog K ((execOp a.eval o).run Try.prog w) := by
  unfold execOp; simp only [ho, hx]; go_simp; exact h
theorem g_addr (b i f : Nat) (t : TypeId) (x : Operand) (ho : o.op = .fieldAddr t x f) (hx : a.eval x = .pointer (some ⟨b, 0, none⟩)) (hr : (Instr.fieldAt t (.pointer (some ⟨b, 0, none⟩)) f).run Try.prog w = .ok (.pointer (some ⟨b, i, none⟩)) w) (h : K (.pointer (some ⟨b, i, none⟩)) w) : Free.gets Try.prog K ((execOp a.eval o).run Try.prog w) :=
  Free.g_field t x f ho hx hr h
end
theorem clone_any {w : World} {m : Option Nat} {N : Nat} {L : Cn} (h : MapN w m N L) :
    Calls Try.prog 32 #[.map m] w fun e w' => (∃ m', e = .returned (.map m') ∧ MapN w' m' N L ∧ ∀ k, m' = some k → w.heap.size ≤ k) ∧ Below w.heap.size w w' := by
  rcases h with ⟨rfl, rfl⟩ | ⟨k, rfl, ⟨D, h1, h2⟩, h3⟩
  · exact (AnyW.maps_Clone_nil Try.cloneC w).mono fun e w' ⟨he, hw⟩ => by subst hw; exact ⟨⟨none, he, .inl ⟨rfl, rfl⟩, by simp⟩, Below.refl _ _⟩
  · exact (AnyW.maps_Clone_owns Try.cloneC _ _ k N _ w h1).mono fun e w' ⟨he, k1, _, hb⟩ => ⟨⟨some w.heap.size, he, .inr ⟨_, rfl, ⟨D, k1, h2⟩, h3⟩, fun j e => by cases e; exact Nat.le_refl _⟩, hb⟩
theorem MapN.below {w w' : World} {m : Option Nat} {N : Nat} {L : Cn} (h : MapN w m N L) (hb : Below w.heap.size w w') : MapN w' m N L :=
  h.imp id fun ⟨k, e, hk⟩ => ⟨k, e, hk.touch (F := fun _ => False) (Touch.of_below hb) id⟩
theorem built_counts (d : Int) (m : Option Nat) : Try.prog.built 57 [(0, .int .i64 d), (1, .map m)] = some #[.int .i64 d, .map m] := by kernel_rfl
/-- what Copy's operations yield -/
def RCopy (base b : Nat) (m : Option Nat) (N : Nat) (d : Int) (L : Cn) (i : Nat) (v : Value) (w : World) : Prop := match i with
  | 0 | 1 | 2 | 4 | 5 => v = .pointer (some ⟨b, 0, none⟩)
  | 3 => v = .int .i64 d
  | 6 => v = .pointer (some ⟨b, 1, none⟩)
  | 7 => v = .map m
  | 8 => ∃ m', v = .map m' ∧ MapN w m' N L ∧ ∀ k, m' = some k → base ≤ k
  | 9 => ∃ m', v = .agg #[.int .i64 d, .map m'] ∧ MapN w m' N L ∧ ∀ k, m' = some k → base ≤ k
  | _ => ∃ b' m', v = .pointer (some ⟨b', 0, none⟩) ∧ Ct w base b' m' N d L
theorem RCopy_keep (base b : Nat) (m : Option Nat) (N : Nat) (d : Int) (L : Cn) : ∀ j u w w', RowKit.Below w.heap.size w w' → RCopy base b m N d L j u w → RCopy base b m N d L j u w' := by
  intro j u wa wb hb h
  match j with
  | 0 | 1 | 2 | 3 | 4 | 5 | 6 | 7 => exact h
  | 8 => obtain ⟨m', e, h1, h2⟩ := h; exact ⟨m', e, h1.below hb, h2⟩
  | 9 => obtain ⟨m', e, h1, h2⟩ := h; exact ⟨m', e, h1.below hb, h2⟩
  | _ + 10 => obtain ⟨b', m', e, h1⟩ := h; exact ⟨b', m', e, h1.below hb⟩
/-- what Copy gives -/
def Copied (w : World) (N : Nat) (d : Int) (L : Cn) (e : Ending) (w' : World) : Prop :=
  (∃ b' m', e = .returned (.pointer (some ⟨b', 0, none⟩)) ∧ Ct w' w.heap.size b' m' N d L) ∧ Below w.heap.size w w'
set_option maxHeartbeats 2000000 in
theorem copy_any {w : World} {base b N : Nat} {m : Option Nat} {d : Int} {L : Cn} (h : Ct w base b m N d L) :
    Calls Try.prog 12 #[.pointer (some ⟨b, 0, none⟩)] w (Copied w N d L) := by
  have HH := Lib.hid h; clear h
  go_enter Try.func12, Try.ntmps12
  go_wp2_with fail
  refine Free.wp_grow (by kernel_rfl) (by kernel_rfl) (RCopy w.heap.size b m N d L) (RCopy_keep _ _ _ _ _ _) ?_ ?_
  · intro i o hi a wa hold hpre hbw
    have HC := HH.out.below hbw
    match i with
    | 0 => cases hi; exact Free.g_move _ rfl ⟨(hold 0 (by decide)).trans rfl, Below.refl _ _⟩
    | 1 =>
      cases hi
      have h0 := hpre 0 _ _ (by kernel_rfl) rfl rfl
      exact g_nil b 0 _ rfl h0 ⟨rfl, Below.refl _ _⟩
    | 2 =>
      cases hi
      have h0 := hpre 1 _ _ (by kernel_rfl) rfl rfl
      exact g_addr b 0 0 _ _ rfl h0 (by go_simp) ⟨rfl, Below.refl _ _⟩
    | 3 =>
      cases hi
      have h0 := hpre 2 _ _ (by kernel_rfl) rfl rfl
      exact Free.g_load _ _ rfl h0 (load_d1 HC wa (Below.refl _ _)) ⟨rfl, Below.refl _ _⟩
    | 4 => cases hi; exact Free.g_move _ rfl ⟨(hold 0 (by decide)).trans rfl, Below.refl _ _⟩
    | 5 =>
      cases hi
      have h0 := hpre 4 _ _ (by kernel_rfl) rfl rfl
      exact g_nil b 0 _ rfl h0 ⟨rfl, Below.refl _ _⟩
    | 6 =>
      cases hi
      have h0 := hpre 5 _ _ (by kernel_rfl) rfl rfl
      exact g_addr b 1 1 _ _ rfl h0 (by go_simp) ⟨rfl, Below.refl _ _⟩
    | 7 =>
      cases hi
      have h0 := hpre 6 _ _ (by kernel_rfl) rfl rfl
      exact Free.g_load _ _ rfl h0 (load_m HC wa (Below.refl _ _)) ⟨rfl, Below.refl _ _⟩
    | 8 =>
      cases hi
      have h0 := hpre 7 _ _ (by kernel_rfl) rfl rfl
      refine Free.g_call _ _ rfl Try.func32 (by kernel_rfl) rfl [.map m] (by show [a.eval (.tmp 12)] = _; rw [h0]) ?_
      exact (clone_any HC.of).mono fun e w2 ⟨⟨m', he, h1, h2⟩, hb2⟩ => ⟨_, he, ⟨m', rfl, h1, fun k hk => Nat.le_trans hbw.size (h2 k hk)⟩, hb2⟩
    | 9 =>
      cases hi
      have h0 := hpre 3 _ _ (by kernel_rfl) rfl rfl
      obtain ⟨m', h1, h2⟩ := hpre 8 _ _ (by kernel_rfl) rfl rfl
      refine Free.g_build _ _ rfl #[.int .i64 d, .map m'] [(0, .int .i64 d), (1, .map m')] (by show [(0, a.eval (.tmp 8)), (1, a.eval (.tmp 13))] = _; rw [h0, h1]) (built_counts d m') ⟨⟨m', rfl, h2⟩, Below.refl _ _⟩
    | 10 =>
      cases hi
      obtain ⟨m', h1, h2, h3⟩ := hpre 9 _ _ (by kernel_rfl) rfl rfl
      refine Free.g_box _ _ rfl _ h1 ⟨⟨wa.heap.size, m', rfl, ?_⟩, (Below.refl _ _).alloc (Nat.le_refl _) _⟩
      exact ⟨Row.made wa _ _, h2.below ((Below.refl _ _).alloc (Nat.le_refl _) _), ⟨hbw.size, h3⟩, HH.out.ok, HH.out.even⟩
    | 11 =>
      cases hi
      have h0 := hpre 10 _ _ (by kernel_rfl) rfl rfl
      exact Free.g_assign _ rfl ⟨h0, Below.refl _ _⟩
    | _ + 12 => cases hi
  · intro vs w6 hv hbw
    have h8 : RCopy w.heap.size b m N d L 11 (vs 11) w6 := hv 11 (by simp) (by rintro o ⟨⟩; rfl)
    obtain ⟨b', m', e, hc⟩ := h8
    have HF := Lib.hid (And.intro hc hbw); clear hv hbw hc
    simp only [Free.puts]
    rw [e]
    clear e
    generalize vs 0 = y0
    generalize vs 1 = y1
    generalize vs 2 = y2
    generalize vs 3 = y3
    generalize vs 4 = y4
    generalize vs 5 = y5
    generalize vs 6 = y6
    generalize vs 7 = y7
    generalize vs 8 = y8
    generalize vs 9 = y9
    generalize vs 10 = y10
    go_simp
    go_wp2_with fail
    go_ret
    exact ⟨⟨b', m', rfl, HF.out.1⟩, HF.out.2⟩
theorem copy_nil (w : World) : Calls Try.prog 12 #[.pointer none] w fun e w' => e = .returned (.pointer none) ∧ w = w' := by
  go_enter Try.func12, Try.ntmps12
  go_wp2
  go_ret
  exact ⟨rfl, rfl⟩
end Go.Proofs.Ytkbabmifdfmhlaa
