/- FrOf, FrT, FrWorks, FrOpen, FrSlc, FrRefOf, PaComes, SmApply, PlComes, Bytes, Conv, GrBytes, GrMine, GrKits, ChkTab -/
import Derived.Test.YtmhophmpbpbjaaaGreatDoorCa27
import Derived.Deep.Slices
import Derived.Test.YtmhophmpbpbjaaaGreatDoorCa26
import Derived.Test.YtmhophmpbpbjaaaGreatDoorCa24
import Derived.Test.YtmhophmpbpbjaaaGreatDoorCa25
import Derived.Deep.Onto
import Derived.Test.YtmhophmpbpbjaaaGreatDoorCa5
import Derived.Test.YtmhophmpbpbjaaaGreatDoorCa0
import Derived.Laws.BytesArg
import Derived.Laws.AppendOwnNone
import Derived.OwnWalk
import Derived.Laws.IdiomStrings
import Derived.Laws.Strings
import Derived.Test.YtmhophmpbpbjaaaGreatDoorCa8
import Derived.Test.YtmhophmpbpbjaaaGreatDoorCa16
import Derived.LaidMore
import Derived.Lib.LaidTab
import Derived.Stop.Joined
namespace Go.Proofs.YtmhophmpbpbjaaaGreatDoor
set_option linter.unusedVariables false
section
open Go.ChangeShapes Go.WideShapes Go.ChangeAt Go.RowKit Go.BigFrame Go.Shelf
set_option maxRecDepth 100000
def Gives (w : World) (l : List St) (n : Int) (e : Ending) (w' : World) : Prop :=
  (∃ v, e = .returned (.tuple #[v, .int .i64 n]) ∧ w'.ownsRow w.heap.size 49 5 v l.length (rowS l)) ∧ Below w.heap.size w w'
theorem frOwn_base {w : World} {base base' n : Nat} {v : Value} {xs : List Value} (h : w.ownsRow base 49 5 v n xs) (hb : base' ≤ base) : w.ownsRow base' 49 5 v n xs := by
  obtain ⟨h1, h2⟩ := h
  refine ⟨h1, ?_⟩
  rcases h2 with h2 | ⟨g', cap, cur, hv, hb', h3⟩
  · exact .inl h2
  · exact .inr ⟨g', cap, cur, hv, Nat.le_trans hb hb', h3⟩
def errS (b : Bool) : Int := if b then 0 else 50
def ifS (b : Bool) (l : List St) : List St := if b then l else []
theorem lift_even : ∀ (ts : List St), (∀ x ∈ ts, x.R) → ∃ zs : List RSt, raw zs = ts
  | [], _ => ⟨[], rfl⟩
  | x :: ts, h => by
    obtain ⟨zs, hz⟩ := lift_even ts (fun y hy => h y (List.mem_cons_of_mem _ hy))
    exact ⟨⟨x, h x List.mem_cons_self⟩ :: zs, by simp [raw] at hz ⊢; exact hz⟩
set_option maxHeartbeats 1000000 in
theorem frOf_any (A : Option Addr) (ts : List St) (c : Nat) (w : World) (hT : Ts w A ts) (hn : ts.length ≤ 5000000) :
    Calls Tryz.prog 47 #[.slice A ts.length c] w (Gives w (ifS (decide (Even ts)) (ofS ts)) (errS (decide (Even ts)))) := by
  have ha := alike_any A ts c w hT hn
  by_cases he : Even ts
  · rw [decide_eq_true he] at ha ⊢
    obtain ⟨zs, hz⟩ := lift_even ts (fun x hx => (he x hx).1)
    have hlen : zs.length = ts.length := by rw [← raw_length, hz]
    have hfst : ∀ w1, Below w.heap.size w w1 → Calls Tryz.prog 97 #[.func (.func 139) #[] #[.pointer (some ⟨w1.heap.size, 0, none⟩)]] (w1.alloc (.cells #[.slice A ts.length c] 51)) fun e W' => (∃ v, e = .returned v ∧ W'.ownsRow (w1.alloc (.cells #[.slice A ts.length c] 51)).heap.size 49 5 v (ofS (raw zs)).length (rowS (ofS (raw zs)))) ∧ Below (w1.alloc (.cells #[.slice A ts.length c] 51)).heap.size (w1.alloc (.cells #[.slice A ts.length c] 51)) W' := by
      intro w1 hw1
      refine first_any _ _ _ zs _ (by omega) (by rw [hz]; exact he) _ _ (Below.refl _ _) (Nat.le_refl _) (enters_of Tryz.func139 (by kernel_rfl) rfl)
        (fun n hn => valuesC n hn w1.heap.size A zs (by omega) c _ (by rw [hlen]; exact BoxAt.made w1 _ _) (by rw [hz]; exact (hT.below hw1).below ((Below.refl _ _).alloc (Nat.le_refl _) _)))
    rw [hz] at hfst
    have HA := Lib.hid ha; have HF := Lib.hid hfst; clear ha hfst hT he hz hlen
    unfold Gives ifS errS
    simp only [if_true]
    generalize ofS ts = us at *
    go_enter Tryz.func47, Tryz.ntmps47
    go_wp2_with fail
    refine (HA.out).mono ?_; rintro e w1 ⟨rfl, hb1⟩
    have HB1 := Lib.hid hb1; clear hb1
    go_wp2_with fail
    refine (values_any A ts.length c w1).mono ?_; rintro e w2 ⟨rfl, rfl⟩
    go_wp2_with fail
    refine (HF.out _ HB1.out).mono ?_; rintro e w3 ⟨⟨v, rfl, hr⟩, hb3⟩
    have HH := Lib.hid (And.intro hr hb3); clear hr hb3
    dsimp only
    go_wp2_with fail
    go_ret2
    refine ⟨⟨v, rfl, ?_⟩, HB1.out.trans (((Below.refl _ _).alloc (Nat.le_refl _) _).trans (HH.out.2.mono (by simp)) |>.mono HB1.out.size)⟩
    exact frOwn_base HH.out.1 (by have := HB1.out.size; simp; omega)
  · rw [decide_eq_false he] at ha ⊢
    unfold Gives ifS errS
    simp only [Bool.false_eq_true, if_false]
    have HA := Lib.hid ha; clear ha hT he
    go_enter Tryz.func47, Tryz.ntmps47
    go_wp2_with fail
    refine (HA.out).mono ?_; rintro e w1 ⟨rfl, hb1⟩
    have HB1 := Lib.hid hb1; clear hb1
    go_wp2_with fail
    go_ret2
    exact ⟨⟨_, rfl, World.ownsRow_nil _ _ _ _⟩, HB1.out⟩
end

section
open Go.ChangeShapes Go.WideShapes Go.ChangeAt Go.RowKit Go.BigFrame Go.Shelf
set_option maxRecDepth 100000
end

section
open Go.ChangeShapes Go.WideShapes Go.ChangeAt Go.RowKit Go.BigFrame Go.Shelf
set_option maxRecDepth 100000
section
variable {K : Value → World → Prop} {a : Act} {o : Oper} {w : World}
end
end

section
open Go.ChangeShapes Go.WideShapes Go.ChangeAt Go.RowKit Go.BigFrame Go.Shelf
set_option maxRecDepth 100000
end

section
open Go.ChangeShapes Go.WideShapes Go.ChangeAt Go.RowKit Go.BigFrame Go.Shelf
set_option maxRecDepth 100000
structure Slc (w : World) (A : Option Addr) (c : Nat) (l : List St) : Prop where
  ts : Ts w A l
  le : l.length ≤ c
  max : c ≤ maxLen
  nil : A = none → c = 0
section
variable {A B : Option Addr} {a b : List St} {c d : Nat} {w : World} {t : St} {v : Bool}
end
end

section
open Go.ChangeShapes Go.WideShapes Go.ChangeAt Go.RowKit Go.BigFrame Go.Shelf
set_option maxRecDepth 100000
section
variable {ts o : List St} {t x y z : St} {k m q : Nat}
def badJ (k : Nat) (t : St) (j : Nat) (x : St) : Bool := (!eqB x t && decide (x.L t)) || (decide (j < k) && eqB x t)
def LeastTo (ts : List St) (k : Nat) (t : St) (m : Nat) : Prop := ∀ (j : Nat) (x : St), j < m → ts[j]? = some x → badJ k t j x = false
noncomputable instance (ts : List St) (k : Nat) (t : St) (m : Nat) : Decidable (LeastTo ts k t m) := Classical.propDecidable _
end
end

section
open Go.ChangeShapes Go.WideShapes Go.ChangeAt Go.RowKit Go.BigFrame
set_option maxRecDepth 100000
def kindU : Kind St := ⟨St.cells, 5, fun _ => rfl, fun t u hu => by
  simp only [St.cells, List.mem_cons, List.not_mem_nil, or_false] at hu
  rcases hu with rfl | rfl | rfl | rfl | rfl <;> rfl, by decide⟩
theorem appS_len (T : St) : ∀ l : List Sm, (appS T l).length ≤ l.length
  | [] => Nat.le_refl _
  | s :: l => by
    have := appS_len T l
    unfold appS
    cases s.apply T with
    | none => simp only [List.length_cons]; omega
    | some u => simp only [List.length_cons]; omega
end

section
open Go.ChangeShapes Go.WideShapes Go.ChangeAt Go.RowKit Go.BigFrame
set_option maxRecDepth 100000
def ApD (w : World) (s : Sm) (t : St) (p q r : Int) (b1 b2 : Bool) (w' : World) : Prop :=
  Below w.heap.size w w' ∧ HoldsM w' w.heap.size 44 s ∧ Holds w' (w.heap.size + 1) ⟨if b1 then s.to else t.d, t.e, if b2 then p else t.x, if b2 then q else t.y, if b2 then r else t.z⟩ ∧ Holds w' (w.heap.size + 1 + 1) St.zero
theorem ApD.below {w : World} {s : Sm} {t : St} {p q r : Int} {b1 b2 : Bool} {v v' : World} (h : ApD w s t p q r b1 b2 v) (hb : Below v.heap.size v v') : ApD w s t p q r b1 b2 v' :=
  ⟨h.1.trans (hb.mono h.1.size), h.2.1.below hb, h.2.2.1.below hb, h.2.2.2.below hb⟩
set_option maxHeartbeats 8000000 in
theorem apply_D (s : Sm) (t : St) (w : World) (h : s.R) (h2 : t.R) (hd : t.d = s.fr) : Calls Tryz.prog 46 #[s.v, t.val] w fun e w' => e = .returned (.tuple #[(s.ap t).val, .bool (s.apB t)]) ∧ Below w.heap.size w w' := by
  have hmr := Sm.made_R h h2
  have hal := along_any s t.x t.y t.z
  have bt : (0 ≤ t.x ∧ t.x ≤ 1000) ∧ (0 ≤ t.y ∧ t.y ≤ 1000) ∧ (0 ≤ t.z ∧ t.z ≤ 1000) := by unfold St.R at h2; omega
  have cal := fun w => hal w h bt.1 bt.2.1 bt.2.2
  rw [show s.al 0 t.x = s.val t 0 from Sm.val_al 0, show s.al 1 t.y = s.val t 1 from Sm.val_al 1, show s.al 2 t.z = s.val t 2 from Sm.val_al 2] at cal
  have r3 := fun w => right_any ⟨s.to, t.e, s.val t 0, s.val t 1, s.val t 2⟩ w
  have hres : (s.ap t).val = (if decide (St.R ⟨s.to, t.e, s.val t 0, s.val t 1, s.val t 2⟩) then (St.val ⟨s.to, t.e, s.val t 0, s.val t 1, s.val t 2⟩) else St.zero.val) ∧ s.apB t = decide (St.R ⟨s.to, t.e, s.val t 0, s.val t 1, s.val t 2⟩) := by
    by_cases hh : s.val t 0 < 16 ∧ s.val t 1 < 16 ∧ s.val t 2 < 16
    · obtain ⟨q1, q2⟩ := Sm.ap_yes (s := s) (t := t) ⟨h, h2, hd, hh⟩
      rw [q1, q2, decide_eq_true (hmr.2 hh)]; exact ⟨rfl, rfl⟩
    · obtain ⟨q1, q2⟩ := Sm.ap_no (s := s) (t := t) (fun g => hh g.2.2.2)
      rw [q1, q2, decide_eq_false (fun g => hh (hmr.1 g))]; exact ⟨rfl, rfl⟩
  rw [hres.1, hres.2]
  clear hres hmr hal bt
  have h3 := Trio.made w 44 s t
  have hbw := below_alloc3 w (.cells #[.int .i64 s.fr, .int .i64 s.to, .int .i64 s.kp, .int .i64 s.ad, .int .i64 s.t0, .int .i64 s.t1, .int .i64 s.t2] 44) (.cells #[.int .i64 t.d, .int .i64 t.e, .int .i64 t.x, .int .i64 t.y, .int .i64 t.z] 49) (.cells #[.int .i64 0, .int .i64 0, .int .i64 0, .int .i64 0, .int .i64 0] 49)
  have H3 := Lib.hid h3; have HB := Lib.hid hbw; clear h3 hbw
  have r1 := fun w => rightM_true h w
  have r2 := fun w => right_true h2 w
  have hn : (t.d != s.fr) = false := by simpa using hd
  have R1 := Lib.hid r1; have R2 := Lib.hid r2; clear r1 r2
  clear h h2 hd
  generalize s.val t 0 = p at *
  generalize s.val t 1 = q at *
  generalize s.val t 2 = r at *
  generalize hb : decide (St.R ⟨s.to, t.e, p, q, r⟩) = bb at *
  clear hb
  have R3 := Lib.hid r3; have CAL := Lib.hid cal; clear r3 cal
  unfold Sm.v St.val at *
  go_enter Tryz.func46, Tryz.ntmps46
  go_wp2_with fail
  refine (R1.out _).mono ?_; rintro e w2 ⟨rfl, hb2⟩
  have k3 := H3.out.below hb2
  have kb := HB.out.trans (hb2.mono HB.out.size); clear H3 HB
  have H3 := Lib.hid k3; have HB := Lib.hid kb; clear k3 kb hb2
  obtain ⟨a0, a1, a2, a3, a4⟩ := H3.out.2.1.c5
  obtain ⟨b0, b1, b2, b3, b4, b5, b6⟩ := H3.out.1.cells7
  go_wp2_with fail
  clear a0 a1 a2 a3 a4 b0 b1 b2 b3 b4 b5 b6 R1
  refine (R2.out _).mono ?_; rintro e w3 ⟨rfl, hb3⟩
  have k3 := H3.out.below hb3
  have kb := HB.out.trans (hb3.mono HB.out.size); clear H3 HB
  have H3 := Lib.hid k3; have HB := Lib.hid kb; clear k3 kb hb3
  obtain ⟨a0, a1, a2, a3, a4⟩ := H3.out.2.1.c5
  obtain ⟨b0, b1, b2, b3, b4, b5, b6⟩ := H3.out.1.cells7
  go_wp2_with fail
  clear a0 a1 a2 a3 a4 b0 b1 b2 b3 b4 b5 b6 R2 hn
  have hD : ApD w s t p q r false false w3.drew := ⟨HB.out.drew, H3.out.1, H3.out.2.1, H3.out.2.2⟩
  have HD := Lib.hid hD; clear hD H3 HB
  refine Stage.wp_region (by kernel_rfl) (by kernel_rfl) (Stage.two 7 9 (ApD w s t p q r)) (Stage.two_start (by simp) (by simp) HD.out) ?_
  refine Stage.wpSt_do (.pointer (some ⟨w.heap.size, 1, none⟩)) rfl (Stage.two_step (by kernel_rfl) (fun b w' hw => ?_)) ?_
  · exact at_of (by go_simp) hw
  go_simp
  refine Stage.wpSt_do (.int .i64 s.to) rfl (Stage.two_step (by kernel_rfl) (fun b w' hw => ?_)) ?_
  · exact Free.at_load _ _ rfl rfl (load_m1 hw.2.1 1 rfl w' (Below.refl _ _)) hw
  go_simp
  refine Stage.wpSt_do (.agg #[.int .i64 s.fr, .int .i64 s.to, .int .i64 s.kp, .int .i64 s.ad, .int .i64 s.t0, .int .i64 s.t1, .int .i64 s.t2]) rfl (Stage.two_step (by kernel_rfl) (fun b w' hw => ?_)) ?_
  · exact Free.at_load _ _ rfl rfl (load_m hw.2.1 w' (Below.refl _ _)) hw
  go_simp
  refine Stage.wpSt_do (.pointer (some ⟨w.heap.size + 1, 2, none⟩)) rfl (Stage.two_step (by kernel_rfl) (fun b w' hw => ?_)) ?_
  · exact at_of (by go_simp) hw
  go_simp
  refine Stage.wpSt_do (.agg #[.int .i64 t.x, .int .i64 t.y, .int .i64 t.z]) rfl (Stage.two_step (by kernel_rfl) (fun b w' hw => ?_)) ?_
  · exact Free.at_load _ _ rfl rfl (load_l hw.2.2.1 w' (Below.refl _ _)) hw
  go_simp
  refine Stage.wpSt_do (.agg #[.int .i64 p, .int .i64 q, .int .i64 r]) rfl (Stage.two_step (by kernel_rfl) (fun b w' hw => ?_)) ?_
  · exact Free.at_call _ _ rfl Tryz.func58 (by kernel_rfl) rfl [.agg #[.int .i64 s.fr, .int .i64 s.to, .int .i64 s.kp, .int .i64 s.ad, .int .i64 s.t0, .int .i64 s.t1, .int .i64 s.t2], .agg #[.int .i64 t.x, .int .i64 t.y, .int .i64 t.z]] rfl ((CAL.out _).mono fun _ _ hh => ⟨hh.1, hw.below hh.2⟩)
  go_simp
  refine Stage.wpSt_do (.pointer (some ⟨w.heap.size + 1, 0, none⟩)) rfl (Stage.two_step (by kernel_rfl) (fun b w' hw => ?_)) ?_
  · exact at_of (by go_simp) hw
  go_simp
  refine Stage.wpSt_do undef rfl (Stage.two_first (by decide) (by kernel_rfl) (fun w' hw => ?_)) ?_
  · have c := hw.2.2.1.c5.1
    have f := hw.2.2.1.f5.1
    simp only at c
    exact at_skip (w' := w'.setCell ⟨w.heap.size + 1, 0, none⟩ (.int .i64 s.to)) (by go_simp) ⟨hw.1.setCell (by simp) _, Row.far hw.2.1 (by simp) _, Row.put hw.2.2.1 0 _, Row.far hw.2.2.2 (by simp) _⟩
  go_simp
  refine Stage.wpSt_do (.pointer (some ⟨w.heap.size + 1, 2, none⟩)) rfl (Stage.two_step (by kernel_rfl) (fun b w' hw => ?_)) ?_
  · exact at_of (by go_simp) hw
  go_simp
  refine Stage.wpSt_do undef rfl (Stage.two_then (by decide) (by kernel_rfl) (fun w' hw => ?_)) ?_
  · obtain ⟨c0, c1, c2, c3, c4⟩ := hw.2.2.1.c5
    obtain ⟨f0, f1, f2, f3, f4⟩ := hw.2.2.1.f5
    exact at_skip (w' := ((w'.setCell ⟨w.heap.size + 1, 2, none⟩ (.int .i64 p)).setCell ⟨w.heap.size + 1, 3, none⟩ (.int .i64 q)).setCell ⟨w.heap.size + 1, 4, none⟩ (.int .i64 r)) (by go_simp) ⟨((hw.1.setCell (by simp) _).setCell (by simp) _).setCell (by simp) _, Row.far (Row.far (Row.far hw.2.1 (by simp) _) (by simp) _) (by simp) _, Row.put (Row.put (Row.put hw.2.2.1 2 _) 3 _) 4 _, Row.far (Row.far (Row.far hw.2.2.2 (by simp) _) (by simp) _) (by simp) _⟩
  go_simp
  refine Stage.wpSt_nil (Stage.two_end ?_)
  intro w4 hw4
  obtain ⟨hb4, hm4, ht4, hz4⟩ := hw4
  simp only [if_true] at ht4
  obtain ⟨a0, a1, a2, a3, a4⟩ := ht4.c5
  have HB := Lib.hid hb4; have HT := Lib.hid ht4; have HZ := Lib.hid hz4; clear hb4 hm4 ht4 hz4 HD CAL
  go_wp2_with fail
  refine (R3.out _).mono ?_; rintro e w5 ⟨rfl, hb5⟩
  have ht5 := HT.out.below hb5; have hz5 := HZ.out.below hb5; have hbw := HB.out.trans (hb5.mono HB.out.size)
  clear a0 a1 a2 a3 a4 HT HZ HB hb5 R3
  obtain ⟨a0, a1, a2, a3, a4⟩ := ht5.c5
  obtain ⟨z0, z1, z2, z3, z4⟩ := hz5.c5
  obtain ⟨f0, f1, f2, f3, f4⟩ := hz5.f5
  have HB := Lib.hid hbw; have HZ := Lib.hid hz5; clear hbw hz5 ht5
  simp only at a0 a1 a2 a3 a4
  cases bb with
  | true =>
    go_wp2_with fail
    refine bodyPost_ret (v := .tuple #[.agg #[.int .i64 s.to, .int .i64 t.e, .int .i64 p, .int .i64 q, .int .i64 r], .bool true]) (two_results rfl _ _ _ 49 _ (0, 0) _ rfl (row_set5' HZ.out) Tryz.underlying49 rfl (by kernel_rfl) rfl) rfl ?_
    exact ⟨rfl, below_set5' HB.out (by omega)⟩
  | false =>
    go_wp2_with fail
    refine bodyPost_ret (v := .tuple #[.agg #[.int .i64 0, .int .i64 0, .int .i64 0, .int .i64 0, .int .i64 0], .bool false]) (two_results rfl _ _ _ 49 _ (0, 0) _ rfl (row_set5' HZ.out) Tryz.underlying49 rfl (by kernel_rfl) rfl) rfl ?_
    exact ⟨rfl, below_set5' HB.out (by omega)⟩
theorem apply_any (s : Sm) (t : St) (w : World) : Calls Tryz.prog 46 #[s.v, t.val] w fun e w' => e = .returned (.tuple #[(s.ap t).val, .bool (s.apB t)]) ∧ Below w.heap.size w w' := by
  by_cases h : s.R
  · by_cases h2 : t.R
    · by_cases hd : t.d = s.fr
      · exact apply_D s t w h h2 hd
      · exact apply_C s t w h h2 hd
    · exact apply_B s t w h h2
  · exact apply_A s t w h
end

section
open Go.ChangeShapes Go.WideShapes Go.ChangeAt Go.RowKit Go.BigFrame
set_option maxRecDepth 100000
theorem WaysOf.one {g : List Nd} {f t : Int} {l : List Sm} (hF : Fine g) (h : WaysOf g f t l) : OneTo l := by
  rcases h with ⟨i, n, T, D, rfl, rfl, hi, hn, hr, hl⟩ | ⟨_, rfl⟩
  · obtain ⟨x, hx⟩ : ∃ x, g[n]? = some x := ⟨_, List.getElem?_eq_getElem hn⟩
    intro s hs u hu
    rw [(hr.dsound n s (hr.sub n l s hl hs)).to_eq hF hx, (hr.dsound n u (hr.sub n l u hl hu)).to_eq hF hx]
  · intro x hx; cases hx
theorem take_no {T : St} {l : List Sm} {k : Nat} {s : Sm} (h : l[k]? = some s) (hn : s.apB T = false) : appS T (l.take (k + 1)) = appS T (l.take k) := by
  rw [List.take_add_one, h, Option.toList_some, appS_append]
  have : s.apply T = none := by
    unfold Sm.apB at hn
    cases h2 : s.apply T with
    | none => rfl
    | some u => rw [h2] at hn; cases hn
  have e2 : appS T [s] = [] := by unfold appS; rw [this]; rfl
  rw [e2, List.append_nil]
theorem take_yes {T : St} {l : List Sm} {k : Nat} {s : Sm} (h : l[k]? = some s) (hn : s.apB T = true) : appS T (l.take (k + 1)) = appS T (l.take k) ++ [s.ap T] := by
  rw [List.take_add_one, h, Option.toList_some, appS_append]
  congr 1
  unfold Sm.apB at hn
  unfold Sm.ap appS
  cases h2 : s.apply T with
  | none => rw [h2] at hn; cases hn
  | some u => rfl
theorem app_kept {w1 w4 w5 : World} {o : Obj} {v : Value} {M : List St} (ho : w4.ownsRow w1.heap.size 49 kindU.K v M.length (Rw.row kindU M)) (hb : Below w1.heap.size w1 w4) (hg : (w4.alloc o).grownBy w5 v.ownBlock) : Below w1.heap.size w1 w5 :=
  Rw.own_below (ho.alloc o) hg (hb.alloc hb.size o) (Nat.le_trans hb.size ((Below.refl w4.heap.size w4).alloc (Nat.le_refl _) o).size)
def ComeD (w : World) (base p F : Nat) (A : Option Addr) (c : Nat) (lg : List Gn) (f t : Int) (T : St) (e : Ending) (w' : World) : Prop :=
  (∃ v l, e = .returned v ∧ WaysOf (nds lg) f t l ∧ w'.ownsRow w.heap.size 49 5 v (ofS (appS T l)).length (rowS (ofS (appS T l)))) ∧ (∃ fs, Pth w' base p F A c lg fs) ∧ Touch (fun b => b = F) w w'
set_option maxHeartbeats 16000000 in
theorem comes_any (p F c base : Nat) (A : Option Addr) (lg : List Gn) (fs : List (Option Sl)) (f t : Int) (T : St) (w : World) (hP : Pth w base p F A c lg fs) (hl : lg.length ≤ 14) (hI : ∀ x ∈ nds lg, x.ins.length ≤ 40) (hFi : Fine (nds lg)) :
    Calls Tryz.prog 21 #[.pointer (some ⟨p, 0, none⟩), .int .i64 f, T.val, .int .i64 t] w (ComeD w base p F A c lg f t T) := by
  have ht0 : Holds (w.alloc (.cells #[.int .i64 T.d, .int .i64 T.e, .int .i64 T.x, .int .i64 T.y, .int .i64 T.z] 49)) w.heap.size T := Holds.made w T
  have hb0 : Below w.heap.size w (w.alloc (.cells #[.int .i64 T.d, .int .i64 T.e, .int .i64 T.x, .int .i64 T.y, .int .i64 T.z] 49)) := (Below.refl _ _).alloc (Nat.le_refl _) _
  have hlst := least_any p F c base A lg fs f t _ (hP.below hb0) hl hI hFi
  have hFF : F ≠ w.heap.size := by have := hP.fans.lt; omega
  have HA := Lib.hid hlst; have HF := Lib.hid hFi; have HT0 := Lib.hid ht0; have HB0 := Lib.hid hb0; have HFF := Lib.hid hFF; clear hlst hFi hP hI ht0 hb0 hFF
  go_enter Tryz.func21, Tryz.ntmps21
  go_wp2_with fail
  refine HA.out.mono ?_; rintro e w1 ⟨⟨v, l, rfl, hw, LA, lc, rfl, hTs, h1, h2, h3⟩, ⟨fs', hP⟩, ht⟩
  have hbd := hw.len
  have ht1 : Holds w1 w.heap.size T := Row.touch (t := 49) HT0.out ht (fun e => HFF.out e.symm)
  have hts : Mx.Ts w1 LA l := hTs
  have HW := Lib.hid hw; have HP := Lib.hid (And.intro hP ht); have HTS := Lib.hid hts; have HBD := Lib.hid hbd; have HT1 := Lib.hid ht1; clear hw hTs hts h1 h2 h3 hP ht hbd ht1 HA HT0
  obtain ⟨gt, hgt⟩ : ∃ gt, w.heap.size = gt := ⟨_, rfl⟩
  have HGT := Lib.hid hgt; rw [hgt] at HT1 ⊢; clear hgt
  dsimp only
  go_wp2_with fail
  go_loopw [9, 21] (fun v n wx => ∃ k : Nat, n = .int .i64 k ∧ k ≤ l.length ∧ wx.ownsRow w1.heap.size 49 kindU.K v (appS T (l.take k)).length (Rw.row kindU (appS T (l.take k))) ∧ Below w1.heap.size w1 wx) (fun _ n _ => l.length - (intOf n).toNat)
  case atStart => exact ⟨0, rfl, Nat.zero_le _, World.ownsRow_nil _ _ _ _, Below.refl _ _⟩
  case round =>
    obtain ⟨w3, rfl⟩ : ∃ wo, wo = wr := ⟨_, rfl⟩
    obtain ⟨k, rfl, hk, hn, hb⟩ := hrel
    have HN := Lib.hid hn; have HB2 := Lib.hid hb; clear hn hb
    by_cases hkl : k < l.length
    · have hkz : (k : Int) < (l.length : Int) := by omega
      have hkb : k < 60000000 := by have := HBD.out; omega
      obtain ⟨s, hs⟩ : ∃ a, l[k]? = some a := ⟨_, List.getElem?_eq_getElem hkl⟩
      obtain ⟨b, o, rfl, hblt, hld⟩ := Mx.Ts.five HTS.out hs
      obtain ⟨q0, q1, q2, q3, q4, q5, q6⟩ := hld w3 HB2.out
      obtain ⟨d0, d1, d2, d3, d4⟩ := (HT1.out.below HB2.out).c5
      have hlg : gt < w3.heap.size := (HT1.out.below HB2.out).lt
      have hno := fun h => take_no (T := T) hs h
      have hyes := fun h => take_yes (T := T) hs h
      have hlen := appS_len T (l.take k)
      rw [List.length_take] at hlen
      have hap := fun wz => apply_any s T wz
      generalize appS T (l.take k) = M at *
      generalize s.ap T = U at *
      generalize s.apB T = TB at *
      have HNO := Lib.hid hno; have HYES := Lib.hid hyes; have HLEN := Lib.hid hlen; have HAP := Lib.hid hap
      clear hno hyes hlen hap hld hs hblt
      go_wp2_with fail
      refine (HAP.out _).mono ?_; rintro e w4 ⟨rfl, hb4⟩
      have hb4' : Below w3.heap.size w3 w4 := ((Below.refl _ _).alloc (Nat.le_refl _) _).trans (hb4.mono (by simp))
      have HB4 := Lib.hid hb4'; clear hb4 hb4' q0 q1 q2 q3 q4 q5 q6 d0 d1 d2 d3 d4
      dsimp only
      cases TB with
      | false =>
        have hm := HNO.out rfl
        have HM := Lib.hid hm; clear hm
        go_wp2_with fail
        go_roundw
        case rel =>
          have hb5 := HB4.out.alloc HB4.out.size (.cells #[.int .i64 U.d, .int .i64 U.e, .int .i64 U.x, .int .i64 U.y, .int .i64 U.z] 49)
          exact ⟨k + 1, by simp, by omega, by rw [HM.out]; exact Rw.own_kept HN.out hb5, HB2.out.trans (hb5.mono HB2.out.size)⟩
        case measure => simp only [intOf]; omega
      | true =>
        have hm := HYES.out rfl
        have hb5 := HB4.out.alloc HB4.out.size (.cells #[.int .i64 U.d, .int .i64 U.e, .int .i64 U.x, .int .i64 U.y, .int .i64 U.z] 49)
        have hb6 := HB2.out.trans (hb5.mono HB2.out.size)
        have hn5 := Rw.own_kept HN.out hb5
        obtain ⟨c0, c1, c2, c3, c4⟩ := (Holds.made w4 U).c5
        have HM := Lib.hid hm; have HN5 := Lib.hid hn5; have HB6 := Lib.hid hb6; clear hm hn5 hb5 hb6
        go_upto_region 7 with fail
        generalize w4.alloc (.cells #[.int .i64 U.d, .int .i64 U.e, .int .i64 U.x, .int .i64 U.y, .int .i64 U.z] 49) = w5 at *
        generalize w4.heap.size = gu at *
        have hty := Rw.Ts.made (κ := kindU) w5 [U] 49
        have HTY := Lib.hid hty; clear hty
        go_wp2_with (at_builtin; refine Rw.append_own kindU 49 51 Tryz.underlying51 Tryz.infoStamp rfl rfl _ _ rfl w1.heap.size _ M.length M rfl (World.ownsRow.alloc HN5.out _) _ 1 [U] rfl (by simp) HTY.out (by unfold maxLen; have := HLEN.out; simp; omega) (by have := HLEN.out; simp; omega) (by have := HB6.out.size; simp; omega) ?_; intro v2 w6 hv2 hg2; have hk2 := app_kept HN5.out HB6.out hg2; have HV := Lib.hid hv2; have HK := Lib.hid hk2; clear hv2 hg2 hk2)
        go_roundw
        case rel =>
          refine ⟨k + 1, by simp, by omega, ?_, HK.out⟩
          rw [HM.out, List.length_append]
          exact HV.out
        case measure => simp only [intOf]; omega
    · have hkz : ¬ (k : Int) < (l.length : Int) := by omega
      have hke : k = l.length := by omega
      have hn := HN.out
      rw [hke, List.take_length] at hn
      have hle : (appS T l).length ≤ 5000000 := by have h1 := HBD.out; have h2 := appS_len T l; omega
      have hev : Even (appS T l) := appS_even (HW.out.one HF.out)
      obtain ⟨NA, nc, rfl, hs, _, _, _⟩ := Rw.Ts.of_own hn
      have hs' : Ts w3 NA (appS T l) := hs
      have hcl := frOf_any NA (appS T l) nc w3 hs' hle
      rw [decide_eq_true hev] at hcl
      have HC := Lib.hid hcl; clear hcl hn hke hs hs' hle hev HN
      unfold Gives ifS errS at HC
      simp only [if_true] at HC
      go_wp2_with fail
      refine HC.out.mono ?_; rintro e w5 ⟨⟨v5, rfl, ho⟩, hb5⟩
      have HO := Lib.hid (And.intro ho hb5); clear ho hb5
      dsimp only
      go_wp2_with fail
      go_ret
      obtain ⟨ho, hb5⟩ := HO.out
      obtain ⟨hP, ht⟩ := HP.out
      have hb6 := HB2.out.trans (hb5.mono HB2.out.size)
      have hsz : w.heap.size ≤ w3.heap.size := Nat.le_trans HB0.out.size (Nat.le_trans ht.size HB2.out.size)
      exact ⟨⟨_, l, rfl, HW.out, frOwn_base ho hsz⟩, ⟨_, hP.below hb6⟩, ((Touch.of_below HB0.out).trans ht).trans (Touch.of_below (hb6.mono (by exact Nat.le_refl _)))⟩
end

section
open Go.RowKit

section
variable {P : Program}
end
end

section
open Go.RowKit
section
variable {P : Program} {src dst e : TypeId}
end
end

section
open Go.ChangeShapes Go.WideShapes Go.ChangeAt Go.RowKit Go.BigFrame
set_option linter.unusedVariables false
end

section
open Go.ChangeShapes Go.WideShapes Go.ChangeAt Go.RowKit Go.BigFrame
def MyB (w : World) (g n : Nat) : Prop := ∃ (cur : Array Value) (fz : Nat × Nat), w.heap[g]? = some (.cells cur 5 fz) ∧ n ≤ fz.1 ∧ ∀ j, j < n → ∃ x : Nat, x < 256 ∧ cur[j]? = some (.int .u8 (x : Nat))
theorem MyB.at_ {w : World} {g n : Nat} (h : MyB w g n) {j : Nat} (hj : j < n) : ∃ x : Nat, x < 256 ∧ w.cell? ⟨g, j, none⟩ = some (.int .u8 (x : Nat)) ∧ w.frozen? ⟨g, j, none⟩ = false := by
  obtain ⟨cur, fz, hh, hf, hc⟩ := h
  obtain ⟨x, hx, he⟩ := hc j hj
  refine ⟨x, hx, by rw [cell_of_row w g j cur _ fz hh]; exact he, ?_⟩
  simp [World.frozen?, hh]
  omega
section
variable {P : Program} {src dst : TypeId}
end
end

section
open Go.ChangeShapes Go.WideShapes Go.ChangeAt Go.RowKit Go.BigFrame
set_option maxRecDepth 100000
theorem allocs_heap : ∀ (os : List Obj) (w : World), (os.foldl World.alloc w).heap.toList = w.heap.toList ++ os
  | [], w => (List.append_nil _).symm
  | o :: os, w => by
    rw [List.foldl_cons, allocs_heap os (w.alloc o)]
    show (w.heap.push o).toList ++ os = _
    rw [Array.toList_push, List.append_assoc]; rfl
theorem allocs_at (os : List Obj) (w : World) {k : Nat} {o : Obj} (h : os[k]? = some o) : (os.foldl World.alloc w).heap[w.heap.size + k]? = some o := by
  rw [← Array.getElem?_toList, allocs_heap, List.getElem?_append_right (by simp)]
  simpa using h
theorem allocs_below : ∀ (os : List Obj) {B : Nat} {w0 w : World}, Below B w0 w → B ≤ w.heap.size → Below B w0 (os.foldl World.alloc w)
  | [], _, _, _, h, _ => h
  | o :: os, _, _, w, h, hB => allocs_below os (h.alloc hB o) (by simp; omega)
theorem allocs_ints (os : List Obj) (w : World) {k : Nat} (zs : List Int) (h : os[k]? = some (.cells (Rw.row kindI zs).toArray 3)) : Rw.Ts kindI (os.foldl World.alloc w) (some ⟨w.heap.size + k, 0, none⟩) zs := Rw.Ts.of_row (t := 3) (allocs_at os w h)
theorem allocs_nodes (os : List Obj) (w : World) {k : Nat} (l : List Gn) (h : os[k]? = some (.cells (Rw.row kindG l).toArray 35)) : Rw.Ts kindG (os.foldl World.alloc w) (some ⟨w.heap.size + k, 0, none⟩) l := Rw.Ts.of_row (t := 35) (allocs_at os w h)
theorem ok_small (k a : Nat) (b d : Int) (ins : List Int) (A : Option Addr) (c : Nat) (h : (k < 256 ∧ a < 256 ∧ -100 ≤ b ∧ b ≤ 100 ∧ -100 ≤ d ∧ d ≤ 100 ∧ ins.length ≤ c ∧ c ≤ 10) ∧ ∀ z ∈ ins, -100 ≤ z ∧ z ≤ 100) (hA : A = none → c = 0) : Gn.Ok ⟨⟨k, a, b, d, ins⟩, A, c⟩ := by
  have h1 : -9223372036854775808 ≤ b ∧ b ≤ 9223372036854775807 := by have := h.1; omega
  have h2 : -9223372036854775808 ≤ d ∧ d ≤ 9223372036854775807 := by have := h.1; omega
  have h3 : ∀ z ∈ ins, -9223372036854775808 ≤ z ∧ z ≤ 9223372036854775807 := fun z hz => by have := h.2 z hz; omega
  have h4 : ins.length ≤ c ∧ c ≤ maxLen := by have := h.1; unfold maxLen; omega
  exact ⟨h.1.1, h.1.2.1, h1, h2, h3, h4, hA⟩
end

section
open Go.ChangeShapes Go.WideShapes Go.ChangeAt Go.RowKit Go.BigFrame
set_option maxRecDepth 100000
abbrev laidT : List (String × DataW Unit) := [("math/bits.deBruijn32tab", Rows.laid_math_bits_deBruijn32tab)]
def tzInts : List Int := [0, 1, 28, 2, 29, 14, 24, 3, 30, 22, 20, 15, 25, 17, 4, 8, 31, 27, 13, 23, 21, 19, 16, 7, 26, 12, 18, 6, 11, 5, 10, 9]
theorem tz_ints : ∀ i, i < 32 → tzInts.getD i 0 = ((tzTab.getD i 0 : Nat) : Int) := by decide
theorem gTab : Tryz.prog.globalNamed "math/bits.deBruijn32tab" = some 0 := by kernel_rfl
theorem tTab : (Tryz.prog.globals[0]?).map (·.type) = some 174 := by kernel_rfl
theorem cTab : Tryz.prog.cellsOf 174 = 32 := by kernel_rfl
theorem tab_of_laid {W : World} (h : laidMetH Tryz.prog laidT W) : Tab W := by
  rw [MakeChecks.laidMetH_plain _ _ _ (by kernel_rfl)] at h
  have hT : Lib.TabIs Tryz.prog W "math/bits.deBruijn32tab" .u8 tzInts := Lib.tabIs_of_head gTab tTab Tryz.underlying174 Tryz.underlying5 cells_u8 cTab h
  intro i hi
  rw [hT.cell gTab i hi, tz_ints i hi]
theorem door_met (os : Os) (args : Array Value) : laidMetH Tryz.prog laidT ((World.doorLaid Tryz.prog 400 os).forCall (fun _ _ => 0) ⟨#[], args, []⟩).memory :=
  laidMetH_of_parts3 (fuel := 8) (laidMet_of_run' 8 (by kernel_rfl) (by kernel_rfl)) (by kernel_rfl) (by kernel_rfl)
end
end Go.Proofs.YtmhophmpbpbjaaaGreatDoor
