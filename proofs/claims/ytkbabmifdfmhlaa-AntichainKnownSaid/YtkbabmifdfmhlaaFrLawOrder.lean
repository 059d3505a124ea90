/- AntichainOrder, the stage's theorem: Within is a partial order of frontiers, Both the greatest that is within both, Either the least that both are within; times are in them just so; for all times, at most 12 in a row. -/
import Derived.Test.YtkbabmifdfmhlaaFrSlc
namespace Go.Proofs.Ytkbabmifdfmhlaa
open Go.ChangeShapes Go.WideShapes Go.ChangeAt Go.RowKit Go.BigFrame Go.Shelf
set_option linter.unusedVariables false
set_option maxRecDepth 100000
namespace antichainOrder
theorem mul_le {a b k m n : Nat} (h : a ≤ k) (j : b ≤ m) (hn : k * m ≤ n) : a * b ≤ n := Nat.le_trans (Nat.mul_le_mul h j) hn
theorem good {v : Bool} {l x : List St} (h : ifS v l = x ∧ errS v = 0) : v = true ∧ x = l := by
  cases v with
  | true => exact ⟨rfl, h.1.symm⟩
  | false => have := h.2; simp [errS] at this
section
variable {x y z p q : List St} {t : St}
/-- what the first test asks -/
structure One (xy yx yz xz s : Bool) : Prop where
  anti : xy = true → yx = true → s = true
  trans : xy = true → yz = true → xz = true
theorem under_self (h : Fr x) : Under x x := ⟨alike_self h, In_refl h⟩
theorem one (A1 : Alike x y) (A2 : Alike x z) (A3 : Alike y z) : One (decide (Under x y)) (decide (Under y x)) (decide (Under y z)) (decide (Under x z)) (decide (x = y)) := by
  constructor
  · intro h1 h2
    rw [decide_eq_true_iff] at *
    exact In_antisymm A1.1 A1.2.1 h1.2 h2.2
  · intro h1 h2
    rw [decide_eq_true_iff] at *
    exact ⟨A2, In_trans A1.2.1 h1.2 h2.2⟩
theorem fr_al (A1 : Alike x y) : Alike x x ∧ Alike y y := ⟨alike_self A1.1, alike_self A1.2.1⟩
theorem u1 (A1 : Alike x y) : Under (bothS x y) x := ⟨alike_both A1 (alike_self A1.1) A1.swap, (both_in A1).1⟩
theorem u2 (A1 : Alike x y) : Under (bothS x y) y := ⟨alike_both A1 A1 (alike_self A1.2.1), (both_in A1).2⟩
theorem u3 (A1 : Alike x y) : Under x (eitherS x y) := ⟨(alike_either A1 (alike_self A1.1)).swap, (in_either A1).1⟩
theorem u4 (A1 : Alike x y) : Under y (eitherS x y) := by
  refine ⟨?_, (in_either A1).2⟩
  exact (alike_either A1 A1).swap
theorem three (A1 : Alike x y) (A2 : Alike x z) (A3 : Alike y z) : decide (Under z (bothS x y)) = (decide (Under z x) && decide (Under z y)) := by
  rw [Bool.eq_iff_iff]
  simp only [Bool.and_eq_true, decide_eq_true_iff]
  constructor
  · intro h
    have := (both_greatest A1).1 h.2
    exact ⟨⟨A2.swap, this.1⟩, ⟨A3.swap, this.2⟩⟩
  · intro h
    exact ⟨(alike_both A1 A2 A3).swap, (both_greatest A1).2 ⟨h.1.2, h.2.2⟩⟩
theorem four (A1 : Alike x y) (A2 : Alike x z) (A3 : Alike y z) : decide (Under (eitherS x y) z) = (decide (Under x z) && decide (Under y z)) := by
  rw [Bool.eq_iff_iff]
  simp only [Bool.and_eq_true, decide_eq_true_iff]
  constructor
  · intro h
    have := (either_least A1 A2.2.1).1 h.2
    exact ⟨⟨A2, this.1⟩, ⟨A3, this.2⟩⟩
  · intro h
    exact ⟨alike_either A1 A2, (either_least A1 A2.2.1).2 ⟨h.1.2, h.2.2⟩⟩
/-- of a time of the frontier's depth -/
theorem inside_iff (hf : Fr x) (hd : ∀ u ∈ x, u.d = t.d) : Inside x t ↔ t.R ∧ ¬ Up x t := by
  unfold Inside Alike
  constructor
  · rintro ⟨⟨_, h, _⟩, h2⟩; exact ⟨h.right t (by simp), h2⟩
  · rintro ⟨h, h2⟩; exact ⟨⟨hf, fr_one h, fun u hu v hv => by rw [List.mem_singleton] at hv; rw [hv]; exact hd u hu⟩, h2⟩
theorem depth_of {u v : St} (A1 : Alike x y) (hu : u ∈ x) (hv : v ∈ y) (ht : t.d = u.d) : (∀ i ∈ x, i.d = t.d) ∧ (∀ i ∈ y, i.d = t.d) ∧ (∀ i ∈ bothS x y, i.d = t.d) ∧ ∀ i ∈ eitherS x y, i.d = t.d := by
  have hx : ∀ i ∈ x, i.d = t.d := fun i hi => (A1.1.depth i hi u hu).trans ht.symm
  have hy : ∀ i ∈ y, i.d = t.d := fun i hi => (A1.2.2 u hu i hi).symm.trans ht.symm
  refine ⟨hx, hy, fun i hi => ?_, fun i hi => ?_⟩
  · rcases mem_both_depth hi with h | h
    · exact hx i h
    · exact hy i h
  · obtain ⟨⟨j, hj, e⟩, _⟩ := mem_either_depth A1 hi
    rw [← e]; exact hx j hj
/-- what the last test asks -/
structure Five (xy i j pt qt : Bool) : Prop where
  p : pt = (i && j)
  q : qt = (i || j)
  mono : xy = true → i = true → j = true
theorem five {u v : St} (A1 : Alike x y) (hu : u ∈ x) (hv : v ∈ y) (ht : t.d = u.d) : Five (decide (Under x y)) (decide (Inside x t)) (decide (Inside y t)) (decide (Inside (bothS x y) t)) (decide (Inside (eitherS x y) t)) := by
  obtain ⟨dx, dy, dp, dq⟩ := depth_of A1 hu hv ht
  have e1 := inside_iff A1.1 dx
  have e2 := inside_iff A1.2.1 dy
  have e3 := inside_iff (both_fr A1) dp
  have e4 := inside_iff (either_fr A1) dq
  rw [both_up A1] at e3
  rw [either_up A1] at e4
  refine ⟨?_, ?_, ?_⟩
  · rw [Bool.eq_iff_iff]
    simp only [Bool.and_eq_true, decide_eq_true_iff, e1, e2, e3]
    constructor
    · rintro ⟨h1, h2⟩; exact ⟨⟨h1, fun h => h2 (.inl h)⟩, ⟨h1, fun h => h2 (.inr h)⟩⟩
    · rintro ⟨⟨h1, h2⟩, ⟨_, h3⟩⟩; exact ⟨h1, fun h => h.elim h2 h3⟩
  · rw [Bool.eq_iff_iff]
    simp only [Bool.or_eq_true, decide_eq_true_iff, e1, e2, e4]
    constructor
    · rintro ⟨h1, h2⟩
      by_cases h : Up x t
      · exact .inr ⟨h1, fun k => h2 ⟨h, k⟩⟩
      · exact .inl ⟨h1, h⟩
    · rintro (⟨h1, h2⟩ | ⟨h1, h2⟩)
      · exact ⟨h1, fun h => h2 h.1⟩
      · exact ⟨h1, fun h => h2 h.2⟩
  · intro h1 h2
    rw [decide_eq_true_iff] at *
    rw [e1] at h2
    rw [e2]
    refine ⟨h2.1, fun ⟨k, hk, hl⟩ => h2.2 ?_⟩
    exact (h1.2 k hk).mono hl
end
set_option maxRecDepth 100000 in
set_option maxHeartbeats 32000000 in
theorem walk (A B C : Option Addr) (a b c : List St) (ca cb cc : Nat) (t : St) (w : World) (hA : Slc w A ca a) (hB : Slc w B cb b) (hC : Slc w C cc c) :
    Calls Try.prog 29 #[.slice A a.length ca, .slice B b.length cb, .slice C c.length cc, t.val] w fun e w' => e = .returned (.bool true) ∧ Below w.heap.size w w' := by
  have hbt := (Below.refl w.heap.size w).alloc (Nat.le_refl _) (.cells #[.int .i64 t.d, .int .i64 t.e, .int .i64 t.x, .int .i64 t.y, .int .i64 t.z] 25)
  have hx := Holds.made w t
  have hA1 := hA.below hbt; have hB1 := hB.below hbt; have hC1 := hC.below hbt
  clear hA hB hC
  have WW := Lib.hid works_any
  have Hbx := Lib.hid hx; have Ha := Lib.hid hA1; have Hb := Lib.hid hB1; have Hc := Lib.hid hC1; have HBW := Lib.hid hbt
  clear hx hA1 hB1 hC1 hbt
  unfold St.val at *
  by_cases la : 12 < a.length
  · have da : decide ((a.length : Int) > 12) = true := decide_eq_true (by omega)
    go_enter Try.func29, Try.ntmps29
    go_wp2_with fail
    refine (WW.out _).mono ?_; rintro e we ⟨rfl, hbe⟩
    go_wp2_with fail
    go_ret
    exact ⟨rfl, HBW.out.trans (hbe.mono HBW.out.size)⟩
  have da : decide ((a.length : Int) > 12) = false := decide_eq_false (by omega)
  by_cases lb : 12 < b.length
  · have db : decide ((b.length : Int) > 12) = true := decide_eq_true (by omega)
    go_enter Try.func29, Try.ntmps29
    go_wp2_with fail
    refine (WW.out _).mono ?_; rintro e we ⟨rfl, hbe⟩
    go_wp2_with fail
    go_ret
    exact ⟨rfl, HBW.out.trans (hbe.mono HBW.out.size)⟩
  have db : decide ((b.length : Int) > 12) = false := decide_eq_false (by omega)
  by_cases lc : 12 < c.length
  · have dc : decide ((c.length : Int) > 12) = true := decide_eq_true (by omega)
    go_enter Try.func29, Try.ntmps29
    go_wp2_with fail
    refine (WW.out _).mono ?_; rintro e we ⟨rfl, hbe⟩
    go_wp2_with fail
    go_ret
    exact ⟨rfl, HBW.out.trans (hbe.mono HBW.out.size)⟩
  have dc : decide ((c.length : Int) > 12) = false := decide_eq_false (by omega)
  have LN := Lib.hid (And.intro (Nat.not_lt.1 la) (And.intro (Nat.not_lt.1 lb) (Nat.not_lt.1 lc)))
  go_enter Try.func29, Try.ntmps29
  go_wp2_with fail
  clear la lb lc da db dc
  generalize w.alloc (.cells #[.int .i64 t.d, .int .i64 t.e, .int .i64 t.x, .int .i64 t.y, .int .i64 t.z] 25) = w0 at *
  have k := ofC Ha.out (by have := LN.out; omega)
  obtain ⟨x, hp⟩ : ∃ p, ifS (decide (Even a)) (ofS a) = p := ⟨_, rfl⟩
  obtain ⟨ex, hep⟩ : ∃ n, errS (decide (Even a)) = n := ⟨_, rfl⟩
  rw [hp, hep] at k
  have Lx := Lib.hid (show x.length ≤ 12 by rw [← hp]; exact ifS_len (by have := ofS_len a; have := LN.out; omega))
  have Ex := Lib.hid (And.intro hp hep); have K := Lib.hid k; clear k hp hep
  refine (K.out).mono ?_; rintro e v1 ⟨⟨Ax, cx, rfl, hs⟩, hb⟩
  have ha := Ha.out.below hb; clear Ha; have Ha := Lib.hid ha; clear ha
  have hb := Hb.out.below hb; clear Hb; have Hb := Lib.hid hb; clear hb
  have hc := Hc.out.below hb; clear Hc; have Hc := Lib.hid hc; clear hc
  have hbx := Hbx.out.below hb; clear Hbx; have Hbx := Lib.hid hbx; clear hbx
  have hbw := HBW.out.trans (hb.mono HBW.out.size); clear HBW hb; have HBW := Lib.hid hbw; clear hbw
  have Hx := Lib.hid hs; clear hs K
  dsimp only
  go_wp2_with fail
  have k := ofC Hb.out (by have := LN.out; omega)
  obtain ⟨y, hp⟩ : ∃ p, ifS (decide (Even b)) (ofS b) = p := ⟨_, rfl⟩
  obtain ⟨ey, hep⟩ : ∃ n, errS (decide (Even b)) = n := ⟨_, rfl⟩
  rw [hp, hep] at k
  have Ly := Lib.hid (show y.length ≤ 12 by rw [← hp]; exact ifS_len (by have := ofS_len b; have := LN.out; omega))
  have Ey := Lib.hid (And.intro hp hep); have K := Lib.hid k; clear k hp hep
  refine (K.out).mono ?_; rintro e v2 ⟨⟨Ay, cy, rfl, hs⟩, hb⟩
  have ha := Ha.out.below hb; clear Ha; have Ha := Lib.hid ha; clear ha
  have hb := Hb.out.below hb; clear Hb; have Hb := Lib.hid hb; clear hb
  have hc := Hc.out.below hb; clear Hc; have Hc := Lib.hid hc; clear hc
  have hx := Hx.out.below hb; clear Hx; have Hx := Lib.hid hx; clear hx
  have hbx := Hbx.out.below hb; clear Hbx; have Hbx := Lib.hid hbx; clear hbx
  have hbw := HBW.out.trans (hb.mono HBW.out.size); clear HBW hb; have HBW := Lib.hid hbw; clear hbw
  have Hy := Lib.hid hs; clear hs K
  dsimp only
  go_wp2_with fail
  have k := ofC Hc.out (by have := LN.out; omega)
  obtain ⟨z, hp⟩ : ∃ p, ifS (decide (Even c)) (ofS c) = p := ⟨_, rfl⟩
  obtain ⟨ez, hep⟩ : ∃ n, errS (decide (Even c)) = n := ⟨_, rfl⟩
  rw [hp, hep] at k
  have Lz := Lib.hid (show z.length ≤ 12 by rw [← hp]; exact ifS_len (by have := ofS_len c; have := LN.out; omega))
  have Ez := Lib.hid (And.intro hp hep); have K := Lib.hid k; clear k hp hep
  refine (K.out).mono ?_; rintro e v3 ⟨⟨Az, cz, rfl, hs⟩, hb⟩
  have ha := Ha.out.below hb; clear Ha; have Ha := Lib.hid ha; clear ha
  have hb := Hb.out.below hb; clear Hb; have Hb := Lib.hid hb; clear hb
  have hc := Hc.out.below hb; clear Hc; have Hc := Lib.hid hc; clear hc
  have hx := Hx.out.below hb; clear Hx; have Hx := Lib.hid hx; clear hx
  have hy := Hy.out.below hb; clear Hy; have Hy := Lib.hid hy; clear hy
  have hbx := Hbx.out.below hb; clear Hbx; have Hbx := Lib.hid hbx; clear hbx
  have hbw := HBW.out.trans (hb.mono HBW.out.size); clear HBW hb; have HBW := Lib.hid hbw; clear hbw
  have Hz := Lib.hid hs; clear hs K
  dsimp only
  go_wp2_with fail
  have k := bothC Hx.out Hy.out (by have := Lx.out; omega) (by have := Ly.out; omega)
  obtain ⟨p, hp⟩ : ∃ p, ifS (decide (Alike x y)) (bothS x y) = p := ⟨_, rfl⟩
  obtain ⟨ep, hep⟩ : ∃ n, errS (decide (Alike x y)) = n := ⟨_, rfl⟩
  rw [hp, hep] at k
  have Lp := Lib.hid (show p.length ≤ 24 by rw [← hp]; exact ifS_len (by have := ofS_len (x ++ y); rw [List.length_append] at this; have := Lx.out; have := Ly.out; unfold bothS; omega))
  have Ep := Lib.hid (And.intro hp hep); have K := Lib.hid k; clear k hp hep
  refine (K.out).mono ?_; rintro e v4 ⟨⟨Ap, cp, rfl, hs⟩, hb⟩
  have ha := Ha.out.below hb; clear Ha; have Ha := Lib.hid ha; clear ha
  have hb := Hb.out.below hb; clear Hb; have Hb := Lib.hid hb; clear hb
  have hc := Hc.out.below hb; clear Hc; have Hc := Lib.hid hc; clear hc
  have hx := Hx.out.below hb; clear Hx; have Hx := Lib.hid hx; clear hx
  have hy := Hy.out.below hb; clear Hy; have Hy := Lib.hid hy; clear hy
  have hz := Hz.out.below hb; clear Hz; have Hz := Lib.hid hz; clear hz
  have hbx := Hbx.out.below hb; clear Hbx; have Hbx := Lib.hid hbx; clear hbx
  have hbw := HBW.out.trans (hb.mono HBW.out.size); clear HBW hb; have HBW := Lib.hid hbw; clear hbw
  have Hp := Lib.hid hs; clear hs K
  dsimp only
  go_wp2_with fail
  have k := eitherC Hx.out Hy.out (by have := Lx.out; omega) (by have := Ly.out; omega) (mul_le Lx.out Ly.out (by omega))
  obtain ⟨q, hp⟩ : ∃ p, ifS (decide (Alike x y)) (eitherS x y) = p := ⟨_, rfl⟩
  obtain ⟨eq, hep⟩ : ∃ n, errS (decide (Alike x y)) = n := ⟨_, rfl⟩
  rw [hp, hep] at k
  have Lq := Lib.hid (show q.length ≤ 144 by rw [← hp]; exact ifS_len (by have := ofS_len (pairsS x y); rw [pairs_len] at this; have := mul_le (n := 144) Lx.out Ly.out (by omega); unfold eitherS; omega))
  have Eq := Lib.hid (And.intro hp hep); have K := Lib.hid k; clear k hp hep
  refine (K.out).mono ?_; rintro e v5 ⟨⟨Aq, cq, rfl, hs⟩, hb⟩
  have ha := Ha.out.below hb; clear Ha; have Ha := Lib.hid ha; clear ha
  have hb := Hb.out.below hb; clear Hb; have Hb := Lib.hid hb; clear hb
  have hc := Hc.out.below hb; clear Hc; have Hc := Lib.hid hc; clear hc
  have hx := Hx.out.below hb; clear Hx; have Hx := Lib.hid hx; clear hx
  have hy := Hy.out.below hb; clear Hy; have Hy := Lib.hid hy; clear hy
  have hz := Hz.out.below hb; clear Hz; have Hz := Lib.hid hz; clear hz
  have hp := Hp.out.below hb; clear Hp; have Hp := Lib.hid hp; clear hp
  have hbx := Hbx.out.below hb; clear Hbx; have Hbx := Lib.hid hbx; clear hbx
  have hbw := HBW.out.trans (hb.mono HBW.out.size); clear HBW hb; have HBW := Lib.hid hbw; clear hbw
  have Hq := Lib.hid hs; clear hs K
  dsimp only
  go_wp2_with fail
  have k := bothC Hx.out Hz.out (by have := Lx.out; omega) (by have := Lz.out; omega)
  obtain ⟨r, hp⟩ : ∃ p, ifS (decide (Alike x z)) (bothS x z) = p := ⟨_, rfl⟩
  obtain ⟨er, hep⟩ : ∃ n, errS (decide (Alike x z)) = n := ⟨_, rfl⟩
  rw [hp, hep] at k
  have Lr := Lib.hid (show r.length ≤ 24 by rw [← hp]; exact ifS_len (by have := ofS_len (x ++ z); rw [List.length_append] at this; have := Lx.out; have := Lz.out; unfold bothS; omega))
  have Er := Lib.hid (And.intro hp hep); have K := Lib.hid k; clear k hp hep
  refine (K.out).mono ?_; rintro e v6 ⟨⟨Ar, cr, rfl, hs⟩, hb⟩
  have ha := Ha.out.below hb; clear Ha; have Ha := Lib.hid ha; clear ha
  have hb := Hb.out.below hb; clear Hb; have Hb := Lib.hid hb; clear hb
  have hc := Hc.out.below hb; clear Hc; have Hc := Lib.hid hc; clear hc
  have hx := Hx.out.below hb; clear Hx; have Hx := Lib.hid hx; clear hx
  have hy := Hy.out.below hb; clear Hy; have Hy := Lib.hid hy; clear hy
  have hz := Hz.out.below hb; clear Hz; have Hz := Lib.hid hz; clear hz
  have hp := Hp.out.below hb; clear Hp; have Hp := Lib.hid hp; clear hp
  have hq := Hq.out.below hb; clear Hq; have Hq := Lib.hid hq; clear hq
  have hbx := Hbx.out.below hb; clear Hbx; have Hbx := Lib.hid hbx; clear hbx
  have hbw := HBW.out.trans (hb.mono HBW.out.size); clear HBW hb; have HBW := Lib.hid hbw; clear hbw
  have Hr := Lib.hid hs; clear hs K
  dsimp only
  go_wp2_with fail
  have k := bothC Hy.out Hz.out (by have := Ly.out; omega) (by have := Lz.out; omega)
  obtain ⟨s, hp⟩ : ∃ p, ifS (decide (Alike y z)) (bothS y z) = p := ⟨_, rfl⟩
  obtain ⟨es, hep⟩ : ∃ n, errS (decide (Alike y z)) = n := ⟨_, rfl⟩
  rw [hp, hep] at k
  have Ls := Lib.hid (show s.length ≤ 24 by rw [← hp]; exact ifS_len (by have := ofS_len (y ++ z); rw [List.length_append] at this; have := Ly.out; have := Lz.out; unfold bothS; omega))
  have Es := Lib.hid (And.intro hp hep); have K := Lib.hid k; clear k hp hep
  refine (K.out).mono ?_; rintro e v7 ⟨⟨As, cs, rfl, hs⟩, hb⟩
  have ha := Ha.out.below hb; clear Ha; have Ha := Lib.hid ha; clear ha
  have hb := Hb.out.below hb; clear Hb; have Hb := Lib.hid hb; clear hb
  have hc := Hc.out.below hb; clear Hc; have Hc := Lib.hid hc; clear hc
  have hx := Hx.out.below hb; clear Hx; have Hx := Lib.hid hx; clear hx
  have hy := Hy.out.below hb; clear Hy; have Hy := Lib.hid hy; clear hy
  have hz := Hz.out.below hb; clear Hz; have Hz := Lib.hid hz; clear hz
  have hp := Hp.out.below hb; clear Hp; have Hp := Lib.hid hp; clear hp
  have hq := Hq.out.below hb; clear Hq; have Hq := Lib.hid hq; clear hq
  have hr := Hr.out.below hb; clear Hr; have Hr := Lib.hid hr; clear hr
  have hbx := Hbx.out.below hb; clear Hbx; have Hbx := Lib.hid hbx; clear hbx
  have hbw := HBW.out.trans (hb.mono HBW.out.size); clear HBW hb; have HBW := Lib.hid hbw; clear hbw
  have Hs := Lib.hid hs; clear hs K
  dsimp only
  go_upto_region 10 with fail
  by_cases zx : ex = 0
  case neg =>
    have dx : (ex != 0) = true := by simpa using zx
    clear zx
    go_wp2_with fail
    refine (WW.out _).mono ?_; rintro e we ⟨rfl, hbe⟩
    go_wp2_with fail
    go_ret
    exact ⟨rfl, HBW.out.trans (hbe.mono HBW.out.size)⟩
  subst zx
  by_cases zy : ey = 0
  case neg =>
    have dy : (ey != 0) = true := by simpa using zy
    clear zy
    go_wp2_with fail
    refine (WW.out _).mono ?_; rintro e we ⟨rfl, hbe⟩
    go_wp2_with fail
    go_ret
    exact ⟨rfl, HBW.out.trans (hbe.mono HBW.out.size)⟩
  subst zy
  by_cases zz : ez = 0
  case neg =>
    have dz : (ez != 0) = true := by simpa using zz
    clear zz
    go_wp2_with fail
    refine (WW.out _).mono ?_; rintro e we ⟨rfl, hbe⟩
    go_wp2_with fail
    go_ret
    exact ⟨rfl, HBW.out.trans (hbe.mono HBW.out.size)⟩
  subst zz
  by_cases zp : ep = 0
  case neg =>
    have dp : (ep != 0) = true := by simpa using zp
    clear zp
    go_wp2_with fail
    refine (WW.out _).mono ?_; rintro e we ⟨rfl, hbe⟩
    go_wp2_with fail
    go_ret
    exact ⟨rfl, HBW.out.trans (hbe.mono HBW.out.size)⟩
  subst zp
  by_cases zr : er = 0
  case neg =>
    have dr : (er != 0) = true := by simpa using zr
    clear zr
    go_wp2_with fail
    refine (WW.out _).mono ?_; rintro e we ⟨rfl, hbe⟩
    go_wp2_with fail
    go_ret
    exact ⟨rfl, HBW.out.trans (hbe.mono HBW.out.size)⟩
  subst zr
  by_cases zs : es = 0
  case neg =>
    have ds : (es != 0) = true := by simpa using zs
    clear zs
    go_wp2_with fail
    refine (WW.out _).mono ?_; rintro e we ⟨rfl, hbe⟩
    go_wp2_with fail
    go_ret
    exact ⟨rfl, HBW.out.trans (hbe.mono HBW.out.size)⟩
  subst zs
  have hx := good Ex.out; have hy := good Ey.out; have hz := good Ez.out; have hp := good Ep.out; have hr := good Er.out; have hs := good Es.out; have hq := Eq.out
  have A1 : Alike x y := of_decide_eq_true hp.1
  have A2 : Alike x z := of_decide_eq_true hr.1
  have A3 : Alike y z := of_decide_eq_true hs.1
  rw [decide_eq_true A1] at hq
  obtain ⟨hq1, hq2⟩ := hq
  have hq1 : eitherS x y = q := hq1
  have hq2 : (0 : Int) = eq := hq2
  subst hq2
  have hp1 := hp.2
  subst hp1; subst hq1
  clear hx hy hz hp hr hs Ex Ey Ez Ep Er Es Eq Ha Hb Hc Hr Hs Lr Ls LN
  have o1 := one A1 A2 A3
  have o3 := three A1 A2 A3
  have o4 := four A1 A2 A3
  have lx := Lx.out; have ly := Ly.out; have lz := Lz.out; have lp := Lp.out; have lq := Lq.out
  have Wxx := Lib.hid (withinW Hx.out Hx.out (by omega) (by omega) (decide_eq_true (under_self A1.1)))
  have Wpx := Lib.hid (withinW Hp.out Hx.out (by omega) (by omega) (decide_eq_true (u1 A1)))
  have Wpy := Lib.hid (withinW Hp.out Hy.out (by omega) (by omega) (decide_eq_true (u2 A1)))
  have Wxq := Lib.hid (withinW Hx.out Hq.out (by omega) (by omega) (decide_eq_true (u3 A1)))
  have Wyq := Lib.hid (withinW Hy.out Hq.out (by omega) (by omega) (decide_eq_true (u4 A1)))
  have Wxy := Lib.hid (withinW Hx.out Hy.out (by omega) (by omega) rfl)
  have Wyx := Lib.hid (withinW Hy.out Hx.out (by omega) (by omega) rfl)
  have Wyz := Lib.hid (withinW Hy.out Hz.out (by omega) (by omega) rfl)
  have Wxz := Lib.hid (withinW Hx.out Hz.out (by omega) (by omega) rfl)
  have Wzx := Lib.hid (withinW Hz.out Hx.out (by omega) (by omega) rfl)
  have Wzy := Lib.hid (withinW Hz.out Hy.out (by omega) (by omega) rfl)
  have Wzp := Lib.hid (withinW Hz.out Hp.out (by omega) (by omega) o3)
  have Wqz := Lib.hid (withinW Hq.out Hz.out (by omega) (by omega) o4)
  have Wsa := Lib.hid (sameW Hx.out Hy.out (by omega) (by omega) rfl)
  have Wi := Lib.hid (holdsW (t := t) Hx.out (by omega) rfl)
  have Wj := Lib.hid (holdsW (t := t) Hy.out (by omega) rfl)
  have Wpt := Lib.hid (holdsW (t := t) Hp.out (by omega) rfl)
  have Wqt := Lib.hid (holdsW (t := t) Hq.out (by omega) rfl)
  clear o3 o4 lx ly lz lp lq
  have o5 := fun u v hu hv ht => five (t := t) (u := u) (v := v) A1 hu hv ht
  generalize decide (Under x y) = xy at *
  generalize decide (Under y x) = yx at *
  generalize decide (Under y z) = yz at *
  generalize decide (Under x z) = xz at *
  generalize decide (Under z x) = zx at *
  generalize decide (Under z y) = zy at *
  generalize decide (x = y) = sa at *
  generalize decide (Inside x t) = bi at *
  generalize decide (Inside y t) = bj at *
  generalize decide (Inside (bothS x y) t) = bp at *
  generalize decide (Inside (eitherS x y) t) = bq at *
  have O1 := Lib.hid o1; have O5 := Lib.hid o5; clear o1 o5 A1 A2 A3
  unfold St.val at *
  have hq : Below v7.heap.size v7 v7 := Below.refl _ _
  go_wp2_with fail
  refine (Wxy.out _ hq).mono ?_; rintro e wn ⟨rfl, hbq⟩
  replace hq := hq.trans (hbq.mono hq.size); clear hbq
  go_wp2_with fail
  refine (Wyx.out _ hq).mono ?_; rintro e wn ⟨rfl, hbq⟩
  replace hq := hq.trans (hbq.mono hq.size); clear hbq
  go_wp2_with fail
  refine (Wyz.out _ hq).mono ?_; rintro e wn ⟨rfl, hbq⟩
  replace hq := hq.trans (hbq.mono hq.size); clear hbq
  go_wp2_with fail
  refine (Wxz.out _ hq).mono ?_; rintro e wn ⟨rfl, hbq⟩
  replace hq := hq.trans (hbq.mono hq.size); clear hbq
  go_upto_region 13 with fail
  go_cut [146] from 117 to 146 (fun s wx => s = .bool false ∧ Below v7.heap.size v7 wx)
  case first =>
    cases xy with
    | true =>
      cases yx with
      | true =>
        have hsa := O1.out.anti rfl rfl
        rw [hsa] at Wsa; clear hsa
        cases yz with
        | true =>
          have hxz := O1.out.trans rfl rfl
          subst hxz
          go_wp2_with fail
          refine (Wxx.out _ hq).mono ?_; rintro e wn ⟨rfl, hbq⟩
          replace hq := hq.trans (hbq.mono hq.size); clear hbq
          go_wp2_with fail
          refine (Wsa.out _ hq).mono ?_; rintro e wn ⟨rfl, hbq⟩
          replace hq := hq.trans (hbq.mono hq.size); clear hbq
          go_wp2_with fail
          go_meet
          exact ⟨rfl, hq⟩
        | false =>
          go_wp2_with fail
          refine (Wxx.out _ hq).mono ?_; rintro e wn ⟨rfl, hbq⟩
          replace hq := hq.trans (hbq.mono hq.size); clear hbq
          go_wp2_with fail
          refine (Wsa.out _ hq).mono ?_; rintro e wn ⟨rfl, hbq⟩
          replace hq := hq.trans (hbq.mono hq.size); clear hbq
          go_wp2_with fail
          go_meet
          exact ⟨rfl, hq⟩
      | false =>
        cases yz with
        | true =>
          have hxz := O1.out.trans rfl rfl
          subst hxz
          go_wp2_with fail
          refine (Wxx.out _ hq).mono ?_; rintro e wn ⟨rfl, hbq⟩
          replace hq := hq.trans (hbq.mono hq.size); clear hbq
          go_wp2_with fail
          go_meet
          exact ⟨rfl, hq⟩
        | false =>
          go_wp2_with fail
          refine (Wxx.out _ hq).mono ?_; rintro e wn ⟨rfl, hbq⟩
          replace hq := hq.trans (hbq.mono hq.size); clear hbq
          go_wp2_with fail
          go_meet
          exact ⟨rfl, hq⟩
    | false =>
      go_wp2_with fail
      refine (Wxx.out _ hq).mono ?_; rintro e wn ⟨rfl, hbq⟩
      replace hq := hq.trans (hbq.mono hq.size); clear hbq
      go_wp2_with fail
      go_meet
      exact ⟨rfl, hq⟩
  case rest =>
    obtain ⟨rfl, hq2⟩ := hcut
    replace hq := hq2; clear hq2
    go_upto_region 15 with fail
    go_cut [168] from 147 to 168 (fun s wx => s = .bool false ∧ Below v7.heap.size v7 wx)
    case first =>
      go_wp2_with fail
      refine (Wpx.out _ hq).mono ?_; rintro e wn ⟨rfl, hbq⟩
      replace hq := hq.trans (hbq.mono hq.size); clear hbq
      go_wp2_with fail
      refine (Wpy.out _ hq).mono ?_; rintro e wn ⟨rfl, hbq⟩
      replace hq := hq.trans (hbq.mono hq.size); clear hbq
      go_wp2_with fail
      refine (Wxq.out _ hq).mono ?_; rintro e wn ⟨rfl, hbq⟩
      replace hq := hq.trans (hbq.mono hq.size); clear hbq
      go_wp2_with fail
      refine (Wyq.out _ hq).mono ?_; rintro e wn ⟨rfl, hbq⟩
      replace hq := hq.trans (hbq.mono hq.size); clear hbq
      go_wp2_with fail
      go_meet
      exact ⟨rfl, hq⟩
    case rest =>
      obtain ⟨rfl, hq2⟩ := hcut
      replace hq := hq2; clear hq2
      go_upto_region 17 with fail
      go_cut [190] from 169 to 190 (fun s wx => s = .bool false ∧ Below v7.heap.size v7 wx)
      case first =>
        cases zx with
        | true =>
          cases zy with
          | true =>
            cases xz with
            | true =>
              cases yz with
              | true =>
                simp only [Bool.and_true, Bool.and_false, Bool.true_and, Bool.false_and] at Wzp Wqz
                go_wp2_with fail
                refine (Wzp.out _ hq).mono ?_; rintro e wn ⟨rfl, hbq⟩
                replace hq := hq.trans (hbq.mono hq.size); clear hbq
                go_wp2_with fail
                refine (Wzx.out _ hq).mono ?_; rintro e wn ⟨rfl, hbq⟩
                replace hq := hq.trans (hbq.mono hq.size); clear hbq
                go_wp2_with fail
                refine (Wzy.out _ hq).mono ?_; rintro e wn ⟨rfl, hbq⟩
                replace hq := hq.trans (hbq.mono hq.size); clear hbq
                go_wp2_with fail
                refine (Wqz.out _ hq).mono ?_; rintro e wn ⟨rfl, hbq⟩
                replace hq := hq.trans (hbq.mono hq.size); clear hbq
                go_wp2_with fail
                go_meet
                exact ⟨rfl, hq⟩
              | false =>
                simp only [Bool.and_true, Bool.and_false, Bool.true_and, Bool.false_and] at Wzp Wqz
                go_wp2_with fail
                refine (Wzp.out _ hq).mono ?_; rintro e wn ⟨rfl, hbq⟩
                replace hq := hq.trans (hbq.mono hq.size); clear hbq
                go_wp2_with fail
                refine (Wzx.out _ hq).mono ?_; rintro e wn ⟨rfl, hbq⟩
                replace hq := hq.trans (hbq.mono hq.size); clear hbq
                go_wp2_with fail
                refine (Wzy.out _ hq).mono ?_; rintro e wn ⟨rfl, hbq⟩
                replace hq := hq.trans (hbq.mono hq.size); clear hbq
                go_wp2_with fail
                refine (Wqz.out _ hq).mono ?_; rintro e wn ⟨rfl, hbq⟩
                replace hq := hq.trans (hbq.mono hq.size); clear hbq
                go_wp2_with fail
                go_meet
                exact ⟨rfl, hq⟩
            | false =>
              cases yz with
              | true =>
                simp only [Bool.and_true, Bool.and_false, Bool.true_and, Bool.false_and] at Wzp Wqz
                go_wp2_with fail
                refine (Wzp.out _ hq).mono ?_; rintro e wn ⟨rfl, hbq⟩
                replace hq := hq.trans (hbq.mono hq.size); clear hbq
                go_wp2_with fail
                refine (Wzx.out _ hq).mono ?_; rintro e wn ⟨rfl, hbq⟩
                replace hq := hq.trans (hbq.mono hq.size); clear hbq
                go_wp2_with fail
                refine (Wzy.out _ hq).mono ?_; rintro e wn ⟨rfl, hbq⟩
                replace hq := hq.trans (hbq.mono hq.size); clear hbq
                go_wp2_with fail
                refine (Wqz.out _ hq).mono ?_; rintro e wn ⟨rfl, hbq⟩
                replace hq := hq.trans (hbq.mono hq.size); clear hbq
                go_wp2_with fail
                go_meet
                exact ⟨rfl, hq⟩
              | false =>
                simp only [Bool.and_true, Bool.and_false, Bool.true_and, Bool.false_and] at Wzp Wqz
                go_wp2_with fail
                refine (Wzp.out _ hq).mono ?_; rintro e wn ⟨rfl, hbq⟩
                replace hq := hq.trans (hbq.mono hq.size); clear hbq
                go_wp2_with fail
                refine (Wzx.out _ hq).mono ?_; rintro e wn ⟨rfl, hbq⟩
                replace hq := hq.trans (hbq.mono hq.size); clear hbq
                go_wp2_with fail
                refine (Wzy.out _ hq).mono ?_; rintro e wn ⟨rfl, hbq⟩
                replace hq := hq.trans (hbq.mono hq.size); clear hbq
                go_wp2_with fail
                refine (Wqz.out _ hq).mono ?_; rintro e wn ⟨rfl, hbq⟩
                replace hq := hq.trans (hbq.mono hq.size); clear hbq
                go_wp2_with fail
                go_meet
                exact ⟨rfl, hq⟩
          | false =>
            cases xz with
            | true =>
              cases yz with
              | true =>
                simp only [Bool.and_true, Bool.and_false, Bool.true_and, Bool.false_and] at Wzp Wqz
                go_wp2_with fail
                refine (Wzp.out _ hq).mono ?_; rintro e wn ⟨rfl, hbq⟩
                replace hq := hq.trans (hbq.mono hq.size); clear hbq
                go_wp2_with fail
                refine (Wzx.out _ hq).mono ?_; rintro e wn ⟨rfl, hbq⟩
                replace hq := hq.trans (hbq.mono hq.size); clear hbq
                go_wp2_with fail
                refine (Wzy.out _ hq).mono ?_; rintro e wn ⟨rfl, hbq⟩
                replace hq := hq.trans (hbq.mono hq.size); clear hbq
                go_wp2_with fail
                refine (Wqz.out _ hq).mono ?_; rintro e wn ⟨rfl, hbq⟩
                replace hq := hq.trans (hbq.mono hq.size); clear hbq
                go_wp2_with fail
                go_meet
                exact ⟨rfl, hq⟩
              | false =>
                simp only [Bool.and_true, Bool.and_false, Bool.true_and, Bool.false_and] at Wzp Wqz
                go_wp2_with fail
                refine (Wzp.out _ hq).mono ?_; rintro e wn ⟨rfl, hbq⟩
                replace hq := hq.trans (hbq.mono hq.size); clear hbq
                go_wp2_with fail
                refine (Wzx.out _ hq).mono ?_; rintro e wn ⟨rfl, hbq⟩
                replace hq := hq.trans (hbq.mono hq.size); clear hbq
                go_wp2_with fail
                refine (Wzy.out _ hq).mono ?_; rintro e wn ⟨rfl, hbq⟩
                replace hq := hq.trans (hbq.mono hq.size); clear hbq
                go_wp2_with fail
                refine (Wqz.out _ hq).mono ?_; rintro e wn ⟨rfl, hbq⟩
                replace hq := hq.trans (hbq.mono hq.size); clear hbq
                go_wp2_with fail
                go_meet
                exact ⟨rfl, hq⟩
            | false =>
              cases yz with
              | true =>
                simp only [Bool.and_true, Bool.and_false, Bool.true_and, Bool.false_and] at Wzp Wqz
                go_wp2_with fail
                refine (Wzp.out _ hq).mono ?_; rintro e wn ⟨rfl, hbq⟩
                replace hq := hq.trans (hbq.mono hq.size); clear hbq
                go_wp2_with fail
                refine (Wzx.out _ hq).mono ?_; rintro e wn ⟨rfl, hbq⟩
                replace hq := hq.trans (hbq.mono hq.size); clear hbq
                go_wp2_with fail
                refine (Wzy.out _ hq).mono ?_; rintro e wn ⟨rfl, hbq⟩
                replace hq := hq.trans (hbq.mono hq.size); clear hbq
                go_wp2_with fail
                refine (Wqz.out _ hq).mono ?_; rintro e wn ⟨rfl, hbq⟩
                replace hq := hq.trans (hbq.mono hq.size); clear hbq
                go_wp2_with fail
                go_meet
                exact ⟨rfl, hq⟩
              | false =>
                simp only [Bool.and_true, Bool.and_false, Bool.true_and, Bool.false_and] at Wzp Wqz
                go_wp2_with fail
                refine (Wzp.out _ hq).mono ?_; rintro e wn ⟨rfl, hbq⟩
                replace hq := hq.trans (hbq.mono hq.size); clear hbq
                go_wp2_with fail
                refine (Wzx.out _ hq).mono ?_; rintro e wn ⟨rfl, hbq⟩
                replace hq := hq.trans (hbq.mono hq.size); clear hbq
                go_wp2_with fail
                refine (Wzy.out _ hq).mono ?_; rintro e wn ⟨rfl, hbq⟩
                replace hq := hq.trans (hbq.mono hq.size); clear hbq
                go_wp2_with fail
                refine (Wqz.out _ hq).mono ?_; rintro e wn ⟨rfl, hbq⟩
                replace hq := hq.trans (hbq.mono hq.size); clear hbq
                go_wp2_with fail
                go_meet
                exact ⟨rfl, hq⟩
        | false =>
          cases zy with
          | true =>
            cases xz with
            | true =>
              cases yz with
              | true =>
                simp only [Bool.and_true, Bool.and_false, Bool.true_and, Bool.false_and] at Wzp Wqz
                go_wp2_with fail
                refine (Wzp.out _ hq).mono ?_; rintro e wn ⟨rfl, hbq⟩
                replace hq := hq.trans (hbq.mono hq.size); clear hbq
                go_wp2_with fail
                refine (Wzx.out _ hq).mono ?_; rintro e wn ⟨rfl, hbq⟩
                replace hq := hq.trans (hbq.mono hq.size); clear hbq
                go_wp2_with fail
                refine (Wqz.out _ hq).mono ?_; rintro e wn ⟨rfl, hbq⟩
                replace hq := hq.trans (hbq.mono hq.size); clear hbq
                go_wp2_with fail
                go_meet
                exact ⟨rfl, hq⟩
              | false =>
                simp only [Bool.and_true, Bool.and_false, Bool.true_and, Bool.false_and] at Wzp Wqz
                go_wp2_with fail
                refine (Wzp.out _ hq).mono ?_; rintro e wn ⟨rfl, hbq⟩
                replace hq := hq.trans (hbq.mono hq.size); clear hbq
                go_wp2_with fail
                refine (Wzx.out _ hq).mono ?_; rintro e wn ⟨rfl, hbq⟩
                replace hq := hq.trans (hbq.mono hq.size); clear hbq
                go_wp2_with fail
                refine (Wqz.out _ hq).mono ?_; rintro e wn ⟨rfl, hbq⟩
                replace hq := hq.trans (hbq.mono hq.size); clear hbq
                go_wp2_with fail
                go_meet
                exact ⟨rfl, hq⟩
            | false =>
              cases yz with
              | true =>
                simp only [Bool.and_true, Bool.and_false, Bool.true_and, Bool.false_and] at Wzp Wqz
                go_wp2_with fail
                refine (Wzp.out _ hq).mono ?_; rintro e wn ⟨rfl, hbq⟩
                replace hq := hq.trans (hbq.mono hq.size); clear hbq
                go_wp2_with fail
                refine (Wzx.out _ hq).mono ?_; rintro e wn ⟨rfl, hbq⟩
                replace hq := hq.trans (hbq.mono hq.size); clear hbq
                go_wp2_with fail
                refine (Wqz.out _ hq).mono ?_; rintro e wn ⟨rfl, hbq⟩
                replace hq := hq.trans (hbq.mono hq.size); clear hbq
                go_wp2_with fail
                go_meet
                exact ⟨rfl, hq⟩
              | false =>
                simp only [Bool.and_true, Bool.and_false, Bool.true_and, Bool.false_and] at Wzp Wqz
                go_wp2_with fail
                refine (Wzp.out _ hq).mono ?_; rintro e wn ⟨rfl, hbq⟩
                replace hq := hq.trans (hbq.mono hq.size); clear hbq
                go_wp2_with fail
                refine (Wzx.out _ hq).mono ?_; rintro e wn ⟨rfl, hbq⟩
                replace hq := hq.trans (hbq.mono hq.size); clear hbq
                go_wp2_with fail
                refine (Wqz.out _ hq).mono ?_; rintro e wn ⟨rfl, hbq⟩
                replace hq := hq.trans (hbq.mono hq.size); clear hbq
                go_wp2_with fail
                go_meet
                exact ⟨rfl, hq⟩
          | false =>
            cases xz with
            | true =>
              cases yz with
              | true =>
                simp only [Bool.and_true, Bool.and_false, Bool.true_and, Bool.false_and] at Wzp Wqz
                go_wp2_with fail
                refine (Wzp.out _ hq).mono ?_; rintro e wn ⟨rfl, hbq⟩
                replace hq := hq.trans (hbq.mono hq.size); clear hbq
                go_wp2_with fail
                refine (Wzx.out _ hq).mono ?_; rintro e wn ⟨rfl, hbq⟩
                replace hq := hq.trans (hbq.mono hq.size); clear hbq
                go_wp2_with fail
                refine (Wqz.out _ hq).mono ?_; rintro e wn ⟨rfl, hbq⟩
                replace hq := hq.trans (hbq.mono hq.size); clear hbq
                go_wp2_with fail
                go_meet
                exact ⟨rfl, hq⟩
              | false =>
                simp only [Bool.and_true, Bool.and_false, Bool.true_and, Bool.false_and] at Wzp Wqz
                go_wp2_with fail
                refine (Wzp.out _ hq).mono ?_; rintro e wn ⟨rfl, hbq⟩
                replace hq := hq.trans (hbq.mono hq.size); clear hbq
                go_wp2_with fail
                refine (Wzx.out _ hq).mono ?_; rintro e wn ⟨rfl, hbq⟩
                replace hq := hq.trans (hbq.mono hq.size); clear hbq
                go_wp2_with fail
                refine (Wqz.out _ hq).mono ?_; rintro e wn ⟨rfl, hbq⟩
                replace hq := hq.trans (hbq.mono hq.size); clear hbq
                go_wp2_with fail
                go_meet
                exact ⟨rfl, hq⟩
            | false =>
              cases yz with
              | true =>
                simp only [Bool.and_true, Bool.and_false, Bool.true_and, Bool.false_and] at Wzp Wqz
                go_wp2_with fail
                refine (Wzp.out _ hq).mono ?_; rintro e wn ⟨rfl, hbq⟩
                replace hq := hq.trans (hbq.mono hq.size); clear hbq
                go_wp2_with fail
                refine (Wzx.out _ hq).mono ?_; rintro e wn ⟨rfl, hbq⟩
                replace hq := hq.trans (hbq.mono hq.size); clear hbq
                go_wp2_with fail
                refine (Wqz.out _ hq).mono ?_; rintro e wn ⟨rfl, hbq⟩
                replace hq := hq.trans (hbq.mono hq.size); clear hbq
                go_wp2_with fail
                go_meet
                exact ⟨rfl, hq⟩
              | false =>
                simp only [Bool.and_true, Bool.and_false, Bool.true_and, Bool.false_and] at Wzp Wqz
                go_wp2_with fail
                refine (Wzp.out _ hq).mono ?_; rintro e wn ⟨rfl, hbq⟩
                replace hq := hq.trans (hbq.mono hq.size); clear hbq
                go_wp2_with fail
                refine (Wzx.out _ hq).mono ?_; rintro e wn ⟨rfl, hbq⟩
                replace hq := hq.trans (hbq.mono hq.size); clear hbq
                go_wp2_with fail
                refine (Wqz.out _ hq).mono ?_; rintro e wn ⟨rfl, hbq⟩
                replace hq := hq.trans (hbq.mono hq.size); clear hbq
                go_wp2_with fail
                go_meet
                exact ⟨rfl, hq⟩
      case rest =>
        obtain ⟨rfl, hq2⟩ := hcut
        replace hq := hq2; clear hq2
        go_upto_region 19 with fail
        have hbx := Hbx.out.below hq
        have HBX := Lib.hid hbx; clear hbx
        by_cases x0 : x = []
        case pos =>
          have hx0 : (((x.length : Nat) : Int) == 0) = true := by rw [x0]; rfl
          have HX0 := Lib.hid hx0; clear hx0 x0
          refine wp_region_below (by kernel_rfl) (by kernel_rfl) ?_
          refine wpQuiet_step (fun K hK => ?_); go_simp; (first | (with_reducible refine hK _ ?_) | (with_reducible refine ⟨_, fun _ _ => rfl, hK _ ?_⟩)); clear hK K
          refine wpQuiet_step (fun K hK => ?_); go_simp; (first | (with_reducible refine hK _ ?_) | (with_reducible refine ⟨_, fun _ _ => rfl, hK _ ?_⟩)); clear hK K
          refine wpQuiet_step (fun K hK => ?_); refine q_bin _ _ _ _ _ rfl rfl rfl rfl (eqi_is HX0.out) ?_; go_simp; (with_reducible refine hK _ ?_); clear hK K
          refine wpQuiet_step (fun K hK => ?_); go_simp; (try (with_reducible refine ⟨_, fun _ _ => rfl, ?_⟩)); generalize hA : ({ tmps := _, defers := _ } : Act) = A; (with_reducible refine hK A ?_); clear hK K
          refine wpQuiet_step (fun K hK => ?_); subst hA; go_simp; (try (with_reducible refine ⟨_, fun _ _ => rfl, ?_⟩)); generalize hA : ({ tmps := _, defers := _ } : Act) = A; (with_reducible refine hK A ?_); clear hK K
          refine wpQuiet_step (fun K hK => ?_); subst hA; go_simp; (try (with_reducible refine ⟨_, fun _ _ => rfl, ?_⟩)); generalize hA : ({ tmps := _, defers := _ } : Act) = A; (with_reducible refine hK A ?_); clear hK K
          refine wpQuiet_step (fun K hK => ?_); subst hA; go_simp; (try (with_reducible refine ⟨_, fun _ _ => rfl, ?_⟩)); generalize hA : ({ tmps := _, defers := _ } : Act) = A; (with_reducible refine hK A ?_); clear hK K
          refine wpQuiet_step (fun K hK => ?_); subst hA; go_simp; (first | (with_reducible refine hK _ ?_) | (with_reducible refine ⟨_, fun _ _ => rfl, hK _ ?_⟩)); clear hK K
          refine wpQuiet_step (fun K hK => ?_); go_simp; (try (with_reducible refine ⟨_, fun _ _ => rfl, ?_⟩)); generalize hA : ({ tmps := _, defers := _ } : Act) = A; (with_reducible refine hK A ?_); clear hK K
          refine wpQuiet_step (fun K hK => ?_); subst hA; go_simp; (try (with_reducible refine ⟨_, fun _ _ => rfl, ?_⟩)); generalize hA : ({ tmps := _, defers := _ } : Act) = A; (with_reducible refine hK A ?_); clear hK K
          refine wpQuiet_step (fun K hK => ?_); subst hA; go_simp; (try (with_reducible refine ⟨_, fun _ _ => rfl, ?_⟩)); generalize hA : ({ tmps := _, defers := _ } : Act) = A; (with_reducible refine hK A ?_); clear hK K
          refine wpQuiet_step (fun K hK => ?_); subst hA; go_simp; (try (with_reducible refine ⟨_, fun _ _ => rfl, ?_⟩)); generalize hA : ({ tmps := _, defers := _ } : Act) = A; (with_reducible refine hK A ?_); clear hK K
          refine wpQuiet_step (fun K hK => ?_); subst hA; go_simp; (try (with_reducible refine ⟨_, fun _ _ => rfl, ?_⟩)); generalize hA : ({ tmps := _, defers := _ } : Act) = A; (with_reducible refine hK A ?_); clear hK K
          refine wpQuiet_step (fun K hK => ?_); subst hA; go_simp; (try (with_reducible refine ⟨_, fun _ _ => rfl, ?_⟩)); generalize hA : ({ tmps := _, defers := _ } : Act) = A; (with_reducible refine hK A ?_); clear hK K
          refine wpQuiet_step (fun K hK => ?_); subst hA; go_simp; (try (with_reducible refine ⟨_, fun _ _ => rfl, ?_⟩)); generalize hA : ({ tmps := _, defers := _ } : Act) = A; (with_reducible refine hK A ?_); clear hK K
          refine wpQuiet_step (fun K hK => ?_); subst hA; go_simp; (try (with_reducible refine ⟨_, fun _ _ => rfl, ?_⟩)); generalize hA : ({ tmps := _, defers := _ } : Act) = A; (with_reducible refine hK A ?_); clear hK K
          refine wpQuiet_step (fun K hK => ?_); subst hA; go_simp; (first | (with_reducible refine hK _ ?_) | (with_reducible refine ⟨_, fun _ _ => rfl, hK _ ?_⟩)); clear hK K
          refine wpQuiet_nil ?_
          intro wz hbz
          replace hq := hq.trans (hbz.mono hq.size); clear hbz
          go_wp2_with fail
          refine (WW.out _).mono ?_; rintro e we ⟨rfl, hbe⟩
          replace hq := hq.trans (hbe.mono hq.size); clear hbe
          go_wp2_with fail
          go_ret
          exact ⟨rfl, HBW.out.trans (hq.mono HBW.out.size)⟩
        have hx0 : (((x.length : Nat) : Int) == 0) = false := by
          rw [beq_eq_false_iff_ne]
          intro h
          exact x0 (List.eq_nil_of_length_eq_zero (by omega))
        have HX0 := Lib.hid hx0; clear hx0
        by_cases y0 : y = []
        case pos =>
          have hy0 : (((y.length : Nat) : Int) == 0) = true := by rw [y0]; rfl
          have HY0 := Lib.hid hy0; clear hy0 y0 x0
          refine wp_region_below (by kernel_rfl) (by kernel_rfl) ?_
          refine wpQuiet_step (fun K hK => ?_); go_simp; (first | (with_reducible refine hK _ ?_) | (with_reducible refine ⟨_, fun _ _ => rfl, hK _ ?_⟩)); clear hK K
          refine wpQuiet_step (fun K hK => ?_); go_simp; (first | (with_reducible refine hK _ ?_) | (with_reducible refine ⟨_, fun _ _ => rfl, hK _ ?_⟩)); clear hK K
          refine wpQuiet_step (fun K hK => ?_); refine q_bin _ _ _ _ _ rfl rfl rfl rfl (eqi_is HX0.out) ?_; go_simp; (with_reducible refine hK _ ?_); clear hK K
          refine wpQuiet_step (fun K hK => ?_); go_simp; (first | (with_reducible refine hK _ ?_) | (with_reducible refine ⟨_, fun _ _ => rfl, hK _ ?_⟩)); clear hK K
          refine wpQuiet_step (fun K hK => ?_); go_simp; (first | (with_reducible refine hK _ ?_) | (with_reducible refine ⟨_, fun _ _ => rfl, hK _ ?_⟩)); clear hK K
          refine wpQuiet_step (fun K hK => ?_); go_simp; (first | (with_reducible refine hK _ ?_) | (with_reducible refine ⟨_, fun _ _ => rfl, hK _ ?_⟩)); clear hK K
          refine wpQuiet_step (fun K hK => ?_); refine q_bin _ _ _ _ _ rfl rfl rfl rfl (eqi_is HY0.out) ?_; go_simp; (with_reducible refine hK _ ?_); clear hK K
          refine wpQuiet_step (fun K hK => ?_); go_simp; (first | (with_reducible refine hK _ ?_) | (with_reducible refine ⟨_, fun _ _ => rfl, hK _ ?_⟩)); clear hK K
          refine wpQuiet_step (fun K hK => ?_); go_simp; (try (with_reducible refine ⟨_, fun _ _ => rfl, ?_⟩)); generalize hA : ({ tmps := _, defers := _ } : Act) = A; (with_reducible refine hK A ?_); clear hK K
          refine wpQuiet_step (fun K hK => ?_); subst hA; go_simp; (try (with_reducible refine ⟨_, fun _ _ => rfl, ?_⟩)); generalize hA : ({ tmps := _, defers := _ } : Act) = A; (with_reducible refine hK A ?_); clear hK K
          refine wpQuiet_step (fun K hK => ?_); subst hA; go_simp; (try (with_reducible refine ⟨_, fun _ _ => rfl, ?_⟩)); generalize hA : ({ tmps := _, defers := _ } : Act) = A; (with_reducible refine hK A ?_); clear hK K
          refine wpQuiet_step (fun K hK => ?_); subst hA; go_simp; (try (with_reducible refine ⟨_, fun _ _ => rfl, ?_⟩)); generalize hA : ({ tmps := _, defers := _ } : Act) = A; (with_reducible refine hK A ?_); clear hK K
          refine wpQuiet_step (fun K hK => ?_); subst hA; go_simp; (try (with_reducible refine ⟨_, fun _ _ => rfl, ?_⟩)); generalize hA : ({ tmps := _, defers := _ } : Act) = A; (with_reducible refine hK A ?_); clear hK K
          refine wpQuiet_step (fun K hK => ?_); subst hA; go_simp; (try (with_reducible refine ⟨_, fun _ _ => rfl, ?_⟩)); generalize hA : ({ tmps := _, defers := _ } : Act) = A; (with_reducible refine hK A ?_); clear hK K
          refine wpQuiet_step (fun K hK => ?_); subst hA; go_simp; (try (with_reducible refine ⟨_, fun _ _ => rfl, ?_⟩)); generalize hA : ({ tmps := _, defers := _ } : Act) = A; (with_reducible refine hK A ?_); clear hK K
          refine wpQuiet_step (fun K hK => ?_); subst hA; go_simp; (try (with_reducible refine ⟨_, fun _ _ => rfl, ?_⟩)); generalize hA : ({ tmps := _, defers := _ } : Act) = A; (with_reducible refine hK A ?_); clear hK K
          refine wpQuiet_step (fun K hK => ?_); subst hA; go_simp; (first | (with_reducible refine hK _ ?_) | (with_reducible refine ⟨_, fun _ _ => rfl, hK _ ?_⟩)); clear hK K
          refine wpQuiet_nil ?_
          intro wz hbz
          replace hq := hq.trans (hbz.mono hq.size); clear hbz
          go_wp2_with fail
          refine (WW.out _).mono ?_; rintro e we ⟨rfl, hbe⟩
          replace hq := hq.trans (hbe.mono hq.size); clear hbe
          go_wp2_with fail
          go_ret
          exact ⟨rfl, HBW.out.trans (hq.mono HBW.out.size)⟩
        have hy0 : (((y.length : Nat) : Int) == 0) = false := by
          rw [beq_eq_false_iff_ne]
          intro h
          exact y0 (List.eq_nil_of_length_eq_zero (by omega))
        have HY0 := Lib.hid hy0; clear hy0
        obtain ⟨u, xs, ex⟩ : ∃ u xs, x = u :: xs := by
          cases hcx : x with
          | nil => exact absurd hcx x0
          | cons u xs => exact ⟨u, xs, rfl⟩
        obtain ⟨v, ys, ey⟩ : ∃ v ys, y = v :: ys := by
          cases hcy : y with
          | nil => exact absurd hcy y0
          | cons v ys => exact ⟨v, ys, rfl⟩
        have hl0 : 0 < x.length := by rw [ex]; simp
        have hts := (Hx.out.below hq).ts
        have hux : u ∈ x := by rw [ex]; simp
        have hvy : v ∈ y := by rw [ey]; simp
        rw [ex] at hts
        obtain ⟨b', o', eA, hbl, h0⟩ := hts.first
        subst eA
        have HFI := Lib.hid (And.intro hbl h0); have HUV := Lib.hid (And.intro hux hvy)
        clear hts hbl h0 hux hvy ex ey x0 y0
        by_cases hd : t.d = u.d
        case neg =>
          have hv : (t.d != u.d) = true := by simpa using hd
          have HV := Lib.hid hv; clear hv hd
          refine wp_region_below (by kernel_rfl) (by kernel_rfl) ?_
          refine wpQuiet_step (fun K hK => ?_); go_simp; (first | (with_reducible refine hK _ ?_) | (with_reducible refine ⟨_, fun _ _ => rfl, hK _ ?_⟩)); clear hK K
          refine wpQuiet_step (fun K hK => ?_); go_simp; (first | (with_reducible refine hK _ ?_) | (with_reducible refine ⟨_, fun _ _ => rfl, hK _ ?_⟩)); clear hK K
          refine wpQuiet_step (fun K hK => ?_); refine q_bin _ _ _ _ _ rfl rfl rfl rfl (eqi_is HX0.out) ?_; go_simp; (with_reducible refine hK _ ?_); clear hK K
          refine wpQuiet_step (fun K hK => ?_); go_simp; (first | (with_reducible refine hK _ ?_) | (with_reducible refine ⟨_, fun _ _ => rfl, hK _ ?_⟩)); clear hK K
          refine wpQuiet_step (fun K hK => ?_); go_simp; (first | (with_reducible refine hK _ ?_) | (with_reducible refine ⟨_, fun _ _ => rfl, hK _ ?_⟩)); clear hK K
          refine wpQuiet_step (fun K hK => ?_); go_simp; (first | (with_reducible refine hK _ ?_) | (with_reducible refine ⟨_, fun _ _ => rfl, hK _ ?_⟩)); clear hK K
          refine wpQuiet_step (fun K hK => ?_); refine q_bin _ _ _ _ _ rfl rfl rfl rfl (eqi_is HY0.out) ?_; go_simp; (with_reducible refine hK _ ?_); clear hK K
          refine wpQuiet_step (fun K hK => ?_); go_simp; (first | (with_reducible refine hK _ ?_) | (with_reducible refine ⟨_, fun _ _ => rfl, hK _ ?_⟩)); clear hK K
          refine wpQuiet_step (fun K hK => ?_); go_simp; (first | (with_reducible refine hK _ ?_) | (with_reducible refine ⟨_, fun _ _ => rfl, hK _ ?_⟩)); clear hK K
          refine wpQuiet_step (fun K hK => ?_); go_simp; (first | (with_reducible refine hK _ ?_) | (with_reducible refine ⟨_, fun _ _ => rfl, hK _ ?_⟩)); clear hK K
          refine wpQuiet_step (fun K hK => ?_); refine q_load (p := .pointer (some ⟨w.heap.size, 0, none⟩)) 3 _ rfl rfl rfl (load_d HBX.out) ?_; go_simp; (with_reducible refine hK _ ?_); clear hK K
          refine wpQuiet_step (fun K hK => ?_); go_simp; (first | (with_reducible refine hK _ ?_) | (with_reducible refine ⟨_, fun _ _ => rfl, hK _ ?_⟩)); clear hK K
          refine wpQuiet_step (fun K hK => ?_); go_simp; (first | (with_reducible refine hK _ ?_) | (with_reducible refine ⟨_, fun _ _ => rfl, hK _ ?_⟩)); clear hK K
          refine wpQuiet_step (fun K hK => ?_); go_simp; (first | (with_reducible refine hK _ ?_) | (with_reducible refine ⟨_, fun _ _ => rfl, hK _ ?_⟩)); clear hK K
          refine wpQuiet_step (fun K hK => ?_); refine q_load (p := .pointer (some ⟨b', o', none⟩)) 3 _ rfl rfl rfl (load_at HFI.out.1 HFI.out.2) ?_; go_simp; (with_reducible refine hK _ ?_); clear hK K
          refine wpQuiet_step (fun K hK => ?_); refine q_bin _ _ _ _ _ rfl rfl rfl rfl (nei_is HV.out) ?_; go_simp; (with_reducible refine hK _ ?_); clear hK K
          refine wpQuiet_step (fun K hK => ?_); go_simp; (first | (with_reducible refine hK _ ?_) | (with_reducible refine ⟨_, fun _ _ => rfl, hK _ ?_⟩)); clear hK K
          refine wpQuiet_nil ?_
          intro wz hbz
          replace hq := hq.trans (hbz.mono hq.size); clear hbz
          go_wp2_with fail
          refine (WW.out _).mono ?_; rintro e we ⟨rfl, hbe⟩
          replace hq := hq.trans (hbe.mono hq.size); clear hbe
          go_wp2_with fail
          go_ret
          exact ⟨rfl, HBW.out.trans (hq.mono HBW.out.size)⟩
        have hv : (t.d != u.d) = false := by simpa using hd
        have hfive := O5.out u v HUV.out.1 HUV.out.2 hd
        have HV := Lib.hid hv; have H5 := Lib.hid hfive; clear hv hd hfive
        refine wp_region_below (by kernel_rfl) (by kernel_rfl) ?_
        refine wpQuiet_step (fun K hK => ?_); go_simp; (first | (with_reducible refine hK _ ?_) | (with_reducible refine ⟨_, fun _ _ => rfl, hK _ ?_⟩)); clear hK K
        refine wpQuiet_step (fun K hK => ?_); go_simp; (first | (with_reducible refine hK _ ?_) | (with_reducible refine ⟨_, fun _ _ => rfl, hK _ ?_⟩)); clear hK K
        refine wpQuiet_step (fun K hK => ?_); refine q_bin _ _ _ _ _ rfl rfl rfl rfl (eqi_is HX0.out) ?_; go_simp; (with_reducible refine hK _ ?_); clear hK K
        refine wpQuiet_step (fun K hK => ?_); go_simp; (first | (with_reducible refine hK _ ?_) | (with_reducible refine ⟨_, fun _ _ => rfl, hK _ ?_⟩)); clear hK K
        refine wpQuiet_step (fun K hK => ?_); go_simp; (first | (with_reducible refine hK _ ?_) | (with_reducible refine ⟨_, fun _ _ => rfl, hK _ ?_⟩)); clear hK K
        refine wpQuiet_step (fun K hK => ?_); go_simp; (first | (with_reducible refine hK _ ?_) | (with_reducible refine ⟨_, fun _ _ => rfl, hK _ ?_⟩)); clear hK K
        refine wpQuiet_step (fun K hK => ?_); refine q_bin _ _ _ _ _ rfl rfl rfl rfl (eqi_is HY0.out) ?_; go_simp; (with_reducible refine hK _ ?_); clear hK K
        refine wpQuiet_step (fun K hK => ?_); go_simp; (first | (with_reducible refine hK _ ?_) | (with_reducible refine ⟨_, fun _ _ => rfl, hK _ ?_⟩)); clear hK K
        refine wpQuiet_step (fun K hK => ?_); go_simp; (first | (with_reducible refine hK _ ?_) | (with_reducible refine ⟨_, fun _ _ => rfl, hK _ ?_⟩)); clear hK K
        refine wpQuiet_step (fun K hK => ?_); go_simp; (first | (with_reducible refine hK _ ?_) | (with_reducible refine ⟨_, fun _ _ => rfl, hK _ ?_⟩)); clear hK K
        refine wpQuiet_step (fun K hK => ?_); refine q_load (p := .pointer (some ⟨w.heap.size, 0, none⟩)) 3 _ rfl rfl rfl (load_d HBX.out) ?_; go_simp; (with_reducible refine hK _ ?_); clear hK K
        refine wpQuiet_step (fun K hK => ?_); go_simp; (first | (with_reducible refine hK _ ?_) | (with_reducible refine ⟨_, fun _ _ => rfl, hK _ ?_⟩)); clear hK K
        refine wpQuiet_step (fun K hK => ?_); go_simp; (first | (with_reducible refine hK _ ?_) | (with_reducible refine ⟨_, fun _ _ => rfl, hK _ ?_⟩)); clear hK K
        refine wpQuiet_step (fun K hK => ?_); go_simp; (first | (with_reducible refine hK _ ?_) | (with_reducible refine ⟨_, fun _ _ => rfl, hK _ ?_⟩)); clear hK K
        refine wpQuiet_step (fun K hK => ?_); refine q_load (p := .pointer (some ⟨b', o', none⟩)) 3 _ rfl rfl rfl (load_at HFI.out.1 HFI.out.2) ?_; go_simp; (with_reducible refine hK _ ?_); clear hK K
        refine wpQuiet_step (fun K hK => ?_); refine q_bin _ _ _ _ _ rfl rfl rfl rfl (nei_is HV.out) ?_; go_simp; (with_reducible refine hK _ ?_); clear hK K
        refine wpQuiet_step (fun K hK => ?_); go_simp; (first | (with_reducible refine hK _ ?_) | (with_reducible refine ⟨_, fun _ _ => rfl, hK _ ?_⟩)); clear hK K
        refine wpQuiet_nil ?_
        intro wz hbz
        replace hq := hq.trans (hbz.mono hq.size); clear hbz hl0
        go_wp2_with fail
        have hbx := Hbx.out.below hq
        have HBY := Lib.hid hbx; clear hbx
        have Wi2 := Lib.hid (fun w' (hw : Below wz.heap.size wz w') => Wi.out w' (hq.trans (hw.mono hq.size)))
        have Wj2 := Lib.hid (fun w' (hw : Below wz.heap.size wz w') => Wj.out w' (hq.trans (hw.mono hq.size)))
        refine wp_region_below (by kernel_rfl) (by kernel_rfl) ?_
        refine wpQuiet_step (fun K hK => ?_); go_simp; (first | (with_reducible refine hK _ ?_) | (with_reducible refine ⟨_, fun _ _ => rfl, hK _ ?_⟩)); clear hK K
        refine wpQuiet_step (fun K hK => ?_); refine q_load (p := .pointer (some ⟨w.heap.size, 0, none⟩)) 25 _ rfl rfl rfl (load_t HBY.out) ?_; go_simp; (with_reducible refine hK _ ?_); clear hK K
        refine wpQuiet_step (fun K hK => ?_); go_simp; (with_reducible refine ⟨_, fun wq hb => (Wi2.out wq hb).mono fun _ _ h => ⟨h.1, hb.trans (h.2.mono (by simpa using hb.size))⟩, hK _ ?_⟩); clear hK K
        refine wpQuiet_step (fun K hK => ?_); go_simp; (first | (with_reducible refine hK _ ?_) | (with_reducible refine ⟨_, fun _ _ => rfl, hK _ ?_⟩)); clear hK K
        refine wpQuiet_step (fun K hK => ?_); refine q_load (p := .pointer (some ⟨w.heap.size, 0, none⟩)) 25 _ rfl rfl rfl (load_t HBY.out) ?_; go_simp; (with_reducible refine hK _ ?_); clear hK K
        refine wpQuiet_step (fun K hK => ?_); go_simp; (with_reducible refine ⟨_, fun wq hb => (Wj2.out wq hb).mono fun _ _ h => ⟨h.1, hb.trans (h.2.mono (by simpa using hb.size))⟩, hK _ ?_⟩); clear hK K
        refine wpQuiet_step (fun K hK => ?_); go_simp; (first | (with_reducible refine hK _ ?_) | (with_reducible refine ⟨_, fun _ _ => rfl, hK _ ?_⟩)); clear hK K
        refine wpQuiet_step (fun K hK => ?_); go_simp; (first | (with_reducible refine hK _ ?_) | (with_reducible refine ⟨_, fun _ _ => rfl, hK _ ?_⟩)); clear hK K
        refine wpQuiet_nil ?_
        intro wy hby
        replace hq := hq.trans (hby.mono hq.size); clear hby HBX HBY Wi2 Wj2 Wi Wj Wxx Wxy Wyx Wyz Wxz Wzx Wzy Wzp Wqz Wsa Wpx Wpy Wxq Wyq HFI HX0 HY0 HV
        have hp5 := H5.out.p; have hq5 := H5.out.q
        rw [hp5] at Wpt; rw [hq5] at Wqt
        clear hp5 hq5
        obtain ⟨c0, c1, c2, c3, c4⟩ := (Hbx.out.below hq).cells5
        have hgl := (Hbx.out.below hq).lt
        have CX := Lib.hid (fun (w' : World) (hw : Below v7.heap.size v7 w') => And.intro (Hbx.out.below hw).lt (Hbx.out.below hw).cells5)
        cases bi with
        | true =>
          cases bj with
          | true =>
            cases xy with
            | true =>
              simp only [Bool.and_true, Bool.and_false, Bool.true_and, Bool.false_and, Bool.or_true, Bool.or_false, Bool.true_or, Bool.false_or] at Wpt Wqt
              go_wp2_with fail
              refine (Wpt.out _ hq).mono ?_; rintro e wn ⟨rfl, hbq⟩
              replace hq := hq.trans (hbq.mono hq.size); clear hbq c0 c1 c2 c3 c4 hgl
              obtain ⟨hgl, c0, c1, c2, c3, c4⟩ := CX.out _ hq
              go_wp2_with fail
              refine (Wqt.out _ hq).mono ?_; rintro e wn ⟨rfl, hbq⟩
              replace hq := hq.trans (hbq.mono hq.size); clear hbq c0 c1 c2 c3 c4 hgl
              obtain ⟨hgl, c0, c1, c2, c3, c4⟩ := CX.out _ hq
              go_wp2_with fail
              refine (WW.out _).mono ?_; rintro e we ⟨rfl, hbe⟩
              replace hq := hq.trans (hbe.mono hq.size); clear hbe
              go_wp2_with fail
              go_ret
              exact ⟨rfl, HBW.out.trans (hq.mono HBW.out.size)⟩
            | false =>
              simp only [Bool.and_true, Bool.and_false, Bool.true_and, Bool.false_and, Bool.or_true, Bool.or_false, Bool.true_or, Bool.false_or] at Wpt Wqt
              go_wp2_with fail
              refine (Wpt.out _ hq).mono ?_; rintro e wn ⟨rfl, hbq⟩
              replace hq := hq.trans (hbq.mono hq.size); clear hbq c0 c1 c2 c3 c4 hgl
              obtain ⟨hgl, c0, c1, c2, c3, c4⟩ := CX.out _ hq
              go_wp2_with fail
              refine (Wqt.out _ hq).mono ?_; rintro e wn ⟨rfl, hbq⟩
              replace hq := hq.trans (hbq.mono hq.size); clear hbq c0 c1 c2 c3 c4 hgl
              obtain ⟨hgl, c0, c1, c2, c3, c4⟩ := CX.out _ hq
              go_wp2_with fail
              refine (WW.out _).mono ?_; rintro e we ⟨rfl, hbe⟩
              replace hq := hq.trans (hbe.mono hq.size); clear hbe
              go_wp2_with fail
              go_ret
              exact ⟨rfl, HBW.out.trans (hq.mono HBW.out.size)⟩
          | false =>
            cases xy with
            | true =>
              exact absurd (H5.out.mono rfl rfl) (by simp)
            | false =>
              simp only [Bool.and_true, Bool.and_false, Bool.true_and, Bool.false_and, Bool.or_true, Bool.or_false, Bool.true_or, Bool.false_or] at Wpt Wqt
              go_wp2_with fail
              refine (Wpt.out _ hq).mono ?_; rintro e wn ⟨rfl, hbq⟩
              replace hq := hq.trans (hbq.mono hq.size); clear hbq c0 c1 c2 c3 c4 hgl
              obtain ⟨hgl, c0, c1, c2, c3, c4⟩ := CX.out _ hq
              go_wp2_with fail
              refine (Wqt.out _ hq).mono ?_; rintro e wn ⟨rfl, hbq⟩
              replace hq := hq.trans (hbq.mono hq.size); clear hbq c0 c1 c2 c3 c4 hgl
              obtain ⟨hgl, c0, c1, c2, c3, c4⟩ := CX.out _ hq
              go_wp2_with fail
              refine (WW.out _).mono ?_; rintro e we ⟨rfl, hbe⟩
              replace hq := hq.trans (hbe.mono hq.size); clear hbe
              go_wp2_with fail
              go_ret
              exact ⟨rfl, HBW.out.trans (hq.mono HBW.out.size)⟩
        | false =>
          cases bj with
          | true =>
            cases xy with
            | true =>
              simp only [Bool.and_true, Bool.and_false, Bool.true_and, Bool.false_and, Bool.or_true, Bool.or_false, Bool.true_or, Bool.false_or] at Wpt Wqt
              go_wp2_with fail
              refine (Wpt.out _ hq).mono ?_; rintro e wn ⟨rfl, hbq⟩
              replace hq := hq.trans (hbq.mono hq.size); clear hbq c0 c1 c2 c3 c4 hgl
              obtain ⟨hgl, c0, c1, c2, c3, c4⟩ := CX.out _ hq
              go_wp2_with fail
              refine (Wqt.out _ hq).mono ?_; rintro e wn ⟨rfl, hbq⟩
              replace hq := hq.trans (hbq.mono hq.size); clear hbq c0 c1 c2 c3 c4 hgl
              obtain ⟨hgl, c0, c1, c2, c3, c4⟩ := CX.out _ hq
              go_wp2_with fail
              refine (WW.out _).mono ?_; rintro e we ⟨rfl, hbe⟩
              replace hq := hq.trans (hbe.mono hq.size); clear hbe
              go_wp2_with fail
              go_ret
              exact ⟨rfl, HBW.out.trans (hq.mono HBW.out.size)⟩
            | false =>
              simp only [Bool.and_true, Bool.and_false, Bool.true_and, Bool.false_and, Bool.or_true, Bool.or_false, Bool.true_or, Bool.false_or] at Wpt Wqt
              go_wp2_with fail
              refine (Wpt.out _ hq).mono ?_; rintro e wn ⟨rfl, hbq⟩
              replace hq := hq.trans (hbq.mono hq.size); clear hbq c0 c1 c2 c3 c4 hgl
              obtain ⟨hgl, c0, c1, c2, c3, c4⟩ := CX.out _ hq
              go_wp2_with fail
              refine (Wqt.out _ hq).mono ?_; rintro e wn ⟨rfl, hbq⟩
              replace hq := hq.trans (hbq.mono hq.size); clear hbq c0 c1 c2 c3 c4 hgl
              obtain ⟨hgl, c0, c1, c2, c3, c4⟩ := CX.out _ hq
              go_wp2_with fail
              refine (WW.out _).mono ?_; rintro e we ⟨rfl, hbe⟩
              replace hq := hq.trans (hbe.mono hq.size); clear hbe
              go_wp2_with fail
              go_ret
              exact ⟨rfl, HBW.out.trans (hq.mono HBW.out.size)⟩
          | false =>
            cases xy with
            | true =>
              simp only [Bool.and_true, Bool.and_false, Bool.true_and, Bool.false_and, Bool.or_true, Bool.or_false, Bool.true_or, Bool.false_or] at Wpt Wqt
              go_wp2_with fail
              refine (Wpt.out _ hq).mono ?_; rintro e wn ⟨rfl, hbq⟩
              replace hq := hq.trans (hbq.mono hq.size); clear hbq c0 c1 c2 c3 c4 hgl
              obtain ⟨hgl, c0, c1, c2, c3, c4⟩ := CX.out _ hq
              go_wp2_with fail
              refine (Wqt.out _ hq).mono ?_; rintro e wn ⟨rfl, hbq⟩
              replace hq := hq.trans (hbq.mono hq.size); clear hbq c0 c1 c2 c3 c4 hgl
              obtain ⟨hgl, c0, c1, c2, c3, c4⟩ := CX.out _ hq
              go_wp2_with fail
              refine (WW.out _).mono ?_; rintro e we ⟨rfl, hbe⟩
              replace hq := hq.trans (hbe.mono hq.size); clear hbe
              go_wp2_with fail
              go_ret
              exact ⟨rfl, HBW.out.trans (hq.mono HBW.out.size)⟩
            | false =>
              simp only [Bool.and_true, Bool.and_false, Bool.true_and, Bool.false_and, Bool.or_true, Bool.or_false, Bool.true_or, Bool.false_or] at Wpt Wqt
              go_wp2_with fail
              refine (Wpt.out _ hq).mono ?_; rintro e wn ⟨rfl, hbq⟩
              replace hq := hq.trans (hbq.mono hq.size); clear hbq c0 c1 c2 c3 c4 hgl
              obtain ⟨hgl, c0, c1, c2, c3, c4⟩ := CX.out _ hq
              go_wp2_with fail
              refine (Wqt.out _ hq).mono ?_; rintro e wn ⟨rfl, hbq⟩
              replace hq := hq.trans (hbq.mono hq.size); clear hbq c0 c1 c2 c3 c4 hgl
              obtain ⟨hgl, c0, c1, c2, c3, c4⟩ := CX.out _ hq
              go_wp2_with fail
              refine (WW.out _).mono ?_; rintro e we ⟨rfl, hbe⟩
              replace hq := hq.trans (hbe.mono hq.size); clear hbe
              go_wp2_with fail
              go_ret
              exact ⟨rfl, HBW.out.trans (hq.mono HBW.out.size)⟩

end antichainOrder
end Go.Proofs.Ytkbabmifdfmhlaa
