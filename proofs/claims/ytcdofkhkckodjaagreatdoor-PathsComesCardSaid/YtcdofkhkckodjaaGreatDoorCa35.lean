/- FrRefOf -/
import Derived.Test.YtcdofkhkckodjaaGreatDoorCa32
import Derived.Test.YtcdofkhkckodjaaGreatDoorCa34
namespace Go.Proofs.YtcdofkhkckodjaaGreatDoor
set_option linter.unusedVariables false
section
open Go.ChangeShapes Go.WideShapes Go.ChangeAt Go.RowKit Go.BigFrame Go.Shelf
set_option maxRecDepth 100000
section
variable {ts o : List St} {t x y z : St} {k m q : Nat}
def badD (t z : St) : Bool := !decide t.R || t.d != z.d
def EvenTo (ts : List St) (k : Nat) : Prop := ∀ (j : Nat) (x z : St), j < k → ts[j]? = some x → ts[0]? = some z → badD x z = false
theorem even_to (h : EvenTo ts ts.length) : Even ts := by
  intro x hx
  obtain ⟨j, hj⟩ := List.getElem?_of_mem hx
  have hjl := (List.getElem?_eq_some_iff.1 hj).1
  have hl : 0 < ts.length := by omega
  obtain ⟨z, hz⟩ : ∃ z, ts[0]? = some z := ⟨_, List.getElem?_eq_getElem hl⟩
  have e : ∀ (j : Nat) (x : St), j < ts.length → ts[j]? = some x → x.R ∧ x.d = z.d := by
    intro j x h1 h2
    have := h j x z h1 h2 hz
    unfold badD at this
    simpa only [Bool.or_eq_false_iff, Bool.not_eq_false', decide_eq_true_eq, bne_eq_false_iff_eq] using this
  refine ⟨(e j x hjl hj).1, fun y hy => ?_⟩
  obtain ⟨i, hi⟩ := List.getElem?_of_mem hy
  rw [(e j x hjl hj).2, (e i y (List.getElem?_eq_some_iff.1 hi).1 hi).2]
theorem even_next (h : EvenTo ts k) (ht : ts[k]? = some t) (hz : ts[0]? = some z) (hb : badD t z = false) : EvenTo ts (k + 1) := by
  intro j x z' hj hx hz'
  by_cases e : j = k
  · subst e; rw [ht] at hx; cases hx; rw [hz] at hz'; cases hz'; exact hb
  · exact h j x z' (by omega) hx hz'
theorem even_not (ht : ts[k]? = some t) (hz : ts[0]? = some z) (hb : badD t z = true) : ¬ Even ts := by
  intro h
  have h1 := h t (List.mem_of_getElem? ht)
  unfold badD at hb
  simp only [Bool.or_eq_true, Bool.not_eq_true', decide_eq_false_iff_not, bne_iff_ne, ne_eq] at hb
  rcases hb with hb | hb
  · exact hb h1.1
  · exact hb (h1.2 z (List.mem_of_getElem? hz))
def badJ (k : Nat) (t : St) (j : Nat) (x : St) : Bool := (!eqB x t && decide (x.L t)) || (decide (j < k) && eqB x t)
def LeastTo (ts : List St) (k : Nat) (t : St) (m : Nat) : Prop := ∀ (j : Nat) (x : St), j < m → ts[j]? = some x → badJ k t j x = false
noncomputable instance (ts : List St) (k : Nat) (t : St) (m : Nat) : Decidable (LeastTo ts k t m) := Classical.propDecidable _
theorem least_zero : decide (LeastTo ts k t 0) = true := decide_eq_true fun j x h => absurd h (by omega)
theorem least_bad (hx : ts[m]? = some x) (hb : badJ k t m x = true) : decide (LeastTo ts k t (m + 1)) = false := by
  rw [decide_eq_false_iff_not]
  intro h
  have := h m x (by omega) hx
  rw [hb] at this; cases this
theorem least_good (hx : ts[m]? = some x) (hb : badJ k t m x = false) : decide (LeastTo ts k t (m + 1)) = decide (LeastTo ts k t m) := by
  rw [Bool.eq_iff_iff, decide_eq_true_iff, decide_eq_true_iff]
  constructor
  · exact fun h j y hj hy => h j y (by omega) hy
  · intro h j y hj hy
    by_cases e : j = m
    · subst e; rw [hx] at hy; cases hy; exact hb
    · exact h j y (by omega) hy
def GoodO (ts : List St) (k : Nat) (o : List St) : Prop := o.Pairwise (fun x y => x.C y < 0) ∧ ∀ x, x ∈ o ↔ x ∈ ts.take k ∧ Least ts x
theorem least_iff (ht : ts[k]? = some t) : LeastTo ts k t ts.length ↔ Least ts t ∧ t ∉ ts.take k := by
  constructor
  · intro h
    refine ⟨fun z hz hl => ?_, fun hm => ?_⟩
    · obtain ⟨j, hj⟩ := List.getElem?_of_mem hz
      have := h j z (List.getElem?_eq_some_iff.1 hj).1 hj
      unfold badJ eqB at this
      simp only [Bool.or_eq_false_iff, Bool.and_eq_false_iff, Bool.not_eq_false', decide_eq_true_eq, decide_eq_false_iff_not] at this
      rcases this.1 with h1 | h1
      · exact h1
      · exact absurd hl h1
    · obtain ⟨j, hj, hx⟩ := mem_take_at hm
      have := h j t (List.getElem?_eq_some_iff.1 hx).1 hx
      unfold badJ eqB at this
      simp [hj] at this
  · rintro ⟨h1, h2⟩ j x hj hx
    unfold badJ eqB
    simp only [Bool.or_eq_false_iff, Bool.and_eq_false_iff, Bool.not_eq_false', decide_eq_true_eq, decide_eq_false_iff_not]
    refine ⟨?_, ?_⟩
    · by_cases hl : x.L t
      · exact .inl (h1 x (List.mem_of_getElem? hx) hl)
      · exact .inr hl
    · by_cases e : x = t
      · subst e
        refine .inl fun hjk => h2 ?_
        exact List.mem_of_getElem? (i := j) (by rw [List.getElem?_take, if_pos hjk]; exact hx)
      · exact .inr e
theorem mem_next (ht : ts[k]? = some t) : x ∈ ts.take (k + 1) ↔ x ∈ ts.take k ∨ x = t := by
  rw [List.take_add_one, ht]; simp
theorem good_skip (h : GoodO ts k o) (ht : ts[k]? = some t) (hl : ¬ LeastTo ts k t ts.length) : GoodO ts (k + 1) o := by
  rw [least_iff ht] at hl
  refine ⟨h.1, fun x => ?_⟩
  rw [h.2 x, mem_next ht]
  constructor
  · rintro ⟨h1, h2⟩; exact ⟨.inl h1, h2⟩
  · rintro ⟨h1 | rfl, h2⟩
    · exact ⟨h1, h2⟩
    · refine ⟨?_, h2⟩
      apply Classical.byContradiction
      exact fun h3 => hl ⟨h2, h3⟩
def stepS (o : List St) (q : Nat) (t : St) : Bool := match o[q]? with | some y => decide (y.C t < 0) | none => false
theorem good_put (h : GoodO ts k o) (ht : ts[k]? = some t) (hl : LeastTo ts k t ts.length) (hq : ∀ (j : Nat) (x : St), j < q → o[j]? = some x → x.C t < 0) (hs : stepS o q t = false) : GoodO ts (k + 1) (o.take q ++ [t] ++ o.drop q) := by
  rw [least_iff ht] at hl
  have hno : t ∉ o := fun hm => hl.2 ((h.2 t).1 hm).1
  have hsort := h.1
  rw [← List.take_append_drop q o, List.pairwise_append] at hsort
  have hdrop : ∀ y ∈ o.drop q, t.C y < 0 := by
    intro y hy
    cases hd : o.drop q with
    | nil => rw [hd] at hy; cases hy
    | cons a r =>
      have ha : o[q]? = some a := by
        have : (o.drop q)[0]? = some a := by rw [hd]; rfl
        rwa [List.getElem?_drop] at this
      have hat : t.C a < 0 := by
        unfold stepS at hs
        rw [ha] at hs
        have h1 : ¬ a.C t < 0 := of_decide_eq_false hs
        rcases St.C_total (x := t) (y := a) (fun e => hno (by rw [e]; exact List.mem_of_getElem? ha)) with h2 | h2
        · exact h2
        · exact absurd h2 h1
      rw [hd] at hy
      rcases List.mem_cons.1 hy with rfl | hy
      · exact hat
      · have := hsort.2.1
        rw [hd] at this
        exact St.C_lt_trans hat ((List.pairwise_cons.1 this).1 y hy)
  have htake : ∀ y ∈ o.take q, y.C t < 0 := by
    intro y hy
    obtain ⟨j, hj, hx⟩ := mem_take_at hy
    exact hq j y hj hx
  refine ⟨?_, fun x => ?_⟩
  · rw [List.append_assoc, List.pairwise_append]
    refine ⟨hsort.1, ?_, ?_⟩
    · rw [List.singleton_append, List.pairwise_cons]
      exact ⟨hdrop, hsort.2.1⟩
    · intro a ha b hb
      rw [List.singleton_append] at hb
      rcases List.mem_cons.1 hb with rfl | hb
      · exact htake a ha
      · exact hsort.2.2 a ha b hb
  · have e : x ∈ o.take q ++ [t] ++ o.drop q ↔ x ∈ o ∨ x = t := by
      conv => rhs; rw [← List.take_append_drop q o]
      simp only [List.mem_append, List.mem_singleton]
      constructor
      · rintro ((h | h) | h)
        · exact .inl (.inl h)
        · exact .inr h
        · exact .inl (.inr h)
      · rintro ((h | h) | h)
        · exact .inl (.inl h)
        · exact .inr h
        · exact .inl (.inr h)
    rw [e, h.2 x, mem_next ht]
    constructor
    · rintro (⟨h1, h2⟩ | rfl)
      · exact ⟨.inl h1, h2⟩
      · exact ⟨.inr rfl, hl.1⟩
    · rintro ⟨h1 | rfl, h2⟩
      · exact .inl ⟨h1, h2⟩
      · exact .inr rfl
theorem good_end (h : GoodO ts ts.length o) (he : EvenTo ts ts.length) : o = ofS ts := by
  refine ofS_eq h.1 fun x => ?_
  have := h.2 x
  rwa [List.take_length] at this
def GivesB (w : World) (l : List St) (n : Int) (e : Ending) (w' : World) : Prop :=
  (∃ A c, e = .returned (.tuple #[.slice A l.length c, .int .i64 n]) ∧ Slc w' A c l ∧ ∀ ad, A = some ad → w.heap.size ≤ ad.block) ∧ Below w.heap.size w w'
theorem Slc.of_ownB {w : World} {base n : Nat} {v : Value} {ts : List St} (h : w.ownsRow base 49 5 v n (rowS ts)) : ∃ A c, v = .slice A ts.length c ∧ Slc w A c ts ∧ ∀ ad, A = some ad → base ≤ ad.block := by
  obtain ⟨A, c, e, hs⟩ := Slc.of_own h
  refine ⟨A, c, e, hs, fun ad hA => ?_⟩
  obtain ⟨_, ⟨hv, _⟩ | ⟨g, cap, cur, hv, hg, _⟩⟩ := h
  · rw [hv] at e; injection e with e1; rw [← e1] at hA; cases hA
  · rw [hv] at e; injection e with e1; rw [← e1] at hA; cases hA; exact hg
theorem wpList_append_tn {w : World} {ops : Array Oper} {rest : List Oper} {o : Oper} {a : Act} {Q : Exit → Act → World → Prop} (hgd : o.guard = none) (s x : Operand)
    (ho : o.op = .call { callee := .builtin .append, args := #[s, x], argTypes := #[51, 51] })
    (base : Nat) (v : Value) (n : Nat) (ts : List St) (hs : a.eval s = v) (hown : w.ownsRow base 49 5 v n (rowS ts))
    (A : Option Addr) (c m : Nat) (ys : List St) (hm : ys.length = m) (hx : a.eval x = .slice A m c) (hA0 : A = none → c = 0) (hb : Ts w A ys)
    (hle : n + ys.length ≤ 20000000) (hbase : base ≤ w.heap.size)
    (h : ∀ v' w', w'.ownsRow base 49 5 v' (n + ys.length) (rowS (ts ++ ys)) → w.grownBy w' v.ownBlock → wpList Tryz.prog ops Q rest (a.put o.dst v') w') : wpList Tryz.prog ops Q (o :: rest) a w := by
  subst hm
  exact wpList_append_ts hgd s x ho base v n ts hs hown A c ys hx hA0 hb hle hbase h
theorem refRight_r {t : St} {p : Bool} (h : decide t.R = p) : ∀ w, Calls Tryz.prog 99 #[t.val] w fun e w' => e = .returned (.bool p) ∧ Below w.heap.size w w' := right_r h
theorem gives_none {w w' : World} (hb : Below w.heap.size w w') : GivesB w [] 50 (.returned (.tuple #[.slice none 0 0, .int .i64 50])) w' := ⟨⟨none, 0, rfl, ⟨Ts.nil, by simp, by unfold maxLen; omega, fun _ => rfl⟩, fun ad h => by cases h⟩, hb⟩
theorem slc_none (w : World) : Slc w none 0 [] := ⟨Ts.nil, by simp, by unfold maxLen; omega, fun _ => rfl⟩
end
set_option maxRecDepth 100000 in
set_option maxHeartbeats 16000000 in
theorem frRefOf_any (A : Option Addr) (ts : List St) (c : Nat) (w : World) (hT : Slc w A c ts) (hn : ts.length ≤ 5000000) :
    Calls Tryz.prog 49 #[.slice A ts.length c] w (GivesB w (ifS (decide (Even ts)) (ofS ts)) (errS (decide (Even ts)))) := by
  have HT := Lib.hid hT; clear hT
  go_enter Tryz.func49, Tryz.ntmps49
  go_wp2_with fail
  go_loopw [4, 5] (fun fv i wr => ∃ (k : Nat) (o : List St) (A' : Option Addr) (c' : Nat), k ≤ ts.length ∧ i = .int .i64 k ∧ fv = .slice A' o.length c' ∧ Slc wr A' c' o ∧ o.length ≤ k ∧ (A' = none ∨ 0 < o.length) ∧ (∀ ad, A' = some ad → w.heap.size ≤ ad.block) ∧ Below w.heap.size w wr ∧ GoodO ts k o ∧ EvenTo ts k) (fun _ i _ => ts.length - (intOf i).toNat)
  case atStart => exact ⟨0, [], none, 0, by omega, rfl, rfl, slc_none _, by simp,   .inl rfl, (fun ad h => by cases h), Below.refl _ _, ⟨List.Pairwise.nil, fun x => by simp⟩, fun j x z h => absurd h (by omega)⟩
  case round =>
    obtain ⟨k, o, A', c', hk, rfl, rfl, hso, hok, hor, hab, hb, hgo, hev⟩ := hrel
    have HOR := Lib.hid hor; clear hor; have HAB := Lib.hid hab; clear hab
    have HB := Lib.hid hb; have HSO := Lib.hid hso; have HGO := Lib.hid hgo; have HEV := Lib.hid hev; clear hb hso hgo hev
    by_cases hlt : k < ts.length
    · have hltz : (k : Int) < (ts.length : Int) := by omega
      have hl0 : 0 < ts.length := by omega
      obtain ⟨t, ht⟩ : ∃ t, ts[k]? = some t := ⟨_, List.getElem?_eq_getElem hlt⟩
      obtain ⟨z, hz⟩ : ∃ z, ts[0]? = some z := ⟨_, List.getElem?_eq_getElem hl0⟩
      have hT1 := HT.out.ts.below HB.out
      obtain ⟨b, ob, hAe, hbl, hld⟩ := hT1.five ht
      subst hAe
      obtain ⟨b', o', e, _, hzz⟩ := hT1.five hz
      cases e
      have hzd := (hzz wr (Below.refl _ _)).1
      rw [Nat.zero_mul, Nat.add_zero] at hzd
      obtain ⟨c0, c1, c2, c3, c4⟩ := hld wr (Below.refl _ _)
      have hbt := (Below.refl wr.heap.size wr).alloc (Nat.le_refl _) (.cells #[.int .i64 t.d, .int .i64 t.e, .int .i64 t.x, .int .i64 t.y, .int .i64 t.z] 49)
      have hx := Holds.made wr t
      have hzd2 : (wr.alloc (.cells #[.int .i64 t.d, .int .i64 t.e, .int .i64 t.x, .int .i64 t.y, .int .i64 t.z] 49)).cell? ⟨b, ob, none⟩ = some (.int .i64 z.d) := (hbt.cell (p := ⟨b, ob, none⟩) hbl).trans hzd
      have hbl2 := Nat.lt_of_lt_of_le hbl hbt.size
      have hso1 := HSO.out.below hbt
      have HX := Lib.hid hx; have HBT := Lib.hid hbt; have HTT := Lib.hid (And.intro ht hz); have HZ := Lib.hid (And.intro hbl2 hzd2)
      clear HSO
      have HSO := Lib.hid hso1
      clear hx hbt ht hz hT1 hld hbl hzz hzd hzd2 hbl2 hso1
      unfold St.val at *
      go_wp2_with fail
      generalize wr.alloc (.cells #[.int .i64 t.d, .int .i64 t.e, .int .i64 t.x, .int .i64 t.y, .int .i64 t.z] 49) = w0 at *
      clear c0 c1 c2 c3 c4
      go_cut [32] from 21 to 32 (fun s wx => s = .bool (badD t z) ∧ Below w0.heap.size w0 wx)
      case first =>
        by_cases hR : t.R
        · have hq := refRight_r (decide_eq_true hR)
          have hbd : badD t z = (t.d != z.d) := by unfold badD; rw [decide_eq_true hR]; rfl
          generalize hzv : (t.d != z.d) = zv at *
          unfold St.val at *
          have HBD := Lib.hid hbd; have HZV := Lib.hid hzv; have HR := Lib.hid hq; clear hbd hzv hq hR
          refine wp_region_below (by kernel_rfl) (by kernel_rfl) ?_
          refine wpQuiet_step (fun K hK => ?_); refine q_load (p := .pointer (some ⟨wr.heap.size, 0, none⟩)) 49 _ rfl rfl rfl (load_t HX.out) ?_; go_simp; (with_reducible refine hK _ ?_); clear hK K
          refine wpQuiet_step (fun K hK => ?_); go_simp; (with_reducible refine ⟨_, fun _ hb => (HR.out _).mono fun _ _ h => ⟨h.1, hb.trans (h.2.mono (by simpa using hb.size))⟩, hK _ ?_⟩); clear hK K
          refine wpQuiet_step (fun K hK => ?_); go_simp; (first | (with_reducible refine hK _ ?_) | (with_reducible refine ⟨_, fun _ _ => rfl, hK _ ?_⟩)); clear hK K
          refine wpQuiet_step (fun K hK => ?_); go_simp; (first | (with_reducible refine hK _ ?_) | (with_reducible refine ⟨_, fun _ _ => rfl, hK _ ?_⟩)); clear hK K
          refine wpQuiet_step (fun K hK => ?_); go_simp; (first | (with_reducible refine hK _ ?_) | (with_reducible refine ⟨_, fun _ _ => rfl, hK _ ?_⟩)); clear hK K
          refine wpQuiet_step (fun K hK => ?_); refine q_load (p := .pointer (some ⟨wr.heap.size, 0, none⟩)) 3 _ rfl rfl rfl (load_d HX.out) ?_; go_simp; (with_reducible refine hK _ ?_); clear hK K
          refine wpQuiet_step (fun K hK => ?_); go_simp; (first | (with_reducible refine hK _ ?_) | (with_reducible refine ⟨_, fun _ _ => rfl, hK _ ?_⟩)); clear hK K
          refine wpQuiet_step (fun K hK => ?_); go_simp; (first | (with_reducible refine hK _ ?_) | (with_reducible refine ⟨_, fun _ _ => rfl, hK _ ?_⟩)); clear hK K
          refine wpQuiet_step (fun K hK => ?_); go_simp; (first | (with_reducible refine hK _ ?_) | (with_reducible refine ⟨_, fun _ _ => rfl, hK _ ?_⟩)); clear hK K
          refine wpQuiet_step (fun K hK => ?_); refine q_load (p := .pointer (some ⟨b, ob, none⟩)) 3 _ rfl rfl rfl (load_at HZ.out.1 HZ.out.2) ?_; go_simp; (with_reducible refine hK _ ?_); clear hK K
          refine wpQuiet_step (fun K hK => ?_); refine q_bin _ _ _ _ _ rfl rfl rfl rfl (nei_is HZV.out) ?_; go_simp; (with_reducible refine hK _ ?_); clear hK K
          refine wpQuiet_step (fun K hK => ?_); go_simp; (first | (with_reducible refine hK _ ?_) | (with_reducible refine ⟨_, fun _ _ => rfl, hK _ ?_⟩)); clear hK K
          refine wpQuiet_nil ?_
          intro wz hbel
          go_wp2_with fail
          go_meet
          exact ⟨by rw [HBD.out], hbel⟩
        · have hq := refRight_r (decide_eq_false hR)
          have hbd : badD t z = true := by unfold badD; rw [decide_eq_false hR]; rfl
          unfold St.val at *
          have HBD := Lib.hid hbd; have HR := Lib.hid hq; clear hbd hq hR
          refine wp_region_below (by kernel_rfl) (by kernel_rfl) ?_
          refine wpQuiet_step (fun K hK => ?_); refine q_load (p := .pointer (some ⟨wr.heap.size, 0, none⟩)) 49 _ rfl rfl rfl (load_t HX.out) ?_; go_simp; (with_reducible refine hK _ ?_); clear hK K
          refine wpQuiet_step (fun K hK => ?_); go_simp; (with_reducible refine ⟨_, fun _ hb => (HR.out _).mono fun _ _ h => ⟨h.1, hb.trans (h.2.mono (by simpa using hb.size))⟩, hK _ ?_⟩); clear hK K
          refine wpQuiet_step (fun K hK => ?_); go_simp; (first | (with_reducible refine hK _ ?_) | (with_reducible refine ⟨_, fun _ _ => rfl, hK _ ?_⟩)); clear hK K
          refine wpQuiet_step (fun K hK => ?_); go_simp; (try (with_reducible refine ⟨_, fun _ _ => rfl, ?_⟩)); generalize hA : ({ tmps := _, defers := _ } : Act) = A; (with_reducible refine hK A ?_); clear hK K
          refine wpQuiet_step (fun K hK => ?_); subst hA; go_simp; (try (with_reducible refine ⟨_, fun _ _ => rfl, ?_⟩)); generalize hA : ({ tmps := _, defers := _ } : Act) = A; (with_reducible refine hK A ?_); clear hK K
          refine wpQuiet_step (fun K hK => ?_); subst hA; go_simp; (try (with_reducible refine ⟨_, fun _ _ => rfl, ?_⟩)); generalize hA : ({ tmps := _, defers := _ } : Act) = A; (with_reducible refine hK A ?_); clear hK K
          refine wpQuiet_step (fun K hK => ?_); subst hA; go_simp; (try (with_reducible refine ⟨_, fun _ _ => rfl, ?_⟩)); generalize hA : ({ tmps := _, defers := _ } : Act) = A; (with_reducible refine hK A ?_); clear hK K
          refine wpQuiet_step (fun K hK => ?_); subst hA; go_simp; (try (with_reducible refine ⟨_, fun _ _ => rfl, ?_⟩)); generalize hA : ({ tmps := _, defers := _ } : Act) = A; (with_reducible refine hK A ?_); clear hK K
          refine wpQuiet_step (fun K hK => ?_); subst hA; go_simp; (try (with_reducible refine ⟨_, fun _ _ => rfl, ?_⟩)); generalize hA : ({ tmps := _, defers := _ } : Act) = A; (with_reducible refine hK A ?_); clear hK K
          refine wpQuiet_step (fun K hK => ?_); subst hA; go_simp; (try (with_reducible refine ⟨_, fun _ _ => rfl, ?_⟩)); generalize hA : ({ tmps := _, defers := _ } : Act) = A; (with_reducible refine hK A ?_); clear hK K
          refine wpQuiet_step (fun K hK => ?_); subst hA; go_simp; (try (with_reducible refine ⟨_, fun _ _ => rfl, ?_⟩)); generalize hA : ({ tmps := _, defers := _ } : Act) = A; (with_reducible refine hK A ?_); clear hK K
          refine wpQuiet_step (fun K hK => ?_); subst hA; go_simp; (first | (with_reducible refine hK _ ?_) | (with_reducible refine ⟨_, fun _ _ => rfl, hK _ ?_⟩)); clear hK K
          refine wpQuiet_nil ?_
          intro wz hbel
          go_wp2_with fail
          go_meet
          exact ⟨by rw [HBD.out], hbel⟩
      case rest =>
        obtain ⟨rfl, hbel⟩ := hcut
        have hx := HX.out.below hbel; have hso := HSO.out.below hbel
        have hbw := HB.out.trans ((HBT.out.trans (hbel.mono HBT.out.size)).mono HB.out.size)
        clear HX HSO HB HBT HZ
        have HX := Lib.hid hx; have HSO := Lib.hid hso; have HB := Lib.hid hbw; clear hx hso hbw hbel
        generalize wr.heap.size = gt at *
        cases hv : badD t z with
        | true =>
          have HV := Lib.hid hv; clear hv
          go_wp2_with fail
          go_ret2
          rw [decide_eq_false (even_not HTT.out.1 HTT.out.2 HV.out)]
          exact gives_none HB.out
        | false =>
          have HE2 := Lib.hid (even_next HEV.out HTT.out.1 HTT.out.2 hv); clear hv HEV
          go_wp2_with fail
          go_loopw [7, 8] (fun bv j wr => ∃ m : Nat, m ≤ ts.length ∧ j = .int .i64 m ∧ bv = .bool (decide (LeastTo ts k t m)) ∧ Below w.heap.size w wr ∧ Slc wr A' c' o ∧ Holds wr gt t) (fun _ j _ => ts.length - (intOf j).toNat)
          case atStart => exact ⟨0, by omega, rfl, by rw [least_zero], HB.out, HSO.out, HX.out⟩
          case round =>
            obtain ⟨m, hm, rfl, rfl, hb, hso, hx⟩ := hrel
            clear HB HSO HX
            have HB := Lib.hid hb; have HSO := Lib.hid hso; have HX := Lib.hid hx; clear hb hso hx
            by_cases hlm : m < ts.length
            · have hlmz : (m : Int) < (ts.length : Int) := by omega
              obtain ⟨x, hx⟩ : ∃ x, ts[m]? = some x := ⟨_, List.getElem?_eq_getElem hlm⟩
              have hT1 := HT.out.ts.below HB.out
              obtain ⟨b', o', e, _, h0⟩ := hT1.load hx
              cases e
              have H0 := Lib.hid h0; have HXX := Lib.hid hx; clear h0 hx hT1
              go_wp2_with fail
              go_cut [65] from 33 to 65 (fun s wx => s = .bool (badJ k t m x) ∧ Below wr.heap.size wr wx)
              case first =>
                by_cases he : x = t
                · have e1 : eqB x t = true := decide_eq_true he
                  have e2 : (!eqB x t) = false := by rw [e1]; rfl
                  by_cases hj : m < k
                  · have hbd : badJ k t m x = true := by unfold badJ; rw [e1, decide_eq_true hj]; simp
                    have hg : decide ((m : Int) < (k : Int)) = true := decide_eq_true (by omega)
                    have HBD := Lib.hid hbd; have HE := Lib.hid e1; have HNE := Lib.hid e2; have HG := Lib.hid hg; clear hbd e1 e2 hg he
                    refine wp_region_below (by kernel_rfl) (by kernel_rfl) ?_
                    refine wpQuiet_step (fun K hK => ?_); go_simp; (first | (with_reducible refine hK _ ?_) | (with_reducible refine ⟨_, fun _ _ => rfl, hK _ ?_⟩)); clear hK K
                    refine wpQuiet_step (fun K hK => ?_); go_simp; (first | (with_reducible refine hK _ ?_) | (with_reducible refine ⟨_, fun _ _ => rfl, hK _ ?_⟩)); clear hK K
                    refine wpQuiet_step (fun K hK => ?_); go_simp; (first | (with_reducible refine hK _ ?_) | (with_reducible refine ⟨_, fun _ _ => rfl, hK _ ?_⟩)); clear hK K
                    refine wpQuiet_step (fun K hK => ?_); refine q_load (p := .pointer (some ⟨b, ob + m * 5, none⟩)) 49 _ rfl rfl rfl (H0.out) ?_; go_simp; (with_reducible refine hK _ ?_); clear hK K
                    refine wpQuiet_step (fun K hK => ?_); refine q_load (p := .pointer (some ⟨gt, 0, none⟩)) 49 _ rfl rfl rfl (load_t HX.out) ?_; go_simp; (with_reducible refine hK _ ?_); clear hK K
                    refine wpQuiet_step (fun K hK => ?_); refine q_bin _ _ _ _ _ rfl rfl rfl rfl (net_is HNE.out) ?_; go_simp; (with_reducible refine hK _ ?_); clear hK K
                    refine wpQuiet_step (fun K hK => ?_); go_simp; (try (with_reducible refine ⟨_, fun _ _ => rfl, ?_⟩)); generalize hA : ({ tmps := _, defers := _ } : Act) = A; (with_reducible refine hK A ?_); clear hK K
                    refine wpQuiet_step (fun K hK => ?_); subst hA; go_simp; (try (with_reducible refine ⟨_, fun _ _ => rfl, ?_⟩)); generalize hA : ({ tmps := _, defers := _ } : Act) = A; (with_reducible refine hK A ?_); clear hK K
                    refine wpQuiet_step (fun K hK => ?_); subst hA; go_simp; (try (with_reducible refine ⟨_, fun _ _ => rfl, ?_⟩)); generalize hA : ({ tmps := _, defers := _ } : Act) = A; (with_reducible refine hK A ?_); clear hK K
                    refine wpQuiet_step (fun K hK => ?_); subst hA; go_simp; (try (with_reducible refine ⟨_, fun _ _ => rfl, ?_⟩)); generalize hA : ({ tmps := _, defers := _ } : Act) = A; (with_reducible refine hK A ?_); clear hK K
                    refine wpQuiet_step (fun K hK => ?_); subst hA; go_simp; (try (with_reducible refine ⟨_, fun _ _ => rfl, ?_⟩)); generalize hA : ({ tmps := _, defers := _ } : Act) = A; (with_reducible refine hK A ?_); clear hK K
                    refine wpQuiet_step (fun K hK => ?_); subst hA; go_simp; (try (with_reducible refine ⟨_, fun _ _ => rfl, ?_⟩)); generalize hA : ({ tmps := _, defers := _ } : Act) = A; (with_reducible refine hK A ?_); clear hK K
                    refine wpQuiet_step (fun K hK => ?_); subst hA; go_simp; (try (with_reducible refine ⟨_, fun _ _ => rfl, ?_⟩)); generalize hA : ({ tmps := _, defers := _ } : Act) = A; (with_reducible refine hK A ?_); clear hK K
                    refine wpQuiet_step (fun K hK => ?_); subst hA; go_simp; (first | (with_reducible refine hK _ ?_) | (with_reducible refine ⟨_, fun _ _ => rfl, hK _ ?_⟩)); clear hK K
                    refine wpQuiet_step (fun K hK => ?_); go_simp; (first | (with_reducible refine hK _ ?_) | (with_reducible refine ⟨_, fun _ _ => rfl, hK _ ?_⟩)); clear hK K
                    refine wpQuiet_step (fun K hK => ?_); go_simp; (first | (with_reducible refine hK _ ?_) | (with_reducible refine ⟨_, fun _ _ => rfl, hK _ ?_⟩)); clear hK K
                    refine wpQuiet_step (fun K hK => ?_); go_simp; (first | (with_reducible refine hK _ ?_) | (with_reducible refine ⟨_, fun _ _ => rfl, hK _ ?_⟩)); clear hK K
                    refine wpQuiet_step (fun K hK => ?_); refine q_bin _ _ _ _ _ rfl rfl rfl rfl (lti_is HG.out) ?_; go_simp; (with_reducible refine hK _ ?_); clear hK K
                    refine wpQuiet_step (fun K hK => ?_); go_simp; (first | (with_reducible refine hK _ ?_) | (with_reducible refine ⟨_, fun _ _ => rfl, hK _ ?_⟩)); clear hK K
                    refine wpQuiet_step (fun K hK => ?_); go_simp; (first | (with_reducible refine hK _ ?_) | (with_reducible refine ⟨_, fun _ _ => rfl, hK _ ?_⟩)); clear hK K
                    refine wpQuiet_step (fun K hK => ?_); go_simp; (first | (with_reducible refine hK _ ?_) | (with_reducible refine ⟨_, fun _ _ => rfl, hK _ ?_⟩)); clear hK K
                    refine wpQuiet_step (fun K hK => ?_); go_simp; (first | (with_reducible refine hK _ ?_) | (with_reducible refine ⟨_, fun _ _ => rfl, hK _ ?_⟩)); clear hK K
                    refine wpQuiet_step (fun K hK => ?_); refine q_load (p := .pointer (some ⟨b, ob + m * 5, none⟩)) 49 _ rfl rfl rfl (H0.out) ?_; go_simp; (with_reducible refine hK _ ?_); clear hK K
                    refine wpQuiet_step (fun K hK => ?_); refine q_load (p := .pointer (some ⟨gt, 0, none⟩)) 49 _ rfl rfl rfl (load_t HX.out) ?_; go_simp; (with_reducible refine hK _ ?_); clear hK K
                    refine wpQuiet_step (fun K hK => ?_); refine q_bin _ _ _ _ _ rfl rfl rfl rfl (eqt_is HE.out) ?_; go_simp; (with_reducible refine hK _ ?_); clear hK K
                    refine wpQuiet_step (fun K hK => ?_); go_simp; (first | (with_reducible refine hK _ ?_) | (with_reducible refine ⟨_, fun _ _ => rfl, hK _ ?_⟩)); clear hK K
                    refine wpQuiet_step (fun K hK => ?_); go_simp; (first | (with_reducible refine hK _ ?_) | (with_reducible refine ⟨_, fun _ _ => rfl, hK _ ?_⟩)); clear hK K
                    refine wpQuiet_nil ?_
                    intro wz hbel
                    go_wp2_with fail
                    go_meet
                    exact ⟨by rw [HBD.out], hbel⟩
                  · have hbd : badJ k t m x = false := by unfold badJ; rw [e1, decide_eq_false hj]; simp
                    have hg : decide ((m : Int) < (k : Int)) = false := decide_eq_false (by omega)
                    have HBD := Lib.hid hbd; have HE := Lib.hid e1; have HNE := Lib.hid e2; have HG := Lib.hid hg; clear hbd e1 e2 hg he
                    refine wp_region_below (by kernel_rfl) (by kernel_rfl) ?_
                    refine wpQuiet_step (fun K hK => ?_); go_simp; (first | (with_reducible refine hK _ ?_) | (with_reducible refine ⟨_, fun _ _ => rfl, hK _ ?_⟩)); clear hK K
                    refine wpQuiet_step (fun K hK => ?_); go_simp; (first | (with_reducible refine hK _ ?_) | (with_reducible refine ⟨_, fun _ _ => rfl, hK _ ?_⟩)); clear hK K
                    refine wpQuiet_step (fun K hK => ?_); go_simp; (first | (with_reducible refine hK _ ?_) | (with_reducible refine ⟨_, fun _ _ => rfl, hK _ ?_⟩)); clear hK K
                    refine wpQuiet_step (fun K hK => ?_); refine q_load (p := .pointer (some ⟨b, ob + m * 5, none⟩)) 49 _ rfl rfl rfl (H0.out) ?_; go_simp; (with_reducible refine hK _ ?_); clear hK K
                    refine wpQuiet_step (fun K hK => ?_); refine q_load (p := .pointer (some ⟨gt, 0, none⟩)) 49 _ rfl rfl rfl (load_t HX.out) ?_; go_simp; (with_reducible refine hK _ ?_); clear hK K
                    refine wpQuiet_step (fun K hK => ?_); refine q_bin _ _ _ _ _ rfl rfl rfl rfl (net_is HNE.out) ?_; go_simp; (with_reducible refine hK _ ?_); clear hK K
                    refine wpQuiet_step (fun K hK => ?_); go_simp; (try (with_reducible refine ⟨_, fun _ _ => rfl, ?_⟩)); generalize hA : ({ tmps := _, defers := _ } : Act) = A; (with_reducible refine hK A ?_); clear hK K
                    refine wpQuiet_step (fun K hK => ?_); subst hA; go_simp; (try (with_reducible refine ⟨_, fun _ _ => rfl, ?_⟩)); generalize hA : ({ tmps := _, defers := _ } : Act) = A; (with_reducible refine hK A ?_); clear hK K
                    refine wpQuiet_step (fun K hK => ?_); subst hA; go_simp; (try (with_reducible refine ⟨_, fun _ _ => rfl, ?_⟩)); generalize hA : ({ tmps := _, defers := _ } : Act) = A; (with_reducible refine hK A ?_); clear hK K
                    refine wpQuiet_step (fun K hK => ?_); subst hA; go_simp; (try (with_reducible refine ⟨_, fun _ _ => rfl, ?_⟩)); generalize hA : ({ tmps := _, defers := _ } : Act) = A; (with_reducible refine hK A ?_); clear hK K
                    refine wpQuiet_step (fun K hK => ?_); subst hA; go_simp; (try (with_reducible refine ⟨_, fun _ _ => rfl, ?_⟩)); generalize hA : ({ tmps := _, defers := _ } : Act) = A; (with_reducible refine hK A ?_); clear hK K
                    refine wpQuiet_step (fun K hK => ?_); subst hA; go_simp; (try (with_reducible refine ⟨_, fun _ _ => rfl, ?_⟩)); generalize hA : ({ tmps := _, defers := _ } : Act) = A; (with_reducible refine hK A ?_); clear hK K
                    refine wpQuiet_step (fun K hK => ?_); subst hA; go_simp; (try (with_reducible refine ⟨_, fun _ _ => rfl, ?_⟩)); generalize hA : ({ tmps := _, defers := _ } : Act) = A; (with_reducible refine hK A ?_); clear hK K
                    refine wpQuiet_step (fun K hK => ?_); subst hA; go_simp; (first | (with_reducible refine hK _ ?_) | (with_reducible refine ⟨_, fun _ _ => rfl, hK _ ?_⟩)); clear hK K
                    refine wpQuiet_step (fun K hK => ?_); go_simp; (first | (with_reducible refine hK _ ?_) | (with_reducible refine ⟨_, fun _ _ => rfl, hK _ ?_⟩)); clear hK K
                    refine wpQuiet_step (fun K hK => ?_); go_simp; (first | (with_reducible refine hK _ ?_) | (with_reducible refine ⟨_, fun _ _ => rfl, hK _ ?_⟩)); clear hK K
                    refine wpQuiet_step (fun K hK => ?_); go_simp; (first | (with_reducible refine hK _ ?_) | (with_reducible refine ⟨_, fun _ _ => rfl, hK _ ?_⟩)); clear hK K
                    refine wpQuiet_step (fun K hK => ?_); refine q_bin _ _ _ _ _ rfl rfl rfl rfl (lti_is HG.out) ?_; go_simp; (with_reducible refine hK _ ?_); clear hK K
                    refine wpQuiet_step (fun K hK => ?_); go_simp; (try (with_reducible refine ⟨_, fun _ _ => rfl, ?_⟩)); generalize hA : ({ tmps := _, defers := _ } : Act) = A; (with_reducible refine hK A ?_); clear hK K
                    refine wpQuiet_step (fun K hK => ?_); subst hA; go_simp; (try (with_reducible refine ⟨_, fun _ _ => rfl, ?_⟩)); generalize hA : ({ tmps := _, defers := _ } : Act) = A; (with_reducible refine hK A ?_); clear hK K
                    refine wpQuiet_step (fun K hK => ?_); subst hA; go_simp; (try (with_reducible refine ⟨_, fun _ _ => rfl, ?_⟩)); generalize hA : ({ tmps := _, defers := _ } : Act) = A; (with_reducible refine hK A ?_); clear hK K
                    refine wpQuiet_step (fun K hK => ?_); subst hA; go_simp; (try (with_reducible refine ⟨_, fun _ _ => rfl, ?_⟩)); generalize hA : ({ tmps := _, defers := _ } : Act) = A; (with_reducible refine hK A ?_); clear hK K
                    refine wpQuiet_step (fun K hK => ?_); subst hA; go_simp; (try (with_reducible refine ⟨_, fun _ _ => rfl, ?_⟩)); generalize hA : ({ tmps := _, defers := _ } : Act) = A; (with_reducible refine hK A ?_); clear hK K
                    refine wpQuiet_step (fun K hK => ?_); subst hA; go_simp; (try (with_reducible refine ⟨_, fun _ _ => rfl, ?_⟩)); generalize hA : ({ tmps := _, defers := _ } : Act) = A; (with_reducible refine hK A ?_); clear hK K
                    refine wpQuiet_step (fun K hK => ?_); subst hA; go_simp; (try (with_reducible refine ⟨_, fun _ _ => rfl, ?_⟩)); generalize hA : ({ tmps := _, defers := _ } : Act) = A; (with_reducible refine hK A ?_); clear hK K
                    refine wpQuiet_step (fun K hK => ?_); subst hA; go_simp; (first | (with_reducible refine hK _ ?_) | (with_reducible refine ⟨_, fun _ _ => rfl, hK _ ?_⟩)); clear hK K
                    refine wpQuiet_step (fun K hK => ?_); go_simp; (first | (with_reducible refine hK _ ?_) | (with_reducible refine ⟨_, fun _ _ => rfl, hK _ ?_⟩)); clear hK K
                    refine wpQuiet_nil ?_
                    intro wz hbel
                    go_wp2_with fail
                    go_meet
                    exact ⟨by rw [HBD.out], hbel⟩
                · have e1 : eqB x t = false := decide_eq_false he
                  have e2 : (!eqB x t) = true := by rw [e1]; rfl
                  cases hv : decide (x.L t) with
                  | true =>
                    have hc := fun w => refLeq_any x t w
                    rw [hv] at hc
                    have hbd : badJ k t m x = true := by unfold badJ; rw [e1, hv]; simp
                    unfold St.val at *
                    have HBD := Lib.hid hbd; have HNE := Lib.hid e2; have HC := Lib.hid hc; clear hbd e1 e2 hc hv he
                    refine wp_region_below (by kernel_rfl) (by kernel_rfl) ?_
                    refine wpQuiet_step (fun K hK => ?_); go_simp; (first | (with_reducible refine hK _ ?_) | (with_reducible refine ⟨_, fun _ _ => rfl, hK _ ?_⟩)); clear hK K
                    refine wpQuiet_step (fun K hK => ?_); go_simp; (first | (with_reducible refine hK _ ?_) | (with_reducible refine ⟨_, fun _ _ => rfl, hK _ ?_⟩)); clear hK K
                    refine wpQuiet_step (fun K hK => ?_); go_simp; (first | (with_reducible refine hK _ ?_) | (with_reducible refine ⟨_, fun _ _ => rfl, hK _ ?_⟩)); clear hK K
                    refine wpQuiet_step (fun K hK => ?_); refine q_load (p := .pointer (some ⟨b, ob + m * 5, none⟩)) 49 _ rfl rfl rfl (H0.out) ?_; go_simp; (with_reducible refine hK _ ?_); clear hK K
                    refine wpQuiet_step (fun K hK => ?_); refine q_load (p := .pointer (some ⟨gt, 0, none⟩)) 49 _ rfl rfl rfl (load_t HX.out) ?_; go_simp; (with_reducible refine hK _ ?_); clear hK K
                    refine wpQuiet_step (fun K hK => ?_); refine q_bin _ _ _ _ _ rfl rfl rfl rfl (net_is HNE.out) ?_; go_simp; (with_reducible refine hK _ ?_); clear hK K
                    refine wpQuiet_step (fun K hK => ?_); go_simp; (first | (with_reducible refine hK _ ?_) | (with_reducible refine ⟨_, fun _ _ => rfl, hK _ ?_⟩)); clear hK K
                    refine wpQuiet_step (fun K hK => ?_); go_simp; (first | (with_reducible refine hK _ ?_) | (with_reducible refine ⟨_, fun _ _ => rfl, hK _ ?_⟩)); clear hK K
                    refine wpQuiet_step (fun K hK => ?_); go_simp; (first | (with_reducible refine hK _ ?_) | (with_reducible refine ⟨_, fun _ _ => rfl, hK _ ?_⟩)); clear hK K
                    refine wpQuiet_step (fun K hK => ?_); go_simp; (first | (with_reducible refine hK _ ?_) | (with_reducible refine ⟨_, fun _ _ => rfl, hK _ ?_⟩)); clear hK K
                    refine wpQuiet_step (fun K hK => ?_); refine q_load (p := .pointer (some ⟨b, ob + m * 5, none⟩)) 49 _ rfl rfl rfl (H0.out) ?_; go_simp; (with_reducible refine hK _ ?_); clear hK K
                    refine wpQuiet_step (fun K hK => ?_); refine q_load (p := .pointer (some ⟨gt, 0, none⟩)) 49 _ rfl rfl rfl (load_t HX.out) ?_; go_simp; (with_reducible refine hK _ ?_); clear hK K
                    refine wpQuiet_step (fun K hK => ?_); go_simp; (with_reducible refine ⟨_, fun _ hb => (HC.out _).mono fun _ _ h => ⟨h.1, hb.trans (h.2.mono (by simpa using hb.size))⟩, hK _ ?_⟩); clear hK K
                    refine wpQuiet_step (fun K hK => ?_); go_simp; (first | (with_reducible refine hK _ ?_) | (with_reducible refine ⟨_, fun _ _ => rfl, hK _ ?_⟩)); clear hK K
                    refine wpQuiet_step (fun K hK => ?_); go_simp; (try (with_reducible refine ⟨_, fun _ _ => rfl, ?_⟩)); generalize hA : ({ tmps := _, defers := _ } : Act) = A; (with_reducible refine hK A ?_); clear hK K
                    refine wpQuiet_step (fun K hK => ?_); subst hA; go_simp; (try (with_reducible refine ⟨_, fun _ _ => rfl, ?_⟩)); generalize hA : ({ tmps := _, defers := _ } : Act) = A; (with_reducible refine hK A ?_); clear hK K
                    refine wpQuiet_step (fun K hK => ?_); subst hA; go_simp; (try (with_reducible refine ⟨_, fun _ _ => rfl, ?_⟩)); generalize hA : ({ tmps := _, defers := _ } : Act) = A; (with_reducible refine hK A ?_); clear hK K
                    refine wpQuiet_step (fun K hK => ?_); subst hA; go_simp; (try (with_reducible refine ⟨_, fun _ _ => rfl, ?_⟩)); generalize hA : ({ tmps := _, defers := _ } : Act) = A; (with_reducible refine hK A ?_); clear hK K
                    refine wpQuiet_step (fun K hK => ?_); subst hA; go_simp; (try (with_reducible refine ⟨_, fun _ _ => rfl, ?_⟩)); generalize hA : ({ tmps := _, defers := _ } : Act) = A; (with_reducible refine hK A ?_); clear hK K
                    refine wpQuiet_step (fun K hK => ?_); subst hA; go_simp; generalize hA : ({ tmps := _, defers := _ } : Act) = A; rw [if_neg (by simp [undef])]; (with_reducible refine hK A ?_); clear hK K
                    refine wpQuiet_step (fun K hK => ?_); subst hA; go_simp; generalize hA : ({ tmps := _, defers := _ } : Act) = A; rw [if_neg (by simp [undef])]; (with_reducible refine hK A ?_); clear hK K
                    refine wpQuiet_step (fun K hK => ?_); subst hA; go_simp; generalize hA : ({ tmps := _, defers := _ } : Act) = A; rw [if_neg (by simp [undef])]; (with_reducible refine hK A ?_); clear hK K
                    refine wpQuiet_step (fun K hK => ?_); subst hA; go_simp; generalize hA : ({ tmps := _, defers := _ } : Act) = A; rw [if_neg (by simp [undef])]; (with_reducible refine hK A ?_); clear hK K
                    refine wpQuiet_step (fun K hK => ?_); subst hA; go_simp; generalize hA : ({ tmps := _, defers := _ } : Act) = A; rw [if_neg (by simp [undef])]; (with_reducible refine hK A ?_); clear hK K
                    refine wpQuiet_step (fun K hK => ?_); subst hA; go_simp; generalize hA : ({ tmps := _, defers := _ } : Act) = A; rw [if_neg (by simp [undef])]; (with_reducible refine hK A ?_); clear hK K
                    refine wpQuiet_step (fun K hK => ?_); subst hA; go_simp; (try (with_reducible refine ⟨_, fun _ _ => rfl, ?_⟩)); generalize hA : ({ tmps := _, defers := _ } : Act) = A; (with_reducible refine hK A ?_); clear hK K
                    refine wpQuiet_step (fun K hK => ?_); subst hA; go_simp; (first | (with_reducible refine hK _ ?_) | (with_reducible refine ⟨_, fun _ _ => rfl, hK _ ?_⟩)); clear hK K
                    refine wpQuiet_nil ?_
                    intro wz hbel
                    go_wp2_with fail
                    go_meet
                    exact ⟨by rw [HBD.out], hbel⟩
                  | false =>
                    have hc := fun w => refLeq_any x t w
                    rw [hv] at hc
                    have hbd : badJ k t m x = false := by unfold badJ; rw [e1, hv]; simp
                    unfold St.val at *
                    have HBD := Lib.hid hbd; have HE := Lib.hid e1; have HNE := Lib.hid e2; have HC := Lib.hid hc; clear hbd e1 e2 hc hv he
                    by_cases hj : m < k
                    · have hg : decide ((m : Int) < (k : Int)) = true := decide_eq_true (by omega)
                      have HG := Lib.hid hg; clear hg
                      refine wp_region_below (by kernel_rfl) (by kernel_rfl) ?_
                      refine wpQuiet_step (fun K hK => ?_); go_simp; (first | (with_reducible refine hK _ ?_) | (with_reducible refine ⟨_, fun _ _ => rfl, hK _ ?_⟩)); clear hK K
                      refine wpQuiet_step (fun K hK => ?_); go_simp; (first | (with_reducible refine hK _ ?_) | (with_reducible refine ⟨_, fun _ _ => rfl, hK _ ?_⟩)); clear hK K
                      refine wpQuiet_step (fun K hK => ?_); go_simp; (first | (with_reducible refine hK _ ?_) | (with_reducible refine ⟨_, fun _ _ => rfl, hK _ ?_⟩)); clear hK K
                      refine wpQuiet_step (fun K hK => ?_); refine q_load (p := .pointer (some ⟨b, ob + m * 5, none⟩)) 49 _ rfl rfl rfl (H0.out) ?_; go_simp; (with_reducible refine hK _ ?_); clear hK K
                      refine wpQuiet_step (fun K hK => ?_); refine q_load (p := .pointer (some ⟨gt, 0, none⟩)) 49 _ rfl rfl rfl (load_t HX.out) ?_; go_simp; (with_reducible refine hK _ ?_); clear hK K
                      refine wpQuiet_step (fun K hK => ?_); refine q_bin _ _ _ _ _ rfl rfl rfl rfl (net_is HNE.out) ?_; go_simp; (with_reducible refine hK _ ?_); clear hK K
                      refine wpQuiet_step (fun K hK => ?_); go_simp; (first | (with_reducible refine hK _ ?_) | (with_reducible refine ⟨_, fun _ _ => rfl, hK _ ?_⟩)); clear hK K
                      refine wpQuiet_step (fun K hK => ?_); go_simp; (first | (with_reducible refine hK _ ?_) | (with_reducible refine ⟨_, fun _ _ => rfl, hK _ ?_⟩)); clear hK K
                      refine wpQuiet_step (fun K hK => ?_); go_simp; (first | (with_reducible refine hK _ ?_) | (with_reducible refine ⟨_, fun _ _ => rfl, hK _ ?_⟩)); clear hK K
                      refine wpQuiet_step (fun K hK => ?_); go_simp; (first | (with_reducible refine hK _ ?_) | (with_reducible refine ⟨_, fun _ _ => rfl, hK _ ?_⟩)); clear hK K
                      refine wpQuiet_step (fun K hK => ?_); refine q_load (p := .pointer (some ⟨b, ob + m * 5, none⟩)) 49 _ rfl rfl rfl (H0.out) ?_; go_simp; (with_reducible refine hK _ ?_); clear hK K
                      refine wpQuiet_step (fun K hK => ?_); refine q_load (p := .pointer (some ⟨gt, 0, none⟩)) 49 _ rfl rfl rfl (load_t HX.out) ?_; go_simp; (with_reducible refine hK _ ?_); clear hK K
                      refine wpQuiet_step (fun K hK => ?_); go_simp; (with_reducible refine ⟨_, fun _ hb => (HC.out _).mono fun _ _ h => ⟨h.1, hb.trans (h.2.mono (by simpa using hb.size))⟩, hK _ ?_⟩); clear hK K
                      refine wpQuiet_step (fun K hK => ?_); go_simp; (first | (with_reducible refine hK _ ?_) | (with_reducible refine ⟨_, fun _ _ => rfl, hK _ ?_⟩)); clear hK K
                      refine wpQuiet_step (fun K hK => ?_); go_simp; (first | (with_reducible refine hK _ ?_) | (with_reducible refine ⟨_, fun _ _ => rfl, hK _ ?_⟩)); clear hK K
                      refine wpQuiet_step (fun K hK => ?_); go_simp; (first | (with_reducible refine hK _ ?_) | (with_reducible refine ⟨_, fun _ _ => rfl, hK _ ?_⟩)); clear hK K
                      refine wpQuiet_step (fun K hK => ?_); go_simp; (first | (with_reducible refine hK _ ?_) | (with_reducible refine ⟨_, fun _ _ => rfl, hK _ ?_⟩)); clear hK K
                      refine wpQuiet_step (fun K hK => ?_); refine q_bin _ _ _ _ _ rfl rfl rfl rfl (lti_is HG.out) ?_; go_simp; (with_reducible refine hK _ ?_); clear hK K
                      refine wpQuiet_step (fun K hK => ?_); go_simp; (first | (with_reducible refine hK _ ?_) | (with_reducible refine ⟨_, fun _ _ => rfl, hK _ ?_⟩)); clear hK K
                      refine wpQuiet_step (fun K hK => ?_); go_simp; (first | (with_reducible refine hK _ ?_) | (with_reducible refine ⟨_, fun _ _ => rfl, hK _ ?_⟩)); clear hK K
                      refine wpQuiet_step (fun K hK => ?_); go_simp; (first | (with_reducible refine hK _ ?_) | (with_reducible refine ⟨_, fun _ _ => rfl, hK _ ?_⟩)); clear hK K
                      refine wpQuiet_step (fun K hK => ?_); go_simp; (first | (with_reducible refine hK _ ?_) | (with_reducible refine ⟨_, fun _ _ => rfl, hK _ ?_⟩)); clear hK K
                      refine wpQuiet_step (fun K hK => ?_); refine q_load (p := .pointer (some ⟨b, ob + m * 5, none⟩)) 49 _ rfl rfl rfl (H0.out) ?_; go_simp; (with_reducible refine hK _ ?_); clear hK K
                      refine wpQuiet_step (fun K hK => ?_); refine q_load (p := .pointer (some ⟨gt, 0, none⟩)) 49 _ rfl rfl rfl (load_t HX.out) ?_; go_simp; (with_reducible refine hK _ ?_); clear hK K
                      refine wpQuiet_step (fun K hK => ?_); refine q_bin _ _ _ _ _ rfl rfl rfl rfl (eqt_is HE.out) ?_; go_simp; (with_reducible refine hK _ ?_); clear hK K
                      refine wpQuiet_step (fun K hK => ?_); go_simp; (first | (with_reducible refine hK _ ?_) | (with_reducible refine ⟨_, fun _ _ => rfl, hK _ ?_⟩)); clear hK K
                      refine wpQuiet_step (fun K hK => ?_); go_simp; (first | (with_reducible refine hK _ ?_) | (with_reducible refine ⟨_, fun _ _ => rfl, hK _ ?_⟩)); clear hK K
                      refine wpQuiet_nil ?_
                      intro wz hbel
                      go_wp2_with fail
                      go_meet
                      exact ⟨by rw [HBD.out], hbel⟩
                    · have hg : decide ((m : Int) < (k : Int)) = false := decide_eq_false (by omega)
                      have HG := Lib.hid hg; clear hg
                      refine wp_region_below (by kernel_rfl) (by kernel_rfl) ?_
                      refine wpQuiet_step (fun K hK => ?_); go_simp; (first | (with_reducible refine hK _ ?_) | (with_reducible refine ⟨_, fun _ _ => rfl, hK _ ?_⟩)); clear hK K
                      refine wpQuiet_step (fun K hK => ?_); go_simp; (first | (with_reducible refine hK _ ?_) | (with_reducible refine ⟨_, fun _ _ => rfl, hK _ ?_⟩)); clear hK K
                      refine wpQuiet_step (fun K hK => ?_); go_simp; (first | (with_reducible refine hK _ ?_) | (with_reducible refine ⟨_, fun _ _ => rfl, hK _ ?_⟩)); clear hK K
                      refine wpQuiet_step (fun K hK => ?_); refine q_load (p := .pointer (some ⟨b, ob + m * 5, none⟩)) 49 _ rfl rfl rfl (H0.out) ?_; go_simp; (with_reducible refine hK _ ?_); clear hK K
                      refine wpQuiet_step (fun K hK => ?_); refine q_load (p := .pointer (some ⟨gt, 0, none⟩)) 49 _ rfl rfl rfl (load_t HX.out) ?_; go_simp; (with_reducible refine hK _ ?_); clear hK K
                      refine wpQuiet_step (fun K hK => ?_); refine q_bin _ _ _ _ _ rfl rfl rfl rfl (net_is HNE.out) ?_; go_simp; (with_reducible refine hK _ ?_); clear hK K
                      refine wpQuiet_step (fun K hK => ?_); go_simp; (first | (with_reducible refine hK _ ?_) | (with_reducible refine ⟨_, fun _ _ => rfl, hK _ ?_⟩)); clear hK K
                      refine wpQuiet_step (fun K hK => ?_); go_simp; (first | (with_reducible refine hK _ ?_) | (with_reducible refine ⟨_, fun _ _ => rfl, hK _ ?_⟩)); clear hK K
                      refine wpQuiet_step (fun K hK => ?_); go_simp; (first | (with_reducible refine hK _ ?_) | (with_reducible refine ⟨_, fun _ _ => rfl, hK _ ?_⟩)); clear hK K
                      refine wpQuiet_step (fun K hK => ?_); go_simp; (first | (with_reducible refine hK _ ?_) | (with_reducible refine ⟨_, fun _ _ => rfl, hK _ ?_⟩)); clear hK K
                      refine wpQuiet_step (fun K hK => ?_); refine q_load (p := .pointer (some ⟨b, ob + m * 5, none⟩)) 49 _ rfl rfl rfl (H0.out) ?_; go_simp; (with_reducible refine hK _ ?_); clear hK K
                      refine wpQuiet_step (fun K hK => ?_); refine q_load (p := .pointer (some ⟨gt, 0, none⟩)) 49 _ rfl rfl rfl (load_t HX.out) ?_; go_simp; (with_reducible refine hK _ ?_); clear hK K
                      refine wpQuiet_step (fun K hK => ?_); go_simp; (with_reducible refine ⟨_, fun _ hb => (HC.out _).mono fun _ _ h => ⟨h.1, hb.trans (h.2.mono (by simpa using hb.size))⟩, hK _ ?_⟩); clear hK K
                      refine wpQuiet_step (fun K hK => ?_); go_simp; (first | (with_reducible refine hK _ ?_) | (with_reducible refine ⟨_, fun _ _ => rfl, hK _ ?_⟩)); clear hK K
                      refine wpQuiet_step (fun K hK => ?_); go_simp; (first | (with_reducible refine hK _ ?_) | (with_reducible refine ⟨_, fun _ _ => rfl, hK _ ?_⟩)); clear hK K
                      refine wpQuiet_step (fun K hK => ?_); go_simp; (first | (with_reducible refine hK _ ?_) | (with_reducible refine ⟨_, fun _ _ => rfl, hK _ ?_⟩)); clear hK K
                      refine wpQuiet_step (fun K hK => ?_); go_simp; (first | (with_reducible refine hK _ ?_) | (with_reducible refine ⟨_, fun _ _ => rfl, hK _ ?_⟩)); clear hK K
                      refine wpQuiet_step (fun K hK => ?_); refine q_bin _ _ _ _ _ rfl rfl rfl rfl (lti_is HG.out) ?_; go_simp; (with_reducible refine hK _ ?_); clear hK K
                      refine wpQuiet_step (fun K hK => ?_); go_simp; (try (with_reducible refine ⟨_, fun _ _ => rfl, ?_⟩)); generalize hA : ({ tmps := _, defers := _ } : Act) = A; (with_reducible refine hK A ?_); clear hK K
                      refine wpQuiet_step (fun K hK => ?_); subst hA; go_simp; (try (with_reducible refine ⟨_, fun _ _ => rfl, ?_⟩)); generalize hA : ({ tmps := _, defers := _ } : Act) = A; (with_reducible refine hK A ?_); clear hK K
                      refine wpQuiet_step (fun K hK => ?_); subst hA; go_simp; (try (with_reducible refine ⟨_, fun _ _ => rfl, ?_⟩)); generalize hA : ({ tmps := _, defers := _ } : Act) = A; (with_reducible refine hK A ?_); clear hK K
                      refine wpQuiet_step (fun K hK => ?_); subst hA; go_simp; (try (with_reducible refine ⟨_, fun _ _ => rfl, ?_⟩)); generalize hA : ({ tmps := _, defers := _ } : Act) = A; (with_reducible refine hK A ?_); clear hK K
                      refine wpQuiet_step (fun K hK => ?_); subst hA; go_simp; (try (with_reducible refine ⟨_, fun _ _ => rfl, ?_⟩)); generalize hA : ({ tmps := _, defers := _ } : Act) = A; (with_reducible refine hK A ?_); clear hK K
                      refine wpQuiet_step (fun K hK => ?_); subst hA; go_simp; (try (with_reducible refine ⟨_, fun _ _ => rfl, ?_⟩)); generalize hA : ({ tmps := _, defers := _ } : Act) = A; (with_reducible refine hK A ?_); clear hK K
                      refine wpQuiet_step (fun K hK => ?_); subst hA; go_simp; (try (with_reducible refine ⟨_, fun _ _ => rfl, ?_⟩)); generalize hA : ({ tmps := _, defers := _ } : Act) = A; (with_reducible refine hK A ?_); clear hK K
                      refine wpQuiet_step (fun K hK => ?_); subst hA; go_simp; (first | (with_reducible refine hK _ ?_) | (with_reducible refine ⟨_, fun _ _ => rfl, hK _ ?_⟩)); clear hK K
                      refine wpQuiet_step (fun K hK => ?_); go_simp; (first | (with_reducible refine hK _ ?_) | (with_reducible refine ⟨_, fun _ _ => rfl, hK _ ?_⟩)); clear hK K
                      refine wpQuiet_nil ?_
                      intro wz hbel
                      go_wp2_with fail
                      go_meet
                      exact ⟨by rw [HBD.out], hbel⟩
              case rest =>
                obtain ⟨rfl, hbel⟩ := hcut
                have HR2 := Lib.hid (And.intro (HB.out.trans (hbel.mono HB.out.size)) (And.intro (HSO.out.below hbel) (HX.out.below hbel))); clear hbel
                cases hv : badJ k t m x with
                | true =>
                  have HN := Lib.hid (least_bad HXX.out hv); clear hv
                  go_wp2_with fail
                  go_roundw
                  case rel => exact ⟨m + 1, by omega, by simp, by rw [HN.out], HR2.out.1, HR2.out.2.1, HR2.out.2.2⟩
                  case measure => simp only [intOf]; omega
                | false =>
                  have HN := Lib.hid (least_good HXX.out hv); clear hv
                  go_wp2_with fail
                  go_roundw
                  case rel => exact ⟨m + 1, by omega, by simp, by rw [HN.out], HR2.out.1, HR2.out.2.1, HR2.out.2.2⟩
                  case measure => simp only [intOf]; omega
            · have hm' : m = ts.length := by omega
              subst hm'
              by_cases hl : LeastTo ts k t ts.length
              case neg =>
                rw [decide_eq_false hl]
                have HG2 := Lib.hid (good_skip HGO.out HTT.out.1 hl); clear hl
                go_wp2_with fail
                go_roundw
                case rel => exact ⟨k + 1, o, A', c', by omega, by simp, rfl, HSO.out, by omega, HOR.out, HAB.out, HB.out, HG2.out, HE2.out⟩
                case measure => simp only [intOf]; omega
              rw [decide_eq_true hl]
              have HL := Lib.hid hl; clear hl
              go_wp2_with fail
              go_loopw [9] (fun av wr => ∃ q : Nat, q ≤ o.length ∧ av = .int .i64 q ∧ Below w.heap.size w wr ∧ Slc wr A' c' o ∧ Holds wr gt t ∧ ∀ (j : Nat) (x : St), j < q → o[j]? = some x → x.C t < 0) (fun av _ => o.length - (intOf av).toNat)
              case atStart => exact ⟨0, by omega, rfl, HB.out, HSO.out, HX.out, fun j x h => absurd h (by omega)⟩
              case round =>
                obtain ⟨q, hq, rfl, hb, hso, hx, hlo⟩ := hrel
                clear HB HSO HX
                have HB := Lib.hid hb; have HSO := Lib.hid hso; have HX := Lib.hid hx; have HLO := Lib.hid hlo; clear hb hso hx hlo
                by_cases hqo : q < o.length
                · obtain ⟨y, hy⟩ : ∃ y, o[q]? = some y := ⟨_, List.getElem?_eq_getElem hqo⟩
                  obtain ⟨b9, o9, hAe, _, h0⟩ := HSO.out.ts.load hy
                  subst hAe
                  have hg : decide ((q : Int) < (o.length : Int)) = true := decide_eq_true (by omega)
                  have hqz : (q : Int) < (o.length : Int) := by omega
                  have hc := fun w => refCompare_any y t w
                  have hst : stepS o q t = decide (y.C t < 0) := by unfold stepS; rw [hy]
                  generalize hcc : y.C t = cc at *
                  unfold St.val at *
                  have H0 := Lib.hid h0; have HG := Lib.hid hg; have HC := Lib.hid hc; have HY := Lib.hid (And.intro hy hcc); clear h0 hg hc hy hcc
                  cases hcv : decide (cc < 0) with
                  | true =>
                    rw [hcv] at hst
                    have HCV := Lib.hid hcv; have HST := Lib.hid hst; clear hcv hst
                    go_wp2_with fail
                    refine wp_region_below (by kernel_rfl) (by kernel_rfl) ?_
                    refine wpQuiet_step (fun K hK => ?_); go_simp; (first | (with_reducible refine hK _ ?_) | (with_reducible refine ⟨_, fun _ _ => rfl, hK _ ?_⟩)); clear hK K
                    refine wpQuiet_step (fun K hK => ?_); go_simp; (first | (with_reducible refine hK _ ?_) | (with_reducible refine ⟨_, fun _ _ => rfl, hK _ ?_⟩)); clear hK K
                    refine wpQuiet_step (fun K hK => ?_); go_simp; (first | (with_reducible refine hK _ ?_) | (with_reducible refine ⟨_, fun _ _ => rfl, hK _ ?_⟩)); clear hK K
                    refine wpQuiet_step (fun K hK => ?_); refine q_bin _ _ _ _ _ rfl rfl rfl rfl (lti_is HG.out) ?_; go_simp; (with_reducible refine hK _ ?_); clear hK K
                    refine wpQuiet_step (fun K hK => ?_); go_simp; (first | (with_reducible refine hK _ ?_) | (with_reducible refine ⟨_, fun _ _ => rfl, hK _ ?_⟩)); clear hK K
                    refine wpQuiet_step (fun K hK => ?_); go_simp; (first | (with_reducible refine hK _ ?_) | (with_reducible refine ⟨_, fun _ _ => rfl, hK _ ?_⟩)); clear hK K
                    refine wpQuiet_step (fun K hK => ?_); go_simp; (first | (with_reducible refine hK _ ?_) | (with_reducible refine ⟨_, fun _ _ => rfl, hK _ ?_⟩)); clear hK K
                    refine wpQuiet_step (fun K hK => ?_); go_simp; (first | (with_reducible refine hK _ ?_) | (with_reducible refine ⟨_, fun _ _ => rfl, hK _ ?_⟩)); clear hK K
                    refine wpQuiet_step (fun K hK => ?_); refine q_load (p := .pointer (some ⟨b9, o9 + q * 5, none⟩)) 49 _ rfl rfl rfl (H0.out) ?_; go_simp; (with_reducible refine hK _ ?_); clear hK K
                    refine wpQuiet_step (fun K hK => ?_); refine q_load (p := .pointer (some ⟨gt, 0, none⟩)) 49 _ rfl rfl rfl (load_t HX.out) ?_; go_simp; (with_reducible refine hK _ ?_); clear hK K
                    refine wpQuiet_step (fun K hK => ?_); go_simp; (with_reducible refine ⟨_, fun _ hb => (HC.out _).mono fun _ _ h => ⟨h.1, hb.trans (h.2.mono (by simpa using hb.size))⟩, hK _ ?_⟩); clear hK K
                    refine wpQuiet_step (fun K hK => ?_); refine q_bin _ _ _ _ _ rfl rfl rfl rfl (lti_is HCV.out) ?_; go_simp; (with_reducible refine hK _ ?_); clear hK K
                    refine wpQuiet_step (fun K hK => ?_); go_simp; (first | (with_reducible refine hK _ ?_) | (with_reducible refine ⟨_, fun _ _ => rfl, hK _ ?_⟩)); clear hK K
                    refine wpQuiet_nil ?_
                    intro wi hbel
                    have hb := HB.out.trans (hbel.mono HB.out.size); have hso := HSO.out.below hbel; have hx := HX.out.below hbel
                    clear HB HSO HX hbel
                    have HB := Lib.hid hb; have HSO := Lib.hid hso; have HX := Lib.hid hx; clear hb hso hx
                    go_wp2_with fail
                    go_roundw
                    case rel =>
                      refine ⟨q + 1, by omega, by simp, HB.out, HSO.out, HX.out, fun j y' hj hy => ?_⟩
                      by_cases e : j = q
                      · subst e
                        rw [HY.out.1] at hy; cases hy
                        rw [HY.out.2]
                        exact of_decide_eq_true HCV.out
                      · exact HLO.out j y' (by omega) hy
                    case measure => simp only [intOf]; omega
                  | false =>
                    rw [hcv] at hst
                    have HCV := Lib.hid hcv; have HST := Lib.hid hst; clear hcv hst
                    go_wp2_with fail
                    refine wp_region_below (by kernel_rfl) (by kernel_rfl) ?_
                    refine wpQuiet_step (fun K hK => ?_); go_simp; (first | (with_reducible refine hK _ ?_) | (with_reducible refine ⟨_, fun _ _ => rfl, hK _ ?_⟩)); clear hK K
                    refine wpQuiet_step (fun K hK => ?_); go_simp; (first | (with_reducible refine hK _ ?_) | (with_reducible refine ⟨_, fun _ _ => rfl, hK _ ?_⟩)); clear hK K
                    refine wpQuiet_step (fun K hK => ?_); go_simp; (first | (with_reducible refine hK _ ?_) | (with_reducible refine ⟨_, fun _ _ => rfl, hK _ ?_⟩)); clear hK K
                    refine wpQuiet_step (fun K hK => ?_); refine q_bin _ _ _ _ _ rfl rfl rfl rfl (lti_is HG.out) ?_; go_simp; (with_reducible refine hK _ ?_); clear hK K
                    refine wpQuiet_step (fun K hK => ?_); go_simp; (first | (with_reducible refine hK _ ?_) | (with_reducible refine ⟨_, fun _ _ => rfl, hK _ ?_⟩)); clear hK K
                    refine wpQuiet_step (fun K hK => ?_); go_simp; (first | (with_reducible refine hK _ ?_) | (with_reducible refine ⟨_, fun _ _ => rfl, hK _ ?_⟩)); clear hK K
                    refine wpQuiet_step (fun K hK => ?_); go_simp; (first | (with_reducible refine hK _ ?_) | (with_reducible refine ⟨_, fun _ _ => rfl, hK _ ?_⟩)); clear hK K
                    refine wpQuiet_step (fun K hK => ?_); go_simp; (first | (with_reducible refine hK _ ?_) | (with_reducible refine ⟨_, fun _ _ => rfl, hK _ ?_⟩)); clear hK K
                    refine wpQuiet_step (fun K hK => ?_); refine q_load (p := .pointer (some ⟨b9, o9 + q * 5, none⟩)) 49 _ rfl rfl rfl (H0.out) ?_; go_simp; (with_reducible refine hK _ ?_); clear hK K
                    refine wpQuiet_step (fun K hK => ?_); refine q_load (p := .pointer (some ⟨gt, 0, none⟩)) 49 _ rfl rfl rfl (load_t HX.out) ?_; go_simp; (with_reducible refine hK _ ?_); clear hK K
                    refine wpQuiet_step (fun K hK => ?_); go_simp; (with_reducible refine ⟨_, fun _ hb => (HC.out _).mono fun _ _ h => ⟨h.1, hb.trans (h.2.mono (by simpa using hb.size))⟩, hK _ ?_⟩); clear hK K
                    refine wpQuiet_step (fun K hK => ?_); refine q_bin _ _ _ _ _ rfl rfl rfl rfl (lti_is HCV.out) ?_; go_simp; (with_reducible refine hK _ ?_); clear hK K
                    refine wpQuiet_step (fun K hK => ?_); go_simp; (first | (with_reducible refine hK _ ?_) | (with_reducible refine ⟨_, fun _ _ => rfl, hK _ ?_⟩)); clear hK K
                    refine wpQuiet_nil ?_
                    intro wi hbel
                    have hb := HB.out.trans (hbel.mono HB.out.size); have hso := HSO.out.below hbel; have hx := HX.out.below hbel
                    clear HB HSO HX hbel
                    have HB := Lib.hid hb; have HSO := Lib.hid hso; have HX := Lib.hid hx; clear hb hso hx
                    have HG2 := Lib.hid (good_put HGO.out HTT.out.1 HL.out HLO.out HST.out); clear HLO HGO HL HST
                    have hle := HSO.out.le
                    have hqc : q ≤ c' := by omega
                    have hnil := HSO.out.nil; have htk := HSO.out.ts.take q
                    have hb0 := HB.out.size
                    have hbs : wi.heap.size ≤ wi.heap.size := Nat.le_refl _
                    go_upto_region 20 with (at_builtin; refine wpList_append_tn rfl _ _ rfl wi.heap.size _ 0 [] rfl (World.ownsRow_nil _ _ _ _) (some ⟨b9, o9, none⟩) c' q (o.take q) (by first | (rw [List.length_take]; omega) | simp) rfl hnil htk (by first | (rw [List.length_take]; omega) | simp) hbs ?_; intro va wa hown hgr)
                    have hba := own_belowS (World.ownsRow_nil wi wi.heap.size 49 5) hgr (Below.refl _ _) hbs
                    rw [List.nil_append, Nat.zero_add] at hown
                    have hx4 := HX.out.below hba
                    have HBA := Lib.hid hba; have HO := Lib.hid hown
                    have hoA := HO.out.alloc (.cells #[.int .i64 t.d, .int .i64 t.e, .int .i64 t.x, .int .i64 t.y, .int .i64 t.z] 49)
                    have hTA := Times.made wa [t]
                    have hbA := HBA.out.alloc HBA.out.size (.cells #[.int .i64 t.d, .int .i64 t.e, .int .i64 t.x, .int .i64 t.y, .int .i64 t.z] 49)
                    have hbs := hbA.size
                    have HBB := Lib.hid hbA
                    obtain ⟨d0, d1, d2, d3, d4⟩ := hx4.cells5
                    have hl4 := hx4.lt
                    have hlt4 : (o.take q).length ≤ q := by first | (rw [List.length_take]; omega) | simp
                    clear hown hgr hba hbA hnil htk hx4 hb0
                    go_upto_region 21 with (at_builtin; refine wpList_append_times rfl _ _ rfl wi.heap.size _ (o.take q).length (o.take q) rfl hoA ⟨wa.heap.size, 0, none⟩ 1 [t] rfl (by simp) hTA (by first | (simp; done) | (simp; omega)) hbs ?_; intro vb wb hown hgr)
                    have hbb := own_belowS hoA hgr HBB.out hbs
                    have HBC := Lib.hid hbb; have HO2 := Lib.hid hown
                    clear hown hgr hbb hoA hTA hbs HO HBA HBB d0 d1 d2 d3 d4 hl4
                    have hbs := HBC.out.size
                    have hown2 := HO2.out
                    have hln : (o.take q ++ [t]).length ≤ q + 1 := by first | (simp; done) | (simp; omega)
                    have hld : (o.drop q).length = o.length - q := List.length_drop
                    go_wp2_with (at_builtin; refine wpList_append_tn rfl _ _ rfl wi.heap.size _ _ (o.take q ++ [t]) rfl hown2 _ _ _ (o.drop q) (by first | exact hld | (rw [hld]; omega) | simp) rfl (fun hh => by cases hh) (Ts.drop ((HSO.out.below HBC.out).ts) q) (by rw [hld]; have : [t].length = 1 := rfl; omega) hbs ?_; intro vc wc9 hown hgr)
                    have hbc := own_belowS hown2 hgr HBC.out hbs
                    obtain ⟨An, cn, rfl, hsn, hbn⟩ := Slc.of_ownB hown
                    have hwi := HB.out.size
                    have HAN := Lib.hid (show ∀ ad, An = some ad → w.heap.size ≤ ad.block from fun ad h => Nat.le_trans hwi (hbn ad h))
                    clear hbn hwi
                    have HSN := Lib.hid hsn; have HBN := Lib.hid (HB.out.trans (hbc.mono HB.out.size))
                    clear hown hgr hbc hsn hown2 HBC HO2
                    go_wp2_with fail
                    go_roundw
                    case rel => exact ⟨k + 1, _, An, cn, by omega, by simp, rfl, HSN.out, by first | (simp; done) | (simp; omega), .inr (by first | (simp; done) | (simp; omega)), HAN.out, HBN.out, HG2.out, HE2.out⟩
                    case measure => simp only [intOf]; omega
                · have hg : decide ((q : Int) < (o.length : Int)) = false := decide_eq_false (by omega)
                  have hst : stepS o q t = false := by unfold stepS; rw [List.getElem?_eq_none (by omega)]
                  have HST := Lib.hid hst; have HG := Lib.hid hg; clear hst hg
                  go_wp2_with fail
                  refine wp_region_below (by kernel_rfl) (by kernel_rfl) ?_
                  refine wpQuiet_step (fun K hK => ?_); go_simp; (first | (with_reducible refine hK _ ?_) | (with_reducible refine ⟨_, fun _ _ => rfl, hK _ ?_⟩)); clear hK K
                  refine wpQuiet_step (fun K hK => ?_); go_simp; (first | (with_reducible refine hK _ ?_) | (with_reducible refine ⟨_, fun _ _ => rfl, hK _ ?_⟩)); clear hK K
                  refine wpQuiet_step (fun K hK => ?_); go_simp; (first | (with_reducible refine hK _ ?_) | (with_reducible refine ⟨_, fun _ _ => rfl, hK _ ?_⟩)); clear hK K
                  refine wpQuiet_step (fun K hK => ?_); refine q_bin _ _ _ _ _ rfl rfl rfl rfl (lti_is HG.out) ?_; go_simp; (with_reducible refine hK _ ?_); clear hK K
                  refine wpQuiet_step (fun K hK => ?_); go_simp; (try (with_reducible refine ⟨_, fun _ _ => rfl, ?_⟩)); generalize hA : ({ tmps := _, defers := _ } : Act) = A; (with_reducible refine hK A ?_); clear hK K
                  refine wpQuiet_step (fun K hK => ?_); subst hA; go_simp; (try (with_reducible refine ⟨_, fun _ _ => rfl, ?_⟩)); generalize hA : ({ tmps := _, defers := _ } : Act) = A; (with_reducible refine hK A ?_); clear hK K
                  refine wpQuiet_step (fun K hK => ?_); subst hA; go_simp; (try (with_reducible refine ⟨_, fun _ _ => rfl, ?_⟩)); generalize hA : ({ tmps := _, defers := _ } : Act) = A; (with_reducible refine hK A ?_); clear hK K
                  refine wpQuiet_step (fun K hK => ?_); subst hA; go_simp; (try (with_reducible refine ⟨_, fun _ _ => rfl, ?_⟩)); generalize hA : ({ tmps := _, defers := _ } : Act) = A; (with_reducible refine hK A ?_); clear hK K
                  refine wpQuiet_step (fun K hK => ?_); subst hA; go_simp; (try (with_reducible refine ⟨_, fun _ _ => rfl, ?_⟩)); generalize hA : ({ tmps := _, defers := _ } : Act) = A; (with_reducible refine hK A ?_); clear hK K
                  refine wpQuiet_step (fun K hK => ?_); subst hA; go_simp; (try (with_reducible refine ⟨_, fun _ _ => rfl, ?_⟩)); generalize hA : ({ tmps := _, defers := _ } : Act) = A; (with_reducible refine hK A ?_); clear hK K
                  refine wpQuiet_step (fun K hK => ?_); subst hA; go_simp; (try (with_reducible refine ⟨_, fun _ _ => rfl, ?_⟩)); generalize hA : ({ tmps := _, defers := _ } : Act) = A; (with_reducible refine hK A ?_); clear hK K
                  refine wpQuiet_step (fun K hK => ?_); subst hA; go_simp; (try (with_reducible refine ⟨_, fun _ _ => rfl, ?_⟩)); generalize hA : ({ tmps := _, defers := _ } : Act) = A; (with_reducible refine hK A ?_); clear hK K
                  refine wpQuiet_step (fun K hK => ?_); subst hA; go_simp; (first | (with_reducible refine hK _ ?_) | (with_reducible refine ⟨_, fun _ _ => rfl, hK _ ?_⟩)); clear hK K
                  refine wpQuiet_nil ?_
                  intro wi hbel
                  have hb := HB.out.trans (hbel.mono HB.out.size); have hso := HSO.out.below hbel; have hx := HX.out.below hbel
                  clear HB HSO HX hbel
                  have HB := Lib.hid hb; have HSO := Lib.hid hso; have HX := Lib.hid hx; clear hb hso hx
                  have hor := HOR.out
                  cases A' with
                  | none =>
                    have hc0 : c' = 0 := HSO.out.nil rfl
                    subst hc0
                    have ho0 : o = [] := List.eq_nil_of_length_eq_zero (by have := HSO.out.le; omega)
                    subst ho0
                    have hq0 : q = 0 := by simpa using hq
                    subst hq0
                    have HG2 := Lib.hid (good_put HGO.out HTT.out.1 HL.out HLO.out HST.out); clear HLO HGO HL HST
                    have hle := HSO.out.le
                    have hqc : 0 ≤ 0 := by omega
                    have hnil := HSO.out.nil; have htk := HSO.out.ts.take 0
                    have hb0 := HB.out.size
                    have hbs : wi.heap.size ≤ wi.heap.size := Nat.le_refl _
                    go_upto_region 20 with (at_builtin; refine wpList_append_tn rfl _ _ rfl wi.heap.size _ 0 [] rfl (World.ownsRow_nil _ _ _ _) none 0 0 (([] : List St).take 0) (by first | (rw [List.length_take]; omega) | simp) rfl hnil htk (by first | (rw [List.length_take]; omega) | simp) hbs ?_; intro va wa hown hgr)
                    have hba := own_belowS (World.ownsRow_nil wi wi.heap.size 49 5) hgr (Below.refl _ _) hbs
                    rw [List.nil_append, Nat.zero_add] at hown
                    have hx4 := HX.out.below hba
                    have HBA := Lib.hid hba; have HO := Lib.hid hown
                    have hoA := HO.out.alloc (.cells #[.int .i64 t.d, .int .i64 t.e, .int .i64 t.x, .int .i64 t.y, .int .i64 t.z] 49)
                    have hTA := Times.made wa [t]
                    have hbA := HBA.out.alloc HBA.out.size (.cells #[.int .i64 t.d, .int .i64 t.e, .int .i64 t.x, .int .i64 t.y, .int .i64 t.z] 49)
                    have hbs := hbA.size
                    have HBB := Lib.hid hbA
                    obtain ⟨d0, d1, d2, d3, d4⟩ := hx4.cells5
                    have hl4 := hx4.lt
                    have hlt4 : (([] : List St).take 0).length ≤ 0 := by first | (rw [List.length_take]; omega) | simp
                    clear hown hgr hba hbA hnil htk hx4 hb0
                    go_upto_region 21 with (at_builtin; refine wpList_append_times rfl _ _ rfl wi.heap.size _ (([] : List St).take 0).length (([] : List St).take 0) rfl hoA ⟨wa.heap.size, 0, none⟩ 1 [t] rfl (by simp) hTA (by first | (simp; done) | (simp; omega)) hbs ?_; intro vb wb hown hgr)
                    have hbb := own_belowS hoA hgr HBB.out hbs
                    have HBC := Lib.hid hbb; have HO2 := Lib.hid hown
                    clear hown hgr hbb hoA hTA hbs HO HBA HBB d0 d1 d2 d3 d4 hl4
                    have hbs := HBC.out.size
                    have hown2 := HO2.out
                    have hln : (([] : List St).take 0 ++ [t]).length ≤ 0 + 1 := by first | (simp; done) | (simp; omega)
                    have hld : (([] : List St).drop 0).length = ([] : List St).length - 0 := List.length_drop
                    go_wp2_with (at_builtin; refine wpList_append_tn rfl _ _ rfl wi.heap.size _ _ (([] : List St).take 0 ++ [t]) rfl hown2 _ _ _ (([] : List St).drop 0) (by first | exact hld | (rw [hld]; omega) | simp) rfl (fun _ => rfl) Ts.nil (by simp) hbs ?_; intro vc wc9 hown hgr)
                    have hbc := own_belowS hown2 hgr HBC.out hbs
                    obtain ⟨An, cn, rfl, hsn, hbn⟩ := Slc.of_ownB hown
                    have hwi := HB.out.size
                    have HAN := Lib.hid (show ∀ ad, An = some ad → w.heap.size ≤ ad.block from fun ad h => Nat.le_trans hwi (hbn ad h))
                    clear hbn hwi
                    have HSN := Lib.hid hsn; have HBN := Lib.hid (HB.out.trans (hbc.mono HB.out.size))
                    clear hown hgr hbc hsn hown2 HBC HO2
                    go_wp2_with fail
                    go_roundw
                    case rel => exact ⟨k + 1, _, An, cn, by omega, by simp, rfl, HSN.out, by first | (simp; done) | (simp; omega), .inr (by first | (simp; done) | (simp; omega)), HAN.out, HBN.out, HG2.out, HE2.out⟩
                    case measure => simp only [intOf]; omega
                  | some ad =>
                    have hop : 0 < o.length := by
                      rcases hor with h | h
                      · cases h
                      · exact h
                    obtain ⟨b9, o9, hAe, _⟩ := HSO.out.ts hop
                    cases hAe
                    by_cases hcq : c' = q
                    · subst hcq
                      have HG2 := Lib.hid (good_put HGO.out HTT.out.1 HL.out HLO.out HST.out); clear HLO HGO HL HST
                      have hle := HSO.out.le
                      have hqc : c' ≤ c' := by omega
                      have hnil := HSO.out.nil; have htk := HSO.out.ts.take c'
                      have hb0 := HB.out.size
                      have hbs : wi.heap.size ≤ wi.heap.size := Nat.le_refl _
                      go_upto_region 20 with (at_builtin; refine wpList_append_tn rfl _ _ rfl wi.heap.size _ 0 [] rfl (World.ownsRow_nil _ _ _ _) (some ⟨b9, o9, none⟩) c' c' (o.take c') (by first | (rw [List.length_take]; omega) | simp) rfl hnil htk (by first | (rw [List.length_take]; omega) | simp) hbs ?_; intro va wa hown hgr)
                      have hba := own_belowS (World.ownsRow_nil wi wi.heap.size 49 5) hgr (Below.refl _ _) hbs
                      rw [List.nil_append, Nat.zero_add] at hown
                      have hx4 := HX.out.below hba
                      have HBA := Lib.hid hba; have HO := Lib.hid hown
                      have hoA := HO.out.alloc (.cells #[.int .i64 t.d, .int .i64 t.e, .int .i64 t.x, .int .i64 t.y, .int .i64 t.z] 49)
                      have hTA := Times.made wa [t]
                      have hbA := HBA.out.alloc HBA.out.size (.cells #[.int .i64 t.d, .int .i64 t.e, .int .i64 t.x, .int .i64 t.y, .int .i64 t.z] 49)
                      have hbs := hbA.size
                      have HBB := Lib.hid hbA
                      obtain ⟨d0, d1, d2, d3, d4⟩ := hx4.cells5
                      have hl4 := hx4.lt
                      have hlt4 : (o.take c').length ≤ c' := by first | (rw [List.length_take]; omega) | simp
                      clear hown hgr hba hbA hnil htk hx4 hb0
                      go_upto_region 21 with (at_builtin; refine wpList_append_times rfl _ _ rfl wi.heap.size _ (o.take c').length (o.take c') rfl hoA ⟨wa.heap.size, 0, none⟩ 1 [t] rfl (by simp) hTA (by first | (simp; done) | (simp; omega)) hbs ?_; intro vb wb hown hgr)
                      have hbb := own_belowS hoA hgr HBB.out hbs
                      have HBC := Lib.hid hbb; have HO2 := Lib.hid hown
                      clear hown hgr hbb hoA hTA hbs HO HBA HBB d0 d1 d2 d3 d4 hl4
                      have hbs := HBC.out.size
                      have hown2 := HO2.out
                      have hln : (o.take c' ++ [t]).length ≤ c' + 1 := by first | (simp; done) | (simp; omega)
                      have hld : (o.drop c').length = o.length - c' := List.length_drop
                      go_wp2_with (at_builtin; refine wpList_append_tn rfl _ _ rfl wi.heap.size _ _ (o.take c' ++ [t]) rfl hown2 _ _ _ (o.drop c') (by first | exact hld | (rw [hld]; omega) | simp) rfl (by intro hh; first | cases hh | (simp at hh; done) | (split at hh <;> cases hh)) (by first | exact Ts.nil | (rw [List.drop_eq_nil_of_le (by omega)]; exact Ts.nil)) (by rw [hld]; have : [t].length = 1 := rfl; omega) hbs ?_; intro vc wc9 hown hgr)
                      have hbc := own_belowS hown2 hgr HBC.out hbs
                      obtain ⟨An, cn, rfl, hsn, hbn⟩ := Slc.of_ownB hown
                      have hwi := HB.out.size
                      have HAN := Lib.hid (show ∀ ad, An = some ad → w.heap.size ≤ ad.block from fun ad h => Nat.le_trans hwi (hbn ad h))
                      clear hbn hwi
                      have HSN := Lib.hid hsn; have HBN := Lib.hid (HB.out.trans (hbc.mono HB.out.size))
                      clear hown hgr hbc hsn hown2 HBC HO2
                      go_wp2_with fail
                      go_roundw
                      case rel => exact ⟨k + 1, _, An, cn, by omega, by simp, rfl, HSN.out, by first | (simp; done) | (simp; omega), .inr (by first | (simp; done) | (simp; omega)), HAN.out, HBN.out, HG2.out, HE2.out⟩
                      case measure => simp only [intOf]; omega
                    · skip
                      have HG2 := Lib.hid (good_put HGO.out HTT.out.1 HL.out HLO.out HST.out); clear HLO HGO HL HST
                      have hle := HSO.out.le
                      have hqc : q ≤ c' := by omega
                      have hnil := HSO.out.nil; have htk := HSO.out.ts.take q
                      have hb0 := HB.out.size
                      have hbs : wi.heap.size ≤ wi.heap.size := Nat.le_refl _
                      go_upto_region 20 with (at_builtin; refine wpList_append_tn rfl _ _ rfl wi.heap.size _ 0 [] rfl (World.ownsRow_nil _ _ _ _) (some ⟨b9, o9, none⟩) c' q (o.take q) (by first | (rw [List.length_take]; omega) | simp) rfl hnil htk (by first | (rw [List.length_take]; omega) | simp) hbs ?_; intro va wa hown hgr)
                      have hba := own_belowS (World.ownsRow_nil wi wi.heap.size 49 5) hgr (Below.refl _ _) hbs
                      rw [List.nil_append, Nat.zero_add] at hown
                      have hx4 := HX.out.below hba
                      have HBA := Lib.hid hba; have HO := Lib.hid hown
                      have hoA := HO.out.alloc (.cells #[.int .i64 t.d, .int .i64 t.e, .int .i64 t.x, .int .i64 t.y, .int .i64 t.z] 49)
                      have hTA := Times.made wa [t]
                      have hbA := HBA.out.alloc HBA.out.size (.cells #[.int .i64 t.d, .int .i64 t.e, .int .i64 t.x, .int .i64 t.y, .int .i64 t.z] 49)
                      have hbs := hbA.size
                      have HBB := Lib.hid hbA
                      obtain ⟨d0, d1, d2, d3, d4⟩ := hx4.cells5
                      have hl4 := hx4.lt
                      have hlt4 : (o.take q).length ≤ q := by first | (rw [List.length_take]; omega) | simp
                      clear hown hgr hba hbA hnil htk hx4 hb0
                      go_upto_region 21 with (at_builtin; refine wpList_append_times rfl _ _ rfl wi.heap.size _ (o.take q).length (o.take q) rfl hoA ⟨wa.heap.size, 0, none⟩ 1 [t] rfl (by simp) hTA (by first | (simp; done) | (simp; omega)) hbs ?_; intro vb wb hown hgr)
                      have hbb := own_belowS hoA hgr HBB.out hbs
                      have HBC := Lib.hid hbb; have HO2 := Lib.hid hown
                      clear hown hgr hbb hoA hTA hbs HO HBA HBB d0 d1 d2 d3 d4 hl4
                      have hbs := HBC.out.size
                      have hown2 := HO2.out
                      have hln : (o.take q ++ [t]).length ≤ q + 1 := by first | (simp; done) | (simp; omega)
                      have hld : (o.drop q).length = o.length - q := List.length_drop
                      go_wp2_with (at_builtin; refine wpList_append_tn rfl _ _ rfl wi.heap.size _ _ (o.take q ++ [t]) rfl hown2 _ _ _ (o.drop q) (by first | exact hld | (rw [hld]; omega) | simp) rfl (by intro hh; first | cases hh | (simp at hh; done) | (split at hh <;> cases hh)) (by first | exact Ts.nil | (rw [List.drop_eq_nil_of_le (by omega)]; exact Ts.nil)) (by rw [hld]; have : [t].length = 1 := rfl; omega) hbs ?_; intro vc wc9 hown hgr)
                      have hbc := own_belowS hown2 hgr HBC.out hbs
                      obtain ⟨An, cn, rfl, hsn, hbn⟩ := Slc.of_ownB hown
                      have hwi := HB.out.size
                      have HAN := Lib.hid (show ∀ ad, An = some ad → w.heap.size ≤ ad.block from fun ad h => Nat.le_trans hwi (hbn ad h))
                      clear hbn hwi
                      have HSN := Lib.hid hsn; have HBN := Lib.hid (HB.out.trans (hbc.mono HB.out.size))
                      clear hown hgr hbc hsn hown2 HBC HO2
                      go_wp2_with fail
                      go_roundw
                      case rel => exact ⟨k + 1, _, An, cn, by omega, by simp, rfl, HSN.out, by first | (simp; done) | (simp; omega), .inr (by first | (simp; done) | (simp; omega)), HAN.out, HBN.out, HG2.out, HE2.out⟩
                      case measure => simp only [intOf]; omega
    · have hk' : k = ts.length := by omega
      subst hk'
      go_wp2_with fail
      go_ret2
      rw [decide_eq_true (even_to HEV.out), show o = ofS ts from good_end HGO.out HEV.out]
      have hso := HSO.out
      rw [show o = ofS ts from good_end HGO.out HEV.out] at hso
      exact ⟨⟨A', c', rfl, hso, HAB.out⟩, HB.out⟩
end
end Go.Proofs.YtcdofkhkckodjaaGreatDoor
