/- OpRun, StEq, StRef, StRefYes, Tail, StNear, StRight, StBothP -/
import Derived.Test.YtkhmefbmffpkcaaCa19
import Derived.Test.YtkhmefbmffpkcaaCa9
import Derived.Laws.StructEq
import Derived.Laws.Rows
import Derived.Test.YtkhmefbmffpkcaaCa1
import Derived.StillTailTactics
import Derived.Deep.QuietTactic
import Derived.BigQuiet
namespace Go.Proofs.Ytkhmefbmffpkcaa
set_option linter.unusedVariables false
section
namespace Op
open Go.ChangeShapes Go.WideShapes Go.ChangeAt Go.RowKit Go.BigFrame Go.Shelf Vr
set_option maxRecDepth 100000
/-- what is made of rows, sorted -/
def runR (n : Nd) (ls : List (List Rd)) : List Rd := if errR n ls.length = 0 then sortR (makesR n ls) else []
/-- what Run answers -/
def GivesE (l : List Rd) (er : Int) (w : World) (e : Ending) (w' : World) : Prop := (∃ v', e = .returned (.tuple #[v', .int .i64 er]) ∧ RowV w' v' l) ∧ Below w.heap.size w w'
/-- the closure that is looked up -/
def vtR (g k : Nat) (i : Nat) (v : Value) : Prop := match i with
  | 1 => v = .pointer (some ⟨g, 0, none⟩)
  | 2 => v = .int .u8 (k : Nat)
  | 3 => v = fnV (doesF k)
  | 4 => v = fnV (doesF k)
  | _ => True
def FR (wz : World) (b : Nat → Bool) (vs : Nat → Value) (w : World) : Prop := Below wz.heap.size wz w ∧ (b 0 = true → ∃ m, vs 0 = .map (some m) ∧ w.ownsMap Try.prog 5 RF m 10 KD)
theorem FR.step {wz w : World} {b : Nat → Bool} {vs : Nat → Value} (h : FR wz b vs w) {i : Nat} (hi : 0 ≠ i) {v : Value} : FR wz (Free.updb b i) (Free.updw vs i v) w := by
  refine ⟨h.1, ?_⟩
  rw [Free.updb_ne hi, Free.updw_ne hi]; exact h.2
theorem num_kind {n : Nd} (hnum : n.num = true) : 1 ≤ n.k ∧ n.k ≤ 10 := by
  unfold Nd.num at hnum
  split at hnum
  · omega
  · split at hnum
    · omega
    · split at hnum
      · omega
      · split at hnum
        · omega
        · have := of_decide_eq_true hnum; omega
theorem makes_len0 {n : Nd} (h : n.want = 0) : makesR n [] = [] := by
  have hk : n.k = 1 := by
    unfold Nd.want at h
    split at h
    · assumption
    · split at h <;> omega
  unfold makesR; rw [if_neg (by omega), if_neg (by omega), if_neg (by omega), if_neg (by omega)]; rfl
theorem makes_len {n : Nd} {ls : List (List Rd)} (hw : ls.length = n.want) (hl : ∀ l ∈ ls, l.length ≤ 200) : (makesR n ls).length ≤ 100000 := by
  have hw2 : n.want ≤ 2 := by
    unfold Nd.want
    split
    · omega
    · split <;> omega
  match ls, hw, hl with
  | [], hw, _ => rw [makes_len0 hw.symm]; simp
  | [a], _, hl => have := makes_len1 (n := n) (a := a); have := hl a (by simp); omega
  | [a, b], _, hl =>
    have h1 := makes_len2 (n := n) (a := a) (b := b); have h2 := hl a (by simp); have h3 := hl b (by simp)
    have h4 : a.length * b.length ≤ 200 * 200 := Nat.mul_le_mul h2 h3
    omega
  | _ :: _ :: _ :: _, hw, _ => simp at hw; omega
set_option maxHeartbeats 1000000 in
theorem run_v {w : World} {v : Value} {ls : List (List Rd)} (n : Nd) (NA : Option Addr) (nm nc : Nat) (hI : InV w v ls) (hk : n.k < 256) (ha : n.a < 256) (hb : -9223372036854775808 ≤ n.b ∧ n.b ≤ 9223372036854775807) (hd : -9223372036854775808 ≤ n.d ∧ n.d ≤ 9223372036854775807)
    (hr : ls.length ≤ 40) (hW : ∀ l ∈ ls, ∀ r ∈ l, r.W) (hl : ∀ l ∈ ls, l.length ≤ 200) :
    Calls Try.prog 14 #[nodeV n NA nm nc, v] w (GivesE (runR n ls) (errR n ls.length) w) := by
  obtain ⟨nk, na, nb, ndp, nins⟩ := n
  simp only at hk ha hb hd
  have hbx := node_box w ⟨nk, na, nb, ndp, nins⟩ NA nm nc
  have hb1 := (Below.refl _ w).alloc (Nat.le_refl _) (.cells #[.int .u8 (nk : Nat), .int .u8 (na : Nat), .int .i64 nb, .int .i64 ndp, .slice NA nm nc] 24)
  simp only at hbx
  have HC := Lib.hid fun w' => opFault_any nk na nb ndp NA nm nc ls.length nins w' hk ha hb hd hr
  have hI0 := hI
  obtain ⟨IA, ic, L, rfl, hL0⟩ := hI0
  clear hL0 L
  have HB1 := Lib.hid hb1; have HBX := Lib.hid hbx; have HI := Lib.hid hI
  clear hb1 hbx hI
  rcases errR_cases ⟨nk, na, nb, ndp, nins⟩ ls.length with ⟨he, _⟩ | ⟨he, _⟩ | ⟨he, hnum, hwant⟩
  · have hrr : runR ⟨nk, na, nb, ndp, nins⟩ ls = [] := by unfold runR; rw [he]; rfl
    rw [hrr]
    rw [he] at HC ⊢
    clear hrr he
    go_enter Try.func14, Try.ntmps14
    go_wp2_with fail
    refine (HC.out _).mono ?_; rintro e w2 ⟨rfl, hb2⟩
    have HB2 := Lib.hid (HB1.out.trans (hb2.mono HB1.out.size)); clear hb2
    dsimp only
    go_wp2_with fail
    go_ret2
    exact ⟨⟨_, rfl, RowV.nil _⟩, HB2.out⟩
  · have hrr : runR ⟨nk, na, nb, ndp, nins⟩ ls = [] := by unfold runR; rw [he]; rfl
    rw [hrr]
    rw [he] at HC ⊢
    clear hrr he
    go_enter Try.func14, Try.ntmps14
    go_wp2_with fail
    refine (HC.out _).mono ?_; rintro e w2 ⟨rfl, hb2⟩
    have HB2 := Lib.hid (HB1.out.trans (hb2.mono HB1.out.size)); clear hb2
    dsimp only
    go_wp2_with fail
    go_ret2
    exact ⟨⟨_, rfl, RowV.nil _⟩, HB2.out⟩
  · have hrr : runR ⟨nk, na, nb, ndp, nins⟩ ls = sortR (makesR ⟨nk, na, nb, ndp, nins⟩ ls) := by unfold runR; rw [he]; rfl
    rw [hrr]
    rw [he] at HC ⊢
    have hkk : 1 ≤ nk ∧ nk ≤ 10 := num_kind (n := ⟨nk, na, nb, ndp, nins⟩) hnum
    have hdoes := fun w' (hb' : Below w.heap.size w w') => does_v (w := w') ⟨nk, na, nb, ndp, nins⟩ NA nm nc (HI.out.below hb') hnum hwant hW hl hb.2
    have hml : (makesR ⟨nk, na, nb, ndp, nins⟩ ls).length ≤ 100000 := makes_len hwant hl
    have HD := Lib.hid hdoes; have HML := Lib.hid hml
    have HF := Lib.hid (does_func nk)
    clear hrr he hdoes hml hW hl hnum hwant
    go_enter Try.func14, Try.ntmps14
    go_wp2_with fail
    refine (HC.out _).mono ?_; rintro e w2 ⟨rfl, hb2⟩
    have hbox := HBX.out.below hb2 HBX.out.lt
    have HB2 := Lib.hid (HB1.out.trans (hb2.mono HB1.out.size)); have HBOX := Lib.hid hbox; clear hb2 hbox HB1 HBX
    dsimp only
    go_upto_region 4 with fail
    refine Free.wp_key (by kernel_rfl) (by kernel_rfl) (FR w2) (vtR w.heap.size nk) (fun vs => ⟨(Below.refl _ _).drew, by simp⟩) ?_ ?_
    · intro i o hi b vs a wa hold hpre hbi hF
      match i with
      | 0 =>
        cases hi
        refine Free.c_all rfl (Free.g_call _ _ rfl Try.func30 (by kernel_rfl) rfl [] (by rfl) ?_)
        exact (kinds_any wa).mono fun e w5 ⟨⟨m, he, ho⟩, hb5⟩ => ⟨_, he, trivial, hF.1.trans (hb5.mono hF.1.size), fun _ => ⟨m, Free.updw_self, ho⟩⟩
      | 1 =>
        cases hi
        have h0 : a.eval (.tmp 2) = .pointer (some ⟨w.heap.size, 0, none⟩) := (hold 2 (by decide)).trans rfl
        exact Free.c_all rfl (Free.g_field (v := .pointer (some ⟨w.heap.size, 0, none⟩)) _ _ _ rfl h0 (by go_simp) ⟨rfl, hF.step (by decide)⟩)
      | 2 =>
        cases hi
        have h0 : a.eval (.tmp 16) = .pointer (some ⟨w.heap.size, 0, none⟩) := (hpre 1 _ _ (by kernel_rfl) rfl rfl).2.2
        have hc := (HBOX.out.below hF.1 HBOX.out.lt).cell 0
        simp only [List.getElem?_cons_zero] at hc
        exact Free.c_all rfl (Free.g_load (v := .int .u8 (nk : Nat)) _ _ rfl h0 (by go_simp) ⟨rfl, hF.step (by decide)⟩)
      | 3 =>
        cases hi
        have h0 := hpre 0 _ _ (by kernel_rfl) rfl rfl
        have h1 : a.eval (.tmp 17) = .int .u8 (nk : Nat) := (hpre 2 _ _ (by kernel_rfl) rfl rfl).2.2
        obtain ⟨m, hm, ho⟩ := hF.2 h0.1
        exact Free.c_all rfl (m_lookup _ _ _ _ rfl _ _ (h0.2.1.trans hm) h1 (look_kind ho hkk.1 hkk.2) ⟨rfl, hF.step (by decide)⟩)
      | 4 =>
        cases hi
        have h0 : a.eval (.tmp 18) = fnV (doesF nk) := (hpre 3 _ _ (by kernel_rfl) rfl rfl).2.2
        exact Free.c_all rfl (Free.g_assign _ rfl ⟨h0, hF.step (by decide)⟩)
      | _ + 5 => cases hi
    · intro vs we hv hF
      have hlast : vs 4 = fnV (doesF nk) := hv 4 (by simp) (by rintro o ⟨⟩; rfl)
      have hbe := HB2.out.trans (hF.1.mono HB2.out.size)
      have hboxe := HBOX.out.below hF.1 HBOX.out.lt
      have hld := load_node (n := ⟨nk, na, nb, ndp, nins⟩) hboxe
      obtain ⟨m0, m1, m2, m3, m4⟩ := cells5 hboxe
      have hdo := HD.out we hbe
      have HDO := Lib.hid hdo; have HBE := Lib.hid hbe
      clear hF hv hdo hbe hboxe HB2 HBOX HD HC hld
      simp only [Free.puts, Nat.reduceAdd, hlast]
      generalize vs 0 = y0; generalize vs 1 = y1; generalize vs 2 = y2; generalize vs 3 = y3
      clear hlast
      generalize doesF nk = DF at *
      have hff := HF.out
      go_simp
      go_wp2_with fail
      refine HDO.out.mono ?_; rintro e w5 ⟨⟨v5, l5, rfl, hp, hr5⟩, hb5⟩
      have hs := sortR_iff.2 hp
      have hsv := sorted_v hr5 (by rw [hp.length_eq]; exact HML.out)
      rw [hs] at hsv
      have HSV := Lib.hid hsv; have HB5 := Lib.hid (HBE.out.trans (hb5.mono HBE.out.size))
      obtain ⟨A5, c5, rfl, _⟩ := hr5
      clear hs hsv hp hb5 hff m0 m1 m2 m3 m4 HDO
      dsimp only
      go_wp2_with fail
      refine HSV.out.mono ?_; rintro e w6 ⟨⟨v6, rfl, hr6⟩, hb6⟩
      have HR6 := Lib.hid hr6; have HB6 := Lib.hid (HB5.out.trans (hb6.mono HB5.out.size)); clear hr6 hb6
      dsimp only
      go_wp2_with fail
      go_ret2
      exact ⟨⟨_, rfl, HR6.out⟩, HB6.out⟩
end Op
end

section
open Go.ChangeShapes Go.WideShapes Go.ChangeAt Go.RowKit Go.BigFrame
set_option maxRecDepth 100000
theorem eq_int (d : Nat) (a b : Int) (w : World) : (Op.equalIn (d + 1) 3 (.int .i64 a) (.int .i64 b)).run Try.prog w = .ok (a == b) w := run_equalIn_int w d 3 .i64 .i64 a b Try.underlying3
theorem range3 : List.range' 0 3 = [0, 1, 2] := rfl
theorem eq3 (d : Nat) (x y z p q r : Int) (w : World) : (Op.equalIn (d + 2) 38 (.agg #[.int .i64 x, .int .i64 y, .int .i64 z]) (.agg #[.int .i64 p, .int .i64 q, .int .i64 r])).run Try.prog w = .ok (decide (x = p ∧ y = q ∧ z = r)) w := by
  have hu := Try.underlying38
  have hi : ∀ w, (isAgg 3).run Try.prog w = .ok false w := fun w => by go_simp
  unfold Op.equalIn
  simp [run_underlying hu, range3, part, hi, eq_int, Sem.run_bind]
  by_cases h1 : x = p
  · by_cases h2 : y = q
    · by_cases h3 : z = r
      · simp [h1, h2, h3]
      · simp [h1, h2, h3]
    · simp [h1, h2]
  · simp [h1]
theorem dec5 (a b : St) : decide (a = b) = (decide (a.d = b.d) && (decide (a.e = b.e) && decide (a.x = b.x ∧ a.y = b.y ∧ a.z = b.z))) := by
  rw [Bool.eq_iff_iff]
  simp [St.ext_iff']
theorem run_eq5 (a b : St) (w : World) : (Op.equalIn 10000 40 (.agg #[.int .i64 a.d, .int .i64 a.e, .int .i64 a.x, .int .i64 a.y, .int .i64 a.z]) (.agg #[.int .i64 b.d, .int .i64 b.e, .int .i64 b.x, .int .i64 b.y, .int .i64 b.z])).run Try.prog w = .ok (decide (a = b)) w := by
  have h := run_equalIn_agg (P := Try.prog) w 9999 40 #[.int .i64 a.d, .int .i64 a.e, .int .i64 a.x, .int .i64 a.y, .int .i64 a.z] #[.int .i64 b.d, .int .i64 b.e, .int .i64 b.x, .int .i64 b.y, .int .i64 b.z] (by kernel_rfl) (by kernel_rfl)
  have hf : (Try.prog.fieldsOf 40).toList = (Try.prog.fieldsOf 39).toList := by kernel_rfl
  rw [h, dec5]
  have e1 := fun a b w => eq_int 9998 a b w
  have e3 := fun x y z p q r w => eq3 9997 x y z p q r w
  have hi : ∀ w, (isAgg 3).run Try.prog w = .ok false w := fun w => by go_simp
  have hj : ∀ w, (isAgg 38).run Try.prog w = .ok true w := fun w => by go_simp
  have hs : ∀ w, (sizeOf 38).run Try.prog w = .ok 3 w := fun w => by go_simp
  obtain ⟨fs, hfs⟩ : ∃ fs, (Try.prog.fieldsOf 40).toList = fs := ⟨_, rfl⟩
  rw [hfs]
  have hu := Try.underlying40
  simp only [Program.fieldsOf, hu] at hfs
  subst hfs
  simp [Op.eqFields, part, hi, hj, hs, e1, e3, Sem.run_bind, go_sem]
  by_cases h0 : a.d = b.d <;> by_cases h1 : a.e = b.e <;> by_cases h2 : a.x = b.x <;> by_cases h3 : a.y = b.y <;> by_cases h4 : a.z = b.z <;> simp [h0, h1, h2, h3, h4]
section
variable {P : Program} {C : World → Prop} {K : Act → Prop} {a : Act} {o : Oper} {ops : Array Oper}
theorem q_bin {v p q : Value} (op : BinOp) (t u : TypeId) (x y : Operand) (ho : o.op = .binOp op t x y u) (hw : Region.wanted o (yielded ops a.tmps) = true) (hx : a.eval x = p) (hy : a.eval y = q)
    (hr : ∀ w', (do eqGuard op t x y p q; binOp op t p q : Sem Value).run P w' = .ok v w') (hk : K (a.put o.dst v)) :
    if Region.wanted o (yielded ops a.tmps) then o.quiet P a C K else K (a.put o.dst undef) := by
  rw [if_pos hw]
  refine ⟨v, fun w' hw' => ?_, hk⟩
  unfold Oper.quietAt execOp
  simp only [ho, hx, hy]
  rw [Sem.run_bind, hr w']
  simp only [Result.andThen_ok, Sem.run_pure, Oper.quietUpon]
  exact ⟨trivial, trivial⟩
end
def eqL (a b c p q r : Int) : Bool := decide (a = p ∧ b = q ∧ c = r)
/-- two times compared: one bool -/
def eqB (a b : St) : Bool := decide (a = b)
theorem eq_t (x y : Operand) (a b : St) : ∀ w, (do eqGuard .eql 40 x y (.agg #[.int .i64 a.d, .int .i64 a.e, .int .i64 a.x, .int .i64 a.y, .int .i64 a.z]) (.agg #[.int .i64 b.d, .int .i64 b.e, .int .i64 b.x, .int .i64 b.y, .int .i64 b.z]); binOp .eql 40 (.agg #[.int .i64 a.d, .int .i64 a.e, .int .i64 a.x, .int .i64 a.y, .int .i64 a.z]) (.agg #[.int .i64 b.d, .int .i64 b.e, .int .i64 b.x, .int .i64 b.y, .int .i64 b.z]) : Sem Value).run Try.prog w = .ok (.bool (eqB a b)) w := by
  intro w
  rw [Sem.run_bind, run_eqGuard_agg w _ _ _ _ _ _ (by kernel_rfl), Result.andThen_ok, run_eql_struct, run_eq5]
  rfl
theorem ne_t (x y : Operand) (a b : St) : ∀ w, (do eqGuard .neq 40 x y (.agg #[.int .i64 a.d, .int .i64 a.e, .int .i64 a.x, .int .i64 a.y, .int .i64 a.z]) (.agg #[.int .i64 b.d, .int .i64 b.e, .int .i64 b.x, .int .i64 b.y, .int .i64 b.z]); binOp .neq 40 (.agg #[.int .i64 a.d, .int .i64 a.e, .int .i64 a.x, .int .i64 a.y, .int .i64 a.z]) (.agg #[.int .i64 b.d, .int .i64 b.e, .int .i64 b.x, .int .i64 b.y, .int .i64 b.z]) : Sem Value).run Try.prog w = .ok (.bool (!eqB a b)) w := by
  intro w
  rw [Sem.run_bind, run_eqGuard_agg w _ _ _ _ _ _ (by kernel_rfl), Result.andThen_ok, run_neq_struct, run_eq5]
  rfl
theorem eq_l (x y : Operand) (a b c p q r : Int) : ∀ w, (do eqGuard .eql 38 x y (.agg #[.int .i64 a, .int .i64 b, .int .i64 c]) (.agg #[.int .i64 p, .int .i64 q, .int .i64 r]); binOp .eql 38 (.agg #[.int .i64 a, .int .i64 b, .int .i64 c]) (.agg #[.int .i64 p, .int .i64 q, .int .i64 r]) : Sem Value).run Try.prog w = .ok (.bool (eqL a b c p q r)) w := by
  intro w
  rw [Sem.run_bind, run_eqGuard_agg w _ _ _ _ _ _ (by kernel_rfl), Result.andThen_ok, run_eql_struct, eq3 9998]
  rfl
end

section
open Go.ChangeShapes Go.WideShapes Go.ChangeAt Go.RowKit Go.BigFrame
set_option maxRecDepth 100000
/-- of two numbers the greater, or the less -/
def pk (g : Bool) (m n : Int) : Int := if g then max m n else min m n
def St.pick (g : Bool) (a b : St) : St := if a.B b then ⟨a.d, pk g a.e b.e, pk g a.x b.x, pk g a.y b.y, pk g a.z b.z⟩ else St.zero
theorem pick_join (a b : St) : St.pick true a b = a.join b := by unfold St.pick St.join pk; rfl
theorem pick_meet (a b : St) : St.pick false a b = a.meet b := by unfold St.pick St.meet pk; rfl
section
variable {W : World} {g : Nat} {t : St}
theorem Holds.set (h : Holds W g t) (j : Nat) (v : Int) {t' : St} (ht : t.cells.set j (.int .i64 v) = t'.cells) : Holds (W.setCell ⟨g, j, none⟩ (.int .i64 v)) g t' := by
  have := Row.put h j (.int .i64 v)
  rw [ht] at this; exact this
theorem Holds.far {p : Addr} (h : Holds W g t) (hp : g ≠ p.block) (u : Value) : Holds (W.setCell p u) g t := Row.far h hp u
theorem Holds.all (h : Holds W g t) (a b c d e : Int) : Holds (((((W.setCell ⟨g, 0, none⟩ (.int .i64 a)).setCell ⟨g, 1, none⟩ (.int .i64 b)).setCell ⟨g, 2, none⟩ (.int .i64 c)).setCell ⟨g, 3, none⟩ (.int .i64 d)).setCell ⟨g, 4, none⟩ (.int .i64 e)) g ⟨a, b, c, d, e⟩ :=
  ((((Row.put h 0 (.int .i64 a)).put 1 (.int .i64 b)).put 2 (.int .i64 c)).put 3 (.int .i64 d)).put 4 (.int .i64 e)
theorem Holds.cells5 (h : Holds W g t) : W.cell? ⟨g, 0, none⟩ = some (.int .i64 t.d) ∧ W.cell? ⟨g, 1, none⟩ = some (.int .i64 t.e) ∧ W.cell? ⟨g, 2, none⟩ = some (.int .i64 t.x) ∧ W.cell? ⟨g, 3, none⟩ = some (.int .i64 t.y) ∧ W.cell? ⟨g, 4, none⟩ = some (.int .i64 t.z) :=
  ⟨h.at_ 0, h.at_ 1, h.at_ 2, h.at_ 3, h.at_ 4⟩
theorem Holds.free5 (h : Holds W g t) : W.frozen? ⟨g, 0, none⟩ = false ∧ W.frozen? ⟨g, 1, none⟩ = false ∧ W.frozen? ⟨g, 2, none⟩ = false ∧ W.frozen? ⟨g, 3, none⟩ = false ∧ W.frozen? ⟨g, 4, none⟩ = false :=
  ⟨Row.free h 0, Row.free h 1, Row.free h 2, Row.free h 3, Row.free h 4⟩
end
theorem pk_new {g : Bool} {m n : Int} (h : (decide (m < n) == g) = true) : pk g m n = n := by
  unfold pk
  cases g
  · simp at h; simp; omega
  · simp at h; simp; omega
theorem pk_old {g : Bool} {m n : Int} (h : (decide (m < n) == g) = false) : pk g m n = m := by
  unfold pk
  cases g
  · simp at h; simp; omega
  · simp at h; simp; omega
theorem right_is {f : FuncId} {t : St} {b : Bool} (hb : decide t.R = b) (h : ∀ w, Calls Try.prog f #[t.val] w fun e w' => e = .returned (.bool (decide t.R)) ∧ Below w.heap.size w w') : ∀ w, Calls Try.prog f #[t.val] w fun e w' => e = .returned (.bool b) ∧ Below w.heap.size w w' := by
  subst hb; exact h
theorem zero_made (w : World) : Holds (w.alloc (.cells #[.int .i64 0, .int .i64 0, .int .i64 0, .int .i64 0, .int .i64 0] 40)) w.heap.size St.zero := Holds.made w St.zero
theorem two_results {P : Program} {fn : Func} {p q : Tmp} {ty : TypeId} {v : Value} (h : fn.results = #[.cell p ty, .tmp q]) (tmps : Array Value) (w : World) (g : Nat) (t : TypeId) (cs : Array Value) (fr : Nat × Nat) (d : TypeDesc)
    (hp : tmps.getD p undef = .pointer (some ⟨g, 0, none⟩)) (hg : w.heap[g]? = some (.cells cs t fr))
    (hu : P.underlying ty = some d) (hd : (match d with | .struct _ | .array _ _ => true | _ => false) = true) (hi : (P.info? ty).map (·.size) = some cs.size) (hq : tmps.getD q undef = v) :
    (results fn tmps).run P w = .ok (.tuple #[.agg cs, v]) w := by
  have hp' : tmps[p]?.getD undef = .pointer (some ⟨g, 0, none⟩) := by simpa using hp
  have hq' : tmps[q]?.getD undef = v := by simpa using hq
  simp [results, h, hp', hq', asAddr, run_loadVar_row w g t ty cs fr d hg hu hd hi]
theorem below3 {w w' : World} {a b c : Obj} (h : Below (((w.alloc a).alloc b).alloc c).heap.size (((w.alloc a).alloc b).alloc c) w') : Below w.heap.size w w' :=
  ((((Below.refl _ _).alloc (Nat.le_refl _) _).alloc (by simp) _).alloc (by simp; omega) _).trans (h.mono (by simp; omega))
theorem below_set5 {w w' : World} {g : Nat} {p q r s t : Value} (h : Below w.heap.size w w') (hg : w.heap.size ≤ g) :
    Below w.heap.size w (((((w'.setCell ⟨g, 0, none⟩ p).setCell ⟨g, 1, none⟩ q).setCell ⟨g, 2, none⟩ r).setCell ⟨g, 3, none⟩ s).setCell ⟨g, 4, none⟩ t) :=
  ((((h.setCell hg _).setCell hg _).setCell hg _).setCell hg _).setCell hg _
end

section
open Go.ChangeShapes Go.WideShapes Go.ChangeAt Go.RowKit Go.BigFrame
set_option maxRecDepth 100000
/-- the time so far -/
def St.sofar (g : Bool) (a b : St) (k : Nat) : St := ⟨a.d, pk g a.e b.e, if 0 < k then pk g a.x b.x else a.x, if 1 < k then pk g a.y b.y else a.y, if 2 < k then pk g a.z b.z else a.z⟩
theorem sofar_3 (g : Bool) (a b : St) (h : a.B b) : St.sofar g a b 3 = St.pick g a b := by unfold St.pick; rw [if_pos h]; rfl
theorem same_holds {w : World} {g : Nat} {t t' : St} (h : Holds w g t) (e : t = t') : Holds w g t' := e ▸ h
end

section
theorem wp_tail {P : Program} {id : Nat} {Q : Exit → Act → World → Prop} {a : Act} {w : World} {l : List Oper} (n : Nat) (hm : P.follows .mixedOrders = true) (hB : Region.lexTailB .any l.toArray n = true)
    (h : wpStill P l.toArray (w.drewN 1) (fun a' => wpList P l.toArray Q (l.drop n) a' (w.drewN 1)) (l.take n) a) : (Code.region id l.toArray true).wp P Q a w :=
  wp_region_still_tail n hm hB h
end

section
open Go.ChangeShapes Go.WideShapes Go.ChangeAt Go.RowKit Go.BigFrame
set_option maxRecDepth 100000
def nr (x : Int) : Int := if 15 < if x < 0 then 0 else x then 15 else if x < 0 then 0 else x
theorem nr_eq {x : Int} : nr x = x ↔ 0 ≤ x ∧ x < 16 := by
  unfold nr
  by_cases h : x < 0
  · simp only [if_pos h]; rw [if_neg (by omega)]; omega
  · simp only [if_neg h]
    by_cases h2 : 15 < x
    · rw [if_pos h2]; omega
    · rw [if_neg h2]; omega
def nk (k j : Nat) (x : Int) : Int := if j < k then nr x else 0
theorem row_set3 {w : World} {b : Nat} {t : TypeId} {p q r p' q' r' : Value} (h : Row w b t [p, q, r]) : Row (((w.setCell ⟨b, 0, none⟩ p').setCell ⟨b, 1, none⟩ q').setCell ⟨b, 2, none⟩ r') b t [p', q', r'] :=
  ((h.put 0 p').put 1 q').put 2 r'
set_option maxHeartbeats 1000000 in
theorem nearest_any (d e x y z : Int) (n : Nat) (w : World) (hd : d = n) (h3 : n ≤ 3) :
    Calls Try.prog 48 #[.agg #[.int .i64 d, .int .i64 e, .int .i64 x, .int .i64 y, .int .i64 z]] w fun e w' => e = .returned (.agg #[.int .i64 (nk n 0 x), .int .i64 (nk n 1 y), .int .i64 (nk n 2 z)]) ∧ Below w.heap.size w w' := by
  subst hd
  go_enter Try.func48, Try.ntmps48
  go_wp2_with fail
  go_loopw [7] (fun i wr => ∃ (k : Nat), k ≤ n ∧ i = .int .i64 k ∧ Row wr w.heap.size 40 [.int .i64 n, .int .i64 e, .int .i64 x, .int .i64 y, .int .i64 z] ∧ Row wr (w.heap.size + 1) 38 [.int .i64 0, .int .i64 0, .int .i64 0] ∧ Row wr (w.heap.size + 2) 38 [.int .i64 (nk k 0 x), .int .i64 (nk k 1 y), .int .i64 (nk k 2 z)] ∧ Below w.heap.size w wr) (fun i _ => n - (intOf i).toNat)
  case atStart =>
    refine ⟨0, by omega, rfl, ((Row.made w 40 [.int .i64 (n : Int), .int .i64 e, .int .i64 x, .int .i64 y, .int .i64 z]).alloc _).alloc _, ?_, ?_, ?_⟩
    · have := (Row.made (w.alloc (.cells #[.int .i64 (n : Int), .int .i64 e, .int .i64 x, .int .i64 y, .int .i64 z] 40)) 38 [.int .i64 0, .int .i64 0, .int .i64 0]).alloc (.cells #[.int .i64 0, .int .i64 0, .int .i64 0] 38)
      rwa [size_alloc] at this
    · have := Row.made ((w.alloc (.cells #[.int .i64 (n : Int), .int .i64 e, .int .i64 x, .int .i64 y, .int .i64 z] 40)).alloc (.cells #[.int .i64 0, .int .i64 0, .int .i64 0] 38)) 38 [.int .i64 0, .int .i64 0, .int .i64 0]
      rwa [size_alloc, size_alloc] at this
    · exact (((Below.refl _ _).alloc (Nat.le_refl _) _).alloc (by simp) _).alloc (by simp; omega) _
  case round =>
    obtain ⟨k, hk, rfl, hra, hrr, hrb, hbw⟩ := hrel
    by_cases hlt : k < n
    · have a2 := hra.cell 2; have a3 := hra.cell 3; have a4 := hra.cell 4
      have b0 := hrb.cell 0; have b1 := hrb.cell 1; have b2 := hrb.cell 2
      have f0 := hrb.free 0; have f1 := hrb.free 1; have f2 := hrb.free 2
      simp only [List.getElem?_cons_succ, List.getElem?_cons_zero] at a2 a3 a4 b0 b1 b2
      have HRA := Lib.hid hra; have HRR := Lib.hid hrr; have HRB := Lib.hid hrb; have HBW := Lib.hid hbw; clear hra hrr hrb hbw
      have hcase : k = 0 ∨ k = 1 ∨ k = 2 := by omega
      rcases hcase with rfl | rfl | rfl
      · go_wp2_with fail
        go_roundw
        case rel => exact ⟨1, by omega, rfl, HRA.out.far (by simp; omega) _, HRR.out.far (by simp) _, HRB.out.put 0 _, HBW.out.setCell (by simp; omega) _⟩
        case measure => simp [intOf]; omega
      · go_wp2_with fail
        go_roundw
        case rel => exact ⟨2, by omega, rfl, HRA.out.far (by simp; omega) _, HRR.out.far (by simp) _, HRB.out.put 1 _, HBW.out.setCell (by simp; omega) _⟩
        case measure => simp [intOf]; omega
      · go_wp2_with fail
        go_roundw
        case rel => exact ⟨3, by omega, rfl, HRA.out.far (by simp; omega) _, HRR.out.far (by simp) _, HRB.out.put 2 _, HBW.out.setCell (by simp; omega) _⟩
        case measure => simp [intOf]; omega
    · have hkn : k = n := by omega
      subst hkn
      have b0 := hrb.cell 0; have b1 := hrb.cell 1; have b2 := hrb.cell 2
      have r0 := hrr.cell 0; have r1 := hrr.cell 1; have r2 := hrr.cell 2
      have f0 := hrr.free 0; have f1 := hrr.free 1; have f2 := hrr.free 2
      simp only [List.getElem?_cons_succ, List.getElem?_cons_zero] at b0 b1 b2 r0 r1 r2
      have HRR := Lib.hid hrr; have HRB := Lib.hid hrb; have HBW := Lib.hid hbw; clear hra hrr hrb hbw
      obtain ⟨p, hp⟩ : ∃ p, p = nk k 0 x := ⟨_, rfl⟩
      obtain ⟨q, hq⟩ : ∃ q, q = nk k 1 y := ⟨_, rfl⟩
      obtain ⟨r, hr⟩ : ∃ r, r = nk k 2 z := ⟨_, rfl⟩
      rw [← hp] at b0; rw [← hq] at b1; rw [← hr] at b2
      have HP := Lib.hid hp; have HQ := Lib.hid hq; have HR := Lib.hid hr; clear hp hq hr
      go_wp2_with fail
      refine bodyPost_ret (results_cell_row rfl _ _ (w.heap.size + 1) 38 _ (0, 0) _ rfl (row_set3 HRR.out) Try.underlying38 rfl (by kernel_rfl)) rfl ?_
      exact ⟨by rw [HP.out, HQ.out, HR.out], ((HBW.out.setCell (by simp) _).setCell (by simp) _).setCell (by simp) _⟩
end

section
open Go.ChangeShapes Go.WideShapes Go.ChangeAt Go.RowKit Go.BigFrame
set_option maxRecDepth 100000
theorem R_near (t : St) (n : Nat) (hd : t.d = n) (h3 : n ≤ 3) (h0 : 0 ≤ t.e) (h1 : t.e < 1000) : (t.x = nk n 0 t.x ∧ t.y = nk n 1 t.y ∧ t.z = nk n 2 t.z) ↔ t.R := by
  have k : ∀ (j : Nat) (v : Int), v = nk n j v ↔ (0 ≤ v ∧ v < 16 ∧ (t.d ≤ j → v = 0)) := by
    intro j v
    unfold nk
    by_cases h : j < n
    · rw [if_pos h, eq_comm, nr_eq]; omega
    · rw [if_neg h]; omega
  rw [k 0, k 1, k 2]
  unfold St.R
  omega
/-- three numbers against three others, in the walk's own spelling -/
def same3 (x y z a b c : Int) : Bool := decide (x = a ∧ y = b ∧ z = c)
set_option maxHeartbeats 1000000 in
theorem right_any (t : St) (w : World) : Calls Try.prog 26 #[t.val] w fun e w' => e = .returned (.bool (decide t.R)) ∧ Below w.heap.size w w' := by
  by_cases hd : t.d < 0 ∨ 3 < t.d ∨ t.e < 0 ∨ 1000 ≤ t.e
  · have hf : decide t.R = false := by rw [decide_eq_false_iff_not]; unfold St.R; omega
    rw [hf]; clear hf
    obtain ⟨d, e, x, y, z⟩ := t
    unfold St.val
    simp only at hd ⊢
    have hcase : d < 0 ∨ (0 ≤ d ∧ 3 < d) ∨ (0 ≤ d ∧ d ≤ 3 ∧ e < 0) ∨ (0 ≤ d ∧ d ≤ 3 ∧ 0 ≤ e ∧ 1000 ≤ e) := by omega
    clear hd
    rcases hcase with h | ⟨h, h2⟩ | ⟨h, h2, h3⟩ | ⟨h, h2, h3, h4⟩
    · have t1 : decide (0 ≤ d) = false := by simp; omega
      have t1' : decide (d ≥ 0) = false := by simp; omega
      go_enter Try.func26, Try.ntmps26
      go_wp2_with fail
      go_quiet (fail)
      go_wp2_with fail
      go_ret
      exact ⟨rfl, below_drewN ((Below.refl _ _).alloc (Nat.le_refl _) _) _⟩
    · have t1 : decide (d ≤ 3) = false := by simp; omega
      go_enter Try.func26, Try.ntmps26
      go_wp2_with fail
      go_quiet (fail)
      go_wp2_with fail
      go_ret
      exact ⟨rfl, below_drewN ((Below.refl _ _).alloc (Nat.le_refl _) _) _⟩
    · have t1 : decide (0 ≤ e) = false := by simp; omega
      have t1' : decide (e ≥ 0) = false := by simp; omega
      go_enter Try.func26, Try.ntmps26
      go_wp2_with fail
      go_quiet (fail)
      go_wp2_with fail
      go_ret
      exact ⟨rfl, below_drewN ((Below.refl _ _).alloc (Nat.le_refl _) _) _⟩
    · have t1 : decide (e < 1000) = false := by simp; omega
      go_enter Try.func26, Try.ntmps26
      go_wp2_with fail
      go_quiet (fail)
      go_wp2_with fail
      go_ret
      exact ⟨rfl, below_drewN ((Below.refl _ _).alloc (Nat.le_refl _) _) _⟩
  · obtain ⟨n, hn⟩ : ∃ n : Nat, t.d = n := ⟨t.d.toNat, by omega⟩
    have hr := R_near t n hn (by omega) (by omega) (by omega)
    have hcall := fun w => nearest_any t.d t.e t.x t.y t.z n w hn (by omega)
    have hdec : decide t.R = decide (t.x = nk n 0 t.x ∧ t.y = nk n 1 t.y ∧ t.z = nk n 2 t.z) := by rw [decide_eq_decide]; exact hr.symm
    rw [hdec, show decide (t.x = nk n 0 t.x ∧ t.y = nk n 1 t.y ∧ t.z = nk n 2 t.z) = eqL t.x t.y t.z (nk n 0 t.x) (nk n 1 t.y) (nk n 2 t.z) from rfl]; clear hdec hr
    obtain ⟨d, e, x, y, z⟩ := t
    unfold St.val
    simp only at hd hn hcall ⊢
    have g0 : 0 ≤ d := by omega
    have g1 : d ≤ 3 := by omega
    have g2 : 0 ≤ e := by omega
    have g3 : e < 1000 := by omega
    clear hd hn
    generalize nk n 0 x = p at *
    generalize nk n 1 y = q at *
    generalize nk n 2 z = r at *
    have HC := Lib.hid hcall; clear hcall
    go_enter Try.func26, Try.ntmps26
    go_wp2_with fail
    have hT : Holds (w.alloc (.cells #[.int .i64 d, .int .i64 e, .int .i64 x, .int .i64 y, .int .i64 z] 40)) w.heap.size ⟨d, e, x, y, z⟩ := Holds.made w ⟨d, e, x, y, z⟩
    have HT := Lib.hid hT; clear hT
    refine wp_region_below (by kernel_rfl) (by kernel_rfl) ?_
    repeat (refine wpQuiet_step (fun K hK => ?_); (first
      | ((first
        | (refine q_load (p := .pointer (some ⟨w.heap.size, 0, none⟩)) 40 _ rfl rfl rfl (load_t HT.out) ?_)
        | (refine q_load (p := .pointer (some ⟨w.heap.size, 2, none⟩)) 38 _ rfl rfl rfl (load_l HT.out) ?_)
        | (refine q_load (p := .pointer (some ⟨w.heap.size, 0, none⟩)) 3 _ rfl rfl rfl (load_d HT.out) ?_)
        | (refine q_load (p := .pointer (some ⟨w.heap.size, 1, none⟩)) 3 _ rfl rfl rfl (load_e HT.out) ?_)
        | (refine q_load (p := .pointer (some ⟨w.heap.size, 2, none⟩)) 3 _ rfl rfl rfl (load_x HT.out) ?_)
        | (refine q_load (p := .pointer (some ⟨w.heap.size, 3, none⟩)) 3 _ rfl rfl rfl (load_y HT.out) ?_)
        | (refine q_load (p := .pointer (some ⟨w.heap.size, 4, none⟩)) 3 _ rfl rfl rfl (load_z HT.out) ?_)
        | (refine q_bin _ _ _ _ _ rfl rfl rfl rfl (eq_l _ _ _ _ _ _ _ _) ?_)); go_simp; (with_reducible refine hK _ ?_))
      | (go_simp; (first
        | (with_reducible refine hK _ ?_)
        | (with_reducible refine ⟨_, fun _ _ => rfl, hK _ ?_⟩)
        | (with_reducible refine ⟨_, fun _ hb => (HC.out _).mono fun _ _ h => ⟨h.1, hb.trans (h.2.mono (by simpa using hb.size))⟩, hK _ ?_⟩)))); clear hK K)
    refine wpQuiet_nil ?_
    intro w2 hb2
    go_wp2_with fail
    go_ret
    exact ⟨rfl, ((Below.refl _ _).alloc (Nat.le_refl _) _).trans (hb2.mono (by simp))⟩
end

section
open Go.ChangeShapes Go.WideShapes Go.ChangeAt Go.RowKit Go.BigFrame
set_option maxRecDepth 100000
theorem greater_any (m n : Int) (w : World) : Calls Try.prog 75 #[.int .i64 m, .int .i64 n] w fun e w' => e = .returned (.int .i64 (pk true m n)) ∧ w' = w := by
  by_cases h : m < n
  · have h2 : pk true m n = n := by unfold pk; simp; omega
    rw [h2]; clear h2
    go_enter Try.func75, Try.ntmps75
    go_wp2_with fail
    go_ret
    exact ⟨rfl, rfl⟩
  · have h2 : pk true m n = m := by unfold pk; simp; omega
    rw [h2]; clear h2
    go_enter Try.func75, Try.ntmps75
    go_wp2_with fail
    go_ret
    exact ⟨rfl, rfl⟩
set_option maxHeartbeats 1000000 in
theorem both_no_greater (a b : St) (w : World) (h : ¬ a.B b) :
    Calls Try.prog 74 #[a.val, b.val, .func (.func 75) #[] #[]] w fun e w' => e = .returned (.tuple #[St.zero.val, .bool false]) ∧ Below w.heap.size w w' := by
  unfold St.B at h
  by_cases ha : a.R
  · by_cases hb : b.R
    · have hd : ¬ a.d = b.d := fun e => h ⟨ha, hb, e⟩
      have HA := Lib.hid (right_is (decide_eq_true ha) (right_any a)); have HB := Lib.hid (right_is (decide_eq_true hb) (right_any b)); clear ha hb h
      obtain ⟨d, e, x, y, z⟩ := a
      obtain ⟨d', e', x', y', z'⟩ := b
      unfold St.val at *
      simp only at hd HA HB ⊢
      have hd' : (d != d') = true := by simpa using hd
      clear hd
      have hz := zero_made ((w.alloc (.cells #[.int .i64 d, .int .i64 e, .int .i64 x, .int .i64 y, .int .i64 z] 40)).alloc (.cells #[.int .i64 d', .int .i64 e', .int .i64 x', .int .i64 y', .int .i64 z'] 40))
      rw [size_alloc, size_alloc] at hz
      have HZ := Lib.hid hz; clear hz
      go_enter Try.func74, Try.ntmps74
      go_wp2_with fail
      refine (HA.out _).mono ?_; rintro e w1 ⟨rfl, hb1⟩
      obtain ⟨hc1, hf1⟩ := old_cells hb1
      have HB1 := Lib.hid hb1; clear hb1
      go_wp2_with fail
      refine (HB.out _).mono ?_; rintro e w2 ⟨rfl, hb2⟩
      have hb12 := HB1.out.trans (hb2.mono HB1.out.size)
      clear hc1 hf1
      obtain ⟨hc1, hf1⟩ := old_cells hb12
      have HB12 := Lib.hid hb12; clear hb12 hb2
      go_wp2_with fail
      refine bodyPost_ret (v := .tuple #[.agg #[.int .i64 0, .int .i64 0, .int .i64 0, .int .i64 0, .int .i64 0], .bool false]) (two_results rfl _ _ _ 40 _ (0, 0) _ rfl (Holds.all (HZ.out.below HB12.out) 0 0 0 0 0) Try.underlying40 rfl (by kernel_rfl) rfl) rfl ?_
      exact ⟨rfl, below_set5 (g := w.heap.size + 1 + 1) (below3 HB12.out) (by omega)⟩
    · have HA := Lib.hid (right_is (decide_eq_true ha) (right_any a)); have HB := Lib.hid (right_is (decide_eq_false hb) (right_any b)); clear ha hb h
      obtain ⟨d, e, x, y, z⟩ := a
      obtain ⟨d', e', x', y', z'⟩ := b
      unfold St.val at *
      simp only at HA HB ⊢
      have hz := zero_made ((w.alloc (.cells #[.int .i64 d, .int .i64 e, .int .i64 x, .int .i64 y, .int .i64 z] 40)).alloc (.cells #[.int .i64 d', .int .i64 e', .int .i64 x', .int .i64 y', .int .i64 z'] 40))
      rw [size_alloc, size_alloc] at hz
      have HZ := Lib.hid hz; clear hz
      go_enter Try.func74, Try.ntmps74
      go_wp2_with fail
      refine (HA.out _).mono ?_; rintro e w1 ⟨rfl, hb1⟩
      obtain ⟨hc1, hf1⟩ := old_cells hb1
      have HB1 := Lib.hid hb1; clear hb1
      go_wp2_with fail
      refine (HB.out _).mono ?_; rintro e w2 ⟨rfl, hb2⟩
      have hb12 := HB1.out.trans (hb2.mono HB1.out.size)
      clear hc1 hf1
      obtain ⟨hc1, hf1⟩ := old_cells hb12
      have HB12 := Lib.hid hb12; clear hb12 hb2
      go_wp2_with fail
      refine bodyPost_ret (v := .tuple #[.agg #[.int .i64 0, .int .i64 0, .int .i64 0, .int .i64 0, .int .i64 0], .bool false]) (two_results rfl _ _ _ 40 _ (0, 0) _ rfl (Holds.all (HZ.out.below HB12.out) 0 0 0 0 0) Try.underlying40 rfl (by kernel_rfl) rfl) rfl ?_
      exact ⟨rfl, below_set5 (g := w.heap.size + 1 + 1) (below3 HB12.out) (by omega)⟩
  · have HA := Lib.hid (right_is (decide_eq_false ha) (right_any a)); clear ha h
    obtain ⟨d, e, x, y, z⟩ := a
    obtain ⟨d', e', x', y', z'⟩ := b
    unfold St.val at *
    simp only at HA ⊢
    have hz := zero_made ((w.alloc (.cells #[.int .i64 d, .int .i64 e, .int .i64 x, .int .i64 y, .int .i64 z] 40)).alloc (.cells #[.int .i64 d', .int .i64 e', .int .i64 x', .int .i64 y', .int .i64 z'] 40))
    rw [size_alloc, size_alloc] at hz
    have HZ := Lib.hid hz; clear hz
    go_enter Try.func74, Try.ntmps74
    go_wp2_with fail
    refine (HA.out _).mono ?_; rintro e w1 ⟨rfl, hb1⟩
    obtain ⟨hc1, hf1⟩ := old_cells hb1
    have HB1 := Lib.hid hb1; clear hb1
    go_wp2_with fail
    refine bodyPost_ret (v := .tuple #[.agg #[.int .i64 0, .int .i64 0, .int .i64 0, .int .i64 0, .int .i64 0], .bool false]) (two_results rfl _ _ _ 40 _ (0, 0) _ rfl (Holds.all (HZ.out.below HB1.out) 0 0 0 0 0) Try.underlying40 rfl (by kernel_rfl) rfl) rfl ?_
    exact ⟨rfl, below_set5 (g := w.heap.size + 1 + 1) (below3 HB1.out) (by omega)⟩
end
end Go.Proofs.Ytkhmefbmffpkcaa
