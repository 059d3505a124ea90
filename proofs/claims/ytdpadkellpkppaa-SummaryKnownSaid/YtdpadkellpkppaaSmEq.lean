/- Summaries compared as values; summaries that come in. -/
import Derived.Test.YtdpadkellpkppaaSmA
import Derived.Test.YtdpadkellpkppaaStOpen
import Derived.Laws.StructEq
namespace Go.Proofs.Ytdpadkellpkppaa
open Go.ChangeShapes Go.WideShapes Go.ChangeAt Go.RowKit Go.BigFrame
set_option linter.unusedVariables false
set_option maxRecDepth 100000
theorem dec7 (a b : Sm) : decide (a = b) = (decide (a.fr = b.fr) && (decide (a.to = b.to) && (decide (a.kp = b.kp) && (decide (a.ad = b.ad) && decide (a.t0 = b.t0 ∧ a.t1 = b.t1 ∧ a.t2 = b.t2))))) := by
  rw [Bool.eq_iff_iff]
  simp [Sm.ext_iff']
theorem run_eq7 (a b : Sm) (w : World) : (Op.equalIn 10000 24 a.v b.v).run Try.prog w = .ok (decide (a = b)) w := by
  have h := run_equalIn_agg (P := Try.prog) w 9999 24 #[.int .i64 a.fr, .int .i64 a.to, .int .i64 a.kp, .int .i64 a.ad, .int .i64 a.t0, .int .i64 a.t1, .int .i64 a.t2] #[.int .i64 b.fr, .int .i64 b.to, .int .i64 b.kp, .int .i64 b.ad, .int .i64 b.t0, .int .i64 b.t1, .int .i64 b.t2] (by kernel_rfl) (by kernel_rfl)
  unfold Sm.v
  rw [h, dec7]
  have e1 := fun a b w => eq_int 9998 a b w
  have e3 := fun x y z p q r w => eq3 9997 x y z p q r w
  have hi : ∀ w, (isAgg 3).run Try.prog w = .ok false w := fun w => by go_simp
  have hj : ∀ w, (isAgg 22).run Try.prog w = .ok true w := fun w => by go_simp
  have hs : ∀ w, (sizeOf 22).run Try.prog w = .ok 3 w := fun w => by go_simp
  obtain ⟨fs, hfs⟩ : ∃ fs, (Try.prog.fieldsOf 24).toList = fs := ⟨_, rfl⟩
  rw [hfs]
  have hu := Try.underlying24
  simp only [Program.fieldsOf, hu] at hfs
  subst hfs
  simp [Op.eqFields, part, hi, hj, hs, e1, e3, Sem.run_bind, go_sem]
  by_cases h0 : a.fr = b.fr
  · by_cases h1 : a.to = b.to
    · by_cases h2 : a.kp = b.kp
      · by_cases h3 : a.ad = b.ad
        · by_cases h4 : a.t0 = b.t0
          · by_cases h5 : a.t1 = b.t1
            · by_cases h6 : a.t2 = b.t2
              · simp [h0, h1, h2, h3, h4, h5, h6]
              · simp [h0, h1, h2, h3, h4, h5, h6]
            · simp [h0, h1, h2, h3, h4, h5]
          · simp [h0, h1, h2, h3, h4]
        · simp [h0, h1, h2, h3]
      · simp [h0, h1, h2]
    · simp [h0, h1]
  · simp [h0]
theorem run_eq7r (a b : Sm) (w : World) : (Op.equalIn 10000 30 a.v b.v).run Try.prog w = .ok (decide (a = b)) w := by
  have h := run_equalIn_agg (P := Try.prog) w 9999 30 #[.int .i64 a.fr, .int .i64 a.to, .int .i64 a.kp, .int .i64 a.ad, .int .i64 a.t0, .int .i64 a.t1, .int .i64 a.t2] #[.int .i64 b.fr, .int .i64 b.to, .int .i64 b.kp, .int .i64 b.ad, .int .i64 b.t0, .int .i64 b.t1, .int .i64 b.t2] (by kernel_rfl) (by kernel_rfl)
  unfold Sm.v
  rw [h, dec7]
  have e1 := fun a b w => eq_int 9998 a b w
  have e3 := fun x y z p q r w => eq3 9997 x y z p q r w
  have hi : ∀ w, (isAgg 3).run Try.prog w = .ok false w := fun w => by go_simp
  have hj : ∀ w, (isAgg 22).run Try.prog w = .ok true w := fun w => by go_simp
  have hs : ∀ w, (sizeOf 22).run Try.prog w = .ok 3 w := fun w => by go_simp
  obtain ⟨fs, hfs⟩ : ∃ fs, (Try.prog.fieldsOf 30).toList = fs := ⟨_, rfl⟩
  rw [hfs]
  have hu := Try.underlying30
  simp only [Program.fieldsOf, hu] at hfs
  subst hfs
  simp [Op.eqFields, part, hi, hj, hs, e1, e3, Sem.run_bind, go_sem]
  by_cases h0 : a.fr = b.fr
  · by_cases h1 : a.to = b.to
    · by_cases h2 : a.kp = b.kp
      · by_cases h3 : a.ad = b.ad
        · by_cases h4 : a.t0 = b.t0
          · by_cases h5 : a.t1 = b.t1
            · by_cases h6 : a.t2 = b.t2
              · simp [h0, h1, h2, h3, h4, h5, h6]
              · simp [h0, h1, h2, h3, h4, h5, h6]
            · simp [h0, h1, h2, h3, h4, h5]
          · simp [h0, h1, h2, h3, h4]
        · simp [h0, h1, h2, h3]
      · simp [h0, h1, h2]
    · simp [h0, h1]
  · simp [h0]
/-- two summaries compared: one bool -/
def eqS (a b : Sm) : Bool := decide (a = b)
theorem eq_s (x y : Operand) (a b : Sm) : ∀ w, (do eqGuard .eql 24 x y a.v b.v; binOp .eql 24 a.v b.v : Sem Value).run Try.prog w = .ok (.bool (eqS a b)) w := by
  intro w
  rw [Sem.run_bind, run_eqGuard_agg w _ _ _ _ _ _ (by kernel_rfl), Result.andThen_ok, run_eql_struct, run_eq7]
  rfl
theorem ne_s (x y : Operand) (a b : Sm) : ∀ w, (do eqGuard .neq 24 x y a.v b.v; binOp .neq 24 a.v b.v : Sem Value).run Try.prog w = .ok (.bool (!eqS a b)) w := by
  intro w
  rw [Sem.run_bind, run_eqGuard_agg w _ _ _ _ _ _ (by kernel_rfl), Result.andThen_ok, run_neq_struct, run_eq7]
  rfl
theorem eq_sr (x y : Operand) (a b : Sm) : ∀ w, (do eqGuard .eql 30 x y a.v b.v; binOp .eql 30 a.v b.v : Sem Value).run Try.prog w = .ok (.bool (eqS a b)) w := by
  intro w
  rw [Sem.run_bind, run_eqGuard_agg w _ _ _ _ _ _ (by kernel_rfl), Result.andThen_ok, run_eql_struct, run_eq7r]
  rfl
theorem ne_sr (x y : Operand) (a b : Sm) : ∀ w, (do eqGuard .neq 30 x y a.v b.v; binOp .neq 30 a.v b.v : Sem Value).run Try.prog w = .ok (.bool (!eqS a b)) w := by
  intro w
  rw [Sem.run_bind, run_eqGuard_agg w _ _ _ _ _ _ (by kernel_rfl), Result.andThen_ok, run_neq_struct, run_eq7r]
  rfl
theorem eqs_same (x y : Operand) (a : Sm) : ∀ w, (do eqGuard .eql 24 x y a.v a.v; binOp .eql 24 a.v a.v : Sem Value).run Try.prog w = .ok (.bool true) w := by
  intro w; rw [eq_s x y a a w]; unfold eqS; rw [decide_eq_true rfl]
theorem eqsr_same (x y : Operand) (a : Sm) : ∀ w, (do eqGuard .eql 30 x y a.v a.v; binOp .eql 30 a.v a.v : Sem Value).run Try.prog w = .ok (.bool true) w := by
  intro w; rw [eq_sr x y a a w]; unfold eqS; rw [decide_eq_true rfl]
theorem i64_wf {n : Int} (h : (Lit.int .i64 n).wf = true) : -9223372036854775808 ≤ n ∧ n ≤ 9223372036854775807 := by
  simpa [Lit.wf, IntKind.min, IntKind.max, IntKind.signed, IntKind.bits] using h
theorem cells_sum : Try.prog.cellsOf 24 = 7 := by kernel_rfl
theorem open_sum {H : Type} {enc : TypeId × Value → H} {W : World} {base : Nat} {v : Value} {d : DataW H} {p : List MemPlace}
    (hok : Value.okWide Try.prog W .any base 24 v) (h : DataW.Trod enc Try.prog W 0 (fun _ => true) true 24 v d p) : ∃ s : Sm, v = s.v := by
  obtain ⟨cs, rfl, hsz⟩ := okWide_struct Try.underlying24 hok
  obtain ⟨l⟩ := cs
  match l, hsz.trans cells_sum with
  | [c0, c1, c2, c3, c4, c5, c6], _ =>
    obtain ⟨fuel, hf⟩ := h
    obtain ⟨xs, n, _, hx, _, hlen, hg⟩ := DataW.trod_struct Try.underlying24 hf
    match xs, hlen with
    | [y0, y1, y2, y3, y4], _ =>
      have h0 : DataW.trod enc Try.prog W 0 (fun _ => true) true n 3 [c0] = some y0 := hg 0 _ rfl
      have h1 : DataW.trod enc Try.prog W 0 (fun _ => true) true n 3 [c1] = some y1 := hg 1 _ rfl
      have h2 : DataW.trod enc Try.prog W 0 (fun _ => true) true n 3 [c2] = some y2 := hg 2 _ rfl
      have h3 : DataW.trod enc Try.prog W 0 (fun _ => true) true n 3 [c3] = some y3 := hg 3 _ rfl
      have h4 : DataW.trod enc Try.prog W 0 (fun _ => true) true n 22 [c4, c5, c6] = some y4 := hg 4 _ rfl
      obtain ⟨z0, z1, z2, m, -, k0, k1, k2⟩ := trod_array3 Try.underlying22 cells_int h4
      obtain ⟨n0, e0, -, -⟩ := DataW.trod_int Try.underlying3 h0
      obtain ⟨n1, e1, -, -⟩ := DataW.trod_int Try.underlying3 h1
      obtain ⟨n2, e2, -, -⟩ := DataW.trod_int Try.underlying3 h2
      obtain ⟨n3, e3, -, -⟩ := DataW.trod_int Try.underlying3 h3
      obtain ⟨n4, e4, -, -⟩ := DataW.trod_int Try.underlying3 k0
      obtain ⟨n5, e5, -, -⟩ := DataW.trod_int Try.underlying3 k1
      obtain ⟨n6, e6, -, -⟩ := DataW.trod_int Try.underlying3 k2
      cases e0; cases e1; cases e2; cases e3; cases e4; cases e5; cases e6
      exact ⟨⟨n0, n1, n2, n3, n4, n5, n6⟩, rfl⟩
end Go.Proofs.Ytdpadkellpkppaa
